import Derived.Test.YtnboipekkahmnaaGreatDoorD13
import Derived.Deep.Upon
set_option maxHeartbeats 8000000
set_option maxRecDepth 100000
namespace Go.Proofs.YtnboipekkahmnaaGreatDoor
section
open Go.RowKit Go.Joins Go.Shelf
theorem zHC {l:List Chg} {key:ByteArray} {c:Chg} (h:qB l key=some c):c∈l:=by
 unfold qB at h;split at h
 ·exact List.mem_of_getElem? h
 ·cases h
theorem zMo (l:Rws) (key:ByteArray):valR l key=(⟨#[]⟩,false)∨∃ r∈l,valR l key=(r.2,true):=by
 unfold valR;split
 ·rename_i r h;exact .inr ⟨r,List.mem_of_find?_eq_some h,rfl⟩
 ·exact .inl rfl
theorem uU {P:Rws} {chs:List Chg} (h:OkQ P chs) (rds:Rws) (key:ByteArray):(getP chs rds P key).1.size<=40:=by
 unfold getP;split
 ·split
  ·rename_i c hc;exact(h.ck c (zHC hc)).2
  ·split
   ·rcases zMo P key with e|⟨r,hr,e⟩
    ·rw[e];exact Nat.zero_le _
    ·rw[e];exact(h.rk r hr).2
   ·exact Nat.zero_le _
 ·exact Nat.zero_le _
theorem zMy {l:Rws} {c:Chg} {r:ByteArray×ByteArray} (h:r∈layR l c):r∈l∨r=(c.key,c.val):=by
 unfold layR at h;rcases List.mem_append.1 h with h|h
 ·rcases List.mem_append.1 h with h|h
  ·exact .inl (List.mem_of_mem_take h)
  ·split at h
   ·simp at h
   ·simp at h;exact .inr h
 ·exact .inl (List.mem_of_mem_drop h)
theorem tB {P:Rws} {chs:List Chg} (h:OkQ P chs) (s:ByteArray×ByteArray):∀ r∈aF P chs s,keyL r.1.data.toList=true/\r.2.size<=40:=by
 have gen:∀ (cs:List Chg) (l:Rws),(∀ r∈l,keyL r.1.data.toList=true/\r.2.size<=40)->(∀ c∈cs,keyL c.key.data.toList=true/\c.val.size<=40)->∀ r∈gP l s cs,keyL r.1.data.toList=true/\r.2.size<=40:=by
  intro cs
  induction cs with
  | nil=>intro l hl _ r hr;exact hl r hr
  | cons c cs ih=>
   intro l hl hc r hr;have e:gP l s (c::cs)=gP (if hasS s.1 s.2 c.key then layR l c else l) s cs:=rfl;rw[e] at hr;refine ih _ ?_ (fun x hx=>hc x (List.mem_cons_of_mem _ hx)) r hr;intro x hx;split at hx
   ·rcases zMy hx with h|rfl
    ·exact hl x h
    ·exact hc c (List.mem_cons_self ..)
   ·exact hl x hx
 exact gen chs _ (fun r hr=>h.rk r (List.mem_filter.1 hr).1) h.ck
structure QV (w:World) (B wb:Nat) (S:Nat->Prop) (P:Rws) (since:Sn) (chs:List Chg) (rds:Rws):Prop where
 pv:PV w B wb S P since chs rds
 ok:OkQ P chs
 la:∀ W,Below B w W->Laid W
def ActQ (w w':World) (B wb:Nat) (S:Nat->Prop) (P:Rws) (since:Sn) (chs:List Chg) (rds:Rws):Prop:=∃ S',QV w' B wb S' P since chs rds/\aG w w' B S S'
section
variable {w w':World} {B wb:Nat} {S:Nat->Prop} {P:Rws} {since:Sn} {chs chs':List Chg} {rds rds':Rws}
theorem QV.laid (h:QV w B wb S P since chs rds):Laid w:=h.la w (Below.refl _ _)
theorem QV.on (h:QV w B wb S P since chs rds) (hb:Below w.heap.size w w'):QV w' B wb S P since chs rds:=⟨h.pv.on hb,h.ok,fun W hW=>h.la W ((hb.mono h.pv.lo).trans hW)⟩
theorem QV.act (h:QV w B wb S P since chs rds) (hk:OkQ P chs') (ha:ActV w w' B wb S P since chs' rds'):ActQ w w' B wb S P since chs' rds':=by
 obtain⟨S',hp,hs⟩:=ha;exact⟨S',⟨hp,hk,fun W hW=>h.la W (hs.bel.trans hW)⟩,hs⟩
theorem QV.pre {w1:World} (h:QV w B wb S P since chs rds) (hb:Below w.heap.size w w1) (ha:ActQ w1 w' B wb S P since chs' rds'):ActQ w w' B wb S P since chs' rds':=by
 obtain⟨S',hp,hs⟩:=ha;exact⟨S',hp,(aG.on h.pv.lo hb).trans hs⟩
theorem ActQ.post {w1:World} (ha:ActQ w w1 B wb S P since chs' rds') (hb:Below w1.heap.size w1 w'):ActQ w w' B wb S P since chs' rds':=by
 obtain⟨S',hp,hs⟩:=ha;exact⟨S',hp.on hb,hs.trans (.on hp.pv.lo hb)⟩
end
theorem ActQ.after {w w1 w2:World} {B wb:Nat} {S S1:Nat->Prop} {P:Rws} {since:Sn} {chs:List Chg} {rds:Rws} (hs:aG w w1 B S S1) (ha:ActQ w1 w2 B wb S1 P since chs rds):ActQ w w2 B wb S P since chs rds:=by
 obtain⟨S2,hq,h2⟩:=ha;exact⟨S2,hq,hs.trans h2⟩
structure BoxQ (w w2:World) (B wb bx:Nat) (S S':Nat->Prop) (P:Rws) (since:Sn) (chs:List Chg) (rds:Rws):Prop where
 qv:QV w2 B wb S' P since chs rds
 st:aG w w2 B S S'
 nb:¬S' bx
 lo:w.heap.size<=bx
 hi:bx<w2.heap.size
 fz:∀ j,w2.frozen? ⟨bx,j,none⟩=false
section
variable {w w1 w2:World} {B wb bx:Nat} {S S':Nat->Prop} {P:Rws} {since:Sn} {chs chs':List Chg} {rds rds':Rws}
theorem BoxQ.start (h:QV w B wb S P since chs rds) (vs:Array Value) (t:TypeId):BoxQ w (w.alloc (.cells vs t)) B wb w.heap.size S S P since chs rds:=
 have hb:=below_alloc1 w (.cells vs t)
 ⟨h.on hb,.on h.pv.lo hb,fun e=>by have:=h.pv.lt e;omega,Nat.le_refl _,by simp,fun j=>aQ _ _ _ j⟩
theorem BoxQ.on (h:BoxQ w w1 B wb bx S S' P since chs rds) (hb:Below w1.heap.size w1 w2):BoxQ w w2 B wb bx S S' P since chs rds:=
 ⟨h.qv.on hb,h.st.trans (.on h.qv.pv.lo hb),h.nb,h.lo,Nat.lt_of_lt_of_le h.hi hb.size,fun j=>aE hb h.hi (h.fz j)⟩
theorem BoxQ.act (h:BoxQ w w1 B wb bx S S' P since chs rds) (ha:ActQ w1 w2 B wb S' P since chs' rds'):∃ S2,BoxQ w w2 B wb bx S S2 P since chs' rds'/\w2.heap[bx]?=w1.heap[bx]?:=by
 obtain⟨S2,hq,hs⟩:=ha;obtain⟨e,n⟩:=hs.far bx h.hi h.nb;exact⟨S2,⟨hq,h.st.trans hs,n,h.lo,Nat.lt_of_lt_of_le h.hi hs.bel.size,fun j=>(World.frozen?_of_block (w:=w1) e).trans (h.fz j)⟩,e⟩
theorem BoxQ.set (h:BoxQ w w1 B wb bx S S' P since chs rds) (hB:B<=w.heap.size) (j:Nat) (v:Value):BoxQ w (w1.setCell ⟨bx,j,none⟩ v) B wb bx S S' P since chs rds:=by
 have hs:∀ k,k≠bx->(w1.setCell ⟨bx,j,none⟩ v).heap[k]?=w1.heap[k]?:=fun k hk=>Below.heap_setCell _ _ _ _ hk;have hl:=h.lo;refine⟨⟨h.qv.pv.kept (by simp) fun k hk=>hs k fun e=>h.nb (e▸hk),h.qv.ok,fun W hW=>h.qv.la W (((Below.refl B w1).setCell (p:=⟨bx,j,none⟩) (by show B<=bx;omega) v).trans hW)⟩,⟨h.st.bel.setCell (p:=⟨bx,j,none⟩) (by show B<=bx;omega) v,fun k hk hn=>?_⟩,h.nb,h.lo,by simpa using h.hi,fun k=>by rw[World.frozen?_setCell];exact h.fz k⟩;obtain⟨a,b⟩:=h.st.far k hk hn;exact⟨(hs k (by omega)).trans a,b⟩
theorem BoxQ.done (h:BoxQ w w1 B wb bx S S' P since chs rds):ActQ w w1 B wb S P since chs rds:=⟨S',h.qv,h.st⟩
end
theorem zCM (key val:ByteArray) {B wb:Nat} {S:Nat->Prop} {P:Rws} {since:Sn} {chs:List Chg} {rds:Rws} (w:World) (h:QV w B wb S P since chs rds) (hk:key.size<=maxLen):
  Calls Tryz.prog 47 #[.pointer (some ⟨wb,0,none⟩),.string key,.string val] w fun e w'=>e=.returned (errV (cH chs ⟨key,val,false⟩))/\ActQ w w' B wb S P since (bG chs ⟨key,val,false⟩) rds:=
 (zIB key val w h.pv hk lD).mono fun _ _ ⟨he,ha⟩=>⟨he,h.act (h.ok.alter _) ha⟩
theorem uA (key:ByteArray) {B wb:Nat} {S:Nat->Prop} {P:Rws} {since:Sn} {chs:List Chg} {rds:Rws} (w:World) (h:QV w B wb S P since chs rds) (hk:key.size<=maxLen):
  Calls Tryz.prog 86 #[.pointer (some ⟨wb,0,none⟩),.string key] w fun e w'=>e=.returned (errV (cH chs ⟨key,⟨#[]⟩,true⟩))/\ActQ w w' B wb S P since (bG chs ⟨key,⟨#[]⟩,true⟩) rds:=
 (zHv key w h.pv hk lD).mono fun _ _ ⟨he,ha⟩=>⟨he,h.act (h.ok.alter _) ha⟩
theorem zCw (key:ByteArray) {B wb:Nat} {S:Nat->Prop} {P:Rws} {since:Sn} {chs:List Chg} {rds:Rws} (w:World) (h:QV w B wb S P since chs rds) (hk:key.size<=maxLen):
  Calls Tryz.prog 44 #[.pointer (some ⟨wb,0,none⟩),.string key] w fun e w'=>e=.returned (.tuple #[.string (getP chs rds P key).1,.bool (getP chs rds P key).2.1,errV (getP chs rds P key).2.2])/\ActQ w w' B wb S P since chs (getL chs rds key):=
 (zMZ key w h.pv hk).mono fun _ _ ⟨he,ha⟩=>⟨he,h.act h.ok ha⟩
end
section
open Go.RowKit Go.Joins Go.Shelf
attribute [local go_sem ↓] Go.wp_at_zero Go.wp_at_succ
def aN (P:Rws) (chs:List Chg) (rds:Rws) (name:ByteArray):Int×Int×ByteArray×Nat:=
 if bK name.data.toList then
  if (getP chs rds P (queB name)).2.2=0 then
   if (getP chs rds P (queB name)).2.1 then qOf (getP chs rds P (queB name)).1 else (0,0,⟨#[]⟩,5)
  else (0,0,⟨#[]⟩,(getP chs rds P (queB name)).2.2)
 else (0,0,⟨#[]⟩,3)
def bC (chs:List Chg) (rds:Rws) (name:ByteArray):Rws:=if bK name.data.toList then getL chs rds (queB name) else rds
abbrev qV (x:Int×Int×ByteArray×Nat):Value:=.agg #[.int .i64 x.1,.int .i64 x.2.1,.string x.2.2.1]
theorem zA6 (s:ByteArray):(queB s).size=s.size+2:=by
 have:=congrArg List.length (zMT s);simp at this;exact this
theorem kK (name:ByteArray) {B wb:Nat} {S:Nat->Prop} {P:Rws} {since:Sn} {chs:List Chg} {rds:Rws} (w:World) (h:QV w B wb S P since chs rds) (hn:name.size<=1000):
  Calls Tryz.prog 83 #[.pointer (some ⟨wb,0,none⟩),.string name] w fun e w'=>e=.returned (.tuple #[qV (aN P chs rds name),errV (aN P chs rds name).2.2.2])/\ActQ w w' B wb S P since chs (bC chs rds name):=by
 have HX:=hide (BoxQ.start h #[Value.int .i64 0,Value.int .i64 0,Value.string ⟨#[]⟩] 145);have HLO:=hide h.pv.lo;have hqs:(queB name).size<=maxLen:=by rw[zA6];unfold maxLen;omega
 have HGS:=hide (uU h.ok rds (queB name));have n1:=bM 114;clear h
 cases hnm:bK name.data.toList with
 | false=>
  have eF:aN P chs rds name=(0,0,⟨#[]⟩,3):=by unfold aN;rw[hnm];rfl
  have eL:bC chs rds name=rds:=by unfold bC;rw[hnm];rfl
  rw[eF,eL];have HNM:=hide hnm;clear hnm eF eL;go_enter Tryz.func83,Tryz.ntmps83;go_wp2_with (first
   | (go_at_call 150;refine(kM name _).mono ?_;rintro e w1 ⟨rfl,rfl⟩;rw[HNM.out])
   | fail)
  exact bodyPost_ret (v:=.tuple #[qV (0,0,⟨#[]⟩,3),errV 3]) (by simp[errV,results,Tryz.results83,go_sem]) rfl ⟨rfl,HX.out.done⟩
 | true=>
  have eL:bC chs rds name=getL chs rds (queB name):=by unfold bC;rw[hnm];rfl
  have eF:aN P chs rds name=if (getP chs rds P (queB name)).2.2=0 then (if (getP chs rds P (queB name)).2.1 then qOf (getP chs rds P (queB name)).1 else (0,0,⟨#[]⟩,5)) else (0,0,⟨#[]⟩,(getP chs rds P (queB name)).2.2):=by unfold aN;rw[hnm];rfl
  rw[eF,eL];have HNM:=hide hnm;clear hnm eF eL;have HGT:=hide (fun W hW=>zCw (queB name) (B:=B) (wb:=wb) (S:=S) (P:=P) (since:=since) (chs:=chs) (rds:=rds) W hW hqs);generalize getP chs rds P (queB name)=gp at *;obtain⟨tx,is,er⟩:=gp;have r0:(w.alloc (Obj.cells #[.int .i64 0,.int .i64 0,.string ⟨#[]⟩] 145)).cell? ⟨w.heap.size,0,none⟩=some (Value.int .i64 0):=by simp
  have r1:(w.alloc (Obj.cells #[.int .i64 0,.int .i64 0,.string ⟨#[]⟩] 145)).cell? ⟨w.heap.size,1,none⟩=some (Value.int .i64 0):=by simp
  have r2:(w.alloc (Obj.cells #[.int .i64 0,.int .i64 0,.string ⟨#[]⟩] 145)).cell? ⟨w.heap.size,2,none⟩=some (Value.string ⟨#[]⟩):=by simp
  by_cases h0:er=0
  ·subst h0
   cases is with
   | false=>
    rw[if_pos rfl,if_neg (by simp)];go_enter Tryz.func83,Tryz.ntmps83;go_wp2_with (first
     | (go_at_call 150;refine(kM name _).mono ?_;rintro e w1 ⟨rfl,rfl⟩;rw[HNM.out])
     | (go_at_call 151;refine(qZ name _ (by omega)).mono ?_;rintro e w1 ⟨rfl,rfl⟩)
     | (go_at_call 44;refine(HGT.out _ HX.out.qv).mono ?_;rintro e w2 ⟨rfl,ha⟩;obtain⟨S2,hx2,eb⟩:=HX.out.act ha;have HX2:=hide hx2;have fz:=hx2.fz;replace r0:=(World.cell?_of_block eb).trans r0;replace r1:=(World.cell?_of_block eb).trans r1;replace r2:=(World.cell?_of_block eb).trans r2;clear ha hx2 eb;rw[show errV 0=Value.nilIface from rfl])
     | fail)
    exact bodyPost_ret (v:=.tuple #[qV (0,0,⟨#[]⟩,5),errV 5]) (by simp[errV,results,Tryz.results83,go_sem,r0,r1,r2]) rfl ⟨rfl,(((HX2.out.set HLO.out 0 _).set HLO.out 1 _).set HLO.out 2 _).done⟩
   | true=>
    rw[if_pos rfl,if_pos rfl];go_enter Tryz.func83,Tryz.ntmps83;go_wp2_with (first
     | (go_at_call 150;refine(kM name _).mono ?_;rintro e w1 ⟨rfl,rfl⟩;rw[HNM.out])
     | (go_at_call 151;refine(qZ name _ (by omega)).mono ?_;rintro e w1 ⟨rfl,rfl⟩)
     | (go_at_call 44;refine(HGT.out _ HX.out.qv).mono ?_;rintro e w2 ⟨rfl,ha⟩;obtain⟨S2,hx2,eb⟩:=HX.out.act ha;have HX2:=hide hx2;have fz:=hx2.fz;replace r0:=(World.cell?_of_block eb).trans r0;replace r1:=(World.cell?_of_block eb).trans r1;replace r2:=(World.cell?_of_block eb).trans r2;clear ha hx2 eb;rw[show errV 0=Value.nilIface from rfl])
     | (go_at_call 152;refine(zLt tx (by have:=HGS.out;omega) _ HX2.out.qv.laid).mono ?_;rintro e w3 ⟨rfl,hb3⟩;have HX3:=hide (HX2.out.on hb3);have fz3:=(HX2.out.on hb3).fz;replace r0:=aA hb3 r0;replace r1:=aA hb3 r1;replace r2:=aA hb3 r2;clear hb3)
     | fail)
    exact bodyPost_ret (v:=.tuple #[qV (qOf tx),errV (qOf tx).2.2.2]) (by simp[errV,results,Tryz.results83,go_sem,r0,r1,r2]) rfl ⟨rfl,(((HX3.out.set HLO.out 0 _).set HLO.out 1 _).set HLO.out 2 _).done⟩
  ·rw[if_neg h0,bJ h0];have HER:=hide (bJ h0);clear h0;go_enter Tryz.func83,Tryz.ntmps83;go_wp2_with (first
    | (go_at_call 150;refine(kM name _).mono ?_;rintro e w1 ⟨rfl,rfl⟩;rw[HNM.out])
    | (go_at_call 151;refine(qZ name _ (by omega)).mono ?_;rintro e w1 ⟨rfl,rfl⟩)
    | (go_at_call 44;refine(HGT.out _ HX.out.qv).mono ?_;rintro e w2 ⟨rfl,ha⟩;obtain⟨S2,hx2,eb⟩:=HX.out.act ha;have HX2:=hide hx2;have fz:=hx2.fz;replace r0:=(World.cell?_of_block eb).trans r0;replace r1:=(World.cell?_of_block eb).trans r1;replace r2:=(World.cell?_of_block eb).trans r2;clear ha hx2 eb;rw[HER.out])
    | fail)
   exact bodyPost_ret (v:=.tuple #[qV (0,0,⟨#[]⟩,er),.iface 114 (.int .i64 er)]) (by simp[results,Tryz.results83,go_sem,r0,r1,r2]) rfl ⟨rfl,(((HX2.out.set HLO.out 0 _).set HLO.out 1 _).set HLO.out 2 _).done⟩
def rA (chs:List Chg) (name:ByteArray) (x y:Int) (d:ByteArray):Nat:=if (mO x y d).2=0 then cH chs ⟨queB name,(mO x y d).1,false⟩ else (mO x y d).2
def qL (chs:List Chg) (name:ByteArray) (x y:Int) (d:ByteArray):List Chg:=if (mO x y d).2=0 then bG chs ⟨queB name,(mO x y d).1,false⟩ else chs
def mK (chs:List Chg) (name:ByteArray) (k x y:Int) (d:ByteArray):Nat:=if (nD x y d).2=0 then cH chs ⟨msgB name (cP k),(nD x y d).1,false⟩ else (nD x y d).2
def nA (chs:List Chg) (name:ByteArray) (k x y:Int) (d:ByteArray):List Chg:=if (nD x y d).2=0 then bG chs ⟨msgB name (cP k),(nD x y d).1,false⟩ else chs
theorem bX:errV 0=.nilIface:=rfl
theorem oK (name:ByteArray) (x y:Int) (d:ByteArray) {B wb:Nat} {S:Nat->Prop} {P:Rws} {since:Sn} {chs:List Chg} {rds:Rws} (w:World) (h:QV w B wb S P since chs rds) (hn:name.size<=1000) (hd:d.size<=1000):
  Calls Tryz.prog 111 #[.pointer (some ⟨wb,0,none⟩),.string name,.agg #[.int .i64 x,.int .i64 y,.string d]] w fun e w'=>e=.returned (errV (rA chs name x y d))/\ActQ w w' B wb S P since (qL chs name x y d) rds:=by
 have HX:=hide (BoxQ.start h #[Value.int .i64 x,Value.int .i64 y,Value.string d] 145);have hqs:(queB name).size<=maxLen:=by rw[zA6];unfold maxLen;omega
 have n1:=bM 114;unfold rA qL;have HT:=hide (fun W hL=>zFC x y d hd W hL);generalize mO x y d=qt at *;obtain⟨tx,er⟩:=qt;dsimp only at HT ⊢;clear h;by_cases h0:er=0
 ·subst h0;rw[if_pos rfl,if_pos rfl];go_enter Tryz.func111,Tryz.ntmps111;go_wp2_with (first
   | (go_at_call 172;refine(HT.out _ HX.out.qv.laid).mono ?_;rintro e w1 ⟨rfl,hb1⟩;have HX1:=hide (HX.out.on hb1);clear hb1;rw[bX])
   | (go_at_call 151;refine(qZ name _ (by omega)).mono ?_;rintro e w2 ⟨rfl,rfl⟩)
   | (go_at_call 47;refine(zCM (queB name) tx _ HX1.out.qv hqs).mono ?_;rintro e w3 ⟨rfl,ha⟩;obtain⟨S2,hx2,_⟩:=HX1.out.act ha;have HX2:=hide hx2;clear ha hx2)
   | fail)
  go_ret;exact⟨rfl,HX2.out.done⟩
 ·rw[if_neg h0,if_neg h0,bJ h0];have HER:=hide (bJ h0);clear h0;go_enter Tryz.func111,Tryz.ntmps111;go_wp2_with (first
   | (go_at_call 172;refine(HT.out _ HX.out.qv.laid).mono ?_;rintro e w1 ⟨rfl,hb1⟩;have HX1:=hide (HX.out.on hb1);clear hb1;rw[HER.out])
   | fail)
  go_ret;exact⟨rfl,HX1.out.done⟩
theorem tD {name:ByteArray} (n:Nat) (h:name.size<=1000):(msgB name n).size<=maxLen:=by rw[pS];unfold maxLen;omega
theorem mI (name:ByteArray) (k x y:Int) (d:ByteArray) {B wb:Nat} {S:Nat->Prop} {P:Rws} {since:Sn} {chs:List Chg} {rds:Rws} (w:World) (h:QV w B wb S P since chs rds) (hn:name.size<=1000) (hk0:-9223372036854775808<=k) (hk1:k<=9223372036854775807):
  Calls Tryz.prog 148 #[.pointer (some ⟨wb,0,none⟩),.string name,.agg #[.int .i64 k,.int .i64 x,.int .i64 y,.string d]] w fun e w'=>e=.returned (errV (mK chs name k x y d))/\ActQ w w' B wb S P since (nA chs name k x y d) rds:=by
 have HX:=hide (BoxQ.start h #[Value.int .i64 k,Value.int .i64 x,Value.int .i64 y,Value.string d] 99);have hqs:=tD (name:=name) (cP k) hn;have n1:=bM 114;unfold mK nA;have HT:=hide (fun W hL=>zG0 k x y d W hL);generalize nD x y d=qt at *;obtain⟨tx,er⟩:=qt;dsimp only at HT ⊢;clear h;by_cases h0:er=0
 ·subst h0;rw[if_pos rfl,if_pos rfl];have r0:(w.alloc (Obj.cells #[.int .i64 k,.int .i64 x,.int .i64 y,.string d] 99)).cell? ⟨w.heap.size,0,none⟩=some (Value.int .i64 k):=by simp
  go_enter Tryz.func148,Tryz.ntmps148;go_wp2_with (first
   | (go_at_call 213;refine(HT.out _ HX.out.qv.laid).mono ?_;rintro e w1 ⟨rfl,hb1⟩;have HX1:=hide (HX.out.on hb1);replace r0:=aA hb1 r0;clear hb1;rw[bX])
   | (go_at_call 120;refine(iE name k _ (by omega) hk0 hk1 HX1.out.qv.laid.tab).mono ?_;rintro e w2 ⟨rfl,hb2⟩;replace HX1:=hide (HX1.out.on hb2);replace r0:=aA hb2 r0;clear hb2)
   | (go_at_call 47;refine(zCM (msgB name (cP k)) tx _ HX1.out.qv hqs).mono ?_;rintro e w3 ⟨rfl,ha⟩;obtain⟨S2,hx2,_⟩:=HX1.out.act ha;have HX2:=hide hx2;clear ha hx2)
   | fail)
  go_ret;exact⟨rfl,HX2.out.done⟩
 ·rw[if_neg h0,if_neg h0,bJ h0];have HER:=hide (bJ h0);clear h0;go_enter Tryz.func148,Tryz.ntmps148;go_wp2_with (first
   | (go_at_call 213;refine(HT.out _ HX.out.qv.laid).mono ?_;rintro e w1 ⟨rfl,hb1⟩;have HX1:=hide (HX.out.on hb1);clear hb1;rw[HER.out])
   | fail)
  go_ret;exact⟨rfl,HX1.out.done⟩
def qK (f:Nat):Nat:=if f=0 then 6 else if f=5 then 0 else f
theorem zJu (a b:Int) (W:World):(binOp .eql 42 (.iface 114 (.int .i64 a)) (.iface 114 (.int .i64 b))).run Tryz.prog W=.ok (.bool (a==b)) W:=by
 kernel_rfl
theorem zDo (name:ByteArray) {B wb:Nat} {S:Nat->Prop} {P:Rws} {since:Sn} {chs:List Chg} {rds:Rws} (w:World) (h:QV w B wb S P since chs rds) (hn:name.size<=1000):
  Calls Tryz.prog 110 #[.pointer (some ⟨wb,0,none⟩),.string name] w fun e w'=>e=.returned (errV (qK (aN P chs rds name).2.2.2))/\ActQ w w' B wb S P since chs (bC chs rds name):=by
 have n1:=rD 114;have n2:=zJu;have HQ:=hide h;have HF:=hide (kK name w h hn);clear h;generalize aN P chs rds name=q at *;obtain⟨qx,qy,qd,er⟩:=q;dsimp only at HF ⊢;by_cases h0:er=0
 ·subst h0;go_enter Tryz.func110,Tryz.ntmps110;go_wp2_with (first
   | (go_at_call 83;refine HF.out.mono ?_;rintro e w1 ⟨rfl,ha⟩;have HA:=hide ha;clear ha;rw[bX])
   | fail)
  go_ret;exact⟨rfl,HA.out.post (below_alloc1 _ _)⟩
 ·by_cases h5:er=5
  ·subst h5;clear h0;have HER:Hid (errV 5=.iface 114 (.int .i64 5)):=rfl;go_enter Tryz.func110,Tryz.ntmps110;go_wp2_with (first
    | (go_at_call 83;refine HF.out.mono ?_;rintro e w1 ⟨rfl,ha⟩;have HA:=hide ha;clear ha;rw[HER.out])
    | fail)
   go_ret;exact⟨rfl,HA.out.post (below_alloc1 _ _)⟩
  ·have em:qK er=er:=by unfold qK;rw[if_neg h0,if_neg h5]
   rw[em,bJ h0];have HER:=hide (bJ h0);have e5:((er:Int)==5)=false:=by simp;omega
   clear h0 h5 em;go_enter Tryz.func110,Tryz.ntmps110;go_wp2_with (first
    | (go_at_call 83;refine HF.out.mono ?_;rintro e w1 ⟨rfl,ha⟩;have HA:=hide ha;clear ha;rw[HER.out])
    | fail)
   go_ret;exact⟨rfl,HA.out.post (below_alloc1 _ _)⟩
open Classical in
def fD (P:Rws) (chs:List Chg) (rds:Rws) (name:ByteArray) (tries:Int) (dead:ByteArray):Nat×List Chg×Rws:=
 if qK (aN P chs rds name).2.2.2=0 then
  if eqS dead name=true then (3,chs,bC chs rds name)
  else if dead.toList.isEmpty=true then (rA chs name 0 tries dead,qL chs name 0 tries dead,bC chs rds name)
  else if (aN P chs (bC chs rds name) dead).2.2.2=0 then (rA chs name 0 tries dead,qL chs name 0 tries dead,bC chs (bC chs rds name) dead)
  else ((aN P chs (bC chs rds name) dead).2.2.2,chs,bC chs (bC chs rds name) dead)
 else (qK (aN P chs rds name).2.2.2,chs,bC chs rds name)
theorem zEK (name:ByteArray) (tries:Int) (dead:ByteArray) {B wb:Nat} {S:Nat->Prop} {P:Rws} {since:Sn} {chs:List Chg} {rds:Rws} (w:World) (h:QV w B wb S P since chs rds) (hn:name.size<=1000) (hd:dead.size<=1000):
  Calls Tryz.prog 48 #[.pointer (some ⟨wb,0,none⟩),.string name,.int .i64 tries,.string dead] w fun e w'=>e=.returned (errV (fD P chs rds name tries dead).1)/\ActQ w w' B wb S P since (fD P chs rds name tries dead).2.1 (fD P chs rds name tries dead).2.2:=by
 have n1:=bM 114;have HM:=hide (zDo name w h hn);have HF:=hide (fun (S1:Nat->Prop) (W:World) (hW:QV W B wb S1 P since chs (bC chs rds name))=>kK dead W hW hd);unfold fD;clear h;generalize aN P chs (bC chs rds name) dead=q2 at *;generalize qK (aN P chs rds name).2.2.2=f1 at *;generalize hr2:bC chs (bC chs rds name) dead=rds2 at *;generalize bC chs rds name=rds1 at *;obtain⟨qx,qy,qd,er⟩:=q2;dsimp only at HF ⊢;clear hr2;by_cases h1:f1=0
 ·subst h1;rw[if_pos rfl];have HE1:=hide bX
  cases hdn:eqS dead name with
  | true=>
   have hdn':(dead.toList==name.toList)=true:=hdn;rw[if_pos rfl];clear hdn;go_enter Tryz.func48,Tryz.ntmps48;go_wp2_with (first
    | (go_at_call 110;refine HM.out.mono ?_;rintro e w1 ⟨rfl,ha⟩;obtain⟨S1,hq1,hs1⟩:=ha;have HQ1:=hide hq1;have HS1:=hide hs1;clear hq1 hs1;rw[HE1.out])
    | fail)
   go_ret;exact⟨rfl,S1,HQ1.out,HS1.out⟩
  | false=>
   have hdn':(dead.toList==name.toList)=false:=hdn;rw[if_neg (by simp)];clear hdn
   cases hde:dead.toList.isEmpty with
   | true=>
    have hde':(dead.toList==[])=true:=by rw[List.isEmpty_iff.1 hde];rfl
    rw[if_pos rfl];clear hde;go_enter Tryz.func48,Tryz.ntmps48;go_wp2_with (first
     | (go_at_call 110;refine HM.out.mono ?_;rintro e w1 ⟨rfl,ha⟩;obtain⟨S1,hq1,hs1⟩:=ha;have HQ1:=hide hq1;have HS1:=hide hs1;clear hq1 hs1;rw[HE1.out])
     | (go_at_call 111;refine(oK name 0 tries dead _ HQ1.out hn hd).mono ?_;rintro e w3 ⟨rfl,ha⟩;have HA:=hide (ActQ.after HS1.out ha);clear ha)
     | fail)
    go_ret;exact⟨rfl,HA.out⟩
   | false=>
    have hde':(dead.toList==[])=false:=by cases e:dead.toList with|nil=>rw[e] at hde;cases hde|cons a l=>rfl
    rw[if_neg (by simp)];clear hde;by_cases h2:er=0
    ·subst h2;rw[if_pos rfl];have HE2:=hide bX;go_enter Tryz.func48,Tryz.ntmps48;go_wp2_with (first
      | (go_at_call 110;refine HM.out.mono ?_;rintro e w1 ⟨rfl,ha⟩;obtain⟨S1,hq1,hs1⟩:=ha;have HQ1:=hide hq1;have HS1:=hide hs1;clear hq1 hs1;rw[HE1.out])
      | (go_at_call 83;refine(HF.out _ _ HQ1.out).mono ?_;rintro e w2 ⟨rfl,ha⟩;obtain⟨S2,hq2,hs2⟩:=ha;have hbA:=below_alloc1 w2 (Obj.cells #[.int .i64 qx,.int .i64 qy,.string qd] 145);have HQ2:=hide (hq2.on hbA);have HS2:=hide ((HS1.out.trans hs2).trans (.on hq2.pv.lo hbA));clear hq2 hs2 hbA;rw[HE2.out])
      | (go_at_call 111;refine(oK name 0 tries dead _ HQ2.out hn hd).mono ?_;rintro e w3 ⟨rfl,ha⟩;have HA:=hide (ActQ.after HS2.out ha);clear ha)
      | fail)
     go_ret;exact⟨rfl,HA.out⟩
    ·rw[if_neg h2];have HE2:=hide (bJ h2);clear h2;go_enter Tryz.func48,Tryz.ntmps48;go_wp2_with (first
      | (go_at_call 110;refine HM.out.mono ?_;rintro e w1 ⟨rfl,ha⟩;obtain⟨S1,hq1,hs1⟩:=ha;have HQ1:=hide hq1;have HS1:=hide hs1;clear hq1 hs1;rw[HE1.out])
      | (go_at_call 83;refine(HF.out _ _ HQ1.out).mono ?_;rintro e w2 ⟨rfl,ha⟩;obtain⟨S2,hq2,hs2⟩:=ha;have hbA:=below_alloc1 w2 (Obj.cells #[.int .i64 qx,.int .i64 qy,.string qd] 145);have HQ2:=hide (hq2.on hbA);have HS2:=hide ((HS1.out.trans hs2).trans (.on hq2.pv.lo hbA));clear hq2 hs2 hbA;rw[HE2.out])
      | fail)
     go_ret;exact⟨HE2.out▸rfl,_,HQ2.out,HS2.out⟩
 ·rw[if_neg h1];have HE1:=hide (bJ h1);clear h1;go_enter Tryz.func48,Tryz.ntmps48;go_wp2_with (first
   | (go_at_call 110;refine HM.out.mono ?_;rintro e w1 ⟨rfl,ha⟩;obtain⟨S1,hq1,hs1⟩:=ha;have HQ1:=hide hq1;have HS1:=hide hs1;clear hq1 hs1;rw[HE1.out])
   | fail)
  go_ret;exact⟨HE1.out▸rfl,S1,HQ1.out,HS1.out⟩
abbrev Msg:=Int×Int×Int×ByteArray×Nat
abbrev mV (x:Msg):Value:=.agg #[.int .i64 x.1,.int .i64 x.2.1,.int .i64 x.2.2.1,.string x.2.2.2.1]
abbrev noM (f:Nat):Msg:=(0,0,0,⟨#[]⟩,f)
def yH (t:ByteArray×Bool×Nat) (n tries:Int):Msg:=
 if t.2.2=0 then if t.2.1=true then if (mOf t.1 n).2.2.2.2=0 then if (mOf t.1 n).2.1=tries then mOf t.1 n else noM 11 else noM (mOf t.1 n).2.2.2.2 else noM 11 else noM t.2.2
def dQ (P:Rws) (chs:List Chg) (rds:Rws) (name:ByteArray) (n tries:Int):Msg×Rws:=
 if (aN P chs rds name).2.2.2=0 then
  if n<0∨999999<n∨tries<1 then (noM 1,bC chs rds name)
  else (yH (getP chs (bC chs rds name) P (msgB name (cP n))) n tries,getL chs (bC chs rds name) (msgB name (cP n)))
 else (noM (aN P chs rds name).2.2.2,bC chs rds name)
theorem zBw (name:ByteArray) (n tries:Int) {B wb:Nat} {S:Nat->Prop} {P:Rws} {since:Sn} {chs:List Chg} {rds:Rws} (w:World) (h:QV w B wb S P since chs rds) (hn:name.size<=1000):
  Calls Tryz.prog 119 #[.pointer (some ⟨wb,0,none⟩),.string name,.int .i64 n,.int .i64 tries] w fun e w'=>e=.returned (.tuple #[mV (dQ P chs rds name n tries).1,errV (dQ P chs rds name n tries).1.2.2.2.2])/\ActQ w w' B wb S P since chs (dQ P chs rds name n tries).2:=by
 have HX:=hide (BoxQ.start h #[Value.int .i64 0,Value.int .i64 0,Value.int .i64 0,Value.string ⟨#[]⟩] 99);have HLO:=hide h.pv.lo;have hqs:=tD (name:=name) (cP n) hn;have n1:=bM 114;have HF:=hide (fun (W:World) (hW:QV W B wb S P since chs rds)=>kK name W hW hn);have HGS:=hide (uU h.ok (bC chs rds name) (msgB name (cP n)));have HGT:=hide (fun (S1:Nat->Prop) (W:World) (hW:QV W B wb S1 P since chs (bC chs rds name))=>zCw (msgB name (cP n)) W hW hqs);have r0:(w.alloc (Obj.cells #[.int .i64 0,.int .i64 0,.int .i64 0,.string ⟨#[]⟩] 99)).cell? ⟨w.heap.size,0,none⟩=some (Value.int .i64 0):=by simp
 have r1:(w.alloc (Obj.cells #[.int .i64 0,.int .i64 0,.int .i64 0,.string ⟨#[]⟩] 99)).cell? ⟨w.heap.size,1,none⟩=some (Value.int .i64 0):=by simp
 have r2:(w.alloc (Obj.cells #[.int .i64 0,.int .i64 0,.int .i64 0,.string ⟨#[]⟩] 99)).cell? ⟨w.heap.size,2,none⟩=some (Value.int .i64 0):=by simp
 have r3:(w.alloc (Obj.cells #[.int .i64 0,.int .i64 0,.int .i64 0,.string ⟨#[]⟩] 99)).cell? ⟨w.heap.size,3,none⟩=some (Value.string ⟨#[]⟩):=by simp
 unfold dQ;clear h;generalize aN P chs rds name=q at *;generalize getP chs (bC chs rds name) P (msgB name (cP n))=t at *;generalize getL chs (bC chs rds name) (msgB name (cP n))=rds2 at *;generalize bC chs rds name=rds1 at *;obtain⟨qx,qy,qd,er⟩:=q;dsimp only at HF HGT ⊢;by_cases h1:er=0
 ·subst h1;rw[if_pos rfl];have HE1:=hide bX;by_cases hb:n<0∨999999<n∨tries<1
  ·rw[if_pos hb];by_cases hb1:n<0
   ·have d1:decide (n<0)=true:=by simpa using hb1
    go_enter Tryz.func119,Tryz.ntmps119;go_wp2_with (first
     | (go_at_call 83;refine(HF.out _ HX.out.qv).mono ?_;rintro e w1 ⟨rfl,ha⟩;obtain⟨S1,hx1,eb⟩:=HX.out.act ha;replace r0:=(World.cell?_of_block eb).trans r0;replace r1:=(World.cell?_of_block eb).trans r1;replace r2:=(World.cell?_of_block eb).trans r2;replace r3:=(World.cell?_of_block eb).trans r3;have hbA:=below_alloc1 w1 (Obj.cells #[.int .i64 qx,.int .i64 qy,.string qd] 145);replace r0:=aA hbA r0;replace r1:=aA hbA r1;replace r2:=aA hbA r2;replace r3:=aA hbA r3;have HX1:=hide (hx1.on hbA);have fz:=(hx1.on hbA).fz;clear ha hx1 eb hbA;rw[HE1.out])
     | fail)
    exact bodyPost_ret (v:=.tuple #[mV (noM 1),errV 1]) (by simp[errV,results,Tryz.results119,go_sem,r0,r1,r2,r3]) rfl ⟨rfl,((((HX1.out.set HLO.out 0 _).set HLO.out 1 _).set HLO.out 2 _).set HLO.out 3 _).done⟩
   ·have d1:decide (n<0)=false:=by simpa using hb1
    by_cases hb2:999999<n
    ·have d2:decide (999999<n)=true:=by simpa using hb2
     go_enter Tryz.func119,Tryz.ntmps119;go_wp2_with (first
      | (go_at_call 83;refine(HF.out _ HX.out.qv).mono ?_;rintro e w1 ⟨rfl,ha⟩;obtain⟨S1,hx1,eb⟩:=HX.out.act ha;replace r0:=(World.cell?_of_block eb).trans r0;replace r1:=(World.cell?_of_block eb).trans r1;replace r2:=(World.cell?_of_block eb).trans r2;replace r3:=(World.cell?_of_block eb).trans r3;have hbA:=below_alloc1 w1 (Obj.cells #[.int .i64 qx,.int .i64 qy,.string qd] 145);replace r0:=aA hbA r0;replace r1:=aA hbA r1;replace r2:=aA hbA r2;replace r3:=aA hbA r3;have HX1:=hide (hx1.on hbA);have fz:=(hx1.on hbA).fz;clear ha hx1 eb hbA;rw[HE1.out])
      | fail)
     exact bodyPost_ret (v:=.tuple #[mV (noM 1),errV 1]) (by simp[errV,results,Tryz.results119,go_sem,r0,r1,r2,r3]) rfl ⟨rfl,((((HX1.out.set HLO.out 0 _).set HLO.out 1 _).set HLO.out 2 _).set HLO.out 3 _).done⟩
    ·have d2:decide (999999<n)=false:=by simpa using hb2
     have hb3:tries<1:=by omega
     have d3:decide (tries<1)=true:=by simpa using hb3
     go_enter Tryz.func119,Tryz.ntmps119;go_wp2_with (first
      | (go_at_call 83;refine(HF.out _ HX.out.qv).mono ?_;rintro e w1 ⟨rfl,ha⟩;obtain⟨S1,hx1,eb⟩:=HX.out.act ha;replace r0:=(World.cell?_of_block eb).trans r0;replace r1:=(World.cell?_of_block eb).trans r1;replace r2:=(World.cell?_of_block eb).trans r2;replace r3:=(World.cell?_of_block eb).trans r3;have hbA:=below_alloc1 w1 (Obj.cells #[.int .i64 qx,.int .i64 qy,.string qd] 145);replace r0:=aA hbA r0;replace r1:=aA hbA r1;replace r2:=aA hbA r2;replace r3:=aA hbA r3;have HX1:=hide (hx1.on hbA);have fz:=(hx1.on hbA).fz;clear ha hx1 eb hbA;rw[HE1.out])
      | fail)
     exact bodyPost_ret (v:=.tuple #[mV (noM 1),errV 1]) (by simp[errV,results,Tryz.results119,go_sem,r0,r1,r2,r3]) rfl ⟨rfl,((((HX1.out.set HLO.out 0 _).set HLO.out 1 _).set HLO.out 2 _).set HLO.out 3 _).done⟩
  ·rw[if_neg hb];have hb1:¬n<0:=by omega
   have hb2:¬999999<n:=by omega
   have hb3:¬tries<1:=by omega
   have d1:decide (n<0)=false:=by simpa using hb1
   have d2:decide (999999<n)=false:=by simpa using hb2
   have d3:decide (tries<1)=false:=by simpa using hb3
   clear hb;obtain⟨tx,is,eg⟩:=t;unfold yH;dsimp only at HGS HGT ⊢;by_cases h2:eg=0
   ·subst h2;rw[if_pos rfl];have HE2:=hide bX
    cases is with
    | false=>
     rw[if_neg (by simp)];go_enter Tryz.func119,Tryz.ntmps119;go_wp2_with (first
      | (go_at_call 83;refine(HF.out _ HX.out.qv).mono ?_;rintro e w1 ⟨rfl,ha⟩;obtain⟨S1,hx1,eb⟩:=HX.out.act ha;replace r0:=(World.cell?_of_block eb).trans r0;replace r1:=(World.cell?_of_block eb).trans r1;replace r2:=(World.cell?_of_block eb).trans r2;replace r3:=(World.cell?_of_block eb).trans r3;have hbA:=below_alloc1 w1 (Obj.cells #[.int .i64 qx,.int .i64 qy,.string qd] 145);replace r0:=aA hbA r0;replace r1:=aA hbA r1;replace r2:=aA hbA r2;replace r3:=aA hbA r3;have HX1:=hide (hx1.on hbA);have fz:=(hx1.on hbA).fz;clear ha hx1 eb hbA;rw[HE1.out])
      | (go_at_call 120;refine(iE name n _ (by omega) (by omega) (by omega) HX1.out.qv.laid.tab).mono ?_;rintro e w2 ⟨rfl,hb2⟩;replace r0:=aA hb2 r0;replace r1:=aA hb2 r1;replace r2:=aA hb2 r2;replace r3:=aA hb2 r3;replace HX1:=hide (HX1.out.on hb2);clear hb2 fz)
      | (go_at_call 44;refine(HGT.out _ _ HX1.out.qv).mono ?_;rintro e w3 ⟨rfl,ha⟩;obtain⟨S2,hx2,eb⟩:=HX1.out.act ha;replace r0:=(World.cell?_of_block eb).trans r0;replace r1:=(World.cell?_of_block eb).trans r1;replace r2:=(World.cell?_of_block eb).trans r2;replace r3:=(World.cell?_of_block eb).trans r3;have HX2:=hide hx2;have fz:=hx2.fz;clear ha hx2 eb;rw[HE2.out])
      | fail)
     exact bodyPost_ret (v:=.tuple #[mV (noM 11),errV 11]) (by simp[errV,results,Tryz.results119,go_sem,r0,r1,r2,r3]) rfl ⟨rfl,((((HX2.out.set HLO.out 0 _).set HLO.out 1 _).set HLO.out 2 _).set HLO.out 3 _).done⟩
    | true=>
     rw[if_pos rfl];have HPM:=hide (fun (W:World) (hL:Laid W)=>zDb tx n (by have:=HGS.out;omega) W hL);generalize mOf tx n=m at *;obtain⟨mk,mt,mu,md,em⟩:=m;dsimp only at HPM ⊢;by_cases h3:em=0
     ·subst h3;rw[if_pos rfl];have HE3:=hide bX;by_cases h4:mt=tries
      ·subst h4;rw[if_pos rfl];have d4:(mt==mt)=true:=by simp
       go_enter Tryz.func119,Tryz.ntmps119;go_wp2_with (first
        | (go_at_call 83;refine(HF.out _ HX.out.qv).mono ?_;rintro e w1 ⟨rfl,ha⟩;obtain⟨S1,hx1,eb⟩:=HX.out.act ha;replace r0:=(World.cell?_of_block eb).trans r0;replace r1:=(World.cell?_of_block eb).trans r1;replace r2:=(World.cell?_of_block eb).trans r2;replace r3:=(World.cell?_of_block eb).trans r3;have hbA:=below_alloc1 w1 (Obj.cells #[.int .i64 qx,.int .i64 qy,.string qd] 145);replace r0:=aA hbA r0;replace r1:=aA hbA r1;replace r2:=aA hbA r2;replace r3:=aA hbA r3;have HX1:=hide (hx1.on hbA);have fz:=(hx1.on hbA).fz;clear ha hx1 eb hbA;rw[HE1.out])
        | (go_at_call 120;refine(iE name n _ (by omega) (by omega) (by omega) HX1.out.qv.laid.tab).mono ?_;rintro e w2 ⟨rfl,hb2⟩;replace r0:=aA hb2 r0;replace r1:=aA hb2 r1;replace r2:=aA hb2 r2;replace r3:=aA hb2 r3;replace HX1:=hide (HX1.out.on hb2);clear hb2 fz)
        | (go_at_call 44;refine(HGT.out _ _ HX1.out.qv).mono ?_;rintro e w3 ⟨rfl,ha⟩;obtain⟨S2,hx2,eb⟩:=HX1.out.act ha;replace r0:=(World.cell?_of_block eb).trans r0;replace r1:=(World.cell?_of_block eb).trans r1;replace r2:=(World.cell?_of_block eb).trans r2;replace r3:=(World.cell?_of_block eb).trans r3;have HX2:=hide hx2;have fz:=hx2.fz;clear ha hx2 eb;rw[HE2.out])
        | (go_at_call 177;refine(HPM.out _ HX2.out.qv.laid).mono ?_;rintro e w4 ⟨rfl,hb4⟩;have hx3:=HX2.out.on hb4;replace r0:=aA hb4 r0;replace r1:=aA hb4 r1;replace r2:=aA hb4 r2;replace r3:=aA hb4 r3;have hbA:=below_alloc1 w4 (Obj.cells #[.int .i64 mk,.int .i64 mt,.int .i64 mu,.string md] 99);replace r0:=aA hbA r0;replace r1:=aA hbA r1;replace r2:=aA hbA r2;replace r3:=aA hbA r3;have HX3:=hide (hx3.on hbA);replace fz:=(hx3.on hbA).fz;clear hb4 hx3 hbA;rw[HE3.out])
        | fail)
       exact bodyPost_ret (v:=.tuple #[mV ((mk,mt,mu,md,0)),errV 0]) (by simp[errV,results,Tryz.results119,go_sem,r0,r1,r2,r3]) rfl ⟨rfl,((((HX3.out.set HLO.out 0 _).set HLO.out 1 _).set HLO.out 2 _).set HLO.out 3 _).done⟩
      ·rw[if_neg h4];have d4:(mt==tries)=false:=by simpa using h4
       go_enter Tryz.func119,Tryz.ntmps119;go_wp2_with (first
        | (go_at_call 83;refine(HF.out _ HX.out.qv).mono ?_;rintro e w1 ⟨rfl,ha⟩;obtain⟨S1,hx1,eb⟩:=HX.out.act ha;replace r0:=(World.cell?_of_block eb).trans r0;replace r1:=(World.cell?_of_block eb).trans r1;replace r2:=(World.cell?_of_block eb).trans r2;replace r3:=(World.cell?_of_block eb).trans r3;have hbA:=below_alloc1 w1 (Obj.cells #[.int .i64 qx,.int .i64 qy,.string qd] 145);replace r0:=aA hbA r0;replace r1:=aA hbA r1;replace r2:=aA hbA r2;replace r3:=aA hbA r3;have HX1:=hide (hx1.on hbA);have fz:=(hx1.on hbA).fz;clear ha hx1 eb hbA;rw[HE1.out])
        | (go_at_call 120;refine(iE name n _ (by omega) (by omega) (by omega) HX1.out.qv.laid.tab).mono ?_;rintro e w2 ⟨rfl,hb2⟩;replace r0:=aA hb2 r0;replace r1:=aA hb2 r1;replace r2:=aA hb2 r2;replace r3:=aA hb2 r3;replace HX1:=hide (HX1.out.on hb2);clear hb2 fz)
        | (go_at_call 44;refine(HGT.out _ _ HX1.out.qv).mono ?_;rintro e w3 ⟨rfl,ha⟩;obtain⟨S2,hx2,eb⟩:=HX1.out.act ha;replace r0:=(World.cell?_of_block eb).trans r0;replace r1:=(World.cell?_of_block eb).trans r1;replace r2:=(World.cell?_of_block eb).trans r2;replace r3:=(World.cell?_of_block eb).trans r3;have HX2:=hide hx2;have fz:=hx2.fz;clear ha hx2 eb;rw[HE2.out])
        | (go_at_call 177;refine(HPM.out _ HX2.out.qv.laid).mono ?_;rintro e w4 ⟨rfl,hb4⟩;have hx3:=HX2.out.on hb4;replace r0:=aA hb4 r0;replace r1:=aA hb4 r1;replace r2:=aA hb4 r2;replace r3:=aA hb4 r3;have hbA:=below_alloc1 w4 (Obj.cells #[.int .i64 mk,.int .i64 mt,.int .i64 mu,.string md] 99);replace r0:=aA hbA r0;replace r1:=aA hbA r1;replace r2:=aA hbA r2;replace r3:=aA hbA r3;have HX3:=hide (hx3.on hbA);replace fz:=(hx3.on hbA).fz;clear hb4 hx3 hbA;rw[HE3.out])
        | fail)
       exact bodyPost_ret (v:=.tuple #[mV (noM 11),errV 11]) (by simp[errV,results,Tryz.results119,go_sem,r0,r1,r2,r3]) rfl ⟨rfl,((((HX3.out.set HLO.out 0 _).set HLO.out 1 _).set HLO.out 2 _).set HLO.out 3 _).done⟩
     ·rw[if_neg h3];have HE3:=hide (bJ h3);clear h3;go_enter Tryz.func119,Tryz.ntmps119;go_wp2_with (first
       | (go_at_call 83;refine(HF.out _ HX.out.qv).mono ?_;rintro e w1 ⟨rfl,ha⟩;obtain⟨S1,hx1,eb⟩:=HX.out.act ha;replace r0:=(World.cell?_of_block eb).trans r0;replace r1:=(World.cell?_of_block eb).trans r1;replace r2:=(World.cell?_of_block eb).trans r2;replace r3:=(World.cell?_of_block eb).trans r3;have hbA:=below_alloc1 w1 (Obj.cells #[.int .i64 qx,.int .i64 qy,.string qd] 145);replace r0:=aA hbA r0;replace r1:=aA hbA r1;replace r2:=aA hbA r2;replace r3:=aA hbA r3;have HX1:=hide (hx1.on hbA);have fz:=(hx1.on hbA).fz;clear ha hx1 eb hbA;rw[HE1.out])
       | (go_at_call 120;refine(iE name n _ (by omega) (by omega) (by omega) HX1.out.qv.laid.tab).mono ?_;rintro e w2 ⟨rfl,hb2⟩;replace r0:=aA hb2 r0;replace r1:=aA hb2 r1;replace r2:=aA hb2 r2;replace r3:=aA hb2 r3;replace HX1:=hide (HX1.out.on hb2);clear hb2 fz)
       | (go_at_call 44;refine(HGT.out _ _ HX1.out.qv).mono ?_;rintro e w3 ⟨rfl,ha⟩;obtain⟨S2,hx2,eb⟩:=HX1.out.act ha;replace r0:=(World.cell?_of_block eb).trans r0;replace r1:=(World.cell?_of_block eb).trans r1;replace r2:=(World.cell?_of_block eb).trans r2;replace r3:=(World.cell?_of_block eb).trans r3;have HX2:=hide hx2;have fz:=hx2.fz;clear ha hx2 eb;rw[HE2.out])
       | (go_at_call 177;refine(HPM.out _ HX2.out.qv.laid).mono ?_;rintro e w4 ⟨rfl,hb4⟩;have hx3:=HX2.out.on hb4;replace r0:=aA hb4 r0;replace r1:=aA hb4 r1;replace r2:=aA hb4 r2;replace r3:=aA hb4 r3;have hbA:=below_alloc1 w4 (Obj.cells #[.int .i64 mk,.int .i64 mt,.int .i64 mu,.string md] 99);replace r0:=aA hbA r0;replace r1:=aA hbA r1;replace r2:=aA hbA r2;replace r3:=aA hbA r3;have HX3:=hide (hx3.on hbA);replace fz:=(hx3.on hbA).fz;clear hb4 hx3 hbA;rw[HE3.out])
       | fail)
      exact bodyPost_ret (v:=.tuple #[mV (noM em),.iface 114 (.int .i64 em)]) (by simp[results,Tryz.results119,go_sem,r0,r1,r2,r3]) rfl ⟨HE3.out▸rfl,((((HX3.out.set HLO.out 0 _).set HLO.out 1 _).set HLO.out 2 _).set HLO.out 3 _).done⟩
   ·rw[if_neg h2];have HE2:=hide (bJ h2);clear h2;go_enter Tryz.func119,Tryz.ntmps119;go_wp2_with (first
     | (go_at_call 83;refine(HF.out _ HX.out.qv).mono ?_;rintro e w1 ⟨rfl,ha⟩;obtain⟨S1,hx1,eb⟩:=HX.out.act ha;replace r0:=(World.cell?_of_block eb).trans r0;replace r1:=(World.cell?_of_block eb).trans r1;replace r2:=(World.cell?_of_block eb).trans r2;replace r3:=(World.cell?_of_block eb).trans r3;have hbA:=below_alloc1 w1 (Obj.cells #[.int .i64 qx,.int .i64 qy,.string qd] 145);replace r0:=aA hbA r0;replace r1:=aA hbA r1;replace r2:=aA hbA r2;replace r3:=aA hbA r3;have HX1:=hide (hx1.on hbA);have fz:=(hx1.on hbA).fz;clear ha hx1 eb hbA;rw[HE1.out])
     | (go_at_call 120;refine(iE name n _ (by omega) (by omega) (by omega) HX1.out.qv.laid.tab).mono ?_;rintro e w2 ⟨rfl,hb2⟩;replace r0:=aA hb2 r0;replace r1:=aA hb2 r1;replace r2:=aA hb2 r2;replace r3:=aA hb2 r3;replace HX1:=hide (HX1.out.on hb2);clear hb2 fz)
     | (go_at_call 44;refine(HGT.out _ _ HX1.out.qv).mono ?_;rintro e w3 ⟨rfl,ha⟩;obtain⟨S2,hx2,eb⟩:=HX1.out.act ha;replace r0:=(World.cell?_of_block eb).trans r0;replace r1:=(World.cell?_of_block eb).trans r1;replace r2:=(World.cell?_of_block eb).trans r2;replace r3:=(World.cell?_of_block eb).trans r3;have HX2:=hide hx2;have fz:=hx2.fz;clear ha hx2 eb;rw[HE2.out])
     | fail)
    exact bodyPost_ret (v:=.tuple #[mV (noM eg),.iface 114 (.int .i64 eg)]) (by simp[results,Tryz.results119,go_sem,r0,r1,r2,r3]) rfl ⟨HE2.out▸rfl,((((HX2.out.set HLO.out 0 _).set HLO.out 1 _).set HLO.out 2 _).set HLO.out 3 _).done⟩
 ·rw[if_neg h1];have HE1:=hide (bJ h1);clear h1;go_enter Tryz.func119,Tryz.ntmps119;go_wp2_with (first
   | (go_at_call 83;refine(HF.out _ HX.out.qv).mono ?_;rintro e w1 ⟨rfl,ha⟩;obtain⟨S1,hx1,eb⟩:=HX.out.act ha;replace r0:=(World.cell?_of_block eb).trans r0;replace r1:=(World.cell?_of_block eb).trans r1;replace r2:=(World.cell?_of_block eb).trans r2;replace r3:=(World.cell?_of_block eb).trans r3;have hbA:=below_alloc1 w1 (Obj.cells #[.int .i64 qx,.int .i64 qy,.string qd] 145);replace r0:=aA hbA r0;replace r1:=aA hbA r1;replace r2:=aA hbA r2;replace r3:=aA hbA r3;have HX1:=hide (hx1.on hbA);have fz:=(hx1.on hbA).fz;clear ha hx1 eb hbA;rw[HE1.out])
   | fail)
  exact bodyPost_ret (v:=.tuple #[mV (noM er),.iface 114 (.int .i64 er)]) (by simp[results,Tryz.results119,go_sem,r0,r1,r2,r3]) rfl ⟨HE1.out▸rfl,((((HX1.out.set HLO.out 0 _).set HLO.out 1 _).set HLO.out 2 _).set HLO.out 3 _).done⟩
def fC (n:Int):Bool:=decide (0<=n)&&decide (n<=1000000)
theorem fI (n:Int) (w:World):Calls Tryz.prog 112 #[.int .i64 n] w fun e w'=>e=.returned (.bool (fC n))/\w'=w:=by
 unfold fC;by_cases h0:0<=n
 ·have d0:decide (0<=n)=true:=by simpa using h0
  rw[d0];by_cases h1:n<=1000000
  ·have d1:decide (n<=1000000)=true:=by simpa using h1
   rw[d1];go_enter Tryz.func112,Tryz.ntmps112;go_wp2;go_ret;exact⟨rfl,rfl⟩
  ·have d1:decide (n<=1000000)=false:=by simpa using h1
   rw[d1];go_enter Tryz.func112,Tryz.ntmps112;go_wp2;go_ret;exact⟨rfl,rfl⟩
 ·have d0:decide (0<=n)=false:=by simpa using h0
  rw[d0];go_enter Tryz.func112,Tryz.ntmps112;go_wp2;go_ret;exact⟨rfl,rfl⟩
def ackQ (P:Rws) (chs:List Chg) (rds:Rws) (name:ByteArray) (n tries:Int):Nat×List Chg×Rws:=
 if (dQ P chs rds name n tries).1.2.2.2.2=0 then (cH chs ⟨msgB name (cP n),⟨#[]⟩,true⟩,bG chs ⟨msgB name (cP n),⟨#[]⟩,true⟩,(dQ P chs rds name n tries).2)
 else ((dQ P chs rds name n tries).1.2.2.2.2,chs,(dQ P chs rds name n tries).2)
theorem zKS (name:ByteArray) (n tries:Int) {B wb:Nat} {S:Nat->Prop} {P:Rws} {since:Sn} {chs:List Chg} {rds:Rws} (w:World) (h:QV w B wb S P since chs rds) (hn:name.size<=1000) (hk0:-9223372036854775808<=n) (hk1:n<=9223372036854775807):
  Calls Tryz.prog 51 #[.pointer (some ⟨wb,0,none⟩),.string name,.int .i64 n,.int .i64 tries] w fun e w'=>e=.returned (errV (ackQ P chs rds name n tries).1)/\ActQ w w' B wb S P since (ackQ P chs rds name n tries).2.1 (ackQ P chs rds name n tries).2.2:=by
 have n1:=bM 114;have HH:=hide (zBw name n tries w h hn);have hqs:=tD (name:=name) (cP n) hn;unfold ackQ;clear h;generalize dQ P chs rds name n tries=q at *;obtain⟨⟨mk,mt,mu,md,em⟩,rds1⟩:=q;dsimp only at HH ⊢;by_cases h1:em=0
 ·subst h1;rw[if_pos rfl];go_enter Tryz.func51,Tryz.ntmps51;go_wp2_with (first
   | (go_at_call 119;refine HH.out.mono ?_;rintro e w1 ⟨rfl,ha⟩;obtain⟨S1,hq1,hs1⟩:=ha;have hbA:=below_alloc1 w1 (Obj.cells #[.int .i64 mk,.int .i64 mt,.int .i64 mu,.string md] 99);have HQ1:=hide (hq1.on hbA);have HS1:=hide (hs1.trans (.on hq1.pv.lo hbA));clear hq1 hs1 hbA;rw[bX])
   | (go_at_call 120;refine(iE name n _ (by omega) hk0 hk1 HQ1.out.laid.tab).mono ?_;rintro e w2 ⟨rfl,hb2⟩;replace HS1:=hide (HS1.out.trans (.on HQ1.out.pv.lo hb2));replace HQ1:=hide (HQ1.out.on hb2);clear hb2)
   | (go_at_call 86;refine(uA (msgB name (cP n)) _ HQ1.out hqs).mono ?_;rintro e w3 ⟨rfl,ha⟩;have HA:=hide (ActQ.after HS1.out ha);clear ha)
   | fail)
  go_ret;exact⟨rfl,HA.out⟩
 ·rw[if_neg h1];have HE1:=hide (bJ h1);clear h1;go_enter Tryz.func51,Tryz.ntmps51;go_wp2_with (first
   | (go_at_call 119;refine HH.out.mono ?_;rintro e w1 ⟨rfl,ha⟩;obtain⟨S1,hq1,hs1⟩:=ha;have hbA:=below_alloc1 w1 (Obj.cells #[.int .i64 mk,.int .i64 mt,.int .i64 mu,.string md] 99);have HQ1:=hide (hq1.on hbA);have HS1:=hide (hs1.trans (.on hq1.pv.lo hbA));clear hq1 hs1 hbA;rw[HE1.out])
   | fail)
  go_ret;exact⟨HE1.out▸rfl,_,HQ1.out,HS1.out⟩
def iZ (P:Rws) (chs:List Chg) (rds:Rws) (name:ByteArray) (n tries until_:Int):Nat×List Chg×Rws:=
 if (dQ P chs rds name n tries).1.2.2.2.2=0 then
  if fC until_=true then (mK chs name (dQ P chs rds name n tries).1.1 (dQ P chs rds name n tries).1.2.1 until_ (dQ P chs rds name n tries).1.2.2.2.1,nA chs name (dQ P chs rds name n tries).1.1 (dQ P chs rds name n tries).1.2.1 until_ (dQ P chs rds name n tries).1.2.2.2.1,(dQ P chs rds name n tries).2)
  else (1,chs,(dQ P chs rds name n tries).2)
 else ((dQ P chs rds name n tries).1.2.2.2.2,chs,(dQ P chs rds name n tries).2)
theorem zE9 (s:ByteArray) (n:Int):(mOf s n).1=n∨(mOf s n).1=0:=by
 rcases oB s n with⟨t,u,d,e,_⟩|⟨e,_⟩
 ·rw[e];exact .inl rfl
 ·rw[e];exact .inr rfl
theorem zH7 (P:Rws) (chs:List Chg) (rds:Rws) (name:ByteArray) (n tries:Int):(dQ P chs rds name n tries).1.1=n∨(dQ P chs rds name n tries).1.1=0:=by
 unfold dQ;split
 ·split
  ·exact .inr rfl
  ·unfold yH;split
   ·split
    ·split
     ·split
      ·exact zE9 _ _
      ·exact .inr rfl
     ·exact .inr rfl
    ·exact .inr rfl
   ·exact .inr rfl
 ·exact .inr rfl
theorem zJo (name:ByteArray) (n tries until_:Int) {B wb:Nat} {S:Nat->Prop} {P:Rws} {since:Sn} {chs:List Chg} {rds:Rws} (w:World) (h:QV w B wb S P since chs rds) (hn:name.size<=1000) (hk0:-9223372036854775808<=n) (hk1:n<=9223372036854775807):
  Calls Tryz.prog 81 #[.pointer (some ⟨wb,0,none⟩),.string name,.int .i64 n,.int .i64 tries,.int .i64 until_] w fun e w'=>e=.returned (errV (iZ P chs rds name n tries until_).1)/\ActQ w w' B wb S P since (iZ P chs rds name n tries until_).2.1 (iZ P chs rds name n tries until_).2.2:=by
 have n1:=bM 114;have HH:=hide (zBw name n tries w h hn);have hnum:=zH7 P chs rds name n tries;unfold iZ;clear h;generalize dQ P chs rds name n tries=q at *;obtain⟨⟨mk,mt,mu,md,em⟩,rds1⟩:=q;dsimp only at HH hnum ⊢;have hm0:-9223372036854775808<=mk:=by omega
 have hm1:mk<=9223372036854775807:=by omega
 clear hnum;by_cases h1:em=0
 ·subst h1;rw[if_pos rfl]
  cases htm:fC until_ with
  | true=>
   rw[if_pos rfl];have HTM:=hide htm;clear htm;go_enter Tryz.func81,Tryz.ntmps81;go_wp2_with (first
    | (go_at_call 119;refine HH.out.mono ?_;rintro e w1 ⟨rfl,ha⟩;obtain⟨S1,hq1,hs1⟩:=ha;have HQ1:=hide hq1;have HS1:=hide hs1;clear hq1 hs1;rw[bX])
    | (go_at_call 112;refine(fI until_ _).mono ?_;rintro e w2 ⟨rfl,rfl⟩;rw[HTM.out])
    | (go_at_call 148;have hbA:=below_alloc1 w1 (Obj.cells #[.int .i64 mk,.int .i64 mt,.int .i64 until_,.string md] 99);refine(mI name mk mt until_ md _ (HQ1.out.on hbA) hn hm0 hm1).mono ?_;rintro e w3 ⟨rfl,ha⟩;have HA:=hide (ActQ.after (HS1.out.trans (.on HQ1.out.pv.lo hbA)) ha);clear ha hbA)
    | fail)
   go_ret;exact⟨rfl,HA.out⟩
  | false=>
   rw[if_neg (by simp)];have HTM:=hide htm;clear htm;go_enter Tryz.func81,Tryz.ntmps81;go_wp2_with (first
    | (go_at_call 119;refine HH.out.mono ?_;rintro e w1 ⟨rfl,ha⟩;obtain⟨S1,hq1,hs1⟩:=ha;have HQ1:=hide hq1;have HS1:=hide hs1;clear hq1 hs1;rw[bX])
    | (go_at_call 112;refine(fI until_ _).mono ?_;rintro e w2 ⟨rfl,rfl⟩;rw[HTM.out])
    | fail)
   go_ret;exact⟨rfl,_,HQ1.out.on (below_alloc1 _ _),HS1.out.trans (.on HQ1.out.pv.lo (below_alloc1 _ _))⟩
 ·rw[if_neg h1];have HE1:=hide (bJ h1);clear h1;go_enter Tryz.func81,Tryz.ntmps81;go_wp2_with (first
   | (go_at_call 119;refine HH.out.mono ?_;rintro e w1 ⟨rfl,ha⟩;obtain⟨S1,hq1,hs1⟩:=ha;have HQ1:=hide hq1;have HS1:=hide hs1;clear hq1 hs1;rw[HE1.out])
   | fail)
  go_ret;exact⟨HE1.out▸rfl,_,HQ1.out.on (below_alloc1 _ _),HS1.out.trans (.on HQ1.out.pv.lo (below_alloc1 _ _))⟩
def addQ (chs:List Chg) (name:ByteArray) (x y:Int) (d body:ByteArray) (until_:Int):Int×Nat×List Chg:=
 if x=999999 then (0,8,chs)
 else if mK chs name x 0 until_ body=0 then (x,rA (nA chs name x 0 until_ body) name (x+1) y d,qL (nA chs name x 0 until_ body) name (x+1) y d)
 else (0,mK chs name x 0 until_ body,nA chs name x 0 until_ body)
theorem QV.new {w w1 w2:World} {B wb:Nat} {S S2:Nat->Prop} {P:Rws} {since:Sn} {chs:List Chg} {rds:Rws} (h:QV w B wb S P since chs rds) (hs:aG w1 w2 B S S2) {k:Nat} (h1:w.heap.size<=k) (h2:k<w1.heap.size):w2.heap[k]?=w1.heap[k]?/\¬S2 k:=
 hs.far k h2 fun e=>by have:=h.pv.lt e;omega
theorem BoxQ.go {w w1 w2:World} {B wb bx:Nat} {S S' S2:Nat->Prop} {P:Rws} {since:Sn} {chs chs':List Chg} {rds rds':Rws} (h:BoxQ w w1 B wb bx S S' P since chs rds) (hq:QV w2 B wb S2 P since chs' rds') (hs:aG w1 w2 B S' S2):BoxQ w w2 B wb bx S S2 P since chs' rds'/\w2.heap[bx]?=w1.heap[bx]?:=by
 obtain⟨e,n⟩:=hs.far bx h.hi h.nb;exact⟨⟨hq,h.st.trans hs,n,h.lo,Nat.lt_of_lt_of_le h.hi hs.bel.size,fun j=>(World.frozen?_of_block (w:=w1) e).trans (h.fz j)⟩,e⟩
theorem zDU (name:ByteArray) (x y:Int) (d body:ByteArray) (until_:Int) {B wb:Nat} {S:Nat->Prop} {P:Rws} {since:Sn} {chs:List Chg} {rds:Rws} (w:World) (h:QV w B wb S P since chs rds) (hn:name.size<=1000) (hd:d.size<=1000) (hx0:0<=x) (hx1:x<=999999):
  Calls Tryz.prog 115 #[.pointer (some ⟨wb,0,none⟩),.string name,.agg #[.int .i64 x,.int .i64 y,.string d],.string body,.int .i64 until_] w fun e w'=>e=.returned (.tuple #[.int .i64 (addQ chs name x y d body until_).1,errV (addQ chs name x y d body until_).2.1])/\ActQ w w' B wb S P since (addQ chs name x y d body until_).2.2 rds:=by
 have n1:=bM 114;have HQ:=hide h;have HLO:=hide h.pv.lo;have HX:=hide (BoxQ.start h #[Value.int .i64 x,Value.int .i64 y,Value.string d] 145);have hbM:=below_alloc1 (w.alloc (Obj.cells #[.int .i64 x,.int .i64 y,.string d] 145)) (Obj.cells #[.int .i64 x,.int .i64 0,.int .i64 until_,.string body] 99);have HXM:=hide (HX.out.on hbM);have HPM:=hide (fun W (hW:QV W B wb S P since chs rds)=>mI name x 0 until_ body W hW hn (by omega) (by omega));have HPQ:=hide (fun (S1:Nat->Prop) W (hW:QV W B wb S1 P since (nA chs name x 0 until_ body) rds)=>oK name (x+1) y d W hW hn hd);have q0:((w.alloc (Obj.cells #[.int .i64 x,.int .i64 y,.string d] 145)).alloc (Obj.cells #[.int .i64 x,.int .i64 0,.int .i64 until_,.string body] 99)).cell? ⟨w.heap.size,0,none⟩=some (.int .i64 x):=aA hbM (aC w _ _ 0);have q1:((w.alloc (Obj.cells #[.int .i64 x,.int .i64 y,.string d] 145)).alloc (Obj.cells #[.int .i64 x,.int .i64 0,.int .i64 until_,.string body] 99)).cell? ⟨w.heap.size,1,none⟩=some (.int .i64 y):=aA hbM (aC w _ _ 1);have q2:((w.alloc (Obj.cells #[.int .i64 x,.int .i64 y,.string d] 145)).alloc (Obj.cells #[.int .i64 x,.int .i64 0,.int .i64 until_,.string body] 99)).cell? ⟨w.heap.size,2,none⟩=some (.string d):=aA hbM (aC w _ _ 2);have m0:((w.alloc (Obj.cells #[.int .i64 x,.int .i64 y,.string d] 145)).alloc (Obj.cells #[.int .i64 x,.int .i64 0,.int .i64 until_,.string body] 99)).cell? ⟨w.heap.size+1,0,none⟩=some (.int .i64 x):=by simp
 unfold addQ;clear h hbM;by_cases hx:x=999999
 ·rw[if_pos hx];subst hx;go_enter Tryz.func115,Tryz.ntmps115;go_wp2;go_ret2;exact⟨rfl,HX.out.done⟩
 ·rw[if_neg hx];have dx:(x==999999)=false:=by simpa using hx
  have hw1:IntKind.i64.wrap (x+1)=x+1:=by rw[IntKind.wrap_i64];omega
  clear hx;generalize nA chs name x 0 until_ body=chs1 at *;generalize mK chs name x 0 until_ body=f1 at *;generalize qL chs1 name (x+1) y d=chs2 at *;generalize rA chs1 name (x+1) y d=f2 at *;by_cases h1:f1=0
  ·subst h1;rw[if_pos rfl];go_enter Tryz.func115,Tryz.ntmps115;go_wp2_with (first
    | (go_at_call 148;refine(HPM.out _ HXM.out.qv).mono ?_;rintro e w1 ⟨rfl,ha⟩;obtain⟨S1,hq1,hs1⟩:=ha;obtain⟨hx1,eb⟩:=HXM.out.go hq1 hs1;obtain⟨em,nm⟩:=HQ.out.new hs1 (k:=w.heap.size+1) (by omega) (by simp);replace q0:=(World.cell?_of_block eb).trans q0;replace q1:=(World.cell?_of_block eb).trans q1;replace q2:=(World.cell?_of_block eb).trans q2;replace m0:=(World.cell?_of_block em).trans m0;have fz:=hx1.fz;have HX1:=hide hx1;have HNM:=hide nm;clear hx1 eb em nm hq1 hs1;rw[bX])
    | fail)
   have HX2:=hide (HX1.out.set HLO.out 0 (.int .i64 (x+1)));have hz1:=HX1.out.hi;have u0:(w1.setCell ⟨w.heap.size,0,none⟩ (.int .i64 (x+1))).cell? ⟨w.heap.size,0,none⟩=some (.int .i64 (x+1)):=World.cell?_setCell_same _ _ _ q0;have u1:(w1.setCell ⟨w.heap.size,0,none⟩ (.int .i64 (x+1))).cell? ⟨w.heap.size,1,none⟩=some (.int .i64 y):=(World.cell?_setCell_other _ _ _ _ (by simp)).trans q1;have u2:(w1.setCell ⟨w.heap.size,0,none⟩ (.int .i64 (x+1))).cell? ⟨w.heap.size,2,none⟩=some (.string d):=(World.cell?_setCell_other _ _ _ _ (by simp)).trans q2;have v0:(w1.setCell ⟨w.heap.size,0,none⟩ (.int .i64 (x+1))).cell? ⟨w.heap.size+1,0,none⟩=some (.int .i64 x):=(World.cell?_setCell_other _ _ _ _ (by simp)).trans m0;generalize (w1.setCell ⟨w.heap.size,0,none⟩ (.int .i64 (x+1)))=W at *;clear q0 q1 q2 m0 fz HX1 hz1
   go_region_with (first
    | (go_at_call 111;refine(HPQ.out _ _ (HX2.out.qv.on (Below.refl _ _).drew)).mono ?_;rintro e w4 ⟨rfl,ha⟩;obtain⟨S4,hq4,hs4⟩:=ha;obtain⟨hx4,_⟩:=(HX2.out.on (Below.refl _ _).drew).go hq4 hs4;have v4:w4.cell? ⟨w.heap.size+1,0,none⟩=some (.int .i64 x):=(World.cell?_of_block (hs4.far (w.heap.size+1) (World.block_lt_of_cell? _ _ v0) HNM.out).1).trans v0;have HX4:=hide hx4;clear hx4 hq4 hs4)
    | fail)
   all_goals
    go_wp2;go_ret2;exact⟨rfl,HX4.out.done⟩
  ·rw[if_neg h1];have HE1:=hide (bJ h1);clear h1;go_enter Tryz.func115,Tryz.ntmps115;go_wp2_with (first
    | (go_at_call 148;refine(HPM.out _ HXM.out.qv).mono ?_;rintro e w1 ⟨rfl,ha⟩;obtain⟨S1,hx1,eb⟩:=HXM.out.act ha;have HX1:=hide hx1;clear hx1 eb ha;rw[HE1.out])
    | fail)
   go_ret2;exact⟨HE1.out▸rfl,HX1.out.done⟩
end
section
open Go.RowKit Go.Joins Go.Shelf Go.WideShapes
attribute [local go_sem ↓] Go.wp_at_zero Go.wp_at_succ
def atB (ao:Option Addr) (k:Nat):Prop:=∃ off,ao=some ⟨k,off,none⟩
structure RWx (w:World) (rb:Nat) (ra:Option Addr) (rc:Nat) (ca:Option Addr) (cc:Nat) (sa:Option Addr) (sc:Nat) (P:Rws) (since:Sn) (chs:List Chg) (rds:Rws):Prop where
 c0:w.cell? ⟨rb,0,none⟩=some (.slice ra P.length rc)
 c1:w.cell? ⟨rb,1,none⟩=some (.int .i64 since.n)
 c2:w.cell? ⟨rb,2,none⟩=some (.slice ca chs.length cc)
 c3:w.cell? ⟨rb,3,none⟩=some (.slice sa rds.length sc)
 soft:∀ j,w.frozen? ⟨rb,j,none⟩=false
 hP:bY w ra P
 nP:ra=none->rc=0/\P=[]
 hC:bW w ca chs
 hR:bY w sa rds
def inRW (rb:Nat) (ra ca sa:Option Addr) (P:Rws) (chs:List Chg) (rds:Rws) (k:Nat):Prop:=k=rb∨(P≠[]/\atB ra k)∨(chs≠[]/\atB ca k)∨(rds≠[]/\atB sa k)
def RW (w:World) (rb:Nat) (G:Nat->Prop) (P:Rws) (since:Sn) (chs:List Chg) (rds:Rws):Prop:=∃ ra rc ca cc sa sc,RWx w rb ra rc ca cc sa sc P since chs rds/\(G=inRW rb ra ca sa P chs rds)/\(∀ k,atB ra k->P≠[]->k≠rb)/\(∀ k,atB ca k->chs≠[]->k≠rb)/\(∀ k,atB sa k->rds≠[]->k≠rb)
theorem qP {w:World} {B:Nat} {v:Value} {l:List Chg} (h:bO w B v l):∃ ao cap,v=.slice ao l.length cap/\bW w ao l/\∀ k,atB ao k->B<=k:=by
 rcases aX h with⟨rfl,h0⟩|⟨g,cap,rfl,hg,_⟩
 ·have e:l=[]:=List.length_eq_zero_iff.1 h0;subst e;exact⟨none,0,rfl,.inl rfl,fun k e=>by obtain⟨_,e⟩:=e;cases e⟩
 ·refine⟨_,cap,rfl,.inr ⟨g,0,rfl,eW l 0 fun j u hj=>?_⟩,fun k e=>by obtain⟨_,e⟩:=e;cases e;exact hg⟩;have:=World.ownsRow.cells h (g:=g) rfl j u hj;rwa [Go.WideShapes.add_plain] at this
end
section
open Go.RowKit Go.Joins Go.Shelf
attribute [local go_sem ↓] Go.wp_at_zero Go.wp_at_succ
theorem zFb {B2:Nat} {mv:Value} {mk:List Chg} {B wb:Nat} {S:Nat->Prop} {P:Rws} {since:Sn} {chs:List Chg} {rds:Rws} (w:World) (h:QV w B wb S P since chs rds) (hm:bO w B2 mv mk) (hn:mk.length<=12) (hk:∀ c∈mk,c.key.size<=60) (hr:rises mk) (ho:OkQ P mk):
  Calls Tryz.prog 174 #[.pointer (some ⟨wb,0,none⟩),mv] w fun e w'=>e=.returned (.tuple #[])/\ActQ w w' B wb S P since mk rds:=
 (zLZ w h.pv hm hn hk hr).mono fun _ _ ⟨he,ha⟩=>⟨he,h.act ho ha⟩
theorem zET {a0 a1 a2 a3 a4:Value} {n:Int} {f:Nat} {chs':List Chg} {rds':Rws} {B wb:Nat} {S:Nat->Prop} {P:Rws} {since:Sn} {chs:List Chg} {rds:Rws} (w:World) (h:QV w B wb S P since chs rds)
  (hc:∀ W,Below w.heap.size w W->Calls Tryz.prog 114 #[a0,a1,a2,a3,a4] W fun e w'=>e=.returned (.tuple #[.int .i64 n,errV f])/\ActQ W w' B wb S P since chs' rds'):
  Calls Tryz.prog 113 #[.pointer (some ⟨wb,0,none⟩),.func (.func 114) #[] #[a0,a1,a2,a3,a4]] w fun e w'=>e=.returned (.tuple #[.int .i64 (if f=0 then n else 0),errV f])/\ActQ w w' B wb S P since (if f=0 then chs' else chs) rds':=by
 have n1:=bM 114;have HQ:=hide h;have HC:=hide hc;have HMK:=hide (zFs w h.pv);clear h hc;by_cases hf:f=0
 ·subst hf;rw[if_pos rfl,if_pos rfl];go_enter Tryz.func113,Tryz.ntmps113;go_wp2_with (first
   | (go_at_call 173;refine HMK.out.mono ?_;rintro e w1 ⟨mv,rfl,ho,hb1⟩;obtain⟨ma1,mc1,hmv,_,_⟩:=qP ho;subst hmv;have HB1:=hide hb1;clear ho hb1)
   | (go_at_call 114;refine(HC.out _ HB1.out).mono ?_;rintro e w2 ⟨rfl,ha⟩;have HA:=hide (HQ.out.pre HB1.out ha);clear ha;rw[bX])
   | fail)
  go_ret2;exact⟨rfl,HA.out⟩
 ·rw[if_neg hf,if_neg hf];have HE:=hide (bJ hf);clear hf;go_enter Tryz.func113,Tryz.ntmps113;go_wp2_with (first
   | (go_at_call 173;refine HMK.out.mono ?_;rintro e w1 ⟨mv,rfl,ho,hb1⟩;obtain⟨ma1,mc1,hmv,_,_⟩:=qP ho;subst hmv;have HB1:=hide hb1;have HO:=hide ho;clear ho hb1)
   | (go_at_call 114;refine(HC.out _ HB1.out).mono ?_;rintro e w2 ⟨rfl,ha⟩;obtain⟨S2,hq2,hs2⟩:=ha;have HO2:=hide (aI HO.out fun k e=>(HQ.out.new hs2 (World.ownsRow.lt HO.out k e).1 (World.ownsRow.lt HO.out k e).2).1);have HQ2:=hide hq2;have HS2:=hide hs2;clear hq2 hs2;rw[HE.out])
   | (go_at_call 174;refine(zFb _ HQ2.out HO2.out HQ.out.pv.ok.cn HQ.out.pv.ok.ck HQ.out.pv.ok.cr HQ.out.ok).mono ?_;rintro e w3 ⟨rfl,ha⟩;have HA:=hide (HQ.out.pre HB1.out (ActQ.after HS2.out ha));clear ha)
   | fail)
  go_ret2;exact⟨HE.out▸rfl,HA.out⟩
end
end Go.Proofs.YtnboipekkahmnaaGreatDoor
