import Derived.Test.YtcfjimdfegejaaaGreatDoorQ09
import Derived.Test.YtcfjimdfegejaaaGreatDoorQ10
set_option maxHeartbeats 8000000
set_option maxRecDepth 100000
namespace Go.Proofs.YtcfjimdfegejaaaGreatDoor
open Nat renaming lt_of_lt_of_le→UY,zero_le→OZ
open Go.Proofs.Tryz
open World renaming cell?_of_block→b_,cell?_setCell_other→t_,cell?_setCell_same→u_
open Go.RowKit.Below renaming heap_setCell→h_,refl→r_
open Nat renaming le_refl→n_
open Go.Proofs.Tryz renaming prog→p_
open Value renaming string→v_,int→i_
open Go.Joins renaming below_alloc1→a_
variable {P ga:ta} {ba l:List ma} {c:ma} {w1 w w2:World} {B wb:Nat} {S S2:Nat->Prop} {since:Sn}
section
open Go.RowKit Go.Joins
structure Rl (P:ta) (ba:List ma):Prop where
 rk:∀ r∈P,Fc r.1.data.toList=true/\r.2.size<=40
 cf:∀ c∈ba,aD c=0
theorem Rl.ck (h:Rl P ba):∀ c∈ba,Fc c.key.data.toList=true/\c.val.size<=40:=fun c hc=>oO (h.cf c hc)
theorem zEL (h:cH l c=0):aD c=0:=by
 unfold cH at h;split at h
 ·assumption
 ·exact h
theorem Rl.alter (h:Rl P ba) (c:ma):Rl P (bG ba c):=by
 unfold bG;split
 ·rename_i hf;exact⟨h.rk,fun x hx=>(vU hx).elim (fun e=>by rw[e];exact zEL hf) (h.cf x)⟩
 ·exact h
end
section
open Go.RowKit Go.Joins Go.Shelf
theorem zHC {key:BA} (h:qB l key=some c):c∈l:=by
 unfold qB at h;split at h
 ·exact List.mem_of_getElem? h
 ·cases h
theorem zMo (l:ta) (key:BA):Ib l key=(⟨#[]⟩,false)∨∃ r∈l,Ib l key=(r.2,true):=by
 unfold Ib;split
 ·rename_i r h;exact .inr ⟨r,List.mem_of_find?_eq_some h,rfl⟩
 ·exact .inl rfl
theorem uU (h:Rl P ba) (ga:ta) (key:BA):(Rb ba ga P key).1.size<=40:=by
 unfold Rb;split
 ·split
  ·rename_i c hc;exact(h.ck c (zHC hc)).2
  ·split
   ·rcases zMo P key with e|⟨r,hr,e⟩
    ·rw[e];exact OZ _
    ·rw[e];exact(h.rk r hr).2
   ·exact OZ _
 ·exact OZ _
theorem zMy {l:ta} {r:BA×BA} (h:r∈gg l c):r∈l∨r=(c.key,c.val):=by
 unfold gg at h;rcases List.mem_append.1 h with h|h
 ·rcases List.mem_append.1 h with h|h
  ·exact .inl (List.mem_of_mem_take h)
  ·split at h
   ·simp at h
   ·simp at h;exact .inr h
 ·exact .inl (List.mem_of_mem_drop h)
theorem tB (h:Rl P ba) (s:BA×BA):∀ r∈aF P ba s,Fc r.1.data.toList=true/\r.2.size<=40:=by
 have gen:∀ (cs:List ma) (l:ta),(∀ r∈l,Fc r.1.data.toList=true/\r.2.size<=40)->(∀ c∈cs,Fc c.key.data.toList=true/\c.val.size<=40)->∀ r∈gP l s cs,Fc r.1.data.toList=true/\r.2.size<=40:=by
  intro cs
  induction cs with
  | nil=>intro l hl _ r hr;exact hl r hr
  | cons c cs ih=>
   intro l hl hc r hr;have e:gP l s (c::cs)=gP (if Fb s.1 s.2 c.key then gg l c else l) s cs:=rfl;rw[e] at hr;refine ih _ ?_ (fun x hx=>hc x (List.mem_cons_of_mem _ hx)) r hr;intro x hx;split at hx
   ·rcases zMy hx with h|rfl
    ·exact hl x h
    ·exact hc c (List.mem_cons_self ..)
   ·exact hl x hx
 exact gen ba _ (fun r hr=>h.rk r (List.mem_filter.1 hr).1) h.ck
structure QV (w:World) (B wb:Nat) (S:Nat->Prop) (P:ta) (since:Sn) (ba:List ma) (ga:ta):Prop where
 pv:PV w B wb S P since ba ga
 ok:Rl P ba
 la:∀ W,Below B w W->Yd W
def Hb (w w':World) (B wb:Nat) (S:Nat->Prop) (P:ta) (since:Sn) (ba:List ma) (ga:ta):Prop:=∃ S',QV w' B wb S' P since ba ga/\aG w w' B S S'
section
variable {w w':World} {B wb:Nat} {S:Nat->Prop} {P:ta} {since:Sn} {ba Sa:List ma} {ga Wa:ta}
theorem QV.laid (h:QV w B wb S P since ba ga):Yd w:=h.la w (r_ _ _)
theorem QV.on (h:QV w B wb S P since ba ga) (hb:Below w.heap.size w w'):QV w' B wb S P since ba ga:=⟨h.pv.on hb,h.ok,fun W hW=>h.la W ((hb.mono h.pv.lo).trans hW)⟩
theorem QV.act (h:QV w B wb S P since ba ga) (hk:Rl P Sa) (ha:Zo w w' B wb S P since Sa Wa):Hb w w' B wb S P since Sa Wa:=by
 obtain⟨S',hp,hs⟩:=ha;exact⟨S',⟨hp,hk,fun W hW=>h.la W (hs.Ia.trans hW)⟩,hs⟩
theorem QV.pre (h:QV w B wb S P since ba ga) (hb:Below w.heap.size w w1) (ha:Hb w1 w' B wb S P since Sa Wa):Hb w w' B wb S P since Sa Wa:=by
 obtain⟨S',hp,hs⟩:=ha;exact⟨S',hp,(aG.on h.pv.lo hb).trans hs⟩
theorem Hb.post (ha:Hb w w1 B wb S P since Sa Wa) (hb:Below w1.heap.size w1 w'):Hb w w' B wb S P since Sa Wa:=by
 obtain⟨S',hp,hs⟩:=ha;exact⟨S',hp.on hb,hs.trans (.on hp.pv.lo hb)⟩
end
theorem Hb.after {S1:Nat->Prop} (hs:aG w w1 B S S1) (ha:Hb w1 w2 B wb S1 P since ba ga):Hb w w2 B wb S P since ba ga:=by
 obtain⟨S2,hq,h2⟩:=ha;exact⟨S2,hq,hs.trans h2⟩
structure ve (w w2:World) (B wb bx:Nat) (S S':Nat->Prop) (P:ta) (since:Sn) (ba:List ma) (ga:ta):Prop where
 qv:QV w2 B wb S' P since ba ga
 st:aG w w2 B S S'
 nb:¬S' bx
 lo:w.heap.size<=bx
 hi:bx<w2.heap.size
 fz:∀ j,w2.frozen? ⟨bx,j,none⟩=false
section
variable {w w1 w2:World} {B wb bx:Nat} {S S':Nat->Prop} {P:ta} {since:Sn} {ba Sa:List ma} {ga Wa:ta}
theorem ve.start (h:QV w B wb S P since ba ga) (vs:Array Value) (t:TypeId):ve w (w.alloc (.cells vs t)) B wb w.heap.size S S P since ba ga:=
 have hb:=a_ w (.cells vs t)
 ⟨h.on hb,.on h.pv.lo hb,fun e=>by have:=h.pv.lt e;omega,n_ _,by simp,fun j=>aQ _ _ _ j⟩
theorem ve.on (h:ve w w1 B wb bx S S' P since ba ga) (hb:Below w1.heap.size w1 w2):ve w w2 B wb bx S S' P since ba ga:=
 ⟨h.qv.on hb,h.st.trans (.on h.qv.pv.lo hb),h.nb,h.lo,UY h.hi hb.size,fun j=>aE hb h.hi (h.fz j)⟩
theorem ve.act (h:ve w w1 B wb bx S S' P since ba ga) (ha:Hb w1 w2 B wb S' P since Sa Wa):∃ S2,ve w w2 B wb bx S S2 P since Sa Wa/\w2.heap[bx]?=w1.heap[bx]?:=by
 obtain⟨S2,hq,hs⟩:=ha;obtain⟨e,n⟩:=hs.Ma bx h.hi h.nb;exact⟨S2,⟨hq,h.st.trans hs,n,h.lo,UY h.hi hs.Ia.size,fun j=>(World.frozen?_of_block (w:=w1) e).trans (h.fz j)⟩,e⟩
theorem ve.set (h:ve w w1 B wb bx S S' P since ba ga) (hB:B<=w.heap.size) (j:Nat) (v:Value):ve w (w1.setCell ⟨bx,j,none⟩ v) B wb bx S S' P since ba ga:=by
 have hs:∀ k,k≠bx->(w1.setCell ⟨bx,j,none⟩ v).heap[k]?=w1.heap[k]?:=fun k hk=>h_ _ _ _ _ hk;have hl:=h.lo;refine⟨⟨h.qv.pv.kept (by simp) fun k hk=>hs k fun e=>h.nb (e▸hk),h.qv.ok,fun W hW=>h.qv.la W (((r_ B w1).setCell (p:=⟨bx,j,none⟩) (by show B<=bx;omega) v).trans hW)⟩,⟨h.st.Ia.setCell (p:=⟨bx,j,none⟩) (by show B<=bx;omega) v,fun k hk hn=>?_⟩,h.nb,h.lo,by simpa using h.hi,fun k=>by rw[World.frozen?_setCell];exact h.fz k⟩;obtain⟨a,b⟩:=h.st.Ma k hk hn;exact⟨(hs k (by omega)).trans a,b⟩
theorem ve.done (h:ve w w1 B wb bx S S' P since ba ga):Hb w w1 B wb S P since ba ga:=⟨S',h.qv,h.st⟩
end
theorem KJ (key val:BA) (w:World) (h:QV w B wb S P since ba ga) (hk:key.size<=maxLen):
  Calls p_ 28 #[.pointer (some ⟨wb,0,none⟩),.string key,.string val] w fun e w'=>e=.returned (pa (cH ba ⟨key,val,false⟩))/\Hb w w' B wb S P since (bG ba ⟨key,val,false⟩) ga:=
 (zIB key val w h.pv hk lD).mono fun _ _ ⟨he,ha⟩=>⟨he,h.act (h.ok.alter _) ha⟩
theorem uA (key:BA) (w:World) (h:QV w B wb S P since ba ga) (hk:key.size<=maxLen):
  Calls p_ 63 #[.pointer (some ⟨wb,0,none⟩),.string key] w fun e w'=>e=.returned (pa (cH ba ⟨key,⟨#[]⟩,true⟩))/\Hb w w' B wb S P since (bG ba ⟨key,⟨#[]⟩,true⟩) ga:=
 (zHv key w h.pv hk lD).mono fun _ _ ⟨he,ha⟩=>⟨he,h.act (h.ok.alter _) ha⟩
theorem QS (key:BA) (w:World) (h:QV w B wb S P since ba ga) (hk:key.size<=maxLen):
  Calls p_ 27 #[.pointer (some ⟨wb,0,none⟩),.string key] w fun e w'=>e=.returned (.tuple #[.string (Rb ba ga P key).1,.bool (Rb ba ga P key).2.1,pa (Rb ba ga P key).2.2])/\Hb w w' B wb S P since ba (Oe ba ga key):=
 (zMZ key w h.pv hk).mono fun _ _ ⟨he,ha⟩=>⟨he,h.act h.ok ha⟩
end
section
open Go.RowKit Go.Joins Go.Shelf
attribute [local go_sem ↓] Go.wp_at_zero Go.wp_at_succ
def aN (P:ta) (ba:List ma) (ga:ta) (name:BA):Int×Int×BA×Nat:=
 if bK name.data.toList then
  if (Rb ba ga P (Hc name)).2.2=0 then
   if (Rb ba ga P (Hc name)).2.1 then Fm (Rb ba ga P (Hc name)).1 else (0,0,⟨#[]⟩,5)
  else (0,0,⟨#[]⟩,(Rb ba ga P (Hc name)).2.2)
 else (0,0,⟨#[]⟩,3)
def bC (ba:List ma) (ga:ta) (name:BA):ta:=if bK name.data.toList then Oe ba ga (Hc name) else ga
abbrev qV (x:Int×Int×BA×Nat):Value:=.agg #[.int .i64 x.1,.int .i64 x.2.1,.string x.2.2.1]
theorem ZI (s:BA):(Hc s).size=s.size+2:=by
 have:=congrArg List.length (zMT s);simp at this;exact this
theorem kK (name:BA) (w:World) (h:QV w B wb S P since ba ga) (hn:name.size<=1000):
  Calls p_ 60 #[.pointer (some ⟨wb,0,none⟩),.string name] w fun e w'=>e=.returned (.tuple #[qV (aN P ba ga name),pa (aN P ba ga name).2.2.2])/\Hb w w' B wb S P since ba (bC ba ga name):=by
 have HX:=aa (ve.start h #[i_ .i64 0,i_ .i64 0,v_ ⟨#[]⟩] 118);have Ga:=aa h.pv.lo;have No:(Hc name).size<=maxLen:=by rw[ZI];unfold maxLen;omega
 have dp:=aa (uU h.ok ga (Hc name));have n1:=bM 77;clear h
 cases ni:bK name.data.toList with
 | false=>
  have eF:aN P ba ga name=(0,0,⟨#[]⟩,3):=by unfold aN;rw[ni];rfl
  have eL:bC ba ga name=ga:=by unfold bC;rw[ni];rfl
  rw[eF,eL];have Jl:=aa ni;clear ni eF eL;go_enter func60,ntmps60;go_wp2_with (first
   | (go_at_call 120;refine(kM name _).mono ?_;rintro e w1 ⟨rfl,rfl⟩;rw[Jl.out])
   | fail)
  exact bodyPost_ret (v:=.tuple #[qV (0,0,⟨#[]⟩,3),pa 3]) (by simp[pa,results,results60,go_sem]) rfl ⟨rfl,HX.out.done⟩
 | true=>
  have eL:bC ba ga name=Oe ba ga (Hc name):=by unfold bC;rw[ni];rfl
  have eF:aN P ba ga name=if (Rb ba ga P (Hc name)).2.2=0 then (if (Rb ba ga P (Hc name)).2.1 then Fm (Rb ba ga P (Hc name)).1 else (0,0,⟨#[]⟩,5)) else (0,0,⟨#[]⟩,(Rb ba ga P (Hc name)).2.2):=by unfold aN;rw[ni];rfl
  rw[eF,eL];have Jl:=aa ni;clear ni eF eL;have Wj:=aa (fun W hW=>QS (Hc name) (B:=B) (wb:=wb) (S:=S) (P:=P) (since:=since) (ba:=ba) (ga:=ga) W hW No);generalize Rb ba ga P (Hc name)=gp at *;obtain⟨tx,is,er⟩:=gp;obtain⟨r0,r1,r2,-⟩:=Nf w RX rfl rfl;by_cases h0:er=0
  ·subst h0
   cases is with
   | false=>
    rw[if_pos rfl,if_neg (by simp)];go_enter func60,ntmps60;go_wp2_with (first
     | (go_at_call 120;refine(kM name _).mono ?_;rintro e w1 ⟨rfl,rfl⟩;rw[Jl.out])
     | (go_at_call 121;refine(qZ name _ (by omega)).mono ?_;rintro e w1 ⟨rfl,rfl⟩)
     | (go_at_call 27;refine(Wj.out _ HX.out.qv).mono ?_;rintro e w2 ⟨rfl,ha⟩;obtain⟨S2,Qe,eb⟩:=HX.out.act ha;have xg:=aa Qe;have fz:=Qe.fz;replace r0:=(b_ eb).trans r0;replace r1:=(b_ eb).trans r1;replace r2:=(b_ eb).trans r2;clear ha Qe eb;rw[show pa 0=Value.nilIface from rfl])
     | fail)
    exact bodyPost_ret (v:=.tuple #[qV (0,0,⟨#[]⟩,5),pa 5]) (by simp[pa,results,results60,go_sem,r0,r1,r2]) rfl ⟨rfl,(((xg.out.set Ga.out 0 _).set Ga.out 1 _).set Ga.out 2 _).done⟩
   | true=>
    rw[if_pos rfl,if_pos rfl];go_enter func60,ntmps60;go_wp2_with (first
     | (go_at_call 120;refine(kM name _).mono ?_;rintro e w1 ⟨rfl,rfl⟩;rw[Jl.out])
     | (go_at_call 121;refine(qZ name _ (by omega)).mono ?_;rintro e w1 ⟨rfl,rfl⟩)
     | (go_at_call 27;refine(Wj.out _ HX.out.qv).mono ?_;rintro e w2 ⟨rfl,ha⟩;obtain⟨S2,Qe,eb⟩:=HX.out.act ha;have xg:=aa Qe;have fz:=Qe.fz;replace r0:=(b_ eb).trans r0;replace r1:=(b_ eb).trans r1;replace r2:=(b_ eb).trans r2;clear ha Qe eb;rw[show pa 0=Value.nilIface from rfl])
     | (go_at_call 122;refine(zLt tx (by have:=dp.out;omega) _ xg.out.qv.laid).mono ?_;rintro e w3 ⟨rfl,Ra⟩;have Fv:=aa (xg.out.on Ra);have QM:=(xg.out.on Ra).fz;replace ⟨r0,r1,r2⟩:=Fe Ra r0 r1 r2;clear Ra)
     | fail)
    exact bodyPost_ret (v:=.tuple #[qV (Fm tx),pa (Fm tx).2.2.2]) (by simp[pa,results,results60,go_sem,r0,r1,r2]) rfl ⟨rfl,(((Fv.out.set Ga.out 0 _).set Ga.out 1 _).set Ga.out 2 _).done⟩
  ·rw[if_neg h0,bJ h0];have Wd:=aa (bJ h0);clear h0;go_enter func60,ntmps60;go_wp2_with (first
    | (go_at_call 120;refine(kM name _).mono ?_;rintro e w1 ⟨rfl,rfl⟩;rw[Jl.out])
    | (go_at_call 121;refine(qZ name _ (by omega)).mono ?_;rintro e w1 ⟨rfl,rfl⟩)
    | (go_at_call 27;refine(Wj.out _ HX.out.qv).mono ?_;rintro e w2 ⟨rfl,ha⟩;obtain⟨S2,Qe,eb⟩:=HX.out.act ha;have xg:=aa Qe;have fz:=Qe.fz;replace r0:=(b_ eb).trans r0;replace r1:=(b_ eb).trans r1;replace r2:=(b_ eb).trans r2;clear ha Qe eb;rw[Wd.out])
    | fail)
   exact bodyPost_ret (v:=.tuple #[qV (0,0,⟨#[]⟩,er),.iface 77 (.int .i64 er)]) (by simp[results,results60,go_sem,r0,r1,r2]) rfl ⟨rfl,(((xg.out.set Ga.out 0 _).set Ga.out 1 _).set Ga.out 2 _).done⟩
def rA (ba:List ma) (name:BA) (x y:Int) (d:BA):Nat:=if (mO x y d).2=0 then cH ba ⟨Hc name,(mO x y d).1,false⟩ else (mO x y d).2
def qL (ba:List ma) (name:BA) (x y:Int) (d:BA):List ma:=if (mO x y d).2=0 then bG ba ⟨Hc name,(mO x y d).1,false⟩ else ba
def mK (ba:List ma) (name:BA) (k x y:Int) (d:BA):Nat:=if (nD x y d).2=0 then cH ba ⟨Ta name (cP k),(nD x y d).1,false⟩ else (nD x y d).2
def nA (ba:List ma) (name:BA) (k x y:Int) (d:BA):List ma:=if (nD x y d).2=0 then bG ba ⟨Ta name (cP k),(nD x y d).1,false⟩ else ba
theorem bX:pa 0=.nilIface:=rfl
theorem oK (name:BA) (x y:Int) (d:BA) (w:World) (h:QV w B wb S P since ba ga) (hn:name.size<=1000) (hd:d.size<=1000):
  Calls p_ 102 #[.pointer (some ⟨wb,0,none⟩),.string name,.agg #[.int .i64 x,.int .i64 y,.string d]] w fun e w'=>e=.returned (pa (rA ba name x y d))/\Hb w w' B wb S P since (qL ba name x y d) ga:=by
 have HX:=aa (ve.start h #[i_ .i64 x,i_ .i64 y,v_ d] 118);have No:(Hc name).size<=maxLen:=by rw[ZI];unfold maxLen;omega
 have n1:=bM 77;unfold rA qL;have HT:=aa (fun W hL=>zFC x y d hd W hL);generalize mO x y d=qt at *;obtain⟨tx,er⟩:=qt;dsimp only at HT ⊢;clear h;by_cases h0:er=0
 ·subst h0;rw[if_pos rfl,if_pos rfl];go_enter func102,ntmps102;go_wp2_with (first
   | (go_at_call 179;refine(HT.out _ HX.out.qv.laid).mono ?_;rintro e w1 ⟨rfl,Ba⟩;have kg:=aa (HX.out.on Ba);clear Ba;rw[bX])
   | (go_at_call 121;refine(qZ name _ (by omega)).mono ?_;rintro e w2 ⟨rfl,rfl⟩)
   | (go_at_call 28;refine(KJ (Hc name) tx _ kg.out.qv No).mono ?_;rintro e w3 ⟨rfl,ha⟩;obtain⟨S2,Qe,_⟩:=kg.out.act ha;have xg:=aa Qe;clear ha Qe)
   | fail)
  go_ret;exact⟨rfl,xg.out.done⟩
 ·rw[if_neg h0,if_neg h0,bJ h0];have Wd:=aa (bJ h0);clear h0;go_enter func102,ntmps102;go_wp2_with (first
   | (go_at_call 179;refine(HT.out _ HX.out.qv.laid).mono ?_;rintro e w1 ⟨rfl,Ba⟩;have kg:=aa (HX.out.on Ba);clear Ba;rw[Wd.out])
   | fail)
  go_ret;exact⟨rfl,kg.out.done⟩
theorem tD {name:BA} (n:Nat) (h:name.size<=1000):(Ta name n).size<=maxLen:=by rw[pS];unfold maxLen;omega
theorem mI (name:BA) (k x y:Int) (d:BA) (w:World) (h:QV w B wb S P since ba ga) (hn:name.size<=1000) (Ih:-9223372036854775808<=k) (ml:k<=9223372036854775807):
  Calls p_ 118 #[.pointer (some ⟨wb,0,none⟩),.string name,.agg #[.int .i64 k,.int .i64 x,.int .i64 y,.string d]] w fun e w'=>e=.returned (pa (mK ba name k x y d))/\Hb w w' B wb S P since (nA ba name k x y d) ga:=by
 have HX:=aa (ve.start h #[i_ .i64 k,i_ .i64 x,i_ .i64 y,v_ d] 108);have No:=tD (name:=name) (cP k) hn;have n1:=bM 77;unfold mK nA;have HT:=aa (fun W hL=>zG0 k x y d W hL);generalize nD x y d=qt at *;obtain⟨tx,er⟩:=qt;dsimp only at HT ⊢;clear h;by_cases h0:er=0
 ·subst h0;rw[if_pos rfl,if_pos rfl];have r0:(w.alloc (EX k x y d)).cell? ⟨w.heap.size,0,none⟩=some (i_ .i64 k):=by simp
  go_enter func118,ntmps118;go_wp2_with (first
   | (go_at_call 189;refine(HT.out _ HX.out.qv.laid).mono ?_;rintro e w1 ⟨rfl,Ba⟩;have kg:=aa (HX.out.on Ba);replace r0:=aA Ba r0;clear Ba;rw[bX])
   | (go_at_call 115;refine(iE name k _ (by omega) Ih ml kg.out.qv.laid.tab).mono ?_;rintro e w2 ⟨rfl,za⟩;replace kg:=aa (kg.out.on za);replace r0:=aA za r0;clear za)
   | (go_at_call 28;refine(KJ (Ta name (cP k)) tx _ kg.out.qv No).mono ?_;rintro e w3 ⟨rfl,ha⟩;obtain⟨S2,Qe,_⟩:=kg.out.act ha;have xg:=aa Qe;clear ha Qe)
   | fail)
  go_ret;exact⟨rfl,xg.out.done⟩
 ·rw[if_neg h0,if_neg h0,bJ h0];have Wd:=aa (bJ h0);clear h0;go_enter func118,ntmps118;go_wp2_with (first
   | (go_at_call 189;refine(HT.out _ HX.out.qv.laid).mono ?_;rintro e w1 ⟨rfl,Ba⟩;have kg:=aa (HX.out.on Ba);clear Ba;rw[Wd.out])
   | fail)
  go_ret;exact⟨rfl,kg.out.done⟩
def qK (f:Nat):Nat:=if f=0 then 6 else if f=5 then 0 else f
theorem zJu (a b:Int) (W:World):(binOp .eql 42 (.iface 77 (.int .i64 a)) (.iface 77 (.int .i64 b))).run p_ W=.ok (.bool (a==b)) W:=by
 kernel_rfl
theorem zDo (name:BA) (w:World) (h:QV w B wb S P since ba ga) (hn:name.size<=1000):
  Calls p_ 101 #[.pointer (some ⟨wb,0,none⟩),.string name] w fun e w'=>e=.returned (pa (qK (aN P ba ga name).2.2.2))/\Hb w w' B wb S P since ba (bC ba ga name):=by
 have n1:=rD 77;have n2:=zJu;have HQ:=aa h;have HF:=aa (kK name w h hn);clear h;generalize aN P ba ga name=q at *;obtain⟨qx,qy,qd,er⟩:=q;dsimp only at HF ⊢;by_cases h0:er=0
 ·subst h0;go_enter func101,ntmps101;go_wp2_with (first
   | (go_at_call 60;refine HF.out.mono ?_;rintro e w1 ⟨rfl,ha⟩;have HA:=aa ha;clear ha;rw[bX])
   | fail)
  go_ret;exact⟨rfl,HA.out.post (a_ _ _)⟩
 ·by_cases h5:er=5
  ·subst h5;clear h0;have Wd:Hid (pa 5=.iface 77 (.int .i64 5)):=rfl;go_enter func101,ntmps101;go_wp2_with (first
    | (go_at_call 60;refine HF.out.mono ?_;rintro e w1 ⟨rfl,ha⟩;have HA:=aa ha;clear ha;rw[Wd.out])
    | fail)
   go_ret;exact⟨rfl,HA.out.post (a_ _ _)⟩
  ·have em:qK er=er:=by unfold qK;rw[if_neg h0,if_neg h5]
   rw[em,bJ h0];have Wd:=aa (bJ h0);have e5:((er:Int)==5)=false:=by simp;omega
   clear h0 h5 em;go_enter func101,ntmps101;go_wp2_with (first
    | (go_at_call 60;refine HF.out.mono ?_;rintro e w1 ⟨rfl,ha⟩;have HA:=aa ha;clear ha;rw[Wd.out])
    | fail)
   go_ret;exact⟨rfl,HA.out.post (a_ _ _)⟩
open Classical in
def fD (P:ta) (ba:List ma) (ga:ta) (name:BA) (tries:Int) (Ca:BA):Nat×List ma×ta:=
 if qK (aN P ba ga name).2.2.2=0 then
  if bc Ca name=true then (3,ba,bC ba ga name)
  else if Ca.toList.isEmpty=true then (rA ba name 0 tries Ca,qL ba name 0 tries Ca,bC ba ga name)
  else if (aN P ba (bC ba ga name) Ca).2.2.2=0 then (rA ba name 0 tries Ca,qL ba name 0 tries Ca,bC ba (bC ba ga name) Ca)
  else ((aN P ba (bC ba ga name) Ca).2.2.2,ba,bC ba (bC ba ga name) Ca)
 else (qK (aN P ba ga name).2.2.2,ba,bC ba ga name)
theorem zEK (name:BA) (tries:Int) (Ca:BA) (w:World) (h:QV w B wb S P since ba ga) (hn:name.size<=1000) (hd:Ca.size<=1000):
  Calls p_ 50 #[.pointer (some ⟨wb,0,none⟩),.string name,.int .i64 tries,.string Ca] w fun e w'=>e=.returned (pa (fD P ba ga name tries Ca).1)/\Hb w w' B wb S P since (fD P ba ga name tries Ca).2.1 (fD P ba ga name tries Ca).2.2:=by
 have n1:=bM 77;have HM:=aa (zDo name w h hn);have HF:=aa (fun (S1:Nat->Prop) (W:World) (hW:QV W B wb S1 P since ba (bC ba ga name))=>kK Ca W hW hd);unfold fD;clear h;generalize aN P ba (bC ba ga name) Ca=q2 at *;generalize qK (aN P ba ga name).2.2.2=f1 at *;generalize Lh:bC ba (bC ba ga name) Ca=Nh at *;generalize bC ba ga name=Ua at *;obtain⟨qx,qy,qd,er⟩:=q2;dsimp only at HF ⊢;clear Lh;by_cases h1:f1=0
 ·subst h1;rw[if_pos rfl];have Tc:=aa bX
  cases Bo:bc Ca name with
  | true=>
   have Rx:(Ca.toList==name.toList)=true:=Bo;rw[if_pos rfl];clear Bo;go_enter func50,ntmps50;go_wp2_with (first
    | (go_at_call 101;refine HM.out.mono ?_;rintro e w1 ⟨rfl,ha⟩;obtain⟨S1,Qa,Na⟩:=ha;have Kb:=aa Qa;have tc:=aa Na;clear Qa Na;rw[Tc.out])
    | fail)
   go_ret;exact⟨rfl,S1,Kb.out,tc.out⟩
  | false=>
   have Rx:(Ca.toList==name.toList)=false:=Bo;rw[if_neg (by simp)];clear Bo
   cases Ie:Ca.toList.isEmpty with
   | true=>
    have On:(Ca.toList==[])=true:=by rw[List.isEmpty_iff.1 Ie];rfl
    rw[if_pos rfl];clear Ie;go_enter func50,ntmps50;go_wp2_with (first
     | (go_at_call 101;refine HM.out.mono ?_;rintro e w1 ⟨rfl,ha⟩;obtain⟨S1,Qa,Na⟩:=ha;have Kb:=aa Qa;have tc:=aa Na;clear Qa Na;rw[Tc.out])
     | (go_at_call 102;refine(oK name 0 tries Ca _ Kb.out hn hd).mono ?_;rintro e w3 ⟨rfl,ha⟩;have HA:=aa (Hb.after tc.out ha);clear ha)
     | fail)
    go_ret;exact⟨rfl,HA.out⟩
   | false=>
    have On:(Ca.toList==[])=false:=by cases e:Ca.toList with|nil=>rw[e] at Ie;cases Ie|cons a l=>rfl
    rw[if_neg (by simp)];clear Ie;by_cases h2:er=0
    ·subst h2;rw[if_pos rfl];have Bd:=aa bX;go_enter func50,ntmps50;go_wp2_with (first
      | (go_at_call 101;refine HM.out.mono ?_;rintro e w1 ⟨rfl,ha⟩;obtain⟨S1,Qa,Na⟩:=ha;have Kb:=aa Qa;have tc:=aa Na;clear Qa Na;rw[Tc.out])
      | (go_at_call 60;refine(HF.out _ _ Kb.out).mono ?_;rintro e w2 ⟨rfl,ha⟩;obtain⟨S2,se,Ub⟩:=ha;have Ja:=a_ w2 (CX qx qy qd);have Cg:=aa (se.on Ja);have yf:=aa ((tc.out.trans Ub).trans (.on se.pv.lo Ja));clear se Ub Ja;rw[Bd.out])
      | (go_at_call 102;refine(oK name 0 tries Ca _ Cg.out hn hd).mono ?_;rintro e w3 ⟨rfl,ha⟩;have HA:=aa (Hb.after yf.out ha);clear ha)
      | fail)
     go_ret;exact⟨rfl,HA.out⟩
    ·rw[if_neg h2];have Bd:=aa (bJ h2);clear h2;go_enter func50,ntmps50;go_wp2_with (first
      | (go_at_call 101;refine HM.out.mono ?_;rintro e w1 ⟨rfl,ha⟩;obtain⟨S1,Qa,Na⟩:=ha;have Kb:=aa Qa;have tc:=aa Na;clear Qa Na;rw[Tc.out])
      | (go_at_call 60;refine(HF.out _ _ Kb.out).mono ?_;rintro e w2 ⟨rfl,ha⟩;obtain⟨S2,se,Ub⟩:=ha;have Ja:=a_ w2 (CX qx qy qd);have Cg:=aa (se.on Ja);have yf:=aa ((tc.out.trans Ub).trans (.on se.pv.lo Ja));clear se Ub Ja;rw[Bd.out])
      | fail)
     go_ret;exact⟨Bd.out▸rfl,_,Cg.out,yf.out⟩
 ·rw[if_neg h1];have Tc:=aa (bJ h1);clear h1;go_enter func50,ntmps50;go_wp2_with (first
   | (go_at_call 101;refine HM.out.mono ?_;rintro e w1 ⟨rfl,ha⟩;obtain⟨S1,Qa,Na⟩:=ha;have Kb:=aa Qa;have tc:=aa Na;clear Qa Na;rw[Tc.out])
   | fail)
  go_ret;exact⟨Tc.out▸rfl,S1,Kb.out,tc.out⟩
abbrev Xg:=Int×Int×Int×BA×Nat
abbrev mV (x:Xg):Value:=.agg #[.int .i64 x.1,.int .i64 x.2.1,.int .i64 x.2.2.1,.string x.2.2.2.1]
abbrev Xe (f:Nat):Xg:=(0,0,0,⟨#[]⟩,f)
def yH (t:BA×Bool×Nat) (n tries:Int):Xg:=
 if t.2.2=0 then if t.2.1=true then if (ud t.1 n).2.2.2.2=0 then if (ud t.1 n).2.1=tries then ud t.1 n else Xe 11 else Xe (ud t.1 n).2.2.2.2 else Xe 11 else Xe t.2.2
def dQ (P:ta) (ba:List ma) (ga:ta) (name:BA) (n tries:Int):Xg×ta:=
 if (aN P ba ga name).2.2.2=0 then
  if n<0∨999999<n∨tries<1 then (Xe 1,bC ba ga name)
  else (yH (Rb ba (bC ba ga name) P (Ta name (cP n))) n tries,Oe ba (bC ba ga name) (Ta name (cP n)))
 else (Xe (aN P ba ga name).2.2.2,bC ba ga name)
theorem zBw (name:BA) (n tries:Int) (w:World) (h:QV w B wb S P since ba ga) (hn:name.size<=1000):
  Calls p_ 114 #[.pointer (some ⟨wb,0,none⟩),.string name,.int .i64 n,.int .i64 tries] w fun e w'=>e=.returned (.tuple #[mV (dQ P ba ga name n tries).1,pa (dQ P ba ga name n tries).1.2.2.2.2])/\Hb w w' B wb S P since ba (dQ P ba ga name n tries).2:=by
 have HX:=aa (ve.start h #[i_ .i64 0,i_ .i64 0,i_ .i64 0,v_ ⟨#[]⟩] 108);have Ga:=aa h.pv.lo;have No:=tD (name:=name) (cP n) hn;have n1:=bM 77;have HF:=aa (fun (W:World) (hW:QV W B wb S P since ba ga)=>kK name W hW hn);have dp:=aa (uU h.ok (bC ba ga name) (Ta name (cP n)));have Wj:=aa (fun (S1:Nat->Prop) (W:World) (hW:QV W B wb S1 P since ba (bC ba ga name))=>QS (Ta name (cP n)) W hW No);obtain⟨r0,r1,r2,r3,-⟩:=kn w DX rfl rfl;unfold dQ;clear h;generalize aN P ba ga name=q at *;generalize Rb ba (bC ba ga name) P (Ta name (cP n))=t at *;generalize Oe ba (bC ba ga name) (Ta name (cP n))=Nh at *;generalize bC ba ga name=Ua at *;obtain⟨qx,qy,qd,er⟩:=q;dsimp only at HF Wj ⊢;refine dite (er=0) (fun h1=>?a) fun h1=>?z
 case' a=>
  subst h1;rw[if_pos rfl];have Tc:=aa bX;refine dite (n<0∨999999<n∨tries<1) (fun hb=>?b) fun hb=>?c
  case' b=>
   rw[if_pos hb];have d1:decide (n<0)=true∨decide (n<0)=false/\(decide (999999<n)=true∨decide (999999<n)=false/\decide (tries<1)=true):=by simp;omega
   rcases d1 with d1|⟨d1,d2|⟨d2,d3⟩⟩
  case' c=>
   rw[if_neg hb];have d1:decide (n<0)=false:=by simp;omega
   have d2:decide (999999<n)=false:=by simp;omega
   have d3:decide (tries<1)=false:=by simp;omega
   obtain⟨tx,is,eg⟩:=t;unfold yH;dsimp only at dp Wj ⊢;refine dite (eg=0) (fun h2=>?d) fun h2=>?y
   case' d=>
    subst h2;rw[if_pos rfl];have Bd:=aa bX
    cases is with
    | false=>?f
    | true=>?g
   case' f=>rw[if_neg (by simp)]
   case' g=>
    rw[if_pos rfl];have Ww:=aa (fun (W:World) (hL:Yd W)=>zDb tx n (by have:=dp.out;omega) W hL);generalize ud tx n=m at *;obtain⟨mk,mt,mu,md,em⟩:=m;dsimp only at Ww ⊢;refine dite (em=0) (fun h3=>?h) fun h3=>?x
    case' h=>
     subst h3;rw[if_pos rfl];have Pm:=aa bX;refine dite (mt=tries) (fun h4=>?i) fun h4=>?j
     case' i=>
      subst h4;rw[if_pos rfl];have d4:(mt==mt)=true:=by simp
     case' j=>
      rw[if_neg h4];have d4:(mt==tries)=false:=by simpa using h4
    case' x=>
     rw[if_neg h3];have Pm:=aa (bJ h3);clear h3
   case' y=>
    rw[if_neg h2];have Bd:=aa (bJ h2);clear h2
 case' z=>
  rw[if_neg h1];have Tc:=aa (bJ h1);clear h1
 all_goals
  go_enter func114,ntmps114;go_wp2_with (first
   | (go_at_call 60;refine(HF.out _ HX.out.qv).mono ?_;rintro e w1 ⟨rfl,ha⟩;obtain⟨S1,dh,eb⟩:=HX.out.act ha;replace r0:=(b_ eb).trans r0;replace r1:=(b_ eb).trans r1;replace r2:=(b_ eb).trans r2;replace r3:=(b_ eb).trans r3;have Ja:=a_ w1 (CX qx qy qd);replace ⟨r0,r1,r2,r3⟩:=Ij Ja r0 r1 r2 r3;have kg:=aa (dh.on Ja);have fz:=(dh.on Ja).fz;clear ha dh eb Ja;rw[Tc.out])
   | (go_at_call 115;refine(iE name n _ (by omega) (by omega) (by omega) kg.out.qv.laid.tab).mono ?_;rintro e w2 ⟨rfl,za⟩;replace ⟨r0,r1,r2,r3⟩:=Ij za r0 r1 r2 r3;replace kg:=aa (kg.out.on za);clear za fz)
   | (go_at_call 27;refine(Wj.out _ _ kg.out.qv).mono ?_;rintro e w3 ⟨rfl,ha⟩;obtain⟨S2,Qe,eb⟩:=kg.out.act ha;replace r0:=(b_ eb).trans r0;replace r1:=(b_ eb).trans r1;replace r2:=(b_ eb).trans r2;replace r3:=(b_ eb).trans r3;have xg:=aa Qe;have fz:=Qe.fz;clear ha Qe eb;rw[Bd.out])
   | (go_at_call 185;refine(Ww.out _ xg.out.qv.laid).mono ?_;rintro e w4 ⟨rfl,Eb⟩;have zz:=xg.out.on Eb;replace ⟨r0,r1,r2,r3⟩:=Ij Eb r0 r1 r2 r3;have Ja:=a_ w4 (EX mk mt mu md);replace ⟨r0,r1,r2,r3⟩:=Ij Ja r0 r1 r2 r3;have Fv:=aa (zz.on Ja);replace fz:=(zz.on Ja).fz;clear Eb zz Ja;rw[Pm.out])
   | fail)
 ·exact bodyPost_ret (v:=.tuple #[mV (Xe er),.iface 77 (.int .i64 er)]) (by simp[results,results114,go_sem,r0,r1,r2,r3]) rfl ⟨Tc.out▸rfl,((((kg.out.set Ga.out 0 _).set Ga.out 1 _).set Ga.out 2 _).set Ga.out 3 _).done⟩
 ·exact bodyPost_ret (v:=.tuple #[mV (Xe eg),.iface 77 (.int .i64 eg)]) (by simp[results,results114,go_sem,r0,r1,r2,r3]) rfl ⟨Bd.out▸rfl,((((xg.out.set Ga.out 0 _).set Ga.out 1 _).set Ga.out 2 _).set Ga.out 3 _).done⟩
 ·exact bodyPost_ret (v:=.tuple #[mV (Xe em),.iface 77 (.int .i64 em)]) (by simp[results,results114,go_sem,r0,r1,r2,r3]) rfl ⟨Pm.out▸rfl,((((Fv.out.set Ga.out 0 _).set Ga.out 1 _).set Ga.out 2 _).set Ga.out 3 _).done⟩
 ·exact bodyPost_ret (v:=.tuple #[mV (Xe 11),pa 11]) (by simp[pa,results,results114,go_sem,r0,r1,r2,r3]) rfl ⟨rfl,((((Fv.out.set Ga.out 0 _).set Ga.out 1 _).set Ga.out 2 _).set Ga.out 3 _).done⟩
 ·exact bodyPost_ret (v:=.tuple #[mV (mk,mt,mu,md,0),pa 0]) (by simp[pa,results,results114,go_sem,r0,r1,r2,r3]) rfl ⟨rfl,((((Fv.out.set Ga.out 0 _).set Ga.out 1 _).set Ga.out 2 _).set Ga.out 3 _).done⟩
 ·exact bodyPost_ret (v:=.tuple #[mV (Xe 11),pa 11]) (by simp[pa,results,results114,go_sem,r0,r1,r2,r3]) rfl ⟨rfl,((((xg.out.set Ga.out 0 _).set Ga.out 1 _).set Ga.out 2 _).set Ga.out 3 _).done⟩
 iterate 3
  ·exact bodyPost_ret (v:=.tuple #[mV (Xe 1),pa 1]) (by simp[pa,results,results114,go_sem,r0,r1,r2,r3]) rfl ⟨rfl,((((kg.out.set Ga.out 0 _).set Ga.out 1 _).set Ga.out 2 _).set Ga.out 3 _).done⟩
def fC (n:Int):Bool:=decide (0<=n)&&decide (n<=1000000)
theorem fI (n:Int) (w:World):Calls p_ 104 #[.int .i64 n] w fun e w'=>e=.returned (.bool (fC n))/\w'=w:=by
 unfold fC;by_cases h0:0<=n
 ·have d0:decide (0<=n)=true:=by simpa using h0
  rw[d0];by_cases h1:n<=1000000
  ·have d1:decide (n<=1000000)=true:=by simpa using h1
   rw[d1];go_enter func104,ntmps104;go_wp2;go_ret;exact⟨rfl,rfl⟩
  ·have d1:decide (n<=1000000)=false:=by simpa using h1
   rw[d1];go_enter func104,ntmps104;go_wp2;go_ret;exact⟨rfl,rfl⟩
 ·have d0:decide (0<=n)=false:=by simpa using h0
  rw[d0];go_enter func104,ntmps104;go_wp2;go_ret;exact⟨rfl,rfl⟩
def pk (P:ta) (ba:List ma) (ga:ta) (name:BA) (n tries:Int):Nat×List ma×ta:=
 if (dQ P ba ga name n tries).1.2.2.2.2=0 then (cH ba ⟨Ta name (cP n),⟨#[]⟩,true⟩,bG ba ⟨Ta name (cP n),⟨#[]⟩,true⟩,(dQ P ba ga name n tries).2)
 else ((dQ P ba ga name n tries).1.2.2.2.2,ba,(dQ P ba ga name n tries).2)
theorem zKS (name:BA) (n tries:Int) (w:World) (h:QV w B wb S P since ba ga) (hn:name.size<=1000) (Ih:-9223372036854775808<=n) (ml:n<=9223372036854775807):
  Calls p_ 56 #[.pointer (some ⟨wb,0,none⟩),.string name,.int .i64 n,.int .i64 tries] w fun e w'=>e=.returned (pa (pk P ba ga name n tries).1)/\Hb w w' B wb S P since (pk P ba ga name n tries).2.1 (pk P ba ga name n tries).2.2:=by
 have n1:=bM 77;have HH:=aa (zBw name n tries w h hn);have No:=tD (name:=name) (cP n) hn;unfold pk;clear h;generalize dQ P ba ga name n tries=q at *;obtain⟨⟨mk,mt,mu,md,em⟩,Ua⟩:=q;dsimp only at HH ⊢;by_cases h1:em=0
 ·subst h1;rw[if_pos rfl];go_enter func56,ntmps56;go_wp2_with (first
   | (go_at_call 114;refine HH.out.mono ?_;rintro e w1 ⟨rfl,ha⟩;obtain⟨S1,Qa,Na⟩:=ha;have Ja:=a_ w1 (EX mk mt mu md);have Kb:=aa (Qa.on Ja);have tc:=aa (Na.trans (.on Qa.pv.lo Ja));clear Qa Na Ja;rw[bX])
   | (go_at_call 115;refine(iE name n _ (by omega) Ih ml Kb.out.laid.tab).mono ?_;rintro e w2 ⟨rfl,za⟩;replace tc:=aa (tc.out.trans (.on Kb.out.pv.lo za));replace Kb:=aa (Kb.out.on za);clear za)
   | (go_at_call 63;refine(uA (Ta name (cP n)) _ Kb.out No).mono ?_;rintro e w3 ⟨rfl,ha⟩;have HA:=aa (Hb.after tc.out ha);clear ha)
   | fail)
  go_ret;exact⟨rfl,HA.out⟩
 ·rw[if_neg h1];have Tc:=aa (bJ h1);clear h1;go_enter func56,ntmps56;go_wp2_with (first
   | (go_at_call 114;refine HH.out.mono ?_;rintro e w1 ⟨rfl,ha⟩;obtain⟨S1,Qa,Na⟩:=ha;have Ja:=a_ w1 (EX mk mt mu md);have Kb:=aa (Qa.on Ja);have tc:=aa (Na.trans (.on Qa.pv.lo Ja));clear Qa Na Ja;rw[Tc.out])
   | fail)
  go_ret;exact⟨Tc.out▸rfl,_,Kb.out,tc.out⟩
def iZ (P:ta) (ba:List ma) (ga:ta) (name:BA) (n tries na:Int):Nat×List ma×ta:=
 if (dQ P ba ga name n tries).1.2.2.2.2=0 then
  if fC na=true then (mK ba name (dQ P ba ga name n tries).1.1 (dQ P ba ga name n tries).1.2.1 na (dQ P ba ga name n tries).1.2.2.2.1,nA ba name (dQ P ba ga name n tries).1.1 (dQ P ba ga name n tries).1.2.1 na (dQ P ba ga name n tries).1.2.2.2.1,(dQ P ba ga name n tries).2)
  else (1,ba,(dQ P ba ga name n tries).2)
 else ((dQ P ba ga name n tries).1.2.2.2.2,ba,(dQ P ba ga name n tries).2)
theorem zE9 (s:BA) (n:Int):(ud s n).1=n∨(ud s n).1=0:=by
 rcases oB s n with⟨t,u,d,e,_⟩|⟨e,_⟩
 ·rw[e];exact .inl rfl
 ·rw[e];exact .inr rfl
theorem zH7 (P:ta) (ba:List ma) (ga:ta) (name:BA) (n tries:Int):(dQ P ba ga name n tries).1.1=n∨(dQ P ba ga name n tries).1.1=0:=by
 unfold dQ;split
 ·split
  ·exact .inr rfl
  ·unfold yH;split
   ·split
    ·split
     ·split
      ·exact zE9 _ _
      ·exact .inr rfl
     ·exact .inr rfl
    ·exact .inr rfl
   ·exact .inr rfl
 ·exact .inr rfl
theorem zJo (name:BA) (n tries na:Int) (w:World) (h:QV w B wb S P since ba ga) (hn:name.size<=1000) (Ih:-9223372036854775808<=n) (ml:n<=9223372036854775807):
  Calls p_ 58 #[.pointer (some ⟨wb,0,none⟩),.string name,.int .i64 n,.int .i64 tries,.int .i64 na] w fun e w'=>e=.returned (pa (iZ P ba ga name n tries na).1)/\Hb w w' B wb S P since (iZ P ba ga name n tries na).2.1 (iZ P ba ga name n tries na).2.2:=by
 have n1:=bM 77;have HH:=aa (zBw name n tries w h hn);have Pr:=zH7 P ba ga name n tries;unfold iZ;clear h;generalize dQ P ba ga name n tries=q at *;obtain⟨⟨mk,mt,mu,md,em⟩,Ua⟩:=q;dsimp only at HH Pr ⊢;have qz:-9223372036854775808<=mk:=by omega
 have vl:mk<=9223372036854775807:=by omega
 clear Pr;by_cases h1:em=0
 ·subst h1;rw[if_pos rfl]
  cases Rj:fC na with
  | true=>
   rw[if_pos rfl];have Yk:=aa Rj;clear Rj;go_enter func58,ntmps58;go_wp2_with (first
    | (go_at_call 114;refine HH.out.mono ?_;rintro e w1 ⟨rfl,ha⟩;obtain⟨S1,Qa,Na⟩:=ha;have Kb:=aa Qa;have tc:=aa Na;clear Qa Na;rw[bX])
    | (go_at_call 104;refine(fI na _).mono ?_;rintro e w2 ⟨rfl,rfl⟩;rw[Yk.out])
    | (go_at_call 118;have Ja:=a_ w1 (EX mk mt na md);refine(mI name mk mt na md _ (Kb.out.on Ja) hn qz vl).mono ?_;rintro e w3 ⟨rfl,ha⟩;have HA:=aa (Hb.after (tc.out.trans (.on Kb.out.pv.lo Ja)) ha);clear ha Ja)
    | fail)
   go_ret;exact⟨rfl,HA.out⟩
  | false=>
   rw[if_neg (by simp)];have Yk:=aa Rj;clear Rj;go_enter func58,ntmps58;go_wp2_with (first
    | (go_at_call 114;refine HH.out.mono ?_;rintro e w1 ⟨rfl,ha⟩;obtain⟨S1,Qa,Na⟩:=ha;have Kb:=aa Qa;have tc:=aa Na;clear Qa Na;rw[bX])
    | (go_at_call 104;refine(fI na _).mono ?_;rintro e w2 ⟨rfl,rfl⟩;rw[Yk.out])
    | fail)
   go_ret;exact⟨rfl,_,Kb.out.on (a_ _ _),tc.out.trans (.on Kb.out.pv.lo (a_ _ _))⟩
 ·rw[if_neg h1];have Tc:=aa (bJ h1);clear h1;go_enter func58,ntmps58;go_wp2_with (first
   | (go_at_call 114;refine HH.out.mono ?_;rintro e w1 ⟨rfl,ha⟩;obtain⟨S1,Qa,Na⟩:=ha;have Kb:=aa Qa;have tc:=aa Na;clear Qa Na;rw[Tc.out])
   | fail)
  go_ret;exact⟨Tc.out▸rfl,_,Kb.out.on (a_ _ _),tc.out.trans (.on Kb.out.pv.lo (a_ _ _))⟩
def Me (ba:List ma) (name:BA) (x y:Int) (d body:BA) (na:Int):Int×Nat×List ma:=
 if x=999999 then (0,8,ba)
 else if mK ba name x 0 na body=0 then (x,rA (nA ba name x 0 na body) name (x+1) y d,qL (nA ba name x 0 na body) name (x+1) y d)
 else (0,mK ba name x 0 na body,nA ba name x 0 na body)
theorem QV.new (h:QV w B wb S P since ba ga) (hs:aG w1 w2 B S S2) {k:Nat} (h1:w.heap.size<=k) (h2:k<w1.heap.size):w2.heap[k]?=w1.heap[k]?/\¬S2 k:=
 hs.Ma k h2 fun e=>by have:=h.pv.lt e;omega
theorem ve.go {bx:Nat} {S':Nat->Prop} {Sa:List ma} {Wa:ta} (h:ve w w1 B wb bx S S' P since ba ga) (hq:QV w2 B wb S2 P since Sa Wa) (hs:aG w1 w2 B S' S2):ve w w2 B wb bx S S2 P since Sa Wa/\w2.heap[bx]?=w1.heap[bx]?:=by
 obtain⟨e,n⟩:=hs.Ma bx h.hi h.nb;exact⟨⟨hq,h.st.trans hs,n,h.lo,UY h.hi hs.Ia.size,fun j=>(World.frozen?_of_block (w:=w1) e).trans (h.fz j)⟩,e⟩
theorem zDU (name:BA) (x y:Int) (d body:BA) (na:Int) (w:World) (h:QV w B wb S P since ba ga) (hn:name.size<=1000) (hd:d.size<=1000) (jo:0<=x) (dh:x<=999999):
  Calls p_ 107 #[.pointer (some ⟨wb,0,none⟩),.string name,.agg #[.int .i64 x,.int .i64 y,.string d],.string body,.int .i64 na] w fun e w'=>e=.returned (.tuple #[.int .i64 (Me ba name x y d body na).1,pa (Me ba name x y d body na).2.1])/\Hb w w' B wb S P since (Me ba name x y d body na).2.2 ga:=by
 have n1:=bM 77;have HQ:=aa h;have Ga:=aa h.pv.lo;have HX:=aa (ve.start h #[i_ .i64 x,i_ .i64 y,v_ d] 118);have Ve:=a_ (w.alloc (CX x y d)) (UX x na body);have BH:=aa (HX.out.on Ve);have Ww:=aa (fun W (hW:QV W B wb S P since ba ga)=>mI name x 0 na body W hW hn (by omega) (by omega));have QL:=aa (fun (S1:Nat->Prop) W (hW:QV W B wb S1 P since (nA ba name x 0 na body) ga)=>oK name (x+1) y d W hW hn hd);have q0:((w.alloc (CX x y d)).alloc (UX x na body)).cell? ⟨w.heap.size,0,none⟩=some (.int .i64 x):=aA Ve (aC w _ _ 0);have q1:((w.alloc (CX x y d)).alloc (UX x na body)).cell? ⟨w.heap.size,1,none⟩=some (.int .i64 y):=aA Ve (aC w _ _ 1);have q2:((w.alloc (CX x y d)).alloc (UX x na body)).cell? ⟨w.heap.size,2,none⟩=some (.string d):=aA Ve (aC w _ _ 2);have m0:((w.alloc (CX x y d)).alloc (UX x na body)).cell? ⟨w.heap.size+1,0,none⟩=some (.int .i64 x):=by simp
 unfold Me;clear h Ve;by_cases hx:x=999999
 ·rw[if_pos hx];subst hx;go_enter func107,ntmps107;go_wp2;go_ret2;exact⟨rfl,HX.out.done⟩
 ·rw[if_neg hx];have dx:(x==999999)=false:=by simpa using hx
  have mg:IntKind.i64.wrap (x+1)=x+1:=by rw[IntKind.wrap_i64];omega
  clear hx;generalize nA ba name x 0 na body=df at *;generalize mK ba name x 0 na body=f1 at *;generalize qL df name (x+1) y d=UA at *;generalize rA df name (x+1) y d=f2 at *;by_cases h1:f1=0
  ·subst h1;rw[if_pos rfl];go_enter func107,ntmps107;go_wp2_with (first
    | (go_at_call 118;refine(Ww.out _ BH.out.qv).mono ?_;rintro e w1 ⟨rfl,ha⟩;obtain⟨S1,Qa,Na⟩:=ha;obtain⟨dh,eb⟩:=BH.out.go Qa Na;obtain⟨em,nm⟩:=HQ.out.new Na (k:=w.heap.size+1) (by omega) (by simp);replace q0:=(b_ eb).trans q0;replace q1:=(b_ eb).trans q1;replace q2:=(b_ eb).trans q2;replace m0:=(b_ em).trans m0;have fz:=dh.fz;have kg:=aa dh;have Jl:=aa nm;clear dh eb em nm Qa Na;rw[bX])
    | fail)
   have xg:=aa (kg.out.set Ga.out 0 (.int .i64 (x+1)));have Yc:=kg.out.hi;have u0:(w1.setCell ⟨w.heap.size,0,none⟩ (.int .i64 (x+1))).cell? ⟨w.heap.size,0,none⟩=some (.int .i64 (x+1)):=u_ _ _ _ q0;have u1:(w1.setCell ⟨w.heap.size,0,none⟩ (.int .i64 (x+1))).cell? ⟨w.heap.size,1,none⟩=some (.int .i64 y):=(t_ _ _ _ _ (by simp)).trans q1;have u2:(w1.setCell ⟨w.heap.size,0,none⟩ (.int .i64 (x+1))).cell? ⟨w.heap.size,2,none⟩=some (.string d):=(t_ _ _ _ _ (by simp)).trans q2;have v0:(w1.setCell ⟨w.heap.size,0,none⟩ (.int .i64 (x+1))).cell? ⟨w.heap.size+1,0,none⟩=some (.int .i64 x):=(t_ _ _ _ _ (by simp)).trans m0;generalize (w1.setCell ⟨w.heap.size,0,none⟩ (.int .i64 (x+1)))=W at *;clear q0 q1 q2 m0 fz kg Yc
   go_region_with (first
    | (go_at_call 102;refine(QL.out _ _ (xg.out.qv.on (r_ _ _).drew)).mono ?_;rintro e w4 ⟨rfl,ha⟩;obtain⟨S4,hq4,Po⟩:=ha;obtain⟨BF,_⟩:=(xg.out.on (r_ _ _).drew).go hq4 Po;have v4:w4.cell? ⟨w.heap.size+1,0,none⟩=some (.int .i64 x):=(b_ (Po.Ma (w.heap.size+1) (World.block_lt_of_cell? _ _ v0) Jl.out).1).trans v0;have HX4:=aa BF;clear BF hq4 Po)
    | fail)
   all_goals
    go_wp2;go_ret2;exact⟨rfl,HX4.out.done⟩
  ·rw[if_neg h1];have Tc:=aa (bJ h1);clear h1;go_enter func107,ntmps107;go_wp2_with (first
    | (go_at_call 118;refine(Ww.out _ BH.out.qv).mono ?_;rintro e w1 ⟨rfl,ha⟩;obtain⟨S1,dh,eb⟩:=BH.out.act ha;have kg:=aa dh;clear dh eb ha;rw[Tc.out])
    | fail)
   go_ret2;exact⟨Tc.out▸rfl,kg.out.done⟩
end
end Go.Proofs.YtcfjimdfegejaaaGreatDoor
