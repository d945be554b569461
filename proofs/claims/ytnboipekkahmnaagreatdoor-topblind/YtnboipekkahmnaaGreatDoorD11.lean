import Derived.Test.YtnboipekkahmnaaGreatDoorD10
set_option maxHeartbeats 8000000
set_option maxRecDepth 100000
namespace Go.Proofs.YtnboipekkahmnaaGreatDoor
section
open Go.RowKit Go.Joins Go.Shelf
attribute [local go_sem ↓] Go.wp_at_zero Go.wp_at_succ
theorem sA (l:List (ByteArray×ByteArray)):∀ u∈l.flatMap aV,u.oneCell'=true:=by
 intro u hu;obtain⟨r,_,hu⟩:=List.mem_flatMap.1 hu;simp[aV] at hu;rcases hu with rfl|rfl<;>rfl
theorem sK (l:List (ByteArray×ByteArray)) (i:Nat):(l.flatMap aV).take (i*2)=(l.take i).flatMap aV:=by
 induction l generalizing i with
 | nil=>simp
 | cons r l ih=>
  match i with
  | 0=>simp
  | i+1=>
   rw[List.flatMap_cons,List.take_succ_cons,List.flatMap_cons,<-ih i];show List.take ((i+1)*2) (Value.string r.1::Value.string r.2::l.flatMap aV)=_;rw[show(i+1)*2=i*2+1+1 by omega,List.take_succ_cons,List.take_succ_cons];rfl
theorem sO (l:List (ByteArray×ByteArray)) (i:Nat):(l.flatMap aV).drop (i*2)=(l.drop i).flatMap aV:=by
 induction l generalizing i with
 | nil=>simp
 | cons r l ih=>
  match i with
  | 0=>simp
  | i+1=>
   rw[List.flatMap_cons,List.drop_succ_cons,<-ih i];show List.drop ((i+1)*2) (Value.string r.1::Value.string r.2::l.flatMap aV)=_;rw[show(i+1)*2=i*2+1+1 by omega,List.drop_succ_cons,List.drop_succ_cons]
theorem zAh (v:Value) (B i n:Nat) (xs:List Value) (w:World) (ho:w.ownsRow B 165 2 v n xs) (hi:i<=n) (hn:n<=1000000):
  Calls Tryz.prog 225 #[v,.int .i64 i,.int .i64 i] w fun e w'=>e=.returned v/\w'=w:=by
 rcases aX ho with⟨rfl,rfl⟩|⟨g,cap,rfl,_,_,hc,hm⟩
 ·have e:i=0:=by omega
  subst e;clear ho;go_enter Tryz.func225,Tryz.ntmps225;go_wp2;go_ret;exact⟨rfl,rfl⟩
 ·have h1:(i:Int)<=(n:Int):=by omega
  have h2:(n:Int)<=(cap:Int):=by omega
  unfold maxLen at hm;clear ho;go_enter Tryz.func225,Tryz.ntmps225;go_wp2
  all_goals
   go_ret;exact⟨rfl,rfl⟩
theorem zY (B i n vb vc:Nat) (v:Value) (k u:ByteArray) (xs:List Value) (w:World) (ho:w.ownsRow B 165 2 v n xs) (hB:B<=w.heap.size) (hone:∀ x∈xs,x.oneCell'=true) (h0:w.cell? ⟨vb,0,none⟩=some (.string k)) (h1:w.cell? ⟨vb,1,none⟩=some (.string u))
  (hvb:v.ownBlock≠some vb) (tA:TypeId) (kA:Nat) (hsa:w.shape? vb=some (tA,kA)) (hfa:∀ j,w.frozen? ⟨vb,j,none⟩=false) (hi:i<=n) (hn:n<=1000000):
  Calls Tryz.prog 226 #[v,.int .i64 i,.int .i64 i,.slice (some ⟨vb,0,none⟩) 1 vc] w fun e w'=>lN w w' e B v (n+1) (xs.take (i*2)++([.string k,.string u]++xs.drop (i*2))):=by
 have HI:=hide (zI9 B i n vb vc v k u xs w ho hB hone h0 h1 hvb tA kA hsa hfa hi hn);rcases aX ho with⟨rfl,rfl⟩|⟨g,cap,rfl,_,_,hc,hm⟩
 ·have e:i=0:=by omega
  subst e;clear ho hone h0 h1 hsa hfa;go_enter Tryz.func226,Tryz.ntmps226;go_wp2_with (go_at_call 265;refine HI.out.mono ?_;rintro e w1 ⟨v',rfl,ho1,hg1⟩;have HO:=hide ho1;have HG:=hide hg1;clear ho1 hg1)
  go_ret;exact⟨_,rfl,HO.out,HG.out⟩
 ·have e1:(i:Int)<=(n:Int):=by omega
  have e2:(n:Int)<=(cap:Int):=by omega
  have e3:(i:Int)<=(cap:Int):=by omega
  unfold maxLen at hm;clear ho hone h0 h1 hsa hfa;go_enter Tryz.func226,Tryz.ntmps226;go_wp2_with (go_at_call 265;refine HI.out.mono ?_;rintro e w1 ⟨v',rfl,ho1,hg1⟩;have HO:=hide ho1;have HG:=hide hg1;clear ho1 hg1)
  all_goals
   go_ret;exact⟨_,rfl,HO.out,HG.out⟩
def zDl (w w':World) (e:Ending) (B:Nat) (l:List (ByteArray×ByteArray)):Prop:=∃ v',e=.returned v'/\ownP w' B v' l/\Below B w w'
theorem zHX {w w':World} {e:Ending} {B:Nat} {l:List (ByteArray×ByteArray)} {v:Value} (ho:ownP w B v l) (hB:B<=w.heap.size) (hb:Below w.heap.size w w') (he:e=.returned v):zDl w w' e B l:=⟨v,he,bQ ho hb,hb.mono hB⟩
theorem xL {w w1 w':World} {e:Ending} {B n:Nat} {l:List (ByteArray×ByteArray)} {v:Value} {xs ys:List Value} (ho:w1.ownsRow B 165 2 v n xs) (hB:B<=w.heap.size) (hb:Below w.heap.size w w1) {m:Nat} (hi:lN w1 w' e B v m ys) (hm:m=l.length) (hy:ys=l.flatMap aV):zDl w w' e B l:=by
 obtain⟨v',rfl,h1,h2⟩:=hi;subst hy hm;exact⟨v',rfl,h1,(hb.mono hB).grown h2 (Nat.le_trans hB hb.size) fun k e=>(World.ownsRow.lt ho k e).1⟩
theorem zJy (w:World) (C:Array Value) (t:TypeId):(w.alloc (.cells C t)).shape? w.heap.size=some (t,C.size):=by unfold World.shape?;rw[Go.heap_alloc_new]
theorem zMI (l:List (ByteArray×ByteArray)) (v:Value) (B:Nat) (c:Chg) (w:World) (ho:ownP w B v l) (hB:B<=w.heap.size) (hr:bV l) (hn:l.length<=100000):
  Calls Tryz.prog 163 #[v,.agg #[.string c.key,.string c.val,.bool c.gone]] w fun e w'=>zDl w w' e B (layR l c):=by
 have HO:=hide ho;have HR:=hide hr;have hB0:=below_alloc1 w (Obj.cells #[.string c.key,.string c.val,.bool c.gone] 133);have a0:(w.alloc (Obj.cells #[.string c.key,.string c.val,.bool c.gone] 133)).cell? ⟨w.heap.size,0,none⟩=some (.string c.key):=aC _ _ _ 0;have a1:(w.alloc (Obj.cells #[.string c.key,.string c.val,.bool c.gone] 133)).cell? ⟨w.heap.size,1,none⟩=some (.string c.val):=aC _ _ _ 1;have a2:(w.alloc (Obj.cells #[.string c.key,.string c.val,.bool c.gone] 133)).cell? ⟨w.heap.size,2,none⟩=some (.bool c.gone):=aC _ _ _ 2;have HB0:=hide hB0;have hple:=oG l c.key;have hfl:fK l c.key=true->cN l c.key<l.length:=zBG;have HLL:Hid (layR l c=l.take (cN l c.key)++(if c.gone then [] else [(c.key,c.val)])++l.drop (if fK l c.key then cN l c.key+1 else cN l c.key)):=rfl;obtain⟨va,vcap,rfl⟩:∃ ao cap,v=.slice ao l.length cap:=by
  obtain⟨ao,cap,e,_⟩:=lV ho;exact⟨ao,cap,e⟩
 have HPL:=fun W (hb:Below w.heap.size w W)=>hide (zFS l _ B c.key W (bQ HO.out hb) hr (by omega));clear ho hr hB0;generalize cN l c.key=p at *;generalize fK l c.key=f at *;generalize hgone:c.gone=gn at *;rw[HLL.out];have hlow:=fun k (e:(Value.slice va l.length vcap).ownBlock=some k)=>(World.ownsRow.lt HO.out k e).2;cases f
 ·cases gn
  ·
   simp only[Bool.false_eq_true,if_false];go_enter Tryz.func163,Tryz.ntmps163;go_wp2_with (first
    | (go_at_call 224;refine(HPL _ HB0.out).out.mono ?_;rintro e w1 ⟨rfl,hb1⟩;replace a0:=aA hb1 a0;replace a1:=aA hb1 a1;replace a2:=aA hb1 a2;have HB1:=hide (aB HB0.out (Nat.le_refl _) hb1);have hs1:=HB1.out.size;have HBX:=hide (aB HB1.out (Nat.le_refl _) (below_alloc1 w1 (Obj.cells #[.string c.key,.string c.val] 165)));clear hb1))
   have HRP:=hide (zY B p l.length w1.heap.size 1 (Value.slice va l.length vcap) c.key c.val (l.flatMap aV) _ (bQ HO.out HBX.out) (Nat.le_trans hB HBX.out.size) (sA l) (aC _ _ _ 0) (aC _ _ _ 1) (fun e=>by have:=hlow _ e;omega) 165 2 (zJy _ _ _) (fun j=>aQ _ _ _ j) hple (by omega));go_wp2_with (first
    | (go_at_call 226;refine HRP.out.mono ?_;rintro e w2 ⟨v',rfl,ho2,hg2⟩;have HI:Hid (lN (w1.alloc (Obj.cells #[.string c.key,.string c.val] 165)) w2 (.returned v') B (Value.slice va l.length vcap) (l.length+1) ((l.flatMap aV).take (p*2)++([.string c.key,.string c.val]++(l.flatMap aV).drop (p*2)))):=⟨v',rfl,ho2,hg2⟩;clear ho2 hg2))
   go_ret;exact xL (bQ HO.out HBX.out) hB HBX.out HI.out (by simp;omega) (by rw[sK,sO];simp[aV])
  ·simp only[Bool.false_eq_true,if_false,if_true];go_enter Tryz.func163,Tryz.ntmps163;go_wp2_with (first
    | (go_at_call 224;refine(HPL _ HB0.out).out.mono ?_;rintro e w1 ⟨rfl,hb1⟩;replace a0:=aA hb1 a0;replace a1:=aA hb1 a1;replace a2:=aA hb1 a2;have HB1:=hide (aB HB0.out (Nat.le_refl _) hb1);clear hb1)
    | (go_at_call 225;refine(zAh _ B p l.length (l.flatMap aV) _ (bQ HO.out HB1.out) hple (by omega)).mono ?_;rintro e w2 ⟨rfl,rfl⟩))
   go_ret;exact zHX (by rw[List.append_nil,List.take_append_drop];exact HO.out) hB HB1.out rfl
 ·have hpl:=hfl rfl;obtain⟨g,hva,hcl,hc63⟩:∃ g,va=some ⟨g,0,none⟩/\l.length<=vcap/\vcap<=9223372036854775807:=by
   rcases aX HO.out with⟨_,h0⟩|⟨g,cap,e,_,_,h1,h2⟩
   ·omega
   ·cases e;exact⟨g,rfl,h1,by unfold maxLen at h2;omega⟩
  subst hva;have e1:((p+1:Nat):Int)=(p:Int)+1:=by omega
  cases gn
  ·simp only[Bool.false_eq_true,if_false,if_true];go_enter Tryz.func163,Tryz.ntmps163;go_wp2_with (first
    | (go_at_call 224;refine(HPL _ HB0.out).out.mono ?_;rintro e w1 ⟨rfl,hb1⟩;replace a0:=aA hb1 a0;replace a1:=aA hb1 a1;replace a2:=aA hb1 a2;have HB1:=hide (aB HB0.out (Nat.le_refl _) hb1);have hs1:=HB1.out.size;have HBX:=hide (aB HB1.out (Nat.le_refl _) (below_alloc1 w1 (Obj.cells #[.string c.key,.string c.val] 165)));clear hb1))
   have HRP:=hide (zGQ B g vcap p l.length w1.heap.size 1 c.key c.val (l.flatMap aV) _ (bQ HO.out HBX.out) (Nat.le_trans hB HBX.out.size) (sA l) (aC _ _ _ 0) (aC _ _ _ 1) hpl (by omega) hcl hc63);rw[e1] at HRP;go_wp2_with (first
    | (go_at_call 226;refine HRP.out.mono ?_;rintro e w2 ⟨v',rfl,ho2,hg2⟩;have HI:Hid (lN (w1.alloc (Obj.cells #[.string c.key,.string c.val] 165)) w2 (.returned v') B (Value.slice (some ⟨g,0,none⟩) l.length vcap) l.length ((l.flatMap aV).take (p*2)++([.string c.key,.string c.val]++(l.flatMap aV).drop ((p+1)*2)))):=⟨v',rfl,ho2,hg2⟩;clear ho2 hg2))
   go_ret;exact xL (bQ HO.out HBX.out) hB HBX.out HI.out (by simp;omega) (by rw[sK,sO];simp[aV])
  ·simp only[if_true];go_enter Tryz.func163,Tryz.ntmps163;go_wp2_with (first
    | (go_at_call 224;refine(HPL _ HB0.out).out.mono ?_;rintro e w1 ⟨rfl,hb1⟩;replace a0:=aA hb1 a0;replace a1:=aA hb1 a1;replace a2:=aA hb1 a2;have HB1:=hide (aB HB0.out (Nat.le_refl _) hb1);clear hb1))
   have HRP:=hide (zJd B g vcap p l.length (l.flatMap aV) _ (bQ HO.out HB1.out) (sA l) hpl (by omega) hcl hc63);rw[e1] at HRP;go_wp2_with (first
    | (go_at_call 225;refine HRP.out.mono ?_;rintro e w2 ⟨rfl,ho2,hg2⟩;have HI:Hid (lN w1 w2 (.returned (.slice (some ⟨g,0,none⟩) (l.length-1) vcap)) B (Value.slice (some ⟨g,0,none⟩) l.length vcap) (l.length-1) ((l.flatMap aV).take (p*2)++(l.flatMap aV).drop ((p+1)*2))):=⟨_,rfl,ho2,hg2⟩;clear ho2 hg2))
   go_ret;exact xL (bQ HO.out HB1.out) hB HB1.out HI.out (by simp;omega) (by rw[sK,sO];simp)
end
section
open Go.RowKit Go.Joins Go.Shelf Go.WideShapes
attribute [local go_sem ↓] Go.wp_at_zero Go.wp_at_succ
theorem zAg {s:ByteArray×ByteArray}:∀ (cs:List Chg) {l:List (ByteArray×ByteArray)},bV l->bV (gP l s cs)
 | [],_,h=>h
 | c::cs,l,h=>by
  refine zAg cs (l:=if hasS s.1 s.2 c.key then layR l c else l) ?_;split
  ·rw[zAU h];exact jO h c
  ·exact h
def zMP (w w':World) (e:Ending) (L:List (ByteArray×ByteArray)):Prop:=∃ v,e=.returned v/\Below w.heap.size w w'/\ownP w' w.heap.size v L
theorem zKo (s:ByteArray×ByteArray) {B0 B wb vb mb n:Nat} {now since:Int} {D:DataW Value} {g:ByteArray->Value} {R:ByteArray->List Ver} {cv rv:Value} {chs:List Chg} {rds P:List (ByteArray×ByteArray)} (w:World) (hv:VS w B0 vb mb now n D g R) (h:VW w B wb vb since cv rv chs rds)
  (hn:n<=1000000) (hR:∀ key,(R key).length<=1000000) (hP:bV P) (hPl:P.length<=50000) (hPk:∀ r∈P,r.1.size<=1000000) (hs:sayR R since P) (hc:chs.length<=100):
  Calls Tryz.prog 98 #[.pointer (some ⟨wb,0,none⟩),.agg #[.string s.1,.string s.2]] w fun e w'=>zMP w w' e (gP (inR P s) s chs):=by
 have HV:=hide hv;have HR:=hide hR;have HP:=hide hP;have HPK:=hide hPk;have HSY:=hide hs;have hB0:=below_alloc1 w (Obj.cells #[.string s.1,.string s.2] 80);have a0:(w.alloc (Obj.cells #[.string s.1,.string s.2] 80)).cell? ⟨w.heap.size,0,none⟩=some (.string s.1):=aC _ _ _ 0;have a1:(w.alloc (Obj.cells #[.string s.1,.string s.2] 80)).cell? ⟨w.heap.size,1,none⟩=some (.string s.2):=aC _ _ _ 1;have c0:=aA hB0 h.c0;have c1:=aA hB0 h.c1;have c2:=aA hB0 h.c2;have HCH:=hide (bQ h.chs hB0);obtain⟨ca,cc,rfl⟩:=iQ h.chs;have HB0:=hide hB0;have HV1:=hide (HV.out.on HB0.out);have hz:w.heap.size+1=(w.alloc (Obj.cells #[.string s.1,.string s.2] 80)).heap.size:=by simp
 clear h hv hR hB0 hP hPk hs;go_enter Tryz.func98,Tryz.ntmps98;go_wp2;generalize (w.alloc (Obj.cells #[.string s.1,.string s.2] 80))=W0 at *
 go_region_held3 (fun w'=>w'.cell? ⟨w.heap.size,0,none⟩=some (.string s.1)/\w'.cell? ⟨w.heap.size,1,none⟩=some (.string s.2)/\w'.cell? ⟨wb,0,none⟩=some (.pointer (some ⟨vb,0,none⟩))/\w'.cell? ⟨wb,1,none⟩=some (.int .i64 since))
  (first|go_keep|exact⟨aA hb2 a0,aA hb2 a1,aA hb2 c0,aA hb2 c1⟩) (first|(go_at_call 161;refine(zJ8 zHl zJ3 s since _ (HV1.out.on (Below.refl _ _).drew) hn HR.out).mono ?_;rintro e w2 ⟨v,rfl,hb2',F,ho,hs,hnd,hm⟩;have hb2:=aB (Below.refl _ W0).drew (Nat.le_refl _) hb2';clear hb2';dsimp only))
 all_goals
  have eF:F=inR P s:=zM4 HP.out HPK.out HSY.out hs hnd hm;subst eF;have HO:=hide ho;have HB2:=hide hb2;replace c2:=aA hb2 c2;clear ho hs hnd hm hb2 c0 c1;obtain⟨fa,fc,hfv⟩:=iQ HO.out;subst hfv;go_wp2
  go_loopw [5,23] (fun v5 i wr=>∃ k:Nat,k<=chs.length/\i=.int .i64 k/\ownP wr W0.heap.size v5 (gP (inR P s) s (chs.take k))/\Below W0.heap.size W0 wr) (fun _ i _=>chs.length-(intOf i).toNat)
  case atStart=>exact⟨0,Nat.zero_le _,rfl,HO.out,HB2.out⟩
  case round=>
   obtain⟨k,hk,rfl,hown,hB⟩:=hrel;have HW:=hide hown;have HBR:=hide hB;have hsz:=hB.size;clear hown hB HO HB2;by_cases hlt:k<chs.length
   ·have hlt':(k:Int)<(chs.length:Int):=by omega
    rcases aX HCH.out with⟨_,h0⟩|⟨cb,cap',ecv,_⟩
    ·omega
    cases ecv;have hch:dG W0 cb 0 chs:=eW chs 0 fun j u hj=>by
     have:=World.ownsRow.cells HCH.out (g:=cb) rfl j u hj;rwa [Go.WideShapes.add_plain] at this
    obtain⟨d0,d1,d2⟩:=hch k hlt;rw[Nat.zero_add] at d0 d1 d2;replace d0:=aA HBR.out d0;replace d1:=aA HBR.out d1;replace d2:=aA HBR.out d2;have HST:=hide (zGp (inR P s) s chs k hlt);have hlen:(gP (inR P s) s (chs.take k)).length<=100000:=by
     have h1:=zBL (inR P s) s (chs.take k);have h2:(inR P s).length<=P.length:=List.length_filter_le _ _;have h3:=List.length_take_le k chs;omega
    have HRS:=hide (zAg (s:=s) (chs.take k) (show bV (inR P s) from HP.out.filter _));clear hch;generalize chs[k]=c at *;have b0:=aA HBR.out a0;have b1:=aA HBR.out a1;generalize gP (inR P s) s (chs.take k)=L at *;have hBC:=below_alloc1 wr (Obj.cells #[.string c.key,.string c.val,.bool c.gone] 133);have e0:(wr.alloc (Obj.cells #[.string c.key,.string c.val,.bool c.gone] 133)).cell? ⟨wr.heap.size,0,none⟩=some (.string c.key):=aC _ _ _ 0;have e1:(wr.alloc (Obj.cells #[.string c.key,.string c.val,.bool c.gone] 133)).cell? ⟨wr.heap.size,1,none⟩=some (.string c.val):=aC _ _ _ 1;have e2:(wr.alloc (Obj.cells #[.string c.key,.string c.val,.bool c.gone] 133)).cell? ⟨wr.heap.size,2,none⟩=some (.bool c.gone):=aC _ _ _ 2;have b0':=aA hBC b0;have b1':=aA hBC b1;replace HW:=hide (bQ HW.out hBC);have HBC:=hide (aB HBR.out (Nat.le_refl _) (hBC.mono (by omega)));have hszc:W0.heap.size<=(wr.alloc (Obj.cells #[.string c.key,.string c.val,.bool c.gone] 133)).heap.size:=by have:=hBC.size;omega
    clear hBC
    cases hh:hasS s.1 s.2 c.key with
    | true=>
     rw[hh,if_pos rfl] at HST;go_wp2_with (first
      | (go_at_call 162;refine(pH s.1 s.2 c.key _).mono ?_;rintro e w3 ⟨rfl,hb3⟩;rw[hh];replace HW:=hide (bQ HW.out hb3);replace e0:=aA hb3 e0;replace e1:=aA hb3 e1;replace e2:=aA hb3 e2;have HB3:=hide (HBC.out.trans (hb3.mono hszc));have hs3:=hb3.size;clear hb3)
      | (go_at_call 163;refine(zMI L _ W0.heap.size c _ HW.out (by omega) HRS.out hlen).mono ?_;rintro e w4 ⟨v4,rfl,ho4,hb4⟩;have HO4:=hide ho4;have HB4:=hide (HB3.out.trans hb4);clear ho4 hb4))
     exact⟨⟨k+1,by omega,by go_num,by rw[HST.out];exact HO4.out,HB4.out⟩,by simp[intOf];omega⟩
    | false=>
     rw[hh,if_neg (by simp)] at HST;go_wp2_with (first
      | (go_at_call 162;refine(pH s.1 s.2 c.key _).mono ?_;rintro e w3 ⟨rfl,hb3⟩;rw[hh];replace HW:=hide (bQ HW.out hb3);have HB3:=hide (HBC.out.trans (hb3.mono hszc));clear hb3))
     exact⟨⟨k+1,by omega,by go_num,by rw[HST.out];exact HW.out,HB3.out⟩,by simp[intOf];omega⟩
   ·have ek:k=chs.length:=by omega
    subst ek;have hlt':¬(chs.length:Int)<(chs.length:Int):=by omega
    rw[List.take_length] at HW;obtain⟨ua,uc,hu⟩:=iQ HW.out;subst hu;go_wp2;go_ret;exact⟨_,rfl,HB0.out.trans (HBR.out.mono (by omega)),vT HW.out (by omega)⟩
end
section
open Go.RowKit Go.Joins Go.Shelf
attribute [local go_sem ↓] Go.wp_at_zero Go.wp_at_succ
def zCE (w:World) (wb:Nat) (s:ByteArray×ByteArray) (P:List (ByteArray×ByteArray)->Prop):Prop:=∀ W,Below w.heap.size w W->Calls Tryz.prog 98 #[.pointer (some ⟨wb,0,none⟩),.agg #[.string s.1,.string s.2]] W fun e w'=>∃ v,e=.returned v/\Below W.heap.size W w'/\∃ F,ownP w' W.heap.size v F/\P F
def rdS (F:List (ByteArray×ByteArray)) (s:ByteArray×ByteArray) (m:Nat):ByteArray×ByteArray:=if m<=F.length then (Lib.maxS s.1 ⟨#[]⟩,endS s.2 (cX ((F[m-1]?.map (·.1)).getD ⟨#[]⟩))) else s
def xA (w w':World) (e:Ending) (B wb vb:Nat) (since:Int) (cv rv:Value) (chs:List Chg) (rds:List (ByteArray×ByteArray)) (s:ByteArray×ByteArray) (m:Nat) (F:List (ByteArray×ByteArray)):Prop:=
 (cZ rds (rdS F s m)=0->∃ ao cap,e=.returned (.tuple #[.slice ao (F.take m).length cap,.nilIface])/\((F.take m).length<=cap/\cap<=9223372036854775807)/\bY w' ao (F.take m)/\∃ rv',VW w' B wb vb since cv rv' chs (gX rds (rdS F s m))/\Below B w w'/\farW w w' wb cv rv cv rv'/\∀ b off,ao=some ⟨b,off,none⟩->w.heap.size<=b/\b<w'.heap.size/\¬inVW wb cv rv' b)/\
 (cZ rds (rdS F s m)≠0->e=.returned (.tuple #[.slice none 0 0,errV (cZ rds (rdS F s m))])/\vH w w' B wb vb since cv rv chs (gX rds (rdS F s m)))
structure RD (w T:World) (rb:Nat) (s:ByteArray×ByteArray) (v:Value) (F:List (ByteArray×ByteArray)):Prop where
 t0:T.cell? ⟨rb,0,none⟩=some (.string s.1)
 t1:T.cell? ⟨rb,1,none⟩=some (.string s.2)
 fz:∀ j,T.frozen? ⟨rb,j,none⟩=false
 d0:T.cell? ⟨w.heap.size,0,none⟩=some (.string s.1)
 d1:T.cell? ⟨w.heap.size,1,none⟩=some (.string s.2)
 bel:Below w.heap.size w T
 own:ownP T (w.heap.size+1) v F
 lo:w.heap.size<rb
 off:∀ k,v.ownBlock=some k->k≠rb
theorem zMV {w w2:World} {s:ByteArray×ByteArray} {v:Value} {F:List (ByteArray×ByteArray)} {B:Nat} (hb:Below w.heap.size w w2) (ho:ownP w2 B v F) (hB:w.heap.size+1<=B) (d0:w2.cell? ⟨w.heap.size,0,none⟩=some (.string s.1)) (d1:w2.cell? ⟨w.heap.size,1,none⟩=some (.string s.2)):
  RD w (w2.alloc (Obj.cells #[.string s.1,.string s.2] 80)) w2.heap.size s v F:=by
 have hb3:=below_alloc1 w2 (Obj.cells #[.string s.1,.string s.2] 80);have hl:w.heap.size<w2.heap.size:=World.block_lt_of_cell? _ _ d0;exact⟨aC _ _ _ 0,aC _ _ _ 1,fun j=>aQ _ _ _ j,aA hb3 d0,aA hb3 d1,aB hb (Nat.le_refl _) hb3,vT (bQ ho hb3) hB,hl,fun k e=>by have:=(World.ownsRow.lt ho k e).2;omega⟩
theorem zM0 {w w2:World} {s:ByteArray×ByteArray} {v:Value} {F:List (ByteArray×ByteArray)} {B:Nat} (hb:Below w.heap.size w w2) (ho:ownP w2 B v F) (hB:w.heap.size+2<=B) (d0:w2.cell? ⟨w.heap.size,0,none⟩=some (.string s.1)) (d1:w2.cell? ⟨w.heap.size,1,none⟩=some (.string s.2))
  (z0:w2.cell? ⟨w.heap.size+1,0,none⟩=some (.string ⟨#[]⟩)) (z1:w2.cell? ⟨w.heap.size+1,1,none⟩=some (.string ⟨#[]⟩)) (zf:∀ j,w2.frozen? ⟨w.heap.size+1,j,none⟩=false):
  RD w ((w2.setCell ⟨w.heap.size+1,0,none⟩ (.string s.1)).setCell ⟨w.heap.size+1,1,none⟩ (.string s.2)) (w.heap.size+1) s v F:=by
 have hk:∀ k,k≠w.heap.size+1->((w2.setCell ⟨w.heap.size+1,0,none⟩ (.string s.1)).setCell ⟨w.heap.size+1,1,none⟩ (.string s.2)).heap[k]?=w2.heap[k]?:=fun k h=>(Below.heap_setCell _ _ _ _ h).trans (Below.heap_setCell _ _ _ _ h);refine⟨(World.cell?_setCell_other _ _ _ _ (by simp)).trans (World.cell?_setCell_same _ _ _ z0),World.cell?_setCell_same _ _ _ ((World.cell?_setCell_other _ _ _ _ (by simp)).trans z1),fun j=>by rw[World.frozen?_setCell,World.frozen?_setCell];exact zf j,(World.cell?_of_block (hk w.heap.size (by omega))).trans d0,(World.cell?_of_block (hk w.heap.size (by omega))).trans d1,(hb.setCell (p:=⟨w.heap.size+1,0,none⟩) (by simp) _).setCell (p:=⟨w.heap.size+1,1,none⟩) (by simp) _,vT (aI ho fun k e=>hk k (by have:=(World.ownsRow.lt ho k e).1;omega)) (by omega),by omega,fun k e=>by have:=(World.ownsRow.lt ho k e).1;omega⟩
theorem zCD {w T2 w6:World} {B wb vb:Nat} {since:Int} {cv rv rv6:Value} {chs:List Chg} {rds:List (ByteArray×ByteArray)} {s:ByteArray×ByteArray} {m cap:Nat} {F:List (ByteArray×ByteArray)} {ao:Option Addr} (h:VW w B wb vb since cv rv chs rds) (hB:B<=w.heap.size) (hb:Below w.heap.size w T2) (hw6:VW w6 B wb vb since cv rv6 chs (gX rds (rdS F s m))) (hb6:Below B T2 w6) (hf6:farW T2 w6 wb cv rv cv rv6)
  (hh:bY T2 ao (F.take m)) (hg:∀ b off,ao=some ⟨b,off,none⟩->w.heap.size<=b/\b<T2.heap.size) (h0:cZ rds (rdS F s m)=0) {e:Ending} (he:e=.returned (.tuple #[.slice ao (F.take m).length cap,.nilIface])) (hcap:(F.take m).length<=cap/\cap<=9223372036854775807):xA w w6 e B wb vb since cv rv chs rds s m F:=by
 have hn:∀ b,w.heap.size<=b->¬inVW wb cv rv b:=fun b hb' hin=>by have:=h.lt hin;omega
 refine⟨fun _=>⟨ao,cap,he,hcap,zC8 hh (fun b off e _=>(hf6 b (hg b off e).2 (hn b (hg b off e).1)).1),rv6,hw6,(hb.mono hB).trans hb6,farW.trans (farW.on hb) hb.size hf6,fun b off e=>⟨(hg b off e).1,Nat.lt_of_lt_of_le (hg b off e).2 hb6.size,(hf6 b (hg b off e).2 (hn b (hg b off e).1)).2⟩⟩,fun h=>absurd h0 h⟩
theorem zBx {w T2 w6:World} {B wb vb:Nat} {since:Int} {cv rv rv6:Value} {chs:List Chg} {rds:List (ByteArray×ByteArray)} {s:ByteArray×ByteArray} {m:Nat} {F:List (ByteArray×ByteArray)} (hB:B<=w.heap.size) (hb:Below w.heap.size w T2) (hw6:VW w6 B wb vb since cv rv6 chs (gX rds (rdS F s m))) (hb6:Below B T2 w6) (hf6:farW T2 w6 wb cv rv cv rv6)
  (h0:cZ rds (rdS F s m)≠0) {e:Ending} (he:e=.returned (.tuple #[.slice none 0 0,errV (cZ rds (rdS F s m))])):xA w w6 e B wb vb since cv rv chs rds s m F:=
 ⟨fun h=>absurd h h0,fun _=>⟨he,rv6,hw6,(hb.mono hB).trans hb6,farW.trans (farW.on hb) hb.size hf6⟩⟩
theorem zMz (s:ByteArray×ByteArray) (m:Nat) {B wb vb:Nat} {since:Int} {cv rv:Value} {chs:List Chg} {rds:List (ByteArray×ByteArray)} {P:List (ByteArray×ByteArray)->Prop} (w:World) (h:VW w B wb vb since cv rv chs rds) (hs:zCE w wb s P) (hP:∀ F,P F->F.length<=1000000/\∀ r∈F,r.1.size<=1000)
  (hB:B<=w.heap.size) (hn:rds.length<=100) (hm:1<=m) (hm2:m<=9223372036854775807):
  Calls Tryz.prog 42 #[.pointer (some ⟨wb,0,none⟩),.agg #[.string s.1,.string s.2],.int .i64 m] w fun e w'=>∃ F,P F/\xA w w' e B wb vb since cv rv chs rds s m F:=by
 have HW:=hide h;have HS:=hide hs;have HP:=hide hP;have hB0:=below_alloc1 w (Obj.cells #[.string s.1,.string s.2] 80);have a0:(w.alloc (Obj.cells #[.string s.1,.string s.2] 80)).cell? ⟨w.heap.size,0,none⟩=some (.string s.1):=aC _ _ _ 0;have a1:(w.alloc (Obj.cells #[.string s.1,.string s.2] 80)).cell? ⟨w.heap.size,1,none⟩=some (.string s.2):=aC _ _ _ 1;have HB0:=hide hB0;have m1:¬((m:Int)<1):=by omega
 clear h hs hP hB0;go_enter Tryz.func42,Tryz.ntmps42;go_wp2;rename_i Q K hK;have hrest:∀ (T:World) (rb:Nat) (ra:Option Addr) (rcap:Nat) (F:List (ByteArray×ByteArray)),RD w T rb s (.slice ra F.length rcap) F->P F->Exit.then K Q Exit.normal { tmps:=#[Value.pointer (some ⟨wb,0,none⟩),Value.agg #[Value.string s.1,Value.string s.2],Value.int .i64 (m:Int),undef,Value.pointer (some ⟨w.heap.size,0,none⟩),undef,Value.slice none 0 0,Value.nilIface,Value.slice ra F.length rcap,Value.pointer (some ⟨rb,0,none⟩),undef,Value.int .i64 (m:Int),Value.bool false,undef,Value.pointer (some ⟨wb,0,none⟩),Value.agg #[Value.string s.1,Value.string s.2],Value.slice ra F.length rcap,Value.agg #[Value.string s.1,Value.string s.2],undef,undef,undef,undef,undef,undef,undef,undef,undef,undef,undef,undef,undef,undef,undef,undef,undef,undef,undef,undef,undef,undef,undef,undef],defers:=[] } T:=by
  intro T rb ra rcap F hrd hpf;have HRD:=hide hrd;have HPF:=hide hpf;have hl:=(HP.out F hpf).1;have HLK:=hide (HP.out F hpf).2;have t0:=hrd.t0;have t1:=hrd.t1;have tf:=hrd.fz;have d0:=hrd.d0;have d1:=hrd.d1;clear hrd hpf a0 a1;by_cases hmF:m<=F.length
  ·have hmI:(m:Int)<=(F.length:Int):=by omega
   rcases aX HRD.out.own with⟨_,h0⟩|⟨g,cap',e,hg1,hg2,hc1,hc2⟩
   ·omega
   cases e;have hcI:(m:Int)<=(rcap:Int):=by omega
   have hc3:rcap<=9223372036854775807:=by unfold maxLen at hc2;omega
   have hmc:m<=rcap:=by omega
   have hm1:(0:Int)<=(m:Int):=by omega
   have k1:(m:Int)-1=((m-1:Nat):Int):=by omega
   have k2:((m-1:Nat):Int)<(m:Int):=by omega
   have hm1F:m-1<F.length:=by omega
   have cK:T.cell? ⟨g,(m-1)*2,none⟩=some (.string F[m-1].1):=(dU gQ HRD.out.own (m-1) 0 hm1F (by omega)).1;have hks:=HLK.out _ (List.getElem_mem hm1F);have hgr:g≠rb:=HRD.out.off g rfl;go_wp2_with (first
    | (go_at_call 99;refine(zJP ⟨g,0,none⟩ m rcap _ hmc hc3).mono ?_;rintro e w3 ⟨rfl,hb3⟩;have HB3:=hide hb3;replace t0:=aA hb3 t0;replace t1:=aA hb3 t1;replace d0:=aA hb3 d0;replace d1:=aA hb3 d1;replace cK:=aA hb3 cK))
   have HRS:Hid (rdS F s m=(Lib.maxS s.1 ⟨#[]⟩,endS s.2 (cX F[m-1].1))):=by
    unfold Hid rdS;rw[if_pos hmF,List.getElem?_eq_getElem hm1F];rfl
   have HTK:Hid ((F.take m).length=m/\iO T g 0 (F.take m)):=by
    refine⟨by rw[List.length_take];omega,fun i hi=>?_⟩;have hi2:i<F.length:=by rw[List.length_take] at hi;omega
    have e1:=(dU gQ HRD.out.own i 0 hi2 (by omega)).1;have e2:=(dU gQ HRD.out.own i 1 hi2 (by omega)).1;rw[List.getElem_take,Nat.zero_add];exact⟨e1,e2⟩
   have hrl:rb<w3.heap.size:=World.block_lt_of_cell? _ _ t0;have tf3:∀ j,w3.frozen? ⟨rb,j,none⟩=false:=fun j=>aE hb3 (show rb<T.heap.size from World.block_lt_of_cell? _ _ HRD.out.t0) (tf j);have k3:IntKind.i64.wrap ((m:Int)-1)=((m-1:Nat):Int):=by rw[k1,IntKind.wrap_i64];omega
   have k4:(0:Int)<=((m-1:Nat):Int):=Int.natCast_nonneg _;have k5:IntKind.i64.wrap ((m-1:Nat):Int)=((m-1:Nat):Int):=by rw[IntKind.wrap_i64];omega
   generalize F[m-1].1=k0 at *;generalize m-1=j0 at *;have HU:=fun w=>hide (zJJ k0 w hks);clear tf hb3
   go_region_with (first
    | (go_at_call 101;refine(HU _).out.mono ?_;rintro e w4 ⟨rfl,hb4'⟩;have hb4:Below w3.heap.size w3 w4:=aB (Below.refl _ _).drew (Nat.le_refl _) hb4';replace d0:=aA hb4 d0;replace d1:=aA hb4 d1;replace t0:=aA hb4 t0;replace t1:=aA hb4 t1;replace tf3:=fun j=>aE hb4 hrl (tf3 j);replace cK:=aA hb4 cK;clear hb4')
    | (go_at_call 100;refine(zLA s.1 s.2 ⟨#[]⟩ _ _).mono ?_;rintro e w5 ⟨rfl,hb5⟩;have t05:=aA hb5 t0;have t15:=aA hb5 t1;have hrl4:rb<w4.heap.size:=World.block_lt_of_cell? _ _ t0;have tf5:=fun j=>aE hb5 hrl4 (tf3 j)))
   all_goals
    have hb35:=aB (aB HB3.out (Nat.le_refl _) hb4) (Nat.le_refl _) hb5;have hkb:∀ k,k≠rb->((w5.setCell ⟨rb,0,none⟩ (.string (Lib.maxS s.1 ⟨#[]⟩))).setCell ⟨rb,1,none⟩ (.string (endS s.2 (cX k0)))).heap[k]?=w5.heap[k]?:=fun k h=>(Below.heap_setCell _ _ _ _ h).trans (Below.heap_setCell _ _ _ _ h);have u0:((w5.setCell ⟨rb,0,none⟩ (.string (Lib.maxS s.1 ⟨#[]⟩))).setCell ⟨rb,1,none⟩ (.string (endS s.2 (cX k0)))).cell? ⟨rb,0,none⟩=some (.string (rdS F s m).1):=by
     rw[HRS.out];exact(World.cell?_setCell_other _ _ _ _ (by simp)).trans (World.cell?_setCell_same _ _ _ t05)
    have u1:((w5.setCell ⟨rb,0,none⟩ (.string (Lib.maxS s.1 ⟨#[]⟩))).setCell ⟨rb,1,none⟩ (.string (endS s.2 (cX k0)))).cell? ⟨rb,1,none⟩=some (.string (rdS F s m).2):=by
     rw[HRS.out];exact World.cell?_setCell_same _ _ _ ((World.cell?_setCell_other _ _ _ _ (by simp)).trans t15)
    have hlo:=HRD.out.lo;have HB2:Hid (Below w.heap.size w ((w5.setCell ⟨rb,0,none⟩ (.string (Lib.maxS s.1 ⟨#[]⟩))).setCell ⟨rb,1,none⟩ (.string (endS s.2 (cX k0))))):=((aB HRD.out.bel (Nat.le_refl _) hb35).setCell (p:=⟨rb,0,none⟩) (by simp;omega) _).setCell (p:=⟨rb,1,none⟩) (by simp;omega) _;have hgl2:g<((w5.setCell ⟨rb,0,none⟩ (.string (Lib.maxS s.1 ⟨#[]⟩))).setCell ⟨rb,1,none⟩ (.string (endS s.2 (cX k0)))).heap.size:=by have:=hb35.size;simp only[World.size_setCell];omega
    have HH:Hid (bY ((w5.setCell ⟨rb,0,none⟩ (.string (Lib.maxS s.1 ⟨#[]⟩))).setCell ⟨rb,1,none⟩ (.string (endS s.2 (cX k0)))) (some ⟨g,0,none⟩) (F.take m)):=.inr ⟨g,0,rfl,fun i hi=>by
     obtain⟨e1,e2⟩:=HTK.out.2 i hi;have eb:=(hkb g hgr).trans (hb35.block g hg2);exact⟨(World.cell?_of_block eb).trans e1,(World.cell?_of_block eb).trans e2⟩⟩
    generalize (w5.setCell ⟨rb,0,none⟩ (.string (Lib.maxS s.1 ⟨#[]⟩))).setCell ⟨rb,1,none⟩ (.string (endS s.2 (cX k0)))=T2 at u0 u1 HB2 hgl2 HH ⊢;clear hb35 hkb t05 t15 tf5 hb5 hb4 t0 t1 d0 d1 cK tf3;generalize hrr:rdS F s m=r at *;have HRR:=hide hrr;clear hrr;by_cases hrf:cZ rds r=0
    ·have HRF:=hide hrf;clear hrf;go_wp2_with (first
      | (go_at_call 102;refine(mB r _ (HW.out.on HB2.out) (Nat.le_trans hB HB2.out.size) hn).mono ?_;rintro e w6 ⟨rfl,rv6,hw6,hb6,hf6⟩;rw[HRF.out];simp only[errV];have HW6:=hide hw6;have HB6:=hide hb6;have HF6:=hide hf6;clear hw6 hb6 hf6))
     go_ret2;exact⟨F,HPF.out,zCD HW.out hB HB2.out (by rw[HRR.out];exact HW6.out) HB6.out HF6.out HH.out (fun b off e=>by cases e;exact⟨by omega,hgl2⟩) (by rw[HRR.out];exact HRF.out) (by rw[HTK.out.1];rfl) ⟨by rw[HTK.out.1];exact Nat.le_refl _,hm2⟩⟩
    ·have HRF:=hide hrf;have he:errV (cZ rds r)=.iface 114 (.int .i64 (cZ rds r)):=by unfold errV;rw[if_neg hrf]
     have HER:=hide he;clear hrf he;go_wp2_with (first
      | (go_at_call 102;refine(mB r _ (HW.out.on HB2.out) (Nat.le_trans hB HB2.out.size) hn).mono ?_;rintro e w6 ⟨rfl,rv6,hw6,hb6,hf6⟩;rw[HER.out];have HW6:=hide hw6;have HB6:=hide hb6;have HF6:=hide hf6;clear hw6 hb6 hf6))
     go_ret2;exact⟨F,HPF.out,zBx hB HB2.out (by rw[HRR.out];exact HW6.out) HB6.out HF6.out (by rw[HRR.out];exact HRF.out) (by rw[HRR.out,HER.out];rfl)⟩
  ·have hmI:¬(m:Int)<=(F.length:Int):=by omega
   have HTF:Hid (F.take m=F):=List.take_of_length_le (by omega);have HB2:=hide HRD.out.bel;have HH:Hid (bY T ra (F.take m)/\∀ b off,ra=some ⟨b,off,none⟩->w.heap.size<=b/\b<T.heap.size):=by
    unfold Hid;rw[HTF.out];refine⟨(zJU HRD.out.own).1,fun b off e=>?_⟩;rcases aX HRD.out.own with⟨e0,_⟩|⟨g,cap',e0,h1,h2,_⟩
    ·rw[e] at e0;simp at e0
    ·rw[e] at e0;simp at e0;obtain⟨⟨rfl,_⟩,_⟩:=e0;exact⟨by omega,h2⟩
   have HCP:Hid ((F.take m).length<=rcap/\rcap<=9223372036854775807):=by
    unfold Hid;rw[HTF.out];rcases aX HRD.out.own with⟨e0,h0⟩|⟨g,cap',e0,h1,h2,h3,h4⟩
    ·rw[h0] at e0;simp at e0;rw[h0,e0.2];exact⟨Nat.le_refl _,by omega⟩
    ·simp at e0;rw[e0.2];unfold maxLen at h4;exact⟨h3,by omega⟩
   have HRS:Hid (rdS F s m=s):=if_neg hmF;have u0:T.cell? ⟨rb,0,none⟩=some (.string (rdS F s m).1):=by rw[HRS.out];exact t0
   have u1:T.cell? ⟨rb,1,none⟩=some (.string (rdS F s m).2):=by rw[HRS.out];exact t1
   clear t0 t1 HRS;generalize hrr:rdS F s m=r at *;have HRR:=hide hrr;clear hrr;by_cases hrf:cZ rds r=0
   ·have HRF:=hide hrf;clear hrf;go_wp2_with (first
     | (go_at_call 102;refine(mB r _ (HW.out.on HB2.out) (Nat.le_trans hB HB2.out.size) hn).mono ?_;rintro e w6 ⟨rfl,rv6,hw6,hb6,hf6⟩;rw[HRF.out];simp only[errV];have HW6:=hide hw6;have HB6:=hide hb6;have HF6:=hide hf6;clear hw6 hb6 hf6))
    go_ret2;exact⟨F,HPF.out,zCD HW.out hB HB2.out (by rw[HRR.out];exact HW6.out) HB6.out HF6.out HH.out.1 HH.out.2 (by rw[HRR.out];exact HRF.out) (by rw[HTF.out];rfl) HCP.out⟩
   ·have HRF:=hide hrf;have he:errV (cZ rds r)=.iface 114 (.int .i64 (cZ rds r)):=by unfold errV;rw[if_neg hrf]
    have HER:=hide he;clear hrf he;go_wp2_with (first
     | (go_at_call 102;refine(mB r _ (HW.out.on HB2.out) (Nat.le_trans hB HB2.out.size) hn).mono ?_;rintro e w6 ⟨rfl,rv6,hw6,hb6,hf6⟩;rw[HER.out];have HW6:=hide hw6;have HB6:=hide hb6;have HF6:=hide hf6;clear hw6 hb6 hf6))
    go_ret2;exact⟨F,HPF.out,zBx hB HB2.out (by rw[HRR.out];exact HW6.out) HB6.out HF6.out (by rw[HRR.out];exact HRF.out) (by rw[HRR.out,HER.out];rfl)⟩
 have HREST:=hide hrest;clear hrest
 go_region_with (first|(go_at_call 98;refine(HS.out _ ?_).mono ?_;exact aB HB0.out (Nat.le_refl _) (by first|exact(Below.refl _ _).drew|exact(Below.refl _ _).drew.alloc (by simp) _|exact((Below.refl _ _).alloc (by simp) _).drew);rintro e w2 ⟨v,rfl,hb2',F,ho,hp⟩;have hb2:Below (w.alloc (Obj.cells #[.string s.1,.string s.2] 80)).heap.size (w.alloc (Obj.cells #[.string s.1,.string s.2] 80)) w2:=aB (by first|exact(Below.refl _ _).drew|exact(Below.refl _ _).drew.alloc (by simp) _|exact((Below.refl _ _).alloc (by simp) _).drew) (Nat.le_refl _) hb2';have d0:=aA hb2 a0;have d1:=aA hb2 a1;have hlt2:w.heap.size<w2.heap.size:=World.block_lt_of_cell? _ _ d0;first|(have _:Below (w.alloc (Obj.cells #[.string s.1,.string s.2] 80)).drew.heap.size (w.alloc (Obj.cells #[.string s.1,.string s.2] 80)).drew w2:=hb2';skip)|(have z0:w2.cell? ⟨w.heap.size+1,0,none⟩=some (.string ⟨#[]⟩):=aA hb2' (by simp);have z1:w2.cell? ⟨w.heap.size+1,1,none⟩=some (.string ⟨#[]⟩):=aA hb2' (by simp);have zl:w.heap.size+1<w2.heap.size:=World.block_lt_of_cell? _ _ z0;have zf:∀ j,w2.frozen? ⟨w.heap.size+1,j,none⟩=false:=fun j=>aE hb2' (by simp) (by simp))))
 all_goals
  have hb02:=aB HB0.out (Nat.le_refl _) hb2;obtain⟨ra,rcap,rfl⟩:=iQ ho
  first
  | exact HREST.out _ _ ra rcap F (zMV hb02 ho (by simp) d0 d1) hp
  | exact HREST.out _ _ ra rcap F (zM0 hb02 ho (by simp) d0 d1 z0 z1 zf) hp
theorem zKR (s:ByteArray×ByteArray) (m:Int) (wb:Nat) (w:World) (hm:m<1):
  Calls Tryz.prog 42 #[.pointer (some ⟨wb,0,none⟩),.agg #[.string s.1,.string s.2],.int .i64 m] w fun e w'=>e=.returned (.tuple #[.slice none 0 0,errV 1])/\Below w.heap.size w w':=by
 have hB0:=below_alloc1 w (Obj.cells #[.string s.1,.string s.2] 80);go_enter Tryz.func42,Tryz.ntmps42;go_wp2;go_ret2;exact⟨rfl,hB0⟩
abbrev Rws:=List (ByteArray×ByteArray)
structure OkV (P:Rws) (chs:List Chg) (rds:Rws):Prop where
 rise:bV P
 len:P.length<=50
 keys:∀ r∈P,r.1.size<=60
 cn:chs.length<=12
 ck:∀ c∈chs,c.key.size<=60
 cr:rises chs
 rn:rds.length<=40
structure Sn where
 n:Int
 B0:Nat
 vb:Nat
 mb:Nat
 many:Nat
 now:Int
 D:DataW Value
 g:ByteArray->Value
 R:ByteArray->List Ver
def PV (w:World) (B wb:Nat) (S:Nat->Prop) (P:Rws) (since:Sn) (chs:List Chg) (rds:Rws):Prop:=
 ∃ (cv rv:Value),VS w since.B0 since.vb since.mb since.now since.many since.D since.g since.R/\VW w B wb since.vb since.n cv rv chs rds/\(S=fun k=>inVW wb cv rv k∨inVS since.vb since.mb since.g k)/\(∀ k,inVS since.vb since.mb since.g k->¬inVW wb cv rv k)/\sayR since.R since.n P/\since.many<=1000000/\(∀ key,(since.R key).length<=1000000)/\OkV P chs rds/\B<=w.heap.size
theorem PV.kept {w w':World} {B wb:Nat} {S:Nat->Prop} {P:Rws} {since:Sn} {chs:List Chg} {rds:Rws} (h:PV w B wb S P since chs rds) (hs:w.heap.size<=w'.heap.size) (hk:∀ k,S k->w'.heap[k]?=w.heap[k]?):PV w' B wb S P since chs rds:=by
 obtain⟨cv,rv,h1,h2,rfl,h4,h5,h6,h7,h8,h9⟩:=h;exact⟨cv,rv,h1.kept fun k e=>hk k (.inr e),h2.kept fun k e=>hk k (.inl e),rfl,h4,h5,h6,h7,h8,Nat.le_trans h9 hs⟩
theorem PV.lt {w:World} {B wb:Nat} {S:Nat->Prop} {P:Rws} {since:Sn} {chs:List Chg} {rds:Rws} (h:PV w B wb S P since chs rds) {k:Nat} (hk:S k):k<w.heap.size:=by
 obtain⟨cv,rv,h1,h2,rfl,h4,h5,h6,h7,h8,h9⟩:=h;exact hk.elim (fun e=>h2.lt e) fun e=>h1.lt e
theorem PV.on {w w':World} {B wb:Nat} {S:Nat->Prop} {P:Rws} {since:Sn} {chs:List Chg} {rds:Rws} (h:PV w B wb S P since chs rds) (hb:Below w.heap.size w w'):PV w' B wb S P since chs rds:=
 h.kept hb.size fun k hk=>hb.block k (h.lt hk)
theorem PV.ok {w:World} {B wb:Nat} {S:Nat->Prop} {P:Rws} {since:Sn} {chs:List Chg} {rds:Rws} (h:PV w B wb S P since chs rds):OkV P chs rds:=by
 obtain⟨cv,rv,h1,h2,rfl,h4,h5,h6,h7,h8,h9⟩:=h;exact h8
theorem PV.lo {w:World} {B wb:Nat} {S:Nat->Prop} {P:Rws} {since:Sn} {chs:List Chg} {rds:Rws} (h:PV w B wb S P since chs rds):B<=w.heap.size:=by
 obtain⟨cv,rv,h1,h2,rfl,h4,h5,h6,h7,h8,h9⟩:=h;exact h9
theorem nG {w w':World} {B wb:Nat} {since:Sn} {cv rv cv' rv':Value} {P:Rws} {chs:List Chg} {rds:Rws} (h1:VS w since.B0 since.vb since.mb since.now since.many since.D since.g since.R) (h4:∀ k,inVS since.vb since.mb since.g k->¬inVW wb cv rv k) (h5:sayR since.R since.n P) (h6:since.many<=1000000) (h7:∀ key,(since.R key).length<=1000000) (h9:B<=w.heap.size)
  (hw:VW w' B wb since.vb since.n cv' rv' chs rds) (hb:Below B w w') (hf:farW w w' wb cv rv cv' rv') (ok:OkV P chs rds):
  PV w' B wb (fun k=>inVW wb cv' rv' k∨inVS since.vb since.mb since.g k) P since chs rds/\aG w w' B (fun k=>inVW wb cv rv k∨inVS since.vb since.mb since.g k) (fun k=>inVW wb cv' rv' k∨inVS since.vb since.mb since.g k):=by
 obtain⟨a,b⟩:=zFg h1 hf h4;refine⟨⟨cv',rv',a,hw,rfl,b,h5,h6,h7,ok,Nat.le_trans h9 hb.size⟩,hb,fun j hj hn=>?_⟩;obtain⟨c,d⟩:=hf j hj fun e=>hn (.inl e);exact⟨c,fun e=>e.elim d fun e=>hn (.inr e)⟩
def ActV (w w':World) (B wb:Nat) (S:Nat->Prop) (P:Rws) (since:Sn) (chs:List Chg) (rds:Rws):Prop:=∃ S',PV w' B wb S' P since chs rds/\aG w w' B S S'
theorem xQ {P:Rws} {chs:List Chg} {rds:Rws} {c:Chg} (h:OkV P chs rds) (hc:aD c=0->c.key.size<=60):OkV P (bG chs c) rds:=by
 unfold bG;split
 ·rename_i hf;have hf0:aD c=0:=by
   unfold cH at hf;split at hf
   ·assumption
   ·rename_i h';exact absurd hf h'
  have hl:¬12<(insL chs c).length:=by
   intro hl;unfold cH at hf;rw[if_pos hf0,if_pos hl] at hf;cases hf
  exact { h with cn:=by omega,cr:=zA8 c h.cr,ck:=fun x hx=>(vU hx).elim (fun e=>by rw[e];exact hc hf0) (h.ck x) }
 ·exact h
theorem pZ {l:Rws} {s:ByteArray×ByteArray} (h:l.length<=40):(gX l s).length<=40:=by
 unfold gX;split
 ·exact h
 ·split
  ·exact h
  ·rw[List.length_append,List.length_singleton];omega
theorem zIB (key val:ByteArray) {B wb:Nat} {S:Nat->Prop} {P:Rws} {since:Sn} {chs:List Chg} {rds:Rws} (w:World) (h:PV w B wb S P since chs rds) (hk:key.size<=maxLen) (hf:aD ⟨key,val,false⟩=0->key.size<=60):
  Calls Tryz.prog 47 #[.pointer (some ⟨wb,0,none⟩),.string key,.string val] w fun e w'=>e=.returned (errV (cH chs ⟨key,val,false⟩))/\ActV w w' B wb S P since (bG chs ⟨key,val,false⟩) rds:=by
 obtain⟨cv,rv,h1,h2,rfl,h4,h5,h6,h7,h8,h9⟩:=h;refine(zKP key val w h2 h9 (by have:=h8.cn;omega) hk).mono ?_;rintro e w' ⟨rfl,cv',hw,hb,hfar⟩;exact⟨rfl,_,nG h1 h4 h5 h6 h7 h9 hw hb hfar (xQ h8 hf)⟩
theorem zHv (key:ByteArray) {B wb:Nat} {S:Nat->Prop} {P:Rws} {since:Sn} {chs:List Chg} {rds:Rws} (w:World) (h:PV w B wb S P since chs rds) (hk:key.size<=maxLen) (hf:aD ⟨key,⟨#[]⟩,true⟩=0->key.size<=60):
  Calls Tryz.prog 86 #[.pointer (some ⟨wb,0,none⟩),.string key] w fun e w'=>e=.returned (errV (cH chs ⟨key,⟨#[]⟩,true⟩))/\ActV w w' B wb S P since (bG chs ⟨key,⟨#[]⟩,true⟩) rds:=by
 obtain⟨cv,rv,h1,h2,rfl,h4,h5,h6,h7,h8,h9⟩:=h;refine(zEO key w h2 h9 (by have:=h8.cn;omega) hk).mono ?_;rintro e w' ⟨rfl,cv',hw,hb,hfar⟩;exact⟨rfl,_,nG h1 h4 h5 h6 h7 h9 hw hb hfar (xQ h8 hf)⟩
theorem zLZ {B2:Nat} {mv:Value} {mk:List Chg} {B wb:Nat} {S:Nat->Prop} {P:Rws} {since:Sn} {chs:List Chg} {rds:Rws} (w:World) (h:PV w B wb S P since chs rds) (hm:bO w B2 mv mk) (hn:mk.length<=12) (hk:∀ c∈mk,c.key.size<=60) (hr:rises mk):
  Calls Tryz.prog 174 #[.pointer (some ⟨wb,0,none⟩),mv] w fun e w'=>e=.returned (.tuple #[])/\ActV w w' B wb S P since mk rds:=by
 obtain⟨cv,rv,h1,h2,rfl,h4,h5,h6,h7,h8,h9⟩:=h;refine(zKy w h2 h9 hm (by omega)).mono ?_;rintro e w' ⟨rfl,cv',hw,hb,hfar⟩;exact⟨rfl,_,nG h1 h4 h5 h6 h7 h9 hw hb hfar { h8 with cn:=hn,ck:=hk,cr:=hr }⟩
theorem zFs {B wb:Nat} {S:Nat->Prop} {P:Rws} {since:Sn} {chs:List Chg} {rds:Rws} (w:World) (h:PV w B wb S P since chs rds):
  Calls Tryz.prog 173 #[.pointer (some ⟨wb,0,none⟩)] w fun e w'=>∃ v,e=.returned v/\bO w' w.heap.size v chs/\Below w.heap.size w w':=by
 obtain⟨cv,rv,h1,h2,rfl,h4,h5,h6,h7,h8,h9⟩:=h;exact zJQ w h2 (by have:=h8.cn;omega)
def getP (chs:List Chg) (rds P:Rws) (key:ByteArray):ByteArray×Bool×Nat:=
 if keyL key.data.toList then match qB chs key with
  | some c=>(c.val,!c.gone,0)
  | none=>if cZ rds (key,cX key)=0 then ((valR P key).1,(valR P key).2,0) else (⟨#[]⟩,false,cZ rds (key,cX key))
 else (⟨#[]⟩,false,3)
theorem zDB {chs:List Chg} {rds:Rws} {key:ByteArray} (h:rds.length<=40):(getL chs rds key).length<=40:=by
 unfold getL;split
 ·split
  ·exact h
  ·exact pZ h
 ·exact h
theorem zMh {chs:List Chg} {rds P:Rws} {R:ByteArray->List Ver} {since:Int} (h:sayR R since P) (key:ByteArray):getR chs rds R since key=getP chs rds P key:=by
 unfold getR getP;rw[h key];rfl
theorem zMZ (key:ByteArray) {B wb:Nat} {S:Nat->Prop} {P:Rws} {since:Sn} {chs:List Chg} {rds:Rws} (w:World) (h:PV w B wb S P since chs rds) (hk:key.size<=maxLen):
  Calls Tryz.prog 44 #[.pointer (some ⟨wb,0,none⟩),.string key] w fun e w'=>e=.returned (.tuple #[.string (getP chs rds P key).1,.bool (getP chs rds P key).2.1,errV (getP chs rds P key).2.2])/\ActV w w' B wb S P since chs (getL chs rds key):=by
 obtain⟨cv,rv,h1,h2,rfl,h4,h5,h6,h7,h8,h9⟩:=h;refine(zLX key w h1 h2 h4 h9 (by have:=h8.rn;omega) (by have:=h8.cn;omega) hk (h7 key)).mono ?_;rintro e w' ⟨rfl,rv',hw,hb,hfar⟩;rw[zMh h5];exact⟨rfl,_,nG h1 h4 h5 h6 h7 h9 hw hb hfar { h8 with rn:=zDB h8.rn }⟩
def aF (P:Rws) (chs:List Chg) (s:ByteArray×ByteArray):Rws:=gP (inR P s) s chs
def dL (L rds:Rws) (s:ByteArray×ByteArray) (m:Int):Nat:=if m<1 then 1 else cZ rds (rdS L s m.toNat)
def eP (L rds:Rws) (s:ByteArray×ByteArray) (m:Int):Rws:=if m<1 then rds else gX rds (rdS L s m.toNat)
theorem zHk {L rds:Rws} {s:ByteArray×ByteArray} {m:Int} (h:rds.length<=40):(eP L rds s m).length<=40:=by
 unfold eP;split
 ·exact h
 ·exact pZ h
def zFy (w w':World) (e:Ending) (B wb:Nat) (S:Nat->Prop) (P:Rws) (since:Sn) (chs:List Chg) (rds:Rws) (s:ByteArray×ByteArray) (m:Int) (L:Rws):Prop:=
 (dL L rds s m=0->∃ ao cap,e=.returned (.tuple #[.slice ao (L.take m.toNat).length cap,.nilIface])/\((L.take m.toNat).length<=cap/\cap<=9223372036854775807)/\bY w' ao (L.take m.toNat)/\∃ S',PV w' B wb S' P since chs (eP L rds s m)/\aG w w' B S S'/\∀ b off,ao=some ⟨b,off,none⟩->w.heap.size<=b/\b<w'.heap.size/\¬S' b)/\
 (dL L rds s m≠0->e=.returned (.tuple #[.slice none 0 0,errV (dL L rds s m)])/\ActV w w' B wb S P since chs (eP L rds s m))
theorem jN {P:Rws} {chs:List Chg} {rds:Rws} (h:OkV P chs rds) (s:ByteArray×ByteArray):(aF P chs s).length<=62/\∀ r∈aF P chs s,r.1.size<=60:=by
 refine⟨?_,zBh chs (fun r hr=>h.keys r (List.mem_filter.1 hr).1) h.ck⟩;have h1:=zBL (inR P s) s chs;have h2:(inR P s).length<=P.length:=List.length_filter_le _ _;have h3:=h.len;have h4:=h.cn;unfold aF;omega
theorem vM (s:ByteArray×ByteArray) (m:Int) {B wb:Nat} {S:Nat->Prop} {P:Rws} {since:Sn} {chs:List Chg} {rds:Rws} (w:World) (h:PV w B wb S P since chs rds) (hm:m<=9223372036854775807):
  Calls Tryz.prog 42 #[.pointer (some ⟨wb,0,none⟩),.agg #[.string s.1,.string s.2],.int .i64 m] w fun e w'=>zFy w w' e B wb S P since chs rds s m (aF P chs s):=by
 by_cases h0:m<1
 ·refine(zKR s m wb w h0).mono ?_;rintro e w' ⟨rfl,hb⟩;have e1:dL (aF P chs s) rds s m=1:=if_pos h0;have e2:eP (aF P chs s) rds s m=rds:=if_pos h0;unfold zFy;rw[e1,e2];exact⟨(fun e=>by cases e),fun _=>⟨rfl,S,h.on hb,.on h.lo hb⟩⟩
 ·have ok:=h.ok;obtain⟨cv,rv,h1,h2,rfl,h4,h5,h6,h7,h8,h9⟩:=h;have e0:(m.toNat:Int)=m:=by omega
  have e1:dL (aF P chs s) rds s m=cZ rds (rdS (aF P chs s) s m.toNat):=if_neg h0;have e2:eP (aF P chs s) rds s m=gX rds (rdS (aF P chs s) s m.toNat):=if_neg h0;have hs:zCE w wb s (fun F=>F=aF P chs s):=fun W hb=>(zKo s W (h1.on hb) (h2.on hb) h6 h7 ok.rise (by have:=ok.len;omega) (fun r hr=>by have:=ok.keys r hr;omega) h5 (by have:=ok.cn;omega)).mono (by
   rintro e w' ⟨v,rfl,hb',ho⟩;exact⟨v,rfl,hb',_,ho,rfl⟩)
  have hc:=zMz s m.toNat w h2 hs (fun F hF=>by rw[hF];exact⟨by have:=(jN ok s).1;omega,fun r hr=>by have:=(jN ok s).2 r hr;omega⟩) h9 (by have:=ok.rn;omega) (by omega) (by omega);rw[e0] at hc;refine hc.mono ?_;rintro e w' ⟨F,rfl,hok,hbad⟩;unfold zFy;rw[e1,e2];have ok2:OkV P chs (gX rds (rdS (aF P chs s) s m.toNat)):={ ok with rn:=pZ ok.rn };refine⟨fun hz=>?_,fun hz=>?_⟩
  ·obtain⟨ao,cap,he,hcap,hh,rv',hw,hb,hfar,hnew⟩:=hok hz;obtain⟨q1,q2⟩:=nG h1 h4 h5 h6 h7 h9 hw hb hfar ok2;refine⟨ao,cap,he,hcap,hh,_,q1,q2,fun b off e=>?_⟩;obtain⟨r1,r2,r3⟩:=hnew b off e;exact⟨r1,r2,fun e=>e.elim r3 fun e=>by have:=h1.lt e;omega⟩
  ·obtain⟨he,rv',hw,hb,hfar⟩:=hbad hz;exact⟨he,_,nG h1 h4 h5 h6 h7 h9 hw hb hfar ok2⟩
end
section
open Go.RowKit Go.Joins
theorem oO {c:Chg} (h:aD c=0):keyL c.key.data.toList=true/\c.val.size<=40:=by
 unfold aD at h;split at h
 ·cases h
 ·split at h
  ·cases h
  ·split at h
   ·cases h
   ·rename_i h1 _ h3;exact⟨by simpa using h1,by omega⟩
theorem lD {c:Chg} (h:aD c=0):c.key.size<=60:=by
 have:=zDf (oO h).1;have e:c.key.data.toList.length=c.key.size:=by rw[Array.length_toList];rfl
 omega
structure OkQ (P:Rws) (chs:List Chg):Prop where
 rk:∀ r∈P,keyL r.1.data.toList=true/\r.2.size<=40
 cf:∀ c∈chs,aD c=0
theorem OkQ.ck {P:Rws} {chs:List Chg} (h:OkQ P chs):∀ c∈chs,keyL c.key.data.toList=true/\c.val.size<=40:=fun c hc=>oO (h.cf c hc)
theorem zEL {l:List Chg} {c:Chg} (h:cH l c=0):aD c=0:=by
 unfold cH at h;split at h
 ·assumption
 ·exact h
theorem OkQ.alter {P:Rws} {chs:List Chg} (h:OkQ P chs) (c:Chg):OkQ P (bG chs c):=by
 unfold bG;split
 ·rename_i hf;exact⟨h.rk,fun x hx=>(vU hx).elim (fun e=>by rw[e];exact zEL hf) (h.cf x)⟩
 ·exact h
end
section
open Go.RowKit Go.Joins
attribute [local go_sem ↓] Go.wp_at_zero Go.wp_at_succ
def cO (l:List Chg) (i:Nat):Nat:=match l[i]? with
 | none=>0
 | some c=>if aD c≠0 then aD c else match i with
  | 0=>0
  | j+1=>match l[j]? with
   | some p=>if leS c.key p.key then 3 else 0
   | none=>0
def iT (l:List Chg):Nat:=(((List.range l.length).map (cO l)).find? (· != 0)).getD 0
theorem yJ {l:List Chg} {k:Nat} (hk:k<l.length) (h:∀ i,i<k->cO l i=0) (hf:cO l k≠0):iT l=cO l k:=by
 unfold iT;have:((List.range l.length).map (cO l)).find? (· != 0)=some (cO l k):=by
  rw[List.find?_eq_some_iff_getElem];refine⟨by simpa using hf,k,by simpa using hk,by simp,fun j hj=>?_⟩;have:=h j hj;simp[this]
 rw[this];rfl
theorem zBe {l:List Chg} (h:∀ i,i<l.length->cO l i=0):iT l=0:=by
 unfold iT;have:((List.range l.length).map (cO l)).find? (· != 0)=none:=by
  rw[List.find?_eq_none];intro x hx;obtain⟨i,hi,rfl⟩:=List.mem_map.1 hx;simp[h i (List.mem_range.1 hi)]
 rw[this];rfl
theorem zDz {l:List Chg} {k:Nat} (hk:k<l.length) (h:aD l[k]≠0):cO l k=aD l[k]:=by
 unfold cO;rw[List.getElem?_eq_getElem hk];simp[h]
theorem zHx {l:List Chg} (hk:0<l.length) (h:aD l[0]=0):cO l 0=0:=by
 unfold cO;rw[List.getElem?_eq_getElem hk];simp[h]
theorem zJC {l:List Chg} {j:Nat} (hk:j+1<l.length) (h:aD l[j+1]=0):cO l (j+1)=if leS l[j+1].key l[j].key then 3 else 0:=by
 have h2:l[j]?=some l[j]:=List.getElem?_eq_getElem (by omega);simp[cO,hk,h,h2]
theorem zEW (l:List Chg) (b off cap:Nat) (w:World) (hl:dG w b off l) (hn:l.length<=1000) (hk:∀ c∈l,c.key.size<=1000000):
  Calls Tryz.prog 195 #[.slice (some ⟨b,off,none⟩) l.length cap] w fun e w'=>e=.returned (errV (iT l))/\Below w.heap.size w w':=by
 go_enter Tryz.func195,Tryz.ntmps195;go_wp2
 go_loopw [8] (fun i wr=>∃ k:Nat,k<=l.length/\i=.int .i64 k/\(∀ i,i<k->cO l i=0)/\Below w.heap.size w wr) (fun i _=>l.length-(intOf i).toNat)
 case atStart=>exact⟨0,Nat.zero_le _,rfl,by simp,Below.refl _ _⟩
 case round=>
  obtain⟨k,hkl,rfl,hz,hB⟩:=hrel;have HZ:=hide hz;clear hz;by_cases hlt:k<l.length
  ·obtain⟨c0,c1,c2⟩:=gC hB hl k hlt;have hlt':(k:Int)<(l.length:Int):=by omega
   have hks:=hk _ (List.getElem_mem hlt);have hbA:=below_alloc1 wr (Obj.cells #[.string l[k].key,Value.string l[k].val,Value.bool l[k].gone] 133);have x0:(wr.alloc (Obj.cells #[.string l[k].key,Value.string l[k].val,Value.bool l[k].gone] 133)).cell? ⟨wr.heap.size,0,none⟩=some (.string l[k].key):=aC _ _ _ 0;have x1:(wr.alloc (Obj.cells #[.string l[k].key,Value.string l[k].val,Value.bool l[k].gone] 133)).cell? ⟨wr.heap.size,1,none⟩=some (.string l[k].val):=aC _ _ _ 1;have x2:(wr.alloc (Obj.cells #[.string l[k].key,Value.string l[k].val,Value.bool l[k].gone] 133)).cell? ⟨wr.heap.size,2,none⟩=some (.bool l[k].gone):=aC _ _ _ 2;have hBA:=aB hB (Nat.le_refl _) hbA;by_cases hf:aD l[k]=0
   ·have HC:=fun w'=>hide (gB l[k] w' (by unfold maxLen;omega));rw[hf] at HC;by_cases h0:k=0
    ·have HS:Hid (cO l k=0):=by
      subst h0;exact zHx hlt hf
     have hd:decide ((0:Int)<(k:Int))=false:=by simp;omega
     have hd2:decide (0<k)=false:=by simp;omega
     have H0:=hide h0;clear h0;go_wp2_with (go_at_call 170;refine((HC _).out).mono ?_;rintro e w1 ⟨rfl,hb⟩;replace hBA:=aB hBA (Nat.le_refl _) hb;replace x0:=aA hb x0;simp only[errV])
     go_quiet (fail);go_wp2;go_roundw
     case rel=>exact⟨k+1,by omega,by go_num,fun i hi=>by
      rcases Nat.lt_or_ge i k with h|h
      ·exact HZ.out i h
      ·have e:i=k:=by omega
       rw[e];exact HS.out,hBA.trans ((below_draws _ _ _).mono hBA.size)⟩
     case measure=>simp[intOf];omega
    ·obtain⟨j,hj⟩:∃ j,k=j+1:=⟨k-1,by omega⟩;have hjl:j<l.length:=by omega
     have HS:Hid (cO l k=if leS l[k].key l[j].key then 3 else 0):=by
      subst hj;exact zJC hlt hf
     obtain⟨p0w,_,_⟩:=hl j hjl;have hd:(0:Int)<(k:Int):=by omega
     have k1:(k:Int)-1=(j:Int):=by omega
     have k2:(j:Int)<(l.length:Int):=by omega
     have k3:IntKind.i64.wrap ((k:Int)-1)=(j:Int):=by rw[k1,IntKind.wrap_i64];omega
     have k4:(0:Int)<=(j:Int):=Int.natCast_nonneg _;have hd2:decide (0<k)=true:=by simp;omega
     have hd3:decide ((0:Int)<(k:Int))=true:=by simp;omega
     have HJ:=hide hj;clear hj h0
     cases hle:leS l[k].key l[j].key with
     | true=>
      have HL:Hid (cO l k=3):=by unfold Hid;rw[HS.out,hle];rfl
      have hle':(Op.bytesLess l[k].key.toList l[j].key.toList || l[k].key.toList==l[j].key.toList)=true:=hle;clear hle;go_wp2_with (go_at_call 170;refine((HC _).out).mono ?_;rintro e w1 ⟨rfl,hb⟩;replace hBA:=aB hBA (Nat.le_refl _) hb;replace x0:=aA hb x0;have p0:=aA hBA p0w;simp only[errV])
      go_quiet (fail);go_wp2;go_ret;exact⟨by rw[yJ hlt HZ.out (by rw[HL.out];omega),HL.out];rfl,hBA.trans ((below_draws _ _ _).mono hBA.size)⟩
     | false=>
      have HL:Hid (cO l k=0):=by unfold Hid;rw[HS.out,hle];rfl
      have hle':(Op.bytesLess l[k].key.toList l[j].key.toList || l[k].key.toList==l[j].key.toList)=false:=hle;clear hle;go_wp2_with (go_at_call 170;refine((HC _).out).mono ?_;rintro e w1 ⟨rfl,hb⟩;replace hBA:=aB hBA (Nat.le_refl _) hb;replace x0:=aA hb x0;have p0:=aA hBA p0w;simp only[errV])
      go_quiet (fail);go_wp2;go_roundw
      case rel=>exact⟨k+1,by omega,by go_num,fun i hi=>by
       rcases Nat.lt_or_ge i k with h|h
       ·exact HZ.out i h
       ·have e:i=k:=by omega
        rw[e];exact HL.out,hBA.trans ((below_draws _ _ _).mono hBA.size)⟩
      case measure=>simp[intOf];omega
   ·have HC:=fun w'=>hide (gB l[k] w' (by unfold maxLen;omega));have HD:=hide (yJ hlt HZ.out (by rw[zDz hlt hf];exact hf));have HS:=hide (zDz hlt hf);generalize hfe:aD l[k]=f at HC HS hf;have HF:=hide hf;clear hfe hf;go_wp2_with (go_at_call 170;refine((HC _).out).mono ?_;rintro e w1 ⟨rfl,hb⟩;replace hBA:=aB hBA (Nat.le_refl _) hb;rw[errV,if_neg HF.out])
    go_ret;exact⟨by rw[HD.out,HS.out,errV,if_neg HF.out];rfl,hBA⟩
  ·go_wp2;go_ret;exact⟨by rw[zBe fun i hi=>HZ.out i (by omega)];rfl,hB⟩
end
end Go.Proofs.YtnboipekkahmnaaGreatDoor
