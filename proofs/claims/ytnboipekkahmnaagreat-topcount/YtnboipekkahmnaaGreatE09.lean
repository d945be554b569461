import Derived.Test.YtnboipekkahmnaaGreatE08
import Derived.Shelf.SlSortCmp.WholeK
import Derived.Shelf.SlSorted.Search
import Derived.Shelf.Spec.SlicesInsert
import Derived.Lib.ItoaNum
import Derived.Lib.Atoi
import Derived.Deep.Upon
import Derived.Lib.LastIndexByte
import Derived.Deep.CutBlock
set_option maxHeartbeats 8000000
set_option maxRecDepth 100000
namespace Go.Proofs.YtnboipekkahmnaaGreat
section
open Go.RowKit Go.Joins Go.Shelf
attribute [local go_sem ↓] Go.wp_at_zero Go.wp_at_succ
def cZ (l:List (ByteArray×ByteArray)) (s:ByteArray×ByteArray):Nat:=if zCr l s then 0 else if 40<=l.length then 2 else 0
def gX (l:List (ByteArray×ByteArray)) (s:ByteArray×ByteArray):List (ByteArray×ByteArray):=if zCr l s then l else if 40<=l.length then l else l++[s]
def vH (w w':World) (B wb vb:Nat) (since:Int) (cv rv:Value) (chs:List Chg) (rds:List (ByteArray×ByteArray)):Prop:=∃ rv',VW w' B wb vb since cv rv' chs rds/\Below B w w'/\farW w w' wb cv rv cv rv'
theorem qT {w w':World} {B wb vb:Nat} {since:Int} {cv rv:Value} {chs:List Chg} {rds:List (ByteArray×ByteArray)} (h:VW w B wb vb since cv rv chs rds) (hB:B<=w.heap.size) (hb:Below w.heap.size w w'):vH w w' B wb vb since cv rv chs rds:=⟨rv,h.on hb,hb.mono hB,farW.on hb⟩
theorem zJc {w W w3:World} {B wb vb gk ck:Nat} {since:Int} {cv rv:Value} {chs:List Chg} {rds:List (ByteArray×ByteArray)} {s:ByteArray×ByteArray} (h:VW w B wb vb since cv rv chs rds) (hB:B<=w.heap.size) (hb:Below w.heap.size w W) (hg:W.grownBy w3 rv.ownBlock)
  (ho:w3.ownsRow B 73 2 (.slice (some ⟨gk,0,none⟩) (rds.length+1) ck) (rds.length+1) (rds.flatMap nN++[.string s.1,.string s.2])) (hat:rv.ownBlock=some gk∨gk=W.heap.size):
  vH w (w3.setCell ⟨wb,3,none⟩ (.slice (some ⟨gk,0,none⟩) (rds.length+1) ck)) B wb vb since cv rv chs (rds++[s]):=by
 have ho':lL w3 B (.slice (some ⟨gk,0,none⟩) (rds.length+1) ck) (rds++[s]):=by
  unfold lL
  rw[List.length_append,List.flatMap_append]
  exact ho
 have hs:=hb.size
 refine⟨_,(h.on hb).setR hg ho' (fun k e=>?_),(((hb.mono hB).grown hg (Nat.le_trans hB hs) (fun k e=>(World.ownsRow.lt h.rds k e).1)).setCell (p:=⟨wb,3,none⟩) h.lo _),fun j hj hn=>⟨?_,?_⟩⟩
 ·simp[Value.ownBlock] at e
  subst e
  exact hat.imp id (fun e=>by omega)
 ·exact(Below.heap_setCell _ _ _ _ (fun e=>hn (.inl e))).trans ((hg.block j (by omega) (fun e=>hn (.inr (.inr e.symm)))).trans (hb.block j hj))
 ·rintro(e|e|e)
  ·exact hn (.inl e)
  ·exact hn (.inr (.inl e))
  ·simp[Value.ownBlock] at e
   subst e
   rcases hat with e|e
   ·exact hn (.inr (.inr e))
   ·omega
theorem mB (s:ByteArray×ByteArray) {B wb vb:Nat} {since:Int} {cv rv:Value} {chs:List Chg} {rds:List (ByteArray×ByteArray)} (w:World) (h:VW w B wb vb since cv rv chs rds) (hB:B<=w.heap.size) (hn:rds.length<=100):
  Calls Tryz.prog 21 #[.pointer (some ⟨wb,0,none⟩),.agg #[.string s.1,.string s.2]] w fun e w'=>e=.returned (errV (cZ rds s))/\vH w w' B wb vb since cv rv chs (gX rds s):=by
 have HV:=hide h
 have hB0:=below_alloc1 w (Obj.cells #[.string s.1,.string s.2] 73)
 have a0:(w.alloc (Obj.cells #[.string s.1,.string s.2] 73)).cell? ⟨w.heap.size,0,none⟩=some (.string s.1):=aC _ _ _ 0
 have a1:(w.alloc (Obj.cells #[.string s.1,.string s.2] 73)).cell? ⟨w.heap.size,1,none⟩=some (.string s.2):=aC _ _ _ 1
 have c3:=aA hB0 h.c3
 have hwb:=h.lt (k:=wb) (.inl rfl)
 have HB0:=hide hB0
 obtain⟨ra,rc,rfl⟩:=iQ h.rds
 clear h hB0
 have HCT:=fun w1 (hb:Below w.heap.size w w1)=>hide (zD7 rds _ B s w1 ((HV.out.on hb).rds))
 unfold cZ gX
 generalize zCr rds s=hs at *
 cases hs
 ·by_cases h40:40<=rds.length
  ·have h40':(40:Int)<=(rds.length:Int):=by omega
   go_enter Tryz.func21,Tryz.ntmps21
   go_wp2
   go_region_held3 (fun w'=>w'.cell? ⟨w.heap.size,0,none⟩=some (.string s.1)/\w'.cell? ⟨w.heap.size,1,none⟩=some (.string s.2)/\w'.cell? ⟨wb,3,none⟩=some (.slice ra rds.length rc))
    (first|go_keep|exact⟨aA hb2 a0,aA hb2 a1,aA hb2 c3⟩) (first|(go_at_call 40;refine(HCT _ HB0.out.drew).out.mono ?_;rintro e w2 ⟨rfl,hb2'⟩;have hb2:=aB (Below.refl _ (w.alloc (Obj.cells #[.string s.1,.string s.2] 73))).drew (Nat.le_refl _) hb2';clear hb2';dsimp only))
   all_goals
    replace c3:=aA hb2 c3
    go_wp2
    go_ret
    exact⟨rfl,qT HV.out hB (aB HB0.out (Nat.le_refl _) hb2)⟩
  ·have h40':¬(40:Int)<=(rds.length:Int):=by omega
   go_enter Tryz.func21,Tryz.ntmps21
   go_wp2
   go_region_held3 (fun w'=>w'.cell? ⟨w.heap.size,0,none⟩=some (.string s.1)/\w'.cell? ⟨w.heap.size,1,none⟩=some (.string s.2)/\w'.cell? ⟨wb,3,none⟩=some (.slice ra rds.length rc))
    (first|go_keep|exact⟨aA hb2 a0,aA hb2 a1,aA hb2 c3⟩) (first|(go_at_call 40;refine(HCT _ HB0.out.drew).out.mono ?_;rintro e w2 ⟨rfl,hb2'⟩;have hb2:=aB (Below.refl _ (w.alloc (Obj.cells #[.string s.1,.string s.2] 73))).drew (Nat.le_refl _) hb2';clear hb2';dsimp only))
   all_goals
    replace a0:=aA hb2 a0
    replace a1:=aA hb2 a1
    replace c3:=aA hb2 c3
    have hb02:=aB HB0.out (Nat.le_refl _) hb2
    have f3:=aE hb02 hwb (HV.out.soft 3)
    have HO2:=hide (HV.out.on hb02).rds
    have HB02:=hide hb02
    have hs2:=hb02.size
    have hwb2:wb<w2.heap.size:=by omega
    have hsb:w.heap.size<w2.heap.size:=World.block_lt_of_cell? _ _ a0
    have av:some wb≠(Value.slice ra rds.length rc).ownBlock:=Ne.symm HV.out.nr
    have asx:some w.heap.size≠(Value.slice ra rds.length rc).ownBlock:=fun e=>by have:=HV.out.lt (.inr (.inr e.symm));omega
    obtain⟨i0,hi0,hz0,hz1,hz2⟩:=info_parts zBI
    have HNW:Hid (∀ j u,[Value.string s.1,Value.string s.2][j]?=some u->(w2.alloc (Obj.cells #[.string s.1,.string s.2] 73)).drew.cell? ((⟨w2.heap.size,0,none⟩:Addr).add j)=some u):=
     World.news_of_block (cs:=#[.string s.1,.string s.2]) (t:=73) (fr:=(0,0)) (heap_alloc_new w2 _)
    have hfr:∀ o,(w2.alloc o).frozen? ⟨wb,3,none⟩=false:=fun o=>aE (below_alloc1 _ _) (by show wb<_;omega) f3
    clear hb2 hb02
    go_wp2
    go_region_law ((refine step_append_lies _ (by rfl) _ _ _ (by rfl) B 73 i0 _ 2 32 Tryz.underlying68 hi0 hz0 hz1 hz2 rfl (by omega) (.slice ra rds.length rc) _ _ (by rfl) ((HO2.out.alloc _).drew) ⟨w2.heap.size,0,none⟩ 1 1 [.string s.1,.string s.2] (by rfl) (by rfl) HNW.out (by simp[Value.oneCell']) (by omega) (by unfold maxLen;omega) (by omega) (by simp;omega) (w2.heap.size+1) (by simp) ?_;intro gk ck w3 ho3 hgrow hat3 hlt3;have k3:w3.cell? ⟨wb,3,none⟩=some (.slice ra rds.length rc):=hgrow.cell (aA (below_alloc1 _ _).drew c3) av;have k2:w3.frozen? ⟨wb,3,none⟩=false:=(hgrow.frozen_far _ (by simp;omega) av).trans (hfr _)))
    all_goals
     have HRP:=hide (zJc HV.out hB (aB HB02.out (Nat.le_refl _) (below_alloc1 w2 (Obj.cells #[.string s.1,.string s.2] 73)).drew) hgrow ho3 (hat3.imp id fun e=>by rw[e];simp))
     clear k3 k2 ho3 hgrow hat3 hlt3 a0 a1 c3 f3 hfr
     go_wp2
     go_ret
     exact⟨rfl,HRP.out⟩
 ·go_enter Tryz.func21,Tryz.ntmps21
  go_wp2
  go_region_held3 (fun w'=>w'.cell? ⟨w.heap.size,0,none⟩=some (.string s.1)/\w'.cell? ⟨w.heap.size,1,none⟩=some (.string s.2)/\w'.cell? ⟨wb,3,none⟩=some (.slice ra rds.length rc))
   (first|go_keep|exact⟨aA hb2 a0,aA hb2 a1,aA hb2 c3⟩) (first|(go_at_call 40;refine(HCT _ HB0.out.drew).out.mono ?_;rintro e w2 ⟨rfl,hb2'⟩;have hb2:=aB (Below.refl _ (w.alloc (Obj.cells #[.string s.1,.string s.2] 73))).drew (Nat.le_refl _) hb2';clear hb2';dsimp only))
  all_goals
   go_wp2
   go_ret
   exact⟨rfl,qT HV.out hB (aB HB0.out (Nat.le_refl _) hb2)⟩
theorem zDI (k head:List UInt8):k.length<=(Lib.trimPrefix k head).length+head.length:=by
 unfold Lib.trimPrefix
 split
 ·rw[List.length_drop];omega
 ·omega
theorem zJ {k head:List UInt8} (h:jE k head=true):k.length<=head.length+6:=by
 unfold jE bK at h
 simp only[Bool.and_eq_true,decide_eq_true_eq] at h
 have:=zDI k head
 omega
theorem zDf {k:List UInt8} (h:keyL k=true):k.length<=15:=by
 unfold keyL at h
 simp only[Bool.or_eq_true] at h
 rcases h with h|h|h
 ·have:=zJ h;simp at this;omega
 ·have:=zJ h;simp at this;omega
 ·unfold kW nY bK sixL at h
  simp only[Bool.and_eq_true,decide_eq_true_eq] at h
  have h1:=zDI k [109,47]
  obtain⟨_,_,⟨⟨h2,h3⟩,_⟩,h4,_⟩:=h
  rw[List.length_take] at h2 h3
  rw[List.length_drop] at h4
  simp only[List.length_cons,List.length_nil] at h1
  omega
def getR (chs:List Chg) (rds:List (ByteArray×ByteArray)) (R:ByteArray->List Ver) (since:Int) (key:ByteArray):ByteArray×Bool×Nat:=
 if keyL key.data.toList then match qB chs key with
  | some c=>(c.val,!c.gone,0)
  | none=>if cZ rds (key,cX key)=0 then ((bE (R key) since).1,(bE (R key) since).2,0) else (⟨#[]⟩,false,cZ rds (key,cX key))
 else (⟨#[]⟩,false,3)
def getL (chs:List Chg) (rds:List (ByteArray×ByteArray)) (key:ByteArray):List (ByteArray×ByteArray):=
 if keyL key.data.toList then match qB chs key with
  | some _=>rds
  | none=>gX rds (key,cX key)
 else rds
theorem zLX (key:ByteArray) {B0 B wb vb mb n:Nat} {now since:Int} {D:DataW Value} {g:ByteArray->Value} {R:ByteArray->List Ver} {cv rv:Value} {chs:List Chg} {rds:List (ByteArray×ByteArray)} (w:World) (hv:VS w B0 vb mb now n D g R) (h:VW w B wb vb since cv rv chs rds) (ha:∀ k,inVS vb mb g k->¬inVW wb cv rv k)
  (hB:B<=w.heap.size) (hn:rds.length<=100) (hc:chs.length<=100) (hk:key.size<=maxLen) (hR:(R key).length<=1000000):
  Calls Tryz.prog 8 #[.pointer (some ⟨wb,0,none⟩),.string key] w fun e w'=>e=.returned (.tuple #[.string (getR chs rds R since key).1,.bool (getR chs rds R since key).2.1,errV (getR chs rds R since key).2.2])/\vH w w' B wb vb since cv rv chs (getL chs rds key):=by
 have HV:=hide hv
 have HW:=hide h
 have HA:=hide ha
 have c0:=h.c0
 have c1:=h.c1
 have c2:=h.c2
 clear h hv ha
 unfold getR getL
 cases hke:keyL key.data.toList with
 | false=>
  have HE:Hid (errV (if keyL key.data.toList then 0 else 3)=.iface 52 (.int .i64 3)):=by unfold Hid;rw[hke];rfl
  clear hke
  go_enter Tryz.func8,Tryz.ntmps8
  go_wp2_with (go_at_call 19;refine(oD key _ hk).mono ?_;rintro e w1 ⟨rfl,hb1⟩;rw[HE.out];have HB1:=hide hb1;clear hb1)
  go_ret3
  exact⟨rfl,qT HW.out hB HB1.out⟩
 | true=>
  have HE:Hid (errV (if keyL key.data.toList then 0 else 3)=.nilIface):=by unfold Hid;rw[hke];rfl
  have hks:key.size<=1000:=by have:=zDf hke;rw[Array.length_toList] at this;have e:key.size=key.data.size:=rfl;omega
  clear hke
  simp only[if_true]
  have HF:=fun w1 (hb:Below w.heap.size w w1)=>hide (zJX chs cv B key w1 ((HW.out.on hb).chs) (by omega))
  cases hf:qB chs key with
  | some c=>
   rw[hf] at HF
   simp only at HF
   clear hf
   go_enter Tryz.func8,Tryz.ntmps8
   go_wp2_with (first
    | (go_at_call 19;refine(oD key _ hk).mono ?_;rintro e w1 ⟨rfl,hb1⟩;rw[HE.out];have HB1:=hide hb1;replace c0:=aA hb1 c0;replace c1:=aA hb1 c1;replace c2:=aA hb1 c2;clear hb1)
    | (go_at_call 20;refine(HF _ HB1.out).out.mono ?_;rintro e w2 ⟨rfl,hb2⟩;have HB2:=hide (aB HB1.out (Nat.le_refl _) hb2);clear hb2))
   have hbc:=below_alloc1 w2 (Obj.cells #[.string c.key,.string c.val,.bool c.gone] 64)
   have e1:(w2.alloc (Obj.cells #[.string c.key,.string c.val,.bool c.gone] 64)).cell? ⟨w2.heap.size,1,none⟩=some (.string c.val):=aC _ _ _ 1
   have e2:(w2.alloc (Obj.cells #[.string c.key,.string c.val,.bool c.gone] 64)).cell? ⟨w2.heap.size,2,none⟩=some (.bool c.gone):=aC _ _ _ 2
   go_quiet (fail)
   go_wp2
   go_ret3
   exact⟨rfl,qT HW.out hB ((aB HB2.out (Nat.le_refl _) hbc).trans (below_draws _ _ _))⟩
  | none=>
   rw[hf] at HF
   simp only at HF
   clear hf
   by_cases hrf:cZ rds (key,cX key)=0
   ·have HRF:=hide hrf
    rw[if_pos hrf]
    clear hrf
    go_enter Tryz.func8,Tryz.ntmps8
    go_wp2_with (first
     | (go_at_call 19;refine(oD key _ hk).mono ?_;rintro e w1 ⟨rfl,hb1⟩;rw[HE.out];have HB1:=hide hb1;replace c0:=aA hb1 c0;replace c1:=aA hb1 c1;replace c2:=aA hb1 c2;clear hb1)
     | (go_at_call 20;refine(HF _ HB1.out).out.mono ?_;rintro e w2 ⟨rfl,hb2⟩;have HB2:=hide (aB HB1.out (Nat.le_refl _) hb2);clear hb2)
     | (go_at_call 22;have hbc:=below_alloc1 w2 (Obj.cells #[.string ⟨#[]⟩,Value.string ⟨#[]⟩,Value.bool false] 64);refine(uT key _ hks).mono ?_;rintro e w3 ⟨rfl,hb3⟩;have HB3:=hide (aB (aB HB2.out (Nat.le_refl _) hbc) (Nat.le_refl _) hb3);clear hb3 hbc)
     | (go_at_call 21;refine(mB (key,cX key) _ (HW.out.on HB3.out) (Nat.le_trans hB HB3.out.size) hn).mono ?_;rintro e w4 ⟨rfl,rv',hw4,hb4,hf4⟩;rw[HRF.out];simp only[errV];have HW4:=hide hw4;have HB4:=hide ((HB3.out.mono hB).trans hb4);have HF4:=hide (farW.trans (farW.on HB3.out) HB3.out.size hf4);replace c0:=hw4.c0;replace c1:=hw4.c1;clear hw4 hb4 hf4))
    have HV4:=hide (zFg HV.out HF4.out HA.out).1
    have hB4:B<=w4.heap.size:=Nat.le_trans hB HB4.out.size
    have nS:=OnW.some w4
    have n0:∀ m:OnW w4,m.w.cell? ⟨wb,0,none⟩=some (.pointer (some ⟨vb,0,none⟩)):=fun m=>m.cell c0
    have n1:∀ m:OnW w4,m.w.cell? ⟨wb,1,none⟩=some (.int .i64 since):=fun m=>m.cell c1
    refine dE (by kernel_rfl) (by kernel_rfl) ?_
    repeat (go_big_quiet_step ((first
     | (go_at_call 23;exact fF (zK4 key since _ (HV4.out.on (OnW.on _)) hk hR)))))
    refine wpQuiet_nil ?_
    intro w5 hw5
    replace hw5:=jG hw5
    have HB5:=hide hw5
    clear hw5
    go_wp2
    go_ret3
    exact⟨rfl,rv',HW4.out.on HB5.out,HB4.out.trans (HB5.out.mono hB4),farW.trans HF4.out HB4.out.size (farW.on HB5.out)⟩
   ·have he:errV (cZ rds (key,cX key))=.iface 52 (.int .i64 (cZ rds (key,cX key))):=by unfold errV;rw[if_neg hrf]
    have HER:=hide he
    rw[if_neg hrf]
    clear hrf he
    go_enter Tryz.func8,Tryz.ntmps8
    go_wp2_with (first
     | (go_at_call 19;refine(oD key _ hk).mono ?_;rintro e w1 ⟨rfl,hb1⟩;rw[HE.out];have HB1:=hide hb1;replace c0:=aA hb1 c0;replace c1:=aA hb1 c1;replace c2:=aA hb1 c2;clear hb1)
     | (go_at_call 20;refine(HF _ HB1.out).out.mono ?_;rintro e w2 ⟨rfl,hb2⟩;have HB2:=hide (aB HB1.out (Nat.le_refl _) hb2);clear hb2)
     | (go_at_call 22;have hbc:=below_alloc1 w2 (Obj.cells #[.string ⟨#[]⟩,Value.string ⟨#[]⟩,Value.bool false] 64);refine(uT key _ hks).mono ?_;rintro e w3 ⟨rfl,hb3⟩;have HB3:=hide (aB (aB HB2.out (Nat.le_refl _) hbc) (Nat.le_refl _) hb3);clear hb3 hbc)
     | (go_at_call 21;refine(mB (key,cX key) _ (HW.out.on HB3.out) (Nat.le_trans hB HB3.out.size) hn).mono ?_;rintro e w4 ⟨rfl,rv',hw4,hb4,hf4⟩;rw[HER.out];have HW4:=hide hw4;have HB4:=hide ((HB3.out.mono hB).trans hb4);have HF4:=hide (farW.trans (farW.on HB3.out) HB3.out.size hf4);clear hw4 hb4 hf4))
    go_ret3
    exact⟨by rw[HER.out];rfl,rv',HW4.out,HB4.out,HF4.out⟩
end
section
open Go.RowKit Go.Joins
def setL:List Value->Nat->List Value->List Value
 | xs,_,[]=>xs
 | xs,o,v::r=>setL (xs.set o v) (o+1) r
theorem vO:∀ (vs xs:List Value) (o i:Nat),i<o->(setL xs o vs)[i]?=xs[i]?
 | [],_,_,_,_=>rfl
 | v::r,xs,o,i,h=>by rw[setL,vO r _ _ _ (by omega),List.getElem?_set_ne (by omega)]
theorem zAx:∀ (vs xs:List Value) (o i:Nat),o<=i->i<o+vs.length->i<xs.length->(setL xs o vs)[i]?=vs[i-o]?
 | [],_,o,i,h1,h2,_=>by simp at h2;omega
 | v::r,xs,o,i,h1,h2,h3=>by
  rw[setL]
  rcases Nat.eq_or_lt_of_le h1 with e|e
  ·subst e
   rw[vO r _ _ _ (by omega),List.getElem?_set_self h3]
   simp
  ·rw[zAx r _ _ _ (by omega) (by simp at h2;omega) (by simpa using h3)]
   obtain⟨d,rfl⟩:∃ d,i=o+1+d:=⟨i-(o+1),by omega⟩
   rw[show o+1+d-(o+1)=d by omega,show o+1+d-o=d+1 by omega]
   rfl
theorem tN (vs xs:List Value) (o:Nat):(setL xs o vs).take o=xs.take o:=by
 apply List.ext_getElem?
 intro i
 rw[List.getElem?_take,List.getElem?_take]
 split
 ·exact vO _ _ _ _ (by assumption)
 ·rfl
theorem tI (vs xs:List Value) (h:vs.length<=xs.length):(setL xs 0 vs).take vs.length=vs:=by
 apply List.ext_getElem?
 intro i
 rw[List.getElem?_take]
 split
 ·rw[zAx _ _ _ _ (Nat.zero_le _) (by omega) (by omega)];rfl
 ·rw[List.getElem?_eq_none (by omega)]
theorem cT {B g n cap:Nat} {e:TypeId} {size:Nat}:∀ (vs:List Value) (o:Nat) (w:World) (xs:List Value),w.ownsRow B e size (.slice (some ⟨g,0,none⟩) n cap) n xs->
  (w.setCells g o vs).ownsRow B e size (.slice (some ⟨g,0,none⟩) n cap) n (setL xs o vs)/\w.grownBy (w.setCells g o vs) (some g)
 | [],_,w,_,h=>⟨h,World.grownBy.refl w _⟩
 | v::r,o,w,xs,h=>by
  have h1:=h.stored o v
  have h2:=cT r (o+1) _ _ h1.1
  exact⟨h2.1,h1.2.trans h2.2⟩
theorem rT {w:World} {B g n m cap:Nat} {e:TypeId} {size:Nat} {xs:List Value} (h:w.ownsRow B e size (.slice (some ⟨g,0,none⟩) n cap) n xs) (hm:m<=n):w.ownsRow B e size (.slice (some ⟨g,0,none⟩) m cap) m (xs.take (m*size)):=by
 obtain⟨h1,h2⟩:=h
 have hle:m*size<=n*size:=Nat.mul_le_mul_right _ hm
 refine⟨by rw[List.length_take,h1];omega,?_⟩
 rcases h2 with⟨e1,_⟩|⟨g',cap',cur,e1,hb,hh,hn,hc,hs,ht⟩
 ·cases e1
 ·cases e1
  refine .inr ⟨g,cap,cur,rfl,hb,hh,by omega,hc,hs,?_⟩
  rw[<-ht,List.take_take,Nat.min_eq_left hle]
theorem cS {w:World} {B g n cap:Nat} {e:TypeId} {size:Nat} {xs:List Value} (h:w.ownsRow B e size (.slice (some ⟨g,0,none⟩) n cap) n xs) (j:Nat) (hj:j<n*size):(w.cell? ⟨g,j,none⟩).isSome=true/\w.frozen? ⟨g,j,none⟩=false:=by
 refine⟨?_,h.frozenAt j⟩
 rw[h.cellAt j hj,List.getElem?_eq_getElem (by rw[h.1];exact hj)]
 rfl
theorem qG {P:Program} (w:World) (t e ty:TypeId) (z:Value) (ht:P.underlying t=some (.slice e)) (hv:∀ w,(zeroValue e).run P w=.ok z w) (b o n c:Nat) (hn:0<n) (h1:∀ u∈(Builtin.zeroCells z.cells n).toList,u.oneCell'=true)
  (hc:∀ j,j<n*z.cells.size->(w.cell? ⟨b,o+j,none⟩).isSome=true) (hf:∀ j,j<n*z.cells.size->w.frozen? ⟨b,o+j,none⟩=false):
  (Builtin.clear_ #[t] ty #[.slice (some ⟨b,o,none⟩) n c]).run P w=.ok (.tuple #[]) (w.setCells b o (Builtin.zeroCells z.cells n).toList):=by
 have hl:(Builtin.zeroCells z.cells n).toList.length=n*z.cells.size:=by rw[Array.length_toList,size_zeroCells]
 have hst:=run_storeCells_cells (P:=P) b o (Builtin.zeroCells z.cells n).toList 0 w (by rw[hl];simpa using hc) (by rw[hl];simpa using hf) h1
 simp only[Nat.add_zero] at hst
 obtain⟨m,rfl⟩:∃ m,n=m+1:=⟨n-1,by omega⟩
 simp[Builtin.clear_,run_underlying ht,hv,hst]
end
section
open Go.RowKit Go.Joins Go.Shelf
attribute [local go_sem ↓] Go.wp_at_zero Go.wp_at_succ
abbrev Rws:=List (ByteArray×ByteArray)
structure OkV (P:Rws) (chs:List Chg) (rds:Rws):Prop where
 rise:bV P
 len:P.length<=50
 keys:∀ r∈P,r.1.size<=60
 cn:chs.length<=12
 ck:∀ c∈chs,c.key.size<=60
 cr:rises chs
 rn:rds.length<=40
structure Sn where
 n:Int
 B0:Nat
 vb:Nat
 mb:Nat
 many:Nat
 now:Int
 D:DataW Value
 g:ByteArray->Value
 R:ByteArray->List Ver
def PV (w:World) (B wb:Nat) (S:Nat->Prop) (P:Rws) (since:Sn) (chs:List Chg) (rds:Rws):Prop:=
 ∃ (cv rv:Value),VS w since.B0 since.vb since.mb since.now since.many since.D since.g since.R/\VW w B wb since.vb since.n cv rv chs rds/\(S=fun k=>inVW wb cv rv k∨inVS since.vb since.mb since.g k)/\(∀ k,inVS since.vb since.mb since.g k->¬inVW wb cv rv k)/\sayR since.R since.n P/\since.many<=1000000/\(∀ key,(since.R key).length<=1000000)/\OkV P chs rds/\B<=w.heap.size
theorem PV.ok {w:World} {B wb:Nat} {S:Nat->Prop} {P:Rws} {since:Sn} {chs:List Chg} {rds:Rws} (h:PV w B wb S P since chs rds):OkV P chs rds:=by
 obtain⟨cv,rv,h1,h2,rfl,h4,h5,h6,h7,h8,h9⟩:=h
 exact h8
theorem nG {w w':World} {B wb:Nat} {since:Sn} {cv rv cv' rv':Value} {P:Rws} {chs:List Chg} {rds:Rws} (h1:VS w since.B0 since.vb since.mb since.now since.many since.D since.g since.R) (h4:∀ k,inVS since.vb since.mb since.g k->¬inVW wb cv rv k) (h5:sayR since.R since.n P) (h6:since.many<=1000000) (h7:∀ key,(since.R key).length<=1000000) (h9:B<=w.heap.size)
  (hw:VW w' B wb since.vb since.n cv' rv' chs rds) (hb:Below B w w') (hf:farW w w' wb cv rv cv' rv') (ok:OkV P chs rds):
  PV w' B wb (fun k=>inVW wb cv' rv' k∨inVS since.vb since.mb since.g k) P since chs rds/\aG w w' B (fun k=>inVW wb cv rv k∨inVS since.vb since.mb since.g k) (fun k=>inVW wb cv' rv' k∨inVS since.vb since.mb since.g k):=by
 obtain⟨a,b⟩:=zFg h1 hf h4
 refine⟨⟨cv',rv',a,hw,rfl,b,h5,h6,h7,ok,Nat.le_trans h9 hb.size⟩,hb,fun j hj hn=>?_⟩
 obtain⟨c,d⟩:=hf j hj fun e=>hn (.inl e)
 exact⟨c,fun e=>e.elim d fun e=>hn (.inr e)⟩
def ActV (w w':World) (B wb:Nat) (S:Nat->Prop) (P:Rws) (since:Sn) (chs:List Chg) (rds:Rws):Prop:=∃ S',PV w' B wb S' P since chs rds/\aG w w' B S S'
theorem xQ {P:Rws} {chs:List Chg} {rds:Rws} {c:Chg} (h:OkV P chs rds) (hc:aD c=0->c.key.size<=60):OkV P (bG chs c) rds:=by
 unfold bG
 split
 ·rename_i hf
  have hf0:aD c=0:=by
   unfold cH at hf
   split at hf
   ·assumption
   ·rename_i h';exact absurd hf h'
  have hl:¬12<(insL chs c).length:=by
   intro hl
   unfold cH at hf
   rw[if_pos hf0,if_pos hl] at hf
   cases hf
  exact { h with cn:=by omega,cr:=zA8 c h.cr,ck:=fun x hx=>(vU hx).elim (fun e=>by rw[e];exact hc hf0) (h.ck x) }
 ·exact h
theorem pZ {l:Rws} {s:ByteArray×ByteArray} (h:l.length<=40):(gX l s).length<=40:=by
 unfold gX
 split
 ·exact h
 ·split
  ·exact h
  ·rw[List.length_append,List.length_singleton];omega
theorem zIB (key val:ByteArray) {B wb:Nat} {S:Nat->Prop} {P:Rws} {since:Sn} {chs:List Chg} {rds:Rws} (w:World) (h:PV w B wb S P since chs rds) (hk:key.size<=maxLen) (hf:aD ⟨key,val,false⟩=0->key.size<=60):
  Calls Tryz.prog 9 #[.pointer (some ⟨wb,0,none⟩),.string key,.string val] w fun e w'=>e=.returned (errV (cH chs ⟨key,val,false⟩))/\ActV w w' B wb S P since (bG chs ⟨key,val,false⟩) rds:=by
 obtain⟨cv,rv,h1,h2,rfl,h4,h5,h6,h7,h8,h9⟩:=h
 refine(zKP key val w h2 h9 (by have:=h8.cn;omega) hk).mono ?_
 rintro e w' ⟨rfl,cv',hw,hb,hfar⟩
 exact⟨rfl,_,nG h1 h4 h5 h6 h7 h9 hw hb hfar (xQ h8 hf)⟩
def getP (chs:List Chg) (rds P:Rws) (key:ByteArray):ByteArray×Bool×Nat:=
 if keyL key.data.toList then match qB chs key with
  | some c=>(c.val,!c.gone,0)
  | none=>if cZ rds (key,cX key)=0 then ((valR P key).1,(valR P key).2,0) else (⟨#[]⟩,false,cZ rds (key,cX key))
 else (⟨#[]⟩,false,3)
theorem zDB {chs:List Chg} {rds:Rws} {key:ByteArray} (h:rds.length<=40):(getL chs rds key).length<=40:=by
 unfold getL
 split
 ·split
  ·exact h
  ·exact pZ h
 ·exact h
theorem zMh {chs:List Chg} {rds P:Rws} {R:ByteArray->List Ver} {since:Int} (h:sayR R since P) (key:ByteArray):getR chs rds R since key=getP chs rds P key:=by
 unfold getR getP
 rw[h key]<;>rfl
theorem zMZ (key:ByteArray) {B wb:Nat} {S:Nat->Prop} {P:Rws} {since:Sn} {chs:List Chg} {rds:Rws} (w:World) (h:PV w B wb S P since chs rds) (hk:key.size<=maxLen):
  Calls Tryz.prog 8 #[.pointer (some ⟨wb,0,none⟩),.string key] w fun e w'=>e=.returned (.tuple #[.string (getP chs rds P key).1,.bool (getP chs rds P key).2.1,errV (getP chs rds P key).2.2])/\ActV w w' B wb S P since chs (getL chs rds key):=by
 obtain⟨cv,rv,h1,h2,rfl,h4,h5,h6,h7,h8,h9⟩:=h
 refine(zLX key w h1 h2 h4 h9 (by have:=h8.rn;omega) (by have:=h8.cn;omega) hk (h7 key)).mono ?_
 rintro e w' ⟨rfl,rv',hw,hb,hfar⟩
 rw[zMh h5]
 exact⟨rfl,_,nG h1 h4 h5 h6 h7 h9 hw hb hfar { h8 with rn:=zDB h8.rn }⟩
end
section
open Go.RowKit Go.Joins
theorem oO {c:Chg} (h:aD c=0):keyL c.key.data.toList=true/\c.val.size<=40:=by
 unfold aD at h
 split at h
 ·cases h
 ·split at h
  ·cases h
  ·split at h
   ·cases h
   ·rename_i h1 _ h3
    exact⟨by simpa using h1,by omega⟩
theorem lD {c:Chg} (h:aD c=0):c.key.size<=60:=by
 have:=zDf (oO h).1
 have e:c.key.data.toList.length=c.key.size:=by rw[Array.length_toList];rfl
 omega
structure OkQ (P:Rws) (chs:List Chg):Prop where
 rk:∀ r∈P,keyL r.1.data.toList=true/\r.2.size<=40
 cf:∀ c∈chs,aD c=0
theorem OkQ.ck {P:Rws} {chs:List Chg} (h:OkQ P chs):∀ c∈chs,keyL c.key.data.toList=true/\c.val.size<=40:=fun c hc=>oO (h.cf c hc)
theorem zEL {l:List Chg} {c:Chg} (h:cH l c=0):aD c=0:=by
 unfold cH at h
 split at h
 ·assumption
 ·exact h
theorem OkQ.alter {P:Rws} {chs:List Chg} (h:OkQ P chs) (c:Chg):OkQ P (bG chs c):=by
 unfold bG
 split
 ·rename_i hf
  exact⟨h.rk,fun x hx=>(vU hx).elim (fun e=>by rw[e];exact zEL hf) (h.cf x)⟩
 ·exact h
end
section
open Go.RowKit Go.Joins
attribute [local go_sem ↓] Go.wp_at_zero Go.wp_at_succ
def cO (l:List Chg) (i:Nat):Nat:=match l[i]? with
 | none=>0
 | some c=>if aD c≠0 then aD c else match i with
  | 0=>0
  | j+1=>match l[j]? with
   | some p=>if leS c.key p.key then 3 else 0
   | none=>0
def iT (l:List Chg):Nat:=(((List.range l.length).map (cO l)).find? (· != 0)).getD 0
theorem yJ {l:List Chg} {k:Nat} (hk:k<l.length) (h:∀ i,i<k->cO l i=0) (hf:cO l k≠0):iT l=cO l k:=by
 unfold iT
 have:((List.range l.length).map (cO l)).find? (· != 0)=some (cO l k):=by
  rw[List.find?_eq_some_iff_getElem]
  refine⟨by simpa using hf,k,by simpa using hk,by simp,fun j hj=>?_⟩
  have:=h j hj
  simp[this]
 rw[this];rfl
theorem zBe {l:List Chg} (h:∀ i,i<l.length->cO l i=0):iT l=0:=by
 unfold iT
 have:((List.range l.length).map (cO l)).find? (· != 0)=none:=by
  rw[List.find?_eq_none]
  intro x hx
  obtain⟨i,hi,rfl⟩:=List.mem_map.1 hx
  simp[h i (List.mem_range.1 hi)]
 rw[this];rfl
theorem zDz {l:List Chg} {k:Nat} (hk:k<l.length) (h:aD l[k]≠0):cO l k=aD l[k]:=by
 unfold cO
 rw[List.getElem?_eq_getElem hk]
 simp[h]
theorem zHx {l:List Chg} (hk:0<l.length) (h:aD l[0]=0):cO l 0=0:=by
 unfold cO
 rw[List.getElem?_eq_getElem hk]
 simp[h]
theorem zJC {l:List Chg} {j:Nat} (hk:j+1<l.length) (h:aD l[j+1]=0):cO l (j+1)=if leS l[j+1].key l[j].key then 3 else 0:=by
 have h2:l[j]?=some l[j]:=List.getElem?_eq_getElem (by omega)
 simp[cO,hk,h,h2]
theorem zEW (l:List Chg) (b off cap:Nat) (w:World) (hl:dG w b off l) (hn:l.length<=1000) (hk:∀ c∈l,c.key.size<=1000000):
  Calls Tryz.prog 83 #[.slice (some ⟨b,off,none⟩) l.length cap] w fun e w'=>e=.returned (errV (iT l))/\Below w.heap.size w w':=by
 go_enter Tryz.func83,Tryz.ntmps83
 go_wp2
 go_loopw [8] (fun i wr=>∃ k:Nat,k<=l.length/\i=.int .i64 k/\(∀ i,i<k->cO l i=0)/\Below w.heap.size w wr) (fun i _=>l.length-(intOf i).toNat)
 case atStart=>exact⟨0,Nat.zero_le _,rfl,by simp,Below.refl _ _⟩
 case round=>
  obtain⟨k,hkl,rfl,hz,hB⟩:=hrel
  have HZ:=hide hz
  clear hz
  by_cases hlt:k<l.length
  ·obtain⟨c0,c1,c2⟩:=gC hB hl k hlt
   have hlt':(k:Int)<(l.length:Int):=by omega
   have hks:=hk _ (List.getElem_mem hlt)
   have hbA:=below_alloc1 wr (Obj.cells #[.string l[k].key,Value.string l[k].val,Value.bool l[k].gone] 64)
   have x0:(wr.alloc (Obj.cells #[.string l[k].key,Value.string l[k].val,Value.bool l[k].gone] 64)).cell? ⟨wr.heap.size,0,none⟩=some (.string l[k].key):=aC _ _ _ 0
   have x1:(wr.alloc (Obj.cells #[.string l[k].key,Value.string l[k].val,Value.bool l[k].gone] 64)).cell? ⟨wr.heap.size,1,none⟩=some (.string l[k].val):=aC _ _ _ 1
   have x2:(wr.alloc (Obj.cells #[.string l[k].key,Value.string l[k].val,Value.bool l[k].gone] 64)).cell? ⟨wr.heap.size,2,none⟩=some (.bool l[k].gone):=aC _ _ _ 2
   have hBA:=aB hB (Nat.le_refl _) hbA
   by_cases hf:aD l[k]=0
   ·have HC:=fun w'=>hide (gB l[k] w' (by unfold maxLen;omega))
    rw[hf] at HC
    by_cases h0:k=0
    ·have HS:Hid (cO l k=0):=by
      subst h0;exact zHx hlt hf
     have hd:decide ((0:Int)<(k:Int))=false:=by simp;omega
     have hd2:decide (0<k)=false:=by simp;omega
     have H0:=hide h0
     clear h0
     go_wp2_with (go_at_call 42;refine((HC _).out).mono ?_;rintro e w1 ⟨rfl,hb⟩;replace hBA:=aB hBA (Nat.le_refl _) hb;replace x0:=aA hb x0;simp only[errV])
     go_quiet (fail)
     go_wp2
     go_roundw
     case rel=>exact⟨k+1,by omega,by go_num,fun i hi=>by
      rcases Nat.lt_or_ge i k with h|h
      ·exact HZ.out i h
      ·have e:i=k:=by omega
       rw[e];exact HS.out,hBA.trans ((below_draws _ _ _).mono hBA.size)⟩
     case measure=>simp[intOf];omega
    ·obtain⟨j,hj⟩:∃ j,k=j+1:=⟨k-1,by omega⟩
     have hjl:j<l.length:=by omega
     have HS:Hid (cO l k=if leS l[k].key l[j].key then 3 else 0):=by
      subst hj;exact zJC hlt hf
     obtain⟨p0w,_,_⟩:=hl j hjl
     have hd:(0:Int)<(k:Int):=by omega
     have k1:(k:Int)-1=(j:Int):=by omega
     have k2:(j:Int)<(l.length:Int):=by omega
     have k3:IntKind.i64.wrap ((k:Int)-1)=(j:Int):=by rw[k1,IntKind.wrap_i64];omega
     have k4:(0:Int)<=(j:Int):=Int.natCast_nonneg _
     have hd2:decide (0<k)=true:=by simp;omega
     have hd3:decide ((0:Int)<(k:Int))=true:=by simp;omega
     have HJ:=hide hj
     clear hj h0
     cases hle:leS l[k].key l[j].key with
     | true=>
      have HL:Hid (cO l k=3):=by unfold Hid;rw[HS.out,hle];rfl
      have hle':(Op.bytesLess l[k].key.toList l[j].key.toList || l[k].key.toList==l[j].key.toList)=true:=hle
      clear hle
      go_wp2_with (go_at_call 42;refine((HC _).out).mono ?_;rintro e w1 ⟨rfl,hb⟩;replace hBA:=aB hBA (Nat.le_refl _) hb;replace x0:=aA hb x0;have p0:=aA hBA p0w;simp only[errV])
      go_quiet (fail)
      go_wp2
      go_ret
      exact⟨by rw[yJ hlt HZ.out (by rw[HL.out];omega),HL.out];rfl,hBA.trans ((below_draws _ _ _).mono hBA.size)⟩
     | false=>
      have HL:Hid (cO l k=0):=by unfold Hid;rw[HS.out,hle];rfl
      have hle':(Op.bytesLess l[k].key.toList l[j].key.toList || l[k].key.toList==l[j].key.toList)=false:=hle
      clear hle
      go_wp2_with (go_at_call 42;refine((HC _).out).mono ?_;rintro e w1 ⟨rfl,hb⟩;replace hBA:=aB hBA (Nat.le_refl _) hb;replace x0:=aA hb x0;have p0:=aA hBA p0w;simp only[errV])
      go_quiet (fail)
      go_wp2
      go_roundw
      case rel=>exact⟨k+1,by omega,by go_num,fun i hi=>by
       rcases Nat.lt_or_ge i k with h|h
       ·exact HZ.out i h
       ·have e:i=k:=by omega
        rw[e];exact HL.out,hBA.trans ((below_draws _ _ _).mono hBA.size)⟩
      case measure=>simp[intOf];omega
   ·have HC:=fun w'=>hide (gB l[k] w' (by unfold maxLen;omega))
    have HD:=hide (yJ hlt HZ.out (by rw[zDz hlt hf];exact hf))
    have HS:=hide (zDz hlt hf)
    generalize hfe:aD l[k]=f at HC HS hf
    have HF:=hide hf
    clear hfe hf
    go_wp2_with (go_at_call 42;refine((HC _).out).mono ?_;rintro e w1 ⟨rfl,hb⟩;replace hBA:=aB hBA (Nat.le_refl _) hb;rw[errV,if_neg HF.out])
    go_ret
    exact⟨by rw[HD.out,HS.out,errV,if_neg HF.out];rfl,hBA⟩
  ·go_wp2
   go_ret
   exact⟨by rw[zBe fun i hi=>HZ.out i (by omega)];rfl,hB⟩
end
section
open Go.RowKit Go.Joins
structure VwL where
 P:Rws
 n:Nat
 chs:List Chg
 rds:Rws
structure ESt where
 x:SSt
 now:Nat
 R:ByteArray->List Ver
 ds:List aU
 ses:Nat->Option VwL
 c:Nat
def setS (f:Nat->Option VwL) (i:Nat) (v:Option VwL):Nat->Option VwL:=fun j=>if j=i then v else f j
theorem hE (f:Nat->Option VwL) (i:Nat) (v:Option VwL):setS f i v i=v:=if_pos rfl
theorem hU {f:Nat->Option VwL} {i j:Nat} (v:Option VwL) (h:j≠i):setS f i v j=f j:=if_neg h
theorem zBn {f:Nat->Option VwL} {i j:Nat} {v:VwL} (h:setS f i none j=some v):f j=some v:=by
 unfold setS at h
 split at h
 ·cases h
 ·exact h
def minS (n:Nat):Option VwL->Nat
 | some v=>min n v.n
 | none=>n
def cI (s:ESt):Nat:=minS (minS (minS (minS s.now (s.ses 0)) (s.ses 1)) (s.ses 2)) (s.ses 3)
theorem lB (n:Nat) (o:Option VwL):minS n o<=n:=by cases o<;>simp only[minS]<;>omega
theorem qC {n:Nat} {o:Option VwL} {v:VwL} (h:o=some v):minS n o<=v.n:=by subst h;simp only[minS];omega
theorem yI {s:ESt} {i:Nat} {v:VwL} (hi:i<4) (h:s.ses i=some v):cI s<=v.n:=by
 have h1:=lB (minS (minS (minS s.now (s.ses 0)) (s.ses 1)) (s.ses 2)) (s.ses 3)
 have h2:=lB (minS (minS s.now (s.ses 0)) (s.ses 1)) (s.ses 2)
 have h3:=lB (minS s.now (s.ses 0)) (s.ses 1)
 have h4:=lB s.now (s.ses 0)
 unfold cI
 have hc:i=0∨i=1∨i=2∨i=3:=by omega
 rcases hc with rfl|rfl|rfl|rfl
 ·have:=qC (n:=s.now) h;omega
 ·have:=qC (n:=minS s.now (s.ses 0)) h;omega
 ·have:=qC (n:=minS (minS s.now (s.ses 0)) (s.ses 1)) h;omega
 ·exact qC h
def nU (s:ESt) (i:Nat):ESt:={ s with ses:=setS s.ses i none }
def endE (s:ESt) (i:Nat):ESt:={ nU s i with ds:=s.ds.drop (cR s.ds (cI (nU s i))) }
def dX (s:ESt) (i:Nat):ESt:={ s with ses:=setS s.ses i (some ⟨aS s.x.rows,s.now,[],[]⟩) }
def jU (s:ESt) (i:Nat) (v:VwL) (chs:List Chg) (rds:Rws):ESt:={ s with ses:=setS s.ses i (some ⟨v.P,v.n,chs,rds⟩) }
def addE (s:ESt) (chs:List Chg):ESt:={ s with x:=(comR s.x chs).2,now:=s.now+1,R:=cW s.R ((s.now:Int)+1) chs,ds:=s.ds++[⟨(s.now:Int)+1,chs.map (·.key)⟩],c:=s.c+1 }
def comE (s:ESt) (i:Nat):(Nat×Nat)×ESt:=match s.ses i with
 | none=>((0,7),s)
 | some v=>if v.chs=[] then ((v.n,0),endE s i)
  else if lC s.ds v.rds v.n=false then ((0,9),endE s i)
  else if (comR s.x v.chs).1≠0 then ((0,(comR s.x v.chs).1),{ s with x:=(comR s.x v.chs).2 })
  else ((s.now+1,0),endE (addE s v.chs) i)
def newE (d:DSt) (area first u:Nat) (rows:List Chg):ESt:=⟨⟨d,area,first,u,rows⟩,0,jS (aS rows),[],fun _=>none,0⟩
structure VOk (s:ESt) (v:VwL):Prop where
 lo:v.n<=s.now
 say:sayR s.R v.n v.P
 ov:OkV v.P v.chs v.rds
 oq:OkQ v.P v.chs
 sem:∀ key,(∀ d∈s.ds,(v.n:Int)<d.n->key∉d.keys)->valR (aS s.x.rows) key=valR v.P key
structure EOk (s:ESt):Prop where
 g:fA s.x
 say:sayR s.R s.now (aS s.x.rows)
 up:nC s.R s.now
 rd:gS s.ds
 dn:∀ d∈s.ds,d.n<=s.now
 dl:s.ds.length<=s.now
 dk:∀ d∈s.ds,d.keys.length<=12
 kl:∃ L:List ByteArray,L.length<=50+12*s.now/\∀ key,s.R key≠[]->key∈L
 rl:∀ key,(s.R key).length<=1+12*s.now
 nc:s.now<=s.c
 ses:∀ i v,s.ses i=some v->VOk s v
theorem yA {rows:List Chg} (h:fH rows) (hn:rows.length<=40):OkV (aS rows) [] [] where
 rise:=oY h.2
 len:=by unfold aS;rw[List.length_map];omega
 keys:=fun r hr=>by
  obtain⟨c,hc,rfl⟩:=List.mem_map.1 hr
  exact lD (h.1 c hc).1
 cn:=by simp
 ck:=by simp
 cr:=List.Pairwise.nil
 rn:=by simp
theorem zKG {rows:List Chg} (h:fH rows):OkQ (aS rows) [] where
 rk:=fun r hr=>by
  obtain⟨c,hc,rfl⟩:=List.mem_map.1 hr
  exact oO (h.1 c hc).1
 cf:=by simp
theorem zLq {R:ByteArray->List Ver} {a n:Int} {P:Rws} (hu:nC R a) (han:a<=n) (h:sayR R a P):sayR R n P:=fun key=>by
 have e:dZ (R key) n=dZ (R key) a:=by
  unfold dZ
  have hf:∀ (l:List Ver),(∀ x∈l,x.deed<=a)->l.find? (fun x=>decide (x.deed<=n))=l.find? (fun x=>decide (x.deed<=a)):=by
   intro l hl
   cases l with
   | nil=>rfl
   | cons x l=>
    have:=hl x (List.mem_cons_self ..)
    rw[List.find?_cons_of_pos (by simp;omega),List.find?_cons_of_pos (by simpa using this)]
  exact hf _ fun x hx=>hu key x (List.mem_reverse.1 hx)
 have h1:=h key
 unfold bE at h1 ⊢
 rw[e]
 exact h1
theorem zCb {P:Rws} (hP:bV P) {key:ByteArray}:∀ (cs:List Chg),key∉cs.map (·.key)->valR (iB P cs) key=valR P key:=by
 intro cs
 induction cs generalizing P with
 | nil=>intro _;rfl
 | cons c cs ih=>
  intro h
  rw[List.map_cons,List.mem_cons,not_or] at h
  have e:iB P (c::cs)=iB (apply1 P c) cs:=rfl
  rw[e,ih (jO hP c) h.2]
  exact uJ hP h.1
theorem yU (d:Int) (key:ByteArray):∀ (l:List Chg) (R:ByteArray->List Ver),cW R d l key≠[]->R key≠[]∨key∈l.map (·.key)
 | [],R,h=>.inl h
 | c::l,R,h=>by
  have e:cW R d (c::l)=cW (putG R c.key (R c.key++[⟨d,c.val,c.gone⟩])) d l:=rfl
  rw[e] at h
  rcases yU d key l _ h with h1|h1
  ·by_cases hk:key=c.key
   ·exact .inr (by rw[List.map_cons,hk];exact List.mem_cons_self ..)
   ·rw[aW _ _ hk] at h1;exact .inl h1
  ·exact .inr (by rw[List.map_cons];exact List.mem_cons_of_mem _ h1)
theorem zIy {l:Rws} {key:ByteArray} (h:jS l key≠[]):key∈l.map (·.1):=by
 have aux:∀ (l:Rws) (R:ByteArray->List Ver),(l.foldl (fun R r=>putG R r.1 [⟨0,r.2,false⟩]) R) key≠[]->R key≠[]∨key∈l.map (·.1):=by
  intro l
  induction l with
  | nil=>intro R h;exact .inl h
  | cons r l ih=>
   intro R h
   rcases ih _ h with h1|h1
   ·by_cases hk:key=r.1
    ·exact .inr (by rw[List.map_cons,hk];exact List.mem_cons_self ..)
    ·dsimp only at h1
     rw[aW _ _ hk] at h1;exact .inl h1
   ·exact .inr (by rw[List.map_cons];exact List.mem_cons_of_mem _ h1)
 rcases aux l _ h with h1|h1
 ·exact absurd rfl h1
 ·exact h1
theorem zEX {l:List Chg} (h:∀ c∈l,aD c=0) (hr:rises l):iT l=0:=by
 refine zBe fun i hi=>?_
 unfold cO
 rw[List.getElem?_eq_getElem hi]
 dsimp only
 rw[if_neg (by rw[h _ (List.getElem_mem hi)];decide)]
 cases i with
 | zero=>rfl
 | succ j=>
  dsimp only
  rw[List.getElem?_eq_getElem (by omega)]
  dsimp only
  have:=List.pairwise_iff_getElem.1 hr j (j+1) (by omega) hi (by omega)
  rw[if_neg (by rw[mA,this];decide)]
section
variable {s:ESt}
theorem EOk.fine (h:EOk s):fH s.x.rows:=cQ.fine h.g
theorem EOk.few (h:EOk s):s.x.rows.length<=40:=cQ.few h.g
theorem EOk.begin (h:EOk s) (i:Nat):EOk (dX s i):={ h with
 ses:=fun j v hj=>by
  have hj':setS s.ses i (some ⟨aS s.x.rows,s.now,[],[]⟩) j=some v:=hj
  unfold setS at hj'
  split at hj'
  ·cases hj'
   exact⟨Nat.le_refl _,h.say,yA h.fine h.few,zKG h.fine,fun _ _=>rfl⟩
  ·have:=h.ses j v hj'
   exact⟨this.lo,this.say,this.ov,this.oq,this.sem⟩ }
theorem EOk.drop (h:EOk s) (i:Nat):EOk (nU s i):={ h with
 ses:=fun j v hj=>by
  have:=h.ses j v (zBn hj)
  exact⟨this.lo,this.say,this.ov,this.oq,this.sem⟩ }
theorem EOk.forget (h:EOk s) (hs:∀ i,4<=i->s.ses i=none):EOk { s with ds:=s.ds.drop (cR s.ds (cI s)) }:={ h with
 rd:=zFu h.rd _
 dn:=fun d hd=>h.dn d (List.mem_of_mem_drop hd)
 dl:=by show(s.ds.drop _).length<=s.now;rw[List.length_drop];have:=h.dl;omega
 dk:=fun d hd=>h.dk d (List.mem_of_mem_drop hd)
 ses:=fun j v hj=>by
  have hj':s.ses j=some v:=hj
  have hi:j<4:=by
   rcases Nat.lt_or_ge j 4 with h4|h4
   ·exact h4
   ·rw[hs j h4] at hj';cases hj'
  have hv:=h.ses j v hj'
  refine⟨hv.lo,hv.say,hv.ov,hv.oq,fun key hk=>hv.sem key fun d hd hn=>hk d ?_ hn⟩
  show d∈s.ds.drop (cR s.ds (cI s))
  rw[zFJ h.rd,List.mem_filter]
  have:=yI hi hj'
  exact⟨hd,by simp;omega⟩ }
theorem EOk.ended (h:EOk s) (hs:∀ i,4<=i->s.ses i=none) (i:Nat):EOk (endE s i):=(h.drop i).forget fun j hj=>by
 show setS s.ses i none j=none
 unfold setS
 split
 ·rfl
 ·exact hs j hj
theorem EOk.view (h:EOk s) {i:Nat} {v:VwL} (hv:s.ses i=some v) {chs:List Chg} {rds:Rws} (h1:OkV v.P chs rds) (h2:OkQ v.P chs):EOk (jU s i v chs rds):={ h with
 ses:=fun j u hj=>by
  have hj':setS s.ses i (some ⟨v.P,v.n,chs,rds⟩) j=some u:=hj
  unfold setS at hj'
  have hvo:=h.ses i v hv
  split at hj'
  ·cases hj'
   exact⟨hvo.lo,hvo.say,h1,h2,hvo.sem⟩
  ·have:=h.ses j u hj'
   exact⟨this.lo,this.say,this.ov,this.oq,this.sem⟩ }
theorem EOk.add (h:EOk s) {chs:List Chg} (h0:(comR s.x chs).1=0):EOk (addE s chs):=by
 obtain⟨_,hc⟩:=h.g.commit chs
 have hc2:comF s.x chs=0/\fA (comR s.x chs).2/\(comR s.x chs).2.rows=aK s.x.rows chs:=by
  rcases hc with⟨_,a,b,c,_⟩|⟨a,b,_⟩|⟨a,_⟩
  ·exact⟨a,b,c⟩
  ·rw[h0] at a;exact absurd a.symm b
  ·rw[h0] at a;cases a
 obtain⟨q1,q2,q3⟩:=hc2
 obtain⟨z1,z2,z3,z4⟩:=tU q1
 have hrows:aS (comR s.x chs).2.rows=iB (aS s.x.rows) chs:=by rw[q3,zBY h.fine]
 have hri:=oY h.fine.2
 have hnew:∀ key,key∉chs.map (·.key)->valR (aS (comR s.x chs).2.rows) key=valR (aS s.x.rows) key:=fun key hk=>by
  rw[hrows];exact zCb hri chs hk
 exact {
  g:=q2
  say:=by
   show sayR (cW s.R ((s.now:Int)+1) chs) ((s.now+1:Nat):Int) (aS (comR s.x chs).2.rows)
   rw[hrows]
   have e:((s.now+1:Nat):Int)=(s.now:Int)+1:=by omega
   rw[e]
   exact zJs (Int.le_refl _) hri (zLq h.up (by omega) h.say) chs
  up:=by
   show nC (cW s.R ((s.now:Int)+1) chs) ((s.now+1:Nat):Int)
   have e:((s.now+1:Nat):Int)=(s.now:Int)+1:=by omega
   rw[e]
   exact zG4 (zHH h.up (by omega)) chs
  rd:=by
   show(s.ds++[_]).Pairwise _
   rw[List.pairwise_append]
   refine⟨h.rd,List.pairwise_singleton _ _,fun a ha b hb=>?_⟩
   rw[List.mem_singleton.1 hb]
   have:=h.dn a ha
   show a.n<(s.now:Int)+1
   omega
  dn:=fun d hd=>by
   show d.n<=((s.now+1:Nat):Int)
   rcases List.mem_append.1 hd with hd|hd
   ·have:=h.dn d hd;omega
   ·rw[List.mem_singleton.1 hd];show(s.now:Int)+1<=_;omega
  dl:=by show(s.ds++[_]).length<=s.now+1;rw[List.length_append];have:=h.dl;simp;omega
  dk:=fun d hd=>by
   rcases List.mem_append.1 hd with hd|hd
   ·exact h.dk d hd
   ·rw[List.mem_singleton.1 hd];show(chs.map (·.key)).length<=12;rw[List.length_map];exact z1
  kl:=by
   obtain⟨L,hL1,hL2⟩:=h.kl
   refine⟨L++chs.map (·.key),?_,fun key hk=>?_⟩
   ·show _<=50+12*(s.now+1)
    rw[List.length_append,List.length_map];omega
   ·rcases yU _ key chs s.R hk with h1|h1
    ·exact List.mem_append_left _ (hL2 key h1)
    ·exact List.mem_append_right _ h1
  rl:=fun key=>by
   have h1:=sF ((s.now:Int)+1) key chs s.R
   have h2:=h.rl key
   show(cW s.R ((s.now:Int)+1) chs key).length<=1+12*(s.now+1)
   omega
  nc:=by show s.now+1<=s.c+1;have:=h.nc;omega
  ses:=fun j v hj=>by
   have hv:=h.ses j v hj
   have hlo:=hv.lo
   refine⟨by show v.n<=s.now+1;omega,fun key=>?_,hv.ov,hv.oq,fun key hk=>?_⟩
   ·show bE (cW s.R ((s.now:Int)+1) chs key) v.n=_
    rw[tQ (by omega)]
    exact hv.say key
   ·have hk':∀ d∈s.ds++[⟨(s.now:Int)+1,chs.map (·.key)⟩],(v.n:Int)<d.n->key∉d.keys:=hk
    have h1:=hk' ⟨(s.now:Int)+1,chs.map (·.key)⟩ (List.mem_append_right _ (List.mem_singleton.2 rfl)) (by show(v.n:Int)<(s.now:Int)+1;omega)
    show valR (aS (comR s.x chs).2.rows) key=_
    rw[hnew key h1]
    exact hv.sem key fun d hd hn=>hk' d (List.mem_append_left _ hd) hn }
theorem EOk.store (h:EOk s) {x:SSt} (hg:fA x) (hr:x.rows=s.x.rows):EOk { s with x:=x }:={ h with
 g:=hg
 say:=by show sayR s.R s.now (aS x.rows);rw[hr];exact h.say
 ses:=fun j v hj=>by
  have hv:=h.ses j v hj
  exact⟨hv.lo,hv.say,hv.ov,hv.oq,fun key hk=>by show valR (aS x.rows) key=_;rw[hr];exact hv.sem key hk⟩ }
end
theorem EOk.new {d:DSt} {area first u:Nat} {rows:List Chg} (h:cQ d area first u rows):EOk (newE d area first u rows) where
 g:=h
 say:=zLo (oY h.fine.2)
 up:=zH2 _
 rd:=List.Pairwise.nil
 dn:=fun d hd=>absurd hd List.not_mem_nil
 dl:=Nat.zero_le _
 dk:=fun d hd=>absurd hd List.not_mem_nil
 kl:=⟨(aS rows).map (·.1),by
  have:=h.few
  unfold aS
  show _<=50+12*0
  rw[List.length_map,List.length_map];omega,fun key hk=>zIy hk⟩
 rl:=fun key=>zI8 _ _
 nc:=Nat.le_refl _
 ses:=fun i v hv=>by cases hv
def S4 (s:ESt):Prop:=∀ i,4<=i->s.ses i=none
theorem S4.set {s:ESt} (h:S4 s) {i:Nat} (hi:i<4) (v:Option VwL):∀ j,4<=j->setS s.ses i v j=none:=fun j hj=>by
 rw[hU v (by omega)]
 exact h j hj
theorem zDu (v:Value) (W:World):(Instr.typeAssert (.iface 52 v) 30 52 true).run Tryz.prog W=.ok (.tuple #[v,.bool true]) W:=by kernel_rfl
theorem rD (u:TypeId) (v:Value) (W:World):(binOp .eql 30 (.iface u v) .nilIface).run Tryz.prog W=.ok (.bool false) W:=by kernel_rfl
theorem bM (u:TypeId) (v:Value) (W:World):(binOp .neq 30 (.iface u v) .nilIface).run Tryz.prog W=.ok (.bool true) W:=by kernel_rfl
theorem eG (W:World):(binOp .neq 30 .nilIface .nilIface).run Tryz.prog W=.ok (.bool false) W:=by kernel_rfl
end
section
open Go.RowKit Go.Joins Go.Shelf
theorem zHC {l:List Chg} {key:ByteArray} {c:Chg} (h:qB l key=some c):c∈l:=by
 unfold qB at h
 split at h
 ·exact List.mem_of_getElem? h
 ·cases h
theorem zMo (l:Rws) (key:ByteArray):valR l key=(⟨#[]⟩,false)∨∃ r∈l,valR l key=(r.2,true):=by
 unfold valR
 split
 ·rename_i r h;exact .inr ⟨r,List.mem_of_find?_eq_some h,rfl⟩
 ·exact .inl rfl
theorem uU {P:Rws} {chs:List Chg} (h:OkQ P chs) (rds:Rws) (key:ByteArray):(getP chs rds P key).1.size<=40:=by
 unfold getP
 split
 ·split
  ·rename_i c hc;exact(h.ck c (zHC hc)).2
  ·split
   ·rcases zMo P key with e|⟨r,hr,e⟩
    ·rw[e];exact Nat.zero_le _
    ·rw[e];exact(h.rk r hr).2
   ·exact Nat.zero_le _
 ·exact Nat.zero_le _
end
section
open Go.RowKit Go.Joins Go.Shelf Go.WideShapes
attribute [local go_sem ↓] Go.wp_at_zero Go.wp_at_succ
def atB (ao:Option Addr) (k:Nat):Prop:=∃ off,ao=some ⟨k,off,none⟩
structure RWx (w:World) (rb:Nat) (ra:Option Addr) (rc:Nat) (ca:Option Addr) (cc:Nat) (sa:Option Addr) (sc:Nat) (P:Rws) (since:Sn) (chs:List Chg) (rds:Rws):Prop where
 c0:w.cell? ⟨rb,0,none⟩=some (.slice ra P.length rc)
 c1:w.cell? ⟨rb,1,none⟩=some (.int .i64 since.n)
 c2:w.cell? ⟨rb,2,none⟩=some (.slice ca chs.length cc)
 c3:w.cell? ⟨rb,3,none⟩=some (.slice sa rds.length sc)
 soft:∀ j,w.frozen? ⟨rb,j,none⟩=false
 hP:bY w ra P
 nP:ra=none->rc=0/\P=[]
 hC:bW w ca chs
 hR:bY w sa rds
def inRW (rb:Nat) (ra ca sa:Option Addr) (P:Rws) (chs:List Chg) (rds:Rws) (k:Nat):Prop:=k=rb∨(P≠[]/\atB ra k)∨(chs≠[]/\atB ca k)∨(rds≠[]/\atB sa k)
def RW (w:World) (rb:Nat) (G:Nat->Prop) (P:Rws) (since:Sn) (chs:List Chg) (rds:Rws):Prop:=∃ ra rc ca cc sa sc,RWx w rb ra rc ca cc sa sc P since chs rds/\(G=inRW rb ra ca sa P chs rds)/\(∀ k,atB ra k->P≠[]->k≠rb)/\(∀ k,atB ca k->chs≠[]->k≠rb)/\(∀ k,atB sa k->rds≠[]->k≠rb)
end
section
open Go.RowKit Go.Joins
theorem zJT (n:Int):bits .and .i64 n 3=n % 4:=by
 have h3:(BitVec.ofInt 64 3).toNat=2 ^ 2-1:=by decide
 have key:(BitVec.ofInt 64 n &&& BitVec.ofInt 64 3).toNat=(n % ((2 ^ 64:Nat):Int)).toNat % 2 ^ 2:=by
  rw[BitVec.toNat_and,BitVec.toNat_ofInt,h3,Nat.and_two_pow_sub_one_eq_mod]
 show IntKind.i64.wrap ((BitVec.ofInt 64 n &&& BitVec.ofInt 64 3).toNat:Nat)=n % 4
 rw[key,IntKind.wrap_i64]
 omega
end
section
open Go.RowKit Go.Joins
attribute [local go_sem ↓] Go.wp_at_zero Go.wp_at_succ
structure SHd (w:World) (sb db lb area:Nat) (v:Value):Prop where
 c0:w.cell? ⟨sb,0,none⟩=some (.pointer (some ⟨db,0,none⟩))
 c1:w.cell? ⟨sb,1,none⟩=some (.pointer (some ⟨lb,0,none⟩))
 c2:w.cell? ⟨sb,2,none⟩=some (.int .i64 (area:Int))
 c3:w.cell? ⟨sb,3,none⟩=some v
 soft:∀ j,w.frozen? ⟨sb,j,none⟩=false
structure SK (w:World) (B sb lb db:Nat) (S:Nat->Prop) (v:Value) (x:SSt):Prop where
 hd:SHd w sb db lb x.area v
 lk:LK w B lb db S 50 (x.d.now.length-50) x.first x.used x.d
 own:bO w B v x.rows
 ns:¬S sb
 nl:sb≠lb
 nv:∀ k,v.ownBlock=some k->k≠sb/\k≠lb/\¬S k
 lo:B<=sb
def inS (sb lb:Nat) (v:Value) (S:Nat->Prop) (k:Nat):Prop:=k=sb∨k=lb∨v.ownBlock=some k∨S k
def SA (w:World) (B sb db:Nat) (T:Nat->Prop) (x:SSt):Prop:=∃ lb S v,SK w B sb lb db S v x/\T=inS sb lb v S
def ActS (w w':World) (B sb db:Nat) (T:Nat->Prop) (x:SSt):Prop:=∃ T',SA w' B sb db T' x/\aG w w' B T T'
section
variable {w w':World} {B sb lb db:Nat} {S T:Nat->Prop} {v:Value} {x:SSt}
theorem SHd.kept {area:Nat} (h:SHd w sb db lb area v) (hk:w'.heap[sb]?=w.heap[sb]?):SHd w' sb db lb area v:=
 ⟨(World.cell?_of_block hk).trans h.c0,(World.cell?_of_block hk).trans h.c1,(World.cell?_of_block hk).trans h.c2,(World.cell?_of_block hk).trans h.c3,fun j=>(World.frozen?_of_block hk).trans (h.soft j)⟩
theorem SHd.lt {area:Nat} (h:SHd w sb db lb area v):sb<w.heap.size:=World.block_lt_of_cell? _ _ h.c0
theorem SK.lt (h:SK w B sb lb db S v x) {k:Nat} (hk:inS sb lb v S k):k<w.heap.size:=by
 rcases hk with rfl|rfl|hk|hk
 ·exact h.hd.lt
 ·exact h.lk.hd.lt
 ·exact(World.ownsRow.lt h.own k hk).2
 ·exact h.lk.dk.lt hk
theorem SK.on (h:SK w B sb lb db S v x) (hb:Below w.heap.size w w'):SK w' B sb lb db S v x:=
 ⟨h.hd.kept (hb.block sb h.hd.lt),h.lk.on hb,bQ h.own hb,h.ns,h.nl,h.nv,h.lo⟩
theorem SA.on (h:SA w B sb db T x) (hb:Below w.heap.size w w'):SA w' B sb db T x:=by
 obtain⟨lb,S,v,h1,h2⟩:=h
 exact⟨lb,S,v,h1.on hb,h2⟩
theorem SA.blo (h:SA w B sb db T x):B<=w.heap.size:=by
 obtain⟨lb,S,v,h1,h2⟩:=h
 exact h1.lk.dk.lo
theorem SA.lt (h:SA w B sb db T x) {k:Nat} (hk:T k):k<w.heap.size:=by
 obtain⟨lb,S,v,h1,rfl⟩:=h
 exact h1.lt hk
theorem SA.stay (h:SA w B sb db T x) (hb:Below w.heap.size w w'):ActS w w' B sb db T x:=⟨T,h.on hb,.on h.blo hb⟩
theorem ActS.post {w1:World} (ha:ActS w w1 B sb db T x) (hb:Below w1.heap.size w1 w'):ActS w w' B sb db T x:=by
 obtain⟨T2,h1,h2⟩:=ha
 exact⟨T2,h1.on hb,h2.trans (.on h1.blo hb)⟩
theorem qF (w:World) (h:SA w B sb db T x):Calls Tryz.prog 80 #[.pointer (some ⟨sb,0,none⟩)] w fun e w'=>e=.returned (.int .i64 ((x.d.now.length-50-x.used:Nat):Int))/\∃ n,w'=w.drewN n:=by
 obtain⟨lb,S,v,h1,_⟩:=h
 have c1:=h1.hd.c1
 have hm:=h1.lk.dk.many
 have HR:=hide (vB w h1.lk.hd h1.lk.us (by omega))
 clear h1
 generalize x.d.now.length-50-x.used=r at *
 go_enter Tryz.func80,Tryz.ntmps80
 go_wp2_with (go_at_call 111;refine HR.out.mono ?_;rintro e w1 ⟨rfl,n,rfl⟩)
 go_ret
 exact⟨rfl,n,rfl⟩
theorem zF6 {l:List Chg} {k:Nat} (hk:k<l.length):aS (l.take (k+1))=aS (l.take k)++[(l[k].key,l[k].val)]:=by
 unfold aS
 rw[List.take_succ_eq_append_getElem hk,List.map_append]
 rfl
theorem zBm (w:World) (h:SA w B sb db T x) (hl:x.rows.length<=1000):Calls Tryz.prog 31 #[.pointer (some ⟨sb,0,none⟩)] w fun e w'=>∃ v,e=.returned v/\ownP w' w.heap.size v (aS x.rows)/\Below w.heap.size w w':=by
 obtain⟨lb,S,v,h1,_⟩:=h
 have c3:=h1.hd.c3
 have HO:=hide h1.own
 clear h1
 generalize x.rows=l at *
 obtain⟨i0,hi0,hz0,hs0,hb0⟩:=info_parts zCS
 obtain⟨ao,cap,rfl,hh⟩:∃ ao cap,v=.slice ao l.length cap/\bW w ao l:=by
  rcases aX HO.out with⟨e,e2⟩|⟨g,cap,e,_⟩
  ·exact⟨none,0,by rw[e,e2],.inl (List.length_eq_zero_iff.1 e2)⟩
  ·refine⟨some ⟨g,0,none⟩,cap,e,.inr ⟨g,0,rfl,eW l 0 fun j u hj=>?_⟩⟩
   have:=World.ownsRow.cells HO.out (g:=g) (by rw[e];rfl) j u hj
   rwa [Go.WideShapes.add_plain] at this
 have HD:=hide hh
 clear hh HO
 go_enter Tryz.func31,Tryz.ntmps31
 go_wp2
 go_loopw [3,11] (fun v iv wr=>∃ k:Nat,k<=l.length/\iv=.int .i64 (k:Int)/\ownP wr w.heap.size v (aS (l.take k))/\Below w.heap.size w wr) (fun _ iv _=>l.length-(intOf iv).toNat)
 case atStart=>exact⟨0,Nat.zero_le _,rfl,World.ownsRow_nil _ _ _ _,Below.refl _ _⟩
 case round=>
  obtain⟨k,hk,rfl,ho,hb⟩:=hrel
  clear c3
  have hrl:(aS (l.take k)).length=k:=by unfold aS;rw[List.length_map,List.length_take];omega
  by_cases hlt:k<l.length
  ·have hlt':(k:Int)<(l.length:Int):=by omega
   have hk0:(0:Int)<=(k:Int):=by omega
   rcases HD.out with e|⟨b,off,e,hch⟩
   ·rw[e] at hlt;simp at hlt
   subst e
   obtain⟨x0,x1,x2⟩:=hch k hlt
   have hft:=zF6 hlt
   clear hch
   generalize l[k]=c at *
   generalize aS (l.take k)=m at *
   replace x0:=aA hb x0
   replace x1:=aA hb x1
   replace x2:=aA hb x2
   have HO:=hide ho
   have HBR:=hide hb
   have HFT:=hide hft
   have hbx:=below_alloc1 wr (Obj.cells #[.string c.key,.string c.val,.bool c.gone] 64)
   have HBX:=hide (aB HBR.out (Nat.le_refl _) hbx)
   have HO1:=hide (bQ HO.out hbx)
   clear ho hb hft hbx
   have HRL:=hide hrl
   have y0:(wr.alloc (Obj.cells #[.string c.key,.string c.val,.bool c.gone] 64)).cell? ⟨wr.heap.size,0,none⟩=some (.string c.key):=aC _ _ _ 0
   have y1:(wr.alloc (Obj.cells #[.string c.key,.string c.val,.bool c.gone] 64)).cell? ⟨wr.heap.size,1,none⟩=some (.string c.val):=aC _ _ _ 1
   go_upto_region 5 with(fail)
   generalize wr.alloc (Obj.cells #[.string c.key,.string c.val,.bool c.gone] 64)=W at *
   generalize wr.heap.size=cb at *
   go_wp2_with (at_builtin;refine oS rfl _ _ 43 rfl w.heap.size 85 i0 _ 2 32 Tryz.underlying43 hi0 hz0 hs0 hb0 rfl (by omega) W (aV (c.key,c.val)) rfl (zHn _) _ m.length (m.flatMap aV) HO1.out rfl rfl (by omega) (by omega) HBX.out.size ?_;intro v9 w9 ho9 hb9;have HO9:=hide (zIa ho9);have HB9:=hide (hb9 w HBX.out);clear ho9 hb9)
   exact⟨⟨k+1,by omega,by go_num,by rw[HFT.out];exact HO9.out,HB9.out⟩,by simp[intOf];omega⟩
  ·have ek:k=l.length:=by omega
   subst ek
   have hlt':¬(l.length:Int)<(l.length:Int):=by omega
   rw[List.take_length] at ho
   have HO:=hide ho
   have HBR:=hide hb
   clear ho hb
   go_wp2
   go_ret
   exact⟨_,rfl,HO.out,HBR.out⟩
end
end
end Go.Proofs.YtnboipekkahmnaaGreat
