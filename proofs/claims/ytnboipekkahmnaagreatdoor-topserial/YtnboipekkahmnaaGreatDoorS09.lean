import Derived.Test.YtnboipekkahmnaaGreatDoorS08
import Derived.Shelf.SlSortCmp.WholeK
import Derived.Shelf.SlSorted.Search
set_option maxHeartbeats 8000000
set_option maxRecDepth 100000
namespace Go.Proofs.YtnboipekkahmnaaGreatDoor
open Obj renaming cells→o_
open World renaming ownsRow.lt→l_
open Go.RowKit.Below renaming heap_setCell→h_,refl→r_
open Nat renaming le_refl→n_
open Tryz renaming prog→p_
open Value renaming string→v_
open Go.Joins renaming below_alloc1→a_
section
open Go.RowKit Go.Joins Go.Shelf
attribute [local go_sem ↓] Go.wp_at_zero Go.wp_at_succ
def cZ (l:List (ByteArray×ByteArray)) (s:ByteArray×ByteArray):Nat:=if zCr l s then 0 else if 40<=l.length then 2 else 0
def gX (l:List (ByteArray×ByteArray)) (s:ByteArray×ByteArray):List (ByteArray×ByteArray):=if zCr l s then l else if 40<=l.length then l else l++[s]
def vH (w w':World) (B wb vb:Nat) (since:Int) (cv rv:Value) (chs:List Chg) (rds:List (ByteArray×ByteArray)):Prop:=∃ rv',VW w' B wb vb since cv rv' chs rds/\Below B w w'/\farW w w' wb cv rv cv rv'
theorem qT {w w':World} {B wb vb:Nat} {since:Int} {cv rv:Value} {chs:List Chg} {rds:List (ByteArray×ByteArray)} (h:VW w B wb vb since cv rv chs rds) (hB:B<=w.heap.size) (hb:Below w.heap.size w w'):vH w w' B wb vb since cv rv chs rds:=⟨rv,h.on hb,hb.mono hB,farW.on hb⟩
theorem zJc {w W w3:World} {B wb vb gk ck:Nat} {since:Int} {cv rv:Value} {chs:List Chg} {rds:List (ByteArray×ByteArray)} {s:ByteArray×ByteArray} (h:VW w B wb vb since cv rv chs rds) (hB:B<=w.heap.size) (hb:Below w.heap.size w W) (hg:W.grownBy w3 rv.ownBlock)
  (ho:w3.ownsRow B 80 2 (.slice (some ⟨gk,0,none⟩) (rds.length+1) ck) (rds.length+1) (rds.flatMap nN++[.string s.1,.string s.2])) (hat:rv.ownBlock=some gk∨gk=W.heap.size):
  vH w (w3.setCell ⟨wb,3,none⟩ (.slice (some ⟨gk,0,none⟩) (rds.length+1) ck)) B wb vb since cv rv chs (rds++[s]):=by
 have ho':lL w3 B (.slice (some ⟨gk,0,none⟩) (rds.length+1) ck) (rds++[s]):=by
  unfold lL;rw[List.length_append,List.flatMap_append];exact ho
 have hs:=hb.size;refine⟨_,(h.on hb).setR hg ho' (fun k e=>?_),(((hb.mono hB).grown hg (Nat.le_trans hB hs) (fun k e=>(l_ h.rds k e).1)).setCell (p:=⟨wb,3,none⟩) h.lo _),fun j hj hn=>⟨?_,?_⟩⟩
 ·simp[Value.ownBlock] at e;subst e;exact hat.imp id (fun e=>by omega)
 ·exact(h_ _ _ _ _ (fun e=>hn (.inl e))).trans ((hg.block j (by omega) (fun e=>hn (.inr (.inr e.symm)))).trans (hb.block j hj))
 ·rintro(e|e|e)
  ·exact hn (.inl e)
  ·exact hn (.inr (.inl e))
  ·simp[Value.ownBlock] at e;subst e;rcases hat with e|e
   ·exact hn (.inr (.inr e))
   ·omega
theorem mB (s:ByteArray×ByteArray) {B wb vb:Nat} {since:Int} {cv rv:Value} {chs:List Chg} {rds:List (ByteArray×ByteArray)} (w:World) (h:VW w B wb vb since cv rv chs rds) (hB:B<=w.heap.size) (hn:rds.length<=100):
  Calls p_ 102 #[.pointer (some ⟨wb,0,none⟩),.agg #[.string s.1,.string s.2]] w fun e w'=>e=.returned (errV (cZ rds s))/\vH w w' B wb vb since cv rv chs (gX rds s):=by
 have HV:=hide h;have hB0:=a_ w (o_ #[.string s.1,.string s.2] 80);have a0:(w.alloc (o_ #[.string s.1,.string s.2] 80)).cell? ⟨w.heap.size,0,none⟩=some (.string s.1):=aC _ _ _ 0;have a1:(w.alloc (o_ #[.string s.1,.string s.2] 80)).cell? ⟨w.heap.size,1,none⟩=some (.string s.2):=aC _ _ _ 1;have c3:=aA hB0 h.c3;have hwb:=h.lt (k:=wb) (.inl rfl);have HB0:=hide hB0;obtain⟨ra,rc,rfl⟩:=iQ h.rds;clear h hB0;have HCT:=fun w1 (hb:Below w.heap.size w w1)=>hide (zD7 rds _ B s w1 ((HV.out.on hb).rds));unfold cZ gX;generalize zCr rds s=hs at *;cases hs
 ·by_cases h40:40<=rds.length
  ·have h40':(40:Int)<=(rds.length:Int):=by omega
   go_enter Tryz.func102,Tryz.ntmps102;go_wp2
   go_region_held3 (fun w'=>w'.cell? ⟨w.heap.size,0,none⟩=some (.string s.1)/\w'.cell? ⟨w.heap.size,1,none⟩=some (.string s.2)/\w'.cell? ⟨wb,3,none⟩=some (.slice ra rds.length rc))
    (first|go_keep|exact⟨aA hb2 a0,aA hb2 a1,aA hb2 c3⟩) (first|(go_at_call 165;refine(HCT _ HB0.out.drew).out.mono ?_;rintro e w2 ⟨rfl,hb2'⟩;have hb2:=aB (r_ _ (w.alloc (o_ #[.string s.1,.string s.2] 80))).drew (n_ _) hb2';clear hb2';dsimp only))
   all_goals
    replace c3:=aA hb2 c3;go_wp2;go_ret;exact⟨rfl,qT HV.out hB (aB HB0.out (n_ _) hb2)⟩
  ·have h40':¬(40:Int)<=(rds.length:Int):=by omega
   go_enter Tryz.func102,Tryz.ntmps102;go_wp2
   go_region_held3 (fun w'=>w'.cell? ⟨w.heap.size,0,none⟩=some (.string s.1)/\w'.cell? ⟨w.heap.size,1,none⟩=some (.string s.2)/\w'.cell? ⟨wb,3,none⟩=some (.slice ra rds.length rc))
    (first|go_keep|exact⟨aA hb2 a0,aA hb2 a1,aA hb2 c3⟩) (first|(go_at_call 165;refine(HCT _ HB0.out.drew).out.mono ?_;rintro e w2 ⟨rfl,hb2'⟩;have hb2:=aB (r_ _ (w.alloc (o_ #[.string s.1,.string s.2] 80))).drew (n_ _) hb2';clear hb2';dsimp only))
   all_goals
    replace a0:=aA hb2 a0;replace a1:=aA hb2 a1;replace c3:=aA hb2 c3;have hb02:=aB HB0.out (n_ _) hb2;have f3:=aE hb02 hwb (HV.out.soft 3);have HO2:=hide (HV.out.on hb02).rds;have HB02:=hide hb02;have hs2:=hb02.size;have hwb2:wb<w2.heap.size:=by omega
    have hsb:w.heap.size<w2.heap.size:=World.block_lt_of_cell? _ _ a0;have av:some wb≠(Value.slice ra rds.length rc).ownBlock:=Ne.symm HV.out.nr;have asx:some w.heap.size≠(Value.slice ra rds.length rc).ownBlock:=fun e=>by have:=HV.out.lt (.inr (.inr e.symm));omega
    obtain⟨i0,hi0,hz0,hz1,hz2⟩:=info_parts zBI;have HNW:Hid (∀ j u,[v_ s.1,v_ s.2][j]?=some u->(w2.alloc (o_ #[.string s.1,.string s.2] 80)).drew.cell? ((⟨w2.heap.size,0,none⟩:Addr).add j)=some u):=
     World.news_of_block (cs:=#[.string s.1,.string s.2]) (t:=80) (fr:=(0,0)) (heap_alloc_new w2 _)
    have hfr:∀ o,(w2.alloc o).frozen? ⟨wb,3,none⟩=false:=fun o=>aE (a_ _ _) (by show wb<_;omega) f3;clear hb2 hb02;go_wp2
    go_region_law ((refine step_append_lies _ (by rfl) _ _ _ (by rfl) B 80 i0 _ 2 32 Tryz.underlying37 hi0 hz0 hz1 hz2 rfl (by omega) (.slice ra rds.length rc) _ _ (by rfl) ((HO2.out.alloc _).drew) ⟨w2.heap.size,0,none⟩ 1 1 [.string s.1,.string s.2] (by rfl) (by rfl) HNW.out (by simp[Value.oneCell']) (by omega) (by unfold maxLen;omega) (by omega) (by simp;omega) (w2.heap.size+1) (by simp) ?_;intro gk ck w3 ho3 hgrow hat3 hlt3;have k3:w3.cell? ⟨wb,3,none⟩=some (.slice ra rds.length rc):=hgrow.cell (aA (a_ _ _).drew c3) av;have k2:w3.frozen? ⟨wb,3,none⟩=false:=(hgrow.frozen_far _ (by simp;omega) av).trans (hfr _)))
    all_goals
     have HRP:=hide (zJc HV.out hB (aB HB02.out (n_ _) (a_ w2 (o_ #[.string s.1,.string s.2] 80)).drew) hgrow ho3 (hat3.imp id fun e=>by rw[e];simp));clear k3 k2 ho3 hgrow hat3 hlt3 a0 a1 c3 f3 hfr;go_wp2;go_ret;exact⟨rfl,HRP.out⟩
 ·go_enter Tryz.func102,Tryz.ntmps102;go_wp2
  go_region_held3 (fun w'=>w'.cell? ⟨w.heap.size,0,none⟩=some (.string s.1)/\w'.cell? ⟨w.heap.size,1,none⟩=some (.string s.2)/\w'.cell? ⟨wb,3,none⟩=some (.slice ra rds.length rc))
   (first|go_keep|exact⟨aA hb2 a0,aA hb2 a1,aA hb2 c3⟩) (first|(go_at_call 165;refine(HCT _ HB0.out.drew).out.mono ?_;rintro e w2 ⟨rfl,hb2'⟩;have hb2:=aB (r_ _ (w.alloc (o_ #[.string s.1,.string s.2] 80))).drew (n_ _) hb2';clear hb2';dsimp only))
  all_goals
   go_wp2;go_ret;exact⟨rfl,qT HV.out hB (aB HB0.out (n_ _) hb2)⟩
theorem zDI (k head:List UInt8):k.length<=(Lib.trimPrefix k head).length+head.length:=by
 unfold Lib.trimPrefix;split
 ·rw[List.length_drop];omega
 ·omega
theorem zJ {k head:List UInt8} (h:jE k head=true):k.length<=head.length+6:=by
 unfold jE bK at h;simp only[Bool.and_eq_true,decide_eq_true_eq] at h;have:=zDI k head;omega
theorem zDf {k:List UInt8} (h:keyL k=true):k.length<=15:=by
 unfold keyL at h;simp only[Bool.or_eq_true] at h;rcases h with h|h|h
 ·have:=zJ h;simp at this;omega
 ·have:=zJ h;simp at this;omega
 ·unfold kW nY bK sixL at h;simp only[Bool.and_eq_true,decide_eq_true_eq] at h;have h1:=zDI k [109,47];obtain⟨_,_,⟨⟨h2,h3⟩,_⟩,h4,_⟩:=h;rw[List.length_take] at h2 h3;rw[List.length_drop] at h4;simp only[List.length_cons,List.length_nil] at h1;omega
def getR (chs:List Chg) (rds:List (ByteArray×ByteArray)) (R:ByteArray->List Ver) (since:Int) (key:ByteArray):ByteArray×Bool×Nat:=
 if keyL key.data.toList then match qB chs key with
  | some c=>(c.val,!c.gone,0)
  | none=>if cZ rds (key,cX key)=0 then ((bE (R key) since).1,(bE (R key) since).2,0) else (⟨#[]⟩,false,cZ rds (key,cX key))
 else (⟨#[]⟩,false,3)
def getL (chs:List Chg) (rds:List (ByteArray×ByteArray)) (key:ByteArray):List (ByteArray×ByteArray):=
 if keyL key.data.toList then match qB chs key with
  | some _=>rds
  | none=>gX rds (key,cX key)
 else rds
theorem zLX (key:ByteArray) {B0 B wb vb mb n:Nat} {now since:Int} {D:DataW Value} {g:ByteArray->Value} {R:ByteArray->List Ver} {cv rv:Value} {chs:List Chg} {rds:List (ByteArray×ByteArray)} (w:World) (hv:VS w B0 vb mb now n D g R) (h:VW w B wb vb since cv rv chs rds) (ha:∀ k,inVS vb mb g k->¬inVW wb cv rv k)
  (hB:B<=w.heap.size) (hn:rds.length<=100) (hc:chs.length<=100) (hk:key.size<=maxLen) (hR:(R key).length<=1000000):
  Calls p_ 44 #[.pointer (some ⟨wb,0,none⟩),.string key] w fun e w'=>e=.returned (.tuple #[.string (getR chs rds R since key).1,.bool (getR chs rds R since key).2.1,errV (getR chs rds R since key).2.2])/\vH w w' B wb vb since cv rv chs (getL chs rds key):=by
 have HV:=hide hv;have HW:=hide h;have HA:=hide ha;have c0:=h.c0;have c1:=h.c1;have c2:=h.c2;clear h hv ha;unfold getR getL
 cases hke:keyL key.data.toList with
 | false=>
  have HE:Hid (errV (if keyL key.data.toList then 0 else 3)=.iface 114 (.int .i64 3)):=by unfold Hid;rw[hke];rfl
  clear hke;go_enter Tryz.func44,Tryz.ntmps44;go_wp2_with (go_at_call 104;refine(oD key _ hk).mono ?_;rintro e w1 ⟨rfl,hb1⟩;rw[HE.out];have HB1:=hide hb1;clear hb1)
  go_ret3;exact⟨rfl,qT HW.out hB HB1.out⟩
 | true=>
  have HE:Hid (errV (if keyL key.data.toList then 0 else 3)=.nilIface):=by unfold Hid;rw[hke];rfl
  have hks:key.size<=1000:=by have:=zDf hke;rw[Array.length_toList] at this;have e:key.size=key.data.size:=rfl;omega
  clear hke;simp only[if_true];have HF:=fun w1 (hb:Below w.heap.size w w1)=>hide (zJX chs cv B key w1 ((HW.out.on hb).chs) (by omega))
  cases hf:qB chs key with
  | some c=>
   rw[hf] at HF;simp only at HF;clear hf;go_enter Tryz.func44,Tryz.ntmps44;go_wp2_with (first
    | (go_at_call 104;refine(oD key _ hk).mono ?_;rintro e w1 ⟨rfl,hb1⟩;rw[HE.out];have HB1:=hide hb1;replace c0:=aA hb1 c0;replace c1:=aA hb1 c1;replace c2:=aA hb1 c2;clear hb1)
    | (go_at_call 105;refine(HF _ HB1.out).out.mono ?_;rintro e w2 ⟨rfl,hb2⟩;have HB2:=hide (aB HB1.out (n_ _) hb2);clear hb2))
   have hbc:=a_ w2 (o_ #[.string c.key,.string c.val,.bool c.gone] 133);have e1:(w2.alloc (o_ #[.string c.key,.string c.val,.bool c.gone] 133)).cell? ⟨w2.heap.size,1,none⟩=some (.string c.val):=aC _ _ _ 1;have e2:(w2.alloc (o_ #[.string c.key,.string c.val,.bool c.gone] 133)).cell? ⟨w2.heap.size,2,none⟩=some (.bool c.gone):=aC _ _ _ 2;go_quiet (fail);go_wp2;go_ret3;exact⟨rfl,qT HW.out hB ((aB HB2.out (n_ _) hbc).trans (below_draws _ _ _))⟩
  | none=>
   rw[hf] at HF;simp only at HF;clear hf;by_cases hrf:cZ rds (key,cX key)=0
   ·have HRF:=hide hrf;rw[if_pos hrf];clear hrf;go_enter Tryz.func44,Tryz.ntmps44;go_wp2_with (first
     | (go_at_call 104;refine(oD key _ hk).mono ?_;rintro e w1 ⟨rfl,hb1⟩;rw[HE.out];have HB1:=hide hb1;replace c0:=aA hb1 c0;replace c1:=aA hb1 c1;replace c2:=aA hb1 c2;clear hb1)
     | (go_at_call 105;refine(HF _ HB1.out).out.mono ?_;rintro e w2 ⟨rfl,hb2⟩;have HB2:=hide (aB HB1.out (n_ _) hb2);clear hb2)
     | (go_at_call 106;have hbc:=a_ w2 (o_ #[.string ⟨#[]⟩,v_ ⟨#[]⟩,Value.bool false] 133);refine(uT key _ hks).mono ?_;rintro e w3 ⟨rfl,hb3⟩;have HB3:=hide (aB (aB HB2.out (n_ _) hbc) (n_ _) hb3);clear hb3 hbc)
     | (go_at_call 102;refine(mB (key,cX key) _ (HW.out.on HB3.out) (Nat.le_trans hB HB3.out.size) hn).mono ?_;rintro e w4 ⟨rfl,rv',hw4,hb4,hf4⟩;rw[HRF.out];simp only[errV];have HW4:=hide hw4;have HB4:=hide ((HB3.out.mono hB).trans hb4);have HF4:=hide (farW.trans (farW.on HB3.out) HB3.out.size hf4);replace c0:=hw4.c0;replace c1:=hw4.c1;clear hw4 hb4 hf4))
    have HV4:=hide (zFg HV.out HF4.out HA.out).1;have hB4:B<=w4.heap.size:=Nat.le_trans hB HB4.out.size;have nS:=OnW.some w4;have n0:∀ m:OnW w4,m.w.cell? ⟨wb,0,none⟩=some (.pointer (some ⟨vb,0,none⟩)):=fun m=>m.cell c0;have n1:∀ m:OnW w4,m.w.cell? ⟨wb,1,none⟩=some (.int .i64 since):=fun m=>m.cell c1;refine dE (by kernel_rfl) (by kernel_rfl) ?_
    repeat (go_big_quiet_step ((first
     | (go_at_call 107;exact fF (zK4 key since _ (HV4.out.on (OnW.on _)) hk hR)))))
    refine wpQuiet_nil ?_;intro w5 hw5;replace hw5:=jG hw5;have HB5:=hide hw5;clear hw5;go_wp2;go_ret3;exact⟨rfl,rv',HW4.out.on HB5.out,HB4.out.trans (HB5.out.mono hB4),farW.trans HF4.out HB4.out.size (farW.on HB5.out)⟩
   ·have he:errV (cZ rds (key,cX key))=.iface 114 (.int .i64 (cZ rds (key,cX key))):=by unfold errV;rw[if_neg hrf]
    have HER:=hide he;rw[if_neg hrf];clear hrf he;go_enter Tryz.func44,Tryz.ntmps44;go_wp2_with (first
     | (go_at_call 104;refine(oD key _ hk).mono ?_;rintro e w1 ⟨rfl,hb1⟩;rw[HE.out];have HB1:=hide hb1;replace c0:=aA hb1 c0;replace c1:=aA hb1 c1;replace c2:=aA hb1 c2;clear hb1)
     | (go_at_call 105;refine(HF _ HB1.out).out.mono ?_;rintro e w2 ⟨rfl,hb2⟩;have HB2:=hide (aB HB1.out (n_ _) hb2);clear hb2)
     | (go_at_call 106;have hbc:=a_ w2 (o_ #[.string ⟨#[]⟩,v_ ⟨#[]⟩,Value.bool false] 133);refine(uT key _ hks).mono ?_;rintro e w3 ⟨rfl,hb3⟩;have HB3:=hide (aB (aB HB2.out (n_ _) hbc) (n_ _) hb3);clear hb3 hbc)
     | (go_at_call 102;refine(mB (key,cX key) _ (HW.out.on HB3.out) (Nat.le_trans hB HB3.out.size) hn).mono ?_;rintro e w4 ⟨rfl,rv',hw4,hb4,hf4⟩;rw[HER.out];have HW4:=hide hw4;have HB4:=hide ((HB3.out.mono hB).trans hb4);have HF4:=hide (farW.trans (farW.on HB3.out) HB3.out.size hf4);clear hw4 hb4 hf4))
    go_ret3;exact⟨by rw[HER.out];rfl,rv',HW4.out,HB4.out,HF4.out⟩
end
section
open Go.RowKit Go.Joins
def zCR:Prop:=∀ (blk cap B:Nat) (F:List (ByteArray×ByteArray)) (W:World),ownP W B (.slice (some ⟨blk,0,none⟩) F.length cap) F->F.length<=1000000->
 Calls p_ 221 #[.slice (some ⟨blk,0,none⟩) F.length cap,.func (Fn.func 222) #[] #[]] W fun e W'=>
  e=.returned (.tuple #[])/\∃ F',F'.Perm F/\(F'.Pairwise fun a b=>ltS b.1 a.1=false)/\ownP W' B (.slice (some ⟨blk,0,none⟩) F.length cap) F'/\Below blk W W'/\(∀ j,j<W.heap.size->j≠blk->W'.heap[j]?=W.heap[j]?)
def zFh:Prop:=∀ (W:World),Calls p_ 221 #[.slice none 0 0,.func (Fn.func 222) #[] #[]] W fun e W'=>e=.returned (.tuple #[])/\Below W.heap.size W W'
theorem zIm {w:World} {B vb mb n:Nat} {now:Int} {D:DataW Value} {g:ByteArray->Value} {R:ByteArray->List Ver} (h:VS w B vb mb now n D g R) (at_:Int) (s:ByteArray×ByteArray):Got D R at_ s (Maps.has D) [] where
 mem:=fun r=>by
  simp only[List.not_mem_nil,false_iff];rintro⟨⟨h1,h2,h3⟩,h4⟩;have:R r.1≠[]:=fun e=>by rw[e] at h3;simp[bE,dZ] at h3
  rw[(h.has r.1 h1).2 this] at h4;cases h4
 nodup:=by simp
structure ScA (w wr:World) (mb n:Nat) (D:DataW Value) (s:ByteArray×ByteArray) (left:Lit->Bool) (cnt:Nat) (v:Value) (F:List (ByteArray×ByteArray)):Prop where
 rg:wr.ranges p_ 9 RV mb (w.heap.size+1) n D left cnt
 own:ownP wr (w.heap.size+2) v F
 bel:Below w.heap.size w wr
 size:w.heap.size+2<=wr.heap.size
 c0:wr.cell? ⟨w.heap.size,0,none⟩=some (.string s.1)
 c1:wr.cell? ⟨w.heap.size,1,none⟩=some (.string s.2)
theorem zHh {w w':World} (hb:Below w.heap.size w w'):w.grownBy w' none:=⟨hb.os,hb.tape,hb.output,hb.size,fun k hk _=>hb.block k hk⟩
theorem ScA.on {w wr w':World} {mb n cnt:Nat} {D:DataW Value} {s:ByteArray×ByteArray} {left:Lit->Bool} {v:Value} {F:List (ByteArray×ByteArray)} (h:ScA w wr mb n D s left cnt v F) (hb:Below wr.heap.size wr w'):ScA w w' mb n D s left cnt v F where
 rg:=h.rg.kept (zHh hb) (by simp) (by simp)
 own:=bQ h.own hb
 bel:=h.bel.trans (hb.mono h.bel.size)
 size:=Nat.le_trans h.size hb.size
 c0:=aA hb h.c0
 c1:=aA hb h.c1
theorem ScA.next {w wr w':World} {mb n cnt cnt':Nat} {D:DataW Value} {s:ByteArray×ByteArray} {left left':Lit->Bool} {v:Value} {F:List (ByteArray×ByteArray)} (h:ScA w wr mb n D s left cnt v F) (hr:w'.ranges p_ 9 RV mb (w.heap.size+1) n D left' cnt') (hg:wr.grownBy w' (some (w.heap.size+1))):ScA w w' mb n D s left' cnt' v F where
 rg:=hr
 own:=aI h.own fun k hk=>hg.block k (h.own.lt k hk).2 (by have:=(h.own.lt k hk).1;simp;omega)
 bel:=h.bel.grown hg (by have:=h.size;omega) fun k e=>by simp at e;omega
 size:=Nat.le_trans h.size hg.size
 c0:=hg.cell h.c0 (by simp)
 c1:=hg.cell h.c1 (by simp)
theorem ScA.push {w wr w':World} {mb n cnt:Nat} {D:DataW Value} {s:ByteArray×ByteArray} {left:Lit->Bool} {v v':Value} {F F':List (ByteArray×ByteArray)} (h:ScA w wr mb n D s left cnt v F) (hm:mb<w.heap.size) (hg:wr.grownBy w' v.ownBlock) (ho:ownP w' (w.heap.size+2) v' F'):ScA w w' mb n D s left cnt v' F' where
 rg:=h.rg.kept hg (fun e=>by have:=(h.own.lt mb e.symm).1;omega) (fun e=>by have:=(h.own.lt _ e.symm).1;omega)
 own:=ho
 bel:=h.bel.grown hg (by have:=h.size;omega) fun k e=>by have:=(h.own.lt k e).1;omega
 size:=Nat.le_trans h.size hg.size
 c0:=hg.cell h.c0 (fun e=>by have:w.heap.size+2<=w.heap.size:=(h.own.lt _ e.symm).1;omega)
 c1:=hg.cell h.c1 (fun e=>by have:w.heap.size+2<=w.heap.size:=(h.own.lt _ e.symm).1;omega)
theorem vT {w:World} {B C:Nat} {e:TypeId} {size:Nat} {v:Value} {n:Nat} {xs:List Value} (h:w.ownsRow C e size v n xs) (hC:B<=C):w.ownsRow B e size v n xs:=by
 obtain⟨h1,h2⟩:=h;refine⟨h1,?_⟩;rcases h2 with h2|⟨g,cap,cur,hv,hg,r⟩
 ·exact .inl h2
 ·exact .inr ⟨g,cap,cur,hv,Nat.le_trans hC hg,r⟩
theorem zO {w:World} {B:Nat} {v:Value} {vs:List Ver} {ao:Option Addr} {cap:Nat} (h:ownV w B v vs) (e:v=.slice ao vs.length cap):jH w.heap.size w ao cap vs:=by
 obtain⟨ao',cap',e',hI,_⟩:=nF h;rw[e] at e';cases e';exact hI
theorem zJ8 (hs:zCR) (hs0:zFh) {B vb mb n:Nat} {now:Int} {D:DataW Value} {g:ByteArray->Value} {R:ByteArray->List Ver} (s:ByteArray×ByteArray) (at_:Int) (w:World) (h:VS w B vb mb now n D g R) (hn:n<=1000000) (hR:∀ key,(R key).length<=1000000):
  Calls p_ 161 #[.pointer (some ⟨vb,0,none⟩),.agg #[.string s.1,.string s.2],.int .i64 at_] w fun e w'=>∃ v,e=.returned v/\Below w.heap.size w w'/\∃ F,ownP w' w.heap.size v F/\(F.Pairwise fun a b=>ltS b.1 a.1=false)/\(F.map (·.1)).Nodup/\∀ r,r∈F↔told R at_ s r:=by
 have HS:=hide hs;have HS0:=hide hs0;have HV:=hide h;have HRR:=hide hR;have hb1:=a_ w (o_ #[.string s.1,.string s.2] 80);have HV1:=hide (h.on hb1);have v1:=HV1.out.mp;have hown:=HV1.out.own;have hsl:=hown.size_le;have hlm:=h.lt (k:=mb) (.inr (.inl rfl));have s0:(w.alloc (o_ #[.string s.1,.string s.2] 80)).cell? ⟨w.heap.size,0,none⟩=some (.string s.1):=aC _ _ _ 0;have s1:(w.alloc (o_ #[.string s.1,.string s.2] 80)).cell? ⟨w.heap.size,1,none⟩=some (.string s.2):=aC _ _ _ 1;have HGS:=hide (zIm h at_ s);clear h hR hs hs0;go_enter Tryz.func161,Tryz.ntmps161;go_wp2_with (first|(at_range;refine wpList_range_own _ rfl _ 217 rfl 9 218 eX Tryz.underlying217 RV mb n D rfl hown ?_;intro w0 hrg0 hg0 hs0))
 have es:(w.alloc (o_ #[.string s.1,.string s.2] 80)).heap.size=w.heap.size+1:=by simp
 rw[es] at hrg0 hs0;have HB0:Hid (Below w.heap.size w w0):=hb1.grown hg0 (by simp) (fun k e=>by cases e);have HR0:=hide hrg0;have t0:=hg0.cell s0 (by simp);have t1:=hg0.cell s1 (by simp);clear hrg0 hg0 s0 s1 v1 hown hb1;go_wp2
 go_frame
 simp only[World.size_alloc]
 go_loopw [7] (fun v wr=>∃ (left:Lit->Bool) (cnt:Nat) (F:List (ByteArray×ByteArray)),ScA w wr mb n D s left cnt v F/\Got D R at_ s left F/\F.length+cnt<=n) (fun _ wr=>wr.rangeLeft mb (w.heap.size+1))
 case atStart=>exact⟨_,_,[],⟨HR0.out,World.ownsRow_nil _ _ _ _,HB0.out,by omega,t0,t1⟩,HGS.out,by simpa using hsl⟩
 case round=>
  obtain⟨left,cnt,F,hA,hG,hcn⟩:=hrel;have HA:=hide hA;have HG:=hide hG;have t0':=hA.c0;have t1':=hA.c1;clear hA hG HR0 HB0 t0 t1;go_wp2_with (first|(at_next;refine wpList_next_ranges _ rfl _ rfl 9 eX RV v_ id (fun key kl hk=>by obtain⟨x,e,_⟩:=zFp hk;exact⟨x,e⟩) (fun v y _=>⟨v,rfl⟩) mb (w.heap.size+1) n D left cnt rfl HA.out.rg ?_ ?_))
  ·intro hc0 hl0;have hFl:F.length<=1000000:=by omega
   have hsz:=HA.out.size;have HM:Hid (∀ r,r∈F↔told R at_ s r):=fun r=>by rw[HG.out.mem r,hl0];simp
   rcases aX HA.out.own with⟨hv,h0⟩|⟨bk,cap,hv,hbk,hbl,_,_⟩
   ·have e:F=[]:=List.length_eq_zero_iff.1 h0;subst e;subst hv;go_wp2_with (go_at_call 221;refine(HS0.out _).mono ?_;rintro e w3 ⟨rfl,hb3⟩;have HA3:=hide (HA.out.on hb3))
    go_ret;exact⟨_,rfl,HA3.out.bel,[],World.ownsRow_nil _ _ _ _,List.Pairwise.nil,List.nodup_nil,HM.out⟩
   ·subst hv;go_wp2_with (go_at_call 221;refine(HS.out bk cap (w.heap.size+2) F _ HA.out.own hFl).mono ?_;rintro e w3 ⟨rfl,F',hp,hsr,ho3,hb3,hk3⟩;have HO3:=hide ho3;have HP:=hide hp;have HSR:=hide hsr;have HB3:=hide hb3;have HK3:=hide hk3;clear ho3 hp hsr hb3 hk3)
    go_ret;refine⟨_,rfl,HA.out.bel.trans (HB3.out.mono (by omega)),F',vT HO3.out (by omega),HSR.out,((HP.out.map (·.1)).nodup_iff).2 HG.out.nodup,fun r=>(HP.out.mem_iff).trans (HM.out r)⟩
  ·intro x c kl y yp w2 cnt2 hkey hlx hRc hat hrg2 hclt hg2 hs2 hen;obtain⟨x',ex,rfl,hxs⟩:=zFp hkey;cases ex;have hc:=hat (.held (.slice none 0 0));rw[HV.out.look x hxs] at hc;simp only[RV,Option.some.injEq,Prod.mk.injEq] at hRc;obtain⟨rfl,rfl⟩:=hRc;simp only[DataW.held.injEq] at hc;subst hc;obtain⟨ao,cap,ec,_,_,_⟩:=nF (HV.out.rows x);have HEC:=hide ec;have HA2:=hide (HA.out.next hrg2 hg2);have t02:=HA2.out.c0;have t12:=HA2.out.c1;have hRx:=HRR.out x;rw[ec] at hen ⊢;clear ec hat hrg2 hg2 hs2 hkey t0' t1';have HLX:=hide hlx;clear hlx;rcases hh:hasS s.1 s.2 x
   ·have HG3:=hide (zDi HG.out (x:=x) fun v hv=>by have:=hv.2.1;rw[hh] at this;cases this);have HH:=hide hh;clear hh;go_wp2_with (first
     | (go_at_call 162;refine(pH s.1 s.2 x _).mono ?_;rintro e w3 ⟨rfl,hb3⟩;rw[HH.out];have HA3:=hide (HA2.out.on hb3)))
    exact⟨⟨_,_,F,HA3.out,HG3.out,by omega⟩,by rw[HA3.out.rg.left_eq,HA.out.rg.left_eq];exact hclt⟩
   ·rcases hbv:bE (R x) at_ with⟨bv,bb⟩;cases bb
    ·have HG3:=hide (zDi HG.out (x:=x) fun v hv=>by have:=hv.2.2;rw[hbv] at this;cases this);have HH:=hide hh;have HBV:=hide hbv;clear hh hbv;go_wp2_with (first
      | (go_at_call 162;refine(pH s.1 s.2 x _).mono ?_;rintro e w3 ⟨rfl,hb3⟩;rw[HH.out];have HA3:=hide (HA2.out.on hb3))
      | (go_at_call 169;refine(sZ ao cap (R x) at_ _ hRx (zO ((HV.out.on HA3.out.bel).rows x) HEC.out)).mono ?_;rintro e w4 ⟨rfl,hb4⟩;rw[HBV.out];have HA4:=hide (HA3.out.on hb4)))
     exact⟨⟨_,_,F,HA4.out,HG3.out,by omega⟩,by rw[HA4.out.rg.left_eq,HA.out.rg.left_eq];exact hclt⟩
    ·have HG3:=hide (zJ2 HG.out HLX.out (v:=bv) ⟨hxs,hh,hbv⟩);have HH:=hide hh;have HBV:=hide hbv;obtain⟨i0,hi0,hz0,hz1,hz3⟩:=info_parts zCS;have hFl:F.length<=1000000:=by omega
     clear hh hbv;go_wp2_with (first
      | (go_at_call 162;refine(pH s.1 s.2 x _).mono ?_;rintro e w3 ⟨rfl,hb3⟩;rw[HH.out];have HA3:=hide (HA2.out.on hb3))
      | (go_at_call 169;refine(sZ ao cap (R x) at_ _ hRx (zO ((HV.out.on HA3.out.bel).rows x) HEC.out)).mono ?_;rintro e w4 ⟨rfl,hb4⟩;rw[HBV.out];have HA4:=hide (HA3.out.on hb4);have hs4:=HA4.out.size)
      | (at_builtin;have hb5:=a_ w4 (o_ #[.string x,.string bv] 165);have HA5:=hide (HA4.out.on hb5);have HN5:Hid (∀ j u,[v_ x,v_ bv][j]?=some u->(w4.alloc (o_ #[.string x,.string bv] 165)).cell? ((⟨w4.heap.size,0,none⟩:Addr).add j)=some u):=World.news_of_block (cs:=#[v_ x,v_ bv]) (t:=165) (fr:=(0,0)) (heap_alloc_new w4 _);refine wpList_append_lies _ rfl _ _ _ rfl (w.heap.size+2) 165 i0 _ 2 32 Tryz.underlying32 hi0 hz0 hz1 hz3 rfl (by omega) u7 F.length (F.flatMap aV) rfl HA5.out.own ⟨w4.heap.size,0,none⟩ 1 1 [v_ x,v_ bv] rfl rfl HN5.out (by simp[Value.oneCell']) (by omega) (by unfold maxLen;omega) (by omega) (by simp;omega) (w4.heap.size+1) (by simp) ?_;intro g6 cap6 w6 ho6 hg6 hat6 hlt6;have HO6:=hide ho6;have HG6:=hide hg6;clear ho6 hg6))
     have ho7:ownP w6 (w.heap.size+2) (.slice (some ⟨g6,0,none⟩) (F.length+1) cap6) (F++[(x,bv)]):=by
      have:=HO6.out;unfold ownP;rw[List.length_append,List.flatMap_append];exact this
     have HA6:=hide (HA5.out.push hlm HG6.out ho7);exact⟨⟨_,_,_,HA6.out,HG3.out,by simp;omega⟩,by rw[HA6.out.rg.left_eq,HA.out.rg.left_eq];exact hclt⟩
def setL:List Value->Nat->List Value->List Value
 | xs,_,[]=>xs
 | xs,o,v::r=>setL (xs.set o v) (o+1) r
theorem zDO:∀ (vs xs:List Value) (o:Nat),(setL xs o vs).length=xs.length
 | [],_,_=>rfl
 | v::r,xs,o=>by rw[setL,zDO r,List.length_set]
theorem vO:∀ (vs xs:List Value) (o i:Nat),i<o->(setL xs o vs)[i]?=xs[i]?
 | [],_,_,_,_=>rfl
 | v::r,xs,o,i,h=>by rw[setL,vO r _ _ _ (by omega),List.getElem?_set_ne (by omega)]
theorem zAx:∀ (vs xs:List Value) (o i:Nat),o<=i->i<o+vs.length->i<xs.length->(setL xs o vs)[i]?=vs[i-o]?
 | [],_,o,i,h1,h2,_=>by simp at h2;omega
 | v::r,xs,o,i,h1,h2,h3=>by
  rw[setL];rcases Nat.eq_or_lt_of_le h1 with e|e
  ·subst e;rw[vO r _ _ _ (by omega),List.getElem?_set_self h3];simp
  ·rw[zAx r _ _ _ (by omega) (by simp at h2;omega) (by simpa using h3)];obtain⟨d,rfl⟩:∃ d,i=o+1+d:=⟨i-(o+1),by omega⟩;rw[show o+1+d-(o+1)=d by omega,show o+1+d-o=d+1 by omega];rfl
theorem tN (vs xs:List Value) (o:Nat):(setL xs o vs).take o=xs.take o:=by
 apply List.ext_getElem?;intro i;rw[List.getElem?_take,List.getElem?_take];split
 ·exact vO _ _ _ _ (by assumption)
 ·rfl
theorem tI (vs xs:List Value) (h:vs.length<=xs.length):(setL xs 0 vs).take vs.length=vs:=by
 apply List.ext_getElem?;intro i;rw[List.getElem?_take];split
 ·rw[zAx _ _ _ _ (Nat.zero_le _) (by omega) (by omega)];rfl
 ·rw[List.getElem?_eq_none (by omega)]
theorem cT {B g n cap:Nat} {e:TypeId} {size:Nat}:∀ (vs:List Value) (o:Nat) (w:World) (xs:List Value),w.ownsRow B e size (.slice (some ⟨g,0,none⟩) n cap) n xs->
  (w.setCells g o vs).ownsRow B e size (.slice (some ⟨g,0,none⟩) n cap) n (setL xs o vs)/\w.grownBy (w.setCells g o vs) (some g)
 | [],_,w,_,h=>⟨h,World.grownBy.refl w _⟩
 | v::r,o,w,xs,h=>by
  have h1:=h.stored o v;have h2:=cT r (o+1) _ _ h1.1;exact⟨h2.1,h1.2.trans h2.2⟩
theorem rT {w:World} {B g n m cap:Nat} {e:TypeId} {size:Nat} {xs:List Value} (h:w.ownsRow B e size (.slice (some ⟨g,0,none⟩) n cap) n xs) (hm:m<=n):w.ownsRow B e size (.slice (some ⟨g,0,none⟩) m cap) m (xs.take (m*size)):=by
 obtain⟨h1,h2⟩:=h;have hle:m*size<=n*size:=Nat.mul_le_mul_right _ hm;refine⟨by rw[List.length_take,h1];omega,?_⟩;rcases h2 with⟨e1,_⟩|⟨g',cap',cur,e1,hb,hh,hn,hc,hs,ht⟩
 ·cases e1
 ·cases e1;refine .inr ⟨g,cap,cur,rfl,hb,hh,by omega,hc,hs,?_⟩;rw[<-ht,List.take_take,Nat.min_eq_left hle]
theorem cS {w:World} {B g n cap:Nat} {e:TypeId} {size:Nat} {xs:List Value} (h:w.ownsRow B e size (.slice (some ⟨g,0,none⟩) n cap) n xs) (j:Nat) (hj:j<n*size):(w.cell? ⟨g,j,none⟩).isSome=true/\w.frozen? ⟨g,j,none⟩=false:=by
 refine⟨?_,h.frozenAt j⟩;rw[h.cellAt j hj,List.getElem?_eq_getElem (by rw[h.1];exact hj)];rfl
theorem qG {P:Program} (w:World) (t e ty:TypeId) (z:Value) (ht:P.underlying t=some (.slice e)) (hv:∀ w,(zeroValue e).run P w=.ok z w) (b o n c:Nat) (hn:0<n) (h1:∀ u∈(Builtin.zeroCells z.cells n).toList,u.oneCell'=true)
  (hc:∀ j,j<n*z.cells.size->(w.cell? ⟨b,o+j,none⟩).isSome=true) (hf:∀ j,j<n*z.cells.size->w.frozen? ⟨b,o+j,none⟩=false):
  (Builtin.clear_ #[t] ty #[.slice (some ⟨b,o,none⟩) n c]).run P w=.ok (.tuple #[]) (w.setCells b o (Builtin.zeroCells z.cells n).toList):=by
 have hl:(Builtin.zeroCells z.cells n).toList.length=n*z.cells.size:=by rw[Array.length_toList,size_zeroCells]
 have hst:=run_storeCells_cells (P:=P) b o (Builtin.zeroCells z.cells n).toList 0 w (by rw[hl];simpa using hc) (by rw[hl];simpa using hf) h1;simp only[Nat.add_zero] at hst;obtain⟨m,rfl⟩:∃ m,n=m+1:=⟨n-1,by omega⟩;simp[Builtin.clear_,run_underlying ht,hv,hst]
end
end Go.Proofs.YtnboipekkahmnaaGreatDoor
namespace Go.Proofs
open Obj renaming cells→o_
open World renaming ownsRow.lt→l_
open Go.RowKit.Below renaming heap_setCell→h_,refl→r_
open Nat renaming le_refl→n_
open Tryz renaming prog→p_
open Value renaming string→v_
open Go.Joins renaming below_alloc1→a_
section
open Go.Shelf
def Tryz.sortRow_ren:Go.Shelf.Ren:=⟨fun|6=>221|15=>261|14=>260|28=>305|29=>306|20=>297|21=>298|22=>299|23=>300|24=>301|25=>302|26=>303|27=>304|46=>322|47=>323|48=>324|49=>325|50=>326|57=>339|n=>n,fun|22=>32|24=>165|25=>300|3=>3|39=>311|0=>0|53=>350|55=>35|4=>4|46=>375|45=>374|50=>253|5=>5|9=>9|66=>397|70=>401|76=>412|77=>47|n=>n,fun|n=>n⟩
theorem Tryz.sortRow:Go.Proofs.SlLaysF0.n6 p_ Tryz.sortRow_ren:={
 mixed:=by kernel_rfl
 f6:=⟨Tryz.f221.name,by decide,Tryz.func221.trans (congrArg some (by kernel_rfl))⟩
 f14:=⟨Tryz.f260.name,by decide,Tryz.func260.trans (congrArg some (by kernel_rfl))⟩
 f15:=Tryz.func261.trans (congrArg some (by kernel_rfl))
 f20:=⟨Tryz.f297.name,by decide,Tryz.func297.trans (congrArg some (by kernel_rfl))⟩
 f21:=⟨Tryz.f298.name,by decide,Tryz.func298.trans (congrArg some (by kernel_rfl))⟩
 f22:=⟨Tryz.f299.name,by decide,Tryz.func299.trans (congrArg some (by kernel_rfl))⟩
 f23:=⟨Tryz.f300.name,by decide,Tryz.func300.trans (congrArg some (by kernel_rfl))⟩
 f24:=⟨Tryz.f301.name,by decide,Tryz.func301.trans (congrArg some (by kernel_rfl))⟩
 f25:=⟨Tryz.f302.name,by decide,Tryz.func302.trans (congrArg some (by kernel_rfl))⟩
 f26:=⟨Tryz.f303.name,by decide,Tryz.func303.trans (congrArg some (by kernel_rfl))⟩
 f27:=⟨Tryz.f304.name,by decide,Tryz.func304.trans (congrArg some (by kernel_rfl))⟩
 f28:=Tryz.func305.trans (congrArg some (by kernel_rfl))
 f29:=Tryz.func306.trans (congrArg some (by kernel_rfl))
 f46:=⟨Tryz.f322.name,by decide,Tryz.func322.trans (congrArg some (by kernel_rfl))⟩
 f47:=Tryz.func323.trans (congrArg some (by kernel_rfl))
 f48:=Tryz.func324.trans (congrArg some (by kernel_rfl))
 f49:=⟨Tryz.f325.name,by decide,Tryz.func325.trans (congrArg some (by kernel_rfl))⟩
 f50:=⟨Tryz.f326.name,by decide,Tryz.func326.trans (congrArg some (by kernel_rfl))⟩
 f57:=⟨Tryz.f339.name,by decide,Tryz.func339.trans (congrArg some (by kernel_rfl))⟩
 t0:=Tryz.underlying0
 a0:=Tryz.isAgg0
 z0:=Tryz.sizeOf0
 v0:=Tryz.zeroValue0
 t3:=Tryz.underlying3
 a3:=Tryz.isAgg3
 z3:=Tryz.sizeOf3
 v3:=Tryz.zeroValue3
 t4:=Tryz.underlying4
 a4:=Tryz.isAgg4
 z4:=Tryz.sizeOf4
 v4:=Tryz.zeroValue4
 t5:=Tryz.underlying5
 a5:=Tryz.isAgg5
 z5:=Tryz.sizeOf5
 v5:=Tryz.zeroValue5
 t9:=Tryz.underlying9
 a9:=Tryz.isAgg9
 z9:=Tryz.sizeOf9
 v9:=Tryz.zeroValue9
 t22:=Tryz.underlying32
 a22:=Tryz.isAgg32
 z22:=Tryz.sizeOf32
 v22:=Tryz.zeroValue32
 t25:=Tryz.underlying300
 a25:=Tryz.isAgg300
 z25:=Tryz.sizeOf300
 v25:=Tryz.zeroValue300
 t39:=Tryz.underlying311
 a39:=Tryz.isAgg311
 z39:=Tryz.sizeOf311
 v39:=Tryz.zeroValue311
 t45:=Tryz.underlying374
 a45:=Tryz.isAgg374
 z45:=Tryz.sizeOf374
 v45:=Tryz.zeroValue374
 t46:=Tryz.underlying375
 a46:=Tryz.isAgg375
 z46:=Tryz.sizeOf375
 v46:=Tryz.zeroValue375
 t50:=Tryz.underlying253
 a50:=Tryz.isAgg253
 z50:=Tryz.sizeOf253
 v50:=Tryz.zeroValue253
 t53:=Tryz.underlying350
 a53:=Tryz.isAgg350
 z53:=Tryz.sizeOf350
 v53:=Tryz.zeroValue350
 t55:=Tryz.underlying35
 a55:=Tryz.isAgg35
 z55:=Tryz.sizeOf35
 v55:=Tryz.zeroValue35
 t66:=Tryz.underlying397
 a66:=Tryz.isAgg397
 z66:=Tryz.sizeOf397
 v66:=Tryz.zeroValue397
 t70:=Tryz.underlying401
 a70:=Tryz.isAgg401
 z70:=Tryz.sizeOf401
 v70:=Tryz.zeroValue401
 t76:=Tryz.underlying412
 a76:=Tryz.isAgg412
 z76:=Tryz.sizeOf412
 v76:=Tryz.zeroValue412
 t77:=Tryz.underlying47
 a77:=Tryz.isAgg47
 z77:=Tryz.sizeOf47
 v77:=Tryz.zeroValue47 }
def Tryz.lays125_ren:Go.Shelf.Ren:=⟨fun|125=>261|128=>305|129=>306|n=>n,fun|46=>311|3=>3|51=>350|53=>35|4=>4|5=>5|9=>9|n=>n,fun|n=>n⟩
theorem Tryz.lays125:Go.Proofs.Lays.n125 p_ Tryz.lays125_ren:={
 mixed:=by kernel_rfl
 f125:=Tryz.func261.trans (congrArg some (by kernel_rfl))
 f128:=Tryz.func305.trans (congrArg some (by kernel_rfl))
 f129:=Tryz.func306.trans (congrArg some (by kernel_rfl))
 t3:=Tryz.underlying3
 a3:=Tryz.isAgg3
 z3:=Tryz.sizeOf3
 v3:=Tryz.zeroValue3
 t4:=Tryz.underlying4
 a4:=Tryz.isAgg4
 z4:=Tryz.sizeOf4
 v4:=Tryz.zeroValue4
 t5:=Tryz.underlying5
 a5:=Tryz.isAgg5
 z5:=Tryz.sizeOf5
 v5:=Tryz.zeroValue5
 t9:=Tryz.underlying9
 a9:=Tryz.isAgg9
 z9:=Tryz.sizeOf9
 v9:=Tryz.zeroValue9
 t46:=Tryz.underlying311
 a46:=Tryz.isAgg311
 z46:=Tryz.sizeOf311
 v46:=Tryz.zeroValue311
 t51:=Tryz.underlying350
 a51:=Tryz.isAgg350
 z51:=Tryz.sizeOf350
 v51:=Tryz.zeroValue350
 t53:=Tryz.underlying35
 a53:=Tryz.isAgg35
 z53:=Tryz.sizeOf35
 v53:=Tryz.zeroValue35 }
theorem Tryz.bits_Len (x:Int) (w:World) (h0:0<=x) (h1:x<=18446744073709551615):
  Calls p_ 261 #[.int .u64 x] w fun e w'=>e=.returned (.int .i64 (Lib.bitLen x.toNat))/\w'=w:=Any.bits_Len Tryz.lays125 x w h0 h1
def Tryz.lays106_ren:Go.Shelf.Ren:=⟨fun|106=>223|213=>262|265=>307|n=>n,fun|9=>9|3=>3|n=>n,fun|n=>n⟩
theorem Tryz.lays106:Go.Proofs.Lays.n106 p_ Tryz.lays106_ren:={
 mixed:=by kernel_rfl
 f106:=Tryz.func223.trans (congrArg some (by kernel_rfl))
 f213:=Tryz.func262.trans (congrArg some (by kernel_rfl))
 f265:=Tryz.func307.trans (congrArg some (by kernel_rfl))
 t3:=Tryz.underlying3
 a3:=Tryz.isAgg3
 z3:=Tryz.sizeOf3
 v3:=Tryz.zeroValue3
 t9:=Tryz.underlying9
 a9:=Tryz.isAgg9
 z9:=Tryz.sizeOf9
 v9:=Tryz.zeroValue9 }
open Go.RowKit in
theorem Tryz.strings_Compare (a b:ByteArray) (w:World):
  Calls p_ 223 #[.string a,.string b] w fun e w'=>e=.returned (.int .i64 (Lib.compareBytes a.data.toList b.data.toList))/\w'=w:=Any.strings_Compare Tryz.lays106 a b w
end
end Go.Proofs
namespace Go.Proofs.YtnboipekkahmnaaGreatDoor
open Obj renaming cells→o_
open World renaming ownsRow.lt→l_
open Go.RowKit.Below renaming heap_setCell→h_,refl→r_
open Nat renaming le_refl→n_
open Tryz renaming prog→p_
open Value renaming string→v_
open Go.Joins renaming below_alloc1→a_
section
open Go.RowKit Go.Joins Go.Shelf Go.Lib
open Go.Sort hiding Below
theorem zKQ (x y:ByteArray×ByteArray) (W:World):Calls p_ 222 #[.agg #[.string x.1,.string x.2],.agg #[.string y.1,.string y.2]] W fun e w'=>e=.returned (.int .i64 (Lib.compareBytes x.1.data.toList y.1.data.toList))/\∃ q os',w'=Go.Sort.grow (W.drewN q) os':=by
 have hcon:=fun W'=>Tryz.strings_Compare x.1 y.1 W';generalize Lib.compareBytes x.1.data.toList y.1.data.toList=r at hcon ⊢;go_enter Tryz.func222,Tryz.ntmps222;go_wp2_with (go_at_call 223;refine(hcon _).mono ?_;rintro e w' ⟨rfl,rfl⟩)
 go_ret;exact⟨rfl,0,_,by rw[Go.Sort.alloc_eq_grow,Go.Sort.alloc_eq_grow,Go.Sort.grow_grow];rfl⟩
def cmpP (x y:ByteArray×ByteArray):Int:=Lib.compareBytes x.1.data.toList y.1.data.toList
theorem zIJ:∀ a b:List UInt8,decide (Lib.compareBytes a b<0)=Op.bytesLess a b
 | [],[]=>by simp[Lib.compareBytes,Op.bytesLess]
 | [],_::_=>by simp[Lib.compareBytes,Op.bytesLess]
 | _::_,[]=>by simp[Lib.compareBytes,Op.bytesLess]
 | a::la,b::lb=>by
  have ih:=zIJ la lb;unfold Lib.compareBytes Op.bytesLess;by_cases h1:a<b
  ·simp[h1]
  ·by_cases h2:b<a
   ·have h3:¬a=b:=fun e=>by subst e;exact h1 h2
    simp[h1,h2,h3]
   ·have h3:a=b:=UInt8.le_antisymm (UInt8.not_lt.1 h2) (UInt8.not_lt.1 h1);simp only[h1,h2,if_false];rw[ih,h3];simp
theorem vN (x y:ByteArray×ByteArray):ltOf cmpP x y=ltS x.1 y.1:=by
 unfold ltOf cmpP ltS;rw[zIJ,Lib.toList_data,Lib.toList_data]
theorem zLa:Go.Sort.SWO (ltOf cmpP) where
 irrefl x:=by rw[vN];exact bA _
 trans x y z h1 h2:=by rw[vN] at *;exact cL h1 h2
 ntrans x y z h1 h2:=by
  rw[vN] at *;rcases jZ x.1 z.1 with h|h|h
  ·rcases jZ x.1 y.1 with k|k|k
   ·rw[k] at h1;cases h1
   ·rw[<-k,h] at h2;cases h2
   ·rw[cL k h] at h2;cases h2
  ·rw[h];exact bA _
  ·exact kP h
theorem zBz (d:Array (ByteArray×ByteArray)):(flatK aV 2 d).toList=d.toList.flatMap aV:=by
 apply List.ext_getElem?;intro t;by_cases ht:t<d.size*2
 ·have h1:=nI aV 2 gQ d.toList (t / 2) (t % 2) (by rw[Array.length_toList];omega) (by omega);rw[show t / 2*2+t % 2=t by omega] at h1;rw[h1];have h2:=get_flatK aV 2 d t ht;have hs:t<(flatK aV 2 d).size:=by simpa using ht
  rw[getElem!_pos _ t hs] at h2;rw[Array.getElem?_toList,Array.getElem?_eq_getElem hs,h2];have h3:t / 2<d.size:=by omega
  rw[getElem!_pos d (t / 2) h3];have h4:t % 2<(aV d[t / 2]).length:=by rw[gQ];omega
  rw[getElem!_pos (aV d[t / 2]) (t % 2) h4];exact(List.getElem?_eq_getElem h4).symm
 ·rw[List.getElem?_eq_none (by simp;omega),List.getElem?_eq_none];have:∀ l:List (ByteArray×ByteArray),(l.flatMap aV).length=l.length*2:=by
   intro l
   induction l with
   | nil=>rfl
   | cons x l ih=>rw[List.flatMap_cons,List.length_append,ih,gQ,List.length_cons];omega
  rw[this,Array.length_toList];omega
theorem zA5 {W:World} {B blk cap:Nat} {F:List (ByteArray×ByteArray)} (h:ownP W B (.slice (some ⟨blk,0,none⟩) F.length cap) F):HoldsK aV 2 W blk 0 F.toArray:=by
 intro j hj;have hj':j<F.length*2:=by simpa using hj
 refine⟨?_,?_⟩
 ·rw[Nat.zero_add,World.ownsRow.cellAt h j hj'];have e:=zBz F.toArray;rw[List.toList_toArray] at e;rw[<-e,Array.getElem?_toList,Array.getElem?_eq_getElem hj,getElem!_pos _ j hj];rfl
 ·rw[Nat.zero_add];exact World.ownsRow.frozenAt h _
theorem zCB (F G:Array Value) (h:F.size=G.size):setMany F 0 G.toList=G:=by
 apply Array.ext
 ·simp[h]
 ·intro i h1 h2;have h3:i<F.size:=by simpa using h1
  have:=get_setMany G.toList 0 F i h3;rw[getElem!_pos _ i h1,if_pos ⟨Nat.zero_le _,by simpa using h2⟩] at this;rw[this,Nat.sub_zero];have h4:i<G.toList.length:=by simpa using h2
  rw[getElem!_pos _ i h4,Array.getElem_toList]
theorem zMu {W:World} {blk:Nat} {d d':Array (ByteArray×ByteArray)} (h:HoldsK aV 2 W blk 0 d) (hs:d'.size=d.size):putRowK aV 2 W blk 0 d'=W.setCells blk 0 (d'.toList.flatMap aV):=by
 have e:=setCells_putRow W blk 0 (flatK aV 2 d').toList 0 (flatK aV 2 d) (by simp[hs]);rw[zCB _ _ (by simp[hs])] at e;have e2:Go.Sort.putRow id W blk 0 (flatK aV 2 d)=W:=putRowK_self aV 2 W blk 0 d h;rw[e2,zBz] at e;exact e.symm
theorem zDH (w:World) (os:Array Obj):Below w.heap.size w (grow w os):=by
 refine⟨rfl,rfl,rfl,?_,fun i hi=>?_⟩
 ·show w.heap.size<=(w.heap++os).size;simp
 ·show(w.heap++os)[i]?=w.heap[i]?;rw[Array.getElem?_append_left hi]
theorem zFQ {W:World} {B blk cap n:Nat} {F:List (ByteArray×ByteArray)} {os:Array Obj} (h:ownP W B (.slice (some ⟨blk,0,none⟩) F.length cap) F) {d':Array (ByteArray×ByteArray)} (hs:d'.size=F.length):
  ownP (sortWorldK aV 2 W blk 0 n d' os) B (.slice (some ⟨blk,0,none⟩) F.length cap) d'.toList/\Below blk W (sortWorldK aV 2 W blk 0 n d' os)/\(∀ j,j<W.heap.size->j≠blk->(sortWorldK aV 2 W blk 0 n d' os).heap[j]?=W.heap[j]?):=by
 have h0:(Go.Sort.ahead W n).ownsRow B 165 2 (.slice (some ⟨blk,0,none⟩) F.length cap) F.length (F.flatMap aV):=aI h fun _ _=>rfl;have hH:HoldsK aV 2 (Go.Sort.ahead W n) blk 0 F.toArray:=zA5 h0;have hbl:=(l_ h blk rfl).2;have h1:=cT (d'.toList.flatMap aV) 0 (Go.Sort.ahead W n) _ h0;rw[<-zMu hH (by simpa using hs)] at h1;have hlen:∀ l:List (ByteArray×ByteArray),(l.flatMap aV).length=l.length*2:=by
  intro l
  induction l with
  | nil=>rfl
  | cons x l ih=>rw[List.flatMap_cons,List.length_append,ih,gQ,List.length_cons];omega
 have hl2:(d'.toList.flatMap aV).length=(F.flatMap aV).length:=by rw[hlen,hlen,Array.length_toList,hs]
 have h2:setL (F.flatMap aV) 0 (d'.toList.flatMap aV)=d'.toList.flatMap aV:=by
  have:=tI (d'.toList.flatMap aV) (F.flatMap aV) (by omega);rwa [hl2,List.take_of_length_le (by rw[zDO];exact n_ _)] at this
 rw[h2] at h1;have hb:=zDH (putRowK aV 2 (Go.Sort.ahead W n) blk 0 d') os;have e:sortWorldK aV 2 W blk 0 n d' os=grow (putRowK aV 2 (Go.Sort.ahead W n) blk 0 d') os:=rfl;have hk:∀ j,j<W.heap.size->j≠blk->(sortWorldK aV 2 W blk 0 n d' os).heap[j]?=W.heap[j]?:=fun j hj hne=>by
  rw[e,hb.block j (Nat.lt_of_lt_of_le hj h1.2.size),h1.2.block j hj (by simpa using hne)];rfl
 refine⟨?_,⟨?_,?_,?_,?_,fun j hj=>hk j (by omega) (by omega)⟩,hk⟩
 ·rw[e];have:=bQ h1.1 hb;unfold ownP;rw[show d'.toList.length=F.length by simpa using hs];exact this
 ·rw[e,hb.os,h1.2.os];rfl
 ·rw[e,hb.tape,h1.2.tape];rfl
 ·rw[e,hb.output,h1.2.output];rfl
 ·rw[e];exact Nat.le_trans h1.2.size hb.size
theorem zI7 (blk size:Nat) (w:World):CmpLays p_ 222 #[] aV 2 cmpP blk 0 size w:=fun _ _ _ _ x y=>zKQ x y _
theorem zHl:zCR:=by
 intro blk cap B F W ho hn;have eg:∀ args w,(callFunc 222 args).run p_ w=.ok (.enter 222 args) w:=enters_of Tryz.func222 (by kernel_rfl) rfl;have hcon:=AnyQ.slices_SortFunc Tryz.sortRow 2 Tryz.isAgg165 Tryz.sizeOf165 aV (fun _=>rfl) (fun x v hv=>by simp[aV] at hv;rcases hv with rfl|rfl<;>rfl) cmpP zLa 222 #[] blk 0 cap F.toArray W eg (zI7 blk _ W) (zA5 ho) (l_ ho blk rfl).2 (by simp;omega);refine hcon.mono ?_;rintro e w' ⟨rfl,d',n,os,hp,hs,rfl⟩;have hsz:d'.size=F.length:=by simpa using hp.1
 obtain⟨h1,h2,h3⟩:=zFQ (n:=n) (os:=os) ho hsz;refine⟨rfl,d'.toList,?_,?_,h1,h2,h3⟩
 ·have:=hp.2.2;have e1:d'.extract 0 F.toArray.size=d':=by rw[show F.toArray.size=d'.size by simpa using hsz.symm];exact Array.extract_size
  have e2:F.toArray.extract 0 F.toArray.size=F.toArray:=Array.extract_size;rw[e1,e2] at this;exact this
 ·rw[List.pairwise_iff_getElem];intro i j hi hj hij;have:=hs i j (Nat.zero_le _) hij (by simpa[hsz] using hj);rw[vN,getElem!_pos _ j (by simpa using hj),getElem!_pos _ i (by simpa using hi)] at this;simpa using this
end
section
open Go.RowKit Go.Joins
theorem zMv (f:Value) (W:World):Calls p_ 297 #[.slice none 0 0,.int .i64 0,.int .i64 0,f] W fun e W'=>e=.returned (.tuple #[])/\Below W.heap.size W W':=by
 go_enter Tryz.func297,Tryz.ntmps297;go_wp2
 go_loopw [8] (fun i wr=>i=.int .i64 1/\wr=W) (fun _ _=>0)
 case atStart=>exact⟨rfl,rfl⟩
 case round=>
  obtain⟨rfl,rfl⟩:=hrel;go_wp2;go_end0;exact⟨rfl,r_ _ _⟩
theorem zMq (f:Value) (l:Int) (W:World):Calls p_ 260 #[.slice none 0 0,.int .i64 0,.int .i64 0,.int .i64 l,f] W fun e W'=>e=.returned (.tuple #[])/\Below W.heap.size W W':=by
 go_enter Tryz.func260,Tryz.ntmps260;go_wp2
 go_loopw [1,2] (fun a b wr=>a=.int .i64 0/\b=.int .i64 0/\wr=W) (fun _ _ _=>0)
 case atStart=>exact⟨rfl,rfl,rfl⟩
 case round=>
  obtain⟨rfl,rfl,rfl⟩:=hrel;go_wp2_with (go_at_call 297;refine(zMv f _).mono ?_;rintro e w1 ⟨rfl,hb⟩)
  (try simp only[Exit.inBlock,Exit.then])
  refine bodyPost_ret (results_none rfl _ _ _) rfl ?_;exact⟨rfl,hb⟩
theorem zJ3:zFh:=by
 intro W;go_enter Tryz.func221,Tryz.ntmps221;go_wp2_with (first
  | (go_at_call 261;refine(Tryz.bits_Len 0 W (by omega) (by omega)).mono ?_;rintro e w1 ⟨rfl,rfl⟩)
  | (go_at_call 260;refine(zMq _ _ _).mono ?_;rintro e w2 ⟨rfl,hb⟩))
 go_end0;exact⟨rfl,hb⟩
end
section
open Go.RowKit Go.Joins Go.Shelf
attribute [local go_sem ↓] Go.wp_at_zero Go.wp_at_succ
theorem zJ7 (a b:ByteArray) (w:World):(Instr.field 80 (.agg #[.string a,.string b]) 1).run p_ w=.ok (.string b) w:=by
 have h1:=Tryz.isAgg9;have h2:=Tryz.sizeOf9;simp[Instr.field,run_underlying Tryz.underlying80,asAgg,part,h1,go_sem]
theorem zJJ (key:ByteArray) (w:World) (hk:key.size<=1000):
  Calls p_ 101 #[.string key] w fun e w'=>e=.returned (.agg #[.string ⟨#[]⟩,.string (cX key)])/\Below w.heap.size w w':=by
 have HP:=fun w=>hide (uT key w hk);have hfl:=zJ7;have hB:=a_ w (o_ #[.string ⟨#[]⟩,v_ ⟨#[]⟩] 80);have fz:=aQ w #[v_ ⟨#[]⟩,v_ ⟨#[]⟩] 80;have r0:(w.alloc (o_ #[.string ⟨#[]⟩,v_ ⟨#[]⟩] 80)).cell? ⟨w.heap.size,0,none⟩=some (.string ⟨#[]⟩):=by simp
 have r1:(w.alloc (o_ #[.string ⟨#[]⟩,v_ ⟨#[]⟩] 80)).cell? ⟨w.heap.size,1,none⟩=some (.string ⟨#[]⟩):=by simp
 have h0:w.heap.size<(w.alloc (o_ #[.string ⟨#[]⟩,v_ ⟨#[]⟩] 80)).heap.size:=by simp
 generalize cX key=z at *;go_enter Tryz.func101,Tryz.ntmps101;go_wp2_with (go_at_call 106;refine(HP _).out.mono ?_;rintro e w1 ⟨rfl,hb⟩;replace hB:=aB hB (n_ _) hb;replace fz:=fun j=>aE hb h0 (fz j);replace r0:=aA hb r0;replace r1:=aA hb r1;clear hb h0)
 exact bodyPost_ret (v:=.agg #[.string ⟨#[]⟩,.string z]) (by simp[results,Tryz.results101,go_sem,r0,r1]) rfl ⟨rfl,(hB.setCell (p:=⟨w.heap.size,0,none⟩) (n_ _) _).setCell (p:=⟨w.heap.size,1,none⟩) (n_ _) _⟩
theorem zJP (a:Addr) (n cap:Nat) (w:World) (hn:n<=cap) (hc:cap<=9223372036854775807):
  Calls p_ 99 #[.slice (some a) n cap] w fun e w'=>e=.returned (.slice (some a) n n)/\Below w.heap.size w w':=by
 have h1:(n:Int)<=(cap:Int):=by omega
 have h2:n<=9223372036854775807:=by omega
 go_enter Tryz.func99,Tryz.ntmps99;go_wp2;go_ret;exact⟨rfl,r_ _ _⟩
end
section
open Go.RowKit Go.Joins
def cN (l:List (ByteArray×ByteArray)) (key:ByteArray):Nat:=l.findIdx fun r=>!ltS r.1 key
def fK (l:List (ByteArray×ByteArray)) (key:ByteArray):Bool:=match l[cN l key]? with
 | some r=>eqS r.1 key
 | none=>false
def mQ (l:List (ByteArray×ByteArray)) (key:ByteArray):Nat:=if fK l key then cN l key+1 else cN l key
def layR (l:List (ByteArray×ByteArray)) (c:Chg):List (ByteArray×ByteArray):=l.take (cN l c.key)++(if c.gone then [] else [(c.key,c.val)])++l.drop (mQ l c.key)
theorem oG (l:List (ByteArray×ByteArray)) (key:ByteArray):cN l key<=l.length:=List.findIdx_le_length
theorem lJ (r:ByteArray×ByteArray) (l:List (ByteArray×ByteArray)) (key:ByteArray):cN (r::l) key=if ltS r.1 key then cN l key+1 else 0:=by
 unfold cN;rw[List.findIdx_cons];cases ltS r.1 key<;>rfl
theorem zBG {l:List (ByteArray×ByteArray)} {key:ByteArray} (h:fK l key=true):cN l key<l.length:=by
 rcases Nat.lt_or_ge (cN l key) l.length with k|k
 ·exact k
 ·rw[fK,List.getElem?_eq_none k] at h;cases h
theorem zJ1 (l:List (ByteArray×ByteArray)) (key:ByteArray):mQ l key<=l.length:=by
 unfold mQ;split
 ·rename_i h;exact zBG h
 ·exact oG l key
theorem zAN {r:ByteArray×ByteArray} {l:List (ByteArray×ByteArray)} {key:ByteArray} (h:ltS r.1 key=true):fK (r::l) key=fK l key:=by
 unfold fK;rw[lJ,if_pos h,List.getElem?_cons_succ]
theorem zAS {r:ByteArray×ByteArray} {l:List (ByteArray×ByteArray)} {key:ByteArray} (h:ltS r.1 key=false):fK (r::l) key=eqS r.1 key:=by
 unfold fK;rw[lJ,if_neg (by simp[h]),List.getElem?_cons_zero]
theorem zBZ {r:ByteArray×ByteArray} {l:List (ByteArray×ByteArray)} {key:ByteArray} (h:ltS r.1 key=true):mQ (r::l) key=mQ l key+1:=by
 unfold mQ;rw[zAN h,lJ,if_pos h];split<;>rfl
theorem zB5 {r:ByteArray×ByteArray} {l:List (ByteArray×ByteArray)} {key:ByteArray} (h:ltS r.1 key=false):mQ (r::l) key=if eqS r.1 key then 1 else 0:=by
 unfold mQ;rw[zAS h,lJ,h];cases eqS r.1 key<;>rfl
theorem zFL {l:List (ByteArray×ByteArray)} (hl:bV l) (key:ByteArray):l.take (cN l key)=l.filter fun r=>ltS r.1 key:=by
 induction l with
 | nil=>rfl
 | cons r l ih=>
  replace hl:=List.pairwise_cons.1 hl;rw[lJ]
  cases h:ltS r.1 key with
  | true=>simp[h,ih hl.2]
  | false=>
   have:(l.filter fun x=>ltS x.1 key)=[]:=List.filter_eq_nil_iff.2 fun x hx e=>by
    have:=cL (hl.1 x hx) e;rw[h] at this;cases this
   simp[h,this]
theorem zJA {l:List (ByteArray×ByteArray)} (hl:bV l) (key:ByteArray):l.drop (mQ l key)=l.filter fun r=>ltS key r.1:=by
 induction l with
 | nil=>rfl
 | cons r l ih=>
  replace hl:=List.pairwise_cons.1 hl
  cases h:ltS r.1 key with
  | true=>
   have h2:ltS key r.1=false:=by
    cases e:ltS key r.1 with
    | false=>rfl
    | true=>have:=cL e h;rw[bA] at this;cases this
   rw[zBZ h,List.drop_succ_cons,ih hl.2];simp[h2]
  | false=>
   rw[zB5 h];have hge:leS key r.1=true:=by rw[mA,h];rfl
   have hup:∀ x∈l,ltS key x.1=true:=fun x hx=>by
    have h1:=hl.1 x hx;rcases(jM _ _).1 hge with h2|h2
    ·exact cL h2 h1
    ·rw[h2];exact h1
   have f2:(l.filter fun x=>ltS key x.1)=l:=List.filter_eq_self.2 hup
   cases e:eqS r.1 key with
   | true=>
    have e2:=(eV _ _).1 e;have hgt:ltS key r.1=false:=by rw[e2,bA]
    simp[hgt,f2]
   | false=>
    have hgt:ltS key r.1=true:=by
     rcases(jM _ _).1 hge with h2|h2
     ·exact h2
     ·rw[h2,pG] at e;cases e
    simp[hgt,f2]
theorem zA3 {l:List (ByteArray×ByteArray)} (hl:bV l) (key:ByteArray):(l.filter fun r=>!eqS r.1 key)=(l.filter fun r=>ltS r.1 key)++l.filter fun r=>ltS key r.1:=by
 induction l with
 | nil=>rfl
 | cons r l ih=>
  replace hl:=List.pairwise_cons.1 hl;have ih:=ih hl.2
  cases h:ltS r.1 key with
  | true=>
   have hne:eqS r.1 key=false:=rH fun e=>by rw[e,bA] at h;cases h
   have h2:ltS key r.1=false:=by
    cases e:ltS key r.1 with
    | false=>rfl
    | true=>have:=cL e h;rw[bA] at this;cases this
   simp[h,hne,h2,ih]
  | false=>
   have hge:leS key r.1=true:=by rw[mA,h];rfl
   have hup:∀ x∈l,ltS key x.1=true:=fun x hx=>by
    have h1:=hl.1 x hx;rcases(jM _ _).1 hge with h2|h2
    ·exact cL h2 h1
    ·rw[h2];exact h1
   have f1:(l.filter fun x=>ltS x.1 key)=[]:=List.filter_eq_nil_iff.2 fun x hx e=>by
    have:=cL (hup x hx) e;rw[bA] at this;cases this
   have f2:(l.filter fun x=>ltS key x.1)=l:=List.filter_eq_self.2 hup;rw[f1,f2] at ih
   cases e:eqS r.1 key with
   | true=>
    have e2:=(eV _ _).1 e;have hgt:ltS key r.1=false:=by rw[e2,bA]
    simp[h,e,hgt,f1,f2,ih]
   | false=>
    have hgt:ltS key r.1=true:=by
     rcases(jM _ _).1 hge with h2|h2
     ·exact h2
     ·rw[h2,pG] at e;cases e
    simp[h,e,hgt,f1,f2,ih]
theorem zAU {l:List (ByteArray×ByteArray)} (hl:bV l) (c:Chg):layR l c=apply1 l c:=by
 unfold layR;rw[zFL hl,zJA hl]
 cases h:c.gone with
 | true=>rw[iF h,zA3 hl];simp
 | false=>rw[iX hl h];simp
theorem zHU {l:List (ByteArray×ByteArray)} (hl:bV l) (c:Chg) (s:ByteArray×ByteArray):inR (apply1 l c) s=if hasS s.1 s.2 c.key then apply1 (inR l s) c else inR l s:=by
 unfold inR
 cases h:c.gone with
 | true=>
  rw[iF h,iF h,List.filter_filter]
  cases hs:hasS s.1 s.2 c.key with
  | true=>
   rw[if_pos rfl,List.filter_filter];refine List.filter_congr fun r _=>?_;rw[Bool.and_comm]
  | false=>
   rw[if_neg (by simp)];refine List.filter_congr fun r _=>?_
   cases he:eqS r.1 c.key with
   | false=>simp
   | true=>rw[(eV _ _).1 he,hs];rfl
 | false=>
  rw[iX hl h,List.filter_append,List.filter_cons]
  cases hs:hasS s.1 s.2 c.key with
  | true=>
   rw[if_pos rfl,if_pos rfl,iX (hl.filter _) h];simp only[List.filter_filter];congr 1
   ·exact List.filter_congr fun r _=>Bool.and_comm _ _
   ·rw[List.cons.injEq];exact⟨rfl,List.filter_congr fun r _=>Bool.and_comm _ _⟩
  | false=>
   rw[if_neg (by simp),if_neg (by simp),<-List.filter_append,<-zA3 hl,List.filter_filter];refine List.filter_congr fun r _=>?_
   cases he:eqS r.1 c.key with
   | false=>simp
   | true=>rw[(eV _ _).1 he,hs];rfl
def gP (l:List (ByteArray×ByteArray)) (s:ByteArray×ByteArray) (cs:List Chg):List (ByteArray×ByteArray):=cs.foldl (fun l c=>if hasS s.1 s.2 c.key then layR l c else l) l
theorem zGp (l:List (ByteArray×ByteArray)) (s:ByteArray×ByteArray) (cs:List Chg) (k:Nat) (hk:k<cs.length):gP l s (cs.take (k+1))=if hasS s.1 s.2 cs[k].key then layR (gP l s (cs.take k)) cs[k] else gP l s (cs.take k):=by
 unfold gP;rw[List.take_succ_eq_append_getElem hk,List.foldl_append];rfl
theorem zFl:∀ (cs:List Chg) {l:List (ByteArray×ByteArray)},bV l->∀ (s:ByteArray×ByteArray),gP (inR l s) s cs=inR (iB l cs) s
 | [],_,_,_=>rfl
 | c::cs,l,hl,s=>by
  have:=zFl cs (jO hl c) s;show gP (if hasS s.1 s.2 c.key then layR (inR l s) c else inR l s) s cs=inR (iB (apply1 l c) cs) s;rw[<-this,zHU hl,zAU (show bV (inR l s) from hl.filter _)]
theorem zLk (l:List (ByteArray×ByteArray)) (c:Chg):(layR l c).length<=l.length+1:=by
 unfold layR;have h1:=oG l c.key;have h2:=zJ1 l c.key;have h3:cN l c.key<=mQ l c.key:=by unfold mQ;split<;>omega
 simp only[List.length_append,List.length_take,List.length_drop];split<;>simp<;>omega
theorem zBL (l:List (ByteArray×ByteArray)) (s:ByteArray×ByteArray):∀ (cs:List Chg),(gP l s cs).length<=l.length+cs.length:=by
 intro cs
 induction cs generalizing l with
 | nil=>exact n_ _
 | cons c cs ih=>
  have h1:=ih (if hasS s.1 s.2 c.key then layR l c else l);have h2:=zLk l c;show(gP (if hasS s.1 s.2 c.key then layR l c else l) s cs).length<=l.length+(cs.length+1);split at h1<;>rename_i hh
  ·rw[if_pos hh];omega
  ·rw[if_neg hh];omega
theorem zME {l:List (ByteArray×ByteArray)} {c:Chg} {r:ByteArray×ByteArray} (h:r∈layR l c):r∈l∨r.1=c.key:=by
 unfold layR at h;rcases List.mem_append.1 h with h|h
 ·rcases List.mem_append.1 h with h|h
  ·exact .inl (List.mem_of_mem_take h)
  ·cases hg:c.gone<;>rw[hg] at h
   ·exact .inr (by rw[List.mem_singleton.1 h])
   ·cases h
 ·exact .inl (List.mem_of_mem_drop h)
theorem zBh {m:Nat} {s:ByteArray×ByteArray}:∀ (cs:List Chg) {l:List (ByteArray×ByteArray)},(∀ r∈l,r.1.size<=m)->(∀ c∈cs,c.key.size<=m)->∀ r∈gP l s cs,r.1.size<=m
 | [],_,hl,_=>hl
 | c::cs,l,hl,hc=>by
  have ih:=zBh (s:=s) cs (l:=if hasS s.1 s.2 c.key then layR l c else l) (fun r hr=>by
   split at hr
   ·rcases zME hr with h|h
    ·exact hl r h
    ·rw[h];exact hc c (by simp)
   ·exact hl r hr) (fun x hx=>hc x (by simp[hx]))
  exact ih
end
end Go.Proofs.YtnboipekkahmnaaGreatDoor
namespace Go.Proofs
open Obj renaming cells→o_
open World renaming ownsRow.lt→l_
open Go.RowKit.Below renaming heap_setCell→h_,refl→r_
open Nat renaming le_refl→n_
open Tryz renaming prog→p_
open Value renaming string→v_
open Go.Joins renaming below_alloc1→a_
section
open Go.Shelf
def Tryz.search_ren:Go.Shelf.Ren:=⟨fun|16=>263|n=>n,fun|3=>3|35=>116|4=>4|38=>311|n=>n,fun|n=>n⟩
theorem Tryz.search:Go.Proofs.SlLaysO.n16 p_ Tryz.search_ren:={
 mixed:=by kernel_rfl
 f16:=Tryz.func263.trans (congrArg some (by kernel_rfl))
 t3:=Tryz.underlying3
 a3:=Tryz.isAgg3
 z3:=Tryz.sizeOf3
 v3:=Tryz.zeroValue3
 t4:=Tryz.underlying4
 a4:=Tryz.isAgg4
 z4:=Tryz.sizeOf4
 v4:=Tryz.zeroValue4
 t35:=Tryz.underlying116
 a35:=Tryz.isAgg116
 z35:=Tryz.sizeOf116
 v35:=Tryz.zeroValue116
 t38:=Tryz.underlying311
 a38:=Tryz.isAgg311
 z38:=Tryz.sizeOf311
 v38:=Tryz.zeroValue311 }
end
end Go.Proofs
