/-
  PROVED: for all lists of numbers (nil, empty or not), haywaintop.TopCount returns true, and its argument reads afterwards as it read before (the statement TopCountSaid; no condition besides the row's own).
-/
import Derived.Test.YtnboipekkahmnaaGreatE14
set_option maxHeartbeats 8000000
set_option maxRecDepth 100000
namespace Go.Proofs.YtnboipekkahmnaaGreat
section
open Go.ChangeShapes Go.WideShapes Go.ChangeAt Go.RowKit Go.Joins Go.Deep
theorem bX {H:Type} {enc:TypeId×Value->H} {W:World} {base:Nat} {v:Value} {d:DataW H} {p:List MemPlace}
  (hv:Value.okWide Tryz.prog W .any base 22 v) (h:DataW.Trod enc Tryz.prog W 0 (fun _=>true) true 22 v d p):
  ∃ (ao:Option Addr) (cap:Nat) (l:List Int),v=.slice ao l.length cap/\eI W ao l:=by
 obtain⟨a0,len,cap,rfl⟩:=okWide_slice Tryz.underlying22 hv
 obtain⟨fuel,hf⟩:=h
 have hf':DataW.trod enc Tryz.prog W 0 (fun _=>true) true fuel 22 [.slice a0 len cap]=some (d,p):=by simpa[Value.cells] using hf
 rcases Go.ChangeShapes.open_ints Tryz.underlying22 Tryz.underlying3 (show Tryz.prog.cellsOf 3=1 by kernel_rfl) hf' with⟨hcs,_⟩|⟨a,len',cap',ss,hcs,_,hl,hm,hz,_,hcell,_⟩
 ·simp at hcs
  obtain⟨rfl,rfl,rfl⟩:=hcs
  exact⟨none,0,[],rfl,.inl rfl⟩
 ·simp at hcs
  obtain⟨rfl,rfl,rfl⟩:=hcs
  simp only[if_true] at hz
  by_cases h0:len=0
  ·subst h0
   exact⟨_,_,[],rfl,.inl rfl⟩
  ·obtain⟨b,off,spot⟩:=a
   have hspot:spot=none:=by
    have e0:=hcell 0 (by omega)
    simpa[Addr.add] using World.cell?_spot e0
   subst hspot
   have hlen:(ss.take len).length=len:=by rw[List.length_take];omega
   refine⟨_,cap,ss.take len,by rw[hlen],.inr ⟨b,off,rfl,fun i hi=>?_⟩⟩
   have hi':i<len:=by rw[hlen] at hi;exact hi
   have e:=hcell i (by omega)
   rw[Go.WideShapes.add_plain] at e
   rw[e,List.getElem_take]
   simp[List.getD,List.getElem?_eq_getElem (show i<ss.length by omega)]
theorem aF (os:Os) (started:os.Started) (H:Type) (enc:TypeId×Value->H):
  ReturnsInHanded {} Tryz.checked os 3 .any (Rows.topCountSpec.pre6 enc Tryz.prog Tryz.f3 Rows.topCountRow.domain false) (Rows.topCountSpec.post enc Tryz.prog Tryz.f3 false true false false):=by
 refine returnsInHanded_of_change (C:=Tryz.checked) Tryz.own started (by kernel_rfl) Tryz.func3
  (ChangeSpec.witness6 (enc:=enc) (C:=Tryz.checked) false ⟨#[],#[.slice none 0 0],[]⟩ 8 (by kernel_rfl) (by kernel_rfl) (by kernel_rfl) (by kernel_rfl)) ?_
 intro W base args ds gs before hval0 hW _ _
 have hval:∀ (j:Nat) t v,Tryz.f3.params[j]?=some t->args[j]?=some v->Value.okWide Tryz.prog W .any base t v:=hval0
 have hW':=hW
 obtain⟨p,q,hA0,hV,rfl,_,_⟩:=hW
 have hA:DataW.TrodAll enc Tryz.prog W 0 (fun _=>true) true Tryz.f3.params.toList args.toList ds p:=hA0
 rw[Tryz.params3] at hA hval
 obtain⟨v0,d0,rfl,rfl,h0⟩:=trodAll_one hA
 obtain⟨rfl,rfl⟩:=trodVars_none hV
 obtain⟨ao,cap,l,rfl,hl⟩:=bX (hval 0 22 v0 rfl rfl) h0
 refine(topCount_walk l ao cap W hl).mono fun e W' ⟨he,hb⟩=>?_
 subst he
 exact⟨_,rfl,zKX Tryz.laidOut (by kernel_rfl) Tryz.underlying4 rfl (by rw[Tryz.params3];decide +kernel) hW' rfl hb⟩
theorem topCount_holds:Rows.TopCountSaid:=
 OpenClaim.holds_of_wide 3 Tryz.f3 rfl rfl rfl rfl rfl rfl rfl ⟨rfl,rfl,rfl,rfl,rfl⟩ rfl rfl rfl rfl rfl (by kernel_rfl) Tryz.func3 (by kernel_rfl)
  (of_decide_eq_true (by kernel_rfl)) (by unfold Func.isWrapper;first|(rw[if_pos (by decide +kernel)];kernel_rfl)|(rw[if_neg (by decide +kernel)];exact⟨rfl,rfl⟩))
  (fun os started H enc _=>aF os started H enc)
#print axioms topCount_holds
end
end Go.Proofs.YtnboipekkahmnaaGreat
