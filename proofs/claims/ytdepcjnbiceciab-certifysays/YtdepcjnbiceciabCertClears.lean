/-
  What haywainlaw.clears returns: true; nothing that was there is changed.
-/
import Derived.Test.YtdepcjnbiceciabCertNote
import Derived.Test.YtdepcjnbiceciabCertClear2
import Derived.Test.YtdepcjnbiceciabCertForget
import Derived.Test.YtdepcjnbiceciabCertCount
namespace Go.Proofs.Ytdepcjnbiceciab
open Go.RowKit Go.Joins

def keyTA : ByteArray := ⟨#[116, 47, 97]⟩
def keyTB : ByteArray := ⟨#[116, 47, 98]⟩
theorem clears_no : clearD [⟨1, [keyTA]⟩] [(keyTA, keyTB)] 0 = false := by decide +kernel
theorem clears_yes : clearD [⟨1, [keyTA]⟩] [(keyTA, keyTB)] 1 = true := by decide +kernel

set_option maxHeartbeats 2000000 in
theorem clears_any (w : World) : Calls Try.prog 38 #[] w fun e w' => e = .returned (.bool true) ∧ Below w.heap.size w w' := by
  have hB1 := below_alloc2 w (Obj.cells #[Value.slice none 0 0] 76) (Obj.cells #[Value.string keyTA, Value.string ⟨#[]⟩, Value.bool false] 35)
  have hH : HistAt ((w.alloc (Obj.cells #[Value.slice none 0 0] 76)).alloc (Obj.cells #[Value.string keyTA, Value.string ⟨#[]⟩, Value.bool false] 35)) w.heap.size w.heap.size (.slice none 0 0) [] := hist_made (Nat.le_refl _) (by simp) (frozen_on (below_alloc1 _ _) (by simp) (frozen_new w _ _ 0))
  have hC : heldCh ((w.alloc (Obj.cells #[Value.slice none 0 0] 76)).alloc (Obj.cells #[Value.string keyTA, Value.string ⟨#[]⟩, Value.bool false] 35)) (some ⟨w.heap.size + 1, 0, none⟩) [⟨keyTA, ⟨#[]⟩, false⟩] := .inr ⟨_, _, rfl, fun i hi => by
    have e : i = 0 := by simp at hi; omega
    subst e
    simp⟩
  have HN := hide (note_any [] w.heap.size w.heap.size (.slice none 0 0) 1 (some ⟨w.heap.size + 1, 0, none⟩) 1 [⟨keyTA, ⟨#[]⟩, false⟩] _ hH List.Pairwise.nil (by simp [ofDV]) (by simp; omega) (by simp) hC (by simp) (fun _ b off e => by cases e; simp [Value.ownBlock]))
  clear hH hC
  go_enter Try.func38, Try.ntmps38
  go_wp2_with fail
  refine HN.out.mono ?_
  rintro e w1 ⟨rfl, v1, dv1, h1, e1, hb1, _⟩
  have hl1 : dv1.length = 1 := by have := congrArg List.length e1; simpa [ofDV] using this
  have hk1 : ∀ p ∈ dv1, p.1.keys.length ≤ 1000000 := fun p hp => by
    have : p.1 ∈ ofDV dv1 := List.mem_map.2 ⟨p, hp, rfl⟩
    rw [e1] at this
    simp [ofDV] at this
    rw [this]; simp [keysC]
  have hr1 : risesD (ofDV dv1) := by rw [e1]; simp [ofDV, risesD]
  have hB := hB1.trans hb1
  have E1 : Hid (ofDV dv1 = [⟨1, [keyTA]⟩]) := e1
  have H1 := hide h1
  have HR := hide hr1
  have HK := hide hk1
  clear HN hB1 h1 e1 hb1 hr1 hk1
  have hb2 := below_alloc1 w1 (Obj.cells #[Value.string keyTA, Value.string keyTB] 23)
  have H2 := hide (H1.out.on hb2)
  have hS : heldSp (w1.alloc (Obj.cells #[Value.string keyTA, Value.string keyTB] 23)) (some ⟨w1.heap.size, 0, none⟩) [(keyTA, keyTB)] := .inr ⟨_, _, rfl, fun i hi => by
    have e : i = 0 := by simp at hi; omega
    subst e
    simp⟩
  replace hB := hB.trans (hb2.mono hB.size)
  go_wp2_with fail
  refine (clear_any dv1 w.heap.size _ v1 0 [(keyTA, keyTB)] _ _ _ H2.out HR.out (by omega) HK.out hS (by simp [maxLen])).mono ?_
  rintro e w3 ⟨rfl, hb3⟩
  rw [E1.out, clears_no]
  have H3 := hide (H2.out.on hb3)
  replace hB := hB.trans (hb3.mono hB.size)
  clear hb3 hS H2 hb2
  have hb4 := below_alloc1 w3 (Obj.cells #[Value.string keyTA, Value.string keyTB] 23)
  have H4 := hide (H3.out.on hb4)
  have hS : heldSp (w3.alloc (Obj.cells #[Value.string keyTA, Value.string keyTB] 23)) (some ⟨w3.heap.size, 0, none⟩) [(keyTA, keyTB)] := .inr ⟨_, _, rfl, fun i hi => by
    have e : i = 0 := by simp at hi; omega
    subst e
    simp⟩
  replace hB := hB.trans (hb4.mono hB.size)
  go_wp2_with fail
  refine (clear_any dv1 w.heap.size _ v1 1 [(keyTA, keyTB)] _ _ _ H4.out HR.out (by omega) HK.out hS (by simp [maxLen])).mono ?_
  rintro e w5 ⟨rfl, hb5⟩
  rw [E1.out, clears_yes]
  have H5 := hide (H4.out.on hb5)
  replace hB := hB.trans (hb5.mono hB.size)
  clear hb5 hS H4 hb4
  go_wp2_with fail
  refine (count_any dv1 w.heap.size _ v1 _ H5.out).mono ?_
  rintro e w6 ⟨rfl, rfl⟩
  rw [hl1]
  go_wp2
  go_ret
  exact ⟨rfl, hB⟩
end Go.Proofs.Ytdepcjnbiceciab
