/-
  What haywainref.words returns: a new row of the words of a text, at most so many; it makes new memory alone.
-/
import Derived.Test.YtlndiohdjdgaoaaDoorNatL
import Derived.Test.YtlndiohdjdgaoaaDoorAppend1
import Derived.Test.YtlndiohdjdgaoaaDoorCutWalk
namespace Go.Proofs.YtlndiohdjdgaoaaDoor
open Go.RowKit Go.Joins

set_option maxRecDepth 100000 in
theorem str_info : ∃ i, Tryd.prog.info? 9 = some i ∧ i.zero = some (.string ⟨#[]⟩) ∧ i.size = 1 ∧ i.bytes = 16 := ⟨_, rfl, by kernel_rfl, by kernel_rfl, by kernel_rfl⟩
/-- a row of texts of one's own -/
def ownStr (w : World) (B : Nat) (v : Value) (l : List ByteArray) : Prop := w.ownsRow B 9 1 v l.length (l.map Value.string)
theorem ownStr_len {w : World} {B : Nat} {v : Value} {l : List ByteArray} (h : ownStr w B v l) : ∃ ao cap, v = .slice ao l.length cap := by
  rcases ownsRow_forms h with ⟨h1, h2⟩ | ⟨g, cap, h1⟩
  · exact ⟨none, 0, by rw [h1, h2]⟩
  · exact ⟨_, cap, h1⟩
theorem data_piece (s : ByteArray) (p k : Nat) : (s.extract p k).data.toList = (s.data.toList.take k).drop p := by
  rw [ByteArray.data_extract]
  simp only [Array.toList_extract, List.extract_eq_take_drop]
  exact List.drop_take.symm

set_option maxHeartbeats 2000000 in
theorem words_any (s : ByteArray) (most : Nat) (w : World) (hm : 1 ≤ most) (hm' : most ≤ 99) (hs : s.size ≤ 1000) :
    Calls Tryd.prog 41 #[.string s, .int .i64 most] w fun e w' => ∃ v, e = .returned v ∧ ∃ out rest, ownStr w' w.heap.size v (out ++ [rest]) ∧ wordsR s most out rest ∧ Below w.heap.size w w' := by
  obtain ⟨i0, hi0, hz0, hs0, hb0⟩ := str_info
  have hl := len_data s
  go_enter Tryd.func41, Tryd.ntmps41
  go_wp2
  go_loopw [5, 6, 7] (fun v f i wr => ∃ (out : List ByteArray) (p k : Nat), p ≤ k ∧ k ≤ s.size ∧ f = .int .i64 p ∧ i = .int .i64 k ∧ ownStr wr w.heap.size v out ∧ s.data.toList.take p = (out.map fun x => x.data.toList ++ [32]).flatten ∧ (∀ x ∈ out, ∀ c ∈ x.data.toList, c ≠ 32) ∧ (∀ c ∈ (s.data.toList.take k).drop p, c ≠ 32) ∧ out.length + 1 ≤ most ∧ Below w.heap.size w wr) (fun _ _ i _ => s.size - (intOf i).toNat)
  case atStart => exact ⟨[], 0, 0, Nat.le_refl _, Nat.zero_le _, rfl, rfl, World.ownsRow_nil _ _ _ _, by simp, by simp, by simp, by simpa using hm, Below.refl _ _⟩
  case round =>
    obtain ⟨out, p, k, hpk, hk, rfl, rfl, hown, hout, hno, hpiece, hlen, hB⟩ := hrel
    have HO := hide hout
    have HN := hide hno
    have HP := hide hpiece
    have HL := hide hl
    clear hout hno hpiece hl
    obtain ⟨ao, cap, rfl⟩ := ownStr_len hown
    have hpk' : (p : Int) ≤ (k : Int) := by omega
    by_cases hlt : k < s.size
    · have hlt' : (k : Int) < (s.size : Int) := by omega
      have d1 := decide_eq_true hlt'
      by_cases hmost : out.length + 1 < most
      · have hmost' : (out.length : Int) + 1 < (most : Int) := by omega
        have HG := hide (show s.data.toList.take (k + 1) = s.data.toList.take k ++ [s[k]] by rw [List.take_succ_eq_append_getElem (by rw [HL.out]; exact hlt)]; rfl)
        by_cases hc : s[k] = 32
        · have c32 : (s[k].toNat : Int) = 32 := by rw [hc]; rfl
          have HC := hide hc
          clear hc
          have HX := hide (data_piece s p k)
          go_wp2_with (at_builtin; refine wp_append1 rfl _ _ 69 rfl w.heap.size 9 i0 _ 1 16 Tryd.underlying69 hi0 hz0 hs0 hb0 rfl (by omega) _ [Value.string (s.extract p k)] rfl (by simp [Value.oneCell']) _ out.length (out.map Value.string) hown rfl rfl (by omega) (by omega) hB.size ?_; intro v1 w1 ho1 hb1; replace hB : Below w.heap.size w w1 := hb1 w hB; clear hb1)
          go_roundw
          case rel =>
            refine ⟨out ++ [s.extract p k], k + 1, k + 1, Nat.le_refl _, by omega, by go_num, by go_num, by simpa [ownStr] using ho1, ?_, ?_, ?_, by simp; omega, hB⟩
            · rw [HG.out, HC.out, List.map_append, List.flatten_append, ← HO.out]
              simp only [List.map_cons, List.map_nil, List.flatten_cons, List.flatten_nil, List.append_nil]
              have e : s.data.toList.take p ++ (s.data.toList.take k).drop p = s.data.toList.take k := by
                rw [show s.data.toList.take p = (s.data.toList.take k).take p by rw [List.take_take, Nat.min_eq_left hpk], List.take_append_drop]
              rw [HX.out, ← List.append_assoc, e]
            · intro x hx
              rcases List.mem_append.1 hx with hx | hx
              · exact HN.out x hx
              · rw [List.mem_singleton.1 hx, HX.out]; exact HP.out
            · intro c hc
              rw [List.drop_eq_nil_of_le (by rw [List.length_take]; omega)] at hc
              cases hc
          case measure => simp [intOf]; omega
        · have c32 : ((s[k].toNat : Int) == 32) = false := beq_eq_false_iff_ne.2 fun e => hc (UInt8.toNat_inj.1 (by simpa using Int.ofNat.inj e))
          have HC := hide hc
          clear hc
          go_wp2
          go_roundw
          case rel =>
            refine ⟨out, p, k + 1, by omega, by omega, rfl, by go_num, hown, HO.out, HN.out, ?_, hlen, hB⟩
            intro c hc
            rw [HG.out, List.drop_append_of_le_length (by rw [List.length_take, HL.out]; omega)] at hc
            rcases List.mem_append.1 hc with hc | hc
            · exact HP.out c hc
            · rw [List.mem_singleton.1 hc]; exact HC.out
          case measure => simp [intOf]; omega
      · have hmost' : ¬ (out.length : Int) + 1 < (most : Int) := by omega
        have hps : (p : Int) ≤ (s.size : Int) := by omega
        go_wp2_with (at_builtin; refine wp_append1 rfl _ _ 69 rfl w.heap.size 9 i0 _ 1 16 Tryd.underlying69 hi0 hz0 hs0 hb0 rfl (by omega) _ [Value.string (s.extract p s.size)] rfl (by simp [Value.oneCell']) _ out.length (out.map Value.string) hown rfl rfl (by omega) (by omega) hB.size ?_; intro v1 w1 ho1 hb1; replace hB : Below w.heap.size w w1 := hb1 w hB; clear hb1)
        go_ret
        refine ⟨_, rfl, out, s.extract p s.size, by simpa [ownStr] using ho1, ⟨?_, HN.out, .inr (by omega), hlen⟩, hB⟩
        rw [← HO.out, data_piece, show s.data.toList.take s.size = s.data.toList from List.take_of_length_le (by rw [HL.out]; exact Nat.le_refl _), List.take_append_drop]
    · have hlt' : ¬ (k : Int) < (s.size : Int) := by omega
      have d1 := decide_eq_false hlt'
      have hps : (p : Int) ≤ (s.size : Int) := by omega
      go_wp2_with (at_builtin; refine wp_append1 rfl _ _ 69 rfl w.heap.size 9 i0 _ 1 16 Tryd.underlying69 hi0 hz0 hs0 hb0 rfl (by omega) _ [Value.string (s.extract p s.size)] rfl (by simp [Value.oneCell']) _ out.length (out.map Value.string) hown rfl rfl (by omega) (by omega) hB.size ?_; intro v1 w1 ho1 hb1; replace hB : Below w.heap.size w w1 := hb1 w hB; clear hb1)
      go_ret
      have e : s.data.toList.take k = s.data.toList := List.take_of_length_le (by rw [HL.out]; omega)
      refine ⟨_, rfl, out, s.extract p s.size, by simpa [ownStr] using ho1, ⟨?_, HN.out, .inl ?_, hlen⟩, hB⟩
      · rw [← HO.out, data_piece, show s.data.toList.take s.size = s.data.toList from List.take_of_length_le (by rw [HL.out]; exact Nat.le_refl _), List.take_append_drop]
      · have := HP.out
        rw [e] at this
        rw [data_piece, List.take_of_length_le (by rw [HL.out]; omega)]
        exact this
end Go.Proofs.YtlndiohdjdgaoaaDoor
