/-
  What package row and the document's answer return of the same queues, messages and texts: the same. The closed fact haywainlaw.keys.
-/
import Derived.Test.YtighpalbodhfeaaGreatDoorRowErr
import Derived.Test.YtighpalbodhfeaaGreatDoorAppend1
import Derived.Test.YtighpalbodhfeaaGreatDoorRefRow
import Derived.Test.YtighpalbodhfeaaGreatDoorRows
import Derived.Test.YtighpalbodhfeaaGreatDoorBase
namespace Go.Proofs.YtighpalbodhfeaaGreatDoor
open Go.RowKit Go.Joins

theorem queueText_both (x y : Int) (d : ByteArray) (hd : d.size ≤ 1000) : ∃ (T : ByteArray) (g : Nat),
    (∀ w, Laid w → Calls Tryz.prog 92 #[.agg #[.int .i64 x, .int .i64 y, .string d]] w fun e w' => e = .returned (.tuple #[.string T, errV g]) ∧ Below w.heap.size w w') ∧
    (∀ w, Calls Tryz.prog 97 #[.agg #[.int .i64 x, .int .i64 y, .string d]] w fun e w' => e = .returned (.tuple #[.string T, .int .i64 g]) ∧ Below w.heap.size w w') ∧
    ((g ≠ 0 ∧ T = ⟨#[]⟩) ∨ (g = 0 ∧ ∃ n t : Nat, x = n ∧ y = t ∧ queueMay n t d ∧ T = joinB n t d)) := by
  by_cases hb : (x < 0 ∨ 999999 < x) ∨ (0 ≤ x ∧ x ≤ 999999 ∧ (y < 1 ∨ 9 < y))
  · exact ⟨⟨#[]⟩, 1, fun w _ => queueText_bound x y d w hb, fun w => rqueueText_bound x y d w hb, .inl ⟨by decide, rfl⟩⟩
  · obtain ⟨n, rfl⟩ := Int.eq_ofNat_of_zero_le (show 0 ≤ x by omega)
    obtain ⟨t, rfl⟩ := Int.eq_ofNat_of_zero_le (show 0 ≤ y by omega)
    have hok : d.toList.isEmpty = true ∨ (d.toList.isEmpty = false ∧ nameL d.data.toList = true) ∨ (d.toList.isEmpty = false ∧ nameL d.data.toList = false) := by
      cases d.toList.isEmpty <;> cases nameL d.data.toList <;> simp
    rcases hok with h | h | h
    · exact ⟨_, 0, fun w hL => queueText_ok n t d w (by omega) (by omega) (by omega) (.inl h) hd hL.tab, fun w => rqueueText_ok n t d (by omega) (by omega) (by omega) (.inl h) hd w, .inr ⟨rfl, n, t, rfl, rfl, ⟨by omega, by omega, by omega, .inl h⟩, rfl⟩⟩
    · exact ⟨_, 0, fun w hL => queueText_ok n t d w (by omega) (by omega) (by omega) (.inr h) hd hL.tab, fun w => rqueueText_ok n t d (by omega) (by omega) (by omega) (.inr h) hd w, .inr ⟨rfl, n, t, rfl, rfl, ⟨by omega, by omega, by omega, .inr h⟩, rfl⟩⟩
    · exact ⟨⟨#[]⟩, 3, fun w _ => queueText_shape n t d w (by omega) (by omega) (by omega) (by omega) h.1 h.2, fun w => rqueueText_shape n t d w (by omega) (by omega) (by omega) (by omega) h.1 h.2, .inl ⟨by decide, rfl⟩⟩
theorem messageText_both (k x y : Int) (d : ByteArray) (hd : d.size ≤ 1000) : ∃ (T : ByteArray) (g : Nat),
    (∀ w, Laid w → Calls Tryz.prog 102 #[.agg #[.int .i64 k, .int .i64 x, .int .i64 y, .string d]] w fun e w' => e = .returned (.tuple #[.string T, errV g]) ∧ Below w.heap.size w w') ∧
    (∀ w, Calls Tryz.prog 63 #[.agg #[.int .i64 k, .int .i64 x, .int .i64 y, .string d]] w fun e w' => e = .returned (.tuple #[.string T, .int .i64 g]) ∧ Below w.heap.size w w') ∧
    ((g ≠ 0 ∧ T = ⟨#[]⟩) ∨ (g = 0 ∧ ∃ t u : Nat, x = t ∧ y = u ∧ messageMay t u d ∧ T = joinB t u d)) := by
  by_cases hb : (x < 0 ∨ 9 < x) ∨ (0 ≤ x ∧ x ≤ 9 ∧ ((y < 0 ∨ 2000000 < y) ∨ (0 ≤ y ∧ y ≤ 2000000 ∧ 28 < d.size)))
  · exact ⟨⟨#[]⟩, 1, fun w _ => messageText_bound k x y d w hb, fun w => rmessageText_bound k x y d w hb, .inl ⟨by decide, rfl⟩⟩
  · obtain ⟨t, rfl⟩ := Int.eq_ofNat_of_zero_le (show 0 ≤ x by omega)
    obtain ⟨u, rfl⟩ := Int.eq_ofNat_of_zero_le (show 0 ≤ y by omega)
    exact ⟨_, 0, fun w hL => messageText_ok k t u d w (by omega) (by omega) (by omega) hL.tab, fun w => rmessageText_ok k t u d (by omega) (by omega) (by omega) w, .inr ⟨rfl, t, u, rfl, rfl, ⟨by omega, by omega, by omega⟩, rfl⟩⟩
theorem errV_pos {g : Nat} (h : g ≠ 0) : errV g = .iface 108 (.int .i64 g) := by unfold errV; rw [if_neg h]
theorem queueOf_both (s : ByteArray) (hs : s.size ≤ 100) : ∃ (a b : Int) (r : ByteArray) (g : Nat),
    (∀ w, Laid w → Calls Tryz.prog 66 #[.string s] w fun e w' => e = .returned (.tuple #[.agg #[.int .i64 a, .int .i64 b, .string r], errV g]) ∧ Below w.heap.size w w') ∧
    (∀ w, Calls Tryz.prog 67 #[.string s] w fun e w' => e = .returned (.tuple #[.agg #[.int .i64 a, .int .i64 b, .string r], .int .i64 g]) ∧ Below w.heap.size w w') := by
  by_cases hex : ∃ n t d, queueMay n t d ∧ s = joinB n t d
  · obtain ⟨n, t, d, hq, rfl⟩ := hex
    have hd : d.size ≤ 1000 := by
      rcases hq.2.2.2 with h | h
      · rw [Lib.size_eq, ← Lib.toList_data, List.isEmpty_iff.1 h]; simp
      · have := name_size h.2; omega
    exact ⟨n, t, d, 0, fun w hL => parseQueue_join n t d w hq.1 hq.2.1 hq.2.2.1 hq.2.2.2 hd hL.tab, fun w => queueOf_yes _ n t d w (by omega) hq rfl⟩
  · have hno : ∀ n t d, queueMay n t d → s ≠ joinB n t d := fun n t d h e => hex ⟨n, t, d, h, e⟩
    refine ⟨0, 0, ⟨#[]⟩, 4, fun w hL => ?_, fun w => queueOf_no s w (by omega) hno⟩
    obtain ⟨x, y, r, hr, hsp⟩ := split_total s (by omega)
    obtain ⟨T, g, h1, _, h3⟩ := queueText_both x y r hr
    rcases h3 with ⟨hg, rfl⟩ | ⟨rfl, n, t, rfl, rfl, hq, rfl⟩
    · rw [errV_pos hg] at h1
      exact parseQueue_err s x y r g w hL hsp h1
    · exact parseQueue_ne s n t r _ (fun e => hno n t r hq (toList_inj e).symm) w hL hsp h1
theorem messageOf_both (s : ByteArray) (k : Int) (hs : s.size ≤ 100) : ∃ (z a b : Int) (r : ByteArray) (g : Nat),
    (∀ w, Laid w → Calls Tryz.prog 98 #[.int .i64 k, .string s] w fun e w' => e = .returned (.tuple #[.agg #[.int .i64 z, .int .i64 a, .int .i64 b, .string r], errV g]) ∧ Below w.heap.size w w') ∧
    (∀ w, Calls Tryz.prog 88 #[.int .i64 k, .string s] w fun e w' => e = .returned (.tuple #[.agg #[.int .i64 z, .int .i64 a, .int .i64 b, .string r], .int .i64 g]) ∧ Below w.heap.size w w') := by
  by_cases hex : ∃ t u d, messageMay t u d ∧ s = joinB t u d
  · obtain ⟨t, u, d, hq, rfl⟩ := hex
    exact ⟨k, t, u, d, 0, fun w hL => parseMessage_join k t u d w hq.1 hq.2.1 hq.2.2 hL.tab, fun w => messageOf_yes _ k t u d w (by omega) hq rfl⟩
  · have hno : ∀ t u d, messageMay t u d → s ≠ joinB t u d := fun t u d h e => hex ⟨t, u, d, h, e⟩
    refine ⟨0, 0, 0, ⟨#[]⟩, 4, fun w hL => ?_, fun w => messageOf_no s k w (by omega) hno⟩
    obtain ⟨x, y, r, hr, hsp⟩ := split_total s (by omega)
    obtain ⟨T, g, h1, _, h3⟩ := messageText_both k x y r hr
    rcases h3 with ⟨hg, rfl⟩ | ⟨rfl, t, u, rfl, rfl, hq, rfl⟩
    · rw [errV_pos hg] at h1
      exact parseMessage_err s k x y r g w hL hsp h1
    · exact parseMessage_ne s k t u r _ (fun e => hno t u r hq (toList_inj e).symm) w hL hsp h1

end Go.Proofs.YtighpalbodhfeaaGreatDoor

/-
  Queues and messages as texts: what package row and the document's answer make of them, by one function each.
-/
namespace Go.Proofs.YtighpalbodhfeaaGreatDoor
open Go.RowKit Go.Joins

def qText (x y : Int) (d : ByteArray) : ByteArray × Nat :=
  if 0 ≤ x ∧ x ≤ 999999 ∧ 1 ≤ y ∧ y ≤ 9 then if d.toList.isEmpty || nameL d.data.toList then (joinB x.toNat y.toNat d, 0) else (⟨#[]⟩, 3) else (⟨#[]⟩, 1)
def mText (x y : Int) (d : ByteArray) : ByteArray × Nat :=
  if 0 ≤ x ∧ x ≤ 9 ∧ 0 ≤ y ∧ y ≤ 2000000 ∧ d.size ≤ 28 then (joinB x.toNat y.toNat d, 0) else (⟨#[]⟩, 1)
open Classical in
noncomputable def qOf (s : ByteArray) : Int × Int × ByteArray × Nat :=
  if h : ∃ x : Nat × Nat × ByteArray, queueMay x.1 x.2.1 x.2.2 ∧ s = joinB x.1 x.2.1 x.2.2 then (((Classical.choose h).1 : Int), ((Classical.choose h).2.1 : Int), (Classical.choose h).2.2, 0) else (0, 0, ⟨#[]⟩, 4)
open Classical in
noncomputable def mOf (s : ByteArray) (k : Int) : Int × Int × Int × ByteArray × Nat :=
  if h : ∃ x : Nat × Nat × ByteArray, messageMay x.1 x.2.1 x.2.2 ∧ s = joinB x.1 x.2.1 x.2.2 then (k, ((Classical.choose h).1 : Int), ((Classical.choose h).2.1 : Int), (Classical.choose h).2.2, 0) else (0, 0, 0, ⟨#[]⟩, 4)

theorem qText_prog (x y : Int) (d : ByteArray) (hd : d.size ≤ 1000) (w : World) (hL : Laid w) : Calls Tryz.prog 92 #[.agg #[.int .i64 x, .int .i64 y, .string d]] w fun e w' => e = .returned (.tuple #[.string (qText x y d).1, errV (qText x y d).2]) ∧ Below w.heap.size w w' := by
  unfold qText
  split
  · rename_i h
    obtain ⟨n, rfl⟩ := Int.eq_ofNat_of_zero_le (show 0 ≤ x by omega)
    obtain ⟨t, rfl⟩ := Int.eq_ofNat_of_zero_le (show 0 ≤ y by omega)
    cases h1 : d.toList.isEmpty with
    | true => exact queueText_ok n t d w (by omega) (by omega) (by omega) (.inl h1) hd hL.tab
    | false =>
      cases h2 : nameL d.data.toList with
      | true => exact queueText_ok n t d w (by omega) (by omega) (by omega) (.inr ⟨h1, h2⟩) hd hL.tab
      | false => exact queueText_shape n t d w (by omega) (by omega) (by omega) (by omega) h1 h2
  · exact queueText_bound x y d w (by omega)
theorem qText_ref (x y : Int) (d : ByteArray) (hd : d.size ≤ 1000) (w : World) : Calls Tryz.prog 97 #[.agg #[.int .i64 x, .int .i64 y, .string d]] w fun e w' => e = .returned (.tuple #[.string (qText x y d).1, .int .i64 (qText x y d).2]) ∧ Below w.heap.size w w' := by
  unfold qText
  split
  · rename_i h
    obtain ⟨n, rfl⟩ := Int.eq_ofNat_of_zero_le (show 0 ≤ x by omega)
    obtain ⟨t, rfl⟩ := Int.eq_ofNat_of_zero_le (show 0 ≤ y by omega)
    cases h1 : d.toList.isEmpty with
    | true => exact rqueueText_ok n t d (by omega) (by omega) (by omega) (.inl h1) hd w
    | false =>
      cases h2 : nameL d.data.toList with
      | true => exact rqueueText_ok n t d (by omega) (by omega) (by omega) (.inr ⟨h1, h2⟩) hd w
      | false => exact rqueueText_shape n t d w (by omega) (by omega) (by omega) (by omega) h1 h2
  · exact rqueueText_bound x y d w (by omega)
theorem mText_prog (k x y : Int) (d : ByteArray) (w : World) (hL : Laid w) : Calls Tryz.prog 102 #[.agg #[.int .i64 k, .int .i64 x, .int .i64 y, .string d]] w fun e w' => e = .returned (.tuple #[.string (mText x y d).1, errV (mText x y d).2]) ∧ Below w.heap.size w w' := by
  unfold mText
  split
  · rename_i h
    obtain ⟨n, rfl⟩ := Int.eq_ofNat_of_zero_le (show 0 ≤ x by omega)
    obtain ⟨t, rfl⟩ := Int.eq_ofNat_of_zero_le (show 0 ≤ y by omega)
    exact messageText_ok k n t d w (by omega) (by omega) (by omega) hL.tab
  · exact messageText_bound k x y d w (by omega)
theorem mText_ref (k x y : Int) (d : ByteArray) (w : World) : Calls Tryz.prog 63 #[.agg #[.int .i64 k, .int .i64 x, .int .i64 y, .string d]] w fun e w' => e = .returned (.tuple #[.string (mText x y d).1, .int .i64 (mText x y d).2]) ∧ Below w.heap.size w w' := by
  unfold mText
  split
  · rename_i h
    obtain ⟨n, rfl⟩ := Int.eq_ofNat_of_zero_le (show 0 ≤ x by omega)
    obtain ⟨t, rfl⟩ := Int.eq_ofNat_of_zero_le (show 0 ≤ y by omega)
    exact rmessageText_ok k n t d (by omega) (by omega) (by omega) w
  · exact rmessageText_bound k x y d w (by omega)
theorem qOf_cases (s : ByteArray) : (∃ (n t : Nat) (d : ByteArray), qOf s = ((n : Int), (t : Int), d, 0) ∧ queueMay n t d ∧ s = joinB n t d) ∨ (qOf s = (0, 0, ⟨#[]⟩, 4) ∧ ∀ n t d, queueMay n t d → s ≠ joinB n t d) := by
  unfold qOf
  split
  · rename_i h
    exact .inl ⟨_, _, _, rfl, Classical.choose_spec h⟩
  · rename_i h
    exact .inr ⟨rfl, fun n t d hq e => h ⟨(n, t, d), hq, e⟩⟩
theorem mOf_cases (s : ByteArray) (k : Int) : (∃ (t u : Nat) (d : ByteArray), mOf s k = (k, (t : Int), (u : Int), d, 0) ∧ messageMay t u d ∧ s = joinB t u d) ∨ (mOf s k = (0, 0, 0, ⟨#[]⟩, 4) ∧ ∀ t u d, messageMay t u d → s ≠ joinB t u d) := by
  unfold mOf
  split
  · rename_i h
    exact .inl ⟨_, _, _, rfl, Classical.choose_spec h⟩
  · rename_i h
    exact .inr ⟨rfl, fun n t d hq e => h ⟨(n, t, d), hq, e⟩⟩
theorem may_size {n t : Nat} {d : ByteArray} (hq : queueMay n t d) : d.size ≤ 6 := by
  rcases hq.2.2.2 with h | h
  · rw [Lib.size_eq, ← Lib.toList_data, List.isEmpty_iff.1 h]; simp
  · exact name_size h.2
theorem qOf_prog (s : ByteArray) (hs : s.size ≤ 100) (w : World) (hL : Laid w) : Calls Tryz.prog 66 #[.string s] w fun e w' => e = .returned (.tuple #[.agg #[.int .i64 (qOf s).1, .int .i64 (qOf s).2.1, .string (qOf s).2.2.1], errV (qOf s).2.2.2]) ∧ Below w.heap.size w w' := by
  rcases qOf_cases s with ⟨n, t, d, e, hq, rfl⟩ | ⟨e, hno⟩
  · rw [e]
    exact parseQueue_join n t d w hq.1 hq.2.1 hq.2.2.1 hq.2.2.2 (by have := may_size hq; omega) hL.tab
  · rw [e]
    obtain ⟨x, y, r, hr, hsp⟩ := split_total s (by omega)
    obtain ⟨T, g, h1, _, h3⟩ := queueText_both x y r hr
    rcases h3 with ⟨hg, rfl⟩ | ⟨rfl, n, t, rfl, rfl, hq, rfl⟩
    · rw [errV_pos hg] at h1
      exact parseQueue_err s x y r g w hL hsp h1
    · exact parseQueue_ne s n t r _ (fun e => hno n t r hq (toList_inj e).symm) w hL hsp h1
theorem qOf_ref (s : ByteArray) (hs : s.size ≤ 100) (w : World) : Calls Tryz.prog 67 #[.string s] w fun e w' => e = .returned (.tuple #[.agg #[.int .i64 (qOf s).1, .int .i64 (qOf s).2.1, .string (qOf s).2.2.1], .int .i64 (qOf s).2.2.2]) ∧ Below w.heap.size w w' := by
  rcases qOf_cases s with ⟨n, t, d, e, hq, he⟩ | ⟨e, hno⟩
  · rw [e]
    exact queueOf_yes s n t d w (by omega) hq he
  · rw [e]
    exact queueOf_no s w (by omega) hno
theorem mOf_prog (s : ByteArray) (k : Int) (hs : s.size ≤ 100) (w : World) (hL : Laid w) : Calls Tryz.prog 98 #[.int .i64 k, .string s] w fun e w' => e = .returned (.tuple #[.agg #[.int .i64 (mOf s k).1, .int .i64 (mOf s k).2.1, .int .i64 (mOf s k).2.2.1, .string (mOf s k).2.2.2.1], errV (mOf s k).2.2.2.2]) ∧ Below w.heap.size w w' := by
  rcases mOf_cases s k with ⟨t, u, d, e, hq, rfl⟩ | ⟨e, hno⟩
  · rw [e]
    exact parseMessage_join k t u d w hq.1 hq.2.1 hq.2.2 hL.tab
  · rw [e]
    obtain ⟨x, y, r, hr, hsp⟩ := split_total s (by omega)
    obtain ⟨T, g, h1, _, h3⟩ := messageText_both k x y r hr
    rcases h3 with ⟨hg, rfl⟩ | ⟨rfl, t, u, rfl, rfl, hq, rfl⟩
    · rw [errV_pos hg] at h1
      exact parseMessage_err s k x y r g w hL hsp h1
    · exact parseMessage_ne s k t u r _ (fun e => hno t u r hq (toList_inj e).symm) w hL hsp h1
theorem mOf_ref (s : ByteArray) (k : Int) (hs : s.size ≤ 100) (w : World) : Calls Tryz.prog 88 #[.int .i64 k, .string s] w fun e w' => e = .returned (.tuple #[.agg #[.int .i64 (mOf s k).1, .int .i64 (mOf s k).2.1, .int .i64 (mOf s k).2.2.1, .string (mOf s k).2.2.2.1], .int .i64 (mOf s k).2.2.2.2]) ∧ Below w.heap.size w w' := by
  rcases mOf_cases s k with ⟨t, u, d, e, hq, he⟩ | ⟨e, hno⟩
  · rw [e]
    exact messageOf_yes s k t u d w (by omega) hq he
  · rw [e]
    exact messageOf_no s k w (by omega) hno
end Go.Proofs.YtighpalbodhfeaaGreatDoor

/-
  What span.Has returns, for every span and key; nothing that was there is changed.
-/
namespace Go.Proofs.YtighpalbodhfeaaGreatDoor
open Go.RowKit Go.Joins

set_option maxHeartbeats 400000 in
theorem has_any (f t k : ByteArray) (w : World) :
    Calls Tryz.prog 117 #[.agg #[.string f, .string t], .string k] w fun e w' => e = .returned (.bool (hasS f t k)) ∧ Below w.heap.size w w' := by
  go_enter Tryz.func117, Tryz.ntmps117
  go_wp2
  all_goals
    go_ret
    refine ⟨?_, below_alloc1 _ _⟩
    simp_all [hasS, leS, ltS, nilS]

end Go.Proofs.YtighpalbodhfeaaGreatDoor

/-
  What haywainlaw.LightSpans returns of a list of spans that lies in memory: are there at most 50, and has none an end of more than 60 bytes? It changes nothing.
-/
namespace Go.Proofs.YtighpalbodhfeaaGreatDoor
open Go.RowKit Go.Joins

/-- spans, two texts each, lie in block b from off on -/
def spansAt (w : World) (b off : Nat) (l : List (ByteArray × ByteArray)) : Prop :=
  ∀ i (h : i < l.length), w.cell? ⟨b, off + i * 2, none⟩ = some (.string l[i].1) ∧ w.cell? ⟨b, off + i * 2 + 1, none⟩ = some (.string l[i].2)
def lightSpan (s : ByteArray × ByteArray) : Bool := decide (s.1.size ≤ 60) && decide (s.2.size ≤ 60)
def lightSpans (l : List (ByteArray × ByteArray)) : Bool := decide (l.length ≤ 50) && l.all lightSpan

theorem light_take {l : List (ByteArray × ByteArray)} {k : Nat} (hk : k < l.length) (h : (l.take k).all lightSpan = true) (h2 : lightSpan l[k] = true) : (l.take (k + 1)).all lightSpan = true := by
  rw [List.take_succ_eq_append_getElem hk, List.all_append, h]; simp [h2]
theorem light_not {l : List (ByteArray × ByteArray)} {k : Nat} (hk : k < l.length) (h : lightSpan l[k] = false) : lightSpans l = false := by
  unfold lightSpans
  have : l.all lightSpan = false := by
    rw [List.all_eq_false]; exact ⟨l[k], List.getElem_mem hk, by simp [h]⟩
  rw [this, Bool.and_false]

set_option maxHeartbeats 1000000 in
theorem lightSpans_some (l : List (ByteArray × ByteArray)) (b off cap : Nat) (w : World) (hl : spansAt w b off l) (hn : l.length ≤ maxLen) :
    Calls Tryz.prog 16 #[.slice (some ⟨b, off, none⟩) l.length cap] w fun e w' => e = .returned (.bool (lightSpans l)) ∧ w' = w := by
  unfold maxLen at hn
  by_cases h50 : l.length ≤ 50
  · have hg : decide ((50 : Int) < (l.length : Int)) = false := by simp; omega
    go_enter Tryz.func16, Tryz.ntmps16
    go_wp2
    go_loop [3] (fun i => ∃ k : Nat, k ≤ l.length ∧ i = .int .i64 k ∧ (l.take k).all lightSpan = true) (fun i => l.length - (intOf i).toNat)
    case atStart => exact ⟨0, Nat.zero_le _, rfl, by simp⟩
    case round =>
      obtain ⟨k, hk, rfl, hall⟩ := hrel
      have HA : Hid ((l.take k).all lightSpan = true) := hall
      clear hall
      by_cases hlt : k < l.length
      · obtain ⟨c0, c1⟩ := hl k hlt
        go_wp2
        · go_ret
          exact ⟨ret_bool (light_not hlt (by simp only [lightSpan, Bool.and_eq_false_iff, decide_eq_false_iff_not]; omega)).symm, rfl⟩
        · go_round
          case rel => exact ⟨k + 1, by omega, by go_num, light_take hlt HA.out (by simp only [lightSpan, Bool.and_eq_true, decide_eq_true_eq]; omega)⟩
          case measure => simp [intOf]; omega
        · go_ret
          exact ⟨ret_bool (light_not hlt (by simp only [lightSpan, Bool.and_eq_false_iff, decide_eq_false_iff_not]; omega)).symm, rfl⟩
      · go_wp2
        go_ret
        refine ⟨ret_bool ?_, rfl⟩
        have e : l.take k = l := List.take_of_length_le (by omega)
        have := HA.out
        rw [e] at this
        simp [lightSpans, this, h50]
  · have hg : decide ((50 : Int) < (l.length : Int)) = true := by simp; omega
    go_enter Tryz.func16, Tryz.ntmps16
    go_wp2
    go_ret
    exact ⟨ret_bool (by simp [lightSpans, h50]), rfl⟩
/-- of a slice without elements, nil or not -/
theorem lightSpans_nil (ao : Option Addr) (cap : Nat) (w : World) :
    Calls Tryz.prog 16 #[.slice ao 0 cap] w fun e w' => e = .returned (.bool true) ∧ w' = w := by
  go_enter Tryz.func16, Tryz.ntmps16
  go_wp2
  refine wp_loop_rounds 1 ?_
  rw [rounds_succ]
  go_wp2
  go_ret
  exact ⟨rfl, rfl⟩
end Go.Proofs.YtighpalbodhfeaaGreatDoor
