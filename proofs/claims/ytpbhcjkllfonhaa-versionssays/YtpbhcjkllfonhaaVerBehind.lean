/-
  What versions.behind returns of versions that lie in memory: the value of a row behind a deed, and whether it is there. Nothing that was there is changed.
-/
import Derived.Test.YtpbhcjkllfonhaaVerLast
namespace Go.Proofs.Ytpbhcjkllfonhaa
open Go.RowKit Go.Joins

/-- the last version up to a deed -/
def lastV (vs : List Ver) (n : Int) : Option Ver := vs.reverse.find? fun x => decide (x.deed ≤ n)
def behindV (vs : List Ver) (n : Int) : ByteArray × Bool := match lastV vs n with
  | some x => if x.gone then (⟨#[]⟩, false) else (x.val, true)
  | none => (⟨#[]⟩, false)
theorem last_cases (vs : List Ver) (n : Int) : (lastP vs n = -1 ∧ lastV vs n = none) ∨ ∃ p, lastP vs n = ((p : Nat) : Int) ∧ ∃ h : p < vs.length, lastV vs n = some vs[p] := by
  unfold lastP lastV
  cases hf : vs.reverse.findIdx? (fun x => decide (x.deed ≤ n)) with
  | none =>
    left
    refine ⟨rfl, ?_⟩
    rw [List.find?_eq_none]
    exact fun x hx => by have := List.findIdx?_eq_none_iff.1 hf x hx; simpa using this
  | some j =>
    right
    obtain ⟨hj, hp, hlt⟩ := List.findIdx?_eq_some_iff_getElem.1 hf
    have hj' : j < vs.length := by simpa using hj
    refine ⟨vs.length - 1 - j, by show (vs.length : Int) - 1 - (j : Int) = _; omega, by omega, ?_⟩
    rw [List.find?_eq_some_iff_getElem]
    refine ⟨by rw [List.getElem_reverse] at hp; simpa using hp, j, hj, ?_, fun i hi => by have := hlt i hi; simpa using this⟩
    rw [List.getElem_reverse]

set_option maxHeartbeats 1000000 in
theorem behind_any (ao : Option Addr) (cap : Nat) (vs : List Ver) (n : Int) (w : World) (hlen : vs.length ≤ 1000000) (hI : versIn w.heap.size w ao cap vs) :
    Calls Try.prog 28 #[.slice ao vs.length cap, .int .i64 n] w fun e W' => e = .returned (.tuple #[.string (behindV vs n).1, .bool (behindV vs n).2]) ∧ Below w.heap.size w W' := by
  rcases last_cases vs n with ⟨hl, hv⟩ | ⟨p, hl, hp, hv⟩
  · have HL := hide hl
    have HB : Hid (behindV vs n = (⟨#[]⟩, false)) := by unfold Hid behindV; rw [hv]
    clear hl hv
    go_enter Try.func28, Try.ntmps28
    go_wp2_with (go_at_call 38; refine (last_any ao cap vs n _ hlen hI).mono ?_; rintro e w1 ⟨rfl, hb⟩; rw [HL.out])
    go_ret2
    exact ⟨by rw [HB.out]; rfl, hb⟩
  · rcases hI with ⟨_, _, e⟩ | ⟨b, rfl, hb0, hc⟩
    · rw [e] at hp; simp at hp
    · obtain ⟨d0, d1, d2⟩ := hc p hp
      have hp0 : ¬ ((p : Int) < 0) := by omega
      have hp1 : (p : Int) < (vs.length : Int) := by omega
      have HL := hide hl
      have HI : Hid (versIn w.heap.size w (some ⟨b, 0, none⟩) cap vs) := .inr ⟨b, rfl, hb0, hc⟩
      cases hg : vs[p].gone with
      | true =>
        have HB : Hid (behindV vs n = (⟨#[]⟩, false)) := by unfold Hid behindV; rw [hv]; simp [hg]
        rw [hg] at d2
        clear hl hv hg hc
        go_enter Try.func28, Try.ntmps28
        go_wp2_with (go_at_call 38; refine (last_any _ cap vs n _ hlen HI.out).mono ?_; rintro e w1 ⟨rfl, hb⟩; rw [HL.out]; have k2 := cell_on hb d2)
        go_ret2
        exact ⟨by rw [HB.out]; rfl, hb⟩
      | false =>
        have HB : Hid (behindV vs n = (vs[p].val, true)) := by unfold Hid behindV; rw [hv]; simp [hg]
        rw [hg] at d2
        clear hl hv hg hc
        go_enter Try.func28, Try.ntmps28
        go_wp2_with (go_at_call 38; refine (last_any _ cap vs n _ hlen HI.out).mono ?_; rintro e w1 ⟨rfl, hb⟩; rw [HL.out]; have k1 := cell_on hb d1; have k2 := cell_on hb d2)
        go_ret2
        exact ⟨by rw [HB.out]; rfl, hb⟩
end Go.Proofs.Ytpbhcjkllfonhaa
