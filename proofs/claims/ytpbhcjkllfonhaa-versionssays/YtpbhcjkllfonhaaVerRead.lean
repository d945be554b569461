/-
  What Versions.Now and Versions.Read return of versions that lie in memory. Nothing that was there is changed.
-/
import Derived.Test.YtpbhcjkllfonhaaVerMem
namespace Go.Proofs.Ytpbhcjkllfonhaa
open Go.RowKit Go.Joins

theorem now_any {B vb mb n : Nat} {now : Int} {D : DataW Value} {g : ByteArray → Value} {R : ByteArray → List Ver} (w : World) (h : VS w B vb mb now n D g R) :
    Calls Try.prog 19 #[.pointer (some ⟨vb, 0, none⟩)] w fun e w' => e = .returned (.int .i64 now) ∧ w' = w := by
  have c := h.num
  go_enter Try.func19, Try.ntmps19
  go_wp2
  go_ret
  exact ⟨rfl, rfl⟩
set_option maxHeartbeats 1000000 in
theorem read_any {B vb mb n : Nat} {now : Int} {D : DataW Value} {g : ByteArray → Value} {R : ByteArray → List Ver} (key : ByteArray) (at_ : Int) (w : World) (h : VS w B vb mb now n D g R) (hk : key.size ≤ maxLen) (hR : (R key).length ≤ 1000000) :
    Calls Try.prog 14 #[.pointer (some ⟨vb, 0, none⟩), .string key, .int .i64 at_] w fun e w' => e = .returned (.tuple #[.string (behindV (R key) at_).1, .bool (behindV (R key) at_).2]) ∧ Below w.heap.size w w' := by
  have c := h.mp
  have hl := h.looked hk
  obtain ⟨ao, cap, e, hI, _, _⟩ := ownV_in (h.rows key)
  rw [e] at hl
  have HI := hide hI
  clear hI e
  generalize R key = vs at *
  go_enter Try.func14, Try.ntmps14
  go_wp2_with (go_at_call 28; refine (behind_any ao cap vs at_ _ hR HI.out).mono ?_; rintro e w1 ⟨rfl, hb⟩)
  go_ret2
  exact ⟨rfl, hb⟩
end Go.Proofs.Ytpbhcjkllfonhaa
