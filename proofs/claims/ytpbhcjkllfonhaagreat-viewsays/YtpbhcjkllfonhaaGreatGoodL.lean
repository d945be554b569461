/-
  Rows that rise, few, with short keys.
-/
import Derived.Test.YtpbhcjkllfonhaaGreatVerRows
namespace Go.Proofs.YtpbhcjkllfonhaaGreat
open Go.RowKit Go.Joins

def goodB (l : List (ByteArray × ByteArray)) : Prop := l.length ≤ 50 ∧ ∀ r ∈ l, r.1.size ≤ 60
def goodV (l : List (ByteArray × ByteArray)) (w : World) (e : Ending) (w' : World) : Prop := ∃ v, e = .returned (.bool v) ∧ (v = true → goodB l) ∧ Below w.heap.size w w'
/-- each above the one ahead of it -/
def riseA (l : List (ByteArray × ByteArray)) : Prop := ∀ j (h : j < l.length) i (hi : i < l.length), i + 1 = j → leS l[j].1 l[i].1 = false
def goodV2 (l : List (ByteArray × ByteArray)) (w : World) (e : Ending) (w' : World) : Prop := ∃ v, e = .returned (.bool v) ∧ (v = true → goodB l ∧ riseA l) ∧ Below w.heap.size w w'
end Go.Proofs.YtpbhcjkllfonhaaGreat
