/-
  Steps of a disk one behind the other, and those of adding a deed; plain.
-/
import Derived.Test.YtkfpfbkdalbjoaaGreatDskL
namespace Go.Proofs.YtkfpfbkdalbjoaaGreat

inductive DOp where
  | wr (a : Nat) (d : ByteArray)
  | fl
def opF (o : DOp) (s : DSt) : Nat := match o with
  | .wr a d => dwriteF s (a : Int) d
  | .fl => dstepF s
def opD (o : DOp) (s : DSt) : DSt := match o with
  | .wr a d => dwriteD s (a : Int) d
  | .fl => flushD s
/-- its fault, and what is behind it -/
def runD : List DOp → DSt → Nat × DSt
  | [], s => (0, s)
  | o :: l, s => if opF o s = 0 then runD l (opD o s) else (opF o s, opD o s)
theorem runD_append (a b : List DOp) : ∀ s, runD (a ++ b) s = if (runD a s).1 = 0 then runD b (runD a s).2 else runD a s := by
  induction a with
  | nil => intro s; rfl
  | cons o a ih =>
    intro s
    show (if opF o s = 0 then runD (a ++ b) (opD o s) else (opF o s, opD o s)) = _
    by_cases h : opF o s = 0
    · rw [if_pos h, ih]
      have e : runD (o :: a) s = runD a (opD o s) := by show (if _ then _ else _) = _; rw [if_pos h]
      rw [e]
    · rw [if_neg h]
      have e : runD (o :: a) s = (opF o s, opD o s) := by show (if _ then _ else _) = _; rw [if_neg h]
      rw [e, if_neg h]
theorem runD_one (o : DOp) (s : DSt) : runD [o] s = (opF o s, opD o s) := by
  show (if opF o s = 0 then (0, opD o s) else _) = _
  by_cases h : opF o s = 0
  · rw [if_pos h, h]
  · rw [if_neg h]
theorem runD_good {a b : List DOp} {s : DSt} (h : (runD a s).1 = 0) : runD (a ++ b) s = runD b (runD a s).2 := by rw [runD_append, if_pos h]
theorem runD_stop {a b : List DOp} {s : DSt} (h : (runD a s).1 ≠ 0) : runD (a ++ b) s = runD a s := by rw [runD_append, if_neg h]
theorem dstepD_len (s : DSt) : (dstepD s).now = s.now ∧ (dstepD s).kept = s.kept ∧ (dstepD s).wait = s.wait := by
  unfold dstepD
  split
  · exact ⟨rfl, rfl, rfl⟩
  · split <;> exact ⟨rfl, rfl, rfl⟩
theorem opD_len (o : DOp) (s : DSt) : (opD o s).now.length = s.now.length := by
  cases o with
  | wr a d =>
    show (dwriteD s a d).now.length = _
    unfold dwriteD
    split
    · rfl
    · split
      · unfold laidD; simp [(dstepD_len s).1]
      · rw [(dstepD_len s).1]
  | fl =>
    show (flushD s).now.length = _
    unfold flushD
    split
    · show (dstepD s).now.length = _; rw [(dstepD_len s).1]
    · rw [(dstepD_len s).1]
theorem runD_len (l : List DOp) : ∀ s, (runD l s).2.now.length = s.now.length := by
  induction l with
  | nil => intro s; rfl
  | cons o l ih =>
    intro s
    show (if opF o s = 0 then runD l (opD o s) else (opF o s, opD o s)).2.now.length = _
    split
    · rw [ih, opD_len]
    · exact opD_len o s
def restFrom : Nat → List ByteArray → List DOp
  | _, [] => []
  | a, t :: l => .wr a t :: restFrom (a + 1) l
def emptyB : ByteArray := ⟨#[]⟩
/-- the seven steps of adding a deed's sectors from a sector on, of so many that are free -/
def addSteps (a : Nat) (secs : List ByteArray) (room : Nat) : List (List DOp) :=
  [[.wr a emptyB], [.fl], restFrom (a + 1) secs.tail, if secs.length = room then [] else [.wr (a + secs.length) emptyB], [.fl], [.wr a (secs.headD emptyB)], [.fl]]
def addOps (a : Nat) (secs : List ByteArray) (room : Nat) : List DOp := (addSteps a secs room).flatten
end Go.Proofs.YtkfpfbkdalbjoaaGreat
