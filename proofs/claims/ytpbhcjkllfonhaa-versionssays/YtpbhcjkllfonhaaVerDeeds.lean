/-
  Deeds as they lie in memory, and versions behind them.
-/
import Derived.Test.YtpbhcjkllfonhaaVerNew
import Derived.Test.YtpbhcjkllfonhaaVerCommit
namespace Go.Proofs.Ytpbhcjkllfonhaa
open Go.RowKit Go.Joins

structure Dd where
  ao : Option Addr
  cap : Nat
  chs : List Chg
def deedsAt (w : World) (b off : Nat) (l : List Dd) : Prop := ∀ i (h : i < l.length), w.cell? ⟨b, off + i, none⟩ = some (.slice l[i].ao l[i].chs.length l[i].cap) ∧ heldCh w l[i].ao l[i].chs
def heldDs (w : World) (ao : Option Addr) (l : List Dd) : Prop := l = [] ∨ ∃ b off, ao = some ⟨b, off, none⟩ ∧ deedsAt w b off l
theorem deedsAt_on {w w' : World} {b off : Nat} {l : List Dd} (hb : Below w.heap.size w w') (h : deedsAt w b off l) : deedsAt w' b off l := fun i hi => ⟨cell_on hb (h i hi).1, heldCh_on hb (h i hi).2⟩
theorem heldDs_on {w w' : World} {ao : Option Addr} {l : List Dd} (hb : Below w.heap.size w w') (h : heldDs w ao l) : heldDs w' ao l := by
  rcases h with h | ⟨b, off, h, k⟩
  · exact .inl h
  · exact .inr ⟨b, off, h, deedsAt_on hb k⟩
/-- a deed: what it makes of the number and the rows -/
def stepR (p : Int × (ByteArray → List Ver)) (l : List Chg) : Int × (ByteArray → List Ver) := if deedFault l = 0 then (p.1 + 1, applyR p.2 (p.1 + 1) l) else p
def stepsR (p : Int × (ByteArray → List Ver)) (l : List Dd) : Int × (ByteArray → List Ver) := l.foldl (fun p d => stepR p d.chs) p
theorem stepsR_snoc (p : Int × (ByteArray → List Ver)) (l : List Dd) (d : Dd) : stepsR p (l ++ [d]) = stepR (stepsR p l) d.chs := by simp [stepsR]
/-- within bounds -/
def smallR (m : Nat) (p : Int × (ByteArray → List Ver)) : Prop := 0 ≤ p.1 ∧ p.1 ≤ (m : Int) ∧ ∀ key, (p.2 key).length ≤ m
theorem smallR.step {m : Nat} {p : Int × (ByteArray → List Ver)} (h : smallR m p) (l : List Chg) (hl : l.length ≤ 1000) : smallR (m + 1001) (stepR p l) := by
  obtain ⟨h1, h2, h3⟩ := h
  unfold stepR
  split
  · refine ⟨by show 0 ≤ p.1 + 1; omega, by show p.1 + 1 ≤ _; omega, fun key => ?_⟩
    have := applyR_len (p.1 + 1) key l p.2
    have := h3 key
    show (applyR p.2 (p.1 + 1) l key).length ≤ _
    omega
  · exact ⟨h1, by omega, fun key => by have := h3 key; omega⟩
theorem smallR.mono {m k : Nat} {p : Int × (ByteArray → List Ver)} (h : smallR m p) (hk : m ≤ k) : smallR k p := ⟨h.1, by have := h.2.1; omega, fun key => Nat.le_trans (h.2.2 key) hk⟩

theorem commit_any (l : List Chg) (ao : Option Addr) (cap : Nat) {B vb mb n : Nat} {p : Int × (ByteArray → List Ver)} {D : DataW Value} {g : ByteArray → Value} (w : World) (h : VS w B vb mb p.1 n D g p.2) (hB : B ≤ w.heap.size)
    (hl : heldCh w ao l) (hn : l.length ≤ 1000) (hk : ∀ c ∈ l, c.key.size ≤ 1000000) (hoff : l ≠ [] → ∀ b off, ao = some ⟨b, off, none⟩ → ¬ inVS vb mb g b) (hp : smallR 1000000 p) (hn2 : n ≤ 1000000) :
    Calls Try.prog 8 #[.pointer (some ⟨vb, 0, none⟩), .slice ao l.length cap] w fun e w' => ∃ v, e = .returned v ∧ (∃ a b, v = .tuple #[a, b]) ∧ ∃ D' g' n', n' ≤ n + l.length ∧ VS w' B vb mb (stepR p l).1 n' D' g' (stepR p l).2 ∧ Below B w w' ∧ (∀ j, j < w.heap.size → ¬ inVS vb mb g j → w'.heap[j]? = w.heap[j]? ∧ ¬ inVS vb mb g' j) := by
  by_cases hf : deedFault l = 0
  · refine (commit_good l ao cap w h hB hl hn hk hoff hp.1 hp.2.1 hn2 hp.2.2 hf).mono ?_
    rintro e w' ⟨rfl, D', g', hv, hb, hfar⟩
    have e : stepR p l = (p.1 + 1, applyR p.2 (p.1 + 1) l) := if_pos hf
    rw [e]
    exact ⟨_, rfl, ⟨_, _, rfl⟩, D', g', _, Nat.le_refl _, hv, hb, hfar⟩
  · refine (commit_bad l ao cap vb w hl hn hk hf).mono ?_
    rintro e w' ⟨rfl, hb⟩
    have e : stepR p l = p := if_neg hf
    rw [e]
    exact ⟨_, rfl, ⟨_, _, rfl⟩, D, g, n, by omega, h.on hb, hb.mono hB, fun j hj hn => ⟨hb.block j hj, hn⟩⟩

def lightDs (ds : List Dd) : Prop := ds.length ≤ 100 ∧ ∀ d ∈ ds, d.chs.length ≤ 1000 ∧ ∀ c ∈ d.chs, c.key.size ≤ 1000000
theorem initR_len (l : List (ByteArray × ByteArray)) (key : ByteArray) : (initR l key).length ≤ 1 := by
  unfold initR
  have : ∀ (l : List (ByteArray × ByteArray)) (R : ByteArray → List Ver), (R key).length ≤ 1 → ((l.foldl (fun R r => putG R r.1 [⟨0, r.2, false⟩]) R) key).length ≤ 1 := by
    intro l
    induction l with
    | nil => exact fun R h => h
    | cons r l ih =>
      intro R h
      refine ih _ ?_
      by_cases e : key = r.1
      · simp [putG, e]
      · simp [putG, e]; exact h
  exact this l _ (by simp)
/-- one deed more, of deeds that lie below -/
theorem commit_at {w0 wr : World} {ds : List Dd} {b off k : Nat} (hd : deedsAt w0 b off ds) (hl : lightDs ds) (hk : k < ds.length) (hb : Below w0.heap.size w0 wr) {B vb mb n : Nat} {p : Int × (ByteArray → List Ver)} {D : DataW Value} {g : ByteArray → Value} (hB : w0.heap.size ≤ B) (hB2 : B ≤ wr.heap.size) (h : VS wr B vb mb p.1 n D g p.2) (hp : smallR 1000000 p) (hn : n ≤ 1000000) :
    Calls Try.prog 8 #[.pointer (some ⟨vb, 0, none⟩), .slice ds[k].ao ds[k].chs.length ds[k].cap] wr fun e w' => ∃ v, e = .returned v ∧ (∃ a b, v = .tuple #[a, b]) ∧ ∃ D' g' n', n' ≤ n + ds[k].chs.length ∧ VS w' B vb mb (stepR p ds[k].chs).1 n' D' g' (stepR p ds[k].chs).2 ∧ Below B wr w' ∧ (∀ j, j < wr.heap.size → ¬ inVS vb mb g j → w'.heap[j]? = wr.heap[j]? ∧ ¬ inVS vb mb g' j) := by
  have hm := hl.2 _ (List.getElem_mem hk)
  refine commit_any _ _ _ wr h hB2 (heldCh_on hb (hd k hk).2) hm.1 hm.2 (fun hne b' off' e hin => ?_) hp hn
  rcases (hd k hk).2 with e0 | ⟨b1, off1, e1, hc⟩
  · exact hne e0
  · rw [e1] at e
    cases e
    have hlt : b' < w0.heap.size := World.block_lt_of_cell? _ _ (hc 0 (List.length_pos_iff.2 hne)).1
    rcases hin with e2 | e2 | ⟨key, e2⟩
    · have := h.lov; omega
    · have := h.lom; omega
    · have := (World.ownsRow.lt (h.rows key) _ e2).1; omega
/-- versions behind rows and deeds -/
def GrownAt (B : Nat) (w' : World) (vb : Nat) (p : Int × (ByteArray → List Ver)) : Prop := ∃ mb n D g, n ≤ 102000 ∧ VS w' B vb mb p.1 n D g p.2 ∧ smallR 200000 p
end Go.Proofs.Ytpbhcjkllfonhaa
