/-
  A history, and three rows of the law's own beside it, as they lie in memory, apart of each other. Nothing of the program's functions is named here.
-/
import Derived.Test.YtdepcjnbiceciabCertMem
import Derived.Test.YtdepcjnbiceciabCertSaysL
import Derived.Deep.Onto
namespace Go.Proofs.Ytdepcjnbiceciab
open Go.RowKit Go.Joins

def ownI (w : World) (B : Nat) (v : Value) (l : List Int) : Prop := w.ownsRow B 3 1 v l.length (l.map (Value.int .i64))
def ownT (w : World) (B : Nat) (v : Value) (l : List ByteArray) : Prop := w.ownsRow B 9 1 v l.length (l.map Value.string)
def apartV (a b : Value) : Prop := ∀ k, a.ownBlock = some k → b.ownBlock ≠ some k
theorem apartV.symm {a b : Value} (h : apartV a b) : apartV b a := fun k h1 h2 => h k h2 h1
theorem apart_nil (b : Value) : apartV (.slice none 0 0) b := fun k h => by simp [Value.ownBlock] at h
theorem own_far {w w1 : World} {B : Nat} {e : TypeId} {size : Nat} {v u : Value} {n : Nat} {xs : List Value} (h : w.ownsRow B e size v n xs) (hg : w.grownBy w1 u.ownBlock) (ha : apartV v u) : w1.ownsRow B e size v n xs :=
  own_block h fun k hk => hg.block k (h.lt k hk).2 (fun e => ha k hk e.symm)
theorem int_info : (Try.prog.info? 3).map (fun i => (i.zero, i.size, i.bytes)) = some (some (.int .i64 0), 1, 8) := by kernel_rfl
theorem text_info : (Try.prog.info? 9).map (fun i => (i.zero, i.size, i.bytes)) = some (some (.string ⟨#[]⟩), 1, 16) := by kernel_rfl
theorem ownI_form {w : World} {B : Nat} {v : Value} {l : List Int} (h : ownI w B v l) :
    (v = .slice none 0 0 ∧ l = []) ∨ ∃ g cap, v = .slice (some ⟨g, 0, none⟩) l.length cap ∧ l.length ≤ cap ∧ ∀ i (hi : i < l.length), w.cell? ⟨g, i, none⟩ = some (.int .i64 l[i]) := by
  rcases own_form h with ⟨hv, h0⟩ | ⟨g, cap, hv, h1, h2, h3, h4⟩
  · exact .inl ⟨hv, List.length_eq_zero_iff.1 h0⟩
  · refine .inr ⟨g, cap, hv, h3, fun i hi => ?_⟩
    unfold ownI at h
    rw [hv] at h
    have := h.cellAt i (by omega)
    rw [this]
    simp [hi]
theorem ownT_form {w : World} {B : Nat} {v : Value} {l : List ByteArray} (h : ownT w B v l) :
    (v = .slice none 0 0 ∧ l = []) ∨ ∃ g cap, v = .slice (some ⟨g, 0, none⟩) l.length cap ∧ l.length ≤ cap ∧ ∀ i (hi : i < l.length), w.cell? ⟨g, i, none⟩ = some (.string l[i]) := by
  rcases own_form h with ⟨hv, h0⟩ | ⟨g, cap, hv, h1, h2, h3, h4⟩
  · exact .inl ⟨hv, List.length_eq_zero_iff.1 h0⟩
  · refine .inr ⟨g, cap, hv, h3, fun i hi => ?_⟩
    unfold ownT at h
    rw [hv] at h
    have := h.cellAt i (by omega)
    rw [this]
    simp [hi]

structure CSt (w : World) (B hb : Nat) (v : Value) (dv : List (DeedL × Value)) (va vk vd : Value) (qs : List (Int × ByteArray)) (D : List Int) : Prop where
  hist : HistAt w B hb v dv
  at_ : ownI w B va (qs.map (·.1))
  keys : ownT w B vk (qs.map (·.2))
  deeds : ownI w B vd D
  ha : ∀ k, va.ownBlock = some k → ¬ inH hb v dv k
  hk : ∀ k, vk.ownBlock = some k → ¬ inH hb v dv k
  hd : ∀ k, vd.ownBlock = some k → ¬ inH hb v dv k
  ak : apartV va vk
  ad : apartV va vd
  kd : apartV vk vd
theorem CSt.on {w w' : World} {B hb : Nat} {v : Value} {dv : List (DeedL × Value)} {va vk vd : Value} {qs : List (Int × ByteArray)} {D : List Int} (h : CSt w B hb v dv va vk vd qs D) (hb' : Below w.heap.size w w') : CSt w' B hb v dv va vk vd qs D :=
  ⟨h.hist.on hb', own_on h.at_ hb', own_on h.keys hb', own_on h.deeds hb', h.ha, h.hk, h.hd, h.ak, h.ad, h.kd⟩
/-- the history turned, the rows as they were -/
theorem CSt.turn {w w' : World} {B hb : Nat} {v v' : Value} {dv dv' : List (DeedL × Value)} {va vk vd : Value} {qs : List (Int × ByteArray)} {D : List Int} (h : CSt w B hb v dv va vk vd qs D) (hH : HistAt w' B hb v' dv')
    (hf : ∀ j, j < w.heap.size → ¬ inH hb v dv j → w'.heap[j]? = w.heap[j]? ∧ ¬ inH hb v' dv' j) : CSt w' B hb v' dv' va vk vd qs D where
  hist := hH
  at_ := own_block h.at_ fun k hk => (hf k (World.ownsRow.lt h.at_ k hk).2 (h.ha k hk)).1
  keys := own_block h.keys fun k hk => (hf k (World.ownsRow.lt h.keys k hk).2 (h.hk k hk)).1
  deeds := own_block h.deeds fun k hk => (hf k (World.ownsRow.lt h.deeds k hk).2 (h.hd k hk)).1
  ha := fun k hk => (hf k (World.ownsRow.lt h.at_ k hk).2 (h.ha k hk)).2
  hk := fun k hk => (hf k (World.ownsRow.lt h.keys k hk).2 (h.hk k hk)).2
  hd := fun k hk => (hf k (World.ownsRow.lt h.deeds k hk).2 (h.hd k hk)).2
  ak := h.ak
  ad := h.ad
  kd := h.kd
theorem hist_far {w w1 : World} {B hb : Nat} {v : Value} {dv : List (DeedL × Value)} {u : Value} (h : HistAt w B hb v dv) (hg : w.grownBy w1 u.ownBlock) (hu : ∀ k, u.ownBlock = some k → ¬ inH hb v dv k) : HistAt w1 B hb v dv :=
  h.kept fun k hk => hg.block k (inH_lt h hk) (fun e => hu k e.symm hk)
/-- where an appended row lies: as before, or behind all -/
theorem app_apart {u x : Value} {g H : Nat} {n cap : Nat} (hat : u.ownBlock = some g ∨ g = H) (hu : apartV u x) (hx : ∀ k, x.ownBlock = some k → k < H) : apartV (.slice (some ⟨g, 0, none⟩) n cap) x := fun k h1 h2 => by
  simp [Value.ownBlock] at h1
  subst h1
  rcases hat with e | e
  · exact hu _ e h2
  · have := hx _ h2; omega
theorem app_hist {w : World} {B hb : Nat} {v : Value} {dv : List (DeedL × Value)} (h : HistAt w B hb v dv) {u : Value} {g H n cap : Nat} (hat : u.ownBlock = some g ∨ g = H) (hu : ∀ k, u.ownBlock = some k → ¬ inH hb v dv k) (hH : w.heap.size ≤ H) : ∀ k, (Value.slice (some ⟨g, 0, none⟩) n cap).ownBlock = some k → ¬ inH hb v dv k := fun k h1 h2 => by
  simp [Value.ownBlock] at h1
  subst h1
  rcases hat with e | e
  · exact hu _ e h2
  · have := inH_lt h h2; omega
/-- one more deed's number -/
theorem CSt.pushD {W w1 : World} {B hb : Nat} {v : Value} {dv : List (DeedL × Value)} {va vk vd : Value} {qs : List (Int × ByteArray)} {D : List Int} (h : CSt W B hb v dv va vk vd qs D) {g cap : Nat} {x : Int} (hg : W.grownBy w1 vd.ownBlock)
    (ho : w1.ownsRow B 3 1 (.slice (some ⟨g, 0, none⟩) (D.length + 1) cap) (D.length + 1) (D.map (Value.int .i64) ++ [.int .i64 x])) (hat : vd.ownBlock = some g ∨ g = W.heap.size) :
    CSt w1 B hb v dv va vk (.slice (some ⟨g, 0, none⟩) (D.length + 1) cap) qs (D ++ [x]) where
  hist := hist_far h.hist hg h.hd
  at_ := own_far h.at_ hg h.ad
  keys := own_far h.keys hg h.kd
  deeds := by unfold ownI; simpa using ho
  ha := h.ha
  hk := h.hk
  hd := app_hist h.hist hat h.hd (Nat.le_refl _)
  ak := h.ak
  ad := (app_apart hat h.ad.symm fun k hk => (World.ownsRow.lt h.at_ k hk).2).symm
  kd := (app_apart hat h.kd.symm fun k hk => (World.ownsRow.lt h.keys k hk).2).symm
/-- a state in the midst of two appends: the numbers, and the keys, have lists of their own -/
structure CSm (w : World) (B hb : Nat) (v : Value) (dv : List (DeedL × Value)) (va vk vd : Value) (A : List Int) (K : List ByteArray) (D : List Int) : Prop where
  hist : HistAt w B hb v dv
  at_ : ownI w B va A
  keys : ownT w B vk K
  deeds : ownI w B vd D
  ha : ∀ k, va.ownBlock = some k → ¬ inH hb v dv k
  hk : ∀ k, vk.ownBlock = some k → ¬ inH hb v dv k
  hd : ∀ k, vd.ownBlock = some k → ¬ inH hb v dv k
  ak : apartV va vk
  ad : apartV va vd
  kd : apartV vk vd
theorem CSm.on {w w' : World} {B hb : Nat} {v : Value} {dv : List (DeedL × Value)} {va vk vd : Value} {A : List Int} {K : List ByteArray} {D : List Int} (h : CSm w B hb v dv va vk vd A K D) (hb' : Below w.heap.size w w') : CSm w' B hb v dv va vk vd A K D :=
  ⟨h.hist.on hb', own_on h.at_ hb', own_on h.keys hb', own_on h.deeds hb', h.ha, h.hk, h.hd, h.ak, h.ad, h.kd⟩
theorem CSt.mid {w : World} {B hb : Nat} {v : Value} {dv : List (DeedL × Value)} {va vk vd : Value} {qs : List (Int × ByteArray)} {D : List Int} (h : CSt w B hb v dv va vk vd qs D) : CSm w B hb v dv va vk vd (qs.map (·.1)) (qs.map (·.2)) D :=
  ⟨h.hist, h.at_, h.keys, h.deeds, h.ha, h.hk, h.hd, h.ak, h.ad, h.kd⟩
theorem CSm.done {w : World} {B hb : Nat} {v : Value} {dv : List (DeedL × Value)} {va vk vd : Value} {A : List Int} {K : List ByteArray} {D : List Int} (h : CSm w B hb v dv va vk vd A K D) {qs : List (Int × ByteArray)} (e1 : A = qs.map (·.1)) (e2 : K = qs.map (·.2)) : CSt w B hb v dv va vk vd qs D :=
  ⟨h.hist, e1 ▸ h.at_, e2 ▸ h.keys, h.deeds, h.ha, h.hk, h.hd, h.ak, h.ad, h.kd⟩
theorem CSm.pushD {W w1 : World} {B hb : Nat} {v : Value} {dv : List (DeedL × Value)} {va vk vd : Value} {A : List Int} {K : List ByteArray} {D : List Int} (h : CSm W B hb v dv va vk vd A K D) {g cap : Nat} {x : Int} (hg : W.grownBy w1 vd.ownBlock)
    (ho : w1.ownsRow B 3 1 (.slice (some ⟨g, 0, none⟩) (D.length + 1) cap) (D.length + 1) (D.map (Value.int .i64) ++ [.int .i64 x])) (hat : vd.ownBlock = some g ∨ g = W.heap.size) :
    CSm w1 B hb v dv va vk (.slice (some ⟨g, 0, none⟩) (D.length + 1) cap) A K (D ++ [x]) where
  hist := hist_far h.hist hg h.hd
  at_ := own_far h.at_ hg h.ad
  keys := own_far h.keys hg h.kd
  deeds := by unfold ownI; simpa using ho
  ha := h.ha
  hk := h.hk
  hd := app_hist h.hist hat h.hd (Nat.le_refl _)
  ak := h.ak
  ad := (app_apart hat h.ad.symm fun k hk => (World.ownsRow.lt h.at_ k hk).2).symm
  kd := (app_apart hat h.kd.symm fun k hk => (World.ownsRow.lt h.keys k hk).2).symm
theorem CSm.pushA {W w1 : World} {B hb : Nat} {v : Value} {dv : List (DeedL × Value)} {va vk vd : Value} {A : List Int} {K : List ByteArray} {D : List Int} (h : CSm W B hb v dv va vk vd A K D) {g cap : Nat} {x : Int} (hg : W.grownBy w1 va.ownBlock)
    (ho : w1.ownsRow B 3 1 (.slice (some ⟨g, 0, none⟩) (A.length + 1) cap) (A.length + 1) (A.map (Value.int .i64) ++ [.int .i64 x])) (hat : va.ownBlock = some g ∨ g = W.heap.size) :
    CSm w1 B hb v dv (.slice (some ⟨g, 0, none⟩) (A.length + 1) cap) vk vd (A ++ [x]) K D where
  hist := hist_far h.hist hg h.ha
  at_ := by unfold ownI; simpa using ho
  keys := own_far h.keys hg h.ak.symm
  deeds := own_far h.deeds hg h.ad.symm
  ha := app_hist h.hist hat h.ha (Nat.le_refl _)
  hk := h.hk
  hd := h.hd
  ak := app_apart hat h.ak fun k hk => (World.ownsRow.lt h.keys k hk).2
  ad := app_apart hat h.ad fun k hk => (World.ownsRow.lt h.deeds k hk).2
  kd := h.kd
theorem CSm.pushK {W w1 : World} {B hb : Nat} {v : Value} {dv : List (DeedL × Value)} {va vk vd : Value} {A : List Int} {K : List ByteArray} {D : List Int} (h : CSm W B hb v dv va vk vd A K D) {g cap : Nat} {x : ByteArray} (hg : W.grownBy w1 vk.ownBlock)
    (ho : w1.ownsRow B 9 1 (.slice (some ⟨g, 0, none⟩) (K.length + 1) cap) (K.length + 1) (K.map Value.string ++ [.string x])) (hat : vk.ownBlock = some g ∨ g = W.heap.size) :
    CSm w1 B hb v dv va (.slice (some ⟨g, 0, none⟩) (K.length + 1) cap) vd A (K ++ [x]) D where
  hist := hist_far h.hist hg h.hk
  at_ := own_far h.at_ hg h.ak
  keys := by unfold ownT; simpa using ho
  deeds := own_far h.deeds hg h.kd.symm
  ha := h.ha
  hk := app_hist h.hist hat h.hk (Nat.le_refl _)
  hd := h.hd
  ak := (app_apart hat h.ak.symm fun k hk => (World.ownsRow.lt h.at_ k hk).2).symm
  ad := h.ad
  kd := app_apart hat h.kd fun k hk => (World.ownsRow.lt h.deeds k hk).2
/-- a block beside the rows -/
structure Zed (w : World) (z : Nat) (C : Array Value) (t : TypeId) (va vk vd : Value) : Prop where
  blk : w.heap[z]? = some (.cells C t (0, 0))
  a : va.ownBlock ≠ some z
  k : vk.ownBlock ≠ some z
  d : vd.ownBlock ≠ some z
theorem Zed.cell {w : World} {z : Nat} {C : Array Value} {t : TypeId} {va vk vd : Value} (h : Zed w z C t va vk vd) {j : Nat} {u : Value} (hj : C[j]? = some u) : w.cell? ⟨z, j, none⟩ = some u := (cell_of_block h.blk j).trans hj
theorem Zed.lt {w : World} {z : Nat} {C : Array Value} {t : TypeId} {va vk vd : Value} (h : Zed w z C t va vk vd) : z < w.heap.size := by
  rcases Nat.lt_or_ge z w.heap.size with h' | h'
  · exact h'
  · have := h.blk; rw [Array.getElem?_eq_none h'] at this; cases this
theorem Zed.on {w w' : World} {z : Nat} {C : Array Value} {t : TypeId} {va vk vd : Value} (h : Zed w z C t va vk vd) (hb : Below w.heap.size w w') : Zed w' z C t va vk vd := ⟨(hb.block z h.lt).trans h.blk, h.a, h.k, h.d⟩
theorem app_ne {u : Value} {g H z n cap : Nat} (hat : u.ownBlock = some g ∨ g = H) (hu : u.ownBlock ≠ some z) (hz : z < H) : (Value.slice (some ⟨g, 0, none⟩) n cap).ownBlock ≠ some z := fun e => by
  simp [Value.ownBlock] at e
  subst e
  rcases hat with e | e
  · exact hu e
  · omega
theorem Zed.pushA {W w1 : World} {z : Nat} {C : Array Value} {t : TypeId} {va vk vd : Value} (h : Zed W z C t va vk vd) (hg : W.grownBy w1 va.ownBlock) {g n cap : Nat} (hat : va.ownBlock = some g ∨ g = W.heap.size) : Zed w1 z C t (.slice (some ⟨g, 0, none⟩) n cap) vk vd :=
  ⟨(hg.block z h.lt (Ne.symm h.a)).trans h.blk, app_ne hat h.a h.lt, h.k, h.d⟩
theorem Zed.pushK {W w1 : World} {z : Nat} {C : Array Value} {t : TypeId} {va vk vd : Value} (h : Zed W z C t va vk vd) (hg : W.grownBy w1 vk.ownBlock) {g n cap : Nat} (hat : vk.ownBlock = some g ∨ g = W.heap.size) : Zed w1 z C t va (.slice (some ⟨g, 0, none⟩) n cap) vd :=
  ⟨(hg.block z h.lt (Ne.symm h.k)).trans h.blk, h.a, app_ne hat h.k h.lt, h.d⟩
theorem Zed.pushD {W w1 : World} {z : Nat} {C : Array Value} {t : TypeId} {va vk vd : Value} (h : Zed W z C t va vk vd) (hg : W.grownBy w1 vd.ownBlock) {g n cap : Nat} (hat : vd.ownBlock = some g ∨ g = W.heap.size) : Zed w1 z C t va vk (.slice (some ⟨g, 0, none⟩) n cap) :=
  ⟨(hg.block z h.lt (Ne.symm h.d)).trans h.blk, h.a, h.k, app_ne hat h.d h.lt⟩
theorem below_push {B : Nat} {w0 W w1 : World} {e : TypeId} {size n : Nat} {v : Value} {xs : List Value} (hB : Below B w0 W) (hw : B ≤ W.heap.size) (ho : W.ownsRow B e size v n xs) (hg : W.grownBy w1 v.ownBlock) : Below B w0 w1 := hB.grown hg hw fun k hk => (ho.lt k hk).1
/-- rows of pairs: the numbers, the keys -/
def ownQA (w : World) (B : Nat) (v : Value) (F : List (Int × ByteArray)) : Prop := w.ownsRow B 3 1 v F.length (F.map fun q => Value.int .i64 q.1)
def ownQK (w : World) (B : Nat) (v : Value) (F : List (Int × ByteArray)) : Prop := w.ownsRow B 9 1 v F.length (F.map fun q => Value.string q.2)
theorem ownQA_iff {w : World} {B : Nat} {v : Value} {F : List (Int × ByteArray)} : ownQA w B v F ↔ ownI w B v (F.map (·.1)) := by
  unfold ownQA ownI; rw [List.length_map, List.map_map]; exact Iff.rfl
theorem ownQK_iff {w : World} {B : Nat} {v : Value} {F : List (Int × ByteArray)} : ownQK w B v F ↔ ownT w B v (F.map (·.2)) := by
  unfold ownQK ownT; rw [List.length_map, List.map_map]; exact Iff.rfl
theorem readQA {w : World} {B : Nat} {v : Value} {F : List (Int × ByteArray)} (h : ownQA w B v F) : ∃ ao cap, v = .slice ao F.length cap ∧ (F = [] ∨ ∃ g, ao = some ⟨g, 0, none⟩ ∧ ∀ i (hi : i < F.length), w.cell? ⟨g, i, none⟩ = some (.int .i64 F[i].1)) := by
  rcases own_form h with ⟨hv, h0⟩ | ⟨g, cap, hv, _⟩
  · have e : F = [] := List.length_eq_zero_iff.1 h0
    subst e
    exact ⟨none, 0, hv, .inl rfl⟩
  · refine ⟨_, cap, hv, .inr ⟨g, rfl, fun i hi => ?_⟩⟩
    unfold ownQA at h
    rw [hv] at h
    rw [h.cellAt i (by omega)]
    simp [hi]
theorem readQK {w : World} {B : Nat} {v : Value} {F : List (Int × ByteArray)} (h : ownQK w B v F) : ∃ ao cap, v = .slice ao F.length cap ∧ (F = [] ∨ ∃ g, ao = some ⟨g, 0, none⟩ ∧ ∀ i (hi : i < F.length), w.cell? ⟨g, i, none⟩ = some (.string F[i].2)) := by
  rcases own_form h with ⟨hv, h0⟩ | ⟨g, cap, hv, _⟩
  · have e : F = [] := List.length_eq_zero_iff.1 h0
    subst e
    exact ⟨none, 0, hv, .inl rfl⟩
  · refine ⟨_, cap, hv, .inr ⟨g, rfl, fun i hi => ?_⟩⟩
    unfold ownQK at h
    rw [hv] at h
    rw [h.cellAt i (by omega)]
    simp [hi]
theorem readI {w : World} {B : Nat} {v : Value} {F : List Int} (h : ownI w B v F) : ∃ ao cap, v = .slice ao F.length cap ∧ (F = [] ∨ ∃ g, ao = some ⟨g, 0, none⟩ ∧ ∀ i (hi : i < F.length), w.cell? ⟨g, i, none⟩ = some (.int .i64 F[i])) := by
  rcases ownI_form h with ⟨hv, e⟩ | ⟨g, cap, hv, _, hc⟩
  · subst e
    exact ⟨none, 0, hv, .inl rfl⟩
  · exact ⟨_, cap, hv, .inr ⟨g, rfl, hc⟩⟩
/-- new rows in the old ones' stead -/
theorem cs_new {w2 w3 wj : World} {B hb : Nat} {v2 : Value} {dv2 : List (DeedL × Value)} {vx vz vy : Value} {qs : List (Int × ByteArray)} {D : List Int} (hH : HistAt w2 B hb v2 dv2) (hB : B ≤ w2.heap.size) (h3 : Below w2.heap.size w2 w3) (hj : Below w3.heap.size w3 wj)
    (hx : ownQA w3 w2.heap.size vx qs) (hz : ownQK w3 w2.heap.size vz qs) (hxz : apartV vx vz) (hy : ownI wj w3.heap.size vy D) : CSt wj B hb v2 dv2 vx vz vy qs D where
  hist := (hH.on h3).on hj
  at_ := ownQA_iff.1 (World.ownsRow.mono (own_on hx hj) hB)
  keys := ownQK_iff.1 (World.ownsRow.mono (own_on hz hj) hB)
  deeds := World.ownsRow.mono hy (Nat.le_trans hB h3.size)
  ha := fun k hk e => by have := inH_lt hH e; have := (World.ownsRow.lt hx k hk).1; omega
  hk := fun k hk e => by have := inH_lt hH e; have := (World.ownsRow.lt hz k hk).1; omega
  hd := fun k hk e => by have := inH_lt hH e; have := (World.ownsRow.lt hy k hk).1; have := h3.size; omega
  ak := hxz
  ad := fun k hk e => by have := (World.ownsRow.lt hx k hk).2; have := (World.ownsRow.lt hy k e).1; omega
  kd := fun k hk e => by have := (World.ownsRow.lt hz k hk).2; have := (World.ownsRow.lt hy k e).1; omega
end Go.Proofs.Ytdepcjnbiceciab
