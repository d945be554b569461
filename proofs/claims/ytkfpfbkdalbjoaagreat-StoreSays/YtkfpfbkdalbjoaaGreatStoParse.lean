/-
  What store.parseRoot returns of a root's sector, and of noughts.
-/
import Derived.Test.YtkfpfbkdalbjoaaGreatStoRoot
import Derived.Test.YtkfpfbkdalbjoaaGreatShelfS
namespace Go.Proofs.YtkfpfbkdalbjoaaGreat
open Go.RowKit Go.Joins
attribute [local go_sem ↓] Go.wp_at_zero Go.wp_at_succ

theorem keep3' {W : World} {b : Nat} {x y z a0 a1 a2 : Value} (h0 : W.cell? ⟨b, 0, none⟩ = some a0) (h1 : W.cell? ⟨b, 1, none⟩ = some a1) (h2 : W.cell? ⟨b, 2, none⟩ = some a2) :
    (((W.setCell ⟨b, 0, none⟩ x).setCell ⟨b, 1, none⟩ y).setCell ⟨b, 2, none⟩ z).cell? ⟨b, 0, none⟩ = some x ∧ (((W.setCell ⟨b, 0, none⟩ x).setCell ⟨b, 1, none⟩ y).setCell ⟨b, 2, none⟩ z).cell? ⟨b, 1, none⟩ = some y ∧ (((W.setCell ⟨b, 0, none⟩ x).setCell ⟨b, 1, none⟩ y).setCell ⟨b, 2, none⟩ z).cell? ⟨b, 2, none⟩ = some z := by
  refine ⟨?_, ?_, ?_⟩ <;> simp [go_sem, h0, h1, h2]
theorem or_bytes (lo hi : Nat) (hlo : lo ≤ 255) (hhi : hi ≤ 8) : bits .or .i64 (lo : Int) ((hi : Int) * 256) = ((hi * 256 + lo : Nat) : Int) := by
  have e1 : ((lo : Int) % ((2 ^ 64 : Nat) : Int)).toNat = lo := by omega
  have e2 : (((hi : Int) * 256) % ((2 ^ 64 : Nat) : Int)).toNat = hi * 256 := by omega
  have e3 : lo ||| hi * 256 = hi * 256 + lo := by
    have := Nat.shiftLeft_add_eq_or_of_lt (b := lo) (i := 8) (by omega) hi
    rw [Nat.shiftLeft_eq] at this
    rw [Nat.or_comm]
    exact this.symm
  show IntKind.i64.wrap (((BitVec.ofInt 64 (lo : Int)) ||| (BitVec.ofInt 64 ((hi : Int) * 256))).toNat : Int) = _
  rw [BitVec.toNat_or, BitVec.toNat_ofInt, BitVec.toNat_ofInt, e1, e2, e3]
  simp [IntKind.wrap, IntKind.bits]
  omega
set_option maxRecDepth 8000 in
set_option maxHeartbeats 1000000 in
theorem rootp_any (t r : ByteArray) (area first lo hi : Nat) (hp : Lib.hasPrefix t.data.toList headR.data.toList = true) (hr : ⟨(Lib.trimPrefix t.data.toList headR.data.toList).toArray⟩ = r) (h4 : 4 ≤ r.size) (hs : r.size ≤ 96) (h0 : r[0].toNat = area) (h1 : r[1].toNat = first) (h2 : r[2].toNat = lo) (h3 : r[3].toNat = hi) (ha : area ≤ 1) (hf : 1 ≤ first) (hf2 : first ≤ 255) (hlo : lo ≤ 255) (hhi : hi ≤ 8) (w : World) (hsz : hi * 256 + lo ≤ 2304) :
    Calls Tryz.prog 32 #[.string t] w fun e w' => e = .returned (.tuple #[.agg #[.int .i64 (area : Int), .int .i64 (first : Int), .int .i64 ((hi * 256 + lo : Nat) : Int)], .bool true]) ∧ Below w.heap.size w w' := by
  have hc : ∀ w, Calls Tryz.prog 54 #[.string t, .string headR] w fun e w' => e = .returned (.tuple #[.string r, .bool true]) ∧ w' = w := by
    rw [← hr, ← hp]; exact Tryz.strings_CutPrefix t headR
  unfold headR at hc
  have HC := hide hc
  clear hc hp hr
  have i4 : (4 : Int) ≤ (r.size : Int) := by omega
  have g0 : 0 < r.size := by omega
  have g00 : (0 : Int) < (r.size : Int) := by omega
  have wa : IntKind.i64.wrap (area : Int) = area := by simp [IntKind.wrap, IntKind.bits]; omega
  have wf : IntKind.i64.wrap (first : Int) = first := by simp [IntKind.wrap, IntKind.bits]; omega
  have wl : IntKind.i64.wrap (lo : Int) = lo := by simp [IntKind.wrap, IntKind.bits]; omega
  have wh : IntKind.i64.wrap (hi : Int) = hi := by simp [IntKind.wrap, IntKind.bits]; omega
  have wk : IntKind.i64.wrap ((hi : Int) * 256) = (hi : Int) * 256 := by simp [IntKind.wrap, IntKind.bits]; omega
  have g1 : (1 : Int) < (r.size : Int) := by omega
  have g2 : (2 : Int) < (r.size : Int) := by omega
  have g3 : (3 : Int) < (r.size : Int) := by omega
  have a0 : (0 : Int) ≤ (area : Int) := by omega
  have a1 : (area : Int) ≤ 1 := by omega
  have f0 : (1 : Int) ≤ (first : Int) := by omega
  have f1 : (first : Int) ≤ 255 := by omega
  have l0 : (0 : Int) ≤ (lo : Int) := by omega
  have l1 : (lo : Int) ≤ 255 := by omega
  have k0 : (0 : Int) ≤ (hi : Int) := by omega
  have k1 : (hi : Int) ≤ 8 := by omega
  have HOR : Hid (bits .or .i64 (lo : Int) ((hi : Int) * 256) = ((hi * 256 + lo : Nat) : Int)) := or_bytes lo hi hlo hhi
  go_enter Tryz.func32, Tryz.ntmps32
  go_wp2_with (go_at_call 54; refine (HC.out _).mono ?_; rintro e w1 ⟨rfl, rfl⟩)
  refine wp_region_held_drew (S := fun _ => True) (by kernel_rfl) trivial (fun hHeld => ?_)
  refine wpAnyH_take (i := 0) (v := ?_) rfl (by kernel_rfl) (by kernel_rfl) (by kernel_rfl) (fun _ _ _ h => h) (Or.inl ⟨by rfl, ?_⟩) (by assumption) ?_
  rotate_left
  · intro w hSw
    go_simp
    try rfl
  simp only [Act.put, List.setIfInBounds_toArray, List.set_cons_zero, List.set_cons_succ, List.getElem_toArray, List.getElem_cons_zero]
  refine wpAnyH_take (i := 1) (v := ?_) rfl (by kernel_rfl) (by kernel_rfl) (by kernel_rfl) (fun _ _ _ h => h) (Or.inl ⟨by rfl, ?_⟩) (by assumption) ?_
  rotate_left
  · intro w hSw
    go_simp
    try rfl
  simp only [Act.put, List.setIfInBounds_toArray, List.set_cons_zero, List.set_cons_succ, List.getElem_toArray, List.getElem_cons_zero, List.getElem_cons_succ]
  refine wpAnyH_take (i := 2) (v := ?_) rfl (by kernel_rfl) (by kernel_rfl) (by kernel_rfl) (fun _ _ _ h => h) (Or.inl ⟨by rfl, ?_⟩) (by assumption) ?_
  rotate_left
  · intro w hSw
    go_simp
    try rfl
  simp only [Act.put, List.setIfInBounds_toArray, List.set_cons_zero, List.set_cons_succ, List.getElem_toArray, List.getElem_cons_zero, List.getElem_cons_succ]
  refine wpAnyH_take (i := 3) (v := ?_) rfl (by kernel_rfl) (by kernel_rfl) (by kernel_rfl) (fun _ _ _ h => h) (Or.inl ⟨by rfl, ?_⟩) (by assumption) ?_
  rotate_left
  · intro w hSw
    go_simp
    try rfl
  simp only [Act.put, List.setIfInBounds_toArray, List.set_cons_zero, List.set_cons_succ, List.getElem_toArray, List.getElem_cons_zero, List.getElem_cons_succ]
  refine wpAnyH_take (i := 4) (v := ?_) rfl (by kernel_rfl) (by kernel_rfl) (by kernel_rfl) (fun _ _ _ h => h) (Or.inl ⟨by rfl, ?_⟩) (by assumption) ?_
  rotate_left
  · intro w hSw
    go_simp
    try rfl
  simp only [Act.put, List.setIfInBounds_toArray, List.set_cons_zero, List.set_cons_succ, List.getElem_toArray, List.getElem_cons_zero, List.getElem_cons_succ]
  refine wpAnyH_take (i := 5) (v := ?_) rfl (by kernel_rfl) (by kernel_rfl) (by kernel_rfl) (fun _ _ _ h => h) (Or.inl ⟨by rfl, ?_⟩) (by assumption) ?_
  rotate_left
  · intro w hSw
    go_simp
    try rfl
  simp only [Act.put, List.setIfInBounds_toArray, List.set_cons_zero, List.set_cons_succ, List.getElem_toArray, List.getElem_cons_zero, List.getElem_cons_succ]
  refine wpAnyH_take (i := 6) (v := ?_) rfl (by kernel_rfl) (by kernel_rfl) (by kernel_rfl) (fun _ _ _ h => h) (Or.inl ⟨by rfl, ?_⟩) (by assumption) ?_
  rotate_left
  · intro w hSw
    go_simp
    try rfl
  simp only [Act.put, List.setIfInBounds_toArray, List.set_cons_zero, List.set_cons_succ, List.getElem_toArray, List.getElem_cons_zero, List.getElem_cons_succ]
  refine wpAnyH_take (i := 7) (v := ?_) rfl (by kernel_rfl) (by kernel_rfl) (by kernel_rfl) (fun _ _ _ h => h) (Or.inl ⟨by rfl, ?_⟩) (by assumption) ?_
  rotate_left
  · intro w hSw
    go_simp
    try rfl
  simp only [Act.put, List.setIfInBounds_toArray, List.set_cons_zero, List.set_cons_succ, List.getElem_toArray, List.getElem_cons_zero, List.getElem_cons_succ]
  refine wpAnyH_take (i := 8) (v := ?_) rfl (by kernel_rfl) (by kernel_rfl) (by kernel_rfl) (fun _ _ _ h => h) (Or.inl ⟨by rfl, ?_⟩) (by assumption) ?_
  rotate_left
  · intro w hSw
    go_simp
    try rfl
  simp only [Act.put, List.setIfInBounds_toArray, List.set_cons_zero, List.set_cons_succ, List.getElem_toArray, List.getElem_cons_zero, List.getElem_cons_succ]
  refine wpAnyH_take (i := 9) (v := ?_) rfl (by kernel_rfl) (by kernel_rfl) (by kernel_rfl) (fun _ _ _ h => h) (Or.inl ⟨by rfl, ?_⟩) (by assumption) ?_
  rotate_left
  · intro w hSw
    go_simp
    try rfl
  simp only [Act.put, List.setIfInBounds_toArray, List.set_cons_zero, List.set_cons_succ, List.getElem_toArray, List.getElem_cons_zero, List.getElem_cons_succ]
  refine wpAnyH_take (i := 10) (v := ?_) rfl (by kernel_rfl) (by kernel_rfl) (by kernel_rfl) (fun _ _ _ h => h) (Or.inl ⟨by rfl, ?_⟩) (by assumption) ?_
  rotate_left
  · intro w hSw
    go_simp
    try rfl
  simp only [Act.put, List.setIfInBounds_toArray, List.set_cons_zero, List.set_cons_succ, List.getElem_toArray, List.getElem_cons_zero, List.getElem_cons_succ]
  refine wpAnyH_take (i := 11) (v := ?_) rfl (by kernel_rfl) (by kernel_rfl) (by kernel_rfl) (fun _ _ _ h => h) (Or.inl ⟨by rfl, ?_⟩) (by assumption) ?_
  rotate_left
  · intro w hSw
    go_simp
    try rfl
  simp only [Act.put, List.setIfInBounds_toArray, List.set_cons_zero, List.set_cons_succ, List.getElem_toArray, List.getElem_cons_zero, List.getElem_cons_succ]
  refine wpAnyH_take (i := 12) (v := ?_) rfl (by kernel_rfl) (by kernel_rfl) (by kernel_rfl) (fun _ _ _ h => h) (Or.inl ⟨by rfl, ?_⟩) (by assumption) ?_
  rotate_left
  · intro w hSw
    go_simp
    try rfl
  simp only [Act.put, List.setIfInBounds_toArray, List.set_cons_zero, List.set_cons_succ, List.getElem_toArray, List.getElem_cons_zero, List.getElem_cons_succ]
  refine wpAnyH_take (i := 13) (v := ?_) rfl (by kernel_rfl) (by kernel_rfl) (by kernel_rfl) (fun _ _ _ h => h) (Or.inl ⟨by rfl, ?_⟩) (by assumption) ?_
  rotate_left
  · intro w hSw
    go_simp
    try rfl
  simp only [Act.put, List.setIfInBounds_toArray, List.set_cons_zero, List.set_cons_succ, List.getElem_toArray, List.getElem_cons_zero, List.getElem_cons_succ]
  refine wpAnyH_take (i := 14) (v := ?_) rfl (by kernel_rfl) (by kernel_rfl) (by kernel_rfl) (fun _ _ _ h => h) (Or.inl ⟨by rfl, ?_⟩) (by assumption) ?_
  rotate_left
  · intro w hSw
    go_simp
    try rfl
  simp only [Act.put, List.setIfInBounds_toArray, List.set_cons_zero, List.set_cons_succ, List.getElem_toArray, List.getElem_cons_zero, List.getElem_cons_succ]
  refine wpAnyH_ready (rs := [15]) (by kernel_rfl) (by simp) ?_
  refine AllReadyH.cons rfl (fun K hK => ?_) AllReadyH.nil
  go_simp
  refine hK.out _ _ trivial (fun hHeld => ?_)
  clear hK K
  refine wpAnyH_ready (rs := [16]) (by kernel_rfl) (by simp) ?_
  refine AllReadyH.cons rfl (fun K hK => ?_) AllReadyH.nil
  go_simp
  refine hK.out _ _ trivial (fun hHeld => ?_)
  clear hK K
  refine wpAnyH_done (by kernel_rfl) ?_ _
  rw [HOR.out]
  have q0 : (((w.alloc (Obj.cells #[Value.int IntKind.i64 0, Value.int IntKind.i64 0, Value.int IntKind.i64 0] 64)).alloc (Obj.cells #[Value.int IntKind.i64 (area : Int), Value.int IntKind.i64 (first : Int), Value.int IntKind.i64 ((hi * 256 + lo : Nat) : Int)] 64)).drew).cell? ⟨w.heap.size + 1, 0, none⟩ = some (.int .i64 (area : Int)) := by simp
  have q1 : (((w.alloc (Obj.cells #[Value.int IntKind.i64 0, Value.int IntKind.i64 0, Value.int IntKind.i64 0] 64)).alloc (Obj.cells #[Value.int IntKind.i64 (area : Int), Value.int IntKind.i64 (first : Int), Value.int IntKind.i64 ((hi * 256 + lo : Nat) : Int)] 64)).drew).cell? ⟨w.heap.size + 1, 1, none⟩ = some (.int .i64 (first : Int)) := by simp
  have q2 : (((w.alloc (Obj.cells #[Value.int IntKind.i64 0, Value.int IntKind.i64 0, Value.int IntKind.i64 0] 64)).alloc (Obj.cells #[Value.int IntKind.i64 (area : Int), Value.int IntKind.i64 (first : Int), Value.int IntKind.i64 ((hi * 256 + lo : Nat) : Int)] 64)).drew).cell? ⟨w.heap.size + 1, 2, none⟩ = some (.int .i64 ((hi * 256 + lo : Nat) : Int)) := by simp
  have p0 : (((w.alloc (Obj.cells #[Value.int IntKind.i64 0, Value.int IntKind.i64 0, Value.int IntKind.i64 0] 64)).alloc (Obj.cells #[Value.int IntKind.i64 (area : Int), Value.int IntKind.i64 (first : Int), Value.int IntKind.i64 ((hi * 256 + lo : Nat) : Int)] 64)).drew).cell? ⟨w.heap.size, 0, none⟩ = some (.int .i64 0) := by simp
  have p1 : (((w.alloc (Obj.cells #[Value.int IntKind.i64 0, Value.int IntKind.i64 0, Value.int IntKind.i64 0] 64)).alloc (Obj.cells #[Value.int IntKind.i64 (area : Int), Value.int IntKind.i64 (first : Int), Value.int IntKind.i64 ((hi * 256 + lo : Nat) : Int)] 64)).drew).cell? ⟨w.heap.size, 1, none⟩ = some (.int .i64 0) := by simp
  have p2 : (((w.alloc (Obj.cells #[Value.int IntKind.i64 0, Value.int IntKind.i64 0, Value.int IntKind.i64 0] 64)).alloc (Obj.cells #[Value.int IntKind.i64 (area : Int), Value.int IntKind.i64 (first : Int), Value.int IntKind.i64 ((hi * 256 + lo : Nat) : Int)] 64)).drew).cell? ⟨w.heap.size, 2, none⟩ = some (.int .i64 0) := by simp
  have pf : ∀ j, (((w.alloc (Obj.cells #[Value.int IntKind.i64 0, Value.int IntKind.i64 0, Value.int IntKind.i64 0] 64)).alloc (Obj.cells #[Value.int IntKind.i64 (area : Int), Value.int IntKind.i64 (first : Int), Value.int IntKind.i64 ((hi * 256 + lo : Nat) : Int)] 64)).drew).frozen? ⟨w.heap.size, j, none⟩ = false := fun j => frozen_on (below_alloc1 _ _).drew (by simp) (frozen_new w _ _ j)
  have HB : Hid (Below w.heap.size w (((w.alloc (Obj.cells #[Value.int IntKind.i64 0, Value.int IntKind.i64 0, Value.int IntKind.i64 0] 64)).alloc (Obj.cells #[Value.int IntKind.i64 (area : Int), Value.int IntKind.i64 (first : Int), Value.int IntKind.i64 ((hi * 256 + lo : Nat) : Int)] 64)).drew)) := (below_on (below_alloc1 w _) (Nat.le_refl _) (below_alloc1 _ _)).drew
  generalize ((w.alloc (Obj.cells #[Value.int IntKind.i64 0, Value.int IntKind.i64 0, Value.int IntKind.i64 0] 64)).alloc (Obj.cells #[Value.int IntKind.i64 (area : Int), Value.int IntKind.i64 (first : Int), Value.int IntKind.i64 ((hi * 256 + lo : Nat) : Int)] 64)).drew = W at *
  generalize hz : hi * 256 + lo = size at *
  have z0 : (size : Int) ≤ 2304 := by omega
  have HZ := hide hz
  clear hz
  clear HOR h0 h1 h2 h3 g00 g1 g2 g3 wa wf wl wh wk h4 hs HC
  go_wp2
  go_region_held3 (fun w' => w'.cell? ⟨w.heap.size + 1, 0, none⟩ = some (.int .i64 (area : Int)) ∧ w'.cell? ⟨w.heap.size + 1, 1, none⟩ = some (.int .i64 (first : Int)) ∧ w'.cell? ⟨w.heap.size + 1, 2, none⟩ = some (.int .i64 (size : Int))) (first | go_keep | exact ⟨q0, q1, q2⟩) (fail)
  go_wp2
  have hk := keep3' (W := W) (b := w.heap.size) (x := .int .i64 (area : Int)) (y := .int .i64 (first : Int)) (z := .int .i64 (size : Int)) p0 p1 p2
  obtain ⟨k0, k1, k2⟩ := hk
  refine bodyPost_ret (v := .tuple #[.agg #[.int .i64 (area : Int), .int .i64 (first : Int), .int .i64 (size : Int)], .bool true]) (by simp [results, Tryz.results32, go_sem, k0, k1, k2]) rfl ⟨by rw [HZ.out], ?_⟩
  exact (((HB.out.setCell (Nat.le_refl _) _).setCell (Nat.le_refl _) _).setCell (Nat.le_refl _) _).drew
set_option maxRecDepth 8000 in
set_option maxHeartbeats 1000000 in
theorem rootp_bad (t : ByteArray) (hp : Lib.hasPrefix t.data.toList headR.data.toList = false) (w : World) :
    Calls Tryz.prog 32 #[.string t] w fun e w' => e = .returned (.tuple #[.agg #[.int .i64 0, .int .i64 0, .int .i64 0], .bool false]) ∧ Below w.heap.size w w' := by
  have hc : ∀ w, ∃ r, Calls Tryz.prog 54 #[.string t, .string headR] w fun e w' => e = .returned (.tuple #[.string r, .bool false]) ∧ w' = w := fun w => by
    rw [← hp]; exact ⟨_, Tryz.strings_CutPrefix t headR w⟩
  unfold headR at hc
  obtain ⟨r, HC⟩ := hc (w.alloc (Obj.cells #[Value.int IntKind.i64 0, Value.int IntKind.i64 0, Value.int IntKind.i64 0] 64))
  replace HC := hide HC
  clear hc hp
  go_enter Tryz.func32, Tryz.ntmps32
  go_wp2_with (go_at_call 54; refine (HC.out).mono ?_; rintro e w1 ⟨rfl, rfl⟩)
  exact bodyPost_ret (v := .tuple #[.agg #[.int .i64 0, .int .i64 0, .int .i64 0], .bool false]) (by simp [results, Tryz.results32, go_sem]) rfl ⟨rfl, below_alloc1 _ _⟩
end Go.Proofs.YtkfpfbkdalbjoaaGreat

/-
  What store.readRoot and log.Fresh return.
-/
namespace Go.Proofs.YtkfpfbkdalbjoaaGreat
open Go.RowKit Go.Joins
attribute [local go_sem ↓] Go.wp_at_zero Go.wp_at_succ

theorem root_list (area first size : Nat) : (dpadB (rootB area first size)).data.toList = headR.data.toList ++ (rootL area first size ++ List.replicate 80 0) := by
  have e : (rootB area first size).size = 16 := rfl
  unfold dpadB
  rw [e]
  unfold rootB
  rw [ByteArray.data_append]
  simp
theorem root_prefix (area first size : Nat) : Lib.hasPrefix (dpadB (rootB area first size)).data.toList headR.data.toList = true := by
  rw [root_list]
  simp [Lib.hasPrefix]
theorem root_rest (area first size : Nat) : (⟨(Lib.trimPrefix (dpadB (rootB area first size)).data.toList headR.data.toList).toArray⟩ : ByteArray) = ⟨(rootL area first size ++ List.replicate 80 0).toArray⟩ := by
  have h := root_prefix area first size
  unfold Lib.trimPrefix
  rw [h, root_list]
  simp
theorem zero_prefix : Lib.hasPrefix (zerosB 96).data.toList headR.data.toList = false := by decide +kernel
set_option maxHeartbeats 1000000 in
theorem rootp_good (area first size : Nat) (ha : area ≤ 1) (hf : 1 ≤ first) (hf2 : first ≤ 2) (hs : size ≤ 2280) (w : World) :
    Calls Tryz.prog 32 #[.string (dpadB (rootB area first size))] w fun e w' => e = .returned (.tuple #[.agg #[.int .i64 (area : Int), .int .i64 (first : Int), .int .i64 (size : Int)], .bool true]) ∧ Below w.heap.size w w' := by
  have h := rootp_any (dpadB (rootB area first size)) ⟨(rootL area first size ++ List.replicate 80 0).toArray⟩ area first (size % 256) (size / 256) (root_prefix ..) (root_rest ..) (by show 4 ≤ (rootL area first size ++ List.replicate 80 0).length; simp [rootL]) (by show (rootL area first size ++ List.replicate 80 0).length ≤ 96; simp [rootL])
    (by show (UInt8.ofNat area).toNat = area; rw [UInt8.toNat_ofNat']; omega) (by show (UInt8.ofNat first).toNat = first; rw [UInt8.toNat_ofNat']; omega) (by show (UInt8.ofNat size).toNat = _; rw [UInt8.toNat_ofNat']) (by show (UInt8.ofNat (size / 256)).toNat = _; rw [UInt8.toNat_ofNat']; omega) ha hf (by omega) (by omega) (by omega) w (by omega)
  rw [show size / 256 * 256 + size % 256 = size by omega] at h
  exact h
section
variable {B db : Nat} {S : Nat → Prop} {s : DSt}
theorem read_is (w : World) (hk : DK w B db S s) (hd : s.down = false) (at_ : Nat) (t : ByteArray) (h : s.now[at_]? = some t) : Calls Tryz.prog 31 #[.pointer (some ⟨db, 0, none⟩), .int .i64 (at_ : Int)] w fun e w' => e = .returned (.tuple #[.string t, .nilIface]) ∧ w' = w := by
  have hr := dread_any (at_ : Int) w hk
  have hl := (List.getElem?_eq_some_iff.1 h).1
  have e1 : dreadF s (at_ : Int) = 0 := by unfold dreadF; rw [hd, if_neg (by decide), if_neg (by omega)]
  have e2 : dreadD s (at_ : Int) = t := by unfold dreadD; rw [if_pos e1, Int.toNat_natCast, h]; rfl
  rw [e1, e2, errD_nil] at hr
  exact hr
set_option maxRecDepth 8000 in
set_option maxHeartbeats 1000000 in
theorem readRoot_good (area first size : Nat) (w : World) (hk : DK w B db S s) (hd : s.down = false) (ha : area ≤ 1) (hf : 1 ≤ first) (hf2 : first ≤ 2) (hs : size ≤ 2280) (h54 : 54 ≤ s.now.length) (hr : s.now[0]? = some (dpadB (rootB area first size))) :
    Calls Tryz.prog 19 #[.pointer (some ⟨db, 0, none⟩)] w fun e w' => e = .returned (.tuple #[.agg #[.int .i64 (area : Int), .int .i64 (first : Int), .int .i64 (size : Int)], .nilIface]) ∧ Below w.heap.size w w' := by
  have HP := fun w' => hide (rootp_good area first size ha hf hf2 hs w')
  have HRD : Hid (∀ W, Below w.heap.size w W → Calls Tryz.prog 31 #[.pointer (some ⟨db, 0, none⟩), .int .i64 0] W fun e w' => e = .returned (.tuple #[.string (dpadB (rootB area first size)), .nilIface]) ∧ w' = W) := fun W hb => read_is W (hk.on hb) hd 0 _ hr
  have HSE : Hid (∀ W, Below w.heap.size w W → Calls Tryz.prog 23 #[.pointer (some ⟨db, 0, none⟩)] W fun e w' => e = .returned (.int .i64 (s.now.length : Int)) ∧ w' = W) := fun W hb => dsectors_any W (hk.on hb)
  have hmany := hk.many
  clear hk hd hr
  generalize dpadB (rootB area first size) = t at *
  generalize s.now.length = n at *
  have h54' : ¬ (n : Int) < 54 := by omega
  have n200 : (n : Int) ≤ 200 := by omega
  have hB0 := below_alloc1 w (Obj.cells #[Value.int IntKind.i64 0, Value.int IntKind.i64 0, Value.int IntKind.i64 0] 64)
  have p0 : (w.alloc (Obj.cells #[Value.int IntKind.i64 0, Value.int IntKind.i64 0, Value.int IntKind.i64 0] 64)).cell? ⟨w.heap.size, 0, none⟩ = some (.int .i64 0) := cell_new _ _ _ 0
  have p1 : (w.alloc (Obj.cells #[Value.int IntKind.i64 0, Value.int IntKind.i64 0, Value.int IntKind.i64 0] 64)).cell? ⟨w.heap.size, 1, none⟩ = some (.int .i64 0) := cell_new _ _ _ 1
  have p2 : (w.alloc (Obj.cells #[Value.int IntKind.i64 0, Value.int IntKind.i64 0, Value.int IntKind.i64 0] 64)).cell? ⟨w.heap.size, 2, none⟩ = some (.int .i64 0) := cell_new _ _ _ 2
  have pf := frozen_new w #[Value.int IntKind.i64 0, Value.int IntKind.i64 0, Value.int IntKind.i64 0] 64
  have hlt0 : w.heap.size < (w.alloc (Obj.cells #[Value.int IntKind.i64 0, Value.int IntKind.i64 0, Value.int IntKind.i64 0] 64)).heap.size := by simp
  go_enter Tryz.func19, Tryz.ntmps19
  go_wp2_with fail
  refine (HRD.out _ hB0).mono ?_
  rintro e w1 ⟨rfl, rfl⟩
  go_wp2_with fail
  refine ((HP _).out).mono ?_
  rintro e w2 ⟨rfl, hb2⟩
  replace p0 := cell_on hb2 p0
  replace p1 := cell_on hb2 p1
  replace p2 := cell_on hb2 p2
  have pf2 := fun j => frozen_on hb2 hlt0 (pf j)
  have hB2 := below_on hB0 (Nat.le_refl _) hb2
  have HB2 := hide hB2
  clear pf hb2 hB0
  have hlt2 : w.heap.size < w2.heap.size := World.block_lt_of_cell? _ _ p0
  have hB3 := below_on hB2 (Nat.le_refl _) (below_alloc1 w2 (Obj.cells #[Value.int IntKind.i64 (area : Int), Value.int IntKind.i64 (first : Int), Value.int IntKind.i64 (size : Int)] 64))
  have HB3 := hide hB3
  clear hB3 hB2 hlt0
  go_wp2_with fail
  refine (HSE.out _ HB3.out).mono ?_
  rintro e w3 ⟨rfl, rfl⟩
  go_wp2
  obtain ⟨k0, k1, k2⟩ := keep3' (x := .int .i64 (area : Int)) (y := .int .i64 (first : Int)) (z := .int .i64 (size : Int)) p0 p1 p2
  have HV := hide (((HB2.out.setCell (p := ⟨w.heap.size, 0, none⟩) (Nat.le_refl _) (.int .i64 (area : Int))).setCell (p := ⟨w.heap.size, 1, none⟩) (Nat.le_refl _) (.int .i64 (first : Int))).setCell (p := ⟨w.heap.size, 2, none⟩) (Nat.le_refl _) (.int .i64 (size : Int)))
  generalize ((w2.setCell ⟨w.heap.size, 0, none⟩ (Value.int IntKind.i64 (area : Int))).setCell ⟨w.heap.size, 1, none⟩ (Value.int IntKind.i64 (first : Int))).setCell ⟨w.heap.size, 2, none⟩ (Value.int IntKind.i64 (size : Int)) = V at *
  have j0 := cell_on (below_alloc1 V (Obj.cells #[Value.int IntKind.i64 (area : Int), Value.int IntKind.i64 (first : Int), Value.int IntKind.i64 (size : Int)] 64)) k0
  have j1 := cell_on (below_alloc1 V (Obj.cells #[Value.int IntKind.i64 (area : Int), Value.int IntKind.i64 (first : Int), Value.int IntKind.i64 (size : Int)] 64)) k1
  have j2 := cell_on (below_alloc1 V (Obj.cells #[Value.int IntKind.i64 (area : Int), Value.int IntKind.i64 (first : Int), Value.int IntKind.i64 (size : Int)] 64)) k2
  exact bodyPost_ret (v := .tuple #[.agg #[.int .i64 (area : Int), .int .i64 (first : Int), .int .i64 (size : Int)], .nilIface]) (by simp [results, Tryz.results19, go_sem, j0, j1, j2]) rfl ⟨rfl, below_on HV.out (Nat.le_refl _) (below_alloc1 _ _)⟩
set_option maxRecDepth 8000 in
set_option maxHeartbeats 1000000 in
theorem readRoot_bad (w : World) (hk : DK w B db S s) (hd : s.down = false) (hr : s.now[0]? = some (zerosB 96)) :
    Calls Tryz.prog 19 #[.pointer (some ⟨db, 0, none⟩)] w fun e w' => e = .returned (.tuple #[.agg #[.int .i64 0, .int .i64 0, .int .i64 0], .iface 57 (.int .i64 4)]) ∧ Below w.heap.size w w' := by
  have HP := fun w' => hide (rootp_bad (zerosB 96) zero_prefix w')
  have HRD : Hid (∀ W, Below w.heap.size w W → Calls Tryz.prog 31 #[.pointer (some ⟨db, 0, none⟩), .int .i64 0] W fun e w' => e = .returned (.tuple #[.string (zerosB 96), .nilIface]) ∧ w' = W) := fun W hb => read_is W (hk.on hb) hd 0 _ hr
  clear hk hd hr
  generalize zerosB 96 = t at *
  have hB0 := below_alloc1 w (Obj.cells #[Value.int IntKind.i64 0, Value.int IntKind.i64 0, Value.int IntKind.i64 0] 64)
  have p0 : (w.alloc (Obj.cells #[Value.int IntKind.i64 0, Value.int IntKind.i64 0, Value.int IntKind.i64 0] 64)).cell? ⟨w.heap.size, 0, none⟩ = some (.int .i64 0) := cell_new _ _ _ 0
  have p1 : (w.alloc (Obj.cells #[Value.int IntKind.i64 0, Value.int IntKind.i64 0, Value.int IntKind.i64 0] 64)).cell? ⟨w.heap.size, 1, none⟩ = some (.int .i64 0) := cell_new _ _ _ 1
  have p2 : (w.alloc (Obj.cells #[Value.int IntKind.i64 0, Value.int IntKind.i64 0, Value.int IntKind.i64 0] 64)).cell? ⟨w.heap.size, 2, none⟩ = some (.int .i64 0) := cell_new _ _ _ 2
  have pf := frozen_new w #[Value.int IntKind.i64 0, Value.int IntKind.i64 0, Value.int IntKind.i64 0] 64
  have hlt0 : w.heap.size < (w.alloc (Obj.cells #[Value.int IntKind.i64 0, Value.int IntKind.i64 0, Value.int IntKind.i64 0] 64)).heap.size := by simp
  go_enter Tryz.func19, Tryz.ntmps19
  go_wp2_with fail
  refine (HRD.out _ hB0).mono ?_
  rintro e w1 ⟨rfl, rfl⟩
  go_wp2_with fail
  refine ((HP _).out).mono ?_
  rintro e w2 ⟨rfl, hb2⟩
  replace p0 := cell_on hb2 p0
  replace p1 := cell_on hb2 p1
  replace p2 := cell_on hb2 p2
  have pf2 := fun j => frozen_on hb2 hlt0 (pf j)
  have HB2 := hide (below_on hB0 (Nat.le_refl _) hb2)
  clear pf hb2 hB0 hlt0
  have hlt2 : w.heap.size < w2.heap.size := World.block_lt_of_cell? _ _ p0
  go_wp2
  obtain ⟨k0, k1, k2⟩ := keep3' (x := .int .i64 0) (y := .int .i64 0) (z := .int .i64 0) p0 p1 p2
  have HV := hide (((HB2.out.setCell (p := ⟨w.heap.size, 0, none⟩) (Nat.le_refl _) (.int .i64 0)).setCell (p := ⟨w.heap.size, 1, none⟩) (Nat.le_refl _) (.int .i64 0)).setCell (p := ⟨w.heap.size, 2, none⟩) (Nat.le_refl _) (.int .i64 0))
  generalize ((w2.setCell ⟨w.heap.size, 0, none⟩ (Value.int IntKind.i64 0)).setCell ⟨w.heap.size, 1, none⟩ (Value.int IntKind.i64 0)).setCell ⟨w.heap.size, 2, none⟩ (Value.int IntKind.i64 0) = V at *
  have j0 := cell_on (below_alloc1 V (Obj.cells #[Value.int IntKind.i64 0, Value.int IntKind.i64 0, Value.int IntKind.i64 0] 64)) k0
  have j1 := cell_on (below_alloc1 V (Obj.cells #[Value.int IntKind.i64 0, Value.int IntKind.i64 0, Value.int IntKind.i64 0] 64)) k1
  have j2 := cell_on (below_alloc1 V (Obj.cells #[Value.int IntKind.i64 0, Value.int IntKind.i64 0, Value.int IntKind.i64 0] 64)) k2
  exact bodyPost_ret (v := .tuple #[.agg #[.int .i64 0, .int .i64 0, .int .i64 0], .iface 57 (.int .i64 4)]) (by simp [results, Tryz.results19, go_sem, j0, j1, j2]) rfl ⟨rfl, below_on HV.out (Nat.le_refl _) (below_alloc1 _ _)⟩
set_option maxRecDepth 8000 in
set_option maxHeartbeats 1000000 in
theorem fresh_any (w : World) (hk : DK w B db S s) (hd : s.down = false) (hn : 50 < s.now.length) :
    Calls Tryz.prog 46 #[.pointer (some ⟨db, 0, none⟩), .int .i64 50] w fun e w' => e = .returned (.tuple #[.int .i64 (freshN s.now : Int), .nilIface]) ∧ Below w.heap.size w w' := by
  have hr : s.now[50]? = some s.now[50] := List.getElem?_eq_getElem hn
  have h96 := hk.whole.1 _ (List.getElem_mem hn)
  have HRD := hide (read_is w hk hd 50 _ hr)
  have hfr : freshN s.now = if (decL s.now[50] 1).isSome then 2 else 1 := by unfold freshN; rw [hr]; rfl
  generalize s.now[50] = t at *
  clear hk hd hr hn
  cases hdc : decL t 1 with
  | none =>
    rw [hdc] at hfr
    have e : freshN s.now = 1 := hfr
    rw [e]
    have HD := fun w' => hide (decode_none t 1 (by decide) h96 hdc w')
    clear hfr e hdc
    go_enter Tryz.func46, Tryz.ntmps46
    go_wp2_with (first
      | (go_at_call 31; refine HRD.out.mono ?_; rintro e w1 ⟨rfl, rfl⟩)
      | (go_at_call 64; refine ((HD _).out).mono ?_; rintro e w2 ⟨rfl, hb2⟩)
      | fail)
    go_ret2
    exact ⟨rfl, hb2⟩
  | some kd =>
    obtain ⟨k, d⟩ := kd
    rw [hdc] at hfr
    have e : freshN s.now = 2 := hfr
    rw [e]
    have HD := fun w' => hide (decode_some t 1 k d (by decide) h96 hdc w')
    clear hfr e hdc
    go_enter Tryz.func46, Tryz.ntmps46
    go_wp2_with (first
      | (go_at_call 31; refine HRD.out.mono ?_; rintro e w1 ⟨rfl, rfl⟩)
      | (go_at_call 64; refine ((HD _).out).mono ?_; rintro e w2 ⟨rfl, hb2⟩)
      | fail)
    go_ret2
    exact ⟨rfl, hb2⟩
end
end Go.Proofs.YtkfpfbkdalbjoaaGreat
