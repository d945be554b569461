/-
  Rows packed, as plain bytes. Nothing of the program's functions is named here.
-/
import Derived.Test.YtkfpfbkdalbjoaaGreatChgMem
import Derived.Lib.AppendStr
import Derived.Test.YtkfpfbkdalbjoaaGreatChgBytes
import Derived.Test.YtkfpfbkdalbjoaaGreatRowG
import Derived.OwnWalk
namespace Go.Proofs.YtkfpfbkdalbjoaaGreat
open Go.RowKit Go.Joins

/-- a row packed: two bytes, how many its key and its value have, and these -/
def rowB (c : Chg) : ByteArray := ⟨#[UInt8.ofNat c.key.size, UInt8.ofNat c.val.size]⟩ ++ c.key ++ c.val
def packB : List Chg → ByteArray
  | [] => ⟨#[]⟩
  | c :: l => rowB c ++ packB l
theorem bytes_nil_append (b : ByteArray) : (⟨#[]⟩ : ByteArray) ++ b = b := by
  apply ByteArray.ext; simp [ByteArray.data_append]
theorem bytes_append_nil (b : ByteArray) : b ++ (⟨#[]⟩ : ByteArray) = b := by
  apply ByteArray.ext; simp [ByteArray.data_append]
theorem bytes_assoc (a b c : ByteArray) : a ++ b ++ c = a ++ (b ++ c) := by
  apply ByteArray.ext; simp [ByteArray.data_append, Array.append_assoc]
theorem packB_snoc (l : List Chg) (c : Chg) : packB (l ++ [c]) = packB l ++ rowB c := by
  induction l with
  | nil => show rowB c ++ ⟨#[]⟩ = ⟨#[]⟩ ++ rowB c; rw [bytes_nil_append, bytes_append_nil]
  | cons d l ih => show rowB d ++ packB (l ++ [c]) = rowB d ++ packB l ++ rowB c; rw [ih, bytes_assoc]
theorem rowB_size (c : Chg) : (rowB c).size = 2 + c.key.size + c.val.size := by
  unfold rowB; rw [ByteArray.size_append, ByteArray.size_append]; rfl
theorem packB_size (l : List Chg) (n : Nat) (h : ∀ c ∈ l, c.key.size + c.val.size ≤ n) : (packB l).size ≤ l.length * (n + 2) := by
  induction l with
  | nil => exact Nat.zero_le _
  | cons c l ih =>
    show (rowB c ++ packB l).size ≤ _
    rw [ByteArray.size_append, rowB_size, List.length_cons, Nat.succ_mul]
    have h1 := ih fun d hd => h d (List.mem_cons_of_mem _ hd)
    have h2 := h c (List.mem_cons_self ..)
    omega
theorem cells_append (a b : ByteArray) : Go.Lib.strCells (a ++ b) = Go.Lib.strCells a ++ Go.Lib.strCells b := by
  unfold Go.Lib.strCells
  rw [ByteArray.data_append, Array.toList_append, List.map_append]
theorem cells_two (i j : Nat) (hi : i < 256) (hj : j < 256) : Go.Lib.strCells ⟨#[UInt8.ofNat i, UInt8.ofNat j]⟩ = [.int .u8 (i : Int), .int .u8 (j : Int)] := by
  unfold Go.Lib.strCells
  simp
  omega
end Go.Proofs.YtkfpfbkdalbjoaaGreat

/-
  What store.cutRow returns of a row that is well packed.
-/
namespace Go.Proofs.YtkfpfbkdalbjoaaGreat
open Go.RowKit Go.Joins
attribute [local go_sem ↓] Go.wp_at_zero Go.wp_at_succ

theorem keep3 {W : World} {b : Nat} {x y z : Value} (h : W.cell? ⟨b, 0, none⟩ = some x ∧ W.cell? ⟨b, 1, none⟩ = some y ∧ W.cell? ⟨b, 2, none⟩ = some z) :
    (((W.setCell ⟨b, 0, none⟩ x).setCell ⟨b, 1, none⟩ y).setCell ⟨b, 2, none⟩ z).cell? ⟨b, 0, none⟩ = some x ∧ (((W.setCell ⟨b, 0, none⟩ x).setCell ⟨b, 1, none⟩ y).setCell ⟨b, 2, none⟩ z).cell? ⟨b, 1, none⟩ = some y ∧ (((W.setCell ⟨b, 0, none⟩ x).setCell ⟨b, 1, none⟩ y).setCell ⟨b, 2, none⟩ z).cell? ⟨b, 2, none⟩ = some z := by
  obtain ⟨h0, h1, h2⟩ := h
  refine ⟨?_, ?_, ?_⟩ <;> simp [go_sem, h0, h1, h2]
set_option maxRecDepth 8000 in
set_option maxHeartbeats 400000 in
theorem cut_good (s : ByteArray) (w : World) (h2 : 2 ≤ s.size) (hs : s.size ≤ 60000) (x y : Nat) (hx : s[0].toNat = x) (hy : s[1].toNat = y) (hl : 2 + x + y ≤ s.size) (k v r : ByteArray) (hk : s.extract 2 (2 + x) = k) (hv : s.extract (2 + x) (2 + x + y) = v) (hr : s.extract (2 + x + y) s.size = r) (hf : chgFault ⟨k, v, false⟩ = 0) :
    Calls Tryz.prog 56 #[.string s] w fun e w' => e = .returned (.tuple #[.agg #[.string k, .string v, .bool false], .string r, .bool true]) ∧ Below w.heap.size w w' := by
  have x8 : x < 256 := by rw [← hx]; exact UInt8.toNat_lt _
  have y8 : y < 256 := by rw [← hy]; exact UInt8.toNat_lt _
  have hks : k.size ≤ maxLen := by rw [← hk, ByteArray.size_extract]; unfold maxLen; omega
  have HK := fun w' => hide (chg_check ⟨k, v, false⟩ w' hks)
  rw [hf] at HK
  simp only [errV, if_true] at HK
  have hB := below_alloc1 w (Obj.cells #[Value.string ⟨#[]⟩, Value.string ⟨#[]⟩, Value.bool false] 54)
  have fz := frozen_new w #[Value.string ⟨#[]⟩, Value.string ⟨#[]⟩, Value.bool false] 54
  have xi0 : (0 : Int) ≤ (x : Int) := by omega
  have xi1 : (x : Int) < 256 := by omega
  have yi0 : (0 : Int) ≤ (y : Int) := by omega
  have yi1 : (y : Int) < 256 := by omega
  have d1 : decide ((s.size : Int) < 2) = false := by simp; omega
  have d3 : decide ((s.size : Int) < 2 + (x : Int) + (y : Int)) = false := by simp; omega
  have g1 : 1 < (s.size : Int) := by omega
  have g0 : 0 < s.size := by omega
  have i1 : (0 : Int) ≤ 2 + (x : Int) := by omega
  have i2 : 2 + (x : Int) ≤ (s.size : Int) := by omega
  have i3 : (2 : Int) ≤ 2 + (x : Int) := by omega
  have i4 : 2 + (x : Int) ≤ 2 + (x : Int) + (y : Int) := by omega
  have i5 : 2 + (x : Int) + (y : Int) ≤ (s.size : Int) := by omega
  have i6 : (0 : Int) ≤ 2 + (x : Int) + (y : Int) := by omega
  have n1 : (2 + (x : Int)).toNat = 2 + x := by omega
  have n2 : (2 + (x : Int) + (y : Int)).toNat = 2 + x + y := by omega
  have HF := hide hf
  have HKE := hide hk
  have HVE := hide hv
  have HRE := hide hr
  clear hf hk hv hr hks
  replace n1 := hide n1
  replace n2 := hide n2
  go_enter Tryz.func56, Tryz.ntmps56
  go_wp2
  go_region_held3 (fun _ => True) (trivial) (fail)
  rw [n1.out, n2.out, HKE.out, HVE.out]
  go_wp2_with (fail)
  clear hB fz
  have hW : Below w.heap.size w (w.alloc (Obj.cells #[Value.string k, Value.string v, Value.bool false] 54)).drew := (below_alloc1 w _).drew
  have a0 : (w.alloc (Obj.cells #[Value.string k, Value.string v, Value.bool false] 54)).drew.cell? ⟨w.heap.size, 0, none⟩ = some (.string k) := cell_new w _ _ 0
  have a1 : (w.alloc (Obj.cells #[Value.string k, Value.string v, Value.bool false] 54)).drew.cell? ⟨w.heap.size, 1, none⟩ = some (.string v) := cell_new w _ _ 1
  have a2 : (w.alloc (Obj.cells #[Value.string k, Value.string v, Value.bool false] 54)).drew.cell? ⟨w.heap.size, 2, none⟩ = some (.bool false) := cell_new w _ _ 2
  have fz : ∀ j, (w.alloc (Obj.cells #[Value.string k, Value.string v, Value.bool false] 54)).drew.frozen? ⟨w.heap.size, j, none⟩ = false := frozen_new w _ _
  have hs0 : w.heap.size < (w.alloc (Obj.cells #[Value.string k, Value.string v, Value.bool false] 54)).drew.heap.size := by simp
  generalize (w.alloc (Obj.cells #[Value.string k, Value.string v, Value.bool false] 54)).drew = w0 at *
  have HW := hide hW
  clear hW
  go_region_held3 (fun w' => w'.cell? ⟨w.heap.size, 0, none⟩ = some (.string k) ∧ w'.cell? ⟨w.heap.size, 1, none⟩ = some (.string v) ∧ w'.cell? ⟨w.heap.size, 2, none⟩ = some (.bool false)) (first | go_keep | exact ⟨a0, a1, a2⟩ | exact HC2.out | exact keep3 HC2.out) (first | (go_at_call 49; refine ((HK _).out).mono ?_; rintro e w2 ⟨rfl, hb2⟩; replace hb2 : Below w0.heap.size w0 w2 := (by first | exact hb2 | exact below_on (Below.refl _ _).drew (Nat.le_refl _) hb2); have HC2 := hide (And.intro (cell_on hb2 a0) (And.intro (cell_on hb2 a1) (cell_on hb2 a2))); have f2 := (fun j => frozen_on hb2 hs0 (fz j)); have c0 := cell_on hb2 a0; have c1 := cell_on hb2 a1; have c2 := cell_on hb2 a2; have HB2 := hide hb2; clear hb2))
  rw [n2.out, HRE.out]
  clear n1 n2
  go_wp2
  obtain ⟨k0, k1, k2⟩ := keep3 HC2.out
  exact bodyPost_ret (v := .tuple #[.agg #[.string k, .string v, .bool false], .string r, .bool true]) (by simp [results, Tryz.results56, go_sem, k0, k1, k2]) rfl ⟨rfl, (((below_on HW.out (Nat.le_refl _) HB2.out).setCell (Nat.le_refl _) _).setCell (Nat.le_refl _) _).setCell (Nat.le_refl _) _⟩
section
variable (c : Chg) (r : ByteArray)
theorem row_size : (rowB c ++ r).size = 2 + c.key.size + c.val.size + r.size := by rw [ByteArray.size_append, rowB_size]
theorem row_0 (h : 0 < (rowB c ++ r).size) (hk : c.key.size ≤ 255) : (rowB c ++ r)[0].toNat = c.key.size := by
  simp only [rowB, ByteArray.getElem_eq_getElem_data, ByteArray.data_append, Array.append_assoc]
  simp
  omega
theorem row_1 (h : 1 < (rowB c ++ r).size) (hk : c.val.size ≤ 255) : (rowB c ++ r)[1].toNat = c.val.size := by
  simp only [rowB, ByteArray.getElem_eq_getElem_data, ByteArray.data_append, Array.append_assoc]
  simp
  omega
theorem row_key : (rowB c ++ r).extract 2 (2 + c.key.size) = c.key := by
  rw [rowB, bytes_assoc, bytes_assoc]
  exact (ByteArray.extract_append_size_add' (i := 0) rfl).trans (ByteArray.extract_append_eq_left rfl)
theorem row_val : (rowB c ++ r).extract (2 + c.key.size) (2 + c.key.size + c.val.size) = c.val := by
  rw [rowB, bytes_assoc]
  exact (ByteArray.extract_append_size_add' (i := 0) (by rw [ByteArray.size_append]; rfl)).trans (ByteArray.extract_append_eq_left rfl)
theorem row_rest : (rowB c ++ r).extract (2 + c.key.size + c.val.size) (rowB c ++ r).size = r := by
  refine ByteArray.extract_append_eq_right ?_ ?_
  · rw [rowB_size]
  · rw [row_size, rowB_size]
theorem cut_row (w : World) (hf : chgFault c = 0) (hg : c.gone = false) (hr : r.size ≤ 50000) :
    Calls Tryz.prog 56 #[.string (rowB c ++ r)] w fun e w' => e = .returned (.tuple #[.agg #[.string c.key, .string c.val, .bool false], .string r, .bool true]) ∧ Below w.heap.size w w' := by
  obtain ⟨hk, hv⟩ := fault_key hf
  have hs := row_size c r
  have e : (⟨c.key, c.val, false⟩ : Chg) = c := by cases c; cases hg; rfl
  exact cut_good (rowB c ++ r) w (by omega) (by omega) _ _ (row_0 c r (by omega) (by omega)) (row_1 c r (by omega) (by omega)) (by omega) _ _ _ (row_key c r) (row_val c r) (row_rest c r) (by rw [e]; exact hf)
end
end Go.Proofs.YtkfpfbkdalbjoaaGreat

/-
  What store.pack returns.
-/
namespace Go.Proofs.YtkfpfbkdalbjoaaGreat
open Go.RowKit Go.Joins
attribute [local go_sem ↓] Go.wp_at_zero Go.wp_at_succ

theorem byte_parts : ∃ i, Tryz.prog.info? 5 = some i ∧ i.zero = some (.int .u8 0) ∧ i.size = 1 ∧ i.bytes = 1 := by
  have h : (Tryz.prog.info? 5).map (fun i => (i.zero, i.size, i.bytes)) = some (some (.int .u8 0), 1, 1) := by kernel_rfl
  cases hi : Tryz.prog.info? 5 with
  | none => rw [hi] at h; cases h
  | some i =>
    rw [hi] at h
    simp only [Option.map_some, Option.some.injEq, Prod.mk.injEq] at h
    exact ⟨i, rfl, h.1, h.2.1, h.2.2⟩
/-- a row of bytes of one's own, made since w -/
def bufAt (w w' : World) (v : Value) (t : ByteArray) : Prop := w'.ownsRow w.heap.size 5 1 v t.size (Go.Lib.strCells t) ∧ Below w.heap.size w w'
/-- a change that was laid behind: its block is of another type -/
def chgBlk (w : World) (b : Nat) (c : Chg) : Prop := w.heap[b]? = some (.cells #[.string c.key, .string c.val, .bool c.gone] 54 (0, 0))
theorem chgBlk_ne {w : World} {b B n : Nat} {c : Chg} {v : Value} {xs : List Value} (h : chgBlk w b c) (ho : w.ownsRow B 5 1 v n xs) : v.ownBlock ≠ some b := by
  intro e
  rcases ho.2 with ⟨rfl, _⟩ | ⟨g, cap, cur, rfl, _, hg, _⟩
  · cases e
  · have : g = b := by simpa [Value.ownBlock] using e
    subst this
    rw [h] at hg
    simp at hg
theorem chgBlk_grown {w w' : World} {b B n : Nat} {c : Chg} {v : Value} {xs : List Value} (h : chgBlk w b c) (ho : w.ownsRow B 5 1 v n xs) (hg : w.grownBy w' v.ownBlock) : chgBlk w' b c :=
  (hg.block b (Array.getElem?_eq_some_iff.1 h).1 (fun e => chgBlk_ne h ho e.symm)).trans h
theorem chgBlk_on {w w' : World} {b : Nat} {c : Chg} (h : chgBlk w b c) (hb : Below w.heap.size w w') : chgBlk w' b c :=
  (hb.block b (Array.getElem?_eq_some_iff.1 h).1).trans h
theorem chgBlk_cells {w : World} {b : Nat} {c : Chg} (h : chgBlk w b c) : w.cell? ⟨b, 0, none⟩ = some (.string c.key) ∧ w.cell? ⟨b, 1, none⟩ = some (.string c.val) ∧ w.cell? ⟨b, 2, none⟩ = some (.bool c.gone) := by
  unfold chgBlk at h
  refine ⟨?_, ?_, ?_⟩ <;> simp [World.cell?, h]
theorem two_cells (w : World) (i j : Int) (c : Chg) : ∀ k u, ([.int .u8 i, .int .u8 j] : List Value)[k]? = some u → ((w.alloc (Obj.cells #[Value.string c.key, Value.string c.val, Value.bool c.gone] 54)).alloc (Obj.cells #[Value.int .u8 i, Value.int .u8 j] 5)).cell? ((⟨w.heap.size + 1, 0, none⟩ : Addr).add k) = some u := by
  intro k u h
  have e : (w.alloc (Obj.cells #[Value.string c.key, Value.string c.val, Value.bool c.gone] 54)).heap.size = w.heap.size + 1 := by simp
  generalize w.alloc (Obj.cells #[Value.string c.key, Value.string c.val, Value.bool c.gone] 54) = W at *
  rw [← e, Go.WideShapes.add_plain, Nat.zero_add, cell_new W]
  simpa using h
theorem two_one (i j : Int) : ∀ u ∈ ([.int .u8 i, .int .u8 j] : List Value), u.oneCell' = true := by
  intro u h
  simp only [List.mem_cons, List.not_mem_nil, or_false] at h
  rcases h with rfl | rfl <;> rfl
set_option maxRecDepth 8000 in
set_option maxHeartbeats 4000000 in
theorem pack_any (l : List Chg) (ao : Option Addr) (cap : Nat) (w : World) (hd : heldCh w ao l) (hl : l.length ≤ 1000) (hsz : ∀ c ∈ l, c.key.size ≤ 255 ∧ c.val.size ≤ 255) :
    Calls Tryz.prog 43 #[.slice ao l.length cap] w fun e w' => ∃ v, e = .returned v ∧ bufAt w w' v (packB l) := by
  have HD := hide hd
  have HZ := hide hsz
  clear hd hsz
  obtain ⟨i0, hi0, hz0, hi2, hi24⟩ := byte_parts
  go_enter Tryz.func43, Tryz.ntmps43
  go_wp2
  go_loopw [3, 8] (fun v iv wr => ∃ k : Nat, k ≤ l.length ∧ iv = .int .i64 (k : Int) ∧ bufAt w wr v (packB (l.take k))) (fun _ iv _ => l.length - (intOf iv).toNat)
  case atStart => exact ⟨0, Nat.zero_le _, rfl, ⟨rfl, .inl ⟨rfl, rfl⟩⟩, Below.refl _ _⟩
  case round =>
    obtain ⟨k, hk, rfl, ho, hb⟩ := hrel
    by_cases hlt : k < l.length
    · have hlt' : (k : Int) < (l.length : Int) := by omega
      have hk0 : (0 : Int) ≤ (k : Int) := by omega
      rcases HD.out with e | ⟨b, off, e, hch⟩
      · rw [e] at hlt; simp at hlt
      subst e
      obtain ⟨x0, x1, x2⟩ := hch k hlt
      have hsn : packB (l.take (k + 1)) = packB (l.take k) ++ rowB l[k] := by
        rw [List.take_succ_eq_append_getElem hlt, packB_snoc]
      have hps : (packB (l.take k)).size ≤ 512000 := by
        have h1 := packB_size (l.take k) 510 fun c hc => by have := HZ.out c (List.mem_of_mem_take hc); omega
        rw [List.length_take] at h1
        have : min k l.length * (510 + 2) ≤ 1000 * 512 := Nat.mul_le_mul (by omega) (by omega)
        omega
      obtain ⟨z1, z2⟩ := HZ.out _ (List.getElem_mem hlt)
      clear hch
      generalize l[k] = x at *
      generalize packB (l.take k) = pt at *
      replace x0 := cell_on hb x0
      replace x1 := cell_on hb x1
      replace x2 := cell_on hb x2
      have HO := hide ho
      have HBR := hide hb
      have HSN := hide hsn
      clear ho hb hsn
      have hal : ∀ (W : World), chgBlk (W.alloc (Obj.cells #[Value.string x.key, Value.string x.val, Value.bool x.gone] 54)) W.heap.size x := fun W => by
        unfold chgBlk World.alloc; simp
      have HBLK := hide (hal wr)
      clear hal
      have hbx := below_alloc1 wr (Obj.cells #[Value.string x.key, Value.string x.val, Value.bool x.gone] 54)
      have HBX := hide (below_on HBR.out (Nat.le_refl _) hbx)
      have HO1 := hide (own_on HO.out hbx)
      clear HO hbx
      have s1 : (Go.Lib.strCells ⟨#[UInt8.ofNat x.key.size, UInt8.ofNat x.val.size]⟩) = [.int .u8 (x.key.size : Int), .int .u8 (x.val.size : Int)] := cells_two _ _ (by omega) (by omega)
      have HS1 := hide s1
      clear s1
      go_wp2_with (at_builtin; first
        | (refine wpList_append_own _ rfl _ _ 89 rfl w.heap.size 5 i0 _ 1 1 Tryz.underlying89 hi0 hz0 hi2 hi24 rfl (by omega) _ pt.size _ rfl (HO1.out.alloc _) ⟨wr.heap.size + 1, 0, none⟩ 2 2 [.int .u8 (x.key.size : Int), .int .u8 (x.val.size : Int)] rfl rfl (two_cells _ _ _ _) (two_one _ _) (by unfold maxLen; omega) (by omega) (by have := HBX.out.size; simp at this ⊢; omega) ?_; intro v7 w7 ho7 hg7 _; have HK7 := hide (chgBlk_grown (chgBlk_on HBLK.out (below_alloc1 _ _)) (HO1.out.alloc _) hg7); have HB7 := hide ((below_on HBX.out (Nat.le_refl _) (below_alloc1 _ _)).grown hg7 (below_on HBX.out (Nat.le_refl _) (below_alloc1 _ _)).size (fun k hk => (HO1.out.lt k hk).1)); have HO7 := hide ho7; obtain ⟨y0, y1, _⟩ := chgBlk_cells HK7.out; clear ho7 hg7)
        | (refine Go.Lib.wpList_append_own_string _ rfl _ _ 89 9 rfl w.heap.size 5 i0 Tryz.underlying89 Tryz.underlying9 hi0 hz0 hi2 hi24 _ (pt.size + 2) _ rfl HO7.out x.key rfl (by unfold maxLen; omega) (by omega) HB7.out.size ?_; intro v8 w8 ho8 hg8 _; have HK8 := hide (chgBlk_grown HK7.out HO7.out hg8); have HB8 := hide (HB7.out.grown hg8 HB7.out.size (fun k hk => (HO7.out.lt k hk).1)); have HO8 := hide ho8; obtain ⟨q0, q1, _⟩ := chgBlk_cells HK8.out; clear ho8 hg8 y0 y1)
        | (refine Go.Lib.wpList_append_own_string _ rfl _ _ 89 9 rfl w.heap.size 5 i0 Tryz.underlying89 Tryz.underlying9 hi0 hz0 hi2 hi24 _ (pt.size + 2 + x.key.size) _ rfl HO8.out x.val rfl (by unfold maxLen; omega) (by omega) HB8.out.size ?_; intro v9 w9 ho9 hg9 _; have HB9 := hide (HB8.out.grown hg9 HB8.out.size (fun k hk => (HO8.out.lt k hk).1)); have HO9 := hide ho9; clear ho9 hg9))
      refine ⟨⟨k + 1, by omega, by go_num, ?_, HB9.out⟩, by simp [intOf]; omega⟩
      have e : (pt ++ rowB x).size = pt.size + 2 + x.key.size + x.val.size := by rw [ByteArray.size_append, rowB_size]; omega
      have e2 : Go.Lib.strCells (pt ++ rowB x) = Go.Lib.strCells pt ++ [.int .u8 (x.key.size : Int), .int .u8 (x.val.size : Int)] ++ Go.Lib.strCells x.key ++ Go.Lib.strCells x.val := by
        unfold rowB
        rw [cells_append, cells_append, cells_append, HS1.out]
        simp only [List.append_assoc]
      rw [HSN.out, e, e2]
      exact HO9.out
    · have ek : k = l.length := by omega
      subst ek
      have hlt' : ¬ (l.length : Int) < (l.length : Int) := by omega
      rw [List.take_length] at ho
      have HO := hide ho
      have HBR := hide hb
      clear ho hb
      go_wp2
      go_ret
      exact ⟨_, rfl, HO.out, HBR.out⟩
end Go.Proofs.YtkfpfbkdalbjoaaGreat
