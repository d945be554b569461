/-
  A store's root: what its text is.
-/
import Derived.Test.YtkfpfbkdalbjoaaGreatLogSec
import Derived.Test.YtkfpfbkdalbjoaaGreatLogOpen
import Derived.Test.YtkfpfbkdalbjoaaGreatStoUnp
namespace Go.Proofs.YtkfpfbkdalbjoaaGreat
open Go.RowKit Go.Joins
attribute [local go_sem ↓] Go.wp_at_zero Go.wp_at_succ

def headR : ByteArray := ⟨#[104, 97, 121, 119, 97, 105, 110, 32, 114, 111, 119, 115]⟩
def rootL (area first size : Nat) : List UInt8 := [UInt8.ofNat area, UInt8.ofNat first, UInt8.ofNat size, UInt8.ofNat (size / 256)]
def rootB (area first size : Nat) : ByteArray := headR ++ ⟨(rootL area first size).toArray⟩
set_option maxRecDepth 8000 in
set_option maxHeartbeats 1000000 in
theorem root_text (area first size : Nat) (ha : area ≤ 1) (hf : first ≤ 255) (hs : size ≤ 60000) (w : World) : Calls Tryz.prog 48 #[.agg #[.int .i64 (area : Int), .int .i64 (first : Int), .int .i64 (size : Int)]] w fun e w' => e = .returned (.string (rootB area first size)) ∧ Below w.heap.size w w' := by
  have a0 : (0 : Int) ≤ (area : Int) := by omega
  have a1 : (area : Int) ≤ 1 := by omega
  have f0 : (0 : Int) ≤ (first : Int) := by omega
  have f1 : (first : Int) ≤ 255 := by omega
  have s0 : (0 : Int) ≤ (size : Int) := by omega
  have s1 : (size : Int) ≤ 60000 := by omega
  have hcv := run_convert_bytes_back (P := Tryz.prog) ((w.alloc (Obj.cells #[Value.int IntKind.i64 (area : Int), Value.int IntKind.i64 (first : Int), Value.int IntKind.i64 (size : Int)] 64)).alloc (Obj.cells #[Value.int IntKind.u8 (area : Int), Value.int IntKind.u8 (first : Int), Value.int IntKind.u8 ((size : Int) % 256), Value.int IntKind.u8 ((size : Int) / 256)] 5)) 89 9 5 ⟨w.heap.size + 1, 0, none⟩ 4 (rootL area first size) Tryz.underlying89 Tryz.underlying5 Tryz.underlying9 (fun j hj => by
    have hj2 : j = 0 ∨ j = 1 ∨ j = 2 ∨ j = 3 := by simp [rootL] at hj; omega
    have e : (w.alloc (Obj.cells #[Value.int IntKind.i64 (area : Int), Value.int IntKind.i64 (first : Int), Value.int IntKind.i64 (size : Int)] 64)).heap.size = w.heap.size + 1 := by simp
    have hn := cell_new (w.alloc (Obj.cells #[Value.int IntKind.i64 (area : Int), Value.int IntKind.i64 (first : Int), Value.int IntKind.i64 (size : Int)] 64)) #[Value.int IntKind.u8 (area : Int), Value.int IntKind.u8 (first : Int), Value.int IntKind.u8 ((size : Int) % 256), Value.int IntKind.u8 ((size : Int) / 256)] 5 j
    rw [e] at hn
    have e2 : (⟨w.heap.size + 1, 0, none⟩ : Addr).add j = ⟨w.heap.size + 1, j, none⟩ := by simp [Addr.add]; exact fun h => h.symm
    rw [e2, hn]
    rcases hj2 with rfl | rfl | rfl | rfl <;> simp [rootL] <;> omega)
  have HB := hide (below_on (below_alloc1 w (Obj.cells #[Value.int IntKind.i64 (area : Int), Value.int IntKind.i64 (first : Int), Value.int IntKind.i64 (size : Int)] 64)) (Nat.le_refl _) (below_alloc1 _ (Obj.cells #[Value.int IntKind.u8 (area : Int), Value.int IntKind.u8 (first : Int), Value.int IntKind.u8 ((size : Int) % 256), Value.int IntKind.u8 ((size : Int) / 256)] 5)))
  have hl : (rootL area first size).length = 4 := rfl
  rw [hl] at hcv
  clear hl
  have hz : (⟨(rootL area first size).toArray⟩ : ByteArray).size = 4 := rfl
  unfold rootB headR
  generalize rootL area first size = fl at *
  go_enter Tryz.func48, Tryz.ntmps48
  go_wp2
  go_ret
  exact ⟨rfl, HB.out⟩
end Go.Proofs.YtkfpfbkdalbjoaaGreat

/-
  A store's rows on a disk: pieces, areas, a root, a log; to lay all rows on the other area, with a fall at any step; plain.
-/
namespace Go.Proofs.YtkfpfbkdalbjoaaGreat

/-- the k-th piece of a text -/
def pieceB (t : ByteArray) (k : Nat) : ByteArray := t.extract (96 * k) (96 * k + 96)
def piecesN (n : Nat) : Nat := (n + 95) / 96
def piecesB (t : ByteArray) : List ByteArray := (List.range (piecesN t.size)).map (pieceB t)
def joinB : List ByteArray → ByteArray
  | [] => ⟨#[]⟩
  | s :: l => s ++ joinB l
theorem joinB_snoc (l : List ByteArray) (s : ByteArray) : joinB (l ++ [s]) = joinB l ++ s := by
  induction l with
  | nil => show s ++ ⟨#[]⟩ = ⟨#[]⟩ ++ s; rw [bytes_nil_append, bytes_append_nil]
  | cons x l ih => show x ++ joinB (l ++ [s]) = x ++ joinB l ++ s; rw [ih, bytes_assoc]
theorem joinB_size (l : List ByteArray) (h : ∀ s ∈ l, s.size = 96) : (joinB l).size = 96 * l.length := by
  induction l with
  | nil => rfl
  | cons x l ih =>
    show (x ++ joinB l).size = _
    rw [ByteArray.size_append, ih fun s hs => h s (List.mem_cons_of_mem _ hs), h x (List.mem_cons_self ..), List.length_cons]
    omega
theorem piece_size (t : ByteArray) (k : Nat) : (pieceB t k).size = min (96 * k + 96) t.size - 96 * k := by unfold pieceB; rw [ByteArray.size_extract]
theorem pad_split (s : ByteArray) : dpadB s = s ++ zerosB (96 - s.size) := by
  apply ByteArray.ext
  unfold dpadB zerosB
  rw [ByteArray.data_append]
  simp
theorem ext_data (t : ByteArray) (i j : Nat) : (t.extract i j).data.toList = (t.data.toList.take j).drop i := by
  rw [ByteArray.data_extract, Array.toList_extract, List.extract_eq_take_drop, List.take_drop]
  by_cases h : i ≤ j
  · rw [show i + (j - i) = j by omega]
  · rw [List.drop_eq_nil_of_le (by rw [List.length_take]; omega), List.drop_eq_nil_of_le (by rw [List.length_take]; omega)]
theorem bytes_ext {a b : ByteArray} (h : a.data.toList = b.data.toList) : a = b := by
  apply ByteArray.ext
  exact Array.toList_inj.1 h
theorem data_app (a b : ByteArray) : (a ++ b).data.toList = a.data.toList ++ b.data.toList := by rw [ByteArray.data_append, Array.toList_append]
theorem data_len (a : ByteArray) : a.data.toList.length = a.size := by rw [Array.length_toList]; rfl
theorem ext_app (t : ByteArray) {i j : Nat} (h : i ≤ j) : t.extract 0 i ++ t.extract i j = t.extract 0 j := by
  apply bytes_ext
  rw [data_app, ext_data, ext_data, ext_data, List.drop_zero, List.drop_zero]
  have e : t.data.toList.take i = (t.data.toList.take j).take i := by rw [List.take_take, Nat.min_eq_left h]
  rw [e, List.take_append_drop]
theorem ext_all (t : ByteArray) {j : Nat} (h : t.size ≤ j) : t.extract 0 j = t := by
  apply bytes_ext
  rw [ext_data, List.drop_zero, List.take_of_length_le (by rw [data_len]; exact h)]
theorem join_pieces (t : ByteArray) : ∀ k, (k = 0 ∨ 96 * (k - 1) < t.size) → joinB ((List.range k).map fun j => dpadB (pieceB t j)) = t.extract 0 (96 * k) ++ zerosB (96 * k - t.size)
  | 0, _ => by
    apply bytes_ext
    rw [data_app, ext_data]
    simp [joinB, zerosB]
  | k + 1, h => by
    have hk : 96 * k < t.size := by rcases h with h | h <;> simp at h; omega
    rw [List.range_succ, List.map_append, List.map_cons, List.map_nil, joinB_snoc, join_pieces t k (by omega), show 96 * k - t.size = 0 by omega]
    have e0 : zerosB 0 = ⟨#[]⟩ := rfl
    rw [e0, bytes_append_nil, pad_split, piece_size, ← bytes_assoc]
    unfold pieceB
    rw [ext_app t (by omega), show 96 * k + 96 = 96 * (k + 1) by omega]
    congr 2
    omega
/-- its text, of the sectors that have it -/
theorem join_text (t : ByteArray) : (joinB ((List.range (piecesN t.size)).map fun j => dpadB (pieceB t j))).extract 0 t.size = t := by
  unfold piecesN
  rw [join_pieces t _ (by omega), ext_all t (by omega)]
  apply bytes_ext
  rw [ext_data, data_app, List.drop_zero, List.take_append_of_le_length (by rw [data_len]; exact Nat.le_refl _), List.take_of_length_le (by rw [data_len]; exact Nat.le_refl _)]
/-- where an area begins -/
def areaN (area : Nat) : Nat := 1 + 24 * area
/-- by which first number a log has no deeds -/
def freshN (N : List ByteArray) : Nat := if (decL (N[50]?.getD ⟨#[]⟩) 1).isSome then 2 else 1
theorem fresh_small (N : List ByteArray) : 1 ≤ freshN N ∧ freshN N ≤ 2 := by unfold freshN; split <;> omega
def rootOf (area first : Nat) (rows : List Chg) : ByteArray := rootB area first (packB rows).size
/-- the steps of laying rows on an area -/
def layOps (area first : Nat) (rows : List Chg) : List DOp := restFrom (areaN area) (piecesB (packB rows)) ++ ([.fl] ++ ([.wr 0 (rootOf area first rows)] ++ ([.fl] ++ [])))
/-- what stands on a disk: rows that were laid, and deeds since -/
structure OnDisk (N : List ByteArray) (n area first : Nat) (rows : List Chg) (ds : List (List Chg)) (u : Nat) : Prop where
  len : N.length = n
  n54 : 54 ≤ n
  a1 : area ≤ 1
  f1 : 1 ≤ first ∧ first ≤ 2
  root : N[0]? = some (dpadB (rootOf area first rows))
  text : ∀ j, j < piecesN (packB rows).size → N[areaN area + j]? = some (dpadB (pieceB (packB rows) j))
  fine : fineL rows
  few : rows.length ≤ 40
  has : HasL N 50 (n - 50) first ds u
theorem pack_small {rows : List Chg} (hf : fineL rows) (h : rows.length ≤ 40) : (packB rows).size ≤ 2280 := by
  have h1 := packB_size rows 55 fun c hc => by have := fault_key (hf.1 c hc).1; omega
  have : rows.length * (55 + 2) ≤ 40 * 57 := Nat.mul_le_mul (by omega) (by omega)
  omega
theorem root_size (area first : Nat) (rows : List Chg) : (rootOf area first rows).size = 16 := by
  unfold rootOf rootB
  rw [ByteArray.size_append]
  rfl
theorem regL_same {K N : List ByteArray} {fr many : Nat} (h : ∀ j, fr ≤ j → K[j]? = N[j]?) : regL K fr many = regL N fr many := by
  apply List.ext_getElem?
  intro j
  rw [regL_get, regL_get]
  split
  · exact h _ (by omega)
  · rfl
/-- what is there elsewhere is not looked at -/
theorem OnDisk.keep {N K : List ByteArray} {n area first u : Nat} {rows : List Chg} {ds : List (List Chg)} (h : OnDisk N n area first rows ds u) (hl : K.length = N.length) (hk : ∀ j, ¬ (areaN (1 - area) ≤ j ∧ j < areaN (1 - area) + 24) → K[j]? = N[j]?) : OnDisk K n area first rows ds u := by
  have ha := h.a1
  have hp := pack_small h.fine h.few
  refine ⟨hl.trans h.len, h.n54, h.a1, h.f1, (hk 0 (by unfold areaN; omega)).trans h.root, fun j hj => (hk _ ?_).trans (h.text j hj), h.fine, h.few, ?_⟩
  · unfold piecesN at hj
    unfold areaN
    omega
  · unfold HasL
    rw [regL_same (N := N) fun j hj => hk j (by unfold areaN; omega)]
    exact h.has
theorem fresh_none (N : List ByteArray) : decL (N[50]?.getD ⟨#[]⟩) (freshN N) = none := by
  unfold freshN
  cases h : decL (N[50]?.getD ⟨#[]⟩) 1 with
  | none => exact h
  | some kd =>
    show decL (N[50]?.getD ⟨#[]⟩) 2 = none
    generalize N[50]?.getD ⟨#[]⟩ = t at *
    unfold decL at h ⊢
    split at h
    case isFalse => cases h
    case isTrue hh =>
      rw [if_neg]
      intro h2
      have e1 := hh.2.1
      have e2 := h2.2.1
      have e : (fourB 1).toList = (fourB 2).toList := by
        have a := eq_of_beq e1
        have b := eq_of_beq e2
        rw [← a, ← b]
      exact absurd e (by decide +kernel)
theorem has_fresh {K N : List ByteArray} {n : Nat} (h54 : 54 ≤ n) (hn : K.length = n) (hN : N.length = n) (h : K[50]? = N[50]?) : HasL K 50 (n - 50) (freshN N) [] 0 := by
  unfold HasL
  have hf := fresh_none N
  have hg : (regL K 50 (n - 50))[0]? = N[50]? := by rw [regL_get, if_pos (by omega)]; exact h
  have hl : (regL K 50 (n - 50)).length = n - 50 := regL_len (by omega)
  cases hr : regL K 50 (n - 50) with
  | nil => rw [hr] at hl; simp at hl; omega
  | cons t r =>
    rw [hr] at hg
    have e : N[50]? = some t := by rw [← hg]; rfl
    rw [e, Option.getD_some] at hf
    generalize freshN N = f at *
    have hf2 : decL t (f + 0) = none := hf
    rw [scan_none hf2]
theorem fold_closed (X : List ByteArray → Prop) (l : List (Nat × ByteArray)) (hX : ∀ x ∈ l, ∀ K, X K → X (K.set x.1 (dpadB x.2))) : ∀ N, X N → X (l.foldl (fun N x => N.set x.1 (dpadB x.2)) N) := by
  induction l with
  | nil => intro N h; exact h
  | cons x l ih => intro N h; exact ih (fun y hy => hX y (List.mem_cons_of_mem _ hy)) _ (hX x (List.mem_cons_self ..) N h)
theorem pieces_len (t : ByteArray) : (piecesB t).length = piecesN t.size := by unfold piecesB; simp
theorem pieces_get (t : ByteArray) {j : Nat} (h : j < (piecesB t).length) : (piecesB t)[j] = pieceB t j := by simp [piecesB]
theorem pieces_size {t s : ByteArray} (h : s ∈ piecesB t) : s.size ≤ 96 := by
  unfold piecesB at h
  obtain ⟨k, _, rfl⟩ := List.mem_map.1 h
  rw [piece_size]
  omega
/-- to lay rows: all of them are there, or what was -/
theorem lay_run {s : DSt} {n area : Nat} {rows : List Chg} (Y X : List ByteArray → Prop) (hd : s.down = false) (hn : s.now.length = n) (h54 : 54 ≤ n) (ha : area ≤ 1) (hf : fineL rows) (hfew : rows.length ≤ 40) (hX0 : ∀ K, After s K → Y K) (hXN : Y s.now)
    (hXw : ∀ K j d, areaN area ≤ j → j < areaN area + 24 → Y K → Y (K.set j d)) (hYX : ∀ K, Y K → X K) (hXe : ∀ K, OnDisk K n area (freshN s.now) rows [] 0 → X K) :
    Run (runD (layOps area (freshN s.now) rows) s) (fun s' => s'.down = false ∧ s'.wait = [] ∧ s'.kept = s'.now ∧ OnDisk s'.now n area (freshN s.now) rows [] 0) X := by
  have hp := pack_small hf hfew
  have hpl := pieces_len (packB rows)
  have hp24 : (piecesB (packB rows)).length ≤ 24 := by rw [hpl]; unfold piecesN; omega
  have haN : areaN area + 24 ≤ 50 := by unfold areaN; omega
  have ha1 : 1 ≤ areaN area := by unfold areaN; omega
  have hfr := fresh_small s.now
  unfold layOps
  have erest : restFrom (areaN area) (piecesB (packB rows)) = (((piecesB (packB rows)).zipIdx (areaN area)).map fun x => (x.2, x.1)).map fun x => DOp.wr x.1 x.2 := by rw [rest_map, List.map_map]; rfl
  rw [erest]
  have hmem : ∀ x ∈ ((piecesB (packB rows)).zipIdx (areaN area)).map fun x => (x.2, x.1), areaN area ≤ x.1 ∧ x.1 < areaN area + 24 ∧ x.2.size ≤ 96 := fun x hx => by
    obtain ⟨y, hy, rfl⟩ := List.mem_map.1 hx
    have hy2 := List.mem_zipIdx hy
    refine ⟨hy2.1, by have := hy2.2.1; show y.2 < _; omega, ?_⟩
    show y.1.size ≤ 96
    rw [hy2.2.2]
    exact pieces_size (List.getElem_mem _)
  have r1 := Run.writes Y n (((piecesB (packB rows)).zipIdx (areaN area)).map fun x => (x.2, x.1)) s hd hn hX0 (fun x hx => by
    obtain ⟨q1, q2, q3⟩ := hmem x hx
    exact ⟨by omega, q3, fun K hK => hXw K _ _ q1 q2 hK⟩)
  refine Run.bind (r1.mono (fun _ h => h) hYX) fun s1 ⟨d1, n1, x1⟩ => ?_
  have xm : Y s1.now := by
    rw [n1]
    exact fold_closed Y _ (fun x hx K hK => by obtain ⟨q1, q2, _⟩ := hmem x hx; exact hXw K _ _ q1 q2 hK) _ hXN
  have n1len : s1.now.length = n := by rw [n1, set_fold_len]; exact hn
  have n1out : ∀ j, ¬ (areaN area ≤ j ∧ j < areaN area + 24) → s1.now[j]? = s.now[j]? := fun j hj => by
    rw [n1]
    exact set_fold _ j _ fun x hx => by obtain ⟨q1, q2, _⟩ := hmem x hx; omega
  have n1at : ∀ j (hj : j < (piecesB (packB rows)).length), s1.now[areaN area + j]? = some (dpadB (piecesB (packB rows))[j]) := fun j hj => by
    rw [n1, List.foldl_map]
    exact set_rest _ (areaN area) _ j hj (by omega)
  refine Run.bind ((Run.flush Y s1 d1 x1).mono (fun _ h => h) hYX) fun s2 ⟨d2, n2, k2, w2⟩ => ?_
  have hg : OnDisk (s1.now.set 0 (dpadB (rootOf area (freshN s.now) rows))) n area (freshN s.now) rows [] 0 := by
    refine ⟨by rw [List.length_set]; exact n1len, h54, ha, hfr, List.getElem?_set_self (by omega), fun j hj => ?_, hf, hfew, ?_⟩
    · have hj2 : j < (piecesB (packB rows)).length := by rw [hpl]; exact hj
      rw [List.getElem?_set_ne (by omega), n1at j hj2, pieces_get]
    · refine has_fresh h54 (by rw [List.length_set]; exact n1len) hn ?_
      rw [List.getElem?_set_ne (by omega)]
      exact n1out 50 (by omega)
  have g3 : ∀ K, (K = s1.now ∨ K = s1.now.set 0 (dpadB (rootOf area (freshN s.now) rows))) → X K := fun K hK => by
    rcases hK with rfl | rfl
    · exact hYX _ xm
    · exact hXe _ hg
  have r3 := Run.writes (fun K => K = s1.now ∨ K = s1.now.set 0 (dpadB (rootOf area (freshN s.now) rows))) n [(0, rootOf area (freshN s.now) rows)] s2 d2 (by rw [n2, n1len]) (fun K hK => .inl (by rw [after_kept w2 hK, k2])) (fun x hx => by
    rw [List.mem_singleton] at hx
    subst hx
    refine ⟨by show 0 < n; omega, by rw [root_size]; decide, fun K hK => .inr ?_⟩
    rcases hK with rfl | rfl
    · rfl
    · exact List.set_set ..)
  refine Run.bind (r3.mono (fun _ h => h) g3) fun s3 ⟨d3, n3, x3⟩ => ?_
  have n3' : s3.now = s1.now.set 0 (dpadB (rootOf area (freshN s.now) rows)) := by rw [n3, n2]; rfl
  refine Run.bind ((Run.flush _ s3 d3 x3).mono (fun _ h => h) g3) fun s4 ⟨d4, n4, k4, w4⟩ => ?_
  refine ⟨fun _ => ⟨d4, w4, by show s4.kept = s4.now; rw [k4, n4], ?_⟩, fun e => absurd rfl e⟩
  show OnDisk s4.now _ _ _ _ _ _
  rw [n4, n3']
  exact hg
/-- never armed: none of its steps falls -/
theorem lay_never {s : DSt} {n area : Nat} {rows : List Chg} (hd : s.down = false) (hl : s.left = -1) (hn : s.now.length = n) (h54 : 54 ≤ n) (ha : area ≤ 1) (hf : fineL rows) (hfew : rows.length ≤ 40) : (runD (layOps area (freshN s.now) rows) s).1 = 0 ∧ (runD (layOps area (freshN s.now) rows) s).2.left = -1 := by
  have hp := pack_small hf hfew
  have hpl := pieces_len (packB rows)
  have hp24 : (piecesB (packB rows)).length ≤ 24 := by rw [hpl]; unfold piecesN; omega
  have haN : areaN area + 24 ≤ 50 := by unfold areaN; omega
  refine never_run n _ s hd hl hn fun o ho a d e => ?_
  unfold layOps at ho
  simp only [List.append_nil, List.mem_append, List.mem_singleton] at ho
  rcases ho with ho | rfl | rfl | rfl
  · obtain ⟨p1, p2, p3⟩ := rest_mem _ _ o ho a d e
    exact ⟨by omega, pieces_size p3⟩
  · cases e
  · cases e; exact ⟨by omega, by rw [root_size]; decide⟩
  · cases e
end Go.Proofs.YtkfpfbkdalbjoaaGreat
