/-
  One element appended to a row of one's own, as a step of a walk: the element was laid in a new block first. Nothing of the program is named here.
-/
import Derived.Test.YtighpalbodhfeaaGreatDoorBase
import Derived.OwnWalk
import Derived.Test.YtighpalbodhfeaaGreatDoorRowErr
import Derived.Test.YtighpalbodhfeaaGreatDoorCutWalk
import Derived.Test.YtighpalbodhfeaaGreatDoorWordL
import Derived.Test.YtighpalbodhfeaaGreatDoorKeyB
import Derived.Deep.RegionWith
namespace Go.Proofs.YtighpalbodhfeaaGreatDoor
open Go.RowKit Go.Joins Go.WideShapes

theorem wp_append1 {P : Program} {ops : Array Oper} {rest : List Oper} {o : Oper} {a : Act} {Q : Exit → Act → World → Prop} (hgd : o.guard = none) (s x : Operand) (t : TypeId)
    (ho : o.op = .call { callee := .builtin .append, args := #[s, x], argTypes := #[t, t] })
    (base : Nat) (e : TypeId) (i : TypeInfo) (z : Value) (size bytes : Nat) (ht : P.underlying t = some (.slice e)) (hi : P.info? e = some i) (hz : i.zero = some z)
    (hsize : i.size = size) (hby : i.bytes = bytes) (hzs : z.cells.size = size) (hsz : 0 < size) (W : World) (C : List Value) (hC : C.length = size) (h1 : ∀ u ∈ C, u.oneCell' = true)
    (v : Value) (n : Nat) (xs : List Value) (hown : W.ownsRow base e size v n xs) (hs : a.eval s = v) (hx : a.eval x = .slice (some ⟨W.heap.size, 0, none⟩) 1 1)
    (hn : n ≤ 1000000) (hb : bytes ≤ 1000) (hbase : base ≤ W.heap.size)
    (h : ∀ v' w', w'.ownsRow base e size v' (n + 1) (xs ++ C) → (∀ w0, Below base w0 W → Below base w0 w') → wpList P ops Q rest (a.put o.dst v') w') : wpList P ops Q (o :: rest) a (W.alloc (.cells C.toArray e)) := by
  refine wpList_append_own _ hgd s x t ho base e i z size bytes ht hi hz hsize hby hzs hsz v n xs hs (hown.alloc _) ⟨W.heap.size, 0, none⟩ 1 1 C hx (by omega) ?_ h1 (by unfold maxLen; omega) ?_ (Nat.le_trans hbase (by simp)) ?_
  · intro j u hj
    have := cell_new W C.toArray e j
    rw [add_plain, Nat.zero_add, this]
    simpa using hj
  · have : (n + 1) * bytes ≤ 1000001 * 1000 := Nat.mul_le_mul (by omega) hb
    omega
  · intro v' w' h2 h3 _
    refine h v' w' h2 fun w0 hB => ?_
    exact (hB.trans ((below_alloc1 W _).mono hbase)).grown h3 (Nat.le_trans hbase (by simp)) (fun k hk => (hown.lt k hk).1)
end Go.Proofs.YtighpalbodhfeaaGreatDoor

/-
  What haywainref.words returns: a new row of the words of a text, at most so many; it makes new memory alone.
-/
namespace Go.Proofs.YtighpalbodhfeaaGreatDoor
open Go.RowKit Go.Joins

set_option maxRecDepth 100000 in
theorem str_info : ∃ i, Tryz.prog.info? 9 = some i ∧ i.zero = some (.string ⟨#[]⟩) ∧ i.size = 1 ∧ i.bytes = 16 := ⟨_, rfl, by kernel_rfl, by kernel_rfl, by kernel_rfl⟩
/-- a row of texts of one's own -/
def ownStr (w : World) (B : Nat) (v : Value) (l : List ByteArray) : Prop := w.ownsRow B 9 1 v l.length (l.map Value.string)
theorem ownStr_len {w : World} {B : Nat} {v : Value} {l : List ByteArray} (h : ownStr w B v l) : ∃ ao cap, v = .slice ao l.length cap := by
  rcases ownsRow_forms h with ⟨h1, h2⟩ | ⟨g, cap, h1⟩
  · exact ⟨none, 0, by rw [h1, h2]⟩
  · exact ⟨_, cap, h1⟩
theorem data_piece (s : ByteArray) (p k : Nat) : (s.extract p k).data.toList = (s.data.toList.take k).drop p := by
  rw [ByteArray.data_extract]
  simp only [Array.toList_extract, List.extract_eq_take_drop]
  exact List.drop_take.symm

set_option maxHeartbeats 2000000 in
theorem words_any (s : ByteArray) (most : Nat) (w : World) (hm : 1 ≤ most) (hm' : most ≤ 99) (hs : s.size ≤ 1000) :
    Calls Tryz.prog 107 #[.string s, .int .i64 most] w fun e w' => ∃ v, e = .returned v ∧ ∃ out rest, ownStr w' w.heap.size v (out ++ [rest]) ∧ wordsR s most out rest ∧ Below w.heap.size w w' := by
  obtain ⟨i0, hi0, hz0, hs0, hb0⟩ := str_info
  have hl := len_data s
  go_enter Tryz.func107, Tryz.ntmps107
  go_wp2
  go_loopw [5, 6, 7] (fun v f i wr => ∃ (out : List ByteArray) (p k : Nat), p ≤ k ∧ k ≤ s.size ∧ f = .int .i64 p ∧ i = .int .i64 k ∧ ownStr wr w.heap.size v out ∧ s.data.toList.take p = (out.map fun x => x.data.toList ++ [32]).flatten ∧ (∀ x ∈ out, ∀ c ∈ x.data.toList, c ≠ 32) ∧ (∀ c ∈ (s.data.toList.take k).drop p, c ≠ 32) ∧ out.length + 1 ≤ most ∧ Below w.heap.size w wr) (fun _ _ i _ => s.size - (intOf i).toNat)
  case atStart => exact ⟨[], 0, 0, Nat.le_refl _, Nat.zero_le _, rfl, rfl, World.ownsRow_nil _ _ _ _, by simp, by simp, by simp, by simpa using hm, Below.refl _ _⟩
  case round =>
    obtain ⟨out, p, k, hpk, hk, rfl, rfl, hown, hout, hno, hpiece, hlen, hB⟩ := hrel
    have HO := hide hout
    have HN := hide hno
    have HP := hide hpiece
    have HL := hide hl
    clear hout hno hpiece hl
    obtain ⟨ao, cap, rfl⟩ := ownStr_len hown
    have hpk' : (p : Int) ≤ (k : Int) := by omega
    by_cases hlt : k < s.size
    · have hlt' : (k : Int) < (s.size : Int) := by omega
      have d1 := decide_eq_true hlt'
      by_cases hmost : out.length + 1 < most
      · have hmost' : (out.length : Int) + 1 < (most : Int) := by omega
        have HG := hide (show s.data.toList.take (k + 1) = s.data.toList.take k ++ [s[k]] by rw [List.take_succ_eq_append_getElem (by rw [HL.out]; exact hlt)]; rfl)
        by_cases hc : s[k] = 32
        · have c32 : (s[k].toNat : Int) = 32 := by rw [hc]; rfl
          have HC := hide hc
          clear hc
          have HX := hide (data_piece s p k)
          go_wp2_with (at_builtin; refine wp_append1 rfl _ _ 161 rfl w.heap.size 9 i0 _ 1 16 Tryz.underlying161 hi0 hz0 hs0 hb0 rfl (by omega) _ [Value.string (s.extract p k)] rfl (by simp [Value.oneCell']) _ out.length (out.map Value.string) hown rfl rfl (by omega) (by omega) hB.size ?_; intro v1 w1 ho1 hb1; replace hB : Below w.heap.size w w1 := hb1 w hB; clear hb1)
          go_roundw
          case rel =>
            refine ⟨out ++ [s.extract p k], k + 1, k + 1, Nat.le_refl _, by omega, by go_num, by go_num, by simpa [ownStr] using ho1, ?_, ?_, ?_, by simp; omega, hB⟩
            · rw [HG.out, HC.out, List.map_append, List.flatten_append, ← HO.out]
              simp only [List.map_cons, List.map_nil, List.flatten_cons, List.flatten_nil, List.append_nil]
              have e : s.data.toList.take p ++ (s.data.toList.take k).drop p = s.data.toList.take k := by
                rw [show s.data.toList.take p = (s.data.toList.take k).take p by rw [List.take_take, Nat.min_eq_left hpk], List.take_append_drop]
              rw [HX.out, ← List.append_assoc, e]
            · intro x hx
              rcases List.mem_append.1 hx with hx | hx
              · exact HN.out x hx
              · rw [List.mem_singleton.1 hx, HX.out]; exact HP.out
            · intro c hc
              rw [List.drop_eq_nil_of_le (by rw [List.length_take]; omega)] at hc
              cases hc
          case measure => simp [intOf]; omega
        · have c32 : ((s[k].toNat : Int) == 32) = false := beq_eq_false_iff_ne.2 fun e => hc (UInt8.toNat_inj.1 (by simpa using Int.ofNat.inj e))
          have HC := hide hc
          clear hc
          go_wp2
          go_roundw
          case rel =>
            refine ⟨out, p, k + 1, by omega, by omega, rfl, by go_num, hown, HO.out, HN.out, ?_, hlen, hB⟩
            intro c hc
            rw [HG.out, List.drop_append_of_le_length (by rw [List.length_take, HL.out]; omega)] at hc
            rcases List.mem_append.1 hc with hc | hc
            · exact HP.out c hc
            · rw [List.mem_singleton.1 hc]; exact HC.out
          case measure => simp [intOf]; omega
      · have hmost' : ¬ (out.length : Int) + 1 < (most : Int) := by omega
        have hps : (p : Int) ≤ (s.size : Int) := by omega
        go_wp2_with (at_builtin; refine wp_append1 rfl _ _ 161 rfl w.heap.size 9 i0 _ 1 16 Tryz.underlying161 hi0 hz0 hs0 hb0 rfl (by omega) _ [Value.string (s.extract p s.size)] rfl (by simp [Value.oneCell']) _ out.length (out.map Value.string) hown rfl rfl (by omega) (by omega) hB.size ?_; intro v1 w1 ho1 hb1; replace hB : Below w.heap.size w w1 := hb1 w hB; clear hb1)
        go_ret
        refine ⟨_, rfl, out, s.extract p s.size, by simpa [ownStr] using ho1, ⟨?_, HN.out, .inr (by omega), hlen⟩, hB⟩
        rw [← HO.out, data_piece, show s.data.toList.take s.size = s.data.toList from List.take_of_length_le (by rw [HL.out]; exact Nat.le_refl _), List.take_append_drop]
    · have hlt' : ¬ (k : Int) < (s.size : Int) := by omega
      have d1 := decide_eq_false hlt'
      have hps : (p : Int) ≤ (s.size : Int) := by omega
      go_wp2_with (at_builtin; refine wp_append1 rfl _ _ 161 rfl w.heap.size 9 i0 _ 1 16 Tryz.underlying161 hi0 hz0 hs0 hb0 rfl (by omega) _ [Value.string (s.extract p s.size)] rfl (by simp [Value.oneCell']) _ out.length (out.map Value.string) hown rfl rfl (by omega) (by omega) hB.size ?_; intro v1 w1 ho1 hb1; replace hB : Below w.heap.size w w1 := hb1 w hB; clear hb1)
      go_ret
      have e : s.data.toList.take k = s.data.toList := List.take_of_length_le (by rw [HL.out]; omega)
      refine ⟨_, rfl, out, s.extract p s.size, by simpa [ownStr] using ho1, ⟨?_, HN.out, .inl ?_, hlen⟩, hB⟩
      · rw [← HO.out, data_piece, show s.data.toList.take s.size = s.data.toList from List.take_of_length_le (by rw [HL.out]; exact Nat.le_refl _), List.take_append_drop]
      · have := HP.out
        rw [e] at this
        rw [data_piece, List.take_of_length_le (by rw [HL.out]; omega)]
        exact this
end Go.Proofs.YtighpalbodhfeaaGreatDoor

/-
  What haywainref.QueueOf and MessageOf return of every text: the queue, the message, that was written so, or none; they make new memory alone.
-/
namespace Go.Proofs.YtighpalbodhfeaaGreatDoor
open Go.RowKit Go.Joins

set_option maxHeartbeats 4000000 in
theorem queueOf_yes (s : ByteArray) (n t : Nat) (d : ByteArray) (w : World) (hs : s.size ≤ 1000) (hq : queueMay n t d) (he : s = joinB n t d) :
    Calls Tryz.prog 67 #[.string s] w fun e w' => e = .returned (.tuple #[.agg #[.int .i64 n, .int .i64 t, .string d], .int .i64 0]) ∧ Below w.heap.size w w' := by
  have hB := below_alloc1 w (Obj.cells #[Value.int .i64 0, Value.int .i64 0, Value.string ⟨#[]⟩] 76)
  have fz := frozen_new w #[Value.int .i64 0, Value.int .i64 0, Value.string ⟨#[]⟩] 76
  have h0 : w.heap.size < (w.alloc (Obj.cells #[Value.int .i64 0, Value.int .i64 0, Value.string ⟨#[]⟩] 76)).heap.size := by simp
  have r0 : (w.alloc (Obj.cells #[Value.int .i64 0, Value.int .i64 0, Value.string ⟨#[]⟩] 76)).cell? ⟨w.heap.size, 0, none⟩ = some (Value.int .i64 0) := by simp
  have r1 : (w.alloc (Obj.cells #[Value.int .i64 0, Value.int .i64 0, Value.string ⟨#[]⟩] 76)).cell? ⟨w.heap.size, 1, none⟩ = some (Value.int .i64 0) := by simp
  have r2 : (w.alloc (Obj.cells #[Value.int .i64 0, Value.int .i64 0, Value.string ⟨#[]⟩] 76)).cell? ⟨w.heap.size, 2, none⟩ = some (Value.string ⟨#[]⟩) := by simp
  have HQ := hide hq
  have HE := hide he
  clear hq he
  go_enter Tryz.func67, Tryz.ntmps67
  go_wp2_with fail
  refine (words_any s 99 _ (by omega) (by omega) hs).mono ?_
  rintro e w1 ⟨v, rfl, out, rest, hown, hwd, hb⟩
  replace hB := below_on hB (Nat.le_refl _) hb
  replace fz := fun j => frozen_on hb h0 (fz j)
  replace r0 := cell_on hb r0
  replace r1 := cell_on hb r1
  replace r2 := cell_on hb r2
  clear hb h0
  obtain ⟨rfl, rfl⟩ := words_queue hwd HQ.out HE.out
  clear hwd
  obtain ⟨g, cap, rfl⟩ := ownsRow_form hown (by simp)
  have q0 : w1.cell? ⟨g, 0, none⟩ = some (.string (decB n)) := by have := hown.cells (g := g) rfl 0 (.string (decB n)) rfl; rwa [WideShapes.add_plain, Nat.zero_add] at this
  have q1 : w1.cell? ⟨g, 1, none⟩ = some (.string (decB t)) := by have := hown.cells (g := g) rfl 1 (.string (decB t)) rfl; rwa [WideShapes.add_plain, Nat.zero_add] at this
  have q2 : w1.cell? ⟨g, 2, none⟩ = some (.string rest) := by have := hown.cells (g := g) rfl 2 (.string rest) rfl; rwa [WideShapes.add_plain, Nat.zero_add] at this
  clear hown
  have HN := fun w' => hide (natural_any (decB n) 999999 w' (by omega) (by rw [Lib.size_eq, decB_l]; have := len_dec_lt n (by have := HQ.out.1; omega); omega))
  have HM := fun w' => hide (natural_any (decB t) 9 w' (by omega) (by rw [Lib.size_eq, decB_l]; have := len_dec_lt t (by have := HQ.out.2.2.1; omega); omega))
  have t1 : (1 : Int) ≤ (t : Int) := by have := HQ.out.2.1; omega
  have n0 : (0 : Int) ≤ (n : Int) := by omega
  rw [decB_l] at HN HM
  generalize decB n = x at *
  generalize decB t = y at *
  go_wp2_with fail
  refine ((HN _).out).mono ?_
  rintro e w2 ⟨⟨r, rfl, hr⟩, rfl⟩
  obtain rfl := natR_dec hr HQ.out.1
  clear hr
  go_wp2_with fail
  refine ((HM _).out).mono ?_
  rintro e w2 ⟨⟨r, rfl, hr⟩, rfl⟩
  obtain rfl := natR_dec hr HQ.out.2.2.1
  clear hr HN HM
  have hd := HQ.out.2.2.2
  rcases hd with hd | ⟨hd, hd'⟩
  all_goals
    go_wp2_with (go_at_call 53; refine (nameMay_any _ _).mono ?_; rintro e w3 ⟨rfl, rfl⟩)
    exact bodyPost_ret (v := .tuple #[.agg #[.int .i64 n, .int .i64 t, .string rest], .int .i64 0]) (by simp [results, Tryz.results67, go_sem, r0, r1, r2]) rfl ⟨rfl, (((hB.setCell (Nat.le_refl _) _).setCell (Nat.le_refl _) _).setCell (Nat.le_refl _) _)⟩
set_option maxHeartbeats 4000000 in
theorem queueOf_no (s : ByteArray) (w : World) (hs : s.size ≤ 1000) (hno : ∀ n t d, queueMay n t d → s ≠ joinB n t d) :
    Calls Tryz.prog 67 #[.string s] w fun e w' => e = .returned (.tuple #[.agg #[.int .i64 0, .int .i64 0, .string ⟨#[]⟩], .int .i64 4]) ∧ Below w.heap.size w w' := by
  have hB := below_alloc1 w (Obj.cells #[Value.int .i64 0, Value.int .i64 0, Value.string ⟨#[]⟩] 76)
  have fz := frozen_new w #[Value.int .i64 0, Value.int .i64 0, Value.string ⟨#[]⟩] 76
  have h0 : w.heap.size < (w.alloc (Obj.cells #[Value.int .i64 0, Value.int .i64 0, Value.string ⟨#[]⟩] 76)).heap.size := by simp
  have r0 : (w.alloc (Obj.cells #[Value.int .i64 0, Value.int .i64 0, Value.string ⟨#[]⟩] 76)).cell? ⟨w.heap.size, 0, none⟩ = some (Value.int .i64 0) := by simp
  have r1 : (w.alloc (Obj.cells #[Value.int .i64 0, Value.int .i64 0, Value.string ⟨#[]⟩] 76)).cell? ⟨w.heap.size, 1, none⟩ = some (Value.int .i64 0) := by simp
  have r2 : (w.alloc (Obj.cells #[Value.int .i64 0, Value.int .i64 0, Value.string ⟨#[]⟩] 76)).cell? ⟨w.heap.size, 2, none⟩ = some (Value.string ⟨#[]⟩) := by simp
  have HO := hide hno
  clear hno
  go_enter Tryz.func67, Tryz.ntmps67
  go_wp2_with fail
  refine (words_any s 99 _ (by omega) (by omega) hs).mono ?_
  rintro e w1 ⟨v, rfl, out, rest, hown, hwd, hb⟩
  replace hB := below_on hB (Nat.le_refl _) hb
  replace fz := fun j => frozen_on hb h0 (fz j)
  replace r0 := cell_on hb r0
  replace r1 := cell_on hb r1
  replace r2 := cell_on hb r2
  clear hb h0
  by_cases ho : out.length = 2
  · obtain ⟨x, y, rfl⟩ := out_two ho
    clear ho
    have hsz : x.size ≤ 1000 ∧ y.size ≤ 1000 := by
      have := congrArg List.length (words_two hwd)
      rw [len_data] at this
      simp only [List.length_append, List.length_cons, len_data] at this
      omega
    have HN := fun w' => hide (natural_any x 999999 w' (by omega) hsz.1)
    have HM := fun w' => hide (natural_any y 9 w' (by omega) hsz.2)
    have HW := hide hwd
    clear hsz hwd
    obtain ⟨g, cap, rfl⟩ := ownsRow_form hown (by simp)
    have q0 : w1.cell? ⟨g, 0, none⟩ = some (.string x) := by have := hown.cells (g := g) rfl 0 (.string x) rfl; rwa [WideShapes.add_plain, Nat.zero_add] at this
    have q1 : w1.cell? ⟨g, 1, none⟩ = some (.string y) := by have := hown.cells (g := g) rfl 1 (.string y) rfl; rwa [WideShapes.add_plain, Nat.zero_add] at this
    have q2 : w1.cell? ⟨g, 2, none⟩ = some (.string rest) := by have := hown.cells (g := g) rfl 2 (.string rest) rfl; rwa [WideShapes.add_plain, Nat.zero_add] at this
    clear hown
    go_wp2_with fail
    refine ((HN _).out).mono ?_
    rintro e w2 ⟨⟨a, rfl, ha⟩, rfl⟩
    go_wp2_with fail
    refine ((HM _).out).mono ?_
    rintro e w2 ⟨⟨b, rfl, hb⟩, rfl⟩
    have hbad := words_no_queue HW.out ha hb HO.out
    clear ha hb HN HM HW HO
    rcases hbad with k1 | ⟨k1, k2⟩ | ⟨k1, k2, k3, k4⟩
    all_goals
      go_wp2_with (go_at_call 53; refine (nameMay_any _ _).mono ?_; rintro e w3 ⟨rfl, rfl⟩)
      exact bodyPost_ret (v := .tuple #[.agg #[.int .i64 0, .int .i64 0, .string ⟨#[]⟩], .int .i64 4]) (by simp [results, Tryz.results67, go_sem, r0, r1, r2]) rfl ⟨rfl, (((hB.setCell (Nat.le_refl _) _).setCell (Nat.le_refl _) _).setCell (Nat.le_refl _) _)⟩
  · obtain ⟨ao, cap, rfl⟩ := ownStr_len hown
    have g3 : (((out ++ [rest]).length : Nat) : Int) ≠ 3 := by simp; omega
    have g4 : (((out ++ [rest]).length : Int) != 3) = true := bne_iff_ne.2 g3
    generalize (out ++ [rest]).length = len at *
    clear hown hwd
    go_wp2
    exact bodyPost_ret (v := .tuple #[.agg #[.int .i64 0, .int .i64 0, .string ⟨#[]⟩], .int .i64 4]) (by simp [results, Tryz.results67, go_sem, r0, r1, r2]) rfl ⟨rfl, (((hB.setCell (Nat.le_refl _) _).setCell (Nat.le_refl _) _).setCell (Nat.le_refl _) _)⟩

set_option maxHeartbeats 4000000 in
theorem messageOf_yes (s : ByteArray) (k : Int) (t u : Nat) (d : ByteArray) (w : World) (hs : s.size ≤ 1000) (hq : messageMay t u d) (he : s = joinB t u d) :
    Calls Tryz.prog 88 #[.int .i64 k, .string s] w fun e w' => e = .returned (.tuple #[.agg #[.int .i64 k, .int .i64 t, .int .i64 u, .string d], .int .i64 0]) ∧ Below w.heap.size w w' := by
  have hB := below_alloc1 w (Obj.cells #[Value.int .i64 0, Value.int .i64 0, Value.int .i64 0, Value.string ⟨#[]⟩] 48)
  have fz := frozen_new w #[Value.int .i64 0, Value.int .i64 0, Value.int .i64 0, Value.string ⟨#[]⟩] 48
  have h0 : w.heap.size < (w.alloc (Obj.cells #[Value.int .i64 0, Value.int .i64 0, Value.int .i64 0, Value.string ⟨#[]⟩] 48)).heap.size := by simp
  have r0 : (w.alloc (Obj.cells #[Value.int .i64 0, Value.int .i64 0, Value.int .i64 0, Value.string ⟨#[]⟩] 48)).cell? ⟨w.heap.size, 0, none⟩ = some (Value.int .i64 0) := by simp
  have r1 : (w.alloc (Obj.cells #[Value.int .i64 0, Value.int .i64 0, Value.int .i64 0, Value.string ⟨#[]⟩] 48)).cell? ⟨w.heap.size, 1, none⟩ = some (Value.int .i64 0) := by simp
  have r2 : (w.alloc (Obj.cells #[Value.int .i64 0, Value.int .i64 0, Value.int .i64 0, Value.string ⟨#[]⟩] 48)).cell? ⟨w.heap.size, 2, none⟩ = some (Value.int .i64 0) := by simp
  have r3 : (w.alloc (Obj.cells #[Value.int .i64 0, Value.int .i64 0, Value.int .i64 0, Value.string ⟨#[]⟩] 48)).cell? ⟨w.heap.size, 3, none⟩ = some (Value.string ⟨#[]⟩) := by simp
  have HQ := hide hq
  have HE := hide he
  clear hq he
  go_enter Tryz.func88, Tryz.ntmps88
  go_wp2_with fail
  refine (words_any s 3 _ (by omega) (by omega) hs).mono ?_
  rintro e w1 ⟨v, rfl, out, rest, hown, hwd, hb⟩
  replace hB := below_on hB (Nat.le_refl _) hb
  replace fz := fun j => frozen_on hb h0 (fz j)
  replace r0 := cell_on hb r0
  replace r1 := cell_on hb r1
  replace r2 := cell_on hb r2
  replace r3 := cell_on hb r3
  clear hb h0
  obtain ⟨rfl, rfl⟩ := words_message hwd HE.out
  clear hwd
  obtain ⟨g, cap, rfl⟩ := ownsRow_form hown (by simp)
  have q0 : w1.cell? ⟨g, 0, none⟩ = some (.string (decB t)) := by have := hown.cells (g := g) rfl 0 (.string (decB t)) rfl; rwa [WideShapes.add_plain, Nat.zero_add] at this
  have q1 : w1.cell? ⟨g, 1, none⟩ = some (.string (decB u)) := by have := hown.cells (g := g) rfl 1 (.string (decB u)) rfl; rwa [WideShapes.add_plain, Nat.zero_add] at this
  have q2 : w1.cell? ⟨g, 2, none⟩ = some (.string rest) := by have := hown.cells (g := g) rfl 2 (.string rest) rfl; rwa [WideShapes.add_plain, Nat.zero_add] at this
  clear hown
  have HN := fun w' => hide (natural_any (decB t) 9 w' (by omega) (by rw [Lib.size_eq, decB_l]; have := len_dec_lt t (by have := HQ.out.1; omega); omega))
  have HM := fun w' => hide (natural_any (decB u) 2000000 w' (by omega) (by rw [Lib.size_eq, decB_l]; have := len_dec_lt u (by have := HQ.out.2.1; omega); omega))
  have r28 : ¬ (28 : Int) < (rest.size : Int) := by have := HQ.out.2.2; omega
  rw [decB_l] at HN HM
  generalize decB t = x at *
  generalize decB u = y at *
  go_wp2_with fail
  refine ((HN _).out).mono ?_
  rintro e w2 ⟨⟨r, rfl, hr⟩, rfl⟩
  obtain rfl := natR_dec hr HQ.out.1
  clear hr
  go_wp2_with fail
  refine ((HM _).out).mono ?_
  rintro e w2 ⟨⟨r, rfl, hr⟩, rfl⟩
  obtain rfl := natR_dec hr HQ.out.2.1
  clear hr HN HM
  go_wp2
  exact bodyPost_ret (v := .tuple #[.agg #[.int .i64 k, .int .i64 t, .int .i64 u, .string rest], .int .i64 0]) (by simp [results, Tryz.results88, go_sem, r0, r1, r2, r3]) rfl ⟨rfl, ((((hB.setCell (Nat.le_refl _) _).setCell (Nat.le_refl _) _).setCell (Nat.le_refl _) _).setCell (Nat.le_refl _) _)⟩
set_option maxHeartbeats 4000000 in
theorem messageOf_no (s : ByteArray) (k : Int) (w : World) (hs : s.size ≤ 1000) (hno : ∀ t u d, messageMay t u d → s ≠ joinB t u d) :
    Calls Tryz.prog 88 #[.int .i64 k, .string s] w fun e w' => e = .returned (.tuple #[.agg #[.int .i64 0, .int .i64 0, .int .i64 0, .string ⟨#[]⟩], .int .i64 4]) ∧ Below w.heap.size w w' := by
  have hB := below_alloc1 w (Obj.cells #[Value.int .i64 0, Value.int .i64 0, Value.int .i64 0, Value.string ⟨#[]⟩] 48)
  have fz := frozen_new w #[Value.int .i64 0, Value.int .i64 0, Value.int .i64 0, Value.string ⟨#[]⟩] 48
  have h0 : w.heap.size < (w.alloc (Obj.cells #[Value.int .i64 0, Value.int .i64 0, Value.int .i64 0, Value.string ⟨#[]⟩] 48)).heap.size := by simp
  have r0 : (w.alloc (Obj.cells #[Value.int .i64 0, Value.int .i64 0, Value.int .i64 0, Value.string ⟨#[]⟩] 48)).cell? ⟨w.heap.size, 0, none⟩ = some (Value.int .i64 0) := by simp
  have r1 : (w.alloc (Obj.cells #[Value.int .i64 0, Value.int .i64 0, Value.int .i64 0, Value.string ⟨#[]⟩] 48)).cell? ⟨w.heap.size, 1, none⟩ = some (Value.int .i64 0) := by simp
  have r2 : (w.alloc (Obj.cells #[Value.int .i64 0, Value.int .i64 0, Value.int .i64 0, Value.string ⟨#[]⟩] 48)).cell? ⟨w.heap.size, 2, none⟩ = some (Value.int .i64 0) := by simp
  have r3 : (w.alloc (Obj.cells #[Value.int .i64 0, Value.int .i64 0, Value.int .i64 0, Value.string ⟨#[]⟩] 48)).cell? ⟨w.heap.size, 3, none⟩ = some (Value.string ⟨#[]⟩) := by simp
  have HO := hide hno
  clear hno
  go_enter Tryz.func88, Tryz.ntmps88
  go_wp2_with fail
  refine (words_any s 3 _ (by omega) (by omega) hs).mono ?_
  rintro e w1 ⟨v, rfl, out, rest, hown, hwd, hb⟩
  replace hB := below_on hB (Nat.le_refl _) hb
  replace fz := fun j => frozen_on hb h0 (fz j)
  replace r0 := cell_on hb r0
  replace r1 := cell_on hb r1
  replace r2 := cell_on hb r2
  replace r3 := cell_on hb r3
  clear hb h0
  by_cases ho : out.length = 2
  · obtain ⟨x, y, rfl⟩ := out_two ho
    clear ho
    have hsz : x.size ≤ 1000 ∧ y.size ≤ 1000 := by
      have := congrArg List.length (words_two hwd)
      rw [len_data] at this
      simp only [List.length_append, List.length_cons, len_data] at this
      omega
    have HN := fun w' => hide (natural_any x 9 w' (by omega) hsz.1)
    have HM := fun w' => hide (natural_any y 2000000 w' (by omega) hsz.2)
    have HW := hide hwd
    clear hsz hwd
    obtain ⟨g, cap, rfl⟩ := ownsRow_form hown (by simp)
    have q0 : w1.cell? ⟨g, 0, none⟩ = some (.string x) := by have := hown.cells (g := g) rfl 0 (.string x) rfl; rwa [WideShapes.add_plain, Nat.zero_add] at this
    have q1 : w1.cell? ⟨g, 1, none⟩ = some (.string y) := by have := hown.cells (g := g) rfl 1 (.string y) rfl; rwa [WideShapes.add_plain, Nat.zero_add] at this
    have q2 : w1.cell? ⟨g, 2, none⟩ = some (.string rest) := by have := hown.cells (g := g) rfl 2 (.string rest) rfl; rwa [WideShapes.add_plain, Nat.zero_add] at this
    clear hown
    by_cases h28 : rest.size ≤ 28
    · have r28 : ¬ (28 : Int) < (rest.size : Int) := by omega
      go_wp2_with fail
      refine ((HN _).out).mono ?_
      rintro e w2 ⟨⟨a, rfl, ha⟩, rfl⟩
      go_wp2_with fail
      refine ((HM _).out).mono ?_
      rintro e w2 ⟨⟨b, rfl, hb⟩, rfl⟩
      have hbad := words_no_message HW.out h28 ha hb HO.out
      clear ha hb HN HM HW HO
      rcases hbad with k1 | ⟨k1, k2⟩
      all_goals
        go_wp2
        exact bodyPost_ret (v := .tuple #[.agg #[.int .i64 0, .int .i64 0, .int .i64 0, .string ⟨#[]⟩], .int .i64 4]) (by simp [results, Tryz.results88, go_sem, r0, r1, r2, r3]) rfl ⟨rfl, ((((hB.setCell (Nat.le_refl _) _).setCell (Nat.le_refl _) _).setCell (Nat.le_refl _) _).setCell (Nat.le_refl _) _)⟩
    · have r28 : (28 : Int) < (rest.size : Int) := by omega
      go_wp2
      exact bodyPost_ret (v := .tuple #[.agg #[.int .i64 0, .int .i64 0, .int .i64 0, .string ⟨#[]⟩], .int .i64 4]) (by simp [results, Tryz.results88, go_sem, r0, r1, r2, r3]) rfl ⟨rfl, ((((hB.setCell (Nat.le_refl _) _).setCell (Nat.le_refl _) _).setCell (Nat.le_refl _) _).setCell (Nat.le_refl _) _)⟩
  · obtain ⟨ao, cap, rfl⟩ := ownStr_len hown
    have g3 : (((out ++ [rest]).length : Nat) : Int) ≠ 3 := by simp; omega
    have g4 : (((out ++ [rest]).length : Int) != 3) = true := bne_iff_ne.2 g3
    generalize (out ++ [rest]).length = len at *
    clear hown hwd
    go_wp2
    exact bodyPost_ret (v := .tuple #[.agg #[.int .i64 0, .int .i64 0, .int .i64 0, .string ⟨#[]⟩], .int .i64 4]) (by simp [results, Tryz.results88, go_sem, r0, r1, r2, r3]) rfl ⟨rfl, ((((hB.setCell (Nat.le_refl _) _).setCell (Nat.le_refl _) _).setCell (Nat.le_refl _) _).setCell (Nat.le_refl _) _)⟩
end Go.Proofs.YtighpalbodhfeaaGreatDoor

/-
  What haywainref.Decimal and Six return of numbers that aren't negative: the digits; they make new memory alone.
-/
namespace Go.Proofs.YtighpalbodhfeaaGreatDoor
open Go.RowKit Go.Joins

theorem decB_small {n : Nat} (h : n < 10) : decB n = ⟨#[UInt8.ofNat (48 + n)]⟩ := by
  unfold decB; rw [Lib.decDigits_one h]
theorem decB_big {n : Nat} (h : ¬ n < 10) : decB n = decB (n / 10) ++ ⟨#[UInt8.ofNat (48 + n % 10)]⟩ := by
  apply data_inj
  rw [ByteArray.data_append]
  simp only [decB]
  rw [Lib.decDigits, dif_neg h]
  simp

set_option maxHeartbeats 400000 in
set_option maxRecDepth 4000 in
theorem decimal_any (n : Nat) : ∀ (w : World), n ≤ 9999999 →
    Calls Tryz.prog 103 #[.int .i64 n] w fun e w' => e = .returned (.string (decB n)) ∧ Below w.heap.size w w' := by
  induction n using Nat.strongRecOn with
  | _ n ih =>
    intro w hn
    by_cases h : n < 10
    · have g1 : ¬ (n : Int) < 0 := by omega
      have g2 : (n : Int) < 10 := by omega
      have w1 : wrap64 (48 + (n : Int)) = 48 + n := by unfold wrap64; omega
      have w2 : (48 + (n : Int)) % 256 = 48 + n := by omega
      have hX := below_alloc1 w (Obj.cells #[Value.int .u8 (48 + (n : Int))] 5)
      have hcv := run_convert_bytes_back (P := Tryz.prog) (w.alloc (Obj.cells #[Value.int .u8 (48 + (n : Int))] 5)) 181 9 5 ⟨w.heap.size, 0, none⟩ 1 [UInt8.ofNat (48 + n)] Tryz.underlying181 Tryz.underlying5 Tryz.underlying9 (fun j hj => by
        have hj2 : j = 0 := by simp at hj; omega
        subst hj2
        simp [Addr.add]
        omega)
      simp only [List.length_cons, List.length_nil, Nat.zero_add] at hcv
      rw [decB_small h]
      clear ih
      go_enter Tryz.func103, Tryz.ntmps103
      go_wp2
      go_ret
      exact ⟨rfl, hX⟩
    · have HI := fun w' => hide (ih (n / 10) (by omega) w' (by omega))
      rw [decB_big h]
      clear ih
      have q1 : (n : Int).tdiv 10 = ((n / 10 : Nat) : Int) := by rw [Int.tdiv_eq_ediv_of_nonneg (by omega)]; omega
      have q2 : (n : Int).tmod 10 = ((n % 10 : Nat) : Int) := by rw [Int.tmod_eq_emod_of_nonneg (by omega)]; omega
      have hlen : (decB (n / 10)).size ≤ 7 := by rw [Lib.size_eq, decB_l]; exact len_dec_lt _ (by omega)
      have g1 : decide ((n : Int) < 0) = false := by simp
      have g2 : decide ((n : Int) < 10) = false := by simp; omega
      have hm : n / 10 ≤ 999999 := by omega
      have hd : n % 10 < 10 := by omega
      generalize decB (n / 10) = D at *
      generalize n / 10 = m at *
      generalize n % 10 = d at *
      obtain ⟨x, hx⟩ : ∃ x : Nat, x = 48 + d := ⟨_, rfl⟩
      have k1 : IntKind.i64.wrap (m : Int) = m := by simp [IntKind.wrap, IntKind.bits]; omega
      have k2 : IntKind.i64.wrap (48 + (d : Int)) = (x : Int) := by simp [IntKind.wrap, IntKind.bits]; omega
      have k3 : IntKind.u8.wrap (x : Int) = x := by simp [IntKind.wrap, IntKind.bits]; omega
      have hcv := fun (W : World) (b : Nat) (h : W.cell? ⟨b, 0, none⟩ = some (.int .u8 (x : Int))) => run_convert_bytes_back (P := Tryz.prog) W 181 9 5 ⟨b, 0, none⟩ 1 [UInt8.ofNat x] Tryz.underlying181 Tryz.underlying5 Tryz.underlying9 (fun j hj => by
        have hj2 : j = 0 := by simp at hj; omega
        subst hj2
        have e : (⟨b, 0, none⟩ : Addr).add 0 = ⟨b, 0, none⟩ := by simp [Addr.add]
        rw [e, h]
        simp
        omega)
      simp only [List.length_cons, List.length_nil, Nat.zero_add] at hcv
      have hcv1 := hcv (w.drew.alloc (Obj.cells #[Value.int .u8 (x : Int)] 5)) w.heap.size (cell_new w.drew #[Value.int .u8 (x : Int)] 5 0)
      rw [← hx]
      have s1 : ¬ 9223372036854775807 < D.size + 1 := by omega
      have hb0 : Below w.heap.size w (w.drew.alloc (Obj.cells #[Value.int .u8 (x : Int)] 5)) := below_on (Below.refl _ _).drew (Nat.le_refl _) (below_alloc1 _ _)
      clear hx hd hn hm h
      go_enter Tryz.func103, Tryz.ntmps103
      go_wp2
      go_region_with (first | (go_at_call_of 103 (Value.int IntKind.i64 (m : Int)); refine ((HI _).out).mono ?_; rintro e w1 ⟨rfl, hb⟩; first | (have z0 : w1.cell? ⟨w.heap.size, 0, none⟩ = some (.int .u8 (x : Int)) := cell_on hb (cell_new w.drew #[Value.int .u8 (x : Int)] 5 0); have hcv2 := hcv w1 w.heap.size z0; replace hb := below_on hb0 (Nat.le_refl _) hb) | (have hcv3 := hcv (w1.alloc (Obj.cells #[Value.int .u8 (x : Int)] 5)) w1.heap.size (cell_new w1 #[Value.int .u8 (x : Int)] 5 0); replace hb : Below w.heap.size w w1 := below_on (Below.refl _ _).drew (Nat.le_refl _) hb); dsimp only))
      go_wp2
      all_goals
        go_ret
        exact ⟨rfl, by first | exact hb | exact below_on hb (Nat.le_refl _) (below_alloc1 _ _)⟩

/-- so many digits 0 ahead of them -/
def padB (j m : Nat) : ByteArray := ⟨(List.replicate j (48 : UInt8) ++ Lib.decDigits m).toArray⟩
theorem padB_size (j m : Nat) : (padB j m).size = j + (Lib.decDigits m).length := by rw [Lib.size_eq]; simp [padB]
theorem padB_succ (j m : Nat) : (⟨#[48]⟩ : ByteArray) ++ padB j m = padB (j + 1) m := by
  apply data_inj
  simp [padB, ByteArray.data_append, List.replicate_succ]
theorem padB_six (m : Nat) (h : m ≤ 999999) : padB (6 - (Lib.decDigits m).length) m = ⟨(six m).toArray⟩ := by
  unfold padB; rw [pad_six m h]
set_option maxHeartbeats 1000000 in
theorem six_any (n : Nat) (w : World) (hn : n ≤ 9223372036854775807) :
    Calls Tryz.prog 101 #[.int .i64 n] w fun e w' => e = .returned (.string ⟨(six (n % 1000000)).toArray⟩) ∧ Below w.heap.size w w' := by
  have q2 : (n : Int).tmod 1000000 = ((n % 1000000 : Nat) : Int) := by rw [Int.tmod_eq_emod_of_nonneg (by omega)]; omega
  have hm : n % 1000000 ≤ 999999 := by omega
  have HD := fun w' => hide (decimal_any (n % 1000000) w' (by omega))
  have HS := hide (padB_six (n % 1000000) hm)
  have hlen := len_dec (n % 1000000) hm
  have hd0 : decB (n % 1000000) = padB 0 (n % 1000000) := by simp [decB, padB]
  rw [hd0] at HD
  clear hd0
  generalize n % 1000000 = m at *
  go_enter Tryz.func101, Tryz.ntmps101
  go_wp2_with fail
  refine ((HD _).out).mono ?_
  rintro e w1 ⟨rfl, hb⟩
  go_wp2
  go_loop [3] (fun v => ∃ j : Nat, j + (Lib.decDigits m).length ≤ 6 ∧ v = .string (padB j m)) (fun v => match v with | .string s => 6 - s.size | _ => 0)
  case atStart => exact ⟨0, by omega, rfl⟩
  case round =>
    obtain ⟨j, hj, rfl⟩ := hrel
    have hz := padB_size j m
    have HP := hide (padB_succ j m)
    have hz1 := padB_size (j + 1) m
    by_cases hlt : (padB j m).size < 6
    · have g : ((padB j m).size : Int) < 6 := by omega
      have s1 : ¬ 9223372036854775807 < 1 + (padB j m).size := by omega
      go_wp2
      go_round
      case rel => exact ⟨j + 1, by omega, by rw [HP.out]⟩
      case measure => rw [HP.out]; simp only; omega
    · have g : ¬ ((padB j m).size : Int) < 6 := by omega
      have HJ := hide (show j = 6 - (Lib.decDigits m).length by omega)
      clear hz hz1
      go_wp2
      go_ret
      exact ⟨ret_string (by rw [HJ.out, HS.out]), hb⟩
end Go.Proofs.YtighpalbodhfeaaGreatDoor
