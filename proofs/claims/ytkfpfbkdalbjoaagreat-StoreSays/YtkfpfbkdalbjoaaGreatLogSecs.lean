/-
  A deed's sectors: what log.sectors returns.
-/
import Derived.Test.YtkfpfbkdalbjoaaGreatLogRead
import Derived.Test.YtkfpfbkdalbjoaaGreatDskL
import Derived.Test.YtkfpfbkdalbjoaaGreatDskNew
import Derived.Deep.AppendLies
import Derived.Test.YtkfpfbkdalbjoaaGreatAppend1
namespace Go.Proofs.YtkfpfbkdalbjoaaGreat
open Go.RowKit Go.Joins
attribute [local go_sem ↓] Go.wp_at_zero Go.wp_at_succ

def secsFrom : Nat → List Chg → List ByteArray
  | _, [] => []
  | n, c :: l => encL 111 n (textB c) :: secsFrom (n + 1) l
def deedSecs (n : Nat) (l : List Chg) : List ByteArray := secsFrom n l ++ [encL 99 (n + l.length) (fourB l.length)]
def chgsF : List Chg → Nat
  | [] => 0
  | c :: l => if chgFault c = 0 then chgsF l else chgFault c
theorem secsFrom_snoc (l : List Chg) (c : Chg) : ∀ n, secsFrom n (l ++ [c]) = secsFrom n l ++ [encL 111 (n + l.length) (textB c)] := by
  induction l with
  | nil => intro n; rfl
  | cons d l ih =>
    intro n
    show encL 111 n (textB d) :: secsFrom (n + 1) (l ++ [c]) = _
    rw [ih, show n + 1 + l.length = n + (d :: l).length by rw [List.length_cons]; omega]
    rfl
theorem secsFrom_len (l : List Chg) : ∀ n, (secsFrom n l).length = l.length := by
  induction l with
  | nil => intro n; rfl
  | cons d l ih => intro n; show (secsFrom (n + 1) l).length + 1 = _; rw [ih]; rfl
theorem deedSecs_len (n : Nat) (l : List Chg) : (deedSecs n l).length = l.length + 1 := by unfold deedSecs; rw [List.length_append, secsFrom_len]; rfl
theorem chgsF_append (a b : List Chg) : chgsF (a ++ b) = if chgsF a = 0 then chgsF b else chgsF a := by
  induction a with
  | nil => rfl
  | cons c a ih =>
    show (if chgFault c = 0 then chgsF (a ++ b) else chgFault c) = if (if chgFault c = 0 then chgsF a else chgFault c) = 0 then chgsF b else (if chgFault c = 0 then chgsF a else chgFault c)
    by_cases h : chgFault c = 0
    · simp only [if_pos h]; exact ih
    · simp only [if_neg h]
theorem chgsF_take {l : List Chg} {k : Nat} (hk : k < l.length) (h : chgsF (l.take k) = 0) : chgsF (l.take (k + 1)) = chgFault l[k] ∧ (chgFault l[k] ≠ 0 → chgsF l = chgFault l[k]) := by
  have e1 : chgsF [l[k]] = chgFault l[k] := by show (if _ then 0 else _) = _; split <;> simp_all
  constructor
  · rw [List.take_succ_eq_append_getElem hk, chgsF_append, if_pos h, e1]
  · intro hn
    have e : l = l.take k ++ (l[k] :: l.drop (k + 1)) := by rw [← List.drop_eq_getElem_cons hk, List.take_append_drop]
    have e2 := congrArg chgsF e
    rw [chgsF_append, if_pos h] at e2
    exact e2.trans (if_neg hn)
section
variable {w : World} {lb db fr many first used : Nat}
theorem ownS_on {w w' : World} {B n : Nat} {v : Value} {xs : List Value} (h : w.ownsRow B 9 1 v n xs) (hb : Below w.heap.size w w') : w'.ownsRow B 9 1 v n xs := by
  refine ⟨h.1, ?_⟩
  rcases h.2 with e | ⟨g, cap, cur, rfl, hB, hg, h3⟩
  · exact .inl e
  · exact .inr ⟨g, cap, cur, rfl, hB, (hb.block g (Array.getElem?_eq_some_iff.1 hg).1).trans hg, h3⟩
def SecsAt (w w' : World) (v : Value) (l : List ByteArray) : Prop := w'.ownsRow w.heap.size 9 1 v l.length (l.map strV) ∧ Below w.heap.size w w'
def SecsPost (w w' : World) (v : Value) (l : List Chg) (n : Nat) : Prop := if chgsF l = 0 then SecsAt w w' v (deedSecs n l) else Below w.heap.size w w'
set_option maxRecDepth 8000 in
set_option maxHeartbeats 4000000 in
theorem lsectors_any (l : List Chg) (ao : Option Addr) (cap : Nat) (w : World) (hd : heldCh w ao l) (hl : l.length ≤ 12) (hsz : ∀ c ∈ l, c.key.size ≤ 1000 ∧ c.val.size ≤ 1000) (hh : LHd w lb db fr many first used) (hfu : first + used ≤ 1800000) :
    Calls Tryz.prog 50 #[.pointer (some ⟨lb, 0, none⟩), .slice ao l.length cap] w fun e w' => ∃ v, e = .returned (.tuple #[v, errV (chgsF l)]) ∧ SecsPost w w' v l (first + used) := by
  have c3 := hh.c3
  have c4 := hh.c4
  have HD := hide hd
  have HZ := hide hsz
  clear hd hsz hh
  have HE : Hid ((first : Int) + (used : Int) = ((first + used : Nat) : Int)) := hide (by omega)
  have k1 : (first : Int) + (used : Int) ≤ 1800000 := by omega
  obtain ⟨i0, z0, hi0, hz0, hi2, hi24, hzc⟩ := text_parts
  go_enter Tryz.func50, Tryz.ntmps50
  go_wp2
  go_quiet (fail)
  rw [HE.out]
  generalize hn : first + used = n at *
  have HN := hide hn
  clear HE k1 hn
  go_wp2
  have HB0 := hide (below_drewN (Below.refl w.heap.size w) nq)
  clear c3 c4
  generalize hwq : w.drewN nq = wq at *
  clear hwq
  go_loopw [7, 23] (fun v iv wr => ∃ k : Nat, k ≤ l.length ∧ iv = .int .i64 (k : Int) ∧ wr.ownsRow w.heap.size 9 1 v k ((secsFrom n (l.take k)).map strV) ∧ chgsF (l.take k) = 0 ∧ Below w.heap.size w wr) (fun _ iv _ => l.length - (intOf iv).toNat)
  case atStart => exact ⟨0, Nat.zero_le _, rfl, ⟨rfl, .inl ⟨rfl, rfl⟩⟩, rfl, HB0.out⟩
  case round =>
    obtain ⟨k, hk, rfl, ho, hc0, hb⟩ := hrel
    clear HB0
    by_cases hlt : k < l.length
    · have hlt' : (k : Int) < (l.length : Int) := by omega
      have hk0 : (0 : Int) ≤ (k : Int) := by omega
      rcases HD.out with e | ⟨b, off, e, hch⟩
      · rw [e] at hlt; simp at hlt
      subst e
      obtain ⟨x0, x1, x2⟩ := hch k hlt
      have hsn : secsFrom n (l.take (k + 1)) = secsFrom n (l.take k) ++ [encL 111 (n + k) (textB l[k])] := by
        rw [List.take_succ_eq_append_getElem hlt, secsFrom_snoc, List.length_take, Nat.min_eq_left hk]
      have hcf := chgsF_take hlt hc0
      obtain ⟨z1, z2⟩ := HZ.out _ (List.getElem_mem hlt)
      clear hch
      generalize l[k] = x at *
      replace x0 := cell_on hb x0
      replace x1 := cell_on hb x1
      replace x2 := cell_on hb x2
      have HO := hide ho
      have HBR := hide hb
      have HSN := hide hsn
      have HCB := fun w' => hide (chg_bytes x w' z1 z2 _ rfl)
      have hbx := below_alloc1 wr (Obj.cells #[Value.string x.key, Value.string x.val, Value.bool x.gone] 54)
      clear ho hb hsn
      by_cases hf : chgFault x = 0
      · have HF := hide hf
        have HC1 := hide (hcf.1.trans hf)
        obtain ⟨q1, q2⟩ := fault_key hf
        have hts := text_size x
        have HEN := fun w' => hide (encode_any 111 (n + k) (textB x) (by decide) (by omega) (by omega) w')
        have HEI : Hid ((n : Int) + (k : Int) = ((n + k : Nat) : Int)) := hide (by omega)
        simp only [hf, if_true] at HCB
        rw [← HEI.out] at HEN
        have HTX : Hid (headB x ++ x.key ++ x.val = textB x) := rfl
        rw [HTX.out] at HCB
        clear hf hcf q1 q2 hts z1 z2
        generalize textB x = tx at *
        generalize encL 111 (n + k) tx = en at *
        have HBX := hide hbx
        clear hbx
        go_wp2_with (first
          | (go_at_call 67; refine ((HCB _).out).mono ?_; rintro e w7 ⟨rfl, hb7⟩; replace HBX := hide (below_on HBX.out (Nat.le_refl _) hb7); clear hb7)
          | (go_at_call 68; refine ((HEN _).out).mono ?_; rintro e w8 ⟨rfl, hb8⟩; replace HBX := hide (below_on HBX.out (Nat.le_refl _) hb8); clear hb8)
          | (at_builtin; (refine wp_append1 rfl _ _ 108 rfl w.heap.size 9 i0 _ 1 16 Tryz.underlying108 hi0 hz0 hi2 hi24 hzc (by omega) w8 [.string en] rfl (by simp [Value.oneCell']) _ k _ (ownS_on HO.out HBX.out) rfl rfl (by omega) (by omega) (below_on HBR.out (Nat.le_refl _) HBX.out).size ?_; intro v9 w9 ho9 hb9; have HO9 := hide ho9; have HB9 := hide (hb9 w (below_on HBR.out (Nat.le_refl _) HBX.out)); clear ho9 hb9)))
        refine ⟨⟨k + 1, by omega, by go_num, ?_, HC1.out, HB9.out⟩, by simp [intOf]; omega⟩
        rw [HSN.out, List.map_append]
        exact HO9.out
      · have HF := hide hf
        have HC1 := hide (hcf.2 hf)
        simp only [hf, if_false] at HCB
        have HER : Hid (errV (chgFault x) = .iface 57 (.int .i64 (chgFault x))) := errD_pos hf
        rw [HER.out] at HCB
        clear hf hcf
        have HBX := hide hbx
        clear hbx
        go_wp2_with (first
          | (go_at_call 67; refine ((HCB _).out).mono ?_; rintro e w7 ⟨rfl, hb7⟩; replace HBX := hide (below_on HBX.out (Nat.le_refl _) hb7); clear hb7)
          | fail)
        go_ret2
        refine ⟨.slice none 0 0, ?_, ?_⟩
        · show Ending.returned (Value.tuple #[.slice none 0 0, .iface 57 (.int .i64 (chgFault x))]) = Ending.returned (Value.tuple #[.slice none 0 0, errV (chgsF l)])
          rw [HC1.out, HER.out]
        · unfold SecsPost
          rw [HC1.out, if_neg HF.out]
          exact below_on HBR.out (Nat.le_refl _) HBX.out
    · have ek : k = l.length := by omega
      subst ek
      have hlt' : ¬ (l.length : Int) < (l.length : Int) := by omega
      rw [List.take_length] at ho hc0
      have HC0 := hide hc0
      have HO := hide ho
      have HBR := hide hb
      clear ho hb hc0
      have HEI : Hid ((n : Int) + (l.length : Int) = ((n + l.length : Nat) : Int)) := hide (by omega)
      have HFO := fun w' => hide (four_any l.length (by omega) w')
      have HEN := fun w' => hide (encode_any 99 (n + l.length) (fourB l.length) (by decide) (by omega) (by show 4 ≤ 90; decide) w')
      rw [← HEI.out] at HEN
      have HDS : Hid (deedSecs n l = secsFrom n l ++ [encL 99 (n + l.length) (fourB l.length)]) := rfl
      have hl2 : (l.length : Int) ≤ 12 := by omega
      generalize encL 99 (n + l.length) (fourB l.length) = en at *
      generalize fourB l.length = fo at *
      have HBX := hide (Below.refl wr.heap.size wr)
      go_wp2_with (first
        | (go_at_call 69; refine ((HFO _).out).mono ?_; rintro e w7 ⟨rfl, hb7⟩; replace HBX := hide (below_on HBX.out (Nat.le_refl _) hb7); clear hb7)
        | (go_at_call 68; refine ((HEN _).out).mono ?_; rintro e w8 ⟨rfl, hb8⟩; replace HBX := hide (below_on HBX.out (Nat.le_refl _) hb8); clear hb8)
        | (at_builtin; (refine wp_append1 rfl _ _ 108 rfl w.heap.size 9 i0 _ 1 16 Tryz.underlying108 hi0 hz0 hi2 hi24 hzc (by omega) w8 [.string en] rfl (by simp [Value.oneCell']) _ l.length _ (ownS_on HO.out HBX.out) rfl rfl (by omega) (by omega) (below_on HBR.out (Nat.le_refl _) HBX.out).size ?_; intro v9 w9 ho9 hb9; have HO9 := hide ho9; have HB9 := hide (hb9 w (below_on HBR.out (Nat.le_refl _) HBX.out)); clear ho9 hb9)))
      go_ret2
      refine ⟨v9, ?_, ?_⟩
      · show Ending.returned (Value.tuple #[v9, .nilIface]) = Ending.returned (Value.tuple #[v9, errV (chgsF l)])
        rw [HC0.out, errD_nil]
      · unfold SecsPost
        rw [HC0.out, if_pos rfl]
        refine ⟨?_, HB9.out⟩
        rw [HN.out, HDS.out, List.map_append, List.length_append, secsFrom_len]
        exact HO9.out
end
end Go.Proofs.YtkfpfbkdalbjoaaGreat
