/-
  What store.unpack returns of rows that are well packed.
-/
import Derived.Test.YtkfpfbkdalbjoaaGreatStoL
import Derived.Test.YtkfpfbkdalbjoaaGreatChgGrow
import Derived.Test.YtkfpfbkdalbjoaaGreatRowG
namespace Go.Proofs.YtkfpfbkdalbjoaaGreat
open Go.RowKit Go.Joins
attribute [local go_sem ↓] Go.wp_at_zero Go.wp_at_succ

/-- rows that a store has: they are in order, none is gone, and their keys rise -/
def fineL (l : List Chg) : Prop := (∀ c ∈ l, chgFault c = 0 ∧ c.gone = false) ∧ rises l
def lastK (l : List Chg) : ByteArray := match l.getLast? with
  | some c => c.key
  | none => ⟨#[]⟩
def sizeV : Value → Nat
  | .string s => s.size
  | _ => 0
theorem key_some {c : Chg} (h : chgFault c = 0) : c.key ≠ ByteArray.empty := by
  intro e
  unfold chgFault at h
  rw [e] at h
  have k : keyL ByteArray.empty.data.toList = false := by decide +kernel
  rw [k] at h
  cases h
theorem last_lt {l : List Chg} (hf : fineL l) {k : Nat} (hk : k < l.length) : ltS (lastK (l.take k)) l[k].key = true := by
  cases k with
  | zero =>
    have hn := key_some (hf.1 _ (List.getElem_mem hk)).1
    show ltS ByteArray.empty l[0].key = true
    rcases ltS_total ByteArray.empty l[0].key with h | h | h
    · exact h
    · exact absurd h.symm hn
    · rw [ltS_nil] at h; cases h
  | succ j =>
    have e : lastK (l.take (j + 1)) = l[j].key := by
      unfold lastK
      rw [List.take_succ_eq_append_getElem (by omega), List.getLast?_append]
      rfl
    rw [e]
    exact List.pairwise_iff_getElem.1 hf.2 j (j + 1) (by omega) hk (by omega)
theorem last_snoc (l : List Chg) (c : Chg) : lastK (l ++ [c]) = c.key := by
  unfold lastK
  rw [List.getLast?_append]
  rfl
theorem own_snocC {w : World} {B : Nat} {v : Value} {l : List Chg} {c : Chg} (h : w.ownsRow B 54 3 v (l.length + 1) (cellsL l ++ cellsC c)) : ownCh w B v (l ++ [c]) := by
  unfold ownCh
  rw [List.length_append, cellsL, List.flatMap_append, List.flatMap_cons, List.flatMap_nil, List.append_nil]
  exact h
set_option maxRecDepth 8000 in
set_option maxHeartbeats 2000000 in
theorem unpack_good (l : List Chg) (w : World) (hl : l.length ≤ 500) (hf : fineL l) :
    Calls Tryz.prog 36 #[.string (packB l)] w fun e w' => ∃ v, e = .returned (.tuple #[v, .bool true]) ∧ ownCh w' w.heap.size v l ∧ Below w.heap.size w w' := by
  have HF := hide hf
  clear hf
  go_enter Tryz.func36, Tryz.ntmps36
  go_wp2
  go_loopw [0, 4, 5] (fun tv v lv wr => ∃ k : Nat, k ≤ l.length ∧ tv = .string (packB (l.drop k)) ∧ lv = .string (lastK (l.take k)) ∧ ownCh wr w.heap.size v (l.take k) ∧ Below w.heap.size w wr) (fun tv _ _ _ => sizeV tv)
  case atStart => exact ⟨0, Nat.zero_le _, rfl, rfl, ⟨rfl, .inl ⟨rfl, rfl⟩⟩, Below.refl _ _⟩
  case round =>
    obtain ⟨k, hk, rfl, rfl, ho, hb⟩ := hrel
    by_cases hlt : k < l.length
    · have hd : packB (l.drop k) = rowB l[k] ++ packB (l.drop (k + 1)) := by rw [List.drop_eq_getElem_cons hlt]; rfl
      obtain ⟨hf1, hf2⟩ := HF.out.1 _ (List.getElem_mem hlt)
      have hrs : (packB (l.drop (k + 1))).size ≤ 50000 := by
        have h1 := packB_size (l.drop (k + 1)) 55 fun c hc => by have := fault_key (HF.out.1 c (List.mem_of_mem_drop hc)).1; omega
        rw [List.length_drop] at h1
        have : (l.length - (k + 1)) * (55 + 2) ≤ 500 * 57 := Nat.mul_le_mul (by omega) (by omega)
        omega
      have HC := fun w' => hide (cut_row l[k] (packB (l.drop (k + 1))) w' hf1 hf2 hrs)
      rw [hd]
      have hsz := row_size l[k] (packB (l.drop (k + 1)))
      generalize hre : packB (l.drop (k + 1)) = rest at *
      have hrst : Value.string rest = .string (packB (l.drop (k + 1))) := by rw [hre]
      clear hre
      have HRST := hide hrst
      clear hrst
      generalize rowB l[k] ++ rest = s at *
      have hs0 : s ≠ ByteArray.empty := fun e => by rw [e] at hsz; have : ByteArray.empty.size = 0 := rfl; omega
      have he : s.toList.isEmpty = false := by
        have := mt (nilS_iff s).1 hs0
        simpa [nilS] using this
      have hla := last_lt HF.out hlt
      have l1 : Op.bytesLess l[k].key.toList (lastK (l.take k)).toList = false := ltS_asymm hla
      have l2 : (l[k].key.toList == (lastK (l.take k)).toList) = false := (eqS_comm _ _).trans (eqS_lt hla)
      have hln : (l.take k).length = k := by rw [List.length_take]; omega
      have htk : l.take (k + 1) = l.take k ++ [l[k]] := List.take_succ_eq_append_getElem hlt
      have HO := hide ho
      have HB := hide hb
      have HT := hide htk
      have HS := hide hsz
      have HG := hide hf2
      clear ho hb hla hs0 htk hsz hf1 hf2 hrs
      generalize lastK (l.take k) = la at *
      generalize l[k] = x at *
      generalize l.take k = lt at *
      obtain ⟨i0, hi0, hz0, hz1, hz2⟩ := info_parts chg_facts
      go_wp2_with (fail)
      refine ((HC _).out).mono ?_
      rintro e w7 ⟨rfl, hb7⟩
      have HB7 := hide hb7
      clear hb7
      go_wp2_with (fail)
      have e3 : #[Value.string x.key, Value.string x.val, Value.bool false] = (cellsC x).toArray := by unfold cellsC; rw [HG.out]
      have HB8 := hide (below_on HB7.out (Nat.le_refl _) (below_alloc1 w7 (Obj.cells #[Value.string x.key, Value.string x.val, Value.bool false] 54)))
      have a0 : (w7.alloc (Obj.cells #[Value.string x.key, Value.string x.val, Value.bool false] 54)).cell? ⟨w7.heap.size, 0, none⟩ = some (.string x.key) := cell_new _ _ _ 0
      have a1 : (w7.alloc (Obj.cells #[Value.string x.key, Value.string x.val, Value.bool false] 54)).cell? ⟨w7.heap.size, 1, none⟩ = some (.string x.val) := cell_new _ _ _ 1
      have a2 : (w7.alloc (Obj.cells #[Value.string x.key, Value.string x.val, Value.bool false] 54)).cell? ⟨w7.heap.size, 2, none⟩ = some (.bool false) := cell_new _ _ _ 2
      have HO8 := hide (own_on HO.out HB8.out)
      have hav : some w7.heap.size ≠ u4.ownBlock := fun e => by
        have h1 := (HO.out.lt _ e.symm).2
        have h2 := HB7.out.size
        omega
      have hcl : w7.heap.size < (w7.alloc (Obj.cells #[Value.string x.key, Value.string x.val, Value.bool false] 54)).heap.size := by simp
      have hB2 : w.heap.size ≤ (w7.alloc (Obj.cells #[Value.string x.key, Value.string x.val, Value.bool false] 54)).heap.size := Nat.le_trans HB.out.size HB8.out.size
      have hg := HG.out
      generalize hcb : w7.heap.size = cb at *
      generalize w7.alloc (Obj.cells #[Value.string x.key, Value.string x.val, Value.bool false] 54) = W at *
      have HNW : Hid (∀ j u, (cellsC x)[j]? = some u → (W.alloc (Obj.cells #[Value.string x.key, Value.string x.val, Value.bool false] 54)).drew.cell? ((⟨W.heap.size, 0, none⟩ : Addr).add j) = some u) := by
        rw [e3]
        exact World.news_of_block (cs := (cellsC x).toArray) (t := 54) (fr := (0, 0)) (heap_alloc_new W _)
      clear hcb e3 hg
      have d0 := cell_on (below_alloc1 W (Obj.cells #[Value.string x.key, Value.string x.val, Value.bool false] 54)).drew a0
      go_region_law ((refine step_append_lies _ (by rfl) _ _ _ (by rfl) w.heap.size 54 i0 _ 3 40 Tryz.underlying40 hi0 hz0 hz1 hz2 rfl (by omega) u4 lt.length (cellsL lt) (by rfl) ((HO8.out.alloc _).drew) ⟨W.heap.size, 0, none⟩ 1 1 (cellsC x) (by rfl) (by rfl) HNW.out (by simp [cellsC, Value.oneCell']) (by omega) (by unfold maxLen; omega) (by omega) (by simp; omega) (W.heap.size + 1) (by simp) ?_; intro g5 cap5 w5 ho5 hgr5 hat5 hlt5; have e5 : w5.heap[cb]? = W.heap[cb]? := (hgr5.block cb (by simp; omega) hav).trans ((below_alloc1 W _).drew.block cb hcl); have d5 := (World.cell?_of_block (a := ⟨cb, 0, none⟩) e5).trans a0))
      all_goals
        have HO5 := hide (own_snocC ho5)
        have HB5 := hide ((below_on (below_on HB.out (Nat.le_refl _) HB8.out) (Nat.le_refl _) (below_alloc1 W (Obj.cells #[Value.string x.key, Value.string x.val, Value.bool false] 54)).drew).grown hgr5 (by simp; omega) (fun k hk => (HO8.out.lt k hk).1))
        clear e5 d5 ho5 hgr5 hat5 hlt5
        go_wp2
        go_roundw
        case rel =>
          have r1 : ownCh w5 w.heap.size (.slice (some ⟨g5, 0, none⟩) (k + 1) cap5) (l.take (k + 1)) := by
            rw [HT.out]
            have := HO5.out
            rw [hln] at this
            exact this
          have r2 : lastK (l.take (k + 1)) = x.key := by rw [HT.out, last_snoc]
          first
            | exact ⟨k + 1, by omega, HRST.out, by rw [r2], r1, HB5.out⟩
            | exact ⟨.string rest, u2, u3, .slice (some ⟨g5, 0, none⟩) (k + 1) cap5, .string x.key, _, _, _, _, _, _, _, _, _, _, _, _, _, _, _, _, _, _, _, _, _, _, _, _, _, _, ⟨k + 1, by omega, HRST.out, by rw [r2], r1, HB5.out⟩, rfl⟩
        case measure =>
          show rest.size < s.size
          rw [HS.out]
          omega
    · have ek : k = l.length := by omega
      subst ek
      have e1 : packB (l.drop l.length) = ⟨#[]⟩ := by rw [List.drop_length]; rfl
      rw [e1]
      rw [List.take_length] at ho
      have HO := hide ho
      have HB := hide hb
      clear ho hb
      go_wp2
      go_ret2
      exact ⟨_, rfl, HO.out, HB.out⟩
end Go.Proofs.YtkfpfbkdalbjoaaGreat
