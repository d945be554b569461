/-
  What slices.SortFunc makes of rows by Scan's closure: the same rows, rising by keys: the contract that VerScan2 leans on.
-/
import Derived.Test.YtighpalbodhfeaaGreatDoorVerScan2
import Derived.Test.YtighpalbodhfeaaGreatDoorShelfSort
import Derived.Test.YtighpalbodhfeaaGreatDoorShelfC
import Derived.Shelf.SlSortCmp.WholeK
import Derived.Test.YtighpalbodhfeaaGreatDoorVerBehind
import Derived.Test.YtighpalbodhfeaaGreatDoorChgMem
namespace Go.Proofs.YtighpalbodhfeaaGreatDoor
open Go.RowKit Go.Joins Go.Shelf Go.Lib
open Go.Sort hiding Below

set_option maxHeartbeats 1000000 in
theorem scan_cmp (x y : ByteArray × ByteArray) (W : World) : Calls Tryz.prog 139 #[.agg #[.string x.1, .string x.2], .agg #[.string y.1, .string y.2]] W fun e w' => e = .returned (.int .i64 (Lib.compareBytes x.1.data.toList y.1.data.toList)) ∧ ∃ q os', w' = Go.Sort.grow (W.drewN q) os' := by
  have hcon := fun W' => Tryz.strings_Compare x.1 y.1 W'
  generalize Lib.compareBytes x.1.data.toList y.1.data.toList = r at hcon ⊢
  go_enter Tryz.func139, Tryz.ntmps139
  go_wp2_with (go_at_call 140; refine (hcon _).mono ?_; rintro e w' ⟨rfl, rfl⟩)
  go_ret
  exact ⟨rfl, 0, _, by rw [Go.Sort.alloc_eq_grow, Go.Sort.alloc_eq_grow, Go.Sort.grow_grow]; rfl⟩
def cmpP (x y : ByteArray × ByteArray) : Int := Lib.compareBytes x.1.data.toList y.1.data.toList
theorem cmp_lt : ∀ a b : List UInt8, decide (Lib.compareBytes a b < 0) = Op.bytesLess a b
  | [], [] => by simp [Lib.compareBytes, Op.bytesLess]
  | [], _ :: _ => by simp [Lib.compareBytes, Op.bytesLess]
  | _ :: _, [] => by simp [Lib.compareBytes, Op.bytesLess]
  | a :: la, b :: lb => by
    have ih := cmp_lt la lb
    unfold Lib.compareBytes Op.bytesLess
    by_cases h1 : a < b
    · simp [h1]
    · by_cases h2 : b < a
      · have h3 : ¬ a = b := fun e => by subst e; exact h1 h2
        simp [h1, h2, h3]
      · have h3 : a = b := UInt8.le_antisymm (UInt8.not_lt.1 h2) (UInt8.not_lt.1 h1)
        simp only [h1, h2, if_false]
        rw [ih, h3]
        simp
theorem cmpP_lt (x y : ByteArray × ByteArray) : ltOf cmpP x y = ltS x.1 y.1 := by
  unfold ltOf cmpP ltS
  rw [cmp_lt, Lib.toList_data, Lib.toList_data]
theorem cmpP_swo : Go.Sort.SWO (ltOf cmpP) where
  irrefl x := by rw [cmpP_lt]; exact ltS_irrefl _
  trans x y z h1 h2 := by rw [cmpP_lt] at *; exact ltS_trans h1 h2
  ntrans x y z h1 h2 := by
    rw [cmpP_lt] at *
    rcases ltS_total x.1 z.1 with h | h | h
    · rcases ltS_total x.1 y.1 with k | k | k
      · rw [k] at h1; cases h1
      · rw [← k, h] at h2; cases h2
      · rw [ltS_trans k h] at h2; cases h2
    · rw [h]; exact ltS_irrefl _
    · exact ltS_asymm h
theorem flat_list (d : Array (ByteArray × ByteArray)) : (flatK cellP 2 d).toList = d.toList.flatMap cellP := by
  apply List.ext_getElem?
  intro t
  by_cases ht : t < d.size * 2
  · have h1 := flat_get cellP 2 cellP_len d.toList (t / 2) (t % 2) (by rw [Array.length_toList]; omega) (by omega)
    rw [show t / 2 * 2 + t % 2 = t by omega] at h1
    rw [h1]
    have h2 := get_flatK cellP 2 d t ht
    have hs : t < (flatK cellP 2 d).size := by simpa using ht
    rw [getElem!_pos _ t hs] at h2
    rw [Array.getElem?_toList, Array.getElem?_eq_getElem hs, h2]
    have h3 : t / 2 < d.size := by omega
    rw [getElem!_pos d (t / 2) h3]
    have h4 : t % 2 < (cellP d[t / 2]).length := by rw [cellP_len]; omega
    rw [getElem!_pos (cellP d[t / 2]) (t % 2) h4]
    exact (List.getElem?_eq_getElem h4).symm
  · rw [List.getElem?_eq_none (by simp; omega), List.getElem?_eq_none]
    have : ∀ l : List (ByteArray × ByteArray), (l.flatMap cellP).length = l.length * 2 := by
      intro l
      induction l with
      | nil => rfl
      | cons x l ih => rw [List.flatMap_cons, List.length_append, ih, cellP_len, List.length_cons]; omega
    rw [this, Array.length_toList]
    omega
theorem holds_own {W : World} {B blk cap : Nat} {F : List (ByteArray × ByteArray)} (h : ownP W B (.slice (some ⟨blk, 0, none⟩) F.length cap) F) : HoldsK cellP 2 W blk 0 F.toArray := by
  intro j hj
  have hj' : j < F.length * 2 := by simpa using hj
  refine ⟨?_, ?_⟩
  · rw [Nat.zero_add, World.ownsRow.cellAt h j hj']
    have e := flat_list F.toArray
    rw [List.toList_toArray] at e
    rw [← e, Array.getElem?_toList, Array.getElem?_eq_getElem hj, getElem!_pos _ j hj]
    rfl
  · rw [Nat.zero_add]; exact World.ownsRow.frozenAt h _
theorem set_many_all (F G : Array Value) (h : F.size = G.size) : setMany F 0 G.toList = G := by
  apply Array.ext
  · simp [h]
  · intro i h1 h2
    have h3 : i < F.size := by simpa using h1
    have := get_setMany G.toList 0 F i h3
    rw [getElem!_pos _ i h1, if_pos ⟨Nat.zero_le _, by simpa using h2⟩] at this
    rw [this, Nat.sub_zero]
    have h4 : i < G.toList.length := by simpa using h2
    rw [getElem!_pos _ i h4, Array.getElem_toList]
theorem put_set {W : World} {blk : Nat} {d d' : Array (ByteArray × ByteArray)} (h : HoldsK cellP 2 W blk 0 d) (hs : d'.size = d.size) : putRowK cellP 2 W blk 0 d' = W.setCells blk 0 (d'.toList.flatMap cellP) := by
  have e := setCells_putRow W blk 0 (flatK cellP 2 d').toList 0 (flatK cellP 2 d) (by simp [hs])
  rw [set_many_all _ _ (by simp [hs])] at e
  have e2 : Go.Sort.putRow id W blk 0 (flatK cellP 2 d) = W := putRowK_self cellP 2 W blk 0 d h
  rw [e2, flat_list] at e
  exact e.symm
theorem below_grows' (w : World) (os : Array Obj) : Below w.heap.size w (grow w os) := by
  refine ⟨rfl, rfl, rfl, ?_, fun i hi => ?_⟩
  · show w.heap.size ≤ (w.heap ++ os).size
    simp
  · show (w.heap ++ os)[i]? = w.heap[i]?
    rw [Array.getElem?_append_left hi]
theorem own_sorted {W : World} {B blk cap n : Nat} {F : List (ByteArray × ByteArray)} {os : Array Obj} (h : ownP W B (.slice (some ⟨blk, 0, none⟩) F.length cap) F) {d' : Array (ByteArray × ByteArray)} (hs : d'.size = F.length) :
    ownP (sortWorldK cellP 2 W blk 0 n d' os) B (.slice (some ⟨blk, 0, none⟩) F.length cap) d'.toList ∧ Below blk W (sortWorldK cellP 2 W blk 0 n d' os) ∧ (∀ j, j < W.heap.size → j ≠ blk → (sortWorldK cellP 2 W blk 0 n d' os).heap[j]? = W.heap[j]?) := by
  have h0 : (Go.Sort.ahead W n).ownsRow B 55 2 (.slice (some ⟨blk, 0, none⟩) F.length cap) F.length (F.flatMap cellP) := own_block h fun _ _ => rfl
  have hH : HoldsK cellP 2 (Go.Sort.ahead W n) blk 0 F.toArray := holds_own h0
  have hbl := (World.ownsRow.lt h blk rfl).2
  have h1 := own_setCells (d'.toList.flatMap cellP) 0 (Go.Sort.ahead W n) _ h0
  rw [← put_set hH (by simpa using hs)] at h1
  have hlen : ∀ l : List (ByteArray × ByteArray), (l.flatMap cellP).length = l.length * 2 := by
    intro l
    induction l with
    | nil => rfl
    | cons x l ih => rw [List.flatMap_cons, List.length_append, ih, cellP_len, List.length_cons]; omega
  have hl2 : (d'.toList.flatMap cellP).length = (F.flatMap cellP).length := by rw [hlen, hlen, Array.length_toList, hs]
  have h2 : setL (F.flatMap cellP) 0 (d'.toList.flatMap cellP) = d'.toList.flatMap cellP := by
    have := setL_take_all (d'.toList.flatMap cellP) (F.flatMap cellP) (by omega)
    rwa [hl2, List.take_of_length_le (by rw [setL_len]; exact Nat.le_refl _)] at this
  rw [h2] at h1
  have hb := below_grows' (putRowK cellP 2 (Go.Sort.ahead W n) blk 0 d') os
  have e : sortWorldK cellP 2 W blk 0 n d' os = grow (putRowK cellP 2 (Go.Sort.ahead W n) blk 0 d') os := rfl
  have hk : ∀ j, j < W.heap.size → j ≠ blk → (sortWorldK cellP 2 W blk 0 n d' os).heap[j]? = W.heap[j]? := fun j hj hne => by
    rw [e, hb.block j (Nat.lt_of_lt_of_le hj h1.2.size), h1.2.block j hj (by simpa using hne)]
    rfl
  refine ⟨?_, ⟨?_, ?_, ?_, ?_, fun j hj => hk j (by omega) (by omega)⟩, hk⟩
  · rw [e]
    have := own_on h1.1 hb
    unfold ownP
    rw [show d'.toList.length = F.length by simpa using hs]
    exact this
  · rw [e, hb.os, h1.2.os]; rfl
  · rw [e, hb.tape, h1.2.tape]; rfl
  · rw [e, hb.output, h1.2.output]; rfl
  · rw [e]; exact Nat.le_trans h1.2.size hb.size
theorem scan_lays (blk size : Nat) (w : World) : CmpLays Tryz.prog 139 #[] cellP 2 cmpP blk 0 size w := fun _ _ _ _ x y => scan_cmp x y _
theorem sort_says : SortSays := by
  intro blk cap B F W ho hn
  have eg : ∀ args w, (callFunc 139 args).run Tryz.prog w = .ok (.enter 139 args) w := enters_of Tryz.func139 (by kernel_rfl) rfl
  have hcon := AnyQ.slices_SortFunc Tryz.sortRow 2 Tryz.isAgg55 Tryz.sizeOf55 cellP (fun _ => rfl) (fun x v hv => by simp [cellP] at hv; rcases hv with rfl | rfl <;> rfl) cmpP cmpP_swo 139 #[] blk 0 cap F.toArray W eg (scan_lays blk _ W) (holds_own ho) (World.ownsRow.lt ho blk rfl).2 (by simp; omega)
  refine hcon.mono ?_
  rintro e w' ⟨rfl, d', n, os, hp, hs, rfl⟩
  have hsz : d'.size = F.length := by simpa using hp.1
  obtain ⟨h1, h2, h3⟩ := own_sorted (n := n) (os := os) ho hsz
  refine ⟨rfl, d'.toList, ?_, ?_, h1, h2, h3⟩
  · have := hp.2.2
    have e1 : d'.extract 0 F.toArray.size = d' := by rw [show F.toArray.size = d'.size by simpa using hsz.symm]; exact Array.extract_size
    have e2 : F.toArray.extract 0 F.toArray.size = F.toArray := Array.extract_size
    rw [e1, e2] at this
    exact this
  · rw [List.pairwise_iff_getElem]
    intro i j hi hj hij
    have := hs i j (Nat.zero_le _) hij (by simpa [hsz] using hj)
    rw [cmpP_lt, getElem!_pos _ j (by simpa using hj), getElem!_pos _ i (by simpa using hi)] at this
    simpa using this
end Go.Proofs.YtighpalbodhfeaaGreatDoor

/-
  What slices.SortFunc makes of no rows: nothing.
-/
namespace Go.Proofs.YtighpalbodhfeaaGreatDoor
open Go.RowKit Go.Joins

set_option maxHeartbeats 1000000 in
theorem ins_nil (f : Value) (W : World) : Calls Tryz.prog 179 #[.slice none 0 0, .int .i64 0, .int .i64 0, f] W fun e W' => e = .returned (.tuple #[]) ∧ Below W.heap.size W W' := by
  go_enter Tryz.func179, Tryz.ntmps179
  go_wp2
  go_loopw [8] (fun i wr => i = .int .i64 1 ∧ wr = W) (fun _ _ => 0)
  case atStart => exact ⟨rfl, rfl⟩
  case round =>
    obtain ⟨rfl, rfl⟩ := hrel
    go_wp2
    go_end0
    exact ⟨rfl, Below.refl _ _⟩
set_option maxHeartbeats 1000000 in
theorem pdq_nil (f : Value) (l : Int) (W : World) : Calls Tryz.prog 157 #[.slice none 0 0, .int .i64 0, .int .i64 0, .int .i64 l, f] W fun e W' => e = .returned (.tuple #[]) ∧ Below W.heap.size W W' := by
  go_enter Tryz.func157, Tryz.ntmps157
  go_wp2
  go_loopw [1, 2] (fun a b wr => a = .int .i64 0 ∧ b = .int .i64 0 ∧ wr = W) (fun _ _ _ => 0)
  case atStart => exact ⟨rfl, rfl, rfl⟩
  case round =>
    obtain ⟨rfl, rfl, rfl⟩ := hrel
    go_wp2_with (go_at_call 179; refine (ins_nil f _).mono ?_; rintro e w1 ⟨rfl, hb⟩)
    (try simp only [Exit.inBlock, Exit.then])
    refine bodyPost_ret (results_none rfl _ _ _) rfl ?_
    exact ⟨rfl, hb⟩
set_option maxHeartbeats 1000000 in
theorem sort_nil : SortNil := by
  intro W
  go_enter Tryz.func138, Tryz.ntmps138
  go_wp2_with (first
    | (go_at_call 158; refine (Tryz.bits_Len 0 W (by omega) (by omega)).mono ?_; rintro e w1 ⟨rfl, rfl⟩)
    | (go_at_call 157; refine (pdq_nil _ _ _).mono ?_; rintro e w2 ⟨rfl, hb⟩))
  go_end0
  exact ⟨rfl, hb⟩
end Go.Proofs.YtighpalbodhfeaaGreatDoor

/-
  One version more of a row: what becomes of versions in memory. Nothing of the program's functions is named here.
-/
namespace Go.Proofs.YtighpalbodhfeaaGreatDoor
open Go.RowKit Go.Joins

def putG {α : Type} (g : ByteArray → α) (key : ByteArray) (v : α) : ByteArray → α := fun k => if k = key then v else g k
theorem putG_same {α : Type} (g : ByteArray → α) (key : ByteArray) (v : α) : putG g key v key = v := by simp [putG]
theorem putG_other {α : Type} (g : ByteArray → α) {key k : ByteArray} (v : α) (h : k ≠ key) : putG g key v k = g k := by simp [putG, h]
theorem VS.put {W w3 w4 : World} {B vb mb n gk ck : Nat} {now : Int} {D : DataW Value} {g : ByteArray → Value} {R : ByteArray → List Ver} {key : ByteArray} {x : Ver} (h : VS W B vb mb now n D g R) (hk : key.size ≤ maxLen) (hB : B ≤ W.heap.size)
    (hg : W.grownBy w3 (g key).ownBlock) (ho : ownV w3 B (.slice (some ⟨gk, 0, none⟩) ((R key).length + 1) ck) (R key ++ [x])) (hat : (g key).ownBlock = some gk ∨ gk = W.heap.size)
    (hm : w4.ownsMap Tryz.prog 9 RV mb (n + 1) (D.put (kL key) (.held (.slice (some ⟨gk, 0, none⟩) ((R key).length + 1) ck)))) (hg4 : w3.grownBy w4 (some mb)) :
    VS w4 B vb mb now (n + 1) (D.put (kL key) (.held (.slice (some ⟨gk, 0, none⟩) ((R key).length + 1) ck))) (putG g key (.slice (some ⟨gk, 0, none⟩) ((R key).length + 1) ck)) (putG R key (R key ++ [x])) ∧ Below B W w4 ∧
    (∀ j, j < W.heap.size → ¬ inVS vb mb g j → w4.heap[j]? = W.heap[j]? ∧ ¬ inVS vb mb (putG g key (.slice (some ⟨gk, 0, none⟩) ((R key).length + 1) ck)) j) := by
  have hv0 := h.lt (k := vb) (.inl rfl)
  have hm0 := h.lt (k := mb) (.inr (.inl rfl))
  have hmap := h.own.isMap
  have hgv : gk ≠ vb := by
    rcases hat with e | e
    · exact fun e' => h.offv key (by rw [e, e'])
    · omega
  have hgm : gk ≠ mb := by
    rcases hat with e | e
    · exact fun e' => h.offm key (by rw [e, e'])
    · omega
  have hgl : gk < w3.heap.size := (World.ownsRow.lt ho gk rfl).2
  have b3 : ∀ j, j < W.heap.size → some j ≠ (g key).ownBlock → w3.heap[j]? = W.heap[j]? := fun j h1 h2 => hg.block j h1 h2
  have b4 : ∀ j, j < w3.heap.size → j ≠ mb → w4.heap[j]? = w3.heap[j]? := fun j h1 h2 => hg4.block j h1 (fun e => h2 (by cases e; rfl))
  have bv : w4.heap[vb]? = W.heap[vb]? := (b4 vb (Nat.lt_of_lt_of_le hv0 hg.size) h.ne).trans (b3 vb hv0 (Ne.symm (h.offv key)))
  have other : ∀ k, k ≠ key → ∀ j, (g k).ownBlock = some j → w4.heap[j]? = W.heap[j]? := fun k hne j hj => by
    have hjl := (World.ownsRow.lt (h.rows k) j hj).2
    exact (b4 j (Nat.lt_of_lt_of_le hjl hg.size) (fun e => h.offm k (by rw [hj, e]))).trans (b3 j hjl (fun e => h.apart k key hne j hj e.symm))
  have gko : ∀ k, k ≠ key → (g k).ownBlock ≠ some gk := fun k hne e => by
    rcases hat with e' | e'
    · exact h.apart k key hne gk e e'
    · have := (World.ownsRow.lt (h.rows k) gk e).2; omega
  refine ⟨{ num := ?_, soft := ?_, mp := ?_, own := hm, look := ?_, has := ?_, rows := ?_, lov := h.lov, lom := h.lom, ne := h.ne, offv := ?_, offm := ?_, apart := ?_ }, ?_, ?_⟩
  · exact (World.cell?_of_block (w := W) bv).trans h.num
  · exact (World.frozen?_of_block (w := W) bv).trans h.soft
  · exact (World.cell?_of_block (w := W) bv).trans h.mp
  · intro k hkl
    by_cases e : k = key
    · subst e; rw [putG_same, Maps.atKey_put_same hmap (key_lit k)]
    · rw [putG_other _ _ e, Maps.atKey_put_other (kL_ne e)]; exact h.look k hkl
  · intro k hkl
    by_cases e : k = key
    · subst e; rw [putG_same, Maps.has_put_same hmap (key_lit k)]; simp
    · rw [putG_other _ _ e, Maps.has_put_other (kL_ne e)]; exact h.has k hkl
  · intro k
    by_cases e : k = key
    · subst e
      rw [putG_same, putG_same]
      exact own_block ho fun j hj => by
        simp [Value.ownBlock] at hj
        subst hj
        exact b4 _ hgl hgm
    · rw [putG_other _ _ e, putG_other _ _ e]
      exact own_block (h.rows k) fun j hj => other k e j hj
  · intro k
    by_cases e : k = key
    · subst e; rw [putG_same]; simpa [Value.ownBlock] using hgv
    · rw [putG_other _ _ e]; exact h.offv k
  · intro k
    by_cases e : k = key
    · subst e; rw [putG_same]; simpa [Value.ownBlock] using hgm
    · rw [putG_other _ _ e]; exact h.offm k
  · intro a b hab
    by_cases ea : a = key
    · subst ea
      rw [putG_same, putG_other _ _ (Ne.symm hab)]
      intro j hj
      simp [Value.ownBlock] at hj
      subst hj
      exact gko b (Ne.symm hab)
    · rw [putG_other _ _ ea]
      by_cases eb : b = key
      · subst eb
        rw [putG_same]
        intro j hj e
        simp [Value.ownBlock] at e
        subst e
        exact gko a ea hj
      · rw [putG_other _ _ eb]; exact h.apart a b hab
  · exact ((Below.refl B W).grown hg hB (fun k e => (World.ownsRow.lt (h.rows key) k e).1)).grown hg4 (Nat.le_trans hB hg.size) (fun k e => by cases e; exact h.lom)
  · intro j h1 h2
    have n1 : j ≠ mb := fun e => h2 (.inr (.inl e))
    have n2 : some j ≠ (g key).ownBlock := fun e => h2 (.inr (.inr ⟨key, e.symm⟩))
    refine ⟨(b4 j (Nat.lt_of_lt_of_le h1 hg.size) n1).trans (b3 j h1 n2), ?_⟩
    rintro (e | e | ⟨k, e⟩)
    · exact h2 (.inl e)
    · exact h2 (.inr (.inl e))
    · by_cases ek : k = key
      · subst ek
        rw [putG_same] at e
        simp [Value.ownBlock] at e
        subst e
        rcases hat with e' | e'
        · exact n2 e'.symm
        · omega
      · rw [putG_other _ _ ek] at e
        exact h2 (.inr (.inr ⟨k, e⟩))
end Go.Proofs.YtighpalbodhfeaaGreatDoor

/-
  Versions of rows behind a deed's changes. Plain facts.
-/
namespace Go.Proofs.YtighpalbodhfeaaGreatDoor
open Go.RowKit Go.Joins

/-- the rows behind a deed's changes -/
def applyR (R : ByteArray → List Ver) (d : Int) (l : List Chg) : ByteArray → List Ver := l.foldl (fun R c => putG R c.key (R c.key ++ [⟨d, c.val, c.gone⟩])) R
theorem applyR_snoc (R : ByteArray → List Ver) (d : Int) (l : List Chg) (c : Chg) : applyR R d (l ++ [c]) = putG (applyR R d l) c.key (applyR R d l c.key ++ [⟨d, c.val, c.gone⟩]) := by simp [applyR]
theorem applyR_len (d : Int) (key : ByteArray) : ∀ (l : List Chg) (R : ByteArray → List Ver), (applyR R d l key).length ≤ (R key).length + l.length
  | [], R => by simp [applyR]
  | c :: l, R => by
    have h := applyR_len d key l (putG R c.key (R c.key ++ [⟨d, c.val, c.gone⟩]))
    have e : applyR R d (c :: l) = applyR (putG R c.key (R c.key ++ [⟨d, c.val, c.gone⟩])) d l := rfl
    rw [e, List.length_cons]
    by_cases ek : key = c.key
    · subst ek
      rw [putG_same, List.length_append] at h
      simp at h
      omega
    · rw [putG_other _ _ ek] at h
      omega
end Go.Proofs.YtighpalbodhfeaaGreatDoor
