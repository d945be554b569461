/-
  A view of rows that may be, with the library's tables laid: what its acts make of it.
-/
import Derived.Test.YtighpalbodhfeaaGreatDoorRowBoth
import Derived.Test.YtighpalbodhfeaaGreatDoorVerSaysC
namespace Go.Proofs.YtighpalbodhfeaaGreatDoor
open Go.RowKit Go.Joins Go.Shelf

structure OkQ (P : Rws) (chs : List Chg) : Prop where
  rk : ∀ r ∈ P, keyL r.1.data.toList = true ∧ r.2.size ≤ 40
  ck : ∀ c ∈ chs, keyL c.key.data.toList = true ∧ c.val.size ≤ 40
theorem fault_says {c : Chg} (h : chgFault c = 0) : keyL c.key.data.toList = true ∧ c.val.size ≤ 40 := by
  unfold chgFault at h
  split at h
  · cases h
  · split at h
    · cases h
    · split at h
      · cases h
      · rename_i h1 _ h3
        exact ⟨by simpa using h1, by omega⟩
theorem alterF_zero {l : List Chg} {c : Chg} (h : alterF l c = 0) : chgFault c = 0 := by
  unfold alterF at h
  split at h
  · assumption
  · exact h
theorem OkQ.alter {P : Rws} {chs : List Chg} (h : OkQ P chs) (c : Chg) : OkQ P (alterL chs c) := by
  unfold alterL
  split
  · rename_i hf
    exact ⟨h.rk, fun x hx => (ins_mem hx).elim (fun e => by rw [e]; exact fault_says (alterF_zero hf)) (h.ck x)⟩
  · exact h
theorem findC_mem {l : List Chg} {key : ByteArray} {c : Chg} (h : findC l key = some c) : c ∈ l := by
  unfold findC at h
  split at h
  · exact List.mem_of_getElem? h
  · cases h
theorem valR_in (l : Rws) (key : ByteArray) : valR l key = (⟨#[]⟩, false) ∨ ∃ r ∈ l, valR l key = (r.2, true) := by
  unfold valR
  split
  · rename_i r h; exact .inr ⟨r, List.mem_of_find?_eq_some h, rfl⟩
  · exact .inl rfl
theorem getP_size {P : Rws} {chs : List Chg} (h : OkQ P chs) (rds : Rws) (key : ByteArray) : (getP chs rds P key).1.size ≤ 40 := by
  unfold getP
  split
  · split
    · rename_i c hc; exact (h.ck c (findC_mem hc)).2
    · split
      · rcases valR_in P key with e | ⟨r, hr, e⟩
        · rw [e]; exact Nat.zero_le _
        · rw [e]; exact (h.rk r hr).2
      · exact Nat.zero_le _
  · exact Nat.zero_le _
theorem layR_in {l : Rws} {c : Chg} {r : ByteArray × ByteArray} (h : r ∈ layR l c) : r ∈ l ∨ r = (c.key, c.val) := by
  unfold layR at h
  rcases List.mem_append.1 h with h | h
  · rcases List.mem_append.1 h with h | h
    · exact .inl (List.mem_of_mem_take h)
    · split at h
      · simp at h
      · simp at h; exact .inr h
  · exact .inl (List.mem_of_mem_drop h)
theorem seenQ_in {P : Rws} {chs : List Chg} (h : OkQ P chs) (s : ByteArray × ByteArray) : ∀ r ∈ seenP P chs s, keyL r.1.data.toList = true ∧ r.2.size ≤ 40 := by
  have gen : ∀ (cs : List Chg) (l : Rws), (∀ r ∈ l, keyL r.1.data.toList = true ∧ r.2.size ≤ 40) → (∀ c ∈ cs, keyL c.key.data.toList = true ∧ c.val.size ≤ 40) → ∀ r ∈ seenR l s cs, keyL r.1.data.toList = true ∧ r.2.size ≤ 40 := by
    intro cs
    induction cs with
    | nil => intro l hl _ r hr; exact hl r hr
    | cons c cs ih =>
      intro l hl hc r hr
      have e : seenR l s (c :: cs) = seenR (if hasS s.1 s.2 c.key then layR l c else l) s cs := rfl
      rw [e] at hr
      refine ih _ ?_ (fun x hx => hc x (List.mem_cons_of_mem _ hx)) r hr
      intro x hx
      split at hx
      · rcases layR_in hx with h | rfl
        · exact hl x h
        · exact hc c (List.mem_cons_self ..)
      · exact hl x hx
  exact gen chs _ (fun r hr => h.rk r (List.mem_filter.1 hr).1) h.ck
/-- a view of rows that may be; the library's tables lie beneath it -/
structure QV (w : World) (B wb : Nat) (S : Nat → Prop) (P : Rws) (since : Int) (chs : List Chg) (rds : Rws) : Prop where
  pv : PV w B wb S P since chs rds
  ok : OkQ P chs
  la : ∀ W, Below B w W → Laid W
def ActQ (w w' : World) (B wb : Nat) (S : Nat → Prop) (P : Rws) (since : Int) (chs : List Chg) (rds : Rws) : Prop := ∃ S', QV w' B wb S' P since chs rds ∧ StepV w w' B S S'
section
variable {w w' : World} {B wb : Nat} {S : Nat → Prop} {P : Rws} {since : Int} {chs chs' : List Chg} {rds rds' : Rws}
theorem QV.laid (h : QV w B wb S P since chs rds) : Laid w := h.la w (Below.refl _ _)
theorem QV.on (h : QV w B wb S P since chs rds) (hb : Below w.heap.size w w') : QV w' B wb S P since chs rds := ⟨h.pv.on hb, h.ok, fun W hW => h.la W ((hb.mono h.pv.lo).trans hW)⟩
theorem QV.act (h : QV w B wb S P since chs rds) (hk : OkQ P chs') (ha : ActV w w' B wb S P since chs' rds') : ActQ w w' B wb S P since chs' rds' := by
  obtain ⟨S', hp, hs⟩ := ha
  exact ⟨S', ⟨hp, hk, fun W hW => h.la W (hs.bel.trans hW)⟩, hs⟩
theorem QV.stay (h : QV w B wb S P since chs rds) (hb : Below w.heap.size w w') : ActQ w w' B wb S P since chs rds := ⟨S, h.on hb, .on h.pv.lo hb⟩
/-- an act, and more memory ahead of it -/
theorem QV.pre {w1 : World} (h : QV w B wb S P since chs rds) (hb : Below w.heap.size w w1) (ha : ActQ w1 w' B wb S P since chs' rds') : ActQ w w' B wb S P since chs' rds' := by
  obtain ⟨S', hp, hs⟩ := ha
  exact ⟨S', hp, (StepV.on h.pv.lo hb).trans hs⟩
/-- an act, and more memory behind it -/
theorem ActQ.post {w1 : World} (ha : ActQ w w1 B wb S P since chs' rds') (hb : Below w1.heap.size w1 w') : ActQ w w' B wb S P since chs' rds' := by
  obtain ⟨S', hp, hs⟩ := ha
  exact ⟨S', hp.on hb, hs.trans (.on hp.pv.lo hb)⟩
end
theorem ActQ.after {w w1 w2 : World} {B wb : Nat} {S S1 : Nat → Prop} {P : Rws} {since : Int} {chs : List Chg} {rds : Rws} (hs : StepV w w1 B S S1) (ha : ActQ w1 w2 B wb S1 P since chs rds) : ActQ w w2 B wb S P since chs rds := by
  obtain ⟨S2, hq, h2⟩ := ha
  exact ⟨S2, hq, hs.trans h2⟩
/-- an act under way, with a block of its own for what it returns -/
structure BoxQ (w w2 : World) (B wb bx : Nat) (S S' : Nat → Prop) (P : Rws) (since : Int) (chs : List Chg) (rds : Rws) : Prop where
  qv : QV w2 B wb S' P since chs rds
  st : StepV w w2 B S S'
  nb : ¬ S' bx
  lo : w.heap.size ≤ bx
  hi : bx < w2.heap.size
  fz : ∀ j, w2.frozen? ⟨bx, j, none⟩ = false
section
variable {w w1 w2 : World} {B wb bx : Nat} {S S' : Nat → Prop} {P : Rws} {since : Int} {chs chs' : List Chg} {rds rds' : Rws}
theorem BoxQ.start (h : QV w B wb S P since chs rds) (vs : Array Value) (t : TypeId) : BoxQ w (w.alloc (.cells vs t)) B wb w.heap.size S S P since chs rds :=
  have hb := below_alloc1 w (.cells vs t)
  ⟨h.on hb, .on h.pv.lo hb, fun e => by have := h.pv.lt e; omega, Nat.le_refl _, by simp, fun j => frozen_new _ _ _ j⟩
theorem BoxQ.on (h : BoxQ w w1 B wb bx S S' P since chs rds) (hb : Below w1.heap.size w1 w2) : BoxQ w w2 B wb bx S S' P since chs rds :=
  ⟨h.qv.on hb, h.st.trans (.on h.qv.pv.lo hb), h.nb, h.lo, Nat.lt_of_lt_of_le h.hi hb.size, fun j => frozen_on hb h.hi (h.fz j)⟩
theorem BoxQ.act (h : BoxQ w w1 B wb bx S S' P since chs rds) (ha : ActQ w1 w2 B wb S' P since chs' rds') : ∃ S2, BoxQ w w2 B wb bx S S2 P since chs' rds' ∧ w2.heap[bx]? = w1.heap[bx]? := by
  obtain ⟨S2, hq, hs⟩ := ha
  obtain ⟨e, n⟩ := hs.far bx h.hi h.nb
  exact ⟨S2, ⟨hq, h.st.trans hs, n, h.lo, Nat.lt_of_lt_of_le h.hi hs.bel.size, fun j => (World.frozen?_of_block (w := w1) e).trans (h.fz j)⟩, e⟩
theorem BoxQ.set (h : BoxQ w w1 B wb bx S S' P since chs rds) (hB : B ≤ w.heap.size) (j : Nat) (v : Value) : BoxQ w (w1.setCell ⟨bx, j, none⟩ v) B wb bx S S' P since chs rds := by
  have hs : ∀ k, k ≠ bx → (w1.setCell ⟨bx, j, none⟩ v).heap[k]? = w1.heap[k]? := fun k hk => Below.heap_setCell _ _ _ _ hk
  have hl := h.lo
  refine ⟨⟨h.qv.pv.kept (by simp) fun k hk => hs k fun e => h.nb (e ▸ hk), h.qv.ok, fun W hW => h.qv.la W (((Below.refl B w1).setCell (p := ⟨bx, j, none⟩) (by show B ≤ bx; omega) v).trans hW)⟩, ⟨h.st.bel.setCell (p := ⟨bx, j, none⟩) (by show B ≤ bx; omega) v, fun k hk hn => ?_⟩, h.nb, h.lo, by simpa using h.hi, fun k => by rw [World.frozen?_setCell]; exact h.fz k⟩
  obtain ⟨a, b⟩ := h.st.far k hk hn
  exact ⟨(hs k (by omega)).trans a, b⟩
theorem BoxQ.done (h : BoxQ w w1 B wb bx S S' P since chs rds) : ActQ w w1 B wb S P since chs rds := ⟨S', h.qv, h.st⟩
end
theorem qv_put (key val : ByteArray) {B wb : Nat} {S : Nat → Prop} {P : Rws} {since : Int} {chs : List Chg} {rds : Rws} (w : World) (h : QV w B wb S P since chs rds) (hk : key.size ≤ maxLen) :
    Calls Tryz.prog 28 #[.pointer (some ⟨wb, 0, none⟩), .string key, .string val] w fun e w' => e = .returned (errV (alterF chs ⟨key, val, false⟩)) ∧ ActQ w w' B wb S P since (alterL chs ⟨key, val, false⟩) rds :=
  (pv_put key val w h.pv hk fault_small).mono fun _ _ ⟨he, ha⟩ => ⟨he, h.act (h.ok.alter _) ha⟩
theorem qv_delete (key : ByteArray) {B wb : Nat} {S : Nat → Prop} {P : Rws} {since : Int} {chs : List Chg} {rds : Rws} (w : World) (h : QV w B wb S P since chs rds) (hk : key.size ≤ maxLen) :
    Calls Tryz.prog 30 #[.pointer (some ⟨wb, 0, none⟩), .string key] w fun e w' => e = .returned (errV (alterF chs ⟨key, ⟨#[]⟩, true⟩)) ∧ ActQ w w' B wb S P since (alterL chs ⟨key, ⟨#[]⟩, true⟩) rds :=
  (pv_delete key w h.pv hk fault_small).mono fun _ _ ⟨he, ha⟩ => ⟨he, h.act (h.ok.alter _) ha⟩
theorem qv_get (key : ByteArray) {B wb : Nat} {S : Nat → Prop} {P : Rws} {since : Int} {chs : List Chg} {rds : Rws} (w : World) (h : QV w B wb S P since chs rds) (hk : key.size ≤ maxLen) :
    Calls Tryz.prog 31 #[.pointer (some ⟨wb, 0, none⟩), .string key] w fun e w' => e = .returned (.tuple #[.string (getP chs rds P key).1, .bool (getP chs rds P key).2.1, errV (getP chs rds P key).2.2]) ∧ ActQ w w' B wb S P since chs (getL chs rds key) :=
  (pv_get key w h.pv hk).mono fun _ _ ⟨he, ha⟩ => ⟨he, h.act h.ok ha⟩
end Go.Proofs.YtighpalbodhfeaaGreatDoor

/-
  What queue.Find returns, of every view and name.
-/
namespace Go.Proofs.YtighpalbodhfeaaGreatDoor
open Go.RowKit Go.Joins Go.Shelf
attribute [local go_sem ↓] Go.wp_at_zero Go.wp_at_succ

noncomputable def findQ (P : Rws) (chs : List Chg) (rds : Rws) (name : ByteArray) : Int × Int × ByteArray × Nat :=
  if nameL name.data.toList then
    if (getP chs rds P (queB name)).2.2 = 0 then
      if (getP chs rds P (queB name)).2.1 then qOf (getP chs rds P (queB name)).1 else (0, 0, ⟨#[]⟩, 5)
    else (0, 0, ⟨#[]⟩, (getP chs rds P (queB name)).2.2)
  else (0, 0, ⟨#[]⟩, 3)
def findL (chs : List Chg) (rds : Rws) (name : ByteArray) : Rws := if nameL name.data.toList then getL chs rds (queB name) else rds
abbrev qV (x : Int × Int × ByteArray × Nat) : Value := .agg #[.int .i64 x.1, .int .i64 x.2.1, .string x.2.2.1]
theorem queB_size (s : ByteArray) : (queB s).size = s.size + 2 := by
  have := congrArg List.length (queB_l s); simp at this; exact this
set_option maxHeartbeats 4000000 in
theorem qfind_any (name : ByteArray) {B wb : Nat} {S : Nat → Prop} {P : Rws} {since : Int} {chs : List Chg} {rds : Rws} (w : World) (h : QV w B wb S P since chs rds) (hn : name.size ≤ 1000) :
    Calls Tryz.prog 26 #[.pointer (some ⟨wb, 0, none⟩), .string name] w fun e w' => e = .returned (.tuple #[qV (findQ P chs rds name), errV (findQ P chs rds name).2.2.2]) ∧ ActQ w w' B wb S P since chs (findL chs rds name) := by
  have HX := hide (BoxQ.start h #[Value.int .i64 0, Value.int .i64 0, Value.string ⟨#[]⟩] 76)
  have HLO := hide h.pv.lo
  have hqs : (queB name).size ≤ maxLen := by rw [queB_size]; unfold maxLen; omega
  have HGS := hide (getP_size h.ok rds (queB name))
  have n1 := err_neq_nil 108
  clear h
  cases hnm : nameL name.data.toList with
  | false =>
    have eF : findQ P chs rds name = (0, 0, ⟨#[]⟩, 3) := by unfold findQ; rw [hnm]; rfl
    have eL : findL chs rds name = rds := by unfold findL; rw [hnm]; rfl
    rw [eF, eL]
    have HNM := hide hnm
    clear hnm eF eL
    go_enter Tryz.func26, Tryz.ntmps26
    go_wp2_with (first
      | (go_at_call 64; refine (name_any name _).mono ?_; rintro e w1 ⟨rfl, rfl⟩; rw [HNM.out])
      | fail)
    exact bodyPost_ret (v := .tuple #[qV (0, 0, ⟨#[]⟩, 3), errV 3]) (by simp [errV, results, Tryz.results26, go_sem]) rfl ⟨rfl, HX.out.done⟩
  | true =>
    have eL : findL chs rds name = getL chs rds (queB name) := by unfold findL; rw [hnm]; rfl
    have eF : findQ P chs rds name = if (getP chs rds P (queB name)).2.2 = 0 then (if (getP chs rds P (queB name)).2.1 then qOf (getP chs rds P (queB name)).1 else (0, 0, ⟨#[]⟩, 5)) else (0, 0, ⟨#[]⟩, (getP chs rds P (queB name)).2.2) := by unfold findQ; rw [hnm]; rfl
    rw [eF, eL]
    have HNM := hide hnm
    clear hnm eF eL
    have HGT := hide (fun W hW => qv_get (queB name) (B := B) (wb := wb) (S := S) (P := P) (since := since) (chs := chs) (rds := rds) W hW hqs)
    generalize getP chs rds P (queB name) = gp at *
    obtain ⟨tx, is, er⟩ := gp
    have r0 : (w.alloc (Obj.cells #[Value.int .i64 0, Value.int .i64 0, Value.string ⟨#[]⟩] 76)).cell? ⟨w.heap.size, 0, none⟩ = some (Value.int .i64 0) := by simp
    have r1 : (w.alloc (Obj.cells #[Value.int .i64 0, Value.int .i64 0, Value.string ⟨#[]⟩] 76)).cell? ⟨w.heap.size, 1, none⟩ = some (Value.int .i64 0) := by simp
    have r2 : (w.alloc (Obj.cells #[Value.int .i64 0, Value.int .i64 0, Value.string ⟨#[]⟩] 76)).cell? ⟨w.heap.size, 2, none⟩ = some (Value.string ⟨#[]⟩) := by simp
    by_cases h0 : er = 0
    · subst h0
      cases is with
      | false =>
        rw [if_pos rfl, if_neg (by simp)]
        go_enter Tryz.func26, Tryz.ntmps26
        go_wp2_with (first
          | (go_at_call 64; refine (name_any name _).mono ?_; rintro e w1 ⟨rfl, rfl⟩; rw [HNM.out])
          | (go_at_call 65; refine (queue_any name _ (by omega)).mono ?_; rintro e w1 ⟨rfl, rfl⟩)
          | (go_at_call 31; refine (HGT.out _ HX.out.qv).mono ?_; rintro e w2 ⟨rfl, ha⟩; obtain ⟨S2, hx2, eb⟩ := HX.out.act ha; have HX2 := hide hx2; have fz := hx2.fz; replace r0 := (World.cell?_of_block eb).trans r0; replace r1 := (World.cell?_of_block eb).trans r1; replace r2 := (World.cell?_of_block eb).trans r2; clear ha hx2 eb; rw [show errV 0 = Value.nilIface from rfl])
          | fail)
        exact bodyPost_ret (v := .tuple #[qV (0, 0, ⟨#[]⟩, 5), errV 5]) (by simp [errV, results, Tryz.results26, go_sem, r0, r1, r2]) rfl ⟨rfl, (((HX2.out.set HLO.out 0 _).set HLO.out 1 _).set HLO.out 2 _).done⟩
      | true =>
        rw [if_pos rfl, if_pos rfl]
        go_enter Tryz.func26, Tryz.ntmps26
        go_wp2_with (first
          | (go_at_call 64; refine (name_any name _).mono ?_; rintro e w1 ⟨rfl, rfl⟩; rw [HNM.out])
          | (go_at_call 65; refine (queue_any name _ (by omega)).mono ?_; rintro e w1 ⟨rfl, rfl⟩)
          | (go_at_call 31; refine (HGT.out _ HX.out.qv).mono ?_; rintro e w2 ⟨rfl, ha⟩; obtain ⟨S2, hx2, eb⟩ := HX.out.act ha; have HX2 := hide hx2; have fz := hx2.fz; replace r0 := (World.cell?_of_block eb).trans r0; replace r1 := (World.cell?_of_block eb).trans r1; replace r2 := (World.cell?_of_block eb).trans r2; clear ha hx2 eb; rw [show errV 0 = Value.nilIface from rfl])
          | (go_at_call 66; refine (qOf_prog tx (by have := HGS.out; omega) _ HX2.out.qv.laid).mono ?_; rintro e w3 ⟨rfl, hb3⟩; have HX3 := hide (HX2.out.on hb3); have fz3 := (HX2.out.on hb3).fz; replace r0 := cell_on hb3 r0; replace r1 := cell_on hb3 r1; replace r2 := cell_on hb3 r2; clear hb3)
          | fail)
        exact bodyPost_ret (v := .tuple #[qV (qOf tx), errV (qOf tx).2.2.2]) (by simp [errV, results, Tryz.results26, go_sem, r0, r1, r2]) rfl ⟨rfl, (((HX3.out.set HLO.out 0 _).set HLO.out 1 _).set HLO.out 2 _).done⟩
    · rw [if_neg h0, errV_pos h0]
      have HER := hide (errV_pos h0)
      clear h0
      go_enter Tryz.func26, Tryz.ntmps26
      go_wp2_with (first
        | (go_at_call 64; refine (name_any name _).mono ?_; rintro e w1 ⟨rfl, rfl⟩; rw [HNM.out])
        | (go_at_call 65; refine (queue_any name _ (by omega)).mono ?_; rintro e w1 ⟨rfl, rfl⟩)
        | (go_at_call 31; refine (HGT.out _ HX.out.qv).mono ?_; rintro e w2 ⟨rfl, ha⟩; obtain ⟨S2, hx2, eb⟩ := HX.out.act ha; have HX2 := hide hx2; have fz := hx2.fz; replace r0 := (World.cell?_of_block eb).trans r0; replace r1 := (World.cell?_of_block eb).trans r1; replace r2 := (World.cell?_of_block eb).trans r2; clear ha hx2 eb; rw [HER.out])
        | fail)
      exact bodyPost_ret (v := .tuple #[qV (0, 0, ⟨#[]⟩, er), .iface 108 (.int .i64 er)]) (by simp [results, Tryz.results26, go_sem, r0, r1, r2]) rfl ⟨rfl, (((HX2.out.set HLO.out 0 _).set HLO.out 1 _).set HLO.out 2 _).done⟩
end Go.Proofs.YtighpalbodhfeaaGreatDoor

/-
  What queue.putQueue, putMessage, missing and Create return, of every view.
-/
namespace Go.Proofs.YtighpalbodhfeaaGreatDoor
open Go.RowKit Go.Joins Go.Shelf
attribute [local go_sem ↓] Go.wp_at_zero Go.wp_at_succ

def putQF (chs : List Chg) (name : ByteArray) (x y : Int) (d : ByteArray) : Nat := if (qText x y d).2 = 0 then alterF chs ⟨queB name, (qText x y d).1, false⟩ else (qText x y d).2
def putQL (chs : List Chg) (name : ByteArray) (x y : Int) (d : ByteArray) : List Chg := if (qText x y d).2 = 0 then alterL chs ⟨queB name, (qText x y d).1, false⟩ else chs
def putMF (chs : List Chg) (name : ByteArray) (k x y : Int) (d : ByteArray) : Nat := if (mText x y d).2 = 0 then alterF chs ⟨msgB name (numOf k), (mText x y d).1, false⟩ else (mText x y d).2
def putML (chs : List Chg) (name : ByteArray) (k x y : Int) (d : ByteArray) : List Chg := if (mText x y d).2 = 0 then alterL chs ⟨msgB name (numOf k), (mText x y d).1, false⟩ else chs
theorem errV_zero : errV 0 = .nilIface := rfl
set_option maxHeartbeats 4000000 in
theorem qputQueue_any (name : ByteArray) (x y : Int) (d : ByteArray) {B wb : Nat} {S : Nat → Prop} {P : Rws} {since : Int} {chs : List Chg} {rds : Rws} (w : World) (h : QV w B wb S P since chs rds) (hn : name.size ≤ 1000) (hd : d.size ≤ 1000) :
    Calls Tryz.prog 45 #[.pointer (some ⟨wb, 0, none⟩), .string name, .agg #[.int .i64 x, .int .i64 y, .string d]] w fun e w' => e = .returned (errV (putQF chs name x y d)) ∧ ActQ w w' B wb S P since (putQL chs name x y d) rds := by
  have HX := hide (BoxQ.start h #[Value.int .i64 x, Value.int .i64 y, Value.string d] 76)
  have hqs : (queB name).size ≤ maxLen := by rw [queB_size]; unfold maxLen; omega
  have n1 := err_neq_nil 108
  unfold putQF putQL
  have HT := hide (fun W hL => qText_prog x y d hd W hL)
  generalize qText x y d = qt at *
  obtain ⟨tx, er⟩ := qt
  dsimp only at HT ⊢
  clear h
  by_cases h0 : er = 0
  · subst h0
    rw [if_pos rfl, if_pos rfl]
    go_enter Tryz.func45, Tryz.ntmps45
    go_wp2_with (first
      | (go_at_call 92; refine (HT.out _ HX.out.qv.laid).mono ?_; rintro e w1 ⟨rfl, hb1⟩; have HX1 := hide (HX.out.on hb1); clear hb1; rw [errV_zero])
      | (go_at_call 65; refine (queue_any name _ (by omega)).mono ?_; rintro e w2 ⟨rfl, rfl⟩)
      | (go_at_call 28; refine (qv_put (queB name) tx _ HX1.out.qv hqs).mono ?_; rintro e w3 ⟨rfl, ha⟩; obtain ⟨S2, hx2, _⟩ := HX1.out.act ha; have HX2 := hide hx2; clear ha hx2)
      | fail)
    go_ret
    exact ⟨rfl, HX2.out.done⟩
  · rw [if_neg h0, if_neg h0, errV_pos h0]
    have HER := hide (errV_pos h0)
    clear h0
    go_enter Tryz.func45, Tryz.ntmps45
    go_wp2_with (first
      | (go_at_call 92; refine (HT.out _ HX.out.qv.laid).mono ?_; rintro e w1 ⟨rfl, hb1⟩; have HX1 := hide (HX.out.on hb1); clear hb1; rw [HER.out])
      | fail)
    go_ret
    exact ⟨rfl, HX1.out.done⟩
theorem msgB_short {name : ByteArray} (n : Nat) (h : name.size ≤ 1000) : (msgB name n).size ≤ maxLen := by rw [msg_size]; unfold maxLen; omega
set_option maxHeartbeats 4000000 in
theorem qputMessage_any (name : ByteArray) (k x y : Int) (d : ByteArray) {B wb : Nat} {S : Nat → Prop} {P : Rws} {since : Int} {chs : List Chg} {rds : Rws} (w : World) (h : QV w B wb S P since chs rds) (hn : name.size ≤ 1000) (hk0 : -9223372036854775808 ≤ k) (hk1 : k ≤ 9223372036854775807) :
    Calls Tryz.prog 62 #[.pointer (some ⟨wb, 0, none⟩), .string name, .agg #[.int .i64 k, .int .i64 x, .int .i64 y, .string d]] w fun e w' => e = .returned (errV (putMF chs name k x y d)) ∧ ActQ w w' B wb S P since (putML chs name k x y d) rds := by
  have HX := hide (BoxQ.start h #[Value.int .i64 k, Value.int .i64 x, Value.int .i64 y, Value.string d] 48)
  have hqs := msgB_short (name := name) (numOf k) hn
  have n1 := err_neq_nil 108
  unfold putMF putML
  have HT := hide (fun W hL => mText_prog k x y d W hL)
  generalize mText x y d = qt at *
  obtain ⟨tx, er⟩ := qt
  dsimp only at HT ⊢
  clear h
  by_cases h0 : er = 0
  · subst h0
    rw [if_pos rfl, if_pos rfl]
    have r0 : (w.alloc (Obj.cells #[Value.int .i64 k, Value.int .i64 x, Value.int .i64 y, Value.string d] 48)).cell? ⟨w.heap.size, 0, none⟩ = some (Value.int .i64 k) := by simp
    go_enter Tryz.func62, Tryz.ntmps62
    go_wp2_with (first
      | (go_at_call 102; refine (HT.out _ HX.out.qv.laid).mono ?_; rintro e w1 ⟨rfl, hb1⟩; have HX1 := hide (HX.out.on hb1); replace r0 := cell_on hb1 r0; clear hb1; rw [errV_zero])
      | (go_at_call 59; refine (message_any name k _ (by omega) hk0 hk1 HX1.out.qv.laid.tab).mono ?_; rintro e w2 ⟨rfl, hb2⟩; replace HX1 := hide (HX1.out.on hb2); replace r0 := cell_on hb2 r0; clear hb2)
      | (go_at_call 28; refine (qv_put (msgB name (numOf k)) tx _ HX1.out.qv hqs).mono ?_; rintro e w3 ⟨rfl, ha⟩; obtain ⟨S2, hx2, _⟩ := HX1.out.act ha; have HX2 := hide hx2; clear ha hx2)
      | fail)
    go_ret
    exact ⟨rfl, HX2.out.done⟩
  · rw [if_neg h0, if_neg h0, errV_pos h0]
    have HER := hide (errV_pos h0)
    clear h0
    go_enter Tryz.func62, Tryz.ntmps62
    go_wp2_with (first
      | (go_at_call 102; refine (HT.out _ HX.out.qv.laid).mono ?_; rintro e w1 ⟨rfl, hb1⟩; have HX1 := hide (HX.out.on hb1); clear hb1; rw [HER.out])
      | fail)
    go_ret
    exact ⟨rfl, HX1.out.done⟩
end Go.Proofs.YtighpalbodhfeaaGreatDoor

/-
  What queue.missing and queue.Create return, of every view.
-/
namespace Go.Proofs.YtighpalbodhfeaaGreatDoor
open Go.RowKit Go.Joins Go.Shelf
attribute [local go_sem ↓] Go.wp_at_zero Go.wp_at_succ

def missN (f : Nat) : Nat := if f = 0 then 6 else if f = 5 then 0 else f
theorem errno_eql (a b : Int) (W : World) : (binOp .eql 43 (.iface 108 (.int .i64 a)) (.iface 108 (.int .i64 b))).run Tryz.prog W = .ok (.bool (a == b)) W := by
  kernel_rfl
set_option maxHeartbeats 4000000 in
theorem qmissing_any (name : ByteArray) {B wb : Nat} {S : Nat → Prop} {P : Rws} {since : Int} {chs : List Chg} {rds : Rws} (w : World) (h : QV w B wb S P since chs rds) (hn : name.size ≤ 1000) :
    Calls Tryz.prog 44 #[.pointer (some ⟨wb, 0, none⟩), .string name] w fun e w' => e = .returned (errV (missN (findQ P chs rds name).2.2.2)) ∧ ActQ w w' B wb S P since chs (findL chs rds name) := by
  have n1 := err_not_nil 108
  have n2 := errno_eql
  have HQ := hide h
  have HF := hide (qfind_any name w h hn)
  clear h
  generalize findQ P chs rds name = q at *
  obtain ⟨qx, qy, qd, er⟩ := q
  dsimp only at HF ⊢
  by_cases h0 : er = 0
  · subst h0
    go_enter Tryz.func44, Tryz.ntmps44
    go_wp2_with (first
      | (go_at_call 26; refine HF.out.mono ?_; rintro e w1 ⟨rfl, ha⟩; have HA := hide ha; clear ha; rw [errV_zero])
      | fail)
    go_ret
    exact ⟨rfl, HA.out.post (below_alloc1 _ _)⟩
  · by_cases h5 : er = 5
    · subst h5
      clear h0
      have HER : Hid (errV 5 = .iface 108 (.int .i64 5)) := rfl
      go_enter Tryz.func44, Tryz.ntmps44
      go_wp2_with (first
        | (go_at_call 26; refine HF.out.mono ?_; rintro e w1 ⟨rfl, ha⟩; have HA := hide ha; clear ha; rw [HER.out])
        | fail)
      go_ret
      exact ⟨rfl, HA.out.post (below_alloc1 _ _)⟩
    · have em : missN er = er := by unfold missN; rw [if_neg h0, if_neg h5]
      rw [em, errV_pos h0]
      have HER := hide (errV_pos h0)
      have e5 : ((er : Int) == 5) = false := by simp; omega
      clear h0 h5 em
      go_enter Tryz.func44, Tryz.ntmps44
      go_wp2_with (first
        | (go_at_call 26; refine HF.out.mono ?_; rintro e w1 ⟨rfl, ha⟩; have HA := hide ha; clear ha; rw [HER.out])
        | fail)
      go_ret
      exact ⟨rfl, HA.out.post (below_alloc1 _ _)⟩
open Classical in
noncomputable def createQ (P : Rws) (chs : List Chg) (rds : Rws) (name : ByteArray) (tries : Int) (dead : ByteArray) : Nat × List Chg × Rws :=
  if missN (findQ P chs rds name).2.2.2 = 0 then
    if eqS dead name = true then (3, chs, findL chs rds name)
    else if dead.toList.isEmpty = true then (putQF chs name 0 tries dead, putQL chs name 0 tries dead, findL chs rds name)
    else if (findQ P chs (findL chs rds name) dead).2.2.2 = 0 then (putQF chs name 0 tries dead, putQL chs name 0 tries dead, findL chs (findL chs rds name) dead)
    else ((findQ P chs (findL chs rds name) dead).2.2.2, chs, findL chs (findL chs rds name) dead)
  else (missN (findQ P chs rds name).2.2.2, chs, findL chs rds name)
set_option maxHeartbeats 4000000 in
theorem qcreate_any (name : ByteArray) (tries : Int) (dead : ByteArray) {B wb : Nat} {S : Nat → Prop} {P : Rws} {since : Int} {chs : List Chg} {rds : Rws} (w : World) (h : QV w B wb S P since chs rds) (hn : name.size ≤ 1000) (hd : dead.size ≤ 1000) :
    Calls Tryz.prog 11 #[.pointer (some ⟨wb, 0, none⟩), .string name, .int .i64 tries, .string dead] w fun e w' => e = .returned (errV (createQ P chs rds name tries dead).1) ∧ ActQ w w' B wb S P since (createQ P chs rds name tries dead).2.1 (createQ P chs rds name tries dead).2.2 := by
  have n1 := err_neq_nil 108
  have HM := hide (qmissing_any name w h hn)
  have HF := hide (fun (S1 : Nat → Prop) (W : World) (hW : QV W B wb S1 P since chs (findL chs rds name)) => qfind_any dead W hW hd)
  unfold createQ
  clear h
  generalize findQ P chs (findL chs rds name) dead = q2 at *
  generalize missN (findQ P chs rds name).2.2.2 = f1 at *
  generalize hr2 : findL chs (findL chs rds name) dead = rds2 at *
  generalize findL chs rds name = rds1 at *
  obtain ⟨qx, qy, qd, er⟩ := q2
  dsimp only at HF ⊢
  clear hr2
  by_cases h1 : f1 = 0
  · subst h1
    rw [if_pos rfl]
    have HE1 := hide errV_zero
    cases hdn : eqS dead name with
    | true =>
      have hdn' : (dead.toList == name.toList) = true := hdn
      rw [if_pos rfl]
      clear hdn
      go_enter Tryz.func11, Tryz.ntmps11
      go_wp2_with (first
        | (go_at_call 44; refine HM.out.mono ?_; rintro e w1 ⟨rfl, ha⟩; obtain ⟨S1, hq1, hs1⟩ := ha; have HQ1 := hide hq1; have HS1 := hide hs1; clear hq1 hs1; rw [HE1.out])
        | fail)
      go_ret
      exact ⟨rfl, S1, HQ1.out, HS1.out⟩
    | false =>
      have hdn' : (dead.toList == name.toList) = false := hdn
      rw [if_neg (by simp)]
      clear hdn
      cases hde : dead.toList.isEmpty with
      | true =>
        have hde' : (dead.toList == []) = true := by rw [List.isEmpty_iff.1 hde]; rfl
        rw [if_pos rfl]
        clear hde
        go_enter Tryz.func11, Tryz.ntmps11
        go_wp2_with (first
          | (go_at_call 44; refine HM.out.mono ?_; rintro e w1 ⟨rfl, ha⟩; obtain ⟨S1, hq1, hs1⟩ := ha; have HQ1 := hide hq1; have HS1 := hide hs1; clear hq1 hs1; rw [HE1.out])
          | (go_at_call 45; refine (qputQueue_any name 0 tries dead _ HQ1.out hn hd).mono ?_; rintro e w3 ⟨rfl, ha⟩; have HA := hide (ActQ.after HS1.out ha); clear ha)
          | fail)
        go_ret
        exact ⟨rfl, HA.out⟩
      | false =>
        have hde' : (dead.toList == []) = false := by cases e : dead.toList with | nil => rw [e] at hde; cases hde | cons a l => rfl
        rw [if_neg (by simp)]
        clear hde
        by_cases h2 : er = 0
        · subst h2
          rw [if_pos rfl]
          have HE2 := hide errV_zero
          go_enter Tryz.func11, Tryz.ntmps11
          go_wp2_with (first
            | (go_at_call 44; refine HM.out.mono ?_; rintro e w1 ⟨rfl, ha⟩; obtain ⟨S1, hq1, hs1⟩ := ha; have HQ1 := hide hq1; have HS1 := hide hs1; clear hq1 hs1; rw [HE1.out])
            | (go_at_call 26; refine (HF.out _ _ HQ1.out).mono ?_; rintro e w2 ⟨rfl, ha⟩; obtain ⟨S2, hq2, hs2⟩ := ha; have hbA := below_alloc1 w2 (Obj.cells #[Value.int .i64 qx, Value.int .i64 qy, Value.string qd] 76); have HQ2 := hide (hq2.on hbA); have HS2 := hide ((HS1.out.trans hs2).trans (.on hq2.pv.lo hbA)); clear hq2 hs2 hbA; rw [HE2.out])
            | (go_at_call 45; refine (qputQueue_any name 0 tries dead _ HQ2.out hn hd).mono ?_; rintro e w3 ⟨rfl, ha⟩; have HA := hide (ActQ.after HS2.out ha); clear ha)
            | fail)
          go_ret
          exact ⟨rfl, HA.out⟩
        · rw [if_neg h2]
          have HE2 := hide (errV_pos h2)
          clear h2
          go_enter Tryz.func11, Tryz.ntmps11
          go_wp2_with (first
            | (go_at_call 44; refine HM.out.mono ?_; rintro e w1 ⟨rfl, ha⟩; obtain ⟨S1, hq1, hs1⟩ := ha; have HQ1 := hide hq1; have HS1 := hide hs1; clear hq1 hs1; rw [HE1.out])
            | (go_at_call 26; refine (HF.out _ _ HQ1.out).mono ?_; rintro e w2 ⟨rfl, ha⟩; obtain ⟨S2, hq2, hs2⟩ := ha; have hbA := below_alloc1 w2 (Obj.cells #[Value.int .i64 qx, Value.int .i64 qy, Value.string qd] 76); have HQ2 := hide (hq2.on hbA); have HS2 := hide ((HS1.out.trans hs2).trans (.on hq2.pv.lo hbA)); clear hq2 hs2 hbA; rw [HE2.out])
            | fail)
          go_ret
          exact ⟨HE2.out ▸ rfl, _, HQ2.out, HS2.out⟩
  · rw [if_neg h1]
    have HE1 := hide (errV_pos h1)
    clear h1
    go_enter Tryz.func11, Tryz.ntmps11
    go_wp2_with (first
      | (go_at_call 44; refine HM.out.mono ?_; rintro e w1 ⟨rfl, ha⟩; obtain ⟨S1, hq1, hs1⟩ := ha; have HQ1 := hide hq1; have HS1 := hide hs1; clear hq1 hs1; rw [HE1.out])
      | fail)
    go_ret
    exact ⟨HE1.out ▸ rfl, S1, HQ1.out, HS1.out⟩
end Go.Proofs.YtighpalbodhfeaaGreatDoor

/-
  What queue.held, queue.Ack and queue.Wait return, of every view.
-/
namespace Go.Proofs.YtighpalbodhfeaaGreatDoor
open Go.RowKit Go.Joins Go.Shelf
attribute [local go_sem ↓] Go.wp_at_zero Go.wp_at_succ

abbrev Msg := Int × Int × Int × ByteArray × Nat
abbrev mV (x : Msg) : Value := .agg #[.int .i64 x.1, .int .i64 x.2.1, .int .i64 x.2.2.1, .string x.2.2.2.1]
abbrev noM (f : Nat) : Msg := (0, 0, 0, ⟨#[]⟩, f)
/-- what a row holds, if its tries are those -/
noncomputable def heldT (t : ByteArray × Bool × Nat) (n tries : Int) : Msg :=
  if t.2.2 = 0 then if t.2.1 = true then if (mOf t.1 n).2.2.2.2 = 0 then if (mOf t.1 n).2.1 = tries then mOf t.1 n else noM 11 else noM (mOf t.1 n).2.2.2.2 else noM 11 else noM t.2.2
noncomputable def heldQ (P : Rws) (chs : List Chg) (rds : Rws) (name : ByteArray) (n tries : Int) : Msg × Rws :=
  if (findQ P chs rds name).2.2.2 = 0 then
    if n < 0 ∨ 999999 < n ∨ tries < 1 then (noM 1, findL chs rds name)
    else (heldT (getP chs (findL chs rds name) P (msgB name (numOf n))) n tries, getL chs (findL chs rds name) (msgB name (numOf n)))
  else (noM (findQ P chs rds name).2.2.2, findL chs rds name)
set_option maxHeartbeats 4000000 in
theorem qheld_any (name : ByteArray) (n tries : Int) {B wb : Nat} {S : Nat → Prop} {P : Rws} {since : Int} {chs : List Chg} {rds : Rws} (w : World) (h : QV w B wb S P since chs rds) (hn : name.size ≤ 1000) :
    Calls Tryz.prog 58 #[.pointer (some ⟨wb, 0, none⟩), .string name, .int .i64 n, .int .i64 tries] w fun e w' => e = .returned (.tuple #[mV (heldQ P chs rds name n tries).1, errV (heldQ P chs rds name n tries).1.2.2.2.2]) ∧ ActQ w w' B wb S P since chs (heldQ P chs rds name n tries).2 := by
  have HX := hide (BoxQ.start h #[Value.int .i64 0, Value.int .i64 0, Value.int .i64 0, Value.string ⟨#[]⟩] 48)
  have HLO := hide h.pv.lo
  have hqs := msgB_short (name := name) (numOf n) hn
  have n1 := err_neq_nil 108
  have HF := hide (fun (W : World) (hW : QV W B wb S P since chs rds) => qfind_any name W hW hn)
  have HGS := hide (getP_size h.ok (findL chs rds name) (msgB name (numOf n)))
  have HGT := hide (fun (S1 : Nat → Prop) (W : World) (hW : QV W B wb S1 P since chs (findL chs rds name)) => qv_get (msgB name (numOf n)) W hW hqs)
  have r0 : (w.alloc (Obj.cells #[Value.int .i64 0, Value.int .i64 0, Value.int .i64 0, Value.string ⟨#[]⟩] 48)).cell? ⟨w.heap.size, 0, none⟩ = some (Value.int .i64 0) := by simp
  have r1 : (w.alloc (Obj.cells #[Value.int .i64 0, Value.int .i64 0, Value.int .i64 0, Value.string ⟨#[]⟩] 48)).cell? ⟨w.heap.size, 1, none⟩ = some (Value.int .i64 0) := by simp
  have r2 : (w.alloc (Obj.cells #[Value.int .i64 0, Value.int .i64 0, Value.int .i64 0, Value.string ⟨#[]⟩] 48)).cell? ⟨w.heap.size, 2, none⟩ = some (Value.int .i64 0) := by simp
  have r3 : (w.alloc (Obj.cells #[Value.int .i64 0, Value.int .i64 0, Value.int .i64 0, Value.string ⟨#[]⟩] 48)).cell? ⟨w.heap.size, 3, none⟩ = some (Value.string ⟨#[]⟩) := by simp
  unfold heldQ
  clear h
  generalize findQ P chs rds name = q at *
  generalize getP chs (findL chs rds name) P (msgB name (numOf n)) = t at *
  generalize getL chs (findL chs rds name) (msgB name (numOf n)) = rds2 at *
  generalize findL chs rds name = rds1 at *
  obtain ⟨qx, qy, qd, er⟩ := q
  dsimp only at HF HGT ⊢
  by_cases h1 : er = 0
  · subst h1
    rw [if_pos rfl]
    have HE1 := hide errV_zero
    by_cases hb : n < 0 ∨ 999999 < n ∨ tries < 1
    · rw [if_pos hb]
      by_cases hb1 : n < 0
      · have d1 : decide (n < 0) = true := by simpa using hb1
        go_enter Tryz.func58, Tryz.ntmps58
        go_wp2_with (first
          | (go_at_call 26; refine (HF.out _ HX.out.qv).mono ?_; rintro e w1 ⟨rfl, ha⟩; obtain ⟨S1, hx1, eb⟩ := HX.out.act ha; replace r0 := (World.cell?_of_block eb).trans r0; replace r1 := (World.cell?_of_block eb).trans r1; replace r2 := (World.cell?_of_block eb).trans r2; replace r3 := (World.cell?_of_block eb).trans r3; have hbA := below_alloc1 w1 (Obj.cells #[Value.int .i64 qx, Value.int .i64 qy, Value.string qd] 76); replace r0 := cell_on hbA r0; replace r1 := cell_on hbA r1; replace r2 := cell_on hbA r2; replace r3 := cell_on hbA r3; have HX1 := hide (hx1.on hbA); have fz := (hx1.on hbA).fz; clear ha hx1 eb hbA; rw [HE1.out])
          | fail)
        exact bodyPost_ret (v := .tuple #[mV (noM 1), errV 1]) (by simp [errV, results, Tryz.results58, go_sem, r0, r1, r2, r3]) rfl ⟨rfl, ((((HX1.out.set HLO.out 0 _).set HLO.out 1 _).set HLO.out 2 _).set HLO.out 3 _).done⟩
      · have d1 : decide (n < 0) = false := by simpa using hb1
        by_cases hb2 : 999999 < n
        · have d2 : decide (999999 < n) = true := by simpa using hb2
          go_enter Tryz.func58, Tryz.ntmps58
          go_wp2_with (first
            | (go_at_call 26; refine (HF.out _ HX.out.qv).mono ?_; rintro e w1 ⟨rfl, ha⟩; obtain ⟨S1, hx1, eb⟩ := HX.out.act ha; replace r0 := (World.cell?_of_block eb).trans r0; replace r1 := (World.cell?_of_block eb).trans r1; replace r2 := (World.cell?_of_block eb).trans r2; replace r3 := (World.cell?_of_block eb).trans r3; have hbA := below_alloc1 w1 (Obj.cells #[Value.int .i64 qx, Value.int .i64 qy, Value.string qd] 76); replace r0 := cell_on hbA r0; replace r1 := cell_on hbA r1; replace r2 := cell_on hbA r2; replace r3 := cell_on hbA r3; have HX1 := hide (hx1.on hbA); have fz := (hx1.on hbA).fz; clear ha hx1 eb hbA; rw [HE1.out])
            | fail)
          exact bodyPost_ret (v := .tuple #[mV (noM 1), errV 1]) (by simp [errV, results, Tryz.results58, go_sem, r0, r1, r2, r3]) rfl ⟨rfl, ((((HX1.out.set HLO.out 0 _).set HLO.out 1 _).set HLO.out 2 _).set HLO.out 3 _).done⟩
        · have d2 : decide (999999 < n) = false := by simpa using hb2
          have hb3 : tries < 1 := by omega
          have d3 : decide (tries < 1) = true := by simpa using hb3
          go_enter Tryz.func58, Tryz.ntmps58
          go_wp2_with (first
            | (go_at_call 26; refine (HF.out _ HX.out.qv).mono ?_; rintro e w1 ⟨rfl, ha⟩; obtain ⟨S1, hx1, eb⟩ := HX.out.act ha; replace r0 := (World.cell?_of_block eb).trans r0; replace r1 := (World.cell?_of_block eb).trans r1; replace r2 := (World.cell?_of_block eb).trans r2; replace r3 := (World.cell?_of_block eb).trans r3; have hbA := below_alloc1 w1 (Obj.cells #[Value.int .i64 qx, Value.int .i64 qy, Value.string qd] 76); replace r0 := cell_on hbA r0; replace r1 := cell_on hbA r1; replace r2 := cell_on hbA r2; replace r3 := cell_on hbA r3; have HX1 := hide (hx1.on hbA); have fz := (hx1.on hbA).fz; clear ha hx1 eb hbA; rw [HE1.out])
            | fail)
          exact bodyPost_ret (v := .tuple #[mV (noM 1), errV 1]) (by simp [errV, results, Tryz.results58, go_sem, r0, r1, r2, r3]) rfl ⟨rfl, ((((HX1.out.set HLO.out 0 _).set HLO.out 1 _).set HLO.out 2 _).set HLO.out 3 _).done⟩
    · rw [if_neg hb]
      have hb1 : ¬ n < 0 := by omega
      have hb2 : ¬ 999999 < n := by omega
      have hb3 : ¬ tries < 1 := by omega
      have d1 : decide (n < 0) = false := by simpa using hb1
      have d2 : decide (999999 < n) = false := by simpa using hb2
      have d3 : decide (tries < 1) = false := by simpa using hb3
      clear hb
      obtain ⟨tx, is, eg⟩ := t
      unfold heldT
      dsimp only at HGS HGT ⊢
      by_cases h2 : eg = 0
      · subst h2
        rw [if_pos rfl]
        have HE2 := hide errV_zero
        cases is with
        | false =>
          rw [if_neg (by simp)]
          go_enter Tryz.func58, Tryz.ntmps58
          go_wp2_with (first
            | (go_at_call 26; refine (HF.out _ HX.out.qv).mono ?_; rintro e w1 ⟨rfl, ha⟩; obtain ⟨S1, hx1, eb⟩ := HX.out.act ha; replace r0 := (World.cell?_of_block eb).trans r0; replace r1 := (World.cell?_of_block eb).trans r1; replace r2 := (World.cell?_of_block eb).trans r2; replace r3 := (World.cell?_of_block eb).trans r3; have hbA := below_alloc1 w1 (Obj.cells #[Value.int .i64 qx, Value.int .i64 qy, Value.string qd] 76); replace r0 := cell_on hbA r0; replace r1 := cell_on hbA r1; replace r2 := cell_on hbA r2; replace r3 := cell_on hbA r3; have HX1 := hide (hx1.on hbA); have fz := (hx1.on hbA).fz; clear ha hx1 eb hbA; rw [HE1.out])
            | (go_at_call 59; refine (message_any name n _ (by omega) (by omega) (by omega) HX1.out.qv.laid.tab).mono ?_; rintro e w2 ⟨rfl, hb2⟩; replace r0 := cell_on hb2 r0; replace r1 := cell_on hb2 r1; replace r2 := cell_on hb2 r2; replace r3 := cell_on hb2 r3; replace HX1 := hide (HX1.out.on hb2); clear hb2 fz)
            | (go_at_call 31; refine (HGT.out _ _ HX1.out.qv).mono ?_; rintro e w3 ⟨rfl, ha⟩; obtain ⟨S2, hx2, eb⟩ := HX1.out.act ha; replace r0 := (World.cell?_of_block eb).trans r0; replace r1 := (World.cell?_of_block eb).trans r1; replace r2 := (World.cell?_of_block eb).trans r2; replace r3 := (World.cell?_of_block eb).trans r3; have HX2 := hide hx2; have fz := hx2.fz; clear ha hx2 eb; rw [HE2.out])
            | fail)
          exact bodyPost_ret (v := .tuple #[mV (noM 11), errV 11]) (by simp [errV, results, Tryz.results58, go_sem, r0, r1, r2, r3]) rfl ⟨rfl, ((((HX2.out.set HLO.out 0 _).set HLO.out 1 _).set HLO.out 2 _).set HLO.out 3 _).done⟩
        | true =>
          rw [if_pos rfl]
          have HPM := hide (fun (W : World) (hL : Laid W) => mOf_prog tx n (by have := HGS.out; omega) W hL)
          generalize mOf tx n = m at *
          obtain ⟨mk, mt, mu, md, em⟩ := m
          dsimp only at HPM ⊢
          by_cases h3 : em = 0
          · subst h3
            rw [if_pos rfl]
            have HE3 := hide errV_zero
            by_cases h4 : mt = tries
            · subst h4
              rw [if_pos rfl]
              have d4 : (mt == mt) = true := by simp
              go_enter Tryz.func58, Tryz.ntmps58
              go_wp2_with (first
                | (go_at_call 26; refine (HF.out _ HX.out.qv).mono ?_; rintro e w1 ⟨rfl, ha⟩; obtain ⟨S1, hx1, eb⟩ := HX.out.act ha; replace r0 := (World.cell?_of_block eb).trans r0; replace r1 := (World.cell?_of_block eb).trans r1; replace r2 := (World.cell?_of_block eb).trans r2; replace r3 := (World.cell?_of_block eb).trans r3; have hbA := below_alloc1 w1 (Obj.cells #[Value.int .i64 qx, Value.int .i64 qy, Value.string qd] 76); replace r0 := cell_on hbA r0; replace r1 := cell_on hbA r1; replace r2 := cell_on hbA r2; replace r3 := cell_on hbA r3; have HX1 := hide (hx1.on hbA); have fz := (hx1.on hbA).fz; clear ha hx1 eb hbA; rw [HE1.out])
                | (go_at_call 59; refine (message_any name n _ (by omega) (by omega) (by omega) HX1.out.qv.laid.tab).mono ?_; rintro e w2 ⟨rfl, hb2⟩; replace r0 := cell_on hb2 r0; replace r1 := cell_on hb2 r1; replace r2 := cell_on hb2 r2; replace r3 := cell_on hb2 r3; replace HX1 := hide (HX1.out.on hb2); clear hb2 fz)
                | (go_at_call 31; refine (HGT.out _ _ HX1.out.qv).mono ?_; rintro e w3 ⟨rfl, ha⟩; obtain ⟨S2, hx2, eb⟩ := HX1.out.act ha; replace r0 := (World.cell?_of_block eb).trans r0; replace r1 := (World.cell?_of_block eb).trans r1; replace r2 := (World.cell?_of_block eb).trans r2; replace r3 := (World.cell?_of_block eb).trans r3; have HX2 := hide hx2; have fz := hx2.fz; clear ha hx2 eb; rw [HE2.out])
                | (go_at_call 98; refine (HPM.out _ HX2.out.qv.laid).mono ?_; rintro e w4 ⟨rfl, hb4⟩; have hx3 := HX2.out.on hb4; replace r0 := cell_on hb4 r0; replace r1 := cell_on hb4 r1; replace r2 := cell_on hb4 r2; replace r3 := cell_on hb4 r3; have hbA := below_alloc1 w4 (Obj.cells #[Value.int .i64 mk, Value.int .i64 mt, Value.int .i64 mu, Value.string md] 48); replace r0 := cell_on hbA r0; replace r1 := cell_on hbA r1; replace r2 := cell_on hbA r2; replace r3 := cell_on hbA r3; have HX3 := hide (hx3.on hbA); replace fz := (hx3.on hbA).fz; clear hb4 hx3 hbA; rw [HE3.out])
                | fail)
              exact bodyPost_ret (v := .tuple #[mV ((mk, mt, mu, md, 0)), errV 0]) (by simp [errV, results, Tryz.results58, go_sem, r0, r1, r2, r3]) rfl ⟨rfl, ((((HX3.out.set HLO.out 0 _).set HLO.out 1 _).set HLO.out 2 _).set HLO.out 3 _).done⟩
            · rw [if_neg h4]
              have d4 : (mt == tries) = false := by simpa using h4
              go_enter Tryz.func58, Tryz.ntmps58
              go_wp2_with (first
                | (go_at_call 26; refine (HF.out _ HX.out.qv).mono ?_; rintro e w1 ⟨rfl, ha⟩; obtain ⟨S1, hx1, eb⟩ := HX.out.act ha; replace r0 := (World.cell?_of_block eb).trans r0; replace r1 := (World.cell?_of_block eb).trans r1; replace r2 := (World.cell?_of_block eb).trans r2; replace r3 := (World.cell?_of_block eb).trans r3; have hbA := below_alloc1 w1 (Obj.cells #[Value.int .i64 qx, Value.int .i64 qy, Value.string qd] 76); replace r0 := cell_on hbA r0; replace r1 := cell_on hbA r1; replace r2 := cell_on hbA r2; replace r3 := cell_on hbA r3; have HX1 := hide (hx1.on hbA); have fz := (hx1.on hbA).fz; clear ha hx1 eb hbA; rw [HE1.out])
                | (go_at_call 59; refine (message_any name n _ (by omega) (by omega) (by omega) HX1.out.qv.laid.tab).mono ?_; rintro e w2 ⟨rfl, hb2⟩; replace r0 := cell_on hb2 r0; replace r1 := cell_on hb2 r1; replace r2 := cell_on hb2 r2; replace r3 := cell_on hb2 r3; replace HX1 := hide (HX1.out.on hb2); clear hb2 fz)
                | (go_at_call 31; refine (HGT.out _ _ HX1.out.qv).mono ?_; rintro e w3 ⟨rfl, ha⟩; obtain ⟨S2, hx2, eb⟩ := HX1.out.act ha; replace r0 := (World.cell?_of_block eb).trans r0; replace r1 := (World.cell?_of_block eb).trans r1; replace r2 := (World.cell?_of_block eb).trans r2; replace r3 := (World.cell?_of_block eb).trans r3; have HX2 := hide hx2; have fz := hx2.fz; clear ha hx2 eb; rw [HE2.out])
                | (go_at_call 98; refine (HPM.out _ HX2.out.qv.laid).mono ?_; rintro e w4 ⟨rfl, hb4⟩; have hx3 := HX2.out.on hb4; replace r0 := cell_on hb4 r0; replace r1 := cell_on hb4 r1; replace r2 := cell_on hb4 r2; replace r3 := cell_on hb4 r3; have hbA := below_alloc1 w4 (Obj.cells #[Value.int .i64 mk, Value.int .i64 mt, Value.int .i64 mu, Value.string md] 48); replace r0 := cell_on hbA r0; replace r1 := cell_on hbA r1; replace r2 := cell_on hbA r2; replace r3 := cell_on hbA r3; have HX3 := hide (hx3.on hbA); replace fz := (hx3.on hbA).fz; clear hb4 hx3 hbA; rw [HE3.out])
                | fail)
              exact bodyPost_ret (v := .tuple #[mV (noM 11), errV 11]) (by simp [errV, results, Tryz.results58, go_sem, r0, r1, r2, r3]) rfl ⟨rfl, ((((HX3.out.set HLO.out 0 _).set HLO.out 1 _).set HLO.out 2 _).set HLO.out 3 _).done⟩
          · rw [if_neg h3]
            have HE3 := hide (errV_pos h3)
            clear h3
            go_enter Tryz.func58, Tryz.ntmps58
            go_wp2_with (first
              | (go_at_call 26; refine (HF.out _ HX.out.qv).mono ?_; rintro e w1 ⟨rfl, ha⟩; obtain ⟨S1, hx1, eb⟩ := HX.out.act ha; replace r0 := (World.cell?_of_block eb).trans r0; replace r1 := (World.cell?_of_block eb).trans r1; replace r2 := (World.cell?_of_block eb).trans r2; replace r3 := (World.cell?_of_block eb).trans r3; have hbA := below_alloc1 w1 (Obj.cells #[Value.int .i64 qx, Value.int .i64 qy, Value.string qd] 76); replace r0 := cell_on hbA r0; replace r1 := cell_on hbA r1; replace r2 := cell_on hbA r2; replace r3 := cell_on hbA r3; have HX1 := hide (hx1.on hbA); have fz := (hx1.on hbA).fz; clear ha hx1 eb hbA; rw [HE1.out])
              | (go_at_call 59; refine (message_any name n _ (by omega) (by omega) (by omega) HX1.out.qv.laid.tab).mono ?_; rintro e w2 ⟨rfl, hb2⟩; replace r0 := cell_on hb2 r0; replace r1 := cell_on hb2 r1; replace r2 := cell_on hb2 r2; replace r3 := cell_on hb2 r3; replace HX1 := hide (HX1.out.on hb2); clear hb2 fz)
              | (go_at_call 31; refine (HGT.out _ _ HX1.out.qv).mono ?_; rintro e w3 ⟨rfl, ha⟩; obtain ⟨S2, hx2, eb⟩ := HX1.out.act ha; replace r0 := (World.cell?_of_block eb).trans r0; replace r1 := (World.cell?_of_block eb).trans r1; replace r2 := (World.cell?_of_block eb).trans r2; replace r3 := (World.cell?_of_block eb).trans r3; have HX2 := hide hx2; have fz := hx2.fz; clear ha hx2 eb; rw [HE2.out])
              | (go_at_call 98; refine (HPM.out _ HX2.out.qv.laid).mono ?_; rintro e w4 ⟨rfl, hb4⟩; have hx3 := HX2.out.on hb4; replace r0 := cell_on hb4 r0; replace r1 := cell_on hb4 r1; replace r2 := cell_on hb4 r2; replace r3 := cell_on hb4 r3; have hbA := below_alloc1 w4 (Obj.cells #[Value.int .i64 mk, Value.int .i64 mt, Value.int .i64 mu, Value.string md] 48); replace r0 := cell_on hbA r0; replace r1 := cell_on hbA r1; replace r2 := cell_on hbA r2; replace r3 := cell_on hbA r3; have HX3 := hide (hx3.on hbA); replace fz := (hx3.on hbA).fz; clear hb4 hx3 hbA; rw [HE3.out])
              | fail)
            exact bodyPost_ret (v := .tuple #[mV (noM em), .iface 108 (.int .i64 em)]) (by simp [results, Tryz.results58, go_sem, r0, r1, r2, r3]) rfl ⟨HE3.out ▸ rfl, ((((HX3.out.set HLO.out 0 _).set HLO.out 1 _).set HLO.out 2 _).set HLO.out 3 _).done⟩
      · rw [if_neg h2]
        have HE2 := hide (errV_pos h2)
        clear h2
        go_enter Tryz.func58, Tryz.ntmps58
        go_wp2_with (first
          | (go_at_call 26; refine (HF.out _ HX.out.qv).mono ?_; rintro e w1 ⟨rfl, ha⟩; obtain ⟨S1, hx1, eb⟩ := HX.out.act ha; replace r0 := (World.cell?_of_block eb).trans r0; replace r1 := (World.cell?_of_block eb).trans r1; replace r2 := (World.cell?_of_block eb).trans r2; replace r3 := (World.cell?_of_block eb).trans r3; have hbA := below_alloc1 w1 (Obj.cells #[Value.int .i64 qx, Value.int .i64 qy, Value.string qd] 76); replace r0 := cell_on hbA r0; replace r1 := cell_on hbA r1; replace r2 := cell_on hbA r2; replace r3 := cell_on hbA r3; have HX1 := hide (hx1.on hbA); have fz := (hx1.on hbA).fz; clear ha hx1 eb hbA; rw [HE1.out])
          | (go_at_call 59; refine (message_any name n _ (by omega) (by omega) (by omega) HX1.out.qv.laid.tab).mono ?_; rintro e w2 ⟨rfl, hb2⟩; replace r0 := cell_on hb2 r0; replace r1 := cell_on hb2 r1; replace r2 := cell_on hb2 r2; replace r3 := cell_on hb2 r3; replace HX1 := hide (HX1.out.on hb2); clear hb2 fz)
          | (go_at_call 31; refine (HGT.out _ _ HX1.out.qv).mono ?_; rintro e w3 ⟨rfl, ha⟩; obtain ⟨S2, hx2, eb⟩ := HX1.out.act ha; replace r0 := (World.cell?_of_block eb).trans r0; replace r1 := (World.cell?_of_block eb).trans r1; replace r2 := (World.cell?_of_block eb).trans r2; replace r3 := (World.cell?_of_block eb).trans r3; have HX2 := hide hx2; have fz := hx2.fz; clear ha hx2 eb; rw [HE2.out])
          | fail)
        exact bodyPost_ret (v := .tuple #[mV (noM eg), .iface 108 (.int .i64 eg)]) (by simp [results, Tryz.results58, go_sem, r0, r1, r2, r3]) rfl ⟨HE2.out ▸ rfl, ((((HX2.out.set HLO.out 0 _).set HLO.out 1 _).set HLO.out 2 _).set HLO.out 3 _).done⟩
  · rw [if_neg h1]
    have HE1 := hide (errV_pos h1)
    clear h1
    go_enter Tryz.func58, Tryz.ntmps58
    go_wp2_with (first
      | (go_at_call 26; refine (HF.out _ HX.out.qv).mono ?_; rintro e w1 ⟨rfl, ha⟩; obtain ⟨S1, hx1, eb⟩ := HX.out.act ha; replace r0 := (World.cell?_of_block eb).trans r0; replace r1 := (World.cell?_of_block eb).trans r1; replace r2 := (World.cell?_of_block eb).trans r2; replace r3 := (World.cell?_of_block eb).trans r3; have hbA := below_alloc1 w1 (Obj.cells #[Value.int .i64 qx, Value.int .i64 qy, Value.string qd] 76); replace r0 := cell_on hbA r0; replace r1 := cell_on hbA r1; replace r2 := cell_on hbA r2; replace r3 := cell_on hbA r3; have HX1 := hide (hx1.on hbA); have fz := (hx1.on hbA).fz; clear ha hx1 eb hbA; rw [HE1.out])
      | fail)
    exact bodyPost_ret (v := .tuple #[mV (noM er), .iface 108 (.int .i64 er)]) (by simp [results, Tryz.results58, go_sem, r0, r1, r2, r3]) rfl ⟨HE1.out ▸ rfl, ((((HX1.out.set HLO.out 0 _).set HLO.out 1 _).set HLO.out 2 _).set HLO.out 3 _).done⟩
end Go.Proofs.YtighpalbodhfeaaGreatDoor

/-
  What queue.Ack and queue.Wait return, of every view.
-/
namespace Go.Proofs.YtighpalbodhfeaaGreatDoor
open Go.RowKit Go.Joins Go.Shelf
attribute [local go_sem ↓] Go.wp_at_zero Go.wp_at_succ

def timeMay (n : Int) : Bool := decide (0 ≤ n) && decide (n ≤ 1000000)
theorem qisTime_any (n : Int) (w : World) : Calls Tryz.prog 46 #[.int .i64 n] w fun e w' => e = .returned (.bool (timeMay n)) ∧ w' = w := by
  unfold timeMay
  by_cases h0 : 0 ≤ n
  · have d0 : decide (0 ≤ n) = true := by simpa using h0
    rw [d0]
    by_cases h1 : n ≤ 1000000
    · have d1 : decide (n ≤ 1000000) = true := by simpa using h1
      rw [d1]
      go_enter Tryz.func46, Tryz.ntmps46
      go_wp2
      go_ret
      exact ⟨rfl, rfl⟩
    · have d1 : decide (n ≤ 1000000) = false := by simpa using h1
      rw [d1]
      go_enter Tryz.func46, Tryz.ntmps46
      go_wp2
      go_ret
      exact ⟨rfl, rfl⟩
  · have d0 : decide (0 ≤ n) = false := by simpa using h0
    rw [d0]
    go_enter Tryz.func46, Tryz.ntmps46
    go_wp2
    go_ret
    exact ⟨rfl, rfl⟩
noncomputable def ackQ (P : Rws) (chs : List Chg) (rds : Rws) (name : ByteArray) (n tries : Int) : Nat × List Chg × Rws :=
  if (heldQ P chs rds name n tries).1.2.2.2.2 = 0 then (alterF chs ⟨msgB name (numOf n), ⟨#[]⟩, true⟩, alterL chs ⟨msgB name (numOf n), ⟨#[]⟩, true⟩, (heldQ P chs rds name n tries).2)
  else ((heldQ P chs rds name n tries).1.2.2.2.2, chs, (heldQ P chs rds name n tries).2)
set_option maxHeartbeats 4000000 in
theorem qack_any (name : ByteArray) (n tries : Int) {B wb : Nat} {S : Nat → Prop} {P : Rws} {since : Int} {chs : List Chg} {rds : Rws} (w : World) (h : QV w B wb S P since chs rds) (hn : name.size ≤ 1000) (hk0 : -9223372036854775808 ≤ n) (hk1 : n ≤ 9223372036854775807) :
    Calls Tryz.prog 22 #[.pointer (some ⟨wb, 0, none⟩), .string name, .int .i64 n, .int .i64 tries] w fun e w' => e = .returned (errV (ackQ P chs rds name n tries).1) ∧ ActQ w w' B wb S P since (ackQ P chs rds name n tries).2.1 (ackQ P chs rds name n tries).2.2 := by
  have n1 := err_neq_nil 108
  have HH := hide (qheld_any name n tries w h hn)
  have hqs := msgB_short (name := name) (numOf n) hn
  unfold ackQ
  clear h
  generalize heldQ P chs rds name n tries = q at *
  obtain ⟨⟨mk, mt, mu, md, em⟩, rds1⟩ := q
  dsimp only at HH ⊢
  by_cases h1 : em = 0
  · subst h1
    rw [if_pos rfl]
    go_enter Tryz.func22, Tryz.ntmps22
    go_wp2_with (first
      | (go_at_call 58; refine HH.out.mono ?_; rintro e w1 ⟨rfl, ha⟩; obtain ⟨S1, hq1, hs1⟩ := ha; have hbA := below_alloc1 w1 (Obj.cells #[Value.int .i64 mk, Value.int .i64 mt, Value.int .i64 mu, Value.string md] 48); have HQ1 := hide (hq1.on hbA); have HS1 := hide (hs1.trans (.on hq1.pv.lo hbA)); clear hq1 hs1 hbA; rw [errV_zero])
      | (go_at_call 59; refine (message_any name n _ (by omega) hk0 hk1 HQ1.out.laid.tab).mono ?_; rintro e w2 ⟨rfl, hb2⟩; replace HS1 := hide (HS1.out.trans (.on HQ1.out.pv.lo hb2)); replace HQ1 := hide (HQ1.out.on hb2); clear hb2)
      | (go_at_call 30; refine (qv_delete (msgB name (numOf n)) _ HQ1.out hqs).mono ?_; rintro e w3 ⟨rfl, ha⟩; have HA := hide (ActQ.after HS1.out ha); clear ha)
      | fail)
    go_ret
    exact ⟨rfl, HA.out⟩
  · rw [if_neg h1]
    have HE1 := hide (errV_pos h1)
    clear h1
    go_enter Tryz.func22, Tryz.ntmps22
    go_wp2_with (first
      | (go_at_call 58; refine HH.out.mono ?_; rintro e w1 ⟨rfl, ha⟩; obtain ⟨S1, hq1, hs1⟩ := ha; have hbA := below_alloc1 w1 (Obj.cells #[Value.int .i64 mk, Value.int .i64 mt, Value.int .i64 mu, Value.string md] 48); have HQ1 := hide (hq1.on hbA); have HS1 := hide (hs1.trans (.on hq1.pv.lo hbA)); clear hq1 hs1 hbA; rw [HE1.out])
      | fail)
    go_ret
    exact ⟨HE1.out ▸ rfl, _, HQ1.out, HS1.out⟩
noncomputable def waitQ (P : Rws) (chs : List Chg) (rds : Rws) (name : ByteArray) (n tries until_ : Int) : Nat × List Chg × Rws :=
  if (heldQ P chs rds name n tries).1.2.2.2.2 = 0 then
    if timeMay until_ = true then (putMF chs name (heldQ P chs rds name n tries).1.1 (heldQ P chs rds name n tries).1.2.1 until_ (heldQ P chs rds name n tries).1.2.2.2.1, putML chs name (heldQ P chs rds name n tries).1.1 (heldQ P chs rds name n tries).1.2.1 until_ (heldQ P chs rds name n tries).1.2.2.2.1, (heldQ P chs rds name n tries).2)
    else (1, chs, (heldQ P chs rds name n tries).2)
  else ((heldQ P chs rds name n tries).1.2.2.2.2, chs, (heldQ P chs rds name n tries).2)
theorem mOf_num (s : ByteArray) (n : Int) : (mOf s n).1 = n ∨ (mOf s n).1 = 0 := by
  rcases mOf_cases s n with ⟨t, u, d, e, _⟩ | ⟨e, _⟩
  · rw [e]; exact .inl rfl
  · rw [e]; exact .inr rfl
theorem heldQ_num (P : Rws) (chs : List Chg) (rds : Rws) (name : ByteArray) (n tries : Int) : (heldQ P chs rds name n tries).1.1 = n ∨ (heldQ P chs rds name n tries).1.1 = 0 := by
  unfold heldQ
  split
  · split
    · exact .inr rfl
    · unfold heldT
      split
      · split
        · split
          · split
            · exact mOf_num _ _
            · exact .inr rfl
          · exact .inr rfl
        · exact .inr rfl
      · exact .inr rfl
  · exact .inr rfl
set_option maxHeartbeats 4000000 in
theorem qwait_any (name : ByteArray) (n tries until_ : Int) {B wb : Nat} {S : Nat → Prop} {P : Rws} {since : Int} {chs : List Chg} {rds : Rws} (w : World) (h : QV w B wb S P since chs rds) (hn : name.size ≤ 1000) (hk0 : -9223372036854775808 ≤ n) (hk1 : n ≤ 9223372036854775807) :
    Calls Tryz.prog 24 #[.pointer (some ⟨wb, 0, none⟩), .string name, .int .i64 n, .int .i64 tries, .int .i64 until_] w fun e w' => e = .returned (errV (waitQ P chs rds name n tries until_).1) ∧ ActQ w w' B wb S P since (waitQ P chs rds name n tries until_).2.1 (waitQ P chs rds name n tries until_).2.2 := by
  have n1 := err_neq_nil 108
  have HH := hide (qheld_any name n tries w h hn)
  have hnum := heldQ_num P chs rds name n tries
  unfold waitQ
  clear h
  generalize heldQ P chs rds name n tries = q at *
  obtain ⟨⟨mk, mt, mu, md, em⟩, rds1⟩ := q
  dsimp only at HH hnum ⊢
  have hm0 : -9223372036854775808 ≤ mk := by omega
  have hm1 : mk ≤ 9223372036854775807 := by omega
  clear hnum
  by_cases h1 : em = 0
  · subst h1
    rw [if_pos rfl]
    cases htm : timeMay until_ with
    | true =>
      rw [if_pos rfl]
      have HTM := hide htm
      clear htm
      go_enter Tryz.func24, Tryz.ntmps24
      go_wp2_with (first
        | (go_at_call 58; refine HH.out.mono ?_; rintro e w1 ⟨rfl, ha⟩; obtain ⟨S1, hq1, hs1⟩ := ha; have HQ1 := hide hq1; have HS1 := hide hs1; clear hq1 hs1; rw [errV_zero])
        | (go_at_call 46; refine (qisTime_any until_ _).mono ?_; rintro e w2 ⟨rfl, rfl⟩; rw [HTM.out])
        | (go_at_call 62; have hbA := below_alloc1 w1 (Obj.cells #[Value.int .i64 mk, Value.int .i64 mt, Value.int .i64 until_, Value.string md] 48); refine (qputMessage_any name mk mt until_ md _ (HQ1.out.on hbA) hn hm0 hm1).mono ?_; rintro e w3 ⟨rfl, ha⟩; have HA := hide (ActQ.after (HS1.out.trans (.on HQ1.out.pv.lo hbA)) ha); clear ha hbA)
        | fail)
      go_ret
      exact ⟨rfl, HA.out⟩
    | false =>
      rw [if_neg (by simp)]
      have HTM := hide htm
      clear htm
      go_enter Tryz.func24, Tryz.ntmps24
      go_wp2_with (first
        | (go_at_call 58; refine HH.out.mono ?_; rintro e w1 ⟨rfl, ha⟩; obtain ⟨S1, hq1, hs1⟩ := ha; have HQ1 := hide hq1; have HS1 := hide hs1; clear hq1 hs1; rw [errV_zero])
        | (go_at_call 46; refine (qisTime_any until_ _).mono ?_; rintro e w2 ⟨rfl, rfl⟩; rw [HTM.out])
        | fail)
      go_ret
      exact ⟨rfl, _, HQ1.out.on (below_alloc1 _ _), HS1.out.trans (.on HQ1.out.pv.lo (below_alloc1 _ _))⟩
  · rw [if_neg h1]
    have HE1 := hide (errV_pos h1)
    clear h1
    go_enter Tryz.func24, Tryz.ntmps24
    go_wp2_with (first
      | (go_at_call 58; refine HH.out.mono ?_; rintro e w1 ⟨rfl, ha⟩; obtain ⟨S1, hq1, hs1⟩ := ha; have HQ1 := hide hq1; have HS1 := hide hs1; clear hq1 hs1; rw [HE1.out])
      | fail)
    go_ret
    exact ⟨HE1.out ▸ rfl, _, HQ1.out.on (below_alloc1 _ _), HS1.out.trans (.on HQ1.out.pv.lo (below_alloc1 _ _))⟩
end Go.Proofs.YtighpalbodhfeaaGreatDoor
