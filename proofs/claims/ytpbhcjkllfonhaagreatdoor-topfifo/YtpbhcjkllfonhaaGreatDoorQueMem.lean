/-
  A view of rows that may be, with the library's tables laid: what its acts make of it.
-/
import Derived.Test.YtpbhcjkllfonhaaGreatDoorRowBoth
import Derived.Test.YtpbhcjkllfonhaaGreatDoorVerSaysC
namespace Go.Proofs.YtpbhcjkllfonhaaGreatDoor
open Go.RowKit Go.Joins Go.Shelf

structure OkQ (P : Rws) (chs : List Chg) : Prop where
  rk : ∀ r ∈ P, keyL r.1.data.toList = true ∧ r.2.size ≤ 40
  ck : ∀ c ∈ chs, keyL c.key.data.toList = true ∧ c.val.size ≤ 40
theorem fault_says {c : Chg} (h : chgFault c = 0) : keyL c.key.data.toList = true ∧ c.val.size ≤ 40 := by
  unfold chgFault at h
  split at h
  · cases h
  · split at h
    · cases h
    · split at h
      · cases h
      · rename_i h1 _ h3
        exact ⟨by simpa using h1, by omega⟩
theorem alterF_zero {l : List Chg} {c : Chg} (h : alterF l c = 0) : chgFault c = 0 := by
  unfold alterF at h
  split at h
  · assumption
  · exact h
theorem OkQ.alter {P : Rws} {chs : List Chg} (h : OkQ P chs) (c : Chg) : OkQ P (alterL chs c) := by
  unfold alterL
  split
  · rename_i hf
    exact ⟨h.rk, fun x hx => (ins_mem hx).elim (fun e => by rw [e]; exact fault_says (alterF_zero hf)) (h.ck x)⟩
  · exact h
theorem findC_mem {l : List Chg} {key : ByteArray} {c : Chg} (h : findC l key = some c) : c ∈ l := by
  unfold findC at h
  split at h
  · exact List.mem_of_getElem? h
  · cases h
theorem valR_in (l : Rws) (key : ByteArray) : valR l key = (⟨#[]⟩, false) ∨ ∃ r ∈ l, valR l key = (r.2, true) := by
  unfold valR
  split
  · rename_i r h; exact .inr ⟨r, List.mem_of_find?_eq_some h, rfl⟩
  · exact .inl rfl
theorem getP_size {P : Rws} {chs : List Chg} (h : OkQ P chs) (rds : Rws) (key : ByteArray) : (getP chs rds P key).1.size ≤ 40 := by
  unfold getP
  split
  · split
    · rename_i c hc; exact (h.ck c (findC_mem hc)).2
    · split
      · rcases valR_in P key with e | ⟨r, hr, e⟩
        · rw [e]; exact Nat.zero_le _
        · rw [e]; exact (h.rk r hr).2
      · exact Nat.zero_le _
  · exact Nat.zero_le _
theorem layR_in {l : Rws} {c : Chg} {r : ByteArray × ByteArray} (h : r ∈ layR l c) : r ∈ l ∨ r = (c.key, c.val) := by
  unfold layR at h
  rcases List.mem_append.1 h with h | h
  · rcases List.mem_append.1 h with h | h
    · exact .inl (List.mem_of_mem_take h)
    · split at h
      · simp at h
      · simp at h; exact .inr h
  · exact .inl (List.mem_of_mem_drop h)
theorem seenQ_in {P : Rws} {chs : List Chg} (h : OkQ P chs) (s : ByteArray × ByteArray) : ∀ r ∈ seenP P chs s, keyL r.1.data.toList = true ∧ r.2.size ≤ 40 := by
  have gen : ∀ (cs : List Chg) (l : Rws), (∀ r ∈ l, keyL r.1.data.toList = true ∧ r.2.size ≤ 40) → (∀ c ∈ cs, keyL c.key.data.toList = true ∧ c.val.size ≤ 40) → ∀ r ∈ seenR l s cs, keyL r.1.data.toList = true ∧ r.2.size ≤ 40 := by
    intro cs
    induction cs with
    | nil => intro l hl _ r hr; exact hl r hr
    | cons c cs ih =>
      intro l hl hc r hr
      have e : seenR l s (c :: cs) = seenR (if hasS s.1 s.2 c.key then layR l c else l) s cs := rfl
      rw [e] at hr
      refine ih _ ?_ (fun x hx => hc x (List.mem_cons_of_mem _ hx)) r hr
      intro x hx
      split at hx
      · rcases layR_in hx with h | rfl
        · exact hl x h
        · exact hc c (List.mem_cons_self ..)
      · exact hl x hx
  exact gen chs _ (fun r hr => h.rk r (List.mem_filter.1 hr).1) h.ck
/-- a view of rows that may be; the library's tables lie beneath it -/
structure QV (w : World) (B wb : Nat) (S : Nat → Prop) (P : Rws) (since : Int) (chs : List Chg) (rds : Rws) : Prop where
  pv : PV w B wb S P since chs rds
  ok : OkQ P chs
  la : ∀ W, Below B w W → Laid W
def ActQ (w w' : World) (B wb : Nat) (S : Nat → Prop) (P : Rws) (since : Int) (chs : List Chg) (rds : Rws) : Prop := ∃ S', QV w' B wb S' P since chs rds ∧ StepV w w' B S S'
section
variable {w w' : World} {B wb : Nat} {S : Nat → Prop} {P : Rws} {since : Int} {chs chs' : List Chg} {rds rds' : Rws}
theorem QV.laid (h : QV w B wb S P since chs rds) : Laid w := h.la w (Below.refl _ _)
theorem QV.on (h : QV w B wb S P since chs rds) (hb : Below w.heap.size w w') : QV w' B wb S P since chs rds := ⟨h.pv.on hb, h.ok, fun W hW => h.la W ((hb.mono h.pv.lo).trans hW)⟩
theorem QV.act (h : QV w B wb S P since chs rds) (hk : OkQ P chs') (ha : ActV w w' B wb S P since chs' rds') : ActQ w w' B wb S P since chs' rds' := by
  obtain ⟨S', hp, hs⟩ := ha
  exact ⟨S', ⟨hp, hk, fun W hW => h.la W (hs.bel.trans hW)⟩, hs⟩
theorem QV.stay (h : QV w B wb S P since chs rds) (hb : Below w.heap.size w w') : ActQ w w' B wb S P since chs rds := ⟨S, h.on hb, .on h.pv.lo hb⟩
/-- an act, and more memory ahead of it -/
theorem QV.pre {w1 : World} (h : QV w B wb S P since chs rds) (hb : Below w.heap.size w w1) (ha : ActQ w1 w' B wb S P since chs' rds') : ActQ w w' B wb S P since chs' rds' := by
  obtain ⟨S', hp, hs⟩ := ha
  exact ⟨S', hp, (StepV.on h.pv.lo hb).trans hs⟩
/-- an act, and more memory behind it -/
theorem ActQ.post {w1 : World} (ha : ActQ w w1 B wb S P since chs' rds') (hb : Below w1.heap.size w1 w') : ActQ w w' B wb S P since chs' rds' := by
  obtain ⟨S', hp, hs⟩ := ha
  exact ⟨S', hp.on hb, hs.trans (.on hp.pv.lo hb)⟩
end
theorem ActQ.after {w w1 w2 : World} {B wb : Nat} {S S1 : Nat → Prop} {P : Rws} {since : Int} {chs : List Chg} {rds : Rws} (hs : StepV w w1 B S S1) (ha : ActQ w1 w2 B wb S1 P since chs rds) : ActQ w w2 B wb S P since chs rds := by
  obtain ⟨S2, hq, h2⟩ := ha
  exact ⟨S2, hq, hs.trans h2⟩
/-- an act under way, with a block of its own for what it returns -/
structure BoxQ (w w2 : World) (B wb bx : Nat) (S S' : Nat → Prop) (P : Rws) (since : Int) (chs : List Chg) (rds : Rws) : Prop where
  qv : QV w2 B wb S' P since chs rds
  st : StepV w w2 B S S'
  nb : ¬ S' bx
  lo : w.heap.size ≤ bx
  hi : bx < w2.heap.size
  fz : ∀ j, w2.frozen? ⟨bx, j, none⟩ = false
section
variable {w w1 w2 : World} {B wb bx : Nat} {S S' : Nat → Prop} {P : Rws} {since : Int} {chs chs' : List Chg} {rds rds' : Rws}
theorem BoxQ.start (h : QV w B wb S P since chs rds) (vs : Array Value) (t : TypeId) : BoxQ w (w.alloc (.cells vs t)) B wb w.heap.size S S P since chs rds :=
  have hb := below_alloc1 w (.cells vs t)
  ⟨h.on hb, .on h.pv.lo hb, fun e => by have := h.pv.lt e; omega, Nat.le_refl _, by simp, fun j => frozen_new _ _ _ j⟩
theorem BoxQ.on (h : BoxQ w w1 B wb bx S S' P since chs rds) (hb : Below w1.heap.size w1 w2) : BoxQ w w2 B wb bx S S' P since chs rds :=
  ⟨h.qv.on hb, h.st.trans (.on h.qv.pv.lo hb), h.nb, h.lo, Nat.lt_of_lt_of_le h.hi hb.size, fun j => frozen_on hb h.hi (h.fz j)⟩
theorem BoxQ.act (h : BoxQ w w1 B wb bx S S' P since chs rds) (ha : ActQ w1 w2 B wb S' P since chs' rds') : ∃ S2, BoxQ w w2 B wb bx S S2 P since chs' rds' ∧ w2.heap[bx]? = w1.heap[bx]? := by
  obtain ⟨S2, hq, hs⟩ := ha
  obtain ⟨e, n⟩ := hs.far bx h.hi h.nb
  exact ⟨S2, ⟨hq, h.st.trans hs, n, h.lo, Nat.lt_of_lt_of_le h.hi hs.bel.size, fun j => (World.frozen?_of_block (w := w1) e).trans (h.fz j)⟩, e⟩
theorem BoxQ.set (h : BoxQ w w1 B wb bx S S' P since chs rds) (hB : B ≤ w.heap.size) (j : Nat) (v : Value) : BoxQ w (w1.setCell ⟨bx, j, none⟩ v) B wb bx S S' P since chs rds := by
  have hs : ∀ k, k ≠ bx → (w1.setCell ⟨bx, j, none⟩ v).heap[k]? = w1.heap[k]? := fun k hk => Below.heap_setCell _ _ _ _ hk
  have hl := h.lo
  refine ⟨⟨h.qv.pv.kept (by simp) fun k hk => hs k fun e => h.nb (e ▸ hk), h.qv.ok, fun W hW => h.qv.la W (((Below.refl B w1).setCell (p := ⟨bx, j, none⟩) (by show B ≤ bx; omega) v).trans hW)⟩, ⟨h.st.bel.setCell (p := ⟨bx, j, none⟩) (by show B ≤ bx; omega) v, fun k hk hn => ?_⟩, h.nb, h.lo, by simpa using h.hi, fun k => by rw [World.frozen?_setCell]; exact h.fz k⟩
  obtain ⟨a, b⟩ := h.st.far k hk hn
  exact ⟨(hs k (by omega)).trans a, b⟩
theorem BoxQ.done (h : BoxQ w w1 B wb bx S S' P since chs rds) : ActQ w w1 B wb S P since chs rds := ⟨S', h.qv, h.st⟩
end
theorem qv_put (key val : ByteArray) {B wb : Nat} {S : Nat → Prop} {P : Rws} {since : Int} {chs : List Chg} {rds : Rws} (w : World) (h : QV w B wb S P since chs rds) (hk : key.size ≤ maxLen) :
    Calls Tryz.prog 35 #[.pointer (some ⟨wb, 0, none⟩), .string key, .string val] w fun e w' => e = .returned (errV (alterF chs ⟨key, val, false⟩)) ∧ ActQ w w' B wb S P since (alterL chs ⟨key, val, false⟩) rds :=
  (pv_put key val w h.pv hk fault_small).mono fun _ _ ⟨he, ha⟩ => ⟨he, h.act (h.ok.alter _) ha⟩
theorem qv_delete (key : ByteArray) {B wb : Nat} {S : Nat → Prop} {P : Rws} {since : Int} {chs : List Chg} {rds : Rws} (w : World) (h : QV w B wb S P since chs rds) (hk : key.size ≤ maxLen) :
    Calls Tryz.prog 37 #[.pointer (some ⟨wb, 0, none⟩), .string key] w fun e w' => e = .returned (errV (alterF chs ⟨key, ⟨#[]⟩, true⟩)) ∧ ActQ w w' B wb S P since (alterL chs ⟨key, ⟨#[]⟩, true⟩) rds :=
  (pv_delete key w h.pv hk fault_small).mono fun _ _ ⟨he, ha⟩ => ⟨he, h.act (h.ok.alter _) ha⟩
theorem qv_get (key : ByteArray) {B wb : Nat} {S : Nat → Prop} {P : Rws} {since : Int} {chs : List Chg} {rds : Rws} (w : World) (h : QV w B wb S P since chs rds) (hk : key.size ≤ maxLen) :
    Calls Tryz.prog 38 #[.pointer (some ⟨wb, 0, none⟩), .string key] w fun e w' => e = .returned (.tuple #[.string (getP chs rds P key).1, .bool (getP chs rds P key).2.1, errV (getP chs rds P key).2.2]) ∧ ActQ w w' B wb S P since chs (getL chs rds key) :=
  (pv_get key w h.pv hk).mono fun _ _ ⟨he, ha⟩ => ⟨he, h.act h.ok ha⟩
end Go.Proofs.YtpbhcjkllfonhaaGreatDoor

/-
  What queue.Find returns, of every view and name.
-/
namespace Go.Proofs.YtpbhcjkllfonhaaGreatDoor
open Go.RowKit Go.Joins Go.Shelf
attribute [local go_sem ↓] Go.wp_at_zero Go.wp_at_succ

noncomputable def findQ (P : Rws) (chs : List Chg) (rds : Rws) (name : ByteArray) : Int × Int × ByteArray × Nat :=
  if nameL name.data.toList then
    if (getP chs rds P (queB name)).2.2 = 0 then
      if (getP chs rds P (queB name)).2.1 then qOf (getP chs rds P (queB name)).1 else (0, 0, ⟨#[]⟩, 5)
    else (0, 0, ⟨#[]⟩, (getP chs rds P (queB name)).2.2)
  else (0, 0, ⟨#[]⟩, 3)
def findL (chs : List Chg) (rds : Rws) (name : ByteArray) : Rws := if nameL name.data.toList then getL chs rds (queB name) else rds
abbrev qV (x : Int × Int × ByteArray × Nat) : Value := .agg #[.int .i64 x.1, .int .i64 x.2.1, .string x.2.2.1]
theorem queB_size (s : ByteArray) : (queB s).size = s.size + 2 := by
  have := congrArg List.length (queB_l s); simp at this; exact this
set_option maxHeartbeats 4000000 in
theorem qfind_any (name : ByteArray) {B wb : Nat} {S : Nat → Prop} {P : Rws} {since : Int} {chs : List Chg} {rds : Rws} (w : World) (h : QV w B wb S P since chs rds) (hn : name.size ≤ 1000) :
    Calls Tryz.prog 33 #[.pointer (some ⟨wb, 0, none⟩), .string name] w fun e w' => e = .returned (.tuple #[qV (findQ P chs rds name), errV (findQ P chs rds name).2.2.2]) ∧ ActQ w w' B wb S P since chs (findL chs rds name) := by
  have HX := hide (BoxQ.start h #[Value.int .i64 0, Value.int .i64 0, Value.string ⟨#[]⟩] 87)
  have HLO := hide h.pv.lo
  have hqs : (queB name).size ≤ maxLen := by rw [queB_size]; unfold maxLen; omega
  have HGS := hide (getP_size h.ok rds (queB name))
  have n1 := err_neq_nil 116
  clear h
  cases hnm : nameL name.data.toList with
  | false =>
    have eF : findQ P chs rds name = (0, 0, ⟨#[]⟩, 3) := by unfold findQ; rw [hnm]; rfl
    have eL : findL chs rds name = rds := by unfold findL; rw [hnm]; rfl
    rw [eF, eL]
    have HNM := hide hnm
    clear hnm eF eL
    go_enter Tryz.func33, Tryz.ntmps33
    go_wp2_with (first
      | (go_at_call 72; refine (name_any name _).mono ?_; rintro e w1 ⟨rfl, rfl⟩; rw [HNM.out])
      | fail)
    exact bodyPost_ret (v := .tuple #[qV (0, 0, ⟨#[]⟩, 3), errV 3]) (by simp [errV, results, Tryz.results33, go_sem]) rfl ⟨rfl, HX.out.done⟩
  | true =>
    have eL : findL chs rds name = getL chs rds (queB name) := by unfold findL; rw [hnm]; rfl
    have eF : findQ P chs rds name = if (getP chs rds P (queB name)).2.2 = 0 then (if (getP chs rds P (queB name)).2.1 then qOf (getP chs rds P (queB name)).1 else (0, 0, ⟨#[]⟩, 5)) else (0, 0, ⟨#[]⟩, (getP chs rds P (queB name)).2.2) := by unfold findQ; rw [hnm]; rfl
    rw [eF, eL]
    have HNM := hide hnm
    clear hnm eF eL
    have HGT := hide (fun W hW => qv_get (queB name) (B := B) (wb := wb) (S := S) (P := P) (since := since) (chs := chs) (rds := rds) W hW hqs)
    generalize getP chs rds P (queB name) = gp at *
    obtain ⟨tx, is, er⟩ := gp
    have r0 : (w.alloc (Obj.cells #[Value.int .i64 0, Value.int .i64 0, Value.string ⟨#[]⟩] 87)).cell? ⟨w.heap.size, 0, none⟩ = some (Value.int .i64 0) := by simp
    have r1 : (w.alloc (Obj.cells #[Value.int .i64 0, Value.int .i64 0, Value.string ⟨#[]⟩] 87)).cell? ⟨w.heap.size, 1, none⟩ = some (Value.int .i64 0) := by simp
    have r2 : (w.alloc (Obj.cells #[Value.int .i64 0, Value.int .i64 0, Value.string ⟨#[]⟩] 87)).cell? ⟨w.heap.size, 2, none⟩ = some (Value.string ⟨#[]⟩) := by simp
    by_cases h0 : er = 0
    · subst h0
      cases is with
      | false =>
        rw [if_pos rfl, if_neg (by simp)]
        go_enter Tryz.func33, Tryz.ntmps33
        go_wp2_with (first
          | (go_at_call 72; refine (name_any name _).mono ?_; rintro e w1 ⟨rfl, rfl⟩; rw [HNM.out])
          | (go_at_call 73; refine (queue_any name _ (by omega)).mono ?_; rintro e w1 ⟨rfl, rfl⟩)
          | (go_at_call 38; refine (HGT.out _ HX.out.qv).mono ?_; rintro e w2 ⟨rfl, ha⟩; obtain ⟨S2, hx2, eb⟩ := HX.out.act ha; have HX2 := hide hx2; have fz := hx2.fz; replace r0 := (World.cell?_of_block eb).trans r0; replace r1 := (World.cell?_of_block eb).trans r1; replace r2 := (World.cell?_of_block eb).trans r2; clear ha hx2 eb; rw [show errV 0 = Value.nilIface from rfl])
          | fail)
        exact bodyPost_ret (v := .tuple #[qV (0, 0, ⟨#[]⟩, 5), errV 5]) (by simp [errV, results, Tryz.results33, go_sem, r0, r1, r2]) rfl ⟨rfl, (((HX2.out.set HLO.out 0 _).set HLO.out 1 _).set HLO.out 2 _).done⟩
      | true =>
        rw [if_pos rfl, if_pos rfl]
        go_enter Tryz.func33, Tryz.ntmps33
        go_wp2_with (first
          | (go_at_call 72; refine (name_any name _).mono ?_; rintro e w1 ⟨rfl, rfl⟩; rw [HNM.out])
          | (go_at_call 73; refine (queue_any name _ (by omega)).mono ?_; rintro e w1 ⟨rfl, rfl⟩)
          | (go_at_call 38; refine (HGT.out _ HX.out.qv).mono ?_; rintro e w2 ⟨rfl, ha⟩; obtain ⟨S2, hx2, eb⟩ := HX.out.act ha; have HX2 := hide hx2; have fz := hx2.fz; replace r0 := (World.cell?_of_block eb).trans r0; replace r1 := (World.cell?_of_block eb).trans r1; replace r2 := (World.cell?_of_block eb).trans r2; clear ha hx2 eb; rw [show errV 0 = Value.nilIface from rfl])
          | (go_at_call 74; refine (qOf_prog tx (by have := HGS.out; omega) _ HX2.out.qv.laid).mono ?_; rintro e w3 ⟨rfl, hb3⟩; have HX3 := hide (HX2.out.on hb3); have fz3 := (HX2.out.on hb3).fz; replace r0 := cell_on hb3 r0; replace r1 := cell_on hb3 r1; replace r2 := cell_on hb3 r2; clear hb3)
          | fail)
        exact bodyPost_ret (v := .tuple #[qV (qOf tx), errV (qOf tx).2.2.2]) (by simp [errV, results, Tryz.results33, go_sem, r0, r1, r2]) rfl ⟨rfl, (((HX3.out.set HLO.out 0 _).set HLO.out 1 _).set HLO.out 2 _).done⟩
    · rw [if_neg h0, errV_pos h0]
      have HER := hide (errV_pos h0)
      clear h0
      go_enter Tryz.func33, Tryz.ntmps33
      go_wp2_with (first
        | (go_at_call 72; refine (name_any name _).mono ?_; rintro e w1 ⟨rfl, rfl⟩; rw [HNM.out])
        | (go_at_call 73; refine (queue_any name _ (by omega)).mono ?_; rintro e w1 ⟨rfl, rfl⟩)
        | (go_at_call 38; refine (HGT.out _ HX.out.qv).mono ?_; rintro e w2 ⟨rfl, ha⟩; obtain ⟨S2, hx2, eb⟩ := HX.out.act ha; have HX2 := hide hx2; have fz := hx2.fz; replace r0 := (World.cell?_of_block eb).trans r0; replace r1 := (World.cell?_of_block eb).trans r1; replace r2 := (World.cell?_of_block eb).trans r2; clear ha hx2 eb; rw [HER.out])
        | fail)
      exact bodyPost_ret (v := .tuple #[qV (0, 0, ⟨#[]⟩, er), .iface 116 (.int .i64 er)]) (by simp [results, Tryz.results33, go_sem, r0, r1, r2]) rfl ⟨rfl, (((HX2.out.set HLO.out 0 _).set HLO.out 1 _).set HLO.out 2 _).done⟩
end Go.Proofs.YtpbhcjkllfonhaaGreatDoor
