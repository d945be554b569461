/-
  Plain facts of haywainlaw.VersionsSays: how many versions are left behind a vacuum of all numbers.
-/
import Derived.Test.YtighpalbodhfeaaGreatDoorVerSaysL
import Derived.Test.YtighpalbodhfeaaGreatDoorRefBoth
import Derived.Test.YtighpalbodhfeaaGreatDoorRefView
import Derived.Test.YtighpalbodhfeaaGreatDoorVerNew
import Derived.Test.YtighpalbodhfeaaGreatDoorRefRow
import Derived.Test.YtighpalbodhfeaaGreatDoorViewScan
namespace Go.Proofs.YtighpalbodhfeaaGreatDoor
open Go.RowKit Go.Joins

/-- all deeds are of numbers up to n -/
def upToR (R : ByteArray → List Ver) (n : Int) : Prop := ∀ key, ∀ x ∈ R key, x.deed ≤ n
theorem since_all {vs : List Ver} {n : Int} (h : ∀ x ∈ vs, x.deed ≤ n) : (sinceV vs n).length = if (behindV vs n).2 then 1 else 0 := by
  by_cases e : vs = []
  · subst e; rw [since_nil]; rfl
  · have hl : vs.length - 1 < vs.length := by have := List.length_pos_iff.2 e; omega
    have hp : lastP vs n = ((vs.length - 1 : Nat) : Int) := lastP_at hl (h _ (List.getElem_mem hl)) fun j hj hlt => by omega
    have hv : vs = vs.dropLast ++ [vs[vs.length - 1]] := by
      rw [← List.getLast_eq_getElem e]; exact (List.dropLast_concat_getLast e).symm
    have hb : behindV vs n = if vs[vs.length - 1].gone then (⟨#[]⟩, false) else (vs[vs.length - 1].val, true) := by
      have := behind_new (vs := vs.dropLast) (h _ (List.getElem_mem hl))
      rwa [← hv] at this
    rw [since_some hl hp, hb]
    cases vs[vs.length - 1].gone with
    | true => simp; omega
    | false => simp; omega
theorem valR_mem {P : List (ByteArray × ByteArray)} (hP : riseP P) (key : ByteArray) : (valR P key).2 = true ↔ key ∈ P.map (·.1) := by
  rw [List.mem_map]
  constructor
  · intro h
    have e : valR P key = ((valR P key).1, true) := by rw [← h]
    exact ⟨_, (valR_iff hP _ _).1 e, rfl⟩
  · rintro ⟨r, hr, rfl⟩
    rw [(valR_iff hP r.1 r.2).2 hr]
theorem rise_nodup {P : List (ByteArray × ByteArray)} (hP : riseP P) : (P.map (·.1)).Nodup := by
  unfold List.Nodup
  rw [List.pairwise_map]
  exact List.Pairwise.imp (fun {a b} h e => by rw [e, ltS_irrefl] at h; cases h) hP
theorem ones : ∀ (P : List (ByteArray × ByteArray)), (P.map fun _ => 1).sum = P.length
  | [] => rfl
  | _ :: P => by rw [List.map_cons, List.sum_cons, ones P, List.length_cons, Nat.add_comm]
theorem count_all {R : ByteArray → List Ver} {n : Int} {K K' : List ByteArray} {P : List (ByteArray × ByteArray)} (hK : keysV R K) (hK' : keysV (vacR R n K) K') (hu : upToR R n) (hP : riseP P) (hk : ∀ r ∈ P, r.1.size ≤ maxLen) (h : sayR R n P) : sumK (vacR R n K) K' = P.length := by
  have hlen : ∀ key, key.size ≤ maxLen → (vacR R n K key).length = if (valR P key).2 then 1 else 0 := fun key hs => by
    by_cases hin : key ∈ K
    · rw [vacR_in hin, since_all (hu key), h key]
    · have e : R key = [] := by
        by_cases e : R key = []
        · exact e
        · exact absurd ((hK.2 key).2 ⟨hs, e⟩) hin
      rw [vacR_out hin, ← h key, e]
      rfl
  have hk' : keysV (vacR R n K) (P.map (·.1)) := ⟨rise_nodup hP, fun key => by
    constructor
    · intro hm
      have hs : key.size ≤ maxLen := by
        obtain ⟨r, hr, rfl⟩ := List.mem_map.1 hm
        exact hk r hr
      refine ⟨hs, fun e => ?_⟩
      have := hlen key hs
      rw [(valR_mem hP key).2 hm, e] at this
      simp at this
    · rintro ⟨hs, hne⟩
      rw [← valR_mem hP]
      cases e : (valR P key).2 with
      | true => rfl
      | false =>
        have := hlen key hs
        rw [e] at this
        exact absurd (List.length_eq_zero_iff.1 (by simpa using this)) hne⟩
  rw [keysV_same hK' hk']
  unfold sumK
  have : ((P.map (·.1)).map fun k => (vacR R n K k).length) = P.map fun _ => 1 := by
    rw [List.map_map]
    refine List.map_congr_left fun r hr => ?_
    show (vacR R n K r.1).length = 1
    rw [hlen r.1 (hk r hr), (valR_mem hP r.1).2 (List.mem_map_of_mem hr)]
    rfl
  rw [this]
  exact ones P
theorem upTo_init (l : List (ByteArray × ByteArray)) : upToR (initR l) 0 := by
  have aux : ∀ (l : List (ByteArray × ByteArray)) (R : ByteArray → List Ver), upToR R 0 → upToR (l.foldl (fun R r => putG R r.1 [⟨0, r.2, false⟩]) R) 0 := by
    intro l
    induction l with
    | nil => exact fun R h => h
    | cons r l ih =>
      intro R h
      refine ih _ fun key x hx => ?_
      dsimp only at hx
      by_cases e : key = r.1
      · subst e
        rw [putG_same] at hx
        rw [List.mem_singleton.1 hx]
        exact Int.le_refl _
      · rw [putG_other _ _ e] at hx
        exact h key x hx
  exact aux l _ fun key x hx => by cases hx
theorem upTo_apply {R : ByteArray → List Ver} {d : Int} (h : upToR R d) : ∀ (cs : List Chg), upToR (applyR R d cs) d := by
  intro cs
  induction cs generalizing R with
  | nil => exact h
  | cons c cs ih =>
    refine ih fun key x hx => ?_
    dsimp only at hx
    by_cases e : key = c.key
    · subst e
      rw [putG_same] at hx
      rcases List.mem_append.1 hx with hx | hx
      · exact h _ x hx
      · rw [List.mem_singleton.1 hx]
        exact Int.le_refl _
    · rw [putG_other _ _ e] at hx
      exact h key x hx
theorem upTo_mono {R : ByteArray → List Ver} {a b : Int} (h : upToR R a) (hab : a ≤ b) : upToR R b := fun key x hx => Int.le_trans (h key x hx) hab
theorem since_sub {vs : List Ver} {n : Int} {x : Ver} (h : x ∈ sinceV vs n) : x ∈ vs := by
  unfold sinceV at h
  split at h
  · exact h
  · split at h <;> exact List.mem_of_mem_drop h
theorem upTo_vac {R : ByteArray → List Ver} {d n : Int} (h : upToR R d) (K : List ByteArray) : upToR (vacR R n K) d := fun key x hx => by
  by_cases hin : key ∈ K
  · rw [vacR_in hin] at hx; exact h key x (since_sub hx)
  · rw [vacR_out hin] at hx; exact h key x hx
theorem say_init {l : List (ByteArray × ByteArray)} (hp : riseP l) : sayR (initR l) 0 l := by
  have aux : ∀ (l : List (ByteArray × ByteArray)), riseP l → ∀ (R : ByteArray → List Ver) (key : ByteArray), behindV ((l.foldl (fun R r => putG R r.1 [⟨0, r.2, false⟩]) R) key) 0 = if (valR l key).2 then valR l key else behindV (R key) 0 := by
    intro l
    induction l with
    | nil => intro _ R key; rfl
    | cons r l ih =>
      intro hp R key
      replace hp := List.pairwise_cons.1 hp
      rw [List.foldl_cons, ih hp.2, valR_cons]
      cases he : eqS r.1 key with
      | true =>
        have e := (eqS_iff _ _).1 he
        subst e
        have hm : valR l r.1 = (⟨#[]⟩, false) := valR_miss fun x hx => eqS_no fun e => by
          have := hp.1 x hx; rw [e, ltS_irrefl] at this; cases this
        rw [hm, putG_same]
        rfl
      | false =>
        have e : key ≠ r.1 := fun e => by rw [e, eqS_yes] at he; cases he
        rw [putG_other _ _ e]
        simp
  intro key
  have := aux l hp (fun _ => []) key
  cases e : (valR l key).2 with
  | true => rw [e] at this; exact this
  | false => rw [e] at this; rw [valR_val e]; exact this
end Go.Proofs.YtighpalbodhfeaaGreatDoor

/-
  A view and the document's own side by side, and what holds from round to round of haywainlaw.ViewSays.
-/
namespace Go.Proofs.YtighpalbodhfeaaGreatDoor
open Go.RowKit Go.Joins

theorem fault_small {c : Chg} (h : chgFault c = 0) : c.key.size ≤ 60 := by
  rw [fault_of] at h
  have hk : keyL c.key.data.toList = true := by
    unfold faultK at h
    cases e : keyL c.key.data.toList with
    | true => rfl
    | false => rw [e] at h; simp at h
  have := key_len hk
  have e : c.key.data.toList.length = c.key.size := by rw [Array.length_toList]; rfl
  omega
/-- both, each with its own lists -/
structure VB (w : World) (B wb rb : Nat) (S G : Nat → Prop) (P : Rws) (since : Int) (chs : List Chg) (rds : Rws) (chs' : List Chg) (rds' : Rws) : Prop where
  pv : PV w B wb S P since chs rds
  rw : RW w rb G P since chs' rds'
  ap : ∀ k, G k → ¬ S k
  lo : B ≤ rb
/-- what is neither the view's nor the document's own block is left alone -/
structure Fr (w w' : World) (B rb : Nat) (S S' : Nat → Prop) : Prop where
  bel : Below B w w'
  far : ∀ j, j < w.heap.size → ¬ S j → j ≠ rb → w'.heap[j]? = w.heap[j]? ∧ ¬ S' j
theorem Fr.trans {w w1 w2 : World} {B rb : Nat} {S S1 S2 : Nat → Prop} (h : Fr w w1 B rb S S1) (h' : Fr w1 w2 B rb S1 S2) : Fr w w2 B rb S S2 :=
  ⟨h.bel.trans h'.bel, fun j hj hn hr => by
    obtain ⟨a, b⟩ := h.far j hj hn hr
    obtain ⟨c, d⟩ := h'.far j (Nat.lt_of_lt_of_le hj h.bel.size) b hr
    exact ⟨c.trans a, d⟩⟩
theorem Fr.on {w w' : World} {B rb : Nat} {S : Nat → Prop} (hB : B ≤ w.heap.size) (hb : Below w.heap.size w w') : Fr w w' B rb S S := ⟨hb.mono hB, fun j hj hn _ => ⟨hb.block j hj, hn⟩⟩
theorem Fr.cell {w w' : World} {B rb : Nat} {S S' : Nat → Prop} (h : Fr w w' B rb S S') {a : Addr} {v : Value} (hc : w.cell? a = some v) (hn : ¬ S a.block) (hr : a.block ≠ rb) : w'.cell? a = some v :=
  (World.cell?_of_block (h.far a.block (World.block_lt_of_cell? _ _ hc) hn hr).1).trans hc
theorem VB.rbG {w : World} {B wb rb : Nat} {S G : Nat → Prop} {P : Rws} {since : Int} {chs chs' : List Chg} {rds rds' : Rws} (h : VB w B wb rb S G P since chs rds chs' rds') : G rb := by
  obtain ⟨ra, rc, ca, cc, sa, sc, h1, rfl, h2, h3, h4⟩ := h.rw
  exact .inl rfl
theorem VB.view' {w w' : World} {B wb rb : Nat} {S S' G : Nat → Prop} {P : Rws} {since : Int} {chs chs' c2 : List Chg} {rds rds' r2 : Rws} (h : VB w B wb rb S G P since chs rds chs' rds') (hp : PV w' B wb S' P since c2 r2) (hs : StepV w w' B S S') : VB w' B wb rb S' G P since c2 r2 chs' rds' ∧ Fr w w' B rb S S' :=
  ⟨⟨hp, h.rw.kept fun k hk => (hs.far k (h.rw.lt hk) (h.ap k hk)).1, fun k hk => (hs.far k (h.rw.lt hk) (h.ap k hk)).2, h.lo⟩, hs.bel, fun j hj hn _ => hs.far j hj hn⟩
theorem VB.view {w w' : World} {B wb rb : Nat} {S G : Nat → Prop} {P : Rws} {since : Int} {chs chs' c2 : List Chg} {rds rds' r2 : Rws} (h : VB w B wb rb S G P since chs rds chs' rds') (ha : ActV w w' B wb S P since c2 r2) : ∃ S', VB w' B wb rb S' G P since c2 r2 chs' rds' ∧ Fr w w' B rb S S' := by
  obtain ⟨S', hp, hs⟩ := ha
  exact ⟨S', h.view' hp hs⟩
theorem VB.ref' {w w' : World} {B wb rb : Nat} {S G G' : Nat → Prop} {P : Rws} {since : Int} {chs chs' c2 : List Chg} {rds rds' r2 : Rws} (h : VB w B wb rb S G P since chs rds chs' rds') (hp : RW w' rb G' P since c2 r2) (hs : StepR w w' B rb G G') : VB w' B wb rb S G' P since chs rds c2 r2 ∧ Fr w w' B rb S S :=
  have hrb := h.ap rb h.rbG
  ⟨⟨h.pv.kept hs.bel.size fun k hk => hs.far k (h.pv.lt hk) (fun e => hrb (e ▸ hk)), hp, fun k hk hS => hs.out k (h.pv.lt hS) (fun hG => h.ap k hG hS) hk, h.lo⟩, hs.bel, fun j hj hn hr => ⟨hs.far j hj hr, hn⟩⟩
theorem VB.ref {w w' : World} {B wb rb : Nat} {S G : Nat → Prop} {P : Rws} {since : Int} {chs chs' c2 : List Chg} {rds rds' r2 : Rws} (h : VB w B wb rb S G P since chs rds chs' rds') (ha : ActR w w' B rb G P since c2 r2) : ∃ G', VB w' B wb rb S G' P since chs rds c2 r2 ∧ Fr w w' B rb S S := by
  obtain ⟨G', hp, hs⟩ := ha
  exact ⟨G', h.ref' hp hs⟩
theorem VB.on {w w' : World} {B wb rb : Nat} {S G : Nat → Prop} {P : Rws} {since : Int} {chs chs' : List Chg} {rds rds' : Rws} (h : VB w B wb rb S G P since chs rds chs' rds') (hb : Below w.heap.size w w') : VB w' B wb rb S G P since chs rds chs' rds' := ⟨h.pv.on hb, h.rw.on hb, h.ap, h.lo⟩
/-- and two marks that were set at the same time -/
structure VL (w0 w : World) (B wb rb : Nat) (S G : Nat → Prop) (P : Rws) (chs : List Chg) (rds : Rws) (mv : Value) (wa : Option Addr) (mk : List Chg) : Prop where
  vb : VB w B wb rb S G P 0 chs rds chs rds
  mo : ∃ B2, ownCh w B2 mv mk
  mn : ∀ k, mv.ownBlock = some k → ¬ S k ∧ k ≠ rb
  wh : heldCh w wa mk
  wn : ∀ k, atB wa k → mk ≠ [] → ¬ S k ∧ k ≠ rb
  ml : mk.length ≤ 12
  mkk : ∀ c ∈ mk, c.key.size ≤ 60
  mr : rises mk
  bel : Below w0.heap.size w0 w
  lo : w0.heap.size ≤ B
theorem VL.next {w0 w w' : World} {B wb rb : Nat} {S S' G G' : Nat → Prop} {P : Rws} {chs chs' : List Chg} {rds rds' : Rws} {mv : Value} {wa : Option Addr} {mk : List Chg} (h : VL w0 w B wb rb S G P chs rds mv wa mk) (hv : VB w' B wb rb S' G' P 0 chs' rds' chs' rds') (hf : Fr w w' B rb S S') : VL w0 w' B wb rb S' G' P chs' rds' mv wa mk := by
  obtain ⟨B2, ho⟩ := h.mo
  have hm : ∀ k, mv.ownBlock = some k → w'.heap[k]? = w.heap[k]? ∧ ¬ S' k := fun k e => hf.far k (World.ownsRow.lt ho k e).2 (h.mn k e).1 (h.mn k e).2
  have hw : mk ≠ [] → ∀ k, atB wa k → w'.heap[k]? = w.heap[k]? ∧ ¬ S' k := fun hne k e => hf.far k (heldCh_lt h.wh hne e) (h.wn k e hne).1 (h.wn k e hne).2
  exact {
    vb := hv
    mo := ⟨B2, own_block ho fun k e => (hm k e).1⟩
    mn := fun k e => ⟨(hm k e).2, (h.mn k e).2⟩
    wh := heldCh_kept h.wh fun hne k e => (hw hne k e).1
    wn := fun k e hne => ⟨(hw hne k e).2, (h.wn k e hne).2⟩
    ml := h.ml
    mkk := h.mkk
    mr := h.mr
    bel := h.bel.trans (hf.bel.mono h.lo)
    lo := h.lo }
theorem VL.on {w0 w w' : World} {B wb rb : Nat} {S G : Nat → Prop} {P : Rws} {chs : List Chg} {rds : Rws} {mv : Value} {wa : Option Addr} {mk : List Chg} (h : VL w0 w B wb rb S G P chs rds mv wa mk) (hb : Below w.heap.size w w') : VL w0 w' B wb rb S G P chs rds mv wa mk := h.next (h.vb.on hb) (.on h.vb.pv.lo hb)
/-- a view of rows that were just laid down -/
theorem pv_make {w1 w2 : World} {B0 vb mb wb : Nat} {D : DataW Value} {g : ByteArray → Value} {rows : Rws} (hv : VS w1 B0 vb mb 0 rows.length D g (initR rows)) (hw : VW w2 w1.heap.size wb vb 0 (.slice none 0 0) (.slice none 0 0) [] []) (hb : Below w1.heap.size w1 w2) (hB : B0 ≤ w1.heap.size) (hr : riseP rows) (hl : rows.length ≤ 50) (hk : ∀ r ∈ rows, r.1.size ≤ 60) :
    ∃ S, PV w2 w1.heap.size wb S rows 0 [] [] ∧ ∀ k, S k → B0 ≤ k := by
  refine ⟨_, ⟨B0, vb, mb, rows.length, 0, D, g, initR rows, _, _, hv.on hb, hw, rfl, ?_, say_init hr, by omega, fun key => by have := initR_len rows key; omega, ⟨hr, hl, hk, by simp, by simp, List.Pairwise.nil, by simp⟩, hb.size⟩, ?_⟩
  · intro k hk hin
    have h1 := hv.lt hk
    have h2 := hw.low hin
    omega
  · rintro k (hin | hin)
    · have := hw.low hin; omega
    · rcases hin with rfl | rfl | ⟨key, e⟩
      · exact hv.lov
      · exact hv.lom
      · exact (World.ownsRow.lt (hv.rows key) k e).1
/-- back at the marks -/
theorem VL.back {w0 w w1 : World} {B wb rb wc : Nat} {S G : Nat → Prop} {P : Rws} {chs : List Chg} {rds : Rws} {mv : Value} {wa : Option Addr} {mk : List Chg} (h : VL w0 w B wb rb S G P chs rds mv wa mk) (ha : ActV w w1 B wb S P 0 mk rds) :
    ∃ S' G', VL w0 (w1.setCell ⟨rb, 2, none⟩ (.slice wa mk.length wc)) B wb rb S' G' P mk rds mv wa mk ∧ Fr w (w1.setCell ⟨rb, 2, none⟩ (.slice wa mk.length wc)) B rb S S' ∧ w1.frozen? ⟨rb, 2, none⟩ = false ∧ ∃ v, w1.cell? ⟨rb, 2, none⟩ = some v := by
  obtain ⟨S', hv, hf⟩ := h.vb.view ha
  have hbl := h.bel.trans (hf.bel.mono h.lo)
  obtain ⟨ra, rc, ca, cc, sa, sc, hx, hG, h2, h3, h4⟩ := hv.rw
  have hrb := hv.ap rb hv.rbG
  have hs : ∀ k, k ≠ rb → (w1.setCell ⟨rb, 2, none⟩ (.slice wa mk.length wc)).heap[k]? = w1.heap[k]? := fun k hk => Below.heap_setCell _ _ _ _ hk
  have hw1 : heldCh w1 wa mk := heldCh_kept h.wh fun hne k e => (hf.far k (heldCh_lt h.wh hne e) (h.wn k e hne).1 (h.wn k e hne).2).1
  have hwn : ∀ k, atB wa k → mk ≠ [] → ¬ S' k ∧ k ≠ rb := fun k e hne => ⟨(hf.far k (heldCh_lt h.wh hne e) (h.wn k e hne).1 (h.wn k e hne).2).2, (h.wn k e hne).2⟩
  have hfr : Fr w (w1.setCell ⟨rb, 2, none⟩ (.slice wa mk.length wc)) B rb S S' := ⟨hf.bel.setCell (p := ⟨rb, 2, none⟩) h.vb.lo _, fun j hj hn hr => ⟨(hs j hr).trans (hf.far j hj hn hr).1, (hf.far j hj hn hr).2⟩⟩
  have hpv : PV (w1.setCell ⟨rb, 2, none⟩ (.slice wa mk.length wc)) B wb S' P 0 mk rds := hv.pv.kept (by simp) fun k hk => hs k (fun e => hrb (e ▸ hk))
  have hrw : RW (w1.setCell ⟨rb, 2, none⟩ (.slice wa mk.length wc)) rb (inRW rb ra wa sa P mk rds) P 0 mk rds := ⟨ra, rc, wa, wc, sa, sc, {
      c0 := (World.cell?_setCell_other _ _ _ _ (by simp)).trans hx.c0
      c1 := (World.cell?_setCell_other _ _ _ _ (by simp)).trans hx.c1
      c2 := World.cell?_setCell_same _ _ _ hx.c2
      c3 := (World.cell?_setCell_other _ _ _ _ (by simp)).trans hx.c3
      soft := fun j => by rw [World.frozen?_setCell]; exact hx.soft j
      hP := heldSp_kept hx.hP fun hne k e => hs k (h2 k e hne)
      nP := hx.nP
      hC := heldCh_kept hw1 fun hne k e => hs k (hwn k e hne).2
      hR := heldSp_kept hx.hR fun hne k e => hs k (h4 k e hne) }, rfl, h2, fun k e hne => (hwn k e hne).2, h4⟩
  have hvb : VB (w1.setCell ⟨rb, 2, none⟩ (.slice wa mk.length wc)) B wb rb S' (inRW rb ra wa sa P mk rds) P 0 mk rds mk rds := ⟨hpv, hrw, fun k hk => by
    rcases hk with rfl | e | ⟨hne, e⟩ | e
    · exact hrb
    · exact hv.ap k (by rw [hG]; exact .inr (.inl e))
    · exact (hwn k e hne).1
    · exact hv.ap k (by rw [hG]; exact .inr (.inr (.inr e))), h.vb.lo⟩
  exact ⟨S', _, h.next hvb hfr, hfr, hx.soft 2, _, hx.c2⟩
/-- the marks set anew -/
theorem VL.mark {w0 w w1 : World} {B wb rb : Nat} {S G : Nat → Prop} {P : Rws} {chs : List Chg} {rds : Rws} {mv mv1 : Value} {wa : Option Addr} {mk : List Chg} (h : VL w0 w B wb rb S G P chs rds mv wa mk) (hb : Below w.heap.size w w1) (ho : ownCh w1 w.heap.size mv1 chs) :
    ∃ ca cc, w1.cell? ⟨rb, 2, none⟩ = some (.slice ca chs.length cc) ∧ VL w0 w1 B wb rb S G P chs rds mv1 ca chs := by
  have h1 := h.on hb
  obtain ⟨ra, rc, ca, cc, sa, sc, hx, hG, h2, h3, h4⟩ := h1.vb.rw
  have ok := h1.vb.pv.ok
  refine ⟨ca, cc, hx.c2, { h1 with mo := ⟨_, ho⟩, mn := fun k e => ?_, wh := hx.hC, wn := fun k e hne => ⟨h1.vb.ap k (by rw [hG]; exact .inr (.inr (.inl ⟨hne, e⟩))), h3 k e hne⟩, ml := ok.cn, mkk := ok.ck, mr := ok.cr }⟩
  have hk := (World.ownsRow.lt ho k e).1
  refine ⟨fun hS => ?_, fun e => ?_⟩
  · have := h.vb.pv.lt hS; omega
  · have := h.vb.rw.lt h.vb.rbG; omega
end Go.Proofs.YtighpalbodhfeaaGreatDoor

/-
  What haywainlaw.goodRows returns: true of few rows with short keys that rise alone. It changes nothing that was there.
-/
namespace Go.Proofs.YtighpalbodhfeaaGreatDoor
open Go.RowKit Go.Joins

theorem keyFault_on (k : ByteArray) (w : World) (hn : k.size ≤ 1000) : Calls Tryz.prog 17 #[.string k] w fun e w' => e = .returned (.int .i64 (faultK k.data.toList)) ∧ Below w.heap.size w w' :=
  (keyFault_any k w hn).mono fun _ _ ⟨he, e⟩ => ⟨he, e ▸ Below.refl _ _⟩
/-- and each a row that may be -/
def goodV3 (l : List (ByteArray × ByteArray)) (w : World) (e : Ending) (w' : World) : Prop := ∃ v, e = .returned (.bool v) ∧ (v = true → goodB l ∧ riseA l ∧ ∀ r ∈ l, keyL r.1.data.toList = true ∧ r.2.size ≤ 40) ∧ Below w.heap.size w w'
set_option maxHeartbeats 4000000 in
theorem lawRows_some (l : List (ByteArray × ByteArray)) (b off cap : Nat) (w : World) (hl : spansAt w b off l) :
    Calls Tryz.prog 6 #[.slice (some ⟨b, off, none⟩) l.length cap] w fun e w' => goodV3 l w e w' := by
  by_cases h50 : l.length ≤ 50
  · have h50' : ¬ ((50 : Int) < (l.length : Int)) := by omega
    go_enter Tryz.func6, Tryz.ntmps6
    go_wp2
    go_loopw [3] (fun i wr => ∃ k : Nat, k ≤ l.length ∧ i = .int .i64 k ∧ Below w.heap.size w wr ∧ ∀ j (h : j < l.length), j < k → l[j].1.size ≤ 60 ∧ (keyL l[j].1.data.toList = true ∧ l[j].2.size ≤ 40) ∧ ∀ i (hi : i < l.length), i + 1 = j → leS l[j].1 l[i].1 = false) (fun i _ => l.length - (intOf i).toNat)
    case atStart => exact ⟨0, Nat.zero_le _, rfl, Below.refl _ _, by simp⟩
    case round =>
      obtain ⟨k, hk, rfl, hB, hz⟩ := hrel
      have HZ := hide hz
      clear hz
      by_cases hlt : k < l.length
      · have hlt' : (k : Int) < (l.length : Int) := by omega
        obtain ⟨c0, c1⟩ := spansAt_on hB hl k hlt
        have HHL := hide hl
        have HB := hide hB
        clear hl hB
        have nS := OnW.some wr
        have n0 : ∀ m : OnW wr, m.w.cell? ⟨b, off + k * 2, none⟩ = some (.string l[k].1) := fun m => m.cell c0
        have n1 : ∀ m : OnW wr, m.w.cell? ⟨b, off + k * 2 + 1, none⟩ = some (.string l[k].2) := fun m => m.cell c1
        by_cases h60 : l[k].1.size ≤ 60
        · have h60' : ¬ ((60 : Int) < (l[k].1.size : Int)) := by omega
          have d60 : decide ((60 : Int) < (l[k].1.size : Int)) = false := by simpa using h60'
          by_cases h40 : l[k].2.size ≤ 40
          · have h40' : ¬ ((40 : Int) < (l[k].2.size : Int)) := by omega
            have d40 : decide ((40 : Int) < (l[k].2.size : Int)) = false := by simpa using h40'
            cases hke : keyL l[k].1.data.toList with
            | true =>
              have HE : Hid (Value.int .i64 (faultK l[k].1.data.toList) = .int .i64 0) := by unfold Hid faultK; rw [hke]; rfl
              have HKE := hide hke
              clear hke
              by_cases h0 : k = 0
              · have hd : ¬ ((0 : Int) < (k : Int)) := by omega
                have hd1 : decide ((0 : Int) < (k : Int)) = false := by simpa using hd
                have hd2 : decide (0 < k) = false := by simp; omega
                have H0 := hide h0
                clear h0
                go_wp2
                refine wp_region_on (by kernel_rfl) (by kernel_rfl) ?_
                repeat (go_big_quiet_step ((first
                  | (go_at_call 17; exact on_call (call_val (keyFault_on l[k].1 _ (by omega)) HE.out)))))
                refine wpQuiet_nil ?_
                intro w3 hw3
                replace hw3 := on_end hw3
                have HB3 := hide (below_on HB.out (Nat.le_refl _) hw3)
                go_wp2
                refine ⟨⟨k + 1, by omega, by go_num, HB3.out, fun j h1 h2 => ?_⟩, by simp [intOf]; omega⟩
                rcases Nat.lt_or_ge j k with h | h
                · exact HZ.out j h1 h
                · have e : j = k := by omega
                  subst e; exact ⟨h60, ⟨HKE.out, h40⟩, fun i hi e => by have := H0.out; omega⟩
              · obtain ⟨j0, hj⟩ : ∃ j, k = j + 1 := ⟨k - 1, by omega⟩
                have hjl : j0 < l.length := by omega
                have p0 := (spansAt_on HB.out HHL.out j0 hjl).1
                have n2 : ∀ m : OnW wr, m.w.cell? ⟨b, off + j0 * 2, none⟩ = some (.string l[j0].1) := fun m => m.cell p0
                have hd : (0 : Int) < (k : Int) := by omega
                have hd1 : decide ((0 : Int) < (k : Int)) = true := by simpa using hd
                have hd2 : decide (0 < k) = true := by simp; omega
                have k1 : (k : Int) - 1 = (j0 : Int) := by omega
                have k2 : (j0 : Int) < (l.length : Int) := by omega
                have k3 : IntKind.i64.wrap ((k : Int) - 1) = (j0 : Int) := by rw [k1, IntKind.wrap_i64]; omega
                have k4 : (0 : Int) ≤ (j0 : Int) := Int.natCast_nonneg _
                have HJ := hide hj
                clear h0 hj
                cases hle : leS l[k].1 l[j0].1 with
                | true =>
                  have hle' : (Op.bytesLess l[k].1.toList l[j0].1.toList || l[k].1.toList == l[j0].1.toList) = true := hle
                  clear hle
                  go_wp2
                  refine wp_region_on (by kernel_rfl) (by kernel_rfl) ?_
                  repeat (go_big_quiet_step ((first
                    | (go_at_call 17; exact on_call (call_val (keyFault_on l[k].1 _ (by omega)) HE.out)))))
                  refine wpQuiet_nil ?_
                  intro w3 hw3
                  replace hw3 := on_end hw3
                  have HB3 := hide (below_on HB.out (Nat.le_refl _) hw3)
                  go_wp2
                  go_ret
                  exact ⟨_, rfl, by simp, HB3.out⟩
                | false =>
                  have hle' : (Op.bytesLess l[k].1.toList l[j0].1.toList || l[k].1.toList == l[j0].1.toList) = false := hle
                  have HLE := hide hle
                  clear hle
                  go_wp2
                  refine wp_region_on (by kernel_rfl) (by kernel_rfl) ?_
                  repeat (go_big_quiet_step ((first
                    | (go_at_call 17; exact on_call (call_val (keyFault_on l[k].1 _ (by omega)) HE.out)))))
                  refine wpQuiet_nil ?_
                  intro w3 hw3
                  replace hw3 := on_end hw3
                  have HB3 := hide (below_on HB.out (Nat.le_refl _) hw3)
                  go_wp2
                  refine ⟨⟨k + 1, by omega, by go_num, HB3.out, fun j h1 h2 => ?_⟩, by simp [intOf]; omega⟩
                  rcases Nat.lt_or_ge j k with h | h
                  · exact HZ.out j h1 h
                  · have e : j = k := by omega
                    subst e
                    refine ⟨h60, ⟨HKE.out, h40⟩, fun i hi e => ?_⟩
                    have e2 : i = j0 := by have := HJ.out; omega
                    subst e2
                    exact HLE.out
            | false =>
              have HE : Hid (Value.int .i64 (faultK l[k].1.data.toList) = .int .i64 3) := by unfold Hid faultK; rw [hke]; rfl
              clear hke
              go_wp2
              refine wp_region_on (by kernel_rfl) (by kernel_rfl) ?_
              repeat (go_big_quiet_step ((first
                | (go_at_call 17; exact on_call (call_val (keyFault_on l[k].1 _ (by omega)) HE.out)))))
              refine wpQuiet_nil ?_
              intro w3 hw3
              replace hw3 := on_end hw3
              have HB3 := hide (below_on HB.out (Nat.le_refl _) hw3)
              go_wp2
              go_ret
              exact ⟨_, rfl, by simp, HB3.out⟩
          · have h40' : (40 : Int) < (l[k].2.size : Int) := by omega
            have d40 : decide ((40 : Int) < (l[k].2.size : Int)) = true := by simpa using h40'
            go_wp2
            refine wp_region_on (by kernel_rfl) (by kernel_rfl) ?_
            repeat (go_big_quiet_step (fail))
            refine wpQuiet_nil ?_
            intro w3 hw3
            replace hw3 := on_end hw3
            have HB3 := hide (below_on HB.out (Nat.le_refl _) hw3)
            go_wp2
            go_ret
            exact ⟨_, rfl, by simp, HB3.out⟩
        · have h60' : (60 : Int) < (l[k].1.size : Int) := by omega
          have d60 : decide ((60 : Int) < (l[k].1.size : Int)) = true := by simpa using h60'
          go_wp2
          refine wp_region_on (by kernel_rfl) (by kernel_rfl) ?_
          repeat (go_big_quiet_step (fail))
          refine wpQuiet_nil ?_
          intro w3 hw3
          replace hw3 := on_end hw3
          have HB3 := hide (below_on HB.out (Nat.le_refl _) hw3)
          go_wp2
          go_ret
          exact ⟨_, rfl, by simp, HB3.out⟩
      · have ek : k = l.length := by omega
        subst ek
        have hlt' : ¬ (l.length : Int) < (l.length : Int) := by omega
        go_wp2
        go_ret
        exact ⟨_, rfl, fun _ => ⟨⟨h50, fun r hr => by obtain ⟨j, hj, rfl⟩ := List.getElem_of_mem hr; exact (HZ.out j hj hj).1⟩, fun j hj i hi e => (HZ.out j hj hj).2.2 i hi e, fun r hr => by obtain ⟨j, hj, rfl⟩ := List.getElem_of_mem hr; exact (HZ.out j hj hj).2.1⟩, hB⟩
  · have h50' : (50 : Int) < (l.length : Int) := by omega
    go_enter Tryz.func6, Tryz.ntmps6
    go_wp2
    go_ret
    exact ⟨_, rfl, by simp, Below.refl _ _⟩
set_option maxHeartbeats 1000000 in
theorem lawRows_nil (ao : Option Addr) (cap : Nat) (w : World) : Calls Tryz.prog 6 #[.slice ao 0 cap] w fun e w' => goodV3 [] w e w' := by
  go_enter Tryz.func6, Tryz.ntmps6
  go_wp2
  go_loopw [3] (fun i wr => i = .int .i64 0 ∧ wr = w) (fun _ _ => 0)
  case atStart => exact ⟨rfl, rfl⟩
  case round =>
    obtain ⟨rfl, rfl⟩ := hrel
    go_wp2
    go_ret
    exact ⟨_, rfl, fun _ => ⟨⟨by simp, by simp⟩, fun j hj => by simp at hj, by simp⟩, Below.refl _ _⟩
theorem lawRows_full (l : List (ByteArray × ByteArray)) (ao : Option Addr) (cap : Nat) (w : World) (hl : heldSp w ao l) :
    Calls Tryz.prog 6 #[.slice ao l.length cap] w fun e w' => goodV3 l w e w' := by
  rcases hl with rfl | ⟨b, off, rfl, h⟩
  · exact lawRows_nil _ _ _
  · exact lawRows_some l b off cap w h
theorem lawRows_any (l : List (ByteArray × ByteArray)) (ao : Option Addr) (cap : Nat) (w : World) (hl : heldSp w ao l) :
    Calls Tryz.prog 6 #[.slice ao l.length cap] w fun e w' => goodV2 l w e w' :=
  (lawRows_full l ao cap w hl).mono fun _ _ ⟨v, he, hg, hb⟩ => ⟨v, he, fun h => ⟨(hg h).1, (hg h).2.1⟩, hb⟩
end Go.Proofs.YtighpalbodhfeaaGreatDoor

/-
  Rows each above the one ahead of it rise.
-/
namespace Go.Proofs.YtighpalbodhfeaaGreatDoor
open Go.RowKit Go.Joins

theorem riseA_pair {l : List (ByteArray × ByteArray)} (h : riseA l) : riseP l := by
  show l.Pairwise _
  rw [List.pairwise_iff_getElem]
  have step : ∀ d i (hi : i < l.length) (hj : i + d + 1 < l.length), ltS l[i].1 l[i + d + 1].1 = true := by
    intro d
    induction d with
    | zero =>
      intro i hi hj
      have := h (i + 1) hj i hi rfl
      rw [leS_not] at this
      simpa using this
    | succ d ih =>
      intro i hi hj
      have h1 := ih i hi (by omega)
      have h2 := h (i + d + 1 + 1) (by omega) (i + d + 1) (by omega) rfl
      rw [leS_not] at h2
      have h3 : ltS l[i + d + 1].1 l[i + d + 1 + 1].1 = true := by simpa using h2
      exact ltS_trans h1 h3
  intro i j hi hj hij
  have := step (j - i - 1) i hi (by omega)
  have e : i + (j - i - 1) + 1 = j := by omega
  simp only [e] at this
  exact this
end Go.Proofs.YtighpalbodhfeaaGreatDoor
