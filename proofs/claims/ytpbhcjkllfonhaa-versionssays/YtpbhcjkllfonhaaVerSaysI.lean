/-
  What holds from round to round of haywainlaw.VersionsSays: the store, the past as it lies, and what the one says of the other.
-/
import Derived.Test.YtpbhcjkllfonhaaVerSaysL
import Derived.Test.YtpbhcjkllfonhaaRefAppP
import Derived.Test.YtpbhcjkllfonhaaVerVac3
import Derived.Test.YtpbhcjkllfonhaaScanL
namespace Go.Proofs.Ytpbhcjkllfonhaa
open Go.RowKit Go.Joins

/-- rows as a slice of them lies -/
structure Pr where
  ao : Option Addr
  cap : Nat
  l : List (ByteArray × ByteArray)
def cellR (p : Pr) : List Value := [.slice p.ao p.l.length p.cap]
theorem cellR_len (p : Pr) : (cellR p).length = 1 := rfl
theorem rows_info : (Try.prog.info? 22).map (fun i => (i.zero, i.size, i.bytes)) = some (some (.slice none 0 0), 1, 24) := by kernel_rfl
def ownR (w : World) (B : Nat) (v : Value) (Ps : List Pr) : Prop := w.ownsRow B 22 1 v Ps.length (Ps.flatMap cellR)
structure PrAt (wr : World) (vb mb : Nat) (g : ByteArray → Value) (i : Nat) (p : Pr) : Prop where
  held : heldSp wr p.ao p.l
  nil : p.ao = none → p.cap = 0 ∧ p.l = []
  far : p.l ≠ [] → ∀ b off, p.ao = some ⟨b, off, none⟩ → ¬ inVS vb mb g b
  rise : riseP p.l
  keys : ∀ r ∈ p.l, r.1.size ≤ 1000
  len : p.l.length ≤ 50 + 20 * i
structure Mid (w wr : World) (B vb mb i : Nat) (g : ByteArray → Value) (pv : Value) (Ps : List Pr) : Prop where
  own : ownR wr B pv Ps
  ofar : ∀ k, pv.ownBlock = some k → ¬ inVS vb mb g k
  prs : ∀ p ∈ Ps, PrAt wr vb mb g i p
  poff : ∀ q ∈ Ps, q.l ≠ [] → ∀ b off, q.ao = some ⟨b, off, none⟩ → pv.ownBlock ≠ some b
  bel : Below w.heap.size w wr
  lo : w.heap.size ≤ B
  hi : B ≤ wr.heap.size
/-- the store is written -/
theorem VS_low {w : World} {B vb mb n : Nat} {now : Int} {D : DataW Value} {g : ByteArray → Value} {R : ByteArray → List Ver} (h : VS w B vb mb now n D g R) {k : Nat} (hk : inVS vb mb g k) : B ≤ k := by
  rcases hk with rfl | rfl | ⟨key, e⟩
  · exact h.lov
  · exact h.lom
  · exact (World.ownsRow.lt (h.rows key) k e).1
theorem held_lt {w : World} {ao : Option Addr} {l : List (ByteArray × ByteArray)} (h : heldSp w ao l) (hne : l ≠ []) {b off : Nat} (e : ao = some ⟨b, off, none⟩) : b < w.heap.size := by
  rcases h with e' | ⟨b', off', e', hs⟩
  · exact absurd e' hne
  · rw [e] at e'
    cases e'
    exact World.block_lt_of_cell? _ _ (hs 0 (List.length_pos_iff.2 hne)).1
theorem Mid.far {w wr w' : World} {B vb mb i : Nat} {g g' : ByteArray → Value} {pv : Value} {Ps : List Pr} (h : Mid w wr B vb mb i g pv Ps) (hb : Below B wr w') (hf : ∀ j, j < wr.heap.size → ¬ inVS vb mb g j → w'.heap[j]? = wr.heap[j]? ∧ ¬ inVS vb mb g' j) : Mid w w' B vb mb i g' pv Ps where
  own := own_block h.own fun k e => (hf k (World.ownsRow.lt h.own k e).2 (h.ofar k e)).1
  ofar := fun k e => (hf k (World.ownsRow.lt h.own k e).2 (h.ofar k e)).2
  prs := fun p hp =>
    have q := h.prs p hp
    have lt : ∀ b off, p.l ≠ [] → p.ao = some ⟨b, off, none⟩ → b < wr.heap.size := fun b off hne e => by
      rcases q.held with e' | ⟨b', off', e', hs⟩
      · exact absurd e' hne
      · rw [e] at e'
        cases e'
        exact World.block_lt_of_cell? _ _ (hs 0 (List.length_pos_iff.2 hne)).1
    { held := by
        rcases q.held with e | ⟨b, off, e, hs⟩
        · exact .inl e
        · by_cases hne : p.l = []
          · exact .inl hne
          · exact heldSp_block q.held fun b' off' e' hlt => (hf b' hlt (q.far hne b' off' e')).1
      nil := q.nil
      far := fun hne b off e => (hf b (lt b off hne e) (q.far hne b off e)).2
      rise := q.rise
      keys := q.keys
      len := q.len }
  poff := h.poff
  bel := h.bel.trans (hb.mono h.lo)
  lo := h.lo
  hi := Nat.le_trans h.hi hb.size
theorem Mid.on {w wr w' : World} {B vb mb i : Nat} {g : ByteArray → Value} {pv : Value} {Ps : List Pr} (h : Mid w wr B vb mb i g pv Ps) (hb : Below wr.heap.size wr w') : Mid w w' B vb mb i g pv Ps :=
  h.far (hb.mono h.hi) fun j hj hn => ⟨hb.block j hj, hn⟩
theorem Mid.step {w wr : World} {B vb mb i : Nat} {g : ByteArray → Value} {pv : Value} {Ps : List Pr} (h : Mid w wr B vb mb i g pv Ps) : Mid w wr B vb mb (i + 1) g pv Ps :=
  { h with prs := fun p hp => { h.prs p hp with len := by have := (h.prs p hp).len; omega } }
theorem Mid.cell {w wr : World} {B vb mb i pg pc : Nat} {g : ByteArray → Value} {Ps : List Pr} (h : Mid w wr B vb mb i g (.slice (some ⟨pg, 0, none⟩) Ps.length pc) Ps) (j : Nat) (hj : j < Ps.length) : wr.cell? ⟨pg, j, none⟩ = some (.slice Ps[j].ao Ps[j].l.length Ps[j].cap) := by
  have := (own_get cellR_len h.own j 0 hj (by omega)).1
  simpa [cellR] using this
/-- what the store says of the past -/
structure Said (Ps : List Pr) (R : ByteArray → List Ver) (fr i n : Nat) : Prop where
  pos : 0 < Ps.length
  cnt : Ps.length ≤ i + 1
  say : ∀ m (h : m < Ps.length), fr ≤ m → sayR R (m : Int) Ps[m].l
  up : upToR R ((Ps.length - 1 : Nat) : Int)
  fro : fr < Ps.length
  nb : n ≤ 50 + 2000 * i
  rl : ∀ key, (R key).length ≤ 50 + 20 * i
  ks : ∃ KS : List ByteArray, KS.length ≤ 50 + 20 * i ∧ ∀ key, R key ≠ [] → key ∈ KS
theorem Said.step {Ps : List Pr} {R : ByteArray → List Ver} {fr i n : Nat} (h : Said Ps R fr i n) : Said Ps R fr (i + 1) n :=
  { h with
    cnt := by have := h.cnt; omega
    nb := by have := h.nb; omega
    rl := fun key => by have := h.rl key; omega
    ks := by obtain ⟨KS, h1, h2⟩ := h.ks; exact ⟨KS, by omega, h2⟩ }
/-- a number behind the last one reads as the last one -/
theorem behind_late {R : ByteArray → List Ver} {a n : Int} (hu : upToR R a) (han : a ≤ n) (key : ByteArray) : behindV (R key) n = behindV (R key) a := by
  have : lastV (R key) n = lastV (R key) a := by
    unfold lastV
    have hp : ∀ x ∈ (R key).reverse, decide (x.deed ≤ n) = decide (x.deed ≤ a) := fun x hx => by
      have := hu key x (List.mem_reverse.1 hx)
      rw [decide_eq_true this, decide_eq_true (Int.le_trans this han)]
    generalize (R key).reverse = l at hp
    induction l with
    | nil => rfl
    | cons x l ih =>
      rw [List.find?_cons, List.find?_cons, hp x (by simp), ih fun y hy => hp y (List.mem_cons_of_mem _ hy)]
  unfold behindV
  rw [this]
theorem say_late {R : ByteArray → List Ver} {a n : Int} {P : List (ByteArray × ByteArray)} (hu : upToR R a) (han : a ≤ n) (h : sayR R a P) : sayR R n P := fun key => by
  rw [behind_late hu han]
  exact h key
theorem Said.commit {Ps : List Pr} {R : ByteArray → List Ver} {fr i n : Nat} (h : Said Ps R fr i n) {cs : List Chg} (hc : cs.length ≤ 20) {p : Pr} (hrise : riseP (Ps[Ps.length - 1]'(by have := h.pos; omega)).l) (hp : p.l = appliedA (Ps[Ps.length - 1]'(by have := h.pos; omega)).l cs) : Said (Ps ++ [p]) (applyR R (((Ps.length - 1 : Nat) : Int) + 1) cs) fr (i + 1) (n + cs.length) := by
  have hpos := h.pos
  have e1 : ((Ps.length - 1 : Nat) : Int) + 1 = (Ps.length : Int) := by omega
  rw [e1]
  refine ⟨by simp, by have := h.cnt; simp; omega, fun m hm hf => ?_, ?_, by have := h.fro; simp; omega, by have := h.nb; omega, fun key => by have a := applyR_len (Ps.length : Int) key cs R; have b := h.rl key; omega, ?_⟩
  · rw [List.length_append, List.length_singleton] at hm
    by_cases hlt : m < Ps.length
    · rw [List.getElem_append_left hlt]
      intro key
      rw [behind_apply (by omega)]
      exact h.say m hlt hf key
    · have em : m = Ps.length := by omega
      subst em
      rw [List.getElem_append_right (Nat.le_refl _)]
      simp only [Nat.sub_self, List.getElem_cons_zero]
      rw [hp]
      refine say_apply (Int.le_refl _) hrise ?_ cs
      exact say_late h.up (by omega) (h.say _ (by omega) (by have := h.fro; omega))
  · rw [List.length_append, List.length_singleton, Nat.add_sub_cancel]
    exact upTo_apply (upTo_mono h.up (by omega)) cs
  · obtain ⟨KS, h1, h2⟩ := h.ks
    refine ⟨KS ++ cs.map (·.key), by simp; omega, fun key hne => ?_⟩
    rcases applyR_keys _ key cs _ hne with h' | h'
    · exact List.mem_append_left _ (h2 key h')
    · exact List.mem_append_right _ h'
theorem nodup_le : ∀ {K KS : List ByteArray}, K.Nodup → (∀ k ∈ K, k ∈ KS) → K.length ≤ KS.length
  | [], _, _, _ => Nat.zero_le _
  | k :: K, KS, h, hs => by
    rw [List.nodup_cons] at h
    have h1 : (KS.filter fun x => !eqS x k).length < KS.length := by
      rw [List.length_filter_lt_length_iff_exists]
      exact ⟨k, hs k (by simp), by simp [eqS_yes]⟩
    have h2 := nodup_le (KS := KS.filter fun x => !eqS x k) h.2 fun x hx => by
      rw [List.mem_filter]
      exact ⟨hs x (by simp [hx]), by simp [eqS_no (show x ≠ k from fun e => h.1 (by rw [← e]; exact hx))]⟩
    rw [List.length_cons]
    omega
theorem Said.vac {Ps : List Pr} {R : ByteArray → List Ver} {fr i n n' : Nat} (h : Said Ps R fr i n) {a : Int} {K : List ByteArray} (hK : keysV R K) (hn : n' ≤ n + K.length) (hi : i ≤ 40) {fr' : Nat} (hfr : fr ≤ fr') (ha : a ≤ (fr' : Int) ∨ Ps.length ≤ fr' + 1) (hl : fr' < Ps.length) : Said Ps (vacR R a K) fr' (i + 1) n' := by
  obtain ⟨KS, h1, h2⟩ := h.ks
  have hk := nodup_le hK.1 fun k hk => h2 k ((hK.2 k).1 hk).2
  refine ⟨h.pos, by have := h.cnt; omega, fun m hm hf key => ?_, upTo_vac h.up K, hl, by have := h.nb; omega, fun key => by have a := vac_len R a K key; have b := h.rl key; omega, KS, by omega, fun key hne => h2 key (vac_mem hne)⟩
  by_cases ham : a ≤ (m : Int)
  · rw [behind_vac K ham]
    exact h.say m hm (by omega) key
  · have em : m = Ps.length - 1 := by omega
    have hu : upToR R (m : Int) := by rw [em]; exact h.up
    rw [← behind_late (upTo_vac hu K) (show (m : Int) ≤ a by omega), behind_vac K (Int.le_refl _), behind_late hu (by omega)]
    exact h.say m hm (by omega) key
theorem apply1_mem {l : List (ByteArray × ByteArray)} (hl : riseP l) {c : Chg} {r : ByteArray × ByteArray} (h : r ∈ apply1 l c) : r ∈ l ∨ r.1 = c.key := by
  cases hg : c.gone with
  | true => rw [apply1_gone hg] at h; exact .inl (List.mem_filter.1 h).1
  | false =>
    rw [apply1_put hl hg] at h
    rcases List.mem_append.1 h with h | h
    · exact .inl (List.mem_filter.1 h).1
    · rcases List.mem_cons.1 h with h | h
      · exact .inr (by rw [h])
      · exact .inl (List.mem_filter.1 h).1
theorem applied_keys {m : Nat} : ∀ (cs : List Chg) {l : List (ByteArray × ByteArray)}, riseP l → (∀ r ∈ l, r.1.size ≤ m) → (∀ c ∈ cs, c.key.size ≤ m) → ∀ r ∈ appliedA l cs, r.1.size ≤ m
  | [], _, _, hk, _ => hk
  | c :: cs, l, hl, hk, hc => applied_keys cs (l := apply1 l c) (apply1_rise hl c) (fun r hr => by
      rcases apply1_mem hl hr with h | h
      · exact hk r h
      · rw [h]; exact hc c (by simp)) (fun c' h => hc c' (by simp [h]))
/-- rows are laid to the past -/
theorem Mid.push {w wr w3 : World} {B vb mb i gk ck : Nat} {g : ByteArray → Value} {pv : Value} {Ps : List Pr} (h : Mid w wr B vb mb i g pv Ps) (hb : Below B wr w3) (hlt : ∀ k, inVS vb mb g k → k < wr.heap.size) (hg : wr.grownBy w3 pv.ownBlock) (hat : pv.ownBlock = some gk ∨ wr.heap.size ≤ gk) {p : Pr} (ho : w3.ownsRow B 22 1 (.slice (some ⟨gk, 0, none⟩) (Ps.length + 1) ck) (Ps.length + 1) (Ps.flatMap cellR ++ cellR p))
    (hp : PrAt wr vb mb g i p) (hpo : p.l ≠ [] → ∀ b off, p.ao = some ⟨b, off, none⟩ → pv.ownBlock ≠ some b) : Mid w w3 B vb mb i g (.slice (some ⟨gk, 0, none⟩) (Ps.length + 1) ck) (Ps ++ [p]) where
  own := by
    unfold ownR
    rw [List.length_append, List.flatMap_append]
    simpa using ho
  ofar := fun k e hin => by
    have e' : gk = k := by simpa [Value.ownBlock] using e
    subst e'
    rcases hat with h' | h'
    · exact h.ofar _ h' hin
    · have := hlt _ hin; omega
  prs := fun q hq => by
    have hq' : PrAt wr vb mb g i q := by
      rcases List.mem_append.1 hq with h' | h'
      · exact h.prs q h'
      · rw [List.mem_singleton.1 h']; exact hp
    refine { hq' with held := ?_ }
    by_cases hne : q.l = []
    · exact .inl hne
    · refine heldSp_block hq'.held fun b off e hl => hg.block b hl fun e' => ?_
      rcases List.mem_append.1 hq with h' | h'
      · exact h.poff q h' hne b off e e'.symm
      · rw [List.mem_singleton.1 h'] at hne e
        exact hpo hne b off e e'.symm
  poff := fun q hq hne b off e e' => by
    have e2 : gk = b := by simpa [Value.ownBlock] using e'
    subst e2
    have hq' : PrAt wr vb mb g i q := by
      rcases List.mem_append.1 hq with h' | h'
      · exact h.prs q h'
      · rw [List.mem_singleton.1 h']; exact hp
    have hl := held_lt hq'.held hne e
    rcases hat with ha | ha
    · rcases List.mem_append.1 hq with h' | h'
      · exact h.poff q h' hne gk off e ha
      · rw [List.mem_singleton.1 h'] at hne e
        exact hpo hne gk off e ha
    · omega
  bel := h.bel.trans (hb.mono h.lo)
  lo := h.lo
  hi := Nat.le_trans h.hi hb.size
/-- the rows of the next number, laid to the past -/
theorem Mid.next {w w8 w9 w10 : World} {B vb mb i gk ck n : Nat} {now : Int} {D : DataW Value} {g : ByteArray → Value} {R : ByteArray → List Ver} {pg pc : Nat} {Ps : List Pr} {P : Pr} {cs : List Chg} {na : Option Addr} {nc : Nat} {o : Obj}
    (h : Mid w w8 B vb mb i g (.slice (some ⟨pg, 0, none⟩) Ps.length pc) Ps) (hv : VS w8 B vb mb now n D g R) (hP : PrAt w8 vb mb g i P) (hb9 : Below w8.heap.size w8 w9) (ho9 : ownP w9 w8.heap.size (.slice na (appliedA P.l cs).length nc) (appliedA P.l cs)) (hc : cs.length ≤ 20) (hck : ∀ c ∈ cs, c.key.size ≤ 1000)
    (hg : (w9.alloc o).grownBy w10 (Value.slice (some ⟨pg, 0, none⟩) Ps.length pc).ownBlock) (hat : (Value.slice (some ⟨pg, 0, none⟩) Ps.length pc).ownBlock = some gk ∨ gk = w9.heap.size + 1)
    (ho : w10.ownsRow B 22 1 (.slice (some ⟨gk, 0, none⟩) (Ps.length + 1) ck) (Ps.length + 1) (Ps.flatMap cellR ++ [.slice na (appliedA P.l cs).length nc])) :
    Mid w w10 B vb mb (i + 1) g (.slice (some ⟨gk, 0, none⟩) (Ps.length + 1) ck) (Ps ++ [⟨na, nc, appliedA P.l cs⟩]) ∧ VS w10 B vb mb now n D g R := by
  have hbA := below_alloc1 w9 o
  have hM := ((h.on hb9).on hbA).step
  have hV := (hv.on hb9).on hbA
  have hl := appliedA_len cs P.l
  have hs9 := hb9.size
  have hpl := hP.len
  have hlow : ∀ b off, (appliedA P.l cs) ≠ [] → na = some ⟨b, off, none⟩ → w8.heap.size ≤ b := fun b off hne e => by
    rcases own_form ho9 with ⟨_, h0⟩ | ⟨g', c', hv', hlo, _⟩
    · exact absurd (List.length_eq_zero_iff.1 h0) hne
    · rw [e] at hv'
      cases hv'
      exact hlo
  refine ⟨hM.push ((Below.refl B _).grown hg hM.hi (fun k hk => (World.ownsRow.lt hM.own k hk).1)) (fun k hk => hV.lt hk) hg (hat.imp id fun e => by rw [e]; simp) (p := ⟨na, nc, appliedA P.l cs⟩) ho ?_ ?_, ?_⟩
  · refine ⟨?_, ?_, ?_, applied_rise hP.rise cs, applied_keys cs hP.rise hP.keys hck, ?_⟩
    · obtain ⟨na', nc', e, hh⟩ := ownP_held ho9
      cases e
      exact heldSp_on hbA hh
    · intro e
      rcases own_form ho9 with ⟨hv', h0⟩ | ⟨g', c', hv', _⟩
      · simp only [Value.slice.injEq] at hv'
        exact ⟨hv'.2.2, List.length_eq_zero_iff.1 h0⟩
      · change na = none at e
        rw [e] at hv'
        cases hv'
    · intro hne b off e hin
      have a := hlow b off hne e
      have c := hv.lt hin
      omega
    · show (appliedA P.l cs).length ≤ _
      omega
  · intro hne b off e e'
    have a := hlow b off hne e
    have c := (World.ownsRow.lt h.own _ e').2
    omega
  · exact hV.kept fun k hk => hg.block k (hV.lt hk) fun e => hM.ofar k e.symm hk
end Go.Proofs.Ytpbhcjkllfonhaa
