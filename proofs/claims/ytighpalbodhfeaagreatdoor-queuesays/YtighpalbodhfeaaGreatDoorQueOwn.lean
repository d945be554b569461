/-
  An act on a view under way, with blocks of its own.
-/
import Derived.Test.YtighpalbodhfeaaGreatDoorQueAdd
import Derived.Test.YtighpalbodhfeaaGreatDoorQueTakeL
import Derived.Deep.LoopGhost
namespace Go.Proofs.YtighpalbodhfeaaGreatDoor
open Go.RowKit Go.Joins Go.Shelf

structure OwnQ (w W : World) (B wb : Nat) (O S S' : Nat → Prop) (P : Rws) (since : Int) (chs : List Chg) (rds : Rws) : Prop where
  qv : QV W B wb S' P since chs rds
  st : StepV w W B S S'
  ow : ∀ b, O b → ¬ S' b ∧ w.heap.size ≤ b ∧ b < W.heap.size ∧ ∀ j, W.frozen? ⟨b, j, none⟩ = false
section
variable {w w1 w2 : World} {B wb : Nat} {O O' S S' S2 : Nat → Prop} {P : Rws} {since : Int} {chs chs' : List Chg} {rds rds' : Rws}
theorem OwnQ.start (h : QV w B wb S P since chs rds) : OwnQ w w B wb (fun _ => False) S S P since chs rds := ⟨h, .refl h.pv.lo, fun _ h => h.elim⟩
theorem OwnQ.on (h : OwnQ w w1 B wb O S S' P since chs rds) (hb : Below w1.heap.size w1 w2) : OwnQ w w2 B wb O S S' P since chs rds :=
  ⟨h.qv.on hb, h.st.trans (.on h.qv.pv.lo hb), fun b ho => by
    obtain ⟨a, b1, c, d⟩ := h.ow b ho
    exact ⟨a, b1, Nat.lt_of_lt_of_le c hb.size, fun j => frozen_on hb c (d j)⟩⟩
theorem OwnQ.box (h : OwnQ w w1 B wb O S S' P since chs rds) (vs : Array Value) (t : TypeId) : OwnQ w (w1.alloc (.cells vs t)) B wb (fun b => b = w1.heap.size ∨ O b) S S' P since chs rds := by
  have hb := below_alloc1 w1 (.cells vs t)
  have h1 := h.on hb
  refine ⟨h1.qv, h1.st, fun b ho => ?_⟩
  rcases ho with rfl | ho
  · refine ⟨fun e => by have := h.qv.pv.lt e; omega, ?_, by simp, fun j => frozen_new _ _ _ j⟩
    have := h.st.bel.size
    exact this
  · exact h1.ow b ho
theorem OwnQ.keep (h : OwnQ w w1 B wb O S S' P since chs rds) (hq : QV w2 B wb S2 P since chs' rds') (hs : StepV w1 w2 B S' S2) : OwnQ w w2 B wb O S S2 P since chs' rds' ∧ ∀ b, O b → w2.heap[b]? = w1.heap[b]? :=
  ⟨⟨hq, h.st.trans hs, fun b ho => by
    obtain ⟨a, b1, c, d⟩ := h.ow b ho
    obtain ⟨e, n⟩ := hs.far b c a
    exact ⟨n, b1, Nat.lt_of_lt_of_le c hs.bel.size, fun j => (World.frozen?_of_block (w := w1) e).trans (d j)⟩⟩, fun b ho => by
    obtain ⟨a, b1, c, d⟩ := h.ow b ho
    exact (hs.far b c a).1⟩
theorem OwnQ.act (h : OwnQ w w1 B wb O S S' P since chs rds) (ha : ActQ w1 w2 B wb S' P since chs' rds') : ∃ S2, OwnQ w w2 B wb O S S2 P since chs' rds' ∧ ∀ b, O b → w2.heap[b]? = w1.heap[b]? := by
  obtain ⟨S2, hq, hs⟩ := ha
  exact ⟨S2, h.keep hq hs⟩
theorem OwnQ.set (h : OwnQ w w1 B wb O S S' P since chs rds) (hB : B ≤ w.heap.size) {b : Nat} (ho : O b) (j : Nat) (v : Value) : OwnQ w (w1.setCell ⟨b, j, none⟩ v) B wb O S S' P since chs rds := by
  have hs : ∀ k, k ≠ b → (w1.setCell ⟨b, j, none⟩ v).heap[k]? = w1.heap[k]? := fun k hk => Below.heap_setCell _ _ _ _ hk
  obtain ⟨a, b1, c, d⟩ := h.ow b ho
  refine ⟨⟨h.qv.pv.kept (by simp) fun k hk => hs k fun e => a (e ▸ hk), h.qv.ok, fun W hW => h.qv.la W (((Below.refl B w1).setCell (p := ⟨b, j, none⟩) (by show B ≤ b; omega) v).trans hW)⟩, ⟨h.st.bel.setCell (p := ⟨b, j, none⟩) (by show B ≤ b; omega) v, fun k hk hn => ?_⟩, fun b' ho' => ?_⟩
  · obtain ⟨x, y⟩ := h.st.far k hk hn
    exact ⟨(hs k (by omega)).trans x, y⟩
  · obtain ⟨a', b1', c', d'⟩ := h.ow b' ho'
    exact ⟨a', b1', by simpa using c', fun k => by rw [World.frozen?_setCell]; exact d' k⟩
theorem OwnQ.less (h : OwnQ w w1 B wb O S S' P since chs rds) (hs : ∀ b, O' b → O b) : OwnQ w w1 B wb O' S S' P since chs rds := ⟨h.qv, h.st, fun b hb => h.ow b (hs b hb)⟩
theorem OwnQ.done (h : OwnQ w w1 B wb O S S' P since chs rds) : ActQ w w1 B wb S P since chs rds := ⟨S', h.qv, h.st⟩
end
end Go.Proofs.YtighpalbodhfeaaGreatDoor

/-
  What queue.takeUp returns, of every view.
-/
namespace Go.Proofs.YtighpalbodhfeaaGreatDoor
open Go.RowKit Go.Joins Go.Shelf
attribute [local go_sem ↓] Go.wp_at_zero Go.wp_at_succ

theorem seenP_has {P : Rws} {chs : List Chg} {s r : ByteArray × ByteArray} (hp : riseP P) (h : r ∈ seenP P chs s) : hasS s.1 s.2 r.1 = true := by
  unfold seenP at h
  rw [seen_in chs hp s] at h
  exact (List.mem_filter.1 h).2
/-- the variables of takeUp -/
structure TakeC (W : World) (b0 b1 b2 : Nat) (qx tries : Int) (dead at_ to_ : ByteArray) : Prop where
  q0 : W.cell? ⟨b0, 0, none⟩ = some (.int .i64 qx)
  q1 : W.cell? ⟨b0, 1, none⟩ = some (.int .i64 tries)
  q2 : W.cell? ⟨b0, 2, none⟩ = some (.string dead)
  r0 : W.cell? ⟨b1, 0, none⟩ = some (.int .i64 0)
  r1 : W.cell? ⟨b1, 1, none⟩ = some (.int .i64 0)
  r2 : W.cell? ⟨b1, 2, none⟩ = some (.int .i64 0)
  r3 : W.cell? ⟨b1, 3, none⟩ = some (.string ⟨#[]⟩)
  s0 : W.cell? ⟨b2, 0, none⟩ = some (.string at_)
  s1 : W.cell? ⟨b2, 1, none⟩ = some (.string to_)
theorem TakeC.keep {W W' : World} {b0 b1 b2 : Nat} {qx tries : Int} {dead at_ to_ : ByteArray} (h : TakeC W b0 b1 b2 qx tries dead at_ to_) (hk : ∀ b, (b = b0 ∨ b = b1 ∨ b = b2) → W'.heap[b]? = W.heap[b]?) : TakeC W' b0 b1 b2 qx tries dead at_ to_ :=
  have k0 : W'.heap[b0]? = W.heap[b0]? := hk b0 (.inl rfl)
  have k1 : W'.heap[b1]? = W.heap[b1]? := hk b1 (.inr (.inl rfl))
  have k2 : W'.heap[b2]? = W.heap[b2]? := hk b2 (.inr (.inr rfl))
  ⟨(World.cell?_of_block k0).trans h.q0, (World.cell?_of_block k0).trans h.q1, (World.cell?_of_block k0).trans h.q2, (World.cell?_of_block k1).trans h.r0, (World.cell?_of_block k1).trans h.r1, (World.cell?_of_block k1).trans h.r2, (World.cell?_of_block k1).trans h.r3, (World.cell?_of_block k2).trans h.s0, (World.cell?_of_block k2).trans h.s1⟩
theorem TakeC.on {W W' : World} {b0 b1 b2 : Nat} {qx tries : Int} {dead at_ to_ : ByteArray} (h : TakeC W b0 b1 b2 qx tries dead at_ to_) (hb : Below W.heap.size W W') : TakeC W' b0 b1 b2 qx tries dead at_ to_ :=
  ⟨cell_on hb h.q0, cell_on hb h.q1, cell_on hb h.q2, cell_on hb h.r0, cell_on hb h.r1, cell_on hb h.r2, cell_on hb h.r3, cell_on hb h.s0, cell_on hb h.s1⟩
theorem TakeC.next {W : World} {b0 b1 b2 : Nat} {qx tries : Int} {dead at_ to_ : ByteArray} (h : TakeC W b0 b1 b2 qx tries dead at_ to_) (h0 : b0 ≠ b2) (h1 : b1 ≠ b2) (v : ByteArray) : TakeC (W.setCell ⟨b2, 0, none⟩ (.string v)) b0 b1 b2 qx tries dead v to_ := by
  have far : ∀ (b j : Nat), b ≠ b2 → (W.setCell ⟨b2, 0, none⟩ (.string v)).cell? ⟨b, j, none⟩ = W.cell? ⟨b, j, none⟩ := fun b j hb => World.cell?_setCell_other _ _ _ _ (fun e => hb (congrArg Addr.block e).symm)
  exact ⟨(far _ _ h0).trans h.q0, (far _ _ h0).trans h.q1, (far _ _ h0).trans h.q2, (far _ _ h1).trans h.r0, (far _ _ h1).trans h.r1, (far _ _ h1).trans h.r2, (far _ _ h1).trans h.r3, World.cell?_setCell_same _ _ _ h.s0, (World.cell?_setCell_other _ _ _ _ (fun e => by cases e)).trans h.s1⟩
def TakeO (b0 b1 b2 : Nat) (b : Nat) : Prop := b = b0 ∨ b = b1 ∨ b = b2
def TakeI (w W : World) (B wb b0 b1 b2 : Nat) (S : Nat → Prop) (P : Rws) (since : Int) (name : ByteArray) (qx tries : Int) (dead : ByteArray) (now until_ : Int) (R : Msg × List Chg × Rws) (k : Nat) : Prop :=
  ∃ S' chs rds at_, OwnQ w W B wb (TakeO b0 b1 b2) S S' P since chs rds ∧ AtQ name k at_ ∧ takeQ P name tries dead now until_ k chs rds at_ = R ∧ TakeC W b0 b1 b2 qx tries dead at_ (toB name)
set_option maxHeartbeats 8000000 in
theorem qtake_any (name : ByteArray) (qx tries : Int) (dead : ByteArray) (now until_ : Int) {B wb : Nat} {S : Nat → Prop} {P : Rws} {since : Int} {chs : List Chg} {rds : Rws} (w : World) (h : QV w B wb S P since chs rds) (hn : nameL name.data.toList = true) (hd : dead.size ≤ 1000) (ht : tries ≤ 9) :
    Calls Tryz.prog 52 #[.pointer (some ⟨wb, 0, none⟩), .string name, .agg #[.int .i64 qx, .int .i64 tries, .string dead], .int .i64 now, .int .i64 until_] w fun e w' => e = .returned (.tuple #[mV (takeQ P name tries dead now until_ 1000001 chs rds (fromB name)).1, errV (takeQ P name tries dead now until_ 1000001 chs rds (fromB name)).1.2.2.2.2]) ∧ ActQ w w' B wb S P since (takeQ P name tries dead now until_ 1000001 chs rds (fromB name)).2.1 (takeQ P name tries dead now until_ 1000001 chs rds (fromB name)).2.2 := by
  have n1 := err_neq_nil 108
  have hns := name_size hn
  have HLO := hide h.pv.lo
  have HN := hide hn
  have HOa := hide ((OwnQ.start h).box #[Value.int .i64 qx, Value.int .i64 tries, Value.string dead] 76)
  have HOb := hide (HOa.out.box #[Value.int .i64 0, Value.int .i64 0, Value.int .i64 0, Value.string ⟨#[]⟩] 48)
  have hb2 := below_alloc1 (w.alloc (Obj.cells #[Value.int .i64 qx, Value.int .i64 tries, Value.string dead] 76)) (Obj.cells #[Value.int .i64 0, Value.int .i64 0, Value.int .i64 0, Value.string ⟨#[]⟩] 48)
  have q0 := cell_on hb2 (cell_new w #[Value.int .i64 qx, Value.int .i64 tries, Value.string dead] 76 0)
  have q1 := cell_on hb2 (cell_new w #[Value.int .i64 qx, Value.int .i64 tries, Value.string dead] 76 1)
  have q2 := cell_on hb2 (cell_new w #[Value.int .i64 qx, Value.int .i64 tries, Value.string dead] 76 2)
  have r0 : ((w.alloc (Obj.cells #[Value.int .i64 qx, Value.int .i64 tries, Value.string dead] 76)).alloc (Obj.cells #[Value.int .i64 0, Value.int .i64 0, Value.int .i64 0, Value.string ⟨#[]⟩] 48)).cell? ⟨w.heap.size + 1, 0, none⟩ = some (.int .i64 0) := by simp
  have r1 : ((w.alloc (Obj.cells #[Value.int .i64 qx, Value.int .i64 tries, Value.string dead] 76)).alloc (Obj.cells #[Value.int .i64 0, Value.int .i64 0, Value.int .i64 0, Value.string ⟨#[]⟩] 48)).cell? ⟨w.heap.size + 1, 1, none⟩ = some (.int .i64 0) := by simp
  have r2 : ((w.alloc (Obj.cells #[Value.int .i64 qx, Value.int .i64 tries, Value.string dead] 76)).alloc (Obj.cells #[Value.int .i64 0, Value.int .i64 0, Value.int .i64 0, Value.string ⟨#[]⟩] 48)).cell? ⟨w.heap.size + 1, 2, none⟩ = some (.int .i64 0) := by simp
  have r3 : ((w.alloc (Obj.cells #[Value.int .i64 qx, Value.int .i64 tries, Value.string dead] 76)).alloc (Obj.cells #[Value.int .i64 0, Value.int .i64 0, Value.int .i64 0, Value.string ⟨#[]⟩] 48)).cell? ⟨w.heap.size + 1, 3, none⟩ = some (.string ⟨#[]⟩) := by simp
  have hz : (w.alloc (Obj.cells #[Value.int .i64 qx, Value.int .i64 tries, Value.string dead] 76)).heap.size = w.heap.size + 1 := by simp
  rw [hz] at HOb
  clear h hn HOa hb2 hz
  generalize hR0 : takeQ P name tries dead now until_ 1000001 chs rds (fromB name) = R
  have HR0 := hide hR0
  clear hR0
  go_enter Tryz.func52, Tryz.ntmps52
  go_wp2_with (first
    | (go_at_call 85; refine (messages_any name _ (by omega)).mono ?_; rintro e w1 ⟨rfl, hb1⟩; have HNE : Hid (w.heap.size ≠ w1.heap.size ∧ w.heap.size + 1 ≠ w1.heap.size) := hide (by have := hb1.size; simp at this; omega); have HO1 := hide ((HOb.out.on hb1).box #[Value.string (fromB name), Value.string (toB name)] 91); have hb3 := below_alloc1 w1 (Obj.cells #[Value.string (fromB name), Value.string (toB name)] 91); have HC := hide (TakeC.mk (cell_on hb3 (cell_on hb1 q0)) (cell_on hb3 (cell_on hb1 q1)) (cell_on hb3 (cell_on hb1 q2)) (cell_on hb3 (cell_on hb1 r0)) (cell_on hb3 (cell_on hb1 r1)) (cell_on hb3 (cell_on hb1 r2)) (cell_on hb3 (cell_on hb1 r3)) (cell_new w1 #[Value.string (fromB name), Value.string (toB name)] 91 0) (cell_new w1 #[Value.string (fromB name), Value.string (toB name)] 91 1)); clear q0 q1 q2 r0 r1 r2 r3 HOb hb1 hb3)
    | fail)
  have HI : Hid (TakeI w (w1.alloc (Obj.cells #[Value.string (fromB name), Value.string (toB name)] 91)) B wb w.heap.size (w.heap.size + 1) w1.heap.size S P since name qx tries dead now until_ R 1000001) := hide ⟨S, chs, rds, fromB name, HO1.out.less (fun b hb => by rcases hb with rfl | rfl | rfl; exact .inr (.inr (.inl rfl)); exact .inr (.inl rfl); exact .inl rfl), .inl ⟨rfl, Nat.le_refl _⟩, HR0.out, HC.out⟩
  clear HR0 HO1 HC
  generalize (w1.alloc (Obj.cells #[Value.string (fromB name), Value.string (toB name)] 91)) = W0 at *
  generalize w1.heap.size = b2 at *
  go_loopg [] 1000001 (fun k wr => TakeI w wr B wb w.heap.size (w.heap.size + 1) b2 S P since name qx tries dead now until_ R k)
  case atStart => exact HI.out
  case round =>
    clear HI
    obtain ⟨S', chs, rds, at_, ho, hat, hR, hC⟩ := hrel
    obtain ⟨k, rfl⟩ : ∃ k, gk = k + 1 := ⟨gk - 1, by have := hat.pos; omega⟩
    have HF := hide (qfirst_any (at_, toB name) wr ho.qv)
    have HK : Hid (firstF (seenP P chs (at_, toB name)) rds (at_, toB name) = 0 → ∃ n, n ≤ 999999 ∧ (firstR (seenP P chs (at_, toB name)) rds (at_, toB name)).1 = msgB name n ∧ AtQ name k (zeroS (firstR (seenP P chs (at_, toB name)) rds (at_, toB name)).1) ∧ (firstR (seenP P chs (at_, toB name)) rds (at_, toB name)).2.size ≤ 40) := hide (fun hf => by
      have hm := first_ok hf
      obtain ⟨h1, h2⟩ := seenQ_in ho.qv.ok (at_, toB name) _ hm
      obtain ⟨n, hn, e, ha⟩ := hat.next HN.out h1 (seenP_has ho.qv.pv.ok.rise hm)
      exact ⟨n, hn, e, ha, h2⟩)
    rw [takeQ] at hR
    dsimp only at hR HF
    generalize firstL (seenP P chs (at_, toB name)) rds (at_, toB name) = rds1 at *
    generalize firstF (seenP P chs (at_, toB name)) rds (at_, toB name) = f at *
    generalize firstR (seenP P chs (at_, toB name)) rds (at_, toB name) = r at *
    obtain ⟨rk, rv⟩ := r
    have HO := hide ho
    have HC := hide hC
    clear ho hat
    have c := hC
    obtain ⟨q0, q1, q2, r0, r1, r2, r3, s0, s1⟩ := hC
    by_cases hf : f = 0
    · subst hf
      rw [if_pos rfl] at hR
      obtain ⟨n, hn9, hrk, hat, hrv⟩ := HK.out rfl
      dsimp only at hrk hat hrv
      have HP : Hid (∀ W : World, (∀ W', Below W.heap.size W W' → Laid W') → Calls Tryz.prog 86 #[.agg #[.string rk, .string rv]] W fun e w' => e = .returned (.tuple #[mV (mOf rv n), errV (mOf rv n).2.2.2.2]) ∧ Below W.heap.size W w') := hide (by rw [hrk]; exact fun W hL => qparse_any name n rv W (by omega) hn9 (by omega) hL)
      have hnk : numK rk = n := by rw [hrk]; exact numK_msg name hn9
      have hrs : rk.size ≤ 1000 := by rw [hrk, msg_size]; omega
      rw [hnk] at hR
      have HMF : Hid ((mOf rv n).2.2.2.2 = 0 → (mOf rv n).1 = n ∧ 0 ≤ (mOf rv n).2.1 ∧ (mOf rv n).2.1 ≤ 9) := hide (fun he => by
        rcases mOf_cases rv n with ⟨t, u, d, e, hm, _⟩ | ⟨e, _⟩
        · rw [e]; exact ⟨rfl, Int.natCast_nonneg _, by have := hm.1; show (t : Int) ≤ 9; omega⟩
        · rw [e] at he; cases he)
      have HE1 := hide errV_zero
      have HAT := hide hat
      clear hnk hrk hat HK hrv
      generalize mOf rv n = m at *
      obtain ⟨mk, mt, mu, md, em⟩ := m
      dsimp only at hR HP HMF
      by_cases hem : em = 0
      · subst hem
        rw [if_pos rfl] at hR
        have HEM := hide errV_zero
        obtain ⟨hmk, hmt0, hmt9⟩ := HMF.out rfl
        generalize hn' : (n : Int) = nn at *
        subst hmk
        have hmk0 : 0 ≤ mk := by omega
        have hmk1 : mk ≤ 999999 := by omega
        clear hn'
        clear HMF
        by_cases hu : now < mu
        · rw [if_pos hu] at hR
          have HR := hide hR
          have d1 : decide (now < mu) = true := by simpa using hu
          clear hR hu
          go_wp2_with (fail)
          go_at_call 95
          refine HF.out.mono ?_
          rintro e w2 ⟨rfl, ha⟩
          obtain ⟨S2, ho2, kp⟩ := HO.out.act ha
          have hbR := below_alloc1 w2 (Obj.cells #[Value.string rk, Value.string rv] 55)
          have HC1 := hide (HC.out.keep kp)
          have HC2 := hide (HC1.out.on hbR)
          clear q0 q1 q2 r0 r1 r2 r3 s0 s1
          obtain ⟨q0, q1, q2, r0, r1, r2, r3, s0, s1⟩ := HC2.out
          have hlt2 := (ho2.ow b2 (.inr (.inr rfl))).2.2.1
          have hne : w2.heap.size ≠ b2 := by omega
          have fz2 := ((ho2.on hbR).ow b2 (.inr (.inr rfl))).2.2.2
          have hz2 : (w2.setCell ⟨b2, 0, none⟩ (.string (rk ++ ⟨#[0]⟩))).heap.size = w2.heap.size := by simp
          have HO3 := hide ((ho2.set HLO.out (b := b2) (.inr (.inr rfl)) 0 (.string (rk ++ ⟨#[0]⟩))).box #[Value.string rk, Value.string rv] 55)
          rw [hz2] at HO3
          have HC3 := hide ((HC1.out.next HNE.out.1 HNE.out.2 (rk ++ ⟨#[0]⟩)).on (below_alloc1 _ (Obj.cells #[Value.string rk, Value.string rv] 55)))
          have u0 : ((w2.setCell ⟨b2, 0, none⟩ (.string (rk ++ ⟨#[0]⟩))).alloc (Obj.cells #[Value.string rk, Value.string rv] 55)).cell? ⟨w2.heap.size, 0, none⟩ = some (.string rk) := by rw [← hz2] <;> exact cell_new _ _ _ 0
          have u1 : ((w2.setCell ⟨b2, 0, none⟩ (.string (rk ++ ⟨#[0]⟩))).alloc (Obj.cells #[Value.string rk, Value.string rv] 55)).cell? ⟨w2.heap.size, 1, none⟩ = some (.string rv) := by rw [← hz2] <;> exact cell_new _ _ _ 1
          clear ha ho2 kp hbR hz2
          rw [HE1.out]
          go_wp2_with (fail)
          go_at_call 86
          refine (HP.out _ (fun W' hW' => HO3.out.qv.la W' (hW'.mono HO3.out.qv.pv.lo))).mono ?_
          rintro e w4 ⟨rfl, hb4⟩
          have hbM := below_alloc1 w4 (Obj.cells #[Value.int .i64 mk, Value.int .i64 mt, Value.int .i64 mu, Value.string md] 48)
          have HO3b := hide (HO3.out.on hb4)
          have HC3b := hide (HC3.out.on hb4)
          have HO4 := hide (HO3b.out.box #[Value.int .i64 mk, Value.int .i64 mt, Value.int .i64 mu, Value.string md] 48)
          have HC4 := hide (HC3b.out.on hbM)
          clear q0 q1 q2 r0 r1 r2 r3 s0 s1
          obtain ⟨q0, q1, q2, r0, r1, r2, r3, s0, s1⟩ := HC4.out
          replace u0 := cell_on hbM (cell_on hb4 u0)
          replace u1 := cell_on hbM (cell_on hb4 u1)
          have fz1 := (HO4.out.ow (w.heap.size + 1) (.inr (.inr (.inr (.inl rfl))))).2.2.2
          have fzm := (HO4.out.ow w4.heap.size (.inl rfl)).2.2.2
          clear fz2 hb4 hbM
          rw [HEM.out]
          go_wp2_with (fail)
          go_roundg k
          case measure => omega
          case rel => exact ⟨S2, chs, rds1, zeroS rk, HO4.out.less (fun b hb => .inr (.inr hb)), HAT.out, HR.out, HC4.out⟩
        · rw [if_neg hu] at hR
          have d1 : decide (now < mu) = false := by simpa using hu
          clear hu
          by_cases hmt : mt < tries
          · rw [if_pos hmt] at hR
            have d2 : decide (mt < tries) = true := by simpa using hmt
            have hw1 : IntKind.i64.wrap (mt + 1) = mt + 1 := by rw [IntKind.wrap_i64]; omega
            have HPM := hide (fun (S1 : Nat → Prop) W (hW : QV W B wb S1 P since chs rds1) => qputMessage_any name mk (mt + 1) until_ md W hW (by omega) (by omega) (by omega))
            subst hR
            clear hmt

            go_wp2_with (fail)
            go_at_call 95
            refine HF.out.mono ?_
            rintro e w2 ⟨rfl, ha⟩
            obtain ⟨S2, ho2, kp⟩ := HO.out.act ha
            have hbR := below_alloc1 w2 (Obj.cells #[Value.string rk, Value.string rv] 55)
            have HC1 := hide (HC.out.keep kp)
            have HC2 := hide (HC1.out.on hbR)
            clear q0 q1 q2 r0 r1 r2 r3 s0 s1
            obtain ⟨q0, q1, q2, r0, r1, r2, r3, s0, s1⟩ := HC2.out
            have hlt2 := (ho2.ow b2 (.inr (.inr rfl))).2.2.1
            have hne : w2.heap.size ≠ b2 := by omega
            have fz2 := ((ho2.on hbR).ow b2 (.inr (.inr rfl))).2.2.2
            have hz2 : (w2.setCell ⟨b2, 0, none⟩ (.string (rk ++ ⟨#[0]⟩))).heap.size = w2.heap.size := by simp
            have HO3 := hide ((ho2.set HLO.out (b := b2) (.inr (.inr rfl)) 0 (.string (rk ++ ⟨#[0]⟩))).box #[Value.string rk, Value.string rv] 55)
            rw [hz2] at HO3
            have HC3 := hide ((HC1.out.next HNE.out.1 HNE.out.2 (rk ++ ⟨#[0]⟩)).on (below_alloc1 _ (Obj.cells #[Value.string rk, Value.string rv] 55)))
            have u0 : ((w2.setCell ⟨b2, 0, none⟩ (.string (rk ++ ⟨#[0]⟩))).alloc (Obj.cells #[Value.string rk, Value.string rv] 55)).cell? ⟨w2.heap.size, 0, none⟩ = some (.string rk) := by rw [← hz2] <;> exact cell_new _ _ _ 0
            have u1 : ((w2.setCell ⟨b2, 0, none⟩ (.string (rk ++ ⟨#[0]⟩))).alloc (Obj.cells #[Value.string rk, Value.string rv] 55)).cell? ⟨w2.heap.size, 1, none⟩ = some (.string rv) := by rw [← hz2] <;> exact cell_new _ _ _ 1
            clear ha ho2 kp hbR hz2
            rw [HE1.out]
            go_wp2_with (fail)
            go_at_call 86
            refine (HP.out _ (fun W' hW' => HO3.out.qv.la W' (hW'.mono HO3.out.qv.pv.lo))).mono ?_
            rintro e w4 ⟨rfl, hb4⟩
            have hbM := below_alloc1 w4 (Obj.cells #[Value.int .i64 mk, Value.int .i64 mt, Value.int .i64 mu, Value.string md] 48)
            have HO3b := hide (HO3.out.on hb4)
            have HC3b := hide (HC3.out.on hb4)
            have HO4 := hide (HO3b.out.box #[Value.int .i64 mk, Value.int .i64 mt, Value.int .i64 mu, Value.string md] 48)
            have HC4 := hide (HC3b.out.on hbM)
            clear q0 q1 q2 r0 r1 r2 r3 s0 s1
            obtain ⟨q0, q1, q2, r0, r1, r2, r3, s0, s1⟩ := HC4.out
            replace u0 := cell_on hbM (cell_on hb4 u0)
            replace u1 := cell_on hbM (cell_on hb4 u1)
            have fz1 := (HO4.out.ow (w.heap.size + 1) (.inr (.inr (.inr (.inl rfl))))).2.2.2
            have fzm := (HO4.out.ow w4.heap.size (.inl rfl)).2.2.2
            clear fz2 hb4 hbM
            rw [HEM.out]
            go_wp2_with (fail)
            have HO5 := hide (HO3b.out.box #[Value.int .i64 mk, Value.int .i64 (mt + 1), Value.int .i64 until_, Value.string md] 48)
            have HC5 := hide (HC3b.out.on (below_alloc1 w4 (Obj.cells #[Value.int .i64 mk, Value.int .i64 (mt + 1), Value.int .i64 until_, Value.string md] 48)))
            have v0 := cell_new w4 #[Value.int .i64 mk, Value.int .i64 (mt + 1), Value.int .i64 until_, Value.string md] 48 0
            have v1 := cell_new w4 #[Value.int .i64 mk, Value.int .i64 (mt + 1), Value.int .i64 until_, Value.string md] 48 1
            have v2 := cell_new w4 #[Value.int .i64 mk, Value.int .i64 (mt + 1), Value.int .i64 until_, Value.string md] 48 2
            have v3 := cell_new w4 #[Value.int .i64 mk, Value.int .i64 (mt + 1), Value.int .i64 until_, Value.string md] 48 3
            clear q0 q1 q2 r0 r1 r2 r3 s0 s1 u0 u1 fz1 fzm
            obtain ⟨q0, q1, q2, r0, r1, r2, r3, s0, s1⟩ := HC5.out
            have fz1 := (HO5.out.ow (w.heap.size + 1) (.inr (.inr (.inr (.inl rfl))))).2.2.2
            have hb1 := (HO5.out.ow (w.heap.size + 1) (.inr (.inr (.inr (.inl rfl))))).2.2.1
            have hbm := (HO5.out.ow w4.heap.size (.inl rfl)).2.2.1
            clear HC4 HO4 HC3b HO3b
            generalize (w4.alloc (Obj.cells #[Value.int .i64 mk, Value.int .i64 (mt + 1), Value.int .i64 until_, Value.string md] 48)) = W5 at *
            generalize w4.heap.size = mb at *
            clear q0 q1 q2 s0 s1
            go_region_with (first
              | (go_at_call 62; refine (HPM.out _ _ (HO5.out.qv.on (Below.refl _ _).drew)).mono ?_; rintro e w6 ⟨rfl, ha⟩; obtain ⟨S6, ho6, kp6⟩ := (HO5.out.on (Below.refl _ _).drew).act ha; have v0' : w6.cell? ⟨mb, 0, none⟩ = _ := (World.cell?_of_block (kp6 mb (.inl rfl))).trans v0; have v1' : w6.cell? ⟨mb, 1, none⟩ = _ := (World.cell?_of_block (kp6 mb (.inl rfl))).trans v1; have v2' : w6.cell? ⟨mb, 2, none⟩ = _ := (World.cell?_of_block (kp6 mb (.inl rfl))).trans v2; have v3' : w6.cell? ⟨mb, 3, none⟩ = _ := (World.cell?_of_block (kp6 mb (.inl rfl))).trans v3; have r0' : w6.cell? ⟨w.heap.size + 1, 0, none⟩ = _ := (World.cell?_of_block (kp6 (w.heap.size + 1) (.inr (.inr (.inr (.inl rfl)))))).trans r0; have r1' : w6.cell? ⟨w.heap.size + 1, 1, none⟩ = _ := (World.cell?_of_block (kp6 (w.heap.size + 1) (.inr (.inr (.inr (.inl rfl)))))).trans r1; have r2' : w6.cell? ⟨w.heap.size + 1, 2, none⟩ = _ := (World.cell?_of_block (kp6 (w.heap.size + 1) (.inr (.inr (.inr (.inl rfl)))))).trans r2; have r3' : w6.cell? ⟨w.heap.size + 1, 3, none⟩ = _ := (World.cell?_of_block (kp6 (w.heap.size + 1) (.inr (.inr (.inr (.inl rfl)))))).trans r3; have fz6 := (ho6.ow (w.heap.size + 1) (.inr (.inr (.inr (.inl rfl))))).2.2.2; have HO6 := hide ho6; clear ha ho6 kp6)
              | fail)
            all_goals
              go_wp2
              exact bodyPost_ret (v := .tuple #[mV (mk, mt + 1, until_, md, putMF chs name mk (mt + 1) until_ md), errV (putMF chs name mk (mt + 1) until_ md)]) (by simp [results, Tryz.results52, go_sem, r0', r1', r2', r3']) rfl ⟨rfl, ((((HO6.out.set HLO.out (b := w.heap.size + 1) (.inr (.inr (.inr (.inl rfl)))) 0 _).set HLO.out (b := w.heap.size + 1) (.inr (.inr (.inr (.inl rfl)))) 1 _).set HLO.out (b := w.heap.size + 1) (.inr (.inr (.inr (.inl rfl)))) 2 _).set HLO.out (b := w.heap.size + 1) (.inr (.inr (.inr (.inl rfl)))) 3 _).done⟩

          · rw [if_neg hmt] at hR
            have d2 : decide (mt < tries) = false := by simpa using hmt
            have HBU := hide (fun (S1 : Nat → Prop) W (hW : QV W B wb S1 P since chs rds1) => qbury_any rk dead md W hW (by unfold maxLen; omega) hd)
            clear hmt
            generalize buryQ P chs rds1 rk dead md = bq at *
            obtain ⟨bf, bchs, brds⟩ := bq
            dsimp only at hR HBU
            by_cases hbf : bf = 0
            · subst hbf
              rw [if_pos rfl] at hR
              have HR := hide hR
              have HEB := hide errV_zero
              clear hR
              go_wp2_with (fail)
              go_at_call 95
              refine HF.out.mono ?_
              rintro e w2 ⟨rfl, ha⟩
              obtain ⟨S2, ho2, kp⟩ := HO.out.act ha
              have hbR := below_alloc1 w2 (Obj.cells #[Value.string rk, Value.string rv] 55)
              have HC1 := hide (HC.out.keep kp)
              have HC2 := hide (HC1.out.on hbR)
              clear q0 q1 q2 r0 r1 r2 r3 s0 s1
              obtain ⟨q0, q1, q2, r0, r1, r2, r3, s0, s1⟩ := HC2.out
              have hlt2 := (ho2.ow b2 (.inr (.inr rfl))).2.2.1
              have hne : w2.heap.size ≠ b2 := by omega
              have fz2 := ((ho2.on hbR).ow b2 (.inr (.inr rfl))).2.2.2
              have hz2 : (w2.setCell ⟨b2, 0, none⟩ (.string (rk ++ ⟨#[0]⟩))).heap.size = w2.heap.size := by simp
              have HO3 := hide ((ho2.set HLO.out (b := b2) (.inr (.inr rfl)) 0 (.string (rk ++ ⟨#[0]⟩))).box #[Value.string rk, Value.string rv] 55)
              rw [hz2] at HO3
              have HC3 := hide ((HC1.out.next HNE.out.1 HNE.out.2 (rk ++ ⟨#[0]⟩)).on (below_alloc1 _ (Obj.cells #[Value.string rk, Value.string rv] 55)))
              have u0 : ((w2.setCell ⟨b2, 0, none⟩ (.string (rk ++ ⟨#[0]⟩))).alloc (Obj.cells #[Value.string rk, Value.string rv] 55)).cell? ⟨w2.heap.size, 0, none⟩ = some (.string rk) := by rw [← hz2] <;> exact cell_new _ _ _ 0
              have u1 : ((w2.setCell ⟨b2, 0, none⟩ (.string (rk ++ ⟨#[0]⟩))).alloc (Obj.cells #[Value.string rk, Value.string rv] 55)).cell? ⟨w2.heap.size, 1, none⟩ = some (.string rv) := by rw [← hz2] <;> exact cell_new _ _ _ 1
              clear ha ho2 kp hbR hz2
              rw [HE1.out]
              go_wp2_with (fail)
              go_at_call 86
              refine (HP.out _ (fun W' hW' => HO3.out.qv.la W' (hW'.mono HO3.out.qv.pv.lo))).mono ?_
              rintro e w4 ⟨rfl, hb4⟩
              have hbM := below_alloc1 w4 (Obj.cells #[Value.int .i64 mk, Value.int .i64 mt, Value.int .i64 mu, Value.string md] 48)
              have HO3b := hide (HO3.out.on hb4)
              have HC3b := hide (HC3.out.on hb4)
              have HO4 := hide (HO3b.out.box #[Value.int .i64 mk, Value.int .i64 mt, Value.int .i64 mu, Value.string md] 48)
              have HC4 := hide (HC3b.out.on hbM)
              clear q0 q1 q2 r0 r1 r2 r3 s0 s1
              obtain ⟨q0, q1, q2, r0, r1, r2, r3, s0, s1⟩ := HC4.out
              replace u0 := cell_on hbM (cell_on hb4 u0)
              replace u1 := cell_on hbM (cell_on hb4 u1)
              have fz1 := (HO4.out.ow (w.heap.size + 1) (.inr (.inr (.inr (.inl rfl))))).2.2.2
              have fzm := (HO4.out.ow w4.heap.size (.inl rfl)).2.2.2
              clear fz2 hb4 hbM
              rw [HEM.out]
              go_wp2_with (fail)
              go_at_call 96
              refine (HBU.out _ _ HO4.out.qv).mono ?_
              rintro e w6 ⟨rfl, ha⟩
              obtain ⟨S6, ho6, kp6⟩ := HO4.out.act ha
              have HO6 := hide ho6
              have HC6 := hide (HC4.out.keep fun b hb => kp6 b (.inr (.inr hb)))
              clear q0 q1 q2 r0 r1 r2 r3 s0 s1 u0 u1 fz1 fzm
              obtain ⟨q0, q1, q2, r0, r1, r2, r3, s0, s1⟩ := HC6.out
              have fz1 := (HO6.out.ow (w.heap.size + 1) (.inr (.inr (.inr (.inl rfl))))).2.2.2
              clear ha ho6 kp6
              rw [HEB.out]
              go_wp2_with (fail)
              go_roundg k
              case measure => omega
              case rel => exact ⟨S6, bchs, brds, zeroS rk, HO6.out.less (fun b hb => .inr (.inr hb)), HAT.out, HR.out, HC6.out⟩
            · rw [if_neg hbf] at hR
              subst hR
              have HEB := hide (errV_pos hbf)
              clear hbf
              go_wp2_with (fail)
              go_at_call 95
              refine HF.out.mono ?_
              rintro e w2 ⟨rfl, ha⟩
              obtain ⟨S2, ho2, kp⟩ := HO.out.act ha
              have hbR := below_alloc1 w2 (Obj.cells #[Value.string rk, Value.string rv] 55)
              have HC1 := hide (HC.out.keep kp)
              have HC2 := hide (HC1.out.on hbR)
              clear q0 q1 q2 r0 r1 r2 r3 s0 s1
              obtain ⟨q0, q1, q2, r0, r1, r2, r3, s0, s1⟩ := HC2.out
              have hlt2 := (ho2.ow b2 (.inr (.inr rfl))).2.2.1
              have hne : w2.heap.size ≠ b2 := by omega
              have fz2 := ((ho2.on hbR).ow b2 (.inr (.inr rfl))).2.2.2
              have hz2 : (w2.setCell ⟨b2, 0, none⟩ (.string (rk ++ ⟨#[0]⟩))).heap.size = w2.heap.size := by simp
              have HO3 := hide ((ho2.set HLO.out (b := b2) (.inr (.inr rfl)) 0 (.string (rk ++ ⟨#[0]⟩))).box #[Value.string rk, Value.string rv] 55)
              rw [hz2] at HO3
              have HC3 := hide ((HC1.out.next HNE.out.1 HNE.out.2 (rk ++ ⟨#[0]⟩)).on (below_alloc1 _ (Obj.cells #[Value.string rk, Value.string rv] 55)))
              have u0 : ((w2.setCell ⟨b2, 0, none⟩ (.string (rk ++ ⟨#[0]⟩))).alloc (Obj.cells #[Value.string rk, Value.string rv] 55)).cell? ⟨w2.heap.size, 0, none⟩ = some (.string rk) := by rw [← hz2] <;> exact cell_new _ _ _ 0
              have u1 : ((w2.setCell ⟨b2, 0, none⟩ (.string (rk ++ ⟨#[0]⟩))).alloc (Obj.cells #[Value.string rk, Value.string rv] 55)).cell? ⟨w2.heap.size, 1, none⟩ = some (.string rv) := by rw [← hz2] <;> exact cell_new _ _ _ 1
              clear ha ho2 kp hbR hz2
              rw [HE1.out]
              go_wp2_with (fail)
              go_at_call 86
              refine (HP.out _ (fun W' hW' => HO3.out.qv.la W' (hW'.mono HO3.out.qv.pv.lo))).mono ?_
              rintro e w4 ⟨rfl, hb4⟩
              have hbM := below_alloc1 w4 (Obj.cells #[Value.int .i64 mk, Value.int .i64 mt, Value.int .i64 mu, Value.string md] 48)
              have HO3b := hide (HO3.out.on hb4)
              have HC3b := hide (HC3.out.on hb4)
              have HO4 := hide (HO3b.out.box #[Value.int .i64 mk, Value.int .i64 mt, Value.int .i64 mu, Value.string md] 48)
              have HC4 := hide (HC3b.out.on hbM)
              clear q0 q1 q2 r0 r1 r2 r3 s0 s1
              obtain ⟨q0, q1, q2, r0, r1, r2, r3, s0, s1⟩ := HC4.out
              replace u0 := cell_on hbM (cell_on hb4 u0)
              replace u1 := cell_on hbM (cell_on hb4 u1)
              have fz1 := (HO4.out.ow (w.heap.size + 1) (.inr (.inr (.inr (.inl rfl))))).2.2.2
              have fzm := (HO4.out.ow w4.heap.size (.inl rfl)).2.2.2
              clear fz2 hb4 hbM
              rw [HEM.out]
              go_wp2_with (fail)
              go_at_call 96
              refine (HBU.out _ _ HO4.out.qv).mono ?_
              rintro e w6 ⟨rfl, ha⟩
              obtain ⟨S6, ho6, kp6⟩ := HO4.out.act ha
              have HO6 := hide ho6
              have HC6 := hide (HC4.out.keep fun b hb => kp6 b (.inr (.inr hb)))
              clear q0 q1 q2 r0 r1 r2 r3 s0 s1 u0 u1 fz1 fzm
              obtain ⟨q0, q1, q2, r0, r1, r2, r3, s0, s1⟩ := HC6.out
              have fz1 := (HO6.out.ow (w.heap.size + 1) (.inr (.inr (.inr (.inl rfl))))).2.2.2
              clear ha ho6 kp6
              rw [HEB.out]
              go_wp2_with (fail)
              exact bodyPost_ret (v := .tuple #[mV (noM bf), errV bf]) (by simp [results, Tryz.results52, go_sem, r0, r1, r2, r3, HEB.out]) rfl ⟨rfl, ((((HO6.out.set HLO.out (b := w.heap.size + 1) (.inr (.inr (.inr (.inl rfl)))) 0 _).set HLO.out (b := w.heap.size + 1) (.inr (.inr (.inr (.inl rfl)))) 1 _).set HLO.out (b := w.heap.size + 1) (.inr (.inr (.inr (.inl rfl)))) 2 _).set HLO.out (b := w.heap.size + 1) (.inr (.inr (.inr (.inl rfl)))) 3 _).done⟩
      · rw [if_neg hem] at hR
        subst hR
        have HEM := hide (errV_pos hem)
        clear hem HMF
        go_wp2_with (fail)
        go_at_call 95
        refine HF.out.mono ?_
        rintro e w2 ⟨rfl, ha⟩
        obtain ⟨S2, ho2, kp⟩ := HO.out.act ha
        have hbR := below_alloc1 w2 (Obj.cells #[Value.string rk, Value.string rv] 55)
        have HC1 := hide (HC.out.keep kp)
        have HC2 := hide (HC1.out.on hbR)
        clear q0 q1 q2 r0 r1 r2 r3 s0 s1
        obtain ⟨q0, q1, q2, r0, r1, r2, r3, s0, s1⟩ := HC2.out
        have hlt2 := (ho2.ow b2 (.inr (.inr rfl))).2.2.1
        have hne : w2.heap.size ≠ b2 := by omega
        have fz2 := ((ho2.on hbR).ow b2 (.inr (.inr rfl))).2.2.2
        have hz2 : (w2.setCell ⟨b2, 0, none⟩ (.string (rk ++ ⟨#[0]⟩))).heap.size = w2.heap.size := by simp
        have HO3 := hide ((ho2.set HLO.out (b := b2) (.inr (.inr rfl)) 0 (.string (rk ++ ⟨#[0]⟩))).box #[Value.string rk, Value.string rv] 55)
        rw [hz2] at HO3
        have HC3 := hide ((HC1.out.next HNE.out.1 HNE.out.2 (rk ++ ⟨#[0]⟩)).on (below_alloc1 _ (Obj.cells #[Value.string rk, Value.string rv] 55)))
        have u0 : ((w2.setCell ⟨b2, 0, none⟩ (.string (rk ++ ⟨#[0]⟩))).alloc (Obj.cells #[Value.string rk, Value.string rv] 55)).cell? ⟨w2.heap.size, 0, none⟩ = some (.string rk) := by rw [← hz2] <;> exact cell_new _ _ _ 0
        have u1 : ((w2.setCell ⟨b2, 0, none⟩ (.string (rk ++ ⟨#[0]⟩))).alloc (Obj.cells #[Value.string rk, Value.string rv] 55)).cell? ⟨w2.heap.size, 1, none⟩ = some (.string rv) := by rw [← hz2] <;> exact cell_new _ _ _ 1
        clear ha ho2 kp hbR hz2
        rw [HE1.out]
        go_wp2_with (fail)
        go_at_call 86
        refine (HP.out _ (fun W' hW' => HO3.out.qv.la W' (hW'.mono HO3.out.qv.pv.lo))).mono ?_
        rintro e w4 ⟨rfl, hb4⟩
        have hbM := below_alloc1 w4 (Obj.cells #[Value.int .i64 mk, Value.int .i64 mt, Value.int .i64 mu, Value.string md] 48)
        have HO3b := hide (HO3.out.on hb4)
        have HC3b := hide (HC3.out.on hb4)
        have HO4 := hide (HO3b.out.box #[Value.int .i64 mk, Value.int .i64 mt, Value.int .i64 mu, Value.string md] 48)
        have HC4 := hide (HC3b.out.on hbM)
        clear q0 q1 q2 r0 r1 r2 r3 s0 s1
        obtain ⟨q0, q1, q2, r0, r1, r2, r3, s0, s1⟩ := HC4.out
        replace u0 := cell_on hbM (cell_on hb4 u0)
        replace u1 := cell_on hbM (cell_on hb4 u1)
        have fz1 := (HO4.out.ow (w.heap.size + 1) (.inr (.inr (.inr (.inl rfl))))).2.2.2
        have fzm := (HO4.out.ow w4.heap.size (.inl rfl)).2.2.2
        clear fz2 hb4 hbM
        rw [HEM.out]
        go_wp2_with (fail)
        exact bodyPost_ret (v := .tuple #[mV (noM em), errV em]) (by simp [results, Tryz.results52, go_sem, r0, r1, r2, r3, HEM.out]) rfl ⟨rfl, ((((HO4.out.set HLO.out (b := w.heap.size + 1) (.inr (.inr (.inr (.inl rfl)))) 0 _).set HLO.out (b := w.heap.size + 1) (.inr (.inr (.inr (.inl rfl)))) 1 _).set HLO.out (b := w.heap.size + 1) (.inr (.inr (.inr (.inl rfl)))) 2 _).set HLO.out (b := w.heap.size + 1) (.inr (.inr (.inr (.inl rfl)))) 3 _).done⟩
    · rw [if_neg hf] at hR
      subst hR
      have HE := hide (errV_pos hf)
      clear hf HK c q0 q1 q2 r0 r1 r2 r3
      go_wp2_with (first
        | (go_at_call 95; refine HF.out.mono ?_; rintro e w2 ⟨rfl, ha⟩; obtain ⟨S2, ho2, kp⟩ := HO.out.act ha; have hbR := below_alloc1 w2 (Obj.cells #[Value.string rk, Value.string rv] 55); have HO2 := hide (ho2.on hbR); have HC2 := hide ((HC.out.keep kp).on hbR); clear s0 s1; obtain ⟨q0, q1, q2, r0, r1, r2, r3, s0, s1⟩ := HC2.out; have fz1 := (HO2.out.ow (w.heap.size + 1) (.inr (.inl rfl))).2.2.2; clear ha ho2 kp hbR; rw [HE.out])
        | fail)
      exact bodyPost_ret (v := .tuple #[mV (noM f), errV f]) (by simp [results, Tryz.results52, go_sem, r0, r1, r2, r3, HE.out]) rfl ⟨rfl, ((((HO2.out.set HLO.out (b := w.heap.size + 1) (.inr (.inl rfl)) 0 _).set HLO.out (b := w.heap.size + 1) (.inr (.inl rfl)) 1 _).set HLO.out (b := w.heap.size + 1) (.inr (.inl rfl)) 2 _).set HLO.out (b := w.heap.size + 1) (.inr (.inl rfl)) 3 _).done⟩
end Go.Proofs.YtighpalbodhfeaaGreatDoor
