/-
  What the document's Restart of a disk leaves: its walk.
-/
import Derived.Test.YtkfpfbkdalbjoaaRDskR
namespace Go.Proofs.Ytkfpfbkdalbjoaa
open Go.RowKit Go.Joins
attribute [local go_sem ↓] Go.wp_at_zero Go.wp_at_succ

section
variable {w : World} {B rb : Nat} {S : Nat → Prop} {s : DSt}
/-- under way: so many of the writes were looked at -/
structure RRI (w wr : World) (B rb : Nat) (gk ck n : Nat) (nv tv : Value) (s : DSt) (F k : Int) (i : Nat) : Prop where
  rd : RD wr B rb (.slice (some ⟨gk, 0, none⟩) n ck) nv tv { s with kept := keepL k 0 (s.wait.take i) s.kept } F
  st : StepV w wr B (inR rb (.slice (some ⟨gk, 0, none⟩) n ck) nv tv) (inR rb (.slice (some ⟨gk, 0, none⟩) n ck) nv tv)
theorem RRI.skip {wr : World} {gk ck n : Nat} {nv tv : Value} {F k : Int} {i : Nat} (h : RRI w wr B rb gk ck n nv tv s F k i) (hi : i < s.wait.length) (hk : keepB k (i % 64) = false) : RRI w wr B rb gk ck n nv tv s F k (i + 1) := by
  have e := keepL_take k s.wait i hi s.kept
  rw [hk] at e
  exact ⟨by rw [e]; exact h.rd, h.st⟩
theorem RRI.put {wr : World} {gk ck n : Nat} {nv tv : Value} {F k : Int} {i : Nat} (h : RRI w wr B rb gk ck n nv tv s F k i) (hi : i < s.wait.length) (hk : keepB k (i % 64) = true) : RRI w (wr.setCell ⟨gk, s.wait[i].1, none⟩ (.string s.wait[i].2)) B rb gk ck n nv tv s F k (i + 1) := by
  have e := keepL_take k s.wait i hi s.kept
  rw [hk] at e
  exact ⟨by rw [e]; exact h.rd.keptSet _ _, h.st.trans (stepV_kept h.rd _ _)⟩
theorem RRI.drew {wr : World} {gk ck n : Nat} {nv tv : Value} {F k : Int} {i : Nat} (h : RRI w wr B rb gk ck n nv tv s F k i) : RRI w wr.drew B rb gk ck n nv tv s F k i :=
  ⟨h.rd.kept fun _ _ => rfl, h.st.trans ⟨(Below.refl _ _).drew, fun _ _ hn => ⟨rfl, hn⟩⟩⟩
theorem ownS_soft {w : World} {B g n cap : Nat} {l : List ByteArray} (h : ownS w B (.slice (some ⟨g, 0, none⟩) n cap) l) (j : Nat) : w.frozen? ⟨g, j, none⟩ = false := by
  rcases h.2 with ⟨e, _⟩ | ⟨g', cap', cur, e, hB, hg, _⟩
  · cases e
  · cases e
    exact unfrozen_of_block hg j
set_option maxRecDepth 8000 in
set_option maxHeartbeats 4000000 in
theorem rrestart_any (k : Int) (w : World) (h : RK w B rb S s) (hw : s.wait.length ≤ 1000000) : Calls Try.prog 22 #[.pointer (some ⟨rb, 0, none⟩), .int .u64 k] w fun e w' => e = .returned (.tuple #[]) ∧ ActK w w' B rb S (restartD s k) := by
  obtain ⟨kv, nv, tv, F, h1, hS, h3, h4, h5, h6, h7⟩ := h
  subst hS
  obtain ⟨gk, ck, hkv, _⟩ := ownS_some h1.ok (by omega)
  subst hkv
  obtain ⟨i0, z0, hi0, hz0, hi2, hi24, hzc⟩ := text_parts
  have HI0 : Hid (RRI w w B rb gk ck s.kept.length nv tv s F k 0) := ⟨h1, .refl h7⟩
  have HOT := hide h1.ot
  have H6 := hide h6
  have H3 := hide h3
  have hkl : s.kept.length ≤ 200 := by omega
  have hkp : 1 ≤ s.kept.length := by omega
  clear h1 h6 h3 h4 h5
  go_enter Try.func22, Try.ntmps22
  go_wp2
  go_loopw [4] (fun iv wr => ∃ i : Nat, i ≤ s.wait.length ∧ iv = .int .i64 (i : Int) ∧ RRI w wr B rb gk ck s.kept.length nv tv s F k i) (fun iv _ => s.wait.length - (intOf iv).toNat)
  case atStart => exact ⟨0, Nat.zero_le _, rfl, HI0.out⟩
  case round =>
    obtain ⟨i, hi, rfl, hI⟩ := hrel
    clear HI0
    by_cases hlt : i < s.wait.length
    · have hlt' : (i : Int) < (s.wait.length : Int) := by omega
      have hi0 : (0 : Int) ≤ (i : Int) := by omega
      rcases ownT_some HOT.out with ⟨_, e⟩ | ⟨gt, ct, htv⟩
      · omega
      subst htv
      have HRI := hide hI
      have c2 := hI.rd.c2
      have c0 := hI.rd.c0
      obtain ⟨t0, t1⟩ := ownT_cells hI.rd.ot i hlt
      have ha : s.wait[i].1 < s.kept.length := by rw [H3.out]; exact H6.out _ (List.getElem_mem hlt)
      have hsz : (keepL k 0 (s.wait.take i) s.kept).length = s.kept.length := keepL_len _ _ _ _
      have hck : ∃ u, wr.cell? ⟨gk, s.wait[i].1, none⟩ = some u := by
        have := ownS_news hI.rd.ok (s.wait[i].1) (strV ((keepL k 0 (s.wait.take i) s.kept)[s.wait[i].1]'(by rw [hsz]; exact ha))) (by rw [List.getElem?_map, List.getElem?_eq_getElem (by rw [hsz]; exact ha)]; rfl)
        rw [Go.Addr.add_mid, Nat.zero_add] at this
        exact ⟨_, this⟩
      obtain ⟨u, hcu⟩ := hck
      clear hI hsz
      have HA := hide ha
      have ha' : (s.wait[i].1 : Int) < (s.kept.length : Int) := by omega
      have fk := ownS_soft HRI.out.rd.ok s.wait[i].1
      cases hkb : keepB k (i % 64) with
      | false =>
        have HN := hide (HRI.out.skip hlt hkb)
        have hkb' : (Go.bits .and .u64 (k / 2 ^ (i % 64)) 1 == 1) = false := hkb
        clear hkb fk hcu
        go_wp2
        exact ⟨⟨i + 1, by omega, by go_num, HN.out⟩, by simp [intOf]; omega⟩
      | true =>
        have HN := hide (HRI.out.drew.put hlt hkb)
        have hkb' : (Go.bits .and .u64 (k / 2 ^ (i % 64)) 1 == 1) = true := hkb
        clear hkb
        generalize s.wait[i].1 = aa at *
        generalize s.wait[i].2 = dd at *
        have ha0 : (0 : Int) ≤ (aa : Int) := by omega
        have HC0 : Hid (wr.drew.cell? ⟨rb, 0, none⟩ = some (.slice (some ⟨gk, 0, none⟩) s.kept.length ck) ∧ wr.drew.cell? ⟨rb, 2, none⟩ = some (.slice (some ⟨gt, 0, none⟩) s.wait.length ct) ∧ wr.drew.cell? ⟨gt, i * 2, none⟩ = some (.int .i64 (aa : Int)) ∧ wr.drew.cell? ⟨gt, i * 2 + 1, none⟩ = some (.string dd)) := ⟨c0, c2, t0, t1⟩
        have HC1 : Hid ((wr.setCell ⟨gk, aa, none⟩ (.string dd)).drew.cell? ⟨rb, 0, none⟩ = some (.slice (some ⟨gk, 0, none⟩) s.kept.length ck) ∧ (wr.setCell ⟨gk, aa, none⟩ (.string dd)).drew.cell? ⟨rb, 2, none⟩ = some (.slice (some ⟨gt, 0, none⟩) s.wait.length ct) ∧ (wr.setCell ⟨gk, aa, none⟩ (.string dd)).drew.cell? ⟨gt, i * 2, none⟩ = some (.int .i64 (aa : Int)) ∧ (wr.setCell ⟨gk, aa, none⟩ (.string dd)).drew.cell? ⟨gt, i * 2 + 1, none⟩ = some (.string dd)) := by
          obtain ⟨p1, p2, p3⟩ := HRI.out.rd.ap.1 gk rfl
          have p4 : gt ≠ gk := fun e => p3 (by rw [← e]; rfl)
          have e1 : (wr.setCell ⟨gk, aa, none⟩ (.string dd)).heap[rb]? = wr.heap[rb]? := Below.heap_setCell _ _ _ _ p1.symm
          have e2 : (wr.setCell ⟨gk, aa, none⟩ (.string dd)).heap[gt]? = wr.heap[gt]? := Below.heap_setCell _ _ _ _ p4
          exact ⟨(World.cell?_of_block (a := ⟨rb, 0, none⟩) e1).trans c0, (World.cell?_of_block (a := ⟨rb, 2, none⟩) e1).trans c2, (World.cell?_of_block (a := ⟨gt, i * 2, none⟩) e2).trans t0, (World.cell?_of_block (a := ⟨gt, i * 2 + 1, none⟩) e2).trans t1⟩
        go_wp2
        go_region_held3 (fun w' => w'.cell? ⟨rb, 0, none⟩ = some (.slice (some ⟨gk, 0, none⟩) s.kept.length ck) ∧ w'.cell? ⟨rb, 2, none⟩ = some (.slice (some ⟨gt, 0, none⟩) s.wait.length ct) ∧ w'.cell? ⟨gt, i * 2, none⟩ = some (.int .i64 (aa : Int)) ∧ w'.cell? ⟨gt, i * 2 + 1, none⟩ = some (.string dd)) (first | exact HC0.out | exact HC1.out | go_keep) (fail)
        go_wp2
        exact ⟨⟨i + 1, by omega, by go_num, HN.out⟩, by simp [intOf]; omega⟩
    · have ei : i = s.wait.length := by omega
      subst ei
      have hlt' : ¬ (s.wait.length : Int) < (s.wait.length : Int) := by omega
      have c2 := hI.rd.c2
      have c0 := hI.rd.c0
      have HRI := hide hI
      clear hI
      have hle : ∃ tl : Option Addr, ∃ ct, tv = .slice tl s.wait.length ct := by
        rcases ownT_some HOT.out with ⟨e, e2⟩ | ⟨g, c, e⟩
        · exact ⟨none, 0, by rw [e, e2]⟩
        · exact ⟨_, c, e⟩
      obtain ⟨tl, ct, htv⟩ := hle
      subst htv
      have hrd := HRI.out.rd
      rw [List.take_length] at hrd
      have HRD := hide hrd
      have hsz : (keepL k 0 s.wait s.kept).length = s.kept.length := keepL_len _ _ _ _
      have HST := hide HRI.out.st
      clear hrd HRI
      have HRS : Hid (restartD s k = ⟨keepL k 0 s.wait s.kept, keepL k 0 s.wait s.kept, [], -1, false⟩) := rfl
      generalize keepL k 0 s.wait s.kept = K at *
      have HSZ := hide hsz
      clear hsz
      go_wp2_with ((at_builtin; (refine wpList_append_lies _ rfl _ _ _ rfl B 9 i0 _ 1 16 Try.underlying48 hi0 hz0 hi2 hi24 hzc (by omega) (.slice none 0 0) 0 [] rfl ownS_nil ⟨gk, 0, none⟩ s.kept.length ck (K.map strV) rfl (by rw [List.length_map, Nat.mul_one, HSZ.out]) (ownS_news HRD.out.ok) (by simp [strV, Value.oneCell']) (by omega) (by unfold maxLen; omega) (by omega) (Nat.le_trans h7 HST.out.bel.size) wr.heap.size rfl ?_; intro g5b cap5 w5 ho hgr hat hlt; rw [Nat.zero_add, List.nil_append] at ho; rw [Nat.zero_add]; have e5 : w5.heap[rb]? = wr.heap[rb]? := hgr.block rb (HRD.out.lt (.inl rfl)) nofun; have d1 := (World.cell?_of_block (a := ⟨rb, 1, none⟩) e5).trans HRD.out.c1; have d2 := (World.cell?_of_block (a := ⟨rb, 2, none⟩) e5).trans HRD.out.c2; have d3 := (World.cell?_of_block (a := ⟨rb, 3, none⟩) e5).trans HRD.out.c3; have d4 := (World.cell?_of_block (a := ⟨rb, 4, none⟩) e5).trans HRD.out.c4; have f1 := (World.frozen?_of_block (a := ⟨rb, 1, none⟩) e5).trans (HRD.out.soft 1); have f2 := (World.frozen?_of_block (a := ⟨rb, 2, none⟩) e5).trans (HRD.out.soft 2); have f3 := (World.frozen?_of_block (a := ⟨rb, 3, none⟩) e5).trans (HRD.out.soft 3); have f4 := (World.frozen?_of_block (a := ⟨rb, 4, none⟩) e5).trans (HRD.out.soft 4); have HO := hide ho; have HG := hide hgr; have HA := hide hat; clear ho hgr hat hlt c0 c2 e5)))
      go_end0
      rw [HRS.out]
      refine ⟨rfl, ActK.after HST.out ?_⟩
      have hag := RK.again (s := { s with kept := K }) HRD.out (by show 1 ≤ K.length; rw [HSZ.out]; exact hkp) (by show K.length ≤ 200; rw [HSZ.out]; exact hkl) (Nat.le_trans h7 HST.out.bel.size) (g := g5b) (cap5 := cap5) (w5 := w5) (by show w5.ownsRow B _ 1 (.slice _ K.length _) K.length _; rw [HSZ.out]; exact HO.out) HG.out (HA.out.resolve_left nofun)
      have e : ({ s with kept := K } : DSt).kept.length = s.kept.length := HSZ.out
      rw [e] at hag
      exact hag
end
end Go.Proofs.Ytkfpfbkdalbjoaa
