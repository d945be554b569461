/-
  PROVED: for all texts name, key and s, all numbers n, all queues q and all messages m, haywainlaw.RowSays returns true, and its arguments read afterwards as they read before (the card RowSaysCardSaid: where the library's listed tables and errors hold what the program's own text lays there; the tie is given).
-/
import Derived.Test.YtlndiohdjdgaoaaDoorCards
import Derived.Test.YtlndiohdjdgaoaaDoorTie
import Derived.Test.YtlndiohdjdgaoaaDoorRowSaysWalk
import Derived.Test.YtlndiohdjdgaoaaDoorLaidV
import Derived.Deep.DeepWitnessRowRef
import Derived.Test.YtlndiohdjdgaoaaDoorLaw
import Derived.Test.YtlndiohdjdgaoaaDoorLaidW
import Derived.Test.YtlndiohdjdgaoaaDoorLaidE
import Derived.Test.YtlndiohdjdgaoaaDoorLaidT
import Derived.Deep.DeepHandedRow
import Derived.Lib.LaidTab
namespace Go.Proofs.YtlndiohdjdgaoaaDoor
open Go.ChangeShapes Go.WideShapes Go.ChangeAt Go.RowKit Go.Joins
open Go.ChangeMaps (open_string shut_string)

theorem rowSays_laid_met (os : Os) : laidMet Tryd.prog Rows.rowSaysRow.laid ((layErrs (World.holding Tryd.prog default ⟨#[], #[], []⟩).heap.size (layTabs (World.holding Tryd.prog os ⟨errBlocks, #[], []⟩))).forCall (fun _ _ => 0) ⟨#[], #[.string ByteArray.empty, .string ByteArray.empty, .int .i64 0, .agg #[.int .i64 0, .int .i64 0, .string ByteArray.empty], .agg #[.int .i64 0, .int .i64 0, .int .i64 0, .string ByteArray.empty], .string ByteArray.empty], []⟩).memory :=
  laidMet_of_run' 8 (by kernel_rfl) (by kernel_rfl)
theorem rowSays_reads (os : Os) {H : Type} (enc : TypeId × Value → H) : ∃ places, DataW.whole enc Tryd.prog ((layErrs (World.holding Tryd.prog default ⟨#[], #[], []⟩).heap.size (layTabs (World.holding Tryd.prog os ⟨errBlocks, #[], []⟩))).forCall (fun _ _ => 0) ⟨#[], #[.string ByteArray.empty, .string ByteArray.empty, .int .i64 0, .agg #[.int .i64 0, .int .i64 0, .string ByteArray.empty], .agg #[.int .i64 0, .int .i64 0, .int .i64 0, .string ByteArray.empty], .string ByteArray.empty], []⟩).memory Tryd.f4.params.toList Rows.rowSaysSpec.vars false (#[.string ByteArray.empty, .string ByteArray.empty, .int .i64 0, .agg #[.int .i64 0, .int .i64 0, .string ByteArray.empty], .agg #[.int .i64 0, .int .i64 0, .int .i64 0, .string ByteArray.empty], .string ByteArray.empty] : Array Value).toList 8 = some ([.lit (.string []), .lit (.string []), .lit (.int .i64 0), .agg [.lit (.int .i64 0), .lit (.int .i64 0), .lit (.string [])], .agg [.lit (.int .i64 0), .lit (.int .i64 0), .lit (.int .i64 0), .lit (.string [])], .lit (.string [])], [], places) :=
  ⟨[], by kernel_rfl⟩
theorem rowSays_table {W : World} (h : laidMetH Tryd.prog Rows.rowSaysRow.laid W) : Lib.TabIs Tryd.prog W "internal/strconv.uint64pow10" .u64 Lib.pow10Tab := by
  rw [pow_list]
  exact tab_third h
theorem rowSays_laid {W : World} (h : laidMetH Tryd.prog Rows.rowSaysRow.laid W) : Laid W := ⟨rowSays_table h, err_fifth h, err_fourth h⟩

set_option maxRecDepth 100000 in
theorem rowSays_lifted (os : Os) (started : os.Started) (H : Type) (enc : TypeId × Value → H) (F : Stop.Interp) :
    ReturnsInHanded {} Tryd.checked os 4 .any ((OpenSpec.ofChange Rows.rowSaysSpec).preRow enc Tryd.prog Tryd.f4 Rows.rowSaysRow.domain false Rows.rowSaysRow.laid) (((OpenSpec.ofChange Rows.rowSaysSpec).at F).post enc Tryd.prog Tryd.f4 false true false false) := by
  obtain ⟨places, hx⟩ := rowSays_reads os enc
  refine returnsInHanded_of_row (C := Tryd.checked) (s := OpenSpec.ofChange Rows.rowSaysSpec) Tryd.own started (by kernel_rfl) Tryd.func4
    (witness_row_at (enc := enc) (C := Tryd.checked) false (layErrs (World.holding Tryd.prog default ⟨#[], #[], []⟩).heap.size (layTabs (World.holding Tryd.prog os ⟨errBlocks, #[], []⟩))) #[.string ByteArray.empty, .string ByteArray.empty, .int .i64 0, .agg #[.int .i64 0, .int .i64 0, .string ByteArray.empty], .agg #[.int .i64 0, .int .i64 0, .int .i64 0, .string ByteArray.empty], .string ByteArray.empty] rfl (by kernel_rfl) (by kernel_rfl) (by kernel_rfl)
      (OpenSpec.preRow_of_cond 8 hx (by kernel_rfl) (fun k hk => by cases hk) (by kernel_rfl) (rowSays_laid_met os))) ?_
  intro W base args ds gs before hval0 hW _ _ _ hL _ _
  have hval : ∀ (j : Nat) t v, Tryd.f4.params[j]? = some t → args[j]? = some v → Value.okWide Tryd.prog W .any base t v := hval0
  have hW' := hW
  obtain ⟨p, q, hA0, hV, rfl, _, _⟩ := hW
  have hA : DataW.TrodAll enc Tryd.prog W 0 (fun _ => true) true Tryd.f4.params.toList args.toList ds p := hA0
  rw [Tryd.params4] at hA hval
  generalize hargs : args.toList = vs at hA
  obtain ⟨v0, vs0, d0, ds0, p0, q0, rfl, rfl, rfl, h0, hA⟩ := trodAll_cons hA
  obtain ⟨v1, vs1, d1, ds1, p1, q1, rfl, rfl, rfl, h1, hA⟩ := trodAll_cons hA
  obtain ⟨v2, vs2, d2, ds2, p2, q2, rfl, rfl, rfl, h2, hA⟩ := trodAll_cons hA
  obtain ⟨v3, vs3, d3, ds3, p3, q3, rfl, rfl, rfl, h3, hA⟩ := trodAll_cons hA
  obtain ⟨v4, vs4, d4, ds4, p4, q4, rfl, rfl, rfl, h4, hA⟩ := trodAll_cons hA
  obtain ⟨v5, vs5, d5, ds5, p5, q5, rfl, rfl, rfl, h5, hA⟩ := trodAll_cons hA
  obtain ⟨rfl, rfl, rfl⟩ := trodAll_nil hA
  obtain rfl : args = #[v0, v1, v2, v3, v4, v5] := Array.ext' (by simpa using hargs)
  clear hargs hA
  obtain ⟨rfl, rfl⟩ := trodVars_none hV
  obtain ⟨name, rfl, rfl, rfl, _⟩ := open_string Tryd.underlying9 (hval 0 9 v0 rfl rfl) h0
  obtain ⟨key, rfl, rfl, rfl, _⟩ := open_string Tryd.underlying9 (hval 1 9 v1 rfl rfl) h1
  obtain ⟨n, rfl, rfl, rfl, hn⟩ := open_int Tryd.underlying3 (hval 2 3 v2 rfl rfl) h2
  obtain ⟨c0, c1, c2, y0, y1, y2, m, rfl, rfl, rfl, hy0, hy1, hy2⟩ := open_agg3 Tryd.underlying32 (by kernel_rfl) (show Tryd.prog.cellsOf 32 = 3 by kernel_rfl) (hval 3 32 v3 rfl rfl) h3
  obtain ⟨c3, c4, c5, c6, y3, y4, y5, y6, m', rfl, rfl, rfl, hy3, hy4, hy5, hy6⟩ := open_agg4 Tryd.underlying34 (by kernel_rfl) (show Tryd.prog.cellsOf 34 = 4 by kernel_rfl) (hval 4 34 v4 rfl rfl) h4
  obtain ⟨s, rfl, rfl, rfl, _⟩ := open_string Tryd.underlying9 (hval 5 9 v5 rfl rfl) h5
  obtain ⟨x, e0, rfl, _⟩ := DataW.trod_int Tryd.underlying3 hy0
  obtain ⟨y, e1, rfl, _⟩ := DataW.trod_int Tryd.underlying3 hy1
  obtain ⟨d, e2, rfl, _⟩ := DataW.trod_string Tryd.underlying9 hy2
  obtain ⟨k, e3, rfl, _⟩ := DataW.trod_int Tryd.underlying3 hy3
  obtain ⟨t, e4, rfl, _⟩ := DataW.trod_int Tryd.underlying3 hy4
  obtain ⟨u, e5, rfl, _⟩ := DataW.trod_int Tryd.underlying3 hy5
  obtain ⟨b, e6, rfl, _⟩ := DataW.trod_string Tryd.underlying9 hy6
  simp at e0 e1 e2 e3 e4 e5 e6
  subst e0 e1 e2 e3 e4 e5 e6
  refine (rowSays_walk name key s d b n x y k t u W (rowSays_laid hL) (wf_range hn).1 (wf_range hn).2).mono fun e W' ⟨he, hb⟩ => ?_
  subst he
  exact ⟨_, rfl, law_post Tryd.laidOut (by kernel_rfl) Tryd.underlying4 rfl (by rw [Tryd.params4]; decide +kernel) hW' rfl hb⟩

theorem rowSays_said : Rows.RowSaysSaid :=
  OpenClaim.holds_of_cond 4 Tryd.f4 rfl rfl rfl rfl rfl rfl rfl ⟨rfl, rfl, rfl, rfl, rfl⟩ rfl rfl rfl rfl rfl (by kernel_rfl) Tryd.func4 (by kernel_rfl)
    (of_decide_eq_true (by kernel_rfl)) (by unfold Func.isWrapper; first | (rw [if_pos (by decide +kernel)]; kernel_rfl) | (rw [if_neg (by decide +kernel)]; exact ⟨rfl, rfl⟩))
    (fun os started H enc _ F => by rw [OpenClaim.pre_eq_preRow]; exact rowSays_lifted os started H enc F)

theorem rowSays_stands : ∀ t ∈ [9, 9, 3, 32, 34, 9], Tryd.prog.wantsStandIn t = false := by
  intro t ht
  simp only [List.mem_cons, List.not_mem_nil, or_false] at ht
  rcases ht with rfl | rfl | rfl | rfl | rfl | rfl <;> kernel_rfl
theorem rowSays_plain (f : FuncId) (fn : Func) (hf : Tryd.pinned.checked.prog.funcNamed Rows.rowSaysRow.func = some f) (hfn : Tryd.pinned.checked.prog.funcs[f]? = some fn) :
    true = Tryd.pinned.checked.prog.looks [] ∧ ∀ (j : Nat) t, fn.params[j]? = some t → Tryd.pinned.checked.prog.wantsStandIn t = false := by
  obtain rfl : f = 4 := Option.some.inj ((show Tryd.prog.funcNamed Rows.rowSaysRow.func = some 4 by kernel_rfl).symm.trans hf) |>.symm
  obtain rfl : fn = Tryd.f4 := (Option.some.inj (Tryd.func4.symm.trans hfn)).symm
  refine ⟨by kernel_rfl, fun j t ht => ?_⟩
  rw [Tryd.params4] at ht
  exact rowSays_stands t (by simpa using Array.mem_of_getElem? ht)

theorem rowSays_holds : Rows.RowSaysCardSaid :=
  Claim7.holds_tied_plain_at .later [] _ _ _ _ rowSays_said (fun _ h => by cases h) (by kernel_rfl) (fun _ h => by cases h) rowSays_row_tie rfl ⟨rfl, rfl⟩ (by kernel_rfl) rfl rowSays_plain (by kernel_rfl)
#print axioms rowSays_holds
end Go.Proofs.YtlndiohdjdgaoaaDoor
