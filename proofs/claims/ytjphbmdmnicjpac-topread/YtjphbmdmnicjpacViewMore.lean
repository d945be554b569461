/-
  What View.Put, View.Delete, View.Changes, View.Reads, View.Mark and View.Back make of a view that lies in memory.
-/
import Derived.Test.YtjphbmdmnicjpacViewPut
namespace Go.Proofs.Ytjphbmdmnicjpac
open Go.RowKit Go.Joins Go.Shelf
attribute [local go_sem ↓] Go.wp_at_zero Go.wp_at_succ

set_option maxHeartbeats 1000000 in
theorem vput_any (key val : ByteArray) {B wb vb : Nat} {since : Int} {cv rv : Value} {chs : List Chg} {rds : List (ByteArray × ByteArray)} (w : World) (h : VW w B wb vb since cv rv chs rds) (hB : B ≤ w.heap.size) (hn : chs.length ≤ 100) (hk : key.size ≤ maxLen) :
    Calls Try.prog 24 #[.pointer (some ⟨wb, 0, none⟩), .string key, .string val] w fun e w' => e = .returned (errV (alterF chs ⟨key, val, false⟩)) ∧ AlterAt w w' B wb vb since cv rv (alterL chs ⟨key, val, false⟩) rds := by
  have HV := hide h
  clear h
  go_enter Try.func24, Try.ntmps24
  go_wp2_with (go_at_call 65; refine (alter_any ⟨key, val, false⟩ _ HV.out hB hn hk).mono ?_; rintro e w1 ⟨rfl, ha⟩; have HA := hide ha; clear ha)
  go_ret
  exact ⟨rfl, HA.out⟩
set_option maxHeartbeats 1000000 in
theorem vdelete_any (key : ByteArray) {B wb vb : Nat} {since : Int} {cv rv : Value} {chs : List Chg} {rds : List (ByteArray × ByteArray)} (w : World) (h : VW w B wb vb since cv rv chs rds) (hB : B ≤ w.heap.size) (hn : chs.length ≤ 100) (hk : key.size ≤ maxLen) :
    Calls Try.prog 29 #[.pointer (some ⟨wb, 0, none⟩), .string key] w fun e w' => e = .returned (errV (alterF chs ⟨key, ⟨#[]⟩, true⟩)) ∧ AlterAt w w' B wb vb since cv rv (alterL chs ⟨key, ⟨#[]⟩, true⟩) rds := by
  have HV := hide h
  clear h
  go_enter Try.func29, Try.ntmps29
  go_wp2_with (go_at_call 65; refine (alter_any ⟨key, ⟨#[]⟩, true⟩ _ HV.out hB hn hk).mono ?_; rintro e w1 ⟨rfl, ha⟩; have HA := hide ha; clear ha)
  go_ret
  exact ⟨rfl, HA.out⟩
set_option maxHeartbeats 1000000 in
theorem changes_any {B wb vb : Nat} {since : Int} {cv rv : Value} {chs : List Chg} {rds : List (ByteArray × ByteArray)} (w : World) (h : VW w B wb vb since cv rv chs rds) (hn : chs.length ≤ 100) :
    Calls Try.prog 25 #[.pointer (some ⟨wb, 0, none⟩)] w fun e w' => ∃ v, e = .returned v ∧ ownCh w' w.heap.size v chs ∧ Below w.heap.size w w' := by
  have HC := hide h.chs
  have c2 := h.c2
  clear h
  go_enter Try.func25, Try.ntmps25
  go_wp2_with (go_at_call 66; refine (clone_own chs cv B _ HC.out (by omega)).mono ?_; rintro e w1 ⟨v, rfl, ho, hb⟩; have HO := hide ho; clear ho)
  go_ret
  exact ⟨v, rfl, HO.out, hb⟩
set_option maxHeartbeats 1000000 in
theorem mark_any {B wb vb : Nat} {since : Int} {cv rv : Value} {chs : List Chg} {rds : List (ByteArray × ByteArray)} (w : World) (h : VW w B wb vb since cv rv chs rds) (hn : chs.length ≤ 100) :
    Calls Try.prog 28 #[.pointer (some ⟨wb, 0, none⟩)] w fun e w' => ∃ v, e = .returned v ∧ ownCh w' w.heap.size v chs ∧ Below w.heap.size w w' := by
  have HV := hide h
  clear h
  go_enter Try.func28, Try.ntmps28
  go_wp2_with (go_at_call 25; refine (changes_any _ HV.out hn).mono ?_; rintro e w1 ⟨v, rfl, ho, hb⟩; have HO := hide ho; clear ho)
  go_ret
  exact ⟨v, rfl, HO.out, hb⟩
set_option maxHeartbeats 1000000 in
theorem reads_any {B wb vb : Nat} {since : Int} {cv rv : Value} {chs : List Chg} {rds : List (ByteArray × ByteArray)} (w : World) (h : VW w B wb vb since cv rv chs rds) (hn : rds.length ≤ 100) :
    Calls Try.prog 32 #[.pointer (some ⟨wb, 0, none⟩)] w fun e w' => ∃ v, e = .returned v ∧ ownSp w' w.heap.size v rds ∧ Below w.heap.size w w' := by
  have HC := hide h.rds
  have c3 := h.c3
  clear h
  go_enter Try.func32, Try.ntmps32
  go_wp2_with (go_at_call 77; refine (clone_sp rds rv B _ HC.out (by omega)).mono ?_; rintro e w1 ⟨v, rfl, ho, hb⟩; have HO := hide ho; clear ho)
  go_ret
  exact ⟨v, rfl, HO.out, hb⟩
set_option maxHeartbeats 1000000 in
theorem back_any {B wb vb B2 : Nat} {since : Int} {cv rv mv : Value} {chs mk : List Chg} {rds : List (ByteArray × ByteArray)} (w : World) (h : VW w B wb vb since cv rv chs rds) (hB : B ≤ w.heap.size) (hm : ownCh w B2 mv mk) (hn : mk.length ≤ 100) :
    Calls Try.prog 30 #[.pointer (some ⟨wb, 0, none⟩), mv] w fun e w' => e = .returned (.tuple #[]) ∧ AlterAt w w' B wb vb since cv rv mk rds := by
  have HV := hide h
  have HM := hide hm
  have c2 := h.c2
  have f2 := h.soft 2
  have hwb := h.lt (k := wb) (.inl rfl)
  clear h hm
  go_enter Try.func30, Try.ntmps30
  go_wp2_with (go_at_call 66; refine (clone_own mk mv B2 _ HM.out (by omega)).mono ?_; rintro e w1 ⟨v, rfl, ho, hb⟩; have HO := hide ho; obtain ⟨va, vc, rfl⟩ := own_shape ho; replace c2 := cell_on hb c2; replace f2 := frozen_on hb hwb f2; clear ho)
  go_end0
  exact ⟨rfl, alter_set HV.out hB hb HO.out⟩
end Go.Proofs.Ytjphbmdmnicjpac
