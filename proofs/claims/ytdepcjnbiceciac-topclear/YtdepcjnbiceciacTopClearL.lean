/-
  Deeds out of acts, and histories that hold them: what package certify's functions make of them.
-/
import Derived.Test.YtdepcjnbiceciacCertNote
import Derived.Test.YtdepcjnbiceciacCertClear2
import Derived.Test.YtdepcjnbiceciacCertForget
import Derived.Test.YtdepcjnbiceciacActMem
import Derived.Test.YtdepcjnbiceciacSpAppend
namespace Go.Proofs.Ytdepcjnbiceciac
open Go.RowKit Go.Joins

/-- the first k acts as deeds -/
def dsK (l : List ActL) (k : Nat) : List DeedL := (List.range k).map fun (i : Nat) => (⟨(i : Int) + 1, keysC ((l[i]?.map (·.chs)).getD [])⟩ : DeedL)
theorem dsK_succ {l : List ActL} {k : Nat} (hk : k < l.length) : dsK l (k + 1) = dsK l k ++ [⟨(k : Int) + 1, keysC l[k].chs⟩] := by
  unfold dsK
  rw [List.range_succ, List.map_append]
  simp [hk]
theorem dsK_rises (l : List ActL) (k : Nat) : risesD (dsK l k) := by
  unfold risesD dsK
  rw [List.pairwise_map]
  refine List.pairwise_lt_range.imp ?_
  intro a b h
  show (a : Int) + 1 < (b : Int) + 1
  omega
theorem dsK_top (l : List ActL) (k : Nat) : ∀ d ∈ dsK l k, d.n < (k : Int) + 1 := by
  intro d hd
  obtain ⟨i, hi, rfl⟩ := List.mem_map.1 hd
  have := List.mem_range.1 hi
  show (i : Int) + 1 < _
  omega
theorem dsK_len (l : List ActL) (k : Nat) : (dsK l k).length = k := by simp [dsK]
theorem light_chs {l : List ActL} {n : Nat} (h : lightActs l n = true) {i : Nat} (hi : i < l.length) : l[i].chs.length ≤ 20 ∧ l[i].sps.length ≤ 50 := by
  simp only [lightActs, Bool.and_eq_true, List.all_eq_true] at h
  have := h.2 _ (List.getElem_mem hi)
  simp only [lightAct, lightChgs, lightSpans, Bool.and_eq_true, decide_eq_true_eq] at this
  exact ⟨this.1.2.1, this.2.1⟩
theorem dsK_keys {l : List ActL} {n : Nat} (h : lightActs l n = true) (k : Nat) : ∀ d ∈ dsK l k, d.keys.length ≤ 1000000 := by
  intro d hd
  obtain ⟨i, hi, rfl⟩ := List.mem_map.1 hd
  show (keysC _).length ≤ _
  unfold keysC
  rw [List.length_map]
  by_cases hl : i < l.length
  · rw [List.getElem?_eq_getElem hl]
    have := (light_chs h hl).1
    simp only [Option.map_some, Option.getD_some]
    omega
  · rw [List.getElem?_eq_none (by omega)]
    simp

/-- block hb is a history that holds these deeds -/
def Hist (w : World) (B hb : Nat) (ds : List DeedL) : Prop := ∃ v dv, HistAt w B hb v dv ∧ ofDV dv = ds
theorem Hist.on {w w' : World} {B hb : Nat} {ds : List DeedL} (h : Hist w B hb ds) (hb' : Below w.heap.size w w') : Hist w' B hb ds := by
  obtain ⟨v, dv, h, e⟩ := h
  exact ⟨v, dv, h.on hb', e⟩
theorem ofDV_len {dv : List (DeedL × Value)} {ds : List DeedL} (h : ofDV dv = ds) : dv.length = ds.length := by rw [← h]; simp [ofDV]
theorem ofDV_keys {dv : List (DeedL × Value)} {ds : List DeedL} (h : ofDV dv = ds) (hk : ∀ d ∈ ds, d.keys.length ≤ 1000000) : ∀ p ∈ dv, p.1.keys.length ≤ 1000000 := fun p hp => hk p.1 (by rw [← h]; exact List.mem_map.2 ⟨p, hp, rfl⟩)
theorem note_h (ds : List DeedL) (B hb : Nat) (n : Int) (ao : Option Addr) (cap : Nat) (l : List Chg) (w : World) (h : Hist w B hb ds) (hr : risesD ds) (htop : ∀ d ∈ ds, d.n < n) (hB : B ≤ w.heap.size) (hn : ds.length ≤ 1000)
    (hl : heldCh w ao l) (hll : l.length ≤ 1000) (hoff : l ≠ [] → ∀ b off, ao = some ⟨b, off, none⟩ → b < B) :
    Calls Try.prog 16 #[.pointer (some ⟨hb, 0, none⟩), .int .i64 n, .slice ao l.length cap] w fun e w' => e = .returned (.tuple #[]) ∧ Hist w' B hb (ds ++ [⟨n, keysC l⟩]) ∧ Below B w w' := by
  obtain ⟨v, dv, h, rfl⟩ := h
  refine (note_any dv B hb v n ao cap l w h hr htop hB (by rw [ofDV_len rfl]; exact hn) hl hll (fun h0 b off e => h.far (hoff h0 b off e))).mono ?_
  rintro e w' ⟨rfl, v', dv', h', e', hb'⟩
  exact ⟨rfl, ⟨v', dv', h', e'⟩, hb'⟩
theorem clear_h (ds : List DeedL) (B hb : Nat) (n : Int) (l : List (ByteArray × ByteArray)) (ao : Option Addr) (cap : Nat) (w : World) (h : Hist w B hb ds) (hr : risesD ds) (hn : ds.length ≤ 1000) (hk : ∀ d ∈ ds, d.keys.length ≤ 1000000) (hl : heldSp w ao l) (hln : l.length ≤ maxLen) :
    Calls Try.prog 17 #[.pointer (some ⟨hb, 0, none⟩), .slice ao l.length cap, .int .i64 n] w fun e w' => e = .returned (.bool (clearD ds l n)) ∧ Below w.heap.size w w' := by
  obtain ⟨v, dv, h, rfl⟩ := h
  exact clear_any dv B hb v n l ao cap w h hr (by rw [ofDV_len rfl]; exact hn) (ofDV_keys rfl hk) hl hln
/-- what is forgotten; a list of spans that lies apart of the history stays -/
theorem forget_h (ds : List DeedL) (B hb : Nat) (n : Int) (w : World) (h : Hist w B hb ds) (hr : risesD ds) (hB : B ≤ w.heap.size) (hn : ds.length ≤ 1000) :
    Calls Try.prog 20 #[.pointer (some ⟨hb, 0, none⟩), .int .i64 n] w fun e w' => e = .returned (.tuple #[]) ∧ Hist w' B hb (ds.drop (aboveD ds n)) ∧ Below B w w' := by
  obtain ⟨v, dv, h, rfl⟩ := h
  refine (forget_any dv B hb v n w h hr hB (by rw [ofDV_len rfl]; exact hn)).mono ?_
  rintro e w' ⟨rfl, v', dv', h', rfl, hb', _⟩
  exact ⟨rfl, ⟨v', _, h', by simp [ofDV]⟩, hb'⟩
/-- the same, with what lies behind the history's blocks -/
theorem forget_behind (ds : List DeedL) (B hb : Nat) (n : Int) (w0 w : World) (h : Hist w0 B hb ds) (hw : Below w0.heap.size w0 w) (hr : risesD ds) (hB : B ≤ w0.heap.size) (hn : ds.length ≤ 1000) :
    Calls Try.prog 20 #[.pointer (some ⟨hb, 0, none⟩), .int .i64 n] w fun e w' => e = .returned (.tuple #[]) ∧ Hist w' B hb (ds.drop (aboveD ds n)) ∧ Below B w w' ∧ ∀ k, w0.heap.size ≤ k → k < w.heap.size → w'.heap[k]? = w.heap[k]? := by
  obtain ⟨v, dv, h, rfl⟩ := h
  refine (forget_any dv B hb v n w (h.on hw) hr (Nat.le_trans hB hw.size) (by rw [ofDV_len rfl]; exact hn)).mono ?_
  rintro e w' ⟨rfl, v', dv', h', rfl, hb', hf⟩
  refine ⟨rfl, ⟨v', _, h', by simp [ofDV]⟩, hb', fun k h1 h2 => hf k h2 ?_ ?_⟩
  · have := h.lt; omega
  · intro e
    have := (h.own.lt k e.symm).2
    omega
end Go.Proofs.Ytdepcjnbiceciac
