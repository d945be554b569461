/-
  Plain facts on names and keys of rows as lists of bytes. Nothing of the program is named here.
-/
import Derived.Test.YtjphbmdmnicjpacStr
import Derived.Lib.Strings
import Derived.Lib.IndexBytes
namespace Go.Proofs.Ytjphbmdmnicjpac

def isLet (c : UInt8) : Bool := decide (97 ≤ c.toNat) && decide (c.toNat ≤ 122)
def isDig (c : UInt8) : Bool := decide (48 ≤ c.toNat) && decide (c.toNat ≤ 57)
/-- may this byte stand at this place of a name? -/
def nameAt (i : Nat) (c : UInt8) : Bool := isLet c || (decide (i ≠ 0) && isDig c)
def nameTo (l : List UInt8) (k : Nat) : Bool := (List.range k).all fun i => nameAt i (l.getD i 0)
def nameL (l : List UInt8) : Bool := decide (1 ≤ l.length) && decide (l.length ≤ 6) && nameTo l l.length
def digTo (l : List UInt8) (k : Nat) : Bool := (List.range k).all fun i => isDig (l.getD i 0)
def sixL (l : List UInt8) : Bool := decide (l.length = 6) && digTo l l.length

def namedL (k head : List UInt8) : Bool := Lib.hasPrefix k head && nameL (Lib.trimPrefix k head)
def messageOf (r : List UInt8) (i : Int) : Bool := decide (0 ≤ i) && (nameL (r.take i.toNat) && sixL (r.drop (i.toNat + 1)))
def messageL (k : List UInt8) : Bool := Lib.hasPrefix k [109, 47] && messageOf (Lib.trimPrefix k [109, 47]) (Lib.indexByte (Lib.trimPrefix k [109, 47]) 47)
def keyL (k : List UInt8) : Bool := namedL k [116, 47] || (namedL k [113, 47] || messageL k)

theorem nameTo_succ (l : List UInt8) (k : Nat) : nameTo l (k + 1) = (nameTo l k && nameAt k (l.getD k 0)) := by
  simp [nameTo, List.range_succ]
theorem digTo_succ (l : List UInt8) (k : Nat) : digTo l (k + 1) = (digTo l k && isDig (l.getD k 0)) := by
  simp [digTo, List.range_succ]
theorem nameTo_le {l : List UInt8} {k n : Nat} (h : k ≤ n) (hn : nameTo l k = false) : nameTo l n = false := by
  rw [nameTo, List.all_eq_false] at *
  obtain ⟨i, hi, h2⟩ := hn
  exact ⟨i, List.mem_range.2 (Nat.lt_of_lt_of_le (List.mem_range.1 hi) h), h2⟩
theorem digTo_le {l : List UInt8} {k n : Nat} (h : k ≤ n) (hn : digTo l k = false) : digTo l n = false := by
  rw [digTo, List.all_eq_false] at *
  obtain ⟨i, hi, h2⟩ := hn
  exact ⟨i, List.mem_range.2 (Nat.lt_of_lt_of_le (List.mem_range.1 hi) h), h2⟩
theorem byte_at (s : ByteArray) (k : Nat) (h : k < s.size) : s.data.toList.getD k 0 = s[k] := by
  rw [List.getD_eq_getElem?_getD, List.getElem?_eq_getElem (by simpa using h)]
  rfl
theorem len_data (s : ByteArray) : s.data.toList.length = s.size := by simp
end Go.Proofs.Ytjphbmdmnicjpac
