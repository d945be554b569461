/-
  No cell of these rows narrows 'for every input' (looked for: loops, veiled, ifaces, maps, wideKeys, modest, calm, conditions, laid).
  DERIVED. THE GIVEN ROWS OF THIS SEAT. 6 by the template 'for every input the law returns true; each argument reads behind the call as it read before'; 0 by the template 'total and deterministic' (their statements: YtjphbmdmnicjpabTotals.lean).
  GIVEN WITH THE SEED: the statements are not yours to turn. If you find one false, say at which input.
  Laid BY PROGRAM, IN A SANDBOX (cutbox-rows.mjs): the forced cells as the released guide's own fill.sh prints them over the translation c7711d712ecdf234… (all of the seat's roots in one cut). By AI agents, Wed Nov 11 2026. No macro, syntax, notation, axiom, sorry.
-/
import Derived.Test.YtjphbmdmnicjpabChecked
import GoSem.Claim
import GoSem.ClaimJoined
import GoSem.ClaimMapViews
import Derived.JoinedTies
import Derived.KernelRfl
namespace Go.Proofs.Ytjphbmdmnicjpab
/- THE CELL 'sum', in the pinned program and in every row, IS THE sha256 OF THE DUMP (.gsa) THAT YtjphbmdmnicjpabProg.lean LOADS. Nothing in Lean hashes anything: it is a label: what it is worth is what the hold of that sum in a sandbox is worth. -/
noncomputable def Try.pinned : Pinned := { name := "ytjphbmdmnicjpab", sum := "c7711d712ecdf2341afb79ca1ea39d05283cb20316f6f305031234e3394e5387", checked := Try.checked }
namespace Rows
def none {H : Type} : Left H := { results := [], args := [] }

/-- 'haywaintop.TopSpan': WHATEVER THE INPUT: true; the input reads as it did. -/
def topSpanSpec : ChangeSpec := { name := "topSpan", fn := fun _ => fun
  | [d1, d2, d3, d4] => { results := [.lit (.bool true)], args := [d1, d2, d3, d4] }
  | _ => none }
def topSpanRow : OpenClaim := { program := "ytjphbmdmnicjpab", sum := "c7711d712ecdf2341afb79ca1ea39d05283cb20316f6f305031234e3394e5387", func := "haywain/haywaintop.TopSpan", spec := "topSpan", apart := false }
def TopSpanSaid : Prop := topSpanRow.holds Try.pinned (OpenSpec.ofChange topSpanSpec)

/-- ITS FALSE NEIGHBOUR: 'it returns false'. Refute it at one input. -/
def topSpanWrong : ChangeSpec := { name := "topSpan", fn := fun _ => fun
  | [d1, d2, d3, d4] => { results := [.lit (.bool false)], args := [d1, d2, d3, d4] }
  | _ => none }
def TopSpanWrongFalsely : Prop := topSpanRow.holds Try.pinned (OpenSpec.ofChange topSpanWrong)

/-- 'haywaintop.TopChange': WHATEVER THE INPUT: true; the input reads as it did. -/
def topChangeSpec : ChangeSpec := { name := "topChange", fn := fun _ => fun
  | [d1, d2, d3] => { results := [.lit (.bool true)], args := [d1, d2, d3] }
  | _ => none }
def topChangeRow : OpenClaim := { program := "ytjphbmdmnicjpab", sum := "c7711d712ecdf2341afb79ca1ea39d05283cb20316f6f305031234e3394e5387", func := "haywain/haywaintop.TopChange", spec := "topChange", inPlace := ["internal/bytealg.IndexByteString", "internal/bytealg.IndexString"], named := ["internal/bytealg.MaxLen"], apart := false }
def TopChangeSaid : Prop := topChangeRow.holds Try.pinned (OpenSpec.ofChange topChangeSpec)

/-- ITS FALSE NEIGHBOUR: 'it returns false'. Refute it at one input. -/
def topChangeWrong : ChangeSpec := { name := "topChange", fn := fun _ => fun
  | [d1, d2, d3] => { results := [.lit (.bool false)], args := [d1, d2, d3] }
  | _ => none }
def TopChangeWrongFalsely : Prop := topChangeRow.holds Try.pinned (OpenSpec.ofChange topChangeWrong)

/-- 'haywainlaw.VersionsSays': WHATEVER THE INPUT: true; the input reads as it did. -/
def versionsSaysSpec : ChangeSpec := { name := "versionsSays", fn := fun _ => fun
  | [d1, d2] => { results := [.lit (.bool true)], args := [d1, d2] }
  | _ => none }
def versionsSaysRow : OpenClaim := { program := "ytjphbmdmnicjpab", sum := "c7711d712ecdf2341afb79ca1ea39d05283cb20316f6f305031234e3394e5387", func := "haywain/haywainlaw.VersionsSays", spec := "versionsSays", inPlace := ["internal/bytealg.IndexByteString", "internal/bytealg.IndexString", "internal/bytealg.abigen_runtime_cmpstring"], unfollowed := true, recurses := true, named := ["internal/bytealg.MaxLen"], apart := false }
def VersionsSaysSaid : Prop := versionsSaysRow.holds Try.pinned (OpenSpec.ofChange versionsSaysSpec)

/-- ITS FALSE NEIGHBOUR: 'it returns false'. Refute it at one input. -/
def versionsSaysWrong : ChangeSpec := { name := "versionsSays", fn := fun _ => fun
  | [d1, d2] => { results := [.lit (.bool false)], args := [d1, d2] }
  | _ => none }
def VersionsSaysWrongFalsely : Prop := versionsSaysRow.holds Try.pinned (OpenSpec.ofChange versionsSaysWrong)

/-- 'haywainlaw.CertifySays': WHATEVER THE INPUT: true; the input reads as it did. -/
def certifySaysSpec : ChangeSpec := { name := "certifySays", fn := fun _ => fun
  | [d] => { results := [.lit (.bool true)], args := [d] }
  | _ => none }
def certifySaysRow : OpenClaim := { program := "ytjphbmdmnicjpab", sum := "c7711d712ecdf2341afb79ca1ea39d05283cb20316f6f305031234e3394e5387", func := "haywain/haywainlaw.CertifySays", spec := "certifySays", inPlace := ["slices.overlaps[haywain/certify.deed]"], unfollowed := true, recurses := true, apart := false }
def CertifySaysSaid : Prop := certifySaysRow.holds Try.pinned (OpenSpec.ofChange certifySaysSpec)

/-- ITS FALSE NEIGHBOUR: 'it returns false'. Refute it at one input. -/
def certifySaysWrong : ChangeSpec := { name := "certifySays", fn := fun _ => fun
  | [d] => { results := [.lit (.bool false)], args := [d] }
  | _ => none }
def CertifySaysWrongFalsely : Prop := certifySaysRow.holds Try.pinned (OpenSpec.ofChange certifySaysWrong)

/-- 'haywaintop.TopPast': WHATEVER THE INPUT: true; the input reads as it did. -/
def topPastSpec : ChangeSpec := { name := "topPast", fn := fun _ => fun
  | [d1, d2, d3, d4, d5] => { results := [.lit (.bool true)], args := [d1, d2, d3, d4, d5] }
  | _ => none }
def topPastRow : OpenClaim := { program := "ytjphbmdmnicjpab", sum := "c7711d712ecdf2341afb79ca1ea39d05283cb20316f6f305031234e3394e5387", func := "haywain/haywaintop.TopPast", spec := "topPast", inPlace := ["internal/bytealg.IndexByteString", "internal/bytealg.IndexString", "internal/bytealg.abigen_runtime_cmpstring"], unfollowed := true, recurses := true, named := ["internal/bytealg.MaxLen"], apart := false }
def TopPastSaid : Prop := topPastRow.holds Try.pinned (OpenSpec.ofChange topPastSpec)

/-- ITS FALSE NEIGHBOUR: 'it returns false'. Refute it at one input. -/
def topPastWrong : ChangeSpec := { name := "topPast", fn := fun _ => fun
  | [d1, d2, d3, d4, d5] => { results := [.lit (.bool false)], args := [d1, d2, d3, d4, d5] }
  | _ => none }
def TopPastWrongFalsely : Prop := topPastRow.holds Try.pinned (OpenSpec.ofChange topPastWrong)

/-- 'haywaintop.TopScan': WHATEVER THE INPUT: true; the input reads as it did. -/
def topScanSpec : ChangeSpec := { name := "topScan", fn := fun _ => fun
  | [d1, d2, d3, d4] => { results := [.lit (.bool true)], args := [d1, d2, d3, d4] }
  | _ => none }
def topScanRow : OpenClaim := { program := "ytjphbmdmnicjpab", sum := "c7711d712ecdf2341afb79ca1ea39d05283cb20316f6f305031234e3394e5387", func := "haywain/haywaintop.TopScan", spec := "topScan", inPlace := ["internal/bytealg.IndexByteString", "internal/bytealg.IndexString", "internal/bytealg.abigen_runtime_cmpstring"], unfollowed := true, recurses := true, named := ["internal/bytealg.MaxLen"], apart := false }
def TopScanSaid : Prop := topScanRow.holds Try.pinned (OpenSpec.ofChange topScanSpec)

/-- ITS FALSE NEIGHBOUR: 'it returns false'. Refute it at one input. -/
def topScanWrong : ChangeSpec := { name := "topScan", fn := fun _ => fun
  | [d1, d2, d3, d4] => { results := [.lit (.bool false)], args := [d1, d2, d3, d4] }
  | _ => none }
def TopScanWrongFalsely : Prop := topScanRow.holds Try.pinned (OpenSpec.ofChange topScanWrong)

/- THE SECOND FORM. 'bulk': how many values and letters a reading holds, each counted each time it is reached (what is shared counts as often as it is met; a slice's spare places count too). A statement '..UptoSaid' is the law's where the arguments, and the package variables that the reading takes, are together of bulk at most 1048576: NARROWER than '..Said'. Prove '..Said' where nothing that the law and all that it calls make is longer than what came in: it says more and counts as full. Else prove '..UptoSaid'. A law counts once. -/
mutual
def uptoBulk {H : Type} : DataW H → Nat
  | .lit (.string bytes) => bytes.length + 1
  | .lit _ => 1
  | .nil => 1
  | .ptr d => uptoBulk d + 1
  | .slice elems spare => uptoBulkAll elems + uptoBulkAll spare + 1
  | .agg parts => uptoBulkAll parts + 1
  | .iface _ d => uptoBulk d + 1
  | .map entries => uptoBulkEntries entries + 1
  | .held _ => 1
def uptoBulkAll {H : Type} : List (DataW H) → Nat
  | [] => 0
  | d :: r => uptoBulk d + uptoBulkAll r
def uptoBulkEntries {H : Type} : List (Lit × DataW H) → Nat
  | [] => 0
  | x :: r => uptoBulkEntry x + uptoBulkEntries r
def uptoBulkEntry {H : Type} : Lit × DataW H → Nat
  | (.string bytes, d) => bytes.length + uptoBulk d + 1
  | (_, d) => uptoBulk d + 1
 end
def uptoSmall : (H : Type) → List (DataW H) → Bool := fun _ ds => decide (uptoBulkAll ds ≤ 1048576)
def OpenSpec.upto (s : _root_.Go.ChangeSpec) : _root_.Go.OpenSpec := { _root_.Go.OpenSpec.ofChange s with cond := some uptoSmall }

/-- 'haywaintop.TopSpan', WHERE WHAT IT READS IS OF BULK AT MOST 1048576: true; the input reads as it did. -/
def topSpanUptoRow : OpenClaim := { program := "ytjphbmdmnicjpab", sum := "c7711d712ecdf2341afb79ca1ea39d05283cb20316f6f305031234e3394e5387", func := "haywain/haywaintop.TopSpan", spec := "topSpan", apart := false, narrowed := true }
def TopSpanUptoSaid : Prop := topSpanUptoRow.holds Try.pinned (OpenSpec.upto topSpanSpec)

/-- 'haywaintop.TopChange', WHERE WHAT IT READS IS OF BULK AT MOST 1048576: true; the input reads as it did. -/
def topChangeUptoRow : OpenClaim := { program := "ytjphbmdmnicjpab", sum := "c7711d712ecdf2341afb79ca1ea39d05283cb20316f6f305031234e3394e5387", func := "haywain/haywaintop.TopChange", spec := "topChange", inPlace := ["internal/bytealg.IndexByteString", "internal/bytealg.IndexString"], named := ["internal/bytealg.MaxLen"], apart := false, narrowed := true }
def TopChangeUptoSaid : Prop := topChangeUptoRow.holds Try.pinned (OpenSpec.upto topChangeSpec)

/-- 'haywainlaw.VersionsSays', WHERE WHAT IT READS IS OF BULK AT MOST 1048576: true; the input reads as it did. -/
def versionsSaysUptoRow : OpenClaim := { program := "ytjphbmdmnicjpab", sum := "c7711d712ecdf2341afb79ca1ea39d05283cb20316f6f305031234e3394e5387", func := "haywain/haywainlaw.VersionsSays", spec := "versionsSays", inPlace := ["internal/bytealg.IndexByteString", "internal/bytealg.IndexString", "internal/bytealg.abigen_runtime_cmpstring"], unfollowed := true, recurses := true, named := ["internal/bytealg.MaxLen"], apart := false, narrowed := true }
def VersionsSaysUptoSaid : Prop := versionsSaysUptoRow.holds Try.pinned (OpenSpec.upto versionsSaysSpec)

/-- 'haywainlaw.CertifySays', WHERE WHAT IT READS IS OF BULK AT MOST 1048576: true; the input reads as it did. -/
def certifySaysUptoRow : OpenClaim := { program := "ytjphbmdmnicjpab", sum := "c7711d712ecdf2341afb79ca1ea39d05283cb20316f6f305031234e3394e5387", func := "haywain/haywainlaw.CertifySays", spec := "certifySays", inPlace := ["slices.overlaps[haywain/certify.deed]"], unfollowed := true, recurses := true, apart := false, narrowed := true }
def CertifySaysUptoSaid : Prop := certifySaysUptoRow.holds Try.pinned (OpenSpec.upto certifySaysSpec)

/-- 'haywaintop.TopPast', WHERE WHAT IT READS IS OF BULK AT MOST 1048576: true; the input reads as it did. -/
def topPastUptoRow : OpenClaim := { program := "ytjphbmdmnicjpab", sum := "c7711d712ecdf2341afb79ca1ea39d05283cb20316f6f305031234e3394e5387", func := "haywain/haywaintop.TopPast", spec := "topPast", inPlace := ["internal/bytealg.IndexByteString", "internal/bytealg.IndexString", "internal/bytealg.abigen_runtime_cmpstring"], unfollowed := true, recurses := true, named := ["internal/bytealg.MaxLen"], apart := false, narrowed := true }
def TopPastUptoSaid : Prop := topPastUptoRow.holds Try.pinned (OpenSpec.upto topPastSpec)

/-- 'haywaintop.TopScan', WHERE WHAT IT READS IS OF BULK AT MOST 1048576: true; the input reads as it did. -/
def topScanUptoRow : OpenClaim := { program := "ytjphbmdmnicjpab", sum := "c7711d712ecdf2341afb79ca1ea39d05283cb20316f6f305031234e3394e5387", func := "haywain/haywaintop.TopScan", spec := "topScan", inPlace := ["internal/bytealg.IndexByteString", "internal/bytealg.IndexString", "internal/bytealg.abigen_runtime_cmpstring"], unfollowed := true, recurses := true, named := ["internal/bytealg.MaxLen"], apart := false, narrowed := true }
def TopScanUptoSaid : Prop := topScanUptoRow.holds Try.pinned (OpenSpec.upto topScanSpec)

end Rows
end Go.Proofs.Ytjphbmdmnicjpab
