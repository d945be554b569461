/-
  No cell of these rows narrows 'for every input' (looked for: loops, veiled, ifaces, maps, wideKeys, modest, calm, conditions, laid).
  DERIVED. THE GIVEN ROWS OF THIS SEAT. 5 by the template 'for every input the law returns true; each argument reads behind the call as it read before'; 0 by the template 'total and deterministic' (their statements: YtjphbmdmnicjpacTotals.lean).
  GIVEN WITH THE SEED: the statements are not yours to turn. If you find one false, say at which input.
  Laid BY PROGRAM, IN A SANDBOX (cutbox-rows.mjs): the forced cells as the released guide's own fill.sh prints them over the translation 7ce7fff09d2a4b01… (all of the seat's roots in one cut). By AI agents, Wed Nov 11 2026. No macro, syntax, notation, axiom, sorry.
-/
import Derived.Test.YtjphbmdmnicjpacChecked
import GoSem.Claim
import GoSem.ClaimJoined
import GoSem.ClaimMapViews
import Derived.JoinedTies
import Derived.KernelRfl
namespace Go.Proofs.Ytjphbmdmnicjpac
/- THE CELL 'sum', in the pinned program and in every row, IS THE sha256 OF THE DUMP (.gsa) THAT YtjphbmdmnicjpacProg.lean LOADS. Nothing in Lean hashes anything: it is a label: what it is worth is what the hold of that sum in a sandbox is worth. -/
noncomputable def Try.pinned : Pinned := { name := "ytjphbmdmnicjpac", sum := "7ce7fff09d2a4b01d47fc1fd8a140a9adb614a3c52b65f549f41f50e97720edd", checked := Try.checked }
namespace Rows
def none {H : Type} : Left H := { results := [], args := [] }

/-- 'haywaintop.TopVacuum': WHATEVER THE INPUT: true; the input reads as it did. -/
def topVacuumSpec : ChangeSpec := { name := "topVacuum", fn := fun _ => fun
  | [d1, d2, d3, d4] => { results := [.lit (.bool true)], args := [d1, d2, d3, d4] }
  | _ => none }
def topVacuumRow : OpenClaim := { program := "ytjphbmdmnicjpac", sum := "7ce7fff09d2a4b01d47fc1fd8a140a9adb614a3c52b65f549f41f50e97720edd", func := "haywain/haywaintop.TopVacuum", spec := "topVacuum", inPlace := ["internal/bytealg.IndexByteString", "internal/bytealg.IndexString", "internal/bytealg.abigen_runtime_cmpstring"], unfollowed := true, recurses := true, named := ["internal/bytealg.MaxLen"], apart := false }
def TopVacuumSaid : Prop := topVacuumRow.holds Try.pinned (OpenSpec.ofChange topVacuumSpec)

/-- ITS FALSE NEIGHBOUR: 'it returns false'. Refute it at one input. -/
def topVacuumWrong : ChangeSpec := { name := "topVacuum", fn := fun _ => fun
  | [d1, d2, d3, d4] => { results := [.lit (.bool false)], args := [d1, d2, d3, d4] }
  | _ => none }
def TopVacuumWrongFalsely : Prop := topVacuumRow.holds Try.pinned (OpenSpec.ofChange topVacuumWrong)

/-- 'haywaintop.TopClear': WHATEVER THE INPUT: true; the input reads as it did. -/
def topClearSpec : ChangeSpec := { name := "topClear", fn := fun _ => fun
  | [d1, d2, d3, d4] => { results := [.lit (.bool true)], args := [d1, d2, d3, d4] }
  | _ => none }
def topClearRow : OpenClaim := { program := "ytjphbmdmnicjpac", sum := "7ce7fff09d2a4b01d47fc1fd8a140a9adb614a3c52b65f549f41f50e97720edd", func := "haywain/haywaintop.TopClear", spec := "topClear", inPlace := ["slices.overlaps[haywain/certify.deed]"], unfollowed := true, recurses := true, apart := false }
def TopClearSaid : Prop := topClearRow.holds Try.pinned (OpenSpec.ofChange topClearSpec)

/-- ITS FALSE NEIGHBOUR: 'it returns false'. Refute it at one input. -/
def topClearWrong : ChangeSpec := { name := "topClear", fn := fun _ => fun
  | [d1, d2, d3, d4] => { results := [.lit (.bool false)], args := [d1, d2, d3, d4] }
  | _ => none }
def TopClearWrongFalsely : Prop := topClearRow.holds Try.pinned (OpenSpec.ofChange topClearWrong)

/-- 'haywaintop.TopOwn': WHATEVER THE INPUT: true; the input reads as it did. -/
def topOwnSpec : ChangeSpec := { name := "topOwn", fn := fun _ => fun
  | [d1, d2, d3] => { results := [.lit (.bool true)], args := [d1, d2, d3] }
  | _ => none }
def topOwnRow : OpenClaim := { program := "ytjphbmdmnicjpac", sum := "7ce7fff09d2a4b01d47fc1fd8a140a9adb614a3c52b65f549f41f50e97720edd", func := "haywain/haywaintop.TopOwn", spec := "topOwn", inPlace := ["internal/bytealg.IndexByteString", "internal/bytealg.IndexString"], unfollowed := true, recurses := true, named := ["internal/bytealg.MaxLen"], apart := false }
def TopOwnSaid : Prop := topOwnRow.holds Try.pinned (OpenSpec.ofChange topOwnSpec)

/-- ITS FALSE NEIGHBOUR: 'it returns false'. Refute it at one input. -/
def topOwnWrong : ChangeSpec := { name := "topOwn", fn := fun _ => fun
  | [d1, d2, d3] => { results := [.lit (.bool false)], args := [d1, d2, d3] }
  | _ => none }
def TopOwnWrongFalsely : Prop := topOwnRow.holds Try.pinned (OpenSpec.ofChange topOwnWrong)

/-- 'haywaintop.TopRead': WHATEVER THE INPUT: true; the input reads as it did. -/
def topReadSpec : ChangeSpec := { name := "topRead", fn := fun _ => fun
  | [d1, d2, d3, d4] => { results := [.lit (.bool true)], args := [d1, d2, d3, d4] }
  | _ => none }
def topReadRow : OpenClaim := { program := "ytjphbmdmnicjpac", sum := "7ce7fff09d2a4b01d47fc1fd8a140a9adb614a3c52b65f549f41f50e97720edd", func := "haywain/haywaintop.TopRead", spec := "topRead", inPlace := ["internal/bytealg.abigen_runtime_cmpstring", "slices.overlaps[haywain/api.Row]", "internal/bytealg.IndexByteString", "internal/bytealg.IndexString"], unfollowed := true, recurses := true, named := ["internal/bytealg.MaxLen"], apart := false }
def TopReadSaid : Prop := topReadRow.holds Try.pinned (OpenSpec.ofChange topReadSpec)

/-- ITS FALSE NEIGHBOUR: 'it returns false'. Refute it at one input. -/
def topReadWrong : ChangeSpec := { name := "topRead", fn := fun _ => fun
  | [d1, d2, d3, d4] => { results := [.lit (.bool false)], args := [d1, d2, d3, d4] }
  | _ => none }
def TopReadWrongFalsely : Prop := topReadRow.holds Try.pinned (OpenSpec.ofChange topReadWrong)

/-- 'haywainlaw.DiskSays': WHATEVER THE INPUT: true; the input reads as it did. -/
def diskSaysSpec : ChangeSpec := { name := "diskSays", fn := fun _ => fun
  | [d1, d2] => { results := [.lit (.bool true)], args := [d1, d2] }
  | _ => none }
def diskSaysRow : OpenClaim := { program := "ytjphbmdmnicjpac", sum := "7ce7fff09d2a4b01d47fc1fd8a140a9adb614a3c52b65f549f41f50e97720edd", func := "haywain/haywainlaw.DiskSays", spec := "diskSays", unfollowed := true, recurses := true, apart := false }
def DiskSaysSaid : Prop := diskSaysRow.holds Try.pinned (OpenSpec.ofChange diskSaysSpec)

/-- ITS FALSE NEIGHBOUR: 'it returns false'. Refute it at one input. -/
def diskSaysWrong : ChangeSpec := { name := "diskSays", fn := fun _ => fun
  | [d1, d2] => { results := [.lit (.bool false)], args := [d1, d2] }
  | _ => none }
def DiskSaysWrongFalsely : Prop := diskSaysRow.holds Try.pinned (OpenSpec.ofChange diskSaysWrong)

/- THE SECOND FORM. 'bulk': how many values and letters a reading holds, each counted each time it is reached (what is shared counts as often as it is met; a slice's spare places count too). A statement '..UptoSaid' is the law's where the arguments, and the package variables that the reading takes, are together of bulk at most 1048576: NARROWER than '..Said'. Prove '..Said' where nothing that the law and all that it calls make is longer than what came in: it says more and counts as full. Else prove '..UptoSaid'. A law counts once. -/
mutual
def uptoBulk {H : Type} : DataW H → Nat
  | .lit (.string bytes) => bytes.length + 1
  | .lit _ => 1
  | .nil => 1
  | .ptr d => uptoBulk d + 1
  | .slice elems spare => uptoBulkAll elems + uptoBulkAll spare + 1
  | .agg parts => uptoBulkAll parts + 1
  | .iface _ d => uptoBulk d + 1
  | .map entries => uptoBulkEntries entries + 1
  | .held _ => 1
def uptoBulkAll {H : Type} : List (DataW H) → Nat
  | [] => 0
  | d :: r => uptoBulk d + uptoBulkAll r
def uptoBulkEntries {H : Type} : List (Lit × DataW H) → Nat
  | [] => 0
  | x :: r => uptoBulkEntry x + uptoBulkEntries r
def uptoBulkEntry {H : Type} : Lit × DataW H → Nat
  | (.string bytes, d) => bytes.length + uptoBulk d + 1
  | (_, d) => uptoBulk d + 1
 end
def uptoSmall : (H : Type) → List (DataW H) → Bool := fun _ ds => decide (uptoBulkAll ds ≤ 1048576)
def OpenSpec.upto (s : _root_.Go.ChangeSpec) : _root_.Go.OpenSpec := { _root_.Go.OpenSpec.ofChange s with cond := some uptoSmall }

/-- 'haywaintop.TopVacuum', WHERE WHAT IT READS IS OF BULK AT MOST 1048576: true; the input reads as it did. -/
def topVacuumUptoRow : OpenClaim := { program := "ytjphbmdmnicjpac", sum := "7ce7fff09d2a4b01d47fc1fd8a140a9adb614a3c52b65f549f41f50e97720edd", func := "haywain/haywaintop.TopVacuum", spec := "topVacuum", inPlace := ["internal/bytealg.IndexByteString", "internal/bytealg.IndexString", "internal/bytealg.abigen_runtime_cmpstring"], unfollowed := true, recurses := true, named := ["internal/bytealg.MaxLen"], apart := false, narrowed := true }
def TopVacuumUptoSaid : Prop := topVacuumUptoRow.holds Try.pinned (OpenSpec.upto topVacuumSpec)

/-- 'haywaintop.TopClear', WHERE WHAT IT READS IS OF BULK AT MOST 1048576: true; the input reads as it did. -/
def topClearUptoRow : OpenClaim := { program := "ytjphbmdmnicjpac", sum := "7ce7fff09d2a4b01d47fc1fd8a140a9adb614a3c52b65f549f41f50e97720edd", func := "haywain/haywaintop.TopClear", spec := "topClear", inPlace := ["slices.overlaps[haywain/certify.deed]"], unfollowed := true, recurses := true, apart := false, narrowed := true }
def TopClearUptoSaid : Prop := topClearUptoRow.holds Try.pinned (OpenSpec.upto topClearSpec)

/-- 'haywaintop.TopOwn', WHERE WHAT IT READS IS OF BULK AT MOST 1048576: true; the input reads as it did. -/
def topOwnUptoRow : OpenClaim := { program := "ytjphbmdmnicjpac", sum := "7ce7fff09d2a4b01d47fc1fd8a140a9adb614a3c52b65f549f41f50e97720edd", func := "haywain/haywaintop.TopOwn", spec := "topOwn", inPlace := ["internal/bytealg.IndexByteString", "internal/bytealg.IndexString"], unfollowed := true, recurses := true, named := ["internal/bytealg.MaxLen"], apart := false, narrowed := true }
def TopOwnUptoSaid : Prop := topOwnUptoRow.holds Try.pinned (OpenSpec.upto topOwnSpec)

/-- 'haywaintop.TopRead', WHERE WHAT IT READS IS OF BULK AT MOST 1048576: true; the input reads as it did. -/
def topReadUptoRow : OpenClaim := { program := "ytjphbmdmnicjpac", sum := "7ce7fff09d2a4b01d47fc1fd8a140a9adb614a3c52b65f549f41f50e97720edd", func := "haywain/haywaintop.TopRead", spec := "topRead", inPlace := ["internal/bytealg.abigen_runtime_cmpstring", "slices.overlaps[haywain/api.Row]", "internal/bytealg.IndexByteString", "internal/bytealg.IndexString"], unfollowed := true, recurses := true, named := ["internal/bytealg.MaxLen"], apart := false, narrowed := true }
def TopReadUptoSaid : Prop := topReadUptoRow.holds Try.pinned (OpenSpec.upto topReadSpec)

/-- 'haywainlaw.DiskSays', WHERE WHAT IT READS IS OF BULK AT MOST 1048576: true; the input reads as it did. -/
def diskSaysUptoRow : OpenClaim := { program := "ytjphbmdmnicjpac", sum := "7ce7fff09d2a4b01d47fc1fd8a140a9adb614a3c52b65f549f41f50e97720edd", func := "haywain/haywainlaw.DiskSays", spec := "diskSays", unfollowed := true, recurses := true, apart := false, narrowed := true }
def DiskSaysUptoSaid : Prop := diskSaysUptoRow.holds Try.pinned (OpenSpec.upto diskSaysSpec)

end Rows
end Go.Proofs.Ytjphbmdmnicjpac
