/-
  No cell of these rows narrows 'for every input' (looked for: loops, veiled, ifaces, maps, wideKeys, modest, calm, conditions, laid).
  DERIVED. THE GIVEN ROWS OF THIS SEAT. 5 by the template 'for every input the law returns true; each argument reads behind the call as it read before'; 0 by the template 'total and deterministic' (their statements: YtmiafkbjmkaebaaGreatTotals.lean).
  GIVEN WITH THE SEED: the statements are not yours to turn. If you find one false, say at which input.
  Laid BY PROGRAM, IN A SANDBOX (cutbox-rows.mjs): the forced cells as the released guide's own fill.sh prints them over the translation 2d1619760e463bce… (all of the seat's roots in one cut). By AI agents, Wed Nov 11 2026. No macro, syntax, notation, axiom, sorry.
-/
import Derived.Test.YtmiafkbjmkaebaaGreatChecked
import GoSem.Claim
import GoSem.ClaimJoined
import GoSem.ClaimMapViews
import Derived.JoinedTies
import Derived.KernelRfl
namespace Go.Proofs.YtmiafkbjmkaebaaGreat
/- THE CELL 'sum', in the pinned program and in every row, IS THE sha256 OF THE DUMP (.gsa) THAT YtmiafkbjmkaebaaGreatProg.lean LOADS. Nothing in Lean hashes anything: it is a label: what it is worth is what the hold of that sum in a sandbox is worth. -/
noncomputable def Tryz.pinned : Pinned := { name := "ytmiafkbjmkaebaagreat", sum := "2d1619760e463bce806ae108183b36d85a80cbc40cfd5ad4ccce8d99fa462863", checked := Tryz.checked }
namespace Rows
def none {H : Type} : Left H := { results := [], args := [] }

/-- 'dominolaw09.PrimegroupChecks': WHATEVER THE INPUT: true; the input reads as it did. -/
def primegroupChecksSpec : ChangeSpec := { name := "primegroupChecks", fn := fun _ => fun
  | [d] => { results := [.lit (.bool true)], args := [d] }
  | _ => none }
def primegroupChecksRow : OpenClaim := { program := "ytmiafkbjmkaebaagreat", sum := "2d1619760e463bce806ae108183b36d85a80cbc40cfd5ad4ccce8d99fa462863", func := "domino/dominolaw09.PrimegroupChecks", spec := "primegroupChecks", inPlace := ["math/bits.Add64", "math/bits.Sub64"], unfollowed := true, recurses := true, named := ["math/bits.divideError", "math/bits.overflowError"], apart := false }
def PrimegroupChecksSaid : Prop := primegroupChecksRow.holds Tryz.pinned (OpenSpec.ofChange primegroupChecksSpec)

/-- ITS FALSE NEIGHBOUR: 'it returns false'. Refute it at one input. -/
def primegroupChecksWrong : ChangeSpec := { name := "primegroupChecks", fn := fun _ => fun
  | [d] => { results := [.lit (.bool false)], args := [d] }
  | _ => none }
def PrimegroupChecksWrongFalsely : Prop := primegroupChecksRow.holds Tryz.pinned (OpenSpec.ofChange primegroupChecksWrong)

/-- 'dominolaw09.PrimegroupHas': WHATEVER THE INPUT: true; the input reads as it did. -/
def primegroupHasSpec : ChangeSpec := { name := "primegroupHas", fn := fun _ => fun
  | [d1, d2] => { results := [.lit (.bool true)], args := [d1, d2] }
  | _ => none }
def primegroupHasRow : OpenClaim := { program := "ytmiafkbjmkaebaagreat", sum := "2d1619760e463bce806ae108183b36d85a80cbc40cfd5ad4ccce8d99fa462863", func := "domino/dominolaw09.PrimegroupHas", spec := "primegroupHas", inPlace := ["math/bits.Add64", "math/bits.Sub64"], unfollowed := true, recurses := true, named := ["math/bits.divideError", "math/bits.overflowError"], apart := false }
def PrimegroupHasSaid : Prop := primegroupHasRow.holds Tryz.pinned (OpenSpec.ofChange primegroupHasSpec)

/-- ITS FALSE NEIGHBOUR: 'it returns false'. Refute it at one input. -/
def primegroupHasWrong : ChangeSpec := { name := "primegroupHas", fn := fun _ => fun
  | [d1, d2] => { results := [.lit (.bool false)], args := [d1, d2] }
  | _ => none }
def PrimegroupHasWrongFalsely : Prop := primegroupHasRow.holds Tryz.pinned (OpenSpec.ofChange primegroupHasWrong)

/-- 'dominolaw09.PrimegroupMultiplies': WHATEVER THE INPUT: true; the input reads as it did. -/
def primegroupMultipliesSpec : ChangeSpec := { name := "primegroupMultiplies", fn := fun _ => fun
  | [d1, d2, d3] => { results := [.lit (.bool true)], args := [d1, d2, d3] }
  | _ => none }
def primegroupMultipliesRow : OpenClaim := { program := "ytmiafkbjmkaebaagreat", sum := "2d1619760e463bce806ae108183b36d85a80cbc40cfd5ad4ccce8d99fa462863", func := "domino/dominolaw09.PrimegroupMultiplies", spec := "primegroupMultiplies", inPlace := ["math/bits.Add64", "math/bits.Sub64"], unfollowed := true, recurses := true, named := ["math/bits.divideError", "math/bits.overflowError"], apart := false }
def PrimegroupMultipliesSaid : Prop := primegroupMultipliesRow.holds Tryz.pinned (OpenSpec.ofChange primegroupMultipliesSpec)

/-- ITS FALSE NEIGHBOUR: 'it returns false'. Refute it at one input. -/
def primegroupMultipliesWrong : ChangeSpec := { name := "primegroupMultiplies", fn := fun _ => fun
  | [d1, d2, d3] => { results := [.lit (.bool false)], args := [d1, d2, d3] }
  | _ => none }
def PrimegroupMultipliesWrongFalsely : Prop := primegroupMultipliesRow.holds Tryz.pinned (OpenSpec.ofChange primegroupMultipliesWrong)

/-- 'dominolaw09.PrimegroupPowers': WHATEVER THE INPUT: true; the input reads as it did. -/
def primegroupPowersSpec : ChangeSpec := { name := "primegroupPowers", fn := fun _ => fun
  | [d1, d2, d3] => { results := [.lit (.bool true)], args := [d1, d2, d3] }
  | _ => none }
def primegroupPowersRow : OpenClaim := { program := "ytmiafkbjmkaebaagreat", sum := "2d1619760e463bce806ae108183b36d85a80cbc40cfd5ad4ccce8d99fa462863", func := "domino/dominolaw09.PrimegroupPowers", spec := "primegroupPowers", inPlace := ["math/bits.Add64", "math/bits.Sub64"], unfollowed := true, recurses := true, named := ["math/bits.divideError", "math/bits.overflowError"], apart := false }
def PrimegroupPowersSaid : Prop := primegroupPowersRow.holds Tryz.pinned (OpenSpec.ofChange primegroupPowersSpec)

/-- ITS FALSE NEIGHBOUR: 'it returns false'. Refute it at one input. -/
def primegroupPowersWrong : ChangeSpec := { name := "primegroupPowers", fn := fun _ => fun
  | [d1, d2, d3] => { results := [.lit (.bool false)], args := [d1, d2, d3] }
  | _ => none }
def PrimegroupPowersWrongFalsely : Prop := primegroupPowersRow.holds Tryz.pinned (OpenSpec.ofChange primegroupPowersWrong)

/-- 'dominolaw09.PrimegroupLogs': WHATEVER THE INPUT: true; the input reads as it did. -/
def primegroupLogsSpec : ChangeSpec := { name := "primegroupLogs", fn := fun _ => fun
  | [d1, d2, d3] => { results := [.lit (.bool true)], args := [d1, d2, d3] }
  | _ => none }
def primegroupLogsRow : OpenClaim := { program := "ytmiafkbjmkaebaagreat", sum := "2d1619760e463bce806ae108183b36d85a80cbc40cfd5ad4ccce8d99fa462863", func := "domino/dominolaw09.PrimegroupLogs", spec := "primegroupLogs", inPlace := ["math/bits.Add64", "math/bits.Sub64"], unfollowed := true, recurses := true, named := ["math/bits.divideError", "math/bits.overflowError"], apart := false }
def PrimegroupLogsSaid : Prop := primegroupLogsRow.holds Tryz.pinned (OpenSpec.ofChange primegroupLogsSpec)

/-- ITS FALSE NEIGHBOUR: 'it returns false'. Refute it at one input. -/
def primegroupLogsWrong : ChangeSpec := { name := "primegroupLogs", fn := fun _ => fun
  | [d1, d2, d3] => { results := [.lit (.bool false)], args := [d1, d2, d3] }
  | _ => none }
def PrimegroupLogsWrongFalsely : Prop := primegroupLogsRow.holds Tryz.pinned (OpenSpec.ofChange primegroupLogsWrong)

/- THE SECOND FORM. 'bulk': how many values and letters a reading holds, each counted each time it is reached (what is shared counts as often as it is met; a slice's spare places count too). A statement '..UptoSaid' is the law's where the arguments, and the package variables that the reading takes, are together of bulk at most 1048576: NARROWER than '..Said'. Prove '..Said' where nothing that the law and all that it calls make is longer than what came in: it says more and counts as full. Else prove '..UptoSaid'. A law counts once. -/
mutual
def uptoBulk {H : Type} : DataW H → Nat
  | .lit (.string bytes) => bytes.length + 1
  | .lit _ => 1
  | .nil => 1
  | .ptr d => uptoBulk d + 1
  | .slice elems spare => uptoBulkAll elems + uptoBulkAll spare + 1
  | .agg parts => uptoBulkAll parts + 1
  | .iface _ d => uptoBulk d + 1
  | .map entries => uptoBulkEntries entries + 1
  | .held _ => 1
def uptoBulkAll {H : Type} : List (DataW H) → Nat
  | [] => 0
  | d :: r => uptoBulk d + uptoBulkAll r
def uptoBulkEntries {H : Type} : List (Lit × DataW H) → Nat
  | [] => 0
  | x :: r => uptoBulkEntry x + uptoBulkEntries r
def uptoBulkEntry {H : Type} : Lit × DataW H → Nat
  | (.string bytes, d) => bytes.length + uptoBulk d + 1
  | (_, d) => uptoBulk d + 1
 end
def uptoSmall : (H : Type) → List (DataW H) → Bool := fun _ ds => decide (uptoBulkAll ds ≤ 1048576)
def OpenSpec.upto (s : _root_.Go.ChangeSpec) : _root_.Go.OpenSpec := { _root_.Go.OpenSpec.ofChange s with cond := some uptoSmall }

/-- 'dominolaw09.PrimegroupChecks', WHERE WHAT IT READS IS OF BULK AT MOST 1048576: true; the input reads as it did. -/
def primegroupChecksUptoRow : OpenClaim := { program := "ytmiafkbjmkaebaagreat", sum := "2d1619760e463bce806ae108183b36d85a80cbc40cfd5ad4ccce8d99fa462863", func := "domino/dominolaw09.PrimegroupChecks", spec := "primegroupChecks", inPlace := ["math/bits.Add64", "math/bits.Sub64"], unfollowed := true, recurses := true, named := ["math/bits.divideError", "math/bits.overflowError"], apart := false, narrowed := true }
def PrimegroupChecksUptoSaid : Prop := primegroupChecksUptoRow.holds Tryz.pinned (OpenSpec.upto primegroupChecksSpec)

/-- 'dominolaw09.PrimegroupHas', WHERE WHAT IT READS IS OF BULK AT MOST 1048576: true; the input reads as it did. -/
def primegroupHasUptoRow : OpenClaim := { program := "ytmiafkbjmkaebaagreat", sum := "2d1619760e463bce806ae108183b36d85a80cbc40cfd5ad4ccce8d99fa462863", func := "domino/dominolaw09.PrimegroupHas", spec := "primegroupHas", inPlace := ["math/bits.Add64", "math/bits.Sub64"], unfollowed := true, recurses := true, named := ["math/bits.divideError", "math/bits.overflowError"], apart := false, narrowed := true }
def PrimegroupHasUptoSaid : Prop := primegroupHasUptoRow.holds Tryz.pinned (OpenSpec.upto primegroupHasSpec)

/-- 'dominolaw09.PrimegroupMultiplies', WHERE WHAT IT READS IS OF BULK AT MOST 1048576: true; the input reads as it did. -/
def primegroupMultipliesUptoRow : OpenClaim := { program := "ytmiafkbjmkaebaagreat", sum := "2d1619760e463bce806ae108183b36d85a80cbc40cfd5ad4ccce8d99fa462863", func := "domino/dominolaw09.PrimegroupMultiplies", spec := "primegroupMultiplies", inPlace := ["math/bits.Add64", "math/bits.Sub64"], unfollowed := true, recurses := true, named := ["math/bits.divideError", "math/bits.overflowError"], apart := false, narrowed := true }
def PrimegroupMultipliesUptoSaid : Prop := primegroupMultipliesUptoRow.holds Tryz.pinned (OpenSpec.upto primegroupMultipliesSpec)

/-- 'dominolaw09.PrimegroupPowers', WHERE WHAT IT READS IS OF BULK AT MOST 1048576: true; the input reads as it did. -/
def primegroupPowersUptoRow : OpenClaim := { program := "ytmiafkbjmkaebaagreat", sum := "2d1619760e463bce806ae108183b36d85a80cbc40cfd5ad4ccce8d99fa462863", func := "domino/dominolaw09.PrimegroupPowers", spec := "primegroupPowers", inPlace := ["math/bits.Add64", "math/bits.Sub64"], unfollowed := true, recurses := true, named := ["math/bits.divideError", "math/bits.overflowError"], apart := false, narrowed := true }
def PrimegroupPowersUptoSaid : Prop := primegroupPowersUptoRow.holds Tryz.pinned (OpenSpec.upto primegroupPowersSpec)

/-- 'dominolaw09.PrimegroupLogs', WHERE WHAT IT READS IS OF BULK AT MOST 1048576: true; the input reads as it did. -/
def primegroupLogsUptoRow : OpenClaim := { program := "ytmiafkbjmkaebaagreat", sum := "2d1619760e463bce806ae108183b36d85a80cbc40cfd5ad4ccce8d99fa462863", func := "domino/dominolaw09.PrimegroupLogs", spec := "primegroupLogs", inPlace := ["math/bits.Add64", "math/bits.Sub64"], unfollowed := true, recurses := true, named := ["math/bits.divideError", "math/bits.overflowError"], apart := false, narrowed := true }
def PrimegroupLogsUptoSaid : Prop := primegroupLogsUptoRow.holds Tryz.pinned (OpenSpec.upto primegroupLogsSpec)

end Rows
end Go.Proofs.YtmiafkbjmkaebaaGreat
