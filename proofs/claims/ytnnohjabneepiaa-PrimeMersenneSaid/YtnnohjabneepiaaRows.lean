/-
  No cell of these rows narrows 'for every input' (looked for: loops, veiled, ifaces, maps, wideKeys, modest, calm, conditions, laid).
  DERIVED. THE GIVEN ROWS OF THIS SEAT. 9 by the template 'for every input the law returns true; each argument reads behind the call as it read before'; 0 by the template 'total and deterministic' (their statements: YtnnohjabneepiaaTotals.lean).
  GIVEN WITH THE SEED: the statements are not yours to turn. If you find one false, say at which input.
  Laid BY PROGRAM, IN A SANDBOX (cutbox-rows.mjs): the forced cells as the released guide's own fill.sh prints them over the translation d554c244bb97d12d… (all of the seat's roots in one cut). By AI agents, Wed Nov 11 2026. No macro, syntax, notation, axiom, sorry.
-/
import Derived.Test.YtnnohjabneepiaaChecked
import GoSem.Claim
import GoSem.ClaimJoined
import GoSem.ClaimMapViews
import Derived.JoinedTies
import Derived.KernelRfl
namespace Go.Proofs.Ytnnohjabneepiaa
/- THE CELL 'sum', in the pinned program and in every row, IS THE sha256 OF THE DUMP (.gsa) THAT YtnnohjabneepiaaProg.lean LOADS. Nothing in Lean hashes anything: it is a label: what it is worth is what the hold of that sum in a sandbox is worth. -/
noncomputable def Try.pinned : Pinned := { name := "ytnnohjabneepiaa", sum := "d554c244bb97d12de58ea77bf92d8caab167dae7937ba301d5bf94e376670319", checked := Try.checked }
namespace Rows
def none {H : Type} : Left H := { results := [], args := [] }

/-- 'dominolaw04.PrimeTests': WHATEVER THE INPUT: true; the input reads as it did. -/
def primeTestsSpec : ChangeSpec := { name := "primeTests", fn := fun _ => fun
  | [d] => { results := [.lit (.bool true)], args := [d] }
  | _ => none }
def primeTestsRow : OpenClaim := { program := "ytnnohjabneepiaa", sum := "d554c244bb97d12de58ea77bf92d8caab167dae7937ba301d5bf94e376670319", func := "domino/dominolaw04.PrimeTests", spec := "primeTests", inPlace := ["math/bits.Add64", "math/bits.Sub64"], unfollowed := true, recurses := true, named := ["math/bits.divideError", "math/bits.overflowError"], apart := false }
def PrimeTestsSaid : Prop := primeTestsRow.holds Try.pinned (OpenSpec.ofChange primeTestsSpec)

/-- ITS FALSE NEIGHBOUR: 'it returns false'. Refute it at one input. -/
def primeTestsWrong : ChangeSpec := { name := "primeTests", fn := fun _ => fun
  | [d] => { results := [.lit (.bool false)], args := [d] }
  | _ => none }
def PrimeTestsWrongFalsely : Prop := primeTestsRow.holds Try.pinned (OpenSpec.ofChange primeTestsWrong)

/-- 'dominolaw04.PrimeDivides': WHATEVER THE INPUT: true; the input reads as it did. -/
def primeDividesSpec : ChangeSpec := { name := "primeDivides", fn := fun _ => fun
  | [d] => { results := [.lit (.bool true)], args := [d] }
  | _ => none }
def primeDividesRow : OpenClaim := { program := "ytnnohjabneepiaa", sum := "d554c244bb97d12de58ea77bf92d8caab167dae7937ba301d5bf94e376670319", func := "domino/dominolaw04.PrimeDivides", spec := "primeDivides", inPlace := ["math/bits.Add64", "math/bits.Sub64"], unfollowed := true, recurses := true, named := ["math/bits.divideError", "math/bits.overflowError"], apart := false }
def PrimeDividesSaid : Prop := primeDividesRow.holds Try.pinned (OpenSpec.ofChange primeDividesSpec)

/-- ITS FALSE NEIGHBOUR: 'it returns false'. Refute it at one input. -/
def primeDividesWrong : ChangeSpec := { name := "primeDivides", fn := fun _ => fun
  | [d] => { results := [.lit (.bool false)], args := [d] }
  | _ => none }
def PrimeDividesWrongFalsely : Prop := primeDividesRow.holds Try.pinned (OpenSpec.ofChange primeDividesWrong)

/-- 'dominolaw04.PrimeStrong': WHATEVER THE INPUT: true; the input reads as it did. -/
def primeStrongSpec : ChangeSpec := { name := "primeStrong", fn := fun _ => fun
  | [d1, d2] => { results := [.lit (.bool true)], args := [d1, d2] }
  | _ => none }
def primeStrongRow : OpenClaim := { program := "ytnnohjabneepiaa", sum := "d554c244bb97d12de58ea77bf92d8caab167dae7937ba301d5bf94e376670319", func := "domino/dominolaw04.PrimeStrong", spec := "primeStrong", inPlace := ["math/bits.Add64", "math/bits.Sub64"], unfollowed := true, recurses := true, named := ["math/bits.divideError", "math/bits.overflowError"], apart := false }
def PrimeStrongSaid : Prop := primeStrongRow.holds Try.pinned (OpenSpec.ofChange primeStrongSpec)

/-- ITS FALSE NEIGHBOUR: 'it returns false'. Refute it at one input. -/
def primeStrongWrong : ChangeSpec := { name := "primeStrong", fn := fun _ => fun
  | [d1, d2] => { results := [.lit (.bool false)], args := [d1, d2] }
  | _ => none }
def PrimeStrongWrongFalsely : Prop := primeStrongRow.holds Try.pinned (OpenSpec.ofChange primeStrongWrong)

/-- 'dominolaw04.PrimeMersenne': WHATEVER THE INPUT: true; the input reads as it did. -/
def primeMersenneSpec : ChangeSpec := { name := "primeMersenne", fn := fun _ => fun
  | [d1, d2] => { results := [.lit (.bool true)], args := [d1, d2] }
  | _ => none }
def primeMersenneRow : OpenClaim := { program := "ytnnohjabneepiaa", sum := "d554c244bb97d12de58ea77bf92d8caab167dae7937ba301d5bf94e376670319", func := "domino/dominolaw04.PrimeMersenne", spec := "primeMersenne", inPlace := ["math/bits.Add64", "math/bits.Sub64"], unfollowed := true, recurses := true, named := ["math/bits.divideError", "math/bits.overflowError"], apart := false }
def PrimeMersenneSaid : Prop := primeMersenneRow.holds Try.pinned (OpenSpec.ofChange primeMersenneSpec)

/-- ITS FALSE NEIGHBOUR: 'it returns false'. Refute it at one input. -/
def primeMersenneWrong : ChangeSpec := { name := "primeMersenne", fn := fun _ => fun
  | [d1, d2] => { results := [.lit (.bool false)], args := [d1, d2] }
  | _ => none }
def PrimeMersenneWrongFalsely : Prop := primeMersenneRow.holds Try.pinned (OpenSpec.ofChange primeMersenneWrong)

/-- 'dominolaw04.PrimeNexts': WHATEVER THE INPUT: true; the input reads as it did. -/
def primeNextsSpec : ChangeSpec := { name := "primeNexts", fn := fun _ => fun
  | [d] => { results := [.lit (.bool true)], args := [d] }
  | _ => none }
def primeNextsRow : OpenClaim := { program := "ytnnohjabneepiaa", sum := "d554c244bb97d12de58ea77bf92d8caab167dae7937ba301d5bf94e376670319", func := "domino/dominolaw04.PrimeNexts", spec := "primeNexts", inPlace := ["math/bits.Add64", "math/bits.Sub64"], unfollowed := true, recurses := true, named := ["math/bits.divideError", "math/bits.overflowError"], apart := false }
def PrimeNextsSaid : Prop := primeNextsRow.holds Try.pinned (OpenSpec.ofChange primeNextsSpec)

/-- ITS FALSE NEIGHBOUR: 'it returns false'. Refute it at one input. -/
def primeNextsWrong : ChangeSpec := { name := "primeNexts", fn := fun _ => fun
  | [d] => { results := [.lit (.bool false)], args := [d] }
  | _ => none }
def PrimeNextsWrongFalsely : Prop := primeNextsRow.holds Try.pinned (OpenSpec.ofChange primeNextsWrong)

/-- 'dominolaw04.PrimeBetween': WHATEVER THE INPUT: true; the input reads as it did. -/
def primeBetweenSpec : ChangeSpec := { name := "primeBetween", fn := fun _ => fun
  | [d] => { results := [.lit (.bool true)], args := [d] }
  | _ => none }
def primeBetweenRow : OpenClaim := { program := "ytnnohjabneepiaa", sum := "d554c244bb97d12de58ea77bf92d8caab167dae7937ba301d5bf94e376670319", func := "domino/dominolaw04.PrimeBetween", spec := "primeBetween", inPlace := ["math/bits.Add64", "math/bits.Sub64"], unfollowed := true, recurses := true, named := ["math/bits.divideError", "math/bits.overflowError"], apart := false }
def PrimeBetweenSaid : Prop := primeBetweenRow.holds Try.pinned (OpenSpec.ofChange primeBetweenSpec)

/-- ITS FALSE NEIGHBOUR: 'it returns false'. Refute it at one input. -/
def primeBetweenWrong : ChangeSpec := { name := "primeBetween", fn := fun _ => fun
  | [d] => { results := [.lit (.bool false)], args := [d] }
  | _ => none }
def PrimeBetweenWrongFalsely : Prop := primeBetweenRow.holds Try.pinned (OpenSpec.ofChange primeBetweenWrong)

/-- 'dominolaw04.PrimeSafes': WHATEVER THE INPUT: true; the input reads as it did. -/
def primeSafesSpec : ChangeSpec := { name := "primeSafes", fn := fun _ => fun
  | [d] => { results := [.lit (.bool true)], args := [d] }
  | _ => none }
def primeSafesRow : OpenClaim := { program := "ytnnohjabneepiaa", sum := "d554c244bb97d12de58ea77bf92d8caab167dae7937ba301d5bf94e376670319", func := "domino/dominolaw04.PrimeSafes", spec := "primeSafes", inPlace := ["math/bits.Add64", "math/bits.Sub64"], unfollowed := true, recurses := true, named := ["math/bits.divideError", "math/bits.overflowError"], apart := false }
def PrimeSafesSaid : Prop := primeSafesRow.holds Try.pinned (OpenSpec.ofChange primeSafesSpec)

/-- ITS FALSE NEIGHBOUR: 'it returns false'. Refute it at one input. -/
def primeSafesWrong : ChangeSpec := { name := "primeSafes", fn := fun _ => fun
  | [d] => { results := [.lit (.bool false)], args := [d] }
  | _ => none }
def PrimeSafesWrongFalsely : Prop := primeSafesRow.holds Try.pinned (OpenSpec.ofChange primeSafesWrong)

/-- 'dominolaw04.PrimeFactors': WHATEVER THE INPUT: true; the input reads as it did. -/
def primeFactorsSpec : ChangeSpec := { name := "primeFactors", fn := fun _ => fun
  | [d] => { results := [.lit (.bool true)], args := [d] }
  | _ => none }
def primeFactorsRow : OpenClaim := { program := "ytnnohjabneepiaa", sum := "d554c244bb97d12de58ea77bf92d8caab167dae7937ba301d5bf94e376670319", func := "domino/dominolaw04.PrimeFactors", spec := "primeFactors", inPlace := ["math/bits.Add64", "math/bits.Sub64"], unfollowed := true, recurses := true, named := ["math/bits.divideError", "math/bits.overflowError"], apart := false }
def PrimeFactorsSaid : Prop := primeFactorsRow.holds Try.pinned (OpenSpec.ofChange primeFactorsSpec)

/-- ITS FALSE NEIGHBOUR: 'it returns false'. Refute it at one input. -/
def primeFactorsWrong : ChangeSpec := { name := "primeFactors", fn := fun _ => fun
  | [d] => { results := [.lit (.bool false)], args := [d] }
  | _ => none }
def PrimeFactorsWrongFalsely : Prop := primeFactorsRow.holds Try.pinned (OpenSpec.ofChange primeFactorsWrong)

/-- 'dominolaw04.PrimeProducts': WHATEVER THE INPUT: true; the input reads as it did. -/
def primeProductsSpec : ChangeSpec := { name := "primeProducts", fn := fun _ => fun
  | [d] => { results := [.lit (.bool true)], args := [d] }
  | _ => none }
def primeProductsRow : OpenClaim := { program := "ytnnohjabneepiaa", sum := "d554c244bb97d12de58ea77bf92d8caab167dae7937ba301d5bf94e376670319", func := "domino/dominolaw04.PrimeProducts", spec := "primeProducts", inPlace := ["math/bits.Add64", "math/bits.Sub64"], unfollowed := true, recurses := true, named := ["math/bits.divideError", "math/bits.overflowError"], apart := false }
def PrimeProductsSaid : Prop := primeProductsRow.holds Try.pinned (OpenSpec.ofChange primeProductsSpec)

/-- ITS FALSE NEIGHBOUR: 'it returns false'. Refute it at one input. -/
def primeProductsWrong : ChangeSpec := { name := "primeProducts", fn := fun _ => fun
  | [d] => { results := [.lit (.bool false)], args := [d] }
  | _ => none }
def PrimeProductsWrongFalsely : Prop := primeProductsRow.holds Try.pinned (OpenSpec.ofChange primeProductsWrong)

/- THE SECOND FORM. 'bulk': how many values and letters a reading holds, each counted each time it is reached (what is shared counts as often as it is met; a slice's spare places count too). A statement '..UptoSaid' is the law's where the arguments, and the package variables that the reading takes, are together of bulk at most 1048576: NARROWER than '..Said'. Prove '..Said' where nothing that the law and all that it calls make is longer than what came in: it says more and counts as full. Else prove '..UptoSaid'. A law counts once. -/
mutual
def uptoBulk {H : Type} : DataW H → Nat
  | .lit (.string bytes) => bytes.length + 1
  | .lit _ => 1
  | .nil => 1
  | .ptr d => uptoBulk d + 1
  | .slice elems spare => uptoBulkAll elems + uptoBulkAll spare + 1
  | .agg parts => uptoBulkAll parts + 1
  | .iface _ d => uptoBulk d + 1
  | .map entries => uptoBulkEntries entries + 1
  | .held _ => 1
def uptoBulkAll {H : Type} : List (DataW H) → Nat
  | [] => 0
  | d :: r => uptoBulk d + uptoBulkAll r
def uptoBulkEntries {H : Type} : List (Lit × DataW H) → Nat
  | [] => 0
  | x :: r => uptoBulkEntry x + uptoBulkEntries r
def uptoBulkEntry {H : Type} : Lit × DataW H → Nat
  | (.string bytes, d) => bytes.length + uptoBulk d + 1
  | (_, d) => uptoBulk d + 1
 end
def uptoSmall : (H : Type) → List (DataW H) → Bool := fun _ ds => decide (uptoBulkAll ds ≤ 1048576)
def OpenSpec.upto (s : _root_.Go.ChangeSpec) : _root_.Go.OpenSpec := { _root_.Go.OpenSpec.ofChange s with cond := some uptoSmall }

/-- 'dominolaw04.PrimeTests', WHERE WHAT IT READS IS OF BULK AT MOST 1048576: true; the input reads as it did. -/
def primeTestsUptoRow : OpenClaim := { program := "ytnnohjabneepiaa", sum := "d554c244bb97d12de58ea77bf92d8caab167dae7937ba301d5bf94e376670319", func := "domino/dominolaw04.PrimeTests", spec := "primeTests", inPlace := ["math/bits.Add64", "math/bits.Sub64"], unfollowed := true, recurses := true, named := ["math/bits.divideError", "math/bits.overflowError"], apart := false, narrowed := true }
def PrimeTestsUptoSaid : Prop := primeTestsUptoRow.holds Try.pinned (OpenSpec.upto primeTestsSpec)

/-- 'dominolaw04.PrimeDivides', WHERE WHAT IT READS IS OF BULK AT MOST 1048576: true; the input reads as it did. -/
def primeDividesUptoRow : OpenClaim := { program := "ytnnohjabneepiaa", sum := "d554c244bb97d12de58ea77bf92d8caab167dae7937ba301d5bf94e376670319", func := "domino/dominolaw04.PrimeDivides", spec := "primeDivides", inPlace := ["math/bits.Add64", "math/bits.Sub64"], unfollowed := true, recurses := true, named := ["math/bits.divideError", "math/bits.overflowError"], apart := false, narrowed := true }
def PrimeDividesUptoSaid : Prop := primeDividesUptoRow.holds Try.pinned (OpenSpec.upto primeDividesSpec)

/-- 'dominolaw04.PrimeStrong', WHERE WHAT IT READS IS OF BULK AT MOST 1048576: true; the input reads as it did. -/
def primeStrongUptoRow : OpenClaim := { program := "ytnnohjabneepiaa", sum := "d554c244bb97d12de58ea77bf92d8caab167dae7937ba301d5bf94e376670319", func := "domino/dominolaw04.PrimeStrong", spec := "primeStrong", inPlace := ["math/bits.Add64", "math/bits.Sub64"], unfollowed := true, recurses := true, named := ["math/bits.divideError", "math/bits.overflowError"], apart := false, narrowed := true }
def PrimeStrongUptoSaid : Prop := primeStrongUptoRow.holds Try.pinned (OpenSpec.upto primeStrongSpec)

/-- 'dominolaw04.PrimeMersenne', WHERE WHAT IT READS IS OF BULK AT MOST 1048576: true; the input reads as it did. -/
def primeMersenneUptoRow : OpenClaim := { program := "ytnnohjabneepiaa", sum := "d554c244bb97d12de58ea77bf92d8caab167dae7937ba301d5bf94e376670319", func := "domino/dominolaw04.PrimeMersenne", spec := "primeMersenne", inPlace := ["math/bits.Add64", "math/bits.Sub64"], unfollowed := true, recurses := true, named := ["math/bits.divideError", "math/bits.overflowError"], apart := false, narrowed := true }
def PrimeMersenneUptoSaid : Prop := primeMersenneUptoRow.holds Try.pinned (OpenSpec.upto primeMersenneSpec)

/-- 'dominolaw04.PrimeNexts', WHERE WHAT IT READS IS OF BULK AT MOST 1048576: true; the input reads as it did. -/
def primeNextsUptoRow : OpenClaim := { program := "ytnnohjabneepiaa", sum := "d554c244bb97d12de58ea77bf92d8caab167dae7937ba301d5bf94e376670319", func := "domino/dominolaw04.PrimeNexts", spec := "primeNexts", inPlace := ["math/bits.Add64", "math/bits.Sub64"], unfollowed := true, recurses := true, named := ["math/bits.divideError", "math/bits.overflowError"], apart := false, narrowed := true }
def PrimeNextsUptoSaid : Prop := primeNextsUptoRow.holds Try.pinned (OpenSpec.upto primeNextsSpec)

/-- 'dominolaw04.PrimeBetween', WHERE WHAT IT READS IS OF BULK AT MOST 1048576: true; the input reads as it did. -/
def primeBetweenUptoRow : OpenClaim := { program := "ytnnohjabneepiaa", sum := "d554c244bb97d12de58ea77bf92d8caab167dae7937ba301d5bf94e376670319", func := "domino/dominolaw04.PrimeBetween", spec := "primeBetween", inPlace := ["math/bits.Add64", "math/bits.Sub64"], unfollowed := true, recurses := true, named := ["math/bits.divideError", "math/bits.overflowError"], apart := false, narrowed := true }
def PrimeBetweenUptoSaid : Prop := primeBetweenUptoRow.holds Try.pinned (OpenSpec.upto primeBetweenSpec)

/-- 'dominolaw04.PrimeSafes', WHERE WHAT IT READS IS OF BULK AT MOST 1048576: true; the input reads as it did. -/
def primeSafesUptoRow : OpenClaim := { program := "ytnnohjabneepiaa", sum := "d554c244bb97d12de58ea77bf92d8caab167dae7937ba301d5bf94e376670319", func := "domino/dominolaw04.PrimeSafes", spec := "primeSafes", inPlace := ["math/bits.Add64", "math/bits.Sub64"], unfollowed := true, recurses := true, named := ["math/bits.divideError", "math/bits.overflowError"], apart := false, narrowed := true }
def PrimeSafesUptoSaid : Prop := primeSafesUptoRow.holds Try.pinned (OpenSpec.upto primeSafesSpec)

/-- 'dominolaw04.PrimeFactors', WHERE WHAT IT READS IS OF BULK AT MOST 1048576: true; the input reads as it did. -/
def primeFactorsUptoRow : OpenClaim := { program := "ytnnohjabneepiaa", sum := "d554c244bb97d12de58ea77bf92d8caab167dae7937ba301d5bf94e376670319", func := "domino/dominolaw04.PrimeFactors", spec := "primeFactors", inPlace := ["math/bits.Add64", "math/bits.Sub64"], unfollowed := true, recurses := true, named := ["math/bits.divideError", "math/bits.overflowError"], apart := false, narrowed := true }
def PrimeFactorsUptoSaid : Prop := primeFactorsUptoRow.holds Try.pinned (OpenSpec.upto primeFactorsSpec)

/-- 'dominolaw04.PrimeProducts', WHERE WHAT IT READS IS OF BULK AT MOST 1048576: true; the input reads as it did. -/
def primeProductsUptoRow : OpenClaim := { program := "ytnnohjabneepiaa", sum := "d554c244bb97d12de58ea77bf92d8caab167dae7937ba301d5bf94e376670319", func := "domino/dominolaw04.PrimeProducts", spec := "primeProducts", inPlace := ["math/bits.Add64", "math/bits.Sub64"], unfollowed := true, recurses := true, named := ["math/bits.divideError", "math/bits.overflowError"], apart := false, narrowed := true }
def PrimeProductsUptoSaid : Prop := primeProductsUptoRow.holds Try.pinned (OpenSpec.upto primeProductsSpec)

end Rows
end Go.Proofs.Ytnnohjabneepiaa
