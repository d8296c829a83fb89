/-
  No cell of these rows narrows 'for every input' (looked for: loops, veiled, ifaces, maps, wideKeys, modest, calm, conditions, laid).
  DERIVED. THE GIVEN ROWS OF THIS SEAT. 3 by the template 'for every input the law returns true; each argument reads behind the call as it read before'; 0 by the template 'total and deterministic' (their statements: YtppdolmeeiookaaGreatTotals.lean).
  GIVEN WITH THE SEED: the statements are not yours to turn. If you find one false, say at which input.
  Laid BY PROGRAM, IN A SANDBOX (cutbox-rows.mjs): the forced cells as the released guide's own fill.sh prints them over the translation fd8c0afbb31a55b4… (all of the seat's roots in one cut). By AI agents, Wed Nov 11 2026. No macro, syntax, notation, axiom, sorry.
-/
import Derived.Test.YtppdolmeeiookaaGreatChecked
import GoSem.Claim
import GoSem.ClaimJoined
import GoSem.ClaimMapViews
import Derived.JoinedTies
import Derived.KernelRfl
namespace Go.Proofs.YtppdolmeeiookaaGreat
/- THE CELL 'sum', in the pinned program and in every row, IS THE sha256 OF THE DUMP (.gsa) THAT YtppdolmeeiookaaGreatProg.lean LOADS. Nothing in Lean hashes anything: it is a label: what it is worth is what the hold of that sum in a sandbox is worth. -/
noncomputable def Tryz.pinned : Pinned := { name := "ytppdolmeeiookaagreat", sum := "fd8c0afbb31a55b407b4ec21547b38eef70ad5fc130e1a2cbdb3b0d0a12e2b35", checked := Tryz.checked }
namespace Rows
def none {H : Type} : Left H := { results := [], args := [] }

/-- 'dominolaw03.ModularAdds': WHATEVER THE INPUT: true; the input reads as it did. -/
def modularAddsSpec : ChangeSpec := { name := "modularAdds", fn := fun _ => fun
  | [d] => { results := [.lit (.bool true)], args := [d] }
  | _ => none }
def modularAddsRow : OpenClaim := { program := "ytppdolmeeiookaagreat", sum := "fd8c0afbb31a55b407b4ec21547b38eef70ad5fc130e1a2cbdb3b0d0a12e2b35", func := "domino/dominolaw03.ModularAdds", spec := "modularAdds", inPlace := ["math/bits.Add64", "math/bits.Sub64"], unfollowed := true, recurses := true, named := ["math/bits.divideError", "math/bits.overflowError"], apart := false }
def ModularAddsSaid : Prop := modularAddsRow.holds Tryz.pinned (OpenSpec.ofChange modularAddsSpec)

/-- ITS FALSE NEIGHBOUR: 'it returns false'. Refute it at one input. -/
def modularAddsWrong : ChangeSpec := { name := "modularAdds", fn := fun _ => fun
  | [d] => { results := [.lit (.bool false)], args := [d] }
  | _ => none }
def ModularAddsWrongFalsely : Prop := modularAddsRow.holds Tryz.pinned (OpenSpec.ofChange modularAddsWrong)

/-- 'dominolaw03.ModularRaises': WHATEVER THE INPUT: true; the input reads as it did. -/
def modularRaisesSpec : ChangeSpec := { name := "modularRaises", fn := fun _ => fun
  | [d] => { results := [.lit (.bool true)], args := [d] }
  | _ => none }
def modularRaisesRow : OpenClaim := { program := "ytppdolmeeiookaagreat", sum := "fd8c0afbb31a55b407b4ec21547b38eef70ad5fc130e1a2cbdb3b0d0a12e2b35", func := "domino/dominolaw03.ModularRaises", spec := "modularRaises", inPlace := ["math/bits.Add64", "math/bits.Sub64"], unfollowed := true, recurses := true, named := ["math/bits.divideError", "math/bits.overflowError"], apart := false }
def ModularRaisesSaid : Prop := modularRaisesRow.holds Tryz.pinned (OpenSpec.ofChange modularRaisesSpec)

/-- ITS FALSE NEIGHBOUR: 'it returns false'. Refute it at one input. -/
def modularRaisesWrong : ChangeSpec := { name := "modularRaises", fn := fun _ => fun
  | [d] => { results := [.lit (.bool false)], args := [d] }
  | _ => none }
def ModularRaisesWrongFalsely : Prop := modularRaisesRow.holds Tryz.pinned (OpenSpec.ofChange modularRaisesWrong)

/-- 'dominolaw03.ModularInverts': WHATEVER THE INPUT: true; the input reads as it did. -/
def modularInvertsSpec : ChangeSpec := { name := "modularInverts", fn := fun _ => fun
  | [d] => { results := [.lit (.bool true)], args := [d] }
  | _ => none }
def modularInvertsRow : OpenClaim := { program := "ytppdolmeeiookaagreat", sum := "fd8c0afbb31a55b407b4ec21547b38eef70ad5fc130e1a2cbdb3b0d0a12e2b35", func := "domino/dominolaw03.ModularInverts", spec := "modularInverts", inPlace := ["math/bits.Add64", "math/bits.Sub64"], unfollowed := true, recurses := true, named := ["math/bits.divideError", "math/bits.overflowError"], apart := false }
def ModularInvertsSaid : Prop := modularInvertsRow.holds Tryz.pinned (OpenSpec.ofChange modularInvertsSpec)

/-- ITS FALSE NEIGHBOUR: 'it returns false'. Refute it at one input. -/
def modularInvertsWrong : ChangeSpec := { name := "modularInverts", fn := fun _ => fun
  | [d] => { results := [.lit (.bool false)], args := [d] }
  | _ => none }
def ModularInvertsWrongFalsely : Prop := modularInvertsRow.holds Tryz.pinned (OpenSpec.ofChange modularInvertsWrong)

/- THE SECOND FORM. 'bulk': how many values and letters a reading holds, each counted each time it is reached (what is shared counts as often as it is met; a slice's spare places count too). A statement '..UptoSaid' is the law's where the arguments, and the package variables that the reading takes, are together of bulk at most 1048576: NARROWER than '..Said'. Prove '..Said' where nothing that the law and all that it calls make is longer than what came in: it says more and counts as full. Else prove '..UptoSaid'. A law counts once. -/
mutual
def uptoBulk {H : Type} : DataW H → Nat
  | .lit (.string bytes) => bytes.length + 1
  | .lit _ => 1
  | .nil => 1
  | .ptr d => uptoBulk d + 1
  | .slice elems spare => uptoBulkAll elems + uptoBulkAll spare + 1
  | .agg parts => uptoBulkAll parts + 1
  | .iface _ d => uptoBulk d + 1
  | .map entries => uptoBulkEntries entries + 1
  | .held _ => 1
def uptoBulkAll {H : Type} : List (DataW H) → Nat
  | [] => 0
  | d :: r => uptoBulk d + uptoBulkAll r
def uptoBulkEntries {H : Type} : List (Lit × DataW H) → Nat
  | [] => 0
  | x :: r => uptoBulkEntry x + uptoBulkEntries r
def uptoBulkEntry {H : Type} : Lit × DataW H → Nat
  | (.string bytes, d) => bytes.length + uptoBulk d + 1
  | (_, d) => uptoBulk d + 1
 end
def uptoSmall : (H : Type) → List (DataW H) → Bool := fun _ ds => decide (uptoBulkAll ds ≤ 1048576)
def OpenSpec.upto (s : _root_.Go.ChangeSpec) : _root_.Go.OpenSpec := { _root_.Go.OpenSpec.ofChange s with cond := some uptoSmall }

/-- 'dominolaw03.ModularAdds', WHERE WHAT IT READS IS OF BULK AT MOST 1048576: true; the input reads as it did. -/
def modularAddsUptoRow : OpenClaim := { program := "ytppdolmeeiookaagreat", sum := "fd8c0afbb31a55b407b4ec21547b38eef70ad5fc130e1a2cbdb3b0d0a12e2b35", func := "domino/dominolaw03.ModularAdds", spec := "modularAdds", inPlace := ["math/bits.Add64", "math/bits.Sub64"], unfollowed := true, recurses := true, named := ["math/bits.divideError", "math/bits.overflowError"], apart := false, narrowed := true }
def ModularAddsUptoSaid : Prop := modularAddsUptoRow.holds Tryz.pinned (OpenSpec.upto modularAddsSpec)

/-- 'dominolaw03.ModularRaises', WHERE WHAT IT READS IS OF BULK AT MOST 1048576: true; the input reads as it did. -/
def modularRaisesUptoRow : OpenClaim := { program := "ytppdolmeeiookaagreat", sum := "fd8c0afbb31a55b407b4ec21547b38eef70ad5fc130e1a2cbdb3b0d0a12e2b35", func := "domino/dominolaw03.ModularRaises", spec := "modularRaises", inPlace := ["math/bits.Add64", "math/bits.Sub64"], unfollowed := true, recurses := true, named := ["math/bits.divideError", "math/bits.overflowError"], apart := false, narrowed := true }
def ModularRaisesUptoSaid : Prop := modularRaisesUptoRow.holds Tryz.pinned (OpenSpec.upto modularRaisesSpec)

/-- 'dominolaw03.ModularInverts', WHERE WHAT IT READS IS OF BULK AT MOST 1048576: true; the input reads as it did. -/
def modularInvertsUptoRow : OpenClaim := { program := "ytppdolmeeiookaagreat", sum := "fd8c0afbb31a55b407b4ec21547b38eef70ad5fc130e1a2cbdb3b0d0a12e2b35", func := "domino/dominolaw03.ModularInverts", spec := "modularInverts", inPlace := ["math/bits.Add64", "math/bits.Sub64"], unfollowed := true, recurses := true, named := ["math/bits.divideError", "math/bits.overflowError"], apart := false, narrowed := true }
def ModularInvertsUptoSaid : Prop := modularInvertsUptoRow.holds Tryz.pinned (OpenSpec.upto modularInvertsSpec)

end Rows
end Go.Proofs.YtppdolmeeiookaaGreat
