/-
  No cell of these rows narrows 'for every input' (looked for: loops, veiled, ifaces, maps, wideKeys, modest, calm, conditions, laid).
  DERIVED. THE GIVEN ROWS OF THIS SEAT. 6 by the template 'for every input the law returns true; each argument reads behind the call as it read before'; 0 by the template 'total and deterministic' (their statements: YtgchfponmaangaaTotals.lean).
  GIVEN WITH THE SEED: the statements are not yours to turn. If you find one false, say at which input.
  Laid BY PROGRAM, IN A SANDBOX (cutbox-rows.mjs): the forced cells as the released guide's own fill.sh prints them over the translation 8c39d31fbe8253d2… (all of the seat's roots in one cut). By AI agents, Wed Nov 11 2026. No macro, syntax, notation, axiom, sorry.
-/
import Derived.Test.YtgchfponmaangaaChecked
import GoSem.Claim
import GoSem.ClaimJoined
import GoSem.ClaimMapViews
import Derived.JoinedTies
import Derived.KernelRfl
namespace Go.Proofs.Ytgchfponmaangaa
/- THE CELL 'sum', in the pinned program and in every row, IS THE sha256 OF THE DUMP (.gsa) THAT YtgchfponmaangaaProg.lean LOADS. Nothing in Lean hashes anything: it is a label: what it is worth is what the hold of that sum in a sandbox is worth. -/
noncomputable def Try.pinned : Pinned := { name := "ytgchfponmaangaa", sum := "8c39d31fbe8253d22c19f8bb04bfa69152cc34b3cd06082240a39ebc9bf53aa6", checked := Try.checked }
namespace Rows
def none {H : Type} : Left H := { results := [], args := [] }

/-- 'dominolaw05.HashSums': WHATEVER THE INPUT: true; the input reads as it did. -/
def hashSumsSpec : ChangeSpec := { name := "hashSums", fn := fun _ => fun
  | [d] => { results := [.lit (.bool true)], args := [d] }
  | _ => none }
def hashSumsRow : OpenClaim := { program := "ytgchfponmaangaa", sum := "8c39d31fbe8253d22c19f8bb04bfa69152cc34b3cd06082240a39ebc9bf53aa6", func := "domino/dominolaw05.HashSums", spec := "hashSums", apart := false }
def HashSumsSaid : Prop := hashSumsRow.holds Try.pinned (OpenSpec.ofChange hashSumsSpec)

/-- ITS FALSE NEIGHBOUR: 'it returns false'. Refute it at one input. -/
def hashSumsWrong : ChangeSpec := { name := "hashSums", fn := fun _ => fun
  | [d] => { results := [.lit (.bool false)], args := [d] }
  | _ => none }
def HashSumsWrongFalsely : Prop := hashSumsRow.holds Try.pinned (OpenSpec.ofChange hashSumsWrong)

/-- 'dominolaw05.HashHexes': WHATEVER THE INPUT: true; the input reads as it did. -/
def hashHexesSpec : ChangeSpec := { name := "hashHexes", fn := fun _ => fun
  | [d] => { results := [.lit (.bool true)], args := [d] }
  | _ => none }
def hashHexesRow : OpenClaim := { program := "ytgchfponmaangaa", sum := "8c39d31fbe8253d22c19f8bb04bfa69152cc34b3cd06082240a39ebc9bf53aa6", func := "domino/dominolaw05.HashHexes", spec := "hashHexes", apart := false }
def HashHexesSaid : Prop := hashHexesRow.holds Try.pinned (OpenSpec.ofChange hashHexesSpec)

/-- ITS FALSE NEIGHBOUR: 'it returns false'. Refute it at one input. -/
def hashHexesWrong : ChangeSpec := { name := "hashHexes", fn := fun _ => fun
  | [d] => { results := [.lit (.bool false)], args := [d] }
  | _ => none }
def HashHexesWrongFalsely : Prop := hashHexesRow.holds Try.pinned (OpenSpec.ofChange hashHexesWrong)

/-- 'dominolaw05.HashMacs': WHATEVER THE INPUT: true; the input reads as it did. -/
def hashMacsSpec : ChangeSpec := { name := "hashMacs", fn := fun _ => fun
  | [d1, d2] => { results := [.lit (.bool true)], args := [d1, d2] }
  | _ => none }
def hashMacsRow : OpenClaim := { program := "ytgchfponmaangaa", sum := "8c39d31fbe8253d22c19f8bb04bfa69152cc34b3cd06082240a39ebc9bf53aa6", func := "domino/dominolaw05.HashMacs", spec := "hashMacs", apart := false }
def HashMacsSaid : Prop := hashMacsRow.holds Try.pinned (OpenSpec.ofChange hashMacsSpec)

/-- ITS FALSE NEIGHBOUR: 'it returns false'. Refute it at one input. -/
def hashMacsWrong : ChangeSpec := { name := "hashMacs", fn := fun _ => fun
  | [d1, d2] => { results := [.lit (.bool false)], args := [d1, d2] }
  | _ => none }
def HashMacsWrongFalsely : Prop := hashMacsRow.holds Try.pinned (OpenSpec.ofChange hashMacsWrong)

/-- 'dominolaw05.HashKeys': WHATEVER THE INPUT: true; the input reads as it did. -/
def hashKeysSpec : ChangeSpec := { name := "hashKeys", fn := fun _ => fun
  | [d1, d2] => { results := [.lit (.bool true)], args := [d1, d2] }
  | _ => none }
def hashKeysRow : OpenClaim := { program := "ytgchfponmaangaa", sum := "8c39d31fbe8253d22c19f8bb04bfa69152cc34b3cd06082240a39ebc9bf53aa6", func := "domino/dominolaw05.HashKeys", spec := "hashKeys", apart := false }
def HashKeysSaid : Prop := hashKeysRow.holds Try.pinned (OpenSpec.ofChange hashKeysSpec)

/-- ITS FALSE NEIGHBOUR: 'it returns false'. Refute it at one input. -/
def hashKeysWrong : ChangeSpec := { name := "hashKeys", fn := fun _ => fun
  | [d1, d2] => { results := [.lit (.bool false)], args := [d1, d2] }
  | _ => none }
def HashKeysWrongFalsely : Prop := hashKeysRow.holds Try.pinned (OpenSpec.ofChange hashKeysWrong)

/-- 'dominolaw05.HashPads': WHATEVER THE INPUT: true; the input reads as it did. -/
def hashPadsSpec : ChangeSpec := { name := "hashPads", fn := fun _ => fun
  | [d1, d2, d3] => { results := [.lit (.bool true)], args := [d1, d2, d3] }
  | _ => none }
def hashPadsRow : OpenClaim := { program := "ytgchfponmaangaa", sum := "8c39d31fbe8253d22c19f8bb04bfa69152cc34b3cd06082240a39ebc9bf53aa6", func := "domino/dominolaw05.HashPads", spec := "hashPads", apart := false }
def HashPadsSaid : Prop := hashPadsRow.holds Try.pinned (OpenSpec.ofChange hashPadsSpec)

/-- ITS FALSE NEIGHBOUR: 'it returns false'. Refute it at one input. -/
def hashPadsWrong : ChangeSpec := { name := "hashPads", fn := fun _ => fun
  | [d1, d2, d3] => { results := [.lit (.bool false)], args := [d1, d2, d3] }
  | _ => none }
def HashPadsWrongFalsely : Prop := hashPadsRow.holds Try.pinned (OpenSpec.ofChange hashPadsWrong)

/-- 'dominolaw05.HashReads': WHATEVER THE INPUT: true; the input reads as it did. -/
def hashReadsSpec : ChangeSpec := { name := "hashReads", fn := fun _ => fun
  | [d] => { results := [.lit (.bool true)], args := [d] }
  | _ => none }
def hashReadsRow : OpenClaim := { program := "ytgchfponmaangaa", sum := "8c39d31fbe8253d22c19f8bb04bfa69152cc34b3cd06082240a39ebc9bf53aa6", func := "domino/dominolaw05.HashReads", spec := "hashReads", apart := false }
def HashReadsSaid : Prop := hashReadsRow.holds Try.pinned (OpenSpec.ofChange hashReadsSpec)

/-- ITS FALSE NEIGHBOUR: 'it returns false'. Refute it at one input. -/
def hashReadsWrong : ChangeSpec := { name := "hashReads", fn := fun _ => fun
  | [d] => { results := [.lit (.bool false)], args := [d] }
  | _ => none }
def HashReadsWrongFalsely : Prop := hashReadsRow.holds Try.pinned (OpenSpec.ofChange hashReadsWrong)

/- THE SECOND FORM. 'bulk': how many values and letters a reading holds, each counted each time it is reached (what is shared counts as often as it is met; a slice's spare places count too). A statement '..UptoSaid' is the law's where the arguments, and the package variables that the reading takes, are together of bulk at most 1048576: NARROWER than '..Said'. Prove '..Said' where nothing that the law and all that it calls make is longer than what came in: it says more and counts as full. Else prove '..UptoSaid'. A law counts once. -/
mutual
def uptoBulk {H : Type} : DataW H → Nat
  | .lit (.string bytes) => bytes.length + 1
  | .lit _ => 1
  | .nil => 1
  | .ptr d => uptoBulk d + 1
  | .slice elems spare => uptoBulkAll elems + uptoBulkAll spare + 1
  | .agg parts => uptoBulkAll parts + 1
  | .iface _ d => uptoBulk d + 1
  | .map entries => uptoBulkEntries entries + 1
  | .held _ => 1
def uptoBulkAll {H : Type} : List (DataW H) → Nat
  | [] => 0
  | d :: r => uptoBulk d + uptoBulkAll r
def uptoBulkEntries {H : Type} : List (Lit × DataW H) → Nat
  | [] => 0
  | x :: r => uptoBulkEntry x + uptoBulkEntries r
def uptoBulkEntry {H : Type} : Lit × DataW H → Nat
  | (.string bytes, d) => bytes.length + uptoBulk d + 1
  | (_, d) => uptoBulk d + 1
 end
def uptoSmall : (H : Type) → List (DataW H) → Bool := fun _ ds => decide (uptoBulkAll ds ≤ 1048576)
def OpenSpec.upto (s : _root_.Go.ChangeSpec) : _root_.Go.OpenSpec := { _root_.Go.OpenSpec.ofChange s with cond := some uptoSmall }

/-- 'dominolaw05.HashSums', WHERE WHAT IT READS IS OF BULK AT MOST 1048576: true; the input reads as it did. -/
def hashSumsUptoRow : OpenClaim := { program := "ytgchfponmaangaa", sum := "8c39d31fbe8253d22c19f8bb04bfa69152cc34b3cd06082240a39ebc9bf53aa6", func := "domino/dominolaw05.HashSums", spec := "hashSums", apart := false, narrowed := true }
def HashSumsUptoSaid : Prop := hashSumsUptoRow.holds Try.pinned (OpenSpec.upto hashSumsSpec)

/-- 'dominolaw05.HashHexes', WHERE WHAT IT READS IS OF BULK AT MOST 1048576: true; the input reads as it did. -/
def hashHexesUptoRow : OpenClaim := { program := "ytgchfponmaangaa", sum := "8c39d31fbe8253d22c19f8bb04bfa69152cc34b3cd06082240a39ebc9bf53aa6", func := "domino/dominolaw05.HashHexes", spec := "hashHexes", apart := false, narrowed := true }
def HashHexesUptoSaid : Prop := hashHexesUptoRow.holds Try.pinned (OpenSpec.upto hashHexesSpec)

/-- 'dominolaw05.HashMacs', WHERE WHAT IT READS IS OF BULK AT MOST 1048576: true; the input reads as it did. -/
def hashMacsUptoRow : OpenClaim := { program := "ytgchfponmaangaa", sum := "8c39d31fbe8253d22c19f8bb04bfa69152cc34b3cd06082240a39ebc9bf53aa6", func := "domino/dominolaw05.HashMacs", spec := "hashMacs", apart := false, narrowed := true }
def HashMacsUptoSaid : Prop := hashMacsUptoRow.holds Try.pinned (OpenSpec.upto hashMacsSpec)

/-- 'dominolaw05.HashKeys', WHERE WHAT IT READS IS OF BULK AT MOST 1048576: true; the input reads as it did. -/
def hashKeysUptoRow : OpenClaim := { program := "ytgchfponmaangaa", sum := "8c39d31fbe8253d22c19f8bb04bfa69152cc34b3cd06082240a39ebc9bf53aa6", func := "domino/dominolaw05.HashKeys", spec := "hashKeys", apart := false, narrowed := true }
def HashKeysUptoSaid : Prop := hashKeysUptoRow.holds Try.pinned (OpenSpec.upto hashKeysSpec)

/-- 'dominolaw05.HashPads', WHERE WHAT IT READS IS OF BULK AT MOST 1048576: true; the input reads as it did. -/
def hashPadsUptoRow : OpenClaim := { program := "ytgchfponmaangaa", sum := "8c39d31fbe8253d22c19f8bb04bfa69152cc34b3cd06082240a39ebc9bf53aa6", func := "domino/dominolaw05.HashPads", spec := "hashPads", apart := false, narrowed := true }
def HashPadsUptoSaid : Prop := hashPadsUptoRow.holds Try.pinned (OpenSpec.upto hashPadsSpec)

/-- 'dominolaw05.HashReads', WHERE WHAT IT READS IS OF BULK AT MOST 1048576: true; the input reads as it did. -/
def hashReadsUptoRow : OpenClaim := { program := "ytgchfponmaangaa", sum := "8c39d31fbe8253d22c19f8bb04bfa69152cc34b3cd06082240a39ebc9bf53aa6", func := "domino/dominolaw05.HashReads", spec := "hashReads", apart := false, narrowed := true }
def HashReadsUptoSaid : Prop := hashReadsUptoRow.holds Try.pinned (OpenSpec.upto hashReadsSpec)

end Rows
end Go.Proofs.Ytgchfponmaangaa
