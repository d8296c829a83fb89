/-
  From the walk of dominolaw09.PrimegroupPowers to the row's sentence.
-/
import Derived.Test.YtmiafkbjmkaebaaGreatLawGPow
import Derived.Test.YtmiafkbjmkaebaaGreatRows
import Derived.ProofKit
import Derived.ChangeMaps5
import Derived.Test.YtmiafkbjmkaebaaGreatPg
import Derived.Test.YtmiafkbjmkaebaaGreatProg
import Derived.Lib.SmallJoins
namespace Go.Proofs.YtmiafkbjmkaebaaGreat
open Go.RowKit Go.ChangeShapes Go.WideShapes Go.ChangeAt Go.Joins

set_option maxRecDepth 100000 in
theorem open_zint {H : Type} {enc : TypeId × Value → H} {w : World} {base b0 : Nat} {spare : Nat → Bool} {held : Bool} {r : Reach} {v : Value} {d : DataW H} {p : List MemPlace}
    (hv : Value.okWide Tryz.prog w r b0 38 v) (h : DataW.Trod enc Tryz.prog w base spare held 38 v d p) :
    ∃ (b : Bool) (s : ByteArray), v = .agg #[.bool b, .string s] ∧ d = .agg [.lit (.bool b), .lit (.string s.data.toList)] ∧ p = [] ∧ s.size ≤ maxLen := by
  obtain ⟨c0, c1, y0, y1, m, rfl, rfl, rfl, hy0, hy1⟩ := open_agg2 Tryz.underlying38 (by kernel_rfl) (by kernel_rfl) hv h
  obtain ⟨b, e0, rfl⟩ := DataW.trod_bool Tryz.underlying4 hy0
  obtain ⟨s, e1, rfl, hs⟩ := DataW.trod_string Tryz.underlying22 hy1
  simp at e0 e1
  subst e0 e1
  exact ⟨b, s, rfl, rfl, rfl, hs⟩
set_option maxRecDepth 100000 in
theorem shut_zint {H : Type} {enc : TypeId × Value → H} {w : World} {base : Nat} {spare : Nat → Bool} {held : Bool} {b : Bool} {s : ByteArray} (hs : s.size ≤ maxLen) :
    DataW.Trod enc Tryz.prog w base spare held 38 (.agg #[.bool b, .string s]) (.agg [.lit (.bool b), .lit (.string s.data.toList)]) [] :=
  shut_agg2 (y0 := (.lit (.bool b), [])) (y1 := (.lit (.string s.data.toList), [])) Tryz.underlying38 (by kernel_rfl) (by kernel_rfl) ⟨1, by simp [DataW.trod, Tryz.underlying4]⟩ ⟨1, by simp [DataW.trod, Tryz.underlying22, hs]⟩
end Go.Proofs.YtmiafkbjmkaebaaGreat

namespace Go.Proofs.YtmiafkbjmkaebaaGreat
open Go.RowKit Num Go.ChangeShapes Go.WideShapes Go.ChangeAt
open Go.ChangeMaps (open_string shut_string)

theorem primegroupPowers_own : ownKnob Tryz.prog.godebug = none := by kernel_rfl

set_option maxRecDepth 100000 in
theorem primegroupPowers_lifted (os : Os) (started : os.Started) (H : Type) (enc : TypeId × Value → H) :
    ReturnsInHanded {} Tryz.checked os 6 .any (Rows.primegroupPowersSpec.pre6 enc Tryz.prog Tryz.f6 Rows.primegroupPowersRow.domain false) (Rows.primegroupPowersSpec.post enc Tryz.prog Tryz.f6 false true false false) := by
  refine returnsInHanded_of_change (C := Tryz.checked) primegroupPowers_own started (by kernel_rfl) Tryz.func6
    (ChangeSpec.witness6 (enc := enc) (C := Tryz.checked) false ⟨#[], #[.agg #[.string ⟨#[]⟩, .string ⟨#[]⟩], .string ⟨#[]⟩, .agg #[.bool false, .string ⟨#[]⟩]], []⟩ 8 (by kernel_rfl) (by kernel_rfl) (by kernel_rfl) (by kernel_rfl)) ?_
  intro W base args ds gs before hval0 hW hcnd _
  have hval : ∀ (j : Nat) t v, Tryz.f6.params[j]? = some t → args[j]? = some v → Value.okWide Tryz.prog W .any base t v := hval0
  have hW' := hW
  obtain ⟨p, q, hA0, hV, rfl, hfz, hnd⟩ := hW
  have hA : DataW.TrodAll enc Tryz.prog W 0 (fun _ => true) true Tryz.f6.params.toList args.toList ds p := hA0
  rw [Tryz.params6] at hA hval
  obtain ⟨v0, v1, v2, d0, d1, d2, p0, p1, p2, rfl, rfl, rfl, t0, t1, t2⟩ := trodAll_three hA
  obtain ⟨rfl, rfl⟩ := trodVars_none hV
  obtain ⟨A0, B0, rfl, rfl, rfl, wA0, wB0⟩ := open_grp (hval 0 24 v0 rfl rfl) t0
  obtain ⟨a1, rfl, rfl, rfl, w1⟩ := open_string Tryz.underlying22 (hval 1 22 v1 rfl rfl) t1
  obtain ⟨b2, a2, rfl, rfl, rfl, w2⟩ := open_zint (hval 2 38 v2 rfl rfl) t2
  clear hA0 hval0
  simp only [List.append_nil] at hW'
  have hA0 : A0.size ≤ 9223372036854775807 := by have := wA0; unfold maxLen at this; omega
  have hB0 : B0.size ≤ 9223372036854775807 := by have := wB0; unfold maxLen at this; omega
  have h1 : a1.size ≤ 9223372036854775807 := by have := w1; unfold maxLen at this; omega
  have h2 : a2.size ≤ 9223372036854775807 := by have := w2; unfold maxLen at this; omega
  refine (law_gpow A0 B0 a1 a2 b2 W hA0 hB0 h1 h2).mono fun e W' ⟨he, hg⟩ => ?_
  subst he
  refine ⟨_, rfl, _, _, _, [], [], [], hW', trodAll_mk1 (shut_bool Tryz.underlying4 _), trodAll_mk3 (shut_grp wA0 wB0) (shut_string Tryz.underlying22 w1) (shut_zint w2), rfl, World.keptBut_mono (fun _ h => ?_) (hg.frame (fun _ => False)), fun h => by cases h⟩
  cases h
end Go.Proofs.YtmiafkbjmkaebaaGreat
