/-
  From the walk of dominolaw03.ModularRing to the row's sentence.
-/
import Derived.Test.YtppdolmeeiookaaLawMRing
import Derived.Test.YtppdolmeeiookaaRows
import Derived.ProofKit
import Derived.ChangeMaps5
import Derived.Test.YtppdolmeeiookaaNumbers
namespace Go.Proofs.Ytppdolmeeiookaa
open Go.RowKit Num Go.ChangeShapes Go.WideShapes Go.ChangeAt
open Go.ChangeMaps (open_string shut_string)

theorem modularRing_own : ownKnob Try.prog.godebug = none := by kernel_rfl

set_option maxRecDepth 100000 in
theorem modularRing_lifted (os : Os) (started : os.Started) (H : Type) (enc : TypeId × Value → H) :
    ReturnsInHanded {} Try.checked os 6 .any (Rows.modularRingSpec.pre6 enc Try.prog Try.f6 Rows.modularRingRow.domain false) (Rows.modularRingSpec.post enc Try.prog Try.f6 false true false false) := by
  refine returnsInHanded_of_change (C := Try.checked) modularRing_own started (by kernel_rfl) Try.func6
    (ChangeSpec.witness6 (enc := enc) (C := Try.checked) false ⟨#[], #[.string ⟨#[]⟩, .string ⟨#[]⟩, .agg #[.string ⟨#[]⟩, .string ⟨#[]⟩, .bool false, .string ⟨#[]⟩, .string ⟨#[]⟩]], []⟩ 8 (by kernel_rfl) (by kernel_rfl) (by kernel_rfl) (by kernel_rfl)) ?_
  intro W base args ds gs before hval0 hW hcnd _
  have hval : ∀ (j : Nat) t v, Try.f6.params[j]? = some t → args[j]? = some v → Value.okWide Try.prog W .any base t v := hval0
  have hW' := hW
  obtain ⟨p, q, hA0, hV, rfl, hfz, hnd⟩ := hW
  have hA : DataW.TrodAll enc Try.prog W 0 (fun _ => true) true Try.f6.params.toList args.toList ds p := hA0
  rw [Try.params6] at hA hval
  obtain ⟨v0, v1, v2, d0, d1, d2, p0, p1, p2, rfl, rfl, rfl, t0, t1, t2⟩ := trodAll_three hA
  obtain ⟨rfl, rfl⟩ := trodVars_none hV
  obtain ⟨a0, rfl, rfl, rfl, w0⟩ := open_string Try.underlying24 (hval 0 24 v0 rfl rfl) t0
  obtain ⟨a1, rfl, rfl, rfl, w1⟩ := open_string Try.underlying24 (hval 1 24 v1 rfl rfl) t1
  obtain ⟨A2, B2, q2, E2, M2, rfl, rfl, rfl, wA2, wB2, wE2, wM2⟩ := open_numbers (hval 2 41 v2 rfl rfl) t2
  clear hA0 hval0
  simp only [List.append_nil] at hW'
  have h0 : a0.size ≤ 9223372036854775807 := by have := w0; unfold maxLen at this; omega
  have h1 : a1.size ≤ 9223372036854775807 := by have := w1; unfold maxLen at this; omega
  have hA2 : A2.size ≤ 9223372036854775807 := by have := wA2; unfold maxLen at this; omega
  have hB2 : B2.size ≤ 9223372036854775807 := by have := wB2; unfold maxLen at this; omega
  have hE2 : E2.size ≤ 9223372036854775807 := by have := wE2; unfold maxLen at this; omega
  have hM2 : M2.size ≤ 9223372036854775807 := by have := wM2; unfold maxLen at this; omega
  refine (law_mring a0 a1 A2 B2 E2 M2 q2 W h0 h1 hA2 hB2 hE2 hM2).mono fun e W' ⟨he, hg⟩ => ?_
  subst he
  refine ⟨_, rfl, _, _, _, [], [], [], hW', trodAll_mk1 (shut_bool Try.underlying4 _), trodAll_mk3 (shut_string Try.underlying24 w0) (shut_string Try.underlying24 w1) (shut_numbers wA2 wB2 wE2 wM2), rfl, World.keptBut_mono (fun _ h => ?_) (hg.frame (fun _ => False)), fun h => by cases h⟩
  cases h
end Go.Proofs.Ytppdolmeeiookaa
