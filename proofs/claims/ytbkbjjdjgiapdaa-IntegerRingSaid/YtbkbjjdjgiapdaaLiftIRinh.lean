/-
  From the walk of dominolaw02.IntegerRing to the row's sentence.
-/
import Derived.Test.YtbkbjjdjgiapdaaLawIRinh
import Derived.Test.YtbkbjjdjgiapdaaRows
import Derived.ProofKit
import Derived.ChangeMaps5
import Derived.Test.YtbkbjjdjgiapdaaZint
namespace Go.Proofs.Ytbkbjjdjgiapdaa
open Go.RowKit Num Go.ChangeShapes Go.WideShapes Go.ChangeAt
open Go.ChangeMaps (open_string shut_string)

theorem integerRing_own : ownKnob Try.prog.godebug = none := by kernel_rfl

set_option maxRecDepth 100000 in
theorem integerRing_lifted (os : Os) (started : os.Started) (H : Type) (enc : TypeId × Value → H) :
    ReturnsInHanded {} Try.checked os 11 .any (Rows.integerRingSpec.pre6 enc Try.prog Try.f11 Rows.integerRingRow.domain false) (Rows.integerRingSpec.post enc Try.prog Try.f11 false true false false) := by
  refine returnsInHanded_of_change (C := Try.checked) integerRing_own started (by kernel_rfl) Try.func11
    (ChangeSpec.witness6 (enc := enc) (C := Try.checked) false ⟨#[], #[.agg #[.bool false, .string ⟨#[]⟩], .agg #[.bool false, .string ⟨#[]⟩], .agg #[.bool false, .string ⟨#[]⟩]], []⟩ 8 (by kernel_rfl) (by kernel_rfl) (by kernel_rfl) (by kernel_rfl)) ?_
  intro W base args ds gs before hval0 hW hcnd _
  have hval : ∀ (j : Nat) t v, Try.f11.params[j]? = some t → args[j]? = some v → Value.okWide Try.prog W .any base t v := hval0
  have hW' := hW
  obtain ⟨p, q, hA0, hV, rfl, hfz, hnd⟩ := hW
  have hA : DataW.TrodAll enc Try.prog W 0 (fun _ => true) true Try.f11.params.toList args.toList ds p := hA0
  rw [Try.params11] at hA hval
  obtain ⟨v0, v1, v2, d0, d1, d2, p0, p1, p2, rfl, rfl, rfl, t0, t1, t2⟩ := trodAll_three hA
  obtain ⟨rfl, rfl⟩ := trodVars_none hV
  obtain ⟨b0, a0, rfl, rfl, rfl, w0⟩ := open_zint (hval 0 37 v0 rfl rfl) t0
  obtain ⟨b1, a1, rfl, rfl, rfl, w1⟩ := open_zint (hval 1 37 v1 rfl rfl) t1
  obtain ⟨b2, a2, rfl, rfl, rfl, w2⟩ := open_zint (hval 2 37 v2 rfl rfl) t2
  clear hA0 hval0
  simp only [List.append_nil] at hW'
  have h0 : a0.size ≤ 9223372036854775807 := by have := w0; unfold maxLen at this; omega
  have h1 : a1.size ≤ 9223372036854775807 := by have := w1; unfold maxLen at this; omega
  have h2 : a2.size ≤ 9223372036854775807 := by have := w2; unfold maxLen at this; omega
  refine (law_iring b0 b1 b2 a0 a1 a2 W h0 h1 h2).mono fun e W' ⟨he, hg⟩ => ?_
  subst he
  refine ⟨_, rfl, _, _, _, [], [], [], hW', trodAll_mk1 (shut_bool Try.underlying4 _), trodAll_mk3 (shut_zint w0) (shut_zint w1) (shut_zint w2), rfl, World.keptBut_mono (fun _ h => ?_) (hg.frame (fun _ => False)), fun h => by cases h⟩
  cases h
end Go.Proofs.Ytbkbjjdjgiapdaa
