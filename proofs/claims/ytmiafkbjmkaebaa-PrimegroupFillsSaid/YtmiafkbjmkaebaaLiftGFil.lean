/-
  From the walk of dominolaw09.PrimegroupFills to the row's sentence.
-/
import Derived.Test.YtmiafkbjmkaebaaLawGFil
import Derived.Test.YtmiafkbjmkaebaaRows
import Derived.ProofKit
import Derived.ChangeMaps5
import Derived.Test.YtmiafkbjmkaebaaPg
namespace Go.Proofs.Ytmiafkbjmkaebaa
open Go.RowKit Num Go.ChangeShapes Go.WideShapes Go.ChangeAt
open Go.ChangeMaps (open_string shut_string)

theorem primegroupFills_own : ownKnob Try.prog.godebug = none := by kernel_rfl

set_option maxRecDepth 100000 in
theorem primegroupFills_lifted (os : Os) (started : os.Started) (H : Type) (enc : TypeId × Value → H) :
    ReturnsInHanded {} Try.checked os 4 .any (Rows.primegroupFillsSpec.pre6 enc Try.prog Try.f4 Rows.primegroupFillsRow.domain false) (Rows.primegroupFillsSpec.post enc Try.prog Try.f4 false true false false) := by
  refine returnsInHanded_of_change (C := Try.checked) primegroupFills_own started (by kernel_rfl) Try.func4
    (ChangeSpec.witness6 (enc := enc) (C := Try.checked) false ⟨#[], #[.agg #[.string ⟨#[]⟩, .string ⟨#[]⟩], .string ⟨#[]⟩], []⟩ 8 (by kernel_rfl) (by kernel_rfl) (by kernel_rfl) (by kernel_rfl)) ?_
  intro W base args ds gs before hval0 hW hcnd _
  have hval : ∀ (j : Nat) t v, Try.f4.params[j]? = some t → args[j]? = some v → Value.okWide Try.prog W .any base t v := hval0
  have hW' := hW
  obtain ⟨p, q, hA0, hV, rfl, hfz, hnd⟩ := hW
  have hA : DataW.TrodAll enc Try.prog W 0 (fun _ => true) true Try.f4.params.toList args.toList ds p := hA0
  rw [Try.params4] at hA hval
  obtain ⟨v0, v1, d0, d1, p0, p1, rfl, rfl, rfl, t0, t1⟩ := trodAll_two hA
  obtain ⟨rfl, rfl⟩ := trodVars_none hV
  obtain ⟨A0, B0, rfl, rfl, rfl, wA0, wB0⟩ := open_grp (hval 0 24 v0 rfl rfl) t0
  obtain ⟨a1, rfl, rfl, rfl, w1⟩ := open_string Try.underlying22 (hval 1 22 v1 rfl rfl) t1
  clear hA0 hval0
  simp only [List.append_nil] at hW'
  have hA0 : A0.size ≤ 9223372036854775807 := by have := wA0; unfold maxLen at this; omega
  have hB0 : B0.size ≤ 9223372036854775807 := by have := wB0; unfold maxLen at this; omega
  have h1 : a1.size ≤ 9223372036854775807 := by have := w1; unfold maxLen at this; omega
  refine (law_gfil A0 B0 a1 W hA0 hB0 h1).mono fun e W' ⟨he, hg⟩ => ?_
  subst he
  refine ⟨_, rfl, _, _, _, [], [], [], hW', trodAll_mk1 (shut_bool Try.underlying4 _), trodAll_mk2 (shut_grp wA0 wB0) (shut_string Try.underlying22 w1), rfl, World.keptBut_mono (fun _ h => ?_) (hg.frame (fun _ => False)), fun h => by cases h⟩
  cases h
end Go.Proofs.Ytmiafkbjmkaebaa
