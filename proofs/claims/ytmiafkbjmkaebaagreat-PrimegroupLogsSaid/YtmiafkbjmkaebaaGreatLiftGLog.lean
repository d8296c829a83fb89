/-
  From the walk of dominolaw09.PrimegroupLogs to the row's sentence.
-/
import Derived.Test.YtmiafkbjmkaebaaGreatLawGLog
import Derived.Test.YtmiafkbjmkaebaaGreatRows
import Derived.ProofKit
import Derived.ChangeMaps5
import Derived.Test.YtmiafkbjmkaebaaGreatPg
import Derived.Lib.SmallJoins
import Derived.OpenShut
namespace Go.Proofs.YtmiafkbjmkaebaaGreat
open Go.RowKit Go.ChangeShapes Go.WideShapes Go.ChangeAt Go.Joins Go.Deep

theorem pair_of {α : Type} {xs : List α} (h : xs.length = 2) : ∃ a b, xs = [a, b] := by
  match xs, h with
  | [a, b], _ => exact ⟨a, b, rfl⟩
theorem pair_ofA {α : Type} {cs : Array α} (h : cs.size = 2) : ∃ a b, cs = #[a, b] := by
  obtain ⟨l⟩ := cs
  match l, h with
  | [a, b], _ => exact ⟨a, b, rfl⟩
theorem okWide_arr {P : Program} {w : World} {r : Reach} {base : Nat} {t e : TypeId} {n : Nat} {v : Value} (ht : P.underlying t = some (.array n e)) (h : Value.okWide P w r base t v) : ∃ cs, v = .agg cs ∧ cs.size = P.cellsOf t := by
  simp only [Value.okWide, ht] at h
  obtain ⟨cs, h1, h2, _⟩ := h
  exact ⟨cs, h1, h2⟩

set_option maxRecDepth 100000 in
theorem open_pair {H : Type} {enc : TypeId × Value → H} {w : World} {base b0 : Nat} {spare : Nat → Bool} {held : Bool} {r : Reach} {v : Value} {d : DataW H} {p : List MemPlace}
    (hv : Value.okWide Tryz.prog w r b0 42 v) (h : DataW.Trod enc Tryz.prog w base spare held 42 v d p) :
    ∃ (S X : ByteArray), v = .agg #[.string S, .string X] ∧ d = .agg [.lit (.string S.data.toList), .lit (.string X.data.toList)] ∧ p = [] ∧ S.size ≤ maxLen ∧ X.size ≤ maxLen := by
  obtain ⟨cs, rfl, hsz⟩ := okWide_arr Tryz.underlying42 hv
  obtain ⟨c0, c1, rfl⟩ := pair_ofA (hsz.trans (by kernel_rfl))
  obtain ⟨fuel, hf⟩ := h
  obtain ⟨xs, n, _, hx, _, hlen, hq⟩ := DataW.trod_array Tryz.underlying42 hf
  obtain ⟨y0, y1, rfl⟩ := pair_of hlen
  have kN : Tryz.prog.cellsOf 22 = 1 := by kernel_rfl
  have h0 := hq 0 (by decide)
  have h1 := hq 1 (by decide)
  simp [Value.cells, kN] at h0 h1
  obtain ⟨S, e0, rfl, hS⟩ := DataW.trod_string Tryz.underlying22 h0
  obtain ⟨X, e1, rfl, hX⟩ := DataW.trod_string Tryz.underlying22 h1
  simp at e0 e1 hx
  subst e0 e1
  exact ⟨S, X, rfl, hx.1, hx.2, hS, hX⟩
set_option maxRecDepth 100000 in
theorem shut_pair {H : Type} {enc : TypeId × Value → H} {w : World} {base : Nat} {spare : Nat → Bool} {held : Bool} {S X : ByteArray} (hS : S.size ≤ maxLen) (hX : X.size ≤ maxLen) :
    DataW.Trod enc Tryz.prog w base spare held 42 (.agg #[.string S, .string X]) (.agg [.lit (.string S.data.toList), .lit (.string X.data.toList)]) [] := by
  have kN : Tryz.prog.cellsOf 22 = 1 := by kernel_rfl
  have kP : Tryz.prog.cellsOf 42 = 2 := by kernel_rfl
  have r2 : List.range 2 = [0, 1] := rfl
  exact ⟨2, by simp [DataW.trod, Value.cells, Tryz.underlying42, Tryz.underlying22, kN, kP, r2, hS, hX]⟩
end Go.Proofs.YtmiafkbjmkaebaaGreat

namespace Go.Proofs.YtmiafkbjmkaebaaGreat
open Go.RowKit Num Go.ChangeShapes Go.WideShapes Go.ChangeAt
open Go.ChangeMaps (open_string shut_string)

theorem primegroupLogs_own : ownKnob Tryz.prog.godebug = none := by kernel_rfl

set_option maxRecDepth 100000 in
theorem primegroupLogs_lifted (os : Os) (started : os.Started) (H : Type) (enc : TypeId × Value → H) :
    ReturnsInHanded {} Tryz.checked os 7 .any (Rows.primegroupLogsSpec.pre6 enc Tryz.prog Tryz.f7 Rows.primegroupLogsRow.domain false) (Rows.primegroupLogsSpec.post enc Tryz.prog Tryz.f7 false true false false) := by
  refine returnsInHanded_of_change (C := Tryz.checked) primegroupLogs_own started (by kernel_rfl) Tryz.func7
    (ChangeSpec.witness6 (enc := enc) (C := Tryz.checked) false ⟨#[], #[.agg #[.string ⟨#[]⟩, .string ⟨#[]⟩], .agg #[.string ⟨#[]⟩, .string ⟨#[]⟩], .int .i64 0], []⟩ 8 (by kernel_rfl) (by kernel_rfl) (by kernel_rfl) (by kernel_rfl)) ?_
  intro W base args ds gs before hval0 hW hcnd _
  have hval : ∀ (j : Nat) t v, Tryz.f7.params[j]? = some t → args[j]? = some v → Value.okWide Tryz.prog W .any base t v := hval0
  have hW' := hW
  obtain ⟨p, q, hA0, hV, rfl, hfz, hnd⟩ := hW
  have hA : DataW.TrodAll enc Tryz.prog W 0 (fun _ => true) true Tryz.f7.params.toList args.toList ds p := hA0
  rw [Tryz.params7] at hA hval
  obtain ⟨v0, v1, v2, d0, d1, d2, p0, p1, p2, rfl, rfl, rfl, t0, t1, t2⟩ := trodAll_three hA
  obtain ⟨rfl, rfl⟩ := trodVars_none hV
  obtain ⟨A0, B0, rfl, rfl, rfl, wA0, wB0⟩ := open_grp (hval 0 24 v0 rfl rfl) t0
  obtain ⟨S1, X1, rfl, rfl, rfl, wS1, wX1⟩ := open_pair (hval 1 42 v1 rfl rfl) t1
  obtain ⟨a2, rfl, rfl, rfl, w2⟩ := open_int Tryz.underlying3 (hval 2 3 v2 rfl rfl) t2
  clear hA0 hval0
  simp only [List.append_nil] at hW'
  have hA0 : A0.size ≤ 9223372036854775807 := by have := wA0; unfold maxLen at this; omega
  have hB0 : B0.size ≤ 9223372036854775807 := by have := wB0; unfold maxLen at this; omega
  have hS1 : S1.size ≤ 9223372036854775807 := by have := wS1; unfold maxLen at this; omega
  have hX1 : X1.size ≤ 9223372036854775807 := by have := wX1; unfold maxLen at this; omega
  have h2 : -9223372036854775808 ≤ a2 ∧ a2 ≤ 9223372036854775807 := by
    have := w2
    simp [Lit.wf, IntKind.min, IntKind.max, IntKind.signed, IntKind.bits] at this
    exact ⟨by omega, by omega⟩
  refine (law_glog A0 B0 S1 X1 a2 W hA0 hB0 hS1 hX1 h2).mono fun e W' ⟨he, hg⟩ => ?_
  subst he
  refine ⟨_, rfl, _, _, _, [], [], [], hW', trodAll_mk1 (shut_bool Tryz.underlying4 _), trodAll_mk3 (shut_grp wA0 wB0) (shut_pair wS1 wX1) (shut_int Tryz.underlying3 w2), rfl, World.keptBut_mono (fun _ h => ?_) (hg.frame (fun _ => False)), fun h => by cases h⟩
  cases h
end Go.Proofs.YtmiafkbjmkaebaaGreat
