/-
  From the walk of dominolaw09.PrimegroupLaws to the row's sentence.
-/
import Derived.Test.YtmiafkbjmkaebaaLawGLws
import Derived.Test.YtmiafkbjmkaebaaRows
import Derived.ProofKit
import Derived.ChangeMaps5
import Derived.Lib.SmallJoins
namespace Go.Proofs.Ytmiafkbjmkaebaa
open Go.RowKit Go.ChangeShapes Go.WideShapes Go.ChangeAt Go.Joins Go.Deep

theorem five_of {α : Type} {xs : List α} (h : xs.length = 5) : ∃ a b c d e, xs = [a, b, c, d, e] := by
  match xs, h with
  | [a, b, c, d, e], _ => exact ⟨a, b, c, d, e, rfl⟩
theorem eight_of {α : Type} {cs : Array α} (h : cs.size = 8) : ∃ a b c d e f g i, cs = #[a, b, c, d, e, f, g, i] := by
  obtain ⟨l⟩ := cs
  match l, h with
  | [a, b, c, d, e, f, g, i], _ => exact ⟨a, b, c, d, e, f, g, i, rfl⟩

set_option maxRecDepth 100000 in
theorem open_two {H : Type} {enc : TypeId × Value → H} {w : World} {base b0 : Nat} {spare : Nat → Bool} {held : Bool} {r : Reach} {v : Value} {d : DataW H} {p : List MemPlace}
    (hv : Value.okWide Try.prog w r b0 28 v) (h : DataW.Trod enc Try.prog w base spare held 28 v d p) :
    ∃ (A B S T : ByteArray) (f : Bool) (D : ByteArray) (g : Bool) (E : ByteArray), v = .agg #[.string A, .string B, .string S, .string T, .bool f, .string D, .bool g, .string E] ∧
      d = .agg [.agg [.lit (.string A.data.toList), .lit (.string B.data.toList)], .lit (.string S.data.toList), .lit (.string T.data.toList), .agg [.lit (.bool f), .lit (.string D.data.toList)], .agg [.lit (.bool g), .lit (.string E.data.toList)]] ∧ p = [] ∧
      A.size ≤ maxLen ∧ B.size ≤ maxLen ∧ S.size ≤ maxLen ∧ T.size ≤ maxLen ∧ D.size ≤ maxLen ∧ E.size ≤ maxLen := by
  obtain ⟨cs, rfl, hsz⟩ := okWide_struct Try.underlying28 hv
  obtain ⟨c0, c1, c2, c3, c4, c5, c6, c7, rfl⟩ := eight_of (hsz.trans (by kernel_rfl))
  obtain ⟨fuel, hf⟩ := h
  obtain ⟨xs, n, _, hx, _, hlen, hq⟩ := DataW.trod_struct Try.underlying28 hf
  obtain ⟨y0, y1, y2, y3, y4, rfl⟩ := five_of hlen
  have kN : Try.prog.cellsOf 22 = 1 := by kernel_rfl
  have kI : Try.prog.cellsOf 26 = 2 := by kernel_rfl
  have kG : Try.prog.cellsOf 24 = 2 := by kernel_rfl
  have kB : Try.prog.cellsOf 4 = 1 := by kernel_rfl
  have h0 := hq 0 _ rfl
  have h1 := hq 1 _ rfl
  have h2 := hq 2 _ rfl
  have h3 := hq 3 _ rfl
  have h4 := hq 4 _ rfl
  simp [Value.cells, kN, kI, kG] at h0 h1 h2 h3 h4
  obtain ⟨z0, z1, n2, rfl, _, g0, g1⟩ := trod_struct2 Try.underlying24 h0
  simp [kN] at g0 g1
  obtain ⟨A, e0, rfl, hA⟩ := DataW.trod_string Try.underlying22 g0
  obtain ⟨B, e1, rfl, hB⟩ := DataW.trod_string Try.underlying22 g1
  obtain ⟨S, e2, rfl, hS⟩ := DataW.trod_string Try.underlying22 h1
  obtain ⟨T, e3, rfl, hT⟩ := DataW.trod_string Try.underlying22 h2
  obtain ⟨x0, x1, n3, rfl, _, i0, i1⟩ := trod_struct2 Try.underlying26 h3
  simp [kN, kB] at i0 i1
  obtain ⟨f, e4, rfl⟩ := DataW.trod_bool Try.underlying4 i0
  obtain ⟨D, e5, rfl, hD⟩ := DataW.trod_string Try.underlying22 i1
  obtain ⟨w0, w1, n4, rfl, _, j0, j1⟩ := trod_struct2 Try.underlying26 h4
  simp [kN, kB] at j0 j1
  obtain ⟨g, e6, rfl⟩ := DataW.trod_bool Try.underlying4 j0
  obtain ⟨E, e7, rfl, hE⟩ := DataW.trod_string Try.underlying22 j1
  simp at e0 e1 e2 e3 e4 e5 e6 e7 hx
  subst e0 e1 e2 e3 e4 e5 e6 e7
  exact ⟨A, B, S, T, f, D, g, E, rfl, hx.1, hx.2, hA, hB, hS, hT, hD, hE⟩
set_option maxRecDepth 100000 in
theorem shut_two {H : Type} {enc : TypeId × Value → H} {w : World} {base : Nat} {spare : Nat → Bool} {held : Bool} {A B S T D E : ByteArray} {f g : Bool} (hA : A.size ≤ maxLen) (hB : B.size ≤ maxLen) (hS : S.size ≤ maxLen) (hT : T.size ≤ maxLen) (hD : D.size ≤ maxLen) (hE : E.size ≤ maxLen) :
    DataW.Trod enc Try.prog w base spare held 28 (.agg #[.string A, .string B, .string S, .string T, .bool f, .string D, .bool g, .string E])
      (.agg [.agg [.lit (.string A.data.toList), .lit (.string B.data.toList)], .lit (.string S.data.toList), .lit (.string T.data.toList), .agg [.lit (.bool f), .lit (.string D.data.toList)], .agg [.lit (.bool g), .lit (.string E.data.toList)]]) [] := by
  have kN : Try.prog.cellsOf 22 = 1 := by kernel_rfl
  have kI : Try.prog.cellsOf 26 = 2 := by kernel_rfl
  have kG : Try.prog.cellsOf 24 = 2 := by kernel_rfl
  have kB : Try.prog.cellsOf 4 = 1 := by kernel_rfl
  have kS : Try.prog.cellsOf 28 = 8 := by kernel_rfl
  have tG : DataW.trod enc Try.prog w base spare held 2 24 [.string A, .string B] = some (.agg [.lit (.string A.data.toList), .lit (.string B.data.toList)], []) := by
    have := trod_struct2_mk (enc := enc) (P := Try.prog) (w := w) (base := base) (spare := spare) (held := held) (n := 1) (cs := [.string A, .string B]) (y0 := (.lit (.string A.data.toList), [])) (y1 := (.lit (.string B.data.toList), [])) Try.underlying24 (by simp [kG])
      (by simp [kN, DataW.trod, Try.underlying22, hA]) (by simp [kN, DataW.trod, Try.underlying22, hB])
    simpa using this
  have tI : ∀ (q : Bool) (E : ByteArray), E.size ≤ maxLen → DataW.trod enc Try.prog w base spare held 2 26 [.bool q, .string E] = some (.agg [.lit (.bool q), .lit (.string E.data.toList)], []) := fun q E hE => by
    have := trod_struct2_mk (enc := enc) (P := Try.prog) (w := w) (base := base) (spare := spare) (held := held) (n := 1) (cs := [.bool q, .string E]) (y0 := (.lit (.bool q), [])) (y1 := (.lit (.string E.data.toList), [])) Try.underlying26 (by simp [kI])
      (by simp [kB, DataW.trod, Try.underlying4]) (by simp [kN, DataW.trod, Try.underlying22, hE])
    simpa using this
  have tN : ∀ (S : ByteArray), S.size ≤ maxLen → DataW.trod enc Try.prog w base spare held 2 22 [.string S] = some (.lit (.string S.data.toList), []) := fun S hS => by
    simp [DataW.trod, Try.underlying22, hS]
  have ts := trod_struct_mk (enc := enc) (P := Try.prog) (w := w) (base := base) (spare := spare) (held := held) (n := 2) (cs := [.string A, .string B, .string S, .string T, .bool f, .string D, .bool g, .string E])
    (xs := [(.agg [.lit (.string A.data.toList), .lit (.string B.data.toList)], []), (.lit (.string S.data.toList), []), (.lit (.string T.data.toList), []), (.agg [.lit (.bool f), .lit (.string D.data.toList)], []), (.agg [.lit (.bool g), .lit (.string E.data.toList)], [])])
    Try.underlying28 (by simp [kS]) (by simp [kN, kI, kG, tG, tI f D hD, tI g E hE, tN S hS, tN T hT])
  exact ⟨_, by simpa [Value.cells] using ts⟩
end Go.Proofs.Ytmiafkbjmkaebaa

namespace Go.Proofs.Ytmiafkbjmkaebaa
open Go.RowKit Num Go.ChangeShapes Go.WideShapes Go.ChangeAt
open Go.ChangeMaps (open_string shut_string)

theorem primegroupLaws_own : ownKnob Try.prog.godebug = none := by kernel_rfl

set_option maxRecDepth 100000 in
theorem primegroupLaws_lifted (os : Os) (started : os.Started) (H : Type) (enc : TypeId × Value → H) :
    ReturnsInHanded {} Try.checked os 3 .any (Rows.primegroupLawsSpec.pre6 enc Try.prog Try.f3 Rows.primegroupLawsRow.domain false) (Rows.primegroupLawsSpec.post enc Try.prog Try.f3 false true false false) := by
  refine returnsInHanded_of_change (C := Try.checked) primegroupLaws_own started (by kernel_rfl) Try.func3
    (ChangeSpec.witness6 (enc := enc) (C := Try.checked) false ⟨#[], #[.agg #[.string ⟨#[]⟩, .string ⟨#[]⟩, .string ⟨#[]⟩, .string ⟨#[]⟩, .bool false, .string ⟨#[]⟩, .bool false, .string ⟨#[]⟩]], []⟩ 8 (by kernel_rfl) (by kernel_rfl) (by kernel_rfl) (by kernel_rfl)) ?_
  intro W base args ds gs before hval0 hW hcnd _
  have hval : ∀ (j : Nat) t v, Try.f3.params[j]? = some t → args[j]? = some v → Value.okWide Try.prog W .any base t v := hval0
  have hW' := hW
  obtain ⟨p, q, hA0, hV, rfl, hfz, hnd⟩ := hW
  have hA : DataW.TrodAll enc Try.prog W 0 (fun _ => true) true Try.f3.params.toList args.toList ds p := hA0
  rw [Try.params3] at hA hval
  obtain ⟨v0, d0, rfl, rfl, t0⟩ := trodAll_one hA
  obtain ⟨rfl, rfl⟩ := trodVars_none hV
  obtain ⟨A0, B0, S0, T0, f0, D0, g0, E0, rfl, rfl, rfl, wA0, wB0, wS0, wT0, wD0, wE0⟩ := open_two (hval 0 28 v0 rfl rfl) t0
  clear hA0 hval0
  simp only [List.append_nil] at hW'
  have hA0 : A0.size ≤ 9223372036854775807 := by have := wA0; unfold maxLen at this; omega
  have hB0 : B0.size ≤ 9223372036854775807 := by have := wB0; unfold maxLen at this; omega
  have hS0 : S0.size ≤ 9223372036854775807 := by have := wS0; unfold maxLen at this; omega
  have hT0 : T0.size ≤ 9223372036854775807 := by have := wT0; unfold maxLen at this; omega
  have hD0 : D0.size ≤ 9223372036854775807 := by have := wD0; unfold maxLen at this; omega
  have hE0 : E0.size ≤ 9223372036854775807 := by have := wE0; unfold maxLen at this; omega
  refine (law_glws A0 B0 S0 T0 D0 E0 f0 g0 W hA0 hB0 hS0 hT0 hD0 hE0).mono fun e W' ⟨he, hg⟩ => ?_
  subst he
  refine ⟨_, rfl, _, _, _, [], [], [], hW', trodAll_mk1 (shut_bool Try.underlying4 _), trodAll_mk1 (shut_two wA0 wB0 wS0 wT0 wD0 wE0), rfl, World.keptBut_mono (fun _ h => ?_) (hg.frame (fun _ => False)), fun h => by cases h⟩
  cases h
end Go.Proofs.Ytmiafkbjmkaebaa
