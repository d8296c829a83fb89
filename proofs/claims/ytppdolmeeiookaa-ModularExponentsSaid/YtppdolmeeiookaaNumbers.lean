/-
  An argument that is a struct of two numbers, an integer and a modulus (dominolaw03.Numbers), opened and shut.
-/
import Derived.Test.YtppdolmeeiookaaProg
import Derived.ProofKit
import Derived.ChangeMaps5
import Derived.Lib.SmallJoins
namespace Go.Proofs.Ytppdolmeeiookaa
open Go.RowKit Go.ChangeShapes Go.WideShapes Go.ChangeAt Go.Joins Go.Deep

theorem array5 {α : Type} {cs : Array α} (h : cs.size = 5) : ∃ c0 c1 c2 c3 c4, cs = #[c0, c1, c2, c3, c4] := by
  obtain ⟨l⟩ := cs
  match l, h with
  | [c0, c1, c2, c3, c4], _ => exact ⟨c0, c1, c2, c3, c4, rfl⟩

set_option maxRecDepth 100000 in
theorem open_numbers {H : Type} {enc : TypeId × Value → H} {w : World} {base b0 : Nat} {spare : Nat → Bool} {held : Bool} {r : Reach} {v : Value} {d : DataW H} {p : List MemPlace}
    (hv : Value.okWide Try.prog w r b0 41 v) (h : DataW.Trod enc Try.prog w base spare held 41 v d p) :
    ∃ (A B : ByteArray) (q : Bool) (E M : ByteArray), v = .agg #[.string A, .string B, .bool q, .string E, .string M] ∧
      d = .agg [.lit (.string A.data.toList), .lit (.string B.data.toList), .agg [.lit (.bool q), .lit (.string E.data.toList)], .lit (.string M.data.toList)] ∧ p = [] ∧
      A.size ≤ maxLen ∧ B.size ≤ maxLen ∧ E.size ≤ maxLen ∧ M.size ≤ maxLen := by
  obtain ⟨cs, rfl, hsz⟩ := okWide_struct Try.underlying41 hv
  obtain ⟨c0, c1, c2, c3, c4, rfl⟩ := array5 (hsz.trans (by kernel_rfl))
  obtain ⟨fuel, hf⟩ := h
  obtain ⟨y0, y1, y2, y3, n, hx, _, h0, h1, h2, h3⟩ := trod_struct4 Try.underlying41 hf
  have kN : Try.prog.cellsOf 24 = 1 := by kernel_rfl
  have kI : Try.prog.cellsOf 39 = 2 := by kernel_rfl
  have kB : Try.prog.cellsOf 4 = 1 := by kernel_rfl
  simp only [Prod.mk.injEq] at hx
  simp [Value.cells, kN, kI] at h0 h1 h2 h3
  obtain ⟨A, e0, rfl, hA⟩ := DataW.trod_string Try.underlying24 h0
  obtain ⟨B, e1, rfl, hB⟩ := DataW.trod_string Try.underlying24 h1
  obtain ⟨z0, z1, n2, rfl, _, g0, g1⟩ := trod_struct2 Try.underlying39 h2
  obtain ⟨M, e3, rfl, hM⟩ := DataW.trod_string Try.underlying24 h3
  simp [kN, kB] at g0 g1
  obtain ⟨q, e4, rfl⟩ := DataW.trod_bool Try.underlying4 g0
  obtain ⟨E, e5, rfl, hE⟩ := DataW.trod_string Try.underlying24 g1
  simp at e0 e1 e3 e4 e5
  subst e0 e1 e3 e4 e5
  exact ⟨A, B, q, E, M, rfl, hx.1, hx.2, hA, hB, hE, hM⟩

set_option maxRecDepth 100000 in
theorem shut_numbers {H : Type} {enc : TypeId × Value → H} {w : World} {base : Nat} {spare : Nat → Bool} {held : Bool} {A B E M : ByteArray} {q : Bool} (hA : A.size ≤ maxLen) (hB : B.size ≤ maxLen) (hE : E.size ≤ maxLen) (hM : M.size ≤ maxLen) :
    DataW.Trod enc Try.prog w base spare held 41 (.agg #[.string A, .string B, .bool q, .string E, .string M])
      (.agg [.lit (.string A.data.toList), .lit (.string B.data.toList), .agg [.lit (.bool q), .lit (.string E.data.toList)], .lit (.string M.data.toList)]) [] := by
  have kN : Try.prog.cellsOf 24 = 1 := by kernel_rfl
  have kI : Try.prog.cellsOf 39 = 2 := by kernel_rfl
  have kB : Try.prog.cellsOf 4 = 1 := by kernel_rfl
  have kS : Try.prog.cellsOf 41 = 5 := by kernel_rfl
  have tI : DataW.trod enc Try.prog w base spare held 2 39 [.bool q, .string E] = some (.agg [.lit (.bool q), .lit (.string E.data.toList)], []) := by
    have := trod_struct2_mk (enc := enc) (P := Try.prog) (w := w) (base := base) (spare := spare) (held := held) (n := 1) (cs := [.bool q, .string E]) (y0 := (.lit (.bool q), [])) (y1 := (.lit (.string E.data.toList), [])) Try.underlying39 (by simp [kI])
      (by simp [kB, DataW.trod, Try.underlying4]) (by simp [kN, DataW.trod, Try.underlying24, hE])
    simpa using this
  have ts := trod_struct4_mk (enc := enc) (P := Try.prog) (w := w) (base := base) (spare := spare) (held := held) (n := 2) (cs := [.string A, .string B, .bool q, .string E, .string M])
    (y0 := (.lit (.string A.data.toList), [])) (y1 := (.lit (.string B.data.toList), [])) (y2 := (.agg [.lit (.bool q), .lit (.string E.data.toList)], [])) (y3 := (.lit (.string M.data.toList), [])) Try.underlying41 (by simp [kS])
    (by simp [kN, DataW.trod, Try.underlying24, hA]) (by simp [kN, DataW.trod, Try.underlying24, hB]) (by simpa [kI] using tI) (by simp [kN, DataW.trod, Try.underlying24, hM])
  exact ⟨_, by simpa [Value.cells] using ts⟩
end Go.Proofs.Ytppdolmeeiookaa
