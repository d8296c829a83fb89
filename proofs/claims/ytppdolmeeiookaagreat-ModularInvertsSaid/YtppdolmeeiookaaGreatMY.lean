/-
  dominolaw03.few, dominoref03.Mod. An argument that is a struct of two numbers, an integer and a modulus (dominolaw03.Numbers), opened and shut. modular.Power for canonical arguments.
-/
import Derived.Test.YtppdolmeeiookaaGreatConM
import Derived.Test.YtppdolmeeiookaaGreatBlk
import Derived.Test.YtppdolmeeiookaaGreatProg
import Derived.ProofKit
import Derived.ChangeMaps5
import Derived.Lib.SmallJoins
import Derived.Test.YtppdolmeeiookaaGreatModR
import Derived.Test.YtppdolmeeiookaaGreatModO
namespace Go.Proofs.YtppdolmeeiookaaGreat
open Go.RowKit Num

theorem lt_topk {n k : Nat} (h : n < 256 ^ k) (hk : k ≤ 128) : n < Top := Nat.lt_of_lt_of_le h (Nat.pow_le_pow_right (by decide) hk)

set_option maxHeartbeats 1000000 in
set_option maxRecDepth 100000 in
theorem few3_any (A B E M : ByteArray) (q : Bool) (w : World) (hA : A.size ≤ 9223372036854775807) (hB : B.size ≤ 9223372036854775807) (hE : E.size ≤ 9223372036854775807) (hM : M.size ≤ 9223372036854775807) (r : Bool)
    (hr : (decide (A.size ≤ 24) && decide (B.size ≤ 24) && decide (E.size ≤ 16) && decide (M.size ≤ 8)) = r) :
    Calls Tryz.prog 6 #[.agg #[.string A, .string B, .bool q, .string E, .string M]] w (Made w (.bool r)) := by
  subst hr
  by_cases h1 : A.size ≤ 24 <;> by_cases h2 : B.size ≤ 24 <;> by_cases h3 : E.size ≤ 16 <;> by_cases h4 : M.size ≤ 8
  all_goals
    go_enter Tryz.func6, Tryz.ntmps6
    go_wp2
    go_ret
    exact ⟨by simp [*] <;> omega, (Below.refl _ _).alloc (Nat.le_refl _) _⟩

set_option maxHeartbeats 400000 in
theorem rmod3 (a m : Nat) (w : World) (ha : a < Top) (hm : m < Top) (h0 : m ≠ 0) : Calls Tryz.prog 20 #[.string (bs a), .string (bs m)] w (Made w (.string (bs (a % m)))) := by
  have HD := Lib.hid (fun W => rdivmod_ok ha hm h0 W)
  clear ha hm h0
  go_enter Tryz.func20, Tryz.ntmps20
  go_wp2_with fail
  refine (HD.out _).mono ?_
  rintro e w1 ⟨rfl, hb1⟩
  go_wp2
  go_ret
  exact ⟨rfl, hb1⟩
end Go.Proofs.YtppdolmeeiookaaGreat

namespace Go.Proofs.YtppdolmeeiookaaGreat
open Go.RowKit Go.ChangeShapes Go.WideShapes Go.ChangeAt Go.Joins Go.Deep

theorem array5 {α : Type} {cs : Array α} (h : cs.size = 5) : ∃ c0 c1 c2 c3 c4, cs = #[c0, c1, c2, c3, c4] := by
  obtain ⟨l⟩ := cs
  match l, h with
  | [c0, c1, c2, c3, c4], _ => exact ⟨c0, c1, c2, c3, c4, rfl⟩

set_option maxRecDepth 100000 in
theorem open_numbers {H : Type} {enc : TypeId × Value → H} {w : World} {base b0 : Nat} {spare : Nat → Bool} {held : Bool} {r : Reach} {v : Value} {d : DataW H} {p : List MemPlace}
    (hv : Value.okWide Tryz.prog w r b0 26 v) (h : DataW.Trod enc Tryz.prog w base spare held 26 v d p) :
    ∃ (A B : ByteArray) (q : Bool) (E M : ByteArray), v = .agg #[.string A, .string B, .bool q, .string E, .string M] ∧
      d = .agg [.lit (.string A.data.toList), .lit (.string B.data.toList), .agg [.lit (.bool q), .lit (.string E.data.toList)], .lit (.string M.data.toList)] ∧ p = [] ∧
      A.size ≤ maxLen ∧ B.size ≤ maxLen ∧ E.size ≤ maxLen ∧ M.size ≤ maxLen := by
  obtain ⟨cs, rfl, hsz⟩ := okWide_struct Tryz.underlying26 hv
  obtain ⟨c0, c1, c2, c3, c4, rfl⟩ := array5 (hsz.trans (by kernel_rfl))
  obtain ⟨fuel, hf⟩ := h
  obtain ⟨y0, y1, y2, y3, n, hx, _, h0, h1, h2, h3⟩ := trod_struct4 Tryz.underlying26 hf
  have kN : Tryz.prog.cellsOf 22 = 1 := by kernel_rfl
  have kI : Tryz.prog.cellsOf 24 = 2 := by kernel_rfl
  have kB : Tryz.prog.cellsOf 4 = 1 := by kernel_rfl
  simp only [Prod.mk.injEq] at hx
  simp [Value.cells, kN, kI] at h0 h1 h2 h3
  obtain ⟨A, e0, rfl, hA⟩ := DataW.trod_string Tryz.underlying22 h0
  obtain ⟨B, e1, rfl, hB⟩ := DataW.trod_string Tryz.underlying22 h1
  obtain ⟨z0, z1, n2, rfl, _, g0, g1⟩ := trod_struct2 Tryz.underlying24 h2
  obtain ⟨M, e3, rfl, hM⟩ := DataW.trod_string Tryz.underlying22 h3
  simp [kN, kB] at g0 g1
  obtain ⟨q, e4, rfl⟩ := DataW.trod_bool Tryz.underlying4 g0
  obtain ⟨E, e5, rfl, hE⟩ := DataW.trod_string Tryz.underlying22 g1
  simp at e0 e1 e3 e4 e5
  subst e0 e1 e3 e4 e5
  exact ⟨A, B, q, E, M, rfl, hx.1, hx.2, hA, hB, hE, hM⟩

set_option maxRecDepth 100000 in
theorem shut_numbers {H : Type} {enc : TypeId × Value → H} {w : World} {base : Nat} {spare : Nat → Bool} {held : Bool} {A B E M : ByteArray} {q : Bool} (hA : A.size ≤ maxLen) (hB : B.size ≤ maxLen) (hE : E.size ≤ maxLen) (hM : M.size ≤ maxLen) :
    DataW.Trod enc Tryz.prog w base spare held 26 (.agg #[.string A, .string B, .bool q, .string E, .string M])
      (.agg [.lit (.string A.data.toList), .lit (.string B.data.toList), .agg [.lit (.bool q), .lit (.string E.data.toList)], .lit (.string M.data.toList)]) [] := by
  have kN : Tryz.prog.cellsOf 22 = 1 := by kernel_rfl
  have kI : Tryz.prog.cellsOf 24 = 2 := by kernel_rfl
  have kB : Tryz.prog.cellsOf 4 = 1 := by kernel_rfl
  have kS : Tryz.prog.cellsOf 26 = 5 := by kernel_rfl
  have tI : DataW.trod enc Tryz.prog w base spare held 2 24 [.bool q, .string E] = some (.agg [.lit (.bool q), .lit (.string E.data.toList)], []) := by
    have := trod_struct2_mk (enc := enc) (P := Tryz.prog) (w := w) (base := base) (spare := spare) (held := held) (n := 1) (cs := [.bool q, .string E]) (y0 := (.lit (.bool q), [])) (y1 := (.lit (.string E.data.toList), [])) Tryz.underlying24 (by simp [kI])
      (by simp [kB, DataW.trod, Tryz.underlying4]) (by simp [kN, DataW.trod, Tryz.underlying22, hE])
    simpa using this
  have ts := trod_struct4_mk (enc := enc) (P := Tryz.prog) (w := w) (base := base) (spare := spare) (held := held) (n := 2) (cs := [.string A, .string B, .bool q, .string E, .string M])
    (y0 := (.lit (.string A.data.toList), [])) (y1 := (.lit (.string B.data.toList), [])) (y2 := (.agg [.lit (.bool q), .lit (.string E.data.toList)], [])) (y3 := (.lit (.string M.data.toList), [])) Tryz.underlying26 (by simp [kS])
    (by simp [kN, DataW.trod, Tryz.underlying22, hA]) (by simp [kN, DataW.trod, Tryz.underlying22, hB]) (by simpa [kI] using tI) (by simp [kN, DataW.trod, Tryz.underlying22, hM])
  exact ⟨_, by simpa [Value.cells] using ts⟩
end Go.Proofs.YtppdolmeeiookaaGreat

namespace Go.Proofs.YtppdolmeeiookaaGreat
open Go.RowKit Num

theorem zabs_negnat (n : Nat) : zabs (-(n : Int)) = n := by unfold zabs; omega
theorem zneg_negnat {n : Nat} (h : n ≠ 0) : zneg (-(n : Int)) = true := by unfold zneg; simp; omega

set_option maxHeartbeats 1000000 in
set_option maxRecDepth 100000 in
theorem mpower_pos (a k M : Nat) (w : World) (ha : a < Top) (hk : k < Top) (h0 : M ≠ 0) (hT : M < Top) :
    Calls Tryz.prog 16 #[.string (bs a), .agg #[.bool false, .string (bs k)], .string (bs M)] w (Made w (.tuple #[.string (bs (a ^ k % M)), .int .i64 0])) := by
  have HV := Lib.hid (fun W => valid_yes ha W)
  have HI : Hid (∀ W, Calls Tryz.prog 40 #[.agg #[.bool false, .string (bs k)]] W (Made W (.bool true))) := Lib.hid (fun W => by
    have := ivalid_yes (z := (k : Int)) (by rw [zabs_nat]; exact hk) W
    rwa [zabs_nat, zneg_nat] at this)
  have HE := Lib.hid (fun W => mexp_ok a k M W ha hk h0 hT)
  have K := Bk.new w #[.bool false, .string (bs k)] 24
  have HB := (Below.refl w.heap.size w).alloc (Nat.le_refl _) (.cells #[.bool false, .string (bs k)] 24)
  clear ha hk h0 hT
  go_enter Tryz.func16, Tryz.ntmps16
  go_wp2_with fail
  refine (HV.out _).mono ?_
  rintro e w' ⟨rfl, rfl⟩
  go_wp2_with fail
  refine (HI.out _).mono ?_
  rintro e u1 ⟨rfl, hb⟩
  replace K := K.below hb
  replace HB := HB.trans (hb.mono HB.size)
  clear hb
  have c0 : u1.cell? ⟨w.heap.size, 0, none⟩ = some (.bool false) := K.cell 0
  have c1 : u1.cell? ⟨w.heap.size, 1, none⟩ = some (.string (bs k)) := K.cell 1
  have l0 := K.lt
  go_wp2_with fail
  refine (HE.out _).mono ?_
  rintro e u2 ⟨rfl, hb⟩
  replace HB := HB.trans (hb.mono HB.size)
  clear hb
  go_wp2
  go_ret2
  exact ⟨rfl, HB⟩

set_option maxHeartbeats 1000000 in
set_option maxRecDepth 100000 in
theorem mpower_inv (a k M X : Nat) (w : World) (ha : a < Top) (hX : X < Top) (hk : k < Top) (hk0 : k ≠ 0) (h0 : M ≠ 0) (hT : M < Top)
    (hI : ∀ W, Calls Tryz.prog 18 #[.string (bs a), .string (bs M)] W (Made W (.tuple #[.string (bs X), .int .i64 0]))) :
    Calls Tryz.prog 16 #[.string (bs a), .agg #[.bool true, .string (bs k)], .string (bs M)] w (Made w (.tuple #[.string (bs (X ^ k % M)), .int .i64 0])) := by
  have HV := Lib.hid (fun W => valid_yes ha W)
  have HI : Hid (∀ W, Calls Tryz.prog 40 #[.agg #[.bool true, .string (bs k)]] W (Made W (.bool true))) := Lib.hid (fun W => by
    have := ivalid_yes (z := -(k : Int)) (by rw [zabs_negnat]; exact hk) W
    rwa [zabs_negnat, zneg_negnat hk0] at this)
  have HN := Lib.hid hI
  have HE := Lib.hid (fun W => mexp_ok X k M W hX hk h0 hT)
  have K := Bk.new w #[.bool true, .string (bs k)] 24
  have HB := (Below.refl w.heap.size w).alloc (Nat.le_refl _) (.cells #[.bool true, .string (bs k)] 24)
  clear ha hX hk hk0 h0 hT hI
  go_enter Tryz.func16, Tryz.ntmps16
  go_wp2_with fail
  refine (HV.out _).mono ?_
  rintro e w' ⟨rfl, rfl⟩
  go_wp2_with fail
  refine (HI.out _).mono ?_
  rintro e u1 ⟨rfl, hb⟩
  replace K := K.below hb
  replace HB := HB.trans (hb.mono HB.size)
  clear hb
  have c0 : u1.cell? ⟨w.heap.size, 0, none⟩ = some (.bool true) := K.cell 0
  have c1 : u1.cell? ⟨w.heap.size, 1, none⟩ = some (.string (bs k)) := K.cell 1
  have l0 := K.lt
  go_wp2_with fail
  refine (HN.out _).mono ?_
  rintro e u2 ⟨rfl, hb⟩
  replace K := K.below hb
  replace HB := HB.trans (hb.mono HB.size)
  clear hb
  have c0 : u2.cell? ⟨w.heap.size, 0, none⟩ = some (.bool true) := K.cell 0
  have c1 : u2.cell? ⟨w.heap.size, 1, none⟩ = some (.string (bs k)) := K.cell 1
  have l0 := K.lt
  go_wp2_with fail
  refine (HE.out _).mono ?_
  rintro e u3 ⟨rfl, hb⟩
  replace HB := HB.trans (hb.mono HB.size)
  clear hb
  go_wp2
  go_ret2
  exact ⟨rfl, HB⟩

set_option maxHeartbeats 1000000 in
set_option maxRecDepth 100000 in
theorem mpower_err (a k M : Nat) (ee : Int) (w : World) (ha : a < Top) (hk : k < Top) (hk0 : k ≠ 0) (h1 : ee ≠ 0)
    (hI : ∀ W, Calls Tryz.prog 18 #[.string (bs a), .string (bs M)] W (Made W (.tuple #[.string (bs 0), .int .i64 ee]))) :
    Calls Tryz.prog 16 #[.string (bs a), .agg #[.bool true, .string (bs k)], .string (bs M)] w (Made w (.tuple #[.string (bs 0), .int .i64 ee])) := by
  have HV := Lib.hid (fun W => valid_yes ha W)
  have HI : Hid (∀ W, Calls Tryz.prog 40 #[.agg #[.bool true, .string (bs k)]] W (Made W (.bool true))) := Lib.hid (fun W => by
    have := ivalid_yes (z := -(k : Int)) (by rw [zabs_negnat]; exact hk) W
    rwa [zabs_negnat, zneg_negnat hk0] at this)
  have HN := Lib.hid hI
  have K := Bk.new w #[.bool true, .string (bs k)] 24
  have HB := (Below.refl w.heap.size w).alloc (Nat.le_refl _) (.cells #[.bool true, .string (bs k)] 24)
  clear ha hk hk0 hI
  go_enter Tryz.func16, Tryz.ntmps16
  go_wp2_with fail
  refine (HV.out _).mono ?_
  rintro e w' ⟨rfl, rfl⟩
  go_wp2_with fail
  refine (HI.out _).mono ?_
  rintro e u1 ⟨rfl, hb⟩
  replace K := K.below hb
  replace HB := HB.trans (hb.mono HB.size)
  clear hb
  have c0 : u1.cell? ⟨w.heap.size, 0, none⟩ = some (.bool true) := K.cell 0
  have c1 : u1.cell? ⟨w.heap.size, 1, none⟩ = some (.string (bs k)) := K.cell 1
  have l0 := K.lt
  go_wp2_with fail
  refine (HN.out _).mono ?_
  rintro e u2 ⟨rfl, hb⟩
  replace HB := HB.trans (hb.mono HB.size)
  clear hb
  go_wp2
  go_ret2
  exact ⟨by rw [bs_zero]; rfl, HB⟩
end Go.Proofs.YtppdolmeeiookaaGreat
