/-
  primegroup.wellFormed, Has, IsGenerator, checkElements, Mul. primegroup.IsGenerator, checkElements, Mul, cofactor, Check. primegroup.Mul, Power, cofactor, Check. primegroup.Check. A range over a function, where the iterator may itself range over a function and hand on to its own yield: each round tells the iterator that whatever the iterator laid lies as it lay. primegroup.powers: 1, b, b^2, .. up to the order of b; plain arithmetic of the powers. primegroup.Log. primegroup.Elements. The examples of the chapter on groups of prime order hold: dominolaw09.awake returns true. dominolaw09.Few. dominoref09.form, Has, IsGenerator, Mul, Power, divides, Check. dominoref09.Power, divides, Check; powers with a reduced exponent. An argument that is a group (a struct of two numbers), opened and shut.
-/
import Derived.Test.YtmiafkbjmkaebaaGreatModR
import Derived.Test.YtmiafkbjmkaebaaGreatModM
import Derived.Test.YtmiafkbjmkaebaaGreatModV
import Derived.Test.YtmiafkbjmkaebaaGreatBlk
import Derived.Test.YtmiafkbjmkaebaaGreatPriS
import Derived.Test.YtmiafkbjmkaebaaGreatMY
import Derived.RangeFuncNested
import Derived.RangeFuncBound
import Derived.RangeFuncCalls
import Derived.RangeFuncLeaves
import Derived.Shelf.Abstract
import Derived.Shelf.RegionOpen
import Derived.WalkKit
import Derived.OwnWalkIn
import Derived.TacticsInMore
import Derived.LoopNIn
import Derived.LoopIn
import Derived.Test.YtmiafkbjmkaebaaGreatMR
import Derived.Test.YtmiafkbjmkaebaaGreatIntM
import Derived.Test.YtmiafkbjmkaebaaGreatProg
import Derived.ProofKit
import Derived.ChangeMaps5
import Derived.Lib.SmallJoins
namespace Go.Proofs.YtmiafkbjmkaebaaGreat
open Go.RowKit Num

/-- x is an element of the group with the modulus p and the order q. -/
def hasN (p q x : Nat) : Bool := decide (q ≠ 0) && (decide (x ≠ 0) && (decide (x < p) && decide (x ^ q % p = 1)))
theorem hasN_iff {p q x : Nat} : hasN p q x = true ↔ q ≠ 0 ∧ x ≠ 0 ∧ x < p ∧ x ^ q % p = 1 := by unfold hasN; simp

set_option maxHeartbeats 1000000 in
set_option maxRecDepth 100000 in
theorem gwf_any (A B : ByteArray) (va vb : Bool) (w : World) (hA : A.size ≤ 9223372036854775807) (hB : B.size ≤ 9223372036854775807) (hva : validB A = va) (hvb : validB B = vb) :
    Calls Tryz.prog 25 #[.agg #[.string A, .string B]] w (Made w (.bool (va && vb))) := by
  have HA := Lib.hid (fun W => valid_any A W hA)
  have HB := Lib.hid (fun W => valid_any B W hB)
  rw [hva] at HA
  rw [hvb] at HB
  clear hva hvb hA hB
  have HV := (Below.refl w.heap.size w).alloc (Nat.le_refl _) (.cells #[.string A, .string B] 24)
  cases va
  · go_enter Tryz.func25, Tryz.ntmps25
    go_wp2_with fail
    refine (HA.out _).mono ?_
    rintro e u1 ⟨rfl, rfl⟩
    go_wp2
    go_ret
    exact ⟨rfl, HV⟩
  · cases vb
    all_goals
      go_enter Tryz.func25, Tryz.ntmps25
      go_wp2_with fail
      refine (HA.out _).mono ?_
      rintro e u1 ⟨rfl, rfl⟩
      go_wp2_with fail
      refine (HB.out _).mono ?_
      rintro e u2 ⟨rfl, rfl⟩
      go_wp2
      go_ret
      exact ⟨rfl, HV⟩
theorem gwf_yes {p q : Nat} (hp : p < Top) (hq : q < Top) (w : World) : Calls Tryz.prog 25 #[.agg #[.string (bs p), .string (bs q)]] w (Made w (.bool true)) := by
  have := gwf_any (bs p) (bs q) true true w (by have := bs_small hp; omega) (by have := bs_small hq; omega) (bs_valid hp) (bs_valid hq)
  exact this

set_option maxHeartbeats 1000000 in
set_option maxRecDepth 100000 in
theorem has_no (A B X : ByteArray) (w : World) (hA : A.size ≤ 9223372036854775807) (hB : B.size ≤ 9223372036854775807) (hX : X.size ≤ 9223372036854775807) (h : (validB A && validB B && validB X) = false) :
    Calls Tryz.prog 12 #[.agg #[.string A, .string B], .string X] w (Made w (.bool false)) := by
  have HX := Lib.hid (fun W => valid_any X W hX)
  have HG := Lib.hid (fun W => gwf_any A B _ _ W hA hB rfl rfl)
  rcases hg : (validB A && validB B) with _ | _
  · rw [hg] at HG
    clear hg h hA hB hX HX
    have HV : Below w.heap.size w (w.alloc (.cells #[.string A, .string B] 24)) := ((Below.refl w.heap.size w).alloc (Nat.le_refl _) (.cells #[.string A, .string B] 24))
    have K0 : Bk (w.alloc (.cells #[.string A, .string B] 24)) w.heap.size #[.string A, .string B] 24 := (Bk.new w #[.string A, .string B] 24)
    go_enter Tryz.func12, Tryz.ntmps12
    go_wp2_with fail
    refine (HG.out _).mono ?_
    rintro e u1 ⟨rfl, hb⟩
    replace HV := HV.trans (hb.mono HV.size)
    replace K0 := K0.below hb
    clear hb
    have c0_0 : u1.cell? ⟨w.heap.size, 0, none⟩ = some (.string A) := K0.cell 0
    have c0_1 : u1.cell? ⟨w.heap.size, 1, none⟩ = some (.string B) := K0.cell 1
    have l0 := K0.lt
    go_wp2
    go_ret
    exact ⟨rfl, HV⟩
  · rw [hg] at HG h
    rw [show validB X = false from by simpa using h] at HX
    clear hg h hA hB hX
    have HV : Below w.heap.size w (w.alloc (.cells #[.string A, .string B] 24)) := ((Below.refl w.heap.size w).alloc (Nat.le_refl _) (.cells #[.string A, .string B] 24))
    have K0 : Bk (w.alloc (.cells #[.string A, .string B] 24)) w.heap.size #[.string A, .string B] 24 := (Bk.new w #[.string A, .string B] 24)
    go_enter Tryz.func12, Tryz.ntmps12
    go_wp2_with fail
    refine (HG.out _).mono ?_
    rintro e u1 ⟨rfl, hb⟩
    replace HV := HV.trans (hb.mono HV.size)
    replace K0 := K0.below hb
    clear hb
    have c0_0 : u1.cell? ⟨w.heap.size, 0, none⟩ = some (.string A) := K0.cell 0
    have c0_1 : u1.cell? ⟨w.heap.size, 1, none⟩ = some (.string B) := K0.cell 1
    have l0 := K0.lt
    go_wp2_with fail
    refine (HX.out _).mono ?_
    rintro e u2 ⟨rfl, rfl⟩
    go_wp2
    go_ret
    exact ⟨rfl, HV⟩
set_option maxHeartbeats 1000000 in
set_option maxRecDepth 100000 in
theorem has_ok (p q x : Nat) (w : World) (hp : p < Top) (hq : q < Top) (hx : x < Top) :
    Calls Tryz.prog 12 #[.agg #[.string (bs p), .string (bs q)], .string (bs x)] w (Made w (.bool (hasN p q x))) := by
  have HG := Lib.hid (fun W => gwf_yes hp hq W)
  have HX := Lib.hid (fun W => valid_yes hx W)
  have e1 : (bs q).toList.isEmpty = (q == 0) := bs_isEmpty q
  have e2 : (bs x).toList.isEmpty = (x == 0) := bs_isEmpty x
  by_cases h0 : q = 0
  · rw [show hasN p q x = false from by unfold hasN; simp [h0]]
    rw [show (q == 0) = true from by simp [h0]] at e1
    clear hp hq hx e2 h0
    have HV : Below w.heap.size w (w.alloc (.cells #[.string (bs p), .string (bs q)] 24)) := ((Below.refl w.heap.size w).alloc (Nat.le_refl _) (.cells #[.string (bs p), .string (bs q)] 24))
    have K0 : Bk (w.alloc (.cells #[.string (bs p), .string (bs q)] 24)) w.heap.size #[.string (bs p), .string (bs q)] 24 := (Bk.new w #[.string (bs p), .string (bs q)] 24)
    go_enter Tryz.func12, Tryz.ntmps12
    go_wp2_with fail
    refine (HG.out _).mono ?_
    rintro e u1 ⟨rfl, hb⟩
    replace HV := HV.trans (hb.mono HV.size)
    replace K0 := K0.below hb
    clear hb
    have c0_0 : u1.cell? ⟨w.heap.size, 0, none⟩ = some (.string (bs p)) := K0.cell 0
    have c0_1 : u1.cell? ⟨w.heap.size, 1, none⟩ = some (.string (bs q)) := K0.cell 1
    have l0 := K0.lt
    go_wp2_with fail
    refine (HX.out _).mono ?_
    rintro e u2 ⟨rfl, rfl⟩
    go_wp2
    go_ret
    exact ⟨rfl, HV⟩
  · rw [show (q == 0) = false from by simp [h0]] at e1
    by_cases h1 : x = 0
    · rw [show hasN p q x = false from by unfold hasN; simp [h1]]
      rw [show (x == 0) = true from by simp [h1]] at e2
      clear hp hq hx h0 h1
      have HV : Below w.heap.size w (w.alloc (.cells #[.string (bs p), .string (bs q)] 24)) := ((Below.refl w.heap.size w).alloc (Nat.le_refl _) (.cells #[.string (bs p), .string (bs q)] 24))
      have K0 : Bk (w.alloc (.cells #[.string (bs p), .string (bs q)] 24)) w.heap.size #[.string (bs p), .string (bs q)] 24 := (Bk.new w #[.string (bs p), .string (bs q)] 24)
      go_enter Tryz.func12, Tryz.ntmps12
      go_wp2_with fail
      refine (HG.out _).mono ?_
      rintro e u1 ⟨rfl, hb⟩
      replace HV := HV.trans (hb.mono HV.size)
      replace K0 := K0.below hb
      clear hb
      have c0_0 : u1.cell? ⟨w.heap.size, 0, none⟩ = some (.string (bs p)) := K0.cell 0
      have c0_1 : u1.cell? ⟨w.heap.size, 1, none⟩ = some (.string (bs q)) := K0.cell 1
      have l0 := K0.lt
      go_wp2_with fail
      refine (HX.out _).mono ?_
      rintro e u2 ⟨rfl, rfl⟩
      go_wp2
      go_ret
      exact ⟨rfl, HV⟩
    · rw [show (x == 0) = false from by simp [h1]] at e2
      have HC := Lib.hid (fun W => cmp_yes hx hp W)
      by_cases h2 : x < p
      · rw [show cmpN x p = -1 from by unfold cmpN; simp [h2]] at HC
        have HE := Lib.hid (fun W => mexp_ok x q p W hx hq (by omega) hp)
        have HO : Hid (∀ W, Calls Tryz.prog 34 #[.int .u64 1] W (Made W (.string (bs 1)))) := Lib.hid (fun W => of_lit 1 (by decide) (by decide) W)
        have e3 : ((bs (x ^ q % p)).toList == (bs 1).toList) = (x ^ q % p == 1) := bs_beq _ _
        rcases hb : (x ^ q % p == 1) with _ | _
        · rw [show hasN p q x = false from by unfold hasN; simp at hb; simp [hb]]
          rw [hb] at e3
          clear hp hq hx hb h0 h1 h2
          have HV : Below w.heap.size w (w.alloc (.cells #[.string (bs p), .string (bs q)] 24)) := ((Below.refl w.heap.size w).alloc (Nat.le_refl _) (.cells #[.string (bs p), .string (bs q)] 24))
          have K0 : Bk (w.alloc (.cells #[.string (bs p), .string (bs q)] 24)) w.heap.size #[.string (bs p), .string (bs q)] 24 := (Bk.new w #[.string (bs p), .string (bs q)] 24)
          go_enter Tryz.func12, Tryz.ntmps12
          go_wp2_with fail
          refine (HG.out _).mono ?_
          rintro e u1 ⟨rfl, hb⟩
          replace HV := HV.trans (hb.mono HV.size)
          replace K0 := K0.below hb
          clear hb
          have c0_0 : u1.cell? ⟨w.heap.size, 0, none⟩ = some (.string (bs p)) := K0.cell 0
          have c0_1 : u1.cell? ⟨w.heap.size, 1, none⟩ = some (.string (bs q)) := K0.cell 1
          have l0 := K0.lt
          go_wp2_with fail
          refine (HX.out _).mono ?_
          rintro e u2 ⟨rfl, rfl⟩
          go_wp2_with fail
          refine (HC.out _).mono ?_
          rintro e u3 ⟨rfl, rfl⟩
          go_wp2_with fail
          refine (HE.out _).mono ?_
          rintro e u4 ⟨rfl, hb⟩
          replace HV := HV.trans (hb.mono HV.size)
          replace K0 := K0.below hb
          clear hb
          clear c0_0 c0_1 l0
          have c0_0 : u4.cell? ⟨w.heap.size, 0, none⟩ = some (.string (bs p)) := K0.cell 0
          have c0_1 : u4.cell? ⟨w.heap.size, 1, none⟩ = some (.string (bs q)) := K0.cell 1
          have l0 := K0.lt
          go_wp2_with fail
          refine (HO.out _).mono ?_
          rintro e u5 ⟨rfl, hb⟩
          replace HV := HV.trans (hb.mono HV.size)
          replace K0 := K0.below hb
          clear hb
          clear c0_0 c0_1 l0
          have c0_0 : u5.cell? ⟨w.heap.size, 0, none⟩ = some (.string (bs p)) := K0.cell 0
          have c0_1 : u5.cell? ⟨w.heap.size, 1, none⟩ = some (.string (bs q)) := K0.cell 1
          have l0 := K0.lt
          go_wp2
          go_ret
          exact ⟨rfl, HV⟩
        · rw [show hasN p q x = true from by unfold hasN; simp at hb; simp [hb, h0, h1, h2]]
          rw [hb] at e3
          clear hp hq hx hb h0 h1 h2
          have HV : Below w.heap.size w (w.alloc (.cells #[.string (bs p), .string (bs q)] 24)) := ((Below.refl w.heap.size w).alloc (Nat.le_refl _) (.cells #[.string (bs p), .string (bs q)] 24))
          have K0 : Bk (w.alloc (.cells #[.string (bs p), .string (bs q)] 24)) w.heap.size #[.string (bs p), .string (bs q)] 24 := (Bk.new w #[.string (bs p), .string (bs q)] 24)
          go_enter Tryz.func12, Tryz.ntmps12
          go_wp2_with fail
          refine (HG.out _).mono ?_
          rintro e u1 ⟨rfl, hb⟩
          replace HV := HV.trans (hb.mono HV.size)
          replace K0 := K0.below hb
          clear hb
          have c0_0 : u1.cell? ⟨w.heap.size, 0, none⟩ = some (.string (bs p)) := K0.cell 0
          have c0_1 : u1.cell? ⟨w.heap.size, 1, none⟩ = some (.string (bs q)) := K0.cell 1
          have l0 := K0.lt
          go_wp2_with fail
          refine (HX.out _).mono ?_
          rintro e u2 ⟨rfl, rfl⟩
          go_wp2_with fail
          refine (HC.out _).mono ?_
          rintro e u3 ⟨rfl, rfl⟩
          go_wp2_with fail
          refine (HE.out _).mono ?_
          rintro e u4 ⟨rfl, hb⟩
          replace HV := HV.trans (hb.mono HV.size)
          replace K0 := K0.below hb
          clear hb
          clear c0_0 c0_1 l0
          have c0_0 : u4.cell? ⟨w.heap.size, 0, none⟩ = some (.string (bs p)) := K0.cell 0
          have c0_1 : u4.cell? ⟨w.heap.size, 1, none⟩ = some (.string (bs q)) := K0.cell 1
          have l0 := K0.lt
          go_wp2_with fail
          refine (HO.out _).mono ?_
          rintro e u5 ⟨rfl, hb⟩
          replace HV := HV.trans (hb.mono HV.size)
          replace K0 := K0.below hb
          clear hb
          clear c0_0 c0_1 l0
          have c0_0 : u5.cell? ⟨w.heap.size, 0, none⟩ = some (.string (bs p)) := K0.cell 0
          have c0_1 : u5.cell? ⟨w.heap.size, 1, none⟩ = some (.string (bs q)) := K0.cell 1
          have l0 := K0.lt
          go_wp2
          go_ret
          exact ⟨rfl, HV⟩
      · rw [show hasN p q x = false from by unfold hasN; simp [h2]]
        rcases (show p < x ∨ x = p by omega) with h3 | h3
        · rw [show cmpN x p = 1 from by unfold cmpN; simp [h2, h3]] at HC
          clear hp hq hx h0 h1 h2 h3
          have HV : Below w.heap.size w (w.alloc (.cells #[.string (bs p), .string (bs q)] 24)) := ((Below.refl w.heap.size w).alloc (Nat.le_refl _) (.cells #[.string (bs p), .string (bs q)] 24))
          have K0 : Bk (w.alloc (.cells #[.string (bs p), .string (bs q)] 24)) w.heap.size #[.string (bs p), .string (bs q)] 24 := (Bk.new w #[.string (bs p), .string (bs q)] 24)
          go_enter Tryz.func12, Tryz.ntmps12
          go_wp2_with fail
          refine (HG.out _).mono ?_
          rintro e u1 ⟨rfl, hb⟩
          replace HV := HV.trans (hb.mono HV.size)
          replace K0 := K0.below hb
          clear hb
          have c0_0 : u1.cell? ⟨w.heap.size, 0, none⟩ = some (.string (bs p)) := K0.cell 0
          have c0_1 : u1.cell? ⟨w.heap.size, 1, none⟩ = some (.string (bs q)) := K0.cell 1
          have l0 := K0.lt
          go_wp2_with fail
          refine (HX.out _).mono ?_
          rintro e u2 ⟨rfl, rfl⟩
          go_wp2_with fail
          refine (HC.out _).mono ?_
          rintro e u3 ⟨rfl, rfl⟩
          go_wp2
          go_ret
          exact ⟨rfl, HV⟩
        · rw [show cmpN x p = 0 from by unfold cmpN; simp [h3]] at HC
          clear hp hq hx h0 h1 h2 h3
          have HV : Below w.heap.size w (w.alloc (.cells #[.string (bs p), .string (bs q)] 24)) := ((Below.refl w.heap.size w).alloc (Nat.le_refl _) (.cells #[.string (bs p), .string (bs q)] 24))
          have K0 : Bk (w.alloc (.cells #[.string (bs p), .string (bs q)] 24)) w.heap.size #[.string (bs p), .string (bs q)] 24 := (Bk.new w #[.string (bs p), .string (bs q)] 24)
          go_enter Tryz.func12, Tryz.ntmps12
          go_wp2_with fail
          refine (HG.out _).mono ?_
          rintro e u1 ⟨rfl, hb⟩
          replace HV := HV.trans (hb.mono HV.size)
          replace K0 := K0.below hb
          clear hb
          have c0_0 : u1.cell? ⟨w.heap.size, 0, none⟩ = some (.string (bs p)) := K0.cell 0
          have c0_1 : u1.cell? ⟨w.heap.size, 1, none⟩ = some (.string (bs q)) := K0.cell 1
          have l0 := K0.lt
          go_wp2_with fail
          refine (HX.out _).mono ?_
          rintro e u2 ⟨rfl, rfl⟩
          go_wp2_with fail
          refine (HC.out _).mono ?_
          rintro e u3 ⟨rfl, rfl⟩
          go_wp2
          go_ret
          exact ⟨rfl, HV⟩

end Go.Proofs.YtmiafkbjmkaebaaGreat

namespace Go.Proofs.YtmiafkbjmkaebaaGreat
open Go.RowKit Num

set_option maxHeartbeats 1000000 in
set_option maxRecDepth 100000 in
theorem isgen_false (A B X : ByteArray) (w : World) (h : ∀ w, Calls Tryz.prog 12 #[.agg #[.string A, .string B], .string X] w (Made w (.bool false))) :
    Calls Tryz.prog 14 #[.agg #[.string A, .string B], .string X] w (Made w (.bool false)) := by
  have HH := Lib.hid h
  clear h
  have HV : Below w.heap.size w (w.alloc (.cells #[.string A, .string B] 24)) := ((Below.refl w.heap.size w).alloc (Nat.le_refl _) (.cells #[.string A, .string B] 24))
  have K0 : Bk (w.alloc (.cells #[.string A, .string B] 24)) w.heap.size #[.string A, .string B] 24 := (Bk.new w #[.string A, .string B] 24)
  go_enter Tryz.func14, Tryz.ntmps14
  go_wp2_with fail
  refine (HH.out _).mono ?_
  rintro e u1 ⟨rfl, hb⟩
  replace HV := HV.trans (hb.mono HV.size)
  replace K0 := K0.below hb
  clear hb
  have c0_0 : u1.cell? ⟨w.heap.size, 0, none⟩ = some (.string A) := K0.cell 0
  have c0_1 : u1.cell? ⟨w.heap.size, 1, none⟩ = some (.string B) := K0.cell 1
  have l0 := K0.lt
  go_wp2
  go_ret
  exact ⟨rfl, HV⟩
set_option maxHeartbeats 1000000 in
set_option maxRecDepth 100000 in
theorem isgen_ok (p q x : Nat) (w : World) (hp : p < Top) (hq : q < Top) (hx : x < Top) :
    Calls Tryz.prog 14 #[.agg #[.string (bs p), .string (bs q)], .string (bs x)] w (Made w (.bool (hasN p q x && (x != 1)))) := by
  rcases hh : hasN p q x with _ | _
  · exact isgen_false _ _ _ w (fun W => by have := has_ok p q x W hp hq hx; rwa [hh] at this)
  · have HH : Hid (∀ W, Calls Tryz.prog 12 #[.agg #[.string (bs p), .string (bs q)], .string (bs x)] W (Made W (.bool true))) := Lib.hid (fun W => by have := has_ok p q x W hp hq hx; rwa [hh] at this)
    have HO : Hid (∀ W, Calls Tryz.prog 34 #[.int .u64 1] W (Made W (.string (bs 1)))) := Lib.hid (fun W => of_lit 1 (by decide) (by decide) W)
    have e3 : ((bs x).toList == (bs 1).toList) = (x == 1) := bs_beq _ _
    have e4 : (true && (x != 1)) = !(x == 1) := by cases h : (x == 1) <;> simp [bne, h]
    rw [e4]
    clear hp hq hx hh
    rcases hb : (x == 1) with _ | _
    all_goals
      rw [hb] at e3
      clear hb e4
      have HV : Below w.heap.size w (w.alloc (.cells #[.string (bs p), .string (bs q)] 24)) := ((Below.refl w.heap.size w).alloc (Nat.le_refl _) (.cells #[.string (bs p), .string (bs q)] 24))
      have K0 : Bk (w.alloc (.cells #[.string (bs p), .string (bs q)] 24)) w.heap.size #[.string (bs p), .string (bs q)] 24 := (Bk.new w #[.string (bs p), .string (bs q)] 24)
      go_enter Tryz.func14, Tryz.ntmps14
      go_wp2_with fail
      refine (HH.out _).mono ?_
      rintro e u1 ⟨rfl, hb⟩
      replace HV := HV.trans (hb.mono HV.size)
      replace K0 := K0.below hb
      clear hb
      have c0_0 : u1.cell? ⟨w.heap.size, 0, none⟩ = some (.string (bs p)) := K0.cell 0
      have c0_1 : u1.cell? ⟨w.heap.size, 1, none⟩ = some (.string (bs q)) := K0.cell 1
      have l0 := K0.lt
      go_wp2_with fail
      refine (HO.out _).mono ?_
      rintro e u2 ⟨rfl, hb⟩
      replace HV := HV.trans (hb.mono HV.size)
      replace K0 := K0.below hb
      clear hb
      clear c0_0 c0_1 l0
      have c0_0 : u2.cell? ⟨w.heap.size, 0, none⟩ = some (.string (bs p)) := K0.cell 0
      have c0_1 : u2.cell? ⟨w.heap.size, 1, none⟩ = some (.string (bs q)) := K0.cell 1
      have l0 := K0.lt
      go_wp2
      go_ret
      exact ⟨rfl, HV⟩
set_option maxHeartbeats 1000000 in
set_option maxRecDepth 100000 in
theorem cel_wf (A B : ByteArray) (v : Value) (w : World) (hA : A.size ≤ 9223372036854775807) (hB : B.size ≤ 9223372036854775807) (h : (validB A && validB B) = false) :
    Calls Tryz.prog 38 #[.agg #[.string A, .string B], v] w (Made w (.int .i64 3)) := by
  have HG := Lib.hid (fun W => gwf_any A B _ _ W hA hB rfl rfl)
  rw [h] at HG
  clear h hA hB
  have HV : Below w.heap.size w (w.alloc (.cells #[.string A, .string B] 24)) := ((Below.refl w.heap.size w).alloc (Nat.le_refl _) (.cells #[.string A, .string B] 24))
  have K0 : Bk (w.alloc (.cells #[.string A, .string B] 24)) w.heap.size #[.string A, .string B] 24 := (Bk.new w #[.string A, .string B] 24)
  go_enter Tryz.func38, Tryz.ntmps38
  go_wp2_with fail
  refine (HG.out _).mono ?_
  rintro e u1 ⟨rfl, hb⟩
  replace HV := HV.trans (hb.mono HV.size)
  replace K0 := K0.below hb
  clear hb
  have c0_0 : u1.cell? ⟨w.heap.size, 0, none⟩ = some (.string A) := K0.cell 0
  have c0_1 : u1.cell? ⟨w.heap.size, 1, none⟩ = some (.string B) := K0.cell 1
  have l0 := K0.lt
  go_wp2
  go_ret
  exact ⟨rfl, HV⟩
set_option maxHeartbeats 2000000 in
set_option maxRecDepth 100000 in
/-- One of the list is not canonical. -/
theorem cel_form (p q n j : Nat) (X : Nat → ByteArray) (gb : Nat) (w : World) (hp : p < Top) (hq : q < Top) (hX : ∀ k, k < n → (X k).size ≤ 9223372036854775807) (hn : n ≤ 1000) (hj : j < n) (hv : validB (X j) = false) (hlt : ∀ i, i < j → validB (X i) = true) (hc : ∀ k, k < n → w.cell? ⟨gb, k, none⟩ = some (.string (X k))) (hgb : gb < w.heap.size) :
    Calls Tryz.prog 38 #[.agg #[.string (bs p), .string (bs q)], .slice (some ⟨gb, 0, none⟩) n n] w (Made w (.int .i64 3)) := by
  have HG := Lib.hid (fun W => gwf_yes hp hq W)
  have HX := Lib.hid (fun k (hk : k < n) W => valid_any (X k) W (hX k hk))
  have HJ := Lib.hid (And.intro hv hlt)
  have HC := Lib.hid hc
  clear hp hq hX hv hlt hc
  have HV : Below w.heap.size w (w.alloc (.cells #[.string (bs p), .string (bs q)] 24)) := ((Below.refl w.heap.size w).alloc (Nat.le_refl _) (.cells #[.string (bs p), .string (bs q)] 24))
  have K0 : Bk (w.alloc (.cells #[.string (bs p), .string (bs q)] 24)) w.heap.size #[.string (bs p), .string (bs q)] 24 := (Bk.new w #[.string (bs p), .string (bs q)] 24)
  go_enter Tryz.func38, Tryz.ntmps38
  go_wp2_with fail
  refine (HG.out _).mono ?_
  rintro e u1 ⟨rfl, hb⟩
  replace HV := HV.trans (hb.mono HV.size)
  replace K0 := K0.below hb
  clear hb
  have c0_0 : u1.cell? ⟨w.heap.size, 0, none⟩ = some (.string (bs p)) := K0.cell 0
  have c0_1 : u1.cell? ⟨w.heap.size, 1, none⟩ = some (.string (bs q)) := K0.cell 1
  have l0 := K0.lt
  go_wp2
  go_loopw [14] (fun x14 wr => ∃ i : Nat, i ≤ j ∧ x14 = .int .i64 i ∧ wr = u1) (fun x14 _ => j + 1 - (intOf x14).toNat)
  case atStart => exact ⟨0, Nat.zero_le _, rfl, rfl⟩
  case round =>
    obtain ⟨i, hi, rfl, rfl⟩ := hrel
    have hin : i < n := by omega
    have hcell := (HV.cell (p := ⟨gb, i, none⟩) hgb).trans (HC.out i hin)
    have HXi := Lib.hid (HX.out i hin)
    have lg : gb < wr.heap.size := Nat.lt_of_lt_of_le hgb HV.size
    by_cases hij : i = j
    · rw [show validB (X i) = false from by rw [hij]; exact HJ.out.1] at HXi
      generalize X i = S at *
      clear hij
      go_wp2_with fail
      refine (HXi.out _).mono ?_
      rintro e u2 ⟨rfl, rfl⟩
      go_wp2
      go_ret
      exact ⟨rfl, HV⟩
    · rw [show validB (X i) = true from HJ.out.2 i (by omega)] at HXi
      generalize X i = S at *
      go_wp2_with fail
      refine (HXi.out _).mono ?_
      rintro e u2 ⟨rfl, rfl⟩
      go_wp2
      go_roundw
      case rel => exact ⟨i + 1, by omega, by go_num, by first | rfl | trivial⟩
      case measure => simp [intOf]; omega

set_option maxHeartbeats 2000000 in
set_option maxRecDepth 100000 in
/-- All are canonical: 0 if all are elements, and 13 otherwise. j: the first one that is none, or n. -/
theorem cel_ok (p q n j : Nat) (x : Nat → Nat) (gb : Nat) (c : Int) (w : World) (hp : p < Top) (hq : q < Top) (hX : ∀ k, k < n → x k < Top) (hn : n ≤ 1000) (hj : j ≤ n) (hv : j < n → hasN p q (x j) = false) (hlt : ∀ i, i < j → hasN p q (x i) = true) (hcj : (j < n → c = 13) ∧ (j = n → c = 0)) (hc : ∀ k, k < n → w.cell? ⟨gb, k, none⟩ = some (.string (bs (x k)))) (hgb : gb < w.heap.size) :
    Calls Tryz.prog 38 #[.agg #[.string (bs p), .string (bs q)], .slice (some ⟨gb, 0, none⟩) n n] w (Made w (.int .i64 c)) := by
  have HG := Lib.hid (fun W => gwf_yes hp hq W)
  have HX := Lib.hid (fun k (hk : k < n) W => valid_yes (hX k hk) W)
  have HH := Lib.hid (fun k (hk : k < n) W => has_ok p q (x k) W hp hq (hX k hk))
  have HJ := Lib.hid (And.intro hv hlt)
  have HC := Lib.hid hc
  have HR := Lib.hid hcj
  clear hp hq hX hv hlt hc hcj
  have HV : Below w.heap.size w (w.alloc (.cells #[.string (bs p), .string (bs q)] 24)) := ((Below.refl w.heap.size w).alloc (Nat.le_refl _) (.cells #[.string (bs p), .string (bs q)] 24))
  have K0 : Bk (w.alloc (.cells #[.string (bs p), .string (bs q)] 24)) w.heap.size #[.string (bs p), .string (bs q)] 24 := (Bk.new w #[.string (bs p), .string (bs q)] 24)
  go_enter Tryz.func38, Tryz.ntmps38
  go_wp2_with fail
  refine (HG.out _).mono ?_
  rintro e u1 ⟨rfl, hb⟩
  replace HV := HV.trans (hb.mono HV.size)
  replace K0 := K0.below hb
  clear hb
  have c0_0 : u1.cell? ⟨w.heap.size, 0, none⟩ = some (.string (bs p)) := K0.cell 0
  have c0_1 : u1.cell? ⟨w.heap.size, 1, none⟩ = some (.string (bs q)) := K0.cell 1
  have l0 := K0.lt
  go_wp2
  go_loopw [14] (fun x14 wr => ∃ i : Nat, i ≤ n ∧ x14 = .int .i64 i ∧ wr = u1) (fun x14 _ => n - (intOf x14).toNat)
  case atStart => exact ⟨0, Nat.zero_le _, rfl, rfl⟩
  case round =>
    obtain ⟨i, hi, rfl, hw⟩ := hrel
    obtain rfl : u1 = wr := hw.symm
    by_cases hin : i < n
    · have hcell := (HV.cell (p := ⟨gb, i, none⟩) hgb).trans (HC.out i hin)
      have HXi := Lib.hid (HX.out i hin)
      have lg : gb < u1.heap.size := Nat.lt_of_lt_of_le hgb HV.size
      generalize bs (x i) = S at *
      go_wp2_with fail
      refine (HXi.out _).mono ?_
      rintro e u2 ⟨rfl, rfl⟩
      go_wp2
      go_roundw
      case rel => exact ⟨i + 1, by omega, by go_num, by first | rfl | trivial⟩
      case measure => simp [intOf]; omega
    · obtain rfl : i = n := by omega
      go_wp2
      have KV := Lib.hid (And.intro HV K0)
      clear HV K0 c0_0 c0_1 l0
      go_loopw [24] (fun x24 wq => ∃ k : Nat, k ≤ j ∧ x24 = .int .i64 k ∧ Hid (Below u1.heap.size u1 wq)) (fun x24 _ => i + 1 - (intOf x24).toNat)
      case atStart => exact ⟨0, Nat.zero_le _, rfl, Lib.hid (Below.refl _ _)⟩
      case round =>
        obtain ⟨k, hk, rfl, HB⟩ := hrel
        have HV := KV.out.1.trans (HB.out.mono KV.out.1.size)
        have K0 := KV.out.2.below HB.out
        by_cases hkn : k < i
        · have hcell := (HV.cell (p := ⟨gb, k, none⟩) hgb).trans (HC.out k hkn)
          have HHk := Lib.hid (HH.out k hkn)
          have lg : gb < wr.heap.size := Nat.lt_of_lt_of_le hgb HV.size
          have c0_0 := K0.cell 0
          have c0_1 := K0.cell 1
          have l0 := K0.lt
          by_cases hkj : k = j
          · rw [show hasN p q (x k) = false from by rw [hkj]; exact HJ.out.1 (by omega)] at HHk
            obtain rfl : c = 13 := HR.out.1 (by omega)
            generalize bs (x k) = S at *
            clear hkj
            go_wp2_with fail
            refine (HHk.out _).mono ?_
            rintro e u3 ⟨rfl, hb⟩
            replace HV := HV.trans (hb.mono HV.size)
            clear hb
            go_wp2
            go_ret
            exact ⟨rfl, HV⟩
          · rw [show hasN p q (x k) = true from HJ.out.2 k (by omega)] at HHk
            generalize bs (x k) = S at *
            go_wp2_with fail
            refine (HHk.out _).mono ?_
            rintro e u3 ⟨rfl, hb⟩
            have HB2 := Lib.hid (HB.out.trans (hb.mono HB.out.size))
            clear hb
            go_wp2
            go_roundw
            case rel => exact ⟨k + 1, by omega, by go_num, HB2⟩
            case measure => simp [intOf]; omega
        · obtain rfl : c = 0 := HR.out.2 (by omega)
          go_wp2
          go_ret
          exact ⟨rfl, HV⟩

end Go.Proofs.YtmiafkbjmkaebaaGreat

namespace Go.Proofs.YtmiafkbjmkaebaaGreat
open Go.RowKit Num

/-- checkElements of a list of two, of one. -/
abbrev Cel2 (A B S T : ByteArray) (c : Int) : Prop := ∀ (W : World) (gb : Nat), W.cell? ⟨gb, 0, none⟩ = some (.string S) → W.cell? ⟨gb, 1, none⟩ = some (.string T) → gb < W.heap.size → Calls Tryz.prog 38 #[.agg #[.string A, .string B], .slice (some ⟨gb, 0, none⟩) 2 2] W (Made W (.int .i64 c))
abbrev Cel1 (A B S : ByteArray) (c : Int) : Prop := ∀ (W : World) (gb : Nat), W.cell? ⟨gb, 0, none⟩ = some (.string S) → gb < W.heap.size → Calls Tryz.prog 38 #[.agg #[.string A, .string B], .slice (some ⟨gb, 0, none⟩) 1 1] W (Made W (.int .i64 c))
theorem cel2_bad {A B S T : ByteArray} (hA : A.size ≤ 9223372036854775807) (hB : B.size ≤ 9223372036854775807) (hS : S.size ≤ 9223372036854775807) (hT : T.size ≤ 9223372036854775807) (h : (validB A && validB B && validB S && validB T) = false) : Cel2 A B S T 3 := by
  intro W gb c0 c1 hg
  rcases hw : (validB A && validB B) with _ | _
  · exact cel_wf A B _ W hA hB hw
  · rw [hw] at h
    simp only [Bool.and_eq_true] at hw
    obtain ⟨p, hp, rfl⟩ := bs_of_valid hw.1
    obtain ⟨q, hq, rfl⟩ := bs_of_valid hw.2
    have hcs : ∀ k, k < 2 → W.cell? ⟨gb, k, none⟩ = some (.string (if k = 0 then S else T)) := fun k hk => by
      rcases (show k = 0 ∨ k = 1 by omega) with rfl | rfl
      · exact c0
      · exact c1
    rcases hs : validB S with _ | _
    · exact cel_form p q 2 0 (fun k => if k = 0 then S else T) gb W hp hq (fun k _ => by split <;> assumption) (by decide) (by decide) hs (fun i hi => absurd hi (by omega)) hcs hg
    · exact cel_form p q 2 1 (fun k => if k = 0 then S else T) gb W hp hq (fun k _ => by split <;> assumption) (by decide) (by decide) (by simpa [hs] using h) (fun i hi => by (have h9 : i = 0 := by omega); subst h9; exact hs) hcs hg
theorem cel2_ok {p q a b : Nat} (hp : p < Top) (hq : q < Top) (ha : a < Top) (hb : b < Top) : Cel2 (bs p) (bs q) (bs a) (bs b) (if (hasN p q a && hasN p q b) then 0 else 13) := by
  intro W gb c0 c1 hg
  have hcs : ∀ k, k < 2 → W.cell? ⟨gb, k, none⟩ = some (.string (bs (if k = 0 then a else b))) := fun k hk => by
    rcases (show k = 0 ∨ k = 1 by omega) with rfl | rfl
    · exact c0
    · exact c1
  have hx : ∀ k, k < 2 → (if k = 0 then a else b) < Top := fun k _ => by split <;> assumption
  rcases h1 : hasN p q a with _ | _
  · exact cel_ok p q 2 0 (fun k => if k = 0 then a else b) gb 13 W hp hq hx (by decide) (by decide) (fun _ => h1) (fun i hi => absurd hi (by omega)) ⟨fun _ => rfl, fun h => absurd h (by decide)⟩ hcs hg
  · rcases h2 : hasN p q b with _ | _
    · exact cel_ok p q 2 1 (fun k => if k = 0 then a else b) gb 13 W hp hq hx (by decide) (by decide) (fun _ => h2) (fun i hi => by (have h9 : i = 0 := by omega); subst h9; exact h1) ⟨fun _ => rfl, fun h => absurd h (by decide)⟩ hcs hg
    · exact cel_ok p q 2 2 (fun k => if k = 0 then a else b) gb 0 W hp hq hx (by decide) (by decide) (fun h => absurd h (by omega)) (fun i hi => by
        rcases (show i = 0 ∨ i = 1 by omega) with rfl | rfl
        · exact h1
        · exact h2) ⟨fun h => absurd h (by decide), fun _ => rfl⟩ hcs hg
theorem cel1_bad {A B S : ByteArray} (hA : A.size ≤ 9223372036854775807) (hB : B.size ≤ 9223372036854775807) (hS : S.size ≤ 9223372036854775807) (h : (validB A && validB B && validB S) = false) : Cel1 A B S 3 := by
  intro W gb c0 hg
  rcases hw : (validB A && validB B) with _ | _
  · exact cel_wf A B _ W hA hB hw
  · rw [hw] at h
    simp only [Bool.and_eq_true] at hw
    obtain ⟨p, hp, rfl⟩ := bs_of_valid hw.1
    obtain ⟨q, hq, rfl⟩ := bs_of_valid hw.2
    exact cel_form p q 1 0 (fun _ => S) gb W hp hq (fun k _ => hS) (by decide) (by decide) (by simpa using h) (fun i hi => absurd hi (by omega)) (fun k hk => by (have h9 : k = 0 := by omega); subst h9; exact c0) hg
theorem cel1_ok {p q a : Nat} (hp : p < Top) (hq : q < Top) (ha : a < Top) : Cel1 (bs p) (bs q) (bs a) (if hasN p q a then 0 else 13) := by
  intro W gb c0 hg
  have hcs : ∀ k, k < 1 → W.cell? ⟨gb, k, none⟩ = some (.string (bs a)) := fun k hk => by
    obtain rfl : k = 0 := by omega
    exact c0
  rcases h1 : hasN p q a with _ | _
  · exact cel_ok p q 1 0 (fun _ => a) gb 13 W hp hq (fun _ _ => ha) (by decide) (by decide) (fun _ => h1) (fun i hi => absurd hi (by omega)) ⟨fun _ => rfl, fun h => absurd h (by decide)⟩ hcs hg
  · exact cel_ok p q 1 1 (fun _ => a) gb 0 W hp hq (fun _ _ => ha) (by decide) (by decide) (fun h => absurd h (by omega)) (fun i hi => by (have h9 : i = 0 := by omega); subst h9; exact h1) ⟨fun h => absurd h (by decide), fun _ => rfl⟩ hcs hg

set_option maxHeartbeats 1000000 in
set_option maxRecDepth 100000 in
theorem pmul_bad (A B S T : ByteArray) (c : Int) (w : World) (hc : c = 3 ∨ c = 13) (h : Cel2 A B S T c) :
    Calls Tryz.prog 16 #[.agg #[.string A, .string B], .string S, .string T] w (Made w (.tuple #[.string ⟨#[]⟩, .int .i64 c])) := by
  have HC := Lib.hid h
  clear h
  rcases hc with rfl | rfl
  all_goals
    have HV : Below w.heap.size w ((w.alloc (.cells #[.string A, .string B] 24)).alloc (.cells #[.string S, .string T] 22)) := (((Below.refl w.heap.size w).alloc (Nat.le_refl _) (.cells #[.string A, .string B] 24)).alloc (by simp) (.cells #[.string S, .string T] 22))
    have K0 : Bk ((w.alloc (.cells #[.string A, .string B] 24)).alloc (.cells #[.string S, .string T] 22)) w.heap.size #[.string A, .string B] 24 := ((Bk.new w #[.string A, .string B] 24).alloc (.cells #[.string S, .string T] 22))
    have K1 : Bk ((w.alloc (.cells #[.string A, .string B] 24)).alloc (.cells #[.string S, .string T] 22)) (w.heap.size + 1) #[.string S, .string T] 22 := by have h := (Bk.new (w.alloc (.cells #[.string A, .string B] 24)) #[.string S, .string T] 22); simpa using h
    go_enter Tryz.func16, Tryz.ntmps16
    go_wp2_with fail
    refine (HC.out _ _ (K1.cell 0) (K1.cell 1) K1.lt).mono ?_
    rintro e u1 ⟨rfl, hb⟩
    replace HV := HV.trans (hb.mono HV.size)
    replace K0 := K0.below hb
    replace K1 := K1.below hb
    clear hb
    have c0_0 : u1.cell? ⟨w.heap.size, 0, none⟩ = some (.string A) := K0.cell 0
    have c0_1 : u1.cell? ⟨w.heap.size, 1, none⟩ = some (.string B) := K0.cell 1
    have l0 := K0.lt
    have c1_0 : u1.cell? ⟨(w.heap.size + 1), 0, none⟩ = some (.string S) := K1.cell 0
    have c1_1 : u1.cell? ⟨(w.heap.size + 1), 1, none⟩ = some (.string T) := K1.cell 1
    have l1 := K1.lt
    go_wp2
    go_ret2
    exact ⟨rfl, HV⟩
set_option maxHeartbeats 1000000 in
set_option maxRecDepth 100000 in
theorem pmul_ok (p q a b : Nat) (w : World) (hp : p < Top) (ha : a < Top) (hb : b < Top) (h0 : p ≠ 0) (h : Cel2 (bs p) (bs q) (bs a) (bs b) 0) :
    Calls Tryz.prog 16 #[.agg #[.string (bs p), .string (bs q)], .string (bs a), .string (bs b)] w (Made w (.tuple #[.string (bs (a * b % p)), .int .i64 0])) := by
  have HC := Lib.hid h
  have HM := Lib.hid (fun W => mmul_ok a b p W ha hb h0 hp)
  clear h hp ha hb
  have HV : Below w.heap.size w ((w.alloc (.cells #[.string (bs p), .string (bs q)] 24)).alloc (.cells #[.string (bs a), .string (bs b)] 22)) := (((Below.refl w.heap.size w).alloc (Nat.le_refl _) (.cells #[.string (bs p), .string (bs q)] 24)).alloc (by simp) (.cells #[.string (bs a), .string (bs b)] 22))
  have K0 : Bk ((w.alloc (.cells #[.string (bs p), .string (bs q)] 24)).alloc (.cells #[.string (bs a), .string (bs b)] 22)) w.heap.size #[.string (bs p), .string (bs q)] 24 := ((Bk.new w #[.string (bs p), .string (bs q)] 24).alloc (.cells #[.string (bs a), .string (bs b)] 22))
  have K1 : Bk ((w.alloc (.cells #[.string (bs p), .string (bs q)] 24)).alloc (.cells #[.string (bs a), .string (bs b)] 22)) (w.heap.size + 1) #[.string (bs a), .string (bs b)] 22 := by have h := (Bk.new (w.alloc (.cells #[.string (bs p), .string (bs q)] 24)) #[.string (bs a), .string (bs b)] 22); simpa using h
  go_enter Tryz.func16, Tryz.ntmps16
  go_wp2_with fail
  refine (HC.out _ _ (K1.cell 0) (K1.cell 1) K1.lt).mono ?_
  rintro e u1 ⟨rfl, hb⟩
  replace HV := HV.trans (hb.mono HV.size)
  replace K0 := K0.below hb
  replace K1 := K1.below hb
  clear hb
  have c0_0 : u1.cell? ⟨w.heap.size, 0, none⟩ = some (.string (bs p)) := K0.cell 0
  have c0_1 : u1.cell? ⟨w.heap.size, 1, none⟩ = some (.string (bs q)) := K0.cell 1
  have l0 := K0.lt
  have c1_0 : u1.cell? ⟨(w.heap.size + 1), 0, none⟩ = some (.string (bs a)) := K1.cell 0
  have c1_1 : u1.cell? ⟨(w.heap.size + 1), 1, none⟩ = some (.string (bs b)) := K1.cell 1
  have l1 := K1.lt
  go_wp2_with fail
  refine (HM.out _).mono ?_
  rintro e u2 ⟨rfl, hb⟩
  replace HV := HV.trans (hb.mono HV.size)
  replace K0 := K0.below hb
  replace K1 := K1.below hb
  clear hb
  clear c0_0 c0_1 l0
  have c0_0 : u2.cell? ⟨w.heap.size, 0, none⟩ = some (.string (bs p)) := K0.cell 0
  have c0_1 : u2.cell? ⟨w.heap.size, 1, none⟩ = some (.string (bs q)) := K0.cell 1
  have l0 := K0.lt
  clear c1_0 c1_1 l1
  have c1_0 : u2.cell? ⟨(w.heap.size + 1), 0, none⟩ = some (.string (bs a)) := K1.cell 0
  have c1_1 : u2.cell? ⟨(w.heap.size + 1), 1, none⟩ = some (.string (bs b)) := K1.cell 1
  have l1 := K1.lt
  go_wp2
  go_ret2
  exact ⟨rfl, HV⟩
set_option maxHeartbeats 1000000 in
set_option maxRecDepth 100000 in
theorem ppow_form (A B S E : ByteArray) (f : Bool) (w : World) (hE : E.size ≤ 9223372036854775807) (h : vI f E = false) :
    Calls Tryz.prog 18 #[.agg #[.string A, .string B], .string S, .agg #[.bool f, .string E]] w (Made w (.tuple #[.string ⟨#[]⟩, .int .i64 3])) := by
  have HI := Lib.hid (fun W => ivalid_no h W hE)
  clear h hE
  have HV : Below w.heap.size w ((w.alloc (.cells #[.string A, .string B] 24)).alloc (.cells #[.bool f, .string E] 38)) := (((Below.refl w.heap.size w).alloc (Nat.le_refl _) (.cells #[.string A, .string B] 24)).alloc (by simp) (.cells #[.bool f, .string E] 38))
  have K0 : Bk ((w.alloc (.cells #[.string A, .string B] 24)).alloc (.cells #[.bool f, .string E] 38)) w.heap.size #[.string A, .string B] 24 := ((Bk.new w #[.string A, .string B] 24).alloc (.cells #[.bool f, .string E] 38))
  have K1 : Bk ((w.alloc (.cells #[.string A, .string B] 24)).alloc (.cells #[.bool f, .string E] 38)) (w.heap.size + 1) #[.bool f, .string E] 38 := by have h := (Bk.new (w.alloc (.cells #[.string A, .string B] 24)) #[.bool f, .string E] 38); simpa using h
  go_enter Tryz.func18, Tryz.ntmps18
  go_wp2_with fail
  refine (HI.out _).mono ?_
  rintro e u1 ⟨rfl, hb⟩
  replace HV := HV.trans (hb.mono HV.size)
  replace K0 := K0.below hb
  replace K1 := K1.below hb
  clear hb
  have c0_0 : u1.cell? ⟨w.heap.size, 0, none⟩ = some (.string A) := K0.cell 0
  have c0_1 : u1.cell? ⟨w.heap.size, 1, none⟩ = some (.string B) := K0.cell 1
  have l0 := K0.lt
  have c1_0 : u1.cell? ⟨(w.heap.size + 1), 0, none⟩ = some (.bool f) := K1.cell 0
  have c1_1 : u1.cell? ⟨(w.heap.size + 1), 1, none⟩ = some (.string E) := K1.cell 1
  have l1 := K1.lt
  go_wp2
  go_ret2
  exact ⟨rfl, HV⟩
set_option maxHeartbeats 1000000 in
set_option maxRecDepth 100000 in
theorem ppow_bad (A B S E : ByteArray) (f : Bool) (c : Int) (w : World) (hE : E.size ≤ 9223372036854775807) (hv : vI f E = true) (hc : c = 3 ∨ c = 13) (h : Cel1 A B S c) :
    Calls Tryz.prog 18 #[.agg #[.string A, .string B], .string S, .agg #[.bool f, .string E]] w (Made w (.tuple #[.string ⟨#[]⟩, .int .i64 c])) := by
  have HI : Hid (∀ W, Calls Tryz.prog 41 #[.agg #[.bool f, .string E]] W (Made W (.bool true))) := Lib.hid (fun W => by
    have h2 := ivalid_core f (validB E) E.toList.isEmpty E W hE rfl rfl
    unfold vI at hv
    rwa [hv] at h2)
  have HC := Lib.hid h
  clear h hv hE
  rcases hc with rfl | rfl
  all_goals
    have HV : Below w.heap.size w ((w.alloc (.cells #[.string A, .string B] 24)).alloc (.cells #[.bool f, .string E] 38)) := (((Below.refl w.heap.size w).alloc (Nat.le_refl _) (.cells #[.string A, .string B] 24)).alloc (by simp) (.cells #[.bool f, .string E] 38))
    have K0 : Bk ((w.alloc (.cells #[.string A, .string B] 24)).alloc (.cells #[.bool f, .string E] 38)) w.heap.size #[.string A, .string B] 24 := ((Bk.new w #[.string A, .string B] 24).alloc (.cells #[.bool f, .string E] 38))
    have K1 : Bk ((w.alloc (.cells #[.string A, .string B] 24)).alloc (.cells #[.bool f, .string E] 38)) (w.heap.size + 1) #[.bool f, .string E] 38 := by have h := (Bk.new (w.alloc (.cells #[.string A, .string B] 24)) #[.bool f, .string E] 38); simpa using h
    go_enter Tryz.func18, Tryz.ntmps18
    go_wp2_with fail
    refine (HI.out _).mono ?_
    rintro e u1 ⟨rfl, hb⟩
    replace HV := HV.trans (hb.mono HV.size)
    replace K0 := K0.below hb
    replace K1 := K1.below hb
    clear hb
    have c0_0 : u1.cell? ⟨w.heap.size, 0, none⟩ = some (.string A) := K0.cell 0
    have c0_1 : u1.cell? ⟨w.heap.size, 1, none⟩ = some (.string B) := K0.cell 1
    have l0 := K0.lt
    have c1_0 : u1.cell? ⟨(w.heap.size + 1), 0, none⟩ = some (.bool f) := K1.cell 0
    have c1_1 : u1.cell? ⟨(w.heap.size + 1), 1, none⟩ = some (.string E) := K1.cell 1
    have l1 := K1.lt
    go_wp2_with fail
    have KS := Bk.new u1 #[.string S] 22
    have HVa := HV.alloc HV.size (.cells #[.string S] 22)
    refine (HC.out _ _ (KS.cell 0) KS.lt).mono ?_
    rintro e u2 ⟨rfl, hb⟩
    replace HV := HVa.trans (hb.mono HVa.size)
    replace K0 := (K0.alloc (.cells #[.string S] 22)).below hb
    replace K1 := (K1.alloc (.cells #[.string S] 22)).below hb
    clear hb HVa KS
    clear c0_0 c0_1 l0
    have c0_0 : u2.cell? ⟨w.heap.size, 0, none⟩ = some (.string A) := K0.cell 0
    have c0_1 : u2.cell? ⟨w.heap.size, 1, none⟩ = some (.string B) := K0.cell 1
    have l0 := K0.lt
    clear c1_0 c1_1 l1
    have c1_0 : u2.cell? ⟨(w.heap.size + 1), 0, none⟩ = some (.bool f) := K1.cell 0
    have c1_1 : u2.cell? ⟨(w.heap.size + 1), 1, none⟩ = some (.string E) := K1.cell 1
    have l1 := K1.lt
    go_wp2
    go_ret2
    exact ⟨rfl, HV⟩
set_option maxHeartbeats 1000000 in
set_option maxRecDepth 100000 in
theorem ppow_ok (A B S E R : ByteArray) (f : Bool) (w : World) (hE : E.size ≤ 9223372036854775807) (hv : vI f E = true) (h : Cel1 A B S 0)
    (hM : ∀ W, Calls Tryz.prog 42 #[.string S, .agg #[.bool f, .string E], .string A] W (Made W (.tuple #[.string R, .int .i64 0]))) :
    Calls Tryz.prog 18 #[.agg #[.string A, .string B], .string S, .agg #[.bool f, .string E]] w (Made w (.tuple #[.string R, .int .i64 0])) := by
  have HI : Hid (∀ W, Calls Tryz.prog 41 #[.agg #[.bool f, .string E]] W (Made W (.bool true))) := Lib.hid (fun W => by
    have h2 := ivalid_core f (validB E) E.toList.isEmpty E W hE rfl rfl
    unfold vI at hv
    rwa [hv] at h2)
  have HC := Lib.hid h
  have HM := Lib.hid hM
  clear h hv hE hM
  have HV : Below w.heap.size w ((w.alloc (.cells #[.string A, .string B] 24)).alloc (.cells #[.bool f, .string E] 38)) := (((Below.refl w.heap.size w).alloc (Nat.le_refl _) (.cells #[.string A, .string B] 24)).alloc (by simp) (.cells #[.bool f, .string E] 38))
  have K0 : Bk ((w.alloc (.cells #[.string A, .string B] 24)).alloc (.cells #[.bool f, .string E] 38)) w.heap.size #[.string A, .string B] 24 := ((Bk.new w #[.string A, .string B] 24).alloc (.cells #[.bool f, .string E] 38))
  have K1 : Bk ((w.alloc (.cells #[.string A, .string B] 24)).alloc (.cells #[.bool f, .string E] 38)) (w.heap.size + 1) #[.bool f, .string E] 38 := by have h := (Bk.new (w.alloc (.cells #[.string A, .string B] 24)) #[.bool f, .string E] 38); simpa using h
  go_enter Tryz.func18, Tryz.ntmps18
  go_wp2_with fail
  refine (HI.out _).mono ?_
  rintro e u1 ⟨rfl, hb⟩
  replace HV := HV.trans (hb.mono HV.size)
  replace K0 := K0.below hb
  replace K1 := K1.below hb
  clear hb
  have c0_0 : u1.cell? ⟨w.heap.size, 0, none⟩ = some (.string A) := K0.cell 0
  have c0_1 : u1.cell? ⟨w.heap.size, 1, none⟩ = some (.string B) := K0.cell 1
  have l0 := K0.lt
  have c1_0 : u1.cell? ⟨(w.heap.size + 1), 0, none⟩ = some (.bool f) := K1.cell 0
  have c1_1 : u1.cell? ⟨(w.heap.size + 1), 1, none⟩ = some (.string E) := K1.cell 1
  have l1 := K1.lt
  go_wp2_with fail
  have KS := Bk.new u1 #[.string S] 22
  have HVa := HV.alloc HV.size (.cells #[.string S] 22)
  refine (HC.out _ _ (KS.cell 0) KS.lt).mono ?_
  rintro e u2 ⟨rfl, hb⟩
  replace HV := HVa.trans (hb.mono HVa.size)
  replace K0 := (K0.alloc (.cells #[.string S] 22)).below hb
  replace K1 := (K1.alloc (.cells #[.string S] 22)).below hb
  clear hb HVa KS
  clear c0_0 c0_1 l0
  have c0_0 : u2.cell? ⟨w.heap.size, 0, none⟩ = some (.string A) := K0.cell 0
  have c0_1 : u2.cell? ⟨w.heap.size, 1, none⟩ = some (.string B) := K0.cell 1
  have l0 := K0.lt
  clear c1_0 c1_1 l1
  have c1_0 : u2.cell? ⟨(w.heap.size + 1), 0, none⟩ = some (.bool f) := K1.cell 0
  have c1_1 : u2.cell? ⟨(w.heap.size + 1), 1, none⟩ = some (.string E) := K1.cell 1
  have l1 := K1.lt
  go_wp2_with fail
  refine (HM.out _).mono ?_
  rintro e u3 ⟨rfl, hb⟩
  replace HV := HV.trans (hb.mono HV.size)
  replace K0 := K0.below hb
  replace K1 := K1.below hb
  clear hb
  clear c0_0 c0_1 l0
  have c0_0 : u3.cell? ⟨w.heap.size, 0, none⟩ = some (.string A) := K0.cell 0
  have c0_1 : u3.cell? ⟨w.heap.size, 1, none⟩ = some (.string B) := K0.cell 1
  have l0 := K0.lt
  clear c1_0 c1_1 l1
  have c1_0 : u3.cell? ⟨(w.heap.size + 1), 0, none⟩ = some (.bool f) := K1.cell 0
  have c1_1 : u3.cell? ⟨(w.heap.size + 1), 1, none⟩ = some (.string E) := K1.cell 1
  have l1 := K1.lt
  go_wp2
  go_ret2
  exact ⟨rfl, HV⟩
set_option maxHeartbeats 1000000 in
set_option maxRecDepth 100000 in
theorem pcof_ok (p q : Nat) (w : World) (hp : p < Top) (hq : q < Top) (h1 : p ≠ 0) (h2 : q ≠ 0) :
    Calls Tryz.prog 27 #[.agg #[.string (bs p), .string (bs q)]] w (Made w (if (p - 1) % q = 0 then .tuple #[.string (bs ((p - 1) / q)), .int .i64 0] else .tuple #[.string ⟨#[]⟩, .int .i64 13])) := by
  have HO : Hid (∀ W, Calls Tryz.prog 34 #[.int .u64 1] W (Made W (.string (bs 1)))) := Lib.hid (fun W => of_lit 1 (by decide) (by decide) W)
  have HS := Lib.hid (fun W => sub_ok (a := p) (b := 1) hp (by unfold Top; decide) (by omega) W)
  have HD := Lib.hid (fun W => divmod_ok (a := p - 1) (b := q) (by omega) hq h2 W)
  have e1 : (bs ((p - 1) % q)).toList.isEmpty = ((p - 1) % q == 0) := bs_isEmpty _
  clear hp hq
  by_cases h3 : (p - 1) % q = 0
  · rw [if_pos h3]
    rw [show ((p - 1) % q == 0) = true from by simp [h3]] at e1
    clear h3
    have HV : Below w.heap.size w (w.alloc (.cells #[.string (bs p), .string (bs q)] 24)) := ((Below.refl w.heap.size w).alloc (Nat.le_refl _) (.cells #[.string (bs p), .string (bs q)] 24))
    have K0 : Bk (w.alloc (.cells #[.string (bs p), .string (bs q)] 24)) w.heap.size #[.string (bs p), .string (bs q)] 24 := (Bk.new w #[.string (bs p), .string (bs q)] 24)
    go_enter Tryz.func27, Tryz.ntmps27
    go_wp2_with fail
    have c0_0 := K0.cell 0
    have c0_1 := K0.cell 1
    go_region_with (first
      | (go_at_call 34; (refine (HO.out _).mono ?_); rintro e w3 ⟨rfl, hb⟩; replace HV := HV.drew.trans (hb.mono HV.size); replace K0 := K0.belowD hb; clear hb c0_0 c0_1; have c0_0 := K0.cell 0; have c0_1 := K0.cell 1)
      | (go_at_call 49; (refine (HS.out _).mono ?_); rintro e w4 ⟨rfl, hb⟩; replace HV := HV.trans (hb.mono HV.size); replace K0 := K0.below hb; clear hb c0_0 c0_1; have c0_0 := K0.cell 0; have c0_1 := K0.cell 1))
    all_goals
      have l0 := K0.lt
      go_wp2_with fail
      refine (HD.out _).mono ?_
      rintro e w5 ⟨rfl, hb⟩
      replace HV := HV.trans (hb.mono HV.size)
      clear hb
      go_wp2
      go_ret2
      exact ⟨rfl, HV⟩
  · rw [if_neg h3]
    rw [show ((p - 1) % q == 0) = false from by simp [h3]] at e1
    clear h3
    have HV : Below w.heap.size w (w.alloc (.cells #[.string (bs p), .string (bs q)] 24)) := ((Below.refl w.heap.size w).alloc (Nat.le_refl _) (.cells #[.string (bs p), .string (bs q)] 24))
    have K0 : Bk (w.alloc (.cells #[.string (bs p), .string (bs q)] 24)) w.heap.size #[.string (bs p), .string (bs q)] 24 := (Bk.new w #[.string (bs p), .string (bs q)] 24)
    go_enter Tryz.func27, Tryz.ntmps27
    go_wp2_with fail
    have c0_0 := K0.cell 0
    have c0_1 := K0.cell 1
    go_region_with (first
      | (go_at_call 34; (refine (HO.out _).mono ?_); rintro e w3 ⟨rfl, hb⟩; replace HV := HV.drew.trans (hb.mono HV.size); replace K0 := K0.belowD hb; clear hb c0_0 c0_1; have c0_0 := K0.cell 0; have c0_1 := K0.cell 1)
      | (go_at_call 49; (refine (HS.out _).mono ?_); rintro e w4 ⟨rfl, hb⟩; replace HV := HV.trans (hb.mono HV.size); replace K0 := K0.below hb; clear hb c0_0 c0_1; have c0_0 := K0.cell 0; have c0_1 := K0.cell 1))
    all_goals
      have l0 := K0.lt
      go_wp2_with fail
      refine (HD.out _).mono ?_
      rintro e w5 ⟨rfl, hb⟩
      replace HV := HV.trans (hb.mono HV.size)
      clear hb
      go_wp2
      go_ret2
      exact ⟨rfl, HV⟩

end Go.Proofs.YtmiafkbjmkaebaaGreat

namespace Go.Proofs.YtmiafkbjmkaebaaGreat
open Go.RowKit Num

set_option maxHeartbeats 1000000 in
set_option maxRecDepth 100000 in
theorem pchk_form (A B : ByteArray) (w : World) (hA : A.size ≤ 9223372036854775807) (hB : B.size ≤ 9223372036854775807) (h : (validB A && validB B) = false) :
    Calls Tryz.prog 9 #[.agg #[.string A, .string B]] w (Made w (.int .i64 3)) := by
  have HG := Lib.hid (fun W => gwf_any A B _ _ W hA hB rfl rfl)
  rw [h] at HG
  clear h hA hB
  have HV : Below w.heap.size w (w.alloc (.cells #[.string A, .string B] 24)) := ((Below.refl w.heap.size w).alloc (Nat.le_refl _) (.cells #[.string A, .string B] 24))
  have K0 : Bk (w.alloc (.cells #[.string A, .string B] 24)) w.heap.size #[.string A, .string B] 24 := (Bk.new w #[.string A, .string B] 24)
  go_enter Tryz.func9, Tryz.ntmps9
  go_wp2_with fail
  refine (HG.out _).mono ?_
  rintro e u1 ⟨rfl, hb⟩
  replace HV := HV.trans (hb.mono HV.size)
  replace K0 := K0.below hb
  clear hb
  have c0_0 : u1.cell? ⟨w.heap.size, 0, none⟩ = some (.string A) := K0.cell 0
  have c0_1 : u1.cell? ⟨w.heap.size, 1, none⟩ = some (.string B) := K0.cell 1
  have l0 := K0.lt
  go_wp2
  go_ret
  exact ⟨rfl, HV⟩
set_option maxHeartbeats 1000000 in
set_option maxRecDepth 100000 in
theorem pchk_long (p q : Nat) (w : World) (hp : p < Top) (hq : q < Top) (h : 8 < (bs p).size) :
    Calls Tryz.prog 9 #[.agg #[.string (bs p), .string (bs q)]] w (Made w (.int .i64 5)) := by
  have HG := Lib.hid (fun W => gwf_yes hp hq W)
  have hd : decide (8 < ((bs p).size : Int)) = true := by simp; omega
  clear h hp hq
  have HV : Below w.heap.size w (w.alloc (.cells #[.string (bs p), .string (bs q)] 24)) := ((Below.refl w.heap.size w).alloc (Nat.le_refl _) (.cells #[.string (bs p), .string (bs q)] 24))
  have K0 : Bk (w.alloc (.cells #[.string (bs p), .string (bs q)] 24)) w.heap.size #[.string (bs p), .string (bs q)] 24 := (Bk.new w #[.string (bs p), .string (bs q)] 24)
  go_enter Tryz.func9, Tryz.ntmps9
  go_wp2_with fail
  refine (HG.out _).mono ?_
  rintro e u1 ⟨rfl, hb⟩
  replace HV := HV.trans (hb.mono HV.size)
  replace K0 := K0.below hb
  clear hb
  have c0_0 : u1.cell? ⟨w.heap.size, 0, none⟩ = some (.string (bs p)) := K0.cell 0
  have c0_1 : u1.cell? ⟨w.heap.size, 1, none⟩ = some (.string (bs q)) := K0.cell 1
  have l0 := K0.lt
  go_wp2
  go_ret
  exact ⟨rfl, HV⟩
set_option maxHeartbeats 1000000 in
set_option maxRecDepth 100000 in
theorem pchk_p (p q : Nat) (w : World) (hp : p < Top) (hq : q < Top) (h : (bs p).size ≤ 8)
    (h1 : ∀ W, Calls Tryz.prog 26 #[.string (bs p)] W (Made W (.tuple #[.bool false, .int .i64 0]))) :
    Calls Tryz.prog 9 #[.agg #[.string (bs p), .string (bs q)]] w (Made w (.int .i64 12)) := by
  have HG := Lib.hid (fun W => gwf_yes hp hq W)
  have hd : decide (8 < ((bs p).size : Int)) = false := by simp; omega
  have HI := Lib.hid h1
  clear h hp hq h1
  have HV : Below w.heap.size w (w.alloc (.cells #[.string (bs p), .string (bs q)] 24)) := ((Below.refl w.heap.size w).alloc (Nat.le_refl _) (.cells #[.string (bs p), .string (bs q)] 24))
  have K0 : Bk (w.alloc (.cells #[.string (bs p), .string (bs q)] 24)) w.heap.size #[.string (bs p), .string (bs q)] 24 := (Bk.new w #[.string (bs p), .string (bs q)] 24)
  go_enter Tryz.func9, Tryz.ntmps9
  go_wp2_with fail
  refine (HG.out _).mono ?_
  rintro e u1 ⟨rfl, hb⟩
  replace HV := HV.trans (hb.mono HV.size)
  replace K0 := K0.below hb
  clear hb
  have c0_0 : u1.cell? ⟨w.heap.size, 0, none⟩ = some (.string (bs p)) := K0.cell 0
  have c0_1 : u1.cell? ⟨w.heap.size, 1, none⟩ = some (.string (bs q)) := K0.cell 1
  have l0 := K0.lt
  go_wp2_with fail
  refine (HI.out _).mono ?_
  rintro e u2 ⟨rfl, hb⟩
  replace HV := HV.trans (hb.mono HV.size)
  replace K0 := K0.below hb
  clear hb
  clear c0_0 c0_1 l0
  have c0_0 : u2.cell? ⟨w.heap.size, 0, none⟩ = some (.string (bs p)) := K0.cell 0
  have c0_1 : u2.cell? ⟨w.heap.size, 1, none⟩ = some (.string (bs q)) := K0.cell 1
  have l0 := K0.lt
  go_wp2
  go_ret
  exact ⟨rfl, HV⟩
set_option maxHeartbeats 1000000 in
set_option maxRecDepth 100000 in
theorem pchk_q (p q : Nat) (w : World) (hp : p < Top) (hq : q < Top) (h : (bs p).size ≤ 8)
    (h1 : ∀ W, Calls Tryz.prog 26 #[.string (bs p)] W (Made W (.tuple #[.bool true, .int .i64 0]))) (h2 : ∀ W, Calls Tryz.prog 26 #[.string (bs q)] W (Made W (.tuple #[.bool false, .int .i64 0]))) :
    Calls Tryz.prog 9 #[.agg #[.string (bs p), .string (bs q)]] w (Made w (.int .i64 12)) := by
  have HG := Lib.hid (fun W => gwf_yes hp hq W)
  have hd : decide (8 < ((bs p).size : Int)) = false := by simp; omega
  have HI := Lib.hid h1
  have HJ := Lib.hid h2
  clear h hp hq h1 h2
  have HV : Below w.heap.size w (w.alloc (.cells #[.string (bs p), .string (bs q)] 24)) := ((Below.refl w.heap.size w).alloc (Nat.le_refl _) (.cells #[.string (bs p), .string (bs q)] 24))
  have K0 : Bk (w.alloc (.cells #[.string (bs p), .string (bs q)] 24)) w.heap.size #[.string (bs p), .string (bs q)] 24 := (Bk.new w #[.string (bs p), .string (bs q)] 24)
  go_enter Tryz.func9, Tryz.ntmps9
  go_wp2_with fail
  refine (HG.out _).mono ?_
  rintro e u1 ⟨rfl, hb⟩
  replace HV := HV.trans (hb.mono HV.size)
  replace K0 := K0.below hb
  clear hb
  have c0_0 : u1.cell? ⟨w.heap.size, 0, none⟩ = some (.string (bs p)) := K0.cell 0
  have c0_1 : u1.cell? ⟨w.heap.size, 1, none⟩ = some (.string (bs q)) := K0.cell 1
  have l0 := K0.lt
  go_wp2_with fail
  refine (HI.out _).mono ?_
  rintro e u2 ⟨rfl, hb⟩
  replace HV := HV.trans (hb.mono HV.size)
  replace K0 := K0.below hb
  clear hb
  clear c0_0 c0_1 l0
  have c0_0 : u2.cell? ⟨w.heap.size, 0, none⟩ = some (.string (bs p)) := K0.cell 0
  have c0_1 : u2.cell? ⟨w.heap.size, 1, none⟩ = some (.string (bs q)) := K0.cell 1
  have l0 := K0.lt
  go_wp2_with fail
  refine (HJ.out _).mono ?_
  rintro e u3 ⟨rfl, hb⟩
  replace HV := HV.trans (hb.mono HV.size)
  replace K0 := K0.below hb
  clear hb
  clear c0_0 c0_1 l0
  have c0_0 : u3.cell? ⟨w.heap.size, 0, none⟩ = some (.string (bs p)) := K0.cell 0
  have c0_1 : u3.cell? ⟨w.heap.size, 1, none⟩ = some (.string (bs q)) := K0.cell 1
  have l0 := K0.lt
  go_wp2
  go_ret
  exact ⟨rfl, HV⟩
set_option maxHeartbeats 1000000 in
set_option maxRecDepth 100000 in
theorem pchk_d (p q : Nat) (b : Bool) (c d : Int) (v : Value) (w : World) (hp : p < Top) (hq : q < Top) (h : (bs p).size ≤ 8) (hbc : (b = true ∧ c = 0) ∨ (b = false ∧ c = 5))
    (h1 : ∀ W, Calls Tryz.prog 26 #[.string (bs p)] W (Made W (.tuple #[.bool true, .int .i64 0]))) (h2 : ∀ W, Calls Tryz.prog 26 #[.string (bs q)] W (Made W (.tuple #[.bool b, .int .i64 c])))
    (h3 : ∀ W, Calls Tryz.prog 27 #[.agg #[.string (bs p), .string (bs q)]] W (Made W (.tuple #[v, .int .i64 d]))) :
    Calls Tryz.prog 9 #[.agg #[.string (bs p), .string (bs q)]] w (Made w (.int .i64 d)) := by
  have HG := Lib.hid (fun W => gwf_yes hp hq W)
  have hd : decide (8 < ((bs p).size : Int)) = false := by simp; omega
  have HI := Lib.hid h1
  have HJ := Lib.hid h2
  have HC := Lib.hid h3
  clear h hp hq h1 h2 h3
  rcases hbc with ⟨rfl, rfl⟩ | ⟨rfl, rfl⟩
  all_goals
    have HV : Below w.heap.size w (w.alloc (.cells #[.string (bs p), .string (bs q)] 24)) := ((Below.refl w.heap.size w).alloc (Nat.le_refl _) (.cells #[.string (bs p), .string (bs q)] 24))
    have K0 : Bk (w.alloc (.cells #[.string (bs p), .string (bs q)] 24)) w.heap.size #[.string (bs p), .string (bs q)] 24 := (Bk.new w #[.string (bs p), .string (bs q)] 24)
    go_enter Tryz.func9, Tryz.ntmps9
    go_wp2_with fail
    refine (HG.out _).mono ?_
    rintro e u1 ⟨rfl, hb⟩
    replace HV := HV.trans (hb.mono HV.size)
    replace K0 := K0.below hb
    clear hb
    have c0_0 : u1.cell? ⟨w.heap.size, 0, none⟩ = some (.string (bs p)) := K0.cell 0
    have c0_1 : u1.cell? ⟨w.heap.size, 1, none⟩ = some (.string (bs q)) := K0.cell 1
    have l0 := K0.lt
    go_wp2_with fail
    refine (HI.out _).mono ?_
    rintro e u2 ⟨rfl, hb⟩
    replace HV := HV.trans (hb.mono HV.size)
    replace K0 := K0.below hb
    clear hb
    clear c0_0 c0_1 l0
    have c0_0 : u2.cell? ⟨w.heap.size, 0, none⟩ = some (.string (bs p)) := K0.cell 0
    have c0_1 : u2.cell? ⟨w.heap.size, 1, none⟩ = some (.string (bs q)) := K0.cell 1
    have l0 := K0.lt
    go_wp2_with fail
    refine (HJ.out _).mono ?_
    rintro e u3 ⟨rfl, hb⟩
    replace HV := HV.trans (hb.mono HV.size)
    replace K0 := K0.below hb
    clear hb
    clear c0_0 c0_1 l0
    have c0_0 : u3.cell? ⟨w.heap.size, 0, none⟩ = some (.string (bs p)) := K0.cell 0
    have c0_1 : u3.cell? ⟨w.heap.size, 1, none⟩ = some (.string (bs q)) := K0.cell 1
    have l0 := K0.lt
    go_wp2_with fail
    refine (HC.out _).mono ?_
    rintro e u4 ⟨rfl, hb⟩
    replace HV := HV.trans (hb.mono HV.size)
    replace K0 := K0.below hb
    clear hb
    clear c0_0 c0_1 l0
    have c0_0 : u4.cell? ⟨w.heap.size, 0, none⟩ = some (.string (bs p)) := K0.cell 0
    have c0_1 : u4.cell? ⟨w.heap.size, 1, none⟩ = some (.string (bs q)) := K0.cell 1
    have l0 := K0.lt
    go_wp2
    go_ret
    exact ⟨rfl, HV⟩
/-- The error of a group whose numbers are canonical. -/
def chkN (p q : Nat) : Int := if 18446744073709551616 ≤ p then 5 else if isPN p = false then 12 else if q < 18446744073709551616 ∧ isPN q = false then 12 else if (p - 1) % q = 0 then 0 else 13
theorem small8 {n : Nat} : (bs n).size ≤ 8 ↔ n < 18446744073709551616 := bs_le
theorem pchk_ok (p q : Nat) (w : World) (hp : p < Top) (hq : q < Top) : Calls Tryz.prog 9 #[.agg #[.string (bs p), .string (bs q)]] w (Made w (.int .i64 (chkN p q))) := by
  unfold chkN
  by_cases h1 : 18446744073709551616 ≤ p
  · rw [if_pos h1]
    exact pchk_long p q w hp hq (Nat.lt_of_not_le fun h => absurd (small8.1 h) (by omega))
  · rw [if_neg h1]
    have h8 : (bs p).size ≤ 8 := small8.2 (by omega)
    have HIp := fun W => pis_ok p W (by omega)
    rcases hP : isPN p with _ | _
    · rw [if_pos rfl]
      rw [hP] at HIp
      exact pchk_p p q w hp hq h8 HIp
    · rw [if_neg (by decide)]
      rw [hP] at HIp
      have h2 := isPN_two hP
      by_cases h3 : q < 18446744073709551616 ∧ isPN q = false
      · rw [if_pos h3]
        exact pchk_q p q w hp hq h8 HIp (fun W => by have := pis_ok q W h3.1; rwa [h3.2] at this)
      · rw [if_neg h3]
        have hq0 : q ≠ 0 := by
          rintro rfl
          exact h3 ⟨by decide, isPN_small (by decide)⟩
        have HC := fun W => pcof_ok p q W hp hq (by omega) hq0
        have HQ : ∃ b c, ((b = true ∧ c = (0 : Int)) ∨ (b = false ∧ c = 5)) ∧ ∀ W, Calls Tryz.prog 26 #[.string (bs q)] W (Made W (.tuple #[.bool b, .int .i64 c])) := by
          by_cases h4 : q < 18446744073709551616
          · refine ⟨true, 0, .inl ⟨rfl, rfl⟩, fun W => ?_⟩
            have := pis_ok q W h4
            rwa [show isPN q = true from by simpa using fun h => h3 ⟨h4, h⟩] at this
          · refine ⟨false, 5, .inr ⟨rfl, rfl⟩, fun W => pis_err _ 5 W (.inr rfl) (fun W => psmall_long _ W (by have := bs_small hq; omega) (bs_valid hq) (Nat.lt_of_not_le fun h => h4 (small8.1 h)))⟩
        obtain ⟨b, c, hbc, hI⟩ := HQ
        by_cases h5 : (p - 1) % q = 0
        · rw [if_pos h5]
          exact pchk_d p q b c 0 _ w hp hq h8 hbc HIp hI (fun W => by have := HC W; rwa [if_pos h5] at this)
        · rw [if_neg h5]
          exact pchk_d p q b c 13 _ w hp hq h8 hbc HIp hI (fun W => by have := HC W; rwa [if_neg h5] at this)
end Go.Proofs.YtmiafkbjmkaebaaGreat

namespace Go.Proofs.YtmiafkbjmkaebaaGreat
open Go.RowKit Go.Shelf

/-- The blocks from B on, and those of a list, lie as they lay. -/
structure Kept (bl : List Nat) (B : Nat) (W W' : World) : Prop where
  size : W.heap.size ≤ W'.heap.size
  same : ∀ k, k < W.heap.size → (B ≤ k ∨ k ∈ bl) → W'.heap[k]? = W.heap[k]?
theorem Kept.refl (bl : List Nat) (B : Nat) (W : World) : Kept bl B W W := ⟨Nat.le_refl _, fun _ _ _ => rfl⟩
theorem Kept.trans {bl : List Nat} {B : Nat} {X Y Z : World} (h : Kept bl B X Y) (k : Kept bl B Y Z) : Kept bl B X Z :=
  ⟨Nat.le_trans h.size k.size, fun i hi hb => (k.same i (Nat.lt_of_lt_of_le hi h.size) hb).trans (h.same i hi hb)⟩
theorem Kept.mono {bl bl' : List Nat} {B B' : Nat} {X Y : World} (h : Kept bl B X Y) (hB : B ≤ B') (hbl : ∀ b, b ∈ bl' → b ∈ bl ∨ B ≤ b) : Kept bl' B' X Y :=
  ⟨h.size, fun i hi hb => h.same i hi (hb.elim (fun h => .inl (Nat.le_trans hB h)) (fun h => (hbl i h).elim .inr .inl))⟩
theorem Kept.below {bl : List Nat} {B : Nat} {X Y : World} (h : Below X.heap.size X Y) : Kept bl B X Y := ⟨h.size, fun i hi _ => h.block i hi⟩
theorem Kept.drew {bl : List Nat} {B : Nat} {X : World} : Kept bl B X X.drew := ⟨Nat.le_refl _, fun _ _ _ => rfl⟩
theorem Kept.alloc {bl : List Nat} {B : Nat} {X : World} (o : Obj) : Kept bl B X (X.alloc o) := Kept.below ((Below.refl _ X).alloc (Nat.le_refl _) o)
theorem Kept.set {bl : List Nat} {B : Nat} {X : World} (p : Addr) (u : Value) (h1 : p.block < B) (h2 : p.block ∉ bl) : Kept bl B X (X.setCell p u) :=
  ⟨by simp [World.setCell], fun i hi hb => Below.heap_setCell X p u i (fun e => by
    subst e
    rcases hb with hb | hb
    · omega
    · exact h2 hb)⟩
theorem Kept.put {bl : List Nat} {B : Nat} {X : World} (l : Nat) (o : Obj) (h1 : l < B) (h2 : l ∉ bl) : Kept bl B X (X.putObj l o) :=
  ⟨by simp [World.putObj], fun i hi hb => World.putObj_heap_other (fun e => by
    subst e
    rcases hb with hb | hb
    · omega
    · exact h2 hb)⟩
theorem Kept.bk {bl : List Nat} {B : Nat} {X Y : World} (h : Kept bl B X Y) {g : Nat} {cs : Array Value} {t : TypeId} (hg : Bk X g cs t) (hb : B ≤ g ∨ g ∈ bl) : Bk Y g cs t := (h.same g hg.lt hb).trans hg

/-- Stays true, whatever is done to the blocks from B on. -/
def Stays {β : Type} (B : Nat) (I : β → World → Prop) : Prop := ∀ s W W', I s W → Below B W W' → I s W'
theorem below_put {B : Nat} {W : World} {l : Nat} (o : Obj) (h : B ≤ l) : Below B W (W.putObj l o) :=
  ⟨rfl, rfl, rfl, by simp [World.putObj], fun i hi => World.putObj_heap_other (by omega)⟩

/-- The contract of an iterator, of which the rounds keep what it laid. -/
def SeqB {α : Type} (F : Fence) (n : Nat) (P : Program) (g : Nat) (lb : Array Value) (encs : α → Array Value) (bl : List Nat) (G : List α → α → Prop) (S Sp : List α → Prop) (N : Nat) (w : World) : Prop :=
  ∀ (l : Nat) (J Jx : List α → World → Prop) (W : World), Below w.heap.size w W → Stays W.heap.size J → Stays W.heap.size Jx →
    (∀ pre x W1, J pre W1 → pre.length < N → G pre x → W.heap.size ≤ W1.heap.size → YieldAt F (n - 1) P l (encs x) W1 fun e W2 =>
      Kept bl W.heap.size W1 W2 ∧ ((e = .returned (.bool true) ∧ J (pre ++ [x]) W2) ∨ (e = .returned (.bool false) ∧ Jx (pre ++ [x]) W2))) →
    J [] W →
    CallsIn F n P g (#[.func (.yield l) #[] #[]] ++ lb) W fun e W2 => (∃ v, e = .returned v) ∧ ((∃ xs, S xs ∧ J xs W2) ∨ (∃ pre, Sp pre ∧ Jx pre W2))

/-- How a round's body may be left. -/
def postB {α : Type} (bl : List Nat) (B : Nat) (I : List α → World → Prop) (Ix : Code → List α → World → Prop) (xs : List α) (W : World) : Exit → Act → World → Prop
  | .normal, _, W2 => Kept bl B W W2 ∧ I xs W2
  | .ret, _, W2 => Kept bl B W W2 ∧ Ix .ret xs W2
  | .exit id, _, W2 => Kept bl B W W2 ∧ Ix (.exit id) xs W2
  | .goto t, _, W2 => Kept bl B W W2 ∧ Ix (.goto t) xs W2
  | .panic _, _, _ => False
  | .outgrown, _, _ => False

/-- The statement, over such an iterator. -/
theorem range_B {α : Type} {F : Fence} {n : Nat} {P : Program} {g : Operand} {ps : Array Tmp} {assign body : Code} {Q : Exit → Act → World → Prop} {a : Act} {w : World}
    (hro : F.round = none) (h1 : 1 ≤ n) {gf : Nat} {lb : Array Value} (hg : a.eval g = .func (.func gf) #[] lb) (hFg : F.fn gf) (eg : ∀ args w, (callFunc gf args).run P w = .ok (.enter gf args) w)
    {encs : α → Array Value} {bl : List Nat} {G : List α → α → Prop} {S Sp : List α → Prop} {N : Nat} {w0 : World} (hseq : SeqB F (n - 1) P gf lb encs bl G S Sp N w0)
    (hbl : ∀ b, b ∈ bl → b < w.heap.size) (hb0 : Below w0.heap.size w0 w) (hps : ∀ x, (encs x).size = ps.size)
    (I : List α → World → Prop) (Ix : Code → List α → World → Prop) (hI : Stays w.heap.size I) (hIx : ∀ c, Stays w.heap.size (Ix c)) (h0 : I [] w) (a1 : α → Act)
    (hassign : ∀ (l : Nat) (x : α) (W : World) (K : Act → World → Prop), K (a1 x) W →
      assign.wpIn (F.inRound l) (n - 1 - 1) P (Exit.then K (fun _ _ _ => False)) { tmps := (ps.zip (encs x)).foldl (fun t (p, v) => t.setIfInBounds p v) a.tmps, defers := [] } W)
    (hbody : ∀ (l : Nat) (pre : List α) (x : α) (W : World), I pre W → pre.length < N → G pre x → w.heap.size ≤ W.heap.size → body.wpIn (F.inRound l) (n - 1 - 1) P (postB bl w.heap.size I Ix (pre ++ [x]) W) (a1 x) W)
    (hdone : ∀ (D : Nat) (xs : List α) (W : World), w.heap.size ≤ D → S xs → I xs W → W.heap[D]? = some (.deferred (some [])) → Q .normal { a with defers := { target := .collected D, args := #[] } :: a.defers } W)
    (hstop : ∀ (D : Nat) (c : Code) (pre : List α) (W : World), w.heap.size ≤ D → Sp pre → Ix c pre W → W.heap[D]? = some (.deferred (some [])) → c.wpIn F n P Q { a with defers := { target := .collected D, args := #[] } :: a.defers } W) :
    (Code.rangeFunc g ps assign body).wpIn F n P Q a w := by
  refine wpIn_rangeFunc fun fn hfn => ?_
  rw [hro]
  obtain ⟨B, hB⟩ : ∃ B, B = w.heap.size := ⟨_, rfl⟩
  obtain ⟨R, hR⟩ : ∃ R : LoopState → Option Code → Loop, R = fun st pe => { state := st, pending := pe, fn := fn, tmps := a.tmps, params := ps, assign := assign, body := body, defers := w.heap.size } := ⟨_, rfl⟩
  obtain ⟨W1, hW1⟩ : ∃ W1, W1 = (w.alloc (.deferred (some []))).alloc (.loop (R .ready none)) := ⟨_, rfl⟩
  have hs1 : W1.heap.size = B + 2 := by rw [hW1, hB]; simp
  have hbw : Below B w W1 := by rw [hW1, hB]; exact ((Below.refl _ w).alloc (Nat.le_refl _) _).alloc (by simp) _
  have hL : W1.heap[B + 1]? = some (.loop (R .ready none)) := by
    have h := World.alloc_heap_new (w.alloc (.deferred (some []))) (.loop (R .ready none))
    rw [World.size_alloc] at h
    rw [hW1, hB]
    exact h
  have hD : W1.heap[B]? = some (.deferred (some [])) := by
    rw [hW1, hB]
    exact (Below.heap_alloc _ _ _ (by simp)).trans (World.alloc_heap_new w _)
  have hnl : B + 1 ∉ bl := fun h => by have := hbl _ h; omega
  refine ⟨B + 1, [{ target := .collected B, args := #[] }], W1, { target := .fn (.func gf) lb, args := #[.func (.yield (B + 1)) #[] #[]] }, W1, gf, #[.func (.yield (B + 1)) #[] #[]] ++ lb, W1, ?_, ?_, ?_, ?_, fun _ => h1, ?_⟩
  · rw [hW1, hB, hR]; exact run_enterLoop_outer _ _ _ _ _
  · simp only [resolve, hg]
    simp [go_sem]
  · intro f' hf'
    simp [Target.leads] at hf'
    subst hf'
    exact hFg
  · simp [invoke, go_sem, eg]
  · refine (hseq (B + 1) (fun pre W => I pre W ∧ W.heap[B + 1]? = some (.loop (R .ready none)) ∧ W.heap[B]? = some (.deferred (some [])))
      (fun pre W => ∃ c, Ix c pre W ∧ W.heap[B + 1]? = some (.loop (R .done (some c))) ∧ W.heap[B]? = some (.deferred (some []))) W1
      (hb0.trans (hbw.mono (by rw [hB]; exact hb0.size))) ?sj ?sx ?round ⟨hI _ _ _ h0 (hB ▸ hbw), hL, hD⟩).mono ?behind
    case sj =>
      rintro s X Y ⟨i1, i2, i3⟩ hXY
      rw [hs1] at hXY
      exact ⟨hI _ _ _ i1 (hXY.mono (by omega)), (hXY.block _ (by omega)).trans i2, (hXY.block _ (by omega)).trans i3⟩
    case sx =>
      rintro s X Y ⟨c, i1, i2, i3⟩ hXY
      rw [hs1] at hXY
      exact ⟨c, hIx c _ _ _ i1 (hXY.mono (by omega)), (hXY.block _ (by omega)).trans i2, (hXY.block _ (by omega)).trans i3⟩
    case round =>
      rintro pre x W ⟨hi, hl, hk⟩ hlen hgg hsz
      rw [hs1] at hsz ⊢
      have hy := run_yield (P := P) (args := encs x) hl (by rw [hR]; exact hps x)
      rw [hR] at hy
      refine ⟨fn, _, assign, body, hy, roundIn_of_wpIn hfn (hassign _ x W _ ⟨_, run_beginRound hl (by rw [hR]), ?_⟩)⟩
      obtain ⟨Wb, hWb⟩ : ∃ Wb, Wb = W.putObj (B + 1) (.loop { R .ready none with state := .busy }) := ⟨_, rfl⟩
      rw [← hWb]
      have b1 : Wb.heap[B + 1]? = some (.loop { R .ready none with state := .busy }) := by rw [hWb]; exact World.putObj_heap_same (by omega)
      have b2 : Wb.heap[B]? = some (.deferred (some [])) := by rw [hWb]; exact (World.putObj_heap_other (by omega)).trans hk
      have b3 : Kept bl (B + 2) W Wb := by rw [hWb]; exact Kept.put _ _ (by omega) hnl
      have b4 : I pre Wb := hI _ _ _ hi (by rw [hWb, ← hB]; exact below_put _ (by omega))
      have b5 : Wb.heap.size = W.heap.size := by rw [hWb]; simp [World.putObj]
      refine wpIn_mono (hbody _ pre x Wb b4 hlen hgg (by omega)) ?_
      have fin : ∀ (jump : Option Code) (W3 : World), Kept bl B Wb W3 →
          (Instr.endRound (B + 1) jump).run P W3 = .ok (.bool jump.isNone) (W3.putObj (B + 1) (.loop (R (if jump.isNone then .ready else .done) jump))) ∧
          (W3.putObj (B + 1) (.loop (R (if jump.isNone then .ready else .done) jump))).heap[B + 1]? = some (.loop (R (if jump.isNone then .ready else .done) jump)) ∧
          (W3.putObj (B + 1) (.loop (R (if jump.isNone then .ready else .done) jump))).heap[B]? = some (.deferred (some [])) ∧
          Kept bl (B + 2) W (W3.putObj (B + 1) (.loop (R (if jump.isNone then .ready else .done) jump))) := by
        intro jump W3 hk3
        have c1 := (hk3.same (B + 1) (by omega) (.inl (by omega))).trans b1
        have c2 := (hk3.same B (by omega) (.inl (Nat.le_refl _))).trans b2
        have c3 := run_endRound (P := P) jump c1
        have c4 := hk3.size
        rw [hR] at c3 ⊢
        exact ⟨c3, World.putObj_heap_same (by omega), (World.putObj_heap_other (by omega)).trans c2, (b3.trans (hk3.mono (by omega) (fun _ h => .inl h))).trans (Kept.put _ _ (by omega) hnl)⟩
      rintro e a3 W3 hp
      rw [← hB] at hp
      have stay : ∀ {p : List α → World → Prop} {xs : List α} {o : Obj}, Stays w.heap.size p → p xs W3 → p xs (W3.putObj (B + 1) o) := fun hs hp => hs _ _ _ hp (by rw [← hB]; exact below_put _ (by omega))
      cases e with
      | normal =>
        obtain ⟨f1, f2, f3, f4⟩ := fin none W3 hp.1
        exact ⟨_, _, f1, f4, .inl ⟨rfl, stay hI hp.2, f2, f3⟩⟩
      | ret =>
        obtain ⟨f1, f2, f3, f4⟩ := fin (some .ret) W3 hp.1
        exact ⟨_, _, f1, f4, .inr ⟨rfl, .ret, stay (hIx _) hp.2, f2, f3⟩⟩
      | exit id =>
        obtain ⟨f1, f2, f3, f4⟩ := fin (some (.exit id)) W3 hp.1
        exact ⟨_, _, f1, f4, .inr ⟨rfl, .exit id, stay (hIx _) hp.2, f2, f3⟩⟩
      | goto t =>
        obtain ⟨f1, f2, f3, f4⟩ := fin (some (.goto t)) W3 hp.1
        exact ⟨_, _, f1, f4, .inr ⟨rfl, .goto t, stay (hIx _) hp.2, f2, f3⟩⟩
      | panic ch => exact hp.elim
      | outgrown => exact hp.elim
    case behind =>
      rintro e W2 ⟨⟨v, rfl⟩, (⟨xs, hS, hi, hl, hk⟩ | ⟨pre, hSp, c, hi, hl, hk⟩)⟩
      · refine ⟨none, _, by have h := run_endLoop (P := P) hl (by rw [hR]; simp); rw [hR] at h; exact h, hdone B xs _ (by omega) hS (hI _ _ _ hi (by rw [← hB]; exact below_put _ (by omega))) ((World.putObj_heap_other (by omega)).trans hk)⟩
      · refine ⟨some c, _, by have h := run_endLoop (P := P) hl (by rw [hR]; simp); rw [hR] at h; exact h, hstop B c pre _ (by omega) hSp (hIx c _ _ _ hi (by rw [← hB]; exact below_put _ (by omega))) ((World.putObj_heap_other (by omega)).trans hk)⟩
end Go.Proofs.YtmiafkbjmkaebaaGreat

namespace Go.Proofs.YtmiafkbjmkaebaaGreat
open Go.RowKit Num Go.Shelf
attribute [local go_sem] Oper.semAt_some

def pwL (b p n : Nat) : List Nat := (List.range n).map fun i => b ^ i % p
/-- What comes next. -/
def pwG (b p : Nat) (pre : List Nat) (x : Nat) : Prop := pre = pwL b p pre.length ∧ x = b ^ pre.length % p
theorem pwL_length (b p n : Nat) : (pwL b p n).length = n := by simp [pwL]
theorem pwL_succ (b p n : Nat) : pwL b p (n + 1) = pwL b p n ++ [b ^ n % p] := by simp [pwL, List.range_succ]
theorem pwL_mem {b p n x : Nat} : x ∈ pwL b p n ↔ ∃ i, i < n ∧ b ^ i % p = x := by simp [pwL]
theorem pwL_take {b p n k : Nat} (h : k ≤ n) : (pwL b p n).take k = pwL b p k := by
  unfold pwL
  rw [← List.map_take, List.take_range, Nat.min_eq_left h]
theorem pwL_snoc {b p k x : Nat} {pre : List Nat} (h : pre ++ [x] = pwL b p k) : k = pre.length + 1 ∧ pre = pwL b p pre.length ∧ x = b ^ pre.length % p := by
  have hl : k = pre.length + 1 := by rw [← pwL_length b p k, ← h]; simp
  subst hl
  rw [pwL_succ] at h
  have h2 := List.append_inj' h rfl
  exact ⟨rfl, h2.1, by simpa using h2.2⟩
/-- The order of b modulo p. -/
def IsOrd (b p d : Nat) : Prop := 0 < d ∧ b ^ d % p = 1 ∧ ∀ j, 0 < j → j < d → b ^ j % p ≠ 1
theorem ord_ex {b p q : Nat} (h0 : q ≠ 0) (h : b ^ q % p = 1) : ∃ d, IsOrd b p d ∧ d ≤ q := by
  obtain ⟨d, hd, hl⟩ := least_ex (fun j => 0 < j ∧ b ^ j % p = 1) q ⟨by omega, h⟩
  refine ⟨d, ⟨hd.1, hd.2, fun j h1 h2 h3 => hl j h2 ⟨h1, h3⟩⟩, ?_⟩
  rcases Nat.lt_or_ge q d with h4 | h4
  · exact absurd ⟨by omega, h⟩ (hl q h4)
  · exact h4
theorem pw_next (b p i : Nat) : b ^ i % p * b % p = b ^ (i + 1) % p := by rw [Nat.pow_succ, Nat.mod_mul_mod]
theorem IsOrd.inj {b p d : Nat} (h : IsOrd b p d) {i j : Nat} (hi : i < d) (hj : j < d) (e : b ^ i % p = b ^ j % p) : i = j := by
  have key : ∀ i j, i < j → j < d → b ^ i % p = b ^ j % p → False := by
    intro i j hij hj e
    refine h.2.2 (j - i) (by omega) (by omega) ?_
    have h1 : b ^ (j - i) * b ^ d % p = b ^ (j - i) % p := by
      rw [Nat.mul_mod, h.2.1, Nat.mul_one, Nat.mod_mod]
    have h2 : b ^ (j - i) * b ^ d = b ^ j * b ^ (d - i) := by rw [← Nat.pow_add, ← Nat.pow_add]; congr 1; omega
    have h3 : b ^ j * b ^ (d - i) % p = b ^ i * b ^ (d - i) % p := by rw [Nat.mul_mod, ← e, ← Nat.mul_mod]
    rw [← h1, h2, h3, ← Nat.pow_add, show i + (d - i) = d from by omega]
    exact h.2.1
  rcases Nat.lt_trichotomy i j with h1 | h1 | h1
  · exact absurd e (fun e => key i j h1 hj e)
  · exact h1
  · exact absurd e.symm (fun e => key j i h1 hi e)
theorem IsOrd.mod {b p d : Nat} (h : IsOrd b p d) (j : Nat) : b ^ j % p = b ^ (j % d) % p := by
  have hp : 1 % p = 1 := by
    have h1 := h.2.1
    rw [← h1, Nat.mod_mod]
  conv => lhs; rw [← Nat.div_add_mod j d, Nat.pow_add, Nat.pow_mul, Nat.mul_mod, Nat.pow_mod, h.2.1, Nat.one_pow, hp, Nat.one_mul, Nat.mod_mod]
/-- Where a power stands. -/
def idxP (b p v : Nat) : Nat → Nat → Nat
  | 0, i => i
  | f + 1, i => if b ^ i % p = v then i else idxP b p v f (i + 1)
theorem idxP_at {b p d : Nat} (h : IsOrd b p d) {j : Nat} (hj : j < d) : ∀ f i, i ≤ j → j ≤ i + f → idxP b p (b ^ j % p) f i = j := by
  intro f
  induction f with
  | zero => intro i h1 h2; unfold idxP; omega
  | succ f ih =>
    intro i h1 h2
    unfold idxP
    by_cases e : b ^ i % p = b ^ j % p
    · rw [if_pos e]; exact h.inj (by omega) hj e
    · rw [if_neg e]
      refine ih (i + 1) ?_ (by omega)
      rcases Nat.lt_or_ge i j with h3 | h3
      · omega
      · exact absurd (by rw [show i = j from by omega]) e

set_option maxHeartbeats 1000000 in
set_option maxRecDepth 100000 in
theorem powers_any (A B X : ByteArray) (w : World) : Calls Tryz.prog 45 #[.agg #[.string A, .string B], .string X] w fun e w' =>
    e = .returned (.func (.func 68) #[] #[.pointer (some ⟨w.heap.size + 1, 0, none⟩), .pointer (some ⟨w.heap.size, 0, none⟩)]) ∧ w' = (w.alloc (.cells #[.string A, .string B] 24)).alloc (.cells #[.string X] 22) := by
  go_enter Tryz.func45, Tryz.ntmps45
  go_wp2
  go_ret
  exact ⟨by simp, rfl⟩

set_option maxHeartbeats 4000000 in
set_option maxRecDepth 100000 in
/-- What primegroup.powers hands back yields the powers up to the order. -/
theorem powers_seq (m BB BG p b d : Nat) (B : ByteArray) (w : World) (hm : 1 ≤ m) (hp : p < Top) (hb : b < Top) (hp2 : 2 ≤ p) (ho : IsOrd b p d)
    (kB : Bk w BB #[.string (bs b)] 22) (kG : Bk w BG #[.string (bs p), .string B] 24) :
    SeqB Fence.wide m Tryz.prog 68 #[.pointer (some ⟨BB, 0, none⟩), .pointer (some ⟨BG, 0, none⟩)] (fun x : Nat => #[.string (bs x)]) [BB, BG] (pwG b p)
      (fun xs => xs = pwL b p d) (fun pre => ∃ k, 0 < k ∧ k ≤ d ∧ pre = pwL b p k) d w := by
  intro l J Jx W hW hJ hJx hY h0
  have HO : Hid (∀ W, Calls Tryz.prog 34 #[.int .u64 1] W (Made W (.string (bs 1)))) := Lib.hid (fun W => of_lit 1 (by decide) (by decide) W)
  have HM := Lib.hid (fun x (hx : x < Top) W => mmul_ok x b p W hx hb (by omega) hp)
  have HP := Lib.hid (And.intro hp (And.intro hp2 ho))
  have HJ := Lib.hid hJ
  have kB1 := kB.below hW
  have kG1 := kG.below hW
  have HK := Lib.hid (And.intro kB1 kG1)
  have H0 := Lib.hid h0
  have lB := kB1.lt
  have lG := kG1.lt
  clear hp hb hp2 ho kB kG kB1 kG1 hJ hJx h0 hW
  refine callsIn_of_wp Tryz.func68 rfl trivial ?_ rfl
  simp only [Tryz.ntmps68, List.size_toArray, List.length_cons, List.length_nil, Nat.reduceAdd, Nat.reduceSub, Array.replicate_succ, Array.replicate_zero, List.push_toArray, List.append_toArray, List.nil_append, List.cons_append]
  gi_wp2_with (refine ⟨trivial, ?_⟩; gi_at_call 34; refine (callsIn_wide.2 (HO.out _)).mono ?_; rintro e W1 ⟨rfl, hb1⟩)
  have HB1 := Lib.hid hb1
  clear hb1
  gi_loopw [5] (fun x5 wr => ∃ i : Nat, x5 = .string (bs (b ^ i % p)) ∧ Hid (i < d ∧ J (pwL b p i) wr ∧ Bk wr BB #[.string (bs b)] 22 ∧ Bk wr BG #[.string (bs p), .string B] 24 ∧ W.heap.size ≤ wr.heap.size)) (fun x5 _ => d - idxP b p (strVal x5) d 0)
  case atStart =>
    refine ⟨0, ?_, Lib.hid ⟨HP.out.2.2.1, HJ.out _ _ _ H0.out HB1.out, HK.out.1.below HB1.out, HK.out.2.below HB1.out, HB1.out.size⟩⟩
    rw [Nat.pow_zero, Nat.mod_eq_of_lt (by have := HP.out.2.1; omega)]
  case round =>
    obtain ⟨i, rfl, HR⟩ := hrel
    have hYx := hY (pwL b p i) (b ^ i % p) wr HR.out.2.1 (by rw [pwL_length]; exact HR.out.1) ⟨by rw [pwL_length], by rw [pwL_length]⟩ HR.out.2.2.2.2
    obtain ⟨fn, tmps, assign, body, hy, hR⟩ := hYx
    have hx : b ^ i % p < Top := Nat.lt_trans (Nat.mod_lt _ (by have := HP.out.2.1; omega)) HP.out.1
    have HMi := Lib.hid (fun W => HM.out (b ^ i % p) hx W)
    rw [pw_next] at HMi
    rw [← pwL_succ] at hR
    have hmeas : idxP b p (strVal (.string (bs (b ^ i % p)))) d 0 = i := by rw [strVal_bs]; exact idxP_at HP.out.2.2 HR.out.1 d 0 (by omega) (by have := HR.out.1; omega)
    have HMS := Lib.hid hmeas
    clear hx hmeas
    gi_wp2
    refine hR.mono ?_
    rintro e W3 ⟨hk3, (⟨rfl, hJ3⟩ | ⟨rfl, hJx3⟩)⟩
    · have k3 := hk3.bk HR.out.2.2.1 (.inr (by simp))
      have g3 := hk3.bk HR.out.2.2.2.1 (.inr (by simp))
      have c3 := k3.cell 0
      have d3 := g3.cell 0
      have lk3 := k3.lt
      have lg3 := g3.lt
      have H3 := Lib.hid (And.intro hJ3 (And.intro k3 (And.intro g3 (Nat.le_trans HR.out.2.2.2.2 hk3.size))))
      have e3 : ((bs (b ^ (i + 1) % p)).toList == (bs 1).toList) = (b ^ (i + 1) % p == 1) := bs_beq _ _
      clear hk3 hJ3 k3 g3
      by_cases hlast : i + 1 = d
      · rw [show (b ^ (i + 1) % p == 1) = true from by rw [hlast, HP.out.2.2.2.1]; rfl] at e3
        have HL := Lib.hid hlast
        clear hlast
        gi_wp2_with (refine ⟨trivial, ?_⟩; gi_at_call 39; refine (callsIn_wide.2 (HMi.out _)).mono ?_; rintro e W4 ⟨rfl, hb4⟩)
        refine bodyPost_ret (results_none rfl _ _ _) rfl ?_
        exact ⟨⟨_, rfl⟩, .inl ⟨_, rfl, by rw [← HL.out]; exact HJ.out _ _ _ H3.out.1 (hb4.mono H3.out.2.2.2)⟩⟩
      · rw [show (b ^ (i + 1) % p == 1) = false from beq_false_of_ne (HP.out.2.2.2.2 (i + 1) (by omega) (by have := HR.out.1; omega))] at e3
        have HL := Lib.hid (show i + 1 < d by have := HR.out.1; omega)
        clear hlast
        gi_wp2_with (refine ⟨trivial, ?_⟩; gi_at_call 39; refine (callsIn_wide.2 (HMi.out _)).mono ?_; rintro e W4 ⟨rfl, hb4⟩)
        go_roundw
        case rel => exact ⟨i + 1, rfl, Lib.hid ⟨HL.out, HJ.out _ _ _ H3.out.1 (hb4.mono H3.out.2.2.2), H3.out.2.1.below hb4, H3.out.2.2.1.below hb4, Nat.le_trans H3.out.2.2.2 hb4.size⟩⟩
        case measure =>
          rw [HMS.out, strVal_bs, idxP_at HP.out.2.2 HL.out d 0 (by omega) (by have := HL.out; omega)]
          have := HL.out
          omega
    · have HL := HR.out.1
      gi_wp2
      go_end0
      exact ⟨⟨_, rfl⟩, .inr ⟨_, ⟨i + 1, by omega, by omega, rfl⟩, hJx3⟩⟩
end Go.Proofs.YtmiafkbjmkaebaaGreat

namespace Go.Proofs.YtmiafkbjmkaebaaGreat
open Go.RowKit Num Go.Shelf
attribute [local go_sem] Oper.semAt_some

/-- What Log answers. -/
def LogR (b p x : Nat) (most k : Int) (ok : Bool) : Prop :=
  (ok = true ∧ ∃ n : Nat, k = n ∧ (n : Int) ≤ most ∧ n ≤ 65536 ∧ b ^ n % p = x ∧ ∀ j, j < n → b ^ j % p ≠ x) ∨ (ok = false ∧ k = 0 ∧ ∀ n : Nat, (n : Int) ≤ most → n ≤ 65536 → b ^ n % p ≠ x)

set_option maxHeartbeats 4000000 in
set_option maxRecDepth 100000 in
theorem plog_ok (p q b x d : Nat) (most k : Int) (ok : Bool) (w : World) (hp : p < Top) (hb : b < Top) (hp2 : 2 ≤ p) (ho : IsOrd b p d) (hR : LogR b p x most k ok) (hm : most ≤ 65536) (hm2 : -9223372036854775808 ≤ most)
    (h1 : ∀ W, Calls Tryz.prog 12 #[.agg #[.string (bs p), .string (bs q)], .string (bs b)] W (Made W (.bool true)))
    (h2 : ∀ W, Calls Tryz.prog 12 #[.agg #[.string (bs p), .string (bs q)], .string (bs x)] W (Made W (.bool true))) :
    Calls Tryz.prog 20 #[.agg #[.string (bs p), .string (bs q)], .string (bs b), .string (bs x), .int .i64 most] w (Made w (.tuple #[.int .i64 k, .bool ok])) := by
  have H1 := Lib.hid h1
  have H2 := Lib.hid h2
  have HP := Lib.hid (And.intro hp (And.intro hb (And.intro hp2 (And.intro ho hR))))
  clear h1 h2 hp hb hp2 ho hR
  refine (callsIn_wide (n := 5)).1 ?_
  refine callsIn_of_wp_marks Tryz.func20 rfl trivial ?_ rfl
  simp only [Tryz.ntmps20, List.size_toArray, List.length_cons, List.length_nil, Nat.reduceAdd, Nat.reduceSub, Array.replicate_succ, Array.replicate_zero, List.push_toArray, List.append_toArray, List.nil_append, List.cons_append]
  gi_wp2_with fail
  obtain ⟨B0, e0⟩ : ∃ x, x = w.heap.size := ⟨_, rfl⟩
  obtain ⟨B1, e1⟩ : ∃ x, x = w.heap.size + 1 := ⟨_, rfl⟩
  obtain ⟨B2, e2⟩ : ∃ x, x = w.heap.size + 1 + 1 := ⟨_, rfl⟩
  obtain ⟨B3, e3⟩ : ∃ x, x = w.heap.size + 1 + 1 + 1 := ⟨_, rfl⟩
  obtain ⟨B4, e4⟩ : ∃ x, x = w.heap.size + 1 + 1 + 1 + 1 := ⟨_, rfl⟩
  obtain ⟨W1, hW1⟩ : ∃ W1, W1 = (((((w.alloc (.cells #[.string (bs p), .string (bs q)] 24)).alloc (.cells #[.string (bs x)] 22)).alloc (.cells #[.int .i64 most] 3)).alloc (.cells #[.int .i64 0] 3)).alloc (.cells #[.bool false] 4)) := ⟨_, rfl⟩
  have k0 : Bk W1 B0 #[.string (bs p), .string (bs q)] 24 := by rw [hW1, e0]; exact ((((Bk.new _ _ _).alloc _).alloc _).alloc _).alloc _
  have k1 : Bk W1 B1 #[.string (bs x)] 22 := by rw [hW1, e1]; exact (((Bk.new1 _ _ _ _).alloc _).alloc _).alloc _
  have k2 : Bk W1 B2 #[.int .i64 most] 3 := by
    rw [hW1, e2]
    have h := Bk.new1 (w.alloc (.cells #[.string (bs p), .string (bs q)] 24)) (.cells #[.string (bs x)] 22) #[.int .i64 most] 3
    simp only [World.size_alloc] at h
    exact (h.alloc _).alloc _
  have k3 : Bk W1 B3 #[.int .i64 0] 3 := by
    rw [hW1, e3]
    have h := Bk.new1 ((w.alloc (.cells #[.string (bs p), .string (bs q)] 24)).alloc (.cells #[.string (bs x)] 22)) (.cells #[.int .i64 most] 3) #[.int .i64 0] 3
    simp only [World.size_alloc] at h
    exact h.alloc _
  have k4 : Bk W1 B4 #[.bool false] 4 := by
    rw [hW1, e4]
    have h := Bk.new1 (((w.alloc (.cells #[.string (bs p), .string (bs q)] 24)).alloc (.cells #[.string (bs x)] 22)).alloc (.cells #[.int .i64 most] 3)) (.cells #[.int .i64 0] 3) #[.bool false] 4
    simp only [World.size_alloc] at h
    exact h
  have hB : Below w.heap.size w W1 := by
    rw [hW1]
    exact (((((Below.refl _ w).alloc (Nat.le_refl _) _).alloc (by simp) _).alloc (by simp; omega) _).alloc (by simp; omega) _).alloc (by simp; omega) _
  have hs1 : W1.heap.size = w.heap.size + 5 := by rw [hW1]; simp
  rw [← e4, ← e3, ← e2, ← e1, ← e0, ← hW1]
  have HS := Lib.hid (And.intro e0 (And.intro e1 (And.intro e2 (And.intro e3 (And.intro e4 hs1)))))
  clear e0 e1 e2 e3 e4 hW1 hs1
  have c00 := k0.cell 0
  have c01 := k0.cell 1
  have l0 := k0.lt
  refine ⟨trivial, ?_⟩
  refine (callsIn_wide.2 (H1.out _)).mono ?_
  rintro e W2 ⟨rfl, hb⟩
  replace hB := hB.trans (hb.mono hB.size)
  replace k0 := k0.below hb
  replace k1 := k1.below hb
  replace k2 := k2.below hb
  replace k3 := k3.below hb
  replace k4 := k4.below hb
  clear hb c00 c01 l0
  have c00 := k0.cell 0
  have c01 := k0.cell 1
  have c10 := k1.cell 0
  have l0 := k0.lt
  have l1 := k1.lt
  gi_wp2_with fail
  refine ⟨trivial, ?_⟩
  refine (callsIn_wide.2 (H2.out _)).mono ?_
  rintro e W3 ⟨rfl, hb⟩
  replace hB := hB.trans (hb.mono hB.size)
  replace k0 := k0.below hb
  replace k1 := k1.below hb
  replace k2 := k2.below hb
  replace k3 := k3.below hb
  replace k4 := k4.below hb
  clear hb c00 c01 c10 l0 l1
  have c00 := k0.cell 0
  have c01 := k0.cell 1
  have c20 := k2.cell 0
  have f20 := k2.frozen 0
  have l0 := k0.lt
  have l2 := k2.lt
  have n02 : B0 ≠ B2 := by have := HS.out; omega
  have n02' : ¬ B2 = B0 := by have := HS.out; omega
  gi_wp2_with fail
  obtain ⟨BK, eK⟩ : ∃ x, x = W3.heap.size := ⟨_, rfl⟩
  obtain ⟨WA, hWA⟩ : ∃ WA, WA = (W3.setCell ⟨B2, 0, none⟩ (.int .i64 most)).alloc (.cells #[.int .i64 0] 3) := ⟨_, rfl⟩
  have hsz3 : W3.heap.size = (W3.setCell ⟨B2, 0, none⟩ (.int .i64 most)).heap.size := by simp [World.setCell]
  have n12 : B1 ≠ B2 := by have := HS.out; omega
  have n32 : B3 ≠ B2 := by have := HS.out; omega
  have n42 : B4 ≠ B2 := by have := HS.out; omega
  have a1 : Bk WA B1 #[.string (bs x)] 22 := by rw [hWA]; exact (k1.far n12 _).alloc _
  have a2 : Bk WA B2 #[.int .i64 most] 3 := by rw [hWA]; exact (k2.set 0 _).alloc _
  have a3 : Bk WA B3 #[.int .i64 0] 3 := by rw [hWA]; exact (k3.far n32 _).alloc _
  have a4 : Bk WA B4 #[.bool false] 4 := by rw [hWA]; exact (k4.far n42 _).alloc _
  have aK : Bk WA BK #[.int .i64 0] 3 := by rw [hWA, eK, hsz3]; exact Bk.new _ _ _
  have hBA : Below w.heap.size w WA := by
    rw [hWA]
    exact (hB.setCell (p := ⟨B2, 0, none⟩) (by show w.heap.size ≤ B2; have := HS.out; omega) _).alloc (by rw [← hsz3]; exact hB.size) _
  have hsA : WA.heap.size = BK + 1 := by rw [hWA, eK]; simp [World.setCell]
  have hBK : w.heap.size + 5 ≤ BK := by
    have h4 := k4.lt
    have := HS.out
    omega
  rw [← eK, ← hWA]
  clear hWA eK hsz3 k0 k1 k2 k3 k4 c00 c01 c20 f20 l0 l2 n02 n02' n12 n32 n42 hB
  refine ⟨trivial, ?_⟩
  refine (callsIn_wide.2 (powers_any _ _ _ _)).mono ?_
  rintro e W0 ⟨rfl, hW0⟩
  have hbA : Below WA.heap.size WA W0 := by rw [hW0]; exact ((Below.refl _ WA).alloc (Nat.le_refl _) _).alloc (by simp) _
  have kG : Bk W0 WA.heap.size #[.string (bs p), .string (bs q)] 24 := by rw [hW0]; exact (Bk.new _ _ _).alloc _
  have kB : Bk W0 (WA.heap.size + 1) #[.string (bs b)] 22 := by rw [hW0]; exact Bk.new1 _ _ _ _
  have hs0 : W0.heap.size = BK + 3 := by rw [hW0]; simp [hsA]
  clear hW0
  obtain ⟨BG, eG⟩ : ∃ x, x = WA.heap.size := ⟨_, rfl⟩
  rw [← eG] at kG kB hsA ⊢
  replace a1 := a1.below hbA
  replace a2 := a2.below hbA
  replace a3 := a3.below hbA
  replace a4 := a4.below hbA
  replace aK := aK.below hbA
  replace hBA := hBA.trans (hbA.mono hBA.size)
  have HZ := Lib.hid (And.intro hs0 (And.intro hBK hsA))
  clear hbA hs0 hBK hsA eG
  gi_wp2
  refine range_B rfl (by omega) (gf := 68) (lb := #[.pointer (some ⟨BG + 1, 0, none⟩), .pointer (some ⟨BG, 0, none⟩)]) rfl trivial (enters_of Tryz.func68 (by kernel_rfl) rfl)
    (powers_seq 4 (BG + 1) BG p b d (bs q) W0 (by omega) HP.out.1 HP.out.2.1 HP.out.2.2.1 HP.out.2.2.2.1 kB kG) (fun k hk => by have := HZ.out; simp at hk; omega) (Below.refl _ _) (fun _ => rfl)
    (fun pre W => Bk W B1 #[.string (bs x)] 22 ∧ Bk W B2 #[.int .i64 most] 3 ∧ Bk W B3 #[.int .i64 0] 3 ∧ Bk W B4 #[.bool false] 4 ∧ Bk W BK #[.int .i64 (pre.length : Int)] 3 ∧ (∀ z, z ∈ pre → z ≠ x) ∧ Below w.heap.size w W)
    (fun c pre W => Below w.heap.size w W ∧ ((c = .exit 0 ∧ (∃ pre0 y, pre = pre0 ++ [y] ∧ most < (pre0.length : Int) ∧ ∀ z, z ∈ pre0 → z ≠ x) ∧ Bk W B3 #[.int .i64 0] 3 ∧ Bk W B4 #[.bool false] 4) ∨
      (c = .ret ∧ ∃ pre0, pre = pre0 ++ [x] ∧ (pre0.length : Int) ≤ most ∧ (∀ z, z ∈ pre0 → z ≠ x) ∧ Bk W B3 #[.int .i64 (pre0.length : Int)] 3 ∧ Bk W B4 #[.bool true] 4)))
    ?si ?sx ?start
    (fun y => { tmps := #[.agg #[.string (bs p), .string (bs q)], .string (bs b), .string (bs x), .int .i64 most, .pointer (some ⟨B0, 0, none⟩), undef, .pointer (some ⟨B1, 0, none⟩), .pointer (some ⟨B2, 0, none⟩), .pointer (some ⟨B3, 0, none⟩), .pointer (some ⟨B4, 0, none⟩), .pointer (some ⟨BK, 0, none⟩), .string (bs y),
      .agg #[.string (bs p), .string (bs q)], .string (bs b), .bool true, .bool false, .bool false, .agg #[.string (bs p), .string (bs q)], .string (bs x), .bool true, .bool false, .bool false, .int .i64 most, .int .i64 most, .agg #[.string (bs p), .string (bs q)], .string (bs b),
      .func (.func 68) #[] #[.pointer (some ⟨BG + 1, 0, none⟩), .pointer (some ⟨BG, 0, none⟩)], .string (bs y), undef, undef, undef, undef, undef, undef, undef, undef, undef], defers := [] }) ?assign ?body ?done ?stop
  case si =>
    rintro s X Y ⟨i1, i2, i3, i4, iK, i5, i6⟩ hXY
    have hS := HS.out
    have hZ := HZ.out
    exact ⟨(hXY.block B1 (by omega)).trans i1, (hXY.block B2 (by omega)).trans i2, (hXY.block B3 (by omega)).trans i3, (hXY.block B4 (by omega)).trans i4, (hXY.block BK (by omega)).trans iK, i5, i6.trans (hXY.mono (by omega))⟩
  case sx =>
    rintro c s X Y ⟨i1, h⟩ hXY
    have hS := HS.out
    have hZ := HZ.out
    refine ⟨i1.trans (hXY.mono (by omega)), h.imp ?_ ?_⟩
    · rintro ⟨h1, h2, h3, h4⟩
      exact ⟨h1, h2, (hXY.block B3 (by omega)).trans h3, (hXY.block B4 (by omega)).trans h4⟩
    · rintro ⟨h1, pre0, h2, h3, h4, h5, h6⟩
      exact ⟨h1, pre0, h2, h3, h4, (hXY.block B3 (by omega)).trans h5, (hXY.block B4 (by omega)).trans h6⟩
  case start => exact ⟨a1, a2, a3, a4, aK, fun z hz => by simp at hz, hBA⟩
  case assign =>
    intro l y W K hK
    gi_wp2
    exact hK
  case body =>
    rintro l pre y W ⟨i1, i2, i3, i4, iK, i5, i6⟩ hlen hgg hsz
    have c1 := i1.cell 0
    have c2 := i2.cell 0
    have c3 := i3.cell 0
    have c4 := i4.cell 0
    have cK := iK.cell 0
    have f3 := i3.frozen 0
    have f4 := i4.frozen 0
    have fK := iK.frozen 0
    have l1 := i1.lt
    have l2 := i2.lt
    have l3 := i3.lt
    have l4 := i4.lt
    have lK := iK.lt
    have hS := HS.out
    have hZ := HZ.out
    have n34 : B3 ≠ B4 := by omega
    have n3K : B3 ≠ BK := by omega
    have n4K : B4 ≠ BK := by omega
    have m3 : B3 < W0.heap.size := by omega
    have m4 : B4 < W0.heap.size := by omega
    have mK : BK < W0.heap.size := by omega
    have nb3 : B3 ∉ [BG + 1, BG] := by simp; omega
    have nb4 : B4 ∉ [BG + 1, BG] := by simp; omega
    have nbK : BK ∉ [BG + 1, BG] := by simp; omega
    have w3 : w.heap.size ≤ B3 := by omega
    have w4 : w.heap.size ≤ B4 := by omega
    have wK : w.heap.size ≤ BK := by omega
    have e3 : ((bs y).toList == (bs x).toList) = (y == x) := bs_beq _ _
    have HI := Lib.hid (And.intro i1 (And.intro i2 (And.intro i3 (And.intro i4 (And.intro iK (And.intro i5 i6))))))
    have HN := Lib.hid (And.intro n34 (And.intro n3K (And.intro n4K (And.intro m3 (And.intro m4 (And.intro mK (And.intro nb3 (And.intro nb4 (And.intro nbK (And.intro w3 (And.intro w4 wK)))))))))))
    clear i1 i2 i3 i4 iK i5 i6 hS hZ n34 n3K n4K m3 m4 mK nb3 nb4 nbK w3 w4 wK hlen hsz kG kB a1 a2 a3 a4 aK hBA
    have n34 := HN.out.1
    have n43 : ¬ B4 = B3 := fun h => HN.out.1 h.symm
    by_cases h1 : most < (pre.length : Int)
    · gi_wp2
      obtain ⟨i1, i2, i3, i4, iK, i5, i6⟩ := HI.out
      exact ⟨Kept.refl _ _ _, i6, .inl ⟨rfl, ⟨pre, y, rfl, h1, i5⟩, i3, i4⟩⟩
    · have hk : IntKind.i64.wrap ((pre.length : Int) + 1) = (pre.length : Int) + 1 := by rw [IntKind.wrap_i64] <;> omega
      by_cases h2 : y = x
      · have HE := Lib.hid h2
        rw [show (y == x) = true from by simp [h2]] at e3
        clear h2
        gi_wp2
        obtain ⟨i1, i2, i3, i4, iK, i5, i6⟩ := HI.out
        obtain ⟨_, n3K, n4K, m3, m4, mK, nb3, nb4, nbK, w3, w4, wK⟩ := HN.out
        refine ⟨(Kept.set _ _ m3 nb3).trans (Kept.set _ _ m4 nb4), (i6.setCell (p := ⟨B3, 0, none⟩) w3 _).setCell (p := ⟨B4, 0, none⟩) w4 _, .inr ⟨rfl, pre, by rw [HE.out], by omega, i5, (i3.set 0 _).far n34 _, (i4.far n43 _).set 0 _⟩⟩
      · have HE := Lib.hid h2
        rw [show (y == x) = false from by simp [h2]] at e3
        clear h2
        gi_wp2
        obtain ⟨i1, i2, i3, i4, iK, i5, i6⟩ := HI.out
        obtain ⟨_, n3K, n4K, m3, m4, mK, nb3, nb4, nbK, w3, w4, wK⟩ := HN.out
        have hS := HS.out
        have hZ := HZ.out
        refine ⟨Kept.set _ _ mK nbK, i1.far (by show B1 ≠ BK; omega) _, i2.far (by show B2 ≠ BK; omega) _, i3.far n3K _, i4.far n4K _, ?_, ?_, i6.setCell (p := ⟨BK, 0, none⟩) wK _⟩
        · rw [List.length_append, List.length_singleton, Int.natCast_add]
          exact iK.set 0 _
        · intro z hz
          rcases List.mem_append.1 hz with hz | hz
          · exact i5 z hz
          · rw [List.mem_singleton.1 hz]; exact HE.out
  case done =>
    rintro D ys W hD rfl ⟨i1, i2, i3, i4, iK, i5, i6⟩ hK
    have HF : ok = false ∧ k = 0 := by
      rcases HP.out.2.2.2.2 with ⟨_, n, _, _, _, h5, _⟩ | ⟨h1, h2, _⟩
      · exfalso
        have ho := HP.out.2.2.2.1
        refine i5 x (pwL_mem.2 ⟨n % d, Nat.mod_lt _ ho.1, ?_⟩) rfl
        rw [← ho.mod, h5]
      · exact ⟨h1, h2⟩
    obtain ⟨rfl, rfl⟩ := HF
    have c3 := i3.cell 0
    have c4 := i4.cell 0
    have f3 := i3.frozen 0
    have f4 := i4.frozen 0
    have l3 := i3.lt
    have l4 := i4.lt
    have hS := HS.out
    have hZ := HZ.out
    have n34 : B3 ≠ B4 := by omega
    have n43 : ¬ B4 = B3 := by omega
    have n3D : B3 ≠ D := by omega
    have n4D : B4 ≠ D := by omega
    have w3 : w.heap.size ≤ B3 := by omega
    have w4 : w.heap.size ≤ B4 := by omega
    have wD : w.heap.size ≤ D := by omega
    have HI := Lib.hid (And.intro i3 (And.intro i4 i6))
    have HN := Lib.hid (And.intro n3D (And.intro n4D (And.intro w3 (And.intro w4 wD))))
    clear i1 i2 i3 i4 iK i5 i6 hS hZ n3D n4D w3 w4 wD
    gi_wp2
    obtain ⟨i3, i4, i6⟩ := HI.out
    obtain ⟨n3D, n4D, w3, w4, wD⟩ := HN.out
    have hK2 : ((W.setCell ⟨B3, 0, none⟩ (.int .i64 0)).setCell ⟨B4, 0, none⟩ (.bool false)).heap[D]? = some (.deferred (some [])) := (Below.heap_setCell _ _ _ D (fun h => n4D h.symm)).trans ((Below.heap_setCell _ _ _ D (fun h => n3D h.symm)).trans hK)
    refine ⟨by simp, .inl ⟨_, _, rfl, run_takeDeferred hK2, ?_⟩⟩
    have b3 := (World.putObj_heap_other (o := .deferred none) n3D).trans ((i3.set 0 (.int .i64 0)).far n34 (p := ⟨B4, 0, none⟩) (.bool false))
    have b4 := (World.putObj_heap_other (o := .deferred none) n4D).trans ((i4.far n43 (p := ⟨B3, 0, none⟩) (.int .i64 0)).set 0 (.bool false))
    have hc3 := Bk.cell b3 0
    have hc4 := Bk.cell b4 0
    refine ⟨.tuple #[.int .i64 0, .bool false], by simp [results, Tryz.f20, go_sem, hc3, hc4], rfl, ?_⟩
    exact ((i6.setCell (p := ⟨B3, 0, none⟩) w3 _).setCell (p := ⟨B4, 0, none⟩) w4 _).trans (below_put _ wD)
  case stop =>
    rintro D c pre W hD ⟨kk, hk0, hkd, hpre⟩ ⟨i6, h⟩ hK
    have hS := HS.out
    have hZ := HZ.out
    have n3D : B3 ≠ D := by omega
    have n4D : B4 ≠ D := by omega
    have wD : w.heap.size ≤ D := by omega
    have w3 : w.heap.size ≤ B3 := by omega
    have w4 : w.heap.size ≤ B4 := by omega
    have n34 : B3 ≠ B4 := by omega
    have n43 : ¬ B4 = B3 := by omega
    rcases h with ⟨rfl, ⟨pre0, y, h1, h2, h3⟩, i3, i4⟩ | ⟨rfl, pre0, h1, h2, h3, i3, i4⟩
    · have HF : ok = false ∧ k = 0 := by
        rcases HP.out.2.2.2.2 with ⟨_, n, _, h4, _, h5, _⟩ | ⟨h4, h5, _⟩
        · exfalso
          obtain ⟨_, h6, _⟩ := pwL_snoc (h1 ▸ hpre)
          exact h3 x (by rw [h6]; exact pwL_mem.2 ⟨n, by omega, h5⟩) rfl
        · exact ⟨h4, h5⟩
      obtain ⟨rfl, rfl⟩ := HF
      have c3 := i3.cell 0
      have c4 := i4.cell 0
      have f3 := i3.frozen 0
      have f4 := i4.frozen 0
      have l3 := i3.lt
      have l4 := i4.lt
      have HI := Lib.hid (And.intro i3 (And.intro i4 i6))
      have HN := Lib.hid (And.intro n3D (And.intro n4D (And.intro w3 (And.intro w4 wD))))
      clear i3 i4 i6 hS hZ n3D n4D w3 w4 wD h1 h2 h3 hpre hk0 hkd
      gi_wp2
      obtain ⟨i3, i4, i6⟩ := HI.out
      obtain ⟨n3D, n4D, w3, w4, wD⟩ := HN.out
      have hK2 : ((W.setCell ⟨B3, 0, none⟩ (.int .i64 0)).setCell ⟨B4, 0, none⟩ (.bool false)).heap[D]? = some (.deferred (some [])) := (Below.heap_setCell _ _ _ D (fun h => n4D h.symm)).trans ((Below.heap_setCell _ _ _ D (fun h => n3D h.symm)).trans hK)
      refine ⟨by simp, .inl ⟨_, _, rfl, run_takeDeferred hK2, ?_⟩⟩
      have b3 := (World.putObj_heap_other (o := .deferred none) n3D).trans ((i3.set 0 (.int .i64 0)).far n34 (p := ⟨B4, 0, none⟩) (.bool false))
      have b4 := (World.putObj_heap_other (o := .deferred none) n4D).trans ((i4.far n43 (p := ⟨B3, 0, none⟩) (.int .i64 0)).set 0 (.bool false))
      have hc3 := Bk.cell b3 0
      have hc4 := Bk.cell b4 0
      refine ⟨.tuple #[.int .i64 0, .bool false], by simp [results, Tryz.f20, go_sem, hc3, hc4], rfl, ?_⟩
      exact ((i6.setCell (p := ⟨B3, 0, none⟩) w3 _).setCell (p := ⟨B4, 0, none⟩) w4 _).trans (below_put _ wD)
    · have HF : ok = true ∧ k = (pre0.length : Int) := by
        obtain ⟨_, h6, h7⟩ := pwL_snoc (h1 ▸ hpre)
        rcases HP.out.2.2.2.2 with ⟨h4, n, hn, h5, h8, h9, h10⟩ | ⟨_, _, h8⟩
        · refine ⟨h4, ?_⟩
          rw [hn]
          rcases Nat.lt_trichotomy n pre0.length with hlt | hlt | hlt
          · exact absurd rfl (h3 x (by rw [h6]; exact pwL_mem.2 ⟨n, hlt, h9⟩))
          · rw [hlt]
          · exact absurd h7.symm (h10 _ hlt)
        · exact absurd h7.symm (h8 _ h2 (by omega))
      obtain ⟨rfl, rfl⟩ := HF
      gi_wp2
      refine ⟨by simp, .inl ⟨_, _, rfl, run_takeDeferred hK, ?_⟩⟩
      have b3 := (World.putObj_heap_other (o := .deferred none) n3D).trans i3
      have b4 := (World.putObj_heap_other (o := .deferred none) n4D).trans i4
      have hc3 := Bk.cell b3 0
      have hc4 := Bk.cell b4 0
      refine ⟨.tuple #[.int .i64 (pre0.length : Int), .bool true], by simp [results, Tryz.f20, go_sem, hc3, hc4], rfl, ?_⟩
      exact i6.trans (below_put _ wD)
end Go.Proofs.YtmiafkbjmkaebaaGreat

namespace Go.Proofs.YtmiafkbjmkaebaaGreat
open Go.RowKit Num Go.Shelf
attribute [local go_sem] Oper.semAt_some

set_option maxHeartbeats 1000000 in
set_option maxRecDepth 100000 in
theorem elements_any (A B X : ByteArray) (w : World) : Calls Tryz.prog 23 #[.agg #[.string A, .string B], .string X] w fun e w' =>
    e = .returned (.func (.func 46) #[] #[.pointer (some ⟨w.heap.size, 0, none⟩), .pointer (some ⟨w.heap.size + 1, 0, none⟩)]) ∧ w' = (w.alloc (.cells #[.string A, .string B] 24)).alloc (.cells #[.string X] 22) := by
  go_enter Tryz.func23, Tryz.ntmps23
  go_wp2
  go_ret
  exact ⟨by simp, rfl⟩

/-- A round of a caller whose fence asks no depth, taken within a round. -/
theorem round_any {m m' : Nat} {P : Program} {l l' : Nat} {f : FuncId} {tmps : Array Value} {assign body : Code} {w : World} {R : Ending → World → Prop}
    (h : RoundIn Fence.wide m P l f tmps assign body w R) : RoundIn (Fence.wide.inRound l') m' P l f tmps assign body w R := ⟨h.1, fun c cs _ => h.2 c cs (fun d hd => by cases hd)⟩

set_option maxHeartbeats 4000000 in
set_option maxRecDepth 100000 in
/-- What primegroup.Elements hands back yields the powers of an element up to its order, at most 65536. -/
theorem elements_seq (m BG BB p q b d : Nat) (w : World) (hm : 3 ≤ m) (hp : p < Top) (hb : b < Top) (hp2 : 2 ≤ p) (ho : IsOrd b p d)
    (kG : Bk w BG #[.string (bs p), .string (bs q)] 24) (kB : Bk w BB #[.string (bs b)] 22)
    (h1 : ∀ W, Calls Tryz.prog 12 #[.agg #[.string (bs p), .string (bs q)], .string (bs b)] W (Made W (.bool true))) :
    SeqB Fence.wide m Tryz.prog 46 #[.pointer (some ⟨BG, 0, none⟩), .pointer (some ⟨BB, 0, none⟩)] (fun x : Nat => #[.string (bs x)]) [BG, BB] (pwG b p)
      (fun xs => xs = pwL b p (min d 65536)) (fun pre => ∃ k, 0 < k ∧ k ≤ min d 65536 ∧ pre = pwL b p k) (min d 65536) w := by
  intro l J Jx W hW hJ hJx hY h0
  have H1 := Lib.hid h1
  have HP := Lib.hid (And.intro hp (And.intro hb (And.intro hp2 ho)))
  have HJ := Lib.hid (And.intro hJ hJx)
  have H0 := Lib.hid h0
  have g1 := kG.below hW
  have b1 := kB.below hW
  clear h1 hp hb hp2 ho hJ hJx h0 kG kB hW
  refine callsIn_of_wp_marks Tryz.func46 rfl trivial ?_ rfl
  simp only [Tryz.ntmps46, List.size_toArray, List.length_cons, List.length_nil, Nat.reduceAdd, Nat.reduceSub, Array.replicate_succ, Array.replicate_zero, List.push_toArray, List.append_toArray, List.nil_append, List.cons_append]
  have cg0 := g1.cell 0
  have cg1 := g1.cell 1
  have cb0 := b1.cell 0
  have lg := g1.lt
  have lb := b1.lt
  gi_wp2_with fail
  obtain ⟨BY, eY⟩ : ∃ x, x = W.heap.size := ⟨_, rfl⟩
  obtain ⟨W1, hW1⟩ : ∃ W1, W1 = W.alloc (.cells #[.func (.yield l) #[] #[]] 57) := ⟨_, rfl⟩
  have y1 : Bk W1 BY #[.func (.yield l) #[] #[]] 57 := by rw [hW1, eY]; exact Bk.new _ _ _
  have hB : Below W.heap.size W W1 := by rw [hW1]; exact (Below.refl _ W).alloc (Nat.le_refl _) _
  rw [← hW1, ← eY]
  have HS := Lib.hid eY
  replace g1 := g1.below hB
  replace b1 := b1.below hB
  clear hW1 eY cg0 cg1 cb0 lg lb
  refine ⟨trivial, fun _ => by omega, ?_⟩
  refine (callsIn_wide.2 (H1.out _)).mono ?_
  rintro e W2 ⟨rfl, hb⟩
  replace hB := hB.trans (hb.mono hB.size)
  replace g1 := g1.below hb
  replace b1 := b1.below hb
  replace y1 := y1.below hb
  clear hb
  have cg0 := g1.cell 0
  have cg1 := g1.cell 1
  have cb0 := b1.cell 0
  have lg := g1.lt
  have lb := b1.lt
  gi_wp2_with fail
  obtain ⟨BL, eL⟩ : ∃ x, x = W2.heap.size := ⟨_, rfl⟩
  obtain ⟨WA, hWA⟩ : ∃ WA, WA = W2.alloc (.cells #[.int .i64 65536] 3) := ⟨_, rfl⟩
  have aL : Bk WA BL #[.int .i64 65536] 3 := by rw [hWA, eL]; exact Bk.new _ _ _
  have aY : Bk WA BY #[.func (.yield l) #[] #[]] 57 := by rw [hWA]; exact y1.alloc _
  have hBA : Below W.heap.size W WA := by rw [hWA]; exact hB.alloc hB.size _
  have hsA : WA.heap.size = BL + 1 := by rw [hWA, eL]; simp
  have hYL : BY < BL := by rw [eL]; exact y1.lt
  rw [← hWA, ← eL]
  clear hWA eL g1 b1 y1 cg0 cg1 cb0 lg lb hB
  refine ⟨trivial, fun _ => by omega, ?_⟩
  refine (callsIn_wide.2 (powers_any _ _ _ _)).mono ?_
  rintro e W0 ⟨rfl, hW0⟩
  have hbA : Below WA.heap.size WA W0 := by rw [hW0]; exact ((Below.refl _ WA).alloc (Nat.le_refl _) _).alloc (by simp) _
  have kG : Bk W0 WA.heap.size #[.string (bs p), .string (bs q)] 24 := by rw [hW0]; exact (Bk.new _ _ _).alloc _
  have kB : Bk W0 (WA.heap.size + 1) #[.string (bs b)] 22 := by rw [hW0]; exact Bk.new1 _ _ _ _
  have hs0 : W0.heap.size = BL + 3 := by rw [hW0]; simp [hsA]
  clear hW0
  obtain ⟨BX, eX⟩ : ∃ x, x = WA.heap.size := ⟨_, rfl⟩
  rw [← eX] at kG kB hsA ⊢
  replace aL := aL.below hbA
  replace aY := aY.below hbA
  replace hBA := hBA.trans (hbA.mono hBA.size)
  have HZ := Lib.hid (And.intro hs0 (And.intro hsA (And.intro hYL HS.out)))
  have HB0 := Lib.hid hBA
  clear hbA hs0 hsA hYL eX HS hBA
  gi_wp2
  refine range_B rfl (by omega) (gf := 68) (lb := #[.pointer (some ⟨BX + 1, 0, none⟩), .pointer (some ⟨BX, 0, none⟩)]) rfl trivial (enters_of Tryz.func68 (by kernel_rfl) rfl)
    (powers_seq (m - 1) (BX + 1) BX p b d (bs q) W0 (by omega) HP.out.1 HP.out.2.1 HP.out.2.2.1 HP.out.2.2.2 kB kG) (fun k hk => by have := HZ.out; simp at hk; omega) (Below.refl _ _) (fun _ => rfl)
    (fun pre W3 => J pre W3 ∧ Bk W3 BY #[.func (.yield l) #[] #[]] 57 ∧ Bk W3 BL #[.int .i64 (65536 - (pre.length : Int))] 3 ∧ pre.length ≤ 65536)
    (fun c pre W3 => c = .ret ∧ ∃ pre0 x, pre = pre0 ++ [x] ∧ ((pre0.length = 65536 ∧ J pre0 W3) ∨ (pre0.length < 65536 ∧ Jx pre W3)))
    ?si ?sx ?start
    (fun y => { tmps := #[.func (.yield l) #[] #[], .pointer (some ⟨BG, 0, none⟩), .pointer (some ⟨BB, 0, none⟩), .pointer (some ⟨BY, 0, none⟩), .pointer (some ⟨BL, 0, none⟩), .string (bs y), .agg #[.string (bs p), .string (bs q)], .string (bs b), .bool true, .bool false, .agg #[.string (bs p), .string (bs q)], .string (bs b),
      .func (.func 68) #[] #[.pointer (some ⟨BX + 1, 0, none⟩), .pointer (some ⟨BX, 0, none⟩)], .string (bs y), undef, undef, undef, undef, undef, undef, undef, undef, undef, undef], defers := [] }) ?assign ?body ?done ?stop
  case si =>
    rintro s X Y ⟨i1, i2, i3, i4⟩ hXY
    have hZ := HZ.out
    have hS := HB0.out.size
    exact ⟨HJ.out.1 _ _ _ i1 (hXY.mono (by omega)), (hXY.block BY (by omega)).trans i2, (hXY.block BL (by omega)).trans i3, i4⟩
  case sx =>
    rintro c s X Y ⟨h1, pre0, x, h2, h3⟩ hXY
    have hS := HB0.out.size
    exact ⟨h1, pre0, x, h2, h3.imp (fun ⟨h4, h5⟩ => ⟨h4, HJ.out.1 _ _ _ h5 (hXY.mono (by omega))⟩) (fun ⟨h4, h5⟩ => ⟨h4, HJ.out.2 _ _ _ h5 (hXY.mono (by omega))⟩)⟩
  case start => exact ⟨HJ.out.1 _ _ _ H0.out HB0.out, aY, aL, by simp⟩
  case assign =>
    intro l2 y W3 K hK
    gi_wp2
    exact hK
  case body =>
    rintro l2 pre y W3 ⟨i1, i2, i3, i4⟩ hlen hgg hsz
    have cY := i2.cell 0
    have cL := i3.cell 0
    have fL := i3.frozen 0
    have lY := i2.lt
    have lL := i3.lt
    have HI := Lib.hid (And.intro i1 (And.intro i2 i3))
    have HL := Lib.hid (And.intro hlen hsz)
    clear i1 i2 i3 hlen hsz kG kB aL aY
    by_cases hlast : pre.length = 65536
    · rw [show (65536 - (pre.length : Int)) = 0 from by omega] at cL
      have HE := Lib.hid hlast
      clear hlast i4
      gi_wp2
      refine ⟨fun _ h => (by cases h), ?_⟩
      gi_wp2
      exact ⟨Kept.refl _ _ _, rfl, pre, y, rfl, .inl ⟨HE.out, HI.out.1⟩⟩
    · obtain ⟨r, hr⟩ : ∃ r, r = 65536 - pre.length := ⟨_, rfl⟩
      have er : (65536 - (pre.length : Int)) = (r : Int) := by omega
      have r0 : ((r : Int) == 0) = false := by simp; omega
      have wr1 : IntKind.i64.wrap ((r : Int) - 1) = (r : Int) - 1 := by rw [IntKind.wrap_i64] <;> omega
      have hN : pre.length < min d 65536 := by have := HL.out.1; omega
      obtain ⟨fn, tmps, assign, body, hy, hR⟩ := hY pre y W3 HI.out.1 hN hgg (by have := HL.out.2; have := HB0.out.size; omega)
      rw [er] at cL
      have HE := Lib.hid (And.intro hr (And.intro er (show pre.length < 65536 by omega)))
      clear hr er hlast i4 hN
      gi_wp2
      refine ⟨fun _ => by omega, (round_any hR).mono ?_⟩
      rintro e W4 ⟨hk4, (⟨rfl, hJ4⟩ | ⟨rfl, hJx4⟩)⟩
      · have hZ := HZ.out
        have y4 := hk4.bk HI.out.2.1 (.inl (by omega))
        have q4 := hk4.bk HI.out.2.2 (.inl (by omega))
        have cL4 := q4.cell 0
        have fL4 := q4.frozen 0
        have lL4 := q4.lt
        rw [HE.out.2.1] at cL4
        have mL : BL < W0.heap.size := by omega
        have nb : BL ∉ [BX + 1, BX] := by simp; omega
        have hk5 : Kept [BX + 1, BX] W0.heap.size W3 W4 := hk4.mono (by have := HB0.out.size; omega) (fun k hk => .inr (by simp at hk; omega))
        have nYL : BY ≠ BL := by omega
        have wL : W.heap.size ≤ BL := by omega
        have H4 := Lib.hid (And.intro hJ4 (And.intro y4 (And.intro q4 (And.intro mL (And.intro nb (And.intro hk5 (And.intro nYL wL)))))))
        clear hk4 hJ4 y4 q4 mL nb hk5 nYL wL hZ cL fL lL cY lY
        gi_wp2
        obtain ⟨hJ4, y4, q4, mL, nb, hk5, nYL, wL⟩ := H4.out
        refine ⟨hk5.trans (Kept.set _ _ mL nb), HJ.out.1 _ _ _ hJ4 ((Below.refl _ W4).setCell (p := ⟨BL, 0, none⟩) wL _), y4.far nYL _, ?_, by have := HE.out.2.2; rw [List.length_append, List.length_singleton]; omega⟩
        have hq := q4.set 0 (.int .i64 ((r : Int) - 1))
        have he : (65536 - ((pre ++ [y]).length : Int)) = (r : Int) - 1 := by have := HE.out.2.1; rw [List.length_append, List.length_singleton]; omega
        rw [he]
        exact hq
      · have hk5 : Kept [BX + 1, BX] W0.heap.size W3 W4 := hk4.mono (by have := HB0.out.size; omega) (fun k hk => .inr (by have := HZ.out; simp at hk; omega))
        gi_wp2
        exact ⟨hk5, rfl, pre, y, rfl, .inr ⟨HE.out.2.2, hJx4⟩⟩
  case done =>
    rintro D ys W3 hD rfl ⟨i1, i2, i3, i4⟩ hK
    rw [pwL_length] at i4
    have wD : W.heap.size ≤ D := by have := HB0.out.size; omega
    have HI := Lib.hid (And.intro i1 wD)
    have H4 := Lib.hid i4
    clear i1 i2 i3 i4 wD
    gi_wp2
    refine ⟨by simp, .inl ⟨_, _, rfl, run_takeDeferred hK, ?_⟩⟩
    refine ⟨_, results_none rfl _ _ _, ⟨_, rfl⟩, .inl ⟨_, rfl, ?_⟩⟩
    rw [Nat.min_eq_left H4.out]
    exact HJ.out.1 _ _ _ HI.out.1 (below_put _ HI.out.2)
  case stop =>
    rintro D c pre W3 hD ⟨k, hk0, hkd, hpre⟩ ⟨rfl, pre0, x, h2, h3⟩ hK
    have wD : W.heap.size ≤ D := by have := HB0.out.size; omega
    obtain ⟨h5, h6, h7⟩ := pwL_snoc (h2 ▸ hpre)
    gi_wp2
    refine ⟨by simp, .inl ⟨_, _, rfl, run_takeDeferred hK, ?_⟩⟩
    refine ⟨_, results_none rfl _ _ _, ⟨_, rfl⟩, ?_⟩
    rcases h3 with ⟨h8, h9⟩ | ⟨h8, h9⟩
    · refine .inl ⟨_, rfl, ?_⟩
      rw [Nat.min_eq_right (by omega), ← h8, ← h6]
      exact HJ.out.1 _ _ _ h9 (below_put _ wD)
    · exact .inr ⟨pre, ⟨k, hk0, by omega, hpre⟩, HJ.out.2 _ _ _ h9 (below_put _ wD)⟩
end Go.Proofs.YtmiafkbjmkaebaaGreat

namespace Go.Proofs.YtmiafkbjmkaebaaGreat
open Go.RowKit Num Go.Shelf
attribute [local go_sem] Oper.semAt_some

theorem bs_b (n : Nat) (h0 : n ≠ 0) (h : n < 256) : bs n = ⟨#[UInt8.ofNat n]⟩ := by
  unfold bs
  rw [cb_pos h0, show n / 256 = 0 from Nat.div_eq_of_lt h, cb_zero]
  rfl
theorem b1 : bs 1 = ⟨#[1]⟩ := bs_b 1 (by decide) (by decide)
theorem b2 : bs 2 = ⟨#[2]⟩ := bs_b 2 (by decide) (by decide)
theorem b3 : bs 3 = ⟨#[3]⟩ := bs_b 3 (by decide) (by decide)
theorem b4 : bs 4 = ⟨#[4]⟩ := bs_b 4 (by decide) (by decide)
theorem b5 : bs 5 = ⟨#[5]⟩ := bs_b 5 (by decide) (by decide)
theorem b6 : bs 6 = ⟨#[6]⟩ := bs_b 6 (by decide) (by decide)
theorem b11 : bs 11 = ⟨#[11]⟩ := bs_b 11 (by decide) (by decide)
theorem b12 : bs 12 = ⟨#[12]⟩ := bs_b 12 (by decide) (by decide)
theorem b21 : bs 21 = ⟨#[21]⟩ := bs_b 21 (by decide) (by decide)
theorem b23 : bs 23 = ⟨#[23]⟩ := bs_b 23 (by decide) (by decide)
theorem tiny {n : Nat} (h : n < 1000000) : n < Top := Nat.lt_of_lt_of_le h (by unfold Top; decide)
theorem fn_nil (f : Nat) (vs : Array Value) (W : World) : (binOp BinOp.eql 48 (.func (.func f) #[] vs) .nilFunc).run Tryz.prog W = .ok (.bool false) W := by
  have h2 : (Op.equal 48 (.func (.func f) #[] vs) .nilFunc).run Tryz.prog W = .ok false W := by
    show (Op.equalIn (9999 + 1) _ _ _).run _ _ = _
    unfold Op.equalIn
    simp [run_underlying Tryz.underlying48]
  simp [binOp, go_sem, h2]
theorem ord4 : IsOrd 4 23 11 := ⟨by decide, by decide, by
  have h : ∀ j, j < 11 → 0 < j → 4 ^ j % 23 ≠ 1 := by decide
  exact fun j h1 h2 => h j h2 h1⟩
set_option maxHeartbeats 1000000 in
set_option maxRecDepth 100000 in
theorem small_any (w : World) : Calls Tryz.prog 24 #[] w (Made w (.agg #[.string ⟨#[23]⟩, .string ⟨#[11]⟩])) := by
  go_enter Tryz.func24, Tryz.ntmps24
  go_wp2
  have hc := Bk.new w #[.string ⟨#[23]⟩, .string ⟨#[11]⟩] 24
  have h0 := hc.cell 0
  have h1 := hc.cell 1
  refine bodyPost_ret (v := .agg #[.string ⟨#[23]⟩, .string ⟨#[11]⟩]) ?_ rfl ⟨rfl, (Below.refl _ w).alloc (Nat.le_refl _) _⟩
  simp [results, Tryz.f24, go_sem]

set_option maxHeartbeats 4000000 in
set_option maxRecDepth 100000 in
theorem awake9 (w : World) : Calls Tryz.prog 8 #[] w (Made w (.bool true)) := by
  have HS := Lib.hid small_any
  have HM : Hid (∀ W, Calls Tryz.prog 16 #[.agg #[.string ⟨#[23]⟩, .string ⟨#[11]⟩], .string ⟨#[6]⟩, .string ⟨#[12]⟩] W (Made W (.tuple #[.string ⟨#[3]⟩, .int .i64 0]))) := Lib.hid (fun W => by
    have h := cel2_ok (p := 23) (q := 11) (a := 6) (b := 12) (tiny (by decide)) (tiny (by decide)) (tiny (by decide)) (tiny (by decide))
    rw [show (if (hasN 23 11 6 && hasN 23 11 12) = true then (0 : Int) else 13) = 0 from by decide] at h
    have h2 := pmul_ok 23 11 6 12 W (tiny (by decide)) (tiny (by decide)) (tiny (by decide)) (by decide) h
    rwa [show 6 * 12 % 23 = 3 from rfl, b23, b11, b6, b12, b3] at h2)
  have HPw : Hid (∀ W, Calls Tryz.prog 18 #[.agg #[.string ⟨#[23]⟩, .string ⟨#[11]⟩], .string ⟨#[4]⟩, .agg #[.bool true, .string ⟨#[1]⟩]] W (Made W (.tuple #[.string ⟨#[6]⟩, .int .i64 0]))) := Lib.hid (fun W => by
    have h := cel1_ok (p := 23) (q := 11) (a := 4) (tiny (by decide)) (tiny (by decide)) (tiny (by decide))
    rw [show (if hasN 23 11 4 = true then (0 : Int) else 13) = 0 from by decide] at h
    have h3 : ∀ W, Calls Tryz.prog 42 #[.string (bs 4), .agg #[.bool true, .string (bs 1)], .string (bs 23)] W (Made W (.tuple #[.string (bs 6), .int .i64 0])) := fun W =>
      mpower_inv 4 1 23 6 W (tiny (by decide)) (tiny (by decide)) (tiny (by decide)) (by decide) (by decide) (tiny (by decide)) (fun W => minverse_ok 4 23 6 W (by decide) (by decide) (by decide) (by decide) (by decide) (by decide))
    have h2 := ppow_ok (bs 23) (bs 11) (bs 4) (bs 1) (bs 6) true W (by have := bs_small (tiny (n := 1) (by decide)); omega) (by unfold vI; rw [bs_valid (tiny (by decide)), bs_isEmpty]; rfl) h h3
    rwa [b23, b11, b4, b1, b6] at h2)
  have HH4 : ∀ W, Calls Tryz.prog 12 #[.agg #[.string (bs 23), .string (bs 11)], .string (bs 4)] W (Made W (.bool true)) := fun W => by
    have h := has_ok 23 11 4 W (tiny (by decide)) (tiny (by decide)) (tiny (by decide))
    rwa [show hasN 23 11 4 = true from by decide] at h
  have HH2 : ∀ W, Calls Tryz.prog 12 #[.agg #[.string (bs 23), .string (bs 11)], .string (bs 2)] W (Made W (.bool true)) := fun W => by
    have h := has_ok 23 11 2 W (tiny (by decide)) (tiny (by decide)) (tiny (by decide))
    rwa [show hasN 23 11 2 = true from by decide] at h
  have HL : Hid (∀ W, Calls Tryz.prog 20 #[.agg #[.string ⟨#[23]⟩, .string ⟨#[11]⟩], .string ⟨#[4]⟩, .string ⟨#[2]⟩, .int .i64 10] W (Made W (.tuple #[.int .i64 6, .bool true]))) := Lib.hid (fun W => by
    have h := plog_ok 23 11 4 2 11 10 6 true W (tiny (by decide)) (tiny (by decide)) (by decide) ord4 (.inl ⟨rfl, 6, rfl, by decide, by decide, by decide, by decide⟩) (by decide) (by decide) HH4 HH2
    rwa [b23, b11, b4, b2] at h)
  have HE := Lib.hid (fun W => elements_any ⟨#[23]⟩ ⟨#[11]⟩ ⟨#[4]⟩ W)
  have HC : Hid (∀ W, Calls Tryz.prog 9 #[.agg #[.string ⟨#[23]⟩, .string ⟨#[11]⟩]] W (Made W (.int .i64 0))) := Lib.hid (fun W => by
    have h := pchk_ok 23 11 W (tiny (by decide)) (tiny (by decide))
    rwa [show chkN 23 11 = 0 from by decide +kernel, b23, b11] at h)
  have HC2 : Hid (∀ W, Calls Tryz.prog 9 #[.agg #[.string ⟨#[21]⟩, .string ⟨#[5]⟩]] W (Made W (.int .i64 12))) := Lib.hid (fun W => by
    have h := pchk_ok 21 5 W (tiny (by decide)) (tiny (by decide))
    rwa [show chkN 21 5 = 12 from by decide +kernel, b21, b5] at h)
  have HG : Hid (∀ W, Calls Tryz.prog 14 #[.agg #[.string ⟨#[23]⟩, .string ⟨#[11]⟩], .string ⟨#[4]⟩] W (Made W (.bool true))) := Lib.hid (fun W => by
    have h := isgen_ok 23 11 4 W (tiny (by decide)) (tiny (by decide)) (tiny (by decide))
    rwa [show (hasN 23 11 4 && (4 != 1)) = true from by decide, b23, b11, b4] at h)
  have H5 : Hid (∀ W, Calls Tryz.prog 12 #[.agg #[.string ⟨#[23]⟩, .string ⟨#[11]⟩], .string ⟨#[5]⟩] W (Made W (.bool false))) := Lib.hid (fun W => by
    have h := has_ok 23 11 5 W (tiny (by decide)) (tiny (by decide)) (tiny (by decide))
    rwa [show hasN 23 11 5 = false from by decide, b23, b11, b5] at h)
  have HH4' := Lib.hid HH4
  clear HH4 HH2
  refine (callsIn_wide (n := 6)).1 ?_
  refine callsIn_of_wp_marks Tryz.func8 rfl trivial ?_ rfl
  simp only [Tryz.ntmps8, List.size_toArray, List.length_nil, Nat.reduceSub, Array.replicate_succ, Array.replicate_zero, List.push_toArray, List.append_toArray, List.nil_append, List.cons_append]
  gi_wp2_with fail
  refine ⟨trivial, ?_⟩
  refine (callsIn_wide.2 (HS.out _)).mono ?_
  rintro e u1 ⟨rfl, hb⟩
  have HV := hb
  clear hb
  gi_wp2_with fail
  obtain ⟨BZ, eZ⟩ : ∃ x, x = u1.heap.size := ⟨_, rfl⟩
  obtain ⟨W1, hW1⟩ : ∃ W1, W1 = u1.alloc (.cells #[.string ⟨#[23]⟩, .string ⟨#[11]⟩] 24) := ⟨_, rfl⟩
  have kZ : Bk W1 BZ #[.string ⟨#[23]⟩, .string ⟨#[11]⟩] 24 := by rw [hW1, eZ]; exact Bk.new _ _ _
  have wZ : w.heap.size ≤ BZ := by rw [eZ]; exact HV.size
  replace HV : Below w.heap.size w W1 := by rw [hW1]; exact HV.alloc HV.size _
  rw [← hW1, ← eZ]
  clear hW1 eZ
  have c0 := kZ.cell 0
  have c1 := kZ.cell 1
  have l0 := kZ.lt
  refine ⟨trivial, ?_⟩
  refine (callsIn_wide.2 (HM.out _)).mono ?_
  rintro e u2 ⟨rfl, hb⟩
  replace HV := HV.trans (hb.mono HV.size)
  replace kZ := kZ.below hb
  clear hb c0 c1 l0
  have c0 := kZ.cell 0
  have c1 := kZ.cell 1
  have l0 := kZ.lt
  gi_wp2_with fail
  refine ⟨trivial, ?_⟩
  refine (callsIn_wide.2 (HPw.out _)).mono ?_
  rintro e u3 ⟨rfl, hb⟩
  replace HV := HV.trans (hb.mono HV.size)
  replace kZ := kZ.below hb
  clear hb c0 c1 l0
  have c0 := kZ.cell 0
  have c1 := kZ.cell 1
  have l0 := kZ.lt
  gi_wp2_with fail
  refine ⟨trivial, ?_⟩
  refine (callsIn_wide.2 (HL.out _)).mono ?_
  rintro e u4 ⟨rfl, hb⟩
  replace HV := HV.trans (hb.mono HV.size)
  replace kZ := kZ.below hb
  clear hb c0 c1 l0
  have c0 := kZ.cell 0
  have c1 := kZ.cell 1
  have l0 := kZ.lt
  gi_wp2_with fail
  obtain ⟨BN, eN⟩ : ∃ x, x = u4.heap.size := ⟨_, rfl⟩
  obtain ⟨WA, hWA⟩ : ∃ WA, WA = u4.alloc (.cells #[.int .i64 0] 3) := ⟨_, rfl⟩
  have kN : Bk WA BN #[.int .i64 0] 3 := by rw [hWA, eN]; exact Bk.new _ _ _
  have nZN : BZ < BN := by rw [eN]; exact kZ.lt
  replace kZ : Bk WA BZ #[.string ⟨#[23]⟩, .string ⟨#[11]⟩] 24 := by rw [hWA]; exact kZ.alloc _
  replace HV : Below w.heap.size w WA := by rw [hWA]; exact HV.alloc HV.size _
  have hsA : WA.heap.size = BN + 1 := by rw [hWA, eN]; simp
  rw [← hWA, ← eN]
  clear hWA eN c0 c1 l0
  refine ⟨trivial, ?_⟩
  refine (callsIn_wide.2 (HE.out _)).mono ?_
  rintro e W0 ⟨rfl, hW0⟩
  have hbA : Below WA.heap.size WA W0 := by rw [hW0]; exact ((Below.refl _ WA).alloc (Nat.le_refl _) _).alloc (by simp) _
  have kG : Bk W0 WA.heap.size #[.string (bs 23), .string (bs 11)] 24 := by rw [hW0, b23, b11]; exact (Bk.new _ _ _).alloc _
  have kB : Bk W0 (WA.heap.size + 1) #[.string (bs 4)] 22 := by rw [hW0, b4]; exact Bk.new1 _ _ _ _
  have hs0 : W0.heap.size = BN + 3 := by rw [hW0]; simp [hsA]
  clear hW0
  obtain ⟨BG, eG⟩ : ∃ x, x = WA.heap.size := ⟨_, rfl⟩
  rw [← eG] at kG kB hsA ⊢
  replace kZ := kZ.below hbA
  replace kN := kN.below hbA
  replace HV := HV.trans (hbA.mono HV.size)
  have HZ := Lib.hid (And.intro hs0 (And.intro hsA (And.intro nZN wZ)))
  clear hbA hs0 hsA eG nZN wZ
  have hfn := fn_nil 46 #[.pointer (some ⟨BG, 0, none⟩), .pointer (some ⟨BG + 1, 0, none⟩)] W0
  gi_wp2
  clear hfn
  refine range_B rfl (by omega) (gf := 46) (lb := #[.pointer (some ⟨BG, 0, none⟩), .pointer (some ⟨BG + 1, 0, none⟩)]) rfl trivial (enters_of Tryz.func46 (by kernel_rfl) rfl)
    (elements_seq 5 BG (BG + 1) 23 11 4 11 W0 (by omega) (tiny (by decide)) (tiny (by decide)) (by decide) ord4 kG kB HH4'.out) (fun k hk => by have := HZ.out; simp at hk; omega) (Below.refl _ _) (fun _ => rfl)
    (fun pre W3 => Bk W3 BZ #[.string ⟨#[23]⟩, .string ⟨#[11]⟩] 24 ∧ Bk W3 BN #[.int .i64 (pre.length : Int)] 3 ∧ Below w.heap.size w W3)
    (fun _ _ _ => False) ?si (fun _ _ _ _ h _ => h) ⟨kZ, kN, HV⟩
    (fun y => { tmps := #[.bool false, .pointer (some ⟨BZ, 0, none⟩), .string ⟨#[3]⟩, .int .i64 0, .string ⟨#[6]⟩, .int .i64 0, .int .i64 6, .bool true, .pointer (some ⟨BN, 0, none⟩), .func (.func 46) #[] #[.pointer (some ⟨BG, 0, none⟩), .pointer (some ⟨BG + 1, 0, none⟩)], .agg #[.string ⟨#[23]⟩, .string ⟨#[11]⟩], .tuple #[.string ⟨#[3]⟩, .int .i64 0], .agg #[.string ⟨#[23]⟩, .string ⟨#[11]⟩], .tuple #[.string ⟨#[3]⟩, .int .i64 0], .string ⟨#[3]⟩, .int .i64 0, .tuple #[.string ⟨#[6]⟩, .int .i64 0], .agg #[.string ⟨#[23]⟩, .string ⟨#[11]⟩], .agg #[.bool true, .string ⟨#[1]⟩], .tuple #[.string ⟨#[6]⟩, .int .i64 0], .string ⟨#[6]⟩, .int .i64 0, .tuple #[.int .i64 6, .bool true], .agg #[.string ⟨#[23]⟩, .string ⟨#[11]⟩], .tuple #[.int .i64 6, .bool true], .int .i64 6, .bool true, .agg #[.string ⟨#[23]⟩, .string ⟨#[11]⟩], .func (.func 46) #[] #[.pointer (some ⟨BG, 0, none⟩), .pointer (some ⟨BG + 1, 0, none⟩)], .func (.func 46) #[] #[.pointer (some ⟨BG, 0, none⟩), .pointer (some ⟨BG + 1, 0, none⟩)], .bool false, .func (.func 46) #[] #[.pointer (some ⟨BG, 0, none⟩), .pointer (some ⟨BG + 1, 0, none⟩)], .string (bs y), undef, undef, undef, undef, undef, undef, undef, undef, undef, undef, undef, undef, undef, undef, undef, undef, undef, undef, undef, undef, undef, undef, undef, undef, undef, undef, undef, undef, undef, undef, undef, undef, undef, undef, undef, undef, undef, undef, undef, undef, undef, undef, undef, undef, undef, undef], defers := [] }) ?assign ?body ?done ?stop
  case si =>
    rintro s X Y ⟨i1, i2, i3⟩ hXY
    have hZ := HZ.out
    exact ⟨(hXY.block BZ (by omega)).trans i1, (hXY.block BN (by omega)).trans i2, i3.trans (hXY.mono (by omega))⟩
  case assign =>
    intro l y W3 K hK
    gi_wp2
    exact hK
  case body =>
    rintro l pre y W3 ⟨i1, i2, i3⟩ hlen hgg hsz
    have cN := i2.cell 0
    have fN := i2.frozen 0
    have lN := i2.lt
    have hZ := HZ.out
    have mN : BN < W0.heap.size := by omega
    have nbN : BN ∉ [BG, BG + 1] := by simp; omega
    have nZN : BZ ≠ BN := by omega
    have wN : w.heap.size ≤ BN := by omega
    have wk : IntKind.i64.wrap ((pre.length : Int) + 1) = (pre.length : Int) + 1 := by
      have h11 : pre.length < 11 := by simpa using hlen
      rw [IntKind.wrap_i64] <;> omega
    have HI := Lib.hid (And.intro i1 (And.intro i2 (And.intro i3 (And.intro mN (And.intro nbN (And.intro nZN wN))))))
    clear i1 i2 i3 hZ mN nbN nZN wN hlen hsz kG kB kZ kN HV
    gi_wp2
    obtain ⟨i1, i2, i3, mN, nbN, nZN, wN⟩ := HI.out
    refine ⟨Kept.set _ _ mN nbN, i1.far nZN _, ?_, i3.setCell (p := ⟨BN, 0, none⟩) wN _⟩
    rw [List.length_append, List.length_singleton, Int.natCast_add]
    exact i2.set 0 _
  case done =>
    rintro D ys W3 hD rfl ⟨kZ, kN, HV⟩ hK
    rw [pwL_length, show ((min 11 65536 : Nat) : Int) = 11 from rfl] at kN
    have c0 := kZ.cell 0
    have c1 := kZ.cell 1
    have cN := kN.cell 0
    have l0 := kZ.lt
    have lN := kN.lt
    have wD : w.heap.size ≤ D := by have := HZ.out; omega
    gi_wp2_with fail
    refine ⟨trivial, ?_⟩
    refine (callsIn_wide.2 (HC.out _)).mono ?_
    rintro e u5 ⟨rfl, hb⟩
    replace HV := HV.trans (hb.mono HV.size)
    replace kZ := kZ.below hb
    replace kN := kN.below hb
    replace hK : u5.heap[D]? = some (.deferred (some [])) := (hb.block D (by have := (Array.getElem?_eq_some_iff.1 hK).1; exact this)).trans hK
    clear hb c0 c1 cN l0 lN
    have c0 := kZ.cell 0
    have c1 := kZ.cell 1
    have cN := kN.cell 0
    have l0 := kZ.lt
    have lN := kN.lt
    gi_wp2_with fail
    refine ⟨trivial, ?_⟩
    refine (callsIn_wide.2 (HG.out _)).mono ?_
    rintro e u6 ⟨rfl, hb⟩
    replace HV := HV.trans (hb.mono HV.size)
    replace kZ := kZ.below hb
    replace kN := kN.below hb
    replace hK : u6.heap[D]? = some (.deferred (some [])) := (hb.block D (by have := (Array.getElem?_eq_some_iff.1 hK).1; exact this)).trans hK
    clear hb c0 c1 cN l0 lN
    have c0 := kZ.cell 0
    have c1 := kZ.cell 1
    have cN := kN.cell 0
    have l0 := kZ.lt
    have lN := kN.lt
    gi_wp2_with fail
    refine ⟨trivial, ?_⟩
    refine (callsIn_wide.2 (H5.out _)).mono ?_
    rintro e u7 ⟨rfl, hb⟩
    replace HV := HV.trans (hb.mono HV.size)
    replace kZ := kZ.below hb
    replace kN := kN.below hb
    replace hK : u7.heap[D]? = some (.deferred (some [])) := (hb.block D (by have := (Array.getElem?_eq_some_iff.1 hK).1; exact this)).trans hK
    clear hb c0 c1 cN l0 lN
    have c0 := kZ.cell 0
    have c1 := kZ.cell 1
    have cN := kN.cell 0
    have l0 := kZ.lt
    have lN := kN.lt
    gi_wp2_with fail
    refine ⟨trivial, ?_⟩
    refine (callsIn_wide.2 (HC2.out _)).mono ?_
    rintro e u8 ⟨rfl, hb⟩
    replace HV := HV.trans (hb.mono HV.size)
    replace kZ := kZ.below hb
    replace kN := kN.below hb
    replace hK : u8.heap[D]? = some (.deferred (some [])) := (hb.block D (by have := (Array.getElem?_eq_some_iff.1 hK).1; exact this)).trans hK
    clear hb c0 c1 cN l0 lN
    have c0 := kZ.cell 0
    have c1 := kZ.cell 1
    have cN := kN.cell 0
    have l0 := kZ.lt
    have lN := kN.lt
    gi_wp2
    refine ⟨by simp, .inl ⟨_, _, rfl, run_takeDeferred hK, ?_⟩⟩
    exact ⟨_, results_tmp rfl _ _ _, rfl, HV.trans (below_put _ wD)⟩
  case stop =>
    rintro D c pre W3 _ _ h _
    exact h.elim
end Go.Proofs.YtmiafkbjmkaebaaGreat

namespace Go.Proofs.YtmiafkbjmkaebaaGreat
open Go.RowKit Num

set_option maxHeartbeats 2000000 in
set_option maxRecDepth 100000 in
/-- j: the first number that is too long, or n. -/
theorem few9 (A B : ByteArray) (n j : Nat) (X : Nat → ByteArray) (gb : Nat) (b : Bool) (w : World) (hA : A.size ≤ 9223372036854775807) (hB : B.size ≤ 9223372036854775807) (hX : ∀ k, k < n → (X k).size ≤ 9223372036854775807) (hn : n ≤ 1000) (hj : j ≤ n)
    (hv : j < n → 20 < (X j).size ∧ b = false) (hlt : ∀ i, i < j → (X i).size ≤ 20) (hb : j = n → b = (decide (A.size ≤ 8) && decide (B.size ≤ 10))) (hc : ∀ k, k < n → w.cell? ⟨gb, k, none⟩ = some (.string (X k))) (hgb : gb < w.heap.size) :
    Calls Tryz.prog 11 #[.agg #[.string A, .string B], .slice (some ⟨gb, 0, none⟩) n n] w (Made w (.bool b)) := by
  have HJ := Lib.hid (And.intro hv (And.intro hlt hb))
  have HC := Lib.hid hc
  have HXX := Lib.hid hX
  clear hv hlt hb hc hX
  have HV : Below w.heap.size w (w.alloc (.cells #[.string A, .string B] 24)) := ((Below.refl w.heap.size w).alloc (Nat.le_refl _) (.cells #[.string A, .string B] 24))
  have K0 : Bk (w.alloc (.cells #[.string A, .string B] 24)) w.heap.size #[.string A, .string B] 24 := (Bk.new w #[.string A, .string B] 24)
  have c0_0 := K0.cell 0
  have c0_1 := K0.cell 1
  have l0 := K0.lt
  go_enter Tryz.func11, Tryz.ntmps11
  go_wp2
  obtain ⟨W1, hW1⟩ : ∃ W1, W1 = w.alloc (.cells #[.string A, .string B] 24) := ⟨_, rfl⟩
  rw [← hW1] at HV K0 c0_0 c0_1 l0 ⊢
  clear hW1
  go_loopw [5] (fun x5 wr => ∃ i : Nat, i ≤ j ∧ x5 = .int .i64 i ∧ wr = W1) (fun x5 _ => n + 1 - (intOf x5).toNat)
  case atStart => exact ⟨0, Nat.zero_le _, rfl, rfl⟩
  case round =>
    obtain ⟨i, hi, rfl, hw⟩ := hrel
    obtain rfl : W1 = wr := hw.symm
    by_cases hin : i < n
    · have hcell := (HV.cell (p := ⟨gb, i, none⟩) hgb).trans (HC.out i hin)
      have lg : gb < W1.heap.size := Nat.lt_of_lt_of_le hgb HV.size
      have hsz := HXX.out i hin
      by_cases hij : i = j
      · have h20 : 20 < (X i).size := by rw [hij]; exact (HJ.out.1 (by omega)).1
        obtain rfl : b = false := (HJ.out.1 (by omega)).2
        have hd : decide (20 < ((X i).size : Int)) = true := by simp; omega
        generalize X i = S at *
        clear hij
        go_wp2
        go_ret
        exact ⟨rfl, HV⟩
      · have h20 : (X i).size ≤ 20 := HJ.out.2.1 i (by omega)
        have hd : decide (20 < ((X i).size : Int)) = false := by simp; omega
        generalize X i = S at *
        go_wp2
        go_roundw
        case rel => exact ⟨i + 1, by omega, by go_num, by first | rfl | trivial⟩
        case measure => simp [intOf]; omega
    · have hb := HJ.out.2.2 (by omega)
      obtain rfl : i = n := by omega
      by_cases h1 : A.size ≤ 8 <;> by_cases h2 : B.size ≤ 10
      all_goals
        go_wp2
        go_ret
        exact ⟨by simp [*] <;> omega, HV⟩

theorem few9_two (A B S T : ByteArray) (hA : A.size ≤ 9223372036854775807) (hB : B.size ≤ 9223372036854775807) (hS : S.size ≤ 9223372036854775807) (hT : T.size ≤ 9223372036854775807) : ∃ b : Bool,
    (∀ (W : World) (gb : Nat), W.cell? ⟨gb, 0, none⟩ = some (.string S) → W.cell? ⟨gb, 1, none⟩ = some (.string T) → gb < W.heap.size → Calls Tryz.prog 11 #[.agg #[.string A, .string B], .slice (some ⟨gb, 0, none⟩) 2 2] W (Made W (.bool b))) ∧
    (b = true → A.size ≤ 8 ∧ B.size ≤ 10 ∧ S.size ≤ 20 ∧ T.size ≤ 20) := by
  have hx : ∀ k, k < 2 → (if k = 0 then S else T).size ≤ 9223372036854775807 := fun k _ => by split <;> assumption
  have hcs : ∀ (W : World) (gb : Nat), W.cell? ⟨gb, 0, none⟩ = some (.string S) → W.cell? ⟨gb, 1, none⟩ = some (.string T) → ∀ k, k < 2 → W.cell? ⟨gb, k, none⟩ = some (.string (if k = 0 then S else T)) := fun W gb c0 c1 k hk => by
    rcases (show k = 0 ∨ k = 1 by omega) with rfl | rfl
    · exact c0
    · exact c1
  by_cases h1 : 20 < S.size
  · exact ⟨false, fun W gb c0 c1 hg => few9 A B 2 0 (fun k => if k = 0 then S else T) gb false W hA hB hx (by decide) (by decide) (fun _ => ⟨h1, rfl⟩) (fun i hi => absurd hi (by omega)) (fun h => absurd h (by decide)) (hcs W gb c0 c1) hg, fun h => by cases h⟩
  · by_cases h2 : 20 < T.size
    · exact ⟨false, fun W gb c0 c1 hg => few9 A B 2 1 (fun k => if k = 0 then S else T) gb false W hA hB hx (by decide) (by decide) (fun _ => ⟨h2, rfl⟩) (fun i hi => by (have h9 : i = 0 := by omega); subst h9; exact Nat.le_of_not_lt h1) (fun h => absurd h (by decide)) (hcs W gb c0 c1) hg, fun h => by cases h⟩
    · refine ⟨_, fun W gb c0 c1 hg => few9 A B 2 2 (fun k => if k = 0 then S else T) gb _ W hA hB hx (by decide) (by decide) (fun h => absurd h (by omega)) (fun i hi => ?_) (fun _ => rfl) (hcs W gb c0 c1) hg, fun h => ?_⟩
      · rcases (show i = 0 ∨ i = 1 by omega) with rfl | rfl
        · exact Nat.le_of_not_lt h1
        · exact Nat.le_of_not_lt h2
      · simp only [Bool.and_eq_true, decide_eq_true_eq] at h
        exact ⟨h.1, h.2, by omega, by omega⟩
theorem few9_one (A B S : ByteArray) (hA : A.size ≤ 9223372036854775807) (hB : B.size ≤ 9223372036854775807) (hS : S.size ≤ 9223372036854775807) : ∃ b : Bool,
    (∀ (W : World) (gb : Nat), W.cell? ⟨gb, 0, none⟩ = some (.string S) → gb < W.heap.size → Calls Tryz.prog 11 #[.agg #[.string A, .string B], .slice (some ⟨gb, 0, none⟩) 1 1] W (Made W (.bool b))) ∧
    (b = true → A.size ≤ 8 ∧ B.size ≤ 10 ∧ S.size ≤ 20) := by
  have hcs : ∀ (W : World) (gb : Nat), W.cell? ⟨gb, 0, none⟩ = some (.string S) → ∀ k, k < 1 → W.cell? ⟨gb, k, none⟩ = some (.string S) := fun W gb c0 k hk => by
    obtain rfl : k = 0 := by omega
    exact c0
  by_cases h1 : 20 < S.size
  · exact ⟨false, fun W gb c0 hg => few9 A B 1 0 (fun _ => S) gb false W hA hB (fun _ _ => hS) (by decide) (by decide) (fun _ => ⟨h1, rfl⟩) (fun i hi => absurd hi (by omega)) (fun h => absurd h (by decide)) (hcs W gb c0) hg, fun h => by cases h⟩
  · refine ⟨_, fun W gb c0 hg => few9 A B 1 1 (fun _ => S) gb _ W hA hB (fun _ _ => hS) (by decide) (by decide) (fun h => absurd h (by omega)) (fun i hi => Nat.le_of_not_lt h1) (fun _ => rfl) (hcs W gb c0) hg, fun h => ?_⟩
    simp only [Bool.and_eq_true, decide_eq_true_eq] at h
    exact ⟨h.1, h.2, by omega⟩
end Go.Proofs.YtmiafkbjmkaebaaGreat

namespace Go.Proofs.YtmiafkbjmkaebaaGreat
open Go.RowKit Num

set_option maxHeartbeats 1000000 in
set_option maxRecDepth 100000 in
theorem rform_any (A B : ByteArray) (va vb : Bool) (w : World) (hA : A.size ≤ 9223372036854775807) (hB : B.size ≤ 9223372036854775807) (hva : validB A = va) (hvb : validB B = vb) :
    Calls Tryz.prog 28 #[.agg #[.string A, .string B]] w (Made w (.bool (va && vb))) := by
  have HA := Lib.hid (fun W => rvalid_any A W hA)
  have HB := Lib.hid (fun W => rvalid_any B W hB)
  rw [hva] at HA
  rw [hvb] at HB
  clear hva hvb hA hB
  have HV := (Below.refl w.heap.size w).alloc (Nat.le_refl _) (.cells #[.string A, .string B] 24)
  cases va
  · go_enter Tryz.func28, Tryz.ntmps28
    go_wp2_with fail
    refine (HA.out _).mono ?_
    rintro e u1 ⟨rfl, rfl⟩
    go_wp2
    go_ret
    exact ⟨rfl, HV⟩
  · cases vb
    all_goals
      go_enter Tryz.func28, Tryz.ntmps28
      go_wp2_with fail
      refine (HA.out _).mono ?_
      rintro e u1 ⟨rfl, rfl⟩
      go_wp2_with fail
      refine (HB.out _).mono ?_
      rintro e u2 ⟨rfl, rfl⟩
      go_wp2
      go_ret
      exact ⟨rfl, HV⟩
theorem rform_yes {p q : Nat} (hp : p < Top) (hq : q < Top) (w : World) : Calls Tryz.prog 28 #[.agg #[.string (bs p), .string (bs q)]] w (Made w (.bool true)) :=
  rform_any (bs p) (bs q) true true w (by have := bs_small hp; omega) (by have := bs_small hq; omega) (bs_valid hp) (bs_valid hq)
theorem rval {x : Nat} (hx : x < Top) (w : World) : Calls Tryz.prog 35 #[.string (bs x)] w (Same w (.bool true)) := by
  have h := rvalid_any (bs x) w (by have := bs_small hx; omega)
  rw [bs_valid hx] at h
  exact h
theorem rvalf {X : ByteArray} (hX : X.size ≤ 9223372036854775807) (h : validB X = false) (w : World) : Calls Tryz.prog 35 #[.string X] w (Same w (.bool false)) := by
  have h2 := rvalid_any X w hX
  rw [h] at h2
  exact h2
theorem rvalt {X : ByteArray} (hX : X.size ≤ 9223372036854775807) (h : validB X = true) (w : World) : Calls Tryz.prog 35 #[.string X] w (Same w (.bool true)) := by
  have h2 := rvalid_any X w hX
  rw [h] at h2
  exact h2

set_option maxHeartbeats 1000000 in
set_option maxRecDepth 100000 in
theorem rhas_no (A B X : ByteArray) (w : World) (hA : A.size ≤ 9223372036854775807) (hB : B.size ≤ 9223372036854775807) (hX : X.size ≤ 9223372036854775807) (h : (validB A && validB B && validB X) = false) :
    Calls Tryz.prog 13 #[.agg #[.string A, .string B], .string X] w (Made w (.bool false)) := by
  have HG := Lib.hid (fun W => rform_any A B _ _ W hA hB rfl rfl)
  rcases hg : (validB A && validB B) with _ | _
  · rw [hg] at HG
    clear hg h hA hB hX
    have HV : Below w.heap.size w (w.alloc (.cells #[.string A, .string B] 24)) := ((Below.refl w.heap.size w).alloc (Nat.le_refl _) (.cells #[.string A, .string B] 24))
    have K0 : Bk (w.alloc (.cells #[.string A, .string B] 24)) w.heap.size #[.string A, .string B] 24 := (Bk.new w #[.string A, .string B] 24)
    go_enter Tryz.func13, Tryz.ntmps13
    go_wp2_with fail
    refine (HG.out _).mono ?_
    rintro e u1 ⟨rfl, hb⟩
    replace HV := HV.trans (hb.mono HV.size)
    replace K0 := K0.below hb
    clear hb
    have c0_0 : u1.cell? ⟨w.heap.size, 0, none⟩ = some (.string A) := K0.cell 0
    have c0_1 : u1.cell? ⟨w.heap.size, 1, none⟩ = some (.string B) := K0.cell 1
    have l0 := K0.lt
    go_wp2
    go_ret
    exact ⟨rfl, HV⟩
  · rw [hg] at HG h
    have HX := Lib.hid (rvalf hX (by simpa using h))
    clear hg h hA hB hX
    have HV : Below w.heap.size w (w.alloc (.cells #[.string A, .string B] 24)) := ((Below.refl w.heap.size w).alloc (Nat.le_refl _) (.cells #[.string A, .string B] 24))
    have K0 : Bk (w.alloc (.cells #[.string A, .string B] 24)) w.heap.size #[.string A, .string B] 24 := (Bk.new w #[.string A, .string B] 24)
    go_enter Tryz.func13, Tryz.ntmps13
    go_wp2_with fail
    refine (HG.out _).mono ?_
    rintro e u1 ⟨rfl, hb⟩
    replace HV := HV.trans (hb.mono HV.size)
    replace K0 := K0.below hb
    clear hb
    have c0_0 : u1.cell? ⟨w.heap.size, 0, none⟩ = some (.string A) := K0.cell 0
    have c0_1 : u1.cell? ⟨w.heap.size, 1, none⟩ = some (.string B) := K0.cell 1
    have l0 := K0.lt
    go_wp2_with fail
    refine (HX.out _).mono ?_
    rintro e s2 ⟨rfl, rfl⟩
    go_wp2
    go_ret
    exact ⟨rfl, HV⟩
set_option maxHeartbeats 2000000 in
set_option maxRecDepth 100000 in
theorem rhas_ok (p q x : Nat) (w : World) (hp : p < 256 ^ 8) (hq : q < Top) (hx : x < Top) :
    Calls Tryz.prog 13 #[.agg #[.string (bs p), .string (bs q)], .string (bs x)] w (Made w (.bool (hasN p q x))) := by
  have hT : p < Top := lt_topk hp (by decide)
  have HG := Lib.hid (fun W => rform_yes hT hq W)
  have HX := Lib.hid (rval hx)
  have e1 : (bs q).toList.isEmpty = (q == 0) := bs_isEmpty q
  have e2 : (bs x).toList.isEmpty = (x == 0) := bs_isEmpty x
  by_cases h0 : q = 0
  · rw [show hasN p q x = false from by unfold hasN; simp [h0]]
    rw [show (q == 0) = true from by simp [h0]] at e1
    clear hp hq hx e2 h0 hT
    have HV : Below w.heap.size w (w.alloc (.cells #[.string (bs p), .string (bs q)] 24)) := ((Below.refl w.heap.size w).alloc (Nat.le_refl _) (.cells #[.string (bs p), .string (bs q)] 24))
    have K0 : Bk (w.alloc (.cells #[.string (bs p), .string (bs q)] 24)) w.heap.size #[.string (bs p), .string (bs q)] 24 := (Bk.new w #[.string (bs p), .string (bs q)] 24)
    go_enter Tryz.func13, Tryz.ntmps13
    go_wp2_with fail
    refine (HG.out _).mono ?_
    rintro e u1 ⟨rfl, hb⟩
    replace HV := HV.trans (hb.mono HV.size)
    replace K0 := K0.below hb
    clear hb
    have c0_0 : u1.cell? ⟨w.heap.size, 0, none⟩ = some (.string (bs p)) := K0.cell 0
    have c0_1 : u1.cell? ⟨w.heap.size, 1, none⟩ = some (.string (bs q)) := K0.cell 1
    have l0 := K0.lt
    go_wp2_with fail
    refine (HX.out _).mono ?_
    rintro e s2 ⟨rfl, rfl⟩
    go_wp2
    go_ret
    exact ⟨rfl, HV⟩
  · rw [show (q == 0) = false from by simp [h0]] at e1
    by_cases h1 : x = 0
    · rw [show hasN p q x = false from by unfold hasN; simp [h1]]
      rw [show (x == 0) = true from by simp [h1]] at e2
      clear hp hq hx h0 h1 hT
      have HV : Below w.heap.size w (w.alloc (.cells #[.string (bs p), .string (bs q)] 24)) := ((Below.refl w.heap.size w).alloc (Nat.le_refl _) (.cells #[.string (bs p), .string (bs q)] 24))
      have K0 : Bk (w.alloc (.cells #[.string (bs p), .string (bs q)] 24)) w.heap.size #[.string (bs p), .string (bs q)] 24 := (Bk.new w #[.string (bs p), .string (bs q)] 24)
      go_enter Tryz.func13, Tryz.ntmps13
      go_wp2_with fail
      refine (HG.out _).mono ?_
      rintro e u1 ⟨rfl, hb⟩
      replace HV := HV.trans (hb.mono HV.size)
      replace K0 := K0.below hb
      clear hb
      have c0_0 : u1.cell? ⟨w.heap.size, 0, none⟩ = some (.string (bs p)) := K0.cell 0
      have c0_1 : u1.cell? ⟨w.heap.size, 1, none⟩ = some (.string (bs q)) := K0.cell 1
      have l0 := K0.lt
      go_wp2_with fail
      refine (HX.out _).mono ?_
      rintro e s2 ⟨rfl, rfl⟩
      go_wp2
      go_ret
      exact ⟨rfl, HV⟩
    · rw [show (x == 0) = false from by simp [h1]] at e2
      have HC := Lib.hid (fun W => order_any x p W (by have := bs_small hx; omega))
      by_cases h2 : x < p
      · rw [show cmpN x p = -1 from by unfold cmpN; simp [h2]] at HC
        have HE := Lib.hid (fun W => rExp_ok x q p W hx hq (by omega) hp)
        have e3 : ((bs (x ^ q % p)).toList == (bs 1).toList) = (x ^ q % p == 1) := bs_beq _ _
        rw [show bs 1 = (⟨#[1]⟩ : ByteArray) from bs_one] at e3
        rcases hb : (x ^ q % p == 1) with _ | _
        · rw [show hasN p q x = false from by unfold hasN; simp at hb; simp [hb]]
          rw [hb] at e3
          have e4 : ((bs (x ^ q % p)).toList == [1]) = false := by simpa using e3
          clear hp hq hx hb h0 h1 h2 hT
          have HV : Below w.heap.size w (w.alloc (.cells #[.string (bs p), .string (bs q)] 24)) := ((Below.refl w.heap.size w).alloc (Nat.le_refl _) (.cells #[.string (bs p), .string (bs q)] 24))
          have K0 : Bk (w.alloc (.cells #[.string (bs p), .string (bs q)] 24)) w.heap.size #[.string (bs p), .string (bs q)] 24 := (Bk.new w #[.string (bs p), .string (bs q)] 24)
          go_enter Tryz.func13, Tryz.ntmps13
          go_wp2_with fail
          refine (HG.out _).mono ?_
          rintro e u1 ⟨rfl, hb⟩
          replace HV := HV.trans (hb.mono HV.size)
          replace K0 := K0.below hb
          clear hb
          have c0_0 : u1.cell? ⟨w.heap.size, 0, none⟩ = some (.string (bs p)) := K0.cell 0
          have c0_1 : u1.cell? ⟨w.heap.size, 1, none⟩ = some (.string (bs q)) := K0.cell 1
          have l0 := K0.lt
          go_wp2_with fail
          refine (HX.out _).mono ?_
          rintro e s2 ⟨rfl, rfl⟩
          go_wp2_with fail
          refine (HC.out _).mono ?_
          rintro e u3 ⟨rfl, hb⟩
          replace HV := HV.trans (hb.mono HV.size)
          replace K0 := K0.below hb
          clear hb
          clear c0_0 c0_1 l0
          have c0_0 : u3.cell? ⟨w.heap.size, 0, none⟩ = some (.string (bs p)) := K0.cell 0
          have c0_1 : u3.cell? ⟨w.heap.size, 1, none⟩ = some (.string (bs q)) := K0.cell 1
          have l0 := K0.lt
          go_wp2_with fail
          refine (HE.out _).mono ?_
          rintro e u4 ⟨rfl, hb⟩
          replace HV := HV.trans (hb.mono HV.size)
          replace K0 := K0.below hb
          clear hb
          clear c0_0 c0_1 l0
          have c0_0 : u4.cell? ⟨w.heap.size, 0, none⟩ = some (.string (bs p)) := K0.cell 0
          have c0_1 : u4.cell? ⟨w.heap.size, 1, none⟩ = some (.string (bs q)) := K0.cell 1
          have l0 := K0.lt
          go_wp2
          go_ret
          exact ⟨rfl, HV⟩
        · rw [show hasN p q x = true from by unfold hasN; simp at hb; simp [hb, h0, h1, h2]]
          rw [hb] at e3
          have e4 : ((bs (x ^ q % p)).toList == [1]) = true := by simpa using e3
          clear hp hq hx hb h0 h1 h2 hT
          have HV : Below w.heap.size w (w.alloc (.cells #[.string (bs p), .string (bs q)] 24)) := ((Below.refl w.heap.size w).alloc (Nat.le_refl _) (.cells #[.string (bs p), .string (bs q)] 24))
          have K0 : Bk (w.alloc (.cells #[.string (bs p), .string (bs q)] 24)) w.heap.size #[.string (bs p), .string (bs q)] 24 := (Bk.new w #[.string (bs p), .string (bs q)] 24)
          go_enter Tryz.func13, Tryz.ntmps13
          go_wp2_with fail
          refine (HG.out _).mono ?_
          rintro e u1 ⟨rfl, hb⟩
          replace HV := HV.trans (hb.mono HV.size)
          replace K0 := K0.below hb
          clear hb
          have c0_0 : u1.cell? ⟨w.heap.size, 0, none⟩ = some (.string (bs p)) := K0.cell 0
          have c0_1 : u1.cell? ⟨w.heap.size, 1, none⟩ = some (.string (bs q)) := K0.cell 1
          have l0 := K0.lt
          go_wp2_with fail
          refine (HX.out _).mono ?_
          rintro e s2 ⟨rfl, rfl⟩
          go_wp2_with fail
          refine (HC.out _).mono ?_
          rintro e u3 ⟨rfl, hb⟩
          replace HV := HV.trans (hb.mono HV.size)
          replace K0 := K0.below hb
          clear hb
          clear c0_0 c0_1 l0
          have c0_0 : u3.cell? ⟨w.heap.size, 0, none⟩ = some (.string (bs p)) := K0.cell 0
          have c0_1 : u3.cell? ⟨w.heap.size, 1, none⟩ = some (.string (bs q)) := K0.cell 1
          have l0 := K0.lt
          go_wp2_with fail
          refine (HE.out _).mono ?_
          rintro e u4 ⟨rfl, hb⟩
          replace HV := HV.trans (hb.mono HV.size)
          replace K0 := K0.below hb
          clear hb
          clear c0_0 c0_1 l0
          have c0_0 : u4.cell? ⟨w.heap.size, 0, none⟩ = some (.string (bs p)) := K0.cell 0
          have c0_1 : u4.cell? ⟨w.heap.size, 1, none⟩ = some (.string (bs q)) := K0.cell 1
          have l0 := K0.lt
          go_wp2
          go_ret
          exact ⟨rfl, HV⟩
      · rw [show hasN p q x = false from by unfold hasN; simp [h2]]
        rcases (show p < x ∨ x = p by omega) with h3 | h3
        · rw [show cmpN x p = 1 from by unfold cmpN; simp [h2, h3]] at HC
          clear hp hq hx h0 h1 h2 h3 hT
          have HV : Below w.heap.size w (w.alloc (.cells #[.string (bs p), .string (bs q)] 24)) := ((Below.refl w.heap.size w).alloc (Nat.le_refl _) (.cells #[.string (bs p), .string (bs q)] 24))
          have K0 : Bk (w.alloc (.cells #[.string (bs p), .string (bs q)] 24)) w.heap.size #[.string (bs p), .string (bs q)] 24 := (Bk.new w #[.string (bs p), .string (bs q)] 24)
          go_enter Tryz.func13, Tryz.ntmps13
          go_wp2_with fail
          refine (HG.out _).mono ?_
          rintro e u1 ⟨rfl, hb⟩
          replace HV := HV.trans (hb.mono HV.size)
          replace K0 := K0.below hb
          clear hb
          have c0_0 : u1.cell? ⟨w.heap.size, 0, none⟩ = some (.string (bs p)) := K0.cell 0
          have c0_1 : u1.cell? ⟨w.heap.size, 1, none⟩ = some (.string (bs q)) := K0.cell 1
          have l0 := K0.lt
          go_wp2_with fail
          refine (HX.out _).mono ?_
          rintro e s2 ⟨rfl, rfl⟩
          go_wp2_with fail
          refine (HC.out _).mono ?_
          rintro e u3 ⟨rfl, hb⟩
          replace HV := HV.trans (hb.mono HV.size)
          replace K0 := K0.below hb
          clear hb
          clear c0_0 c0_1 l0
          have c0_0 : u3.cell? ⟨w.heap.size, 0, none⟩ = some (.string (bs p)) := K0.cell 0
          have c0_1 : u3.cell? ⟨w.heap.size, 1, none⟩ = some (.string (bs q)) := K0.cell 1
          have l0 := K0.lt
          go_wp2
          go_ret
          exact ⟨rfl, HV⟩
        · rw [show cmpN x p = 0 from by unfold cmpN; simp [h3]] at HC
          clear hp hq hx h0 h1 h2 h3 hT
          have HV : Below w.heap.size w (w.alloc (.cells #[.string (bs p), .string (bs q)] 24)) := ((Below.refl w.heap.size w).alloc (Nat.le_refl _) (.cells #[.string (bs p), .string (bs q)] 24))
          have K0 : Bk (w.alloc (.cells #[.string (bs p), .string (bs q)] 24)) w.heap.size #[.string (bs p), .string (bs q)] 24 := (Bk.new w #[.string (bs p), .string (bs q)] 24)
          go_enter Tryz.func13, Tryz.ntmps13
          go_wp2_with fail
          refine (HG.out _).mono ?_
          rintro e u1 ⟨rfl, hb⟩
          replace HV := HV.trans (hb.mono HV.size)
          replace K0 := K0.below hb
          clear hb
          have c0_0 : u1.cell? ⟨w.heap.size, 0, none⟩ = some (.string (bs p)) := K0.cell 0
          have c0_1 : u1.cell? ⟨w.heap.size, 1, none⟩ = some (.string (bs q)) := K0.cell 1
          have l0 := K0.lt
          go_wp2_with fail
          refine (HX.out _).mono ?_
          rintro e s2 ⟨rfl, rfl⟩
          go_wp2_with fail
          refine (HC.out _).mono ?_
          rintro e u3 ⟨rfl, hb⟩
          replace HV := HV.trans (hb.mono HV.size)
          replace K0 := K0.below hb
          clear hb
          clear c0_0 c0_1 l0
          have c0_0 : u3.cell? ⟨w.heap.size, 0, none⟩ = some (.string (bs p)) := K0.cell 0
          have c0_1 : u3.cell? ⟨w.heap.size, 1, none⟩ = some (.string (bs q)) := K0.cell 1
          have l0 := K0.lt
          go_wp2
          go_ret
          exact ⟨rfl, HV⟩

set_option maxHeartbeats 1000000 in
set_option maxRecDepth 100000 in
theorem risgen_false (A B X : ByteArray) (w : World) (h : ∀ w, Calls Tryz.prog 13 #[.agg #[.string A, .string B], .string X] w (Made w (.bool false))) :
    Calls Tryz.prog 15 #[.agg #[.string A, .string B], .string X] w (Made w (.bool false)) := by
  have HH := Lib.hid h
  clear h
  have HV : Below w.heap.size w (w.alloc (.cells #[.string A, .string B] 24)) := ((Below.refl w.heap.size w).alloc (Nat.le_refl _) (.cells #[.string A, .string B] 24))
  have K0 : Bk (w.alloc (.cells #[.string A, .string B] 24)) w.heap.size #[.string A, .string B] 24 := (Bk.new w #[.string A, .string B] 24)
  go_enter Tryz.func15, Tryz.ntmps15
  go_wp2_with fail
  refine (HH.out _).mono ?_
  rintro e u1 ⟨rfl, hb⟩
  replace HV := HV.trans (hb.mono HV.size)
  replace K0 := K0.below hb
  clear hb
  have c0_0 : u1.cell? ⟨w.heap.size, 0, none⟩ = some (.string A) := K0.cell 0
  have c0_1 : u1.cell? ⟨w.heap.size, 1, none⟩ = some (.string B) := K0.cell 1
  have l0 := K0.lt
  go_wp2
  go_ret
  exact ⟨rfl, HV⟩
set_option maxHeartbeats 1000000 in
set_option maxRecDepth 100000 in
theorem risgen_ok (p q x : Nat) (w : World) (hp : p < 256 ^ 8) (hq : q < Top) (hx : x < Top) :
    Calls Tryz.prog 15 #[.agg #[.string (bs p), .string (bs q)], .string (bs x)] w (Made w (.bool (hasN p q x && (x != 1)))) := by
  rcases hh : hasN p q x with _ | _
  · exact risgen_false _ _ _ w (fun W => by have := rhas_ok p q x W hp hq hx; rwa [hh] at this)
  · have HH : Hid (∀ W, Calls Tryz.prog 13 #[.agg #[.string (bs p), .string (bs q)], .string (bs x)] W (Made W (.bool true))) := Lib.hid (fun W => by have := rhas_ok p q x W hp hq hx; rwa [hh] at this)
    have e3 : ((bs x).toList == (bs 1).toList) = (x == 1) := bs_beq _ _
    rw [show bs 1 = (⟨#[1]⟩ : ByteArray) from bs_one] at e3
    have e4 : (true && (x != 1)) = !(x == 1) := by cases h : (x == 1) <;> simp [bne, h]
    rw [e4]
    clear hp hq hx hh
    rcases hb : (x == 1) with _ | _
    · rw [hb] at e3
      have e5 : ((bs x).toList == [1]) = false := by simpa using e3
      clear hb e4
      have HV : Below w.heap.size w (w.alloc (.cells #[.string (bs p), .string (bs q)] 24)) := ((Below.refl w.heap.size w).alloc (Nat.le_refl _) (.cells #[.string (bs p), .string (bs q)] 24))
      have K0 : Bk (w.alloc (.cells #[.string (bs p), .string (bs q)] 24)) w.heap.size #[.string (bs p), .string (bs q)] 24 := (Bk.new w #[.string (bs p), .string (bs q)] 24)
      go_enter Tryz.func15, Tryz.ntmps15
      go_wp2_with fail
      refine (HH.out _).mono ?_
      rintro e u1 ⟨rfl, hb⟩
      replace HV := HV.trans (hb.mono HV.size)
      replace K0 := K0.below hb
      clear hb
      have c0_0 : u1.cell? ⟨w.heap.size, 0, none⟩ = some (.string (bs p)) := K0.cell 0
      have c0_1 : u1.cell? ⟨w.heap.size, 1, none⟩ = some (.string (bs q)) := K0.cell 1
      have l0 := K0.lt
      go_wp2
      go_ret
      exact ⟨rfl, HV⟩
    · rw [hb] at e3
      have e5 : ((bs x).toList == [1]) = true := by simpa using e3
      clear hb e4
      have HV : Below w.heap.size w (w.alloc (.cells #[.string (bs p), .string (bs q)] 24)) := ((Below.refl w.heap.size w).alloc (Nat.le_refl _) (.cells #[.string (bs p), .string (bs q)] 24))
      have K0 : Bk (w.alloc (.cells #[.string (bs p), .string (bs q)] 24)) w.heap.size #[.string (bs p), .string (bs q)] 24 := (Bk.new w #[.string (bs p), .string (bs q)] 24)
      go_enter Tryz.func15, Tryz.ntmps15
      go_wp2_with fail
      refine (HH.out _).mono ?_
      rintro e u1 ⟨rfl, hb⟩
      replace HV := HV.trans (hb.mono HV.size)
      replace K0 := K0.below hb
      clear hb
      have c0_0 : u1.cell? ⟨w.heap.size, 0, none⟩ = some (.string (bs p)) := K0.cell 0
      have c0_1 : u1.cell? ⟨w.heap.size, 1, none⟩ = some (.string (bs q)) := K0.cell 1
      have l0 := K0.lt
      go_wp2
      go_ret
      exact ⟨rfl, HV⟩
set_option maxHeartbeats 1000000 in
set_option maxRecDepth 100000 in
theorem rmul9_form (A B S T : ByteArray) (w : World) (hA : A.size ≤ 9223372036854775807) (hB : B.size ≤ 9223372036854775807) (hS : S.size ≤ 9223372036854775807) (hT : T.size ≤ 9223372036854775807) (h : (validB A && validB B && validB S && validB T) = false) :
    Calls Tryz.prog 17 #[.agg #[.string A, .string B], .string S, .string T] w (Made w (.tuple #[.string ⟨#[]⟩, .int .i64 3])) := by
  have HG := Lib.hid (fun W => rform_any A B _ _ W hA hB rfl rfl)
  rcases hg : (validB A && validB B) with _ | _
  · rw [hg] at HG
    clear hg h hA hB hS hT
    have HV : Below w.heap.size w (w.alloc (.cells #[.string A, .string B] 24)) := ((Below.refl w.heap.size w).alloc (Nat.le_refl _) (.cells #[.string A, .string B] 24))
    have K0 : Bk (w.alloc (.cells #[.string A, .string B] 24)) w.heap.size #[.string A, .string B] 24 := (Bk.new w #[.string A, .string B] 24)
    go_enter Tryz.func17, Tryz.ntmps17
    go_wp2_with fail
    refine (HG.out _).mono ?_
    rintro e u1 ⟨rfl, hb⟩
    replace HV := HV.trans (hb.mono HV.size)
    replace K0 := K0.below hb
    clear hb
    have c0_0 : u1.cell? ⟨w.heap.size, 0, none⟩ = some (.string A) := K0.cell 0
    have c0_1 : u1.cell? ⟨w.heap.size, 1, none⟩ = some (.string B) := K0.cell 1
    have l0 := K0.lt
    go_wp2
    go_ret2
    exact ⟨rfl, HV⟩
  · rw [hg] at HG h
    rcases hs : validB S with _ | _
    · have HVS := Lib.hid (rvalf hS hs)
      clear hg h hA hB hS hT hs
      have HV : Below w.heap.size w (w.alloc (.cells #[.string A, .string B] 24)) := ((Below.refl w.heap.size w).alloc (Nat.le_refl _) (.cells #[.string A, .string B] 24))
      have K0 : Bk (w.alloc (.cells #[.string A, .string B] 24)) w.heap.size #[.string A, .string B] 24 := (Bk.new w #[.string A, .string B] 24)
      go_enter Tryz.func17, Tryz.ntmps17
      go_wp2_with fail
      refine (HG.out _).mono ?_
      rintro e u1 ⟨rfl, hb⟩
      replace HV := HV.trans (hb.mono HV.size)
      replace K0 := K0.below hb
      clear hb
      have c0_0 : u1.cell? ⟨w.heap.size, 0, none⟩ = some (.string A) := K0.cell 0
      have c0_1 : u1.cell? ⟨w.heap.size, 1, none⟩ = some (.string B) := K0.cell 1
      have l0 := K0.lt
      go_wp2_with fail
      refine (HVS.out _).mono ?_
      rintro e s2 ⟨rfl, rfl⟩
      go_wp2
      go_ret2
      exact ⟨rfl, HV⟩
    · have HVS := Lib.hid (rvalt hS hs)
      have HVT := Lib.hid (rvalf hT (by simpa [hs] using h))
      clear hg h hA hB hS hT hs
      have HV : Below w.heap.size w (w.alloc (.cells #[.string A, .string B] 24)) := ((Below.refl w.heap.size w).alloc (Nat.le_refl _) (.cells #[.string A, .string B] 24))
      have K0 : Bk (w.alloc (.cells #[.string A, .string B] 24)) w.heap.size #[.string A, .string B] 24 := (Bk.new w #[.string A, .string B] 24)
      go_enter Tryz.func17, Tryz.ntmps17
      go_wp2_with fail
      refine (HG.out _).mono ?_
      rintro e u1 ⟨rfl, hb⟩
      replace HV := HV.trans (hb.mono HV.size)
      replace K0 := K0.below hb
      clear hb
      have c0_0 : u1.cell? ⟨w.heap.size, 0, none⟩ = some (.string A) := K0.cell 0
      have c0_1 : u1.cell? ⟨w.heap.size, 1, none⟩ = some (.string B) := K0.cell 1
      have l0 := K0.lt
      go_wp2_with fail
      refine (HVS.out _).mono ?_
      rintro e s2 ⟨rfl, rfl⟩
      go_wp2_with fail
      refine (HVT.out _).mono ?_
      rintro e s3 ⟨rfl, rfl⟩
      go_wp2
      go_ret2
      exact ⟨rfl, HV⟩
set_option maxHeartbeats 1000000 in
set_option maxRecDepth 100000 in
theorem rmul9_grp (A B S T : ByteArray) (w : World) (hA : A.size ≤ 9223372036854775807) (hB : B.size ≤ 9223372036854775807) (hS : S.size ≤ 9223372036854775807) (hT : T.size ≤ 9223372036854775807) (h : (validB A && validB B && validB S && validB T) = true)
    (hh : (∀ W, Calls Tryz.prog 13 #[.agg #[.string A, .string B], .string S] W (Made W (.bool false))) ∨ ((∀ W, Calls Tryz.prog 13 #[.agg #[.string A, .string B], .string S] W (Made W (.bool true))) ∧ ∀ W, Calls Tryz.prog 13 #[.agg #[.string A, .string B], .string T] W (Made W (.bool false)))) :
    Calls Tryz.prog 17 #[.agg #[.string A, .string B], .string S, .string T] w (Made w (.tuple #[.string ⟨#[]⟩, .int .i64 13])) := by
  simp only [Bool.and_eq_true] at h
  obtain ⟨⟨⟨h1, h2⟩, h3⟩, h4⟩ := h
  have HG := Lib.hid (fun W => rform_any A B true true W hA hB h1 h2)
  have HVS := Lib.hid (rvalt hS h3)
  have HVT := Lib.hid (rvalt hT h4)
  clear hA hB hS hT h1 h2 h3 h4
  rcases hh with hh | ⟨h1, h2⟩
  · have H1 := Lib.hid hh
    clear hh
    have HV : Below w.heap.size w (w.alloc (.cells #[.string A, .string B] 24)) := ((Below.refl w.heap.size w).alloc (Nat.le_refl _) (.cells #[.string A, .string B] 24))
    have K0 : Bk (w.alloc (.cells #[.string A, .string B] 24)) w.heap.size #[.string A, .string B] 24 := (Bk.new w #[.string A, .string B] 24)
    go_enter Tryz.func17, Tryz.ntmps17
    go_wp2_with fail
    refine (HG.out _).mono ?_
    rintro e u1 ⟨rfl, hb⟩
    replace HV := HV.trans (hb.mono HV.size)
    replace K0 := K0.below hb
    clear hb
    have c0_0 : u1.cell? ⟨w.heap.size, 0, none⟩ = some (.string A) := K0.cell 0
    have c0_1 : u1.cell? ⟨w.heap.size, 1, none⟩ = some (.string B) := K0.cell 1
    have l0 := K0.lt
    go_wp2_with fail
    refine (HVS.out _).mono ?_
    rintro e s2 ⟨rfl, rfl⟩
    go_wp2_with fail
    refine (HVT.out _).mono ?_
    rintro e s3 ⟨rfl, rfl⟩
    go_wp2_with fail
    refine (H1.out _).mono ?_
    rintro e u13 ⟨rfl, hb⟩
    replace HV := HV.trans (hb.mono HV.size)
    replace K0 := K0.below hb
    clear hb
    clear c0_0 c0_1 l0
    have c0_0 : u13.cell? ⟨w.heap.size, 0, none⟩ = some (.string A) := K0.cell 0
    have c0_1 : u13.cell? ⟨w.heap.size, 1, none⟩ = some (.string B) := K0.cell 1
    have l0 := K0.lt
    go_wp2
    go_ret2
    exact ⟨rfl, HV⟩
  · have H1 := Lib.hid h1
    have H2 := Lib.hid h2
    clear h1 h2
    have HV : Below w.heap.size w (w.alloc (.cells #[.string A, .string B] 24)) := ((Below.refl w.heap.size w).alloc (Nat.le_refl _) (.cells #[.string A, .string B] 24))
    have K0 : Bk (w.alloc (.cells #[.string A, .string B] 24)) w.heap.size #[.string A, .string B] 24 := (Bk.new w #[.string A, .string B] 24)
    go_enter Tryz.func17, Tryz.ntmps17
    go_wp2_with fail
    refine (HG.out _).mono ?_
    rintro e u1 ⟨rfl, hb⟩
    replace HV := HV.trans (hb.mono HV.size)
    replace K0 := K0.below hb
    clear hb
    have c0_0 : u1.cell? ⟨w.heap.size, 0, none⟩ = some (.string A) := K0.cell 0
    have c0_1 : u1.cell? ⟨w.heap.size, 1, none⟩ = some (.string B) := K0.cell 1
    have l0 := K0.lt
    go_wp2_with fail
    refine (HVS.out _).mono ?_
    rintro e s2 ⟨rfl, rfl⟩
    go_wp2_with fail
    refine (HVT.out _).mono ?_
    rintro e s3 ⟨rfl, rfl⟩
    go_wp2_with fail
    refine (H1.out _).mono ?_
    rintro e u13 ⟨rfl, hb⟩
    replace HV := HV.trans (hb.mono HV.size)
    replace K0 := K0.below hb
    clear hb
    clear c0_0 c0_1 l0
    have c0_0 : u13.cell? ⟨w.heap.size, 0, none⟩ = some (.string A) := K0.cell 0
    have c0_1 : u13.cell? ⟨w.heap.size, 1, none⟩ = some (.string B) := K0.cell 1
    have l0 := K0.lt
    go_wp2_with fail
    refine (H2.out _).mono ?_
    rintro e u14 ⟨rfl, hb⟩
    replace HV := HV.trans (hb.mono HV.size)
    replace K0 := K0.below hb
    clear hb
    clear c0_0 c0_1 l0
    have c0_0 : u14.cell? ⟨w.heap.size, 0, none⟩ = some (.string A) := K0.cell 0
    have c0_1 : u14.cell? ⟨w.heap.size, 1, none⟩ = some (.string B) := K0.cell 1
    have l0 := K0.lt
    go_wp2
    go_ret2
    exact ⟨rfl, HV⟩
set_option maxHeartbeats 1000000 in
set_option maxRecDepth 100000 in
theorem rmul9_ok (A B S T R : ByteArray) (w : World) (hA : A.size ≤ 9223372036854775807) (hB : B.size ≤ 9223372036854775807) (hS : S.size ≤ 9223372036854775807) (hT : T.size ≤ 9223372036854775807) (h : (validB A && validB B && validB S && validB T) = true)
    (hh1 : ∀ W, Calls Tryz.prog 13 #[.agg #[.string A, .string B], .string S] W (Made W (.bool true))) (hh2 : ∀ W, Calls Tryz.prog 13 #[.agg #[.string A, .string B], .string T] W (Made W (.bool true))) (hm : ∀ W, Calls Tryz.prog 40 #[.string S, .string T, .string A] W (Made W (.tuple #[.string R, .int .i64 0]))) :
    Calls Tryz.prog 17 #[.agg #[.string A, .string B], .string S, .string T] w (Made w (.tuple #[.string R, .int .i64 0])) := by
  simp only [Bool.and_eq_true] at h
  obtain ⟨⟨⟨h1, h2⟩, h3⟩, h4⟩ := h
  have HG := Lib.hid (fun W => rform_any A B true true W hA hB h1 h2)
  have HVS := Lib.hid (rvalt hS h3)
  have HVT := Lib.hid (rvalt hT h4)
  have H1 := Lib.hid hh1
  have H2 := Lib.hid hh2
  have HM := Lib.hid hm
  clear hA hB hS hT h1 h2 h3 h4 hh1 hh2 hm
  have HV : Below w.heap.size w (w.alloc (.cells #[.string A, .string B] 24)) := ((Below.refl w.heap.size w).alloc (Nat.le_refl _) (.cells #[.string A, .string B] 24))
  have K0 : Bk (w.alloc (.cells #[.string A, .string B] 24)) w.heap.size #[.string A, .string B] 24 := (Bk.new w #[.string A, .string B] 24)
  go_enter Tryz.func17, Tryz.ntmps17
  go_wp2_with fail
  refine (HG.out _).mono ?_
  rintro e u1 ⟨rfl, hb⟩
  replace HV := HV.trans (hb.mono HV.size)
  replace K0 := K0.below hb
  clear hb
  have c0_0 : u1.cell? ⟨w.heap.size, 0, none⟩ = some (.string A) := K0.cell 0
  have c0_1 : u1.cell? ⟨w.heap.size, 1, none⟩ = some (.string B) := K0.cell 1
  have l0 := K0.lt
  go_wp2_with fail
  refine (HVS.out _).mono ?_
  rintro e s2 ⟨rfl, rfl⟩
  go_wp2_with fail
  refine (HVT.out _).mono ?_
  rintro e s3 ⟨rfl, rfl⟩
  go_wp2_with fail
  refine (H1.out _).mono ?_
  rintro e u13 ⟨rfl, hb⟩
  replace HV := HV.trans (hb.mono HV.size)
  replace K0 := K0.below hb
  clear hb
  clear c0_0 c0_1 l0
  have c0_0 : u13.cell? ⟨w.heap.size, 0, none⟩ = some (.string A) := K0.cell 0
  have c0_1 : u13.cell? ⟨w.heap.size, 1, none⟩ = some (.string B) := K0.cell 1
  have l0 := K0.lt
  go_wp2_with fail
  refine (H2.out _).mono ?_
  rintro e u14 ⟨rfl, hb⟩
  replace HV := HV.trans (hb.mono HV.size)
  replace K0 := K0.below hb
  clear hb
  clear c0_0 c0_1 l0
  have c0_0 : u14.cell? ⟨w.heap.size, 0, none⟩ = some (.string A) := K0.cell 0
  have c0_1 : u14.cell? ⟨w.heap.size, 1, none⟩ = some (.string B) := K0.cell 1
  have l0 := K0.lt
  go_wp2_with fail
  refine (HM.out _).mono ?_
  rintro e u15 ⟨rfl, hb⟩
  replace HV := HV.trans (hb.mono HV.size)
  replace K0 := K0.below hb
  clear hb
  clear c0_0 c0_1 l0
  have c0_0 : u15.cell? ⟨w.heap.size, 0, none⟩ = some (.string A) := K0.cell 0
  have c0_1 : u15.cell? ⟨w.heap.size, 1, none⟩ = some (.string B) := K0.cell 1
  have l0 := K0.lt
  go_wp2
  go_ret2
  exact ⟨rfl, HV⟩

end Go.Proofs.YtmiafkbjmkaebaaGreat

namespace Go.Proofs.YtmiafkbjmkaebaaGreat
open Go.RowKit Num

theorem pow_red {a p q : Nat} (h : a ^ q % p = 1) (k : Nat) : a ^ (k % q) % p = a ^ k % p := by
  have hp : 1 % p = 1 := by rw [← h, Nat.mod_mod]
  conv => rhs; rw [← Nat.div_add_mod k q, Nat.pow_add, Nat.pow_mul, Nat.mul_mod, Nat.pow_mod, h, Nat.one_pow, hp, Nat.one_mul, Nat.mod_mod]
theorem pow_neg {a p q X : Nat} (h : a ^ q % p = 1) (hX : a * X % p = 1 % p) (k m : Nat) (hm : (k + m) % q = 0) : a ^ m % p = X ^ k % p := by
  have hp : 1 % p = 1 := by rw [← h, Nat.mod_mod]
  have h1 : a ^ k * a ^ m % p = 1 := by
    rw [← Nat.pow_add, ← pow_red h, hm, Nat.pow_zero, hp]
  have h2 : a ^ k * X ^ k % p = 1 := by
    rw [← Nat.mul_pow, Nat.pow_mod, hX, hp, Nat.one_pow, hp]
  have h3 : X ^ k * (a ^ k * a ^ m) % p = X ^ k % p := by rw [Nat.mul_mod, h1, Nat.mul_one, Nat.mod_mod]
  have h4 : a ^ m * (a ^ k * X ^ k) % p = a ^ m % p := by rw [Nat.mul_mod, h2, Nat.mul_one, Nat.mod_mod]
  rw [← h4, ← h3]
  congr 1
  rw [← Nat.mul_assoc, Nat.mul_comm (a ^ m), Nat.mul_comm (a ^ k * a ^ m)]

set_option maxHeartbeats 1000000 in
set_option maxRecDepth 100000 in
theorem rpow9_form (A B S E : ByteArray) (f : Bool) (w : World) (hA : A.size ≤ 9223372036854775807) (hB : B.size ≤ 9223372036854775807) (hS : S.size ≤ 9223372036854775807) (hE : E.size ≤ 9223372036854775807) (h : (validB A && validB B && validB S && vI f E) = false) :
    Calls Tryz.prog 19 #[.agg #[.string A, .string B], .string S, .agg #[.bool f, .string E]] w (Made w (.tuple #[.string ⟨#[]⟩, .int .i64 3])) := by
  have HG := Lib.hid (fun W => rform_any A B _ _ W hA hB rfl rfl)
  rcases hg : (validB A && validB B) with _ | _
  · rw [hg] at HG
    clear hg h hA hB hS hE
    have HV : Below w.heap.size w ((w.alloc (.cells #[.string A, .string B] 24)).alloc (.cells #[.bool f, .string E] 38)) := (((Below.refl w.heap.size w).alloc (Nat.le_refl _) (.cells #[.string A, .string B] 24)).alloc (by simp) (.cells #[.bool f, .string E] 38))
    have K0 : Bk ((w.alloc (.cells #[.string A, .string B] 24)).alloc (.cells #[.bool f, .string E] 38)) w.heap.size #[.string A, .string B] 24 := ((Bk.new w #[.string A, .string B] 24).alloc (.cells #[.bool f, .string E] 38))
    have K1 : Bk ((w.alloc (.cells #[.string A, .string B] 24)).alloc (.cells #[.bool f, .string E] 38)) (w.heap.size + 1) #[.bool f, .string E] 38 := by have h := (Bk.new (w.alloc (.cells #[.string A, .string B] 24)) #[.bool f, .string E] 38); simpa using h
    go_enter Tryz.func19, Tryz.ntmps19
    go_wp2_with fail
    refine (HG.out _).mono ?_
    rintro e u1 ⟨rfl, hb⟩
    replace HV := HV.trans (hb.mono HV.size)
    replace K0 := K0.below hb
    replace K1 := K1.below hb
    clear hb
    have c0_0 : u1.cell? ⟨w.heap.size, 0, none⟩ = some (.string A) := K0.cell 0
    have c0_1 : u1.cell? ⟨w.heap.size, 1, none⟩ = some (.string B) := K0.cell 1
    have l0 := K0.lt
    have c1_0 : u1.cell? ⟨(w.heap.size + 1), 0, none⟩ = some (.bool f) := K1.cell 0
    have c1_1 : u1.cell? ⟨(w.heap.size + 1), 1, none⟩ = some (.string E) := K1.cell 1
    have l1 := K1.lt
    go_wp2
    go_ret2
    exact ⟨rfl, HV⟩
  · rw [hg] at HG h
    rcases hs : validB S with _ | _
    · have HVS := Lib.hid (rvalf hS hs)
      clear hg h hA hB hS hE hs
      have HV : Below w.heap.size w ((w.alloc (.cells #[.string A, .string B] 24)).alloc (.cells #[.bool f, .string E] 38)) := (((Below.refl w.heap.size w).alloc (Nat.le_refl _) (.cells #[.string A, .string B] 24)).alloc (by simp) (.cells #[.bool f, .string E] 38))
      have K0 : Bk ((w.alloc (.cells #[.string A, .string B] 24)).alloc (.cells #[.bool f, .string E] 38)) w.heap.size #[.string A, .string B] 24 := ((Bk.new w #[.string A, .string B] 24).alloc (.cells #[.bool f, .string E] 38))
      have K1 : Bk ((w.alloc (.cells #[.string A, .string B] 24)).alloc (.cells #[.bool f, .string E] 38)) (w.heap.size + 1) #[.bool f, .string E] 38 := by have h := (Bk.new (w.alloc (.cells #[.string A, .string B] 24)) #[.bool f, .string E] 38); simpa using h
      go_enter Tryz.func19, Tryz.ntmps19
      go_wp2_with fail
      refine (HG.out _).mono ?_
      rintro e u1 ⟨rfl, hb⟩
      replace HV := HV.trans (hb.mono HV.size)
      replace K0 := K0.below hb
      replace K1 := K1.below hb
      clear hb
      have c0_0 : u1.cell? ⟨w.heap.size, 0, none⟩ = some (.string A) := K0.cell 0
      have c0_1 : u1.cell? ⟨w.heap.size, 1, none⟩ = some (.string B) := K0.cell 1
      have l0 := K0.lt
      have c1_0 : u1.cell? ⟨(w.heap.size + 1), 0, none⟩ = some (.bool f) := K1.cell 0
      have c1_1 : u1.cell? ⟨(w.heap.size + 1), 1, none⟩ = some (.string E) := K1.cell 1
      have l1 := K1.lt
      go_wp2_with fail
      refine (HVS.out _).mono ?_
      rintro e s2 ⟨rfl, rfl⟩
      go_wp2
      go_ret2
      exact ⟨rfl, HV⟩
    · have HVS := Lib.hid (rvalt hS hs)
      have HI := Lib.hid (fun W => rivalid_no (p := f) (s := E) (by simpa [hs] using h) W hE)
      clear hg h hA hB hS hE hs
      have HV : Below w.heap.size w ((w.alloc (.cells #[.string A, .string B] 24)).alloc (.cells #[.bool f, .string E] 38)) := (((Below.refl w.heap.size w).alloc (Nat.le_refl _) (.cells #[.string A, .string B] 24)).alloc (by simp) (.cells #[.bool f, .string E] 38))
      have K0 : Bk ((w.alloc (.cells #[.string A, .string B] 24)).alloc (.cells #[.bool f, .string E] 38)) w.heap.size #[.string A, .string B] 24 := ((Bk.new w #[.string A, .string B] 24).alloc (.cells #[.bool f, .string E] 38))
      have K1 : Bk ((w.alloc (.cells #[.string A, .string B] 24)).alloc (.cells #[.bool f, .string E] 38)) (w.heap.size + 1) #[.bool f, .string E] 38 := by have h := (Bk.new (w.alloc (.cells #[.string A, .string B] 24)) #[.bool f, .string E] 38); simpa using h
      go_enter Tryz.func19, Tryz.ntmps19
      go_wp2_with fail
      refine (HG.out _).mono ?_
      rintro e u1 ⟨rfl, hb⟩
      replace HV := HV.trans (hb.mono HV.size)
      replace K0 := K0.below hb
      replace K1 := K1.below hb
      clear hb
      have c0_0 : u1.cell? ⟨w.heap.size, 0, none⟩ = some (.string A) := K0.cell 0
      have c0_1 : u1.cell? ⟨w.heap.size, 1, none⟩ = some (.string B) := K0.cell 1
      have l0 := K0.lt
      have c1_0 : u1.cell? ⟨(w.heap.size + 1), 0, none⟩ = some (.bool f) := K1.cell 0
      have c1_1 : u1.cell? ⟨(w.heap.size + 1), 1, none⟩ = some (.string E) := K1.cell 1
      have l1 := K1.lt
      go_wp2_with fail
      refine (HVS.out _).mono ?_
      rintro e s2 ⟨rfl, rfl⟩
      go_wp2_with fail
      refine (HI.out _).mono ?_
      rintro e u12 ⟨rfl, hb⟩
      replace HV := HV.trans (hb.mono HV.size)
      replace K0 := K0.below hb
      replace K1 := K1.below hb
      clear hb
      clear c0_0 c0_1 l0
      have c0_0 : u12.cell? ⟨w.heap.size, 0, none⟩ = some (.string A) := K0.cell 0
      have c0_1 : u12.cell? ⟨w.heap.size, 1, none⟩ = some (.string B) := K0.cell 1
      have l0 := K0.lt
      clear c1_0 c1_1 l1
      have c1_0 : u12.cell? ⟨(w.heap.size + 1), 0, none⟩ = some (.bool f) := K1.cell 0
      have c1_1 : u12.cell? ⟨(w.heap.size + 1), 1, none⟩ = some (.string E) := K1.cell 1
      have l1 := K1.lt
      go_wp2
      go_ret2
      exact ⟨rfl, HV⟩
set_option maxHeartbeats 1000000 in
set_option maxRecDepth 100000 in
theorem rpow9_grp (A B S E : ByteArray) (f : Bool) (w : World) (hA : A.size ≤ 9223372036854775807) (hB : B.size ≤ 9223372036854775807) (hS : S.size ≤ 9223372036854775807) (hE : E.size ≤ 9223372036854775807) (h : (validB A && validB B && validB S && vI f E) = true)
    (hh : ∀ W, Calls Tryz.prog 13 #[.agg #[.string A, .string B], .string S] W (Made W (.bool false))) :
    Calls Tryz.prog 19 #[.agg #[.string A, .string B], .string S, .agg #[.bool f, .string E]] w (Made w (.tuple #[.string ⟨#[]⟩, .int .i64 13])) := by
  simp only [Bool.and_eq_true] at h
  obtain ⟨⟨⟨h1, h2⟩, h3⟩, h4⟩ := h
  have HG := Lib.hid (fun W => rform_any A B true true W hA hB h1 h2)
  have HVS := Lib.hid (rvalt hS h3)
  have HI : Hid (∀ W, Calls Tryz.prog 43 #[.agg #[.bool f, .string E]] W (Made W (.bool true))) := Lib.hid (fun W => by
    have h5 := rivalid_core f (validB E) E.toList.isEmpty E W hE rfl rfl
    unfold vI at h4
    rwa [h4] at h5)
  have H1 := Lib.hid hh
  clear hA hB hS hE h1 h2 h3 h4 hh
  have HV : Below w.heap.size w ((w.alloc (.cells #[.string A, .string B] 24)).alloc (.cells #[.bool f, .string E] 38)) := (((Below.refl w.heap.size w).alloc (Nat.le_refl _) (.cells #[.string A, .string B] 24)).alloc (by simp) (.cells #[.bool f, .string E] 38))
  have K0 : Bk ((w.alloc (.cells #[.string A, .string B] 24)).alloc (.cells #[.bool f, .string E] 38)) w.heap.size #[.string A, .string B] 24 := ((Bk.new w #[.string A, .string B] 24).alloc (.cells #[.bool f, .string E] 38))
  have K1 : Bk ((w.alloc (.cells #[.string A, .string B] 24)).alloc (.cells #[.bool f, .string E] 38)) (w.heap.size + 1) #[.bool f, .string E] 38 := by have h := (Bk.new (w.alloc (.cells #[.string A, .string B] 24)) #[.bool f, .string E] 38); simpa using h
  go_enter Tryz.func19, Tryz.ntmps19
  go_wp2_with fail
  refine (HG.out _).mono ?_
  rintro e u1 ⟨rfl, hb⟩
  replace HV := HV.trans (hb.mono HV.size)
  replace K0 := K0.below hb
  replace K1 := K1.below hb
  clear hb
  have c0_0 : u1.cell? ⟨w.heap.size, 0, none⟩ = some (.string A) := K0.cell 0
  have c0_1 : u1.cell? ⟨w.heap.size, 1, none⟩ = some (.string B) := K0.cell 1
  have l0 := K0.lt
  have c1_0 : u1.cell? ⟨(w.heap.size + 1), 0, none⟩ = some (.bool f) := K1.cell 0
  have c1_1 : u1.cell? ⟨(w.heap.size + 1), 1, none⟩ = some (.string E) := K1.cell 1
  have l1 := K1.lt
  go_wp2_with fail
  refine (HVS.out _).mono ?_
  rintro e s2 ⟨rfl, rfl⟩
  go_wp2_with fail
  refine (HI.out _).mono ?_
  rintro e u12 ⟨rfl, hb⟩
  replace HV := HV.trans (hb.mono HV.size)
  replace K0 := K0.below hb
  replace K1 := K1.below hb
  clear hb
  clear c0_0 c0_1 l0
  have c0_0 : u12.cell? ⟨w.heap.size, 0, none⟩ = some (.string A) := K0.cell 0
  have c0_1 : u12.cell? ⟨w.heap.size, 1, none⟩ = some (.string B) := K0.cell 1
  have l0 := K0.lt
  clear c1_0 c1_1 l1
  have c1_0 : u12.cell? ⟨(w.heap.size + 1), 0, none⟩ = some (.bool f) := K1.cell 0
  have c1_1 : u12.cell? ⟨(w.heap.size + 1), 1, none⟩ = some (.string E) := K1.cell 1
  have l1 := K1.lt
  go_wp2_with fail
  refine (H1.out _).mono ?_
  rintro e u13 ⟨rfl, hb⟩
  replace HV := HV.trans (hb.mono HV.size)
  replace K0 := K0.below hb
  replace K1 := K1.below hb
  clear hb
  clear c0_0 c0_1 l0
  have c0_0 : u13.cell? ⟨w.heap.size, 0, none⟩ = some (.string A) := K0.cell 0
  have c0_1 : u13.cell? ⟨w.heap.size, 1, none⟩ = some (.string B) := K0.cell 1
  have l0 := K0.lt
  clear c1_0 c1_1 l1
  have c1_0 : u13.cell? ⟨(w.heap.size + 1), 0, none⟩ = some (.bool f) := K1.cell 0
  have c1_1 : u13.cell? ⟨(w.heap.size + 1), 1, none⟩ = some (.string E) := K1.cell 1
  have l1 := K1.lt
  go_wp2
  go_ret2
  exact ⟨rfl, HV⟩
set_option maxHeartbeats 1000000 in
set_option maxRecDepth 100000 in
theorem rpow9_ok (A B S E K R : ByteArray) (f : Bool) (w : World) (hA : A.size ≤ 9223372036854775807) (hB : B.size ≤ 9223372036854775807) (hS : S.size ≤ 9223372036854775807) (hE : E.size ≤ 9223372036854775807) (h : (validB A && validB B && validB S && vI f E) = true)
    (hh : ∀ W, Calls Tryz.prog 13 #[.agg #[.string A, .string B], .string S] W (Made W (.bool true))) (hm : ∀ W, Calls Tryz.prog 44 #[.agg #[.bool f, .string E], .string B] W (Made W (.tuple #[.string K, .int .i64 0])))
    (hx : ∀ W, Calls Tryz.prog 37 #[.string S, .string K, .string A] W (Made W (.tuple #[.string R, .int .i64 0]))) :
    Calls Tryz.prog 19 #[.agg #[.string A, .string B], .string S, .agg #[.bool f, .string E]] w (Made w (.tuple #[.string R, .int .i64 0])) := by
  simp only [Bool.and_eq_true] at h
  obtain ⟨⟨⟨h1, h2⟩, h3⟩, h4⟩ := h
  have HG := Lib.hid (fun W => rform_any A B true true W hA hB h1 h2)
  have HVS := Lib.hid (rvalt hS h3)
  have HI : Hid (∀ W, Calls Tryz.prog 43 #[.agg #[.bool f, .string E]] W (Made W (.bool true))) := Lib.hid (fun W => by
    have h5 := rivalid_core f (validB E) E.toList.isEmpty E W hE rfl rfl
    unfold vI at h4
    rwa [h4] at h5)
  have H1 := Lib.hid hh
  have HM := Lib.hid hm
  have HX := Lib.hid hx
  clear hA hB hS hE h1 h2 h3 h4 hh hm hx
  have HV : Below w.heap.size w ((w.alloc (.cells #[.string A, .string B] 24)).alloc (.cells #[.bool f, .string E] 38)) := (((Below.refl w.heap.size w).alloc (Nat.le_refl _) (.cells #[.string A, .string B] 24)).alloc (by simp) (.cells #[.bool f, .string E] 38))
  have K0 : Bk ((w.alloc (.cells #[.string A, .string B] 24)).alloc (.cells #[.bool f, .string E] 38)) w.heap.size #[.string A, .string B] 24 := ((Bk.new w #[.string A, .string B] 24).alloc (.cells #[.bool f, .string E] 38))
  have K1 : Bk ((w.alloc (.cells #[.string A, .string B] 24)).alloc (.cells #[.bool f, .string E] 38)) (w.heap.size + 1) #[.bool f, .string E] 38 := by have h := (Bk.new (w.alloc (.cells #[.string A, .string B] 24)) #[.bool f, .string E] 38); simpa using h
  go_enter Tryz.func19, Tryz.ntmps19
  go_wp2_with fail
  refine (HG.out _).mono ?_
  rintro e u1 ⟨rfl, hb⟩
  replace HV := HV.trans (hb.mono HV.size)
  replace K0 := K0.below hb
  replace K1 := K1.below hb
  clear hb
  have c0_0 : u1.cell? ⟨w.heap.size, 0, none⟩ = some (.string A) := K0.cell 0
  have c0_1 : u1.cell? ⟨w.heap.size, 1, none⟩ = some (.string B) := K0.cell 1
  have l0 := K0.lt
  have c1_0 : u1.cell? ⟨(w.heap.size + 1), 0, none⟩ = some (.bool f) := K1.cell 0
  have c1_1 : u1.cell? ⟨(w.heap.size + 1), 1, none⟩ = some (.string E) := K1.cell 1
  have l1 := K1.lt
  go_wp2_with fail
  refine (HVS.out _).mono ?_
  rintro e s2 ⟨rfl, rfl⟩
  go_wp2_with fail
  refine (HI.out _).mono ?_
  rintro e u12 ⟨rfl, hb⟩
  replace HV := HV.trans (hb.mono HV.size)
  replace K0 := K0.below hb
  replace K1 := K1.below hb
  clear hb
  clear c0_0 c0_1 l0
  have c0_0 : u12.cell? ⟨w.heap.size, 0, none⟩ = some (.string A) := K0.cell 0
  have c0_1 : u12.cell? ⟨w.heap.size, 1, none⟩ = some (.string B) := K0.cell 1
  have l0 := K0.lt
  clear c1_0 c1_1 l1
  have c1_0 : u12.cell? ⟨(w.heap.size + 1), 0, none⟩ = some (.bool f) := K1.cell 0
  have c1_1 : u12.cell? ⟨(w.heap.size + 1), 1, none⟩ = some (.string E) := K1.cell 1
  have l1 := K1.lt
  go_wp2_with fail
  refine (H1.out _).mono ?_
  rintro e u13 ⟨rfl, hb⟩
  replace HV := HV.trans (hb.mono HV.size)
  replace K0 := K0.below hb
  replace K1 := K1.below hb
  clear hb
  clear c0_0 c0_1 l0
  have c0_0 : u13.cell? ⟨w.heap.size, 0, none⟩ = some (.string A) := K0.cell 0
  have c0_1 : u13.cell? ⟨w.heap.size, 1, none⟩ = some (.string B) := K0.cell 1
  have l0 := K0.lt
  clear c1_0 c1_1 l1
  have c1_0 : u13.cell? ⟨(w.heap.size + 1), 0, none⟩ = some (.bool f) := K1.cell 0
  have c1_1 : u13.cell? ⟨(w.heap.size + 1), 1, none⟩ = some (.string E) := K1.cell 1
  have l1 := K1.lt
  go_wp2_with fail
  refine (HM.out _).mono ?_
  rintro e u14 ⟨rfl, hb⟩
  replace HV := HV.trans (hb.mono HV.size)
  replace K0 := K0.below hb
  replace K1 := K1.below hb
  clear hb
  clear c0_0 c0_1 l0
  have c0_0 : u14.cell? ⟨w.heap.size, 0, none⟩ = some (.string A) := K0.cell 0
  have c0_1 : u14.cell? ⟨w.heap.size, 1, none⟩ = some (.string B) := K0.cell 1
  have l0 := K0.lt
  clear c1_0 c1_1 l1
  have c1_0 : u14.cell? ⟨(w.heap.size + 1), 0, none⟩ = some (.bool f) := K1.cell 0
  have c1_1 : u14.cell? ⟨(w.heap.size + 1), 1, none⟩ = some (.string E) := K1.cell 1
  have l1 := K1.lt
  go_wp2_with fail
  refine (HX.out _).mono ?_
  rintro e u15 ⟨rfl, hb⟩
  replace HV := HV.trans (hb.mono HV.size)
  replace K0 := K0.below hb
  replace K1 := K1.below hb
  clear hb
  clear c0_0 c0_1 l0
  have c0_0 : u15.cell? ⟨w.heap.size, 0, none⟩ = some (.string A) := K0.cell 0
  have c0_1 : u15.cell? ⟨w.heap.size, 1, none⟩ = some (.string B) := K0.cell 1
  have l0 := K0.lt
  clear c1_0 c1_1 l1
  have c1_0 : u15.cell? ⟨(w.heap.size + 1), 0, none⟩ = some (.bool f) := K1.cell 0
  have c1_1 : u15.cell? ⟨(w.heap.size + 1), 1, none⟩ = some (.string E) := K1.cell 1
  have l1 := K1.lt
  go_wp2
  go_ret2
  exact ⟨rfl, HV⟩
set_option maxHeartbeats 1000000 in
set_option maxRecDepth 100000 in
theorem rdiv_ok (p q : Nat) (w : World) (hp : p < Top) (hq : q < Top) (h1 : p ≠ 0) (h2 : q ≠ 0) :
    Calls Tryz.prog 30 #[.agg #[.string (bs p), .string (bs q)]] w (Made w (.bool ((p - 1) % q == 0))) := by
  have HS : Hid (∀ W, Calls Tryz.prog 55 #[.string (bs p), .string ⟨#[1]⟩] W (Made W (.string (bs (p - 1))))) := Lib.hid (fun W => by
    have h := minus_any p 1 W (by have := bs_small hp; omega) (by have := bs_small (show 1 < Top by unfold Top; decide); omega) (by omega)
    rwa [show bs 1 = (⟨#[1]⟩ : ByteArray) from bs_one] at h)
  have HD := Lib.hid (fun W => rover_any (p - 1) q W (by have := bs_small (show p - 1 < Top by omega); omega) (by have := bs_small hq; omega) h2)
  have e0 : (bs p).toList.isEmpty = (p == 0) := bs_isEmpty _
  rw [show (p == 0) = false from by simp [h1]] at e0
  have e1 : (bs ((p - 1) % q)).toList.isEmpty = ((p - 1) % q == 0) := bs_isEmpty _
  clear hp hq h1 h2
  rcases hb : ((p - 1) % q == 0) with _ | _
  · rw [hb] at e1
    clear hb
    have HV : Below w.heap.size w (w.alloc (.cells #[.string (bs p), .string (bs q)] 24)) := ((Below.refl w.heap.size w).alloc (Nat.le_refl _) (.cells #[.string (bs p), .string (bs q)] 24))
    have K0 : Bk (w.alloc (.cells #[.string (bs p), .string (bs q)] 24)) w.heap.size #[.string (bs p), .string (bs q)] 24 := (Bk.new w #[.string (bs p), .string (bs q)] 24)
    have c0_0 := K0.cell 0
    have c0_1 := K0.cell 1
    have l0 := K0.lt
    go_enter Tryz.func30, Tryz.ntmps30
    go_wp2_with fail
    go_region_with (first
      | (go_at_call 55; (refine (HS.out _).mono ?_); rintro e w3 ⟨rfl, hb⟩; replace HV := HV.drew.trans (hb.mono HV.size); replace K0 := K0.belowD hb; clear hb c0_0 c0_1 l0; have c0_0 := K0.cell 0; have c0_1 := K0.cell 1; have l0 := K0.lt)
      | (go_at_call 54; (refine (HD.out _).mono ?_); rintro e w4 ⟨rfl, hb⟩; replace HV := HV.trans (hb.mono HV.size); replace K0 := K0.below hb; clear hb c0_0 c0_1 l0; have c0_0 := K0.cell 0; have c0_1 := K0.cell 1; have l0 := K0.lt))
    all_goals
      go_wp2
      go_ret
      exact ⟨rfl, HV⟩
  · rw [hb] at e1
    clear hb
    have HV : Below w.heap.size w (w.alloc (.cells #[.string (bs p), .string (bs q)] 24)) := ((Below.refl w.heap.size w).alloc (Nat.le_refl _) (.cells #[.string (bs p), .string (bs q)] 24))
    have K0 : Bk (w.alloc (.cells #[.string (bs p), .string (bs q)] 24)) w.heap.size #[.string (bs p), .string (bs q)] 24 := (Bk.new w #[.string (bs p), .string (bs q)] 24)
    have c0_0 := K0.cell 0
    have c0_1 := K0.cell 1
    have l0 := K0.lt
    go_enter Tryz.func30, Tryz.ntmps30
    go_wp2_with fail
    go_region_with (first
      | (go_at_call 55; (refine (HS.out _).mono ?_); rintro e w3 ⟨rfl, hb⟩; replace HV := HV.drew.trans (hb.mono HV.size); replace K0 := K0.belowD hb; clear hb c0_0 c0_1 l0; have c0_0 := K0.cell 0; have c0_1 := K0.cell 1; have l0 := K0.lt)
      | (go_at_call 54; (refine (HD.out _).mono ?_); rintro e w4 ⟨rfl, hb⟩; replace HV := HV.trans (hb.mono HV.size); replace K0 := K0.below hb; clear hb c0_0 c0_1 l0; have c0_0 := K0.cell 0; have c0_1 := K0.cell 1; have l0 := K0.lt))
    all_goals
      go_wp2
      go_ret
      exact ⟨rfl, HV⟩
set_option maxHeartbeats 1000000 in
set_option maxRecDepth 100000 in
theorem rchk9_form (A B : ByteArray) (w : World) (hA : A.size ≤ 9223372036854775807) (hB : B.size ≤ 9223372036854775807) (h : (validB A && validB B) = false) :
    Calls Tryz.prog 10 #[.agg #[.string A, .string B]] w (Made w (.int .i64 3)) := by
  have HG := Lib.hid (fun W => rform_any A B _ _ W hA hB rfl rfl)
  rw [h] at HG
  clear h hA hB
  have HV : Below w.heap.size w (w.alloc (.cells #[.string A, .string B] 24)) := ((Below.refl w.heap.size w).alloc (Nat.le_refl _) (.cells #[.string A, .string B] 24))
  have K0 : Bk (w.alloc (.cells #[.string A, .string B] 24)) w.heap.size #[.string A, .string B] 24 := (Bk.new w #[.string A, .string B] 24)
  go_enter Tryz.func10, Tryz.ntmps10
  go_wp2_with fail
  refine (HG.out _).mono ?_
  rintro e u1 ⟨rfl, hb⟩
  replace HV := HV.trans (hb.mono HV.size)
  replace K0 := K0.below hb
  clear hb
  have c0_0 : u1.cell? ⟨w.heap.size, 0, none⟩ = some (.string A) := K0.cell 0
  have c0_1 : u1.cell? ⟨w.heap.size, 1, none⟩ = some (.string B) := K0.cell 1
  have l0 := K0.lt
  go_wp2
  go_ret
  exact ⟨rfl, HV⟩
set_option maxHeartbeats 2000000 in
set_option maxRecDepth 100000 in
theorem rchk9_ok (p q : Nat) (w : World) (hp : p < Top) (hq : q < Top) : Calls Tryz.prog 10 #[.agg #[.string (bs p), .string (bs q)]] w (Made w (.int .i64 (chkN p q))) := by
  have HG := Lib.hid (fun W => rform_yes hp hq W)
  unfold chkN
  by_cases h1 : 18446744073709551616 ≤ p
  · rw [if_pos h1]
    have h8 : 8 < (bs p).size := Nat.lt_of_not_le fun h => absurd (small8.1 h) (by omega)
    have hd : decide (8 < ((bs p).size : Int)) = true := by simp; omega
    clear h1 h8 hp hq
    have HV : Below w.heap.size w (w.alloc (.cells #[.string (bs p), .string (bs q)] 24)) := ((Below.refl w.heap.size w).alloc (Nat.le_refl _) (.cells #[.string (bs p), .string (bs q)] 24))
    have K0 : Bk (w.alloc (.cells #[.string (bs p), .string (bs q)] 24)) w.heap.size #[.string (bs p), .string (bs q)] 24 := (Bk.new w #[.string (bs p), .string (bs q)] 24)
    go_enter Tryz.func10, Tryz.ntmps10
    go_wp2_with fail
    refine (HG.out _).mono ?_
    rintro e u1 ⟨rfl, hb⟩
    replace HV := HV.trans (hb.mono HV.size)
    replace K0 := K0.below hb
    clear hb
    have c0_0 : u1.cell? ⟨w.heap.size, 0, none⟩ = some (.string (bs p)) := K0.cell 0
    have c0_1 : u1.cell? ⟨w.heap.size, 1, none⟩ = some (.string (bs q)) := K0.cell 1
    have l0 := K0.lt
    go_wp2
    go_ret
    exact ⟨rfl, HV⟩
  · rw [if_neg h1]
    have h8 : (bs p).size ≤ 8 := small8.2 (by omega)
    have hd : decide (8 < ((bs p).size : Int)) = false := by simp; omega
    rcases hP : isPN p with _ | _
    · rw [if_pos rfl]
      have HI : Hid (∀ W, Calls Tryz.prog 29 #[.string (bs p)] W (Made W (.tuple #[.bool false, .int .i64 0]))) := Lib.hid (fun W => by have := ris_ok p W (by omega); rwa [hP] at this)
      clear h1 h8 hp hq hP
      have HV : Below w.heap.size w (w.alloc (.cells #[.string (bs p), .string (bs q)] 24)) := ((Below.refl w.heap.size w).alloc (Nat.le_refl _) (.cells #[.string (bs p), .string (bs q)] 24))
      have K0 : Bk (w.alloc (.cells #[.string (bs p), .string (bs q)] 24)) w.heap.size #[.string (bs p), .string (bs q)] 24 := (Bk.new w #[.string (bs p), .string (bs q)] 24)
      go_enter Tryz.func10, Tryz.ntmps10
      go_wp2_with fail
      refine (HG.out _).mono ?_
      rintro e u1 ⟨rfl, hb⟩
      replace HV := HV.trans (hb.mono HV.size)
      replace K0 := K0.below hb
      clear hb
      have c0_0 : u1.cell? ⟨w.heap.size, 0, none⟩ = some (.string (bs p)) := K0.cell 0
      have c0_1 : u1.cell? ⟨w.heap.size, 1, none⟩ = some (.string (bs q)) := K0.cell 1
      have l0 := K0.lt
      go_wp2_with fail
      refine (HI.out _).mono ?_
      rintro e u2 ⟨rfl, hb⟩
      replace HV := HV.trans (hb.mono HV.size)
      replace K0 := K0.below hb
      clear hb
      clear c0_0 c0_1 l0
      have c0_0 : u2.cell? ⟨w.heap.size, 0, none⟩ = some (.string (bs p)) := K0.cell 0
      have c0_1 : u2.cell? ⟨w.heap.size, 1, none⟩ = some (.string (bs q)) := K0.cell 1
      have l0 := K0.lt
      go_wp2
      go_ret
      exact ⟨rfl, HV⟩
    · rw [if_neg (by decide)]
      have HI : Hid (∀ W, Calls Tryz.prog 29 #[.string (bs p)] W (Made W (.tuple #[.bool true, .int .i64 0]))) := Lib.hid (fun W => by have := ris_ok p W (by omega); rwa [hP] at this)
      have h2 := isPN_two hP
      by_cases hq8 : q < 18446744073709551616
      · have g8 : (bs q).size ≤ 8 := small8.2 (by omega)
        have hg : decide (8 < ((bs q).size : Int)) = false := by simp; omega
        rcases hQ : isPN q with _ | _
        · rw [if_pos ⟨hq8, rfl⟩]
          have HJ : Hid (∀ W, Calls Tryz.prog 29 #[.string (bs q)] W (Made W (.tuple #[.bool false, .int .i64 0]))) := Lib.hid (fun W => by have := ris_ok q W hq8; rwa [hQ] at this)
          clear h1 h8 hp hq hP h2 hq8 g8 hQ
          have HV : Below w.heap.size w (w.alloc (.cells #[.string (bs p), .string (bs q)] 24)) := ((Below.refl w.heap.size w).alloc (Nat.le_refl _) (.cells #[.string (bs p), .string (bs q)] 24))
          have K0 : Bk (w.alloc (.cells #[.string (bs p), .string (bs q)] 24)) w.heap.size #[.string (bs p), .string (bs q)] 24 := (Bk.new w #[.string (bs p), .string (bs q)] 24)
          go_enter Tryz.func10, Tryz.ntmps10
          go_wp2_with fail
          refine (HG.out _).mono ?_
          rintro e u1 ⟨rfl, hb⟩
          replace HV := HV.trans (hb.mono HV.size)
          replace K0 := K0.below hb
          clear hb
          have c0_0 : u1.cell? ⟨w.heap.size, 0, none⟩ = some (.string (bs p)) := K0.cell 0
          have c0_1 : u1.cell? ⟨w.heap.size, 1, none⟩ = some (.string (bs q)) := K0.cell 1
          have l0 := K0.lt
          go_wp2_with fail
          refine (HI.out _).mono ?_
          rintro e u2 ⟨rfl, hb⟩
          replace HV := HV.trans (hb.mono HV.size)
          replace K0 := K0.below hb
          clear hb
          clear c0_0 c0_1 l0
          have c0_0 : u2.cell? ⟨w.heap.size, 0, none⟩ = some (.string (bs p)) := K0.cell 0
          have c0_1 : u2.cell? ⟨w.heap.size, 1, none⟩ = some (.string (bs q)) := K0.cell 1
          have l0 := K0.lt
          go_wp2_with fail
          refine (HJ.out _).mono ?_
          rintro e u3 ⟨rfl, hb⟩
          replace HV := HV.trans (hb.mono HV.size)
          replace K0 := K0.below hb
          clear hb
          clear c0_0 c0_1 l0
          have c0_0 : u3.cell? ⟨w.heap.size, 0, none⟩ = some (.string (bs p)) := K0.cell 0
          have c0_1 : u3.cell? ⟨w.heap.size, 1, none⟩ = some (.string (bs q)) := K0.cell 1
          have l0 := K0.lt
          go_wp2
          go_ret
          exact ⟨rfl, HV⟩
        · rw [if_neg (by simp)]
          have HJ : Hid (∀ W, Calls Tryz.prog 29 #[.string (bs q)] W (Made W (.tuple #[.bool true, .int .i64 0]))) := Lib.hid (fun W => by have := ris_ok q W hq8; rwa [hQ] at this)
          have g2 := isPN_two hQ
          have HD := Lib.hid (fun W => rdiv_ok p q W hp hq (by omega) (by omega))
          by_cases h5 : (p - 1) % q = 0
          · rw [if_pos h5]
            rw [show ((p - 1) % q == 0) = true from by simp [h5]] at HD
            clear h1 h8 hp hq hP h2 hq8 g8 hQ g2 h5
            have HV : Below w.heap.size w (w.alloc (.cells #[.string (bs p), .string (bs q)] 24)) := ((Below.refl w.heap.size w).alloc (Nat.le_refl _) (.cells #[.string (bs p), .string (bs q)] 24))
            have K0 : Bk (w.alloc (.cells #[.string (bs p), .string (bs q)] 24)) w.heap.size #[.string (bs p), .string (bs q)] 24 := (Bk.new w #[.string (bs p), .string (bs q)] 24)
            go_enter Tryz.func10, Tryz.ntmps10
            go_wp2_with fail
            refine (HG.out _).mono ?_
            rintro e u1 ⟨rfl, hb⟩
            replace HV := HV.trans (hb.mono HV.size)
            replace K0 := K0.below hb
            clear hb
            have c0_0 : u1.cell? ⟨w.heap.size, 0, none⟩ = some (.string (bs p)) := K0.cell 0
            have c0_1 : u1.cell? ⟨w.heap.size, 1, none⟩ = some (.string (bs q)) := K0.cell 1
            have l0 := K0.lt
            go_wp2_with fail
            refine (HI.out _).mono ?_
            rintro e u2 ⟨rfl, hb⟩
            replace HV := HV.trans (hb.mono HV.size)
            replace K0 := K0.below hb
            clear hb
            clear c0_0 c0_1 l0
            have c0_0 : u2.cell? ⟨w.heap.size, 0, none⟩ = some (.string (bs p)) := K0.cell 0
            have c0_1 : u2.cell? ⟨w.heap.size, 1, none⟩ = some (.string (bs q)) := K0.cell 1
            have l0 := K0.lt
            go_wp2_with fail
            refine (HJ.out _).mono ?_
            rintro e u3 ⟨rfl, hb⟩
            replace HV := HV.trans (hb.mono HV.size)
            replace K0 := K0.below hb
            clear hb
            clear c0_0 c0_1 l0
            have c0_0 : u3.cell? ⟨w.heap.size, 0, none⟩ = some (.string (bs p)) := K0.cell 0
            have c0_1 : u3.cell? ⟨w.heap.size, 1, none⟩ = some (.string (bs q)) := K0.cell 1
            have l0 := K0.lt
            go_wp2_with fail
            refine (HD.out _).mono ?_
            rintro e u4 ⟨rfl, hb⟩
            replace HV := HV.trans (hb.mono HV.size)
            replace K0 := K0.below hb
            clear hb
            clear c0_0 c0_1 l0
            have c0_0 : u4.cell? ⟨w.heap.size, 0, none⟩ = some (.string (bs p)) := K0.cell 0
            have c0_1 : u4.cell? ⟨w.heap.size, 1, none⟩ = some (.string (bs q)) := K0.cell 1
            have l0 := K0.lt
            go_wp2
            go_ret
            exact ⟨rfl, HV⟩
          · rw [if_neg h5]
            rw [show ((p - 1) % q == 0) = false from by simp [h5]] at HD
            clear h1 h8 hp hq hP h2 hq8 g8 hQ g2 h5
            have HV : Below w.heap.size w (w.alloc (.cells #[.string (bs p), .string (bs q)] 24)) := ((Below.refl w.heap.size w).alloc (Nat.le_refl _) (.cells #[.string (bs p), .string (bs q)] 24))
            have K0 : Bk (w.alloc (.cells #[.string (bs p), .string (bs q)] 24)) w.heap.size #[.string (bs p), .string (bs q)] 24 := (Bk.new w #[.string (bs p), .string (bs q)] 24)
            go_enter Tryz.func10, Tryz.ntmps10
            go_wp2_with fail
            refine (HG.out _).mono ?_
            rintro e u1 ⟨rfl, hb⟩
            replace HV := HV.trans (hb.mono HV.size)
            replace K0 := K0.below hb
            clear hb
            have c0_0 : u1.cell? ⟨w.heap.size, 0, none⟩ = some (.string (bs p)) := K0.cell 0
            have c0_1 : u1.cell? ⟨w.heap.size, 1, none⟩ = some (.string (bs q)) := K0.cell 1
            have l0 := K0.lt
            go_wp2_with fail
            refine (HI.out _).mono ?_
            rintro e u2 ⟨rfl, hb⟩
            replace HV := HV.trans (hb.mono HV.size)
            replace K0 := K0.below hb
            clear hb
            clear c0_0 c0_1 l0
            have c0_0 : u2.cell? ⟨w.heap.size, 0, none⟩ = some (.string (bs p)) := K0.cell 0
            have c0_1 : u2.cell? ⟨w.heap.size, 1, none⟩ = some (.string (bs q)) := K0.cell 1
            have l0 := K0.lt
            go_wp2_with fail
            refine (HJ.out _).mono ?_
            rintro e u3 ⟨rfl, hb⟩
            replace HV := HV.trans (hb.mono HV.size)
            replace K0 := K0.below hb
            clear hb
            clear c0_0 c0_1 l0
            have c0_0 : u3.cell? ⟨w.heap.size, 0, none⟩ = some (.string (bs p)) := K0.cell 0
            have c0_1 : u3.cell? ⟨w.heap.size, 1, none⟩ = some (.string (bs q)) := K0.cell 1
            have l0 := K0.lt
            go_wp2_with fail
            refine (HD.out _).mono ?_
            rintro e u4 ⟨rfl, hb⟩
            replace HV := HV.trans (hb.mono HV.size)
            replace K0 := K0.below hb
            clear hb
            clear c0_0 c0_1 l0
            have c0_0 : u4.cell? ⟨w.heap.size, 0, none⟩ = some (.string (bs p)) := K0.cell 0
            have c0_1 : u4.cell? ⟨w.heap.size, 1, none⟩ = some (.string (bs q)) := K0.cell 1
            have l0 := K0.lt
            go_wp2
            go_ret
            exact ⟨rfl, HV⟩
      · have g8 : 8 < (bs q).size := Nat.lt_of_not_le fun h => absurd (small8.1 h) hq8
        have hg : decide (8 < ((bs q).size : Int)) = true := by simp; omega
        rw [if_neg (fun h => hq8 h.1), if_neg (by rw [Nat.mod_eq_of_lt (by omega)]; omega)]
        clear h1 h8 hp hq hP h2 hq8 g8
        have HV : Below w.heap.size w (w.alloc (.cells #[.string (bs p), .string (bs q)] 24)) := ((Below.refl w.heap.size w).alloc (Nat.le_refl _) (.cells #[.string (bs p), .string (bs q)] 24))
        have K0 : Bk (w.alloc (.cells #[.string (bs p), .string (bs q)] 24)) w.heap.size #[.string (bs p), .string (bs q)] 24 := (Bk.new w #[.string (bs p), .string (bs q)] 24)
        go_enter Tryz.func10, Tryz.ntmps10
        go_wp2_with fail
        refine (HG.out _).mono ?_
        rintro e u1 ⟨rfl, hb⟩
        replace HV := HV.trans (hb.mono HV.size)
        replace K0 := K0.below hb
        clear hb
        have c0_0 : u1.cell? ⟨w.heap.size, 0, none⟩ = some (.string (bs p)) := K0.cell 0
        have c0_1 : u1.cell? ⟨w.heap.size, 1, none⟩ = some (.string (bs q)) := K0.cell 1
        have l0 := K0.lt
        go_wp2_with fail
        refine (HI.out _).mono ?_
        rintro e u2 ⟨rfl, hb⟩
        replace HV := HV.trans (hb.mono HV.size)
        replace K0 := K0.below hb
        clear hb
        clear c0_0 c0_1 l0
        have c0_0 : u2.cell? ⟨w.heap.size, 0, none⟩ = some (.string (bs p)) := K0.cell 0
        have c0_1 : u2.cell? ⟨w.heap.size, 1, none⟩ = some (.string (bs q)) := K0.cell 1
        have l0 := K0.lt
        go_wp2
        go_ret
        exact ⟨rfl, HV⟩

end Go.Proofs.YtmiafkbjmkaebaaGreat

namespace Go.Proofs.YtmiafkbjmkaebaaGreat
open Go.RowKit Go.ChangeShapes Go.WideShapes Go.ChangeAt Go.Joins

set_option maxRecDepth 100000 in
theorem open_grp {H : Type} {enc : TypeId × Value → H} {w : World} {base b0 : Nat} {spare : Nat → Bool} {held : Bool} {r : Reach} {v : Value} {d : DataW H} {p : List MemPlace}
    (hv : Value.okWide Tryz.prog w r b0 24 v) (h : DataW.Trod enc Tryz.prog w base spare held 24 v d p) :
    ∃ (a s : ByteArray), v = .agg #[.string a, .string s] ∧ d = .agg [.lit (.string a.data.toList), .lit (.string s.data.toList)] ∧ p = [] ∧ a.size ≤ maxLen ∧ s.size ≤ maxLen := by
  obtain ⟨c0, c1, y0, y1, m, rfl, rfl, rfl, hy0, hy1⟩ := open_agg2 Tryz.underlying24 (by kernel_rfl) (by kernel_rfl) hv h
  obtain ⟨a, e0, rfl, ha⟩ := DataW.trod_string Tryz.underlying22 hy0
  obtain ⟨s, e1, rfl, hs⟩ := DataW.trod_string Tryz.underlying22 hy1
  simp at e0 e1
  subst e0 e1
  exact ⟨a, s, rfl, rfl, rfl, ha, hs⟩
set_option maxRecDepth 100000 in
theorem shut_grp {H : Type} {enc : TypeId × Value → H} {w : World} {base : Nat} {spare : Nat → Bool} {held : Bool} {a s : ByteArray} (ha : a.size ≤ maxLen) (hs : s.size ≤ maxLen) :
    DataW.Trod enc Tryz.prog w base spare held 24 (.agg #[.string a, .string s]) (.agg [.lit (.string a.data.toList), .lit (.string s.data.toList)]) [] :=
  shut_agg2 (y0 := (.lit (.string a.data.toList), [])) (y1 := (.lit (.string s.data.toList), [])) Tryz.underlying24 (by kernel_rfl) (by kernel_rfl) ⟨1, by simp [DataW.trod, Tryz.underlying22, ha]⟩ ⟨1, by simp [DataW.trod, Tryz.underlying22, hs]⟩
end Go.Proofs.YtmiafkbjmkaebaaGreat
