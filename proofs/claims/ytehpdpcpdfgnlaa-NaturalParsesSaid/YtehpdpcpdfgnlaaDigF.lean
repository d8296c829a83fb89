/-
  Contract of natural.natOf: the canonical string of the number of some digits, or ErrLong.
-/
import Derived.Test.YtehpdpcpdfgnlaaDigE
namespace Go.Proofs.Ytehpdpcpdfgnlaa
open Go.RowKit Num

/-- A number without its last j bytes. -/
def shN (V j : Nat) : Nat := V / 256 ^ j
theorem top_eq : Top = B32 ^ 32 := by unfold Top B32; decide
theorem trimmed_le {X : List Nat} {m : Nat} (hm : m ≤ X.length) (h1 : m = 0 ∨ X.getD (m - 1) 0 ≠ 0) (h2 : dv B32 (X.take m) = dv B32 X) (hs : Small X) : m ≤ 32 ↔ dv B32 X < Top := by
  have hl : (X.take m).length = m := by rw [List.length_take]; omega
  constructor
  · intro h
    have := (hs.take m).dv_lt
    rw [h2, hl] at this
    rw [top_eq]
    exact Nat.lt_of_lt_of_le this (Nat.pow_le_pow_right (by decide) h)
  · intro h
    apply Decidable.byContradiction
    intro hc
    have h1 : X.getD (m - 1) 0 ≠ 0 := by rcases h1 with h1 | h1; omega; exact h1
    have hn := dv_take_next B32 X (m - 1)
    rw [show m - 1 + 1 = m from by omega, h2] at hn
    have h3 : B32 ^ (m - 1) * 1 ≤ B32 ^ (m - 1) * X.getD (m - 1) 0 := Nat.mul_le_mul_left _ (by omega)
    have h4 : B32 ^ 32 ≤ B32 ^ (m - 1) := Nat.pow_le_pow_right (by decide) (by omega)
    rw [top_eq] at h
    omega
theorem digit_byte (xs : List Nat) (hx : Small xs) (k : Nat) (n : Nat) (hn : n = xs.getD (k / 4) 0) : ((n : Int) / 2 ^ (8 * (k % 4))) % 256 = ((shN (dv B32 xs) k % 256 : Nat) : Int) := by
  have := dv_byte xs hx k
  unfold shN B32
  rw [this, ← hn]
  have h2 : (2 : Int) ^ (8 * (k % 4)) = ((256 ^ (k % 4) : Nat) : Int) := by rw [show (256 : Nat) ^ (k % 4) = 2 ^ (8 * (k % 4)) from by rw [Nat.pow_mul]]; simp
  rw [h2]
  omega

def Same (w : World) (v : Value) (e : Ending) (w' : World) : Prop := e = .returned v ∧ w = w'
def Made (w : World) (v : Value) (e : Ending) (w' : World) : Prop := e = .returned v ∧ Below w.heap.size w w'

set_option maxHeartbeats 400000 in
theorem natof_long (A : Option Addr) (X : List Nat) (cx : Nat) (w : World) (hX : IsD w A X) (hc : X.length ≤ cx) (hm : X.length ≤ 1048576) (hv : Top ≤ dv B32 X) :
    Calls Try.prog 69 #[.slice A X.length cx] w (Made w (.tuple #[.string (bs 0), .int .i64 5])) := by
  go_enter Try.func69, Try.ntmps69
  go_wp2_with fail
  refine (trim_any A X cx _ hX hc hm).mono ?_
  rintro e w' ⟨m, hm1, hm2, hm3, rfl, rfl⟩
  have h32 : ¬ m ≤ 32 := by rw [trimmed_le hm1 hm2 hm3 hX.1]; omega
  clear hm2 hm3 hv
  go_wp2
  go_ret2
  exact ⟨by rw [bs_zero]; rfl, Below.refl _ _⟩

set_option maxHeartbeats 1000000 in
set_option maxRecDepth 100000 in
theorem natof_ok (A : Option Addr) (X : List Nat) (cx : Nat) (w : World) (hX : IsD w A X) (hc : X.length ≤ cx) (hm : X.length ≤ 1048576) (hv : dv B32 X < Top) :
    Calls Try.prog 69 #[.slice A X.length cx] w (Made w (.tuple #[.string (bs (dv B32 X)), .int .i64 0])) := by
  obtain ⟨i0, hi0, hz0, hz1, hz2⟩ := info_parts info_u8
  go_enter Try.func69, Try.ntmps69
  go_wp2_with fail
  refine (trim_any A X cx _ hX hc hm).mono ?_
  rintro e w' ⟨m, hm1, hm2, hm3, rfl, rfl⟩
  have h32 : m ≤ 32 := by rw [trimmed_le hm1 hm2 hm3 hX.1]; exact hv
  have hZ := hX.take m
  have hzl : (X.take m).length = m := by rw [List.length_take]; omega
  rw [← hm3] at hv
  have HD := Lib.hid hm3
  clear hX hm2 hm3 hc hm
  generalize X.take m = Z at *
  clear hm1
  subst hzl
  obtain ⟨V, hV⟩ : ∃ V, V = dv B32 Z := ⟨_, rfl⟩
  rw [← hV] at hv
  have HV := Lib.hid hV
  have HVT := Lib.hid hv
  clear hV hv
  go_wp2_with (at_make; refine wpList_make_own _ rfl _ _ 77 rfl w.heap.size 5 i0 (.int .u8 0) 1 Try.underlying77 hi0 hz0 hz1 _ _ _ (4 * Z.length) rfl rfl (by omega) (by rw [hz2]; omega) (by unfold maxLen; omega) (Nat.le_refl _) ?_; intro w0 hown0 hgrow0)
  have hb0 : Below w.heap.size w w0 := (Below.refl _ _).grown hgrow0 (Nat.le_refl _) (fun g hg => by cases hg)
  clear hgrow0
  go_loopw [4, 20] (fun v c wr => ∃ i j : Nat, Hid (i + j = 4 * Z.length) ∧ i ≤ 4 * Z.length ∧ c = .int .i64 i ∧ wr.ownsRow w.heap.size 5 1 v (cb (shN V j)).length (cellsB (cb (shN V j))) ∧ Below w.heap.size w wr) (fun _ c _ => 4 * Z.length - (intOf c).toNat)
  case atStart => exact ⟨0, 4 * Z.length, Lib.hid (by omega), by omega, rfl, by
      have h0 : shN V (4 * Z.length) = 0 := by
        unfold shN
        refine Nat.div_eq_of_lt ?_
        have := hZ.1.dv_lt
        rw [← HV.out] at this
        rw [Nat.pow_mul]
        exact this
      rw [h0, cb_zero]; exact hown0, hb0⟩
  case round =>
    obtain ⟨i, j, HIJ, hi, rfl, hown, hbel⟩ := hrel
    obtain ⟨A1, cap, rfl⟩ := owns_form hown
    by_cases hlt : i < 4 * Z.length
    · obtain ⟨p, rfl⟩ : ∃ p, j = p + 1 := ⟨j - 1, by have := HIJ.out; omega⟩
      have hp : (4 * (Z.length : Int) - 1 - (i : Int)) = (p : Int) := by have := HIJ.out; omega
      have hpl : p / 4 < Z.length := by have := HIJ.out; omega
      obtain ⟨gx, ox, rfl, hgx, hcx⟩ := hZ.2 (by omega)
      have hcx' := (hbel.cell (p := ⟨gx, ox + p / 4, none⟩) hgx).trans (hcx (p / 4) hpl)
      obtain ⟨x, hx⟩ : ∃ x, x = Z.getD (p / 4) 0 := ⟨_, rfl⟩
      have hby := digit_byte Z hZ.1 p x hx
      rw [← hx] at hcx'
      obtain ⟨b, hb⟩ : ∃ b, b = shN V p % 256 := ⟨_, rfl⟩
      rw [← HV.out, ← hb] at hby
      have HB := Lib.hid hb
      have HX := Lib.hid hx
      clear hx hb hcx
      have hpp : p < 128 := by have := HIJ.out; omega
      have hb2 : b < 256 := by have := HB.out; omega
      by_cases hm : shN V p = 0
      · have hm0 : shN V (p + 1) = 0 := by have := div_byte V p; unfold shN at hm ⊢; omega
        have hb0 : b = 0 := by rw [HB.out, hm]
        have HM := Lib.hid hm
        rw [hm0, cb_zero] at hown ⊢
        subst hb0
        clear hm0 hm
        go_wp2
        go_roundw
        case rel => exact ⟨i + 1, p, Lib.hid (by have := HIJ.out; omega), by have := HIJ.out; omega, by go_num, by rw [HM.out, cb_zero]; exact hown, hbel⟩
        case measure => simp only [intOf]; have := HIJ.out; omega
      · have hs' : cb (shN V p) = cb (shN V (p + 1)) ++ [UInt8.ofNat b] := cb_next HB.out hm
        have hbt : ((UInt8.ofNat b).toNat : Int) = b := by rw [UInt8.toNat_ofNat']; omega
        have hk8 : (cb (shN V (p + 1))).length ≤ 128 := by
          rw [cb_length_le]
          exact Nat.lt_of_le_of_lt (Nat.div_le_self _ _) HVT.out
        have hbase := hbel.size
        have HS' := Lib.hid hs'
        have HBT := Lib.hid hbt
        have hdec : ((b : Int) != 0) = true ∨ ((b : Int) != 0) = false ∧ 0 < (cb (shN V (p + 1))).length := by
          by_cases h0 : b = 0
          · right
            refine ⟨by simp [h0], ?_⟩
            have h1 : shN V (p + 1) ≠ 0 := by
              have := div_byte V p
              have := HB.out
              unfold shN at *
              omega
            have : cb (shN V (p + 1)) ≠ [] := fun e => h1 (cb_eq_nil.1 e)
            exact List.length_pos_iff.2 this
          · left; simpa using h0
        clear hs' hbt hm
        have hnw : ∀ (C : Array Value) (u : Value), C[0]? = some u → ∀ (j : Nat) (v : Value), [u][j]? = some v → (wr.alloc (.cells C 5)).cell? (Addr.add ⟨wr.heap.size, 0, none⟩ j) = some v := by
          intro C u hC j v hj
          match j, hj with
          | 0, hj =>
            simp at hj; subst hj
            rw [show Addr.add ⟨wr.heap.size, 0, none⟩ 0 = ⟨wr.heap.size, 0, none⟩ from rfl, World.cell?_alloc_mark]
            exact hC
        have hone : ∀ u ∈ [Value.int .u8 (b : Int)], u.oneCell' = true := by intro u hu; simp at hu; subst hu; rfl
        have HNW := Lib.hid hnw
        have HONE := Lib.hid hone
        clear hnw hone
        rcases hdec with hz | ⟨hz, hp'⟩
        · go_wp2_with (at_builtin; refine wpList_append_own _ rfl _ _ 77 rfl w.heap.size 5 i0 (.int .u8 0) 1 1 Try.underlying77 hi0 hz0 hz1 hz2 rfl (by decide) _ _ _ rfl (hown.alloc _) ⟨wr.heap.size, 0, none⟩ 1 1 [.int .u8 (b : Int)] rfl rfl (HNW.out _ _ rfl) HONE.out (by unfold maxLen; omega) (by omega) (by simp; omega) ?_; intro v1 w1 hown1 hg1 _; have hbel1 := (hbel.alloc hbel.size (.cells #[.int .u8 (b : Int)] 5)).grown hg1 (by simp; omega) (fun g hg => (hown.lt g hg).1))
          go_roundw
          case rel => exact ⟨i + 1, p, Lib.hid (by have := HIJ.out; omega), by have := HIJ.out; omega, by go_num, by rw [HS'.out, cellsB_snoc, HBT.out, List.length_append]; exact hown1, hbel1⟩
          case measure => simp only [intOf]; have := HIJ.out; omega
        · go_wp2_with (at_builtin; refine wpList_append_own _ rfl _ _ 77 rfl w.heap.size 5 i0 (.int .u8 0) 1 1 Try.underlying77 hi0 hz0 hz1 hz2 rfl (by decide) _ _ _ rfl (hown.alloc _) ⟨wr.heap.size, 0, none⟩ 1 1 [.int .u8 (b : Int)] rfl rfl (HNW.out _ _ rfl) HONE.out (by unfold maxLen; omega) (by omega) (by simp; omega) ?_; intro v1 w1 hown1 hg1 _; have hbel1 := (hbel.alloc hbel.size (.cells #[.int .u8 (b : Int)] 5)).grown hg1 (by simp; omega) (fun g hg => (hown.lt g hg).1))
          go_roundw
          case rel => exact ⟨i + 1, p, Lib.hid (by have := HIJ.out; omega), by have := HIJ.out; omega, by go_num, by rw [HS'.out, cellsB_snoc, HBT.out, List.length_append]; exact hown1, hbel1⟩
          case measure => simp only [intOf]; have := HIJ.out; omega
    · have hie : i = 4 * Z.length := by have := HIJ.out; omega
      have hj0 : j = 0 := by have := HIJ.out; omega
      subst hj0
      have hsz : (⟨(cb (shN V 0)).toArray⟩ : ByteArray) = bs (dv B32 X) := by
        rw [← HD.out, ← HV.out]; unfold shN bs; simp
      have hcv := owns_string (P := Try.prog) (src := 77) (dst := 22) hown Try.underlying77 Try.underlying5 Try.underlying22
      have HSZ := Lib.hid hsz
      clear HIJ hie hi hsz
      go_wp2
      go_ret2
      exact ⟨by rw [← HSZ.out]; rfl, hbel⟩
end Go.Proofs.Ytehpdpcpdfgnlaa
