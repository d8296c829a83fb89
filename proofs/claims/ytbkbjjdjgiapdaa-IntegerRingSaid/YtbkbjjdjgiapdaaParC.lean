/-
  The contract of the reference's Parse at strings that are no text of a number.
-/
import Derived.Test.YtbkbjjdjgiapdaaParA
namespace Go.Proofs.Ytbkbjjdjgiapdaa
open Go.RowKit Num

set_option maxHeartbeats 400000 in
set_option maxRecDepth 100000 in
theorem rparse_no (s : ByteArray) (w : World) (hs : s.size ≤ 1000) (hno : ¬ okText s) :
    Calls Try.prog 19 #[.string s] w (Same w (.tuple #[.string (bs 0), .int .i64 4])) := by
  have HZ := Lib.hid bs_zero
  by_cases hp : 0 < s.size
  case neg =>
    have ht : s.toList.isEmpty = true := by rw [isEmpty_size]; exact decide_eq_true (by omega)
    clear hno
    go_enter Try.func19, Try.ntmps19
    go_wp2
    go_ret2
    exact ⟨by rw [HZ.out]; rfl, rfl⟩
  have ht : s.toList.isEmpty = false := by rw [isEmpty_size]; exact decide_eq_false (by omega)
  by_cases h0 : (s[0]).toNat = 48
  · have hb : (((s[0]).toNat : Int) == 48) = true := by rw [beq_iff_eq]; omega
    by_cases h1 : 1 < s.size
    · have h1' : decide ((1 : Int) < (s.size : Int)) = true := decide_eq_true (by omega)
      clear h0 hno
      go_enter Try.func19, Try.ntmps19
      go_wp2
      go_ret2
      exact ⟨by rw [HZ.out]; rfl, rfl⟩
    have h1' : decide ((1 : Int) < (s.size : Int)) = false := decide_eq_false (by omega)
    have HND := Lib.hid (show (∀ k (h : k < s.size), 48 ≤ (s[k]).toNat ∧ (s[k]).toNat ≤ 57) → False from fun h => hno ⟨hp, fun _ _ => by omega, h⟩)
    clear h0 hno
    go_enter Try.func19, Try.ntmps19
    go_wp2
    go_loopw [4] (fun v wr => ∃ i : Nat, i ≤ s.size ∧ v = .int .i64 i ∧ Hid (∀ k (h : k < s.size), k < i → 48 ≤ (s[k]).toNat ∧ (s[k]).toNat ≤ 57) ∧ wr = w) (fun v _ => s.size - (intOf v).toNat)
    case atStart => exact ⟨0, by omega, rfl, Lib.hid (fun k h hk => by omega), rfl⟩
    case round =>
      obtain ⟨i, hi, rfl, HI, rfl⟩ := hrel
      by_cases hlt : i < s.size
      · by_cases g1 : (s[i]).toNat < 48
        · have g3 : decide (((s[i]).toNat : Int) < 48) = true := decide_eq_true (by omega)
          clear g1
          go_wp2
          go_ret2
          exact ⟨by rw [HZ.out]; rfl, rfl⟩
        · have g3 : decide (((s[i]).toNat : Int) < 48) = false := decide_eq_false (by omega)
          by_cases g2 : 57 < (s[i]).toNat
          · have g4 : decide ((57 : Int) < ((s[i]).toNat : Int)) = true := decide_eq_true (by omega)
            clear g1 g2
            go_wp2
            go_ret2
            exact ⟨by rw [HZ.out]; rfl, rfl⟩
          · have g4 : decide ((57 : Int) < ((s[i]).toNat : Int)) = false := decide_eq_false (by omega)
            have HI2 := Lib.hid (show ∀ k (h : k < s.size), k < i + 1 → 48 ≤ (s[k]).toNat ∧ (s[k]).toNat ≤ 57 from fun k h hk => by
              by_cases e : k = i
              · subst e; omega
              · exact HI.out k h (by omega))
            clear g1 g2
            go_wp2
            go_roundw
            case rel => exact ⟨i + 1, by omega, by go_num, HI2, by trivial⟩
            case measure => simp [intOf]; omega
      · exact absurd (HND.out (fun k h => HI.out k h (by omega))) id
  · have hb : (((s[0]).toNat : Int) == 48) = false := by rw [beq_eq_false_iff_ne]; omega
    have HND := Lib.hid (show (∀ k (h : k < s.size), 48 ≤ (s[k]).toNat ∧ (s[k]).toNat ≤ 57) → False from fun h => hno ⟨hp, fun _ e => absurd e h0, h⟩)
    clear h0 hno
    go_enter Try.func19, Try.ntmps19
    go_wp2
    go_loopw [4] (fun v wr => ∃ i : Nat, i ≤ s.size ∧ v = .int .i64 i ∧ Hid (∀ k (h : k < s.size), k < i → 48 ≤ (s[k]).toNat ∧ (s[k]).toNat ≤ 57) ∧ wr = w) (fun v _ => s.size - (intOf v).toNat)
    case atStart => exact ⟨0, by omega, rfl, Lib.hid (fun k h hk => by omega), rfl⟩
    case round =>
      obtain ⟨i, hi, rfl, HI, rfl⟩ := hrel
      by_cases hlt : i < s.size
      · by_cases g1 : (s[i]).toNat < 48
        · have g3 : decide (((s[i]).toNat : Int) < 48) = true := decide_eq_true (by omega)
          clear g1
          go_wp2
          go_ret2
          exact ⟨by rw [HZ.out]; rfl, rfl⟩
        · have g3 : decide (((s[i]).toNat : Int) < 48) = false := decide_eq_false (by omega)
          by_cases g2 : 57 < (s[i]).toNat
          · have g4 : decide ((57 : Int) < ((s[i]).toNat : Int)) = true := decide_eq_true (by omega)
            clear g1 g2
            go_wp2
            go_ret2
            exact ⟨by rw [HZ.out]; rfl, rfl⟩
          · have g4 : decide ((57 : Int) < ((s[i]).toNat : Int)) = false := decide_eq_false (by omega)
            have HI2 := Lib.hid (show ∀ k (h : k < s.size), k < i + 1 → 48 ≤ (s[k]).toNat ∧ (s[k]).toNat ≤ 57 from fun k h hk => by
              by_cases e : k = i
              · subst e; omega
              · exact HI.out k h (by omega))
            clear g1 g2
            go_wp2
            go_roundw
            case rel => exact ⟨i + 1, by omega, by go_num, HI2, by trivial⟩
            case measure => simp [intOf]; omega
      · exact absurd (HND.out (fun k h => HI.out k h (by omega))) id
end Go.Proofs.Ytbkbjjdjgiapdaa
