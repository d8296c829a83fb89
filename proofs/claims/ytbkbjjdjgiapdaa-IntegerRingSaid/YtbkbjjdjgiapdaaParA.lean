/-
  The texts that Parse accepts, and the contract of natural.decimal.
-/
import Derived.Test.YtbkbjjdjgiapdaaRefJ
namespace Go.Proofs.Ytbkbjjdjgiapdaa
open Go.RowKit Num

def digB (b : UInt8) : Bool := decide (48 ≤ b.toNat) && decide (b.toNat ≤ 57)
/-- A text of a number: digits, without a superfluous leading zero. -/
def okText (s : ByteArray) : Prop := 0 < s.size ∧ (∀ h : 0 < s.size, (s[0]).toNat = 48 → s.size ≤ 1) ∧ ∀ k (h : k < s.size), 48 ≤ (s[k]).toNat ∧ (s[k]).toNat ≤ 57
/-- The number of the first k digits. -/
def pv (s : ByteArray) (k : Nat) : Nat := (s.data.toList.take k).foldl (fun a b => a * 10 + (b.toNat - 48)) 0
theorem pv_zero (s : ByteArray) : pv s 0 = 0 := by simp [pv]
theorem pv_succ (s : ByteArray) (k : Nat) (h : k < s.size) : pv s (k + 1) = pv s k * 10 + ((s[k]).toNat - 48) := by
  unfold pv
  rw [take_snoc _ k (by rw [size_toList]; exact h), List.foldl_append]
  rfl
theorem isEmpty_size (s : ByteArray) : s.toList.isEmpty = decide (s.size = 0) := by
  rw [ByteArray.toList_eq]
  cases hc : s.data.toList with
  | nil =>
    have h1 := size_toList s
    rw [hc] at h1
    have h2 : s.size = 0 := h1.symm
    rw [h2]; rfl
  | cons a l =>
    have h1 := size_toList s
    rw [hc] at h1
    have h2 : s.size ≠ 0 := by rw [← h1]; simp
    simp [h2]

set_option maxHeartbeats 400000 in
set_option maxRecDepth 100000 in
theorem decimal_yes (s : ByteArray) (w : World) (hs : s.size ≤ 1000) (hok : okText s) :
    Calls Try.prog 67 #[.string s] w (Same w (.bool true)) := by
  obtain ⟨hp, hz, hd⟩ := hok
  have ht : s.toList.isEmpty = false := by rw [isEmpty_size]; exact decide_eq_false (by omega)
  have HD := Lib.hid hd
  clear hd
  by_cases h0 : (s[0]).toNat = 48
  · have h1 := hz hp h0
    have h1' : decide ((1 : Int) < (s.size : Int)) = false := decide_eq_false (by omega)
    have hb : (((s[0]).toNat : Int) == 48) = true := by rw [beq_iff_eq]; omega
    clear hz h0
    go_enter Try.func67, Try.ntmps67
    go_wp2
    go_loopw [18] (fun v wr => ∃ i : Nat, i ≤ s.size ∧ v = .int .i64 i ∧ wr = w) (fun v _ => s.size - (intOf v).toNat)
    case atStart => exact ⟨0, by omega, rfl, rfl⟩
    case round =>
      obtain ⟨i, hi, rfl, rfl⟩ := hrel
      by_cases hlt : i < s.size
      · obtain ⟨g1, g2⟩ := HD.out i hlt
        have g3 : decide (((s[i]).toNat : Int) < 48) = false := decide_eq_false (by omega)
        have g4 : decide ((57 : Int) < ((s[i]).toNat : Int)) = false := decide_eq_false (by omega)
        go_wp2
        go_roundw
        case rel => exact ⟨i + 1, by omega, by go_num, by trivial⟩
        case measure => simp [intOf]; omega
      · have hdd : decide (i < s.size) = false := by simpa using hlt
        go_wp2
        go_ret
        exact ⟨rfl, rfl⟩
  · have hb : (((s[0]).toNat : Int) == 48) = false := by rw [beq_eq_false_iff_ne]; omega
    clear hz h0
    go_enter Try.func67, Try.ntmps67
    go_wp2
    go_loopw [18] (fun v wr => ∃ i : Nat, i ≤ s.size ∧ v = .int .i64 i ∧ wr = w) (fun v _ => s.size - (intOf v).toNat)
    case atStart => exact ⟨0, by omega, rfl, rfl⟩
    case round =>
      obtain ⟨i, hi, rfl, rfl⟩ := hrel
      by_cases hlt : i < s.size
      · obtain ⟨g1, g2⟩ := HD.out i hlt
        have g3 : decide (((s[i]).toNat : Int) < 48) = false := decide_eq_false (by omega)
        have g4 : decide ((57 : Int) < ((s[i]).toNat : Int)) = false := decide_eq_false (by omega)
        go_wp2
        go_roundw
        case rel => exact ⟨i + 1, by omega, by go_num, by trivial⟩
        case measure => simp [intOf]; omega
      · have hdd : decide (i < s.size) = false := by simpa using hlt
        go_wp2
        go_ret
        exact ⟨rfl, rfl⟩

set_option maxHeartbeats 400000 in
set_option maxRecDepth 100000 in
theorem decimal_no (s : ByteArray) (w : World) (hs : s.size ≤ 1000) (hno : ¬ okText s) :
    Calls Try.prog 67 #[.string s] w (Same w (.bool false)) := by
  by_cases hp : 0 < s.size
  case neg =>
    have ht : s.toList.isEmpty = true := by rw [isEmpty_size]; exact decide_eq_true (by omega)
    clear hno
    go_enter Try.func67, Try.ntmps67
    go_wp2
    go_ret
    exact ⟨rfl, rfl⟩
  have ht : s.toList.isEmpty = false := by rw [isEmpty_size]; exact decide_eq_false (by omega)
  by_cases h0 : (s[0]).toNat = 48
  · have hb : (((s[0]).toNat : Int) == 48) = true := by rw [beq_iff_eq]; omega
    by_cases h1 : 1 < s.size
    · have h1' : decide ((1 : Int) < (s.size : Int)) = true := decide_eq_true (by omega)
      clear h0 hno
      go_enter Try.func67, Try.ntmps67
      go_wp2
      go_ret
      exact ⟨rfl, rfl⟩
    have h1' : decide ((1 : Int) < (s.size : Int)) = false := decide_eq_false (by omega)
    have HND := Lib.hid (show (∀ k (h : k < s.size), 48 ≤ (s[k]).toNat ∧ (s[k]).toNat ≤ 57) → False from fun h => hno ⟨hp, fun _ _ => by omega, h⟩)
    clear h0 hno
    go_enter Try.func67, Try.ntmps67
    go_wp2
    go_loopw [18] (fun v wr => ∃ i : Nat, i ≤ s.size ∧ v = .int .i64 i ∧ Hid (∀ k (h : k < s.size), k < i → 48 ≤ (s[k]).toNat ∧ (s[k]).toNat ≤ 57) ∧ wr = w) (fun v _ => s.size - (intOf v).toNat)
    case atStart => exact ⟨0, by omega, rfl, Lib.hid (fun k h hk => by omega), rfl⟩
    case round =>
      obtain ⟨i, hi, rfl, HI, rfl⟩ := hrel
      by_cases hlt : i < s.size
      · by_cases g1 : (s[i]).toNat < 48
        · have g3 : decide (((s[i]).toNat : Int) < 48) = true := decide_eq_true (by omega)
          clear g1
          go_wp2
          go_ret
          exact ⟨rfl, rfl⟩
        · have g3 : decide (((s[i]).toNat : Int) < 48) = false := decide_eq_false (by omega)
          by_cases g2 : 57 < (s[i]).toNat
          · have g4 : decide ((57 : Int) < ((s[i]).toNat : Int)) = true := decide_eq_true (by omega)
            clear g1 g2
            go_wp2
            go_ret
            exact ⟨rfl, rfl⟩
          · have g4 : decide ((57 : Int) < ((s[i]).toNat : Int)) = false := decide_eq_false (by omega)
            have HI2 := Lib.hid (show ∀ k (h : k < s.size), k < i + 1 → 48 ≤ (s[k]).toNat ∧ (s[k]).toNat ≤ 57 from fun k h hk => by
              by_cases e : k = i
              · subst e; omega
              · exact HI.out k h (by omega))
            clear g1 g2
            go_wp2
            go_roundw
            case rel => exact ⟨i + 1, by omega, by go_num, HI2, by trivial⟩
            case measure => simp [intOf]; omega
      · exact absurd (HND.out (fun k h => HI.out k h (by omega))) id
  · have hb : (((s[0]).toNat : Int) == 48) = false := by rw [beq_eq_false_iff_ne]; omega
    have HND := Lib.hid (show (∀ k (h : k < s.size), 48 ≤ (s[k]).toNat ∧ (s[k]).toNat ≤ 57) → False from fun h => hno ⟨hp, fun _ e => absurd e h0, h⟩)
    clear h0 hno
    go_enter Try.func67, Try.ntmps67
    go_wp2
    go_loopw [18] (fun v wr => ∃ i : Nat, i ≤ s.size ∧ v = .int .i64 i ∧ Hid (∀ k (h : k < s.size), k < i → 48 ≤ (s[k]).toNat ∧ (s[k]).toNat ≤ 57) ∧ wr = w) (fun v _ => s.size - (intOf v).toNat)
    case atStart => exact ⟨0, by omega, rfl, Lib.hid (fun k h hk => by omega), rfl⟩
    case round =>
      obtain ⟨i, hi, rfl, HI, rfl⟩ := hrel
      by_cases hlt : i < s.size
      · by_cases g1 : (s[i]).toNat < 48
        · have g3 : decide (((s[i]).toNat : Int) < 48) = true := decide_eq_true (by omega)
          clear g1
          go_wp2
          go_ret
          exact ⟨rfl, rfl⟩
        · have g3 : decide (((s[i]).toNat : Int) < 48) = false := decide_eq_false (by omega)
          by_cases g2 : 57 < (s[i]).toNat
          · have g4 : decide ((57 : Int) < ((s[i]).toNat : Int)) = true := decide_eq_true (by omega)
            clear g1 g2
            go_wp2
            go_ret
            exact ⟨rfl, rfl⟩
          · have g4 : decide ((57 : Int) < ((s[i]).toNat : Int)) = false := decide_eq_false (by omega)
            have HI2 := Lib.hid (show ∀ k (h : k < s.size), k < i + 1 → 48 ≤ (s[k]).toNat ∧ (s[k]).toNat ≤ 57 from fun k h hk => by
              by_cases e : k = i
              · subst e; omega
              · exact HI.out k h (by omega))
            clear g1 g2
            go_wp2
            go_roundw
            case rel => exact ⟨i + 1, by omega, by go_num, HI2, by trivial⟩
            case measure => simp [intOf]; omega
      · exact absurd (HND.out (fun k h => HI.out k h (by omega))) id
end Go.Proofs.Ytbkbjjdjgiapdaa
