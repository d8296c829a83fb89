/-
  The contract of dominolaw01.Few.
-/
import Derived.Test.YtbkbjjdjgiapdaaAwake
namespace Go.Proofs.Ytbkbjjdjgiapdaa
open Go.RowKit Num

set_option maxHeartbeats 400000 in
theorem few_yes (g n cap : Nat) (f : Nat → ByteArray) (w : World) (hc : ∀ k, k < n → w.cell? ⟨g, k, none⟩ = some (.string (f k))) (hn : n ≤ 1000) (hs : ∀ k, k < n → (f k).size ≤ 200) :
    Calls Try.prog 14 #[.slice (some ⟨g, 0, none⟩) n cap] w (Same w (.bool true)) := by
  have HC := Lib.hid hc
  have HS := Lib.hid hs
  clear hc hs
  go_enter Try.func14, Try.ntmps14
  go_wp2
  go_loop [3] (fun c => ∃ k : Nat, k ≤ n ∧ c = .int .i64 k) (fun c => n - (intOf c).toNat)
  case atStart => exact ⟨0, Nat.zero_le _, rfl⟩
  case round =>
    obtain ⟨k, hk, rfl⟩ := hrel
    by_cases hlt : k < n
    · have hck := HC.out k hlt
      have hsk := HS.out k hlt
      go_wp2
      go_round
      case rel => exact ⟨k + 1, by omega, by go_num⟩
      case measure => simp [intOf]; omega
    · go_wp2
      go_ret
      exact ⟨rfl, rfl⟩
set_option maxHeartbeats 400000 in
theorem few_no (g n cap : Nat) (f : Nat → ByteArray) (w : World) (hc : ∀ k, k < n → w.cell? ⟨g, k, none⟩ = some (.string (f k))) (hn : n ≤ 1000) (hm : ∀ k, k < n → (f k).size ≤ 9223372036854775807) (hs : ∃ k, k < n ∧ 200 < (f k).size) :
    Calls Try.prog 14 #[.slice (some ⟨g, 0, none⟩) n cap] w (Same w (.bool false)) := by
  have HC := Lib.hid hc
  have HM := Lib.hid hm
  obtain ⟨k0, hk0, hk1⟩ := hs
  have HK1 := Lib.hid hk1
  clear hc hm hk1
  go_enter Try.func14, Try.ntmps14
  go_wp2
  go_loop [3] (fun c => ∃ k : Nat, k ≤ k0 ∧ c = .int .i64 k) (fun c => n - (intOf c).toNat)
  case atStart => exact ⟨0, Nat.zero_le _, rfl⟩
  case round =>
    obtain ⟨k, hk, rfl⟩ := hrel
    have hlt : k < n := by omega
    have hck := HC.out k hlt
    have hsk := HM.out k hlt
    by_cases hbig : 200 < (f k).size
    · go_wp2
      go_ret
      exact ⟨rfl, rfl⟩
    · have hne : k < k0 := by
        rcases Nat.lt_or_eq_of_le hk with h | h
        · exact h
        · exfalso; apply hbig; rw [h]; exact HK1.out
      go_wp2
      go_round
      case rel => exact ⟨k + 1, by omega, by go_num⟩
      case measure => simp [intOf]; omega
end Go.Proofs.Ytbkbjjdjgiapdaa
