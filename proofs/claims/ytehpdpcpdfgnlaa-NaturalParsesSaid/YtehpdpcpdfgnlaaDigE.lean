/-
  Contract of natural.trim.
-/
import Derived.Test.YtehpdpcpdfgnlaaMem
namespace Go.Proofs.Ytehpdpcpdfgnlaa
open Go.RowKit Num

/-- trim hands back the digits up to the last one that is not 0. -/
def Trimmed (A : Option Addr) (X : List Nat) (cx : Nat) (w : World) (e : Ending) (w' : World) : Prop :=
  ∃ m, m ≤ X.length ∧ (m = 0 ∨ X.getD (m - 1) 0 ≠ 0) ∧ dv B32 (X.take m) = dv B32 X ∧ e = .returned (.slice A m cx) ∧ w = w'

theorem trim_step {X : List Nat} {m : Nat} (h : dv B32 (X.take (m + 1)) = dv B32 X) (h0 : X.getD m 0 = 0) : dv B32 (X.take m) = dv B32 X := by
  rw [← h, dv_take_next, h0]; simp

set_option maxHeartbeats 400000 in
theorem trim_any (A : Option Addr) (X : List Nat) (cx : Nat) (w : World) (hX : IsD w A X) (hc : X.length ≤ cx) (hm : X.length ≤ 1048576) :
    Calls Try.prog 62 #[.slice A X.length cx] w (Trimmed A X cx w) := by
  go_enter Try.func62, Try.ntmps62
  go_wp2
  go_loop [0] (fun v => ∃ m : Nat, m ≤ X.length ∧ v = .slice A m cx ∧ Hid (dv B32 (X.take m) = dv B32 X)) (fun v => match v with | .slice _ m _ => m | _ => 0)
  case atStart => exact ⟨X.length, Nat.le_refl _, rfl, Lib.hid (by rw [List.take_length])⟩
  case round =>
    obtain ⟨m, hmX, rfl, HE⟩ := hrel
    by_cases h0 : 0 < m
    · obtain ⟨gx, ox, rfl, hgx, hcx⟩ := hX.2 (by omega)
      obtain ⟨k, rfl⟩ : ∃ k, m = k + 1 := ⟨m - 1, by omega⟩
      have hcx' := hcx k (by omega)
      obtain ⟨x, hx⟩ : ∃ x, x = X.getD k 0 := ⟨_, rfl⟩
      rw [← hx] at hcx'
      have HX := Lib.hid hx
      clear hx hcx
      by_cases hz : x = 0
      · subst hz
        go_wp2
        go_round
        case rel => exact ⟨k, by omega, rfl, Lib.hid (trim_step HE.out HX.out.symm)⟩
        case measure => show k < k + 1; omega
      · have hz' : ((x : Int) == 0) = false := by simpa using hz
        go_wp2
        go_ret
        exact ⟨k + 1, hmX, .inr (by rw [Nat.add_sub_cancel, ← HX.out]; exact hz), HE.out, rfl, rfl⟩
    · obtain rfl : m = 0 := by omega
      go_wp2
      go_ret
      exact ⟨0, Nat.zero_le _, .inl rfl, HE.out, rfl, rfl⟩
end Go.Proofs.Ytehpdpcpdfgnlaa
