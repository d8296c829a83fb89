/-
  dominolaw03.few, dominoref03.Mod.
-/
import Derived.Test.YtppdolmeeiookaaConM
import Derived.Test.YtppdolmeeiookaaBlk
namespace Go.Proofs.Ytppdolmeeiookaa
open Go.RowKit Num

theorem lt_topk {n k : Nat} (h : n < 256 ^ k) (hk : k ≤ 128) : n < Top := Nat.lt_of_lt_of_le h (Nat.pow_le_pow_right (by decide) hk)

set_option maxHeartbeats 1000000 in
set_option maxRecDepth 100000 in
theorem few3_any (A B E M : ByteArray) (q : Bool) (w : World) (hA : A.size ≤ 9223372036854775807) (hB : B.size ≤ 9223372036854775807) (hE : E.size ≤ 9223372036854775807) (hM : M.size ≤ 9223372036854775807) (r : Bool)
    (hr : (decide (A.size ≤ 24) && decide (B.size ≤ 24) && decide (E.size ≤ 16) && decide (M.size ≤ 8)) = r) :
    Calls Try.prog 14 #[.agg #[.string A, .string B, .bool q, .string E, .string M]] w (Made w (.bool r)) := by
  subst hr
  by_cases h1 : A.size ≤ 24 <;> by_cases h2 : B.size ≤ 24 <;> by_cases h3 : E.size ≤ 16 <;> by_cases h4 : M.size ≤ 8
  all_goals
    go_enter Try.func14, Try.ntmps14
    go_wp2
    go_ret
    exact ⟨by simp [*] <;> omega, (Below.refl _ _).alloc (Nat.le_refl _) _⟩

set_option maxHeartbeats 400000 in
theorem rmod3 (a m : Nat) (w : World) (ha : a < Top) (hm : m < Top) (h0 : m ≠ 0) : Calls Try.prog 19 #[.string (bs a), .string (bs m)] w (Made w (.string (bs (a % m)))) := by
  have HD := Lib.hid (fun W => rdivmod_ok ha hm h0 W)
  clear ha hm h0
  go_enter Try.func19, Try.ntmps19
  go_wp2_with fail
  refine (HD.out _).mono ?_
  rintro e w1 ⟨rfl, hb1⟩
  go_wp2
  go_ret
  exact ⟨rfl, hb1⟩
end Go.Proofs.Ytppdolmeeiookaa
