/-
  dominolaw01.NaturalField returns true: the walk, for all strings.
-/
import Derived.Test.YtkhmihemgbaadaaAwake
namespace Go.Proofs.Ytkhmihemgbaadaa
open Go.RowKit Num

theorem lt_top_of {n k : Nat} (h : n < 256 ^ k) (hk : k ≤ 128) : n < Top := Nat.lt_of_lt_of_le h (Nat.pow_le_pow_right (by decide) hk)
theorem add_pow {a b k : Nat} (ha : a < 256 ^ k) (hb : b < 256 ^ k) : a + b < 256 ^ (k + 1) := by rw [Nat.pow_succ]; omega
theorem mul_pow {a b k m : Nat} (ha : a < 256 ^ k) (hb : b < 256 ^ m) : a * b < 256 ^ (k + m) := by rw [Nat.pow_add]; exact Nat.mul_lt_mul'' ha hb

set_option maxHeartbeats 2000000 in
set_option maxRecDepth 100000 in
theorem field_core (a b c : Nat) (w : World) (ha : a < 256 ^ 40) (hb : b < 256 ^ 40) (hc : c < 256 ^ 40) :
    Calls Try.prog 10 #[.string (bs a), .string (bs b), .string (bs c)] w (Made w (.bool true)) := by
  have sa : (bs a).size ≤ 40 := bs_le.2 ha
  have sb : (bs b).size ≤ 40 := bs_le.2 hb
  have sc : (bs c).size ≤ 40 := bs_le.2 hc
  have Ta := lt_top_of ha (by decide)
  have Tb := lt_top_of hb (by decide)
  have Tc := lt_top_of hc (by decide)
  have tab : a + b < Top := lt_top_of (add_pow ha hb) (by decide)
  have tp : (a + b) * c < Top := lt_top_of (mul_pow (add_pow ha hb) hc) (by decide)
  have tq : c * a < Top := lt_top_of (mul_pow hc ha) (by decide)
  have tr : b * c < Top := lt_top_of (mul_pow hb hc) (by decide)
  have A1 : ∀ W, Calls Try.prog 33 #[.string (bs a), .string (bs b)] W (Made W (.tuple #[.string (bs (a + b)), .int .i64 0])) := fun W => add_ok Ta Tb tab W
  have A2 : ∀ W, Calls Try.prog 33 #[.string (bs b), .string (bs a)] W (Made W (.tuple #[.string (bs (a + b)), .int .i64 0])) := fun W => by
    rw [Nat.add_comm a b]; exact add_ok Tb Ta (by rw [Nat.add_comm]; exact tab) W
  have M1 : ∀ W, Calls Try.prog 38 #[.string (bs (a + b)), .string (bs c)] W (Made W (.tuple #[.string (bs ((a + b) * c)), .int .i64 0])) := fun W => mul_ok tab Tc tp W
  have M2 : ∀ W, Calls Try.prog 38 #[.string (bs c), .string (bs a)] W (Made W (.tuple #[.string (bs (c * a)), .int .i64 0])) := fun W => mul_ok Tc Ta tq W
  have M3 : ∀ W, Calls Try.prog 38 #[.string (bs b), .string (bs c)] W (Made W (.tuple #[.string (bs (b * c)), .int .i64 0])) := fun W => mul_ok Tb Tc tr W
  have e3 : c * a + b * c = (a + b) * c := by rw [Nat.add_mul, Nat.mul_comm c]
  have A3 : ∀ W, Calls Try.prog 33 #[.string (bs (c * a)), .string (bs (b * c))] W (Made W (.tuple #[.string (bs ((a + b) * c)), .int .i64 0])) := fun W => by
    rw [← e3]; exact add_ok tq tr (by rw [e3]; exact tp) W
  have S1 : ∀ W, Calls Try.prog 35 #[.string (bs (a + b)), .string (bs b)] W (Made W (.tuple #[.string (bs a), .int .i64 0])) := fun W => by
    have := sub_ok (a := a + b) (b := b) tab Tb (by omega) W
    rw [Nat.add_sub_cancel] at this; exact this
  have V1 := Lib.hid (fun W => valid_yes Ta W)
  have V2 := Lib.hid (fun W => valid_yes Tb W)
  have V3 := Lib.hid (fun W => valid_yes Tc W)
  have HA1 := Lib.hid A1
  have HA2 := Lib.hid A2
  have HA3 := Lib.hid A3
  have HM1 := Lib.hid M1
  have HM2 := Lib.hid M2
  have HM3 := Lib.hid M3
  have HS1 := Lib.hid S1
  obtain ⟨x, hx⟩ : ∃ x, x = a + b := ⟨_, rfl⟩
  obtain ⟨y, hy⟩ : ∃ y, y = x * c := ⟨_, rfl⟩
  obtain ⟨z, hz⟩ : ∃ z, z = c * a := ⟨_, rfl⟩
  obtain ⟨u, hu⟩ : ∃ u, u = b * c := ⟨_, rfl⟩
  rw [← hz, ← hu, ← hx, ← hy] at HA3
  rw [← hx] at HA1 HA2
  rw [← hx, ← hy] at HM1
  rw [← hz] at HM2
  rw [← hu] at HM3
  rw [← hx] at HS1
  have hB : Below w.heap.size w w := Below.refl _ _
  clear A1 A2 A3 M1 M2 M3 S1 e3 hx hy hz hu Ta Tb Tc tab tp tq tr ha hb hc
  go_enter Try.func10, Try.ntmps10
  go_wp2_with (first
    | (go_at_call 25; (first | (with_reducible refine (V1.out _).mono ?_) | (with_reducible refine (V2.out _).mono ?_) | (with_reducible refine (V3.out _).mono ?_)); rintro e w' ⟨rfl, rfl⟩)
    | (go_at_call 33; (first | (with_reducible refine (HA1.out _).mono ?_) | (with_reducible refine (HA2.out _).mono ?_) | (with_reducible refine (HA3.out _).mono ?_)); rintro e w' ⟨rfl, hb⟩; replace hB := hB.trans (hb.mono hB.size); clear hb)
    | (go_at_call 38; (first | (with_reducible refine (HM1.out _).mono ?_) | (with_reducible refine (HM2.out _).mono ?_) | (with_reducible refine (HM3.out _).mono ?_)); rintro e w' ⟨rfl, hb⟩; replace hB := hB.trans (hb.mono hB.size); clear hb)
    | (go_at_call 35; (with_reducible refine (HS1.out _).mono ?_); rintro e w' ⟨rfl, hb⟩; replace hB := hB.trans (hb.mono hB.size); clear hb)
    | (go_at_call 22; refine (awake_any _).mono ?_; rintro e w' ⟨rfl, hb⟩; replace hB := hB.trans (hb.mono hB.size); clear hb))
  go_ret
  exact ⟨rfl, hB⟩

set_option maxHeartbeats 2000000 in
set_option maxRecDepth 100000 in
theorem law_field (a b c : ByteArray) (w : World) (ha : a.size ≤ 9223372036854775807) (hb : b.size ≤ 9223372036854775807) (hc : c.size ≤ 9223372036854775807) :
    Calls Try.prog 10 #[.string a, .string b, .string c] w (Made w (.bool true)) := by
  have hB : Below w.heap.size w w := Below.refl _ _
  by_cases h1 : 40 < a.size
  · go_enter Try.func10, Try.ntmps10
    go_wp2_with (go_at_call 22; refine (awake_any _).mono ?_; rintro e w' ⟨rfl, hb⟩; replace hB := hB.trans (hb.mono hB.size); clear hb)
    go_ret
    exact ⟨rfl, hB⟩
  by_cases h2 : 40 < b.size
  · go_enter Try.func10, Try.ntmps10
    go_wp2_with (go_at_call 22; refine (awake_any _).mono ?_; rintro e w' ⟨rfl, hb⟩; replace hB := hB.trans (hb.mono hB.size); clear hb)
    go_ret
    exact ⟨rfl, hB⟩
  by_cases h3 : 40 < c.size
  · go_enter Try.func10, Try.ntmps10
    go_wp2_with (go_at_call 22; refine (awake_any _).mono ?_; rintro e w' ⟨rfl, hb⟩; replace hB := hB.trans (hb.mono hB.size); clear hb)
    go_ret
    exact ⟨rfl, hB⟩
  have V1 := Lib.hid (fun W => valid_any a W ha)
  have V2 := Lib.hid (fun W => valid_any b W hb)
  have V3 := Lib.hid (fun W => valid_any c W hc)
  by_cases v1 : validB a = true
  case neg =>
    have v1 : validB a = false := by simpa using v1
    rw [v1] at V1
    clear v1
    go_enter Try.func10, Try.ntmps10
    go_wp2_with (first
      | (go_at_call 25; (first | (with_reducible refine (V1.out _).mono ?_) | (with_reducible refine (V2.out _).mono ?_) | (with_reducible refine (V3.out _).mono ?_)); rintro e w' ⟨rfl, rfl⟩)
      | (go_at_call 22; refine (awake_any _).mono ?_; rintro e w' ⟨rfl, hb⟩; replace hB := hB.trans (hb.mono hB.size); clear hb))
    go_ret
    exact ⟨rfl, hB⟩
  by_cases v2 : validB b = true
  case neg =>
    have v2 : validB b = false := by simpa using v2
    rw [v1] at V1
    rw [v2] at V2
    clear v1 v2
    go_enter Try.func10, Try.ntmps10
    go_wp2_with (first
      | (go_at_call 25; (first | (with_reducible refine (V1.out _).mono ?_) | (with_reducible refine (V2.out _).mono ?_) | (with_reducible refine (V3.out _).mono ?_)); rintro e w' ⟨rfl, rfl⟩)
      | (go_at_call 22; refine (awake_any _).mono ?_; rintro e w' ⟨rfl, hb⟩; replace hB := hB.trans (hb.mono hB.size); clear hb))
    go_ret
    exact ⟨rfl, hB⟩
  by_cases v3 : validB c = true
  case neg =>
    have v3 : validB c = false := by simpa using v3
    rw [v1] at V1
    rw [v2] at V2
    rw [v3] at V3
    clear v1 v2 v3
    go_enter Try.func10, Try.ntmps10
    go_wp2_with (first
      | (go_at_call 25; (first | (with_reducible refine (V1.out _).mono ?_) | (with_reducible refine (V2.out _).mono ?_) | (with_reducible refine (V3.out _).mono ?_)); rintro e w' ⟨rfl, rfl⟩)
      | (go_at_call 22; refine (awake_any _).mono ?_; rintro e w' ⟨rfl, hb⟩; replace hB := hB.trans (hb.mono hB.size); clear hb))
    go_ret
    exact ⟨rfl, hB⟩
  obtain ⟨x, _, rfl⟩ := bs_of_valid v1
  obtain ⟨y, _, rfl⟩ := bs_of_valid v2
  obtain ⟨z, _, rfl⟩ := bs_of_valid v3
  exact field_core x y z w (bs_le.1 (by omega)) (bs_le.1 (by omega)) (bs_le.1 (by omega))
end Go.Proofs.Ytkhmihemgbaadaa
