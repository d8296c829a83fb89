/-
  Contracts of the reference's Order, Cmp, bits, one, Plus and Minus.
-/
import Derived.Test.YtehpdpcpdfgnlaaRefB
namespace Go.Proofs.Ytehpdpcpdfgnlaa
open Go.RowKit Num

theorem hi_bounds (n k : Nat) : hi n k * 256 ^ ((bs n).size - k) ≤ n ∧ n < (hi n k + 1) * 256 ^ ((bs n).size - k) := by
  have h1 := bval_append ((cb n).take k) ((cb n).drop k)
  rw [List.take_append_drop, bval_cb, List.length_drop, ← bs_size] at h1
  have h2 := bval_lt ((cb n).drop k)
  rw [List.length_drop, ← bs_size] at h2
  unfold hi
  rw [Nat.add_mul, Nat.one_mul]
  omega
theorem order_lt {a b k : Nat} (hs : (bs a).size = (bs b).size) (hlt : hi a (k + 1) < hi b (k + 1)) : a < b := by
  have h1 := hi_bounds a (k + 1)
  have h2 := hi_bounds b (k + 1)
  rw [← hs] at h2
  have h3 : (hi a (k + 1) + 1) * 256 ^ ((bs a).size - (k + 1)) ≤ hi b (k + 1) * 256 ^ ((bs a).size - (k + 1)) := Nat.mul_le_mul_right _ hlt
  omega

set_option maxHeartbeats 1000000 in
set_option maxRecDepth 100000 in
theorem order_any (a b : Nat) (w : World) (h1 : (bs a).size ≤ 100000) :
    Calls Try.prog 96 #[.string (bs a), .string (bs b)] w (Made w (.int .i64 (cmpN a b))) := by
  rcases Nat.lt_trichotomy (bs a).size (bs b).size with g | g | g
  · have hc : cmpN a b = -1 := by have := bs_lt_of_size g; simp [cmpN]; omega
    have d1 : decide ((bs a).size < (bs b).size) = true := by simpa using g
    have d2 : (((bs a).size : Int) != ((bs b).size : Int)) = true := by rw [bne_iff_ne]; omega
    rw [hc]; clear hc
    go_enter Try.func96, Try.ntmps96
    go_wp2
    go_ret
    exact ⟨rfl, Below.refl _ _⟩
  · have d2 : (((bs a).size : Int) != ((bs b).size : Int)) = false := by rw [bne_eq_false_iff_eq]; omega
    have G := Lib.hid g
    clear g
    go_enter Try.func96, Try.ntmps96
    go_wp2
    go_loopw [5] (fun c wr => ∃ k : Nat, k ≤ (bs a).size ∧ c = .int .i64 k ∧ Hid (hi a k = hi b k) ∧ Below w.heap.size w wr) (fun c _ => (bs a).size - (intOf c).toNat)
    case atStart => exact ⟨0, Nat.zero_le _, rfl, Lib.hid (by rw [hi_zero, hi_zero]), Below.refl _ _⟩
    case round =>
      obtain ⟨k, hk, rfl, HE, hbel⟩ := hrel
      by_cases hlt : k < (bs a).size
      · have hltb : k < (bs b).size := by have := G.out; omega
        have ha := hi_succ a k hlt
        have hb := hi_succ b k hltb
        obtain ⟨x, hx⟩ : ∃ x, (bs a)[k].toNat = x := ⟨_, rfl⟩
        obtain ⟨y, hy⟩ : ∃ y, (bs b)[k].toNat = y := ⟨_, rfl⟩
        have hxi : ((bs a)[k].toNat : Int) = (x : Int) := by rw [hx]
        have hyi : ((bs b)[k].toNat : Int) = (y : Int) := by rw [hy]
        rw [hx, HE.out] at ha
        rw [hy] at hb
        have HA := Lib.hid ha
        have HB := Lib.hid hb
        clear ha hb hx hy
        rcases Nat.lt_trichotomy x y with h | h | h
        · have hc : cmpN a b = -1 := by
            have := order_lt (k := k) G.out (by rw [HA.out, HB.out]; omega)
            unfold cmpN; rw [if_pos this]
          have HC := Lib.hid hc
          have e1 : ((x : Int) != (y : Int)) = true := by rw [bne_iff_ne]; omega
          have d3 : decide (x < y) = true := by simpa using h
          clear hc
          go_wp2
          go_region
          go_wp2
          go_region
          go_wp2
          go_ret
          exact ⟨by rw [HC.out]; rfl, hbel.drew.drew⟩
        · subst h
          have HN : Hid (hi a (k + 1) = hi b (k + 1)) := Lib.hid (by rw [HA.out, HB.out])
          have e1 : ((x : Int) != (x : Int)) = false := by simp
          go_wp2
          go_region
          go_wp2
          go_roundw
          case rel => exact ⟨k + 1, by omega, by go_num, HN, hbel.drew⟩
          case measure => simp [intOf]; omega
        · have hc : cmpN a b = 1 := by
            have := order_lt (k := k) G.out.symm (by rw [HA.out, HB.out]; omega)
            unfold cmpN; rw [if_neg (by omega), if_pos this]
          have HC := Lib.hid hc
          have e1 : ((x : Int) != (y : Int)) = true := by rw [bne_iff_ne]; omega
          have d3 : decide (x < y) = false := by simp; omega
          clear hc
          go_wp2
          go_region
          go_wp2
          go_region
          go_wp2
          go_ret
          exact ⟨by rw [HC.out]; rfl, hbel.drew.drew⟩
      · have hab : a = b := by
          have h3 : k = (bs a).size := by omega
          have := HE.out
          rw [h3, hi_all, G.out, hi_all] at this
          exact this
        have HC : Hid (cmpN a b = 0) := Lib.hid (by rw [hab]; unfold cmpN; rw [if_neg (by omega), if_neg (by omega)])
        clear hab
        go_wp2
        go_ret
        exact ⟨by rw [HC.out]; rfl, hbel⟩
  · have hc : cmpN a b = 1 := by have := bs_lt_of_size g; simp [cmpN]; omega
    have d1 : decide ((bs a).size < (bs b).size) = false := by simp; omega
    have d2 : (((bs a).size : Int) != ((bs b).size : Int)) = true := by rw [bne_iff_ne]; omega
    rw [hc]; clear hc
    go_enter Try.func96, Try.ntmps96
    go_wp2
    go_ret
    exact ⟨rfl, Below.refl _ _⟩

set_option maxHeartbeats 400000 in
theorem rcmp_yes {a b : Nat} (ha : a < Top) (hb : b < Top) (w : World) :
    Calls Try.prog 77 #[.string (bs a), .string (bs b)] w (Made w (.int .i64 (cmpN a b))) := by
  have h1 := bs_small ha
  have h2 := bs_small hb
  have HA := Lib.hid ha
  have HB := Lib.hid hb
  clear ha hb
  go_enter Try.func77, Try.ntmps77
  go_wp2_with fail
  refine (rvalid_yes HA.out _).mono ?_
  rintro e w' ⟨rfl, rfl⟩
  go_wp2_with fail
  refine (rvalid_yes HB.out _).mono ?_
  rintro e w' ⟨rfl, rfl⟩
  go_wp2_with fail
  refine (order_any a b _ (by omega)).mono ?_
  rintro e w' ⟨rfl, hb⟩
  go_wp2
  go_ret
  exact ⟨rfl, hb⟩

set_option maxHeartbeats 400000 in
theorem rbits_any (a : Nat) (w : World) (hs : (bs a).size ≤ 100000) :
    Calls Try.prog 94 #[.string (bs a)] w (Same w (.int .i64 (nb a : Nat))) := by
  by_cases h0 : a = 0
  · have he : (bs a).toList.isEmpty = true := by rw [bs_isEmpty]; simpa using h0
    have HN := Lib.hid (show nb a = 0 by rw [h0, nb_zero])
    clear h0
    go_enter Try.func94, Try.ntmps94
    go_wp2
    go_ret
    exact ⟨by rw [HN.out]; rfl, rfl⟩
  · have he : (bs a).toList.isEmpty = false := by rw [bs_isEmpty]; simpa using h0
    have hp := bs_pos h0
    have hn := nb_bytes h0 hp
    obtain ⟨b, hb⟩ : ∃ b : Nat, (bs a)[0].toNat = b := ⟨_, rfl⟩
    have hbb : b < 256 := by rw [← hb]; exact byte_lt _
    rw [hb] at hn
    have hbi : ((bs a)[0].toNat : Int) = (b : Int) := by rw [hb]
    have HN := Lib.hid hn
    clear h0 hb hn
    go_enter Try.func94, Try.ntmps94
    go_wp2
    go_loop [3, 4] (fun u v => ∃ m x : Nat, u = .int .i64 m ∧ v = .int .i64 x ∧ x < 256 ∧ m ≤ 1000000 ∧ Hid (m + Lib.bitLen x = nb a)) (fun _ v => (intOf v).toNat)
    case atStart => exact ⟨8 * ((bs a).size - 1), b, by go_num, rfl, hbb, by omega, Lib.hid HN.out.symm⟩
    case round =>
      obtain ⟨m, x, rfl, rfl, hx, hm, HE⟩ := hrel
      by_cases hx0 : 0 < x
      · have hh := Lib.bitLen_half x (by omega) (by omega)
        have hl : Lib.bitLen x ≤ 8 := Lib.bitLen_le x 8 (by omega) hx
        have HX := Lib.hid (show m + 1 + Lib.bitLen (x / 2) = nb a by have := HE.out; omega)
        have hmb : m + 1 ≤ 1000000 := by have := HE.out; have := HN.out; have := Lib.bitLen_le b 8 (by omega) hbb; omega
        clear hh
        go_wp2
        go_round
        case rel => exact ⟨m + 1, x / 2, by go_num, by go_num, by omega, hmb, HX⟩
        case measure => simp [intOf]; omega
      · obtain rfl : x = 0 := by omega
        have HZ : Hid (m = nb a) := Lib.hid (by have := HE.out; rw [show Lib.bitLen 0 = 0 from rfl] at this; omega)
        go_wp2
        go_ret
        exact ⟨by rw [← HZ.out]; rfl, rfl⟩
end Go.Proofs.Ytehpdpcpdfgnlaa
