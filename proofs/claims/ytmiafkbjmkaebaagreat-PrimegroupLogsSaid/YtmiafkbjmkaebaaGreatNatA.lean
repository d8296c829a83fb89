/-
  Contracts of natural's functions that only read: Valid. Contract of natural.Of: the canonical string of a number of 64 bits. Contracts of natural.Add and natural.Sub for canonical arguments.
-/
import Derived.Test.YtmiafkbjmkaebaaGreatBase
import Derived.Test.YtmiafkbjmkaebaaGreatDig
namespace Go.Proofs.YtmiafkbjmkaebaaGreat
open Go.RowKit Num

set_option maxHeartbeats 400000 in
theorem valid_any (s : ByteArray) (w : World) (hs : s.size ≤ 9223372036854775807) :
    Calls Tryz.prog 31 #[.string s] w fun e w' => e = .returned (.bool (validB s)) ∧ w = w' := by
  have hd : s.toList = s.data.toList := ByteArray.toList_eq s
  by_cases h1 : 128 < s.size
  · have hv : validB s = false := by unfold validB; rw [Bool.and_eq_false_iff]; left; simp; omega
    have Hv := Lib.hid hv; clear hv hd
    go_enter Tryz.func31, Tryz.ntmps31
    go_wp2
    go_ret
    rw [Hv.out]; exact ⟨rfl, rfl⟩
  · by_cases h2 : s.size = 0
    · have he : s.data.toList = [] := List.length_eq_zero_iff.1 (by rw [size_toList]; exact h2)
      have hv : validB s = true := by unfold validB; rw [he]; simp; omega
      have ht : s.toList.isEmpty = true := by rw [hd, he]; rfl
      have Hv := Lib.hid hv; clear hv hd he h2
      go_enter Tryz.func31, Tryz.ntmps31
      go_wp2
      go_ret
      rw [Hv.out]; exact ⟨rfl, rfl⟩
    · have hp : 0 < s.size := by omega
      have ht : s.toList.isEmpty = false := by
        rw [hd]; cases hc : s.data.toList with
        | nil => have := size_toList s; rw [hc] at this; simp at this; omega
        | cons a l => rfl
      have hh : s.data.toList.head? = some s[0] := by
        rw [List.head?_eq_getElem?, List.getElem?_eq_getElem (by rw [size_toList]; exact hp)]; rfl
      have hv : validB s = (s[0] != 0) := by
        unfold validB; rw [hh, decide_eq_true (by omega)]
        simp [bne]
      have hb : ((s[0].toNat : Int) != 0) = (s[0] != 0) := by
        rw [Bool.eq_iff_iff, bne_iff_ne, bne_iff_ne]
        constructor
        · intro h e; apply h; rw [e]; rfl
        · intro h e; apply h; exact UInt8.toNat_inj.1 (by show s[0].toNat = 0; omega)
      have Hv := Lib.hid hv; have Hb := Lib.hid hb; clear hv hd hh h2 hb
      go_enter Tryz.func31, Tryz.ntmps31
      go_wp2
      go_ret
      rw [Hv.out, ← Hb.out]; exact ⟨rfl, rfl⟩
theorem valid_yes {n : Nat} (h : n < Top) (w : World) :
    Calls Tryz.prog 31 #[.string (bs n)] w fun e w' => e = .returned (.bool true) ∧ w = w' := by
  have := valid_any (bs n) w (by have := bs_small h; omega)
  rw [bs_valid h] at this
  exact this

set_option maxHeartbeats 400000 in
theorem small_yes (n : Nat) (w : World) (hn : n < 18446744073709551616) :
    Calls Tryz.prog 69 #[.string (bs n)] w fun e w' => e = .returned (.tuple #[.int .u64 n, .bool true]) ∧ w = w' := by
  have hs : (bs n).size ≤ 8 := bs_le.2 (by omega)
  have hT : n < Top := by unfold Top; exact Nat.lt_trans hn (by decide)
  go_enter Tryz.func69, Tryz.ntmps69
  go_wp2_with (go_at_call 31; refine (valid_yes hT _).mono ?_; rintro e w' ⟨rfl, rfl⟩)
  go_loop [4, 16] (fun m i => ∃ k : Nat, k ≤ (bs n).size ∧ i = .int .i64 k ∧ m = .int .u64 (hi n k : Nat)) (fun _ i => (bs n).size - (intOf i).toNat)
  case atStart => exact ⟨0, by omega, rfl, by rw [hi_zero]; rfl⟩
  case round =>
    obtain ⟨k, hk, rfl, rfl⟩ := hrel
    by_cases hlt : k < (bs n).size
    · have h1 := hi_succ n k hlt
      have h2 := hi_le n (k + 1)
      go_wp2
      go_round
      case rel => exact ⟨k + 1, by omega, by go_num, val_int (by rw [show ((hi n k : Nat) : Int) * 256 = ((hi n k * 256 : Nat) : Int) from by omega, or_join 8 _ _ (by omega) (byte_lt _) (by omega), ← h1])⟩
      case measure => simp [intOf]; omega
    · have h3 : k = (bs n).size := by omega
      have h4 := hi_all n
      rw [← h3] at h4
      have H4 := Lib.hid h4; clear h4 h3
      go_wp2
      go_ret2
      exact ⟨by rw [H4.out]; rfl, rfl⟩

theorem valid_no {s : ByteArray} (h : validB s = false) (w : World) (hs : s.size ≤ 9223372036854775807) :
    Calls Tryz.prog 31 #[.string s] w fun e w' => e = .returned (.bool false) ∧ w = w' := by
  have := valid_any s w hs
  rw [h] at this
  exact this

set_option maxHeartbeats 400000 in
theorem small_no (s : ByteArray) (w : World) (hs : s.size ≤ 9223372036854775807) (h : validB s = false ∨ 8 < s.size) :
    Calls Tryz.prog 69 #[.string s] w fun e w' => e = .returned (.tuple #[.int .u64 0, .bool false]) ∧ w = w' := by
  by_cases hv : validB s = true
  · have h8 : 8 < s.size := by rcases h with h | h; (rw [h] at hv; cases hv); exact h
    have hc := valid_any s w hs
    rw [hv] at hc
    have Hc := Lib.hid hc; clear hc hv h
    go_enter Tryz.func69, Tryz.ntmps69
    go_wp2_with (go_at_call 31; refine Hc.out.mono ?_; rintro e w' ⟨rfl, rfl⟩)
    go_ret2
    exact ⟨rfl, rfl⟩
  · have hv : validB s = false := by simpa using hv
    have Hc := Lib.hid (valid_no hv w hs); clear hv h
    go_enter Tryz.func69, Tryz.ntmps69
    go_wp2_with (go_at_call 31; refine Hc.out.mono ?_; rintro e w' ⟨rfl, rfl⟩)
    go_ret2
    exact ⟨rfl, rfl⟩

/-- The order of two numbers. -/
def cmpN (a b : Nat) : Int := if a < b then -1 else if b < a then 1 else 0

set_option maxHeartbeats 400000 in
theorem cmp_yes {a b : Nat} (ha : a < Top) (hb : b < Top) (w : World) :
    Calls Tryz.prog 32 #[.string (bs a), .string (bs b)] w fun e w' => e = .returned (.int .i64 (cmpN a b)) ∧ w = w' := by
  have h1 := bs_small ha
  have h2 := bs_small hb
  have va := fun W => valid_yes ha W
  have vb := fun W => valid_yes hb W
  by_cases he : a = b
  · subst he
    have hq : ((bs a).toList == (bs a).toList) = true := by simp
    have hc : cmpN a a = 0 := by simp [cmpN]
    rw [hc]; clear hc
    go_enter Tryz.func32, Tryz.ntmps32
    go_wp2_with (go_at_call 31; refine (valid_yes ha _).mono ?_; rintro e w' ⟨rfl, rfl⟩)
    go_ret
    exact ⟨rfl, rfl⟩
  · have hq : ((bs a).toList == (bs b).toList) = false := by rw [bs_beq]; simpa using he
    rcases Nat.lt_trichotomy (bs a).size (bs b).size with g | g | g
    · have hc : cmpN a b = -1 := by have := bs_lt_of_size g; simp [cmpN]; omega
      have gl : decide ((bs a).size < (bs b).size) = true := by simpa using g
      rw [hc]; clear hc
      go_enter Tryz.func32, Tryz.ntmps32
      go_wp2_with (go_at_call 31; (first | (with_reducible refine (va _).mono ?_) | (with_reducible refine (vb _).mono ?_)); rintro e w' ⟨rfl, rfl⟩)
      go_ret
      exact ⟨rfl, rfl⟩
    · have hl := bs_less g
      have gz : (((bs a).size : Int) == ((bs b).size : Int)) = true := by simp [g]
      have gl : decide ((bs a).size < (bs b).size) = false := by simp [g]
      by_cases hlt : a < b
      · have hl' : Op.bytesLess (bs a).toList (bs b).toList = true := by rw [hl]; simpa using hlt
        have hc : cmpN a b = -1 := by simp [cmpN, hlt]
        rw [hc]; clear hc hl g
        go_enter Tryz.func32, Tryz.ntmps32
        go_wp2_with (go_at_call 31; (first | (with_reducible refine (va _).mono ?_) | (with_reducible refine (vb _).mono ?_)); rintro e w' ⟨rfl, rfl⟩)
        go_ret
        exact ⟨rfl, rfl⟩
      · have hl' : Op.bytesLess (bs a).toList (bs b).toList = false := by rw [hl]; simpa using hlt
        have hc : cmpN a b = 1 := by simp [cmpN]; omega
        rw [hc]; clear hc hl g
        go_enter Tryz.func32, Tryz.ntmps32
        go_wp2_with (go_at_call 31; (first | (with_reducible refine (va _).mono ?_) | (with_reducible refine (vb _).mono ?_)); rintro e w' ⟨rfl, rfl⟩)
        go_ret
        exact ⟨rfl, rfl⟩
    · have hc : cmpN a b = 1 := by have := bs_lt_of_size g; simp [cmpN]; omega
      have gz : (((bs a).size : Int) == ((bs b).size : Int)) = false := by simp; omega
      have gl : decide ((bs a).size < (bs b).size) = false := by simp; omega
      rw [hc]; clear hc
      go_enter Tryz.func32, Tryz.ntmps32
      go_wp2_with (go_at_call 31; (first | (with_reducible refine (va _).mono ?_) | (with_reducible refine (vb _).mono ?_)); rintro e w' ⟨rfl, rfl⟩)
      go_ret
      exact ⟨rfl, rfl⟩
end Go.Proofs.YtmiafkbjmkaebaaGreat

namespace Go.Proofs.YtmiafkbjmkaebaaGreat
open Go.RowKit Num
/-- A number of eight bytes without its last 8 - k bytes. -/
def sh8 (n k : Nat) : Nat := n / 256 ^ (8 - k)
theorem sh8_succ (n k : Nat) (h : k < 8) : sh8 n (k + 1) = sh8 n k * 256 + n / 256 ^ (7 - k) % 256 := by
  unfold sh8
  rw [show 8 - k = (7 - k) + 1 from by omega, show 8 - (k + 1) = 7 - k from by omega, Nat.pow_succ, ← Nat.div_div_eq_div_mul]
  omega
theorem sh8_byte (n k : Nat) (q : Int) (h : k < 8) (hq : q = 56 - 8 * (k : Int)) : (n : Int) / 2 ^ q.toNat % 256 = ((n / 256 ^ (7 - k) % 256 : Nat) : Int) := by
  have : q.toNat = 8 * (7 - k) := by omega
  rw [this]
  have h2 : (2 : Int) ^ (8 * (7 - k)) = ((256 ^ (7 - k) : Nat) : Int) := by rw [show (256 : Nat) ^ (7 - k) = 2 ^ (8 * (7 - k)) from by rw [Nat.pow_mul]]; simp
  rw [h2]
  omega
set_option maxHeartbeats 400000 in
set_option maxRecDepth 100000 in
theorem of_any (n : Nat) (h : n < 18446744073709551616) (w : World) :
    Calls Tryz.prog 34 #[.int .u64 n] w fun e w' => e = .returned (.string (bs n)) ∧ Below w.heap.size w w' := by
  obtain ⟨i0, hi0, hz0, hz1, hz2⟩ := info_parts info_u8
  have H := Lib.hid h; clear h
  go_enter Tryz.func34, Tryz.ntmps34
  go_wp2
  go_loopw [3, 4] (fun v i wr => ∃ (k : Nat) (q : Int), k ≤ 8 ∧ Hid (q = 56 - 8 * (k : Int)) ∧ i = .int .i64 q ∧ wr.ownsRow w.heap.size 5 1 v (cb (sh8 n k)).length (cellsB (cb (sh8 n k))) ∧ Below w.heap.size w wr) (fun _ i _ => ((intOf i) + 8).toNat)
  case atStart => exact ⟨0, 56, by omega, Lib.hid (by omega), rfl, by
      have : sh8 n 0 = 0 := by unfold sh8; exact Nat.div_eq_of_lt (Nat.lt_of_lt_of_le H.out (by decide))
      rw [this, cb_zero]; exact World.ownsRow_nil _ _ _ _, Below.refl _ _⟩
  case round =>
    obtain ⟨k, q, hk, HQ, rfl, hown, hbel⟩ := hrel
    have HF := Lib.hid (owns_form hown)
    obtain ⟨A, cap, rfl⟩ := HF.out
    clear HF
    by_cases hlt : k < 8
    · have e1 : 0 ≤ q := by have := HQ.out; omega
      have e2 : q ≤ 56 := by have := HQ.out; omega
      obtain ⟨b, hb⟩ : ∃ b, b = n / 256 ^ (7 - k) % 256 := ⟨_, rfl⟩
      have hb2 : b < 256 := by omega
      have hs := sh8_succ n k hlt
      have hby := sh8_byte n k q hlt HQ.out
      rw [← hb] at hby hs
      have HS := Lib.hid hs
      by_cases hm : sh8 n (k + 1) = 0
      · have hm0 : sh8 n k = 0 := by omega
        have hb0 : b = 0 := by omega
        rw [hm0, cb_zero] at hown ⊢
        subst hb0
        have HM := Lib.hid hm; have HLT := Lib.hid hlt; clear hlt hs hb hm0 hm
        go_wp2
        go_roundw
        case rel => exact ⟨k + 1, q - 8, by have := HLT.out; omega, Lib.hid (by have := HQ.out; omega), rfl, by rw [HM.out, cb_zero]; exact hown, hbel⟩
        case measure => show (q - 8 + 8).toNat < (q + 8).toNat; clear hby; omega
      · have hs' : cb (sh8 n (k + 1)) = cb (sh8 n k) ++ [UInt8.ofNat b] := by
          rw [cb_pos hm, hs, show (sh8 n k * 256 + b) / 256 = sh8 n k from by omega]
          congr 2
          apply UInt8.toNat_inj.1
          rw [UInt8.toNat_ofNat', UInt8.toNat_ofNat']
          omega
        have hbt : ((UInt8.ofNat b).toNat : Int) = b := by rw [UInt8.toNat_ofNat']; omega
        have hk8 : (cb (sh8 n k)).length ≤ 8 := by
          rw [cb_length_le]
          refine Nat.lt_of_le_of_lt (Nat.div_le_self _ _) (Nat.lt_of_lt_of_le H.out (by decide))
        have hbase := hbel.size
        have HS' := Lib.hid hs'
        have HBT := Lib.hid hbt
        have HHB := Lib.hid hb
        have hdec : ((b : Int) != 0) = true ∨ ((b : Int) != 0) = false ∧ 0 < (cb (sh8 n k)).length := by
          by_cases h0 : b = 0
          · right
            refine ⟨by simp [h0], ?_⟩
            have : sh8 n k ≠ 0 := by omega
            have : cb (sh8 n k) ≠ [] := fun e => this (cb_eq_nil.1 e)
            exact List.length_pos_iff.2 this
          · left; simpa using h0
        have HLT := Lib.hid hlt; clear hlt hs hs' hbt hb
        have hnw : ∀ (C : Array Value) (u : Value), C[0]? = some u → ∀ (j : Nat) (v : Value), [u][j]? = some v → (wr.alloc (.cells C 5)).cell? (Addr.add ⟨wr.heap.size, 0, none⟩ j) = some v := by
          intro C u hC j v hj
          match j, hj with
          | 0, hj =>
            simp at hj; subst hj
            rw [show Addr.add ⟨wr.heap.size, 0, none⟩ 0 = ⟨wr.heap.size, 0, none⟩ from rfl, World.cell?_alloc_mark]
            exact hC
        have hone : ∀ u ∈ [Value.int .u8 (b : Int)], u.oneCell' = true := by intro u hu; simp at hu; subst hu; rfl
        have HNW := Lib.hid hnw
        have HONE := Lib.hid hone; clear hnw hone
        rcases hdec with hz | ⟨hz, hp⟩
        · go_wp2_with (at_builtin; go_loud (refine wpList_append_own _ rfl _ _ 88 rfl w.heap.size 5 i0 (.int .u8 0) 1 1 Tryz.underlying88 hi0 hz0 hz1 hz2 rfl (by decide) _ _ _ rfl (hown.alloc _) ⟨wr.heap.size, 0, none⟩ 1 1 [.int .u8 (b : Int)] rfl rfl (HNW.out _ _ rfl) HONE.out (by unfold maxLen; omega) (by omega) (by simp; omega) ?_); intro v1 w1 hown1 hg1 _; go_loud (have hbel1 := (hbel.alloc hbel.size (.cells #[.int .u8 (b : Int)] 5)).grown hg1 (by simp; omega) (fun g hg => (hown.lt g hg).1)))
          go_wp2
          go_roundw
          case rel => refine ⟨k + 1, q - 8, by have := HLT.out; omega, Lib.hid (by have := HQ.out; omega), rfl, by rw [HS'.out, cellsB_snoc, HBT.out, List.length_append]; exact hown1, hbel1⟩
          case measure => show (q - 8 + 8).toNat < (q + 8).toNat; clear hby; omega
        · go_wp2_with (at_builtin; go_loud (refine wpList_append_own _ rfl _ _ 88 rfl w.heap.size 5 i0 (.int .u8 0) 1 1 Tryz.underlying88 hi0 hz0 hz1 hz2 rfl (by decide) _ _ _ rfl (hown.alloc _) ⟨wr.heap.size, 0, none⟩ 1 1 [.int .u8 (b : Int)] rfl rfl (HNW.out _ _ rfl) HONE.out (by unfold maxLen; omega) (by omega) (by simp; omega) ?_); intro v1 w1 hown1 hg1 _; go_loud (have hbel1 := (hbel.alloc hbel.size (.cells #[.int .u8 (b : Int)] 5)).grown hg1 (by simp; omega) (fun g hg => (hown.lt g hg).1)))
          go_wp2
          go_roundw
          case rel => exact ⟨k + 1, q - 8, by have := HLT.out; omega, Lib.hid (by have := HQ.out; omega), rfl, by rw [HS'.out, cellsB_snoc, HBT.out, List.length_append]; exact hown1, hbel1⟩
          case measure => show (q - 8 + 8).toNat < (q + 8).toNat; clear hby; omega
    · have hk8 : k = 8 := by omega
      have hq8 : q = -8 := by have := HQ.out; omega
      have hsz : sh8 n k = n := by rw [hk8]; simp [sh8]
      have hc := owns_string (P := Tryz.prog) (src := 88) (dst := 22) hown Tryz.underlying88 Tryz.underlying5 Tryz.underlying22
      have HSZ := Lib.hid hsz; clear hlt HQ hk8 hk hsz
      subst hq8
      go_wp2
      go_ret
      exact ⟨ret_str (by rw [HSZ.out]; rfl), hbel⟩
end Go.Proofs.YtmiafkbjmkaebaaGreat

namespace Go.Proofs.YtmiafkbjmkaebaaGreat
open Go.RowKit Num

theorem dlen_le {n : Nat} (h : n < Top) : dlen n ≤ 32 := by have := bs_small h; unfold dlen; omega

set_option maxHeartbeats 400000 in
theorem add_ok {a b : Nat} (ha : a < Top) (hb : b < Top) (hv : a + b < Top) (w : World) :
    Calls Tryz.prog 144 #[.string (bs a), .string (bs b)] w (Made w (.tuple #[.string (bs (a + b)), .int .i64 0])) := by
  have h1 := dlen_le ha
  have h2 := dlen_le hb
  have HA := Lib.hid ha
  have HB := Lib.hid hb
  have HV := Lib.hid hv
  clear ha hb hv
  go_enter Tryz.func144, Tryz.ntmps144
  go_wp2_with fail
  refine (valid_yes HA.out _).mono ?_
  rintro e w' ⟨rfl, rfl⟩
  go_wp2_with fail
  refine (valid_yes HB.out _).mono ?_
  rintro e w' ⟨rfl, rfl⟩
  go_wp2_with fail
  refine (digitsof_any a _ HA.out).mono ?_
  rintro e w1 ⟨xs, rfl, hxl, hxs, hxd, hxv, hbx⟩
  have hx32 : xs.length ≤ 32 := by omega
  have HXV := Lib.hid hxv
  clear hxl hxv
  go_wp2_with fail
  refine (digitsof_any b _ HB.out).mono ?_
  rintro e w2 ⟨ys, rfl, hyl, hys, hyd, hyv, hby⟩
  have hy32 : ys.length ≤ 32 := by omega
  have HYV := Lib.hid hyv
  clear hyl hyv
  go_wp2_with fail
  refine (sum_any _ _ xs ys _ _ _ ((IsD.of_dg hxd hxs).below hby) (IsD.of_dg hyd hys) (by omega) (by omega)).mono ?_
  rintro e w3 ⟨zs, rfl, hzl, hzs, hzd, hzv, hbz⟩
  rw [HXV.out, HYV.out] at hzv
  have HZV := Lib.hid hzv
  have hzl2 : zs.length ≤ 33 := by omega
  clear hzv hzl
  go_wp2_with fail
  refine (natof_ok _ zs _ _ (IsD.of_dg hzd hzs) (Nat.le_refl _) (by omega) (by rw [HZV.out]; exact HV.out)).mono ?_
  rintro e w4 ⟨rfl, hb4⟩
  go_wp2
  go_ret2
  exact ⟨by rw [HZV.out]; rfl, ((hbx.trans (hby.mono hbx.size)).trans (hbz.mono (Nat.le_trans hbx.size hby.size))).trans (hb4.mono (Nat.le_trans (Nat.le_trans hbx.size hby.size) hbz.size))⟩

set_option maxHeartbeats 400000 in
theorem add_long {a b : Nat} (ha : a < Top) (hb : b < Top) (hv : Top ≤ a + b) (w : World) :
    Calls Tryz.prog 144 #[.string (bs a), .string (bs b)] w (Made w (.tuple #[.string (bs 0), .int .i64 5])) := by
  have h1 := dlen_le ha
  have h2 := dlen_le hb
  have HA := Lib.hid ha
  have HB := Lib.hid hb
  have HV := Lib.hid hv
  clear ha hb hv
  go_enter Tryz.func144, Tryz.ntmps144
  go_wp2_with fail
  refine (valid_yes HA.out _).mono ?_
  rintro e w' ⟨rfl, rfl⟩
  go_wp2_with fail
  refine (valid_yes HB.out _).mono ?_
  rintro e w' ⟨rfl, rfl⟩
  go_wp2_with fail
  refine (digitsof_any a _ HA.out).mono ?_
  rintro e w1 ⟨xs, rfl, hxl, hxs, hxd, hxv, hbx⟩
  have hx32 : xs.length ≤ 32 := by omega
  have HXV := Lib.hid hxv
  clear hxl hxv
  go_wp2_with fail
  refine (digitsof_any b _ HB.out).mono ?_
  rintro e w2 ⟨ys, rfl, hyl, hys, hyd, hyv, hby⟩
  have hy32 : ys.length ≤ 32 := by omega
  have HYV := Lib.hid hyv
  clear hyl hyv
  go_wp2_with fail
  refine (sum_any _ _ xs ys _ _ _ ((IsD.of_dg hxd hxs).below hby) (IsD.of_dg hyd hys) (by omega) (by omega)).mono ?_
  rintro e w3 ⟨zs, rfl, hzl, hzs, hzd, hzv, hbz⟩
  rw [HXV.out, HYV.out] at hzv
  have HZV := Lib.hid hzv
  have hzl2 : zs.length ≤ 33 := by omega
  clear hzv hzl
  go_wp2_with fail
  refine (natof_long _ zs _ _ (IsD.of_dg hzd hzs) (Nat.le_refl _) (by omega) (by rw [HZV.out]; exact HV.out)).mono ?_
  rintro e w4 ⟨rfl, hb4⟩
  go_wp2
  go_ret2
  exact ⟨rfl, ((hbx.trans (hby.mono hbx.size)).trans (hbz.mono (Nat.le_trans hbx.size hby.size))).trans (hb4.mono (Nat.le_trans (Nat.le_trans hbx.size hby.size) hbz.size))⟩

theorem size_mono {a b : Nat} (h : b ≤ a) : (bs b).size ≤ (bs a).size := by
  rw [bs_le]
  have := cb_lt_pow a
  rw [bs_size]; omega
theorem dlen_mono {a b : Nat} (h : b ≤ a) : dlen b ≤ dlen a := by have := size_mono h; unfold dlen; omega

set_option maxHeartbeats 400000 in
theorem sub_ok {a b : Nat} (ha : a < Top) (hb : b < Top) (hv : b ≤ a) (w : World) :
    Calls Tryz.prog 49 #[.string (bs a), .string (bs b)] w (Made w (.tuple #[.string (bs (a - b)), .int .i64 0])) := by
  have h1 := dlen_le ha
  have h2 := dlen_le hb
  have HA := Lib.hid ha
  have HB := Lib.hid hb
  have HV := Lib.hid hv
  clear ha hb hv
  go_enter Tryz.func49, Tryz.ntmps49
  go_wp2_with fail
  refine (valid_yes HA.out _).mono ?_
  rintro e w' ⟨rfl, rfl⟩
  go_wp2_with fail
  refine (valid_yes HB.out _).mono ?_
  rintro e w' ⟨rfl, rfl⟩
  go_wp2_with fail
  refine (cmp_yes HA.out HB.out _).mono ?_
  rintro e w' ⟨rfl, rfl⟩
  have hcm : 0 ≤ cmpN a b := by have := HV.out; unfold cmpN; rw [if_neg (by omega)]; split <;> omega
  go_wp2_with fail
  refine (digitsof_any a _ HA.out).mono ?_
  rintro e w1 ⟨xs, rfl, hxl, hxs, hxd, hxv, hbx⟩
  have hx32 : xs.length ≤ 32 := by omega
  have HXV := Lib.hid hxv
  have HXL := Lib.hid hxl
  clear hxl hxv
  go_wp2_with fail
  refine (digitsof_any b _ HB.out).mono ?_
  rintro e w2 ⟨ys, rfl, hyl, hys, hyd, hyv, hby⟩
  have hy32 : ys.length ≤ 32 := by omega
  have HLL : Hid (ys.length ≤ xs.length) := Lib.hid (by have := dlen_mono HV.out; have := HXL.out; omega)
  have HYV := Lib.hid hyv
  clear hyl hyv
  go_wp2_with fail
  refine (difference_any _ _ xs ys _ _ _ ((IsD.of_dg hxd hxs).below hby) (IsD.of_dg hyd hys) HLL.out (by rw [HXV.out, HYV.out]; exact HV.out) (by omega)).mono ?_
  rintro e w3 ⟨zs, rfl, hzl, hzs, hzd, hzv, hbz⟩
  rw [HXV.out, HYV.out] at hzv
  have HZV := Lib.hid hzv
  have hzl2 : zs.length ≤ 33 := by omega
  clear hzv hzl
  go_wp2_with fail
  refine (natof_ok _ zs _ _ (IsD.of_dg hzd hzs) (Nat.le_refl _) (by omega) (by rw [HZV.out]; exact Nat.lt_of_le_of_lt (Nat.sub_le _ _) HA.out)).mono ?_
  rintro e w4 ⟨rfl, hb4⟩
  go_wp2
  go_ret2
  exact ⟨by rw [HZV.out]; rfl, ((hbx.trans (hby.mono hbx.size)).trans (hbz.mono (Nat.le_trans hbx.size hby.size))).trans (hb4.mono (Nat.le_trans (Nat.le_trans hbx.size hby.size) hbz.size))⟩

end Go.Proofs.YtmiafkbjmkaebaaGreat
