/-
  Contracts of the reference's functions that read numbers: Valid, trim, Of, U64, Small, Order, Cmp, at. Contracts of the reference's trim, Of, Order, Cmp, bits and one. Contracts of the reference's Order, Cmp, bits, one, Plus and Minus. Contracts of the reference's one, Plus and Minus.
-/
import Derived.Test.YtmiafkbjmkaebaaGreatNatD
import Derived.Test.YtmiafkbjmkaebaaGreatBase
namespace Go.Proofs.YtmiafkbjmkaebaaGreat
open Go.RowKit Num

theorem top_big' {n : Nat} (h : n < 18446744073709551616) : n < Top := by unfold Top; exact Nat.lt_trans h (by decide)
set_option maxHeartbeats 400000 in
theorem rvalid_any (s : ByteArray) (w : World) (hs : s.size ≤ 9223372036854775807) :
    Calls Tryz.prog 35 #[.string s] w fun e w' => e = .returned (.bool (validB s)) ∧ w = w' := by
  have hd : s.toList = s.data.toList := ByteArray.toList_eq s
  by_cases h1 : 128 < s.size
  · have hv : validB s = false := by unfold validB; rw [Bool.and_eq_false_iff]; left; simp; omega
    have Hv := Lib.hid hv; clear hv hd
    go_enter Tryz.func35, Tryz.ntmps35
    go_wp2
    go_ret
    rw [Hv.out]; exact ⟨rfl, rfl⟩
  · by_cases h2 : s.size = 0
    · have he : s.data.toList = [] := List.length_eq_zero_iff.1 (by rw [size_toList]; exact h2)
      have hv : validB s = true := by unfold validB; rw [he]; simp; omega
      have ht : s.toList.isEmpty = true := by rw [hd, he]; rfl
      have Hv := Lib.hid hv; clear hv hd he h2
      go_enter Tryz.func35, Tryz.ntmps35
      go_wp2
      go_ret
      rw [Hv.out]; exact ⟨rfl, rfl⟩
    · have hp : 0 < s.size := by omega
      have ht : s.toList.isEmpty = false := by
        rw [hd]; cases hc : s.data.toList with
        | nil => have := size_toList s; rw [hc] at this; simp at this; omega
        | cons a l => rfl
      have hh : s.data.toList.head? = some s[0] := by
        rw [List.head?_eq_getElem?, List.getElem?_eq_getElem (by rw [size_toList]; exact hp)]; rfl
      have hv : validB s = (s[0] != 0) := by
        unfold validB; rw [hh, decide_eq_true (by omega)]
        simp [bne]
      have hb : ((s[0].toNat : Int) != 0) = (s[0] != 0) := by
        rw [Bool.eq_iff_iff, bne_iff_ne, bne_iff_ne]
        constructor
        · intro h e; apply h; rw [e]; rfl
        · intro h e; apply h; exact UInt8.toNat_inj.1 (by show s[0].toNat = 0; omega)
      have Hv := Lib.hid hv; have Hb := Lib.hid hb; clear hv hd hh h2 hb
      go_enter Tryz.func35, Tryz.ntmps35
      go_wp2
      go_ret
      rw [Hv.out, ← Hb.out]; exact ⟨rfl, rfl⟩
theorem rvalid_yes {n : Nat} (h : n < Top) (w : World) :
    Calls Tryz.prog 35 #[.string (bs n)] w fun e w' => e = .returned (.bool true) ∧ w = w' := by
  have := rvalid_any (bs n) w (by have := bs_small h; omega)
  rw [bs_valid h] at this
  exact this

theorem rvalid_no {s : ByteArray} (h : validB s = false) (w : World) (hs : s.size ≤ 9223372036854775807) :
    Calls Tryz.prog 35 #[.string s] w fun e w' => e = .returned (.bool false) ∧ w = w' := by
  have := rvalid_any s w hs
  rw [h] at this
  exact this


set_option maxHeartbeats 400000 in
theorem ru64_any (n : Nat) (w : World) (hn : n < 18446744073709551616) :
    Calls Tryz.prog 77 #[.string (bs n)] w fun e w' => e = .returned (.int .u64 n) ∧ w = w' := by
  have hs : (bs n).size ≤ 8 := bs_le.2 (by omega)
  go_enter Tryz.func77, Tryz.ntmps77
  go_wp2
  go_loop [3, 4] (fun m i => ∃ k : Nat, k ≤ (bs n).size ∧ i = .int .i64 k ∧ m = .int .u64 (hi n k : Nat)) (fun _ i => (bs n).size - (intOf i).toNat)
  case atStart => exact ⟨0, by omega, rfl, by rw [hi_zero]; rfl⟩
  case round =>
    obtain ⟨k, hk, rfl, rfl⟩ := hrel
    by_cases hlt : k < (bs n).size
    · have h1 := hi_succ n k hlt
      have h2 := hi_le n (k + 1)
      go_wp2
      go_round
      case rel => exact ⟨k + 1, by omega, by go_num, val_int (by omega)⟩
      case measure => simp [intOf]; omega
    · have h3 : k = (bs n).size := by omega
      have h4 := hi_all n
      rw [← h3] at h4
      have H4 := Lib.hid h4; clear h4 h3
      go_wp2
      go_ret
      exact ⟨by rw [H4.out]; rfl, rfl⟩

set_option maxHeartbeats 400000 in
theorem rsmall_yes (n : Nat) (w : World) (hn : n < 18446744073709551616) :
    Calls Tryz.prog 94 #[.string (bs n)] w fun e w' => e = .returned (.tuple #[.int .u64 n, .bool true]) ∧ w = w' := by
  have hs : (bs n).size ≤ 8 := bs_le.2 (by omega)
  have hT := top_big' hn
  go_enter Tryz.func94, Tryz.ntmps94
  go_wp2_with (first | (go_at_call 35; refine (rvalid_yes hT _).mono ?_; rintro e w' ⟨rfl, rfl⟩) | (go_at_call 77; refine (ru64_any n _ hn).mono ?_; rintro e w' ⟨rfl, rfl⟩))
  go_ret2
  exact ⟨rfl, rfl⟩

set_option maxHeartbeats 400000 in
theorem rsmall_no (s : ByteArray) (w : World) (hs : s.size ≤ 9223372036854775807) (h : validB s = false ∨ 8 < s.size) :
    Calls Tryz.prog 94 #[.string s] w fun e w' => e = .returned (.tuple #[.int .u64 0, .bool false]) ∧ w = w' := by
  by_cases hv : validB s = true
  · have h8 : 8 < s.size := by rcases h with h | h; (rw [h] at hv; cases hv); exact h
    have hc := rvalid_any s w hs
    rw [hv] at hc
    have Hc := Lib.hid hc; clear hc hv h
    go_enter Tryz.func94, Tryz.ntmps94
    go_wp2_with (go_at_call 35; refine Hc.out.mono ?_; rintro e w' ⟨rfl, rfl⟩)
    go_ret2
    exact ⟨rfl, rfl⟩
  · have hv : validB s = false := by simpa using hv
    have Hc := Lib.hid (rvalid_no hv w hs); clear hv h
    go_enter Tryz.func94, Tryz.ntmps94
    go_wp2_with (go_at_call 35; refine Hc.out.mono ?_; rintro e w' ⟨rfl, rfl⟩)
    go_ret2
    exact ⟨rfl, rfl⟩

/-- The byte with the weight 256^i of a number. -/
def byteN (a i : Nat) : Nat := a / 256 ^ i % 256
theorem byteN_far {a i : Nat} (h : (bs a).size ≤ i) : byteN a i = 0 := by
  unfold byteN
  have h1 := cb_lt_pow a
  rw [← bs_size] at h1
  have h2 : 256 ^ (bs a).size ≤ 256 ^ i := Nat.pow_le_pow_right (by decide) h
  rw [Nat.div_eq_of_lt (by omega)]
theorem byteN_get {a i p : Nat} (h : p + 1 + i = (bs a).size) (hp : p < (bs a).size) : (bs a)[p].toNat = byteN a i := by
  have := cb_get a i (by rw [← bs_size]; omega)
  unfold byteN
  rw [← this, bs_getElem a p hp]
  congr 2
  rw [← bs_size]; omega

set_option maxHeartbeats 400000 in
theorem at_any (a i : Nat) (w : World) (hs : (bs a).size ≤ 100000) (hi : i ≤ 100000) :
    Calls Tryz.prog 83 #[.string (bs a), .int .i64 i] w (Same w (.int .i64 (byteN a i : Nat))) := by
  by_cases hlt : i < (bs a).size
  · obtain ⟨p, hp⟩ : ∃ p, p + 1 + i = (bs a).size := ⟨(bs a).size - 1 - i, by omega⟩
    have hpe : ((bs a).size : Int) - 1 - (i : Int) = (p : Int) := by omega
    have hps : p < (bs a).size := by omega
    have hb := byteN_get hp hps
    have hb' : ((bs a)[p].toNat : Int) = (byteN a i : Int) := by rw [hb]
    have hbl : byteN a i < 256 := Nat.mod_lt _ (by decide)
    clear hb hp
    go_enter Tryz.func83, Tryz.ntmps83
    go_wp2
    go_ret
    exact ⟨rfl, rfl⟩
  · have HB := Lib.hid (byteN_far (a := a) (i := i) (by omega))
    go_enter Tryz.func83, Tryz.ntmps83
    go_wp2
    go_ret
    exact ⟨by rw [HB.out]; rfl, rfl⟩
end Go.Proofs.YtmiafkbjmkaebaaGreat

namespace Go.Proofs.YtmiafkbjmkaebaaGreat
open Go.RowKit Num

theorem getD_list (l : List UInt8) (k : Nat) : l[k]? = some 0 ↔ k < l.length ∧ l.getD k 0 = 0 := by
  rw [List.getD_eq_getElem?_getD]
  rcases Nat.lt_or_ge k l.length with h | h
  · rw [List.getElem?_eq_getElem h]; simp [h]
  · rw [List.getElem?_eq_none h]; simp; omega

set_option maxHeartbeats 1000000 in
set_option maxRecDepth 100000 in
theorem rtrim_any (g : Nat) (l : List UInt8) (n : Nat) (w : World) (hB : Bt w g l) (hl : l.length = n) (hn : n ≤ 1000000) :
    Calls Tryz.prog 82 #[.slice (some ⟨g, 0, none⟩) n n] w (Same w (.string (bs (bval l)))) := by
  have HL := Lib.hid hl
  have HB := Lib.hid hB
  clear hl hB
  go_enter Tryz.func82, Tryz.ntmps82
  go_wp2
  go_loop [3] (fun c => ∃ k : Nat, k ≤ n ∧ c = .int .i64 k ∧ Hid (∀ j, j < k → l[j]? = some 0)) (fun c => n - (intOf c).toNat)
  case atStart => exact ⟨0, Nat.zero_le _, rfl, Lib.hid (fun j hj => by omega)⟩
  case round =>
    obtain ⟨k, hk, rfl, HZ⟩ := hrel
    by_cases hlt : k < n
    · have hc := HB.out.cell k (by have := HL.out; omega)
      obtain ⟨b, hb⟩ : ∃ b : Nat, b = (l.getD k 0).toNat := ⟨_, rfl⟩
      rw [← hb] at hc
      by_cases h0 : b = 0
      · subst h0
        have hz : l[k]? = some 0 := (getD_list l k).2 ⟨by have := HL.out; omega, UInt8.toNat_inj.1 (by rw [← hb]; rfl)⟩
        have HZ2 : Hid (∀ j, j < k + 1 → l[j]? = some 0) := Lib.hid (fun j hj => by
          rcases Nat.lt_or_eq_of_le (Nat.le_of_lt_succ hj) with h | h
          · exact HZ.out j h
          · rw [h]; exact hz)
        clear hb hz
        go_wp2
        go_round
        case rel => exact ⟨k + 1, by omega, by go_num, HZ2⟩
        case measure => simp [intOf]; omega
      · have h0' : ((b : Int) == 0) = false := by rw [beq_eq_false_iff_ne]; omega
        have hne : l[k]? ≠ some 0 := fun e => by
          have := ((getD_list l k).1 e).2
          rw [this] at hb
          exact h0 hb
        have HD : Hid ((⟨(l.drop k).toArray⟩ : ByteArray) = bs (bval l)) := Lib.hid (by unfold bs; rw [drop_eq_cb l k HZ.out hne])
        have hcv := HB.out.string (P := Tryz.prog) (src := 88) (dst := 22) k (n - k) (n - k) (by rw [HL.out]) Tryz.underlying88 Tryz.underlying5 Tryz.underlying22
        clear hb hne
        go_wp2
        go_ret
        exact ⟨ret_str HD.out, rfl⟩
    · have hke : k = n := by omega
      subst hke
      have hd0 : bval l = 0 := by
        have h1 := drop_eq_cb l k HZ.out (by rw [List.getElem?_eq_none (by have := HL.out; omega)]; simp)
        rw [List.drop_eq_nil_of_le (by have := HL.out; omega)] at h1
        exact cb_eq_nil.1 h1.symm
      have HD : Hid ((⟨#[]⟩ : ByteArray) = bs (bval l)) := Lib.hid (by rw [hd0, bs_zero])
      have hcv := run_convert_bytes_back (P := Tryz.prog) w 88 22 5 ⟨g, 0, none⟩ 0 [] Tryz.underlying88 Tryz.underlying5 Tryz.underlying22 (by intro j hj; simp at hj)
      rw [List.length_nil] at hcv
      clear hd0
      go_wp2
      go_ret
      exact ⟨ret_str HD.out, rfl⟩

/-- The bytes from place t on, when the one at t is set. -/
theorem bval_set_drop (l : List UInt8) (t : Nat) (b : UInt8) (h : t < l.length) : bval ((l.set t b).drop t) = b.toNat * 256 ^ (l.length - t - 1) + bval (l.drop (t + 1)) := by
  have h1 : (l.set t b).drop t = b :: l.drop (t + 1) := by
    rw [List.drop_eq_getElem_cons (by simpa using h), List.drop_set_of_lt (by omega)]
    simp
  rw [h1, bval_cons, List.length_drop]
  congr 3

set_option maxHeartbeats 1000000 in
set_option maxRecDepth 100000 in
theorem rof_any (n : Nat) (w : World) (h : n < 18446744073709551616) :
    Calls Tryz.prog 78 #[.int .u64 n] w (Made w (.string (bs n))) := by
  obtain ⟨i0, hi0, hz0, hz1, hz2⟩ := info_parts info_u8
  have H := Lib.hid h; clear h
  go_enter Tryz.func78, Tryz.ntmps78
  go_wp2_with (at_make; refine wpList_make_full _ rfl _ _ 88 rfl w.heap.size 5 i0 (.int .u8 0) 1 Tryz.underlying88 hi0 hz0 hz1 _ _ _ _ 8 rfl rfl (by omega) (by omega) (by rw [hz2]; omega) (by unfold maxLen; omega) (Nat.le_refl _) ?_; intro w0 hown0 hgrow0)
  have hb0 : Below w.heap.size w w0 := (Below.refl _ _).grown hgrow0 (Nat.le_refl _) (fun g hg => by cases hg)
  rw [madeB] at hown0
  have hB0 := Bt.of_own hown0
  clear hown0 hgrow0
  go_loopw [0, 4] (fun v i wr => ∃ (k m : Nat) (q : Int) (l : List UInt8), k ≤ 8 ∧ Hid (q = 7 - (k : Int)) ∧ -1 ≤ q ∧ q ≤ 7 ∧ i = .int .i64 q ∧ v = .int .u64 m ∧ Hid (m = n / 256 ^ k) ∧ m < 18446744073709551616 ∧ Hid (l.length = 8) ∧ Bt wr w.heap.size l ∧ Hid (bval (l.drop (8 - k)) = n % 256 ^ k) ∧ Below w.heap.size w wr) (fun _ i _ => (intOf i + 1).toNat)
  case atStart => exact ⟨0, n, 7, _, by omega, Lib.hid (by omega), by omega, by omega, rfl, rfl, Lib.hid (by simp), H.out, Lib.hid List.length_replicate, hB0, Lib.hid (by simp [Nat.mod_one, bval]), hb0⟩
  case round =>
    obtain ⟨k, m, q, l, hk, HQ, hq1, hq2, rfl, rfl, HM, hm, HL, hB, HV, hbel⟩ := hrel
    by_cases hlt : 0 ≤ q
    · obtain ⟨t, rfl⟩ := Int.eq_ofNat_of_zero_le hlt
      have ht : t + 1 + k = 8 := by have := HQ.out; omega
      have hfr := hB.frozen t
      have hcz := hB.cell t (by have := HL.out; omega)
      obtain ⟨z, hz⟩ : ∃ z, z = (l.getD t 0).toNat := ⟨_, rfl⟩
      rw [← hz] at hcz
      obtain ⟨b, hb⟩ : ∃ b, b = UInt8.ofNat (m % 256) := ⟨_, rfl⟩
      have hbt : b.toNat = m % 256 := by rw [hb, UInt8.toNat_ofNat']; omega
      have hbi : (m : Int) % 256 = (b.toNat : Int) := by omega
      have hst : bval ((l.set t b).drop (8 - (k + 1))) = n % 256 ^ (k + 1) := by
        rw [show 8 - (k + 1) = t from by omega, bval_set_drop l t b (by have := HL.out; omega), HL.out, show 8 - t - 1 = k from by omega, show t + 1 = 8 - k from by omega, HV.out, hbt, HM.out, mod_next, Nat.mul_comm]
        omega
      have hmn : m / 256 = n / 256 ^ (k + 1) := by rw [HM.out, Nat.pow_succ, Nat.div_div_eq_div_mul]
      have HST := Lib.hid hst
      have HMN := Lib.hid hmn
      have HT := Lib.hid ht
      clear hst hmn ht hz hb hbt
      go_wp2
      go_roundw
      case rel => exact ⟨k + 1, m / 256, (t : Int) - 1, l.set t b, by have := HT.out; omega, Lib.hid (by have := HT.out; omega), by omega, by omega, rfl, by go_num, HMN, by omega, Lib.hid (by have := HL.out; simpa using this), hB.set _ _, HST, hbel.setCell (Nat.le_refl _) _⟩
      case measure => show ((t : Int) - 1 + 1).toNat < ((t : Int) + 1).toNat; omega
    · have hk8 : k = 8 := by have := HQ.out; omega
      have hfin : bval l = n := by
        have := HV.out
        rw [hk8] at this
        rw [Nat.sub_self, List.drop_zero] at this
        rw [this]
        exact Nat.mod_eq_of_lt (by have := H.out; omega)
      have HF := Lib.hid hfin
      clear hk8 hfin
      go_wp2_with fail
      refine (rtrim_any w.heap.size l 8 _ hB HL.out (by omega)).mono ?_
      rintro e w' ⟨rfl, rfl⟩
      go_wp2
      go_ret
      exact ⟨ret_str (by rw [HF.out]), hbel⟩
end Go.Proofs.YtmiafkbjmkaebaaGreat

namespace Go.Proofs.YtmiafkbjmkaebaaGreat
open Go.RowKit Num

theorem hi_bounds (n k : Nat) : hi n k * 256 ^ ((bs n).size - k) ≤ n ∧ n < (hi n k + 1) * 256 ^ ((bs n).size - k) := by
  have h1 := bval_append ((cb n).take k) ((cb n).drop k)
  rw [List.take_append_drop, bval_cb, List.length_drop, ← bs_size] at h1
  have h2 := bval_lt ((cb n).drop k)
  rw [List.length_drop, ← bs_size] at h2
  unfold hi
  rw [Nat.add_mul, Nat.one_mul]
  omega
theorem order_lt {a b k : Nat} (hs : (bs a).size = (bs b).size) (hlt : hi a (k + 1) < hi b (k + 1)) : a < b := by
  have h1 := hi_bounds a (k + 1)
  have h2 := hi_bounds b (k + 1)
  rw [← hs] at h2
  have h3 : (hi a (k + 1) + 1) * 256 ^ ((bs a).size - (k + 1)) ≤ hi b (k + 1) * 256 ^ ((bs a).size - (k + 1)) := Nat.mul_le_mul_right _ hlt
  omega

set_option maxHeartbeats 1000000 in
set_option maxRecDepth 100000 in
theorem order_any (a b : Nat) (w : World) (h1 : (bs a).size ≤ 100000) :
    Calls Tryz.prog 36 #[.string (bs a), .string (bs b)] w (Made w (.int .i64 (cmpN a b))) := by
  rcases Nat.lt_trichotomy (bs a).size (bs b).size with g | g | g
  · have hc : cmpN a b = -1 := by have := bs_lt_of_size g; simp [cmpN]; omega
    have d1 : decide ((bs a).size < (bs b).size) = true := by simpa using g
    have d2 : (((bs a).size : Int) != ((bs b).size : Int)) = true := by rw [bne_iff_ne]; omega
    rw [hc]; clear hc
    go_enter Tryz.func36, Tryz.ntmps36
    go_wp2
    go_ret
    exact ⟨rfl, Below.refl _ _⟩
  · have d2 : (((bs a).size : Int) != ((bs b).size : Int)) = false := by rw [bne_eq_false_iff_eq]; omega
    have G := Lib.hid g
    clear g
    go_enter Tryz.func36, Tryz.ntmps36
    go_wp2
    go_loopw [5] (fun c wr => ∃ k : Nat, k ≤ (bs a).size ∧ c = .int .i64 k ∧ Hid (hi a k = hi b k) ∧ Below w.heap.size w wr) (fun c _ => (bs a).size - (intOf c).toNat)
    case atStart => exact ⟨0, Nat.zero_le _, rfl, Lib.hid (by rw [hi_zero, hi_zero]), Below.refl _ _⟩
    case round =>
      obtain ⟨k, hk, rfl, HE, hbel⟩ := hrel
      by_cases hlt : k < (bs a).size
      · have hltb : k < (bs b).size := by have := G.out; omega
        have ha := hi_succ a k hlt
        have hb := hi_succ b k hltb
        obtain ⟨x, hx⟩ : ∃ x, (bs a)[k].toNat = x := ⟨_, rfl⟩
        obtain ⟨y, hy⟩ : ∃ y, (bs b)[k].toNat = y := ⟨_, rfl⟩
        have hxi : ((bs a)[k].toNat : Int) = (x : Int) := by rw [hx]
        have hyi : ((bs b)[k].toNat : Int) = (y : Int) := by rw [hy]
        rw [hx, HE.out] at ha
        rw [hy] at hb
        have HA := Lib.hid ha
        have HB := Lib.hid hb
        clear ha hb hx hy
        rcases Nat.lt_trichotomy x y with h | h | h
        · have hc : cmpN a b = -1 := by
            have := order_lt (k := k) G.out (by rw [HA.out, HB.out]; omega)
            unfold cmpN; rw [if_pos this]
          have HC := Lib.hid hc
          have e1 : ((x : Int) != (y : Int)) = true := by rw [bne_iff_ne]; omega
          have d3 : decide (x < y) = true := by simpa using h
          clear hc
          go_wp2
          go_region
          go_wp2
          go_region
          go_wp2
          go_ret
          exact ⟨by rw [HC.out]; rfl, hbel.drew.drew⟩
        · subst h
          have HN : Hid (hi a (k + 1) = hi b (k + 1)) := Lib.hid (by rw [HA.out, HB.out])
          have e1 : ((x : Int) != (x : Int)) = false := by simp
          go_wp2
          go_region
          go_wp2
          go_roundw
          case rel => exact ⟨k + 1, by omega, by go_num, HN, hbel.drew⟩
          case measure => simp [intOf]; omega
        · have hc : cmpN a b = 1 := by
            have := order_lt (k := k) G.out.symm (by rw [HA.out, HB.out]; omega)
            unfold cmpN; rw [if_neg (by omega), if_pos this]
          have HC := Lib.hid hc
          have e1 : ((x : Int) != (y : Int)) = true := by rw [bne_iff_ne]; omega
          have d3 : decide (x < y) = false := by simp; omega
          clear hc
          go_wp2
          go_region
          go_wp2
          go_region
          go_wp2
          go_ret
          exact ⟨by rw [HC.out]; rfl, hbel.drew.drew⟩
      · have hab : a = b := by
          have h3 : k = (bs a).size := by omega
          have := HE.out
          rw [h3, hi_all, G.out, hi_all] at this
          exact this
        have HC : Hid (cmpN a b = 0) := Lib.hid (by rw [hab]; unfold cmpN; rw [if_neg (by omega), if_neg (by omega)])
        clear hab
        go_wp2
        go_ret
        exact ⟨by rw [HC.out]; rfl, hbel⟩
  · have hc : cmpN a b = 1 := by have := bs_lt_of_size g; simp [cmpN]; omega
    have d1 : decide ((bs a).size < (bs b).size) = false := by simp; omega
    have d2 : (((bs a).size : Int) != ((bs b).size : Int)) = true := by rw [bne_iff_ne]; omega
    rw [hc]; clear hc
    go_enter Tryz.func36, Tryz.ntmps36
    go_wp2
    go_ret
    exact ⟨rfl, Below.refl _ _⟩

set_option maxHeartbeats 400000 in
theorem rbits_any (a : Nat) (w : World) (hs : (bs a).size ≤ 100000) :
    Calls Tryz.prog 79 #[.string (bs a)] w (Same w (.int .i64 (nb a : Nat))) := by
  by_cases h0 : a = 0
  · have he : (bs a).toList.isEmpty = true := by rw [bs_isEmpty]; simpa using h0
    have HN := Lib.hid (show nb a = 0 by rw [h0, nb_zero])
    clear h0
    go_enter Tryz.func79, Tryz.ntmps79
    go_wp2
    go_ret
    exact ⟨by rw [HN.out]; rfl, rfl⟩
  · have he : (bs a).toList.isEmpty = false := by rw [bs_isEmpty]; simpa using h0
    have hp := bs_pos h0
    have hn := nb_bytes h0 hp
    obtain ⟨b, hb⟩ : ∃ b : Nat, (bs a)[0].toNat = b := ⟨_, rfl⟩
    have hbb : b < 256 := by rw [← hb]; exact byte_lt _
    rw [hb] at hn
    have hbi : ((bs a)[0].toNat : Int) = (b : Int) := by rw [hb]
    have HN := Lib.hid hn
    clear h0 hb hn
    go_enter Tryz.func79, Tryz.ntmps79
    go_wp2
    go_loop [3, 4] (fun u v => ∃ m x : Nat, u = .int .i64 m ∧ v = .int .i64 x ∧ x < 256 ∧ m ≤ 1000000 ∧ Hid (m + Lib.bitLen x = nb a)) (fun _ v => (intOf v).toNat)
    case atStart => exact ⟨8 * ((bs a).size - 1), b, by go_num, rfl, hbb, by omega, Lib.hid HN.out.symm⟩
    case round =>
      obtain ⟨m, x, rfl, rfl, hx, hm, HE⟩ := hrel
      by_cases hx0 : 0 < x
      · have hh := Lib.bitLen_half x (by omega) (by omega)
        have hl : Lib.bitLen x ≤ 8 := Lib.bitLen_le x 8 (by omega) hx
        have HX := Lib.hid (show m + 1 + Lib.bitLen (x / 2) = nb a by have := HE.out; omega)
        have hmb : m + 1 ≤ 1000000 := by have := HE.out; have := HN.out; have := Lib.bitLen_le b 8 (by omega) hbb; omega
        clear hh
        go_wp2
        go_round
        case rel => exact ⟨m + 1, x / 2, by go_num, by go_num, by omega, hmb, HX⟩
        case measure => simp [intOf]; omega
      · obtain rfl : x = 0 := by omega
        have HZ : Hid (m = nb a) := Lib.hid (by have := HE.out; rw [show Lib.bitLen 0 = 0 from rfl] at this; omega)
        go_wp2
        go_ret
        exact ⟨by rw [← HZ.out]; rfl, rfl⟩
end Go.Proofs.YtmiafkbjmkaebaaGreat

namespace Go.Proofs.YtmiafkbjmkaebaaGreat
open Go.RowKit Num

/-- Whether the binary digit with the weight 2^i is 1. -/
def bitB (a i : Nat) : Bool := a / 2 ^ i % 2 == 1
theorem bit_of_byte (a i : Nat) : byteN a (i / 8) / 2 ^ (i % 8) % 2 = a / 2 ^ i % 2 := by
  unfold byteN
  have e : (256 : Nat) ^ (i / 8) = 2 ^ (8 * (i / 8)) := by rw [Nat.pow_mul]
  have e2 : 2 ^ i = 2 ^ (8 * (i / 8)) * 2 ^ (i % 8) := by rw [← Nat.pow_add]; congr 1; omega
  rw [e, e2, ← Nat.div_div_eq_div_mul]
  generalize a / 2 ^ (8 * (i / 8)) = V
  have : i % 8 = 0 ∨ i % 8 = 1 ∨ i % 8 = 2 ∨ i % 8 = 3 ∨ i % 8 = 4 ∨ i % 8 = 5 ∨ i % 8 = 6 ∨ i % 8 = 7 := by omega
  rcases this with h | h | h | h | h | h | h | h <;> rw [h] <;> simp <;> omega

set_option maxHeartbeats 400000 in
theorem one_any (a i : Nat) (w : World) (hs : (bs a).size ≤ 100000) (hi : i ≤ 100000) :
    Calls Tryz.prog 81 #[.string (bs a), .int .i64 i] w (Same w (.bool (bitB a i))) := by
  have hbl : byteN a (i / 8) < 256 := Nat.mod_lt _ (by decide)
  have HBB := Lib.hid (bit_of_byte a i)
  obtain ⟨b, hb⟩ : ∃ b, byteN a (i / 8) = b := ⟨_, rfl⟩
  rw [hb] at hbl HBB
  have HB := Lib.hid hb
  clear hb
  go_enter Tryz.func81, Tryz.ntmps81
  go_wp2_with fail
  refine (at_any a (i / 8) _ hs (by omega)).mono ?_
  rintro e w' ⟨rfl, rfl⟩
  rw [HB.out]
  go_wp2
  go_loop [5, 6] (fun u v => ∃ k x : Nat, k ≤ i % 8 ∧ v = .int .i64 k ∧ u = .int .i64 x ∧ x < 256 ∧ Hid (x = b / 2 ^ k)) (fun _ v => 8 - (intOf v).toNat)
  case atStart => exact ⟨0, b, by omega, rfl, rfl, hbl, Lib.hid (by simp)⟩
  case round =>
    obtain ⟨k, x, hk, rfl, rfl, hx, HX⟩ := hrel
    by_cases hlt : k < i % 8
    · have HN : Hid (x / 2 = b / 2 ^ (k + 1)) := Lib.hid (by rw [HX.out, Nat.pow_succ, Nat.div_div_eq_div_mul])
      go_wp2
      go_round
      case rel => exact ⟨k + 1, x / 2, by omega, by go_num, by go_num, by omega, HN⟩
      case measure => simp [intOf]; omega
    · have hke : k = i % 8 := by omega
      have hbit : bitB a i = (x % 2 == 1) := by
        unfold bitB
        rw [← HBB.out, HX.out, hke]
      rcases (show x % 2 = 1 ∨ x % 2 = 0 by omega) with h | h
      · have h2 : ((x : Int) % 2 == 1) = true := by rw [beq_iff_eq]; omega
        have HF : Hid (bitB a i = true) := Lib.hid (by rw [hbit, h]; rfl)
        clear hke hbit h
        go_wp2
        go_ret
        exact ⟨by rw [HF.out]; rfl, rfl⟩
      · have h2 : ((x : Int) % 2 == 1) = false := by rw [beq_eq_false_iff_ne]; omega
        have HF : Hid (bitB a i = false) := Lib.hid (by rw [hbit, h]; rfl)
        clear hke hbit h
        go_wp2
        go_ret
        exact ⟨by rw [HF.out]; rfl, rfl⟩

theorem byte_next (a i : Nat) : a % 256 ^ (i + 1) = a % 256 ^ i + 256 ^ i * byteN a i := mod_next a i
theorem plus_step {a b i c t L : Nat} {l : List UInt8} {d : UInt8} (hL : l.length = L) (ht : t + 1 + i = L) (h : bval (l.drop (t + 1)) + 256 ^ i * c = a % 256 ^ i + b % 256 ^ i)
    (hd : d.toNat = (byteN a i + byteN b i + c) % 256) : bval ((l.set t d).drop t) + 256 ^ (i + 1) * ((byteN a i + byteN b i + c) / 256) = a % 256 ^ (i + 1) + b % 256 ^ (i + 1) := by
  rw [bval_set_drop l t d (by omega), hL, show L - t - 1 = i from by omega, hd, byte_next, byte_next, Nat.pow_succ]
  generalize byteN a i = x at *
  generalize byteN b i = y at *
  generalize 256 ^ i = p at *
  have e := Nat.div_add_mod (x + y + c) 256
  have e2 : p * 256 * ((x + y + c) / 256) + (x + y + c) % 256 * p = p * x + p * y + p * c := by
    rw [Nat.mul_assoc, Nat.mul_comm _ p, ← Nat.mul_add, e, Nat.mul_add, Nat.mul_add]
  omega
theorem plus_end {a b c L : Nat} {l : List UInt8} (hL : l.length = L) (h : bval (l.drop 0) + 256 ^ L * c = a % 256 ^ L + b % 256 ^ L) (ha : (bs a).size + 1 ≤ L) (hb : (bs b).size + 1 ≤ L) : bval l = a + b := by
  rw [List.drop_zero] at h
  have h1 := bval_lt l
  rw [hL] at h1
  obtain ⟨m, rfl⟩ : ∃ m, L = m + 1 := ⟨L - 1, by omega⟩
  have ha2 : a < 256 ^ m := by
    have := cb_lt_pow a
    rw [← bs_size] at this
    exact Nat.lt_of_lt_of_le this (Nat.pow_le_pow_right (by decide) (by omega))
  have hb2 : b < 256 ^ m := by
    have := cb_lt_pow b
    rw [← bs_size] at this
    exact Nat.lt_of_lt_of_le this (Nat.pow_le_pow_right (by decide) (by omega))
  rw [Nat.pow_succ] at *
  rw [Nat.mod_eq_of_lt (by omega), Nat.mod_eq_of_lt (by omega)] at h
  rcases Nat.eq_zero_or_pos c with rfl | hc
  · omega
  · have : 256 ^ m * 256 * 1 ≤ 256 ^ m * 256 * c := Nat.mul_le_mul_left _ hc
    omega

set_option maxHeartbeats 1000000 in
set_option maxRecDepth 100000 in
theorem plus_any (a b : Nat) (w : World) (h1 : (bs a).size ≤ 10000) (h2 : (bs b).size ≤ 10000) :
    Calls Tryz.prog 80 #[.string (bs a), .string (bs b)] w (Made w (.string (bs (a + b)))) := by
  obtain ⟨i0, hi0, hz0, hz1, hz2⟩ := info_parts info_u8
  rcases Nat.lt_or_ge (bs a).size (bs b).size with g | g
  case' inl =>
    obtain ⟨L, hL⟩ : ∃ L, L = (bs b).size + 1 := ⟨_, rfl⟩
    have hLi : ((bs b).size : Int) + 1 = (L : Int) := by omega
    have hla : (bs a).size + 1 ≤ L := by omega
    have hlb : (bs b).size + 1 ≤ L := by omega
    have hl : L ≤ 10001 := by omega
    clear hL
    go_enter Tryz.func80, Tryz.ntmps80
    go_wp2_with (at_make; refine wpList_make_full _ rfl _ _ 88 rfl w.heap.size 5 i0 (.int .u8 0) 1 Tryz.underlying88 hi0 hz0 hz1 _ _ _ _ L rfl rfl (by omega) (by omega) (by rw [hz2]; omega) (by unfold maxLen; omega) (Nat.le_refl _) ?_; intro w0 hown0 hgrow0)
  case' inr =>
    obtain ⟨L, hL⟩ : ∃ L, L = (bs a).size + 1 := ⟨_, rfl⟩
    have hLi : ((bs a).size : Int) + 1 = (L : Int) := by omega
    have hla : (bs a).size + 1 ≤ L := by omega
    have hlb : (bs b).size + 1 ≤ L := by omega
    have hl : L ≤ 10001 := by omega
    clear hL
    go_enter Tryz.func80, Tryz.ntmps80
    go_wp2_with (at_make; refine wpList_make_full _ rfl _ _ 88 rfl w.heap.size 5 i0 (.int .u8 0) 1 Tryz.underlying88 hi0 hz0 hz1 _ _ _ _ L rfl rfl (by omega) (by omega) (by rw [hz2]; omega) (by unfold maxLen; omega) (Nat.le_refl _) ?_; intro w0 hown0 hgrow0)
  all_goals
    have hb0 : Below w.heap.size w w0 := (Below.refl _ _).grown hgrow0 (Nat.le_refl _) (fun g hg => by cases hg)
    rw [madeB] at hown0
    have hB0 := Bt.of_own hown0
    clear hown0 hgrow0 hLi
    go_loopw [7, 8] (fun u v wr => ∃ (i c : Nat) (l : List UInt8), i ≤ L ∧ v = .int .i64 i ∧ u = .int .i64 c ∧ c ≤ 1 ∧ Hid (l.length = L) ∧ Bt wr w.heap.size l ∧ Hid (bval (l.drop (L - i)) + 256 ^ i * c = a % 256 ^ i + b % 256 ^ i) ∧ Below w.heap.size w wr) (fun _ v _ => L - (intOf v).toNat)
    case atStart => exact ⟨0, 0, _, Nat.zero_le _, rfl, rfl, by omega, Lib.hid List.length_replicate, hB0, Lib.hid (by simp [Nat.mod_one, bval]), hb0⟩
    case round =>
      obtain ⟨i, c, l, hi, rfl, rfl, hc, HL, hB, HV, hbel⟩ := hrel
      by_cases hlt : i < L
      · obtain ⟨t, ht⟩ : ∃ t, t + 1 + i = L := ⟨L - 1 - i, by omega⟩
        have hti : (L : Int) - 1 - (i : Int) = (t : Int) := by omega
        have htl : t < L := by omega
        have hfr := hB.frozen t
        have hcz := hB.cell t (by have := HL.out; omega)
        obtain ⟨z, hz⟩ : ∃ z, z = (l.getD t 0).toNat := ⟨_, rfl⟩
        rw [← hz] at hcz
        have hx : byteN a i < 256 := Nat.mod_lt _ (by decide)
        have hy : byteN b i < 256 := Nat.mod_lt _ (by decide)
        obtain ⟨x, hxd⟩ : ∃ x, byteN a i = x := ⟨_, rfl⟩
        obtain ⟨y, hyd⟩ : ∃ y, byteN b i = y := ⟨_, rfl⟩
        obtain ⟨d, hd⟩ : ∃ d, d = UInt8.ofNat ((x + y + c) % 256) := ⟨_, rfl⟩
        have hdn : d.toNat = (x + y + c) % 256 := by rw [hd, UInt8.toNat_ofNat']; omega
        have hdi : ((x : Int) + (y : Int) + (c : Int)) % 256 = (d.toNat : Int) := by omega
        have hst := plus_step (a := a) (b := b) (i := i) (c := c) (t := t) (d := d) HL.out ht (by rw [show t + 1 = L - i from by omega]; exact HV.out) (by rw [hxd, hyd]; exact hdn)
        rw [hxd, hyd] at hst
        rw [hxd] at hx
        rw [hyd] at hy
        have HST := Lib.hid hst
        have HX := Lib.hid hxd
        have HY := Lib.hid hyd
        have HT := Lib.hid ht
        have A1 := Lib.hid (at_any a i)
        have A2 := Lib.hid (at_any b i)
        clear hst hxd hyd ht hz hd hdn
        go_wp2_with fail
        refine (A1.out _ (by omega) (by omega)).mono ?_
        rintro e w' ⟨rfl, rfl⟩
        rw [HX.out]
        go_wp2_with fail
        refine (A2.out _ (by omega) (by omega)).mono ?_
        rintro e w' ⟨rfl, rfl⟩
        rw [HY.out]
        go_wp2
        go_roundw
        case rel => exact ⟨i + 1, (x + y + c) / 256, l.set t d, by omega, by go_num, by go_num, by omega, Lib.hid (by have := HL.out; simpa using this), hB.set _ _, Lib.hid (by rw [show L - (i + 1) = t from by have := HT.out; omega]; exact HST.out), hbel.setCell (Nat.le_refl _) _⟩
        case measure => simp [intOf]; omega
      · have hie : i = L := by omega
        subst hie
        have HF := Lib.hid (plus_end HL.out (by have := HV.out; rw [Nat.sub_self] at this; exact this) hla hlb)
        go_wp2_with fail
        refine (rtrim_any w.heap.size l i _ hB HL.out (by omega)).mono ?_
        rintro e w' ⟨rfl, rfl⟩
        go_wp2
        go_ret
        exact ⟨ret_str (by rw [HF.out]), hbel⟩

theorem minus_step {a b i c bw t L : Nat} {l : List UInt8} {d : UInt8} (hL : l.length = L) (ht : t + 1 + i = L) (h : bval (l.drop (t + 1)) + b % 256 ^ i = a % 256 ^ i + 256 ^ i * c)
    (hd : d.toNat + byteN b i + c = byteN a i + 256 * bw) : bval ((l.set t d).drop t) + b % 256 ^ (i + 1) = a % 256 ^ (i + 1) + 256 ^ (i + 1) * bw := by
  rw [bval_set_drop l t d (by omega), hL, show L - t - 1 = i from by omega, byte_next, byte_next, Nat.pow_succ]
  generalize byteN a i = x at *
  generalize byteN b i = y at *
  generalize 256 ^ i = p at *
  generalize d.toNat = e at *
  have e2 : e * p + p * y + p * c = p * x + p * 256 * bw := by
    rw [Nat.mul_comm e, Nat.mul_assoc, ← Nat.mul_add, ← Nat.mul_add, hd, Nat.mul_add]
  omega
theorem minus_end {a b c L : Nat} {l : List UInt8} (hL : l.length = L) (h : bval (l.drop 0) + b % 256 ^ L = a % 256 ^ L + 256 ^ L * c) (ha : (bs a).size ≤ L) (hb : b ≤ a) : bval l = a - b := by
  rw [List.drop_zero] at h
  have h1 := bval_lt l
  rw [hL] at h1
  have ha2 : a < 256 ^ L := bs_le.1 ha
  rw [Nat.mod_eq_of_lt (by omega), Nat.mod_eq_of_lt (by omega)] at h
  rcases Nat.eq_zero_or_pos c with rfl | hc
  · omega
  · have : 256 ^ L * 1 ≤ 256 ^ L * c := Nat.mul_le_mul_left _ hc
    omega

set_option maxHeartbeats 1000000 in
set_option maxRecDepth 100000 in
theorem minus_any (a b : Nat) (w : World) (h1 : (bs a).size ≤ 10000) (h2 : (bs b).size ≤ 10000) (hab : b ≤ a) :
    Calls Tryz.prog 55 #[.string (bs a), .string (bs b)] w (Made w (.string (bs (a - b)))) := by
  obtain ⟨i0, hi0, hz0, hz1, hz2⟩ := info_parts info_u8
  obtain ⟨L, hL⟩ : ∃ L, L = (bs a).size := ⟨_, rfl⟩
  have hLi : ((bs a).size : Int) = (L : Int) := by omega
  have hla : (bs a).size ≤ L := by omega
  have hl : L ≤ 10000 := by omega
  have HAB := Lib.hid hab
  clear hL hab
  go_enter Tryz.func55, Tryz.ntmps55
  go_wp2_with (at_make; refine wpList_make_full _ rfl _ _ 88 rfl w.heap.size 5 i0 (.int .u8 0) 1 Tryz.underlying88 hi0 hz0 hz1 _ _ _ _ L rfl rfl (by omega) (by omega) (by rw [hz2]; omega) (by unfold maxLen; omega) (Nat.le_refl _) ?_; intro w0 hown0 hgrow0)
  have hb0 : Below w.heap.size w w0 := (Below.refl _ _).grown hgrow0 (Nat.le_refl _) (fun g hg => by cases hg)
  rw [madeB] at hown0
  have hB0 := Bt.of_own hown0
  clear hown0 hgrow0
  go_loopw [7, 8] (fun u v wr => ∃ (i c : Nat) (l : List UInt8), i ≤ L ∧ v = .int .i64 i ∧ u = .int .i64 c ∧ c ≤ 1 ∧ Hid (l.length = L) ∧ Bt wr w.heap.size l ∧ Hid (bval (l.drop (L - i)) + b % 256 ^ i = a % 256 ^ i + 256 ^ i * c) ∧ Below w.heap.size w wr) (fun _ v _ => L - (intOf v).toNat)
  case atStart => exact ⟨0, 0, _, Nat.zero_le _, rfl, rfl, by omega, Lib.hid List.length_replicate, hB0, Lib.hid (by simp [Nat.mod_one, bval]), hb0⟩
  case round =>
    obtain ⟨i, c, l, hi, rfl, rfl, hc, HL, hB, HV, hbel⟩ := hrel
    by_cases hlt : i < L
    · obtain ⟨t, ht⟩ : ∃ t, t + 1 + i = L := ⟨L - 1 - i, by omega⟩
      have hti : (L : Int) - 1 - (i : Int) = (t : Int) := by omega
      have htl : t < L := by omega
      have hfr := hB.frozen t
      have hcz := hB.cell t (by have := HL.out; omega)
      obtain ⟨z, hz⟩ : ∃ z, z = (l.getD t 0).toNat := ⟨_, rfl⟩
      rw [← hz] at hcz
      have hx : byteN a i < 256 := Nat.mod_lt _ (by decide)
      have hy : byteN b i < 256 := Nat.mod_lt _ (by decide)
      obtain ⟨x, hxd⟩ : ∃ x, byteN a i = x := ⟨_, rfl⟩
      obtain ⟨y, hyd⟩ : ∃ y, byteN b i = y := ⟨_, rfl⟩
      rw [hxd] at hx
      rw [hyd] at hy
      have HX := Lib.hid hxd
      have HY := Lib.hid hyd
      have HT := Lib.hid ht
      have A1 := Lib.hid (at_any a i)
      have A2 := Lib.hid (at_any b i)
      clear hxd hyd hz
      by_cases hneg : x < y + c
      · obtain ⟨d, hd⟩ : ∃ d, d = UInt8.ofNat (x + 256 - y - c) := ⟨_, rfl⟩
        have hdn : d.toNat = x + 256 - y - c := by rw [hd, UInt8.toNat_ofNat']; omega
        have hdi : (x : Int) - (y : Int) - (c : Int) + 256 = (d.toNat : Int) := by omega
        have hdl : d.toNat < 256 := byte_lt d
        have HST := Lib.hid (minus_step (a := a) (b := b) (i := i) (c := c) (t := t) (d := d) (bw := 1) HL.out ht (by rw [show t + 1 = L - i from by omega]; exact HV.out) (by rw [HX.out, HY.out]; omega))
        clear ht hd hdn
        go_wp2_with fail
        refine (A1.out _ (by omega) (by omega)).mono ?_
        rintro e w' ⟨rfl, rfl⟩
        rw [HX.out]
        go_wp2_with fail
        refine (A2.out _ (by omega) (by omega)).mono ?_
        rintro e w' ⟨rfl, rfl⟩
        rw [HY.out]
        go_wp2
        go_roundw
        case rel => exact ⟨i + 1, 1, l.set t d, by omega, by go_num, by go_num, by omega, Lib.hid (by have := HL.out; simpa using this), hB.set _ _, Lib.hid (by rw [show L - (i + 1) = t from by have := HT.out; omega]; exact HST.out), hbel.setCell (Nat.le_refl _) _⟩
        case measure => simp [intOf]; omega
      · obtain ⟨d, hd⟩ : ∃ d, d = UInt8.ofNat (x - y - c) := ⟨_, rfl⟩
        have hdn : d.toNat = x - y - c := by rw [hd, UInt8.toNat_ofNat']; omega
        have hdi : (x : Int) - (y : Int) - (c : Int) = (d.toNat : Int) := by omega
        have hdl : d.toNat < 256 := byte_lt d
        have HST := Lib.hid (minus_step (a := a) (b := b) (i := i) (c := c) (t := t) (d := d) (bw := 0) HL.out ht (by rw [show t + 1 = L - i from by omega]; exact HV.out) (by rw [HX.out, HY.out]; omega))
        clear ht hd hdn
        go_wp2_with fail
        refine (A1.out _ (by omega) (by omega)).mono ?_
        rintro e w' ⟨rfl, rfl⟩
        rw [HX.out]
        go_wp2_with fail
        refine (A2.out _ (by omega) (by omega)).mono ?_
        rintro e w' ⟨rfl, rfl⟩
        rw [HY.out]
        go_wp2
        go_roundw
        case rel => exact ⟨i + 1, 0, l.set t d, by omega, by go_num, by go_num, by omega, Lib.hid (by have := HL.out; simpa using this), hB.set _ _, Lib.hid (by rw [show L - (i + 1) = t from by have := HT.out; omega]; exact HST.out), hbel.setCell (Nat.le_refl _) _⟩
        case measure => simp [intOf]; omega
    · have hie : i = L := by omega
      subst hie
      have HF := Lib.hid (minus_end HL.out (by have := HV.out; rw [Nat.sub_self] at this; exact this) hla HAB.out)
      go_wp2_with fail
      refine (rtrim_any w.heap.size l i _ hB HL.out (by omega)).mono ?_
      rintro e w' ⟨rfl, rfl⟩
      go_wp2
      go_ret
      exact ⟨ret_str (by rw [HF.out]), hbel⟩
end Go.Proofs.YtmiafkbjmkaebaaGreat
