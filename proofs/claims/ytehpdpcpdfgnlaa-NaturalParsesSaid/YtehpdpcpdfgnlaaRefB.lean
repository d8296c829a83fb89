/-
  Contracts of the reference's trim, Of, Order, Cmp, bits and one.
-/
import Derived.Test.YtehpdpcpdfgnlaaRefA
namespace Go.Proofs.Ytehpdpcpdfgnlaa
open Go.RowKit Num

theorem getD_list (l : List UInt8) (k : Nat) : l[k]? = some 0 ↔ k < l.length ∧ l.getD k 0 = 0 := by
  rw [List.getD_eq_getElem?_getD]
  rcases Nat.lt_or_ge k l.length with h | h
  · rw [List.getElem?_eq_getElem h]; simp [h]
  · rw [List.getElem?_eq_none h]; simp; omega

set_option maxHeartbeats 1000000 in
set_option maxRecDepth 100000 in
theorem rtrim_any (g : Nat) (l : List UInt8) (n : Nat) (w : World) (hB : Bt w g l) (hl : l.length = n) (hn : n ≤ 1000000) :
    Calls Try.prog 98 #[.slice (some ⟨g, 0, none⟩) n n] w (Same w (.string (bs (bval l)))) := by
  have HL := Lib.hid hl
  have HB := Lib.hid hB
  clear hl hB
  go_enter Try.func98, Try.ntmps98
  go_wp2
  go_loop [3] (fun c => ∃ k : Nat, k ≤ n ∧ c = .int .i64 k ∧ Hid (∀ j, j < k → l[j]? = some 0)) (fun c => n - (intOf c).toNat)
  case atStart => exact ⟨0, Nat.zero_le _, rfl, Lib.hid (fun j hj => by omega)⟩
  case round =>
    obtain ⟨k, hk, rfl, HZ⟩ := hrel
    by_cases hlt : k < n
    · have hc := HB.out.cell k (by have := HL.out; omega)
      obtain ⟨b, hb⟩ : ∃ b : Nat, b = (l.getD k 0).toNat := ⟨_, rfl⟩
      rw [← hb] at hc
      by_cases h0 : b = 0
      · subst h0
        have hz : l[k]? = some 0 := (getD_list l k).2 ⟨by have := HL.out; omega, UInt8.toNat_inj.1 (by rw [← hb]; rfl)⟩
        have HZ2 : Hid (∀ j, j < k + 1 → l[j]? = some 0) := Lib.hid (fun j hj => by
          rcases Nat.lt_or_eq_of_le (Nat.le_of_lt_succ hj) with h | h
          · exact HZ.out j h
          · rw [h]; exact hz)
        clear hb hz
        go_wp2
        go_round
        case rel => exact ⟨k + 1, by omega, by go_num, HZ2⟩
        case measure => simp [intOf]; omega
      · have h0' : ((b : Int) == 0) = false := by rw [beq_eq_false_iff_ne]; omega
        have hne : l[k]? ≠ some 0 := fun e => by
          have := ((getD_list l k).1 e).2
          rw [this] at hb
          exact h0 hb
        have HD : Hid ((⟨(l.drop k).toArray⟩ : ByteArray) = bs (bval l)) := Lib.hid (by unfold bs; rw [drop_eq_cb l k HZ.out hne])
        have hcv := HB.out.string (P := Try.prog) (src := 77) (dst := 22) k (n - k) (n - k) (by rw [HL.out]) Try.underlying77 Try.underlying5 Try.underlying22
        clear hb hne
        go_wp2
        go_ret
        exact ⟨ret_str HD.out, rfl⟩
    · have hke : k = n := by omega
      subst hke
      have hd0 : bval l = 0 := by
        have h1 := drop_eq_cb l k HZ.out (by rw [List.getElem?_eq_none (by have := HL.out; omega)]; simp)
        rw [List.drop_eq_nil_of_le (by have := HL.out; omega)] at h1
        exact cb_eq_nil.1 h1.symm
      have HD : Hid ((⟨#[]⟩ : ByteArray) = bs (bval l)) := Lib.hid (by rw [hd0, bs_zero])
      have hcv := run_convert_bytes_back (P := Try.prog) w 77 22 5 ⟨g, 0, none⟩ 0 [] Try.underlying77 Try.underlying5 Try.underlying22 (by intro j hj; simp at hj)
      rw [List.length_nil] at hcv
      clear hd0
      go_wp2
      go_ret
      exact ⟨ret_str HD.out, rfl⟩

/-- The bytes from place t on, when the one at t is set. -/
theorem bval_set_drop (l : List UInt8) (t : Nat) (b : UInt8) (h : t < l.length) : bval ((l.set t b).drop t) = b.toNat * 256 ^ (l.length - t - 1) + bval (l.drop (t + 1)) := by
  have h1 : (l.set t b).drop t = b :: l.drop (t + 1) := by
    rw [List.drop_eq_getElem_cons (by simpa using h), List.drop_set_of_lt (by omega)]
    simp
  rw [h1, bval_cons, List.length_drop]
  congr 3

set_option maxHeartbeats 1000000 in
set_option maxRecDepth 100000 in
theorem rof_any (n : Nat) (w : World) (h : n < 18446744073709551616) :
    Calls Try.prog 72 #[.int .u64 n] w (Made w (.string (bs n))) := by
  obtain ⟨i0, hi0, hz0, hz1, hz2⟩ := info_parts info_u8
  have H := Lib.hid h; clear h
  go_enter Try.func72, Try.ntmps72
  go_wp2_with (at_make; refine wpList_make_full _ rfl _ _ 77 rfl w.heap.size 5 i0 (.int .u8 0) 1 Try.underlying77 hi0 hz0 hz1 _ _ _ _ 8 rfl rfl (by omega) (by omega) (by rw [hz2]; omega) (by unfold maxLen; omega) (Nat.le_refl _) ?_; intro w0 hown0 hgrow0)
  have hb0 : Below w.heap.size w w0 := (Below.refl _ _).grown hgrow0 (Nat.le_refl _) (fun g hg => by cases hg)
  rw [madeB] at hown0
  have hB0 := Bt.of_own hown0
  clear hown0 hgrow0
  go_loopw [0, 4] (fun v i wr => ∃ (k m : Nat) (q : Int) (l : List UInt8), k ≤ 8 ∧ Hid (q = 7 - (k : Int)) ∧ -1 ≤ q ∧ q ≤ 7 ∧ i = .int .i64 q ∧ v = .int .u64 m ∧ Hid (m = n / 256 ^ k) ∧ m < 18446744073709551616 ∧ Hid (l.length = 8) ∧ Bt wr w.heap.size l ∧ Hid (bval (l.drop (8 - k)) = n % 256 ^ k) ∧ Below w.heap.size w wr) (fun _ i _ => (intOf i + 1).toNat)
  case atStart => exact ⟨0, n, 7, _, by omega, Lib.hid (by omega), by omega, by omega, rfl, rfl, Lib.hid (by simp), H.out, Lib.hid List.length_replicate, hB0, Lib.hid (by simp [Nat.mod_one, bval]), hb0⟩
  case round =>
    obtain ⟨k, m, q, l, hk, HQ, hq1, hq2, rfl, rfl, HM, hm, HL, hB, HV, hbel⟩ := hrel
    by_cases hlt : 0 ≤ q
    · obtain ⟨t, rfl⟩ := Int.eq_ofNat_of_zero_le hlt
      have ht : t + 1 + k = 8 := by have := HQ.out; omega
      have hfr := hB.frozen t
      have hcz := hB.cell t (by have := HL.out; omega)
      obtain ⟨z, hz⟩ : ∃ z, z = (l.getD t 0).toNat := ⟨_, rfl⟩
      rw [← hz] at hcz
      obtain ⟨b, hb⟩ : ∃ b, b = UInt8.ofNat (m % 256) := ⟨_, rfl⟩
      have hbt : b.toNat = m % 256 := by rw [hb, UInt8.toNat_ofNat']; omega
      have hbi : (m : Int) % 256 = (b.toNat : Int) := by omega
      have hst : bval ((l.set t b).drop (8 - (k + 1))) = n % 256 ^ (k + 1) := by
        rw [show 8 - (k + 1) = t from by omega, bval_set_drop l t b (by have := HL.out; omega), HL.out, show 8 - t - 1 = k from by omega, show t + 1 = 8 - k from by omega, HV.out, hbt, HM.out, mod_next, Nat.mul_comm]
        omega
      have hmn : m / 256 = n / 256 ^ (k + 1) := by rw [HM.out, Nat.pow_succ, Nat.div_div_eq_div_mul]
      have HST := Lib.hid hst
      have HMN := Lib.hid hmn
      have HT := Lib.hid ht
      clear hst hmn ht hz hb hbt
      go_wp2
      go_roundw
      case rel => exact ⟨k + 1, m / 256, (t : Int) - 1, l.set t b, by have := HT.out; omega, Lib.hid (by have := HT.out; omega), by omega, by omega, rfl, by go_num, HMN, by omega, Lib.hid (by have := HL.out; simpa using this), hB.set _ _, HST, hbel.setCell (Nat.le_refl _) _⟩
      case measure => show ((t : Int) - 1 + 1).toNat < ((t : Int) + 1).toNat; omega
    · have hk8 : k = 8 := by have := HQ.out; omega
      have hfin : bval l = n := by
        have := HV.out
        rw [hk8] at this
        rw [Nat.sub_self, List.drop_zero] at this
        rw [this]
        exact Nat.mod_eq_of_lt (by have := H.out; omega)
      have HF := Lib.hid hfin
      clear hk8 hfin
      go_wp2_with fail
      refine (rtrim_any w.heap.size l 8 _ hB HL.out (by omega)).mono ?_
      rintro e w' ⟨rfl, rfl⟩
      go_wp2
      go_ret
      exact ⟨ret_str (by rw [HF.out]), hbel⟩
end Go.Proofs.Ytehpdpcpdfgnlaa
