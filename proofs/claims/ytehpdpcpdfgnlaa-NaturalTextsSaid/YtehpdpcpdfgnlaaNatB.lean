/-
  Contract of natural.Of: the canonical string of a number of 64 bits.
-/
import Derived.Test.YtehpdpcpdfgnlaaNatA
namespace Go.Proofs.Ytehpdpcpdfgnlaa
open Go.RowKit Num
/-- A number of eight bytes without its last 8 - k bytes. -/
def sh8 (n k : Nat) : Nat := n / 256 ^ (8 - k)
theorem sh8_succ (n k : Nat) (h : k < 8) : sh8 n (k + 1) = sh8 n k * 256 + n / 256 ^ (7 - k) % 256 := by
  unfold sh8
  rw [show 8 - k = (7 - k) + 1 from by omega, show 8 - (k + 1) = 7 - k from by omega, Nat.pow_succ, ← Nat.div_div_eq_div_mul]
  omega
theorem sh8_byte (n k : Nat) (q : Int) (h : k < 8) (hq : q = 56 - 8 * (k : Int)) : (n : Int) / 2 ^ q.toNat % 256 = ((n / 256 ^ (7 - k) % 256 : Nat) : Int) := by
  have : q.toNat = 8 * (7 - k) := by omega
  rw [this]
  have h2 : (2 : Int) ^ (8 * (7 - k)) = ((256 ^ (7 - k) : Nat) : Int) := by rw [show (256 : Nat) ^ (7 - k) = 2 ^ (8 * (7 - k)) from by rw [Nat.pow_mul]]; simp
  rw [h2]
  omega
set_option maxHeartbeats 400000 in
set_option maxRecDepth 100000 in
theorem of_any (n : Nat) (h : n < 18446744073709551616) (w : World) :
    Calls Try.prog 56 #[.int .u64 n] w fun e w' => e = .returned (.string (bs n)) ∧ Below w.heap.size w w' := by
  obtain ⟨i0, hi0, hz0, hz1, hz2⟩ := info_parts info_u8
  have H := Lib.hid h; clear h
  go_enter Try.func56, Try.ntmps56
  go_wp2
  go_loopw [3, 4] (fun v i wr => ∃ (k : Nat) (q : Int), k ≤ 8 ∧ Hid (q = 56 - 8 * (k : Int)) ∧ i = .int .i64 q ∧ wr.ownsRow w.heap.size 5 1 v (cb (sh8 n k)).length (cellsB (cb (sh8 n k))) ∧ Below w.heap.size w wr) (fun _ i _ => ((intOf i) + 8).toNat)
  case atStart => exact ⟨0, 56, by omega, Lib.hid (by omega), rfl, by
      have : sh8 n 0 = 0 := by unfold sh8; exact Nat.div_eq_of_lt (Nat.lt_of_lt_of_le H.out (by decide))
      rw [this, cb_zero]; exact World.ownsRow_nil _ _ _ _, Below.refl _ _⟩
  case round =>
    obtain ⟨k, q, hk, HQ, rfl, hown, hbel⟩ := hrel
    have HF := Lib.hid (owns_form hown)
    obtain ⟨A, cap, rfl⟩ := HF.out
    clear HF
    by_cases hlt : k < 8
    · have e1 : 0 ≤ q := by have := HQ.out; omega
      have e2 : q ≤ 56 := by have := HQ.out; omega
      obtain ⟨b, hb⟩ : ∃ b, b = n / 256 ^ (7 - k) % 256 := ⟨_, rfl⟩
      have hb2 : b < 256 := by omega
      have hs := sh8_succ n k hlt
      have hby := sh8_byte n k q hlt HQ.out
      rw [← hb] at hby hs
      have HS := Lib.hid hs
      by_cases hm : sh8 n (k + 1) = 0
      · have hm0 : sh8 n k = 0 := by omega
        have hb0 : b = 0 := by omega
        rw [hm0, cb_zero] at hown ⊢
        subst hb0
        have HM := Lib.hid hm; have HLT := Lib.hid hlt; clear hlt hs hb hm0 hm
        go_wp2
        go_roundw
        case rel => exact ⟨k + 1, q - 8, by have := HLT.out; omega, Lib.hid (by have := HQ.out; omega), rfl, by rw [HM.out, cb_zero]; exact hown, hbel⟩
        case measure => show (q - 8 + 8).toNat < (q + 8).toNat; clear hby; omega
      · have hs' : cb (sh8 n (k + 1)) = cb (sh8 n k) ++ [UInt8.ofNat b] := by
          rw [cb_pos hm, hs, show (sh8 n k * 256 + b) / 256 = sh8 n k from by omega]
          congr 2
          apply UInt8.toNat_inj.1
          rw [UInt8.toNat_ofNat', UInt8.toNat_ofNat']
          omega
        have hbt : ((UInt8.ofNat b).toNat : Int) = b := by rw [UInt8.toNat_ofNat']; omega
        have hk8 : (cb (sh8 n k)).length ≤ 8 := by
          rw [cb_length_le]
          refine Nat.lt_of_le_of_lt (Nat.div_le_self _ _) (Nat.lt_of_lt_of_le H.out (by decide))
        have hbase := hbel.size
        have HS' := Lib.hid hs'
        have HBT := Lib.hid hbt
        have HHB := Lib.hid hb
        have hdec : ((b : Int) != 0) = true ∨ ((b : Int) != 0) = false ∧ 0 < (cb (sh8 n k)).length := by
          by_cases h0 : b = 0
          · right
            refine ⟨by simp [h0], ?_⟩
            have : sh8 n k ≠ 0 := by omega
            have : cb (sh8 n k) ≠ [] := fun e => this (cb_eq_nil.1 e)
            exact List.length_pos_iff.2 this
          · left; simpa using h0
        have HLT := Lib.hid hlt; clear hlt hs hs' hbt hb
        have hnw : ∀ (C : Array Value) (u : Value), C[0]? = some u → ∀ (j : Nat) (v : Value), [u][j]? = some v → (wr.alloc (.cells C 5)).cell? (Addr.add ⟨wr.heap.size, 0, none⟩ j) = some v := by
          intro C u hC j v hj
          match j, hj with
          | 0, hj =>
            simp at hj; subst hj
            rw [show Addr.add ⟨wr.heap.size, 0, none⟩ 0 = ⟨wr.heap.size, 0, none⟩ from rfl, World.cell?_alloc_mark]
            exact hC
        have hone : ∀ u ∈ [Value.int .u8 (b : Int)], u.oneCell' = true := by intro u hu; simp at hu; subst hu; rfl
        have HNW := Lib.hid hnw
        have HONE := Lib.hid hone; clear hnw hone
        rcases hdec with hz | ⟨hz, hp⟩
        · go_wp2_with (at_builtin; go_loud (refine wpList_append_own _ rfl _ _ 77 rfl w.heap.size 5 i0 (.int .u8 0) 1 1 Try.underlying77 hi0 hz0 hz1 hz2 rfl (by decide) _ _ _ rfl (hown.alloc _) ⟨wr.heap.size, 0, none⟩ 1 1 [.int .u8 (b : Int)] rfl rfl (HNW.out _ _ rfl) HONE.out (by unfold maxLen; omega) (by omega) (by simp; omega) ?_); intro v1 w1 hown1 hg1 _; go_loud (have hbel1 := (hbel.alloc hbel.size (.cells #[.int .u8 (b : Int)] 5)).grown hg1 (by simp; omega) (fun g hg => (hown.lt g hg).1)))
          go_wp2
          go_roundw
          case rel => refine ⟨k + 1, q - 8, by have := HLT.out; omega, Lib.hid (by have := HQ.out; omega), rfl, by rw [HS'.out, cellsB_snoc, HBT.out, List.length_append]; exact hown1, hbel1⟩
          case measure => show (q - 8 + 8).toNat < (q + 8).toNat; clear hby; omega
        · go_wp2_with (at_builtin; go_loud (refine wpList_append_own _ rfl _ _ 77 rfl w.heap.size 5 i0 (.int .u8 0) 1 1 Try.underlying77 hi0 hz0 hz1 hz2 rfl (by decide) _ _ _ rfl (hown.alloc _) ⟨wr.heap.size, 0, none⟩ 1 1 [.int .u8 (b : Int)] rfl rfl (HNW.out _ _ rfl) HONE.out (by unfold maxLen; omega) (by omega) (by simp; omega) ?_); intro v1 w1 hown1 hg1 _; go_loud (have hbel1 := (hbel.alloc hbel.size (.cells #[.int .u8 (b : Int)] 5)).grown hg1 (by simp; omega) (fun g hg => (hown.lt g hg).1)))
          go_wp2
          go_roundw
          case rel => exact ⟨k + 1, q - 8, by have := HLT.out; omega, Lib.hid (by have := HQ.out; omega), rfl, by rw [HS'.out, cellsB_snoc, HBT.out, List.length_append]; exact hown1, hbel1⟩
          case measure => show (q - 8 + 8).toNat < (q + 8).toNat; clear hby; omega
    · have hk8 : k = 8 := by omega
      have hq8 : q = -8 := by have := HQ.out; omega
      have hsz : sh8 n k = n := by rw [hk8]; simp [sh8]
      have hc := owns_string (P := Try.prog) (src := 77) (dst := 22) hown Try.underlying77 Try.underlying5 Try.underlying22
      have HSZ := Lib.hid hsz; clear hlt HQ hk8 hk hsz
      subst hq8
      go_wp2
      go_ret
      exact ⟨ret_str (by rw [HSZ.out]; rfl), hbel⟩
end Go.Proofs.Ytehpdpcpdfgnlaa
