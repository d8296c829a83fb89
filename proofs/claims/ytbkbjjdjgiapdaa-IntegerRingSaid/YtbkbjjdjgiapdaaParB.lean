/-
  The contract of the reference's Parse.
-/
import Derived.Test.YtbkbjjdjgiapdaaParA
namespace Go.Proofs.Ytbkbjjdjgiapdaa
open Go.RowKit Num

/-- What Parse hands back at a text of a number. -/
def Parsed (w : World) (s : ByteArray) (e : Ending) (w' : World) : Prop := ((pv s s.size < Top ∧ e = .returned (.tuple #[.string (bs (pv s s.size)), .int .i64 0])) ∨ (Top ≤ pv s s.size ∧ e = .returned (.tuple #[.string (bs 0), .int .i64 5]))) ∧ Below w.heap.size w w'
theorem times_ten (x : Nat) (W : World) (h : (bs x).size ≤ 2000) : Calls Try.prog 71 #[.string (bs x), .string ⟨#[10]⟩] W (Made W (.string (bs (x * 10)))) := by
  have := rtimes_any x 10 W h (by rw [bs_ten]; show (1 : Nat) ≤ 2000; decide)
  rw [bs_ten] at this
  exact this
theorem long_size {n : Nat} (h : Top ≤ n) : 128 < (bs n).size := by
  apply Decidable.byContradiction
  intro hc
  have := bs_le.1 (show (bs n).size ≤ 128 by omega)
  unfold Top at h
  omega
theorem pv_mono (s : ByteArray) (i : Nat) : ∀ d, i + d ≤ s.size → pv s i ≤ pv s (i + d) := by
  intro d
  induction d with
  | zero => intro _; exact Nat.le_refl _
  | succ d ih =>
    intro h
    have h1 := ih (by omega)
    have h2 := pv_succ s (i + d) (by omega)
    rw [← Nat.add_assoc, h2]
    omega

set_option maxHeartbeats 1000000 in
set_option maxRecDepth 100000 in
theorem rparse_yes (s : ByteArray) (w : World) (hs : s.size ≤ 1000) (hok : okText s) :
    Calls Try.prog 19 #[.string s] w (Parsed w s) := by
  obtain ⟨hp, hz, hd⟩ := hok
  have ht : s.toList.isEmpty = false := by rw [isEmpty_size]; exact decide_eq_false (by omega)
  have HD := Lib.hid hd
  have HZ := Lib.hid bs_zero
  clear hd
  by_cases h0 : (s[0]).toNat = 48
  case' pos =>
    have h1 := hz hp h0
    have h1' : decide ((1 : Int) < (s.size : Int)) = false := decide_eq_false (by omega)
    have hb : (((s[0]).toNat : Int) == 48) = true := by rw [beq_iff_eq]; omega
    clear hz h0
    go_enter Try.func19, Try.ntmps19
    go_wp2
  case' neg =>
    have hb : (((s[0]).toNat : Int) == 48) = false := by rw [beq_eq_false_iff_ne]; omega
    clear hz h0
    go_enter Try.func19, Try.ntmps19
    go_wp2
  all_goals
    go_loopw [4] (fun v wr => ∃ i : Nat, i ≤ s.size ∧ v = .int .i64 i ∧ wr = w) (fun v _ => s.size - (intOf v).toNat)
    case atStart => exact ⟨0, by omega, rfl, rfl⟩
    case round =>
      obtain ⟨i, hi, rfl, rfl⟩ := hrel
      by_cases hlt : i < s.size
      · obtain ⟨g1, g2⟩ := HD.out i hlt
        have g3 : decide (((s[i]).toNat : Int) < 48) = false := decide_eq_false (by omega)
        have g4 : decide ((57 : Int) < ((s[i]).toNat : Int)) = false := decide_eq_false (by omega)
        go_wp2
        go_roundw
        case rel => exact ⟨i + 1, by omega, by go_num, by trivial⟩
        case measure => simp [intOf]; omega
      · have hdd : decide (i < s.size) = false := by simpa using hlt
        have hB : Below wr.heap.size wr wr := Below.refl _ _
        go_wp2
        clear hdd hlt hi
        obtain ⟨wo, rfl⟩ : ∃ wo : World, wo = wr := ⟨_, rfl⟩
        go_loopw [5, 6] (fun u v wq => ∃ k : Nat, k ≤ s.size ∧ v = .int .i64 k ∧ u = .string (bs (pv s k)) ∧ Hid (pv s k < Top) ∧ Below wo.heap.size wo wq) (fun _ v _ => s.size - (intOf v).toNat)
        case atStart => exact ⟨0, by omega, rfl, by rw [pv_zero, HZ.out], Lib.hid (by rw [pv_zero]; unfold Top; decide), hB⟩
        case round =>
          clear hB
          obtain ⟨k, hk, rfl, rfl, HV, hbel⟩ := hrel
          by_cases hlt : k < s.size
          · obtain ⟨g1, g2⟩ := HD.out k hlt
            have HS := Lib.hid (pv_succ s k hlt)
            obtain ⟨c, hc⟩ : ∃ c, c = (s[k]).toNat - 48 := ⟨_, rfl⟩
            rw [← hc] at HS
            have hc10 : c < 10 := by omega
            have hci : ((s[k]).toNat : Int) - 48 = (c : Int) := by omega
            have hw1 : IntKind.u8.wrap (c : Int) = (c : Int) := by rw [IntKind.wrap_u8]; omega
            have hw2 : IntKind.u64.wrap (c : Int) = (c : Int) := by rw [IntKind.wrap_u64]; omega
            have h128 := bs_small HV.out
            obtain ⟨x, hx⟩ : ∃ x, x = pv s k := ⟨_, rfl⟩
            rw [← hx] at h128 HS ⊢
            have hvs : (bs (x * 10 + c)).size ≤ 129 := by
              have := HV.out
              rw [← hx] at this
              rw [bs_le, Nat.pow_succ]
              unfold Top at this
              omega
            have HT := Lib.hid (fun W => times_ten x W (by omega))
            have HO := Lib.hid (fun W => rof_any c W (by omega))
            have HP := Lib.hid (fun W => plus_any (x * 10) c W (Nat.le_trans (bs_mono (Nat.le_add_right _ _) hvs) (by omega)) (Nat.le_trans (bs_mono (Nat.le_add_left _ _) hvs) (by omega)))
            rw [← HS.out] at HP hvs
            have hB := hbel.drew
            clear hbel hc hx g1 g2
            go_wp2
            go_region_with (first | (go_at_call 71; (refine (HT.out _).mono ?_); rintro e w1 ⟨rfl, hb1⟩; replace hB := hB.trans (hb1.mono hB.size); clear hb1) | (go_at_call 72; (refine (HO.out _).mono ?_); rintro e w2 ⟨rfl, hb2⟩; replace hB := hB.trans (hb2.mono hB.size); clear hb2) | (go_at_call 70; (refine (HP.out _).mono ?_); rintro e w3 ⟨rfl, hb3⟩; replace hB := hB.trans (hb3.mono hB.size); clear hb3))
            all_goals
              by_cases hT : pv s (k + 1) < Top
              · have h5 := bs_small hT
                have HT5 := Lib.hid hT
                clear hT
                go_wp2
                go_roundw
                case rel => exact ⟨k + 1, by omega, by go_num, rfl, HT5, hB⟩
                case measure => simp [intOf]; omega
              · have h5 := long_size (Nat.le_of_not_lt hT)
                have h6 := pv_mono s (k + 1) (s.size - (k + 1)) (by omega)
                rw [show k + 1 + (s.size - (k + 1)) = s.size from by omega] at h6
                have HT5 := Lib.hid (Nat.le_trans (Nat.le_of_not_lt hT) h6)
                clear hT h6
                go_wp2
                go_ret2
                exact ⟨.inr ⟨HT5.out, by rw [HZ.out]; rfl⟩, hB⟩
          · obtain rfl : k = s.size := by omega
            go_wp2
            go_ret2
            exact ⟨.inl ⟨HV.out, rfl⟩, hbel⟩
end Go.Proofs.Ytbkbjjdjgiapdaa
