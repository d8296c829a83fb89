/-
  The contract of natural.Parse.
-/
import Derived.Test.YtbkbjjdjgiapdaaScale
import Derived.Test.YtbkbjjdjgiapdaaParB
namespace Go.Proofs.Ytbkbjjdjgiapdaa
open Go.RowKit Num

theorem pv_low (s : ByteArray) (hp : 0 < s.size) (h0 : (s[0]).toNat ≠ 48) (hd : ∀ k (h : k < s.size), 48 ≤ (s[k]).toNat ∧ (s[k]).toNat ≤ 57) : ∀ k, k < s.size → 10 ^ k ≤ pv s (k + 1) := by
  intro k
  induction k with
  | zero =>
    intro _
    have := hd 0 hp
    rw [pv_succ s 0 hp, pv_zero]
    simp
    omega
  | succ k ih =>
    intro h
    have h1 := ih (by omega)
    rw [pv_succ s (k + 1) h, Nat.pow_succ]
    omega
theorem pv_long (s : ByteArray) (hok : okText s) (h : 309 < s.size) : Top ≤ pv s s.size := by
  obtain ⟨hp, hz, hd⟩ := hok
  have h0 : (s[0]).toNat ≠ 48 := fun e => by have := hz hp e; omega
  have h1 := pv_low s hp h0 hd (s.size - 1) (by omega)
  rw [show s.size - 1 + 1 = s.size from by omega] at h1
  have h2 := top_dec
  have h3 : 10 ^ E309 ≤ 10 ^ (s.size - 1) := Nat.pow_le_pow_right (by decide) (by unfold E309; omega)
  omega
theorem isd_of_own {w : World} {base cap : Nat} {A : Option Addr} {xs : List Nat} (h : w.ownsRow base 80 1 (.slice A xs.length cap) xs.length (cellsD xs)) (hs : Small xs) : IsD w A xs := by
  refine ⟨hs, fun hp => ?_⟩
  obtain ⟨g, rfl, _, hg⟩ := owns_block h hp
  exact ⟨g, 0, rfl, hg, fun k hk => by rw [Nat.zero_add]; exact owns_digits_cell h rfl k hk⟩
theorem owns_cap {w : World} {base n cap : Nat} {A : Option Addr} {xs : List Value} (h : w.ownsRow base 80 1 (.slice A n cap) n xs) : n ≤ cap := by
  rcases h.2 with ⟨h1, h3⟩ | ⟨g, cap', cur, hv, hb, hh, hnc, _⟩
  · injection h1 with e1 e2 e3
    omega
  · injection hv with h1 h2 h3
    omega

set_option maxHeartbeats 1000000 in
set_option maxRecDepth 100000 in
theorem parse_no (s : ByteArray) (w : World) (hs : s.size ≤ 1000) (hno : ¬ okText s) :
    Calls Try.prog 18 #[.string s] w (Same w (.tuple #[.string (bs 0), .int .i64 4])) := by
  have HZ := Lib.hid bs_zero
  have HD := Lib.hid (fun W => decimal_no s W hs hno)
  clear hno
  go_enter Try.func18, Try.ntmps18
  go_wp2_with fail
  refine (HD.out _).mono ?_
  rintro e w' ⟨rfl, rfl⟩
  go_wp2
  go_ret2
  exact ⟨by rw [HZ.out]; rfl, rfl⟩

set_option maxHeartbeats 1000000 in
set_option maxRecDepth 100000 in
theorem parse_yes (s : ByteArray) (w : World) (hs : s.size ≤ 1000) (hok : okText s) :
    Calls Try.prog 18 #[.string s] w (Parsed w s) := by
  have HZ := Lib.hid bs_zero
  have HD := Lib.hid (fun W => decimal_yes s W hs hok)
  have HG := Lib.hid hok.2.2
  have HL := Lib.hid (fun h => pv_long s hok h)
  clear hok
  have hB : Below w.heap.size w w := Below.refl _ _
  by_cases hlong : 309 < s.size
  · have HLL := Lib.hid (HL.out hlong)
    go_enter Try.func18, Try.ntmps18
    go_wp2_with fail
    refine (HD.out _).mono ?_
    rintro e w' ⟨rfl, rfl⟩
    go_wp2
    go_ret2
    exact ⟨.inr ⟨HLL.out, by rw [HZ.out]; rfl⟩, hB⟩
  · go_enter Try.func18, Try.ntmps18
    go_wp2_with fail
    refine (HD.out _).mono ?_
    rintro e w' ⟨rfl, rfl⟩
    go_wp2
    clear hB
    go_loopw [4, 14] (fun v i wr => ∃ (k cap : Nat) (A : Option Addr) (zs : List Nat), k ≤ s.size ∧ i = .int .i64 k ∧ v = .slice A zs.length cap ∧ Hid (wr.ownsRow w.heap.size 80 1 (.slice A zs.length cap) zs.length (cellsD zs)) ∧ Hid (Small zs) ∧ zs.length ≤ k ∧ Hid (dv B32 zs = pv s k) ∧ Below w.heap.size w wr) (fun _ i _ => s.size - (intOf i).toNat)
    case atStart => exact ⟨0, 0, none, [], Nat.zero_le _, rfl, rfl, Lib.hid (World.ownsRow_nil _ _ _ _), Lib.hid Small.nil, Nat.zero_le _, Lib.hid (by rw [pv_zero]; rfl), Below.refl _ _⟩
    case round =>
      obtain ⟨k, cap, A, zs, hk, rfl, rfl, HO, HZ, hzk, HE, hbel⟩ := hrel
      by_cases hlt : k < s.size
      · obtain ⟨g1, g2⟩ := HG.out k hlt
        have HS := Lib.hid (pv_succ s k hlt)
        obtain ⟨c, hc⟩ : ∃ c, c = (s[k]).toNat - 48 := ⟨_, rfl⟩
        rw [← hc] at HS
        have hc10 : c < 10 := by omega
        have hci : ((s[k]).toNat : Int) - 48 = (c : Int) := by omega
        have hw1 : IntKind.u8.wrap (c : Int) = (c : Int) := by rw [IntKind.wrap_u8]; omega
        have hw2 : IntKind.u32.wrap (c : Int) = (c : Int) := by rw [IntKind.wrap_u32]; omega
        have HSC := Lib.hid (scale_any w.heap.size A cap zs c wr HO.out HZ.out (by omega) hc10 hbel.size)
        clear hc g1 g2
        go_wp2_with fail
        refine (HSC.out).mono ?_
        rintro e w1 ⟨v, ys, rfl, hown1, hs1, hl1, hv1, hb1⟩
        obtain ⟨A1, cap1, rfl⟩ := owns_form hown1
        have HV1 := Lib.hid hv1
        have HO1 := Lib.hid hown1
        have HZ1 := Lib.hid hs1
        clear hv1 hown1 hs1
        go_wp2
        go_roundw
        case rel => exact ⟨k + 1, cap1, A1, ys, by omega, by go_num, rfl, HO1, HZ1, by omega, Lib.hid (by rw [HV1.out, HE.out, HS.out]), hbel.trans hb1⟩
        case measure => simp [intOf]; omega
      · obtain rfl : k = s.size := by omega
        have HI := Lib.hid (isd_of_own HO.out HZ.out)
        have hcap := owns_cap HO.out
        by_cases hT : pv s s.size < Top
        · have HN := Lib.hid (natof_ok A zs cap wr HI.out hcap (by omega) (by rw [HE.out]; exact hT))
          have HT := Lib.hid hT
          rw [HE.out] at HN
          clear hT
          go_wp2_with fail
          refine (HN.out).mono ?_
          rintro e w1 ⟨rfl, hb1⟩
          go_wp2
          go_ret2
          exact ⟨.inl ⟨HT.out, rfl⟩, hbel.trans (hb1.mono hbel.size)⟩
        · have HN := Lib.hid (natof_long A zs cap wr HI.out hcap (by omega) (by rw [HE.out]; omega))
          have HT := Lib.hid (Nat.le_of_not_lt hT)
          clear hT
          go_wp2_with fail
          refine (HN.out).mono ?_
          rintro e w1 ⟨rfl, hb1⟩
          go_wp2
          go_ret2
          exact ⟨.inr ⟨HT.out, rfl⟩, hbel.trans (hb1.mono hbel.size)⟩
end Go.Proofs.Ytbkbjjdjgiapdaa
