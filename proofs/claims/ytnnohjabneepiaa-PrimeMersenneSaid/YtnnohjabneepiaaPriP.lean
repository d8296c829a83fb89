/-
  The errors of prime.Factors; the examples of the chapter on prime numbers hold: dominolaw04.awake returns true.
-/
import Derived.Test.YtnnohjabneepiaaPriT
import Derived.Test.YtnnohjabneepiaaPriS
namespace Go.Proofs.Ytnnohjabneepiaa
open Go.RowKit Num

theorem bs_byte (n : Nat) (h0 : n ≠ 0) (h : n < 256) : bs n = ⟨#[UInt8.ofNat n]⟩ := by
  unfold bs
  rw [cb_pos h0, show n / 256 = 0 from Nat.div_eq_of_lt h, cb_zero]
  rfl
set_option maxHeartbeats 1000000 in
set_option maxRecDepth 100000 in
theorem pfactors_zero (s : ByteArray) (w : World) (he : s.toList.isEmpty = true) :
    Calls Try.prog 24 #[.string s] w (Made w (.tuple #[.slice none 0 0, .int .i64 11])) := by
  go_enter Try.func24, Try.ntmps24
  go_wp2
  go_ret2
  exact ⟨rfl, Below.refl _ _⟩
set_option maxHeartbeats 1000000 in
set_option maxRecDepth 100000 in
theorem pfactors_err (s : ByteArray) (c : Int) (w : World) (he : s.toList.isEmpty = false) (hc : c = 3 ∨ c = 5) (h : ∀ W, Calls Try.prog 27 #[.string s] W (Same W (.tuple #[.int .u64 0, .int .i64 c]))) :
    Calls Try.prog 24 #[.string s] w (Made w (.tuple #[.slice none 0 0, .int .i64 c])) := by
  have HS := Lib.hid h
  clear h
  rcases hc with rfl | rfl
  all_goals
    go_enter Try.func24, Try.ntmps24
    go_wp2_with fail
    refine (HS.out _).mono ?_
    rintro e w1 ⟨rfl, rfl⟩
    go_wp2
    go_ret2
    exact ⟨rfl, Below.refl _ _⟩
set_option maxHeartbeats 1000000 in
set_option maxRecDepth 100000 in
theorem pfactors_big (n : Nat) (w : World) (hn : n < 18446744073709551616) (hb : 1099511627776 ≤ n) :
    Calls Try.prog 24 #[.string (bs n)] w (Made w (.tuple #[.slice none 0 0, .int .i64 5])) := by
  have HS := Lib.hid (fun W => psmall_yes n W hn)
  have he : (bs n).toList.isEmpty = false := by rw [bs_isEmpty]; exact beq_false_of_ne (by omega)
  have hd : decide ((1099511627776 : Int) ≤ (n : Int)) = true := by simp; omega
  clear hn hb
  go_enter Try.func24, Try.ntmps24
  go_wp2_with fail
  refine (HS.out _).mono ?_
  rintro e w1 ⟨rfl, rfl⟩
  go_wp2
  go_ret2
  exact ⟨rfl, Below.refl _ _⟩

/-- The cells of a list of numbers that the call made. -/
theorem owns_nats {w : World} {base : Nat} {v : Value} {L : List Nat} (h : w.ownsRow base 22 1 v L.length (cellsS L)) : ∃ (A : Option Addr) (cap : Nat), v = .slice A L.length cap ∧ ∀ k, k < L.length → ∃ g, A = some ⟨g, 0, none⟩ ∧ base ≤ g ∧ g < w.heap.size ∧ w.cell? ⟨g, k, none⟩ = some (.string (bs (L.getD k 0))) := by
  obtain ⟨A, cap, hv, hc⟩ := owns_cell h
  refine ⟨A, cap, hv, fun k hk => ?_⟩
  obtain ⟨g, h1, h2, h3, h4⟩ := hc k hk
  refine ⟨g, h1, h2, h3, h4.trans ?_⟩
  simp [cellsS, hk]
theorem nats_below {w w' : World} {A : Option Addr} {L : List Nat} (h : ∀ k, k < L.length → ∃ g, A = some ⟨g, 0, none⟩ ∧ g < w.heap.size ∧ w.cell? ⟨g, k, none⟩ = some (.string (bs (L.getD k 0)))) (hb : Below w.heap.size w w') :
    ∀ k, k < L.length → ∃ g, A = some ⟨g, 0, none⟩ ∧ g < w'.heap.size ∧ w'.cell? ⟨g, k, none⟩ = some (.string (bs (L.getD k 0))) := fun k hk => by
  obtain ⟨g, h1, h2, h3⟩ := h k hk
  exact ⟨g, h1, Nat.lt_of_lt_of_le h2 hb.size, (hb.cell (p := ⟨g, k, none⟩) h2).trans h3⟩

theorem fac360 : IsFac 360 [2, 2, 2, 3, 3, 5] := by
  have l2 : ∀ n, n % 2 = 0 → Least 2 n := fun n h => ⟨Nat.le_refl _, Nat.dvd_of_mod_eq_zero h, fun d hd _ => hd⟩
  have l3 : ∀ n, n % 3 = 0 → n % 2 ≠ 0 → Least 3 n := fun n h h2 => ⟨by decide, Nat.dvd_of_mod_eq_zero h, fun d hd he => by
    rcases Nat.lt_or_ge d 3 with h5 | h5
    · obtain rfl : d = 2 := by omega
      exact absurd (Nat.mod_eq_zero_of_dvd he) h2
    · exact h5⟩
  refine ⟨l2 _ (by decide), l2 _ (by decide), l2 _ (by decide), l3 _ (by decide) (by decide), l3 _ (by decide) (by decide), ⟨by decide, by decide, fun d hd he => ?_⟩, ?_⟩
  · rcases Nat.lt_or_ge d 5 with h5 | h5
    · have hc : d = 2 ∨ d = 3 ∨ d = 4 := by omega
      rcases hc with rfl | rfl | rfl <;> exact absurd (Nat.mod_eq_zero_of_dvd he) (by decide)
    · exact h5
  · show 360 / 2 / 2 / 2 / 3 / 3 / 5 = 1
    decide
theorem next13 : NextR 13 17 := .inl ⟨by decide, by decide, by decide +kernel, fun k h1 h2 => by
  have hc : k = 14 ∨ k = 15 ∨ k = 16 := by omega
  rcases hc with rfl | rfl | rfl <;> decide +kernel⟩

set_option maxHeartbeats 4000000 in
set_option maxRecDepth 100000 in
theorem awake4 (w : World) : Calls Try.prog 12 #[] w (Made w (.bool true)) := by
  have HV : Below w.heap.size w w := Below.refl _ _
  have O97 : Hid (∀ W, Calls Try.prog 15 #[.int .u64 97] W (Made W (.string (bs 97)))) := Lib.hid (fun W => of4_ok 97 W (by decide))
  have O91 : Hid (∀ W, Calls Try.prog 15 #[.int .u64 91] W (Made W (.string (bs 91)))) := Lib.hid (fun W => of4_ok 91 W (by decide))
  have O2047 : Hid (∀ W, Calls Try.prog 15 #[.int .u64 2047] W (Made W (.string (bs 2047)))) := Lib.hid (fun W => of4_ok 2047 W (by decide))
  have O2 : Hid (∀ W, Calls Try.prog 15 #[.int .u64 2] W (Made W (.string (bs 2)))) := Lib.hid (fun W => of4_ok 2 W (by decide))
  have O3 : Hid (∀ W, Calls Try.prog 15 #[.int .u64 3] W (Made W (.string (bs 3)))) := Lib.hid (fun W => of4_ok 3 W (by decide))
  have O13 : Hid (∀ W, Calls Try.prog 15 #[.int .u64 13] W (Made W (.string (bs 13)))) := Lib.hid (fun W => of4_ok 13 W (by decide))
  have O23 : Hid (∀ W, Calls Try.prog 15 #[.int .u64 23] W (Made W (.string (bs 23)))) := Lib.hid (fun W => of4_ok 23 W (by decide))
  have O360 : Hid (∀ W, Calls Try.prog 15 #[.int .u64 360] W (Made W (.string (bs 360)))) := Lib.hid (fun W => of4_ok 360 W (by decide))
  have I97 : Hid (∀ W, Calls Try.prog 13 #[.string (bs 97)] W (Made W (.tuple #[.bool true, .int .i64 0]))) := Lib.hid (fun W => by have := pis_ok 97 W (by decide); rwa [show isPN 97 = true from by decide +kernel] at this)
  have I91 : Hid (∀ W, Calls Try.prog 13 #[.string (bs 91)] W (Made W (.tuple #[.bool false, .int .i64 0]))) := Lib.hid (fun W => by have := pis_ok 91 W (by decide); rwa [show isPN 91 = false from by decide +kernel] at this)
  have S2 : Hid (∀ W, Calls Try.prog 16 #[.string (bs 2047), .string (bs 2)] W (Made W (.tuple #[.bool true, .int .i64 0]))) := Lib.hid (fun W => by have := pstrong_ok 2047 2 W (top64 (by decide)) (top64 (by decide)); rwa [show strongN 2047 2 = true from by decide +kernel] at this)
  have S3 : Hid (∀ W, Calls Try.prog 16 #[.string (bs 2047), .string (bs 3)] W (Made W (.tuple #[.bool false, .int .i64 0]))) := Lib.hid (fun W => by have := pstrong_ok 2047 3 W (top64 (by decide)) (top64 (by decide)); rwa [show strongN 2047 3 = false from by decide +kernel] at this)
  have N13 : Hid (∀ W, Calls Try.prog 19 #[.string (bs 13)] W (Made W (.tuple #[.string ⟨#[17]⟩, .int .i64 0]))) := Lib.hid (fun W => by have := pnext_ok 13 17 W (by decide) next13; rw [bs_byte 17 (by decide) (by decide)] at this; exact this)
  have F23 : Hid (∀ W, Calls Try.prog 22 #[.string (bs 23)] W (Made W (.tuple #[.bool true, .int .i64 0]))) := Lib.hid (fun W => by have := psafe_ok 23 W (by decide); rwa [show (isPN 23 && isPN ((23 - 1) / 2)) = true from by decide +kernel] at this)
  have F13 : Hid (∀ W, Calls Try.prog 22 #[.string (bs 13)] W (Made W (.tuple #[.bool false, .int .i64 0]))) := Lib.hid (fun W => by have := psafe_ok 13 W (by decide); rwa [show (isPN 13 && isPN ((13 - 1) / 2)) = false from by decide +kernel] at this)
  have L360 := Lib.hid (fun W => pfactors_ok 360 W (by decide) (by decide))
  have IL : Hid (∀ W, Calls Try.prog 13 #[.string ⟨#[1, 0, 0, 0, 0, 0, 0, 0, 0]⟩] W (Made W (.tuple #[.bool false, .int .i64 5]))) := Lib.hid (fun W => pis_err _ 5 W (.inr rfl) (fun W => psmall_long _ W (by decide) (by decide) (by decide)))
  go_enter Try.func12, Try.ntmps12
  go_wp2_with fail
  refine (O97.out _).mono ?_
  rintro e u1 ⟨rfl, hb⟩
  replace HV := HV.trans (hb.mono HV.size)
  clear hb
  go_wp2_with fail
  refine (I97.out _).mono ?_
  rintro e u2 ⟨rfl, hb⟩
  replace HV := HV.trans (hb.mono HV.size)
  clear hb
  go_wp2_with fail
  refine (O91.out _).mono ?_
  rintro e u3 ⟨rfl, hb⟩
  replace HV := HV.trans (hb.mono HV.size)
  clear hb
  go_wp2_with fail
  refine (I91.out _).mono ?_
  rintro e u4 ⟨rfl, hb⟩
  replace HV := HV.trans (hb.mono HV.size)
  clear hb
  go_wp2_with fail
  refine (O2047.out _).mono ?_
  rintro e u5 ⟨rfl, hb⟩
  replace HV := HV.trans (hb.mono HV.size)
  clear hb
  go_wp2_with fail
  refine (O2.out _).mono ?_
  rintro e u6 ⟨rfl, hb⟩
  replace HV := HV.trans (hb.mono HV.size)
  clear hb
  go_wp2_with fail
  refine (S2.out _).mono ?_
  rintro e u7 ⟨rfl, hb⟩
  replace HV := HV.trans (hb.mono HV.size)
  clear hb
  go_wp2_with fail
  refine (O2047.out _).mono ?_
  rintro e u8 ⟨rfl, hb⟩
  replace HV := HV.trans (hb.mono HV.size)
  clear hb
  go_wp2_with fail
  refine (O3.out _).mono ?_
  rintro e u9 ⟨rfl, hb⟩
  replace HV := HV.trans (hb.mono HV.size)
  clear hb
  go_wp2_with fail
  refine (S3.out _).mono ?_
  rintro e u10 ⟨rfl, hb⟩
  replace HV := HV.trans (hb.mono HV.size)
  clear hb
  go_wp2_with fail
  refine (O13.out _).mono ?_
  rintro e u11 ⟨rfl, hb⟩
  replace HV := HV.trans (hb.mono HV.size)
  clear hb
  go_wp2_with fail
  refine (N13.out _).mono ?_
  rintro e u12 ⟨rfl, hb⟩
  replace HV := HV.trans (hb.mono HV.size)
  clear hb
  go_wp2_with fail
  refine (O23.out _).mono ?_
  rintro e u13 ⟨rfl, hb⟩
  replace HV := HV.trans (hb.mono HV.size)
  clear hb
  go_wp2_with fail
  refine (F23.out _).mono ?_
  rintro e u14 ⟨rfl, hb⟩
  replace HV := HV.trans (hb.mono HV.size)
  clear hb
  go_wp2_with fail
  refine (O13.out _).mono ?_
  rintro e u15 ⟨rfl, hb⟩
  replace HV := HV.trans (hb.mono HV.size)
  clear hb
  go_wp2_with fail
  refine (F13.out _).mono ?_
  rintro e u16 ⟨rfl, hb⟩
  replace HV := HV.trans (hb.mono HV.size)
  clear hb
  go_wp2_with fail
  refine (O360.out _).mono ?_
  rintro e u17 ⟨rfl, hb⟩
  replace HV := HV.trans (hb.mono HV.size)
  clear hb
  go_wp2_with fail
  refine (L360.out _).mono ?_
  rintro e uf ⟨v, L, rfl, hfac, _, hown, hb⟩
  obtain rfl := IsFac.unique fac360 hfac
  obtain ⟨A, cap, rfl, hcell⟩ := owns_nats hown
  have hc1 : ∀ k, k < [2, 2, 2, 3, 3, 5].length → ∃ g, A = some ⟨g, 0, none⟩ ∧ g < uf.heap.size ∧ uf.cell? ⟨g, k, none⟩ = some (.string (bs ([2, 2, 2, 3, 3, 5].getD k 0))) := fun k hk => by
    obtain ⟨g, h1, _, h2⟩ := hcell k hk
    exact ⟨g, h1, h2⟩
  have HC := Lib.hid hc1
  replace HV := HV.trans (hb.mono HV.size)
  clear hb hfac hown hcell hc1
  simp only [List.length_cons, List.length_nil, Nat.reduceAdd]
  go_wp2_with fail
  have K := Bk.new uf #[.string ⟨#[2]⟩, .string ⟨#[2]⟩, .string ⟨#[2]⟩, .string ⟨#[3]⟩, .string ⟨#[3]⟩, .string ⟨#[5]⟩] 22
  have HV' := HV.alloc HV.size (.cells #[.string ⟨#[2]⟩, .string ⟨#[2]⟩, .string ⟨#[2]⟩, .string ⟨#[3]⟩, .string ⟨#[3]⟩, .string ⟨#[5]⟩] 22)
  have HQ := Lib.hid (And.intro K HV')
  have hba := (Below.refl uf.heap.size uf).alloc (Nat.le_refl _) (.cells #[.string ⟨#[2]⟩, .string ⟨#[2]⟩, .string ⟨#[2]⟩, .string ⟨#[3]⟩, .string ⟨#[3]⟩, .string ⟨#[5]⟩] 22)
  refine (IL.out _).mono ?_
  rintro e ug ⟨rfl, hb⟩
  have H1 := nats_below HC.out (hba.trans (hb.mono hba.size))
  have K2 := HQ.out.1.below hb
  have HVg := HQ.out.2.trans (hb.mono HQ.out.2.size)
  have HE := Lib.hid (fun c1 c2 => equal_ok A (some ⟨uf.heap.size, 0, none⟩) c1 c2 [2, 2, 2, 3, 3, 5] ug (by decide) H1 (fun k hk => by
    refine ⟨uf.heap.size, rfl, K2.lt, (K2.cell k).trans ?_⟩
    have hc : k = 0 ∨ k = 1 ∨ k = 2 ∨ k = 3 ∨ k = 4 ∨ k = 5 := by simp at hk; omega
    rcases hc with rfl | rfl | rfl | rfl | rfl | rfl
    all_goals
      first
        | (show _ = some (Value.string (bs 2)); rw [bs_byte 2 (by decide) (by decide)]; rfl)
        | (show _ = some (Value.string (bs 3)); rw [bs_byte 3 (by decide) (by decide)]; rfl)
        | (show _ = some (Value.string (bs 5)); rw [bs_byte 5 (by decide) (by decide)]; rfl)))
  simp only [List.length_cons, List.length_nil, Nat.reduceAdd] at HE
  have HVG := Lib.hid HVg
  clear hb hba H1 K2 HVg HV K HV'
  go_wp2_with fail

  refine (HE.out _ _).mono ?_
  rintro e uh ⟨rfl, hb⟩
  go_wp2
  go_ret
  exact ⟨rfl, HVG.out.trans (hb.mono HVG.out.size)⟩
end Go.Proofs.Ytnnohjabneepiaa
