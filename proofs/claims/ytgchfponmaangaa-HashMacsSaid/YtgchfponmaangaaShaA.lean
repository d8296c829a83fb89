/-
  The contracts of rotate, right and mixed.
-/
import Derived.Test.YtgchfponmaangaaBase
import Derived.Test.YtgchfponmaangaaShaM
import Derived.Outline
namespace Go.Proofs.Ytgchfponmaangaa
open Go.RowKit
set_option maxHeartbeats 400000 in
theorem rotate_ok (x : Int) (n : Int) (w : World) (h0 : 0 ≤ n) (hn : n ≤ 32) :
    Calls Try.prog 31 #[.int .u32 x, .int .i64 n] w fun e w' => e = .returned (.int .u32 (rotI x n)) ∧ ∃ k, w' = w.drewN k := by
  go_enter Try.func31, Try.ntmps31
  go_wp2
  go_quiet (fail)
  go_wp2
  go_ret
  exact ⟨rfl, _, rfl⟩
theorem right_ok (x : Int) (n : Int) (w : World) (h0 : 0 ≤ n) (hn : n ≤ 32) :
    Calls Try.prog 30 #[.int .u32 x, .int .i64 n] w fun e w' => e = .returned (.int .u32 (rotI x n)) ∧ ∃ k, w' = w.drewN k := by
  go_enter Try.func30, Try.ntmps30
  go_wp2
  go_quiet (fail)
  go_wp2
  go_ret
  exact ⟨rfl, _, rfl⟩
/-- A call that draws, met in a region behind earlier draws. -/
theorem met_drawn {f : FuncId} {args : Array Value} {w : World} {a n : Nat} {v : Value}
    (h : Calls Try.prog f args (w.drewN (a + n)) fun e w' => e = .returned v ∧ ∃ k, w' = (w.drewN (a + n)).drewN k) :
    Calls Try.prog f args (w.drewN (a + n)) fun e w' => e = .returned v ∧ ∃ m, w' = w.drewN (a + m) := by
  refine h.mono ?_
  rintro e w' ⟨he, k, hk⟩
  exact ⟨he, n + k, by rw [hk, World.drewN_drewN, Nat.add_assoc]⟩
/-- The state as a value. -/
def St.v (s : St) : Value := .agg #[.int .u32 s.a, .int .u32 s.b, .int .u32 s.c, .int .u32 s.d, .int .u32 s.e, .int .u32 s.f, .int .u32 s.g, .int .u32 s.h]
set_option maxRecDepth 100000 in
set_option maxHeartbeats 1600000 in
theorem mixed_ok (s : St) (W K : List Int) (pw pk : Nat) (w : World) (hw : ∀ i, i < 64 → w.cell? ⟨pw, i, none⟩ = some (.int .u32 (W.getD i 0)))
    (hk : ∀ i, i < 64 → w.cell? ⟨pk, i, none⟩ = some (.int .u32 (K.getD i 0))) (lw : pw < w.heap.size) (lk : pk < w.heap.size) :
    Calls Try.prog 27 #[s.v, .pointer (some ⟨pw, 0, none⟩), .pointer (some ⟨pk, 0, none⟩)] w fun e w' => e = .returned (rd s K W 64).v ∧ Below w.heap.size w w' := by
  obtain ⟨s0, s1, s2, s3, s4, s5, s6, s7⟩ := s
  have HW := Lib.hid hw
  have HK := Lib.hid hk
  clear hw hk
  unfold St.v
  go_enter Try.func27, Try.ntmps27
  go_wp2
  go_quiet (fail)
  go_wp2
  go_loopw [7, 8, 9, 10, 11, 12, 13, 14, 34] (fun v7 v8 v9 v10 v11 v12 v13 v14 v34 wr => ∃ i : Nat, i ≤ 64 ∧ v34 = .int .i64 i ∧ ∃ S : St, S = rd ⟨s0, s1, s2, s3, s4, s5, s6, s7⟩ K W i ∧ v7 = .int .u32 S.a ∧ v8 = .int .u32 S.b ∧ v9 = .int .u32 S.c ∧ v10 = .int .u32 S.d ∧ v11 = .int .u32 S.e ∧ v12 = .int .u32 S.f ∧ v13 = .int .u32 S.g ∧ v14 = .int .u32 S.h ∧ ∃ n, wr = World.drewN ((w.alloc (.cells #[.int .u32 s0, .int .u32 s1, .int .u32 s2, .int .u32 s3, .int .u32 s4, .int .u32 s5, .int .u32 s6, .int .u32 s7] 32)).alloc (.cells #[.int .u32 0, .int .u32 0, .int .u32 0, .int .u32 0, .int .u32 0, .int .u32 0, .int .u32 0, .int .u32 0] 32)) n) (fun _ _ _ _ _ _ _ _ i _ => 64 - (intOf i).toNat)
  case atStart => exact ⟨0, by omega, rfl, _, rfl, rfl, rfl, rfl, rfl, rfl, rfl, rfl, rfl, _, rfl⟩
  case round =>
    obtain ⟨i, hi, rfl, ⟨a, b, c, d, e, f, g, h⟩, hS, rfl, rfl, rfl, rfl, rfl, rfl, rfl, rfl, n, rfl⟩ := hrel
    have HS := Lib.hid hS
    clear hS
    by_cases hlt : i < 64
    · have hcw : w.cell? ⟨pw, i, none⟩ = some (.int .u32 (W.getD i 0)) := HW.out i hlt
      have hck : w.cell? ⟨pk, i, none⟩ = some (.int .u32 (K.getD i 0)) := HK.out i hlt
      go_wp2
      go_quiet ((go_at_call 31; exact met_drawn (rotate_ok _ _ _ (by omega) (by omega))))
      go_wp2_with (go_at_call 31; (with_reducible refine (rotate_ok _ _ _ (by omega) (by omega)).mono ?_); rintro e w' ⟨rfl, k, rfl⟩)
      go_round
      case rel => exact ⟨i + 1, by omega, by go_num, rnd ⟨a, b, c, d, e, f, g, h⟩ (K.getD i 0) (W.getD i 0), by rw [HS.out]; rfl, by simp only [List.getD_eq_getElem?_getD]; rfl, rfl, rfl, rfl, by simp only [List.getD_eq_getElem?_getD]; rfl, rfl, rfl, rfl, _, rfl⟩
      case measure => simp [intOf]; omega
    · obtain rfl : i = 64 := by omega
      go_wp2
      refine bodyPost_ret (v := St.v ⟨a, b, c, d, e, f, g, h⟩) (by simp [results, Try.results27, go_sem, St.v]) rfl ⟨by rw [HS.out]; rfl, ?_⟩
      have hB := below_draws (((Below.refl w.heap.size w).alloc (Nat.le_refl _) (.cells #[.int .u32 s0, .int .u32 s1, .int .u32 s2, .int .u32 s3, .int .u32 s4, .int .u32 s5, .int .u32 s6, .int .u32 s7] 32)).alloc (by simp) (.cells #[.int .u32 0, .int .u32 0, .int .u32 0, .int .u32 0, .int .u32 0, .int .u32 0, .int .u32 0, .int .u32 0] 32)) n
      exact (((((((hB.setCell (by simp) _).setCell (by simp) _).setCell (by simp) _).setCell (by simp) _).setCell (by simp) _).setCell (by simp) _).setCell (by simp) _).setCell (by simp) _
end Go.Proofs.Ytgchfponmaangaa
