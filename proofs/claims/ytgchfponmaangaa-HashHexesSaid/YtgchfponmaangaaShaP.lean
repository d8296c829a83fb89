/-
  The contracts of the reference's constants and schedule.
-/
import Derived.Test.YtgchfponmaangaaShaI
namespace Go.Proofs.Ytgchfponmaangaa
open Go.RowKit
set_option maxRecDepth 100000 in
set_option maxHeartbeats 1600000 in
theorem rconst_ok (w : World) : Calls Try.prog 29 #[] w fun e w' => ∃ g, e = .returned (.slice (some ⟨g, 0, none⟩) 64 64) ∧ Ia w' g kk 30 ∧ w.heap.size ≤ g ∧ Below w.heap.size w w' := by
  go_enter Try.func29, Try.ntmps29
  go_wp2
  go_ret
  exact ⟨w.heap.size, rfl, (heap_alloc_new _ _).trans rfl, Nat.le_refl _, (Below.refl _ _).alloc (Nat.le_refl _) _⟩
theorem made_run32 (W : World) (c : Nat) (hc : c ≤ 1048576) : (Instr.makeSlice 37 (.int .i64 (c : Int)) (.int .i64 (c : Int))).run Try.prog W = .ok (.slice (some ⟨W.heap.size, 0, none⟩) c c) (W.alloc (.cells (cellsI (List.replicate c 0)).toArray 30)) := by
  obtain ⟨i0, hi, hz0, hz1, hz2⟩ := info_parts info_u32
  have := run_make (P := Try.prog) W 37 30 i0 (.int .u32 0) Try.underlying37 hi hz0 .i64 .i64 c c (by omega) (by omega) (by rw [hz2]; omega) (by omega)
  rw [this, hz1]
  simp only [Int.toNat_natCast]
  have hm : (madeCells (Value.int .u32 0).cells (c * 1)) = (cellsI (List.replicate c 0)).toArray := by
    have := madeD c
    rw [cellsD_replicate] at this
    apply Array.toList_inj.1
    rw [this]
    simp [cellsI]
  rw [hm]
set_option maxRecDepth 100000 in
set_option maxHeartbeats 1600000 in
theorem rsched_ok (s : ByteArray) (hs : 64 ≤ s.size) (w : World) :
    Calls Try.prog 28 #[.string s] w fun e w' => ∃ g, e = .returned (.slice (some ⟨g, 0, none⟩) 64 64) ∧ Ia w' g (sched s.data.toList) 30 ∧ w.heap.size ≤ g ∧ Below w.heap.size w w' := by
  have hmk : ∀ W, (Instr.makeSlice 37 (.int .i64 64) (.int .i64 64)).run Try.prog W = .ok (.slice (some ⟨W.heap.size, 0, none⟩) 64 64) (W.alloc (.cells (cellsI (List.replicate 64 0)).toArray 30)) := fun W => made_run32 W 64 (by omega)
  go_enter Try.func28, Try.ntmps28
  go_wp2
  clear hmk
  go_loopw [4] (fun v4 wr => ∃ i : Nat, i ≤ 16 ∧ v4 = .int .i64 i ∧ Ia wr w.heap.size (ldw s.data.toList (4 * i)) 30 ∧ Below w.heap.size w wr) (fun i _ => 16 - (intOf i).toNat)
  case atStart => exact ⟨0, by omega, rfl, heap_alloc_new _ _, (Below.refl w.heap.size w).alloc (Nat.le_refl _) _⟩
  case round =>
    obtain ⟨i, hi, rfl, hM, hB⟩ := hrel
    by_cases hlt : i < 16
    · have HM := Lib.hid hM
      clear hM
      have hdi : decide ((i : Int) < 16) = true := by simp; omega
      go_wp2
      obtain ⟨wo, hwo⟩ : ∃ wo : World, wo = wr := ⟨_, rfl⟩
      go_loopw [5] (fun v5 wi => ∃ k : Nat, k ≤ 4 ∧ v5 = .int .i64 k ∧ Ia wi w.heap.size (ldw s.data.toList (4 * i + k)) 30 ∧ Below w.heap.size w wi) (fun i _ => 4 - (intOf i).toNat)
      case atStart => exact ⟨0, by omega, rfl, HM.out, hB⟩
      case round =>
        clear HM hB
        obtain ⟨k, hk, rfl, hM, hB⟩ := hrel
        by_cases hlk : k < 4
        · have hc := hM.cell i (by rw [ldw_length]; omega)
          have hf := hM.frozen i
          have hL : 4 * i + k < s.size := by omega
          have HM := Lib.hid hM
          clear hM
          go_wp2
          have e3 : (i : Int) < 64 := by omega
          have q0 : IntKind.i64.wrap (4 * (i : Int)) = 4 * (i : Int) := IntWalk.i64_in _ (by omega)
          have q1 : IntKind.i64.wrap (4 * (i : Int) + k) = 4 * (i : Int) + k := IntWalk.i64_in _ (by omega)
          have q2 : (0 : Int) ≤ 4 * (i : Int) + k := by omega
          have q3 : (4 * (i : Int) + k).toNat = 4 * i + k := by omega
          have q4 : 4 * (i : Int) + k < (s.size : Int) := by omega
          go_still_tail 16, (by kernel_rfl)
          change wpList _ _ _ _ _ wr.drew
          go_wp2
          go_roundw
          case rel =>
            refine ⟨k + 1, by omega, by go_num, ?_, (hB.setCell (Nat.le_refl _) _).drew⟩
            rw [show ldw s.data.toList (4 * i + (k + 1)) = (ldw s.data.toList (4 * i + k)).set ((4 * i + k) / 4) (sh8 ((ldw s.data.toList (4 * i + k)).getD ((4 * i + k) / 4) 0) (s.data.toList.getD (4 * i + k) 0)) from rfl, show (4 * i + k) / 4 = i from by omega, ← at_byte s _ hL]
            unfold sh8
            simp only [List.getD_eq_getElem?_getD]
            exact (HM.out.set i _).drew
          case measure => simp [intOf]; omega
        · obtain rfl : k = 4 := by omega
          have HM := Lib.hid hM
          clear hM
          rw [show ((4 : Nat) : Int) = 4 from rfl]
          go_wp2
          go_roundw
          case rel => exact ⟨i + 1, by omega, by go_num, HM.out, hB⟩
          case measure => simp [intOf]; omega
    · obtain rfl : i = 16 := by omega
      have HM := Lib.hid hM
      have HB := Lib.hid hB
      clear hM hB hi hlt
      rw [show ((16 : Nat) : Int) = 16 from rfl]
      go_wp2
      go_loopw [6, 7, 8, 9, 10] (fun v6 _ _ _ _ wr => ∃ i : Nat, i ≤ 48 ∧ v6 = .int .i64 (i + 16 : Nat) ∧ Ia wr w.heap.size (ext s.data.toList i) 30 ∧ Below w.heap.size w wr) (fun i _ _ _ _ _ => 64 - (intOf i).toNat)
      case atStart => exact ⟨0, by omega, rfl, HM.out, HB.out⟩
      case round =>
        clear HM HB
        obtain ⟨i, hi, rfl, hM, hB⟩ := hrel
        by_cases hlt : i < 48
        · have hl := ext_length s.data.toList i
          have c1 := hM.cell (i + 16) (by omega)
          have c16 := hM.cell i (by omega)
          have c15 := hM.cell (i + 1) (by omega)
          have c2 := hM.cell (i + 14) (by omega)
          have c7 := hM.cell (i + 9) (by omega)
          have hf := hM.frozen (i + 16)
          have HM := Lib.hid hM
          clear hM hl
          go_wp2
          have a15 : IntKind.i64.wrap ((i : Int) + 16 - 15) = (i : Int) + 1 := by rw [IntWalk.i64_in _ (by omega)]; omega
          have b15 : (0 : Int) ≤ (i : Int) + 1 := by omega
          have d15 : ((i : Int) + 1).toNat = i + 1 := by omega
          have e15 : (i : Int) + 1 < 64 := by omega
          have a2 : IntKind.i64.wrap ((i : Int) + 16 - 2) = (i : Int) + 14 := by rw [IntWalk.i64_in _ (by omega)]; omega
          have b2 : (0 : Int) ≤ (i : Int) + 14 := by omega
          have d2 : ((i : Int) + 14).toNat = i + 14 := by omega
          have e2 : (i : Int) + 14 < 64 := by omega
          have a7 : IntKind.i64.wrap ((i : Int) + 16 - 7) = (i : Int) + 9 := by rw [IntWalk.i64_in _ (by omega)]; omega
          have b7 : (0 : Int) ≤ (i : Int) + 9 := by omega
          have d7 : ((i : Int) + 9).toNat = i + 9 := by omega
          have e7 : (i : Int) + 9 < 64 := by omega
          have a16 : IntKind.i64.wrap (i : Int) = (i : Int) := IntWalk.i64_in _ (by omega)
          have e16 : (i : Int) < 64 := by omega
          go_quiet (fail)
          go_wp2_with (go_at_call 30; (with_reducible refine (right_ok _ _ _ (by omega) (by omega)).mono ?_); rintro e w' ⟨rfl, k, rfl⟩)
          rename_i k1 k2 k3
          generalize nq + k1 + k2 + k3 + k = nd
          have HM := Lib.hid (HM.out.drewN nd)
          have hB := below_draws hB nd
          have c1 : (wr.drewN nd).cell? ⟨w.heap.size, i + 16, none⟩ = _ := c1
          have c16 : (wr.drewN nd).cell? ⟨w.heap.size, i, none⟩ = _ := c16
          have c7 : (wr.drewN nd).cell? ⟨w.heap.size, i + 9, none⟩ = _ := c7
          have hf : (wr.drewN nd).frozen? ⟨w.heap.size, i + 16, none⟩ = _ := hf
          have b1 : (0 : Int) ≤ (i : Int) + 16 := by omega
          have d1 : ((i : Int) + 16).toNat = i + 16 := by omega
          have e1 : (i : Int) + 16 < 64 := by omega
          generalize wr.drewN nd = wq at *
          go_still_tail 18, (by kernel_rfl)
          change wpList _ _ _ _ _ wq.drew
          go_wp2
          go_roundw
          case rel =>
            refine ⟨i + 1, by omega, by go_num, ?_, (hB.setCell (Nat.le_refl _) _).drew⟩
            rw [show ext s.data.toList (i + 1) = (ext s.data.toList i).set (16 + i) (nxt (ext s.data.toList i) (16 + i)) from rfl, Nat.add_comm 16 i]
            unfold nxt
            rw [show i + 16 - 16 = i from by omega, show i + 16 - 15 = i + 1 from by omega, show i + 16 - 7 = i + 9 from by omega, show i + 16 - 2 = i + 14 from by omega]
            simp only [List.getD_eq_getElem?_getD]
            exact (HM.out.set (i + 16) _).drew
          case measure => simp [intOf]; omega
        · obtain rfl : i = 48 := by omega
          have HM := Lib.hid hM
          clear hM
          rw [show ((48 + 16 : Nat) : Int) = 64 from rfl]
          go_wp2
          go_ret
          exact ⟨w.heap.size, rfl, HM.out, Nat.le_refl _, hB⟩
end Go.Proofs.Ytgchfponmaangaa
