/-
  Blocks of words. The contract of hash.schedule.
-/
import Derived.Test.YtgchfponmaangaaShaA
import Derived.Laws.Rows
import Derived.Laws.CopyOwn
import Derived.StillTailTactics
namespace Go.Proofs.Ytgchfponmaangaa
open Go.RowKit
def cellsI (l : List Int) : List Value := l.map fun (x : Int) => Value.int .u32 x
theorem cellsI_length (l : List Int) : (cellsI l).length = l.length := by simp [cellsI]
theorem cellsI_get (l : List Int) (k : Nat) (h : k < l.length) : (cellsI l)[k]? = some (.int .u32 (l.getD k 0)) := by
  simp [cellsI, h]
theorem cellsI_set (l : List Int) (k : Nat) (x : Int) : (cellsI l).set k (.int .u32 x) = cellsI (l.set k x) := by
  simp [cellsI]
/-- Block g holds just the words l. -/
def Ia (w : World) (g : Nat) (l : List Int) (t : TypeId) : Prop := w.heap[g]? = some (.cells (cellsI l).toArray t (0, 0))
section
variable {w w' : World} {g : Nat} {l : List Int} {t : TypeId}
theorem Ia.lt (h : Ia w g l t) : g < w.heap.size := by
  rcases Nat.lt_or_ge g w.heap.size with hlt | hge
  · exact hlt
  · unfold Ia at h; rw [Array.getElem?_eq_none hge] at h; cases h
theorem Ia.cell (h : Ia w g l t) (k : Nat) (hk : k < l.length) : w.cell? ⟨g, k, none⟩ = some (.int .u32 (l.getD k 0)) := by
  rw [cell_of_row w g k _ _ (0, 0) h, List.getElem?_toArray, cellsI_get l k hk]
theorem Ia.frozen (h : Ia w g l t) (i : Nat) : w.frozen? ⟨g, i, none⟩ = false := by
  unfold Ia at h
  simp [World.frozen?, h]
theorem Ia.drew (h : Ia w g l t) : Ia w.drew g l t := h
theorem Ia.drewN (h : Ia w g l t) (n : Nat) : Ia (w.drewN n) g l t := h
theorem Ia.alloc (h : Ia w g l t) (o : Obj) : Ia (w.alloc o) g l t := (Below.heap_alloc w o g h.lt).trans h
theorem Ia.set (h : Ia w g l t) (k : Nat) (x : Int) : Ia (w.setCell ⟨g, k, none⟩ (.int .u32 x)) g (l.set k x) t := by
  unfold Ia at h ⊢
  simp [World.setCell, Array.getElem?_modify, h, ← cellsI_set]
theorem Ia.far (h : Ia w g l t) {p : Addr} (hp : g ≠ p.block) (u : Value) : Ia (w.setCell p u) g l t := (Below.heap_setCell w p u g hp).trans h
theorem Ia.below {B : Nat} (h : Ia w g l t) (hb : Below B w w') (hg : g < B) : Ia w' g l t := (hb.block g hg).trans h
theorem Ia.kept (h : Ia w g l t) (hb : Below w.heap.size w w') : Ia w' g l t := (hb.block g h.lt).trans h
end
theorem at_byte (s : ByteArray) (k : Nat) (h : k < s.size) : s[k] = s.data.toList.getD k 0 := by
  have hl : k < s.data.toList.length := by rw [size_toList]; exact h
  rw [List.getD_eq_getElem?_getD, List.getElem?_eq_getElem hl]
  rfl
set_option maxRecDepth 100000 in
set_option maxHeartbeats 1600000 in
theorem schedule_ok (s : ByteArray) (hs : 64 ≤ s.size) (w : World) :
    Calls Try.prog 26 #[.string s] w fun e w' => e = .returned (.agg (cellsI (sched s.data.toList)).toArray) ∧ Below w.heap.size w w' := by
  go_enter Try.func26, Try.ntmps26
  go_wp2
  go_loopw [4, 10] (fun _ v10 wr => ∃ i : Nat, i ≤ 64 ∧ v10 = .int .i64 i ∧ Ia wr (w.heap.size + 1) (ldw s.data.toList i) 41 ∧ Ia wr w.heap.size (List.replicate 64 0) 41 ∧ Below w.heap.size w wr) (fun _ i _ => 64 - (intOf i).toNat)
  case atStart => exact ⟨0, by omega, rfl, (heap_alloc2_new _ _ _).trans rfl, (heap_alloc2_old _ _ _).trans rfl, ((Below.refl w.heap.size w).alloc (Nat.le_refl _) _).alloc (by simp) _⟩
  case round =>
    obtain ⟨i, hi, rfl, hM, hR, hB⟩ := hrel
    by_cases hlt : i < 64
    · have h4 : i / 4 < 64 := by omega
      have hc := hM.cell (i / 4) (by rw [ldw_length]; exact h4)
      have hf := hM.frozen (i / 4)
      have hL : i < s.size := by omega
      have HM := Lib.hid hM
      have HR := Lib.hid hR
      clear hM hR
      go_wp2
      have q1 : IntKind.i64.wrap ((i : Int) / 4) = (i : Int) / 4 := IntWalk.i64_in _ (by omega)
      have q2 : (0 : Int) ≤ (i : Int) / 4 := by omega
      have q3 : (i : Int) / 4 < 64 := by omega
      have q4 : ((i : Int) / 4).toNat = i / 4 := by omega
      go_still_tail 13, (by kernel_rfl)
      change wpList _ _ _ _ _ wr.drew
      go_wp2
      go_roundw
      case rel =>
        refine ⟨i + 1, by omega, by go_num, ?_, HR.out.drew.far (by simp) _, hB.drew.setCell (by simp) _⟩
        have hb := s[i].toNat_lt
        have e : bits .or .u32 ((ldw s.data.toList i)[i / 4]?.getD 0 * 256 % 4294967296) ((s[i].toNat : Int) % 4294967296) = sh8 ((ldw s.data.toList i).getD (i / 4) 0) (s.data.toList.getD i 0) := by
          rw [show (s[i].toNat : Int) % 4294967296 = (s[i].toNat : Int) from by omega, or_sh8, ← at_byte s i hL, List.getD_eq_getElem?_getD]
        rw [e]
        exact (HM.out.set (i / 4) _).drew
      case measure => simp [intOf]; omega
    · obtain rfl : i = 64 := by omega
      have HM := Lib.hid hM
      have HR := Lib.hid hR
      have HB := Lib.hid hB
      clear hM hR hB hi hlt
      rw [show ((64 : Nat) : Int) = 64 from rfl]
      go_wp2
      go_loopw [5, 6, 7, 8, 9] (fun v5 _ _ _ _ wr => ∃ i : Nat, i ≤ 48 ∧ v5 = .int .i64 (i + 16 : Nat) ∧ Ia wr (w.heap.size + 1) (ext s.data.toList i) 41 ∧ Ia wr w.heap.size (List.replicate 64 0) 41 ∧ Below w.heap.size w wr) (fun i _ _ _ _ _ => 64 - (intOf i).toNat)
      case atStart => exact ⟨0, by omega, rfl, HM.out, HR.out, HB.out⟩
      case round =>
        clear HM HR HB
        obtain ⟨i, hi, rfl, hM, hR, hB⟩ := hrel
        by_cases hlt : i < 48
        · have hl := ext_length s.data.toList i
          have c1 := hM.cell (i + 16) (by omega)
          have c16 := hM.cell i (by omega)
          have c15 := hM.cell (i + 1) (by omega)
          have c2 := hM.cell (i + 14) (by omega)
          have c7 := hM.cell (i + 9) (by omega)
          have hf := hM.frozen (i + 16)
          have HM := Lib.hid hM
          have HR := Lib.hid hR
          clear hM hR hl
          go_wp2
          have a15 : IntKind.i64.wrap ((i : Int) + 16 - 15) = (i : Int) + 1 := by rw [IntWalk.i64_in _ (by omega)]; omega
          have b15 : (0 : Int) ≤ (i : Int) + 1 := by omega
          have d15 : ((i : Int) + 1).toNat = i + 1 := by omega
          have e15 : (i : Int) + 1 < 64 := by omega
          have a2 : IntKind.i64.wrap ((i : Int) + 16 - 2) = (i : Int) + 14 := by rw [IntWalk.i64_in _ (by omega)]; omega
          have b2 : (0 : Int) ≤ (i : Int) + 14 := by omega
          have d2 : ((i : Int) + 14).toNat = i + 14 := by omega
          have e2 : (i : Int) + 14 < 64 := by omega
          have a7 : IntKind.i64.wrap ((i : Int) + 16 - 7) = (i : Int) + 9 := by rw [IntWalk.i64_in _ (by omega)]; omega
          have b7 : (0 : Int) ≤ (i : Int) + 9 := by omega
          have d7 : ((i : Int) + 9).toNat = i + 9 := by omega
          have e7 : (i : Int) + 9 < 64 := by omega
          have a16 : IntKind.i64.wrap (i : Int) = (i : Int) := IntWalk.i64_in _ (by omega)
          have e16 : (i : Int) < 64 := by omega
          go_quiet (fail)
          go_wp2_with (go_at_call 31; (with_reducible refine (rotate_ok _ _ _ (by omega) (by omega)).mono ?_); rintro e w' ⟨rfl, k, rfl⟩)
          rename_i k1 k2 k3
          generalize nq + k1 + k2 + k3 + k = nd
          have HM := Lib.hid (HM.out.drewN nd)
          have HR := Lib.hid (HR.out.drewN nd)
          have hB := below_draws hB nd
          have c1 : (wr.drewN nd).cell? ⟨w.heap.size + 1, i + 16, none⟩ = _ := c1
          have c16 : (wr.drewN nd).cell? ⟨w.heap.size + 1, i, none⟩ = _ := c16
          have c7 : (wr.drewN nd).cell? ⟨w.heap.size + 1, i + 9, none⟩ = _ := c7
          have hf : (wr.drewN nd).frozen? ⟨w.heap.size + 1, i + 16, none⟩ = _ := hf
          have b1 : (0 : Int) ≤ (i : Int) + 16 := by omega
          have d1 : ((i : Int) + 16).toNat = i + 16 := by omega
          have e1 : (i : Int) + 16 < 64 := by omega
          generalize wr.drewN nd = wq at *
          go_still_tail 15, (by kernel_rfl)
          change wpList _ _ _ _ _ wq.drew
          go_wp2
          go_roundw
          case rel =>
            refine ⟨i + 1, by omega, by go_num, ?_, (HR.out.far (by simp) _).drew, (hB.setCell (by simp) _).drew⟩
            rw [show ext s.data.toList (i + 1) = (ext s.data.toList i).set (16 + i) (nxt (ext s.data.toList i) (16 + i)) from rfl, Nat.add_comm 16 i]
            unfold nxt
            rw [show i + 16 - 16 = i from by omega, show i + 16 - 15 = i + 1 from by omega, show i + 16 - 7 = i + 9 from by omega, show i + 16 - 2 = i + 14 from by omega]
            simp only [List.getD_eq_getElem?_getD]
            exact (HM.out.set (i + 16) _).drew
          case measure => simp [intOf]; omega
        · obtain rfl : i = 48 := by omega
          have hL : (cellsI (ext s.data.toList 48)).toArray.size = 64 := by simp [cellsI_length, ext_length]
          have hL0 : (cellsI (List.replicate 64 0)).toArray.size = 64 := by simp [cellsI_length]
          have HM := Lib.hid hM
          have HR := Lib.hid hR
          have HL := Lib.hid hL
          have HL0 := Lib.hid hL0
          clear hM hR hL hL0
          rw [show ((48 + 16 : Nat) : Int) = 64 from rfl]
          go_wp2_with (first | (refine wpList_load_row rfl 41 (.tmp 3) rfl (w.heap.size + 1) rfl 41 _ (0, 0) _ HM.out Try.underlying41 rfl (by rw [HL.out]; kernel_rfl) ?_) | (refine wpList_store_row rfl 41 (.tmp 2) (.tmp 70) rfl w.heap.size _ rfl rfl 41 _ HR.out (by rw [HL.out]; kernel_rfl) (by rw [HL.out, HL0.out]) (by simp [cellsI, Value.oneCell']) ?_))
          exact bodyPost_ret (v := .agg (cellsI (ext s.data.toList 48)).toArray) (results_cell_row Try.results26 _ _ w.heap.size 41 _ (0, 0) _ rfl (setRow_heap _ _ _ _ _ _ HR.out) Try.underlying41 rfl (by rw [HL.out]; kernel_rfl)) rfl ⟨rfl, below_setRow hB (Nat.le_refl _) _⟩
end Go.Proofs.Ytgchfponmaangaa
