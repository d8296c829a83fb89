/-
  The contract of after.
-/
import Derived.Test.YtgchfponmaangaaShaC
namespace Go.Proofs.Ytgchfponmaangaa
open Go.RowKit
theorem Ia.row {w : World} {g : Nat} {l : List Int} {t : TypeId} (h : Ia w g l t) (l' : List Int) : Ia (w.setRow g (cellsI l').toArray) g l' t := setRow_heap _ _ _ _ _ _ h
theorem Ia.farRow {w : World} {g : Nat} {l : List Int} {t : TypeId} (h : Ia w g l t) {k : Nat} (hk : g ≠ k) (cs : Array Value) : Ia (w.setRow k cs) g l t := (setRow_other _ _ _ _ hk).trans h
theorem Ia.new (w : World) (l : List Int) (t : TypeId) : Ia (w.alloc (.cells (cellsI l).toArray t)) w.heap.size l t := heap_alloc_new _ _
theorem Ia.made (w : World) (old : Array Value) (l : List Int) (t : TypeId) : Ia ((w.alloc (.cells old t)).setRow w.heap.size (cellsI l).toArray) w.heap.size l t := setRow_heap _ _ _ _ _ _ (heap_alloc_new _ _)
theorem new_at {w : World} {g : Nat} {o : Obj} (h : w.heap.size = g) : (w.alloc o).heap[g]? = some o := by rw [← h]; exact heap_alloc_new _ _
theorem size_I {l : List Int} {n : Nat} (h : l.length = n) : (cellsI l).toArray.size = n := by simp [cellsI_length, h]
theorem one_I (l : List Int) : (cellsI l).toArray.all (·.oneCell') = true := by simp [cellsI, Value.oneCell']
set_option maxRecDepth 100000 in
set_option maxHeartbeats 1600000 in
theorem after_ok {l : List Int} (hl : l.length = 8) (s : ByteArray) (m : Nat) (hs : s.size = 64 * m) (hm : s.size ≤ 9223372036854775000) (w : World) :
    Calls Try.prog 18 #[.agg (cellsI l).toArray, .string s] w fun e w' => e = .returned (.agg (cellsI (blks l s.data.toList m)).toArray) ∧ Below w.heap.size w w' := by
  have HS := Lib.hid hs
  have HL := Lib.hid hl
  clear hs hl
  go_enter Try.func18, Try.ntmps18
  go_wp2_with fail
  refine (constants_ok _).mono ?_
  rintro e w1 ⟨rfl, hb⟩
  have hz := hb.size
  have hz : w.heap.size + 1 < w1.heap.size := by simp at hz; omega
  have hB : Below w.heap.size w w1 := (((Below.refl w.heap.size w).alloc (Nat.le_refl _) _).alloc (by simp) _).trans (hb.mono (by simp; omega))
  have HI := Lib.hid (Ia.below (show Ia ((w.alloc (.cells (cellsI l).toArray 32)).alloc _) w.heap.size l 32 from heap_alloc2_old _ _ _) hb (by simp; omega))
  have HZ := Lib.hid (Ia.below (show Ia ((w.alloc _).alloc _) (w.heap.size + 1) (List.replicate 8 0) 32 from (heap_alloc2_new _ _ _).trans rfl) hb (by simp))
  clear hb
  go_wp2_with (refine wpList_store_row rfl 41 (.tmp 5) (.tmp 10) rfl w1.heap.size (cellsI kk).toArray rfl rfl 41 _ (heap_alloc_new _ _) (by kernel_rfl) (by kernel_rfl) (by kernel_rfl) ?_)
  go_loopw [6] (fun v6 wr => ∃ n : Nat, n ≤ m ∧ v6 = .int .i64 (64 * n : Nat) ∧ Ia wr w.heap.size (blks l s.data.toList n) 32 ∧ Ia wr (w.heap.size + 1) (List.replicate 8 0) 32 ∧ Ia wr w1.heap.size kk 41 ∧ Below w.heap.size w wr) (fun i _ => s.size - (intOf i).toNat)
  case atStart => exact ⟨0, by omega, rfl, (HI.out.alloc _).farRow (by omega) _, (HZ.out.alloc _).farRow (by omega) _, setRow_heap _ _ _ _ _ _ (heap_alloc_new _ _), below_setRow (hB.alloc (by omega) _) (by omega) _⟩
  case round =>
    clear HI HZ hB
    obtain ⟨n, hn, rfl, hI, hZ, hK, hB⟩ := hrel
    have HI := Lib.hid hI
    have HZ := Lib.hid hZ
    have HK := Lib.hid hK
    have hzr := hK.lt
    clear hI hZ hK
    by_cases hlt : n < m
    · have hL : 64 * n + 64 ≤ s.size := by have := HS.out; omega
      have hS : 64 ≤ (s.extract (64 * n) (64 * n + 64)).size := by simp; omega
      go_wp2_with fail
      refine (schedule_ok _ hS _).mono ?_
      rintro e w2 ⟨rfl, hb⟩
      have HI2 := Lib.hid (HI.out.kept hb)
      have HZ2 := Lib.hid (HZ.out.kept hb)
      have HK2 := Lib.hid (HK.out.kept hb)
      have hB2 := hB.trans (hb.mono hB.size)
      have hz2 := hb.size
      clear hb HI HZ HK hB
      have HE := Lib.hid (show (s.extract (64 * n) (64 * n + 64)).data.toList = (s.data.toList.drop (64 * n)).take 64 from by simp [List.take_drop, Nat.add_comm])
      generalize (s.extract (64 * n) (64 * n + 64)).data.toList = B at HE
      have hLb := blks_length HL.out s.data.toList n
      generalize hE2 : blks l s.data.toList n = lb at HI2 hLb
      have HE2 := Lib.hid hE2
      clear hE2
      have HLb := Lib.hid hLb
      clear hLb
      have tok0 : True := trivial
      go_wp2_with (first | (have _t := tok0; refine wpList_store_row rfl 41 (.tmp 7) (.tmp 22) rfl w2.heap.size (cellsI (sched B)).toArray rfl rfl 41 _ (heap_alloc_new _ _) (by rw [size_I (sched_length B)]; kernel_rfl) (by rw [size_I (sched_length B)]; rfl) (one_I _) ?_; clear _t tok0; have tok1 : True := trivial) | (have _t := tok1; refine wpList_load_row rfl 32 (.tmp 2) rfl w.heap.size rfl 32 (cellsI lb).toArray (0, 0) _ ((HI2.out.alloc _).farRow (by omega) _) Try.underlying32 rfl (by rw [size_I HLb.out]; kernel_rfl) ?_; clear _t tok1; have tok2 : True := trivial) | (have _t := tok2; refine wpList_store_row rfl 32 (.tmp 8) (.tmp 23) rfl (w2.heap.size + 1) (cellsI lb).toArray rfl rfl 32 _ (new_at (by simp)) (by rw [size_I HLb.out]; kernel_rfl) (by rw [size_I HLb.out]; rfl) (one_I _) ?_; clear _t tok2; have tok3 : True := trivial) | (have _t := tok3; refine wpList_load_row rfl 32 (.tmp 2) rfl w.heap.size rfl 32 (cellsI lb).toArray (0, 0) _ ((((HI2.out.alloc _).farRow (by omega) _).alloc _).farRow (by omega) _) Try.underlying32 rfl (by rw [size_I HLb.out]; kernel_rfl) ?_; clear _t tok3))
      refine Calls.mono (mixed_l HLb.out (sched B) kk w2.heap.size w1.heap.size _ (fun i hi => Ia.cell (l := sched B) (t := 41) (((Ia.made _ _ _ _).alloc _).farRow (by omega) _) i (by rw [sched_length]; exact hi)) (fun i hi => Ia.cell (l := kk) (t := 41) ((((HK2.out.alloc _).farRow (by omega) _).alloc _).farRow (by omega) _) i hi) (by simp; omega) (by simp; omega)) ?_
      rintro e w3 ⟨rfl, hb⟩
      have HI3 := Lib.hid (Ia.kept ((((HI2.out.alloc _).farRow (by omega) _).alloc _).farRow (by omega) _) hb)
      have HZ3 := Lib.hid (Ia.kept ((((HZ2.out.alloc _).farRow (by omega) _).alloc _).farRow (by omega) _) hb)
      have HK3 := Lib.hid (Ia.kept ((((HK2.out.alloc _).farRow (by omega) _).alloc _).farRow (by omega) _) hb)
      have HP3 := Lib.hid (Ia.kept (setRow_heap _ _ _ _ _ _ (new_at (g := w2.heap.size + 1) (by simp)) : Ia _ (w2.heap.size + 1) lb 32) hb)
      have hB3 := Below.trans (below_setRow ((below_setRow (hB2.alloc (by omega) _) (by omega) _).alloc (by simp; omega) _) (by omega) _) (hb.mono (by simp; omega))
      have hz3 : w2.heap.size + 1 < w3.heap.size := by have := hb.size; simp at this; omega
      clear hb HI2 HZ2 HK2 hB2
      have hLm : (rd (St.of lb) kk (sched B) 64).l.length = 8 := rfl
      generalize hM : (rd (St.of lb) kk (sched B) 64).l = M at hLm ⊢
      have HM := Lib.hid hM
      have HLm := Lib.hid hLm
      clear hM hLm
      go_wp2_with (refine wpList_store_row rfl 32 (.tmp 2) (.tmp 25) rfl w.heap.size (cellsI M).toArray rfl rfl 32 (cellsI lb).toArray HI3.out (by rw [size_I HLm.out]; kernel_rfl) (by rw [size_I HLm.out, size_I HLb.out]) (one_I _) ?_)
      obtain ⟨wo, hwo⟩ : ∃ wo : World, wo = wr := ⟨_, rfl⟩
      go_loopw [26, 9] (fun v26 _ wi => ∃ i : Nat, i ≤ 8 ∧ v26 = .int .i64 i ∧ Ia wi w.heap.size (addn M lb i) 32 ∧ Ia wi (w.heap.size + 1) (List.replicate 8 0) 32 ∧ Ia wi w1.heap.size kk 41 ∧ Ia wi (w2.heap.size + 1) lb 32 ∧ Below w.heap.size w wi) (fun i _ _ => 8 - (intOf i).toNat)
      case atStart => exact ⟨0, by omega, rfl, setRow_heap _ _ _ _ _ _ HI3.out, HZ3.out.farRow (by omega) _, HK3.out.farRow (by omega) _, HP3.out.farRow (by omega) _, below_setRow hB3 (Nat.le_refl _) _⟩
      case round =>
        clear HI3 HZ3 HK3 HP3 hB3 
        obtain ⟨i, hi, rfl, hI, hZ, hK, hP, hB⟩ := hrel
        by_cases hli : i < 8
        · have c1 := hI.cell i (by rw [addn_length, HLm.out]; exact hli)
          have c2 := hP.cell i (by rw [HLb.out]; exact hli)
          have hf := hI.frozen i
          have HI := Lib.hid hI
          have HZ := Lib.hid hZ
          have HK := Lib.hid hK
          have HP := Lib.hid hP
          clear hI hZ hK hP
          go_wp2_with fail
          go_still_tail 8, (by kernel_rfl)
          change wpList _ _ _ _ _ wr.drew
          go_wp2
          go_roundw
          case rel =>
            refine ⟨i + 1, by omega, by go_num, ?_, (HZ.out.far (by simp) _).drew, (HK.out.far (by simp; omega) _).drew, (HP.out.far (by simp; omega) _).drew, (hB.setCell (Nat.le_refl _) _).drew⟩
            rw [show addn M lb (i + 1) = (addn M lb i).set i (((addn M lb i).getD i 0 + lb.getD i 0) % 4294967296) from rfl]
            simp only [List.getD_eq_getElem?_getD]
            exact (HI.out.set i _).drew
          case measure => simp [intOf]; omega
        · obtain rfl : i = 8 := by omega
          have HI := Lib.hid hI
          have HZ := Lib.hid hZ
          have HK := Lib.hid hK
          clear hI hZ hK hP
          go_wp2_with fail
          go_roundw
          case rel =>
            refine ⟨n + 1, by omega, by go_num, ?_, HZ.out, HK.out, hB⟩
            rw [show blks l s.data.toList (n + 1) = blk (blks l s.data.toList n) ((s.data.toList.drop (64 * n)).take 64) from rfl, ← HE.out, HE2.out]
            unfold blk
            rw [HM.out]
            exact HI.out
          case measure => simp [intOf]; omega
    · obtain rfl : n = m := by omega
      have hLb := blks_length HL.out s.data.toList n
      have HLb := Lib.hid hLb
      clear hLb
      rw [show ((64 * n : Nat) : Int) = (s.size : Int) from by have := HS.out; omega]
      have tok0 : True := trivial
      go_wp2_with (first | (have _t := tok0; refine wpList_load_row rfl 32 (.tmp 2) rfl w.heap.size rfl 32 (cellsI (blks l s.data.toList n)).toArray (0, 0) _ HI.out Try.underlying32 rfl (by rw [size_I HLb.out]; kernel_rfl) ?_; clear _t tok0; have tok1 : True := trivial) | (have _t := tok1; refine wpList_store_row rfl 32 (.tmp 4) (.tmp 38) rfl (w.heap.size + 1) (cellsI (blks l s.data.toList n)).toArray rfl rfl 32 _ HZ.out (by rw [size_I HLb.out]; kernel_rfl) (by rw [size_I HLb.out]; rfl) (one_I _) ?_; clear _t tok1))
      exact bodyPost_ret (v := .agg (cellsI (blks l s.data.toList n)).toArray) (results_cell_row Try.results18 _ _ (w.heap.size + 1) 32 _ (0, 0) _ rfl (setRow_heap _ _ _ _ _ _ HZ.out) Try.underlying32 rfl (by rw [size_I HLb.out]; kernel_rfl)) rfl ⟨rfl, below_setRow hB (by omega) _⟩
end Go.Proofs.Ytgchfponmaangaa
