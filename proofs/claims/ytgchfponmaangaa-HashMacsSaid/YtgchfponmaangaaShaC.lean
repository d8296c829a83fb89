/-
  The contracts of constants, initial and after.
-/
import Derived.Test.YtgchfponmaangaaShaB
namespace Go.Proofs.Ytgchfponmaangaa
open Go.RowKit
theorem cells_l (s : St) : (cellsI s.l).toArray = #[.int .u32 s.a, .int .u32 s.b, .int .u32 s.c, .int .u32 s.d, .int .u32 s.e, .int .u32 s.f, .int .u32 s.g, .int .u32 s.h] := rfl
theorem mixed_l {l : List Int} (hl : l.length = 8) (W K : List Int) (pw pk : Nat) (w : World) (hw : ∀ i, i < 64 → w.cell? ⟨pw, i, none⟩ = some (.int .u32 (W.getD i 0)))
    (hk : ∀ i, i < 64 → w.cell? ⟨pk, i, none⟩ = some (.int .u32 (K.getD i 0))) (lw : pw < w.heap.size) (lk : pk < w.heap.size) :
    Calls Try.prog 27 #[.agg (cellsI l).toArray, .pointer (some ⟨pw, 0, none⟩), .pointer (some ⟨pk, 0, none⟩)] w fun e w' => e = .returned (.agg (cellsI (rd (St.of l) K W 64).l).toArray) ∧ Below w.heap.size w w' := by
  have := mixed_ok (St.of l) W K pw pk w hw hk lw lk
  unfold St.v at this
  rw [← cells_l, ← cells_l, St.l_of hl] at this
  exact this
set_option maxRecDepth 100000 in
set_option maxHeartbeats 1600000 in
theorem constants_ok (w : World) :
    Calls Try.prog 25 #[] w fun e w' => e = .returned (.agg (cellsI kk).toArray) ∧ Below w.heap.size w w' := by
  go_enter Try.func25, Try.ntmps25
  go_wp2_with (refine wpList_store_row rfl 41 (.tmp 0) (.tmp 1) rfl w.heap.size (cellsI kk).toArray rfl rfl 41 _ (heap_alloc_new _ _) (by kernel_rfl) (by kernel_rfl) (by kernel_rfl) ?_)
  exact bodyPost_ret (v := .agg (cellsI kk).toArray) (results_cell_row Try.results25 _ _ w.heap.size 41 _ (0, 0) _ rfl (setRow_heap _ _ _ _ _ _ (heap_alloc_new _ _)) Try.underlying41 rfl (by kernel_rfl)) rfl ⟨rfl, below_setRow ((Below.refl w.heap.size w).alloc (Nat.le_refl _) _) (Nat.le_refl _) _⟩
set_option maxRecDepth 100000 in
set_option maxHeartbeats 1600000 in
theorem initial_ok (w : World) :
    Calls Try.prog 17 #[] w fun e w' => e = .returned (.agg (cellsI iv).toArray) ∧ Below w.heap.size w w' := by
  go_enter Try.func17, Try.ntmps17
  go_wp2_with (refine wpList_store_row rfl 32 (.tmp 0) (.tmp 1) rfl w.heap.size (cellsI iv).toArray rfl rfl 32 _ (heap_alloc_new _ _) (by kernel_rfl) (by kernel_rfl) (by kernel_rfl) ?_)
  exact bodyPost_ret (v := .agg (cellsI iv).toArray) (results_cell_row Try.results17 _ _ w.heap.size 32 _ (0, 0) _ rfl (setRow_heap _ _ _ _ _ _ (heap_alloc_new _ _)) Try.underlying32 rfl (by kernel_rfl)) rfl ⟨rfl, below_setRow ((Below.refl w.heap.size w).alloc (Nat.le_refl _) _) (Nat.le_refl _) _⟩
end Go.Proofs.Ytgchfponmaangaa
