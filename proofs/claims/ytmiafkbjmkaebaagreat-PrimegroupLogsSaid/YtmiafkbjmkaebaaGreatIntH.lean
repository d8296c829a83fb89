/-
  The contracts of Sub, of integer and of the reference.
-/
import Derived.Test.YtmiafkbjmkaebaaGreatIntE
namespace Go.Proofs.YtmiafkbjmkaebaaGreat
open Go.RowKit Num

set_option maxHeartbeats 1000000 in
set_option maxRecDepth 100000 in
theorem isub_any {x y : Int} (hx : zabs x < Top) (hy : zabs y < Top) (w : World) : Calls Tryz.prog 137 #[(.agg #[.bool (zneg x), .string (bs (zabs x))]), (.agg #[.bool (zneg y), .string (bs (zabs y))])] w (Made w (.tuple #[(.agg #[.bool (zneg ((addRes (x - y)).1)), .string (bs (zabs ((addRes (x - y)).1)))]), .int .i64 (addRes (x - y)).2])) := by
  have hy' : zabs (-y) < Top := by unfold zabs at hy ⊢; rw [Int.natAbs_neg]; exact hy
  have V1 := Lib.hid (fun W => ivalid_yes hx W)
  have V2 := Lib.hid (fun W => ivalid_yes hy W)
  have HN := Lib.hid (fun W => neg_yes hy W)
  have HA := Lib.hid (fun W => iadd_any hx hy' W)
  rw [show x + -y = x - y from by omega] at HA
  clear hx hy hy'
  go_enter Tryz.func137, Tryz.ntmps137
  go_wp2_with fail
  refine (V1.out _).mono ?_
  rintro e w1 ⟨rfl, hb⟩
  have HB := hb
  clear hb
  obtain ⟨hc, hf⟩ := bcell HB
  go_wp2_with fail
  refine (V2.out _).mono ?_
  rintro e w2 ⟨rfl, hb⟩
  replace HB := HB.trans (hb.mono HB.size)
  clear hb hc hf
  obtain ⟨hc, hf⟩ := bcell HB
  have hz0 : w.heap.size < w2.heap.size := by have := HB.size; simp at this; omega
  have hz1 : w.heap.size + 1 < w2.heap.size := by have := HB.size; simp at this; omega
  have hz2 : w.heap.size + 1 + 1 < w2.heap.size := by have := HB.size; simp at this; omega
  go_wp2_with fail
  replace HB := HB.drew
  go_region_with (first | (go_at_call 142; (refine (HN.out _).mono ?_); rintro e w3 ⟨rfl, hb⟩; replace HB := HB.trans (hb.mono HB.size); clear hb hc hf; obtain ⟨hc, hf⟩ := bcell HB) | (go_at_call 139; (refine (HA.out _).mono ?_); rintro e w4 ⟨rfl, hb⟩; replace HB := HB.trans (hb.mono HB.size); clear hb hc hf; obtain ⟨hc, hf⟩ := bcell HB))
  all_goals
    have hz : w.heap.size + 2 < w4.heap.size := by have := HB.size; simp at this; omega
    have hB := ((((Below.refl w.heap.size w).alloc (Nat.le_refl _) (.cells #[.bool (zneg x), .string (bs (zabs x))] 38)).alloc (by simp) (.cells #[.bool (zneg y), .string (bs (zabs y))] 38)).alloc (by simp; omega) (.cells #[.bool false, .string ⟨#[]⟩] 38)).trans (HB.mono (by simp; omega))
    go_wp2
    exact bodyPost_ret (v := .tuple #[(.agg #[.bool (zneg ((addRes (x - y)).1)), .string (bs (zabs ((addRes (x - y)).1)))]), .int .i64 (addRes (x - y)).2]) (by simp [results, Tryz.results137, go_sem, hc]) rfl ⟨rfl, (hB.setCell (by simp; omega) _).setCell (by simp; omega) _⟩

end Go.Proofs.YtmiafkbjmkaebaaGreat
