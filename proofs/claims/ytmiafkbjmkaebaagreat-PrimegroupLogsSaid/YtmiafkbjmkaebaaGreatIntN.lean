/-
  The contracts of Divide, of integer and of the reference. The contract of integer.advance.
-/
import Derived.Test.YtmiafkbjmkaebaaGreatIntI
namespace Go.Proofs.YtmiafkbjmkaebaaGreat
open Go.RowKit Num

end Go.Proofs.YtmiafkbjmkaebaaGreat

namespace Go.Proofs.YtmiafkbjmkaebaaGreat
open Go.RowKit Num

theorem addRes_ok {z : Int} (h : zabs z < Top) : addRes z = (z, 0) := by unfold addRes; rw [if_pos h]
theorem iadd_ok {x y : Int} (hx : zabs x < Top) (hy : zabs y < Top) (hv : zabs (x + y) < Top) (w : World) : Calls Tryz.prog 139 #[(.agg #[.bool (zneg x), .string (bs (zabs x))]), (.agg #[.bool (zneg y), .string (bs (zabs y))])] w (Made w (.tuple #[(.agg #[.bool (zneg (x + y)), .string (bs (zabs (x + y)))]), .int .i64 0])) := by
  have := iadd_any hx hy w
  rw [addRes_ok hv] at this
  exact this
theorem isub_ok {x y : Int} (hx : zabs x < Top) (hy : zabs y < Top) (hv : zabs (x - y) < Top) (w : World) : Calls Tryz.prog 137 #[(.agg #[.bool (zneg x), .string (bs (zabs x))]), (.agg #[.bool (zneg y), .string (bs (zabs y))])] w (Made w (.tuple #[(.agg #[.bool (zneg (x - y)), .string (bs (zabs (x - y)))]), .int .i64 0])) := by
  have := isub_any hx hy w
  rw [addRes_ok hv] at this
  exact this
set_option maxHeartbeats 1000000 in
set_option maxRecDepth 100000 in
theorem advance_ok {x y q : Int} (hx : zabs x < Top) (hy : zabs y < Top) (hq : zabs q < Top) (hm : zabs (q * y) < Top) (hv : zabs (x - q * y) < Top) (w : World) : Calls Tryz.prog 121 #[(.agg #[.bool (zneg (x)), .string (bs (zabs (x))), .bool (zneg (y)), .string (bs (zabs (y)))]), (.agg #[.bool (zneg q), .string (bs (zabs q))])] w (Made w (.agg #[.bool (zneg (y)), .string (bs (zabs (y))), .bool (zneg (x - q * y)), .string (bs (zabs (x - q * y)))])) := by
  have HM := Lib.hid (fun W => imul_ok hq hy hm W)
  have HS := Lib.hid (fun W => isub_ok hx hm hv W)
  clear hx hy hq hm hv
  go_enter Tryz.func121, Tryz.ntmps121
  go_wp2_with fail
  refine (HM.out _).mono ?_
  rintro e w1 ⟨rfl, hb⟩
  have HB := hb
  clear hb
  obtain ⟨hc, hf⟩ := bcell HB
  have hz : w.heap.size + 2 < w1.heap.size := by have := HB.size; simp at this; omega
  have hz1 : w.heap.size + 1 < w1.heap.size := by omega
  have hz0 : w.heap.size < w1.heap.size := by omega
  go_wp2_with fail
  refine (HS.out _).mono ?_
  rintro e w2 ⟨rfl, hb2⟩
  have HB2 := (HB.alloc HB.size _).trans (hb2.mono (HB.alloc HB.size _).size)
  clear hc hf
  obtain ⟨hc, hf⟩ := bcell HB2
  have hy2 : w.heap.size + 1 + 1 < w2.heap.size := by have := HB2.size; simp at this; omega
  have hy1 : w.heap.size + 1 < w2.heap.size := by omega
  have hy0 : w.heap.size < w2.heap.size := by omega
  have hB2 := ((((Below.refl w.heap.size w).alloc (Nat.le_refl _) (.cells #[.bool (zneg x), .string (bs (zabs x)), .bool (zneg y), .string (bs (zabs y))] 138)).alloc (by simp) (.cells #[.bool (zneg q), .string (bs (zabs q))] 38)).alloc (by simp; omega) (.cells #[.bool false, .string ⟨#[]⟩, .bool false, .string ⟨#[]⟩] 138)).trans (HB2.mono (by simp; omega))
  go_wp2
  exact bodyPost_ret (v := (.agg #[.bool (zneg (y)), .string (bs (zabs (y))), .bool (zneg (x - q * y)), .string (bs (zabs (x - q * y)))])) (by simp [results, Tryz.results121, go_sem, hc, hy2]) rfl ⟨rfl, ((((hB2.setCell (by simp; omega) _).setCell (by simp; omega) _).setCell (by simp; omega) _).setCell (by simp; omega) _).alloc (by simp; omega) _⟩

end Go.Proofs.YtmiafkbjmkaebaaGreat
