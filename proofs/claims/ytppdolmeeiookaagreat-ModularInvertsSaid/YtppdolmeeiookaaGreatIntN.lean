/-
  The contracts of Divide, of integer and of the reference. The contract of integer.advance.
-/
import Derived.Test.YtppdolmeeiookaaGreatIntI
namespace Go.Proofs.YtppdolmeeiookaaGreat
open Go.RowKit Num

set_option maxHeartbeats 400000 in
set_option maxRecDepth 100000 in
theorem idivide_ok {p q : Bool} {s t : ByteArray} {z : Int}  (w : World)
    (C : ∀ W, Calls Tryz.prog 108 #[.agg #[.bool p, .string s], .agg #[.bool q, .string t]] W (Made W (.tuple #[(.agg #[.bool (zneg z), .string (bs (zabs z))]), .string (bs 0), .int .i64 0]))) :
    Calls Tryz.prog 90 #[.agg #[.bool p, .string s], .agg #[.bool q, .string t]] w (Made w (.tuple #[(.agg #[.bool (zneg z), .string (bs (zabs z))]), .int .i64 0])) := by
  have HM := Lib.hid C
  clear C
  have he : (bs 0).toList.isEmpty = true := by rw [bs_isEmpty]; rfl
  go_enter Tryz.func90, Tryz.ntmps90
  go_wp2_with fail
  refine (HM.out _).mono ?_
  rintro e w1 ⟨rfl, hb⟩
  have HB := hb
  clear hb
  obtain ⟨hc, hf⟩ := bcell HB
  have hz5 : w.heap.size + 1 + 1 < w1.heap.size := by have := HB.size; simp at this; omega
  have hB4 := ((((Below.refl w.heap.size w).alloc (Nat.le_refl _) (.cells #[.bool p, .string s] 24)).alloc (by simp) (.cells #[.bool q, .string t] 24)).alloc (by simp; omega) (.cells #[.bool false, .string ⟨#[]⟩] 24)).trans (HB.mono (by simp; omega))
  go_wp2
  exact bodyPost_ret (v := .tuple #[(.agg #[.bool (zneg z), .string (bs (zabs z))]), .int .i64 0]) (by simp [results, Tryz.results90, go_sem, hc, hz5]) rfl ⟨rfl, ((hB4.setCell (by simp; omega) _).setCell (by simp; omega) _).alloc (by simp; omega) _⟩

set_option maxHeartbeats 400000 in
set_option maxRecDepth 100000 in
theorem idivide_arg {p q : Bool} {s t : ByteArray} {z : Int} {r : Nat} (hr : r ≠ 0) (w : World)
    (C : ∀ W, Calls Tryz.prog 108 #[.agg #[.bool p, .string s], .agg #[.bool q, .string t]] W (Made W (.tuple #[(.agg #[.bool (zneg z), .string (bs (zabs z))]), .string (bs r), .int .i64 0]))) :
    Calls Tryz.prog 90 #[.agg #[.bool p, .string s], .agg #[.bool q, .string t]] w (Made w (.tuple #[(.agg #[.bool (zneg 0), .string (bs (zabs 0))]), .int .i64 1])) := by
  have HM := Lib.hid C
  clear C
  have he : (bs r).toList.isEmpty = false := by rw [bs_isEmpty]; simpa using hr
  rw [iv_zero]
  go_enter Tryz.func90, Tryz.ntmps90
  go_wp2_with fail
  refine (HM.out _).mono ?_
  rintro e w1 ⟨rfl, hb⟩
  have HB := hb
  clear hb
  obtain ⟨hc, hf⟩ := bcell HB
  have hz5 : w.heap.size + 1 + 1 < w1.heap.size := by have := HB.size; simp at this; omega
  have hB4 := ((((Below.refl w.heap.size w).alloc (Nat.le_refl _) (.cells #[.bool p, .string s] 24)).alloc (by simp) (.cells #[.bool q, .string t] 24)).alloc (by simp; omega) (.cells #[.bool false, .string ⟨#[]⟩] 24)).trans (HB.mono (by simp; omega))
  go_wp2
  exact bodyPost_ret (v := .tuple #[.agg #[.bool false, .string ⟨#[]⟩], .int .i64 1]) (by simp [results, Tryz.results90, go_sem, hc, hz5]) rfl ⟨rfl, ((hB4.setCell (by simp; omega) _).setCell (by simp; omega) _).alloc (by simp; omega) _⟩

set_option maxHeartbeats 400000 in
set_option maxRecDepth 100000 in
theorem idivide_err {p q : Bool} {s t : ByteArray} {z : Int} {r : Nat} {e : Int} (h : e ≠ 0) (w : World)
    (C : ∀ W, Calls Tryz.prog 108 #[.agg #[.bool p, .string s], .agg #[.bool q, .string t]] W (Made W (.tuple #[(.agg #[.bool (zneg z), .string (bs (zabs z))]), .string (bs r), .int .i64 e]))) :
    Calls Tryz.prog 90 #[.agg #[.bool p, .string s], .agg #[.bool q, .string t]] w (Made w (.tuple #[(.agg #[.bool (zneg 0), .string (bs (zabs 0))]), .int .i64 e])) := by
  have HM := Lib.hid C
  clear C
  have he : (e == 0) = false := by rw [beq_eq_false_iff_ne]; exact h
  rw [iv_zero]
  go_enter Tryz.func90, Tryz.ntmps90
  go_wp2_with fail
  refine (HM.out _).mono ?_
  rintro e w1 ⟨rfl, hb⟩
  have HB := hb
  clear hb
  obtain ⟨hc, hf⟩ := bcell HB
  have hz5 : w.heap.size + 1 + 1 < w1.heap.size := by have := HB.size; simp at this; omega
  have hB4 := ((((Below.refl w.heap.size w).alloc (Nat.le_refl _) (.cells #[.bool p, .string s] 24)).alloc (by simp) (.cells #[.bool q, .string t] 24)).alloc (by simp; omega) (.cells #[.bool false, .string ⟨#[]⟩] 24)).trans (HB.mono (by simp; omega))
  go_wp2
  exact bodyPost_ret (v := .tuple #[.agg #[.bool false, .string ⟨#[]⟩], .int .i64 e]) (by simp [results, Tryz.results90, go_sem, hc, hz5]) rfl ⟨rfl, ((hB4.setCell (by simp; omega) _).setCell (by simp; omega) _).alloc (by simp; omega) _⟩

end Go.Proofs.YtppdolmeeiookaaGreat

namespace Go.Proofs.YtppdolmeeiookaaGreat
open Go.RowKit Num

theorem addRes_ok {z : Int} (h : zabs z < Top) : addRes z = (z, 0) := by unfold addRes; rw [if_pos h]
theorem iadd_ok {x y : Int} (hx : zabs x < Top) (hy : zabs y < Top) (hv : zabs (x + y) < Top) (w : World) : Calls Tryz.prog 109 #[(.agg #[.bool (zneg x), .string (bs (zabs x))]), (.agg #[.bool (zneg y), .string (bs (zabs y))])] w (Made w (.tuple #[(.agg #[.bool (zneg (x + y)), .string (bs (zabs (x + y)))]), .int .i64 0])) := by
  have := iadd_any hx hy w
  rw [addRes_ok hv] at this
  exact this
theorem isub_ok {x y : Int} (hx : zabs x < Top) (hy : zabs y < Top) (hv : zabs (x - y) < Top) (w : World) : Calls Tryz.prog 89 #[(.agg #[.bool (zneg x), .string (bs (zabs x))]), (.agg #[.bool (zneg y), .string (bs (zabs y))])] w (Made w (.tuple #[(.agg #[.bool (zneg (x - y)), .string (bs (zabs (x - y)))]), .int .i64 0])) := by
  have := isub_any hx hy w
  rw [addRes_ok hv] at this
  exact this
theorem riadd_ok {x y : Int} (hx : zabs x < Top) (hy : zabs y < Top) (hv : zabs (x + y) < Top) (w : World) : Calls Tryz.prog 83 #[(.agg #[.bool (zneg x), .string (bs (zabs x))]), (.agg #[.bool (zneg y), .string (bs (zabs y))])] w (Made w (.tuple #[(.agg #[.bool (zneg (x + y)), .string (bs (zabs (x + y)))]), .int .i64 0])) := by
  have := riadd_any hx hy w
  rw [addRes_ok hv] at this
  exact this
theorem risub_ok {x y : Int} (hx : zabs x < Top) (hy : zabs y < Top) (hv : zabs (x - y) < Top) (w : World) : Calls Tryz.prog 111 #[(.agg #[.bool (zneg x), .string (bs (zabs x))]), (.agg #[.bool (zneg y), .string (bs (zabs y))])] w (Made w (.tuple #[(.agg #[.bool (zneg (x - y)), .string (bs (zabs (x - y)))]), .int .i64 0])) := by
  have := risub_any hx hy w
  rw [addRes_ok hv] at this
  exact this

set_option maxHeartbeats 1000000 in
set_option maxRecDepth 100000 in
theorem advance_ok {x y q : Int} (hx : zabs x < Top) (hy : zabs y < Top) (hq : zabs q < Top) (hm : zabs (q * y) < Top) (hv : zabs (x - q * y) < Top) (w : World) : Calls Tryz.prog 75 #[(.agg #[.bool (zneg (x)), .string (bs (zabs (x))), .bool (zneg (y)), .string (bs (zabs (y)))]), (.agg #[.bool (zneg q), .string (bs (zabs q))])] w (Made w (.agg #[.bool (zneg (y)), .string (bs (zabs (y))), .bool (zneg (x - q * y)), .string (bs (zabs (x - q * y)))])) := by
  have HM := Lib.hid (fun W => imul_ok hq hy hm W)
  have HS := Lib.hid (fun W => isub_ok hx hm hv W)
  clear hx hy hq hm hv
  go_enter Tryz.func75, Tryz.ntmps75
  go_wp2_with fail
  refine (HM.out _).mono ?_
  rintro e w1 ⟨rfl, hb⟩
  have HB := hb
  clear hb
  obtain ⟨hc, hf⟩ := bcell HB
  have hz : w.heap.size + 2 < w1.heap.size := by have := HB.size; simp at this; omega
  have hz1 : w.heap.size + 1 < w1.heap.size := by omega
  have hz0 : w.heap.size < w1.heap.size := by omega
  go_wp2_with fail
  refine (HS.out _).mono ?_
  rintro e w2 ⟨rfl, hb2⟩
  have HB2 := (HB.alloc HB.size _).trans (hb2.mono (HB.alloc HB.size _).size)
  clear hc hf
  obtain ⟨hc, hf⟩ := bcell HB2
  have hy2 : w.heap.size + 1 + 1 < w2.heap.size := by have := HB2.size; simp at this; omega
  have hy1 : w.heap.size + 1 < w2.heap.size := by omega
  have hy0 : w.heap.size < w2.heap.size := by omega
  have hB2 := ((((Below.refl w.heap.size w).alloc (Nat.le_refl _) (.cells #[.bool (zneg x), .string (bs (zabs x)), .bool (zneg y), .string (bs (zabs y))] 89)).alloc (by simp) (.cells #[.bool (zneg q), .string (bs (zabs q))] 24)).alloc (by simp; omega) (.cells #[.bool false, .string ⟨#[]⟩, .bool false, .string ⟨#[]⟩] 89)).trans (HB2.mono (by simp; omega))
  go_wp2
  exact bodyPost_ret (v := (.agg #[.bool (zneg (y)), .string (bs (zabs (y))), .bool (zneg (x - q * y)), .string (bs (zabs (x - q * y)))])) (by simp [results, Tryz.results75, go_sem, hc, hy2]) rfl ⟨rfl, ((((hB2.setCell (by simp; omega) _).setCell (by simp; omega) _).setCell (by simp; omega) _).setCell (by simp; omega) _).alloc (by simp; omega) _⟩

end Go.Proofs.YtppdolmeeiookaaGreat
