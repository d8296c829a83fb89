/-
  The contract of the closure in integer.DivMod. The contracts of DivMod of integer and of the reference. The contracts of DivMod of integer at 0 and at what is no integer, and of DivMod of the reference. The contracts of DivMod, of integer and of the reference, at 0 and at what is no integer.
-/
import Derived.Test.YtmiafkbjmkaebaaGreatIntH
namespace Go.Proofs.YtmiafkbjmkaebaaGreat
open Go.RowKit Num

set_option maxHeartbeats 1000000 in
set_option maxRecDepth 100000 in
theorem corr_pos (g : Nat) (y : Int) (Q R : Nat) (w : World) (c0 : w.cell? ⟨g, 0, none⟩ = some (.bool (zneg y))) (hg : g < w.heap.size)  :
    Calls Tryz.prog 143 #[.bool false, .string (bs Q), .string (bs R), .pointer (some ⟨g, 0, none⟩)] w (Made w (.tuple #[(.agg #[.bool (zneg (sg (false != zneg y) * (Q : Int))), .string (bs (zabs (sg (false != zneg y) * (Q : Int))))]), .string (bs R)])) := by
  have HS := Lib.hid (fun W => signed_any (false != zneg y) (Q) W)
  rw [show (false != zneg y) = zneg y by cases zneg y <;> rfl] at HS ⊢
  obtain ⟨s, hs⟩ : ∃ s, s = zneg y := ⟨_, rfl⟩
  rw [← hs] at HS c0 ⊢
  clear hs
  go_enter Tryz.func143, Tryz.ntmps143
  go_wp2_with fail
  refine (HS.out _).mono ?_
  rintro e w1 ⟨rfl, hb⟩
  have HB := hb
  clear hb
  obtain ⟨hc, hf⟩ := bcell HB
  have hz : w.heap.size + 0 < w1.heap.size := by have := HB.size; simp at this; omega
  have hB := ((Below.refl w.heap.size w).alloc (Nat.le_refl _) (.cells #[.bool false, .string ⟨#[]⟩] 38)).trans (HB.mono (by simp))
  go_wp2
  exact bodyPost_ret (v := .tuple #[(.agg #[.bool (zneg (sg s * (Q : Int))), .string (bs (zabs (sg s * (Q : Int))))]), .string (bs R)]) (by simp [results, Tryz.results143, go_sem, hc]) rfl ⟨rfl, (hB.setCell (by simp) _).setCell (by simp) _⟩

set_option maxHeartbeats 1000000 in
set_option maxRecDepth 100000 in
theorem corr_zero (g : Nat) (y : Int) (Q : Nat) (w : World) (c0 : w.cell? ⟨g, 0, none⟩ = some (.bool (zneg y))) (hg : g < w.heap.size)  :
    Calls Tryz.prog 143 #[.bool true, .string (bs Q), .string (bs 0), .pointer (some ⟨g, 0, none⟩)] w (Made w (.tuple #[(.agg #[.bool (zneg (sg (true != zneg y) * (Q : Int))), .string (bs (zabs (sg (true != zneg y) * (Q : Int))))]), .string (bs 0)])) := by
  have he : (bs 0).toList.isEmpty = true := by rw [bs_isEmpty]; rfl
  have HS := Lib.hid (fun W => signed_any (true != zneg y) (Q) W)
  rw [show (true != zneg y) = !zneg y by cases zneg y <;> rfl] at HS ⊢
  obtain ⟨s, hs⟩ : ∃ s, s = zneg y := ⟨_, rfl⟩
  rw [← hs] at HS c0 ⊢
  clear hs
  go_enter Tryz.func143, Tryz.ntmps143
  go_wp2_with fail
  refine (HS.out _).mono ?_
  rintro e w1 ⟨rfl, hb⟩
  have HB := hb
  clear hb
  obtain ⟨hc, hf⟩ := bcell HB
  have hz : w.heap.size + 0 < w1.heap.size := by have := HB.size; simp at this; omega
  have hB := ((Below.refl w.heap.size w).alloc (Nat.le_refl _) (.cells #[.bool false, .string ⟨#[]⟩] 38)).trans (HB.mono (by simp))
  go_wp2
  exact bodyPost_ret (v := .tuple #[(.agg #[.bool (zneg (sg (!s) * (Q : Int))), .string (bs (zabs (sg (!s) * (Q : Int))))]), .string (bs 0)]) (by simp [results, Tryz.results143, go_sem, hc]) rfl ⟨rfl, (hB.setCell (by simp) _).setCell (by simp) _⟩

set_option maxHeartbeats 1000000 in
set_option maxRecDepth 100000 in
theorem corr_next (g : Nat) (y : Int) (Q R : Nat) (w : World) (c0 : w.cell? ⟨g, 0, none⟩ = some (.bool (zneg y))) (c1 : w.cell? ⟨g, 1, none⟩ = some (.string (bs (zabs y)))) (hg : g < w.heap.size) (hR : R ≠ 0) (hR2 : R ≤ zabs y) (hy : zabs y < Top) (hQ : Q + 1 < Top) :
    Calls Tryz.prog 143 #[.bool true, .string (bs Q), .string (bs R), .pointer (some ⟨g, 0, none⟩)] w (Made w (.tuple #[(.agg #[.bool (zneg (sg (true != zneg y) * ((Q + 1 : Nat) : Int))), .string (bs (zabs (sg (true != zneg y) * ((Q + 1 : Nat) : Int))))]), .string (bs (zabs y - R))])) := by
  have he : (bs R).toList.isEmpty = false := by rw [bs_isEmpty]; simpa using hR
  have H1 := Lib.hid (fun W => of_lit 1 (by decide) (by decide) W)
  have HA := Lib.hid (fun W => add_ok (a := Q) (b := 1) (by omega) (top_big (by decide)) hQ W)
  have HD := Lib.hid (fun W => sub_ok (a := zabs y) (b := R) hy (by omega) hR2 W)
  clear hR hR2 hQ hy
  have HS := Lib.hid (fun W => signed_any (true != zneg y) (Q + 1) W)
  rw [show (true != zneg y) = !zneg y by cases zneg y <;> rfl] at HS ⊢
  obtain ⟨s, hs⟩ : ∃ s, s = zneg y := ⟨_, rfl⟩
  rw [← hs] at HS c0 ⊢
  clear hs
  go_enter Tryz.func143, Tryz.ntmps143
  go_wp2_with fail
  refine (H1.out _).mono ?_
  rintro e w1 ⟨rfl, hb⟩
  have HB := hb
  clear hb
  obtain ⟨hc, hf⟩ := bcell HB
  go_wp2_with fail
  refine (HA.out _).mono ?_
  rintro e w2 ⟨rfl, hb⟩
  replace HB := HB.trans (hb.mono HB.size)
  clear hb hc hf
  obtain ⟨hc, hf⟩ := bcell HB
  go_wp2_with fail
  refine (HD.out _).mono ?_
  rintro e w3 ⟨rfl, hb⟩
  replace HB := HB.trans (hb.mono HB.size)
  clear hb hc hf
  obtain ⟨hc, hf⟩ := bcell HB
  go_wp2_with fail
  refine (HS.out _).mono ?_
  rintro e w4 ⟨rfl, hb⟩
  replace HB := HB.trans (hb.mono HB.size)
  clear hb hc hf
  obtain ⟨hc, hf⟩ := bcell HB
  have hz : w.heap.size + 0 < w4.heap.size := by have := HB.size; simp at this; omega
  have hB := ((Below.refl w.heap.size w).alloc (Nat.le_refl _) (.cells #[.bool false, .string ⟨#[]⟩] 38)).trans (HB.mono (by simp))
  go_wp2
  exact bodyPost_ret (v := .tuple #[(.agg #[.bool (zneg (sg (!s) * ((Q + 1 : Nat) : Int))), .string (bs (zabs (sg (!s) * ((Q + 1 : Nat) : Int))))]), .string (bs (zabs y - R))]) (by simp [results, Tryz.results143, go_sem, hc]) rfl ⟨rfl, (hB.setCell (by simp) _).setCell (by simp) _⟩

end Go.Proofs.YtmiafkbjmkaebaaGreat

namespace Go.Proofs.YtmiafkbjmkaebaaGreat
open Go.RowKit Num

theorem sg_zneg (x : Int) : sg (zneg x) * (zabs x : Int) = x := sg_of x
theorem dm_plain {x y : Int} {p : Bool} (hp : zneg x = p) (h0 : zabs y ≠ 0) (h : p = false ∨ zabs x % zabs y = 0) : sg (p != zneg y) * ((zabs x / zabs y : Nat) : Int) = x / y ∧ zabs x % zabs y = zabs (x % y) := by
  obtain ⟨h1, h2⟩ := euclid_plain p (zneg y) (zabs x) (zabs y) h0 h
  rw [← hp, sg_zneg, sg_zneg] at h1 h2
  rw [← hp]
  refine ⟨h1.symm, ?_⟩
  rw [h2, zabs_nat]
theorem dm_next {x y : Int} (hp : zneg x = true) (h0 : zabs y ≠ 0) (h : zabs x % zabs y ≠ 0) : sg (true != zneg y) * ((zabs x / zabs y + 1 : Nat) : Int) = x / y ∧ zabs y - zabs x % zabs y = zabs (x % y) := by
  obtain ⟨h1, h2⟩ := euclid_next (zneg y) (zabs x) (zabs y) h0 h
  rw [← hp, sg_zneg, sg_zneg] at h1 h2
  rw [← hp]
  refine ⟨h1.symm, ?_⟩
  rw [h2, zabs_nat]
theorem quot_next {a b : Nat} (ha : a < Top) (h : a % b ≠ 0) : a / b + 1 < Top := by
  by_cases h1 : b = 0
  · subst h1; simp at h ⊢; unfold Top; decide
  · by_cases h2 : b = 1
    · subst h2; omega
    · have h3 : a / b ≤ a / 2 := Nat.div_le_div_left (by omega) (by decide)
      have : 4 < Top := by unfold Top; decide
      omega

set_option maxHeartbeats 1000000 in
set_option maxRecDepth 100000 in
theorem idivmod_pos {x y : Int} (hx : zabs x < Top) (hy : zabs y < Top) (h0 : zabs y ≠ 0) (hp : zneg x = false)  (w : World) : Calls Tryz.prog 138 #[(.agg #[.bool (zneg x), .string (bs (zabs x))]), (.agg #[.bool (zneg y), .string (bs (zabs y))])] w (Made w (.tuple #[(.agg #[.bool (zneg (x / y)), .string (bs (zabs (x / y)))]), .string (bs (zabs (x % y))), .int .i64 0])) := by
  have hmf : ∀ (fn : Fn) (first cap : Array Value) (w : World), (Instr.makeFunc fn first cap).run Tryz.prog w = .ok (.func fn first cap) w := fun _ _ _ _ => rfl
  have V1 := Lib.hid (fun W => ivalid_yes hx W)
  have V2 := Lib.hid (fun W => ivalid_yes hy W)
  have HM := Lib.hid (fun W => divmod_ok hx hy h0 W)
  have hq := dm_plain hp h0 (.inl rfl)
  obtain ⟨hq1, hq2⟩ := hq
  have HK := Lib.hid (fun g W c0 hg => corr_pos g y (zabs x / zabs y) (zabs x % zabs y) W c0 hg)
  rw [hq1, hq2] at HK
  rw [hq2] at HM
  clear hq1 hq2
  rw [hp] at V1 ⊢
  clear hx hy h0 hp
  go_enter Tryz.func138, Tryz.ntmps138
  go_wp2_with fail
  refine (V1.out _).mono ?_
  rintro e w1 ⟨rfl, hb⟩
  have HB := hb
  clear hb
  obtain ⟨hc, hf⟩ := bcell HB
  go_wp2_with fail
  refine (V2.out _).mono ?_
  rintro e w2 ⟨rfl, hb⟩
  replace HB := HB.trans (hb.mono HB.size)
  clear hb hc hf
  obtain ⟨hc, hf⟩ := bcell HB
  go_wp2_with fail
  refine (HM.out _).mono ?_
  rintro e w3 ⟨rfl, hb⟩
  replace HB := HB.trans (hb.mono HB.size)
  clear hb hc hf
  obtain ⟨hc, hf⟩ := bcell HB
  have hz1 : w.heap.size + 1 < w3.heap.size := by have := HB.size; simp at this; omega
  have c0 : w3.cell? ⟨w.heap.size + 1, 0, none⟩ = some (.bool (zneg y)) := by rw [hc _ _ (by simp)]; simp [go_sem]
  have c1 : w3.cell? ⟨w.heap.size + 1, 1, none⟩ = some (.string (bs (zabs y))) := by rw [hc _ _ (by simp)]; simp [go_sem]
  go_wp2_with fail
  refine (HK.out (w.heap.size + 1) _ c0 hz1).mono ?_
  rintro e w4 ⟨rfl, hb⟩
  replace HB := HB.trans (hb.mono HB.size)
  clear hb hc hf
  obtain ⟨hc, hf⟩ := bcell HB
  have hz4 : w.heap.size + 2 < w4.heap.size := by have := HB.size; simp at this; omega
  have hB4 := ((((Below.refl w.heap.size w).alloc (Nat.le_refl _) (.cells #[.bool false, .string (bs (zabs x))] 38)).alloc (by simp) (.cells #[.bool (zneg y), .string (bs (zabs y))] 38)).alloc (by simp; omega) (.cells #[.bool false, .string ⟨#[]⟩] 38)).trans (HB.mono (by simp; omega))
  have hz5 : w.heap.size + 1 + 1 < w4.heap.size := hz4
  go_wp2
  exact bodyPost_ret (v := .tuple #[(.agg #[.bool (zneg (x / y)), .string (bs (zabs (x / y)))]), .string (bs (zabs (x % y))), .int .i64 0]) (by simp [results, Tryz.results138, go_sem, hc, hz5]) rfl ⟨rfl, ((hB4.setCell (by simp; omega) _).setCell (by simp; omega) _).alloc (by simp; omega) _⟩

set_option maxHeartbeats 1000000 in
set_option maxRecDepth 100000 in
theorem idivmod_zero {x y : Int} (hx : zabs x < Top) (hy : zabs y < Top) (h0 : zabs y ≠ 0) (hp : zneg x = true) (hr : zabs x % zabs y = 0) (w : World) : Calls Tryz.prog 138 #[(.agg #[.bool (zneg x), .string (bs (zabs x))]), (.agg #[.bool (zneg y), .string (bs (zabs y))])] w (Made w (.tuple #[(.agg #[.bool (zneg (x / y)), .string (bs (zabs (x / y)))]), .string (bs (zabs (x % y))), .int .i64 0])) := by
  have hmf : ∀ (fn : Fn) (first cap : Array Value) (w : World), (Instr.makeFunc fn first cap).run Tryz.prog w = .ok (.func fn first cap) w := fun _ _ _ _ => rfl
  have V1 := Lib.hid (fun W => ivalid_yes hx W)
  have V2 := Lib.hid (fun W => ivalid_yes hy W)
  have HM := Lib.hid (fun W => divmod_ok hx hy h0 W)
  have hq := dm_plain hp h0 (.inr hr)
  obtain ⟨hq1, hq2⟩ := hq
  have HK := Lib.hid (fun g W c0 hg => corr_zero g y (zabs x / zabs y) W c0 hg)
  rw [hq1] at HK
  rw [hr] at HM hq2
  rw [← hq2]
  clear hq1 hq2 hr
  rw [hp] at V1 ⊢
  clear hx hy h0 hp
  go_enter Tryz.func138, Tryz.ntmps138
  go_wp2_with fail
  refine (V1.out _).mono ?_
  rintro e w1 ⟨rfl, hb⟩
  have HB := hb
  clear hb
  obtain ⟨hc, hf⟩ := bcell HB
  go_wp2_with fail
  refine (V2.out _).mono ?_
  rintro e w2 ⟨rfl, hb⟩
  replace HB := HB.trans (hb.mono HB.size)
  clear hb hc hf
  obtain ⟨hc, hf⟩ := bcell HB
  go_wp2_with fail
  refine (HM.out _).mono ?_
  rintro e w3 ⟨rfl, hb⟩
  replace HB := HB.trans (hb.mono HB.size)
  clear hb hc hf
  obtain ⟨hc, hf⟩ := bcell HB
  have hz1 : w.heap.size + 1 < w3.heap.size := by have := HB.size; simp at this; omega
  have c0 : w3.cell? ⟨w.heap.size + 1, 0, none⟩ = some (.bool (zneg y)) := by rw [hc _ _ (by simp)]; simp [go_sem]
  have c1 : w3.cell? ⟨w.heap.size + 1, 1, none⟩ = some (.string (bs (zabs y))) := by rw [hc _ _ (by simp)]; simp [go_sem]
  go_wp2_with fail
  refine (HK.out (w.heap.size + 1) _ c0 hz1).mono ?_
  rintro e w4 ⟨rfl, hb⟩
  replace HB := HB.trans (hb.mono HB.size)
  clear hb hc hf
  obtain ⟨hc, hf⟩ := bcell HB
  have hz4 : w.heap.size + 2 < w4.heap.size := by have := HB.size; simp at this; omega
  have hB4 := ((((Below.refl w.heap.size w).alloc (Nat.le_refl _) (.cells #[.bool true, .string (bs (zabs x))] 38)).alloc (by simp) (.cells #[.bool (zneg y), .string (bs (zabs y))] 38)).alloc (by simp; omega) (.cells #[.bool false, .string ⟨#[]⟩] 38)).trans (HB.mono (by simp; omega))
  have hz5 : w.heap.size + 1 + 1 < w4.heap.size := hz4
  go_wp2
  exact bodyPost_ret (v := .tuple #[(.agg #[.bool (zneg (x / y)), .string (bs (zabs (x / y)))]), .string (bs 0), .int .i64 0]) (by simp [results, Tryz.results138, go_sem, hc, hz5]) rfl ⟨rfl, ((hB4.setCell (by simp; omega) _).setCell (by simp; omega) _).alloc (by simp; omega) _⟩

set_option maxHeartbeats 1000000 in
set_option maxRecDepth 100000 in
theorem idivmod_next {x y : Int} (hx : zabs x < Top) (hy : zabs y < Top) (h0 : zabs y ≠ 0) (hp : zneg x = true) (hr : zabs x % zabs y ≠ 0) (w : World) : Calls Tryz.prog 138 #[(.agg #[.bool (zneg x), .string (bs (zabs x))]), (.agg #[.bool (zneg y), .string (bs (zabs y))])] w (Made w (.tuple #[(.agg #[.bool (zneg (x / y)), .string (bs (zabs (x / y)))]), .string (bs (zabs (x % y))), .int .i64 0])) := by
  have hmf : ∀ (fn : Fn) (first cap : Array Value) (w : World), (Instr.makeFunc fn first cap).run Tryz.prog w = .ok (.func fn first cap) w := fun _ _ _ _ => rfl
  have V1 := Lib.hid (fun W => ivalid_yes hx W)
  have V2 := Lib.hid (fun W => ivalid_yes hy W)
  have HM := Lib.hid (fun W => divmod_ok hx hy h0 W)
  have hq := dm_next hp h0 hr
  obtain ⟨hq1, hq2⟩ := hq
  have HK := Lib.hid (fun g W c0 c1 hg => corr_next g y (zabs x / zabs y) (zabs x % zabs y) W c0 c1 hg hr (Nat.le_of_lt (Nat.mod_lt _ (Nat.pos_of_ne_zero h0))) hy (quot_next hx hr))
  rw [hq1, hq2] at HK
  clear hq1 hq2 hr
  rw [hp] at V1 ⊢
  clear hx hy h0 hp
  go_enter Tryz.func138, Tryz.ntmps138
  go_wp2_with fail
  refine (V1.out _).mono ?_
  rintro e w1 ⟨rfl, hb⟩
  have HB := hb
  clear hb
  obtain ⟨hc, hf⟩ := bcell HB
  go_wp2_with fail
  refine (V2.out _).mono ?_
  rintro e w2 ⟨rfl, hb⟩
  replace HB := HB.trans (hb.mono HB.size)
  clear hb hc hf
  obtain ⟨hc, hf⟩ := bcell HB
  go_wp2_with fail
  refine (HM.out _).mono ?_
  rintro e w3 ⟨rfl, hb⟩
  replace HB := HB.trans (hb.mono HB.size)
  clear hb hc hf
  obtain ⟨hc, hf⟩ := bcell HB
  have hz1 : w.heap.size + 1 < w3.heap.size := by have := HB.size; simp at this; omega
  have c0 : w3.cell? ⟨w.heap.size + 1, 0, none⟩ = some (.bool (zneg y)) := by rw [hc _ _ (by simp)]; simp [go_sem]
  have c1 : w3.cell? ⟨w.heap.size + 1, 1, none⟩ = some (.string (bs (zabs y))) := by rw [hc _ _ (by simp)]; simp [go_sem]
  go_wp2_with fail
  refine (HK.out (w.heap.size + 1) _ c0 c1 hz1).mono ?_
  rintro e w4 ⟨rfl, hb⟩
  replace HB := HB.trans (hb.mono HB.size)
  clear hb hc hf
  obtain ⟨hc, hf⟩ := bcell HB
  have hz4 : w.heap.size + 2 < w4.heap.size := by have := HB.size; simp at this; omega
  have hB4 := ((((Below.refl w.heap.size w).alloc (Nat.le_refl _) (.cells #[.bool true, .string (bs (zabs x))] 38)).alloc (by simp) (.cells #[.bool (zneg y), .string (bs (zabs y))] 38)).alloc (by simp; omega) (.cells #[.bool false, .string ⟨#[]⟩] 38)).trans (HB.mono (by simp; omega))
  have hz5 : w.heap.size + 1 + 1 < w4.heap.size := hz4
  go_wp2
  exact bodyPost_ret (v := .tuple #[(.agg #[.bool (zneg (x / y)), .string (bs (zabs (x / y)))]), .string (bs (zabs (x % y))), .int .i64 0]) (by simp [results, Tryz.results138, go_sem, hc, hz5]) rfl ⟨rfl, ((hB4.setCell (by simp; omega) _).setCell (by simp; omega) _).alloc (by simp; omega) _⟩

end Go.Proofs.YtmiafkbjmkaebaaGreat

namespace Go.Proofs.YtmiafkbjmkaebaaGreat
open Go.RowKit Num

set_option maxHeartbeats 1000000 in
set_option maxRecDepth 100000 in
theorem ridivmod_pos {x y : Int} (hx : zabs x < Top) (hy : zabs y < Top) (h0 : zabs y ≠ 0) (hp : zneg x = false)  (w : World) : Calls Tryz.prog 66 #[(.agg #[.bool (zneg x), .string (bs (zabs x))]), (.agg #[.bool (zneg y), .string (bs (zabs y))])] w (Made w (.tuple #[(.agg #[.bool (zneg (x / y)), .string (bs (zabs (x / y)))]), .string (bs (zabs (x % y))), .int .i64 0])) := by
  have V1 := Lib.hid (fun W => rivalid_yes hx W)
  have V2 := Lib.hid (fun W => rivalid_yes hy W)
  have HM := Lib.hid (fun W => rdivmod_ok hx hy h0 W)
  have hye : (bs (zabs y)).toList.isEmpty = false := by rw [bs_isEmpty]; simpa using h0
  obtain ⟨hq1, hq2⟩ := dm_plain hp h0 (.inl rfl)
  have HS := Lib.hid (fun W => make_any (false != zneg y) (zabs x / zabs y) W)
  rw [hq1] at HS
  rw [hq2] at HM
  clear hq1 hq2
  rw [show (false != zneg y) = zneg y by cases zneg y <;> rfl] at HS
  rw [hp] at V1 ⊢
  clear hx hy h0 hp
  go_enter Tryz.func66, Tryz.ntmps66
  go_wp2_with fail
  refine (V1.out _).mono ?_
  rintro e w1 ⟨rfl, hb⟩
  have HB := hb
  clear hb
  obtain ⟨hc, hf⟩ := bcell HB
  go_wp2_with fail
  refine (V2.out _).mono ?_
  rintro e w2 ⟨rfl, hb⟩
  replace HB := HB.trans (hb.mono HB.size)
  clear hb hc hf
  obtain ⟨hc, hf⟩ := bcell HB
  go_wp2_with fail
  refine (HM.out _).mono ?_
  rintro e w3 ⟨rfl, hb⟩
  replace HB := HB.trans (hb.mono HB.size)
  clear hb hc hf
  obtain ⟨hc, hf⟩ := bcell HB
  go_wp2_with fail
  refine (HS.out _).mono ?_
  rintro e w4 ⟨rfl, hb⟩
  replace HB := HB.trans (hb.mono HB.size)
  clear hb hc hf
  obtain ⟨hc, hf⟩ := bcell HB
  have hz : w.heap.size + 2 < w4.heap.size := by have := HB.size; simp at this; omega
  have hB := ((((Below.refl w.heap.size w).alloc (Nat.le_refl _) (.cells #[.bool false, .string (bs (zabs x))] 38)).alloc (by simp) (.cells #[.bool (zneg y), .string (bs (zabs y))] 38)).alloc (by simp; omega) (.cells #[.bool false, .string ⟨#[]⟩] 38)).trans (HB.mono (by simp; omega))
  go_wp2
  exact bodyPost_ret (v := .tuple #[(.agg #[.bool (zneg (x / y)), .string (bs (zabs (x / y)))]), .string (bs (zabs (x % y))), .int .i64 0]) (by simp [results, Tryz.results66, go_sem, hc]) rfl ⟨rfl, (hB.setCell (by simp; omega) _).setCell (by simp; omega) _⟩

set_option maxHeartbeats 1000000 in
set_option maxRecDepth 100000 in
theorem ridivmod_zero {x y : Int} (hx : zabs x < Top) (hy : zabs y < Top) (h0 : zabs y ≠ 0) (hp : zneg x = true) (hr : zabs x % zabs y = 0) (w : World) : Calls Tryz.prog 66 #[(.agg #[.bool (zneg x), .string (bs (zabs x))]), (.agg #[.bool (zneg y), .string (bs (zabs y))])] w (Made w (.tuple #[(.agg #[.bool (zneg (x / y)), .string (bs (zabs (x / y)))]), .string (bs (zabs (x % y))), .int .i64 0])) := by
  have V1 := Lib.hid (fun W => rivalid_yes hx W)
  have V2 := Lib.hid (fun W => rivalid_yes hy W)
  have HM := Lib.hid (fun W => rdivmod_ok hx hy h0 W)
  have hye : (bs (zabs y)).toList.isEmpty = false := by rw [bs_isEmpty]; simpa using h0
  obtain ⟨hq1, hq2⟩ := dm_plain hp h0 (.inr hr)
  have HS := Lib.hid (fun W => make_any (true != zneg y) (zabs x / zabs y) W)
  rw [hq1] at HS
  rw [hr] at HM hq2
  have he : (bs 0).toList.isEmpty = true := by rw [bs_isEmpty]; rfl
  rw [← hq2]
  clear hq1 hq2 hr
  rw [show (true != zneg y) = !zneg y by cases zneg y <;> rfl] at HS
  rw [hp] at V1 ⊢
  clear hx hy h0 hp
  go_enter Tryz.func66, Tryz.ntmps66
  go_wp2_with fail
  refine (V1.out _).mono ?_
  rintro e w1 ⟨rfl, hb⟩
  have HB := hb
  clear hb
  obtain ⟨hc, hf⟩ := bcell HB
  go_wp2_with fail
  refine (V2.out _).mono ?_
  rintro e w2 ⟨rfl, hb⟩
  replace HB := HB.trans (hb.mono HB.size)
  clear hb hc hf
  obtain ⟨hc, hf⟩ := bcell HB
  go_wp2_with fail
  refine (HM.out _).mono ?_
  rintro e w3 ⟨rfl, hb⟩
  replace HB := HB.trans (hb.mono HB.size)
  clear hb hc hf
  obtain ⟨hc, hf⟩ := bcell HB
  go_wp2_with fail
  refine (HS.out _).mono ?_
  rintro e w4 ⟨rfl, hb⟩
  replace HB := HB.trans (hb.mono HB.size)
  clear hb hc hf
  obtain ⟨hc, hf⟩ := bcell HB
  have hz : w.heap.size + 2 < w4.heap.size := by have := HB.size; simp at this; omega
  have hB := ((((Below.refl w.heap.size w).alloc (Nat.le_refl _) (.cells #[.bool true, .string (bs (zabs x))] 38)).alloc (by simp) (.cells #[.bool (zneg y), .string (bs (zabs y))] 38)).alloc (by simp; omega) (.cells #[.bool false, .string ⟨#[]⟩] 38)).trans (HB.mono (by simp; omega))
  go_wp2
  exact bodyPost_ret (v := .tuple #[(.agg #[.bool (zneg (x / y)), .string (bs (zabs (x / y)))]), .string (bs 0), .int .i64 0]) (by simp [results, Tryz.results66, go_sem, hc]) rfl ⟨rfl, (hB.setCell (by simp; omega) _).setCell (by simp; omega) _⟩

set_option maxHeartbeats 1000000 in
set_option maxRecDepth 100000 in
theorem ridivmod_next {x y : Int} (hx : zabs x < Top) (hy : zabs y < Top) (h0 : zabs y ≠ 0) (hp : zneg x = true) (hr : zabs x % zabs y ≠ 0) (w : World) : Calls Tryz.prog 66 #[(.agg #[.bool (zneg x), .string (bs (zabs x))]), (.agg #[.bool (zneg y), .string (bs (zabs y))])] w (Made w (.tuple #[(.agg #[.bool (zneg (x / y)), .string (bs (zabs (x / y)))]), .string (bs (zabs (x % y))), .int .i64 0])) := by
  have V1 := Lib.hid (fun W => rivalid_yes hx W)
  have V2 := Lib.hid (fun W => rivalid_yes hy W)
  have HM := Lib.hid (fun W => rdivmod_ok hx hy h0 W)
  have hye : (bs (zabs y)).toList.isEmpty = false := by rw [bs_isEmpty]; simpa using h0
  obtain ⟨hq1, hq2⟩ := dm_next hp h0 hr
  have HS := Lib.hid (fun W => make_any (true != zneg y) (zabs x / zabs y + 1) W)
  have he : (bs (zabs x % zabs y)).toList.isEmpty = false := by rw [bs_isEmpty]; simpa using hr
  have H1 := Lib.hid (fun W => rof_any 1 W (by decide))
  have HA := Lib.hid (fun W => radd_ok (a := zabs x / zabs y) (b := 1) (Nat.lt_of_le_of_lt (Nat.div_le_self _ _) hx) (top_big (by decide)) (quot_next hx hr) W)
  have HD := Lib.hid (fun W => rsub_ok (a := zabs y) (b := zabs x % zabs y) hy (Nat.lt_of_le_of_lt (Nat.mod_le _ _) hx) (Nat.le_of_lt (Nat.mod_lt _ (Nat.pos_of_ne_zero h0))) W)
  rw [hq1] at HS
  rw [hq2] at HD
  clear hq1 hq2 hr
  rw [show (true != zneg y) = !zneg y by cases zneg y <;> rfl] at HS
  rw [hp] at V1 ⊢
  clear hx hy h0 hp
  go_enter Tryz.func66, Tryz.ntmps66
  go_wp2_with fail
  refine (V1.out _).mono ?_
  rintro e w1 ⟨rfl, hb⟩
  have HB := hb
  clear hb
  obtain ⟨hc, hf⟩ := bcell HB
  go_wp2_with fail
  refine (V2.out _).mono ?_
  rintro e w2 ⟨rfl, hb⟩
  replace HB := HB.trans (hb.mono HB.size)
  clear hb hc hf
  obtain ⟨hc, hf⟩ := bcell HB
  go_wp2_with fail
  refine (HM.out _).mono ?_
  rintro e w3 ⟨rfl, hb⟩
  replace HB := HB.trans (hb.mono HB.size)
  clear hb hc hf
  obtain ⟨hc, hf⟩ := bcell HB
  go_wp2_with fail
  refine (H1.out _).mono ?_
  rintro e w4 ⟨rfl, hb⟩
  replace HB := HB.trans (hb.mono HB.size)
  clear hb hc hf
  obtain ⟨hc, hf⟩ := bcell HB
  go_wp2_with fail
  refine (HA.out _).mono ?_
  rintro e w5 ⟨rfl, hb⟩
  replace HB := HB.trans (hb.mono HB.size)
  clear hb hc hf
  obtain ⟨hc, hf⟩ := bcell HB
  go_wp2_with fail
  refine (HD.out _).mono ?_
  rintro e w6 ⟨rfl, hb⟩
  replace HB := HB.trans (hb.mono HB.size)
  clear hb hc hf
  obtain ⟨hc, hf⟩ := bcell HB
  go_wp2_with fail
  refine (HS.out _).mono ?_
  rintro e w7 ⟨rfl, hb⟩
  replace HB := HB.trans (hb.mono HB.size)
  clear hb hc hf
  obtain ⟨hc, hf⟩ := bcell HB
  have hz : w.heap.size + 2 < w7.heap.size := by have := HB.size; simp at this; omega
  have hB := ((((Below.refl w.heap.size w).alloc (Nat.le_refl _) (.cells #[.bool true, .string (bs (zabs x))] 38)).alloc (by simp) (.cells #[.bool (zneg y), .string (bs (zabs y))] 38)).alloc (by simp; omega) (.cells #[.bool false, .string ⟨#[]⟩] 38)).trans (HB.mono (by simp; omega))
  go_wp2
  exact bodyPost_ret (v := .tuple #[(.agg #[.bool (zneg (x / y)), .string (bs (zabs (x / y)))]), .string (bs (zabs (x % y))), .int .i64 0]) (by simp [results, Tryz.results66, go_sem, hc]) rfl ⟨rfl, (hB.setCell (by simp; omega) _).setCell (by simp; omega) _⟩

end Go.Proofs.YtmiafkbjmkaebaaGreat

namespace Go.Proofs.YtmiafkbjmkaebaaGreat
open Go.RowKit Num

set_option maxHeartbeats 400000 in
set_option maxRecDepth 100000 in
theorem idivmod_no1 {p q : Bool} {s t : ByteArray} (h : vI p s = false) (hs : s.size ≤ 9223372036854775807) (w : World) : Calls Tryz.prog 138 #[.agg #[.bool p, .string s], .agg #[.bool q, .string t]] w (Made w (.tuple #[(.agg #[.bool (zneg 0), .string (bs (zabs 0))]), .string (bs 0), .int .i64 3])) := by
  have V1 := Lib.hid (fun W => ivalid_no h W hs)
  rw [iv_zero, bs_zero]
  clear h
  go_enter Tryz.func138, Tryz.ntmps138
  go_wp2_with fail
  refine (V1.out _).mono ?_
  rintro e w1 ⟨rfl, hb⟩
  have HB := hb
  clear hb
  obtain ⟨hc, hf⟩ := bcell HB
  have hz : w.heap.size + 2 < w1.heap.size := by have := HB.size; simp at this; omega
  have hB := ((((Below.refl w.heap.size w).alloc (Nat.le_refl _) (.cells #[.bool p, .string s] 38)).alloc (by simp) (.cells #[.bool q, .string t] 38)).alloc (by simp; omega) (.cells #[.bool false, .string ⟨#[]⟩] 38)).trans (HB.mono (by simp; omega))
  go_wp2
  exact bodyPost_ret (v := .tuple #[.agg #[.bool false, .string ⟨#[]⟩], .string ⟨#[]⟩, .int .i64 3]) (by simp [results, Tryz.results138, go_sem, hc]) rfl ⟨rfl, (hB.setCell (by simp; omega) _).setCell (by simp; omega) _⟩

set_option maxHeartbeats 400000 in
set_option maxRecDepth 100000 in
theorem idivmod_no2 {x : Int} {q : Bool} {t : ByteArray} (hx : zabs x < Top) (h : vI q t = false) (ht : t.size ≤ 9223372036854775807) (w : World) : Calls Tryz.prog 138 #[(.agg #[.bool (zneg x), .string (bs (zabs x))]), .agg #[.bool q, .string t]] w (Made w (.tuple #[(.agg #[.bool (zneg 0), .string (bs (zabs 0))]), .string (bs 0), .int .i64 3])) := by
  have V1 := Lib.hid (fun W => ivalid_yes hx W)
  have V2 := Lib.hid (fun W => ivalid_no h W ht)
  rw [iv_zero, bs_zero]
  clear h hx
  go_enter Tryz.func138, Tryz.ntmps138
  go_wp2_with fail
  refine (V1.out _).mono ?_
  rintro e w1 ⟨rfl, hb⟩
  have HB := hb
  clear hb
  obtain ⟨hc, hf⟩ := bcell HB
  go_wp2_with fail
  refine (V2.out _).mono ?_
  rintro e w2 ⟨rfl, hb⟩
  replace HB := HB.trans (hb.mono HB.size)
  clear hb hc hf
  obtain ⟨hc, hf⟩ := bcell HB
  have hz : w.heap.size + 2 < w2.heap.size := by have := HB.size; simp at this; omega
  have hB := ((((Below.refl w.heap.size w).alloc (Nat.le_refl _) (.cells #[.bool (zneg x), .string (bs (zabs x))] 38)).alloc (by simp) (.cells #[.bool q, .string t] 38)).alloc (by simp; omega) (.cells #[.bool false, .string ⟨#[]⟩] 38)).trans (HB.mono (by simp; omega))
  go_wp2
  exact bodyPost_ret (v := .tuple #[.agg #[.bool false, .string ⟨#[]⟩], .string ⟨#[]⟩, .int .i64 3]) (by simp [results, Tryz.results138, go_sem, hc]) rfl ⟨rfl, (hB.setCell (by simp; omega) _).setCell (by simp; omega) _⟩

set_option maxHeartbeats 400000 in
set_option maxRecDepth 100000 in
theorem ridivmod_no1 {p q : Bool} {s t : ByteArray} (h : vI p s = false) (hs : s.size ≤ 9223372036854775807) (w : World) : Calls Tryz.prog 66 #[.agg #[.bool p, .string s], .agg #[.bool q, .string t]] w (Made w (.tuple #[(.agg #[.bool (zneg 0), .string (bs (zabs 0))]), .string (bs 0), .int .i64 3])) := by
  have V1 := Lib.hid (fun W => rivalid_no h W hs)
  rw [iv_zero, bs_zero]
  clear h
  go_enter Tryz.func66, Tryz.ntmps66
  go_wp2_with fail
  refine (V1.out _).mono ?_
  rintro e w1 ⟨rfl, hb⟩
  have HB := hb
  clear hb
  obtain ⟨hc, hf⟩ := bcell HB
  have hz : w.heap.size + 2 < w1.heap.size := by have := HB.size; simp at this; omega
  have hB := ((((Below.refl w.heap.size w).alloc (Nat.le_refl _) (.cells #[.bool p, .string s] 38)).alloc (by simp) (.cells #[.bool q, .string t] 38)).alloc (by simp; omega) (.cells #[.bool false, .string ⟨#[]⟩] 38)).trans (HB.mono (by simp; omega))
  go_wp2
  exact bodyPost_ret (v := .tuple #[.agg #[.bool false, .string ⟨#[]⟩], .string ⟨#[]⟩, .int .i64 3]) (by simp [results, Tryz.results66, go_sem, hc]) rfl ⟨rfl, (hB.setCell (by simp; omega) _).setCell (by simp; omega) _⟩

set_option maxHeartbeats 400000 in
set_option maxRecDepth 100000 in
theorem ridivmod_no2 {x : Int} {q : Bool} {t : ByteArray} (hx : zabs x < Top) (h : vI q t = false) (ht : t.size ≤ 9223372036854775807) (w : World) : Calls Tryz.prog 66 #[(.agg #[.bool (zneg x), .string (bs (zabs x))]), .agg #[.bool q, .string t]] w (Made w (.tuple #[(.agg #[.bool (zneg 0), .string (bs (zabs 0))]), .string (bs 0), .int .i64 3])) := by
  have V1 := Lib.hid (fun W => rivalid_yes hx W)
  have V2 := Lib.hid (fun W => rivalid_no h W ht)
  rw [iv_zero, bs_zero]
  clear h hx
  go_enter Tryz.func66, Tryz.ntmps66
  go_wp2_with fail
  refine (V1.out _).mono ?_
  rintro e w1 ⟨rfl, hb⟩
  have HB := hb
  clear hb
  obtain ⟨hc, hf⟩ := bcell HB
  go_wp2_with fail
  refine (V2.out _).mono ?_
  rintro e w2 ⟨rfl, hb⟩
  replace HB := HB.trans (hb.mono HB.size)
  clear hb hc hf
  obtain ⟨hc, hf⟩ := bcell HB
  have hz : w.heap.size + 2 < w2.heap.size := by have := HB.size; simp at this; omega
  have hB := ((((Below.refl w.heap.size w).alloc (Nat.le_refl _) (.cells #[.bool (zneg x), .string (bs (zabs x))] 38)).alloc (by simp) (.cells #[.bool q, .string t] 38)).alloc (by simp; omega) (.cells #[.bool false, .string ⟨#[]⟩] 38)).trans (HB.mono (by simp; omega))
  go_wp2
  exact bodyPost_ret (v := .tuple #[.agg #[.bool false, .string ⟨#[]⟩], .string ⟨#[]⟩, .int .i64 3]) (by simp [results, Tryz.results66, go_sem, hc]) rfl ⟨rfl, (hB.setCell (by simp; omega) _).setCell (by simp; omega) _⟩

set_option maxHeartbeats 400000 in
set_option maxRecDepth 100000 in
theorem idivmod_by0 {x : Int} (hx : zabs x < Top) (w : World) : Calls Tryz.prog 138 #[(.agg #[.bool (zneg x), .string (bs (zabs x))]), (.agg #[.bool (zneg 0), .string (bs (zabs 0))])] w (Made w (.tuple #[(.agg #[.bool (zneg 0), .string (bs (zabs 0))]), .string (bs 0), .int .i64 11])) := by
  have V1 := Lib.hid (fun W => ivalid_yes hx W)
  have V2 := Lib.hid (fun W => ivalid_yes (z := 0) (by show 0 < Top; unfold Top; decide) W)
  have HM := Lib.hid (fun W => divmod_zero hx W)
  rw [iv_zero] at V2 ⊢
  rw [bs_zero] at HM ⊢
  clear hx
  go_enter Tryz.func138, Tryz.ntmps138
  go_wp2_with fail
  refine (V1.out _).mono ?_
  rintro e w1 ⟨rfl, hb⟩
  have HB := hb
  clear hb
  obtain ⟨hc, hf⟩ := bcell HB
  go_wp2_with fail
  refine (V2.out _).mono ?_
  rintro e w2 ⟨rfl, hb⟩
  replace HB := HB.trans (hb.mono HB.size)
  clear hb hc hf
  obtain ⟨hc, hf⟩ := bcell HB
  go_wp2_with fail
  refine (HM.out _).mono ?_
  rintro e w' ⟨rfl, rfl⟩
  have hz : w.heap.size + 2 < w2.heap.size := by have := HB.size; simp at this; omega
  have hB := ((((Below.refl w.heap.size w).alloc (Nat.le_refl _) (.cells #[.bool (zneg x), .string (bs (zabs x))] 38)).alloc (by simp) (.cells #[.bool false, .string ⟨#[]⟩] 38)).alloc (by simp; omega) (.cells #[.bool false, .string ⟨#[]⟩] 38)).trans (HB.mono (by simp; omega))
  go_wp2
  exact bodyPost_ret (v := .tuple #[.agg #[.bool false, .string ⟨#[]⟩], .string ⟨#[]⟩, .int .i64 11]) (by simp [results, Tryz.results138, go_sem, hc]) rfl ⟨rfl, (hB.setCell (by simp; omega) _).setCell (by simp; omega) _⟩

set_option maxHeartbeats 400000 in
set_option maxRecDepth 100000 in
theorem ridivmod_by0 {x : Int} (hx : zabs x < Top) (w : World) : Calls Tryz.prog 66 #[(.agg #[.bool (zneg x), .string (bs (zabs x))]), (.agg #[.bool (zneg 0), .string (bs (zabs 0))])] w (Made w (.tuple #[(.agg #[.bool (zneg 0), .string (bs (zabs 0))]), .string (bs 0), .int .i64 11])) := by
  have V1 := Lib.hid (fun W => rivalid_yes hx W)
  have V2 := Lib.hid (fun W => rivalid_yes (z := 0) (by show 0 < Top; unfold Top; decide) W)
  have HM := Lib.hid (fun W => divmod_zero hx W)
  rw [iv_zero] at V2 ⊢
  rw [bs_zero] at HM ⊢
  clear hx
  go_enter Tryz.func66, Tryz.ntmps66
  go_wp2_with fail
  refine (V1.out _).mono ?_
  rintro e w1 ⟨rfl, hb⟩
  have HB := hb
  clear hb
  obtain ⟨hc, hf⟩ := bcell HB
  go_wp2_with fail
  refine (V2.out _).mono ?_
  rintro e w2 ⟨rfl, hb⟩
  replace HB := HB.trans (hb.mono HB.size)
  clear hb hc hf
  obtain ⟨hc, hf⟩ := bcell HB
  have hz : w.heap.size + 2 < w2.heap.size := by have := HB.size; simp at this; omega
  have hB := ((((Below.refl w.heap.size w).alloc (Nat.le_refl _) (.cells #[.bool (zneg x), .string (bs (zabs x))] 38)).alloc (by simp) (.cells #[.bool false, .string ⟨#[]⟩] 38)).alloc (by simp; omega) (.cells #[.bool false, .string ⟨#[]⟩] 38)).trans (HB.mono (by simp; omega))
  go_wp2
  exact bodyPost_ret (v := .tuple #[.agg #[.bool false, .string ⟨#[]⟩], .string ⟨#[]⟩, .int .i64 11]) (by simp [results, Tryz.results66, go_sem, hc]) rfl ⟨rfl, (hB.setCell (by simp; omega) _).setCell (by simp; omega) _⟩

theorem idivmod_ok {x y : Int} (hx : zabs x < Top) (hy : zabs y < Top) (h0 : zabs y ≠ 0) (w : World) : Calls Tryz.prog 138 #[(.agg #[.bool (zneg x), .string (bs (zabs x))]), (.agg #[.bool (zneg y), .string (bs (zabs y))])] w (Made w (.tuple #[(.agg #[.bool (zneg (x / y)), .string (bs (zabs (x / y)))]), .string (bs (zabs (x % y))), .int .i64 0])) := by
  rcases hp : zneg x with _ | _
  · have := idivmod_pos hx hy h0 hp w
    rw [hp] at this; exact this
  · by_cases hr : zabs x % zabs y = 0
    · have := idivmod_zero hx hy h0 hp hr w
      rw [hp] at this; exact this
    · have := idivmod_next hx hy h0 hp hr w
      rw [hp] at this; exact this
theorem ridivmod_ok {x y : Int} (hx : zabs x < Top) (hy : zabs y < Top) (h0 : zabs y ≠ 0) (w : World) : Calls Tryz.prog 66 #[(.agg #[.bool (zneg x), .string (bs (zabs x))]), (.agg #[.bool (zneg y), .string (bs (zabs y))])] w (Made w (.tuple #[(.agg #[.bool (zneg (x / y)), .string (bs (zabs (x / y)))]), .string (bs (zabs (x % y))), .int .i64 0])) := by
  rcases hp : zneg x with _ | _
  · have := ridivmod_pos hx hy h0 hp w
    rw [hp] at this; exact this
  · by_cases hr : zabs x % zabs y = 0
    · have := ridivmod_zero hx hy h0 hp hr w
      rw [hp] at this; exact this
    · have := ridivmod_next hx hy h0 hp hr w
      rw [hp] at this; exact this

end Go.Proofs.YtmiafkbjmkaebaaGreat
