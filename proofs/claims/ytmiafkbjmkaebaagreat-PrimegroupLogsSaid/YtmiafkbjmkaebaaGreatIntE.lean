/-
  The contracts of Add of integer and of the reference: numbers of different signs, and what is no integer. The contracts of Add of integer and of the reference: numbers of different signs, and what is no integer. The contracts of Add, at what is no integer, and of Sub, of integer and of the reference.
-/
import Derived.Test.YtmiafkbjmkaebaaGreatIntA
import Derived.Test.YtmiafkbjmkaebaaGreatRefA
namespace Go.Proofs.YtmiafkbjmkaebaaGreat
open Go.RowKit Num

theorem cmp_ge {a b : Nat} (h : b ≤ a) : 0 ≤ cmpN a b := by unfold cmpN; rw [if_neg (by omega)]; split <;> omega
theorem cmp_lt {a b : Nat} (h : a < b) : cmpN a b = -1 := by unfold cmpN; rw [if_pos h]

set_option maxHeartbeats 400000 in
set_option maxRecDepth 100000 in
theorem iadd_ge {x y : Int} (hx : zabs x < Top) (hy : zabs y < Top) (hn : zneg x ≠ zneg y) (hl : zabs y ≤ zabs x) (w : World) : Calls Tryz.prog 139 #[(.agg #[.bool (zneg x), .string (bs (zabs x))]), (.agg #[.bool (zneg y), .string (bs (zabs y))])] w (Made w (.tuple #[(.agg #[.bool (zneg (x + y)), .string (bs (zabs (x + y)))]), .int .i64 0])) := by
  have V1 := Lib.hid (fun W => ivalid_yes hx W)
  have V2 := Lib.hid (fun W => ivalid_yes hy W)
  have HC := Lib.hid (fun W => cmp_yes hx hy W)
  have HM := Lib.hid (fun W => sub_ok hx hy hl W)
  have HS := Lib.hid (fun W => signed_any (zneg x) (zabs x - zabs y) W)
  rw [add_diff hn hl] at HS
  have hc0 := cmp_ge hl
  obtain ⟨c, hcd⟩ : ∃ c, c = cmpN (zabs x) (zabs y) := ⟨_, rfl⟩
  rw [← hcd] at HC hc0
  obtain ⟨p, hp⟩ : ∃ p, p = zneg x := ⟨_, rfl⟩
  obtain ⟨q, hq⟩ : ∃ q, q = zneg y := ⟨_, rfl⟩
  rw [← hp] at V1 HS hn ⊢
  rw [← hq] at V2 hn ⊢
  clear hx hy hl hp hq hcd
  cases p <;> cases q
  case false.false => exact absurd rfl hn
  case true.true => exact absurd rfl hn
  all_goals
    clear hn
    go_enter Tryz.func139, Tryz.ntmps139
    go_wp2_with fail
    refine (V1.out _).mono ?_
    rintro e w1 ⟨rfl, hb⟩
    have HB := hb
    clear hb
    obtain ⟨hc, hf⟩ := bcell HB
    go_wp2_with fail
    refine (V2.out _).mono ?_
    rintro e w2 ⟨rfl, hb⟩
    replace HB := HB.trans (hb.mono HB.size)
    clear hb hc hf
    obtain ⟨hc, hf⟩ := bcell HB
    go_wp2_with fail
    refine (HC.out _).mono ?_
    rintro e w' ⟨rfl, rfl⟩
    go_wp2_with fail
    refine (HM.out _).mono ?_
    rintro e w4 ⟨rfl, hb⟩
    replace HB := HB.trans (hb.mono HB.size)
    clear hb hc hf
    obtain ⟨hc, hf⟩ := bcell HB
    go_wp2_with fail
    refine (HS.out _).mono ?_
    rintro e w5 ⟨rfl, hb⟩
    replace HB := HB.trans (hb.mono HB.size)
    clear hb hc hf
    obtain ⟨hc, hf⟩ := bcell HB
    have hz : w.heap.size + 2 < w5.heap.size := by have := HB.size; simp at this; omega
    have hB := ((((Below.refl w.heap.size w).alloc (Nat.le_refl _) (.cells #[.bool _, .string (bs (zabs x))] 38)).alloc (by simp) (.cells #[.bool _, .string (bs (zabs y))] 38)).alloc (by simp; omega) (.cells #[.bool false, .string ⟨#[]⟩] 38)).trans (HB.mono (by simp; omega))
    go_wp2
    exact bodyPost_ret (v := .tuple #[(.agg #[.bool (zneg (x + y)), .string (bs (zabs (x + y)))]), .int .i64 0]) (by simp [results, Tryz.results139, go_sem, hc]) rfl ⟨rfl, (hB.setCell (by simp; omega) _).setCell (by simp; omega) _⟩


end Go.Proofs.YtmiafkbjmkaebaaGreat

namespace Go.Proofs.YtmiafkbjmkaebaaGreat
open Go.RowKit Num

theorem swap_facts {w : World} {a b : Nat} (hne : a ≠ b) {u0 u1 u3 : Value} (h0 : w.cell? ⟨a, 0, none⟩ = some u0) (h1 : w.cell? ⟨a, 1, none⟩ = some u1) (h3 : w.cell? ⟨b, 1, none⟩ = some u3) (v0 v1 v2 v3 : Value) :
    ((((w.setCell ⟨a, 0, none⟩ v0).setCell ⟨a, 1, none⟩ v1).setCell ⟨b, 0, none⟩ v2).setCell ⟨b, 1, none⟩ v3).cell? ⟨a, 0, none⟩ = some v0 ∧
    ((((w.setCell ⟨a, 0, none⟩ v0).setCell ⟨a, 1, none⟩ v1).setCell ⟨b, 0, none⟩ v2).setCell ⟨b, 1, none⟩ v3).cell? ⟨a, 1, none⟩ = some v1 ∧
    ((((w.setCell ⟨a, 0, none⟩ v0).setCell ⟨a, 1, none⟩ v1).setCell ⟨b, 0, none⟩ v2).setCell ⟨b, 1, none⟩ v3).cell? ⟨b, 1, none⟩ = some v3 ∧
    ∀ c o, c ≠ a → c ≠ b → ((((w.setCell ⟨a, 0, none⟩ v0).setCell ⟨a, 1, none⟩ v1).setCell ⟨b, 0, none⟩ v2).setCell ⟨b, 1, none⟩ v3).cell? ⟨c, o, none⟩ = w.cell? ⟨c, o, none⟩ := by
  have n1 : (⟨b, 0, none⟩ : Addr) ≠ ⟨a, 0, none⟩ := fun e => hne (by injection e with e; exact e.symm)
  have n2 : (⟨b, 1, none⟩ : Addr) ≠ ⟨a, 0, none⟩ := fun e => hne (by injection e with e; exact e.symm)
  have n3 : (⟨b, 0, none⟩ : Addr) ≠ ⟨a, 1, none⟩ := fun e => hne (by injection e with e; exact e.symm)
  have n4 : (⟨b, 1, none⟩ : Addr) ≠ ⟨a, 1, none⟩ := fun e => hne (by injection e with e; exact e.symm)
  have m1 : (⟨a, 1, none⟩ : Addr) ≠ ⟨a, 0, none⟩ := fun e => by injection e with _ e; cases e
  have m2 : (⟨b, 0, none⟩ : Addr) ≠ ⟨b, 1, none⟩ := fun e => by injection e with _ e; cases e
  have m3 : (⟨a, 0, none⟩ : Addr) ≠ ⟨a, 1, none⟩ := fun e => by injection e with _ e; cases e
  refine ⟨?_, ?_, ?_, fun c o ha hb => ?_⟩
  · rw [World.cell?_setCell_other (h := n2), World.cell?_setCell_other (h := n1), World.cell?_setCell_other (h := m1)]
    exact World.cell?_setCell_same _ _ _ h0
  · rw [World.cell?_setCell_other (h := n4), World.cell?_setCell_other (h := n3)]
    exact World.cell?_setCell_same _ _ _ (by rw [World.cell?_setCell_other (h := m3)]; exact h1)
  · exact World.cell?_setCell_same _ _ _ (by rw [World.cell?_setCell_other (h := m2), World.cell?_setCell_other (h := n4.symm), World.cell?_setCell_other (h := n2.symm)]; exact h3)
  · have e1 : ∀ i, (⟨a, i, none⟩ : Addr) ≠ ⟨c, o, none⟩ := fun i e => ha (by injection e with e; exact e.symm)
    have e2 : ∀ i, (⟨b, i, none⟩ : Addr) ≠ ⟨c, o, none⟩ := fun i e => hb (by injection e with e; exact e.symm)
    rw [World.cell?_setCell_other (h := e2 1), World.cell?_setCell_other (h := e2 0), World.cell?_setCell_other (h := e1 1), World.cell?_setCell_other (h := e1 0)]

set_option maxHeartbeats 400000 in
set_option maxRecDepth 100000 in
theorem iadd_lt {x y : Int} (hx : zabs x < Top) (hy : zabs y < Top) (hn : zneg x ≠ zneg y) (hl : zabs x < zabs y) (w : World) : Calls Tryz.prog 139 #[(.agg #[.bool (zneg x), .string (bs (zabs x))]), (.agg #[.bool (zneg y), .string (bs (zabs y))])] w (Made w (.tuple #[(.agg #[.bool (zneg (x + y)), .string (bs (zabs (x + y)))]), .int .i64 0])) := by
  have V1 := Lib.hid (fun W => ivalid_yes hx W)
  have V2 := Lib.hid (fun W => ivalid_yes hy W)
  have HC := Lib.hid (fun W => cmp_yes hx hy W)
  have HM := Lib.hid (fun W => sub_ok hy hx (Nat.le_of_lt hl) W)
  have HS := Lib.hid (fun W => signed_any (zneg y) (zabs y - zabs x) W)
  rw [add_diff (fun e => hn e.symm) (Nat.le_of_lt hl), Int.add_comm] at HS
  rw [cmp_lt hl] at HC
  obtain ⟨p, hp⟩ : ∃ p, p = zneg x := ⟨_, rfl⟩
  obtain ⟨q, hq⟩ : ∃ q, q = zneg y := ⟨_, rfl⟩
  rw [← hp] at V1 hn ⊢
  rw [← hq] at V2 HS hn ⊢
  clear hx hy hl hp hq
  have hpq : (p == q) = false := by cases p <;> cases q <;> first | rfl | exact absurd rfl hn
  clear hn
  go_enter Tryz.func139, Tryz.ntmps139
  go_wp2_with fail
  refine (V1.out _).mono ?_
  rintro e w1 ⟨rfl, hb⟩
  have HB := hb
  clear hb
  obtain ⟨hc, hf⟩ := bcell HB
  go_wp2_with fail
  refine (V2.out _).mono ?_
  rintro e w2 ⟨rfl, hb⟩
  replace HB := HB.trans (hb.mono HB.size)
  clear hb hc hf
  obtain ⟨hc, hf⟩ := bcell HB
  go_wp2_with fail
  refine (HC.out _).mono ?_
  rintro e w' ⟨rfl, rfl⟩
  have hz : w.heap.size + 2 < w2.heap.size := by have := HB.size; simp at this; omega
  obtain ⟨k0, k1, k3, k4⟩ := swap_facts (w := w2) (a := w.heap.size) (b := w.heap.size + 1) (by omega) (by rw [hc _ _ (by simp; omega)]; simp [go_sem]; rfl) (by rw [hc _ _ (by simp; omega)]; simp [go_sem]; rfl) (by rw [hc _ _ (by simp)]; simp [go_sem]; rfl) (.bool q) (.string (bs (zabs y))) (.bool p) (.string (bs (zabs x)))
  go_wp2_with fail
  have hB2 := (((((Below.refl w.heap.size w).alloc (Nat.le_refl _) (.cells #[.bool _, .string (bs (zabs x))] 38)).alloc (by simp) (.cells #[.bool _, .string (bs (zabs y))] 38)).alloc (by simp; omega) (.cells #[.bool false, .string ⟨#[]⟩] 38))).trans (HB.mono (by simp; omega))
  refine (HM.out _).mono ?_
  rintro e w4 ⟨rfl, hb⟩
  have HF2 := Lib.hid hf
  clear hf
  have HC2 := Lib.hid hc
  clear hc
  have hB4 := ((((hB2.setCell (p := ⟨w.heap.size, 0, none⟩) (Nat.le_refl _) (.bool q)).setCell (p := ⟨w.heap.size, 1, none⟩) (Nat.le_refl _) (.string (bs (zabs y)))).setCell (p := ⟨w.heap.size + 1, 0, none⟩) (Nat.le_succ _) (.bool p)).setCell (p := ⟨w.heap.size + 1, 1, none⟩) (Nat.le_succ _) (.string (bs (zabs x)))).trans (hb.mono (by simp; omega))
  have hz4 : w.heap.size + 2 < w4.heap.size := by have := hb.size; simp at this; omega
  have hz1 : w.heap.size + 1 < w2.heap.size := by omega
  have hz0 : w.heap.size < w2.heap.size := by omega
  obtain ⟨hc, hf⟩ := bcell hb
  go_wp2_with fail
  refine (HS.out _).mono ?_
  rintro e w5 ⟨rfl, hb5⟩
  have hz5 : w.heap.size + 2 < w5.heap.size := Nat.lt_of_lt_of_le hz4 hb5.size
  have hB5 := hB4.trans (hb5.mono hB4.size)
  have HR := HC2.out (w.heap.size + 1 + 1)
  have hfr : ∀ i, w5.frozen? ⟨w.heap.size + 1 + 1, i, none⟩ = false := fun i => by
    rw [(bcell hb5).2 _ _ hz4, hf _ _ (by simpa using hz)]; simp [go_sem, HF2.out]
  have hr0 : w5.cell? ⟨w.heap.size + 1 + 1, 0, none⟩ = some (.bool false) := by
    rw [(bcell hb5).1 _ _ hz4, hc _ _ (by first | (simp; done) | (simp; omega)), k4 _ _ (by omega) (by omega), HR _ (by simp)]; simp [go_sem]
  have hr1 : w5.cell? ⟨w.heap.size + 1 + 1, 1, none⟩ = some (.string ⟨#[]⟩) := by
    rw [(bcell hb5).1 _ _ hz4, hc _ _ (by first | (simp; done) | (simp; omega)), k4 _ _ (by omega) (by omega), HR _ (by simp)]; simp [go_sem]
  clear hc hf HR k0 k1 k3 k4
  go_wp2
  exact bodyPost_ret (v := .tuple #[(.agg #[.bool (zneg (x + y)), .string (bs (zabs (x + y)))]), .int .i64 0]) (by simp [results, Tryz.results139, go_sem, hr0, hr1]) rfl ⟨rfl, (hB5.setCell (by simp; omega) _).setCell (by simp; omega) _⟩

end Go.Proofs.YtmiafkbjmkaebaaGreat

namespace Go.Proofs.YtmiafkbjmkaebaaGreat
open Go.RowKit Num

set_option maxHeartbeats 400000 in
set_option maxRecDepth 100000 in
theorem iadd_no1 {p q : Bool} {s t : ByteArray} (h : vI p s = false) (hs : s.size ≤ 9223372036854775807) (w : World) : Calls Tryz.prog 139 #[.agg #[.bool p, .string s], .agg #[.bool q, .string t]] w (Made w (.tuple #[(.agg #[.bool (zneg 0), .string (bs (zabs 0))]), .int .i64 3])) := by
  have V1 := Lib.hid (fun W => ivalid_no h W hs)
  rw [iv_zero]
  clear h
  go_enter Tryz.func139, Tryz.ntmps139
  go_wp2_with fail
  refine (V1.out _).mono ?_
  rintro e w1 ⟨rfl, hb⟩
  have HB := hb
  clear hb
  obtain ⟨hc, hf⟩ := bcell HB
  have hz : w.heap.size + 2 < w1.heap.size := by have := HB.size; simp at this; omega
  have hB := ((((Below.refl w.heap.size w).alloc (Nat.le_refl _) (.cells #[.bool p, .string s] 38)).alloc (by simp) (.cells #[.bool q, .string t] 38)).alloc (by simp; omega) (.cells #[.bool false, .string ⟨#[]⟩] 38)).trans (HB.mono (by simp; omega))
  go_wp2
  exact bodyPost_ret (v := .tuple #[.agg #[.bool false, .string ⟨#[]⟩], .int .i64 3]) (by simp [results, Tryz.results139, go_sem, hc]) rfl ⟨rfl, (hB.setCell (by simp; omega) _).setCell (by simp; omega) _⟩

set_option maxHeartbeats 400000 in
set_option maxRecDepth 100000 in
theorem iadd_no2 {x : Int} {q : Bool} {t : ByteArray} (hx : zabs x < Top) (h : vI q t = false) (ht : t.size ≤ 9223372036854775807) (w : World) : Calls Tryz.prog 139 #[(.agg #[.bool (zneg x), .string (bs (zabs x))]), .agg #[.bool q, .string t]] w (Made w (.tuple #[(.agg #[.bool (zneg 0), .string (bs (zabs 0))]), .int .i64 3])) := by
  have V1 := Lib.hid (fun W => ivalid_yes hx W)
  have V2 := Lib.hid (fun W => ivalid_no h W ht)
  rw [iv_zero]
  clear h hx
  go_enter Tryz.func139, Tryz.ntmps139
  go_wp2_with fail
  refine (V1.out _).mono ?_
  rintro e w1 ⟨rfl, hb⟩
  have HB := hb
  clear hb
  obtain ⟨hc, hf⟩ := bcell HB
  go_wp2_with fail
  refine (V2.out _).mono ?_
  rintro e w2 ⟨rfl, hb⟩
  replace HB := HB.trans (hb.mono HB.size)
  clear hb hc hf
  obtain ⟨hc, hf⟩ := bcell HB
  have hz : w.heap.size + 2 < w2.heap.size := by have := HB.size; simp at this; omega
  have hB := ((((Below.refl w.heap.size w).alloc (Nat.le_refl _) (.cells #[.bool (zneg x), .string (bs (zabs x))] 38)).alloc (by simp) (.cells #[.bool q, .string t] 38)).alloc (by simp; omega) (.cells #[.bool false, .string ⟨#[]⟩] 38)).trans (HB.mono (by simp; omega))
  go_wp2
  exact bodyPost_ret (v := .tuple #[.agg #[.bool false, .string ⟨#[]⟩], .int .i64 3]) (by simp [results, Tryz.results139, go_sem, hc]) rfl ⟨rfl, (hB.setCell (by simp; omega) _).setCell (by simp; omega) _⟩

set_option maxHeartbeats 400000 in
set_option maxRecDepth 100000 in
theorem isub_no1 {p q : Bool} {s t : ByteArray} (h : vI p s = false) (hs : s.size ≤ 9223372036854775807) (w : World) : Calls Tryz.prog 137 #[.agg #[.bool p, .string s], .agg #[.bool q, .string t]] w (Made w (.tuple #[(.agg #[.bool (zneg 0), .string (bs (zabs 0))]), .int .i64 3])) := by
  have V1 := Lib.hid (fun W => ivalid_no h W hs)
  rw [iv_zero]
  clear h
  go_enter Tryz.func137, Tryz.ntmps137
  go_wp2_with fail
  refine (V1.out _).mono ?_
  rintro e w1 ⟨rfl, hb⟩
  have HB := hb
  clear hb
  obtain ⟨hc, hf⟩ := bcell HB
  have hz : w.heap.size + 2 < w1.heap.size := by have := HB.size; simp at this; omega
  have hB := ((((Below.refl w.heap.size w).alloc (Nat.le_refl _) (.cells #[.bool p, .string s] 38)).alloc (by simp) (.cells #[.bool q, .string t] 38)).alloc (by simp; omega) (.cells #[.bool false, .string ⟨#[]⟩] 38)).trans (HB.mono (by simp; omega))
  go_wp2
  exact bodyPost_ret (v := .tuple #[.agg #[.bool false, .string ⟨#[]⟩], .int .i64 3]) (by simp [results, Tryz.results137, go_sem, hc]) rfl ⟨rfl, (hB.setCell (by simp; omega) _).setCell (by simp; omega) _⟩

set_option maxHeartbeats 400000 in
set_option maxRecDepth 100000 in
theorem isub_no2 {x : Int} {q : Bool} {t : ByteArray} (hx : zabs x < Top) (h : vI q t = false) (ht : t.size ≤ 9223372036854775807) (w : World) : Calls Tryz.prog 137 #[(.agg #[.bool (zneg x), .string (bs (zabs x))]), .agg #[.bool q, .string t]] w (Made w (.tuple #[(.agg #[.bool (zneg 0), .string (bs (zabs 0))]), .int .i64 3])) := by
  have V1 := Lib.hid (fun W => ivalid_yes hx W)
  have V2 := Lib.hid (fun W => ivalid_no h W ht)
  rw [iv_zero]
  clear h hx
  go_enter Tryz.func137, Tryz.ntmps137
  go_wp2_with fail
  refine (V1.out _).mono ?_
  rintro e w1 ⟨rfl, hb⟩
  have HB := hb
  clear hb
  obtain ⟨hc, hf⟩ := bcell HB
  go_wp2_with fail
  refine (V2.out _).mono ?_
  rintro e w2 ⟨rfl, hb⟩
  replace HB := HB.trans (hb.mono HB.size)
  clear hb hc hf
  obtain ⟨hc, hf⟩ := bcell HB
  have hz : w.heap.size + 2 < w2.heap.size := by have := HB.size; simp at this; omega
  have hB := ((((Below.refl w.heap.size w).alloc (Nat.le_refl _) (.cells #[.bool (zneg x), .string (bs (zabs x))] 38)).alloc (by simp) (.cells #[.bool q, .string t] 38)).alloc (by simp; omega) (.cells #[.bool false, .string ⟨#[]⟩] 38)).trans (HB.mono (by simp; omega))
  go_wp2
  exact bodyPost_ret (v := .tuple #[.agg #[.bool false, .string ⟨#[]⟩], .int .i64 3]) (by simp [results, Tryz.results137, go_sem, hc]) rfl ⟨rfl, (hB.setCell (by simp; omega) _).setCell (by simp; omega) _⟩

/-- Add at two integers, of any size. -/
def addRes (z : Int) : Int × Int := if zabs z < Top then (z, 0) else (0, 5)
theorem iadd_any {x y : Int} (hx : zabs x < Top) (hy : zabs y < Top) (w : World) : Calls Tryz.prog 139 #[(.agg #[.bool (zneg x), .string (bs (zabs x))]), (.agg #[.bool (zneg y), .string (bs (zabs y))])] w (Made w (.tuple #[(.agg #[.bool (zneg ((addRes (x + y)).1)), .string (bs (zabs ((addRes (x + y)).1)))]), .int .i64 (addRes (x + y)).2])) := by
  unfold addRes
  by_cases hn : zneg x = zneg y
  · by_cases hv : zabs (x + y) < Top
    · rw [if_pos hv]; exact iadd_same_ok hx hy hn hv w
    · rw [if_neg hv]; exact iadd_same_long hx hy hn (by omega) w
  · have hv : zabs (x + y) < Top := Nat.lt_of_le_of_lt (diff_abs hn) (by omega)
    rw [if_pos hv]
    rcases Nat.lt_or_ge (zabs x) (zabs y) with h | h
    · exact iadd_lt hx hy hn h w
    · exact iadd_ge hx hy hn h w
end Go.Proofs.YtmiafkbjmkaebaaGreat
