/-
  The contract of the reference's compress.
-/
import Derived.Test.YtgchfponmaangaaShaP
namespace Go.Proofs.Ytgchfponmaangaa
open Go.RowKit
theorem getD_set8 (l : List Int) (i j : Nat) (x : Int) (hi : i < l.length) : (l.set i x).getD j 0 = if i = j then x else l.getD j 0 := by
  simp only [List.getD_eq_getElem?_getD, List.getElem?_set]
  by_cases h : i = j
  · subst h; simp [hi]
  · simp [h]
/-- The first eight cells of block g are the words l. -/
def Rd8 (w : World) (g : Nat) (l : List Int) : Prop := (∀ j, j < 8 → w.cell? ⟨g, j, none⟩ = some (.int .u32 (l.getD j 0))) ∧ (∀ j, w.frozen? ⟨g, j, none⟩ = false) ∧ g < w.heap.size
section
variable {w w' : World} {g : Nat} {l : List Int}
theorem Rd8.below {B : Nat} (h : Rd8 w g l) (hb : Below B w w') (hg : g < B) : Rd8 w' g l :=
  ⟨fun j hj => ((hb.cell (p := ⟨g, j, none⟩) hg).trans (h.1 j hj)), fun j => ((hb.frozen (p := ⟨g, j, none⟩) hg).trans (h.2.1 j)), Nat.lt_of_lt_of_le h.2.2 hb.size⟩
theorem Rd8.kept (h : Rd8 w g l) (hb : Below w.heap.size w w') : Rd8 w' g l := h.below hb h.2.2
theorem Rd8.drewN (h : Rd8 w g l) (n : Nat) : Rd8 (w.drewN n) g l := h
theorem Rd8.drew (h : Rd8 w g l) : Rd8 w.drew g l := h
theorem Rd8.alloc (h : Rd8 w g l) (o : Obj) : Rd8 (w.alloc o) g l := h.kept ((Below.refl _ _).alloc (Nat.le_refl _) o)
theorem Rd8.set (h : Rd8 w g l) (k : Nat) (hk : k < 8) (hl : l.length = 8) (x : Int) : Rd8 (w.setCell ⟨g, k, none⟩ (.int .u32 x)) g (l.set k x) := by
  refine ⟨fun j hj => ?_, fun j => ?_, by simpa using h.2.2⟩
  · rw [getD_set8 _ _ _ _ (by omega)]
    by_cases e : k = j
    · subst e
      rw [if_pos rfl]; exact World.cell?_setCell_same _ _ _ (h.1 k hk)
    · rw [if_neg e, World.cell?_setCell_other (h := fun q => e (by injection q))]
      exact h.1 j hj
  · rw [World.frozen?_setCell]; exact h.2.1 j
theorem Rd8.far (h : Rd8 w g l) {p : Addr} (hp : g ≠ p.block) (u : Value) : Rd8 (w.setCell p u) g l := by
  refine ⟨fun j hj => ?_, fun j => ?_, by simpa using h.2.2⟩
  · rw [World.cell?_of_block (Below.heap_setCell w p u g hp)]; exact h.1 j hj
  · rw [World.frozen?_setCell]; exact h.2.1 j
theorem Rd8.new (w : World) (a b c d e f g h : Int) (t : TypeId) : Rd8 (w.alloc (.cells #[.int .u32 a, .int .u32 b, .int .u32 c, .int .u32 d, .int .u32 e, .int .u32 f, .int .u32 g, .int .u32 h] t)) w.heap.size [a, b, c, d, e, f, g, h] := by
  have hh := heap_alloc_new w (.cells #[.int .u32 a, .int .u32 b, .int .u32 c, .int .u32 d, .int .u32 e, .int .u32 f, .int .u32 g, .int .u32 h] t)
  refine ⟨fun j hj => ?_, fun j => ?_, by simp⟩
  · rw [cell_of_row _ _ _ _ _ (0, 0) hh]
    have hc : j = 0 ∨ j = 1 ∨ j = 2 ∨ j = 3 ∨ j = 4 ∨ j = 5 ∨ j = 6 ∨ j = 7 := by omega
    rcases hc with rfl | rfl | rfl | rfl | rfl | rfl | rfl | rfl <;> rfl
  · exact frozen_of_row _ _ _ _ _ hh
end
theorem Rd8.new' (w : World) (a b c d e f g h : Int) (t : TypeId) (x y : Int) (ha : x = a) (he : y = e) : Rd8 (w.alloc (.cells #[.int .u32 x, .int .u32 b, .int .u32 c, .int .u32 d, .int .u32 y, .int .u32 f, .int .u32 g, .int .u32 h] t)) w.heap.size [a, b, c, d, e, f, g, h] := by
  subst ha he
  exact Rd8.new w _ _ _ _ _ _ _ _ t
theorem mod_both (T U : Int) : (T + U) % 4294967296 = (T % 4294967296 + U % 4294967296) % 4294967296 := by omega
theorem mod_right (T U : Int) : (T + U) % 4294967296 = (T + U % 4294967296) % 4294967296 := by omega
theorem Rd8.of_own {w : World} {base g n c : Nat} {l : List Int} (h : w.ownsRow base 30 1 (.slice (some ⟨g, 0, none⟩) n c) n (cellsI l)) (hl : l.length = 8) : Rd8 w g l ∧ base ≤ g := by
  refine ⟨⟨fun j hj => ?_, fun j => ?_, (h.lt g rfl).2⟩, (h.lt g rfl).1⟩
  · have := h.cells (g := g) rfl j _ (cellsI_get l j (by omega))
    rwa [show Addr.add ⟨g, 0, none⟩ j = ⟨g, j, none⟩ from by unfold Addr.add; split <;> simp_all] at this
  · rcases h.2 with ⟨h', _⟩ | ⟨g', cap, cur, hv, _, hh, _⟩
    · cases h'
    · injection hv with h1
      injection h1 with h1
      injection h1 with h1
      subst h1
      exact frozen_of_row _ _ _ _ _ hh
set_option maxRecDepth 100000 in
set_option maxHeartbeats 3200000 in
theorem compress_ok {l : List Int} (hl : l.length = 8) (gs cs : Nat) (s : ByteArray) (hs : 64 ≤ s.size) (w : World) (hS : Rd8 w gs l) :
    Calls Try.prog 22 #[.slice (some ⟨gs, 0, none⟩) 8 cs, .string s] w fun e w' => ∃ g c, e = .returned (.slice (some ⟨g, 0, none⟩) 8 c) ∧ 8 ≤ c ∧ Rd8 w' g (blk l s.data.toList) ∧ w.heap.size ≤ g ∧ Below w.heap.size w w' := by
  obtain ⟨i0, hi0, hz0, hz1, hz2⟩ := info_parts info_u32
  have HL := Lib.hid hl
  have HS := Lib.hid hS
  have hlt := hS.2.2
  clear hl hS
  go_enter Try.func22, Try.ntmps22
  go_wp2_with fail
  refine (rsched_ok s hs _).mono ?_
  rintro e w1 ⟨g1, rfl, hW, hg1, hb1⟩
  go_wp2_with fail
  refine (rconst_ok _).mono ?_
  rintro e w2 ⟨g2, rfl, hK, hg2, hb2⟩
  have HW := Lib.hid (hW.kept hb2)
  have HK := Lib.hid hK
  have HB := hb1.trans (hb2.mono hb1.size)
  have HS2 := Lib.hid (HS.out.below HB hlt)
  have hz1w := hW.lt
  have hz2w := hK.lt
  have hsz := HB.size
  clear hW hK hb1 hb2
  have HO : (w2.alloc (.cells #[] 30)).ownsRow w.heap.size 30 1 (.slice (some ⟨w2.heap.size, 0, none⟩) 0 0) 0 [] :=
    ⟨rfl, .inr ⟨w2.heap.size, 0, #[], rfl, hsz, heap_alloc_new _ _, Nat.le_refl _, by unfold maxLen; omega, rfl, rfl⟩⟩
  have HN : ∀ (j : Nat) (u : Value), (cellsI l)[j]? = some u → (w2.alloc (.cells #[] 30)).cell? (Addr.add ⟨gs, 0, none⟩ j) = some u := by
    intro j u hj
    have hj8 : j < l.length := by
      rcases Nat.lt_or_ge j l.length with h | h
      · exact h
      · rw [List.getElem?_eq_none (by rw [cellsI_length]; exact h)] at hj; cases hj
    rw [cellsI_get l j hj8] at hj
    rw [show Addr.add ⟨gs, 0, none⟩ j = ⟨gs, j, none⟩ from by unfold Addr.add; split <;> simp_all, (HS2.out.alloc _).1 j (by have := HL.out; omega)]
    exact hj
  have HN := Lib.hid HN
  have HOn := Lib.hid (show ∀ u ∈ cellsI l, u.oneCell' = true from by
    intro u hu
    simp only [cellsI, List.mem_map] at hu
    obtain ⟨b, _, rfl⟩ := hu
    rfl)
  have HLc := Lib.hid (show (cellsI l).length = 8 * 1 from by rw [cellsI_length, HL.out])
  go_wp2_with (at_builtin; go_loud (refine wpList_append_own _ rfl _ _ 37 rfl w.heap.size 30 i0 (.int .u32 0) 1 4 Try.underlying37 hi0 hz0 hz1 hz2 rfl (by decide) _ _ _ rfl HO ⟨gs, 0, none⟩ 8 cs (cellsI l) rfl HLc.out HN.out HOn.out (by unfold maxLen; omega) (by omega) (by simp; omega) ?_); intro v3 w3 hown3 hgrow3 _)
  have hB3 : Below w2.heap.size w2 w3 := ((Below.refl w2.heap.size w2).alloc (Nat.le_refl _) _).grown hgrow3 (by simp) (fun g hg => by injection hg with hg; subst hg; exact Nat.le_refl _)
  simp only [Nat.zero_add, List.nil_append] at hown3
  obtain ⟨A3, c3, rfl⟩ := owns_form hown3
  have h3 : ∃ g3, A3 = some ⟨g3, 0, none⟩ ∧ 8 ≤ c3 := by
    rcases hown3.2 with ⟨h', h8⟩ | ⟨g', cap, cur, hv, _, _, hc, _⟩
    · cases h8
    · injection hv with h1 h2 h3
      exact ⟨g', h1, by omega⟩
  obtain ⟨g3, rfl, hc3⟩ := h3
  obtain ⟨hV, hg3⟩ := Rd8.of_own hown3 HL.out
  have HW3 := Lib.hid (HW.out.below hB3 (by omega))
  have HK3 := Lib.hid (HK.out.below hB3 (by omega))
  have HS3 := Lib.hid (HS2.out.below hB3 (by omega))
  have HV := Lib.hid hV
  have HB3 := HB.trans (hB3.mono hsz)
  clear hown3 hgrow3 hB3 HW HK HS2 HO HN HOn HLc HB hV
  obtain ⟨W, hW⟩ : ∃ W, W = sched s.data.toList := ⟨_, rfl⟩
  rw [← hW] at HW3
  have HWe := Lib.hid hW
  have HWl := Lib.hid (show W.length = 64 from by rw [hW, sched_length])
  clear hW
  go_loopw [7, 8] (fun v7 v8 wr => ∃ (i gv cv : Nat) (S : St), i ≤ 64 ∧ v8 = .int .i64 i ∧ v7 = .slice (some ⟨gv, 0, none⟩) 8 cv ∧ 8 ≤ cv ∧ w.heap.size ≤ gv ∧ Hid (S = rd (St.of l) kk W i) ∧ Rd8 wr gv S.l ∧ Ia wr g1 W 30 ∧ Ia wr g2 kk 30 ∧ Rd8 wr gs l ∧ Below w.heap.size w wr) (fun _ i _ => 64 - (intOf i).toNat)
  case atStart => exact ⟨0, g3, c3, St.of l, by omega, rfl, rfl, hc3, hg3, Lib.hid rfl, by rw [St.l_of HL.out]; exact HV.out, HW3.out, HK3.out, HS3.out, HB3⟩
  case round =>
    clear HW3 HK3 HS3 HV HB3 hg3 hc3
    obtain ⟨i, gv, cv, ⟨a, b, c, d, e, f, g, h⟩, hi, rfl, rfl, hcv, hgv, HS', hV, hW, hK, hS, hB⟩ := hrel
    by_cases hlt64 : i < 64
    · have x0 : wr.cell? ⟨gv, 0, none⟩ = some (.int .u32 a) := hV.1 0 (by omega)
      have x1 : wr.cell? ⟨gv, 1, none⟩ = some (.int .u32 b) := hV.1 1 (by omega)
      have x2 : wr.cell? ⟨gv, 2, none⟩ = some (.int .u32 c) := hV.1 2 (by omega)
      have x3 : wr.cell? ⟨gv, 3, none⟩ = some (.int .u32 d) := hV.1 3 (by omega)
      have x4 : wr.cell? ⟨gv, 4, none⟩ = some (.int .u32 e) := hV.1 4 (by omega)
      have x5 : wr.cell? ⟨gv, 5, none⟩ = some (.int .u32 f) := hV.1 5 (by omega)
      have x6 : wr.cell? ⟨gv, 6, none⟩ = some (.int .u32 g) := hV.1 6 (by omega)
      have x7 : wr.cell? ⟨gv, 7, none⟩ = some (.int .u32 h) := hV.1 7 (by omega)
      have hcw := hW.cell i (by rw [HWl.out]; exact hlt64)
      have hck := hK.cell i (show i < kk.length from hlt64)
      have HW := Lib.hid hW
      have HK := Lib.hid hK
      have HS := Lib.hid hS
      clear hV hW hK hS
      go_wp2_with fail
      go_quiet (fail)
      go_wp2_with fail
      go_quiet ((go_at_call 30; exact met_drawn (right_ok _ _ _ (by omega) (by omega))))
      go_wp2_with (go_at_call 30; (with_reducible refine (right_ok _ _ _ (by omega) (by omega)).mono ?_); rintro e w' ⟨rfl, k, rfl⟩)
      go_roundw
      case rel =>
        refine ⟨i + 1, _, 8, rnd ⟨a, b, c, d, e, f, g, h⟩ (kk.getD i 0) (W.getD i 0), by omega, by go_num, rfl, Nat.le_refl _, ?_, Lib.hid ?_, ?_, ?_, ?_, ?_, ?_⟩
        · have := hB.size; simpa using this
        · rw [HS'.out]; rfl
        · simp only [List.getD_eq_getElem?_getD]
          exact Rd8.new' _ _ _ _ _ _ _ _ _ _ _ _ (mod_both _ _) (mod_right _ _)
        · exact Ia.alloc (Ia.drewN HW.out _) _
        · exact Ia.alloc (Ia.drewN HK.out _) _
        · exact Rd8.alloc (Rd8.drewN HS.out _) _
        · exact (below_draws hB _).alloc hB.size _
      case measure => simp [intOf]; omega
    · obtain rfl : i = 64 := by omega
      have HV := Lib.hid hV
      have HW := Lib.hid hW
      have HK := Lib.hid hK
      have HS := Lib.hid hS
      clear hV hW hK hS HW HK
      generalize hM : St.l ⟨a, b, c, d, e, f, g, h⟩ = M at HV
      have HMe := Lib.hid (show M = (rd (St.of l) kk (sched s.data.toList) 64).l from by rw [← hM, HS'.out, HWe.out])
      have HML := Lib.hid (show M.length = 8 from by rw [← hM]; rfl)
      clear hM HS'
      rw [show ((64 : Nat) : Int) = 64 from rfl]
      go_wp2_with fail
      go_loopw [17] (fun v17 wi => ∃ i : Nat, i ≤ 8 ∧ v17 = .int .i64 i ∧ Rd8 wi gv (addn M l i) ∧ Rd8 wi gs l ∧ Below w.heap.size w wi) (fun i _ => 8 - (intOf i).toNat)
      case atStart => exact ⟨0, by omega, rfl, HV.out, HS.out, hB⟩
      case round =>
        clear HV HS hB
        obtain ⟨i, hi, rfl, hV, hS, hB⟩ := hrel
        by_cases hli : i < 8
        · have c1 := hV.1 i hli
          have c2 := hS.1 i hli
          have hf := hV.2.1 i
          have HV := Lib.hid hV
          have HS := Lib.hid hS
          clear hV hS
          go_wp2_with fail
          go_still_tail 10, (by kernel_rfl)
          change wpList _ _ _ _ _ wr.drew
          go_wp2
          go_roundw
          case rel =>
            refine ⟨i + 1, by omega, by go_num, ?_, (HS.out.far (by simp; omega) _).drew, (hB.setCell hgv _).drew⟩
            rw [show addn M l (i + 1) = (addn M l i).set i (((addn M l i).getD i 0 + l.getD i 0) % 4294967296) from rfl]
            simp only [List.getD_eq_getElem?_getD]
            exact (HV.out.set i hli (by rw [addn_length, HML.out]) _).drew
          case measure => simp [intOf]; omega
        · obtain rfl : i = 8 := by omega
          have HV := Lib.hid hV
          clear hV hS
          rw [show ((8 : Nat) : Int) = 8 from rfl]
          go_wp2
          go_ret
          exact ⟨gv, cv, rfl, hcv, by unfold blk; rw [← HMe.out]; exact HV.out, hgv, hB⟩
end Go.Proofs.Ytgchfponmaangaa
