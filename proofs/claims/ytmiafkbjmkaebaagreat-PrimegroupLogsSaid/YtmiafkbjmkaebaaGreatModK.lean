/-
  The contract of the method words of modular.modulus.
-/
import Derived.Test.YtmiafkbjmkaebaaGreatModJ
namespace Go.Proofs.YtmiafkbjmkaebaaGreat
open Go.RowKit Num

theorem Wg.owns {w : World} {g base : Nat} {X : List Nat} (h : Wg w g X) (hb : base ≤ g) (hm : X.length ≤ 1000) : w.ownsRow base 61 1 (.slice (some ⟨g, 0, none⟩) X.length X.length) X.length (cellsW X) :=
  ⟨by rw [cellsW_length, Nat.mul_one], .inr ⟨g, X.length, (cellsW X).toArray, rfl, hb, h, Nat.le_refl _, by unfold maxLen; omega, by simp [cellsW_length], by simp [← cellsW_length]⟩⟩
theorem owns_wv {w : World} {base n : Nat} {v : Value} {X : List Nat} (h : w.ownsRow base 61 1 v n (cellsW X)) (hn : 0 < n) :
    ∃ g c S, v = .slice (some ⟨g, 0, none⟩) n c ∧ base ≤ g ∧ n ≤ c ∧ X.length = n ∧ Wv w g [] X S := by
  have hl := h.1
  rw [cellsW_length, Nat.mul_one] at hl
  rcases h.2 with ⟨_, h0⟩ | ⟨g, cap, cur, hv, hb, hh, hle, _, hc, ht⟩
  · omega
  · refine ⟨g, cap, cur.toList.drop n, hv, hb, hle, hl, ?_⟩
    unfold Wv
    rw [hh, List.nil_append]
    rw [Nat.mul_one] at ht
    rw [← ht, List.take_append_drop]

theorem app_stepW {ops : Array Oper} {o : Oper} {a : Act} {w : World} {K : Act → World → Prop} {Q : Exit → Act → World → Prop} {E : Prop} (hgd : o.guard = none) (s x : Operand)
    (ho : o.op = .call { callee := .builtin .append, args := #[s, x], argTypes := #[79, 79] }) (B g k gx : Nat) (X : List Nat) (hs : a.eval s = .slice (some ⟨g, 0, none⟩) k k) (hX : Wg w g X) (hk : X.length = k) (hkm : k ≤ 900)
    (hB : B ≤ g) (hBw : B ≤ w.heap.size) (hx : a.eval x = .slice (some ⟨gx, 0, none⟩) 1 1) (hc : w.cell? ⟨gx, 0, none⟩ = some (.int .u64 0))
    (h : ∀ g' c S w', Wv w' g' [] (X ++ [0]) S → k + 1 ≤ c → B ≤ g' → w.grownBy w' (some g) → K (a.put o.dst (.slice (some ⟨g', 0, none⟩) (k + 1) c)) w') :
    if Region.wanted o (yielded ops a.tmps) = true then Oper.wp Tryz.prog o a w K Q else E := by
  have hw : Region.wanted o (yielded ops a.tmps) = true := by simp [Region.wanted, hgd]
  rw [if_pos hw]
  obtain ⟨i0, hi, hz0, hz1, hz2⟩ := info_parts info_u64
  subst hk
  refine wp_append_own _ s x 79 ho B 61 i0 (.int .u64 0) 1 8 Tryz.underlying79 hi hz0 hz1 hz2 rfl (by decide) _ X.length (cellsW X) hs (hX.owns hB (by omega)) ⟨gx, 0, none⟩ 1 1 [.int .u64 0] hx rfl (fun j u hj => ?_) (fun u hu => ?_) (by unfold maxLen; omega) (by omega) hBw ?_
  · match j, hj with
    | 0, hj => simp at hj; subst hj; exact hc
  · simp at hu; subst hu; rfl
  · intro v' w' ho' hg _
    rw [show cellsW X ++ [Value.int .u64 0] = cellsW (X ++ [0]) from by simp [cellsW]] at ho'
    obtain ⟨g', c, S, rfl, h1, h2, _, h4⟩ := owns_wv ho' (by omega)
    exact h g' c S w' h4 h2 h1 hg

theorem cell_one_at (V : World) (k : Nat) (hk : V.heap.size = k) : (V.alloc (.cells #[.int .u64 0] 61)).cell? ⟨k, 0, none⟩ = some (.int .u64 0) := by
  subst hk
  rw [World.cell?_alloc_mark]
  rfl
theorem sw_alloc {w w' : World} {B ga n s : Nat} {Y : List Nat} (o : Obj) (h : (w').cell? ⟨B, 0, none⟩ = some (.slice (some ⟨ga, 0, none⟩) n n) ∧ (w').cell? ⟨B, 1, none⟩ = some (.int .i64 (s : Int)) ∧ Hid (Below B w (w') ∧ Bk (w') B #[.slice (some ⟨ga, 0, none⟩) n n, .int .i64 (s : Int)] 81 ∧ IsW (w') (some ⟨ga, 0, none⟩) Y)) : (w'.alloc o).cell? ⟨B, 0, none⟩ = some (.slice (some ⟨ga, 0, none⟩) n n) ∧ (w'.alloc o).cell? ⟨B, 1, none⟩ = some (.int .i64 (s : Int)) ∧ Hid (Below B w (w'.alloc o) ∧ Bk (w'.alloc o) B #[.slice (some ⟨ga, 0, none⟩) n n, .int .i64 (s : Int)] 81 ∧ IsW (w'.alloc o) (some ⟨ga, 0, none⟩) Y) := by
  obtain ⟨_, _, hk⟩ := h
  obtain ⟨h1, h2, h3⟩ := hk.out
  exact ⟨(h2.alloc o).cell 0, (h2.alloc o).cell 1, Lib.hid ⟨h1.alloc (Nat.le_of_lt h2.lt) o, h2.alloc o, h3.below ((Below.refl _ _).alloc (Nat.le_refl _) _)⟩⟩
theorem sw_grown {w w' w'' : World} {B ga n s g : Nat} {Y : List Nat} (h : (w').cell? ⟨B, 0, none⟩ = some (.slice (some ⟨ga, 0, none⟩) n n) ∧ (w').cell? ⟨B, 1, none⟩ = some (.int .i64 (s : Int)) ∧ Hid (Below B w (w') ∧ Bk (w') B #[.slice (some ⟨ga, 0, none⟩) n n, .int .i64 (s : Int)] 81 ∧ IsW (w') (some ⟨ga, 0, none⟩) Y)) (hg : w'.grownBy w'' (some g)) (hB : B < g ∨ B ≤ g ∧ w'.heap.size ≤ g ∨ B < g) (hga : ga ≠ g) : (w'').cell? ⟨B, 0, none⟩ = some (.slice (some ⟨ga, 0, none⟩) n n) ∧ (w'').cell? ⟨B, 1, none⟩ = some (.int .i64 (s : Int)) ∧ Hid (Below B w (w'') ∧ Bk (w'') B #[.slice (some ⟨ga, 0, none⟩) n n, .int .i64 (s : Int)] 81 ∧ IsW (w'') (some ⟨ga, 0, none⟩) Y) := by
  obtain ⟨_, _, hk⟩ := h
  obtain ⟨h1, h2, h3⟩ := hk.out
  have hl := h2.lt
  have hne : B ≠ g := by omega
  have k2 := h2.kept hg (fun e => hne (by injection e))
  exact ⟨k2.cell 0, k2.cell 1, Lib.hid ⟨h1.grown hg (Nat.le_of_lt hl) (fun k hk => by injection hk with hk; omega), k2, h3.grown hg (fun a e => by cases e; exact hga)⟩⟩

/-- A number as n words in a slice of the call's own, or of a new one. -/
def MadeN (w : World) (n v : Nat) (e : Ending) (w' : World) : Prop :=
  ∃ (g c : Nat) (Z : List Nat), e = .returned (.slice (some ⟨g, 0, none⟩) n c) ∧ Z.length = n ∧ IsW w' (some ⟨g, 0, none⟩) Z ∧ dv B64 Z = v ∧ w.heap.size ≤ g ∧ n ≤ c ∧ Below w.heap.size w w'

set_option maxHeartbeats 1000000 in
set_option maxRecDepth 100000 in
theorem mwords_any (ga n p s M A : Nat) (Y : List Nat) (w : World) (hF : ModF n p s M Y) (hY : IsW w (some ⟨ga, 0, none⟩) Y) (hA : A < Top) (hga : ga < w.heap.size) :
    Calls Tryz.prog 60 #[.agg #[.slice (some ⟨ga, 0, none⟩) n n, .int .i64 (s : Int)], .string (bs A)] w (MadeN w n (A % M)) := by
  obtain ⟨i0, hi0, hz0, hz1, hz2⟩ := info_parts info_u64
  have HF := Lib.hid hF
  have hn16 := hF.le
  have hn1 : 0 < n := by have := hF.np; omega
  have CW := Lib.hid (fun W => wordsof_any A n W hA (by omega))
  have hnp := hF.np
  have hFS := hF.sm
  have HR := Lib.hid (fun (W : World) (g' c m : Nat) (S : List Value) (X : List Nat) (h1 : Wv W g' [] (X ++ [0]) S) (h2 : IsW W (some ⟨ga, 0, none⟩) Y) (h3 : ga ≠ g') (h4 : X.length = m) (h5 : n ≤ m) (h6 : m ≤ 800) (h7 : m + 1 ≤ c) (h8 : SmallW X) => wreduce_any g' 0 (m + 1 - n) (m + 1) n p s c ga 0 n M [] S (X ++ [0]) Y W h1 rfl (h8.app (SmallW.one (by decide))) (by rw [List.length_append, h4]; rfl) (by omega) hnp h7 (by omega) (by
    rw [dv_append, show dv B64 [0] = 0 from rfl, Nat.mul_zero, Nat.add_zero]
    have := h8.dv_lt
    rw [h4] at this
    rw [show m + 1 - n + p = m from by omega]
    exact this) h2 h3 hF.len hF.val hF.sh hF.top hF.ge)
  obtain ⟨m, hm⟩ : ∃ m, m = max n (wlen A) := ⟨_, rfl⟩
  have hwl : wlen A ≤ 16 := by
    have : (bs A).size ≤ 128 := by rw [bs_le]; exact hA
    unfold wlen; omega
  have hm1 : n ≤ m := by omega
  have hm2 : m ≤ 16 := by omega
  rw [← hm] at CW
  have HGA := Lib.hid hga
  have HC := Lib.hid (fun (W : World) => (CW.out W).mono (R' := fun e w' => ∃ (g : Nat) (X : List Nat), e = .returned (.slice (some ⟨g, 0, none⟩) m m) ∧ X.length = m ∧ SmallW X ∧ Wg w' g X ∧ dv B64 X = A ∧ W.heap.size ≤ g ∧ Below W.heap.size W w') fun e w' h => by
    obtain ⟨X, rfl, h1, h2, h3, h4, h5⟩ := h
    exact ⟨_, X, by rw [h1], h1, h2, h3, h4, Nat.le_refl _, h5⟩)
  clear hF hwl hm hnp
  have K0 := Bk.new w #[.slice (some ⟨ga, 0, none⟩) n n, .int .i64 (s : Int)] 81
  have hy0 : IsW (w.alloc (.cells #[.slice (some ⟨ga, 0, none⟩) n n, .int .i64 (s : Int)] 81)) (some ⟨ga, 0, none⟩) Y := hY.below ((Below.refl _ _).alloc (Nat.le_refl _) _)
  have hb0 : Below w.heap.size w (w.alloc (.cells #[.slice (some ⟨ga, 0, none⟩) n n, .int .i64 (s : Int)] 81)) := (Below.refl _ _).alloc (Nat.le_refl _) _
  have hc0 := K0.cell 0
  have hc1 := K0.cell 1
  have hl0 := K0.lt
  go_enter Tryz.func60, Tryz.ntmps60
  go_wp2_with fail
  go_region_held3 (fun w' => w'.cell? ⟨w.heap.size, 0, none⟩ = some (.slice (some ⟨ga, 0, none⟩) n n) ∧ w'.cell? ⟨w.heap.size, 1, none⟩ = some (.int .i64 (s : Int)) ∧ Hid (Below w.heap.size w w' ∧ Bk w' w.heap.size #[.slice (some ⟨ga, 0, none⟩) n n, .int .i64 (s : Int)] 81 ∧ IsW w' (some ⟨ga, 0, none⟩) Y)) (first | assumption | exact ⟨hc0, hc1, Lib.hid ⟨hb0.drew, K0.drew, hy0.drew⟩⟩ | exact sw_alloc _ ‹_ ∧ _›) (first | (go_at_call 84; refine (HC.out _).mono ?_; rintro e w1 ⟨g1, X, rfl, hXl, hXs, hXg, hXv, hXb, hb1⟩; obtain ⟨k1, k2, hk⟩ := ‹_ ∧ _›; obtain ⟨kb, kk, ky⟩ := hk.out; have hSx : w1.cell? ⟨w.heap.size, 0, none⟩ = some (.slice (some ⟨ga, 0, none⟩) n n) ∧ w1.cell? ⟨w.heap.size, 1, none⟩ = some (.int .i64 (s : Int)) ∧ Hid (Below w.heap.size w w1 ∧ Bk w1 w.heap.size #[.slice (some ⟨ga, 0, none⟩) n n, .int .i64 (s : Int)] 81 ∧ IsW w1 (some ⟨ga, 0, none⟩) Y) := ⟨(kk.below hb1).cell 0, (kk.below hb1).cell 1, Lib.hid ⟨kb.trans (hb1.mono kb.size), kk.below hb1, ky.below hb1⟩⟩; have hgB : w.heap.size < g1 := Nat.lt_of_lt_of_le kk.lt hXb; clear k1 k2 hk kb kk ky) | (refine app_stepW rfl _ _ rfl (w.heap.size + 1) g1 m _ X rfl (by first | exact hXg | exact hXg.alloc _) hXl (by omega) hgB (by first | (rw [World.size_alloc]; exact Nat.succ_le_succ hSx.2.2.out.1.size) | exact hSx.2.2.out.2.1.lt) rfl (by first | (rw [World.cell?_alloc_mark]; rfl) | (rw [hb1.cell (p := ⟨w.heap.size + 1, 0, none⟩) (by simp)]; exact cell_one_at _ _ (by simp))) ?_; intro g2 c2 S2 w2 hv2 hc2 hg2 hgr2; have hSx2 : w2.cell? ⟨w.heap.size, 0, none⟩ = some (.slice (some ⟨ga, 0, none⟩) n n) ∧ w2.cell? ⟨w.heap.size, 1, none⟩ = some (.int .i64 (s : Int)) ∧ Hid (Below w.heap.size w w2 ∧ Bk w2 w.heap.size #[.slice (some ⟨ga, 0, none⟩) n n, .int .i64 (s : Int)] 81 ∧ IsW w2 (some ⟨ga, 0, none⟩) Y) := (by first | exact sw_grown (sw_alloc _ hSx) hgr2 (.inl hgB) (by have := HGA.out; omega) | exact sw_grown hSx hgr2 (.inl hgB) (by have := HGA.out; omega)); clear hgr2) | (go_at_call 88; refine (HR.out _ g2 c2 m S2 X hv2 hSx2.2.2.out.2.2 (by have := HGA.out; omega) hXl hm1 (by omega) hc2 hXs).mono ?_; rintro e w3 ⟨zs, rfl, hzl, hzs, hzw, hzv, hgr3⟩; have hSx3 : w3.cell? ⟨w.heap.size, 0, none⟩ = some (.slice (some ⟨ga, 0, none⟩) n n) ∧ w3.cell? ⟨w.heap.size, 1, none⟩ = some (.int .i64 (s : Int)) ∧ Hid (Below w.heap.size w w3 ∧ Bk w3 w.heap.size #[.slice (some ⟨ga, 0, none⟩) n n, .int .i64 (s : Int)] 81 ∧ IsW w3 (some ⟨ga, 0, none⟩) Y) := sw_grown hSx2 hgr3 (.inl hg2) (by have := HGA.out; omega)))
  all_goals
    obtain ⟨_, _, hk⟩ := ‹_ ∧ _›
    have hL : n ≤ zs.length := by omega
    have HV := Lib.hid (show dv B64 (zs.take n) = A % M from by
      rw [hzv, dv_append, show dv B64 [0] = 0 from rfl, Nat.mul_zero, Nat.add_zero, hXv])
    have HL := Lib.hid (show (zs.take n).length = n from by rw [List.length_take]; omega)
    have HI : IsW w3 (some ⟨g2, 0, none⟩) (zs.take n) := by
      refine Wv.isW (P := []) (S := cellsW (zs.drop n) ++ S2) (Wv.head ?_) (hzs.take n) rfl
      rw [List.take_append_drop]
      exact hzw
    go_wp2
    go_ret
    exact ⟨g2, c2, zs.take n, rfl, HL.out, HI, HV.out, by omega, by omega, hk.out.1⟩

end Go.Proofs.YtmiafkbjmkaebaaGreat
