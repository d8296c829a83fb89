/-
  The contract of modular.power.
-/
import Derived.Test.YtmiafkbjmkaebaaGreatModP
namespace Go.Proofs.YtmiafkbjmkaebaaGreat
open Go.RowKit Num Go.Shelf
attribute [local go_sem] Oper.semAt_some

/-- A number as n words in a slice. -/
def HasN (w : World) (n v : Nat) (e : Ending) (w' : World) : Prop :=
  ∃ (g c : Nat) (Z : List Nat), e = .returned (.slice (some ⟨g, 0, none⟩) n c) ∧ Z.length = n ∧ IsW w' (some ⟨g, 0, none⟩) Z ∧ dv B64 Z = v ∧ Below w.heap.size w w'
/-- The number of binary digits, the most significant one first. -/
def valb (l : List Bool) : Nat := l.foldl (fun v b => 2 * v + (if b then 1 else 0)) 0
theorem valb_snoc (l : List Bool) (b : Bool) : valb (l ++ [b]) = 2 * valb l + (if b then 1 else 0) := by simp [valb, List.foldl_append]
theorem valb_take (a i : Nat) (h : i ≤ nb a) : valb ((bitsM a).take i) = a / 2 ^ (nb a - i) := by
  induction i with
  | zero =>
    rw [List.take_zero]
    have : a < 2 ^ nb a := by
      rcases Nat.eq_zero_or_pos a with h | h
      · subst h; exact Nat.pow_pos (by decide)
      · exact (nb_bounds (by omega)).2.1
    rw [Nat.sub_zero, Nat.div_eq_of_lt this]; rfl
  | succ i ih =>
    rw [← bitsM_take (i := i) (p := nb a - 1 - i) (by omega) rfl, valb_snoc, ih (by omega), show nb a - i = nb a - (i + 1) + 1 from by omega, Nat.pow_succ, ← Nat.div_div_eq_div_mul]
    unfold bitB
    rw [show nb a - 1 - i = nb a - (i + 1) from by omega]
    generalize a / 2 ^ (nb a - (i + 1)) = q
    rcases Nat.mod_two_eq_zero_or_one q with h | h
    · rw [h]; simp; omega
    · rw [h]; simp; omega
theorem valb_bits (a : Nat) : valb (bitsM a) = a := by
  have := valb_take a (nb a) (Nat.le_refl _)
  rw [← bitsM_length, List.take_length, bitsM_length, Nat.sub_self, Nat.pow_zero, Nat.div_one] at this
  exact this
theorem pow_twice (A M v : Nat) : (A ^ v % M) * (A ^ v % M) % M = A ^ (2 * v) % M := by
  rw [← Nat.mul_mod, ← Nat.pow_add]; congr 2; omega
theorem pow_next (A M v : Nat) : (A ^ (2 * v) % M) * (A % M) % M = A ^ (2 * v + 1) % M := by
  rw [← Nat.mul_mod, Nat.pow_succ]

theorem isW_own {W W' : World} {A : Option Addr} {X : List Nat} {row : Option Nat} (h : IsW W A X) (hg : W.grownBy W' row) (hr : ∀ r, row = some r → ∃ o : Obj, W.heap[r]? = some o ∧ o.isCells = false) : IsW W' A X :=
  ⟨h.1, fun hp => by
    obtain ⟨g, o, rfl, hl, hc⟩ := h.2 hp
    exact ⟨g, o, rfl, Nat.lt_of_lt_of_le hl hg.size, fun k hk => cell_kept (hc k hk) hg hr⟩⟩
theorem bk_own {W W' : World} {g : Nat} {cs : Array Value} {t : TypeId} {row : Option Nat} (h : Bk W g cs t) (hg : W.grownBy W' row) (hr : ∀ r, row = some r → ∃ o : Obj, W.heap[r]? = some o ∧ o.isCells = false) : Bk W' g cs t :=
  (grownBy_keeps_cells hg hr h rfl).trans h

theorem isW_set {W : World} {A : Option Addr} {X : List Nat} (h : IsW W A X) (p : Addr) (u : Value) (hne : ∀ a, A = some a → a.block ≠ p.block) : IsW (W.setCell p u) A X :=
  ⟨h.1, fun hp => by
    obtain ⟨g, o, rfl, hl, hc⟩ := h.2 hp
    exact ⟨g, o, rfl, by simpa [World.setCell] using hl, fun k hk => (World.cell?_of_block (a := ⟨g, o + k, none⟩) (Below.heap_setCell W p u g (hne _ rfl))).trans (hc k hk)⟩⟩

/-- One product stored into the box of the result. -/
theorem pow_store {w W W1 : World} {BO BX : Nat} (hb : Below W.heap.size W W1) (hO : w.heap.size ≤ BO) (hX : BX < W.heap.size) (hne : BX ≠ BO) (u : Value) (h0 : Below w.heap.size w W) :
    KeepsOthers W (W1.setCell ⟨BO, 0, none⟩ u) ∧ KB BX W (W1.setCell ⟨BO, 0, none⟩ u) ∧ Below w.heap.size w (W1.setCell ⟨BO, 0, none⟩ u) :=
  ⟨(KeepsOthers.of_grownBy (grown_of_below hb none) (fun j o e => by cases e)).trans (KeepsOthers.setCell _ _ _),
   (World.cell?_of_block (Below.heap_setCell W1 ⟨BO, 0, none⟩ u BX hne)).trans (World.cell?_of_block (hb.block BX hX)),
   (h0.trans (hb.mono h0.size)).setCell (p := ⟨BO, 0, none⟩) hO _⟩

set_option maxHeartbeats 2000000 in
set_option maxRecDepth 100000 in
theorem mpower_any (ga n p s M A E g1 g2 c1 c2 bc : Nat) (Y Z1 Z2 : List Nat) (w : World) (hF : ModF n p s M Y) (hY : IsW w (some ⟨ga, 0, none⟩) Y) (hga : ga < w.heap.size)
    (h1 : IsW w (some ⟨g1, 0, none⟩) Z1) (h2 : IsW w (some ⟨g2, 0, none⟩) Z2) (hl1 : Z1.length = n) (hl2 : Z2.length = n) (hv1 : dv B64 Z1 = 1 % M) (hv2 : dv B64 Z2 = A % M) (hE : E < Top)
    (hc : Bk w bc #[.slice (some ⟨ga, 0, none⟩) n n, .int .i64 (s : Int)] 81) :
    Calls Tryz.prog 59 #[.slice (some ⟨g1, 0, none⟩) n c1, .slice (some ⟨g2, 0, none⟩) n c2, .string (bs E), .func (.func 89) #[] #[.pointer (some ⟨bc, 0, none⟩)]] w (HasN w n (A ^ E % M)) := by
  refine (callsIn_wide (n := 5)).1 ?_
  refine callsIn_of_wp_marks Tryz.func59 rfl trivial ?_ rfl
  simp only [Tryz.ntmps59, List.size_toArray, List.length_cons, List.length_nil, Nat.reduceAdd, Nat.reduceSub, Array.replicate_succ, Array.replicate_zero, List.push_toArray, List.append_toArray, List.nil_append, List.cons_append]
  gi_wp2_with (refine ⟨trivial, ?_⟩; gi_at_call 87; refine (callsIn_wide.2 (digits_any _ _)).mono ?_; rintro e w' ⟨rfl, rfl⟩)
  have hlc := hc.lt
  have hlg2 : g2 < w.heap.size := by
    have := hF.np
    obtain ⟨_, _, e, hh, _⟩ := h2.2 (by omega)
    injection e with e; injection e with e; omega
  obtain ⟨B5, e5⟩ : ∃ x, x = w.heap.size := ⟨_, rfl⟩
  obtain ⟨B7, e7⟩ : ∃ x, x = w.heap.size + 1 := ⟨_, rfl⟩
  obtain ⟨BO, eO⟩ : ∃ x, x = w.heap.size + 1 + 1 := ⟨_, rfl⟩
  obtain ⟨BX, eX⟩ : ∃ x, x = w.heap.size + 1 + 1 + 1 := ⟨_, rfl⟩
  obtain ⟨W0, hW0⟩ : ∃ W0, W0 = ((((w.alloc (.cells #[.slice (some ⟨g2, 0, none⟩) n c2] 79)).alloc (.cells #[.func (.func 89) #[] #[.pointer (some ⟨bc, 0, none⟩)]] 86)).alloc (.cells #[.slice (some ⟨g1, 0, none⟩) n c1] 79)).alloc (.cells #[.string (bs E)] 22)) := ⟨_, rfl⟩
  have k5 : Bk W0 B5 #[.slice (some ⟨g2, 0, none⟩) n c2] 79 := by rw [hW0, e5]; exact (((Bk.new _ _ _).alloc _).alloc _).alloc _
  have k7 : Bk W0 B7 #[.func (.func 89) #[] #[.pointer (some ⟨bc, 0, none⟩)]] 86 := by rw [hW0, e7]; exact ((Bk.new1 _ _ _ _).alloc _).alloc _
  have kO : Bk W0 BO #[.slice (some ⟨g1, 0, none⟩) n c1] 79 := by
    rw [hW0, eO]
    have := Bk.new1 (w.alloc (.cells #[.slice (some ⟨g2, 0, none⟩) n c2] 79)) (.cells #[.func (.func 89) #[] #[.pointer (some ⟨bc, 0, none⟩)]] 86) #[.slice (some ⟨g1, 0, none⟩) n c1] 79
    simp only [World.size_alloc] at this
    exact this.alloc _
  have kX : W0.cell? ⟨BX, 0, none⟩ = some (.string (bs E)) := by
    rw [hW0, eX]
    have := Bk.new1 ((w.alloc (.cells #[.slice (some ⟨g2, 0, none⟩) n c2] 79)).alloc (.cells #[.func (.func 89) #[] #[.pointer (some ⟨bc, 0, none⟩)]] 86)) (.cells #[.slice (some ⟨g1, 0, none⟩) n c1] 79) #[.string (bs E)] 22
    simp only [World.size_alloc] at this
    exact this.cell 0
  have hsz : W0.heap.size = w.heap.size + 4 := by rw [hW0]; simp
  have hB0 : Below w.heap.size w W0 := by
    rw [hW0]
    exact ((((Below.refl _ w).alloc (Nat.le_refl _) _).alloc (by simp) _).alloc (by simp; omega) _).alloc (by simp; omega) _
  rw [← eX, ← eO, ← e7, ← e5, ← hW0]
  have HS := Lib.hid (And.intro e5 (And.intro e7 (And.intro eO (And.intro eX hsz))))
  have hXl : BX < W0.heap.size := by omega
  clear hW0 e5 e7 eO eX hsz
  have HT := Lib.hid (fun (W : World) (ga1 ca1 gb1 cb1 : Nat) (X1 X2 : List Nat) (k1 : IsW W (some ⟨ga, 0, none⟩) Y) (k0 : Bk W bc #[.slice (some ⟨ga, 0, none⟩) n n, .int .i64 (s : Int)] 81) (kl : ga < W.heap.size) (k2 : IsW W (some ⟨ga1, 0, none⟩) X1) (k3 : IsW W (some ⟨gb1, 0, none⟩) X2) (k4 : X1.length = n) (k5 : X2.length = n) => mtimes_any ga n p s M ga1 gb1 ca1 cb1 bc Y X1 X2 W hF k1 kl k2 k3 k4 k5 k0)
  refine wpIn_rangeFunc_ownF rfl (by omega) (gf := 111) (lb := #[.pointer (some ⟨BX, 0, none⟩)]) rfl trivial (enters_of Tryz.func111 (by kernel_rfl) rfl)
    (digits_stops 4 BX E (by omega) hE W0 kX hXl) (fun h k => Eq.trans k h) (fun W l o o' hl ho _ _ => World.cell?_of_block (World.putObj_heap_other (by show BX ≠ l; omega))) (Below.refl _ _) (fun _ => rfl)
    (fun pre W => ∃ (g c : Nat) (Z : List Nat), Bk W BO #[.slice (some ⟨g, 0, none⟩) n c] 79 ∧ IsW W (some ⟨g, 0, none⟩) Z ∧ Z.length = n ∧ dv B64 Z = A ^ valb pre % M ∧ Bk W B5 #[.slice (some ⟨g2, 0, none⟩) n c2] 79 ∧ Bk W B7 #[.func (.func 89) #[] #[.pointer (some ⟨bc, 0, none⟩)]] 86 ∧
      Bk W bc #[.slice (some ⟨ga, 0, none⟩) n n, .int .i64 (s : Int)] 81 ∧ IsW W (some ⟨ga, 0, none⟩) Y ∧ IsW W (some ⟨g2, 0, none⟩) Z2 ∧ Below w.heap.size w W ∧ W0.heap.size ≤ W.heap.size)
    (fun _ _ _ => False) ?own (fun _ _ _ _ _ hs _ _ => hs) ?start
    (fun x => { tmps := #[.slice (some ⟨g1, 0, none⟩) n c1, .slice (some ⟨g2, 0, none⟩) n c2, .string (bs E), .func (.func 89) #[] #[.pointer (some ⟨bc, 0, none⟩)], undef,
      .pointer (some ⟨B5, 0, none⟩), undef, .pointer (some ⟨B7, 0, none⟩), .slice none 0 0, .pointer (some ⟨BO, 0, none⟩), .bool x, .slice (some ⟨g1, 0, none⟩) n c1, .string (bs E),
      .func (.func 111) #[] #[.pointer (some ⟨BX, 0, none⟩)], .bool x, undef, undef, undef, undef, undef, undef, undef, undef, undef, undef], defers := [] }) ?assign ?body ?done ?stop
  case own =>
    rintro pre W W' row ⟨g, c, Z, i1, i2, i3, i4, i5, i6, i7, i8, i9, i10, i11⟩ hg hr
    have hr' : ∀ r, row = some r → ∃ o : Obj, W.heap[r]? = some o ∧ o.isCells = false := fun r e => (hr r e).2
    exact ⟨g, c, Z, bk_own i1 hg hr', isW_own i2 hg hr', i3, i4, bk_own i5 hg hr', bk_own i6 hg hr', bk_own i7 hg hr', isW_own i8 hg hr', isW_own i9 hg hr', i10.grown hg i10.size (fun k e => by have := (hr k e).1; have := HS.out.2.2.2.2; omega), Nat.le_trans i11 hg.size⟩
  case start =>
    have hb0 : Below w.heap.size w W0 := hB0
    exact ⟨g1, c1, Z1, kO, h1.below hb0, hl1, by rw [hv1]; simp [valb], k5, k7, hc.below hb0, hY.below hb0, h2.below hb0, hB0, Nat.le_refl _⟩
  case assign =>
    intro l x W K hK
    gi_wp2
    exact hK
  case body =>
    rintro l pre x W ⟨g, c, Z, i1, i2, i3, i4, i5, i6, i7, i8, i9, i10, i11⟩ _
    have hS := HS.out
    have nO5 : B5 ≠ BO := by omega
    have nO7 : B7 ≠ BO := by omega
    have nOX : BX ≠ BO := by omega
    have nOc : bc ≠ BO := by omega
    have nOa : ga ≠ BO := by omega
    have nO2 : g2 ≠ BO := by omega
    have lO : w.heap.size ≤ BO := by omega
    have lX : BX < W.heap.size := by omega
    have lA : ga < W.heap.size := by omega
    have lOW : BO < W.heap.size := i1.lt
    clear hS
    have c0 := i1.cell 0
    have f0 := i1.frozen 0
    have c7 := i6.cell 0
    have hI := Lib.hid (And.intro i1 (And.intro i2 (And.intro i3 (And.intro i4 (And.intro i5 (And.intro i6 (And.intro i7 (And.intro i8 (And.intro i9 (And.intro i10 i11))))))))))
    have hN := Lib.hid (And.intro nO5 (And.intro nO7 (And.intro nOX (And.intro nOc (And.intro nOa (And.intro nO2 (And.intro lO (And.intro lX (And.intro lA lOW)))))))))
    clear i1 i2 i3 i4 i5 i6 i7 i8 i9 i10 i11 nO5 nO7 nOX nOc nOa nO2 lO lX lA lOW
    have hnext := valb_snoc pre x
    cases x with
    | false =>
      gi_wp2_with (refine ⟨trivial, ?_⟩; gi_at_call 89; refine (CallsIn.inRound l (callsIn_wide.2 (HT.out W g c g c Z Z hI.out.2.2.2.2.2.2.2.1 hI.out.2.2.2.2.2.2.1 hN.out.2.2.2.2.2.2.2.2.1 hI.out.2.1 hI.out.2.1 hI.out.2.2.1 hI.out.2.2.1))).mono ?_; rintro e W1 ⟨gt, ct, Zt, rfl, q1, q2, q3, q4, q5, q6⟩; have d0 := (hI.out.1.below q6).cell 0; have df := (hI.out.1.below q6).frozen 0; have hQ := Lib.hid (And.intro q1 (And.intro q2 (And.intro q3 (And.intro q4 (And.intro q5 q6))))); clear q1 q2 q3 q4 q5 q6)
      obtain ⟨i1, i2, i3, i4, i5, i6, i7, i8, i9, i10, i11⟩ := hI.out
      obtain ⟨nO5, nO7, nOX, nOc, nOa, nO2, lO, lX, lA, lOW⟩ := hN.out
      obtain ⟨q1, q2, q3, q4, q5, q6⟩ := hQ.out
      obtain ⟨r1, r2, r3⟩ := pow_store q6 lO lX nOX (.slice (some ⟨gt, 0, none⟩) n ct) i10
      refine ⟨r1, r2, gt, ct, Zt, (i1.below q6).set 0 _, isW_set q2 _ _ (fun a e => by injection e with e; subst e; show gt ≠ BO; omega), q1, ?_, (i5.below q6).far nO5 _, (i6.below q6).far nO7 _, (i7.below q6).far nOc _,
        isW_set (i8.below q6) _ _ (fun a e => by injection e with e; subst e; exact nOa), isW_set (i9.below q6) _ _ (fun a e => by injection e with e; subst e; exact nO2), r3, Nat.le_trans i11 (by simpa [World.setCell] using q6.size)⟩
      rw [q3, i4, pow_twice, hnext]
      rfl
    | true =>
      gi_wp2_with (refine ⟨trivial, ?_⟩; gi_at_call 89; first
        | (refine (CallsIn.inRound l (callsIn_wide.2 (HT.out W g c g c Z Z hI.out.2.2.2.2.2.2.2.1 hI.out.2.2.2.2.2.2.1 hN.out.2.2.2.2.2.2.2.2.1 hI.out.2.1 hI.out.2.1 hI.out.2.2.1 hI.out.2.2.1))).mono ?_; rintro e W1 ⟨gt, ct, Zt, rfl, q1, q2, q3, q4, q5, q6⟩
           have d0 := (hI.out.1.below q6).cell 0
           have df := (hI.out.1.below q6).frozen 0
           have d7 := ((hI.out.2.2.2.2.2.1.below q6).far hN.out.2.1 (p := ⟨BO, 0, none⟩) (.slice (some ⟨gt, 0, none⟩) n ct)).cell 0
           have d5 := ((hI.out.2.2.2.2.1.below q6).far hN.out.1 (p := ⟨BO, 0, none⟩) (.slice (some ⟨gt, 0, none⟩) n ct)).cell 0
           have dO := ((hI.out.1.below q6).set 0 (.slice (some ⟨gt, 0, none⟩) n ct)).cell 0
           have nt : gt ≠ BO := by have := hN.out.2.2.2.2.2.2.2.2.2; omega
           have hQ := Lib.hid (And.intro q1 (And.intro q2 (And.intro q3 (And.intro q4 (And.intro q5 (And.intro q6 nt))))))
           clear q1 q2 q3 q4 q5 q6 nt)
        | (refine (CallsIn.inRound l (callsIn_wide.2 (HT.out (W1.setCell ⟨BO, 0, none⟩ (.slice (some ⟨gt, 0, none⟩) n ct)) gt ct g2 c2 Zt Z2 (isW_set (hI.out.2.2.2.2.2.2.2.1.below hQ.out.2.2.2.2.2.1) _ _ (fun a e => by injection e with e; subst e; exact hN.out.2.2.2.2.1)) ((hI.out.2.2.2.2.2.2.1.below hQ.out.2.2.2.2.2.1).far hN.out.2.2.2.1 _)
            (Nat.lt_of_lt_of_le hN.out.2.2.2.2.2.2.2.2.1 (by simpa [World.setCell] using hQ.out.2.2.2.2.2.1.size)) (isW_set hQ.out.2.1 _ _ (fun a e => by injection e with e; subst e; exact hQ.out.2.2.2.2.2.2)) (isW_set (hI.out.2.2.2.2.2.2.2.2.1.below hQ.out.2.2.2.2.2.1) _ _ (fun a e => by injection e with e; subst e; exact hN.out.2.2.2.2.2.1)) hQ.out.1 hl2))).mono ?_; rintro e W3 ⟨gu, cu, Zu, rfl, u1, u2, u3, u4, u5, u6⟩
           have e0 := (((hI.out.1.below hQ.out.2.2.2.2.2.1).set 0 (.slice (some ⟨gt, 0, none⟩) n ct)).below u6).cell 0
           have ef := (((hI.out.1.below hQ.out.2.2.2.2.2.1).set 0 (.slice (some ⟨gt, 0, none⟩) n ct)).below u6).frozen 0
           have hU := Lib.hid (And.intro u1 (And.intro u2 (And.intro u3 (And.intro u4 (And.intro u5 u6)))))
           clear u1 u2 u3 u4 u5 u6))
      obtain ⟨i1, i2, i3, i4, i5, i6, i7, i8, i9, i10, i11⟩ := hI.out
      obtain ⟨nO5, nO7, nOX, nOc, nOa, nO2, lO, lX, lA, lOW⟩ := hN.out
      obtain ⟨q1, q2, q3, q4, q5, q6, q7⟩ := hQ.out
      obtain ⟨u1, u2, u3, u4, u5, u6⟩ := hU.out
      obtain ⟨r1, r2, r3⟩ := pow_store q6 lO lX nOX (.slice (some ⟨gt, 0, none⟩) n ct) i10
      have hsz : W.heap.size ≤ (W1.setCell ⟨BO, 0, none⟩ (.slice (some ⟨gt, 0, none⟩) n ct)).heap.size := by simpa [World.setCell] using q6.size
      generalize hW2 : W1.setCell ⟨BO, 0, none⟩ (.slice (some ⟨gt, 0, none⟩) n ct) = W2 at *
      obtain ⟨v1, v2, v3⟩ := pow_store u6 lO (Nat.lt_of_lt_of_le lX hsz) nOX (.slice (some ⟨gu, 0, none⟩) n cu) r3
      have j1 : Bk W2 BO #[.slice (some ⟨gt, 0, none⟩) n ct] 79 := hW2 ▸ (i1.below q6).set 0 _
      have j5 : Bk W2 B5 #[.slice (some ⟨g2, 0, none⟩) n c2] 79 := hW2 ▸ (i5.below q6).far nO5 _
      have j6 : Bk W2 B7 #[.func (.func 89) #[] #[.pointer (some ⟨bc, 0, none⟩)]] 86 := hW2 ▸ (i6.below q6).far nO7 _
      have j7 : Bk W2 bc #[.slice (some ⟨ga, 0, none⟩) n n, .int .i64 (s : Int)] 81 := hW2 ▸ (i7.below q6).far nOc _
      have j8 : IsW W2 (some ⟨ga, 0, none⟩) Y := hW2 ▸ isW_set (i8.below q6) _ _ (fun a e => by injection e with e; subst e; exact nOa)
      have j9 : IsW W2 (some ⟨g2, 0, none⟩) Z2 := hW2 ▸ isW_set (i9.below q6) _ _ (fun a e => by injection e with e; subst e; exact nO2)
      refine ⟨r1.trans v1, v2.trans r2, gu, cu, Zu, (j1.below u6).set 0 _, isW_set u2 _ _ (fun a e => by injection e with e; subst e; show gu ≠ BO; omega), u1, ?_, (j5.below u6).far nO5 _, (j6.below u6).far nO7 _, (j7.below u6).far nOc _,
        isW_set (j8.below u6) _ _ (fun a e => by injection e with e; subst e; exact nOa), isW_set (j9.below u6) _ _ (fun a e => by injection e with e; subst e; exact nO2), v3, Nat.le_trans i11 (Nat.le_trans hsz (by simpa [World.setCell] using u6.size))⟩
      rw [u3, q3, i4, pow_twice, hv2, pow_next, hnext]
      rfl
  case done =>
    rintro D ys W hD rfl ⟨g, c, Z, i1, i2, i3, i4, i5, i6, i7, i8, i9, i10, i11⟩ hK
    have c0 := i1.cell 0
    have hI := Lib.hid (And.intro i1 (And.intro i2 (And.intro i3 (And.intro i4 (And.intro i10 i11)))))
    clear i1 i2 i3 i4 i5 i6 i7 i8 i9 i10 i11
    gi_wp2
    refine ⟨by simp, .inl ⟨_, _, rfl, run_takeDeferred hK, ?_⟩⟩
    obtain ⟨i1, i2, i3, i4, i10, i11⟩ := hI.out
    have hb2 := belowK_b (w := w) (Nat.le_refl _) W D _ (.deferred none) (by have := HS.out; omega) hK rfl rfl
    refine ⟨_, results_tmp rfl _ _ _, g, c, Z, rfl, i3, isW_own i2 (grownBy_putObj' _ D (.deferred none)) (fun r e => by cases e; exact ⟨_, hK, rfl⟩), ?_, i10.trans hb2⟩
    rw [i4, valb_bits]
  case stop =>
    rintro D c pre W _ _ h _
    exact h.elim

end Go.Proofs.YtmiafkbjmkaebaaGreat
