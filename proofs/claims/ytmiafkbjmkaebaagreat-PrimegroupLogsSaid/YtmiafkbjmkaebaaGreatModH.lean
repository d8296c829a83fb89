/-
  The contract of the method reduce of modular.modulus.
-/
import Derived.Test.YtmiafkbjmkaebaaGreatModG
import Derived.Test.YtmiafkbjmkaebaaGreatBlk
import Derived.StillTailTactics
namespace Go.Proofs.YtmiafkbjmkaebaaGreat
open Go.RowKit Num

/-- The words Z stand for U modulo V, and those from the a-th on are below V. -/
def RemW (Z : List Nat) (a U V : Nat) : Prop := dv B64 Z % V = U % V ∧ dv B64 (Z.drop a) < V

theorem wdv_div {Z : List Nat} (h : SmallW Z) (k : Nat) (hk : k ≤ Z.length) : dv B64 Z / B64 ^ k = dv B64 (Z.drop k) := by
  rw [dv_split B64 Z k hk, Nat.add_mul_div_left _ _ (Nat.pow_pos (by decide)), Nat.div_eq_of_lt, Nat.zero_add]
  have := (h.take k).dv_lt
  rwa [List.length_take, Nat.min_eq_left hk] at this
theorem rem_start {Z : List Nat} {X p L s M : Nat} (hZ : Z.length = L + (p + 1)) (hZs : SmallW Z) (hX : X < B64 ^ (L + p)) (hZv : dv B64 Z = X * 2 ^ s) (hy : B64 ^ p ≤ M) : RemW Z L (X * 2 ^ s) (M * 2 ^ s) := by
  refine ⟨by rw [hZv], ?_⟩
  rw [← wdv_div hZs L (by omega), hZv, Nat.div_lt_iff_lt_mul (Nat.pow_pos (by decide))]
  have h1 : X * 2 ^ s < B64 ^ (L + p) * 2 ^ s := Nat.mul_lt_mul_of_pos_right hX (Nat.pow_pos (by decide))
  have h2 : B64 ^ (L + p) * 2 ^ s ≤ M * 2 ^ s * B64 ^ L := by
    rw [Nat.pow_add, Nat.mul_comm (B64 ^ L), Nat.mul_assoc, Nat.mul_comm (B64 ^ L), ← Nat.mul_assoc]
    exact Nat.mul_le_mul_right _ (Nat.mul_le_mul_right _ hy)
  omega
theorem rem_part {Z : List Nat} {t n U V : Nat} (h : RemW Z (t + 1) U V) (hZs : SmallW Z) (hV : V < B64 ^ n) (hl : t + (n + 1) ≤ Z.length) :
    ∃ R S, Z = Z.take t ++ R ++ S ∧ R.length = n + 1 ∧ SmallW R ∧ dv B64 S = 0 ∧ dv B64 R < B64 * V := by
  refine ⟨(Z.drop t).take (n + 1), Z.drop (t + (n + 1)), ?_, ?_, (hZs.drop t).take _, ?_⟩
  · rw [List.append_assoc, ← List.drop_drop, List.take_append_drop, List.take_append_drop]
  · rw [List.length_take, List.length_drop]; omega
  · have h1 : dv B64 (Z.drop t) < B64 * V := by
      rw [dv_drop']
      have := hZs.at t
      have h2 := h.2
      have h3 : B64 * (dv B64 (Z.drop (t + 1)) + 1) ≤ B64 * V := Nat.mul_le_mul_left _ h2
      rw [Nat.mul_add] at h3
      omega
    have h2 := dv_split B64 (Z.drop t) (n + 1) (by rw [List.length_drop]; omega)
    rw [List.drop_drop] at h2
    have h4 : B64 * V < B64 ^ (n + 1) := by
      rw [Nat.pow_succ, Nat.mul_comm]; exact Nat.mul_lt_mul_of_pos_right hV (by decide)
    have h5 : dv B64 (Z.drop (t + (n + 1))) = 0 := by
      rcases Nat.eq_zero_or_pos (dv B64 (Z.drop (t + (n + 1)))) with g | g
      · exact g
      · have : B64 ^ (n + 1) * 1 ≤ B64 ^ (n + 1) * dv B64 (Z.drop (t + (n + 1))) := Nat.mul_le_mul_left _ g
        omega
    rw [h5] at h2
    exact ⟨h5, by omega⟩
theorem rem_step {Z P R R' S : List Nat} {t n U V : Nat} (h : RemW Z (t + 1) U V) (hZ : Z = P ++ R ++ S) (hP : P.length = t) (hR : R.length = n) (hR' : R'.length = n) (hS : dv B64 S = 0)
    (hr : dv B64 R' = dv B64 R % V) (hV : 0 < V) : RemW (P ++ R' ++ S) t U V := by
  obtain ⟨h1, _⟩ := h
  have hd : (P ++ R' ++ S).drop t = R' ++ S := by rw [List.append_assoc, ← hP, List.drop_left]
  constructor
  · rw [← h1, hZ]
    simp only [dv_append, hS, hR, hR', hP, Nat.mul_zero, Nat.add_zero, List.length_append]
    rw [hr, Nat.add_mod, Nat.mul_mod, Nat.mod_mod, ← Nat.mul_mod, ← Nat.add_mod]
  · rw [hd, dv_append, hS, Nat.mul_zero, Nat.add_zero, hr]
    exact Nat.mod_lt _ hV
theorem rem_end {Z : List Nat} {X M s n : Nat} (h : RemW Z 0 (X * 2 ^ s) (M * 2 ^ s)) (hV : M * 2 ^ s < B64 ^ n) (hl : n ≤ Z.length) : dv B64 (Z.take n) / 2 ^ s = X % M := by
  obtain ⟨h1, h2⟩ := h
  rw [List.drop_zero] at h2
  have ht : dv B64 (Z.take n) = dv B64 Z := by
    have h3 := dv_split B64 Z n hl
    rcases Nat.eq_zero_or_pos (dv B64 (Z.drop n)) with g | g
    · rw [g] at h3; omega
    · have : B64 ^ n * 1 ≤ B64 ^ n * dv B64 (Z.drop n) := Nat.mul_le_mul_left _ g
      omega
  rw [Nat.mod_eq_of_lt h2, Nat.mul_mod_mul_right] at h1
  rw [ht, h1, Nat.mul_div_cancel _ (Nat.pow_pos (by decide))]

theorem IsW.drew {w : World} {A : Option Addr} {X : List Nat} (h : IsW w A X) : IsW w.drew A X := h
theorem Wv.head {w : World} {g : Nat} {P S : List Value} {Y Z : List Nat} (h : Wv w g P (Y ++ Z) S) : Wv w g P Y (cellsW Z ++ S) := by
  unfold Wv at h ⊢
  rw [h]
  simp [cellsW, List.append_assoc]
theorem Wv.back {w : World} {g : Nat} {P S : List Value} {Y Z : List Nat} (h : Wv w g P Y (cellsW Z ++ S)) : Wv w g P (Y ++ Z) S := by
  unfold Wv at h ⊢
  rw [h]
  simp [cellsW, List.append_assoc]
theorem Bk.kept {w w' : World} {g : Nat} {cs : Array Value} {t : TypeId} {row : Option Nat} (h : Bk w g cs t) (hb : w.grownBy w' row) (hg : some g ≠ row) : Bk w' g cs t := (hb.block g h.lt hg).trans h

/-- reduce: the first words are turned into the remainder. -/
def ReducedW (w : World) (g o : Nat) (P S : List Value) (L n c v : Nat) (e : Ending) (w' : World) : Prop :=
  ∃ zs : List Nat, e = .returned (.slice (some ⟨g, o, none⟩) n c) ∧ zs.length = L ∧ SmallW zs ∧ Wv w' g P zs S ∧ dv B64 (zs.take n) = v ∧ w.grownBy w' (some g)

set_option maxHeartbeats 1000000 in
set_option maxRecDepth 100000 in
theorem wreduce_any (g o K L n p s c ga oa cy M : Nat) (P S : List Value) (X Y : List Nat) (w : World) (hg : Wv w g P X S) (hP : P.length = o) (hX : SmallW X) (hXl : X.length = L) (hL : L = K + n) (hnp : n = p + 1) (hLc : L ≤ c) (hLm : L ≤ 900) (hXv : dv B64 X < B64 ^ (K + p))
    (hY : IsW w (some ⟨ga, oa, none⟩) Y) (hAg : ga ≠ g) (hYl : Y.length = n) (hYv : dv B64 Y = M * 2 ^ s) (hs : s < 64) (hv : 9223372036854775808 ≤ Y.getD p 0) (hM : B64 ^ p ≤ M) :
    Calls Tryz.prog 88 #[.agg #[.slice (some ⟨ga, oa, none⟩) n cy, .int .i64 (s : Int)], .slice (some ⟨g, o, none⟩) L c] w (ReducedW w g o P S L n c (dv B64 X % M)) := by
  subst hP
  have hV : M * 2 ^ s < B64 ^ n := by
    have := hY.1.dv_lt
    rw [hYl, hYv] at this
    exact this
  have hV0 : 0 < M * 2 ^ s := Nat.mul_pos (Nat.lt_of_lt_of_le (Nat.pow_pos (by decide)) hM) (Nat.pow_pos (by decide))
  have hXs : dv B64 X * 2 ^ s < B64 ^ L := by
    have h1 : dv B64 X * 2 ^ s < B64 ^ (K + p) * 2 ^ s := Nat.mul_lt_mul_of_pos_right hXv (Nat.pow_pos (by decide))
    have h2 : 2 ^ s ≤ B64 := by
      rw [← show 2 ^ 64 = B64 from by decide]; exact Nat.pow_le_pow_right (by decide) (by omega)
    have h3 : B64 ^ (K + p) * 2 ^ s ≤ B64 ^ (K + p) * B64 := Nat.mul_le_mul_left _ h2
    rw [← Nat.pow_succ, show (K + p).succ = L from by omega] at h3
    omega
  have HV := Lib.hid (And.intro hV hV0)
  have HK := Lib.hid (And.intro hL (And.intro hnp hXl))
  have HYl := Lib.hid hYl
  have HYv := Lib.hid hYv
  have HXs := Lib.hid hXs
  have HXv := Lib.hid hXv
  have HM := Lib.hid hM
  have i1 : (L : Int) - (n : Int) = (K : Int) := by omega
  have i2 : n < L + 1 := by omega
  have i3 : 0 < n := by omega
  have i4 : n ≤ c := by omega
  have i5 : K + n ≤ c := by omega
  clear hV hV0 hXs hL hnp hXl hYl hYv hXv hM
  go_enter Tryz.func88, Tryz.ntmps88
  go_wp2_with fail
  refine (wshl_any g P.length L c s P S X _ (hg.alloc _) rfl hX HK.out.2.2 hs (by omega) HXs.out).mono ?_
  rintro e w1 ⟨Z, rfl, hZl, hZs, hZ, hZv, hgr1⟩
  have hgl := hg.lt
  have K0 := Bk.new w #[.slice (some ⟨ga, oa, none⟩) n cy, .int .i64 (s : Int)] 81
  have HR := Lib.hid (rem_start (p := p) (L := K) (by have := HK.out; omega) hZs HXv.out hZv HM.out)
  have HZl := Lib.hid hZl
  have hAp : Apart (some ⟨ga, oa, none⟩) g := fun a e => by cases e; exact hAg
  have HAp := Lib.hid hAp
  have hne : some w.heap.size ≠ some g := fun e => by injection e with e; omega
  have HNE := Lib.hid hne
  replace K0 := K0.kept hgr1 hne
  have HW := Lib.hid (grown_trans (World.grownBy_alloc w _ (some g)) hgr1)
  have hcb0 : w1.cell? ⟨w.heap.size, 0, none⟩ = some (.slice (some ⟨ga, oa, none⟩) n cy) := K0.cell 0
  have hcb1 : w1.cell? ⟨w.heap.size, 1, none⟩ = some (.int .i64 (s : Int)) := K0.cell 1
  clear hZl hZv hg hgr1 hAp hne
  go_wp2_with fail
  clear hcb0 hcb1
  go_loopw [19] (fun x wr => ∃ (k : Nat) (Z : List Nat), k ≤ K ∧ x = .int .i64 k ∧ Hid (Z.length = L) ∧ SmallW Z ∧ Wv wr g P Z S ∧ Hid (RemW Z (K - k) (dv B64 X * 2 ^ s) (M * 2 ^ s)) ∧ Bk wr w.heap.size #[.slice (some ⟨ga, oa, none⟩) n cy, .int .i64 (s : Int)] 81 ∧ Hid (w.grownBy wr (some g))) (fun x _ => K - (intOf x).toNat)
  case atStart => exact ⟨0, Z, Nat.zero_le _, rfl, HZl, hZs, hZ, HR, K0, HW⟩
  case round =>
    clear hZs hZ HR HZl K0 HW
    obtain ⟨k, Z, hk, rfl, HZl, hZs, hZ, HR, K0, HW⟩ := hrel
    have hcb0 : wr.cell? ⟨w.heap.size, 0, none⟩ = some (.slice (some ⟨ga, oa, none⟩) n cy) := K0.cell 0
    have hcb1 : wr.cell? ⟨w.heap.size, 1, none⟩ = some (.int .i64 (s : Int)) := K0.cell 1
    have hcbl : w.heap.size < wr.heap.size := K0.lt
    by_cases hlt : k < K
    · obtain ⟨t, ht⟩ : ∃ t, t + 1 = K - k := ⟨K - k - 1, by omega⟩
      have hmt : ((K : Int) - 1 - (k : Int)) = (t : Int) := by omega
      have htl : t + (n + 1) ≤ c := by omega
      have HT := Lib.hid ht
      obtain ⟨e1, he1⟩ : ∃ e, e = t + n := ⟨_, rfl⟩
      obtain ⟨e2, he2⟩ : ∃ e, e = t + n + 1 := ⟨_, rfl⟩
      have w1 : IntKind.i64.wrap ((t : Int) + (n : Int)) = (e1 : Int) := by rw [IntWalk.i64_in _ ⟨by omega, by omega⟩]; omega
      have w2 : IntKind.i64.wrap ((e1 : Int) + 1) = (e2 : Int) := by rw [IntWalk.i64_in _ ⟨by omega, by omega⟩]; omega
      have b1 : t ≤ e2 := by omega
      have b2 : e2 ≤ c := by omega
      have b3 : (t : Int) ≤ (e2 : Int) := by omega
      have b4 : (e2 : Int) ≤ (c : Int) := by omega
      have b5 : e2 - t = n + 1 := by omega
      have b6 : (0 : Int) ≤ (t : Int) := by omega
      have b7 : ¬ c = t := by omega
      obtain ⟨R, T, hZe, hRl, hRs, hT0, hRlt⟩ := rem_part (t := t) (n := n) (by rw [ht]; exact HR.out) hZs HV.out.1 (by have := HZl.out; have := HK.out.1; omega)
      have hPl : (Z.take t).length = t := by rw [List.length_take]; have := HZl.out; have := HK.out.1; omega
      have hZ2 : Wv wr g (P ++ cellsW (Z.take t)) R (cellsW T ++ S) := by
        rw [hZe] at hZ; exact hZ.part
      have HZe := Lib.hid hZe
      have HPl := Lib.hid hPl
      have HT0 := Lib.hid hT0
      have HD := Lib.hid (fun (W : World) (cr : Nat) (h1 : Wv W g (P ++ cellsW (Z.take t)) R (cellsW T ++ S)) (h2 : IsW W (some ⟨ga, oa, none⟩) Y) => wstep_any g (P.length + t) (n + 1) n p cr ga oa cy (P ++ cellsW (Z.take t)) (cellsW T ++ S) R Y W h1 (by rw [List.length_append, cellsW_length, hPl]) hRs h2 hAg rfl HK.out.2.1 hRl HYl.out (by omega) (by rw [HYv.out]; exact hRlt) hv)
      have hY2 := hY.grown HW.out HAp.out
      have HRl := Lib.hid hRl
      clear ht hZe hPl hT0 hRlt hRl he1 he2
      go_wp2_with fail
      go_still_tail 9, (by kernel_rfl)
      go_wp2_with fail
      refine (HD.out _ _ hZ2.drew hY2.drew).mono ?_
      rintro e w2 ⟨rs, rfl, ⟨hrl, hrs, hgv, hgw⟩, hrv⟩
      rw [HRl.out] at hrl
      have hZn := hgv.whole
      have hne := HNE.out
      have K2 := K0.drew.kept hgw hne
      have HW2 := Lib.hid (grown_trans (grown_drew HW.out) hgw)
      have HN := Lib.hid (show (Z.take t ++ rs ++ T).length = L from by
        have h1 := HZl.out
        rw [HZe.out] at h1
        simp only [List.length_append] at h1 ⊢
        have := HRl.out
        omega)
      have hsm : SmallW (Z.take t ++ rs ++ T) := by
        have hT : SmallW T := by
          have := hZs.drop (t + (n + 1))
          rw [HZe.out] at this
          rw [show (Z.take t ++ R ++ T).drop (t + (n + 1)) = T from by rw [show t + (n + 1) = (Z.take t ++ R).length from by rw [List.length_append, HPl.out, HRl.out], List.drop_left]] at this
          exact this
        exact ((hZs.take t).app hrs).app hT
      have HRN := Lib.hid (show RemW (Z.take t ++ rs ++ T) (K - (k + 1)) (dv B64 X * 2 ^ s) (M * 2 ^ s) from by
        have h1 := HR.out
        rw [← HT.out] at h1
        have := rem_step h1 HZe.out HPl.out HRl.out hrl HT0.out (by rw [hrv, HYv.out]) HV.out.2
        rw [show K - (k + 1) = t from by have := HT.out; omega]
        exact this)
      clear hrl hrs hgv hgw hrv hne hY2 hcb0 hcb1 hZ2
      go_wp2
      go_roundw
      case rel => exact ⟨k + 1, Z.take t ++ rs ++ T, by omega, by go_num, HN, hsm, hZn, HRN, K2, HW2⟩
      case measure => simp [intOf]; omega
    · have hke : K - k = 0 := by omega
      have HRE := Lib.hid (show dv B64 (Z.take n) / 2 ^ s = dv B64 X % M from by
        have h1 := HR.out
        rw [hke] at h1
        exact rem_end h1 HV.out.1 (by have := HZl.out; have := HK.out.1; omega))
      have hZ2 : Wv wr g P (Z.take n) (cellsW (Z.drop n) ++ S) := by
        refine Wv.head ?_
        rw [List.take_append_drop]
        exact hZ
      have HD := Lib.hid (fun (W : World) (cr : Nat) (h1 : Wv W g P (Z.take n) (cellsW (Z.drop n) ++ S)) => wshr_any g P.length n cr s P (cellsW (Z.drop n) ++ S) (Z.take n) W h1 rfl (hZs.take n) (by rw [List.length_take]; have := HZl.out; have := HK.out.1; omega) hs (by omega))
      have HZS := Lib.hid (hZs.drop n)
      clear hke hZ
      go_wp2_with fail
      go_still_tail 5, (by kernel_rfl)
      go_wp2_with fail
      refine (HD.out _ _ hZ2.drew).mono ?_
      rintro e w2 ⟨rs, rfl, hrl, hrs, hgv, hrv, hgw⟩
      have HN := Lib.hid (show (rs ++ Z.drop n).length = L from by
        rw [List.length_append, List.length_drop, hrl]
        have := HZl.out
        have := HK.out.1
        omega)
      have HF := Lib.hid (show dv B64 ((rs ++ Z.drop n).take n) = dv B64 X % M from by
        rw [← hrl, List.take_left, hrv, HRE.out])
      have HW2 := Lib.hid (grown_trans (grown_drew HW.out) hgw)
      have hZn := hgv.back
      clear hrv hrl hgw hgv hZ2 hcb0 hcb1
      go_wp2
      go_ret
      exact ⟨rs ++ Z.drop n, rfl, HN.out, hrs.app HZS.out, hZn, HF.out, HW2.out⟩

end Go.Proofs.YtmiafkbjmkaebaaGreat
