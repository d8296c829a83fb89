/-
  The contract of natural.divide.
-/
import Derived.Test.YtehpdpcpdfgnlaaDivC
import Derived.Test.YtehpdpcpdfgnlaaDivMath
import Derived.Test.YtehpdpcpdfgnlaaBitLen
import Derived.Test.YtehpdpcpdfgnlaaDigC
namespace Go.Proofs.Ytehpdpcpdfgnlaa
open Go.RowKit Num

/-- divide hands back the digits of the quotient and of the remainder. -/
def Divided (w : World) (X Y : List Nat) (e : Ending) (w' : World) : Prop :=
  ∃ (A1 A2 : Option Addr) (Q R : List Nat) (c1 c2 : Nat), e = .returned (.tuple #[.slice A1 Q.length c1, .slice A2 R.length c2]) ∧ IsD w' A1 Q ∧ IsD w' A2 R ∧ Q.length ≤ c1 ∧ R.length ≤ c2 ∧ Q.length ≤ 1000 ∧ R.length ≤ 1000 ∧ dv B32 Q = dv B32 X / dv B32 Y ∧ dv B32 R = dv B32 X % dv B32 Y ∧ Below w.heap.size w w'

set_option maxHeartbeats 1000000 in
set_option maxRecDepth 100000 in
theorem divide_lt (A B : Option Addr) (X Y : List Nat) (cx cy : Nat) (w : World) (hX : IsD w A X) (hYt : Trim Y) (hl : X.length < Y.length) (hcx : X.length ≤ cx) (hm : Y.length ≤ 100) :
    Calls Try.prog 88 #[.slice A X.length cx, .slice B Y.length cy] w (Divided w X Y) := by
  have hlt := trim_lt hX.1 hYt hl
  have HLT := Lib.hid hlt
  have hd : decide (X.length < Y.length) = true := by simpa using hl
  clear hlt
  go_enter Try.func88, Try.ntmps88
  go_wp2
  go_ret2
  exact ⟨none, A, [], X, 0, cx, rfl, IsD.nil _ _, hX, Nat.le_refl _, hcx, by simp, by omega, by rw [Nat.div_eq_of_lt HLT.out]; rfl, (Nat.mod_eq_of_lt HLT.out).symm, Below.refl _ _⟩

set_option maxHeartbeats 1000000 in
set_option maxRecDepth 100000 in
theorem divide_one (A B : Option Addr) (X Y : List Nat) (cx cy : Nat) (w : World) (hX : IsD w A X) (hY : IsD w B Y) (hYt : Trim Y) (hl : 0 < X.length) (hY1 : Y.length = 1) (hm : X.length ≤ 100) :
    Calls Try.prog 88 #[.slice A X.length cx, .slice B 1 cy] w (Divided w X Y) := by
  obtain ⟨gy, oy, rfl, hgy, hcy⟩ := hY.2 (by omega)
  have hcy0 := hcy 0 (by omega)
  rw [Nat.add_zero] at hcy0
  obtain ⟨d, hd⟩ : ∃ d, d = Y.getD 0 0 := ⟨_, rfl⟩
  have hd32 : d < 4294967296 := by rw [hd]; exact hY.1.at 0
  have hd0 : 0 < d := by
    rcases hYt with rfl | h
    · simp at hY1
    · rw [hY1] at h; rw [hd]; exact Nat.pos_of_ne_zero h
  have hdv : dv B32 Y = d := by
    match Y, hY1 with
    | [y], _ => simp at hd; subst hd; simp [dv]
  rw [← hd] at hcy0
  have HDV := Lib.hid hdv
  have hdec : decide (X.length < 1) = false := decide_eq_false (by omega)
  clear hdv hd hcy
  go_enter Try.func88, Try.ntmps88
  go_wp2_with fail
  refine (short_any A X cx d _ hX hd0 hd32 (by omega)).mono ?_
  rintro e w1 ⟨zs, rfl, hzl, hzs, hzd, hzv, hb1⟩
  have HZV := Lib.hid hzv
  have HZL := Lib.hid hzl
  clear hzv hzl
  obtain ⟨r, hr⟩ : ∃ r, r = dv B32 X % d := ⟨_, rfl⟩
  have hrd : r < d := by rw [hr]; exact Nat.mod_lt _ hd0
  rw [← hr]
  have HR := Lib.hid hr
  clear hr
  go_wp2
  go_ret2
  refine ⟨some ⟨w.heap.size, 0, none⟩, some ⟨w1.heap.size, 0, none⟩, zs, [r], zs.length, 1, rfl, IsD.of_dg (hzd.alloc _) hzs, IsD.of_dg (heap_alloc_new _ _) (Small.one (by unfold B32; omega)), Nat.le_refl _, Nat.le_refl _, by rw [HZL.out]; omega, by simp, by rw [HZV.out, HDV.out], by rw [HDV.out, ← HR.out]; simp [dv], hb1.alloc hb1.size _⟩

theorem top_shift {d s : Nat} (h0 : d ≠ 0) (h1 : d < 4294967296) (hs : s = 32 - Lib.bitLen d) : d * 2 ^ s < 4294967296 ∧ s < 32 ∧ Lib.bitLen d ≤ 32 := by
  obtain ⟨_, h3, h4⟩ := bitLen_pow 32 d (by omega) h1 h0
  have h5 : Lib.bitLen d ≤ 32 := Lib.bitLen_le d 32 (by omega) h1
  refine ⟨?_, by omega, h5⟩
  have h6 : d * 2 ^ s < 2 ^ Lib.bitLen d * 2 ^ s := Nat.mul_lt_mul_of_pos_right h3 (Nat.pow_pos (by decide))
  rw [← Nat.pow_add, show Lib.bitLen d + s = 32 from by omega] at h6
  exact h6
theorem shifted_lt {Y : List Nat} {n s : Nat} (hY : Y.length = n + 2) (hYs : Small Y) (h : Y.getD (n + 1) 0 * 2 ^ s < 4294967296) (hs : s < 32) : dv B32 Y * 2 ^ s < B32 ^ (n + 2) := by
  obtain ⟨l, hl1, hl2⟩ := dv_high1 Y (n + 1) hY hYs
  obtain ⟨u, hu⟩ := pow32 hs
  rw [hl2]
  have hpos : 0 < 2 ^ s := Nat.pow_pos (by decide)
  have h1 : (Y.getD (n + 1) 0 + 1) * 2 ^ s ≤ B32 := by
    have h2 : 2 ^ s * Y.getD (n + 1) 0 < 2 ^ s * u := by rw [← hu, Nat.mul_comm]; exact h
    have h3 := Nat.lt_of_mul_lt_mul_left h2
    have h4 : 2 ^ s * (Y.getD (n + 1) 0 + 1) ≤ 2 ^ s * u := Nat.mul_le_mul_left _ h3
    rw [Nat.mul_comm, show B32 = 2 ^ s * u from hu]
    exact h4
  have h5 : (Y.getD (n + 1) 0 * B32 ^ (n + 1) + l) * 2 ^ s < (Y.getD (n + 1) 0 + 1) * B32 ^ (n + 1) * 2 ^ s := Nat.mul_lt_mul_of_pos_right (by rw [Nat.add_mul]; omega) hpos
  have h6 : (Y.getD (n + 1) 0 + 1) * B32 ^ (n + 1) * 2 ^ s ≤ B32 ^ (n + 2) := by
    have e : (Y.getD (n + 1) 0 + 1) * B32 ^ (n + 1) * 2 ^ s = B32 ^ (n + 1) * ((Y.getD (n + 1) 0 + 1) * 2 ^ s) := by grind
    rw [e, Nat.pow_succ (m := n + 1)]
    exact Nat.mul_le_mul_left _ h1
  omega

set_option maxHeartbeats 2000000 in
set_option maxRecDepth 100000 in
theorem divide_long (A B : Option Addr) (X Y : List Nat) (n L cx cy : Nat) (w : World) (hX : IsD w A X) (hY : IsD w B Y) (hYt : Trim Y) (hYl : Y.length = n + 2) (hXl : X.length = L + (n + 1)) (hL : 0 < L) (hm : L + n ≤ 90) :
    Calls Try.prog 88 #[.slice A (L + (n + 1)) cx, .slice B (n + 2) cy] w (Divided w X Y) := by
  obtain ⟨i0, hi0, hz0, hz1, hz2⟩ := info_parts info_u32
  obtain ⟨gy, oy, rfl, hgy, hcy⟩ := hY.2 (by omega)
  have hcy0 := hcy (n + 1) (by omega)
  have hn1 : ((n : Int) + 2 - 1) = (n : Int) + 1 := by omega
  obtain ⟨d, hd⟩ : ∃ d, d = Y.getD (n + 1) 0 := ⟨_, rfl⟩
  have hd32 : d < 4294967296 := by rw [hd]; exact hY.1.at _
  have hd0 : d ≠ 0 := by
    rcases hYt with rfl | h
    · simp at hYl
    · rw [hYl] at h; rw [hd]; exact h
  have hge : B32 ^ (n + 1) ≤ dv B32 Y := by
    have := trim_ge hYt (by omega)
    rw [hYl] at this; exact this
  obtain ⟨s, hs⟩ : ∃ s, s = 32 - Lib.bitLen d := ⟨_, rfl⟩
  obtain ⟨ht1, ht2, ht3⟩ := top_shift hd0 hd32 hs
  have hVlt := shifted_lt hYl hY.1 (by rw [← hd]; exact ht1) ht2
  have hXlt := hX.1.dv_lt
  rw [hXl] at hXlt
  rw [← hd] at hcy0
  have hlz : (32 - (Lib.bitLen ((d : Int)).toNat : Int)) = (s : Int) := by rw [Int.toNat_natCast]; omega
  have LZ : ∀ W : World, Calls Try.prog 103 #[.int .u32 (d : Int)] W fun e w' => e = .returned (.int .i64 (s : Int)) ∧ W = w' := fun W => by
    have := lz_any (d : Int) (by omega) (by omega) W
    rw [hlz] at this
    exact this
  have HLZ := Lib.hid LZ
  have HGE := Lib.hid hge
  have HVL := Lib.hid hVlt
  have HXL := Lib.hid hXlt
  have HX := Lib.hid hXl
  have HY := Lib.hid hYl
  have HYS := Lib.hid hY.1
  have hdec : decide (L + (n + 1) < n + 2) = false := decide_eq_false (by omega)
  clear hge hVlt hXlt hXl hYl hd hcy hs ht1 ht3 hlz LZ
  go_enter Try.func88, Try.ntmps88
  go_wp2_with fail
  refine (HLZ.out _).mono ?_
  rintro e w' ⟨rfl, rfl⟩
  go_wp2_with fail
  refine (shl_at _ Y (n + 2) cy s _ hY ht2 HY.out (by omega)).mono ?_
  rintro e w1 ⟨YS, rfl, hYSl, hYSs, hYSd, hYSv, hb1⟩
  have HYSl := Lib.hid hYSl
  have HYSv := Lib.hid hYSv
  have hle1 : n + 2 ≤ YS.length := by omega
  have hle2 : YS.length ≤ 100 := by omega
  clear hYSl hYSv
  go_wp2_with fail
  refine (shl_at _ X (L + (n + 1)) cx s _ (hX.below hb1) ht2 HX.out (by omega)).mono ?_
  rintro e w2 ⟨RS, rfl, hRSl, hRSs, hRSd, hRSv, hb2⟩
  have HRSl := Lib.hid hRSl
  have HRSv := Lib.hid hRSv
  have hle3 : L + (n + 2) ≤ RS.length := by omega
  have hle4 : RS.length ≤ 100 := by omega
  clear hRSl hRSv
  go_wp2_with (at_make; refine wpList_make_full _ rfl _ _ 78 rfl w2.heap.size 80 i0 (.int .u32 0) 1 Try.underlying78 hi0 hz0 hz1 _ _ _ _ L rfl rfl (by omega) (by omega) (by rw [hz2]; omega) (by unfold maxLen; omega) (Nat.le_refl _) ?_; intro w3 hown3 hgrow3)
  have hb3 : Below w2.heap.size w2 w3 := (Below.refl _ _).grown hgrow3 (Nat.le_refl _) (fun g hg => by cases hg)
  rw [madeD] at hown3
  have hQd := Dg.of_own hown3
  clear hown3 hgrow3
  have hg12 : w.heap.size < w1.heap.size := hYSd.lt
  have hg23 : w1.heap.size < w2.heap.size := hRSd.lt
  have b02 : Below w.heap.size w w2 := hb1.trans (hb2.mono hb1.size)
  have b03 : Below w.heap.size w w3 := b02.trans (hb3.mono b02.size)
  have hYT0 : IsD w3 (some ⟨w.heap.size, 0, none⟩) (YS.take (n + 2)) :=
    (IsD.of_dg ((hYSd.below hb2 hg12).below hb3 (Nat.lt_trans hg12 hg23)) hYSs).take (n + 2)
  have hYTl : (YS.take (n + 2)).length = n + 2 := by rw [List.length_take]; omega
  have hYTv : dv B32 (YS.take (n + 2)) = dv B32 Y * 2 ^ s := by
    rw [← HYSv.out]
    have h3 := dv_split B32 YS (n + 2) hle1
    rcases Nat.eq_zero_or_pos (dv B32 (YS.drop (n + 2))) with g | g
    · rw [g] at h3; omega
    · have h4 : B32 ^ (n + 2) * 1 ≤ B32 ^ (n + 2) * dv B32 (YS.drop (n + 2)) := Nat.mul_le_mul_left _ g
      have h5 := HVL.out
      rw [← HYSv.out] at h5
      omega
  have hYTt : 0 < (YS.take (n + 2)).getD (n + 1) 0 := by
    obtain ⟨l, hl1, hl2⟩ := dv_high1 (YS.take (n + 2)) (n + 1) hYTl (hYSs.take _)
    rcases Nat.eq_zero_or_pos ((YS.take (n + 2)).getD (n + 1) 0) with g | g
    · exfalso
      rw [g, hYTv] at hl2
      have h4 := HGE.out
      have h5 : dv B32 Y * 1 ≤ dv B32 Y * 2 ^ s := Nat.mul_le_mul_left _ (Nat.pow_pos (by decide))
      omega
    · exact g
  have hV0 : 0 < dv B32 Y * 2 ^ s := Nat.mul_pos (Nat.lt_of_lt_of_le (Nat.pow_pos (by decide)) HGE.out) (Nat.pow_pos (by decide))
  generalize YS.take (n + 2) = YT at *
  have HYTl := Lib.hid hYTl
  have HYTv := Lib.hid hYTv
  have HYTt := Lib.hid hYTt
  have HV0 := Lib.hid hV0
  have HLS : Hid (LongDiv RS (List.replicate L 0) L (dv B32 X * 2 ^ s) (dv B32 Y * 2 ^ s)) :=
    Lib.hid (long_start (n := n) (M := L + (n + 1)) HRSl.out hRSs List.length_replicate rfl HXL.out HRSv.out HGE.out)
  have hRd3 := hRSd.below hb3 hg23
  have HQ0 := Lib.hid hQd
  clear hYTl hYTv hYTt hV0 hQd HLZ
  go_loopw [60] (fun c wr => ∃ (k : Nat) (W zs : List Nat), k ≤ L ∧ c = .int .i64 k ∧ Hid (W.length = RS.length) ∧ Small W ∧ Dg wr w1.heap.size W ∧ Hid (zs.length = L) ∧ Small zs ∧ Dg wr w2.heap.size zs ∧ IsD wr (some ⟨w.heap.size, 0, none⟩) YT ∧ Hid (LongDiv W zs (L - k) (dv B32 X * 2 ^ s) (dv B32 Y * 2 ^ s)) ∧ Below w.heap.size w wr) (fun c _ => L - (intOf c).toNat)
  case atStart => exact ⟨0, RS, _, Nat.zero_le _, rfl, Lib.hid rfl, hRSs, hRd3, Lib.hid List.length_replicate, Small.replicate _, HQ0.out, hYT0, HLS, b03⟩
  case round =>
    obtain ⟨k, W, zs, hk, rfl, HWl, hWs, hWd, HZl, hzs, hzd, hYI, HLD, hbel⟩ := hrel
    by_cases hlt : k < L
    · obtain ⟨t, ht⟩ : ∃ t, t + 1 = L - k := ⟨L - k - 1, by omega⟩
      have hmt : ((L : Int) - 1 - (k : Int)) = (t : Int) := by omega
      have htl : t < L := by omega
      have HT := Lib.hid ht
      obtain ⟨R, S, hW, hRl, hRs, hS0, hRlt, hRv⟩ := long_part (t := t) (n := n) (by rw [ht]; exact HLD.out) hWs HVL.out (by have := HWl.out; omega)
      have hPl : (W.take t).length = t := by rw [List.length_take]; have := HWl.out; omega
      have hWd2 : Dg wr w1.heap.size (W.take t ++ R ++ S) := by rw [← hW]; exact hWd
      have HW := Lib.hid hW
      have HPl := Lib.hid hPl
      have HRl := Lib.hid hRl
      have HS0 := Lib.hid hS0
      have HRlt := Lib.hid hRlt
      have hfr := hzd.frozen t
      have hcz := hzd.cell t (by have := HZl.out; omega)
      obtain ⟨z, hz⟩ : ∃ z, z = zs.getD t 0 := ⟨_, rfl⟩
      rw [← hz] at hcz
      clear ht hW hPl hRl hS0 hRlt hRv hz
      go_wp2_with fail
      rw [show t + (n + 2) + 1 - t = n + 3 from by omega]
      refine (step_at w1.heap.size (W.take t) R S YT _ n t _ _ _ hWd2 hRs hYI (by intro p hp; cases hp; exact Nat.ne_of_lt hg12) HPl.out HRl.out HYTl.out (by omega) (by rw [HYTv.out]; exact HRlt.out) HYTt.out).mono ?_
      rintro e w5 ⟨R', rfl, ⟨hR'l, hR's, hR'd, hgr⟩, hR'v⟩
      rw [HYTv.out] at hR'v
      rw [HRl.out] at hR'l
      obtain ⟨q, hq⟩ : ∃ q, q = dv B32 R / (dv B32 Y * 2 ^ s) := ⟨_, rfl⟩
      have hq32 : q < 4294967296 := by
        have := step_fits (R := R) (Y := YT) (by rw [HYTv.out]; exact HRlt.out)
        rw [HYTv.out, ← hq] at this
        exact this.1
      rw [HYTv.out, ← hq]
      have hst := long_step (by rw [HT.out]; exact HLD.out) HW.out HPl.out HRl.out hR'l HS0.out (by have := HZl.out; omega) hq hR'v HV0.out
      have HST := Lib.hid hst
      have hzd5 : Dg w5 w2.heap.size zs := hzd.kept hgr (by intro e; injection e with e; omega)
      have hYI5 := hYI.grown hgr (by intro p hp; cases hp; exact Nat.ne_of_lt hg12)
      have hbel5 := hbel.grown hgr hbel.size (fun k hk => by cases hk; omega)
      have hfr5 := hzd5.frozen t
      have hcz5 := hzd5.cell t (by have := HZl.out; omega)
      obtain ⟨z5, hz5⟩ : ∃ z, z = zs.getD t 0 := ⟨_, rfl⟩
      rw [← hz5] at hcz5
      have HR'L := Lib.hid hR'l
      have HZD5 := Lib.hid hzd5
      have HQ32 := Lib.hid hq32
      have HGR := Lib.hid hgr
      have hlen : (W.take t ++ R' ++ S).length = W.length := by
        conv => rhs; rw [HW.out]
        simp only [List.length_append]
        rw [hR'l, HRl.out]
      have HLEN := Lib.hid hlen
      clear hst hq hR'v hR'l hz5 hcz hfr hlen hq32
      go_wp2
      go_roundw
      case rel =>
        refine ⟨k + 1, W.take t ++ R' ++ S, zs.set t q, by omega, by go_num, Lib.hid (by rw [HLEN.out]; exact HWl.out), ?_, ?_, Lib.hid (by have := HZl.out; simpa using this), hzs.set _ _ HQ32.out, HZD5.out.set _ _, ?_, Lib.hid ?_, hbel5.setCell (p := ⟨w2.heap.size, t, none⟩) (show w.heap.size ≤ w2.heap.size by omega) _⟩
        · exact ((hWs.take t).app hR's).app (fun d hd => hWs d (by rw [HW.out]; exact List.mem_append_right _ hd))
        · exact hR'd.far (by simp; omega) _
        · exact ⟨hYI5.1, fun hp => by
            obtain ⟨gx, ox, he, hgx, hcx⟩ := hYI5.2 hp
            refine ⟨gx, ox, he, by simpa [World.setCell] using hgx, fun j hj => ?_⟩
            rw [World.cell?_setCell_other _ _ _ _ ?_]
            · exact hcx j hj
            · intro e
              injection he with he
              injection he with he1 _ _
              injection e with e1 _ _
              omega⟩
        · rw [show L - (k + 1) = t from by have := HT.out; omega]; exact HST.out
      case measure => simp [intOf]; omega
    · have hke : L - k = 0 := by omega
      have hend := long_end (n := n) (by rw [← hke]; exact HLD.out) HVL.out (by have := HWl.out; omega)
      have HEND := Lib.hid hend
      have hWI : IsD wr (some ⟨w1.heap.size, 0, none⟩) (W.take (n + 2)) := (IsD.of_dg hWd hWs).take _
      have hWtl : (W.take (n + 2)).length = n + 2 := by rw [List.length_take]; have := HWl.out; omega
      have HWTL := Lib.hid hWtl
      clear hend hke hWtl
      go_wp2_with fail
      refine (shr_at _ (W.take (n + 2)) (n + 2) _ s _ hWI ht2 HWTL.out (by omega)).mono ?_
      rintro e w6 ⟨FS, rfl, hFl, hFs, hFd, hFv, hb6⟩
      have HFL := Lib.hid hFl
      have HFV := Lib.hid hFv
      clear hFl hFv
      go_wp2
      go_ret2
      exact ⟨some ⟨w2.heap.size, 0, none⟩, some ⟨wr.heap.size, 0, none⟩, zs, FS, L, FS.length, by rw [HZl.out]; rfl, (IsD.of_dg hzd hzs).below hb6, IsD.of_dg hFd hFs, Nat.le_of_eq HZl.out, Nat.le_refl _, by rw [HZl.out]; omega, by rw [HFL.out]; omega, HEND.out.1, by rw [HFV.out]; exact HEND.out.2, hbel.trans (hb6.mono hbel.size)⟩
end Go.Proofs.Ytehpdpcpdfgnlaa
