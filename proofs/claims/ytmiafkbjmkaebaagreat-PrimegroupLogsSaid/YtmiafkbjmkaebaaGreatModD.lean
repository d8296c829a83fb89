/-
  Words that lie among others in a block; contracts of modular.shiftLeft and modular.shiftRight, which turn the words in place.
-/
import Derived.Test.YtmiafkbjmkaebaaGreatModC
import Derived.RegionTactic
import Derived.BigRegion
namespace Go.Proofs.YtmiafkbjmkaebaaGreat
open Go.RowKit Num

/-- Block g holds the words X, behind the cells P and ahead of the cells S. -/
def Wv (w : World) (g : Nat) (P : List Value) (X : List Nat) (S : List Value) : Prop := w.heap[g]? = some (.cells (P ++ cellsW X ++ S).toArray 61 (0, 0))
theorem Wv.of_wg {w : World} {g : Nat} {X : List Nat} (h : Wg w g X) : Wv w g [] X [] := by unfold Wv; unfold Wg at h; simpa using h
theorem Wv.lt {w : World} {g : Nat} {P S : List Value} {X : List Nat} (h : Wv w g P X S) : g < w.heap.size := by
  rcases Nat.lt_or_ge g w.heap.size with hlt | hge
  · exact hlt
  · unfold Wv at h; rw [Array.getElem?_eq_none hge] at h; cases h
theorem Wv.cell {w : World} {g : Nat} {P S : List Value} {X : List Nat} (h : Wv w g P X S) (k : Nat) (hk : k < X.length) : w.cell? ⟨g, P.length + k, none⟩ = some (.int .u64 (X.getD k 0 : Nat)) := by
  rw [cell_of_row w g (P.length + k) _ _ (0, 0) h, List.getElem?_toArray, List.append_assoc, List.getElem?_append_right (by omega), List.getElem?_append_left (by rw [cellsW_length]; omega), Nat.add_sub_cancel_left, cellsW_get X k hk]
theorem Wv.frozen {w : World} {g : Nat} {P S : List Value} {X : List Nat} (h : Wv w g P X S) (i : Nat) : w.frozen? ⟨g, i, none⟩ = false := by
  unfold Wv at h
  simp [World.frozen?, h]
theorem Wv.drew {w : World} {g : Nat} {P S : List Value} {X : List Nat} (h : Wv w g P X S) : Wv w.drew g P X S := h
theorem Wv.drewN {w : World} {g : Nat} {P S : List Value} {X : List Nat} (h : Wv w g P X S) (n : Nat) : Wv (w.drewN n) g P X S := h
theorem Wv.alloc {w : World} {g : Nat} {P S : List Value} {X : List Nat} (h : Wv w g P X S) (o : Obj) : Wv (w.alloc o) g P X S := (Below.heap_alloc w o g h.lt).trans h
theorem Wv.set {w : World} {g : Nat} {P S : List Value} {X : List Nat} (h : Wv w g P X S) (k d : Nat) (hk : k < X.length) : Wv (w.setCell ⟨g, P.length + k, none⟩ (.int .u64 (d : Int))) g P (X.set k d) S := by
  unfold Wv at h ⊢
  have e : (P ++ cellsW X ++ S).set (P.length + k) (.int .u64 (d : Int)) = P ++ cellsW (X.set k d) ++ S := by
    rw [List.append_assoc, List.set_append_right _ _ (by omega), List.set_append_left _ _ (by rw [cellsW_length]; omega), Nat.add_sub_cancel_left, cellsW_set, List.append_assoc]
  simp only [World.setCell, Array.getElem?_modify, h]
  simp [← e]
theorem Wv.far {w : World} {g : Nat} {P S : List Value} {X : List Nat} (h : Wv w g P X S) {p : Addr} (hp : g ≠ p.block) (u : Value) : Wv (w.setCell p u) g P X S := (Below.heap_setCell w p u g hp).trans h
theorem Wv.below {w w' : World} {g : Nat} {P S : List Value} {X : List Nat} {B : Nat} (h : Wv w g P X S) (hb : Below B w w') (hg : g < B) : Wv w' g P X S := (hb.block g hg).trans h
theorem Wv.kept {w w' : World} {g : Nat} {P S : List Value} {X : List Nat} {row : Option Nat} (h : Wv w g P X S) (hb : w.grownBy w' row) (hg : some g ≠ row) : Wv w' g P X S := (hb.block g h.lt hg).trans h
/-- The words between others of the same block. -/
theorem Wv.part {w : World} {g : Nat} {P S : List Value} {X Y Z : List Nat} (h : Wv w g P (X ++ Y ++ Z) S) : Wv w g (P ++ cellsW X) Y (cellsW Z ++ S) := by
  unfold Wv at h ⊢
  rw [h]
  simp [cellsW, List.append_assoc]
theorem Wv.whole {w : World} {g : Nat} {P S : List Value} {X Y Z : List Nat} (h : Wv w g (P ++ cellsW X) Y (cellsW Z ++ S)) : Wv w g P (X ++ Y ++ Z) S := by
  unfold Wv at h ⊢
  rw [h]
  simp [cellsW, List.append_assoc]
theorem Wv.isW {w : World} {g o : Nat} {P S : List Value} {X : List Nat} (h : Wv w g P X S) (hs : SmallW X) (ho : P.length = o) : IsW w (some ⟨g, o, none⟩) X :=
  ⟨hs, fun _ => ⟨g, o, rfl, h.lt, fun k hk => by rw [← ho]; exact h.cell k hk⟩⟩

/-- The words of a block are turned; all else is as it was, or new. -/
def TurnedW (w : World) (g : Nat) (P S : List Value) (n v : Nat) (e : Ending) (w' : World) : Prop :=
  ∃ rs : List Nat, e = .returned (.tuple #[]) ∧ rs.length = n ∧ SmallW rs ∧ Wv w' g P rs S ∧ dv B64 rs = v ∧ w.grownBy w' (some g)

theorem pow64 {s : Nat} (h : s < 64) : 2 ^ s * 2 ^ (64 - s) = 18446744073709551616 := by
  rw [← Nat.pow_add, show s + (64 - s) = 64 from by omega]
theorem up_div {x s : Nat} (h : s < 64) : x * 2 ^ s / 18446744073709551616 = x / 2 ^ (64 - s) := by
  rw [← pow64 h, Nat.mul_comm x, Nat.mul_div_mul_left _ _ (Nat.pow_pos (by decide))]
theorem up_mod {x s : Nat} (h : s < 64) : x * 2 ^ s % 18446744073709551616 % 2 ^ s = 0 := by
  rw [← pow64 h, Nat.mod_mul_right_mod]; exact Nat.mul_mod_left _ _
theorem up_or {x z s : Nat} (hs : s < 64) (hz : z < 2 ^ s) : bits BinOp.or IntKind.u64 (IntKind.u64.wrap ((x : Int) * 2 ^ s)) (z : Int) = ((x * 2 ^ s % 18446744073709551616 + z : Nat) : Int) ∧ x * 2 ^ s % 18446744073709551616 + z < 18446744073709551616 := by
  have h0 := up_mod (x := x) hs
  have hp : 2 ^ s ≤ 9223372036854775808 := Nat.pow_le_pow_right (n := 2) (by decide) (show s ≤ 63 by omega)
  have hm : x * 2 ^ s % 18446744073709551616 < 18446744073709551616 := Nat.mod_lt _ (by decide)
  refine ⟨?_, ?_⟩
  · rw [show ((x : Int) * 2 ^ s) = ((x * 2 ^ s : Nat) : Int) from by simp, m64_mod, u64_or_nat _ _ hm (by omega), nat_join s _ _ h0 hz]
  · obtain ⟨u, hu⟩ : ∃ u, u = 2 ^ (64 - s) := ⟨_, rfl⟩
    have hpw := pow64 hs
    rw [← hu] at hpw
    obtain ⟨q, hq⟩ := Nat.dvd_of_mod_eq_zero h0
    rw [hq] at hm ⊢
    rw [← hpw] at hm
    have := Nat.lt_of_mul_lt_mul_left hm
    have h6 : 2 ^ s * (q + 1) ≤ 2 ^ s * u := Nat.mul_le_mul_left _ this
    rw [Nat.mul_add, hpw] at h6
    omega

theorem wshl_step {X zs : List Nat} {k s z x : Nat} (hs : s < 64) (hk : k < zs.length) (hd : zs.drop k = X.drop k) (hx : x = X.getD k 0) (h : dv B64 (zs.take k) + B64 ^ k * z = dv B64 (X.take k) * 2 ^ s) :
    dv B64 ((zs.set k (x * 2 ^ s % 18446744073709551616 + z)).take (k + 1)) + B64 ^ (k + 1) * (x / 2 ^ (64 - s)) = dv B64 (X.take (k + 1)) * 2 ^ s ∧ (zs.set k (x * 2 ^ s % 18446744073709551616 + z)).drop (k + 1) = X.drop (k + 1) := by
  constructor
  · rw [dv_set_next _ _ _ _ hk, dv_take_next B64 X, ← hx, Nat.add_mul, ← h, ← up_div hs, Nat.pow_succ]
    have e := Nat.div_add_mod (x * 2 ^ s) 18446744073709551616
    generalize x * 2 ^ s / 18446744073709551616 = q at *
    generalize x * 2 ^ s % 18446744073709551616 = r at *
    have e1 : B64 ^ k * x * 2 ^ s = B64 ^ k * B64 * q + B64 ^ k * r := by
      rw [Nat.mul_assoc, ← e, Nat.mul_add, Nat.mul_assoc]; rfl
    rw [e1, Nat.mul_add]
    omega
  · rw [List.drop_set_of_lt (by omega)]
    have := congrArg (List.drop 1) hd
    simpa [List.drop_drop, Nat.add_comm] using this

set_option maxHeartbeats 1000000 in
set_option maxRecDepth 100000 in
theorem wshl_any (g o n c s : Nat) (P S : List Value) (X : List Nat) (w : World) (h : Wv w g P X S) (hP : P.length = o) (hX : SmallW X) (hn : X.length = n) (hs : s < 64) (hm : n ≤ 10000) (hlt : dv B64 X * 2 ^ s < B64 ^ n) :
    Calls Tryz.prog 86 #[.slice (some ⟨g, o, none⟩) n c, .int .i64 (s : Int)] w (TurnedW w g P S n (dv B64 X * 2 ^ s)) := by
  subst hP
  have HLT := Lib.hid hlt
  have HN := Lib.hid hn
  clear hlt hn
  go_enter Tryz.func86, Tryz.ntmps86
  go_wp2
  go_loopw [4, 9] (fun c i wr => ∃ (k z : Nat) (zs : List Nat), k ≤ n ∧ i = .int .i64 k ∧ c = .int .u64 z ∧ Hid (z < 2 ^ s) ∧ zs.length = n ∧ SmallW zs ∧ Wv wr g P zs S ∧ Hid (zs.drop k = X.drop k) ∧ Hid (dv B64 (zs.take k) + B64 ^ k * z = dv B64 (X.take k) * 2 ^ s) ∧ w.grownBy wr (some g)) (fun _ i _ => n - (intOf i).toNat)
  case atStart => exact ⟨0, 0, X, Nat.zero_le _, rfl, rfl, Lib.hid (Nat.pow_pos (by decide)), HN.out, hX, h, Lib.hid rfl, Lib.hid (by simp [dv]), World.grownBy.refl _ _⟩
  case round =>
    obtain ⟨k, z, zs, hk, rfl, rfl, HZ, hzl, hzs, hv, HD, HE, hgr⟩ := hrel
    by_cases hlt : k < n
    · have hcz := hv.cell k (by omega)
      have hfr := hv.frozen (P.length + k)
      obtain ⟨x, hx⟩ : ∃ x, x = zs.getD k 0 := ⟨_, rfl⟩
      have hx64 : x < 18446744073709551616 := by rw [hx]; exact hzs.at k
      rw [← hx] at hcz
      have hxX : x = X.getD k 0 := by
        rw [hx]
        have := congrArg (fun l => l.getD 0 0) HD.out
        simpa [getD_drop] using this
      have hor := up_or (x := x) hs HZ.out
      have hst := wshl_step hs (by omega) HD.out hxX HE.out
      have hlow : x / 2 ^ (64 - s) < 2 ^ s := by
        rw [Nat.div_lt_iff_lt_mul (Nat.pow_pos (by decide)), pow64 hs]; exact hx64
      have hdv : (x : Int) / 2 ^ (64 - s) = ((x / 2 ^ (64 - s) : Nat) : Int) := by simp
      have HOR := Lib.hid hor
      have HST := Lib.hid hst
      have HLOW := Lib.hid hlow
      have HDV := Lib.hid hdv
      have HX64 := Lib.hid hx64
      have hsi : (64 - (s : Int)).toNat = 64 - s := by omega
      have hsp : 0 ≤ 64 - (s : Int) := by omega
      clear hx hxX hor hst hlow hdv hx64
      go_wp2
      go_roundw
      case rel =>
        refine ⟨k + 1, x / 2 ^ (64 - s), zs.set k (x * 2 ^ s % 18446744073709551616 + z), by omega, by go_num, val_int HDV.out, Lib.hid HLOW.out, by simpa using hzl, hzs.set _ _ HOR.out.2, ?_, Lib.hid HST.out.2, Lib.hid HST.out.1, grown_set hgr _ _⟩
        rw [HOR.out.1]
        exact hv.set _ _ (by omega)
      case measure => simp [intOf]; omega
    · have hke : k = n := by omega
      have HL := Lib.hid (show dv B64 zs = dv B64 X * 2 ^ s by
        have h1 := HE.out
        rw [dv_take_all _ _ _ (by omega), dv_take_all _ _ _ (by have := HN.out; omega), hke] at h1
        have h2 := HLT.out
        rcases Nat.eq_zero_or_pos z with h0 | h0
        · rw [h0, Nat.mul_zero, Nat.add_zero] at h1; exact h1
        · have h3 : B64 ^ n * 1 ≤ B64 ^ n * z := Nat.mul_le_mul_left _ h0
          omega)
      clear hke
      go_wp2
      go_end0
      exact ⟨zs, rfl, hzl, hzs, hv, HL.out, hgr⟩

theorem wshr_step {X zs : List Nat} {j s z x : Nat} (hs : s < 64) (hj : j < X.length) (hl : zs.length = X.length) (hx : x = X.getD j 0) (hz : z = dv B64 (X.drop (j + 1)) % 2 ^ s * 2 ^ (64 - s))
    (h : dv B64 (zs.drop (j + 1)) = dv B64 (X.drop (j + 1)) / 2 ^ s) (ht : zs.take (j + 1) = X.take (j + 1)) :
    dv B64 ((zs.set j (x / 2 ^ s + z)).drop j) = dv B64 (X.drop j) / 2 ^ s ∧ x * 2 ^ (64 - s) % 18446744073709551616 = dv B64 (X.drop j) % 2 ^ s * 2 ^ (64 - s) ∧ (zs.set j (x / 2 ^ s + z)).take j = X.take j := by
  have hpw := pow64 hs
  have hB : B64 = 2 ^ s * 2 ^ (64 - s) := hpw.symm
  have hm : 0 < 2 ^ s := Nat.pow_pos (by decide)
  have hd := dv_drop B64 X j hj
  rw [← hx] at hd
  refine ⟨?_, ?_, ?_⟩
  · rw [dv_drop_set _ _ _ _ (by omega), h, hd, hz]
    generalize dv B64 (X.drop (j + 1)) = H at *
    rw [hB]
    generalize 2 ^ (64 - s) = u at *
    generalize 2 ^ s = m at *
    rw [Nat.mul_assoc m u H, Nat.add_mul_div_left _ _ hm]
    have e := Nat.div_add_mod H m
    have e2 : u * H = m * u * (H / m) + H % m * u := by
      rw [Nat.mul_comm m u, Nat.mul_assoc, Nat.mul_comm (H % m) u, ← Nat.mul_add, e]
    rw [e2]
    omega
  · rw [hd, hB, Nat.mul_assoc, Nat.add_mul_mod_self_left, ← hpw, Nat.mul_mod_mul_right]
  · rw [List.take_set_of_le (Nat.le_refl _)]
    have := congrArg (List.take j) ht
    simpa [List.take_take] using this
theorem shr_or {x z s H : Nat} (hs : s < 64) (hx : x < 18446744073709551616) (hz : z = H % 2 ^ s * 2 ^ (64 - s)) : bits BinOp.or IntKind.u64 ((x : Int) / 2 ^ s) (z : Int) = ((x / 2 ^ s + z : Nat) : Int) ∧ x / 2 ^ s + z < 18446744073709551616 := by
  have hpw := pow64 hs
  have hm : 0 < 2 ^ s := Nat.pow_pos (by decide)
  have h1 : x / 2 ^ s < 2 ^ (64 - s) := by rw [Nat.div_lt_iff_lt_mul hm, Nat.mul_comm, hpw]; exact hx
  have h2 : H % 2 ^ s + 1 ≤ 2 ^ s := Nat.mod_lt _ hm
  have h3 := Nat.mul_le_mul_right (2 ^ (64 - s)) h2
  rw [hpw, Nat.add_mul, ← hz, Nat.one_mul] at h3
  have hlt : x / 2 ^ s + z < 18446744073709551616 := by
    clear hz; generalize x / 2 ^ s = y at *; generalize 2 ^ (64 - s) = u at *; omega
  have hA : x / 2 ^ s < 18446744073709551616 := Nat.lt_of_le_of_lt (Nat.le_add_right _ _) hlt
  have hB : z < 18446744073709551616 := Nat.lt_of_le_of_lt (Nat.le_add_left _ _) hlt
  refine ⟨?_, hlt⟩
  rw [show ((x : Int) / 2 ^ s) = ((x / 2 ^ s : Nat) : Int) from by simp, u64_or_nat _ _ hA hB, Nat.or_comm, nat_join (64 - s) _ _ (by rw [hz]; exact Nat.mul_mod_left _ _) h1, Nat.add_comm]

set_option maxHeartbeats 1000000 in
set_option maxRecDepth 100000 in
theorem wshr_any (g o n c s : Nat) (P S : List Value) (X : List Nat) (w : World) (h : Wv w g P X S) (hP : P.length = o) (hX : SmallW X) (hn : X.length = n) (hs : s < 64) (hm : n ≤ 10000) :
    Calls Tryz.prog 115 #[.slice (some ⟨g, o, none⟩) n c, .int .i64 (s : Int)] w (TurnedW w g P S n (dv B64 X / 2 ^ s)) := by
  subst hP
  have HN := Lib.hid hn
  clear hn
  go_enter Tryz.func115, Tryz.ntmps115
  go_wp2
  go_loopw [4, 10] (fun c i wr => ∃ (k j z : Nat) (zs : List Nat), Hid (k + j = n) ∧ k ≤ n ∧ i = .int .i64 k ∧ c = .int .u64 z ∧ Hid (z = dv B64 (X.drop j) % 2 ^ s * 2 ^ (64 - s)) ∧ zs.length = n ∧ SmallW zs ∧ Wv wr g P zs S ∧ Hid (zs.take j = X.take j) ∧ Hid (dv B64 (zs.drop j) = dv B64 (X.drop j) / 2 ^ s) ∧ w.grownBy wr (some g)) (fun _ i _ => n - (intOf i).toNat)
  case atStart => exact ⟨0, n, 0, X, Lib.hid (by omega), Nat.zero_le _, rfl, rfl, Lib.hid (by rw [List.drop_eq_nil_of_le (by have := HN.out; omega)]; simp [dv]), HN.out, hX, h, Lib.hid rfl, Lib.hid (by rw [List.drop_eq_nil_of_le (by have := HN.out; omega)]; simp [dv]), World.grownBy.refl _ _⟩
  case round =>
    obtain ⟨k, j, z, zs, HJ, hk, rfl, rfl, HZ, hzl, hzs, hv, HD, HE, hgr⟩ := hrel
    by_cases hlt : k < n
    · obtain ⟨p, rfl⟩ : ∃ p, j = p + 1 := ⟨j - 1, by have := HJ.out; omega⟩
      have hpe : (n : Int) - 1 - (k : Int) = (p : Int) := by have := HJ.out; omega
      have hpn : p < n := by have := HJ.out; omega
      have hcz := hv.cell p (by omega)
      have hfr := hv.frozen (P.length + p)
      obtain ⟨x, hx⟩ : ∃ x, x = zs.getD p 0 := ⟨_, rfl⟩
      have hx64 : x < 18446744073709551616 := by rw [hx]; exact hzs.at p
      rw [← hx] at hcz
      have hxX : x = X.getD p 0 := by
        rw [hx]
        have := congrArg (fun l => l.getD p 0) HD.out
        simpa [getD_take] using this
      have hor := shr_or (x := x) hs hx64 HZ.out
      have hst := wshr_step hs (by have := HN.out; omega) (by have := HN.out; omega) hxX HZ.out HE.out HD.out
      have hup : IntKind.u64.wrap ((x : Int) * 2 ^ (64 - s)) = ((x * 2 ^ (64 - s) % 18446744073709551616 : Nat) : Int) := by
        rw [show ((x : Int) * 2 ^ (64 - s)) = ((x * 2 ^ (64 - s) : Nat) : Int) from by simp, m64_mod]
      have HOR := Lib.hid hor
      have HST := Lib.hid hst
      have HUP := Lib.hid hup
      have HX64 := Lib.hid hx64
      have hsi : (64 - (s : Int)).toNat = 64 - s := by omega
      have hsp : 0 ≤ 64 - (s : Int) := by omega
      clear hx hxX hor hst hup hx64
      go_wp2
      go_roundw
      case rel =>
        refine ⟨k + 1, p, x * 2 ^ (64 - s) % 18446744073709551616, zs.set p (x / 2 ^ s + z), Lib.hid (by have := HJ.out; omega), by omega, by go_num, val_int HUP.out, Lib.hid HST.out.2.1, by simpa using hzl, hzs.set _ _ HOR.out.2, ?_, Lib.hid HST.out.2.2, Lib.hid HST.out.1, grown_set hgr _ _⟩
        rw [HOR.out.1]
        exact hv.set _ _ (by omega)
      case measure => simp [intOf]; omega
    · have hje : j = 0 := by have := HJ.out; omega
      subst hje
      have HL := Lib.hid (show dv B64 zs = dv B64 X / 2 ^ s by simpa using HE.out)
      go_wp2
      go_end0
      exact ⟨zs, rfl, hzl, hzs, hv, HL.out, hgr⟩

end Go.Proofs.YtmiafkbjmkaebaaGreat
