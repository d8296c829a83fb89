/-
  The contract of the reference's Times.
-/
import Derived.Test.YtmiafkbjmkaebaaGreatRefA
import Derived.Test.YtmiafkbjmkaebaaGreatMul
import Derived.StillTailTactics
import Derived.Deep.RegionWith
namespace Go.Proofs.YtmiafkbjmkaebaaGreat
open Go.RowKit Num

def cellsI (xs : List Nat) : List Value := xs.map fun (d : Nat) => Value.int .i64 (d : Int)
theorem cellsI_length (xs : List Nat) : (cellsI xs).length = xs.length := by simp [cellsI]
theorem cellsI_get (xs : List Nat) (k : Nat) (h : k < xs.length) : (cellsI xs)[k]? = some (.int .i64 (xs.getD k 0 : Nat)) := by simp [cellsI, h]
theorem cellsI_set (xs : List Nat) (k d : Nat) : (cellsI xs).set k (.int .i64 (d : Int)) = cellsI (xs.set k d) := by simp [cellsI]
/-- Block g holds just the numbers xs as ints. -/
def Ig (w : World) (g : Nat) (xs : List Nat) : Prop := w.heap[g]? = some (.cells (cellsI xs).toArray 3 (0, 0))
theorem Ig.lt {w : World} {g : Nat} {xs : List Nat} (h : Ig w g xs) : g < w.heap.size := by
  rcases Nat.lt_or_ge g w.heap.size with hlt | hge
  · exact hlt
  · unfold Ig at h; rw [Array.getElem?_eq_none hge] at h; cases h
theorem Ig.cell {w : World} {g : Nat} {xs : List Nat} (h : Ig w g xs) (k : Nat) (hk : k < xs.length) : w.cell? ⟨g, k, none⟩ = some (.int .i64 (xs.getD k 0 : Nat)) := by
  rw [cell_of_row w g k _ _ (0, 0) h, List.getElem?_toArray, cellsI_get xs k hk]
theorem Ig.frozen {w : World} {g : Nat} {xs : List Nat} (h : Ig w g xs) (i : Nat) : w.frozen? ⟨g, i, none⟩ = false := by
  unfold Ig at h
  simp [World.frozen?, h]
theorem Ig.set {w : World} {g : Nat} {xs : List Nat} (h : Ig w g xs) (k d : Nat) : Ig (w.setCell ⟨g, k, none⟩ (.int .i64 (d : Int))) g (xs.set k d) := by
  unfold Ig at h ⊢
  simp [World.setCell, Array.getElem?_modify, h, ← cellsI_set]
theorem Ig.drew {w : World} {g : Nat} {xs : List Nat} (h : Ig w g xs) : Ig w.drew g xs := h
theorem Ig.drewN {w : World} {g : Nat} {xs : List Nat} (h : Ig w g xs) (n : Nat) : Ig (w.drewN n) g xs := h
theorem Ig.far {w : World} {g : Nat} {xs : List Nat} (h : Ig w g xs) {p : Addr} (hp : g ≠ p.block) (u : Value) : Ig (w.setCell p u) g xs := (Below.heap_setCell w p u g hp).trans h
theorem Ig.below {w w' : World} {g : Nat} {xs : List Nat} {B : Nat} (h : Ig w g xs) (hb : Below B w w') (hg : g < B) : Ig w' g xs := (hb.block g hg).trans h
theorem Ig.of_own {w : World} {base g n : Nat} {xs : List Nat} (h : w.ownsRow base 3 1 (.slice (some ⟨g, 0, none⟩) n n) n (cellsI xs)) : Ig w g xs := by
  rcases h.2 with ⟨h', _⟩ | ⟨g', cap, cur, hv, _, hh, _, _, hc, ht⟩
  · cases h'
  · injection hv with h1 h2 h3
    injection h1 with h1
    injection h1 with h1
    subst h1
    subst h3
    unfold Ig
    rw [hh, ← ht, List.take_of_length_le (by simp [hc])]
theorem madeI (n : Nat) : (madeCells (Value.int .i64 0).cells (n * 1)).toList = cellsI (List.replicate n 0) := by
  have : cellsI (List.replicate n 0) = List.replicate n (.int .i64 0) := by simp [cellsI]
  rw [this]
  refine List.eq_replicate_iff.2 ⟨by simp [madeCells], fun v hv => ?_⟩
  simp only [madeCells, Value.cells, Array.toList_map, List.mem_map] at hv
  obtain ⟨a, _, rfl⟩ := hv
  simp [Nat.mod_one]
theorem info_int : (Tryz.prog.info? 3).map (fun i => (i.zero, i.size, i.bytes)) = some (some (.int .i64 0), 1, 8) := by kernel_rfl

theorem row_step {s : List Nat} {a b i k : Nat} (hk : i + k < s.length) (h : dv 256 s = a % 256 ^ i * b + 256 ^ i * byteN a i * (b % 256 ^ k)) :
    dv 256 (s.set (i + k) (s.getD (i + k) 0 + byteN a i * byteN b k)) = a % 256 ^ i * b + 256 ^ i * byteN a i * (b % 256 ^ (k + 1)) := by
  rw [dv_set_add 256 s _ _ hk, h, byte_next b k, Nat.pow_add]
  grind
theorem row_end {s : List Nat} {a b i : Nat} (h : dv 256 s = a % 256 ^ i * b + 256 ^ i * byteN a i * (b % 256 ^ (bs b).size)) : dv 256 s = a % 256 ^ (i + 1) * b := by
  have hb : b < 256 ^ (bs b).size := by have := cb_lt_pow b; rwa [← bs_size] at this
  rw [h, Nat.mod_eq_of_lt hb, byte_next, Nat.add_mul]

set_option maxHeartbeats 1000000 in
set_option maxRecDepth 100000 in
theorem times_small (a b : Nat) (w : World) (h : (bs a).size + (bs b).size ≤ 8) :
    Calls Tryz.prog 119 #[.string (bs a), .string (bs b)] w (Made w (.string (bs (a * b)))) := by
  have ha : a < 256 ^ (bs a).size := by have := cb_lt_pow a; rwa [← bs_size] at this
  have hb : b < 256 ^ (bs b).size := by have := cb_lt_pow b; rwa [← bs_size] at this
  have hp : a * b < 18446744073709551616 := by
    have h1 : a * b ≤ 256 ^ (bs a).size * 256 ^ (bs b).size := Nat.mul_le_mul (Nat.le_of_lt ha) (Nat.le_of_lt hb)
    have h2 : a * b < 256 ^ (bs a).size * 256 ^ (bs b).size := Nat.mul_lt_mul'' ha hb
    rw [← Nat.pow_add] at h2
    have h3 : 256 ^ ((bs a).size + (bs b).size) ≤ 256 ^ 8 := Nat.pow_le_pow_right (by decide) h
    omega
  have ha2 : a < 18446744073709551616 := by
    have h3 : 256 ^ (bs a).size ≤ 256 ^ 8 := Nat.pow_le_pow_right (by decide) (by omega)
    omega
  have hb2 : b < 18446744073709551616 := by
    have h3 : 256 ^ (bs b).size ≤ 256 ^ 8 := Nat.pow_le_pow_right (by decide) (by omega)
    omega
  obtain ⟨p, hpd⟩ : ∃ p, p = a * b := ⟨_, rfl⟩
  have hpm : (a : Int) * (b : Int) = (p : Int) := by rw [hpd]; simp
  rw [← hpd] at hp
  have HA := Lib.hid ha2
  have HB := Lib.hid hb2
  have HP := Lib.hid hp
  have hp64 : p ≤ 18446744073709551615 := by omega
  have HPD := Lib.hid hpd
  clear ha hb hp ha2 hb2 hpd
  go_enter Tryz.func119, Tryz.ntmps119
  go_wp2_with fail
  refine (ru64_any a _ HA.out).mono ?_
  rintro e w' ⟨rfl, rfl⟩
  go_wp2_with fail
  refine (ru64_any b _ HB.out).mono ?_
  rintro e w' ⟨rfl, rfl⟩
  go_wp2_with fail
  refine (rof_any p _ HP.out).mono ?_
  rintro e w1 ⟨rfl, hb1⟩
  go_wp2
  go_ret
  exact ⟨ret_str (by rw [HPD.out]), hb1⟩

set_option maxHeartbeats 2000000 in
set_option maxRecDepth 100000 in
theorem times_long (a b : Nat) (w : World) (h : 8 < (bs a).size + (bs b).size) (h1 : (bs a).size ≤ 2000) (h2 : (bs b).size ≤ 2000) :
    Calls Tryz.prog 119 #[.string (bs a), .string (bs b)] w (Made w (.string (bs (a * b)))) := by
  obtain ⟨i0, hi0, hz0, hz1, hz2⟩ := info_parts info_u8
  obtain ⟨j0, hj0, jz0, jz1, jz2⟩ := info_parts info_int
  obtain ⟨L, hL⟩ : ∃ L, L = (bs a).size + (bs b).size := ⟨_, rfl⟩
  have hLi : ((bs a).size : Int) + ((bs b).size : Int) = (L : Int) := by omega
  have hL8 : 8 < L := by omega
  have hl : L ≤ 4000 := by omega
  have HL := Lib.hid hL
  clear hL
  go_enter Tryz.func119, Tryz.ntmps119
  go_wp2_with (at_make; refine wpList_make_full _ rfl _ _ 149 rfl w.heap.size 3 j0 (.int .i64 0) 1 Tryz.underlying149 hj0 jz0 jz1 _ _ _ _ (L + 1) rfl rfl (by omega) (by omega) (by rw [jz2]; omega) (by unfold maxLen; omega) (Nat.le_refl _) ?_; intro w0 hown0 hgrow0)
  have hb0 : Below w.heap.size w w0 := (Below.refl _ _).grown hgrow0 (Nat.le_refl _) (fun g hg => by cases hg)
  rw [madeI] at hown0
  have hI0 := Ig.of_own hown0
  clear hown0 hgrow0
  go_loopw [7] (fun u wr => ∃ (i : Nat) (s : List Nat), i ≤ (bs a).size ∧ u = .int .i64 i ∧ Hid (s.length = L + 1) ∧ AllLe s (i * (bs b).size * 65025) ∧ Ig wr w.heap.size s ∧ Hid (dv 256 s = a % 256 ^ i * b) ∧ Below w.heap.size w wr) (fun u _ => (bs a).size - (intOf u).toNat)
  case atStart => exact ⟨0, _, Nat.zero_le _, rfl, Lib.hid List.length_replicate, by intro c hc; rw [List.eq_of_mem_replicate hc]; exact Nat.zero_le _, hI0, Lib.hid (by rw [dv_replicate]; simp [Nat.mod_one]), hb0⟩
  case round =>
    obtain ⟨i, s, hi, rfl, HSL, hall, hI, HV, hbel⟩ := hrel
    by_cases hlt : i < (bs a).size
    · have HIH := Lib.hid (show i < (bs a).size from hlt)
      go_wp2
      obtain ⟨wo, rfl⟩ : ∃ wo : World, wo = wr := ⟨_, rfl⟩
      go_loopw [8] (fun u wr => ∃ (k : Nat) (s : List Nat), k ≤ (bs b).size ∧ u = .int .i64 k ∧ Hid (s.length = L + 1) ∧ AllLe s ((i * (bs b).size + k) * 65025) ∧ Ig wr w.heap.size s ∧ Hid (dv 256 s = a % 256 ^ i * b + 256 ^ i * byteN a i * (b % 256 ^ k)) ∧ Below w.heap.size w wr) (fun u _ => (bs b).size - (intOf u).toNat)
      case atStart => exact ⟨0, s, Nat.zero_le _, rfl, HSL, hall, hI, Lib.hid (by rw [HV.out]; simp [Nat.mod_one]), hbel⟩
      case round =>
        clear HSL hall hI HV hbel s
        obtain ⟨k, s, hk, rfl, HSL, hall, hI, HV, hbel⟩ := hrel
        by_cases hlk : k < (bs b).size
        · have hik : i + k < s.length := by have := HSL.out; have := HL.out; omega
          have hikL : i + k < L + 1 := by have := HL.out; omega
          have hcz := hI.cell (i + k) hik
          have hfr := hI.frozen (i + k)
          have hst := row_step hik HV.out
          have hc0 : s.getD (i + k) 0 ≤ (i * (bs b).size + k) * 65025 := hall.at _
          obtain ⟨c0, hc0d⟩ : ∃ c0, c0 = s.getD (i + k) 0 := ⟨_, rfl⟩
          rw [← hc0d] at hcz hst hc0
          have hx : byteN a i < 256 := Nat.mod_lt _ (by decide)
          have hy : byteN b k < 256 := Nat.mod_lt _ (by decide)
          obtain ⟨x, hxd⟩ : ∃ x, byteN a i = x := ⟨_, rfl⟩
          obtain ⟨y, hyd⟩ : ∃ y, byteN b k = y := ⟨_, rfl⟩
          have A1 : ∀ W, Calls Tryz.prog 83 #[.string (bs a), .int .i64 i] W (Same W (.int .i64 (x : Int))) := fun W => by
            have := at_any a i W (by omega) (by omega); rw [hxd] at this; exact this
          have A2 : ∀ W, Calls Tryz.prog 83 #[.string (bs b), .int .i64 k] W (Same W (.int .i64 (y : Int))) := fun W => by
            have := at_any b k W (by omega) (by omega); rw [hyd] at this; exact this
          rw [hxd, hyd] at hst
          rw [hxd] at hx
          rw [hyd] at hy
          obtain ⟨p, hp⟩ : ∃ p, p = x * y := ⟨_, rfl⟩
          have hpm : (x : Int) * (y : Int) = (p : Int) := by rw [hp]; simp
          have hp2 : p ≤ 65025 := by rw [hp]; exact Nat.mul_le_mul (show x ≤ 255 by omega) (show y ≤ 255 by omega)
          rw [← hp] at hst
          have hnn : i * (bs b).size ≤ 4000000 := Nat.mul_le_mul (show i ≤ 2000 by omega) h2
          have hc0b : c0 ≤ 260230050000 := by omega
          have HST := Lib.hid hst
          have HXD := Lib.hid hxd
          have HC0 := Lib.hid hc0
          have HALL := Lib.hid hall
          have HA1 := Lib.hid A1
          have HA2 := Lib.hid A2
          clear hst hc0 hc0d hxd hyd hp hnn hall A1 A2
          have q1 : IntKind.i64.wrap ((i : Int) + (k : Int)) = (i : Int) + (k : Int) := IntWalk.i64_in _ (by omega)
          have q2 : (0 : Int) ≤ (i : Int) + (k : Int) := by omega
          have q3 : (i : Int) + (k : Int) < (L : Int) + 1 := by omega
          have q4 : ((i : Int) + (k : Int)).toNat = i + k := by omega
          go_wp2
          go_region_with (first | (go_at_call 83; (with_reducible refine (HA1.out _).mono ?_); rintro e w' ⟨rfl, rfl⟩) | (go_at_call 83; (with_reducible refine (HA2.out _).mono ?_); rintro e w' ⟨rfl, rfl⟩))
          all_goals
            go_wp2
            go_roundw
            case rel =>
              refine ⟨k + 1, s.set (i + k) (c0 + p), by omega, by go_num, Lib.hid (by have := HSL.out; simpa using this), ?_, ?_, Lib.hid (by rw [HXD.out]; exact HST.out), ?_⟩
              · have e1 : (i * (bs b).size + (k + 1)) * 65025 = (i * (bs b).size + k) * 65025 + 65025 := by omega
                rw [e1]
                exact AllLe.set HALL.out (Nat.le_add_right _ _) _ _ (by have := HC0.out; omega)
              · rw [show (c0 : Int) + (p : Int) = ((c0 + p : Nat) : Int) from by omega]
                first | exact (hI.set _ _).drew | exact hI.set _ _
              · first | exact (hbel.setCell (Nat.le_refl _) _).drew | exact hbel.setCell (Nat.le_refl _) _
            case measure => show (bs b).size - ((k : Int) + 1).toNat < (bs b).size - ((k : Int)).toNat; omega
        · have hke : k = (bs b).size := by omega
          subst hke
          have HNX := Lib.hid (row_end HV.out)
          go_wp2
          go_roundw
          case rel => exact ⟨i + 1, s, by omega, by go_num, HSL, by rw [Nat.succ_mul]; exact hall, hI, HNX, hbel⟩
          case measure => simp [intOf]; omega
    · have hie : i = (bs a).size := by omega
      have hfull : dv 256 s = a * b := by
        have ha : a < 256 ^ (bs a).size := by have := cb_lt_pow a; rwa [← bs_size] at this
        rw [HV.out, hie, Nat.mod_eq_of_lt ha]
      have hall2 : AllLe s 260230050000 := fun c hc => Nat.le_trans (hall c hc) (by
        have : i * (bs b).size ≤ 2000 * 2000 := Nat.mul_le_mul (by omega) h2
        omega)
      have HF := Lib.hid hfull
      have HALL := Lib.hid hall2
      clear hie hfull hall hall2 HV
      go_wp2_with (at_make; refine wpList_make_full _ rfl _ _ 88 rfl w.heap.size 5 i0 (.int .u8 0) 1 Tryz.underlying88 hi0 hz0 hz1 _ _ _ _ L rfl rfl (by omega) (by omega) (by rw [hz2]; omega) (by unfold maxLen; omega) hbel.size ?_; intro w2 hown2 hgrow2)
      have hb2 : Below w.heap.size w w2 := hbel.grown hgrow2 hbel.size (fun g hg => by cases hg)
      rw [madeB] at hown2
      have hB2 := Bt.of_own hown2
      have hg2 : w.heap.size < wr.heap.size := hI.lt
      have hI2 : Ig w2 w.heap.size s := (hgrow2.block _ hg2 (by simp)).trans hI
      have hB02 : Below wr.heap.size wr w2 := (Below.refl _ _).grown hgrow2 (Nat.le_refl _) (fun g hg => by cases hg)
      clear hown2 hgrow2
      obtain ⟨wo, rfl⟩ : ∃ wo : World, wo = wr := ⟨_, rfl⟩
      go_loopw [10, 11] (fun u v wq => ∃ (i c : Nat) (l : List UInt8), i ≤ L ∧ v = .int .i64 i ∧ u = .int .i64 c ∧ c ≤ 260230050000 ∧ Hid (l.length = L) ∧ Bt wq wo.heap.size l ∧ Ig wq w.heap.size s ∧ Hid (bval (l.drop (L - i)) + 256 ^ i * c = dv 256 (s.take i)) ∧ Below w.heap.size w wq) (fun _ v _ => L - (intOf v).toNat)
      case atStart => exact ⟨0, 0, _, Nat.zero_le _, rfl, rfl, by omega, Lib.hid List.length_replicate, hB2, hI2, Lib.hid (by simp [bval, dv]), hb2⟩
      case round =>
        clear hB2 hI2 hb2 hB02 hI hbel
        obtain ⟨i, c, l, hi, rfl, rfl, hc, HLL, hB, hI, HV, hbel⟩ := hrel
        by_cases hlt : i < L
        · obtain ⟨t, ht⟩ : ∃ t, t + 1 + i = L := ⟨L - 1 - i, by omega⟩
          have hti : (L : Int) - 1 - (i : Int) = (t : Int) := by omega
          have htl : t < L := by omega
          have hfr := hB.frozen t
          have hcz := hB.cell t (by have := HLL.out; omega)
          obtain ⟨z, hz⟩ : ∃ z, z = (l.getD t 0).toNat := ⟨_, rfl⟩
          rw [← hz] at hcz
          have hcs := hI.cell i (by have := HSL.out; omega)
          obtain ⟨x, hxd⟩ : ∃ x, x = s.getD i 0 := ⟨_, rfl⟩
          have hx : x ≤ 260230050000 := by rw [hxd]; exact HALL.out.at i
          rw [← hxd] at hcs
          obtain ⟨d, hd⟩ : ∃ d, d = UInt8.ofNat ((x + c) % 256) := ⟨_, rfl⟩
          have hdn : d.toNat = (x + c) % 256 := by rw [hd, UInt8.toNat_ofNat']; omega
          have hdi : ((x : Int) + (c : Int)) % 256 = (d.toNat : Int) := by omega
          have hdl : d.toNat < 256 := byte_lt d
          have hst : bval ((l.set t d).drop t) + 256 ^ (i + 1) * ((x + c) / 256) = dv 256 (s.take (i + 1)) := by
            have hv := HV.out
            rw [show L - i = t + 1 from by omega] at hv
            rw [bval_set_drop l t d (by have := HLL.out; omega), HLL.out, show L - t - 1 = i from by omega, hdn, dv_take_next, ← hxd, Nat.pow_succ, ← hv]
            have e := Nat.div_add_mod (x + c) 256
            generalize 256 ^ i = p at *
            have e2 : p * 256 * ((x + c) / 256) + (x + c) % 256 * p = p * x + p * c := by
              rw [Nat.mul_assoc, Nat.mul_comm _ p, ← Nat.mul_add, e, Nat.mul_add]
            omega
          have HST := Lib.hid hst
          have HT := Lib.hid ht
          clear hst ht hz hd hdn hxd
          go_wp2
          go_roundw
          case rel => exact ⟨i + 1, (x + c) / 256, l.set t d, by omega, by go_num, by go_num, by omega, Lib.hid (by have := HLL.out; simpa using this), hB.set _ _, hI.far (by simp; omega) _, Lib.hid (by rw [show L - (i + 1) = t from by have := HT.out; omega]; exact HST.out), hbel.setCell (p := ⟨wo.heap.size, t, none⟩) (Nat.le_of_lt hg2) _⟩
          case measure => simp [intOf]; omega
        · have hie : i = L := by omega
          subst hie
          have hfin : bval l = a * b := by
            have hv := HV.out
            rw [Nat.sub_self, List.drop_zero] at hv
            have h3 := dv_split 256 s i (by have := HSL.out; omega)
            have hab : a * b < 256 ^ i := by
              have ha : a < 256 ^ (bs a).size := by have := cb_lt_pow a; rwa [← bs_size] at this
              have hb : b < 256 ^ (bs b).size := by have := cb_lt_pow b; rwa [← bs_size] at this
              rw [HL.out, Nat.pow_add]
              exact Nat.mul_lt_mul'' ha hb
            have hbl := bval_lt l
            rw [HLL.out] at hbl
            rw [HF.out] at h3
            rcases Nat.eq_zero_or_pos (dv 256 (s.drop i)) with g | g
            · rcases Nat.eq_zero_or_pos c with rfl | hc0
              · rw [g] at h3; omega
              · have : 256 ^ i * 1 ≤ 256 ^ i * c := Nat.mul_le_mul_left _ hc0
                rw [g] at h3; omega
            · have : 256 ^ i * 1 ≤ 256 ^ i * dv 256 (s.drop i) := Nat.mul_le_mul_left _ g
              omega
          have HFIN := Lib.hid hfin
          clear hfin
          go_wp2_with fail
          refine (rtrim_any wo.heap.size l i _ hB HLL.out (by omega)).mono ?_
          rintro e w' ⟨rfl, rfl⟩
          go_wp2
          go_ret
          exact ⟨ret_str (by rw [HFIN.out]), hbel⟩
end Go.Proofs.YtmiafkbjmkaebaaGreat
