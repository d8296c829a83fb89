/-
  The contract of natural.columns.fill: the columns of a product. The contract of natural.columns.digits: the digits of a number that is given by columns. Contracts of natural.Mul for canonical arguments.
-/
import Derived.Test.YtmiafkbjmkaebaaGreatNatA
import Derived.Laws.CopyOwn
import Derived.RegionTactic
import Derived.BigRegion
namespace Go.Proofs.YtmiafkbjmkaebaaGreat
open Go.RowKit Num

def cellsC (xs : List Nat) : List Value := xs.map fun (d : Nat) => Value.int .u64 (d : Int)
theorem cellsC_length (xs : List Nat) : (cellsC xs).length = xs.length := by simp [cellsC]
theorem cellsC_get (xs : List Nat) (k : Nat) (h : k < xs.length) : (cellsC xs)[k]? = some (.int .u64 (xs.getD k 0 : Nat)) := by simp [cellsC, h]
theorem cellsC_set (xs : List Nat) (k d : Nat) : (cellsC xs).set k (.int .u64 (d : Int)) = cellsC (xs.set k d) := by simp [cellsC]
/-- Block g holds just the numbers xs of 64 bits. -/
def Cg (w : World) (g : Nat) (t : TypeId) (xs : List Nat) : Prop := w.heap[g]? = some (.cells (cellsC xs).toArray t (0, 0))
theorem Cg.lt {w : World} {g : Nat} {t : TypeId} {xs : List Nat} (h : Cg w g t xs) : g < w.heap.size := by
  rcases Nat.lt_or_ge g w.heap.size with hlt | hge
  · exact hlt
  · unfold Cg at h; rw [Array.getElem?_eq_none hge] at h; cases h
theorem Cg.cell {w : World} {g : Nat} {t : TypeId} {xs : List Nat} (h : Cg w g t xs) (k : Nat) (hk : k < xs.length) : w.cell? ⟨g, k, none⟩ = some (.int .u64 (xs.getD k 0 : Nat)) := by
  rw [cell_of_row w g k _ _ (0, 0) h, List.getElem?_toArray, cellsC_get xs k hk]
theorem Cg.frozen {w : World} {g : Nat} {t : TypeId} {xs : List Nat} (h : Cg w g t xs) (i : Nat) : w.frozen? ⟨g, i, none⟩ = false := by
  unfold Cg at h
  simp [World.frozen?, h]
theorem Cg.set {w : World} {g : Nat} {t : TypeId} {xs : List Nat} (h : Cg w g t xs) (k d : Nat) : Cg (w.setCell ⟨g, k, none⟩ (.int .u64 (d : Int))) g t (xs.set k d) := by
  unfold Cg at h ⊢
  simp [World.setCell, Array.getElem?_modify, h, ← cellsC_set]
theorem Cg.drew {w : World} {g : Nat} {t : TypeId} {xs : List Nat} (h : Cg w g t xs) : Cg w.drew g t xs := h
theorem Cg.below {w w' : World} {g : Nat} {t : TypeId} {xs : List Nat} {B : Nat} (h : Cg w g t xs) (hb : Below B w w') (hg : g < B) : Cg w' g t xs := (hb.block g hg).trans h

def zeros64 : List Nat := List.replicate 64 0
theorem run_clear (w : World) (g : Nat) (t : TypeId) (xs : List Nat) (h : Cg w g t xs) (hl : xs.length = 64) : ∃ w0, (∀ ty, (Builtin.clear_ #[79] ty #[.slice (some ⟨g, 0, none⟩) 64 64]).run Tryz.prog w = .ok (.tuple #[]) w0) ∧
    Cg w0 g t (zeros64) ∧ w.grownBy w0 (some g) := by
  have hl0 : (cellsC zeros64).length = 64 := by unfold zeros64; rw [cellsC_length, List.length_replicate]
  have hz : (Builtin.zeroCells (Value.int .u64 0).cells 64).toList = cellsC (zeros64) := by
    unfold zeros64 cellsC
    rw [List.map_replicate]
    refine List.eq_replicate_iff.2 ⟨by simp [Builtin.zeroCells, Value.cells], fun v hv => ?_⟩
    simp only [Builtin.zeroCells, Value.cells, Array.toList_map, List.mem_map] at hv
    obtain ⟨a, _, rfl⟩ := hv
    simp [Nat.mod_one]
  refine ⟨w.setRow g (cellsC (zeros64)).toArray, fun ty => ?_, setRow_heap w g _ _ _ _ h, ⟨rfl, rfl, rfl, by simp [World.setRow], fun k _ hne => setRow_other w g k _ (fun e => hne (by rw [e]))⟩⟩
  have hst := run_storeCells_from (P := Tryz.prog) g t (cellsC (zeros64)) 0 _ w h (by rw [hl0]; simp [cellsC_length, hl]) (fun v hv => by
    simp only [zeros64, cellsC, List.map_replicate] at hv
    rw [List.eq_of_mem_replicate hv]; rfl)
  rw [List.take_zero, List.nil_append] at hst
  simp [Builtin.clear_, run_underlying Tryz.underlying79, hz, hst]

def AllLe (cs : List Nat) (n : Nat) : Prop := ∀ c ∈ cs, c ≤ n
theorem AllLe.at {cs : List Nat} {n : Nat} (h : AllLe cs n) (k : Nat) : cs.getD k 0 ≤ n := by
  rw [List.getD_eq_getElem?_getD]
  rcases Nat.lt_or_ge k cs.length with g | g
  · rw [List.getElem?_eq_getElem g]; exact h _ (List.getElem_mem g)
  · rw [List.getElem?_eq_none g]; exact Nat.zero_le _
theorem AllLe.set {cs : List Nat} {n m : Nat} (h : AllLe cs n) (hnm : n ≤ m) (k d : Nat) (hd : d ≤ m) : AllLe (cs.set k d) m := by
  intro x hx
  rcases List.mem_or_eq_of_mem_set hx with g | g
  · exact Nat.le_trans (h _ g) hnm
  · rw [g]; exact hd
theorem fill_step {cs X Y : List Nat} {i j p : Nat} (hc : i + j + 1 < cs.length) (h : dv B32 cs = dv B32 (X.take i) * dv B32 Y + B32 ^ i * X.getD i 0 * dv B32 (Y.take j)) (hp : p = X.getD i 0 * Y.getD j 0) :
    dv B32 ((cs.set (i + j) (cs.getD (i + j) 0 + p % B32)).set (i + j + 1) (cs.getD (i + j + 1) 0 + p / B32)) = dv B32 (X.take i) * dv B32 Y + B32 ^ i * X.getD i 0 * dv B32 (Y.take (j + 1)) := by
  have h1 := dv_set_add B32 cs (i + j) (p % B32) (by omega)
  have h2 := dv_set_add B32 (cs.set (i + j) (cs.getD (i + j) 0 + p % B32)) (i + j + 1) (p / B32) (by simpa using hc)
  have h3 : (cs.set (i + j) (cs.getD (i + j) 0 + p % B32)).getD (i + j + 1) 0 = cs.getD (i + j + 1) 0 := by
    simp [List.getD_eq_getElem?_getD]
  rw [h3] at h2
  rw [h2, h1, h, dv_take_next, Nat.mul_add]
  have e := Nat.div_add_mod p B32
  have e2 : B32 ^ i * X.getD i 0 * (B32 ^ j * Y.getD j 0) = B32 ^ (i + j) * p := by
    rw [hp, Nat.pow_add]; grind
  rw [e2, Nat.pow_succ (m := i + j)]
  have e3 : B32 ^ (i + j) * p = B32 ^ (i + j) * B32 * (p / B32) + B32 ^ (i + j) * (p % B32) := by
    rw [Nat.mul_assoc, ← Nat.mul_add, e]
  omega
theorem fill_next {cs X Y : List Nat} {i : Nat} (h : dv B32 cs = dv B32 (X.take i) * dv B32 Y + B32 ^ i * X.getD i 0 * dv B32 (Y.take Y.length)) : dv B32 cs = dv B32 (X.take (i + 1)) * dv B32 Y := by
  rw [h, List.take_length, dv_take_next, Nat.add_mul]

/-- fill leaves the columns of the product. -/
def Filled (w : World) (g : Nat) (t : TypeId) (v : Nat) (e : Ending) (w' : World) : Prop :=
  e = .returned (.tuple #[]) ∧ ∃ cs : List Nat, cs.length = 64 ∧ AllLe cs 4398046511104 ∧ Cg w' g t cs ∧ dv B32 cs = v ∧ w.grownBy w' (some g)

set_option maxHeartbeats 1000000 in
set_option maxRecDepth 100000 in
theorem fill_any (g : Nat) (t : TypeId) (A B : Option Addr) (X Y cs : List Nat) (cx cy : Nat) (w : World) (hg : Cg w g t cs) (hc : cs.length = 64) (hX : IsD w A X) (hY : IsD w B Y) (hAg : Apart A g) (hBg : Apart B g) (hx : X.length ≤ 32) (hy : Y.length ≤ 32) :
    Calls Tryz.prog 145 #[.pointer (some ⟨g, 0, none⟩), .slice A X.length cx, .slice B Y.length cy] w (Filled w g t (dv B32 X * dv B32 Y)) := by
  obtain ⟨w0, hclr, hg0, hgr0⟩ := run_clear w g t cs hg hc
  go_enter Tryz.func145, Tryz.ntmps145
  go_wp2_with fail
  clear hclr hg
  go_loopw [14] (fun c wr => ∃ (i : Nat) (cs : List Nat), i ≤ X.length ∧ c = .int .i64 i ∧ cs.length = 64 ∧ AllLe cs (i * Y.length * 4294967296) ∧ Cg wr g t cs ∧ Hid (dv B32 cs = dv B32 (X.take i) * dv B32 Y) ∧ w.grownBy wr (some g)) (fun c _ => X.length - (intOf c).toNat)
  case atStart => exact ⟨0, zeros64, Nat.zero_le _, rfl, List.length_replicate, by intro c hc; rw [List.eq_of_mem_replicate hc]; exact Nat.zero_le _, hg0, Lib.hid (by unfold zeros64; rw [dv_replicate]; simp [dv]), hgr0⟩
  case round =>
    obtain ⟨i, cs, hi, rfl, hcl, hca, hcg, HE, hgr⟩ := hrel
    by_cases hlt : i < X.length
    · obtain ⟨gx, ox, rfl, hgx, hcx⟩ := hX.2 (by omega)
      have hcx0 := hcx i hlt
      obtain ⟨x, hxd⟩ : ∃ x, x = X.getD i 0 := ⟨_, rfl⟩
      have hx32 : x < 4294967296 := by rw [hxd]; exact hX.1.at i
      rw [← hxd] at hcx0
      have HXD := Lib.hid hxd
      clear hxd hcx
      go_wp2_with fail
      obtain ⟨wo, rfl⟩ : ∃ wo : World, wo = wr := ⟨_, rfl⟩
      have HIH := Lib.hid (show i < X.length from hlt)
      go_loopw [19] (fun c wr => ∃ (j : Nat) (cs : List Nat), j ≤ Y.length ∧ c = .int .i64 j ∧ cs.length = 64 ∧ AllLe cs ((i * Y.length + j) * 4294967296) ∧ Cg wr g t cs ∧ Hid (dv B32 cs = dv B32 (X.take i) * dv B32 Y + B32 ^ i * X.getD i 0 * dv B32 (Y.take j)) ∧ w.grownBy wr (some g)) (fun c _ => Y.length - (intOf c).toNat)
      case atStart => exact ⟨0, cs, Nat.zero_le _, rfl, hcl, hca, hcg, Lib.hid (by rw [HE.out]; simp [dv]), hgr⟩
      case round =>
        clear hcl hca hcg HE hgr
        clear cs
        obtain ⟨j, cs, hj, rfl, hcl, hca, hcg, HE, hgr⟩ := hrel
        by_cases hlj : j < Y.length
        · obtain ⟨gy, oy, rfl, hgy, hcy⟩ := hY.2 (by omega)
          have hcy0 := (grown_cell hgr (p := ⟨gy, oy + j, none⟩) hgy (hBg ⟨gy, oy, none⟩ rfl)).trans (hcy j hlj)
          have hcx1 := (grown_cell hgr (p := ⟨gx, ox + i, none⟩) hgx (hAg ⟨gx, ox, none⟩ rfl)).trans hcx0
          obtain ⟨y, hyd⟩ : ∃ y, y = Y.getD j 0 := ⟨_, rfl⟩
          have hy32 : y < 4294967296 := by rw [hyd]; exact hY.1.at j
          rw [← hyd] at hcy0
          obtain ⟨p, hp⟩ : ∃ p, p = x * y := ⟨_, rfl⟩
          have hmul : (x : Int) * (y : Int) = (p : Int) := by rw [hp]; simp
          have hp64 : p ≤ 18446744065119617025 := by
            rw [hp]; exact Nat.mul_le_mul (show x ≤ 4294967295 by omega) (show y ≤ 4294967295 by omega)
          have hn1 : (i * Y.length + j) * 4294967296 ≤ 1024 * 4294967296 := by
            refine Nat.mul_le_mul_right _ ?_
            have : i * Y.length ≤ 31 * 32 := Nat.mul_le_mul (by omega) hy
            omega
          obtain ⟨c0, hc0⟩ : ∃ c0, c0 = cs.getD (i + j) 0 := ⟨_, rfl⟩
          obtain ⟨c1, hc1⟩ : ∃ c1, c1 = cs.getD (i + j + 1) 0 := ⟨_, rfl⟩
          have hc0l : c0 ≤ (i * Y.length + j) * 4294967296 := by rw [hc0]; exact hca.at _
          have hc1l : c1 ≤ (i * Y.length + j) * 4294967296 := by rw [hc1]; exact hca.at _
          have hst := fill_step (by omega) HE.out (show p = X.getD i 0 * Y.getD j 0 by rw [hp, HXD.out, hyd])
          rw [← hc0, ← hc1] at hst
          have hk0 := hcg.cell (i + j) (by omega)
          have hk1 := hcg.cell (i + j + 1) (by omega)
          rw [← hc0] at hk0
          rw [← hc1] at hk1
          have hf0 := hcg.frozen (i + j)
          have hf1 := hcg.frozen (i + j + 1)
          have hand : bits BinOp.and IntKind.u64 (p : Int) 4294967295 = ((p % 4294967296 : Nat) : Int) := by
            have := u64_and_nat p 4294967295 (by omega) (by omega)
            rw [Nat.and_two_pow_sub_one_eq_mod p 32] at this
            exact this
          have HST := Lib.hid hst
          have HN := Lib.hid hn1
          have HC0 := Lib.hid hc0l
          have HC1 := Lib.hid hc1l
          have hc0b : c0 ≤ 4398046511104 := by omega
          have hc1b : c1 ≤ 4398046511104 := by omega
          have HCS := Lib.hid hca
          clear hst hn1 hc0l hc1l hc0 hc1 hp hyd hca hcy
          go_wp2
          go_region
          go_wp2
          go_region
          go_wp2
          go_region
          go_wp2
          go_roundw
          case rel =>
            refine ⟨j + 1, (cs.set (i + j) (c0 + p % 4294967296)).set (i + j + 1) (c1 + p / 4294967296), by omega, by go_num, by simpa using hcl, ?_, ?_, HST, ?_⟩
            · have e1 : (i * Y.length + (j + 1)) * 4294967296 = (i * Y.length + j) * 4294967296 + 4294967296 := by rw [← Nat.add_assoc, Nat.succ_mul]
              have h0 := HC0.out
              have h1 := HC1.out
              rw [e1]
              refine AllLe.set (AllLe.set HCS.out (Nat.le_add_right _ 4294967296) _ _ ?_) (Nat.le_refl _) _ _ ?_
              · have : p % 4294967296 < 4294967296 := Nat.mod_lt _ (by decide)
                omega
              · have : p / 4294967296 < 4294967296 := by omega
                omega
            · rw [show (c0 : Int) + (p : Int) % 4294967296 = ((c0 + p % 4294967296 : Nat) : Int) from by omega, show (c1 : Int) + (p : Int) / 4294967296 = ((c1 + p / 4294967296 : Nat) : Int) from by omega]
              exact (hcg.set _ _).set _ _
            · exact grown_drew (grown_drew (grown_drew (grown_set (grown_set hgr _ _) _ _)))
          case measure => simp [intOf]; omega
        · have hje : j = Y.length := by omega
          subst hje
          have HNX := Lib.hid (fill_next HE.out)
          go_wp2
          go_roundw
          case rel => exact ⟨i + 1, cs, by omega, by go_num, hcl, by rw [Nat.succ_mul]; exact hca, hcg, HNX, hgr⟩
          case measure => simp [intOf]; omega
    · have hie : i = X.length := by omega
      have hle : X.length * Y.length ≤ 32 * 32 := Nat.mul_le_mul hx hy
      have HF := Lib.hid (show dv B32 cs = dv B32 X * dv B32 Y by rw [HE.out, hie, List.take_length])
      have HCA := Lib.hid (show AllLe cs 4398046511104 from fun c hc => Nat.le_trans (hca c hc) (by rw [hie]; omega))
      clear hle hca hie
      go_wp2
      go_end0
      exact ⟨rfl, cs, hcl, HCA.out, hcg, HF.out, hgr⟩
end Go.Proofs.YtmiafkbjmkaebaaGreat

namespace Go.Proofs.YtmiafkbjmkaebaaGreat
open Go.RowKit Num

theorem cols_last {cs zs : List Nat} {c : Nat} (hz : zs.length = 64) (h : dv B32 (zs.take 64) + B32 ^ 64 * c = dv B32 (cs.take 64) + dv B32 (([] : List Nat).take 64)) (hl : cs.length = 64) (hv : dv B32 cs < B32 ^ 64) : dv B32 zs = dv B32 cs := by
  rw [dv_take_all _ _ _ (by omega), dv_take_all _ _ _ (by omega), List.take_nil, dv_nil] at h
  rcases Nat.eq_zero_or_pos c with rfl | hc
  · omega
  · have : B32 ^ 64 * 1 ≤ B32 ^ 64 * c := Nat.mul_le_mul_left _ hc
    omega

set_option maxHeartbeats 1000000 in
set_option maxRecDepth 100000 in
theorem columns_any (g : Nat) (t : TypeId) (cs : List Nat) (w : World) (hg : Cg w g t cs) (hc : cs.length = 64) (ha : AllLe cs 4398046511104) (hv : dv B32 cs < B32 ^ 64) :
    Calls Tryz.prog 146 #[.pointer (some ⟨g, 0, none⟩)] w (MadeD w 64 (dv B32 cs)) := by
  obtain ⟨i0, hi0, hz0, hz1, hz2⟩ := info_parts info_u32
  have HV := Lib.hid hv
  clear hv
  go_enter Tryz.func146, Tryz.ntmps146
  go_wp2_with (at_make; refine wpList_make_full _ rfl _ _ 98 rfl w.heap.size 124 i0 (.int .u32 0) 1 Tryz.underlying98 hi0 hz0 hz1 _ _ _ _ 64 rfl rfl (by omega) (by omega) (by rw [hz2]; omega) (by unfold maxLen; omega) (Nat.le_refl _) ?_; intro w0 hown0 hgrow0)
  have hb0 : Below w.heap.size w w0 := (Below.refl _ _).grown hgrow0 (Nat.le_refl _) (fun g hg => by cases hg)
  rw [madeD] at hown0
  have hd0 := Dg.of_own hown0
  clear hown0 hgrow0
  go_loopw [4, 7] (fun c i wr => ∃ (k cn : Nat) (zs : List Nat), k ≤ 64 ∧ i = .int .i64 k ∧ c = .int .u64 cn ∧ cn ≤ 2048 ∧ zs.length = 64 ∧ Small zs ∧ Dg wr w.heap.size zs ∧ Hid (dv B32 (zs.take k) + B32 ^ k * cn = dv B32 (cs.take k) + dv B32 (([] : List Nat).take k)) ∧ Below w.heap.size w wr) (fun _ i _ => 64 - (intOf i).toNat)
  case atStart => exact ⟨0, 0, _, Nat.zero_le _, rfl, rfl, by omega, List.length_replicate, Small.replicate _, hd0, Lib.hid (by simp [dv]), hb0⟩
  case round =>
    obtain ⟨k, cn, zs, hk, rfl, rfl, hcn, hzl, hzs, hdz, HE, hbel⟩ := hrel
    by_cases hlt : k < 64
    · obtain ⟨x, hxd⟩ : ∃ x, x = cs.getD k 0 := ⟨_, rfl⟩
      have hcx := (hg.below hbel hg.lt).cell k (by omega)
      have hxl : x ≤ 4398046511104 := by rw [hxd]; exact ha.at k
      rw [← hxd] at hcx
      have hfr := hdz.frozen k
      have hcz := hdz.cell k (by omega)
      obtain ⟨z, hz⟩ : ∃ z, z = zs.getD k 0 := ⟨_, rfl⟩
      rw [← hz] at hcz
      have hst := sum_step (by omega) HE.out
      have HY : ([] : List Nat).getD k 0 = 0 := rfl
      rw [HY, ← hxd] at hst
      have HST := Lib.hid hst
      clear hst HY hxd hz
      go_wp2
      go_roundw
      case rel => exact ⟨k + 1, (cn + x) / 4294967296, zs.set k ((cn + x) % 4294967296), by omega, by go_num, by go_num, by omega, by simpa using hzl, hzs.set _ _ (Nat.mod_lt _ (by decide)), by rw [show ((cn : Int) + x) % 4294967296 = (((cn + x) % 4294967296 : Nat) : Int) from by omega]; exact hdz.set _ _, HST, hbel.setCell (Nat.le_refl _) _⟩
      case measure => simp [intOf]; omega
    · obtain rfl : k = 64 := by omega
      have HL := Lib.hid (cols_last hzl HE.out hc HV.out)
      go_wp2
      go_ret
      exact ⟨zs, by rw [hzl]; rfl, hzl, hzs, hdz, HL.out, hbel⟩
end Go.Proofs.YtmiafkbjmkaebaaGreat

namespace Go.Proofs.YtmiafkbjmkaebaaGreat
open Go.RowKit Num

set_option maxHeartbeats 400000 in
set_option maxRecDepth 100000 in
theorem mul_ok {a b : Nat} (ha : a < Top) (hb : b < Top) (hv : a * b < Top) (w : World) :
    Calls Tryz.prog 141 #[.string (bs a), .string (bs b)] w (Made w (.tuple #[.string (bs (a * b)), .int .i64 0])) := by
  have h1 := dlen_le ha
  have h2 := dlen_le hb
  have HA := Lib.hid ha
  have HB := Lib.hid hb
  have HV := Lib.hid hv
  clear ha hb hv
  go_enter Tryz.func141, Tryz.ntmps141
  go_wp2_with fail
  refine (valid_yes HA.out _).mono ?_
  rintro e w' ⟨rfl, rfl⟩
  go_wp2_with fail
  refine (valid_yes HB.out _).mono ?_
  rintro e w' ⟨rfl, rfl⟩
  go_wp2_with fail
  generalize hwa : w.alloc _ = wa
  have hcg : Cg wa w.heap.size 160 zeros64 := by rw [← hwa]; exact heap_alloc_new w _
  have hb0 : Below w.heap.size w wa := by rw [← hwa]; exact (Below.refl _ _).alloc (Nat.le_refl _) _
  have hzl : zeros64.length = 64 := List.length_replicate
  have HZL := Lib.hid hzl
  clear hwa hzl
  refine (digitsof_any a _ HA.out).mono ?_
  rintro e w1 ⟨xs, rfl, hxl, hxs, hxd, hxv, hbx⟩
  have hx32 : xs.length ≤ 32 := by omega
  have HXV := Lib.hid hxv
  clear hxl hxv
  go_wp2_with fail
  refine (digitsof_any b _ HB.out).mono ?_
  rintro e w2 ⟨ys, rfl, hyl, hys, hyd, hyv, hby⟩
  have hy32 : ys.length ≤ 32 := by omega
  have HYV := Lib.hid hyv
  clear hyl hyv
  have hg0 := hcg.lt
  have hcg2 : Cg w2 w.heap.size 160 zeros64 := (hcg.below hbx hg0).below hby (Nat.lt_of_lt_of_le hg0 hbx.size)
  go_wp2_with fail
  refine (fill_any w.heap.size 160 _ _ xs ys zeros64 _ _ _ hcg2 HZL.out ((IsD.of_dg hxd hxs).below hby) (IsD.of_dg hyd hys) (by intro p hp; cases hp; exact (Nat.ne_of_gt hg0)) (by intro p hp; cases hp; exact (Nat.ne_of_gt (Nat.lt_of_lt_of_le hg0 hbx.size))) hx32 hy32).mono ?_
  rintro e w3 ⟨rfl, cs, hcl, hca, hcg3, hcv, hgr⟩
  have hlt : dv B32 cs < B32 ^ 64 := by
    rw [hcv, show B32 ^ 64 = B32 ^ 32 * B32 ^ 32 from by rw [← Nat.pow_add], ← top_eq, HXV.out, HYV.out]
    exact Nat.mul_lt_mul'' HA.out HB.out
  rw [HXV.out, HYV.out] at hcv
  have HCV := Lib.hid hcv
  have HCL := Lib.hid hcl
  clear hcv hcl
  have HLT := Lib.hid hlt
  clear hlt
  go_wp2_with fail
  refine (columns_any w.heap.size 160 cs _ hcg3 HCL.out hca HLT.out).mono ?_
  rintro e w4 ⟨zs, rfl, hzl, hzs, hzd, hzv, hbz⟩
  rw [HCV.out] at hzv
  have HZV := Lib.hid hzv
  have hzl2 : zs.length ≤ 64 := by omega
  clear hzv hzl
  go_wp2_with fail
  refine (natof_ok _ zs _ _ (IsD.of_dg hzd hzs) (Nat.le_refl _) (by omega) (by rw [HZV.out]; exact HV.out)).mono ?_
  rintro e w5 ⟨rfl, hb5⟩
  go_wp2
  go_ret2
  have b2 : Below w.heap.size w w2 := (hb0.trans (hbx.mono hb0.size)).trans (hby.mono (Nat.le_trans hb0.size hbx.size))
  have b3 : Below w.heap.size w w3 := b2.grown hgr b2.size (fun k hk => by cases hk; exact Nat.le_refl _)
  exact ⟨by rw [HZV.out]; rfl, (b3.trans (hbz.mono b3.size)).trans (hb5.mono (Nat.le_trans b3.size hbz.size))⟩

set_option maxHeartbeats 400000 in
set_option maxRecDepth 100000 in
theorem mul_long {a b : Nat} (ha : a < Top) (hb : b < Top) (hv : Top ≤ a * b) (w : World) :
    Calls Tryz.prog 141 #[.string (bs a), .string (bs b)] w (Made w (.tuple #[.string (bs 0), .int .i64 5])) := by
  have h1 := dlen_le ha
  have h2 := dlen_le hb
  have HA := Lib.hid ha
  have HB := Lib.hid hb
  have HV := Lib.hid hv
  clear ha hb hv
  go_enter Tryz.func141, Tryz.ntmps141
  go_wp2_with fail
  refine (valid_yes HA.out _).mono ?_
  rintro e w' ⟨rfl, rfl⟩
  go_wp2_with fail
  refine (valid_yes HB.out _).mono ?_
  rintro e w' ⟨rfl, rfl⟩
  go_wp2_with fail
  generalize hwa : w.alloc _ = wa
  have hcg : Cg wa w.heap.size 160 zeros64 := by rw [← hwa]; exact heap_alloc_new w _
  have hb0 : Below w.heap.size w wa := by rw [← hwa]; exact (Below.refl _ _).alloc (Nat.le_refl _) _
  have hzl : zeros64.length = 64 := List.length_replicate
  have HZL := Lib.hid hzl
  clear hwa hzl
  refine (digitsof_any a _ HA.out).mono ?_
  rintro e w1 ⟨xs, rfl, hxl, hxs, hxd, hxv, hbx⟩
  have hx32 : xs.length ≤ 32 := by omega
  have HXV := Lib.hid hxv
  clear hxl hxv
  go_wp2_with fail
  refine (digitsof_any b _ HB.out).mono ?_
  rintro e w2 ⟨ys, rfl, hyl, hys, hyd, hyv, hby⟩
  have hy32 : ys.length ≤ 32 := by omega
  have HYV := Lib.hid hyv
  clear hyl hyv
  have hg0 := hcg.lt
  have hcg2 : Cg w2 w.heap.size 160 zeros64 := (hcg.below hbx hg0).below hby (Nat.lt_of_lt_of_le hg0 hbx.size)
  go_wp2_with fail
  refine (fill_any w.heap.size 160 _ _ xs ys zeros64 _ _ _ hcg2 HZL.out ((IsD.of_dg hxd hxs).below hby) (IsD.of_dg hyd hys) (by intro p hp; cases hp; exact (Nat.ne_of_gt hg0)) (by intro p hp; cases hp; exact (Nat.ne_of_gt (Nat.lt_of_lt_of_le hg0 hbx.size))) hx32 hy32).mono ?_
  rintro e w3 ⟨rfl, cs, hcl, hca, hcg3, hcv, hgr⟩
  have hlt : dv B32 cs < B32 ^ 64 := by
    rw [hcv, show B32 ^ 64 = B32 ^ 32 * B32 ^ 32 from by rw [← Nat.pow_add], ← top_eq, HXV.out, HYV.out]
    exact Nat.mul_lt_mul'' HA.out HB.out
  rw [HXV.out, HYV.out] at hcv
  have HCV := Lib.hid hcv
  have HCL := Lib.hid hcl
  clear hcv hcl
  have HLT := Lib.hid hlt
  clear hlt
  go_wp2_with fail
  refine (columns_any w.heap.size 160 cs _ hcg3 HCL.out hca HLT.out).mono ?_
  rintro e w4 ⟨zs, rfl, hzl, hzs, hzd, hzv, hbz⟩
  rw [HCV.out] at hzv
  have HZV := Lib.hid hzv
  have hzl2 : zs.length ≤ 64 := by omega
  clear hzv hzl
  go_wp2_with fail
  refine (natof_long _ zs _ _ (IsD.of_dg hzd hzs) (Nat.le_refl _) (by omega) (by rw [HZV.out]; exact HV.out)).mono ?_
  rintro e w5 ⟨rfl, hb5⟩
  go_wp2
  go_ret2
  have b2 : Below w.heap.size w w2 := (hb0.trans (hbx.mono hb0.size)).trans (hby.mono (Nat.le_trans hb0.size hbx.size))
  have b3 : Below w.heap.size w w3 := b2.grown hgr b2.size (fun k hk => by cases hk; exact Nat.le_refl _)
  exact ⟨rfl, (b3.trans (hbz.mono b3.size)).trans (hb5.mono (Nat.le_trans b3.size hbz.size))⟩
end Go.Proofs.YtmiafkbjmkaebaaGreat
