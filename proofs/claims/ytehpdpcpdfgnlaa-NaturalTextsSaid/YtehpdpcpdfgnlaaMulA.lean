/-
  The contract of natural.columns.fill: the columns of a product.
-/
import Derived.Test.YtehpdpcpdfgnlaaNatC
import Derived.Laws.CopyOwn
import Derived.RegionTactic
import Derived.BigRegion
namespace Go.Proofs.Ytehpdpcpdfgnlaa
open Go.RowKit Num

def cellsC (xs : List Nat) : List Value := xs.map fun (d : Nat) => Value.int .u64 (d : Int)
theorem cellsC_length (xs : List Nat) : (cellsC xs).length = xs.length := by simp [cellsC]
theorem cellsC_get (xs : List Nat) (k : Nat) (h : k < xs.length) : (cellsC xs)[k]? = some (.int .u64 (xs.getD k 0 : Nat)) := by simp [cellsC, h]
theorem cellsC_set (xs : List Nat) (k d : Nat) : (cellsC xs).set k (.int .u64 (d : Int)) = cellsC (xs.set k d) := by simp [cellsC]
/-- Block g holds just the numbers xs of 64 bits. -/
def Cg (w : World) (g : Nat) (t : TypeId) (xs : List Nat) : Prop := w.heap[g]? = some (.cells (cellsC xs).toArray t (0, 0))
theorem Cg.lt {w : World} {g : Nat} {t : TypeId} {xs : List Nat} (h : Cg w g t xs) : g < w.heap.size := by
  rcases Nat.lt_or_ge g w.heap.size with hlt | hge
  · exact hlt
  · unfold Cg at h; rw [Array.getElem?_eq_none hge] at h; cases h
theorem Cg.cell {w : World} {g : Nat} {t : TypeId} {xs : List Nat} (h : Cg w g t xs) (k : Nat) (hk : k < xs.length) : w.cell? ⟨g, k, none⟩ = some (.int .u64 (xs.getD k 0 : Nat)) := by
  rw [cell_of_row w g k _ _ (0, 0) h, List.getElem?_toArray, cellsC_get xs k hk]
theorem Cg.frozen {w : World} {g : Nat} {t : TypeId} {xs : List Nat} (h : Cg w g t xs) (i : Nat) : w.frozen? ⟨g, i, none⟩ = false := by
  unfold Cg at h
  simp [World.frozen?, h]
theorem Cg.set {w : World} {g : Nat} {t : TypeId} {xs : List Nat} (h : Cg w g t xs) (k d : Nat) : Cg (w.setCell ⟨g, k, none⟩ (.int .u64 (d : Int))) g t (xs.set k d) := by
  unfold Cg at h ⊢
  simp [World.setCell, Array.getElem?_modify, h, ← cellsC_set]
theorem Cg.drew {w : World} {g : Nat} {t : TypeId} {xs : List Nat} (h : Cg w g t xs) : Cg w.drew g t xs := h
theorem Cg.below {w w' : World} {g : Nat} {t : TypeId} {xs : List Nat} {B : Nat} (h : Cg w g t xs) (hb : Below B w w') (hg : g < B) : Cg w' g t xs := (hb.block g hg).trans h

def zeros64 : List Nat := List.replicate 64 0
theorem run_clear (w : World) (g : Nat) (t : TypeId) (xs : List Nat) (h : Cg w g t xs) (hl : xs.length = 64) : ∃ w0, (∀ ty, (Builtin.clear_ #[128] ty #[.slice (some ⟨g, 0, none⟩) 64 64]).run Try.prog w = .ok (.tuple #[]) w0) ∧
    Cg w0 g t (zeros64) ∧ w.grownBy w0 (some g) := by
  have hl0 : (cellsC zeros64).length = 64 := by unfold zeros64; rw [cellsC_length, List.length_replicate]
  have hz : (Builtin.zeroCells (Value.int .u64 0).cells 64).toList = cellsC (zeros64) := by
    unfold zeros64 cellsC
    rw [List.map_replicate]
    refine List.eq_replicate_iff.2 ⟨by simp [Builtin.zeroCells, Value.cells], fun v hv => ?_⟩
    simp only [Builtin.zeroCells, Value.cells, Array.toList_map, List.mem_map] at hv
    obtain ⟨a, _, rfl⟩ := hv
    simp [Nat.mod_one]
  refine ⟨w.setRow g (cellsC (zeros64)).toArray, fun ty => ?_, setRow_heap w g _ _ _ _ h, ⟨rfl, rfl, rfl, by simp [World.setRow], fun k _ hne => setRow_other w g k _ (fun e => hne (by rw [e]))⟩⟩
  have hst := run_storeCells_from (P := Try.prog) g t (cellsC (zeros64)) 0 _ w h (by rw [hl0]; simp [cellsC_length, hl]) (fun v hv => by
    simp only [zeros64, cellsC, List.map_replicate] at hv
    rw [List.eq_of_mem_replicate hv]; rfl)
  rw [List.take_zero, List.nil_append] at hst
  simp [Builtin.clear_, run_underlying Try.underlying128, hz, hst]

def AllLe (cs : List Nat) (n : Nat) : Prop := ∀ c ∈ cs, c ≤ n
theorem AllLe.at {cs : List Nat} {n : Nat} (h : AllLe cs n) (k : Nat) : cs.getD k 0 ≤ n := by
  rw [List.getD_eq_getElem?_getD]
  rcases Nat.lt_or_ge k cs.length with g | g
  · rw [List.getElem?_eq_getElem g]; exact h _ (List.getElem_mem g)
  · rw [List.getElem?_eq_none g]; exact Nat.zero_le _
theorem AllLe.set {cs : List Nat} {n m : Nat} (h : AllLe cs n) (hnm : n ≤ m) (k d : Nat) (hd : d ≤ m) : AllLe (cs.set k d) m := by
  intro x hx
  rcases List.mem_or_eq_of_mem_set hx with g | g
  · exact Nat.le_trans (h _ g) hnm
  · rw [g]; exact hd
theorem fill_step {cs X Y : List Nat} {i j p : Nat} (hc : i + j + 1 < cs.length) (h : dv B32 cs = dv B32 (X.take i) * dv B32 Y + B32 ^ i * X.getD i 0 * dv B32 (Y.take j)) (hp : p = X.getD i 0 * Y.getD j 0) :
    dv B32 ((cs.set (i + j) (cs.getD (i + j) 0 + p % B32)).set (i + j + 1) (cs.getD (i + j + 1) 0 + p / B32)) = dv B32 (X.take i) * dv B32 Y + B32 ^ i * X.getD i 0 * dv B32 (Y.take (j + 1)) := by
  have h1 := dv_set_add B32 cs (i + j) (p % B32) (by omega)
  have h2 := dv_set_add B32 (cs.set (i + j) (cs.getD (i + j) 0 + p % B32)) (i + j + 1) (p / B32) (by simpa using hc)
  have h3 : (cs.set (i + j) (cs.getD (i + j) 0 + p % B32)).getD (i + j + 1) 0 = cs.getD (i + j + 1) 0 := by
    simp [List.getD_eq_getElem?_getD]
  rw [h3] at h2
  rw [h2, h1, h, dv_take_next, Nat.mul_add]
  have e := Nat.div_add_mod p B32
  have e2 : B32 ^ i * X.getD i 0 * (B32 ^ j * Y.getD j 0) = B32 ^ (i + j) * p := by
    rw [hp, Nat.pow_add]; grind
  rw [e2, Nat.pow_succ (m := i + j)]
  have e3 : B32 ^ (i + j) * p = B32 ^ (i + j) * B32 * (p / B32) + B32 ^ (i + j) * (p % B32) := by
    rw [Nat.mul_assoc, ← Nat.mul_add, e]
  omega
theorem fill_next {cs X Y : List Nat} {i : Nat} (h : dv B32 cs = dv B32 (X.take i) * dv B32 Y + B32 ^ i * X.getD i 0 * dv B32 (Y.take Y.length)) : dv B32 cs = dv B32 (X.take (i + 1)) * dv B32 Y := by
  rw [h, List.take_length, dv_take_next, Nat.add_mul]

/-- fill leaves the columns of the product. -/
def Filled (w : World) (g : Nat) (t : TypeId) (v : Nat) (e : Ending) (w' : World) : Prop :=
  e = .returned (.tuple #[]) ∧ ∃ cs : List Nat, cs.length = 64 ∧ AllLe cs 4398046511104 ∧ Cg w' g t cs ∧ dv B32 cs = v ∧ w.grownBy w' (some g)

set_option maxHeartbeats 1000000 in
set_option maxRecDepth 100000 in
theorem fill_any (g : Nat) (t : TypeId) (A B : Option Addr) (X Y cs : List Nat) (cx cy : Nat) (w : World) (hg : Cg w g t cs) (hc : cs.length = 64) (hX : IsD w A X) (hY : IsD w B Y) (hAg : Apart A g) (hBg : Apart B g) (hx : X.length ≤ 32) (hy : Y.length ≤ 32) :
    Calls Try.prog 89 #[.pointer (some ⟨g, 0, none⟩), .slice A X.length cx, .slice B Y.length cy] w (Filled w g t (dv B32 X * dv B32 Y)) := by
  obtain ⟨w0, hclr, hg0, hgr0⟩ := run_clear w g t cs hg hc
  go_enter Try.func89, Try.ntmps89
  go_wp2_with fail
  clear hclr hg
  go_loopw [14] (fun c wr => ∃ (i : Nat) (cs : List Nat), i ≤ X.length ∧ c = .int .i64 i ∧ cs.length = 64 ∧ AllLe cs (i * Y.length * 4294967296) ∧ Cg wr g t cs ∧ Hid (dv B32 cs = dv B32 (X.take i) * dv B32 Y) ∧ w.grownBy wr (some g)) (fun c _ => X.length - (intOf c).toNat)
  case atStart => exact ⟨0, zeros64, Nat.zero_le _, rfl, List.length_replicate, by intro c hc; rw [List.eq_of_mem_replicate hc]; exact Nat.zero_le _, hg0, Lib.hid (by unfold zeros64; rw [dv_replicate]; simp [dv]), hgr0⟩
  case round =>
    obtain ⟨i, cs, hi, rfl, hcl, hca, hcg, HE, hgr⟩ := hrel
    by_cases hlt : i < X.length
    · obtain ⟨gx, ox, rfl, hgx, hcx⟩ := hX.2 (by omega)
      have hcx0 := hcx i hlt
      obtain ⟨x, hxd⟩ : ∃ x, x = X.getD i 0 := ⟨_, rfl⟩
      have hx32 : x < 4294967296 := by rw [hxd]; exact hX.1.at i
      rw [← hxd] at hcx0
      have HXD := Lib.hid hxd
      clear hxd hcx
      go_wp2_with fail
      obtain ⟨wo, rfl⟩ : ∃ wo : World, wo = wr := ⟨_, rfl⟩
      have HIH := Lib.hid (show i < X.length from hlt)
      go_loopw [19] (fun c wr => ∃ (j : Nat) (cs : List Nat), j ≤ Y.length ∧ c = .int .i64 j ∧ cs.length = 64 ∧ AllLe cs ((i * Y.length + j) * 4294967296) ∧ Cg wr g t cs ∧ Hid (dv B32 cs = dv B32 (X.take i) * dv B32 Y + B32 ^ i * X.getD i 0 * dv B32 (Y.take j)) ∧ w.grownBy wr (some g)) (fun c _ => Y.length - (intOf c).toNat)
      case atStart => exact ⟨0, cs, Nat.zero_le _, rfl, hcl, hca, hcg, Lib.hid (by rw [HE.out]; simp [dv]), hgr⟩
      case round =>
        clear hcl hca hcg HE hgr
        clear cs
        obtain ⟨j, cs, hj, rfl, hcl, hca, hcg, HE, hgr⟩ := hrel
        by_cases hlj : j < Y.length
        · obtain ⟨gy, oy, rfl, hgy, hcy⟩ := hY.2 (by omega)
          have hcy0 := (grown_cell hgr (p := ⟨gy, oy + j, none⟩) hgy (hBg ⟨gy, oy, none⟩ rfl)).trans (hcy j hlj)
          have hcx1 := (grown_cell hgr (p := ⟨gx, ox + i, none⟩) hgx (hAg ⟨gx, ox, none⟩ rfl)).trans hcx0
          obtain ⟨y, hyd⟩ : ∃ y, y = Y.getD j 0 := ⟨_, rfl⟩
          have hy32 : y < 4294967296 := by rw [hyd]; exact hY.1.at j
          rw [← hyd] at hcy0
          obtain ⟨p, hp⟩ : ∃ p, p = x * y := ⟨_, rfl⟩
          have hmul : (x : Int) * (y : Int) = (p : Int) := by rw [hp]; simp
          have hp64 : p ≤ 18446744065119617025 := by
            rw [hp]; exact Nat.mul_le_mul (show x ≤ 4294967295 by omega) (show y ≤ 4294967295 by omega)
          have hn1 : (i * Y.length + j) * 4294967296 ≤ 1024 * 4294967296 := by
            refine Nat.mul_le_mul_right _ ?_
            have : i * Y.length ≤ 31 * 32 := Nat.mul_le_mul (by omega) hy
            omega
          obtain ⟨c0, hc0⟩ : ∃ c0, c0 = cs.getD (i + j) 0 := ⟨_, rfl⟩
          obtain ⟨c1, hc1⟩ : ∃ c1, c1 = cs.getD (i + j + 1) 0 := ⟨_, rfl⟩
          have hc0l : c0 ≤ (i * Y.length + j) * 4294967296 := by rw [hc0]; exact hca.at _
          have hc1l : c1 ≤ (i * Y.length + j) * 4294967296 := by rw [hc1]; exact hca.at _
          have hst := fill_step (by omega) HE.out (show p = X.getD i 0 * Y.getD j 0 by rw [hp, HXD.out, hyd])
          rw [← hc0, ← hc1] at hst
          have hk0 := hcg.cell (i + j) (by omega)
          have hk1 := hcg.cell (i + j + 1) (by omega)
          rw [← hc0] at hk0
          rw [← hc1] at hk1
          have hf0 := hcg.frozen (i + j)
          have hf1 := hcg.frozen (i + j + 1)
          have hand : bits BinOp.and IntKind.u64 (p : Int) 4294967295 = ((p % 4294967296 : Nat) : Int) := by
            have := u64_and_nat p 4294967295 (by omega) (by omega)
            rw [Nat.and_two_pow_sub_one_eq_mod p 32] at this
            exact this
          have HST := Lib.hid hst
          have HN := Lib.hid hn1
          have HC0 := Lib.hid hc0l
          have HC1 := Lib.hid hc1l
          have hc0b : c0 ≤ 4398046511104 := by omega
          have hc1b : c1 ≤ 4398046511104 := by omega
          have HCS := Lib.hid hca
          clear hst hn1 hc0l hc1l hc0 hc1 hp hyd hca hcy
          go_wp2
          go_region
          go_wp2
          go_region
          go_wp2
          go_region
          go_wp2
          go_roundw
          case rel =>
            refine ⟨j + 1, (cs.set (i + j) (c0 + p % 4294967296)).set (i + j + 1) (c1 + p / 4294967296), by omega, by go_num, by simpa using hcl, ?_, ?_, HST, ?_⟩
            · have e1 : (i * Y.length + (j + 1)) * 4294967296 = (i * Y.length + j) * 4294967296 + 4294967296 := by rw [← Nat.add_assoc, Nat.succ_mul]
              have h0 := HC0.out
              have h1 := HC1.out
              rw [e1]
              refine AllLe.set (AllLe.set HCS.out (Nat.le_add_right _ 4294967296) _ _ ?_) (Nat.le_refl _) _ _ ?_
              · have : p % 4294967296 < 4294967296 := Nat.mod_lt _ (by decide)
                omega
              · have : p / 4294967296 < 4294967296 := by omega
                omega
            · rw [show (c0 : Int) + (p : Int) % 4294967296 = ((c0 + p % 4294967296 : Nat) : Int) from by omega, show (c1 : Int) + (p : Int) / 4294967296 = ((c1 + p / 4294967296 : Nat) : Int) from by omega]
              exact (hcg.set _ _).set _ _
            · exact grown_drew (grown_drew (grown_drew (grown_set (grown_set hgr _ _) _ _)))
          case measure => simp [intOf]; omega
        · have hje : j = Y.length := by omega
          subst hje
          have HNX := Lib.hid (fill_next HE.out)
          go_wp2
          go_roundw
          case rel => exact ⟨i + 1, cs, by omega, by go_num, hcl, by rw [Nat.succ_mul]; exact hca, hcg, HNX, hgr⟩
          case measure => simp [intOf]; omega
    · have hie : i = X.length := by omega
      have hle : X.length * Y.length ≤ 32 * 32 := Nat.mul_le_mul hx hy
      have HF := Lib.hid (show dv B32 cs = dv B32 X * dv B32 Y by rw [HE.out, hie, List.take_length])
      have HCA := Lib.hid (show AllLe cs 4398046511104 from fun c hc => Nat.le_trans (hca c hc) (by rw [hie]; omega))
      clear hle hca hie
      go_wp2
      go_end0
      exact ⟨rfl, cs, hcl, HCA.out, hcg, HF.out, hgr⟩
end Go.Proofs.Ytehpdpcpdfgnlaa
