/-
  The contract of natural.scale for the factor 10.
-/
import Derived.Test.YtbkbjjdjgiapdaaParC
namespace Go.Proofs.Ytbkbjjdjgiapdaa
open Go.RowKit Num

def Scaled (base : Nat) (w : World) (V n : Nat) (e : Ending) (w' : World) : Prop :=
  ∃ (v : Value) (zs : List Nat), e = .returned v ∧ w'.ownsRow base 80 1 v zs.length (cellsD zs) ∧ Small zs ∧ zs.length ≤ n + 1 ∧ dv B32 zs = V ∧ Below base w w'

theorem scale_step {X zs : List Nat} {k c p : Nat} (hk : k < zs.length) (h : dv B32 (zs.take k) + B32 ^ k * c = dv B32 (X.take k) * 10 + p) :
    dv B32 ((zs.set k ((c + X.getD k 0 * 10) % B32)).take (k + 1)) + B32 ^ (k + 1) * ((c + X.getD k 0 * 10) / B32) = dv B32 (X.take (k + 1)) * 10 + p := by
  rw [dv_set_next _ _ _ _ hk, dv_take_next]
  generalize X.getD k 0 = x at *
  have e := Nat.div_add_mod (c + x * 10) B32
  generalize (c + x * 10) / B32 = q at *
  generalize (c + x * 10) % B32 = r at *
  rw [Nat.pow_succ]
  generalize B32 ^ k = P at *
  have e2 : P * B32 * q + P * r = P * c + P * x * 10 := by
    rw [Nat.mul_assoc, ← Nat.mul_add, e, Nat.mul_add, Nat.mul_assoc]
  rw [Nat.add_mul]
  omega
theorem owns_digits_cell {w : World} {base g n cap : Nat} {m : List Nat} (h : w.ownsRow base 80 1 (.slice (some ⟨g, 0, none⟩) n cap) n (cellsD m)) (hm : m.length = n) (k : Nat) (hk : k < n) : w.cell? ⟨g, k, none⟩ = some (.int .u32 (m.getD k 0 : Nat)) := by
  rw [h.cellAt k (by omega), cellsD_get m k (by omega)]
theorem owns_digits_set {w : World} {base g n cap : Nat} {m : List Nat} (h : w.ownsRow base 80 1 (.slice (some ⟨g, 0, none⟩) n cap) n (cellsD m)) (k d : Nat) :
    (w.setCell ⟨g, k, none⟩ (.int .u32 (d : Int))).ownsRow base 80 1 (.slice (some ⟨g, 0, none⟩) n cap) n (cellsD (m.set k d)) := by
  have := (h.stored k (.int .u32 (d : Int))).1
  rwa [cellsD_set] at this
theorem owns_block {w : World} {base n cap : Nat} {A : Option Addr} {xs : List Value} (h : w.ownsRow base 80 1 (.slice A n cap) n xs) (hn : 0 < n) : ∃ g, A = some ⟨g, 0, none⟩ ∧ base ≤ g ∧ g < w.heap.size := by
  rcases h.2 with ⟨h1, h3⟩ | ⟨g, cap', cur, hv, hb, hh, _⟩
  · injection h1 with e1 e2 e3
    omega
  · injection hv with h1 h2 h3
    refine ⟨g, h1, hb, ?_⟩
    rcases Nat.lt_or_ge g w.heap.size with hlt | hge
    · exact hlt
    · rw [Array.getElem?_eq_none hge] at hh; cases hh

set_option maxHeartbeats 1000000 in
set_option maxRecDepth 100000 in
theorem scale_any (base : Nat) (A : Option Addr) (cap : Nat) (X : List Nat) (p : Nat) (w : World) (hown : w.ownsRow base 80 1 (.slice A X.length cap) X.length (cellsD X)) (hs : Small X) (hl : X.length ≤ 1000) (hp : p < 10) (hb : base ≤ w.heap.size) :
    Calls Try.prog 68 #[.slice A X.length cap, .int .u32 10, .int .u32 (p : Int)] w (Scaled base w (dv B32 X * 10 + p) X.length) := by
  obtain ⟨i0, hi0, hz0, hz1, hz2⟩ := info_parts info_u32
  have HS := Lib.hid hs
  clear hs
  go_enter Try.func68, Try.ntmps68
  go_wp2
  go_loopw [7, 13] (fun c i wr => ∃ (k cn : Nat) (zs : List Nat), k ≤ X.length ∧ i = .int .i64 k ∧ c = .int .u64 cn ∧ cn < 4294967296 ∧ Hid (zs.length = X.length) ∧ Hid (Small zs) ∧ Hid (∀ t, k ≤ t → zs.getD t 0 = X.getD t 0) ∧ Hid (wr.ownsRow base 80 1 (.slice A X.length cap) X.length (cellsD zs)) ∧ Hid (dv B32 (zs.take k) + B32 ^ k * cn = dv B32 (X.take k) * 10 + p) ∧ Below base w wr) (fun _ i _ => X.length - (intOf i).toNat)
  case atStart => exact ⟨0, p, X, Nat.zero_le _, rfl, rfl, by omega, rfl, HS, Lib.hid (fun _ _ => rfl), Lib.hid hown, Lib.hid (by simp [dv]), (Below.refl _ _).mono hb⟩
  case round =>
    clear hown
    obtain ⟨k, cn, zs, hk, rfl, rfl, hcn, HL, HZ, HD, HO, HE, hbel⟩ := hrel
    by_cases hlt : k < X.length
    · obtain ⟨g, rfl, hgb, hgl⟩ := owns_block HO.out (by omega)
      have hcz := owns_digits_cell HO.out HL.out k hlt
      have hfr := HO.out.frozenAt k
      have hx32 := HZ.out.at k
      have hst := scale_step (by rw [HL.out]; exact hlt) HE.out
      have hgx := HD.out k (Nat.le_refl _)
      rw [hgx] at hcz hx32
      obtain ⟨x, hx⟩ : ∃ x, x = X.getD k 0 := ⟨_, rfl⟩
      rw [← hx] at hcz hx32 hst
      have hx32 : x < 4294967296 := hx32
      have HST := Lib.hid hst
      clear hst hx hgx
      go_wp2
      go_roundw
      case rel => exact ⟨k + 1, (cn + x * 10) / 4294967296, zs.set k ((cn + x * 10) % 4294967296), by omega, by go_num, by go_num, by omega, by rw [List.length_set]; exact HL.out, HZ.out.set _ _ (Nat.mod_lt _ (by decide)), Lib.hid (fun t ht => by rw [List.getD_eq_getElem?_getD, List.getElem?_set_ne (by omega), ← List.getD_eq_getElem?_getD]; exact HD.out t (by omega)), Lib.hid (by rw [show ((cn : Int) + (x : Int) * 10) % 4294967296 = (((cn + x * 10) % 4294967296 : Nat) : Int) from by omega]; exact owns_digits_set HO.out k _), HST, hbel.setCell (Nat.le_trans hgb (Nat.le_refl _)) _⟩
      case measure => simp [intOf]; omega
    · obtain rfl : k = X.length := by omega
      have HV : Hid (dv B32 zs + B32 ^ zs.length * cn = dv B32 X * 10 + p) := Lib.hid (by have := HE.out; rw [dv_take_all _ _ _ (Nat.le_of_eq HL.out), List.take_length] at this; rw [HL.out]; exact this)
      clear hk HE HD
      by_cases hc0 : cn = 0
      · subst hc0
        go_wp2
        go_ret
        exact ⟨_, zs, rfl, by rw [HL.out]; exact HO.out, HZ.out, by rw [HL.out]; omega, by have := HV.out; omega, hbel⟩
      · have hbase : base ≤ wr.heap.size := Nat.le_trans hb hbel.size
        have HNC := Lib.hid (new_cell (wr := wr) #[.int .u32 (cn : Int)] (.int .u32 (cn : Int)) 80 rfl)
        have HON := Lib.hid (one_cell .u32 (cn : Int))
        have hZL := HL.out
        go_wp2_with (at_builtin; go_loud (refine wpList_append_own _ rfl _ _ 78 rfl base 80 i0 (.int .u32 0) 1 4 Try.underlying78 hi0 hz0 hz1 hz2 rfl (by decide) _ _ _ rfl (HO.out.alloc _) ⟨wr.heap.size, 0, none⟩ 1 1 [.int .u32 (cn : Int)] rfl rfl HNC.out HON.out (by unfold maxLen; omega) (by omega) (by simp; omega) ?_); intro v1 w3 hown1 hg1 _; have hbel1 := (hbel.alloc hbase (.cells #[.int .u32 (cn : Int)] 80)).grown hg1 (by simp; omega) (fun g hg => (HO.out.lt g hg).1))
        go_wp2
        go_ret
        refine ⟨_, zs ++ [cn], rfl, ?_, HZ.out.app (Small.one hcn), by rw [List.length_append, HL.out]; exact Nat.le_refl _, by rw [dv_snoc]; exact HV.out, hbel1⟩
        rw [List.length_append, HL.out]
        have : cellsD (zs ++ [cn]) = cellsD zs ++ [.int .u32 (cn : Int)] := by simp [cellsD]
        rw [this]
        exact hown1
end Go.Proofs.Ytbkbjjdjgiapdaa
