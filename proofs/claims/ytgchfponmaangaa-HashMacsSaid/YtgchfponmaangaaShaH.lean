/-
  The contract of hash.Hex.
-/
import Derived.Test.YtgchfponmaangaaShaE
import Derived.Deep.RegionLaw
namespace Go.Proofs.Ytgchfponmaangaa
open Go.RowKit
theorem Ob.drew {w : World} {B : Nat} {v : Value} {l : List UInt8} (h : Ob w B v l) : Ob w.drew B v l := World.ownsRow.drew h
/-- 'append' as one step of a region that draws. -/
theorem app_step {ops : Array Oper} {o : Oper} {a : Act} {w : World} {K : Act → World → Prop} {Q : Exit → Act → World → Prop} {E : Prop} (hgd : o.guard = none) (s x : Operand)
    (ho : o.op = .call { callee := .builtin .append, args := #[s, x], argTypes := #[27, 27] }) (B : Nat) (v : Value) (l nb : List UInt8) (hs : a.eval s = v) (hown : Ob w B v l)
    (n : Nat) (hn : nb.length = n) (g : Nat) (hg : w.heap.size = g) (hx : a.eval x = .slice (some ⟨g, 0, none⟩) n n) (cs : Array Value) (hcs : cs = (cellsB nb).toArray) (hB : B ≤ w.heap.size) (hl : l.length + n ≤ 1099511627776)
    (h : ∀ v' w', Ob w' B v' (l ++ nb) → (∀ w0, Below B w0 w → Below B w0 w') → K (a.put o.dst v') w') :
    if Region.wanted o (yielded ops a.tmps) = true then Oper.wp Try.prog o a (w.alloc (.cells cs 5)) K Q else E := by
  have hw : Region.wanted o (yielded ops a.tmps) = true := by simp [Region.wanted, hgd]
  rw [if_pos hw]
  obtain ⟨i0, hi, hz0, hz1, hz2⟩ := info_parts info_u8
  subst hcs
  subst hn
  subst hg
  refine wp_append_own _ s x 27 ho B 5 i0 (.int .u8 0) 1 1 Try.underlying27 hi hz0 hz1 hz2 rfl (by decide) v l.length (cellsB l) hs (hown.alloc _) ⟨w.heap.size, 0, none⟩ nb.length nb.length (cellsB nb) hx (by simp [cellsB_length]) (fun j u hj => cells_new w _ _ j u hj) (cellsB_one nb) (by unfold maxLen; omega) (by omega) (by simp; omega) ?_
  intro v' w' ho' hg _
  refine h v' w' ?_ ?_
  · unfold Ob
    rw [List.length_append]
    rw [show cellsB (l ++ nb) = cellsB l ++ cellsB nb from by simp [cellsB]]
    exact ho'
  · intro w0 hb
    exact (hb.alloc hB _).grown hg (by simp; omega) (fun g hg => (hown.lt g hg).1)
theorem digit_run (t : TypeId) (ht : Try.prog.underlying t = some .string) (n : Nat) (hn : n < 16) (W : World) : (Instr.index t (.string ⟨#[48, 49, 50, 51, 52, 53, 54, 55, 56, 57, 97, 98, 99, 100, 101, 102]⟩) (.int .u8 (n : Int))).run Try.prog W = .ok (.int .u8 ((hexd n).toNat : Int)) W := by
  rw [run_index_string (P := Try.prog) (t := t) (h := ht)]
  have hc : n = 0 ∨ n = 1 ∨ n = 2 ∨ n = 3 ∨ n = 4 ∨ n = 5 ∨ n = 6 ∨ n = 7 ∨ n = 8 ∨ n = 9 ∨ n = 10 ∨ n = 11 ∨ n = 12 ∨ n = 13 ∨ n = 14 ∨ n = 15 := by omega
  rcases hc with rfl | rfl | rfl | rfl | rfl | rfl | rfl | rfl | rfl | rfl | rfl | rfl | rfl | rfl | rfl | rfl <;> rfl
set_option maxRecDepth 100000 in
set_option maxHeartbeats 1600000 in
theorem hex_ok (s : ByteArray) (hs : s.size ≤ 274877906944) (w : World) :
    Calls Try.prog 12 #[.string s] w fun e w' => e = .returned (.string ⟨(hexL s.data.toList).toArray⟩) ∧ Below w.heap.size w w' := by
  obtain ⟨i0, hi0, hz0, hz1, hz2⟩ := info_parts info_u8
  go_enter Try.func12, Try.ntmps12
  go_wp2_with (at_make; go_loud (refine wpList_make_own _ rfl _ _ 27 rfl w.heap.size 5 i0 (.int .u8 0) 1 Try.underlying27 hi0 hz0 hz1 _ _ _ (2 * s.size) rfl rfl (by omega) (by rw [hz2]; omega) (by unfold maxLen; omega) (by simp) ?_); intro w0 hown0 hgrow0)
  have hB : Below w.heap.size w w0 := (Below.refl w.heap.size w).grown hgrow0 (by simp) (fun g hg => by cases hg)
  go_loopw [3, 11] (fun v3 v11 wr => ∃ i : Nat, i ≤ s.size ∧ v11 = .int .i64 i ∧ Ob wr w.heap.size v3 (hexL (s.data.toList.take i)) ∧ Below w.heap.size w wr) (fun _ i _ => s.size - (intOf i).toNat)
  case atStart => exact ⟨0, by omega, rfl, by unfold Ob; simpa [hexL, cellsB] using hown0, hB⟩
  case round =>
    clear hown0 hgrow0 hB
    obtain ⟨i, hi, rfl, hO, hB⟩ := hrel
    obtain ⟨A, cap, rfl⟩ := owns_form (show World.ownsRow _ _ _ _ _ _ _ from hO)
    by_cases hlt : i < s.size
    · have hx := s[i].toNat_lt
      have d1 : ∀ W, (Instr.index 9 (.string ⟨#[48, 49, 50, 51, 52, 53, 54, 55, 56, 57, 97, 98, 99, 100, 101, 102]⟩) (.int .u8 ((s[i].toNat : Int) / 16))).run Try.prog W = .ok (.int .u8 ((hexd (s[i].toNat / 16)).toNat : Int)) W := fun W => digit_run _ Try.underlying9 (s[i].toNat / 16) (by omega) W
      have d2 : ∀ W, (Instr.index 9 (.string ⟨#[48, 49, 50, 51, 52, 53, 54, 55, 56, 57, 97, 98, 99, 100, 101, 102]⟩) (.int .u8 ((s[i].toNat : Int) % 16))).run Try.prog W = .ok (.int .u8 ((hexd (s[i].toNat % 16)).toNat : Int)) W := fun W => digit_run _ Try.underlying9 (s[i].toNat % 16) (by omega) W
      have hsz := hB.size
      have HO := Lib.hid hO
      clear hO
      have h15 : bits .and .u8 (s[i].toNat : Int) 15 = (s[i].toNat : Int) % 16 := by
        rw [show (15 : Int) = ((15 : Nat) : Int) from rfl, u8_and_nat _ _ (by omega) (by omega), show (15 : Nat) = 2 ^ 4 - 1 from rfl, Nat.and_two_pow_sub_one_eq_mod]
        rfl
      have HW := Lib.hid (show (#[.int .u8 ((hexd (s[i].toNat / 16)).toNat : Int), .int .u8 ((hexd (s[i].toNat % 16)).toNat : Int)] : Array Value) = (cellsB (hexb s[i])).toArray from by simp [cellsB, hexb])
      have HT := Lib.hid (show hexL (s.data.toList.take (i + 1)) = hexL (s.data.toList.take i) ++ hexb s[i] from hexL_take _ _ (by rw [size_toList]; exact hlt))
      have hln : (hexL (s.data.toList.take i)).length ≤ 2 * i := by rw [hexL_length, List.length_take]; omega
      go_wp2_with fail
      have hBd := hB.drew
      have HD := Lib.hid (Ob.drew HO.out)
      go_region_law (refine app_step rfl _ _ rfl w.heap.size _ (hexL (s.data.toList.take i)) (hexb s[i]) rfl HD.out 2 rfl _ rfl rfl _ HW.out hBd.size (by omega) ?_; intro v1 w1 hO1 hB1)
      all_goals
        go_wp2
        go_roundw
        case rel => exact ⟨i + 1, by omega, by go_num, by rw [HT.out]; exact hO1, hB1 _ hBd⟩
        case measure => simp [intOf]; omega
    · obtain rfl : i = s.size := by omega
      have hc := Ob.string hO
      have HT := Lib.hid (show hexL (s.data.toList.take s.size) = hexL s.data.toList from by rw [List.take_of_length_le (by rw [size_toList]; exact Nat.le_refl _)])
      clear hO
      go_wp2
      go_ret
      exact ⟨ret_str (by rw [HT.out]), hB⟩
end Go.Proofs.Ytgchfponmaangaa
