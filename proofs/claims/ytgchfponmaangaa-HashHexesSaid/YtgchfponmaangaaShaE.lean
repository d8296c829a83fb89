/-
  Rows of bytes that grow. The contract of text.
-/
import Derived.Test.YtgchfponmaangaaShaD
import Derived.Test.YtgchfponmaangaaShaN
namespace Go.Proofs.Ytgchfponmaangaa
open Go.RowKit
/-- A slice of the call's own that holds the bytes l. -/
def Ob (w : World) (B : Nat) (v : Value) (l : List UInt8) : Prop := w.ownsRow B 5 1 v l.length (cellsB l)
theorem cells_new (w : World) (l : List Value) (t : TypeId) (j : Nat) (u : Value) (h : l[j]? = some u) : (w.alloc (.cells l.toArray t)).cell? (Addr.add ⟨w.heap.size, 0, none⟩ j) = some u := by
  rw [show Addr.add ⟨w.heap.size, 0, none⟩ j = ⟨w.heap.size, j, none⟩ from by unfold Addr.add; split <;> simp_all]
  rw [cell_of_row _ w.heap.size j _ t (0, 0) (heap_alloc_new _ _), List.getElem?_toArray, h]
theorem cellsB_one (l : List UInt8) : ∀ u ∈ cellsB l, u.oneCell' = true := by
  intro u hu
  simp only [cellsB, List.mem_map] at hu
  obtain ⟨b, _, rfl⟩ := hu
  rfl
/-- 'append(s, b1, b2, ..)' on such a slice. -/
theorem app {ops : Array Oper} {rest : List Oper} {o : Oper} {a : Act} {w : World} {Q : Exit → Act → World → Prop} (hgd : o.guard = none) (s x : Operand)
    (ho : o.op = .call { callee := .builtin .append, args := #[s, x], argTypes := #[27, 27] }) (B : Nat) (v : Value) (l nb : List UInt8) (hs : a.eval s = v) (hown : Ob w B v l)
    (n : Nat) (hn : nb.length = n) (g : Nat) (hg : w.heap.size = g) (hx : a.eval x = .slice (some ⟨g, 0, none⟩) n n) (cs : Array Value) (hcs : cs = (cellsB nb).toArray) (hB : B ≤ w.heap.size) (hl : l.length + n ≤ 1099511627776)
    (h : ∀ v' w', Ob w' B v' (l ++ nb) → (∀ w0, Below B w0 w → Below B w0 w') → wpList Try.prog ops Q rest (a.put o.dst v') w') :
    wpList Try.prog ops Q (o :: rest) a (w.alloc (.cells cs 5)) := by
  obtain ⟨i0, hi, hz0, hz1, hz2⟩ := info_parts info_u8
  subst hcs
  subst hn
  subst hg
  refine wpList_append_own _ hgd s x 27 ho B 5 i0 (.int .u8 0) 1 1 Try.underlying27 hi hz0 hz1 hz2 rfl (by decide) v l.length (cellsB l) hs (hown.alloc _) ⟨w.heap.size, 0, none⟩ nb.length nb.length (cellsB nb) hx (by simp [cellsB_length]) (fun j u hj => cells_new w _ _ j u hj) (cellsB_one nb) (by unfold maxLen; omega) (by omega) (by simp; omega) ?_
  intro v' w' ho' hg _
  refine h v' w' ?_ ?_
  · unfold Ob
    rw [List.length_append]
    rw [show cellsB (l ++ nb) = cellsB l ++ cellsB nb from by simp [cellsB]]
    exact ho'
  · intro w0 hb
    exact (hb.alloc hB _).grown hg (by simp; omega) (fun g hg => (hown.lt g hg).1)
theorem Ob.string {w : World} {B : Nat} {v : Value} {l : List UInt8} (h : Ob w B v l) : (convert 27 9 v).run Try.prog w = .ok (.string ⟨l.toArray⟩) w := owns_string (P := Try.prog) (src := 27) (dst := 9) h Try.underlying27 Try.underlying5 Try.underlying9
theorem index_st {l : List Int} (hl : l.length = 8) (i : Nat) (hi : i < 8) (w : World) : (Instr.index 32 (.agg (cellsI l).toArray) (.int .i64 (i : Int))).run Try.prog w = .ok (.int .u32 (l.getD i 0)) w := by
  match l, hl with
  | [a, b, c, d, e, f, g, h], _ =>
    have hc : i = 0 ∨ i = 1 ∨ i = 2 ∨ i = 3 ∨ i = 4 ∨ i = 5 ∨ i = 6 ∨ i = 7 := by omega
    rcases hc with rfl | rfl | rfl | rfl | rfl | rfl | rfl | rfl <;> (show _ = _; kernel_rfl)
set_option maxRecDepth 100000 in
set_option maxHeartbeats 1600000 in
theorem text_ok {l : List Int} (hl : l.length = 8) (w : World) :
    Calls Try.prog 20 #[.agg (cellsI l).toArray] w fun e w' => e = .returned (.string ⟨(wtext l).toArray⟩) ∧ Below w.heap.size w w' := by
  obtain ⟨i0, hi0, hz0, hz1, hz2⟩ := info_parts info_u8
  have HL := Lib.hid hl
  clear hl
  go_enter Try.func20, Try.ntmps20
  have tok0 : True := trivial
  go_wp2_with (first | (at_make; refine wpList_make_own _ rfl _ _ 27 rfl w.heap.size 5 i0 (.int .u8 0) 1 Try.underlying27 hi0 hz0 hz1 _ _ _ 32 rfl rfl (by omega) (by rw [hz2]; omega) (by unfold maxLen; omega) (by simp) ?_; intro w0 hown0 hgrow0) | (have _t := tok0; refine wpList_load_row rfl 32 (.tmp 1) rfl w.heap.size rfl 32 (cellsI l).toArray (0, 0) _ ((hgrow0.block _ (by simp) (by simp)).trans (heap_alloc_new _ _)) Try.underlying32 rfl (by rw [size_I HL.out]; kernel_rfl) ?_; clear _t tok0))
  have hB : Below w.heap.size w w0 := ((Below.refl w.heap.size w).alloc (Nat.le_refl _) _).grown hgrow0 (by simp) (fun g hg => by cases hg)
  go_loopw [3, 5, 8] (fun v3 _ v8 wr => ∃ i : Nat, i ≤ 8 ∧ v8 = .int .i64 i ∧ Ob wr w.heap.size v3 (wtext (l.take i)) ∧ Below w.heap.size w wr) (fun _ _ i _ => 8 - (intOf i).toNat)
  case atStart => exact ⟨0, by omega, rfl, (by unfold Ob; simpa [wtext, cellsB] using hown0), hB⟩
  case round =>
    clear hown0 hgrow0 hB
    obtain ⟨i, hi, rfl, hO, hB⟩ := hrel
    by_cases hlt : i < 8
    · obtain ⟨x, hx, HT⟩ : ∃ x, (∀ W, (Instr.index 32 (.agg (cellsI l).toArray) (.int .i64 (i : Int))).run Try.prog W = .ok (.int .u32 x) W) ∧ Hid (wtext (l.take (i + 1)) = wtext (l.take i) ++ wbytes x) := by
        refine ⟨l.getD i 0, index_st HL.out i hlt, Lib.hid ?_⟩
        have h : i < l.length := by rw [HL.out]; exact hlt
        unfold wtext
        rw [List.take_succ_eq_append_getElem h, List.flatMap_append]
        simp [h]
      obtain ⟨A, cap, rfl⟩ := owns_form (show World.ownsRow _ _ _ _ _ _ _ from hO)
      have HO := Lib.hid hO
      clear hO
      have HW := Lib.hid (show (#[.int .u8 (x / 16777216 % 256), .int .u8 (x / 65536 % 256), .int .u8 (x / 256 % 256), .int .u8 (x % 256)] : Array Value) = (cellsB (wbytes x)).toArray from by simp [cellsB, wbytes, byt_toNat])
      have HE := Lib.hid (show (wtext (l.take i)).length ≤ 32 from by rw [wtext_length, List.length_take]; omega)
      have hsz := hB.size
      go_wp2_with (at_builtin; go_loud (refine app rfl _ _ rfl w.heap.size _ (wtext (l.take i)) (wbytes x) rfl HO.out 4 rfl _ rfl rfl _ HW.out hsz (by have := HE.out; omega) ?_); intro v1 w1 hO1 hB1)
      go_roundw
      case rel => exact ⟨i + 1, by omega, by go_num, by rw [HT.out]; exact hO1, hB1 _ hB⟩
      case measure => simp [intOf]; omega
    · obtain rfl : i = 8 := by omega
      obtain ⟨A, cap, rfl⟩ := owns_form (show World.ownsRow _ _ _ _ _ _ _ from hO)
      have hc := Ob.string hO
      have HT := Lib.hid (show wtext (l.take 8) = wtext l from by rw [List.take_of_length_le (by rw [HL.out]; omega)])
      clear hO
      go_wp2
      go_ret
      exact ⟨ret_str (by rw [HT.out]), hB⟩
end Go.Proofs.Ytgchfponmaangaa
