/-
  'copy' from a string. The contract of ending.
-/
import Derived.Test.YtgchfponmaangaaShaE
import Derived.Lib.BufferWrite
namespace Go.Proofs.Ytgchfponmaangaa
open Go.RowKit
theorem made_run (W : World) (l c : Nat) (hlc : l ≤ c) (hc : c ≤ 1048576) : (Instr.makeSlice 27 (.int .i64 (l : Int)) (.int .i64 (c : Int))).run Try.prog W = .ok (.slice (some ⟨W.heap.size, 0, none⟩) l c) (W.alloc (.cells (cellsB (List.replicate c 0)).toArray 5)) := by
  obtain ⟨i0, hi, hz0, hz1, hz2⟩ := info_parts info_u8
  have := run_make (P := Try.prog) W 27 5 i0 (.int .u8 0) Try.underlying27 hi hz0 .i64 .i64 l c (by omega) (by omega) (by rw [hz2]; omega) (by omega)
  rw [this, hz1]
  simp only [Int.toNat_natCast]
  rw [← madeB c]
/-- 'copy(b, s)', b a slice of the call's own that is as long as s. -/
theorem copyb {ops : Array Oper} {rest : List Oper} {o : Oper} {a : Act} {w : World} {Q : Exit → Act → World → Prop} (hgd : o.guard = none) (d x : Operand)
    (ho : o.op = .call { callee := .builtin .copy, args := #[d, x], argTypes := #[27, 9] }) (g : Nat) (tb : TypeId) (L : List UInt8) (s : ByteArray) (n c : Nat) (hd : a.eval d = .slice (some ⟨g, 0, none⟩) n c) (hx : a.eval x = .string s)
    (hg : w.heap[g]? = some (.cells (cellsB L).toArray tb (0, 0))) (hs : s.size ≤ n) (hn : n ≤ c) (hc : L.length = c)
    (h : wpList Try.prog ops Q rest (a.put o.dst (goInt s.size)) (w.setRow g (cellsB (s.data.toList ++ L.drop s.size)).toArray)) :
    wpList Try.prog ops Q (o :: rest) a w := by
  refine wpList_plain hgd fun K hK => ?_
  have hrun := Lib.run_copy_row_string (P := Try.prog) w 27 9 o.type 5 g 0 n c s (cellsB L).toArray tb Try.underlying27 (by kernel_rfl) hg hs (by simp [cellsB_length]; omega)
  have hcell : ((cellsB L).toArray.toList.take 0 ++ Lib.byteCells s.data.toList ++ (cellsB L).toArray.toList.drop (0 + s.size)).toArray = (cellsB (s.data.toList ++ L.drop s.size)).toArray := by
    simp [cellsB, Lib.byteCells]
  rw [hcell] at hrun
  unfold Oper.wp
  simp [execOp, ho, resolve, invoke, builtin, hd, hx, hrun, Result.andThen]
  exact hK _ _ h
/-- .. and the slice behind it. -/
theorem Ob.copied (w : World) (B g : Nat) (hB : B ≤ g) (l L' : List UInt8) (n c : Nat) (hn : l.length = n) (hc : (l ++ L').length = c) (hm : c ≤ 1048576) (hg : w.heap[g]? = some (.cells (cellsB (l ++ L')).toArray 5 (0, 0))) : Ob w B (.slice (some ⟨g, 0, none⟩) n c) l := by
  unfold Ob
  subst hn
  refine ⟨by simp [cellsB_length], .inr ⟨g, c, _, rfl, hB, hg, ?_, ?_, ?_, ?_⟩⟩
  · rw [← hc, List.length_append]; omega
  · unfold maxLen; omega
  · simp [cellsB_length, ← hc]
  · simp [cellsB]
set_option maxRecDepth 100000 in
set_option maxHeartbeats 1600000 in
theorem ending_ok (s : ByteArray) (n : Nat) (hs : s.size < 64) (hn : n ≤ 1099511627776) (hr : n % 64 = s.size) (w : World) :
    Calls Try.prog 19 #[.string s, .int .i64 (n : Int)] w fun e w' => e = .returned (.string ⟨(s.data.toList ++ tailb n).toArray⟩) ∧ Below w.heap.size w w' := by
  have hmk : ∀ W, (Instr.makeSlice 27 (.int .i64 (s.size : Int)) (.int .i64 128)).run Try.prog W = .ok (.slice (some ⟨W.heap.size, 0, none⟩) s.size 128) (W.alloc (.cells (cellsB (List.replicate 128 0)).toArray 5)) := fun W => made_run W s.size 128 (by omega) (by omega)
  obtain ⟨r, hR⟩ : ∃ r, r = s.size := ⟨_, rfl⟩
  have HR := Lib.hid hR
  have hr64 : s.size ≤ 128 := by omega
  go_enter Try.func19, Try.ntmps19
  have HD := Lib.hid (Ob.copied (((w.alloc (.cells (cellsB (List.replicate 128 0)).toArray 5)).setRow w.heap.size (cellsB (s.data.toList ++ (List.replicate 128 0).drop s.size)).toArray)) w.heap.size w.heap.size (Nat.le_refl _) s.data.toList ((List.replicate 128 0).drop s.size) s.size 128 (size_toList s) (by simp; omega) (by omega) (setRow_heap _ _ _ _ _ _ (heap_alloc_new _ _)))
  have hB : Below w.heap.size w ((w.alloc (.cells (cellsB (List.replicate 128 0)).toArray 5)).setRow w.heap.size (cellsB (s.data.toList ++ (List.replicate 128 0).drop s.size)).toArray) := below_setRow ((Below.refl w.heap.size w).alloc (Nat.le_refl _) _) (Nat.le_refl _) _
  have tok0 : True := trivial
  go_wp2_with (first | (have _t := tok0; refine copyb rfl (.tmp 11) (.tmp 12) rfl w.heap.size 5 (List.replicate 128 0) s s.size 128 rfl rfl (heap_alloc_new _ _) (Nat.le_refl _) hr64 (by simp) ?_; clear _t tok0; have tok1 : True := trivial) | (have _t := tok1; at_builtin; go_loud (refine app rfl _ _ rfl w.heap.size _ s.data.toList [128] rfl HD.out 1 rfl (w.heap.size + 1) (by simp) rfl _ rfl (by simp) (by rw [size_toList]; omega) ?_); intro v1 w1 hO1 hB1; clear _t tok1))
  have hB1 := hB1 _ hB
  clear hmk HD hB hr64
  go_loopw [5] (fun v5 wr => ∃ (z m : Nat) (A : Option Addr) (cap : Nat), z ≤ padz n ∧ m = r + 1 + z ∧ v5 = .slice A m cap ∧ Ob wr w.heap.size (.slice A m cap) (s.data.toList ++ [128] ++ List.replicate z 0) ∧ Below w.heap.size w wr) (fun v5 _ => match v5 with | .slice _ m _ => 300 - m | _ => 0)
  case atStart =>
    obtain ⟨A, cap, rfl⟩ := owns_form (show World.ownsRow _ _ _ _ _ _ _ from hO1)
    have hl : (s.data.toList ++ [128]).length = r + 1 := by rw [List.length_append, size_toList, HR.out]; rfl
    rw [hl] at hO1
    exact ⟨0, r + 1, A, cap, by omega, rfl, by rw [hl], by simpa using hO1, hB1⟩
  case round =>
    clear hO1 hB1
    obtain ⟨z, m, A, cap, hz, hm, rfl, hO, hB⟩ := hrel
    by_cases hlt : z < padz n
    · have ht : ((m : Int) % 64 != 56) = true := by
        have : ¬ (m : Int) % 64 = 56 := by unfold padz at hlt; omega
        simpa using this
      have hsz := hB.size
      have hp : padz n < 64 := by unfold padz; omega
      have HO := Lib.hid hO
      clear hO
      have HM := Lib.hid hm
      clear hm
      go_wp2_with (at_builtin; go_loud (refine app rfl _ _ rfl w.heap.size _ (s.data.toList ++ [128] ++ List.replicate z 0) [0] rfl HO.out 1 rfl _ rfl rfl _ rfl hsz (by simp; omega) ?_); intro v1 w1 hO1 hB1)
      obtain ⟨A1, cap1, rfl⟩ := owns_form (show World.ownsRow _ _ _ _ _ _ _ from hO1)
      have hl : (s.data.toList ++ [128] ++ List.replicate z 0 ++ [0]).length = m + 1 := by
        have := HM.out; have := HR.out; simp; omega
      rw [hl] at hO1 ⊢
      refine ⟨⟨z + 1, m + 1, A1, cap1, by omega, by have := HM.out; omega, rfl, ?_, hB1 _ hB⟩, ?_⟩
      · rw [List.replicate_succ', ← List.append_assoc]
        exact hO1
      · show 300 - (m + 1) < 300 - m
        have := HM.out; have := HR.out; omega
    · obtain rfl : z = padz n := by omega
      have ht : ((m : Int) % 64 != 56) = false := by
        have : (m : Int) % 64 = 56 := by unfold padz at hm; omega
        simpa using this
      have HO := Lib.hid hO
      have HM := Lib.hid hm
      clear hO hm hlt hz
      go_wp2_with fail
      generalize hP : s.data.toList ++ [128] ++ List.replicate (padz n) 0 = P at HO
      have HP := Lib.hid hP
      have hPl : P.length = m := by rw [← hP]; have := HM.out; have := HR.out; simp; omega
      have hp : padz n < 64 := by unfold padz; omega
      have hm2 : m < 128 := by have := HM.out; have := HR.out; omega
      have HPl := Lib.hid hPl
      clear hP hPl hp
      obtain ⟨wo, hwo⟩ : ∃ wo : World, wo = wr := ⟨_, rfl⟩
      go_loopw [5, 27] (fun v5 v27 wi => ∃ (i k : Nat) (A : Option Addr) (cap : Nat), i ≤ 8 ∧ k = m + i ∧ v27 = .int .i64 i ∧ v5 = .slice A k cap ∧ Ob wi w.heap.size (.slice A k cap) (P ++ (be8 n).take i) ∧ Below w.heap.size w wi) (fun _ i _ => 8 - (intOf i).toNat)
      case atStart => exact ⟨0, m, A, cap, by omega, rfl, rfl, rfl, by simpa using HO.out, hB⟩
      case round =>
        clear HO hB ht
        obtain ⟨i, k, A, cap, hi, hk, rfl, rfl, hO, hB⟩ := hrel
        by_cases hlt : i < 8
        · have q1 : (0 : Int) ≤ 8 * (7 - (i : Int)) := by omega
          have q2 : 8 * (7 - (i : Int)) ≤ 64 := by omega
          have hsz := hB.size
          have HO := Lib.hid hO
          have HK := Lib.hid hk
          clear hO hk
          have HW := Lib.hid (show (#[.int .u8 (8 * (n : Int) / 2 ^ (8 * (7 - i)) % 256)] : Array Value) = (cellsB [byt (8 * (n : Int) / 2 ^ (8 * (7 - i)))]).toArray from by simp [cellsB, byt_toNat])
          have HT := Lib.hid (be8_take n i hlt)
          have hkl : (P ++ (be8 n).take i).length ≤ 200 := by
            rw [List.length_append, HPl.out, List.length_take, be8_length]; omega
          go_wp2_with (at_builtin; go_loud (refine app rfl _ _ rfl w.heap.size _ (P ++ (be8 n).take i) [byt (8 * (n : Int) / 2 ^ (8 * (7 - i)))] rfl HO.out 1 rfl _ rfl rfl _ HW.out hsz (by omega) ?_); intro v2 w1 hO1 hB1)
          obtain ⟨A1, cap1, rfl⟩ := owns_form (show World.ownsRow _ _ _ _ _ _ _ from hO1)
          have hl : (P ++ (be8 n).take i ++ [byt (8 * (n : Int) / 2 ^ (8 * (7 - i)))]).length = k + 1 := by
            rw [List.length_append, List.length_append, HPl.out, List.length_take, be8_length]
            have := HK.out
            simp
            omega
          rw [hl] at hO1 ⊢
          clear hl hkl q1 q2
          go_roundw
          case rel => exact ⟨i + 1, k + 1, A1, cap1, by omega, by have := HK.out; omega, by go_num, rfl, by rw [HT.out, ← List.append_assoc]; exact hO1, hB1 _ hB⟩
          case measure => simp [intOf]; omega
        · obtain rfl : i = 8 := by omega
          have hc := Ob.string hO
          have HT := Lib.hid (show P ++ (be8 n).take 8 = s.data.toList ++ tailb n from by
            rw [← HP.out, List.take_of_length_le (by rw [be8_length]; omega)]
            simp [tailb])
          clear hO hk
          go_wp2
          go_ret
          exact ⟨ret_str (by rw [HT.out]), hB⟩
end Go.Proofs.Ytgchfponmaangaa
