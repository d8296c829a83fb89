/-
  The contract of the iterator that modular.digits makes: the binary digits of a number, the most significant one first.
-/
import Derived.RangeFuncNested
import Derived.RangeFuncBound
import Derived.RangeFuncCalls
import Derived.RangeFuncLeaves
import Derived.Shelf.Abstract
import Derived.Shelf.RegionOpen
import Derived.WalkKit
import Derived.OwnWalkIn
import Derived.TacticsInMore
import Derived.LoopNIn
import Derived.LoopIn
import Derived.Test.YtmiafkbjmkaebaaGreatLawA
import Derived.Test.YtmiafkbjmkaebaaGreatModL
namespace Go.Proofs.YtmiafkbjmkaebaaGreat
open Go.RowKit Num Go.Shelf
attribute [local go_sem] Oper.semAt_some

/-- The box of the number is as it was. -/
def KB (bx : Nat) (W W' : World) : Prop := W'.cell? ⟨bx, 0, none⟩ = W.cell? ⟨bx, 0, none⟩
/-- The binary digits of a, the most significant one first. -/
def bitsM (a : Nat) : List Bool := (List.range (nb a)).map fun i => bitB a (nb a - 1 - i)

theorem bitsM_length (a : Nat) : (bitsM a).length = nb a := by simp [bitsM]
theorem bitsM_take {a i p : Nat} (h : i < nb a) (hp : p = nb a - 1 - i) : (bitsM a).take i ++ [bitB a p] = (bitsM a).take (i + 1) := by
  have hl : i < (bitsM a).length := by rw [bitsM_length]; exact h
  rw [List.take_succ_eq_append_getElem hl]
  congr 2
  simp [bitsM, hp]

set_option maxHeartbeats 2000000 in
set_option maxRecDepth 100000 in
theorem digits_in (m l bx a : Nat) (hm : 1 ≤ m) (ha : a < Top) (J Jx : List Bool → World → Prop)
    (hY : ∀ pre x W, J pre W → pre.length < nb a → YieldAt Fence.wide (m - 1) Tryz.prog l #[.bool x] W fun e W' =>
      (e = .returned (.bool true) ∧ J (pre ++ [x]) W' ∧ KB bx W W') ∨ (e = .returned (.bool false) ∧ Jx (pre ++ [x]) W'))
    (W : World) (hbx : W.cell? ⟨bx, 0, none⟩ = some (.string (bs a))) (h0 : J [] W) :
    CallsIn Fence.wide m Tryz.prog 111 #[.func (.yield l) #[] #[], .pointer (some ⟨bx, 0, none⟩)] W fun e W' => (∃ v, e = .returned v) ∧
      ((∃ ys, ys = bitsM a ∧ J ys W') ∨ (∃ pre, pre <+: bitsM a ∧ Jx pre W')) := by
  refine callsIn_of_wp Tryz.func111 rfl trivial ?_ rfl
  simp only [Tryz.ntmps111, List.size_toArray, List.length_cons, List.length_nil, Nat.reduceAdd, Nat.reduceSub, Array.replicate_succ, Array.replicate_zero, List.push_toArray, List.append_toArray, List.nil_append, List.cons_append]
  have hnb : nb a ≤ 1024 := by
    rcases Nat.eq_zero_or_pos a with h | h
    · rw [h, nb_zero]; omega
    · have h1 := nb_bytes (n := a) (by omega) (bs_pos (by omega))
      have h2 : (bs a).size ≤ 128 := by rw [bs_le]; exact ha
      have h3 : Lib.bitLen ((bs a)[0]'(bs_pos (by omega))).toNat ≤ 8 := Lib.bitLen_le _ 8 (by omega) (byte_lt _)
      omega
  have HB := Lib.hid (fun W => bits_ok ha W)
  have HBit := Lib.hid (fun i (h : i < nb a) W => bit_yes ha i h W)
  clear ha
  gi_wp2_with (refine ⟨trivial, ?_⟩; gi_at_call 112; refine (callsIn_wide.2 (HB.out _)).mono ?_; rintro e w' ⟨rfl, rfl⟩)
  gi_loopw [8] (fun x wr => ∃ i : Nat, i ≤ nb a ∧ x = .int .i64 i ∧ J ((bitsM a).take i) wr ∧ wr.cell? ⟨bx, 0, none⟩ = some (.string (bs a))) (fun x _ => nb a - (intOf x).toNat)
  case atStart => exact ⟨0, Nat.zero_le _, rfl, by simpa using h0, hbx⟩
  case round =>
    obtain ⟨i, hi, rfl, hJ, hc⟩ := hrel
    by_cases hlt : i < nb a
    · obtain ⟨p, hp⟩ : ∃ p, p = nb a - 1 - i := ⟨_, rfl⟩
      have hpi : ((nb a : Int) - 1 - (i : Int)) = (p : Int) := by omega
      have hpl : p < nb a := by omega
      have hX := bitsM_take hlt hp
      obtain ⟨x, hx⟩ : ∃ x, x = bitB a p := ⟨_, rfl⟩
      rw [← hx] at hX
      have HBp := Lib.hid (fun W => (by have := HBit.out p hpl W; rw [← hx] at this; exact this : Calls Tryz.prog 113 #[.string (bs a), .int .i64 (p : Int)] W (Same W (.bool x))))
      have hlen : ((bitsM a).take i).length < nb a := by rw [List.length_take, bitsM_length]; omega
      obtain ⟨fn, tmps, assign, body, hy, hR⟩ := hY ((bitsM a).take i) x wr hJ hlen
      rw [hX] at hR
      have HX := Lib.hid hX
      clear hp hx hlen hX
      gi_wp2_with (refine ⟨trivial, ?_⟩; gi_at_call 113; refine (callsIn_wide.2 (HBp.out _)).mono ?_; rintro e w' ⟨rfl, rfl⟩)
      refine hR.mono ?_
      rintro e W3 (⟨rfl, hJ3, hk3⟩ | ⟨rfl, hJx3⟩)
      · have hc3 : W3.cell? ⟨bx, 0, none⟩ = some (.string (bs a)) := Eq.trans hk3 hc
        clear hc
        gi_wp2
        go_roundw
        case rel => exact ⟨i + 1, by omega, by go_num, hJ3, hc3⟩
        case measure => simp [intOf]; omega
      · have HP := Lib.hid (show (bitsM a).take (i + 1) <+: bitsM a from List.take_prefix _ _)
        gi_wp2
        refine bodyPost_ret (results_none rfl _ _ _) rfl ?_
        exact ⟨⟨_, rfl⟩, .inr ⟨_, HP.out, hJx3⟩⟩
    · have hie : i = nb a := by omega
      have hJ2 : J (bitsM a) wr := by
        rw [hie, ← bitsM_length, List.take_length] at hJ
        exact hJ
      clear hJ hie
      gi_wp2
      go_end0
      exact ⟨⟨_, rfl⟩, .inl ⟨bitsM a, rfl, hJ2⟩⟩

/-- What digits hands back yields the binary digits. -/
theorem digits_stops (m bx a : Nat) (hm : 1 ≤ m) (ha : a < Top) (w : World) (hbx : w.cell? ⟨bx, 0, none⟩ = some (.string (bs a))) (hn : bx < w.heap.size) :
    SeqStopsK Fence.wide m Tryz.prog 111 #[.pointer (some ⟨bx, 0, none⟩)] (fun b : Bool => #[.bool b]) (KB bx) (fun xs => xs = bitsM a) (fun pre => pre <+: bitsM a) (nb a) w :=
  fun l J Jx W hW _ _ hY h0 => digits_in m l bx a hm ha J Jx hY W ((hW.cell (p := ⟨bx, 0, none⟩) hn).trans hbx) h0

set_option maxHeartbeats 1000000 in
set_option maxRecDepth 100000 in
theorem digits_any (s : ByteArray) (w : World) : Calls Tryz.prog 87 #[.string s] w fun e w' => e = .returned (.func (.func 111) #[] #[.pointer (some ⟨w.heap.size, 0, none⟩)]) ∧ w' = w.alloc (.cells #[.string s] 22) := by
  go_enter Tryz.func87, Tryz.ntmps87
  go_wp2
  go_ret
  exact ⟨rfl, rfl⟩

end Go.Proofs.YtmiafkbjmkaebaaGreat
