/-
  The contract of the iterator that prime.factors makes: the prime factors in ascending order. The contract of prime.Factors.
-/
import Derived.RangeFuncNested
import Derived.RangeFuncBound
import Derived.RangeFuncCalls
import Derived.RangeFuncLeaves
import Derived.Shelf.Abstract
import Derived.Shelf.RegionOpen
import Derived.WalkKit
import Derived.OwnWalkIn
import Derived.TacticsInMore
import Derived.LoopNIn
import Derived.LoopIn
import Derived.Test.YtnnohjabneepiaaModP
import Derived.Test.YtnnohjabneepiaaPriS
import Derived.Test.YtnnohjabneepiaaModQ
namespace Go.Proofs.Ytnnohjabneepiaa
open Go.RowKit Num Go.Shelf
attribute [local go_sem] Oper.semAt_some

/-- Numbers of 64 bits. -/
abbrev U64 := { x : Nat // x < 18446744073709551616 }

set_option maxHeartbeats 4000000 in
set_option maxRecDepth 100000 in
theorem factors_in (m l bx N : Nat) (hm : 1 ≤ m) (h0 : N ≠ 0) (hN : N < 1099511627776) (J Jx : List U64 → World → Prop)
    (hY : ∀ pre x W, J pre W → pre.length < 41 → YieldAt Fence.wide (m - 1) Try.prog l #[.int .u64 (x.1 : Int)] W fun e W' =>
      (e = .returned (.bool true) ∧ J (pre ++ [x]) W' ∧ KB bx W W') ∨ (e = .returned (.bool false) ∧ Jx (pre ++ [x]) W'))
    (W : World) (hbx : W.cell? ⟨bx, 0, none⟩ = some (.int .u64 (N : Int))) (h1 : J [] W) :
    CallsIn Fence.wide m Try.prog 62 #[.func (.yield l) #[] #[], .pointer (some ⟨bx, 0, none⟩)] W fun e W' => (∃ v, e = .returned v) ∧
      ((∃ ys, IsFac N (ys.map (·.1)) ∧ J ys W') ∨ (∃ pre, True ∧ Jx pre W')) := by
  refine callsIn_of_wp Try.func62 rfl trivial ?_ rfl
  simp only [Try.ntmps62, List.size_toArray, List.length_cons, List.length_nil, Nat.reduceAdd, Nat.reduceSub, Array.replicate_succ, Array.replicate_zero, List.push_toArray, List.append_toArray, List.nil_append, List.cons_append]
  have HN := Lib.hid hN
  have Hr : Hid (1 ≤ N) := Lib.hid (by omega)
  clear h0 hN
  gi_wp2
  gi_loopw [3, 4] (fun x3 x4 wr => ∃ (r d : Nat) (ys : List U64), x3 = .int .u64 r ∧ x4 = .int .u64 d ∧ Hid (r ≤ N) ∧ 2 ≤ d ∧ d ≤ 1048577 ∧ Hid (d = 2 ∨ d % 2 = 1) ∧ Hid (FacS N (ys.map (·.1)) r d) ∧ J ys wr) (fun _ x4 _ => 1048580 - (intOf x4).toNat)
  case atStart => exact ⟨N, 2, [], rfl, rfl, Lib.hid (Nat.le_refl _), by omega, by omega, Lib.hid (.inl rfl), Lib.hid ⟨Took.nil N, Rough.one (by omega) N, Hr.out, by simp⟩, h1⟩
  case round =>
    obtain ⟨r, d, ys, rfl, rfl, hrN, hd2, hdl, Hd, HF, hJ⟩ := hrel
    obtain ⟨dd, hdd⟩ : ∃ x, x = d * d := ⟨_, rfl⟩
    have edd : (d : Int) * (d : Int) = (dd : Int) := by rw [hdd, Int.natCast_mul]
    have hddl : dd ≤ 1048577 * 1048577 := by rw [hdd]; exact Nat.mul_le_mul hdl hdl
    have wdd : IntKind.u64.wrap (dd : Int) = (dd : Int) := by rw [IntKind.wrap_u64]; omega
    by_cases hle : dd ≤ r
    · have hdl2 : d < 1048576 := by
        rcases Nat.lt_or_ge d 1048576 with h5 | h5
        · exact h5
        · exfalso
          have h6 := Nat.mul_le_mul h5 h5
          have := hrN.out
          have := HN.out
          omega
      have d0 : (d : Int) ≠ 0 := by omega
      clear hdd hddl
      gi_wp2
      clear hle
      gi_loopw [3] (fun x3 wr => ∃ (r : Nat) (ys : List U64), x3 = .int .u64 r ∧ Hid (r ≤ N) ∧ Hid (FacS N (ys.map (·.1)) r d) ∧ J ys wr) (fun x3 _ => (intOf x3).toNat)
      case atStart => exact ⟨r, ys, rfl, hrN, HF, hJ⟩
      case round =>
        obtain ⟨r, ys, rfl, hrN, HF, hJ⟩ := hrel
        obtain ⟨rr, hrr⟩ : ∃ x, x = r % d := ⟨_, rfl⟩
        have err : (r : Int) % (d : Int) = (rr : Int) := by rw [hrr, Int.natCast_emod]
        by_cases h0 : rr = 0
        · obtain ⟨q, hq⟩ : ∃ x, x = r / d := ⟨_, rfl⟩
          have erq : (r : Int) / (d : Int) = (q : Int) := by rw [hq, Int.natCast_ediv]
          have wq : IntKind.u64.wrap (q : Int) = (q : Int) := by
            have := Nat.div_le_self r d
            have := hrN.out
            have := HN.out
            rw [IntKind.wrap_u64]
            omega
          have hF2 := HF.out.take hd2 (by rw [← hrr, h0])
          rw [← hq] at hF2
          have hlen : ys.length < 41 := by
            have := HF.out.len HN.out
            rw [List.length_map] at this
            omega
          obtain ⟨x, hx⟩ : ∃ x : U64, x.1 = d := ⟨⟨d, by omega⟩, rfl⟩
          have HF2 : Hid (FacS N ((ys ++ [x]).map (·.1)) q d) := Lib.hid (by rw [List.map_append, List.map_singleton, hx]; exact hF2)
          have HQ := Lib.hid (show q ≤ N ∧ q < r from ⟨by have := Nat.div_le_self r d; have := hrN.out; omega, by rw [hq]; exact Nat.div_lt_self HF.out.2.2.1 (by omega)⟩)
          have hqr := HQ.out.2
          have hYx := hY ys x wr hJ hlen
          rw [hx] at hYx
          obtain ⟨fn, tmps, assign, body, hy, hR⟩ := hYx
          subst h0
          clear hq hrr hF2 hlen hx
          gi_wp2
          refine hR.mono ?_
          rintro e W3 (⟨rfl, hJ3, hk3⟩ | ⟨rfl, hJx3⟩)
          · clear hk3
            gi_wp2
            go_roundw
            case rel => exact ⟨q, ys ++ [x], rfl, Lib.hid HQ.out.1, HF2, hJ3⟩
            case measure => simp [intOf]; omega
          · gi_wp2
            refine bodyPost_ret (results_none rfl _ _ _) rfl ?_
            exact ⟨⟨_, rfl⟩, .inr ⟨_, trivial, hJx3⟩⟩
        · have hF3 := HF.out
          have hnx : Rough (d + 1) r := hF3.2.1.next (by rw [← hrr]; exact h0)
          rcases Hd.out with he | ho
          · have HF3 := Lib.hid (show FacS N (ys.map (·.1)) r 3 from ⟨hF3.1, by rw [he] at hnx; exact hnx, hF3.2.2.1, hF3.2.2.2⟩)
            have em : (d : Int) % 2 = 0 := by omega
            have hd3 : (d : Int) + 1 = 3 := by omega
            have hd4 : d < 3 := by omega
            clear hrr hF3 hnx he
            gi_wp2
            go_roundw
            case rel => exact ⟨r, 3, ys, rfl, rfl, hrN, by omega, by omega, Lib.hid (.inr rfl), HF3, hJ⟩
            case measure => simp [intOf]; omega
          · have HF3 := Lib.hid (show FacS N (ys.map (·.1)) r (d + 2) from ⟨hF3.1, hnx.skip hd2 ho, hF3.2.2.1, hF3.2.2.2⟩)
            have em : (d : Int) % 2 = 1 := by omega
            have HO := Lib.hid ho
            clear hrr hF3 hnx ho
            gi_wp2
            go_roundw
            case rel => exact ⟨r, d + 2, ys, rfl, by go_num, hrN, by omega, by omega, Lib.hid (.inr (by have := HO.out; omega)), HF3, hJ⟩
            case measure => simp [intOf]; omega
    · by_cases hr1 : 1 < r
      · have hL := HF.out.1.last (HF.out.2.1.self hr1 (by rw [← hdd]; omega))
        obtain ⟨x, hx⟩ : ∃ x : U64, x.1 = r := ⟨⟨r, by have := hrN.out; have := HN.out; omega⟩, rfl⟩
        have HL : Hid (IsFac N ((ys ++ [x]).map (·.1))) := Lib.hid (by rw [List.map_append, List.map_singleton, hx]; exact hL)
        have hlen : ys.length < 41 := by
          have := HF.out.len HN.out
          rw [List.length_map] at this
          omega
        have hYx := hY ys x wr hJ hlen
        rw [hx] at hYx
        obtain ⟨fn, tmps, assign, body, hy, hR⟩ := hYx
        clear hdd hddl hL hlen hx
        gi_wp2
        refine hR.mono ?_
        rintro e W3 (⟨rfl, hJ3, hk3⟩ | ⟨rfl, hJx3⟩)
        · gi_wp2
          go_end0
          exact ⟨⟨_, rfl⟩, .inl ⟨_, HL.out, hJ3⟩⟩
        · gi_wp2
          go_end0
          exact ⟨⟨_, rfl⟩, .inr ⟨_, trivial, hJx3⟩⟩
      · obtain rfl : r = 1 := by have := HF.out.2.2.1; omega
        have HL := Lib.hid HF.out.1.done
        clear hdd hddl
        gi_wp2
        go_end0
        exact ⟨⟨_, rfl⟩, .inl ⟨ys, HL.out, hJ⟩⟩

/-- What prime.factors hands back yields the prime factors. -/
theorem factors_stops (m bx N : Nat) (hm : 1 ≤ m) (h0 : N ≠ 0) (hN : N < 1099511627776) (w : World) (hbx : w.cell? ⟨bx, 0, none⟩ = some (.int .u64 (N : Int))) (hn : bx < w.heap.size) :
    SeqStopsK Fence.wide m Try.prog 62 #[.pointer (some ⟨bx, 0, none⟩)] (fun x : U64 => #[.int .u64 (x.1 : Int)]) (KB bx) (fun xs => IsFac N (xs.map (·.1))) (fun _ => True) 41 w :=
  fun l J Jx W hW _ _ hY h1 => factors_in m l bx N hm h0 hN J Jx hY W ((hW.cell (p := ⟨bx, 0, none⟩) hn).trans hbx) h1

set_option maxHeartbeats 1000000 in
set_option maxRecDepth 100000 in
theorem factors_any (N : Int) (w : World) : Calls Try.prog 42 #[.int .u64 N] w fun e w' => e = .returned (.func (.func 62) #[] #[.pointer (some ⟨w.heap.size, 0, none⟩)]) ∧ w' = w.alloc (.cells #[.int .u64 N] 31) := by
  go_enter Try.func42, Try.ntmps42
  go_wp2
  go_ret
  exact ⟨rfl, rfl⟩
end Go.Proofs.Ytnnohjabneepiaa

namespace Go.Proofs.Ytnnohjabneepiaa
open Go.RowKit Num Go.Shelf
attribute [local go_sem] Oper.semAt_some

/-- 'append' as one step of a region that draws, inside a fence. -/
theorem wpIn_append_own {F : Fence} {n0 : Nat} {P : Program} {o : Oper} {a : Act} {w : World} {K : Act → World → Prop} {Q : Exit → Act → World → Prop} (s x : Operand) (t : TypeId)
    (ho : o.op = .call { callee := .builtin .append, args := #[s, x], argTypes := #[t, t] })
    (base : Nat) (e : TypeId) (i : TypeInfo) (z : Value) (size bytes : Nat) (ht : P.underlying t = some (.slice e)) (hi : P.info? e = some i) (hz : i.zero = some z)
    (hsize : i.size = size) (hby : i.bytes = bytes) (hzs : z.cells.size = size) (hsz : 0 < size)
    (v : Value) (n : Nat) (xs : List Value) (hs : a.eval s = v) (hown : w.ownsRow base e size v n xs)
    (ad : Addr) (m c : Nat) (news : List Value) (hx : a.eval x = .slice (some ad) m c) (hl : news.length = m * size) (hnews : ∀ j u, news[j]? = some u → w.cell? (ad.add j) = some u) (h1 : ∀ u ∈ news, u.oneCell' = true)
    (h63 : n + m ≤ maxLen) (hbytes : (n + m) * bytes ≤ 140737488355328) (hbase : base ≤ w.heap.size)
    (h : ∀ v' w', w'.ownsRow base e size v' (n + m) (xs ++ news) → w.grownBy w' v.ownBlock → K (a.put o.dst v') w') : o.wpIn F n0 P a w K Q := by
  obtain ⟨v', w', hr, h2, h3, h4⟩ := run_append_own (P := P) w base t o.type e i z size bytes ht hi hz hsize hby hzs hsz v n xs hown ad m c news hl hnews h1 h63 hbytes hbase
  have hsem : o.semAt F.round a.eval = execOp a.eval o := by
    cases F.round with
    | none => rfl
    | some l => exact Oper.semAt_some l _ _ (fun c => by rw [ho]; intro h; cases h)
  have hrun : (execOp a.eval o).run P w = .ok (.value v') w' := by
    unfold execOp
    simp only [ho, resolve, invoke, builtin, Sem.run_bind, Sem.run_pure, Result.andThen_ok, List.map_toArray, List.map_cons, List.map_nil, hs, hx, hr]
  refine ⟨?_, ?_⟩
  · intro f hf
    unfold Oper.about at hf
    simp [ho, resolve, Target.leads] at hf
  · rw [hsem, hrun]
    exact h v' w' h2 h3

/-- The same as a step of a walk through a region. -/
theorem stepIn_append {F : Fence} {n0 : Nat} {ops : Array Oper} {o : Oper} {a : Act} {w : World} {K : Act → World → Prop} {Q : Exit → Act → World → Prop} {E : Prop} (hgd : o.guard = none) (s x : Operand) (t e : TypeId)
    (ho : o.op = .call { callee := .builtin .append, args := #[s, x], argTypes := #[t, t] })
    (base : Nat) (i : TypeInfo) (z : Value) (size bytes : Nat) (ht : Try.prog.underlying t = some (.slice e)) (hi : Try.prog.info? e = some i) (hz : i.zero = some z)
    (hsize : i.size = size) (hby : i.bytes = bytes) (hzs : z.cells.size = size) (hsz : 0 < size)
    (v : Value) (n : Nat) (xs : List Value) (hs : a.eval s = v) (hown : w.ownsRow base e size v n xs)
    (ad : Addr) (m c : Nat) (news : List Value) (hx : a.eval x = .slice (some ad) m c) (hl : news.length = m * size) (hnews : ∀ j u, news[j]? = some u → w.cell? (ad.add j) = some u) (h1 : ∀ u ∈ news, u.oneCell' = true)
    (h63 : n + m ≤ maxLen) (hbytes : (n + m) * bytes ≤ 140737488355328) (hbase : base ≤ w.heap.size)
    (h : ∀ v' w', w'.ownsRow base e size v' (n + m) (xs ++ news) → w.grownBy w' v.ownBlock → K (a.put o.dst v') w') :
    if Region.wanted o (yielded ops a.tmps) = true then Oper.wpIn F n0 Try.prog o a w K Q else E := by
  have hw : Region.wanted o (yielded ops a.tmps) = true := by simp [Region.wanted, hgd]
  rw [if_pos hw]
  exact wpIn_append_own s x t ho base e i z size bytes ht hi hz hsize hby hzs hsz v n xs hs hown ad m c news hx hl hnews h1 h63 hbytes hbase h

/-- A row of the call's own, when a box below it is written. -/
theorem owns_set {W : World} {base n : Nat} {e : TypeId} {v : Value} {xs : List Value} (h : W.ownsRow base e 1 v n xs) (p : Addr) (u : Value) (hp : p.block < base) : (W.setCell p u).ownsRow base e 1 v n xs :=
  ⟨h.1, h.2.imp id (fun ⟨g, cap, cur, hv, hg, hh, r⟩ => ⟨g, cap, cur, hv, hg, (Below.heap_setCell W p u g (by omega)).trans hh, r⟩)⟩
theorem owns_own {W W' : World} {base n : Nat} {e : TypeId} {v : Value} {xs : List Value} {row : Option Nat} (h : W.ownsRow base e 1 v n xs) (hg : W.grownBy W' row) (hr : ∀ r, row = some r → ∃ o : Obj, W.heap[r]? = some o ∧ o.isCells = false) : W'.ownsRow base e 1 v n xs :=
  ⟨h.1, h.2.imp id (fun ⟨g, cap, cur, hv, hb, hh, r⟩ => ⟨g, cap, cur, hv, hb, (grownBy_keeps_cells hg hr hh rfl).trans hh, r⟩)⟩

theorem isfac_two : ∀ {l : List Nat} {n : Nat}, n ≠ 0 → IsFac n l → 2 ^ l.length ≤ n := by
  intro l
  induction l with
  | nil => intro n h0 _; simp; omega
  | cons p t ih =>
    intro n h0 h
    obtain ⟨⟨h2, hd, _⟩, ht⟩ := h
    have hp : p ≤ n := Nat.le_of_dvd (by omega) hd
    have hq : n / p ≠ 0 := by have := Nat.div_pos hp (by omega); omega
    have h3 := ih hq ht
    rw [List.length_cons, Nat.pow_succ]
    have h4 := Nat.mul_div_le n p
    have h5 : 2 ^ t.length * 2 ≤ (n / p) * p := Nat.mul_le_mul h3 h2
    rw [Nat.mul_comm] at h4
    exact Nat.le_trans h5 h4
theorem isfac_len {l : List Nat} {n : Nat} (h0 : n ≠ 0) (hn : n < 1099511627776) (h : IsFac n l) : l.length ≤ 40 := by
  have h1 := isfac_two h0 h
  rcases Nat.lt_or_ge l.length 40 with h7 | h7
  · omega
  · exfalso
    have := Nat.pow_le_pow_right (show 0 < 2 by decide) h7
    have h9 : 2 ^ 40 = 1099511627776 := by decide
    omega

/-- One more into a boxed slice of the call's own: what stands behind the append and behind the store. -/
theorem push_end {w Wd Wq w2 : World} {B BO BX n m : Nat} {v v1 : Value} {xs ys : List Value} {t e : TypeId} {c : Obj} (hO0 : w.heap.size ≤ BO) (hO : BO < B) (hX : BX < B) (hne : BX ≠ BO)
    (j1 : Bk Wd BO #[v] t) (j2 : Wd.ownsRow B e 1 v n xs) (j3 : Below w.heap.size w Wd) (j4 : B ≤ Wd.heap.size) (hb : Below Wd.heap.size Wd Wq) (hg : (Wq.alloc c).grownBy w2 v.ownBlock) (ho : w2.ownsRow B e 1 v1 m ys) :
    Bk w2 BO #[v] t ∧ KeepsOthers Wd (w2.setCell ⟨BO, 0, none⟩ v1) ∧ KB BX Wd (w2.setCell ⟨BO, 0, none⟩ v1) ∧ Bk (w2.setCell ⟨BO, 0, none⟩ v1) BO #[v1] t ∧ (w2.setCell ⟨BO, 0, none⟩ v1).ownsRow B e 1 v1 m ys ∧
      Below w.heap.size w (w2.setCell ⟨BO, 0, none⟩ v1) ∧ B ≤ (w2.setCell ⟨BO, 0, none⟩ v1).heap.size := by
  have hge : ∀ g, v.ownBlock = some g → B ≤ g := fun g hv => (j2.lt g hv).1
  have hq := hb.size
  have k2 : (Wq.alloc c).ownsRow B e 1 v n xs := (owns_below j2 hb).alloc _
  have k1 : Bk (Wq.alloc c) BO #[v] t := (j1.below hb).alloc _
  have hbq : Below w.heap.size w (Wq.alloc c) := (j3.trans (hb.mono j3.size)).alloc (Nat.le_trans j3.size hq) _
  have hb2 : Below w.heap.size w w2 := hbq.grown hg hbq.size (fun g hv => by have := hge g hv; omega)
  have e1 : Bk w2 BO #[v] t := (hg.block BO k1.lt (fun h => by have := hge BO h.symm; omega)).trans k1
  have hsz : (Wq.alloc c).heap.size = Wq.heap.size + 1 := by simp
  refine ⟨e1, ?_, ?_, e1.set 0 _, owns_set ho _ _ hO, hb2.setCell (p := ⟨BO, 0, none⟩) hO0 _, ?_⟩
  · refine ((KeepsOthers.of_grownBy (grown_of_below hb none) (fun j o h => by cases h)).trans ((KeepsOthers.alloc _ _).trans (KeepsOthers.of_grownBy hg (fun j o h hj => ?_)))).trans (KeepsOthers.setCell _ _ _)
    rcases k2.2 with ⟨rfl, _⟩ | ⟨g, cap, cur, rfl, _, hh, _⟩
    · cases h
    · injection h with h
      subst h
      rw [hh] at hj
      injection hj with hj
      subst hj
      rfl
  · refine (World.cell?_of_block (Below.heap_setCell w2 ⟨BO, 0, none⟩ v1 BX hne)).trans (World.cell?_of_block ?_)
    rw [hg.block BX (by omega) (fun h => by have := hge BX h.symm; omega), Below.heap_alloc _ _ _ (by omega), hb.block BX (by omega)]
  · have := hg.size
    simp [World.setCell]
    omega

set_option maxHeartbeats 2000000 in
set_option maxRecDepth 100000 in
theorem pfactors_ok (N : Nat) (w : World) (h0 : N ≠ 0) (hN : N < 1099511627776) :
    Calls Try.prog 24 #[.string (bs N)] w fun e w' => ∃ (v : Value) (L : List Nat), e = .returned (.tuple #[v, .int .i64 0]) ∧ IsFac N L ∧ L.length ≤ 40 ∧ w'.ownsRow w.heap.size 22 1 v L.length (cellsS L) ∧ Below w.heap.size w w' := by
  have he : (bs N).toList.isEmpty = false := by rw [bs_isEmpty]; exact beq_false_of_ne h0
  have HS := Lib.hid (fun W => psmall_yes N W (Nat.lt_trans hN (by decide)))
  have hd : decide ((1099511627776 : Int) ≤ (N : Int)) = false := by simp; omega
  have HN := Lib.hid (And.intro h0 hN)
  obtain ⟨i0, hi0, hz0, hz1, hz2⟩ := info_parts info_nat
  have HIN := Lib.hid (And.intro hi0 (And.intro hz0 (And.intro hz1 hz2)))
  clear h0 hN hi0 hz0 hz1 hz2
  refine (callsIn_wide (n := 5)).1 ?_
  refine callsIn_of_wp_marks Try.func24 rfl trivial ?_ rfl
  simp only [Try.ntmps24, List.size_toArray, List.length_cons, List.length_nil, Nat.reduceAdd, Nat.reduceSub, Array.replicate_succ, Array.replicate_zero, List.push_toArray, List.append_toArray, List.nil_append, List.cons_append]
  gi_wp2_with (refine ⟨trivial, ?_⟩; first
    | (gi_at_call 27; refine (callsIn_wide.2 (HS.out _)).mono ?_; rintro e w' ⟨rfl, rfl⟩)
    | (gi_at_call 42; refine (callsIn_wide.2 (factors_any _ _)).mono ?_; rintro e w' ⟨rfl, rfl⟩))
  obtain ⟨BO, eO⟩ : ∃ x, x = w.heap.size := ⟨_, rfl⟩
  obtain ⟨BX, eX⟩ : ∃ x, x = w.heap.size + 1 := ⟨_, rfl⟩
  obtain ⟨W0, hW0⟩ : ∃ W0, W0 = ((w.alloc (.cells #[.slice none 0 0] 47)).alloc (.cells #[.int .u64 (N : Int)] 31)) := ⟨_, rfl⟩
  have kO : Bk W0 BO #[.slice none 0 0] 47 := by rw [hW0, eO]; exact (Bk.new _ _ _).alloc _
  have kX : W0.cell? ⟨BX, 0, none⟩ = some (.int .u64 (N : Int)) := by
    rw [hW0, eX]
    exact (Bk.new1 w (.cells #[.slice none 0 0] 47) #[.int .u64 (N : Int)] 31).cell 0
  have hsz : W0.heap.size = w.heap.size + 2 := by rw [hW0]; simp
  have hB0 : Below w.heap.size w W0 := by
    rw [hW0]
    exact ((Below.refl _ w).alloc (Nat.le_refl _) _).alloc (by simp) _
  rw [← eX, ← eO, ← hW0]
  have HS2 := Lib.hid (And.intro eO (And.intro eX hsz))
  have hXl : BX < W0.heap.size := by omega
  clear hW0 eO eX hsz
  refine wpIn_rangeFunc_ownF rfl (by omega) (gf := 62) (lb := #[.pointer (some ⟨BX, 0, none⟩)]) rfl trivial (enters_of Try.func62 (by kernel_rfl) rfl)
    (factors_stops 4 BX N (by omega) HN.out.1 HN.out.2 W0 kX hXl) (fun h k => Eq.trans k h) (fun W l o o' hl ho _ _ => World.cell?_of_block (World.putObj_heap_other (by show BX ≠ l; omega))) (Below.refl _ _) (fun _ => rfl)
    (fun pre W => ∃ v, Bk W BO #[v] 47 ∧ W.ownsRow W0.heap.size 22 1 v pre.length (cellsS (pre.map (·.1))) ∧ Below w.heap.size w W ∧ W0.heap.size ≤ W.heap.size)
    (fun _ _ _ => False) ?own (fun _ _ _ _ _ hs _ _ => hs) ?start
    (fun x => { tmps := #[.string (bs N), undef, .slice none 0 0, .int .i64 0, .int .u64 (N : Int), .int .i64 0, .pointer (some ⟨BO, 0, none⟩), .int .u64 (x.1 : Int), .string (bs N), .bool false, .tuple #[.int .u64 (N : Int), .int .i64 0], .string (bs N), .tuple #[.int .u64 (N : Int), .int .i64 0], .int .u64 (N : Int), .int .i64 0, .int .i64 0, .bool false, undef, .int .u64 (N : Int), .bool false, .int .u64 (N : Int), .func (.func 62) #[] #[.pointer (some ⟨BX, 0, none⟩)], .int .u64 (x.1 : Int), undef, undef, undef, undef, undef, undef], defers := [] }) ?assign ?body ?done ?stop
  case own =>
    rintro pre W W' row ⟨v, i1, i2, i3, i4⟩ hg hr
    have hr' : ∀ r, row = some r → ∃ o : Obj, W.heap[r]? = some o ∧ o.isCells = false := fun r e => (hr r e).2
    exact ⟨v, bk_own i1 hg hr', owns_own i2 hg hr', i3.grown hg i3.size (fun k e => by have := (hr k e).1; have := HS2.out.2.2; omega), Nat.le_trans i4 hg.size⟩
  case start => exact ⟨_, kO, World.ownsRow_nil _ _ _ _, hB0, Nat.le_refl _⟩
  case assign =>
    intro l x W K hK
    gi_wp2
    exact hK
  case body =>
    rintro l pre x W ⟨v, i1, i2, i3, i4⟩ hlen
    have hlx := x.2
    have HO := Lib.hid (fun W => of_any x.1 hlx W)
    have HS2 := Lib.hid (And.intro (show w.heap.size ≤ BO by have := HS2.out; omega) (And.intro (show BO < W0.heap.size by have := HS2.out; omega) (And.intro hXl (show BX ≠ BO by have := HS2.out; omega))))
    have hk : KeepsOthers W W.drew ∧ KB BX W W.drew := ⟨KeepsOthers.drew W, rfl⟩
    have HI : Hid (Bk W.drew BO #[v] 47 ∧ W.drew.ownsRow W0.heap.size 22 1 v pre.length (cellsS (pre.map (·.1))) ∧ Below w.heap.size w W.drew ∧ W0.heap.size ≤ W.drew.heap.size) := Lib.hid ⟨i1.drew, World.ownsRow.drew i2, i3.drew, i4⟩
    have HF : Hid (∀ (v1 : Value) (w2 : World), (Bk w2 BO #[v] 47 ∧ KeepsOthers W.drew (w2.setCell ⟨BO, 0, none⟩ v1) ∧ KB BX W.drew (w2.setCell ⟨BO, 0, none⟩ v1) ∧ Bk (w2.setCell ⟨BO, 0, none⟩ v1) BO #[v1] 47 ∧ (w2.setCell ⟨BO, 0, none⟩ v1).ownsRow W0.heap.size 22 1 v1 (pre.length + 1) (cellsS (pre.map (·.1)) ++ [.string (bs x.1)]) ∧
        Below w.heap.size w (w2.setCell ⟨BO, 0, none⟩ v1) ∧ W0.heap.size ≤ (w2.setCell ⟨BO, 0, none⟩ v1).heap.size) →
      KeepsOthers W (w2.setCell ⟨BO, 0, none⟩ v1) ∧ KB BX W (w2.setCell ⟨BO, 0, none⟩ v1) ∧ ∃ v, Bk (w2.setCell ⟨BO, 0, none⟩ v1) BO #[v] 47 ∧ (w2.setCell ⟨BO, 0, none⟩ v1).ownsRow W0.heap.size 22 1 v (pre ++ [x]).length (cellsS ((pre ++ [x]).map (·.1))) ∧ Below w.heap.size w (w2.setCell ⟨BO, 0, none⟩ v1) ∧ W0.heap.size ≤ (w2.setCell ⟨BO, 0, none⟩ v1).heap.size) :=
      Lib.hid (fun v1 w2 ⟨_, e2, e3, e4, e5, e6, e7⟩ => ⟨hk.1.trans e2, Eq.trans e3 hk.2, v1, e4, by rw [List.length_append, List.map_append, List.map_singleton, cellsS_snoc]; exact e5, e6, e7⟩)
    clear i1 i2 i3 i4 hlx hk
    gi_wp2
    refine wpIn_region_any (by kernel_rfl) ?_
    change wpAnyIn _ _ _ _ _ _ _ _ _ (World.drew W)
    generalize W.drew = Wd at *
    refine wpAnyIn_ready (rs := [0, 1]) (by kernel_rfl) (by simp) ?_
    refine AllReadyIn.cons rfl (fun K hK => ?_) ?_
    · skip
      have c0 := HI.out.1.cell 0
      go_simp
      refine hK _ _ ?_
      clear hK K c0
      refine wpAnyIn_ready (rs := [1]) (by kernel_rfl) (by simp) ?_
      refine AllReadyIn.cons rfl (fun K hK => ?_) ?_
      · skip
        go_simp
        refine hK _ _ ?_
        clear hK K
        refine wpAnyIn_ready (rs := [2]) (by kernel_rfl) (by simp) ?_
        refine AllReadyIn.cons rfl (fun K hK => ?_) ?_
        · skip
          go_simp
          gi_wp2_with (refine ⟨trivial, ?_⟩; gi_at_call 31; refine (CallsIn.inRound l (callsIn_wide.2 (HO.out _))).mono ?_; rintro e Wq ⟨rfl, hb⟩)
          have HQ := Lib.hid (And.intro ((HI.out.1.below hb).cell 0) (((HI.out.1.below hb).alloc (.cells #[.string (bs x.1)] 22)).cell 0))
          first | (refine hK _ _ ?_; clear hK K) | skip
          refine wpAnyIn_ready (rs := [3]) (by kernel_rfl) (by simp) ?_
          refine AllReadyIn.cons rfl (fun K hK => ?_) ?_
          · skip
            go_simp
            refine hK _ _ ?_
            clear hK K
            refine wpAnyIn_ready (rs := [4]) (by kernel_rfl) (by simp) ?_
            refine AllReadyIn.cons rfl (fun K hK => ?_) ?_
            · skip
              have k2 := (owns_below HI.out.2.1 hb).alloc (.cells #[.string (bs x.1)] 22)
              refine stepIn_append rfl (.tmp 23) (.tmp 26) 47 22 rfl W0.heap.size i0 (.string ⟨#[]⟩) 1 16 Try.underlying47 HIN.out.1 HIN.out.2.1 HIN.out.2.2.1 HIN.out.2.2.2 rfl (by decide) v pre.length (cellsS (pre.map (·.1))) rfl k2 ⟨Wq.heap.size, 0, none⟩ 1 1 [.string (bs x.1)] rfl rfl (new_one Wq 22 (.string (bs x.1)) _ rfl) (by intro u hu; simp at hu; subst hu; rfl) (by unfold maxLen; omega) (by omega) (by have := HI.out.2.2.2; have := hb.size; simp; omega) ?_
              intro v1 w2 ho hg
              obtain ⟨A1, cap1, rfl⟩ := owns_form ho
              have HE := Lib.hid (push_end HS2.out.1 HS2.out.2.1 HS2.out.2.2.1 HS2.out.2.2.2 HI.out.1 HI.out.2.1 HI.out.2.2.1 HI.out.2.2.2 hb hg ho)
              refine hK _ _ ?_
              clear hK K k2
              refine wpAnyIn_ready (rs := [5]) (by kernel_rfl) (by simp) ?_
              refine AllReadyIn.cons rfl (fun K hK => ?_) ?_
              · skip
                have c0 := HE.out.1.cell 0
                have cf := HE.out.1.frozen 0
                go_simp
                refine hK _ _ ?_
                clear hK K
                refine wpAnyIn_done (by kernel_rfl) ?_ _
                gi_wp2
                exact HF.out _ _ HE.out
              exact AllReadyIn.nil
            exact AllReadyIn.nil
          exact AllReadyIn.nil
        exact AllReadyIn.nil
      exact AllReadyIn.nil
    refine AllReadyIn.cons rfl (fun K hK => ?_) ?_
    · skip
      go_simp
      refine hK _ _ ?_
      clear hK K
      refine wpAnyIn_ready (rs := [0, 2]) (by kernel_rfl) (by simp) ?_
      refine AllReadyIn.cons rfl (fun K hK => ?_) ?_
      · skip
        have c0 := HI.out.1.cell 0
        go_simp
        refine hK _ _ ?_
        clear hK K c0
        refine wpAnyIn_ready (rs := [2]) (by kernel_rfl) (by simp) ?_
        refine AllReadyIn.cons rfl (fun K hK => ?_) ?_
        · skip
          go_simp
          gi_wp2_with (refine ⟨trivial, ?_⟩; gi_at_call 31; refine (CallsIn.inRound l (callsIn_wide.2 (HO.out _))).mono ?_; rintro e Wq ⟨rfl, hb⟩)
          have HQ := Lib.hid (And.intro ((HI.out.1.below hb).cell 0) (((HI.out.1.below hb).alloc (.cells #[.string (bs x.1)] 22)).cell 0))
          first | (refine hK _ _ ?_; clear hK K) | skip
          refine wpAnyIn_ready (rs := [3]) (by kernel_rfl) (by simp) ?_
          refine AllReadyIn.cons rfl (fun K hK => ?_) ?_
          · skip
            go_simp
            refine hK _ _ ?_
            clear hK K
            refine wpAnyIn_ready (rs := [4]) (by kernel_rfl) (by simp) ?_
            refine AllReadyIn.cons rfl (fun K hK => ?_) ?_
            · skip
              have k2 := (owns_below HI.out.2.1 hb).alloc (.cells #[.string (bs x.1)] 22)
              refine stepIn_append rfl (.tmp 23) (.tmp 26) 47 22 rfl W0.heap.size i0 (.string ⟨#[]⟩) 1 16 Try.underlying47 HIN.out.1 HIN.out.2.1 HIN.out.2.2.1 HIN.out.2.2.2 rfl (by decide) v pre.length (cellsS (pre.map (·.1))) rfl k2 ⟨Wq.heap.size, 0, none⟩ 1 1 [.string (bs x.1)] rfl rfl (new_one Wq 22 (.string (bs x.1)) _ rfl) (by intro u hu; simp at hu; subst hu; rfl) (by unfold maxLen; omega) (by omega) (by have := HI.out.2.2.2; have := hb.size; simp; omega) ?_
              intro v1 w2 ho hg
              obtain ⟨A1, cap1, rfl⟩ := owns_form ho
              have HE := Lib.hid (push_end HS2.out.1 HS2.out.2.1 HS2.out.2.2.1 HS2.out.2.2.2 HI.out.1 HI.out.2.1 HI.out.2.2.1 HI.out.2.2.2 hb hg ho)
              refine hK _ _ ?_
              clear hK K k2
              refine wpAnyIn_ready (rs := [5]) (by kernel_rfl) (by simp) ?_
              refine AllReadyIn.cons rfl (fun K hK => ?_) ?_
              · skip
                have c0 := HE.out.1.cell 0
                have cf := HE.out.1.frozen 0
                go_simp
                refine hK _ _ ?_
                clear hK K
                refine wpAnyIn_done (by kernel_rfl) ?_ _
                gi_wp2
                exact HF.out _ _ HE.out
              exact AllReadyIn.nil
            exact AllReadyIn.nil
          exact AllReadyIn.nil
        exact AllReadyIn.nil
      refine AllReadyIn.cons rfl (fun K hK => ?_) ?_
      · skip
        go_simp
        gi_wp2_with (refine ⟨trivial, ?_⟩; gi_at_call 31; refine (CallsIn.inRound l (callsIn_wide.2 (HO.out _))).mono ?_; rintro e Wq ⟨rfl, hb⟩)
        have HQ := Lib.hid (And.intro ((HI.out.1.below hb).cell 0) (((HI.out.1.below hb).alloc (.cells #[.string (bs x.1)] 22)).cell 0))
        first | (refine hK _ _ ?_; clear hK K) | skip
        refine wpAnyIn_ready (rs := [0, 3]) (by kernel_rfl) (by simp) ?_
        refine AllReadyIn.cons rfl (fun K hK => ?_) ?_
        · skip
          have c0 := HQ.out.1
          go_simp
          refine hK _ _ ?_
          clear hK K c0
          refine wpAnyIn_ready (rs := [3]) (by kernel_rfl) (by simp) ?_
          refine AllReadyIn.cons rfl (fun K hK => ?_) ?_
          · skip
            go_simp
            refine hK _ _ ?_
            clear hK K
            refine wpAnyIn_ready (rs := [4]) (by kernel_rfl) (by simp) ?_
            refine AllReadyIn.cons rfl (fun K hK => ?_) ?_
            · skip
              have k2 := (owns_below HI.out.2.1 hb).alloc (.cells #[.string (bs x.1)] 22)
              refine stepIn_append rfl (.tmp 23) (.tmp 26) 47 22 rfl W0.heap.size i0 (.string ⟨#[]⟩) 1 16 Try.underlying47 HIN.out.1 HIN.out.2.1 HIN.out.2.2.1 HIN.out.2.2.2 rfl (by decide) v pre.length (cellsS (pre.map (·.1))) rfl k2 ⟨Wq.heap.size, 0, none⟩ 1 1 [.string (bs x.1)] rfl rfl (new_one Wq 22 (.string (bs x.1)) _ rfl) (by intro u hu; simp at hu; subst hu; rfl) (by unfold maxLen; omega) (by omega) (by have := HI.out.2.2.2; have := hb.size; simp; omega) ?_
              intro v1 w2 ho hg
              obtain ⟨A1, cap1, rfl⟩ := owns_form ho
              have HE := Lib.hid (push_end HS2.out.1 HS2.out.2.1 HS2.out.2.2.1 HS2.out.2.2.2 HI.out.1 HI.out.2.1 HI.out.2.2.1 HI.out.2.2.2 hb hg ho)
              refine hK _ _ ?_
              clear hK K k2
              refine wpAnyIn_ready (rs := [5]) (by kernel_rfl) (by simp) ?_
              refine AllReadyIn.cons rfl (fun K hK => ?_) ?_
              · skip
                have c0 := HE.out.1.cell 0
                have cf := HE.out.1.frozen 0
                go_simp
                refine hK _ _ ?_
                clear hK K
                refine wpAnyIn_done (by kernel_rfl) ?_ _
                gi_wp2
                exact HF.out _ _ HE.out
              exact AllReadyIn.nil
            exact AllReadyIn.nil
          exact AllReadyIn.nil
        refine AllReadyIn.cons rfl (fun K hK => ?_) ?_
        · skip
          go_simp
          refine hK _ _ ?_
          clear hK K
          refine wpAnyIn_ready (rs := [0]) (by kernel_rfl) (by simp) ?_
          refine AllReadyIn.cons rfl (fun K hK => ?_) ?_
          · skip
            have c0 := HQ.out.2
            go_simp
            refine hK _ _ ?_
            clear hK K c0
            refine wpAnyIn_ready (rs := [4]) (by kernel_rfl) (by simp) ?_
            refine AllReadyIn.cons rfl (fun K hK => ?_) ?_
            · skip
              have k2 := (owns_below HI.out.2.1 hb).alloc (.cells #[.string (bs x.1)] 22)
              refine stepIn_append rfl (.tmp 23) (.tmp 26) 47 22 rfl W0.heap.size i0 (.string ⟨#[]⟩) 1 16 Try.underlying47 HIN.out.1 HIN.out.2.1 HIN.out.2.2.1 HIN.out.2.2.2 rfl (by decide) v pre.length (cellsS (pre.map (·.1))) rfl k2 ⟨Wq.heap.size, 0, none⟩ 1 1 [.string (bs x.1)] rfl rfl (new_one Wq 22 (.string (bs x.1)) _ rfl) (by intro u hu; simp at hu; subst hu; rfl) (by unfold maxLen; omega) (by omega) (by have := HI.out.2.2.2; have := hb.size; simp; omega) ?_
              intro v1 w2 ho hg
              obtain ⟨A1, cap1, rfl⟩ := owns_form ho
              have HE := Lib.hid (push_end HS2.out.1 HS2.out.2.1 HS2.out.2.2.1 HS2.out.2.2.2 HI.out.1 HI.out.2.1 HI.out.2.2.1 HI.out.2.2.2 hb hg ho)
              refine hK _ _ ?_
              clear hK K k2
              refine wpAnyIn_ready (rs := [5]) (by kernel_rfl) (by simp) ?_
              refine AllReadyIn.cons rfl (fun K hK => ?_) ?_
              · skip
                have c0 := HE.out.1.cell 0
                have cf := HE.out.1.frozen 0
                go_simp
                refine hK _ _ ?_
                clear hK K
                refine wpAnyIn_done (by kernel_rfl) ?_ _
                gi_wp2
                exact HF.out _ _ HE.out
              exact AllReadyIn.nil
            exact AllReadyIn.nil
          exact AllReadyIn.nil
        exact AllReadyIn.nil
      exact AllReadyIn.nil
    exact AllReadyIn.nil
  case done =>
    rintro D ys W hD hF ⟨v, i1, i2, i3, i4⟩ hK
    have c0 := i1.cell 0
    have HI := Lib.hid (And.intro i1 (And.intro i2 (And.intro i3 i4)))
    clear i1 i2 i3 i4
    gi_wp2
    refine ⟨by simp, .inl ⟨_, _, rfl, run_takeDeferred hK, ?_⟩⟩
    obtain ⟨i1, i2, i3, i4⟩ := HI.out
    have hb2 := belowK_b (w := w) (Nat.le_refl _) W D _ (.deferred none) (by have := HS2.out.2.2; omega) hK rfl rfl
    refine ⟨_, results_tmp2 rfl _ _ _, v, ys.map (·.1), rfl, hF, ?_, ?_, i3.trans hb2⟩
    · exact isfac_len HN.out.1 HN.out.2 hF
    · rw [List.length_map]
      exact ownsRow_le' (owns_own i2 (grownBy_putObj' _ D (.deferred none)) (fun r e => by cases e; exact ⟨_, hK, rfl⟩)) (by have := HS2.out.2.2; omega)
  case stop =>
    rintro D c pre W _ _ h _
    exact h.elim
end Go.Proofs.Ytnnohjabneepiaa
