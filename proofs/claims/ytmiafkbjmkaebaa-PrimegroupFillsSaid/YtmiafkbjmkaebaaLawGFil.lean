/-
  The law of dominolaw09.PrimegroupFills.
-/
import Derived.Test.YtmiafkbjmkaebaaPg
namespace Go.Proofs.Ytmiafkbjmkaebaa
open Go.RowKit Num Go.Shelf
attribute [local go_sem] Oper.semAt_some

abbrev FewS (A B S : ByteArray) (b : Bool) : Prop := ∀ (W : World) (gb : Nat), W.cell? ⟨gb, 0, none⟩ = some (.string S) → gb < W.heap.size → Calls Try.prog 5 #[.agg #[.string A, .string B], .slice (some ⟨gb, 0, none⟩) 1 1] W (Made W (.bool b))
set_option maxHeartbeats 4000000 in
set_option maxRecDepth 100000 in
theorem gfil_few (A B S : ByteArray) (n : Int) (ok : Bool) (w : World) (hs : ∀ W, Calls Try.prog 13 #[.string B] W (Same W (.tuple #[.int .u64 n, .bool ok]))) (hf : FewS A B S false) : Calls Try.prog 4 #[.agg #[.string A, .string B], .string S] w (Made w (.bool true)) := by
  have HSm := Lib.hid hs
  have HFw := Lib.hid hf
  have HW := Lib.hid awake9
  clear hs hf
  refine (callsIn_wide (n := 6)).1 ?_
  refine callsIn_of_wp_marks Try.func4 rfl trivial ?_ rfl
  simp only [Try.ntmps4, List.size_toArray, List.length_cons, List.length_nil, Nat.reduceAdd, Nat.reduceSub, Array.replicate_succ, Array.replicate_zero, List.push_toArray, List.append_toArray, List.nil_append, List.cons_append]
  obtain ⟨B0, e0⟩ : ∃ x, x = w.heap.size := ⟨_, rfl⟩
  obtain ⟨B1, e1⟩ : ∃ x, x = w.heap.size + 1 := ⟨_, rfl⟩
  obtain ⟨B2, e2⟩ : ∃ x, x = w.heap.size + 1 + 1 := ⟨_, rfl⟩
  obtain ⟨W1, hW1⟩ : ∃ W1, W1 = (((w.alloc (.cells #[.string A, .string B] 24)).alloc (.cells #[.string S] 22)).alloc (.cells #[.bool false] 4)) := ⟨_, rfl⟩
  have k0 : Bk W1 B0 #[.string A, .string B] 24 := by rw [hW1, e0]; exact ((Bk.new _ _ _).alloc _).alloc _
  have k1 : Bk W1 B1 #[.string S] 22 := by rw [hW1, e1]; exact (Bk.new1 _ _ _ _).alloc _
  have k2 : Bk W1 B2 #[.bool false] 4 := by
    rw [hW1, e2]
    have h := Bk.new1 (w.alloc (.cells #[.string A, .string B] 24)) (.cells #[.string S] 22) #[.bool false] 4
    simp only [World.size_alloc] at h
    exact h
  have HV : Below w.heap.size w W1 := by
    rw [hW1]
    exact (((Below.refl _ w).alloc (Nat.le_refl _) _).alloc (by simp) _).alloc (by simp; omega) _
  have HS0 := Lib.hid (And.intro e0 (And.intro e1 e2))
  gi_wp2_with fail
  rw [← e2, ← e1, ← e0, ← hW1]
  clear e0 e1 e2 hW1
  refine ⟨trivial, ?_⟩
  refine (callsIn_wide.2 (HSm.out _)).mono ?_
  rintro e u1 ⟨rfl, rfl⟩
  have c00 := k0.cell 0
  have c01 := k0.cell 1
  have c10 := k1.cell 0
  have l0 := k0.lt
  have l1 := k1.lt
  gi_wp2_with fail
  have KS := Bk.new W1 #[.string S] 22
  have hbs : Below W1.heap.size W1 (W1.alloc (.cells #[.string S] 22)) := (Below.refl _ W1).alloc (Nat.le_refl _) _
  refine ⟨trivial, ?_⟩
  refine (callsIn_wide.2 (HFw.out _ _ (KS.cell 0) KS.lt)).mono ?_
  rintro e u2 ⟨rfl, hb0⟩
  have hb := hbs.trans (hb0.mono hbs.size)
  clear hb0 hbs KS
  replace HV := HV.trans (hb.mono HV.size)
  replace k0 := k0.below hb
  replace k1 := k1.below hb
  replace k2 := k2.below hb
  clear hb c00 c01 c10 l0 l1
  have c00 := k0.cell 0
  have c01 := k0.cell 1
  have c10 := k1.cell 0
  have l0 := k0.lt
  have l1 := k1.lt
  gi_wp2_with ((with_reducible refine And.intro ?_ ?_); exact trivial)
  refine (callsIn_wide.2 (HW.out _)).mono ?_
  rintro e u3 ⟨rfl, hb⟩
  replace HV := HV.trans (hb.mono HV.size)
  replace k0 := k0.below hb
  replace k1 := k1.below hb
  replace k2 := k2.below hb
  clear hb c00 c01 c10 l0 l1
  have c00 := k0.cell 0
  have c01 := k0.cell 1
  have c10 := k1.cell 0
  have l0 := k0.lt
  have l1 := k1.lt
  have f2 := k2.frozen 0
  have c2 := k2.cell 0
  have l2 := k2.lt
  have w2 : w.heap.size ≤ B2 := by have := HS0.out; omega
  gi_wp2
  have hc := Bk.cell (k2.set 0 (.bool true)) 0
  refine ⟨.bool true, by simp [results, Try.f4, go_sem, hc], rfl, HV.setCell (p := ⟨B2, 0, none⟩) w2 _⟩
set_option maxHeartbeats 4000000 in
set_option maxRecDepth 100000 in
theorem gfil_small (A B S : ByteArray) (n : Int) (w : World) (hs : ∀ W, Calls Try.prog 13 #[.string B] W (Same W (.tuple #[.int .u64 n, .bool false]))) (hf : FewS A B S true) : Calls Try.prog 4 #[.agg #[.string A, .string B], .string S] w (Made w (.bool true)) := by
  have HSm := Lib.hid hs
  have HFw := Lib.hid hf
  have HW := Lib.hid awake9
  clear hs hf
  refine (callsIn_wide (n := 6)).1 ?_
  refine callsIn_of_wp_marks Try.func4 rfl trivial ?_ rfl
  simp only [Try.ntmps4, List.size_toArray, List.length_cons, List.length_nil, Nat.reduceAdd, Nat.reduceSub, Array.replicate_succ, Array.replicate_zero, List.push_toArray, List.append_toArray, List.nil_append, List.cons_append]
  obtain ⟨B0, e0⟩ : ∃ x, x = w.heap.size := ⟨_, rfl⟩
  obtain ⟨B1, e1⟩ : ∃ x, x = w.heap.size + 1 := ⟨_, rfl⟩
  obtain ⟨B2, e2⟩ : ∃ x, x = w.heap.size + 1 + 1 := ⟨_, rfl⟩
  obtain ⟨W1, hW1⟩ : ∃ W1, W1 = (((w.alloc (.cells #[.string A, .string B] 24)).alloc (.cells #[.string S] 22)).alloc (.cells #[.bool false] 4)) := ⟨_, rfl⟩
  have k0 : Bk W1 B0 #[.string A, .string B] 24 := by rw [hW1, e0]; exact ((Bk.new _ _ _).alloc _).alloc _
  have k1 : Bk W1 B1 #[.string S] 22 := by rw [hW1, e1]; exact (Bk.new1 _ _ _ _).alloc _
  have k2 : Bk W1 B2 #[.bool false] 4 := by
    rw [hW1, e2]
    have h := Bk.new1 (w.alloc (.cells #[.string A, .string B] 24)) (.cells #[.string S] 22) #[.bool false] 4
    simp only [World.size_alloc] at h
    exact h
  have HV : Below w.heap.size w W1 := by
    rw [hW1]
    exact (((Below.refl _ w).alloc (Nat.le_refl _) _).alloc (by simp) _).alloc (by simp; omega) _
  have HS0 := Lib.hid (And.intro e0 (And.intro e1 e2))
  gi_wp2_with fail
  rw [← e2, ← e1, ← e0, ← hW1]
  clear e0 e1 e2 hW1
  refine ⟨trivial, ?_⟩
  refine (callsIn_wide.2 (HSm.out _)).mono ?_
  rintro e u1 ⟨rfl, rfl⟩
  have c00 := k0.cell 0
  have c01 := k0.cell 1
  have c10 := k1.cell 0
  have l0 := k0.lt
  have l1 := k1.lt
  gi_wp2_with fail
  have KS := Bk.new W1 #[.string S] 22
  have hbs : Below W1.heap.size W1 (W1.alloc (.cells #[.string S] 22)) := (Below.refl _ W1).alloc (Nat.le_refl _) _
  refine ⟨trivial, ?_⟩
  refine (callsIn_wide.2 (HFw.out _ _ (KS.cell 0) KS.lt)).mono ?_
  rintro e u2 ⟨rfl, hb0⟩
  have hb := hbs.trans (hb0.mono hbs.size)
  clear hb0 hbs KS
  replace HV := HV.trans (hb.mono HV.size)
  replace k0 := k0.below hb
  replace k1 := k1.below hb
  replace k2 := k2.below hb
  clear hb c00 c01 c10 l0 l1
  have c00 := k0.cell 0
  have c01 := k0.cell 1
  have c10 := k1.cell 0
  have l0 := k0.lt
  have l1 := k1.lt
  gi_wp2_with ((with_reducible refine And.intro ?_ ?_); exact trivial)
  refine (callsIn_wide.2 (HW.out _)).mono ?_
  rintro e u3 ⟨rfl, hb⟩
  replace HV := HV.trans (hb.mono HV.size)
  replace k0 := k0.below hb
  replace k1 := k1.below hb
  replace k2 := k2.below hb
  clear hb c00 c01 c10 l0 l1
  have c00 := k0.cell 0
  have c01 := k0.cell 1
  have c10 := k1.cell 0
  have l0 := k0.lt
  have l1 := k1.lt
  have f2 := k2.frozen 0
  have c2 := k2.cell 0
  have l2 := k2.lt
  have w2 : w.heap.size ≤ B2 := by have := HS0.out; omega
  gi_wp2
  have hc := Bk.cell (k2.set 0 (.bool true)) 0
  refine ⟨.bool true, by simp [results, Try.f4, go_sem, hc], rfl, HV.setCell (p := ⟨B2, 0, none⟩) w2 _⟩
set_option maxHeartbeats 4000000 in
set_option maxRecDepth 100000 in
theorem gfil_big (A B S : ByteArray) (n : Nat) (w : World) (hs : ∀ W, Calls Try.prog 13 #[.string B] W (Same W (.tuple #[.int .u64 (n : Int), .bool true]))) (hf : FewS A B S true) (h : 60 < n) : Calls Try.prog 4 #[.agg #[.string A, .string B], .string S] w (Made w (.bool true)) := by
  have HSm := Lib.hid hs
  have HFw := Lib.hid hf
  have HW := Lib.hid awake9
  have hd : decide ((60 : Int) < (n : Int)) = true := by simp; omega
  clear hs hf h
  refine (callsIn_wide (n := 6)).1 ?_
  refine callsIn_of_wp_marks Try.func4 rfl trivial ?_ rfl
  simp only [Try.ntmps4, List.size_toArray, List.length_cons, List.length_nil, Nat.reduceAdd, Nat.reduceSub, Array.replicate_succ, Array.replicate_zero, List.push_toArray, List.append_toArray, List.nil_append, List.cons_append]
  obtain ⟨B0, e0⟩ : ∃ x, x = w.heap.size := ⟨_, rfl⟩
  obtain ⟨B1, e1⟩ : ∃ x, x = w.heap.size + 1 := ⟨_, rfl⟩
  obtain ⟨B2, e2⟩ : ∃ x, x = w.heap.size + 1 + 1 := ⟨_, rfl⟩
  obtain ⟨W1, hW1⟩ : ∃ W1, W1 = (((w.alloc (.cells #[.string A, .string B] 24)).alloc (.cells #[.string S] 22)).alloc (.cells #[.bool false] 4)) := ⟨_, rfl⟩
  have k0 : Bk W1 B0 #[.string A, .string B] 24 := by rw [hW1, e0]; exact ((Bk.new _ _ _).alloc _).alloc _
  have k1 : Bk W1 B1 #[.string S] 22 := by rw [hW1, e1]; exact (Bk.new1 _ _ _ _).alloc _
  have k2 : Bk W1 B2 #[.bool false] 4 := by
    rw [hW1, e2]
    have h := Bk.new1 (w.alloc (.cells #[.string A, .string B] 24)) (.cells #[.string S] 22) #[.bool false] 4
    simp only [World.size_alloc] at h
    exact h
  have HV : Below w.heap.size w W1 := by
    rw [hW1]
    exact (((Below.refl _ w).alloc (Nat.le_refl _) _).alloc (by simp) _).alloc (by simp; omega) _
  have HS0 := Lib.hid (And.intro e0 (And.intro e1 e2))
  gi_wp2_with fail
  rw [← e2, ← e1, ← e0, ← hW1]
  clear e0 e1 e2 hW1
  refine ⟨trivial, ?_⟩
  refine (callsIn_wide.2 (HSm.out _)).mono ?_
  rintro e u1 ⟨rfl, rfl⟩
  have c00 := k0.cell 0
  have c01 := k0.cell 1
  have c10 := k1.cell 0
  have l0 := k0.lt
  have l1 := k1.lt
  gi_wp2_with fail
  have KS := Bk.new W1 #[.string S] 22
  have hbs : Below W1.heap.size W1 (W1.alloc (.cells #[.string S] 22)) := (Below.refl _ W1).alloc (Nat.le_refl _) _
  refine ⟨trivial, ?_⟩
  refine (callsIn_wide.2 (HFw.out _ _ (KS.cell 0) KS.lt)).mono ?_
  rintro e u2 ⟨rfl, hb0⟩
  have hb := hbs.trans (hb0.mono hbs.size)
  clear hb0 hbs KS
  replace HV := HV.trans (hb.mono HV.size)
  replace k0 := k0.below hb
  replace k1 := k1.below hb
  replace k2 := k2.below hb
  clear hb c00 c01 c10 l0 l1
  have c00 := k0.cell 0
  have c01 := k0.cell 1
  have c10 := k1.cell 0
  have l0 := k0.lt
  have l1 := k1.lt
  gi_wp2_with ((with_reducible refine And.intro ?_ ?_); exact trivial)
  refine (callsIn_wide.2 (HW.out _)).mono ?_
  rintro e u3 ⟨rfl, hb⟩
  replace HV := HV.trans (hb.mono HV.size)
  replace k0 := k0.below hb
  replace k1 := k1.below hb
  replace k2 := k2.below hb
  clear hb c00 c01 c10 l0 l1
  have c00 := k0.cell 0
  have c01 := k0.cell 1
  have c10 := k1.cell 0
  have l0 := k0.lt
  have l1 := k1.lt
  have f2 := k2.frozen 0
  have c2 := k2.cell 0
  have l2 := k2.lt
  have w2 : w.heap.size ≤ B2 := by have := HS0.out; omega
  gi_wp2
  have hc := Bk.cell (k2.set 0 (.bool true)) 0
  refine ⟨.bool true, by simp [results, Try.f4, go_sem, hc], rfl, HV.setCell (p := ⟨B2, 0, none⟩) w2 _⟩
set_option maxHeartbeats 4000000 in
set_option maxRecDepth 100000 in
theorem gfil_chk (A B S : ByteArray) (n : Nat) (c : Int) (w : World) (hs : ∀ W, Calls Try.prog 13 #[.string B] W (Same W (.tuple #[.int .u64 (n : Int), .bool true]))) (hf : FewS A B S true) (h : n ≤ 60) (hc : ∀ W, Calls Try.prog 14 #[.agg #[.string A, .string B]] W (Made W (.int .i64 c))) (hc0 : c ≠ 0) : Calls Try.prog 4 #[.agg #[.string A, .string B], .string S] w (Made w (.bool true)) := by
  have HSm := Lib.hid hs
  have HFw := Lib.hid hf
  have HW := Lib.hid awake9
  have hd : decide ((60 : Int) < (n : Int)) = false := by simp; omega
  have HC := Lib.hid hc
  clear hs hf h hc
  refine (callsIn_wide (n := 6)).1 ?_
  refine callsIn_of_wp_marks Try.func4 rfl trivial ?_ rfl
  simp only [Try.ntmps4, List.size_toArray, List.length_cons, List.length_nil, Nat.reduceAdd, Nat.reduceSub, Array.replicate_succ, Array.replicate_zero, List.push_toArray, List.append_toArray, List.nil_append, List.cons_append]
  obtain ⟨B0, e0⟩ : ∃ x, x = w.heap.size := ⟨_, rfl⟩
  obtain ⟨B1, e1⟩ : ∃ x, x = w.heap.size + 1 := ⟨_, rfl⟩
  obtain ⟨B2, e2⟩ : ∃ x, x = w.heap.size + 1 + 1 := ⟨_, rfl⟩
  obtain ⟨W1, hW1⟩ : ∃ W1, W1 = (((w.alloc (.cells #[.string A, .string B] 24)).alloc (.cells #[.string S] 22)).alloc (.cells #[.bool false] 4)) := ⟨_, rfl⟩
  have k0 : Bk W1 B0 #[.string A, .string B] 24 := by rw [hW1, e0]; exact ((Bk.new _ _ _).alloc _).alloc _
  have k1 : Bk W1 B1 #[.string S] 22 := by rw [hW1, e1]; exact (Bk.new1 _ _ _ _).alloc _
  have k2 : Bk W1 B2 #[.bool false] 4 := by
    rw [hW1, e2]
    have h := Bk.new1 (w.alloc (.cells #[.string A, .string B] 24)) (.cells #[.string S] 22) #[.bool false] 4
    simp only [World.size_alloc] at h
    exact h
  have HV : Below w.heap.size w W1 := by
    rw [hW1]
    exact (((Below.refl _ w).alloc (Nat.le_refl _) _).alloc (by simp) _).alloc (by simp; omega) _
  have HS0 := Lib.hid (And.intro e0 (And.intro e1 e2))
  gi_wp2_with fail
  rw [← e2, ← e1, ← e0, ← hW1]
  clear e0 e1 e2 hW1
  refine ⟨trivial, ?_⟩
  refine (callsIn_wide.2 (HSm.out _)).mono ?_
  rintro e u1 ⟨rfl, rfl⟩
  have c00 := k0.cell 0
  have c01 := k0.cell 1
  have c10 := k1.cell 0
  have l0 := k0.lt
  have l1 := k1.lt
  gi_wp2_with fail
  have KS := Bk.new W1 #[.string S] 22
  have hbs : Below W1.heap.size W1 (W1.alloc (.cells #[.string S] 22)) := (Below.refl _ W1).alloc (Nat.le_refl _) _
  refine ⟨trivial, ?_⟩
  refine (callsIn_wide.2 (HFw.out _ _ (KS.cell 0) KS.lt)).mono ?_
  rintro e u2 ⟨rfl, hb0⟩
  have hb := hbs.trans (hb0.mono hbs.size)
  clear hb0 hbs KS
  replace HV := HV.trans (hb.mono HV.size)
  replace k0 := k0.below hb
  replace k1 := k1.below hb
  replace k2 := k2.below hb
  clear hb c00 c01 c10 l0 l1
  have c00 := k0.cell 0
  have c01 := k0.cell 1
  have c10 := k1.cell 0
  have l0 := k0.lt
  have l1 := k1.lt
  gi_wp2_with ((with_reducible refine And.intro ?_ ?_); exact trivial)
  refine (callsIn_wide.2 (HC.out _)).mono ?_
  rintro e u3 ⟨rfl, hb⟩
  replace HV := HV.trans (hb.mono HV.size)
  replace k0 := k0.below hb
  replace k1 := k1.below hb
  replace k2 := k2.below hb
  clear hb c00 c01 c10 l0 l1
  have c00 := k0.cell 0
  have c01 := k0.cell 1
  have c10 := k1.cell 0
  have l0 := k0.lt
  have l1 := k1.lt
  gi_wp2_with ((with_reducible refine And.intro ?_ ?_); exact trivial)
  refine (callsIn_wide.2 (HW.out _)).mono ?_
  rintro e u4 ⟨rfl, hb⟩
  replace HV := HV.trans (hb.mono HV.size)
  replace k0 := k0.below hb
  replace k1 := k1.below hb
  replace k2 := k2.below hb
  clear hb c00 c01 c10 l0 l1
  have c00 := k0.cell 0
  have c01 := k0.cell 1
  have c10 := k1.cell 0
  have l0 := k0.lt
  have l1 := k1.lt
  have f2 := k2.frozen 0
  have c2 := k2.cell 0
  have l2 := k2.lt
  have w2 : w.heap.size ≤ B2 := by have := HS0.out; omega
  gi_wp2
  have hc := Bk.cell (k2.set 0 (.bool true)) 0
  refine ⟨.bool true, by simp [results, Try.f4, go_sem, hc], rfl, HV.setCell (p := ⟨B2, 0, none⟩) w2 _⟩
set_option maxHeartbeats 4000000 in
set_option maxRecDepth 100000 in
theorem gfil_gen (A B S : ByteArray) (n : Nat) (w : World) (hs : ∀ W, Calls Try.prog 13 #[.string B] W (Same W (.tuple #[.int .u64 (n : Int), .bool true]))) (hf : FewS A B S true) (h : n ≤ 60) (hc : ∀ W, Calls Try.prog 14 #[.agg #[.string A, .string B]] W (Made W (.int .i64 0))) (hg : ∀ W, Calls Try.prog 15 #[.agg #[.string A, .string B], .string S] W (Made W (.bool false))) : Calls Try.prog 4 #[.agg #[.string A, .string B], .string S] w (Made w (.bool true)) := by
  have HSm := Lib.hid hs
  have HFw := Lib.hid hf
  have HW := Lib.hid awake9
  have hd : decide ((60 : Int) < (n : Int)) = false := by simp; omega
  have HC := Lib.hid hc
  have HG := Lib.hid hg
  clear hs hf h hc hg
  refine (callsIn_wide (n := 6)).1 ?_
  refine callsIn_of_wp_marks Try.func4 rfl trivial ?_ rfl
  simp only [Try.ntmps4, List.size_toArray, List.length_cons, List.length_nil, Nat.reduceAdd, Nat.reduceSub, Array.replicate_succ, Array.replicate_zero, List.push_toArray, List.append_toArray, List.nil_append, List.cons_append]
  obtain ⟨B0, e0⟩ : ∃ x, x = w.heap.size := ⟨_, rfl⟩
  obtain ⟨B1, e1⟩ : ∃ x, x = w.heap.size + 1 := ⟨_, rfl⟩
  obtain ⟨B2, e2⟩ : ∃ x, x = w.heap.size + 1 + 1 := ⟨_, rfl⟩
  obtain ⟨W1, hW1⟩ : ∃ W1, W1 = (((w.alloc (.cells #[.string A, .string B] 24)).alloc (.cells #[.string S] 22)).alloc (.cells #[.bool false] 4)) := ⟨_, rfl⟩
  have k0 : Bk W1 B0 #[.string A, .string B] 24 := by rw [hW1, e0]; exact ((Bk.new _ _ _).alloc _).alloc _
  have k1 : Bk W1 B1 #[.string S] 22 := by rw [hW1, e1]; exact (Bk.new1 _ _ _ _).alloc _
  have k2 : Bk W1 B2 #[.bool false] 4 := by
    rw [hW1, e2]
    have h := Bk.new1 (w.alloc (.cells #[.string A, .string B] 24)) (.cells #[.string S] 22) #[.bool false] 4
    simp only [World.size_alloc] at h
    exact h
  have HV : Below w.heap.size w W1 := by
    rw [hW1]
    exact (((Below.refl _ w).alloc (Nat.le_refl _) _).alloc (by simp) _).alloc (by simp; omega) _
  have HS0 := Lib.hid (And.intro e0 (And.intro e1 e2))
  gi_wp2_with fail
  rw [← e2, ← e1, ← e0, ← hW1]
  clear e0 e1 e2 hW1
  refine ⟨trivial, ?_⟩
  refine (callsIn_wide.2 (HSm.out _)).mono ?_
  rintro e u1 ⟨rfl, rfl⟩
  have c00 := k0.cell 0
  have c01 := k0.cell 1
  have c10 := k1.cell 0
  have l0 := k0.lt
  have l1 := k1.lt
  gi_wp2_with fail
  have KS := Bk.new W1 #[.string S] 22
  have hbs : Below W1.heap.size W1 (W1.alloc (.cells #[.string S] 22)) := (Below.refl _ W1).alloc (Nat.le_refl _) _
  refine ⟨trivial, ?_⟩
  refine (callsIn_wide.2 (HFw.out _ _ (KS.cell 0) KS.lt)).mono ?_
  rintro e u2 ⟨rfl, hb0⟩
  have hb := hbs.trans (hb0.mono hbs.size)
  clear hb0 hbs KS
  replace HV := HV.trans (hb.mono HV.size)
  replace k0 := k0.below hb
  replace k1 := k1.below hb
  replace k2 := k2.below hb
  clear hb c00 c01 c10 l0 l1
  have c00 := k0.cell 0
  have c01 := k0.cell 1
  have c10 := k1.cell 0
  have l0 := k0.lt
  have l1 := k1.lt
  gi_wp2_with ((with_reducible refine And.intro ?_ ?_); exact trivial)
  refine (callsIn_wide.2 (HC.out _)).mono ?_
  rintro e u3 ⟨rfl, hb⟩
  replace HV := HV.trans (hb.mono HV.size)
  replace k0 := k0.below hb
  replace k1 := k1.below hb
  replace k2 := k2.below hb
  clear hb c00 c01 c10 l0 l1
  have c00 := k0.cell 0
  have c01 := k0.cell 1
  have c10 := k1.cell 0
  have l0 := k0.lt
  have l1 := k1.lt
  gi_wp2_with ((with_reducible refine And.intro ?_ ?_); exact trivial)
  refine (callsIn_wide.2 (HG.out _)).mono ?_
  rintro e u4 ⟨rfl, hb⟩
  replace HV := HV.trans (hb.mono HV.size)
  replace k0 := k0.below hb
  replace k1 := k1.below hb
  replace k2 := k2.below hb
  clear hb c00 c01 c10 l0 l1
  have c00 := k0.cell 0
  have c01 := k0.cell 1
  have c10 := k1.cell 0
  have l0 := k0.lt
  have l1 := k1.lt
  gi_wp2_with ((with_reducible refine And.intro ?_ ?_); exact trivial)
  refine (callsIn_wide.2 (HW.out _)).mono ?_
  rintro e u5 ⟨rfl, hb⟩
  replace HV := HV.trans (hb.mono HV.size)
  replace k0 := k0.below hb
  replace k1 := k1.below hb
  replace k2 := k2.below hb
  clear hb c00 c01 c10 l0 l1
  have c00 := k0.cell 0
  have c01 := k0.cell 1
  have c10 := k1.cell 0
  have l0 := k0.lt
  have l1 := k1.lt
  have f2 := k2.frozen 0
  have c2 := k2.cell 0
  have l2 := k2.lt
  have w2 : w.heap.size ≤ B2 := by have := HS0.out; omega
  gi_wp2
  have hc := Bk.cell (k2.set 0 (.bool true)) 0
  refine ⟨.bool true, by simp [results, Try.f4, go_sem, hc], rfl, HV.setCell (p := ⟨B2, 0, none⟩) w2 _⟩

def lastN (pre : List Nat) : Nat := pre.getLastD 0
theorem lastN_snoc (pre : List Nat) (x : Nat) : lastN (pre ++ [x]) = x := by simp [lastN]
set_option maxHeartbeats 4000000 in
set_option maxRecDepth 100000 in
theorem gfil_main (p q b : Nat) (w : World) (hp : p < Top) (hb : b < p) (hp2 : 2 ≤ p) (h60 : q ≤ 60) (hq2 : 2 ≤ q) (ho : IsOrd b p q) (hs : ∀ W, Calls Try.prog 13 #[.string (bs q)] W (Same W (.tuple #[.int .u64 (q : Int), .bool true]))) (hf : FewS (bs p) (bs q) (bs b) true)
    (hc : ∀ W, Calls Try.prog 14 #[.agg #[.string (bs p), .string (bs q)]] W (Made W (.int .i64 0))) (hg : ∀ W, Calls Try.prog 15 #[.agg #[.string (bs p), .string (bs q)], .string (bs b)] W (Made W (.bool true)))
    (hh : hasN p q b = true) :
    Calls Try.prog 4 #[.agg #[.string (bs p), .string (bs q)], .string (bs b)] w (Made w (.bool true)) := by
  have HSm := Lib.hid hs
  have HFw := Lib.hid hf
  have HW := Lib.hid awake9
  have hd : decide ((60 : Int) < (q : Int)) = false := by simp; omega
  have HC := Lib.hid hc
  have HG := Lib.hid hg
  have hqT : q < Top := Nat.lt_of_le_of_lt h60 (by unfold Top; decide)
  have hbT : b < Top := Nat.lt_trans hb hp
  have hHb : ∀ W, Calls Try.prog 7 #[.agg #[.string (bs p), .string (bs q)], .string (bs b)] W (Made W (.bool true)) := fun W => by have h := has_ok p q b W hp hqT hbT; rwa [hh] at h
  have HE := Lib.hid (fun W => elements_any (bs p) (bs q) (bs b) W)
  have hel : ∀ i, b ^ i % p < Top ∧ b ^ i % p ≠ 0 ∧ hasN p q (b ^ i % p) = true := fun i => by
    have h1 : b ^ i % p < p := Nat.mod_lt _ (by omega)
    have hpw : (b ^ i) ^ q % p = 1 := by
      rw [← Nat.pow_mul, Nat.mul_comm, Nat.pow_mul, Nat.pow_mod, ho.2.1, Nat.one_pow]
      exact Nat.mod_eq_of_lt (by omega)
    have h2 : b ^ i % p ≠ 0 := by
      intro h3
      rw [Nat.pow_mod, h3, Nat.zero_pow (by omega), Nat.zero_mod] at hpw
      cases hpw
    refine ⟨Nat.lt_trans h1 hp, h2, hasN_iff.2 ⟨by omega, h2, h1, ?_⟩⟩
    rw [← Nat.pow_mod, hpw]
  have HLa : Hid (∀ i, i < q → ∀ W, Calls Try.prog 17 #[.agg #[.string (bs p), .string (bs q)], .string (bs b), .string (bs (b ^ i % p)), .int .i64 60] W (Made W (.tuple #[.int .i64 (i : Int), .bool true]))) := Lib.hid (fun i hi W =>
    plog_ok p q b (b ^ i % p) q 60 (i : Int) true W hp hbT hp2 ho (.inl ⟨rfl, i, rfl, by omega, by omega, rfl, fun j hj e => by have := ho.inj (by omega) hi e; omega⟩) (by decide) (by decide) hHb (fun W => by
      have h := has_ok p q (b ^ i % p) W hp hqT (hel i).1
      rwa [(hel i).2.2] at h))
  have HHa : Hid (∀ i W, Calls Try.prog 7 #[.agg #[.string (bs p), .string (bs q)], .string (bs (b ^ i % p))] W (Made W (.bool true))) := Lib.hid (fun i W => by
    have h := has_ok p q (b ^ i % p) W hp hqT (hel i).1
    rwa [(hel i).2.2] at h)
  have HN : Hid (∀ i, i < q → ((bs (b ^ i % p)).toList == (bs (lastN (pwL b p i))).toList) = false) := Lib.hid (fun i hi => by
    rw [bs_beq]
    apply beq_false_of_ne
    cases i with
    | zero => exact (hel 0).2.1
    | succ j =>
      rw [pwL_succ, lastN_snoc]
      intro e
      have := ho.inj hi (by omega) e
      omega)
  have HP := Lib.hid (And.intro hp (And.intro hbT (And.intro hp2 (And.intro ho (And.intro h60 (And.intro hq2 hHb))))))
  clear hs hf hc hg hp hb hp2 h60 hq2 ho hh hqT hbT hHb hel
  refine (callsIn_wide (n := 6)).1 ?_
  refine callsIn_of_wp_marks Try.func4 rfl trivial ?_ rfl
  simp only [Try.ntmps4, List.size_toArray, List.length_cons, List.length_nil, Nat.reduceAdd, Nat.reduceSub, Array.replicate_succ, Array.replicate_zero, List.push_toArray, List.append_toArray, List.nil_append, List.cons_append]
  obtain ⟨B0, e0⟩ : ∃ x, x = w.heap.size := ⟨_, rfl⟩
  obtain ⟨B1, e1⟩ : ∃ x, x = w.heap.size + 1 := ⟨_, rfl⟩
  obtain ⟨B2, e2⟩ : ∃ x, x = w.heap.size + 1 + 1 := ⟨_, rfl⟩
  obtain ⟨W1, hW1⟩ : ∃ W1, W1 = (((w.alloc (.cells #[.string (bs p), .string (bs q)] 24)).alloc (.cells #[.string (bs b)] 22)).alloc (.cells #[.bool false] 4)) := ⟨_, rfl⟩
  have k0 : Bk W1 B0 #[.string (bs p), .string (bs q)] 24 := by rw [hW1, e0]; exact ((Bk.new _ _ _).alloc _).alloc _
  have k1 : Bk W1 B1 #[.string (bs b)] 22 := by rw [hW1, e1]; exact (Bk.new1 _ _ _ _).alloc _
  have k2 : Bk W1 B2 #[.bool false] 4 := by
    rw [hW1, e2]
    have h := Bk.new1 (w.alloc (.cells #[.string (bs p), .string (bs q)] 24)) (.cells #[.string (bs b)] 22) #[.bool false] 4
    simp only [World.size_alloc] at h
    exact h
  have HV : Below w.heap.size w W1 := by
    rw [hW1]
    exact (((Below.refl _ w).alloc (Nat.le_refl _) _).alloc (by simp) _).alloc (by simp; omega) _
  have HS0 := Lib.hid (And.intro e0 (And.intro e1 e2))
  gi_wp2_with fail
  rw [← e2, ← e1, ← e0, ← hW1]
  clear e0 e1 e2 hW1
  refine ⟨trivial, ?_⟩
  refine (callsIn_wide.2 (HSm.out _)).mono ?_
  rintro e u1 ⟨rfl, rfl⟩
  have c00 := k0.cell 0
  have c01 := k0.cell 1
  have c10 := k1.cell 0
  have l0 := k0.lt
  have l1 := k1.lt
  gi_wp2_with fail
  have KS := Bk.new W1 #[.string (bs b)] 22
  have hbs : Below W1.heap.size W1 (W1.alloc (.cells #[.string (bs b)] 22)) := (Below.refl _ W1).alloc (Nat.le_refl _) _
  refine ⟨trivial, ?_⟩
  refine (callsIn_wide.2 (HFw.out _ _ (KS.cell 0) KS.lt)).mono ?_
  rintro e u2 ⟨rfl, hb0⟩
  have hb := hbs.trans (hb0.mono hbs.size)
  clear hb0 hbs KS
  replace HV := HV.trans (hb.mono HV.size)
  replace k0 := k0.below hb
  replace k1 := k1.below hb
  replace k2 := k2.below hb
  clear hb c00 c01 c10 l0 l1
  have c00 := k0.cell 0
  have c01 := k0.cell 1
  have c10 := k1.cell 0
  have l0 := k0.lt
  have l1 := k1.lt
  gi_wp2_with ((with_reducible refine And.intro ?_ ?_); exact trivial)
  refine (callsIn_wide.2 (HC.out _)).mono ?_
  rintro e u3 ⟨rfl, hb⟩
  replace HV := HV.trans (hb.mono HV.size)
  replace k0 := k0.below hb
  replace k1 := k1.below hb
  replace k2 := k2.below hb
  clear hb c00 c01 c10 l0 l1
  have c00 := k0.cell 0
  have c01 := k0.cell 1
  have c10 := k1.cell 0
  have l0 := k0.lt
  have l1 := k1.lt
  gi_wp2_with ((with_reducible refine And.intro ?_ ?_); exact trivial)
  refine (callsIn_wide.2 (HG.out _)).mono ?_
  rintro e u4 ⟨rfl, hb⟩
  replace HV := HV.trans (hb.mono HV.size)
  replace k0 := k0.below hb
  replace k1 := k1.below hb
  replace k2 := k2.below hb
  clear hb c00 c01 c10 l0 l1
  have c00 := k0.cell 0
  have c01 := k0.cell 1
  have c10 := k1.cell 0
  have l0 := k0.lt
  have l1 := k1.lt
  gi_wp2_with fail
  obtain ⟨BN, eN⟩ : ∃ x, x = u4.heap.size := ⟨_, rfl⟩
  obtain ⟨BL, eL⟩ : ∃ x, x = u4.heap.size + 1 := ⟨_, rfl⟩
  obtain ⟨WA, hWA⟩ : ∃ WA, WA = (u4.alloc (.cells #[.int .i64 0] 3)).alloc (.cells #[.string ⟨#[]⟩] 22) := ⟨_, rfl⟩
  have kN : Bk WA BN #[.int .i64 0] 3 := by rw [hWA, eN]; exact (Bk.new _ _ _).alloc _
  have kL : Bk WA BL #[.string (bs 0)] 22 := by rw [hWA, eL, bs_zero]; exact Bk.new1 _ _ _ _
  have n0N : B0 < BN := by rw [eN]; exact k0.lt
  have n1N : B1 < BN := by rw [eN]; exact k1.lt
  have n2N : B2 < BN := by rw [eN]; exact k2.lt
  have nNL : BL = BN + 1 := by rw [eN, eL]
  replace k0 : Bk WA B0 #[.string (bs p), .string (bs q)] 24 := by rw [hWA]; exact (k0.alloc _).alloc _
  replace k1 : Bk WA B1 #[.string (bs b)] 22 := by rw [hWA]; exact (k1.alloc _).alloc _
  replace k2 : Bk WA B2 #[.bool false] 4 := by rw [hWA]; exact (k2.alloc _).alloc _
  replace HV : Below w.heap.size w WA := by rw [hWA]; exact (HV.alloc HV.size _).alloc (by have := HV.size; simp; omega) _
  have hsA : WA.heap.size = BN + 2 := by rw [hWA, eN]; simp
  rw [← hWA, ← eL, ← eN]
  clear hWA eN eL c00 c01 c10 l0 l1
  refine ⟨trivial, ?_⟩
  refine (callsIn_wide.2 (HE.out _)).mono ?_
  rintro e W0 ⟨rfl, hW0⟩
  have hbA : Below WA.heap.size WA W0 := by rw [hW0]; exact ((Below.refl _ WA).alloc (Nat.le_refl _) _).alloc (by simp) _
  have kG : Bk W0 WA.heap.size #[.string (bs p), .string (bs q)] 24 := by rw [hW0]; exact (Bk.new _ _ _).alloc _
  have kB : Bk W0 (WA.heap.size + 1) #[.string (bs b)] 22 := by rw [hW0]; exact Bk.new1 _ _ _ _
  have hs0 : W0.heap.size = BN + 4 := by rw [hW0]; simp [hsA]
  clear hW0
  obtain ⟨BG, eG⟩ : ∃ x, x = WA.heap.size := ⟨_, rfl⟩
  rw [← eG] at kG kB hsA ⊢
  replace k0 := k0.below hbA
  replace k1 := k1.below hbA
  replace k2 := k2.below hbA
  replace kN := kN.below hbA
  replace kL := kL.below hbA
  replace HV := HV.trans (hbA.mono HV.size)
  have HZ := Lib.hid (And.intro hs0 (And.intro hsA (And.intro n0N (And.intro n1N (And.intro n2N nNL)))))
  clear hbA hs0 hsA eG n0N n1N n2N nNL
  have hfn := fn_nil 32 #[.pointer (some ⟨BG, 0, none⟩), .pointer (some ⟨BG + 1, 0, none⟩)] W0
  gi_wp2
  clear hfn
  refine range_B rfl (by omega) (gf := 32) (lb := #[.pointer (some ⟨BG, 0, none⟩), .pointer (some ⟨BG + 1, 0, none⟩)]) rfl trivial (enters_of Try.func32 (by kernel_rfl) rfl)
    (elements_seq 5 BG (BG + 1) p q b q W0 (by omega) HP.out.1 HP.out.2.1 HP.out.2.2.1 HP.out.2.2.2.1 kG kB HP.out.2.2.2.2.2.2) (fun k hk => by have := HZ.out; simp at hk; omega) (Below.refl _ _) (fun _ => rfl)
    (fun pre W3 => Bk W3 B0 #[.string (bs p), .string (bs q)] 24 ∧ Bk W3 B1 #[.string (bs b)] 22 ∧ Bk W3 B2 #[.bool false] 4 ∧ Bk W3 BN #[.int .i64 (pre.length : Int)] 3 ∧ Bk W3 BL #[.string (bs (lastN pre))] 22 ∧ Below w.heap.size w W3)
    (fun _ _ _ => False) ?si (fun _ _ _ _ h _ => h) ⟨k0, k1, k2, kN, kL, HV⟩
    (fun y => { tmps := #[.agg #[.string (bs p), .string (bs q)], .string (bs b), .pointer (some ⟨B0, 0, none⟩), .pointer (some ⟨B1, 0, none⟩), .pointer (some ⟨B2, 0, none⟩), .int .u64 (q : Int), .bool true, .pointer (some ⟨BN, 0, none⟩), .pointer (some ⟨BL, 0, none⟩),
      .func (.func 32) #[] #[.pointer (some ⟨BG, 0, none⟩), .pointer (some ⟨BG + 1, 0, none⟩)], .string (bs y), undef, undef, .tuple #[.int .u64 (q : Int), .bool true], .pointer (some ⟨B0, 1, none⟩), .string (bs q), .tuple #[.int .u64 (q : Int), .bool true], .int .u64 (q : Int), .bool true,
      .agg #[.string (bs p), .string (bs q)], .string (bs b), .slice (some ⟨W1.heap.size, 0, none⟩) 1 1, .bool true, .bool false, .bool false, .bool true, .bool false, .bool false, .bool false, .int .u64 (q : Int), .bool false, .bool false, .bool false,
      .agg #[.string (bs p), .string (bs q)], .int .i64 0, .bool false, .bool false, .bool false, .agg #[.string (bs p), .string (bs q)], .string (bs b), .bool true, .bool false, .bool false, undef, .agg #[.string (bs p), .string (bs q)], .string (bs b),
      .func (.func 32) #[] #[.pointer (some ⟨BG, 0, none⟩), .pointer (some ⟨BG + 1, 0, none⟩)], .func (.func 32) #[] #[.pointer (some ⟨BG, 0, none⟩), .pointer (some ⟨BG + 1, 0, none⟩)], .bool false, .func (.func 32) #[] #[.pointer (some ⟨BG, 0, none⟩), .pointer (some ⟨BG + 1, 0, none⟩)], .string (bs y), undef, undef, undef, undef, undef, undef, undef, undef, undef, undef, undef, undef, undef, undef, undef, undef, undef, undef, undef, undef, undef, undef, undef, undef, undef, undef, undef, undef, undef, undef, undef, undef, undef, undef, undef, undef, undef, undef, undef], defers := [] }) ?assign ?body ?done ?stop
  case si =>
    rintro s X Y ⟨i0, i1, i2, iN, iL, iV⟩ hXY
    have hZ := HZ.out
    exact ⟨(hXY.block B0 (by omega)).trans i0, (hXY.block B1 (by omega)).trans i1, (hXY.block B2 (by omega)).trans i2, (hXY.block BN (by omega)).trans iN, (hXY.block BL (by omega)).trans iL, iV.trans (hXY.mono (by have := HV.size; omega))⟩
  case assign =>
    intro l y W3 K hK
    gi_wp2
    exact hK
  case body =>
    rintro l pre y W3 ⟨k0, k1, k2, kN, kL, HV⟩ hlen ⟨hpre, hy⟩ hsz
    obtain ⟨i, hi⟩ : ∃ i, i = pre.length := ⟨_, rfl⟩
    rw [← hi] at hpre hy hlen kN
    subst hy hpre
    have hiq : i < q := by omega
    have HLi := Lib.hid (HLa.out i hiq)
    have HHi := Lib.hid (HHa.out i)
    have hNi := HN.out i hiq
    have h6i : decide ((60 : Int) < (i : Int)) = false := by have := HP.out.2.2.2.2.1; simp; omega
    have wk : IntKind.i64.wrap ((i : Int) + 1) = (i : Int) + 1 := by have := HP.out.2.2.2.2.1; rw [IntKind.wrap_i64] <;> omega
    have HK0 : Kept [BG, BG + 1] W0.heap.size W3 W3 := Kept.refl _ _ _
    have hS := Lib.hid (And.intro hi (And.intro hiq hsz))
    clear hlen hiq hsz hi
    have c00 := k0.cell 0
    have c01 := k0.cell 1
    have c10 := k1.cell 0
    have l0 := k0.lt
    have l1 := k1.lt
    have cN := kN.cell 0
    have cL := kL.cell 0
    have lN := kN.lt
    have lL := kL.lt
    gi_wp2_with fail
    refine ⟨trivial, ?_⟩
    refine (CallsIn.inRound l (callsIn_wide.2 (HLi.out _))).mono ?_
    rintro e v1 ⟨rfl, hb⟩
    replace HV := HV.trans (hb.mono HV.size)
    replace k0 := k0.below hb
    replace k1 := k1.below hb
    replace k2 := k2.below hb
    replace kN := kN.below hb
    replace kL := kL.below hb
    replace HK0 := HK0.trans (Kept.below hb)
    clear hb c00 c01 c10 cN cL l0 l1 lN lL
    have c00 := k0.cell 0
    have c01 := k0.cell 1
    have c10 := k1.cell 0
    have cN := kN.cell 0
    have cL := kL.cell 0
    have l0 := k0.lt
    have l1 := k1.lt
    have lN := kN.lt
    have lL := kL.lt
    gi_wp2_with fail
    refine ⟨trivial, ?_⟩
    refine (CallsIn.inRound l (callsIn_wide.2 (HHi.out _))).mono ?_
    rintro e v2 ⟨rfl, hb⟩
    replace HV := HV.trans (hb.mono HV.size)
    replace k0 := k0.below hb
    replace k1 := k1.below hb
    replace k2 := k2.below hb
    replace kN := kN.below hb
    replace kL := kL.below hb
    replace HK0 := HK0.trans (Kept.below hb)
    clear hb c00 c01 c10 cN cL l0 l1 lN lL
    have c00 := k0.cell 0
    have c01 := k0.cell 1
    have c10 := k1.cell 0
    have cN := kN.cell 0
    have cL := kL.cell 0
    have l0 := k0.lt
    have l1 := k1.lt
    have lN := kN.lt
    have lL := kL.lt
    have hZ := HZ.out
    have fN := kN.frozen 0
    have fL := kL.frozen 0
    have nNL : BN ≠ BL := by omega
    have nLN : ¬ BL = BN := by omega
    have mN : BN < W0.heap.size := by omega
    have mL : BL < W0.heap.size := by omega
    have nbN : BN ∉ [BG, BG + 1] := by simp; omega
    have nbL : BL ∉ [BG, BG + 1] := by simp; omega
    have n0L : B0 ≠ BL := by omega
    have n0N : B0 ≠ BN := by omega
    have n1L : B1 ≠ BL := by omega
    have n1N : B1 ≠ BN := by omega
    have n2L : B2 ≠ BL := by omega
    have n2N : B2 ≠ BN := by omega
    have w2 : w.heap.size ≤ B2 := by have := HS0.out; omega
    have wN : w.heap.size ≤ BN := by omega
    have wL : w.heap.size ≤ BL := by omega
    have HI := Lib.hid (And.intro k0 (And.intro k1 (And.intro k2 (And.intro kN (And.intro kL (And.intro HV HK0))))))
    have HM := Lib.hid (And.intro mN (And.intro mL (And.intro nbN (And.intro nbL (And.intro wN wL)))))
    have HO := Lib.hid (And.intro n0L (And.intro n0N (And.intro n1L (And.intro n1N (And.intro n2L n2N)))))
    clear hZ mN mL nbN nbL n0L n0N n1L n1N n2L n2N w2 wN wL k0 k1 k2 kN kL HV HK0
    gi_wp2
    obtain ⟨k0, k1, k2, kN, kL, HV, HK0⟩ := HI.out
    obtain ⟨mN, mL, nbN, nbL, wN, wL⟩ := HM.out
    obtain ⟨n0L, n0N, n1L, n1N, n2L, n2N⟩ := HO.out
    refine ⟨(HK0.trans (Kept.set _ _ mL nbL)).trans (Kept.set _ _ mN nbN), (k0.far n0L _).far n0N _, (k1.far n1L _).far n1N _, (k2.far n2L _).far n2N _, ?_, ?_, (HV.setCell (p := ⟨BL, 0, none⟩) wL _).setCell (p := ⟨BN, 0, none⟩) wN _⟩
    · rw [List.length_append, List.length_singleton, ← hS.out.1, Int.natCast_add]
      exact (kN.far nNL _).set 0 _
    · rw [lastN_snoc]
      exact (kL.set 0 _).far nLN _
  case done =>
    rintro D ys W3 hD rfl ⟨k0, k1, k2, kN, kL, HV⟩ hK
    have hq : min q 65536 = q := by have := HP.out.2.2.2.2.1; omega
    rw [pwL_length, hq] at kN
    have wq : IntKind.u64.wrap (q : Int) = (q : Int) := by have := HP.out.2.2.2.2.1; rw [IntKind.wrap_u64] <;> omega
    have cN := kN.cell 0
    have lN := kN.lt
    gi_wp2_with ((with_reducible refine And.intro ?_ ?_); exact trivial)
    refine (callsIn_wide.2 (HW.out _)).mono ?_
    rintro e u5 ⟨rfl, hb⟩
    replace HV := HV.trans (hb.mono HV.size)
    replace k2 := k2.below hb
    replace hK : u5.heap[D]? = some (.deferred (some [])) := (hb.block D (by have := (Array.getElem?_eq_some_iff.1 hK).1; exact this)).trans hK
    clear hb cN lN kN kL k0 k1
    have f2 := k2.frozen 0
    have c2 := k2.cell 0
    have l2 := k2.lt
    have w2 : w.heap.size ≤ B2 := by have := HS0.out; omega
    have wD : w.heap.size ≤ D := by have := HZ.out; omega
    have n2D : B2 ≠ D := by have := HZ.out; omega
    have HI := Lib.hid (And.intro k2 (And.intro w2 (And.intro wD (And.intro n2D HV))))
    clear k2 w2 wD n2D HV
    gi_wp2
    obtain ⟨k2, w2, wD, n2D, HV⟩ := HI.out
    have hK2 : (u5.setCell ⟨B2, 0, none⟩ (.bool true)).heap[D]? = some (.deferred (some [])) := (Below.heap_setCell _ _ _ D (fun h => n2D h.symm)).trans hK
    refine ⟨by simp, .inl ⟨_, _, rfl, run_takeDeferred hK2, ?_⟩⟩
    have b2 := (World.putObj_heap_other (o := .deferred none) n2D).trans (k2.set 0 (.bool true))
    have hc := Bk.cell b2 0
    exact ⟨.bool true, by simp [results, Try.f4, go_sem, hc], rfl, (HV.setCell (p := ⟨B2, 0, none⟩) w2 _).trans (below_put _ wD)⟩
  case stop =>
    rintro D c pre W3 _ _ h _
    exact h.elim
def IsP9 (p : Nat) : Prop := 2 ≤ p ∧ ∀ d, d ∣ p → d = 1 ∨ d = p
theorem isPN_isP {q : Nat} (h60 : q ≤ 60) (h : isPN q = true) : IsP9 q := by
  have h1 : ∀ q, q < 61 → isPN q = true → ∀ d, d < q + 1 → q % d = 0 → d = 1 ∨ d = q := by decide +kernel
  exact ⟨isPN_two h, fun d hdv => h1 q (by omega) h d (by have := Nat.le_of_dvd (by have := isPN_two h; omega) hdv; omega) (Nat.mod_eq_zero_of_dvd hdv)⟩
theorem ord_prime {p q b : Nat} (hq : IsP9 q) (hh : hasN p q b = true) (h1 : b ≠ 1) : IsOrd b p q := by
  obtain ⟨h2, h3, h4, h5⟩ := hasN_iff.1 hh
  obtain ⟨d, hd, hdq⟩ := ord_ex h2 h5
  have hz : q % d = 0 := by
    rcases Nat.eq_zero_or_pos (q % d) with h | h
    · exact h
    · exact absurd (by rw [← hd.mod]; exact h5) (hd.2.2 _ h (Nat.mod_lt _ hd.1))
  rcases hq.2 d (Nat.dvd_of_mod_eq_zero hz) with h | h
  · subst h
    have h6 := hd.2.1
    rw [Nat.pow_one, Nat.mod_eq_of_lt h4] at h6
    exact absurd h6 h1
  · subst h; exact hd
theorem law_gfil (A B S : ByteArray) (w : World) (hA : A.size ≤ 9223372036854775807) (hB : B.size ≤ 9223372036854775807) (hS : S.size ≤ 9223372036854775807) :
    Calls Try.prog 4 #[.agg #[.string A, .string B], .string S] w (Made w (.bool true)) := by
  obtain ⟨f, HF, hf⟩ := few9_one A B S hA hB hS
  by_cases hb : validB B = true ∧ B.size ≤ 8
  · obtain ⟨q, hq, rfl⟩ := bs_of_valid hb.1
    have hq8 := small8.1 hb.2
    have hsm := fun W => small_yes q W hq8
    cases f with
    | false => exact gfil_few A _ S _ _ w hsm HF
    | true =>
      by_cases h60 : 60 < q
      · exact gfil_big A _ S q w hsm HF h60
      · rcases hv : validB A with _ | _
        · exact gfil_chk A _ S q 3 w hsm HF (by omega) (fun W => pchk_form A _ W hA hB (by simp [hv])) (by decide)
        · obtain ⟨p, hp, rfl⟩ := bs_of_valid hv
          by_cases hc : chkN p q = 0
          · have hck : ∀ W, Calls Try.prog 14 #[.agg #[.string (bs p), .string (bs q)]] W (Made W (.int .i64 0)) := fun W => by have h := pchk_ok p q W hp hq; rwa [hc] at h
            rcases hvs : validB S with _ | _
            · exact gfil_gen _ _ S q w hsm HF (by omega) hck (fun W => isgen_false _ _ _ W (fun W => has_no _ _ _ W hA hB hS (by simp [hvs])))
            · obtain ⟨b, hbT, rfl⟩ := bs_of_valid hvs
              have hgen := fun W => isgen_ok p q b W hp hq hbT
              rcases hg : (hasN p q b && (b != 1)) with _ | _
              · rw [hg] at hgen
                exact gfil_gen _ _ _ q w hsm HF (by omega) hck hgen
              · rw [hg] at hgen
                simp only [Bool.and_eq_true, bne_iff_ne, ne_eq] at hg
                have hPp : isPN p = true ∧ isPN q = true := by
                  unfold chkN at hc
                  rcases h1 : isPN p with _ | _
                  · rw [h1] at hc
                    split at hc
                    · cases hc
                    · rw [if_pos rfl] at hc; cases hc
                  · rcases h2 : isPN q with _ | _
                    · rw [h1, h2] at hc
                      split at hc
                      · cases hc
                      · rw [if_neg (by decide), if_pos ⟨hq8, rfl⟩] at hc; cases hc
                    · exact ⟨rfl, rfl⟩
                have hp2 := isPN_two hPp.1
                have hP := isPN_isP (by omega) hPp.2
                exact gfil_main p q b w hp (hasN_iff.1 hg.1).2.2.1 hp2 (by omega) (isPN_two hPp.2) (ord_prime hP hg.1 hg.2) hsm HF hck hgen hg.1
          · exact gfil_chk _ _ S q _ w hsm HF (by omega) (fun W => pchk_ok p q W hp hq) hc
  · have hsm := fun W => small_no B W hB (by
      rcases h : validB B with _ | _
      · exact .inl rfl
      · exact .inr (Nat.lt_of_not_le fun h2 => hb ⟨h, h2⟩))
    cases f with
    | false => exact gfil_few A B S _ _ w hsm HF
    | true => exact gfil_small A B S _ w hsm HF
end Go.Proofs.Ytmiafkbjmkaebaa
