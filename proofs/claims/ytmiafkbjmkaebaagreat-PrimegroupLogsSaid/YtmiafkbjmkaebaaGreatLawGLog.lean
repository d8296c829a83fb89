/-
  The law of dominolaw09.PrimegroupLogs.
-/
import Derived.Test.YtmiafkbjmkaebaaGreatPg
import Derived.Test.YtmiafkbjmkaebaaGreatPriS
import Derived.Test.YtmiafkbjmkaebaaGreatMR
import Derived.RegionIn
import Derived.BigQuiet
namespace Go.Proofs.YtmiafkbjmkaebaaGreat
open Go.RowKit Num Go.Shelf
attribute [local go_sem] Oper.semAt_some

set_option maxHeartbeats 4000000 in
set_option maxRecDepth 100000 in
theorem plog_no (A B S X : ByteArray) (most : Int) (w : World)
    (h1 : ∀ W, Calls Tryz.prog 12 #[.agg #[.string A, .string B], .string S] W (Made W (.bool true)))
    (h2 : ∀ W, Calls Tryz.prog 12 #[.agg #[.string A, .string B], .string X] W (Made W (.bool false))) :
    Calls Tryz.prog 20 #[.agg #[.string A, .string B], .string S, .string X, .int .i64 most] w (Made w (.tuple #[.int .i64 0, .bool false])) := by
  have H1 := Lib.hid h1
  have H2 := Lib.hid h2
  clear h1 h2
  refine (callsIn_wide (n := 5)).1 ?_
  refine callsIn_of_wp_marks Tryz.func20 rfl trivial ?_ rfl
  simp only [Tryz.ntmps20, List.size_toArray, List.length_cons, List.length_nil, Nat.reduceAdd, Nat.reduceSub, Array.replicate_succ, Array.replicate_zero, List.push_toArray, List.append_toArray, List.nil_append, List.cons_append]
  gi_wp2_with fail
  obtain ⟨B0, e0⟩ : ∃ x, x = w.heap.size := ⟨_, rfl⟩
  obtain ⟨B1, e1⟩ : ∃ x, x = w.heap.size + 1 := ⟨_, rfl⟩
  obtain ⟨B2, e2⟩ : ∃ x, x = w.heap.size + 1 + 1 := ⟨_, rfl⟩
  obtain ⟨B3, e3⟩ : ∃ x, x = w.heap.size + 1 + 1 + 1 := ⟨_, rfl⟩
  obtain ⟨B4, e4⟩ : ∃ x, x = w.heap.size + 1 + 1 + 1 + 1 := ⟨_, rfl⟩
  obtain ⟨W1, hW1⟩ : ∃ W1, W1 = (((((w.alloc (.cells #[.string A, .string B] 24)).alloc (.cells #[.string X] 22)).alloc (.cells #[.int .i64 most] 3)).alloc (.cells #[.int .i64 0] 3)).alloc (.cells #[.bool false] 4)) := ⟨_, rfl⟩
  have k0 : Bk W1 B0 #[.string A, .string B] 24 := by rw [hW1, e0]; exact ((((Bk.new _ _ _).alloc _).alloc _).alloc _).alloc _
  have k1 : Bk W1 B1 #[.string X] 22 := by rw [hW1, e1]; exact (((Bk.new1 _ _ _ _).alloc _).alloc _).alloc _
  have k3 : Bk W1 B3 #[.int .i64 0] 3 := by
    rw [hW1, e3]
    have h := Bk.new1 ((w.alloc (.cells #[.string A, .string B] 24)).alloc (.cells #[.string X] 22)) (.cells #[.int .i64 most] 3) #[.int .i64 0] 3
    simp only [World.size_alloc] at h
    exact h.alloc _
  have k4 : Bk W1 B4 #[.bool false] 4 := by
    rw [hW1, e4]
    have h := Bk.new1 (((w.alloc (.cells #[.string A, .string B] 24)).alloc (.cells #[.string X] 22)).alloc (.cells #[.int .i64 most] 3)) (.cells #[.int .i64 0] 3) #[.bool false] 4
    simp only [World.size_alloc] at h
    exact h
  have hB : Below w.heap.size w W1 := by
    rw [hW1]
    exact (((((Below.refl _ w).alloc (Nat.le_refl _) _).alloc (by simp) _).alloc (by simp; omega) _).alloc (by simp; omega) _).alloc (by simp; omega) _
  rw [← e4, ← e3, ← e2, ← e1, ← e0, ← hW1]
  have HS := Lib.hid (And.intro e0 (And.intro e1 (And.intro e2 (And.intro e3 e4))))
  clear e0 e1 e2 e3 e4 hW1
  have c00 := k0.cell 0
  have c01 := k0.cell 1
  have l0 := k0.lt
  refine ⟨trivial, ?_⟩
  refine (callsIn_wide.2 (H1.out _)).mono ?_
  rintro e W2 ⟨rfl, hb⟩
  replace hB := hB.trans (hb.mono hB.size)
  replace k0 := k0.below hb
  replace k1 := k1.below hb
  replace k3 := k3.below hb
  replace k4 := k4.below hb
  clear hb c00 c01 l0
  have c00 := k0.cell 0
  have c01 := k0.cell 1
  have c10 := k1.cell 0
  have l0 := k0.lt
  have l1 := k1.lt
  gi_wp2_with fail
  refine ⟨trivial, ?_⟩
  refine (callsIn_wide.2 (H2.out _)).mono ?_
  rintro e W3 ⟨rfl, hb⟩
  replace hB := hB.trans (hb.mono hB.size)
  replace k3 := k3.below hb
  replace k4 := k4.below hb
  clear hb c00 c01 c10 l0 l1 k0 k1
  have c3 := k3.cell 0
  have c4 := k4.cell 0
  have f3 := k3.frozen 0
  have f4 := k4.frozen 0
  have l3 := k3.lt
  have l4 := k4.lt
  have n34 : B3 ≠ B4 := by have := HS.out; omega
  have n43 : ¬ B4 = B3 := by have := HS.out; omega
  gi_wp2
  have b3 := (k3.set 0 (.int .i64 0)).far n34 (p := ⟨B4, 0, none⟩) (.bool false)
  have b4 := (k4.far n43 (p := ⟨B3, 0, none⟩) (.int .i64 0)).set 0 (.bool false)
  have hc3 := Bk.cell b3 0
  have hc4 := Bk.cell b4 0
  refine ⟨.tuple #[.int .i64 0, .bool false], by simp [results, Tryz.f20, go_sem, hc3, hc4], rfl, ?_⟩
  exact (hB.setCell (p := ⟨B3, 0, none⟩) (by show w.heap.size ≤ B3; have := HS.out; omega) _).setCell (p := ⟨B4, 0, none⟩) (by show w.heap.size ≤ B4; have := HS.out; omega) _

set_option maxHeartbeats 4000000 in
set_option maxRecDepth 100000 in
theorem plog_no1 (A B S X : ByteArray) (most : Int) (w : World)
    (h1 : ∀ W, Calls Tryz.prog 12 #[.agg #[.string A, .string B], .string S] W (Made W (.bool false))) :
    Calls Tryz.prog 20 #[.agg #[.string A, .string B], .string S, .string X, .int .i64 most] w (Made w (.tuple #[.int .i64 0, .bool false])) := by
  have H1 := Lib.hid h1
  clear h1
  refine (callsIn_wide (n := 5)).1 ?_
  refine callsIn_of_wp_marks Tryz.func20 rfl trivial ?_ rfl
  simp only [Tryz.ntmps20, List.size_toArray, List.length_cons, List.length_nil, Nat.reduceAdd, Nat.reduceSub, Array.replicate_succ, Array.replicate_zero, List.push_toArray, List.append_toArray, List.nil_append, List.cons_append]
  gi_wp2_with fail
  obtain ⟨B0, e0⟩ : ∃ x, x = w.heap.size := ⟨_, rfl⟩
  obtain ⟨B1, e1⟩ : ∃ x, x = w.heap.size + 1 := ⟨_, rfl⟩
  obtain ⟨B2, e2⟩ : ∃ x, x = w.heap.size + 1 + 1 := ⟨_, rfl⟩
  obtain ⟨B3, e3⟩ : ∃ x, x = w.heap.size + 1 + 1 + 1 := ⟨_, rfl⟩
  obtain ⟨B4, e4⟩ : ∃ x, x = w.heap.size + 1 + 1 + 1 + 1 := ⟨_, rfl⟩
  obtain ⟨W1, hW1⟩ : ∃ W1, W1 = (((((w.alloc (.cells #[.string A, .string B] 24)).alloc (.cells #[.string X] 22)).alloc (.cells #[.int .i64 most] 3)).alloc (.cells #[.int .i64 0] 3)).alloc (.cells #[.bool false] 4)) := ⟨_, rfl⟩
  have k0 : Bk W1 B0 #[.string A, .string B] 24 := by rw [hW1, e0]; exact ((((Bk.new _ _ _).alloc _).alloc _).alloc _).alloc _
  have k1 : Bk W1 B1 #[.string X] 22 := by rw [hW1, e1]; exact (((Bk.new1 _ _ _ _).alloc _).alloc _).alloc _
  have k3 : Bk W1 B3 #[.int .i64 0] 3 := by
    rw [hW1, e3]
    have h := Bk.new1 ((w.alloc (.cells #[.string A, .string B] 24)).alloc (.cells #[.string X] 22)) (.cells #[.int .i64 most] 3) #[.int .i64 0] 3
    simp only [World.size_alloc] at h
    exact h.alloc _
  have k4 : Bk W1 B4 #[.bool false] 4 := by
    rw [hW1, e4]
    have h := Bk.new1 (((w.alloc (.cells #[.string A, .string B] 24)).alloc (.cells #[.string X] 22)).alloc (.cells #[.int .i64 most] 3)) (.cells #[.int .i64 0] 3) #[.bool false] 4
    simp only [World.size_alloc] at h
    exact h
  have hB : Below w.heap.size w W1 := by
    rw [hW1]
    exact (((((Below.refl _ w).alloc (Nat.le_refl _) _).alloc (by simp) _).alloc (by simp; omega) _).alloc (by simp; omega) _).alloc (by simp; omega) _
  rw [← e4, ← e3, ← e2, ← e1, ← e0, ← hW1]
  have HS := Lib.hid (And.intro e0 (And.intro e1 (And.intro e2 (And.intro e3 e4))))
  clear e0 e1 e2 e3 e4 hW1
  have c00 := k0.cell 0
  have c01 := k0.cell 1
  have l0 := k0.lt
  refine ⟨trivial, ?_⟩
  refine (callsIn_wide.2 (H1.out _)).mono ?_
  rintro e W3 ⟨rfl, hb⟩
  replace hB := hB.trans (hb.mono hB.size)
  replace k3 := k3.below hb
  replace k4 := k4.below hb
  clear hb c00 c01 l0 k0 k1
  have c3 := k3.cell 0
  have c4 := k4.cell 0
  have f3 := k3.frozen 0
  have f4 := k4.frozen 0
  have l3 := k3.lt
  have l4 := k4.lt
  have n34 : B3 ≠ B4 := by have := HS.out; omega
  have n43 : ¬ B4 = B3 := by have := HS.out; omega
  gi_wp2_with ((with_reducible refine And.intro ?_ ?_); exact trivial)
  have b3 := (k3.set 0 (.int .i64 0)).far n34 (p := ⟨B4, 0, none⟩) (.bool false)
  have b4 := (k4.far n43 (p := ⟨B3, 0, none⟩) (.int .i64 0)).set 0 (.bool false)
  have hc3 := Bk.cell b3 0
  have hc4 := Bk.cell b4 0
  refine ⟨.tuple #[.int .i64 0, .bool false], by simp [results, Tryz.f20, go_sem, hc3, hc4], rfl, ?_⟩
  exact (hB.setCell (p := ⟨B3, 0, none⟩) (by show w.heap.size ≤ B3; have := HS.out; omega) _).setCell (p := ⟨B4, 0, none⟩) (by show w.heap.size ≤ B4; have := HS.out; omega) _


set_option maxHeartbeats 4000000 in
set_option maxRecDepth 100000 in
theorem elements_no (m BG BB N : Nat) (A B S : ByteArray) (G : List Nat → Nat → Prop) (Sp : List Nat → Prop) (w : World) (hm : 3 ≤ m)
    (kG : Bk w BG #[.string A, .string B] 24) (kB : Bk w BB #[.string S] 22)
    (h1 : ∀ W, Calls Tryz.prog 12 #[.agg #[.string A, .string B], .string S] W (Made W (.bool false))) :
    SeqB Fence.wide m Tryz.prog 46 #[.pointer (some ⟨BG, 0, none⟩), .pointer (some ⟨BB, 0, none⟩)] (fun x : Nat => #[.string (bs x)]) [BG, BB] G (fun xs => xs = []) Sp N w := by
  intro l J Jx W hW hJ hJx hY h0
  have H1 := Lib.hid h1
  have HJ := Lib.hid (And.intro hJ hJx)
  have H0 := Lib.hid h0
  have g1 := kG.below hW
  have b1 := kB.below hW
  clear h1 hJ hJx h0 kG kB hW hY
  refine callsIn_of_wp_marks Tryz.func46 rfl trivial ?_ rfl
  simp only [Tryz.ntmps46, List.size_toArray, List.length_cons, List.length_nil, Nat.reduceAdd, Nat.reduceSub, Array.replicate_succ, Array.replicate_zero, List.push_toArray, List.append_toArray, List.nil_append, List.cons_append]
  have cg0 := g1.cell 0
  have cg1 := g1.cell 1
  have cb0 := b1.cell 0
  have lg := g1.lt
  have lb := b1.lt
  gi_wp2_with fail
  obtain ⟨W1, hW1⟩ : ∃ W1, W1 = W.alloc (.cells #[.func (.yield l) #[] #[]] 57) := ⟨_, rfl⟩
  have hB : Below W.heap.size W W1 := by rw [hW1]; exact (Below.refl _ W).alloc (Nat.le_refl _) _
  rw [← hW1]
  clear hW1 cg0 cg1 cb0 lg lb
  refine ⟨trivial, fun _ => by omega, ?_⟩
  refine (callsIn_wide.2 (H1.out _)).mono ?_
  rintro e W2 ⟨rfl, hb⟩
  replace hB := hB.trans (hb.mono hB.size)
  gi_wp2
  exact ⟨_, results_none rfl _ _ _, ⟨_, rfl⟩, .inl ⟨[], rfl, HJ.out.1 _ _ _ H0.out hB⟩⟩

/-- What Log answers is determined. -/
theorem logR_ex (b p x : Nat) (most : Int) : ∃ k ok, LogR b p x most k ok := by
  by_cases h : ∃ n : Nat, (n : Int) ≤ most ∧ n ≤ 65536 ∧ b ^ n % p = x
  · obtain ⟨n, hn⟩ := h
    obtain ⟨m, hm, hl⟩ := least_ex (fun n : Nat => (n : Int) ≤ most ∧ n ≤ 65536 ∧ b ^ n % p = x) n hn
    exact ⟨m, true, .inl ⟨rfl, m, rfl, hm.1, hm.2.1, hm.2.2, fun j hj e => hl j hj ⟨by omega, by omega, e⟩⟩⟩
  · exact ⟨0, false, .inr ⟨rfl, rfl, fun n h1 h2 h3 => h ⟨n, h1, h2, h3⟩⟩⟩
end Go.Proofs.YtmiafkbjmkaebaaGreat

namespace Go.Proofs.YtmiafkbjmkaebaaGreat
open Go.RowKit Num

set_option maxHeartbeats 4000000 in
set_option maxRecDepth 100000 in
theorem rlog9_no (A B S X : ByteArray) (most : Int) (w : World) (h1 : ∀ W, Calls Tryz.prog 13 #[.agg #[.string A, .string B], .string S] W (Made W (.bool false))) :
    Calls Tryz.prog 21 #[.agg #[.string A, .string B], .string S, .string X, .int .i64 most] w (Made w (.tuple #[.int .i64 0, .bool false])) := by
  have H1 := Lib.hid h1
  clear h1
  have HV : Below w.heap.size w (w.alloc (.cells #[.string A, .string B] 24)) := (Below.refl w.heap.size w).alloc (Nat.le_refl _) (.cells #[.string A, .string B] 24)
  have K0 : Bk (w.alloc (.cells #[.string A, .string B] 24)) w.heap.size #[.string A, .string B] 24 := Bk.new w #[.string A, .string B] 24
  go_enter Tryz.func21, Tryz.ntmps21
  go_wp2_with fail
  refine (H1.out _).mono ?_
  rintro e u1 ⟨rfl, hb⟩
  replace HV := HV.trans (hb.mono HV.size)
  replace K0 := K0.below hb
  clear hb
  have c0_0 : u1.cell? ⟨w.heap.size, 0, none⟩ = some (.string A) := K0.cell 0
  have c0_1 : u1.cell? ⟨w.heap.size, 1, none⟩ = some (.string B) := K0.cell 1
  have l0 := K0.lt
  go_wp2
  go_ret2
  exact ⟨rfl, HV⟩
set_option maxHeartbeats 4000000 in
set_option maxRecDepth 100000 in
theorem rlog9_no2 (A B S X : ByteArray) (most : Int) (w : World) (h1 : ∀ W, Calls Tryz.prog 13 #[.agg #[.string A, .string B], .string S] W (Made W (.bool true))) (h2 : ∀ W, Calls Tryz.prog 13 #[.agg #[.string A, .string B], .string X] W (Made W (.bool false))) :
    Calls Tryz.prog 21 #[.agg #[.string A, .string B], .string S, .string X, .int .i64 most] w (Made w (.tuple #[.int .i64 0, .bool false])) := by
  have H1 := Lib.hid h1
  have H2 := Lib.hid h2
  clear h1 h2
  have HV : Below w.heap.size w (w.alloc (.cells #[.string A, .string B] 24)) := (Below.refl w.heap.size w).alloc (Nat.le_refl _) (.cells #[.string A, .string B] 24)
  have K0 : Bk (w.alloc (.cells #[.string A, .string B] 24)) w.heap.size #[.string A, .string B] 24 := Bk.new w #[.string A, .string B] 24
  go_enter Tryz.func21, Tryz.ntmps21
  go_wp2_with fail
  refine (H1.out _).mono ?_
  rintro e u1 ⟨rfl, hb⟩
  replace HV := HV.trans (hb.mono HV.size)
  replace K0 := K0.below hb
  clear hb
  have c0_0 : u1.cell? ⟨w.heap.size, 0, none⟩ = some (.string A) := K0.cell 0
  have c0_1 : u1.cell? ⟨w.heap.size, 1, none⟩ = some (.string B) := K0.cell 1
  have l0 := K0.lt
  go_wp2_with fail
  refine (H2.out _).mono ?_
  rintro e u2 ⟨rfl, hb⟩
  replace HV := HV.trans (hb.mono HV.size)
  replace K0 := K0.below hb
  clear hb
  clear c0_0 c0_1 l0
  have c0_0 : u2.cell? ⟨w.heap.size, 0, none⟩ = some (.string A) := K0.cell 0
  have c0_1 : u2.cell? ⟨w.heap.size, 1, none⟩ = some (.string B) := K0.cell 1
  have l0 := K0.lt
  go_wp2
  go_ret2
  exact ⟨rfl, HV⟩
set_option maxHeartbeats 4000000 in
set_option maxRecDepth 100000 in
theorem rlog9_ok (p q b x : Nat) (most k : Int) (ok : Bool) (w : World) (h8 : p < 256 ^ 8) (hb : b < Top) (hp2 : 2 ≤ p) (hR : LogR b p x most k ok) (hm : most ≤ 65536) (hm2 : -9223372036854775808 ≤ most) (h1 : ∀ W, Calls Tryz.prog 13 #[.agg #[.string (bs p), .string (bs q)], .string (bs b)] W (Made W (.bool true))) (h2 : ∀ W, Calls Tryz.prog 13 #[.agg #[.string (bs p), .string (bs q)], .string (bs x)] W (Made W (.bool true))) :
    Calls Tryz.prog 21 #[.agg #[.string (bs p), .string (bs q)], .string (bs b), .string (bs x), .int .i64 most] w (Made w (.tuple #[.int .i64 k, .bool ok])) := by
  have H1 := Lib.hid h1
  have H2 := Lib.hid h2
  have hpT : p < Top := lt_topk h8 (by decide)
  have HM : Hid (∀ i W, Calls Tryz.prog 40 #[.string (bs (b ^ i % p)), .string (bs b), .string (bs p)] W (Made W (.tuple #[.string (bs (b ^ (i + 1) % p)), .int .i64 0]))) := Lib.hid (fun i W => by
    have h := rMul_ok (b ^ i % p) b p W (Nat.lt_trans (Nat.mod_lt _ (by omega)) hpT) hb (by omega) h8
    rwa [pw_next] at h)
  have HP := Lib.hid (And.intro hp2 (And.intro hR (And.intro hm hm2)))
  have e1 : bs (b ^ 0 % p) = ⟨#[1]⟩ := by rw [Nat.pow_zero, Nat.mod_eq_of_lt (by omega), b1]
  clear h1 h2 h8 hb hp2 hR hm hm2 hpT
  have HV : Below w.heap.size w (w.alloc (.cells #[.string (bs p), .string (bs q)] 24)) := (Below.refl w.heap.size w).alloc (Nat.le_refl _) (.cells #[.string (bs p), .string (bs q)] 24)
  have K0 : Bk (w.alloc (.cells #[.string (bs p), .string (bs q)] 24)) w.heap.size #[.string (bs p), .string (bs q)] 24 := Bk.new w #[.string (bs p), .string (bs q)] 24
  go_enter Tryz.func21, Tryz.ntmps21
  go_wp2_with fail
  refine (H1.out _).mono ?_
  rintro e u1 ⟨rfl, hb⟩
  replace HV := HV.trans (hb.mono HV.size)
  replace K0 := K0.below hb
  clear hb
  have c0_0 : u1.cell? ⟨w.heap.size, 0, none⟩ = some (.string (bs p)) := K0.cell 0
  have c0_1 : u1.cell? ⟨w.heap.size, 1, none⟩ = some (.string (bs q)) := K0.cell 1
  have l0 := K0.lt
  go_wp2_with fail
  refine (H2.out _).mono ?_
  rintro e u2 ⟨rfl, hb⟩
  replace HV := HV.trans (hb.mono HV.size)
  replace K0 := K0.below hb
  clear hb
  clear c0_0 c0_1 l0
  have c0_0 : u2.cell? ⟨w.heap.size, 0, none⟩ = some (.string (bs p)) := K0.cell 0
  have c0_1 : u2.cell? ⟨w.heap.size, 1, none⟩ = some (.string (bs q)) := K0.cell 1
  have l0 := K0.lt
  go_wp2
  go_loopw [10, 11] (fun x10 x11 wr => ∃ i : Nat, x10 = .string (bs (b ^ i % p)) ∧ x11 = .int .i64 i ∧ Hid (i ≤ 65537 ∧ (∀ j, j < i → b ^ j % p ≠ x) ∧ (∀ j, j < i → (j : Int) ≤ most)) ∧ Below u2.heap.size u2 wr) (fun _ x11 _ => 65537 - (intOf x11).toNat)
  case atStart => exact ⟨0, by rw [e1], rfl, Lib.hid ⟨by omega, fun j hj => by omega, fun j hj => by omega⟩, Below.refl _ _⟩
  case round =>
    obtain ⟨i, rfl, rfl, HI, hbe⟩ := hrel
    have kk := K0.below hbe
    have d0 := kk.cell 0
    have dl := kk.lt
    have hmm := HP.out.2.2
    by_cases hc1 : (i : Int) ≤ most
    · have hx1 : decide ((i : Int) ≤ most) = true := by simp [hc1]
      by_cases hc2 : (i : Int) ≤ 65536
      · have hx2 : decide ((i : Int) ≤ 65536) = true := by simp [hc2]
        have e2 : ((bs (b ^ i % p)).toList == (bs x).toList) = (b ^ i % p == x) := bs_beq _ _
        have wi : IntKind.i64.wrap ((i : Int) + 1) = (i : Int) + 1 := by rw [IntKind.wrap_i64] <;> omega
        by_cases hx : b ^ i % p = x
        · rw [show (b ^ i % p == x) = true from by simp [hx]] at e2
          have HF : k = (i : Int) ∧ ok = true := by
            rcases HP.out.2.1 with ⟨h1, n, h2, h3, h4, h5, h6⟩ | ⟨_, _, h3⟩
            · refine ⟨?_, h1⟩
              rcases Nat.lt_trichotomy n i with hl | hl | hl
              · exact absurd h5 (HI.out.2.1 n hl)
              · rw [h2, hl]
              · exact absurd hx (h6 i hl)
            · exact absurd hx (h3 i hc1 (by omega))
          obtain ⟨rfl, rfl⟩ := HF
          clear hx hc1 hc2 hmm
          go_wp2
          go_ret2
          exact ⟨rfl, HV.trans (hbe.mono HV.size)⟩
        · rw [show (b ^ i % p == x) = false from beq_false_of_ne hx] at e2
          have HMi := Lib.hid (HM.out i)
          have HX := Lib.hid (And.intro hx (And.intro hc1 hc2))
          clear hx hc1 hc2 hmm
          go_wp2_with (go_at_call 40; refine (HMi.out _).mono ?_; rintro e w3 ⟨rfl, hb3⟩)
          go_roundw
          case rel => exact ⟨i + 1, rfl, by go_num, Lib.hid ⟨by have := HX.out.2.2; omega, fun j hj => (show j < i ∨ j = i by omega).elim (HI.out.2.1 j) (fun e => by rw [e]; exact HX.out.1), fun j hj => (show j < i ∨ j = i by omega).elim (HI.out.2.2 j) (fun e => by rw [e]; exact HX.out.2.1)⟩, hbe.trans (hb3.mono hbe.size)⟩
          case measure => have := HX.out.2.2; simp [intOf]; omega
      · have hx2 : decide ((i : Int) ≤ 65536) = false := by simp; omega
        have HF : k = 0 ∧ ok = false := by
          rcases HP.out.2.1 with ⟨_, n, _, _, h4, h5, _⟩ | ⟨h1, h2, _⟩
          · exact absurd h5 (HI.out.2.1 n (by omega))
          · exact ⟨h2, h1⟩
        obtain ⟨rfl, rfl⟩ := HF
        clear hc1 hc2 hmm
        go_wp2
        go_ret2
        exact ⟨rfl, HV.trans (hbe.mono HV.size)⟩
    · have hx1 : decide ((i : Int) ≤ most) = false := by simp; omega
      have HF : k = 0 ∧ ok = false := by
        rcases HP.out.2.1 with ⟨_, n, _, h3, h4, h5, _⟩ | ⟨h1, h2, _⟩
        · exact absurd h5 (HI.out.2.1 n (by omega))
        · exact ⟨h2, h1⟩
      obtain ⟨rfl, rfl⟩ := HF
      clear hc1 hmm
      go_wp2
      go_ret2
      exact ⟨rfl, HV.trans (hbe.mono HV.size)⟩
set_option maxHeartbeats 4000000 in
set_option maxRecDepth 100000 in
theorem rel9_no (A B S : ByteArray) (w : World) (h1 : ∀ W, Calls Tryz.prog 13 #[.agg #[.string A, .string B], .string S] W (Made W (.bool false))) :
    Calls Tryz.prog 22 #[.agg #[.string A, .string B], .string S, .int .i64 80] w (Made w (.slice none 0 0)) := by
  have H1 := Lib.hid h1
  clear h1
  have HV : Below w.heap.size w (w.alloc (.cells #[.string A, .string B] 24)) := (Below.refl w.heap.size w).alloc (Nat.le_refl _) (.cells #[.string A, .string B] 24)
  have K0 : Bk (w.alloc (.cells #[.string A, .string B] 24)) w.heap.size #[.string A, .string B] 24 := Bk.new w #[.string A, .string B] 24
  go_enter Tryz.func22, Tryz.ntmps22
  go_wp2_with fail
  refine (H1.out _).mono ?_
  rintro e u1 ⟨rfl, hb⟩
  replace HV := HV.trans (hb.mono HV.size)
  replace K0 := K0.below hb
  clear hb
  have c0_0 : u1.cell? ⟨w.heap.size, 0, none⟩ = some (.string A) := K0.cell 0
  have c0_1 : u1.cell? ⟨w.heap.size, 1, none⟩ = some (.string B) := K0.cell 1
  have l0 := K0.lt
  go_wp2
  go_ret
  exact ⟨rfl, HV⟩
def lenOf : Value → Nat
  | .slice _ n _ => n
  | _ => 0
set_option maxHeartbeats 4000000 in
set_option maxRecDepth 100000 in
theorem rel9_ok (p q b d : Nat) (w : World) (h8 : p < 256 ^ 8) (hb : b < Top) (hp2 : 2 ≤ p) (ho : IsOrd b p d) (h1 : ∀ W, Calls Tryz.prog 13 #[.agg #[.string (bs p), .string (bs q)], .string (bs b)] W (Made W (.bool true))) :
    Calls Tryz.prog 22 #[.agg #[.string (bs p), .string (bs q)], .string (bs b), .int .i64 80] w fun e w' => ∃ v : Value, e = .returned v ∧ w'.ownsRow w.heap.size 22 1 v (min d 80) (cellsS (pwL b p (min d 80))) ∧ Below w.heap.size w w' := by
  have H1 := Lib.hid h1
  have hpT : p < Top := lt_topk h8 (by decide)
  have HM : Hid (∀ i W, Calls Tryz.prog 40 #[.string (bs (b ^ i % p)), .string (bs b), .string (bs p)] W (Made W (.tuple #[.string (bs (b ^ (i + 1) % p)), .int .i64 0]))) := Lib.hid (fun i W => by
    have h := rMul_ok (b ^ i % p) b p W (Nat.lt_trans (Nat.mod_lt _ (by omega)) hpT) hb (by omega) h8
    rwa [pw_next] at h)
  have HP := Lib.hid (And.intro hp2 ho)
  have e1 : bs (b ^ 0 % p) = ⟨#[1]⟩ := by rw [Nat.pow_zero, Nat.mod_eq_of_lt (by omega), b1]
  obtain ⟨i0, hi0, hz0, hz1, hz2⟩ := info_parts info_nat
  clear h1 h8 hb hp2 ho hpT
  have HV : Below w.heap.size w (w.alloc (.cells #[.string (bs p), .string (bs q)] 24)) := (Below.refl w.heap.size w).alloc (Nat.le_refl _) (.cells #[.string (bs p), .string (bs q)] 24)
  have K0 : Bk (w.alloc (.cells #[.string (bs p), .string (bs q)] 24)) w.heap.size #[.string (bs p), .string (bs q)] 24 := Bk.new w #[.string (bs p), .string (bs q)] 24
  go_enter Tryz.func22, Tryz.ntmps22
  go_wp2_with fail
  refine (H1.out _).mono ?_
  rintro e u1 ⟨rfl, hb⟩
  replace HV := HV.trans (hb.mono HV.size)
  replace K0 := K0.below hb
  clear hb
  have c0_0 : u1.cell? ⟨w.heap.size, 0, none⟩ = some (.string (bs p)) := K0.cell 0
  have c0_1 : u1.cell? ⟨w.heap.size, 1, none⟩ = some (.string (bs q)) := K0.cell 1
  have l0 := K0.lt
  go_wp2
  go_loopw [7, 8] (fun x7 x8 wr => ∃ i : Nat, i ≤ min d 80 ∧ x8 = .string (bs (b ^ i % p)) ∧ wr.ownsRow u1.heap.size 22 1 x7 i (cellsS (pwL b p i)) ∧ Below u1.heap.size u1 wr) (fun x7 _ _ => 80 - lenOf x7)
  case atStart => exact ⟨0, Nat.zero_le _, by rw [e1], World.ownsRow_nil _ _ _ _, Below.refl _ _⟩
  case round =>
    obtain ⟨i, hi, rfl, hown, hbe⟩ := hrel
    obtain ⟨A1, cap1, rfl⟩ := owns_form hown
    have kk := K0.below hbe
    have d0 := kk.cell 0
    have dl := kk.lt
    have e2 : ((bs (b ^ i % p)).toList == [1]) = (b ^ i % p == 1) := by
      have h := bs_beq (b ^ i % p) 1
      rw [b1, show (⟨#[1]⟩ : ByteArray).toList = [1] from by rw [ByteArray.toList_eq]] at h
      exact h
    by_cases hlt : i < min d 80
    · have hx1 : decide ((i : Int) < 80) = true := by simp; omega
      have hx2 : decide ((i : Int) < 65536) = true := by simp; omega
      have HMi := Lib.hid (HM.out i)
      have HNW := Lib.hid (new_one wr 22 (.string (bs (b ^ i % p))))
      have HONE : Hid (∀ u ∈ [Value.string (bs (b ^ i % p))], u.oneCell' = true) := Lib.hid (by intro u hu; simp at hu; subst hu; rfl)
      have hq := hbe.size
      have h3 : i = 0 ∨ ¬ i = 0 ∧ (b ^ i % p == 1) = false := by
        rcases Nat.eq_zero_or_pos i with h | h
        · exact .inl h
        · exact .inr ⟨by omega, beq_false_of_ne (HP.out.2.2.2 i h (by omega))⟩
      have HLT := Lib.hid hlt
      have h79 : i < 1000 := by omega
      obtain ⟨y, hy⟩ : ∃ y, y = b ^ i % p := ⟨_, rfl⟩
      obtain ⟨y2, hy2⟩ : ∃ y2, y2 = b ^ (i + 1) % p := ⟨_, rfl⟩
      have HY := Lib.hid (And.intro hy hy2)
      rw [← hy] at e2 HNW HONE HMi h3 ⊢
      rw [← hy2] at HMi
      obtain ⟨cs, hcs⟩ : ∃ cs, cs = cellsS (pwL b p i) := ⟨_, rfl⟩
      have HCS : Hid (cellsS (pwL b p (i + 1)) = cs ++ [.string (bs y)]) := Lib.hid (by rw [pwL_succ, cellsS_snoc, ← hcs, hy])
      rw [← hcs] at hown
      clear hlt hy hy2 hcs hi
      rcases h3 with rfl | ⟨h3, h4⟩
      all_goals
        (try (rw [h4] at e2; clear h4))
        go_wp2_with (first
          | (at_builtin; refine wpList_append_own _ rfl _ _ 45 rfl u1.heap.size 22 i0 (.string ⟨#[]⟩) 1 16 Tryz.underlying45 hi0 hz0 hz1 hz2 rfl (by decide) _ _ _ rfl (hown.alloc _) ⟨wr.heap.size, 0, none⟩ 1 1 [.string (bs y)] rfl rfl (HNW.out _ rfl) HONE.out (by unfold maxLen; omega) (by omega) (by simp; omega) ?_; intro v1 w2 hown3 hg4 _; have hbe3 := (hbe.alloc hbe.size (.cells #[.string (bs y)] 22)).grown hg4 (by simp; omega) (fun g hg => (hown.lt g hg).1); have k3 := K0.below hbe3; clear d0 dl; have d0 := k3.cell 0; have dl := k3.lt)
          | (go_at_call 40; refine (HMi.out _).mono ?_; rintro e w3 ⟨rfl, hb3⟩))
        go_roundw
        case rel => exact ⟨_, HLT.out, by rw [HY.out.2], by rw [HCS.out]; exact owns_below hown3 hb3, hbe3.trans (hb3.mono hbe3.size)⟩
        case measure =>
          have := HLT.out
          obtain ⟨A4, cap4, rfl⟩ := owns_form hown3
          simp [lenOf] <;> omega
    · have hM : i = min d 80 := by omega
      have hq := HV.size
      have HFin := Lib.hid (And.intro (ownsRow_le' hown hq) (HV.trans (hbe.mono hq)))
      by_cases h80 : 80 ≤ d
      · have hx1 : decide ((i : Int) < 80) = false := by simp; omega
        have HM2 := Lib.hid hM
        clear hlt hi hM h80
        go_wp2
        go_ret
        exact ⟨_, rfl, by rw [← HM2.out]; exact HFin.out.1, HFin.out.2⟩
      · have hm : i = d := by omega
        have hx1 : decide ((i : Int) < 80) = true := by simp; omega
        have hx2 : decide ((i : Int) < 65536) = true := by simp; omega
        have h0 : ¬ i = 0 := by have := HP.out.2.1; omega
        have r0 : ((i : Int) == 0) = false := by simp; omega
        have r1 : ((i : Int) = 0) = False := by simp; omega
        have r2 : (i = 0) = False := by simp; omega
        rw [show (b ^ i % p == 1) = true from by rw [hm, HP.out.2.2.1]; rfl] at e2
        have HM2 := Lib.hid hM
        clear hlt hi h80 hM hm
        go_wp2
        go_ret
        exact ⟨_, rfl, by rw [← HM2.out]; exact HFin.out.1, HFin.out.2⟩
end Go.Proofs.YtmiafkbjmkaebaaGreat

namespace Go.Proofs.YtmiafkbjmkaebaaGreat
open Go.RowKit Num Go.Shelf
attribute [local go_sem] Oper.semAt_some

set_option maxHeartbeats 4000000 in
set_option maxRecDepth 100000 in
theorem glog_few (A B S X : ByteArray) (most : Int) (w : World) (hf : ∀ (W : World) (gb : Nat), W.cell? ⟨gb, 0, none⟩ = some (.string S) → W.cell? ⟨gb, 1, none⟩ = some (.string X) → gb < W.heap.size → Calls Tryz.prog 11 #[.agg #[.string A, .string B], .slice (some ⟨gb, 0, none⟩) 2 2] W (Made W (.bool false))) : Calls Tryz.prog 7 #[.agg #[.string A, .string B], .agg #[.string S, .string X], .int .i64 most] w (Made w (.bool true)) := by
  have HFw := Lib.hid hf
  have HW := Lib.hid awake9
  clear hf
  refine (callsIn_wide (n := 6)).1 ?_
  refine callsIn_of_wp_marks Tryz.func7 rfl trivial ?_ rfl
  simp only [Tryz.ntmps7, List.size_toArray, List.length_cons, List.length_nil, Nat.reduceAdd, Nat.reduceSub, Array.replicate_succ, Array.replicate_zero, List.push_toArray, List.append_toArray, List.nil_append, List.cons_append]
  obtain ⟨B0, e0⟩ : ∃ x, x = w.heap.size := ⟨_, rfl⟩
  obtain ⟨B1, e1⟩ : ∃ x, x = w.heap.size + 1 := ⟨_, rfl⟩
  obtain ⟨B2, e2⟩ : ∃ x, x = w.heap.size + 1 + 1 := ⟨_, rfl⟩
  obtain ⟨W1, hW1⟩ : ∃ W1, W1 = (((w.alloc (.cells #[.string A, .string B] 24)).alloc (.cells #[.string S, .string X] 42)).alloc (.cells #[.bool false] 4)) := ⟨_, rfl⟩
  have k0 : Bk W1 B0 #[.string A, .string B] 24 := by rw [hW1, e0]; exact ((Bk.new _ _ _).alloc _).alloc _
  have k1 : Bk W1 B1 #[.string S, .string X] 42 := by rw [hW1, e1]; exact (Bk.new1 _ _ _ _).alloc _
  have k2 : Bk W1 B2 #[.bool false] 4 := by
    rw [hW1, e2]
    have h := Bk.new1 (w.alloc (.cells #[.string A, .string B] 24)) (.cells #[.string S, .string X] 42) #[.bool false] 4
    simp only [World.size_alloc] at h
    exact h
  have HV : Below w.heap.size w W1 := by
    rw [hW1]
    exact (((Below.refl _ w).alloc (Nat.le_refl _) _).alloc (by simp) _).alloc (by simp; omega) _
  have HS0 := Lib.hid (And.intro e0 (And.intro e1 e2))
  gi_wp2_with fail
  rw [← e2, ← e1, ← e0, ← hW1]
  clear e0 e1 e2 hW1
  have c10 := k1.cell 0
  have c11 := k1.cell 1
  have l1 := k1.lt
  gi_region
  replace k0 := k0.drew
  replace k1 := k1.drew
  replace k2 := k2.drew
  replace HV := HV.drew
  clear c10 c11 l1
  generalize W1.drew = WD at *
  have c00 := k0.cell 0
  have c01 := k0.cell 1
  have l0 := k0.lt
  gi_wp2_with fail
  have KS := Bk.new WD #[.string S, .string X] 22
  have hbs : Below WD.heap.size WD (WD.alloc (.cells #[.string S, .string X] 22)) := (Below.refl _ WD).alloc (Nat.le_refl _) _
  refine ⟨trivial, ?_⟩
  refine (callsIn_wide.2 (HFw.out _ _ (KS.cell 0) (KS.cell 1) KS.lt)).mono ?_
  rintro e u1 ⟨rfl, hb0⟩
  have hb := hbs.trans (hb0.mono hbs.size)
  clear hb0 hbs KS
  replace HV := HV.trans (hb.mono HV.size)
  replace k0 := k0.below hb
  replace k2 := k2.below hb
  clear hb c00 c01 l0
  have c00 := k0.cell 0
  have c01 := k0.cell 1
  have l0 := k0.lt
  gi_wp2_with ((with_reducible refine And.intro ?_ ?_); exact trivial)
  refine (callsIn_wide.2 (HW.out _)).mono ?_
  rintro e u2 ⟨rfl, hb⟩
  replace HV := HV.trans (hb.mono HV.size)
  replace k0 := k0.below hb
  replace k2 := k2.below hb
  clear hb c00 c01 l0
  have c00 := k0.cell 0
  have c01 := k0.cell 1
  have l0 := k0.lt
  have f2 := k2.frozen 0
  have c2 := k2.cell 0
  have l2 := k2.lt
  have w2 : w.heap.size ≤ B2 := by have := HS0.out; omega
  gi_wp2
  have hc := Bk.cell (k2.set 0 (.bool true)) 0
  refine ⟨.bool true, by simp [results, Tryz.f7, go_sem, hc], rfl, HV.setCell (p := ⟨B2, 0, none⟩) w2 _⟩
set_option maxHeartbeats 4000000 in
set_option maxRecDepth 100000 in
theorem glog_most (A B S X : ByteArray) (most : Int) (w : World) (hf : ∀ (W : World) (gb : Nat), W.cell? ⟨gb, 0, none⟩ = some (.string S) → W.cell? ⟨gb, 1, none⟩ = some (.string X) → gb < W.heap.size → Calls Tryz.prog 11 #[.agg #[.string A, .string B], .slice (some ⟨gb, 0, none⟩) 2 2] W (Made W (.bool true))) (hm : 300 < most) : Calls Tryz.prog 7 #[.agg #[.string A, .string B], .agg #[.string S, .string X], .int .i64 most] w (Made w (.bool true)) := by
  have HFw := Lib.hid hf
  have HW := Lib.hid awake9
  have hd : decide (300 < most) = true := by simp; omega
  clear hf hm
  refine (callsIn_wide (n := 6)).1 ?_
  refine callsIn_of_wp_marks Tryz.func7 rfl trivial ?_ rfl
  simp only [Tryz.ntmps7, List.size_toArray, List.length_cons, List.length_nil, Nat.reduceAdd, Nat.reduceSub, Array.replicate_succ, Array.replicate_zero, List.push_toArray, List.append_toArray, List.nil_append, List.cons_append]
  obtain ⟨B0, e0⟩ : ∃ x, x = w.heap.size := ⟨_, rfl⟩
  obtain ⟨B1, e1⟩ : ∃ x, x = w.heap.size + 1 := ⟨_, rfl⟩
  obtain ⟨B2, e2⟩ : ∃ x, x = w.heap.size + 1 + 1 := ⟨_, rfl⟩
  obtain ⟨W1, hW1⟩ : ∃ W1, W1 = (((w.alloc (.cells #[.string A, .string B] 24)).alloc (.cells #[.string S, .string X] 42)).alloc (.cells #[.bool false] 4)) := ⟨_, rfl⟩
  have k0 : Bk W1 B0 #[.string A, .string B] 24 := by rw [hW1, e0]; exact ((Bk.new _ _ _).alloc _).alloc _
  have k1 : Bk W1 B1 #[.string S, .string X] 42 := by rw [hW1, e1]; exact (Bk.new1 _ _ _ _).alloc _
  have k2 : Bk W1 B2 #[.bool false] 4 := by
    rw [hW1, e2]
    have h := Bk.new1 (w.alloc (.cells #[.string A, .string B] 24)) (.cells #[.string S, .string X] 42) #[.bool false] 4
    simp only [World.size_alloc] at h
    exact h
  have HV : Below w.heap.size w W1 := by
    rw [hW1]
    exact (((Below.refl _ w).alloc (Nat.le_refl _) _).alloc (by simp) _).alloc (by simp; omega) _
  have HS0 := Lib.hid (And.intro e0 (And.intro e1 e2))
  gi_wp2_with fail
  rw [← e2, ← e1, ← e0, ← hW1]
  clear e0 e1 e2 hW1
  have c10 := k1.cell 0
  have c11 := k1.cell 1
  have l1 := k1.lt
  gi_region
  replace k0 := k0.drew
  replace k1 := k1.drew
  replace k2 := k2.drew
  replace HV := HV.drew
  clear c10 c11 l1
  generalize W1.drew = WD at *
  have c00 := k0.cell 0
  have c01 := k0.cell 1
  have l0 := k0.lt
  gi_wp2_with fail
  have KS := Bk.new WD #[.string S, .string X] 22
  have hbs : Below WD.heap.size WD (WD.alloc (.cells #[.string S, .string X] 22)) := (Below.refl _ WD).alloc (Nat.le_refl _) _
  refine ⟨trivial, ?_⟩
  refine (callsIn_wide.2 (HFw.out _ _ (KS.cell 0) (KS.cell 1) KS.lt)).mono ?_
  rintro e u1 ⟨rfl, hb0⟩
  have hb := hbs.trans (hb0.mono hbs.size)
  clear hb0 hbs KS
  replace HV := HV.trans (hb.mono HV.size)
  replace k0 := k0.below hb
  replace k2 := k2.below hb
  clear hb c00 c01 l0
  have c00 := k0.cell 0
  have c01 := k0.cell 1
  have l0 := k0.lt
  gi_wp2_with ((with_reducible refine And.intro ?_ ?_); exact trivial)
  refine (callsIn_wide.2 (HW.out _)).mono ?_
  rintro e u2 ⟨rfl, hb⟩
  replace HV := HV.trans (hb.mono HV.size)
  replace k0 := k0.below hb
  replace k2 := k2.below hb
  clear hb c00 c01 l0
  have c00 := k0.cell 0
  have c01 := k0.cell 1
  have l0 := k0.lt
  have f2 := k2.frozen 0
  have c2 := k2.cell 0
  have l2 := k2.lt
  have w2 : w.heap.size ≤ B2 := by have := HS0.out; omega
  gi_wp2
  have hc := Bk.cell (k2.set 0 (.bool true)) 0
  refine ⟨.bool true, by simp [results, Tryz.f7, go_sem, hc], rfl, HV.setCell (p := ⟨B2, 0, none⟩) w2 _⟩
set_option maxHeartbeats 4000000 in
set_option maxRecDepth 100000 in
theorem glog_main (A B S X : ByteArray) (most k : Int) (ok : Bool) (L : List Nat) (N : Nat) (G : List Nat → Nat → Prop) (Ss Sp : List Nat → Prop) (w : World) (hf : ∀ (W : World) (gb : Nat), W.cell? ⟨gb, 0, none⟩ = some (.string S) → W.cell? ⟨gb, 1, none⟩ = some (.string X) → gb < W.heap.size → Calls Tryz.prog 11 #[.agg #[.string A, .string B], .slice (some ⟨gb, 0, none⟩) 2 2] W (Made W (.bool true))) (hm : most ≤ 300)
    (h1 : ∀ W, Calls Tryz.prog 20 #[.agg #[.string A, .string B], .string S, .string X, .int .i64 most] W (Made W (.tuple #[.int .i64 k, .bool ok]))) (h2 : ∀ W, Calls Tryz.prog 21 #[.agg #[.string A, .string B], .string S, .string X, .int .i64 most] W (Made W (.tuple #[.int .i64 k, .bool ok])))
    (h3 : ∀ W, Calls Tryz.prog 22 #[.agg #[.string A, .string B], .string S, .int .i64 80] W fun e w' => ∃ v : Value, e = .returned v ∧ w'.ownsRow W.heap.size 22 1 v L.length (cellsS L) ∧ Below W.heap.size W w')
    (hq : ∀ (BG BB : Nat) (W : World), Bk W BG #[.string A, .string B] 24 → Bk W BB #[.string S] 22 → SeqB Fence.wide 5 Tryz.prog 46 #[.pointer (some ⟨BG, 0, none⟩), .pointer (some ⟨BB, 0, none⟩)] (fun x : Nat => #[.string (bs x)]) [BG, BB] G Ss Sp N W) (hG : ∀ pre x, G pre x → pre.length < N → pre.length < 80 → pre.length < L.length ∧ x = L.getD pre.length 0) (hS : ∀ xs, Ss xs → xs.length < 80 → xs.length = L.length) (hL : L.length ≤ 80) :
    Calls Tryz.prog 7 #[.agg #[.string A, .string B], .agg #[.string S, .string X], .int .i64 most] w (Made w (.bool true)) := by
  have HFw := Lib.hid hf
  have HW := Lib.hid awake9
  have H1 := Lib.hid h1
  have H2 := Lib.hid h2
  have H3 := Lib.hid h3
  have HQ := Lib.hid hq
  have HGG := Lib.hid (And.intro hG (And.intro hS hL))
  have HE := Lib.hid (fun W => elements_any A B S W)
  have hd : decide (300 < most) = false := by simp; omega
  clear hf hm h1 h2 h3 hq hG hS hL
  refine (callsIn_wide (n := 6)).1 ?_
  refine callsIn_of_wp_marks Tryz.func7 rfl trivial ?_ rfl
  simp only [Tryz.ntmps7, List.size_toArray, List.length_cons, List.length_nil, Nat.reduceAdd, Nat.reduceSub, Array.replicate_succ, Array.replicate_zero, List.push_toArray, List.append_toArray, List.nil_append, List.cons_append]
  obtain ⟨B0, e0⟩ : ∃ x, x = w.heap.size := ⟨_, rfl⟩
  obtain ⟨B1, e1⟩ : ∃ x, x = w.heap.size + 1 := ⟨_, rfl⟩
  obtain ⟨B2, e2⟩ : ∃ x, x = w.heap.size + 1 + 1 := ⟨_, rfl⟩
  obtain ⟨W1, hW1⟩ : ∃ W1, W1 = (((w.alloc (.cells #[.string A, .string B] 24)).alloc (.cells #[.string S, .string X] 42)).alloc (.cells #[.bool false] 4)) := ⟨_, rfl⟩
  have k0 : Bk W1 B0 #[.string A, .string B] 24 := by rw [hW1, e0]; exact ((Bk.new _ _ _).alloc _).alloc _
  have k1 : Bk W1 B1 #[.string S, .string X] 42 := by rw [hW1, e1]; exact (Bk.new1 _ _ _ _).alloc _
  have k2 : Bk W1 B2 #[.bool false] 4 := by
    rw [hW1, e2]
    have h := Bk.new1 (w.alloc (.cells #[.string A, .string B] 24)) (.cells #[.string S, .string X] 42) #[.bool false] 4
    simp only [World.size_alloc] at h
    exact h
  have HV : Below w.heap.size w W1 := by
    rw [hW1]
    exact (((Below.refl _ w).alloc (Nat.le_refl _) _).alloc (by simp) _).alloc (by simp; omega) _
  have HS0 := Lib.hid (And.intro e0 (And.intro e1 e2))
  gi_wp2_with fail
  rw [← e2, ← e1, ← e0, ← hW1]
  clear e0 e1 e2 hW1
  have c10 := k1.cell 0
  have c11 := k1.cell 1
  have l1 := k1.lt
  gi_region
  replace k0 := k0.drew
  replace k1 := k1.drew
  replace k2 := k2.drew
  replace HV := HV.drew
  clear c10 c11 l1
  generalize W1.drew = WD at *
  have c00 := k0.cell 0
  have c01 := k0.cell 1
  have l0 := k0.lt
  gi_wp2_with fail
  have KS := Bk.new WD #[.string S, .string X] 22
  have hbs : Below WD.heap.size WD (WD.alloc (.cells #[.string S, .string X] 22)) := (Below.refl _ WD).alloc (Nat.le_refl _) _
  refine ⟨trivial, ?_⟩
  refine (callsIn_wide.2 (HFw.out _ _ (KS.cell 0) (KS.cell 1) KS.lt)).mono ?_
  rintro e u1 ⟨rfl, hb0⟩
  have hb := hbs.trans (hb0.mono hbs.size)
  clear hb0 hbs KS
  replace HV := HV.trans (hb.mono HV.size)
  replace k0 := k0.below hb
  replace k2 := k2.below hb
  clear hb c00 c01 l0
  have c00 := k0.cell 0
  have c01 := k0.cell 1
  have l0 := k0.lt
  gi_wp2_with ((with_reducible refine And.intro ?_ ?_); exact trivial)
  refine (callsIn_wide.2 (H1.out _)).mono ?_
  rintro e u2 ⟨rfl, hb⟩
  replace HV := HV.trans (hb.mono HV.size)
  replace k0 := k0.below hb
  replace k2 := k2.below hb
  clear hb c00 c01 l0
  have c00 := k0.cell 0
  have c01 := k0.cell 1
  have l0 := k0.lt
  gi_wp2_with ((with_reducible refine And.intro ?_ ?_); exact trivial)
  refine (callsIn_wide.2 (H2.out _)).mono ?_
  rintro e u3 ⟨rfl, hb⟩
  replace HV := HV.trans (hb.mono HV.size)
  replace k0 := k0.below hb
  replace k2 := k2.below hb
  clear hb c00 c01 l0
  have c00 := k0.cell 0
  have c01 := k0.cell 1
  have l0 := k0.lt
  gi_wp2_with ((with_reducible refine And.intro ?_ ?_); exact trivial)
  refine (callsIn_wide.2 (H3.out _)).mono ?_
  rintro e u4 ⟨v, rfl, hown, hb⟩
  obtain ⟨AL, cap, rfl, hcell⟩ := owns_cell hown
  have HOW := Lib.hid hown
  have HCE := Lib.hid hcell
  clear hown hcell
  replace HV := HV.trans (hb.mono HV.size)
  replace k0 := k0.below hb
  replace k2 := k2.below hb
  clear hb c00 c01 l0
  have c00 := k0.cell 0
  have c01 := k0.cell 1
  have l0 := k0.lt
  gi_wp2_with fail
  obtain ⟨BW, eW⟩ : ∃ x, x = u4.heap.size := ⟨_, rfl⟩
  obtain ⟨WA, hWA⟩ : ∃ WA, WA = u4.alloc (.cells #[.slice AL L.length cap] 45) := ⟨_, rfl⟩
  have kW : Bk WA BW #[.slice AL L.length cap] 45 := by rw [hWA, eW]; exact Bk.new _ _ _
  have h4 : Below u4.heap.size u4 WA := by rw [hWA]; exact (Below.refl _ u4).alloc (Nat.le_refl _) _
  have hsA : WA.heap.size = BW + 1 := by rw [hWA, eW]; simp
  have wW : w.heap.size ≤ BW := by rw [eW]; exact HV.size
  rw [← hWA, ← eW]
  have HEW := Lib.hid eW
  have hf2 : B2 < BW := by rw [eW]; exact k2.lt
  clear hWA eW c00 c01 l0
  refine ⟨trivial, ?_⟩
  refine (callsIn_wide.2 (HE.out _)).mono ?_
  rintro e W0 ⟨rfl, hW0⟩
  have hbA : Below WA.heap.size WA W0 := by rw [hW0]; exact ((Below.refl _ WA).alloc (Nat.le_refl _) _).alloc (by simp) _
  have kG : Bk W0 WA.heap.size #[.string A, .string B] 24 := by rw [hW0]; exact (Bk.new _ _ _).alloc _
  have kB : Bk W0 (WA.heap.size + 1) #[.string S] 22 := by rw [hW0]; exact Bk.new1 _ _ _ _
  have hs0 : W0.heap.size = BW + 3 := by rw [hW0]; simp [hsA]
  clear hW0
  obtain ⟨BG, eG⟩ : ∃ x, x = WA.heap.size := ⟨_, rfl⟩
  rw [← eG] at kG kB hsA ⊢
  replace kW := kW.below hbA
  replace h4 := h4.trans (hbA.mono h4.size)
  have HZ := Lib.hid (And.intro hs0 (And.intro hsA (And.intro wW hf2)))
  clear hbA hs0 hsA eG wW hf2
  have HK2 := Lib.hid (And.intro k2 HV)
  have hfn := fn_nil 46 #[.pointer (some ⟨BG, 0, none⟩), .pointer (some ⟨BG + 1, 0, none⟩)] W0
  gi_wp2_with fail
  clear hfn
  refine wpIn_loop (fun a' w' => ∃ (i : Nat) (u15 u65 u66 u84 u85 u86 u87 u88 : Value) (Ds : List Nat), a' = { tmps := #[.agg #[.string A, .string B], .agg #[.string S, .string X], .int .i64 most, .pointer (some ⟨B0, 0, none⟩), .pointer (some ⟨B1, 0, none⟩), undef, .pointer (some ⟨B2, 0, none⟩), .string S, .string X, .int .i64 k, .bool ok, .int .i64 k, .bool ok, .pointer (some ⟨BW, 0, none⟩), .func (.func 46) #[] #[.pointer (some ⟨BG, 0, none⟩), .pointer (some ⟨BG + 1, 0, none⟩)], u15, undef, .pointer (some ⟨B1, 0, none⟩), .string S, .pointer (some ⟨B1, 1, none⟩), .string X, .agg #[.string A, .string B], .string S, .string X, .slice (some ⟨WD.heap.size, 0, none⟩) 2 2, .bool true, .bool false, .bool false, .int .i64 most, .bool false, .bool false, undef, .tuple #[.int .i64 k, .bool ok], .agg #[.string A, .string B], .string S, .string X, .int .i64 most, .tuple #[.int .i64 k, .bool ok], .int .i64 k, .bool ok, .tuple #[.int .i64 k, .bool ok], .agg #[.string A, .string B], .string S, .string X, .int .i64 most, .tuple #[.int .i64 k, .bool ok], .int .i64 k, .bool ok, .int .i64 k, .int .i64 k, .bool false, .bool false, .bool ok, .bool ok, .bool false, .bool false, .agg #[.string A, .string B], .string S, .slice AL L.length cap, .agg #[.string A, .string B], .string S, .func (.func 46) #[] #[.pointer (some ⟨BG, 0, none⟩), .pointer (some ⟨BG + 1, 0, none⟩)], .func (.func 46) #[] #[.pointer (some ⟨BG, 0, none⟩), .pointer (some ⟨BG + 1, 0, none⟩)], .bool false, .int .i64 (i : Int), u65, u66, undef, undef, undef, undef, undef, undef, undef, undef, undef, undef, undef, undef, undef, undef, undef, undef, undef, u84, u85, u86, u87, u88, undef], defers := Ds.map fun D => { target := .collected D, args := #[] } } ∧ i ≤ 2 ∧ Ds.length = i ∧
    Hid (Bk w' BW #[.slice AL L.length cap] 45 ∧ Bk w' BG #[.string A, .string B] 24 ∧ Bk w' (BG + 1) #[.string S] 22 ∧ Below u4.heap.size u4 w' ∧ BW + 3 ≤ w'.heap.size ∧ (∀ D, D ∈ Ds → BW + 3 ≤ D ∧ D < w'.heap.size ∧ w'.heap[D]? = some (.deferred (some []))) ∧ Ds.Pairwise (fun a b => b < a)))
    (fun a' _ => 2 - (intOf (a'.tmps.getD 64 undef)).toNat) ?start ?round
  case start => exact ⟨0, _, _, _, _, _, _, _, _, [], rfl, by omega, rfl, Lib.hid ⟨kW, kG, kB, h4, by have := HZ.out; omega, fun D h => by simp at h, List.Pairwise.nil⟩⟩
  case round =>
  rintro a' w' ⟨i, u15, u65, u66, u84, u85, u86, u87, u88, Ds, rfl, hi2, hDl, HJ⟩
  clear kW kG kB h4 k0 k2
  by_cases hi : i < 2
  · have hx1 : decide ((i : Int) < 2) = true := by simp; omega
    have HI2 := Lib.hid (And.intro hi hDl)
    clear hi hi2 hDl
    gi_wp2_with fail
    obtain ⟨BN, eN⟩ : ∃ x, x = w'.heap.size := ⟨_, rfl⟩
    obtain ⟨WN, hWN⟩ : ∃ WN, WN = w'.alloc (.cells #[.int .i64 0] 3) := ⟨_, rfl⟩
    obtain ⟨kW, kG, kB, h4, hsz, hDs, hPW⟩ := HJ.out
    have kN : Bk WN BN #[.int .i64 0] 3 := by rw [hWN, eN]; exact Bk.new _ _ _
    have hbn : Below w'.heap.size w' WN := by rw [hWN]; exact (Below.refl _ w').alloc (Nat.le_refl _) _
    have hsN : WN.heap.size = BN + 1 := by rw [hWN, eN]; simp
    replace kW := kW.below hbn
    replace kG := kG.below hbn
    replace kB := kB.below hbn
    replace h4 := h4.trans (hbn.mono h4.size)
    have hDs2 : ∀ D, D ∈ Ds → BW + 3 ≤ D ∧ D < BN ∧ WN.heap[D]? = some (.deferred (some [])) := fun D hD => by
      obtain ⟨d1, d2, d3⟩ := hDs D hD
      exact ⟨d1, by rw [eN]; exact d2, (hbn.block D d2).trans d3⟩
    rw [← hWN, ← eN]
    have HN := Lib.hid (And.intro (show BW + 3 ≤ BN by omega) (And.intro hsN (And.intro hPW hDs2)))
    have hD0 := fun D hD => (hDs2 D hD).2.2
    clear hWN eN hbn hsN hsz hDs hPW hDs2 HJ
    refine range_B rfl (by omega) (gf := 46) (lb := #[.pointer (some ⟨BG, 0, none⟩), .pointer (some ⟨BG + 1, 0, none⟩)]) rfl trivial (enters_of Tryz.func46 (by kernel_rfl) rfl)
      (HQ.out BG (BG + 1) WN kG kB) (fun b hb => by have := HN.out.1; have := HN.out.2.1; have := HZ.out; simp at hb; omega) (Below.refl _ _) (fun _ => rfl)
      (fun pre W3 => Bk W3 BN #[.int .i64 (pre.length : Int)] 3 ∧ Bk W3 BW #[.slice AL L.length cap] 45 ∧ Bk W3 BG #[.string A, .string B] 24 ∧ Bk W3 (BG + 1) #[.string S] 22 ∧ Below u4.heap.size u4 W3 ∧ (∀ D, D ∈ Ds → W3.heap[D]? = some (.deferred (some []))) ∧ pre.length < 80)
      (fun c pre W3 => c = .exit 2 ∧ L.length = 80 ∧ Bk W3 BN #[.int .i64 80] 3 ∧ Bk W3 BW #[.slice AL L.length cap] 45 ∧ Bk W3 BG #[.string A, .string B] 24 ∧ Bk W3 (BG + 1) #[.string S] 22 ∧ Below u4.heap.size u4 W3 ∧ (∀ D, D ∈ Ds → W3.heap[D]? = some (.deferred (some []))))
      ?si ?sx ⟨kN, kW, kG, kB, h4, hD0, by simp⟩
      (fun y => { tmps := #[.agg #[.string A, .string B], .agg #[.string S, .string X], .int .i64 most, .pointer (some ⟨B0, 0, none⟩), .pointer (some ⟨B1, 0, none⟩), undef, .pointer (some ⟨B2, 0, none⟩), .string S, .string X, .int .i64 k, .bool ok, .int .i64 k, .bool ok, .pointer (some ⟨BW, 0, none⟩), .func (.func 46) #[] #[.pointer (some ⟨BG, 0, none⟩), .pointer (some ⟨BG + 1, 0, none⟩)], .pointer (some ⟨BN, 0, none⟩), .string (bs y), .pointer (some ⟨B1, 0, none⟩), .string S, .pointer (some ⟨B1, 1, none⟩), .string X, .agg #[.string A, .string B], .string S, .string X, .slice (some ⟨WD.heap.size, 0, none⟩) 2 2, .bool true, .bool false, .bool false, .int .i64 most, .bool false, .bool false, undef, .tuple #[.int .i64 k, .bool ok], .agg #[.string A, .string B], .string S, .string X, .int .i64 most, .tuple #[.int .i64 k, .bool ok], .int .i64 k, .bool ok, .tuple #[.int .i64 k, .bool ok], .agg #[.string A, .string B], .string S, .string X, .int .i64 most, .tuple #[.int .i64 k, .bool ok], .int .i64 k, .bool ok, .int .i64 k, .int .i64 k, .bool false, .bool false, .bool ok, .bool ok, .bool false, .bool false, .agg #[.string A, .string B], .string S, .slice AL L.length cap, .agg #[.string A, .string B], .string S, .func (.func 46) #[] #[.pointer (some ⟨BG, 0, none⟩), .pointer (some ⟨BG + 1, 0, none⟩)], .func (.func 46) #[] #[.pointer (some ⟨BG, 0, none⟩), .pointer (some ⟨BG + 1, 0, none⟩)], .bool false, .int .i64 (i : Int), .bool true, .func (.func 46) #[] #[.pointer (some ⟨BG, 0, none⟩), .pointer (some ⟨BG + 1, 0, none⟩)], .string (bs y), undef, undef, undef, undef, undef, undef, undef, undef, undef, undef, undef, undef, undef, undef, undef, undef, u84, u85, u86, u87, u88, undef], defers := [] }) ?assign ?body ?done ?stop
    case si =>
      rintro s X Y ⟨jN, jW, jG, jB, j4, jD, j80⟩ hXY
      have hN := HN.out
      have hZ := HZ.out
      have e4 := HEW.out
      exact ⟨(hXY.block BN (by omega)).trans jN, (hXY.block BW (by omega)).trans jW, (hXY.block BG (by omega)).trans jG, (hXY.block (BG + 1) (by omega)).trans jB, j4.trans (hXY.mono (by omega)), fun D hD => (hXY.block D (by have := hN.2.2.2 D hD; omega)).trans (jD D hD), j80⟩
    case sx =>
      rintro c s X Y ⟨jc, jL, jN, jW, jG, jB, j4, jD⟩ hXY
      have hN := HN.out
      have hZ := HZ.out
      have e4 := HEW.out
      exact ⟨jc, jL, (hXY.block BN (by omega)).trans jN, (hXY.block BW (by omega)).trans jW, (hXY.block BG (by omega)).trans jG, (hXY.block (BG + 1) (by omega)).trans jB, j4.trans (hXY.mono (by omega)), fun D hD => (hXY.block D (by have := hN.2.2.2 D hD; omega)).trans (jD D hD)⟩
    case assign =>
      intro l y W3 K hK
      gi_wp2
      exact hK
    case body =>
      rintro l pre x W3 ⟨jN, jW, jG, jB, j4, jD, j80⟩ hlen hgg hsz
      obtain ⟨hpl, hx⟩ := HGG.out.1 pre x hgg hlen j80
      obtain ⟨g, hAL, hg1, hg2, hg3⟩ := HCE.out pre.length hpl
      have cx : W3.cell? ⟨g, pre.length, none⟩ = some (.string (bs x)) := by
        rw [j4.cell (p := ⟨g, pre.length, none⟩) hg2, hg3, hx]
        simp [cellsS, hpl]
      have gl : g < W3.heap.size := Nat.lt_of_lt_of_le hg2 j4.size
      obtain ⟨n, hn⟩ : ∃ n, n = pre.length := ⟨_, rfl⟩
      rw [← hn] at cx jN j80 hpl
      have hge : decide ((L.length : Int) ≤ (n : Int)) = false := by simp; omega
      have wn : IntKind.i64.wrap ((n : Int) + 1) = (n : Int) + 1 := by rw [IntKind.wrap_i64] <;> omega
      have cN := jN.cell 0
      have fN := jN.frozen 0
      have lN := jN.lt
      have cW := jW.cell 0
      have lW := jW.lt
      have hN := HN.out
      have hZ := HZ.out
      have e4 := HEW.out
      have mN : BN < WN.heap.size := by omega
      have nbN : BN ∉ [BG, BG + 1] := by simp; omega
      have nW : BW ≠ BN := by omega
      have nW' : ¬ BN = BW := by omega
      have nG : BG ≠ BN := by omega
      have nB : BG + 1 ≠ BN := by omega
      have ngN : g ≠ BN := by omega
      have w4 : u4.heap.size ≤ BN := by omega
      have nD : ∀ D, D ∈ Ds → D ≠ BN := fun D hD => by have := hN.2.2.2 D hD; omega
      have HI := Lib.hid (And.intro jN (And.intro jW (And.intro jG (And.intro jB (And.intro j4 (And.intro jD (And.intro mN (And.intro nbN (And.intro nG (And.intro nB (And.intro w4 (And.intro nD (And.intro nW hn)))))))))))))
      have HX := Lib.hid (And.intro hx (And.intro hg1 (And.intro hg2 hg3)))
      have hL80 := HGG.out.2.2
      clear hx hg1 hg2 hg3 jN jW jG jB j4 jD mN nbN nG nB w4 nD hn hN hZ e4 hlen hgg hsz kW kG kB h4 hD0 kN
      subst hAL
      by_cases h79 : n = 79
      · subst h79
        have HL80 := Lib.hid (show L.length = 80 by omega)
        clear hL80 j80
        gi_wp2
        obtain ⟨jN, jW, jG, jB, j4, jD, mN, nbN, nG, nB, w4, nD, nW, hn⟩ := HI.out
        exact ⟨Kept.set _ _ mN nbN, rfl, HL80.out, jN.set 0 _, jW.far nW _, jG.far nG _, jB.far nB _, j4.setCell (p := ⟨BN, 0, none⟩) w4 _, fun D hD => (Below.heap_setCell _ _ _ D (nD D hD)).trans (jD D hD)⟩
      · have r0 : (((n : Int) + 1) == 80) = false := by simp; omega
        have HJ80 := Lib.hid (And.intro j80 h79)
        clear hL80 j80 h79
        gi_wp2
        obtain ⟨jN, jW, jG, jB, j4, jD, mN, nbN, nG, nB, w4, nD, nW, hn⟩ := HI.out
        have hjj := HJ80.out
        refine ⟨Kept.set _ _ mN nbN, ?_, jW.far nW _, jG.far nG _, jB.far nB _, j4.setCell (p := ⟨BN, 0, none⟩) w4 _, fun D hD => (Below.heap_setCell _ _ _ D (nD D hD)).trans (jD D hD), by rw [List.length_append, List.length_singleton]; omega⟩
        rw [List.length_append, List.length_singleton, ← hn, Int.natCast_add]
        exact jN.set 0 _
    case done =>
      rintro D ys W3 hD hSs ⟨jN, jW, jG, jB, j4, jD, j80⟩ hK
      rw [HGG.out.2.1 ys hSs j80] at jN
      have cN := jN.cell 0
      have cW := jW.cell 0
      have lN := jN.lt
      have lW := jW.lt
      have wi : IntKind.i64.wrap ((i : Int) + 1) = (i : Int) + 1 := by have := HI2.out.1; rw [IntKind.wrap_i64] <;> omega
      have hDz : D < W3.heap.size := (Array.getElem?_eq_some_iff.1 hK).1
      have HF := Lib.hid (And.intro jW (And.intro jG (And.intro jB (And.intro j4 (And.intro jD (And.intro hK (And.intro hD hDz)))))))
      clear jN jW jG jB j4 jD hK hD hDz kW kG kB h4 hD0 kN
      gi_wp2
      obtain ⟨jW, jG, jB, j4, jD, hK, hD, hDz⟩ := HF.out
      obtain ⟨n1, n2, n3, n4⟩ := HN.out
      have hi9 := HI2.out
      refine ⟨⟨i + 1, _, _, _, _, _, _, _, _, D :: Ds, rfl, by omega, by simp [hi9.2], Lib.hid ⟨jW, jG, jB, j4, by omega, ?_, List.pairwise_cons.2 ⟨fun b hb => by have := n4 b hb; omega, n3⟩⟩⟩, by simp [intOf]; omega⟩
      intro E hE
      rcases List.mem_cons.1 hE with rfl | hE
      · exact ⟨by omega, hDz, hK⟩
      · exact ⟨(n4 E hE).1, by have := n4 E hE; omega, jD E hE⟩
    case stop =>
      rintro D c pre W3 hD hSp ⟨rfl, jL, jN, jW, jG, jB, j4, jD⟩ hK
      rw [show (80 : Int) = (L.length : Int) from by omega] at jN
      have cN := jN.cell 0
      have cW := jW.cell 0
      have lN := jN.lt
      have lW := jW.lt
      have wi : IntKind.i64.wrap ((i : Int) + 1) = (i : Int) + 1 := by have := HI2.out.1; rw [IntKind.wrap_i64] <;> omega
      have hDz : D < W3.heap.size := (Array.getElem?_eq_some_iff.1 hK).1
      have HF := Lib.hid (And.intro jW (And.intro jG (And.intro jB (And.intro j4 (And.intro jD (And.intro hK (And.intro hD hDz)))))))
      clear jN jW jG jB j4 jD hK hD hDz kW kG kB h4 hD0 kN
      gi_wp2
      obtain ⟨jW, jG, jB, j4, jD, hK, hD, hDz⟩ := HF.out
      obtain ⟨n1, n2, n3, n4⟩ := HN.out
      have hi9 := HI2.out
      refine ⟨⟨i + 1, _, _, _, _, _, _, _, _, D :: Ds, rfl, by omega, by simp [hi9.2], Lib.hid ⟨jW, jG, jB, j4, by omega, ?_, List.pairwise_cons.2 ⟨fun b hb => by have := n4 b hb; omega, n3⟩⟩⟩, by simp [intOf]; omega⟩
      intro E hE
      rcases List.mem_cons.1 hE with rfl | hE
      · exact ⟨by omega, hDz, hK⟩
      · exact ⟨(n4 E hE).1, by have := n4 E hE; omega, jD E hE⟩
  · obtain rfl : i = 2 := by omega
    obtain ⟨D2, D1, rfl⟩ : ∃ D2 D1, Ds = [D2, D1] := by
      match Ds, hDl with
      | [a, b], _ => exact ⟨a, b, rfl⟩
    clear hi hi2 hDl
    obtain ⟨kW, kG, kB, h4, hsz, hDs, hPW⟩ := HJ.out
    have q2 := hDs D2 (by simp)
    have q1 := hDs D1 (by simp)
    have q3 : D1 < D2 := by simpa using hPW
    have k2 := HK2.out.1.below h4
    have HV := HK2.out.2.trans (h4.mono HK2.out.2.size)
    clear kW kG kB h4 hsz hDs hPW HJ
    gi_wp2_with ((with_reducible refine And.intro ?_ ?_); exact trivial)
    refine (callsIn_wide.2 (HW.out _)).mono ?_
    rintro e u5 ⟨rfl, hb⟩
    replace HV := HV.trans (hb.mono HV.size)
    replace k2 := k2.below hb
    have f2 := k2.frozen 0
    have c2 := k2.cell 0
    have l2 := k2.lt
    have hz := HZ.out
    have hK2 : u5.heap[D2]? = some (.deferred (some [])) := (hb.block D2 q2.2.1).trans q2.2.2
    have hK1 : u5.heap[D1]? = some (.deferred (some [])) := (hb.block D1 q1.2.1).trans q1.2.2
    have w2 : w.heap.size ≤ B2 := by have := HS0.out; omega
    have HI := Lib.hid (And.intro k2 (And.intro w2 (And.intro q1.1 (And.intro q2.1 (And.intro q3 (And.intro HV (And.intro hK1 hK2)))))))
    have HZ2 := Lib.hid hz
    clear k2 w2 q1 q2 q3 HV hK1 hK2 hz hb
    gi_wp2
    obtain ⟨k2, w2, q1, q2, q3, HV, hK1, hK2⟩ := HI.out
    have hz := HZ2.out
    have n21 : B2 ≠ D1 := by omega
    have n22 : B2 ≠ D2 := by omega
    have n12 : D2 ≠ D1 := by omega
    have wD1 : w.heap.size ≤ D1 := by omega
    have wD2 : w.heap.size ≤ D2 := by omega
    have hA2 : (u5.setCell ⟨B2, 0, none⟩ (.bool true)).heap[D2]? = some (.deferred (some [])) := (Below.heap_setCell _ _ _ D2 (fun h => n22 h.symm)).trans hK2
    have hA1 : ((u5.setCell ⟨B2, 0, none⟩ (.bool true)).putObj D2 (.deferred none)).heap[D1]? = some (.deferred (some [])) := (World.putObj_heap_other n12.symm).trans ((Below.heap_setCell _ _ _ D1 (fun h => n21 h.symm)).trans hK1)
    refine ⟨by simp, .inl ⟨_, _, rfl, run_takeDeferred hA2, ?_⟩⟩
    refine ⟨by simp, .inl ⟨_, _, rfl, run_takeDeferred hA1, ?_⟩⟩
    have b2 := (World.putObj_heap_other (o := .deferred none) n21).trans ((World.putObj_heap_other (o := .deferred none) n22).trans (k2.set 0 (.bool true)))
    have hc := Bk.cell b2 0
    exact ⟨.bool true, by simp [results, Tryz.f7, go_sem, hc], rfl, ((HV.setCell (p := ⟨B2, 0, none⟩) w2 _).trans (below_put _ wD2)).trans (below_put _ wD1)⟩
theorem pwL_getD {b p n i : Nat} (h : i < n) : (pwL b p n).getD i 0 = b ^ i % p := by simp [pwL, h]
theorem law_glog (A B S X : ByteArray) (most : Int) (w : World) (hA : A.size ≤ 9223372036854775807) (hB : B.size ≤ 9223372036854775807) (hS : S.size ≤ 9223372036854775807) (hX : X.size ≤ 9223372036854775807) (hm : -9223372036854775808 ≤ most ∧ most ≤ 9223372036854775807) :
    Calls Tryz.prog 7 #[.agg #[.string A, .string B], .agg #[.string S, .string X], .int .i64 most] w (Made w (.bool true)) := by
  obtain ⟨f, HF, hf⟩ := few9_two A B S X hA hB hS hX
  cases f with
  | false => exact glog_few A B S X most w HF
  | true =>
    by_cases h300 : 300 < most
    · exact glog_most A B S X most w HF h300
    obtain ⟨h8, _, _, _⟩ := hf rfl
    have no : (∀ W, Calls Tryz.prog 12 #[.agg #[.string A, .string B], .string S] W (Made W (.bool false))) → (∀ W, Calls Tryz.prog 13 #[.agg #[.string A, .string B], .string S] W (Made W (.bool false))) →
        Calls Tryz.prog 7 #[.agg #[.string A, .string B], .agg #[.string S, .string X], .int .i64 most] w (Made w (.bool true)) := fun g1 g2 =>
      glog_main A B S X most 0 false [] 0 (fun _ _ => True) (fun xs => xs = []) (fun _ => True) w HF (by omega) (fun W => plog_no1 A B S X most W g1) (fun W => rlog9_no A B S X most W g2)
        (fun W => (rel9_no A B S W g2).mono fun e w' ⟨h1, h2⟩ => ⟨_, h1, World.ownsRow_nil _ _ _ _, h2⟩)
        (fun BG BB W kG kB => elements_no 5 BG BB 0 A B S _ _ W (by omega) kG kB g1) (fun _ _ _ h => absurd h (by omega)) (fun xs h _ => by rw [h]) (by decide)
    rcases vS : (validB A && validB B && validB S) with _ | _
    · exact no (fun W => has_no A B S W hA hB hS vS) (fun W => rhas_no A B S W hA hB hS vS)
    simp only [Bool.and_eq_true] at vS
    obtain ⟨⟨vA, vB⟩, vS⟩ := vS
    obtain ⟨p, hp, rfl⟩ := bs_of_valid vA
    obtain ⟨q, hq, rfl⟩ := bs_of_valid vB
    obtain ⟨b, hb, rfl⟩ := bs_of_valid vS
    rw [bs_le] at h8
    have hh := fun W => has_ok p q b W hp hq hb
    have rh := fun W => rhas_ok p q b W h8 hq hb
    rcases nb : hasN p q b with _ | _
    · rw [nb] at hh rh
      exact no hh rh
    rw [nb] at hh rh
    clear no
    obtain ⟨hq0, _, hbp, hone⟩ := hasN_iff.1 nb
    have hp2 : 2 ≤ p := by
      rcases (show p = 0 ∨ p = 1 ∨ 2 ≤ p by omega) with h4 | h4 | h4
      · omega
      · subst h4; omega
      · exact h4
    obtain ⟨d, ho, _⟩ := ord_ex hq0 hone
    have yes : ∀ (k : Int) (ok : Bool), (∀ W, Calls Tryz.prog 20 #[.agg #[.string (bs p), .string (bs q)], .string (bs b), .string X, .int .i64 most] W (Made W (.tuple #[.int .i64 k, .bool ok]))) →
        (∀ W, Calls Tryz.prog 21 #[.agg #[.string (bs p), .string (bs q)], .string (bs b), .string X, .int .i64 most] W (Made W (.tuple #[.int .i64 k, .bool ok]))) →
        Calls Tryz.prog 7 #[.agg #[.string (bs p), .string (bs q)], .agg #[.string (bs b), .string X], .int .i64 most] w (Made w (.bool true)) := fun k ok g1 g2 =>
      glog_main _ _ _ X most k ok (pwL b p (min d 80)) (min d 65536) (pwG b p) _ _ w HF (by omega) g1 g2
        (fun W => (rel9_ok p q b d W h8 hb hp2 ho rh).mono fun e w' ⟨v, h1, h2, h3⟩ => ⟨v, h1, by rw [pwL_length]; exact h2, h3⟩)
        (fun BG BB W kG kB => elements_seq 5 BG BB p q b d W (by omega) hp hb hp2 ho kG kB hh)
        (fun pre x hg h1 h2 => ⟨by rw [pwL_length]; omega, by rw [pwL_getD (by omega)]; exact hg.2⟩)
        (fun xs h1 h2 => by rw [h1, pwL_length] at h2 ⊢; rw [pwL_length]; omega) (by rw [pwL_length]; omega)
    rcases vX : validB X with _ | _
    · exact yes 0 false (fun W => plog_no _ _ _ X most W hh (fun W => has_no _ _ X W hA hB hX (by rw [vX]; simp))) (fun W => rlog9_no2 _ _ _ X most W rh (fun W => rhas_no _ _ X W hA hB hX (by rw [vX]; simp)))
    obtain ⟨x, hx, rfl⟩ := bs_of_valid vX
    have gx := fun W => has_ok p q x W hp hq hx
    have rx := fun W => rhas_ok p q x W h8 hq hx
    rcases nx : hasN p q x with _ | _
    · rw [nx] at gx rx
      exact yes 0 false (fun W => plog_no _ _ _ _ most W hh gx) (fun W => rlog9_no2 _ _ _ _ most W rh rx)
    rw [nx] at gx rx
    obtain ⟨k, ok, hR⟩ := logR_ex b p x most
    exact yes k ok (fun W => plog_ok p q b x d most k ok W hp hb hp2 ho hR (by omega) hm.1 hh gx) (fun W => rlog9_ok p q b x most k ok W h8 hb hp2 hR (by omega) hm.1 rh rx)
end Go.Proofs.YtmiafkbjmkaebaaGreat
