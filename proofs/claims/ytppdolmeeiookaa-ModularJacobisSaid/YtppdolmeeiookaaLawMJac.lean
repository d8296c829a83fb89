/-
  The law of dominolaw03.ModularJacobis.
-/
import Derived.Test.YtppdolmeeiookaaModX
import Derived.Test.YtppdolmeeiookaaModAB
namespace Go.Proofs.Ytppdolmeeiookaa
open Go.RowKit Num

theorem chk_two {v em : Bool} (h : v = false ∨ em = true) : (v = false ∧ chkE v em = 3) ∨ (v = true ∧ em = true ∧ chkE v em = 11) := by
  unfold chkE
  cases v <;> cases em <;> simp_all

set_option maxHeartbeats 1000000 in
set_option maxRecDepth 100000 in
/-- Both Jacobi where an argument is not canonical or the modulus is 0. -/
theorem jac_err (s t : ByteArray) (v em : Bool) (hs : s.size ≤ 9223372036854775807) (ht : t.size ≤ 9223372036854775807) (hv : (validB s && validB t) = v) (hem : t.toList.isEmpty = em) (h : v = false ∨ em = true) :
    ∃ c : Int, (∀ w, Calls Try.prog 11 #[.string s, .string t] w (Made w (.tuple #[.int .i64 0, .int .i64 c]))) ∧ (∀ w, Calls Try.prog 12 #[.string s, .string t] w (Made w (.tuple #[.int .i64 0, .int .i64 c]))) := by
  have hvi : v = true ↔ validB s = true ∧ validB t = true := by rw [← hv]; simp
  have HC := Lib.hid (fun (W : World) (g : Nat) (h1 : W.cell? ⟨g, 0, none⟩ = some (.string s)) (h3 : g < W.heap.size) => mcheck_any t 1 (fun _ => s) g W v em ht (by omega) (fun _ _ => hs) (fun i hi => by
    obtain rfl : i = 0 := by omega
    exact h1) h3 ⟨fun h => ⟨fun _ _ => (hvi.1 h).1, (hvi.1 h).2⟩, fun h => hvi.2 ⟨h.1 0 (by omega), h.2⟩⟩ (fun _ => hem))
  have HD := Lib.hid (fun (W : World) (g : Nat) (h1 : W.cell? ⟨g, 0, none⟩ = some (.string s)) (h2 : W.cell? ⟨g, 1, none⟩ = some (.string t)) (h3 : g < W.heap.size) => rcheck_any 2 (fun i => if i = 0 then s else t) g W v em (.inl rfl) (fun i _ => by split <;> assumption) (fun i hi => by
    rcases (show i = 0 ∨ i = 1 by omega) with rfl | rfl
    · exact h1
    · exact h2) h3 ⟨fun h i _ => by split; exact (hvi.1 h).1; exact (hvi.1 h).2, fun h => hvi.2 ⟨h 0 (by omega), h 1 (by omega)⟩⟩ (fun _ => hem))
  refine ⟨chkE v em, fun w => ?_, fun w => ?_⟩
  · clear HD hv hvi hem
    rcases chk_two h with ⟨_, hc⟩ | ⟨_, _, hc⟩
    all_goals
      rw [hc] at HC ⊢
      clear hc h
      go_enter Try.func11, Try.ntmps11
      go_wp2_with fail
      have K0 := Bk.new w #[.string s] 24
      refine (HC.out _ _ (K0.cell 0) K0.lt).mono ?_
      rintro e w' ⟨rfl, rfl⟩
      have HV : Below w.heap.size w (w.alloc (.cells #[.string s] 24)) := (Below.refl _ _).alloc (Nat.le_refl _) _
      go_wp2
      go_ret2
      exact ⟨rfl, HV⟩
  · clear HC hv hvi hem
    rcases chk_two h with ⟨_, hc⟩ | ⟨_, _, hc⟩
    all_goals
      rw [hc] at HD ⊢
      clear hc h
      go_enter Try.func12, Try.ntmps12
      go_wp2_with fail
      have K0 := Bk.new w #[.string s, .string t] 24
      refine (HD.out _ _ (K0.cell 0) (K0.cell 1) K0.lt).mono ?_
      rintro e w' ⟨rfl, rfl⟩
      have HV : Below w.heap.size w (w.alloc (.cells #[.string s, .string t] 24)) := (Below.refl _ _).alloc (Nat.le_refl _) _
      go_wp2
      go_ret2
      exact ⟨rfl, HV⟩

set_option maxHeartbeats 1000000 in
set_option maxRecDepth 100000 in
/-- Both Jacobi at an even modulus. -/
theorem jac_even (a n : Nat) (ha : a < Top) (hn : n < Top) (h0 : n ≠ 0) (he : n % 2 = 0) :
    (∀ w, Calls Try.prog 11 #[.string (bs a), .string (bs n)] w (Made w (.tuple #[.int .i64 0, .int .i64 1]))) ∧ (∀ w, Calls Try.prog 12 #[.string (bs a), .string (bs n)] w (Made w (.tuple #[.int .i64 0, .int .i64 1]))) := by
  have HC : Hid (∀ (W : World) (g : Nat), W.cell? ⟨g, 0, none⟩ = some (.string (bs a)) → g < W.heap.size → Calls Try.prog 24 #[.string (bs n), .slice (some ⟨g, 0, none⟩) 1 1] W (Same W (.int .i64 0))) := Lib.hid (fun W g h1 h3 => mcheck1 a n ha h0 hn W g h1 h3)
  have HD : Hid (∀ (W : World) (g : Nat), W.cell? ⟨g, 0, none⟩ = some (.string (bs a)) → W.cell? ⟨g, 1, none⟩ = some (.string (bs n)) → g < W.heap.size → Calls Try.prog 36 #[.slice (some ⟨g, 0, none⟩) 2 2] W (Same W (.int .i64 0))) := Lib.hid (fun (W : World) (g : Nat) (h1 : W.cell? ⟨g, 0, none⟩ = some (.string (bs a))) (h2 : W.cell? ⟨g, 1, none⟩ = some (.string (bs n))) (h3 : g < W.heap.size) => rcheck_any 2 (fun i => if i = 0 then bs a else bs n) g W true false (.inl rfl) (fun i _ => by have := bs_small ha; have := bs_small hn; split <;> omega) (fun i hi => by
    rcases (show i = 0 ∨ i = 1 by omega) with rfl | rfl
    · exact h1
    · exact h2) h3 ⟨fun _ i _ => by split <;> exact bs_valid ‹_›, fun _ => rfl⟩ (fun _ => by show (bs n).toList.isEmpty = false; rw [bs_isEmpty]; exact beq_false_of_ne h0))
  have hb : bitB n 0 = false := by unfold bitB; rw [Nat.pow_zero, Nat.div_one, he]; rfl
  have HB1 : Hid (∀ W, Calls Try.prog 33 #[.string (bs n), .int .i64 0] W (Same W (.bool false))) := Lib.hid (fun W => by have := bit_all hn 0 W; rw [hb] at this; exact this)
  have HB2 : Hid (∀ W, Calls Try.prog 37 #[.string (bs n), .int .i64 0] W (Same W (.bool false))) := Lib.hid (fun W => by have := bitR_all hn 0 W; rw [hb] at this; exact this)
  clear ha hn h0 he hb
  refine ⟨fun w => ?_, fun w => ?_⟩
  · go_enter Try.func11, Try.ntmps11
    go_wp2_with fail
    have K0 := Bk.new w #[.string (bs a)] 24
    refine (HC.out _ _ (K0.cell 0) K0.lt).mono ?_
    rintro e w' ⟨rfl, rfl⟩
    have HV : Below w.heap.size w (w.alloc (.cells #[.string (bs a)] 24)) := (Below.refl _ _).alloc (Nat.le_refl _) _
    go_wp2_with fail
    refine (HB1.out _).mono ?_
    rintro e w' ⟨rfl, rfl⟩
    go_wp2
    go_ret2
    exact ⟨rfl, HV⟩
  · go_enter Try.func12, Try.ntmps12
    go_wp2_with fail
    have K0 := Bk.new w #[.string (bs a), .string (bs n)] 24
    refine (HD.out _ _ (K0.cell 0) (K0.cell 1) K0.lt).mono ?_
    rintro e w' ⟨rfl, rfl⟩
    have HV : Below w.heap.size w (w.alloc (.cells #[.string (bs a), .string (bs n)] 24)) := (Below.refl _ _).alloc (Nat.le_refl _) _
    go_wp2_with fail
    refine (HB2.out _).mono ?_
    rintro e w' ⟨rfl, rfl⟩
    go_wp2
    go_ret2
    exact ⟨rfl, HV⟩

set_option maxHeartbeats 1000000 in
set_option maxRecDepth 100000 in
theorem jacs_core (s t : ByteArray) (x c : Int) (w : World) (hs : s.size ≤ 24) (ht : t.size ≤ 12)
    (h1 : ∀ w, Calls Try.prog 11 #[.string s, .string t] w (Made w (.tuple #[.int .i64 x, .int .i64 c])))
    (h2 : ∀ w, Calls Try.prog 12 #[.string s, .string t] w (Made w (.tuple #[.int .i64 x, .int .i64 c]))) :
    Calls Try.prog 4 #[.string s, .string t] w (Made w (.bool true)) := by
  have H1 := Lib.hid h1
  have H2 := Lib.hid h2
  have HW := Lib.hid awake3
  clear h1 h2
  go_enter Try.func4, Try.ntmps4
  go_wp2_with fail
  refine (H1.out _).mono ?_
  rintro e w1 ⟨rfl, HB⟩
  go_wp2_with fail
  refine (H2.out _).mono ?_
  rintro e w2 ⟨rfl, hb⟩
  replace HB := HB.trans (hb.mono HB.size)
  clear hb
  go_wp2_with fail
  refine (HW.out _).mono ?_
  rintro e w3 ⟨rfl, hb⟩
  replace HB := HB.trans (hb.mono HB.size)
  clear hb
  go_wp2
  go_ret
  exact ⟨rfl, HB⟩

set_option maxHeartbeats 1000000 in
set_option maxRecDepth 100000 in
theorem jacs_long (s t : ByteArray) (w : World) (hs : s.size ≤ 9223372036854775807) (ht : t.size ≤ 9223372036854775807) (h : 24 < s.size ∨ (s.size ≤ 24 ∧ 12 < t.size)) :
    Calls Try.prog 4 #[.string s, .string t] w (Made w (.bool true)) := by
  have HW := Lib.hid awake3
  rcases h with h | ⟨h, h'⟩
  all_goals
    go_enter Try.func4, Try.ntmps4
    go_wp2_with fail
    refine (HW.out _).mono ?_
    rintro e w3 ⟨rfl, hb⟩
    go_wp2
    go_ret
    exact ⟨rfl, hb⟩

theorem law_mjac (s t : ByteArray) (w : World) (hs : s.size ≤ 9223372036854775807) (ht : t.size ≤ 9223372036854775807) :
    Calls Try.prog 4 #[.string s, .string t] w (Made w (.bool true)) := by
  by_cases h1 : s.size ≤ 24
  · by_cases h2 : t.size ≤ 12
    · rcases hv : (validB s && validB t) with _ | _
      · obtain ⟨c, g1, g2⟩ := jac_err s t false _ hs ht hv rfl (.inl rfl)
        exact jacs_core s t 0 c w h1 h2 g1 g2
      · rcases hem : t.toList.isEmpty with _ | _
        · simp only [Bool.and_eq_true] at hv
          obtain ⟨a, ha, rfl⟩ := bs_of_valid hv.1
          obtain ⟨n, hn, rfl⟩ := bs_of_valid hv.2
          rw [bs_isEmpty] at hem
          have h0 : n ≠ 0 := by simpa using hem
          rcases (show n % 2 = 0 ∨ n % 2 = 1 by omega) with he | ho
          · obtain ⟨g1, g2⟩ := jac_even a n ha hn h0 he
            exact jacs_core _ _ 0 1 w h1 h2 g1 g2
          · exact jacs_core _ _ _ 0 w h1 h2 (fun W => mjacobi_ok a n W ha hn ho) (fun W => rjacobi_ok a n W ha hn ho)
        · obtain ⟨c, g1, g2⟩ := jac_err s t true true hs ht hv hem (.inr rfl)
          exact jacs_core s t 0 c w h1 h2 g1 g2
    · exact jacs_long s t w hs ht (.inr ⟨h1, by omega⟩)
  · exact jacs_long s t w hs ht (.inl (by omega))
end Go.Proofs.Ytppdolmeeiookaa
