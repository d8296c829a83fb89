/-
  The law of dominolaw03.ModularRing.
-/
import Derived.Test.YtppdolmeeiookaaModX
import Derived.Test.YtppdolmeeiookaaModY
namespace Go.Proofs.Ytppdolmeeiookaa
open Go.RowKit Num

set_option maxHeartbeats 1000000 in
set_option maxRecDepth 100000 in
/-- Too long: only the examples. -/
theorem ring_long (s t A B E M : ByteArray) (q : Bool) (w : World) (hs : s.size ≤ 9223372036854775807) (ht : t.size ≤ 9223372036854775807) (hA : A.size ≤ 9223372036854775807) (hB : B.size ≤ 9223372036854775807) (hE : E.size ≤ 9223372036854775807) (hM : M.size ≤ 9223372036854775807) (r : Bool)
    (hr : (decide (A.size ≤ 24) && decide (B.size ≤ 24) && decide (E.size ≤ 16) && decide (M.size ≤ 8)) = r) (h : r = false ∨ (r = true ∧ 24 < s.size) ∨ (r = true ∧ s.size ≤ 24 ∧ 24 < t.size)) :
    Calls Try.prog 6 #[.string s, .string t, .agg #[.string A, .string B, .bool q, .string E, .string M]] w (Made w (.bool true)) := by
  have HF := Lib.hid (fun W => few3_any A B E M q W hA hB hE hM r hr)
  have HW := Lib.hid awake3
  clear hA hB hE hM hr
  have HV := (Below.refl w.heap.size w).alloc (Nat.le_refl _) (.cells #[.string A, .string B, .bool q, .string E, .string M] 41)
  rcases h with rfl | ⟨rfl, h⟩ | ⟨rfl, h, h'⟩
  all_goals
    go_enter Try.func6, Try.ntmps6
    go_wp2_with fail
    refine (HF.out _).mono ?_
    rintro e u1 ⟨rfl, hb⟩
    replace HV := HV.trans (hb.mono HV.size)
    clear hb
    go_wp2_with fail
    refine (HW.out _).mono ?_
    rintro e ua ⟨rfl, hb⟩
    replace HV := HV.trans (hb.mono HV.size)
    go_wp2
    go_ret
    exact ⟨rfl, HV⟩

theorem ring_back (a b m : Nat) (h0 : m ≠ 0) : ((a + b) % m % m + (m - b % m)) % m = a % m := by
  have hb := Nat.mod_lt b (show 0 < m by omega)
  rw [Nat.mod_mod, Nat.mod_add_mod]
  rw [show a + b + (m - b % m) = a + (b - b % m) + m from by have := Nat.mod_le b m; omega, Nat.add_mod_right]
  have : m ∣ b - b % m := Nat.dvd_sub_mod b
  obtain ⟨k, hk⟩ := this
  rw [hk, Nat.add_mul_mod_self_left]
theorem ring_left (A a b m : Nat) : (A * a % m + A * b % m) % m = A * ((a + b) % m) % m := by
  rw [← Nat.add_mod, ← Nat.mul_add, Nat.mul_mod A ((a + b) % m), Nat.mod_mod, ← Nat.mul_mod]
theorem ring_two (A a b m : Nat) : A * a % m * b % m = A * (a * b % m) % m := by
  rw [Nat.mul_mod (A * a % m), Nat.mod_mod, ← Nat.mul_mod, Nat.mul_mod A (a * b % m), Nat.mod_mod, ← Nat.mul_mod, Nat.mul_assoc]

set_option maxHeartbeats 2000000 in
set_option maxRecDepth 100000 in
/-- Not canonical, or the modulus is 0: only the examples. -/
theorem ring_bad (s t A B E M : ByteArray) (q : Bool) (w : World) (hs : s.size ≤ 24) (ht : t.size ≤ 24) (hA : A.size ≤ 9223372036854775807) (hB : B.size ≤ 9223372036854775807) (hE : E.size ≤ 9223372036854775807) (hM : M.size ≤ 9223372036854775807)
    (hr : (decide (A.size ≤ 24) && decide (B.size ≤ 24) && decide (E.size ≤ 16) && decide (M.size ≤ 8)) = true) (vs vt vA vM em : Bool) (hvs : validB s = vs) (hvt : validB t = vt) (hvA : validB A = vA) (hvM : validB M = vM) (hem : M.toList.isEmpty = em)
    (h : (vs && vt && vA && vM && !em) = false) :
    Calls Try.prog 6 #[.string s, .string t, .agg #[.string A, .string B, .bool q, .string E, .string M]] w (Made w (.bool true)) := by
  have HF := Lib.hid (fun W => few3_any A B E M q W hA hB hE hM true hr)
  have HW := Lib.hid awake3
  have Vs := Lib.hid (fun W => rvalid_any s W (by omega))
  have Vt := Lib.hid (fun W => rvalid_any t W (by omega))
  have VA := Lib.hid (fun W => rvalid_any A W hA)
  have VM := Lib.hid (fun W => rvalid_any M W hM)
  rw [hvs] at Vs
  rw [hvt] at Vt
  rw [hvA] at VA
  rw [hvM] at VM
  clear hA hB hE hM hr hvs hvt hvA hvM
  have HV := (Below.refl w.heap.size w).alloc (Nat.le_refl _) (.cells #[.string A, .string B, .bool q, .string E, .string M] 41)
  have K := Bk.new w #[.string A, .string B, .bool q, .string E, .string M] 41
  have h5 : vs = false ∨ (vs = true ∧ vt = false) ∨ (vs = true ∧ vt = true ∧ vA = false) ∨ (vs = true ∧ vt = true ∧ vA = true ∧ vM = false) ∨ (vs = true ∧ vt = true ∧ vA = true ∧ vM = true ∧ em = true) := by
    revert h
    cases vs <;> cases vt <;> cases vA <;> cases vM <;> cases em <;> simp
  clear h
  rcases h5 with rfl | ⟨rfl, rfl⟩ | ⟨rfl, rfl, rfl⟩ | ⟨rfl, rfl, rfl, rfl⟩ | ⟨rfl, rfl, rfl, rfl, rfl⟩
  all_goals
    go_enter Try.func6, Try.ntmps6
    go_wp2_with fail
    refine (HF.out _).mono ?_
    rintro e u1 ⟨rfl, hb⟩
    replace HV := HV.trans (hb.mono HV.size)
    replace K := K.below hb
    clear hb
    have c0 : u1.cell? ⟨w.heap.size, 0, none⟩ = some (.string A) := K.cell 0
    have c4 : u1.cell? ⟨w.heap.size, 4, none⟩ = some (.string M) := K.cell 4
    have l0 := K.lt
    go_wp2_with (first
      | (go_at_call 15; (with_reducible refine (Vs.out _).mono ?_); rintro e w' ⟨rfl, rfl⟩)
      | (go_at_call 15; (with_reducible refine (Vt.out _).mono ?_); rintro e w' ⟨rfl, rfl⟩)
      | (go_at_call 15; (with_reducible refine (VA.out _).mono ?_); rintro e w' ⟨rfl, rfl⟩)
      | (go_at_call 15; (with_reducible refine (VM.out _).mono ?_); rintro e w' ⟨rfl, rfl⟩)
      | (go_at_call 10; refine (HW.out _).mono ?_; rintro e ua ⟨rfl, hb⟩; replace HV := HV.trans (hb.mono HV.size); clear hb))
    go_ret
    exact ⟨rfl, HV⟩

set_option maxHeartbeats 4000000 in
set_option maxRecDepth 100000 in
/-- The law where all is canonical. -/
theorem ring_good (a b c m : Nat) (B E : ByteArray) (q : Bool) (w : World) (ha : a < 256 ^ 24) (hb : b < 256 ^ 24) (hc : c < 256 ^ 24) (hm : m < 256 ^ 8) (h0 : m ≠ 0) (hB : B.size ≤ 24) (hE : E.size ≤ 16) :
    Calls Try.prog 6 #[.string (bs a), .string (bs b), .agg #[.string (bs c), .string B, .bool q, .string E, .string (bs m)]] w (Made w (.bool true)) := by
  have hs1 : (bs a).size ≤ 24 := by rw [bs_le]; exact ha
  have hs2 : (bs b).size ≤ 24 := by rw [bs_le]; exact hb
  have hs3 : (bs c).size ≤ 24 := by rw [bs_le]; exact hc
  have hs4 : (bs m).size ≤ 8 := by rw [bs_le]; exact hm
  have hT : m < Top := lt_topk hm (by decide)
  have ta := lt_topk ha (by decide)
  have tb := lt_topk hb (by decide)
  have tc := lt_topk hc (by decide)
  have HF := Lib.hid (fun W => few3_any (bs c) B E (bs m) q W (by omega) (by omega) (by omega) (by omega) true (by simp [hs3, hB, hE, hs4]))
  have HW := Lib.hid awake3
  have Va := Lib.hid (fun W => rvalid_yes ta W)
  have Vb := Lib.hid (fun W => rvalid_yes tb W)
  have Vc := Lib.hid (fun W => rvalid_yes tc W)
  have Vm := Lib.hid (fun W => rvalid_yes hT W)
  have HM := Lib.hid (fun W => rmod3 a m W ta hT h0)
  have hz : (bs m).toList.isEmpty = false := by rw [bs_isEmpty]; exact beq_false_of_ne h0
  have lt : ∀ x, x % m < Top := fun x => Nat.lt_trans (Nat.mod_lt x (Nat.pos_of_ne_zero h0)) hT
  obtain ⟨S, hS⟩ : ∃ S, S = (a + b) % m := ⟨_, rfl⟩
  obtain ⟨P, hP⟩ : ∃ P, P = a * b % m := ⟨_, rfl⟩
  obtain ⟨U, hU⟩ : ∃ U, U = c * a % m := ⟨_, rfl⟩
  obtain ⟨V, hV⟩ : ∃ V, V = c * b % m := ⟨_, rfl⟩
  obtain ⟨L, hL⟩ : ∃ L, L = c * S % m := ⟨_, rfl⟩
  obtain ⟨O, hO⟩ : ∃ O, O = c * P % m := ⟨_, rfl⟩
  have tS : S < Top := hS ▸ lt _
  have tP : P < Top := hP ▸ lt _
  have tU : U < Top := hU ▸ lt _
  have tV : V < Top := hV ▸ lt _
  have C1 : Hid (∀ W, Calls Try.prog 16 #[.string (bs a), .string (bs b), .string (bs m)] W (Made W (.tuple #[.string (bs S), .int .i64 0]))) := Lib.hid (fun W => by rw [hS]; exact madd_ok a b m W ta tb h0 hT)
  have C2 : Hid (∀ W, Calls Try.prog 16 #[.string (bs b), .string (bs a), .string (bs m)] W (Made W (.tuple #[.string (bs S), .int .i64 0]))) := Lib.hid (fun W => by rw [hS, Nat.add_comm]; exact madd_ok b a m W tb ta h0 hT)
  have C3 : Hid (∀ W, Calls Try.prog 17 #[.string (bs S), .string (bs b), .string (bs m)] W (Made W (.tuple #[.string (bs (a % m)), .int .i64 0]))) := Lib.hid (fun W => by have := msub_ok S b m W tS tb h0 hT; rwa [show (S % m + (m - b % m)) % m = a % m from by rw [hS]; exact ring_back a b m h0] at this)
  have C4 : Hid (∀ W, Calls Try.prog 18 #[.string (bs a), .string (bs b), .string (bs m)] W (Made W (.tuple #[.string (bs P), .int .i64 0]))) := Lib.hid (fun W => by rw [hP]; exact mmul_ok a b m W ta tb h0 hT)
  have C5 : Hid (∀ W, Calls Try.prog 18 #[.string (bs b), .string (bs a), .string (bs m)] W (Made W (.tuple #[.string (bs P), .int .i64 0]))) := Lib.hid (fun W => by rw [hP, Nat.mul_comm]; exact mmul_ok b a m W tb ta h0 hT)
  have C6 : Hid (∀ W, Calls Try.prog 18 #[.string (bs c), .string (bs S), .string (bs m)] W (Made W (.tuple #[.string (bs L), .int .i64 0]))) := Lib.hid (fun W => by rw [hL]; exact mmul_ok c S m W tc tS h0 hT)
  have C7 : Hid (∀ W, Calls Try.prog 18 #[.string (bs c), .string (bs a), .string (bs m)] W (Made W (.tuple #[.string (bs U), .int .i64 0]))) := Lib.hid (fun W => by rw [hU]; exact mmul_ok c a m W tc ta h0 hT)
  have C8 : Hid (∀ W, Calls Try.prog 18 #[.string (bs c), .string (bs b), .string (bs m)] W (Made W (.tuple #[.string (bs V), .int .i64 0]))) := Lib.hid (fun W => by rw [hV]; exact mmul_ok c b m W tc tb h0 hT)
  have C9 : Hid (∀ W, Calls Try.prog 16 #[.string (bs U), .string (bs V), .string (bs m)] W (Made W (.tuple #[.string (bs L), .int .i64 0]))) := Lib.hid (fun W => by have := madd_ok U V m W tU tV h0 hT; rwa [show (U + V) % m = L from by rw [hU, hV, hL, hS]; exact ring_left c a b m] at this)
  have C10 : Hid (∀ W, Calls Try.prog 18 #[.string (bs c), .string (bs P), .string (bs m)] W (Made W (.tuple #[.string (bs O), .int .i64 0]))) := Lib.hid (fun W => by rw [hO]; exact mmul_ok c P m W tc tP h0 hT)
  have C11 : Hid (∀ W, Calls Try.prog 18 #[.string (bs U), .string (bs b), .string (bs m)] W (Made W (.tuple #[.string (bs O), .int .i64 0]))) := Lib.hid (fun W => by have := mmul_ok U b m W tU tb h0 hT; rwa [show U * b % m = O from by rw [hU, hO, hP]; exact ring_two c a b m] at this)
  obtain ⟨R, hR⟩ : ∃ R, R = a % m := ⟨_, rfl⟩
  rw [← hR] at C3 HM
  clear hR hS hP hU hV hL hO tS tP tU tV lt ta tb tc hT h0 ha hb hc hm
  have HV := (Below.refl w.heap.size w).alloc (Nat.le_refl _) (.cells #[.string (bs c), .string B, .bool q, .string E, .string (bs m)] 41)
  have K := Bk.new w #[.string (bs c), .string B, .bool q, .string E, .string (bs m)] 41
  go_enter Try.func6, Try.ntmps6
  go_wp2_with fail
  refine (HF.out _).mono ?_
  rintro e u1 ⟨rfl, hb⟩
  replace HV := HV.trans (hb.mono HV.size)
  replace K := K.below hb
  clear hb
  have c0 : u1.cell? ⟨w.heap.size, 0, none⟩ = some (.string (bs c)) := K.cell 0
  have c4 : u1.cell? ⟨w.heap.size, 4, none⟩ = some (.string (bs m)) := K.cell 4
  have l0 := K.lt
  go_wp2_with fail
  refine (Va.out _).mono ?_
  rintro e w' ⟨rfl, rfl⟩
  go_wp2_with fail
  refine (Vb.out _).mono ?_
  rintro e w' ⟨rfl, rfl⟩
  go_wp2_with fail
  refine (Vc.out _).mono ?_
  rintro e w' ⟨rfl, rfl⟩
  go_wp2_with fail
  refine (Vm.out _).mono ?_
  rintro e w' ⟨rfl, rfl⟩
  go_wp2_with fail
  refine (C1.out _).mono ?_
  rintro e u2 ⟨rfl, hb⟩
  replace HV := HV.trans (hb.mono HV.size)
  replace K := K.below hb
  clear hb
  clear c0 c4 l0
  have c0 : u2.cell? ⟨w.heap.size, 0, none⟩ = some (.string (bs c)) := K.cell 0
  have c4 : u2.cell? ⟨w.heap.size, 4, none⟩ = some (.string (bs m)) := K.cell 4
  have l0 := K.lt
  go_wp2_with fail
  refine (C2.out _).mono ?_
  rintro e u3 ⟨rfl, hb⟩
  replace HV := HV.trans (hb.mono HV.size)
  replace K := K.below hb
  clear hb
  clear c0 c4 l0
  have c0 : u3.cell? ⟨w.heap.size, 0, none⟩ = some (.string (bs c)) := K.cell 0
  have c4 : u3.cell? ⟨w.heap.size, 4, none⟩ = some (.string (bs m)) := K.cell 4
  have l0 := K.lt
  go_wp2_with fail
  refine (C3.out _).mono ?_
  rintro e u4 ⟨rfl, hb⟩
  replace HV := HV.trans (hb.mono HV.size)
  replace K := K.below hb
  clear hb
  clear c0 c4 l0
  have c0 : u4.cell? ⟨w.heap.size, 0, none⟩ = some (.string (bs c)) := K.cell 0
  have c4 : u4.cell? ⟨w.heap.size, 4, none⟩ = some (.string (bs m)) := K.cell 4
  have l0 := K.lt
  go_wp2_with fail
  refine (C4.out _).mono ?_
  rintro e u5 ⟨rfl, hb⟩
  replace HV := HV.trans (hb.mono HV.size)
  replace K := K.below hb
  clear hb
  clear c0 c4 l0
  have c0 : u5.cell? ⟨w.heap.size, 0, none⟩ = some (.string (bs c)) := K.cell 0
  have c4 : u5.cell? ⟨w.heap.size, 4, none⟩ = some (.string (bs m)) := K.cell 4
  have l0 := K.lt
  go_wp2_with fail
  refine (C5.out _).mono ?_
  rintro e u6 ⟨rfl, hb⟩
  replace HV := HV.trans (hb.mono HV.size)
  replace K := K.below hb
  clear hb
  clear c0 c4 l0
  have c0 : u6.cell? ⟨w.heap.size, 0, none⟩ = some (.string (bs c)) := K.cell 0
  have c4 : u6.cell? ⟨w.heap.size, 4, none⟩ = some (.string (bs m)) := K.cell 4
  have l0 := K.lt
  go_wp2_with fail
  refine (C6.out _).mono ?_
  rintro e u7 ⟨rfl, hb⟩
  replace HV := HV.trans (hb.mono HV.size)
  replace K := K.below hb
  clear hb
  clear c0 c4 l0
  have c0 : u7.cell? ⟨w.heap.size, 0, none⟩ = some (.string (bs c)) := K.cell 0
  have c4 : u7.cell? ⟨w.heap.size, 4, none⟩ = some (.string (bs m)) := K.cell 4
  have l0 := K.lt
  go_wp2_with fail
  refine (C7.out _).mono ?_
  rintro e u8 ⟨rfl, hb⟩
  replace HV := HV.trans (hb.mono HV.size)
  replace K := K.below hb
  clear hb
  clear c0 c4 l0
  have c0 : u8.cell? ⟨w.heap.size, 0, none⟩ = some (.string (bs c)) := K.cell 0
  have c4 : u8.cell? ⟨w.heap.size, 4, none⟩ = some (.string (bs m)) := K.cell 4
  have l0 := K.lt
  go_wp2_with fail
  refine (C8.out _).mono ?_
  rintro e u9 ⟨rfl, hb⟩
  replace HV := HV.trans (hb.mono HV.size)
  replace K := K.below hb
  clear hb
  clear c0 c4 l0
  have c0 : u9.cell? ⟨w.heap.size, 0, none⟩ = some (.string (bs c)) := K.cell 0
  have c4 : u9.cell? ⟨w.heap.size, 4, none⟩ = some (.string (bs m)) := K.cell 4
  have l0 := K.lt
  go_wp2_with fail
  refine (C9.out _).mono ?_
  rintro e u10 ⟨rfl, hb⟩
  replace HV := HV.trans (hb.mono HV.size)
  replace K := K.below hb
  clear hb
  clear c0 c4 l0
  have c0 : u10.cell? ⟨w.heap.size, 0, none⟩ = some (.string (bs c)) := K.cell 0
  have c4 : u10.cell? ⟨w.heap.size, 4, none⟩ = some (.string (bs m)) := K.cell 4
  have l0 := K.lt
  go_wp2_with fail
  refine (C10.out _).mono ?_
  rintro e u11 ⟨rfl, hb⟩
  replace HV := HV.trans (hb.mono HV.size)
  replace K := K.below hb
  clear hb
  clear c0 c4 l0
  have c0 : u11.cell? ⟨w.heap.size, 0, none⟩ = some (.string (bs c)) := K.cell 0
  have c4 : u11.cell? ⟨w.heap.size, 4, none⟩ = some (.string (bs m)) := K.cell 4
  have l0 := K.lt
  go_wp2_with fail
  refine (C11.out _).mono ?_
  rintro e u12 ⟨rfl, hb⟩
  replace HV := HV.trans (hb.mono HV.size)
  replace K := K.below hb
  clear hb
  clear c0 c4 l0
  have c0 : u12.cell? ⟨w.heap.size, 0, none⟩ = some (.string (bs c)) := K.cell 0
  have c4 : u12.cell? ⟨w.heap.size, 4, none⟩ = some (.string (bs m)) := K.cell 4
  have l0 := K.lt
  go_wp2_with fail
  refine (HW.out _).mono ?_
  rintro e u13 ⟨rfl, hb⟩
  replace HV := HV.trans (hb.mono HV.size)
  replace K := K.below hb
  clear hb
  clear c0 c4 l0
  have c0 : u13.cell? ⟨w.heap.size, 0, none⟩ = some (.string (bs c)) := K.cell 0
  have c4 : u13.cell? ⟨w.heap.size, 4, none⟩ = some (.string (bs m)) := K.cell 4
  have l0 := K.lt
  go_wp2_with fail
  refine (HM.out _).mono ?_
  rintro e u14 ⟨rfl, hb⟩
  replace HV := HV.trans (hb.mono HV.size)
  replace K := K.below hb
  clear hb
  clear c0 c4 l0
  have c0 : u14.cell? ⟨w.heap.size, 0, none⟩ = some (.string (bs c)) := K.cell 0
  have c4 : u14.cell? ⟨w.heap.size, 4, none⟩ = some (.string (bs m)) := K.cell 4
  have l0 := K.lt
  go_wp2_with fail
  go_ret
  exact ⟨rfl, HV⟩

theorem law_mring (s t A B E M : ByteArray) (q : Bool) (w : World) (hs : s.size ≤ 9223372036854775807) (ht : t.size ≤ 9223372036854775807) (hA : A.size ≤ 9223372036854775807) (hB : B.size ≤ 9223372036854775807) (hE : E.size ≤ 9223372036854775807) (hM : M.size ≤ 9223372036854775807) :
    Calls Try.prog 6 #[.string s, .string t, .agg #[.string A, .string B, .bool q, .string E, .string M]] w (Made w (.bool true)) := by
  rcases hr : (decide (A.size ≤ 24) && decide (B.size ≤ 24) && decide (E.size ≤ 16) && decide (M.size ≤ 8)) with _ | _
  · exact ring_long s t A B E M q w hs ht hA hB hE hM false hr (.inl rfl)
  · by_cases h1 : s.size ≤ 24
    · by_cases h2 : t.size ≤ 24
      · rcases hv : (validB s && validB t && validB A && validB M && !M.toList.isEmpty) with _ | _
        · exact ring_bad s t A B E M q w h1 h2 hA hB hE hM hr _ _ _ _ _ rfl rfl rfl rfl rfl hv
        · simp only [Bool.and_eq_true, decide_eq_true_eq, Bool.not_eq_true'] at hr hv
          obtain ⟨⟨⟨⟨v1, v2⟩, v3⟩, v4⟩, v5⟩ := hv
          obtain ⟨⟨⟨r1, r2⟩, r3⟩, r4⟩ := hr
          obtain ⟨a, _, rfl⟩ := bs_of_valid v1
          obtain ⟨b, _, rfl⟩ := bs_of_valid v2
          obtain ⟨c, _, rfl⟩ := bs_of_valid v3
          obtain ⟨m, _, rfl⟩ := bs_of_valid v4
          rw [bs_le] at h1 h2 r1 r4
          rw [bs_isEmpty] at v5
          exact ring_good a b c m B E q w h1 h2 r1 r4 (by simpa using v5) r2 r3
      · exact ring_long s t A B E M q w hs ht hA hB hE hM true hr (.inr (.inr ⟨rfl, h1, by omega⟩))
    · exact ring_long s t A B E M q w hs ht hA hB hE hM true hr (.inr (.inl ⟨rfl, by omega⟩))
end Go.Proofs.Ytppdolmeeiookaa
