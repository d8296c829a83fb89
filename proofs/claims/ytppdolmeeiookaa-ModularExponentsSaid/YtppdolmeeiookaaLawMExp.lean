/-
  The law of dominolaw03.ModularExponents.
-/
import Derived.Test.YtppdolmeeiookaaModX
import Derived.Test.YtppdolmeeiookaaModY
import Derived.Test.YtppdolmeeiookaaModZ
namespace Go.Proofs.Ytppdolmeeiookaa
open Go.RowKit Num

theorem exp_prod (A e f m : Nat) : A ^ e % m * (A ^ f % m) % m = A ^ (e + f) % m := by
  rw [← Nat.mul_mod, Nat.pow_add]
theorem exp_again (A e f m : Nat) : (A ^ e % m) ^ f % m = A ^ (e * f) % m := by
  rw [← Nat.pow_mod, Nat.pow_mul]
theorem exp_down (A X e m : Nat) (h : A * X % m = 1 % m) : A ^ e % m * (X ^ e % m) % m = 1 % m := by
  rw [← Nat.mul_mod, ← Nat.mul_pow, Nat.pow_mod, h, ← Nat.pow_mod, Nat.one_pow]

set_option maxHeartbeats 2000000 in
set_option maxRecDepth 100000 in
/-- Too long, not canonical, or the modulus is 0: only the examples. -/
theorem exp_skip (A B E M : ByteArray) (q : Bool) (x y : Int) (w : World) (hA : A.size ≤ 9223372036854775807) (hB : B.size ≤ 9223372036854775807) (hE : E.size ≤ 9223372036854775807) (hM : M.size ≤ 9223372036854775807)
    (r vA vM em : Bool) (hr : (decide (A.size ≤ 24) && decide (B.size ≤ 24) && decide (E.size ≤ 16) && decide (M.size ≤ 8)) = r) (hvA : validB A = vA) (hvM : validB M = vM) (hem : M.toList.isEmpty = em)
    (h : (r && vA && vM && !em) = false) :
    Calls Try.prog 7 #[.agg #[.string A, .string B, .bool q, .string E, .string M], .int .u16 x, .int .u16 y] w (Made w (.bool true)) := by
  have HF := Lib.hid (fun W => few3_any A B E M q W hA hB hE hM r hr)
  have HW := Lib.hid awake3
  have VA := Lib.hid (fun W => rvalid_any A W hA)
  have VM := Lib.hid (fun W => rvalid_any M W hM)
  rw [hvA] at VA
  rw [hvM] at VM
  clear hA hB hE hM hr hvA hvM
  have HV := (Below.refl w.heap.size w).alloc (Nat.le_refl _) (.cells #[.string A, .string B, .bool q, .string E, .string M] 41)
  have K := Bk.new w #[.string A, .string B, .bool q, .string E, .string M] 41
  have h5 : r = false ∨ (r = true ∧ vA = false) ∨ (r = true ∧ vA = true ∧ vM = false) ∨ (r = true ∧ vA = true ∧ vM = true ∧ em = true) := by
    revert h
    cases r <;> cases vA <;> cases vM <;> cases em <;> simp
  clear h
  rcases h5 with rfl | ⟨rfl, rfl⟩ | ⟨rfl, rfl, rfl⟩ | ⟨rfl, rfl, rfl, rfl⟩
  all_goals
    go_enter Try.func7, Try.ntmps7
    go_wp2_with fail
    refine (HF.out _).mono ?_
    rintro e u1 ⟨rfl, hb⟩
    replace HV := HV.trans (hb.mono HV.size)
    replace K := K.below hb
    clear hb
    have c0 : u1.cell? ⟨w.heap.size, 0, none⟩ = some (.string A) := K.cell 0
    have c4 : u1.cell? ⟨w.heap.size, 4, none⟩ = some (.string M) := K.cell 4
    have l0 := K.lt
    go_wp2_with (first
      | (go_at_call 15; (with_reducible refine (VA.out _).mono ?_); rintro e w' ⟨rfl, rfl⟩)
      | (go_at_call 15; (with_reducible refine (VM.out _).mono ?_); rintro e w' ⟨rfl, rfl⟩)
      | (go_at_call 10; refine (HW.out _).mono ?_; rintro e ua ⟨rfl, hb⟩; replace HV := HV.trans (hb.mono HV.size); clear hb))
    go_ret
    exact ⟨rfl, HV⟩

theorem sn_below {w w' w'' : World} {g : Nat} {s0 : Value} {cs : Array Value} {t : TypeId} (hc : cs[0]? = some s0) (h : w'.cell? ⟨g, 0, none⟩ = some s0 ∧ Hid (Below w.heap.size w w' ∧ Bk w' g cs t)) (hb : Below w'.heap.size w' w'') :
    w''.cell? ⟨g, 0, none⟩ = some s0 ∧ Hid (Below w.heap.size w w'' ∧ Bk w'' g cs t) := by
  obtain ⟨h1, h2⟩ := h.2.out
  have K := h2.below hb
  exact ⟨(K.cell 0).trans hc, Lib.hid ⟨h1.trans (hb.mono h1.size), K⟩⟩

set_option maxHeartbeats 4000000 in
set_option maxRecDepth 100000 in
/-- The law where all is canonical: what Power answers is a premise (HP, D, pe). -/
theorem exp_good (c m e f D : Nat) (pe : Int) (ng : Bool) (B E : ByteArray) (q : Bool) (w : World) (hc : c < 256 ^ 24) (hm : m < 256 ^ 8) (h0 : m ≠ 0) (hB : B.size ≤ 24) (hE : E.size ≤ 16) (he : e ≤ 65535) (hf : f ≤ 65535)
    (hP : ∀ W, Calls Try.prog 21 #[.string (bs c), .agg #[.bool ng, .string (bs e)], .string (bs m)] W (Made W (.tuple #[.string (bs D), .int .i64 pe])))
    (hng : zneg (-(e : Int)) = ng) (hpe : (pe = 0 ∧ D < m ∧ c ^ e % m * D % m = 1 % m) ∨ (pe = 9 ∧ e ≠ 0)) :
    Calls Try.prog 7 #[.agg #[.string (bs c), .string B, .bool q, .string E, .string (bs m)], .int .u16 (e : Int), .int .u16 (f : Int)] w (Made w (.bool true)) := by
  have hs3 : (bs c).size ≤ 24 := by rw [bs_le]; exact hc
  have hs4 : (bs m).size ≤ 8 := by rw [bs_le]; exact hm
  have hT : m < Top := lt_topk hm (by decide)
  have tc : c < Top := lt_topk hc (by decide)
  have lt : ∀ x, x % m < Top := fun x => Nat.lt_trans (Nat.mod_lt x (Nat.pos_of_ne_zero h0)) hT
  have HF := Lib.hid (fun W => few3_any (bs c) B E (bs m) q W (by omega) (by omega) (by omega) (by omega) true (by simp [hs3, hB, hE, hs4]))
  have HW := Lib.hid awake3
  have Vc := Lib.hid (fun W => rvalid_yes tc W)
  have Vm := Lib.hid (fun W => rvalid_yes hT W)
  have H1 : Hid (∀ W, Calls Try.prog 9 #[.int .u64 1] W (Made W (.string (bs 1)))) := Lib.hid (fun W => num3_lit 1 (by decide) (by decide) W)
  have HM := Lib.hid (fun W => rmod3 1 m W (by unfold Top; decide) hT h0)
  have hz : (bs m).toList.isEmpty = false := by rw [bs_isEmpty]; exact beq_false_of_ne h0
  obtain ⟨s, hs⟩ : ∃ x, x = e + f := ⟨_, rfl⟩
  obtain ⟨p, hp⟩ : ∃ x, x = e * f := ⟨_, rfl⟩
  have hpl : p ≤ 4294836225 := by rw [hp]; exact Nat.mul_le_mul he hf
  have es : (e : Int) + (f : Int) = (s : Int) := by omega
  have ep : (e : Int) * (f : Int) = (p : Int) := by rw [hp, Int.natCast_mul]
  have hsl : s ≤ 131070 := by omega
  have He := Lib.hid (fun W => num3 e (by omega) W)
  have Hf := Lib.hid (fun W => num3 f (by omega) W)
  have Hs := Lib.hid (fun W => num3 s (by omega) W)
  have Hp := Lib.hid (fun W => num3 p (by omega) W)
  have tt : ∀ {x : Nat}, x ≤ 4294836225 → x < Top := fun h => Nat.lt_of_le_of_lt h (by unfold Top; decide)
  obtain ⟨ae, hae⟩ : ∃ x, x = c ^ e % m := ⟨_, rfl⟩
  obtain ⟨be, hbe⟩ : ∃ x, x = c ^ f % m := ⟨_, rfl⟩
  obtain ⟨S, hS⟩ : ∃ x, x = c ^ s % m := ⟨_, rfl⟩
  obtain ⟨P, hPp⟩ : ∃ x, x = c ^ p % m := ⟨_, rfl⟩
  have tae : ae < Top := hae ▸ lt _
  have tbe : be < Top := hbe ▸ lt _
  have C1 : Hid (∀ W, Calls Try.prog 20 #[.string (bs c), .string (bs e), .string (bs m)] W (Made W (.tuple #[.string (bs ae), .int .i64 0]))) := Lib.hid (fun W => by rw [hae]; exact mexp_ok c e m W tc (tt (by omega)) h0 hT)
  have C2 : Hid (∀ W, Calls Try.prog 20 #[.string (bs c), .string (bs f), .string (bs m)] W (Made W (.tuple #[.string (bs be), .int .i64 0]))) := Lib.hid (fun W => by rw [hbe]; exact mexp_ok c f m W tc (tt (by omega)) h0 hT)
  have C3 : Hid (∀ W, Calls Try.prog 20 #[.string (bs c), .string (bs s), .string (bs m)] W (Made W (.tuple #[.string (bs S), .int .i64 0]))) := Lib.hid (fun W => by rw [hS]; exact mexp_ok c s m W tc (tt (by omega)) h0 hT)
  have C4 : Hid (∀ W, Calls Try.prog 18 #[.string (bs ae), .string (bs be), .string (bs m)] W (Made W (.tuple #[.string (bs S), .int .i64 0]))) := Lib.hid (fun W => by have := mmul_ok ae be m W tae tbe h0 hT; rwa [show ae * be % m = S from by rw [hae, hbe, hS, hs]; exact exp_prod c e f m] at this)
  have C5 : Hid (∀ W, Calls Try.prog 20 #[.string (bs c), .string (bs p), .string (bs m)] W (Made W (.tuple #[.string (bs P), .int .i64 0]))) := Lib.hid (fun W => by rw [hPp]; exact mexp_ok c p m W tc (tt hpl) h0 hT)
  have C6 : Hid (∀ W, Calls Try.prog 20 #[.string (bs ae), .string (bs f), .string (bs m)] W (Made W (.tuple #[.string (bs P), .int .i64 0]))) := Lib.hid (fun W => by have := mexp_ok ae f m W tae (tt (by omega)) h0 hT; rwa [show ae ^ f % m = P from by rw [hae, hPp, hp]; exact exp_again c e f m] at this)
  have HO : Hid (∀ W, Calls Try.prog 22 #[.int .i64 (-(e : Int))] W (Made W (.agg #[.bool ng, .string (bs e)]))) := Lib.hid (fun W => by have := riof_any (-(e : Int)) (by omega) (by omega) W; rwa [hng, zabs_negnat] at this)
  have HP := Lib.hid hP
  have we : IntKind.u64.wrap (e : Int) = (e : Int) := by rw [IntKind.wrap_u64]; omega
  have wf : IntKind.u64.wrap (f : Int) = (f : Int) := by rw [IntKind.wrap_u64]; omega
  have ws : IntKind.u64.wrap (s : Int) = (s : Int) := by rw [IntKind.wrap_u64]; omega
  have wp : IntKind.u64.wrap (p : Int) = (p : Int) := by rw [IntKind.wrap_u64]; omega
  have wi : IntKind.i64.wrap (e : Int) = (e : Int) := by rw [IntKind.wrap_i64]; omega
  have wn : IntKind.i64.wrap (-(e : Int)) = -(e : Int) := by rw [IntKind.wrap_i64]; omega
  have HPE : Hid ((pe = 0 ∧ (∀ W, Calls Try.prog 18 #[.string (bs ae), .string (bs D), .string (bs m)] W (Made W (.tuple #[.string (bs (1 % m)), .int .i64 0])))) ∨ (pe = 9 ∧ 0 < e)) := by
    rcases hpe with ⟨g1, g2, g3⟩ | ⟨g1, g2⟩
    · refine Lib.hid (.inl ⟨g1, fun W => ?_⟩)
      have := mmul_ok ae D m W tae (Nat.lt_trans g2 hT) h0 hT
      rwa [show ae * D % m = 1 % m from by rw [hae]; exact g3] at this
    · exact Lib.hid (.inr ⟨g1, by omega⟩)
  clear hP hng hpe hae hbe hS hPp tae tbe tt lt hc hm hp hs h0
  obtain ⟨R, hR⟩ : ∃ x, x = 1 % m := ⟨_, rfl⟩
  rw [← hR] at HPE HM
  clear hR
  have HV := (Below.refl w.heap.size w).alloc (Nat.le_refl _) (.cells #[.string (bs c), .string B, .bool q, .string E, .string (bs m)] 41)
  have K := Bk.new w #[.string (bs c), .string B, .bool q, .string E, .string (bs m)] 41
  go_enter Try.func7, Try.ntmps7
  go_wp2_with fail
  refine (HF.out _).mono ?_
  rintro e u1 ⟨rfl, hb⟩
  replace HV := HV.trans (hb.mono HV.size)
  replace K := K.below hb
  clear hb
  have c0 : u1.cell? ⟨w.heap.size, 0, none⟩ = some (.string (bs c)) := K.cell 0
  have c4 : u1.cell? ⟨w.heap.size, 4, none⟩ = some (.string (bs m)) := K.cell 4
  have l0 := K.lt
  go_wp2_with fail
  refine (Vc.out _).mono ?_
  rintro e w' ⟨rfl, rfl⟩
  go_wp2_with fail
  refine (Vm.out _).mono ?_
  rintro e w' ⟨rfl, rfl⟩
  go_wp2_with fail
  go_region_held3 (fun w' => w'.cell? ⟨w.heap.size, 0, none⟩ = some (.string (bs c)) ∧ Hid (Below w.heap.size w w' ∧ Bk w' w.heap.size #[.string (bs c), .string B, .bool q, .string E, .string (bs m)] 41)) (first | assumption | exact ⟨K.drew.cell 0, Lib.hid ⟨HV.drew, K.drew⟩⟩) (first | (go_at_call 20; have hq := ‹_ ∧ _›; refine (C1.out _).mono ?_; rintro e v1x0 ⟨rfl, hb⟩; have hSv1x0 : v1x0.cell? ⟨w.heap.size, 0, none⟩ = some (.string (bs c)) ∧ Hid (Below w.heap.size w v1x0 ∧ Bk v1x0 w.heap.size #[.string (bs c), .string B, .bool q, .string E, .string (bs m)] 41) := sn_below rfl hq hb; clear hq hb) | (go_at_call 9; have hq := ‹_ ∧ _›; refine (He.out _).mono ?_; rintro e v1x1 ⟨rfl, hb⟩; have hSv1x1 : v1x1.cell? ⟨w.heap.size, 0, none⟩ = some (.string (bs c)) ∧ Hid (Below w.heap.size w v1x1 ∧ Bk v1x1 w.heap.size #[.string (bs c), .string B, .bool q, .string E, .string (bs m)] 41) := sn_below rfl hq hb; clear hq hb))
  obtain ⟨c0, hk⟩ := ‹_ ∧ _›
  clear HV K
  obtain ⟨HV, K⟩ := hk.out
  have l0 := K.lt
  clear hk
  go_wp2_with fail
  go_region_held3 (fun w' => w'.cell? ⟨w.heap.size, 0, none⟩ = some (.string (bs c)) ∧ Hid (Below w.heap.size w w' ∧ Bk w' w.heap.size #[.string (bs c), .string B, .bool q, .string E, .string (bs m)] 41)) (first | assumption | exact ⟨K.drew.cell 0, Lib.hid ⟨HV.drew, K.drew⟩⟩) (first | (go_at_call 20; have hq := ‹_ ∧ _›; refine (C2.out _).mono ?_; rintro e v2x0 ⟨rfl, hb⟩; have hSv2x0 : v2x0.cell? ⟨w.heap.size, 0, none⟩ = some (.string (bs c)) ∧ Hid (Below w.heap.size w v2x0 ∧ Bk v2x0 w.heap.size #[.string (bs c), .string B, .bool q, .string E, .string (bs m)] 41) := sn_below rfl hq hb; clear hq hb) | (go_at_call 9; have hq := ‹_ ∧ _›; refine (Hf.out _).mono ?_; rintro e v2x1 ⟨rfl, hb⟩; have hSv2x1 : v2x1.cell? ⟨w.heap.size, 0, none⟩ = some (.string (bs c)) ∧ Hid (Below w.heap.size w v2x1 ∧ Bk v2x1 w.heap.size #[.string (bs c), .string B, .bool q, .string E, .string (bs m)] 41) := sn_below rfl hq hb; clear hq hb))
  obtain ⟨c0, hk⟩ := ‹_ ∧ _›
  clear HV K
  obtain ⟨HV, K⟩ := hk.out
  have l0 := K.lt
  clear hk
  go_wp2_with fail
  go_region_held3 (fun w' => w'.cell? ⟨w.heap.size, 0, none⟩ = some (.string (bs c)) ∧ Hid (Below w.heap.size w w' ∧ Bk w' w.heap.size #[.string (bs c), .string B, .bool q, .string E, .string (bs m)] 41)) (first | assumption | exact ⟨K.drew.cell 0, Lib.hid ⟨HV.drew, K.drew⟩⟩) (first | (go_at_call 20; have hq := ‹_ ∧ _›; refine (C3.out _).mono ?_; rintro e v3x0 ⟨rfl, hb⟩; have hSv3x0 : v3x0.cell? ⟨w.heap.size, 0, none⟩ = some (.string (bs c)) ∧ Hid (Below w.heap.size w v3x0 ∧ Bk v3x0 w.heap.size #[.string (bs c), .string B, .bool q, .string E, .string (bs m)] 41) := sn_below rfl hq hb; clear hq hb) | (go_at_call 9; have hq := ‹_ ∧ _›; refine (Hs.out _).mono ?_; rintro e v3x1 ⟨rfl, hb⟩; have hSv3x1 : v3x1.cell? ⟨w.heap.size, 0, none⟩ = some (.string (bs c)) ∧ Hid (Below w.heap.size w v3x1 ∧ Bk v3x1 w.heap.size #[.string (bs c), .string B, .bool q, .string E, .string (bs m)] 41) := sn_below rfl hq hb; clear hq hb))
  obtain ⟨c0, hk⟩ := ‹_ ∧ _›
  clear HV K
  obtain ⟨HV, K⟩ := hk.out
  have l0 := K.lt
  clear hk
  go_wp2_with fail
  refine (C4.out _).mono ?_
  rintro e u2 ⟨rfl, hb⟩
  replace HV := HV.trans (hb.mono HV.size)
  replace K := K.below hb
  clear hb
  have c0 : u2.cell? ⟨w.heap.size, 0, none⟩ = some (.string (bs c)) := K.cell 0
  have c4 : u2.cell? ⟨w.heap.size, 4, none⟩ = some (.string (bs m)) := K.cell 4
  have l0 := K.lt
  go_wp2_with fail
  go_region_held3 (fun w' => w'.cell? ⟨w.heap.size, 0, none⟩ = some (.string (bs c)) ∧ Hid (Below w.heap.size w w' ∧ Bk w' w.heap.size #[.string (bs c), .string B, .bool q, .string E, .string (bs m)] 41)) (first | assumption | exact ⟨K.drew.cell 0, Lib.hid ⟨HV.drew, K.drew⟩⟩) (first | (go_at_call 20; have hq := ‹_ ∧ _›; refine (C5.out _).mono ?_; rintro e v4x0 ⟨rfl, hb⟩; have hSv4x0 : v4x0.cell? ⟨w.heap.size, 0, none⟩ = some (.string (bs c)) ∧ Hid (Below w.heap.size w v4x0 ∧ Bk v4x0 w.heap.size #[.string (bs c), .string B, .bool q, .string E, .string (bs m)] 41) := sn_below rfl hq hb; clear hq hb) | (go_at_call 9; have hq := ‹_ ∧ _›; refine (Hp.out _).mono ?_; rintro e v4x1 ⟨rfl, hb⟩; have hSv4x1 : v4x1.cell? ⟨w.heap.size, 0, none⟩ = some (.string (bs c)) ∧ Hid (Below w.heap.size w v4x1 ∧ Bk v4x1 w.heap.size #[.string (bs c), .string B, .bool q, .string E, .string (bs m)] 41) := sn_below rfl hq hb; clear hq hb))
  obtain ⟨c0, hk⟩ := ‹_ ∧ _›
  clear HV K
  obtain ⟨HV, K⟩ := hk.out
  have l0 := K.lt
  clear hk
  go_wp2_with fail
  refine (Hf.out _).mono ?_
  rintro e u3 ⟨rfl, hb⟩
  replace HV := HV.trans (hb.mono HV.size)
  replace K := K.below hb
  clear hb
  have c0 : u3.cell? ⟨w.heap.size, 0, none⟩ = some (.string (bs c)) := K.cell 0
  have c4 : u3.cell? ⟨w.heap.size, 4, none⟩ = some (.string (bs m)) := K.cell 4
  have l0 := K.lt
  go_wp2_with fail
  refine (C6.out _).mono ?_
  rintro e u4 ⟨rfl, hb⟩
  replace HV := HV.trans (hb.mono HV.size)
  replace K := K.below hb
  clear hb
  have c0 : u4.cell? ⟨w.heap.size, 0, none⟩ = some (.string (bs c)) := K.cell 0
  have c4 : u4.cell? ⟨w.heap.size, 4, none⟩ = some (.string (bs m)) := K.cell 4
  have l0 := K.lt
  go_wp2_with fail
  rcases HPE.out with ⟨rfl, hC7⟩ | ⟨rfl, hpos⟩
  · have C7 := Lib.hid hC7
    clear hC7
    go_region_held3 (fun w' => w'.cell? ⟨w.heap.size, 0, none⟩ = some (.string (bs c)) ∧ Hid (Below w.heap.size w w' ∧ Bk w' w.heap.size #[.string (bs c), .string B, .bool q, .string E, .string (bs m)] 41)) (first | assumption | exact ⟨K.drew.cell 0, Lib.hid ⟨HV.drew, K.drew⟩⟩) (first | (go_at_call 21; have hq := ‹_ ∧ _›; refine (HP.out _).mono ?_; rintro e v5x0 ⟨rfl, hb⟩; have hSv5x0 : v5x0.cell? ⟨w.heap.size, 0, none⟩ = some (.string (bs c)) ∧ Hid (Below w.heap.size w v5x0 ∧ Bk v5x0 w.heap.size #[.string (bs c), .string B, .bool q, .string E, .string (bs m)] 41) := sn_below rfl hq hb; clear hq hb) | (go_at_call 22; have hq := ‹_ ∧ _›; refine (HO.out _).mono ?_; rintro e v5x1 ⟨rfl, hb⟩; have hSv5x1 : v5x1.cell? ⟨w.heap.size, 0, none⟩ = some (.string (bs c)) ∧ Hid (Below w.heap.size w v5x1 ∧ Bk v5x1 w.heap.size #[.string (bs c), .string B, .bool q, .string E, .string (bs m)] 41) := sn_below rfl hq hb; clear hq hb))
    obtain ⟨c0, hk⟩ := ‹_ ∧ _›
    clear HV K
    obtain ⟨HV, K⟩ := hk.out
    have l0 := K.lt
    clear hk
    go_wp2_with fail
    refine (C7.out _).mono ?_
    rintro e u5 ⟨rfl, hb⟩
    replace HV := HV.trans (hb.mono HV.size)
    replace K := K.below hb
    clear hb
    have c0 : u5.cell? ⟨w.heap.size, 0, none⟩ = some (.string (bs c)) := K.cell 0
    have c4 : u5.cell? ⟨w.heap.size, 4, none⟩ = some (.string (bs m)) := K.cell 4
    have l0 := K.lt
    go_wp2_with fail
    refine (HW.out _).mono ?_
    rintro e u6 ⟨rfl, hb⟩
    replace HV := HV.trans (hb.mono HV.size)
    replace K := K.below hb
    clear hb
    have c0 : u6.cell? ⟨w.heap.size, 0, none⟩ = some (.string (bs c)) := K.cell 0
    have c4 : u6.cell? ⟨w.heap.size, 4, none⟩ = some (.string (bs m)) := K.cell 4
    have l0 := K.lt
    go_wp2_with fail
    refine (H1.out _).mono ?_
    rintro e u7 ⟨rfl, hb⟩
    replace HV := HV.trans (hb.mono HV.size)
    replace K := K.below hb
    clear hb
    have c0 : u7.cell? ⟨w.heap.size, 0, none⟩ = some (.string (bs c)) := K.cell 0
    have c4 : u7.cell? ⟨w.heap.size, 4, none⟩ = some (.string (bs m)) := K.cell 4
    have l0 := K.lt
    go_wp2_with fail
    refine (HM.out _).mono ?_
    rintro e u8 ⟨rfl, hb⟩
    replace HV := HV.trans (hb.mono HV.size)
    replace K := K.below hb
    clear hb
    have c0 : u8.cell? ⟨w.heap.size, 0, none⟩ = some (.string (bs c)) := K.cell 0
    have c4 : u8.cell? ⟨w.heap.size, 4, none⟩ = some (.string (bs m)) := K.cell 4
    have l0 := K.lt
    go_wp2_with fail
    go_ret
    exact ⟨rfl, HV⟩
  · go_region_held3 (fun w' => w'.cell? ⟨w.heap.size, 0, none⟩ = some (.string (bs c)) ∧ Hid (Below w.heap.size w w' ∧ Bk w' w.heap.size #[.string (bs c), .string B, .bool q, .string E, .string (bs m)] 41)) (first | assumption | exact ⟨K.drew.cell 0, Lib.hid ⟨HV.drew, K.drew⟩⟩) (first | (go_at_call 21; have hq := ‹_ ∧ _›; refine (HP.out _).mono ?_; rintro e v5x0 ⟨rfl, hb⟩; have hSv5x0 : v5x0.cell? ⟨w.heap.size, 0, none⟩ = some (.string (bs c)) ∧ Hid (Below w.heap.size w v5x0 ∧ Bk v5x0 w.heap.size #[.string (bs c), .string B, .bool q, .string E, .string (bs m)] 41) := sn_below rfl hq hb; clear hq hb) | (go_at_call 22; have hq := ‹_ ∧ _›; refine (HO.out _).mono ?_; rintro e v5x1 ⟨rfl, hb⟩; have hSv5x1 : v5x1.cell? ⟨w.heap.size, 0, none⟩ = some (.string (bs c)) ∧ Hid (Below w.heap.size w v5x1 ∧ Bk v5x1 w.heap.size #[.string (bs c), .string B, .bool q, .string E, .string (bs m)] 41) := sn_below rfl hq hb; clear hq hb))
    obtain ⟨c0, hk⟩ := ‹_ ∧ _›
    clear HV K
    obtain ⟨HV, K⟩ := hk.out
    have l0 := K.lt
    clear hk
    go_wp2_with fail
    refine (HW.out _).mono ?_
    rintro e u9 ⟨rfl, hb⟩
    replace HV := HV.trans (hb.mono HV.size)
    replace K := K.below hb
    clear hb
    have c0 : u9.cell? ⟨w.heap.size, 0, none⟩ = some (.string (bs c)) := K.cell 0
    have c4 : u9.cell? ⟨w.heap.size, 4, none⟩ = some (.string (bs m)) := K.cell 4
    have l0 := K.lt
    go_wp2_with fail
    go_ret
    exact ⟨rfl, HV⟩

theorem law_mexp (A B E M : ByteArray) (q : Bool) (x y : Int) (w : World) (hA : A.size ≤ 9223372036854775807) (hB : B.size ≤ 9223372036854775807) (hE : E.size ≤ 9223372036854775807) (hM : M.size ≤ 9223372036854775807) (hx : 0 ≤ x ∧ x ≤ 65535) (hy : 0 ≤ y ∧ y ≤ 65535) :
    Calls Try.prog 7 #[.agg #[.string A, .string B, .bool q, .string E, .string M], .int .u16 x, .int .u16 y] w (Made w (.bool true)) := by
  rcases hr : ((decide (A.size ≤ 24) && decide (B.size ≤ 24) && decide (E.size ≤ 16) && decide (M.size ≤ 8)) && validB A && validB M && !M.toList.isEmpty) with _ | _
  · exact exp_skip A B E M q x y w hA hB hE hM _ _ _ _ rfl rfl rfl rfl hr
  · obtain ⟨e, rfl⟩ := Int.eq_ofNat_of_zero_le hx.1
    obtain ⟨f, rfl⟩ := Int.eq_ofNat_of_zero_le hy.1
    simp only [Bool.and_eq_true, decide_eq_true_eq, Bool.not_eq_true'] at hr
    obtain ⟨⟨⟨⟨⟨⟨r1, r2⟩, r3⟩, r4⟩, v1⟩, v2⟩, v5⟩ := hr
    obtain ⟨c, tc, rfl⟩ := bs_of_valid v1
    obtain ⟨m, tm, rfl⟩ := bs_of_valid v2
    rw [bs_le] at r1 r4
    rw [bs_isEmpty] at v5
    have h0 : m ≠ 0 := by simpa using v5
    have c60 : c < 256 ^ 60 := Nat.lt_of_lt_of_le r1 (Nat.pow_le_pow_right (by decide) (by decide))
    have m60 : m < 256 ^ 60 := Nat.lt_of_lt_of_le r4 (Nat.pow_le_pow_right (by decide) (by decide))
    have te : e < Top := Nat.lt_of_le_of_lt (show e ≤ 65535 by omega) (by unfold Top; decide)
    by_cases he : e = 0
    · subst he
      exact exp_good c m 0 f (c ^ 0 % m) 0 false B E q w r1 r4 h0 r2 r3 (by omega) (by omega) (fun W => mpower_pos c 0 m W tc te h0 tm) rfl (.inl ⟨rfl, Nat.mod_lt _ (Nat.pos_of_ne_zero h0), by rw [← Nat.mul_mod]; simp⟩)
    · have hn : zneg (-(e : Int)) = true := zneg_negnat he
      by_cases hg : Nat.gcd c m = 1
      · obtain ⟨X, hX, hX1, _⟩ := inv_ex h0 hg
        exact exp_good c m e f (X ^ e % m) 0 true B E q w r1 r4 h0 r2 r3 (by omega) (by omega) (fun W => mpower_inv c e m X W tc (Nat.lt_trans hX tm) te he h0 tm (fun W => minverse_ok c m X W c60 m60 h0 hg hX hX1)) hn (.inl ⟨rfl, Nat.mod_lt _ (Nat.pos_of_ne_zero h0), exp_down c X e m hX1⟩)
      · exact exp_good c m e f 0 9 true B E q w r1 r4 h0 r2 r3 (by omega) (by omega) (fun W => mpower_err c e m 9 W tc te he (by decide) (fun W => minverse_none c m W c60 m60 h0 hg)) hn (.inr ⟨rfl, he⟩)
end Go.Proofs.Ytppdolmeeiookaa
