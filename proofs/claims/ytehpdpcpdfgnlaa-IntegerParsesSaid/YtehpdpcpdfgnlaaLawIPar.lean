/-
  The contract of Parse of the reference; dominolaw02.IntegerParses returns true: the walk.
-/
import Derived.Test.YtehpdpcpdfgnlaaLawITexts
namespace Go.Proofs.Ytehpdpcpdfgnlaa
open Go.RowKit Num

theorem digit_back {b : UInt8} (h1 : 48 ≤ b.toNat) (h2 : b.toNat ≤ 57) {n : Nat} (hn : n % 10 = b.toNat - 48) : UInt8.ofNat (48 + n % 10) = b := by
  apply UInt8.toNat_inj.1
  rw [UInt8.toNat_ofNat', hn]
  omega
def lval (l : List UInt8) : Nat := l.foldl (fun a b => a * 10 + (b.toNat - 48)) 0
theorem lval_snoc (l : List UInt8) (b : UInt8) : lval (l ++ [b]) = lval l * 10 + (b.toNat - 48) := by simp [lval, List.foldl_append]
theorem dtext_next {n : Nat} (h : n / 10 ≠ 0) : dtext n = dtext (n / 10) ++ [UInt8.ofNat (48 + n % 10)] := by
  have h0 : n ≠ 0 := fun e => h (by rw [e])
  rw [dtext_pos h0, dtext_pos h, dn_pos h0, ldk, List.reverse_cons]
theorem dtext_one {n : Nat} (h : n / 10 = 0) : dtext n = [UInt8.ofNat (48 + n % 10)] := by
  by_cases h0 : n = 0
  · subst h0; rw [dtext_zero]; rfl
  · rw [dtext_pos h0, dn_pos h0, h, dn_zero]; rfl
theorem lval_pos : ∀ (k : Nat) (l : List UInt8), l.length = k → (∀ b ∈ l, 48 ≤ b.toNat ∧ b.toNat ≤ 57) → 0 < k → (l.head? ≠ some 48) → lval l ≠ 0
  | 0, _, _, _, h, _ => absurd h (by decide)
  | k + 1, l, hl, hd, _, hh => by
    have hne : l ≠ [] := fun e => by rw [e] at hl; cases hl
    obtain ⟨m, b, rfl⟩ : ∃ m b, l = m ++ [b] := ⟨l.dropLast, l.getLast hne, (List.dropLast_concat_getLast hne).symm⟩
    rw [lval_snoc]
    have hb := hd b (by simp)
    by_cases hm : m = []
    · subst hm
      have : b ≠ 48 := fun e => hh (by rw [e]; rfl)
      have : b.toNat ≠ 48 := fun e => this (UInt8.toNat_inj.1 e)
      simp [lval]
      omega
    · have hk : 0 < k := by
        have : 0 < m.length := List.length_pos_iff.2 hm
        simp at hl; omega
      have := lval_pos k m (by simpa using hl) (fun c hc => hd c (by simp [hc])) hk (by
        cases m with
        | nil => exact absurd rfl hm
        | cons c t => simpa using hh)
      omega
theorem dtext_lval : ∀ (k : Nat) (l : List UInt8), l.length = k → 0 < k → (∀ b ∈ l, 48 ≤ b.toNat ∧ b.toNat ≤ 57) → (k = 1 ∨ l.head? ≠ some 48) → dtext (lval l) = l
  | 0, _, _, h, _, _ => absurd h (by decide)
  | k + 1, l, hl, _, hd, hh => by
    have hne : l ≠ [] := fun e => by rw [e] at hl; cases hl
    obtain ⟨m, b, rfl⟩ : ∃ m b, l = m ++ [b] := ⟨l.dropLast, l.getLast hne, (List.dropLast_concat_getLast hne).symm⟩
    have hb := hd b (by simp)
    have hdm : ∀ c ∈ m, 48 ≤ c.toNat ∧ c.toNat ≤ 57 := fun c hc => hd c (by simp [hc])
    have hml : m.length = k := by simpa using hl
    have hq : (lval m * 10 + (b.toNat - 48)) / 10 = lval m := by omega
    have hr : (lval m * 10 + (b.toNat - 48)) % 10 = b.toNat - 48 := by omega
    rw [lval_snoc]
    by_cases hm : m = []
    · subst hm
      rw [dtext_one (by rw [hq]; rfl), digit_back hb.1 hb.2 hr]
      rfl
    · have hk : 0 < k := by have := List.length_pos_iff.2 hm; omega
      have hhm : m.head? ≠ some 48 := by
        rcases hh with h | h
        · omega
        · cases m with
          | nil => exact absurd rfl hm
          | cons c t => simpa using h
      have hv := lval_pos k m hml hdm hk hhm
      rw [dtext_next (by rw [hq]; exact hv), hq, digit_back hb.1 hb.2 hr, dtext_lval k m hml hk hdm (.inr hhm)]
theorem head_eq (l : List UInt8) (h : 0 < l.length) (e : l.head? = some 48) : (l[0]).toNat = 48 := by
  cases l with
  | nil => exact absurd h (by decide)
  | cons x xs =>
    have : x = 48 := by simpa using e
    subst this
    rfl
theorem text_pv {t : ByteArray} (h : okText t) : textOf (pv t t.size) = t := by
  obtain ⟨h0, hz, hd⟩ := h
  have hs := size_toList t
  have hp : pv t t.size = lval t.data.toList := by unfold pv lval; rw [← hs, List.take_length]
  have hd' : ∀ b ∈ t.data.toList, 48 ≤ b.toNat ∧ b.toNat ≤ 57 := fun b hb => by
    obtain ⟨k, hk, rfl⟩ := List.getElem_of_mem hb
    have := hd k (by omega)
    rwa [get_list t k (by omega)] at this
  have := dtext_lval t.data.toList.length t.data.toList rfl (by omega) hd' (by
    by_cases h1 : t.data.toList.length = 1
    · exact .inl h1
    · right
      intro e
      have hx : (t[0]).toNat = 48 := by
        rw [get_list t 0 h0]
        exact head_eq _ _ e
      have := hz h0 hx
      omega)
  unfold textOf
  rw [hp, this]

theorem minus_join {s : ByteArray} (h : minus s = true) : (⟨#[45]⟩ : ByteArray) ++ behind s = s := by
  unfold behind
  rw [if_pos h]
  unfold minus at h
  apply ByteArray.ext
  apply Array.ext'
  simp only [ByteArray.data_append, ByteArray.data_extract, Array.toList_append, Array.toList_extract]
  have hs : s.size = s.data.toList.length := (size_toList s).symm
  rw [hs]
  cases hc : s.data.toList with
  | nil => rw [hc] at h; cases h
  | cons x xs =>
    rw [hc] at h
    have : x = 45 := by simpa using h
    subst this
    simp
theorem behind_size (s : ByteArray) : (behind s).size ≤ s.size := by
  unfold behind
  split
  · rw [ByteArray.size_extract]; omega
  · exact Nat.le_refl _
theorem parse_res (t : ByteArray) (ht : t.size ≤ 1000) : ∃ (n : Nat) (e : Int), n < Top ∧ (e = 0 → textOf n = t) ∧
    (∀ W, Calls Try.prog 18 #[.string t] W (Made W (.tuple #[.string (bs n), .int .i64 e]))) ∧
    (∀ W, Calls Try.prog 19 #[.string t] W (Made W (.tuple #[.string (bs n), .int .i64 e]))) := by
  have h0 : 0 < Top := by unfold Top; decide
  by_cases hok : okText t
  · by_cases hv : pv t t.size < Top
    · refine ⟨pv t t.size, 0, hv, fun _ => text_pv hok, fun W => (parse_yes t W ht hok).mono (fun _ _ h => ?_), fun W => (rparse_yes t W ht hok).mono (fun _ _ h => ?_)⟩
      · have := parsed_made h; rwa [if_pos hv, if_pos hv] at this
      · have := parsed_made h; rwa [if_pos hv, if_pos hv] at this
    · refine ⟨0, 5, h0, fun e => absurd e (by decide), fun W => (parse_yes t W ht hok).mono (fun _ _ h => ?_), fun W => (rparse_yes t W ht hok).mono (fun _ _ h => ?_)⟩
      · have := parsed_made h; rwa [if_neg hv, if_neg hv] at this
      · have := parsed_made h; rwa [if_neg hv, if_neg hv] at this
  · exact ⟨0, 4, h0, fun e => absurd e (by decide), fun W => (parse_no t W ht hok).mono (fun _ _ h => same_made h), fun W => (rparse_no t W ht hok).mono (fun _ _ h => same_made h)⟩

set_option maxHeartbeats 1000000 in
set_option maxRecDepth 100000 in
theorem riparse_err (s : ByteArray) {n : Nat} {e : Int} (h : e ≠ 0) (w : World) (hs : s.size ≤ 9223372036854775807)
    (C : ∀ W, Calls Try.prog 19 #[.string (behind s)] W (Made W (.tuple #[.string (bs n), .int .i64 e]))) :
    Calls Try.prog 51 #[.string s] w (Made w (.tuple #[(.agg #[.bool (zneg 0), .string (bs (zabs 0))]), .int .i64 e])) := by
  have _ := hs
  have he : (e == 0) = false := by rw [beq_eq_false_iff_ne]; exact h
  rw [iv_zero]
  clear h
  rcases hm : minus s with _ | _
  by_cases h0 : 0 < s.size
  · skip
    have h1 := minus_not hm h0
    have hb : (((s[0]).toNat : Int) == 45) = false := by rw [beq_eq_false_iff_ne]; omega
    rw [show behind s = s by unfold behind; rw [if_neg (by rw [hm]; decide)]] at C
    clear hm h1
    have HP := Lib.hid C
    clear C
    go_enter Try.func51, Try.ntmps51
    go_wp2_with fail
    refine (HP.out _).mono ?_
    rintro e w1 ⟨rfl, hb⟩
    have HB := hb
    clear hb
    obtain ⟨hc, hf⟩ := bcell HB
    have hz : w.heap.size + 0 < w1.heap.size := by have := HB.size; simp at this; omega
    have hB := ((Below.refl w.heap.size w).alloc (Nat.le_refl _) (.cells #[.bool false, .string ⟨#[]⟩] 37)).trans (HB.mono (by simp))
    go_wp2
    exact bodyPost_ret (v := .tuple #[.agg #[.bool false, .string ⟨#[]⟩], .int .i64 e]) (by simp [results, Try.results51, go_sem, hc]) rfl ⟨rfl, (hB.setCell (by simp) _).setCell (by simp) _⟩
  · skip
    rw [show behind s = s by unfold behind; rw [if_neg (by rw [hm]; decide)]] at C
    clear hm
    have HP := Lib.hid C
    clear C
    go_enter Try.func51, Try.ntmps51
    go_wp2_with fail
    refine (HP.out _).mono ?_
    rintro e w1 ⟨rfl, hb⟩
    have HB := hb
    clear hb
    obtain ⟨hc, hf⟩ := bcell HB
    have hz : w.heap.size + 0 < w1.heap.size := by have := HB.size; simp at this; omega
    have hB := ((Below.refl w.heap.size w).alloc (Nat.le_refl _) (.cells #[.bool false, .string ⟨#[]⟩] 37)).trans (HB.mono (by simp))
    go_wp2
    exact bodyPost_ret (v := .tuple #[.agg #[.bool false, .string ⟨#[]⟩], .int .i64 e]) (by simp [results, Try.results51, go_sem, hc]) rfl ⟨rfl, (hB.setCell (by simp) _).setCell (by simp) _⟩
  · skip
    obtain ⟨h0, h1⟩ := minus_pos hm
    have hb : (((s[0]).toNat : Int) == 45) = true := by rw [beq_iff_eq]; omega
    rw [show behind s = s.extract 1 s.size by unfold behind; rw [if_pos hm]] at C
    clear hm h1
    have HP := Lib.hid C
    clear C
    go_enter Try.func51, Try.ntmps51
    go_wp2_with fail
    refine (HP.out _).mono ?_
    rintro e w1 ⟨rfl, hb⟩
    have HB := hb
    clear hb
    obtain ⟨hc, hf⟩ := bcell HB
    have hz : w.heap.size + 0 < w1.heap.size := by have := HB.size; simp at this; omega
    have hB := ((Below.refl w.heap.size w).alloc (Nat.le_refl _) (.cells #[.bool false, .string ⟨#[]⟩] 37)).trans (HB.mono (by simp))
    go_wp2
    exact bodyPost_ret (v := .tuple #[.agg #[.bool false, .string ⟨#[]⟩], .int .i64 e]) (by simp [results, Try.results51, go_sem, hc]) rfl ⟨rfl, (hB.setCell (by simp) _).setCell (by simp) _⟩

set_option maxHeartbeats 1000000 in
set_option maxRecDepth 100000 in
theorem riparse_zero (s : ByteArray) (hm : minus s = true) (w : World) (hs : s.size ≤ 9223372036854775807)
    (C : ∀ W, Calls Try.prog 19 #[.string (behind s)] W (Made W (.tuple #[.string (bs 0), .int .i64 0]))) :
    Calls Try.prog 51 #[.string s] w (Made w (.tuple #[(.agg #[.bool (zneg 0), .string (bs (zabs 0))]), .int .i64 4])) := by
  have _ := hs
  have he : (bs 0).toList.isEmpty = true := by rw [bs_isEmpty]; rfl
  rw [iv_zero]
  · skip
    obtain ⟨h0, h1⟩ := minus_pos hm
    have hb : (((s[0]).toNat : Int) == 45) = true := by rw [beq_iff_eq]; omega
    rw [show behind s = s.extract 1 s.size by unfold behind; rw [if_pos hm]] at C
    clear hm h1
    have HP := Lib.hid C
    clear C
    go_enter Try.func51, Try.ntmps51
    go_wp2_with fail
    refine (HP.out _).mono ?_
    rintro e w1 ⟨rfl, hb⟩
    have HB := hb
    clear hb
    obtain ⟨hc, hf⟩ := bcell HB
    have hz : w.heap.size + 0 < w1.heap.size := by have := HB.size; simp at this; omega
    have hB := ((Below.refl w.heap.size w).alloc (Nat.le_refl _) (.cells #[.bool false, .string ⟨#[]⟩] 37)).trans (HB.mono (by simp))
    go_wp2
    exact bodyPost_ret (v := .tuple #[.agg #[.bool false, .string ⟨#[]⟩], .int .i64 4]) (by simp [results, Try.results51, go_sem, hc]) rfl ⟨rfl, (hB.setCell (by simp) _).setCell (by simp) _⟩

set_option maxHeartbeats 1000000 in
set_option maxRecDepth 100000 in
theorem riparse_pos (s : ByteArray) {n : Nat} (hm : minus s = false) (w : World) (hs : s.size ≤ 9223372036854775807)
    (C : ∀ W, Calls Try.prog 19 #[.string (behind s)] W (Made W (.tuple #[.string (bs n), .int .i64 0]))) :
    Calls Try.prog 51 #[.string s] w (Made w (.tuple #[(.agg #[.bool (zneg (sg false * (n : Int))), .string (bs (zabs (sg false * (n : Int))))]), .int .i64 0])) := by
  have _ := hs
  have HS := Lib.hid (fun W => make_any false n W)
  by_cases h0 : 0 < s.size
  · skip
    have h1 := minus_not hm h0
    have hb : (((s[0]).toNat : Int) == 45) = false := by rw [beq_eq_false_iff_ne]; omega
    rw [show behind s = s by unfold behind; rw [if_neg (by rw [hm]; decide)]] at C
    clear hm h1
    have HP := Lib.hid C
    clear C
    go_enter Try.func51, Try.ntmps51
    go_wp2_with fail
    refine (HP.out _).mono ?_
    rintro e w1 ⟨rfl, hb⟩
    have HB := hb
    clear hb
    obtain ⟨hc, hf⟩ := bcell HB
    go_wp2_with fail
    refine (HS.out _).mono ?_
    rintro e w2 ⟨rfl, hb⟩
    replace HB := HB.trans (hb.mono HB.size)
    clear hb hc hf
    obtain ⟨hc, hf⟩ := bcell HB
    have hz : w.heap.size + 0 < w2.heap.size := by have := HB.size; simp at this; omega
    have hB := ((Below.refl w.heap.size w).alloc (Nat.le_refl _) (.cells #[.bool false, .string ⟨#[]⟩] 37)).trans (HB.mono (by simp))
    go_wp2
    exact bodyPost_ret (v := .tuple #[(.agg #[.bool (zneg (sg false * (n : Int))), .string (bs (zabs (sg false * (n : Int))))]), .int .i64 0]) (by simp [results, Try.results51, go_sem, hc]) rfl ⟨rfl, (hB.setCell (by simp) _).setCell (by simp) _⟩
  · skip
    rw [show behind s = s by unfold behind; rw [if_neg (by rw [hm]; decide)]] at C
    clear hm
    have HP := Lib.hid C
    clear C
    go_enter Try.func51, Try.ntmps51
    go_wp2_with fail
    refine (HP.out _).mono ?_
    rintro e w1 ⟨rfl, hb⟩
    have HB := hb
    clear hb
    obtain ⟨hc, hf⟩ := bcell HB
    go_wp2_with fail
    refine (HS.out _).mono ?_
    rintro e w2 ⟨rfl, hb⟩
    replace HB := HB.trans (hb.mono HB.size)
    clear hb hc hf
    obtain ⟨hc, hf⟩ := bcell HB
    have hz : w.heap.size + 0 < w2.heap.size := by have := HB.size; simp at this; omega
    have hB := ((Below.refl w.heap.size w).alloc (Nat.le_refl _) (.cells #[.bool false, .string ⟨#[]⟩] 37)).trans (HB.mono (by simp))
    go_wp2
    exact bodyPost_ret (v := .tuple #[(.agg #[.bool (zneg (sg false * (n : Int))), .string (bs (zabs (sg false * (n : Int))))]), .int .i64 0]) (by simp [results, Try.results51, go_sem, hc]) rfl ⟨rfl, (hB.setCell (by simp) _).setCell (by simp) _⟩

set_option maxHeartbeats 1000000 in
set_option maxRecDepth 100000 in
theorem riparse_neg (s : ByteArray) {n : Nat} (hm : minus s = true) (hn : n ≠ 0) (w : World) (hs : s.size ≤ 9223372036854775807)
    (C : ∀ W, Calls Try.prog 19 #[.string (behind s)] W (Made W (.tuple #[.string (bs n), .int .i64 0]))) :
    Calls Try.prog 51 #[.string s] w (Made w (.tuple #[(.agg #[.bool (zneg (sg true * (n : Int))), .string (bs (zabs (sg true * (n : Int))))]), .int .i64 0])) := by
  have _ := hs
  have he : (bs n).toList.isEmpty = false := by rw [bs_isEmpty]; simpa using hn
  have HS := Lib.hid (fun W => make_any true n W)
  clear hn
  · skip
    obtain ⟨h0, h1⟩ := minus_pos hm
    have hb : (((s[0]).toNat : Int) == 45) = true := by rw [beq_iff_eq]; omega
    rw [show behind s = s.extract 1 s.size by unfold behind; rw [if_pos hm]] at C
    clear hm h1
    have HP := Lib.hid C
    clear C
    go_enter Try.func51, Try.ntmps51
    go_wp2_with fail
    refine (HP.out _).mono ?_
    rintro e w1 ⟨rfl, hb⟩
    have HB := hb
    clear hb
    obtain ⟨hc, hf⟩ := bcell HB
    go_wp2_with fail
    refine (HS.out _).mono ?_
    rintro e w2 ⟨rfl, hb⟩
    replace HB := HB.trans (hb.mono HB.size)
    clear hb hc hf
    obtain ⟨hc, hf⟩ := bcell HB
    have hz : w.heap.size + 0 < w2.heap.size := by have := HB.size; simp at this; omega
    have hB := ((Below.refl w.heap.size w).alloc (Nat.le_refl _) (.cells #[.bool false, .string ⟨#[]⟩] 37)).trans (HB.mono (by simp))
    go_wp2
    exact bodyPost_ret (v := .tuple #[(.agg #[.bool (zneg (sg true * (n : Int))), .string (bs (zabs (sg true * (n : Int))))]), .int .i64 0]) (by simp [results, Try.results51, go_sem, hc]) rfl ⟨rfl, (hB.setCell (by simp) _).setCell (by simp) _⟩

set_option maxHeartbeats 1000000 in
set_option maxRecDepth 100000 in
theorem iparses_err (s : ByteArray) (b : Bool) (t : ByteArray) (e : Int) (w : World) (hs : s.size ≤ 400) (he : e ≠ 0)
    (C0 : ∀ W, Calls Try.prog 50 #[.string s] W (Made W (.tuple #[.agg #[.bool b, .string t], .int .i64 e])))
    (C1 : ∀ W, Calls Try.prog 51 #[.string s] W (Made W (.tuple #[.agg #[.bool b, .string t], .int .i64 e]))) :
    Calls Try.prog 10 #[.string s] w (Made w (.bool true)) := by
  have H0 := Lib.hid C0
  have H1 := Lib.hid C1
  have hz : (e == 0) = false := by rw [beq_eq_false_iff_ne]; exact he
  clear C0 C1 he
  have HV : Below w.heap.size w w := Below.refl _ _
  go_enter Try.func10, Try.ntmps10
  go_wp2_with fail
  refine (H0.out _).mono ?_
  rintro e u1 ⟨rfl, hb⟩
  replace HV := HV.trans (hb.mono HV.size)
  clear hb
  have K3 := Bk.new u1 #[.bool b, .string t] 37
  replace HV := HV.alloc HV.size (.cells #[.bool b, .string t] 37)
  go_wp2_with fail
  refine (H1.out _).mono ?_
  rintro e u2 ⟨rfl, hb⟩
  replace K3 := K3.below hb
  replace HV := HV.trans (hb.mono HV.size)
  clear hb
  have x0 : u2.cell? ⟨u1.heap.size, 0, none⟩ = some (.bool b) := K3.cell 0
  have x1 : u2.cell? ⟨u1.heap.size, 1, none⟩ = some (.string t) := K3.cell 1
  have x2 : u1.heap.size < u2.heap.size := K3.lt
  replace K3 := K3.alloc (.cells #[.bool b, .string t] 37)
  have K5 := Bk.new u2 #[.bool b, .string t] 37
  replace HV := HV.alloc HV.size (.cells #[.bool b, .string t] 37)
  go_wp2_with fail
  refine (iawake_any _).mono ?_
  rintro e' ua ⟨rfl, hb⟩
  replace K3 := K3.below hb
  replace K5 := K5.below hb
  replace HV := HV.trans (hb.mono HV.size)
  clear hb
  go_wp2
  go_ret
  exact ⟨rfl, HV⟩

set_option maxHeartbeats 1000000 in
set_option maxRecDepth 100000 in
theorem iparses_ok (s : ByteArray) (b : Bool) (t : ByteArray) (w : World) (hs : s.size ≤ 400)
    (C0 : ∀ W, Calls Try.prog 50 #[.string s] W (Made W (.tuple #[.agg #[.bool b, .string t], .int .i64 0])))
    (C1 : ∀ W, Calls Try.prog 51 #[.string s] W (Made W (.tuple #[.agg #[.bool b, .string t], .int .i64 0])))
    (C2 : ∀ W, Calls Try.prog 48 #[.agg #[.bool b, .string t]] W (Made W (.tuple #[.string s, .int .i64 0]))) :
    Calls Try.prog 10 #[.string s] w (Made w (.bool true)) := by
  have H0 := Lib.hid C0
  have H1 := Lib.hid C1
  have H2 := Lib.hid C2
  clear C0 C1 C2
  have HV : Below w.heap.size w w := Below.refl _ _
  go_enter Try.func10, Try.ntmps10
  go_wp2_with fail
  refine (H0.out _).mono ?_
  rintro e u1 ⟨rfl, hb⟩
  replace HV := HV.trans (hb.mono HV.size)
  clear hb
  have K3 := Bk.new u1 #[.bool b, .string t] 37
  replace HV := HV.alloc HV.size (.cells #[.bool b, .string t] 37)
  go_wp2_with fail
  refine (H1.out _).mono ?_
  rintro e u2 ⟨rfl, hb⟩
  replace K3 := K3.below hb
  replace HV := HV.trans (hb.mono HV.size)
  clear hb
  have x0 : u2.cell? ⟨u1.heap.size, 0, none⟩ = some (.bool b) := K3.cell 0
  have x1 : u2.cell? ⟨u1.heap.size, 1, none⟩ = some (.string t) := K3.cell 1
  have x2 : u1.heap.size < u2.heap.size := K3.lt
  replace K3 := K3.alloc (.cells #[.bool b, .string t] 37)
  have K5 := Bk.new u2 #[.bool b, .string t] 37
  replace HV := HV.alloc HV.size (.cells #[.bool b, .string t] 37)
  go_wp2_with fail
  refine (H2.out _).mono ?_
  rintro e u3 ⟨rfl, hb⟩
  replace K3 := K3.below hb
  replace K5 := K5.below hb
  replace HV := HV.trans (hb.mono HV.size)
  clear hb
  go_wp2_with fail
  refine (iawake_any _).mono ?_
  rintro e' ua ⟨rfl, hb⟩
  replace K3 := K3.below hb
  replace K5 := K5.below hb
  replace HV := HV.trans (hb.mono HV.size)
  clear hb
  go_wp2
  go_ret
  exact ⟨rfl, HV⟩

set_option maxHeartbeats 1000000 in
set_option maxRecDepth 100000 in
theorem law_iparses (s : ByteArray) (w : World) (hs : s.size ≤ 9223372036854775807) :
    Calls Try.prog 10 #[.string s] w (Made w (.bool true)) := by
  by_cases h4 : 400 < s.size
  · have HV : Below w.heap.size w w := Below.refl _ _
    go_enter Try.func10, Try.ntmps10
    go_wp2_with fail
    refine (iawake_any _).mono ?_
    rintro e' ua ⟨rfl, hb⟩
    replace HV := HV.trans (hb.mono HV.size)
    go_wp2
    go_ret
    exact ⟨rfl, HV⟩
  have hb := behind_size s
  obtain ⟨n, e, hn, ht, c0, c1⟩ := parse_res (behind s) (by omega)
  by_cases he : e = 0
  · subst he
    have ht := ht rfl
    rcases hm : minus s with _ | _
    · have hz : zabs (sg false * (n : Int)) < Top := by rw [zabs_sg]; exact hn
      refine iparses_ok s _ _ w (by omega) (fun W => iparse_pos s hm W hs c0) (fun W => riparse_pos s hm W hs c1) (fun W => ?_)
      have := itext_yes hz W
      unfold itext at this
      rw [zneg_sg false n (fun _ => rfl), if_neg (by decide), zabs_sg, ht, show behind s = s by unfold behind; rw [if_neg (by rw [hm]; decide)]] at this
      rwa [zneg_sg false n (fun _ => rfl), zabs_sg]
    · by_cases h0 : n = 0
      · subst h0
        exact iparses_err s _ _ 4 w (by omega) (by decide) (fun W => iparse_zero s hm W hs c0) (fun W => riparse_zero s hm W hs c1)
      · have hz : zabs (sg true * (n : Int)) < Top := by rw [zabs_sg]; exact hn
        refine iparses_ok s _ _ w (by omega) (fun W => iparse_neg s hm h0 W hs c0) (fun W => riparse_neg s hm h0 W hs c1) (fun W => ?_)
        have := itext_yes hz W
        unfold itext at this
        rw [zneg_sg true n (fun e => absurd e h0), if_pos rfl, zabs_sg, ht, minus_join hm] at this
        rwa [zneg_sg true n (fun e => absurd e h0), zabs_sg]
  · exact iparses_err s _ _ e w (by omega) he (fun W => iparse_err s he W hs c0) (fun W => riparse_err s he W hs c1)

end Go.Proofs.Ytehpdpcpdfgnlaa
