/-
  A way to reckon hashes that the kernel can follow: numbers that are reckoned at once, and that it is the hash.
-/
import Derived.Test.YtgchfponmaangaaShaN
namespace Go.Proofs.Ytgchfponmaangaa
open Go.RowKit
/-- f of n, n reckoned first. -/
def force {α : Type} (n : Nat) (f : Nat → α) : α :=
  match n with
  | 0 => f 0
  | Nat.succ k => f (Nat.succ k)
theorem force_eq {α : Type} (n : Nat) (f : Nat → α) : force n f = f n := by cases n <;> rfl
def rotN (x n : Nat) : Nat := Nat.lor (Nat.shiftRight x n) (Nat.mod (Nat.shiftLeft x (Nat.sub 32 n)) 4294967296)
def sg0N (x : Nat) : Nat := Nat.xor (Nat.xor (rotN x 7) (rotN x 18)) (Nat.div x 8)
def sg1N (x : Nat) : Nat := Nat.xor (Nat.xor (rotN x 17) (rotN x 19)) (Nat.div x 1024)
def ttN (e f g h k w : Nat) : Nat := Nat.mod (Nat.add (Nat.add (Nat.add (Nat.add h (Nat.xor (Nat.xor (rotN e 6) (rotN e 11)) (rotN e 25))) (Nat.xor (Nat.land e f) (Nat.land (Nat.xor 4294967295 e) g))) k) w) 4294967296
def uuN (a b c : Nat) : Nat := Nat.mod (Nat.add (Nat.xor (Nat.xor (rotN a 2) (rotN a 13)) (rotN a 22)) (Nat.xor (Nat.xor (Nat.land a b) (Nat.land a c)) (Nat.land b c))) 4294967296
def M32 : Nat := 4294967296
theorem rot_lt (x n : Nat) (hx : x < M32) : rotN x n < M32 := by
  unfold rotN M32
  have h1 : x >>> n < 2 ^ 32 := Nat.lt_of_le_of_lt (Nat.shiftRight_le x n) hx
  have h2 : (x <<< (32 - n)) % 4294967296 < 2 ^ 32 := Nat.mod_lt _ (by decide)
  exact Nat.or_lt_two_pow h1 h2
theorem rot_cast (x n : Nat) (hx : x < M32) : rotI (x : Int) (n : Int) = (rotN x n : Nat) := by
  unfold rotI
  have h1 : x >>> n < 4294967296 := Nat.lt_of_le_of_lt (Nat.shiftRight_le x n) hx
  have h2 : (x <<< (32 - n)) % 4294967296 < 4294967296 := Nat.mod_lt _ (by decide)
  have e1 : (x : Int) / 2 ^ ((n : Int).toNat) = ((x >>> n : Nat) : Int) := by
    rw [Nat.shiftRight_eq_div_pow, Int.toNat_natCast]; simp
  have e2 : (x : Int) * 2 ^ ((32 - (n : Int)).toNat) % 4294967296 = (((x <<< (32 - n)) % 4294967296 : Nat) : Int) := by
    rw [Nat.shiftLeft_eq, show (32 - (n : Int)).toNat = 32 - n from by omega]; simp
  rw [e1, e2, u32_or_nat _ _ h1 h2]
  rfl
theorem xor_c (a b : Nat) (ha : a < M32) (hb : b < M32) : bits .xor .u32 (a : Int) (b : Int) = (Nat.xor a b : Nat) := u32_xor_nat a b ha hb
theorem and_c (a b : Nat) (ha : a < M32) (hb : b < M32) : bits .and .u32 (a : Int) (b : Int) = (Nat.land a b : Nat) := u32_and_nat a b ha hb
theorem xor_lt (a b : Nat) (ha : a < M32) (hb : b < M32) : Nat.xor a b < M32 := Nat.xor_lt_two_pow (n := 32) ha hb
theorem and_lt (a b : Nat) (ha : a < M32) : Nat.land a b < M32 := Nat.lt_of_le_of_lt Nat.and_le_left ha
theorem sg0_cast (x : Nat) (hx : x < M32) : sg0 (x : Int) = (sg0N x : Nat) := by
  unfold sg0 sg0N
  have h8 : Nat.div x 8 < M32 := Nat.lt_of_le_of_lt (Nat.div_le_self x 8) hx
  rw [show (7 : Int) = ((7 : Nat) : Int) from rfl, show (18 : Int) = ((18 : Nat) : Int) from rfl, rot_cast x 7 hx, rot_cast x 18 hx, xor_c _ _ (rot_lt x 7 hx) (rot_lt x 18 hx)]
  exact xor_c _ _ (xor_lt _ _ (rot_lt x 7 hx) (rot_lt x 18 hx)) h8
theorem sg1_cast (x : Nat) (hx : x < M32) : sg1 (x : Int) = (sg1N x : Nat) := by
  unfold sg1 sg1N
  have h8 : Nat.div x 1024 < M32 := Nat.lt_of_le_of_lt (Nat.div_le_self x 1024) hx
  rw [show (17 : Int) = ((17 : Nat) : Int) from rfl, show (19 : Int) = ((19 : Nat) : Int) from rfl, rot_cast x 17 hx, rot_cast x 19 hx, xor_c _ _ (rot_lt x 17 hx) (rot_lt x 19 hx)]
  exact xor_c _ _ (xor_lt _ _ (rot_lt x 17 hx) (rot_lt x 19 hx)) h8
theorem no32_cast : no32 = ((4294967295 : Nat) : Int) := by decide
theorem tt_cast (e f g h k w : Nat) (he : e < M32) (hf : f < M32) (hg : g < M32) : tt (e : Int) (f : Int) (g : Int) (h : Int) (k : Int) (w : Int) = (ttN e f g h k w : Nat) := by
  unfold tt
  have h6 := rot_lt e 6 he
  have h11 := rot_lt e 11 he
  have h25 := rot_lt e 25 he
  have hn : Nat.xor 4294967295 e < M32 := xor_lt _ _ (by decide) he
  rw [no32_cast, show (6 : Int) = ((6 : Nat) : Int) from rfl, show (11 : Int) = ((11 : Nat) : Int) from rfl, show (25 : Int) = ((25 : Nat) : Int) from rfl, rot_cast e 6 he, rot_cast e 11 he, rot_cast e 25 he,
    xor_c _ _ h6 h11, xor_c _ _ (xor_lt _ _ h6 h11) h25, and_c e f he hf, xor_c 4294967295 e (by decide) he, and_c _ g hn hg, xor_c _ _ (and_lt e f he) (and_lt _ g hn)]
  unfold ttN
  generalize Nat.xor (Nat.xor (rotN e 6) (rotN e 11)) (rotN e 25) = A
  generalize Nat.xor (Nat.land e f) (Nat.land (Nat.xor 4294967295 e) g) = B
  show _ = ((((h + A + B + k + w) % 4294967296 : Nat)) : Int)
  omega
theorem uu_cast (a b c : Nat) (ha : a < M32) (hb : b < M32) (hc : c < M32) : uu (a : Int) (b : Int) (c : Int) = (uuN a b c : Nat) := by
  unfold uu
  have h2 := rot_lt a 2 ha
  have h13 := rot_lt a 13 ha
  have h22 := rot_lt a 22 ha
  rw [show (2 : Int) = ((2 : Nat) : Int) from rfl, show (13 : Int) = ((13 : Nat) : Int) from rfl, show (22 : Int) = ((22 : Nat) : Int) from rfl, rot_cast a 2 ha, rot_cast a 13 ha, rot_cast a 22 ha,
    xor_c _ _ h2 h13, xor_c _ _ (xor_lt _ _ h2 h13) h22, and_c a b ha hb, and_c a c ha hc, xor_c _ _ (and_lt a b ha) (and_lt a c ha), and_c b c hb hc, xor_c _ _ (xor_lt _ _ (and_lt a b ha) (and_lt a c ha)) (and_lt b c hb)]
  unfold uuN
  generalize Nat.xor (Nat.xor (rotN a 2) (rotN a 13)) (rotN a 22) = A
  generalize Nat.xor (Nat.xor (Nat.land a b) (Nat.land a c)) (Nat.land b c) = B
  show _ = ((((A + B) % 4294967296 : Nat)) : Int)
  omega
end Go.Proofs.Ytgchfponmaangaa

namespace Go.Proofs.Ytgchfponmaangaa
open Go.RowKit
def castL (l : List Nat) : List Int := l.map fun (x : Nat) => (x : Int)
theorem castL_getD (l : List Nat) (k : Nat) : (castL l).getD k 0 = ((l.getD k 0 : Nat) : Int) := by
  unfold castL
  simp only [List.getD_eq_getElem?_getD, List.getElem?_map]
  cases l[k]? <;> rfl
/-- The words of a block. -/
def wordN (a b c d : UInt8) : Nat := Nat.add (Nat.mul (Nat.add (Nat.mul (Nat.add (Nat.mul a.toNat 256) b.toNat) 256) c.toNat) 256) d.toNat
def wordsL : List UInt8 → List Nat
  | a :: b :: c :: d :: l => wordN a b c d :: wordsL l
  | _ => []
def rwL : List UInt8 → List Nat → List Nat
  | a :: b :: c :: d :: l, acc => force (wordN a b c d) fun v => rwL l (v :: acc)
  | _, acc => acc
theorem rwL_eq (n : Nat) : ∀ (B : List UInt8) (acc : List Nat), B.length ≤ n → rwL B acc = (wordsL B).reverse ++ acc := by
  induction n with
  | zero => intro B acc h; match B, h with | [], _ => rfl
  | succ n ih =>
    intro B acc h
    match B, h with
    | [], _ => rfl
    | [_], _ => rfl
    | [_, _], _ => rfl
    | [_, _, _], _ => rfl
    | a :: b :: c :: d :: l, h =>
      have hl : l.length ≤ n := by simp at h; omega
      show force (wordN a b c d) (fun v => rwL l (v :: acc)) = (wordN a b c d :: wordsL l).reverse ++ acc
      rw [force_eq, ih l _ hl]
      simp
theorem wordsL_getD (j : Nat) : ∀ (B : List UInt8), 4 * j + 4 ≤ B.length → (wordsL B).getD j 0 = wordN (B.getD (4 * j) 0) (B.getD (4 * j + 1) 0) (B.getD (4 * j + 2) 0) (B.getD (4 * j + 3) 0) := by
  induction j with
  | zero =>
    intro B h
    match B, h with
    | a :: b :: c :: d :: l, _ => rfl
  | succ j ih =>
    intro B h
    match B, h with
    | a :: b :: c :: d :: l, h =>
      have hl : 4 * j + 4 ≤ l.length := by simp at h; omega
      have := ih l hl
      show (wordN a b c d :: wordsL l).getD (j + 1) 0 = _
      rw [List.getD_cons_succ, this]
      rw [show 4 * (j + 1) = 4 * j + 1 + 1 + 1 + 1 from by omega]
      simp only [List.getD_cons_succ]
theorem wordsL_length (n : Nat) : ∀ (B : List UInt8), B.length = 4 * n → (wordsL B).length = n := by
  induction n with
  | zero => intro B h; match B, h with | [], _ => rfl
  | succ n ih =>
    intro B h
    match B, h with
    | a :: b :: c :: d :: l, h =>
      have hl : l.length = 4 * n := by simp at h; omega
      show (wordN a b c d :: wordsL l).length = n + 1
      rw [List.length_cons, ih l hl]
theorem word_lt (a b c d : UInt8) : wordN a b c d < M32 := by
  have := a.toNat_lt; have := b.toNat_lt; have := c.toNat_lt; have := d.toNat_lt
  show ((a.toNat * 256 + b.toNat) * 256 + c.toNat) * 256 + d.toNat < 4294967296
  omega
theorem word_sh8 (a b c d : UInt8) : sh8 (sh8 (sh8 (sh8 0 a) b) c) d = (wordN a b c d : Nat) := by
  have := a.toNat_lt; have := b.toNat_lt; have := c.toNat_lt; have := d.toNat_lt
  unfold sh8
  show _ = ((((a.toNat * 256 + b.toNat) * 256 + c.toNat) * 256 + d.toNat : Nat) : Int)
  omega
theorem getD_set (l : List Int) (i j : Nat) (x : Int) (hi : i < l.length) : (l.set i x).getD j 0 = if i = j then x else l.getD j 0 := by
  simp only [List.getD_eq_getElem?_getD, List.getElem?_set]
  by_cases h : i = j
  · subst h; simp [hi]
  · simp [h]
theorem ldw_step (B : List UInt8) (n j : Nat) (hn : n < 64) : (ldw B (n + 1)).getD j 0 = if n / 4 = j then sh8 ((ldw B n).getD j 0) (B.getD n 0) else (ldw B n).getD j 0 := by
  rw [ldw, getD_set _ _ _ _ (by rw [ldw_length]; omega)]
  by_cases h : n / 4 = j
  · rw [if_pos h, if_pos h, h]
  · rw [if_neg h, if_neg h]
theorem ldw_before (B : List UInt8) (j n : Nat) (h : n ≤ 4 * j) (hn : n ≤ 64) : (ldw B n).getD j 0 = 0 := by
  induction n with
  | zero =>
    show (List.replicate 64 (0 : Int)).getD j 0 = 0
    rw [List.getD_eq_getElem?_getD, List.getElem?_replicate]
    split <;> rfl
  | succ n ih => rw [ldw_step B n j (by omega), if_neg (by omega), ih (by omega) (by omega)]
theorem ldw_after (B : List UInt8) (j n : Nat) (hj : j < 16) (hn : n ≤ 60 - 4 * j) : (ldw B (4 * j + 4 + n)).getD j 0 = (wordN (B.getD (4 * j) 0) (B.getD (4 * j + 1) 0) (B.getD (4 * j + 2) 0) (B.getD (4 * j + 3) 0) : Nat) := by
  induction n with
  | zero =>
    show (ldw B (4 * j + 3 + 1)).getD j 0 = _
    rw [ldw_step B _ j (by omega), if_pos (by omega), ldw_step B (4 * j + 2) j (by omega), if_pos (by omega), ldw_step B (4 * j + 1) j (by omega), if_pos (by omega), ldw_step B (4 * j) j (by omega), if_pos (by omega), ldw_before B j (4 * j) (Nat.le_refl _) (by omega), word_sh8]
  | succ n ih => rw [← Nat.add_assoc, ldw_step B _ j (by omega), if_neg (by omega), ih (by omega)]
theorem ldw_words (B : List UInt8) (hB : B.length = 64) (j : Nat) (hj : j < 16) : (ldw B 64).getD j 0 = ((wordsL B).getD j 0 : Nat) := by
  have := ldw_after B j (60 - 4 * j) hj (Nat.le_refl _)
  rw [show 4 * j + 4 + (60 - 4 * j) = 64 from by omega] at this
  rw [this, wordsL_getD j B (by omega)]
theorem ext_step (B : List UInt8) (n j : Nat) (hn : n < 48) : (ext B (n + 1)).getD j 0 = if 16 + n = j then nxt (ext B n) (16 + n) else (ext B n).getD j 0 := by
  rw [ext, getD_set _ _ _ _ (by rw [ext_length]; omega)]
theorem ext_keep (B : List UInt8) (j m n : Nat) (hj : j < 16 + m) (hn : m + n ≤ 48) : (ext B (m + n)).getD j 0 = (ext B m).getD j 0 := by
  induction n with
  | zero => rfl
  | succ n ih => rw [← Nat.add_assoc, ext_step B _ j (by omega), if_neg (by omega), ih (by omega)]
theorem nxt_congr (l m : List Int) (i : Nat) (hi : 16 ≤ i) (h : ∀ j, j < i → l.getD j 0 = m.getD j 0) : nxt l i = nxt m i := by
  unfold nxt
  rw [h _ (show i - 16 < i by omega), h _ (show i - 15 < i by omega), h _ (show i - 7 < i by omega), h _ (show i - 2 < i by omega)]
theorem sched_low (B : List UInt8) (j : Nat) (hj : j < 16) : (sched B).getD j 0 = (ldw B 64).getD j 0 := by
  have := ext_keep B j 0 48 (by omega) (by omega)
  exact this
theorem sched_high (B : List UInt8) (i : Nat) (h1 : 16 ≤ i) (h2 : i < 64) : (sched B).getD i 0 = nxt (sched B) i := by
  have hk := fun j (hj : j < i) => ext_keep B j (i - 16) (64 - i) (by omega) (by omega)
  have e1 := ext_keep B i (i - 16 + 1) (63 - i) (by omega) (by omega)
  rw [show i - 16 + 1 + (63 - i) = 48 from by omega] at e1
  rw [show i - 16 + (64 - i) = 48 from by omega] at hk
  show (ext B 48).getD i 0 = nxt (ext B 48) i
  rw [e1, ext_step B _ i (by omega), if_pos (by omega), show 16 + (i - 16) = i from by omega]
  exact nxt_congr _ _ i h1 fun j hj => (hk j hj).symm
def nxtN (R : List Nat) : Nat := Nat.mod (Nat.add (Nat.add (Nat.add (R.getD 15 0) (sg0N (R.getD 14 0))) (R.getD 6 0)) (sg1N (R.getD 1 0))) 4294967296
def extN : Nat → List Nat → List Nat
  | 0, R => R
  | n + 1, R => force (nxtN R) fun v => extN n (v :: R)
/-- R holds the first i words of W, the last one first. -/
def Rev (W : List Int) (i : Nat) (R : List Nat) : Prop := R.length = i ∧ (∀ k, k < i → ((R.getD k 0 : Nat) : Int) = W.getD (i - 1 - k) 0) ∧ ∀ k, R.getD k 0 < M32
theorem Rev.next {W : List Int} {i : Nat} {R : List Nat} (h : Rev W i R) (hi : 16 ≤ i) : ((nxtN R : Nat) : Int) = nxt W i := by
  obtain ⟨_, h1, h2⟩ := h
  unfold nxt
  rw [show i - 16 = i - 1 - 15 from by omega, show i - 15 = i - 1 - 14 from by omega, show i - 7 = i - 1 - 6 from by omega, show i - 2 = i - 1 - 1 from by omega, ← h1 15 (by omega), ← h1 14 (by omega), ← h1 6 (by omega), ← h1 1 (by omega), sg0_cast _ (h2 14), sg1_cast _ (h2 1)]
  show (((R.getD 15 0 + sg0N (R.getD 14 0) + R.getD 6 0 + sg1N (R.getD 1 0)) % 4294967296 : Nat) : Int) = _
  omega
theorem Rev.cons {W : List Int} {i : Nat} {R : List Nat} (h : Rev W i R) (v : Nat) (hv : (v : Int) = W.getD i 0) (hb : v < M32) : Rev W (i + 1) (v :: R) := by
  obtain ⟨h0, h1, h2⟩ := h
  refine ⟨by simp [h0], ?_, ?_⟩
  · intro k hk
    cases k with
    | zero => simpa using hv
    | succ k =>
      rw [List.getD_cons_succ, h1 k (by omega)]
      rw [show i + 1 - 1 - (k + 1) = i - 1 - k from by omega]
  · intro k
    cases k with
    | zero => simpa using hb
    | succ k => rw [List.getD_cons_succ]; exact h2 k
theorem Rev.ext {B : List UInt8} (n : Nat) : ∀ (i : Nat) (R : List Nat), Rev (sched B) i R → 16 ≤ i → i + n ≤ 64 → Rev (sched B) (i + n) (extN n R) := by
  induction n with
  | zero => intro i R h _ _; exact h
  | succ n ih =>
    intro i R h hi hn
    rw [extN, force_eq, show i + (n + 1) = i + 1 + n from by omega]
    refine ih (i + 1) _ (h.cons _ ?_ ?_) (by omega) (by omega)
    · rw [h.next hi, sched_high B i hi (by omega)]
    · exact Nat.mod_lt _ (by decide)
theorem Rev.start (B : List UInt8) (hB : B.length = 64) : Rev (sched B) 16 (rwL B []) := by
  rw [rwL_eq 64 B [] (by omega), List.append_nil]
  have hl := wordsL_length 16 B hB
  have hg : ∀ k, k < 16 → (wordsL B).reverse.getD k 0 = (wordsL B).getD (15 - k) 0 := by
    intro k hk
    simp only [List.getD_eq_getElem?_getD]
    rw [List.getElem?_reverse (by omega), hl]
  refine ⟨by simp [hl], ?_, ?_⟩
  · intro k hk
    rw [hg k hk, sched_low B _ (by omega), ldw_words B hB _ (by omega)]
  · intro k
    rcases Nat.lt_or_ge k 16 with h | h
    · rw [hg k h, wordsL_getD _ B (by omega)]; exact word_lt _ _ _ _
    · rw [List.getD_eq_getElem?_getD, List.getElem?_eq_none (by simp; omega)]; decide
theorem Rev.list {W : List Int} {R : List Nat} (h : Rev W 64 R) (hW : W.length = 64) : castL R.reverse = W := by
  obtain ⟨h0, h1, _⟩ := h
  apply List.ext_getElem
  · simp [castL, h0, hW]
  · intro k hk1 hk2
    have := h1 (63 - k) (by omega)
    rw [show 64 - 1 - (63 - k) = k from by omega] at this
    simp only [List.getD_eq_getElem?_getD] at this
    rw [List.getElem?_eq_getElem (by omega), List.getElem?_eq_getElem hk2] at this
    simp only [Option.getD_some] at this
    simp only [castL, List.getElem_map, List.getElem_reverse, h0]
    simpa using this
end Go.Proofs.Ytgchfponmaangaa

namespace Go.Proofs.Ytgchfponmaangaa
open Go.RowKit
def kkN : List Nat := [1116352408, 1899447441, 3049323471, 3921009573, 961987163, 1508970993, 2453635748, 2870763221, 3624381080, 310598401, 607225278, 1426881987, 1925078388, 2162078206, 2614888103, 3248222580, 3835390401, 4022224774, 264347078, 604807628, 770255983, 1249150122, 1555081692, 1996064986, 2554220882, 2821834349, 2952996808, 3210313671, 3336571891, 3584528711, 113926993, 338241895, 666307205, 773529912, 1294757372, 1396182291, 1695183700, 1986661051, 2177026350, 2456956037, 2730485921, 2820302411, 3259730800, 3345764771, 3516065817, 3600352804, 4094571909, 275423344, 430227734, 506948616, 659060556, 883997877, 958139571, 1322822218, 1537002063, 1747873779, 1955562222, 2024104815, 2227730452, 2361852424, 2428436474, 2756734187, 3204031479, 3329325298]
def ivN : List Nat := [1779033703, 3144134277, 1013904242, 2773480762, 1359893119, 2600822924, 528734635, 1541459225]
theorem kk_cast : kk = castL kkN := by decide
theorem iv_cast : iv = castL ivN := by decide
/-- The rounds, on lists. -/
def rdl : St → List Int → List Int → St
  | s, k :: ks, w :: ws => rdl (rnd s k w) ks ws
  | s, _, _ => s
theorem rdl_snoc (ks : List Int) : ∀ (s : St) (ws : List Int) (k w : Int), ks.length = ws.length → rdl s (ks ++ [k]) (ws ++ [w]) = rnd (rdl s ks ws) k w := by
  induction ks with
  | nil => intro s ws k w h; match ws, h with | [], _ => rfl
  | cons a ks ih =>
    intro s ws k w h
    match ws, h with
    | b :: ws, h => exact ih (rnd s a b) ws k w (by simpa using h)
theorem rd_rdl (s : St) (K W : List Int) (n : Nat) (hK : n ≤ K.length) (hW : n ≤ W.length) : rd s K W n = rdl s (K.take n) (W.take n) := by
  induction n with
  | zero => rfl
  | succ n ih =>
    rw [List.take_succ_eq_append_getElem (by omega), List.take_succ_eq_append_getElem (by omega), rdl_snoc _ _ _ _ _ (by simp; omega), ← ih (by omega) (by omega)]
    show rnd (rd s K W n) (K.getD n 0) (W.getD n 0) = _
    rw [List.getD_eq_getElem?_getD, List.getD_eq_getElem?_getD, List.getElem?_eq_getElem (by omega), List.getElem?_eq_getElem (by omega)]
    rfl
def evR : List Nat → List Nat → Nat → Nat → Nat → Nat → Nat → Nat → Nat → Nat → List Nat
  | k :: ks, w :: ws, a, b, c, d, e, f, g, h => force (ttN e f g h k w) fun t => force (Nat.mod (Nat.add t (uuN a b c)) 4294967296) fun a1 => force (Nat.mod (Nat.add d t) 4294967296) fun e1 => evR ks ws a1 a b c e1 e f g
  | _, _, a, b, c, d, e, f, g, h => [a, b, c, d, e, f, g, h]
theorem evR_ok (ks : List Nat) : ∀ (ws : List Nat) (a b c d e f g h : Nat), a < M32 → b < M32 → c < M32 → d < M32 → e < M32 → f < M32 → g < M32 → h < M32 →
    castL (evR ks ws a b c d e f g h) = (rdl ⟨a, b, c, d, e, f, g, h⟩ (castL ks) (castL ws)).l := by
  induction ks with
  | nil => intro ws a b c d e f g h _ _ _ _ _ _ _ _; rfl
  | cons k ks ih =>
    intro ws a b c d e f g h ha hb hc hd he hf hg hh
    match ws with
    | [] => rfl
    | w :: ws =>
      show castL (force (ttN e f g h k w) fun t => force (Nat.mod (Nat.add t (uuN a b c)) 4294967296) fun a1 => force (Nat.mod (Nat.add d t) 4294967296) fun e1 => evR ks ws a1 a b c e1 e f g) = _
      have h1 : Nat.mod (Nat.add (ttN e f g h k w) (uuN a b c)) 4294967296 < M32 := Nat.mod_lt _ (by decide)
      have h2 : Nat.mod (Nat.add d (ttN e f g h k w)) 4294967296 < M32 := Nat.mod_lt _ (by decide)
      rw [force_eq, force_eq, force_eq, ih ws _ a b c _ e f g h1 ha hb hc h2 he hf hg]
      show _ = (rdl (rnd ⟨a, b, c, d, e, f, g, h⟩ k w) (castL ks) (castL ws)).l
      congr 2
      unfold rnd
      rw [tt_cast e f g h k w he hf hg, uu_cast a b c ha hb hc]
      congr 1
def addN : List Nat → List Nat → List Nat
  | a :: l, b :: m => Nat.mod (Nat.add a b) 4294967296 :: addN l m
  | _, _ => []
def evB (st : List Nat) (B : List UInt8) : List Nat :=
  match st with
  | [a, b, c, d, e, f, g, h] => addN (evR kkN (extN 48 (rwL B [])).reverse a b c d e f g h) st
  | _ => []
theorem addn_cast (a b c d e f g h a' b' c' d' e' f' g' h' : Nat) : addn (castL [a, b, c, d, e, f, g, h]) (castL [a', b', c', d', e', f', g', h']) 8 = castL (addN [a, b, c, d, e, f, g, h] [a', b', c', d', e', f', g', h']) := by
  simp [addn, castL, addN]
  refine ⟨?_, ?_, ?_, ?_, ?_, ?_, ?_, ?_⟩ <;> exact (Int.natCast_emod _ _).symm
theorem evR_length (ks : List Nat) : ∀ (ws : List Nat) (a b c d e f g h : Nat), ∃ a' b' c' d' e' f' g' h', evR ks ws a b c d e f g h = [a', b', c', d', e', f', g', h'] := by
  induction ks with
  | nil => intro ws a b c d e f g h; exact ⟨_, _, _, _, _, _, _, _, rfl⟩
  | cons k ks ih =>
    intro ws a b c d e f g h
    match ws with
    | [] => exact ⟨_, _, _, _, _, _, _, _, rfl⟩
    | w :: ws =>
      show ∃ a' b' c' d' e' f' g' h', (force (ttN e f g h k w) fun t => force (Nat.mod (Nat.add t (uuN a b c)) 4294967296) fun a1 => force (Nat.mod (Nat.add d t) 4294967296) fun e1 => evR ks ws a1 a b c e1 e f g) = _
      rw [force_eq, force_eq, force_eq]
      exact ih ws _ _ _ _ _ _ _ _
theorem blk_ev (a b c d e f g h : Nat) (ha : a < M32) (hb : b < M32) (hc : c < M32) (hd : d < M32) (he : e < M32) (hf : f < M32) (hg : g < M32) (hh : h < M32) (B : List UInt8) (hB : B.length = 64) :
    blk (castL [a, b, c, d, e, f, g, h]) B = castL (evB [a, b, c, d, e, f, g, h] B) := by
  have hR := (Rev.start B hB).ext 48 16 _ (Nat.le_refl _) (by omega)
  have hL := hR.list (sched_length B)
  unfold blk
  rw [show St.of (castL [a, b, c, d, e, f, g, h]) = ⟨a, b, c, d, e, f, g, h⟩ from rfl]
  rw [rd_rdl _ _ _ 64 (by decide) (by rw [sched_length]; omega), List.take_of_length_le (by decide), List.take_of_length_le (by rw [sched_length]; omega), kk_cast, ← hL, ← evR_ok _ _ _ _ _ _ _ _ _ _ ha hb hc hd he hf hg hh]
  unfold evB
  obtain ⟨a', b', c', d', e', f', g', h', hE⟩ := evR_length kkN (extN 48 (rwL B [])).reverse a b c d e f g h
  show addn (castL (evR kkN (extN 48 (rwL B [])).reverse a b c d e f g h)) _ 8 = castL (addN (evR kkN (extN 48 (rwL B [])).reverse a b c d e f g h) [a, b, c, d, e, f, g, h])
  rw [hE]
  exact addn_cast _ _ _ _ _ _ _ _ _ _ _ _ _ _ _ _
end Go.Proofs.Ytgchfponmaangaa
