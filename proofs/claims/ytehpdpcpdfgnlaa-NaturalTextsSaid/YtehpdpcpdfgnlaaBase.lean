/-
  Strings of bytes as natural numbers, and facts about memory that the walks use.
-/
import Derived.Test.YtehpdpcpdfgnlaaNum
import Derived.Test.YtehpdpcpdfgnlaaProg
import Derived.WalkKit
import Derived.WalkSpells
import Derived.WalkLawsBesides
import Derived.BigQuiet
import Derived.Deep.QuietTactic
import Derived.Lib.Hide
import Derived.Laws.OwnMore
import Derived.Laws.IdiomStrings
namespace Go.Proofs.Ytehpdpcpdfgnlaa
open Go.RowKit Num

/-- The canonical string of a number. -/
def bs (n : Nat) : ByteArray := ⟨(cb n).toArray⟩
/-- Whether a string is a canonical number of at most 128 bytes. -/
def validB (s : ByteArray) : Bool := decide (s.size ≤ 128) && (s.data.toList.head? != some 0)
/-- The first number of 129 bytes. -/
def Top : Nat := 256 ^ 128

theorem size_toList (s : ByteArray) : s.data.toList.length = s.size := by cases s; rfl
theorem bs_data (n : Nat) : (bs n).data.toList = cb n := by simp [bs]
theorem bs_toList (n : Nat) : (bs n).toList = cb n := by rw [ByteArray.toList_eq, bs_data]
theorem bs_size (n : Nat) : (bs n).size = (cb n).length := by rw [← size_toList, bs_data]
theorem bs_le {n k : Nat} : (bs n).size ≤ k ↔ n < 256 ^ k := by rw [bs_size, cb_length_le]
theorem bs_valid {n : Nat} (h : n < Top) : validB (bs n) = true := by
  unfold validB
  rw [bs_data, Bool.and_eq_true]
  refine ⟨?_, ?_⟩
  · rw [decide_eq_true_eq]; exact bs_le.2 h
  · rw [bne_iff_ne]; exact cb_head n
theorem bs_small {n : Nat} (h : n < Top) : (bs n).size ≤ 128 := bs_le.2 h
theorem bs_of_valid {s : ByteArray} (h : validB s = true) : ∃ n, n < Top ∧ s = bs n := by
  unfold validB at h
  rw [Bool.and_eq_true, decide_eq_true_eq, bne_iff_ne] at h
  have he : bs (bval s.data.toList) = s := by
    unfold bs
    rw [cb_bval h.2]
  refine ⟨bval s.data.toList, ?_, he.symm⟩
  exact bs_le.1 (by rw [he]; exact h.1)
theorem bs_inj {a b : Nat} (h : bs a = bs b) : a = b := by
  have := congrArg ByteArray.toList h
  rw [bs_toList, bs_toList] at this
  exact cb_inj this
theorem bs_beq (a b : Nat) : ((bs a).toList == (bs b).toList) = (a == b) := by
  rw [bs_toList, bs_toList]
  rw [Bool.eq_iff_iff, beq_iff_eq, beq_iff_eq]
  exact ⟨cb_inj, fun h => by rw [h]⟩
theorem bs_isEmpty (a : Nat) : (bs a).toList.isEmpty = (a == 0) := by
  rw [bs_toList, Bool.eq_iff_iff, List.isEmpty_iff, beq_iff_eq, cb_eq_nil]
theorem bs_zero : bs 0 = ⟨#[]⟩ := by unfold bs; rw [cb_zero]
theorem bs_pos {a : Nat} (h : a ≠ 0) : 0 < (bs a).size := by
  rw [bs_size]
  have : cb a ≠ [] := fun e => h (cb_eq_nil.1 e)
  exact List.length_pos_iff.2 this


/-- The number of the first k bytes. -/
def hi (n k : Nat) : Nat := bval ((cb n).take k)
theorem hi_zero (n : Nat) : hi n 0 = 0 := by simp [hi, bval]
theorem hi_all (n : Nat) : hi n (bs n).size = n := by
  unfold hi
  rw [bs_size, List.take_length, bval_cb]
theorem bs_getElem (n k : Nat) (h : k < (bs n).size) : (bs n)[k] = (cb n)[k]'(by rw [← bs_size]; exact h) := by
  show (bs n).data[k] = _
  simp [bs]
theorem hi_succ (n k : Nat) (h : k < (bs n).size) : hi n (k + 1) = hi n k * 256 + (bs n)[k].toNat := by
  unfold hi
  rw [take_snoc _ k (by rw [← bs_size]; exact h), bval_snoc, bs_getElem n k h]
theorem hi_le (n k : Nat) : hi n k ≤ n := by
  have h1 := bval_append ((cb n).take k) ((cb n).drop k)
  rw [List.take_append_drop, bval_cb] at h1
  unfold hi
  have : bval ((cb n).take k) * 1 ≤ bval ((cb n).take k) * 256 ^ ((cb n).drop k).length := Nat.mul_le_mul_left _ (Nat.pow_pos (by decide))
  omega

theorem or_join (i a b : Nat) (ha : a % 2 ^ i = 0) (hb : b < 2 ^ i) (h : a + b < 18446744073709551616) : bits .or .u64 (a : Int) (b : Int) = ((a + b : Nat) : Int) := by
  rw [u64_or_nat a b (by omega) (by omega), nat_join i a b ha hb]
theorem or_join32 (i a b : Nat) (ha : a % 2 ^ i = 0) (hb : b < 2 ^ i) (h : a + b < 4294967296) : bits .or .u32 (a : Int) (b : Int) = ((a + b : Nat) : Int) := by
  rw [u32_or_nat a b (by omega) (by omega), nat_join i a b ha hb]
theorem val_int {k : IntKind} {a b : Int} (h : a = b) : Value.int k a = Value.int k b := by rw [h]
theorem ret_int {k : IntKind} {a b : Int} (h : a = b) : Ending.returned (.int k a) = .returned (.int k b) := by rw [h]

theorem bytesLess_val : ∀ (l m : List UInt8), l.length = m.length → Op.bytesLess l m = decide (bval l < bval m)
  | [], [], _ => by simp [Op.bytesLess]
  | a :: x, b :: y, h => by
    have hl : x.length = y.length := by simpa using h
    have ih := bytesLess_val x y hl
    have h1 := bval_lt x
    have h2 := bval_lt y
    simp only [Op.bytesLess, ih, bval_cons, hl]
    rw [Bool.eq_iff_iff]
    simp only [Bool.or_eq_true, Bool.and_eq_true, decide_eq_true_eq, beq_iff_eq]
    rw [hl] at h1
    constructor
    · rintro (h | ⟨rfl, h⟩)
      · have h : a.toNat < b.toNat := UInt8.lt_iff_toNat_lt.1 h
        have : (a.toNat + 1) * 256 ^ y.length ≤ b.toNat * 256 ^ y.length := Nat.mul_le_mul_right _ h
        rw [Nat.add_mul] at this
        omega
      · omega
    · intro h
      rcases Nat.lt_trichotomy a.toNat b.toNat with g | g | g
      · exact .inl (UInt8.lt_iff_toNat_lt.2 g)
      · right
        have : a = b := UInt8.toNat_inj.1 g
        subst this
        exact ⟨rfl, by omega⟩
      · have : (b.toNat + 1) * 256 ^ y.length ≤ a.toNat * 256 ^ y.length := Nat.mul_le_mul_right _ g
        rw [Nat.add_mul] at this
        omega
theorem bs_less {a b : Nat} (h : (bs a).size = (bs b).size) : Op.bytesLess (bs a).toList (bs b).toList = decide (a < b) := by
  rw [bs_size, bs_size] at h
  rw [bs_toList, bs_toList, bytesLess_val _ _ h, bval_cb, bval_cb]
theorem bs_lt_of_size {a b : Nat} (h : (bs a).size < (bs b).size) : a < b := cb_lt_of_length (by rw [← bs_size, ← bs_size]; exact h)

def cellsB (l : List UInt8) : List Value := l.map fun b => Value.int .u8 (b.toNat : Int)
theorem cellsB_snoc (l : List UInt8) (b : UInt8) : cellsB (l ++ [b]) = cellsB l ++ [.int .u8 (b.toNat : Int)] := by simp [cellsB]
theorem cellsB_length (l : List UInt8) : (cellsB l).length = l.length := by simp [cellsB]
theorem info_u8 : (Try.prog.info? 5).map (fun i => (i.zero, i.size, i.bytes)) = some (some (.int .u8 0), 1, 1) := by kernel_rfl
theorem ret_str {a b : ByteArray} (h : a = b) : Ending.returned (.string a) = .returned (.string b) := by rw [h]
theorem owns_form {w : World} {base : Nat} {e : TypeId} {size : Nat} {v : Value} {n : Nat} {xs : List Value} (h : w.ownsRow base e size v n xs) : ∃ A cap, v = .slice A n cap := by
  rcases h.2 with ⟨rfl, rfl⟩ | ⟨g, cap, cur, rfl, _⟩
  · exact ⟨_, _, rfl⟩
  · exact ⟨_, _, rfl⟩
/-- 'string(b)' of a row of the call's own. -/
theorem owns_string {P : Program} {w : World} {base : Nat} {src dst e : TypeId} {v : Value} {l : List UInt8} (h : w.ownsRow base e 1 v l.length (cellsB l))
    (hs : P.underlying src = some (.slice e)) (he : P.underlying e = some (.int .u8)) (hd : P.underlying dst = some .string) :
    (convert src dst v).run P w = .ok (.string ⟨l.toArray⟩) w := by
  rcases h.2 with ⟨rfl, hl⟩ | ⟨g, cap, cur, rfl, _⟩
  · have : l = [] := List.length_eq_zero_iff.1 hl
    subst this
    rw [run_convert_bytes_string w src dst e none 0 0 hs he hd]
    rfl
  · refine run_convert_bytes_back w src dst e _ cap l hs he hd fun j hj => ?_
    have := h.cells (g := g) rfl j (.int .u8 (l[j].toNat : Int)) (by simp [cellsB, List.getElem?_eq_getElem hj])
    exact this

end Go.Proofs.Ytehpdpcpdfgnlaa
