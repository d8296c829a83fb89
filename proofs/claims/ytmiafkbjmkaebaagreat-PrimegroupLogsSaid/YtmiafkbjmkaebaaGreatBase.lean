/-
  Strings of bytes as natural numbers, and facts about memory that the walks use. A slice of bytes that the call itself made. Digits of 32 bits in memory: a block that is known whole, and a slice that reads as a list of digits.
-/
import Derived.Test.YtmiafkbjmkaebaaGreatNum
import Derived.Test.YtmiafkbjmkaebaaGreatProg
import Derived.WalkKit
import Derived.WalkSpells
import Derived.WalkLawsBesides
import Derived.BigQuiet
import Derived.Deep.QuietTactic
import Derived.Lib.Hide
import Derived.Laws.OwnMore
import Derived.Laws.IdiomStrings
namespace Go.Proofs.YtmiafkbjmkaebaaGreat
open Go.RowKit Num

/-- The canonical string of a number. -/
def bs (n : Nat) : ByteArray := ⟨(cb n).toArray⟩
/-- Whether a string is a canonical number of at most 128 bytes. -/
def validB (s : ByteArray) : Bool := decide (s.size ≤ 128) && (s.data.toList.head? != some 0)
/-- The first number of 129 bytes. -/
def Top : Nat := 256 ^ 128

theorem size_toList (s : ByteArray) : s.data.toList.length = s.size := by cases s; rfl
theorem bs_data (n : Nat) : (bs n).data.toList = cb n := by simp [bs]
theorem bs_toList (n : Nat) : (bs n).toList = cb n := by rw [ByteArray.toList_eq, bs_data]
theorem bs_size (n : Nat) : (bs n).size = (cb n).length := by rw [← size_toList, bs_data]
theorem bs_le {n k : Nat} : (bs n).size ≤ k ↔ n < 256 ^ k := by rw [bs_size, cb_length_le]
theorem bs_valid {n : Nat} (h : n < Top) : validB (bs n) = true := by
  unfold validB
  rw [bs_data, Bool.and_eq_true]
  refine ⟨?_, ?_⟩
  · rw [decide_eq_true_eq]; exact bs_le.2 h
  · rw [bne_iff_ne]; exact cb_head n
theorem bs_small {n : Nat} (h : n < Top) : (bs n).size ≤ 128 := bs_le.2 h
theorem bs_of_valid {s : ByteArray} (h : validB s = true) : ∃ n, n < Top ∧ s = bs n := by
  unfold validB at h
  rw [Bool.and_eq_true, decide_eq_true_eq, bne_iff_ne] at h
  have he : bs (bval s.data.toList) = s := by
    unfold bs
    rw [cb_bval h.2]
  refine ⟨bval s.data.toList, ?_, he.symm⟩
  exact bs_le.1 (by rw [he]; exact h.1)
theorem bs_inj {a b : Nat} (h : bs a = bs b) : a = b := by
  have := congrArg ByteArray.toList h
  rw [bs_toList, bs_toList] at this
  exact cb_inj this
theorem bs_beq (a b : Nat) : ((bs a).toList == (bs b).toList) = (a == b) := by
  rw [bs_toList, bs_toList]
  rw [Bool.eq_iff_iff, beq_iff_eq, beq_iff_eq]
  exact ⟨cb_inj, fun h => by rw [h]⟩
theorem bs_isEmpty (a : Nat) : (bs a).toList.isEmpty = (a == 0) := by
  rw [bs_toList, Bool.eq_iff_iff, List.isEmpty_iff, beq_iff_eq, cb_eq_nil]
theorem bs_zero : bs 0 = ⟨#[]⟩ := by unfold bs; rw [cb_zero]
theorem bs_pos {a : Nat} (h : a ≠ 0) : 0 < (bs a).size := by
  rw [bs_size]
  have : cb a ≠ [] := fun e => h (cb_eq_nil.1 e)
  exact List.length_pos_iff.2 this


/-- The number of the first k bytes. -/
def hi (n k : Nat) : Nat := bval ((cb n).take k)
theorem hi_zero (n : Nat) : hi n 0 = 0 := by simp [hi, bval]
theorem hi_all (n : Nat) : hi n (bs n).size = n := by
  unfold hi
  rw [bs_size, List.take_length, bval_cb]
theorem bs_getElem (n k : Nat) (h : k < (bs n).size) : (bs n)[k] = (cb n)[k]'(by rw [← bs_size]; exact h) := by
  show (bs n).data[k] = _
  simp [bs]
theorem hi_succ (n k : Nat) (h : k < (bs n).size) : hi n (k + 1) = hi n k * 256 + (bs n)[k].toNat := by
  unfold hi
  rw [take_snoc _ k (by rw [← bs_size]; exact h), bval_snoc, bs_getElem n k h]
theorem hi_le (n k : Nat) : hi n k ≤ n := by
  have h1 := bval_append ((cb n).take k) ((cb n).drop k)
  rw [List.take_append_drop, bval_cb] at h1
  unfold hi
  have : bval ((cb n).take k) * 1 ≤ bval ((cb n).take k) * 256 ^ ((cb n).drop k).length := Nat.mul_le_mul_left _ (Nat.pow_pos (by decide))
  omega

theorem or_join (i a b : Nat) (ha : a % 2 ^ i = 0) (hb : b < 2 ^ i) (h : a + b < 18446744073709551616) : bits .or .u64 (a : Int) (b : Int) = ((a + b : Nat) : Int) := by
  rw [u64_or_nat a b (by omega) (by omega), nat_join i a b ha hb]
theorem or_join32 (i a b : Nat) (ha : a % 2 ^ i = 0) (hb : b < 2 ^ i) (h : a + b < 4294967296) : bits .or .u32 (a : Int) (b : Int) = ((a + b : Nat) : Int) := by
  rw [u32_or_nat a b (by omega) (by omega), nat_join i a b ha hb]
theorem val_int {k : IntKind} {a b : Int} (h : a = b) : Value.int k a = Value.int k b := by rw [h]
theorem ret_int {k : IntKind} {a b : Int} (h : a = b) : Ending.returned (.int k a) = .returned (.int k b) := by rw [h]

theorem bytesLess_val : ∀ (l m : List UInt8), l.length = m.length → Op.bytesLess l m = decide (bval l < bval m)
  | [], [], _ => by simp [Op.bytesLess]
  | a :: x, b :: y, h => by
    have hl : x.length = y.length := by simpa using h
    have ih := bytesLess_val x y hl
    have h1 := bval_lt x
    have h2 := bval_lt y
    simp only [Op.bytesLess, ih, bval_cons, hl]
    rw [Bool.eq_iff_iff]
    simp only [Bool.or_eq_true, Bool.and_eq_true, decide_eq_true_eq, beq_iff_eq]
    rw [hl] at h1
    constructor
    · rintro (h | ⟨rfl, h⟩)
      · have h : a.toNat < b.toNat := UInt8.lt_iff_toNat_lt.1 h
        have : (a.toNat + 1) * 256 ^ y.length ≤ b.toNat * 256 ^ y.length := Nat.mul_le_mul_right _ h
        rw [Nat.add_mul] at this
        omega
      · omega
    · intro h
      rcases Nat.lt_trichotomy a.toNat b.toNat with g | g | g
      · exact .inl (UInt8.lt_iff_toNat_lt.2 g)
      · right
        have : a = b := UInt8.toNat_inj.1 g
        subst this
        exact ⟨rfl, by omega⟩
      · have : (b.toNat + 1) * 256 ^ y.length ≤ a.toNat * 256 ^ y.length := Nat.mul_le_mul_right _ g
        rw [Nat.add_mul] at this
        omega
theorem bs_less {a b : Nat} (h : (bs a).size = (bs b).size) : Op.bytesLess (bs a).toList (bs b).toList = decide (a < b) := by
  rw [bs_size, bs_size] at h
  rw [bs_toList, bs_toList, bytesLess_val _ _ h, bval_cb, bval_cb]
theorem bs_lt_of_size {a b : Nat} (h : (bs a).size < (bs b).size) : a < b := cb_lt_of_length (by rw [← bs_size, ← bs_size]; exact h)

def cellsB (l : List UInt8) : List Value := l.map fun b => Value.int .u8 (b.toNat : Int)
theorem cellsB_snoc (l : List UInt8) (b : UInt8) : cellsB (l ++ [b]) = cellsB l ++ [.int .u8 (b.toNat : Int)] := by simp [cellsB]
theorem cellsB_length (l : List UInt8) : (cellsB l).length = l.length := by simp [cellsB]
theorem info_u8 : (Tryz.prog.info? 5).map (fun i => (i.zero, i.size, i.bytes)) = some (some (.int .u8 0), 1, 1) := by kernel_rfl
theorem ret_str {a b : ByteArray} (h : a = b) : Ending.returned (.string a) = .returned (.string b) := by rw [h]
theorem owns_form {w : World} {base : Nat} {e : TypeId} {size : Nat} {v : Value} {n : Nat} {xs : List Value} (h : w.ownsRow base e size v n xs) : ∃ A cap, v = .slice A n cap := by
  rcases h.2 with ⟨rfl, rfl⟩ | ⟨g, cap, cur, rfl, _⟩
  · exact ⟨_, _, rfl⟩
  · exact ⟨_, _, rfl⟩
/-- 'string(b)' of a row of the call's own. -/
theorem owns_string {P : Program} {w : World} {base : Nat} {src dst e : TypeId} {v : Value} {l : List UInt8} (h : w.ownsRow base e 1 v l.length (cellsB l))
    (hs : P.underlying src = some (.slice e)) (he : P.underlying e = some (.int .u8)) (hd : P.underlying dst = some .string) :
    (convert src dst v).run P w = .ok (.string ⟨l.toArray⟩) w := by
  rcases h.2 with ⟨rfl, hl⟩ | ⟨g, cap, cur, rfl, _⟩
  · have : l = [] := List.length_eq_zero_iff.1 hl
    subst this
    rw [run_convert_bytes_string w src dst e none 0 0 hs he hd]
    rfl
  · refine run_convert_bytes_back w src dst e _ cap l hs he hd fun j hj => ?_
    have := h.cells (g := g) rfl j (.int .u8 (l[j].toNat : Int)) (by simp [cellsB, List.getElem?_eq_getElem hj])
    exact this

end Go.Proofs.YtmiafkbjmkaebaaGreat

namespace Go.Proofs.YtmiafkbjmkaebaaGreat
open Go.RowKit Num
theorem cellsB_set (l : List UInt8) (k : Nat) (b : UInt8) : (cellsB l).set k (.int .u8 (b.toNat : Int)) = cellsB (l.set k b) := by simp [cellsB]
theorem cellsB_get (l : List UInt8) (k : Nat) (h : k < l.length) : (cellsB l)[k]? = some (.int .u8 ((l.getD k 0).toNat : Int)) := by simp [cellsB, h]
theorem madeB (n : Nat) : (madeCells (Value.int .u8 0).cells (n * 1)).toList = cellsB (List.replicate n 0) := by
  have : cellsB (List.replicate n 0) = List.replicate n (.int .u8 0) := by simp [cellsB]
  rw [this]
  refine List.eq_replicate_iff.2 ⟨by simp [madeCells], fun v hv => ?_⟩
  simp only [madeCells, Value.cells, Array.toList_map, List.mem_map] at hv
  obtain ⟨a, _, rfl⟩ := hv
  simp [Nat.mod_one]
/-- A slice of the call's own that holds just the bytes l. -/
def Bt (w : World) (g : Nat) (l : List UInt8) : Prop := w.heap[g]? = some (.cells (cellsB l).toArray 5 (0, 0))
theorem Bt.lt {w : World} {g : Nat} {l : List UInt8} (h : Bt w g l) : g < w.heap.size := by
  rcases Nat.lt_or_ge g w.heap.size with hlt | hge
  · exact hlt
  · unfold Bt at h; rw [Array.getElem?_eq_none hge] at h; cases h
theorem Bt.cell {w : World} {g : Nat} {l : List UInt8} (h : Bt w g l) (k : Nat) (hk : k < l.length) : w.cell? ⟨g, k, none⟩ = some (.int .u8 ((l.getD k 0).toNat : Int)) := by
  rw [cell_of_row w g k _ _ (0, 0) h, List.getElem?_toArray, cellsB_get l k hk]
theorem Bt.frozen {w : World} {g : Nat} {l : List UInt8} (h : Bt w g l) (i : Nat) : w.frozen? ⟨g, i, none⟩ = false := by
  unfold Bt at h
  simp [World.frozen?, h]
theorem Bt.drew {w : World} {g : Nat} {l : List UInt8} (h : Bt w g l) : Bt w.drew g l := h
theorem Bt.alloc {w : World} {g : Nat} {l : List UInt8} (h : Bt w g l) (o : Obj) : Bt (w.alloc o) g l := (Below.heap_alloc w o g h.lt).trans h
theorem Bt.set {w : World} {g : Nat} {l : List UInt8} (h : Bt w g l) (k : Nat) (b : UInt8) : Bt (w.setCell ⟨g, k, none⟩ (.int .u8 (b.toNat : Int))) g (l.set k b) := by
  unfold Bt at h ⊢
  simp [World.setCell, Array.getElem?_modify, h, ← cellsB_set]
theorem Bt.below {w w' : World} {g : Nat} {l : List UInt8} {B : Nat} (h : Bt w g l) (hb : Below B w w') (hg : g < B) : Bt w' g l := (hb.block g hg).trans h
theorem Bt.of_own {w : World} {base g n : Nat} {l : List UInt8} (h : w.ownsRow base 5 1 (.slice (some ⟨g, 0, none⟩) n n) n (cellsB l)) : Bt w g l := by
  rcases h.2 with ⟨h', _⟩ | ⟨g', cap, cur, hv, _, hh, _, _, hc, ht⟩
  · cases h'
  · injection hv with h1 h2 h3
    injection h1 with h1
    injection h1 with h1
    subst h1
    subst h3
    unfold Bt
    rw [hh, ← ht, List.take_of_length_le (by simp [hc])]
/-- 'string(b[k:])' of such a slice. -/
theorem Bt.string {P : Program} {w : World} {src dst e : TypeId} {g : Nat} {l : List UInt8} (h : Bt w g l) (k n c : Nat) (hn : n = l.length - k) (hs : P.underlying src = some (.slice e)) (he : P.underlying e = some (.int .u8)) (hd : P.underlying dst = some .string) :
    (convert src dst (.slice (some ⟨g, k, none⟩) n c)).run P w = .ok (.string ⟨(l.drop k).toArray⟩) w := by
  have hl : (l.drop k).length = n := by rw [List.length_drop, hn]
  rw [← hl]
  refine run_convert_bytes_back w src dst e _ c (l.drop k) hs he hd fun j hj => ?_
  have hj2 : k + j < l.length := by rw [List.length_drop] at hj; omega
  have := h.cell (k + j) hj2
  rw [show Addr.add ⟨g, k, none⟩ j = ⟨g, k + j, none⟩ from by unfold Addr.add; split <;> simp_all, this]
  simp [List.getD_eq_getElem?_getD, hj2]

end Go.Proofs.YtmiafkbjmkaebaaGreat

namespace Go.Proofs.YtmiafkbjmkaebaaGreat
open Go.RowKit Num

/-- The digits' base. -/
def B32 : Nat := 4294967296
def cellsD (xs : List Nat) : List Value := xs.map fun (d : Nat) => Value.int .u32 (d : Int)
theorem cellsD_length (xs : List Nat) : (cellsD xs).length = xs.length := by simp [cellsD]
theorem cellsD_get (xs : List Nat) (k : Nat) (h : k < xs.length) : (cellsD xs)[k]? = some (.int .u32 (xs.getD k 0 : Nat)) := by
  simp [cellsD, h]
theorem cellsD_set (xs : List Nat) (k d : Nat) : (cellsD xs).set k (.int .u32 (d : Int)) = cellsD (xs.set k d) := by
  simp [cellsD]
theorem cellsD_replicate (n : Nat) : cellsD (List.replicate n 0) = List.replicate n (.int .u32 0) := by simp [cellsD]
theorem info_u32 : (Tryz.prog.info? 124).map (fun i => (i.zero, i.size, i.bytes)) = some (some (.int .u32 0), 1, 4) := by kernel_rfl

/-- Every digit is below the base. -/
def Small (xs : List Nat) : Prop := ∀ d ∈ xs, d < B32
theorem Small.at {xs : List Nat} (h : Small xs) (k : Nat) : xs.getD k 0 < B32 := by
  rw [List.getD_eq_getElem?_getD]
  rcases Nat.lt_or_ge k xs.length with g | g
  · rw [List.getElem?_eq_getElem g]; exact h _ (List.getElem_mem g)
  · rw [List.getElem?_eq_none g]; decide
theorem Small.set {xs : List Nat} (h : Small xs) (k d : Nat) (hd : d < B32) : Small (xs.set k d) := by
  intro x hx
  rcases List.mem_or_eq_of_mem_set hx with g | g
  · exact h _ g
  · rw [g]; exact hd
theorem Small.nil : Small [] := by intro d hd; cases hd
theorem Small.replicate (n : Nat) : Small (List.replicate n 0) := by
  intro d hd; rw [List.eq_of_mem_replicate hd]; decide
theorem Small.take {xs : List Nat} (h : Small xs) (k : Nat) : Small (xs.take k) := fun d hd => h d (List.mem_of_mem_take hd)
theorem Small.drop {xs : List Nat} (h : Small xs) (k : Nat) : Small (xs.drop k) := fun d hd => h d (List.mem_of_mem_drop hd)
theorem Small.dv_lt {xs : List Nat} (h : Small xs) : dv B32 xs < B32 ^ xs.length := Num.dv_lt xs h
theorem Small.app {xs ys : List Nat} (h : Small xs) (g : Small ys) : Small (xs ++ ys) := by
  intro d hd
  rcases List.mem_append.1 hd with a | a
  · exact h _ a
  · exact g _ a
theorem Small.one {d : Nat} (h : d < B32) : Small [d] := by intro x hx; simp at hx; subst hx; exact h

/-- Block g holds just the digits xs. -/
def Dg (w : World) (g : Nat) (xs : List Nat) : Prop := w.heap[g]? = some (.cells (cellsD xs).toArray 124 (0, 0))
theorem Dg.lt {w : World} {g : Nat} {xs : List Nat} (h : Dg w g xs) : g < w.heap.size := by
  rcases Nat.lt_or_ge g w.heap.size with hlt | hge
  · exact hlt
  · unfold Dg at h; rw [Array.getElem?_eq_none hge] at h; cases h
theorem Dg.cell {w : World} {g : Nat} {xs : List Nat} (h : Dg w g xs) (k : Nat) (hk : k < xs.length) : w.cell? ⟨g, k, none⟩ = some (.int .u32 (xs.getD k 0 : Nat)) := by
  rw [cell_of_row w g k _ _ (0, 0) h, List.getElem?_toArray, cellsD_get xs k hk]
theorem Dg.frozen {w : World} {g : Nat} {xs : List Nat} (h : Dg w g xs) (i : Nat) : w.frozen? ⟨g, i, none⟩ = false := by
  unfold Dg at h
  simp [World.frozen?, h]
theorem Dg.drew {w : World} {g : Nat} {xs : List Nat} (h : Dg w g xs) : Dg w.drew g xs := h
theorem Dg.drewN {w : World} {g : Nat} {xs : List Nat} (h : Dg w g xs) (n : Nat) : Dg (w.drewN n) g xs := h
theorem Dg.alloc {w : World} {g : Nat} {xs : List Nat} (h : Dg w g xs) (o : Obj) : Dg (w.alloc o) g xs := (Below.heap_alloc w o g h.lt).trans h
theorem Dg.set {w : World} {g : Nat} {xs : List Nat} (h : Dg w g xs) (k d : Nat) : Dg (w.setCell ⟨g, k, none⟩ (.int .u32 (d : Int))) g (xs.set k d) := by
  unfold Dg at h ⊢
  simp [World.setCell, Array.getElem?_modify, h, ← cellsD_set]
theorem Dg.far {w : World} {g : Nat} {xs : List Nat} (h : Dg w g xs) {p : Addr} (hp : g ≠ p.block) (u : Value) : Dg (w.setCell p u) g xs := (Below.heap_setCell w p u g hp).trans h
theorem Dg.below {w w' : World} {g : Nat} {xs : List Nat} {B : Nat} (h : Dg w g xs) (hb : Below B w w') (hg : g < B) : Dg w' g xs := (hb.block g hg).trans h
theorem Dg.kept {w w' : World} {g : Nat} {xs : List Nat} {row : Option Nat} (h : Dg w g xs) (hb : w.grownBy w' row) (hg : some g ≠ row) : Dg w' g xs := (hb.block g h.lt hg).trans h
theorem Dg.of_own {w : World} {base g n : Nat} {xs : List Nat} (h : w.ownsRow base 124 1 (.slice (some ⟨g, 0, none⟩) n n) n (cellsD xs)) : Dg w g xs := by
  rcases h.2 with ⟨h', _⟩ | ⟨g', cap, cur, hv, _, hh, _, _, hc, ht⟩
  · cases h'
  · injection hv with h1 h2 h3
    injection h1 with h1
    injection h1 with h1
    subst h1
    subst h3
    unfold Dg
    rw [hh, ← ht, List.take_of_length_le (by simp [hc])]
theorem madeD (n : Nat) : (madeCells (Value.int .u32 0).cells (n * 1)).toList = cellsD (List.replicate n 0) := by
  rw [cellsD_replicate]
  refine List.eq_replicate_iff.2 ⟨by simp [madeCells], fun v hv => ?_⟩
  simp only [madeCells, Value.cells, Array.toList_map, List.mem_map] at hv
  obtain ⟨a, _, rfl⟩ := hv
  simp [Nat.mod_one]

/-- A slice at the address A reads as the digits xs. -/
def IsD (w : World) (A : Option Addr) (xs : List Nat) : Prop :=
  Small xs ∧ (0 < xs.length → ∃ g o, A = some ⟨g, o, none⟩ ∧ g < w.heap.size ∧ ∀ k, k < xs.length → w.cell? ⟨g, o + k, none⟩ = some (.int .u32 (xs.getD k 0 : Nat)))
theorem IsD.of_dg {w : World} {g : Nat} {xs : List Nat} (h : Dg w g xs) (hs : Small xs) : IsD w (some ⟨g, 0, none⟩) xs :=
  ⟨hs, fun _ => ⟨g, 0, rfl, h.lt, fun k hk => by rw [Nat.zero_add]; exact h.cell k hk⟩⟩
theorem IsD.below {w w' : World} {A : Option Addr} {xs : List Nat} (h : IsD w A xs) (hb : Below w.heap.size w w') : IsD w' A xs :=
  ⟨h.1, fun hp => by
    obtain ⟨g, o, rfl, hg, hc⟩ := h.2 hp
    exact ⟨g, o, rfl, Nat.lt_of_lt_of_le hg hb.size, fun k hk => (hb.cell (p := ⟨g, o + k, none⟩) hg).trans (hc k hk)⟩⟩
theorem IsD.nil (w : World) (A : Option Addr) : IsD w A [] := ⟨Small.nil, fun h => absurd h (by simp)⟩
theorem getD_take {xs : List Nat} {n k : Nat} (h : k < n) : (xs.take n).getD k 0 = xs.getD k 0 := by
  simp [List.getD_eq_getElem?_getD, h]
theorem getD_drop {xs : List Nat} {n k : Nat} : (xs.drop n).getD k 0 = xs.getD (n + k) 0 := by
  simp [List.getD_eq_getElem?_getD]
theorem IsD.take {w : World} {A : Option Addr} {xs : List Nat} (h : IsD w A xs) (n : Nat) : IsD w A (xs.take n) :=
  ⟨h.1.take n, fun hp => by
    have hl : (xs.take n).length = min n xs.length := List.length_take
    obtain ⟨g, o, rfl, hg, hc⟩ := h.2 (by omega)
    exact ⟨g, o, rfl, hg, fun k hk => by rw [getD_take (by omega)]; exact hc k (by omega)⟩⟩

/-- Only block g, and what is new, has turned: behind a draw, and behind a store into block g. -/
theorem grown_drew {a w : World} {r : Option Nat} (h : a.grownBy w r) : a.grownBy w.drew r := ⟨h.os, h.tape, h.output, h.size, h.block⟩
theorem grown_set {a w : World} {g : Nat} (h : a.grownBy w (some g)) (o : Nat) (u : Value) : a.grownBy (w.setCell ⟨g, o, none⟩ u) (some g) :=
  ⟨h.os, h.tape, h.output, by simpa [World.setCell] using h.size, fun k hk hne => (Below.heap_setCell w ⟨g, o, none⟩ u k (fun e => hne (by rw [e]))).trans (h.block k hk hne)⟩
theorem grown_cell {a w : World} {g : Nat} (h : a.grownBy w (some g)) {p : Addr} (hp : p.block < a.heap.size) (hne : p.block ≠ g) : w.cell? p = a.cell? p :=
  World.cell?_of_block (h.block p.block hp (fun e => hne (by injection e)))
theorem below_draws {B : Nat} {a w : World} (h : Below B a w) (n : Nat) : Below B a (w.drewN n) := ⟨h.os, h.tape, h.output, h.size, h.block⟩
/-- A slice that lies in another block than g. -/
def Apart (A : Option Addr) (g : Nat) : Prop := ∀ a, A = some a → a.block ≠ g
theorem IsD.grown {w w' : World} {A : Option Addr} {xs : List Nat} {g : Nat} (h : IsD w A xs) (hb : w.grownBy w' (some g)) (ha : Apart A g) : IsD w' A xs :=
  ⟨h.1, fun hp => by
    obtain ⟨gx, o, rfl, hg, hc⟩ := h.2 hp
    exact ⟨gx, o, rfl, Nat.lt_of_lt_of_le hg hb.size, fun k hk => (grown_cell hb (p := ⟨gx, o + k, none⟩) hg (ha ⟨gx, o, none⟩ rfl)).trans (hc k hk)⟩⟩

end Go.Proofs.YtmiafkbjmkaebaaGreat
