/-
  Padded messages; the hash and the code as functions of bytes. Plain mathematics.
-/
import Derived.Test.YtgchfponmaangaaShaM
namespace Go.Proofs.Ytgchfponmaangaa
open Go.RowKit
theorem wtext_length (l : List Int) : (wtext l).length = 4 * l.length := by
  induction l with
  | nil => rfl
  | cons x l ih =>
    have : wtext (x :: l) = wbytes x ++ wtext l := rfl
    rw [this, List.length_append, ih]
    simp [wbytes]
    omega
/-- How many zero bytes follow a message of n bytes and the byte 128. -/
def padz (n : Nat) : Nat := (119 - n % 64) % 64
/-- The eight bytes of a number of bits, for a message of n bytes. -/
def be8 (n : Nat) : List UInt8 := (List.range 8).map fun (i : Nat) => byt (8 * (n : Int) / 2 ^ (8 * (7 - i)))
theorem be8_length (n : Nat) : (be8 n).length = 8 := by simp [be8]
theorem be8_take (n i : Nat) (hi : i < 8) : (be8 n).take (i + 1) = (be8 n).take i ++ [byt (8 * (n : Int) / 2 ^ (8 * (7 - i)))] := by
  rw [List.take_succ_eq_append_getElem (by rw [be8_length]; exact hi)]
  simp [be8]
/-- What follows the bytes of a message of n bytes. -/
def tailb (n : Nat) : List UInt8 := 128 :: (List.replicate (padz n) 0 ++ be8 n)
def padded (L : List UInt8) : List UInt8 := L ++ tailb L.length
/-- The hash of bytes. -/
def shaL (L : List UInt8) : List UInt8 := wtext (blks iv (padded L) ((padded L).length / 64))
/-- The key as a block. -/
def keyb (K : List UInt8) (x : UInt8) : List UInt8 := (K ++ List.replicate (64 - K.length) 0).map fun b => b ^^^ x
/-- The code of bytes for a key. -/
def macL (K L : List UInt8) : List UInt8 :=
  let k := if 64 < K.length then shaL K else K
  shaL (keyb k 92 ++ shaL (keyb k 54 ++ L))
end Go.Proofs.Ytgchfponmaangaa

namespace Go.Proofs.Ytgchfponmaangaa
theorem blks_left (l : List Int) (A B : List UInt8) (a : Nat) (h : 64 * a ≤ A.length) : blks l (A ++ B) a = blks l A a := by
  induction a with
  | zero => rfl
  | succ a ih =>
    unfold blks
    rw [ih (by omega)]
    congr 1
    rw [List.drop_append_of_le_length (by omega), List.take_append_of_le_length (by simp; omega)]
theorem blks_append (l : List Int) (A B : List UInt8) (a b : Nat) (h : A.length = 64 * a) : blks l (A ++ B) (a + b) = blks (blks l A a) B b := by
  induction b with
  | zero => exact blks_left l A B a (by omega)
  | succ b ih =>
    rw [← Nat.add_assoc]
    show blk (blks l (A ++ B) (a + b)) (((A ++ B).drop (64 * (a + b))).take 64) = blk (blks (blks l A a) B b) ((B.drop (64 * b)).take 64)
    rw [ih]
    congr 2
    rw [show 64 * (a + b) = A.length + 64 * b from by omega, List.drop_length_add_append]
theorem tailb_length (n : Nat) : (tailb n).length = padz n + 9 := by
  unfold tailb
  simp [be8_length]
/-- How many blocks the end of a message takes. -/
def tb (n : Nat) : Nat := (n % 64 + padz n + 9) / 64
theorem tb_eq (n : Nat) : n % 64 + (padz n + 9) = 64 * tb n := by
  unfold tb padz
  omega
/-- The hash by the whole blocks and the end. -/
theorem shaL_parts (L : List UInt8) (m : Nat) (hm : m = L.length / 64) : shaL L = wtext (blks (blks iv (L.take (64 * m)) m) (L.drop (64 * m) ++ tailb L.length) (tb L.length)) := by
  unfold shaL padded
  have e := tb_eq L.length
  have hl : (L ++ tailb L.length).length = 64 * (m + tb L.length) := by rw [List.length_append, tailb_length]; omega
  rw [hl, Nat.mul_div_cancel_left _ (by decide), ← blks_append _ _ _ _ _ (by rw [List.length_take]; omega), ← List.append_assoc, List.take_append_drop]
end Go.Proofs.Ytgchfponmaangaa

namespace Go.Proofs.Ytgchfponmaangaa
/-- A hexadecimal digit. -/
def hexd (n : Nat) : UInt8 := if n < 10 then UInt8.ofNat (48 + n) else UInt8.ofNat (87 + n)
def hexb (b : UInt8) : List UInt8 := [hexd (b.toNat / 16), hexd (b.toNat % 16)]
def hexL (L : List UInt8) : List UInt8 := L.flatMap hexb
theorem hexL_length (L : List UInt8) : (hexL L).length = 2 * L.length := by
  induction L with
  | nil => rfl
  | cons x l ih =>
    have : hexL (x :: l) = hexb x ++ hexL l := rfl
    rw [this, List.length_append, ih]
    simp [hexb]
    omega
theorem hexL_take (L : List UInt8) (i : Nat) (h : i < L.length) : hexL (L.take (i + 1)) = hexL (L.take i) ++ hexb L[i] := by
  unfold hexL
  rw [List.take_succ_eq_append_getElem h, List.flatMap_append]
  simp
end Go.Proofs.Ytgchfponmaangaa

namespace Go.Proofs.Ytgchfponmaangaa
/-- The first n bytes xored with x. -/
def mx (L : List UInt8) (x : UInt8) : Nat → List UInt8
  | 0 => L
  | n + 1 => (mx L x n).set n ((mx L x n).getD n 0 ^^^ x)
theorem mx_length (L : List UInt8) (x : UInt8) (n : Nat) : (mx L x n).length = L.length := by
  induction n with
  | zero => rfl
  | succ n ih => simp [mx, ih]
theorem mx_eq (L : List UInt8) (x : UInt8) (n : Nat) (h : n ≤ L.length) : mx L x n = (L.take n).map (· ^^^ x) ++ L.drop n := by
  induction n with
  | zero => simp [mx]
  | succ n ih =>
    have hn : n < L.length := by omega
    rw [mx, ih (by omega)]
    have hl : ((L.take n).map (· ^^^ x)).length = n := by simp; omega
    have hd : L.drop n = L[n] :: L.drop (n + 1) := List.drop_eq_getElem_cons hn
    rw [hd, List.take_succ_eq_append_getElem hn]
    rw [List.set_append_right _ _ (by omega), hl, Nat.sub_self, List.set_cons_zero]
    rw [List.getD_eq_getElem?_getD, List.getElem?_append_right (by omega), hl, Nat.sub_self]
    simp only [List.getElem?_cons_zero, Option.getD_some, List.map_append, List.map_cons, List.map_nil, List.append_assoc, List.cons_append, List.nil_append]
theorem mx_all (L : List UInt8) (x : UInt8) (n : Nat) (h : n = L.length) : mx L x n = L.map (· ^^^ x) := by
  rw [mx_eq L x n (by omega), h]
  simp
end Go.Proofs.Ytgchfponmaangaa
