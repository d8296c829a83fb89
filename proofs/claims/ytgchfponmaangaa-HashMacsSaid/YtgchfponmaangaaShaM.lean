/-
  SHA-256 over integers as the walks show them: words, rounds, blocks, padded messages; the code of a message. Plain mathematics.
-/
import Derived.WalkKit
import Derived.Laws.BitsAllLaws
namespace Go.Proofs.Ytgchfponmaangaa
open Go.RowKit
/-- A word that is rotated to the right. -/
def rotI (x n : Int) : Int := bits .or .u32 (x / 2 ^ n.toNat) (x * 2 ^ (32 - n).toNat % 4294967296)
def sg0 (x : Int) : Int := bits .xor .u32 (bits .xor .u32 (rotI x 7) (rotI x 18)) (x / 8)
def sg1 (y : Int) : Int := bits .xor .u32 (bits .xor .u32 (rotI y 17) (rotI y 19)) (y / 1024)
/-- All bits. -/
def no32 : Int := if IntKind.u32.signed = true then -1 else IntKind.u32.max
def tt (e f g h k w : Int) : Int := (h + bits .xor .u32 (bits .xor .u32 (rotI e 6) (rotI e 11)) (rotI e 25) + bits .xor .u32 (bits .and .u32 e f) (bits .and .u32 (bits .xor .u32 no32 e) g) + k + w) % 4294967296
def uu (a b c : Int) : Int := (bits .xor .u32 (bits .xor .u32 (rotI a 2) (rotI a 13)) (rotI a 22) + bits .xor .u32 (bits .xor .u32 (bits .and .u32 a b) (bits .and .u32 a c)) (bits .and .u32 b c)) % 4294967296
/-- The eight words of a state. -/
structure St where
  (a b c d e f g h : Int)
/-- The state after a round. -/
def rnd (s : St) (k w : Int) : St := ⟨(tt s.e s.f s.g s.h k w + uu s.a s.b s.c) % 4294967296, s.a, s.b, s.c, (s.d + tt s.e s.f s.g s.h k w) % 4294967296, s.e, s.f, s.g⟩
/-- The state after the first n rounds. -/
def rd (s : St) (K W : List Int) : Nat → St
  | 0 => s
  | n + 1 => rnd (rd s K W n) (K.getD n 0) (W.getD n 0)
end Go.Proofs.Ytgchfponmaangaa

namespace Go.Proofs.Ytgchfponmaangaa
open Go.RowKit
/-- A byte behind a word. -/
def sh8 (x : Int) (b : UInt8) : Int := (x * 256 + (b.toNat : Int)) % 4294967296
theorem or_sh8 (x : Int) (b : UInt8) : bits .or .u32 (x * 256 % 4294967296) (b.toNat : Int) = sh8 x b := by
  unfold sh8
  have hb := b.toNat_lt
  obtain ⟨n, hn⟩ : ∃ n : Nat, x * 256 % 4294967296 = (n : Int) := Int.eq_ofNat_of_zero_le (by omega)
  have h8 : n % 2 ^ 8 = 0 := by have : (n : Int) % 256 = 0 := by omega
                                omega
  have hl : n + 256 ≤ 4294967296 := by omega
  rw [hn, u32_or_nat n b.toNat (by omega) (by omega)]
  have : n ||| b.toNat = n + b.toNat := by
    obtain ⟨m, rfl⟩ : ∃ m, n = 2 ^ 8 * m := ⟨n / 256, by omega⟩
    rw [← Nat.two_pow_add_eq_or_of_lt hb]
  rw [this]
  omega
/-- The words of a block, when its first n bytes are in. -/
def ldw (B : List UInt8) : Nat → List Int
  | 0 => List.replicate 64 0
  | n + 1 => (ldw B n).set (n / 4) (sh8 ((ldw B n).getD (n / 4) 0) (B.getD n 0))
theorem ldw_length (B : List UInt8) (n : Nat) : (ldw B n).length = 64 := by
  induction n with
  | zero => simp [ldw]
  | succ n ih => simp [ldw, ih]
def nxt (l : List Int) (i : Nat) : Int := (l.getD (i - 16) 0 + sg0 (l.getD (i - 15) 0) + l.getD (i - 7) 0 + sg1 (l.getD (i - 2) 0)) % 4294967296
/-- .. and with the first n words that are computed from them. -/
def ext (B : List UInt8) : Nat → List Int
  | 0 => ldw B 64
  | n + 1 => (ext B n).set (16 + n) (nxt (ext B n) (16 + n))
theorem ext_length (B : List UInt8) (n : Nat) : (ext B n).length = 64 := by
  induction n with
  | zero => exact ldw_length B 64
  | succ n ih => simp [ext, ih]
def sched (B : List UInt8) : List Int := ext B 48
theorem sched_length (B : List UInt8) : (sched B).length = 64 := ext_length B 48
end Go.Proofs.Ytgchfponmaangaa


namespace Go.Proofs.Ytgchfponmaangaa
open Go.RowKit
/-- The constants of the rounds, and the first state. -/
def kk : List Int := [1116352408, 1899447441, 3049323471, 3921009573, 961987163, 1508970993, 2453635748, 2870763221, 3624381080, 310598401, 607225278, 1426881987, 1925078388, 2162078206, 2614888103, 3248222580, 3835390401, 4022224774, 264347078, 604807628, 770255983, 1249150122, 1555081692, 1996064986, 2554220882, 2821834349, 2952996808, 3210313671, 3336571891, 3584528711, 113926993, 338241895, 666307205, 773529912, 1294757372, 1396182291, 1695183700, 1986661051, 2177026350, 2456956037, 2730485921, 2820302411, 3259730800, 3345764771, 3516065817, 3600352804, 4094571909, 275423344, 430227734, 506948616, 659060556, 883997877, 958139571, 1322822218, 1537002063, 1747873779, 1955562222, 2024104815, 2227730452, 2361852424, 2428436474, 2756734187, 3204031479, 3329325298]
def iv : List Int := [1779033703, 3144134277, 1013904242, 2773480762, 1359893119, 2600822924, 528734635, 1541459225]
def St.l (s : St) : List Int := [s.a, s.b, s.c, s.d, s.e, s.f, s.g, s.h]
def St.of (l : List Int) : St := ⟨l.getD 0 0, l.getD 1 0, l.getD 2 0, l.getD 3 0, l.getD 4 0, l.getD 5 0, l.getD 6 0, l.getD 7 0⟩
theorem St.of_l (s : St) : St.of s.l = s := by cases s; rfl
theorem St.l_of {l : List Int} (h : l.length = 8) : (St.of l).l = l := by
  match l, h with
  | [a, b, c, d, e, f, g, h], _ => rfl
theorem St.l_length (s : St) : s.l.length = 8 := rfl
/-- The words of a list to which the first n of another one are added. -/
def addn (M S : List Int) : Nat → List Int
  | 0 => M
  | n + 1 => (addn M S n).set n (((addn M S n).getD n 0 + S.getD n 0) % 4294967296)
theorem addn_length (M S : List Int) (n : Nat) : (addn M S n).length = M.length := by
  induction n with
  | zero => rfl
  | succ n ih => simp [addn, ih]
/-- The state after a block. -/
def blk (l : List Int) (B : List UInt8) : List Int := addn (rd (St.of l) kk (sched B) 64).l l 8
theorem blk_length (l : List Int) (B : List UInt8) : (blk l B).length = 8 := by
  unfold blk; rw [addn_length]; rfl
/-- The state after the first n blocks of a message. -/
def blks (l : List Int) (L : List UInt8) : Nat → List Int
  | 0 => l
  | n + 1 => blk (blks l L n) ((L.drop (64 * n)).take 64)
theorem blks_length {l : List Int} (h : l.length = 8) (L : List UInt8) (n : Nat) : (blks l L n).length = 8 := by
  cases n with
  | zero => exact h
  | succ n => exact blk_length _ _
end Go.Proofs.Ytgchfponmaangaa

namespace Go.Proofs.Ytgchfponmaangaa
open Go.RowKit
/-- The byte that an integer leaves. -/
def byt (x : Int) : UInt8 := UInt8.ofNat (x % 256).toNat
theorem byt_toNat (x : Int) : ((byt x).toNat : Int) = x % 256 := by
  unfold byt
  rw [UInt8.toNat_ofNat']
  omega
/-- The bytes of a word, and of a list of words. -/
def wbytes (x : Int) : List UInt8 := [byt (x / 16777216), byt (x / 65536), byt (x / 256), byt x]
def wtext (l : List Int) : List UInt8 := l.flatMap wbytes
end Go.Proofs.Ytgchfponmaangaa
