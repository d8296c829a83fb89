/-
  dominolaw05.HashPads returns true: the walk.
-/
import Derived.Test.YtgchfponmaangaaShaJ
namespace Go.Proofs.Ytgchfponmaangaa
open Go.RowKit
theorem keyb_pad (K : List UInt8) (z : Nat) (x : UInt8) (h : K.length + z ≤ 64) : keyb (K ++ List.replicate z 0) x = keyb K x := by
  unfold keyb
  rw [List.append_assoc, List.replicate_append_replicate, List.length_append, List.length_replicate, show z + (64 - (K.length + z)) = 64 - K.length from by omega]
theorem macL_pad (K L : List UInt8) (z : Nat) (h : K.length + z ≤ 64) : macL (K ++ List.replicate z 0) L = macL K L := by
  unfold macL
  rw [if_neg (by rw [List.length_append, List.length_replicate]; omega), if_neg (by omega)]
  show shaL (keyb (K ++ List.replicate z 0) 92 ++ shaL (keyb (K ++ List.replicate z 0) 54 ++ L)) = shaL (keyb K 92 ++ shaL (keyb K 54 ++ L))
  rw [keyb_pad K z 92 h, keyb_pad K z 54 h]
theorem mac_to (k s : ByteArray) (B : List UInt8) (hB : macL k.data.toList s.data.toList = B) (hk : k.size ≤ 1000) (hs : s.size ≤ 1000) (w : World) :
    Calls Try.prog 14 #[.string k, .string s] w fun e w' => e = .returned (.string ⟨B.toArray⟩) ∧ Below w.heap.size w w' := by
  subst hB
  exact mac_ok k s (by omega) (by omega) w
set_option maxRecDepth 100000 in
set_option maxHeartbeats 1600000 in
theorem law_hpads_big (k s : ByteArray) (n : Int) (hk : k.size ≤ 9223372036854775807) (hs : s.size ≤ 9223372036854775807) (h : 64 < k.size ∨ (k.size ≤ 64 ∧ 600 < s.size)) (w : World) : Calls Try.prog 7 #[.string k, .string s, .int .u8 n] w fun e w' => e = .returned (.bool true) ∧ Below w.heap.size w w' := by
  have CA := Lib.hid (fun W => awake_ok W)
  rcases h with h | ⟨h0, h⟩
  all_goals
    go_enter Try.func7, Try.ntmps7
    go_wp2_with fail
    refine (CA.out _).mono ?_
    rintro e w1 ⟨rfl, hb⟩
    go_wp2
    go_ret
    exact ⟨rfl, hb⟩
set_option maxRecDepth 100000 in
set_option maxHeartbeats 1600000 in
theorem law_hpads_small (k s : ByteArray) (n : Int) (hn0 : 0 ≤ n) (hn : n ≤ 255) (hk : k.size ≤ 64) (hs : s.size ≤ 600) (w : World) : Calls Try.prog 7 #[.string k, .string s, .int .u8 n] w fun e w' => e = .returned (.bool true) ∧ Below w.heap.size w w' := by
  have CA := Lib.hid (fun W => awake_ok W)
  have CM := Lib.hid (fun W => mac_to k s _ rfl (by omega) (by omega) W)
  go_enter Try.func7, Try.ntmps7
  go_wp2_with fail
  go_loop [7, 8] (fun v7 v8 => ∃ (i : Nat) (T : ByteArray), v8 = .int .i64 i ∧ k.size + i ≤ 64 ∧ v7 = .string T ∧ Hid (T.data.toList = k.data.toList ++ List.replicate i 0)) (fun _ i => 256 - (intOf i).toNat)
  case atStart => exact ⟨0, k, rfl, by omega, rfl, Lib.hid (by simp)⟩
  case round =>
    obtain ⟨i, T, rfl, hi, rfl, HT⟩ := hrel
    have hTs : T.size = k.size + i := by rw [← size_toList T, HT.out]; simp
    have HS := Lib.hid hTs
    have hTl : k.size ≤ T.size := by omega
    clear hTs
    have hd : ((i : Int) < n ∧ T.size < 64) ∨ ((i : Int) < n ∧ ¬ T.size < 64 ∧ T.size ≤ 128) ∨ (¬ (i : Int) < n ∧ T.size ≤ 128) := by have := HS.out; omega
    rcases hd with ⟨h1, h2⟩ | ⟨h1, h2, h3⟩ | ⟨h1, h3⟩
    · go_wp2_with fail
      go_round
      case rel => exact ⟨i + 1, T ++ ⟨#[0]⟩, by go_num, by have := HS.out; omega, rfl, Lib.hid (by rw [append_data, HT.out, List.replicate_succ', ← List.append_assoc])⟩
      case measure => simp [intOf]; omega
    all_goals
      have hKl : k.data.toList.length + i ≤ 64 := by rw [size_toList]; exact hi
      have C1 := Lib.hid (fun W => mac_to T s (macL k.data.toList s.data.toList) (by rw [HT.out, macL_pad _ _ _ hKl]) (by omega) (by omega) W)
      clear hKl
      go_wp2_with fail
      refine (C1.out _).mono ?_
      rintro e w1 ⟨rfl, hb⟩
      have HB := hb
      clear hb
      go_wp2_with fail
      refine (CM.out _).mono ?_
      rintro e w2 ⟨rfl, hb⟩
      replace HB := HB.trans (hb.mono HB.size)
      clear hb
      go_wp2_with fail
      refine (CA.out _).mono ?_
      rintro e w3 ⟨rfl, hb⟩
      replace HB := HB.trans (hb.mono HB.size)
      clear hb
      go_wp2
      go_ret
      exact ⟨rfl, HB⟩
theorem law_hpads (k s : ByteArray) (n : Int) (w : World) (hk : k.size ≤ 9223372036854775807) (hs : s.size ≤ 9223372036854775807) (hn : 0 ≤ n ∧ n ≤ 255) : Calls Try.prog 7 #[.string k, .string s, .int .u8 n] w fun e w' => e = .returned (.bool true) ∧ Below w.heap.size w w' := by
  rcases Nat.lt_or_ge 64 k.size with h | h
  · exact law_hpads_big k s n hk hs (.inl h) w
  · rcases Nat.lt_or_ge 600 s.size with g | g
    · exact law_hpads_big k s n hk hs (.inr ⟨h, g⟩) w
    · exact law_hpads_small k s n hn.1 hn.2 h g w
end Go.Proofs.Ytgchfponmaangaa
