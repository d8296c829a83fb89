/-
  The contracts of masked and hash.Mac.
-/
import Derived.Test.YtgchfponmaangaaShaG
import Derived.Test.YtgchfponmaangaaShaH
import Derived.Deep.Cut
import Derived.Deep.CutRange
namespace Go.Proofs.Ytgchfponmaangaa
open Go.RowKit
/-- Block g holds just the bytes l. -/
def By (w : World) (g : Nat) (l : List UInt8) (t : TypeId) : Prop := w.heap[g]? = some (.cells (cellsB l).toArray t (0, 0))
section
variable {w w' : World} {g : Nat} {l : List UInt8} {t : TypeId}
theorem By.lt (h : By w g l t) : g < w.heap.size := by
  rcases Nat.lt_or_ge g w.heap.size with hlt | hge
  · exact hlt
  · unfold By at h; rw [Array.getElem?_eq_none hge] at h; cases h
theorem By.cell (h : By w g l t) (k : Nat) (hk : k < l.length) : w.cell? ⟨g, k, none⟩ = some (.int .u8 ((l.getD k 0).toNat : Int)) := by
  rw [cell_of_row w g k _ _ (0, 0) h, List.getElem?_toArray, cellsB_get l k hk]
theorem By.frozen (h : By w g l t) (i : Nat) : w.frozen? ⟨g, i, none⟩ = false := by
  unfold By at h
  simp [World.frozen?, h]
theorem By.drew (h : By w g l t) : By w.drew g l t := h
theorem By.alloc (h : By w g l t) (o : Obj) : By (w.alloc o) g l t := (Below.heap_alloc w o g h.lt).trans h
theorem By.set (h : By w g l t) (k : Nat) (x : UInt8) : By (w.setCell ⟨g, k, none⟩ (.int .u8 (x.toNat : Int))) g (l.set k x) t := by
  unfold By at h ⊢
  simp [World.setCell, Array.getElem?_modify, h, ← cellsB_set]
theorem By.far (h : By w g l t) {p : Addr} (hp : g ≠ p.block) (u : Value) : By (w.setCell p u) g l t := (Below.heap_setCell w p u g hp).trans h
theorem By.below {B : Nat} (h : By w g l t) (hb : Below B w w') (hg : g < B) : By w' g l t := (hb.block g hg).trans h
theorem By.kept (h : By w g l t) (hb : Below w.heap.size w w') : By w' g l t := (hb.block g h.lt).trans h
theorem By.string (h : By w g l t) (n c : Nat) (hn : n = l.length) : (convert 27 9 (.slice (some ⟨g, 0, none⟩) n c)).run Try.prog w = .ok (.string ⟨l.toArray⟩) w := by
  subst hn
  refine run_convert_bytes_back w 27 9 5 _ c l Try.underlying27 Try.underlying5 Try.underlying9 fun j hj => ?_
  have := h.cell j hj
  rw [show Addr.add ⟨g, 0, none⟩ j = ⟨g, j, none⟩ from by unfold Addr.add; split <;> simp_all, this]
  simp [List.getD_eq_getElem?_getD, hj]
end
theorem xor_u8 (a x : UInt8) : bits .xor .u8 (a.toNat : Int) (x.toNat : Int) = ((a ^^^ x).toNat : Int) := by
  have h1 := a.toNat_lt
  have h2 := x.toNat_lt
  rw [u8_xor_nat _ _ (by omega) (by omega), UInt8.toNat_xor]
set_option maxRecDepth 100000 in
set_option maxHeartbeats 1600000 in
theorem masked_ok (s : ByteArray) (x : UInt8) (hs : s.size ≤ 64) (w : World) :
    Calls Try.prog 23 #[.string s, .int .u8 (x.toNat : Int)] w fun e w' => e = .returned (.string ⟨(keyb s.data.toList x).toArray⟩) ∧ Below w.heap.size w w' := by
  have hl : (s.data.toList ++ (List.replicate 64 0).drop s.size).length = 64 := by simp; omega
  obtain ⟨K, hK⟩ : ∃ K, K = s.data.toList ++ (List.replicate 64 0).drop s.size := ⟨_, rfl⟩
  rw [← hK] at hl
  have HK := Lib.hid hK
  have HL := Lib.hid hl
  clear hK hl
  go_enter Try.func23, Try.ntmps23
  go_wp2_with (refine copyb rfl (.tmp 7) (.tmp 8) rfl w.heap.size 50 (List.replicate 64 0) s 64 64 rfl rfl ((heap_alloc_new _ _).trans rfl) hs (Nat.le_refl _) (by simp) ?_)
  go_loopw [10] (fun v10 wr => ∃ i : Nat, i ≤ 64 ∧ v10 = .int .i64 i ∧ By wr w.heap.size (mx K x i) 50 ∧ Below w.heap.size w wr) (fun i _ => 64 - (intOf i).toNat)
  case atStart => exact ⟨0, by omega, rfl, by rw [mx, HK.out]; exact setRow_heap _ _ _ _ _ _ (heap_alloc_new _ _), below_setRow ((Below.refl w.heap.size w).alloc (Nat.le_refl _) _) (Nat.le_refl _) _⟩
  case round =>
    obtain ⟨i, hi, rfl, hM, hB⟩ := hrel
    by_cases hlt : i < 64
    · have hc := hM.cell i (by rw [mx_length, HL.out]; exact hlt)
      have hf := hM.frozen i
      have HM := Lib.hid hM
      have hx := fun a => xor_u8 a x
      clear hM
      go_wp2
      go_roundw
      case rel =>
        refine ⟨i + 1, by omega, by go_num, ?_, hB.setCell (Nat.le_refl _) _⟩
        rw [show mx K x (i + 1) = (mx K x i).set i ((mx K x i).getD i 0 ^^^ x) from rfl]
        simp only [List.getD_eq_getElem?_getD]
        have := HM.out.set i ((mx K x i)[i]?.getD 0 ^^^ x)
        rw [UInt8.toNat_xor] at this
        exact this
      case measure => simp [intOf]; omega
    · obtain rfl : i = 64 := by omega
      have hc := By.string hM 64 64 (by rw [mx_length, HL.out])
      have HT := Lib.hid (show mx K x 64 = keyb s.data.toList x from by
        rw [mx_all _ _ _ HL.out.symm, HK.out]
        unfold keyb
        rw [List.drop_replicate, size_toList])
      clear hM
      rw [show ((64 : Nat) : Int) = 64 from rfl]
      go_wp2
      go_ret
      exact ⟨ret_str (by rw [HT.out]), hB⟩
theorem keyb_length (K : List UInt8) (x : UInt8) (h : K.length ≤ 64) : (keyb K x).length = 64 := by
  unfold keyb; simp; omega
theorem shaL_length (L : List UInt8) : (shaL L).length = 32 := by
  unfold shaL; rw [wtext_length, blks_length rfl]
theorem append_data (a b : ByteArray) : (a ++ b).data.toList = a.data.toList ++ b.data.toList := by simp
/-- The contract of Sum, of bytes. -/
theorem sum_bytes (B : List UInt8) (s : ByteArray) (hB : s.data.toList = B) (hs : B.length ≤ 1099511627776) (w : World) :
    Calls Try.prog 10 #[.string s] w fun e w' => e = .returned (.string ⟨(shaL B).toArray⟩) ∧ Below w.heap.size w w' := by
  subst hB
  exact sum_ok s (by rw [← size_toList]; exact hs) w
theorem masked54 (s : ByteArray) (hs : s.size ≤ 64) (w : World) : Calls Try.prog 23 #[.string s, .int .u8 54] w fun e w' => e = .returned (.string ⟨(keyb s.data.toList 54).toArray⟩) ∧ Below w.heap.size w w' := masked_ok s 54 hs w
theorem masked92 (s : ByteArray) (hs : s.size ≤ 64) (w : World) : Calls Try.prog 23 #[.string s, .int .u8 92] w fun e w' => e = .returned (.string ⟨(keyb s.data.toList 92).toArray⟩) ∧ Below w.heap.size w w' := masked_ok s 92 hs w
set_option maxRecDepth 100000 in
set_option maxHeartbeats 1600000 in
theorem mac_short (k s : ByteArray) (hk : k.size ≤ 64) (hs : s.size ≤ 274877906944) (w : World) :
    Calls Try.prog 14 #[.string k, .string s] w fun e w' => e = .returned (.string ⟨(macL k.data.toList s.data.toList).toArray⟩) ∧ Below w.heap.size w w' := by
  have hkl := keyb_length k.data.toList 54 (by rw [size_toList]; exact hk)
  have hkl2 := keyb_length k.data.toList 92 (by rw [size_toList]; exact hk)
  have C1 := Lib.hid (fun W => masked54 k hk W)
  have C2 := Lib.hid (fun W => sum_bytes (keyb k.data.toList 54 ++ s.data.toList) (⟨(keyb k.data.toList 54).toArray⟩ ++ s) (append_data _ _) (by rw [List.length_append, hkl, size_toList]; omega) W)
  have C3 := Lib.hid (fun W => masked92 k hk W)
  have C4 := Lib.hid (fun W => sum_bytes (keyb k.data.toList 92 ++ shaL (keyb k.data.toList 54 ++ s.data.toList)) (⟨(keyb k.data.toList 92).toArray⟩ ++ ⟨(shaL (keyb k.data.toList 54 ++ s.data.toList)).toArray⟩) (append_data _ _) (by rw [List.length_append, hkl2, shaL_length]; omega) W)
  have HM := Lib.hid (show macL k.data.toList s.data.toList = shaL (keyb k.data.toList 92 ++ shaL (keyb k.data.toList 54 ++ s.data.toList)) from by
    unfold macL
    rw [if_neg (by rw [size_toList]; omega)])
  replace hkl := Nat.le_of_eq hkl
  replace hkl2 := Nat.le_of_eq hkl2
  have hsl := Nat.le_of_eq (shaL_length (keyb k.data.toList 54 ++ s.data.toList))
  go_enter Try.func14, Try.ntmps14
  go_wp2_with fail
  refine (C1.out _).mono ?_
  rintro e w1 ⟨rfl, hb⟩
  have HB := hb
  clear hb
  go_wp2_with fail
  refine (C2.out _).mono ?_
  rintro e w2 ⟨rfl, hb⟩
  replace HB := HB.trans (hb.mono HB.size)
  clear hb
  go_wp2_with fail
  refine (C3.out _).mono ?_
  rintro e w3 ⟨rfl, hb⟩
  replace HB := HB.trans (hb.mono HB.size)
  clear hb
  go_wp2_with fail
  refine (C4.out _).mono ?_
  rintro e w4 ⟨rfl, hb⟩
  replace HB := HB.trans (hb.mono HB.size)
  clear hb
  go_wp2
  go_ret
  exact ⟨ret_str (by rw [HM.out]), HB⟩
set_option maxRecDepth 100000 in
set_option maxHeartbeats 1600000 in
theorem mac_long (k s : ByteArray) (hk : 64 < k.size) (hk2 : k.size ≤ 274877906944) (hs : s.size ≤ 274877906944) (w : World) :
    Calls Try.prog 14 #[.string k, .string s] w fun e w' => e = .returned (.string ⟨(macL k.data.toList s.data.toList).toArray⟩) ∧ Below w.heap.size w w' := by
  have hz : (⟨(shaL k.data.toList).toArray⟩ : ByteArray).size ≤ 64 := by rw [← size_toList]; show (shaL k.data.toList).length ≤ 64; rw [shaL_length]; omega
  have hkl := keyb_length (shaL k.data.toList) 54 (by rw [shaL_length]; omega)
  have hkl2 := keyb_length (shaL k.data.toList) 92 (by rw [shaL_length]; omega)
  have C0 := Lib.hid (fun W => sum_ok k (by omega) W)
  have C1 := Lib.hid (fun W => masked54 ⟨(shaL k.data.toList).toArray⟩ hz W)
  have C2 := Lib.hid (fun W => sum_bytes (keyb (shaL k.data.toList) 54 ++ s.data.toList) (⟨(keyb (shaL k.data.toList) 54).toArray⟩ ++ s) (append_data _ _) (by rw [List.length_append, hkl, size_toList]; omega) W)
  have C3 := Lib.hid (fun W => masked92 ⟨(shaL k.data.toList).toArray⟩ hz W)
  have C4 := Lib.hid (fun W => sum_bytes (keyb (shaL k.data.toList) 92 ++ shaL (keyb (shaL k.data.toList) 54 ++ s.data.toList)) (⟨(keyb (shaL k.data.toList) 92).toArray⟩ ++ ⟨(shaL (keyb (shaL k.data.toList) 54 ++ s.data.toList)).toArray⟩) (append_data _ _) (by rw [List.length_append, hkl2, shaL_length]; omega) W)
  have HM := Lib.hid (show macL k.data.toList s.data.toList = shaL (keyb (shaL k.data.toList) 92 ++ shaL (keyb (shaL k.data.toList) 54 ++ s.data.toList)) from by
    unfold macL
    rw [if_pos (by rw [size_toList]; omega)])
  replace hkl := Nat.le_of_eq hkl
  replace hkl2 := Nat.le_of_eq hkl2
  have hsl := Nat.le_of_eq (shaL_length (keyb (shaL k.data.toList) 54 ++ s.data.toList))
  clear hz
  go_enter Try.func14, Try.ntmps14
  go_wp2_with fail
  refine (C0.out _).mono ?_
  rintro e w0 ⟨rfl, hb⟩
  have HB := hb
  clear hb
  go_wp2_with fail
  refine (C1.out _).mono ?_
  rintro e w1 ⟨rfl, hb⟩
  replace HB := HB.trans (hb.mono HB.size)
  clear hb
  go_wp2_with fail
  refine (C2.out _).mono ?_
  rintro e w2 ⟨rfl, hb⟩
  replace HB := HB.trans (hb.mono HB.size)
  clear hb
  go_wp2_with fail
  refine (C3.out _).mono ?_
  rintro e w3 ⟨rfl, hb⟩
  replace HB := HB.trans (hb.mono HB.size)
  clear hb
  go_wp2_with fail
  refine (C4.out _).mono ?_
  rintro e w4 ⟨rfl, hb⟩
  replace HB := HB.trans (hb.mono HB.size)
  clear hb
  go_wp2
  go_ret
  exact ⟨ret_str (by rw [HM.out]), HB⟩
theorem mac_ok (k s : ByteArray) (hk : k.size ≤ 274877906944) (hs : s.size ≤ 274877906944) (w : World) :
    Calls Try.prog 14 #[.string k, .string s] w fun e w' => e = .returned (.string ⟨(macL k.data.toList s.data.toList).toArray⟩) ∧ Below w.heap.size w w' := by
  rcases Nat.lt_or_ge 64 k.size with h | h
  · exact mac_long k s h hk hs w
  · exact mac_short k s h hs w
end Go.Proofs.Ytgchfponmaangaa
