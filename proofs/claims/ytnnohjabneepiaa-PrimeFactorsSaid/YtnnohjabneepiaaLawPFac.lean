/-
  The law of dominolaw04.PrimeFactors.
-/
import Derived.Test.YtnnohjabneepiaaPriP
import Derived.Test.YtnnohjabneepiaaPriS
namespace Go.Proofs.Ytnnohjabneepiaa
open Go.RowKit Num

/-- A list of numbers, with a property, and an error. -/
def Listed (F : List Nat → Prop) (c : Int) (w : World) : Ending → World → Prop := fun e w' => ∃ (A : Option Addr) (cap : Nat) (L : List Nat), e = .returned (.tuple #[.slice A L.length cap, .int .i64 c]) ∧ F L ∧ (∀ k, k < L.length → ∃ g, A = some ⟨g, 0, none⟩ ∧ g < w'.heap.size ∧ w'.cell? ⟨g, k, none⟩ = some (.string (bs (L.getD k 0)))) ∧ Below w.heap.size w w'
theorem listed_of {F : List Nat → Prop} {w : World} {e : Ending} {w' : World} (h : ∃ (v : Value) (L : List Nat), e = .returned (.tuple #[v, .int .i64 0]) ∧ F L ∧ L.length ≤ 40 ∧ w'.ownsRow w.heap.size 22 1 v L.length (cellsS L) ∧ Below w.heap.size w w') :
    Listed (fun L => F L ∧ L.length ≤ 40) 0 w e w' := by
  obtain ⟨v, L, rfl, hF, hl, hown, hb⟩ := h
  obtain ⟨A, cap, rfl, hc⟩ := owns_nats hown
  exact ⟨A, cap, L, rfl, ⟨hF, hl⟩, fun k hk => by obtain ⟨g, h1, _, h2⟩ := hc k hk; exact ⟨g, h1, h2⟩, hb⟩
theorem listed_err {c : Int} {w : World} {e : Ending} {w' : World} (h : Made w (.tuple #[.slice none 0 0, .int .i64 c]) e w') : Listed (fun L => L = []) c w e w' := by
  obtain ⟨rfl, hb⟩ := h
  exact ⟨none, 0, [], rfl, rfl, fun k hk => absurd hk (by simp), hb⟩

set_option maxHeartbeats 1000000 in
set_option maxRecDepth 100000 in
theorem pfac_long (s : ByteArray) (w : World) (hs : s.size ≤ 9223372036854775807) (h : 200 < s.size) :
    Calls Try.prog 10 #[.string s] w (Made w (.bool true)) := by
  have HW := Lib.hid awake4
  go_enter Try.func10, Try.ntmps10
  go_wp2_with fail
  refine (HW.out _).mono ?_
  rintro e w3 ⟨rfl, hb⟩
  go_wp2
  go_ret
  exact ⟨rfl, hb⟩

set_option maxHeartbeats 1000000 in
set_option maxRecDepth 100000 in
theorem pfac_core (s : ByteArray) (F : List Nat → Prop) (c : Int) (w : World) (hs : s.size ≤ 200) (hF : ∀ L L', F L → F L' → L = L') (hl : ∀ L, F L → L.length ≤ 40)
    (h1 : ∀ w, Calls Try.prog 24 #[.string s] w (Listed F c w))
    (h2 : ∀ w, Calls Try.prog 25 #[.string s] w (Listed F c w)) :
    Calls Try.prog 10 #[.string s] w (Made w (.bool true)) := by
  have H1 := Lib.hid h1
  have H2 := Lib.hid h2
  have HW := Lib.hid awake4
  have HV : Below w.heap.size w w := Below.refl _ _
  have HU := Lib.hid (And.intro hF hl)
  clear h1 h2 hF hl
  go_enter Try.func10, Try.ntmps10
  go_wp2_with fail
  refine (H1.out _).mono ?_
  rintro e u1 ⟨A1, c1, L, rfl, hf1, hc1, hb⟩
  replace HV := HV.trans (hb.mono HV.size)
  have HC1 := Lib.hid hc1
  clear hb hc1
  go_wp2_with fail
  refine (H2.out _).mono ?_
  rintro e u2 ⟨A2, c2, L', rfl, hf2, hc2, hb⟩
  obtain rfl := HU.out.1 _ _ hf1 hf2
  replace HV := HV.trans (hb.mono HV.size)
  have HE := Lib.hid (equal_ok A1 A2 c1 c2 L u2 (by have := HU.out.2 _ hf1; omega) (nats_below HC1.out hb) hc2)
  clear hb hc2 hf1 hf2
  go_wp2_with fail
  refine (HE.out).mono ?_
  rintro e u3 ⟨rfl, hb⟩
  replace HV := HV.trans (hb.mono HV.size)
  clear hb
  go_wp2_with fail
  refine (HW.out _).mono ?_
  rintro e u4 ⟨rfl, hb⟩
  replace HV := HV.trans (hb.mono HV.size)
  clear hb
  go_wp2_with fail
  go_ret
  exact ⟨rfl, HV⟩

theorem law_pfac (s : ByteArray) (w : World) (hs : s.size ≤ 9223372036854775807) :
    Calls Try.prog 10 #[.string s] w (Made w (.bool true)) := by
  have hnil : ∀ L L' : List Nat, L = [] → L' = [] → L = L' := fun L L' h h' => h.trans h'.symm
  have hnl : ∀ L : List Nat, L = [] → L.length ≤ 40 := fun L h => by rw [h]; simp
  by_cases h1 : s.size ≤ 200
  · rcases hv : validB s with _ | _
    · have he : s.toList.isEmpty = false := by
        rcases h : s.toList.isEmpty with _ | _
        · rfl
        · exfalso
          have h0 : s = ⟨#[]⟩ := by
            rw [ByteArray.toList_eq, List.isEmpty_iff] at h
            apply ByteArray.ext
            exact Array.toList_inj.1 h
          subst h0
          exact absurd hv (by decide)
      exact pfac_core s _ 3 w h1 hnil hnl (fun W => (pfactors_err s 3 W he (.inl rfl) (fun W => psmall_form s W hs hv)).mono fun e W' h => listed_err h) (fun W => (rfactors_err s 3 W (by omega) (.inl ⟨hv, rfl⟩)).mono fun e W' h => listed_err h)
    · by_cases h8 : s.size ≤ 8
      · obtain ⟨n, hn, rfl⟩ := bs_of_valid hv
        have h64 : n < 18446744073709551616 := bs_le.1 h8
        by_cases h0 : n = 0
        · subst h0
          have he : (bs 0).toList.isEmpty = true := by rw [bs_isEmpty]; rfl
          exact pfac_core _ _ 11 w h1 hnil hnl (fun W => (pfactors_zero _ W he).mono fun e W' h => listed_err h) (fun W => (rfactors_err _ 11 W (by omega) (.inr (.inl ⟨hv, he, rfl⟩))).mono fun e W' h => listed_err h)
        · by_cases hb : n < 1099511627776
          · exact pfac_core _ (fun L => IsFac n L ∧ L.length ≤ 40) 0 w h1 (fun L L' h h' => h.1.unique h'.1) (fun L h => h.2) (fun W => (pfactors_ok n W h0 hb).mono fun e W' h => listed_of h) (fun W => (rfactors_ok n W h0 hb).mono fun e W' h => listed_of h)
          · exact pfac_core _ _ 5 w h1 hnil hnl (fun W => (pfactors_big n W h64 (by omega)).mono fun e W' h => listed_err h) (fun W => (rfactors_big n W h64 (by omega)).mono fun e W' h => listed_err h)
      · have he : s.toList.isEmpty = false := by
          rw [ByteArray.toList_eq]
          cases hc : s.data.toList with
          | nil => have := size_toList s; rw [hc] at this; simp at this; omega
          | cons a l => rfl
        exact pfac_core s _ 5 w h1 hnil hnl (fun W => (pfactors_err s 5 W he (.inr rfl) (fun W => psmall_long s W hs hv (by omega))).mono fun e W' h => listed_err h) (fun W => (rfactors_err s 5 W (by omega) (.inr (.inr ⟨hv, by omega, rfl⟩))).mono fun e W' h => listed_err h)
  · exact pfac_long s w hs (by omega)
end Go.Proofs.Ytnnohjabneepiaa
