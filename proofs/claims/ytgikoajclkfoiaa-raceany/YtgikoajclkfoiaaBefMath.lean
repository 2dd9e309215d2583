/- What is ahead of what, through others: of numbers and a test alone. No program. -/
import Derived.Lib.Hide
namespace Go.Proofs.Ytgikoajclkfoiaa
set_option linter.unusedVariables false
set_option linter.unusedSimpArgs false

/-- i is ahead of j, through others. -/
inductive Bef (D : Nat → Nat → Bool) (j : Nat) : Nat → Prop
  | one {i : Nat} : D i j = true → Bef D j i
  | more {i k : Nat} : D i k = true → Bef D j k → Bef D j i
/-- All that are ahead of j, of the last d below it, rising. -/
def mks (D : Nat → Nat → Bool) (j : Nat) : Nat → List Nat
  | 0 => []
  | d + 1 => if D (j - (d + 1)) j || (mks D j d).any (fun k => D (j - (d + 1)) k) then (j - (d + 1)) :: mks D j d else mks D j d
/-- Its first one is earlier. -/
def Up (D : Nat → Nat → Bool) : Prop := ∀ i j, D i j = true → i < j
theorem Bef.lt {D : Nat → Nat → Bool} (hD : Up D) {j i : Nat} (h : Bef D j i) : i < j := by
  induction h with
  | one h => exact hD _ _ h
  | more h _ ih => exact Nat.lt_trans (hD _ _ h) ih
theorem Bef.trans {D : Nat → Nat → Bool} {j k i : Nat} (h : Bef D k i) (g : Bef D j k) : Bef D j i := by
  induction h with
  | one h => exact .more h g
  | more h _ ih => exact .more h ih
theorem mks_mem {D : Nat → Nat → Bool} (hD : Up D) (j : Nat) : ∀ d, d ≤ j → ∀ i, i ∈ mks D j d ↔ j - d ≤ i ∧ Bef D j i := by
  intro d
  induction d with
  | zero =>
    intro _ i
    refine ⟨fun h => by simp [mks] at h, fun ⟨h1, h2⟩ => ?_⟩
    have := h2.lt hD
    omega
  | succ d ih =>
    intro hd i
    have ih := ih (by omega)
    have key : (D (j - (d + 1)) j || (mks D j d).any (fun k => D (j - (d + 1)) k)) = true ↔ Bef D j (j - (d + 1)) := by
      rw [Bool.or_eq_true, List.any_eq_true]
      constructor
      · rintro (h | ⟨k, hk, h⟩)
        · exact .one h
        · exact .more h ((ih k).1 hk).2
      · intro h
        cases h with
        | one h => exact .inl h
        | more h g =>
          rename_i k
          have := hD _ _ h
          exact .inr ⟨k, (ih k).2 ⟨by omega, g⟩, h⟩
    unfold mks
    by_cases hc : (D (j - (d + 1)) j || (mks D j d).any (fun k => D (j - (d + 1)) k)) = true
    · rw [if_pos hc, List.mem_cons, ih i]
      constructor
      · rintro (rfl | ⟨h1, h2⟩)
        · exact ⟨Nat.le_refl _, key.1 hc⟩
        · exact ⟨by omega, h2⟩
      · rintro ⟨h1, h2⟩
        by_cases e : i = j - (d + 1)
        · exact .inl e
        · exact .inr ⟨by omega, h2⟩
    · rw [if_neg hc, ih i]
      constructor
      · rintro ⟨h1, h2⟩; exact ⟨by omega, h2⟩
      · rintro ⟨h1, h2⟩
        by_cases e : i = j - (d + 1)
        · subst e; exact absurd (key.2 h2) hc
        · exact ⟨by omega, h2⟩
theorem mks_rise {D : Nat → Nat → Bool} (hD : Up D) (j : Nat) : ∀ d, d ≤ j → (mks D j d).Pairwise (· < ·) := by
  intro d
  induction d with
  | zero => intro _; exact List.Pairwise.nil
  | succ d ih =>
    intro hd
    unfold mks
    split
    · refine List.pairwise_cons.2 ⟨fun i hi => ?_, ih (by omega)⟩
      have := ((mks_mem hD j d (by omega) i).1 hi).1
      omega
    · exact ih (by omega)
def pastL (D : Nat → Nat → Bool) (j : Nat) : List Nat := mks D j j
def befB (D : Nat → Nat → Bool) (i j : Nat) : Bool := (pastL D j).contains i
theorem befB_iff {D : Nat → Nat → Bool} (hD : Up D) {i j : Nat} : befB D i j = true ↔ Bef D j i := by
  unfold befB pastL
  rw [List.contains_iff_mem, mks_mem hD j j (Nat.le_refl _)]
  exact ⟨fun h => h.2, fun h => ⟨by omega, h⟩⟩
theorem past_mem {D : Nat → Nat → Bool} (hD : Up D) {i j : Nat} : i ∈ pastL D j ↔ Bef D j i := by
  rw [← befB_iff hD]; unfold befB; rw [List.contains_iff_mem]
theorem rise_eq {l l' : List Nat} (h : l.Pairwise (· < ·)) (h' : l'.Pairwise (· < ·)) (e : ∀ x, x ∈ l ↔ x ∈ l') : l = l' := by
  induction l generalizing l' with
  | nil =>
    cases l' with
    | nil => rfl
    | cons y r => exact absurd ((e y).2 (by simp)) (by simp)
  | cons x r ih =>
    cases l' with
    | nil => exact absurd ((e x).1 (by simp)) (by simp)
    | cons y s =>
      obtain ⟨h1, h2⟩ := List.pairwise_cons.1 h
      obtain ⟨k1, k2⟩ := List.pairwise_cons.1 h'
      have hxy : x = y := by
        rcases List.mem_cons.1 ((e x).1 (by simp)) with q | q
        · exact q
        · rcases List.mem_cons.1 ((e y).2 (by simp)) with q' | q'
          · exact q'.symm
          · have := k1 x q; have := h1 y q'; omega
      subst hxy
      congr 1
      refine ih h2 k2 fun z => ?_
      have := e z
      simp only [List.mem_cons] at this
      constructor
      · intro hz
        rcases this.1 (.inr hz) with q | q
        · have := h1 z hz; omega
        · exact q
      · intro hz
        rcases this.2 (.inr hz) with q | q
        · have := k1 z hz; omega
        · exact q
/-- The places that are marked, rising, are what is ahead. -/
theorem past_of {D : Nat → Nat → Bool} (hD : Up D) {j : Nat} (s : Nat → Bool) (h : ∀ i, i < j + 1 → (s i = true ↔ Bef D j i)) : (List.range (j + 1)).filter s = pastL D j := by
  refine rise_eq (List.Pairwise.filter _ List.pairwise_lt_range) (mks_rise hD j j (Nat.le_refl _)) fun x => ?_
  rw [List.mem_filter, List.mem_range, past_mem hD]
  constructor
  · rintro ⟨h1, h2⟩; exact (h x h1).1 h2
  · intro h2
    have := h2.lt hD
    exact ⟨by omega, (h x (by omega)).2 h2⟩
/-- A set that is sound, and closed, is what is ahead. -/
theorem bef_of_closed {D : Nat → Nat → Bool} {j : Nat} {s : Nat → Bool} (hs : ∀ i, s i = true → Bef D j i) (hj : ∀ i, D i j = true → s i = true) (hc : ∀ i k, s k = true → D i k = true → s i = true) (i : Nat) : s i = true ↔ Bef D j i := by
  refine ⟨hs i, fun h => ?_⟩
  induction h with
  | one h => exact hj _ h
  | more h _ ih => exact hc _ _ ih h
/-- Of two tests that are alike up to a place all is alike there. -/
theorem Bef.congr {D D' : Nat → Nat → Bool} {j : Nat} (h : ∀ i k, k ≤ j → D i k = D' i k) (hD : Up D) {i : Nat} (g : Bef D j i) : Bef D' j i := by
  induction g with
  | one q => rw [h _ _ (Nat.le_refl _)] at q; exact .one q
  | more q g ih =>
    have := g.lt hD
    rw [h _ _ (by omega)] at q
    exact .more q ih
theorem pastL_congr {D D' : Nat → Nat → Bool} (hD : Up D) (hD' : Up D') {j : Nat} (h : ∀ i k, k ≤ j → D i k = D' i k) : pastL D j = pastL D' j :=
  rise_eq (mks_rise hD j j (Nat.le_refl _)) (mks_rise hD' j j (Nat.le_refl _)) fun x => by
    rw [past_mem hD, past_mem hD']
    exact ⟨fun g => g.congr h hD, fun g => g.congr (fun i k hk => (h i k hk).symm) hD'⟩
end Go.Proofs.Ytgikoajclkfoiaa
