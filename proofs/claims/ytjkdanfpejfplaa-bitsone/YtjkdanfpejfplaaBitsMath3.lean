/- Plain facts on a set and the list of its numbers. No program, no condition. -/
import Derived.Test.YtjkdanfpejfplaaBitsMath2
import Derived.Test.YtjkdanfpejfplaaBitsRange
namespace Go.Proofs.Ytjkdanfpejfplaa
set_option linter.unusedVariables false
set_option linter.unusedSimpArgs false

theorem mem_numsTo (s k : Nat) (x : Int) : x ∈ numsTo s k ↔ ∃ i, i < k ∧ s.testBit i = true ∧ x = (i : Int) := by
  unfold numsTo
  simp only [List.mem_map, List.mem_filter, List.mem_range]
  constructor
  · rintro ⟨i, ⟨h1, h2⟩, rfl⟩; exact ⟨i, h1, h2, rfl⟩
  · rintro ⟨i, h1, h2, rfl⟩; exact ⟨i, ⟨h1, h2⟩, rfl⟩
theorem mem_nums_nat (s k i : Nat) : (i : Int) ∈ numsTo s k ↔ i < k ∧ s.testBit i = true := by
  rw [mem_numsTo]
  constructor
  · rintro ⟨j, h1, h2, h3⟩
    obtain rfl : i = j := by omega
    exact ⟨h1, h2⟩
  · rintro ⟨h1, h2⟩; exact ⟨i, h1, h2, rfl⟩
theorem put_nums (s : Nat) (hs : s < U) : putN 0 (numsTo s 64) = s := by
  apply Nat.eq_of_testBit_eq
  intro i
  rw [putN_bit]
  by_cases hi : i < 64
  · simp only [Nat.zero_testBit, Bool.false_or, hi, decide_true, Bool.true_and]
    rw [Bool.eq_iff_iff]; simp [mem_nums_nat, hi]
  · rw [bit_high s i hs (by omega)]; simp [hi]
theorem cut_nums (s : Nat) (hs : s < U) : cutN s (numsTo s 64) = 0 := by
  apply Nat.eq_of_testBit_eq
  intro i
  rw [cutN_bit _ _ _ hs]
  by_cases hi : i < 64
  · cases h : s.testBit i
    · simp
    · simp [mem_nums_nat, hi, h]
  · rw [bit_high s i hs (by omega)]; simp
theorem nums_all (k : Nat) (hk : k ≤ 64) : numsTo (allN k) 64 = (List.range k).map Int.ofNat := by
  have h : ∀ d, k + d ≤ 64 → numsTo (allN k) (k + d) = (List.range k).map Int.ofNat := by
    intro d
    induction d with
    | zero =>
      intro _
      unfold numsTo
      congr 1
      rw [Nat.add_zero]
      apply List.filter_eq_self.2
      intro i hi
      have := List.mem_range.1 hi
      rw [allN_bit]; simp; omega
    | succ d ih =>
      intro hd
      rw [← Nat.add_assoc, numsTo_miss, ih (by omega)]
      rw [allN_bit]; simp; omega
  have := h (64 - k) (by omega)
  rwa [show k + (64 - k) = 64 by omega] at this
theorem count_all (k : Nat) (hk : k ≤ 64) : (numsTo (allN k) 64).length = k := by rw [nums_all k hk]; simp
theorem has_all (k j : Nat) (hk : k ≤ 64) (hj : j < 64) : hasB (allN k) j = decide ((j : Int) < (k : Int)) := by
  rw [hasB_nat, allN_bit]; simp [hj]
theorem nums_lt (s k : Nat) : ∀ y ∈ numsTo s k, y < (k : Int) := by
  intro y hy
  obtain ⟨i, h1, _, rfl⟩ := (mem_numsTo s k y).1 hy
  omega
theorem first_all_yes (k j : Nat) (hk : k ≤ 64) (hj : j < k) : firstOf (numsTo (allN k) 64) j = j := by
  refine firstOf_some _ (numsTo (allN k) j) j j (nums_lt _ _) (Int.le_refl _) ?_
  rw [← numsTo_hit _ _ (by rw [allN_bit]; simp; omega)]
  exact numsTo_front _ _ _ (by omega)
theorem first_all_no (k j : Nat) (hk : k ≤ 64) (hj : k ≤ j) : firstOf (numsTo (allN k) 64) j = -1 := by
  refine firstOf_none _ _ fun x hx => ?_
  rw [nums_all k hk] at hx
  simp at hx
  omega

end Go.Proofs.Ytjkdanfpejfplaa
