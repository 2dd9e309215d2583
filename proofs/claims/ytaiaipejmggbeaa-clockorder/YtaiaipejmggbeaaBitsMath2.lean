/- Plain facts on sets: putting in, taking out, all below a number. No program, no condition. -/
import Derived.Test.YtaiaipejmggbeaaBitsMath
import Derived.Below
namespace Go.Proofs.Ytaiaipejmggbeaa
set_option linter.unusedVariables false
set_option linter.unusedSimpArgs false
open Go.RowKit

/-- One more of a list: what among makes of it. -/
def stepN (s : Nat) (x : Int) : Nat := if 0 ≤ x ∧ x < 64 then s ||| 2 ^ x.toNat else s
def putN (s : Nat) (l : List Int) : Nat := l.foldl stepN s
def cutN (s : Nat) (l : List Int) : Nat := s &&& (U - 1 - putN 0 l)
theorem stepN_yes (s : Nat) (x : Int) (h : 0 ≤ x ∧ x < 64) : stepN s x = s ||| 2 ^ x.toNat := by simp [stepN, h]
theorem stepN_no (s : Nat) (x : Int) (h : ¬ (0 ≤ x ∧ x < 64)) : stepN s x = s := by unfold stepN; rw [if_neg h]
theorem stepN_lt (s : Nat) (x : Int) (hs : s < U) : stepN s x < U := by
  by_cases h : 0 ≤ x ∧ x < 64
  · rw [stepN_yes _ _ h]; exact or_lt _ _ hs (two_lt _ (by omega))
  · rw [stepN_no _ _ h]; exact hs
theorem putN_snoc (s : Nat) (l : List Int) (x : Int) : putN s (l ++ [x]) = stepN (putN s l) x := by simp [putN]
theorem putN_lt (l : List Int) : ∀ s, s < U → putN s l < U := by
  induction l with
  | nil => intro s h; exact h
  | cons x l ih => intro s h; exact ih _ (stepN_lt s x h)
theorem take_more {l : List Int} {k : Nat} {x : Int} (h : l[k]? = some x) : l.take (k + 1) = l.take k ++ [x] := by
  rw [List.take_add_one, h]; rfl
theorem stepN_bit (s : Nat) (x : Int) (i : Nat) : (stepN s x).testBit i = (s.testBit i || (decide (i < 64) && decide ((i : Int) = x))) := by
  by_cases h : 0 ≤ x ∧ x < 64
  · rw [stepN_yes _ _ h, Nat.testBit_or, Nat.testBit_two_pow]
    by_cases e : x.toNat = i
    · have e1 : (i : Int) = x := by omega
      have e2 : i < 64 := by omega
      simp [e, e1, e2]
    · have e1 : ¬ (i : Int) = x := by omega
      simp [e, e1]
  · rw [stepN_no _ _ h]
    by_cases e2 : i < 64
    · have e1 : ¬ (i : Int) = x := by omega
      simp [e1]
    · simp [e2]
theorem putN_bit (l : List Int) : ∀ (s i : Nat), (putN s l).testBit i = (s.testBit i || (decide (i < 64) && decide ((i : Int) ∈ l))) := by
  induction l with
  | nil => intro s i; simp [putN]
  | cons x l ih =>
    intro s i
    show (putN (stepN s x) l).testBit i = _
    rw [ih, stepN_bit]
    by_cases h : i < 64
    · by_cases e : (i : Int) = x
      · simp [h, e]
      · simp [h, e]
    · simp [h]
theorem bit_high (s i : Nat) (hs : s < U) (hi : 64 ≤ i) : s.testBit i = false := by
  apply Nat.testBit_lt_two_pow
  rw [U_eq] at hs
  exact Nat.lt_of_lt_of_le hs (Nat.pow_le_pow_right (by decide) hi)
theorem not_bit (b i : Nat) (hb : b < U) (hi : i < 64) : (U - 1 - b).testBit i = !b.testBit i := by
  have h : U - 1 - b = 2 ^ 64 - (b + 1) := by unfold U; omega
  rw [h, Nat.testBit_two_pow_sub_succ (by rw [← U_eq]; exact hb)]
  simp [hi]
theorem cutN_bit (s : Nat) (l : List Int) (i : Nat) (hs : s < U) : (cutN s l).testBit i = (s.testBit i && !decide ((i : Int) ∈ l)) := by
  unfold cutN
  rw [Nat.testBit_and]
  by_cases hi : i < 64
  · rw [not_bit _ _ (putN_lt l 0 (by decide)) hi, putN_bit]; simp [hi]
  · rw [bit_high s i hs (by omega)]; simp
theorem put_or (s : Nat) (l : List Int) : s ||| putN 0 l = putN s l := by
  apply Nat.eq_of_testBit_eq
  intro i
  rw [Nat.testBit_or, putN_bit, putN_bit]; simp
theorem cutN_lt (s : Nat) (l : List Int) (hs : s < U) : cutN s l < U := and_le _ _ hs
theorem add_or (t i : Nat) (ht : t < U) (hi : i < 64) (h : t.testBit i = false) : t + 2 ^ i = t ||| 2 ^ i := by
  have h2 := two_lt i hi
  rw [U_eq] at ht h2
  have hz : (BitVec.ofNat 64 t) &&& (BitVec.ofNat 64 (2 ^ i)) = 0#64 := by
    apply BitVec.eq_of_toNat_eq
    rw [BitVec.toNat_and, BitVec.toNat_ofNat, BitVec.toNat_ofNat, Nat.mod_eq_of_lt ht, Nat.mod_eq_of_lt h2, and_two, h]
    rfl
  have e1 := BitVec.toNat_add_of_and_eq_zero hz
  rw [BitVec.add_eq_or_of_and_eq_zero _ _ hz, BitVec.toNat_or, BitVec.toNat_ofNat, BitVec.toNat_ofNat, Nat.mod_eq_of_lt ht, Nat.mod_eq_of_lt h2] at e1
  exact e1.symm
theorem cutN_snoc_yes (s : Nat) (l : List Int) (x : Int) (hs : s < U) (hb : hasB (cutN s l) x = true) : cutN s (l ++ [x]) = cutN s l - 2 ^ x.toNat := by
  unfold hasB at hb
  simp only [Bool.and_eq_true, decide_eq_true_eq] at hb
  obtain ⟨⟨h0, h1⟩, hb⟩ := hb
  have hz : (cutN s (l ++ [x])).testBit x.toNat = false := by
    rw [cutN_bit _ _ _ hs]; simp; omega
  have hj := add_or _ x.toNat (cutN_lt s (l ++ [x]) hs) (by omega) hz
  have hk : cutN s (l ++ [x]) ||| 2 ^ x.toNat = cutN s l := by
    apply Nat.eq_of_testBit_eq
    intro i
    rw [Nat.testBit_or, Nat.testBit_two_pow, cutN_bit _ _ _ hs, cutN_bit _ _ _ hs]
    rw [cutN_bit _ _ _ hs] at hb
    by_cases e : x.toNat = i
    · subst e; rw [hb]; simp
    · have : ¬ (i : Int) = x := by omega
      simp [e, this]
  omega
theorem cutN_snoc_no (s : Nat) (l : List Int) (x : Int) (hs : s < U) (hb : hasB (cutN s l) x = false) : cutN s (l ++ [x]) = cutN s l := by
  apply Nat.eq_of_testBit_eq
  intro i
  rw [cutN_bit _ _ _ hs, cutN_bit _ _ _ hs]
  by_cases e : (i : Int) = x
  · subst e
    rw [hasB_nat, cutN_bit _ _ _ hs] at hb
    by_cases hi : i < 64
    · simp [hi] at hb; simp; exact hb
    · rw [bit_high s i hs (by omega)]; simp
  · simp [e]
theorem cutN_nil (s : Nat) (hs : s < U) : cutN s [] = s := by
  apply Nat.eq_of_testBit_eq
  intro i
  rw [cutN_bit _ _ _ hs]; simp

/-! The document's steps, as the walk spells them. -/
theorem or_eq (a : Nat) (x : Int) (ha : a < U) (h0 : 0 ≤ x) (h1 : x < 64) : bits BinOp.or IntKind.u64 (a : Int) (pw x) = ((stepN a x : Nat) : Int) := by
  rw [pw_eq, u64_or_nat a _ ha (two_lt _ (by omega)), stepN_yes _ _ ⟨h0, h1⟩]
theorem with_eq (s : Nat) (l : List Int) (hs : s < U) : bits BinOp.or IntKind.u64 (s : Int) ((putN 0 l : Nat) : Int) = ((putN s l : Nat) : Int) := by
  rw [u64_or_nat s _ hs (putN_lt l 0 (by decide)), put_or]
theorem without_eq (s : Nat) (l : List Int) (hs : s < U) : bits BinOp.andNot IntKind.u64 (s : Int) ((putN 0 l : Nat) : Int) = ((cutN s l : Nat) : Int) := by
  rw [u64_andNot_nat s _ hs (putN_lt l 0 (by decide))]; rfl
theorem wrapU (n : Nat) (h : n < U) : IntKind.u64.wrap (n : Int) = (n : Int) := by
  rw [IntKind.wrap_u64]; unfold U at h; omega
theorem add_eq (s : Nat) (x : Int) (hs : s < U) (h0 : 0 ≤ x) (h1 : x < 64) (hb : hasB s x = false) : IntKind.u64.wrap ((s : Int) + pw x) = ((stepN s x : Nat) : Int) := by
  rw [hasB_yes s x h0 h1] at hb
  have e := add_or s x.toNat hs (by omega) hb
  rw [pw_eq, stepN_yes _ _ ⟨h0, h1⟩, ← e]
  have hl : s + 2 ^ x.toNat < U := by rw [e]; exact or_lt _ _ hs (two_lt _ (by omega))
  have := wrapU _ hl
  rw [← this]; congr 1
theorem add_none (s : Nat) (x : Int) (h0 : 0 ≤ x) (h1 : x < 64) (hb : hasB s x = true) : stepN s x = s := by
  rw [hasB_yes s x h0 h1] at hb
  rw [stepN_yes _ _ ⟨h0, h1⟩]
  apply Nat.eq_of_testBit_eq
  intro i
  rw [Nat.testBit_or, Nat.testBit_two_pow]
  by_cases e : x.toNat = i
  · subst e; simp [hb]
  · simp [e]
theorem sub_eq (s : Nat) (l : List Int) (x : Int) (hs : s < U) (hb : hasB (cutN s l) x = true) : IntKind.u64.wrap (((cutN s l : Nat) : Int) - pw x) = ((cutN s (l ++ [x]) : Nat) : Int) := by
  have e := cutN_snoc_yes s l x hs hb
  have hl := cutN_lt s (l ++ [x]) hs
  unfold hasB at hb
  simp only [Bool.and_eq_true, decide_eq_true_eq] at hb
  have hle : 2 ^ x.toNat ≤ cutN s l := Nat.ge_two_pow_of_testBit hb.2
  have h2 : ((cutN s l : Nat) : Int) - pw x = ((cutN s (l ++ [x]) : Nat) : Int) := by
    rw [pw_eq, e]; omega
  rw [h2]
  exact wrapU _ hl
theorem allN_le (k : Nat) (hk : k ≤ 64) : allN k = 2 ^ k - 1 := by
  have e : (min (max (k : Int) 0) 64).toNat = k := by omega
  unfold allN; rw [e]
theorem allN_lt (n : Int) : allN n < U := by
  have l : 2 ^ (min (max n 0) 64).toNat ≤ 2 ^ 64 := Nat.pow_le_pow_right (by decide) (by omega)
  unfold allN
  rw [U_eq]
  have hp : 0 < 2 ^ (min (max n 0) 64).toNat := Nat.pow_pos (by decide)
  omega
theorem allN_bit (n : Int) (i : Nat) : (allN n).testBit i = decide (i < 64 ∧ (i : Int) < n) := by
  unfold allN
  rw [Nat.testBit_two_pow_sub_one]
  have : (i < (min (max n 0) 64).toNat) = (i < 64 ∧ (i : Int) < n) := propext (by omega)
  simp [this]
theorem all_step (k : Nat) (hk : k < 64) : IntKind.u64.wrap (((allN k : Nat) : Int) + pw k) = ((allN ((k + 1 : Nat) : Int) : Nat) : Int) := by
  have hl := allN_lt ((k + 1 : Nat) : Int)
  have hp : 0 < 2 ^ k := Nat.pow_pos (by decide)
  have h2 : ((allN k : Nat) : Int) + pw k = ((allN ((k + 1 : Nat) : Int) : Nat) : Int) := by
    rw [allN_le k (by omega), allN_le (k + 1) (by omega), pw_eq, Int.toNat_natCast, Nat.pow_succ]; omega
  rw [h2]
  exact wrapU _ hl
theorem allN_cap (k : Nat) (n : Int) (h : n ≤ k) (hk : k ≤ 64) : allN (min (k : Int) n) = allN n := by
  unfold allN; congr 2; omega

end Go.Proofs.Ytaiaipejmggbeaa
