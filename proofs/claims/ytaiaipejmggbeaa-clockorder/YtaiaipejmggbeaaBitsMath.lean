/- Plain facts on sets of the numbers 0 to 63 kept as a number's binary digits. No program, no condition. -/
import Derived.Laws.BitsAllLaws
import Derived.WalkSmall
namespace Go.Proofs.Ytaiaipejmggbeaa
set_option linter.unusedVariables false
set_option linter.unusedSimpArgs false

/-- Two to the power of 64, behind a name. -/
def U : Nat := 18446744073709551616
theorem U_eq : U = 2 ^ 64 := by decide

/-- Is a number in a set? -/
def hasB (s : Nat) (i : Int) : Bool := decide (0 ≤ i) && decide (i < 64) && s.testBit i.toNat
/-- The numbers of a set, rising. -/
def nums (s : Nat) : List Nat := (List.range 64).filter fun i => s.testBit i
/-- The set of those of a list that are 0 to 63. -/
def amongN (l : List Int) : Nat := l.foldl (fun s i => if 0 ≤ i ∧ i < 64 then s ||| 2 ^ i.toNat else s) 0

/-- Two to the power of a number, behind a name. -/
def pw (i : Int) : Int := ((2 ^ i.toNat : Nat) : Int)
theorem wrap_two (i : Int) (h0 : 0 ≤ i) (h : i < 64) : IntKind.u64.wrap (2 ^ i.toNat) = pw i := by
  have l : 2 ^ i.toNat < 2 ^ 64 := Nat.pow_lt_pow_right (by decide) (by omega)
  rw [IntKind.wrap_u64]
  unfold pw
  have c : (2 : Int) ^ i.toNat = ((2 ^ i.toNat : Nat) : Int) := by simp
  rw [c]
  generalize 2 ^ i.toNat = x at *
  omega
theorem two_lt (i : Nat) (h : i < 64) : 2 ^ i < U := by rw [U_eq]; exact Nat.pow_lt_pow_right (by decide) h
theorem hasB_nat (s i : Nat) : hasB s (i : Int) = (decide (i < 64) && s.testBit i) := by
  have h : ((i : Int) < 64) = (i < 64) := propext (by omega)
  unfold hasB; simp [h]
theorem hasB_yes (s : Nat) (i : Int) (h0 : 0 ≤ i) (h1 : i < 64) : hasB s i = s.testBit i.toNat := by simp [hasB, h0, h1]
theorem hasB_no (s : Nat) (i : Int) (h : ¬ (0 ≤ i ∧ i < 64)) : hasB s i = false := by
  unfold hasB; by_cases h0 : 0 ≤ i
  · have : ¬ i < 64 := fun h1 => h ⟨h0, h1⟩
    simp [this]
  · simp [h0]
theorem and_two (s i : Nat) : (s &&& 2 ^ i) = (if s.testBit i then 2 ^ i else 0) := by
  apply Nat.eq_of_testBit_eq
  intro j
  rw [Nat.testBit_and, Nat.testBit_two_pow]
  by_cases h : i = j
  · subst h; cases hs : s.testBit i <;> simp
  · cases hs : s.testBit i <;> simp [h]
theorem or_lt (a b : Nat) (ha : a < U) (hb : b < U) : a ||| b < U := by rw [U_eq] at *; exact Nat.or_lt_two_pow ha hb
theorem and_le (a b : Nat) (ha : a < U) : a &&& b < U := Nat.lt_of_le_of_lt Nat.and_le_left ha
theorem ret_bool {a b : Bool} (h : a = b) : Ending.returned (.bool a) = .returned (.bool b) := by rw [h]
theorem ret_int {k : IntKind} {a b : Int} (h : a = b) : Ending.returned (.int k a) = .returned (.int k b) := by rw [h]
theorem pw_eq (i : Int) : pw i = ((2 ^ i.toNat : Nat) : Int) := rfl
theorem has_eq (s : Nat) (i : Int) (hs : s < U) (h0 : 0 ≤ i) (h1 : i < 64) : (bits BinOp.and IntKind.u64 (s : Int) (pw i) != 0) = hasB s i := by
  rw [pw_eq, u64_and_nat s _ hs (two_lt _ (by omega)), and_two, hasB_yes s i h0 h1]
  have hp : 0 < 2 ^ i.toNat := Nat.pow_pos (by decide)
  cases s.testBit i.toNat
  · simp
  · generalize 2 ^ i.toNat = x at *
    simp; omega
/-- All numbers from 0 to n - 1. -/
def allN (n : Int) : Nat := 2 ^ (min (max n 0) 64).toNat - 1
theorem all_eq (m : Int) (h0 : 0 ≤ m) (h1 : m ≤ 64) : IntKind.u64.wrap (IntKind.u64.wrap (2 ^ m.toNat) - 1) = ((2 ^ m.toNat - 1 : Nat) : Int) := by
  have l : 2 ^ m.toNat ≤ 2 ^ 64 := Nat.pow_le_pow_right (by decide) (by omega)
  have hp : 0 < 2 ^ m.toNat := Nat.pow_pos (by decide)
  rw [IntKind.wrap_u64, IntKind.wrap_u64]
  have c : (2 : Int) ^ m.toNat = ((2 ^ m.toNat : Nat) : Int) := by simp
  rw [c]
  generalize 2 ^ m.toNat = x at *
  omega
theorem all_low_eq (n : Int) (h : n < 0) : (0 : Int) = (allN n : Int) := by
  have e : (min (max n 0) 64).toNat = 0 := by omega
  unfold allN; rw [e]; rfl
theorem all_mid_eq (n : Int) (h0 : 0 ≤ n) (h1 : n ≤ 64) : IntKind.u64.wrap (IntKind.u64.wrap (2 ^ n.toNat) - 1) = (allN n : Int) := by
  have e : (min (max n 0) 64).toNat = n.toNat := by omega
  unfold allN; rw [e]; exact all_eq n (by omega) h1
theorem all_high_eq (n : Int) (h : 64 < n) : IntKind.u64.wrap (IntKind.u64.wrap 18446744073709551616 - 1) = (allN n : Int) := by
  have e : (min (max n 0) 64).toNat = 64 := by omega
  unfold allN; rw [e]; simp [IntKind.wrap_u64]
theorem pw_pos (i : Int) : 0 < pw i := by
  have hp : 0 < 2 ^ i.toNat := Nat.pow_pos (by decide)
  rw [pw_eq]; omega
theorem pw_double (j : Nat) (h : j < 63) : IntKind.u64.wrap (2 * pw j) = pw ((j + 1 : Nat) : Int) := by
  have l : 2 ^ (j + 1) < 2 ^ 64 := Nat.pow_lt_pow_right (by decide) (by omega)
  rw [IntKind.wrap_u64, pw_eq, pw_eq, Int.toNat_natCast, Int.toNat_natCast]
  rw [Nat.pow_succ] at *
  generalize 2 ^ j = x at *
  omega
theorem refHas_eq (s : Nat) (i : Int) (hs : s < U) (h0 : 0 ≤ i) (h1 : i < 64) : ((IntKind.u64.wrap ((s : Int) / pw i)).tmod 2 == 1) = hasB s i := by
  rw [hasB_yes s i h0 h1, pw_eq, Nat.testBit_eq_decide_div_mod_eq, IntKind.wrap_u64]
  generalize 2 ^ i.toNat = x at *
  have hle : s / x ≤ s := Nat.div_le_self _ _
  have hl : s / x < 18446744073709551616 := Nat.lt_of_le_of_lt hle hs
  have e1 : ((s : Int) / (x : Int)) = ((s / x : Nat) : Int) := by simp
  rw [e1]
  generalize s / x = y at *
  have e2 : ((y : Int) % 18446744073709551616) = (y : Int) := by omega
  rw [e2]
  have e : ((y : Int)).tmod 2 = ((y % 2 : Nat) : Int) := rfl
  rw [e]
  by_cases h : y % 2 = 1
  · simp [h]
  · have : y % 2 = 0 := by omega
    simp [this]

end Go.Proofs.Ytaiaipejmggbeaa
