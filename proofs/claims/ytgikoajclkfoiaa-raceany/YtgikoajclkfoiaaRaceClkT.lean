/- Who tells what an event hears: the document's rules, by what race's clocks are kept under. No program. -/
import Derived.Test.YtgikoajclkfoiaaRaceClkS
import Derived.Test.YtgikoajclkfoiaaRefOrdM
namespace Go.Proofs.Ytgikoajclkfoiaa
set_option linter.unusedVariables false
set_option linter.unusedSimpArgs false
set_option maxRecDepth 100000
open Go.ChangeShapes Go.WideShapes Go.ChangeAt Go.RowKit

theorem tkB_iff (e : EvD) : tkB e = true ↔ (e.op = 21 ∨ e.op = 22) ∧ e.mode = 1 := by
  simp [tkB, modeS]
theorem clB_iff (e : EvD) : clB e = true ↔ (e.op = 21 ∨ e.op = 22) ∧ e.mode = 2 := by
  simp [clB, modeS]
/-- All that an event tells, in one line. -/
theorem tells_iff (S T : Int → Nat) (e : EvD) (y : Ky) : tellsL S T e = some y ↔
    (e.op = 12 ∧ y = (0, e.obj, 0)) ∨ (e.op = 14 ∧ y = (1, e.obj, 0)) ∨ (e.op = 16 ∧ y = (2, e.obj, 0)) ∨ ((e.op = 18 ∨ e.op = 19) ∧ y = (3, e.obj, 0)) ∨ (e.op = 20 ∧ y = (4, e.obj, ((S e.obj : Nat) : Int))) ∨ (tkB e = true ∧ y = (5, e.obj, ((T e.obj : Nat) : Int))) ∨
    (e.op = 23 ∧ y = (6, e.obj, 0)) ∨ (e.op = 24 ∧ e.val < 0 ∧ y = (7, e.obj, 0)) ∨ (e.op = 27 ∧ y = (8, e.obj, 0)) := by
  have hk := tkB_iff e
  unfold tellsL
  by_cases h12 : e.op = 12
  · simp [h12, hk, eq_comm]
  by_cases h14 : e.op = 14
  · simp [h14, hk, eq_comm]
  by_cases h16 : e.op = 16
  · simp [h16, hk, eq_comm]
  by_cases h18 : e.op = 18
  · simp [h18, hk, eq_comm]
  by_cases h19 : e.op = 19
  · simp [h19, hk, eq_comm]
  by_cases h20 : e.op = 20
  · simp [h20, hk, eq_comm]
  rw [if_neg h12, if_neg h14, if_neg h16, if_neg h18, if_neg h19, if_neg h20]
  by_cases hb : tkB e = true
  · have h21 := (hk.1 hb).1
    rw [if_pos hb]
    have a1 : ¬ e.op = 23 := by omega
    have a2 : ¬ e.op = 24 := by omega
    have a3 : ¬ e.op = 27 := by omega
    simp [h12, h14, h16, h18, h19, h20, hb, a1, a2, a3, eq_comm]
  · rw [if_neg hb]
    by_cases h23 : e.op = 23
    · simp [h23, hb, eq_comm]
    by_cases h24 : e.op = 24
    · by_cases hv : e.val < 0
      · simp [h24, hv, hb, eq_comm]
      · simp [h24, hv, hb]
    by_cases h27 : e.op = 27
    · simp [h27, hb, eq_comm]
    simp [h12, h14, h16, h18, h19, h20, hb, h23, h24, h27]
/-- All that an event hears, in one line. -/
theorem hears_iff (chans : List Int) (S T : Int → Nat) (e : EvD) (y : Ky) : y ∈ hearsL chans S T e ↔
    (e.op = 13 ∧ (y = (1, e.obj, 0) ∨ y = (2, e.obj, 0))) ∨ (e.op = 15 ∧ y = (1, e.obj, 0)) ∨ ((e.op = 17 ∨ e.op = 19) ∧ y = (3, e.obj, 0)) ∨ (tkB e = true ∧ y = (4, e.obj, ((T e.obj : Nat) : Int))) ∨
    (e.op = 20 ∧ y = (5, e.obj, RowKit.wrap64 (((S e.obj : Nat) : Int) - roomL chans e.obj))) ∨ (clB e = true ∧ y = (6, e.obj, 0)) ∨ (e.op = 25 ∧ y = (7, e.obj, 0)) ∨ (e.op = 26 ∧ e.mode = 0 ∧ y = (8, e.obj, 0)) := by
  have hk := tkB_iff e
  have hl := clB_iff e
  unfold hearsL
  by_cases h13 : e.op = 13
  · simp [h13, hk, hl]
  by_cases h15 : e.op = 15
  · simp [h15, hk, hl]
  by_cases h17 : e.op = 17
  · simp [h17, hk, hl]
  by_cases h19 : e.op = 19
  · simp [h19, hk, hl]
  rw [if_neg h13, if_neg h15, if_neg h17, if_neg h19]
  by_cases hb : tkB e = true
  · have h21 := hk.1 hb
    have a1 : ¬ e.op = 20 := by omega
    have a2 : ¬ e.op = 25 := by omega
    have a3 : ¬ e.op = 26 := by omega
    have a4 : ¬ clB e = true := fun h => by have := hl.1 h; omega
    rw [if_pos hb]
    simp [h13, h15, h17, h19, hb, a1, a2, a3, a4]
  rw [if_neg hb]
  by_cases h20 : e.op = 20
  · simp [h20, hb, hl]
  rw [if_neg h20]
  by_cases hc : clB e = true
  · have h21 := hl.1 hc
    have a2 : ¬ e.op = 25 := by omega
    have a3 : ¬ e.op = 26 := by omega
    rw [if_pos hc]
    simp [h13, h15, h17, h19, hb, h20, hc, a2, a3]
  rw [if_neg hc]
  by_cases h25 : e.op = 25
  · simp [h25, hb, hc]
  by_cases h26 : e.op = 26
  · by_cases hm : e.mode = 0
    · simp [h26, hm, hb, hc]
    · simp [h26, hm, hb, hc]
  simp [h13, h15, h17, h19, h20, hb, hc, h25, h26]
/-- The document's rules, but for threads, in one line. -/
theorem rdO_iff {chans : List Int} {t : List EvD} {i j : Nat} {e e' : EvD} : rdO chans t i j e e' = true ↔
    (e.op = 14 ∧ (e'.op = 13 ∨ e'.op = 15)) ∨ (e.op = 16 ∧ e'.op = 13) ∨ ((e.op = 18 ∨ e.op = 19) ∧ (e'.op = 17 ∨ e'.op = 19) ∧ ¬ cntS wrS e.obj (t.take (i + 1)) < cntS wrS e.obj (t.take j)) ∨
    (e.op = 20 ∧ tkB e' = true ∧ cntS sdS e.obj (t.take i) = cntS tkS e.obj (t.take j)) ∨ (e.op = 23 ∧ clB e' = true) ∨ (e.op = 24 ∧ e.val < 0 ∧ e'.op = 25) ∨ (e.op = 27 ∧ e'.op = 26 ∧ e'.mode = 0) ∨
    (tkB e = true ∧ e'.op = 20 ∧ IntKind.i64.wrap ((cntS tkS e.obj (t.take i) : Int) + roomL chans e.obj) = (cntS sdS e.obj (t.take j) : Int)) := by
  have hk := tkB_iff e
  have u1 : (tkS e').2 = tkB e' := rfl
  have u2 : (tkS e).2 = tkB e := rfl
  have u3 : (modeS 2 [21, 22] e').2 = clB e' := rfl
  unfold rdO
  rw [u1, u2, u3]
  by_cases h14 : e.op = 14
  · simp [h14, hk]
  by_cases h16 : e.op = 16
  · simp [h16, hk]
  by_cases h18 : e.op = 18
  · simp [h18, hk]
  by_cases h19 : e.op = 19
  · simp [h19, hk]
  by_cases h20 : e.op = 20
  · simp [h20, hk]
    intro _; omega
  by_cases h23 : e.op = 23
  · simp [h23, hk]
  by_cases h24 : e.op = 24
  · simp [h24, hk]
  by_cases h27 : e.op = 27
  · simp [h27, hk]
  simp [h14, h16, h18, h19, h20, h23, h24, h27, and_assoc]
end Go.Proofs.Ytgikoajclkfoiaa
