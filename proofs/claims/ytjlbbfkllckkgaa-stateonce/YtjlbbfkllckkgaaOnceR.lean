/- The states that the threads of StateOnce can come to. -/
import Derived.Test.YtjlbbfkllckkgaaStateFinite
namespace Go.Proofs.Ytjlbbfkllckkgaa
set_option linter.unusedVariables false
set_option linter.unusedSimpArgs false
open Go.ChangeShapes Go.WideShapes Go.ChangeAt Go.RowKit

def onA : List InsD := [⟨26, 0, 0, 0⟩, ⟨11, 0, 4, 0⟩, ⟨9, 0, 0, 0⟩, ⟨27, 0, 0, 0⟩, ⟨0, 0, 0, 0⟩]
def onB : List InsD := [⟨12, 1, 0, 0⟩, ⟨12, 2, 0, 0⟩]
def onCode : List (List InsD) := [onB, onA, onA]
def onD : ProgD := { vars := 0, atoms := 0, locks := 0, chans := [], groups := 0, onces := 1, threads := onCode }
theorem onD_sound : soundE onD = 0 := by kernel_rfl
/-- Where the threads are, who has begun, their first registers, how far the once has come: all else is nought; what was told. -/
def onL : List Int → List Int × List Int
  | p0 :: o1 :: p1 :: r1 :: o2 :: p2 :: r2 :: c :: t => ([0, 1, p0, 0, 0, 0, 0, o1, p1, r1, 0, 0, 0, o2, p2, r2, 0, 0, 0] ++ List.replicate 66 0 ++ [c] ++ List.replicate 5 0, t)
  | _ => ([], [])
def onR : List (List Int × List Int) := [
  [0, 0, 0, 0, 0, 0, 0, 0], [1, 1, 0, 0, 0, 0, 0, 0], [2, 1, 0, 0, 1, 0, 0, 0], [1, 1, 1, 1, 0, 0, 0, 1], [2, 1, 1, 1, 1, 0, 0, 1],
  [2, 1, 0, 0, 1, 1, 1, 1], [1, 1, 2, 1, 0, 0, 0, 1], [2, 1, 2, 1, 1, 0, 0, 1], [2, 1, 0, 0, 1, 2, 1, 1], [1, 1, 3, 1, 0, 0, 0, 1, 1],
  [2, 1, 3, 1, 1, 0, 0, 1, 1], [2, 1, 0, 0, 1, 3, 1, 1, 1], [1, 1, 4, 1, 0, 0, 0, 2, 1], [2, 1, 4, 1, 1, 0, 0, 2, 1], [2, 1, 0, 0, 1, 4, 1, 2, 1],
  [1, 1, 5, 1, 0, 0, 0, 2, 1], [2, 1, 5, 1, 1, 0, 0, 2, 1], [2, 1, 4, 1, 1, 1, 0, 2, 1], [2, 1, 1, 0, 1, 4, 1, 2, 1], [2, 1, 0, 0, 1, 5, 1, 2, 1],
  [2, 1, 5, 1, 1, 1, 0, 2, 1], [2, 1, 4, 1, 1, 4, 0, 2, 1], [2, 1, 4, 0, 1, 4, 1, 2, 1], [2, 1, 1, 0, 1, 5, 1, 2, 1], [2, 1, 5, 1, 1, 4, 0, 2, 1],
  [2, 1, 4, 1, 1, 5, 0, 2, 1], [2, 1, 5, 0, 1, 4, 1, 2, 1], [2, 1, 4, 0, 1, 5, 1, 2, 1], [2, 1, 5, 1, 1, 5, 0, 2, 1], [2, 1, 5, 0, 1, 5, 1, 2, 1]].map onL
set_option maxRecDepth 100000 in
theorem on_len : onR.all (fun l => l.1.length == 91) = true := by kernel_rfl
set_option maxRecDepth 100000 in
theorem on_closed : closed onCode onR = true := by kernel_rfl
/-- Whether a thread does what is to be done once. -/
def onIn (m : Nat → Int) (j : Nat) : Int := if decide (0 < m (1 + j * 6 + 1)) && decide (m (1 + j * 6 + 1) < 4) && (m (rg j 0) == 1) then 1 else 0
set_option maxRecDepth 100000 in
theorem on_good : onR.all (fun l => decide (l.2.length ≤ 1) && decide (onIn (ofL l.1) 1 + onIn (ofL l.1) 2 ≤ 1) && (statusM onCode (ofL l.1) != 3) && ((decide (ofL l.1 8 < 4) && decide (ofL l.1 14 < 4)) || decide (l.2.length = 1) || decide (ofL l.1 8 = 0) || decide (ofL l.1 14 = 0))) = true := by kernel_rfl
set_option maxRecDepth 100000 in
theorem on_start : Reach onR (newM []) [] := by
  refine ⟨onL [0, 0, 0, 0, 0, 0, 0, 0], by unfold onR; simp, ?_, rfl⟩
  rw [newM_nil]
  funext i
  by_cases hi : i < 91
  · have h : ∀ i, i < 91 → (if i = 1 then (1 : Int) else 0) = ofL (onL [0, 0, 0, 0, 0, 0, 0, 0]).1 i := by decide
    exact h i hi
  · rw [if_neg (by omega)]
    show 0 = ((onL [0, 0, 0, 0, 0, 0, 0, 0]).1[i]?).getD 0
    rw [List.getElem?_eq_none (by show 91 ≤ i; omega)]; rfl
theorem on_facts {m : Nat → Int} {t : List Int} (h : Reach onR m t) : t.length ≤ 1 ∧ onIn m 1 + onIn m 2 ≤ 1 ∧ statusM onCode m ≠ 3 ∧ ((m 8 < 4 ∧ m 14 < 4) ∨ t.length = 1 ∨ m 8 = 0 ∨ m 14 = 0) := by
  obtain ⟨l, hl, rfl, rfl⟩ := h
  have := List.all_eq_true.1 on_good l hl
  simpa [and_assoc, or_assoc] using this
end Go.Proofs.Ytjlbbfkllckkgaa
