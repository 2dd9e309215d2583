/- The states that the threads of StateLocks can come to. -/
import Derived.Test.YtjlbbfkllckkgaaStateFinite
namespace Go.Proofs.Ytjlbbfkllckkgaa
set_option linter.unusedVariables false
set_option linter.unusedSimpArgs false
open Go.ChangeShapes Go.WideShapes Go.ChangeAt Go.RowKit

def lkA : List InsD := [⟨13, 0, 0, 0⟩, ⟨14, 0, 0, 0⟩, ⟨15, 0, 0, 0⟩, ⟨16, 0, 0, 0⟩, ⟨10, 0, 0, 0⟩]
def lkB : List InsD := [⟨12, 1, 0, 0⟩, ⟨12, 2, 0, 0⟩, ⟨15, 0, 0, 0⟩, ⟨16, 0, 0, 0⟩, ⟨13, 0, 0, 0⟩, ⟨14, 0, 0, 0⟩, ⟨10, 2, 0, 0⟩]
def lkCode : List (List InsD) := [lkB, lkA, lkA]
def lkD : ProgD := { vars := 0, atoms := 0, locks := 1, chans := [], groups := 0, onces := 0, threads := lkCode }
theorem lkD_sound : soundE lkD = 0 := by kernel_rfl
/-- Where the threads are, who has begun, the lock: all else is nought. -/
def lkL : List Int → List Int × List Int
  | [p0, o1, p1, o2, p2, a, b] => ([0, 1, p0, 0, 0, 0, 0, o1, p1, 0, 0, 0, 0, o2, p2, 0, 0, 0, 0] ++ List.replicate 30 0 ++ [a, b] ++ List.replicate 40 0, [])
  | _ => ([], [])
def lkR : List (List Int × List Int) := [
  [0, 0, 0, 0, 0, 0, 0], [1, 1, 0, 0, 0, 0, 0], [2, 1, 0, 1, 0, 0, 0], [1, 1, 1, 0, 0, 1, 0], [3, 1, 0, 1, 0, 0, 1], [2, 1, 1, 1, 0, 1, 0],
  [2, 1, 0, 1, 1, 1, 0], [1, 1, 2, 0, 0, 0, 0], [4, 1, 0, 1, 0, 0, 0], [2, 1, 2, 1, 0, 0, 0], [2, 1, 0, 1, 2, 0, 0], [1, 1, 3, 0, 0, 0, 1],
  [5, 1, 0, 1, 0, 1, 0], [4, 1, 1, 1, 0, 1, 0], [4, 1, 0, 1, 1, 1, 0], [3, 1, 2, 1, 0, 0, 1], [2, 1, 3, 1, 0, 0, 1], [2, 1, 2, 1, 1, 1, 0],
  [3, 1, 0, 1, 2, 0, 1], [2, 1, 1, 1, 2, 1, 0], [2, 1, 0, 1, 3, 0, 1], [1, 1, 4, 0, 0, 0, 0], [6, 1, 0, 1, 0, 0, 0], [4, 1, 2, 1, 0, 0, 0],
  [4, 1, 0, 1, 2, 0, 0], [3, 1, 3, 1, 0, 0, 2], [2, 1, 4, 1, 0, 0, 0], [2, 1, 2, 1, 2, 0, 0], [3, 1, 0, 1, 3, 0, 2], [2, 1, 0, 1, 4, 0, 0],
  [6, 1, 1, 1, 0, 1, 0], [6, 1, 0, 1, 1, 1, 0], [5, 1, 2, 1, 0, 1, 0], [4, 1, 3, 1, 0, 0, 1], [4, 1, 2, 1, 1, 1, 0], [5, 1, 0, 1, 2, 1, 0],
  [4, 1, 1, 1, 2, 1, 0], [4, 1, 0, 1, 3, 0, 1], [3, 1, 4, 1, 0, 0, 1], [2, 1, 4, 1, 1, 1, 0], [3, 1, 2, 1, 2, 0, 1], [2, 1, 3, 1, 2, 0, 1],
  [2, 1, 2, 1, 3, 0, 1], [3, 1, 0, 1, 4, 0, 1], [2, 1, 1, 1, 4, 1, 0], [6, 1, 2, 1, 0, 0, 0], [6, 1, 0, 1, 2, 0, 0], [4, 1, 4, 1, 0, 0, 0],
  [4, 1, 2, 1, 2, 0, 0], [4, 1, 0, 1, 4, 0, 0], [2, 1, 4, 1, 2, 0, 0], [3, 1, 3, 1, 2, 0, 2], [3, 1, 2, 1, 3, 0, 2], [2, 1, 3, 1, 3, 0, 2],
  [2, 1, 2, 1, 4, 0, 0], [6, 1, 3, 1, 0, 0, 1], [6, 1, 2, 1, 1, 1, 0], [6, 1, 1, 1, 2, 1, 0], [6, 1, 0, 1, 3, 0, 1], [5, 1, 4, 1, 0, 1, 0],
  [4, 1, 4, 1, 1, 1, 0], [5, 1, 2, 1, 2, 1, 0], [4, 1, 3, 1, 2, 0, 1], [4, 1, 2, 1, 3, 0, 1], [5, 1, 0, 1, 4, 1, 0], [4, 1, 1, 1, 4, 1, 0],
  [3, 1, 4, 1, 2, 0, 1], [2, 1, 4, 1, 3, 0, 1], [3, 1, 3, 1, 3, 0, 3], [3, 1, 2, 1, 4, 0, 1], [2, 1, 3, 1, 4, 0, 1], [6, 1, 4, 1, 0, 0, 0],
  [6, 1, 2, 1, 2, 0, 0], [6, 1, 0, 1, 4, 0, 0], [4, 1, 4, 1, 2, 0, 0], [4, 1, 3, 1, 3, 0, 2], [4, 1, 2, 1, 4, 0, 0], [3, 1, 4, 1, 3, 0, 2],
  [2, 1, 4, 1, 4, 0, 0], [3, 1, 3, 1, 4, 0, 2], [6, 1, 4, 1, 1, 1, 0], [6, 1, 3, 1, 2, 0, 1], [6, 1, 2, 1, 3, 0, 1], [6, 1, 1, 1, 4, 1, 0],
  [5, 1, 4, 1, 2, 1, 0], [4, 1, 4, 1, 3, 0, 1], [4, 1, 3, 1, 4, 0, 1], [5, 1, 2, 1, 4, 1, 0], [3, 1, 4, 1, 4, 0, 1], [6, 1, 4, 1, 2, 0, 0],
  [6, 1, 3, 1, 3, 0, 2], [6, 1, 2, 1, 4, 0, 0], [4, 1, 4, 1, 4, 0, 0], [6, 1, 4, 1, 3, 0, 1], [6, 1, 3, 1, 4, 0, 1], [5, 1, 4, 1, 4, 1, 0],
  [6, 1, 4, 1, 4, 0, 0]].map lkL
set_option maxRecDepth 100000 in
theorem lk_len : lkR.all (fun l => l.1.length == 91) = true := by kernel_rfl
set_option maxRecDepth 100000 in
theorem lk_closed : closed lkCode lkR = true := by kernel_rfl
/-- Whether a thread has the lock alone; whether it reads. -/
def lkAlone (m : Nat → Int) (j : Nat) : Int := if j = 0 then (if m 2 == 5 then 1 else 0) else (if m (1 + j * 6 + 1) == 1 then 1 else 0)
def lkReads (m : Nat → Int) (j : Nat) : Int := if m (1 + j * 6 + 1) == 3 then 1 else 0
def lkAl (m : Nat → Int) : Int := lkAlone m 0 + lkAlone m 1 + lkAlone m 2
def lkRd (m : Nat → Int) : Int := lkReads m 0 + lkReads m 1 + lkReads m 2
set_option maxRecDepth 100000 in
theorem lk_good : lkR.all (fun l => decide (lkAl (ofL l.1) ≤ 1) && (decide (lkAl (ofL l.1) ≤ 0) || decide (lkRd (ofL l.1) ≤ 0)) && (statusM lkCode (ofL l.1) == 0)) = true := by kernel_rfl
set_option maxRecDepth 100000 in
theorem lk_start : Reach lkR (newM []) [] := by
  refine ⟨lkL [0, 0, 0, 0, 0, 0, 0], by unfold lkR; simp, ?_, rfl⟩
  rw [newM_nil]
  funext i
  by_cases hi : i < 91
  · have h : ∀ i, i < 91 → (if i = 1 then (1 : Int) else 0) = ofL (lkL [0, 0, 0, 0, 0, 0, 0]).1 i := by decide
    exact h i hi
  · rw [if_neg (by omega)]
    show 0 = ((lkL [0, 0, 0, 0, 0, 0, 0]).1[i]?).getD 0
    rw [List.getElem?_eq_none (by show 91 ≤ i; omega)]; rfl
end Go.Proofs.Ytjlbbfkllckkgaa
