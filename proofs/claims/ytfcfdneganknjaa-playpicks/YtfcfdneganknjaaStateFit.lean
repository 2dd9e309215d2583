/- What a sound program's instructions are. -/
import Derived.Test.YtfcfdneganknjaaStateNext
namespace Go.Proofs.Ytfcfdneganknjaa
set_option linter.unusedVariables false
set_option linter.unusedSimpArgs false
open Go.ChangeShapes Go.WideShapes Go.ChangeAt Go.RowKit

def Fit (hi : Nat) (a : Int) : Prop := ∃ n : Nat, a = n ∧ n < hi
/-- What is known of an instruction of sound code: nt threads, n instructions. -/
def InsFit (nt n : Nat) (x : InsD) : Prop := match x.op with
  | 0 => True
  | 1 => Fit 4 x.a
  | 2 => Fit 4 x.a ∧ Fit 4 x.b
  | 3 => Fit 4 x.a ∧ Fit 4 x.b ∧ Fit 4 x.c
  | 4 => Fit 4 x.a ∧ Fit 4 x.b ∧ Fit 4 x.c
  | 5 => Fit 4 x.a ∧ Fit 4 x.b ∧ Fit 4 x.c
  | 6 => Fit 4 x.a ∧ Fit 4 x.b ∧ Fit 4 x.c
  | 7 => Fit 4 x.a ∧ Fit 8 x.b
  | 8 => Fit 8 x.a ∧ Fit 4 x.b
  | 9 => Fit 4 x.a
  | 10 => Fit (n + 1) x.a
  | 11 => Fit 4 x.a ∧ Fit (n + 1) x.b
  | 12 => Fit nt x.a
  | 13 => Fit 4 x.a
  | 14 => Fit 4 x.a
  | 15 => Fit 4 x.a
  | 16 => Fit 4 x.a
  | 17 => Fit 4 x.a ∧ Fit 4 x.b
  | 18 => Fit 4 x.a ∧ Fit 4 x.b
  | 19 => Fit 4 x.a ∧ Fit 4 x.b ∧ Fit 4 x.c
  | 20 => Fit 4 x.a ∧ Fit 4 x.b
  | 21 => Fit 4 x.a ∧ Fit 4 x.b
  | 22 => Fit 4 x.a ∧ Fit 4 x.b ∧ Fit 4 x.c
  | 23 => Fit 4 x.a
  | 24 => Fit 4 x.a
  | 25 => Fit 4 x.a
  | 26 => Fit 4 x.a ∧ Fit 4 x.b
  | 27 => Fit 4 x.a
  | _ => False
theorem fit_of {hi : Nat} {a : Int} (h1 : 0 ≤ a) (h2 : a < hi) : Fit hi a := ⟨a.toNat, by omega, by omega⟩

theorem insFit_of {p : ProgD} {n : Nat} {x : InsD} (hs : sizesB p = true) (h : insE p n x = 0) : InsFit p.threads.length n x := by
  have hq := sizes_parts hs
  obtain ⟨op, a, b, c⟩ := x
  have hk : knownB ⟨op, a, b, c⟩ = true := by
    rcases hb : knownB ⟨op, a, b, c⟩ with _ | _
    · simp [insE, hb, firstE, unE] at h
    · rfl
  have hf : fitsB p n ⟨op, a, b, c⟩ = true := by
    rcases hb : fitsB p n ⟨op, a, b, c⟩ with _ | _
    · simp [insE, hk, hb, firstE, unE] at h
    · rfl
  clear h
  have hop : op < 28 := by simp [knownB] at hk; exact hk.2
  clear hk
  have key : ∀ op, op < 28 → fitsB p n ⟨op, a, b, c⟩ = true → InsFit p.threads.length n ⟨op, a, b, c⟩ := by
    intro op hop hf
    simp only [fitsB, fitB] at hf
    match op, hop with
    | 0, _ | 1, _ | 2, _ | 3, _ | 4, _ | 5, _ | 6, _ | 7, _ | 8, _ | 9, _ | 10, _ | 11, _ | 12, _ | 13, _ | 14, _ | 15, _ | 16, _ | 17, _ | 18, _ | 19, _ | 20, _ | 21, _ | 22, _ | 23, _ | 24, _ | 25, _ | 26, _ | 27, _ =>
      simp [rowAt, tab, Row.at, InsD.at, canL, canB, wiB] at hf
      simp only [InsFit]
      all_goals first
        | trivial
        | exact fit_of (by omega) (by omega)
        | exact ⟨fit_of (by omega) (by omega), fit_of (by omega) (by omega)⟩
        | exact ⟨fit_of (by omega) (by omega), fit_of (by omega) (by omega), fit_of (by omega) (by omega)⟩
    | (k + 28), h => omega
  exact key op hop hf
end Go.Proofs.Ytfcfdneganknjaa
