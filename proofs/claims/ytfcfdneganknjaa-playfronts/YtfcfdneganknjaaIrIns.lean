/- What the laws' own choice of an instruction ('Ins') returns: one that may be in a program of the laws' making. -/
import Derived.Test.YtfcfdneganknjaaIrKnown
namespace Go.Proofs.Ytfcfdneganknjaa
set_option linter.unusedVariables false
set_option linter.unusedSimpArgs false
open Go.RowKit

/-- A program of the laws' making has so many things. -/
structure MadeP (p : ProgD) : Prop where
  vars : p.vars = 2
  atoms : p.atoms = 1
  locks : p.locks = 1
  chans : p.chans.length = 1
  groups : p.groups = 1
  onces : p.onces = 1
/-- An instruction may be in such a program, in a thread of n instructions or more. -/
def InsOK (n : Int) (x : InsD) : Prop := knownB x = true ∧ ∀ (p : ProgD) (m : Nat), MadeP p → n ≤ m → fitsB p m x = true
theorem insOK_of {n : Int} {x : InsD} (h : knownB x = true) (h2 : ∀ (p : ProgD) (m : Nat), p.vars = 2 → p.atoms = 1 → p.locks = 1 → (p.chans.length : Int) = 1 → p.groups = 1 → p.onces = 1 → n ≤ m → fitsB p m x = true) : InsOK n x :=
  ⟨h, fun p m k hn => h2 p m k.vars k.atoms k.locks (by have := k.chans; omega) k.groups k.onces hn⟩

theorem ins_ok_0 (n A B C : Int) (h : A = 0 ∧ A = 0 ∧ B = 0 ∧ C = 0) : InsOK n ⟨0, A, B, C⟩ := by
  refine insOK_of ?_ ?_
  · simp [knownB, wordsB, Row.at, rowAt, tab, InsD.at]; try omega
  · intro p m h1 h2 h3 h4 h5 h6 hn
    simp [fitsB, fitB, Row.at, rowAt, tab, InsD.at, canB, canL, h1, h2, h3, h4, h5, h6, wiB]; try omega
theorem ins_ok_1 (n A B C : Int) (h : 0 ≤ A ∧ A < 4 ∧ C = 0) : InsOK n ⟨1, A, B, C⟩ := by
  refine insOK_of ?_ ?_
  · simp [knownB, wordsB, Row.at, rowAt, tab, InsD.at]; try omega
  · intro p m h1 h2 h3 h4 h5 h6 hn
    simp [fitsB, fitB, Row.at, rowAt, tab, InsD.at, canB, canL, h1, h2, h3, h4, h5, h6, wiB]; try omega
theorem ins_ok_2 (n A B C : Int) (h : 0 ≤ A ∧ A < 4 ∧ 0 ≤ B ∧ B < 4 ∧ C = 0) : InsOK n ⟨2, A, B, C⟩ := by
  refine insOK_of ?_ ?_
  · simp [knownB, wordsB, Row.at, rowAt, tab, InsD.at]; try omega
  · intro p m h1 h2 h3 h4 h5 h6 hn
    simp [fitsB, fitB, Row.at, rowAt, tab, InsD.at, canB, canL, h1, h2, h3, h4, h5, h6, wiB]; try omega
theorem ins_ok_3 (n A B C : Int) (h : 0 ≤ A ∧ A < 4 ∧ 0 ≤ B ∧ B < 4 ∧ 0 ≤ C ∧ C < 4) : InsOK n ⟨3, A, B, C⟩ := by
  refine insOK_of ?_ ?_
  · simp [knownB, wordsB, Row.at, rowAt, tab, InsD.at]; try omega
  · intro p m h1 h2 h3 h4 h5 h6 hn
    simp [fitsB, fitB, Row.at, rowAt, tab, InsD.at, canB, canL, h1, h2, h3, h4, h5, h6, wiB]; try omega
theorem ins_ok_4 (n A B C : Int) (h : 0 ≤ A ∧ A < 4 ∧ 0 ≤ B ∧ B < 4 ∧ 0 ≤ C ∧ C < 4) : InsOK n ⟨4, A, B, C⟩ := by
  refine insOK_of ?_ ?_
  · simp [knownB, wordsB, Row.at, rowAt, tab, InsD.at]; try omega
  · intro p m h1 h2 h3 h4 h5 h6 hn
    simp [fitsB, fitB, Row.at, rowAt, tab, InsD.at, canB, canL, h1, h2, h3, h4, h5, h6, wiB]; try omega
theorem ins_ok_5 (n A B C : Int) (h : 0 ≤ A ∧ A < 4 ∧ 0 ≤ B ∧ B < 4 ∧ 0 ≤ C ∧ C < 4) : InsOK n ⟨5, A, B, C⟩ := by
  refine insOK_of ?_ ?_
  · simp [knownB, wordsB, Row.at, rowAt, tab, InsD.at]; try omega
  · intro p m h1 h2 h3 h4 h5 h6 hn
    simp [fitsB, fitB, Row.at, rowAt, tab, InsD.at, canB, canL, h1, h2, h3, h4, h5, h6, wiB]; try omega
theorem ins_ok_6 (n A B C : Int) (h : 0 ≤ A ∧ A < 4 ∧ 0 ≤ B ∧ B < 4 ∧ 0 ≤ C ∧ C < 4) : InsOK n ⟨6, A, B, C⟩ := by
  refine insOK_of ?_ ?_
  · simp [knownB, wordsB, Row.at, rowAt, tab, InsD.at]; try omega
  · intro p m h1 h2 h3 h4 h5 h6 hn
    simp [fitsB, fitB, Row.at, rowAt, tab, InsD.at, canB, canL, h1, h2, h3, h4, h5, h6, wiB]; try omega
theorem ins_ok_7 (n A B C : Int) (h : 0 ≤ A ∧ A < 4 ∧ 0 ≤ B ∧ B < 2 ∧ C = 0) : InsOK n ⟨7, A, B, C⟩ := by
  refine insOK_of ?_ ?_
  · simp [knownB, wordsB, Row.at, rowAt, tab, InsD.at]; try omega
  · intro p m h1 h2 h3 h4 h5 h6 hn
    simp [fitsB, fitB, Row.at, rowAt, tab, InsD.at, canB, canL, h1, h2, h3, h4, h5, h6, wiB]; try omega
theorem ins_ok_8 (n A B C : Int) (h : 0 ≤ A ∧ A < 2 ∧ 0 ≤ B ∧ B < 4 ∧ C = 0) : InsOK n ⟨8, A, B, C⟩ := by
  refine insOK_of ?_ ?_
  · simp [knownB, wordsB, Row.at, rowAt, tab, InsD.at]; try omega
  · intro p m h1 h2 h3 h4 h5 h6 hn
    simp [fitsB, fitB, Row.at, rowAt, tab, InsD.at, canB, canL, h1, h2, h3, h4, h5, h6, wiB]; try omega
theorem ins_ok_9 (n A B C : Int) (h : 0 ≤ A ∧ A < 4 ∧ B = 0 ∧ C = 0) : InsOK n ⟨9, A, B, C⟩ := by
  refine insOK_of ?_ ?_
  · simp [knownB, wordsB, Row.at, rowAt, tab, InsD.at]; try omega
  · intro p m h1 h2 h3 h4 h5 h6 hn
    simp [fitsB, fitB, Row.at, rowAt, tab, InsD.at, canB, canL, h1, h2, h3, h4, h5, h6, wiB]; try omega
theorem ins_ok_10 (n A B C : Int) (h : 0 ≤ A ∧ A ≤ n ∧ B = 0 ∧ C = 0) : InsOK n ⟨10, A, B, C⟩ := by
  refine insOK_of ?_ ?_
  · simp [knownB, wordsB, Row.at, rowAt, tab, InsD.at]; try omega
  · intro p m h1 h2 h3 h4 h5 h6 hn
    simp [fitsB, fitB, Row.at, rowAt, tab, InsD.at, canB, canL, h1, h2, h3, h4, h5, h6, wiB]; try omega
theorem ins_ok_11 (n A B C : Int) (h : 0 ≤ A ∧ A < 4 ∧ 0 ≤ B ∧ B ≤ n ∧ C = 0) : InsOK n ⟨11, A, B, C⟩ := by
  refine insOK_of ?_ ?_
  · simp [knownB, wordsB, Row.at, rowAt, tab, InsD.at]; try omega
  · intro p m h1 h2 h3 h4 h5 h6 hn
    simp [fitsB, fitB, Row.at, rowAt, tab, InsD.at, canB, canL, h1, h2, h3, h4, h5, h6, wiB]; try omega
theorem ins_ok_13 (n A B C : Int) (h : A = 0 ∧ B = 0 ∧ C = 0) : InsOK n ⟨13, A, B, C⟩ := by
  refine insOK_of ?_ ?_
  · simp [knownB, wordsB, Row.at, rowAt, tab, InsD.at]; try omega
  · intro p m h1 h2 h3 h4 h5 h6 hn
    simp [fitsB, fitB, Row.at, rowAt, tab, InsD.at, canB, canL, h1, h2, h3, h4, h5, h6, wiB]; try omega
theorem ins_ok_14 (n A B C : Int) (h : A = 0 ∧ B = 0 ∧ C = 0) : InsOK n ⟨14, A, B, C⟩ := by
  refine insOK_of ?_ ?_
  · simp [knownB, wordsB, Row.at, rowAt, tab, InsD.at]; try omega
  · intro p m h1 h2 h3 h4 h5 h6 hn
    simp [fitsB, fitB, Row.at, rowAt, tab, InsD.at, canB, canL, h1, h2, h3, h4, h5, h6, wiB]; try omega
theorem ins_ok_15 (n A B C : Int) (h : A = 0 ∧ B = 0 ∧ C = 0) : InsOK n ⟨15, A, B, C⟩ := by
  refine insOK_of ?_ ?_
  · simp [knownB, wordsB, Row.at, rowAt, tab, InsD.at]; try omega
  · intro p m h1 h2 h3 h4 h5 h6 hn
    simp [fitsB, fitB, Row.at, rowAt, tab, InsD.at, canB, canL, h1, h2, h3, h4, h5, h6, wiB]; try omega
theorem ins_ok_16 (n A B C : Int) (h : A = 0 ∧ B = 0 ∧ C = 0) : InsOK n ⟨16, A, B, C⟩ := by
  refine insOK_of ?_ ?_
  · simp [knownB, wordsB, Row.at, rowAt, tab, InsD.at]; try omega
  · intro p m h1 h2 h3 h4 h5 h6 hn
    simp [fitsB, fitB, Row.at, rowAt, tab, InsD.at, canB, canL, h1, h2, h3, h4, h5, h6, wiB]; try omega
theorem ins_ok_17 (n A B C : Int) (h : 0 ≤ A ∧ A < 4 ∧ B = 0 ∧ C = 0) : InsOK n ⟨17, A, B, C⟩ := by
  refine insOK_of ?_ ?_
  · simp [knownB, wordsB, Row.at, rowAt, tab, InsD.at]; try omega
  · intro p m h1 h2 h3 h4 h5 h6 hn
    simp [fitsB, fitB, Row.at, rowAt, tab, InsD.at, canB, canL, h1, h2, h3, h4, h5, h6, wiB]; try omega
theorem ins_ok_18 (n A B C : Int) (h : A = 0 ∧ 0 ≤ B ∧ B < 4 ∧ C = 0) : InsOK n ⟨18, A, B, C⟩ := by
  refine insOK_of ?_ ?_
  · simp [knownB, wordsB, Row.at, rowAt, tab, InsD.at]; try omega
  · intro p m h1 h2 h3 h4 h5 h6 hn
    simp [fitsB, fitB, Row.at, rowAt, tab, InsD.at, canB, canL, h1, h2, h3, h4, h5, h6, wiB]; try omega
theorem ins_ok_19 (n A B C : Int) (h : 0 ≤ A ∧ A < 4 ∧ B = 0 ∧ 0 ≤ C ∧ C < 4) : InsOK n ⟨19, A, B, C⟩ := by
  refine insOK_of ?_ ?_
  · simp [knownB, wordsB, Row.at, rowAt, tab, InsD.at]; try omega
  · intro p m h1 h2 h3 h4 h5 h6 hn
    simp [fitsB, fitB, Row.at, rowAt, tab, InsD.at, canB, canL, h1, h2, h3, h4, h5, h6, wiB]; try omega
theorem ins_ok_20 (n A B C : Int) (h : A = 0 ∧ 0 ≤ B ∧ B < 4 ∧ C = 0) : InsOK n ⟨20, A, B, C⟩ := by
  refine insOK_of ?_ ?_
  · simp [knownB, wordsB, Row.at, rowAt, tab, InsD.at]; try omega
  · intro p m h1 h2 h3 h4 h5 h6 hn
    simp [fitsB, fitB, Row.at, rowAt, tab, InsD.at, canB, canL, h1, h2, h3, h4, h5, h6, wiB]; try omega
theorem ins_ok_21 (n A B C : Int) (h : 0 ≤ A ∧ A < 4 ∧ B = 0 ∧ C = 0) : InsOK n ⟨21, A, B, C⟩ := by
  refine insOK_of ?_ ?_
  · simp [knownB, wordsB, Row.at, rowAt, tab, InsD.at]; try omega
  · intro p m h1 h2 h3 h4 h5 h6 hn
    simp [fitsB, fitB, Row.at, rowAt, tab, InsD.at, canB, canL, h1, h2, h3, h4, h5, h6, wiB]; try omega
theorem ins_ok_22 (n A B C : Int) (h : 0 ≤ A ∧ A < 4 ∧ B = 0 ∧ 0 ≤ C ∧ C < 4) : InsOK n ⟨22, A, B, C⟩ := by
  refine insOK_of ?_ ?_
  · simp [knownB, wordsB, Row.at, rowAt, tab, InsD.at]; try omega
  · intro p m h1 h2 h3 h4 h5 h6 hn
    simp [fitsB, fitB, Row.at, rowAt, tab, InsD.at, canB, canL, h1, h2, h3, h4, h5, h6, wiB]; try omega
theorem ins_ok_23 (n A B C : Int) (h : A = 0 ∧ B = 0 ∧ C = 0) : InsOK n ⟨23, A, B, C⟩ := by
  refine insOK_of ?_ ?_
  · simp [knownB, wordsB, Row.at, rowAt, tab, InsD.at]; try omega
  · intro p m h1 h2 h3 h4 h5 h6 hn
    simp [fitsB, fitB, Row.at, rowAt, tab, InsD.at, canB, canL, h1, h2, h3, h4, h5, h6, wiB]; try omega
theorem ins_ok_24 (n A B C : Int) (h : A = 0 ∧ C = 0) : InsOK n ⟨24, A, B, C⟩ := by
  refine insOK_of ?_ ?_
  · simp [knownB, wordsB, Row.at, rowAt, tab, InsD.at]; try omega
  · intro p m h1 h2 h3 h4 h5 h6 hn
    simp [fitsB, fitB, Row.at, rowAt, tab, InsD.at, canB, canL, h1, h2, h3, h4, h5, h6, wiB]; try omega
theorem ins_ok_25 (n A B C : Int) (h : A = 0 ∧ B = 0 ∧ C = 0) : InsOK n ⟨25, A, B, C⟩ := by
  refine insOK_of ?_ ?_
  · simp [knownB, wordsB, Row.at, rowAt, tab, InsD.at]; try omega
  · intro p m h1 h2 h3 h4 h5 h6 hn
    simp [fitsB, fitB, Row.at, rowAt, tab, InsD.at, canB, canL, h1, h2, h3, h4, h5, h6, wiB]; try omega
theorem ins_ok_26 (n A B C : Int) (h : 0 ≤ A ∧ A < 4 ∧ B = 0 ∧ C = 0) : InsOK n ⟨26, A, B, C⟩ := by
  refine insOK_of ?_ ?_
  · simp [knownB, wordsB, Row.at, rowAt, tab, InsD.at]; try omega
  · intro p m h1 h2 h3 h4 h5 h6 hn
    simp [fitsB, fitB, Row.at, rowAt, tab, InsD.at, canB, canL, h1, h2, h3, h4, h5, h6, wiB]; try omega
theorem ins_ok_27 (n A B C : Int) (h : A = 0 ∧ B = 0 ∧ C = 0) : InsOK n ⟨27, A, B, C⟩ := by
  refine insOK_of ?_ ?_
  · simp [knownB, wordsB, Row.at, rowAt, tab, InsD.at]; try omega
  · intro p m h1 h2 h3 h4 h5 h6 hn
    simp [fitsB, fitB, Row.at, rowAt, tab, InsD.at, canB, canL, h1, h2, h3, h4, h5, h6, wiB]; try omega

theorem ins_below (w : World) (x y : Obj) : Below w.heap.size w ((w.alloc x).alloc y) := ((Below.refl _ _).alloc (Nat.le_refl _) _).alloc (by simp) _

end Go.Proofs.Ytfcfdneganknjaa
