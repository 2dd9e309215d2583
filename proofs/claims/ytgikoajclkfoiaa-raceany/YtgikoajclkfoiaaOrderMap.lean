/- The map from things to their rows: what it reads as. -/
import Derived.Test.YtgikoajclkfoiaaOrderFind
import Derived.Maps.OwnSet
import Derived.Maps.Views
import Derived.DeepKeys4
namespace Go.Proofs.Ytgikoajclkfoiaa
set_option linter.unusedVariables false
set_option linter.unusedSimpArgs false
set_option maxRecDepth 100000
open Go.ChangeShapes Go.WideShapes Go.ChangeAt Go.RowKit Go.Maps

theorem cells_int : Try.prog.cellsOf 3 = 1 := by kernel_rfl
theorem snoc_ind {α : Type} {M : List α → Prop} (h0 : M []) (h1 : ∀ l a, M l → M (l ++ [a])) (l : List α) : M l := by
  rw [← List.reverse_reverse l]
  induction l.reverse with
  | nil => exact h0
  | cons a r ih => rw [List.reverse_cons]; exact h1 _ _ ih
def Wf (x : Int) : Prop := (Lit.int .i64 x).wf = true
def kV (n x : Int) : Value := .agg #[.int .i64 n, .int .i64 x]
theorem lits_int (d : Nat) {y : Int} (hy : (Lit.int .i64 y).wf = true) : Try.prog.keyLits (d + 1) 3 [.int .i64 y] = some [.int .i64 y] := by
  simp [Program.keyLits, Try.underlying3, hy]
def kL (n x : Int) : Lit := .string (keyBytes [.int .i64 n, .int .i64 x])
theorem kL_key (n x : Int) : WideAt.IsKeyLit (kL n x) := trivial
/-- What the map reads as, of the keys in order of their rows. -/
def mapD (ks : List (Int × Int)) : DataW Unit := ks.zipIdx.foldl (fun m p => m.put (kL p.1.1 p.1.2) (.lit (.int .i64 (p.2 : Nat)))) (.map [])
theorem mapD_snoc (ks : List (Int × Int)) (n x : Int) : mapD (ks ++ [(n, x)]) = (mapD ks).put (kL n x) (.lit (.int .i64 ks.length)) := by
  simp [mapD, List.zipIdx_append]
def KsWf (ks : List (Int × Int)) : Prop := ∀ p ∈ ks, Wf p.1 ∧ Wf p.2
theorem mapD_map (ks : List (Int × Int)) : IsMap (mapD ks) := by
  induction ks using snoc_ind with
  | h0 => exact isMap_empty
  | h1 ks p ih => rw [show p = (p.1, p.2) from rfl, mapD_snoc]; exact ih.put _ _
theorem zero_int (w : World) : (zeroValue 3).run Try.prog w = .ok (.int .i64 0) w := by kernel_rfl
end Go.Proofs.Ytgikoajclkfoiaa
