/- The map from things to their rows: what it reads as. -/
import Derived.Test.YtkhhkjinlkpdlaaOrderFind
import Derived.Maps.OwnSet
import Derived.Maps.Views
import Derived.DeepKeys4
namespace Go.Proofs.Ytkhhkjinlkpdlaa
set_option linter.unusedVariables false
set_option linter.unusedSimpArgs false
set_option maxRecDepth 100000
open Go.ChangeShapes Go.WideShapes Go.ChangeAt Go.RowKit Go.Maps

theorem wide_thing : (match Try.prog.underlying 77 with | some (.array _ _) | some (.struct _) => true | _ => false) = true := by rw [Try.underlying77]
theorem row_thing : (77 : TypeId) < Try.prog.types.size := of_decide_eq_true (by kernel_rfl)
theorem keyed_thing : Keyed Try.prog 77 := Keyed.of_law (deep_law_laid law_laidOut (m := 2) (by omega) row_thing (by kernel_rfl) wide_thing)
theorem deep_thing : Try.prog.keyType 77 = true := by kernel_rfl
theorem cells_thing : Try.prog.cellsOf 77 = 2 := by kernel_rfl
theorem cells_int : Try.prog.cellsOf 3 = 1 := by kernel_rfl
theorem snoc_ind {α : Type} {M : List α → Prop} (h0 : M []) (h1 : ∀ l a, M l → M (l ++ [a])) (l : List α) : M l := by
  rw [← List.reverse_reverse l]
  induction l.reverse with
  | nil => exact h0
  | cons a r ih => rw [List.reverse_cons]; exact h1 _ _ ih
def Wf (x : Int) : Prop := (Lit.int .i64 x).wf = true
def kV (n x : Int) : Value := .agg #[.int .i64 n, .int .i64 x]
theorem formed_thing (n x : Int) : (kV n x).formed Try.prog 77 = true := by simp [kV, Value.formed, Try.underlying77, cells_thing]
theorem lits_int (d : Nat) {y : Int} (hy : (Lit.int .i64 y).wf = true) : Try.prog.keyLits (d + 1) 3 [.int .i64 y] = some [.int .i64 y] := by
  simp [Program.keyLits, Try.underlying3, hy]
theorem lits_two (d : Nat) (a b : Value) : Try.prog.keyLits (d + 2) 77 [a, b] = ((Try.prog.keyLits (d + 1) 3 [a]).bind fun x => (Try.prog.keyLits (d + 1) 3 [b]).bind fun y => some [x, y]).map List.flatten := by
  kernel_rfl
theorem lits_thing (d : Nat) {n x : Int} (hn : Wf n) (hx : Wf x) : Try.prog.keyLits (d + 2) 77 (kV n x).cells.toList = some [.int .i64 n, .int .i64 x] := by
  show Try.prog.keyLits (d + 2) 77 [.int .i64 n, .int .i64 x] = _
  rw [lits_two, lits_int d hn, lits_int d hx]
  rfl
def kL (n x : Int) : Lit := .string (keyBytes [.int .i64 n, .int .i64 x])
theorem size_types : Try.prog.types.size + 1 = (Try.prog.types.size - 1) + 2 := by
  have := row_thing
  have : 1 ≤ Try.prog.types.size := Nat.le_trans (by decide) (Nat.succ_le_of_lt this)
  omega
theorem kL_of {n x : Int} (hn : Wf n) (hx : Wf x) : keyOf Try.prog 77 (kV n x) = some (kL n x) := by
  unfold keyOf
  rw [Try.underlying77]
  show (if (Try.prog.keyType 77 && (kV n x).formed Try.prog 77) = true then _ else _) = _
  rw [deep_thing, formed_thing, size_types, lits_thing _ hn hx]
  rfl
theorem kL_inj {n x n' x' : Int} (hn : Wf n) (hx : Wf x) (hn' : Wf n') (hx' : Wf x') (h : kL n x = kL n' x') : n = n' ∧ x = x' := by
  have := (keyed_thing).inj (kL_of hn hx) (by rw [h]; exact kL_of hn' hx')
  simp [kV] at this
  exact this
theorem kL_key (n x : Int) : WideAt.IsKeyLit (kL n x) := trivial
/-- What the map reads as, of the keys in order of their rows. -/
def mapD (ks : List (Int × Int)) : DataW Unit := ks.zipIdx.foldl (fun m p => m.put (kL p.1.1 p.1.2) (.lit (.int .i64 (p.2 : Nat)))) (.map [])
theorem mapD_snoc (ks : List (Int × Int)) (n x : Int) : mapD (ks ++ [(n, x)]) = (mapD ks).put (kL n x) (.lit (.int .i64 ks.length)) := by
  simp [mapD, List.zipIdx_append]
def KsWf (ks : List (Int × Int)) : Prop := ∀ p ∈ ks, Wf p.1 ∧ Wf p.2
theorem mapD_map (ks : List (Int × Int)) : IsMap (mapD ks) := by
  induction ks using snoc_ind with
  | h0 => exact isMap_empty
  | h1 ks p ih => rw [show p = (p.1, p.2) from rfl, mapD_snoc]; exact ih.put _ _
theorem mapD_has {ks : List (Int × Int)} (hk : KsWf ks) {n x : Int} (hn : Wf n) (hx : Wf x) : Maps.has (mapD ks) (kL n x) = ks.contains (n, x) := by
  induction ks using snoc_ind with
  | h0 => rfl
  | h1 ks p ih =>
    obtain ⟨m, y⟩ := p
    have ih := ih fun q hq => hk q (by simp [hq])
    obtain ⟨h1, h2⟩ := hk (m, y) (by simp)
    rw [mapD_snoc]
    by_cases e : kL n x = kL m y
    · obtain ⟨rfl, rfl⟩ := kL_inj hn hx h1 h2 e
      rw [has_put_same (mapD_map ks) (kL_key _ _)]; simp
    · rw [has_put_other e, ih]
      have : ¬ (n, x) = (m, y) := fun q => e (by cases q; rfl)
      rw [Bool.eq_iff_iff]
      simp [this]
theorem mapD_at {ks : List (Int × Int)} (hk : KsWf ks) {k : Nat} {n x : Int} (h : ks[k]? = some (n, x)) (hd : ∀ j, k < j → ks[j]? ≠ some (n, x)) (z : DataW Unit) : (mapD ks).atKey (kL n x) z = .lit (.int .i64 k) := by
  induction ks using snoc_ind with
  | h0 => simp at h
  | h1 ks p ih =>
    obtain ⟨m, y⟩ := p
    obtain ⟨h1, h2⟩ := hk (m, y) (by simp)
    rw [mapD_snoc]
    rcases Nat.lt_or_ge k ks.length with q | q
    · rw [List.getElem?_append_left q] at h
      obtain ⟨g1, g2⟩ := hk (n, x) (by simp [List.mem_of_getElem? h])
      have hne : kL n x ≠ kL m y := fun e => by
        obtain ⟨rfl, rfl⟩ := kL_inj g1 g2 h1 h2 e
        exact hd ks.length q (by simp)
      rw [atKey_put_other hne]
      refine ih (fun p hp => hk p (by simp [hp])) h fun j hj e => hd j hj ?_
      rw [List.getElem?_append_left (List.getElem?_eq_some_iff.1 e).1]; exact e
    · obtain rfl : k = ks.length := by have := (List.getElem?_eq_some_iff.1 h).1; simp at this; omega
      simp at h
      obtain ⟨rfl, rfl⟩ := h
      rw [atKey_put_same (mapD_map ks) (kL_key _ _)]
theorem zero_int (w : World) : (zeroValue 3).run Try.prog w = .ok (.int .i64 0) w := by kernel_rfl
end Go.Proofs.Ytkhhkjinlkpdlaa
