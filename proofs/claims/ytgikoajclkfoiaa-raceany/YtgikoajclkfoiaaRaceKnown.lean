/- Race's laws: events in a row of the call's own; the chapter's example. -/
import Derived.Test.YtgikoajclkfoiaaRaceRacy
namespace Go.Proofs.Ytgikoajclkfoiaa
set_option linter.unusedVariables false
set_option linter.unusedSimpArgs false
set_option maxRecDepth 100000
open Go.ChangeShapes Go.WideShapes Go.ChangeAt Go.RowKit Go.Maps

/-- An event's numbers are ints. -/
def EvW (e : EvD) : Prop := Wf e.th ∧ Wf e.obj
theorem own_slice0 {w : World} {base : Nat} {e : TypeId} {z n : Nat} {v : Value} {xs : List Value} (h : w.ownsRow base e z v n xs) : ∃ a cap, v = .slice a n cap := by
  rcases h.2 with ⟨rfl, rfl⟩ | ⟨g, cap, cur, rfl, _⟩
  · exact ⟨none, 0, rfl⟩
  · exact ⟨_, cap, rfl⟩
theorem chIn_nil (w : World) : ChIn w none [] := ⟨RowOf.nil _ _ _ _, by simp, by simp⟩
/-- Events in a row of the call's own. -/
theorem evsIn_own {V : World} {base : Nat} {a : Option Addr} {n c : Nat} {t : List EvD} (h : V.ownsRow base 26 6 (.slice a n c) n (evsCells t)) : EvsIn V V.heap.size a t := by
  have hl := h.1
  rw [evsCells_len] at hl
  intro k e hk
  have hkl := (List.getElem?_eq_some_iff.1 hk).1
  rcases h.2 with ⟨_, h0⟩ | ⟨g, cap, cur, e', hb, hh, hle, hcap, hsz, ht⟩
  · omega
  · injection e' with e1 e2 e3
    subst e1
    refine ⟨g, 0, rfl, (Array.getElem?_eq_some_iff.1 hh).1, ?_⟩
    rw [Nat.zero_add]
    refine evAt_of fun j hj => ?_
    rw [cell_of_row _ _ _ _ _ _ hh, ← evsCells_at t k e hk j hj, ← ht, List.getElem?_take_of_lt (by omega)]
    simp
theorem evsIn_lit {V : World} {g : Nat} {t : List EvD} {ty : TypeId} {fr : Nat × Nat} (h : V.heap[g]? = some (.cells (evsCells t).toArray ty fr)) : EvsIn V V.heap.size (some ⟨g, 0, none⟩) t := by
  intro k e hk
  refine ⟨g, 0, rfl, (Array.getElem?_eq_some_iff.1 h).1, ?_⟩
  rw [Nat.zero_add]
  refine evAt_of fun j hj => ?_
  rw [cell_of_row _ _ _ _ _ _ h, ← evsCells_at t k e hk j hj]
  simp
theorem prog0_one : (#[.int .i64 0, .int .i64 0, .int .i64 0, .slice none ([] : List Int).length 0, .int .i64 0, .int .i64 0, .slice none 0 0] : Array Value).all (·.oneCell') = true := by kernel_rfl
abbrev prog0 : Value := .agg #[.int .i64 0, .int .i64 0, .int .i64 0, .slice none 0 0, .int .i64 0, .int .i64 0, .slice none 0 0]
theorem find0 (a : Option Addr) (cap : Nat) (t : List EvD) (w : World) (he : EvsIn w w.heap.size a t) (hW : ∀ e ∈ t, EvW e) (hl : t.length ≤ 1000000) :
    Calls Try.prog 13 #[prog0, .slice a t.length cap] w (FindE [] t w) :=
  find_any _ _ _ none 0 [] _ _ _ a cap t w he hW (chIn_nil w) hl prog0_one
theorem racy0 (a : Option Addr) (cap : Nat) (t : List EvD) (w : World) (he : EvsIn w w.heap.size a t) (hW : ∀ e ∈ t, EvW e) (hl : t.length ≤ 1000000) :
    Calls Try.prog 10 #[prog0, .slice a t.length cap] w fun e w' => e = .returned (.bool (decide (racesL [] t ≠ []))) ∧ Below w.heap.size w w' :=
  racy_any _ _ _ none 0 [] _ _ _ a cap t w he hW (chIn_nil w) hl prog0_one
def t2 : List EvD := [⟨0, 0, 8, 0, 0, 0⟩, ⟨1, 0, 7, 0, 0, 0⟩]
def u4 : List EvD := [⟨0, 0, 8, 0, 0, 0⟩, ⟨0, 0, 14, 0, 0, 0⟩, ⟨1, 0, 13, 0, 0, 0⟩, ⟨1, 0, 7, 0, 0, 0⟩]
theorem t2_races : racesL [] t2 = [(0, 1)] := by kernel_rfl
theorem u4_races : racesL [] u4 = [] := by kernel_rfl
theorem t2_racy : decide (racesL [] t2 ≠ []) = true := by rw [t2_races]; rfl
theorem u4_racy : decide (racesL [] u4 ≠ []) = false := by rw [u4_races]; rfl
theorem t2_wf : ∀ e ∈ t2, EvW e := by
  intro e he
  simp only [t2, List.mem_cons, List.not_mem_nil, or_false] at he
  rcases he with rfl | rfl <;> exact ⟨by unfold Wf; kernel_rfl, by unfold Wf; kernel_rfl⟩
theorem u4_wf : ∀ e ∈ u4, EvW e := by
  intro e he
  simp only [u4, List.mem_cons, List.not_mem_nil, or_false] at he
  rcases he with rfl | rfl | rfl | rfl <;> exact ⟨by unfold Wf; kernel_rfl, by unfold Wf; kernel_rfl⟩
end Go.Proofs.Ytgikoajclkfoiaa
