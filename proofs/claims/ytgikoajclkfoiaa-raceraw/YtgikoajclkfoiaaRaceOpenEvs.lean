/- Events that came in, opened. No statement of its own. -/
import Derived.Test.YtgikoajclkfoiaaRaceOpenRaws
import Derived.Lib.SmallJoins
namespace Go.Proofs.Ytgikoajclkfoiaa
set_option linter.unusedVariables false
set_option linter.unusedSimpArgs false
set_option maxRecDepth 100000
open Go.ChangeShapes Go.WideShapes Go.ChangeAt Go.RowKit

theorem cells_evO : Try.prog.cellsOf 26 = 6 := by kernel_rfl
instance : Inhabited EvD := ⟨⟨0, 0, 0, 0, 0, 0⟩⟩
theorem open_ev_cells {H : Type} {enc : TypeId × Value → H} {W : World} {base : Nat} {sp : Nat → Bool} {held : Bool} {n : Nat} {cs : List Value} {y : DataW H × List MemPlace}
    (h : DataW.trod enc Try.prog W base sp held n 26 cs = some y) : ∃ x : EvD, cs = evCells x ∧ EvW x := by
  obtain ⟨xs, m, _, rfl, hl, hlen, hf⟩ := DataW.trod_struct Try.underlying26 h
  rw [cells_evO] at hl
  have hxs : xs.length = 6 := by rw [hlen]; rfl
  have k5 : Try.prog.cellsOf 5 = 1 := by kernel_rfl
  have k3 : Try.prog.cellsOf 3 = 1 := by kernel_rfl
  match cs, hl, xs, hxs with
  | [c0, c1, c2, c3, c4, c5], _, [y0, y1, y2, y3, y4, y5], _ =>
    have h0 := hf 0 _ rfl
    have h1 := hf 1 _ rfl
    have h2 := hf 2 _ rfl
    have h3 := hf 3 _ rfl
    have h4 := hf 4 _ rfl
    have h5 := hf 5 _ rfl
    obtain ⟨a, e0, _, w0⟩ := DataW.trod_int Try.underlying3 h0
    obtain ⟨b, e1, _, _⟩ := DataW.trod_int Try.underlying3 h1
    obtain ⟨c, e2, _, _⟩ := DataW.trod_int Try.underlying5 h2
    obtain ⟨d, e3, _, w3⟩ := DataW.trod_int Try.underlying3 h3
    obtain ⟨e, e4, _, _⟩ := DataW.trod_int Try.underlying3 h4
    obtain ⟨f, e5, _, _⟩ := DataW.trod_int Try.underlying3 h5
    simp [k5] at e2
    simp [k3] at e0 e1 e3 e4 e5
    subst e0 e1 e2 e3 e4 e5
    exact ⟨⟨a, b, c, d, e, f⟩, rfl, w0, w3⟩
/-- Events that came in. -/
theorem open_evs {H : Type} {enc : TypeId × Value → H} {W : World} {base b0 : Nat} {held : Bool} {v : Value} {d : DataW H} {p : List MemPlace} {r : Reach}
    (hv : Value.okWide Try.prog W r b0 24 v) (h : DataW.Trod enc Try.prog W base (fun _ => true) held 24 v d p) :
    ∃ a cap t, v = .slice a (List.length t) cap ∧ (List.length t ≤ cap ∧ List.length t ≤ 9223372036854775807) ∧ (EvsIn W W.heap.size a t ∧ ∀ e ∈ t, EvW e) := by
  have hmax : maxLen ≤ 9223372036854775807 := by decide
  obtain ⟨a, len, cap, rfl⟩ := okWide_slice Try.underlying24 hv
  obtain ⟨fuel, hf⟩ := h
  rcases Go.Deep.open_slice Try.underlying24 hf with ⟨hcs, _⟩ | ⟨x, len', cap', m, n, D, Pl, hcs, _, hl, hm, hmm, _, hx⟩
  · simp [Value.cells] at hcs
    obtain ⟨rfl, rfl, rfl⟩ := hcs
    exact ⟨none, 0, [], rfl, ⟨Nat.le_refl _, by simp⟩, fun k r hr => by simp at hr, fun e he => by simp at he⟩
  · simp [Value.cells] at hcs
    obtain ⟨rfl, rfl, rfl⟩ := hcs
    simp only [if_true] at hmm
    subst hmm
    rw [cells_evO] at hx
    obtain ⟨X, hX⟩ := Go.Deep.choose_lt (α := EvD) (p := fun i z => EvW z ∧ ∃ cs', W.cells? base (x.add (i * 6)) 6 = some cs' ∧ cs' = evCells z) (n := m) (fun i hi => by
      obtain ⟨cs', h1, h2⟩ := hx i hi
      obtain ⟨z, hz, hw⟩ := open_ev_cells h2
      exact ⟨z, hw, cs', h1, hz⟩)
    refine ⟨some x, m, (List.range len).map X, by simp, ⟨by simp; omega, by simp; omega⟩, fun k z hz => ?_, fun z hz => ?_⟩
    · simp only [List.getElem?_map, Option.map_eq_some_iff] at hz
      obtain ⟨k', hk', rfl⟩ := hz
      have hkl : k < len := by have := (List.getElem?_eq_some_iff.1 hk').1; simpa using this
      have e : k' = k := by
        rw [List.getElem?_range hkl] at hk'
        exact (Option.some.inj hk').symm
      subst e
      have cell : ∀ i, i < m → ∀ j, j < 6 → W.cell? (x.add (i * 6 + j)) = (evCells (X i))[j]? := fun i hi j hj => by
        obtain ⟨_, cs', h1, rfl⟩ := hX i hi
        have := (World.cells?_some h1).2.2 j hj
        rw [show (x.add (i * 6)).add j = x.add (i * 6 + j) from by
          by_cases hj0 : j = 0
          · subst hj0; simp [Addr.add]
          · by_cases hi0 : i * 6 = 0
            · simp [Addr.add, hi0]
            · simp [Addr.add, hj0, hi0, Nat.add_assoc]] at this
        exact this
      obtain ⟨b, off, rfl, hc0⟩ := cell_plain (k := k' * 6) (v := .int .i64 (X k').th) (by have := cell k' (by omega) 0 (by omega); simpa [evCells] using this) ⟨_, by have := cell 0 (by omega) 0 (by omega); simpa [evCells] using this⟩
      have cell2 : ∀ j, j < 6 → W.cell? ⟨b, off + k' * 6 + j, none⟩ = (evCells (X k'))[j]? := fun j hj => by
        have := cell k' (by omega) j hj
        rw [Go.WideShapes.add_plain] at this
        rw [Nat.add_assoc]; exact this
      refine ⟨b, off, rfl, cell_lt hc0, hc0, ?_, ?_, ?_, ?_, ?_⟩
      · have := cell2 1 (by omega); simpa [evCells] using this
      · have := cell2 2 (by omega); simpa [evCells] using this
      · have := cell2 3 (by omega); simpa [evCells] using this
      · have := cell2 4 (by omega); simpa [evCells] using this
      · have := cell2 5 (by omega); simpa [evCells] using this
    · obtain ⟨k, hk, rfl⟩ := List.mem_map.1 hz
      exact (hX k (by have := List.mem_range.1 hk; omega)).1
end Go.Proofs.Ytgikoajclkfoiaa
