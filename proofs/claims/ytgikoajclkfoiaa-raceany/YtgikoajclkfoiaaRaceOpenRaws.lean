/- Rows of two bytes that came in, opened. No statement of its own. -/
import Derived.Test.YtgikoajclkfoiaaRaceTrace
import Derived.Deep.SlicePairs
namespace Go.Proofs.Ytgikoajclkfoiaa
set_option linter.unusedVariables false
set_option linter.unusedSimpArgs false
set_option maxRecDepth 100000
open Go.ChangeShapes Go.WideShapes Go.ChangeAt Go.RowKit

theorem cell_plain {w : World} {a : Addr} {k : Nat} {v : Value} (h : w.cell? (a.add k) = some v) (h0 : ∃ u, w.cell? (a.add 0) = some u) : ∃ b off, a = ⟨b, off, none⟩ ∧ w.cell? ⟨b, off + k, none⟩ = some v := by
  obtain ⟨b, off, spot⟩ := a
  obtain ⟨u, hu⟩ := h0
  have hspot : spot = none := by simpa [Addr.add] using World.cell?_spot hu
  subst hspot
  exact ⟨b, off, rfl, by rw [← Go.WideShapes.add_plain]; exact h⟩
theorem u8_nat {a : Int} (h : (Lit.int .u8 a).wf = true) : ∃ s : Nat, a = (s : Int) ∧ s ≤ 255 := by
  obtain ⟨h0, h1⟩ := bounds_u8 h
  exact ⟨a.toNat, by omega, by omega⟩
/-- Choices that came in. -/
theorem open_raws {H : Type} {enc : TypeId × Value → H} {W : World} {base b0 : Nat} {held : Bool} {v : Value} {d : DataW H} {p : List MemPlace} {r : Reach}
    (hv : Value.okWide Try.prog W r b0 34 v) (h : DataW.Trod enc Try.prog W base (fun _ => true) held 34 v d p) :
    ∃ a cap l, v = .slice a (List.length l) cap ∧ List.length l ≤ 9223372036854775807 ∧ RawIn W a l := by
  obtain ⟨a, len, cap, rfl⟩ := okWide_slice Try.underlying34 hv
  obtain ⟨fuel, hf⟩ := h
  have hmax : maxLen ≤ 9223372036854775807 := by decide
  rcases Go.Deep.open_slice_pairs Try.underlying34 Try.underlying49 (by kernel_rfl) rfl rfl (by kernel_rfl) (by kernel_rfl) hf with ⟨hcs, _⟩ | ⟨x, len', cap', m, n, V0, V1, D0, D1, P0, P1, hcs, _, hl, hm, hmm, _, hx⟩
  · simp [Value.cells] at hcs
    obtain ⟨rfl, rfl, rfl⟩ := hcs
    exact ⟨none, 0, [], rfl, by simp, ⟨fun k r hr => by simp at hr, fun p hp => by simp at hp⟩⟩
  · simp [Value.cells] at hcs
    obtain ⟨rfl, rfl, rfl⟩ := hcs
    simp only [if_true] at hmm
    subst hmm
    obtain ⟨X, hX⟩ := Go.Deep.choose_lt (α := Nat × Nat) (p := fun i z => W.cell? (x.add (i * 2)) = some (.int .u8 z.1) ∧ W.cell? (x.add (i * 2 + 1)) = some (.int .u8 z.2) ∧ z.1 ≤ 255 ∧ z.2 ≤ 255) (n := m) (fun i hi => by
      obtain ⟨h0, h1, g0, g1⟩ := hx i hi
      obtain ⟨a0, e0, _, w0⟩ := DataW.trod_int Try.underlying5 g0
      obtain ⟨a1, e1, _, w1⟩ := DataW.trod_int Try.underlying5 g1
      simp at e0 e1
      obtain ⟨s0, rfl, l0⟩ := u8_nat w0
      obtain ⟨s1, rfl, l1⟩ := u8_nat w1
      exact ⟨(s0, s1), by rw [h0, e0], by rw [h1, e1], l0, l1⟩)
    refine ⟨some x, m, (List.range len).map X, by simp, by simp; omega, ⟨fun k z hz => ?_, fun z hz => ?_⟩⟩
    · simp only [List.getElem?_map, Option.map_eq_some_iff] at hz
      obtain ⟨k', hk', rfl⟩ := hz
      have hkl : k < len := by have := (List.getElem?_eq_some_iff.1 hk').1; simpa using this
      have e : k' = k := by
        rw [List.getElem?_range hkl] at hk'
        exact (Option.some.inj hk').symm
      subst e
      obtain ⟨h0, h1, l0, l1⟩ := hX k' (by omega)
      obtain ⟨b, off, rfl, hc0⟩ := cell_plain h0 ⟨_, by have := (hX 0 (by omega)).1; simpa using this⟩
      rw [Go.WideShapes.add_plain] at h1
      exact ⟨b, off, rfl, cell_lt hc0, hc0, by rw [Nat.add_assoc]; exact h1⟩
    · obtain ⟨k, hk, rfl⟩ := List.mem_map.1 hz
      obtain ⟨_, _, l0, l1⟩ := hX k (by have := List.mem_range.1 hk; omega)
      exact ⟨l0, l1⟩

end Go.Proofs.Ytgikoajclkfoiaa
