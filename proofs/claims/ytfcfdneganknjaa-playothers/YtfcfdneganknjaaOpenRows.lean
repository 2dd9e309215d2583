/- Rows of bytes that came in, opened. No statement of its own. -/
import Derived.Test.YtfcfdneganknjaaLawKit
import Derived.Test.YtfcfdneganknjaaIrMake
import Derived.Deep.Matrix
namespace Go.Proofs.Ytfcfdneganknjaa
set_option linter.unusedVariables false
set_option linter.unusedSimpArgs false
set_option maxRecDepth 100000
open Go.ChangeShapes Go.WideShapes Go.ChangeAt Go.RowKit

theorem cell_plain {w : World} {a : Addr} {k : Nat} {v : Value} (h : w.cell? (a.add k) = some v) (h0 : ∃ u, w.cell? (a.add 0) = some u) : ∃ b off, a = ⟨b, off, none⟩ ∧ w.cell? ⟨b, off + k, none⟩ = some v := by
  obtain ⟨b, off, spot⟩ := a
  obtain ⟨u, hu⟩ := h0
  have hspot : spot = none := by simpa [Addr.add] using World.cell?_spot hu
  subst hspot
  exact ⟨b, off, rfl, by rw [← Go.WideShapes.add_plain]; exact h⟩

/-- Rows of bytes that came in. -/
theorem open_rows_u8 {H : Type} {enc : TypeId × Value → H} {W : World} {base b0 : Nat} {held : Bool} {v : Value} {d : DataW H} {p : List MemPlace} {r : Reach}
    (hv : Value.okWide Try.prog W r b0 28 v) (h : DataW.Trod enc Try.prog W base (fun _ => true) held 28 v d p) :
    ∃ a cap rows, v = .slice a rows.length cap ∧ rows.length ≤ 9223372036854775807 ∧ BytesIn W W.heap.size a rows := by
  obtain ⟨a, len, cap, rfl⟩ := okWide_slice Try.underlying28 hv
  obtain ⟨fuel, hf⟩ := h
  rcases Go.Deep.open_int_rows Try.underlying28 Try.underlying22 Try.underlying5 (by kernel_rfl) (by kernel_rfl) hf with ⟨hcs, _⟩ | ⟨x, l, c, A, L, C, Z, hcs, _, hl, hm, _, hrow⟩
  · simp [Value.cells] at hcs
    obtain ⟨rfl, rfl, rfl⟩ := hcs
    exact ⟨none, 0, [], rfl, by simp, fun k r hr => by simp at hr⟩
  · simp [Value.cells] at hcs
    obtain ⟨rfl, rfl, rfl⟩ := hcs
    have hmax : maxLen ≤ 9223372036854775807 := by decide
    refine ⟨some x, cap, (List.range len).map fun r => (Z r).take (L r), by simp, by simp; omega, fun k r hr => ?_⟩
    simp only [List.getElem?_map, Option.map_eq_some_iff] at hr
    obtain ⟨k', hk', rfl⟩ := hr
    have hkl : k < len := by have := (List.getElem?_eq_some_iff.1 hk').1; simpa using this
    have e : k' = k := by
      rw [List.getElem?_range hkl] at hk'
      exact (Option.some.inj hk').symm
    subst e
    obtain ⟨hc, h1, h2, h3, h4, h5, h6⟩ := hrow k' (by omega)
    obtain ⟨b, off, rfl, hc'⟩ := cell_plain hc ⟨_, (hrow 0 (by omega)).1⟩
    have hlen : ((Z k').take (L k')).length = L k' := by simp; omega
    refine ⟨b, off, rfl, cell_lt hc', A k', C k', by rw [hlen]; exact hc', fun i y hy => ?_, fun n hn => ?_, by rw [hlen]; omega⟩
    · have hi : i < L k' := by have := (List.getElem?_eq_some_iff.1 hy).1; rw [hlen] at this; exact this
      rw [List.getElem?_take_of_lt hi] at hy
      have hy' : (Z k').getD i 0 = y := by rw [List.getD_eq_getElem?_getD, hy]; rfl
      cases hA : A k' with
      | none => have := h5 hA; omega
      | some a' =>
        obtain ⟨_, h7⟩ := h6 a' hA
        obtain ⟨b', off', rfl, hc2⟩ := cell_plain (h7 i (by omega)) ⟨_, h7 0 (by omega)⟩
        exact ⟨b', off', rfl, cell_lt hc2, by rw [hc2, hy']⟩
    · obtain ⟨q0, q1⟩ := bounds_u8 (h4 n (List.mem_of_mem_take hn))
      omega

end Go.Proofs.Ytfcfdneganknjaa
