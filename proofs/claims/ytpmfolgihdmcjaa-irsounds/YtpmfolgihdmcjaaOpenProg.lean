/- A program, and an instruction, that came in, opened. No statement of its own. -/
import Derived.Test.YtpmfolgihdmcjaaLawKit
import Derived.Test.YtpmfolgihdmcjaaOpenRows
import Derived.Lib.SmallJoins
namespace Go.Proofs.Ytpmfolgihdmcjaa
set_option linter.unusedVariables false
set_option linter.unusedSimpArgs false
open Go.ChangeShapes Go.WideShapes Go.ChangeAt Go.RowKit

theorem u8_nat {a : Int} (h : (Lit.int .u8 a).wf = true) : ∃ s : Nat, a = (s : Int) ∧ s < 256 := by
  obtain ⟨h0, h1⟩ := bounds_u8 h
  exact ⟨a.toNat, by omega, by omega⟩
theorem cells_ins : Try.prog.cellsOf 30 = 4 := by kernel_rfl
/-- An instruction that came in. -/
theorem open_ins {H : Type} {enc : TypeId × Value → H} {W : World} {base b0 : Nat} {sp : Nat → Bool} {held : Bool} {v : Value} {d : DataW H} {p : List MemPlace} {r : Reach}
    (hv : Value.okWide Try.prog W r b0 30 v) (h : DataW.Trod enc Try.prog W base sp held 30 v d p) :
    ∃ x : InsD, v = .agg #[.int .u8 x.op, .int .i64 x.a, .int .i64 x.b, .int .i64 x.c] ∧ x.op < 256 := by
  obtain ⟨c0, c1, c2, c3, y0, y1, y2, y3, m, rfl, _, _, h0, h1, h2, h3⟩ := Joins.open_agg4 Try.underlying30 (by kernel_rfl) cells_ins hv h
  obtain ⟨a, e0, _, wa⟩ := DataW.trod_int Try.underlying5 h0
  obtain ⟨b, e1, _, _⟩ := DataW.trod_int Try.underlying3 h1
  obtain ⟨c, e2, _, _⟩ := DataW.trod_int Try.underlying3 h2
  obtain ⟨d, e3, _, _⟩ := DataW.trod_int Try.underlying3 h3
  simp at e0 e1 e2 e3
  subst e0 e1 e2 e3
  obtain ⟨k, rfl, hk⟩ := u8_nat wa
  exact ⟨⟨k, b, c, d⟩, rfl, hk⟩
instance : Inhabited InsD := ⟨⟨0, 0, 0, 0⟩⟩
/-- An instruction's cells. -/
theorem open_ins_cells {H : Type} {enc : TypeId × Value → H} {W : World} {base : Nat} {sp : Nat → Bool} {held : Bool} {n : Nat} {cs : List Value} {y : DataW H × List MemPlace}
    (h : DataW.trod enc Try.prog W base sp held n 30 cs = some y) : ∃ x : InsD, cs = insCells x := by
  obtain ⟨y0, y1, y2, y3, m, _, hl, h0, h1, h2, h3⟩ := Joins.trod_struct4 Try.underlying30 h
  rw [cells_ins] at hl
  match cs, hl with
  | [c0, c1, c2, c3], _ =>
    obtain ⟨a, e0, _, wa⟩ := DataW.trod_int Try.underlying5 h0
    obtain ⟨b, e1, _, _⟩ := DataW.trod_int Try.underlying3 h1
    obtain ⟨c, e2, _, _⟩ := DataW.trod_int Try.underlying3 h2
    obtain ⟨d, e3, _, _⟩ := DataW.trod_int Try.underlying3 h3
    have k5 : Try.prog.cellsOf 5 = 1 := by kernel_rfl
    have k3 : Try.prog.cellsOf 3 = 1 := by kernel_rfl
    simp [k5] at e0
    simp [k3] at e1 e2 e3
    subst e0 e1 e2 e3
    obtain ⟨k, rfl, hk⟩ := u8_nat wa
    exact ⟨⟨k, b, c, d⟩, rfl⟩
/-- A thread that came in. -/
theorem open_code {H : Type} {enc : TypeId × Value → H} {W : World} {base : Nat} {held : Bool} {n : Nat} {v : Value} {y : DataW H × List MemPlace}
    (h : DataW.trod enc Try.prog W base (fun _ => true) held n 28 [v] = some y) : ∃ a cap c, v = .slice a (List.length c) cap ∧ List.length c ≤ 9223372036854775807 ∧ CodeIn W W.heap.size a c := by
  have hmax : maxLen ≤ 9223372036854775807 := by decide
  rcases Go.Deep.open_slice Try.underlying28 h with ⟨hcs, _⟩ | ⟨x, len, cap, m, n, D, Pl, hcs, _, hl, hm, hmm, _, hx⟩
  · simp at hcs
    exact ⟨none, 0, [], hcs, by simp, fun k r hr => by simp at hr⟩
  · simp at hcs
    simp only [if_true] at hmm
    subst hmm
    rw [cells_ins] at hx
    obtain ⟨X, hX⟩ := Go.Deep.choose_lt (α := InsD) (p := fun i z => ∃ cs', W.cells? base (x.add (i * 4)) 4 = some cs' ∧ cs' = insCells z) (n := m) (fun i hi => by
      obtain ⟨cs', h1, h2⟩ := hx i hi
      obtain ⟨z, hz⟩ := open_ins_cells h2
      exact ⟨z, cs', h1, hz⟩)
    refine ⟨some x, m, (List.range len).map X, by simpa using hcs, by simp; omega, fun k z hz => ?_⟩
    simp only [List.getElem?_map, Option.map_eq_some_iff] at hz
    obtain ⟨k', hk', rfl⟩ := hz
    have hkl : k < len := by have := (List.getElem?_eq_some_iff.1 hk').1; simpa using this
    have e : k' = k := by
      rw [List.getElem?_range hkl] at hk'
      exact (Option.some.inj hk').symm
    subst e
    have cell : ∀ i, i < m → ∀ j, j < 4 → W.cell? (x.add (i * 4 + j)) = (insCells (X i))[j]? := fun i hi j hj => by
      obtain ⟨cs', h1, rfl⟩ := hX i hi
      have := (World.cells?_some h1).2.2 j hj
      rw [show (x.add (i * 4)).add j = x.add (i * 4 + j) from by
        by_cases hj0 : j = 0
        · subst hj0; simp [Addr.add]
        · by_cases hi0 : i * 4 = 0
          · simp [Addr.add, hi0]
          · simp [Addr.add, hj0, hi0, Nat.add_assoc]] at this
      exact this
    obtain ⟨b, off, rfl, hc0⟩ := cell_plain (k := k' * 4) (v := .int .u8 (X k').op) (by have := cell k' (by omega) 0 (by omega); simpa [insCells] using this) ⟨_, by have := cell 0 (by omega) 0 (by omega); simpa [insCells] using this⟩
    have cell2 : ∀ j, j < 4 → W.cell? ⟨b, off + k' * 4 + j, none⟩ = (insCells (X k'))[j]? := fun j hj => by
      have := cell k' (by omega) j hj
      rw [Go.WideShapes.add_plain] at this
      rw [Nat.add_assoc]; exact this
    refine ⟨b, off, rfl, cell_lt hc0, hc0, ?_, ?_, ?_⟩
    · have := cell2 1 (by omega); simpa [insCells] using this
    · have := cell2 2 (by omega); simpa [insCells] using this
    · have := cell2 3 (by omega); simpa [insCells] using this
/-- Threads that came in. -/
theorem open_threads {H : Type} {enc : TypeId × Value → H} {W : World} {base : Nat} {held : Bool} {n : Nat} {v : Value} {y : DataW H × List MemPlace}
    (h : DataW.trod enc Try.prog W base (fun _ => true) held n 24 [v] = some y) : ∃ a cap ts, v = .slice a (List.length ts) cap ∧ List.length ts ≤ 9223372036854775807 ∧ ThreadsIn W W.heap.size a ts ∧ ∀ c ∈ ts, List.length c ≤ 9223372036854775807 := by
  have hmax : maxLen ≤ 9223372036854775807 := by decide
  rcases Go.Deep.open_slice1 Try.underlying24 (by kernel_rfl) h with ⟨hcs, _⟩ | ⟨x, len, cap, m, n, V, D, Pl, hcs, _, hl, hm, hmm, _, hx⟩
  · simp at hcs
    exact ⟨none, 0, [], hcs, by simp, (fun k r hr => by simp at hr), (fun c hc => by simp at hc)⟩
  · simp at hcs
    simp only [if_true] at hmm
    subst hmm
    obtain ⟨X, hX⟩ := Go.Deep.choose_lt (α := List InsD) (p := fun i c => W.cell? (x.add i) = some (V i) ∧ ∃ a' cap', V i = .slice a' (List.length c) cap' ∧ List.length c ≤ 9223372036854775807 ∧ CodeIn W W.heap.size a' c) (n := m) (fun i hi => by
      obtain ⟨h1, h2⟩ := hx i hi
      obtain ⟨a', cap', c, e, hlc, hc⟩ := open_code h2
      exact ⟨c, h1, a', cap', e, hlc, hc⟩)
    refine ⟨some x, m, (List.range len).map X, by simpa using hcs, by simp; omega, fun k z hz => ?_, fun c hc => ?_⟩
    · simp only [List.getElem?_map, Option.map_eq_some_iff] at hz
      obtain ⟨k', hk', rfl⟩ := hz
      have hkl : k < len := by have := (List.getElem?_eq_some_iff.1 hk').1; simpa using this
      have e : k' = k := by
        rw [List.getElem?_range hkl] at hk'
        exact (Option.some.inj hk').symm
      subst e
      obtain ⟨h1, a', cap', h2, h3, h4⟩ := hX k' (by omega)
      obtain ⟨b, off, rfl, hc0⟩ := cell_plain h1 ⟨_, (hX 0 (by omega)).1⟩
      exact ⟨b, off, rfl, cell_lt hc0, a', cap', by rw [hc0, h2], h4⟩
    · obtain ⟨k, hk, rfl⟩ := List.mem_map.1 hc
      obtain ⟨h1, a', cap', h2, h3, h4⟩ := hX k (by have := List.mem_range.1 hk; omega)
      exact h3
theorem cells_prog : Try.prog.cellsOf 26 = 7 := by kernel_rfl
/-- A program that came in. -/
theorem open_prog {H : Type} {enc : TypeId × Value → H} {W : World} {base b0 : Nat} {held : Bool} {v : Value} {d : DataW H} {p : List MemPlace} {r : Reach}
    (hv : Value.okWide Try.prog W r b0 26 v) (h : DataW.Trod enc Try.prog W base (fun _ => true) held 26 v d p) :
    ∃ (q : ProgD) (ca : Option Addr) (ccap : Nat) (ta : Option Addr) (tcap : Nat), v = q.val ca ccap ta tcap ∧ ProgIn W W.heap.size q ca ta ∧ ∀ c ∈ q.threads, List.length c ≤ 9223372036854775807 := by
  have hmax : maxLen ≤ 9223372036854775807 := by decide
  obtain ⟨cs, rfl, hsz⟩ := okWide_struct Try.underlying26 hv
  rw [cells_prog] at hsz
  obtain ⟨fuel, hf⟩ := h
  obtain ⟨xs, n, _, _, _, hlen, hf⟩ := DataW.trod_struct Try.underlying26 hf
  have h0 := hf 0 _ rfl
  have h1 := hf 1 _ rfl
  have h2 := hf 2 _ rfl
  have h3 := hf 3 _ rfl
  have h4 := hf 4 _ rfl
  have h5 := hf 5 _ rfl
  have h6 := hf 6 _ rfl
  clear hf
  obtain ⟨cs⟩ := cs
  have k3 : Try.prog.cellsOf 3 = 1 := by kernel_rfl
  have k23 : Try.prog.cellsOf 23 = 1 := by kernel_rfl
  have k24 : Try.prog.cellsOf 24 = 1 := by kernel_rfl
  match cs, hsz with
  | [c0, c1, c2, c3, c4, c5, c6], _ =>
    match xs, hlen with
    | [y0, y1, y2, y3, y4, y5, y6], _ =>
      simp [Value.cells, k3, k23, k24] at h0 h1 h2 h3 h4 h5 h6
      obtain ⟨a0, e0, _, _⟩ := DataW.trod_int Try.underlying3 h0
      obtain ⟨a1, e1, _, _⟩ := DataW.trod_int Try.underlying3 h1
      obtain ⟨a2, e2, _, _⟩ := DataW.trod_int Try.underlying3 h2
      obtain ⟨a4, e4, _, _⟩ := DataW.trod_int Try.underlying3 h4
      obtain ⟨a5, e5, _, _⟩ := DataW.trod_int Try.underlying3 h5
      simp at e0 e1 e2 e4 e5
      subst e0 e1 e2 e4 e5
      obtain ⟨ta, tcap, ts, rfl, hts, hT, hC⟩ := open_threads h6
      obtain ⟨ca, ccap, l, rfl, hll, hL⟩ : ∃ ca ccap l, c3 = .slice ca (List.length l) ccap ∧ List.length l ≤ 9223372036854775807 ∧ RowOf .i64 W W.heap.size ca l := by
        rcases open_ints Try.underlying23 Try.underlying3 k3 h3 with ⟨hcs, _⟩ | ⟨x, len, c, zs, hcs, _, hl, hm, hz, _, hcell, hwz⟩
        · simp at hcs
          exact ⟨none, 0, [], hcs, by simp, fun i x h => by simp at h⟩
        · simp at hcs
          have hS : SliceIn .i64 W (some x) len c (zs.take len) := SliceIn.of hl hm (by simpa using hz) hcell hwz
          exact ⟨some x, c, zs.take len, by rw [hcs, ← hS.len_eq], by rw [← hS.len_eq]; omega, hS.row⟩
      exact ⟨⟨a0, a1, a2, l, a4, a5, ts⟩, ca, ccap, ta, tcap, rfl, ⟨hL, hT, hll, hts⟩, hC⟩

end Go.Proofs.Ytpmfolgihdmcjaa
