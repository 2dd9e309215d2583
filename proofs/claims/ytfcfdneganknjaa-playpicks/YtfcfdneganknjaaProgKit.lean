/- A program of the laws' making, and what becomes of it. No statement of its own. -/
import Derived.Test.YtfcfdneganknjaaOwnKit2
namespace Go.Proofs.Ytfcfdneganknjaa
set_option linter.unusedVariables false
set_option linter.unusedSimpArgs false
set_option maxRecDepth 100000
open Go.RowKit

/-- A program of the laws' making lies: its threads, its box in block B, its channels' row. -/
structure ProgSt (w u : World) (B : Nat) (tv : Value) (vs : List Value) (cs : List (List InsD)) : Prop where
  own : OwnThreads u (w.heap.size + 3) tv vs cs
  box : u.heap[B]? = some (.cells #[.int .i64 2, .int .i64 1, .int .i64 1, .slice (some ⟨w.heap.size + 1, 0, none⟩) 1 1, .int .i64 1, .int .i64 1, tv] 26)
  chn : u.heap[w.heap.size + 1]? = some (.cells #[.int .i64 1] 3)
  bel : Below w.heap.size w u
theorem ProgSt.later {w u u' : World} {B : Nat} {tv : Value} {vs : List Value} {cs : List (List InsD)} (h : ProgSt w u B tv vs cs) (hB : Below u.heap.size u u') : ProgSt w u' B tv vs cs :=
  ⟨h.own.later hB, (hB.block _ (Array.getElem?_eq_some_iff.1 h.box).1).trans h.box, (hB.block _ (Array.getElem?_eq_some_iff.1 h.chn).1).trans h.chn, below_next h.bel hB⟩
theorem ProgSt.cells {w u : World} {B : Nat} {tv : Value} {vs : List Value} {cs : List (List InsD)} (h : ProgSt w u B tv vs cs) :
    u.cell? ⟨B, 0, none⟩ = some (.int .i64 2) ∧ u.cell? ⟨B, 1, none⟩ = some (.int .i64 1) ∧ u.cell? ⟨B, 2, none⟩ = some (.int .i64 1) ∧ u.cell? ⟨B, 3, none⟩ = some (.slice (some ⟨w.heap.size + 1, 0, none⟩) 1 1) ∧ u.cell? ⟨B, 4, none⟩ = some (.int .i64 1) ∧ u.cell? ⟨B, 5, none⟩ = some (.int .i64 1) ∧ u.cell? ⟨B, 6, none⟩ = some tv :=
  ⟨cell_of_row _ _ 0 _ _ _ h.box, cell_of_row _ _ 1 _ _ _ h.box, cell_of_row _ _ 2 _ _ _ h.box, cell_of_row _ _ 3 _ _ _ h.box, cell_of_row _ _ 4 _ _ _ h.box, cell_of_row _ _ 5 _ _ _ h.box, cell_of_row _ _ 6 _ _ _ h.box⟩
theorem ProgSt.sound {w u : World} {B : Nat} {tv : Value} {vs : List Value} {cs : List (List InsD)} (h : ProgSt w u B tv vs cs) (hl : cs.length ≤ 1000) (e : Int) (he : soundE (madeD cs) = e) :
    Calls Try.prog 39 #[.agg #[.int .i64 2, .int .i64 1, .int .i64 1, .slice (some ⟨w.heap.size + 1, 0, none⟩) 1 1, .int .i64 1, .int .i64 1, tv]] u fun en w' => en = .returned (.int .u16 e) ∧ Below u.heap.size u w' := made_calls h.own h.chn hl e he
/-- A thread grows and is laid in its place: what lies then. -/
theorem ProgSt.grow {w u u' : World} {B g cap k : Nat} {v v' : Value} {vs : List Value} {cs : List (List InsD)} {c : List InsD} {x : InsD} (h : ProgSt w u B (.slice (some ⟨g, 0, none⟩) cs.length cap) vs cs) (hv : vs[k]? = some v) (hc : cs[k]? = some c)
    (hBv : ∀ b, v.ownBlock = some b → b ≠ B) (hBg : B ≠ g) (hown : u'.ownsRow (w.heap.size + 3) 54 4 v' (c.length + 1) (codeCells c ++ insCells x)) (hg : u.grownBy u' v.ownBlock) (hat : v'.ownBlock = v.ownBlock ∨ v'.ownBlock = some u.heap.size) :
    (u'.cell? ⟨g, k, none⟩ = some v ∧ u'.frozen? ⟨g, k, none⟩ = false ∧ u'.cell? ⟨B, 6, none⟩ = some (.slice (some ⟨g, 0, none⟩) cs.length cap)) ∧ ProgSt w (u'.setCell ⟨g, k, none⟩ v') B (.slice (some ⟨g, 0, none⟩) cs.length cap) (vs.set k v') (cs.set k (c ++ [x])) := by
  have hrow := h.own.code k v c hv hc
  have hkl : k < vs.length := (List.getElem?_eq_some_iff.1 hv).1
  have hgb := (own_lt h.own.thr g rfl)
  have hbase : w.heap.size + 3 ≤ u.heap.size := by omega
  have hne : ∀ b, b < w.heap.size + 3 → some b ≠ v.ownBlock := fun b hb e => by have := (own_lt hrow b e.symm).2; omega
  have hbx := (hg.block B (Array.getElem?_eq_some_iff.1 h.box).1 (fun e => hBv B e.symm rfl)).trans h.box
  have hcn := (hg.block (w.heap.size + 1) (by omega) (hne _ (by omega))).trans h.chn
  have hthr := own_beside h.own.thr hg (h.own.apartT k v hv).symm
  refine ⟨⟨?_, ?_, cell_of_row _ _ _ _ _ _ hbx⟩, h.own.grow hv hc hown hg hat, ?_, ?_, ?_⟩
  · rcases hthr.2 with ⟨e, _⟩ | ⟨g', cap', cur, e, hb, hh, hle, hm, hs, ht⟩
    · cases e
    · simp only [Value.slice.injEq, Option.some.injEq, Addr.mk.injEq] at e
      obtain ⟨⟨rfl, _⟩, _, rfl⟩ := e
      rw [cell_of_row _ _ _ _ _ _ hh, ← hv, ← ht, List.getElem?_take_of_lt (by omega)]
      simp
  · rcases hthr.2 with ⟨e, _⟩ | ⟨g', cap', cur, e, hb, hh, _⟩
    · cases e
    · simp only [Value.slice.injEq, Option.some.injEq, Addr.mk.injEq] at e
      obtain ⟨⟨rfl, _⟩, _, rfl⟩ := e
      exact frozen_of_row _ _ _ _ _ hh
  · rw [heap_setCell_other _ _ _ _ hBg]; exact hbx
  · rw [heap_setCell_other _ _ _ _ (by show w.heap.size + 1 ≠ g; omega)]; exact hcn
  · exact (h.bel.grown hg (by omega) (fun b e => by have := (own_lt hrow b e).2; omega)).setCell (p := ⟨g, k, none⟩) (by show w.heap.size ≤ g; omega) _

theorem cells_ins_new2 (w : World) (o : Obj) (x : InsD) (t : TypeId) : ∀ j u, (insCells x)[j]? = some u → ((w.alloc o).alloc (.cells #[.int .u8 x.op, .int .i64 x.a, .int .i64 x.b, .int .i64 x.c] t)).cell? ((⟨w.heap.size + 1, 0, none⟩ : Addr).add j) = some u := by
  intro j u hj
  have := cells_ins_new (w.alloc o) x t j u hj
  simpa using this
/-- A store into a block that is none of theirs. -/
theorem OwnThreads.setOff {u : World} {base : Nat} {tv : Value} {vs : List Value} {cs : List (List InsD)} (h : OwnThreads u base tv vs cs) {B : Nat} (hT : tv.ownBlock ≠ some B) (hV : ∀ (k : Nat) (v : Value), vs[k]? = some v → v.ownBlock ≠ some B) (j : Nat) (x : Value) : OwnThreads (u.setCell ⟨B, j, none⟩ x) base tv vs cs :=
  ⟨h.len, ownsRow_setCell_other (a := ⟨B, j, none⟩) h.thr hT x, fun k v c hv hc => ownsRow_setCell_other (a := ⟨B, j, none⟩) (h.code k v c hv hc) (hV k v hv) x, h.apartT, h.apartV⟩
/-- A thread more. -/
theorem ProgSt.push {w u u' : World} {B : Nat} {tv tv' v : Value} {vs : List Value} {cs : List (List InsD)} {c : List InsD} (h : ProgSt w u B tv vs cs) (hT : tv.ownBlock ≠ some B) (hV : ∀ (k : Nat) (b : Value), vs[k]? = some b → b.ownBlock ≠ some B)
    (hv : u.ownsRow (w.heap.size + 3) 54 4 v c.length (codeCells c)) (hvB : v.ownBlock ≠ some B) (haT : Apart v tv) (haV : ∀ (k : Nat) (b : Value), vs[k]? = some b → Apart b v)
    (hrow : u'.ownsRow (w.heap.size + 3) 45 1 tv' (vs.length + 1) (vs ++ [v])) (hg : u.grownBy u' tv.ownBlock) (hat : tv'.ownBlock = tv.ownBlock ∨ tv'.ownBlock = some u.heap.size) (hbase : w.heap.size + 3 ≤ u.heap.size) (hwB : w.heap.size ≤ B) :
    (u'.cell? ⟨B, 6, none⟩ = some tv ∧ u'.frozen? ⟨B, 6, none⟩ = false) ∧ ProgSt w (u'.setCell ⟨B, 6, none⟩ tv') B tv' (vs ++ [v]) (cs ++ [c]) ∧ tv'.ownBlock ≠ some B ∧ (∀ (k : Nat) (b : Value), (vs ++ [v])[k]? = some b → b.ownBlock ≠ some B) := by
  have hBl := (Array.getElem?_eq_some_iff.1 h.box).1
  have hbx := (hg.block B hBl (fun e => hT e.symm)).trans h.box
  have hne : ∀ k, k < w.heap.size + 3 → some k ≠ tv.ownBlock := fun k hk e => by have := (own_lt h.own.thr k e.symm).2; omega
  have hcn := (hg.block (w.heap.size + 1) (by omega) (hne _ (by omega))).trans h.chn
  have hT' : tv'.ownBlock ≠ some B := by
    rcases hat with e | e
    · rw [e]; exact hT
    · rw [e]; intro e2; cases e2; omega
  have hV' : ∀ (k : Nat) (b : Value), (vs ++ [v])[k]? = some b → b.ownBlock ≠ some B := fun k b hb => by
    rcases List.mem_append.1 (List.mem_of_getElem? hb) with hm | hm
    · obtain ⟨i, hi⟩ := List.getElem?_of_mem hm
      exact hV i b hi
    · simp at hm; subst hm; exact hvB
  have hCB : w.heap.size + 1 ≠ B := fun e => by
    subst e
    have e2 := h.box.symm.trans h.chn
    simp at e2
  refine ⟨⟨cell_of_row _ _ _ _ _ _ hbx, frozen_of_row _ _ _ _ _ hbx⟩, ⟨(h.own.snoc hv haT haV hrow hg hat).setOff hT' hV' 6 tv', ?_, ?_, ?_⟩, hT', hV'⟩
  · rw [heap_setCell_same _ _ _ _ _ _ hbx]; rfl
  · rw [heap_setCell_other _ _ _ _ hCB]; exact hcn
  · exact (h.bel.grown hg (by omega) (fun b e => by have := (own_lt h.own.thr b e).2; omega)).setCell (p := ⟨B, 6, none⟩) hwB _

end Go.Proofs.Ytfcfdneganknjaa
