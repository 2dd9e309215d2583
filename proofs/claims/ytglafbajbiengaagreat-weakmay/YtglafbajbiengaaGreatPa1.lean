/- What the laws of this seat stand on, part 1. -/
import Derived.Test.YtglafbajbiengaaGreatPa0
set_option linter.unusedVariables false
set_option linter.unusedSimpArgs false
set_option maxRecDepth 100000
set_option maxHeartbeats 40000000
namespace Go.Proofs.YtglafbajbiengaaGreat
open Go.ChangeShapes Go.WideShapes Go.ChangeAt Go.RowKit
theorem law_own : ownKnob Tryz.prog.godebug = none := by kernel_rfl
theorem law_laidOut : laidOutB Tryz.prog = true := by kernel_rfl
/-- A slice at address a holds the numbers l, in a block below B. -/
def RowOf (k : IntKind) (w : World) (B : Nat) (a : Option Addr) (l : List Int) : Prop :=
  ∀ i x, l[i]? = some x → ∃ b off, a = some ⟨b, off, none⟩ ∧ b < B ∧ w.cell? ⟨b, off + i, none⟩ = some (.int k x)
/-- A slice of integers that came in: its numbers, each of its kind, in a block that lies. -/
structure SliceIn (k : IntKind) (w : World) (a : Option Addr) (len cap : Nat) (l : List Int) : Prop where
  len_eq : len = l.length
  len_le : len ≤ cap
  cap_le : cap ≤ maxLen
  row : RowOf k w w.heap.size a l
  fit : ∀ n ∈ l, (Lit.int k n).wf = true
theorem SliceIn.nil (k : IntKind) (w : World) : SliceIn k w none 0 0 [] := ⟨rfl, Nat.le_refl _, Nat.zero_le _, fun i x h => by simp at h, fun n h => by simp at h⟩
theorem cell_lt {w : World} {b o : Nat} {v : Value} (h : w.cell? ⟨b, o, none⟩ = some v) : b < w.heap.size := by
  rcases Nat.lt_or_ge b w.heap.size with hlt | hge
  · exact hlt
  · simp [World.cell?, Array.getElem?_eq_none hge] at h
theorem SliceIn.of {k : IntKind} {w : World} {x : Addr} {len cap : Nat} {zs : List Int} (hl : len ≤ cap) (hm : cap ≤ maxLen) (hz : zs.length = cap)
    (hcell : ∀ i, i < zs.length → w.cell? (x.add i) = some (.int k (zs.getD i 0))) (hwz : ∀ n ∈ zs, (Lit.int k n).wf = true) : SliceIn k w (some x) len cap (zs.take len) := by
  refine ⟨by simp; omega, hl, hm, fun i y hy => ?_, fun n hn => hwz n (List.mem_of_mem_take hn)⟩
  have hi : i < len := by
    rcases Nat.lt_or_ge i len with h | h
    · exact h
    · rw [List.getElem?_eq_none (by simp; omega)] at hy; cases hy
  obtain ⟨b, off, rfl, hc⟩ := ints_at hcell (by omega)
  have := hc i (by omega)
  rw [List.getElem?_take_of_lt hi, List.getElem?_eq_getElem (by omega)] at hy
  have e : zs.getD i 0 = y := by
    rw [List.getD_eq_getElem?_getD, List.getElem?_eq_getElem (by omega)]
    exact Option.some.inj hy
  rw [e] at this
  exact ⟨b, off, rfl, cell_lt this, this⟩
theorem below_next {w w1 w2 : World} (h : Below w.heap.size w w1) (k : Below w1.heap.size w1 w2) : Below w.heap.size w w2 := h.trans (k.mono h.size)
theorem below_new {w w1 : World} (h : Below w.heap.size w w1) (o : Obj) : Below w.heap.size w (w1.alloc o) := h.alloc h.size o
theorem below_draws {B : Nat} {w w1 : World} (h : Below B w w1) (n : Nat) : Below B w (w1.drewN n) := ⟨h.os, h.tape, h.output, h.size, h.block⟩
theorem RowOf.nil (k : IntKind) (w : World) (B : Nat) (a : Option Addr) : RowOf k w B a [] := fun i x h => by simp at h
theorem RowOf.below {k : IntKind} {w w' : World} {B : Nat} {a : Option Addr} {l : List Int} (h : RowOf k w B a l) (hb : Below B w w') : RowOf k w' B a l := fun i x hx => by
  obtain ⟨b, off, rfl, hlt, hc⟩ := h i x hx
  exact ⟨b, off, rfl, hlt, (hb.cell (p := ⟨b, off + i, none⟩) hlt).trans hc⟩
theorem RowOf.more {k : IntKind} {w : World} {B B' : Nat} {a : Option Addr} {l : List Int} (h : RowOf k w B a l) (hb : B ≤ B') : RowOf k w B' a l := fun i x hx => by
  obtain ⟨b, off, rfl, hlt, hc⟩ := h i x hx
  exact ⟨b, off, rfl, by omega, hc⟩
theorem at_lt {α : Type} {l : List α} {k : Nat} (h : k < l.length) : ∃ x, l[k]? = some x := ⟨l[k], List.getElem?_eq_getElem h⟩
theorem quiet_eq {P : Program} {f : FuncId} {args : Array Value} {w : World} {n : Nat} {v : Value} (h : Calls P f args (w.drewN n) fun e w' => e = .returned v ∧ w.drewN n = w') :
    Calls P f args (w.drewN n) fun e w'' => e = .returned v ∧ ∃ m, w'' = w.drewN m := Calls.quiet_of_same (h.mono fun _ _ ⟨h1, h2⟩ => ⟨h1, h2.symm⟩)
theorem below_box (w : World) (o : Obj) : Below w.heap.size w (w.alloc o) := (Below.refl _ _).alloc (Nat.le_refl _) _
theorem below_drewN {B : Nat} {w v : World} (h : Below B w v) (n : Nat) : Below B w (v.drewN n) := below_draws h n
theorem size_setCell (w : World) (p : Addr) (x : Value) : (w.setCell p x).heap.size = w.heap.size := by simp
/-- What lies where X does not say so is as it was. -/
structure Touch (X : Nat → Prop) (w w' : World) : Prop where
  os : w'.os = w.os
  tape : w'.tape = w.tape
  output : w'.output = w.output
  size : w.heap.size ≤ w'.heap.size
  block : ∀ k, k < w.heap.size → ¬ X k → w'.heap[k]? = w.heap[k]?
theorem Touch.of_below {X : Nat → Prop} {w w' : World} (h : Below w.heap.size w w') : Touch X w w' := ⟨h.os, h.tape, h.output, h.size, fun k hk _ => h.block k hk⟩
theorem Touch.set {X : Nat → Prop} {w w' : World} (h : Touch X w w') {b i : Nat} {v : Value} (hb : X b) : Touch X w (w'.setCell ⟨b, i, none⟩ v) :=
  ⟨h.os, h.tape, h.output, by rw [size_setCell]; exact h.size, fun k hk hx => (Below.heap_setCell _ _ _ _ (by intro e; simp only at e; exact hx (e ▸ hb))).trans (h.block k hk hx)⟩
theorem Touch.trans {X Y : Nat → Prop} {w w1 w2 : World} (h : Touch X w w1) (h2 : Touch Y w1 w2) (hY : ∀ k, k < w.heap.size → Y k → X k) : Touch X w w2 :=
  ⟨h2.os.trans h.os, h2.tape.trans h.tape, h2.output.trans h.output, Nat.le_trans h.size h2.size, fun k hk hx => (h2.block k (by have := h.size; omega) fun hy => hx (hY k hk hy)).trans (h.block k hk hx)⟩
theorem Touch.mono {X Y : Nat → Prop} {w w' : World} (h : Touch X w w') (hX : ∀ k, k < w.heap.size → X k → Y k) : Touch Y w w' := ⟨h.os, h.tape, h.output, h.size, fun k hk hy => h.block k hk fun hx => hy (hX k hk hx)⟩
theorem Touch.below {X : Nat → Prop} {B : Nat} {w w' : World} (h : Touch X w w') (hX : ∀ k, X k → B ≤ k) (hB : B ≤ w.heap.size) : Below B w w' :=
  ⟨h.os, h.tape, h.output, h.size, fun k hk => h.block k (by omega) fun hx => by have := hX k hx; omega⟩
theorem Touch.grown {X : Nat → Prop} {w w' : World} {row : Option Nat} (h : w.grownBy w' row) (hX : ∀ k, row = some k → X k) : Touch X w w' :=
  ⟨h.os, h.tape, h.output, h.size, fun k hk hx => h.block k hk fun e => hx (hX k e.symm)⟩
abbrev evV (k p op o v md : Int) : Value := .agg #[.int .i64 k, .int .i64 p, .int .u8 op, .int .i64 o, .int .i64 v, .int .i64 md]
theorem below_row {B : Nat} {a w : World} (h : Below B a w) {g : Nat} (hg : B ≤ g) (cs : Array Value) : Below B a (w.setRow g cs) :=
  h.trans ⟨rfl, rfl, rfl, by simp, fun k hk => setRow_other _ _ _ _ (by omega)⟩
theorem cells6 {w : World} {b : Nat} {a0 a1 a2 a3 a4 a5 : Value} {t : TypeId} (h : w.heap[b]? = some (.cells #[a0, a1, a2, a3, a4, a5] t)) :
    w.cell? ⟨b, 0, none⟩ = some a0 ∧ w.cell? ⟨b, 1, none⟩ = some a1 ∧ w.cell? ⟨b, 2, none⟩ = some a2 ∧ w.cell? ⟨b, 3, none⟩ = some a3 ∧ w.cell? ⟨b, 4, none⟩ = some a4 ∧ w.cell? ⟨b, 5, none⟩ = some a5 := by
  refine ⟨?_, ?_, ?_, ?_, ?_, ?_⟩ <;> (rw [cell_of_row _ _ _ _ _ _ h]; rfl)
/-- An event. -/
structure EvD where
  th : Int
  pc : Int
  op : Int
  obj : Int
  val : Int
  mode : Int
def EvD.v (e : EvD) : Value := evV e.th e.pc e.op e.obj e.val e.mode
def evCells (e : EvD) : List Value := [.int .i64 e.th, .int .i64 e.pc, .int .u8 e.op, .int .i64 e.obj, .int .i64 e.val, .int .i64 e.mode]
def evsCells (l : List EvD) : List Value := l.flatMap evCells
theorem evsCells_len (c : List EvD) : (evsCells c).length = c.length * 6 := by
  induction c with
  | nil => rfl
  | cons x r ih => simp only [evsCells, List.flatMap_cons, List.length_append] at ih ⊢; rw [ih]; simp [evCells]; omega
theorem evsCells_snoc (c : List EvD) (x : EvD) : evsCells (c ++ [x]) = evsCells c ++ evCells x := by simp [evsCells]
theorem evsCells_at (c : List EvD) : ∀ (k : Nat) (x : EvD), c[k]? = some x → ∀ j, j < 6 → (evsCells c)[k * 6 + j]? = (evCells x)[j]? := by
  induction c with
  | nil => intro k x h; simp at h
  | cons y r ih =>
    intro k x h j hj
    have e : evsCells (y :: r) = evCells y ++ evsCells r := by simp [evsCells]
    rw [e]
    cases k with
    | zero =>
      simp at h; subst h
      rw [List.getElem?_append_left (by simp [evCells]; omega)]; simp
    | succ k =>
      have h' : r[k]? = some x := by simpa using h
      rw [List.getElem?_append_right (by simp [evCells]; omega)]
      have : (k + 1) * 6 + j - (evCells y).length = k * 6 + j := by simp [evCells]; omega
      rw [this]
      exact ih k x h' j hj
theorem ev_one (x : EvD) : ∀ u ∈ evCells x, u.oneCell' = true := by
  intro u hu
  simp [evCells] at hu
  rcases hu with rfl | rfl | rfl | rfl | rfl | rfl <;> rfl
/-- The six cells of an event. -/
def EvAt (u : World) (g o : Nat) (x : EvD) : Prop := u.cell? ⟨g, o, none⟩ = some (.int .i64 x.th) ∧ u.cell? ⟨g, o + 1, none⟩ = some (.int .i64 x.pc) ∧ u.cell? ⟨g, o + 2, none⟩ = some (.int .u8 x.op) ∧ u.cell? ⟨g, o + 3, none⟩ = some (.int .i64 x.obj) ∧ u.cell? ⟨g, o + 4, none⟩ = some (.int .i64 x.val) ∧ u.cell? ⟨g, o + 5, none⟩ = some (.int .i64 x.mode)
theorem evAt_of {u : World} {g i : Nat} {x : EvD} (h : ∀ j, j < 6 → u.cell? ⟨g, i * 6 + j, none⟩ = (evCells x)[j]?) : EvAt u g (i * 6) x := by
  refine ⟨?_, ?_, ?_, ?_, ?_, ?_⟩
  · simpa [evCells] using h 0 (by omega)
  · simpa [evCells] using h 1 (by omega)
  · simpa [evCells] using h 2 (by omega)
  · simpa [evCells] using h 3 (by omega)
  · simpa [evCells] using h 4 (by omega)
  · simpa [evCells] using h 5 (by omega)
theorem EvAt.later {u u' : World} {g o : Nat} {x : EvD} (h : EvAt u g o x) (hB : Below u.heap.size u u') : EvAt u' g o x :=
  ⟨(hB.cell (p := ⟨g, o, none⟩) (cell_lt h.1)).trans h.1, (hB.cell (p := ⟨g, o + 1, none⟩) (cell_lt h.1)).trans h.2.1, (hB.cell (p := ⟨g, o + 2, none⟩) (cell_lt h.1)).trans h.2.2.1, (hB.cell (p := ⟨g, o + 3, none⟩) (cell_lt h.1)).trans h.2.2.2.1, (hB.cell (p := ⟨g, o + 4, none⟩) (cell_lt h.1)).trans h.2.2.2.2.1, (hB.cell (p := ⟨g, o + 5, none⟩) (cell_lt h.1)).trans h.2.2.2.2.2⟩
theorem below_two (w : World) (o o' : Obj) : Below w.heap.size w ((w.alloc o).alloc o') := ((Below.refl _ _).alloc (Nat.le_refl _) _).alloc (by simp) _
theorem RowOf.later {k : IntKind} {w w' : World} {B : Nat} {a : Option Addr} {l : List Int} (h : RowOf k w B a l) (hB : Below B w w') : RowOf k w' B a l := fun i x hx => by
  obtain ⟨c, off, h1, h2, h3⟩ := h i x hx
  exact ⟨c, off, h1, h2, (hB.cell (p := ⟨c, off + i, none⟩) h2).trans h3⟩
theorem RowOf.wide {k : IntKind} {w : World} {B B' : Nat} {a : Option Addr} {l : List Int} (h : RowOf k w B a l) (hB : B ≤ B') : RowOf k w B' a l := fun i x hx => by
  obtain ⟨c, off, h1, h2, h3⟩ := h i x hx
  exact ⟨c, off, h1, by omega, h3⟩
theorem cells4 {w : World} {g : Nat} {a b c d : Value} {t : TypeId} {fr : Nat × Nat} (h : w.heap[g]? = some (.cells #[a, b, c, d] t fr)) :
    w.cell? ⟨g, 0, none⟩ = some a ∧ w.cell? ⟨g, 1, none⟩ = some b ∧ w.cell? ⟨g, 2, none⟩ = some c ∧ w.cell? ⟨g, 3, none⟩ = some d :=
  ⟨cell_of_row w g 0 _ _ _ h, cell_of_row w g 1 _ _ _ h, cell_of_row w g 2 _ _ _ h, cell_of_row w g 3 _ _ _ h⟩
theorem old_alloc {u : World} {g : Nat} {o : Obj} (h : u.heap[g]? = some o) (o' : Obj) : (u.alloc o').heap[g]? = some o := (Below.heap_alloc _ _ _ (Array.getElem?_eq_some_iff.1 h).1).trans h
theorem old_later {u u' : World} {g : Nat} {o : Obj} (h : u.heap[g]? = some o) (hB : Below u.heap.size u u') : u'.heap[g]? = some o := (hB.block _ (Array.getElem?_eq_some_iff.1 h).1).trans h
theorem RowOf.up {k : IntKind} {w w' : World} {a : Option Addr} {l : List Int} (h : RowOf k w w.heap.size a l) (hB : Below w.heap.size w w') : RowOf k w' w'.heap.size a l := (h.later hB).wide hB.size
/-- Two rows of the call's own lie in two blocks. -/
def Apart (v b : Value) : Prop := v.ownBlock = none ∨ v.ownBlock ≠ b.ownBlock
theorem Apart.symm {v b : Value} (h : Apart v b) : Apart b v := by
  rcases h with h | h
  · by_cases e : b.ownBlock = none
    · exact .inl e
    · exact .inr (fun h2 => e (h2.trans h))
  · exact .inr (fun e => h e.symm)
theorem own_lt {w : World} {base : Nat} {e : TypeId} {s : Nat} {v : Value} {n : Nat} {xs : List Value} (h : w.ownsRow base e s v n xs) : ∀ g, v.ownBlock = some g → g < w.heap.size ∧ base ≤ g := by
  intro g hg
  rcases h.2 with ⟨rfl, _⟩ | ⟨g', cap, cur, rfl, hb, hh, _⟩
  · simp [Value.ownBlock] at hg
  · obtain rfl : g' = g := by simpa [Value.ownBlock] using hg
    exact ⟨(Array.getElem?_eq_some_iff.1 hh).1, hb⟩
theorem own_later {w w' : World} {base : Nat} {e : TypeId} {s : Nat} {v : Value} {n : Nat} {xs : List Value} (h : w.ownsRow base e s v n xs) (hB : Below w.heap.size w w') : w'.ownsRow base e s v n xs := by
  refine ⟨h.1, ?_⟩
  rcases h.2 with h2 | ⟨g, cap, cur, rfl, hb, hh, hr⟩
  · exact .inl h2
  · exact .inr ⟨g, cap, cur, rfl, hb, (hB.block g (Array.getElem?_eq_some_iff.1 hh).1).trans hh, hr⟩
theorem stSet_block (u : World) (b i : Nat) (v : Value) {cs : Array Value} {t : TypeId} {fr : Nat × Nat} (h : u.heap[b]? = some (.cells cs t fr)) : (u.setCell ⟨b, i, none⟩ v).heap[b]? = some (.cells (cs.setIfInBounds i v) t fr) := by
  simp [World.setCell, Array.getElem?_modify, h]
theorem info_intT : (Tryz.prog.info? 3).map (fun i => (i.zero, i.size, i.bytes)) = some (some (.int .i64 0), 1, 8) := by kernel_rfl
theorem own_base {w : World} {base base' : Nat} {e : TypeId} {s : Nat} {v : Value} {n : Nat} {xs : List Value} (h : w.ownsRow base e s v n xs) (hb : base' ≤ base) : w.ownsRow base' e s v n xs := by
  refine ⟨h.1, ?_⟩
  rcases h.2 with q | ⟨g, cap, cur, rfl, h1, hh, hr⟩
  · exact .inl q
  · exact .inr ⟨g, cap, cur, rfl, by omega, hh, hr⟩
theorem ownsRow_newer {w : World} {base : Nat} {e : TypeId} {s : Nat} {v : Value} {n : Nat} {xs : List Value} (h : w.ownsRow base e s v n xs) {b i : Nat} {x : Value} (hb : b < base) : (w.setCell ⟨b, i, none⟩ x).ownsRow base e s v n xs := by
  refine ⟨h.1, ?_⟩
  rcases h.2 with q | ⟨g, cap, cur, rfl, h1, hh, hr⟩
  · exact .inl q
  · exact .inr ⟨g, cap, cur, rfl, h1, (Below.heap_setCell _ _ _ _ (by show g ≠ b; omega)).trans hh, hr⟩
theorem own_touch {X : Nat → Prop} {w w' : World} {base : Nat} {e : TypeId} {s : Nat} {v : Value} {n : Nat} {xs : List Value} (h : w.ownsRow base e s v n xs) (T : Touch X w w') (hx : ∀ g, v.ownBlock = some g → ¬ X g) : w'.ownsRow base e s v n xs := by
  refine ⟨h.1, ?_⟩
  rcases h.2 with h2 | ⟨g, cap, cur, rfl, hb, hh, hr⟩
  · exact .inl h2
  · exact .inr ⟨g, cap, cur, rfl, hb, (T.block g (Array.getElem?_eq_some_iff.1 hh).1 (hx g rfl)).trans hh, hr⟩
theorem apart_ne {v b : Value} (h : Apart v b) {g : Nat} (hg : v.ownBlock = some g) : b.ownBlock ≠ some g := by
  rcases h with h | h
  · rw [h] at hg; cases hg
  · intro e; exact h (hg.trans e.symm)
/-- A row of numbers of the call's own: its slice, its cells. -/
theorem own_cells {u : World} {B : Nat} {v : Value} {l : List Int} (h : u.ownsRow B 3 1 v l.length (l.map (.int .i64 ·))) : ∃ a cap, v = .slice a l.length cap ∧ ∀ i x, l[i]? = some x → ∃ g, a = some ⟨g, 0, none⟩ ∧ B ≤ g ∧ g < u.heap.size ∧ u.cell? ⟨g, i, none⟩ = some (.int .i64 x) := by
  rcases h.2 with ⟨rfl, h0⟩ | ⟨g, cap, cur, rfl, hb, hh, hle, hcap, hsz, ht⟩
  · refine ⟨none, 0, by rw [h0], fun i x hx => ?_⟩
    have := (List.getElem?_eq_some_iff.1 hx).1; omega
  · refine ⟨_, cap, rfl, fun i x hx => ⟨g, rfl, hb, (Array.getElem?_eq_some_iff.1 hh).1, ?_⟩⟩
    have hi := (List.getElem?_eq_some_iff.1 hx).1
    have e : (l.map (Value.int .i64 ·))[i]? = some (.int .i64 x) := by rw [List.getElem?_map, hx]; rfl
    rw [cell_of_row _ _ _ _ _ _ hh]
    rw [← ht, List.getElem?_take_of_lt (by omega)] at e
    simpa using e
theorem apart_new {u : World} {N : Nat} {e : TypeId} {n s : Nat} {v x : Value} {xs : List Value} (hv : u.ownsRow N e s v n xs) (hx : ∀ g, x.ownBlock = some g → g < N) : Apart x v := by
  by_cases h : x.ownBlock = none
  · exact .inl h
  · refine .inr fun e => ?_
    rcases hq : x.ownBlock with _ | g
    · exact h hq
    · have h1 := hx g hq
      have h2 := (own_lt hv g (by rw [← e]; exact hq)).2
      omega
def updF {α : Type} (f : Nat → α) (i : Nat) (v : α) : Nat → α := fun j => if j = i then v else f j
theorem updF_same {α : Type} (f : Nat → α) (i : Nat) (v : α) : updF f i v i = v := by simp [updF]
theorem updF_ne {α : Type} (f : Nat → α) {i j : Nat} (v : α) (h : j ≠ i) : updF f i v j = f j := by simp [updF, h]
/-- Rows of numbers of the call's own, each in a block of its own. -/
structure Fam (u : World) (base : Nat) (fv : Nat → Value) (fl : Nat → List Int) : Prop where
  row : ∀ i, u.ownsRow base 3 1 (fv i) (fl i).length ((fl i).map (.int .i64 ·))
  ap : ∀ i j, i ≠ j → Apart (fv i) (fv j)
  top : base ≤ u.heap.size
theorem Fam.nil (u : World) : Fam u u.heap.size (fun _ => .slice none 0 0) (fun _ => []) := ⟨fun i => World.ownsRow_nil _ _ _ _, fun i j _ => .inl rfl, Nat.le_refl _⟩
theorem Fam.later {u u' : World} {base : Nat} {fv : Nat → Value} {fl : Nat → List Int} (h : Fam u base fv fl) (hB : Below u.heap.size u u') : Fam u' base fv fl := ⟨fun i => own_later (h.row i) hB, h.ap, Nat.le_trans h.top hB.size⟩
/-- A store elsewhere. -/
theorem Fam.aside {u : World} {base : Nat} {fv : Nat → Value} {fl : Nat → List Int} (h : Fam u base fv fl) {b i : Nat} {v : Value} (hb : b < base) : Fam (u.setCell ⟨b, i, none⟩ v) base fv fl := ⟨fun i => ownsRow_newer (h.row i) hb, h.ap, by rw [size_setCell]; exact h.top⟩
/-- A row more, in new memory. -/
theorem Fam.add {u u' : World} {base : Nat} {fv : Nat → Value} {fl : Nat → List Int} (h : Fam u base fv fl) (hB : Below u.heap.size u u') (i : Nat) {v : Value} {l : List Int} (ho : u'.ownsRow u.heap.size 3 1 v l.length (l.map (.int .i64 ·))) : Fam u' base (updF fv i v) (updF fl i l) := by
  have hv : ∀ j, Apart (fv j) v := fun j => by
    by_cases hn : (fv j).ownBlock = none
    · exact .inl hn
    · refine .inr fun e => ?_
      rcases hg : (fv j).ownBlock with _ | g
      · exact hn hg
      · have h1 := (own_lt (h.row j) g hg).1
        have h2 := (own_lt ho g (e.symm.trans hg)).2
        omega
  refine ⟨fun j => ?_, fun j k hjk => ?_, Nat.le_trans h.top hB.size⟩
  · by_cases e : j = i
    · subst e; rw [updF_same, updF_same]; exact own_base ho h.top
    · rw [updF_ne _ _ e, updF_ne _ _ e]; exact own_later (h.row j) hB
  · by_cases e : j = i
    · subst e
      rw [updF_same, updF_ne _ _ (fun x => hjk x.symm)]
      exact (hv k).symm
    · rw [updF_ne _ _ e]
      by_cases e2 : k = i
      · subst e2; rw [updF_same]; exact hv j
      · rw [updF_ne _ _ e2]; exact h.ap j k hjk
/-- A number of a row. -/
theorem Fam.cell {u : World} {base : Nat} {fv : Nat → Value} {fl : Nat → List Int} (h : Fam u base fv fl) {i k : Nat} {x : Int} (hx : (fl i)[k]? = some x) : ∃ g cap, fv i = .slice (some ⟨g, 0, none⟩) (fl i).length cap ∧ base ≤ g ∧ g < u.heap.size ∧ u.cell? ⟨g, k, none⟩ = some (.int .i64 x) ∧ u.frozen? ⟨g, k, none⟩ = false := by
  obtain ⟨a, cap, e, hc⟩ := own_cells (h.row i)
  obtain ⟨g, rfl, h1, h2, h3⟩ := hc k x hx
  refine ⟨g, cap, e, h1, h2, h3, ?_⟩
  rcases (h.row i).2 with ⟨h0, _⟩ | ⟨g', cap', cur, e', _, hh, _⟩
  · rw [e] at h0; cases h0
  · rw [e] at e'; cases e'
    exact frozen_of_row _ _ _ _ _ hh
/-- A number of a row is put. -/
theorem Fam.put {u : World} {base : Nat} {fv : Nat → Value} {fl : Nat → List Int} (h : Fam u base fv fl) {i k g cap : Nat} (e : fv i = .slice (some ⟨g, 0, none⟩) (fl i).length cap) (hk : k < (fl i).length) (y : Int) : Fam (u.setCell ⟨g, k, none⟩ (.int .i64 y)) base fv (updF fl i ((fl i).set k y)) := by
  have hgo : (fv i).ownBlock = some g := by rw [e]; rfl
  refine ⟨fun j => ?_, h.ap, by rw [size_setCell]; exact h.top⟩
  by_cases ej : j = i
  · subst ej
    rw [updF_same]
    rcases (h.row j).2 with ⟨h0, _⟩ | ⟨g', cap', cur, e', hb, hh, hle, hcap, hsz, ht⟩
    · rw [e] at h0; cases h0
    · have e3 := e
      rw [e'] at e3; cases e3
      refine ⟨by simp, .inr ⟨g, cap, cur.setIfInBounds k (.int .i64 y), by rw [e, List.length_set], hb, stSet_block _ _ _ _ hh, by rw [List.length_set]; exact hle, hcap, by simpa using hsz, ?_⟩⟩
      rw [List.length_set, Array.toList_setIfInBounds, List.take_set, ht, List.map_set]
  · rw [updF_ne _ _ ej]
    refine own_touch (X := fun x => x = g) (h.row j) ((Touch.of_below (Below.refl _ _)).set rfl) ?_
    intro x hx ex
    subst ex
    exact apart_ne (h.ap j i ej) hx hgo
theorem Fam.touch {X : Nat → Prop} {u u' : World} {base : Nat} {fv : Nat → Value} {fl : Nat → List Int} (h : Fam u base fv fl) (T : Touch X u u') (hX : ∀ i g, (fv i).ownBlock = some g → ¬ X g) : Fam u' base fv fl := ⟨fun i => own_touch (h.row i) T (hX i), h.ap, Nat.le_trans h.top T.size⟩
end Go.Proofs.YtglafbajbiengaaGreat
