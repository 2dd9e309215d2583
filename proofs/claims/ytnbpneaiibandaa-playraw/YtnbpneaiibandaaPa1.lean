/- What the laws of this seat stand on, part 1. -/
import Derived.Test.YtnbpneaiibandaaPa0
set_option linter.unusedVariables false
set_option linter.unusedSimpArgs false
set_option maxRecDepth 100000
set_option maxHeartbeats 40000000
namespace Go.Proofs.Ytnbpneaiibandaa
open Go.ChangeShapes Go.WideShapes Go.ChangeAt Go.RowKit
theorem law_own : ownKnob Try.prog.godebug = none := by kernel_rfl
theorem law_laidOut : laidOutB Try.prog = true := by kernel_rfl
/-- A slice at address a holds the numbers l, in a block below B. -/
def RowOf (k : IntKind) (w : World) (B : Nat) (a : Option Addr) (l : List Int) : Prop :=
  ∀ i x, l[i]? = some x → ∃ b off, a = some ⟨b, off, none⟩ ∧ b < B ∧ w.cell? ⟨b, off + i, none⟩ = some (.int k x)
/-- A slice of integers that came in: its numbers, each of its kind, in a block that lies. -/
structure SliceIn (k : IntKind) (w : World) (a : Option Addr) (len cap : Nat) (l : List Int) : Prop where
  len_eq : len = l.length
  len_le : len ≤ cap
  cap_le : cap ≤ maxLen
  row : RowOf k w w.heap.size a l
  fit : ∀ n ∈ l, (Lit.int k n).wf = true
theorem SliceIn.nil (k : IntKind) (w : World) : SliceIn k w none 0 0 [] := ⟨rfl, Nat.le_refl _, Nat.zero_le _, fun i x h => by simp at h, fun n h => by simp at h⟩
theorem cell_lt {w : World} {b o : Nat} {v : Value} (h : w.cell? ⟨b, o, none⟩ = some v) : b < w.heap.size := by
  rcases Nat.lt_or_ge b w.heap.size with hlt | hge
  · exact hlt
  · simp [World.cell?, Array.getElem?_eq_none hge] at h
theorem SliceIn.of {k : IntKind} {w : World} {x : Addr} {len cap : Nat} {zs : List Int} (hl : len ≤ cap) (hm : cap ≤ maxLen) (hz : zs.length = cap)
    (hcell : ∀ i, i < zs.length → w.cell? (x.add i) = some (.int k (zs.getD i 0))) (hwz : ∀ n ∈ zs, (Lit.int k n).wf = true) : SliceIn k w (some x) len cap (zs.take len) := by
  refine ⟨by simp; omega, hl, hm, fun i y hy => ?_, fun n hn => hwz n (List.mem_of_mem_take hn)⟩
  have hi : i < len := by
    rcases Nat.lt_or_ge i len with h | h
    · exact h
    · rw [List.getElem?_eq_none (by simp; omega)] at hy; cases hy
  obtain ⟨b, off, rfl, hc⟩ := ints_at hcell (by omega)
  have := hc i (by omega)
  rw [List.getElem?_take_of_lt hi, List.getElem?_eq_getElem (by omega)] at hy
  have e : zs.getD i 0 = y := by
    rw [List.getD_eq_getElem?_getD, List.getElem?_eq_getElem (by omega)]
    exact Option.some.inj hy
  rw [e] at this
  exact ⟨b, off, rfl, cell_lt this, this⟩
theorem below_next {w w1 w2 : World} (h : Below w.heap.size w w1) (k : Below w1.heap.size w1 w2) : Below w.heap.size w w2 := h.trans (k.mono h.size)
theorem below_new {w w1 : World} (h : Below w.heap.size w w1) (o : Obj) : Below w.heap.size w (w1.alloc o) := h.alloc h.size o
theorem below_draws {B : Nat} {w w1 : World} (h : Below B w w1) (n : Nat) : Below B w (w1.drewN n) := ⟨h.os, h.tape, h.output, h.size, h.block⟩
end Go.Proofs.Ytnbpneaiibandaa
namespace Go.Proofs.Ytnbpneaiibandaa
/-- Two to the power of 64, behind a name. -/
def U : Nat := 18446744073709551616
theorem ret_bool {a b : Bool} (h : a = b) : Ending.returned (.bool a) = .returned (.bool b) := by rw [h]
theorem ret_int {k : IntKind} {a b : Int} (h : a = b) : Ending.returned (.int k a) = .returned (.int k b) := by rw [h]
end Go.Proofs.Ytnbpneaiibandaa
namespace Go.Proofs.Ytnbpneaiibandaa
open Go.RowKit Go.Shelf
attribute [local go_sem] Oper.semAt_some
/-- What a round of the caller must keep: the box in which the set lies. -/
def KeepsBox (B : Nat) (W W' : World) : Prop := W'.heap[B]? = W.heap[B]?
theorem KeepsBox.trans {B : Nat} {X Y Z : World} (h : KeepsBox B X Y) (k : KeepsBox B Y Z) : KeepsBox B X Z := Eq.trans k h
end Go.Proofs.Ytnbpneaiibandaa
namespace Go.Proofs.Ytnbpneaiibandaa
open Go.RowKit
theorem RowOf.nil (k : IntKind) (w : World) (B : Nat) (a : Option Addr) : RowOf k w B a [] := fun i x h => by simp at h
theorem RowOf.below {k : IntKind} {w w' : World} {B : Nat} {a : Option Addr} {l : List Int} (h : RowOf k w B a l) (hb : Below B w w') : RowOf k w' B a l := fun i x hx => by
  obtain ⟨b, off, rfl, hlt, hc⟩ := h i x hx
  exact ⟨b, off, rfl, hlt, (hb.cell (p := ⟨b, off + i, none⟩) hlt).trans hc⟩
theorem RowOf.more {k : IntKind} {w : World} {B B' : Nat} {a : Option Addr} {l : List Int} (h : RowOf k w B a l) (hb : B ≤ B') : RowOf k w B' a l := fun i x hx => by
  obtain ⟨b, off, rfl, hlt, hc⟩ := h i x hx
  exact ⟨b, off, rfl, by omega, hc⟩
theorem RowOf.own {k : IntKind} {w : World} {base : Nat} {e : TypeId} {v : Value} {n : Nat} {l : List Int} (h : w.ownsRow base e 1 v n (l.map (Value.int k))) :
    ∃ a cap, v = .slice a n cap ∧ n = l.length ∧ RowOf k w w.heap.size a l := by
  have hl : l.length = n := by have := h.1; simpa using this
  rcases h.2 with ⟨rfl, hn⟩ | ⟨g, cap, cur, rfl, hg, hh, hn, hcap, hsz, htake⟩
  · subst hn
    obtain rfl : l = [] := List.eq_nil_of_length_eq_zero hl
    exact ⟨none, 0, rfl, rfl, RowOf.nil _ _ _ _⟩
  · refine ⟨some ⟨g, 0, none⟩, cap, rfl, hl.symm, fun i x hx => ⟨g, 0, rfl, (Array.getElem?_eq_some_iff.1 hh).1, ?_⟩⟩
    have hi : i < l.length := by
      rcases Nat.lt_or_ge i l.length with h | h
      · exact h
      · rw [List.getElem?_eq_none h] at hx; cases hx
    rw [Nat.zero_add, h.cellAt i (by omega), List.getElem?_map, hx]
    rfl
theorem Same.len (l m : List Int) (h : l = m) : l.length = m.length := by rw [h]
/-- A row of the table: the name, what A, B and C are, plain, acquire, release. -/
structure Row where
  name : ByteArray
  a : Int
  b : Int
  c : Int
  plain : Bool
  acq : Bool
  rel : Bool
def Row.cells (r : Row) : List Value := [.string r.name, .int .u8 r.a, .int .u8 r.b, .int .u8 r.c, .bool r.plain, .bool r.acq, .bool r.rel]
/-- The table. -/
def tab : List Row := [
  ⟨⟨#[110, 111, 112]⟩, 0, 0, 0, true, false, false⟩,
  ⟨⟨#[99, 111, 110, 115, 116]⟩, 1, 3, 0, true, false, false⟩,
  ⟨⟨#[109, 111, 118, 101]⟩, 1, 2, 0, true, false, false⟩,
  ⟨⟨#[97, 100, 100]⟩, 1, 2, 2, true, false, false⟩,
  ⟨⟨#[115, 117, 98]⟩, 1, 2, 2, true, false, false⟩,
  ⟨⟨#[109, 117, 108]⟩, 1, 2, 2, true, false, false⟩,
  ⟨⟨#[108, 101, 115, 115]⟩, 1, 2, 2, true, false, false⟩,
  ⟨⟨#[108, 111, 97, 100]⟩, 1, 6, 0, true, false, false⟩,
  ⟨⟨#[115, 116, 111, 114, 101]⟩, 6, 2, 0, true, false, false⟩,
  ⟨⟨#[112, 114, 105, 110, 116]⟩, 2, 0, 0, false, false, false⟩,
  ⟨⟨#[106, 117, 109, 112]⟩, 4, 0, 0, false, false, false⟩,
  ⟨⟨#[122, 101, 114, 111]⟩, 2, 4, 0, false, false, false⟩,
  ⟨⟨#[103, 111]⟩, 5, 0, 0, false, false, true⟩,
  ⟨⟨#[108, 111, 99, 107]⟩, 8, 0, 0, false, true, false⟩,
  ⟨⟨#[117, 110, 108, 111, 99, 107]⟩, 8, 0, 0, false, false, true⟩,
  ⟨⟨#[114, 108, 111, 99, 107]⟩, 8, 0, 0, false, true, false⟩,
  ⟨⟨#[114, 117, 110, 108, 111, 99, 107]⟩, 8, 0, 0, false, false, true⟩,
  ⟨⟨#[114, 101, 97, 100]⟩, 1, 7, 0, false, true, false⟩,
  ⟨⟨#[119, 114, 105, 116, 101]⟩, 7, 2, 0, false, false, true⟩,
  ⟨⟨#[98, 117, 109, 112]⟩, 1, 7, 2, false, true, true⟩,
  ⟨⟨#[115, 101, 110, 100]⟩, 9, 2, 0, false, true, true⟩,
  ⟨⟨#[114, 101, 99, 118]⟩, 1, 9, 0, false, true, true⟩,
  ⟨⟨#[112, 111, 108, 108]⟩, 1, 9, 1, false, true, true⟩,
  ⟨⟨#[99, 108, 111, 115, 101]⟩, 9, 0, 0, false, false, true⟩,
  ⟨⟨#[103, 114, 111, 119]⟩, 10, 3, 0, false, false, true⟩,
  ⟨⟨#[119, 97, 105, 116]⟩, 10, 0, 0, false, true, false⟩,
  ⟨⟨#[98, 101, 103, 105, 110]⟩, 1, 11, 0, false, true, false⟩,
  ⟨⟨#[101, 110, 100]⟩, 11, 0, 0, false, false, true⟩]
def noRow : Row := ⟨⟨#[]⟩, 0, 0, 0, false, false, false⟩
/-- The row of an instruction; a row of nothing, if the table has none. -/
def rowAt (op : Nat) : Row := tab.getD op noRow
def tabCells : List Value := tab.flatMap Row.cells
theorem info_row : (Try.prog.info? 179).map (·.size) = some 7 := by kernel_rfl
/-- A build whose cells are given. -/
theorem wpList_build_as {P : Program} {ops : Array Oper} {rest : List Oper} {o : Oper} {a : Act} {w : World} {Q : Exit → Act → World → Prop} (hg : o.guard = none) (t : TypeId) (parts : Array (Nat × Operand)) (ho : o.op = .build t parts)
    (cells : Array Value) (hc : P.built t (parts.map fun (i, x) => (i, a.eval x)).toList = some cells)
    (h : wpList P ops Q rest (a.put o.dst (.agg cells)) w) : wpList P ops Q (o :: rest) a w :=
  wpList_build hg t parts ho (by rw [hc]; rfl) (by rw [hc]; exact h)
def zeroTab : Array Value := ((List.replicate 28 noRow.cells).flatten).toArray
theorem zero_tab (u : World) : (zeroValue 190).run Try.prog u = .ok (.agg zeroTab) u := by
  have h : (Try.prog.info? 190).map (·.zero) = some (some (.agg zeroTab)) := by kernel_rfl
  cases hq : Try.prog.info? 190 with
  | none => simp [hq] at h
  | some i =>
    have h2 : i.zero = some (.agg zeroTab) := by simpa [hq] using h
    simp [zeroValue, typeInfo, hq, h2]
theorem size_zeroTab : zeroTab.size = tabCells.toArray.size := by kernel_rfl
theorem one_tab : tabCells.toArray.all (·.oneCell') = true := by kernel_rfl
theorem size_tab : (Try.prog.info? 190).map (·.size) = some tabCells.toArray.size := by kernel_rfl
theorem below_setRow {B : Nat} {a w : World} (h : Below B a w) {g : Nat} (hg : B ≤ g) (cs : Array Value) : Below B a (w.setRow g cs) :=
  h.trans ⟨rfl, rfl, rfl, by simp, fun k hk => setRow_other _ _ _ _ (by omega)⟩
theorem table_any (w : World) :
    Calls Try.prog 135 #[] w fun e w' => e = .returned (.agg tabCells.toArray) ∧ Below w.heap.size w w' := by
  have hz := zero_tab w
  go_enter Try.func135, Try.ntmps135
  go_wp2_with (first
    | (refine wpList_build_as rfl 190 _ rfl tabCells.toArray (by kernel_rfl) ?_)
    | (refine wpList_store_row rfl 190 (.tmp 0) (.tmp 56) rfl w.heap.size tabCells.toArray rfl rfl 190 zeroTab (heap_alloc_new _ _) size_tab size_zeroTab one_tab ?_))
  refine bodyPost_ret (v := .agg tabCells.toArray) (results_cell_row rfl _ _ w.heap.size 190 tabCells.toArray (0, 0) _ rfl (setRow_heap _ _ zeroTab _ _ _ (heap_alloc_new _ _)) Try.underlying190 rfl size_tab) rfl ⟨rfl, ?_⟩
  exact below_setRow ((Below.refl _ _).alloc (Nat.le_refl _) _) (Nat.le_refl _) _
theorem cut_tab : (List.range 28).map (fun k => List.take 7 (List.drop (k * 7) tabCells)) = (List.range 28).map (fun k => (rowAt k).cells) := by kernel_rfl
theorem cut_at (k : Nat) (h : k < 28) : List.take 7 (List.drop (k * 7) tabCells) = (rowAt k).cells := by
  have := congrArg (fun l => l[k]?) cut_tab
  simpa [h] using this
theorem run_index_tab (kd : IntKind) (k : Nat) (h : k < 28) (u : World) : (Instr.index 190 (.agg tabCells.toArray) (.int kd k)).run Try.prog u = .ok (.agg (rowAt k).cells.toArray) u := by
  have h1 : (k : Int) < 28 := by omega
  simp [Instr.index, asIntOf, run_underlying Try.underlying190, h1]
  rw [if_pos h]
  simp [part, cut_at k h]
theorem rowAt_out (k : Nat) (h : 28 ≤ k) : rowAt k = noRow := by
  unfold rowAt
  rw [List.getD_eq_getElem?_getD, List.getElem?_eq_none (by simpa [tab] using h)]; rfl
/-- A row as a value. -/
def Row.val (r : Row) : Value := .agg #[.string r.name, .int .u8 r.a, .int .u8 r.b, .int .u8 r.c, .bool r.plain, .bool r.acq, .bool r.rel]
theorem row_size (r : Row) : (Try.prog.info? 179).map (·.size) = some r.cells.toArray.size := info_row
theorem row_one_cells (r : Row) : r.cells.toArray.all (·.oneCell') = true := by simp [Row.cells, Value.oneCell']
/-- A block that was new when a call began. -/
theorem kept_new {w w1 : World} {o : Obj} (h : Below (w.alloc o).heap.size (w.alloc o) w1) : w1.heap[w.heap.size]? = some o := (h.block _ (by simp)).trans (heap_alloc_new _ _)
theorem of_in (k : Nat) (w : World) (h : k < 28) :
    Calls Try.prog 128 #[.int .u8 k] w fun e w' => e = .returned (rowAt k).val ∧ Below w.heap.size w w' := by
  have hd : decide ((28 : Int) ≤ (k : Int)) = false := by simp; omega
  have hi := run_index_tab .u8 k h
  go_enter Try.func128, Try.ntmps128
  go_wp2_with (first
    | (go_at_call 135; refine (table_any _).mono ?_; rintro e w1 ⟨rfl, hB1⟩)
    | (refine wpList_store_row rfl 179 (.tmp 2) (.tmp 8) rfl w.heap.size (rowAt k).cells.toArray rfl rfl 179 _ (kept_new hB1) (row_size _) rfl (row_one_cells _) ?_))
  refine bodyPost_ret (v := (rowAt k).val) (results_cell_row rfl _ _ w.heap.size 179 (rowAt k).cells.toArray (0, 0) _ rfl (setRow_heap _ _ _ _ _ _ (kept_new hB1)) Try.underlying179 rfl (row_size _)) rfl ⟨rfl, ?_⟩
  exact below_setRow (((Below.refl _ _).alloc (Nat.le_refl _) _).trans (hB1.mono (by simp))) (Nat.le_refl _) _
theorem of_out (k : Nat) (w : World) (h : 28 ≤ k) :
    Calls Try.prog 128 #[.int .u8 k] w fun e w' => e = .returned (rowAt k).val ∧ Below w.heap.size w w' := by
  have hd : decide ((28 : Int) ≤ (k : Int)) = true := by simp; omega
  rw [rowAt_out k h]
  go_enter Try.func128, Try.ntmps128
  go_wp2_with (first
    | (refine wpList_store_row rfl 179 (.tmp 2) (.tmp 5) rfl w.heap.size noRow.cells.toArray rfl rfl 179 _ (heap_alloc_new _ _) (row_size _) rfl (row_one_cells _) ?_))
  refine bodyPost_ret (v := noRow.val) (results_cell_row rfl _ _ w.heap.size 179 noRow.cells.toArray (0, 0) _ rfl (setRow_heap _ _ _ _ _ _ (heap_alloc_new _ _)) Try.underlying179 rfl (row_size _)) rfl ⟨rfl, ?_⟩
  exact below_setRow ((Below.refl _ _).alloc (Nat.le_refl _) _) (Nat.le_refl _) _
theorem of_any (k : Nat) (w : World) :
    Calls Try.prog 128 #[.int .u8 k] w fun e w' => e = .returned (rowAt k).val ∧ Below w.heap.size w w' := by
  rcases Nat.lt_or_ge k 28 with h | h
  · exact of_in k w h
  · exact of_out k w h
/-- The same, the row laid open. -/
theorem of_row (k : Nat) (w : World) :
    Calls Try.prog 128 #[.int .u8 k] w fun e w' => e = .returned (.agg #[.string (rowAt k).name, .int .u8 (rowAt k).a, .int .u8 (rowAt k).b, .int .u8 (rowAt k).c, .bool (rowAt k).plain, .bool (rowAt k).acq, .bool (rowAt k).rel]) ∧ Below w.heap.size w w' := of_any k w
theorem field_abc (r : Row) (u : World) : (Instr.field 179 (.agg #[.string r.name, .int .u8 r.a, .int .u8 r.b, .int .u8 r.c, .bool r.plain, .bool r.acq, .bool r.rel]) 1).run Try.prog u = .ok (.agg #[.int .u8 r.a, .int .u8 r.b, .int .u8 r.c]) u := by kernel_rfl
/-- The number at a place of A, B, C. -/
def Row.at (r : Row) (k : Nat) : Int := if k = 0 then r.a else if k = 1 then r.b else r.c
/-- An instruction. -/
structure InsD where
  op : Nat
  a : Int
  b : Int
  c : Int
def InsD.at (x : InsD) (k : Nat) : Int := if k = 0 then x.a else if k = 1 then x.b else x.c
theorem ins_0 (x : InsD) (u : World) : (Instr.index 128 (.agg #[.int .i64 x.a, .int .i64 x.b, .int .i64 x.c]) (.int .i64 0)).run Try.prog u = .ok (.int .i64 x.a) u := by kernel_rfl
theorem ins_1 (x : InsD) (u : World) : (Instr.index 128 (.agg #[.int .i64 x.a, .int .i64 x.b, .int .i64 x.c]) (.int .i64 1)).run Try.prog u = .ok (.int .i64 x.b) u := by kernel_rfl
theorem ins_2 (x : InsD) (u : World) : (Instr.index 128 (.agg #[.int .i64 x.a, .int .i64 x.b, .int .i64 x.c]) (.int .i64 2)).run Try.prog u = .ok (.int .i64 x.c) u := by kernel_rfl
theorem ins_at (x : InsD) (k : Nat) (h : k < 3) (u : World) : (Instr.index 128 (.agg #[.int .i64 x.a, .int .i64 x.b, .int .i64 x.c]) (.int .i64 k)).run Try.prog u = .ok (.int .i64 (x.at k)) u := by
  obtain rfl | rfl | rfl : k = 0 ∨ k = 1 ∨ k = 2 := by omega
  · exact ins_0 x u
  · exact ins_1 x u
  · exact ins_2 x u
theorem numbers_any (op a b c : Int) (w : World) :
    Calls Try.prog 129 #[.agg #[.int .u8 op, .int .i64 a, .int .i64 b, .int .i64 c]] w fun e w' => e = .returned (.agg #[.int .i64 a, .int .i64 b, .int .i64 c]) ∧ Below w.heap.size w w' := by
  go_enter Try.func129, Try.ntmps129
  go_wp2
  refine bodyPost_ret (v := .agg #[.int .i64 a, .int .i64 b, .int .i64 c]) (by simp [results, Try.results129, go_sem]) rfl ⟨rfl, ?_⟩
  exact ((Below.refl _ _).alloc (Nat.le_refl _) _).alloc (by simp) _
theorem cells4 {w : World} {g : Nat} {a b c d : Value} {t : TypeId} {fr : Nat × Nat} (h : w.heap[g]? = some (.cells #[a, b, c, d] t fr)) :
    w.cell? ⟨g, 0, none⟩ = some a ∧ w.cell? ⟨g, 1, none⟩ = some b ∧ w.cell? ⟨g, 2, none⟩ = some c ∧ w.cell? ⟨g, 3, none⟩ = some d :=
  ⟨cell_of_row w g 0 _ _ _ h, cell_of_row w g 1 _ _ _ h, cell_of_row w g 2 _ _ _ h, cell_of_row w g 3 _ _ _ h⟩
theorem abc_cell {w : World} {g : Nat} {r : Row} {t : TypeId} {fr : Nat × Nat} (h : w.heap[g]? = some (.cells #[.int .u8 r.a, .int .u8 r.b, .int .u8 r.c] t fr)) (k : Nat) (hk : k < 3) :
    w.cell? ⟨g, k, none⟩ = some (.int .u8 (r.at k)) := by
  rw [cell_of_row w g k _ _ _ h]
  obtain rfl | rfl | rfl : k = 0 ∨ k = 1 ∨ k = 2 := by omega
  · rfl
  · rfl
  · rfl
theorem at_lt {α : Type} {l : List α} {k : Nat} (h : k < l.length) : ∃ x, l[k]? = some x := ⟨l[k], List.getElem?_eq_getElem h⟩
/-- Is n from lo to hi? -/
def wiB (n lo hi : Int) : Bool := decide (lo ≤ n) && decide (n ≤ hi)
theorem wiB_true {n lo hi : Int} : wiB n lo hi = true ↔ lo ≤ n ∧ n ≤ hi := by simp [wiB]
theorem wiB_false {n lo hi : Int} : wiB n lo hi = false ↔ ¬ (lo ≤ n ∧ n ≤ hi) := by simp [wiB]
theorem within_any (n lo hi : Int) (w : World) :
    Calls Try.prog 104 #[.int .i64 n, .int .i64 lo, .int .i64 hi] w fun e w' => e = .returned (.bool (wiB n lo hi)) ∧ w = w' := by
  by_cases h : lo ≤ n
  · have H := Lib.hid (show decide (n ≤ hi) = wiB n lo hi by simp [wiB, h])
    go_enter Try.func104, Try.ntmps104
    go_wp2
    go_ret
    exact ⟨ret_bool H.out, rfl⟩
  · have hd : decide (lo ≤ n) = false := by simp; omega
    have H := Lib.hid (show false = wiB n lo hi by simp [wiB, h])
    go_enter Try.func104, Try.ntmps104
    go_wp2
    go_ret
    exact ⟨ret_bool H.out, rfl⟩
theorem within_yes (n lo hi : Int) (w : World) (h : wiB n lo hi = true) :
    Calls Try.prog 104 #[.int .i64 n, .int .i64 lo, .int .i64 hi] w fun e w' => e = .returned (.bool true) ∧ w = w' := by
  have := within_any n lo hi w; rwa [h] at this
theorem within_no (n lo hi : Int) (w : World) (h : wiB n lo hi = false) :
    Calls Try.prog 104 #[.int .i64 n, .int .i64 lo, .int .i64 hi] w fun e w' => e = .returned (.bool false) ∧ w = w' := by
  have := within_any n lo hi w; rwa [h] at this
/-- e, if what must be so is not. -/
def unE (b : Bool) (e : Int) : Int := if b then 0 else e
theorem unless_any (b : Bool) (e : Int) (w : World) :
    Calls Try.prog 89 #[.bool b, .int .u16 e] w fun en w' => en = .returned (.int .u16 (unE b e)) ∧ w = w' := by
  cases b
  · go_enter Try.func89, Try.ntmps89
    go_wp2
    go_ret
    exact ⟨rfl, rfl⟩
  · go_enter Try.func89, Try.ntmps89
    go_wp2
    go_ret
    exact ⟨rfl, rfl⟩
/-- The first error of a row. -/
def firstE : List Int → Int
  | [] => 0
  | e :: r => if e = 0 then firstE r else e
/-- A value is a function of no arguments that returns e, from whatever world in which what lay lies as it lay. -/
def CallsTo (w0 : World) (f : Value) (e : Int) : Prop :=
  ∃ fn caps, f = .func (.func fn) #[] caps ∧ (∀ u, (callFunc fn caps).run Try.prog u = .ok (.enter fn caps) u) ∧ ∀ w, Below w0.heap.size w0 w → Calls Try.prog fn caps w fun en w' => en = .returned (.int .u16 e) ∧ Below w.heap.size w w'
theorem firstE_all {l : List Int} (h : ∀ e ∈ l, e = 0) : firstE l = 0 := by
  induction l with
  | nil => rfl
  | cons a r ih => unfold firstE; rw [if_pos (h a (by simp))]; exact ih fun e he => h e (by simp [he])
theorem firstE_at {l : List Int} : ∀ {k : Nat} {e : Int}, l[k]? = some e → e ≠ 0 → (∀ (j : Nat) (x : Int), j < k → l[j]? = some x → x = 0) → firstE l = e := by
  induction l with
  | nil => intro k e h; simp at h
  | cons a r ih =>
    intro k e h hne hz
    cases k with
    | zero => simp at h; subst h; unfold firstE; rw [if_neg hne]
    | succ k =>
      unfold firstE
      rw [if_pos (hz 0 a (by omega) rfl)]
      exact ih (by simpa using h) hne fun j x hj hx => hz (j + 1) x (by omega) (by simpa using hx)
theorem first_any (fs : List Value) (es : List Int) (a : Option Addr) (cap : Nat) (w : World) (hlen : fs.length = es.length) (hmax : fs.length ≤ 1000)
    (hrow : ∀ (i : Nat) (f : Value), fs[i]? = some f → ∃ b off, a = some ⟨b, off, none⟩ ∧ b < w.heap.size ∧ w.cell? ⟨b, off + i, none⟩ = some f)
    (hc : ∀ (i : Nat) (f : Value) (e : Int), fs[i]? = some f → es[i]? = some e → (∀ (j : Nat) (x : Int), j < i → es[j]? = some x → x = 0) → CallsTo w f e) :
    Calls Try.prog 87 #[.slice a fs.length cap] w fun e w' => e = .returned (.int .u16 (firstE es)) ∧ Below w.heap.size w w' := by
  have HL := Lib.hid hlen
  have HR := Lib.hid hrow
  have HC := Lib.hid hc
  clear hlen hrow hc
  go_enter Try.func87, Try.ntmps87
  go_wp2
  go_loopw [8] (fun i wr => ∃ k : Nat, k ≤ fs.length ∧ i = .int .i64 k ∧ Below w.heap.size w wr ∧ Hid (∀ (j : Nat) (x : Int), j < k → es[j]? = some x → x = 0)) (fun i _ => fs.length - (intOf i).toNat)
  case atStart => exact ⟨0, Nat.zero_le _, rfl, Below.refl _ _, Lib.hid (fun j x hj => by omega)⟩
  case round =>
    obtain ⟨k, hk, rfl, hB, HZ⟩ := hrel
    by_cases hlt : k < fs.length
    · obtain ⟨f, hf⟩ := at_lt hlt
      obtain ⟨e, he⟩ := at_lt (l := es) (k := k) (by rw [← HL.out]; exact hlt)
      obtain ⟨b, off, rfl, hb, hcell⟩ := HR.out k f hf
      obtain ⟨fn, caps, rfl, hfn, hcall⟩ := HC.out k f e hf he HZ.out
      have hcell' := (hB.cell (p := ⟨b, off + k, none⟩) hb).trans hcell
      have HE := Lib.hid he
      have HCall := Lib.hid (hcall wr hB)
      clear hf he hcell hcall
      by_cases hz : e = 0
      · subst hz
        go_wp2_with fail
        refine (HCall.out).mono ?_
        rintro e w1 ⟨rfl, hB1⟩
        go_wp2
        go_roundw
        case rel => exact ⟨k + 1, by omega, by go_num, below_next hB hB1, Lib.hid (fun j x hj hx => by
          by_cases e : j = k
          · subst e; have := HE.out; rw [this] at hx; exact (Option.some.inj hx).symm
          · exact HZ.out j x (by omega) hx)⟩
        case measure => simp [intOf]; omega
      · have hz' : (e != 0) = true := by simp [hz]
        have HF := Lib.hid (firstE_at HE.out hz HZ.out)
        clear hz
        go_wp2_with fail
        refine (HCall.out).mono ?_
        rintro e' w1 ⟨rfl, hB1⟩
        go_wp2
        go_ret
        exact ⟨ret_int HF.out.symm, below_next hB hB1⟩
    · obtain rfl : k = fs.length := by omega
      go_wp2
      go_ret
      exact ⟨ret_int (firstE_all fun x hx => by
        obtain ⟨j, hj⟩ := List.getElem?_of_mem hx
        exact HZ.out j x (by have := (List.getElem?_eq_some_iff.1 hj).1; rw [HL.out]; exact this) hj).symm, hB⟩
/-- A program. -/
structure ProgD where
  vars : Int
  atoms : Int
  locks : Int
  chans : List Int
  groups : Int
  onces : Int
  threads : List (List InsD)
/-- An instruction lies at a place. -/
def InsAt (w : World) (b o : Nat) (x : InsD) : Prop :=
  w.cell? ⟨b, o, none⟩ = some (.int .u8 x.op) ∧ w.cell? ⟨b, o + 1, none⟩ = some (.int .i64 x.a) ∧ w.cell? ⟨b, o + 2, none⟩ = some (.int .i64 x.b) ∧ w.cell? ⟨b, o + 3, none⟩ = some (.int .i64 x.c)
/-- Instructions lie at an address, in a block below B. -/
def CodeIn (w : World) (B : Nat) (a : Option Addr) (code : List InsD) : Prop :=
  ∀ (k : Nat) (x : InsD), code[k]? = some x → ∃ b off, a = some ⟨b, off, none⟩ ∧ b < B ∧ InsAt w b (off + k * 4) x
/-- Threads lie at an address, in blocks below B. -/
def ThreadsIn (w : World) (B : Nat) (a : Option Addr) (ts : List (List InsD)) : Prop :=
  ∀ (k : Nat) (c : List InsD), ts[k]? = some c → ∃ b off, a = some ⟨b, off, none⟩ ∧ b < B ∧ ∃ a' cap', w.cell? ⟨b, off + k, none⟩ = some (.slice a' c.length cap') ∧ CodeIn w B a' c
theorem InsAt.below {w w' : World} {B b o : Nat} {x : InsD} (h : InsAt w b o x) (hb : b < B) (hB : Below B w w') : InsAt w' b o x :=
  ⟨(hB.cell (p := ⟨b, o, none⟩) hb).trans h.1, (hB.cell (p := ⟨b, o + 1, none⟩) hb).trans h.2.1, (hB.cell (p := ⟨b, o + 2, none⟩) hb).trans h.2.2.1, (hB.cell (p := ⟨b, o + 3, none⟩) hb).trans h.2.2.2⟩
theorem CodeIn.below {w w' : World} {B : Nat} {a : Option Addr} {c : List InsD} (h : CodeIn w B a c) (hB : Below B w w') : CodeIn w' B a c := fun k x hx => by
  obtain ⟨b, off, rfl, hb, hi⟩ := h k x hx
  exact ⟨b, off, rfl, hb, hi.below hb hB⟩
theorem ThreadsIn.below {w w' : World} {B : Nat} {a : Option Addr} {ts : List (List InsD)} (h : ThreadsIn w B a ts) (hB : Below B w w') : ThreadsIn w' B a ts := fun k c hc => by
  obtain ⟨b, off, rfl, hb, a', cap', h1, h2⟩ := h k c hc
  exact ⟨b, off, rfl, hb, a', cap', (hB.cell (p := ⟨b, off + k, none⟩) hb).trans h1, h2.below hB⟩
/-- What a program's value leads to lies below B. -/
structure ProgIn (w : World) (B : Nat) (p : ProgD) (ca ta : Option Addr) : Prop where
  chans : RowOf .i64 w B ca p.chans
  threads : ThreadsIn w B ta p.threads
  clen : p.chans.length ≤ 9223372036854775807
  tlen : p.threads.length ≤ 9223372036854775807
theorem ProgIn.below {w w' : World} {B : Nat} {p : ProgD} {ca ta : Option Addr} (h : ProgIn w B p ca ta) (hB : Below B w w') : ProgIn w' B p ca ta := ⟨h.chans.below hB, h.threads.below hB, h.clen, h.tlen⟩
/-- A program's value. -/
abbrev ProgD.val (p : ProgD) (ca : Option Addr) (ccap : Nat) (ta : Option Addr) (tcap : Nat) : Value :=
  .agg #[.int .i64 p.vars, .int .i64 p.atoms, .int .i64 p.locks, .slice ca p.chans.length ccap, .int .i64 p.groups, .int .i64 p.onces, .slice ta p.threads.length tcap]
def capsB (l : List Int) : Bool := l.all fun c => wiB c 1 3
theorem capsB_all {l : List Int} (h : ∀ (j : Nat) (x : Int), l[j]? = some x → wiB x 1 3 = true) : capsB l = true := by
  unfold capsB; rw [List.all_eq_true]; intro x hx
  obtain ⟨j, hj⟩ := List.getElem?_of_mem hx
  exact h j x hj
theorem capsB_no {l : List Int} {j : Nat} {x : Int} (h : l[j]? = some x) (hx : wiB x 1 3 = false) : capsB l = false := by
  unfold capsB; rw [List.all_eq_false]; exact ⟨x, List.mem_of_getElem? h, by simp [hx]⟩
theorem capacities_any (l : List Int) (a : Option Addr) (cap B : Nat) (w : World) (hr : RowOf .i64 w B a l) (hl : l.length ≤ 9223372036854775807) :
    Calls Try.prog 92 #[.slice a l.length cap] w fun e w' => e = .returned (.bool (capsB l)) ∧ w = w' := by
  go_enter Try.func92, Try.ntmps92
  go_wp2
  go_loop [7] (fun i => ∃ k : Nat, k ≤ l.length ∧ i = .int .i64 k ∧ Hid (∀ (j : Nat) (x : Int), j < k → l[j]? = some x → wiB x 1 3 = true)) (fun i => l.length - (intOf i).toNat)
  case atStart => exact ⟨0, Nat.zero_le _, rfl, Lib.hid (fun j x hj => by omega)⟩
  case round =>
    obtain ⟨k, hk, rfl, HZ⟩ := hrel
    by_cases hlt : k < l.length
    · obtain ⟨x, hx⟩ := at_lt hlt
      obtain ⟨b, off, rfl, hb, hcell⟩ := hr k x hx
      have HE := Lib.hid hx
      cases hw : wiB x 1 3
      · have HW := Lib.hid hw
        have HF := Lib.hid (capsB_no hx hw)
        clear hx hw
        go_wp2_with (go_at_call 104; refine (within_no _ _ _ _ HW.out).mono ?_; rintro e w' ⟨rfl, rfl⟩)
        go_ret
        exact ⟨ret_bool HF.out.symm, rfl⟩
      · have HW := Lib.hid hw
        clear hx hw
        go_wp2_with (go_at_call 104; refine (within_yes _ _ _ _ HW.out).mono ?_; rintro e w' ⟨rfl, rfl⟩)
        go_round
        case rel => exact ⟨k + 1, by omega, by go_num, Lib.hid (fun j y hj hy => by
          by_cases e : j = k
          · subst e; have := HE.out; rw [this] at hy; cases hy; exact HW.out
          · exact HZ.out j y (by omega) hy)⟩
        case measure => simp [intOf]; omega
    · obtain rfl : k = l.length := by omega
      go_wp2
      go_ret
      exact ⟨ret_bool (capsB_all fun j x hx => HZ.out j x (List.getElem?_eq_some_iff.1 hx).1 hx).symm, rfl⟩
/-- No more of anything than may be. -/
def numsB (p : ProgD) : Bool := wiB p.vars 0 8 && wiB p.atoms 0 4 && wiB p.locks 0 4 && wiB p.groups 0 4 && wiB p.onces 0 4 && wiB p.chans.length 0 4 && wiB p.threads.length 1 6
def longB (ts : List (List InsD)) : Bool := ts.all fun c => decide (c.length ≤ 60)
def sizesB (p : ProgD) : Bool := longB p.threads && numsB p
theorem longB_all {l : List (List InsD)} (h : ∀ (j : Nat) (x : List InsD), l[j]? = some x → x.length ≤ 60) : longB l = true := by
  unfold longB; rw [List.all_eq_true]; intro x hx
  obtain ⟨j, hj⟩ := List.getElem?_of_mem hx
  simpa using h j x hj
theorem longB_no {l : List (List InsD)} {j : Nat} {x : List InsD} (h : l[j]? = some x) (hx : 60 < x.length) : longB l = false := by
  unfold longB; rw [List.all_eq_false]; exact ⟨x, List.mem_of_getElem? h, by simp; omega⟩
theorem sizes_any (p : ProgD) (ca : Option Addr) (ccap : Nat) (ta : Option Addr) (tcap : Nat) (w : World) (hp : ProgIn w w.heap.size p ca ta) :
    Calls Try.prog 90 #[p.val ca ccap ta tcap] w fun e w' => e = .returned (.bool (sizesB p)) ∧ Below w.heap.size w w' := by
  have HT := Lib.hid (hp.threads)
  have htl := hp.tlen
  clear hp
  go_enter Try.func90, Try.ntmps90
  go_wp2
  go_loop [8] (fun i => ∃ k : Nat, k ≤ p.threads.length ∧ i = .int .i64 k ∧ Hid (∀ (j : Nat) (x : List InsD), j < k → p.threads[j]? = some x → x.length ≤ 60)) (fun i => p.threads.length - (intOf i).toNat)
  case atStart => exact ⟨0, Nat.zero_le _, rfl, Lib.hid (fun j x hj => by omega)⟩
  case round =>
    obtain ⟨k, hk, rfl, HZ⟩ := hrel
    by_cases hlt : k < p.threads.length
    · obtain ⟨x, hx⟩ := at_lt hlt
      obtain ⟨b, off, rfl, hb, a', cap', hcell, _⟩ := HT.out k x hx
      have HE := Lib.hid hx
      by_cases hw : x.length ≤ 60
      · have hd : decide ((60 : Int) < (x.length : Int)) = false := by simp; omega
        clear hx
        go_wp2
        go_round
        case rel => exact ⟨k + 1, by omega, by go_num, Lib.hid (fun j y hj hy => by
          by_cases e : j = k
          · subst e; have := HE.out; rw [this] at hy; cases hy; exact hw
          · exact HZ.out j y (by omega) hy)⟩
        case measure => simp [intOf]; omega
      · have hd : decide ((60 : Int) < (x.length : Int)) = true := by simp; omega
        have HF := Lib.hid (show false = sizesB p by unfold sizesB; rw [longB_no hx (by omega)]; rfl)
        clear hx
        go_wp2
        go_ret
        exact ⟨ret_bool HF.out, (Below.refl _ _).alloc (Nat.le_refl _) _⟩
    · obtain rfl : k = p.threads.length := by omega
      have HL := Lib.hid (show numsB p = sizesB p by unfold sizesB; rw [longB_all fun j x hx => HZ.out j x (List.getElem?_eq_some_iff.1 hx).1 hx]; rfl)
      cases h1 : wiB p.vars 0 8
      · have HN := Lib.hid (show false = sizesB p by rw [← HL.out]; simp [numsB, h1])
        have H1 := Lib.hid h1
        clear h1
        go_wp2_with (first
          | (go_at_call 104; (with_reducible refine (within_no _ _ _ _ H1.out).mono ?_); rintro e w' ⟨rfl, rfl⟩))
        go_ret
        exact ⟨ret_bool HN.out, (Below.refl _ _).alloc (Nat.le_refl _) _⟩
      · skip
        cases h2 : wiB p.atoms 0 4
        · have HN := Lib.hid (show false = sizesB p by rw [← HL.out]; simp [numsB, h1, h2])
          have H1 := Lib.hid h1
          have H2 := Lib.hid h2
          clear h1 h2
          go_wp2_with (first
            | (go_at_call 104; (with_reducible refine (within_no _ _ _ _ H2.out).mono ?_); rintro e w' ⟨rfl, rfl⟩)
            | (go_at_call 104; (with_reducible refine (within_yes _ _ _ _ H1.out).mono ?_); rintro e w' ⟨rfl, rfl⟩))
          go_ret
          exact ⟨ret_bool HN.out, (Below.refl _ _).alloc (Nat.le_refl _) _⟩
        · skip
          cases h3 : wiB p.locks 0 4
          · have HN := Lib.hid (show false = sizesB p by rw [← HL.out]; simp [numsB, h1, h2, h3])
            have H1 := Lib.hid h1
            have H2 := Lib.hid h2
            have H3 := Lib.hid h3
            clear h1 h2 h3
            go_wp2_with (first
              | (go_at_call 104; (with_reducible refine (within_no _ _ _ _ H3.out).mono ?_); rintro e w' ⟨rfl, rfl⟩)
              | (go_at_call 104; (with_reducible refine (within_yes _ _ _ _ H1.out).mono ?_); rintro e w' ⟨rfl, rfl⟩)
              | (go_at_call 104; (with_reducible refine (within_yes _ _ _ _ H2.out).mono ?_); rintro e w' ⟨rfl, rfl⟩))
            go_ret
            exact ⟨ret_bool HN.out, (Below.refl _ _).alloc (Nat.le_refl _) _⟩
          · skip
            cases h4 : wiB p.groups 0 4
            · have HN := Lib.hid (show false = sizesB p by rw [← HL.out]; simp [numsB, h1, h2, h3, h4])
              have H1 := Lib.hid h1
              have H2 := Lib.hid h2
              have H3 := Lib.hid h3
              have H4 := Lib.hid h4
              clear h1 h2 h3 h4
              go_wp2_with (first
                | (go_at_call 104; (with_reducible refine (within_no _ _ _ _ H4.out).mono ?_); rintro e w' ⟨rfl, rfl⟩)
                | (go_at_call 104; (with_reducible refine (within_yes _ _ _ _ H1.out).mono ?_); rintro e w' ⟨rfl, rfl⟩)
                | (go_at_call 104; (with_reducible refine (within_yes _ _ _ _ H2.out).mono ?_); rintro e w' ⟨rfl, rfl⟩)
                | (go_at_call 104; (with_reducible refine (within_yes _ _ _ _ H3.out).mono ?_); rintro e w' ⟨rfl, rfl⟩))
              go_ret
              exact ⟨ret_bool HN.out, (Below.refl _ _).alloc (Nat.le_refl _) _⟩
            · skip
              cases h5 : wiB p.onces 0 4
              · have HN := Lib.hid (show false = sizesB p by rw [← HL.out]; simp [numsB, h1, h2, h3, h4, h5])
                have H1 := Lib.hid h1
                have H2 := Lib.hid h2
                have H3 := Lib.hid h3
                have H4 := Lib.hid h4
                have H5 := Lib.hid h5
                clear h1 h2 h3 h4 h5
                go_wp2_with (first
                  | (go_at_call 104; (with_reducible refine (within_no _ _ _ _ H5.out).mono ?_); rintro e w' ⟨rfl, rfl⟩)
                  | (go_at_call 104; (with_reducible refine (within_yes _ _ _ _ H1.out).mono ?_); rintro e w' ⟨rfl, rfl⟩)
                  | (go_at_call 104; (with_reducible refine (within_yes _ _ _ _ H2.out).mono ?_); rintro e w' ⟨rfl, rfl⟩)
                  | (go_at_call 104; (with_reducible refine (within_yes _ _ _ _ H3.out).mono ?_); rintro e w' ⟨rfl, rfl⟩)
                  | (go_at_call 104; (with_reducible refine (within_yes _ _ _ _ H4.out).mono ?_); rintro e w' ⟨rfl, rfl⟩))
                go_ret
                exact ⟨ret_bool HN.out, (Below.refl _ _).alloc (Nat.le_refl _) _⟩
              · skip
                cases h6 : wiB p.chans.length 0 4
                · have HN := Lib.hid (show false = sizesB p by rw [← HL.out]; simp [numsB, h1, h2, h3, h4, h5, h6])
                  have H1 := Lib.hid h1
                  have H2 := Lib.hid h2
                  have H3 := Lib.hid h3
                  have H4 := Lib.hid h4
                  have H5 := Lib.hid h5
                  have H6 := Lib.hid h6
                  clear h1 h2 h3 h4 h5 h6
                  go_wp2_with (first
                    | (go_at_call 104; (with_reducible refine (within_no _ _ _ _ H6.out).mono ?_); rintro e w' ⟨rfl, rfl⟩)
                    | (go_at_call 104; (with_reducible refine (within_yes _ _ _ _ H1.out).mono ?_); rintro e w' ⟨rfl, rfl⟩)
                    | (go_at_call 104; (with_reducible refine (within_yes _ _ _ _ H2.out).mono ?_); rintro e w' ⟨rfl, rfl⟩)
                    | (go_at_call 104; (with_reducible refine (within_yes _ _ _ _ H3.out).mono ?_); rintro e w' ⟨rfl, rfl⟩)
                    | (go_at_call 104; (with_reducible refine (within_yes _ _ _ _ H4.out).mono ?_); rintro e w' ⟨rfl, rfl⟩)
                    | (go_at_call 104; (with_reducible refine (within_yes _ _ _ _ H5.out).mono ?_); rintro e w' ⟨rfl, rfl⟩))
                  go_ret
                  exact ⟨ret_bool HN.out, (Below.refl _ _).alloc (Nat.le_refl _) _⟩
                · skip
                  cases h7 : wiB p.threads.length 1 6
                  · have HN := Lib.hid (show false = sizesB p by rw [← HL.out]; simp [numsB, h1, h2, h3, h4, h5, h6, h7])
                    have H1 := Lib.hid h1
                    have H2 := Lib.hid h2
                    have H3 := Lib.hid h3
                    have H4 := Lib.hid h4
                    have H5 := Lib.hid h5
                    have H6 := Lib.hid h6
                    have H7 := Lib.hid h7
                    clear h1 h2 h3 h4 h5 h6 h7
                    go_wp2_with (first
                      | (go_at_call 104; (with_reducible refine (within_no _ _ _ _ H7.out).mono ?_); rintro e w' ⟨rfl, rfl⟩)
                      | (go_at_call 104; (with_reducible refine (within_yes _ _ _ _ H1.out).mono ?_); rintro e w' ⟨rfl, rfl⟩)
                      | (go_at_call 104; (with_reducible refine (within_yes _ _ _ _ H2.out).mono ?_); rintro e w' ⟨rfl, rfl⟩)
                      | (go_at_call 104; (with_reducible refine (within_yes _ _ _ _ H3.out).mono ?_); rintro e w' ⟨rfl, rfl⟩)
                      | (go_at_call 104; (with_reducible refine (within_yes _ _ _ _ H4.out).mono ?_); rintro e w' ⟨rfl, rfl⟩)
                      | (go_at_call 104; (with_reducible refine (within_yes _ _ _ _ H5.out).mono ?_); rintro e w' ⟨rfl, rfl⟩)
                      | (go_at_call 104; (with_reducible refine (within_yes _ _ _ _ H6.out).mono ?_); rintro e w' ⟨rfl, rfl⟩))
                    go_ret
                    exact ⟨ret_bool HN.out, (Below.refl _ _).alloc (Nat.le_refl _) _⟩
                  · skip
                    have HN := Lib.hid (show true = sizesB p by rw [← HL.out]; simp [numsB, h1, h2, h3, h4, h5, h6, h7])
                    have H1 := Lib.hid h1
                    have H2 := Lib.hid h2
                    have H3 := Lib.hid h3
                    have H4 := Lib.hid h4
                    have H5 := Lib.hid h5
                    have H6 := Lib.hid h6
                    have H7 := Lib.hid h7
                    clear h1 h2 h3 h4 h5 h6 h7
                    go_wp2_with (first
                      | (go_at_call 104; (with_reducible refine (within_yes _ _ _ _ H1.out).mono ?_); rintro e w' ⟨rfl, rfl⟩)
                      | (go_at_call 104; (with_reducible refine (within_yes _ _ _ _ H2.out).mono ?_); rintro e w' ⟨rfl, rfl⟩)
                      | (go_at_call 104; (with_reducible refine (within_yes _ _ _ _ H3.out).mono ?_); rintro e w' ⟨rfl, rfl⟩)
                      | (go_at_call 104; (with_reducible refine (within_yes _ _ _ _ H4.out).mono ?_); rintro e w' ⟨rfl, rfl⟩)
                      | (go_at_call 104; (with_reducible refine (within_yes _ _ _ _ H5.out).mono ?_); rintro e w' ⟨rfl, rfl⟩)
                      | (go_at_call 104; (with_reducible refine (within_yes _ _ _ _ H6.out).mono ?_); rintro e w' ⟨rfl, rfl⟩)
                      | (go_at_call 104; (with_reducible refine (within_yes _ _ _ _ H7.out).mono ?_); rintro e w' ⟨rfl, rfl⟩))
                    go_ret
                    exact ⟨ret_bool HN.out, (Below.refl _ _).alloc (Nat.le_refl _) _⟩
/-- A value is the closure that 'from' makes of lo and hi: its two variables lie in blocks from L on. -/
def Clo (w : World) (L : Nat) (f : Value) (lo hi : Int) : Prop :=
  ∃ b1 b2, f = .func (.func 126) #[] #[.pointer (some ⟨b1, 0, none⟩), .pointer (some ⟨b2, 0, none⟩)] ∧ L ≤ b1 ∧ L ≤ b2 ∧ w.cell? ⟨b1, 0, none⟩ = some (.int .i64 lo) ∧ w.cell? ⟨b2, 0, none⟩ = some (.int .i64 hi)
theorem Clo.later {w w' : World} {L : Nat} {f : Value} {lo hi : Int} (h : Clo w L f lo hi) (hB : Below w.heap.size w w') : Clo w' L f lo hi := by
  obtain ⟨b1, b2, rfl, h1, h2, c1, c2⟩ := h
  exact ⟨b1, b2, rfl, h1, h2, (hB.cell (p := ⟨b1, 0, none⟩) (cell_lt c1)).trans c1, (hB.cell (p := ⟨b2, 0, none⟩) (cell_lt c2)).trans c2⟩
theorem Clo.low {w : World} {L L' : Nat} {f : Value} {lo hi : Int} (h : Clo w L f lo hi) (hL : L' ≤ L) : Clo w L' f lo hi := by
  obtain ⟨b1, b2, rfl, h1, h2, c1, c2⟩ := h
  exact ⟨b1, b2, rfl, by omega, by omega, c1, c2⟩
theorem allowed1_any (lo hi : Int) (w : World) :
    Calls Try.prog 125 #[.int .i64 lo, .int .i64 hi] w fun e w' => ∃ b1 b2, e = .returned (.func (.func 126) #[] #[.pointer (some ⟨b1, 0, none⟩), .pointer (some ⟨b2, 0, none⟩)]) ∧
      w.heap.size ≤ b1 ∧ w.heap.size ≤ b2 ∧ w'.cell? ⟨b1, 0, none⟩ = some (.int .i64 lo) ∧ w'.cell? ⟨b2, 0, none⟩ = some (.int .i64 hi) ∧ Below w.heap.size w w' := by
  go_enter Try.func125, Try.ntmps125
  go_wp2
  go_ret
  exact ⟨w.heap.size, w.heap.size + 1, rfl, Nat.le_refl _, Nat.le_succ _, by simp, by simp, ((Below.refl _ _).alloc (Nat.le_refl _) _).alloc (by simp) _⟩
theorem allowed11_any (n lo hi : Int) (b1 b2 : Nat) (w : World) (h1 : w.cell? ⟨b1, 0, none⟩ = some (.int .i64 lo)) (h2 : w.cell? ⟨b2, 0, none⟩ = some (.int .i64 hi)) (hr : -9223372036854775808 < hi) (hr2 : hi ≤ 9223372036854775807) :
    Calls Try.prog 126 #[.int .i64 n, .pointer (some ⟨b1, 0, none⟩), .pointer (some ⟨b2, 0, none⟩)] w fun e w' => e = .returned (.bool (wiB n lo (hi - 1))) ∧ w = w' := by
  go_enter Try.func126, Try.ntmps126
  go_wp2_with (go_at_call 104; refine (within_any _ _ _ _).mono ?_; rintro e w' ⟨rfl, rfl⟩)
  go_ret
  exact ⟨rfl, rfl⟩
theorem allowed2_any (n : Int) (w : World) :
    Calls Try.prog 127 #[.int .i64 n] w fun e w' => e = .returned (.bool true) ∧ w = w' := by
  go_enter Try.func127, Try.ntmps127
  go_wp2
  go_ret
  exact ⟨rfl, rfl⟩
theorem there_later {u u' : World} {b o n : Nat} (h : u.there b o n) (hB : Below u.heap.size u u') : u'.there b o n := fun j hj => by
  obtain ⟨h1, h2⟩ := h j hj
  obtain ⟨v, hv⟩ := Option.isSome_iff_exists.1 h1
  have hb := World.block_lt_of_cell? u _ hv
  exact ⟨by rw [hB.cell (p := ⟨b, o + j, none⟩) hb]; exact h1, by rw [hB.frozen (p := ⟨b, o + j, none⟩) hb]; exact h2⟩
theorem keepS {u u' : World} {B : Nat} {v0 v1 v2 v3 v4 v5 v6 : Value} (h : u.cell? ⟨B, 0, none⟩ = some v0 ∧ u.cell? ⟨B, 1, none⟩ = some v1 ∧ u.cell? ⟨B, 2, none⟩ = some v2 ∧ u.cell? ⟨B, 3, none⟩ = some v3 ∧ u.cell? ⟨B, 4, none⟩ = some v4 ∧ u.cell? ⟨B, 5, none⟩ = some v5 ∧ u.cell? ⟨B, 6, none⟩ = some v6 ∧ u.there (B + 1) 0 12) (hB : Below u.heap.size u u') : u'.cell? ⟨B, 0, none⟩ = some v0 ∧ u'.cell? ⟨B, 1, none⟩ = some v1 ∧ u'.cell? ⟨B, 2, none⟩ = some v2 ∧ u'.cell? ⟨B, 3, none⟩ = some v3 ∧ u'.cell? ⟨B, 4, none⟩ = some v4 ∧ u'.cell? ⟨B, 5, none⟩ = some v5 ∧ u'.cell? ⟨B, 6, none⟩ = some v6 ∧ u'.there (B + 1) 0 12 := by
  obtain ⟨h0, h1, h2, h3, h4, h5, h6, ht⟩ := h
  exact ⟨(hB.cell (p := ⟨B, 0, none⟩) (cell_lt h0)).trans h0, (hB.cell (p := ⟨B, 1, none⟩) (cell_lt h1)).trans h1, (hB.cell (p := ⟨B, 2, none⟩) (cell_lt h2)).trans h2, (hB.cell (p := ⟨B, 3, none⟩) (cell_lt h3)).trans h3, (hB.cell (p := ⟨B, 4, none⟩) (cell_lt h4)).trans h4, (hB.cell (p := ⟨B, 5, none⟩) (cell_lt h5)).trans h5, (hB.cell (p := ⟨B, 6, none⟩) (cell_lt h6)).trans h6, there_later ht hB⟩
theorem keepSet {u : World} {B : Nat} {v0 v1 v2 v3 v4 v5 v6 : Value} {vs : List Value} (h : u.cell? ⟨B, 0, none⟩ = some v0 ∧ u.cell? ⟨B, 1, none⟩ = some v1 ∧ u.cell? ⟨B, 2, none⟩ = some v2 ∧ u.cell? ⟨B, 3, none⟩ = some v3 ∧ u.cell? ⟨B, 4, none⟩ = some v4 ∧ u.cell? ⟨B, 5, none⟩ = some v5 ∧ u.cell? ⟨B, 6, none⟩ = some v6 ∧ u.there (B + 1) 0 12) : (u.setCells (B + 1) 0 vs).cell? ⟨B, 0, none⟩ = some v0 ∧ (u.setCells (B + 1) 0 vs).cell? ⟨B, 1, none⟩ = some v1 ∧ (u.setCells (B + 1) 0 vs).cell? ⟨B, 2, none⟩ = some v2 ∧ (u.setCells (B + 1) 0 vs).cell? ⟨B, 3, none⟩ = some v3 ∧ (u.setCells (B + 1) 0 vs).cell? ⟨B, 4, none⟩ = some v4 ∧ (u.setCells (B + 1) 0 vs).cell? ⟨B, 5, none⟩ = some v5 ∧ (u.setCells (B + 1) 0 vs).cell? ⟨B, 6, none⟩ = some v6 ∧ (u.setCells (B + 1) 0 vs).there (B + 1) 0 12 := by
  obtain ⟨h0, h1, h2, h3, h4, h5, h6, ht⟩ := h
  have hne : ∀ j, (u.setCells (B + 1) 0 vs).cell? ⟨B, j, none⟩ = u.cell? ⟨B, j, none⟩ := fun j => World.cell?_setCells_out (B + 1) vs 0 u ⟨B, j, none⟩ (fun hb _ => by simp at hb)
  exact ⟨(hne 0).trans h0, (hne 1).trans h1, (hne 2).trans h2, (hne 3).trans h3, (hne 4).trans h4, (hne 5).trans h5, (hne 6).trans h6, World.there_setCells ht _ _ _⟩
/-- What allowed's functions ask, word by word: from, and below (none: nothing). -/
def canL (p : ProgD) (n : Nat) : List (Option (Int × Int)) :=
  [some (0, 1), some (0, 4), some (0, 4), none, some (0, (n : Int) + 1), some (1, (p.threads.length : Int)), some (0, p.vars), some (0, p.atoms), some (0, p.locks), some (0, (p.chans.length : Int)), some (0, p.groups), some (0, p.onces)]
def canB : Option (Int × Int) → Int → Bool
  | none, _ => true
  | some (lo, hi), m => wiB m lo (hi - 1)
/-- A value is a function of one number that returns what g says, and leaves the world as it is. -/
def CanFn (w : World) (f : Value) (g : Option (Int × Int)) : Prop :=
  ∃ fn caps, f = .func (.func fn) #[] caps ∧ (∀ m u, (callFunc fn (#[.int .i64 m] ++ caps)).run Try.prog u = .ok (.enter fn (#[.int .i64 m] ++ caps)) u) ∧
    ∀ m w', Below w.heap.size w w' → Calls Try.prog fn (#[.int .i64 m] ++ caps) w' fun e w'' => e = .returned (.bool (canB g m)) ∧ w' = w''
theorem canFn_clo {w : World} {L : Nat} {f : Value} {lo hi : Int} (h : Clo w L f lo hi) (hr : -9223372036854775808 < hi) (hr2 : hi ≤ 9223372036854775807) : CanFn w f (some (lo, hi)) := by
  obtain ⟨b1, b2, rfl, h1, h2, c1, c2⟩ := h
  refine ⟨_, _, rfl, fun m u => by kernel_rfl, fun m w' hB => ?_⟩
  exact allowed11_any m lo hi b1 b2 w' ((hB.cell (p := ⟨b1, 0, none⟩) (cell_lt c1)).trans c1) ((hB.cell (p := ⟨b2, 0, none⟩) (cell_lt c2)).trans c2) hr hr2
theorem canFn_all (w : World) : CanFn w (.func (.func 127) #[] #[]) none :=
  ⟨_, _, rfl, fun m u => by kernel_rfl, fun m w' hB => allowed2_any m w'⟩
theorem CanFn.later {w w' : World} {f : Value} {g : Option (Int × Int)} (h : CanFn w f g) (hB : Below w.heap.size w w') : CanFn w' f g := by
  obtain ⟨fn, caps, rfl, h1, h2⟩ := h
  exact ⟨fn, caps, rfl, h1, fun m u hu => h2 m u (below_next hB hu)⟩
/-- What allowed hands back. -/
structure CansIn (w : World) (p : ProgD) (n : Nat) (fs : List Value) : Prop where
  len : fs.length = 12
  one : ∀ v ∈ fs, Value.oneCell' v = true
  fn : ∀ (j : Nat) (f : Value) (g : Option (Int × Int)), fs[j]? = some f → (canL p n)[j]? = some g → CanFn w f g
theorem CansIn.later {w w' : World} {p : ProgD} {n : Nat} {fs : List Value} (h : CansIn w p n fs) (hB : Below w.heap.size w w') : CansIn w' p n fs :=
  ⟨h.len, h.one, fun j f g hf hg => (h.fn j f g hf hg).later hB⟩
theorem results_cell_range {P : Program} {fn : Func} {p : Tmp} {ty : TypeId} (h : fn.results = #[.cell p ty]) (tmps : Array Value) (w : World) (b : Nat) (cs : List Value) (d : TypeDesc)
    (hp : tmps.getD p undef = .pointer (some ⟨b, 0, none⟩)) (hc : w.rangeAt b 0 cs)
    (hu : P.underlying ty = some d) (hd : d.isRow = true) (hi : (P.info? ty).map (·.size) = some cs.length) :
    (results fn tmps).run P w = .ok (.agg cs.toArray) w := by
  have hp' : tmps[p]?.getD undef = .pointer (some ⟨b, 0, none⟩) := by simpa using hp
  simp [results, h, hp', asAddr, run_loadVar_mid w b 0 ty cs d hc hu hd hi]
theorem Clo.set {w : World} {L : Nat} {f : Value} {lo hi : Int} (h : Clo w L f lo hi) {b : Nat} (hb : b < L) (vs : List Value) : Clo (w.setCells b 0 vs) L f lo hi := by
  obtain ⟨b1, b2, rfl, h1, h2, c1, c2⟩ := h
  exact ⟨b1, b2, rfl, h1, h2, (World.cell?_setCells_out b vs 0 w ⟨b1, 0, none⟩ (fun e _ => by simp at e; omega)).trans c1, (World.cell?_setCells_out b vs 0 w ⟨b2, 0, none⟩ (fun e _ => by simp at e; omega)).trans c2⟩
theorem below_setCells {B : Nat} {a : World} (b : Nat) (hb : B ≤ b) : ∀ (vs : List Value) (o : Nat) (w : World), Below B a w → Below B a (w.setCells b o vs)
  | [], _, _, h => h
  | v :: r, o, w, h => by rw [World.setCells]; exact below_setCells b hb r (o + 1) _ (h.setCell (p := ⟨b, o, none⟩) hb v)
theorem sizes_parts {p : ProgD} (h : sizesB p = true) : (0 ≤ p.vars ∧ p.vars ≤ 8) ∧ (0 ≤ p.atoms ∧ p.atoms ≤ 4) ∧ (0 ≤ p.locks ∧ p.locks ≤ 4) ∧ (0 ≤ p.groups ∧ p.groups ≤ 4) ∧ (0 ≤ p.onces ∧ p.onces ≤ 4) ∧ p.chans.length ≤ 4 ∧ (1 ≤ p.threads.length ∧ p.threads.length ≤ 6) ∧ ∀ c ∈ p.threads, c.length ≤ 60 := by
  unfold sizesB numsB longB at h
  simp only [Bool.and_eq_true, wiB_true, List.all_eq_true, decide_eq_true_eq] at h
  obtain ⟨h0, ⟨⟨⟨⟨⟨h1, h2⟩, h3⟩, h4⟩, h5⟩, h6⟩, h7⟩ := h
  exact ⟨h1, h2, h3, h4, h5, by omega, by omega, h0⟩
theorem info_can : (Try.prog.info? 168).map (·.size) = some 12 := by kernel_rfl
theorem clo_mk {w : World} {L x y : Nat} {lo hi : Int} (h1 : L ≤ x) (h2 : L ≤ y) (c1 : w.cell? ⟨x, 0, none⟩ = some (.int .i64 lo)) (c2 : w.cell? ⟨y, 0, none⟩ = some (.int .i64 hi)) :
    Clo w L (.func (.func 126) #[] #[.pointer (some ⟨x, 0, none⟩), .pointer (some ⟨y, 0, none⟩)]) lo hi := ⟨x, y, rfl, h1, h2, c1, c2⟩
theorem allowed_any (p : ProgD) (ca : Option Addr) (ccap : Nat) (ta : Option Addr) (tcap n : Nat) (w : World) (hn : n ≤ 60) (hs : sizesB p = true) :
    Calls Try.prog 105 #[p.val ca ccap ta tcap, .int .i64 n] w fun e w' => ∃ fs : List Value, e = .returned (.agg fs.toArray) ∧ CansIn w' p n fs ∧ Below w.heap.size w w' := by
  have HS := Lib.hid hs
  clear hs
  have hi12 : (Try.prog.info? 168).map (·.size) = some 12 := info_can
  have hnw : IntKind.i64.wrap ((n : Int) + 1) = (n : Int) + 1 := IntWalk.i64_in _ (by omega)
  go_enter Try.func105, Try.ntmps105
  go_wp2
  generalize hW : (w.alloc _).alloc _ = W
  have HW := Lib.hid hW
  have c0 : W.cell? ⟨w.heap.size, 0, none⟩ = some (.int .i64 p.vars) := by rw [← hW]; simp
  have c1 : W.cell? ⟨w.heap.size, 1, none⟩ = some (.int .i64 p.atoms) := by rw [← hW]; simp
  have c2 : W.cell? ⟨w.heap.size, 2, none⟩ = some (.int .i64 p.locks) := by rw [← hW]; simp
  have c3 : W.cell? ⟨w.heap.size, 3, none⟩ = some (.slice ca p.chans.length ccap) := by rw [← hW]; simp
  have c4 : W.cell? ⟨w.heap.size, 4, none⟩ = some (.int .i64 p.groups) := by rw [← hW]; simp
  have c5 : W.cell? ⟨w.heap.size, 5, none⟩ = some (.int .i64 p.onces) := by rw [← hW]; simp
  have c6 : W.cell? ⟨w.heap.size, 6, none⟩ = some (.slice ta p.threads.length tcap) := by rw [← hW]; simp
  have ht : W.there (w.heap.size + 1) 0 12 := by
    rw [← hW]
    intro j hj
    have e : (w.alloc (.cells #[Value.int .i64 p.vars, .int .i64 p.atoms, .int .i64 p.locks, .slice ca p.chans.length ccap, .int .i64 p.groups, .int .i64 p.onces, .slice ta p.threads.length tcap] 28)).heap.size = w.heap.size + 1 := by simp
    rw [← e]
    refine ⟨?_, by simp⟩
    rw [cell_of_row _ _ _ _ _ _ (heap_alloc_new _ _)]
    rw [Array.getElem?_eq_getElem (by simp; omega)]; rfl
  have hWB : Below w.heap.size w W := by rw [← hW]; exact ((Below.refl _ _).alloc (Nat.le_refl _) _).alloc (by simp) _
  have hWs : W.heap.size = w.heap.size + 2 := by rw [← hW]; simp
  have HWs := Lib.hid hWs
  clear hW hWs
  go_region_held3 (fun u => u.cell? ⟨w.heap.size, 0, none⟩ = some (.int .i64 p.vars) ∧ u.cell? ⟨w.heap.size, 1, none⟩ = some (.int .i64 p.atoms) ∧ u.cell? ⟨w.heap.size, 2, none⟩ = some (.int .i64 p.locks) ∧ u.cell? ⟨w.heap.size, 3, none⟩ = some (.slice ca p.chans.length ccap) ∧ u.cell? ⟨w.heap.size, 4, none⟩ = some (.int .i64 p.groups) ∧ u.cell? ⟨w.heap.size, 5, none⟩ = some (.int .i64 p.onces) ∧ u.cell? ⟨w.heap.size, 6, none⟩ = some (.slice ta p.threads.length tcap) ∧ u.there (w.heap.size + 1) 0 12) (first | exact keepSet (by assumption) | exact keepS (by assumption) hB11 | exact keepS (by assumption) hB10 | exact keepS (by assumption) hB9 | exact keepS (by assumption) hB8 | exact keepS (by assumption) hB7 | exact keepS (by assumption) hB6 | exact keepS (by assumption) hB5 | exact keepS (by assumption) hB4 | exact keepS (by assumption) hB3 | exact keepS (by assumption) hB2 | exact keepS (by assumption) hB1 | exact ⟨c0, c1, c2, c3, c4, c5, c6, ht⟩)
    (first
      | (go_at_call 125; have _q := hB10; refine (allowed1_any _ _ _).mono ?_; rintro e w11 ⟨x11, y11, rfl, p11, q11, r11, s11, hB11⟩; have hC11 := Lib.hid (clo_mk p11 q11 r11 s11); clear p11 q11 r11 s11; have hone : ∀ v ∈ [.func (.func 126) #[] #[.pointer (some ⟨x1, 0, none⟩), .pointer (some ⟨y1, 0, none⟩)], .func (.func 126) #[] #[.pointer (some ⟨x2, 0, none⟩), .pointer (some ⟨y2, 0, none⟩)], .func (.func 126) #[] #[.pointer (some ⟨x3, 0, none⟩), .pointer (some ⟨y3, 0, none⟩)], .func (.func 127) #[] #[], .func (.func 126) #[] #[.pointer (some ⟨x4, 0, none⟩), .pointer (some ⟨y4, 0, none⟩)], .func (.func 126) #[] #[.pointer (some ⟨x5, 0, none⟩), .pointer (some ⟨y5, 0, none⟩)], .func (.func 126) #[] #[.pointer (some ⟨x6, 0, none⟩), .pointer (some ⟨y6, 0, none⟩)], .func (.func 126) #[] #[.pointer (some ⟨x7, 0, none⟩), .pointer (some ⟨y7, 0, none⟩)], .func (.func 126) #[] #[.pointer (some ⟨x8, 0, none⟩), .pointer (some ⟨y8, 0, none⟩)], .func (.func 126) #[] #[.pointer (some ⟨x9, 0, none⟩), .pointer (some ⟨y9, 0, none⟩)], .func (.func 126) #[] #[.pointer (some ⟨x10, 0, none⟩), .pointer (some ⟨y10, 0, none⟩)], .func (.func 126) #[] #[.pointer (some ⟨x11, 0, none⟩), .pointer (some ⟨y11, 0, none⟩)]], Value.oneCell' v = true := (by simp [Value.oneCell']))
      | (go_at_call 125; have _q := hB9; refine (allowed1_any _ _ _).mono ?_; rintro e w10 ⟨x10, y10, rfl, p10, q10, r10, s10, hB10⟩; have hC10 := Lib.hid (clo_mk p10 q10 r10 s10); clear p10 q10 r10 s10)
      | (go_at_call 125; have _q := hB8; refine (allowed1_any _ _ _).mono ?_; rintro e w9 ⟨x9, y9, rfl, p9, q9, r9, s9, hB9⟩; have hC9 := Lib.hid (clo_mk p9 q9 r9 s9); clear p9 q9 r9 s9)
      | (go_at_call 125; have _q := hB7; refine (allowed1_any _ _ _).mono ?_; rintro e w8 ⟨x8, y8, rfl, p8, q8, r8, s8, hB8⟩; have hC8 := Lib.hid (clo_mk p8 q8 r8 s8); clear p8 q8 r8 s8)
      | (go_at_call 125; have _q := hB6; refine (allowed1_any _ _ _).mono ?_; rintro e w7 ⟨x7, y7, rfl, p7, q7, r7, s7, hB7⟩; have hC7 := Lib.hid (clo_mk p7 q7 r7 s7); clear p7 q7 r7 s7)
      | (go_at_call 125; have _q := hB5; refine (allowed1_any _ _ _).mono ?_; rintro e w6 ⟨x6, y6, rfl, p6, q6, r6, s6, hB6⟩; have hC6 := Lib.hid (clo_mk p6 q6 r6 s6); clear p6 q6 r6 s6)
      | (go_at_call 125; have _q := hB4; refine (allowed1_any _ _ _).mono ?_; rintro e w5 ⟨x5, y5, rfl, p5, q5, r5, s5, hB5⟩; have hC5 := Lib.hid (clo_mk p5 q5 r5 s5); clear p5 q5 r5 s5)
      | (go_at_call 125; have _q := hB3; refine (allowed1_any _ _ _).mono ?_; rintro e w4 ⟨x4, y4, rfl, p4, q4, r4, s4, hB4⟩; have hC4 := Lib.hid (clo_mk p4 q4 r4 s4); clear p4 q4 r4 s4)
      | (go_at_call 125; have _q := hB2; refine (allowed1_any _ _ _).mono ?_; rintro e w3 ⟨x3, y3, rfl, p3, q3, r3, s3, hB3⟩; have hC3 := Lib.hid (clo_mk p3 q3 r3 s3); clear p3 q3 r3 s3)
      | (go_at_call 125; have _q := hB1; refine (allowed1_any _ _ _).mono ?_; rintro e w2 ⟨x2, y2, rfl, p2, q2, r2, s2, hB2⟩; have hC2 := Lib.hid (clo_mk p2 q2 r2 s2); clear p2 q2 r2 s2)
      | (go_at_call 125; refine (allowed1_any _ _ _).mono ?_; rintro e w1 ⟨x1, y1, rfl, p1, q1, r1, s1, hB1⟩; have hC1 := Lib.hid (clo_mk p1 q1 r1 s1); clear p1 q1 r1 s1))
  go_wp2
  have hT := there_later (there_later (there_later (there_later (there_later (there_later (there_later (there_later (there_later (there_later (there_later (show W.drew.there (w.heap.size + 1) 0 12 from ht) hB1) hB2) hB3) hB4) hB5) hB6) hB7) hB8) hB9) hB10) hB11
  obtain ⟨z1, z2, z3, z4, z5, z6, z7, _⟩ := sizes_parts HS.out
  have h2 := below_next hB1 hB2
  have h3 := below_next h2 hB3
  have h4 := below_next h3 hB4
  have h5 := below_next h4 hB5
  have h6 := below_next h5 hB6
  have h7 := below_next h6 hB7
  have h8 := below_next h7 hB8
  have h9 := below_next h8 hB9
  have h10 := below_next h9 hB10
  have h11 := below_next h10 hB11
  have hDB : Below w.heap.size w w11 := (hWB.drew).trans (h11.mono (by have := hWB.size; simpa using this))
  have hWs : W.heap.size = w.heap.size + 2 := HWs.out
  have hDs : W.drew.heap.size = w.heap.size + 2 := hWs
  have k1 := (((((((((((hC1.out.later hB2).later hB3).later hB4).later hB5).later hB6).later hB7).later hB8).later hB9).later hB10).later hB11)).low (L' := w.heap.size + 2) (by omega)
  have k2 := ((((((((((hC2.out.later hB3).later hB4).later hB5).later hB6).later hB7).later hB8).later hB9).later hB10).later hB11)).low (L' := w.heap.size + 2) (by have := hB1.size; omega)
  have k3 := (((((((((hC3.out.later hB4).later hB5).later hB6).later hB7).later hB8).later hB9).later hB10).later hB11)).low (L' := w.heap.size + 2) (by have := h2.size; omega)
  have k4 := ((((((((hC4.out.later hB5).later hB6).later hB7).later hB8).later hB9).later hB10).later hB11)).low (L' := w.heap.size + 2) (by have := h3.size; omega)
  have k5 := (((((((hC5.out.later hB6).later hB7).later hB8).later hB9).later hB10).later hB11)).low (L' := w.heap.size + 2) (by have := h4.size; omega)
  have k6 := ((((((hC6.out.later hB7).later hB8).later hB9).later hB10).later hB11)).low (L' := w.heap.size + 2) (by have := h5.size; omega)
  have k7 := (((((hC7.out.later hB8).later hB9).later hB10).later hB11)).low (L' := w.heap.size + 2) (by have := h6.size; omega)
  have k8 := ((((hC8.out.later hB9).later hB10).later hB11)).low (L' := w.heap.size + 2) (by have := h7.size; omega)
  have k9 := (((hC9.out.later hB10).later hB11)).low (L' := w.heap.size + 2) (by have := h8.size; omega)
  have k10 := ((hC10.out.later hB11)).low (L' := w.heap.size + 2) (by have := h9.size; omega)
  have k11 := (hC11.out).low (L' := w.heap.size + 2) (by have := h10.size; omega)
  refine bodyPost_ret (v := .agg (List.toArray _)) (results_cell_range rfl _ _ (w.heap.size + 1) _ _ rfl (World.rangeAt_setCells_same _ _ _ _ hT) Try.underlying168 rfl info_can) rfl ⟨_, rfl, ⟨rfl, hone, ?_⟩, below_setCells _ (by omega) _ _ _ hDB⟩
  intro j f g hf hg
  match j, hf, hg with
  | 0, hf, hg => cases hf; cases hg; exact canFn_clo (k1.set (b := w.heap.size + 1) (by omega) _) (by omega) (by omega)
  | 1, hf, hg => cases hf; cases hg; exact canFn_clo (k2.set (b := w.heap.size + 1) (by omega) _) (by omega) (by omega)
  | 2, hf, hg => cases hf; cases hg; exact canFn_clo (k3.set (b := w.heap.size + 1) (by omega) _) (by omega) (by omega)
  | 3, hf, hg => cases hf; cases hg; exact canFn_all _
  | 4, hf, hg => cases hf; cases hg; exact canFn_clo (k4.set (b := w.heap.size + 1) (by omega) _) (by omega) (by omega)
  | 5, hf, hg => cases hf; cases hg; exact canFn_clo (k5.set (b := w.heap.size + 1) (by omega) _) (by omega) (by omega)
  | 6, hf, hg => cases hf; cases hg; exact canFn_clo (k6.set (b := w.heap.size + 1) (by omega) _) (by omega) (by omega)
  | 7, hf, hg => cases hf; cases hg; exact canFn_clo (k7.set (b := w.heap.size + 1) (by omega) _) (by omega) (by omega)
  | 8, hf, hg => cases hf; cases hg; exact canFn_clo (k8.set (b := w.heap.size + 1) (by omega) _) (by omega) (by omega)
  | 9, hf, hg => cases hf; cases hg; exact canFn_clo (k9.set (b := w.heap.size + 1) (by omega) _) (by omega) (by omega)
  | 10, hf, hg => cases hf; cases hg; exact canFn_clo (k10.set (b := w.heap.size + 1) (by omega) _) (by omega) (by omega)
  | 11, hf, hg => cases hf; cases hg; exact canFn_clo (k11.set (b := w.heap.size + 1) (by omega) _) (by omega) (by omega)
  | j + 12, hf, hg => simp at hf
theorem cell_later {u u1 : World} {o : Obj} {g off : Nat} {v : Value} (h : u.cell? ⟨g, off, none⟩ = some v) (hB : Below (u.alloc o).heap.size (u.alloc o) u1) : u1.cell? ⟨g, off, none⟩ = some v := by
  have hlt := cell_lt h
  exact (hB.cell (p := ⟨g, off, none⟩) (by simp; omega)).trans ((World.cell?_alloc_lt _ _ _ hlt).trans h)
theorem block_later {u u1 : World} {o ob : Obj} {g : Nat} (h : u.heap[g]? = some ob) (hB : Below (u.alloc o).heap.size (u.alloc o) u1) : u1.heap[g]? = some ob := by
  have hlt := (Array.getElem?_eq_some_iff.1 h).1
  exact (hB.block g (by simp; omega)).trans ((Below.heap_alloc _ _ _ hlt).trans h)
/-- Two blocks that were new when a call began. -/
theorem kept_two {w w1 : World} {o o' : Obj} (h : Below ((w.alloc o).alloc o').heap.size ((w.alloc o).alloc o') w1) : w1.heap[w.heap.size]? = some o ∧ w1.heap[w.heap.size + 1]? = some o' :=
  ⟨(h.block _ (by simp; omega)).trans (heap_alloc2_old _ _ _), (h.block _ (by simp)).trans (heap_alloc2_new _ _ _)⟩
/-- Has each of the first k numbers that is not nought a word? -/
def wordsB (r : Row) (x : InsD) : Nat → Bool
  | 0 => true
  | k + 1 => wordsB r x k && !(decide (r.at k = 0) && decide (x.at k ≠ 0))
theorem wordsB_stop {r : Row} {x : InsD} {j : Nat} (h : r.at j = 0) (h2 : x.at j ≠ 0) : ∀ k, j < k → wordsB r x k = false
  | 0, hk => by omega
  | k + 1, hk => by
    unfold wordsB
    by_cases e : j = k
    · subst e; simp [h, h2]
    · rw [wordsB_stop h h2 k (by omega)]; rfl
theorem wordsB_on {r : Row} {x : InsD} {k : Nat} (hw : wordsB r x k = true) (h : r.at k ≠ 0 ∨ x.at k = 0) : wordsB r x (k + 1) = true := by
  unfold wordsB; rw [hw]
  rcases h with h | h <;> simp [h]
def knownB (x : InsD) : Bool := wordsB (rowAt x.op) x 3 && decide (x.op < 28)
theorem known_ins (x : InsD) (w : World) :
    Calls Try.prog 107 #[.agg #[.int .u8 x.op, .int .i64 x.a, .int .i64 x.b, .int .i64 x.c]] w fun e w' => e = .returned (.bool (knownB x)) ∧ Below w.heap.size w w' := by
  have H := of_row x.op
  unfold knownB
  generalize rowAt x.op = r at H ⊢
  have H := Lib.hid H
  have hf := field_abc r
  go_enter Try.func107, Try.ntmps107
  go_wp2_with (first
    | (go_at_call 128; refine (H.out _).mono ?_; rintro e w1 ⟨rfl, hB1⟩; obtain ⟨c0, c1, c2, c3⟩ := cells4 (kept_new hB1); have hz : w.heap.size < w1.heap.size := (by have := hB1.size; simp at this; omega))
    | (go_at_call 129; refine (numbers_any _ _ _ _ _).mono ?_; rintro e w2 ⟨rfl, hB2⟩))
  have hR := Lib.hid (kept_new hB2)
  have hB : Below w.heap.size w w2 := (((Below.refl _ _).alloc (Nat.le_refl _) _).trans (hB1.mono (by simp))).alloc (by omega) _ |>.trans (hB2.mono (by simp; omega))
  have hlt1 : w1.heap.size < w2.heap.size := by have := hB2.size; simp at this; omega
  have c0' := cell_later c0 hB2
  clear hB1 hB2 c0 c1 c2 c3
  go_loop [12] (fun i => ∃ j : Nat, j ≤ 3 ∧ i = .int .i64 j ∧ Hid (wordsB r x j = true)) (fun i => 3 - (intOf i).toNat)
  case atStart => exact ⟨0, Nat.zero_le _, rfl, Lib.hid rfl⟩
  case round =>
    obtain ⟨j, hj, rfl, HW⟩ := hrel
    by_cases hlt : j < 3
    · have hi := ins_at x j hlt
      have hq := abc_cell hR.out j hlt
      by_cases hz : r.at j = 0
      · have hz' : (r.at j == 0) = true := by simp [hz]
        by_cases hx : x.at j = 0
        · have hx' : (x.at j != 0) = false := by simp [hx]
          have HN := Lib.hid (wordsB_on HW.out (.inr hx))
          clear hz hx
          go_wp2
          go_round
          case rel => exact ⟨j + 1, by omega, by go_num, HN⟩
          case measure => simp [intOf]; omega
        · have hx' : (x.at j != 0) = true := by simp [hx]
          have HN := Lib.hid (wordsB_stop hz hx 3 hlt)
          clear hz hx
          go_wp2
          go_ret
          exact ⟨ret_bool (by rw [HN.out]; rfl), hB⟩
      · have hz' : (r.at j == 0) = false := by simp [hz]
        have HN := Lib.hid (wordsB_on (x := x) HW.out (.inl hz))
        clear hz
        go_wp2
        go_round
        case rel => exact ⟨j + 1, by omega, by go_num, HN⟩
        case measure => simp [intOf]; omega
    · obtain rfl : j = 3 := by omega
      go_wp2
      go_ret
      exact ⟨ret_bool (by rw [HW.out, Bool.true_and]; exact decide_eq_decide.2 (by omega)), hB⟩
/-- Can each of the first k numbers be what its word says? -/
def fitB (l : List (Option (Int × Int))) (r : Row) (x : InsD) : Nat → Bool
  | 0 => true
  | k + 1 => fitB l r x k && canB (l.getD (r.at k).toNat none) (x.at k)
theorem fitB_stop {l : List (Option (Int × Int))} {r : Row} {x : InsD} {j : Nat} (h : canB (l.getD (r.at j).toNat none) (x.at j) = false) : ∀ k, j < k → fitB l r x k = false
  | 0, hk => by omega
  | k + 1, hk => by
    unfold fitB
    by_cases e : j = k
    · subst e; rw [h, Bool.and_false]
    · rw [fitB_stop h k (by omega)]; rfl
theorem word_all : (List.range 28).all (fun k => decide (0 ≤ (rowAt k).a) && decide ((rowAt k).a < 12) && decide (0 ≤ (rowAt k).b) && decide ((rowAt k).b < 12) && decide (0 ≤ (rowAt k).c) && decide ((rowAt k).c < 12)) = true := by decide
theorem word_lt (op k : Nat) : 0 ≤ (rowAt op).at k ∧ (rowAt op).at k < 12 := by
  rcases Nat.lt_or_ge op 28 with h | h
  · have := List.all_eq_true.1 word_all op (by simpa using h)
    simp only [Bool.and_eq_true, decide_eq_true_eq] at this
    unfold Row.at; split
    · omega
    · split <;> omega
  · rw [rowAt_out op h]; unfold Row.at noRow; split
    · simp
    · split <;> simp
def fitsB (p : ProgD) (n : Nat) (x : InsD) : Bool := fitB (canL p n) (rowAt x.op) x 3
theorem fits_any (p : ProgD) (n : Nat) (fs : List Value) (x : InsD) (w : World) (hc : CansIn w p n fs) :
    Calls Try.prog 109 #[.agg #[.int .u8 x.op, .int .i64 x.a, .int .i64 x.b, .int .i64 x.c], .agg fs.toArray] w fun e w' => e = .returned (.bool (fitsB p n x)) ∧ Below w.heap.size w w' := by
  have H := of_row x.op
  have HWd := Lib.hid (word_lt x.op)
  unfold fitsB
  generalize rowAt x.op = r at H HWd ⊢
  have H := Lib.hid H
  have HC := Lib.hid hc
  clear hc
  have hf := field_abc r
  go_enter Try.func109, Try.ntmps109
  go_wp2_with (first
    | (go_at_call 128; refine (H.out _).mono ?_; rintro e w1 ⟨rfl, hB1⟩; obtain ⟨k0, k1⟩ := kept_two hB1; have hK1 := Lib.hid k1; obtain ⟨c0, c1, c2, c3⟩ := cells4 k0; have hz : w.heap.size + 1 < w1.heap.size := (by have := hB1.size; simp at this; omega); have hz2 : w.heap.size < w1.heap.size := (by omega); clear k0 k1)
    | (go_at_call 129; refine (numbers_any _ _ _ _ _).mono ?_; rintro e w2 ⟨rfl, hB2⟩))
  have hR := Lib.hid (kept_new hB2)
  have hF := Lib.hid (block_later hK1.out hB2)
  have hB : Below w.heap.size w w2 := ((((Below.refl _ _).alloc (Nat.le_refl _) _).alloc (by simp) _).trans (hB1.mono (by simp; omega))).alloc (by omega) _ |>.trans (hB2.mono (by simp; omega))
  have hlt1 : w1.heap.size < w2.heap.size := by have := hB2.size; simp at this; omega
  clear hB1 hB2 c0 c1 c2 c3
  go_loop [14] (fun i => ∃ j : Nat, j ≤ 3 ∧ i = .int .i64 j ∧ Hid (fitB (canL p n) r x j = true)) (fun i => 3 - (intOf i).toNat)
  case atStart => exact ⟨0, Nat.zero_le _, rfl, Lib.hid rfl⟩
  case round =>
    obtain ⟨j, hj, rfl, HW⟩ := hrel
    by_cases hlt : j < 3
    · have hi := ins_at x j hlt
      have hq := abc_cell hR.out j hlt
      obtain ⟨hm0, hm1⟩ := HWd.out j
      obtain ⟨m, hm⟩ := Int.eq_ofNat_of_zero_le hm0
      have hm12 : m < 12 := by omega
      obtain ⟨f, hf0⟩ := at_lt (l := fs) (k := m) (by rw [HC.out.len]; exact hm12)
      obtain ⟨g, hg0⟩ := at_lt (l := canL p n) (k := m) hm12
      obtain ⟨fn, caps, rfl, hfn, hcall⟩ := HC.out.fn m f g hf0 hg0
      have hcf : w2.cell? ⟨w.heap.size + 1, m, none⟩ = some (.func (.func fn) #[] caps) := by
        rw [cell_of_row _ _ _ _ _ _ hF.out]; simpa using hf0
      have HX := Lib.hid (show canB ((canL p n).getD (r.at j).toNat none) (x.at j) = canB g (x.at j) by
        rw [hm, List.getD_eq_getElem?_getD, Int.toNat_natCast, hg0]; rfl)
      have hcall' := Lib.hid (hcall (x.at j) w2 hB)
      have hfn' := hfn (x.at j)
      rw [hm] at hq
      clear hf0 hg0 hfn hcall hm hm0 hm1
      cases hb : canB g (x.at j)
      · have HN := Lib.hid (fitB_stop (HX.out.trans hb) 3 hlt)
        rw [hb] at hcall'
        clear hb
        go_wp2_with fail
        refine (hcall'.out).mono ?_
        rintro e w3 ⟨rfl, rfl⟩
        go_wp2
        go_ret
        exact ⟨ret_bool (by rw [HN.out]), hB⟩
      · have HN := Lib.hid (show fitB (canL p n) r x (j + 1) = true by unfold fitB; rw [HW.out, HX.out, hb]; rfl)
        rw [hb] at hcall'
        clear hb
        go_wp2_with fail
        refine (hcall'.out).mono ?_
        rintro e w3 ⟨rfl, rfl⟩
        go_wp2
        go_round
        case rel => exact ⟨j + 1, by omega, by go_num, HN⟩
        case measure => simp [intOf]; omega
    · obtain rfl : j = 3 := by omega
      go_wp2
      go_ret
      exact ⟨ret_bool HW.out.symm, hB⟩
theorem threads1_any (b : Nat) (x : InsD) (t : TypeId) (fr : Nat × Nat) (w : World) (h : w.heap[b]? = some (.cells #[.int .u8 x.op, .int .i64 x.a, .int .i64 x.b, .int .i64 x.c] t fr)) :
    Calls Try.prog 106 #[.pointer (some ⟨b, 0, none⟩)] w fun e w' => e = .returned (.int .u16 (unE (knownB x) 20)) ∧ Below w.heap.size w w' := by
  obtain ⟨c0, c1, c2, c3⟩ := cells4 h
  clear h
  go_enter Try.func106, Try.ntmps106
  go_wp2_with fail
  refine (known_ins x _).mono ?_
  rintro e w1 ⟨rfl, hB1⟩
  go_wp2_with fail
  refine (unless_any _ _ _).mono ?_
  rintro e w2 ⟨rfl, rfl⟩
  go_wp2
  go_ret
  exact ⟨rfl, hB1⟩
theorem info_can_fs {fs : List Value} (h : fs.length = 12) : (Try.prog.info? 168).map (·.size) = some fs.toArray.size := by
  rw [List.size_toArray, h]; exact info_can
theorem threads2_any (b c : Nat) (x : InsD) (p : ProgD) (n : Nat) (fs : List Value) (t t2 : TypeId) (fr fr2 : Nat × Nat) (w : World) (h : w.heap[b]? = some (.cells #[.int .u8 x.op, .int .i64 x.a, .int .i64 x.b, .int .i64 x.c] t fr))
    (h2 : w.heap[c]? = some (.cells fs.toArray t2 fr2)) (hc : CansIn w p n fs) :
    Calls Try.prog 108 #[.pointer (some ⟨b, 0, none⟩), .pointer (some ⟨c, 0, none⟩)] w fun e w' => e = .returned (.int .u16 (unE (fitsB p n x) 21)) ∧ Below w.heap.size w w' := by
  obtain ⟨c0, c1, c2, c3⟩ := cells4 h
  have H2 := Lib.hid h2
  have HI := Lib.hid (info_can_fs hc.len)
  clear h h2
  go_enter Try.func108, Try.ntmps108
  go_wp2_with (first
    | (refine wpList_load_row rfl 168 (.tmp 1) rfl c rfl t2 fs.toArray fr2 _ H2.out Try.underlying168 rfl HI.out ?_)
    | (go_at_call 109; refine (fits_any p n fs x _ hc).mono ?_; rintro e w1 ⟨rfl, hB1⟩)
    | (go_at_call 89; refine (unless_any _ _ _).mono ?_; rintro e w2 ⟨rfl, rfl⟩))
  go_ret
  exact ⟨rfl, hB1⟩
theorem info_prog : (Try.prog.info? 28).map (·.size) = some 7 := by kernel_rfl
theorem zero_len {fs : List Value} (h : fs.length = 12) : (#[Value.nilFunc, .nilFunc, .nilFunc, .nilFunc, .nilFunc, .nilFunc, .nilFunc, .nilFunc, .nilFunc, .nilFunc, .nilFunc, .nilFunc] : Array Value).size = fs.toArray.size := by
  show 12 = fs.toArray.size
  rw [List.size_toArray, h]
/-- What is wrong with an instruction, of a thread of n; with a thread's; with all. -/
def insE (p : ProgD) (n : Nat) (x : InsD) : Int := firstE [unE (knownB x) 20, unE (fitsB p n x) 21]
def codeE (p : ProgD) (c : List InsD) : Int := firstE (c.map (insE p c.length))
def threadsE (p : ProgD) : Int := firstE (p.threads.map (codeE p))
theorem first_ins (x : InsD) (p : ProgD) (n : Nat) (fs : List Value) (cb : Nat) (t : TypeId) (u : World) (hcan : u.heap[cb]? = some (.cells fs.toArray t)) (hC : CansIn u p n fs) :
    Calls Try.prog 87 #[.slice (some ⟨u.heap.size + 1, 0, none⟩) 2 2]
      ((u.alloc (.cells #[.int .u8 x.op, .int .i64 x.a, .int .i64 x.b, .int .i64 x.c] 49)).alloc (.cells #[.func (.func 106) #[] #[.pointer (some ⟨u.heap.size, 0, none⟩)], .func (.func 108) #[] #[.pointer (some ⟨u.heap.size, 0, none⟩), .pointer (some ⟨cb, 0, none⟩)]] 153))
      fun e w' => e = .returned (.int .u16 (insE p n x)) ∧ Below ((u.alloc (.cells #[.int .u8 x.op, .int .i64 x.a, .int .i64 x.b, .int .i64 x.c] 49)).alloc (.cells #[.func (.func 106) #[] #[.pointer (some ⟨u.heap.size, 0, none⟩)], .func (.func 108) #[] #[.pointer (some ⟨u.heap.size, 0, none⟩), .pointer (some ⟨cb, 0, none⟩)]] 153)).heap.size ((u.alloc (.cells #[.int .u8 x.op, .int .i64 x.a, .int .i64 x.b, .int .i64 x.c] 49)).alloc (.cells #[.func (.func 106) #[] #[.pointer (some ⟨u.heap.size, 0, none⟩)], .func (.func 108) #[] #[.pointer (some ⟨u.heap.size, 0, none⟩), .pointer (some ⟨cb, 0, none⟩)]] 153)) w' := by
  have hcb : cb < u.heap.size := (Array.getElem?_eq_some_iff.1 hcan).1
  refine first_any [.func (.func 106) #[] #[.pointer (some ⟨u.heap.size, 0, none⟩)], .func (.func 108) #[] #[.pointer (some ⟨u.heap.size, 0, none⟩), .pointer (some ⟨cb, 0, none⟩)]] [unE (knownB x) 20, unE (fitsB p n x) 21] _ 2 _ rfl (by simp) ?_ ?_
  · intro i f hf
    refine ⟨u.heap.size + 1, 0, rfl, by simp, ?_⟩
    rw [cell_of_row _ _ _ _ _ _ (heap_alloc2_new _ _ _)]
    simpa using hf
  · intro i f e hf he _
    have hbelow : Below u.heap.size u ((u.alloc (.cells #[.int .u8 x.op, .int .i64 x.a, .int .i64 x.b, .int .i64 x.c] 49)).alloc (.cells #[.func (.func 106) #[] #[.pointer (some ⟨u.heap.size, 0, none⟩)], .func (.func 108) #[] #[.pointer (some ⟨u.heap.size, 0, none⟩), .pointer (some ⟨cb, 0, none⟩)]] 153)) := ((Below.refl _ _).alloc (Nat.le_refl _) _).alloc (by simp) _
    match i, hf, he with
    | 0, hf, he =>
      cases hf; cases he
      refine ⟨_, _, rfl, fun u => by kernel_rfl, fun v hv => ?_⟩
      exact threads1_any _ x _ _ v (kept_two hv).1
    | 1, hf, he =>
      cases hf; cases he
      refine ⟨_, _, rfl, fun u => by kernel_rfl, fun v hv => ?_⟩
      have hv' : Below u.heap.size u v := hbelow.trans (hv.mono (by simp; omega))
      exact threads2_any _ _ x p n fs _ _ _ _ v (kept_two hv).1 ((hv'.block _ hcb).trans hcan) (hC.later hv')
    | i + 2, hf, he => simp at hf
theorem firstE_map {α : Type} (g : α → Int) (l : List α) (h : ∀ (j : Nat) (x : α), l[j]? = some x → g x = 0) : firstE (l.map g) = 0 :=
  firstE_all fun e he => by
    obtain ⟨x, hx, rfl⟩ := List.mem_map.1 he
    obtain ⟨j, hj⟩ := List.getElem?_of_mem hx
    exact h j x hj
theorem firstE_map_at {α : Type} (g : α → Int) (l : List α) {k : Nat} {x : α} (hk : l[k]? = some x) (hne : g x ≠ 0) (h : ∀ (j : Nat) (y : α), j < k → l[j]? = some y → g y = 0) : firstE (l.map g) = g x :=
  firstE_at (k := k) (by rw [List.getElem?_map, hk]; rfl) hne fun j e hj he => by
    rw [List.getElem?_map] at he
    cases hl : l[j]? with
    | none => rw [hl] at he; cases he
    | some y => rw [hl] at he; cases he; exact h j y hj hl
theorem threads_any (p : ProgD) (ca : Option Addr) (ccap : Nat) (ta : Option Addr) (tcap : Nat) (w : World) (hp : ProgIn w w.heap.size p ca ta) (hs : sizesB p = true) :
    Calls Try.prog 94 #[p.val ca ccap ta tcap] w fun e w' => e = .returned (.int .u16 (threadsE p)) ∧ Below w.heap.size w w' := by
  have HT := Lib.hid hp.threads
  have htl : p.threads.length ≤ 6 := (sizes_parts hs).2.2.2.2.2.2.1.2
  have HL := Lib.hid (sizes_parts hs).2.2.2.2.2.2.2
  have HS := Lib.hid hs
  clear hp hs
  go_enter Try.func94, Try.ntmps94
  go_wp2
  generalize hW : w.alloc _ = W
  have hWB : Below w.heap.size w W := by rw [← hW]; exact (Below.refl _ _).alloc (Nat.le_refl _) _
  have HBx := Lib.hid (show W.heap[w.heap.size]? = some (.cells #[.int .i64 p.vars, .int .i64 p.atoms, .int .i64 p.locks, .slice ca p.chans.length ccap, .int .i64 p.groups, .int .i64 p.onces, .slice ta p.threads.length tcap] 28) by rw [← hW]; exact heap_alloc_new _ _)
  have hWs : w.heap.size < W.heap.size := by rw [← hW]; simp
  clear hW
  go_loopw [12] (fun i wr => ∃ k : Nat, k ≤ p.threads.length ∧ i = .int .i64 k ∧ Below W.heap.size W wr ∧ Hid (∀ (j : Nat) (c : List InsD), j < k → p.threads[j]? = some c → codeE p c = 0)) (fun i _ => p.threads.length - (intOf i).toNat)
  case atStart => exact ⟨0, Nat.zero_le _, rfl, Below.refl _ _, Lib.hid (fun j x hj => by omega)⟩
  case round =>
    obtain ⟨k, hk, rfl, hB, HZ⟩ := hrel
    by_cases hlt : k < p.threads.length
    · obtain ⟨c, hc⟩ := at_lt hlt
      obtain ⟨b, off, rfl, hb, a', cap', hcell, hcode⟩ := HT.out k c hc
      have hBw : Below w.heap.size w wr := hWB.trans (hB.mono (by omega))
      have hcell' := (hBw.cell (p := ⟨b, off + k, none⟩) hb).trans hcell
      have HCode := Lib.hid (hcode.below hBw)
      have HE := Lib.hid hc
      have hcl : c.length ≤ 60 := HL.out c (List.mem_of_getElem? hc)
      have HBr := Lib.hid ((hB.block _ hWs).trans HBx.out)
      have hrs : w.heap.size < wr.heap.size := by have := hB.size; omega
      clear hc hcell hcode
      go_wp2_with (first
        | (refine wpList_load_row rfl 28 (.tmp 1) rfl w.heap.size rfl 28 _ (0, 0) _ HBr.out Try.underlying28 rfl info_prog ?_)
        | (go_at_call 105; refine (allowed_any p ca ccap _ tcap c.length wr hcl HS.out).mono ?_; rintro e w1 ⟨fs, rfl, hC1, hB1⟩; have HI := Lib.hid (info_can_fs hC1.len); have HO := Lib.hid (zero_len hC1.len))
        | (refine wpList_store_row rfl 168 (.tmp 5) (.tmp 19) rfl w1.heap.size fs.toArray rfl rfl 168 _ (heap_alloc_new _ _) HI.out HO.out (all_oneCell_toArray hC1.one) ?_))
      generalize hWc : World.setRow _ _ _ = Wc
      have hWcB : Below w1.heap.size w1 Wc := by rw [← hWc]; exact below_setRow ((Below.refl _ _).alloc (Nat.le_refl _) _) (Nat.le_refl _) _
      have HCan := Lib.hid (show Wc.heap[w1.heap.size]? = some (.cells fs.toArray 168) by rw [← hWc]; exact setRow_heap _ _ _ _ _ _ (heap_alloc_new _ _))
      have HC2 := Lib.hid (hC1.later hWcB)
      have hB2 : Below wr.heap.size wr Wc := below_next hB1 hWcB
      have HCode2 := Lib.hid ((HCode.out).below (hB2.mono (by omega)))
      have hs1 : w1.heap.size < Wc.heap.size := (Array.getElem?_eq_some_iff.1 HCan.out).1
      have hs2 : w.heap.size < Wc.heap.size := by have := hB2.size; omega
      clear hWc hC1 HI HO HCode
      go_loopw [22] (fun i wi => ∃ m : Nat, m ≤ c.length ∧ i = .int .i64 m ∧ Below Wc.heap.size Wc wi ∧ Hid (∀ (j : Nat) (x : InsD), j < m → c[j]? = some x → insE p c.length x = 0)) (fun i _ => c.length - (intOf i).toNat)
      case atStart => exact ⟨0, Nat.zero_le _, rfl, Below.refl _ _, Lib.hid (fun j x hj => by omega)⟩
      case round =>
        obtain ⟨m, hm, rfl, hBi, HZi⟩ := hrel
        by_cases hlm : m < c.length
        · obtain ⟨x, hx⟩ := at_lt hlm
          obtain ⟨b', off', rfl, hb', hI0⟩ := HCode2.out m x hx
          obtain ⟨i0, i1, i2, i3⟩ := hI0.below hb' (hBi.mono (B' := w.heap.size) (by omega))
          have HEx := Lib.hid hx
          clear hx hI0
          have HF := Lib.hid (first_ins x p c.length fs w1.heap.size _ wr ((hBi.block _ hs1).trans HCan.out) (HC2.out.later hBi))
          by_cases hz : insE p c.length x = 0
          · rw [hz] at HF
            have HZ0 := Lib.hid hz
            clear hz
            go_wp2_with fail
            refine (HF.out).mono ?_
            rintro e w3 ⟨rfl, hB3⟩
            go_wp2
            go_roundw
            case rel => exact ⟨m + 1, by omega, by go_num, below_next hBi (((Below.refl _ _).alloc (Nat.le_refl _) _).alloc (by simp) _ |>.trans (hB3.mono (by simp; omega))), Lib.hid (fun j y hj hy => by
              by_cases e : j = m
              · subst e; have := HEx.out; rw [this] at hy; cases hy; exact HZ0.out
              · exact HZi.out j y (by omega) hy)⟩
            case measure => simp [intOf]; omega
          · have HR1 := Lib.hid (show codeE p c = insE p c.length x from firstE_map_at _ _ HEx.out hz HZi.out)
            have HR2 := Lib.hid (show threadsE p = insE p c.length x from (firstE_map_at _ _ HE.out (by rw [HR1.out]; exact hz) HZ.out).trans HR1.out)
            have hz' : (insE p c.length x != 0) = true := by simp [hz]
            clear hz
            generalize insE p c.length x = ee at *
            go_wp2_with fail
            refine (HF.out).mono ?_
            rintro e w3 ⟨rfl, hB3⟩
            go_wp2
            go_ret
            exact ⟨ret_int HR2.out.symm, hWB.trans ((below_next (below_next hB (below_next hB2 hBi)) (((Below.refl _ _).alloc (Nat.le_refl _) _).alloc (by simp) _ |>.trans (hB3.mono (by simp; omega)))).mono (by omega))⟩
        · obtain rfl : m = c.length := by omega
          go_wp2
          go_roundw
          case rel => exact ⟨k + 1, by omega, by go_num, below_next hB (below_next hB2 hBi), Lib.hid (fun j d hj hd => by
            by_cases e : j = k
            · subst e; have := HE.out; rw [this] at hd; cases hd
              exact firstE_map _ _ fun j x hj => HZi.out j x (List.getElem?_eq_some_iff.1 hj).1 hj
            · exact HZ.out j d (by omega) hd)⟩
          case measure => simp [intOf]; omega
    · obtain rfl : k = p.threads.length := by omega
      go_wp2
      go_ret
      exact ⟨ret_int (firstE_map _ _ fun j c hj => HZ.out j c (List.getElem?_eq_some_iff.1 hj).1 hj).symm, hWB.trans (hB.mono (by omega))⟩
/-- A program's box. -/
abbrev boxOf (p : ProgD) (ca : Option Addr) (ccap : Nat) (ta : Option Addr) (tcap : Nat) : Obj := .cells #[.int .i64 p.vars, .int .i64 p.atoms, .int .i64 p.locks, .slice ca p.chans.length ccap, .int .i64 p.groups, .int .i64 p.onces, .slice ta p.threads.length tcap] 28
theorem sound1_any (b : Nat) (p : ProgD) (ca : Option Addr) (ccap : Nat) (ta : Option Addr) (tcap : Nat) (w : World) (h : w.heap[b]? = some (boxOf p ca ccap ta tcap)) (hp : ProgIn w w.heap.size p ca ta) :
    Calls Try.prog 88 #[.pointer (some ⟨b, 0, none⟩)] w fun e w' => e = .returned (.int .u16 (unE (sizesB p) 3)) ∧ Below w.heap.size w w' := by
  have H := Lib.hid h
  have HP := Lib.hid hp
  clear h hp
  go_enter Try.func88, Try.ntmps88
  go_wp2_with (first
    | (refine wpList_load_row rfl 28 (.tmp 0) rfl b rfl 28 _ (0, 0) _ H.out Try.underlying28 rfl info_prog ?_)
    | (go_at_call 90; refine (sizes_any p ca ccap ta tcap _ HP.out).mono ?_; rintro e w1 ⟨rfl, hB1⟩)
    | (go_at_call 89; refine (unless_any _ _ _).mono ?_; rintro e w2 ⟨rfl, rfl⟩))
  go_ret
  exact ⟨rfl, hB1⟩
theorem sound2_any (b : Nat) (p : ProgD) (ca : Option Addr) (ccap : Nat) (ta : Option Addr) (tcap : Nat) (w : World) (h : w.heap[b]? = some (boxOf p ca ccap ta tcap)) (hp : ProgIn w w.heap.size p ca ta) :
    Calls Try.prog 91 #[.pointer (some ⟨b, 0, none⟩)] w fun e w' => e = .returned (.int .u16 (unE (capsB p.chans) 21)) ∧ Below w.heap.size w w' := by
  have hc : w.cell? ⟨b, 3, none⟩ = some (.slice ca p.chans.length ccap) := cell_of_row _ _ _ _ _ _ h
  have HP := Lib.hid hp
  clear h hp
  go_enter Try.func91, Try.ntmps91
  go_wp2_with (first
    | (go_at_call 92; refine (capacities_any p.chans ca ccap _ _ HP.out.chans HP.out.clen).mono ?_; rintro e w1 ⟨rfl, rfl⟩)
    | (go_at_call 89; refine (unless_any _ _ _).mono ?_; rintro e w2 ⟨rfl, rfl⟩))
  go_ret
  exact ⟨rfl, Below.refl _ _⟩
theorem sound3_any (b : Nat) (p : ProgD) (ca : Option Addr) (ccap : Nat) (ta : Option Addr) (tcap : Nat) (w : World) (h : w.heap[b]? = some (boxOf p ca ccap ta tcap)) (hp : ProgIn w w.heap.size p ca ta) (hs : sizesB p = true) :
    Calls Try.prog 93 #[.pointer (some ⟨b, 0, none⟩)] w fun e w' => e = .returned (.int .u16 (threadsE p)) ∧ Below w.heap.size w w' := by
  have H := Lib.hid h
  have HP := Lib.hid hp
  have HS := Lib.hid hs
  clear h hp hs
  go_enter Try.func93, Try.ntmps93
  go_wp2_with (first
    | (refine wpList_load_row rfl 28 (.tmp 0) rfl b rfl 28 _ (0, 0) _ H.out Try.underlying28 rfl info_prog ?_)
    | (go_at_call 94; refine (threads_any p ca ccap ta tcap _ HP.out HS.out).mono ?_; rintro e w1 ⟨rfl, hB1⟩))
  go_ret
  exact ⟨rfl, hB1⟩
/-- What is wrong with a program. -/
def soundE (p : ProgD) : Int := firstE [unE (sizesB p) 3, unE (capsB p.chans) 21, threadsE p]
theorem ProgIn.wide {w : World} {B B' : Nat} {p : ProgD} {ca ta : Option Addr} (h : ProgIn w B p ca ta) (hB : B ≤ B') : ProgIn w B' p ca ta := by
  refine ⟨fun i x hx => ?_, fun k c hc => ?_, h.clen, h.tlen⟩
  · obtain ⟨b, off, h1, h2, h3⟩ := h.chans i x hx
    exact ⟨b, off, h1, by omega, h3⟩
  · obtain ⟨b, off, h1, h2, a', cap', h3, h4⟩ := h.threads k c hc
    refine ⟨b, off, h1, by omega, a', cap', h3, fun j x hx => ?_⟩
    obtain ⟨b, off, h1, h2, h3⟩ := h4 j x hx
    exact ⟨b, off, h1, by omega, h3⟩
abbrev soundFs (g : Nat) : Array Value := #[.func (.func 88) #[] #[.pointer (some ⟨g, 0, none⟩)], .func (.func 91) #[] #[.pointer (some ⟨g, 0, none⟩)], .func (.func 93) #[] #[.pointer (some ⟨g, 0, none⟩)]]
theorem first_sound (p : ProgD) (ca : Option Addr) (ccap : Nat) (ta : Option Addr) (tcap : Nat) (u : World) (hp : ProgIn u u.heap.size p ca ta) :
    Calls Try.prog 87 #[.slice (some ⟨u.heap.size + 1, 0, none⟩) 3 3] ((u.alloc (boxOf p ca ccap ta tcap)).alloc (.cells (soundFs u.heap.size) 153))
      fun e w' => e = .returned (.int .u16 (soundE p)) ∧ Below ((u.alloc (boxOf p ca ccap ta tcap)).alloc (.cells (soundFs u.heap.size) 153)).heap.size ((u.alloc (boxOf p ca ccap ta tcap)).alloc (.cells (soundFs u.heap.size) 153)) w' := by
  refine first_any [.func (.func 88) #[] #[.pointer (some ⟨u.heap.size, 0, none⟩)], .func (.func 91) #[] #[.pointer (some ⟨u.heap.size, 0, none⟩)], .func (.func 93) #[] #[.pointer (some ⟨u.heap.size, 0, none⟩)]] [unE (sizesB p) 3, unE (capsB p.chans) 21, threadsE p] _ 3 _ rfl (by simp) ?_ ?_
  · intro i f hf
    refine ⟨u.heap.size + 1, 0, rfl, by simp, ?_⟩
    rw [cell_of_row _ _ _ _ _ _ (heap_alloc2_new _ _ _)]
    simpa using hf
  · intro i f e hf he hz
    have hbelow : Below u.heap.size u ((u.alloc (boxOf p ca ccap ta tcap)).alloc (.cells (soundFs u.heap.size) 153)) := ((Below.refl _ _).alloc (Nat.le_refl _) _).alloc (by simp) _
    have hP : ∀ v, Below ((u.alloc (boxOf p ca ccap ta tcap)).alloc (.cells (soundFs u.heap.size) 153)).heap.size ((u.alloc (boxOf p ca ccap ta tcap)).alloc (.cells (soundFs u.heap.size) 153)) v → ProgIn v v.heap.size p ca ta := fun v hv => by
      have hv' : Below u.heap.size u v := hbelow.trans (hv.mono (by simp; omega))
      exact (hp.below hv').wide hv'.size
    match i, hf, he with
    | 0, hf, he =>
      cases hf; cases he
      exact ⟨_, _, rfl, fun u => by kernel_rfl, fun v hv => sound1_any _ p ca ccap ta tcap v (kept_two hv).1 (hP v hv)⟩
    | 1, hf, he =>
      cases hf; cases he
      exact ⟨_, _, rfl, fun u => by kernel_rfl, fun v hv => sound2_any _ p ca ccap ta tcap v (kept_two hv).1 (hP v hv)⟩
    | 2, hf, he =>
      cases hf; cases he
      have h0 := hz 0 _ (by omega) rfl
      have hs : sizesB p = true := by
        cases h : sizesB p
        · rw [h] at h0; exact absurd h0 (by decide)
        · rfl
      exact ⟨_, _, rfl, fun u => by kernel_rfl, fun v hv => sound3_any _ p ca ccap ta tcap v (kept_two hv).1 (hP v hv) hs⟩
    | i + 3, hf, he => simp at hf
theorem sound_any (p : ProgD) (ca : Option Addr) (ccap : Nat) (ta : Option Addr) (tcap : Nat) (w : World) (hp : ProgIn w w.heap.size p ca ta) :
    Calls Try.prog 71 #[p.val ca ccap ta tcap] w fun e w' => e = .returned (.int .u16 (soundE p)) ∧ Below w.heap.size w w' := by
  have HF := Lib.hid (first_sound p ca ccap ta tcap w hp)
  clear hp
  go_enter Try.func71, Try.ntmps71
  go_wp2_with fail
  refine (HF.out).mono ?_
  rintro e w1 ⟨rfl, hB1⟩
  go_wp2
  go_ret
  exact ⟨rfl, (((Below.refl _ _).alloc (Nat.le_refl _) _).alloc (by simp) _).trans (hB1.mono (by simp; omega))⟩
end Go.Proofs.Ytnbpneaiibandaa
