/- What package ir's table and its row of an instruction are, for every instruction. -/
import Derived.Test.YtfcfdneganknjaaLawKit
import Derived.Test.YtfcfdneganknjaaBitsRows
import Derived.Deep.MidRow
namespace Go.Proofs.Ytfcfdneganknjaa
set_option linter.unusedVariables false
set_option linter.unusedSimpArgs false
open Go.RowKit

/-- A row of the table: the name, what A, B and C are, plain, acquire, release. -/
structure Row where
  name : ByteArray
  a : Int
  b : Int
  c : Int
  plain : Bool
  acq : Bool
  rel : Bool

def Row.cells (r : Row) : List Value := [.string r.name, .int .u8 r.a, .int .u8 r.b, .int .u8 r.c, .bool r.plain, .bool r.acq, .bool r.rel]

/-- The table. -/
def tab : List Row := [
  ⟨⟨#[110, 111, 112]⟩, 0, 0, 0, true, false, false⟩,
  ⟨⟨#[99, 111, 110, 115, 116]⟩, 1, 3, 0, true, false, false⟩,
  ⟨⟨#[109, 111, 118, 101]⟩, 1, 2, 0, true, false, false⟩,
  ⟨⟨#[97, 100, 100]⟩, 1, 2, 2, true, false, false⟩,
  ⟨⟨#[115, 117, 98]⟩, 1, 2, 2, true, false, false⟩,
  ⟨⟨#[109, 117, 108]⟩, 1, 2, 2, true, false, false⟩,
  ⟨⟨#[108, 101, 115, 115]⟩, 1, 2, 2, true, false, false⟩,
  ⟨⟨#[108, 111, 97, 100]⟩, 1, 6, 0, true, false, false⟩,
  ⟨⟨#[115, 116, 111, 114, 101]⟩, 6, 2, 0, true, false, false⟩,
  ⟨⟨#[112, 114, 105, 110, 116]⟩, 2, 0, 0, false, false, false⟩,
  ⟨⟨#[106, 117, 109, 112]⟩, 4, 0, 0, false, false, false⟩,
  ⟨⟨#[122, 101, 114, 111]⟩, 2, 4, 0, false, false, false⟩,
  ⟨⟨#[103, 111]⟩, 5, 0, 0, false, false, true⟩,
  ⟨⟨#[108, 111, 99, 107]⟩, 8, 0, 0, false, true, false⟩,
  ⟨⟨#[117, 110, 108, 111, 99, 107]⟩, 8, 0, 0, false, false, true⟩,
  ⟨⟨#[114, 108, 111, 99, 107]⟩, 8, 0, 0, false, true, false⟩,
  ⟨⟨#[114, 117, 110, 108, 111, 99, 107]⟩, 8, 0, 0, false, false, true⟩,
  ⟨⟨#[114, 101, 97, 100]⟩, 1, 7, 0, false, true, false⟩,
  ⟨⟨#[119, 114, 105, 116, 101]⟩, 7, 2, 0, false, false, true⟩,
  ⟨⟨#[98, 117, 109, 112]⟩, 1, 7, 2, false, true, true⟩,
  ⟨⟨#[115, 101, 110, 100]⟩, 9, 2, 0, false, true, true⟩,
  ⟨⟨#[114, 101, 99, 118]⟩, 1, 9, 0, false, true, true⟩,
  ⟨⟨#[112, 111, 108, 108]⟩, 1, 9, 1, false, true, true⟩,
  ⟨⟨#[99, 108, 111, 115, 101]⟩, 9, 0, 0, false, false, true⟩,
  ⟨⟨#[103, 114, 111, 119]⟩, 10, 3, 0, false, false, true⟩,
  ⟨⟨#[119, 97, 105, 116]⟩, 10, 0, 0, false, true, false⟩,
  ⟨⟨#[98, 101, 103, 105, 110]⟩, 1, 11, 0, false, true, false⟩,
  ⟨⟨#[101, 110, 100]⟩, 11, 0, 0, false, false, true⟩]
def noRow : Row := ⟨⟨#[]⟩, 0, 0, 0, false, false, false⟩

/-- The row of an instruction; a row of nothing, if the table has none. -/
def rowAt (op : Nat) : Row := tab.getD op noRow

def tabCells : List Value := tab.flatMap Row.cells

theorem info_tab : (Try.prog.info? 145).map (·.size) = some 196 := by kernel_rfl
theorem info_row : (Try.prog.info? 135).map (·.size) = some 7 := by kernel_rfl

/-- A build whose cells are given. -/
theorem wpList_build_as {P : Program} {ops : Array Oper} {rest : List Oper} {o : Oper} {a : Act} {w : World} {Q : Exit → Act → World → Prop} (hg : o.guard = none) (t : TypeId) (parts : Array (Nat × Operand)) (ho : o.op = .build t parts)
    (cells : Array Value) (hc : P.built t (parts.map fun (i, x) => (i, a.eval x)).toList = some cells)
    (h : wpList P ops Q rest (a.put o.dst (.agg cells)) w) : wpList P ops Q (o :: rest) a w :=
  wpList_build hg t parts ho (by rw [hc]; rfl) (by rw [hc]; exact h)

def zeroTab : Array Value := ((List.replicate 28 noRow.cells).flatten).toArray
theorem zero_tab (u : World) : (zeroValue 145).run Try.prog u = .ok (.agg zeroTab) u := by
  have h : (Try.prog.info? 145).map (·.zero) = some (some (.agg zeroTab)) := by kernel_rfl
  cases hq : Try.prog.info? 145 with
  | none => simp [hq] at h
  | some i =>
    have h2 : i.zero = some (.agg zeroTab) := by simpa [hq] using h
    simp [zeroValue, typeInfo, hq, h2]
theorem size_zeroTab : zeroTab.size = tabCells.toArray.size := by kernel_rfl
theorem one_tab : tabCells.toArray.all (·.oneCell') = true := by kernel_rfl
theorem size_tab : (Try.prog.info? 145).map (·.size) = some tabCells.toArray.size := by kernel_rfl

theorem below_setRow {B : Nat} {a w : World} (h : Below B a w) {g : Nat} (hg : B ≤ g) (cs : Array Value) : Below B a (w.setRow g cs) :=
  h.trans ⟨rfl, rfl, rfl, by simp, fun k hk => setRow_other _ _ _ _ (by omega)⟩

set_option maxRecDepth 100000 in
set_option maxHeartbeats 4000000 in
theorem table_any (w : World) :
    Calls Try.prog 92 #[] w fun e w' => e = .returned (.agg tabCells.toArray) ∧ Below w.heap.size w w' := by
  have hz := zero_tab w
  go_enter Try.func92, Try.ntmps92
  go_wp2_with (first
    | (refine wpList_build_as rfl 145 _ rfl tabCells.toArray (by kernel_rfl) ?_)
    | (refine wpList_store_row rfl 145 (.tmp 0) (.tmp 56) rfl w.heap.size tabCells.toArray rfl rfl 145 zeroTab (heap_alloc_new _ _) size_tab size_zeroTab one_tab ?_))
  refine bodyPost_ret (v := .agg tabCells.toArray) (results_cell_row rfl _ _ w.heap.size 145 tabCells.toArray (0, 0) _ rfl (setRow_heap _ _ zeroTab _ _ _ (heap_alloc_new _ _)) Try.underlying145 rfl size_tab) rfl ⟨rfl, ?_⟩
  exact below_setRow ((Below.refl _ _).alloc (Nat.le_refl _) _) (Nat.le_refl _) _

end Go.Proofs.Ytfcfdneganknjaa
