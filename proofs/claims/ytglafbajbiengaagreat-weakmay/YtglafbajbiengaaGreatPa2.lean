/- What the laws of this seat stand on, part 2. -/
import Derived.Test.YtglafbajbiengaaGreatPa0
import Derived.Test.YtglafbajbiengaaGreatPa1
set_option linter.unusedVariables false
set_option linter.unusedSimpArgs false
set_option maxRecDepth 100000
set_option maxHeartbeats 40000000
namespace Go.Proofs.YtglafbajbiengaaGreat
/-- Two to the power of 64, behind a name. -/
def U : Nat := 18446744073709551616
theorem ret_bool {a b : Bool} (h : a = b) : Ending.returned (.bool a) = .returned (.bool b) := by rw [h]
theorem ret_int {k : IntKind} {a b : Int} (h : a = b) : Ending.returned (.int k a) = .returned (.int k b) := by rw [h]
end Go.Proofs.YtglafbajbiengaaGreat
namespace Go.Proofs.YtglafbajbiengaaGreat
open Go.RowKit
theorem RowOf.own {k : IntKind} {w : World} {base : Nat} {e : TypeId} {v : Value} {n : Nat} {l : List Int} (h : w.ownsRow base e 1 v n (l.map (Value.int k))) :
    ∃ a cap, v = .slice a n cap ∧ n = l.length ∧ RowOf k w w.heap.size a l := by
  have hl : l.length = n := by have := h.1; simpa using this
  rcases h.2 with ⟨rfl, hn⟩ | ⟨g, cap, cur, rfl, hg, hh, hn, hcap, hsz, htake⟩
  · subst hn
    obtain rfl : l = [] := List.eq_nil_of_length_eq_zero hl
    exact ⟨none, 0, rfl, rfl, RowOf.nil _ _ _ _⟩
  · refine ⟨some ⟨g, 0, none⟩, cap, rfl, hl.symm, fun i x hx => ⟨g, 0, rfl, (Array.getElem?_eq_some_iff.1 hh).1, ?_⟩⟩
    have hi : i < l.length := by
      rcases Nat.lt_or_ge i l.length with h | h
      · exact h
      · rw [List.getElem?_eq_none h] at hx; cases hx
    rw [Nat.zero_add, h.cellAt i (by omega), List.getElem?_map, hx]
    rfl
end Go.Proofs.YtglafbajbiengaaGreat
namespace Go.Proofs.YtglafbajbiengaaGreat
open Go.RowKit Go.Shelf
attribute [local go_sem] Oper.semAt_some
/-- What a round of the caller must keep: the box in which the set lies. -/
def KeepsBox (B : Nat) (W W' : World) : Prop := W'.heap[B]? = W.heap[B]?
theorem KeepsBox.trans {B : Nat} {X Y Z : World} (h : KeepsBox B X Y) (k : KeepsBox B Y Z) : KeepsBox B X Z := Eq.trans k h
end Go.Proofs.YtglafbajbiengaaGreat
namespace Go.Proofs.YtglafbajbiengaaGreat
open Go.RowKit
theorem Same.len (l m : List Int) (h : l = m) : l.length = m.length := by rw [h]
/-- A row of the table: the name, what A, B and C are, plain, acquire, release. -/
structure Row where
  name : ByteArray
  a : Int
  b : Int
  c : Int
  plain : Bool
  acq : Bool
  rel : Bool
def Row.cells (r : Row) : List Value := [.string r.name, .int .u8 r.a, .int .u8 r.b, .int .u8 r.c, .bool r.plain, .bool r.acq, .bool r.rel]
/-- The table. -/
def tab : List Row := [
  ⟨⟨#[110, 111, 112]⟩, 0, 0, 0, true, false, false⟩,
  ⟨⟨#[99, 111, 110, 115, 116]⟩, 1, 3, 0, true, false, false⟩,
  ⟨⟨#[109, 111, 118, 101]⟩, 1, 2, 0, true, false, false⟩,
  ⟨⟨#[97, 100, 100]⟩, 1, 2, 2, true, false, false⟩,
  ⟨⟨#[115, 117, 98]⟩, 1, 2, 2, true, false, false⟩,
  ⟨⟨#[109, 117, 108]⟩, 1, 2, 2, true, false, false⟩,
  ⟨⟨#[108, 101, 115, 115]⟩, 1, 2, 2, true, false, false⟩,
  ⟨⟨#[108, 111, 97, 100]⟩, 1, 6, 0, true, false, false⟩,
  ⟨⟨#[115, 116, 111, 114, 101]⟩, 6, 2, 0, true, false, false⟩,
  ⟨⟨#[112, 114, 105, 110, 116]⟩, 2, 0, 0, false, false, false⟩,
  ⟨⟨#[106, 117, 109, 112]⟩, 4, 0, 0, false, false, false⟩,
  ⟨⟨#[122, 101, 114, 111]⟩, 2, 4, 0, false, false, false⟩,
  ⟨⟨#[103, 111]⟩, 5, 0, 0, false, false, true⟩,
  ⟨⟨#[108, 111, 99, 107]⟩, 8, 0, 0, false, true, false⟩,
  ⟨⟨#[117, 110, 108, 111, 99, 107]⟩, 8, 0, 0, false, false, true⟩,
  ⟨⟨#[114, 108, 111, 99, 107]⟩, 8, 0, 0, false, true, false⟩,
  ⟨⟨#[114, 117, 110, 108, 111, 99, 107]⟩, 8, 0, 0, false, false, true⟩,
  ⟨⟨#[114, 101, 97, 100]⟩, 1, 7, 0, false, true, false⟩,
  ⟨⟨#[119, 114, 105, 116, 101]⟩, 7, 2, 0, false, false, true⟩,
  ⟨⟨#[98, 117, 109, 112]⟩, 1, 7, 2, false, true, true⟩,
  ⟨⟨#[115, 101, 110, 100]⟩, 9, 2, 0, false, true, true⟩,
  ⟨⟨#[114, 101, 99, 118]⟩, 1, 9, 0, false, true, true⟩,
  ⟨⟨#[112, 111, 108, 108]⟩, 1, 9, 1, false, true, true⟩,
  ⟨⟨#[99, 108, 111, 115, 101]⟩, 9, 0, 0, false, false, true⟩,
  ⟨⟨#[103, 114, 111, 119]⟩, 10, 3, 0, false, false, true⟩,
  ⟨⟨#[119, 97, 105, 116]⟩, 10, 0, 0, false, true, false⟩,
  ⟨⟨#[98, 101, 103, 105, 110]⟩, 1, 11, 0, false, true, false⟩,
  ⟨⟨#[101, 110, 100]⟩, 11, 0, 0, false, false, true⟩]
def noRow : Row := ⟨⟨#[]⟩, 0, 0, 0, false, false, false⟩
/-- The row of an instruction; a row of nothing, if the table has none. -/
def rowAt (op : Nat) : Row := tab.getD op noRow
def tabCells : List Value := tab.flatMap Row.cells
theorem info_row : (Tryz.prog.info? 187).map (·.size) = some 7 := by kernel_rfl
/-- A build whose cells are given. -/
theorem wpList_build_as {P : Program} {ops : Array Oper} {rest : List Oper} {o : Oper} {a : Act} {w : World} {Q : Exit → Act → World → Prop} (hg : o.guard = none) (t : TypeId) (parts : Array (Nat × Operand)) (ho : o.op = .build t parts)
    (cells : Array Value) (hc : P.built t (parts.map fun (i, x) => (i, a.eval x)).toList = some cells)
    (h : wpList P ops Q rest (a.put o.dst (.agg cells)) w) : wpList P ops Q (o :: rest) a w :=
  wpList_build hg t parts ho (by rw [hc]; rfl) (by rw [hc]; exact h)
def zeroTab : Array Value := ((List.replicate 28 noRow.cells).flatten).toArray
theorem zero_tab (u : World) : (zeroValue 200).run Tryz.prog u = .ok (.agg zeroTab) u := by
  have h : (Tryz.prog.info? 200).map (·.zero) = some (some (.agg zeroTab)) := by kernel_rfl
  cases hq : Tryz.prog.info? 200 with
  | none => simp [hq] at h
  | some i =>
    have h2 : i.zero = some (.agg zeroTab) := by simpa [hq] using h
    simp [zeroValue, typeInfo, hq, h2]
theorem size_zeroTab : zeroTab.size = tabCells.toArray.size := by kernel_rfl
theorem one_tab : tabCells.toArray.all (·.oneCell') = true := by kernel_rfl
theorem size_tab : (Tryz.prog.info? 200).map (·.size) = some tabCells.toArray.size := by kernel_rfl
theorem below_setRow {B : Nat} {a w : World} (h : Below B a w) {g : Nat} (hg : B ≤ g) (cs : Array Value) : Below B a (w.setRow g cs) :=
  h.trans ⟨rfl, rfl, rfl, by simp, fun k hk => setRow_other _ _ _ _ (by omega)⟩
theorem table_any (w : World) :
    Calls Tryz.prog 133 #[] w fun e w' => e = .returned (.agg tabCells.toArray) ∧ Below w.heap.size w w' := by
  have hz := zero_tab w
  go_enter Tryz.func133, Tryz.ntmps133
  go_wp2_with (first
    | (refine wpList_build_as rfl 200 _ rfl tabCells.toArray (by kernel_rfl) ?_)
    | (refine wpList_store_row rfl 200 (.tmp 0) (.tmp 56) rfl w.heap.size tabCells.toArray rfl rfl 200 zeroTab (heap_alloc_new _ _) size_tab size_zeroTab one_tab ?_))
  refine bodyPost_ret (v := .agg tabCells.toArray) (results_cell_row rfl _ _ w.heap.size 200 tabCells.toArray (0, 0) _ rfl (setRow_heap _ _ zeroTab _ _ _ (heap_alloc_new _ _)) Tryz.underlying200 rfl size_tab) rfl ⟨rfl, ?_⟩
  exact below_setRow ((Below.refl _ _).alloc (Nat.le_refl _) _) (Nat.le_refl _) _
theorem cut_tab : (List.range 28).map (fun k => List.take 7 (List.drop (k * 7) tabCells)) = (List.range 28).map (fun k => (rowAt k).cells) := by kernel_rfl
theorem cut_at (k : Nat) (h : k < 28) : List.take 7 (List.drop (k * 7) tabCells) = (rowAt k).cells := by
  have := congrArg (fun l => l[k]?) cut_tab
  simpa [h] using this
theorem run_index_tab (kd : IntKind) (k : Nat) (h : k < 28) (u : World) : (Instr.index 200 (.agg tabCells.toArray) (.int kd k)).run Tryz.prog u = .ok (.agg (rowAt k).cells.toArray) u := by
  have h1 : (k : Int) < 28 := by omega
  simp [Instr.index, asIntOf, run_underlying Tryz.underlying200, h1]
  rw [if_pos h]
  simp [part, cut_at k h]
theorem rowAt_out (k : Nat) (h : 28 ≤ k) : rowAt k = noRow := by
  unfold rowAt
  rw [List.getD_eq_getElem?_getD, List.getElem?_eq_none (by simpa [tab] using h)]; rfl
/-- A row as a value. -/
def Row.val (r : Row) : Value := .agg #[.string r.name, .int .u8 r.a, .int .u8 r.b, .int .u8 r.c, .bool r.plain, .bool r.acq, .bool r.rel]
theorem row_size (r : Row) : (Tryz.prog.info? 187).map (·.size) = some r.cells.toArray.size := info_row
theorem row_one_cells (r : Row) : r.cells.toArray.all (·.oneCell') = true := by simp [Row.cells, Value.oneCell']
/-- A block that was new when a call began. -/
theorem kept_new {w w1 : World} {o : Obj} (h : Below (w.alloc o).heap.size (w.alloc o) w1) : w1.heap[w.heap.size]? = some o := (h.block _ (by simp)).trans (heap_alloc_new _ _)
theorem of_in (k : Nat) (w : World) (h : k < 28) :
    Calls Tryz.prog 120 #[.int .u8 k] w fun e w' => e = .returned (rowAt k).val ∧ Below w.heap.size w w' := by
  have hd : decide ((28 : Int) ≤ (k : Int)) = false := by simp; omega
  have hi := run_index_tab .u8 k h
  go_enter Tryz.func120, Tryz.ntmps120
  go_wp2_with (first
    | (go_at_call 133; refine (table_any _).mono ?_; rintro e w1 ⟨rfl, hB1⟩)
    | (refine wpList_store_row rfl 187 (.tmp 2) (.tmp 8) rfl w.heap.size (rowAt k).cells.toArray rfl rfl 187 _ (kept_new hB1) (row_size _) rfl (row_one_cells _) ?_))
  refine bodyPost_ret (v := (rowAt k).val) (results_cell_row rfl _ _ w.heap.size 187 (rowAt k).cells.toArray (0, 0) _ rfl (setRow_heap _ _ _ _ _ _ (kept_new hB1)) Tryz.underlying187 rfl (row_size _)) rfl ⟨rfl, ?_⟩
  exact below_setRow (((Below.refl _ _).alloc (Nat.le_refl _) _).trans (hB1.mono (by simp))) (Nat.le_refl _) _
theorem of_out (k : Nat) (w : World) (h : 28 ≤ k) :
    Calls Tryz.prog 120 #[.int .u8 k] w fun e w' => e = .returned (rowAt k).val ∧ Below w.heap.size w w' := by
  have hd : decide ((28 : Int) ≤ (k : Int)) = true := by simp; omega
  rw [rowAt_out k h]
  go_enter Tryz.func120, Tryz.ntmps120
  go_wp2_with (first
    | (refine wpList_store_row rfl 187 (.tmp 2) (.tmp 5) rfl w.heap.size noRow.cells.toArray rfl rfl 187 _ (heap_alloc_new _ _) (row_size _) rfl (row_one_cells _) ?_))
  refine bodyPost_ret (v := noRow.val) (results_cell_row rfl _ _ w.heap.size 187 noRow.cells.toArray (0, 0) _ rfl (setRow_heap _ _ _ _ _ _ (heap_alloc_new _ _)) Tryz.underlying187 rfl (row_size _)) rfl ⟨rfl, ?_⟩
  exact below_setRow ((Below.refl _ _).alloc (Nat.le_refl _) _) (Nat.le_refl _) _
theorem of_any (k : Nat) (w : World) :
    Calls Tryz.prog 120 #[.int .u8 k] w fun e w' => e = .returned (rowAt k).val ∧ Below w.heap.size w w' := by
  rcases Nat.lt_or_ge k 28 with h | h
  · exact of_in k w h
  · exact of_out k w h
/-- The same, the row laid open. -/
theorem of_row (k : Nat) (w : World) :
    Calls Tryz.prog 120 #[.int .u8 k] w fun e w' => e = .returned (.agg #[.string (rowAt k).name, .int .u8 (rowAt k).a, .int .u8 (rowAt k).b, .int .u8 (rowAt k).c, .bool (rowAt k).plain, .bool (rowAt k).acq, .bool (rowAt k).rel]) ∧ Below w.heap.size w w' := of_any k w
theorem field_abc (r : Row) (u : World) : (Instr.field 187 (.agg #[.string r.name, .int .u8 r.a, .int .u8 r.b, .int .u8 r.c, .bool r.plain, .bool r.acq, .bool r.rel]) 1).run Tryz.prog u = .ok (.agg #[.int .u8 r.a, .int .u8 r.b, .int .u8 r.c]) u := by kernel_rfl
/-- One, if a number is not nought. -/
def nz (x : Int) : Int := if x = 0 then 0 else 1
/-- The number at a place of A, B, C. -/
def Row.at (r : Row) (k : Nat) : Int := if k = 0 then r.a else if k = 1 then r.b else r.c
/-- How many of the first k have a word. -/
def Row.cnt (r : Row) : Nat → Int
  | 0 => 0
  | k + 1 => r.cnt k + nz (r.at k)
/-- An instruction. -/
structure InsD where
  op : Nat
  a : Int
  b : Int
  c : Int
def InsD.at (x : InsD) (k : Nat) : Int := if k = 0 then x.a else if k = 1 then x.b else x.c
theorem ins_0 (x : InsD) (u : World) : (Instr.index 104 (.agg #[.int .i64 x.a, .int .i64 x.b, .int .i64 x.c]) (.int .i64 0)).run Tryz.prog u = .ok (.int .i64 x.a) u := by kernel_rfl
theorem ins_1 (x : InsD) (u : World) : (Instr.index 104 (.agg #[.int .i64 x.a, .int .i64 x.b, .int .i64 x.c]) (.int .i64 1)).run Tryz.prog u = .ok (.int .i64 x.b) u := by kernel_rfl
theorem ins_2 (x : InsD) (u : World) : (Instr.index 104 (.agg #[.int .i64 x.a, .int .i64 x.b, .int .i64 x.c]) (.int .i64 2)).run Tryz.prog u = .ok (.int .i64 x.c) u := by kernel_rfl
theorem ins_at (x : InsD) (k : Nat) (h : k < 3) (u : World) : (Instr.index 104 (.agg #[.int .i64 x.a, .int .i64 x.b, .int .i64 x.c]) (.int .i64 k)).run Tryz.prog u = .ok (.int .i64 (x.at k)) u := by
  obtain rfl | rfl | rfl : k = 0 ∨ k = 1 ∨ k = 2 := by omega
  · exact ins_0 x u
  · exact ins_1 x u
  · exact ins_2 x u
theorem numbers_any (op a b c : Int) (w : World) :
    Calls Tryz.prog 121 #[.agg #[.int .u8 op, .int .i64 a, .int .i64 b, .int .i64 c]] w fun e w' => e = .returned (.agg #[.int .i64 a, .int .i64 b, .int .i64 c]) ∧ Below w.heap.size w w' := by
  go_enter Tryz.func121, Tryz.ntmps121
  go_wp2
  refine bodyPost_ret (v := .agg #[.int .i64 a, .int .i64 b, .int .i64 c]) (by simp [results, Tryz.results121, go_sem]) rfl ⟨rfl, ?_⟩
  exact ((Below.refl _ _).alloc (Nat.le_refl _) _).alloc (by simp) _
theorem abc_cell {w : World} {g : Nat} {r : Row} {t : TypeId} {fr : Nat × Nat} (h : w.heap[g]? = some (.cells #[.int .u8 r.a, .int .u8 r.b, .int .u8 r.c] t fr)) (k : Nat) (hk : k < 3) :
    w.cell? ⟨g, k, none⟩ = some (.int .u8 (r.at k)) := by
  rw [cell_of_row w g k _ _ _ h]
  obtain rfl | rfl | rfl : k = 0 ∨ k = 1 ∨ k = 2 := by omega
  · rfl
  · rfl
  · rfl
/-- Is n from lo to hi? -/
def wiB (n lo hi : Int) : Bool := decide (lo ≤ n) && decide (n ≤ hi)
theorem wiB_true {n lo hi : Int} : wiB n lo hi = true ↔ lo ≤ n ∧ n ≤ hi := by simp [wiB]
theorem within_any (n lo hi : Int) (w : World) :
    Calls Tryz.prog 86 #[.int .i64 n, .int .i64 lo, .int .i64 hi] w fun e w' => e = .returned (.bool (wiB n lo hi)) ∧ w = w' := by
  by_cases h : lo ≤ n
  · have H := Lib.hid (show decide (n ≤ hi) = wiB n lo hi by simp [wiB, h])
    go_enter Tryz.func86, Tryz.ntmps86
    go_wp2
    go_ret
    exact ⟨ret_bool H.out, rfl⟩
  · have hd : decide (lo ≤ n) = false := by simp; omega
    have H := Lib.hid (show false = wiB n lo hi by simp [wiB, h])
    go_enter Tryz.func86, Tryz.ntmps86
    go_wp2
    go_ret
    exact ⟨ret_bool H.out, rfl⟩
theorem within_yes (n lo hi : Int) (w : World) (h : wiB n lo hi = true) :
    Calls Tryz.prog 86 #[.int .i64 n, .int .i64 lo, .int .i64 hi] w fun e w' => e = .returned (.bool true) ∧ w = w' := by
  have := within_any n lo hi w; rwa [h] at this
theorem within_no (n lo hi : Int) (w : World) (h : wiB n lo hi = false) :
    Calls Tryz.prog 86 #[.int .i64 n, .int .i64 lo, .int .i64 hi] w fun e w' => e = .returned (.bool false) ∧ w = w' := by
  have := within_any n lo hi w; rwa [h] at this
/-- e, if what must be so is not. -/
def unE (b : Bool) (e : Int) : Int := if b then 0 else e
theorem unless_any (b : Bool) (e : Int) (w : World) :
    Calls Tryz.prog 66 #[.bool b, .int .u16 e] w fun en w' => en = .returned (.int .u16 (unE b e)) ∧ w = w' := by
  cases b
  · go_enter Tryz.func66, Tryz.ntmps66
    go_wp2
    go_ret
    exact ⟨rfl, rfl⟩
  · go_enter Tryz.func66, Tryz.ntmps66
    go_wp2
    go_ret
    exact ⟨rfl, rfl⟩
/-- The first error of a row. -/
def firstE : List Int → Int
  | [] => 0
  | e :: r => if e = 0 then firstE r else e
/-- A value is a function of no arguments that returns e, from whatever world in which what lay lies as it lay. -/
def CallsTo (w0 : World) (f : Value) (e : Int) : Prop :=
  ∃ fn caps, f = .func (.func fn) #[] caps ∧ (∀ u, (callFunc fn caps).run Tryz.prog u = .ok (.enter fn caps) u) ∧ ∀ w, Below w0.heap.size w0 w → Calls Tryz.prog fn caps w fun en w' => en = .returned (.int .u16 e) ∧ Below w.heap.size w w'
theorem firstE_all {l : List Int} (h : ∀ e ∈ l, e = 0) : firstE l = 0 := by
  induction l with
  | nil => rfl
  | cons a r ih => unfold firstE; rw [if_pos (h a (by simp))]; exact ih fun e he => h e (by simp [he])
theorem firstE_at {l : List Int} : ∀ {k : Nat} {e : Int}, l[k]? = some e → e ≠ 0 → (∀ (j : Nat) (x : Int), j < k → l[j]? = some x → x = 0) → firstE l = e := by
  induction l with
  | nil => intro k e h; simp at h
  | cons a r ih =>
    intro k e h hne hz
    cases k with
    | zero => simp at h; subst h; unfold firstE; rw [if_neg hne]
    | succ k =>
      unfold firstE
      rw [if_pos (hz 0 a (by omega) rfl)]
      exact ih (by simpa using h) hne fun j x hj hx => hz (j + 1) x (by omega) (by simpa using hx)
theorem first_any (fs : List Value) (es : List Int) (a : Option Addr) (cap : Nat) (w : World) (hlen : fs.length = es.length) (hmax : fs.length ≤ 1000)
    (hrow : ∀ (i : Nat) (f : Value), fs[i]? = some f → ∃ b off, a = some ⟨b, off, none⟩ ∧ b < w.heap.size ∧ w.cell? ⟨b, off + i, none⟩ = some f)
    (hc : ∀ (i : Nat) (f : Value) (e : Int), fs[i]? = some f → es[i]? = some e → (∀ (j : Nat) (x : Int), j < i → es[j]? = some x → x = 0) → CallsTo w f e) :
    Calls Tryz.prog 64 #[.slice a fs.length cap] w fun e w' => e = .returned (.int .u16 (firstE es)) ∧ Below w.heap.size w w' := by
  have HL := Lib.hid hlen
  have HR := Lib.hid hrow
  have HC := Lib.hid hc
  clear hlen hrow hc
  go_enter Tryz.func64, Tryz.ntmps64
  go_wp2
  go_loopw [8] (fun i wr => ∃ k : Nat, k ≤ fs.length ∧ i = .int .i64 k ∧ Below w.heap.size w wr ∧ Hid (∀ (j : Nat) (x : Int), j < k → es[j]? = some x → x = 0)) (fun i _ => fs.length - (intOf i).toNat)
  case atStart => exact ⟨0, Nat.zero_le _, rfl, Below.refl _ _, Lib.hid (fun j x hj => by omega)⟩
  case round =>
    obtain ⟨k, hk, rfl, hB, HZ⟩ := hrel
    by_cases hlt : k < fs.length
    · obtain ⟨f, hf⟩ := at_lt hlt
      obtain ⟨e, he⟩ := at_lt (l := es) (k := k) (by rw [← HL.out]; exact hlt)
      obtain ⟨b, off, rfl, hb, hcell⟩ := HR.out k f hf
      obtain ⟨fn, caps, rfl, hfn, hcall⟩ := HC.out k f e hf he HZ.out
      have hcell' := (hB.cell (p := ⟨b, off + k, none⟩) hb).trans hcell
      have HE := Lib.hid he
      have HCall := Lib.hid (hcall wr hB)
      clear hf he hcell hcall
      by_cases hz : e = 0
      · subst hz
        go_wp2_with fail
        refine (HCall.out).mono ?_
        rintro e w1 ⟨rfl, hB1⟩
        go_wp2
        go_roundw
        case rel => exact ⟨k + 1, by omega, by go_num, below_next hB hB1, Lib.hid (fun j x hj hx => by
          by_cases e : j = k
          · subst e; have := HE.out; rw [this] at hx; exact (Option.some.inj hx).symm
          · exact HZ.out j x (by omega) hx)⟩
        case measure => simp [intOf]; omega
      · have hz' : (e != 0) = true := by simp [hz]
        have HF := Lib.hid (firstE_at HE.out hz HZ.out)
        clear hz
        go_wp2_with fail
        refine (HCall.out).mono ?_
        rintro e' w1 ⟨rfl, hB1⟩
        go_wp2
        go_ret
        exact ⟨ret_int HF.out.symm, below_next hB hB1⟩
    · obtain rfl : k = fs.length := by omega
      go_wp2
      go_ret
      exact ⟨ret_int (firstE_all fun x hx => by
        obtain ⟨j, hj⟩ := List.getElem?_of_mem hx
        exact HZ.out j x (by have := (List.getElem?_eq_some_iff.1 hj).1; rw [HL.out]; exact this) hj).symm, hB⟩
/-- A program. -/
structure ProgD where
  vars : Int
  atoms : Int
  locks : Int
  chans : List Int
  groups : Int
  onces : Int
  threads : List (List InsD)
/-- An instruction lies at a place. -/
def InsAt (w : World) (b o : Nat) (x : InsD) : Prop :=
  w.cell? ⟨b, o, none⟩ = some (.int .u8 x.op) ∧ w.cell? ⟨b, o + 1, none⟩ = some (.int .i64 x.a) ∧ w.cell? ⟨b, o + 2, none⟩ = some (.int .i64 x.b) ∧ w.cell? ⟨b, o + 3, none⟩ = some (.int .i64 x.c)
/-- Instructions lie at an address, in a block below B. -/
def CodeIn (w : World) (B : Nat) (a : Option Addr) (code : List InsD) : Prop :=
  ∀ (k : Nat) (x : InsD), code[k]? = some x → ∃ b off, a = some ⟨b, off, none⟩ ∧ b < B ∧ InsAt w b (off + k * 4) x
/-- Threads lie at an address, in blocks below B. -/
def ThreadsIn (w : World) (B : Nat) (a : Option Addr) (ts : List (List InsD)) : Prop :=
  ∀ (k : Nat) (c : List InsD), ts[k]? = some c → ∃ b off, a = some ⟨b, off, none⟩ ∧ b < B ∧ ∃ a' cap', w.cell? ⟨b, off + k, none⟩ = some (.slice a' c.length cap') ∧ CodeIn w B a' c
theorem InsAt.below {w w' : World} {B b o : Nat} {x : InsD} (h : InsAt w b o x) (hb : b < B) (hB : Below B w w') : InsAt w' b o x :=
  ⟨(hB.cell (p := ⟨b, o, none⟩) hb).trans h.1, (hB.cell (p := ⟨b, o + 1, none⟩) hb).trans h.2.1, (hB.cell (p := ⟨b, o + 2, none⟩) hb).trans h.2.2.1, (hB.cell (p := ⟨b, o + 3, none⟩) hb).trans h.2.2.2⟩
theorem CodeIn.below {w w' : World} {B : Nat} {a : Option Addr} {c : List InsD} (h : CodeIn w B a c) (hB : Below B w w') : CodeIn w' B a c := fun k x hx => by
  obtain ⟨b, off, rfl, hb, hi⟩ := h k x hx
  exact ⟨b, off, rfl, hb, hi.below hb hB⟩
theorem ThreadsIn.below {w w' : World} {B : Nat} {a : Option Addr} {ts : List (List InsD)} (h : ThreadsIn w B a ts) (hB : Below B w w') : ThreadsIn w' B a ts := fun k c hc => by
  obtain ⟨b, off, rfl, hb, a', cap', h1, h2⟩ := h k c hc
  exact ⟨b, off, rfl, hb, a', cap', (hB.cell (p := ⟨b, off + k, none⟩) hb).trans h1, h2.below hB⟩
/-- What a program's value leads to lies below B. -/
structure ProgIn (w : World) (B : Nat) (p : ProgD) (ca ta : Option Addr) : Prop where
  chans : RowOf .i64 w B ca p.chans
  threads : ThreadsIn w B ta p.threads
  clen : p.chans.length ≤ 9223372036854775807
  tlen : p.threads.length ≤ 9223372036854775807
theorem ProgIn.below {w w' : World} {B : Nat} {p : ProgD} {ca ta : Option Addr} (h : ProgIn w B p ca ta) (hB : Below B w w') : ProgIn w' B p ca ta := ⟨h.chans.below hB, h.threads.below hB, h.clen, h.tlen⟩
/-- A program's value. -/
abbrev ProgD.val (p : ProgD) (ca : Option Addr) (ccap : Nat) (ta : Option Addr) (tcap : Nat) : Value :=
  .agg #[.int .i64 p.vars, .int .i64 p.atoms, .int .i64 p.locks, .slice ca p.chans.length ccap, .int .i64 p.groups, .int .i64 p.onces, .slice ta p.threads.length tcap]
def capsB (l : List Int) : Bool := l.all fun c => wiB c 1 3
theorem capsB_all {l : List Int} (h : ∀ (j : Nat) (x : Int), l[j]? = some x → wiB x 1 3 = true) : capsB l = true := by
  unfold capsB; rw [List.all_eq_true]; intro x hx
  obtain ⟨j, hj⟩ := List.getElem?_of_mem hx
  exact h j x hj
theorem capsB_no {l : List Int} {j : Nat} {x : Int} (h : l[j]? = some x) (hx : wiB x 1 3 = false) : capsB l = false := by
  unfold capsB; rw [List.all_eq_false]; exact ⟨x, List.mem_of_getElem? h, by simp [hx]⟩
theorem capacities_any (l : List Int) (a : Option Addr) (cap B : Nat) (w : World) (hr : RowOf .i64 w B a l) (hl : l.length ≤ 9223372036854775807) :
    Calls Tryz.prog 69 #[.slice a l.length cap] w fun e w' => e = .returned (.bool (capsB l)) ∧ w = w' := by
  go_enter Tryz.func69, Tryz.ntmps69
  go_wp2
  go_loop [7] (fun i => ∃ k : Nat, k ≤ l.length ∧ i = .int .i64 k ∧ Hid (∀ (j : Nat) (x : Int), j < k → l[j]? = some x → wiB x 1 3 = true)) (fun i => l.length - (intOf i).toNat)
  case atStart => exact ⟨0, Nat.zero_le _, rfl, Lib.hid (fun j x hj => by omega)⟩
  case round =>
    obtain ⟨k, hk, rfl, HZ⟩ := hrel
    by_cases hlt : k < l.length
    · obtain ⟨x, hx⟩ := at_lt hlt
      obtain ⟨b, off, rfl, hb, hcell⟩ := hr k x hx
      have HE := Lib.hid hx
      cases hw : wiB x 1 3
      · have HW := Lib.hid hw
        have HF := Lib.hid (capsB_no hx hw)
        clear hx hw
        go_wp2_with (go_at_call 86; refine (within_no _ _ _ _ HW.out).mono ?_; rintro e w' ⟨rfl, rfl⟩)
        go_ret
        exact ⟨ret_bool HF.out.symm, rfl⟩
      · have HW := Lib.hid hw
        clear hx hw
        go_wp2_with (go_at_call 86; refine (within_yes _ _ _ _ HW.out).mono ?_; rintro e w' ⟨rfl, rfl⟩)
        go_round
        case rel => exact ⟨k + 1, by omega, by go_num, Lib.hid (fun j y hj hy => by
          by_cases e : j = k
          · subst e; have := HE.out; rw [this] at hy; cases hy; exact HW.out
          · exact HZ.out j y (by omega) hy)⟩
        case measure => simp [intOf]; omega
    · obtain rfl : k = l.length := by omega
      go_wp2
      go_ret
      exact ⟨ret_bool (capsB_all fun j x hx => HZ.out j x (List.getElem?_eq_some_iff.1 hx).1 hx).symm, rfl⟩
/-- No more of anything than may be. -/
def numsB (p : ProgD) : Bool := wiB p.vars 0 8 && wiB p.atoms 0 4 && wiB p.locks 0 4 && wiB p.groups 0 4 && wiB p.onces 0 4 && wiB p.chans.length 0 4 && wiB p.threads.length 1 6
def longB (ts : List (List InsD)) : Bool := ts.all fun c => decide (c.length ≤ 60)
def sizesB (p : ProgD) : Bool := longB p.threads && numsB p
theorem longB_all {l : List (List InsD)} (h : ∀ (j : Nat) (x : List InsD), l[j]? = some x → x.length ≤ 60) : longB l = true := by
  unfold longB; rw [List.all_eq_true]; intro x hx
  obtain ⟨j, hj⟩ := List.getElem?_of_mem hx
  simpa using h j x hj
theorem longB_no {l : List (List InsD)} {j : Nat} {x : List InsD} (h : l[j]? = some x) (hx : 60 < x.length) : longB l = false := by
  unfold longB; rw [List.all_eq_false]; exact ⟨x, List.mem_of_getElem? h, by simp; omega⟩
theorem sizes_any (p : ProgD) (ca : Option Addr) (ccap : Nat) (ta : Option Addr) (tcap : Nat) (w : World) (hp : ProgIn w w.heap.size p ca ta) :
    Calls Tryz.prog 67 #[p.val ca ccap ta tcap] w fun e w' => e = .returned (.bool (sizesB p)) ∧ Below w.heap.size w w' := by
  have HT := Lib.hid (hp.threads)
  have htl := hp.tlen
  clear hp
  go_enter Tryz.func67, Tryz.ntmps67
  go_wp2
  go_loop [8] (fun i => ∃ k : Nat, k ≤ p.threads.length ∧ i = .int .i64 k ∧ Hid (∀ (j : Nat) (x : List InsD), j < k → p.threads[j]? = some x → x.length ≤ 60)) (fun i => p.threads.length - (intOf i).toNat)
  case atStart => exact ⟨0, Nat.zero_le _, rfl, Lib.hid (fun j x hj => by omega)⟩
  case round =>
    obtain ⟨k, hk, rfl, HZ⟩ := hrel
    by_cases hlt : k < p.threads.length
    · obtain ⟨x, hx⟩ := at_lt hlt
      obtain ⟨b, off, rfl, hb, a', cap', hcell, _⟩ := HT.out k x hx
      have HE := Lib.hid hx
      by_cases hw : x.length ≤ 60
      · have hd : decide ((60 : Int) < (x.length : Int)) = false := by simp; omega
        clear hx
        go_wp2
        go_round
        case rel => exact ⟨k + 1, by omega, by go_num, Lib.hid (fun j y hj hy => by
          by_cases e : j = k
          · subst e; have := HE.out; rw [this] at hy; cases hy; exact hw
          · exact HZ.out j y (by omega) hy)⟩
        case measure => simp [intOf]; omega
      · have hd : decide ((60 : Int) < (x.length : Int)) = true := by simp; omega
        have HF := Lib.hid (show false = sizesB p by unfold sizesB; rw [longB_no hx (by omega)]; rfl)
        clear hx
        go_wp2
        go_ret
        exact ⟨ret_bool HF.out, (Below.refl _ _).alloc (Nat.le_refl _) _⟩
    · obtain rfl : k = p.threads.length := by omega
      have HL := Lib.hid (show numsB p = sizesB p by unfold sizesB; rw [longB_all fun j x hx => HZ.out j x (List.getElem?_eq_some_iff.1 hx).1 hx]; rfl)
      cases h1 : wiB p.vars 0 8
      · have HN := Lib.hid (show false = sizesB p by rw [← HL.out]; simp [numsB, h1])
        have H1 := Lib.hid h1
        clear h1
        go_wp2_with (first
          | (go_at_call 86; (with_reducible refine (within_no _ _ _ _ H1.out).mono ?_); rintro e w' ⟨rfl, rfl⟩))
        go_ret
        exact ⟨ret_bool HN.out, (Below.refl _ _).alloc (Nat.le_refl _) _⟩
      · skip
        cases h2 : wiB p.atoms 0 4
        · have HN := Lib.hid (show false = sizesB p by rw [← HL.out]; simp [numsB, h1, h2])
          have H1 := Lib.hid h1
          have H2 := Lib.hid h2
          clear h1 h2
          go_wp2_with (first
            | (go_at_call 86; (with_reducible refine (within_no _ _ _ _ H2.out).mono ?_); rintro e w' ⟨rfl, rfl⟩)
            | (go_at_call 86; (with_reducible refine (within_yes _ _ _ _ H1.out).mono ?_); rintro e w' ⟨rfl, rfl⟩))
          go_ret
          exact ⟨ret_bool HN.out, (Below.refl _ _).alloc (Nat.le_refl _) _⟩
        · skip
          cases h3 : wiB p.locks 0 4
          · have HN := Lib.hid (show false = sizesB p by rw [← HL.out]; simp [numsB, h1, h2, h3])
            have H1 := Lib.hid h1
            have H2 := Lib.hid h2
            have H3 := Lib.hid h3
            clear h1 h2 h3
            go_wp2_with (first
              | (go_at_call 86; (with_reducible refine (within_no _ _ _ _ H3.out).mono ?_); rintro e w' ⟨rfl, rfl⟩)
              | (go_at_call 86; (with_reducible refine (within_yes _ _ _ _ H1.out).mono ?_); rintro e w' ⟨rfl, rfl⟩)
              | (go_at_call 86; (with_reducible refine (within_yes _ _ _ _ H2.out).mono ?_); rintro e w' ⟨rfl, rfl⟩))
            go_ret
            exact ⟨ret_bool HN.out, (Below.refl _ _).alloc (Nat.le_refl _) _⟩
          · skip
            cases h4 : wiB p.groups 0 4
            · have HN := Lib.hid (show false = sizesB p by rw [← HL.out]; simp [numsB, h1, h2, h3, h4])
              have H1 := Lib.hid h1
              have H2 := Lib.hid h2
              have H3 := Lib.hid h3
              have H4 := Lib.hid h4
              clear h1 h2 h3 h4
              go_wp2_with (first
                | (go_at_call 86; (with_reducible refine (within_no _ _ _ _ H4.out).mono ?_); rintro e w' ⟨rfl, rfl⟩)
                | (go_at_call 86; (with_reducible refine (within_yes _ _ _ _ H1.out).mono ?_); rintro e w' ⟨rfl, rfl⟩)
                | (go_at_call 86; (with_reducible refine (within_yes _ _ _ _ H2.out).mono ?_); rintro e w' ⟨rfl, rfl⟩)
                | (go_at_call 86; (with_reducible refine (within_yes _ _ _ _ H3.out).mono ?_); rintro e w' ⟨rfl, rfl⟩))
              go_ret
              exact ⟨ret_bool HN.out, (Below.refl _ _).alloc (Nat.le_refl _) _⟩
            · skip
              cases h5 : wiB p.onces 0 4
              · have HN := Lib.hid (show false = sizesB p by rw [← HL.out]; simp [numsB, h1, h2, h3, h4, h5])
                have H1 := Lib.hid h1
                have H2 := Lib.hid h2
                have H3 := Lib.hid h3
                have H4 := Lib.hid h4
                have H5 := Lib.hid h5
                clear h1 h2 h3 h4 h5
                go_wp2_with (first
                  | (go_at_call 86; (with_reducible refine (within_no _ _ _ _ H5.out).mono ?_); rintro e w' ⟨rfl, rfl⟩)
                  | (go_at_call 86; (with_reducible refine (within_yes _ _ _ _ H1.out).mono ?_); rintro e w' ⟨rfl, rfl⟩)
                  | (go_at_call 86; (with_reducible refine (within_yes _ _ _ _ H2.out).mono ?_); rintro e w' ⟨rfl, rfl⟩)
                  | (go_at_call 86; (with_reducible refine (within_yes _ _ _ _ H3.out).mono ?_); rintro e w' ⟨rfl, rfl⟩)
                  | (go_at_call 86; (with_reducible refine (within_yes _ _ _ _ H4.out).mono ?_); rintro e w' ⟨rfl, rfl⟩))
                go_ret
                exact ⟨ret_bool HN.out, (Below.refl _ _).alloc (Nat.le_refl _) _⟩
              · skip
                cases h6 : wiB p.chans.length 0 4
                · have HN := Lib.hid (show false = sizesB p by rw [← HL.out]; simp [numsB, h1, h2, h3, h4, h5, h6])
                  have H1 := Lib.hid h1
                  have H2 := Lib.hid h2
                  have H3 := Lib.hid h3
                  have H4 := Lib.hid h4
                  have H5 := Lib.hid h5
                  have H6 := Lib.hid h6
                  clear h1 h2 h3 h4 h5 h6
                  go_wp2_with (first
                    | (go_at_call 86; (with_reducible refine (within_no _ _ _ _ H6.out).mono ?_); rintro e w' ⟨rfl, rfl⟩)
                    | (go_at_call 86; (with_reducible refine (within_yes _ _ _ _ H1.out).mono ?_); rintro e w' ⟨rfl, rfl⟩)
                    | (go_at_call 86; (with_reducible refine (within_yes _ _ _ _ H2.out).mono ?_); rintro e w' ⟨rfl, rfl⟩)
                    | (go_at_call 86; (with_reducible refine (within_yes _ _ _ _ H3.out).mono ?_); rintro e w' ⟨rfl, rfl⟩)
                    | (go_at_call 86; (with_reducible refine (within_yes _ _ _ _ H4.out).mono ?_); rintro e w' ⟨rfl, rfl⟩)
                    | (go_at_call 86; (with_reducible refine (within_yes _ _ _ _ H5.out).mono ?_); rintro e w' ⟨rfl, rfl⟩))
                  go_ret
                  exact ⟨ret_bool HN.out, (Below.refl _ _).alloc (Nat.le_refl _) _⟩
                · skip
                  cases h7 : wiB p.threads.length 1 6
                  · have HN := Lib.hid (show false = sizesB p by rw [← HL.out]; simp [numsB, h1, h2, h3, h4, h5, h6, h7])
                    have H1 := Lib.hid h1
                    have H2 := Lib.hid h2
                    have H3 := Lib.hid h3
                    have H4 := Lib.hid h4
                    have H5 := Lib.hid h5
                    have H6 := Lib.hid h6
                    have H7 := Lib.hid h7
                    clear h1 h2 h3 h4 h5 h6 h7
                    go_wp2_with (first
                      | (go_at_call 86; (with_reducible refine (within_no _ _ _ _ H7.out).mono ?_); rintro e w' ⟨rfl, rfl⟩)
                      | (go_at_call 86; (with_reducible refine (within_yes _ _ _ _ H1.out).mono ?_); rintro e w' ⟨rfl, rfl⟩)
                      | (go_at_call 86; (with_reducible refine (within_yes _ _ _ _ H2.out).mono ?_); rintro e w' ⟨rfl, rfl⟩)
                      | (go_at_call 86; (with_reducible refine (within_yes _ _ _ _ H3.out).mono ?_); rintro e w' ⟨rfl, rfl⟩)
                      | (go_at_call 86; (with_reducible refine (within_yes _ _ _ _ H4.out).mono ?_); rintro e w' ⟨rfl, rfl⟩)
                      | (go_at_call 86; (with_reducible refine (within_yes _ _ _ _ H5.out).mono ?_); rintro e w' ⟨rfl, rfl⟩)
                      | (go_at_call 86; (with_reducible refine (within_yes _ _ _ _ H6.out).mono ?_); rintro e w' ⟨rfl, rfl⟩))
                    go_ret
                    exact ⟨ret_bool HN.out, (Below.refl _ _).alloc (Nat.le_refl _) _⟩
                  · skip
                    have HN := Lib.hid (show true = sizesB p by rw [← HL.out]; simp [numsB, h1, h2, h3, h4, h5, h6, h7])
                    have H1 := Lib.hid h1
                    have H2 := Lib.hid h2
                    have H3 := Lib.hid h3
                    have H4 := Lib.hid h4
                    have H5 := Lib.hid h5
                    have H6 := Lib.hid h6
                    have H7 := Lib.hid h7
                    clear h1 h2 h3 h4 h5 h6 h7
                    go_wp2_with (first
                      | (go_at_call 86; (with_reducible refine (within_yes _ _ _ _ H1.out).mono ?_); rintro e w' ⟨rfl, rfl⟩)
                      | (go_at_call 86; (with_reducible refine (within_yes _ _ _ _ H2.out).mono ?_); rintro e w' ⟨rfl, rfl⟩)
                      | (go_at_call 86; (with_reducible refine (within_yes _ _ _ _ H3.out).mono ?_); rintro e w' ⟨rfl, rfl⟩)
                      | (go_at_call 86; (with_reducible refine (within_yes _ _ _ _ H4.out).mono ?_); rintro e w' ⟨rfl, rfl⟩)
                      | (go_at_call 86; (with_reducible refine (within_yes _ _ _ _ H5.out).mono ?_); rintro e w' ⟨rfl, rfl⟩)
                      | (go_at_call 86; (with_reducible refine (within_yes _ _ _ _ H6.out).mono ?_); rintro e w' ⟨rfl, rfl⟩)
                      | (go_at_call 86; (with_reducible refine (within_yes _ _ _ _ H7.out).mono ?_); rintro e w' ⟨rfl, rfl⟩))
                    go_ret
                    exact ⟨ret_bool HN.out, (Below.refl _ _).alloc (Nat.le_refl _) _⟩
end Go.Proofs.YtglafbajbiengaaGreat
