/- What the laws of this seat stand on, part 13. -/
import Derived.Test.YtglafbajbiengaaGreatPa0
import Derived.Test.YtglafbajbiengaaGreatPa12
set_option linter.unusedVariables false
set_option linter.unusedSimpArgs false
set_option maxRecDepth 100000
set_option maxHeartbeats 40000000
namespace Go.Proofs.YtglafbajbiengaaGreat
open Go.ChangeShapes Go.WideShapes Go.ChangeAt Go.RowKit
theorem row_one8 (w : World) (x : Int) : RowOf .u8 (w.alloc (.cells #[.int .u8 x] 5)) (w.alloc (.cells #[.int .u8 x] 5)).heap.size (some ⟨w.heap.size, 0, none⟩) [x] := fun i y hy => by
  match i with
  | 0 => cases hy; exact ⟨_, 0, rfl, by simp, cell_of_row _ _ 0 _ _ _ (heap_alloc_new _ _)⟩
  | i + 1 => cases hy
theorem row_two8 (w : World) (x z : Int) : RowOf .u8 (w.alloc (.cells #[.int .u8 x, .int .u8 z] 5)) (w.alloc (.cells #[.int .u8 x, .int .u8 z] 5)).heap.size (some ⟨w.heap.size, 0, none⟩) [x, z] := fun i y hy => by
  match i with
  | 0 => cases hy; exact ⟨_, 0, rfl, by simp, cell_of_row _ _ 0 _ _ _ (heap_alloc_new _ _)⟩
  | 1 => cases hy; exact ⟨_, 0, rfl, by simp, cell_of_row _ _ 1 _ _ _ (heap_alloc_new _ _)⟩
  | i + 2 => cases hy
/-- What a maker of a side hands out. -/
def SideE (Y : Nat → Prop) (s : Sd) (w : World) (e : Ending) (w' : World) : Prop := ∃ v, e = .returned v ∧ SideV Y w' v s ∧ v.oneCell' = true ∧ Below w.heap.size w w'
def WhE (Y : Nat → Prop) (s : Option Wh) (w : World) (e : Ending) (w' : World) : Prop := ∃ v, e = .returned v ∧ WhV Y w' v s ∧ v.oneCell' = true ∧ Below w.heap.size w w'
theorem ops_any (Y : Nat → Prop) (a : Option Addr) (cap n : Nat) (l : List Int) (w : World) (h : RowOf .u8 w w.heap.size a l) (hn : n = l.length) (hl : l.length ≤ 1000000) (hY : ∀ g, Y g → g < w.heap.size) (hYa : l ≠ [] → ∀ c off, a = some ⟨c, off, none⟩ → ¬ Y c) :
    Calls Tryz.prog 112 #[.slice a n cap] w (SideE Y (opsS l) w) := by
  subst hn
  have HR := Lib.hid h
  clear h
  go_enter Tryz.func112, Tryz.ntmps112
  go_wp2
  go_ret
  have hB := below_box w (.cells #[.slice a l.length cap] 38)
  exact ⟨_, rfl, side_ops (fun h => Nat.lt_irrefl _ (hY _ h)) hYa (cell_of_row _ _ 0 _ _ _ (heap_alloc_new _ _)) ((HR.out.below hB).more hB.size) hl, rfl, hB⟩
theorem mode_any (Y : Nat → Prop) (m : Int) (a : Option Addr) (cap n : Nat) (l : List Int) (w : World) (h : RowOf .u8 w w.heap.size a l) (hn : n = l.length) (hl : l.length ≤ 1000000) (hY : ∀ g, Y g → g < w.heap.size) (hYa : l ≠ [] → ∀ c off, a = some ⟨c, off, none⟩ → ¬ Y c) :
    Calls Tryz.prog 108 #[.int .i64 m, .slice a n cap] w (SideE Y (modeS m l) w) := by
  have hB := below_box w (.cells #[.int .i64 m] 3)
  have HO := Lib.hid (ops_any Y a cap n l _ ((h.below hB).more hB.size) hn hl (fun g h => Nat.lt_of_lt_of_le (hY g h) hB.size) hYa)
  clear h hn
  go_enter Tryz.func108, Tryz.ntmps108
  go_wp2_with fail
  refine HO.out.mono ?_
  rintro e w1 ⟨v, rfl, hS, h1, hB1⟩
  obtain ⟨fn, cp, rfl, hcf, hs⟩ := hS
  have HS : Hid (SideV Y w1 (.func (.func fn) #[] cp) (opsS l)) := Lib.hid ⟨fn, cp, rfl, hcf, hs⟩
  have HB1 := Lib.hid hB1
  clear hs hcf h1 hB1
  have hst : (store ⟨w1.heap.size, 0, none⟩ (.func (.func fn) #[] cp)).run Tryz.prog (w1.alloc (.cells #[.nilFunc] 152)) = .ok () (w1.alloc (.cells #[.func (.func fn) #[] cp] 152)) := by
    rw [run_store _ _ _ _ _ rfl, show (w1.alloc (.cells #[.nilFunc] 152)).cell? ⟨w1.heap.size, 0, none⟩ = some .nilFunc from cell_of_row _ _ 0 _ _ _ (heap_alloc_new _ _), show (w1.alloc (.cells #[.nilFunc] 152)).frozen? ⟨w1.heap.size, 0, none⟩ = false from frozen_of_row _ _ 0 _ _ (heap_alloc_new _ _)]
    simp only [Bool.false_eq_true, if_false]
    rw [setCell_eq_setRow _ _ _ _ _ _ _ (heap_alloc_new _ _), World.setRow_alloc_new]
    rfl
  go_wp2
  go_ret
  have hB2 := below_box w1 (.cells #[.func (.func fn) #[] cp] 152)
  have hN := (heap_alloc_new w (.cells #[.int .i64 m] 3))
  have hM := old_later (old_later hN HB1.out) hB2
  refine ⟨_, rfl, side_mode (fun h => by have := hY _ h; have := HB1.out.size; simp at this; omega) (fun h => Nat.lt_irrefl _ (hY _ h)) (cell_of_row _ _ 0 _ _ _ (heap_alloc_new _ _)) (cell_of_row _ _ 0 _ _ _ hM) (HS.out.later hB2), rfl, ?_⟩
  exact below_next (below_next hB HB1.out) hB2
theorem paired_any (Y : Nat → Prop) (v : Value) (room : Int → Int) (w : World) (h : RoomV Y w v room) (h1 : v.oneCell' = true) (hY : ∀ g, Y g → g < w.heap.size) :
    Calls Tryz.prog 114 #[v] w (WhE Y (some (pairW room)) w) := by
  obtain ⟨fn, cap, rfl, hc, hrg, hs⟩ := h
  have hB := below_box w (.cells #[.func (.func fn) #[] cap] 118)
  have HR : Hid (RoomV Y (w.alloc (.cells #[.func (.func fn) #[] cap] 118)) (.func (.func fn) #[] cap) room) := Lib.hid ⟨fn, cap, rfl, hc, hrg, fun u hu => hs u ((Touch.of_below (X := Y) hB).trans hu fun _ _ h => h)⟩
  clear hc hrg hs
  go_enter Tryz.func114, Tryz.ntmps114
  go_wp2
  go_ret
  exact ⟨_, rfl, wh_pair (fun h => Nat.lt_irrefl _ (hY _ h)) (cell_of_row _ _ 0 _ _ _ (heap_alloc_new _ _)) HR.out, rfl, hB⟩
/-- What rules hands out: thirty function values. -/
structure RulesV (Y : Nat → Prop) (w : World) (R : Array Value) (chans : List Int) : Prop where
  size : R.size = 30
  one : R.all (·.oneCell') = true
  get : ∀ k r, (rulesL chans)[k]? = some r → ∃ va vb vw, R[k * 3]? = some va ∧ R[k * 3 + 1]? = some vb ∧ R[k * 3 + 2]? = some vw ∧ SideV Y w va r.a ∧ SideV Y w vb r.b ∧ WhV Y w vw r.wh
theorem RulesV.touch {Y : Nat → Prop} {w w' : World} {R : Array Value} {chans : List Int} (h : RulesV Y w R chans) (hB : Touch Y w w') : RulesV Y w' R chans :=
  ⟨h.size, h.one, fun k r hr => by
    obtain ⟨va, vb, vw, h1, h2, h3, h4, h5, h6⟩ := h.get k r hr
    exact ⟨va, vb, vw, h1, h2, h3, h4.touch hB, h5.touch hB, h6.touch hB⟩⟩
theorem RulesV.later {Y : Nat → Prop} {w w' : World} {R : Array Value} {chans : List Int} (h : RulesV Y w R chans) (hB : Below w.heap.size w w') : RulesV Y w' R chans := h.touch (Touch.of_below hB)
theorem SideV.weak {Y Y' : Nat → Prop} {w : World} {v : Value} {s : Sd} (h : SideV Y w v s) (hy : ∀ g, Y' g → Y g) : SideV Y' w v s := by
  obtain ⟨fn, cap, rfl, hc, h⟩ := h
  exact ⟨fn, cap, rfl, hc, fun u hu => h u (hu.mono fun g _ q => hy g q)⟩
theorem WhV.weak {Y Y' : Nat → Prop} {w : World} {v : Value} {s : Option Wh} (h : WhV Y w v s) (hy : ∀ g, Y' g → Y g) : WhV Y' w v s := by
  cases s with
  | none => exact h
  | some f =>
    obtain ⟨fn, cap, rfl, hc, h⟩ := h
    exact ⟨fn, cap, rfl, hc, fun u hu => h u (hu.mono fun g _ q => hy g q)⟩
theorem RulesV.weak {Y Y' : Nat → Prop} {w : World} {R : Array Value} {chans : List Int} (h : RulesV Y w R chans) (hy : ∀ g, Y' g → Y g) : RulesV Y' w R chans :=
  ⟨h.size, h.one, fun k r hr => by
    obtain ⟨va, vb, vw, h1, h2, h3, h4, h5, h6⟩ := h.get k r hr
    exact ⟨va, vb, vw, h1, h2, h3, h4.weak hy, h5.weak hy, h6.weak hy⟩⟩
def YR (Y : Nat → Prop) (w : World) (g : Nat) : Prop := Y g ∨ g = w.heap.size + 1
def RulesE (Y : Nat → Prop) (chans : List Int) (w : World) (e : Ending) (w' : World) : Prop := ∃ R, e = .returned (.agg R) ∧ RulesV Y w' R chans ∧ Below w.heap.size w w'
theorem info_rules : (Tryz.prog.info? 156).map (·.size) = some 30 := by kernel_rfl
theorem rules_any (Y : Nat → Prop) (v0 v1 v2 : Value) (ca : Option Addr) (ccap : Nat) (chans : List Int) (v4 v5 v6 : Value) (w : World) (hr : RowOf .i64 w w.heap.size ca chans) (hl : chans.length ≤ 1000000) (hx : ∀ c ∈ chans, -9223372036854775808 ≤ c ∧ c ≤ 9223372036854775807) (hY : ∀ g, Y g → g < w.heap.size) (hYa : chans ≠ [] → ∀ c off, ca = some ⟨c, off, none⟩ → ¬ Y c) :
    Calls Tryz.prog 83 #[.agg #[v0, v1, v2, .slice ca chans.length ccap, v4, v5, v6]] w (RulesE Y chans w) := by
  have hYR : ∀ g, YR Y w g → g < w.heap.size + 2 := fun g h => by
    rcases h with h | h
    · have := hY g h; omega
    · omega
  have hY0 : ¬ YR Y w w.heap.size := fun h => by
    rcases h with h | h
    · exact Nat.lt_irrefl _ (hY _ h)
    · omega
  have HR := Lib.hid hr
  have HX := Lib.hid hx
  clear hr hx
  go_enter Tryz.func83, Tryz.ntmps83
  go_upto_region 1 with (fail)
  generalize hW : World.alloc (World.alloc w _) _ = W
  have HB0 : Hid (Below w.heap.size w W) := Lib.hid (by rw [← hW]; exact below_two _ _ _)
  have n1 := (congrArg (fun x : World => x.heap[w.heap.size]?) hW).symm.trans ((Below.heap_alloc _ _ _ (by simp)).trans (heap_alloc_new _ _))
  have n2 := (congrArg (fun x : World => x.heap[w.heap.size + 1]?) hW).symm.trans (heap_alloc2_new _ _ _)
  have HN1 := Lib.hid n1
  have HN2 := Lib.hid n2
  have hw2 : w.heap.size + 1 < W.heap.size := (Array.getElem?_eq_some_iff.1 n2).1
  have HCa : Hid (chans ≠ [] → ∀ c off, ca = some ⟨c, off, none⟩ → ¬ YR Y w c) := Lib.hid (fun hne c off h q => by
    have hq := q.resolve_left (hYa hne c off h)
    obtain ⟨x, hx⟩ := at_lt (l := chans) (k := 0) (by cases chans with | nil => exact absurd rfl hne | cons => simp)
    obtain ⟨g, o, e, hg, _⟩ := HR.out 0 x hx
    rw [h] at e; cases e; omega)
  clear hW n1 n2
  go_wp2_with fail
  refine (mode_any _ 1 _ _ _ [21, 22] _ (row_two8 W 21 22) rfl (by simp) (fun g h => (by have := hYR g h; simp; omega)) (fun _ c off h => (by cases h; intro q; have := hYR _ q; omega))).mono ?_
  rintro e w1 ⟨v, rfl, hS, h1, hB⟩
  obtain ⟨fn1, cp1, rfl, hcf, hs⟩ := hS
  have S1 : Hid (SideV (YR Y w) w1 (.func (.func fn1) #[] cp1) (modeS 1 [21, 22])) := Lib.hid ⟨fn1, cp1, rfl, hcf, hs⟩
  have B1 : Hid (Below W.heap.size W w1) := Lib.hid (below_next (below_box W _) hB)
  have C1 : Hid (Below W.heap.size W w1) := Lib.hid (B1.out)
  clear hs hcf h1 hB
  go_wp2_with fail
  refine (ops_any _ _ _ _ [12] _ (row_one8 w1 12) rfl (by simp) (fun g h => (by have := hYR g h; have := C1.out.size; simp; omega)) (fun _ c off h => (by cases h; intro q; have := hYR _ q; have := C1.out.size; omega))).mono ?_
  rintro e w2 ⟨v, rfl, hS, h1, hB⟩
  obtain ⟨fn2, cp2, rfl, hcf, hs⟩ := hS
  have S2 : Hid (SideV (YR Y w) w2 (.func (.func fn2) #[] cp2) (opsS [12])) := Lib.hid ⟨fn2, cp2, rfl, hcf, hs⟩
  have B2 : Hid (Below w1.heap.size w1 w2) := Lib.hid (below_next (below_box w1 _) hB)
  have C2 : Hid (Below W.heap.size W w2) := Lib.hid (below_next C1.out B2.out)
  clear hs hcf h1 hB
  go_wp2_with fail
  refine (ops_any _ _ _ _ [14] _ (row_one8 w2 14) rfl (by simp) (fun g h => (by have := hYR g h; have := C2.out.size; simp; omega)) (fun _ c off h => (by cases h; intro q; have := hYR _ q; have := C2.out.size; omega))).mono ?_
  rintro e w3 ⟨v, rfl, hS, h1, hB⟩
  obtain ⟨fn3, cp3, rfl, hcf, hs⟩ := hS
  have S3 : Hid (SideV (YR Y w) w3 (.func (.func fn3) #[] cp3) (opsS [14])) := Lib.hid ⟨fn3, cp3, rfl, hcf, hs⟩
  have B3 : Hid (Below w2.heap.size w2 w3) := Lib.hid (below_next (below_box w2 _) hB)
  have C3 : Hid (Below W.heap.size W w3) := Lib.hid (below_next C2.out B3.out)
  clear hs hcf h1 hB
  go_wp2_with fail
  refine (ops_any _ _ _ _ [13, 15] _ (row_two8 w3 13 15) rfl (by simp) (fun g h => (by have := hYR g h; have := C3.out.size; simp; omega)) (fun _ c off h => (by cases h; intro q; have := hYR _ q; have := C3.out.size; omega))).mono ?_
  rintro e w4 ⟨v, rfl, hS, h1, hB⟩
  obtain ⟨fn4, cp4, rfl, hcf, hs⟩ := hS
  have S4 : Hid (SideV (YR Y w) w4 (.func (.func fn4) #[] cp4) (opsS [13, 15])) := Lib.hid ⟨fn4, cp4, rfl, hcf, hs⟩
  have B4 : Hid (Below w3.heap.size w3 w4) := Lib.hid (below_next (below_box w3 _) hB)
  have C4 : Hid (Below W.heap.size W w4) := Lib.hid (below_next C3.out B4.out)
  clear hs hcf h1 hB
  go_wp2_with fail
  refine (ops_any _ _ _ _ [16] _ (row_one8 w4 16) rfl (by simp) (fun g h => (by have := hYR g h; have := C4.out.size; simp; omega)) (fun _ c off h => (by cases h; intro q; have := hYR _ q; have := C4.out.size; omega))).mono ?_
  rintro e w5 ⟨v, rfl, hS, h1, hB⟩
  obtain ⟨fn5, cp5, rfl, hcf, hs⟩ := hS
  have S5 : Hid (SideV (YR Y w) w5 (.func (.func fn5) #[] cp5) (opsS [16])) := Lib.hid ⟨fn5, cp5, rfl, hcf, hs⟩
  have B5 : Hid (Below w4.heap.size w4 w5) := Lib.hid (below_next (below_box w4 _) hB)
  have C5 : Hid (Below W.heap.size W w5) := Lib.hid (below_next C4.out B5.out)
  clear hs hcf h1 hB
  go_wp2_with fail
  refine (ops_any _ _ _ _ [13] _ (row_one8 w5 13) rfl (by simp) (fun g h => (by have := hYR g h; have := C5.out.size; simp; omega)) (fun _ c off h => (by cases h; intro q; have := hYR _ q; have := C5.out.size; omega))).mono ?_
  rintro e w6 ⟨v, rfl, hS, h1, hB⟩
  obtain ⟨fn6, cp6, rfl, hcf, hs⟩ := hS
  have S6 : Hid (SideV (YR Y w) w6 (.func (.func fn6) #[] cp6) (opsS [13])) := Lib.hid ⟨fn6, cp6, rfl, hcf, hs⟩
  have B6 : Hid (Below w5.heap.size w5 w6) := Lib.hid (below_next (below_box w5 _) hB)
  have C6 : Hid (Below W.heap.size W w6) := Lib.hid (below_next C5.out B6.out)
  clear hs hcf h1 hB
  go_wp2_with fail
  refine (ops_any _ _ _ _ [18, 19] _ (row_two8 w6 18 19) rfl (by simp) (fun g h => (by have := hYR g h; have := C6.out.size; simp; omega)) (fun _ c off h => (by cases h; intro q; have := hYR _ q; have := C6.out.size; omega))).mono ?_
  rintro e w7 ⟨v, rfl, hS, h1, hB⟩
  obtain ⟨fn7, cp7, rfl, hcf, hs⟩ := hS
  have S7 : Hid (SideV (YR Y w) w7 (.func (.func fn7) #[] cp7) (opsS [18, 19])) := Lib.hid ⟨fn7, cp7, rfl, hcf, hs⟩
  have B7 : Hid (Below w6.heap.size w6 w7) := Lib.hid (below_next (below_box w6 _) hB)
  have C7 : Hid (Below W.heap.size W w7) := Lib.hid (below_next C6.out B7.out)
  clear hs hcf h1 hB
  go_wp2_with fail
  refine (ops_any _ _ _ _ [17, 19] _ (row_two8 w7 17 19) rfl (by simp) (fun g h => (by have := hYR g h; have := C7.out.size; simp; omega)) (fun _ c off h => (by cases h; intro q; have := hYR _ q; have := C7.out.size; omega))).mono ?_
  rintro e w8 ⟨v, rfl, hS, h1, hB⟩
  obtain ⟨fn8, cp8, rfl, hcf, hs⟩ := hS
  have S8 : Hid (SideV (YR Y w) w8 (.func (.func fn8) #[] cp8) (opsS [17, 19])) := Lib.hid ⟨fn8, cp8, rfl, hcf, hs⟩
  have B8 : Hid (Below w7.heap.size w7 w8) := Lib.hid (below_next (below_box w7 _) hB)
  have C8 : Hid (Below W.heap.size W w8) := Lib.hid (below_next C7.out B8.out)
  clear hs hcf h1 hB
  go_wp2_with fail
  refine (ops_any _ _ _ _ [20] _ (row_one8 w8 20) rfl (by simp) (fun g h => (by have := hYR g h; have := C8.out.size; simp; omega)) (fun _ c off h => (by cases h; intro q; have := hYR _ q; have := C8.out.size; omega))).mono ?_
  rintro e w9 ⟨v, rfl, hS, h1, hB⟩
  obtain ⟨fn9, cp9, rfl, hcf, hs⟩ := hS
  have S9 : Hid (SideV (YR Y w) w9 (.func (.func fn9) #[] cp9) (opsS [20])) := Lib.hid ⟨fn9, cp9, rfl, hcf, hs⟩
  have B9 : Hid (Below w8.heap.size w8 w9) := Lib.hid (below_next (below_box w8 _) hB)
  have C9 : Hid (Below W.heap.size W w9) := Lib.hid (below_next C8.out B9.out)
  clear hs hcf h1 hB
  go_wp2_with fail
  refine (paired_any (YR Y w) _ (noRoom) _ (room_none _ _) rfl (fun g h => by have := hYR g h; have := C9.out.size; omega)).mono ?_
  rintro e w10 ⟨v, rfl, hS, h1, hB⟩
  obtain ⟨fn10, cp10, rfl, hcf, hs⟩ := hS
  have S10 : Hid (WhV (YR Y w) w10 (.func (.func fn10) #[] cp10) (some (pairW (noRoom)))) := Lib.hid ⟨fn10, cp10, rfl, hcf, hs⟩
  have B10 : Hid (Below w9.heap.size w9 w10) := Lib.hid hB
  have C10 : Hid (Below W.heap.size W w10) := Lib.hid (below_next C9.out B10.out)
  clear hs hcf h1 hB
  go_wp2_with fail
  refine (ops_any _ _ _ _ [20] _ (row_one8 w10 20) rfl (by simp) (fun g h => (by have := hYR g h; have := C10.out.size; simp; omega)) (fun _ c off h => (by cases h; intro q; have := hYR _ q; have := C10.out.size; omega))).mono ?_
  rintro e w11 ⟨v, rfl, hS, h1, hB⟩
  obtain ⟨fn11, cp11, rfl, hcf, hs⟩ := hS
  have S11 : Hid (SideV (YR Y w) w11 (.func (.func fn11) #[] cp11) (opsS [20])) := Lib.hid ⟨fn11, cp11, rfl, hcf, hs⟩
  have B11 : Hid (Below w10.heap.size w10 w11) := Lib.hid (below_next (below_box w10 _) hB)
  have C11 : Hid (Below W.heap.size W w11) := Lib.hid (below_next C10.out B11.out)
  clear hs hcf h1 hB
  go_wp2_with fail
  refine (paired_any (YR Y w) _ (roomL chans) _ (room_chans hY0 (fun hne c off h => HCa.out hne c off h) (cell_of_row _ _ 3 _ _ _ (old_later HN1.out C11.out)) ((HR.out.below (below_next HB0.out C11.out)).more (below_next HB0.out C11.out).size) hl HX.out) rfl (fun g h => by have := hYR g h; have := C11.out.size; omega)).mono ?_
  rintro e w12 ⟨v, rfl, hS, h1, hB⟩
  obtain ⟨fn12, cp12, rfl, hcf, hs⟩ := hS
  have S12 : Hid (WhV (YR Y w) w12 (.func (.func fn12) #[] cp12) (some (pairW (roomL chans)))) := Lib.hid ⟨fn12, cp12, rfl, hcf, hs⟩
  have B12 : Hid (Below w11.heap.size w11 w12) := Lib.hid hB
  have C12 : Hid (Below W.heap.size W w12) := Lib.hid (below_next C11.out B12.out)
  clear hs hcf h1 hB
  go_wp2_with fail
  refine (ops_any _ _ _ _ [23] _ (row_one8 w12 23) rfl (by simp) (fun g h => (by have := hYR g h; have := C12.out.size; simp; omega)) (fun _ c off h => (by cases h; intro q; have := hYR _ q; have := C12.out.size; omega))).mono ?_
  rintro e w13 ⟨v, rfl, hS, h1, hB⟩
  obtain ⟨fn13, cp13, rfl, hcf, hs⟩ := hS
  have S13 : Hid (SideV (YR Y w) w13 (.func (.func fn13) #[] cp13) (opsS [23])) := Lib.hid ⟨fn13, cp13, rfl, hcf, hs⟩
  have B13 : Hid (Below w12.heap.size w12 w13) := Lib.hid (below_next (below_box w12 _) hB)
  have C13 : Hid (Below W.heap.size W w13) := Lib.hid (below_next C12.out B13.out)
  clear hs hcf h1 hB
  go_wp2_with fail
  refine (mode_any _ 2 _ _ _ [21, 22] _ (row_two8 w13 21 22) rfl (by simp) (fun g h => (by have := hYR g h; have := C13.out.size; simp; omega)) (fun _ c off h => (by cases h; intro q; have := hYR _ q; have := C13.out.size; omega))).mono ?_
  rintro e w14 ⟨v, rfl, hS, h1, hB⟩
  obtain ⟨fn14, cp14, rfl, hcf, hs⟩ := hS
  have S14 : Hid (SideV (YR Y w) w14 (.func (.func fn14) #[] cp14) (modeS 2 [21, 22])) := Lib.hid ⟨fn14, cp14, rfl, hcf, hs⟩
  have B14 : Hid (Below w13.heap.size w13 w14) := Lib.hid (below_next (below_box w13 _) hB)
  have C14 : Hid (Below W.heap.size W w14) := Lib.hid (below_next C13.out B14.out)
  clear hs hcf h1 hB
  go_wp2_with fail
  refine (ops_any _ _ _ _ [25] _ (row_one8 w14 25) rfl (by simp) (fun g h => (by have := hYR g h; have := C14.out.size; simp; omega)) (fun _ c off h => (by cases h; intro q; have := hYR _ q; have := C14.out.size; omega))).mono ?_
  rintro e w15 ⟨v, rfl, hS, h1, hB⟩
  obtain ⟨fn15, cp15, rfl, hcf, hs⟩ := hS
  have S15 : Hid (SideV (YR Y w) w15 (.func (.func fn15) #[] cp15) (opsS [25])) := Lib.hid ⟨fn15, cp15, rfl, hcf, hs⟩
  have B15 : Hid (Below w14.heap.size w14 w15) := Lib.hid (below_next (below_box w14 _) hB)
  have C15 : Hid (Below W.heap.size W w15) := Lib.hid (below_next C14.out B15.out)
  clear hs hcf h1 hB
  go_wp2_with fail
  refine (ops_any _ _ _ _ [27] _ (row_one8 w15 27) rfl (by simp) (fun g h => (by have := hYR g h; have := C15.out.size; simp; omega)) (fun _ c off h => (by cases h; intro q; have := hYR _ q; have := C15.out.size; omega))).mono ?_
  rintro e w16 ⟨v, rfl, hS, h1, hB⟩
  obtain ⟨fn16, cp16, rfl, hcf, hs⟩ := hS
  have S16 : Hid (SideV (YR Y w) w16 (.func (.func fn16) #[] cp16) (opsS [27])) := Lib.hid ⟨fn16, cp16, rfl, hcf, hs⟩
  have B16 : Hid (Below w15.heap.size w15 w16) := Lib.hid (below_next (below_box w15 _) hB)
  have C16 : Hid (Below W.heap.size W w16) := Lib.hid (below_next C15.out B16.out)
  clear hs hcf h1 hB
  go_wp2_with fail
  refine (mode_any _ 0 _ _ _ [26] _ (row_one8 w16 26) rfl (by simp) (fun g h => (by have := hYR g h; have := C16.out.size; simp; omega)) (fun _ c off h => (by cases h; intro q; have := hYR _ q; have := C16.out.size; omega))).mono ?_
  rintro e w17 ⟨v, rfl, hS, h1, hB⟩
  obtain ⟨fn17, cp17, rfl, hcf, hs⟩ := hS
  have S17 : Hid (SideV (YR Y w) w17 (.func (.func fn17) #[] cp17) (modeS 0 [26])) := Lib.hid ⟨fn17, cp17, rfl, hcf, hs⟩
  have B17 : Hid (Below w16.heap.size w16 w17) := Lib.hid (below_next (below_box w16 _) hB)
  have C17 : Hid (Below W.heap.size W w17) := Lib.hid (below_next C16.out B17.out)
  clear hs hcf h1 hB
  have D17 := Lib.hid (old_later HN2.out C17.out)
  go_wp2_with (refine wpList_store_row rfl 156 (.tmp 2) (.tmp 59) rfl (w.heap.size + 1) _ rfl rfl 156 _ D17.out info_rules rfl (by simp [Value.oneCell']) ?_)
  refine bodyPost_ret (v := .agg #[.func (.func 107) #[] #[], .func (.func 107) #[] #[], .nilFunc, .func (.func fn2) #[] cp2, .func (.func 107) #[] #[], .nilFunc, .func (.func fn3) #[] cp3, .func (.func fn4) #[] cp4, .nilFunc, .func (.func fn5) #[] cp5, .func (.func fn6) #[] cp6, .nilFunc, .func (.func fn7) #[] cp7, .func (.func fn8) #[] cp8, .func (.func 113) #[] #[], .func (.func fn9) #[] cp9, .func (.func fn1) #[] cp1, .func (.func fn10) #[] cp10, .func (.func fn1) #[] cp1, .func (.func fn11) #[] cp11, .func (.func fn12) #[] cp12, .func (.func fn13) #[] cp13, .func (.func fn14) #[] cp14, .nilFunc, .func (.func 111) #[] #[], .func (.func fn15) #[] cp15, .nilFunc, .func (.func fn16) #[] cp16, .func (.func fn17) #[] cp17, .nilFunc]) (results_cell_row rfl _ _ (w.heap.size + 1) 156 _ (0, 0) _ rfl (setRow_heap _ _ _ _ _ _ D17.out) Tryz.underlying156 rfl info_rules) rfl ?_
  have hT : Touch (YR Y w) w17 (w17.setRow (w.heap.size + 1) #[.func (.func 107) #[] #[], .func (.func 107) #[] #[], .nilFunc, .func (.func fn2) #[] cp2, .func (.func 107) #[] #[], .nilFunc, .func (.func fn3) #[] cp3, .func (.func fn4) #[] cp4, .nilFunc, .func (.func fn5) #[] cp5, .func (.func fn6) #[] cp6, .nilFunc, .func (.func fn7) #[] cp7, .func (.func fn8) #[] cp8, .func (.func 113) #[] #[], .func (.func fn9) #[] cp9, .func (.func fn1) #[] cp1, .func (.func fn10) #[] cp10, .func (.func fn1) #[] cp1, .func (.func fn11) #[] cp11, .func (.func fn12) #[] cp12, .func (.func fn13) #[] cp13, .func (.func fn14) #[] cp14, .nilFunc, .func (.func 111) #[] #[], .func (.func fn15) #[] cp15, .nilFunc, .func (.func fn16) #[] cp16, .func (.func fn17) #[] cp17, .nilFunc]) := ⟨rfl, rfl, rfl, by simp, fun k hk hx => setRow_other _ _ _ _ fun e => hx (.inr e)⟩
  have hF : ∀ {v s}, SideV (YR Y w) w17 v s → SideV Y (w17.setRow (w.heap.size + 1) #[.func (.func 107) #[] #[], .func (.func 107) #[] #[], .nilFunc, .func (.func fn2) #[] cp2, .func (.func 107) #[] #[], .nilFunc, .func (.func fn3) #[] cp3, .func (.func fn4) #[] cp4, .nilFunc, .func (.func fn5) #[] cp5, .func (.func fn6) #[] cp6, .nilFunc, .func (.func fn7) #[] cp7, .func (.func fn8) #[] cp8, .func (.func 113) #[] #[], .func (.func fn9) #[] cp9, .func (.func fn1) #[] cp1, .func (.func fn10) #[] cp10, .func (.func fn1) #[] cp1, .func (.func fn11) #[] cp11, .func (.func fn12) #[] cp12, .func (.func fn13) #[] cp13, .func (.func fn14) #[] cp14, .nilFunc, .func (.func 111) #[] #[], .func (.func fn15) #[] cp15, .nilFunc, .func (.func fn16) #[] cp16, .func (.func fn17) #[] cp17, .nilFunc]) v s := fun {v s} h => (h.touch hT).weak fun _ q => .inl q
  have hG : ∀ {v s}, WhV (YR Y w) w17 v s → WhV Y (w17.setRow (w.heap.size + 1) #[.func (.func 107) #[] #[], .func (.func 107) #[] #[], .nilFunc, .func (.func fn2) #[] cp2, .func (.func 107) #[] #[], .nilFunc, .func (.func fn3) #[] cp3, .func (.func fn4) #[] cp4, .nilFunc, .func (.func fn5) #[] cp5, .func (.func fn6) #[] cp6, .nilFunc, .func (.func fn7) #[] cp7, .func (.func fn8) #[] cp8, .func (.func 113) #[] #[], .func (.func fn9) #[] cp9, .func (.func fn1) #[] cp1, .func (.func fn10) #[] cp10, .func (.func fn1) #[] cp1, .func (.func fn11) #[] cp11, .func (.func fn12) #[] cp12, .func (.func fn13) #[] cp13, .func (.func fn14) #[] cp14, .nilFunc, .func (.func 111) #[] #[], .func (.func fn15) #[] cp15, .nilFunc, .func (.func fn16) #[] cp16, .func (.func fn17) #[] cp17, .nilFunc]) v s := fun {v s} h => (h.touch hT).weak fun _ q => .inl q
  refine ⟨_, rfl, ⟨rfl, by simp [Value.oneCell'], fun k r hr => ?_⟩, ?_⟩
  · match k, hr with
    | 0, hr => cases hr; exact ⟨_, _, _, rfl, rfl, rfl, side_thread _ _, side_thread _ _, rfl⟩
    | 1, hr => cases hr; exact ⟨_, _, _, rfl, rfl, rfl, hF (S2.out.later (below_next (below_next (below_next (below_next (below_next (below_next (below_next (below_next (below_next (below_next (below_next (below_next (below_next (below_next B3.out B4.out) B5.out) B6.out) B7.out) B8.out) B9.out) B10.out) B11.out) B12.out) B13.out) B14.out) B15.out) B16.out) B17.out)), side_thread _ _, rfl⟩
    | 2, hr => cases hr; exact ⟨_, _, _, rfl, rfl, rfl, hF (S3.out.later (below_next (below_next (below_next (below_next (below_next (below_next (below_next (below_next (below_next (below_next (below_next (below_next (below_next B4.out B5.out) B6.out) B7.out) B8.out) B9.out) B10.out) B11.out) B12.out) B13.out) B14.out) B15.out) B16.out) B17.out)), hF (S4.out.later (below_next (below_next (below_next (below_next (below_next (below_next (below_next (below_next (below_next (below_next (below_next (below_next B5.out B6.out) B7.out) B8.out) B9.out) B10.out) B11.out) B12.out) B13.out) B14.out) B15.out) B16.out) B17.out)), rfl⟩
    | 3, hr => cases hr; exact ⟨_, _, _, rfl, rfl, rfl, hF (S5.out.later (below_next (below_next (below_next (below_next (below_next (below_next (below_next (below_next (below_next (below_next (below_next B6.out B7.out) B8.out) B9.out) B10.out) B11.out) B12.out) B13.out) B14.out) B15.out) B16.out) B17.out)), hF (S6.out.later (below_next (below_next (below_next (below_next (below_next (below_next (below_next (below_next (below_next (below_next B7.out B8.out) B9.out) B10.out) B11.out) B12.out) B13.out) B14.out) B15.out) B16.out) B17.out)), rfl⟩
    | 4, hr => cases hr; exact ⟨_, _, _, rfl, rfl, rfl, hF (S7.out.later (below_next (below_next (below_next (below_next (below_next (below_next (below_next (below_next (below_next B8.out B9.out) B10.out) B11.out) B12.out) B13.out) B14.out) B15.out) B16.out) B17.out)), hF (S8.out.later (below_next (below_next (below_next (below_next (below_next (below_next (below_next (below_next B9.out B10.out) B11.out) B12.out) B13.out) B14.out) B15.out) B16.out) B17.out)), wh_last _ _⟩
    | 5, hr => cases hr; exact ⟨_, _, _, rfl, rfl, rfl, hF (S9.out.later (below_next (below_next (below_next (below_next (below_next (below_next (below_next B10.out B11.out) B12.out) B13.out) B14.out) B15.out) B16.out) B17.out)), hF (S1.out.later (below_next (below_next (below_next (below_next (below_next (below_next (below_next (below_next (below_next (below_next (below_next (below_next (below_next (below_next (below_next B2.out B3.out) B4.out) B5.out) B6.out) B7.out) B8.out) B9.out) B10.out) B11.out) B12.out) B13.out) B14.out) B15.out) B16.out) B17.out)), hG (S10.out.later (below_next (below_next (below_next (below_next (below_next (below_next B11.out B12.out) B13.out) B14.out) B15.out) B16.out) B17.out))⟩
    | 6, hr => cases hr; exact ⟨_, _, _, rfl, rfl, rfl, hF (S1.out.later (below_next (below_next (below_next (below_next (below_next (below_next (below_next (below_next (below_next (below_next (below_next (below_next (below_next (below_next (below_next B2.out B3.out) B4.out) B5.out) B6.out) B7.out) B8.out) B9.out) B10.out) B11.out) B12.out) B13.out) B14.out) B15.out) B16.out) B17.out)), hF (S11.out.later (below_next (below_next (below_next (below_next (below_next B12.out B13.out) B14.out) B15.out) B16.out) B17.out)), hG (S12.out.later (below_next (below_next (below_next (below_next B13.out B14.out) B15.out) B16.out) B17.out))⟩
    | 7, hr => cases hr; exact ⟨_, _, _, rfl, rfl, rfl, hF (S13.out.later (below_next (below_next (below_next B14.out B15.out) B16.out) B17.out)), hF (S14.out.later (below_next (below_next B15.out B16.out) B17.out)), rfl⟩
    | 8, hr => cases hr; exact ⟨_, _, _, rfl, rfl, rfl, side_few _ _, hF (S15.out.later (below_next B16.out B17.out)), rfl⟩
    | 9, hr => cases hr; exact ⟨_, _, _, rfl, rfl, rfl, hF (S16.out.later B17.out), hF S17.out, rfl⟩
    | k + 10, hr => cases hr
  · exact below_row (below_next HB0.out C17.out) (by omega) _
/-- Events lie at an address, in a block below B. -/
def EvsIn (w : World) (B : Nat) (a : Option Addr) (t : List EvD) : Prop := ∀ k e, t[k]? = some e → ∃ g o, a = some ⟨g, o, none⟩ ∧ g < B ∧ EvAt w g (o + k * 6) e
theorem EvsIn.later {w u : World} {a : Option Addr} {t : List EvD} (h : EvsIn w w.heap.size a t) (hB : Below w.heap.size w u) : EvsIn u u.heap.size a t := fun k e hk => by
  obtain ⟨g, o, h1, h2, h3⟩ := h k e hk
  exact ⟨g, o, h1, Nat.lt_of_lt_of_le h2 hB.size, h3.later hB⟩
theorem EvsIn.take {w : World} {B : Nat} {a : Option Addr} {t : List EvD} (h : EvsIn w B a t) (n : Nat) : EvsIn w B a (t.take n) := fun k e hk => by
  rw [List.getElem?_take] at hk
  split at hk
  · exact h k e hk
  · cases hk
theorem cnt_snoc (s : Sd) (x : Int) {t : List EvD} {k : Nat} {e : EvD} (h : t[k]? = some e) : cntS s x (t.take (k + 1)) = cntS s x (t.take k) + (if isS s x e then 1 else 0) := by
  rw [List.take_add_one, h]
  unfold cntS
  rw [List.countP_append]
  simp [List.countP_cons]
theorem keepC {u u' : World} {g o : Nat} {v : Value} (hB : Below u.heap.size u u') (h : u.cell? ⟨g, o, none⟩ = some v) : u'.cell? ⟨g, o, none⟩ = some v := (hB.cell (p := ⟨g, o, none⟩) (cell_lt h)).trans h
theorem keepO3 {u u' : World} {g0 o0 g1 o1 g2 o2 : Nat} {v0 v1 v2 : Value} (k : u.cell? ⟨g0, o0, none⟩ = some v0 ∧ u.cell? ⟨g1, o1, none⟩ = some v1 ∧ u.cell? ⟨g2, o2, none⟩ = some v2) (hB : Below u.heap.size u u') : u'.cell? ⟨g0, o0, none⟩ = some v0 ∧ u'.cell? ⟨g1, o1, none⟩ = some v1 ∧ u'.cell? ⟨g2, o2, none⟩ = some v2 := ⟨keepC hB k.1, keepC hB k.2.1, keepC hB k.2.2⟩
theorem box3 {u : World} {g : Nat} {v0 v1 v2 : Value} {t : TypeId} {fr : Nat × Nat} (h : u.heap[g]? = some (.cells #[v0, v1, v2] t fr)) : u.cell? ⟨g, 0, none⟩ = some v0 ∧ u.cell? ⟨g, 1, none⟩ = some v1 ∧ u.cell? ⟨g, 2, none⟩ = some v2 :=
  ⟨cell_of_row _ _ 0 _ _ _ h, cell_of_row _ _ 1 _ _ _ h, cell_of_row _ _ 2 _ _ _ h⟩
def ofN (l : List Nat) : List Int := l.map fun k : Nat => (k : Int)
theorem ofN_len (l : List Nat) : (ofN l).length = l.length := by simp [ofN]
theorem ofN_at {l : List Nat} {k x : Nat} (h : l[k]? = some x) : (ofN l)[k]? = some (x : Int) := by simp [ofN, h]
/-- How many are less. -/
def cntLt (l : List Nat) (j : Nat) : Nat := l.countP fun k => decide (k < j)
theorem cntLt_le (l : List Nat) (j : Nat) : cntLt l j ≤ l.length := List.countP_le_length
theorem cntLt_none {l : List Nat} {j : Nat} (h : ∀ x ∈ l, j ≤ x) : cntLt l j = 0 := by
  unfold cntLt
  rw [List.countP_eq_zero]
  intro x hx
  have := h x hx
  simp; omega
theorem rise_lt {l : List Nat} (h : l.Pairwise (· < ·)) (j : Nat) : ∀ k x, l[k]? = some x → (x < j ↔ k < cntLt l j) := by
  induction l with
  | nil => intro k x hx; simp at hx
  | cons y r ih =>
    obtain ⟨h1, h2⟩ := List.pairwise_cons.1 h
    have ih := ih h2
    have e : cntLt (y :: r) j = cntLt r j + (if y < j then 1 else 0) := by simp [cntLt, List.countP_cons]
    intro k x hx
    rw [e]
    by_cases hy : y < j
    · rw [if_pos hy]
      cases k with
      | zero => simp at hx; subst hx; simp [hy]
      | succ k => rw [List.getElem?_cons_succ] at hx; rw [ih k x hx]; omega
    · rw [if_neg hy, cntLt_none (fun z hz => by have := h1 z hz; omega)]
      cases k with
      | zero => simp at hx; subst hx; simp [hy]
      | succ k =>
        rw [List.getElem?_cons_succ] at hx
        have := h1 x (List.mem_of_getElem? hx)
        constructor
        · intro q; omega
        · intro q; omega
theorem nan_s (x : Int) (w : World) : Calls Tryz.prog 137 #[.int .i64 x] w fun e w' => e = .returned (.bool false) ∧ w = w' := by
  go_enter Tryz.func137, Tryz.ntmps137
  go_wp2
  go_ret
  exact ⟨rfl, rfl⟩
theorem nan_c (x : Int) (w : World) : Calls Tryz.prog 138 #[.int .i64 x] w fun e w' => e = .returned (.bool false) ∧ w = w' := by
  go_enter Tryz.func138, Tryz.ntmps138
  go_wp2
  go_ret
  exact ⟨rfl, rfl⟩
theorem less_any (x y : Int) (w : World) : Calls Tryz.prog 136 #[.int .i64 x, .int .i64 y] w fun e w' => e = .returned (.bool (decide (x < y))) ∧ w = w' := by
  go_enter Tryz.func136, Tryz.ntmps136
  go_wp2_with (go_at_call 138; refine (nan_c _ _).mono ?_; rintro e w' ⟨rfl, rfl⟩)
  go_ret
  exact ⟨rfl, rfl⟩
def FoundE (r : Nat) (w : World) (e : Ending) (w' : World) : Prop := ∃ b, e = .returned (.tuple #[.int .i64 r, .bool b]) ∧ w = w'
theorem search_any (a : Option Addr) (cap : Nat) (l : List Nat) (j : Nat) (w : World) (h : RowOf .i64 w w.heap.size a (ofN l)) (hl : l.length ≤ 1000000) (hs : l.Pairwise (· < ·)) :
    Calls Tryz.prog 135 #[.slice a l.length cap, .int .i64 j] w (FoundE (cntLt l j) w) := by
  have HR := Lib.hid h
  have HS := Lib.hid (rise_lt hs j)
  have hle := cntLt_le l j
  generalize cntLt l j = r at *
  clear h hs
  go_enter Tryz.func135, Tryz.ntmps135
  go_wp2
  go_loop [7, 8] (fun i k => ∃ p q : Nat, p ≤ r ∧ r ≤ q ∧ q ≤ l.length ∧ i = .int .i64 p ∧ k = .int .i64 q) (fun i k => (intOf k).toNat - (intOf i).toNat)
  case atStart => exact ⟨0, l.length, Nat.zero_le _, hle, Nat.le_refl _, rfl, rfl⟩
  case round =>
    obtain ⟨p, q, hp, hq, hn, rfl, rfl⟩ := hrel
    by_cases hlt : p < q
    · obtain ⟨x, hx⟩ := at_lt (l := l) (k := (p + q) / 2) (by omega)
      obtain ⟨g, off, rfl, hg, hc⟩ := HR.out _ x (ofN_at hx)
      have HX := HS.out _ x hx
      clear hx
      have hlt' : (p : Int) < (q : Int) := by omega
      have hm' : (p + q) / 2 < l.length := by omega
      have hm'' : ((p : Int) + q) / 2 < (l.length : Int) := by omega
      by_cases hxj : x < j
      · have hxj' : decide ((x : Int) < (j : Int)) = true := decide_eq_true (by omega)
        have hmr := HX.1 hxj
        clear HX
        go_wp2_with (go_at_call 136; refine (less_any _ _ _).mono ?_; rintro e w' ⟨rfl, rfl⟩)
        go_round
        case rel => exact ⟨(p + q) / 2 + 1, q, by omega, hq, hn, by go_num, rfl⟩
        case measure => simp [intOf]; omega
      · have hxj' : decide ((x : Int) < (j : Int)) = false := decide_eq_false (by omega)
        have hmr := mt HX.2 hxj
        clear HX
        go_wp2_with (go_at_call 136; refine (less_any _ _ _).mono ?_; rintro e w' ⟨rfl, rfl⟩)
        go_round
        case rel => exact ⟨p, (p + q) / 2, hp, by omega, by omega, rfl, by go_num⟩
        case measure => simp [intOf]; omega
    · obtain rfl : p = q := by omega
      obtain rfl : p = r := by omega
      by_cases hpl : p < l.length
      · obtain ⟨x, hx⟩ := at_lt (l := l) hpl
        obtain ⟨g, off, rfl, hg, hc⟩ := HR.out _ x (ofN_at hx)
        have hpl' : (p : Int) < (l.length : Int) := by omega
        by_cases hxj : (x : Int) = (j : Int)
        · have hxj' : ((x : Int) == (j : Int)) = true := by simpa using hxj
          go_wp2_with (go_at_call 137; refine (nan_s _ _).mono ?_; rintro e w' ⟨rfl, rfl⟩)
          go_ret2
          exact ⟨_, rfl, rfl⟩
        · have hxj' : ((x : Int) == (j : Int)) = false := by simpa using hxj
          go_wp2_with (go_at_call 137; refine (nan_s _ _).mono ?_; rintro e w' ⟨rfl, rfl⟩)
          go_ret2
          exact ⟨_, rfl, rfl⟩
      · have hpl' : ¬ (p : Int) < (l.length : Int) := by omega
        go_wp2_with fail
        go_ret2
        exact ⟨_, rfl, rfl⟩
theorem below_any (a : Option Addr) (cap : Nat) (l : List Nat) (j : Nat) (w : World) (h : RowOf .i64 w w.heap.size a (ofN l)) (hl : l.length ≤ 1000000) (hs : l.Pairwise (· < ·)) :
    Calls Tryz.prog 132 #[.slice a l.length cap, .int .i64 j] w fun e w' => e = .returned (.int .i64 (cntLt l j)) ∧ w = w' := by
  have HR := Lib.hid h
  clear h
  go_enter Tryz.func132, Tryz.ntmps132
  go_wp2_with (go_at_call 135; refine (search_any a cap l j _ HR.out hl hs).mono ?_; rintro e w' ⟨b, rfl, rfl⟩)
  go_ret
  exact ⟨rfl, rfl⟩
end Go.Proofs.YtglafbajbiengaaGreat
