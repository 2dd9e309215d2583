/- order's sides and its choices: the closures that rules makes, and what they answer. -/
import Derived.Test.YtgikoajclkfoiaaOrderMath
import Derived.Test.YtgikoajclkfoiaaCallKit
import Derived.Deep.QuietTactic
import Derived.IntWalk
import Derived.BigQuiet
namespace Go.Proofs.Ytgikoajclkfoiaa
set_option linter.unusedVariables false
set_option linter.unusedSimpArgs false
set_option maxRecDepth 100000
open Go.ChangeShapes Go.WideShapes Go.ChangeAt Go.RowKit

def idxI (l : List Int) (x : Int) : Int := if l.contains x then (l.idxOf x : Nat) else -1
theorem idxI_has (l : List Int) (x : Int) : decide (0 ≤ idxI l x) = l.contains x := by
  unfold idxI
  rcases h : l.contains x with _ | _
  · rfl
  · simp
theorem idxI_at {l : List Int} {x : Int} {j : Nat} (h : l[j]? = some x) (h0 : ∀ k, k < j → l[k]? ≠ some x) : idxI l x = j := by
  have hm : x ∈ l := List.mem_of_getElem? h
  unfold idxI
  rw [if_pos (List.contains_iff_mem.2 hm)]
  have hj := (List.getElem?_eq_some_iff.1 h).1
  have hi := List.idxOf_lt_length_of_mem hm
  congr 1
  rcases Nat.lt_trichotomy (l.idxOf x) j with q | q | q
  · exact absurd (by rw [List.getElem?_eq_getElem hi, List.getElem_idxOf]) (h0 _ q)
  · exact q
  · exact absurd (show (l[j] == x) = true by rw [(List.getElem?_eq_some_iff.1 h).2]; simp) (by simpa using List.not_of_lt_findIdx q)
theorem idxI_none {l : List Int} {x : Int} (h0 : ∀ k, k < l.length → l[k]? ≠ some x) : idxI l x = -1 := by
  unfold idxI
  rw [if_neg]
  intro h
  obtain ⟨k, hk⟩ := List.getElem?_of_mem (List.contains_iff_mem.1 h)
  exact h0 k (List.getElem?_eq_some_iff.1 hk).1 hk

theorem touch_cell {Y : Nat → Prop} {w u : World} (h : Touch Y w u) {b i : Nat} {v : Value} (hb : ¬ Y b) (hc : w.cell? ⟨b, i, none⟩ = some v) : u.cell? ⟨b, i, none⟩ = some v := (World.cell?_of_block (a := ⟨b, i, none⟩) (h.block b (cell_lt hc) hb)).trans hc
theorem row_touch {Y : Nat → Prop} {w u : World} {k : IntKind} {a : Option Addr} {l : List Int} (hr : RowOf k w w.heap.size a l) (ha : l ≠ [] → ∀ c off, a = some ⟨c, off, none⟩ → ¬ Y c) (h : Touch Y w u) : RowOf k u u.heap.size a l := fun i x hx => by
  obtain ⟨c, off, h1, h2, h3⟩ := hr i x hx
  exact ⟨c, off, h1, Nat.lt_of_lt_of_le h2 h.size, touch_cell h (ha (by intro e; rw [e] at hx; cases hx) c off h1) h3⟩
theorem touch_new {Y : Nat → Prop} {w u : World} (h : Touch Y w u) (o : Obj) : Touch Y w (u.alloc o) := h.trans (Touch.of_below (X := Y) (below_box u o)) fun _ _ h => h
theorem touch_drew {Y : Nat → Prop} {w u : World} (h : Touch Y w u) (n : Nat) : Touch Y w (u.drewN n) := ⟨h.os, h.tape, h.output, h.size, h.block⟩
/-- What a side answers, whatever is done behind its making. -/
def SideV (Y : Nat → Prop) (w : World) (v : Value) (s : Sd) : Prop := ∃ fn cap, v = .func (.func fn) #[] cap ∧ (∀ args u, (callFunc fn args).run Try.prog u = .ok (.enter fn args) u) ∧ ∀ u, Touch Y w u → ∀ e : EvD, Calls Try.prog fn (#[e.v] ++ cap) u fun r u' => r = .returned (.tuple #[.int .i64 (s e).1, .bool (s e).2]) ∧ Below u.heap.size u u'
theorem SideV.touch {Y : Nat → Prop} {w w' : World} {v : Value} {s : Sd} (h : SideV Y w v s) (hT : Touch Y w w') : SideV Y w' v s := by
  obtain ⟨fn, cap, rfl, hc, h⟩ := h
  exact ⟨fn, cap, rfl, hc, fun u hu => h u (hT.trans hu fun _ _ h => h)⟩
theorem SideV.later {Y : Nat → Prop} {w w' : World} {v : Value} {s : Sd} (h : SideV Y w v s) (hB : Below w.heap.size w w') : SideV Y w' v s := h.touch (Touch.of_below hB)
theorem SideV.none {Y : Nat → Prop} {w : World} {v : Value} {s : Sd} (h : SideV Y w v s) : SideV (fun _ => False) w v s := by
  obtain ⟨fn, cap, rfl, hc, h⟩ := h
  exact ⟨fn, cap, rfl, hc, fun u hu => h u (hu.mono fun _ _ h => h.elim)⟩

theorem ret_pair {x y : Int} {b c : Bool} (h : x = y) (h2 : b = c) : Ending.returned (.tuple #[.int .i64 x, .bool b]) = .returned (.tuple #[.int .i64 y, .bool c]) := by rw [h, h2]
/-- What a choice answers. -/
def WhV (Y : Nat → Prop) (w : World) (v : Value) : Option Wh → Prop
  | none => v = .nilFunc
  | some f => ∃ fn cap, v = .func (.func fn) #[] cap ∧ (∀ args u, (callFunc fn args).run Try.prog u = .ok (.enter fn args) u) ∧ ∀ u, Touch Y w u → ∀ (x : Int) (a b : Nat), a ≤ 1000000 → b ≤ 1000000 → Calls Try.prog fn (#[.int .i64 x, .int .i64 a, .int .i64 b] ++ cap) u fun r u' => r = .returned (.tuple #[.int .i64 (f x a b).1, .int .i64 (f x a b).2]) ∧ Below u.heap.size u u'
theorem WhV.touch {Y : Nat → Prop} {w w' : World} {v : Value} {o : Option Wh} (h : WhV Y w v o) (hT : Touch Y w w') : WhV Y w' v o := by
  cases o with
  | none => exact h
  | some f =>
    obtain ⟨fn, cap, rfl, hc, h⟩ := h
    exact ⟨fn, cap, rfl, hc, fun u hu => h u (hT.trans hu fun _ _ h => h)⟩
theorem WhV.later {Y : Nat → Prop} {w w' : World} {v : Value} {o : Option Wh} (h : WhV Y w v o) (hB : Below w.heap.size w w') : WhV Y w' v o := h.touch (Touch.of_below hB)
theorem WhV.none {Y : Nat → Prop} {w : World} {v : Value} {o : Option Wh} (h : WhV Y w v o) : WhV (fun _ => False) w v o := by
  cases o with
  | none => exact h
  | some f =>
    obtain ⟨fn, cap, rfl, hc, h⟩ := h
    exact ⟨fn, cap, rfl, hc, fun u hu => h u (hu.mono fun _ _ h => h.elim)⟩
def RoomV (Y : Nat → Prop) (w : World) (v : Value) (f : Int → Int) : Prop := ∃ fn cap, v = .func (.func fn) #[] cap ∧ (∀ args u, (callFunc fn args).run Try.prog u = .ok (.enter fn args) u) ∧ (∀ x, -9223372036854775808 ≤ f x ∧ f x ≤ 9223372036854775807) ∧ ∀ u, Touch Y w u → ∀ x : Int, Calls Try.prog fn (#[.int .i64 x] ++ cap) u fun r u' => r = .returned (.int .i64 (f x)) ∧ Below u.heap.size u u'
end Go.Proofs.Ytgikoajclkfoiaa
