/- Clocks as lists: what stands at a place, the join, one more, and what is within what. No program. -/
import Derived.RowKit
namespace Go.Proofs.Ytgikoajclkfoiaa
set_option linter.unusedVariables false
set_option linter.unusedSimpArgs false

/-- What stands at place k. -/
def atN (l : List Int) (k : Nat) : Int := (l[k]?).getD 0
/-- What stands at i, be it below 0. -/
def atL (l : List Int) (i : Int) : Int := if i < 0 then 0 else atN l i.toNat
/-- n places, filled by f. -/
def fill (n : Nat) (f : Nat → Int) : List Int := (List.range n).map f
theorem fill_len (n : Nat) (f : Nat → Int) : (fill n f).length = n := by simp [fill]
theorem fill_at (n : Nat) (f : Nat → Int) (k : Nat) : atN (fill n f) k = if k < n then f k else 0 := by
  unfold atN fill
  by_cases h : k < n
  · simp [h]
  · simp [h]
theorem fill_get (n : Nat) (f : Nat → Int) (k : Nat) (h : k < n) : (fill n f)[k]? = some (f k) := by simp [fill, h]
theorem fill_snoc (n : Nat) (f : Nat → Int) : fill (n + 1) f = fill n f ++ [f n] := by simp [fill, List.range_succ]
theorem fill_ext {l : List Int} {n : Nat} {f : Nat → Int} (hl : l.length = n) (h : ∀ k, k < n → l[k]? = some (f k)) : l = fill n f := by
  apply List.ext_getElem? ; intro k
  by_cases hk : k < n
  · rw [h k hk, fill_get n f k hk]
  · rw [List.getElem?_eq_none (by omega), List.getElem?_eq_none (by rw [fill_len]; omega)]
theorem atN_some {l : List Int} {k : Nat} {x : Int} (h : l[k]? = some x) : atN l k = x := by simp [atN, h]
theorem atN_past {l : List Int} {k : Nat} (h : l.length ≤ k) : atN l k = 0 := by simp [atN, List.getElem?_eq_none h]
theorem atL_nat (l : List Int) (k : Nat) : atL l (k : Int) = atN l k := by
  unfold atL; rw [if_neg (by omega)]; rfl

/-- At each place the greater. -/
def joinL (a b : List Int) : List Int := fill (max a.length b.length) fun k => max (atN a k) (atN b k)
theorem join_len (a b : List Int) : (joinL a b).length = max a.length b.length := fill_len _ _
theorem join_at (a b : List Int) (k : Nat) : atN (joinL a b) k = max (atN a k) (atN b k) := by
  unfold joinL
  rw [fill_at]
  by_cases h : k < max a.length b.length
  · rw [if_pos h]
  · rw [if_neg h, atN_past (l := a) (by omega), atN_past (l := b) (by omega)]; rfl
/-- As long at least. -/
def padL (a : List Int) (n : Nat) : List Int := fill (max a.length n) (atN a)
theorem pad_len (a : List Int) (n : Nat) : (padL a n).length = max a.length n := fill_len _ _
theorem pad_at (a : List Int) (n k : Nat) : atN (padL a n) k = atN a k := by
  unfold padL
  rw [fill_at]
  by_cases h : k < max a.length n
  · rw [if_pos h]
  · rw [if_neg h, atN_past (l := a) (by omega)]
theorem pad_zero (a : List Int) : padL a 0 = a := by
  refine (fill_ext (by simp) fun k hk => ?_).symm
  have hk' : k < a.length := by omega
  rw [List.getElem?_eq_getElem hk', atN_some (List.getElem?_eq_getElem hk')]
/-- One more at a place that ticks may be at. -/
def tickN (a : List Int) (i : Nat) : List Int := fill (max a.length (i + 1)) fun k => if k = i then RowKit.wrap64 (atN a k + 1) else atN a k
def tickL (a : List Int) (i : Int) : List Int := if 0 ≤ i ∧ i < 64 then tickN a i.toNat else a
theorem tickN_len (a : List Int) (i : Nat) : (tickN a i).length = max a.length (i + 1) := fill_len _ _
theorem tickN_at (a : List Int) (i k : Nat) : atN (tickN a i) k = if k = i then RowKit.wrap64 (atN a k + 1) else atN a k := by
  unfold tickN
  rw [fill_at]
  by_cases h : k < max a.length (i + 1)
  · rw [if_pos h]
  · rw [if_neg h, if_neg (by omega), atN_past (l := a) (by omega)]
theorem tick_nat (a : List Int) (i : Nat) (h : i < 64) : tickL a (i : Int) = tickN a i := by
  unfold tickL; rw [if_pos ⟨by omega, by omega⟩]; rfl
theorem tick_out (a : List Int) (i : Int) (h : i < 0 ∨ 64 ≤ i) : tickL a i = a := by
  unfold tickL; rw [if_neg (by omega)]
theorem tickL_len (a : List Int) (i : Int) : (tickL a i).length ≤ max a.length 64 := by
  unfold tickL
  split
  · rw [tickN_len]; omega
  · omega
/-- Nowhere greater. -/
def withinB (a b : List Int) : Bool := (List.range (max a.length b.length)).all fun k => decide (atN a k ≤ atN b k)
theorem within_iff (a b : List Int) : withinB a b = true ↔ ∀ k, atN a k ≤ atN b k := by
  unfold withinB
  rw [List.all_eq_true]
  constructor
  · intro h k
    by_cases hk : k < max a.length b.length
    · exact of_decide_eq_true (h k (List.mem_range.2 hk))
    · rw [atN_past (l := a) (by omega), atN_past (l := b) (by omega)]; exact Int.le_refl _
  · exact fun h k _ => decide_eq_true (h k)
theorem within_yes {a b : List Int} (h : ∀ k, k < max a.length b.length → atN a k ≤ atN b k) : withinB a b = true := by
  unfold withinB
  rw [List.all_eq_true]
  exact fun k hk => decide_eq_true (h k (List.mem_range.1 hk))
theorem within_no {a b : List Int} {k : Nat} (h : atN b k < atN a k) : withinB a b = false := by
  cases hw : withinB a b
  · rfl
  · have := (within_iff a b).1 hw k; omega
def sameB (a b : List Int) : Bool := withinB a b && withinB b a
theorem same_iff (a b : List Int) : sameB a b = true ↔ ∀ k, atN a k = atN b k := by
  unfold sameB
  rw [Bool.and_eq_true, within_iff, within_iff]
  exact ⟨fun h k => Int.le_antisymm (h.1 k) (h.2 k), fun h => ⟨fun k => by rw [h k]; exact Int.le_refl _, fun k => by rw [h k]; exact Int.le_refl _⟩⟩
/-- Small numbers. -/
def nearL (c : List Int) : List Int := c.map (· % 5)
theorem near_len (c : List Int) : (nearL c).length = c.length := by simp [nearL]
theorem near_at (c : List Int) (k : Nat) : 0 ≤ atN (nearL c) k ∧ atN (nearL c) k < 5 := by
  unfold atN nearL
  rw [List.getElem?_map]
  cases c[k]? with
  | none => simp
  | some x => simp; omega
theorem wrap_small {x : Int} (h0 : 0 ≤ x) (h1 : x < 5) : RowKit.wrap64 (x + 1) = x + 1 := by simp only [RowKit.wrap64]; omega
end Go.Proofs.Ytgikoajclkfoiaa
