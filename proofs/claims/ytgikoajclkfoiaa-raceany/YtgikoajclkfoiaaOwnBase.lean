/- Rows of the call's own, each in a block of its own: what all stages share. No statement of its own. -/
import Derived.Test.YtgikoajclkfoiaaLawKit
import Derived.Maps.AppendAt
import Derived.OwnWalk
namespace Go.Proofs.Ytgikoajclkfoiaa
set_option linter.unusedVariables false
set_option linter.unusedSimpArgs false
open Go.ChangeShapes Go.WideShapes Go.ChangeAt Go.RowKit

/-- Two rows of the call's own lie in two blocks. -/
def Apart (v b : Value) : Prop := v.ownBlock = none ∨ v.ownBlock ≠ b.ownBlock
theorem Apart.symm {v b : Value} (h : Apart v b) : Apart b v := by
  rcases h with h | h
  · by_cases e : b.ownBlock = none
    · exact .inl e
    · exact .inr (fun h2 => e (h2.trans h))
  · exact .inr (fun e => h e.symm)
theorem own_lt {w : World} {base : Nat} {e : TypeId} {s : Nat} {v : Value} {n : Nat} {xs : List Value} (h : w.ownsRow base e s v n xs) : ∀ g, v.ownBlock = some g → g < w.heap.size ∧ base ≤ g := by
  intro g hg
  rcases h.2 with ⟨rfl, _⟩ | ⟨g', cap, cur, rfl, hb, hh, _⟩
  · simp [Value.ownBlock] at hg
  · obtain rfl : g' = g := by simpa [Value.ownBlock] using hg
    exact ⟨(Array.getElem?_eq_some_iff.1 hh).1, hb⟩
theorem own_later {w w' : World} {base : Nat} {e : TypeId} {s : Nat} {v : Value} {n : Nat} {xs : List Value} (h : w.ownsRow base e s v n xs) (hB : Below w.heap.size w w') : w'.ownsRow base e s v n xs := by
  refine ⟨h.1, ?_⟩
  rcases h.2 with h2 | ⟨g, cap, cur, rfl, hb, hh, hr⟩
  · exact .inl h2
  · exact .inr ⟨g, cap, cur, rfl, hb, (hB.block g (Array.getElem?_eq_some_iff.1 hh).1).trans hh, hr⟩
theorem stSet_block (u : World) (b i : Nat) (v : Value) {cs : Array Value} {t : TypeId} {fr : Nat × Nat} (h : u.heap[b]? = some (.cells cs t fr)) : (u.setCell ⟨b, i, none⟩ v).heap[b]? = some (.cells (cs.setIfInBounds i v) t fr) := by
  simp [World.setCell, Array.getElem?_modify, h]
theorem info_intT : (Try.prog.info? 3).map (fun i => (i.zero, i.size, i.bytes)) = some (some (.int .i64 0), 1, 8) := by kernel_rfl
theorem own_base {w : World} {base base' : Nat} {e : TypeId} {s : Nat} {v : Value} {n : Nat} {xs : List Value} (h : w.ownsRow base e s v n xs) (hb : base' ≤ base) : w.ownsRow base' e s v n xs := by
  refine ⟨h.1, ?_⟩
  rcases h.2 with q | ⟨g, cap, cur, rfl, h1, hh, hr⟩
  · exact .inl q
  · exact .inr ⟨g, cap, cur, rfl, by omega, hh, hr⟩
theorem ownsRow_newer {w : World} {base : Nat} {e : TypeId} {s : Nat} {v : Value} {n : Nat} {xs : List Value} (h : w.ownsRow base e s v n xs) {b i : Nat} {x : Value} (hb : b < base) : (w.setCell ⟨b, i, none⟩ x).ownsRow base e s v n xs := by
  refine ⟨h.1, ?_⟩
  rcases h.2 with q | ⟨g, cap, cur, rfl, h1, hh, hr⟩
  · exact .inl q
  · exact .inr ⟨g, cap, cur, rfl, h1, (Below.heap_setCell _ _ _ _ (by show g ≠ b; omega)).trans hh, hr⟩
theorem own_touch {X : Nat → Prop} {w w' : World} {base : Nat} {e : TypeId} {s : Nat} {v : Value} {n : Nat} {xs : List Value} (h : w.ownsRow base e s v n xs) (T : Touch X w w') (hx : ∀ g, v.ownBlock = some g → ¬ X g) : w'.ownsRow base e s v n xs := by
  refine ⟨h.1, ?_⟩
  rcases h.2 with h2 | ⟨g, cap, cur, rfl, hb, hh, hr⟩
  · exact .inl h2
  · exact .inr ⟨g, cap, cur, rfl, hb, (T.block g (Array.getElem?_eq_some_iff.1 hh).1 (hx g rfl)).trans hh, hr⟩
theorem apart_ne {v b : Value} (h : Apart v b) {g : Nat} (hg : v.ownBlock = some g) : b.ownBlock ≠ some g := by
  rcases h with h | h
  · rw [h] at hg; cases hg
  · intro e; exact h (hg.trans e.symm)
/-- A row of numbers of the call's own: its slice, its cells. -/
theorem own_cells {u : World} {B : Nat} {v : Value} {l : List Int} (h : u.ownsRow B 3 1 v l.length (l.map (.int .i64 ·))) : ∃ a cap, v = .slice a l.length cap ∧ ∀ i x, l[i]? = some x → ∃ g, a = some ⟨g, 0, none⟩ ∧ B ≤ g ∧ g < u.heap.size ∧ u.cell? ⟨g, i, none⟩ = some (.int .i64 x) := by
  rcases h.2 with ⟨rfl, h0⟩ | ⟨g, cap, cur, rfl, hb, hh, hle, hcap, hsz, ht⟩
  · refine ⟨none, 0, by rw [h0], fun i x hx => ?_⟩
    have := (List.getElem?_eq_some_iff.1 hx).1; omega
  · refine ⟨_, cap, rfl, fun i x hx => ⟨g, rfl, hb, (Array.getElem?_eq_some_iff.1 hh).1, ?_⟩⟩
    have hi := (List.getElem?_eq_some_iff.1 hx).1
    have e : (l.map (Value.int .i64 ·))[i]? = some (.int .i64 x) := by rw [List.getElem?_map, hx]; rfl
    rw [cell_of_row _ _ _ _ _ _ hh]
    rw [← ht, List.getElem?_take_of_lt (by omega)] at e
    simpa using e
theorem apart_new {u : World} {N : Nat} {e : TypeId} {n s : Nat} {v x : Value} {xs : List Value} (hv : u.ownsRow N e s v n xs) (hx : ∀ g, x.ownBlock = some g → g < N) : Apart x v := by
  by_cases h : x.ownBlock = none
  · exact .inl h
  · refine .inr fun e => ?_
    rcases hq : x.ownBlock with _ | g
    · exact h hq
    · have h1 := hx g hq
      have h2 := (own_lt hv g (by rw [← e]; exact hq)).2
      omega
theorem ints_one (l : List Int) : ∀ u ∈ l.map (Value.int .i64 ·), u.oneCell' = true := fun u hu => by obtain ⟨x, _, rfl⟩ := List.mem_map.1 hu; rfl
def updF {α : Type} (f : Nat → α) (i : Nat) (v : α) : Nat → α := fun j => if j = i then v else f j
theorem updF_same {α : Type} (f : Nat → α) (i : Nat) (v : α) : updF f i v i = v := by simp [updF]
theorem updF_ne {α : Type} (f : Nat → α) {i j : Nat} (v : α) (h : j ≠ i) : updF f i v j = f j := by simp [updF, h]
/-- Rows of numbers of the call's own, each in a block of its own. -/
structure Fam (u : World) (base : Nat) (fv : Nat → Value) (fl : Nat → List Int) : Prop where
  row : ∀ i, u.ownsRow base 3 1 (fv i) (fl i).length ((fl i).map (.int .i64 ·))
  ap : ∀ i j, i ≠ j → Apart (fv i) (fv j)
  top : base ≤ u.heap.size
theorem Fam.nil (u : World) : Fam u u.heap.size (fun _ => .slice none 0 0) (fun _ => []) := ⟨fun i => World.ownsRow_nil _ _ _ _, fun i j _ => .inl rfl, Nat.le_refl _⟩
theorem Fam.later {u u' : World} {base : Nat} {fv : Nat → Value} {fl : Nat → List Int} (h : Fam u base fv fl) (hB : Below u.heap.size u u') : Fam u' base fv fl := ⟨fun i => own_later (h.row i) hB, h.ap, Nat.le_trans h.top hB.size⟩
/-- A store elsewhere. -/
theorem Fam.aside {u : World} {base : Nat} {fv : Nat → Value} {fl : Nat → List Int} (h : Fam u base fv fl) {b i : Nat} {v : Value} (hb : b < base) : Fam (u.setCell ⟨b, i, none⟩ v) base fv fl := ⟨fun i => ownsRow_newer (h.row i) hb, h.ap, by rw [size_setCell]; exact h.top⟩
/-- A row more, in new memory. -/
theorem Fam.add {u u' : World} {base : Nat} {fv : Nat → Value} {fl : Nat → List Int} (h : Fam u base fv fl) (hB : Below u.heap.size u u') (i : Nat) {v : Value} {l : List Int} (ho : u'.ownsRow u.heap.size 3 1 v l.length (l.map (.int .i64 ·))) : Fam u' base (updF fv i v) (updF fl i l) := by
  have hv : ∀ j, Apart (fv j) v := fun j => by
    by_cases hn : (fv j).ownBlock = none
    · exact .inl hn
    · refine .inr fun e => ?_
      rcases hg : (fv j).ownBlock with _ | g
      · exact hn hg
      · have h1 := (own_lt (h.row j) g hg).1
        have h2 := (own_lt ho g (e.symm.trans hg)).2
        omega
  refine ⟨fun j => ?_, fun j k hjk => ?_, Nat.le_trans h.top hB.size⟩
  · by_cases e : j = i
    · subst e; rw [updF_same, updF_same]; exact own_base ho h.top
    · rw [updF_ne _ _ e, updF_ne _ _ e]; exact own_later (h.row j) hB
  · by_cases e : j = i
    · subst e
      rw [updF_same, updF_ne _ _ (fun x => hjk x.symm)]
      exact (hv k).symm
    · rw [updF_ne _ _ e]
      by_cases e2 : k = i
      · subst e2; rw [updF_same]; exact hv j
      · rw [updF_ne _ _ e2]; exact h.ap j k hjk
/-- A number of a row. -/
theorem Fam.cell {u : World} {base : Nat} {fv : Nat → Value} {fl : Nat → List Int} (h : Fam u base fv fl) {i k : Nat} {x : Int} (hx : (fl i)[k]? = some x) : ∃ g cap, fv i = .slice (some ⟨g, 0, none⟩) (fl i).length cap ∧ base ≤ g ∧ g < u.heap.size ∧ u.cell? ⟨g, k, none⟩ = some (.int .i64 x) ∧ u.frozen? ⟨g, k, none⟩ = false := by
  obtain ⟨a, cap, e, hc⟩ := own_cells (h.row i)
  obtain ⟨g, rfl, h1, h2, h3⟩ := hc k x hx
  refine ⟨g, cap, e, h1, h2, h3, ?_⟩
  rcases (h.row i).2 with ⟨h0, _⟩ | ⟨g', cap', cur, e', _, hh, _⟩
  · rw [e] at h0; cases h0
  · rw [e] at e'; cases e'
    exact frozen_of_row _ _ _ _ _ hh
/-- A number of a row is put. -/
theorem Fam.put {u : World} {base : Nat} {fv : Nat → Value} {fl : Nat → List Int} (h : Fam u base fv fl) {i k g cap : Nat} (e : fv i = .slice (some ⟨g, 0, none⟩) (fl i).length cap) (hk : k < (fl i).length) (y : Int) : Fam (u.setCell ⟨g, k, none⟩ (.int .i64 y)) base fv (updF fl i ((fl i).set k y)) := by
  have hgo : (fv i).ownBlock = some g := by rw [e]; rfl
  refine ⟨fun j => ?_, h.ap, by rw [size_setCell]; exact h.top⟩
  by_cases ej : j = i
  · subst ej
    rw [updF_same]
    rcases (h.row j).2 with ⟨h0, _⟩ | ⟨g', cap', cur, e', hb, hh, hle, hcap, hsz, ht⟩
    · rw [e] at h0; cases h0
    · have e3 := e
      rw [e'] at e3; cases e3
      refine ⟨by simp, .inr ⟨g, cap, cur.setIfInBounds k (.int .i64 y), by rw [e, List.length_set], hb, stSet_block _ _ _ _ hh, by rw [List.length_set]; exact hle, hcap, by simpa using hsz, ?_⟩⟩
      rw [List.length_set, Array.toList_setIfInBounds, List.take_set, ht, List.map_set]
  · rw [updF_ne _ _ ej]
    refine own_touch (X := fun x => x = g) (h.row j) ((Touch.of_below (Below.refl _ _)).set rfl) ?_
    intro x hx ex
    subst ex
    exact apart_ne (h.ap j i ej) hx hgo
theorem Fam.touch {X : Nat → Prop} {u u' : World} {base : Nat} {fv : Nat → Value} {fl : Nat → List Int} (h : Fam u base fv fl) (T : Touch X u u') (hX : ∀ i g, (fv i).ownBlock = some g → ¬ X g) : Fam u' base fv fl := ⟨fun i => own_touch (h.row i) T (hX i), h.ap, Nat.le_trans h.top T.size⟩
end Go.Proofs.Ytgikoajclkfoiaa
