/- What the laws of this seat stand on, part 18. -/
import Derived.Test.YtnbpneaiibandaaPa0
import Derived.Test.YtnbpneaiibandaaPa17
set_option linter.unusedVariables false
set_option linter.unusedSimpArgs false
set_option maxRecDepth 100000
set_option maxHeartbeats 40000000
namespace Go.Proofs.Ytnbpneaiibandaa
open Go.ChangeShapes Go.WideShapes Go.ChangeAt Go.RowKit
def rnS : Nat → Nat
 | 5 => 38 | 6 => 32 | 7 => 39 | 8 => 40 | 9 => 41 | 10 => 10 | 11 => 11 | 14 => 12 | 12 => 98 | 13 => 99 | i => i + 33
def rnV (S : Array Value) (ga oa len cap i : Nat) (x : Int) (S' ev : Array Value) (b : Bool) : Nat → Option Value
 | 0 => some (.agg S)
 | 1 => some (.slice (some ⟨ga, oa, none⟩) len cap)
 | 2 => some (.int .i64 (i : Int))
 | 3 => some (.pointer (some ⟨ga, oa + i, none⟩))
 | 4 => some (.int .i64 x)
 | 5 => some (.tuple #[.agg S', .agg ev, .bool b])
 | 6 => some (.tuple #[.agg S', .agg ev, .bool b])
 | 7 => some (.agg S')
 | 8 => some (.agg ev)
 | 9 => some (.bool b)
 | 14 => some (.bool b)
 | _ => none
theorem rnS_inj {i j : Nat} (hi : i < 15) (hj : j < 15) (h : rnS i = rnS j) : i = j := by
 have : ∀ i : Fin 15, ∀ j : Fin 15, rnS i = rnS j → i = j := by decide
 have := this ⟨i, hi⟩ ⟨j, hj⟩ h
 simpa using this
theorem rnV_lt {S : Array Value} {ga oa len cap i : Nat} {x : Int} {S' ev : Array Value} {b : Bool} {j : Nat} {v : Value} (h : rnV S ga oa len cap i x S' ev b j = some v) : j < 15 ∧ j ≠ 10 ∧ j ≠ 11 ∧ j ≠ 12 ∧ j ≠ 13 := by
 refine ⟨?_, ?_, ?_, ?_, ?_⟩
 ·rcases Nat.lt_or_ge j 15 with q | q
  ·exact q
  ·obtain ⟨d, rfl⟩ := Nat.exists_eq_add_of_le q
   rw [Nat.add_comm] at h
   cases h
 all_goals intro e; subst e; cases h
def rnD (i : Nat) : Bool := i == 6 || i == 7 || i == 8 || i == 9 || i == 12 || i == 13 || i == 14
theorem rnV_new {S : Array Value} {ga oa len cap i : Nat} {x : Int} {S1 S2 ev : Array Value} {b : Bool} {j : Nat} (h : rnD j = false) (h5 : j ≠ 5) : rnV S ga oa len cap i x S1 ev b j = rnV S ga oa len cap i x S2 ev b j := by
 rcases Nat.lt_or_ge j 15 with q | q
 ·match j, q with
  | 0, _ | 1, _ | 2, _ | 3, _ | 4, _ | 10, _ | 11, _ | 12, _ | 13, _ => rfl
  | 5, _ => exact absurd rfl h5
  | 6, _ | 7, _ | 8, _ | 9, _ | 14, _ => cases h
 ·obtain ⟨d, rfl⟩ := Nat.exists_eq_add_of_le q
  rw [Nat.add_comm]; rfl
def rnK (t : Nat) : Bool := !([10, 11, 12, 32, 33, 34, 35, 36, 37, 38, 39, 40, 41] : List Nat).contains t
theorem rnK_S {j : Nat} (hj : j < 15) (h12 : j ≠ 12) (h13 : j ≠ 13) : rnK (rnS j) = false := by
 have : ∀ j : Fin 15, j.1 ≠ 12 → j.1 ≠ 13 → rnK (rnS j.1) = false := by decide
 exact this ⟨j, hj⟩ h12 h13
structure RnI (W : World) (f0 : Nat → Value) (S : Array Value) (ga oa len cap i : Nat) (x : Int) (ev : Array Value) (b : Bool) (Post : Array Value → Nat → World → Prop) (L : Nat → Bool) (f : Nat → Value) (w : World) (S' : Array Value) (n1 : Nat) (w2 : World) (g10 g11 : Nat) : Prop where
 bel : Below W.heap.size W w
 keep : ∀ t, rnK t = true → f t = f0 t
 vals : ∀ j v, rnV S ga oa len cap i x S' ev b j = some v → L j = true → f (rnS j) = v
 dep : ∀ j, rnD j = true → L j = true → L 5 = true
 call : L 5 = true → S'.size = 19 ∧ S'.all (·.oneCell') = true ∧ W.heap.size ≤ n1 ∧ n1 ≤ w2.heap.size ∧ Post S' n1 w2 ∧ Touch (fun g => W.heap.size ≤ g ∧ g < n1) w2 w
 b10 : L 10 = true → f 10 = .pointer (some ⟨g10, 0, none⟩) ∧ W.heap.size ≤ g10 ∧ (∃ Z, w.heap[g10]? = some (.cells Z 72) ∧ Z.size = 19 ∧ (L 12 = true → Z = S')) ∧ (L 5 = true → g10 < n1 ∨ w2.heap.size ≤ g10)
 b11 : L 11 = true → f 11 = .pointer (some ⟨g11, 0, none⟩) ∧ W.heap.size ≤ g11 ∧ (∃ Z, w.heap[g11]? = some (.cells Z 45) ∧ Z.size = 6 ∧ (L 13 = true → Z = ev)) ∧ (L 5 = true → g11 < n1 ∨ w2.heap.size ≤ g11)
 ne : L 10 = true → L 11 = true → g10 ≠ g11
 s12 : L 12 = true → L 10 = true ∧ L 7 = true
 s13 : L 13 = true → L 11 = true ∧ L 8 = true
def RnX (W : World) (f0 : Nat → Value) (S : Array Value) (ga oa len cap i : Nat) (x : Int) (ev : Array Value) (b : Bool) (Post : Array Value → Nat → World → Prop) (L : Nat → Bool) (f : Nat → Value) (w : World) : Prop := ∃ S' n1 w2 g10 g11, RnI W f0 S ga oa len cap i x ev b Post L f w S' n1 w2 g10 g11
section
variable {W : World} {f0 : Nat → Value} {S : Array Value} {ga oa len cap i : Nat} {x : Int} {ev : Array Value} {b : Bool} {Post : Array Value → Nat → World → Prop} {L : Nat → Bool} {f : Nat → Value} {w : World} {S' : Array Value} {n1 : Nat} {w2 : World} {g10 g11 : Nat}
theorem RnI.pure (h : RnI W f0 S ga oa len cap i x ev b Post L f w S' n1 w2 g10 g11) {j : Nat} {v : Value} (hv : rnV S ga oa len cap i x S' ev b j = some v) (h5 : j ≠ 5) (hd : rnD j = true → L 5 = true) : RnX W f0 S ga oa len cap i x ev b Post (upL L j) (putF f (some (rnS j)) v) w := by
 obtain ⟨hj, n10, n11, n12, n13⟩ := rnV_lt hv
 have p10 : ∀ t, rnK t = true → putF f (some (rnS j)) v t = f t := fun t ht => putF_ne (by intro e; have e2 : rnS j = t := Option.some.inj e; rw [← e2, rnK_S hj n12 n13] at ht; cases ht)
 have q10 : putF f (some (rnS j)) v 10 = f 10 := putF_ne (by intro e; exact n10 (rnS_inj hj (by omega) (show rnS j = rnS 10 from Option.some.inj e)))
 have q11 : putF f (some (rnS j)) v 11 = f 11 := putF_ne (by intro e; exact n11 (rnS_inj hj (by omega) (show rnS j = rnS 11 from Option.some.inj e)))
 refine ⟨S', n1, w2, g10, g11, ⟨h.bel, fun t ht => (p10 t ht).trans (h.keep t ht), fun k u hk hL => ?_, fun k hk hL => ?_, fun hL => ?_, fun hL => ?_, fun hL => ?_, fun hL hL2 => ?_, fun hL => ?_, fun hL => ?_⟩⟩
 ·by_cases e : k = j
  ·subst e; rw [hv] at hk; cases hk; exact putF_same
  ·rw [upL_ne _ e] at hL
   rw [putF_ne (by intro e2; exact e (rnS_inj (rnV_lt hk).1 hj (by simpa using e2.symm)))]
   exact h.vals k u hk hL
 ·rw [upL_ne _ (Ne.symm h5)]
  by_cases e : k = j
  ·subst e; exact hd hk
  ·rw [upL_ne _ e] at hL; exact h.dep k hk hL
 ·rw [upL_ne _ (Ne.symm h5)] at hL; exact h.call hL
 ·rw [upL_ne _ (Ne.symm n10)] at hL
  obtain ⟨h1, h2, ⟨Z, h3, h4, h6⟩, h7⟩ := h.b10 hL
  exact ⟨q10.trans h1, h2, ⟨Z, h3, h4, fun hL => h6 (by rwa [upL_ne _ (Ne.symm n12)] at hL)⟩, fun hL => h7 (by rwa [upL_ne _ (Ne.symm h5)] at hL)⟩
 ·rw [upL_ne _ (Ne.symm n11)] at hL
  obtain ⟨h1, h2, ⟨Z, h3, h4, h6⟩, h7⟩ := h.b11 hL
  exact ⟨q11.trans h1, h2, ⟨Z, h3, h4, fun hL => h6 (by rwa [upL_ne _ (Ne.symm n13)] at hL)⟩, fun hL => h7 (by rwa [upL_ne _ (Ne.symm h5)] at hL)⟩
 ·rw [upL_ne _ (Ne.symm n10)] at hL
  rw [upL_ne _ (Ne.symm n11)] at hL2
  exact h.ne hL hL2
 ·rw [upL_ne _ (Ne.symm n12)] at hL
  rw [upL_ne _ (Ne.symm n10)]
  obtain ⟨h1, h2⟩ := h.s12 hL
  refine ⟨h1, ?_⟩
  by_cases e : 7 = j
  ·subst e; exact upL_same _ _
  ·rw [upL_ne _ e]; exact h2
 ·rw [upL_ne _ (Ne.symm n13)] at hL
  rw [upL_ne _ (Ne.symm n11)]
  obtain ⟨h1, h2⟩ := h.s13 hL
  refine ⟨h1, ?_⟩
  by_cases e : 8 = j
  ·subst e; exact upL_same _ _
  ·rw [upL_ne _ e]; exact h2
theorem RnI.called (h : RnI W f0 S ga oa len cap i x ev b Post L f w S' n1 w2 g10 g11) (hL0 : L 5 = false) {w' : World} (hB : Below w.heap.size w w') {S2 : Array Value} (h19 : S2.size = 19) (h1c : S2.all (·.oneCell') = true) (hP : Post S2 w.heap.size w') : RnX W f0 S ga oa len cap i x ev b Post (upL L 5) (putF f (some 38) (.tuple #[.agg S2, .agg ev, .bool b])) w' := by
 have nd : ∀ j, rnD j = true → L j = false := fun j hj => by
  rcases hq : L j with _ | _
  ·rfl
  ·have := h.dep j hj hq; rw [hL0] at this; cases this
 refine ⟨S2, w.heap.size, w', g10, g11, ⟨below_next h.bel hB, fun t ht => (putF_ne (by rintro ⟨⟩; cases ht)).trans (h.keep t ht), fun k u hk hL => ?_, fun k hk hL => upL_same _ _, fun _ => ⟨h19, h1c, h.bel.size, hB.size, hP, Touch.of_below (Below.refl _ _)⟩, fun hL => ?_, fun hL => ?_, fun hL hL2 => ?_, fun hL => ?_, fun hL => ?_⟩⟩
 ·by_cases e : k = 5
  ·subst e; cases hk; exact putF_same
  ·rw [upL_ne _ e] at hL
   have hdk : rnD k = false := by
    rcases hq : rnD k with _ | _
    ·rfl
    ·rw [nd k hq] at hL; cases hL
   rw [rnV_new (S2 := S') hdk e] at hk
   rw [putF_ne (by intro e2; exact e (rnS_inj (rnV_lt hk).1 (by omega) (by simpa [rnS] using e2.symm)))]
   exact h.vals k u hk hL
 ·rw [upL_ne _ (by omega)] at hL
  obtain ⟨h1, h2, ⟨Z, h3, h4, h6⟩, h7⟩ := h.b10 hL
  have hl := (Array.getElem?_eq_some_iff.1 h3).1
  refine ⟨(putF_ne (by simp)).trans h1, h2, ⟨Z, (hB.block _ hl).trans h3, h4, fun hL => ?_⟩, fun _ => .inl hl⟩
  rw [upL_ne _ (by omega), nd 12 rfl] at hL; cases hL
 ·rw [upL_ne _ (by omega)] at hL
  obtain ⟨h1, h2, ⟨Z, h3, h4, h6⟩, h7⟩ := h.b11 hL
  have hl := (Array.getElem?_eq_some_iff.1 h3).1
  refine ⟨(putF_ne (by simp)).trans h1, h2, ⟨Z, (hB.block _ hl).trans h3, h4, fun hL => ?_⟩, fun _ => .inl hl⟩
  rw [upL_ne _ (by omega), nd 13 rfl] at hL; cases hL
 ·rw [upL_ne _ (by omega)] at hL
  rw [upL_ne _ (by omega)] at hL2
  exact h.ne hL hL2
 ·rw [upL_ne _ (by omega), nd 12 rfl] at hL; cases hL
 ·rw [upL_ne _ (by omega), nd 13 rfl] at hL; cases hL
theorem touch_alloc {X : Nat → Prop} {u w : World} (h : Touch X u w) (o : Obj) : Touch X u (w.alloc o) := ⟨h.os, h.tape, h.output, Nat.le_trans h.size (by simp), fun k hk hx => (Below.heap_alloc _ _ _ (Nat.lt_of_lt_of_le hk h.size)).trans (h.block k hk hx)⟩
theorem RnI.box10 (h : RnI W f0 S ga oa len cap i x ev b Post L f w S' n1 w2 g10 g11) (hL0 : L 10 = false) {Z : Array Value} (hZ : Z.size = 19) : RnX W f0 S ga oa len cap i x ev b Post (upL L 10) (putF f (some 10) (.pointer (some ⟨w.heap.size, 0, none⟩))) (w.alloc (.cells Z 72)) := by
 have n12 : L 12 = true → False := fun hL => by have := (h.s12 hL).1; rw [hL0] at this; cases this
 refine ⟨S', n1, w2, w.heap.size, g11, ⟨below_new h.bel _, fun t ht => (putF_ne (by rintro ⟨⟩; cases ht)).trans (h.keep t ht), fun k u hk hL => ?_, fun k hk hL => ?_, fun hL => ?_, fun hL => ?_, fun hL => ?_, fun hL hL2 => ?_, fun hL => ?_, fun hL => ?_⟩⟩
 ·have hk2 := rnV_lt hk
  rw [upL_ne _ hk2.2.1] at hL
  rw [putF_ne (by intro e2; exact hk2.2.1 (rnS_inj hk2.1 (by omega) (by simpa [rnS] using e2.symm)))]
  exact h.vals k u hk hL
 ·have e : k ≠ 10 := fun e => by subst e; cases hk
  rw [upL_ne _ e] at hL
  rw [upL_ne _ (by omega)]; exact h.dep k hk hL
 ·rw [upL_ne _ (by omega)] at hL
  obtain ⟨h1, h2, h3, h4, h5, h6⟩ := h.call hL
  exact ⟨h1, h2, h3, h4, h5, touch_alloc h6 _⟩
 ·refine ⟨putF_same, h.bel.size, ⟨Z, heap_alloc_new _ _, hZ, fun hL => ?_⟩, fun hL => ?_⟩
  ·rw [upL_ne _ (by omega)] at hL; exact (n12 hL).elim
  ·rw [upL_ne _ (by omega)] at hL
   exact .inr (h.call hL).2.2.2.2.2.size
 ·rw [upL_ne _ (by omega)] at hL
  obtain ⟨h1, h2, ⟨Z, h3, h4, h6⟩, h7⟩ := h.b11 hL
  have hl := (Array.getElem?_eq_some_iff.1 h3).1
  exact ⟨(putF_ne (by simp)).trans h1, h2, ⟨Z, (Below.heap_alloc _ _ _ hl).trans h3, h4, fun hL => h6 (by rwa [upL_ne _ (by omega)] at hL)⟩, fun hL => h7 (by rwa [upL_ne _ (by omega)] at hL)⟩
 ·rw [upL_ne _ (by omega)] at hL2
  obtain ⟨_, _, ⟨Z, h3, _⟩, _⟩ := h.b11 hL2
  have hl := (Array.getElem?_eq_some_iff.1 h3).1
  omega
 ·rw [upL_ne _ (by omega)] at hL; exact (n12 hL).elim
 ·rw [upL_ne _ (by omega)] at hL
  rw [upL_ne _ (by omega), upL_ne _ (by omega)]; exact h.s13 hL
theorem RnI.box11 (h : RnI W f0 S ga oa len cap i x ev b Post L f w S' n1 w2 g10 g11) (hL0 : L 11 = false) {Z : Array Value} (hZ : Z.size = 6) : RnX W f0 S ga oa len cap i x ev b Post (upL L 11) (putF f (some 11) (.pointer (some ⟨w.heap.size, 0, none⟩))) (w.alloc (.cells Z 45)) := by
 have n13 : L 13 = true → False := fun hL => by have := (h.s13 hL).1; rw [hL0] at this; cases this
 refine ⟨S', n1, w2, g10, w.heap.size, ⟨below_new h.bel _, fun t ht => (putF_ne (by rintro ⟨⟩; cases ht)).trans (h.keep t ht), fun k u hk hL => ?_, fun k hk hL => ?_, fun hL => ?_, fun hL => ?_, fun hL => ?_, fun hL hL2 => ?_, fun hL => ?_, fun hL => ?_⟩⟩
 ·have hk2 := rnV_lt hk
  rw [upL_ne _ hk2.2.2.1] at hL
  rw [putF_ne (by intro e2; exact hk2.2.2.1 (rnS_inj hk2.1 (by omega) (by simpa [rnS] using e2.symm)))]
  exact h.vals k u hk hL
 ·have e : k ≠ 11 := fun e => by subst e; cases hk
  rw [upL_ne _ e] at hL
  rw [upL_ne _ (by omega)]; exact h.dep k hk hL
 ·rw [upL_ne _ (by omega)] at hL
  obtain ⟨h1, h2, h3, h4, h5, h6⟩ := h.call hL
  exact ⟨h1, h2, h3, h4, h5, touch_alloc h6 _⟩
 ·rw [upL_ne _ (by omega)] at hL
  obtain ⟨h1, h2, ⟨Z, h3, h4, h6⟩, h7⟩ := h.b10 hL
  have hl := (Array.getElem?_eq_some_iff.1 h3).1
  exact ⟨(putF_ne (by simp)).trans h1, h2, ⟨Z, (Below.heap_alloc _ _ _ hl).trans h3, h4, fun hL => h6 (by rwa [upL_ne _ (by omega)] at hL)⟩, fun hL => h7 (by rwa [upL_ne _ (by omega)] at hL)⟩
 ·refine ⟨putF_same, h.bel.size, ⟨Z, heap_alloc_new _ _, hZ, fun hL => ?_⟩, fun hL => ?_⟩
  ·rw [upL_ne _ (by omega)] at hL; exact (n13 hL).elim
  ·rw [upL_ne _ (by omega)] at hL
   exact .inr (h.call hL).2.2.2.2.2.size
 ·rw [upL_ne _ (by omega)] at hL
  obtain ⟨_, _, ⟨Z, h3, _⟩, _⟩ := h.b10 hL
  have hl := (Array.getElem?_eq_some_iff.1 h3).1
  omega
 ·rw [upL_ne _ (by omega)] at hL
  rw [upL_ne _ (by omega), upL_ne _ (by omega)]; exact h.s12 hL
 ·rw [upL_ne _ (by omega)] at hL; exact (n13 hL).elim
theorem putF_none {f : Nat → Value} {v : Value} : putF f none v = f := by funext t; simp [putF]
theorem touch_row {X : Nat → Prop} {u w : World} (h : Touch X u w) {g : Nat} (cs : Array Value) (hg : X g ∨ u.heap.size ≤ g) : Touch X u (w.setRow g cs) := ⟨h.os, h.tape, h.output, by simpa using h.size, fun k hk hx => (setRow_other _ _ _ _ (fun e => by subst e; rcases hg with q | q; exact hx q; omega)).trans (h.block k hk hx)⟩
theorem RnI.st12 (h : RnI W f0 S ga oa len cap i x ev b Post L f w S' n1 w2 g10 g11) (h10 : L 10 = true) (h7' : L 7 = true) (hL0 : L 12 = false) : RnX W f0 S ga oa len cap i x ev b Post (upL L 12) (putF f none undef) (w.setRow g10 S') := by
 have h5 := h.dep 7 rfl h7'
 obtain ⟨k1, k2, ⟨Z0, k3, k4, k5⟩, k6⟩ := h.b10 h10
 obtain ⟨c1, c2, c3, c4, c5, c6⟩ := h.call h5
 have hT : Touch (fun g => g = g10) w (w.setRow g10 S') := ⟨rfl, rfl, rfl, by simp, fun k hk hx => setRow_other _ _ _ _ hx⟩
 rw [putF_none]
 refine ⟨S', n1, w2, g10, g11, ⟨h.bel.trans (hT.below (fun k hk => by omega) h.bel.size), h.keep, fun k u hk hL => ?_, fun k hk hL => ?_, fun hL => ⟨c1, c2, c3, c4, c5, touch_row c6 _ ?_⟩, fun hL => ?_, fun hL => ?_, fun hL hL2 => ?_, fun hL => ?_, fun hL => ?_⟩⟩
 ·rw [upL_ne _ (rnV_lt hk).2.2.2.1] at hL; exact h.vals k u hk hL
 ·rw [upL_ne _ (by omega)]; exact h5
 ·rcases k6 h5 with q | q
  ·exact .inl ⟨k2, q⟩
  ·exact .inr q
 ·exact ⟨k1, k2, ⟨S', setRow_heap _ _ _ _ _ _ k3, c1, fun _ => rfl⟩, fun _ => k6 h5⟩
 ·rw [upL_ne _ (by omega)] at hL
  obtain ⟨h1, h2, ⟨Z, h3, h4, h6⟩, h7⟩ := h.b11 hL
  exact ⟨h1, h2, ⟨Z, (setRow_other _ _ _ _ (Ne.symm (h.ne h10 hL))).trans h3, h4, fun hL => h6 (by rwa [upL_ne _ (by omega)] at hL)⟩, fun _ => h7 h5⟩
 ·rw [upL_ne _ (by omega)] at hL2; exact h.ne h10 hL2
 ·rw [upL_ne _ (by omega), upL_ne _ (by omega)]; exact ⟨h10, h7'⟩
 ·rw [upL_ne _ (by omega)] at hL
  rw [upL_ne _ (by omega), upL_ne _ (by omega)]; exact h.s13 hL
theorem RnI.st13 (h : RnI W f0 S ga oa len cap i x ev b Post L f w S' n1 w2 g10 g11) (h11 : L 11 = true) (h8' : L 8 = true) (hL0 : L 13 = false) (he : ev.size = 6) : RnX W f0 S ga oa len cap i x ev b Post (upL L 13) (putF f none undef) (w.setRow g11 ev) := by
 have h5 := h.dep 8 rfl h8'
 obtain ⟨k1, k2, ⟨Z0, k3, k4, k5⟩, k6⟩ := h.b11 h11
 obtain ⟨c1, c2, c3, c4, c5, c6⟩ := h.call h5
 have hT : Touch (fun g => g = g11) w (w.setRow g11 ev) := ⟨rfl, rfl, rfl, by simp, fun k hk hx => setRow_other _ _ _ _ hx⟩
 rw [putF_none]
 refine ⟨S', n1, w2, g10, g11, ⟨h.bel.trans (hT.below (fun k hk => by omega) h.bel.size), h.keep, fun k u hk hL => ?_, fun k hk hL => ?_, fun hL => ⟨c1, c2, c3, c4, c5, touch_row c6 _ ?_⟩, fun hL => ?_, fun hL => ?_, fun hL hL2 => ?_, fun hL => ?_, fun hL => ?_⟩⟩
 ·rw [upL_ne _ (rnV_lt hk).2.2.2.2] at hL; exact h.vals k u hk hL
 ·rw [upL_ne _ (by omega)]; exact h5
 ·rcases k6 h5 with q | q
  ·exact .inl ⟨k2, q⟩
  ·exact .inr q
 ·rw [upL_ne _ (by omega)] at hL
  obtain ⟨h1, h2, ⟨Z, h3, h4, h6⟩, h7⟩ := h.b10 hL
  exact ⟨h1, h2, ⟨Z, (setRow_other _ _ _ _ (h.ne hL h11)).trans h3, h4, fun hL => h6 (by rwa [upL_ne _ (by omega)] at hL)⟩, fun _ => h7 h5⟩
 ·exact ⟨k1, k2, ⟨ev, setRow_heap _ _ _ _ _ _ k3, he, fun _ => rfl⟩, fun _ => k6 h5⟩
 ·rw [upL_ne _ (by omega)] at hL; exact h.ne hL h11
 ·rw [upL_ne _ (by omega)] at hL
  rw [upL_ne _ (by omega), upL_ne _ (by omega)]; exact h.s12 hL
 ·rw [upL_ne _ (by omega), upL_ne _ (by omega)]; exact ⟨h11, h8'⟩
end
structure RuR (u0 u : World) (gS gr b0 : Nat) (S : Array Value) (p : ProgD) (ca : Option Addr) (ccap : Nat) (ta : Option Addr) (tcap : Nat) (fv : Nat → Value) (rs qs kv tv : Value) (m : Nat → Int) (told pk : List Int) (tr : List EvD) : Prop where
 sB : u.heap[gS]? = some (.cells S 72)
 rB : u.heap[gr]? = some (.cells #[.slice none 0 0, .int .u8 0, kv, tv] 37)
 lo : gS < u0.heap.size ∧ gr < u0.heap.size ∧ gS ≠ gr
 hb0 : b0 ≤ u0.heap.size
 picks : u.ownsRow u0.heap.size 3 1 kv pk.length (pk.map (.int .i64 ·))
 trace : u.ownsRow u0.heap.size 45 6 tv tr.length (evsCells tr)
 ap : Apart kv tv
 rf : ∀ u', Touch (fun g => g < b0 ∨ g = gS ∨ g = gr ∨ kv.ownBlock = some g ∨ tv.ownBlock = some g) u u' → Rf u' fv rs qs (flM p m told) p.threads.length p.chans.length
 sv : SV S p ca ccap ta tcap fv rs qs (bitN (m 90 == 1))
 bel : Touch (fun g => g = gS ∨ g = gr) u0 u
section
variable {u0 u u' : World} {gS gr b0 : Nat} {S : Array Value} {p : ProgD} {ca : Option Addr} {ccap : Nat} {ta : Option Addr} {tcap : Nat} {fv : Nat → Value} {rs qs kv tv : Value} {m : Nat → Int} {told pk : List Int} {tr : List EvD}
theorem RuR.now (h : RuR u0 u gS gr b0 S p ca ccap ta tcap fv rs qs kv tv m told pk tr) : Rf u fv rs qs (flM p m told) p.threads.length p.chans.length := h.rf u (Touch.of_below (Below.refl _ _))
theorem RuR.later (h : RuR u0 u gS gr b0 S p ca ccap ta tcap fv rs qs kv tv m told pk tr) (hB : Below u.heap.size u u') : RuR u0 u' gS gr b0 S p ca ccap ta tcap fv rs qs kv tv m told pk tr := by
 have l1 := (Array.getElem?_eq_some_iff.1 h.sB).1
 have l2 := (Array.getElem?_eq_some_iff.1 h.rB).1
 refine ⟨(hB.block _ l1).trans h.sB, (hB.block _ l2).trans h.rB, h.lo, h.hb0, own_later h.picks hB, own_later h.trace hB, h.ap, fun x T => h.rf x ((Touch.of_below hB).trans T fun k hk hx => hx), h.sv, h.bel.trans (Touch.of_below hB) fun k hk hx => hx⟩
theorem RuR.stepped (h : RuR u0 u gS gr b0 S p ca ccap ta tcap fv rs qs kv tv m told pk tr) {S' : Array Value} {fv' : Nat → Value} {rs' qs' : Value} {m' : Nat → Int} {told' : List Int} (hSV : SV S' p ca ccap ta tcap fv' rs' qs' (bitN (m' 90 == 1))) (hRf : ∀ x, Touch (fun g => g < u0.heap.size ∨ kv.ownBlock = some g ∨ tv.ownBlock = some g) u x → Rf x fv' rs' qs' (flM p m' told') p.threads.length p.chans.length) :
  RuR u0 (u.setRow gS S') gS gr b0 S' p ca ccap ta tcap fv' rs' qs' kv tv m' told' pk tr := by
 have hT : Touch (fun g => g = gS) u (u.setRow gS S') := ⟨rfl, rfl, rfl, by simp, fun k hk hx => setRow_other _ _ _ _ hx⟩
 obtain ⟨l1, l2, l3⟩ := h.lo
 refine ⟨setRow_heap _ _ _ _ _ _ h.sB, (setRow_other _ _ _ _ (Ne.symm l3)).trans h.rB, h.lo, h.hb0, own_touch h.picks hT fun g e e2 => ?_, own_touch h.trace hT fun g e e2 => ?_, h.ap, fun x T => hRf x ((hT.mono (fun k _ e => .inl (by omega))).trans T fun k _ hx => ?_), hSV, h.bel.trans hT fun k hk e => .inl e⟩
 ·have := (own_lt h.picks g e).2; omega
 ·have := (own_lt h.trace g e).2; omega
 ·have hb0 := h.hb0
  rcases hx with q | q | q | q | q
  ·exact .inl (by omega)
  ·exact .inl (by omega)
  ·exact .inl (by omega)
  ·exact .inr (.inl q)
  ·exact .inr (.inr q)
theorem RuR.pick {kv' : Value} (h : RuR u0 u gS gr b0 S p ca ccap ta tcap fv rs qs kv tv m told pk tr) (k : Int)
  (hrow : u'.ownsRow u0.heap.size 3 1 kv' (pk.length + 1) (pk.map (.int .i64 ·) ++ [.int .i64 k])) (hg : u.grownBy u' kv.ownBlock) (hat : kv'.ownBlock = kv.ownBlock ∨ kv'.ownBlock = some u.heap.size) :
  RuR u0 (u'.setCell ⟨gr, 2, none⟩ kv') gS gr b0 S p ca ccap ta tcap fv rs qs kv' tv m told (pk ++ [k]) tr := by
 obtain ⟨l1, l2, l3⟩ := h.lo
 have hs := h.bel.size
 have hkr : ∀ g, kv.ownBlock = some g → u0.heap.size ≤ g := fun g e => (own_lt h.picks g e).2
 have htr : ∀ g, tv.ownBlock = some g → u0.heap.size ≤ g ∧ g < u.heap.size := fun g e => ⟨(own_lt h.trace g e).2, (own_lt h.trace g e).1⟩
 have T1 : Touch (fun j => j = gr ∨ kv.ownBlock = some j) u (u'.setCell ⟨gr, 2, none⟩ kv') := (Touch.grown hg fun k e => .inr e).set (.inl rfl)
 have hbx := (hg.block gr (by omega) (fun e => by have := hkr gr e.symm; omega)).trans h.rB
 have hap := apart_append h.trace h.ap.symm hat
 refine ⟨(T1.block gS (by omega) ?_).trans h.sB, by rw [stSet_block _ _ _ _ hbx]; rfl, h.lo, h.hb0, ?_, own_touch h.trace T1 ?_, hap.symm, fun x T => h.rf x (T1.mono ?_ |>.trans T ?_), h.sv, h.bel.trans T1 ?_⟩
 ·rintro (e | e)
  ·exact l3 e
  ·have := hkr gS e; omega
 ·rw [show (pk ++ [k]).length = pk.length + 1 by simp, show (pk ++ [k]).map (Value.int .i64 ·) = pk.map (.int .i64 ·) ++ [.int .i64 k] by simp]
  exact own_touch (X := fun j => j = gr) hrow ((Touch.of_below (Below.refl _ _)).set rfl) (fun g e e' => by have := (own_lt hrow g e).2; omega)
 ·rintro g hg' (e | e)
  ·have := htr g hg'; omega
  ·exact apart_ne h.ap.symm hg' e
 ·rintro j hj (e | e)
  ·exact .inr (.inr (.inl e))
  ·exact .inr (.inr (.inr (.inl e)))
 ·rintro j hj (e | e | e | e | e)
  ·exact .inl e
  ·exact .inr (.inl e)
  ·exact .inr (.inr (.inl e))
  ·rcases hat with q | q
   ·rw [q] at e; exact .inr (.inr (.inr (.inl e)))
   ·rw [q] at e; cases e; omega
  ·exact .inr (.inr (.inr (.inr e)))
 ·rintro j hj (e | e)
  ·exact .inr e
  ·have := hkr j e; omega
theorem RuR.event {tv' : Value} (h : RuR u0 u gS gr b0 S p ca ccap ta tcap fv rs qs kv tv m told pk tr) (x : EvD)
  (hrow : u'.ownsRow u0.heap.size 45 6 tv' (tr.length + 1) (evsCells tr ++ evCells x)) (hg : u.grownBy u' tv.ownBlock) (hat : tv'.ownBlock = tv.ownBlock ∨ tv'.ownBlock = some u.heap.size) :
  RuR u0 (u'.setCell ⟨gr, 3, none⟩ tv') gS gr b0 S p ca ccap ta tcap fv rs qs kv tv' m told pk (tr ++ [x]) := by
 obtain ⟨l1, l2, l3⟩ := h.lo
 have hs := h.bel.size
 have hkr : ∀ g, tv.ownBlock = some g → u0.heap.size ≤ g := fun g e => (own_lt h.trace g e).2
 have htr : ∀ g, kv.ownBlock = some g → u0.heap.size ≤ g ∧ g < u.heap.size := fun g e => ⟨(own_lt h.picks g e).2, (own_lt h.picks g e).1⟩
 have T1 : Touch (fun j => j = gr ∨ tv.ownBlock = some j) u (u'.setCell ⟨gr, 3, none⟩ tv') := (Touch.grown hg fun k e => .inr e).set (.inl rfl)
 have hbx := (hg.block gr (by omega) (fun e => by have := hkr gr e.symm; omega)).trans h.rB
 have hap := apart_append h.picks h.ap hat
 refine ⟨(T1.block gS (by omega) ?_).trans h.sB, by rw [stSet_block _ _ _ _ hbx]; rfl, h.lo, h.hb0, own_touch h.picks T1 ?_, ?_, hap, fun x T => h.rf x (T1.mono ?_ |>.trans T ?_), h.sv, h.bel.trans T1 ?_⟩
 ·rintro (e | e)
  ·exact l3 e
  ·have := hkr gS e; omega
 ·rintro g hg' (e | e)
  ·have := htr g hg'; omega
  ·exact apart_ne h.ap hg' e
 ·rw [show (tr ++ [x]).length = tr.length + 1 by simp, evsCells_snoc]
  exact own_touch (X := fun j => j = gr) hrow ((Touch.of_below (Below.refl _ _)).set rfl) (fun g e e' => by have := (own_lt hrow g e).2; omega)
 ·rintro j hj (e | e)
  ·exact .inr (.inr (.inl e))
  ·exact .inr (.inr (.inr (.inr e)))
 ·rintro j hj (e | e | e | e | e)
  ·exact .inl e
  ·exact .inr (.inl e)
  ·exact .inr (.inr (.inl e))
  ·exact .inr (.inr (.inr (.inl e)))
  ·rcases hat with q | q
   ·rw [q] at e; exact .inr (.inr (.inr (.inr e)))
   ·rw [q] at e; cases e; omega
 ·rintro j hj (e | e)
  ·exact .inr e
  ·have := hkr j e; omega
abbrev evArr (E : EvD) : Array Value := #[.int .i64 E.th, .int .i64 E.pc, .int .u8 E.op, .int .i64 E.obj, .int .i64 E.val, .int .i64 E.mode]
theorem RuR.step (h : RuR u0 u gS gr b0 S p ca ccap ta tcap fv rs qs kv tv m told pk tr) (hP : ProgIn u u.heap.size p ca ta) (hs : soundE p = 0) (I : Inv m p.threads) (R : InvR p m) (hL : LkI m) (ht : told.length ≤ 1000000) (x : Int) (y : World) (hy : Below u.heap.size u y) :
  Calls Try.prog 36 #[.agg S, .int .i64 x] y fun e w' => ∃ S2, e = .returned (.tuple #[.agg S2, .agg (evArr (stepE p.threads m x)), .bool (canM p.threads m x)]) ∧ S2.size = 19 ∧ S2.all (·.oneCell') = true ∧ (canM p.threads m x = true → ∃ fv rs qs, SV S2 p ca ccap ta tcap fv rs qs (bitN (stepM p.threads m x 90 == 1)) ∧ ∀ z, Touch (fun g => g < y.heap.size) w' z → Rf z fv rs qs (flM p (stepM p.threads m x) (told ++ stepT p.threads m x)) p.threads.length p.chans.length) ∧ Below y.heap.size y w' := by
 have h19 : S.size = 19 := by rw [h.sv.eq]; rfl
 have h1 := sv_one h.sv h.now
 rcases hcan : canM p.threads m x with _ | _
 ·refine (step4_no S h19 h1 x y fun z hz => ?_).mono ?_
  ·have := can4_any S p ca ccap ta tcap fv rs qs m told z h.sv (h.now.later (below_next hy hz)) (hP.later (below_next hy hz)) hs I R ht x
   rwa [hcan] at this
  ·rintro e w' ⟨rfl, hB⟩
   have e3 : stepE p.threads m x = ⟨0, 0, 0, 0, 0, 0⟩ := by unfold stepE; rw [if_neg (by simp [hcan])]
   rw [e3]
   exact ⟨S, rfl, h19, h1, (fun h => by cases h), hB⟩
 ·refine (step4_keep S p ca ccap ta tcap fv rs qs m told y h.sv (h.now.later hy) (hP.later hy) hs I R hL ht x hcan).mono ?_
  rintro e w' ⟨S2, fv2, rs2, qs2, rfl, hSV, hRf, hB⟩
  refine ⟨S2, by rw [stepV_E]; rfl, by rw [hSV.eq]; rfl, sv_one hSV (hRf w' (Touch.of_below (Below.refl _ _))), fun _ => ⟨fv2, rs2, qs2, hSV, hRf⟩, hB⟩
end
structure ResR (u : World) (pr pk : List Int) (tr : List EvD) (va ka xa : Option Addr) : Prop where
 prints : RowOf .i64 u u.heap.size va pr
 picks : RowOf .i64 u u.heap.size ka pk
 trace : ∀ i x, tr[i]? = some x → ∃ g, xa = some ⟨g, 0, none⟩ ∧ g < u.heap.size ∧ EvAt u g (i * 6) x
def Run5 (p : ProgD) (ps : List Int) (w : World) (e : Ending) (w' : World) : Prop := ∃ va vc ka kc xa xc, e = .returned (.tuple #[.agg #[.slice va (runT p.threads ps (newM p.chans)).length vc, .int .u8 (statusM p.threads (runM p.threads ps (newM p.chans))), .slice ka (pkM p.threads ps (newM p.chans)).length kc, .slice xa (trM p.threads ps (newM p.chans)).length xc], .int .i64 0]) ∧ (∀ u', Touch (fun g => g < w.heap.size) w' u' → ResR u' (runT p.threads ps (newM p.chans)) (pkM p.threads ps (newM p.chans)) (trM p.threads ps (newM p.chans)) va ka xa) ∧ Below w.heap.size w w'
theorem run5_yes (p : ProgD) (ca : Option Addr) (ccap : Nat) (ta : Option Addr) (tcap : Nat) (a : Option Addr) (cap : Nat) (ps : List Int) (w : World) (hp : ProgIn w w.heap.size p ca ta) (hs : soundE p = 0) (hps : RowOf .i64 w w.heap.size a ps) (hl : ps.length ≤ 2000)
  (hNew : ∀ u, Below w.heap.size w u → Calls Try.prog 35 #[p.val ca ccap ta tcap] u (New4 p ca ccap ta tcap u)) :
  Calls Try.prog 17 #[p.val ca ccap ta tcap, .slice a ps.length cap] w (Run5 p ps w) := by
 have HP := Lib.hid hp
 have HS := Lib.hid hs
 have HPs := Lib.hid hps
 have HNew := Lib.hid hNew
 have hl' : ¬ 2000 < ps.length := by omega
 clear hp hs hps hNew
 go_enter Try.func17, Try.ntmps17
 go_upto_region 1 with (fail)
 generalize hW : World.alloc (World.alloc w _) _ = W
 have HB : Hid (Below w.heap.size w W) := Lib.hid (by rw [← hW]; exact below_two _ _ _)
 have n1 := (congrArg (fun x : World => x.heap[w.heap.size]?) hW).symm.trans ((Below.heap_alloc _ _ _ (by simp)).trans (heap_alloc_new _ _))
 have n2 := (congrArg (fun x : World => x.heap[w.heap.size + 1]?) hW).symm.trans (heap_alloc2_new _ _ _)
 have HN2 := Lib.hid n2
 clear hW
 have b0 : W.cell? ⟨w.heap.size, 0, none⟩ = some (.int .i64 p.vars) := cell_of_row _ _ _ _ _ _ n1
 have b1 : W.cell? ⟨w.heap.size, 1, none⟩ = some (.int .i64 p.atoms) := cell_of_row _ _ _ _ _ _ n1
 have b2 : W.cell? ⟨w.heap.size, 2, none⟩ = some (.int .i64 p.locks) := cell_of_row _ _ _ _ _ _ n1
 have b3 : W.cell? ⟨w.heap.size, 3, none⟩ = some (.slice ca p.chans.length ccap) := cell_of_row _ _ _ _ _ _ n1
 have b4 : W.cell? ⟨w.heap.size, 4, none⟩ = some (.int .i64 p.groups) := cell_of_row _ _ _ _ _ _ n1
 have b5 : W.cell? ⟨w.heap.size, 5, none⟩ = some (.int .i64 p.onces) := cell_of_row _ _ _ _ _ _ n1
 have b6 : W.cell? ⟨w.heap.size, 6, none⟩ = some (.slice ta p.threads.length tcap) := cell_of_row _ _ _ _ _ _ n1
 clear n1 n2
 go_wp2_with (first
  | (refine wpList_store_row rfl 72 (.tmp 6) (.tmp 16) rfl w1.heap.size _ rfl rfl 72 _ (heap_alloc_new _ _) hSz (by rw [hS19]; rfl) hS1 ?_)
  | (go_at_call 35; refine (HNew.out W HB.out).mono ?_; rintro e w1 ⟨S, fv, rs, qs, rfl, hSV, hRf, hB1⟩; have hS1 := sv_one hSV (hRf _ (Touch.of_below (Below.refl _ _))); have hS19 : S.size = 19 := (by rw [hSV.eq]; rfl); have hSz : (Try.prog.info? 72).map (·.size) = some S.size := (by rw [hS19]; exact info_S); have HSV := Lib.hid hSV; have HRf := Lib.hid hRf; have HB1 := Lib.hid hB1; clear hSV hRf hB1))
 have hgS := w1.heap.size
 generalize hV : World.alloc (World.setRow (World.alloc w1 _) _ _) _ = V
 have HBV : Hid (Below w1.heap.size w1 V) := Lib.hid (by rw [← hV]; exact ((below_row ((Below.refl _ w1).alloc (Nat.le_refl _) _) (Nat.le_refl _) S).alloc (by simp) _))
 have hV1 : V.heap[w1.heap.size]? = some (.cells S 72) := by rw [← hV]; exact (Below.heap_alloc _ _ _ (by simp)).trans (setRow_heap _ _ _ _ _ _ (heap_alloc_new _ _))
 have hV2 : V.heap[w1.heap.size + 1]? = some (.cells #[.slice none 0 0, .int .u8 0, .slice none 0 0, .slice none 0 0] 37) := by
  rw [← hV]
  refine (congrArg (fun n => (World.alloc _ _).heap[n]?) ?_).trans (heap_alloc_new _ _)
  simp
 have hVs : V.heap.size = w1.heap.size + 2 := by rw [← hV]; simp
 have HR0 : Hid (RuR V V w1.heap.size (w1.heap.size + 1) W.heap.size S p ca ccap ta tcap fv rs qs (.slice none 0 0) (.slice none 0 0) (newM p.chans) [] [] []) := Lib.hid ⟨hV1, hV2, ⟨by omega, by omega, by omega⟩, by have := HB1.out.size; omega, World.ownsRow_nil _ _ _ _, World.ownsRow_nil _ _ _ _, .inl rfl, fun x T => HRf.out x ((Touch.of_below HBV.out).trans T fun k hk h => by rcases h with e | e | e | e | e <;> first | exact e | omega | cases e), by rw [show newM p.chans 90 = 0 from newM_zero _ (by omega) (by omega)]; exact HSV.out, Touch.of_below (Below.refl _ _)⟩
 have HBw := Lib.hid (below_next HB.out HB1.out)
 have hle := HBw.out.size
 have hW2 := HB.out.size
 have HM2 := Lib.hid (old_later HN2.out HB1.out)
 have hml := (Array.getElem?_eq_some_iff.1 HM2.out).1
 clear hV hV1 hV2 b0 b1 b2 b3 b4 b5 b6 HSV HRf hS1 hS19 hSz hgS HNew
 generalize hgS : w1.heap.size = gS at *
 go_loopw [9] (fun i u => ∃ (k : Nat) (S : Array Value) (fv : Nat → Value) (rs qs kv tv : Value), k ≤ ps.length ∧ i = .int .i64 k ∧ Hid (RuR V u gS (gS + 1) W.heap.size S p ca ccap ta tcap fv rs qs kv tv (runM p.threads (ps.take k) (newM p.chans)) (runT p.threads (ps.take k) (newM p.chans)) (pkM p.threads (ps.take k) (newM p.chans)) (trM p.threads (ps.take k) (newM p.chans)))) (fun i _ => ps.length - (intOf i).toNat)
 case atStart => exact ⟨0, S, fv, rs, qs, .slice none 0 0, .slice none 0 0, Nat.zero_le _, rfl, HR0⟩
 case round =>
  obtain ⟨k, S, fv, rs, qs, kv, tv, hk, rfl, HR⟩ := hrel
  obtain ⟨ka, kc, rfl⟩ := st_slice HR.out.picks
  obtain ⟨xa, xc, rfl⟩ := st_slice HR.out.trace
  have hBr : Below w.heap.size w wr := (below_next HBw.out (by rw [hgS]; exact HBV.out)).trans (HR.out.bel.below (fun g hg => by rcases hg with e | e <;> omega) (by omega))
  by_cases hlt : k < ps.length
  ·obtain ⟨x, hx⟩ := at_lt hlt
   obtain ⟨ga, oa, rfl, hga, hcell0⟩ := HPs.out k x hx
   have hcell := (hBr.cell (p := ⟨ga, oa + k, none⟩) hga).trans hcell0
   have hgal : ga < wr.heap.size := cell_lt hcell
   have hlk : (k : Int) < ps.length := by omega
   have HK := Lib.hid (keep4_of HS.out (ps.take k) (by rw [List.length_take]; omega))
   have q1 := runT_len p.threads (ps.take k) (newM p.chans)
   have q2 := pkM_len p.threads (ps.take k) (newM p.chans)
   have q3 := trM_len p.threads (ps.take k) (newM p.chans)
   rw [List.length_take] at q1 q2
   have HSt := Lib.hid (HR.out.step (HP.out.later hBr) HS.out HK.out.inv HK.out.invR HK.out.lk (by omega) x)
   have HM := Lib.hid (runM_take (code := p.threads) (m := newM p.chans) hx)
   have HT := Lib.hid (runT_take (code := p.threads) (m := newM p.chans) hx)
   have HPk := Lib.hid (pkM_take (code := p.threads) (m := newM p.chans) hx)
   have HTr := Lib.hid (trM_take (code := p.threads) (m := newM p.chans) hx)
   have HTl : Hid ((runT p.threads (ps.take k) (newM p.chans)).length ≤ 2000 ∧ (pkM p.threads (ps.take k) (newM p.chans)).length ≤ 2000 ∧ (trM p.threads (ps.take k) (newM p.chans)).length ≤ 2000) := Lib.hid ⟨by omega, by omega, by omega⟩
   clear q1 q2 q3 hx hcell0 HK
   generalize runT p.threads (List.take k ps) (newM p.chans) = tl0 at *
   generalize pkM p.threads (List.take k ps) (newM p.chans) = pk0 at *
   generalize trM p.threads (List.take k ps) (newM p.chans) = tr0 at *
   generalize runM p.threads (List.take k ps) (newM p.chans) = m0 at *
   obtain ⟨hl1, hl2, hl3⟩ := HTl.out
   generalize hb : canM p.threads m0 x = b at *
   have HBb := Lib.hid hb
   clear hb
   generalize hE : stepE p.threads m0 x = E at *
   have HE := Lib.hid hE
   clear hE
   go_upto_region 10 with (fail)
   have hsB := HR.out.sB
   have hS19 : S.size = 19 := by rw [HR.out.sv.eq]; rfl
   have hSz : (Try.prog.info? 72).map (·.size) = some S.size := by rw [hS19]; exact info_S
   have hgSl := (Array.getElem?_eq_some_iff.1 hsB).1
   have hstep := HSt.out
   generalize hPo : (fun (S2 : Array Value) (n1 : Nat) (w' : World) => b = true → ∃ fv rs qs, SV S2 p ca ccap ta tcap fv rs qs (bitN (stepM p.threads m0 x 90 == 1)) ∧ ∀ z, Touch (fun g => g < n1) w' z → Rf z fv rs qs (flM p (stepM p.threads m0 x) (tl0 ++ stepT p.threads m0 x)) p.threads.length p.chans.length) = Post
   have HPo := Lib.hid hPo.symm
   have hstep : ∀ y, Below wr.drew.heap.size wr.drew y → Calls Try.prog 36 #[.agg S, .int .i64 x] y fun e w' => ∃ S2, e = .returned (.tuple #[.agg S2, .agg (evArr E), .bool b]) ∧ S2.size = 19 ∧ S2.all (·.oneCell') = true ∧ Post S2 y.heap.size w' ∧ Below y.heap.size y w' := fun y hy => by
    rw [HPo.out]
    exact hstep y ⟨hy.os, hy.tape, hy.output, hy.size, hy.block⟩
   clear hPo HSt
   have hev6 : (evArr E).size = 6 := rfl
   have hev1 : (evArr E).all (·.oneCell') = true := by simp [Value.oneCell']
   have hlo := hBr.size
   generalize hevE : evArr E = ev at *
   have HEv := Lib.hid hevE
   clear hevE
   refine wp_region_famK (by kernel_rfl) 66 rfl [] rfl (by kernel_rfl) (fun f0 => RnX wr.drew f0 S ga oa ps.length cap k x ev b Post) ?h0 ?hstep ?hdone
   case h0 =>
    refine ⟨#[], 0, wr, 0, 0, ⟨Below.refl _ _, fun t ht => rfl, fun j v hv hL => ?_, fun j hj hL => ?_, fun hL => ?_, fun hL => ?_, fun hL => ?_, fun hL => ?_, fun hL => ?_, fun hL => ?_⟩⟩
    ·have := (rnV_lt hv).1
     exact absurd (of_decide_eq_true hL) (by show ¬ 15 ≤ j; omega)
    ·have : j < 15 := by
      unfold rnD at hj
      simp at hj
      omega
     exact absurd (of_decide_eq_true hL) (by show ¬ 15 ≤ j; omega)
    ·exact absurd (of_decide_eq_true hL) (by show ¬ 15 ≤ 5; omega)
    ·exact absurd (of_decide_eq_true hL) (by show ¬ 15 ≤ 10; omega)
    ·exact absurd (of_decide_eq_true hL) (by show ¬ 15 ≤ 11; omega)
    ·exact absurd (of_decide_eq_true hL) (by show ¬ 15 ≤ 10; omega)
    ·exact absurd (of_decide_eq_true hL) (by show ¬ 15 ≤ 12; omega)
    ·exact absurd (of_decide_eq_true hL) (by show ¬ 15 ≤ 13; omega)
   case hstep =>
    intro L f u i o ho hL hd hI
    obtain ⟨S2, n1, w2, g10, g11, hI⟩ := hI
    have hi : i < 15 := (Array.getElem?_eq_some_iff.1 ho).1
    have k1 : f 1 = .slice (some ⟨ga, oa, none⟩) ps.length cap := hI.keep 1 rfl
    have k6 : f 6 = .pointer (some ⟨gS, 0, none⟩) := hI.keep 6 rfl
    have k9 : f 9 = .int .i64 (k : Int) := hI.keep 9 rfl
    have hcellD : wr.drew.cell? ⟨ga, oa + k, none⟩ = some (.int .i64 x) := hcell
    clear hcell HR HR0 HM2 HPs HP HS HM HT HPk HTr HBb HE HPo
    match i, hi, ho, hL, hd with
    | 0, _, ho, hL, hd =>
     have he : _ = o := Option.some.inj ho
     have hop : o.op = Op.load 72 (.tmp 6) := by rw [← he]; rfl
     have hg : o.guard = none := by rw [← he]; rfl
     have hds : o.dst = some 33 := by rw [← he]; rfl
     refine wpOp_fam (v := .agg S) (w' := u) ho hg ?_ (by rw [hds]; exact hI.pure (j := 0) rfl (by omega) (fun h => by cases h))
     have hr := run_loadVar_row (P := Try.prog) u gS 72 72 S (0, 0) _ ((hI.bel.block gS hgSl).trans hsB) Try.underlying72 rfl hSz
     have e0 := (actF_get (N := 66) (D := []) (f := f) (show 6 < 66 by omega)).trans k6
     clear ho hd he hI
     unfold execOp
     rw [hop]
     clear hSz hsB
     simp [Act.eval, e0, Instr.loadAt, Instr.sureAddr, hr, Result.andThen]
    | 1, _, ho, hL, hd =>
     have he : _ = o := Option.some.inj ho
     have hop : o.op = Op.move (.tmp 1) := by rw [← he]; rfl
     have hg : o.guard = none := by rw [← he]; rfl
     have hds : o.dst = some 34 := by rw [← he]; rfl
     refine wpOp_fam (v := .slice (some ⟨ga, oa, none⟩) ps.length cap) (w' := u) ho hg ?_ (by rw [hds]; exact hI.pure (j := 1) rfl (by omega) (fun h => by cases h))
     have e0 := (actF_get (N := 66) (D := []) (f := f) (show 1 < 66 by omega)).trans k1
     clear ho hd he hI
     unfold execOp
     rw [hop]
     go_simp
    | 2, _, ho, hL, hd =>
     have he : _ = o := Option.some.inj ho
     have hop : o.op = Op.move (.tmp 9) := by rw [← he]; rfl
     have hg : o.guard = none := by rw [← he]; rfl
     have hds : o.dst = some 35 := by rw [← he]; rfl
     refine wpOp_fam (v := .int .i64 (k : Int)) (w' := u) ho hg ?_ (by rw [hds]; exact hI.pure (j := 2) rfl (by omega) (fun h => by cases h))
     have e0 := (actF_get (N := 66) (D := []) (f := f) (show 9 < 66 by omega)).trans k9
     clear ho hd he hI
     unfold execOp
     rw [hop]
     go_simp
    | 3, _, ho, hL, hd =>
     have he : _ = o := Option.some.inj ho
     have hop : o.op = Op.indexAddr 24 (.tmp 34) (.tmp 35) := by rw [← he]; rfl
     have hg : o.guard = none := by rw [← he]; rfl
     have hds : o.dst = some 36 := by rw [← he]; rfl
     have v1 : f 34 = .slice (some ⟨ga, oa, none⟩) ps.length cap := hI.vals 1 _ rfl (dep_of hd 1 (by rw [← he]; kernel_rfl))
     have v2 : f 35 = .int .i64 (k : Int) := hI.vals 2 _ rfl (dep_of hd 2 (by rw [← he]; kernel_rfl))
     refine wpOp_fam (v := .pointer (some ⟨ga, oa + k, none⟩)) (w' := u) ho hg ?_ (by rw [hds]; exact hI.pure (j := 3) rfl (by omega) (fun h => by cases h))
     have e0 := (actF_get (N := 66) (D := []) (f := f) (show 34 < 66 by omega)).trans v1
     have e1 := (actF_get (N := 66) (D := []) (f := f) (show 35 < 66 by omega)).trans v2
     clear ho hd he hI
     unfold execOp
     rw [hop]
     go_simp
    | 4, _, ho, hL, hd =>
     have he : _ = o := Option.some.inj ho
     have hop : o.op = Op.load 3 (.tmp 36) := by rw [← he]; rfl
     have hg : o.guard = none := by rw [← he]; rfl
     have hds : o.dst = some 37 := by rw [← he]; rfl
     have v3 : f 36 = .pointer (some ⟨ga, oa + k, none⟩) := hI.vals 3 _ rfl (dep_of hd 3 (by rw [← he]; kernel_rfl))
     refine wpOp_fam (v := .int .i64 x) (w' := u) ho hg ?_ (by rw [hds]; exact hI.pure (j := 4) rfl (by omega) (fun h => by cases h))
     have hcx := (hI.bel.cell (p := ⟨ga, oa + k, none⟩) hgal).trans hcellD
     have e0 := (actF_get (N := 66) (D := []) (f := f) (show 36 < 66 by omega)).trans v3
     clear ho hd he hI
     unfold execOp
     rw [hop]
     go_simp
    | 5, _, ho, hL, hd =>
     have he : _ = o := Option.some.inj ho
     have hop : o.op = Op.call { callee := .value (.func 36), args := #[.tmp 33, .tmp 37], argTypes := #[72, 3] } := by rw [← he]; rfl
     have hg : o.guard = none := by rw [← he]; rfl
     have hds : o.dst = some 38 := by rw [← he]; rfl
     have v0 : f 33 = .agg S := hI.vals 0 _ rfl (dep_of hd 0 (by rw [← he]; kernel_rfl))
     have v4 : f 37 = .int .i64 x := hI.vals 4 _ rfl (dep_of hd 4 (by rw [← he]; kernel_rfl))
     refine wpOp_fam_call (w' := u) (fn := 36) (args := #[.agg S, .int .i64 x]) ho hg ?_ ((hstep u hI.bel).mono ?_)
     ·have hcf := cf_of Try.func36 (by kernel_rfl) (by kernel_rfl)
      have e0 := (actF_get (N := 66) (D := []) (f := f) (show 33 < 66 by omega)).trans v0
      have e1 := (actF_get (N := 66) (D := []) (f := f) (show 37 < 66 by omega)).trans v4
      clear ho hd he hI
      unfold execOp
      rw [hop]
      go_simp
     ·rintro e w' ⟨S2, rfl, q1, q2, q3, q4⟩
      exact ⟨_, rfl, by rw [hds]; exact hI.called hL q4 q1 q2 q3⟩
    | 6, _, ho, hL, hd =>
     have he : _ = o := Option.some.inj ho
     have hop : o.op = Op.move (.tmp 38) := by rw [← he]; rfl
     have hg : o.guard = none := by rw [← he]; rfl
     have hds : o.dst = some 32 := by rw [← he]; rfl
     have v5 : f 38 = .tuple #[.agg S2, .agg ev, .bool b] := hI.vals 5 _ rfl (dep_of hd 5 (by rw [← he]; kernel_rfl))
     have h5 := (dep_of hd 5 (by rw [← he]; kernel_rfl))
     refine wpOp_fam (v := .tuple #[.agg S2, .agg ev, .bool b]) (w' := u) ho hg ?_ (by rw [hds]; exact hI.pure (j := 6) rfl (by omega) (fun _ => h5))
     have e0 := (actF_get (N := 66) (D := []) (f := f) (show 38 < 66 by omega)).trans v5
     clear ho hd he hI
     unfold execOp
     rw [hop]
     go_simp
    | 7, _, ho, hL, hd =>
     have he : _ = o := Option.some.inj ho
     have hop : o.op = Op.extract (.tmp 32) 0 := by rw [← he]; rfl
     have hg : o.guard = none := by rw [← he]; rfl
     have hds : o.dst = some 39 := by rw [← he]; rfl
     have v6 : f 32 = .tuple #[.agg S2, .agg ev, .bool b] := hI.vals 6 _ rfl (dep_of hd 6 (by rw [← he]; kernel_rfl))
     have h5 := hI.dep 6 rfl (dep_of hd 6 (by rw [← he]; kernel_rfl))
     refine wpOp_fam (v := .agg S2) (w' := u) ho hg ?_ (by rw [hds]; exact hI.pure (j := 7) rfl (by omega) (fun _ => h5))
     have e0 := (actF_get (N := 66) (D := []) (f := f) (show 32 < 66 by omega)).trans v6
     clear ho hd he hI
     unfold execOp
     rw [hop]
     go_simp
    | 8, _, ho, hL, hd =>
     have he : _ = o := Option.some.inj ho
     have hop : o.op = Op.extract (.tmp 32) 1 := by rw [← he]; rfl
     have hg : o.guard = none := by rw [← he]; rfl
     have hds : o.dst = some 40 := by rw [← he]; rfl
     have v6 : f 32 = .tuple #[.agg S2, .agg ev, .bool b] := hI.vals 6 _ rfl (dep_of hd 6 (by rw [← he]; kernel_rfl))
     have h5 := hI.dep 6 rfl (dep_of hd 6 (by rw [← he]; kernel_rfl))
     refine wpOp_fam (v := .agg ev) (w' := u) ho hg ?_ (by rw [hds]; exact hI.pure (j := 8) rfl (by omega) (fun _ => h5))
     have e0 := (actF_get (N := 66) (D := []) (f := f) (show 32 < 66 by omega)).trans v6
     clear ho hd he hI
     unfold execOp
     rw [hop]
     go_simp
    | 9, _, ho, hL, hd =>
     have he : _ = o := Option.some.inj ho
     have hop : o.op = Op.extract (.tmp 32) 2 := by rw [← he]; rfl
     have hg : o.guard = none := by rw [← he]; rfl
     have hds : o.dst = some 41 := by rw [← he]; rfl
     have v6 : f 32 = .tuple #[.agg S2, .agg ev, .bool b] := hI.vals 6 _ rfl (dep_of hd 6 (by rw [← he]; kernel_rfl))
     have h5 := hI.dep 6 rfl (dep_of hd 6 (by rw [← he]; kernel_rfl))
     refine wpOp_fam (v := .bool b) (w' := u) ho hg ?_ (by rw [hds]; exact hI.pure (j := 9) rfl (by omega) (fun _ => h5))
     have e0 := (actF_get (N := 66) (D := []) (f := f) (show 32 < 66 by omega)).trans v6
     clear ho hd he hI
     unfold execOp
     rw [hop]
     go_simp
    | 10, _, ho, hL, hd =>
     have he : _ = o := Option.some.inj ho
     have hop : o.op = Op.alloc 72 := by rw [← he]; rfl
     have hg : o.guard = none := by rw [← he]; rfl
     have hds : o.dst = some 10 := by rw [← he]; rfl
     refine wpOp_fam (w' := u.alloc (.cells #[.int .i64 0, .int .i64 0, .int .i64 0, .slice none 0 0, .int .i64 0, .int .i64 0, .slice none 0 0, .slice none 0 0, .slice none 0 0, .slice none 0 0, .slice none 0 0, .slice none 0 0, .slice none 0 0, .slice none 0 0, .slice none 0 0, .slice none 0 0, .slice none 0 0, .slice none 0 0, .int .i64 0] 72)) (v := .pointer (some ⟨u.heap.size, 0, none⟩)) ho hg ?_ (by rw [hds]; exact hI.box10 hL rfl)
     clear ho hd he hI
     unfold execOp
     rw [hop]
     go_simp
    | 11, _, ho, hL, hd =>
     have he : _ = o := Option.some.inj ho
     have hop : o.op = Op.alloc 45 := by rw [← he]; rfl
     have hg : o.guard = none := by rw [← he]; rfl
     have hds : o.dst = some 11 := by rw [← he]; rfl
     refine wpOp_fam (w' := u.alloc (.cells #[.int .i64 0, .int .i64 0, .int .u8 0, .int .i64 0, .int .i64 0, .int .i64 0] 45)) (v := .pointer (some ⟨u.heap.size, 0, none⟩)) ho hg ?_ (by rw [hds]; exact hI.box11 hL rfl)
     clear ho hd he hI
     unfold execOp
     rw [hop]
     go_simp
    | 12, _, ho, hL, hd =>
     have he : _ = o := Option.some.inj ho
     have hop : o.op = Op.store 72 (.tmp 10) (.tmp 39) := by rw [← he]; rfl
     have hg : o.guard = none := by rw [← he]; rfl
     have hds : o.dst = none := by rw [← he]; rfl
     have hb := (dep_of hd 10 (by rw [← he]; kernel_rfl))
     have hs := (dep_of hd 7 (by rw [← he]; kernel_rfl))
     have v7 : f 39 = .agg S2 := hI.vals 7 _ rfl (dep_of hd 7 (by rw [← he]; kernel_rfl))
     obtain ⟨q1, q2, ⟨Z, q3, q4, _⟩, _⟩ := hI.b10 hb
     obtain ⟨c1, c2, _⟩ := hI.call (hI.dep 7 rfl hs)
     refine wpOp_fam_skip (w' := u.setRow g10 S2) ho hg ?_ (by rw [hds]; exact hI.st12 hb hs hL)
     have hr := run_storeVar_row (P := Try.prog) u g10 72 72 Z S2 q3 (by rw [c1]; exact info_S) (by rw [q4, c1]) c2
     have e0 := (actF_get (N := 66) (D := []) (f := f) (show 10 < 66 by omega)).trans q1
     have e1 := (actF_get (N := 66) (D := []) (f := f) (show 39 < 66 by omega)).trans v7
     clear ho hd he hI
     unfold execOp
     rw [hop]
     clear hSz hsB
     simp [Act.eval, e0, e1, Instr.storeAt, Instr.sureAddr, hr, Result.andThen]
    | 13, _, ho, hL, hd =>
     have he : _ = o := Option.some.inj ho
     have hop : o.op = Op.store 45 (.tmp 11) (.tmp 40) := by rw [← he]; rfl
     have hg : o.guard = none := by rw [← he]; rfl
     have hds : o.dst = none := by rw [← he]; rfl
     have hb := (dep_of hd 11 (by rw [← he]; kernel_rfl))
     have hs := (dep_of hd 8 (by rw [← he]; kernel_rfl))
     have v8 : f 40 = .agg ev := hI.vals 8 _ rfl (dep_of hd 8 (by rw [← he]; kernel_rfl))
     obtain ⟨q1, q2, ⟨Z, q3, q4, _⟩, _⟩ := hI.b11 hb
     obtain ⟨c1, c2, _⟩ := hI.call (hI.dep 8 rfl hs)
     refine wpOp_fam_skip (w' := u.setRow g11 ev) ho hg ?_ (by rw [hds]; exact hI.st13 hb hs hL hev6)
     have hr := run_storeVar_row (P := Try.prog) u g11 45 45 Z ev q3 (by rw [hev6]; exact info_event) (by rw [q4, hev6]) hev1
     have e0 := (actF_get (N := 66) (D := []) (f := f) (show 11 < 66 by omega)).trans q1
     have e1 := (actF_get (N := 66) (D := []) (f := f) (show 40 < 66 by omega)).trans v8
     clear ho hd he hI
     unfold execOp
     rw [hop]
     clear hSz hsB
     simp [Act.eval, e0, e1, Instr.storeAt, Instr.sureAddr, hr, Result.andThen]
    | 14, _, ho, hL, hd =>
     have he : _ = o := Option.some.inj ho
     have hop : o.op = Op.assign (.tmp 41) := by rw [← he]; rfl
     have hg : o.guard = none := by rw [← he]; rfl
     have hds : o.dst = some 12 := by rw [← he]; rfl
     have v9 : f 41 = .bool b := hI.vals 9 _ rfl (dep_of hd 9 (by rw [← he]; kernel_rfl))
     have h5 := hI.dep 9 rfl (dep_of hd 9 (by rw [← he]; kernel_rfl))
     refine wpOp_fam (v := .bool b) (w' := u) ho hg ?_ (by rw [hds]; exact hI.pure (j := 14) rfl (by omega) (fun _ => h5))
     have e0 := (actF_get (N := 66) (D := []) (f := f) (show 41 < 66 by omega)).trans v9
     clear ho hd he hI
     unfold execOp
     rw [hop]
     go_simp
   case hdone =>
    intro f u hI
    obtain ⟨S2, n1, w2, g10, g11, hI⟩ := hI
    obtain ⟨t10, lo10, ⟨Z10, z10, _, y10⟩, p10⟩ := hI.b10 rfl
    rw [y10 rfl] at z10
    obtain ⟨t11, lo11, ⟨Z11, z11, _, y11⟩, p11⟩ := hI.b11 rfl
    rw [y11 rfl] at z11
    obtain ⟨c1, c2, c3, c4, c5, c6⟩ := hI.call rfl
    have t12 : f 12 = .bool b := hI.vals 14 _ rfl rfl
    have hke := hI.keep
    have hBu : Below wr.heap.size wr u := ⟨hI.bel.os, hI.bel.tape, hI.bel.output, hI.bel.size, hI.bel.block⟩
    have HRu := Lib.hid (HR.out.later hBu)
    have hcellU := (hBu.cell (p := ⟨ga, oa + k, none⟩) hgal).trans hcell
    have hlo10 : wr.heap.size ≤ g10 := lo10
    have hlo11 : wr.heap.size ≤ g11 := lo11
    have hc3 : wr.heap.size ≤ n1 := c3
    have hVw := HR.out.bel.size
    rw [actF_puts _ 66 rfl f [10, 11, 12, 32, 33, 34, 35, 36, 37, 38, 39, 40, 41] (fun t _ ht => hke t (by unfold rnK; simpa using ht))]
    simp only [List.foldl_cons, List.foldl_nil, Act.put, zz3, zz4, zz5]
    rw [t10, t11, t12]
    clear t10 t11 t12 hI hke y10 y11 lo10 lo11 c3 hcell hsB hgSl hstep
    rcases b with _ | _
    ·clear c1 c2 c4 c5 c6 z10 z11 p10 p11
     go_wp2
     go_roundw
     case rel => exact ⟨k + 1, S, fv, rs, qs, _, _, by omega, by go_num, Lib.hid (by rw [HM.out, HT.out, HPk.out, HTr.out, stepM_no HBb.out, stepT_no HBb.out, onePk_no HBb.out, oneTr_no HBb.out, List.append_nil, List.append_nil, List.append_nil]; exact HRu.out)⟩
     case measure => simp [intOf]; omega
    ·rw [HPo.out] at c5
     obtain ⟨fv2, rs2, qs2, hSV2, hRf2⟩ := c5 rfl
     have hkb : ∀ g, (Value.slice ka pk0.length kc).ownBlock = some g → g < wr.heap.size := fun g e => (own_lt HR.out.picks g e).1
     have hxb : ∀ g, (Value.slice xa tr0.length xc).ownBlock = some g → g < wr.heap.size := fun g e => (own_lt HR.out.trace g e).1
     have H2 := Lib.hid (HRu.out.stepped hSV2 fun z T => hRf2 z ((c6.mono fun q _ h => h.2).trans T fun q hq h => by rcases h with h | h | h <;> first | omega | (have := hkb q h; omega) | (have := hxb q h; omega)))
     have hS2z : (Try.prog.info? 72).map (·.size) = some S2.size := by rw [c1]; exact info_S
     have hsb := HRu.out.sB
     have HZ11 : Hid (u.heap[g11]? = some (.cells (evArr E) 45)) := Lib.hid (by rw [HEv.out]; exact z11)
     have HZ10 := Lib.hid z10
     have HSb := Lib.hid hsb
     clear hSV2 hRf2 c4 c5 c6 z10 z11 p10 p11 hsb hSz HPo
     go_upto_region 13 with (first
      | (refine wpList_store_row rfl 72 (.tmp 6) (.tmp 43) rfl gS _ rfl rfl 72 _ HSb.out hS2z (by rw [hS19, c1]) c2 ?_)
      | (refine wpList_load_row rfl 72 (.tmp 10) rfl g10 rfl 72 S2 (0, 0) _ HZ10.out Try.underlying72 rfl hS2z ?_))
     generalize hU2 : World.setRow u gS S2 = U2 at *
     have HZ : Hid (U2.heap[g11]? = some (.cells (evArr E) 45)) := Lib.hid (by rw [← hU2]; exact (setRow_other _ _ _ _ (by omega)).trans HZ11.out)
     have hcx : U2.cell? ⟨ga, oa + k, none⟩ = some (.int .i64 x) := by rw [← hU2]; exact (cell_setRow_other _ _ _ _ (by simp only; omega)).trans hcellU
     have hg11 : g11 < U2.heap.size := (Array.getElem?_eq_some_iff.1 HZ.out).1
     have hVU := H2.out.bel.size
     obtain ⟨r0, r1, r2, r3⟩ := cells4 H2.out.rB
     have rf2 := frozen_of_row _ _ 2 _ _ H2.out.rB
     have r2' : ∀ o, (U2.alloc o).cell? ⟨gS + 1, 2, none⟩ = some (.slice ka pk0.length kc) := fun o => Lib.cell?_alloc_some _ r2
     obtain ⟨t0, ti, tz0, tz1, tz2⟩ := info_parts info_intT
     obtain ⟨j0, ji, jz0, jz1, jz2⟩ := info_parts info_eventT
     have HPkO := Lib.hid H2.out.picks
     have hkg : ∀ g, (Value.slice ka pk0.length kc).ownBlock = some g → V.heap.size ≤ g ∧ g ≠ g11 := fun g e => ⟨(own_lt H2.out.picks g e).2, fun e2 => by have := hkb g e; omega⟩
     have hxg : ∀ g, (Value.slice xa tr0.length xc).ownBlock = some g → V.heap.size ≤ g ∧ g ≠ g11 := fun g e => ⟨(own_lt H2.out.trace g e).2, fun e2 => by have := hxb g e; omega⟩
     have HKg := Lib.hid hkg
     have HXg := Lib.hid hxg
     clear hU2 HZ11 HZ10 HSb hcellU HRu hkb hxb hkg hxg
     go_region_law ((rw [if_pos (by rfl)]); refine wp_append_own_at _ (.tmp 45) (.tmp 50) 24 rfl V.heap.size 3 t0 (.int .i64 0) 1 8 Try.underlying24 ti tz0 tz1 tz2 rfl (by decide) (.slice ka pk0.length kc) pk0.length (pk0.map (.int .i64 ·)) rfl (own_later HPkO.out (below_box U2 _).drew) ⟨U2.heap.size, 0, none⟩ 1 1 [.int .i64 x] rfl rfl (st_one_new U2 _ _) (by simp [Value.oneCell']) (by unfold maxLen; omega) (by omega) (by simp; omega) ?_; intro v' w3 hown3 hgrow3 _ hat3; obtain ⟨ka', kc', rfl⟩ := st_slice hown3; have HL := H2.out.later (below_box U2 (.cells #[.int .i64 x] 3)).drew; have b3 := (hgrow3.block (gS + 1) (by simp; omega) (fun e => by have := HKg.out _ e.symm; omega)).trans HL.rB; have c3 := (cells4 b3).2.2.1; have f3 := frozen_of_row _ _ 2 _ _ b3; have HP3 := Lib.hid (HL.pick x hown3 hgrow3 hat3); have HE3 := Lib.hid ((hgrow3.block g11 (by simp; omega) (fun e => by have := HKg.out _ e.symm; omega)).trans ((Below.heap_alloc U2 (.cells #[.int .i64 x] 3) g11 hg11).trans HZ.out)); clear HL b3 hown3 hgrow3 hat3)
     all_goals
      generalize hU3 : World.setCell w3 _ _ = U3
      have HP4 : Hid (RuR V U3 gS (gS + 1) W.heap.size S2 p ca ccap ta tcap fv2 rs2 qs2 (.slice ka' (pk0.length + 1) kc') (.slice xa tr0.length xc) (stepM p.threads m0 x) (tl0 ++ stepT p.threads m0 x) (pk0 ++ [x]) tr0) := Lib.hid (by rw [← hU3]; exact HP3.out)
      have hE4 : U3.heap[g11]? = some (.cells (evArr E) 45) := by rw [← hU3]; exact (Below.heap_setCell _ _ _ _ (by simp only; omega)).trans HE3.out
      clear hU3 HP3 HE3 c3 f3 r0 r1 r2 r3 rf2 r2'
      obtain ⟨e0, e1, e2, e3, e4, e5⟩ := cells6 hE4
      obtain ⟨r0, r1, r2, r3⟩ := cells4 HP4.out.rB
      have rf3 := frozen_of_row _ _ 3 _ _ HP4.out.rB
      have hVU3 := HP4.out.bel.size
      have hg3 := cell_lt r0
      go_wp2_with (at_builtin; refine wpList_append_own_at _ rfl _ _ 35 rfl V.heap.size 45 j0 (evV 0 0 0 0 0 0) 6 48 Try.underlying35 ji jz0 jz1 jz2 rfl (by decide) (.slice xa tr0.length xc) tr0.length (evsCells tr0) rfl (own_later HP4.out.trace (below_box U3 _)) ⟨U3.heap.size, 0, none⟩ 1 1 (evCells E) rfl rfl (cells_ev_new U3 E _) (ev_one _) (by unfold maxLen; omega) (by omega) (by simp; omega) ?_; intro v' w4 hown4 hgrow4 _ hat4; obtain ⟨xa', xc', rfl⟩ := st_slice hown4; have HL := HP4.out.later (below_box U3 (.cells (evArr E) 45)); have b4 := (hgrow4.block (gS + 1) (by simp; omega) (fun e => by have := HXg.out _ e.symm; omega)).trans HL.rB; have c4 := (cells4 b4).2.2.2; have f4 := frozen_of_row _ _ 3 _ _ b4; have HP5 := Lib.hid (HL.event E hown4 hgrow4 hat4); clear HL b4 hown4 hgrow4 hat4)
      go_roundw
      case rel => exact ⟨k + 1, S2, fv2, rs2, qs2, _, _, by omega, by go_num, Lib.hid (by rw [HM.out, HT.out, HPk.out, HTr.out, onePk_yes HBb.out, oneTr_yes HBb.out, HE.out]; exact HP5.out)⟩
      case measure => simp [intOf]; omega
  ·obtain rfl : k = ps.length := by omega
   have hR := HR.out
   rw [List.take_length] at hR
   have HK := Lib.hid (keep4_of HS.out ps (by omega))
   have q1 := runT_len p.threads ps (newM p.chans)
   generalize hpr : runT p.threads ps (newM p.chans) = pr at *
   generalize hpk : pkM p.threads ps (newM p.chans) = pk at *
   generalize htr : trM p.threads ps (newM p.chans) = tr at *
   have HEq := Lib.hid (And.intro hpr (And.intro hpk htr))
   clear hpr hpk htr HR
   have hke : ka = ka ∧ kc = kc := ⟨rfl, rfl⟩
   obtain ⟨va, vc, ev8, _⟩ := hR.now.row 8
   have hf8 : flM p (runM p.threads ps (newM p.chans)) pr 8 = pr := rfl
   rw [hf8] at ev8
   have HE8 := Lib.hid ev8
   have c17 : wr.cell? ⟨gS, 17, none⟩ = some (.slice va pr.length vc) := (cell_of_row _ _ 17 _ _ _ hR.sB).trans (by rw [hR.sv.eq, ← ev8]; rfl)
   obtain ⟨r0, r1, r2, r3⟩ := cells4 hR.rB
   have rfz := fun j => frozen_of_row _ _ j _ _ hR.rB
   have hS19 : S.size = 19 := by rw [hR.sv.eq]; rfl
   have hSz : (Try.prog.info? 72).map (·.size) = some S.size := by rw [hS19]; exact info_S
   have HRR := Lib.hid hR
   have hgl := hR.lo
   have hVw := hR.bel.size
   obtain ⟨hgl1, hgl2, hgl3⟩ := hgl
   clear hR ev8 hf8
   go_upto_region 16 with (fail)
   generalize hU : World.setCell wr _ _ = U1
   have hT1 : Touch (fun g => g = gS + 1) wr U1 := by rw [← hU]; exact (Touch.of_below (Below.refl _ _)).set rfl
   have HT1 := Lib.hid hT1
   have hB1 : U1.heap[gS + 1]? = some (.cells #[.slice va pr.length vc, .int .u8 0, .slice ka pk.length kc, .slice xa tr.length xc] 37) := by rw [← hU, stSet_block _ _ _ _ HRR.out.rB]; rfl
   have HB1' := Lib.hid hB1
   have HsB1 : Hid (U1.heap[gS]? = some (.cells S 72)) := Lib.hid ((hT1.block gS (by omega) (by omega)).trans HRR.out.sB)
   have hBU : Below w.heap.size w U1 := hBr.trans (hT1.below (fun g hg => by omega) hBr.size)
   have HBU := Lib.hid hBU
   have hsU := hT1.size
   have HStat := Lib.hid (status4_any S p ca ccap ta tcap fv rs qs (runM p.threads ps (newM p.chans)) pr U1 HRR.out.sv (HRR.out.rf U1 (hT1.mono fun q _ e => .inr (.inr (.inl e)))) (HP.out.later hBU) HS.out HK.out.inv HK.out.invR (by omega))
   have hM2 : U1.heap[w.heap.size + 1]? = some (.cells #[.slice none 0 0, .int .u8 0, .slice none 0 0, .slice none 0 0] 37) := by
    refine (hT1.block _ (by omega) (by omega)).trans ((HRR.out.bel.block _ (by omega) (by omega)).trans ((HBV.out.block _ (by omega)).trans HM2.out))
   have HM2' := Lib.hid hM2
   clear hU hT1 hB1 hBU hM2 c17 r0 r1 r2 r3 rfz HBV HBw HM2 HR0
   generalize hst : statusM p.threads (runM p.threads ps (newM p.chans)) = st at *
   have HSt := Lib.hid hst
   clear hst
   go_wp2_with (first
    | (go_at_call 37; refine HStat.out.mono ?_; rintro e w2 ⟨rfl, hB2⟩; have b2 := old_later HB1'.out hB2; obtain ⟨r0, r1, r2, r3⟩ := cells4 b2; have rfz := (fun j => frozen_of_row _ _ j _ _ b2); have m2 := old_later HM2'.out hB2; obtain ⟨s0, s1, s2, s3⟩ := cells4 m2; have sfz := (fun j => frozen_of_row _ _ j _ _ m2); have Hm2 := Lib.hid m2; have HB2 := Lib.hid hB2; clear hB2 b2 m2)
    | (refine wpList_load_row rfl 72 (.tmp 6) rfl gS rfl 72 S (0, 0) _ HsB1.out Try.underlying72 rfl hSz ?_))
   have hm3 : (w2.setCell ⟨gS + 1, 1, none⟩ (.int .u8 st)).heap[w.heap.size + 1]? = some (.cells #[.slice none 0 0, .int .u8 0, .slice none 0 0, .slice none 0 0] 37) := (Below.heap_setCell _ _ _ _ (by simp only; omega)).trans Hm2.out
   refine bodyPost_ret (v := .tuple #[.agg #[.slice va pr.length vc, .int .u8 st, .slice ka pk.length kc, .slice xa tr.length xc], .int .i64 0]) (st_results (p := 4) (u := 5) rfl _ _ (w.heap.size + 1) 37 #[.slice va pr.length vc, .int .u8 st, .slice ka pk.length kc, .slice xa tr.length xc] (0, 0) _ rfl (stSet_four hm3) Try.underlying37 rfl info_result) rfl ?_
   have hwl := (Array.getElem?_eq_some_iff.1 HN2.out).1
   have hT : Touch (fun g => g < W.heap.size ∨ g = gS + 1) wr (((((w2.setCell ⟨gS + 1, 1, none⟩ (.int .u8 st)).setCell ⟨w.heap.size + 1, 0, none⟩ (.slice va pr.length vc)).setCell ⟨w.heap.size + 1, 1, none⟩ (.int .u8 st)).setCell ⟨w.heap.size + 1, 2, none⟩ (.slice ka pk.length kc)).setCell ⟨w.heap.size + 1, 3, none⟩ (.slice xa tr.length xc)) :=
    ((((((HT1.out.mono fun q _ e => .inr e).trans (Touch.of_below HB2.out) fun _ _ h => h).set (.inr rfl)).set (.inl hwl)).set (.inl hwl)).set (.inl hwl)).set (.inl hwl)
   have hBF : Below w.heap.size w (((((w2.setCell ⟨gS + 1, 1, none⟩ (.int .u8 st)).setCell ⟨w.heap.size + 1, 0, none⟩ (.slice va pr.length vc)).setCell ⟨w.heap.size + 1, 1, none⟩ (.int .u8 st)).setCell ⟨w.heap.size + 1, 2, none⟩ (.slice ka pk.length kc)).setCell ⟨w.heap.size + 1, 3, none⟩ (.slice xa tr.length xc)) := stBelow_set (stBelow_set (stBelow_set (stBelow_set (stBelow_set (below_next HBU.out HB2.out) (by omega)) (by omega)) (by omega)) (by omega)) (by omega)
   generalize (((((w2.setCell ⟨gS + 1, 1, none⟩ (.int .u8 st)).setCell ⟨w.heap.size + 1, 0, none⟩ (.slice va pr.length vc)).setCell ⟨w.heap.size + 1, 1, none⟩ (.int .u8 st)).setCell ⟨w.heap.size + 1, 2, none⟩ (.slice ka pk.length kc)).setCell ⟨w.heap.size + 1, 3, none⟩ (.slice xa tr.length xc)) = F at *
   have hWV := HB1.out.size
   unfold Run5
   rw [HEq.out.1, HEq.out.2.1, HEq.out.2.2, HSt.out]
   refine ⟨va, vc, ka, kc, xa, xc, rfl, fun z T => ?_, hBF⟩
   have hwW := HB.out.size
   have hTz := hT.trans T fun q _ h => .inl (by omega)
   have hp2 := own_touch HRR.out.picks hTz (fun g e h => by have := (own_lt HRR.out.picks g e).2; rcases h with h | h <;> omega)
   have ht2 := own_touch HRR.out.trace hTz (fun g e h => by have := (own_lt HRR.out.trace g e).2; rcases h with h | h <;> omega)
   obtain ⟨ka', kc', e1, hp3⟩ := own_cells hp2
   obtain ⟨xa', xc', e2, ht3⟩ := evs_cells ht2
   cases e1
   cases e2
   obtain ⟨a8, c8, e8, hrow⟩ := (HRR.out.rf z (hTz.mono fun q _ h => by rcases h with h | h; exact .inl h; exact .inr (.inr (.inl h)))).row 8
   rw [HE8.out] at e8
   cases e8
   refine ⟨hrow, row_own (cap := 0) hp3, fun i x hx => ?_⟩
   obtain ⟨g, e, _, q, c⟩ := ht3 i x hx
   exact ⟨g, e, q, evAt_of c⟩
end Go.Proofs.Ytnbpneaiibandaa
