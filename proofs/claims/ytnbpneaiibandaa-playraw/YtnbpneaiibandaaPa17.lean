/- What the laws of this seat stand on, part 17. -/
import Derived.Test.YtnbpneaiibandaaPa0
import Derived.Test.YtnbpneaiibandaaPa1
import Derived.Test.YtnbpneaiibandaaPa16
set_option linter.unusedVariables false
set_option linter.unusedSimpArgs false
set_option maxRecDepth 100000
set_option maxHeartbeats 40000000
namespace Go.Proofs.Ytnbpneaiibandaa
open Go.ChangeShapes Go.WideShapes Go.ChangeAt Go.RowKit
theorem wpOp_fam_skip {P : Program} {ops : Array Oper} {Q : Exit → Act → World → Prop} {N : Nat} {D : List Deferred} {Inv : (Nat → Bool) → (Nat → Value) → World → Prop} {L : Nat → Bool} {f : Nat → Value} {w w' : World} {i : Nat} {o : Oper} (ho : ops[i]? = some o) (hg : o.guard = none) (hr : (execOp (actF N D f).eval o).run P w = .ok .skip w') (h : Inv (upL L i) (putF f o.dst undef) w') :
  wpOp P ops Q i (fun a' w' => ∃ f', a' = actF N D f' ∧ Inv (upL L i) f' w') (actF N D f) w := by
 have hw : Region.wanted o (yielded ops (actF N D f).tmps) = true := by simp [Region.wanted, hg]
 unfold wpOp
 simp only [ho, hw, if_true, Oper.wp, hr, Oper.upon]
 exact .inl ⟨_, actF_put, h⟩
theorem dep_of {o : Oper} {md : Region.Mode} {L : Nat → Bool} (h : ∀ e ∈ o.after, Region.binds md e = true → L e.on = true) (j : Nat) (hj : (o.after.any fun e => e.on == j && Region.binds md e) = true) : L j = true := by
 rw [← Array.any_toList, List.any_eq_true] at hj
 obtain ⟨e, he, h1⟩ := hj
 have he := Array.mem_toList_iff.1 he
 simp only [Bool.and_eq_true, beq_iff_eq] at h1
 rw [← h1.1]
 exact h e he h1.2
def nwVal (p : ProgD) (ca : Option Addr) (ccap : Nat) (ta : Option Addr) (tcap : Nat) (b : Nat) : Nat → Option Value
 | 0 => some (p.val ca ccap ta tcap)
 | 1 => some (.int .i64 (p.threads.length : Int))
 | 3 => some (.int .i64 (p.threads.length : Int))
 | 5 => some (.pointer (some ⟨b, 0, none⟩))
 | 6 => some (.int .i64 p.vars)
 | 8 => some (.pointer (some ⟨b, 1, none⟩))
 | 9 => some (.int .i64 p.atoms)
 | 11 => some (.pointer (some ⟨b, 2, none⟩))
 | 12 => some (.int .i64 p.locks)
 | 14 => some (.pointer (some ⟨b, 3, none⟩))
 | 15 => some (.slice ca p.chans.length ccap)
 | 16 => some (.int .i64 (p.chans.length : Int))
 | 18 => some (.pointer (some ⟨b, 3, none⟩))
 | 19 => some (.slice ca p.chans.length ccap)
 | 20 => some (.int .i64 (p.chans.length : Int))
 | 22 => some (.pointer (some ⟨b, 4, none⟩))
 | 23 => some (.int .i64 p.groups)
 | 25 => some (.pointer (some ⟨b, 5, none⟩))
 | 26 => some (.int .i64 p.onces)
 | _ => none
def nwIx : Nat → Nat
 | 0 => 2
 | 1 => 4
 | 2 => 7
 | 3 => 10
 | 4 => 13
 | 5 => 21
 | 6 => 24
 | 7 => 27
 | _ => 0
def nwSz (p : ProgD) : Nat → Nat
 | 0 => p.threads.length
 | 1 => p.threads.length
 | 2 => p.vars.toNat
 | 3 => p.atoms.toNat
 | 4 => p.locks.toNat
 | 5 => p.chans.length
 | 6 => p.groups.toNat
 | 7 => p.onces.toNat
 | _ => 0
theorem nwIx_inj {k j : Nat} (hk : k < 8) (hj : j < 8) (h : nwIx k = nwIx j) : k = j := by
 have : ∀ k : Fin 8, ∀ j : Fin 8, nwIx k = nwIx j → k = j := by decide
 have := this ⟨k, hk⟩ ⟨j, hj⟩ h
 simpa using this
theorem nwIx_val (p : ProgD) (ca : Option Addr) (ccap : Nat) (ta : Option Addr) (tcap : Nat) (b : Nat) {k : Nat} (hk : k < 8) : nwVal p ca ccap ta tcap b (nwIx k) = none ∧ nwIx k ≠ 17 ∧ nwIx k < 28 := by
 match k, hk with
 | 0, _ | 1, _ | 2, _ | 3, _ | 4, _ | 5, _ | 6, _ | 7, _ => exact ⟨rfl, by decide, by decide⟩
def nwS (p : ProgD) (ca : Option Addr) (ccap : Nat) (ta : Option Addr) (tcap : Nat) (fv : Nat → Value) (qs : Value) : Array Value :=
 #[.int .i64 p.vars, .int .i64 p.atoms, .int .i64 p.locks, .slice ca p.chans.length ccap, .int .i64 p.groups, .int .i64 p.onces, .slice ta p.threads.length tcap, fv 0, fv 1, .slice none 0 0, fv 2, fv 3, fv 4, qs, fv 5, fv 6, fv 7, .slice none 0 0, .int .i64 0]
structure NwI (W : World) (p : ProgD) (ca : Option Addr) (ccap : Nat) (ta : Option Addr) (tcap : Nat) (b : Nat) (f0 : Nat → Value) (L : Nat → Bool) (f : Nat → Value) (w : World) (fv : Nat → Value) (fl : Nat → List Int) (qs : Value) (cq : Nat) : Prop where
 bel : Below W.heap.size W w
 keep : ∀ t, t < 5 → f t = f0 t
 vals : ∀ i v, nwVal p ca ccap ta tcap b i = some v → L i = true → f (i + 14) = v
 ow : Ow w W.heap.size fv (.slice none 0 0) qs fl 0 cq
 row : ∀ k, k < 8 → (L (nwIx k) = true → f (nwIx k + 14) = fv k ∧ fl k = List.replicate (nwSz p k) 0)
 far : ∀ k, 8 ≤ k → fv k = .slice none 0 0 ∧ fl k = []
 q1 : L 17 = true → f 31 = qs ∧ cq = p.chans.length
 q0 : L 17 = false → cq = 0
 bld : L 28 = true → (∀ k, k < 8 → L (nwIx k) = true) ∧ L 17 = true ∧ f 42 = .agg (nwS p ca ccap ta tcap fv qs)
 box : L 29 = true → ∃ g Z, f 5 = .pointer (some ⟨g, 0, none⟩) ∧ W.heap.size ≤ g ∧ w.heap[g]? = some (.cells Z 72) ∧ Z.size = 19 ∧ (∀ k, (fv k).ownBlock ≠ some g) ∧ qs.ownBlock ≠ some g ∧ (L 30 = true → Z = nwS p ca ccap ta tcap fv qs)
 sto : L 30 = true → L 28 = true ∧ L 29 = true
def NwX (W : World) (p : ProgD) (ca : Option Addr) (ccap : Nat) (ta : Option Addr) (tcap : Nat) (b : Nat) (f0 : Nat → Value) (L : Nat → Bool) (f : Nat → Value) (w : World) : Prop := ∃ fv fl qs cq, NwI W p ca ccap ta tcap b f0 L f w fv fl qs cq
section
variable {W : World} {p : ProgD} {ca : Option Addr} {ccap : Nat} {ta : Option Addr} {tcap : Nat} {b : Nat} {f0 : Nat → Value} {L : Nat → Bool} {f : Nat → Value} {w : World} {fv : Nat → Value} {fl : Nat → List Int} {qs : Value} {cq : Nat}
theorem NwI.read (h : NwI W p ca ccap ta tcap b f0 L f w fv fl qs cq) {i : Nat} {v : Value} (hv : nwVal p ca ccap ta tcap b i = some v) (hi : i < 28) (h17 : i ≠ 17) : NwX W p ca ccap ta tcap b f0 (upL L i) (putF f (some (i + 14)) v) w := by
 have hne : ∀ k, k < 8 → nwIx k ≠ i := fun k hk e => by
  have := (nwIx_val p ca ccap ta tcap b hk).1
  rw [e, hv] at this; cases this
 refine ⟨fv, fl, qs, cq, ⟨h.bel, fun t h1 => ?_, fun j u hj hL => ?_, h.ow, fun k hk hL => ?_, h.far, fun hL => ?_, fun hL => ?_, fun hL => ?_, fun hL => ?_, fun hL => ?_⟩⟩
 ·rw [putF_ne (by simp <;> omega)]; exact h.keep t h1
 ·by_cases e : j = i
  ·subst e
   rw [hv] at hj; cases hj
   exact putF_same
  ·rw [putF_ne (by simp <;> omega)]
   rw [upL_ne _ e] at hL
   exact h.vals j u hj hL
 ·rw [upL_ne _ (hne k hk)] at hL
  rw [putF_ne (by have := hne k hk; simp <;> omega)]
  exact h.row k hk hL
 ·rw [upL_ne _ (Ne.symm h17)] at hL
  rw [putF_ne (by simp <;> omega)]
  exact h.q1 hL
 ·rw [upL_ne _ (Ne.symm h17)] at hL
  exact h.q0 hL
 ·rw [upL_ne _ (by omega)] at hL
  rw [putF_ne (by simp <;> omega), upL_ne _ (Ne.symm h17)]
  obtain ⟨h1, h2, h3⟩ := h.bld hL
  exact ⟨fun k hk => by rw [upL_ne _ (hne k hk)]; exact h1 k hk, h2, h3⟩
 ·rw [upL_ne _ (by omega)] at hL
  rw [putF_ne (by simp <;> omega)]
  obtain ⟨g, Z, h1, h2, h3, h4, h5, h6, h7⟩ := h.box hL
  exact ⟨g, Z, h1, h2, h3, h4, h5, h6, fun hL => by rw [upL_ne _ (by omega)] at hL; exact h7 hL⟩
 ·rw [upL_ne _ (by omega)] at hL
  rw [upL_ne _ (by omega), upL_ne _ (by omega)]
  exact h.sto hL
theorem NwI.made (h : NwI W p ca ccap ta tcap b f0 L f w fv fl qs cq) {k : Nat} (hk : k < 8) (hL0 : L (nwIx k) = false) {w' : World} {v : Value} (hg : w.grownBy w' none) (ho : w'.ownsRow w.heap.size 3 1 v (nwSz p k) ((List.replicate (nwSz p k) (0 : Int)).map (.int .i64 ·))) : NwX W p ca ccap ta tcap b f0 (upL L (nwIx k)) (putF f (some (nwIx k + 14)) v) w' := by
 obtain ⟨hv, h17, h28⟩ := nwIx_val p ca ccap ta tcap b hk
 have hB : Below w.heap.size w w' := (Below.refl _ _).grown hg (Nat.le_refl _) (fun g e => by cases e)
 have hvb : ∀ g, v.ownBlock = some g → w.heap.size ≤ g := fun g e => (own_lt ho g e).2
 refine ⟨updF fv k v, updF fl k (List.replicate (nwSz p k) 0), qs, cq, ⟨below_next h.bel hB, fun t h1 => ?_, fun j u hj hL => ?_, ?_, fun j hj hL => ?_, fun j hj => ?_, fun hL => ?_, fun hL => ?_, fun hL => ?_, fun hL => ?_, fun hL => ?_⟩⟩
 ·rw [putF_ne (by simp <;> omega)]; exact h.keep t h1
 ·have e : j ≠ nwIx k := fun e => by rw [e, hv] at hj; cases hj
  rw [putF_ne (by simp <;> omega)]
  rw [upL_ne _ e] at hL
  exact h.vals j u hj hL
 ·exact h.ow.add hB k (fun j hj => by omega) (fun j _ => by omega) (by rw [List.length_replicate]; exact ho)
 ·by_cases e : j = k
  ·subst e
   rw [updF_same, updF_same, putF_same]; exact ⟨rfl, rfl⟩
  ·have e2 : nwIx j ≠ nwIx k := fun q => e (nwIx_inj hj hk q)
   rw [upL_ne _ e2] at hL
   rw [updF_ne _ _ e, updF_ne _ _ e, putF_ne (by simp <;> omega)]
   exact h.row j hj hL
 ·rw [updF_ne _ _ (by omega), updF_ne _ _ (by omega)]; exact h.far j hj
 ·rw [upL_ne _ (Ne.symm h17)] at hL
  rw [putF_ne (by simp <;> omega)]
  exact h.q1 hL
 ·rw [upL_ne _ (Ne.symm h17)] at hL
  exact h.q0 hL
 ·rw [upL_ne _ (by omega)] at hL
  exact absurd ((h.bld hL).1 k hk) (by rw [hL0]; simp)
 ·rw [upL_ne _ (by omega)] at hL
  rw [putF_ne (by simp <;> omega)]
  obtain ⟨g, Z, h1, h2, h3, h4, h5, h6, h7⟩ := h.box hL
  have hgl := (Array.getElem?_eq_some_iff.1 h3).1
  refine ⟨g, Z, h1, h2, (hB.block g hgl).trans h3, h4, fun j => ?_, h6, fun hL => ?_⟩
  ·by_cases e : j = k
   ·subst e; rw [updF_same]; intro e; have := hvb g e; omega
   ·rw [updF_ne _ _ e]; exact h5 j
  ·rw [upL_ne _ (by omega)] at hL
   exact absurd ((h.bld (h.sto hL).1).1 k hk) (by rw [hL0]; simp)
 ·rw [upL_ne _ (by omega)] at hL
  exact absurd ((h.bld (h.sto hL).1).1 k hk) (by rw [hL0]; simp)
theorem NwI.queues (h : NwI W p ca ccap ta tcap b f0 L f w fv fl qs cq) (hL0 : L 17 = false) {w' : World} {v : Value} (hg : w.grownBy w' none) (ho : w'.ownsRow w.heap.size 24 1 v p.chans.length (List.replicate p.chans.length (.slice none 0 0))) : NwX W p ca ccap ta tcap b f0 (upL L 17) (putF f (some 31) v) w' := by
 have hB : Below w.heap.size w w' := (Below.refl _ _).grown hg (Nat.le_refl _) (fun g e => by cases e)
 have hvb : ∀ g, v.ownBlock = some g → w.heap.size ≤ g := fun g e => (own_lt ho g e).2
 have hne : ∀ k, k < 8 → nwIx k ≠ 17 := fun k hk => (nwIx_val p ca ccap ta tcap b hk).2.1
 have hfv : ∀ k, 15 ≤ k → fv k = .slice none 0 0 := fun k hk => (h.far k (by omega)).1
 have hq : (List.range p.chans.length).map (fun k => fv (15 + k)) = List.replicate p.chans.length (.slice none 0 0) := by
  rw [List.map_congr_left (g := fun _ => Value.slice none 0 0) (fun k _ => hfv (15 + k) (by omega))]
  exact List.eq_replicate_iff.2 ⟨by simp, fun x hx => by obtain ⟨_, _, rfl⟩ := List.mem_map.1 hx; rfl⟩
 refine ⟨fv, fl, v, p.chans.length, ⟨below_next h.bel hB, fun t h1 => ?_, fun j u hj hL => ?_, ?_, fun j hj hL => ?_, h.far, fun hL => ⟨putF_same, rfl⟩, fun hL => ?_, fun hL => ?_, fun hL => ?_, fun hL => ?_⟩⟩
 ·rw [putF_ne (by simp <;> omega)]; exact h.keep t h1
 ·have e : j ≠ 17 := fun e => by rw [e] at hj; cases hj
  rw [putF_ne (by simp <;> omega)]
  rw [upL_ne _ e] at hL
  exact h.vals j u hj hL
 ·have hO := h.ow.later hB
  exact ⟨hO.fam, hO.regs, by rw [hq]; exact own_base ho h.ow.fam.top, hO.apR, fun i => fresh_apart (h.ow.fam.row i) ho (Nat.le_refl _), .inl rfl⟩
 ·rw [upL_ne _ (hne j hj)] at hL
  rw [putF_ne (by have := hne j hj; simp <;> omega)]
  exact h.row j hj hL
 ·rw [upL_same] at hL; cases hL
 ·rw [upL_ne _ (by omega)] at hL
  exact absurd (h.bld hL).2.1 (by rw [hL0]; simp)
 ·rw [upL_ne _ (by omega)] at hL
  rw [putF_ne (by simp)]
  obtain ⟨g, Z, h1, h2, h3, h4, h5, h6, h7⟩ := h.box hL
  have hgl := (Array.getElem?_eq_some_iff.1 h3).1
  refine ⟨g, Z, h1, h2, (hB.block g hgl).trans h3, h4, h5, fun e => by have := hvb g e; omega, fun hL => ?_⟩
  rw [upL_ne _ (by omega)] at hL
  exact absurd (h.bld (h.sto hL).1).2.1 (by rw [hL0]; simp)
 ·rw [upL_ne _ (by omega)] at hL
  exact absurd (h.bld (h.sto hL).1).2.1 (by rw [hL0]; simp)
theorem NwI.build (h : NwI W p ca ccap ta tcap b f0 L f w fv fl qs cq) (hA : ∀ k, k < 8 → L (nwIx k) = true) (h17 : L 17 = true) (hL0 : L 28 = false) {v : Value} (hv : v = .agg (nwS p ca ccap ta tcap (fun k => f (nwIx k + 14)) (f 31))) : NwX W p ca ccap ta tcap b f0 (upL L 28) (putF f (some 42) v) w := by
 have hne : ∀ k, k < 8 → nwIx k < 28 := fun k hk => (nwIx_val p ca ccap ta tcap b hk).2.2
 have hvv : ∀ j u, nwVal p ca ccap ta tcap b j = some u → j < 28 := fun j u hj => by
  rcases Nat.lt_or_ge j 28 with q | q
  ·exact q
  ·obtain ⟨d, rfl⟩ := Nat.exists_eq_add_of_le q
   rw [Nat.add_comm] at hj
   cases hj
 refine ⟨fv, fl, qs, cq, ⟨h.bel, fun t h1 => ?_, fun j u hj hL => ?_, h.ow, fun k hk hL => ?_, h.far, fun hL => ?_, fun hL => ?_, fun hL => ⟨fun k hk => ?_, ?_, ?_⟩, fun hL => ?_, fun hL => ?_⟩⟩
 ·rw [putF_ne (by simp <;> omega)]; exact h.keep t h1
 ·have := hvv j u hj
  rw [putF_ne (by simp <;> omega)]
  rw [upL_ne _ (by omega)] at hL
  exact h.vals j u hj hL
 ·have := hne k hk
  rw [upL_ne _ (by omega)] at hL
  rw [putF_ne (by simp <;> omega)]
  exact h.row k hk hL
 ·rw [putF_ne (by simp)]; exact h.q1 h17
 ·rw [upL_ne _ (by omega)] at hL; exact h.q0 hL
 ·have := hne k hk
  rw [upL_ne _ (by omega)]; exact hA k hk
 ·rw [upL_ne _ (by omega)]; exact h17
 ·rw [putF_same, hv]
  unfold nwS
  simp only
  rw [(h.row 0 (by omega) (hA 0 (by omega))).1, (h.row 1 (by omega) (hA 1 (by omega))).1, (h.row 2 (by omega) (hA 2 (by omega))).1, (h.row 3 (by omega) (hA 3 (by omega))).1, (h.row 4 (by omega) (hA 4 (by omega))).1, (h.row 5 (by omega) (hA 5 (by omega))).1, (h.row 6 (by omega) (hA 6 (by omega))).1, (h.row 7 (by omega) (hA 7 (by omega))).1, (h.q1 h17).1]
 ·rw [upL_ne _ (by omega)] at hL
  rw [putF_ne (by simp)]
  obtain ⟨g, Z, h1, h2, h3, h4, h5, h6, h7⟩ := h.box hL
  exact ⟨g, Z, h1, h2, h3, h4, h5, h6, fun hL => by rw [upL_ne _ (by omega)] at hL; exact h7 hL⟩
 ·rw [upL_ne _ (by omega)] at hL
  exact absurd (h.sto hL).1 (by rw [hL0]; simp)
theorem nwVal_lt {p : ProgD} {ca : Option Addr} {ccap : Nat} {ta : Option Addr} {tcap b j : Nat} {u : Value} (hj : nwVal p ca ccap ta tcap b j = some u) : j < 28 := by
 rcases Nat.lt_or_ge j 28 with q | q
 ·exact q
 ·obtain ⟨d, rfl⟩ := Nat.exists_eq_add_of_le q
  rw [Nat.add_comm] at hj
  cases hj
theorem NwI.boxed (h : NwI W p ca ccap ta tcap b f0 L f w fv fl qs cq) (hL0 : L 29 = false) {Z : Array Value} (hZ : Z.size = 19) : NwX W p ca ccap ta tcap b f0 (upL L 29) (putF f (some 5) (.pointer (some ⟨w.heap.size, 0, none⟩))) (w.alloc (.cells Z 72)) := by
 have hB := below_box w (.cells Z 72)
 have hne : ∀ k, k < 8 → nwIx k < 28 := fun k hk => (nwIx_val p ca ccap ta tcap b hk).2.2
 have n30 : L 30 = true → False := fun hL => absurd (h.sto hL).2 (by rw [hL0]; simp)
 refine ⟨fv, fl, qs, cq, ⟨below_next h.bel hB, fun t h1 => ?_, fun j u hj hL => ?_, h.ow.later hB, fun k hk hL => ?_, h.far, fun hL => ?_, fun hL => ?_, fun hL => ?_, fun hL => ?_, fun hL => ?_⟩⟩
 ·rw [putF_ne (by simp <;> omega)]; exact h.keep t h1
 ·have := nwVal_lt hj
  rw [putF_ne (by simp <;> omega)]
  rw [upL_ne _ (by omega)] at hL
  exact h.vals j u hj hL
 ·have := hne k hk
  rw [upL_ne _ (by omega)] at hL
  rw [putF_ne (by simp <;> omega)]
  exact h.row k hk hL
 ·rw [upL_ne _ (by omega)] at hL
  rw [putF_ne (by simp)]; exact h.q1 hL
 ·rw [upL_ne _ (by omega)] at hL; exact h.q0 hL
 ·rw [upL_ne _ (by omega)] at hL
  rw [putF_ne (by simp), upL_ne _ (by omega)]
  obtain ⟨h1, h2, h3⟩ := h.bld hL
  exact ⟨fun k hk => by rw [upL_ne _ (by have := hne k hk; omega)]; exact h1 k hk, h2, h3⟩
 ·refine ⟨w.heap.size, Z, putF_same, h.bel.size, heap_alloc_new _ _, hZ, fun k e => ?_, fun e => ?_, fun hL => ?_⟩
  ·have := (own_lt (h.ow.fam.row k) _ e).1; omega
  ·have := (own_lt h.ow.queue _ e).1; omega
  ·rw [upL_ne _ (by omega)] at hL; exact (n30 hL).elim
 ·rw [upL_ne _ (by omega)] at hL; exact (n30 hL).elim
theorem NwI.stored (h : NwI W p ca ccap ta tcap b f0 L f w fv fl qs cq) (h28 : L 28 = true) (h29 : L 29 = true) (hL0 : L 30 = false) {g : Nat} (hg : f 5 = .pointer (some ⟨g, 0, none⟩)) : NwX W p ca ccap ta tcap b f0 (upL L 30) (putF f none undef) (w.setRow g (nwS p ca ccap ta tcap fv qs)) := by
 have hne : ∀ k, k < 8 → nwIx k < 28 := fun k hk => (nwIx_val p ca ccap ta tcap b hk).2.2
 have hput : putF f none undef = f := by funext t; simp [putF]
 obtain ⟨g', Z, h1, h2, h3, h4, h5, h6, h7⟩ := h.box h29
 rw [hg] at h1; cases h1
 have hT : Touch (fun x => x = g) w (w.setRow g (nwS p ca ccap ta tcap fv qs)) := ⟨rfl, rfl, rfl, by simp, fun k hk hx => setRow_other _ _ _ _ hx⟩
 have hB : Below W.heap.size W (w.setRow g (nwS p ca ccap ta tcap fv qs)) := h.bel.trans (hT.below (fun k hk => by omega) h.bel.size)
 rw [hput]
 refine ⟨fv, fl, qs, cq, ⟨hB, h.keep, fun j u hj hL => ?_, h.ow.touch hT (fun x _ _ hx e => ?_), fun k hk hL => ?_, h.far, fun hL => ?_, fun hL => ?_, fun hL => ?_, fun hL => ?_, fun hL => ?_⟩⟩
 ·have := nwVal_lt hj
  rw [upL_ne _ (by omega)] at hL
  exact h.vals j u hj hL
 ·subst e
  rcases hx with ⟨i, hx⟩ | hx | hx
  ·exact h5 i hx
  ·cases hx
  ·exact h6 hx
 ·have := hne k hk
  rw [upL_ne _ (by omega)] at hL
  exact h.row k hk hL
 ·rw [upL_ne _ (by omega)] at hL; exact h.q1 hL
 ·rw [upL_ne _ (by omega)] at hL; exact h.q0 hL
 ·rw [upL_ne _ (by omega)]
  obtain ⟨h1, h2, h3⟩ := h.bld h28
  exact ⟨fun k hk => by rw [upL_ne _ (by have := hne k hk; omega)]; exact h1 k hk, h2, h3⟩
 ·exact ⟨g, _, hg, h2, setRow_heap _ _ _ _ _ _ h3, rfl, h5, h6, fun _ => rfl⟩
 ·rw [upL_ne _ (by omega), upL_ne _ (by omega)]; exact ⟨h28, h29⟩
end
structure NwL (W u : World) (g : Nat) (p : ProgD) (ca : Option Addr) (ccap : Nat) (ta : Option Addr) (tcap : Nat) (fv : Nat → Value) (rs qs : Value) (fl : Nat → List Int) (k : Nat) : Prop where
 box : u.heap[g]? = some (.cells ((nwS p ca ccap ta tcap fv qs).setIfInBounds 9 rs) 72)
 ow : Ow u W.heap.size fv rs qs fl k p.chans.length
 bel : Below W.heap.size W u
 hg : W.heap.size ≤ g
 ap : ∀ x, Held fv rs qs x → x ≠ g
 row : ∀ k, k < 8 → fl k = List.replicate (nwSz p k) 0
 r8 : fv 8 = .slice none 0 0 ∧ fl 8 = []
 regs : ∀ j, j < k → fl (9 + j) = [0, 0, 0, 0]
 far : ∀ i, 9 + k ≤ i → fl i = []
theorem NwL.push {W u : World} {g : Nat} {p : ProgD} {ca : Option Addr} {ccap : Nat} {ta : Option Addr} {tcap : Nat} {fv : Nat → Value} {rs qs : Value} {fl : Nat → List Int} {k : Nat} (h : NwL W u g p ca ccap ta tcap fv rs qs fl k) (hk : k < 6) {x x' : World} (hB : Below u.heap.size u x) {v : Value} (ho : x.ownsRow u.heap.size 3 1 v 4 (([0, 0, 0, 0] : List Int).map (.int .i64 ·))) {rs' : Value}
  (hrow : x'.ownsRow W.heap.size 24 1 rs' (k + 1) (((List.range k).map fun j => fv (9 + j)) ++ [v])) (hgr : x.grownBy x' rs.ownBlock) (hat : rs'.ownBlock = rs.ownBlock ∨ rs'.ownBlock = some x.heap.size) :
  NwL W (x'.setCell ⟨g, 9, none⟩ rs') g p ca ccap ta tcap (updF fv (9 + k) v) rs' qs (updF fl (9 + k) [0, 0, 0, 0]) (k + 1) := by
 have hgl := (Array.getElem?_eq_some_iff.1 h.box).1
 have hs := hB.size
 have hrb : ∀ y, rs.ownBlock = some y → y < u.heap.size := fun y e => (own_lt h.ow.regs y e).1
 have hrg : rs.ownBlock ≠ some g := fun e => h.ap g (.inr (.inl e)) rfl
 have hb1 : x'.heap[g]? = u.heap[g]? := (hgr.block g (by omega) (fun e => hrg e.symm)).trans (hB.block g hgl)
 have hB1 : Below W.heap.size W x' := (below_next h.bel hB).grown hgr (Nat.le_trans h.bel.size hs) (fun y e => (own_lt h.ow.regs y e).2)
 have hO := h.ow.pushR hk hB ho hrow hgr hat
 have hf : ∀ i, i ≠ 9 + k → updF fv (9 + k) v i = fv i := fun i hi => updF_ne _ _ hi
 have hS : nwS p ca ccap ta tcap (updF fv (9 + k) v) qs = nwS p ca ccap ta tcap fv qs := by
  unfold nwS
  rw [hf 0 (by omega), hf 1 (by omega), hf 2 (by omega), hf 3 (by omega), hf 4 (by omega), hf 5 (by omega), hf 6 (by omega), hf 7 (by omega)]
 have hap : ∀ y, Held (updF fv (9 + k) v) rs' qs y → y ≠ g := by
  rintro y (⟨i, e⟩ | e | e)
  ·by_cases q : i = 9 + k
   ·subst q; rw [updF_same] at e
    have := (own_lt ho y e).2; omega
   ·rw [hf i q] at e; exact h.ap y (.inl ⟨i, e⟩)
  ·rcases hat with q | q
   ·rw [q] at e; exact h.ap y (.inr (.inl e))
   ·rw [q] at e; cases e; omega
  ·exact h.ap y (.inr (.inr e))
 refine ⟨?_, hO.touch (X := fun y => y = g) ((Touch.of_below (Below.refl _ _)).set rfl) (fun y _ _ hy e => hap y hy e), stBelow_set hB1 h.hg, h.hg, hap, fun i hi => ?_, ⟨?_, ?_⟩, fun j hj => ?_, fun i hi => ?_⟩
 ·rw [stSet_block _ _ _ _ (hb1.trans h.box), hS]
  congr 2
 ·rw [updF_ne _ _ (by omega)]; exact h.row i hi
 ·rw [updF_ne _ _ (by omega)]; exact h.r8.1
 ·rw [updF_ne _ _ (by omega)]; exact h.r8.2
 ·by_cases q : j = k
  ·subst q; rw [updF_same]
  ·rw [updF_ne _ _ (by omega)]; exact h.regs j (by omega)
 ·rw [updF_ne _ _ (by omega)]; exact h.far i (by omega)
theorem new_flM {p : ProgD} (h6 : p.threads.length ≤ 6) (h1 : 1 ≤ p.threads.length) (hv : p.vars ≤ 8) (ha : p.atoms ≤ 4) (hl : p.locks ≤ 4) (hc : p.chans.length ≤ 4) (hgr : p.groups ≤ 4) (hon : p.onces ≤ 4) {fl : Nat → List Int} (row : ∀ k, k < 8 → fl k = List.replicate (nwSz p k) 0) (r8 : fl 8 = []) (regs : ∀ j, j < p.threads.length → fl (9 + j) = [0, 0, 0, 0]) (far : ∀ i, 9 + p.threads.length ≤ i → fl i = []) :
  updF fl 1 ((fl 1).set 0 1) = flM p (newM p.chans) [] := by
 have zero : ∀ (n : Nat) (f : Nat → Int), (∀ j, j < n → f j = 0) → List.replicate n (0 : Int) = (List.range n).map f := fun n f hf => by
  symm
  refine List.eq_replicate_iff.2 ⟨by simp, fun x hx => ?_⟩
  obtain ⟨j, hj, rfl⟩ := List.mem_map.1 hx
  exact hf j (List.mem_range.1 hj)
 funext i
 by_cases e1 : i = 1
 ·subst e1
  rw [updF_same, row 1 (by omega)]
  show (List.replicate p.threads.length (0 : Int)).set 0 1 = (List.range p.threads.length).map (fun k => bitN (newM p.chans (1 + k * 6) == 1))
  refine List.ext_getElem? fun k => ?_
  by_cases hk : k < p.threads.length
  ·rw [map_at _ hk, List.getElem?_set]
   by_cases e0 : 0 = k
   ·subst e0
    rw [if_pos rfl, if_pos (by simpa using hk)]
    rfl
   ·rw [if_neg e0, List.getElem?_replicate, if_pos hk, newM_zero _ (by omega) (by omega)]; rfl
  ·rw [List.getElem?_eq_none (by simp; omega), List.getElem?_eq_none (by simp; omega)]
 rw [updF_ne _ _ e1]
 by_cases h8 : i < 8
 ·rw [row i h8]
  match i, h8, e1 with
  | 0, _, _ => exact zero _ _ fun j (hj : j < p.threads.length) => newM_zero _ (by omega) (by omega)
  | 2, _, _ => exact zero _ _ fun j (hj : j < p.vars.toNat) => newM_zero _ (by omega) (by omega)
  | 3, _, _ => exact zero _ _ fun j (hj : j < p.atoms.toNat) => newM_zero _ (by omega) (by omega)
  | 4, _, _ => exact zero _ _ fun j (hj : j < p.locks.toNat) => by show (if newM p.chans (49 + j * 2) == 1 then (-1 : Int) else newM p.chans (49 + j * 2 + 1)) = 0; rw [newM_zero _ (by omega) (by omega), newM_zero _ (by omega) (by omega)]; rfl
  | 5, _, _ => exact zero _ _ fun j (hj : j < p.chans.length) => by show bitN (newM p.chans (57 + j * 6 + 5) == 1) = 0; rw [newM_zero _ (by omega) (by omega)]; rfl
  | 6, _, _ => exact zero _ _ fun j (hj : j < p.groups.toNat) => newM_zero _ (by omega) (by omega)
  | 7, _, _ => exact zero _ _ fun j (hj : j < p.onces.toNat) => newM_zero _ (by omega) (by omega)
  | 1, _, h => exact absurd rfl h
 ·by_cases e8 : i = 8
  ·subst e8; rw [r8]; rfl
  ·have hz : ∀ c, newM p.chans (57 + c * 6 + 3) = 0 := fun c => newM_zero _ (by omega) (by omega)
   unfold flM
   rw [if_neg (by omega), if_neg (by omega), if_neg (by omega), if_neg (by omega), if_neg (by omega), if_neg (by omega), if_neg (by omega), if_neg (by omega), if_neg (by omega)]
   by_cases h15 : i < 15
   ·rw [if_pos h15]
    by_cases h9 : i < 9 + p.threads.length
    ·rw [if_pos h9]
     obtain ⟨j, rfl⟩ : ∃ j, i = 9 + j := ⟨i - 9, by omega⟩
     rw [regs j (by omega)]
     exact zero 4 _ fun r hr => newM_zero _ (by unfold rg; omega) (by unfold rg; omega)
    ·rw [if_neg h9]; exact far i (by omega)
   ·rw [if_neg h15, far i (by omega)]
    split
    ·rw [hz]; rfl
    ·rfl
theorem own_one1 {w : World} {base e s n : Nat} {v : Value} {xs : List Value} (h : w.ownsRow base e s v n xs) : v.oneCell' = true := by
 rcases h.2 with ⟨rfl, _⟩ | ⟨g, cap, cur, rfl, _⟩ <;> rfl
theorem made_int4 (n : Nat) : (madeCells (Value.int .i64 0).cells (n * 1)).toList = List.replicate n (Value.int .i64 0) := by rw [Nat.mul_one]; exact toList_madeCells_one _ _
def New4 (p : ProgD) (ca : Option Addr) (ccap : Nat) (ta : Option Addr) (tcap : Nat) (w : World) (e : Ending) (w' : World) : Prop := ∃ S fv rs qs, e = .returned (.tuple #[.agg S, .bool true]) ∧ SV S p ca ccap ta tcap fv rs qs 0 ∧ (∀ u', Touch (fun g => g < w.heap.size) w' u' → Rf u' fv rs qs (flM p (newM p.chans) []) p.threads.length p.chans.length) ∧ Below w.heap.size w w'
theorem new4_yes (p : ProgD) (ca : Option Addr) (ccap : Nat) (ta : Option Addr) (tcap : Nat) (w : World) (hP : ProgIn w w.heap.size p ca ta) (hs : soundE p = 0)
  (hSound : ∀ u, Below w.heap.size w u → Calls Try.prog 55 #[p.val ca ccap ta tcap] u fun e w' => e = .returned (.int .i64 0) ∧ Below u.heap.size u w') :
  Calls Try.prog 35 #[p.val ca ccap ta tcap] w (New4 p ca ccap ta tcap w) := by
 have hz := sizes_parts (sound_parts hs).1
 have HSo := Lib.hid hSound
 clear hSound
 go_enter Try.func35, Try.ntmps35
 go_upto_region 1 with (fail)
 generalize hW : World.alloc (World.alloc w _) _ = W
 have HB : Hid (Below w.heap.size w W) := Lib.hid (by rw [← hW]; exact below_two _ _ _)
 have n1 := (congrArg (fun x : World => x.heap[w.heap.size]?) hW).symm.trans ((Below.heap_alloc _ _ _ (by simp)).trans (heap_alloc_new _ _))
 have n2 := (congrArg (fun x : World => x.heap[w.heap.size + 1]?) hW).symm.trans (heap_alloc2_new _ _ _)
 have HN1 := Lib.hid n1
 have HN2 := Lib.hid n2
 clear hW
 have b0 : W.cell? ⟨w.heap.size, 0, none⟩ = some (.int .i64 p.vars) := cell_of_row _ _ _ _ _ _ n1
 have b1 : W.cell? ⟨w.heap.size, 1, none⟩ = some (.int .i64 p.atoms) := cell_of_row _ _ _ _ _ _ n1
 have b2 : W.cell? ⟨w.heap.size, 2, none⟩ = some (.int .i64 p.locks) := cell_of_row _ _ _ _ _ _ n1
 have b3 : W.cell? ⟨w.heap.size, 3, none⟩ = some (.slice ca p.chans.length ccap) := cell_of_row _ _ _ _ _ _ n1
 have b4 : W.cell? ⟨w.heap.size, 4, none⟩ = some (.int .i64 p.groups) := cell_of_row _ _ _ _ _ _ n1
 have b5 : W.cell? ⟨w.heap.size, 5, none⟩ = some (.int .i64 p.onces) := cell_of_row _ _ _ _ _ _ n1
 have b6 : W.cell? ⟨w.heap.size, 6, none⟩ = some (.slice ta p.threads.length tcap) := cell_of_row _ _ _ _ _ _ n1
 clear n1 n2
 go_wp2_with (first
  | (go_at_call 55; refine (HSo.out W HB.out).mono ?_; rintro e w1 ⟨rfl, hB1⟩; have d0 := (hB1.cell (p := ⟨w.heap.size, 0, none⟩) (cell_lt b0)).trans b0; have d1 := (hB1.cell (p := ⟨w.heap.size, 1, none⟩) (cell_lt b1)).trans b1; have d2 := (hB1.cell (p := ⟨w.heap.size, 2, none⟩) (cell_lt b2)).trans b2; have d3 := (hB1.cell (p := ⟨w.heap.size, 3, none⟩) (cell_lt b3)).trans b3; have d4 := (hB1.cell (p := ⟨w.heap.size, 4, none⟩) (cell_lt b4)).trans b4; have d5 := (hB1.cell (p := ⟨w.heap.size, 5, none⟩) (cell_lt b5)).trans b5; have d6 := (hB1.cell (p := ⟨w.heap.size, 6, none⟩) (cell_lt b6)).trans b6; have HM1 := Lib.hid (old_later HN1.out hB1); have HM2 := Lib.hid (old_later HN2.out hB1); have HB1 := Lib.hid (below_next HB.out hB1); clear hB1 b0 b1 b2 b3 b4 b5 b6))
 obtain ⟨i0, hi0, hz0, hz1, hz2⟩ := info_parts info_intT
 have HD := Lib.hid (And.intro d0 (And.intro d1 (And.intro d2 (And.intro d3 (And.intro d4 (And.intro d5 d6))))))
 have hbl := cell_lt d0
 clear d0 d1 d2 d3 d4 d5 d6 HSo HB HN1 HN2
 refine wp_region_fam (by kernel_rfl) 58 rfl [] rfl (by kernel_rfl) (NwX w1.drew p ca ccap ta tcap w.heap.size (fun t => (#[p.val ca ccap ta tcap, .pointer (some ⟨w.heap.size, 0, none⟩), .pointer (some ⟨w.heap.size + 1, 0, none⟩), .bool false, .int .i64 (p.threads.length : Int)] : Array Value).getD t undef)) ?h0 ?hstep ?hdone
 case h0 =>
  refine ⟨fun _ => .slice none 0 0, fun _ => [], .slice none 0 0, 0, ⟨Below.refl _ _, fun t ht => ?_, fun i v hv hL => ?_, ⟨⟨fun i => World.ownsRow_nil _ _ _ _, fun i j _ => .inl rfl, Nat.le_refl _⟩, World.ownsRow_nil _ _ _ _, World.ownsRow_nil _ _ _ _, fun i => .inl rfl, fun i => .inl rfl, .inl rfl⟩, fun k hk hL => ?_, fun k hk => ⟨rfl, rfl⟩, fun hL => ?_, fun _ => rfl, fun hL => ?_, fun hL => ?_, fun hL => ?_⟩⟩
  ·match t, ht with
   | 0, _ | 1, _ | 2, _ | 3, _ | 4, _ => rfl
  ·have := nwVal_lt hv
   exact absurd (of_decide_eq_true hL) (by show ¬ 31 ≤ i; omega)
  ·have := (nwIx_val p ca ccap ta tcap w.heap.size hk).2.2
   exact absurd (of_decide_eq_true hL) (by show ¬ 31 ≤ nwIx k; omega)
  ·exact absurd (of_decide_eq_true hL) (by show ¬ 31 ≤ 17; omega)
  ·exact absurd (of_decide_eq_true hL) (by show ¬ 31 ≤ 28; omega)
  ·exact absurd (of_decide_eq_true hL) (by show ¬ 31 ≤ 29; omega)
  ·exact absurd (of_decide_eq_true hL) (by show ¬ 31 ≤ 30; omega)
 case hstep =>
  intro L f u i o ho hL hd hI
  obtain ⟨fv, fl, qs, cq, hI⟩ := hI
  have hi : i < 31 := (Array.getElem?_eq_some_iff.1 ho).1
  have k1 : f 1 = .pointer (some ⟨w.heap.size, 0, none⟩) := hI.keep 1 (by omega)
  have k4 : f 4 = .int .i64 (p.threads.length : Int) := hI.keep 4 (by omega)
  have hc : ∀ j v, w1.cell? ⟨w.heap.size, j, none⟩ = some v → u.cell? ⟨w.heap.size, j, none⟩ = some v := fun j v h => (hI.bel.cell (p := ⟨w.heap.size, j, none⟩) hbl).trans h
  obtain ⟨d0, d1, d2, d3, d4, d5, d6⟩ := HD.out
  have d0 := hc _ _ d0
  have d1 := hc _ _ d1
  have d2 := hc _ _ d2
  have d3 := hc _ _ d3
  have d4 := hc _ _ d4
  have d5 := hc _ _ d5
  have d6 := hc _ _ d6
  clear hc HD HM1 HM2 HB1
  have hone : ∀ (fv : Nat → Value) (qs : Value), (∀ k, (fv k).oneCell' = true) → qs.oneCell' = true → (nwS p ca ccap ta tcap fv qs).all (·.oneCell') = true := fun fv qs h1 h2 => by
   rw [Array.all_eq_true_iff_forall_mem]
   intro x hx
   simp only [nwS, List.mem_toArray, List.mem_cons, List.not_mem_nil, or_false] at hx
   rcases hx with rfl | rfl | rfl | rfl | rfl | rfl | rfl | rfl | rfl | rfl | rfl | rfl | rfl | rfl | rfl | rfl | rfl | rfl | rfl
   all_goals first | exact h1 _ | exact h2 | rfl
  have hsz := hI.bel.size
  match i, hi, ho, hL, hd with
  | 0, _, ho, hL, hd =>
   have he : _ = o := Option.some.inj ho
   have hop : o.op = Op.load 28 (.tmp 1) := by rw [← he]; rfl
   have hg : o.guard = none := by rw [← he]; rfl
   have hds : o.dst = some 14 := by rw [← he]; rfl
   refine wpOp_fam (v := p.val ca ccap ta tcap) (w' := u) ho hg ?_ (by rw [hds]; exact hI.read (i := 0) rfl (by omega) (by omega))
   have e0 := (actF_get (N := 58) (D := []) (f := f) (show 1 < 58 by omega)).trans k1
   clear ho hd he hI
   unfold execOp
   rw [hop]
   go_simp
  | 1, _, ho, hL, hd =>
   have he : _ = o := Option.some.inj ho
   have hop : o.op = Op.move (.tmp 4) := by rw [← he]; rfl
   have hg : o.guard = none := by rw [← he]; rfl
   have hds : o.dst = some 15 := by rw [← he]; rfl
   refine wpOp_fam (v := .int .i64 (p.threads.length : Int)) (w' := u) ho hg ?_ (by rw [hds]; exact hI.read (i := 1) rfl (by omega) (by omega))
   have e0 := (actF_get (N := 58) (D := []) (f := f) (show 4 < 58 by omega)).trans k4
   clear ho hd he hI
   unfold execOp
   rw [hop]
   go_simp
  | 2, _, ho, hL, hd =>
   have he : _ = o := Option.some.inj ho
   have hop : o.op = Op.makeSlice 24 (.tmp 15) (.tmp 15) := by rw [← he]; rfl
   have hg : o.guard = none := by rw [← he]; rfl
   have hds : o.dst = some 16 := by rw [← he]; rfl
   have v1 : f 15 = .int .i64 ((p.threads.length : Nat) : Int) := hI.vals 1 _ rfl (dep_of hd 1 (by rw [← he]; kernel_rfl))
   obtain ⟨w2, hrun, r1, r2⟩ := run_make_full (P := Try.prog) u u.heap.size 24 3 i0 (.int .i64 0) 1 Try.underlying24 hi0 hz0 hz1 .i64 .i64 (p.threads.length) (by rw [hz2]; omega) (by unfold maxLen; omega) (Nat.le_refl _)
   refine wpOp_fam (v := .slice (some ⟨u.heap.size, 0, none⟩) (p.threads.length) (p.threads.length)) (w' := w2) ho hg ?_ (by rw [hds]; refine hI.made (k := 0) (by omega) hL r2 ?_; rw [made_int4] at r1; rw [List.map_replicate]; exact r1)
   have e0 := (actF_get (N := 58) (D := []) (f := f) (show 15 < 58 by omega)).trans v1
   clear ho hd he hI
   unfold execOp
   rw [hop]
   go_simp
  | 3, _, ho, hL, hd =>
   have he : _ = o := Option.some.inj ho
   have hop : o.op = Op.move (.tmp 4) := by rw [← he]; rfl
   have hg : o.guard = none := by rw [← he]; rfl
   have hds : o.dst = some 17 := by rw [← he]; rfl
   refine wpOp_fam (v := .int .i64 (p.threads.length : Int)) (w' := u) ho hg ?_ (by rw [hds]; exact hI.read (i := 3) rfl (by omega) (by omega))
   have e0 := (actF_get (N := 58) (D := []) (f := f) (show 4 < 58 by omega)).trans k4
   clear ho hd he hI
   unfold execOp
   rw [hop]
   go_simp
  | 4, _, ho, hL, hd =>
   have he : _ = o := Option.some.inj ho
   have hop : o.op = Op.makeSlice 24 (.tmp 17) (.tmp 17) := by rw [← he]; rfl
   have hg : o.guard = none := by rw [← he]; rfl
   have hds : o.dst = some 18 := by rw [← he]; rfl
   have v3 : f 17 = .int .i64 ((p.threads.length : Nat) : Int) := hI.vals 3 _ rfl (dep_of hd 3 (by rw [← he]; kernel_rfl))
   obtain ⟨w2, hrun, r1, r2⟩ := run_make_full (P := Try.prog) u u.heap.size 24 3 i0 (.int .i64 0) 1 Try.underlying24 hi0 hz0 hz1 .i64 .i64 (p.threads.length) (by rw [hz2]; omega) (by unfold maxLen; omega) (Nat.le_refl _)
   refine wpOp_fam (v := .slice (some ⟨u.heap.size, 0, none⟩) (p.threads.length) (p.threads.length)) (w' := w2) ho hg ?_ (by rw [hds]; refine hI.made (k := 1) (by omega) hL r2 ?_; rw [made_int4] at r1; rw [List.map_replicate]; exact r1)
   have e0 := (actF_get (N := 58) (D := []) (f := f) (show 17 < 58 by omega)).trans v3
   clear ho hd he hI
   unfold execOp
   rw [hop]
   go_simp
  | 5, _, ho, hL, hd =>
   have he : _ = o := Option.some.inj ho
   have hop : o.op = Op.fieldAddr 28 (.tmp 1) 0 := by rw [← he]; rfl
   have hg : o.guard = none := by rw [← he]; rfl
   have hds : o.dst = some 19 := by rw [← he]; rfl
   refine wpOp_fam (v := .pointer (some ⟨w.heap.size, 0, none⟩)) (w' := u) ho hg ?_ (by rw [hds]; exact hI.read (i := 5) rfl (by omega) (by omega))
   have e0 := (actF_get (N := 58) (D := []) (f := f) (show 1 < 58 by omega)).trans k1
   clear ho hd he hI
   unfold execOp
   rw [hop]
   go_simp
  | 6, _, ho, hL, hd =>
   have he : _ = o := Option.some.inj ho
   have hop : o.op = Op.load 3 (.tmp 19) := by rw [← he]; rfl
   have hg : o.guard = none := by rw [← he]; rfl
   have hds : o.dst = some 20 := by rw [← he]; rfl
   have v5 : f 19 = .pointer (some ⟨w.heap.size, 0, none⟩) := hI.vals 5 _ rfl (dep_of hd 5 (by rw [← he]; kernel_rfl))
   refine wpOp_fam (v := .int .i64 p.vars) (w' := u) ho hg ?_ (by rw [hds]; exact hI.read (i := 6) rfl (by omega) (by omega))
   have e0 := (actF_get (N := 58) (D := []) (f := f) (show 19 < 58 by omega)).trans v5
   clear ho hd he hI
   unfold execOp
   rw [hop]
   go_simp
  | 7, _, ho, hL, hd =>
   have he : _ = o := Option.some.inj ho
   have hop : o.op = Op.makeSlice 24 (.tmp 20) (.tmp 20) := by rw [← he]; rfl
   have hg : o.guard = none := by rw [← he]; rfl
   have hds : o.dst = some 21 := by rw [← he]; rfl
   have v6 : f 20 = .int .i64 ((p.vars.toNat : Nat) : Int) := by rw [hI.vals 6 _ rfl (dep_of hd 6 (by rw [← he]; kernel_rfl))]; congr 1; omega
   obtain ⟨w2, hrun, r1, r2⟩ := run_make_full (P := Try.prog) u u.heap.size 24 3 i0 (.int .i64 0) 1 Try.underlying24 hi0 hz0 hz1 .i64 .i64 (p.vars.toNat) (by rw [hz2]; omega) (by unfold maxLen; omega) (Nat.le_refl _)
   refine wpOp_fam (v := .slice (some ⟨u.heap.size, 0, none⟩) (p.vars.toNat) (p.vars.toNat)) (w' := w2) ho hg ?_ (by rw [hds]; refine hI.made (k := 2) (by omega) hL r2 ?_; rw [made_int4] at r1; rw [List.map_replicate]; exact r1)
   have e0 := (actF_get (N := 58) (D := []) (f := f) (show 20 < 58 by omega)).trans v6
   clear ho hd he hI
   unfold execOp
   rw [hop]
   generalize p.vars.toNat = nn at *
   go_simp
  | 8, _, ho, hL, hd =>
   have he : _ = o := Option.some.inj ho
   have hop : o.op = Op.fieldAddr 28 (.tmp 1) 1 := by rw [← he]; rfl
   have hg : o.guard = none := by rw [← he]; rfl
   have hds : o.dst = some 22 := by rw [← he]; rfl
   refine wpOp_fam (v := .pointer (some ⟨w.heap.size, 1, none⟩)) (w' := u) ho hg ?_ (by rw [hds]; exact hI.read (i := 8) rfl (by omega) (by omega))
   have e0 := (actF_get (N := 58) (D := []) (f := f) (show 1 < 58 by omega)).trans k1
   clear ho hd he hI
   unfold execOp
   rw [hop]
   go_simp
  | 9, _, ho, hL, hd =>
   have he : _ = o := Option.some.inj ho
   have hop : o.op = Op.load 3 (.tmp 22) := by rw [← he]; rfl
   have hg : o.guard = none := by rw [← he]; rfl
   have hds : o.dst = some 23 := by rw [← he]; rfl
   have v8 : f 22 = .pointer (some ⟨w.heap.size, 1, none⟩) := hI.vals 8 _ rfl (dep_of hd 8 (by rw [← he]; kernel_rfl))
   refine wpOp_fam (v := .int .i64 p.atoms) (w' := u) ho hg ?_ (by rw [hds]; exact hI.read (i := 9) rfl (by omega) (by omega))
   have e0 := (actF_get (N := 58) (D := []) (f := f) (show 22 < 58 by omega)).trans v8
   clear ho hd he hI
   unfold execOp
   rw [hop]
   go_simp
  | 10, _, ho, hL, hd =>
   have he : _ = o := Option.some.inj ho
   have hop : o.op = Op.makeSlice 24 (.tmp 23) (.tmp 23) := by rw [← he]; rfl
   have hg : o.guard = none := by rw [← he]; rfl
   have hds : o.dst = some 24 := by rw [← he]; rfl
   have v9 : f 23 = .int .i64 ((p.atoms.toNat : Nat) : Int) := by rw [hI.vals 9 _ rfl (dep_of hd 9 (by rw [← he]; kernel_rfl))]; congr 1; omega
   obtain ⟨w2, hrun, r1, r2⟩ := run_make_full (P := Try.prog) u u.heap.size 24 3 i0 (.int .i64 0) 1 Try.underlying24 hi0 hz0 hz1 .i64 .i64 (p.atoms.toNat) (by rw [hz2]; omega) (by unfold maxLen; omega) (Nat.le_refl _)
   refine wpOp_fam (v := .slice (some ⟨u.heap.size, 0, none⟩) (p.atoms.toNat) (p.atoms.toNat)) (w' := w2) ho hg ?_ (by rw [hds]; refine hI.made (k := 3) (by omega) hL r2 ?_; rw [made_int4] at r1; rw [List.map_replicate]; exact r1)
   have e0 := (actF_get (N := 58) (D := []) (f := f) (show 23 < 58 by omega)).trans v9
   clear ho hd he hI
   unfold execOp
   rw [hop]
   generalize p.atoms.toNat = nn at *
   go_simp
  | 11, _, ho, hL, hd =>
   have he : _ = o := Option.some.inj ho
   have hop : o.op = Op.fieldAddr 28 (.tmp 1) 2 := by rw [← he]; rfl
   have hg : o.guard = none := by rw [← he]; rfl
   have hds : o.dst = some 25 := by rw [← he]; rfl
   refine wpOp_fam (v := .pointer (some ⟨w.heap.size, 2, none⟩)) (w' := u) ho hg ?_ (by rw [hds]; exact hI.read (i := 11) rfl (by omega) (by omega))
   have e0 := (actF_get (N := 58) (D := []) (f := f) (show 1 < 58 by omega)).trans k1
   clear ho hd he hI
   unfold execOp
   rw [hop]
   go_simp
  | 12, _, ho, hL, hd =>
   have he : _ = o := Option.some.inj ho
   have hop : o.op = Op.load 3 (.tmp 25) := by rw [← he]; rfl
   have hg : o.guard = none := by rw [← he]; rfl
   have hds : o.dst = some 26 := by rw [← he]; rfl
   have v11 : f 25 = .pointer (some ⟨w.heap.size, 2, none⟩) := hI.vals 11 _ rfl (dep_of hd 11 (by rw [← he]; kernel_rfl))
   refine wpOp_fam (v := .int .i64 p.locks) (w' := u) ho hg ?_ (by rw [hds]; exact hI.read (i := 12) rfl (by omega) (by omega))
   have e0 := (actF_get (N := 58) (D := []) (f := f) (show 25 < 58 by omega)).trans v11
   clear ho hd he hI
   unfold execOp
   rw [hop]
   go_simp
  | 13, _, ho, hL, hd =>
   have he : _ = o := Option.some.inj ho
   have hop : o.op = Op.makeSlice 24 (.tmp 26) (.tmp 26) := by rw [← he]; rfl
   have hg : o.guard = none := by rw [← he]; rfl
   have hds : o.dst = some 27 := by rw [← he]; rfl
   have v12 : f 26 = .int .i64 ((p.locks.toNat : Nat) : Int) := by rw [hI.vals 12 _ rfl (dep_of hd 12 (by rw [← he]; kernel_rfl))]; congr 1; omega
   obtain ⟨w2, hrun, r1, r2⟩ := run_make_full (P := Try.prog) u u.heap.size 24 3 i0 (.int .i64 0) 1 Try.underlying24 hi0 hz0 hz1 .i64 .i64 (p.locks.toNat) (by rw [hz2]; omega) (by unfold maxLen; omega) (Nat.le_refl _)
   refine wpOp_fam (v := .slice (some ⟨u.heap.size, 0, none⟩) (p.locks.toNat) (p.locks.toNat)) (w' := w2) ho hg ?_ (by rw [hds]; refine hI.made (k := 4) (by omega) hL r2 ?_; rw [made_int4] at r1; rw [List.map_replicate]; exact r1)
   have e0 := (actF_get (N := 58) (D := []) (f := f) (show 26 < 58 by omega)).trans v12
   clear ho hd he hI
   unfold execOp
   rw [hop]
   generalize p.locks.toNat = nn at *
   go_simp
  | 14, _, ho, hL, hd =>
   have he : _ = o := Option.some.inj ho
   have hop : o.op = Op.fieldAddr 28 (.tmp 1) 3 := by rw [← he]; rfl
   have hg : o.guard = none := by rw [← he]; rfl
   have hds : o.dst = some 28 := by rw [← he]; rfl
   refine wpOp_fam (v := .pointer (some ⟨w.heap.size, 3, none⟩)) (w' := u) ho hg ?_ (by rw [hds]; exact hI.read (i := 14) rfl (by omega) (by omega))
   have e0 := (actF_get (N := 58) (D := []) (f := f) (show 1 < 58 by omega)).trans k1
   clear ho hd he hI
   unfold execOp
   rw [hop]
   go_simp
  | 15, _, ho, hL, hd =>
   have he : _ = o := Option.some.inj ho
   have hop : o.op = Op.load 24 (.tmp 28) := by rw [← he]; rfl
   have hg : o.guard = none := by rw [← he]; rfl
   have hds : o.dst = some 29 := by rw [← he]; rfl
   have v14 : f 28 = .pointer (some ⟨w.heap.size, 3, none⟩) := hI.vals 14 _ rfl (dep_of hd 14 (by rw [← he]; kernel_rfl))
   refine wpOp_fam (v := .slice ca p.chans.length ccap) (w' := u) ho hg ?_ (by rw [hds]; exact hI.read (i := 15) rfl (by omega) (by omega))
   have e0 := (actF_get (N := 58) (D := []) (f := f) (show 28 < 58 by omega)).trans v14
   clear ho hd he hI
   unfold execOp
   rw [hop]
   go_simp
  | 16, _, ho, hL, hd =>
   have he : _ = o := Option.some.inj ho
   have hop : o.op = Op.call { callee := Callee.builtin Builtin.len, args := #[.tmp 29], argTypes := #[24] } := by rw [← he]; rfl
   have hg : o.guard = none := by rw [← he]; rfl
   have hds : o.dst = some 30 := by rw [← he]; rfl
   have v15 : f 29 = .slice ca p.chans.length ccap := hI.vals 15 _ rfl (dep_of hd 15 (by rw [← he]; kernel_rfl))
   refine wpOp_fam (v := .int .i64 (p.chans.length : Int)) (w' := u) ho hg ?_ (by rw [hds]; exact hI.read (i := 16) rfl (by omega) (by omega))
   have e0 := (actF_get (N := 58) (D := []) (f := f) (show 29 < 58 by omega)).trans v15
   clear ho hd he hI
   unfold execOp
   rw [hop]
   go_simp
  | 17, _, ho, hL, hd =>
   have he : _ = o := Option.some.inj ho
   have hop : o.op = Op.makeSlice 70 (.tmp 30) (.tmp 30) := by rw [← he]; rfl
   have hg : o.guard = none := by rw [← he]; rfl
   have hds : o.dst = some 31 := by rw [← he]; rfl
   have v16 : f 30 = .int .i64 ((p.chans.length : Nat) : Int) := hI.vals 16 _ rfl (dep_of hd 16 (by rw [← he]; kernel_rfl))
   obtain ⟨j0, hj0, hy0, hy1, hy2⟩ := info_parts info_sliceT
   obtain ⟨w2, hrun, r1, r2⟩ := run_make_full (P := Try.prog) u u.heap.size 70 24 j0 (.slice none 0 0) 1 Try.underlying70 hj0 hy0 hy1 .i64 .i64 (p.chans.length) (by rw [hy2]; omega) (by unfold maxLen; omega) (Nat.le_refl _)
   refine wpOp_fam (v := .slice (some ⟨u.heap.size, 0, none⟩) p.chans.length p.chans.length) (w' := w2) ho hg ?_ (by rw [hds]; refine hI.queues hL r2 ?_; rw [Nat.mul_one, show (madeCells (Value.slice none 0 0).cells p.chans.length).toList = List.replicate p.chans.length (Value.slice none 0 0) from toList_madeCells_one _ _] at r1; exact r1)
   have e0 := (actF_get (N := 58) (D := []) (f := f) (show 30 < 58 by omega)).trans v16
   clear ho hd he hI
   unfold execOp
   rw [hop]
   go_simp
  | 18, _, ho, hL, hd =>
   have he : _ = o := Option.some.inj ho
   have hop : o.op = Op.fieldAddr 28 (.tmp 1) 3 := by rw [← he]; rfl
   have hg : o.guard = none := by rw [← he]; rfl
   have hds : o.dst = some 32 := by rw [← he]; rfl
   refine wpOp_fam (v := .pointer (some ⟨w.heap.size, 3, none⟩)) (w' := u) ho hg ?_ (by rw [hds]; exact hI.read (i := 18) rfl (by omega) (by omega))
   have e0 := (actF_get (N := 58) (D := []) (f := f) (show 1 < 58 by omega)).trans k1
   clear ho hd he hI
   unfold execOp
   rw [hop]
   go_simp
  | 19, _, ho, hL, hd =>
   have he : _ = o := Option.some.inj ho
   have hop : o.op = Op.load 24 (.tmp 32) := by rw [← he]; rfl
   have hg : o.guard = none := by rw [← he]; rfl
   have hds : o.dst = some 33 := by rw [← he]; rfl
   have v18 : f 32 = .pointer (some ⟨w.heap.size, 3, none⟩) := hI.vals 18 _ rfl (dep_of hd 18 (by rw [← he]; kernel_rfl))
   refine wpOp_fam (v := .slice ca p.chans.length ccap) (w' := u) ho hg ?_ (by rw [hds]; exact hI.read (i := 19) rfl (by omega) (by omega))
   have e0 := (actF_get (N := 58) (D := []) (f := f) (show 32 < 58 by omega)).trans v18
   clear ho hd he hI
   unfold execOp
   rw [hop]
   go_simp
  | 20, _, ho, hL, hd =>
   have he : _ = o := Option.some.inj ho
   have hop : o.op = Op.call { callee := Callee.builtin Builtin.len, args := #[.tmp 33], argTypes := #[24] } := by rw [← he]; rfl
   have hg : o.guard = none := by rw [← he]; rfl
   have hds : o.dst = some 34 := by rw [← he]; rfl
   have v19 : f 33 = .slice ca p.chans.length ccap := hI.vals 19 _ rfl (dep_of hd 19 (by rw [← he]; kernel_rfl))
   refine wpOp_fam (v := .int .i64 (p.chans.length : Int)) (w' := u) ho hg ?_ (by rw [hds]; exact hI.read (i := 20) rfl (by omega) (by omega))
   have e0 := (actF_get (N := 58) (D := []) (f := f) (show 33 < 58 by omega)).trans v19
   clear ho hd he hI
   unfold execOp
   rw [hop]
   go_simp
  | 21, _, ho, hL, hd =>
   have he : _ = o := Option.some.inj ho
   have hop : o.op = Op.makeSlice 24 (.tmp 34) (.tmp 34) := by rw [← he]; rfl
   have hg : o.guard = none := by rw [← he]; rfl
   have hds : o.dst = some 35 := by rw [← he]; rfl
   have v20 : f 34 = .int .i64 ((p.chans.length : Nat) : Int) := hI.vals 20 _ rfl (dep_of hd 20 (by rw [← he]; kernel_rfl))
   obtain ⟨w2, hrun, r1, r2⟩ := run_make_full (P := Try.prog) u u.heap.size 24 3 i0 (.int .i64 0) 1 Try.underlying24 hi0 hz0 hz1 .i64 .i64 (p.chans.length) (by rw [hz2]; omega) (by unfold maxLen; omega) (Nat.le_refl _)
   refine wpOp_fam (v := .slice (some ⟨u.heap.size, 0, none⟩) (p.chans.length) (p.chans.length)) (w' := w2) ho hg ?_ (by rw [hds]; refine hI.made (k := 5) (by omega) hL r2 ?_; rw [made_int4] at r1; rw [List.map_replicate]; exact r1)
   have e0 := (actF_get (N := 58) (D := []) (f := f) (show 34 < 58 by omega)).trans v20
   clear ho hd he hI
   unfold execOp
   rw [hop]
   go_simp
  | 22, _, ho, hL, hd =>
   have he : _ = o := Option.some.inj ho
   have hop : o.op = Op.fieldAddr 28 (.tmp 1) 4 := by rw [← he]; rfl
   have hg : o.guard = none := by rw [← he]; rfl
   have hds : o.dst = some 36 := by rw [← he]; rfl
   refine wpOp_fam (v := .pointer (some ⟨w.heap.size, 4, none⟩)) (w' := u) ho hg ?_ (by rw [hds]; exact hI.read (i := 22) rfl (by omega) (by omega))
   have e0 := (actF_get (N := 58) (D := []) (f := f) (show 1 < 58 by omega)).trans k1
   clear ho hd he hI
   unfold execOp
   rw [hop]
   go_simp
  | 23, _, ho, hL, hd =>
   have he : _ = o := Option.some.inj ho
   have hop : o.op = Op.load 3 (.tmp 36) := by rw [← he]; rfl
   have hg : o.guard = none := by rw [← he]; rfl
   have hds : o.dst = some 37 := by rw [← he]; rfl
   have v22 : f 36 = .pointer (some ⟨w.heap.size, 4, none⟩) := hI.vals 22 _ rfl (dep_of hd 22 (by rw [← he]; kernel_rfl))
   refine wpOp_fam (v := .int .i64 p.groups) (w' := u) ho hg ?_ (by rw [hds]; exact hI.read (i := 23) rfl (by omega) (by omega))
   have e0 := (actF_get (N := 58) (D := []) (f := f) (show 36 < 58 by omega)).trans v22
   clear ho hd he hI
   unfold execOp
   rw [hop]
   go_simp
  | 24, _, ho, hL, hd =>
   have he : _ = o := Option.some.inj ho
   have hop : o.op = Op.makeSlice 24 (.tmp 37) (.tmp 37) := by rw [← he]; rfl
   have hg : o.guard = none := by rw [← he]; rfl
   have hds : o.dst = some 38 := by rw [← he]; rfl
   have v23 : f 37 = .int .i64 ((p.groups.toNat : Nat) : Int) := by rw [hI.vals 23 _ rfl (dep_of hd 23 (by rw [← he]; kernel_rfl))]; congr 1; omega
   obtain ⟨w2, hrun, r1, r2⟩ := run_make_full (P := Try.prog) u u.heap.size 24 3 i0 (.int .i64 0) 1 Try.underlying24 hi0 hz0 hz1 .i64 .i64 (p.groups.toNat) (by rw [hz2]; omega) (by unfold maxLen; omega) (Nat.le_refl _)
   refine wpOp_fam (v := .slice (some ⟨u.heap.size, 0, none⟩) (p.groups.toNat) (p.groups.toNat)) (w' := w2) ho hg ?_ (by rw [hds]; refine hI.made (k := 6) (by omega) hL r2 ?_; rw [made_int4] at r1; rw [List.map_replicate]; exact r1)
   have e0 := (actF_get (N := 58) (D := []) (f := f) (show 37 < 58 by omega)).trans v23
   clear ho hd he hI
   unfold execOp
   rw [hop]
   generalize p.groups.toNat = nn at *
   go_simp
  | 25, _, ho, hL, hd =>
   have he : _ = o := Option.some.inj ho
   have hop : o.op = Op.fieldAddr 28 (.tmp 1) 5 := by rw [← he]; rfl
   have hg : o.guard = none := by rw [← he]; rfl
   have hds : o.dst = some 39 := by rw [← he]; rfl
   refine wpOp_fam (v := .pointer (some ⟨w.heap.size, 5, none⟩)) (w' := u) ho hg ?_ (by rw [hds]; exact hI.read (i := 25) rfl (by omega) (by omega))
   have e0 := (actF_get (N := 58) (D := []) (f := f) (show 1 < 58 by omega)).trans k1
   clear ho hd he hI
   unfold execOp
   rw [hop]
   go_simp
  | 26, _, ho, hL, hd =>
   have he : _ = o := Option.some.inj ho
   have hop : o.op = Op.load 3 (.tmp 39) := by rw [← he]; rfl
   have hg : o.guard = none := by rw [← he]; rfl
   have hds : o.dst = some 40 := by rw [← he]; rfl
   have v25 : f 39 = .pointer (some ⟨w.heap.size, 5, none⟩) := hI.vals 25 _ rfl (dep_of hd 25 (by rw [← he]; kernel_rfl))
   refine wpOp_fam (v := .int .i64 p.onces) (w' := u) ho hg ?_ (by rw [hds]; exact hI.read (i := 26) rfl (by omega) (by omega))
   have e0 := (actF_get (N := 58) (D := []) (f := f) (show 39 < 58 by omega)).trans v25
   clear ho hd he hI
   unfold execOp
   rw [hop]
   go_simp
  | 27, _, ho, hL, hd =>
   have he : _ = o := Option.some.inj ho
   have hop : o.op = Op.makeSlice 24 (.tmp 40) (.tmp 40) := by rw [← he]; rfl
   have hg : o.guard = none := by rw [← he]; rfl
   have hds : o.dst = some 41 := by rw [← he]; rfl
   have v26 : f 40 = .int .i64 ((p.onces.toNat : Nat) : Int) := by rw [hI.vals 26 _ rfl (dep_of hd 26 (by rw [← he]; kernel_rfl))]; congr 1; omega
   obtain ⟨w2, hrun, r1, r2⟩ := run_make_full (P := Try.prog) u u.heap.size 24 3 i0 (.int .i64 0) 1 Try.underlying24 hi0 hz0 hz1 .i64 .i64 (p.onces.toNat) (by rw [hz2]; omega) (by unfold maxLen; omega) (Nat.le_refl _)
   refine wpOp_fam (v := .slice (some ⟨u.heap.size, 0, none⟩) (p.onces.toNat) (p.onces.toNat)) (w' := w2) ho hg ?_ (by rw [hds]; refine hI.made (k := 7) (by omega) hL r2 ?_; rw [made_int4] at r1; rw [List.map_replicate]; exact r1)
   have e0 := (actF_get (N := 58) (D := []) (f := f) (show 40 < 58 by omega)).trans v26
   clear ho hd he hI
   unfold execOp
   rw [hop]
   generalize p.onces.toNat = nn at *
   go_simp
  | 28, _, ho, hL, hd =>
   have he : _ = o := Option.some.inj ho
   have hop : o.op = Op.build 72 #[(0, .tmp 14), (1, .tmp 16), (2, .tmp 18), (4, .tmp 21), (5, .tmp 24), (6, .tmp 27), (7, .tmp 31), (8, .tmp 35), (9, .tmp 38), (10, .tmp 41)] := by rw [← he]; rfl
   have hg : o.guard = none := by rw [← he]; rfl
   have hds : o.dst = some 42 := by rw [← he]; rfl
   have v0 : f 14 = p.val ca ccap ta tcap := hI.vals 0 _ rfl (dep_of hd 0 (by rw [← he]; kernel_rfl))
   refine wpOp_fam (w' := u) (v := .agg (nwS p ca ccap ta tcap (fun k => f (nwIx k + 14)) (f 31))) ho hg ?_ (by rw [hds]; exact hI.build (fun k hk => by match k, hk with | 0, _ => exact (dep_of hd 2 (by rw [← he]; kernel_rfl)) | 1, _ => exact (dep_of hd 4 (by rw [← he]; kernel_rfl)) | 2, _ => exact (dep_of hd 7 (by rw [← he]; kernel_rfl)) | 3, _ => exact (dep_of hd 10 (by rw [← he]; kernel_rfl)) | 4, _ => exact (dep_of hd 13 (by rw [← he]; kernel_rfl)) | 5, _ => exact (dep_of hd 21 (by rw [← he]; kernel_rfl)) | 6, _ => exact (dep_of hd 24 (by rw [← he]; kernel_rfl)) | 7, _ => exact (dep_of hd 27 (by rw [← he]; kernel_rfl))) (dep_of hd 17 (by rw [← he]; kernel_rfl)) hL rfl)
   obtain ⟨a0, n0, c0, s0⟩ : ∃ a n c, f 16 = .slice a n c := by obtain ⟨a, c, h⟩ := st_slice (hI.ow.fam.row 0); exact ⟨a, _, c, (hI.row 0 (by omega) (dep_of hd 2 (by rw [← he]; kernel_rfl))).1.trans h⟩
   obtain ⟨a1, n1, c1, s1⟩ : ∃ a n c, f 18 = .slice a n c := by obtain ⟨a, c, h⟩ := st_slice (hI.ow.fam.row 1); exact ⟨a, _, c, (hI.row 1 (by omega) (dep_of hd 4 (by rw [← he]; kernel_rfl))).1.trans h⟩
   obtain ⟨a2, n2, c2, s2⟩ : ∃ a n c, f 21 = .slice a n c := by obtain ⟨a, c, h⟩ := st_slice (hI.ow.fam.row 2); exact ⟨a, _, c, (hI.row 2 (by omega) (dep_of hd 7 (by rw [← he]; kernel_rfl))).1.trans h⟩
   obtain ⟨a3, n3, c3, s3⟩ : ∃ a n c, f 24 = .slice a n c := by obtain ⟨a, c, h⟩ := st_slice (hI.ow.fam.row 3); exact ⟨a, _, c, (hI.row 3 (by omega) (dep_of hd 10 (by rw [← he]; kernel_rfl))).1.trans h⟩
   obtain ⟨a4, n4, c4, s4⟩ : ∃ a n c, f 27 = .slice a n c := by obtain ⟨a, c, h⟩ := st_slice (hI.ow.fam.row 4); exact ⟨a, _, c, (hI.row 4 (by omega) (dep_of hd 13 (by rw [← he]; kernel_rfl))).1.trans h⟩
   obtain ⟨a5, n5, c5, s5⟩ : ∃ a n c, f 35 = .slice a n c := by obtain ⟨a, c, h⟩ := st_slice (hI.ow.fam.row 5); exact ⟨a, _, c, (hI.row 5 (by omega) (dep_of hd 21 (by rw [← he]; kernel_rfl))).1.trans h⟩
   obtain ⟨a6, n6, c6, s6⟩ : ∃ a n c, f 38 = .slice a n c := by obtain ⟨a, c, h⟩ := st_slice (hI.ow.fam.row 6); exact ⟨a, _, c, (hI.row 6 (by omega) (dep_of hd 24 (by rw [← he]; kernel_rfl))).1.trans h⟩
   obtain ⟨a7, n7, c7, s7⟩ : ∃ a n c, f 41 = .slice a n c := by obtain ⟨a, c, h⟩ := st_slice (hI.ow.fam.row 7); exact ⟨a, _, c, (hI.row 7 (by omega) (dep_of hd 27 (by rw [← he]; kernel_rfl))).1.trans h⟩
   obtain ⟨a8, n8, c8, s8⟩ : ∃ a n c, f 31 = .slice a n c := by obtain ⟨a, c, h⟩ := st_slice hI.ow.queue; exact ⟨a, _, c, (hI.q1 (dep_of hd 17 (by rw [← he]; kernel_rfl))).1.trans h⟩
   have e0 := (actF_get (N := 58) (D := []) (f := f) (show 14 < 58 by omega)).trans v0
   have e1 := (actF_get (N := 58) (D := []) (f := f) (show 16 < 58 by omega)).trans s0
   have e2 := (actF_get (N := 58) (D := []) (f := f) (show 18 < 58 by omega)).trans s1
   have e3 := (actF_get (N := 58) (D := []) (f := f) (show 21 < 58 by omega)).trans s2
   have e4 := (actF_get (N := 58) (D := []) (f := f) (show 24 < 58 by omega)).trans s3
   have e5 := (actF_get (N := 58) (D := []) (f := f) (show 27 < 58 by omega)).trans s4
   have e6 := (actF_get (N := 58) (D := []) (f := f) (show 35 < 58 by omega)).trans s5
   have e7 := (actF_get (N := 58) (D := []) (f := f) (show 38 < 58 by omega)).trans s6
   have e8 := (actF_get (N := 58) (D := []) (f := f) (show 41 < 58 by omega)).trans s7
   have e9 := (actF_get (N := 58) (D := []) (f := f) (show 31 < 58 by omega)).trans s8
   clear ho hd he hI
   unfold execOp
   rw [hop]
   simp only [nwS, nwIx, Nat.reduceAdd]
   go_simp
  | 29, _, ho, hL, hd =>
   have he : _ = o := Option.some.inj ho
   have hop : o.op = Op.alloc 72 := by rw [← he]; rfl
   have hg : o.guard = none := by rw [← he]; rfl
   have hds : o.dst = some 5 := by rw [← he]; rfl
   refine wpOp_fam (w' := u.alloc (.cells #[.int .i64 0, .int .i64 0, .int .i64 0, .slice none 0 0, .int .i64 0, .int .i64 0, .slice none 0 0, .slice none 0 0, .slice none 0 0, .slice none 0 0, .slice none 0 0, .slice none 0 0, .slice none 0 0, .slice none 0 0, .slice none 0 0, .slice none 0 0, .slice none 0 0, .slice none 0 0, .int .i64 0] 72)) (v := .pointer (some ⟨u.heap.size, 0, none⟩)) ho hg ?_ (by rw [hds]; exact hI.boxed hL rfl)
   clear ho hd he hI
   unfold execOp
   rw [hop]
   go_simp
  | 30, _, ho, hL, hd =>
   have he : _ = o := Option.some.inj ho
   have hop : o.op = Op.store 72 (.tmp 5) (.tmp 42) := by rw [← he]; rfl
   have hg : o.guard = none := by rw [← he]; rfl
   have hds : o.dst = none := by rw [← he]; rfl
   have h29 := (dep_of hd 29 (by rw [← he]; kernel_rfl))
   have h28 := (dep_of hd 28 (by rw [← he]; kernel_rfl))
   obtain ⟨g, Z, q1, q2, q3, q4, _⟩ := hI.box h29
   have q5 := (hI.bld h28).2.2
   refine wpOp_fam_skip (w' := u.setRow g (nwS p ca ccap ta tcap fv qs)) ho hg ?_ (by rw [hds]; exact hI.stored h28 h29 hL q1)
   have hr := run_storeVar_row (P := Try.prog) u g 72 72 Z (nwS p ca ccap ta tcap fv qs) q3 info_S (by rw [q4]; rfl) (hone fv qs (fun k => own_one1 (hI.ow.fam.row k)) (own_one1 hI.ow.queue))
   clear ho hd he hI hone
   unfold execOp
   rw [hop]
   simp only [actF_tmp (show 5 < 58 by omega), actF_tmp (show 42 < 58 by omega), q1, q5]
   generalize nwS p ca ccap ta tcap fv qs = SS at *
   simp [Instr.storeAt, Instr.sureAddr, hr, Result.andThen]
 case hdone =>
  intro f u hI
  obtain ⟨fv, fl, qs, cq, hI⟩ := hI
  obtain ⟨g, Z, b1, b2, b3, b4, b5, b6, b7⟩ := hI.box rfl
  obtain rfl := b7 rfl
  obtain ⟨q1, rfl⟩ := hI.q1 rfl
  have k0 : f 0 = p.val ca ccap ta tcap := hI.keep 0 (by omega)
  have k1 : f 1 = .pointer (some ⟨w.heap.size, 0, none⟩) := hI.keep 1 (by omega)
  have k2 : f 2 = .pointer (some ⟨w.heap.size + 1, 0, none⟩) := hI.keep 2 (by omega)
  have k3 : f 3 = .bool false := hI.keep 3 (by omega)
  have k4 : f 4 = .int .i64 (p.threads.length : Int) := hI.keep 4 (by omega)
  have hml := (Array.getElem?_eq_some_iff.1 HM2.out).1
  have HX : Hid (NwL w1.drew u g p ca ccap ta tcap fv (.slice none 0 0) qs fl 0) := Lib.hid ⟨b3, hI.ow, hI.bel, b2, fun x hx e => by
   subst e
   rcases hx with ⟨i, e⟩ | e | e
   ·exact b5 i e
   ·cases e
   ·exact b6 e, fun k hk => (hI.row k hk rfl).2, hI.far 8 (by omega), fun j hj => by omega, fun i hi => (hI.far i (by omega)).2⟩
  have hn6 := hz.2.2.2.2.2.2.1
  have hg2 : w.heap.size + 1 < g := Nat.lt_of_lt_of_le hml b2
  have HZ := Lib.hid hz
  clear hI b2 b3 b4 b5 b6 b7 q1 hz hbl
  rw [show actF 58 [] f = ⟨#[f 0, f 1, f 2, f 3, f 4, f 5, f 6, f 7, f 8, f 9, f 10, f 11, f 12, f 13, f 14, f 15, f 16, f 17, f 18, f 19, f 20, f 21, f 22, f 23, f 24, f 25, f 26, f 27, f 28, f 29, f 30, f 31, f 32, f 33, f 34, f 35, f 36, f 37, f 38, f 39, f 40, f 41, f 42, f 43, f 44, f 45, f 46, f 47, f 48, f 49, f 50, f 51, f 52, f 53, f 54, f 55, f 56, f 57], []⟩ from rfl, k0, k1, k2, k3, k4, b1]
  clear k0 k1 k2 k3 k4 b1
  generalize hn : p.threads.length = n at *
  have HNn := Lib.hid hn
  clear hn
  obtain ⟨t0, ti, tz0, tz1, tz2⟩ := info_parts info_sliceT
  have hmk : ∀ x : World, (Instr.makeSlice 24 (.int .i64 4) (.int .i64 4)).run Try.prog x = .ok (.slice (some ⟨x.heap.size, 0, none⟩) 4 4) (x.alloc (.cells #[.int .i64 0, .int .i64 0, .int .i64 0, .int .i64 0] 3)) := fun x => by
   have h := run_make (P := Try.prog) x 24 3 i0 (.int .i64 0) Try.underlying24 hi0 hz0 .i64 .i64 4 4 (by omega) (by omega) (by rw [hz2]; omega) (by omega)
   rw [hz1, show madeCells (Value.int .i64 0).cells ((4 : Int).toNat * 1) = #[.int .i64 0, .int .i64 0, .int .i64 0, .int .i64 0] from by kernel_rfl] at h
   exact h
  go_wp2_with fail
  go_loopw [6] (fun i x => ∃ (k : Nat) (fw : Nat → Value) (rs : Value) (fm : Nat → List Int), k ≤ n ∧ i = .int .i64 k ∧ Hid (NwL w1.drew x g p ca ccap ta tcap fw rs qs fm k)) (fun i _ => n - (intOf i).toNat)
  case atStart => exact ⟨0, fv, .slice none 0 0, fl, Nat.zero_le _, rfl, HX⟩
  case round =>
   obtain ⟨k, fw, rs, fm, hk, rfl, HR⟩ := hrel
   have e9 : Hid (∀ r : Value, ((nwS p ca ccap ta tcap fw qs).setIfInBounds 9 r)[9]? = some r) := Lib.hid (fun r => by rw [Array.getElem?_setIfInBounds_self_of_lt (by show 9 < 19; omega)])
   by_cases hlt : k < n
   ·have d9 := (cell_of_row _ _ 9 _ _ _ HR.out.box).trans (e9.out rs)
    have f9 := frozen_of_row _ _ 9 _ _ HR.out.box
    obtain ⟨ra, rc, rfl⟩ := st_slice HR.out.ow.regs
    have hgl := (Array.getElem?_eq_some_iff.1 HR.out.box).1
    go_wp2_with fail
    have hk6 : k < 6 := by omega
    have HRG := Lib.hid HR.out.ow.regs
    have HB2 := Lib.hid (fun A B => (below_two wr A B).drew)
    have HB1' := Lib.hid (fun A B => (below_box (wr.alloc A) B).drew)
    have HV := Lib.hid (own_later (World.ownsRow_lit wr (base := wr.heap.size) (e := 3) (size := 1) #[.int .i64 0, .int .i64 0, .int .i64 0, .int .i64 0] 4 (Nat.le_refl _) (by unfold maxLen; omega) rfl) (HB1'.out _ (.cells #[.slice (some ⟨wr.heap.size, 0, none⟩) 4 4] 24)))
    have HTop := Lib.hid HR.out.ow.fam.top
    have HNe := Lib.hid (HR.out.ap)
    clear HB1'
    go_region_law ((rw [if_pos (by rfl)]); refine wp_append_own_at _ (.tmp 49) (.tmp 51) 70 rfl w1.drew.heap.size 24 t0 (.slice none 0 0) 1 24 Try.underlying70 ti tz0 tz1 tz2 rfl (by decide) (.slice ra k rc) k ((List.range k).map fun j => fw (9 + j)) rfl (own_later HRG.out (HB2.out _ _)) ⟨wr.heap.size + 1, 0, none⟩ 1 1 [.slice (some ⟨wr.heap.size, 0, none⟩) 4 4] rfl rfl (st_one_new2 wr _ _ _) (by simp [Value.oneCell']) (by unfold maxLen; omega) (by omega) (Nat.le_trans HTop.out (HB2.out _ _).size) ?_; intro rv' w4 hown4 hgrow4 _ hat4; have hb4 := (hgrow4.block g (Nat.lt_of_lt_of_le hgl (HB2.out _ _).size) (fun e => HNe.out g (.inr (.inl e.symm)) rfl)).trans (((HB2.out _ _).block g hgl).trans HR.out.box); have d4 := (cell_of_row _ _ 9 _ _ _ hb4).trans (e9.out _); have f4 := frozen_of_row _ _ 9 _ _ hb4; have HP := Lib.hid (HR.out.push hk6 (HB2.out _ _) HV.out hown4 hgrow4 hat4); obtain ⟨ra4, rc4, rfl⟩ := st_slice hown4; clear hb4 hown4 hgrow4 hat4)
    all_goals
     go_wp2
     go_roundw
     case rel => exact ⟨k + 1, _, _, _, by omega, by go_num, HP⟩
     case measure => simp [intOf]; omega
   ·obtain rfl : k = n := by omega
    have hL := HR.out
    have hf1 : fm 1 = List.replicate k 0 := (hL.row 1 (by omega)).trans (by show List.replicate p.threads.length 0 = _; rw [HNn.out])
    have hk1 : 0 < k := by omega
    obtain ⟨gB, capB, eB, lB1, lB2, cB, fB⟩ := hL.ow.fam.cell (i := 1) (k := 0) (x := 0) (by rw [hf1, List.getElem?_replicate, if_pos hk1])
    have hBg : gB ≠ g := hL.ap gB (.inl ⟨1, by rw [eB]; rfl⟩)
    rw [hf1, List.length_replicate] at eB
    have d8 : wr.cell? ⟨g, 8, none⟩ = some (.slice (some ⟨gB, 0, none⟩) k capB) := (cell_of_row _ _ 8 _ _ _ hL.box).trans (by rw [Array.getElem?_setIfInBounds_ne (by omega), ← eB]; rfl)
    have HO := Lib.hid (hL.ow.put (i := 1) (k := 0) (by rw [hf1, List.length_replicate]; exact eB) (by rw [hf1, List.length_replicate]; exact hk1) 1)
    have HEB := Lib.hid eB
    have hbox := hL.box
    have hSV : SV ((nwS p ca ccap ta tcap fw qs).setIfInBounds 9 rs) p ca ccap ta tcap fw rs qs 0 := ⟨by rw [show fw 8 = Value.slice none 0 0 from hL.r8.1]; rfl⟩
    have hS1 : ((nwS p ca ccap ta tcap fw qs).setIfInBounds 9 rs).all (·.oneCell') = true := sv_one hSV hL.ow.rf
    have hS19 : ((nwS p ca ccap ta tcap fw qs).setIfInBounds 9 rs).size = 19 := rfl
    generalize (nwS p ca ccap ta tcap fw qs).setIfInBounds 9 rs = S at *
    have hSz : (Try.prog.info? 72).map (·.size) = some S.size := by rw [hS19]; exact info_S
    have HBox := Lib.hid hbox
    have HSV := Lib.hid hSV
    have HM3 := Lib.hid ((hL.bel.block _ hml).trans HM2.out)
    have HBW := Lib.hid (below_next HB1.out.drew hL.bel)
    clear hL hf1 eB hSV hbox
    go_upto_region 10 with (fail)
    generalize hU : World.setCell wr _ _ = U
    have HBU : Hid (Below w.heap.size w U) := Lib.hid (by rw [← hU]; exact stBelow_set HBW.out (by have h1 : w1.heap.size ≤ gB := lB1; have := HB1.out.size; omega))
    have HOU : Hid (Ow U w1.drew.heap.size fw rs qs (updF fm 1 ((fm 1).set 0 1)) k p.chans.length) := Lib.hid (by rw [← hU]; exact HO.out)
    have HMU : Hid (U.heap[w.heap.size + 1]? = some (.cells #[.int .i64 0, .int .i64 0, .int .i64 0, .slice none 0 0, .int .i64 0, .int .i64 0, .slice none 0 0, .slice none 0 0, .slice none 0 0, .slice none 0 0, .slice none 0 0, .slice none 0 0, .slice none 0 0, .slice none 0 0, .slice none 0 0, .slice none 0 0, .slice none 0 0, .slice none 0 0, .int .i64 0] 72)) := Lib.hid (by rw [← hU]; exact (Below.heap_setCell _ _ _ _ (by have h1 : w1.heap.size ≤ gB := lB1; show w.heap.size + 1 ≠ gB; omega)).trans HM3.out)
    have HSU : Hid (U.heap[g]? = some (.cells S 72)) := Lib.hid (by rw [← hU]; exact (Below.heap_setCell _ _ _ _ (by simp only; exact hBg.symm)).trans HBox.out)
    clear hU HO HBW HM3 HBox d8 cB fB
    go_wp2_with (first
     | (refine wpList_store_row rfl 72 (.tmp 2) (.tmp 57) rfl (w.heap.size + 1) _ rfl rfl 72 _ HMU.out hSz (by rw [hS19]; rfl) hS1 ?_)
     | (refine wpList_load_row rfl 72 (.tmp 5) rfl g rfl 72 S (0, 0) _ HSU.out Try.underlying72 rfl hSz ?_))
    refine bodyPost_ret (v := .tuple #[.agg S, .bool true]) (st_results (p := 2) (u := 3) rfl _ _ (w.heap.size + 1) 72 S (0, 0) _ rfl (setRow_heap _ _ _ _ _ _ HMU.out) Try.underlying72 rfl hSz) rfl ?_
    unfold New4
    have hfl := new_flM (fl := fm) (by rw [HNn.out]; omega) (by rw [HNn.out]; omega) HZ.out.1.2 HZ.out.2.1.2 HZ.out.2.2.1.2 HZ.out.2.2.2.2.2.1 HZ.out.2.2.2.1.2 HZ.out.2.2.2.2.1.2 HR.out.row HR.out.r8.2 (by rw [HNn.out]; exact HR.out.regs) (by rw [HNn.out]; exact HR.out.far)
    refine ⟨S, fw, rs, qs, rfl, HSV.out, fun z T => ?_, below_row HBU.out (by omega) _⟩
    rw [← hfl, HNn.out]
    have hT : Touch (fun x => x = w.heap.size + 1) U (U.setRow (w.heap.size + 1) S) := ⟨rfl, rfl, rfl, by simp, fun x hx h => setRow_other _ _ _ _ h⟩
    exact ((HOU.out.touch hT (fun x (hx : w1.heap.size ≤ x) _ _ e => by omega)).touch T (fun x (hx : w1.heap.size ≤ x) _ _ e => by omega)).rf
end Go.Proofs.Ytnbpneaiibandaa
namespace Go.Proofs.Ytnbpneaiibandaa
theorem cf_of {P : Program} {fn : FuncId} {f : Func} (h : P.funcs[fn]? = some f) (hn : (f.name == "runtime.NumGoroutine") = false) (hb : f.body.isNone = false) (args : Array Value) (w : World) : (callFunc fn args).run P w = .ok (.enter fn args) w := by
 have hn' : ¬ f.name = "runtime.NumGoroutine" := by simpa using hn
 have hb' : ¬ f.body = none := by intro e; rw [e] at hb; cases hb
 simp [callFunc, h, hn', hb']
end Go.Proofs.Ytnbpneaiibandaa
