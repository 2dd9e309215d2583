/- A region that draws its order: what has come up, and what lies in which slot. No program. -/
import Derived.Test.YtkhhkjinlkpdlaaRefAny
namespace Go.Proofs.Ytkhhkjinlkpdlaa
set_option linter.unusedVariables false
set_option linter.unusedSimpArgs false

/-- What lies in the slots, as a function. -/
def actF (N : Nat) (D : List Deferred) (f : Nat → Value) : Act := ⟨((List.range N).map f).toArray, D⟩
def putF (f : Nat → Value) (d : Option Nat) (v : Value) : Nat → Value := fun t => if d = some t then v else f t
theorem putF_ne {f : Nat → Value} {d : Option Nat} {v : Value} {t : Nat} (h : d ≠ some t) : putF f d v t = f t := by simp [putF, h]
theorem putF_same {f : Nat → Value} {v : Value} {t : Nat} : putF f (some t) v t = v := by simp [putF]
theorem actF_tmp {N : Nat} {D : List Deferred} {f : Nat → Value} {t : Nat} (h : t < N) : (actF N D f).eval (.tmp t) = f t := by
  simp [Act.eval, actF, Array.getD_eq_getD_getElem?, h]
theorem actF_get {N : Nat} {D : List Deferred} {f : Nat → Value} {t : Nat} (h : t < N) : (actF N D f).tmps[t]?.getD undef = f t := by
  simp [actF, h]
theorem actF_put {N : Nat} {D : List Deferred} {f : Nat → Value} {d : Option Nat} {v : Value} : (actF N D f).put d v = actF N D (putF f d v) := by
  cases d with
  | none =>
    have : putF f none v = f := by funext t; simp [putF]
    rw [this]; rfl
  | some d =>
    unfold actF Act.put
    simp only
    congr 1
    apply Array.ext_getElem?
    intro t
    rw [Array.getElem?_setIfInBounds]
    simp only [List.getElem?_toArray, List.getElem?_map, List.size_toArray, List.length_map, List.length_range]
    by_cases e : d = t
    · subst e
      by_cases h : d < N
      · simp [h, putF]
      · simp [h]
    · rw [if_neg e]
      by_cases h : t < N
      · simp [h, putF, e]
      · simp [h]
theorem actF_of (a : Act) (N : Nat) (h : a.tmps.size = N) : a = actF N a.defers (fun t => a.tmps.getD t undef) := by
  subst h
  cases a with
  | mk tmps defers =>
    unfold actF
    congr 1
    apply Array.ext_getElem?
    intro t
    simp only [List.getElem?_toArray, List.getElem?_map]
    by_cases h : t < tmps.size
    · simp [h, Array.getD_eq_getD_getElem?]
    · simp [h]
/-- Every operation waits for earlier ones alone. -/
def afterOk (md : Region.Mode) (ops : Array Oper) : Bool := (List.range ops.size).all fun i => ((ops[i]?).map fun o => o.after.all fun e => !Region.binds md e || decide (e.on < i)).getD true
def upL (L : Nat → Bool) (i : Nat) : Nat → Bool := fun j => if j = i then true else L j
theorem upL_same (L : Nat → Bool) (i : Nat) : upL L i i = true := by simp [upL]
theorem upL_ne (L : Nat → Bool) {i j : Nat} (h : j ≠ i) : upL L i j = L j := by simp [upL, h]
/-- Whatever comes up next keeps Inv. -/
theorem wpAny_fam {P : Program} {ops : Array Oper} {Q : Exit → Act → World → Prop} {md : Region.Mode} {N : Nat} {D : List Deferred} (hok : afterOk md ops = true) (Inv : (Nat → Bool) → (Nat → Value) → World → Prop) {f0 : Nat → Value} {w : World} (h0 : Inv (fun i => decide (ops.size ≤ i)) f0 w)
    (hstep : ∀ L f w i o, ops[i]? = some o → L i = false → (∀ e ∈ o.after, Region.binds md e = true → L e.on = true) → Inv L f w → wpOp P ops Q i (fun a' w' => ∃ f', a' = actF N D f' ∧ Inv (upL L i) f' w') (actF N D f) w)
    (hdone : ∀ f w, Inv (fun _ => true) f w → Q .normal (actF N D f) w) :
    wpAny P md ops Q ops.size (Array.replicate ops.size false) (actF N D f0) w := by
  refine wpAny_inv (fun listed a w => listed.size = ops.size ∧ ∃ f, a = actF N D f ∧ Inv (fun i => listed.getD i true) f w) (fun listed a w h => h.1) ?_ ?_ ops.size _ _ _ ⟨by simp, f0, rfl, ?_⟩ ?_
  · rintro listed a w i ⟨hs, f, rfl, hI⟩ hi
    obtain ⟨h1, o, ho, h2⟩ := mem_ready.1 hi
    have hlt := (Array.getElem?_eq_some_iff.1 ho).1
    refine wpOp_mono ?_ (hstep _ f w i o ho h1 (fun e he hb => ?_) hI)
    · rintro a' w' ⟨f', rfl, hI'⟩
      refine ⟨by simpa using hs, f', rfl, ?_⟩
      have : (fun j => (listed.setIfInBounds i true).getD j true) = upL (fun j => listed.getD j true) i := by
        funext j
        simp only [Array.getD_eq_getD_getElem?]
        by_cases e : j = i
        · subst e
          rw [upL_same, Array.getElem?_setIfInBounds_self]
          split <;> rfl
        · rw [upL_ne _ e, Array.getElem?_setIfInBounds_ne (Ne.symm e)]
      rw [this]; exact hI'
    · have := h2 e he hb
      simp only [Array.getD_eq_getD_getElem?] at this ⊢
      rcases hq : listed[e.on]? with _ | b
      · rfl
      · rw [hq] at this; exact this
  · rintro listed a w ⟨hs, f, rfl, hI⟩ hr
    have hall : ∀ n i, i < n → listed.getD i true = true := by
      intro n
      induction n with
      | zero => intro i h; omega
      | succ n ih =>
        intro i h
        rcases Nat.lt_or_ge i n with q | q
        · exact ih i q
        · obtain rfl : i = n := by omega
          by_cases hlt : i < ops.size
          · rcases hq : listed.getD i true with _ | _
            · exfalso
              have : i ∈ Region.ready md ops listed := by
                refine mem_ready.2 ⟨hq, ops[i], by simp [hlt], fun e he hb => ?_⟩
                have h3 := List.all_eq_true.1 hok i (List.mem_range.2 hlt)
                simp only [hlt, getElem?_pos, Option.map_some, Option.getD_some, Array.all_eq_true_iff_forall_mem, Bool.or_eq_true, Bool.not_eq_true', decide_eq_true_eq] at h3
                have h3 : ∀ e, e ∈ ops[i].after → Region.binds md e = true → e.on < i := fun e he hb => (h3 e he).resolve_left (by rw [hb]; simp)
                have h4 := ih e.on (h3 e he hb)
                have h5 : e.on < listed.size := by have := h3 e he hb; omega
                simp only [Array.getD_eq_getD_getElem?, h5, getElem?_pos, Option.getD_some] at h4 ⊢
                exact h4
              rw [hr] at this
              cases this
            · rfl
          · simp [Array.getD_eq_getD_getElem?, Array.getElem?_eq_none (show listed.size ≤ i by omega)]
    have : (fun i => listed.getD i true) = fun _ => true := by
      funext i
      exact hall (i + 1) i (by omega)
    rw [this] at hI
    exact hdone f w hI
  · have : (fun i => (Array.replicate ops.size false).getD i true) = fun i => decide (ops.size ≤ i) := by
      funext i
      by_cases h : i < ops.size
      · simp [Array.getD_eq_getD_getElem?, h]
      · simp [Array.getD_eq_getD_getElem?, h]; omega
    rw [this]; exact h0
  · unfold leftN
    refine Nat.le_trans (List.length_filter_le _ _) (by simp)
theorem wpOp_fam {P : Program} {ops : Array Oper} {Q : Exit → Act → World → Prop} {N : Nat} {D : List Deferred} {Inv : (Nat → Bool) → (Nat → Value) → World → Prop} {L : Nat → Bool} {f : Nat → Value} {w w' : World} {i : Nat} {o : Oper} {v : Value} (ho : ops[i]? = some o) (hg : o.guard = none) (hr : (execOp (actF N D f).eval o).run P w = .ok (.value v) w') (h : Inv (upL L i) (putF f o.dst v) w') :
    wpOp P ops Q i (fun a' w' => ∃ f', a' = actF N D f' ∧ Inv (upL L i) f' w') (actF N D f) w :=
  wpOp_val ho hg hr ⟨_, actF_put, h⟩
theorem wpOp_fam_call {P : Program} {ops : Array Oper} {Q : Exit → Act → World → Prop} {N : Nat} {D : List Deferred} {Inv : (Nat → Bool) → (Nat → Value) → World → Prop} {L : Nat → Bool} {f : Nat → Value} {w w' : World} {i : Nat} {o : Oper} {fn : FuncId} {args : Array Value} (ho : ops[i]? = some o) (hg : o.guard = none) (hr : (execOp (actF N D f).eval o).run P w = .ok (.enter fn args) w') (h : Calls P fn args w' fun e w'' => ∃ v, e = .returned v ∧ Inv (upL L i) (putF f o.dst v) w'') :
    wpOp P ops Q i (fun a' w' => ∃ f', a' = actF N D f' ∧ Inv (upL L i) f' w') (actF N D f) w := by
  have hw : Region.wanted o (yielded ops (actF N D f).tmps) = true := by simp [Region.wanted, hg]
  unfold wpOp
  simp only [ho, hw, if_true, Oper.wp, hr, Oper.upon]
  refine .inl (h.mono ?_)
  rintro e w'' ⟨v, rfl, hI⟩
  exact ⟨_, actF_put, hI⟩
/-- The same of the region itself. -/
theorem wp_region_fam {P : Program} {ops : Array Oper} {Q : Exit → Act → World → Prop} {id : Nat} {a : Act} {w : World} (hm : P.follows .mixedOrders = true) (N : Nat) (hN : a.tmps.size = N) (D : List Deferred) (hD : a.defers = D) (hok : afterOk .any ops = true) (Inv : (Nat → Bool) → (Nat → Value) → World → Prop) (h0 : Inv (fun i => decide (ops.size ≤ i)) (fun t => a.tmps.getD t undef) { w with drawn := w.drawn + 1 })
    (hstep : ∀ L f w i o, ops[i]? = some o → L i = false → (∀ e ∈ o.after, Region.binds .any e = true → L e.on = true) → Inv L f w → wpOp P ops Q i (fun a' w' => ∃ f', a' = actF N D f' ∧ Inv (upL L i) f' w') (actF N D f) w)
    (hdone : ∀ f w, Inv (fun _ => true) f w → Q .normal (actF N D f) w) : (Code.region id ops true).wp P Q a w := by
  subst hD
  refine wp_region_any hm ?_
  have h := wpAny_fam (P := P) (ops := ops) (Q := Q) (md := .any) (N := N) (D := a.defers) hok Inv h0 hstep hdone
  rw [← actF_of a N hN] at h
  exact h
/-- The same, where Inv knows what lay in the slots ahead. -/
theorem wp_region_famK {P : Program} {ops : Array Oper} {Q : Exit → Act → World → Prop} {id : Nat} {a : Act} {w : World} (hm : P.follows .mixedOrders = true) (N : Nat) (hN : a.tmps.size = N) (D : List Deferred) (hD : a.defers = D) (hok : afterOk .any ops = true) (Inv : (Nat → Value) → (Nat → Bool) → (Nat → Value) → World → Prop) (h0 : Inv (fun t => a.tmps.getD t undef) (fun i => decide (ops.size ≤ i)) (fun t => a.tmps.getD t undef) { w with drawn := w.drawn + 1 })
    (hstep : ∀ L f w i o, ops[i]? = some o → L i = false → (∀ e ∈ o.after, Region.binds .any e = true → L e.on = true) → Inv (fun t => a.tmps.getD t undef) L f w → wpOp P ops Q i (fun a' w' => ∃ f', a' = actF N D f' ∧ Inv (fun t => a.tmps.getD t undef) (upL L i) f' w') (actF N D f) w)
    (hdone : ∀ f w, Inv (fun t => a.tmps.getD t undef) (fun _ => true) f w → Q .normal (actF N D f) w) : (Code.region id ops true).wp P Q a w :=
  wp_region_fam hm N hN D hD hok (Inv (fun t => a.tmps.getD t undef)) h0 hstep hdone
/-- All slots but some are as they were. -/
theorem actF_puts (a : Act) (N : Nat) (hN : a.tmps.size = N) (f : Nat → Value) (l : List Nat) (keep : ∀ t, t < N → t ∉ l → f t = a.tmps.getD t undef) : actF N a.defers f = l.foldl (fun b t => b.put (some t) (f t)) a := by
  have key : ∀ (l : List Nat) (b : Act), b.tmps.size = N → b.defers = a.defers → (l.foldl (fun b t => b.put (some t) (f t)) b).tmps.size = N ∧ (l.foldl (fun b t => b.put (some t) (f t)) b).defers = a.defers ∧ ∀ t, t < N → (l.foldl (fun b t => b.put (some t) (f t)) b).tmps[t]? = if t ∈ l then some (f t) else b.tmps[t]? := by
    intro l
    induction l with
    | nil => intro b h1 h2; exact ⟨h1, h2, fun t ht => by simp⟩
    | cons x l ih =>
      intro b h1 h2
      obtain ⟨i1, i2, i3⟩ := ih (b.put (some x) (f x)) (by simpa [Act.put] using h1) (by simpa [Act.put] using h2)
      refine ⟨i1, i2, fun t ht => (i3 t ht).trans ?_⟩
      by_cases e : t ∈ l
      · rw [if_pos e, if_pos (List.mem_cons_of_mem _ e)]
      · rw [if_neg e]
        by_cases e2 : t = x
        · subst e2
          rw [if_pos (List.mem_cons_self ..)]
          show (b.tmps.setIfInBounds t (f t))[t]? = _
          rw [Array.getElem?_setIfInBounds_self_of_lt (by omega)]
        · rw [if_neg (by simp [e, e2])]
          show (b.tmps.setIfInBounds x (f x))[t]? = _
          rw [Array.getElem?_setIfInBounds_ne (Ne.symm e2)]
  obtain ⟨h1, h2, h3⟩ := key l a hN rfl
  generalize l.foldl (fun b t => b.put (some t) (f t)) a = c at *
  have hc : c = ⟨c.tmps, a.defers⟩ := by rw [← h2]
  rw [hc]
  unfold actF
  congr 1
  apply Array.ext_getElem?
  intro t
  by_cases ht : t < N
  · rw [h3 t ht]
    simp only [List.getElem?_toArray, List.getElem?_map]
    rw [List.getElem?_range ht]
    by_cases e : t ∈ l
    · rw [if_pos e]; rfl
    · rw [if_neg e, Option.map_some, keep t ht e]
      have hta : t < a.tmps.size := by omega
      simp [Array.getD_eq_getD_getElem?, hta]
  · rw [Array.getElem?_eq_none (by simp; omega), Array.getElem?_eq_none (by omega)]
theorem dep_of {o : Oper} {md : Region.Mode} {L : Nat → Bool} (h : ∀ e ∈ o.after, Region.binds md e = true → L e.on = true) (j : Nat) (hj : (o.after.any fun e => e.on == j && Region.binds md e) = true) : L j = true := by
  rw [← Array.any_toList, List.any_eq_true] at hj
  obtain ⟨e, he, h1⟩ := hj
  have he := Array.mem_toList_iff.1 he
  simp only [Bool.and_eq_true, beq_iff_eq] at h1
  rw [← h1.1]
  exact h e he h1.2
end Go.Proofs.Ytkhhkjinlkpdlaa
