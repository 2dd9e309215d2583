/- A region that draws its order, by an invariant of what has come up: for operations that make memory in whatever order. No program. -/
import Derived.Orders
namespace Go.Proofs.Ytkhhkjinlkpdlaa
set_option linter.unusedVariables false
set_option linter.unusedSimpArgs false

/-- How many have not come up. -/
def leftN (n : Nat) (listed : Array Bool) : Nat := ((List.range n).filter fun i => !(listed.getD i true)).length
theorem left_set {listed : Array Bool} {i : Nat} (hs : i < listed.size) (hf : listed.getD i true = false) : ∀ n, i < n → leftN n (listed.setIfInBounds i true) + 1 = leftN n listed := by
  intro n
  induction n with
  | zero => intro h; omega
  | succ n ih =>
    intro h
    unfold leftN
    rw [List.range_succ, List.filter_append, List.filter_append, List.length_append, List.length_append]
    by_cases e : i = n
    · subst e
      have e1 : (List.range i).filter (fun t => !((listed.setIfInBounds i true).getD t true)) = (List.range i).filter fun t => !(listed.getD t true) := by
        apply List.filter_congr
        intro t ht
        have ht := List.mem_range.1 ht
        simp only [Array.getD_eq_getD_getElem?]
        rw [Array.getElem?_setIfInBounds_ne (by omega)]
      rw [e1]
      have e2 : (listed.setIfInBounds i true).getD i true = true := by
        rw [Array.getD_eq_getD_getElem?, Array.getElem?_setIfInBounds_self, if_pos hs]; rfl
      simp only [List.filter_cons, List.filter_nil, hf, e2, Bool.not_true, Bool.not_false, if_true, Bool.false_eq_true, if_false, List.length_cons, List.length_nil]
    · have := ih (by omega)
      unfold leftN at this
      have e2 : (listed.setIfInBounds i true).getD n true = listed.getD n true := by
        simp only [Array.getD_eq_getD_getElem?]
        rw [Array.getElem?_setIfInBounds_ne e]
      simp only [List.filter_cons, List.filter_nil, e2]
      omega
/-- Whatever comes up next keeps J; where nothing is left J is enough. -/
theorem wpAny_inv {P : Program} {ops : Array Oper} {Q : Exit → Act → World → Prop} {md : Region.Mode} (J : Array Bool → Act → World → Prop) (hsz : ∀ listed a w, J listed a w → listed.size = ops.size)
    (hstep : ∀ listed a w i, J listed a w → i ∈ Region.ready md ops listed → wpOp P ops Q i (fun a' w' => J (listed.setIfInBounds i true) a' w') a w)
    (hdone : ∀ listed a w, J listed a w → Region.ready md ops listed = [] → Q .normal a w) :
    ∀ fuel listed a w, J listed a w → leftN ops.size listed ≤ fuel → wpAny P md ops Q fuel listed a w := by
  intro fuel
  induction fuel with
  | zero =>
    intro listed a w hJ hf
    have hr : Region.ready md ops listed = [] := by
      rw [List.eq_nil_iff_forall_not_mem]
      intro i hi
      obtain ⟨h1, o, ho, _⟩ := mem_ready.1 hi
      have hlt := (Array.getElem?_eq_some_iff.1 ho).1
      have := left_set (by rw [hsz _ _ _ hJ]; exact hlt) h1 ops.size hlt
      omega
    exact ⟨hr, hdone _ _ _ hJ hr⟩
  | succ fuel ih =>
    intro listed a w hJ hf
    refine ⟨hdone _ _ _ hJ, fun i hi => ?_⟩
    obtain ⟨h1, o, ho, _⟩ := mem_ready.1 hi
    have hlt := (Array.getElem?_eq_some_iff.1 ho).1
    have hl := left_set (by rw [hsz _ _ _ hJ]; exact hlt) h1 ops.size hlt
    exact wpOp_mono (fun a' w' h => ih _ _ _ h (by omega)) (hstep _ _ _ _ hJ hi)
/-- An operation that yields a value. -/
theorem wpOp_val {P : Program} {ops : Array Oper} {Q : Exit → Act → World → Prop} {i : Nat} {o : Oper} {K : Act → World → Prop} {a : Act} {w w' : World} {v : Value} (ho : ops[i]? = some o) (hg : o.guard = none) (hr : (execOp a.eval o).run P w = .ok (.value v) w') (h : K (a.put o.dst v) w') : wpOp P ops Q i K a w := by
  have hw : Region.wanted o (yielded ops a.tmps) = true := by simp [Region.wanted, hg]
  unfold wpOp
  simp only [ho, hw, if_true, Oper.wp, hr, Oper.upon]
  exact .inl h
end Go.Proofs.Ytkhhkjinlkpdlaa
