/- What race's Find and Racy answer. -/
import Derived.Test.YtgikoajclkfoiaaRaceLoop
namespace Go.Proofs.Ytgikoajclkfoiaa
set_option linter.unusedVariables false
set_option linter.unusedSimpArgs false
set_option maxRecDepth 100000
open Go.ChangeShapes Go.WideShapes Go.ChangeAt Go.RowKit Go.Maps Go.Shelf
attribute [local go_sem] Oper.semAt_some

def rcCells (l : List (Int × Int)) : List Value := l.flatMap fun x => [.int .i64 x.1, .int .i64 x.2]
theorem rcCells_len (l : List (Int × Int)) : (rcCells l).length = l.length * 2 := by
  induction l with
  | nil => rfl
  | cons x r ih => simp only [rcCells, List.flatMap_cons, List.length_append] at ih ⊢; rw [ih]; simp; omega
theorem rcCells_snoc (l : List (Int × Int)) (x : Int × Int) : rcCells (l ++ [x]) = rcCells l ++ [.int .i64 x.1, .int .i64 x.2] := by simp [rcCells]
theorem info_race : (Try.prog.info? 43).map (fun i => (i.zero, i.size, i.bytes)) = some (some (.agg #[.int .i64 0, .int .i64 0]), 2, 16) := by kernel_rfl
theorem races_fn (n : Nat) (v0 v1 v2 v3 v4 v5 v6 : Value) (a : Option Addr) (m cap : Nat) (w : World) (hv : (#[v0, v1, v2, v3, v4, v5, v6] : Array Value).all (·.oneCell') = true) :
    CallsIn Fence.wide n Try.prog 19 #[.agg #[v0, v1, v2, v3, v4, v5, v6], .slice a m cap] w fun e w' => e = .returned (.func (.func 22) #[] #[.pointer (some ⟨w.heap.size + 1, 0, none⟩), .pointer (some ⟨w.heap.size, 0, none⟩)]) ∧ w' = (w.alloc (.cells #[v0, v1, v2, v3, v4, v5, v6] 32)).alloc (.cells #[.slice a m cap] 24) := by
  simp only [List.all_toArray, List.all_cons, List.all_nil, Bool.and_true, Bool.and_eq_true] at hv
  obtain ⟨o0, o1, o2, o3, o4, o5, o6⟩ := hv
  have hmf : ∀ (fn : Fn) (first cap : Array Value) (w : World), (Instr.makeFunc fn first cap).run Try.prog w = .ok (.func fn first cap) w := fun _ _ _ _ => rfl
  refine callsIn_of_wp Try.func19 rfl trivial ?_ rfl
  simp only [Try.ntmps19, List.size_toArray, List.length_cons, List.length_nil, Nat.reduceAdd, Nat.reduceSub, Array.replicate_succ, Array.replicate_zero, List.push_toArray, List.append_toArray, List.nil_append, List.cons_append]
  gi_wp2
  go_ret
  exact ⟨rfl, rfl⟩
theorem below_stab {w : World} : StabO w.heap.size (fun _ W => Below w.heap.size w W) := fun s A A' h T => h.trans (T.below (fun k hk => hk.1) h.size)
theorem boxed_stab {B b : Nat} {t : TypeId} {v : Value} {A A' : World} (h : Boxed A b t v) (T : Touch (fun g => B ≤ g ∧ ∃ o, A.heap[g]? = some o ∧ o.isCells = false) A A') : Boxed A' b t v :=
  (T.block b h.lt (by
    rintro ⟨_, o, ho, hc⟩
    rw [show A.heap[b]? = _ from h] at ho
    cases ho; cases hc)).trans h
theorem owns_stab {B base s n : Nat} {t : TypeId} {v : Value} {xs : List Value} {A A' : World} (h : A.ownsRow base t s v n xs) (T : Touch (fun g => B ≤ g ∧ ∃ o, A.heap[g]? = some o ∧ o.isCells = false) A A') : A'.ownsRow base t s v n xs :=
  own_touch h T (by
    rintro g hg ⟨_, o, ho, hc⟩
    rcases h.2 with ⟨e, _⟩ | ⟨g', cap, cur, e, _, hh, _⟩
    · rw [e] at hg; cases hg
    · rw [e] at hg; cases hg
      rw [hh] at ho; cases ho; cases hc)
theorem two_new (w : World) (x y : Int) (t : TypeId) : ∀ j u, ([.int .i64 x, .int .i64 y] : List Value)[j]? = some u → (w.alloc (.cells #[.int .i64 x, .int .i64 y] t)).cell? ((⟨w.heap.size, 0, none⟩ : Addr).add j) = some u := by
  intro j u hj
  rw [Addr.add_mid, Nat.zero_add, cell_of_row _ _ _ _ _ _ (heap_alloc_new _ _)]
  simpa using hj
set_option maxHeartbeats 2000000 in
theorem appendSeq_in (bt bp : Nat) (v0 v1 v2 : Value) (ca : Option Addr) (cc : Nat) (chans : List Int) (v4 v5 v6 : Value) (a : Option Addr) (cap : Nat) (t : List EvD) (w : World)
    (hT : w.heap[bt]? = some (.cells #[.slice a t.length cap] 24)) (hP : w.heap[bp]? = some (.cells #[v0, v1, v2, .slice ca chans.length cc, v4, v5, v6] 32))
    (he : EvsIn w w.heap.size a t) (hw : ∀ e ∈ t, Wf e.th ∧ Wf e.obj) (hc : ChIn w ca chans) (hl : t.length ≤ 1000000) :
    Calls Try.prog 29 #[.slice none 0 0, .func (.func 22) #[] #[.pointer (some ⟨bt, 0, none⟩), .pointer (some ⟨bp, 0, none⟩)]] w fun e W' => ∃ v, e = .returned v ∧ W'.ownsRow w.heap.size 43 2 v (racesL chans t).length (rcCells (racesL chans t)) ∧ Below w.heap.size w W' := by
  obtain ⟨i0, hi, hz0, hz1, hz2⟩ := info_parts info_race
  refine (callsIn_wide (n := 3)).1 ?_
  refine callsIn_of_wp_marks Try.func29 rfl trivial ?_ rfl
  simp only [Try.ntmps29, List.size_toArray, List.length_cons, List.length_nil, Nat.reduceAdd, Nat.reduceSub, Array.replicate_succ, Array.replicate_zero, List.push_toArray, List.append_toArray, List.nil_append, List.cons_append]
  gi_wp2
  have hB0 := below_box w (.cells #[.slice none 0 0] 37)
  have bO := Boxed.new w 37 (.slice none 0 0)
  refine rangeRaces 3 (by decide) bt bp w.heap.size v0 v1 v2 ca cc chans v4 v5 v6 a cap t rfl (old_later hT hB0) (old_later hP hB0) (he.low (low_below hB0)) hw ((ChB.low (B := w.heap.size) ⟨hc.row, hc.len, hc.wf⟩ (low_below hB0))) hl (by simp)
    (fun pre W => (∃ v, Boxed W w.heap.size 37 v ∧ W.ownsRow w.heap.size 43 2 v pre.length (rcCells pre)) ∧ Below w.heap.size w W)
    (fun _ _ _ => False) ?_ (fun _ _ _ _ h _ => h) ⟨⟨_, bO, World.ownsRow_nil _ _ _ _⟩, hB0⟩
    (fun x W => W.alloc (.cells #[.int .i64 x.1, .int .i64 x.2] 43)) (fun x W => below_box W _)
    (fun x W => { tmps := #[.slice none 0 0, .func (.func 22) #[] #[.pointer (some ⟨bt, 0, none⟩), .pointer (some ⟨bp, 0, none⟩)], .pointer (some ⟨w.heap.size, 0, none⟩), undef, .slice none 0 0, .pointer (some ⟨W.heap.size, 0, none⟩), .func (.func 22) #[] #[.pointer (some ⟨bt, 0, none⟩), .pointer (some ⟨bp, 0, none⟩)], raceV x, undef, undef, undef, undef, undef], defers := [] }) ?assign ?body ?done ?stop
  · rintro s A A' ⟨⟨v, h1, h2⟩, h3⟩ T
    exact ⟨⟨v, boxed_stab h1 T, owns_stab h2 T⟩, h3.trans (T.below (fun k hk => Nat.le_trans (by simp) hk.1) h3.size)⟩
  case assign =>
    intro l x W K hK
    unfold raceV at hK ⊢
    gi_wp2
    exact hK
  case body =>
    rintro l pre x W0 W ⟨⟨v, hv, hrow⟩, hB⟩ hsz hpx hsW hcl
    have hlen : pre.length < 7000000 := by
      have h1 := hpx.length_le
      have h2 := racesL_len chans t
      simp at h1
      omega
    have hx := hcl _ _ _ _ (heap_alloc_new W0 (.cells #[.int .i64 x.1, .int .i64 x.2] 43))
    have x0 := cell_of_row _ _ 0 _ _ _ hx
    have x1 := cell_of_row _ _ 1 _ _ _ hx
    simp only [List.getElem?_toArray, List.getElem?_cons_zero, List.getElem?_cons_succ] at x0 x1
    have hc := hv.cell
    have hbs : w.heap.size + 1 ≤ W.heap.size := by simp at hsz hsW; omega
    clear hsW hcl hsz hpx
    generalize W0.heap.size = g0 at *
    gi_wp2_with (gi_at_builtin; refine wpListIn_append_own _ rfl _ _ 37 rfl w.heap.size 43 i0 (.agg #[.int .i64 0, .int .i64 0]) 2 16 Try.underlying37 hi hz0 hz1 hz2 rfl (by decide) _ _ _ rfl (hrow.alloc _) ⟨W.heap.size, 0, none⟩ 1 1 [.int .i64 x.1, .int .i64 x.2] rfl rfl (two_new W _ _ _) (by simp [Value.oneCell']) (by unfold maxLen; omega) (by omega) (by simp; omega) ?_; intro v' w1 hown' hgrow _; obtain ⟨g', cap', rfl⟩ := ownsRow_succ hown'; obtain ⟨hv1, hv2, hr2, hk2, hb2⟩ := hv.appended (by decide) hrow hB.size (Nat.le_refl _) hown' hgrow; have hc1 := hv1.cell; have hf1 := hv1.frozen)
    refine ⟨hk2, ?_, ⟨⟨_, hv2, by rw [rcCells_snoc]; simpa using hr2⟩, hB.trans hb2⟩⟩
    refine ⟨hb2.size, fun g o hg ho => (hb2.block g hg).trans ho, fun g es c hm => hk2.same _ _ hm rfl, fun g cs ty fr hg h1 h2 => ?_⟩
    have hne : g ≠ w.heap.size := by
      rintro rfl
      rw [show W.heap[w.heap.size]? = _ from hv] at hg
      cases hg
      exact h2 rfl
    refine (Below.heap_setCell _ ⟨w.heap.size, 0, none⟩ _ g (by simpa using hne)).trans ?_
    refine (hgrow.block g (by have := (Array.getElem?_eq_some_iff.1 hg).1; simp; omega) ?_).trans (old_alloc hg _)
    intro e
    rcases hrow.2 with ⟨q, _⟩ | ⟨gr, cap2, cur, q, _, hh, _⟩
    · rw [q] at e; cases e
    · rw [q] at e
      cases e
      rw [hh] at hg; cases hg
      exact h1 rfl
  case done =>
    rintro D W hD ⟨⟨v, hv, hrow⟩, hB⟩ hK
    have hc := hv.cell
    gi_wp2
    refine ⟨by simp, .inl ⟨_, _, rfl, run_takeDeferred hK, ?_⟩⟩
    exact ⟨_, results_tmp rfl _ _ _, v, rfl, ownsRow_putObj hrow _ hK rfl, hB.trans (belowK_b (w := w) (Nat.le_refl _) W D _ _ (by simp at hD; omega) hK rfl rfl)⟩
  case stop =>
    rintro D c pre W _ _ _ h _
    exact h.elim
end Go.Proofs.Ytgikoajclkfoiaa
