/- What the laws of this seat stand on, part 25. -/
import Derived.Test.YtglafbajbiengaaGreatPa0
import Derived.Test.YtglafbajbiengaaGreatPa24
set_option linter.unusedVariables false
set_option linter.unusedSimpArgs false
set_option maxRecDepth 100000
set_option maxHeartbeats 40000000
namespace Go.Proofs.YtglafbajbiengaaGreat
open Go.ChangeShapes Go.WideShapes Go.ChangeAt Go.RowKit
theorem take_val {P : Program} {ops : Array Oper} {Q : Exit → Act → World → Prop} {md : Region.Mode} {S : World → Prop} (i d : Nat) (v : Value) {fuel : Nat} {listed : Array Bool} {a : Act} {w : World} (hs : Region.noSelect ops = true) (hf : Region.free md ops listed i = true) (hr : (Region.ready md ops listed).contains i = true)
    (hd : (ops[i]?).map (fun o => (o.dst, Region.wanted o (yielded ops a.tmps))) = some (some d, true)) (hy : ∀ w, (ops[i]?).map (fun o => (execOp a.eval o).run P w) = some (.ok (.value v) w)) (hQ : ∀ c a w, Q (.panic c) (a.put (some d) v) w → Q (.panic c) a w) (hS : S w)
    (h : wpAnyH P md ops Q S fuel (listed.setIfInBounds i true) (a.put (some d) v) w) : wpAnyH P md ops Q S (fuel + 1) listed a w := by
  rcases ho : ops[i]? with _ | oi
  · rw [ho] at hd; cases hd
  · simp only [ho, Option.map_some, Option.some.injEq, Prod.mk.injEq] at hd hy
    obtain ⟨h1, h2⟩ := hd
    refine wpAnyH_take (v := v) ho hs hf hr (by rw [h1]; exact hQ) (.inl ⟨h2, fun w _ => hy w⟩) hS (by rw [h1]; exact h)
theorem take_skip {P : Program} {ops : Array Oper} {Q : Exit → Act → World → Prop} {md : Region.Mode} {S : World → Prop} (i d : Nat) {fuel : Nat} {listed : Array Bool} {a : Act} {w : World} (hs : Region.noSelect ops = true) (hf : Region.free md ops listed i = true) (hr : (Region.ready md ops listed).contains i = true)
    (hd : (ops[i]?).map (fun o => (o.dst, Region.wanted o (yielded ops a.tmps))) = some (some d, false)) (hQ : ∀ c a w, Q (.panic c) (a.put (some d) undef) w → Q (.panic c) a w) (hS : S w)
    (h : wpAnyH P md ops Q S fuel (listed.setIfInBounds i true) (a.put (some d) undef) w) : wpAnyH P md ops Q S (fuel + 1) listed a w := by
  rcases ho : ops[i]? with _ | oi
  · rw [ho] at hd; cases hd
  · simp only [ho, Option.map_some, Option.some.injEq, Prod.mk.injEq] at hd
    obtain ⟨h1, h2⟩ := hd
    refine wpAnyH_take (v := undef) ho hs hf hr (by rw [h1]; exact hQ) (.inr ⟨h2, rfl⟩) hS (by rw [h1]; exact h)
theorem take_at {P : Program} {ops : Array Oper} {Q : Exit → Act → World → Prop} {md : Region.Mode} {S : World → Prop} (i d : Nat) (v : Value) {oi : Oper} {fuel : Nat} {listed : Array Bool} {a : Act} {w : World} (ho : ops[i]? = some oi) (hd : oi.dst = some d) (hs : Region.noSelect ops = true) (hf : Region.free md ops listed i = true) (hr : (Region.ready md ops listed).contains i = true)
    (hw : Region.wanted oi (yielded ops a.tmps) = true) (hy : ∀ w, S w → (execOp a.eval oi).run P w = .ok (.value v) w) (hQ : ∀ c a w, Q (.panic c) (a.put (some d) v) w → Q (.panic c) a w) (hS : S w)
    (h : wpAnyH P md ops Q S fuel (listed.setIfInBounds i true) (a.put (some d) v) w) : wpAnyH P md ops Q S (fuel + 1) listed a w :=
  wpAnyH_take (v := v) ho hs hf hr (by rw [hd]; exact hQ) (.inl ⟨hw, hy⟩) hS (by rw [hd]; exact h)
theorem box6 {u : World} {g : Nat} {v0 v1 v2 v3 v4 v5 : Value} {t : TypeId} {fr : Nat × Nat} (h : u.heap[g]? = some (.cells #[v0, v1, v2, v3, v4, v5] t fr)) : u.cell? ⟨g, 0, none⟩ = some v0 ∧ u.cell? ⟨g, 1, none⟩ = some v1 ∧ u.cell? ⟨g, 2, none⟩ = some v2 ∧ u.cell? ⟨g, 3, none⟩ = some v3 ∧ u.cell? ⟨g, 4, none⟩ = some v4 ∧ u.cell? ⟨g, 5, none⟩ = some v5 :=
  ⟨cell_of_row _ _ 0 _ _ _ h, cell_of_row _ _ 1 _ _ _ h, cell_of_row _ _ 2 _ _ _ h, cell_of_row _ _ 3 _ _ _ h, cell_of_row _ _ 4 _ _ _ h, cell_of_row _ _ 5 _ _ _ h⟩
theorem box7R {u : World} {g : Nat} {v0 v1 v2 v3 v4 v5 v6 : Value} {t : TypeId} {fr : Nat × Nat} (h : u.heap[g]? = some (.cells #[v0, v1, v2, v3, v4, v5, v6] t fr)) : u.cell? ⟨g, 0, none⟩ = some v0 ∧ u.cell? ⟨g, 1, none⟩ = some v1 ∧ u.cell? ⟨g, 2, none⟩ = some v2 ∧ u.cell? ⟨g, 3, none⟩ = some v3 ∧ u.cell? ⟨g, 4, none⟩ = some v4 ∧ u.cell? ⟨g, 5, none⟩ = some v5 ∧ u.cell? ⟨g, 6, none⟩ = some v6 :=
  ⟨cell_of_row _ _ 0 _ _ _ h, cell_of_row _ _ 1 _ _ _ h, cell_of_row _ _ 2 _ _ _ h, cell_of_row _ _ 3 _ _ _ h, cell_of_row _ _ 4 _ _ _ h, cell_of_row _ _ 5 _ _ _ h, cell_of_row _ _ 6 _ _ _ h⟩
theorem and7 {u : World} {g h : Nat} {v0 v1 v2 v3 v4 v5 x : Value} (k : u.cell? ⟨g, 0, none⟩ = some v0 ∧ u.cell? ⟨g, 1, none⟩ = some v1 ∧ u.cell? ⟨g, 2, none⟩ = some v2 ∧ u.cell? ⟨g, 3, none⟩ = some v3 ∧ u.cell? ⟨g, 4, none⟩ = some v4 ∧ u.cell? ⟨g, 5, none⟩ = some v5) (l : u.cell? ⟨h, 3, none⟩ = some x) : u.cell? ⟨g, 0, none⟩ = some v0 ∧ u.cell? ⟨g, 1, none⟩ = some v1 ∧ u.cell? ⟨g, 2, none⟩ = some v2 ∧ u.cell? ⟨g, 3, none⟩ = some v3 ∧ u.cell? ⟨g, 4, none⟩ = some v4 ∧ u.cell? ⟨g, 5, none⟩ = some v5 ∧ u.cell? ⟨h, 3, none⟩ = some x := ⟨k.1, k.2.1, k.2.2.1, k.2.2.2.1, k.2.2.2.2.1, k.2.2.2.2.2, l⟩
theorem and14 {A0 A1 A2 A3 A4 A5 A6 B0 B1 B2 B3 B4 B5 C : Prop} (k : A0 ∧ A1 ∧ A2 ∧ A3 ∧ A4 ∧ A5 ∧ A6) (l : B0 ∧ B1 ∧ B2 ∧ B3 ∧ B4 ∧ B5) (m : C) : A0 ∧ A1 ∧ A2 ∧ A3 ∧ A4 ∧ A5 ∧ A6 ∧ B0 ∧ B1 ∧ B2 ∧ B3 ∧ B4 ∧ B5 ∧ C := ⟨k.1, k.2.1, k.2.2.1, k.2.2.2.1, k.2.2.2.2.1, k.2.2.2.2.2.1, k.2.2.2.2.2.2, l.1, l.2.1, l.2.2.1, l.2.2.2.1, l.2.2.2.2.1, l.2.2.2.2.2, m⟩
theorem rdirect_any (v0 v1 v2 : Value) (ca : Option Addr) (ccap : Nat) (chans : List Int) (v4 v5 v6 : Value) (a : Option Addr) (cap : Nat) (t : List EvD) (i j : Int) (w : World) (hc : ChIn w ca chans) (he : EvsIn w w.heap.size a t) (hl : t.length ≤ 1000000) (hv : (#[v0, v1, v2, .slice ca chans.length ccap, v4, v5, v6] : Array Value).all (·.oneCell') = true) :
    Calls Tryz.prog 41 #[.agg #[v0, v1, v2, .slice ca chans.length ccap, v4, v5, v6], .slice a t.length cap, .int .i64 i, .int .i64 j] w fun e w' => e = .returned (.bool (dirI chans t i j)) ∧ Below w.heap.size w w' := by
  have HC := Lib.hid hc
  have HE := Lib.hid he
  have HVV := Lib.hid hv
  clear hc he
  simp only [List.all_toArray, List.all_cons, List.all_nil, Bool.and_true, Bool.and_eq_true] at hv
  obtain ⟨o0, o1, o2, o3, o4, o5, o6⟩ := hv
  rcases hr : riseB i j t.length with _ | _
  · have HF : Hid (dirI chans t i j = false) := Lib.hid (by unfold dirI; rw [hr]; rfl)
    have hn : ¬ (0 ≤ i ∧ i < j ∧ j < t.length) := by rw [← riseB_iff, hr]; simp
    by_cases q0 : i < 0
    · have q0' : decide (i < 0) = true := decide_eq_true q0
      go_enter Tryz.func41, Tryz.ntmps41
      go_wp2
      go_ret
      exact ⟨by rw [HF.out]; rfl, below_box _ _⟩
    · have q0' : decide (i < 0) = false := decide_eq_false q0
      by_cases q1 : j ≤ i
      · have q1' : decide (j ≤ i) = true := decide_eq_true q1
        go_enter Tryz.func41, Tryz.ntmps41
        go_wp2
        go_ret
        exact ⟨by rw [HF.out]; rfl, below_box _ _⟩
      · have q1' : decide (j ≤ i) = false := decide_eq_false q1
        have q2' : decide ((t.length : Int) ≤ j) = true := decide_eq_true (by omega)
        go_enter Tryz.func41, Tryz.ntmps41
        go_wp2
        go_ret
        exact ⟨by rw [HF.out]; rfl, below_box _ _⟩
  · obtain ⟨r1, r2, r3⟩ := riseB_iff.1 hr
    obtain ⟨i, rfl⟩ : ∃ k : Nat, i = k := ⟨i.toNat, by omega⟩
    obtain ⟨j, rfl⟩ : ∃ k : Nat, j = k := ⟨j.toNat, by omega⟩
    have hij : i < j := by omega
    have hjl : j < t.length := by omega
    have q0' : decide ((i : Int) < 0) = false := decide_eq_false (by omega)
    have q1' : decide ((j : Int) ≤ (i : Int)) = false := decide_eq_false (by omega)
    have q2' : decide ((t.length : Int) ≤ (j : Int)) = false := decide_eq_false (by omega)
    have hil' : (i : Int) < (t.length : Int) := by omega
    obtain ⟨e, hi⟩ := at_lt (l := t) (k := i) (by omega)
    obtain ⟨e', hj⟩ := at_lt hjl
    have HF : Hid (dirI chans t i j = rdB chans t i j e e') := Lib.hid (by unfold dirI; rw [hr, Bool.true_and]; exact dir_rd hi hj hij hl HC.out.wf)
    have HI := Lib.hid hi
    have HJ := Lib.hid hj
    obtain ⟨g, o, rfl, hg, a0, a1, a2, a3, a4, a5⟩ := (HE.out.later (below_box w (.cells #[v0, v1, v2, .slice ca chans.length ccap, v4, v5, v6] 26))) i e hi
    clear hr r1 r2
    obtain ⟨th, pc, op, obj, val, mode⟩ := e
    obtain ⟨th', pc', op', obj', val', mode'⟩ := e'
    simp only at a0 a1 a2 a3 a4 a5
    go_enter Tryz.func41, Tryz.ntmps41
    go_upto_region 4 with (fail)
    generalize hV1 : World.alloc (World.alloc w _) _ = V1
    have HB1 := Lib.hid (show Below w.heap.size w V1 by rw [← hV1]; exact below_two _ _ _)
    have HP1 : Hid (V1.heap[w.heap.size]? = some (.cells #[v0, v1, v2, .slice ca chans.length ccap, v4, v5, v6] 26)) := Lib.hid (by rw [← hV1]; exact old_alloc (heap_alloc_new _ _) _)
    have HA1 : Hid (V1.heap[w.heap.size + 1]? = some (.cells #[.int .i64 th, .int .i64 pc, .int .u8 op, .int .i64 obj, .int .i64 val, .int .i64 mode] 31)) := Lib.hid (by rw [← hV1]; exact heap_alloc2_new _ _ _)
    have HS1 : Hid (V1.heap.size = w.heap.size + 2) := Lib.hid (by rw [← hV1]; simp)
    obtain ⟨g', o', e1, hg', b0, b1, b2, b3, b4, b5⟩ := (HE.out.later HB1.out) j _ hj
    cases e1
    simp only at b0 b1 b2 b3 b4 b5
    clear hV1 a0 a1 a2 a3 a4 a5 hg hg' hi hj
    go_upto_region 5 with (fail)
    generalize hV : World.alloc V1 _ = V
    have HB := Lib.hid (show Below w.heap.size w V by rw [← hV]; exact below_next HB1.out (below_box _ _))
    have HP : Hid (V.heap[w.heap.size]? = some (.cells #[v0, v1, v2, .slice ca chans.length ccap, v4, v5, v6] 26)) := Lib.hid (by rw [← hV]; exact old_alloc HP1.out _)
    have HA : Hid (V.heap[w.heap.size + 1]? = some (.cells #[.int .i64 th, .int .i64 pc, .int .u8 op, .int .i64 obj, .int .i64 val, .int .i64 mode] 31)) := Lib.hid (by rw [← hV]; exact old_alloc HA1.out _)
    rw [HS1.out]
    have HAJ : Hid (V.heap[w.heap.size + 2]? = some (.cells #[.int .i64 th', .int .i64 pc', .int .u8 op', .int .i64 obj', .int .i64 val', .int .i64 mode'] 31)) := Lib.hid (by rw [← hV, ← HS1.out]; exact heap_alloc_new _ _)
    clear hV HB1 HP1 HA1 HS1 b0 b1 b2 b3 b4 b5
    obtain ⟨a0, a1, a2, a3, a4, a5⟩ := box6 HA.out
    obtain ⟨b0, b1, b2, b3, b4, b5⟩ := box6 HAJ.out
    have mixed : Tryz.prog.follows Departure.mixedOrders = true := by kernel_rfl
    go_cut [49] (fun c wx => c = .bool ((th == th') || ((op == 12) && (obj == th'))) ∧ V = wx)
    case first =>
      rcases e1 : (th == th') with _ | _
      · rcases e2 : (op == 12) with _ | _
        · go_wp2
          go_meet
          exact ⟨congrArg Value.bool (by simp [e1, e2]), rfl⟩
        · rcases e3 : (obj == th') with _ | _
          · go_wp2
            go_meet
            exact ⟨congrArg Value.bool (by simp [e1, e2, e3]), rfl⟩
          · go_wp2
            go_meet
            exact ⟨congrArg Value.bool (by simp [e1, e2, e3]), rfl⟩
      · go_wp2
        go_meet
        exact ⟨congrArg Value.bool (by simp [e1]), rfl⟩
    case rest =>
      obtain ⟨rfl, rfl⟩ := hcut
      rcases h5 : ((th == th') || ((op == 12) && (obj == th'))) with _ | _
      · skip
        rw [Bool.or_eq_false_iff] at h5
        obtain ⟨hth', h12'⟩ := h5
        by_cases hob : obj = obj'
        · subst hob
          have hoo : (obj != obj) = false := by simp
          go_upto_region 9 with (fail)
          go_cut [11] (fun c wx => c = .bool (modeS 2 [21, 22] (⟨th', pc', op', obj, val', mode'⟩ : EvD)).2 ∧ V = wx)
          case first =>
            by_cases y21 : op' = 21
            · subst y21
              rcases z2 : (mode' == 2) with _ | _
              · go_wp2
                go_meet
                exact ⟨congrArg Value.bool (by simp only [modeS, z2]; rfl), rfl⟩
              · go_wp2
                go_meet
                exact ⟨congrArg Value.bool (by simp only [modeS, z2]; rfl), rfl⟩
            have y21' : (op' == 21) = false := by simpa using y21
            by_cases y22 : op' = 22
            · subst y22
              rcases z2 : (mode' == 2) with _ | _
              · go_wp2
                go_meet
                exact ⟨congrArg Value.bool (by simp only [modeS, z2]; rfl), rfl⟩
              · go_wp2
                go_meet
                exact ⟨congrArg Value.bool (by simp only [modeS, z2]; rfl), rfl⟩
            have y22' : (op' == 22) = false := by simpa using y22
            go_wp2
            go_meet
            exact ⟨congrArg Value.bool (by simp [modeS, y21', y22', y21, y22]), rfl⟩
          case rest =>
            obtain ⟨rfl, rfl⟩ := hcut
            by_cases h14 : op = 14
            · subst h14
              by_cases k13 : op' = 13
              · subst k13
                have HX : Hid (rdB chans t i j ⟨th, pc, 14, obj, val, mode⟩ ⟨th', pc', 13, obj, val', mode'⟩ = true) := Lib.hid (by simp [rdB, rdO, tkS, modeS, hth', h12'])
                go_wp2
                go_ret
                exact ⟨by rw [HF.out, HX.out]; rfl, HB.out⟩
              have k13' : (op' == 13) = false := by simpa using k13
              by_cases k15 : op' = 15
              · subst k15
                have HX : Hid (rdB chans t i j ⟨th, pc, 14, obj, val, mode⟩ ⟨th', pc', 15, obj, val', mode'⟩ = true) := Lib.hid (by simp [rdB, rdO, tkS, modeS, hth', h12'])
                go_wp2
                go_ret
                exact ⟨by rw [HF.out, HX.out]; rfl, HB.out⟩
              have k15' : (op' == 15) = false := by simpa using k15
              have HX : Hid (rdB chans t i j ⟨th, pc, 14, obj, val, mode⟩ ⟨th', pc', op', obj, val', mode'⟩ = false) := Lib.hid (by simp [rdB, rdO, tkS, modeS, hth', h12', k13', k13, k15', k15])
              go_wp2
              go_ret
              exact ⟨by rw [HF.out, HX.out]; rfl, HB.out⟩
            have h14' : (op == 14) = false := by simpa using h14
            by_cases h16 : op = 16
            · subst h16
              by_cases k13 : op' = 13
              · subst k13
                have HX : Hid (rdB chans t i j ⟨th, pc, 16, obj, val, mode⟩ ⟨th', pc', 13, obj, val', mode'⟩ = true) := Lib.hid (by simp [rdB, rdO, tkS, modeS, hth', h12'])
                go_wp2
                go_ret
                exact ⟨by rw [HF.out, HX.out]; rfl, HB.out⟩
              have k13' : (op' == 13) = false := by simpa using k13
              have HX : Hid (rdB chans t i j ⟨th, pc, 16, obj, val, mode⟩ ⟨th', pc', op', obj, val', mode'⟩ = false) := Lib.hid (by simp [rdB, rdO, tkS, modeS, hth', h12', k13', k13])
              go_wp2
              go_ret
              exact ⟨by rw [HF.out, HX.out]; rfl, HB.out⟩
            have h16' : (op == 16) = false := by simpa using h16
            by_cases h18 : op = 18
            · subst h18
              by_cases k17 : op' = 17
              · subst k17
                have hW := rwrites_any (some ⟨g, o, none⟩) cap t i j _ V (HE.out.later HB.out) HI.out hij hjl hl
                simp only at hW
                rcases hh : decide (cntS (opsS [18, 19]) obj (t.take (i + 1)) < cntS (opsS [18, 19]) obj (t.take j)) with _ | _
                · rw [hh] at hW
                  have HW := Lib.hid hW
                  have HH := Lib.hid hh
                  clear hW hh
                  have HX : Hid (rdB chans t i j ⟨th, pc, 18, obj, val, mode⟩ ⟨th', pc', 17, obj, val', mode'⟩ = true) := Lib.hid (by have hh := HH.out; unfold rdB rdO wrS; rw [hh]; simp [hth', h12'])
                  go_wp2_with (go_at_call 59; refine HW.out.mono ?_; rintro e w1 ⟨rfl, hB1⟩)
                  go_ret
                  exact ⟨by rw [HF.out, HX.out]; rfl, below_next HB.out hB1⟩
                · rw [hh] at hW
                  have HW := Lib.hid hW
                  have HH := Lib.hid hh
                  clear hW hh
                  have HX : Hid (rdB chans t i j ⟨th, pc, 18, obj, val, mode⟩ ⟨th', pc', 17, obj, val', mode'⟩ = false) := Lib.hid (by have hh := HH.out; unfold rdB rdO wrS; rw [hh]; simp [hth', h12'])
                  go_wp2_with (go_at_call 59; refine HW.out.mono ?_; rintro e w1 ⟨rfl, hB1⟩)
                  go_ret
                  exact ⟨by rw [HF.out, HX.out]; rfl, below_next HB.out hB1⟩
              have k17' : (op' == 17) = false := by simpa using k17
              by_cases k19 : op' = 19
              · subst k19
                have hW := rwrites_any (some ⟨g, o, none⟩) cap t i j _ V (HE.out.later HB.out) HI.out hij hjl hl
                simp only at hW
                rcases hh : decide (cntS (opsS [18, 19]) obj (t.take (i + 1)) < cntS (opsS [18, 19]) obj (t.take j)) with _ | _
                · rw [hh] at hW
                  have HW := Lib.hid hW
                  have HH := Lib.hid hh
                  clear hW hh
                  have HX : Hid (rdB chans t i j ⟨th, pc, 18, obj, val, mode⟩ ⟨th', pc', 19, obj, val', mode'⟩ = true) := Lib.hid (by have hh := HH.out; unfold rdB rdO wrS; rw [hh]; simp [hth', h12'])
                  go_wp2_with (go_at_call 59; refine HW.out.mono ?_; rintro e w1 ⟨rfl, hB1⟩)
                  go_ret
                  exact ⟨by rw [HF.out, HX.out]; rfl, below_next HB.out hB1⟩
                · rw [hh] at hW
                  have HW := Lib.hid hW
                  have HH := Lib.hid hh
                  clear hW hh
                  have HX : Hid (rdB chans t i j ⟨th, pc, 18, obj, val, mode⟩ ⟨th', pc', 19, obj, val', mode'⟩ = false) := Lib.hid (by have hh := HH.out; unfold rdB rdO wrS; rw [hh]; simp [hth', h12'])
                  go_wp2_with (go_at_call 59; refine HW.out.mono ?_; rintro e w1 ⟨rfl, hB1⟩)
                  go_ret
                  exact ⟨by rw [HF.out, HX.out]; rfl, below_next HB.out hB1⟩
              have k19' : (op' == 19) = false := by simpa using k19
              have HX : Hid (rdB chans t i j ⟨th, pc, 18, obj, val, mode⟩ ⟨th', pc', op', obj, val', mode'⟩ = false) := Lib.hid (by simp [rdB, rdO, tkS, modeS, hth', h12', k17', k17, k19', k19])
              go_wp2
              go_ret
              exact ⟨by rw [HF.out, HX.out]; rfl, HB.out⟩
            have h18' : (op == 18) = false := by simpa using h18
            by_cases h19 : op = 19
            · subst h19
              by_cases k17 : op' = 17
              · subst k17
                have hW := rwrites_any (some ⟨g, o, none⟩) cap t i j _ V (HE.out.later HB.out) HI.out hij hjl hl
                simp only at hW
                rcases hh : decide (cntS (opsS [18, 19]) obj (t.take (i + 1)) < cntS (opsS [18, 19]) obj (t.take j)) with _ | _
                · rw [hh] at hW
                  have HW := Lib.hid hW
                  have HH := Lib.hid hh
                  clear hW hh
                  have HX : Hid (rdB chans t i j ⟨th, pc, 19, obj, val, mode⟩ ⟨th', pc', 17, obj, val', mode'⟩ = true) := Lib.hid (by have hh := HH.out; unfold rdB rdO wrS; rw [hh]; simp [hth', h12'])
                  go_wp2_with (go_at_call 59; refine HW.out.mono ?_; rintro e w1 ⟨rfl, hB1⟩)
                  go_ret
                  exact ⟨by rw [HF.out, HX.out]; rfl, below_next HB.out hB1⟩
                · rw [hh] at hW
                  have HW := Lib.hid hW
                  have HH := Lib.hid hh
                  clear hW hh
                  have HX : Hid (rdB chans t i j ⟨th, pc, 19, obj, val, mode⟩ ⟨th', pc', 17, obj, val', mode'⟩ = false) := Lib.hid (by have hh := HH.out; unfold rdB rdO wrS; rw [hh]; simp [hth', h12'])
                  go_wp2_with (go_at_call 59; refine HW.out.mono ?_; rintro e w1 ⟨rfl, hB1⟩)
                  go_ret
                  exact ⟨by rw [HF.out, HX.out]; rfl, below_next HB.out hB1⟩
              have k17' : (op' == 17) = false := by simpa using k17
              by_cases k19 : op' = 19
              · subst k19
                have hW := rwrites_any (some ⟨g, o, none⟩) cap t i j _ V (HE.out.later HB.out) HI.out hij hjl hl
                simp only at hW
                rcases hh : decide (cntS (opsS [18, 19]) obj (t.take (i + 1)) < cntS (opsS [18, 19]) obj (t.take j)) with _ | _
                · rw [hh] at hW
                  have HW := Lib.hid hW
                  have HH := Lib.hid hh
                  clear hW hh
                  have HX : Hid (rdB chans t i j ⟨th, pc, 19, obj, val, mode⟩ ⟨th', pc', 19, obj, val', mode'⟩ = true) := Lib.hid (by have hh := HH.out; unfold rdB rdO wrS; rw [hh]; simp [hth', h12'])
                  go_wp2_with (go_at_call 59; refine HW.out.mono ?_; rintro e w1 ⟨rfl, hB1⟩)
                  go_ret
                  exact ⟨by rw [HF.out, HX.out]; rfl, below_next HB.out hB1⟩
                · rw [hh] at hW
                  have HW := Lib.hid hW
                  have HH := Lib.hid hh
                  clear hW hh
                  have HX : Hid (rdB chans t i j ⟨th, pc, 19, obj, val, mode⟩ ⟨th', pc', 19, obj, val', mode'⟩ = false) := Lib.hid (by have hh := HH.out; unfold rdB rdO wrS; rw [hh]; simp [hth', h12'])
                  go_wp2_with (go_at_call 59; refine HW.out.mono ?_; rintro e w1 ⟨rfl, hB1⟩)
                  go_ret
                  exact ⟨by rw [HF.out, HX.out]; rfl, below_next HB.out hB1⟩
              have k19' : (op' == 19) = false := by simpa using k19
              have HX : Hid (rdB chans t i j ⟨th, pc, 19, obj, val, mode⟩ ⟨th', pc', op', obj, val', mode'⟩ = false) := Lib.hid (by simp [rdB, rdO, tkS, modeS, hth', h12', k17', k17, k19', k19])
              go_wp2
              go_ret
              exact ⟨by rw [HF.out, HX.out]; rfl, HB.out⟩
            have h19' : (op == 19) = false := by simpa using h19
            by_cases h20 : op = 20
            · subst h20
              have hT := fun W => rtaking_any ⟨th', pc', op', obj, val', mode'⟩ W
              have HL := Lib.hid (Below.refl V.heap.size V)
              rcases htk : (modeS 1 [21, 22] (⟨th', pc', op', obj, val', mode'⟩ : EvD)).2 with _ | _
              · simp only [htk] at hT
                have HT := Lib.hid hT
                have HX : Hid (rdB chans t i j ⟨th, pc, 20, obj, val, mode⟩ ⟨th', pc', op', obj, val', mode'⟩ = false) := Lib.hid (by simp only [rdB, rdO, tkS, htk]; simp [hth', h12'])
                clear hT htk
                go_upto_region 19 with (fail)
                have KX := (fun (u : World) (hB : Below V.heap.size V u) => and7 (box6 (old_later HAJ.out hB)) ((box6 (old_later HA.out hB)).2.2.2.1)) _ HL.out.drew
                refine wp_region_held_drew (S := (fun u => u.cell? ⟨w.heap.size + 2, 0, none⟩ = some (.int .i64 th') ∧ u.cell? ⟨w.heap.size + 2, 1, none⟩ = some (.int .i64 pc') ∧ u.cell? ⟨w.heap.size + 2, 2, none⟩ = some (.int .u8 op') ∧ u.cell? ⟨w.heap.size + 2, 3, none⟩ = some (.int .i64 obj) ∧ u.cell? ⟨w.heap.size + 2, 4, none⟩ = some (.int .i64 val') ∧ u.cell? ⟨w.heap.size + 2, 5, none⟩ = some (.int .i64 mode') ∧ u.cell? ⟨w.heap.size + 1, 3, none⟩ = some (.int .i64 obj))) mixed KX (fun hHeld => ?_)
                refine wpAnyH_take (i := 0) (oi := _) (v := ?_) rfl (by kernel_rfl) (by kernel_rfl) (by kernel_rfl) (fun _ _ _ h => h) (Or.inl ⟨by rfl, ?_⟩) (by assumption) ?_
                rotate_left
                · intro w hSw; (try dsimp only at hSw); go_simp; try (with_reducible rfl)
                (try simp only [Act.put, zz3, zz4, zz5])
                refine wpAnyH_ready (rs := [1]) (by kernel_rfl) (by simp) ?_
                refine AllReadyH.cons (o := _) rfl (fun K hK => ?_) AllReadyH.nil
                go_simp
                go_at_call 60; refine (HT.out _).mono ?_; rintro e w5 ⟨rfl, hB⟩; have HL := Lib.hid (below_next HL.out.drew hB); have KX := (fun (u : World) (hB : Below V.heap.size V u) => and7 (box6 (old_later HAJ.out hB)) ((box6 (old_later HA.out hB)).2.2.2.1)) _ HL.out; clear hB
                try go_simp
                refine hK.out _ _ KX (fun hHeld => ?_)
                clear hK K
                (try simp only [Act.put, zz3, zz4, zz5])
                refine take_val 2 107 (.bool false) (by kernel_rfl) (by kernel_rfl) (by kernel_rfl) (by kernel_rfl) (fun w => by kernel_rfl) (fun _ _ _ h => h) (by assumption) ?_
                (try simp only [Act.put, zz3, zz4, zz5])
                refine take_skip 3 108 (by kernel_rfl) (by kernel_rfl) (by kernel_rfl) (by kernel_rfl) (fun _ _ _ h => h) (by assumption) ?_
                (try simp only [Act.put, zz3, zz4, zz5])
                refine take_skip 4 109 (by kernel_rfl) (by kernel_rfl) (by kernel_rfl) (by kernel_rfl) (fun _ _ _ h => h) (by assumption) ?_
                (try simp only [Act.put, zz3, zz4, zz5])
                refine take_skip 5 110 (by kernel_rfl) (by kernel_rfl) (by kernel_rfl) (by kernel_rfl) (fun _ _ _ h => h) (by assumption) ?_
                (try simp only [Act.put, zz3, zz4, zz5])
                refine take_skip 6 111 (by kernel_rfl) (by kernel_rfl) (by kernel_rfl) (by kernel_rfl) (fun _ _ _ h => h) (by assumption) ?_
                (try simp only [Act.put, zz3, zz4, zz5])
                refine take_skip 7 112 (by kernel_rfl) (by kernel_rfl) (by kernel_rfl) (by kernel_rfl) (fun _ _ _ h => h) (by assumption) ?_
                (try simp only [Act.put, zz3, zz4, zz5])
                refine take_skip 8 113 (by kernel_rfl) (by kernel_rfl) (by kernel_rfl) (by kernel_rfl) (fun _ _ _ h => h) (by assumption) ?_
                (try simp only [Act.put, zz3, zz4, zz5])
                refine take_skip 9 114 (by kernel_rfl) (by kernel_rfl) (by kernel_rfl) (by kernel_rfl) (fun _ _ _ h => h) (by assumption) ?_
                (try simp only [Act.put, zz3, zz4, zz5])
                refine take_skip 10 115 (by kernel_rfl) (by kernel_rfl) (by kernel_rfl) (by kernel_rfl) (fun _ _ _ h => h) (by assumption) ?_
                (try simp only [Act.put, zz3, zz4, zz5])
                refine take_skip 11 116 (by kernel_rfl) (by kernel_rfl) (by kernel_rfl) (by kernel_rfl) (fun _ _ _ h => h) (by assumption) ?_
                (try simp only [Act.put, zz3, zz4, zz5])
                refine take_skip 12 117 (by kernel_rfl) (by kernel_rfl) (by kernel_rfl) (by kernel_rfl) (fun _ _ _ h => h) (by assumption) ?_
                (try simp only [Act.put, zz3, zz4, zz5])
                refine take_skip 13 118 (by kernel_rfl) (by kernel_rfl) (by kernel_rfl) (by kernel_rfl) (fun _ _ _ h => h) (by assumption) ?_
                (try simp only [Act.put, zz3, zz4, zz5])
                refine take_val 14 119 (.bool false) (by kernel_rfl) (by kernel_rfl) (by kernel_rfl) (by kernel_rfl) (fun w => by kernel_rfl) (fun _ _ _ h => h) (by assumption) ?_
                (try simp only [Act.put, zz3, zz4, zz5])
                refine take_val 15 8 (.bool false) (by kernel_rfl) (by kernel_rfl) (by kernel_rfl) (by kernel_rfl) (fun w => by kernel_rfl) (fun _ _ _ h => h) (by assumption) ?_
                (try simp only [Act.put, zz3, zz4, zz5])
                refine wpAnyH_done (by kernel_rfl) ?_ _
                go_wp2
                go_ret
                exact ⟨by rw [HF.out, HX.out]; kernel_rfl, below_next HB.out HL.out⟩
              · simp only [htk] at hT
                have HT := Lib.hid hT
                have HS := Lib.hid (fun W (hB : Below V.heap.size V W) => rsends_any (some ⟨g, o, none⟩) cap t obj i W (HE.out.later (below_next HB.out hB)) (by omega) hl)
                have HK := Lib.hid (fun W (hB : Below V.heap.size V W) => rtakings_any (some ⟨g, o, none⟩) cap t obj j W (HE.out.later (below_next HB.out hB)) (by omega) hl)
                have HX : Hid (rdB chans t i j ⟨th, pc, 20, obj, val, mode⟩ ⟨th', pc', op', obj, val', mode'⟩ = ((cntS sdS obj (t.take i) : Int) == (cntS tkS obj (t.take j) : Int))) := Lib.hid (by simp only [rdB, rdO, tkS, htk]; simp [hth', h12'])
                unfold sdS tkS at HX
                generalize cntS (opsS [20]) obj (t.take i) = nS at *
                generalize cntS (modeS 1 [21, 22]) obj (t.take j) = nT at *
                clear hT htk
                go_upto_region 19 with (fail)
                have KX := (fun (u : World) (hB : Below V.heap.size V u) => and7 (box6 (old_later HAJ.out hB)) ((box6 (old_later HA.out hB)).2.2.2.1)) _ HL.out.drew
                go_region_held3 (fun u => u.cell? ⟨w.heap.size + 2, 0, none⟩ = some (.int .i64 th') ∧ u.cell? ⟨w.heap.size + 2, 1, none⟩ = some (.int .i64 pc') ∧ u.cell? ⟨w.heap.size + 2, 2, none⟩ = some (.int .u8 op') ∧ u.cell? ⟨w.heap.size + 2, 3, none⟩ = some (.int .i64 obj) ∧ u.cell? ⟨w.heap.size + 2, 4, none⟩ = some (.int .i64 val') ∧ u.cell? ⟨w.heap.size + 2, 5, none⟩ = some (.int .i64 mode') ∧ u.cell? ⟨w.heap.size + 1, 3, none⟩ = some (.int .i64 obj)) (first | with_reducible exact KX | fail)
                  (first
                    | (have _g := HB2; go_at_call 62; refine (HK.out _ HL.out).mono ?_; rintro e w6 ⟨rfl, hB⟩; have HL := Lib.hid (below_next HL.out hB); have KX := (fun (u : World) (hB : Below V.heap.size V u) => and7 (box6 (old_later HAJ.out hB)) ((box6 (old_later HA.out hB)).2.2.2.1)) _ HL.out; clear hB)
                    | (have _g := HB2; go_at_call 61; refine (HS.out _ HL.out).mono ?_; rintro e w6 ⟨rfl, rfl⟩)
                    | (go_at_call 60; refine (HT.out _).mono ?_; rintro e w5 ⟨rfl, hB⟩; have HB2 := Lib.hid hB; have HL := Lib.hid (below_next HL.out.drew hB); have KX := (fun (u : World) (hB : Below V.heap.size V u) => and7 (box6 (old_later HAJ.out hB)) ((box6 (old_later HA.out hB)).2.2.2.1)) _ HL.out; clear hB))
                go_wp2
                go_ret
                exact ⟨by rw [HF.out, HX.out]; rfl, below_next HB.out HL.out⟩
            have h20' : (op == 20) = false := by simpa using h20
            by_cases h23 : op = 23
            · subst h23
              have HX : Hid (rdB chans t i j ⟨th, pc, 23, obj, val, mode⟩ ⟨th', pc', op', obj, val', mode'⟩ = (modeS 2 [21, 22] (⟨th', pc', op', obj, val', mode'⟩ : EvD)).2) := Lib.hid (by simp only [rdB, rdO]; simp [hth', h12'])
              go_wp2
              go_ret
              exact ⟨by rw [HF.out, HX.out]; rfl, HB.out⟩
            have h23' : (op == 23) = false := by simpa using h23
            by_cases h24 : op = 24
            · subst h24
              rcases hv0 : decide (val < 0) with _ | _
              · have hv1 : (0 : Int) ≤ val := by have := of_decide_eq_false hv0; omega
                have HX : Hid (rdB chans t i j ⟨th, pc, 24, obj, val, mode⟩ ⟨th', pc', op', obj, val', mode'⟩ = false) := Lib.hid (by simp [rdB, rdO, tkS, modeS, hth', h12', hv0, hv1])
                go_wp2
                go_ret
                exact ⟨by rw [HF.out, HX.out]; rfl, HB.out⟩
              · have hv1 : val < 0 := of_decide_eq_true hv0
                by_cases k25 : op' = 25
                · subst k25
                  have HX : Hid (rdB chans t i j ⟨th, pc, 24, obj, val, mode⟩ ⟨th', pc', 25, obj, val', mode'⟩ = true) := Lib.hid (by simp [rdB, rdO, tkS, modeS, hth', h12', hv1])
                  go_wp2
                  go_ret
                  exact ⟨by rw [HF.out, HX.out]; rfl, HB.out⟩
                have k25' : (op' == 25) = false := by simpa using k25
                have HX : Hid (rdB chans t i j ⟨th, pc, 24, obj, val, mode⟩ ⟨th', pc', op', obj, val', mode'⟩ = false) := Lib.hid (by simp [rdB, rdO, tkS, modeS, hth', h12', k25', k25, hv1])
                go_wp2
                go_ret
                exact ⟨by rw [HF.out, HX.out]; rfl, HB.out⟩
            have h24' : (op == 24) = false := by simpa using h24
            by_cases h27 : op = 27
            · subst h27
              by_cases k26 : op' = 26
              · subst k26
                rcases hm0 : (mode' == 0) with _ | _
                · skip
                  have HX : Hid (rdB chans t i j ⟨th, pc, 27, obj, val, mode⟩ ⟨th', pc', 26, obj, val', mode'⟩ = false) := Lib.hid (by simp [rdB, rdO, tkS, modeS, hth', h12', hm0, (show (mode' = 0) = False by simpa using hm0)])
                  go_wp2
                  go_ret
                  exact ⟨by rw [HF.out, HX.out]; rfl, HB.out⟩
                · skip
                  have HX : Hid (rdB chans t i j ⟨th, pc, 27, obj, val, mode⟩ ⟨th', pc', 26, obj, val', mode'⟩ = true) := Lib.hid (by simp [rdB, rdO, tkS, modeS, hth', h12', hm0, (show (mode' = 0) = True by simpa using hm0)])
                  go_wp2
                  go_ret
                  exact ⟨by rw [HF.out, HX.out]; rfl, HB.out⟩
              have k26' : (op' == 26) = false := by simpa using k26
              have HX : Hid (rdB chans t i j ⟨th, pc, 27, obj, val, mode⟩ ⟨th', pc', op', obj, val', mode'⟩ = false) := Lib.hid (by simp [rdB, rdO, tkS, modeS, hth', h12', k26', k26])
              go_wp2
              go_ret
              exact ⟨by rw [HF.out, HX.out]; rfl, HB.out⟩
            have h27' : (op == 27) = false := by simpa using h27
            have hT := fun W => rtaking_any ⟨th, pc, op, obj, val, mode⟩ W
            have HL := Lib.hid (Below.refl V.heap.size V)
            rcases htk : (modeS 1 [21, 22] (⟨th, pc, op, obj, val, mode⟩ : EvD)).2 with _ | _
            · simp only [htk] at hT
              have HT := Lib.hid hT
              clear hT
              have HX : Hid (rdB chans t i j ⟨th, pc, op, obj, val, mode⟩ ⟨th', pc', op', obj, val', mode'⟩ = false) := Lib.hid (by simp only [rdB, rdO, tkS, htk]; simp [hth', h12', h14', h16', h18', h19', h20', h23', h24', h27', h14, h16, h18, h19, h20, h23, h24, h27])
              clear htk
              go_upto_region 26 with (fail)
              have KX := (fun (u : World) (hB : Below V.heap.size V u) => and14 (box7R (old_later HP.out hB)) (box6 (old_later HA.out hB)) ((box6 (old_later HAJ.out hB)).2.2.1)) _ HL.out.drew
              refine wp_region_held_drew (S := (fun u => u.cell? ⟨w.heap.size, 0, none⟩ = some (v0) ∧ u.cell? ⟨w.heap.size, 1, none⟩ = some (v1) ∧ u.cell? ⟨w.heap.size, 2, none⟩ = some (v2) ∧ u.cell? ⟨w.heap.size, 3, none⟩ = some (.slice ca chans.length ccap) ∧ u.cell? ⟨w.heap.size, 4, none⟩ = some (v4) ∧ u.cell? ⟨w.heap.size, 5, none⟩ = some (v5) ∧ u.cell? ⟨w.heap.size, 6, none⟩ = some (v6) ∧ u.cell? ⟨w.heap.size + 1, 0, none⟩ = some (.int .i64 th) ∧ u.cell? ⟨w.heap.size + 1, 1, none⟩ = some (.int .i64 pc) ∧ u.cell? ⟨w.heap.size + 1, 2, none⟩ = some (.int .u8 op) ∧ u.cell? ⟨w.heap.size + 1, 3, none⟩ = some (.int .i64 obj) ∧ u.cell? ⟨w.heap.size + 1, 4, none⟩ = some (.int .i64 val) ∧ u.cell? ⟨w.heap.size + 1, 5, none⟩ = some (.int .i64 mode) ∧ u.cell? ⟨w.heap.size + 2, 2, none⟩ = some (.int .u8 op'))) mixed KX (fun hHeld => ?_)
              refine wpAnyH_take (i := 0) (oi := _) (v := ?_) rfl (by kernel_rfl) (by kernel_rfl) (by kernel_rfl) (fun _ _ _ h => h) (Or.inl ⟨by rfl, ?_⟩) (by assumption) ?_
              rotate_left
              · intro w hSw; (try dsimp only at hSw); go_simp; try (with_reducible rfl)
              (try simp only [Act.put, zz3, zz4, zz5])
              refine wpAnyH_ready (rs := [1]) (by kernel_rfl) (by simp) ?_
              refine AllReadyH.cons (o := _) rfl (fun K hK => ?_) AllReadyH.nil
              go_simp
              go_at_call 60; refine (HT.out _).mono ?_; rintro e w5 ⟨rfl, hB⟩; have HL := Lib.hid (below_next HL.out.drew hB); have KX := (fun (u : World) (hB : Below V.heap.size V u) => and14 (box7R (old_later HP.out hB)) (box6 (old_later HA.out hB)) ((box6 (old_later HAJ.out hB)).2.2.1)) _ HL.out; clear hB
              try go_simp
              refine hK.out _ _ KX (fun hHeld => ?_)
              clear hK K
              (try simp only [Act.put, zz3, zz4, zz5])
              refine take_val 2 145 (.bool false) (by kernel_rfl) (by kernel_rfl) (by kernel_rfl) (by kernel_rfl) (fun w => by kernel_rfl) (fun _ _ _ h => h) (by assumption) ?_
              (try simp only [Act.put, zz3, zz4, zz5])
              refine take_skip 3 146 (by kernel_rfl) (by kernel_rfl) (by kernel_rfl) (by kernel_rfl) (fun _ _ _ h => h) (by assumption) ?_
              (try simp only [Act.put, zz3, zz4, zz5])
              refine take_skip 4 147 (by kernel_rfl) (by kernel_rfl) (by kernel_rfl) (by kernel_rfl) (fun _ _ _ h => h) (by assumption) ?_
              (try simp only [Act.put, zz3, zz4, zz5])
              refine take_skip 5 148 (by kernel_rfl) (by kernel_rfl) (by kernel_rfl) (by kernel_rfl) (fun _ _ _ h => h) (by assumption) ?_
              (try simp only [Act.put, zz3, zz4, zz5])
              refine take_val 6 149 (.bool false) (by kernel_rfl) (by kernel_rfl) (by kernel_rfl) (by kernel_rfl) (fun w => by kernel_rfl) (fun _ _ _ h => h) (by assumption) ?_
              (try simp only [Act.put, zz3, zz4, zz5])
              refine take_val 7 150 (.bool false) (by kernel_rfl) (by kernel_rfl) (by kernel_rfl) (by kernel_rfl) (fun w => by kernel_rfl) (fun _ _ _ h => h) (by assumption) ?_
              (try simp only [Act.put, zz3, zz4, zz5])
              refine take_skip 8 151 (by kernel_rfl) (by kernel_rfl) (by kernel_rfl) (by kernel_rfl) (fun _ _ _ h => h) (by assumption) ?_
              (try simp only [Act.put, zz3, zz4, zz5])
              refine take_skip 9 152 (by kernel_rfl) (by kernel_rfl) (by kernel_rfl) (by kernel_rfl) (fun _ _ _ h => h) (by assumption) ?_
              (try simp only [Act.put, zz3, zz4, zz5])
              refine take_skip 10 153 (by kernel_rfl) (by kernel_rfl) (by kernel_rfl) (by kernel_rfl) (fun _ _ _ h => h) (by assumption) ?_
              (try simp only [Act.put, zz3, zz4, zz5])
              refine take_skip 11 154 (by kernel_rfl) (by kernel_rfl) (by kernel_rfl) (by kernel_rfl) (fun _ _ _ h => h) (by assumption) ?_
              (try simp only [Act.put, zz3, zz4, zz5])
              refine take_skip 12 155 (by kernel_rfl) (by kernel_rfl) (by kernel_rfl) (by kernel_rfl) (fun _ _ _ h => h) (by assumption) ?_
              (try simp only [Act.put, zz3, zz4, zz5])
              refine take_skip 13 156 (by kernel_rfl) (by kernel_rfl) (by kernel_rfl) (by kernel_rfl) (fun _ _ _ h => h) (by assumption) ?_
              (try simp only [Act.put, zz3, zz4, zz5])
              refine take_skip 14 157 (by kernel_rfl) (by kernel_rfl) (by kernel_rfl) (by kernel_rfl) (fun _ _ _ h => h) (by assumption) ?_
              (try simp only [Act.put, zz3, zz4, zz5])
              refine take_skip 15 158 (by kernel_rfl) (by kernel_rfl) (by kernel_rfl) (by kernel_rfl) (fun _ _ _ h => h) (by assumption) ?_
              (try simp only [Act.put, zz3, zz4, zz5])
              refine take_skip 16 159 (by kernel_rfl) (by kernel_rfl) (by kernel_rfl) (by kernel_rfl) (fun _ _ _ h => h) (by assumption) ?_
              (try simp only [Act.put, zz3, zz4, zz5])
              refine take_skip 17 160 (by kernel_rfl) (by kernel_rfl) (by kernel_rfl) (by kernel_rfl) (fun _ _ _ h => h) (by assumption) ?_
              (try simp only [Act.put, zz3, zz4, zz5])
              refine take_skip 18 161 (by kernel_rfl) (by kernel_rfl) (by kernel_rfl) (by kernel_rfl) (fun _ _ _ h => h) (by assumption) ?_
              (try simp only [Act.put, zz3, zz4, zz5])
              refine take_skip 19 162 (by kernel_rfl) (by kernel_rfl) (by kernel_rfl) (by kernel_rfl) (fun _ _ _ h => h) (by assumption) ?_
              (try simp only [Act.put, zz3, zz4, zz5])
              refine take_skip 20 163 (by kernel_rfl) (by kernel_rfl) (by kernel_rfl) (by kernel_rfl) (fun _ _ _ h => h) (by assumption) ?_
              (try simp only [Act.put, zz3, zz4, zz5])
              refine take_skip 21 164 (by kernel_rfl) (by kernel_rfl) (by kernel_rfl) (by kernel_rfl) (fun _ _ _ h => h) (by assumption) ?_
              (try simp only [Act.put, zz3, zz4, zz5])
              refine take_skip 22 165 (by kernel_rfl) (by kernel_rfl) (by kernel_rfl) (by kernel_rfl) (fun _ _ _ h => h) (by assumption) ?_
              (try simp only [Act.put, zz3, zz4, zz5])
              refine take_skip 23 166 (by kernel_rfl) (by kernel_rfl) (by kernel_rfl) (by kernel_rfl) (fun _ _ _ h => h) (by assumption) ?_
              (try simp only [Act.put, zz3, zz4, zz5])
              refine take_val 24 167 (.bool false) (by kernel_rfl) (by kernel_rfl) (by kernel_rfl) (by kernel_rfl) (fun w => by kernel_rfl) (fun _ _ _ h => h) (by assumption) ?_
              (try simp only [Act.put, zz3, zz4, zz5])
              refine take_val 25 8 (.bool false) (by kernel_rfl) (by kernel_rfl) (by kernel_rfl) (by kernel_rfl) (fun w => by kernel_rfl) (fun _ _ _ h => h) (by assumption) ?_
              (try simp only [Act.put, zz3, zz4, zz5])
              refine wpAnyH_done (by kernel_rfl) ?_ _
              go_wp2
              go_ret
              exact ⟨by rw [HF.out, HX.out]; kernel_rfl, below_next HB.out HL.out⟩
            · simp only [htk] at hT
              have HT := Lib.hid hT
              clear hT
              by_cases k20 : op' = 20
              · subst k20
                have HS := Lib.hid (fun W (hB : Below V.heap.size V W) => rsends_any (some ⟨g, o, none⟩) cap t obj j W (HE.out.later (below_next HB.out hB)) (by omega) hl)
                have HK := Lib.hid (fun W (hB : Below V.heap.size V W) => rtakings_any (some ⟨g, o, none⟩) cap t obj i W (HE.out.later (below_next HB.out hB)) (by omega) hl)
                have HR := Lib.hid (fun W (hB : Below V.heap.size V W) => rroom_any v0 v1 v2 ca ccap chans v4 v5 v6 obj W (HC.out.later (below_next HB.out hB)) HVV.out)
                have HX : Hid (rdB chans t i j ⟨th, pc, op, obj, val, mode⟩ ⟨th', pc', 20, obj, val', mode'⟩ = (IntKind.i64.wrap ((cntS tkS obj (t.take i) : Int) + roomL chans obj) == (cntS sdS obj (t.take j) : Int))) := Lib.hid (by simp only [rdB, rdO, tkS, htk]; simp [hth', h12', h14', h16', h18', h19', h20', h23', h24', h27', h14, h16, h18, h19, h20, h23, h24, h27])
                unfold sdS tkS at HX
                clear htk
                generalize cntS (opsS [20]) obj (t.take j) = nS at *
                generalize cntS (modeS 1 [21, 22]) obj (t.take i) = nT at *
                generalize roomL chans obj = rO at *
                go_upto_region 26 with (fail)
                have KX := (fun (u : World) (hB : Below V.heap.size V u) => and14 (box7R (old_later HP.out hB)) (box6 (old_later HA.out hB)) ((box6 (old_later HAJ.out hB)).2.2.1)) _ HL.out.drew
                go_region_held3 (fun u => u.cell? ⟨w.heap.size, 0, none⟩ = some (v0) ∧ u.cell? ⟨w.heap.size, 1, none⟩ = some (v1) ∧ u.cell? ⟨w.heap.size, 2, none⟩ = some (v2) ∧ u.cell? ⟨w.heap.size, 3, none⟩ = some (.slice ca chans.length ccap) ∧ u.cell? ⟨w.heap.size, 4, none⟩ = some (v4) ∧ u.cell? ⟨w.heap.size, 5, none⟩ = some (v5) ∧ u.cell? ⟨w.heap.size, 6, none⟩ = some (v6) ∧ u.cell? ⟨w.heap.size + 1, 0, none⟩ = some (.int .i64 th) ∧ u.cell? ⟨w.heap.size + 1, 1, none⟩ = some (.int .i64 pc) ∧ u.cell? ⟨w.heap.size + 1, 2, none⟩ = some (.int .u8 op) ∧ u.cell? ⟨w.heap.size + 1, 3, none⟩ = some (.int .i64 obj) ∧ u.cell? ⟨w.heap.size + 1, 4, none⟩ = some (.int .i64 val) ∧ u.cell? ⟨w.heap.size + 1, 5, none⟩ = some (.int .i64 mode) ∧ u.cell? ⟨w.heap.size + 2, 2, none⟩ = some (.int .u8 20)) (first | with_reducible exact KX | fail)
                  (first
                    | (have _g := HB2; go_at_call 62; refine (HK.out _ HL.out).mono ?_; rintro e w6 ⟨rfl, hB⟩; have HL := Lib.hid (below_next HL.out hB); have KX := (fun (u : World) (hB : Below V.heap.size V u) => and14 (box7R (old_later HP.out hB)) (box6 (old_later HA.out hB)) ((box6 (old_later HAJ.out hB)).2.2.1)) _ HL.out; clear hB)
                    | (have _g := HB2; go_at_call 63; refine (HR.out _ HL.out).mono ?_; rintro e w6 ⟨rfl, hB⟩; have HL := Lib.hid (below_next HL.out hB); have KX := (fun (u : World) (hB : Below V.heap.size V u) => and14 (box7R (old_later HP.out hB)) (box6 (old_later HA.out hB)) ((box6 (old_later HAJ.out hB)).2.2.1)) _ HL.out; clear hB)
                    | (have _g := HB2; go_at_call 61; refine (HS.out _ HL.out).mono ?_; rintro e w6 ⟨rfl, rfl⟩)
                    | (go_at_call 60; refine (HT.out _).mono ?_; rintro e w5 ⟨rfl, hB⟩; have HB2 := Lib.hid hB; have HL := Lib.hid (below_next HL.out.drew hB); have KX := (fun (u : World) (hB : Below V.heap.size V u) => and14 (box7R (old_later HP.out hB)) (box6 (old_later HA.out hB)) ((box6 (old_later HAJ.out hB)).2.2.1)) _ HL.out; clear hB))
                go_wp2
                go_ret
                exact ⟨by rw [HF.out, HX.out]; rfl, below_next HB.out HL.out⟩
              have k20' : (op' == 20) = false := by simpa using k20
              have HX : Hid (rdB chans t i j ⟨th, pc, op, obj, val, mode⟩ ⟨th', pc', op', obj, val', mode'⟩ = false) := Lib.hid (by simp only [rdB, rdO, tkS, htk]; simp [hth', h12', h14', h16', h18', h19', h20', h23', h24', h27', h14, h16, h18, h19, h20, h23, h24, h27, k20', k20])
              clear htk
              go_upto_region 26 with (fail)
              have KX := (fun (u : World) (hB : Below V.heap.size V u) => and14 (box7R (old_later HP.out hB)) (box6 (old_later HA.out hB)) ((box6 (old_later HAJ.out hB)).2.2.1)) _ HL.out.drew
              refine wp_region_held_drew (S := (fun u => u.cell? ⟨w.heap.size, 0, none⟩ = some (v0) ∧ u.cell? ⟨w.heap.size, 1, none⟩ = some (v1) ∧ u.cell? ⟨w.heap.size, 2, none⟩ = some (v2) ∧ u.cell? ⟨w.heap.size, 3, none⟩ = some (.slice ca chans.length ccap) ∧ u.cell? ⟨w.heap.size, 4, none⟩ = some (v4) ∧ u.cell? ⟨w.heap.size, 5, none⟩ = some (v5) ∧ u.cell? ⟨w.heap.size, 6, none⟩ = some (v6) ∧ u.cell? ⟨w.heap.size + 1, 0, none⟩ = some (.int .i64 th) ∧ u.cell? ⟨w.heap.size + 1, 1, none⟩ = some (.int .i64 pc) ∧ u.cell? ⟨w.heap.size + 1, 2, none⟩ = some (.int .u8 op) ∧ u.cell? ⟨w.heap.size + 1, 3, none⟩ = some (.int .i64 obj) ∧ u.cell? ⟨w.heap.size + 1, 4, none⟩ = some (.int .i64 val) ∧ u.cell? ⟨w.heap.size + 1, 5, none⟩ = some (.int .i64 mode) ∧ u.cell? ⟨w.heap.size + 2, 2, none⟩ = some (.int .u8 op'))) mixed KX (fun hHeld => ?_)
              refine wpAnyH_take (i := 0) (oi := _) (v := ?_) rfl (by kernel_rfl) (by kernel_rfl) (by kernel_rfl) (fun _ _ _ h => h) (Or.inl ⟨by rfl, ?_⟩) (by assumption) ?_
              rotate_left
              · intro w hSw; (try dsimp only at hSw); go_simp; try (with_reducible rfl)
              (try simp only [Act.put, zz3, zz4, zz5])
              refine wpAnyH_ready (rs := [1]) (by kernel_rfl) (by simp) ?_
              refine AllReadyH.cons (o := _) rfl (fun K hK => ?_) AllReadyH.nil
              go_simp
              go_at_call 60; refine (HT.out _).mono ?_; rintro e w5 ⟨rfl, hB⟩; have HL := Lib.hid (below_next HL.out.drew hB); have KX := (fun (u : World) (hB : Below V.heap.size V u) => and14 (box7R (old_later HP.out hB)) (box6 (old_later HA.out hB)) ((box6 (old_later HAJ.out hB)).2.2.1)) _ HL.out; clear hB
              try go_simp
              refine hK.out _ _ KX (fun hHeld => ?_)
              clear hK K
              (try simp only [Act.put, zz3, zz4, zz5])
              refine take_val 2 145 (.bool true) (by kernel_rfl) (by kernel_rfl) (by kernel_rfl) (by kernel_rfl) (fun w => by kernel_rfl) (fun _ _ _ h => h) (by assumption) ?_
              (try simp only [Act.put, zz3, zz4, zz5])
              refine take_at 3 146 (.pointer (some ⟨w.heap.size + 2, 2, none⟩)) rfl rfl (by kernel_rfl) (by kernel_rfl) (by kernel_rfl) (by kernel_rfl) ?_ (fun _ _ _ h => h) (by assumption) ?_
              · intro w hSw; (try dsimp only at hSw); go_simp; try (with_reducible rfl)
              (try simp only [Act.put, zz3, zz4, zz5])
              refine take_at 4 147 (.int .u8 op') rfl rfl (by kernel_rfl) (by kernel_rfl) (by kernel_rfl) (by kernel_rfl) ?_ (fun _ _ _ h => h) (by assumption) ?_
              · intro w hSw; (try dsimp only at hSw); go_simp; try (with_reducible rfl)
              (try simp only [Act.put, zz3, zz4, zz5])
              refine take_at 5 148 (.bool false) rfl rfl (by kernel_rfl) (by kernel_rfl) (by kernel_rfl) (by kernel_rfl) ?_ (fun _ _ _ h => h) (by assumption) ?_
              · intro w hSw; (try dsimp only at hSw); go_simp; try (with_reducible rfl)
              (try simp only [Act.put, zz3, zz4, zz5])
              refine take_val 6 149 (.bool false) (by kernel_rfl) (by kernel_rfl) (by kernel_rfl) (by kernel_rfl) (fun w => by kernel_rfl) (fun _ _ _ h => h) (by assumption) ?_
              (try simp only [Act.put, zz3, zz4, zz5])
              refine take_val 7 150 (.bool false) (by kernel_rfl) (by kernel_rfl) (by kernel_rfl) (by kernel_rfl) (fun w => by kernel_rfl) (fun _ _ _ h => h) (by assumption) ?_
              (try simp only [Act.put, zz3, zz4, zz5])
              refine take_skip 8 151 (by kernel_rfl) (by kernel_rfl) (by kernel_rfl) (by kernel_rfl) (fun _ _ _ h => h) (by assumption) ?_
              (try simp only [Act.put, zz3, zz4, zz5])
              refine take_skip 9 152 (by kernel_rfl) (by kernel_rfl) (by kernel_rfl) (by kernel_rfl) (fun _ _ _ h => h) (by assumption) ?_
              (try simp only [Act.put, zz3, zz4, zz5])
              refine take_skip 10 153 (by kernel_rfl) (by kernel_rfl) (by kernel_rfl) (by kernel_rfl) (fun _ _ _ h => h) (by assumption) ?_
              (try simp only [Act.put, zz3, zz4, zz5])
              refine take_skip 11 154 (by kernel_rfl) (by kernel_rfl) (by kernel_rfl) (by kernel_rfl) (fun _ _ _ h => h) (by assumption) ?_
              (try simp only [Act.put, zz3, zz4, zz5])
              refine take_skip 12 155 (by kernel_rfl) (by kernel_rfl) (by kernel_rfl) (by kernel_rfl) (fun _ _ _ h => h) (by assumption) ?_
              (try simp only [Act.put, zz3, zz4, zz5])
              refine take_skip 13 156 (by kernel_rfl) (by kernel_rfl) (by kernel_rfl) (by kernel_rfl) (fun _ _ _ h => h) (by assumption) ?_
              (try simp only [Act.put, zz3, zz4, zz5])
              refine take_skip 14 157 (by kernel_rfl) (by kernel_rfl) (by kernel_rfl) (by kernel_rfl) (fun _ _ _ h => h) (by assumption) ?_
              (try simp only [Act.put, zz3, zz4, zz5])
              refine take_skip 15 158 (by kernel_rfl) (by kernel_rfl) (by kernel_rfl) (by kernel_rfl) (fun _ _ _ h => h) (by assumption) ?_
              (try simp only [Act.put, zz3, zz4, zz5])
              refine take_skip 16 159 (by kernel_rfl) (by kernel_rfl) (by kernel_rfl) (by kernel_rfl) (fun _ _ _ h => h) (by assumption) ?_
              (try simp only [Act.put, zz3, zz4, zz5])
              refine take_skip 17 160 (by kernel_rfl) (by kernel_rfl) (by kernel_rfl) (by kernel_rfl) (fun _ _ _ h => h) (by assumption) ?_
              (try simp only [Act.put, zz3, zz4, zz5])
              refine take_skip 18 161 (by kernel_rfl) (by kernel_rfl) (by kernel_rfl) (by kernel_rfl) (fun _ _ _ h => h) (by assumption) ?_
              (try simp only [Act.put, zz3, zz4, zz5])
              refine take_skip 19 162 (by kernel_rfl) (by kernel_rfl) (by kernel_rfl) (by kernel_rfl) (fun _ _ _ h => h) (by assumption) ?_
              (try simp only [Act.put, zz3, zz4, zz5])
              refine take_skip 20 163 (by kernel_rfl) (by kernel_rfl) (by kernel_rfl) (by kernel_rfl) (fun _ _ _ h => h) (by assumption) ?_
              (try simp only [Act.put, zz3, zz4, zz5])
              refine take_skip 21 164 (by kernel_rfl) (by kernel_rfl) (by kernel_rfl) (by kernel_rfl) (fun _ _ _ h => h) (by assumption) ?_
              (try simp only [Act.put, zz3, zz4, zz5])
              refine take_skip 22 165 (by kernel_rfl) (by kernel_rfl) (by kernel_rfl) (by kernel_rfl) (fun _ _ _ h => h) (by assumption) ?_
              (try simp only [Act.put, zz3, zz4, zz5])
              refine take_skip 23 166 (by kernel_rfl) (by kernel_rfl) (by kernel_rfl) (by kernel_rfl) (fun _ _ _ h => h) (by assumption) ?_
              (try simp only [Act.put, zz3, zz4, zz5])
              refine take_val 24 167 (.bool false) (by kernel_rfl) (by kernel_rfl) (by kernel_rfl) (by kernel_rfl) (fun w => by kernel_rfl) (fun _ _ _ h => h) (by assumption) ?_
              (try simp only [Act.put, zz3, zz4, zz5])
              refine take_val 25 8 (.bool false) (by kernel_rfl) (by kernel_rfl) (by kernel_rfl) (by kernel_rfl) (fun w => by kernel_rfl) (fun _ _ _ h => h) (by assumption) ?_
              (try simp only [Act.put, zz3, zz4, zz5])
              refine wpAnyH_done (by kernel_rfl) ?_ _
              go_wp2
              go_ret
              exact ⟨by rw [HF.out, HX.out]; kernel_rfl, below_next HB.out HL.out⟩
        · have hob' : (obj == obj') = false := by simpa using hob
          have hob'' : (obj != obj') = true := by simpa using hob
          have HX : Hid (rdB chans t i j ⟨th, pc, op, obj, val, mode⟩ ⟨th', pc', op', obj', val', mode'⟩ = false) := Lib.hid (by simp only [rdB, hth', h12', hob']; rfl)
          go_wp2
          go_ret
          exact ⟨by rw [HF.out, HX.out]; rfl, HB.out⟩
      · have HX : Hid (rdB chans t i j ⟨th, pc, op, obj, val, mode⟩ ⟨th', pc', op', obj', val', mode'⟩ = true) := Lib.hid (by simp only [rdB, h5]; rfl)
        go_wp2
        go_ret
        exact ⟨by rw [HF.out, HX.out]; rfl, HB.out⟩
end Go.Proofs.YtglafbajbiengaaGreat
