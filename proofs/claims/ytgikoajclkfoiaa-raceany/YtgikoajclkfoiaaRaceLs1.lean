/- Race's lasts: the map from variables to what each thread did last; racing. -/
import Derived.Test.YtgikoajclkfoiaaRaceKn5
namespace Go.Proofs.Ytgikoajclkfoiaa
set_option linter.unusedVariables false
set_option linter.unusedSimpArgs false
set_option maxRecDepth 100000
open Go.ChangeShapes Go.WideShapes Go.ChangeAt Go.RowKit Go.Maps

def ltCells (l : Lt) : List Value := [.int .i64 l.sp, .int .i64 l.sn, .int .i64 l.tp, .int .i64 l.tn]
def lsCells (f : Nat → Lt) : List Value := (List.range 6).flatMap fun k => ltCells (f k)
def lsV (f : Nat → Lt) : Value := .agg (lsCells f).toArray
theorem lsCells_len (f : Nat → Lt) : (lsCells f).length = 24 := by simp [lsCells, ltCells, List.range_succ]
theorem lsV_zero : lsV (fun _ => lt0) = .agg #[.int .i64 0, .int .i64 0, .int .i64 0, .int .i64 0, .int .i64 0, .int .i64 0, .int .i64 0, .int .i64 0, .int .i64 0, .int .i64 0, .int .i64 0, .int .i64 0, .int .i64 0, .int .i64 0, .int .i64 0, .int .i64 0, .int .i64 0, .int .i64 0, .int .i64 0, .int .i64 0, .int .i64 0, .int .i64 0, .int .i64 0, .int .i64 0] := by rfl
theorem zero_lasts (w : World) : (zeroValue 88).run Try.prog w = .ok (lsV fun _ => lt0) w := by kernel_rfl
/-- A map from variables to what was last. -/
def LsM (u : World) (g n : Nat) (ls : LsS) : Prop := ∃ D : DataW Value, u.ownsMap Try.prog 3 rawE g n D ∧ IsMap D ∧ ∀ x, Wf x → D.atKey (.int .i64 x) (.held (lsV fun _ => lt0)) = .held (lsV (ls x))
theorem LsM.later {u u' : World} {g n : Nat} {ls : LsS} (h : LsM u g n ls) (hB : Below u.heap.size u u') : LsM u' g n ls := by
  obtain ⟨D, h1, h2, h3⟩ := h
  exact ⟨D, map_later h1 hB, h2, h3⟩
theorem LsM.mono {u : World} {g n m : Nat} {ls : LsS} (h : LsM u g n ls) (hm : n ≤ m) : LsM u g m ls := by
  obtain ⟨D, h1, h2⟩ := h
  exact ⟨D, h1.mono hm, h2⟩
theorem LsM.touch {X : Nat → Prop} {u u' : World} {g n : Nat} {ls : LsS} (h : LsM u g n ls) (T : Touch X u u') (hx : ¬ X g) : LsM u' g n ls := by
  obtain ⟨D, h1, h2, h3⟩ := h
  have hlt := h1.lt
  obtain ⟨es, clock, hb, F, hs, hD⟩ := h1
  exact ⟨D, ⟨es, clock, (T.block g hlt hx).trans hb, F, hs, hD⟩, h2, h3⟩
theorem LsM.look {u : World} {g n : Nat} {ls : LsS} (h : LsM u g n ls) {x : Int} (hx : Wf x) : (Instr.lookup 59 (.map (some g)) (.int .i64 x) false).run Try.prog u = .ok (lsV (ls x)) u := by
  obtain ⟨D, h1, h2, h3⟩ := h
  obtain ⟨v, ps, hrun, hv⟩ := h1.lookup (int_keyed Try.underlying3) Try.underlying59 (zero_lasts u) (zd := .held (lsV fun _ => lt0)) (zp := []) rfl (keyOf_int_mk Try.underlying3 hx)
  rw [h3 x hx] at hv
  unfold rawE at hv
  injection hv with hv
  injection hv with hv _
  injection hv with hv
  subst hv
  exact hrun
theorem LsM.put {u : World} {g n : Nat} {ls : LsS} (h : LsM u g n ls) {x : Int} (hx : Wf x) (hn : n < 100000) (f : Nat → Lt) :
    ∃ u', (Instr.mapUpdate 59 (.map (some g)) (.int .i64 x) (lsV f)).run Try.prog u = .ok () u' ∧ LsM u' g (n + 1) (upd ls x f) ∧ u.grownBy u' (some g) := by
  obtain ⟨D, h1, h2, h3⟩ := h
  obtain ⟨u', hrun, ho, hg⟩ := h1.update (int_keyed Try.underlying3) Try.underlying59 (by unfold maxLen; omega) (keyOf_int_mk Try.underlying3 hx) (val := lsV f) (d := .held (lsV f)) (ps := []) rfl
  refine ⟨u', hrun, ⟨_, ho, h2.put _ _, fun z hz => ?_⟩, hg⟩
  by_cases e : z = x
  · subst e
    rw [atKey_put_same h2 (by trivial)]; simp [upd]
  · rw [atKey_put_other (fun q => e (by cases q; rfl)), h3 z hz]; simp [upd, e]
theorem ls_index (f : Nat → Lt) {k : Nat} (hk : k < 6) (u : World) : (Instr.index 88 (lsV f) (.int .i64 k)).run Try.prog u = .ok (.agg #[.int .i64 (f k).sp, .int .i64 (f k).sn, .int .i64 (f k).tp, .int .i64 (f k).tn]) u := by
  have hk' : (k : Int) < 6 := by omega
  unfold lsV
  simp [Instr.index, asIntOf, run_underlying Try.underlying88, hk', hk]
  match k, hk with
  | 0, _ => rfl
  | 1, _ => rfl
  | 2, _ => rfl
  | 3, _ => rfl
  | 4, _ => rfl
  | 5, _ => rfl
theorem alloc_atR (w : World) (o : Obj) {k : Nat} (h : k = w.heap.size) : (w.alloc o).heap[k]? = some o := by subst h; exact heap_alloc_new w o
theorem info_spot : (Try.prog.info? 85).map (·.size) = some 2 := by kernel_rfl
theorem against_any (l : Lt) (e : EvD) (w : World) : Calls Try.prog 43 #[.agg #[.int .i64 l.sp, .int .i64 l.sn, .int .i64 l.tp, .int .i64 l.tn], e.v] w fun r w' => r = .returned (.agg #[.int .i64 (agP e l).1, .int .i64 (agP e l).2]) ∧ Below w.heap.size w w' := by
  obtain ⟨th, pc, op, obj, val, mode⟩ := e
  show Calls Try.prog 43 #[.agg #[.int .i64 l.sp, .int .i64 l.sn, .int .i64 l.tp, .int .i64 l.tn], evV th pc op obj val mode] w _
  obtain ⟨sp, sn, tp, tn⟩ := l
  by_cases h8 : op = 8
  · subst h8
    have HF : Hid (agP ⟨th, pc, 8, obj, val, mode⟩ ⟨sp, sn, tp, tn⟩ = (tp, tn)) := Lib.hid (by simp [agP])
    rw [HF.out]
    go_enter Try.func43, Try.ntmps43
    go_wp2
    refine bodyPost_ret (v := .agg #[.int .i64 tp, .int .i64 tn]) (results_cell_row rfl _ _ (w.heap.size + 2) 85 #[.int .i64 tp, .int .i64 tn] (0, 0) _ rfl (by first | exact alloc_atR _ _ (by simp) | rfl) Try.underlying85 rfl info_spot) rfl ⟨rfl, ?_⟩
    exact (((Below.refl _ _).alloc (Nat.le_refl _) _).alloc (by simp) _).alloc (by simp; omega) _
  · have h8' : (op == 8) = false := by simpa using h8
    have HF : Hid (agP ⟨th, pc, op, obj, val, mode⟩ ⟨sp, sn, tp, tn⟩ = (sp, sn)) := Lib.hid (by simp [agP, h8])
    rw [HF.out]
    go_enter Try.func43, Try.ntmps43
    go_wp2
    refine bodyPost_ret (v := .agg #[.int .i64 sp, .int .i64 sn]) (results_cell_row rfl _ _ (w.heap.size + 2) 85 #[.int .i64 sp, .int .i64 sn] (0, 0) _ rfl (by first | exact alloc_atR _ _ (by simp) | rfl) Try.underlying85 rfl info_spot) rfl ⟨rfl, ?_⟩
    exact (((Below.refl _ _).alloc (Nat.le_refl _) _).alloc (by simp) _).alloc (by simp; omega) _
theorem racing_snoc (ls : LsS) (e : EvD) (c : List Int) (k : Nat) : (List.range (k + 1)).flatMap (racing1 ls e c) = (List.range k).flatMap (racing1 ls e c) ++ racing1 ls e c k := by simp [List.range_succ]
theorem racing1_len (ls : LsS) (e : EvD) (c : List Int) (k : Nat) : (racing1 ls e c k).length ≤ 1 := by
  unfold racing1
  split
  · simp
  · split <;> simp
theorem racingTo_len (ls : LsS) (e : EvD) (c : List Int) : ∀ k, ((List.range k).flatMap (racing1 ls e c)).length ≤ k
  | 0 => by simp
  | k + 1 => by
    rw [racing_snoc, List.length_append]
    have := racing1_len ls e c k
    have := racingTo_len ls e c k
    omega
theorem cell_one_R (w : World) (t : TypeId) (x : Int) : ∀ j u, ([.int .i64 x] : List Value)[j]? = some u → (w.alloc (.cells #[.int .i64 x] t)).cell? ((⟨w.heap.size, 0, none⟩ : Addr).add j) = some u := by
  intro j u hj
  rw [Addr.add_mid, Nat.zero_add, cell_of_row _ _ _ _ _ _ (heap_alloc_new _ _)]
  simpa using hj
theorem own_sliceR {w : World} {base : Nat} {e : TypeId} {s n : Nat} {v : Value} {xs : List Value} (h : w.ownsRow base e s v n xs) : ∃ a c, v = .slice a n c := by
  rcases h.2 with ⟨rfl, h0⟩ | ⟨g, cap, cur, rfl, _⟩
  · subst h0; exact ⟨none, 0, rfl⟩
  · exact ⟨_, cap, rfl⟩
def RacE (w : World) (l : List Int) (e : Ending) (w' : World) : Prop := ∃ a c, e = .returned (.slice a l.length c) ∧ w'.ownsRow w.heap.size 3 1 (.slice a l.length c) l.length (l.map (.int .i64 ·)) ∧ Below w.heap.size w w'
set_option maxHeartbeats 2000000 in
theorem racing_any {g n : Nat} {ls : LsS} {w : World} (h : LsM w g n ls) (e : EvD) (hW : Wf e.obj) (a : Option Addr) (c : Nat) (L : List Int) (hL : RowOf .i64 w w.heap.size a L) :
    Calls Try.prog 27 #[.map (some g), e.v, .slice a L.length c] w (RacE w (racingL ls e L)) := by
  obtain ⟨tj, hj0, jz0, jz1, jz2⟩ := info_parts info_intT
  have HG := Lib.hid (fun W l => against_any l e W)
  have HR1 : Hid (∀ k, racing1 ls e L k = if (k : Int) = e.th ∨ agP e (ls e.obj k) = (0, 0) then [] else if atN L k < (agP e (ls e.obj k)).2 then [(agP e (ls e.obj k)).1] else []) := Lib.hid fun k => rfl
  have HSn := Lib.hid (racing_snoc ls e L)
  have HLn := Lib.hid (racingTo_len ls e L)
  have HE : Hid (racingL ls e L = (List.range 6).flatMap (racing1 ls e L)) := Lib.hid rfl
  have HLK := Lib.hid (fun W (hB : Below w.heap.size w W) => (h.later hB).look hW)
  have HLr := Lib.hid hL
  rw [HE.out]
  have HI := Lib.hid (fun (k : Nat) (hk : k < 6) (u : World) => ls_index (ls e.obj) hk u)
  generalize racing1 ls e L = r1 at *
  generalize ls e.obj = f at *
  clear h hL HE hW
  obtain ⟨th, pc, op, obj, val, mode⟩ := e
  show Calls Try.prog 27 #[.map (some g), evV th pc op obj val mode, .slice a L.length c] w _
  simp only at HLK
  have HP0 : Hid (RacE w ((List.range 0).flatMap r1) (.returned (.slice none 0 0)) w) := Lib.hid ⟨none, 0, rfl, World.ownsRow_nil _ _ _ _, Below.refl _ _⟩
  go_enter Try.func27, Try.ntmps27
  go_upto_region 2 with (fail)
  generalize hV : World.alloc w _ = V
  have HB := Lib.hid (show Below w.heap.size w V by rw [← hV]; exact below_box _ _)
  have HN : Hid (V.heap[w.heap.size]? = some (.cells #[.int .i64 th, .int .i64 pc, .int .u8 op, .int .i64 obj, .int .i64 val, .int .i64 mode] 26)) := Lib.hid (by rw [← hV]; exact heap_alloc_new _ _)
  clear hV
  obtain ⟨a0, a1, a2, a3, a4, a5⟩ := box6R HN.out
  have hlk := HLK.out V HB.out
  generalize hF : lsV f = fv at *
  go_wp2_with fail
  clear a0 a1 a2 a3 a4 a5 hlk
  go_loopw [7, 15] (fun pv iv u => ∃ (k : Nat) (a' : Option Addr) (c' : Nat), k ≤ 6 ∧ iv = .int .i64 k ∧ pv = .slice a' ((List.range k).flatMap r1).length c' ∧ u.ownsRow V.heap.size 3 1 pv ((List.range k).flatMap r1).length (((List.range k).flatMap r1).map (.int .i64 ·)) ∧ Below V.heap.size V u) (fun _ iv _ => 6 - (intOf iv).toNat)
  case atStart => exact ⟨0, none, 0, by omega, rfl, rfl, World.ownsRow_nil _ _ _ _, Below.refl _ _⟩
  case round =>
    obtain ⟨k, a', c', hk, rfl, rfl, ho, hB⟩ := hrel
    have HO := Lib.hid ho
    have HBr := Lib.hid hB
    clear ho hB
    have hln := HLn.out k
    have hsn := HSn.out k
    by_cases hlt : k < 6
    · have hlt' : (k : Int) < 6 := by omega
      generalize hP : (List.range k).flatMap r1 = P at *
      have hr := HR1.out k
      have hidx := HI.out k hlt wr
      rcases hl : f k with ⟨sp, sn, tp, tn⟩
      rw [hl] at hidx hr
      rcases hag : agP ⟨th, pc, op, obj, val, mode⟩ ⟨sp, sn, tp, tn⟩ with ⟨pp, pn⟩
      rw [hag] at hr
      simp only at hidx
      have HGk := Lib.hid (fun W => (show Calls Try.prog 43 #[.agg #[.int .i64 sp, .int .i64 sn, .int .i64 tp, .int .i64 tn], evV th pc op obj val mode] W fun r w' => r = .returned (.agg #[.int .i64 pp, .int .i64 pn]) ∧ Below W.heap.size W w' from by have := HG.out W ⟨sp, sn, tp, tn⟩; rw [hag] at this; exact this))
      have HNr := Lib.hid (old_later HN.out HBr.out)
      clear hl hag
      go_upto_region 5 with (fail)
      generalize hV2 : World.alloc wr _ = V2
      have HB2 := Lib.hid (show Below wr.heap.size wr V2 by rw [← hV2]; exact below_box _ _)
      have HD : Hid (V2.heap[wr.heap.size]? = some (.cells #[.int .i64 sp, .int .i64 sn, .int .i64 tp, .int .i64 tn] 87)) := Lib.hid (by rw [← hV2]; exact heap_alloc_new _ _)
      clear hV2 hidx
      have HN2 := Lib.hid (old_later HNr.out HB2.out)
      obtain ⟨a0, a1, a2, a3, a4, a5⟩ := box6R HN2.out
      obtain ⟨d0, d1, d2, d3⟩ := box4R HD.out
      go_upto_region 6 with (go_at_call 43; refine (HGk.out _).mono ?_; rintro e w3 ⟨rfl, hB3⟩)
      generalize hV3 : World.alloc w3 _ = V3
      have HB3 := Lib.hid (show Below wr.heap.size wr V3 by rw [← hV3]; exact below_next HB2.out (below_new hB3 _))
      have HS : Hid (V3.heap[w3.heap.size]? = some (.cells #[.int .i64 pp, .int .i64 pn] 85)) := Lib.hid (by rw [← hV3]; exact heap_alloc_new _ _)
      have HN3 : Hid (V3.heap[w.heap.size]? = some (.cells #[.int .i64 th, .int .i64 pc, .int .u8 op, .int .i64 obj, .int .i64 val, .int .i64 mode] 26)) := Lib.hid (by rw [← hV3]; exact old_later HN2.out (below_new hB3 _))
      clear hV3 hB3 a0 a1 a2 a3 a4 a5 d0 d1 d2 d3
      obtain ⟨a0, a1, a2, a3, a4, a5⟩ := box6R HN3.out
      have s0 := cell_of_row _ _ 0 _ _ _ HS.out
      have s1 := cell_of_row _ _ 1 _ _ _ HS.out
      simp only [List.getElem?_toArray, List.getElem?_cons_zero, List.getElem?_cons_succ] at s0 s1
      by_cases hkt : (k : Int) = th
      · have hkt' : ((k : Int) == th) = true := by simpa using hkt
        have HEQ : Hid ((List.range (k + 1)).flatMap r1 = P) := Lib.hid (by rw [hsn, hr, if_pos (.inl hkt), List.append_nil])
        clear hkt hr hsn
        go_wp2_with fail
        go_roundw
        case rel => exact ⟨k + 1, a', c', by omega, by go_num, by rw [HEQ.out], by rw [HEQ.out]; exact own_later HO.out HB3.out, below_next HBr.out HB3.out⟩
        case measure => simp [intOf]; omega
      have hkt' : ((k : Int) == th) = false := by simpa using hkt
      by_cases hz : pp = 0 ∧ pn = 0
      · have HEQ : Hid ((List.range (k + 1)).flatMap r1 = P) := Lib.hid (by rw [hsn, hr, if_pos (.inr (by rw [hz.1, hz.2])), List.append_nil])
        obtain ⟨rfl, rfl⟩ := hz
        clear hr hsn hkt
        go_wp2_with fail
        go_roundw
        case rel => exact ⟨k + 1, a', c', by omega, by go_num, by rw [HEQ.out], by rw [HEQ.out]; exact own_later HO.out HB3.out, below_next HBr.out HB3.out⟩
        case measure => simp [intOf]; omega
      have hne : ¬ ((k : Int) = th ∨ (pp, pn) = (0, 0)) := by
        rintro (h | h)
        · exact hkt h
        · exact hz ⟨congrArg Prod.fst h, congrArg Prod.snd h⟩
      have hz2 : (pp == 0) = false ∨ ((pp == 0) = true ∧ (pn == 0) = false) := by
        rcases h1 : (pp == 0) with _ | _
        · exact .inl rfl
        · rcases h2 : (pn == 0) with _ | _
          · exact .inr ⟨rfl, rfl⟩
          · exact absurd ⟨by simpa using h1, by simpa using h2⟩ hz
      have HNE := Lib.hid hne
      have HRR := Lib.hid hr
      clear hz hne hkt hr
      rcases hz2 with h1 | ⟨h1, h2⟩
      all_goals
        go_upto_region 7 with (fail)
        try clear h1
        try clear h2
        have hne := HNE.out
        have hr := HRR.out
        clear HNE HRR
        obtain ⟨x, hx⟩ : ∃ x, atN L k = x := ⟨_, rfl⟩
        rw [if_neg hne, hx] at hr
        have HX := Lib.hid hx
        have HRL := Lib.hid (show RowOf .i64 V3.drew V3.drew.heap.size a L from (HLr.out.up (below_next HB.out (below_next HBr.out HB3.out.drew))))
        have hzz : True := trivial
        clear hx hne
        rcases hg : decide (x < pn) with _ | _
        · have HEQ : Hid ((List.range (k + 1)).flatMap r1 = P) := Lib.hid (by rw [hsn, hr, if_neg (of_decide_eq_false hg), List.append_nil])
          clear hr hsn
          refine wp_region_still_tail 5 (by kernel_rfl) (by kernel_rfl) ?_
          simp only [List.take_succ_cons, List.take_zero, List.drop_succ_cons, List.drop_zero]
          still_step
          still_step
          still_step
          still_step
          still_call (cAt_still L a c _ k x _ HRL.out HX.out)
          refine wpStill_nil ?_
          change wpList _ _ _ _ _ V3.drew
          have HB4 := Lib.hid (show Below wr.heap.size wr V3.drew from HB3.out.drew)
          generalize V3.drew = V4 at *
          go_wp2_with fail
          go_roundw
          case rel => exact ⟨k + 1, a', c', by omega, by go_num, by rw [HEQ.out], by rw [HEQ.out]; exact own_later HO.out HB4.out, below_next HBr.out HB4.out⟩
          case measure => simp [intOf]; omega
        · have HEQ : Hid ((List.range (k + 1)).flatMap r1 = P ++ [pp]) := Lib.hid (by rw [hsn, hr, if_pos (of_decide_eq_true hg)])
          clear hr hsn
          refine wp_region_still_tail 5 (by kernel_rfl) (by kernel_rfl) ?_
          simp only [List.take_succ_cons, List.take_zero, List.drop_succ_cons, List.drop_zero]
          still_step
          still_step
          still_step
          still_step
          still_call (cAt_still L a c _ k x _ HRL.out HX.out)
          refine wpStill_nil ?_
          change wpList _ _ _ _ _ V3.drew
          have HB4 := Lib.hid (show Below wr.heap.size wr V3.drew from HB3.out.drew)
          have s0 := (show V3.drew.cell? ⟨w3.heap.size, 0, none⟩ = _ from s0)
          have hbs : V.heap.size ≤ V3.drew.heap.size := Nat.le_trans HBr.out.size HB4.out.size
          generalize V3.drew = V4 at *
          go_wp2_with (first
            | (at_builtin; refine wpList_append_own_at _ rfl _ _ 29 rfl V.heap.size 3 tj (.int .i64 0) 1 8 Try.underlying29 hj0 jz0 jz1 jz2 rfl (by decide) (.slice a' P.length c') P.length (P.map (.int .i64 ·)) rfl (own_later (own_later HO.out HB4.out) (below_box V4 _)) ⟨V4.heap.size, 0, none⟩ 1 1 [.int .i64 pp] rfl rfl (cell_one_R V4 _ _) (by simp [Value.oneCell']) (by unfold maxLen; omega) (by omega) (by simp; omega) ?_; intro v6 w6 hown6 hgrow6 _ hat6
               have HB6 : Hid (Below V.heap.size V w6) := Lib.hid ((below_new (below_next HBr.out HB4.out) (.cells #[.int .i64 pp] 3)).trans ((Below.refl _ _).grown hgrow6 (by simp; omega) (fun g e => (own_lt HO.out g e).2)))
               obtain ⟨xa, xc, rfl⟩ := own_sliceR hown6
               have HO6 := Lib.hid hown6
               clear hown6 hgrow6 hat6))
          go_roundw
          case rel => exact ⟨k + 1, xa, xc, by omega, by go_num, by rw [HEQ.out]; simp, by rw [HEQ.out]; simpa using HO6.out, HB6.out⟩
          case measure => simp [intOf]; omega
    · obtain rfl : k = 6 := by omega
      generalize hP : (List.range 6).flatMap r1 = P at *
      go_wp2_with fail
      go_ret
      exact ⟨a', c', rfl, own_base HO.out HB.out.size, below_next HB.out HBr.out⟩
end Go.Proofs.Ytgikoajclkfoiaa
