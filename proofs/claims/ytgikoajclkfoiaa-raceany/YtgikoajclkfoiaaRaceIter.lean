/- Race's iterator: what it tells its caller. -/
import Derived.Test.YtgikoajclkfoiaaRaceIterM
namespace Go.Proofs.Ytgikoajclkfoiaa
set_option linter.unusedVariables false
set_option linter.unusedSimpArgs false
set_option maxRecDepth 100000
open Go.ChangeShapes Go.WideShapes Go.ChangeAt Go.RowKit Go.Maps Go.Shelf
attribute [local go_sem] Oper.semAt_some

theorem racesGo_len (chans : List Int) : ∀ (r : List EvD) (i : Nat) (k : KnS) (ls : LsS), (racesGo chans i r k ls).length ≤ 6 * r.length
  | [], i, k, ls => by simp [racesGo]
  | e :: r, i, k, ls => by
    unfold racesGo
    split
    · rw [List.length_append, List.length_map]
      have h1 := racingTo_len ls e (clockL chans k e) 6
      have h2 := racesGo_len chans r (i + 1) (stepK7 chans k e) (noteL ls i e (clockL chans k e))
      unfold racingL
      simp only [List.length_cons]; omega
    · have h2 := racesGo_len chans r (i + 1) (stepK7 chans k e) ls
      simp only [List.length_cons]; omega
theorem racesL_len (chans : List Int) (t : List EvD) : (racesL chans t).length ≤ 6 * t.length := by
  unfold racesL
  split
  · exact racesGo_len _ _ _ _ _
  · simp
def raceV (x : Int × Int) : Value := .agg #[.int .i64 x.1, .int .i64 x.2]
set_option maxHeartbeats 2000000 in
theorem races1_in (n : Nat) (hn : 1 ≤ n) (l bt bp B0 : Nat) (v0 v1 v2 : Value) (ca : Option Addr) (cc : Nat) (chans : List Int) (v4 v5 v6 : Value) (a : Option Addr) (cap : Nat) (t : List EvD) (J Jx : List (Int × Int) → World → Prop) (W : World) (hJ : StabM W.heap.size J)
    (hY : ∀ pre x W1, J pre W1 → W.heap.size ≤ W1.heap.size → pre ++ [x] <+: racesL chans t → YieldAt Fence.wide (n - 1) Try.prog l #[raceV x] W1 fun e W' => (e = .returned (.bool true) ∧ J (pre ++ [x]) W' ∧ KpR B0 W1 W') ∨ (e = .returned (.bool false) ∧ Jx (pre ++ [x]) W'))
    (hT : W.heap[bt]? = some (.cells #[.slice a t.length cap] 24)) (hP : W.heap[bp]? = some (.cells #[v0, v1, v2, .slice ca chans.length cc, v4, v5, v6] 32))
    (he : EvsIn W B0 a t) (hw : ∀ e ∈ t, Wf e.th ∧ Wf e.obj) (hc : ChB W B0 ca chans) (hl : t.length ≤ 1000000) (hB0 : B0 ≤ W.heap.size) (h0 : J [] W) :
    CallsIn Fence.wide n Try.prog 22 #[.func (.yield l) #[] #[], .pointer (some ⟨bt, 0, none⟩), .pointer (some ⟨bp, 0, none⟩)] W fun e W' => (∃ v, e = .returned v) ∧ ((∃ xs, xs = racesL chans t ∧ J xs W') ∨ (∃ pre, pre ≠ [] ∧ pre <+: racesL chans t ∧ Jx pre W')) := by
  have HE := Lib.hid he
  have HC := Lib.hid hc
  have HW := Lib.hid hw
  have HJ0 := Lib.hid h0
  have HFi := Lib.hid (fits_any a cap t W (he.wide hB0) hl)
  have t0 := cell_of_row _ _ 0 _ _ _ hT
  simp only [List.getElem?_toArray, List.getElem?_cons_zero] at t0
  have HP := Lib.hid hP
  have HJ := Lib.hid hJ
  have HY := Lib.hid hY
  clear he hc hw h0 hT hP hJ hY
  refine callsIn_of_wp Try.func22 rfl trivial ?_ rfl
  simp only [Try.ntmps22, List.size_toArray, List.length_cons, List.length_nil, Nat.reduceAdd, Nat.reduceSub, Array.replicate_succ, Array.replicate_zero, List.push_toArray, List.append_toArray, List.nil_append, List.cons_append]
  rcases hfb : fitsB t with _ | _
  · have HX : Hid (racesL chans t = []) := Lib.hid (by unfold racesL; rw [hfb]; rfl)
    rw [hfb] at HFi
    clear hfb
    gi_wp2_with (refine ⟨trivial, ?_⟩; gi_at_call 23; refine (callsIn_wide.2 HFi.out).mono ?_; rintro e w1 ⟨rfl, hB1⟩)
    refine bodyPost_ret (results_none rfl _ _ _) rfl ?_
    exact ⟨⟨_, rfl⟩, .inl ⟨_, rfl, by rw [HX.out]; exact stab_below HJ.out HJ0.out hB1⟩⟩
  · have htl : t.length ≤ 2000 ∧ ∀ e ∈ t, 0 ≤ e.th ∧ e.th < 6 := by
      unfold fitsB at hfb
      rw [Bool.and_eq_true, List.all_eq_true] at hfb
      refine ⟨of_decide_eq_true hfb.1, fun e he => ?_⟩
      have := hfb.2 e he
      rw [Bool.and_eq_true] at this
      exact ⟨of_decide_eq_true this.1, of_decide_eq_true this.2⟩
    have HTh := Lib.hid htl.2
    have ht2 := htl.1
    have HX : Hid (racesL chans t = racesGo chans 0 t kn0 (fun _ _ => lt0)) := Lib.hid (by unfold racesL; rw [hfb]; rfl)
    rw [hfb] at HFi
    clear hfb htl
    have hmk : ∀ w, (Instr.makeMap 59 none).run Try.prog w = .ok (.map (some w.heap.size)) (w.alloc (.map #[] 0)) := fun w => rfl
    have HTb := Lib.hid (fun (u : World) (hB : Below W.heap.size W u) => (hB.cell (p := ⟨bt, 0, none⟩) (cell_lt t0)).trans t0)
    clear t0
    have t0 := HTb.out W (Below.refl _ _)
    gi_wp2_with (first
      | (refine ⟨trivial, ?_⟩; gi_at_call 24; refine (callsIn_wide.2 (known_new ca cc chans w1 ((HC.out.low (low_below hB1)).chIn (Nat.le_trans hB0 hB1.size)))).mono ?_; rintro e w2 ⟨gk, gc, gs, gt, rfl, hkn, hB2⟩; have t0 := HTb.out _ (below_new (below_next hB1 hB2) (.map #[] 0)))
      | (refine ⟨trivial, ?_⟩; gi_at_call 23; refine (callsIn_wide.2 HFi.out).mono ?_; rintro e w1 ⟨rfl, hB1⟩; have p3 := cell_of_row _ _ 3 _ _ _ (old_later HP.out hB1); simp only [List.getElem?_toArray, List.getElem?_cons_zero, List.getElem?_cons_succ] at p3))
    have HI0 : Hid (It B0 W.heap.size gk gc gs gt w2.heap.size a t ca cc chans 0 kn0 (fun _ _ => lt0) (w2.alloc (.map #[] 0))) := Lib.hid (by
      have hk := hkn.later (below_box w2 (.map #[] 0))
      have hs := hB1.size
      have hlw : LowSame B0 W (w2.alloc (.map #[] 0)) := low_below (below_new (below_next hB1 hB2) _)
      refine ⟨⟨hk.box, hk.ch, hk.cl, hk.se, hk.ta, hk.cs, hk.ct, hk.st, Nat.le_trans hs hk.bk.1, Nat.le_trans hs hk.bk.2.1, Nat.le_trans hs hk.bk.2.2.1, Nat.le_trans hs hk.bk.2.2.2⟩, lsM_new _ _ (heap_alloc_new _ _), ⟨(below_next hB1 hB2).size, ?_⟩, HE.out.low hlw, HC.out.low hlw, fun x => by simp [kn0], fun x => Nat.le_refl _, fun x => Nat.le_refl _, hB0, (below_new (below_next hB1 hB2) (.map #[] 0)).size⟩
      rintro (e | e | e)
      · obtain ⟨es, c, hm⟩ := hkn.cl.isMap; have := (Array.getElem?_eq_some_iff.1 hm).1; omega
      · obtain ⟨es, c, hm⟩ := hkn.se.isMap; have := (Array.getElem?_eq_some_iff.1 hm).1; omega
      · obtain ⟨es, c, hm⟩ := hkn.ta.isMap; have := (Array.getElem?_eq_some_iff.1 hm).1; omega)
    have HJ1 : Hid (J [] (w2.alloc (.map #[] 0))) := Lib.hid (stab_below HJ.out HJ0.out (below_new (below_next hB1 hB2) _))
    generalize w2.heap.size = gl at *
    generalize (w2.alloc (.map #[] 0)) = U0 at *
    clear hkn hB1 hB2 p3 t0
    gi_loopw [20] (fun iv u => ∃ (q : Nat) (k : KnS) (ls : LsS) (pre : List (Int × Int)), q ≤ t.length ∧ iv = .int .i64 q ∧ It B0 W.heap.size gk gc gs gt gl a t ca cc chans q k ls u ∧ J pre u ∧ Hid (pre ++ racesGo chans q (t.drop q) k ls = racesL chans t)) (fun iv _ => t.length - (intOf iv).toNat)
    case atStart => exact ⟨0, _, _, [], Nat.zero_le _, rfl, HI0.out, HJ1.out, Lib.hid (by rw [HX.out]; rfl)⟩
    case round =>
      obtain ⟨q, k, ls, pre, hq, rfl, hIt, hJp, hEq⟩ := hrel
      have HIt := Lib.hid hIt
      have HJp := Lib.hid hJp
      clear hIt hJp
      by_cases hlt : q < t.length
      · have hlt' : (q : Int) < (t.length : Int) := by omega
        obtain ⟨e, hx⟩ := at_lt hlt
        obtain ⟨g, o, rfl, hg, c0, c1, c2, c3, c4, c5⟩ := HIt.out.ev q e hx
        have hWe := HW.out e (List.mem_of_getElem? hx)
        have hTe := HTh.out e (List.mem_of_getElem? hx)
        obtain ⟨T, hT⟩ : ∃ T : Nat, e.th = T := ⟨e.th.toNat, by omega⟩
        have hT6 : T < 6 := by omega
        have hdr : t.drop q = e :: t.drop (q + 1) := by rw [List.drop_eq_getElem_cons hlt]; congr 1; exact (List.getElem?_eq_some_iff.1 hx).2
        have hE2 := hEq.out
        rw [hdr] at hE2
        unfold racesGo at hE2
        have hkn := HIt.out.kn.later (below_box wr (.cells #[.int .i64 e.th, .int .i64 e.pc, .int .u8 e.op, .int .i64 e.obj, .int .i64 e.val, .int .i64 e.mode] 26))
        have HS8 := Lib.hid (step8_any hkn (by omega) HIt.out.len (fun x => by have := HIt.out.sS x; omega) (fun x => by have := HIt.out.sT x; omega) e hWe)
        have HSt := Lib.hid (fun w3 hk3 hT3 => (HIt.out.later (below_box wr (.cells #[.int .i64 e.th, .int .i64 e.pc, .int .u8 e.op, .int .i64 e.obj, .int .i64 e.val, .int .i64 e.mode] 26))).step (u' := w3) e hk3 hT3)
        have HKn := Lib.hid hkn
        have HTo := Lib.hid (fun u => touches_any e u)
        have HRc := Lib.hid (fun (u : World) (n' : Nat) (h : LsM u gl n' ls) a c hL => racing_any h e hWe.2 a c (clockL chans k e) hL)
        have HNo := Lib.hid (fun (u : World) (n' : Nat) (h : LsM u gl n' ls) (hn : n' < 100000) a c hL => note_any h hn q (by omega) e hWe.2 T hT6 hT a c (clockL chans k e) hL)
        generalize clockL chans k e = L at *
        generalize stepK7 chans k e = k' at *
        clear hkn hx hWe hTe hT hdr hEq
        rcases htb : toB e with _ | _
        · rw [htb] at hE2 HTo
          simp only [Bool.false_eq_true, if_false] at hE2
          have HE2 := Lib.hid hE2
          clear hE2 htb HRc HNo
          obtain ⟨th, pc, op, obj, val, mode⟩ := e
          simp only at c0 c1 c2 c3 c4 c5
          gi_wp2_with (first
            | (refine ⟨trivial, ?_⟩; gi_at_call 26; refine (callsIn_wide.2 (HTo.out _)).mono ?_; rintro e w4 ⟨rfl, hB4⟩)
            | (refine ⟨trivial, ?_⟩; gi_at_call 25; refine (callsIn_wide.2 HS8.out).mono ?_; rintro e w3 ⟨aL, cL, rfl, hrL, hk3, hT3⟩; obtain ⟨a0, a1, a2, a3, a4, a5⟩ := box6R (old_touchX HKn.out hT3 (heap_alloc_new wr (.cells #[.int .i64 th, .int .i64 pc, .int .u8 op, .int .i64 obj, .int .i64 val, .int .i64 mode] 26)))))
          go_roundw
          case rel => exact ⟨q + 1, k', ls, pre, by omega, by go_num, (HSt.out w3 hk3 hT3).later hB4, stab_below HJ.out ((HIt.out.later (below_box wr _)).stab HJ.out (stab_below HJ.out HJp.out (below_box wr _)) hT3) hB4, Lib.hid HE2.out⟩
          case measure => simp [intOf]; omega
        · rw [htb] at hE2 HTo
          simp only [if_true] at hE2
          have hPl : (racingL ls e L).length ≤ 6 := racingTo_len ls e L 6
          generalize noteL ls q e L = ls' at *
          generalize racingL ls e L = P at *
          have HE2 := Lib.hid hE2
          clear hE2 htb
          obtain ⟨th, pc, op, obj, val, mode⟩ := e
          simp only at c0 c1 c2 c3 c4 c5
          gi_wp2_with (first
            | (refine ⟨trivial, ?_⟩; gi_at_call 27; refine (callsIn_wide.2 ((HRc.out w4 q (((HIt.out.ls.later (below_box wr _)).touch hT3 HIt.out.gl.2).later hB4) aL cL (hrL.up hB4).row))).mono ?_; rintro e w5 ⟨ap, cp, rfl, hown, hB5⟩)
            | (refine ⟨trivial, ?_⟩; gi_at_call 26; refine (callsIn_wide.2 (HTo.out _)).mono ?_; rintro e w4 ⟨rfl, hB4⟩; obtain ⟨a0, a1, a2, a3, a4, a5⟩ := box6R (old_later (old_touchX HKn.out hT3 (heap_alloc_new wr (.cells #[.int .i64 th, .int .i64 pc, .int .u8 op, .int .i64 obj, .int .i64 val, .int .i64 mode] 26))) hB4))
            | (refine ⟨trivial, ?_⟩; gi_at_call 25; refine (callsIn_wide.2 HS8.out).mono ?_; rintro e w3 ⟨aL, cL, rfl, hrL, hk3, hT3⟩; obtain ⟨a0, a1, a2, a3, a4, a5⟩ := box6R (old_touchX HKn.out hT3 (heap_alloc_new wr (.cells #[.int .i64 th, .int .i64 pc, .int .u8 op, .int .i64 obj, .int .i64 val, .int .i64 mode] 26)))))
          have HB45 := Lib.hid (below_next hB4 hB5)
          have HI5 := Lib.hid ((HSt.out w3 hk3 hT3).later HB45.out)
          have HJ5 := Lib.hid (stab_below HJ.out ((HIt.out.later (below_box wr _)).stab HJ.out (stab_below HJ.out HJp.out (below_box wr _)) hT3) HB45.out)
          have HL5 := Lib.hid (((HIt.out.ls.later (below_box wr (.cells #[.int .i64 th, .int .i64 pc, .int .u8 op, .int .i64 obj, .int .i64 val, .int .i64 mode] 26))).touch hT3 HIt.out.gl.2).later HB45.out)
          have HR5 := Lib.hid (hrL.up HB45.out)
          have HE5 := Lib.hid (old_later (old_touchX HKn.out hT3 (heap_alloc_new wr (.cells #[.int .i64 th, .int .i64 pc, .int .u8 op, .int .i64 obj, .int .i64 val, .int .i64 mode] 26))) HB45.out)
          have HP5 := Lib.hid (own_rowI hown)
          have HW5 : Hid (W.heap.size ≤ w5.heap.size) := Lib.hid HI5.out.size.2
          generalize wr.heap.size = ge at *
          clear hB4 hB5 hrL hk3 hT3 hown HS8 HSt HKn HTo HRc a0 a1 a2 a3 a4 a5 HB45
          gi_loopw [36] (fun jv u => ∃ p : Nat, p ≤ P.length ∧ jv = .int .i64 p ∧ It B0 W.heap.size gk gc gs gt gl (some ⟨g, o, none⟩) t ca cc chans (q + 1) k' ls u ∧ J (pre ++ (P.take p).map (fun f => (f, (q : Int)))) u ∧ LsM u gl q ls ∧ RowI u aL L ∧ RowI u ap P ∧ u.heap[ge]? = some (.cells #[.int .i64 th, .int .i64 pc, .int .u8 op, .int .i64 obj, .int .i64 val, .int .i64 mode] 26)) (fun jv _ => P.length - (intOf jv).toNat)
          case atStart => exact ⟨0, Nat.zero_le _, rfl, HI5.out, by simpa using HJ5.out, HL5.out, HR5.out, HP5.out, HE5.out⟩
          case round =>
            obtain ⟨p, hp, rfl, hI6, hJ6, hL6, hR6, hP6, hE6⟩ := hrel
            have HI6 := Lib.hid hI6
            have HJ6 := Lib.hid hJ6
            have HL6 := Lib.hid hL6
            have HR6 := Lib.hid hR6
            have HP6 := Lib.hid hP6
            have HE6 := Lib.hid hE6
            clear hI6 hJ6 hL6 hR6 hP6 hE6
            by_cases hpl : p < P.length
            · have hpl' : (p : Int) < (P.length : Int) := by omega
              obtain ⟨x, hx⟩ := at_lt hpl
              obtain ⟨g6, o6, rfl, hg6, hc6⟩ := HP6.out.row p x hx
              have HTk : Hid (pre ++ (P.take (p + 1)).map (fun f => (f, (q : Int))) = pre ++ (P.take p).map (fun f => (f, (q : Int))) ++ [(x, (q : Int))]) := Lib.hid (by rw [List.take_add_one, hx]; simp)
              have HPre : Hid (pre ++ (P.take (p + 1)).map (fun f => (f, (q : Int))) <+: racesL chans t) := Lib.hid (by
                rw [← HE2.out]
                refine (List.prefix_append_right_inj pre).2 (List.IsPrefix.trans ?_ (List.prefix_append _ _))
                exact (List.take_prefix _ _).map _)
              have hne : pre ++ (P.take (p + 1)).map (fun f => (f, (q : Int))) ≠ [] := by rw [HTk.out]; simp
              obtain ⟨fn, tmps, assign, body, hy, hR⟩ := HY.out _ (x, (q : Int)) wr HJ6.out HI6.out.size.2 (by rw [← HTk.out]; exact HPre.out)
              rw [← HTk.out] at hR
              unfold raceV at hy
              clear hx
              gi_wp2
              go_goals
              refine hR.mono ?_
              rintro e W3 (⟨rfl, hJ3, hk3⟩ | ⟨rfl, hJx3⟩)
              · gi_wp2
                go_roundw
                case rel => exact ⟨p + 1, by omega, by go_num, HI6.out.kp hk3, hJ3, HL6.out.kp hk3, HR6.out.same hk3.cells, HP6.out.same hk3.cells, hk3.cells _ _ _ _ HE6.out (by decide) (by decide)⟩
                case measure => simp [intOf]; omega
              · gi_wp2
                refine bodyPost_ret (results_none rfl _ _ _) rfl ?_
                exact ⟨⟨_, rfl⟩, .inr ⟨_, hne, HPre.out, hJx3⟩⟩
            · obtain rfl : p = P.length := by omega
              obtain ⟨a0, a1, a2, a3, a4, a5⟩ := box6R HE6.out
              have HN7 := Lib.hid (HNo.out wr q HL6.out (by omega) aL cL HR6.out.row)
              have HJ7 : Hid (J (pre ++ P.map (fun f => (f, (q : Int)))) wr) := Lib.hid (by have := HJ6.out; rwa [List.take_length] at this)
              clear HNo
              gi_wp2_with (refine ⟨trivial, ?_⟩; gi_at_call 28; refine (callsIn_wide.2 HN7.out).mono ?_; rintro e w8 ⟨⟨_, rfl⟩, hl8, hT8⟩)
              go_roundw
              case rel => exact ⟨q + 1, k', ls', pre ++ P.map (fun f => (f, (q : Int))), by omega, by go_num, HI6.out.note hl8 (Nat.le_refl _) hT8, HJ.out _ _ _ HJ7.out (hT8.mono fun b _ hb => by subst hb; exact ⟨HI6.out.gl.1, HI6.out.ls.isMap⟩), Lib.hid (by rw [← HE2.out, List.append_assoc])⟩
              case measure => simp [intOf]; omega
      · obtain rfl : q = t.length := by omega
        have HEnd : Hid (pre = racesL chans t) := Lib.hid (by have := hEq.out; rw [List.drop_length] at this; simpa [racesGo] using this)
        gi_wp2
        go_end0
        exact ⟨⟨_, rfl⟩, .inl ⟨_, HEnd.out, HJp.out⟩⟩
end Go.Proofs.Ytgikoajclkfoiaa
