/- ClockTimes: ticks at two places come to the same in either order; for every input. -/
import Derived.Test.YtaiaipejmggbeaaClockKnown
namespace Go.Proofs.Ytaiaipejmggbeaa
set_option linter.unusedVariables false
set_option linter.unusedSimpArgs false
set_option maxRecDepth 100000
open Go.ChangeShapes Go.WideShapes Go.ChangeAt Go.RowKit

theorem u8_of {l : List Int} (h : ∀ n ∈ l, (Lit.int .u8 n).wf = true) : ∀ x ∈ l, 0 ≤ x ∧ x < 256 := fun x hx => by have := bounds_u8 (h x hx); omega
theorem tick_tick (a : List Int) (i j : Int) : sameB (tickL (tickL a i) j) (tickL (tickL a j) i) = true := by
  by_cases hi : 0 ≤ i ∧ i < 64
  · obtain ⟨p, rfl⟩ := Int.eq_ofNat_of_zero_le hi.1
    by_cases hj : 0 ≤ j ∧ j < 64
    · obtain ⟨q, rfl⟩ := Int.eq_ofNat_of_zero_le hj.1
      refine (same_iff _ _).2 fun k => ?_
      rw [tick_nat _ p (by omega), tick_nat _ q (by omega), tick_nat _ q (by omega), tick_nat _ p (by omega), tickN_at, tickN_at, tickN_at, tickN_at]
      by_cases hp : k = p
      · by_cases hq : k = q
        · simp only [if_pos hp, if_pos hq]
        · simp only [if_pos hp, if_neg hq]
      · by_cases hq : k = q
        · simp only [if_neg hp, if_pos hq]
        · simp only [if_neg hp, if_neg hq]
    · rw [tick_out _ j (by omega), tick_out _ j (by omega)]; exact (same_iff _ _).2 fun _ => rfl
  · rw [tick_out _ i (by omega), tick_out _ i (by omega)]; exact (same_iff _ _).2 fun _ => rfl
theorem same_self (a : List Int) : sameB a a = true := (same_iff _ _).2 fun _ => rfl
set_option maxHeartbeats 2000000 in
theorem clockTimes_walk (a0 : Option Addr) (len0 cap0 : Nat) (l0 : List Int) (k : Int) (m : Int) (w : World) (w0 : SliceIn .u8 w a0 len0 cap0 l0) (wk : (Lit.int .u8 k).wf = true) (wm : (Lit.int .u8 m).wf = true) :
    Calls Try.prog 4 #[.slice a0 len0 cap0, .int .u8 k, .int .u8 m] w fun e w' => e = .returned (.bool true) ∧ Below w.heap.size w w' := by
  obtain rfl := w0.len_eq
  have Ic_0 := Lib.hid w0.row
  have HUc := Lib.hid (u8_of w0.fit)
  have hbk := bounds_u8 wk
  have hbm := bounds_u8 wm
  have hcap := w0.cap_le
  have hcl := w0.len_le
  unfold maxLen at hcap
  clear w0 wk wm
  by_cases hs : 200 < l0.length
  · have hd : (200 : Int) < (l0.length : Int) := by omega
    clear hs
    go_enter Try.func4, Try.ntmps4
    go_wp2_with (go_at_call 8; refine (known_any _).mono ?_; rintro e w1 ⟨rfl, hB1⟩)
    go_ret
    exact ⟨rfl, hB1⟩
  · have hd : ¬ (200 : Int) < (l0.length : Int) := by omega
    have hk0 : 0 ≤ k % 64 ∧ k % 64 < 64 := by omega
    have hm0 : 0 ≤ m % 64 ∧ m % 64 < 64 := by omega
    obtain ⟨hk1, hk2⟩ := hk0
    obtain ⟨hm1, hm2⟩ := hm0
    go_enter Try.func4, Try.ntmps4
    go_wp2_with fail
    refine (known_any w).mono ?_
    rintro e u1 ⟨rfl, hB⟩
    have Ic_1 := Lib.hid (Ic_0.out.up hB)
    have HB_1 := Lib.hid hB
    clear hB Ic_0
    go_wp2_with fail
    refine (near_any l0 a0 cap0 u1 Ic_1.out HUc.out (by omega)).mono ?_
    rintro e u2 ⟨aA, cA, A, qA, rfl, hR, hB⟩
    have EA := Lib.hid qA.out
    have lA : A.length ≤ 900 := by rw [EA.out, near_len]; omega
    have RA_2 := Lib.hid hR
    clear hR qA
    have Ic_2 := Lib.hid (Ic_1.out.up hB)
    have HB_2 := Lib.hid (below_next HB_1.out hB)
    clear hB Ic_1 HB_1
    have l9 : A.length ≤ 200 := by rw [EA.out, near_len]; omega
    go_wp2_with fail
    refine (tick_any A aA cA (k % 64) u2 RA_2.out (by omega)).mono ?_
    rintro e u3 ⟨aP, cP, P, qP, rfl, hR, hB⟩
    have EP := Lib.hid qP.out
    have lP : P.length ≤ 900 := by rw [EP.out]; have := tickL_len A (k % 64); omega
    have RP_3 := Lib.hid hR
    clear hR qP
    have RA_3 := Lib.hid (RA_2.out.up hB)
    have HB_3 := Lib.hid (below_next HB_2.out hB)
    clear hB RA_2 HB_2
    go_wp2_with fail
    refine (tick_any P aP cP (m % 64) u3 RP_3.out (by omega)).mono ?_
    rintro e u4 ⟨aQ, cQ, Q, qQ, rfl, hR, hB⟩
    have EQ := Lib.hid qQ.out
    have lQ : Q.length ≤ 900 := by rw [EQ.out]; have := tickL_len P (m % 64); omega
    have RQ_4 := Lib.hid hR
    clear hR qQ
    have RA_4 := Lib.hid (RA_3.out.up hB)
    have RP_4 := Lib.hid (RP_3.out.up hB)
    have HB_4 := Lib.hid (below_next HB_3.out hB)
    clear hB RA_3 RP_3 HB_3
    go_wp2_with fail
    refine (tick_any A aA cA (m % 64) u4 RA_4.out (by omega)).mono ?_
    rintro e u5 ⟨aS, cS, S, qS, rfl, hR, hB⟩
    have ES := Lib.hid qS.out
    have lS : S.length ≤ 900 := by rw [ES.out]; have := tickL_len A (m % 64); omega
    have RS_5 := Lib.hid hR
    clear hR qS
    have RA_5 := Lib.hid (RA_4.out.up hB)
    have RP_5 := Lib.hid (RP_4.out.up hB)
    have RQ_5 := Lib.hid (RQ_4.out.up hB)
    have HB_5 := Lib.hid (below_next HB_4.out hB)
    clear hB RA_4 RP_4 RQ_4 HB_4
    go_wp2_with fail
    refine (tick_any S aS cS (k % 64) u5 RS_5.out (by omega)).mono ?_
    rintro e u6 ⟨aT, cT, T, qT, rfl, hR, hB⟩
    have ET := Lib.hid qT.out
    have lT : T.length ≤ 900 := by rw [ET.out]; have := tickL_len S (k % 64); omega
    have RT_6 := Lib.hid hR
    clear hR qT
    have RA_6 := Lib.hid (RA_5.out.up hB)
    have RP_6 := Lib.hid (RP_5.out.up hB)
    have RQ_6 := Lib.hid (RQ_5.out.up hB)
    have RS_6 := Lib.hid (RS_5.out.up hB)
    have HB_6 := Lib.hid (below_next HB_5.out hB)
    clear hB RA_5 RP_5 RQ_5 RS_5 HB_5
    go_wp2_with fail
    refine (cSame_is true Q T aQ aT cQ cT _ _ u6 (by rw [EQ.out, ET.out, EP.out, ES.out]; exact tick_tick _ _ _) RQ_6.out RT_6.out (by omega) (by omega)).mono ?_
    rintro e w' ⟨rfl, rfl⟩
    go_wp2_with fail
    refine (tick_any A aA cA (-1) u6 RA_6.out (by omega)).mono ?_
    rintro e u7 ⟨aU, cU, U, qU, rfl, hR, hB⟩
    have EU := Lib.hid qU.out
    have lU : U.length ≤ 900 := by rw [EU.out]; have := tickL_len A (-1); omega
    have RU_7 := Lib.hid hR
    clear hR qU
    have RA_7 := Lib.hid (RA_6.out.up hB)
    have RP_7 := Lib.hid (RP_6.out.up hB)
    have RQ_7 := Lib.hid (RQ_6.out.up hB)
    have RS_7 := Lib.hid (RS_6.out.up hB)
    have RT_7 := Lib.hid (RT_6.out.up hB)
    have HB_7 := Lib.hid (below_next HB_6.out hB)
    clear hB RA_6 RP_6 RQ_6 RS_6 RT_6 HB_6
    go_wp2_with fail
    refine (cSame_is true U A aU aA cU cA _ _ u7 (by rw [EU.out, tick_out _ _ (by omega)]; exact same_self _) RU_7.out RA_7.out (by omega) (by omega)).mono ?_
    rintro e w' ⟨rfl, rfl⟩
    go_wp2_with fail
    refine (tick_any A aA cA 64 u7 RA_7.out (by omega)).mono ?_
    rintro e u8 ⟨aV, cV, V, qV, rfl, hR, hB⟩
    have EV := Lib.hid qV.out
    have lV : V.length ≤ 900 := by rw [EV.out]; have := tickL_len A 64; omega
    have RV_8 := Lib.hid hR
    clear hR qV
    have RA_8 := Lib.hid (RA_7.out.up hB)
    have RP_8 := Lib.hid (RP_7.out.up hB)
    have RQ_8 := Lib.hid (RQ_7.out.up hB)
    have RS_8 := Lib.hid (RS_7.out.up hB)
    have RT_8 := Lib.hid (RT_7.out.up hB)
    have RU_8 := Lib.hid (RU_7.out.up hB)
    have HB_8 := Lib.hid (below_next HB_7.out hB)
    clear hB RA_7 RP_7 RQ_7 RS_7 RT_7 RU_7 HB_7
    go_wp2_with fail
    refine (cSame_is true V A aV aA cV cA _ _ u8 (by rw [EV.out, tick_out _ _ (by omega)]; exact same_self _) RV_8.out RA_8.out (by omega) (by omega)).mono ?_
    rintro e w' ⟨rfl, rfl⟩
    go_wp2
    go_ret
    exact ⟨rfl, HB_8.out⟩

set_option maxRecDepth 100000 in
theorem clockTimes_lifted (os : Os) (started : os.Started) (H : Type) (enc : TypeId × Value → H) :
    ReturnsInHanded {} Try.checked os 4 .any (Rows.clockTimesSpec.pre6 enc Try.prog Try.f4 Rows.clockTimesRow.domain false) (Rows.clockTimesSpec.post enc Try.prog Try.f4 false true false false) := by
  refine returnsInHanded_of_change (C := Try.checked) law_own started (by kernel_rfl) Try.func4
    (ChangeSpec.witness6 (enc := enc) (C := Try.checked) false ⟨#[], #[.slice none 0 0, .int .u8 0, .int .u8 0], []⟩ 8 (by kernel_rfl) (by kernel_rfl) (by kernel_rfl) (by kernel_rfl)) ?_
  intro W base args ds gs before hval0 hW hcnd _
  have hval : ∀ (j : Nat) t v, Try.f4.params[j]? = some t → args[j]? = some v → Value.okWide Try.prog W .any base t v := hval0
  have hW' := hW
  obtain ⟨p, q, hA0, hV, rfl, hfz, hnd⟩ := hW
  have hA : DataW.TrodAll enc Try.prog W 0 (fun _ => true) true Try.f4.params.toList args.toList ds p := hA0
  rw [Try.params4] at hA hval
  obtain ⟨v0, vs0, d0, ds0, p0, q0, hargs, rfl, rfl, h0, r0⟩ := trodAll_cons hA
  obtain ⟨v1, vs1, d1, ds1, p1, q1, rfl, rfl, rfl, h1, r1⟩ := trodAll_cons r0
  obtain ⟨v2, vs2, d2, ds2, p2, q2, rfl, rfl, rfl, h2, r2⟩ := trodAll_cons r1
  obtain ⟨rfl, rfl, rfl⟩ := trodAll_nil r2
  obtain rfl : args = #[v0, v1, v2] := by cases args; simp_all
  obtain ⟨rfl, rfl⟩ := trodVars_none hV
  obtain ⟨a0, len0, cap0, rfl⟩ := okWide_slice Try.underlying22 (hval 0 22 v0 rfl rfl)
  have k0 := h0
  have lt0 : ∀ x ∈ p0, x.block < W.heap.size := by obtain ⟨m, hm⟩ := k0; exact DataW.trod_lt m _ _ _ hm
  obtain ⟨l0, w0⟩ : ∃ l, SliceIn .u8 W a0 len0 cap0 l := by
    obtain ⟨fuel, hf⟩ := h0
    rcases open_ints Try.underlying22 Try.underlying5 (by kernel_rfl) hf with ⟨hcs, _⟩ | ⟨x, l, c, zs, hcs, _, hl, hm, hz, _, hcell, hwz⟩
    · simp [Value.cells] at hcs
      obtain ⟨rfl, rfl, rfl⟩ := hcs
      exact ⟨[], SliceIn.nil _ _⟩
    · simp [Value.cells] at hcs
      obtain ⟨rfl, rfl, rfl⟩ := hcs
      exact ⟨_, SliceIn.of hl hm (by simpa using hz) hcell hwz⟩
  obtain ⟨a1, rfl, rfl, rfl, w1⟩ := open_int Try.underlying5 (hval 1 5 v1 rfl rfl) h1
  obtain ⟨a2, rfl, rfl, rfl, w2⟩ := open_int Try.underlying5 (hval 2 5 v2 rfl rfl) h2
  clear hA0 hval0
  refine (clockTimes_walk a0 len0 cap0 l0 a1 a2 W w0 w1 w2).mono fun e W' ⟨he, bel⟩ => ?_
  subst he
  exact ⟨_, rfl, _, _, _, [], _, [], hW', trodAll_mk1 (shut_bool Try.underlying4 _), (trodAll_cons_mk (Below.trod law_laidOut (by kernel_rfl) (of_decide_eq_true (by kernel_rfl)) k0 bel lt0) (trodAll_cons_mk (shut_int Try.underlying5 w1) (trodAll_cons_mk (shut_int Try.underlying5 w2) trodAll_mk0))), rfl, bel.frame _, fun h => by cases h⟩

/-- The statement. -/
theorem clockTimes_holds : Rows.ClockTimesSaid :=
  OpenClaim.holds_of_wide 4 Try.f4 rfl rfl rfl rfl rfl rfl rfl ⟨rfl, rfl, rfl, rfl, rfl⟩ rfl rfl rfl rfl rfl (by kernel_rfl) Try.func4 (by kernel_rfl)
    (of_decide_eq_true (by kernel_rfl)) (by unfold Func.isWrapper; first | (rw [if_pos (by decide +kernel)]; kernel_rfl) | (rw [if_neg (by decide +kernel)]; exact ⟨rfl, rfl⟩))
    (fun os started H enc _ => clockTimes_lifted os started H enc)
end Go.Proofs.Ytaiaipejmggbeaa
