/- ClockTicks: a clock is within itself with one more, and not the other way round; all other places stay; for every input. -/
import Derived.Test.YtaiaipejmggbeaaClockKnown
namespace Go.Proofs.Ytaiaipejmggbeaa
set_option linter.unusedVariables false
set_option linter.unusedSimpArgs false
set_option maxRecDepth 100000
open Go.ChangeShapes Go.WideShapes Go.ChangeAt Go.RowKit

theorem u8_of {l : List Int} (h : ∀ n ∈ l, (Lit.int .u8 n).wf = true) : ∀ x ∈ l, 0 ≤ x ∧ x < 256 := fun x hx => by have := bounds_u8 (h x hx); omega
theorem tick_small (l : List Int) (i : Nat) (k : Nat) : atN (tickN (nearL l) i) k = atN (nearL l) k + (if k = i then 1 else 0) := by
  rw [tickN_at]
  by_cases h : k = i
  · rw [if_pos h, if_pos h, wrap_small (near_at l k).1 (near_at l k).2]
  · rw [if_neg h, if_neg h, Int.add_zero]
theorem tick_up {l a b : List Int} {i : Int} (hi : 0 ≤ i ∧ i < 64) (ha : a = nearL l) (hb : b = tickL a i) : withinB a b = true ∧ withinB b a = false ∧ 0 ≤ atL a i ∧ atL a i < 5 ∧ atL b i = atL a i + 1 ∧ ∀ p, p ≠ i → atL b p = atL a p := by
  obtain ⟨q, rfl⟩ := Int.eq_ofNat_of_zero_le hi.1
  rw [tick_nat _ q (by omega)] at hb
  subst ha; subst hb
  have hq := tick_small l q q
  rw [if_pos rfl] at hq
  refine ⟨(within_iff _ _).2 fun k => ?_, within_no (k := q) ?_, ?_, ?_, ?_, ?_⟩
  · rw [tick_small]; by_cases h : k = q
    · rw [if_pos h]; omega
    · rw [if_neg h]; omega
  · omega
  · rw [atL_nat]; exact (near_at l q).1
  · rw [atL_nat]; exact (near_at l q).2
  · rw [atL_nat, atL_nat]; exact hq
  · intro p hp
    by_cases h0 : p < 0
    · unfold atL; rw [if_pos h0, if_pos h0]
    · obtain ⟨r, rfl⟩ := Int.eq_ofNat_of_zero_le (by omega : 0 ≤ p)
      rw [atL_nat, atL_nat, tick_small, if_neg (by omega), Int.add_zero]
set_option maxHeartbeats 2000000 in
theorem clockTicks_walk (a0 : Option Addr) (len0 cap0 : Nat) (l0 : List Int) (k : Int) (m : Int) (w : World) (w0 : SliceIn .u8 w a0 len0 cap0 l0) (wk : (Lit.int .u8 k).wf = true) (wm : (Lit.int .u8 m).wf = true) :
    Calls Try.prog 7 #[.slice a0 len0 cap0, .int .u8 k, .int .u8 m] w fun e w' => e = .returned (.bool true) ∧ Below w.heap.size w w' := by
  obtain rfl := w0.len_eq
  have Ic_0 := Lib.hid w0.row
  have HUc := Lib.hid (u8_of w0.fit)
  have hbk := bounds_u8 wk
  have hbm := bounds_u8 wm
  have hcap := w0.cap_le
  have hcl := w0.len_le
  unfold maxLen at hcap
  clear w0 wk wm
  by_cases hs : 200 < l0.length
  · have hd : (200 : Int) < (l0.length : Int) := by omega
    clear hs
    go_enter Try.func7, Try.ntmps7
    go_wp2_with (go_at_call 8; refine (known_any _).mono ?_; rintro e w1 ⟨rfl, hB1⟩)
    go_ret
    exact ⟨rfl, hB1⟩
  · have hd : ¬ (200 : Int) < (l0.length : Int) := by omega
    have hk0 : 0 ≤ k % 64 ∧ k % 64 < 64 := by omega
    have HK := Lib.hid hk0
    have hm0 : 0 ≤ m % 80 ∧ m % 80 < 80 := by omega
    obtain ⟨hk1, hk2⟩ := hk0
    obtain ⟨hm1, hm2⟩ := hm0
    by_cases hne : m % 80 = k % 64
    · have hne1 : (m % 80 == k % 64) = true := by simp; omega
      go_enter Try.func7, Try.ntmps7
      go_wp2_with fail
      refine (known_any w).mono ?_
      rintro e u1 ⟨rfl, hB⟩
      have Ic_1 := Lib.hid (Ic_0.out.up hB)
      have HB_1 := Lib.hid hB
      clear hB Ic_0
      go_wp2_with fail
      refine (near_any l0 a0 cap0 u1 Ic_1.out HUc.out (by omega)).mono ?_
      rintro e u2 ⟨aA, cA, A, qA, rfl, hR, hB⟩
      have EA := Lib.hid qA.out
      have lA : A.length ≤ 900 := by rw [EA.out, near_len]; omega
      have RA_2 := Lib.hid hR
      clear hR qA
      have Ic_2 := Lib.hid (Ic_1.out.up hB)
      have HB_2 := Lib.hid (below_next HB_1.out hB)
      clear hB Ic_1 HB_1
      have l9 : A.length ≤ 200 := by rw [EA.out, near_len]; omega
      go_wp2_with fail
      refine (tick_any A aA cA (k % 64) u2 RA_2.out (by omega)).mono ?_
      rintro e u3 ⟨aP, cP, P, qP, rfl, hR, hB⟩
      have EP := Lib.hid qP.out
      have lP : P.length ≤ 900 := by rw [EP.out]; have := tickL_len A (k % 64); omega
      have RP_3 := Lib.hid hR
      clear hR qP
      have RA_3 := Lib.hid (RA_2.out.up hB)
      have Ic_3 := Lib.hid (Ic_2.out.up hB)
      have HB_3 := Lib.hid (below_next HB_2.out hB)
      clear hB RA_2 Ic_2 HB_2
      obtain ⟨t1, t2, t3, t4, t5, t6⟩ := tick_up HK.out EA.out EP.out
      obtain ⟨x, hx⟩ : ∃ x, atL A (k % 64) = x := ⟨_, rfl⟩
      rw [hx] at t3 t4 t5
      have T1 := Lib.hid t1
      have T2 := Lib.hid t2
      have T5 := Lib.hid t5
      have T6 := Lib.hid t6
      have HX := Lib.hid hx
      clear t1 t2 t5 t6 hx
      go_wp2_with fail
      refine (cWithin_is true A P aA aP cA cP _ _ u3 T1.out RA_3.out RP_3.out (by omega) (by omega)).mono ?_
      rintro e w' ⟨rfl, rfl⟩
      go_wp2_with fail
      refine (cWithin_is false P A aP aA cP cA _ _ u3 T2.out RP_3.out RA_3.out (by omega) (by omega)).mono ?_
      rintro e w' ⟨rfl, rfl⟩
      go_wp2_with fail
      refine (cAt_any P aP cP _ _ u3 RP_3.out).mono ?_
      rintro e w' ⟨rfl, rfl⟩
      rw [T5.out]
      go_wp2_with fail
      refine (cAt_any A aA cA _ _ u3 RA_3.out).mono ?_
      rintro e w' ⟨rfl, rfl⟩
      rw [HX.out]
      go_wp2_with fail
      refine (near_any l0 a0 cap0 u3 Ic_3.out HUc.out (by omega)).mono ?_
      rintro e u4 ⟨aZ, cZ, Z, qZ, rfl, hR, hB⟩
      have EZ := Lib.hid qZ.out
      have lZ : Z.length ≤ 900 := by rw [EZ.out, near_len]; omega
      have RZ_4 := Lib.hid hR
      clear hR qZ
      have RA_4 := Lib.hid (RA_3.out.up hB)
      have RP_4 := Lib.hid (RP_3.out.up hB)
      have Ic_4 := Lib.hid (Ic_3.out.up hB)
      have HB_4 := Lib.hid (below_next HB_3.out hB)
      clear hB RA_3 RP_3 Ic_3 HB_3
      obtain rfl : Z = A := by rw [EZ.out, EA.out]
      go_wp2_with fail
      refine (lsame_yes Z aA aZ cA cZ _ _ u4 RA_4.out RZ_4.out (by omega)).mono ?_
      rintro e u5 ⟨rfl, hB⟩
      have HB_5 := Lib.hid (below_next HB_4.out hB)
      clear hB
      go_wp2
      go_ret
      exact ⟨rfl, HB_5.out⟩
    · have hne1 : (m % 80 == k % 64) = false := by simp; omega
      go_enter Try.func7, Try.ntmps7
      go_wp2_with fail
      refine (known_any w).mono ?_
      rintro e u1 ⟨rfl, hB⟩
      have Ic_1 := Lib.hid (Ic_0.out.up hB)
      have HB_1 := Lib.hid hB
      clear hB Ic_0
      go_wp2_with fail
      refine (near_any l0 a0 cap0 u1 Ic_1.out HUc.out (by omega)).mono ?_
      rintro e u2 ⟨aA, cA, A, qA, rfl, hR, hB⟩
      have EA := Lib.hid qA.out
      have lA : A.length ≤ 900 := by rw [EA.out, near_len]; omega
      have RA_2 := Lib.hid hR
      clear hR qA
      have Ic_2 := Lib.hid (Ic_1.out.up hB)
      have HB_2 := Lib.hid (below_next HB_1.out hB)
      clear hB Ic_1 HB_1
      have l9 : A.length ≤ 200 := by rw [EA.out, near_len]; omega
      go_wp2_with fail
      refine (tick_any A aA cA (k % 64) u2 RA_2.out (by omega)).mono ?_
      rintro e u3 ⟨aP, cP, P, qP, rfl, hR, hB⟩
      have EP := Lib.hid qP.out
      have lP : P.length ≤ 900 := by rw [EP.out]; have := tickL_len A (k % 64); omega
      have RP_3 := Lib.hid hR
      clear hR qP
      have RA_3 := Lib.hid (RA_2.out.up hB)
      have Ic_3 := Lib.hid (Ic_2.out.up hB)
      have HB_3 := Lib.hid (below_next HB_2.out hB)
      clear hB RA_2 Ic_2 HB_2
      obtain ⟨t1, t2, t3, t4, t5, t6⟩ := tick_up HK.out EA.out EP.out
      obtain ⟨x, hx⟩ : ∃ x, atL A (k % 64) = x := ⟨_, rfl⟩
      rw [hx] at t3 t4 t5
      have T1 := Lib.hid t1
      have T2 := Lib.hid t2
      have T5 := Lib.hid t5
      have T6 := Lib.hid t6
      have HX := Lib.hid hx
      clear t1 t2 t5 t6 hx
      go_wp2_with fail
      refine (cWithin_is true A P aA aP cA cP _ _ u3 T1.out RA_3.out RP_3.out (by omega) (by omega)).mono ?_
      rintro e w' ⟨rfl, rfl⟩
      go_wp2_with fail
      refine (cWithin_is false P A aP aA cP cA _ _ u3 T2.out RP_3.out RA_3.out (by omega) (by omega)).mono ?_
      rintro e w' ⟨rfl, rfl⟩
      go_wp2_with fail
      refine (cAt_any P aP cP _ _ u3 RP_3.out).mono ?_
      rintro e w' ⟨rfl, rfl⟩
      rw [T5.out]
      go_wp2_with fail
      refine (cAt_any A aA cA _ _ u3 RA_3.out).mono ?_
      rintro e w' ⟨rfl, rfl⟩
      rw [HX.out]
      go_wp2_with fail
      refine (cAt_any P aP cP _ _ u3 RP_3.out).mono ?_
      rintro e w' ⟨rfl, rfl⟩
      rw [T6.out _ hne]
      go_wp2_with fail
      refine (cAt_any A aA cA _ _ u3 RA_3.out).mono ?_
      rintro e w' ⟨rfl, rfl⟩
      go_wp2_with fail
      refine (near_any l0 a0 cap0 u3 Ic_3.out HUc.out (by omega)).mono ?_
      rintro e u4 ⟨aZ, cZ, Z, qZ, rfl, hR, hB⟩
      have EZ := Lib.hid qZ.out
      have lZ : Z.length ≤ 900 := by rw [EZ.out, near_len]; omega
      have RZ_4 := Lib.hid hR
      clear hR qZ
      have RA_4 := Lib.hid (RA_3.out.up hB)
      have RP_4 := Lib.hid (RP_3.out.up hB)
      have Ic_4 := Lib.hid (Ic_3.out.up hB)
      have HB_4 := Lib.hid (below_next HB_3.out hB)
      clear hB RA_3 RP_3 Ic_3 HB_3
      obtain rfl : Z = A := by rw [EZ.out, EA.out]
      go_wp2_with fail
      refine (lsame_yes Z aA aZ cA cZ _ _ u4 RA_4.out RZ_4.out (by omega)).mono ?_
      rintro e u5 ⟨rfl, hB⟩
      have HB_5 := Lib.hid (below_next HB_4.out hB)
      clear hB
      go_wp2
      go_ret
      exact ⟨rfl, HB_5.out⟩

set_option maxRecDepth 100000 in
theorem clockTicks_lifted (os : Os) (started : os.Started) (H : Type) (enc : TypeId × Value → H) :
    ReturnsInHanded {} Try.checked os 7 .any (Rows.clockTicksSpec.pre6 enc Try.prog Try.f7 Rows.clockTicksRow.domain false) (Rows.clockTicksSpec.post enc Try.prog Try.f7 false true false false) := by
  refine returnsInHanded_of_change (C := Try.checked) law_own started (by kernel_rfl) Try.func7
    (ChangeSpec.witness6 (enc := enc) (C := Try.checked) false ⟨#[], #[.slice none 0 0, .int .u8 0, .int .u8 0], []⟩ 8 (by kernel_rfl) (by kernel_rfl) (by kernel_rfl) (by kernel_rfl)) ?_
  intro W base args ds gs before hval0 hW hcnd _
  have hval : ∀ (j : Nat) t v, Try.f7.params[j]? = some t → args[j]? = some v → Value.okWide Try.prog W .any base t v := hval0
  have hW' := hW
  obtain ⟨p, q, hA0, hV, rfl, hfz, hnd⟩ := hW
  have hA : DataW.TrodAll enc Try.prog W 0 (fun _ => true) true Try.f7.params.toList args.toList ds p := hA0
  rw [Try.params7] at hA hval
  obtain ⟨v0, vs0, d0, ds0, p0, q0, hargs, rfl, rfl, h0, r0⟩ := trodAll_cons hA
  obtain ⟨v1, vs1, d1, ds1, p1, q1, rfl, rfl, rfl, h1, r1⟩ := trodAll_cons r0
  obtain ⟨v2, vs2, d2, ds2, p2, q2, rfl, rfl, rfl, h2, r2⟩ := trodAll_cons r1
  obtain ⟨rfl, rfl, rfl⟩ := trodAll_nil r2
  obtain rfl : args = #[v0, v1, v2] := by cases args; simp_all
  obtain ⟨rfl, rfl⟩ := trodVars_none hV
  obtain ⟨a0, len0, cap0, rfl⟩ := okWide_slice Try.underlying22 (hval 0 22 v0 rfl rfl)
  have k0 := h0
  have lt0 : ∀ x ∈ p0, x.block < W.heap.size := by obtain ⟨m, hm⟩ := k0; exact DataW.trod_lt m _ _ _ hm
  obtain ⟨l0, w0⟩ : ∃ l, SliceIn .u8 W a0 len0 cap0 l := by
    obtain ⟨fuel, hf⟩ := h0
    rcases open_ints Try.underlying22 Try.underlying5 (by kernel_rfl) hf with ⟨hcs, _⟩ | ⟨x, l, c, zs, hcs, _, hl, hm, hz, _, hcell, hwz⟩
    · simp [Value.cells] at hcs
      obtain ⟨rfl, rfl, rfl⟩ := hcs
      exact ⟨[], SliceIn.nil _ _⟩
    · simp [Value.cells] at hcs
      obtain ⟨rfl, rfl, rfl⟩ := hcs
      exact ⟨_, SliceIn.of hl hm (by simpa using hz) hcell hwz⟩
  obtain ⟨a1, rfl, rfl, rfl, w1⟩ := open_int Try.underlying5 (hval 1 5 v1 rfl rfl) h1
  obtain ⟨a2, rfl, rfl, rfl, w2⟩ := open_int Try.underlying5 (hval 2 5 v2 rfl rfl) h2
  clear hA0 hval0
  refine (clockTicks_walk a0 len0 cap0 l0 a1 a2 W w0 w1 w2).mono fun e W' ⟨he, bel⟩ => ?_
  subst he
  exact ⟨_, rfl, _, _, _, [], _, [], hW', trodAll_mk1 (shut_bool Try.underlying4 _), (trodAll_cons_mk (Below.trod law_laidOut (by kernel_rfl) (of_decide_eq_true (by kernel_rfl)) k0 bel lt0) (trodAll_cons_mk (shut_int Try.underlying5 w1) (trodAll_cons_mk (shut_int Try.underlying5 w2) trodAll_mk0))), rfl, bel.frame _, fun h => by cases h⟩

/-- The statement. -/
theorem clockTicks_holds : Rows.ClockTicksSaid :=
  OpenClaim.holds_of_wide 7 Try.f7 rfl rfl rfl rfl rfl rfl rfl ⟨rfl, rfl, rfl, rfl, rfl⟩ rfl rfl rfl rfl rfl (by kernel_rfl) Try.func7 (by kernel_rfl)
    (of_decide_eq_true (by kernel_rfl)) (by unfold Func.isWrapper; first | (rw [if_pos (by decide +kernel)]; kernel_rfl) | (rw [if_neg (by decide +kernel)]; exact ⟨rfl, rfl⟩))
    (fun os started H enc _ => clockTicks_lifted os started H enc)
end Go.Proofs.Ytaiaipejmggbeaa
