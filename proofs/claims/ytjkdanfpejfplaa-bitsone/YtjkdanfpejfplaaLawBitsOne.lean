/- BitsOne: what is put in is in, what is taken out is out, nothing else changes; for every input. -/
import Derived.Test.YtjkdanfpejfplaaLawKit
import Derived.Test.YtjkdanfpejfplaaBitsKnown
import Derived.Test.YtjkdanfpejfplaaBitsMath3
namespace Go.Proofs.Ytjkdanfpejfplaa
set_option linter.unusedVariables false
set_option linter.unusedSimpArgs false
open Go.ChangeShapes Go.WideShapes Go.ChangeAt Go.RowKit

theorem row_one (w : World) (g : Nat) (x : Int) (h0 : w.cell? ⟨g, 0, none⟩ = some (.int .i64 x)) : RowOf .i64 w (g + 1) (some ⟨g, 0, none⟩) [x] := by
  intro i z hz
  match i, hz with
  | 0, hz => simp at hz; subst hz; exact ⟨g, 0, rfl, by omega, h0⟩
theorem one_in (s : Nat) (i : Int) (h0 : 0 ≤ i) (h1 : i < 64) : hasB (putN s [i]) i = true := by
  obtain ⟨j, rfl⟩ := Int.eq_ofNat_of_zero_le h0
  have : j < 64 := by omega
  rw [hasB_nat, putN_bit]; simp [this]
theorem one_out (s : Nat) (i : Int) (hs : s < U) (h0 : 0 ≤ i) (h1 : i < 64) : hasB (cutN s [i]) i = false := by
  obtain ⟨j, rfl⟩ := Int.eq_ofNat_of_zero_le h0
  rw [hasB_nat, cutN_bit _ _ _ hs]; simp
theorem one_in_other (s : Nat) (i k : Int) (h : ¬ k = i) : hasB (putN s [i]) k = hasB s k := by
  by_cases h0 : 0 ≤ k
  · obtain ⟨j, rfl⟩ := Int.eq_ofNat_of_zero_le h0
    rw [hasB_nat, hasB_nat, putN_bit]; simp [h]
  · rw [hasB_no _ _ (by omega), hasB_no _ _ (by omega)]
theorem one_out_other (s : Nat) (i k : Int) (hs : s < U) (h : ¬ k = i) : hasB (cutN s [i]) k = hasB s k := by
  by_cases h0 : 0 ≤ k
  · obtain ⟨j, rfl⟩ := Int.eq_ofNat_of_zero_le h0
    rw [hasB_nat, hasB_nat, cutN_bit _ _ _ hs]; simp [h]
  · rw [hasB_no _ _ (by omega), hasB_no _ _ (by omega)]
theorem one_back (s : Nat) (i : Int) (hs : s < U) : putN (cutN s [i]) [i] = putN s [i] := by
  apply Nat.eq_of_testBit_eq
  intro j
  rw [putN_bit, putN_bit, cutN_bit _ _ _ hs]
  by_cases hj : j < 64
  · by_cases e : (j : Int) = i
    · simp [e, hj]
    · simp [e]
  · rw [bit_high s j hs (by omega)]; simp

set_option maxHeartbeats 2000000 in
theorem bitsOne_walk (a0 a1 a2 : Int) (w : World) (w0 : (Lit.int .u64 a0).wf = true) (w1 : (Lit.int .u8 a1).wf = true) (w2 : (Lit.int .u8 a2).wf = true) :
    Calls Try.prog 9 #[.int .u64 a0, .int .u8 a1, .int .u8 a2] w fun e w' => e = .returned (.bool true) ∧ Below w.heap.size w w' := by
  obtain ⟨s, rfl, hs⟩ := u64_in w0
  obtain ⟨b0, b1⟩ := bounds_u8 w1
  obtain ⟨c0, c1⟩ := bounds_u8 w2
  clear w0 w1 w2
  have H1 := Lib.hid (one_in s (a1 % 64) (by omega) (by omega))
  have H2 := Lib.hid (one_out s (a1 % 64) hs (by omega) (by omega))
  have H5 := Lib.hid (one_back s (a1 % 64) hs)
  go_enter Try.func9, Try.ntmps9
  go_wp2_with fail
  refine (with_any s _ _ [a1 % 64] _ _ hs (row_one _ _ _ (by simp)) (by simp)).mono ?_
  rintro e w1 ⟨rfl, rfl⟩
  go_wp2_with fail
  refine (without_any s _ _ [a1 % 64] _ _ hs (row_one _ _ _ (by simp)) (by simp)).mono ?_
  rintro e w2 ⟨rfl, rfl⟩
  go_wp2_with fail
  refine (known_any _).mono ?_
  rintro e w3 ⟨rfl, hB3⟩
  go_wp2_with fail
  refine (has_any _ _ _ (putN_lt _ _ hs)).mono ?_
  rintro e w4 ⟨rfl, rfl⟩
  rw [H1.out]
  go_wp2_with fail
  refine (has_any _ _ _ (cutN_lt _ _ hs)).mono ?_
  rintro e w5 ⟨rfl, rfl⟩
  rw [H2.out]
  by_cases hk : a2 % 64 = a1 % 64
  · have hb : (a2 % 64 == a1 % 64) = true := beq_iff_eq.2 hk
    clear hk
    go_wp2_with fail
    refine (with_any _ _ _ [a1 % 64] _ _ (cutN_lt _ _ hs) (row_one _ _ _ (by simp)) (by simp)).mono ?_
    rintro e w6 ⟨rfl, rfl⟩
    rw [H5.out]
    go_wp2_with fail
    go_ret
    exact ⟨rfl, below_new (below_next (below_new (below_new (Below.refl _ _) _) _) hB3) _⟩
  · have hb : (a2 % 64 == a1 % 64) = false := beq_eq_false_iff_ne.2 hk
    have H3 := Lib.hid (one_in_other s (a1 % 64) (a2 % 64) hk)
    have H4 := Lib.hid (one_out_other s (a1 % 64) (a2 % 64) hs hk)
    clear hk
    go_wp2_with fail
    refine (has_any _ _ _ (putN_lt _ _ hs)).mono ?_
    rintro e w6 ⟨rfl, rfl⟩
    rw [H3.out]
    go_wp2_with fail
    refine (has_any s _ _ hs).mono ?_
    rintro e w7 ⟨rfl, rfl⟩
    go_wp2_with fail
    refine (has_any _ _ _ (cutN_lt _ _ hs)).mono ?_
    rintro e w8 ⟨rfl, rfl⟩
    rw [H4.out]
    go_wp2_with fail
    refine (has_any s _ _ hs).mono ?_
    rintro e w9 ⟨rfl, rfl⟩
    go_wp2_with fail
    refine (with_any _ _ _ [a1 % 64] _ _ (cutN_lt _ _ hs) (row_one _ _ _ (by simp)) (by simp)).mono ?_
    rintro e w10 ⟨rfl, rfl⟩
    rw [H5.out]
    go_wp2_with fail
    go_ret
    exact ⟨rfl, below_new (below_next (below_new (below_new (Below.refl _ _) _) _) hB3) _⟩

set_option maxRecDepth 100000 in
theorem bitsOne_lifted (os : Os) (started : os.Started) (H : Type) (enc : TypeId × Value → H) :
    ReturnsInHanded {} Try.checked os 9 .any (Rows.bitsOneSpec.pre6 enc Try.prog Try.f9 Rows.bitsOneRow.domain false) (Rows.bitsOneSpec.post enc Try.prog Try.f9 false true false false) := by
  refine returnsInHanded_of_change (C := Try.checked) law_own started (by kernel_rfl) Try.func9
    (ChangeSpec.witness6 (enc := enc) (C := Try.checked) false ⟨#[], #[.int .u64 0, .int .u8 0, .int .u8 0], []⟩ 8 (by kernel_rfl) (by kernel_rfl) (by kernel_rfl) (by kernel_rfl)) ?_
  intro W base args ds gs before hval0 hW hcnd _
  have hval : ∀ (j : Nat) t v, Try.f9.params[j]? = some t → args[j]? = some v → Value.okWide Try.prog W .any base t v := hval0
  have hW' := hW
  obtain ⟨p, q, hA0, hV, rfl, hfz, hnd⟩ := hW
  have hA : DataW.TrodAll enc Try.prog W 0 (fun _ => true) true Try.f9.params.toList args.toList ds p := hA0
  rw [Try.params9] at hA hval
  obtain ⟨v0, vs0, d0, ds0, p0, q0, hargs, rfl, rfl, h0, r0⟩ := trodAll_cons hA
  obtain ⟨v1, vs1, d1, ds1, p1, q1, rfl, rfl, rfl, h1, r1⟩ := trodAll_cons r0
  obtain ⟨v2, vs2, d2, ds2, p2, q2, rfl, rfl, rfl, h2, r2⟩ := trodAll_cons r1
  obtain ⟨rfl, rfl, rfl⟩ := trodAll_nil r2
  obtain rfl : args = #[v0, v1, v2] := by cases args; simp_all
  obtain ⟨rfl, rfl⟩ := trodVars_none hV
  obtain ⟨a0, rfl, rfl, rfl, w0⟩ := open_int Try.underlying22 (hval 0 22 v0 rfl rfl) h0
  obtain ⟨a1, rfl, rfl, rfl, w1⟩ := open_int Try.underlying5 (hval 1 5 v1 rfl rfl) h1
  obtain ⟨a2, rfl, rfl, rfl, w2⟩ := open_int Try.underlying5 (hval 2 5 v2 rfl rfl) h2
  clear hA0 hval0
  refine (bitsOne_walk a0 a1 a2 W w0 w1 w2).mono fun e W' ⟨he, bel⟩ => ?_
  subst he
  exact ⟨_, rfl, _, _, _, [], _, [], hW', trodAll_mk1 (shut_bool Try.underlying4 _), (trodAll_cons_mk (shut_int Try.underlying22 w0) (trodAll_cons_mk (shut_int Try.underlying5 w1) (trodAll_cons_mk (shut_int Try.underlying5 w2) trodAll_mk0))), rfl, bel.frame _, fun h => by cases h⟩

/-- The statement. -/
theorem bitsOne_holds : Rows.BitsOneSaid :=
  OpenClaim.holds_of_wide 9 Try.f9 rfl rfl rfl rfl rfl rfl rfl ⟨rfl, rfl, rfl, rfl, rfl⟩ rfl rfl rfl rfl rfl (by kernel_rfl) Try.func9 (by kernel_rfl)
    (of_decide_eq_true (by kernel_rfl)) (by unfold Func.isWrapper; first | (rw [if_pos (by decide +kernel)]; kernel_rfl) | (rw [if_neg (by decide +kernel)]; exact ⟨rfl, rfl⟩))
    (fun os started H enc _ => bitsOne_lifted os started H enc)

end Go.Proofs.Ytjkdanfpejfplaa
