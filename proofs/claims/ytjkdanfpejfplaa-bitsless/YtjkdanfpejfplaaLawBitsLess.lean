/- BitsLess: a set of all below a number has just these; for every input. -/
import Derived.Test.YtjkdanfpejfplaaLawKit
import Derived.Test.YtjkdanfpejfplaaBitsKnown
import Derived.Test.YtjkdanfpejfplaaBitsMath3
namespace Go.Proofs.Ytjkdanfpejfplaa
set_option linter.unusedVariables false
set_option linter.unusedSimpArgs false
open Go.ChangeShapes Go.WideShapes Go.ChangeAt Go.RowKit

theorem less_has (a b : Int) (ha : 0 ≤ a) (hb : 0 ≤ b) : hasB (allN (a % 65)) (b % 64) = decide (b % 64 < a % 65) := by
  obtain ⟨k, hk⟩ : ∃ k : Nat, a % 65 = (k : Int) := ⟨(a % 65).toNat, by omega⟩
  obtain ⟨j, hj⟩ : ∃ j : Nat, b % 64 = (j : Int) := ⟨(b % 64).toNat, by omega⟩
  rw [hk, hj, has_all k j (by omega) (by omega)]
theorem less_first (a b : Int) (ha : 0 ≤ a) (hb : 0 ≤ b) : ((firstOf (numsTo (allN (a % 65)) 64) (b % 64) == b % 64) == decide (b % 64 < a % 65)) = true := by
  obtain ⟨k, hk⟩ : ∃ k : Nat, a % 65 = (k : Int) := ⟨(a % 65).toNat, by omega⟩
  obtain ⟨j, hj⟩ : ∃ j : Nat, b % 64 = (j : Int) := ⟨(b % 64).toNat, by omega⟩
  rw [hk, hj]
  by_cases h : j < k
  · rw [first_all_yes k j (by omega) h]
    have : (j : Int) < (k : Int) := by omega
    simp [this]
  · rw [first_all_no k j (by omega) (by omega)]
    have h1 : ¬ (j : Int) < (k : Int) := by omega
    have h2 : ¬ (-1 : Int) = (j : Int) := by omega
    simp [h1, h2]

set_option maxHeartbeats 1000000 in
theorem bitsLess_walk (a0 a1 : Int) (w : World) (w0 : (Lit.int .u8 a0).wf = true) (w1 : (Lit.int .u8 a1).wf = true) :
    Calls Try.prog 4 #[.int .u8 a0, .int .u8 a1] w fun e w' => e = .returned (.bool true) ∧ Below w.heap.size w w' := by
  obtain ⟨b0, b1⟩ := bounds_u8 w0
  obtain ⟨c0, c1⟩ := bounds_u8 w1
  clear w0 w1
  have HH := Lib.hid (less_has a0 a1 b0 c0)
  have HF := Lib.hid (less_first a0 a1 b0 c0)
  go_enter Try.func4, Try.ntmps4
  go_wp2_with fail
  refine (known_any _).mono ?_
  rintro e w1 ⟨rfl, hB1⟩
  go_wp2_with fail
  refine (all_any _ _).mono ?_
  rintro e w2 ⟨rfl, rfl⟩
  go_wp2_with fail
  refine (has_any _ _ _ (allN_lt _)).mono ?_
  rintro e w3 ⟨rfl, rfl⟩
  rw [HH.out]
  go_wp2_with fail
  refine (all_any _ _).mono ?_
  rintro e w4 ⟨rfl, rfl⟩
  go_wp2_with fail
  refine (first_any _ _ _ (allN_lt _)).mono ?_
  rintro e w5 ⟨rfl, hB5⟩
  go_wp2_with fail
  go_ret
  exact ⟨ret_bool HF.out, below_next hB1 hB5⟩

set_option maxRecDepth 100000 in
theorem bitsLess_lifted (os : Os) (started : os.Started) (H : Type) (enc : TypeId × Value → H) :
    ReturnsInHanded {} Try.checked os 4 .any (Rows.bitsLessSpec.pre6 enc Try.prog Try.f4 Rows.bitsLessRow.domain false) (Rows.bitsLessSpec.post enc Try.prog Try.f4 false true false false) := by
  refine returnsInHanded_of_change (C := Try.checked) law_own started (by kernel_rfl) Try.func4
    (ChangeSpec.witness6 (enc := enc) (C := Try.checked) false ⟨#[], #[.int .u8 0, .int .u8 0], []⟩ 8 (by kernel_rfl) (by kernel_rfl) (by kernel_rfl) (by kernel_rfl)) ?_
  intro W base args ds gs before hval0 hW hcnd _
  have hval : ∀ (j : Nat) t v, Try.f4.params[j]? = some t → args[j]? = some v → Value.okWide Try.prog W .any base t v := hval0
  have hW' := hW
  obtain ⟨p, q, hA0, hV, rfl, hfz, hnd⟩ := hW
  have hA : DataW.TrodAll enc Try.prog W 0 (fun _ => true) true Try.f4.params.toList args.toList ds p := hA0
  rw [Try.params4] at hA hval
  obtain ⟨v0, vs0, d0, ds0, p0, q0, hargs, rfl, rfl, h0, r0⟩ := trodAll_cons hA
  obtain ⟨v1, vs1, d1, ds1, p1, q1, rfl, rfl, rfl, h1, r1⟩ := trodAll_cons r0
  obtain ⟨rfl, rfl, rfl⟩ := trodAll_nil r1
  obtain rfl : args = #[v0, v1] := by cases args; simp_all
  obtain ⟨rfl, rfl⟩ := trodVars_none hV
  obtain ⟨a0, rfl, rfl, rfl, w0⟩ := open_int Try.underlying5 (hval 0 5 v0 rfl rfl) h0
  obtain ⟨a1, rfl, rfl, rfl, w1⟩ := open_int Try.underlying5 (hval 1 5 v1 rfl rfl) h1
  clear hA0 hval0
  refine (bitsLess_walk a0 a1 W w0 w1).mono fun e W' ⟨he, bel⟩ => ?_
  subst he
  exact ⟨_, rfl, _, _, _, [], _, [], hW', trodAll_mk1 (shut_bool Try.underlying4 _), (trodAll_cons_mk (shut_int Try.underlying5 w0) (trodAll_cons_mk (shut_int Try.underlying5 w1) trodAll_mk0)), rfl, bel.frame _, fun h => by cases h⟩

/-- The statement. -/
theorem bitsLess_holds : Rows.BitsLessSaid :=
  OpenClaim.holds_of_wide 4 Try.f4 rfl rfl rfl rfl rfl rfl rfl ⟨rfl, rfl, rfl, rfl, rfl⟩ rfl rfl rfl rfl rfl (by kernel_rfl) Try.func4 (by kernel_rfl)
    (of_decide_eq_true (by kernel_rfl)) (by unfold Func.isWrapper; first | (rw [if_pos (by decide +kernel)]; kernel_rfl) | (rw [if_neg (by decide +kernel)]; exact ⟨rfl, rfl⟩))
    (fun os started H enc _ => bitsLess_lifted os started H enc)

end Go.Proofs.Ytjkdanfpejfplaa
