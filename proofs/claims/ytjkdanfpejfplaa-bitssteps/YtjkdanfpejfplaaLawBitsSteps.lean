/- BitsSteps: going on by First, from behind the last one, all numbers of a set are come to, rising; for every input. -/
import Derived.Test.YtjkdanfpejfplaaLawKit
import Derived.Test.YtjkdanfpejfplaaBitsKnown
import Derived.Test.YtjkdanfpejfplaaBitsMath3
namespace Go.Proofs.Ytjkdanfpejfplaa
set_option linter.unusedVariables false
set_option linter.unusedSimpArgs false
open Go.ChangeShapes Go.WideShapes Go.ChangeAt Go.RowKit

theorem nums_next (s k : Nat) (x : Int) (h : (numsTo s 64)[k]? = some x) : (∃ i : Nat, x = (i : Int) ∧ i < 64 ∧ s.testBit i = true) ∧ (numsTo s 64).take k = numsTo s x.toNat := by
  have hk : ∀ m, ∀ k x, (numsTo s m)[k]? = some x → (∃ i : Nat, x = (i : Int) ∧ i < m ∧ s.testBit i = true) ∧ (numsTo s m).take k = numsTo s x.toNat := by
    intro m
    induction m with
    | zero => intro k x h; simp [numsTo] at h
    | succ m ih =>
      intro k x h
      cases ht : s.testBit m
      · rw [numsTo_miss s m ht] at h ⊢
        obtain ⟨⟨i, h1, h2, h3⟩, h4⟩ := ih k x h
        exact ⟨⟨i, h1, by omega, h3⟩, h4⟩
      · rw [numsTo_hit s m ht] at h ⊢
        rcases Nat.lt_or_ge k (numsTo s m).length with hl | hl
        · rw [List.getElem?_append_left hl] at h
          obtain ⟨⟨i, h1, h2, h3⟩, h4⟩ := ih k x h
          exact ⟨⟨i, h1, by omega, h3⟩, by rw [List.take_append_of_le_length (by omega)]; exact h4⟩
        · rw [List.getElem?_append_right hl] at h
          have e : k - (numsTo s m).length = 0 := by
            rcases Nat.eq_zero_or_pos (k - (numsTo s m).length) with h0 | h0
            · exact h0
            · rw [List.getElem?_eq_none (by simp; omega)] at h; cases h
          rw [e] at h
          simp at h
          subst h
          refine ⟨⟨m, rfl, by omega, ht⟩, ?_⟩
          have : k = (numsTo s m).length := by omega
          rw [this]; simp
  exact hk 64 k x h
/-- What is come to next, all before having been come to. -/
theorem steps_hit (s k : Nat) (x at_ : Int) (h : (numsTo s 64)[k]? = some x) (ha : ∀ y ∈ (numsTo s 64).take k, y < at_) (hx : at_ ≤ x) : firstOf (numsTo s 64) at_ = x :=
  firstOf_some _ _ x at_ ha hx (by rw [← take_more h]; exact List.take_prefix _ _)
theorem steps_rise (s k : Nat) (x y : Int) (h : (numsTo s 64)[k]? = some x) (hy : y ∈ (numsTo s 64).take k) : y < x := by
  obtain ⟨⟨i, rfl, _, _⟩, e⟩ := nums_next s k x h
  rw [e] at hy
  have := nums_lt s _ y hy
  simpa using this

set_option maxHeartbeats 2000000 in
theorem bitsSteps_walk (a0 : Int) (w : World) (w0 : (Lit.int .u64 a0).wf = true) :
    Calls Try.prog 10 #[.int .u64 a0] w fun e w' => e = .returned (.bool true) ∧ Below w.heap.size w w' := by
  obtain ⟨s, rfl, hs⟩ := u64_in w0
  clear w0
  have hlen := numsTo_len s 64
  go_enter Try.func10, Try.ntmps10
  go_wp2_with fail
  refine (list_any s _ hs).mono ?_
  rintro e w1 ⟨v, rfl, hrow1, hB1⟩
  obtain ⟨a, cap, rfl, _, hr1⟩ := RowOf.own hrow1
  clear hrow1
  go_wp2_with fail
  go_loopw [4, 5] (fun t i wr => ∃ (k : Nat) (m : Int), k ≤ (numsTo s 64).length ∧ i = .int .i64 k ∧ t = .int .i64 m ∧ Hid ((∀ y ∈ (numsTo s 64).take k, y < m) ∧ (∀ x, (numsTo s 64)[k]? = some x → m ≤ x)) ∧ Below w1.heap.size w1 wr) (fun _ i _ => (numsTo s 64).length - (intOf i).toNat)
  case atStart => exact ⟨0, 0, Nat.zero_le _, rfl, rfl, Lib.hid ⟨by simp, fun x hx => by obtain ⟨⟨i, rfl, _, _⟩, _⟩ := nums_next s 0 x hx; omega⟩, Below.refl _ _⟩
  case round =>
    obtain ⟨k, m, hk, rfl, rfl, HM, hBr⟩ := hrel
    by_cases hlt : k < (numsTo s 64).length
    · obtain ⟨x, hx⟩ := at_len hlt
      obtain ⟨b, off, rfl, hb, hc⟩ := (hr1.below hBr) k x hx
      have HF := Lib.hid (steps_hit s k x m hx HM.out.1 (HM.out.2 x hx))
      have HR : Hid (∀ y ∈ (numsTo s 64).take (k + 1), y < x + 1) := Lib.hid (by
        intro y hy
        rw [take_more hx] at hy
        rcases List.mem_append.1 hy with h | h
        · have := steps_rise s k x y hx h; omega
        · simp at h; omega)
      have HN : Hid (∀ z, (numsTo s 64)[k + 1]? = some z → x + 1 ≤ z) := Lib.hid (by
        intro z hz
        have := steps_rise s (k + 1) z x hz (by rw [take_more hx]; simp)
        omega)
      have hxb : 0 ≤ x ∧ x < 64 := by
        obtain ⟨⟨i, rfl, h2, _⟩, _⟩ := nums_next s k x hx
        omega
      obtain ⟨hx0, hx1⟩ := hxb
      clear hx
      have hxx : (x != x) = false := by simp
      go_wp2_with fail
      refine (first_any s m _ hs).mono ?_
      rintro e w2 ⟨rfl, hB2⟩
      rw [HF.out]
      have hc2 := (hB2.cell (p := ⟨b, off + k, none⟩) (Nat.lt_of_lt_of_le hb hBr.size)).trans hc
      clear hc
      go_wp2
      go_roundw
      case rel => exact ⟨k + 1, x + 1, by omega, by go_num, rfl, Lib.hid ⟨HR.out, HN.out⟩, hBr.trans (hB2.mono hBr.size)⟩
      case measure => simp [intOf]; omega
    · obtain rfl : k = (numsTo s 64).length := by omega
      have HF := Lib.hid (firstOf_none (numsTo s 64) m (by have := HM.out.1; rwa [List.take_length] at this))
      go_wp2_with fail
      refine (known_any _).mono ?_
      rintro e w2 ⟨rfl, hB2⟩
      go_wp2_with fail
      refine (first_any s m _ hs).mono ?_
      rintro e w3 ⟨rfl, hB3⟩
      rw [HF.out]
      go_wp2_with fail
      go_ret
      exact ⟨rfl, below_next (below_next (below_next hB1 hBr) hB2) hB3⟩

set_option maxRecDepth 100000 in
theorem bitsSteps_lifted (os : Os) (started : os.Started) (H : Type) (enc : TypeId × Value → H) :
    ReturnsInHanded {} Try.checked os 10 .any (Rows.bitsStepsSpec.pre6 enc Try.prog Try.f10 Rows.bitsStepsRow.domain false) (Rows.bitsStepsSpec.post enc Try.prog Try.f10 false true false false) := by
  refine returnsInHanded_of_change (C := Try.checked) law_own started (by kernel_rfl) Try.func10
    (ChangeSpec.witness6 (enc := enc) (C := Try.checked) false ⟨#[], #[.int .u64 0], []⟩ 8 (by kernel_rfl) (by kernel_rfl) (by kernel_rfl) (by kernel_rfl)) ?_
  intro W base args ds gs before hval0 hW hcnd _
  have hval : ∀ (j : Nat) t v, Try.f10.params[j]? = some t → args[j]? = some v → Value.okWide Try.prog W .any base t v := hval0
  have hW' := hW
  obtain ⟨p, q, hA0, hV, rfl, hfz, hnd⟩ := hW
  have hA : DataW.TrodAll enc Try.prog W 0 (fun _ => true) true Try.f10.params.toList args.toList ds p := hA0
  rw [Try.params10] at hA hval
  obtain ⟨v0, vs0, d0, ds0, p0, q0, hargs, rfl, rfl, h0, r0⟩ := trodAll_cons hA
  obtain ⟨rfl, rfl, rfl⟩ := trodAll_nil r0
  obtain rfl : args = #[v0] := by cases args; simp_all
  obtain ⟨rfl, rfl⟩ := trodVars_none hV
  obtain ⟨a0, rfl, rfl, rfl, w0⟩ := open_int Try.underlying22 (hval 0 22 v0 rfl rfl) h0
  clear hA0 hval0
  refine (bitsSteps_walk a0 W w0).mono fun e W' ⟨he, bel⟩ => ?_
  subst he
  exact ⟨_, rfl, _, _, _, [], _, [], hW', trodAll_mk1 (shut_bool Try.underlying4 _), (trodAll_cons_mk (shut_int Try.underlying22 w0) trodAll_mk0), rfl, bel.frame _, fun h => by cases h⟩

/-- The statement. -/
theorem bitsSteps_holds : Rows.BitsStepsSaid :=
  OpenClaim.holds_of_wide 10 Try.f10 rfl rfl rfl rfl rfl rfl rfl ⟨rfl, rfl, rfl, rfl, rfl⟩ rfl rfl rfl rfl rfl (by kernel_rfl) Try.func10 (by kernel_rfl)
    (of_decide_eq_true (by kernel_rfl)) (by unfold Func.isWrapper; first | (rw [if_pos (by decide +kernel)]; kernel_rfl) | (rw [if_neg (by decide +kernel)]; exact ⟨rfl, rfl⟩))
    (fun os started H enc _ => bitsSteps_lifted os started H enc)

end Go.Proofs.Ytjkdanfpejfplaa
