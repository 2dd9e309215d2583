/- What package bits' iterator tells, for every set: its numbers, rising, till a round says no more. -/
import Derived.Test.YtjkdanfpejfplaaBitsWalks1
import Derived.RangeFuncBox
import Derived.RangeFuncNested
import Derived.RangeFuncLeaves
import Derived.Shelf.Abstract
import Derived.OwnWalkIn
import Derived.TacticsInMore
import Derived.LoopNIn
import Derived.LoopIn
import Derived.Maps.AppendAt
namespace Go.Proofs.Ytjkdanfpejfplaa
set_option linter.unusedVariables false
set_option linter.unusedSimpArgs false
open Go.RowKit Go.Shelf
attribute [local go_sem] Oper.semAt_some

/-- The numbers of a set below k, rising, as integers. -/
def numsTo (s k : Nat) : List Int := ((List.range k).filter fun i => s.testBit i).map Int.ofNat
theorem numsTo_hit (s k : Nat) (h : s.testBit k = true) : numsTo s (k + 1) = numsTo s k ++ [(k : Int)] := by
  simp [numsTo, List.range_succ, h]
theorem numsTo_miss (s k : Nat) (h : s.testBit k = false) : numsTo s (k + 1) = numsTo s k := by
  simp [numsTo, List.range_succ, h]
theorem numsTo_front (s j k : Nat) (h : j ≤ k) : numsTo s j <+: numsTo s k := by
  obtain ⟨d, rfl⟩ := Nat.exists_eq_add_of_le h
  clear h
  induction d with
  | zero => exact List.prefix_refl _
  | succ d ih =>
    refine ih.trans ?_
    rw [← Nat.add_assoc]
    cases ht : s.testBit (j + d)
    · rw [numsTo_miss _ _ ht]; exact List.prefix_refl _
    · rw [numsTo_hit _ _ ht]; exact List.prefix_append _ _
theorem numsTo_len (s k : Nat) : (numsTo s k).length ≤ k := by
  simp only [numsTo, List.length_map]
  exact Nat.le_trans (List.length_filter_le _ _) (by simp)

theorem has_true (s : Nat) (i : Nat) (w : World) (hs : s < U) (hi : i < 64) (h : s.testBit i = true) :
    Calls Try.prog 14 #[.int .u64 s, .int .i64 i] w fun e w' => e = .returned (.bool true) ∧ w = w' := by
  have := has_any s i w hs
  rwa [hasB_nat, h, decide_eq_true hi] at this
theorem has_false (s : Nat) (i : Nat) (w : World) (hs : s < U) (hi : i < 64) (h : s.testBit i = false) :
    Calls Try.prog 14 #[.int .u64 s, .int .i64 i] w fun e w' => e = .returned (.bool false) ∧ w = w' := by
  have := has_any s i w hs
  rwa [hasB_nat, h, Bool.and_false] at this

/-- What a round of the caller must keep: the box in which the set lies. -/
def KeepsBox (B : Nat) (W W' : World) : Prop := W'.heap[B]? = W.heap[B]?
theorem KeepsBox.trans {B : Nat} {X Y Z : World} (h : KeepsBox B X Y) (k : KeepsBox B Y Z) : KeepsBox B X Z := Eq.trans k h

set_option maxRecDepth 100000 in
set_option maxHeartbeats 1000000 in
theorem numbers1_in (n : Nat) (hn : 1 ≤ n) (l B s : Nat) (hs : s < U) (J Jx : List Int → World → Prop)
    (hY : ∀ pre x W, J pre W → pre.length < 64 → YieldAt Fence.wide (n - 1) Try.prog l #[.int .i64 x] W fun e W' =>
      (e = .returned (.bool true) ∧ J (pre ++ [x]) W' ∧ KeepsBox B W W') ∨ (e = .returned (.bool false) ∧ Jx (pre ++ [x]) W'))
    (W : World) (hB : Boxed W B 22 (.int .u64 s)) (h0 : J [] W) :
    CallsIn Fence.wide n Try.prog 31 #[.func (.yield l) #[] #[], .pointer (some ⟨B, 0, none⟩)] W fun e W' => (∃ v, e = .returned v) ∧
      ((∃ ys, ys = numsTo s 64 ∧ J ys W') ∨ (∃ pre, pre <+: numsTo s 64 ∧ Jx pre W')) := by
  refine callsIn_of_wp Try.func31 rfl trivial ?_ rfl
  simp only [Try.ntmps31, List.size_toArray, List.length_cons, List.length_nil, Nat.reduceAdd, Nat.reduceSub, Array.replicate_succ, Array.replicate_zero, List.push_toArray, List.append_toArray, List.nil_append, List.cons_append]
  gi_wp2
  gi_loopw [4] (fun i wr => ∃ k : Nat, k ≤ 64 ∧ i = .int .i64 k ∧ Boxed wr B 22 (.int .u64 s) ∧ J (numsTo s k) wr)
    (fun i wr => 64 - (intOf i).toNat)
  case atStart =>
    exact ⟨0, Nat.zero_le _, rfl, hB, h0⟩
  case round =>
    obtain ⟨k, hk, rfl, hBr, hJ⟩ := hrel
    have hcell := hBr.cell
    have hlen := numsTo_len s k
    by_cases hlt : k < 64
    · cases ht : s.testBit k
      · have H := Lib.hid ht
        have HM := Lib.hid (numsTo_miss s k ht)
        clear ht
        gi_wp2_with (refine ⟨trivial, ?_⟩; gi_at_call 14; refine (callsIn_wide.2 (has_false s k _ hs hlt H.out)).mono ?_; rintro e w' ⟨rfl, rfl⟩)
        refine ⟨fun _ h => (by cases h), ?_⟩
        gi_wp2
        go_roundw
        case rel => exact ⟨k + 1, by omega, by go_num, hBr, by rw [HM.out]; exact hJ⟩
        case measure => simp [intOf]; omega
      · have H := Lib.hid ht
        have HM := Lib.hid (numsTo_hit s k ht)
        have HP := Lib.hid (numsTo_front s (k + 1) 64 (by omega))
        clear ht
        obtain ⟨fn, tmps, assign, body, hy, hR⟩ := hY (numsTo s k) k wr hJ (by omega)
        gi_wp2_with (refine ⟨trivial, ?_⟩; gi_at_call 14; refine (callsIn_wide.2 (has_true s k _ hs hlt H.out)).mono ?_; rintro e w' ⟨rfl, rfl⟩)
        go_goals
        refine hR.mono ?_
        rintro e W3 (⟨rfl, hJ3, hk3⟩ | ⟨rfl, hJx3⟩)
        · gi_wp2
          go_roundw
          case rel => exact ⟨k + 1, by omega, by go_num, Eq.trans hk3 hBr, by rw [HM.out]; exact hJ3⟩
          case measure => simp [intOf]; omega
        · gi_wp2
          refine bodyPost_ret (results_none rfl _ _ _) rfl ?_
          exact ⟨⟨_, rfl⟩, .inr ⟨_, by rw [← HM.out]; exact HP.out, hJx3⟩⟩
    · obtain rfl : k = 64 := by omega
      gi_wp2
      go_end0
      exact ⟨⟨_, rfl⟩, .inl ⟨_, rfl, hJ⟩⟩

end Go.Proofs.Ytjkdanfpejfplaa
