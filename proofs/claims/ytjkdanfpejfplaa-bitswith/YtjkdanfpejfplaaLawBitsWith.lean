/- BitsWith: With and Without of any set and any numbers are what the chapter says; for every input. -/
import Derived.Test.YtjkdanfpejfplaaLawKit
import Derived.Test.YtjkdanfpejfplaaBitsKnown
import Derived.Test.YtjkdanfpejfplaaBitsMath3
namespace Go.Proofs.Ytjkdanfpejfplaa
set_option linter.unusedVariables false
set_option linter.unusedSimpArgs false
open Go.ChangeShapes Go.WideShapes Go.ChangeAt Go.RowKit

/-- The numbers that the law makes of its choices. -/
def picked (l : List Int) (k : Nat) : List Int := (l.take k).map fun y => y % 66 - 1
theorem picked_more {l : List Int} {k : Nat} {y : Int} (h : l[k]? = some y) : picked l (k + 1) = picked l k ++ [y % 66 - 1] := by
  unfold picked; rw [take_more h]; simp
theorem picked_len (l : List Int) (k : Nat) (h : k ≤ l.length) : (picked l k).length = k := by unfold picked; simp; omega

set_option maxHeartbeats 2000000 in
theorem bitsWith_over (a0 : Int) (a1 : Option Addr) (len1 cap1 : Nat) (a2 : Option Addr) (len2 cap2 : Nat) (w : World) (h : 100 < len1 ∨ 100 < len2) :
    Calls Try.prog 6 #[.int .u64 a0, .slice a1 len1 cap1, .slice a2 len2 cap2] w fun e w' => e = .returned (.bool true) ∧ Below w.heap.size w w' := by
  by_cases h1 : 100 < len1
  · have hd : decide ((100 : Int) < (len1 : Int)) = true := by simp; omega
    clear h
    go_enter Try.func6, Try.ntmps6
    go_wp2_with (go_at_call 11; refine (known_any _).mono ?_; rintro e w1 ⟨rfl, hB1⟩)
    go_ret
    exact ⟨rfl, hB1⟩
  · have h2 : 100 < len2 := by omega
    have hd : decide ((100 : Int) < (len1 : Int)) = false := by simp; omega
    have hd2 : decide ((100 : Int) < (len2 : Int)) = true := by simp; omega
    clear h
    go_enter Try.func6, Try.ntmps6
    go_wp2_with (go_at_call 11; refine (known_any _).mono ?_; rintro e w1 ⟨rfl, hB1⟩)
    go_ret
    exact ⟨rfl, hB1⟩

set_option maxHeartbeats 2000000 in
theorem bitsWith_in (s : Nat) (a1 : Option Addr) (cap1 : Nat) (l1 : List Int) (a2 : Option Addr) (cap2 : Nat) (l2 : List Int) (w : World) (hs : s < U)
    (hr1 : RowOf .i64 w w.heap.size a1 l1) (hr2 : RowOf .u8 w w.heap.size a2 l2) (hf : ∀ n ∈ l2, (Lit.int .u8 n).wf = true) (h1 : l1.length ≤ 100) (h2 : l2.length ≤ 100) :
    Calls Try.prog 6 #[.int .u64 s, .slice a1 l1.length cap1, .slice a2 l2.length cap2] w fun e w' => e = .returned (.bool true) ∧ Below w.heap.size w w' := by
  obtain ⟨i0, hi, hz0, hz1, hz2⟩ := info_parts info_int
  have HF := Lib.hid hf
  clear hf
  have hd : decide ((100 : Int) < (l1.length : Int)) = false := by simp; omega
  have hd2 : decide ((100 : Int) < (l2.length : Int)) = false := by simp; omega
  go_enter Try.func6, Try.ntmps6
  go_wp2_with (go_at_call 11; refine (known_any _).mono ?_; rintro e w1 ⟨rfl, hB1⟩)
  have hr1' := hr1.below hB1
  have hr2' := hr2.below hB1
  go_loopw [7, 8] (fun v i wr => ∃ k : Nat, k ≤ l2.length ∧ i = .int .i64 k ∧ wr.ownsRow w.heap.size 3 1 v k ((picked l2 k).map (Value.int .i64)) ∧ Below w.heap.size w wr) (fun _ i _ => l2.length - (intOf i).toNat)
  case atStart => exact ⟨0, Nat.zero_le _, rfl, World.ownsRow_nil _ _ _ _, hB1⟩
  case round =>
    obtain ⟨k, hk, rfl, hrow, hB⟩ := hrel
    by_cases hlt : k < l2.length
    · obtain ⟨y, hy⟩ := at_len hlt
      obtain ⟨b, off, rfl, hb, hc⟩ := (hr2.below hB) k y hy
      obtain ⟨y0, y1⟩ := bounds_u8 (HF.out y (List.mem_of_getElem? hy))
      have HX := Lib.hid (picked_more hy)
      clear hy
      go_wp2_with (at_builtin; refine wpList_append_own _ rfl _ _ 25 rfl w.heap.size 3 i0 (.int .i64 0) 1 8 Try.underlying25 hi hz0 hz1 hz2 rfl (by decide) _ _ _ rfl (hrow.alloc _) ⟨wr.heap.size, 0, none⟩ 1 1 [.int .i64 (y % 66 - 1)] rfl rfl (cell_one_new _ _ _) (by simp [Value.oneCell']) (by unfold maxLen; omega) (by omega) (by have := hB.size; simp; omega) ?_; intro v' w1 hown' hgrow _)
      have hB' := Lib.hid (append_below hB hrow hgrow)
      have hO' := Lib.hid hown'
      clear hown' hgrow hrow hB
      go_wp2
      go_roundw
      case rel => exact ⟨k + 1, by omega, by go_num, by rw [HX.out]; simpa using hO'.out, hB'.out⟩
      case measure => simp [intOf]; omega
    · obtain rfl : k = l2.length := by omega
      have hpl := picked_len l2 l2.length (Nat.le_refl _)
      obtain ⟨a3, cap3, rfl, e3, hr3⟩ := RowOf.own hrow
      clear hrow hpl
      generalize picked l2 l2.length = l3 at *
      have hl3 : l3.length ≤ 100 := by omega
      rw [e3]
      clear e3
      have hr4 := hr1.below hB
      go_wp2_with fail
      refine (with_any s a1 cap1 l1 _ _ hs hr4 (by omega)).mono ?_
      rintro e u1 ⟨rfl, rfl⟩
      go_wp2_with fail
      refine (refWith_any s a1 cap1 l1 _ _ hs hr4 (by omega)).mono ?_
      rintro e u2 ⟨rfl, rfl⟩
      go_wp2_with fail
      refine (without_any s a1 cap1 l1 _ _ hs hr4 (by omega)).mono ?_
      rintro e u3 ⟨rfl, rfl⟩
      go_wp2_with fail
      refine (refWithout_any s a1 cap1 l1 _ _ hs hr4 (by omega)).mono ?_
      rintro e u4 ⟨rfl, rfl⟩
      go_wp2_with fail
      refine (with_any s a3 cap3 l3 _ _ hs hr3 (by omega)).mono ?_
      rintro e u5 ⟨rfl, rfl⟩
      go_wp2_with fail
      refine (refWith_any s a3 cap3 l3 _ _ hs hr3 (by omega)).mono ?_
      rintro e u6 ⟨rfl, rfl⟩
      go_wp2_with fail
      refine (without_any s a3 cap3 l3 _ _ hs hr3 (by omega)).mono ?_
      rintro e u7 ⟨rfl, rfl⟩
      go_wp2_with fail
      refine (refWithout_any s a3 cap3 l3 _ _ hs hr3 (by omega)).mono ?_
      rintro e u8 ⟨rfl, rfl⟩
      go_wp2_with fail
      go_ret
      exact ⟨rfl, hB⟩

theorem bitsWith_walk (a0 : Int) (a1 : Option Addr) (len1 cap1 : Nat) (l1 : List Int) (a2 : Option Addr) (len2 cap2 : Nat) (l2 : List Int) (w : World)
    (w0 : (Lit.int .u64 a0).wf = true) (w1 : SliceIn .i64 w a1 len1 cap1 l1) (w2 : SliceIn .u8 w a2 len2 cap2 l2) :
    Calls Try.prog 6 #[.int .u64 a0, .slice a1 len1 cap1, .slice a2 len2 cap2] w fun e w' => e = .returned (.bool true) ∧ Below w.heap.size w w' := by
  by_cases h : 100 < len1 ∨ 100 < len2
  · exact bitsWith_over a0 a1 len1 cap1 a2 len2 cap2 w h
  · obtain ⟨s, rfl, hs⟩ := u64_in w0
    obtain ⟨rfl, _, _, hr1, _⟩ := w1
    obtain ⟨rfl, _, _, hr2, hf⟩ := w2
    exact bitsWith_in s a1 cap1 l1 a2 cap2 l2 w hs hr1 hr2 hf (by omega) (by omega)

set_option maxRecDepth 100000 in
theorem bitsWith_lifted (os : Os) (started : os.Started) (H : Type) (enc : TypeId × Value → H) :
    ReturnsInHanded {} Try.checked os 6 .any (Rows.bitsWithSpec.pre6 enc Try.prog Try.f6 Rows.bitsWithRow.domain false) (Rows.bitsWithSpec.post enc Try.prog Try.f6 false true false false) := by
  refine returnsInHanded_of_change (C := Try.checked) law_own started (by kernel_rfl) Try.func6
    (ChangeSpec.witness6 (enc := enc) (C := Try.checked) false ⟨#[], #[.int .u64 0, .slice none 0 0, .slice none 0 0], []⟩ 8 (by kernel_rfl) (by kernel_rfl) (by kernel_rfl) (by kernel_rfl)) ?_
  intro W base args ds gs before hval0 hW hcnd _
  have hval : ∀ (j : Nat) t v, Try.f6.params[j]? = some t → args[j]? = some v → Value.okWide Try.prog W .any base t v := hval0
  have hW' := hW
  obtain ⟨p, q, hA0, hV, rfl, hfz, hnd⟩ := hW
  have hA : DataW.TrodAll enc Try.prog W 0 (fun _ => true) true Try.f6.params.toList args.toList ds p := hA0
  rw [Try.params6] at hA hval
  obtain ⟨v0, vs0, d0, ds0, p0, q0, hargs, rfl, rfl, h0, r0⟩ := trodAll_cons hA
  obtain ⟨v1, vs1, d1, ds1, p1, q1, rfl, rfl, rfl, h1, r1⟩ := trodAll_cons r0
  obtain ⟨v2, vs2, d2, ds2, p2, q2, rfl, rfl, rfl, h2, r2⟩ := trodAll_cons r1
  obtain ⟨rfl, rfl, rfl⟩ := trodAll_nil r2
  obtain rfl : args = #[v0, v1, v2] := by cases args; simp_all
  obtain ⟨rfl, rfl⟩ := trodVars_none hV
  obtain ⟨a0, rfl, rfl, rfl, w0⟩ := open_int Try.underlying22 (hval 0 22 v0 rfl rfl) h0
  obtain ⟨a1, len1, cap1, rfl⟩ := okWide_slice Try.underlying25 (hval 1 25 v1 rfl rfl)
  have k1 := h1
  have lt1 : ∀ x ∈ p1, x.block < W.heap.size := by obtain ⟨m, hm⟩ := k1; exact DataW.trod_lt m _ _ _ hm
  obtain ⟨l1, w1⟩ : ∃ l, SliceIn .i64 W a1 len1 cap1 l := by
    obtain ⟨fuel, hf⟩ := h1
    rcases open_ints Try.underlying25 Try.underlying3 (by kernel_rfl) hf with ⟨hcs, _⟩ | ⟨x, l, c, zs, hcs, _, hl, hm, hz, _, hcell, hwz⟩
    · simp [Value.cells] at hcs
      obtain ⟨rfl, rfl, rfl⟩ := hcs
      exact ⟨[], SliceIn.nil _ _⟩
    · simp [Value.cells] at hcs
      obtain ⟨rfl, rfl, rfl⟩ := hcs
      exact ⟨_, SliceIn.of hl hm (by simpa using hz) hcell hwz⟩
  obtain ⟨a2, len2, cap2, rfl⟩ := okWide_slice Try.underlying23 (hval 2 23 v2 rfl rfl)
  have k2 := h2
  have lt2 : ∀ x ∈ p2, x.block < W.heap.size := by obtain ⟨m, hm⟩ := k2; exact DataW.trod_lt m _ _ _ hm
  obtain ⟨l2, w2⟩ : ∃ l, SliceIn .u8 W a2 len2 cap2 l := by
    obtain ⟨fuel, hf⟩ := h2
    rcases open_ints Try.underlying23 Try.underlying5 (by kernel_rfl) hf with ⟨hcs, _⟩ | ⟨x, l, c, zs, hcs, _, hl, hm, hz, _, hcell, hwz⟩
    · simp [Value.cells] at hcs
      obtain ⟨rfl, rfl, rfl⟩ := hcs
      exact ⟨[], SliceIn.nil _ _⟩
    · simp [Value.cells] at hcs
      obtain ⟨rfl, rfl, rfl⟩ := hcs
      exact ⟨_, SliceIn.of hl hm (by simpa using hz) hcell hwz⟩
  clear hA0 hval0
  refine (bitsWith_walk a0 a1 len1 cap1 l1 a2 len2 cap2 l2 W w0 w1 w2).mono fun e W' ⟨he, bel⟩ => ?_
  subst he
  exact ⟨_, rfl, _, _, _, [], _, [], hW', trodAll_mk1 (shut_bool Try.underlying4 _), (trodAll_cons_mk (shut_int Try.underlying22 w0) (trodAll_cons_mk (Below.trod law_laidOut (by kernel_rfl) (of_decide_eq_true (by kernel_rfl)) k1 bel lt1) (trodAll_cons_mk (Below.trod law_laidOut (by kernel_rfl) (of_decide_eq_true (by kernel_rfl)) k2 bel lt2) trodAll_mk0))), rfl, bel.frame _, fun h => by cases h⟩

/-- The statement. -/
theorem bitsWith_holds : Rows.BitsWithSaid :=
  OpenClaim.holds_of_wide 6 Try.f6 rfl rfl rfl rfl rfl rfl rfl ⟨rfl, rfl, rfl, rfl, rfl⟩ rfl rfl rfl rfl rfl (by kernel_rfl) Try.func6 (by kernel_rfl)
    (of_decide_eq_true (by kernel_rfl)) (by unfold Func.isWrapper; first | (rw [if_pos (by decide +kernel)]; kernel_rfl) | (rw [if_neg (by decide +kernel)]; exact ⟨rfl, rfl⟩))
    (fun os started H enc _ => bitsWith_lifted os started H enc)

end Go.Proofs.Ytjkdanfpejfplaa
