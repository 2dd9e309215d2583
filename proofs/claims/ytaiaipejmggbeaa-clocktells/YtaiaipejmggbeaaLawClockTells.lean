/- ClockTells: all calls of any clocks are what the chapter says; for every input. -/
import Derived.Test.YtaiaipejmggbeaaClockKnown
import Derived.SizedLaws
namespace Go.Proofs.Ytaiaipejmggbeaa
set_option linter.unusedVariables false
set_option linter.unusedSimpArgs false
set_option maxRecDepth 100000
open Go.ChangeShapes Go.WideShapes Go.ChangeAt Go.RowKit

theorem u8_of {l : List Int} (h : ∀ n ∈ l, (Lit.int .u8 n).wf = true) : ∀ x ∈ l, 0 ≤ x ∧ x < 256 := fun x hx => by have := bounds_u8 (h x hx); omega

set_option maxHeartbeats 1000000 in
theorem clockTells_walk (a0 : Option Addr) (len0 cap0 : Nat) (l0 : List Int) (a1 : Option Addr) (len1 cap1 : Nat) (l1 : List Int) (a2 : Option Addr) (len2 cap2 : Nat) (l2 : List Int) (a3 : Option Addr) (len3 cap3 : Nat) (l3 : List Int) (i k : Int) (w : World)
    (w0 : SliceIn .i64 w a0 len0 cap0 l0) (s0 : len0 ≤ 140737488355328) (w1 : SliceIn .i64 w a1 len1 cap1 l1) (s1 : len1 ≤ 140737488355328) (w2 : SliceIn .u8 w a2 len2 cap2 l2) (s2 : len2 ≤ 140737488355328) (w3 : SliceIn .u8 w a3 len3 cap3 l3) (s3 : len3 ≤ 140737488355328) (w4 : (Lit.int .i64 i).wf = true) (w5 : (Lit.int .u8 k).wf = true) :
    Calls Try.prog 5 #[.slice a0 len0 cap0, .slice a1 len1 cap1, .slice a2 len2 cap2, .slice a3 len3 cap3, .int .i64 i, .int .u8 k] w fun e w' => e = .returned (.bool true) ∧ Below w.heap.size w w' := by
  obtain rfl := w0.len_eq
  obtain rfl := w1.len_eq
  obtain rfl := w2.len_eq
  obtain rfl := w3.len_eq
  have hx1 : IntKind.i64.wrap ((l0.length : Int) + (l1.length : Int)) = (l0.length : Int) + (l1.length : Int) := IntWalk.i64_in _ (by omega)
  have hx2 : IntKind.i64.wrap ((l0.length : Int) + (l1.length : Int) + (l2.length : Int)) = (l0.length : Int) + (l1.length : Int) + (l2.length : Int) := IntWalk.i64_in _ (by omega)
  have hx3 : IntKind.i64.wrap ((l0.length : Int) + (l1.length : Int) + (l2.length : Int) + (l3.length : Int)) = (l0.length : Int) + (l1.length : Int) + (l2.length : Int) + (l3.length : Int) := IntWalk.i64_in _ (by omega)
  have hk := bounds_u8 w5
  have H0 := Lib.hid w0.row
  have H1 := Lib.hid w1.row
  have H2 := Lib.hid w2.row
  have H3 := Lib.hid w3.row
  have HU2 := Lib.hid (u8_of w2.fit)
  have HU3 := Lib.hid (u8_of w3.fit)
  clear w0 w1 w2 w3 w4 w5
  by_cases hs : 400 < l0.length + l1.length + l2.length + l3.length
  · have hd : (400 : Int) < (l0.length : Int) + (l1.length : Int) + (l2.length : Int) + (l3.length : Int) := by omega
    clear hs H0 H1 H2 H3
    go_enter Try.func5, Try.ntmps5
    go_wp2_with (go_at_call 8; refine (known_any _).mono ?_; rintro e w1 ⟨rfl, hB1⟩)
    go_ret
    exact ⟨rfl, hB1⟩
  · have hd : ¬ (400 : Int) < (l0.length : Int) + (l1.length : Int) + (l2.length : Int) + (l3.length : Int) := by omega
    have b0 : l0.length ≤ 900 := by omega
    have b1 : l1.length ≤ 900 := by omega
    have b2 : l2.length ≤ 900 := by omega
    have b3 : l3.length ≤ 900 := by omega
    have hm0 : 0 ≤ k % 70 ∧ k % 70 < 70 := by omega
    obtain ⟨hk0, hk1⟩ := hm0
    clear hs
    go_enter Try.func5, Try.ntmps5
    go_wp2_with fail
    refine (known_any w).mono ?_
    rintro e w1 ⟨rfl, hB1⟩
    have H01 := Lib.hid (H0.out.up hB1)
    have H11 := Lib.hid (H1.out.up hB1)
    have H21 := Lib.hid (H2.out.up hB1)
    have H31 := Lib.hid (H3.out.up hB1)
    have HB1 := Lib.hid hB1
    clear hB1 H0 H1 H2 H3
    go_wp2_with fail
    refine (tells_any l0 l1 a0 a1 cap0 cap1 i w1 H01.out H11.out b0 b1).mono ?_
    rintro e w2 ⟨rfl, hB2⟩
    have H22 := Lib.hid (H21.out.up hB2)
    have H32 := Lib.hid (H31.out.up hB2)
    have HB2 := Lib.hid (below_next HB1.out hB2)
    clear hB2 H01 H11 H21 H31 HB1
    go_wp2_with fail
    refine (near_any l2 a2 cap2 w2 H22.out HU2.out (by omega)).mono ?_
    rintro e w3 ⟨a4, c4, A, hA, rfl, hR3, hB3⟩
    have hAl : A.length ≤ 900 := by rw [hA.out, near_len]; exact b2
    have H33 := Lib.hid (H32.out.up hB3)
    have HR3 := Lib.hid hR3
    have HB3 := Lib.hid (below_next HB2.out hB3)
    clear hA hR3 hB3 H22 H32 HB2
    go_wp2_with fail
    refine (near_any l3 a3 cap3 w3 H33.out HU3.out (by omega)).mono ?_
    rintro e w4 ⟨a5, c5, B, hBn, rfl, hR4, hB4⟩
    have hBl : B.length ≤ 900 := by rw [hBn.out, near_len]; exact b3
    have HR34 := Lib.hid (HR3.out.up hB4)
    have HR4 := Lib.hid hR4
    have HB4 := Lib.hid (below_next HB3.out hB4)
    clear hBn hR4 hB4 HR3 HB3
    go_wp2_with fail
    refine (tells_any A B a4 a5 c4 c5 _ w4 HR34.out HR4.out hAl hBl).mono ?_
    rintro e w5 ⟨rfl, hB5⟩
    have HB5 := Lib.hid (below_next HB4.out hB5)
    clear hB5
    go_wp2
    go_ret
    exact ⟨rfl, HB5.out⟩

set_option maxRecDepth 100000 in
theorem clockTells_lifted (os : Os) (started : os.Started) (H : Type) (enc : TypeId × Value → H) :
    ReturnsInHanded {} Try.checked os 5 .any (Rows.clockTellsSpec.pre6 enc Try.prog Try.f5 Rows.clockTellsRow.domain false) (Rows.clockTellsSpec.post enc Try.prog Try.f5 false true false false) := by
  refine returnsInHanded_of_change_sized (C := Try.checked) law_own started (by kernel_rfl) Try.func5
    (ChangeSpec.witness6 (enc := enc) (C := Try.checked) false ⟨#[], #[.slice none 0 0, .slice none 0 0, .slice none 0 0, .slice none 0 0, .int .i64 0, .int .u8 0], []⟩ 8 (by kernel_rfl) (by kernel_rfl) (by kernel_rfl) (by kernel_rfl)) ?_
  intro W base args ds gs before hval0 hW hcnd hsz0 _
  have hsz : (DataW.weightsEach Try.prog (Try.f5.params.toList ++ Rows.clockTellsSpec.plain.varTypes Try.prog) (ds ++ gs)).all (· ≤ reachBytes) = true := hsz0
  have hval : ∀ (j : Nat) t v, Try.f5.params[j]? = some t → args[j]? = some v → Value.okWide Try.prog W .any base t v := hval0
  have hW' := hW
  obtain ⟨p, q, hA0, hV, rfl, hfz, hnd⟩ := hW
  have hA : DataW.TrodAll enc Try.prog W 0 (fun _ => true) true Try.f5.params.toList args.toList ds p := hA0
  rw [Try.params5] at hA hval hsz
  obtain ⟨v0, vs0, d0, ds0, p0, q0, hargs, rfl, rfl, h0, r0⟩ := trodAll_cons hA
  obtain ⟨v1, vs1, d1, ds1, p1, q1, rfl, rfl, rfl, h1, r1⟩ := trodAll_cons r0
  obtain ⟨v2, vs2, d2, ds2, p2, q2, rfl, rfl, rfl, h2, r2⟩ := trodAll_cons r1
  obtain ⟨v3, vs3, d3, ds3, p3, q3, rfl, rfl, rfl, h3, r3⟩ := trodAll_cons r2
  obtain ⟨v4, vs4, d4, ds4, p4, q4, rfl, rfl, rfl, h4, r4⟩ := trodAll_cons r3
  obtain ⟨v5, vs5, d5, ds5, p5, q5, rfl, rfl, rfl, h5, r5⟩ := trodAll_cons r4
  obtain ⟨rfl, rfl, rfl⟩ := trodAll_nil r5
  obtain rfl : args = #[v0, v1, v2, v3, v4, v5] := by cases args; simp_all
  obtain ⟨rfl, rfl⟩ := trodVars_none hV
  obtain ⟨a0, len0, cap0, rfl⟩ := okWide_slice Try.underlying24 (hval 0 24 v0 rfl rfl)
  have k0 := h0
  have lt0 : ∀ x ∈ p0, x.block < W.heap.size := by obtain ⟨m, hm⟩ := k0; exact DataW.trod_lt m _ _ _ hm
  obtain ⟨l0, w0, s0⟩ : ∃ l, SliceIn .i64 W a0 len0 cap0 l ∧ len0 ≤ 140737488355328 := by
    obtain ⟨fuel, hf⟩ := h0
    rcases open_ints Try.underlying24 Try.underlying3 (by kernel_rfl) hf with ⟨hcs, _⟩ | ⟨x, l, c, zs, hcs, _, hl, hm, hz, hxd, hcell, hwz⟩
    · simp [Value.cells] at hcs
      obtain ⟨rfl, rfl, rfl⟩ := hcs
      exact ⟨[], SliceIn.nil _ _, Nat.zero_le _⟩
    · simp [Value.cells] at hcs
      obtain ⟨rfl, rfl, rfl⟩ := hcs
      have hr := sized_slice hsz (j := 0) (t := 24) (e := 3) rfl (congrArg some (congrArg Prod.fst hxd)) Try.underlying24
      rw [show Try.prog.bytesOf 3 = 8 by kernel_rfl] at hr
      simp only [lits, List.length_map, List.length_take, List.length_drop] at hr
      have hz1 : zs.length = cap0 := by simpa using hz
      have hr1 := reachBytes_lt
      exact ⟨_, SliceIn.of hl hm hz1 hcell hwz, by omega⟩
  obtain ⟨a1, len1, cap1, rfl⟩ := okWide_slice Try.underlying24 (hval 1 24 v1 rfl rfl)
  have k1 := h1
  have lt1 : ∀ x ∈ p1, x.block < W.heap.size := by obtain ⟨m, hm⟩ := k1; exact DataW.trod_lt m _ _ _ hm
  obtain ⟨l1, w1, s1⟩ : ∃ l, SliceIn .i64 W a1 len1 cap1 l ∧ len1 ≤ 140737488355328 := by
    obtain ⟨fuel, hf⟩ := h1
    rcases open_ints Try.underlying24 Try.underlying3 (by kernel_rfl) hf with ⟨hcs, _⟩ | ⟨x, l, c, zs, hcs, _, hl, hm, hz, hxd, hcell, hwz⟩
    · simp [Value.cells] at hcs
      obtain ⟨rfl, rfl, rfl⟩ := hcs
      exact ⟨[], SliceIn.nil _ _, Nat.zero_le _⟩
    · simp [Value.cells] at hcs
      obtain ⟨rfl, rfl, rfl⟩ := hcs
      have hr := sized_slice hsz (j := 1) (t := 24) (e := 3) rfl (congrArg some (congrArg Prod.fst hxd)) Try.underlying24
      rw [show Try.prog.bytesOf 3 = 8 by kernel_rfl] at hr
      simp only [lits, List.length_map, List.length_take, List.length_drop] at hr
      have hz1 : zs.length = cap1 := by simpa using hz
      have hr1 := reachBytes_lt
      exact ⟨_, SliceIn.of hl hm hz1 hcell hwz, by omega⟩
  obtain ⟨a2, len2, cap2, rfl⟩ := okWide_slice Try.underlying22 (hval 2 22 v2 rfl rfl)
  have k2 := h2
  have lt2 : ∀ x ∈ p2, x.block < W.heap.size := by obtain ⟨m, hm⟩ := k2; exact DataW.trod_lt m _ _ _ hm
  obtain ⟨l2, w2, s2⟩ : ∃ l, SliceIn .u8 W a2 len2 cap2 l ∧ len2 ≤ 140737488355328 := by
    obtain ⟨fuel, hf⟩ := h2
    rcases open_ints Try.underlying22 Try.underlying5 (by kernel_rfl) hf with ⟨hcs, _⟩ | ⟨x, l, c, zs, hcs, _, hl, hm, hz, hxd, hcell, hwz⟩
    · simp [Value.cells] at hcs
      obtain ⟨rfl, rfl, rfl⟩ := hcs
      exact ⟨[], SliceIn.nil _ _, Nat.zero_le _⟩
    · simp [Value.cells] at hcs
      obtain ⟨rfl, rfl, rfl⟩ := hcs
      have hr := sized_slice hsz (j := 2) (t := 22) (e := 5) rfl (congrArg some (congrArg Prod.fst hxd)) Try.underlying22
      rw [show Try.prog.bytesOf 5 = 1 by kernel_rfl] at hr
      simp only [lits, List.length_map, List.length_take, List.length_drop] at hr
      have hz1 : zs.length = cap2 := by simpa using hz
      have hr1 := reachBytes_lt
      exact ⟨_, SliceIn.of hl hm hz1 hcell hwz, by omega⟩
  obtain ⟨a3, len3, cap3, rfl⟩ := okWide_slice Try.underlying22 (hval 3 22 v3 rfl rfl)
  have k3 := h3
  have lt3 : ∀ x ∈ p3, x.block < W.heap.size := by obtain ⟨m, hm⟩ := k3; exact DataW.trod_lt m _ _ _ hm
  obtain ⟨l3, w3, s3⟩ : ∃ l, SliceIn .u8 W a3 len3 cap3 l ∧ len3 ≤ 140737488355328 := by
    obtain ⟨fuel, hf⟩ := h3
    rcases open_ints Try.underlying22 Try.underlying5 (by kernel_rfl) hf with ⟨hcs, _⟩ | ⟨x, l, c, zs, hcs, _, hl, hm, hz, hxd, hcell, hwz⟩
    · simp [Value.cells] at hcs
      obtain ⟨rfl, rfl, rfl⟩ := hcs
      exact ⟨[], SliceIn.nil _ _, Nat.zero_le _⟩
    · simp [Value.cells] at hcs
      obtain ⟨rfl, rfl, rfl⟩ := hcs
      have hr := sized_slice hsz (j := 3) (t := 22) (e := 5) rfl (congrArg some (congrArg Prod.fst hxd)) Try.underlying22
      rw [show Try.prog.bytesOf 5 = 1 by kernel_rfl] at hr
      simp only [lits, List.length_map, List.length_take, List.length_drop] at hr
      have hz1 : zs.length = cap3 := by simpa using hz
      have hr1 := reachBytes_lt
      exact ⟨_, SliceIn.of hl hm hz1 hcell hwz, by omega⟩
  obtain ⟨a4, rfl, rfl, rfl, w4⟩ := open_int Try.underlying3 (hval 4 3 v4 rfl rfl) h4
  obtain ⟨a5, rfl, rfl, rfl, w5⟩ := open_int Try.underlying5 (hval 5 5 v5 rfl rfl) h5
  clear hA0 hval0
  refine (clockTells_walk a0 len0 cap0 l0 a1 len1 cap1 l1 a2 len2 cap2 l2 a3 len3 cap3 l3 a4 a5 W w0 s0 w1 s1 w2 s2 w3 s3 w4 w5).mono fun e W' ⟨he, bel⟩ => ?_
  subst he
  exact ⟨_, rfl, _, _, _, [], _, [], hW', trodAll_mk1 (shut_bool Try.underlying4 _), (trodAll_cons_mk (Below.trod law_laidOut (by kernel_rfl) (of_decide_eq_true (by kernel_rfl)) k0 bel lt0) (trodAll_cons_mk (Below.trod law_laidOut (by kernel_rfl) (of_decide_eq_true (by kernel_rfl)) k1 bel lt1) (trodAll_cons_mk (Below.trod law_laidOut (by kernel_rfl) (of_decide_eq_true (by kernel_rfl)) k2 bel lt2) (trodAll_cons_mk (Below.trod law_laidOut (by kernel_rfl) (of_decide_eq_true (by kernel_rfl)) k3 bel lt3) (trodAll_cons_mk (shut_int Try.underlying3 w4) (trodAll_cons_mk (shut_int Try.underlying5 w5) trodAll_mk0)))))), rfl, bel.frame _, fun h => by cases h⟩

/-- The statement. -/
theorem clockTells_holds : Rows.ClockTellsSaid :=
  OpenClaim.holds_of_wide 5 Try.f5 rfl rfl rfl rfl rfl rfl rfl ⟨rfl, rfl, rfl, rfl, rfl⟩ rfl rfl rfl rfl rfl (by kernel_rfl) Try.func5 (by kernel_rfl)
    (of_decide_eq_true (by kernel_rfl)) (by unfold Func.isWrapper; first | (rw [if_pos (by decide +kernel)]; kernel_rfl) | (rw [if_neg (by decide +kernel)]; exact ⟨rfl, rfl⟩))
    (fun os started H enc _ => clockTells_lifted os started H enc)
end Go.Proofs.Ytaiaipejmggbeaa
