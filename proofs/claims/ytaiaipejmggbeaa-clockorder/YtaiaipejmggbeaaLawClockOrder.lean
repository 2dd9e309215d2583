/- ClockOrder: what is within what is within a third is within that; of two within one another both are alike at each place; for every input. -/
import Derived.Test.YtaiaipejmggbeaaClockKnown
import Derived.SizedLaws
namespace Go.Proofs.Ytaiaipejmggbeaa
set_option linter.unusedVariables false
set_option linter.unusedSimpArgs false
set_option maxRecDepth 100000
open Go.ChangeShapes Go.WideShapes Go.ChangeAt Go.RowKit

theorem u8_of {l : List Int} (h : ∀ n ∈ l, (Lit.int .u8 n).wf = true) : ∀ x ∈ l, 0 ≤ x ∧ x < 256 := fun x hx => by have := bounds_u8 (h x hx); omega
theorem near_zero (l : List Int) : withinB [] (nearL l) = true := (within_iff _ _).2 fun k => by rw [atN_past (l := []) (Nat.zero_le _)]; exact (near_at l k).1
theorem within_trans {a b c : List Int} (h : withinB a b = true) (k : withinB b c = true) : withinB a c = true := (within_iff _ _).2 fun i => Int.le_trans ((within_iff _ _).1 h i) ((within_iff _ _).1 k i)
theorem same_at {a b : List Int} (h : withinB a b = true) (k : withinB b a = true) (i : Int) : atL a i = atL b i := by
  have := (same_iff a b).1 (by unfold sameB; rw [h, k]; rfl)
  unfold atL; rw [this]
theorem same_of {a b : List Int} {s t : Bool} (h : withinB a b = s) (k : withinB b a = t) : sameB a b = (s && t) := by unfold sameB; rw [h, k]
set_option maxHeartbeats 2000000 in
theorem clockOrder_walk (a0 : Option Addr) (len0 cap0 : Nat) (l0 : List Int) (a1 : Option Addr) (len1 cap1 : Nat) (l1 : List Int) (a2 : Option Addr) (len2 cap2 : Nat) (l2 : List Int) (k : Int) (w : World) (w0 : SliceIn .u8 w a0 len0 cap0 l0) (s0 : len0 ≤ 140737488355328) (w1 : SliceIn .u8 w a1 len1 cap1 l1) (s1 : len1 ≤ 140737488355328) (w2 : SliceIn .u8 w a2 len2 cap2 l2) (s2 : len2 ≤ 140737488355328) (wk : (Lit.int .u8 k).wf = true) :
    Calls Try.prog 3 #[.slice a0 len0 cap0, .slice a1 len1 cap1, .slice a2 len2 cap2, .int .u8 k] w fun e w' => e = .returned (.bool true) ∧ Below w.heap.size w w' := by
  obtain rfl := w0.len_eq
  obtain rfl := w1.len_eq
  obtain rfl := w2.len_eq
  have hx1 : IntKind.i64.wrap ((l0.length : Int) + (l1.length : Int)) = (l0.length : Int) + (l1.length : Int) := IntWalk.i64_in _ (by omega)
  have hx2 : IntKind.i64.wrap ((l0.length : Int) + (l1.length : Int) + (l2.length : Int)) = (l0.length : Int) + (l1.length : Int) + (l2.length : Int) := IntWalk.i64_in _ (by omega)
  have Ic_0 := Lib.hid w0.row
  have HUc := Lib.hid (u8_of w0.fit)
  have Id_0 := Lib.hid w1.row
  have HUd := Lib.hid (u8_of w1.fit)
  have Ie_0 := Lib.hid w2.row
  have HUe := Lib.hid (u8_of w2.fit)
  have hbk := bounds_u8 wk
  clear w0 w1 w2 wk
  by_cases hs : 300 < l0.length + l1.length + l2.length
  · have hd : (300 : Int) < (l0.length : Int) + (l1.length : Int) + (l2.length : Int) := by omega
    clear hs
    go_enter Try.func3, Try.ntmps3
    go_wp2_with (go_at_call 8; refine (known_any _).mono ?_; rintro e w1 ⟨rfl, hB1⟩)
    go_ret
    exact ⟨rfl, hB1⟩
  · have hd : ¬ (300 : Int) < (l0.length : Int) + (l1.length : Int) + (l2.length : Int) := by omega
    go_enter Try.func3, Try.ntmps3
    go_wp2_with fail
    refine (known_any w).mono ?_
    rintro e u1 ⟨rfl, hB⟩
    have Ic_1 := Lib.hid (Ic_0.out.up hB)
    have Id_1 := Lib.hid (Id_0.out.up hB)
    have Ie_1 := Lib.hid (Ie_0.out.up hB)
    have HB_1 := Lib.hid hB
    clear hB Ic_0 Id_0 Ie_0
    go_wp2_with fail
    refine (near_any l0 a0 cap0 u1 Ic_1.out HUc.out (by omega)).mono ?_
    rintro e u2 ⟨aA, cA, A, qA, rfl, hR, hB⟩
    have EA := Lib.hid qA.out
    have lA : A.length ≤ 900 := by rw [EA.out, near_len]; omega
    have RA_2 := Lib.hid hR
    clear hR qA
    have Ic_2 := Lib.hid (Ic_1.out.up hB)
    have Id_2 := Lib.hid (Id_1.out.up hB)
    have Ie_2 := Lib.hid (Ie_1.out.up hB)
    have HB_2 := Lib.hid (below_next HB_1.out hB)
    clear hB Ic_1 Id_1 Ie_1 HB_1
    go_wp2_with fail
    refine (near_any l1 a1 cap1 u2 Id_2.out HUd.out (by omega)).mono ?_
    rintro e u3 ⟨aB, cB, B, qB, rfl, hR, hB⟩
    have EB := Lib.hid qB.out
    have lB : B.length ≤ 900 := by rw [EB.out, near_len]; omega
    have RB_3 := Lib.hid hR
    clear hR qB
    have RA_3 := Lib.hid (RA_2.out.up hB)
    have Id_3 := Lib.hid (Id_2.out.up hB)
    have Ie_3 := Lib.hid (Ie_2.out.up hB)
    have HB_3 := Lib.hid (below_next HB_2.out hB)
    clear hB RA_2 Id_2 Ie_2 HB_2
    go_wp2_with fail
    refine (near_any l2 a2 cap2 u3 Ie_3.out HUe.out (by omega)).mono ?_
    rintro e u4 ⟨aX, cX, X, qX, rfl, hR, hB⟩
    have EX := Lib.hid qX.out
    have lX : X.length ≤ 900 := by rw [EX.out, near_len]; omega
    have RX_4 := Lib.hid hR
    clear hR qX
    have RA_4 := Lib.hid (RA_3.out.up hB)
    have RB_4 := Lib.hid (RB_3.out.up hB)
    have Ie_4 := Lib.hid (Ie_3.out.up hB)
    have HB_4 := Lib.hid (below_next HB_3.out hB)
    clear hB RA_3 RB_3 Ie_3 HB_3
    have HZ := Lib.hid (show withinB [] A = true by rw [EA.out]; exact near_zero _)
    have HE := Lib.hid (RowOf.nil .i64 u4 u4.heap.size none)
    cases hBA : withinB B A
    · have HBA := Lib.hid hBA
      clear hBA
      cases hAB : withinB A B
      · have HAB := Lib.hid hAB
        clear hAB
        go_wp2_with fail
        refine (cWithin_is false A B aA aB cA cB _ _ u4 HAB.out RA_4.out RB_4.out (by omega) (by omega)).mono ?_
        rintro e w' ⟨rfl, rfl⟩
        go_wp2_with fail
        refine (cSame_is false A B aA aB cA cB _ _ u4 (same_of HAB.out HBA.out) RA_4.out RB_4.out (by omega) (by omega)).mono ?_
        rintro e w' ⟨rfl, rfl⟩
        go_wp2_with fail
        refine (cWithin_is false A B aA aB cA cB _ _ u4 HAB.out RA_4.out RB_4.out (by omega) (by omega)).mono ?_
        rintro e w' ⟨rfl, rfl⟩
        go_wp2_with fail
        refine (cSame_is false A B aA aB cA cB _ _ u4 (same_of HAB.out HBA.out) RA_4.out RB_4.out (by omega) (by omega)).mono ?_
        rintro e w' ⟨rfl, rfl⟩
        go_wp2_with fail
        refine (cWithin_is true [] A none aA 0 cA _ _ u4 HZ.out HE.out RA_4.out (by decide) (by omega)).mono ?_
        rintro e w' ⟨rfl, rfl⟩
        go_wp2
        go_ret
        exact ⟨rfl, HB_4.out⟩
      · have HAB := Lib.hid hAB
        clear hAB
        cases hBX : withinB B X
        · have HBX := Lib.hid hBX
          clear hBX
          go_wp2_with fail
          refine (cWithin_is true A B aA aB cA cB _ _ u4 HAB.out RA_4.out RB_4.out (by omega) (by omega)).mono ?_
          rintro e w' ⟨rfl, rfl⟩
          go_wp2_with fail
          refine (cWithin_is false B X aB aX cB cX _ _ u4 HBX.out RB_4.out RX_4.out (by omega) (by omega)).mono ?_
          rintro e w' ⟨rfl, rfl⟩
          go_wp2_with fail
          refine (cSame_is false A B aA aB cA cB _ _ u4 (same_of HAB.out HBA.out) RA_4.out RB_4.out (by omega) (by omega)).mono ?_
          rintro e w' ⟨rfl, rfl⟩
          go_wp2_with fail
          refine (cWithin_is true A B aA aB cA cB _ _ u4 HAB.out RA_4.out RB_4.out (by omega) (by omega)).mono ?_
          rintro e w' ⟨rfl, rfl⟩
          go_wp2_with fail
          refine (cWithin_is false B A aB aA cB cA _ _ u4 HBA.out RB_4.out RA_4.out (by omega) (by omega)).mono ?_
          rintro e w' ⟨rfl, rfl⟩
          go_wp2_with fail
          refine (cSame_is false A B aA aB cA cB _ _ u4 (same_of HAB.out HBA.out) RA_4.out RB_4.out (by omega) (by omega)).mono ?_
          rintro e w' ⟨rfl, rfl⟩
          go_wp2_with fail
          refine (cWithin_is true [] A none aA 0 cA _ _ u4 HZ.out HE.out RA_4.out (by decide) (by omega)).mono ?_
          rintro e w' ⟨rfl, rfl⟩
          go_wp2
          go_ret
          exact ⟨rfl, HB_4.out⟩
        · have HBX := Lib.hid hBX
          clear hBX
          go_wp2_with fail
          refine (cWithin_is true A B aA aB cA cB _ _ u4 HAB.out RA_4.out RB_4.out (by omega) (by omega)).mono ?_
          rintro e w' ⟨rfl, rfl⟩
          go_wp2_with fail
          refine (cWithin_is true B X aB aX cB cX _ _ u4 HBX.out RB_4.out RX_4.out (by omega) (by omega)).mono ?_
          rintro e w' ⟨rfl, rfl⟩
          go_wp2_with fail
          refine (cWithin_is true A X aA aX cA cX _ _ u4 (within_trans HAB.out HBX.out) RA_4.out RX_4.out (by omega) (by omega)).mono ?_
          rintro e w' ⟨rfl, rfl⟩
          go_wp2_with fail
          refine (cSame_is false A B aA aB cA cB _ _ u4 (same_of HAB.out HBA.out) RA_4.out RB_4.out (by omega) (by omega)).mono ?_
          rintro e w' ⟨rfl, rfl⟩
          go_wp2_with fail
          refine (cWithin_is true A B aA aB cA cB _ _ u4 HAB.out RA_4.out RB_4.out (by omega) (by omega)).mono ?_
          rintro e w' ⟨rfl, rfl⟩
          go_wp2_with fail
          refine (cWithin_is false B A aB aA cB cA _ _ u4 HBA.out RB_4.out RA_4.out (by omega) (by omega)).mono ?_
          rintro e w' ⟨rfl, rfl⟩
          go_wp2_with fail
          refine (cSame_is false A B aA aB cA cB _ _ u4 (same_of HAB.out HBA.out) RA_4.out RB_4.out (by omega) (by omega)).mono ?_
          rintro e w' ⟨rfl, rfl⟩
          go_wp2_with fail
          refine (cWithin_is true [] A none aA 0 cA _ _ u4 HZ.out HE.out RA_4.out (by decide) (by omega)).mono ?_
          rintro e w' ⟨rfl, rfl⟩
          go_wp2
          go_ret
          exact ⟨rfl, HB_4.out⟩
    · have HBA := Lib.hid hBA
      clear hBA
      cases hAB : withinB A B
      · have HAB := Lib.hid hAB
        clear hAB
        go_wp2_with fail
        refine (cWithin_is false A B aA aB cA cB _ _ u4 HAB.out RA_4.out RB_4.out (by omega) (by omega)).mono ?_
        rintro e w' ⟨rfl, rfl⟩
        go_wp2_with fail
        refine (cSame_is false A B aA aB cA cB _ _ u4 (same_of HAB.out HBA.out) RA_4.out RB_4.out (by omega) (by omega)).mono ?_
        rintro e w' ⟨rfl, rfl⟩
        go_wp2_with fail
        refine (cWithin_is false A B aA aB cA cB _ _ u4 HAB.out RA_4.out RB_4.out (by omega) (by omega)).mono ?_
        rintro e w' ⟨rfl, rfl⟩
        go_wp2_with fail
        refine (cSame_is false A B aA aB cA cB _ _ u4 (same_of HAB.out HBA.out) RA_4.out RB_4.out (by omega) (by omega)).mono ?_
        rintro e w' ⟨rfl, rfl⟩
        go_wp2_with fail
        refine (cWithin_is true [] A none aA 0 cA _ _ u4 HZ.out HE.out RA_4.out (by decide) (by omega)).mono ?_
        rintro e w' ⟨rfl, rfl⟩
        go_wp2
        go_ret
        exact ⟨rfl, HB_4.out⟩
      · have HAB := Lib.hid hAB
        clear hAB
        cases hBX : withinB B X
        · have HBX := Lib.hid hBX
          clear hBX
          go_wp2_with fail
          refine (cWithin_is true A B aA aB cA cB _ _ u4 HAB.out RA_4.out RB_4.out (by omega) (by omega)).mono ?_
          rintro e w' ⟨rfl, rfl⟩
          go_wp2_with fail
          refine (cWithin_is false B X aB aX cB cX _ _ u4 HBX.out RB_4.out RX_4.out (by omega) (by omega)).mono ?_
          rintro e w' ⟨rfl, rfl⟩
          go_wp2_with fail
          refine (cSame_is true A B aA aB cA cB _ _ u4 (same_of HAB.out HBA.out) RA_4.out RB_4.out (by omega) (by omega)).mono ?_
          rintro e w' ⟨rfl, rfl⟩
          go_wp2_with fail
          refine (cWithin_is true A B aA aB cA cB _ _ u4 HAB.out RA_4.out RB_4.out (by omega) (by omega)).mono ?_
          rintro e w' ⟨rfl, rfl⟩
          go_wp2_with fail
          refine (cWithin_is true B A aB aA cB cA _ _ u4 HBA.out RB_4.out RA_4.out (by omega) (by omega)).mono ?_
          rintro e w' ⟨rfl, rfl⟩
          go_wp2_with fail
          refine (cSame_is true A B aA aB cA cB _ _ u4 (same_of HAB.out HBA.out) RA_4.out RB_4.out (by omega) (by omega)).mono ?_
          rintro e w' ⟨rfl, rfl⟩
          go_wp2_with fail
          refine (cAt_any A aA cA _ _ u4 RA_4.out).mono ?_
          rintro e w' ⟨rfl, rfl⟩
          rw [same_at HAB.out HBA.out]
          go_wp2_with fail
          refine (cAt_any B aB cB _ _ u4 RB_4.out).mono ?_
          rintro e w' ⟨rfl, rfl⟩
          go_wp2_with fail
          refine (cWithin_is true [] A none aA 0 cA _ _ u4 HZ.out HE.out RA_4.out (by decide) (by omega)).mono ?_
          rintro e w' ⟨rfl, rfl⟩
          go_wp2
          go_ret
          exact ⟨rfl, HB_4.out⟩
        · have HBX := Lib.hid hBX
          clear hBX
          go_wp2_with fail
          refine (cWithin_is true A B aA aB cA cB _ _ u4 HAB.out RA_4.out RB_4.out (by omega) (by omega)).mono ?_
          rintro e w' ⟨rfl, rfl⟩
          go_wp2_with fail
          refine (cWithin_is true B X aB aX cB cX _ _ u4 HBX.out RB_4.out RX_4.out (by omega) (by omega)).mono ?_
          rintro e w' ⟨rfl, rfl⟩
          go_wp2_with fail
          refine (cWithin_is true A X aA aX cA cX _ _ u4 (within_trans HAB.out HBX.out) RA_4.out RX_4.out (by omega) (by omega)).mono ?_
          rintro e w' ⟨rfl, rfl⟩
          go_wp2_with fail
          refine (cSame_is true A B aA aB cA cB _ _ u4 (same_of HAB.out HBA.out) RA_4.out RB_4.out (by omega) (by omega)).mono ?_
          rintro e w' ⟨rfl, rfl⟩
          go_wp2_with fail
          refine (cWithin_is true A B aA aB cA cB _ _ u4 HAB.out RA_4.out RB_4.out (by omega) (by omega)).mono ?_
          rintro e w' ⟨rfl, rfl⟩
          go_wp2_with fail
          refine (cWithin_is true B A aB aA cB cA _ _ u4 HBA.out RB_4.out RA_4.out (by omega) (by omega)).mono ?_
          rintro e w' ⟨rfl, rfl⟩
          go_wp2_with fail
          refine (cSame_is true A B aA aB cA cB _ _ u4 (same_of HAB.out HBA.out) RA_4.out RB_4.out (by omega) (by omega)).mono ?_
          rintro e w' ⟨rfl, rfl⟩
          go_wp2_with fail
          refine (cAt_any A aA cA _ _ u4 RA_4.out).mono ?_
          rintro e w' ⟨rfl, rfl⟩
          rw [same_at HAB.out HBA.out]
          go_wp2_with fail
          refine (cAt_any B aB cB _ _ u4 RB_4.out).mono ?_
          rintro e w' ⟨rfl, rfl⟩
          go_wp2_with fail
          refine (cWithin_is true [] A none aA 0 cA _ _ u4 HZ.out HE.out RA_4.out (by decide) (by omega)).mono ?_
          rintro e w' ⟨rfl, rfl⟩
          go_wp2
          go_ret
          exact ⟨rfl, HB_4.out⟩

set_option maxRecDepth 100000 in
theorem clockOrder_lifted (os : Os) (started : os.Started) (H : Type) (enc : TypeId × Value → H) :
    ReturnsInHanded {} Try.checked os 3 .any (Rows.clockOrderSpec.pre6 enc Try.prog Try.f3 Rows.clockOrderRow.domain false) (Rows.clockOrderSpec.post enc Try.prog Try.f3 false true false false) := by
  refine returnsInHanded_of_change_sized (C := Try.checked) law_own started (by kernel_rfl) Try.func3
    (ChangeSpec.witness6 (enc := enc) (C := Try.checked) false ⟨#[], #[.slice none 0 0, .slice none 0 0, .slice none 0 0, .int .u8 0], []⟩ 8 (by kernel_rfl) (by kernel_rfl) (by kernel_rfl) (by kernel_rfl)) ?_
  intro W base args ds gs before hval0 hW hcnd hsz0 _
  have hsz : (DataW.weightsEach Try.prog (Try.f3.params.toList ++ Rows.clockOrderSpec.plain.varTypes Try.prog) (ds ++ gs)).all (· ≤ reachBytes) = true := hsz0
  have hval : ∀ (j : Nat) t v, Try.f3.params[j]? = some t → args[j]? = some v → Value.okWide Try.prog W .any base t v := hval0
  have hW' := hW
  obtain ⟨p, q, hA0, hV, rfl, hfz, hnd⟩ := hW
  have hA : DataW.TrodAll enc Try.prog W 0 (fun _ => true) true Try.f3.params.toList args.toList ds p := hA0
  rw [Try.params3] at hA hval hsz
  obtain ⟨v0, vs0, d0, ds0, p0, q0, hargs, rfl, rfl, h0, r0⟩ := trodAll_cons hA
  obtain ⟨v1, vs1, d1, ds1, p1, q1, rfl, rfl, rfl, h1, r1⟩ := trodAll_cons r0
  obtain ⟨v2, vs2, d2, ds2, p2, q2, rfl, rfl, rfl, h2, r2⟩ := trodAll_cons r1
  obtain ⟨v3, vs3, d3, ds3, p3, q3, rfl, rfl, rfl, h3, r3⟩ := trodAll_cons r2
  obtain ⟨rfl, rfl, rfl⟩ := trodAll_nil r3
  obtain rfl : args = #[v0, v1, v2, v3] := by cases args; simp_all
  obtain ⟨rfl, rfl⟩ := trodVars_none hV
  obtain ⟨a0, len0, cap0, rfl⟩ := okWide_slice Try.underlying22 (hval 0 22 v0 rfl rfl)
  have k0 := h0
  have lt0 : ∀ x ∈ p0, x.block < W.heap.size := by obtain ⟨m, hm⟩ := k0; exact DataW.trod_lt m _ _ _ hm
  obtain ⟨l0, w0, s0⟩ : ∃ l, SliceIn .u8 W a0 len0 cap0 l ∧ len0 ≤ 140737488355328 := by
    obtain ⟨fuel, hf⟩ := h0
    rcases open_ints Try.underlying22 Try.underlying5 (by kernel_rfl) hf with ⟨hcs, _⟩ | ⟨x, l, c, zs, hcs, _, hl, hm, hz, hxd, hcell, hwz⟩
    · simp [Value.cells] at hcs
      obtain ⟨rfl, rfl, rfl⟩ := hcs
      exact ⟨[], SliceIn.nil _ _, Nat.zero_le _⟩
    · simp [Value.cells] at hcs
      obtain ⟨rfl, rfl, rfl⟩ := hcs
      have hr := sized_slice hsz (j := 0) (t := 22) (e := 5) rfl (congrArg some (congrArg Prod.fst hxd)) Try.underlying22
      rw [show Try.prog.bytesOf 5 = 1 by kernel_rfl] at hr
      simp only [lits, List.length_map, List.length_take, List.length_drop] at hr
      have hz1 : zs.length = cap0 := by simpa using hz
      have hr1 := reachBytes_lt
      exact ⟨_, SliceIn.of hl hm hz1 hcell hwz, by omega⟩
  obtain ⟨a1, len1, cap1, rfl⟩ := okWide_slice Try.underlying22 (hval 1 22 v1 rfl rfl)
  have k1 := h1
  have lt1 : ∀ x ∈ p1, x.block < W.heap.size := by obtain ⟨m, hm⟩ := k1; exact DataW.trod_lt m _ _ _ hm
  obtain ⟨l1, w1, s1⟩ : ∃ l, SliceIn .u8 W a1 len1 cap1 l ∧ len1 ≤ 140737488355328 := by
    obtain ⟨fuel, hf⟩ := h1
    rcases open_ints Try.underlying22 Try.underlying5 (by kernel_rfl) hf with ⟨hcs, _⟩ | ⟨x, l, c, zs, hcs, _, hl, hm, hz, hxd, hcell, hwz⟩
    · simp [Value.cells] at hcs
      obtain ⟨rfl, rfl, rfl⟩ := hcs
      exact ⟨[], SliceIn.nil _ _, Nat.zero_le _⟩
    · simp [Value.cells] at hcs
      obtain ⟨rfl, rfl, rfl⟩ := hcs
      have hr := sized_slice hsz (j := 1) (t := 22) (e := 5) rfl (congrArg some (congrArg Prod.fst hxd)) Try.underlying22
      rw [show Try.prog.bytesOf 5 = 1 by kernel_rfl] at hr
      simp only [lits, List.length_map, List.length_take, List.length_drop] at hr
      have hz1 : zs.length = cap1 := by simpa using hz
      have hr1 := reachBytes_lt
      exact ⟨_, SliceIn.of hl hm hz1 hcell hwz, by omega⟩
  obtain ⟨a2, len2, cap2, rfl⟩ := okWide_slice Try.underlying22 (hval 2 22 v2 rfl rfl)
  have k2 := h2
  have lt2 : ∀ x ∈ p2, x.block < W.heap.size := by obtain ⟨m, hm⟩ := k2; exact DataW.trod_lt m _ _ _ hm
  obtain ⟨l2, w2, s2⟩ : ∃ l, SliceIn .u8 W a2 len2 cap2 l ∧ len2 ≤ 140737488355328 := by
    obtain ⟨fuel, hf⟩ := h2
    rcases open_ints Try.underlying22 Try.underlying5 (by kernel_rfl) hf with ⟨hcs, _⟩ | ⟨x, l, c, zs, hcs, _, hl, hm, hz, hxd, hcell, hwz⟩
    · simp [Value.cells] at hcs
      obtain ⟨rfl, rfl, rfl⟩ := hcs
      exact ⟨[], SliceIn.nil _ _, Nat.zero_le _⟩
    · simp [Value.cells] at hcs
      obtain ⟨rfl, rfl, rfl⟩ := hcs
      have hr := sized_slice hsz (j := 2) (t := 22) (e := 5) rfl (congrArg some (congrArg Prod.fst hxd)) Try.underlying22
      rw [show Try.prog.bytesOf 5 = 1 by kernel_rfl] at hr
      simp only [lits, List.length_map, List.length_take, List.length_drop] at hr
      have hz1 : zs.length = cap2 := by simpa using hz
      have hr1 := reachBytes_lt
      exact ⟨_, SliceIn.of hl hm hz1 hcell hwz, by omega⟩
  obtain ⟨a3, rfl, rfl, rfl, w3⟩ := open_int Try.underlying5 (hval 3 5 v3 rfl rfl) h3
  clear hA0 hval0
  refine (clockOrder_walk a0 len0 cap0 l0 a1 len1 cap1 l1 a2 len2 cap2 l2 a3 W w0 s0 w1 s1 w2 s2 w3).mono fun e W' ⟨he, bel⟩ => ?_
  subst he
  exact ⟨_, rfl, _, _, _, [], _, [], hW', trodAll_mk1 (shut_bool Try.underlying4 _), (trodAll_cons_mk (Below.trod law_laidOut (by kernel_rfl) (of_decide_eq_true (by kernel_rfl)) k0 bel lt0) (trodAll_cons_mk (Below.trod law_laidOut (by kernel_rfl) (of_decide_eq_true (by kernel_rfl)) k1 bel lt1) (trodAll_cons_mk (Below.trod law_laidOut (by kernel_rfl) (of_decide_eq_true (by kernel_rfl)) k2 bel lt2) (trodAll_cons_mk (shut_int Try.underlying5 w3) trodAll_mk0)))), rfl, bel.frame _, fun h => by cases h⟩

/-- The statement. -/
theorem clockOrder_holds : Rows.ClockOrderSaid :=
  OpenClaim.holds_of_wide 3 Try.f3 rfl rfl rfl rfl rfl rfl rfl ⟨rfl, rfl, rfl, rfl, rfl⟩ rfl rfl rfl rfl rfl (by kernel_rfl) Try.func3 (by kernel_rfl)
    (of_decide_eq_true (by kernel_rfl)) (by unfold Func.isWrapper; first | (rw [if_pos (by decide +kernel)]; kernel_rfl) | (rw [if_neg (by decide +kernel)]; exact ⟨rfl, rfl⟩))
    (fun os started H enc _ => clockOrder_lifted os started H enc)
end Go.Proofs.Ytaiaipejmggbeaa
