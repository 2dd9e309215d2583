/- ClockLeast: both are within their join, and it is within all that both are within; for every input. -/
import Derived.Test.YtaiaipejmggbeaaClockKnown
import Derived.SizedLaws
namespace Go.Proofs.Ytaiaipejmggbeaa
set_option linter.unusedVariables false
set_option linter.unusedSimpArgs false
set_option maxRecDepth 100000
open Go.ChangeShapes Go.WideShapes Go.ChangeAt Go.RowKit

theorem u8_of {l : List Int} (h : ∀ n ∈ l, (Lit.int .u8 n).wf = true) : ∀ x ∈ l, 0 ≤ x ∧ x < 256 := fun x hx => by have := bounds_u8 (h x hx); omega
theorem join_left (a b : List Int) : withinB a (joinL a b) = true := (within_iff _ _).2 fun k => by rw [join_at]; omega
theorem join_right (a b : List Int) : withinB b (joinL a b) = true := (within_iff _ _).2 fun k => by rw [join_at]; omega
theorem join_least (a b x : List Int) : withinB (joinL a b) x = (withinB a x && withinB b x) := by
  rw [Bool.eq_iff_iff, Bool.and_eq_true, within_iff, within_iff, within_iff]
  constructor
  · intro h
    exact ⟨fun k => by have := h k; rw [join_at] at this; omega, fun k => by have := h k; rw [join_at] at this; omega⟩
  · intro h k
    rw [join_at]; have := h.1 k; have := h.2 k; omega
theorem join_comm (a b : List Int) : sameB (joinL a b) (joinL b a) = true := (same_iff _ _).2 fun k => by rw [join_at, join_at]; omega
theorem join_assoc (a b x : List Int) : sameB (joinL (joinL a b) x) (joinL a (joinL b x)) = true := (same_iff _ _).2 fun k => by rw [join_at, join_at, join_at, join_at]; omega
theorem join_self (a : List Int) : sameB (joinL a a) a = true := (same_iff _ _).2 fun k => by rw [join_at]; omega
theorem least_of {a b x j : List Int} {s t : Bool} (hj : j = joinL a b) (hs : withinB a x = s) (ht : withinB b x = t) : withinB j x = (s && t) := by rw [hj, join_least, hs, ht]
set_option maxHeartbeats 2000000 in
theorem clockLeast_walk (a0 : Option Addr) (len0 cap0 : Nat) (l0 : List Int) (a1 : Option Addr) (len1 cap1 : Nat) (l1 : List Int) (a2 : Option Addr) (len2 cap2 : Nat) (l2 : List Int) (w : World) (w0 : SliceIn .u8 w a0 len0 cap0 l0) (s0 : len0 ≤ 140737488355328) (w1 : SliceIn .u8 w a1 len1 cap1 l1) (s1 : len1 ≤ 140737488355328) (w2 : SliceIn .u8 w a2 len2 cap2 l2) (s2 : len2 ≤ 140737488355328) :
    Calls Try.prog 6 #[.slice a0 len0 cap0, .slice a1 len1 cap1, .slice a2 len2 cap2] w fun e w' => e = .returned (.bool true) ∧ Below w.heap.size w w' := by
  obtain rfl := w0.len_eq
  obtain rfl := w1.len_eq
  obtain rfl := w2.len_eq
  have hx1 : IntKind.i64.wrap ((l0.length : Int) + (l1.length : Int)) = (l0.length : Int) + (l1.length : Int) := IntWalk.i64_in _ (by omega)
  have hx2 : IntKind.i64.wrap ((l0.length : Int) + (l1.length : Int) + (l2.length : Int)) = (l0.length : Int) + (l1.length : Int) + (l2.length : Int) := IntWalk.i64_in _ (by omega)
  have Ic_0 := Lib.hid w0.row
  have HUc := Lib.hid (u8_of w0.fit)
  have Id_0 := Lib.hid w1.row
  have HUd := Lib.hid (u8_of w1.fit)
  have Ie_0 := Lib.hid w2.row
  have HUe := Lib.hid (u8_of w2.fit)
  clear w0 w1 w2
  by_cases hs : 400 < l0.length + l1.length + l2.length
  · have hd : (400 : Int) < (l0.length : Int) + (l1.length : Int) + (l2.length : Int) := by omega
    clear hs
    go_enter Try.func6, Try.ntmps6
    go_wp2_with (go_at_call 8; refine (known_any _).mono ?_; rintro e w1 ⟨rfl, hB1⟩)
    go_ret
    exact ⟨rfl, hB1⟩
  · have hd : ¬ (400 : Int) < (l0.length : Int) + (l1.length : Int) + (l2.length : Int) := by omega
    go_enter Try.func6, Try.ntmps6
    go_wp2_with fail
    refine (known_any w).mono ?_
    rintro e u1 ⟨rfl, hB⟩
    have Ic_1 := Lib.hid (Ic_0.out.up hB)
    have Id_1 := Lib.hid (Id_0.out.up hB)
    have Ie_1 := Lib.hid (Ie_0.out.up hB)
    have HB_1 := Lib.hid hB
    clear hB Ic_0 Id_0 Ie_0
    go_wp2_with fail
    refine (near_any l0 a0 cap0 u1 Ic_1.out HUc.out (by omega)).mono ?_
    rintro e u2 ⟨aA, cA, A, qA, rfl, hR, hB⟩
    have EA := Lib.hid qA.out
    have lA : A.length ≤ 900 := by rw [EA.out, near_len]; omega
    have RA_2 := Lib.hid hR
    clear hR qA
    have Ic_2 := Lib.hid (Ic_1.out.up hB)
    have Id_2 := Lib.hid (Id_1.out.up hB)
    have Ie_2 := Lib.hid (Ie_1.out.up hB)
    have HB_2 := Lib.hid (below_next HB_1.out hB)
    clear hB Ic_1 Id_1 Ie_1 HB_1
    go_wp2_with fail
    refine (near_any l1 a1 cap1 u2 Id_2.out HUd.out (by omega)).mono ?_
    rintro e u3 ⟨aB, cB, B, qB, rfl, hR, hB⟩
    have EB := Lib.hid qB.out
    have lB : B.length ≤ 900 := by rw [EB.out, near_len]; omega
    have RB_3 := Lib.hid hR
    clear hR qB
    have RA_3 := Lib.hid (RA_2.out.up hB)
    have Id_3 := Lib.hid (Id_2.out.up hB)
    have Ie_3 := Lib.hid (Ie_2.out.up hB)
    have HB_3 := Lib.hid (below_next HB_2.out hB)
    clear hB RA_2 Id_2 Ie_2 HB_2
    go_wp2_with fail
    refine (near_any l2 a2 cap2 u3 Ie_3.out HUe.out (by omega)).mono ?_
    rintro e u4 ⟨aX, cX, X, qX, rfl, hR, hB⟩
    have EX := Lib.hid qX.out
    have lX : X.length ≤ 900 := by rw [EX.out, near_len]; omega
    have RX_4 := Lib.hid hR
    clear hR qX
    have RA_4 := Lib.hid (RA_3.out.up hB)
    have RB_4 := Lib.hid (RB_3.out.up hB)
    have Ie_4 := Lib.hid (Ie_3.out.up hB)
    have HB_4 := Lib.hid (below_next HB_3.out hB)
    clear hB RA_3 RB_3 Ie_3 HB_3
    have lA9 : A.length + B.length + X.length ≤ 400 := by rw [EA.out, EB.out, EX.out, near_len, near_len, near_len]; omega
    go_wp2_with fail
    refine (join_any A B aA aB cA cB u4 RA_4.out RB_4.out (by omega) (by omega)).mono ?_
    rintro e u5 ⟨aJ, cJ, J, qJ, rfl, hR, hB⟩
    have EJ := Lib.hid qJ.out
    have lJ : J.length ≤ 900 := by rw [EJ.out, join_len]; omega
    have RJ_5 := Lib.hid hR
    clear hR qJ
    have RA_5 := Lib.hid (RA_4.out.up hB)
    have RB_5 := Lib.hid (RB_4.out.up hB)
    have RX_5 := Lib.hid (RX_4.out.up hB)
    have HB_5 := Lib.hid (below_next HB_4.out hB)
    clear hB RA_4 RB_4 RX_4 HB_4
    cases hAX : withinB A X
    · have HAX := Lib.hid hAX
      clear hAX
      cases hBX : withinB B X
      · have HBX := Lib.hid hBX
        clear hBX
        go_wp2_with fail
        refine (cWithin_is false A X aA aX cA cX _ _ u5 HAX.out RA_5.out RX_5.out (by omega) (by omega)).mono ?_
        rintro e w' ⟨rfl, rfl⟩
        go_wp2_with fail
        refine (cWithin_is true A J aA aJ cA cJ _ _ u5 (by rw [EJ.out]; exact join_left _ _) RA_5.out RJ_5.out (by omega) (by omega)).mono ?_
        rintro e w' ⟨rfl, rfl⟩
        go_wp2_with fail
        refine (cWithin_is true B J aB aJ cB cJ _ _ u5 (by rw [EJ.out]; exact join_right _ _) RB_5.out RJ_5.out (by omega) (by omega)).mono ?_
        rintro e w' ⟨rfl, rfl⟩
        go_wp2_with fail
        refine (cWithin_is false J X aJ aX cJ cX _ _ u5 (least_of EJ.out HAX.out HBX.out) RJ_5.out RX_5.out (by omega) (by omega)).mono ?_
        rintro e w' ⟨rfl, rfl⟩
        go_wp2_with fail
        refine (join_any B A aB aA cB cA u5 RB_5.out RA_5.out (by omega) (by omega)).mono ?_
        rintro e u6 ⟨aK, cK, K, qK, rfl, hR, hB⟩
        have EK := Lib.hid qK.out
        have lK : K.length ≤ 900 := by rw [EK.out, join_len]; omega
        have RK_6 := Lib.hid hR
        clear hR qK
        have RA_6 := Lib.hid (RA_5.out.up hB)
        have RB_6 := Lib.hid (RB_5.out.up hB)
        have RX_6 := Lib.hid (RX_5.out.up hB)
        have RJ_6 := Lib.hid (RJ_5.out.up hB)
        have HB_6 := Lib.hid (below_next HB_5.out hB)
        clear hB RA_5 RB_5 RX_5 RJ_5 HB_5
        go_wp2_with fail
        refine (cSame_is true J K aJ aK cJ cK _ _ u6 (by rw [EJ.out, EK.out]; exact join_comm _ _) RJ_6.out RK_6.out (by omega) (by omega)).mono ?_
        rintro e w' ⟨rfl, rfl⟩
        go_wp2_with fail
        refine (join_any J X aJ aX cJ cX u6 RJ_6.out RX_6.out (by omega) (by omega)).mono ?_
        rintro e u7 ⟨aL, cL, L, qL, rfl, hR, hB⟩
        have EL := Lib.hid qL.out
        have lL : L.length ≤ 900 := by rw [EL.out, join_len]; omega
        have RL_7 := Lib.hid hR
        clear hR qL
        have RA_7 := Lib.hid (RA_6.out.up hB)
        have RB_7 := Lib.hid (RB_6.out.up hB)
        have RX_7 := Lib.hid (RX_6.out.up hB)
        have RJ_7 := Lib.hid (RJ_6.out.up hB)
        have RK_7 := Lib.hid (RK_6.out.up hB)
        have HB_7 := Lib.hid (below_next HB_6.out hB)
        clear hB RA_6 RB_6 RX_6 RJ_6 RK_6 HB_6
        go_wp2_with fail
        refine (join_any B X aB aX cB cX u7 RB_7.out RX_7.out (by omega) (by omega)).mono ?_
        rintro e u8 ⟨aM, cM, M, qM, rfl, hR, hB⟩
        have EM := Lib.hid qM.out
        have lM : M.length ≤ 900 := by rw [EM.out, join_len]; omega
        have RM_8 := Lib.hid hR
        clear hR qM
        have RA_8 := Lib.hid (RA_7.out.up hB)
        have RB_8 := Lib.hid (RB_7.out.up hB)
        have RX_8 := Lib.hid (RX_7.out.up hB)
        have RJ_8 := Lib.hid (RJ_7.out.up hB)
        have RK_8 := Lib.hid (RK_7.out.up hB)
        have RL_8 := Lib.hid (RL_7.out.up hB)
        have HB_8 := Lib.hid (below_next HB_7.out hB)
        clear hB RA_7 RB_7 RX_7 RJ_7 RK_7 RL_7 HB_7
        go_wp2_with fail
        refine (join_any A M aA aM cA cM u8 RA_8.out RM_8.out (by omega) (by omega)).mono ?_
        rintro e u9 ⟨aN, cN, N, qN, rfl, hR, hB⟩
        have EN := Lib.hid qN.out
        have lN : N.length ≤ 900 := by rw [EN.out, join_len]; omega
        have RN_9 := Lib.hid hR
        clear hR qN
        have RA_9 := Lib.hid (RA_8.out.up hB)
        have RB_9 := Lib.hid (RB_8.out.up hB)
        have RX_9 := Lib.hid (RX_8.out.up hB)
        have RJ_9 := Lib.hid (RJ_8.out.up hB)
        have RK_9 := Lib.hid (RK_8.out.up hB)
        have RL_9 := Lib.hid (RL_8.out.up hB)
        have RM_9 := Lib.hid (RM_8.out.up hB)
        have HB_9 := Lib.hid (below_next HB_8.out hB)
        clear hB RA_8 RB_8 RX_8 RJ_8 RK_8 RL_8 RM_8 HB_8
        go_wp2_with fail
        refine (cSame_is true L N aL aN cL cN _ _ u9 (by rw [EL.out, EN.out, EM.out, EJ.out]; exact join_assoc _ _ _) RL_9.out RN_9.out (by omega) (by omega)).mono ?_
        rintro e w' ⟨rfl, rfl⟩
        go_wp2_with fail
        refine (join_any A A aA aA cA cA u9 RA_9.out RA_9.out (by omega) (by omega)).mono ?_
        rintro e u10 ⟨aO, cO, O, qO, rfl, hR, hB⟩
        have EO := Lib.hid qO.out
        have lO : O.length ≤ 900 := by rw [EO.out, join_len]; omega
        have RO_10 := Lib.hid hR
        clear hR qO
        have RA_10 := Lib.hid (RA_9.out.up hB)
        have RB_10 := Lib.hid (RB_9.out.up hB)
        have RX_10 := Lib.hid (RX_9.out.up hB)
        have RJ_10 := Lib.hid (RJ_9.out.up hB)
        have RK_10 := Lib.hid (RK_9.out.up hB)
        have RL_10 := Lib.hid (RL_9.out.up hB)
        have RM_10 := Lib.hid (RM_9.out.up hB)
        have RN_10 := Lib.hid (RN_9.out.up hB)
        have HB_10 := Lib.hid (below_next HB_9.out hB)
        clear hB RA_9 RB_9 RX_9 RJ_9 RK_9 RL_9 RM_9 RN_9 HB_9
        go_wp2_with fail
        refine (cSame_is true O A aO aA cO cA _ _ u10 (by rw [EO.out]; exact join_self _) RO_10.out RA_10.out (by omega) (by omega)).mono ?_
        rintro e w' ⟨rfl, rfl⟩
        go_wp2
        go_ret
        exact ⟨rfl, HB_10.out⟩
      · have HBX := Lib.hid hBX
        clear hBX
        go_wp2_with fail
        refine (cWithin_is false A X aA aX cA cX _ _ u5 HAX.out RA_5.out RX_5.out (by omega) (by omega)).mono ?_
        rintro e w' ⟨rfl, rfl⟩
        go_wp2_with fail
        refine (cWithin_is true A J aA aJ cA cJ _ _ u5 (by rw [EJ.out]; exact join_left _ _) RA_5.out RJ_5.out (by omega) (by omega)).mono ?_
        rintro e w' ⟨rfl, rfl⟩
        go_wp2_with fail
        refine (cWithin_is true B J aB aJ cB cJ _ _ u5 (by rw [EJ.out]; exact join_right _ _) RB_5.out RJ_5.out (by omega) (by omega)).mono ?_
        rintro e w' ⟨rfl, rfl⟩
        go_wp2_with fail
        refine (cWithin_is false J X aJ aX cJ cX _ _ u5 (least_of EJ.out HAX.out HBX.out) RJ_5.out RX_5.out (by omega) (by omega)).mono ?_
        rintro e w' ⟨rfl, rfl⟩
        go_wp2_with fail
        refine (join_any B A aB aA cB cA u5 RB_5.out RA_5.out (by omega) (by omega)).mono ?_
        rintro e u6 ⟨aK, cK, K, qK, rfl, hR, hB⟩
        have EK := Lib.hid qK.out
        have lK : K.length ≤ 900 := by rw [EK.out, join_len]; omega
        have RK_6 := Lib.hid hR
        clear hR qK
        have RA_6 := Lib.hid (RA_5.out.up hB)
        have RB_6 := Lib.hid (RB_5.out.up hB)
        have RX_6 := Lib.hid (RX_5.out.up hB)
        have RJ_6 := Lib.hid (RJ_5.out.up hB)
        have HB_6 := Lib.hid (below_next HB_5.out hB)
        clear hB RA_5 RB_5 RX_5 RJ_5 HB_5
        go_wp2_with fail
        refine (cSame_is true J K aJ aK cJ cK _ _ u6 (by rw [EJ.out, EK.out]; exact join_comm _ _) RJ_6.out RK_6.out (by omega) (by omega)).mono ?_
        rintro e w' ⟨rfl, rfl⟩
        go_wp2_with fail
        refine (join_any J X aJ aX cJ cX u6 RJ_6.out RX_6.out (by omega) (by omega)).mono ?_
        rintro e u7 ⟨aL, cL, L, qL, rfl, hR, hB⟩
        have EL := Lib.hid qL.out
        have lL : L.length ≤ 900 := by rw [EL.out, join_len]; omega
        have RL_7 := Lib.hid hR
        clear hR qL
        have RA_7 := Lib.hid (RA_6.out.up hB)
        have RB_7 := Lib.hid (RB_6.out.up hB)
        have RX_7 := Lib.hid (RX_6.out.up hB)
        have RJ_7 := Lib.hid (RJ_6.out.up hB)
        have RK_7 := Lib.hid (RK_6.out.up hB)
        have HB_7 := Lib.hid (below_next HB_6.out hB)
        clear hB RA_6 RB_6 RX_6 RJ_6 RK_6 HB_6
        go_wp2_with fail
        refine (join_any B X aB aX cB cX u7 RB_7.out RX_7.out (by omega) (by omega)).mono ?_
        rintro e u8 ⟨aM, cM, M, qM, rfl, hR, hB⟩
        have EM := Lib.hid qM.out
        have lM : M.length ≤ 900 := by rw [EM.out, join_len]; omega
        have RM_8 := Lib.hid hR
        clear hR qM
        have RA_8 := Lib.hid (RA_7.out.up hB)
        have RB_8 := Lib.hid (RB_7.out.up hB)
        have RX_8 := Lib.hid (RX_7.out.up hB)
        have RJ_8 := Lib.hid (RJ_7.out.up hB)
        have RK_8 := Lib.hid (RK_7.out.up hB)
        have RL_8 := Lib.hid (RL_7.out.up hB)
        have HB_8 := Lib.hid (below_next HB_7.out hB)
        clear hB RA_7 RB_7 RX_7 RJ_7 RK_7 RL_7 HB_7
        go_wp2_with fail
        refine (join_any A M aA aM cA cM u8 RA_8.out RM_8.out (by omega) (by omega)).mono ?_
        rintro e u9 ⟨aN, cN, N, qN, rfl, hR, hB⟩
        have EN := Lib.hid qN.out
        have lN : N.length ≤ 900 := by rw [EN.out, join_len]; omega
        have RN_9 := Lib.hid hR
        clear hR qN
        have RA_9 := Lib.hid (RA_8.out.up hB)
        have RB_9 := Lib.hid (RB_8.out.up hB)
        have RX_9 := Lib.hid (RX_8.out.up hB)
        have RJ_9 := Lib.hid (RJ_8.out.up hB)
        have RK_9 := Lib.hid (RK_8.out.up hB)
        have RL_9 := Lib.hid (RL_8.out.up hB)
        have RM_9 := Lib.hid (RM_8.out.up hB)
        have HB_9 := Lib.hid (below_next HB_8.out hB)
        clear hB RA_8 RB_8 RX_8 RJ_8 RK_8 RL_8 RM_8 HB_8
        go_wp2_with fail
        refine (cSame_is true L N aL aN cL cN _ _ u9 (by rw [EL.out, EN.out, EM.out, EJ.out]; exact join_assoc _ _ _) RL_9.out RN_9.out (by omega) (by omega)).mono ?_
        rintro e w' ⟨rfl, rfl⟩
        go_wp2_with fail
        refine (join_any A A aA aA cA cA u9 RA_9.out RA_9.out (by omega) (by omega)).mono ?_
        rintro e u10 ⟨aO, cO, O, qO, rfl, hR, hB⟩
        have EO := Lib.hid qO.out
        have lO : O.length ≤ 900 := by rw [EO.out, join_len]; omega
        have RO_10 := Lib.hid hR
        clear hR qO
        have RA_10 := Lib.hid (RA_9.out.up hB)
        have RB_10 := Lib.hid (RB_9.out.up hB)
        have RX_10 := Lib.hid (RX_9.out.up hB)
        have RJ_10 := Lib.hid (RJ_9.out.up hB)
        have RK_10 := Lib.hid (RK_9.out.up hB)
        have RL_10 := Lib.hid (RL_9.out.up hB)
        have RM_10 := Lib.hid (RM_9.out.up hB)
        have RN_10 := Lib.hid (RN_9.out.up hB)
        have HB_10 := Lib.hid (below_next HB_9.out hB)
        clear hB RA_9 RB_9 RX_9 RJ_9 RK_9 RL_9 RM_9 RN_9 HB_9
        go_wp2_with fail
        refine (cSame_is true O A aO aA cO cA _ _ u10 (by rw [EO.out]; exact join_self _) RO_10.out RA_10.out (by omega) (by omega)).mono ?_
        rintro e w' ⟨rfl, rfl⟩
        go_wp2
        go_ret
        exact ⟨rfl, HB_10.out⟩
    · have HAX := Lib.hid hAX
      clear hAX
      cases hBX : withinB B X
      · have HBX := Lib.hid hBX
        clear hBX
        go_wp2_with fail
        refine (cWithin_is true A X aA aX cA cX _ _ u5 HAX.out RA_5.out RX_5.out (by omega) (by omega)).mono ?_
        rintro e w' ⟨rfl, rfl⟩
        go_wp2_with fail
        refine (cWithin_is false B X aB aX cB cX _ _ u5 HBX.out RB_5.out RX_5.out (by omega) (by omega)).mono ?_
        rintro e w' ⟨rfl, rfl⟩
        go_wp2_with fail
        refine (cWithin_is true A J aA aJ cA cJ _ _ u5 (by rw [EJ.out]; exact join_left _ _) RA_5.out RJ_5.out (by omega) (by omega)).mono ?_
        rintro e w' ⟨rfl, rfl⟩
        go_wp2_with fail
        refine (cWithin_is true B J aB aJ cB cJ _ _ u5 (by rw [EJ.out]; exact join_right _ _) RB_5.out RJ_5.out (by omega) (by omega)).mono ?_
        rintro e w' ⟨rfl, rfl⟩
        go_wp2_with fail
        refine (cWithin_is false J X aJ aX cJ cX _ _ u5 (least_of EJ.out HAX.out HBX.out) RJ_5.out RX_5.out (by omega) (by omega)).mono ?_
        rintro e w' ⟨rfl, rfl⟩
        go_wp2_with fail
        refine (join_any B A aB aA cB cA u5 RB_5.out RA_5.out (by omega) (by omega)).mono ?_
        rintro e u6 ⟨aK, cK, K, qK, rfl, hR, hB⟩
        have EK := Lib.hid qK.out
        have lK : K.length ≤ 900 := by rw [EK.out, join_len]; omega
        have RK_6 := Lib.hid hR
        clear hR qK
        have RA_6 := Lib.hid (RA_5.out.up hB)
        have RB_6 := Lib.hid (RB_5.out.up hB)
        have RX_6 := Lib.hid (RX_5.out.up hB)
        have RJ_6 := Lib.hid (RJ_5.out.up hB)
        have HB_6 := Lib.hid (below_next HB_5.out hB)
        clear hB RA_5 RB_5 RX_5 RJ_5 HB_5
        go_wp2_with fail
        refine (cSame_is true J K aJ aK cJ cK _ _ u6 (by rw [EJ.out, EK.out]; exact join_comm _ _) RJ_6.out RK_6.out (by omega) (by omega)).mono ?_
        rintro e w' ⟨rfl, rfl⟩
        go_wp2_with fail
        refine (join_any J X aJ aX cJ cX u6 RJ_6.out RX_6.out (by omega) (by omega)).mono ?_
        rintro e u7 ⟨aL, cL, L, qL, rfl, hR, hB⟩
        have EL := Lib.hid qL.out
        have lL : L.length ≤ 900 := by rw [EL.out, join_len]; omega
        have RL_7 := Lib.hid hR
        clear hR qL
        have RA_7 := Lib.hid (RA_6.out.up hB)
        have RB_7 := Lib.hid (RB_6.out.up hB)
        have RX_7 := Lib.hid (RX_6.out.up hB)
        have RJ_7 := Lib.hid (RJ_6.out.up hB)
        have RK_7 := Lib.hid (RK_6.out.up hB)
        have HB_7 := Lib.hid (below_next HB_6.out hB)
        clear hB RA_6 RB_6 RX_6 RJ_6 RK_6 HB_6
        go_wp2_with fail
        refine (join_any B X aB aX cB cX u7 RB_7.out RX_7.out (by omega) (by omega)).mono ?_
        rintro e u8 ⟨aM, cM, M, qM, rfl, hR, hB⟩
        have EM := Lib.hid qM.out
        have lM : M.length ≤ 900 := by rw [EM.out, join_len]; omega
        have RM_8 := Lib.hid hR
        clear hR qM
        have RA_8 := Lib.hid (RA_7.out.up hB)
        have RB_8 := Lib.hid (RB_7.out.up hB)
        have RX_8 := Lib.hid (RX_7.out.up hB)
        have RJ_8 := Lib.hid (RJ_7.out.up hB)
        have RK_8 := Lib.hid (RK_7.out.up hB)
        have RL_8 := Lib.hid (RL_7.out.up hB)
        have HB_8 := Lib.hid (below_next HB_7.out hB)
        clear hB RA_7 RB_7 RX_7 RJ_7 RK_7 RL_7 HB_7
        go_wp2_with fail
        refine (join_any A M aA aM cA cM u8 RA_8.out RM_8.out (by omega) (by omega)).mono ?_
        rintro e u9 ⟨aN, cN, N, qN, rfl, hR, hB⟩
        have EN := Lib.hid qN.out
        have lN : N.length ≤ 900 := by rw [EN.out, join_len]; omega
        have RN_9 := Lib.hid hR
        clear hR qN
        have RA_9 := Lib.hid (RA_8.out.up hB)
        have RB_9 := Lib.hid (RB_8.out.up hB)
        have RX_9 := Lib.hid (RX_8.out.up hB)
        have RJ_9 := Lib.hid (RJ_8.out.up hB)
        have RK_9 := Lib.hid (RK_8.out.up hB)
        have RL_9 := Lib.hid (RL_8.out.up hB)
        have RM_9 := Lib.hid (RM_8.out.up hB)
        have HB_9 := Lib.hid (below_next HB_8.out hB)
        clear hB RA_8 RB_8 RX_8 RJ_8 RK_8 RL_8 RM_8 HB_8
        go_wp2_with fail
        refine (cSame_is true L N aL aN cL cN _ _ u9 (by rw [EL.out, EN.out, EM.out, EJ.out]; exact join_assoc _ _ _) RL_9.out RN_9.out (by omega) (by omega)).mono ?_
        rintro e w' ⟨rfl, rfl⟩
        go_wp2_with fail
        refine (join_any A A aA aA cA cA u9 RA_9.out RA_9.out (by omega) (by omega)).mono ?_
        rintro e u10 ⟨aO, cO, O, qO, rfl, hR, hB⟩
        have EO := Lib.hid qO.out
        have lO : O.length ≤ 900 := by rw [EO.out, join_len]; omega
        have RO_10 := Lib.hid hR
        clear hR qO
        have RA_10 := Lib.hid (RA_9.out.up hB)
        have RB_10 := Lib.hid (RB_9.out.up hB)
        have RX_10 := Lib.hid (RX_9.out.up hB)
        have RJ_10 := Lib.hid (RJ_9.out.up hB)
        have RK_10 := Lib.hid (RK_9.out.up hB)
        have RL_10 := Lib.hid (RL_9.out.up hB)
        have RM_10 := Lib.hid (RM_9.out.up hB)
        have RN_10 := Lib.hid (RN_9.out.up hB)
        have HB_10 := Lib.hid (below_next HB_9.out hB)
        clear hB RA_9 RB_9 RX_9 RJ_9 RK_9 RL_9 RM_9 RN_9 HB_9
        go_wp2_with fail
        refine (cSame_is true O A aO aA cO cA _ _ u10 (by rw [EO.out]; exact join_self _) RO_10.out RA_10.out (by omega) (by omega)).mono ?_
        rintro e w' ⟨rfl, rfl⟩
        go_wp2
        go_ret
        exact ⟨rfl, HB_10.out⟩
      · have HBX := Lib.hid hBX
        clear hBX
        go_wp2_with fail
        refine (cWithin_is true A X aA aX cA cX _ _ u5 HAX.out RA_5.out RX_5.out (by omega) (by omega)).mono ?_
        rintro e w' ⟨rfl, rfl⟩
        go_wp2_with fail
        refine (cWithin_is true B X aB aX cB cX _ _ u5 HBX.out RB_5.out RX_5.out (by omega) (by omega)).mono ?_
        rintro e w' ⟨rfl, rfl⟩
        go_wp2_with fail
        refine (cWithin_is true A J aA aJ cA cJ _ _ u5 (by rw [EJ.out]; exact join_left _ _) RA_5.out RJ_5.out (by omega) (by omega)).mono ?_
        rintro e w' ⟨rfl, rfl⟩
        go_wp2_with fail
        refine (cWithin_is true B J aB aJ cB cJ _ _ u5 (by rw [EJ.out]; exact join_right _ _) RB_5.out RJ_5.out (by omega) (by omega)).mono ?_
        rintro e w' ⟨rfl, rfl⟩
        go_wp2_with fail
        refine (cWithin_is true J X aJ aX cJ cX _ _ u5 (least_of EJ.out HAX.out HBX.out) RJ_5.out RX_5.out (by omega) (by omega)).mono ?_
        rintro e w' ⟨rfl, rfl⟩
        go_wp2_with fail
        refine (join_any B A aB aA cB cA u5 RB_5.out RA_5.out (by omega) (by omega)).mono ?_
        rintro e u6 ⟨aK, cK, K, qK, rfl, hR, hB⟩
        have EK := Lib.hid qK.out
        have lK : K.length ≤ 900 := by rw [EK.out, join_len]; omega
        have RK_6 := Lib.hid hR
        clear hR qK
        have RA_6 := Lib.hid (RA_5.out.up hB)
        have RB_6 := Lib.hid (RB_5.out.up hB)
        have RX_6 := Lib.hid (RX_5.out.up hB)
        have RJ_6 := Lib.hid (RJ_5.out.up hB)
        have HB_6 := Lib.hid (below_next HB_5.out hB)
        clear hB RA_5 RB_5 RX_5 RJ_5 HB_5
        go_wp2_with fail
        refine (cSame_is true J K aJ aK cJ cK _ _ u6 (by rw [EJ.out, EK.out]; exact join_comm _ _) RJ_6.out RK_6.out (by omega) (by omega)).mono ?_
        rintro e w' ⟨rfl, rfl⟩
        go_wp2_with fail
        refine (join_any J X aJ aX cJ cX u6 RJ_6.out RX_6.out (by omega) (by omega)).mono ?_
        rintro e u7 ⟨aL, cL, L, qL, rfl, hR, hB⟩
        have EL := Lib.hid qL.out
        have lL : L.length ≤ 900 := by rw [EL.out, join_len]; omega
        have RL_7 := Lib.hid hR
        clear hR qL
        have RA_7 := Lib.hid (RA_6.out.up hB)
        have RB_7 := Lib.hid (RB_6.out.up hB)
        have RX_7 := Lib.hid (RX_6.out.up hB)
        have RJ_7 := Lib.hid (RJ_6.out.up hB)
        have RK_7 := Lib.hid (RK_6.out.up hB)
        have HB_7 := Lib.hid (below_next HB_6.out hB)
        clear hB RA_6 RB_6 RX_6 RJ_6 RK_6 HB_6
        go_wp2_with fail
        refine (join_any B X aB aX cB cX u7 RB_7.out RX_7.out (by omega) (by omega)).mono ?_
        rintro e u8 ⟨aM, cM, M, qM, rfl, hR, hB⟩
        have EM := Lib.hid qM.out
        have lM : M.length ≤ 900 := by rw [EM.out, join_len]; omega
        have RM_8 := Lib.hid hR
        clear hR qM
        have RA_8 := Lib.hid (RA_7.out.up hB)
        have RB_8 := Lib.hid (RB_7.out.up hB)
        have RX_8 := Lib.hid (RX_7.out.up hB)
        have RJ_8 := Lib.hid (RJ_7.out.up hB)
        have RK_8 := Lib.hid (RK_7.out.up hB)
        have RL_8 := Lib.hid (RL_7.out.up hB)
        have HB_8 := Lib.hid (below_next HB_7.out hB)
        clear hB RA_7 RB_7 RX_7 RJ_7 RK_7 RL_7 HB_7
        go_wp2_with fail
        refine (join_any A M aA aM cA cM u8 RA_8.out RM_8.out (by omega) (by omega)).mono ?_
        rintro e u9 ⟨aN, cN, N, qN, rfl, hR, hB⟩
        have EN := Lib.hid qN.out
        have lN : N.length ≤ 900 := by rw [EN.out, join_len]; omega
        have RN_9 := Lib.hid hR
        clear hR qN
        have RA_9 := Lib.hid (RA_8.out.up hB)
        have RB_9 := Lib.hid (RB_8.out.up hB)
        have RX_9 := Lib.hid (RX_8.out.up hB)
        have RJ_9 := Lib.hid (RJ_8.out.up hB)
        have RK_9 := Lib.hid (RK_8.out.up hB)
        have RL_9 := Lib.hid (RL_8.out.up hB)
        have RM_9 := Lib.hid (RM_8.out.up hB)
        have HB_9 := Lib.hid (below_next HB_8.out hB)
        clear hB RA_8 RB_8 RX_8 RJ_8 RK_8 RL_8 RM_8 HB_8
        go_wp2_with fail
        refine (cSame_is true L N aL aN cL cN _ _ u9 (by rw [EL.out, EN.out, EM.out, EJ.out]; exact join_assoc _ _ _) RL_9.out RN_9.out (by omega) (by omega)).mono ?_
        rintro e w' ⟨rfl, rfl⟩
        go_wp2_with fail
        refine (join_any A A aA aA cA cA u9 RA_9.out RA_9.out (by omega) (by omega)).mono ?_
        rintro e u10 ⟨aO, cO, O, qO, rfl, hR, hB⟩
        have EO := Lib.hid qO.out
        have lO : O.length ≤ 900 := by rw [EO.out, join_len]; omega
        have RO_10 := Lib.hid hR
        clear hR qO
        have RA_10 := Lib.hid (RA_9.out.up hB)
        have RB_10 := Lib.hid (RB_9.out.up hB)
        have RX_10 := Lib.hid (RX_9.out.up hB)
        have RJ_10 := Lib.hid (RJ_9.out.up hB)
        have RK_10 := Lib.hid (RK_9.out.up hB)
        have RL_10 := Lib.hid (RL_9.out.up hB)
        have RM_10 := Lib.hid (RM_9.out.up hB)
        have RN_10 := Lib.hid (RN_9.out.up hB)
        have HB_10 := Lib.hid (below_next HB_9.out hB)
        clear hB RA_9 RB_9 RX_9 RJ_9 RK_9 RL_9 RM_9 RN_9 HB_9
        go_wp2_with fail
        refine (cSame_is true O A aO aA cO cA _ _ u10 (by rw [EO.out]; exact join_self _) RO_10.out RA_10.out (by omega) (by omega)).mono ?_
        rintro e w' ⟨rfl, rfl⟩
        go_wp2
        go_ret
        exact ⟨rfl, HB_10.out⟩

set_option maxRecDepth 100000 in
theorem clockLeast_lifted (os : Os) (started : os.Started) (H : Type) (enc : TypeId × Value → H) :
    ReturnsInHanded {} Try.checked os 6 .any (Rows.clockLeastSpec.pre6 enc Try.prog Try.f6 Rows.clockLeastRow.domain false) (Rows.clockLeastSpec.post enc Try.prog Try.f6 false true false false) := by
  refine returnsInHanded_of_change_sized (C := Try.checked) law_own started (by kernel_rfl) Try.func6
    (ChangeSpec.witness6 (enc := enc) (C := Try.checked) false ⟨#[], #[.slice none 0 0, .slice none 0 0, .slice none 0 0], []⟩ 8 (by kernel_rfl) (by kernel_rfl) (by kernel_rfl) (by kernel_rfl)) ?_
  intro W base args ds gs before hval0 hW hcnd hsz0 _
  have hsz : (DataW.weightsEach Try.prog (Try.f6.params.toList ++ Rows.clockLeastSpec.plain.varTypes Try.prog) (ds ++ gs)).all (· ≤ reachBytes) = true := hsz0
  have hval : ∀ (j : Nat) t v, Try.f6.params[j]? = some t → args[j]? = some v → Value.okWide Try.prog W .any base t v := hval0
  have hW' := hW
  obtain ⟨p, q, hA0, hV, rfl, hfz, hnd⟩ := hW
  have hA : DataW.TrodAll enc Try.prog W 0 (fun _ => true) true Try.f6.params.toList args.toList ds p := hA0
  rw [Try.params6] at hA hval hsz
  obtain ⟨v0, vs0, d0, ds0, p0, q0, hargs, rfl, rfl, h0, r0⟩ := trodAll_cons hA
  obtain ⟨v1, vs1, d1, ds1, p1, q1, rfl, rfl, rfl, h1, r1⟩ := trodAll_cons r0
  obtain ⟨v2, vs2, d2, ds2, p2, q2, rfl, rfl, rfl, h2, r2⟩ := trodAll_cons r1
  obtain ⟨rfl, rfl, rfl⟩ := trodAll_nil r2
  obtain rfl : args = #[v0, v1, v2] := by cases args; simp_all
  obtain ⟨rfl, rfl⟩ := trodVars_none hV
  obtain ⟨a0, len0, cap0, rfl⟩ := okWide_slice Try.underlying22 (hval 0 22 v0 rfl rfl)
  have k0 := h0
  have lt0 : ∀ x ∈ p0, x.block < W.heap.size := by obtain ⟨m, hm⟩ := k0; exact DataW.trod_lt m _ _ _ hm
  obtain ⟨l0, w0, s0⟩ : ∃ l, SliceIn .u8 W a0 len0 cap0 l ∧ len0 ≤ 140737488355328 := by
    obtain ⟨fuel, hf⟩ := h0
    rcases open_ints Try.underlying22 Try.underlying5 (by kernel_rfl) hf with ⟨hcs, _⟩ | ⟨x, l, c, zs, hcs, _, hl, hm, hz, hxd, hcell, hwz⟩
    · simp [Value.cells] at hcs
      obtain ⟨rfl, rfl, rfl⟩ := hcs
      exact ⟨[], SliceIn.nil _ _, Nat.zero_le _⟩
    · simp [Value.cells] at hcs
      obtain ⟨rfl, rfl, rfl⟩ := hcs
      have hr := sized_slice hsz (j := 0) (t := 22) (e := 5) rfl (congrArg some (congrArg Prod.fst hxd)) Try.underlying22
      rw [show Try.prog.bytesOf 5 = 1 by kernel_rfl] at hr
      simp only [lits, List.length_map, List.length_take, List.length_drop] at hr
      have hz1 : zs.length = cap0 := by simpa using hz
      have hr1 := reachBytes_lt
      exact ⟨_, SliceIn.of hl hm hz1 hcell hwz, by omega⟩
  obtain ⟨a1, len1, cap1, rfl⟩ := okWide_slice Try.underlying22 (hval 1 22 v1 rfl rfl)
  have k1 := h1
  have lt1 : ∀ x ∈ p1, x.block < W.heap.size := by obtain ⟨m, hm⟩ := k1; exact DataW.trod_lt m _ _ _ hm
  obtain ⟨l1, w1, s1⟩ : ∃ l, SliceIn .u8 W a1 len1 cap1 l ∧ len1 ≤ 140737488355328 := by
    obtain ⟨fuel, hf⟩ := h1
    rcases open_ints Try.underlying22 Try.underlying5 (by kernel_rfl) hf with ⟨hcs, _⟩ | ⟨x, l, c, zs, hcs, _, hl, hm, hz, hxd, hcell, hwz⟩
    · simp [Value.cells] at hcs
      obtain ⟨rfl, rfl, rfl⟩ := hcs
      exact ⟨[], SliceIn.nil _ _, Nat.zero_le _⟩
    · simp [Value.cells] at hcs
      obtain ⟨rfl, rfl, rfl⟩ := hcs
      have hr := sized_slice hsz (j := 1) (t := 22) (e := 5) rfl (congrArg some (congrArg Prod.fst hxd)) Try.underlying22
      rw [show Try.prog.bytesOf 5 = 1 by kernel_rfl] at hr
      simp only [lits, List.length_map, List.length_take, List.length_drop] at hr
      have hz1 : zs.length = cap1 := by simpa using hz
      have hr1 := reachBytes_lt
      exact ⟨_, SliceIn.of hl hm hz1 hcell hwz, by omega⟩
  obtain ⟨a2, len2, cap2, rfl⟩ := okWide_slice Try.underlying22 (hval 2 22 v2 rfl rfl)
  have k2 := h2
  have lt2 : ∀ x ∈ p2, x.block < W.heap.size := by obtain ⟨m, hm⟩ := k2; exact DataW.trod_lt m _ _ _ hm
  obtain ⟨l2, w2, s2⟩ : ∃ l, SliceIn .u8 W a2 len2 cap2 l ∧ len2 ≤ 140737488355328 := by
    obtain ⟨fuel, hf⟩ := h2
    rcases open_ints Try.underlying22 Try.underlying5 (by kernel_rfl) hf with ⟨hcs, _⟩ | ⟨x, l, c, zs, hcs, _, hl, hm, hz, hxd, hcell, hwz⟩
    · simp [Value.cells] at hcs
      obtain ⟨rfl, rfl, rfl⟩ := hcs
      exact ⟨[], SliceIn.nil _ _, Nat.zero_le _⟩
    · simp [Value.cells] at hcs
      obtain ⟨rfl, rfl, rfl⟩ := hcs
      have hr := sized_slice hsz (j := 2) (t := 22) (e := 5) rfl (congrArg some (congrArg Prod.fst hxd)) Try.underlying22
      rw [show Try.prog.bytesOf 5 = 1 by kernel_rfl] at hr
      simp only [lits, List.length_map, List.length_take, List.length_drop] at hr
      have hz1 : zs.length = cap2 := by simpa using hz
      have hr1 := reachBytes_lt
      exact ⟨_, SliceIn.of hl hm hz1 hcell hwz, by omega⟩
  clear hA0 hval0
  refine (clockLeast_walk a0 len0 cap0 l0 a1 len1 cap1 l1 a2 len2 cap2 l2 W w0 s0 w1 s1 w2 s2).mono fun e W' ⟨he, bel⟩ => ?_
  subst he
  exact ⟨_, rfl, _, _, _, [], _, [], hW', trodAll_mk1 (shut_bool Try.underlying4 _), (trodAll_cons_mk (Below.trod law_laidOut (by kernel_rfl) (of_decide_eq_true (by kernel_rfl)) k0 bel lt0) (trodAll_cons_mk (Below.trod law_laidOut (by kernel_rfl) (of_decide_eq_true (by kernel_rfl)) k1 bel lt1) (trodAll_cons_mk (Below.trod law_laidOut (by kernel_rfl) (of_decide_eq_true (by kernel_rfl)) k2 bel lt2) trodAll_mk0))), rfl, bel.frame _, fun h => by cases h⟩

/-- The statement. -/
theorem clockLeast_holds : Rows.ClockLeastSaid :=
  OpenClaim.holds_of_wide 6 Try.f6 rfl rfl rfl rfl rfl rfl rfl ⟨rfl, rfl, rfl, rfl, rfl⟩ rfl rfl rfl rfl rfl (by kernel_rfl) Try.func6 (by kernel_rfl)
    (of_decide_eq_true (by kernel_rfl)) (by unfold Func.isWrapper; first | (rw [if_pos (by decide +kernel)]; kernel_rfl) | (rw [if_neg (by decide +kernel)]; exact ⟨rfl, rfl⟩))
    (fun os started H enc _ => clockLeast_lifted os started H enc)
end Go.Proofs.Ytaiaipejmggbeaa
