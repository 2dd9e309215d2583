/- OrderThrough: what is ahead of what is ahead of a third is ahead of that; nothing is ahead of itself, or of what is ahead of it; for every input. -/
import Derived.Test.YtkdamkchpfcanaaOrderTrace
import Derived.Test.YtkdamkchpfcanaaOpenRaws
namespace Go.Proofs.Ytkdamkchpfcanaa
set_option linter.unusedVariables false
set_option linter.unusedSimpArgs false
open Go.ChangeShapes Go.WideShapes Go.ChangeAt Go.RowKit

def c12 : List Int := [1, 2]
/-- Of any events: a test of three places. -/
theorem through {t : List EvD} {i j k : Int} (h1 : befI c12 t i j = true) (h2 : befI c12 t j k = true) : befI c12 t i k = true := by
  unfold befI at h1 h2 ⊢
  rw [Bool.and_eq_true] at h1 h2 ⊢
  have a1 := riseB_iff.1 h1.1
  have a2 := riseB_iff.1 h2.1
  refine ⟨riseB_iff.2 ⟨by omega, by omega, by omega⟩, ?_⟩
  rw [befB_iff (dirB_up _ _)] at *
  exact h1.2.trans h2.2
theorem not_self {t : List EvD} {i : Int} : befI c12 t i i = false := by
  unfold befI
  have : riseB i i t.length = false := by
    rcases h : riseB i i t.length with _ | _
    · rfl
    · have := riseB_iff.1 h; omega
  rw [this]; rfl
theorem not_both {t : List EvD} {i j : Int} : (befI c12 t i j && befI c12 t j i) = false := by
  rcases h : befI c12 t i j && befI c12 t j i with _ | _
  · rfl
  · rw [Bool.and_eq_true] at h
    unfold befI at h
    rw [Bool.and_eq_true, Bool.and_eq_true] at h
    have := riseB_iff.1 h.1.1
    have := riseB_iff.1 h.2.1
    omega
theorem dir_bef {t : List EvD} {i j : Int} (h : dirI c12 t i j = true) : befI c12 t i j = true := by
  unfold dirI at h
  unfold befI
  rw [Bool.and_eq_true] at h ⊢
  exact ⟨h.1, (befB_iff (dirB_up _ _)).2 (.one h.2)⟩
theorem progC_one : (#[.int .i64 0, .int .i64 0, .int .i64 0, .slice (some ⟨0, 0, none⟩) c12.length 2, .int .i64 0, .int .i64 0, .slice none 0 0] : Array Value).all (·.oneCell') = true := by kernel_rfl
set_option maxRecDepth 100000 in
set_option maxHeartbeats 4000000 in
theorem orderThrough_walk (ra : Option Addr) (rc : Nat) (l : List (Nat × Nat)) (x y z : Int) (w : World) (h : RawIn w ra l) (hl : l.length ≤ 9223372036854775807) (hx : (Lit.int .u8 x).wf = true) (hy : (Lit.int .u8 y).wf = true) (hz : (Lit.int .u8 z).wf = true) :
    Calls Try.prog 5 #[.slice ra l.length rc, .int .u8 x, .int .u8 y, .int .u8 z] w fun e w' => e = .returned (.bool true) ∧ Below w.heap.size w w' := by
  obtain ⟨x0, x1⟩ := bounds_u8 hx
  obtain ⟨y0, y1⟩ := bounds_u8 hy
  obtain ⟨z0, z1⟩ := bounds_u8 hz
  clear hx hy hz
  have HT := Lib.hid (fun V (hB : Below w.heap.size w V) => trace_any ra rc l V ⟨fun k p hk => by
    obtain ⟨g, o, e, hg, c0, c1⟩ := h.cell k p hk
    exact ⟨g, o, e, Nat.lt_of_lt_of_le hg hB.size, (hB.cell (p := ⟨g, o + k * 2, none⟩) hg).trans c0, (hB.cell (p := ⟨g, o + k * 2 + 1, none⟩) hg).trans c1⟩, h.wf⟩ hl)
  have HKW := Lib.hid (fun V => known7_any V)
  clear h
  go_enter Try.func5, Try.ntmps5
  go_upto_region 2 with (fail)
  generalize hV0 : World.alloc (World.alloc w _) _ = V0
  have n1 := (congrArg (fun x : World => x.heap[w.heap.size]?) hV0).symm.trans ((Below.heap_alloc _ _ _ (by simp)).trans (heap_alloc_new _ _))
  have n2 := (congrArg (fun x : World => x.heap[w.heap.size + 1]?) hV0).symm.trans (heap_alloc2_new _ _ _)
  have HV0 := Lib.hid (show Below w.heap.size w V0 by rw [← hV0]; exact below_two _ _ _)
  have HN1 := Lib.hid n1
  have HN2 := Lib.hid n2
  have HT0 := Lib.hid (HT.out V0 HV0.out)
  clear hV0 n1 n2 HT
  go_upto_region 3 with (go_at_call 10; refine HT0.out.mono ?_; rintro e V1 ⟨v, rfl, xa, xc, rfl, hxc, hxo, hxB⟩)
  have HXB := Lib.hid hxB
  have HCH : Hid (ChIn V1 (some ⟨w.heap.size, 0, none⟩) c12) := Lib.hid (by
    refine ChIn.later ⟨fun i x hx => ?_, by simp [c12], by intro c hc; simp [c12] at hc; rcases hc with rfl | rfl <;> omega⟩ hxB
    match i, hx with
    | 0, hx => cases hx; exact ⟨_, 0, rfl, (Array.getElem?_eq_some_iff.1 HN1.out).1, cell_of_row _ _ 0 _ _ _ HN1.out⟩
    | 1, hx => cases hx; exact ⟨_, 0, rfl, (Array.getElem?_eq_some_iff.1 HN1.out).1, cell_of_row _ _ 1 _ _ _ HN1.out⟩
    | i + 2, hx => simp [c12] at hx)
  have HEV := Lib.hid (evsIn_own hxo)
  have htl : (trL l).length ≤ 1000 := by rw [trL_len]; omega
  have HBF := Lib.hid (fun V (hB : Below V1.heap.size V1 V) (i j : Int) => before_any (.int .i64 0) (.int .i64 0) (.int .i64 0) (some ⟨w.heap.size, 0, none⟩) 2 c12 (.int .i64 0) (.int .i64 0) (.slice none 0 0) xa xc (trL l) i j V (HCH.out.later hB) (HEV.out.later hB) (trL_wf l) htl hxc (by simp [Value.oneCell']))
  have HDR := Lib.hid (fun V (hB : Below V1.heap.size V1 V) (i j : Int) => direct_any (.int .i64 0) (.int .i64 0) (.int .i64 0) (some ⟨w.heap.size, 0, none⟩) 2 c12 (.int .i64 0) (.int .i64 0) (.slice none 0 0) xa xc (trL l) i j V (HCH.out.later hB) (HEV.out.later hB) (by omega) hxc (by simp [Value.oneCell']))
  have HPB := Lib.hid (old_later HN2.out hxB)
  have HL := Lib.hid (Below.refl V1.heap.size V1)
  have HW1 := Lib.hid (below_next HV0.out hxB)
  obtain ⟨k0, k1, k2, k3, k4, k5, k6⟩ := box7 HPB.out
  clear hxo hxB hxc HN1 HN2 HT0 HXB HCH HEV
  have hii := not_self (t := trL l) (i := x % 25)
  have hnb := not_both (t := trL l) (i := x % 25) (j := y % 25)
  rcases hij : befI c12 (trL l) (x % 25) (y % 25) with _ | _
  · have hdd : dirI c12 (trL l) (x % 25) (y % 25) = false := by
      rcases h : dirI c12 (trL l) (x % 25) (y % 25) with _ | _
      · rfl
      · rw [dir_bef h] at hij; cases hij
    clear hnb
    go_wp2_with (first
      | (go_at_call 8; refine (HKW.out _).mono ?_; rintro e w5 ⟨rfl, hB⟩; have HL := Lib.hid (below_next HL.out hB); obtain ⟨k0, k1, k2, k3, k4, k5, k6⟩ := box7 (old_later HPB.out HL.out); clear hB)
      | (go_at_call 11; refine (HDR.out _ HL.out _ _).mono ?_; rintro e w5 ⟨rfl, hB⟩; have HL := Lib.hid (below_next HL.out hB); obtain ⟨k0, k1, k2, k3, k4, k5, k6⟩ := box7 (old_later HPB.out HL.out); clear hB)
      | (go_at_call 9; refine (HBF.out _ HL.out _ _).mono ?_; rintro e w5 ⟨rfl, hB⟩; have HL := Lib.hid (below_next HL.out hB); obtain ⟨k0, k1, k2, k3, k4, k5, k6⟩ := box7 (old_later HPB.out HL.out); clear hB))
    go_ret
    exact ⟨rfl, below_next HW1.out HL.out⟩
  · rw [hij, Bool.true_and] at hnb
    rcases hjk : befI c12 (trL l) (y % 25) (z % 25) with _ | _
    · rcases hdd : dirI c12 (trL l) (x % 25) (y % 25) with _ | _
      · go_wp2_with (first
          | (go_at_call 8; refine (HKW.out _).mono ?_; rintro e w5 ⟨rfl, hB⟩; have HL := Lib.hid (below_next HL.out hB); obtain ⟨k0, k1, k2, k3, k4, k5, k6⟩ := box7 (old_later HPB.out HL.out); clear hB)
          | (go_at_call 11; refine (HDR.out _ HL.out _ _).mono ?_; rintro e w5 ⟨rfl, hB⟩; have HL := Lib.hid (below_next HL.out hB); obtain ⟨k0, k1, k2, k3, k4, k5, k6⟩ := box7 (old_later HPB.out HL.out); clear hB)
          | (go_at_call 9; refine (HBF.out _ HL.out _ _).mono ?_; rintro e w5 ⟨rfl, hB⟩; have HL := Lib.hid (below_next HL.out hB); obtain ⟨k0, k1, k2, k3, k4, k5, k6⟩ := box7 (old_later HPB.out HL.out); clear hB))
        go_ret
        exact ⟨rfl, below_next HW1.out HL.out⟩
      · go_wp2_with (first
          | (go_at_call 8; refine (HKW.out _).mono ?_; rintro e w5 ⟨rfl, hB⟩; have HL := Lib.hid (below_next HL.out hB); obtain ⟨k0, k1, k2, k3, k4, k5, k6⟩ := box7 (old_later HPB.out HL.out); clear hB)
          | (go_at_call 11; refine (HDR.out _ HL.out _ _).mono ?_; rintro e w5 ⟨rfl, hB⟩; have HL := Lib.hid (below_next HL.out hB); obtain ⟨k0, k1, k2, k3, k4, k5, k6⟩ := box7 (old_later HPB.out HL.out); clear hB)
          | (go_at_call 9; refine (HBF.out _ HL.out _ _).mono ?_; rintro e w5 ⟨rfl, hB⟩; have HL := Lib.hid (below_next HL.out hB); obtain ⟨k0, k1, k2, k3, k4, k5, k6⟩ := box7 (old_later HPB.out HL.out); clear hB))
        go_ret
        exact ⟨rfl, below_next HW1.out HL.out⟩
    · have hik := through hij hjk
      rcases hdd : dirI c12 (trL l) (x % 25) (y % 25) with _ | _
      · go_wp2_with (first
          | (go_at_call 8; refine (HKW.out _).mono ?_; rintro e w5 ⟨rfl, hB⟩; have HL := Lib.hid (below_next HL.out hB); obtain ⟨k0, k1, k2, k3, k4, k5, k6⟩ := box7 (old_later HPB.out HL.out); clear hB)
          | (go_at_call 11; refine (HDR.out _ HL.out _ _).mono ?_; rintro e w5 ⟨rfl, hB⟩; have HL := Lib.hid (below_next HL.out hB); obtain ⟨k0, k1, k2, k3, k4, k5, k6⟩ := box7 (old_later HPB.out HL.out); clear hB)
          | (go_at_call 9; refine (HBF.out _ HL.out _ _).mono ?_; rintro e w5 ⟨rfl, hB⟩; have HL := Lib.hid (below_next HL.out hB); obtain ⟨k0, k1, k2, k3, k4, k5, k6⟩ := box7 (old_later HPB.out HL.out); clear hB))
        go_ret
        exact ⟨rfl, below_next HW1.out HL.out⟩
      · go_wp2_with (first
          | (go_at_call 8; refine (HKW.out _).mono ?_; rintro e w5 ⟨rfl, hB⟩; have HL := Lib.hid (below_next HL.out hB); obtain ⟨k0, k1, k2, k3, k4, k5, k6⟩ := box7 (old_later HPB.out HL.out); clear hB)
          | (go_at_call 11; refine (HDR.out _ HL.out _ _).mono ?_; rintro e w5 ⟨rfl, hB⟩; have HL := Lib.hid (below_next HL.out hB); obtain ⟨k0, k1, k2, k3, k4, k5, k6⟩ := box7 (old_later HPB.out HL.out); clear hB)
          | (go_at_call 9; refine (HBF.out _ HL.out _ _).mono ?_; rintro e w5 ⟨rfl, hB⟩; have HL := Lib.hid (below_next HL.out hB); obtain ⟨k0, k1, k2, k3, k4, k5, k6⟩ := box7 (old_later HPB.out HL.out); clear hB))
        go_ret
        exact ⟨rfl, below_next HW1.out HL.out⟩
set_option maxRecDepth 100000 in
theorem orderThrough_lifted (os : Os) (started : os.Started) (H : Type) (enc : TypeId × Value → H) :
    ReturnsInHanded {} Try.checked os 5 .any (Rows.orderThroughSpec.pre6 enc Try.prog Try.f5 Rows.orderThroughRow.domain false) (Rows.orderThroughSpec.post enc Try.prog Try.f5 false true false false) := by
  refine returnsInHanded_of_change (C := Try.checked) law_own started (by kernel_rfl) Try.func5
    (ChangeSpec.witness6 (enc := enc) (C := Try.checked) false ⟨#[], #[.slice none 0 0, .int .u8 0, .int .u8 0, .int .u8 0], []⟩ 8 (by kernel_rfl) (by kernel_rfl) (by kernel_rfl) (by kernel_rfl)) ?_
  intro W base args ds gs before hval0 hW hcnd _
  have hval : ∀ (j : Nat) t v, Try.f5.params[j]? = some t → args[j]? = some v → Value.okWide Try.prog W .any base t v := hval0
  have hW' := hW
  obtain ⟨p, q, hA0, hV, rfl, hfz, hnd⟩ := hW
  have hA : DataW.TrodAll enc Try.prog W 0 (fun _ => true) true Try.f5.params.toList args.toList ds p := hA0
  rw [Try.params5] at hA hval
  obtain ⟨v0, vs0, d0, ds0, p0, q0, hargs, rfl, rfl, h0, r0⟩ := trodAll_cons hA
  obtain ⟨v1, vs1, d1, ds1, p1, q1, rfl, rfl, rfl, h1, r1⟩ := trodAll_cons r0
  obtain ⟨v2, vs2, d2, ds2, p2, q2, rfl, rfl, rfl, h2, r2⟩ := trodAll_cons r1
  obtain ⟨v3, vs3, d3, ds3, p3, q3, rfl, rfl, rfl, h3, r3⟩ := trodAll_cons r2
  obtain ⟨rfl, rfl, rfl⟩ := trodAll_nil r3
  obtain rfl : args = #[v0, v1, v2, v3] := by cases args; simp_all
  obtain ⟨rfl, rfl⟩ := trodVars_none hV
  have k0 := h0
  have lt0 : ∀ x ∈ p0, x.block < W.heap.size := by obtain ⟨m, hm⟩ := k0; exact DataW.trod_lt m _ _ _ hm
  obtain ⟨a0, cap0, l0, rfl, n0, w0⟩ := open_raws (hval 0 32 v0 rfl rfl) h0
  obtain ⟨a1, rfl, rfl, rfl, w1⟩ := open_int Try.underlying5 (hval 1 5 v1 rfl rfl) h1
  obtain ⟨a2, rfl, rfl, rfl, w2⟩ := open_int Try.underlying5 (hval 2 5 v2 rfl rfl) h2
  obtain ⟨a3, rfl, rfl, rfl, w3⟩ := open_int Try.underlying5 (hval 3 5 v3 rfl rfl) h3
  clear hA0 hval0
  refine (orderThrough_walk a0 cap0 l0 a1 a2 a3 W w0 n0 w1 w2 w3).mono fun e W' ⟨he, bel⟩ => ?_
  subst he
  exact ⟨_, rfl, _, _, _, [], _, [], hW', trodAll_mk1 (shut_bool Try.underlying4 _), (trodAll_cons_mk (Below.trod law_laidOut (by kernel_rfl) (of_decide_eq_true (by kernel_rfl)) k0 bel lt0) (trodAll_cons_mk (shut_int Try.underlying5 w1) (trodAll_cons_mk (shut_int Try.underlying5 w2) (trodAll_cons_mk (shut_int Try.underlying5 w3) trodAll_mk0)))), rfl, bel.frame _, fun h => by cases h⟩

/-- The statement. -/
theorem orderThrough_holds : Rows.OrderThroughSaid :=
  OpenClaim.holds_of_wide 5 Try.f5 rfl rfl rfl rfl rfl rfl rfl ⟨rfl, rfl, rfl, rfl, rfl⟩ rfl rfl rfl rfl rfl (by kernel_rfl) Try.func5 (by kernel_rfl)
    (of_decide_eq_true (by kernel_rfl)) (by unfold Func.isWrapper; first | (rw [if_pos (by decide +kernel)]; kernel_rfl) | (rw [if_neg (by decide +kernel)]; exact ⟨rfl, rfl⟩))
    (fun os started H enc _ => orderThrough_lifted os started H enc)
end Go.Proofs.Ytkdamkchpfcanaa
