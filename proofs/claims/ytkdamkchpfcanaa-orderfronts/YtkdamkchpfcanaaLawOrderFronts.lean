/- OrderFronts: events behind two change nothing between them; for every input. -/
import Derived.Test.YtkdamkchpfcanaaOrderTrace
import Derived.Test.YtkdamkchpfcanaaOpenRaws
import Derived.Test.YtkdamkchpfcanaaOrderSame
namespace Go.Proofs.Ytkdamkchpfcanaa
set_option linter.unusedVariables false
set_option linter.unusedSimpArgs false
open Go.ChangeShapes Go.WideShapes Go.ChangeAt Go.RowKit

def c12 : List Int := [1, 2]
theorem befI_take {ch : List Int} {t : List EvD} {i j : Nat} (hi : i < t.length) (hj : j < t.length) : befI ch (t.take (j + 1)) (i : Int) (j : Int) = befI ch t (i : Int) (j : Int) := by
  have hl : (t.take (j + 1)).length = j + 1 := by rw [List.length_take]; omega
  unfold befI
  simp only [Int.toNat_natCast]
  rw [bef_take, hl]
  congr 1
  rw [Bool.eq_iff_iff, riseB_iff, riseB_iff]
  omega
theorem pastI_take {ch : List Int} {t : List EvD} {j : Nat} (hj : j < t.length) : pastI ch (t.take (j + 1)) (j : Int) = pastI ch t (j : Int) := by
  have hl : (t.take (j + 1)).length = j + 1 := by rw [List.length_take]; omega
  unfold pastI
  rw [hl, if_pos (by omega), if_pos (by omega)]
  simp only [Int.toNat_natCast]
  exact past_take
theorem pastI_len {ch : List Int} {t : List EvD} {j : Nat} (hj : j < t.length) : (pastI ch t (j : Int)).length ≤ t.length := by
  unfold pastI
  rw [if_pos (by omega)]
  simp only [Int.toNat_natCast]
  rw [← past_of (dirB_up ch t) (fun i => befB (dirB ch t) i j) (fun i hi => befB_iff (dirB_up _ _))]
  refine Nat.le_trans (List.length_filter_le _ _) ?_
  rw [List.length_range]; omega
/-- Which of the events, by a byte. -/
theorem fr_nums {A n : Nat} (hA : A ≤ 255) (hn : 0 < n) : (A : Int) % (n : Int) = ((A % n : Nat) : Int) ∧ (A : Int).tmod (n : Int) = ((A % n : Nat) : Int) ∧ A % n < n ∧ (n : Int) ≠ 0 :=
  ⟨by simp, by simp [Int.tmod_eq_emod_of_nonneg], Nat.mod_lt _ hn, by omega⟩
set_option maxRecDepth 100000 in
set_option maxHeartbeats 4000000 in
theorem orderFronts_walk (ra : Option Addr) (rc : Nat) (l : List (Nat × Nat)) (x y : Int) (w : World) (h : RawIn w ra l) (hl : l.length ≤ 9223372036854775807) (hx : (Lit.int .u8 x).wf = true) (hy : (Lit.int .u8 y).wf = true) :
    Calls Try.prog 6 #[.slice ra l.length rc, .int .u8 x, .int .u8 y] w fun e w' => e = .returned (.bool true) ∧ Below w.heap.size w w' := by
  obtain ⟨x0, x1⟩ := bounds_u8 hx
  obtain ⟨y0, y1⟩ := bounds_u8 hy
  clear hx hy
  obtain ⟨x, rfl⟩ : ∃ q : Nat, x = q := ⟨x.toNat, by omega⟩
  obtain ⟨y, rfl⟩ : ∃ q : Nat, y = q := ⟨y.toNat, by omega⟩
  have HT := Lib.hid (fun V (hB : Below w.heap.size w V) => trace_any ra rc l V ⟨fun k p hk => by
    obtain ⟨g, o, e, hg, c0, c1⟩ := h.cell k p hk
    exact ⟨g, o, e, Nat.lt_of_lt_of_le hg hB.size, (hB.cell (p := ⟨g, o + k * 2, none⟩) hg).trans c0, (hB.cell (p := ⟨g, o + k * 2 + 1, none⟩) hg).trans c1⟩, h.wf⟩ hl)
  have HKW := Lib.hid (fun V => known7_any V)
  clear h
  go_enter Try.func6, Try.ntmps6
  go_upto_region 2 with (fail)
  generalize hV0 : World.alloc (World.alloc w _) _ = V0
  have n1 := (congrArg (fun x : World => x.heap[w.heap.size]?) hV0).symm.trans ((Below.heap_alloc _ _ _ (by simp)).trans (heap_alloc_new _ _))
  have n2 := (congrArg (fun x : World => x.heap[w.heap.size + 1]?) hV0).symm.trans (heap_alloc2_new _ _ _)
  have HV0 := Lib.hid (show Below w.heap.size w V0 by rw [← hV0]; exact below_two _ _ _)
  have HN1 := Lib.hid n1
  have HN2 := Lib.hid n2
  have HT0 := Lib.hid (HT.out V0 HV0.out)
  clear hV0 n1 n2 HT
  go_upto_region 3 with (go_at_call 10; refine HT0.out.mono ?_; rintro e V1 ⟨v, rfl, xa, xc, rfl, hxc, hxo, hxB⟩)
  have HXB := Lib.hid hxB
  have HCH : Hid (ChIn V1 (some ⟨w.heap.size, 0, none⟩) c12) := Lib.hid (by
    refine ChIn.later ⟨fun i x hx => ?_, by simp [c12], by intro c hc; simp [c12] at hc; rcases hc with rfl | rfl <;> omega⟩ hxB
    match i, hx with
    | 0, hx => cases hx; exact ⟨_, 0, rfl, (Array.getElem?_eq_some_iff.1 HN1.out).1, cell_of_row _ _ 0 _ _ _ HN1.out⟩
    | 1, hx => cases hx; exact ⟨_, 0, rfl, (Array.getElem?_eq_some_iff.1 HN1.out).1, cell_of_row _ _ 1 _ _ _ HN1.out⟩
    | i + 2, hx => simp [c12] at hx)
  have HEV := Lib.hid (evsIn_own hxo)
  have htl : (trL l).length ≤ 1000 := by rw [trL_len]; omega
  have HWF := Lib.hid (trL_wf l)
  generalize htn : (trL l).length = n at *
  generalize htr : trL l = tr at *
  have HTN := Lib.hid htn
  have HPB := Lib.hid (old_later HN2.out hxB)
  have HL := Lib.hid (Below.refl V1.heap.size V1)
  have HW1 := Lib.hid (below_next HV0.out hxB)
  clear hxo hxB HN1 HN2 HT0 HXB htn htr
  by_cases hn : n = 0
  · subst hn
    go_wp2_with (go_at_call 8; refine (HKW.out _).mono ?_; rintro e w5 ⟨rfl, hB⟩)
    go_ret
    exact ⟨rfl, below_next HW1.out hB⟩
  · obtain ⟨m0, m1, m2, m3⟩ := fr_nums (A := x) (by omega) (Nat.pos_of_ne_zero hn)
    obtain ⟨i0, i1, i2, _⟩ := fr_nums (A := y) (by omega) (Nat.pos_of_ne_zero hn)
    have hn0 : ((n : Int) == 0) = false := by simpa using hn
    generalize x % n = M at *
    generalize y % n = I at *
    have hlt : (tr.take (M + 1)).length = M + 1 := by rw [List.length_take, HTN.out]; omega
    have HPL : Hid ((pastI c12 tr (M : Int)).length ≤ 1000) := Lib.hid (Nat.le_trans (pastI_len (by rw [HTN.out]; exact m2)) (by rw [HTN.out]; omega))
    have HBF := Lib.hid (fun V (hB : Below V1.heap.size V1 V) => before_any (.int .i64 0) (.int .i64 0) (.int .i64 0) (some ⟨w.heap.size, 0, none⟩) 2 c12 (.int .i64 0) (.int .i64 0) (.slice none 0 0) xa xc tr (I : Int) (M : Int) V (HCH.out.later hB) (HEV.out.later hB) HWF.out (by rw [HTN.out]; exact htl) (by rw [HTN.out]; exact hxc) (by simp [Value.oneCell']))
    have HBT := Lib.hid (fun V (hB : Below V1.heap.size V1 V) => before_any (.int .i64 0) (.int .i64 0) (.int .i64 0) (some ⟨w.heap.size, 0, none⟩) 2 c12 (.int .i64 0) (.int .i64 0) (.slice none 0 0) xa xc (tr.take (M + 1)) (I : Int) (M : Int) V (HCH.out.later hB) ((HEV.out.later hB).take _) (fun e he => HWF.out e (List.mem_of_mem_take he)) (by omega) (by omega) (by simp [Value.oneCell']))
    have HPF := Lib.hid (fun V (hB : Below V1.heap.size V1 V) => past_any (.int .i64 0) (.int .i64 0) (.int .i64 0) (some ⟨w.heap.size, 0, none⟩) 2 c12 (.int .i64 0) (.int .i64 0) (.slice none 0 0) xa xc tr (M : Int) V (HCH.out.later hB) (HEV.out.later hB) HWF.out (by rw [HTN.out]; exact htl) (by rw [HTN.out]; exact hxc) (by simp [Value.oneCell']))
    have HPT := Lib.hid (fun V (hB : Below V1.heap.size V1 V) => past_any (.int .i64 0) (.int .i64 0) (.int .i64 0) (some ⟨w.heap.size, 0, none⟩) 2 c12 (.int .i64 0) (.int .i64 0) (.slice none 0 0) xa xc (tr.take (M + 1)) (M : Int) V (HCH.out.later hB) ((HEV.out.later hB).take _) (fun e he => HWF.out e (List.mem_of_mem_take he)) (by omega) (by omega) (by simp [Value.oneCell']))
    rw [hlt, befI_take (by rw [HTN.out]; exact i2) (by rw [HTN.out]; exact m2)] at HBT
    rw [hlt] at HPT
    unfold PastE at HPF HPT
    rw [pastI_take (by rw [HTN.out]; exact m2)] at HPT
    rw [HTN.out] at HBF HPF
    generalize pastI c12 tr (M : Int) = P at *
    generalize befI c12 tr (I : Int) (M : Int) = B at *
    have KX := box7 (u := V1.drew) HPB.out
    have hjc : ((M : Int) + 1) ≤ (xc : Int) := by omega
    have hjN : M + 1 ≤ xc := by omega
    have hwr : IntKind.i64.wrap ((M : Int) + 1) = (M : Int) + 1 := IntWalk.i64_in _ ⟨by omega, by omega⟩
    have hjT : ((M : Int) + 1).toNat = M + 1 := by omega
    have hj0' : (0 : Int) ≤ (M : Int) + 1 := by omega
    rw [← ofN_len P] at HPL HPF HPT
    generalize ofN P = Q at *
    have hBB : (B == B) = true := by simp
    clear HCH HEV HWF
    go_upto_region 7 with (fail)
    try simp only [m0, i0, m1, i1]
    go_region_held3 (fun u => u.cell? ⟨w.heap.size + 1, 0, none⟩ = some (.int .i64 0) ∧ u.cell? ⟨w.heap.size + 1, 1, none⟩ = some (.int .i64 0) ∧ u.cell? ⟨w.heap.size + 1, 2, none⟩ = some (.int .i64 0) ∧ u.cell? ⟨w.heap.size + 1, 3, none⟩ = some (.slice (some ⟨w.heap.size, 0, none⟩) 2 2) ∧ u.cell? ⟨w.heap.size + 1, 4, none⟩ = some (.int .i64 0) ∧ u.cell? ⟨w.heap.size + 1, 5, none⟩ = some (.int .i64 0) ∧ u.cell? ⟨w.heap.size + 1, 6, none⟩ = some (.slice none 0 0)) (first | with_reducible exact KX | fail)
      (first
        | (have _g := HR2; go_at_call 14; refine (same7_yes _ _ _ _ _ _ _ _ (HR1.out) (HR2.out) HPL.out).mono ?_; rintro e w5 ⟨rfl, nd, rfl⟩; have HL := Lib.hid (below_drewN HL.out nd); have KX := box7 (old_later HPB.out HL.out))
        | (have _g := HR1; go_at_call 15; refine (HPT.out _ HL.out).mono ?_; rintro e w5 ⟨pa, pc, rfl, ho, hB⟩; have HR2 := Lib.hid (rowOf_own ho); have HR1 := Lib.hid (HR1.out.up hB); have HL := Lib.hid (below_next HL.out hB); have KX := box7 (old_later HPB.out HL.out); clear hB ho)
        | (go_at_call 15; refine (HPF.out _ HL.out).mono ?_; rintro e w5 ⟨qa, qc, rfl, ho, hB⟩; have HR1 := Lib.hid (rowOf_own ho); have HL := Lib.hid (below_next HL.out hB); have KX := box7 (old_later HPB.out HL.out); clear hB ho)
        | (have _g := HB1; go_at_call 9; refine (HBT.out _ HL.out).mono ?_; rintro e w5 ⟨rfl, hB⟩; have HL := Lib.hid (below_next HL.out hB); have KX := box7 (old_later HPB.out HL.out); clear hB)
        | (go_at_call 9; refine (HBF.out _ HL.out).mono ?_; rintro e w5 ⟨rfl, hB⟩; have HB1 := Lib.hid hB; have HL := Lib.hid (below_next HL.out hB); have KX := box7 (old_later HPB.out HL.out); clear hB)
        | (go_at_call 8; refine (HKW.out _).mono ?_; rintro e w5 ⟨rfl, hB⟩; have HL := Lib.hid (below_next HL.out.drew hB); have KX := box7 (old_later HPB.out HL.out); clear hB))
    go_wp2
    go_ret
    exact ⟨rfl, below_next HW1.out HL.out⟩
set_option maxRecDepth 100000 in
theorem orderFronts_lifted (os : Os) (started : os.Started) (H : Type) (enc : TypeId × Value → H) :
    ReturnsInHanded {} Try.checked os 6 .any (Rows.orderFrontsSpec.pre6 enc Try.prog Try.f6 Rows.orderFrontsRow.domain false) (Rows.orderFrontsSpec.post enc Try.prog Try.f6 false true false false) := by
  refine returnsInHanded_of_change (C := Try.checked) law_own started (by kernel_rfl) Try.func6
    (ChangeSpec.witness6 (enc := enc) (C := Try.checked) false ⟨#[], #[.slice none 0 0, .int .u8 0, .int .u8 0], []⟩ 8 (by kernel_rfl) (by kernel_rfl) (by kernel_rfl) (by kernel_rfl)) ?_
  intro W base args ds gs before hval0 hW hcnd _
  have hval : ∀ (j : Nat) t v, Try.f6.params[j]? = some t → args[j]? = some v → Value.okWide Try.prog W .any base t v := hval0
  have hW' := hW
  obtain ⟨p, q, hA0, hV, rfl, hfz, hnd⟩ := hW
  have hA : DataW.TrodAll enc Try.prog W 0 (fun _ => true) true Try.f6.params.toList args.toList ds p := hA0
  rw [Try.params6] at hA hval
  obtain ⟨v0, vs0, d0, ds0, p0, q0, hargs, rfl, rfl, h0, r0⟩ := trodAll_cons hA
  obtain ⟨v1, vs1, d1, ds1, p1, q1, rfl, rfl, rfl, h1, r1⟩ := trodAll_cons r0
  obtain ⟨v2, vs2, d2, ds2, p2, q2, rfl, rfl, rfl, h2, r2⟩ := trodAll_cons r1
  obtain ⟨rfl, rfl, rfl⟩ := trodAll_nil r2
  obtain rfl : args = #[v0, v1, v2] := by cases args; simp_all
  obtain ⟨rfl, rfl⟩ := trodVars_none hV
  have k0 := h0
  have lt0 : ∀ x ∈ p0, x.block < W.heap.size := by obtain ⟨m, hm⟩ := k0; exact DataW.trod_lt m _ _ _ hm
  obtain ⟨a0, cap0, l0, rfl, n0, w0⟩ := open_raws (hval 0 32 v0 rfl rfl) h0
  obtain ⟨a1, rfl, rfl, rfl, w1⟩ := open_int Try.underlying5 (hval 1 5 v1 rfl rfl) h1
  obtain ⟨a2, rfl, rfl, rfl, w2⟩ := open_int Try.underlying5 (hval 2 5 v2 rfl rfl) h2
  clear hA0 hval0
  refine (orderFronts_walk a0 cap0 l0 a1 a2 W w0 n0 w1 w2).mono fun e W' ⟨he, bel⟩ => ?_
  subst he
  exact ⟨_, rfl, _, _, _, [], _, [], hW', trodAll_mk1 (shut_bool Try.underlying4 _), (trodAll_cons_mk (Below.trod law_laidOut (by kernel_rfl) (of_decide_eq_true (by kernel_rfl)) k0 bel lt0) (trodAll_cons_mk (shut_int Try.underlying5 w1) (trodAll_cons_mk (shut_int Try.underlying5 w2) trodAll_mk0))), rfl, bel.frame _, fun h => by cases h⟩

/-- The statement. -/
theorem orderFronts_holds : Rows.OrderFrontsSaid :=
  OpenClaim.holds_of_wide 6 Try.f6 rfl rfl rfl rfl rfl rfl rfl ⟨rfl, rfl, rfl, rfl, rfl⟩ rfl rfl rfl rfl rfl (by kernel_rfl) Try.func6 (by kernel_rfl)
    (of_decide_eq_true (by kernel_rfl)) (by unfold Func.isWrapper; first | (rw [if_pos (by decide +kernel)]; kernel_rfl) | (rw [if_neg (by decide +kernel)]; exact ⟨rfl, rfl⟩))
    (fun os started H enc _ => orderFronts_lifted os started H enc)
end Go.Proofs.Ytkdamkchpfcanaa
