/- RaceFronts: events behind change none of the races that there are; for every input. -/
import Derived.Test.YtkcimeiokgafiaaRaceSame
import Derived.Test.YtkcimeiokgafiaaRaceOpenRaws
import Derived.Test.YtkcimeiokgafiaaRaceFrontsM
namespace Go.Proofs.Ytkcimeiokgafiaa
set_option linter.unusedVariables false
set_option linter.unusedSimpArgs false
open Go.ChangeShapes Go.WideShapes Go.ChangeAt Go.RowKit Go.Maps

def c12 : List Int := [1, 2]
theorem fr8_nums {A n : Nat} (hA : A ≤ 255) (hn : n ≤ 1000) : (A : Int) % ((n : Int) + 1) = ((A % (n + 1) : Nat) : Int) ∧ (A : Int).tmod ((n : Int) + 1) = ((A % (n + 1) : Nat) : Int) ∧ A % (n + 1) ≤ n ∧ ((n : Int) + 1 == 0) = false ∧ IntKind.i64.wrap ((n : Int) + 1) = (n : Int) + 1 ∧ IntKind.i64.wrap (A : Int) = (A : Int) :=
  ⟨by simp, by rw [Int.tmod_eq_emod_of_nonneg (by omega)]; simp, by have := Nat.mod_lt A (show 0 < n + 1 by omega); omega, by rw [beq_eq_false_iff_ne]; omega, IntWalk.i64_in _ ⟨by omega, by omega⟩, IntWalk.i64_in _ ⟨by omega, by omega⟩⟩
set_option maxRecDepth 100000 in
set_option maxHeartbeats 4000000 in
theorem raceFronts_walk (ra : Option Addr) (rc : Nat) (l : List (Nat × Nat)) (x : Int) (w : World) (h : RawIn w ra l) (hl : l.length ≤ 9223372036854775807) (hx : (Lit.int .u8 x).wf = true) :
    Calls Try.prog 6 #[.slice ra l.length rc, .int .u8 x] w fun e w' => e = .returned (.bool true) ∧ Below w.heap.size w w' := by
  obtain ⟨x0, x1⟩ := bounds_u8 hx
  clear hx
  obtain ⟨x, rfl⟩ : ∃ q : Nat, x = q := ⟨x.toNat, by omega⟩
  have HT := Lib.hid (fun V (hB : Below w.heap.size w V) => trace_any ra rc l V ⟨fun k p hk => by
    obtain ⟨g, o, e, hg, c0, c1⟩ := h.cell k p hk
    exact ⟨g, o, e, Nat.lt_of_lt_of_le hg hB.size, (hB.cell (p := ⟨g, o + k * 2, none⟩) hg).trans c0, (hB.cell (p := ⟨g, o + k * 2 + 1, none⟩) hg).trans c1⟩, h.wf⟩ hl)
  have HKW := Lib.hid (fun V => known8_any V)
  clear h
  go_enter Try.func6, Try.ntmps6
  go_upto_region 2 with (fail)
  generalize hV0 : World.alloc (World.alloc w _) _ = V0
  have n1 := (congrArg (fun x : World => x.heap[w.heap.size]?) hV0).symm.trans ((Below.heap_alloc _ _ _ (by simp)).trans (heap_alloc_new _ _))
  have n2 := (congrArg (fun x : World => x.heap[w.heap.size + 1]?) hV0).symm.trans (heap_alloc2_new _ _ _)
  have HV0 := Lib.hid (show Below w.heap.size w V0 by rw [← hV0]; exact below_two _ _ _)
  have HN1 := Lib.hid n1
  have HN2 := Lib.hid n2
  have HT0 := Lib.hid (HT.out V0 HV0.out)
  clear hV0 n1 n2 HT
  go_upto_region 3 with (go_at_call 11; refine HT0.out.mono ?_; rintro e V1 ⟨v, rfl, xa, xc, rfl, hxc, hxo, hxB⟩)
  have HXB := Lib.hid hxB
  have HCH : Hid (ChIn V1 (some ⟨w.heap.size, 0, none⟩) c12) := Lib.hid (by
    refine ChIn.later ⟨fun i x hx => ?_, by simp [c12], by intro c hc; simp [c12] at hc; rcases hc with rfl | rfl <;> omega⟩ hxB
    match i, hx with
    | 0, hx => cases hx; exact ⟨_, 0, rfl, (Array.getElem?_eq_some_iff.1 HN1.out).1, cell_of_row _ _ 0 _ _ _ HN1.out⟩
    | 1, hx => cases hx; exact ⟨_, 0, rfl, (Array.getElem?_eq_some_iff.1 HN1.out).1, cell_of_row _ _ 1 _ _ _ HN1.out⟩
    | i + 2, hx => simp [c12] at hx)
  have HEV := Lib.hid (evsIn_own hxo)
  have htl : (trL l).length ≤ 25 := by rw [trL_len]; omega
  have HWF := Lib.hid (trL_wf l)
  have HFT := Lib.hid (fits_tr l)
  generalize htn : (trL l).length = n at *
  generalize htr : trL l = tr at *
  have HTN := Lib.hid htn
  have HPB := Lib.hid (old_later HN2.out hxB)
  have HL := Lib.hid (Below.refl V1.heap.size V1)
  have HW1 := Lib.hid (below_next HV0.out hxB)
  clear hxo hxB HN1 HN2 HT0 HXB htn htr
  obtain ⟨m0, m1, m2, m3, m4, m5⟩ := fr8_nums (A := x) (n := n) (by omega) (by omega)
  generalize x % (n + 1) = M at *
  have hlt : (tr.take M).length = M := by rw [List.length_take, HTN.out]; omega
  have HF1 := Lib.hid (fun V (hB : Below V1.heap.size V1 V) => find_any (.int .i64 0) (.int .i64 0) (.int .i64 0) (some ⟨w.heap.size, 0, none⟩) 2 c12 (.int .i64 0) (.int .i64 0) (.slice none 0 0) xa xc (tr.take M) V ((HEV.out.later hB).take _) (fun e he => HWF.out e (List.mem_of_mem_take he)) (HCH.out.later hB) (by omega) (by simp [Value.oneCell']))
  have HF2 := Lib.hid (fun V (hB : Below V1.heap.size V1 V) => find_any (.int .i64 0) (.int .i64 0) (.int .i64 0) (some ⟨w.heap.size, 0, none⟩) 2 c12 (.int .i64 0) (.int .i64 0) (.slice none 0 0) xa xc tr V (HEV.out.later hB) HWF.out (HCH.out.later hB) (by rw [HTN.out]; omega) (by simp [Value.oneCell']))
  obtain ⟨R, hR, hge⟩ := races_take (chans := c12) HFT.out (n := M) (by rw [HTN.out]; exact m2)
  have hAl := racesL_le6 c12 (tr.take M)
  have hBl := racesL_le6 c12 tr
  rw [hlt] at HF1 hAl
  rw [HTN.out] at HF2 hBl
  unfold FindE at HF1 HF2
  rw [hR] at HF2 hBl
  generalize racesL c12 (tr.take M) = A at *
  rw [List.length_append] at hBl
  have HGE := Lib.hid hge
  have KX := box7S (u := V1.drew) HPB.out
  have hjc : (M : Int) ≤ (xc : Int) := by omega
  have hjN : M ≤ xc := by omega
  have hjT : ((M : Int)).toNat = M := by omega
  have hj0' : (0 : Int) ≤ (M : Int) := by omega
  clear HCH HEV HWF HFT hge hR hlt
  go_upto_region 4 with (fail)
  try simp only [m0, m1, m4, m5]
  go_region_held3 (fun u => u.cell? ⟨w.heap.size + 1, 0, none⟩ = some (.int .i64 0) ∧ u.cell? ⟨w.heap.size + 1, 1, none⟩ = some (.int .i64 0) ∧ u.cell? ⟨w.heap.size + 1, 2, none⟩ = some (.int .i64 0) ∧ u.cell? ⟨w.heap.size + 1, 3, none⟩ = some (.slice (some ⟨w.heap.size, 0, none⟩) 2 2) ∧ u.cell? ⟨w.heap.size + 1, 4, none⟩ = some (.int .i64 0) ∧ u.cell? ⟨w.heap.size + 1, 5, none⟩ = some (.int .i64 0) ∧ u.cell? ⟨w.heap.size + 1, 6, none⟩ = some (.slice none 0 0)) (first | with_reducible exact KX | fail)
    (first
      | (go_at_call 13; refine (HF1.out _ HL.out.drew).mono ?_; rintro e w5 ⟨v5, rfl, ho5, hB5⟩; obtain ⟨ya, yc, rfl, hyc, hyI⟩ := rcIn_own ho5; have HYI := Lib.hid hyI; have HL := Lib.hid (below_next HL.out.drew hB5); have KX := box7S (old_later HPB.out HL.out); clear hB5 ho5 hyI))
  go_upto_region 6 with (go_at_call 13; refine (HF2.out _ HL.out).mono ?_; rintro e w6 ⟨v6, rfl, ho6, hB6⟩; obtain ⟨za, zc, rfl, hzc, hzI⟩ := rcIn_own ho6; clear ho6)
  have HZI := Lib.hid hzI
  have HYI := Lib.hid (HYI.out.later hB6)
  have HL := Lib.hid (below_next HL.out hB6)
  have HS := Lib.hid (fun u (hB : Below w6.heap.size w6 u) => same8_yes ya za yc zc A u (HYI.out.later hB) (HZI.out.front.later hB) (by omega))
  clear hzI hB6 HF1 HF2 KX m0 m1 m3 m4 m5 hjc hjN hjT hj0'
  clear HYI
  have hm : (A ++ R).length = A.length + R.length := List.length_append
  generalize (A ++ R).length = m at *
  have hpm : (A.length : Int) ≤ (zc : Int) := by omega
  have hpN : A.length ≤ zc := by omega
  have hpT : ((A.length : Int)).toNat = A.length := by omega
  have hp0 : (0 : Int) ≤ (A.length : Int) := by omega
  have hmp : ¬ (m : Int) < (A.length : Int) := by omega
  have hmp' : decide ((m : Int) < (A.length : Int)) = false := decide_eq_false hmp
  cases R with
  | nil =>
    have hmm : ((m : Int) == (A.length : Int)) = true := by rw [beq_iff_eq]; simp at hm; omega
    clear hm HGE HZI
    generalize A.length = p at *
    go_wp2_with (first
      | (have _g := hB7; go_at_call 9; refine (HKW.out _).mono ?_; rintro e w8 ⟨rfl, hB8⟩)
      | (go_at_call 12; refine (HS.out _ (Below.refl _ _)).mono ?_; rintro e w7 ⟨rfl, nd, rfl⟩; have hB7 := below_drewN (Below.refl w6.heap.size w6) nd))
    go_ret
    exact ⟨rfl, below_next HW1.out (below_next HL.out (below_next hB7 hB8))⟩
  | cons y r =>
    have hmm : ((m : Int) == (A.length : Int)) = false := by rw [beq_eq_false_iff_ne]; simp at hm; omega
    have hpl : (A.length : Int) < (m : Int) := by simp at hm; omega
    have hy : (M : Int) ≤ y.2 := HGE.out y List.mem_cons_self
    obtain ⟨g, rfl, hg, _, cy⟩ := HZI.out A.length y (by rw [List.getElem?_append_right (Nat.le_refl _)]; simp)
    have hy' : decide ((M : Int) ≤ y.2) = true := decide_eq_true hy
    clear hm HGE HZI
    generalize A.length = p at *
    generalize y.2 = z at *
    go_wp2_with (first
      | (have _g := hB7; go_at_call 9; refine (HKW.out _).mono ?_; rintro e w8 ⟨rfl, hB8⟩; have KZ := ((below_next hB7 hB8).cell (p := ⟨g, p * 2 + 1, none⟩) hg).trans cy)
      | (go_at_call 12; refine (HS.out _ (Below.refl _ _)).mono ?_; rintro e w7 ⟨rfl, nd, rfl⟩; have hB7 := below_drewN (Below.refl w6.heap.size w6) nd))
    go_ret
    exact ⟨rfl, below_next HW1.out (below_next HL.out (below_next hB7 hB8))⟩
set_option maxRecDepth 100000 in
theorem raceFronts_lifted (os : Os) (started : os.Started) (H : Type) (enc : TypeId × Value → H) :
    ReturnsInHanded {} Try.checked os 6 .any (Rows.raceFrontsSpec.pre6 enc Try.prog Try.f6 Rows.raceFrontsRow.domain false) (Rows.raceFrontsSpec.post enc Try.prog Try.f6 false true false false) := by
  refine returnsInHanded_of_change (C := Try.checked) law_own started (by kernel_rfl) Try.func6
    (ChangeSpec.witness6 (enc := enc) (C := Try.checked) false ⟨#[], #[.slice none 0 0, .int .u8 0], []⟩ 8 (by kernel_rfl) (by kernel_rfl) (by kernel_rfl) (by kernel_rfl)) ?_
  intro W base args ds gs before hval0 hW hcnd _
  have hval : ∀ (j : Nat) t v, Try.f6.params[j]? = some t → args[j]? = some v → Value.okWide Try.prog W .any base t v := hval0
  have hW' := hW
  obtain ⟨p, q, hA0, hV, rfl, hfz, hnd⟩ := hW
  have hA : DataW.TrodAll enc Try.prog W 0 (fun _ => true) true Try.f6.params.toList args.toList ds p := hA0
  rw [Try.params6] at hA hval
  obtain ⟨v0, vs0, d0, ds0, p0, q0, hargs, rfl, rfl, h0, r0⟩ := trodAll_cons hA
  obtain ⟨v1, vs1, d1, ds1, p1, q1, rfl, rfl, rfl, h1, r1⟩ := trodAll_cons r0
  obtain ⟨rfl, rfl, rfl⟩ := trodAll_nil r1
  obtain rfl : args = #[v0, v1] := by cases args; simp_all
  obtain ⟨rfl, rfl⟩ := trodVars_none hV
  have k0 := h0
  have lt0 : ∀ x ∈ p0, x.block < W.heap.size := by obtain ⟨m, hm⟩ := k0; exact DataW.trod_lt m _ _ _ hm
  obtain ⟨a0, cap0, l0, rfl, n0, w0⟩ := open_raws (hval 0 34 v0 rfl rfl) h0
  obtain ⟨a1, rfl, rfl, rfl, w1⟩ := open_int Try.underlying5 (hval 1 5 v1 rfl rfl) h1
  clear hA0 hval0
  refine (raceFronts_walk a0 cap0 l0 a1 W w0 n0 w1).mono fun e W' ⟨he, bel⟩ => ?_
  subst he
  exact ⟨_, rfl, _, _, _, [], _, [], hW', trodAll_mk1 (shut_bool Try.underlying4 _), (trodAll_cons_mk (Below.trod law_laidOut (by kernel_rfl) (of_decide_eq_true (by kernel_rfl)) k0 bel lt0) (trodAll_cons_mk (shut_int Try.underlying5 w1) trodAll_mk0)), rfl, bel.frame _, fun h => by cases h⟩

/-- The statement. -/
theorem raceFronts_holds : Rows.RaceFrontsSaid :=
  OpenClaim.holds_of_wide 6 Try.f6 rfl rfl rfl rfl rfl rfl rfl ⟨rfl, rfl, rfl, rfl, rfl⟩ rfl rfl rfl rfl rfl (by kernel_rfl) Try.func6 (by kernel_rfl)
    (of_decide_eq_true (by kernel_rfl)) (by unfold Func.isWrapper; first | (rw [if_pos (by decide +kernel)]; kernel_rfl) | (rw [if_neg (by decide +kernel)]; exact ⟨rfl, rfl⟩))
    (fun os started H enc _ => raceFronts_lifted os started H enc)
end Go.Proofs.Ytkcimeiokgafiaa
