/- OrderRaw: of any events, whether they are a run's or not, what is ahead of what is what the chapter says; for every input. -/
import Derived.Test.YtkhhkjinlkpdlaaRefOrd4
import Derived.Test.YtkhhkjinlkpdlaaOpenEvs
namespace Go.Proofs.Ytkhhkjinlkpdlaa
set_option linter.unusedVariables false
set_option linter.unusedSimpArgs false
open Go.ChangeShapes Go.WideShapes Go.ChangeAt Go.RowKit

theorem raw_nums {A : Nat} (hA : A ≤ 255) : (A : Int) % 26 = ((A % 26 : Nat) : Int) ∧ (A : Int).tmod 26 = ((A % 26 : Nat) : Int) ∧ A % 26 < 26 :=
  ⟨by simp, by rw [Int.tmod_eq_emod_of_nonneg (by omega)]; simp, Nat.mod_lt _ (by omega)⟩
theorem chIn_slice {w : World} {a : Option Addr} {n c : Nat} {l : List Int} (h : SliceIn .i64 w a n c l) (hn : n ≤ 5) : ChIn w a l := by
  refine ⟨h.row, by have := h.len_eq; omega, fun c hc => ?_⟩
  have := h.fit c hc
  simp [Lit.wf] at this
  exact bounds_i64 (h.fit c hc)
set_option maxRecDepth 100000 in
set_option maxHeartbeats 20000000 in
theorem orderRaw_walk (ra : Option Addr) (rc : Nat) (l : List (Nat × Nat)) (ea : Option Addr) (ec : Nat) (t : List EvD) (ca : Option Addr) (cn cc : Nat) (rs : List Int) (i j x y : Int) (w : World) (h : RawIn w ra l) (hl : l.length ≤ 9223372036854775807) (he : EvsIn w w.heap.size ea t ∧ ∀ e ∈ t, EvW e) (ht : t.length ≤ ec ∧ t.length ≤ 9223372036854775807) (hr : SliceIn .i64 w ca cn cc rs) (hi : (Lit.int .i64 i).wf = true) (hj : (Lit.int .i64 j).wf = true) (hx : (Lit.int .u8 x).wf = true) (hy : (Lit.int .u8 y).wf = true) :
    Calls Try.prog 4 #[.slice ra l.length rc, .slice ea t.length ec, .slice ca cn cc, .int .i64 i, .int .i64 j, .int .u8 x, .int .u8 y] w fun e w' => e = .returned (.bool true) ∧ Below w.heap.size w w' := by
  obtain ⟨x0, x1⟩ := bounds_u8 hx
  obtain ⟨y0, y1⟩ := bounds_u8 hy
  clear hx hy hi hj
  obtain ⟨x, rfl⟩ : ∃ q : Nat, x = q := ⟨x.toNat, by omega⟩
  obtain ⟨y, rfl⟩ : ∃ q : Nat, y = q := ⟨y.toNat, by omega⟩
  have HKW := Lib.hid (fun V => known7_any V)
  by_cases h20 : 20 < t.length
  · have h20' : decide ((20 : Int) < (t.length : Int)) = true := decide_eq_true (by omega)
    have h20n : decide (20 < t.length) = true := decide_eq_true (by omega)
    go_enter Try.func4, Try.ntmps4
    go_wp2_with (go_at_call 8; refine (HKW.out _).mono ?_; rintro e w5 ⟨rfl, hB⟩)
    go_ret
    exact ⟨rfl, hB⟩
  have h20' : decide ((20 : Int) < (t.length : Int)) = false := decide_eq_false (by omega)
  have h20n : decide (20 < t.length) = false := decide_eq_false (by omega)
  by_cases h5 : 5 < cn
  · have h5' : decide ((5 : Int) < (cn : Int)) = true := decide_eq_true (by omega)
    have h5n : decide (5 < cn) = true := decide_eq_true (by omega)
    go_enter Try.func4, Try.ntmps4
    go_wp2_with (go_at_call 8; refine (HKW.out _).mono ?_; rintro e w5 ⟨rfl, hB⟩)
    go_ret
    exact ⟨rfl, hB⟩
  have h5' : decide ((5 : Int) < (cn : Int)) = false := decide_eq_false (by omega)
  have h5n : decide (5 < cn) = false := decide_eq_false (by omega)
  obtain ⟨m0, m1, m2⟩ := raw_nums (A := x) (by omega)
  obtain ⟨n0, n1, n2⟩ := raw_nums (A := y) (by omega)
  generalize hU : x % 26 = U at *
  generalize hW : y % 26 = W at *
  have HCh := Lib.hid (chIn_slice hr (by omega))
  obtain rfl := hr.len_eq
  have HT := Lib.hid (fun V (hB : Below w.heap.size w V) => trace_any ra rc l V ⟨fun k p hk => by
    obtain ⟨g, o, e, hg, c0, c1⟩ := h.cell k p hk
    exact ⟨g, o, e, Nat.lt_of_lt_of_le hg hB.size, (hB.cell (p := ⟨g, o + k * 2, none⟩) hg).trans c0, (hB.cell (p := ⟨g, o + k * 2 + 1, none⟩) hg).trans c1⟩, h.wf⟩ hl)
  have HEt := Lib.hid he.1
  have HWt := Lib.hid he.2
  have htc := ht.1
  clear h hr he ht hU hW
  go_enter Try.func4, Try.ntmps4
  go_upto_region 4 with (go_at_call 8; refine (HKW.out _).mono ?_; rintro e w5 ⟨rfl, hB⟩)
  generalize hV0 : World.alloc w5 _ = V0
  have HB0 := Lib.hid (show Below w.heap.size w V0 by rw [← hV0]; exact below_new hB _)
  have HN0 : Hid (V0.heap[w5.heap.size]? = some (.cells #[.int .i64 0, .int .i64 0, .int .i64 0, .slice ca rs.length cc, .int .i64 0, .int .i64 0, .slice none 0 0] 30)) := Lib.hid (by rw [← hV0]; exact heap_alloc_new _ _)
  generalize w5.heap.size = g0 at *
  clear hV0 hB
  go_upto_region 7 with (go_at_call 10; refine (HT.out _ HB0.out).mono ?_; rintro e V1 ⟨v, rfl, xa, xc, rfl, hxc, hxo, hxB⟩)
  have HB1 := Lib.hid (below_next HB0.out hxB)
  have HN1 := Lib.hid (old_later HN0.out hxB)
  have HEx := Lib.hid (evsIn_own hxo)
  have htl : (trL l).length ≤ 1000 := by rw [trL_len]; omega
  have HWx := Lib.hid (trL_wf l)
  generalize trL l = tr at *
  clear hxo hxB HT HN0
  have HCV := Lib.hid (fun V (hB : Below V1.heap.size V1 V) => HCh.out.later (below_next HB1.out hB))
  have HET := Lib.hid (fun V (hB : Below V1.heap.size V1 V) => HEt.out.later (below_next HB1.out hB))
  have one : (#[Value.int .i64 0, .int .i64 0, .int .i64 0, .slice ca rs.length cc, .int .i64 0, .int .i64 0, .slice none 0 0] : Array Value).all (·.oneCell') = true := by simp [Value.oneCell']
  have ht20 : t.length ≤ 1000 := by omega
  have HDx := Lib.hid (fun V (hB : Below V1.heap.size V1 V) => direct_any (.int .i64 0) (.int .i64 0) (.int .i64 0) ca cc rs (.int .i64 0) (.int .i64 0) (.slice none 0 0) xa xc tr (U : Int) (W : Int) V (HCV.out V hB) (HEx.out.later hB) (by omega) hxc one)
  have HRx := Lib.hid (fun V (hB : Below V1.heap.size V1 V) => rdirect_any (.int .i64 0) (.int .i64 0) (.int .i64 0) ca cc rs (.int .i64 0) (.int .i64 0) (.slice none 0 0) xa xc tr (U : Int) (W : Int) V (HCV.out V hB) (HEx.out.later hB) (by omega) one)
  have HBx := Lib.hid (fun V (hB : Below V1.heap.size V1 V) => before_any (.int .i64 0) (.int .i64 0) (.int .i64 0) ca cc rs (.int .i64 0) (.int .i64 0) (.slice none 0 0) xa xc tr (U : Int) (W : Int) V (HCV.out V hB) (HEx.out.later hB) HWx.out htl hxc one)
  have HSx := Lib.hid (fun V (hB : Below V1.heap.size V1 V) => rbefore_any (.int .i64 0) (.int .i64 0) (.int .i64 0) ca cc rs (.int .i64 0) (.int .i64 0) (.slice none 0 0) xa xc tr (U : Int) (W : Int) V (HCV.out V hB) (HEx.out.later hB) (by omega) one)
  have HDt := Lib.hid (fun V (hB : Below V1.heap.size V1 V) => direct_any (.int .i64 0) (.int .i64 0) (.int .i64 0) ca cc rs (.int .i64 0) (.int .i64 0) (.slice none 0 0) ea ec t i j V (HCV.out V hB) (HET.out V hB) (by omega) htc one)
  have HRt := Lib.hid (fun V (hB : Below V1.heap.size V1 V) => rdirect_any (.int .i64 0) (.int .i64 0) (.int .i64 0) ca cc rs (.int .i64 0) (.int .i64 0) (.slice none 0 0) ea ec t i j V (HCV.out V hB) (HET.out V hB) (by omega) one)
  have HBt := Lib.hid (fun V (hB : Below V1.heap.size V1 V) => before_any (.int .i64 0) (.int .i64 0) (.int .i64 0) ca cc rs (.int .i64 0) (.int .i64 0) (.slice none 0 0) ea ec t i j V (HCV.out V hB) (HET.out V hB) HWt.out ht20 htc one)
  have HSt := Lib.hid (fun V (hB : Below V1.heap.size V1 V) => rbefore_any (.int .i64 0) (.int .i64 0) (.int .i64 0) ca cc rs (.int .i64 0) (.int .i64 0) (.slice none 0 0) ea ec t i j V (HCV.out V hB) (HET.out V hB) (by omega) one)
  have HPt := Lib.hid (fun V (hB : Below V1.heap.size V1 V) => past_any (.int .i64 0) (.int .i64 0) (.int .i64 0) ca cc rs (.int .i64 0) (.int .i64 0) (.slice none 0 0) ea ec t j V (HCV.out V hB) (HET.out V hB) HWt.out ht20 htc one)
  have HQt := Lib.hid (fun V (hB : Below V1.heap.size V1 V) => rpast_any (.int .i64 0) (.int .i64 0) (.int .i64 0) ca cc rs (.int .i64 0) (.int .i64 0) (.slice none 0 0) ea ec t j V (HCV.out V hB) (HET.out V hB) (by omega) one)
  have HTx := Lib.hid (fun V (hB : Below V1.heap.size V1 V) => tells7_any (.int .i64 0) (.int .i64 0) (.int .i64 0) ca cc rs (.int .i64 0) (.int .i64 0) (.slice none 0 0) xa xc tr V (HCV.out V hB) (HEx.out.later hB) HWx.out htl hxc one)
  have HTt := Lib.hid (fun V (hB : Below V1.heap.size V1 V) => tells7_any (.int .i64 0) (.int .i64 0) (.int .i64 0) ca cc rs (.int .i64 0) (.int .i64 0) (.slice none 0 0) ea ec t V (HCV.out V hB) (HET.out V hB) HWt.out ht20 htc one)
  have HPL : Hid ((pastI rs t j).length ≤ 1000) := Lib.hid (by
    rw [← past_marks]
    refine Nat.le_trans (List.length_filter_le _ _) ?_
    rw [List.length_range]; exact ht20)
  unfold PastE at HPt HQt
  generalize dirI rs tr (U : Int) (W : Int) = D1 at *
  generalize befI rs tr (U : Int) (W : Int) = E1 at *
  generalize dirI rs t i j = D2 at *
  generalize befI rs t i j = E2 at *
  generalize pastI rs t j = P at *
  rw [← ofN_len P] at HPL HPt HQt
  generalize ofN P = Q at *
  have b1 : (D1 == D1) = true := by simp
  have b2 : (E1 == E1) = true := by simp
  have b3 : (D2 == D2) = true := by simp
  have b4 : (E2 == E2) = true := by simp
  have HL : Hid (Below V1.heap.size V1 V1.drew) := Lib.hid (Below.refl _ V1).drew
  have KX := box7 (old_later HN1.out HL.out)
  clear HCV HET HEx HEt HWt HWx HCh one
  go_region_held3 (fun u => u.cell? ⟨g0, 0, none⟩ = some (.int .i64 0) ∧ u.cell? ⟨g0, 1, none⟩ = some (.int .i64 0) ∧ u.cell? ⟨g0, 2, none⟩ = some (.int .i64 0) ∧ u.cell? ⟨g0, 3, none⟩ = some (.slice ca rs.length cc) ∧ u.cell? ⟨g0, 4, none⟩ = some (.int .i64 0) ∧ u.cell? ⟨g0, 5, none⟩ = some (.int .i64 0) ∧ u.cell? ⟨g0, 6, none⟩ = some (.slice none 0 0)) (first | with_reducible exact KX | fail)
    (first
      | (have _g := HR2; go_at_call 14; refine (same7_yes _ _ _ _ _ _ _ _ (HR1.out) (HR2.out) HPL.out).mono ?_; rintro e w5 ⟨rfl, nd, rfl⟩; have HL := Lib.hid (below_drewN HL.out nd); have KX := box7 (old_later HN1.out HL.out))
      | (go_at_call 11; (first | with_reducible refine (HDx.out _ HL.out).mono ?_ | with_reducible refine (HDt.out _ HL.out).mono ?_); rintro e w5 ⟨rfl, hB⟩; have HL := Lib.hid (below_next HL.out hB); have KX := box7 (old_later HN1.out HL.out); clear hB)
      | (go_at_call 12; (first | with_reducible refine (HRx.out _ HL.out).mono ?_ | with_reducible refine (HRt.out _ HL.out).mono ?_); rintro e w5 ⟨rfl, hB⟩; have HL := Lib.hid (below_next HL.out hB); have KX := box7 (old_later HN1.out HL.out); clear hB)
      | (go_at_call 9; (first | with_reducible refine (HBx.out _ HL.out).mono ?_ | with_reducible refine (HBt.out _ HL.out).mono ?_); rintro e w5 ⟨rfl, hB⟩; have HL := Lib.hid (below_next HL.out hB); have KX := box7 (old_later HN1.out HL.out); clear hB)
      | (go_at_call 13; (first | with_reducible refine (HSx.out _ HL.out).mono ?_ | with_reducible refine (HSt.out _ HL.out).mono ?_); rintro e w5 ⟨rfl, hB⟩; have HL := Lib.hid (below_next HL.out hB); have KX := box7 (old_later HN1.out HL.out); clear hB)
      | (have _g := HR1; go_at_call 16; refine (HQt.out _ HL.out).mono ?_; rintro e w5 ⟨pa, pc, rfl, ho, hB⟩; have HR2 := Lib.hid (rowOf_own ho); have HR1 := Lib.hid (HR1.out.up hB); have HL := Lib.hid (below_next HL.out hB); have KX := box7 (old_later HN1.out HL.out); clear hB ho)
      | (go_at_call 15; refine (HPt.out _ HL.out).mono ?_; rintro e w5 ⟨qa, qc, rfl, ho, hB⟩; have HR1 := Lib.hid (rowOf_own ho); have HL := Lib.hid (below_next HL.out hB); have KX := box7 (old_later HN1.out HL.out); clear hB ho))
  obtain ⟨p0, p1, p2, p3, p4, p5, p6⟩ := KX
  go_wp2_with (go_at_call 17; (first | with_reducible refine (HTx.out _ HL.out).mono ?_ | with_reducible refine (HTt.out _ HL.out).mono ?_); rintro e w6 ⟨rfl, hB⟩; have HL := Lib.hid (below_next HL.out hB); obtain ⟨p0, p1, p2, p3, p4, p5, p6⟩ := box7 (old_later HN1.out HL.out); clear hB)
  go_ret
  exact ⟨rfl, below_next HB1.out HL.out⟩
set_option maxRecDepth 100000 in
theorem orderRaw_lifted (os : Os) (started : os.Started) (H : Type) (enc : TypeId × Value → H) :
    ReturnsInHanded {} Try.checked os 4 .any (Rows.orderRawSpec.pre6 enc Try.prog Try.f4 Rows.orderRawRow.domain false) (Rows.orderRawSpec.post enc Try.prog Try.f4 false true false false) := by
  refine returnsInHanded_of_change (C := Try.checked) law_own started (by kernel_rfl) Try.func4
    (ChangeSpec.witness6 (enc := enc) (C := Try.checked) false ⟨#[], #[.slice none 0 0, .slice none 0 0, .slice none 0 0, .int .i64 0, .int .i64 0, .int .u8 0, .int .u8 0], []⟩ 8 (by kernel_rfl) (by kernel_rfl) (by kernel_rfl) (by kernel_rfl)) ?_
  intro W base args ds gs before hval0 hW hcnd _
  have hval : ∀ (j : Nat) t v, Try.f4.params[j]? = some t → args[j]? = some v → Value.okWide Try.prog W .any base t v := hval0
  have hW' := hW
  obtain ⟨p, q, hA0, hV, rfl, hfz, hnd⟩ := hW
  have hA : DataW.TrodAll enc Try.prog W 0 (fun _ => true) true Try.f4.params.toList args.toList ds p := hA0
  rw [Try.params4] at hA hval
  obtain ⟨v0, vs0, d0, ds0, p0, q0, hargs, rfl, rfl, h0, r0⟩ := trodAll_cons hA
  obtain ⟨v1, vs1, d1, ds1, p1, q1, rfl, rfl, rfl, h1, r1⟩ := trodAll_cons r0
  obtain ⟨v2, vs2, d2, ds2, p2, q2, rfl, rfl, rfl, h2, r2⟩ := trodAll_cons r1
  obtain ⟨v3, vs3, d3, ds3, p3, q3, rfl, rfl, rfl, h3, r3⟩ := trodAll_cons r2
  obtain ⟨v4, vs4, d4, ds4, p4, q4, rfl, rfl, rfl, h4, r4⟩ := trodAll_cons r3
  obtain ⟨v5, vs5, d5, ds5, p5, q5, rfl, rfl, rfl, h5, r5⟩ := trodAll_cons r4
  obtain ⟨v6, vs6, d6, ds6, p6, q6, rfl, rfl, rfl, h6, r6⟩ := trodAll_cons r5
  obtain ⟨rfl, rfl, rfl⟩ := trodAll_nil r6
  obtain rfl : args = #[v0, v1, v2, v3, v4, v5, v6] := by cases args; simp_all
  obtain ⟨rfl, rfl⟩ := trodVars_none hV
  have k0 := h0
  have lt0 : ∀ x ∈ p0, x.block < W.heap.size := by obtain ⟨m, hm⟩ := k0; exact DataW.trod_lt m _ _ _ hm
  obtain ⟨a0, cap0, l0, rfl, n0, w0⟩ := open_raws (hval 0 32 v0 rfl rfl) h0
  have k1 := h1
  have lt1 : ∀ x ∈ p1, x.block < W.heap.size := by obtain ⟨m, hm⟩ := k1; exact DataW.trod_lt m _ _ _ hm
  obtain ⟨a1, cap1, l1, rfl, n1, w1⟩ := open_evs (hval 1 22 v1 rfl rfl) h1
  obtain ⟨a2, len2, cap2, rfl⟩ := okWide_slice Try.underlying27 (hval 2 27 v2 rfl rfl)
  have k2 := h2
  have lt2 : ∀ x ∈ p2, x.block < W.heap.size := by obtain ⟨m, hm⟩ := k2; exact DataW.trod_lt m _ _ _ hm
  obtain ⟨l2, w2⟩ : ∃ l, SliceIn .i64 W a2 len2 cap2 l := by
    obtain ⟨fuel, hf⟩ := h2
    rcases open_ints Try.underlying27 Try.underlying3 (by kernel_rfl) hf with ⟨hcs, _⟩ | ⟨x, l, c, zs, hcs, _, hl, hm, hz, _, hcell, hwz⟩
    · simp [Value.cells] at hcs
      obtain ⟨rfl, rfl, rfl⟩ := hcs
      exact ⟨[], SliceIn.nil _ _⟩
    · simp [Value.cells] at hcs
      obtain ⟨rfl, rfl, rfl⟩ := hcs
      exact ⟨_, SliceIn.of hl hm (by simpa using hz) hcell hwz⟩
  obtain ⟨a3, rfl, rfl, rfl, w3⟩ := open_int Try.underlying3 (hval 3 3 v3 rfl rfl) h3
  obtain ⟨a4, rfl, rfl, rfl, w4⟩ := open_int Try.underlying3 (hval 4 3 v4 rfl rfl) h4
  obtain ⟨a5, rfl, rfl, rfl, w5⟩ := open_int Try.underlying5 (hval 5 5 v5 rfl rfl) h5
  obtain ⟨a6, rfl, rfl, rfl, w6⟩ := open_int Try.underlying5 (hval 6 5 v6 rfl rfl) h6
  clear hA0 hval0
  refine (orderRaw_walk a0 cap0 l0 a1 cap1 l1 a2 len2 cap2 l2 a3 a4 a5 a6 W w0 n0 w1 n1 w2 w3 w4 w5 w6).mono fun e W' ⟨he, bel⟩ => ?_
  subst he
  exact ⟨_, rfl, _, _, _, [], _, [], hW', trodAll_mk1 (shut_bool Try.underlying4 _), (trodAll_cons_mk (Below.trod law_laidOut (by kernel_rfl) (of_decide_eq_true (by kernel_rfl)) k0 bel lt0) (trodAll_cons_mk (Below.trod law_laidOut (by kernel_rfl) (of_decide_eq_true (by kernel_rfl)) k1 bel lt1) (trodAll_cons_mk (Below.trod law_laidOut (by kernel_rfl) (of_decide_eq_true (by kernel_rfl)) k2 bel lt2) (trodAll_cons_mk (shut_int Try.underlying3 w3) (trodAll_cons_mk (shut_int Try.underlying3 w4) (trodAll_cons_mk (shut_int Try.underlying5 w5) (trodAll_cons_mk (shut_int Try.underlying5 w6) trodAll_mk0))))))), rfl, bel.frame _, fun h => by cases h⟩

/-- The statement. -/
theorem orderRaw_holds : Rows.OrderRawSaid :=
  OpenClaim.holds_of_wide 4 Try.f4 rfl rfl rfl rfl rfl rfl rfl ⟨rfl, rfl, rfl, rfl, rfl⟩ rfl rfl rfl rfl rfl (by kernel_rfl) Try.func4 (by kernel_rfl)
    (of_decide_eq_true (by kernel_rfl)) (by unfold Func.isWrapper; first | (rw [if_pos (by decide +kernel)]; kernel_rfl) | (rw [if_neg (by decide +kernel)]; exact ⟨rfl, rfl⟩))
    (fun os started H enc _ => orderRaw_lifted os started H enc)
end Go.Proofs.Ytkhhkjinlkpdlaa
