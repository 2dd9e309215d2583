/- RaceRaw: the races of any events, whether they are a run's or not, are what the chapter says; for every input. -/
import Derived.Test.YtgikoajclkfoiaaRaceRef2
import Derived.Test.YtgikoajclkfoiaaRaceOpenEvs
import Derived.Test.YtgikoajclkfoiaaRaceKnown2
import Derived.ChangeMaps5
namespace Go.Proofs.Ytgikoajclkfoiaa
set_option linter.unusedVariables false
set_option linter.unusedSimpArgs false
open Go.ChangeShapes Go.WideShapes Go.ChangeAt Go.RowKit Go.Maps

theorem chIn_sliceR {w : World} {a : Option Addr} {n c : Nat} {l : List Int} (h : SliceIn .i64 w a n c l) (hn : n ≤ 5) : ChIn w a l := by
  refine ⟨h.row, by have := h.len_eq; omega, fun c hc => ?_⟩
  have := h.fit c hc
  simp [Lit.wf] at this
  exact bounds_i64 (h.fit c hc)
def FindR (L : List (Int × Int)) (w : World) (e : Ending) (W' : World) : Prop := ∃ a cap, e = .returned (.slice a L.length cap) ∧ RcIn W' a L ∧ Below w.heap.size w W'
set_option maxRecDepth 100000 in
theorem findR_any (v0 v1 v2 : Value) (ca : Option Addr) (cc : Nat) (chans : List Int) (v4 v5 v6 : Value) (a : Option Addr) (cap : Nat) (t : List EvD) (w : World) (hc : ChIn w ca chans) (he : EvsIn w w.heap.size a t) (hW : ∀ e ∈ t, EvW e) (hl : t.length ≤ 1000) (hv : (#[v0, v1, v2, .slice ca chans.length cc, v4, v5, v6] : Array Value).all (·.oneCell') = true) :
    Calls Try.prog 13 #[.agg #[v0, v1, v2, .slice ca chans.length cc, v4, v5, v6], .slice a t.length cap] w (FindR (racesL chans t) w) := by
  refine (find_any v0 v1 v2 ca cc chans v4 v5 v6 a cap t w he hW hc (by omega) hv).mono ?_
  rintro e w' ⟨v, rfl, ho, hB⟩
  obtain ⟨x, c, rfl, _, hr⟩ := rcIn_own ho
  exact ⟨x, c, rfl, hr, hB⟩
set_option maxRecDepth 100000 in
theorem rfindR_any (v0 v1 v2 : Value) (ca : Option Addr) (cc : Nat) (chans : List Int) (v4 v5 v6 : Value) (a : Option Addr) (cap : Nat) (t : List EvD) (w : World) (hc : ChIn w ca chans) (he : EvsIn w w.heap.size a t) (hl : t.length ≤ 1000) (hv : (#[v0, v1, v2, .slice ca chans.length cc, v4, v5, v6] : Array Value).all (·.oneCell') = true) :
    Calls Try.prog 14 #[.agg #[v0, v1, v2, .slice ca chans.length cc, v4, v5, v6], .slice a t.length cap] w (FindR (racesL chans t) w) := by
  refine (rfind_any v0 v1 v2 ca cc chans v4 v5 v6 a cap t w hc he (by omega) hv).mono ?_
  rintro e w' ⟨v, rfl, ho, hB⟩
  rw [rfL_races hc.wf] at ho
  obtain ⟨x, c, rfl, _, hr⟩ := rcIn_own ho
  exact ⟨x, c, rfl, hr, hB⟩
set_option maxRecDepth 100000 in
theorem rracy_any (v0 v1 v2 : Value) (ca : Option Addr) (cc : Nat) (chans : List Int) (v4 v5 v6 : Value) (a : Option Addr) (cap : Nat) (t : List EvD) (w : World) (hc : ChIn w ca chans) (he : EvsIn w w.heap.size a t) (hl : t.length ≤ 1000) (hv : (#[v0, v1, v2, .slice ca chans.length cc, v4, v5, v6] : Array Value).all (·.oneCell') = true) :
    Calls Try.prog 15 #[.agg #[v0, v1, v2, .slice ca chans.length cc, v4, v5, v6], .slice a t.length cap] w fun e w' => e = .returned (.bool (decide (racesL chans t ≠ []))) ∧ Below w.heap.size w w' := by
  have HF := Lib.hid (fun W (hB : Below w.heap.size w W) => rfindR_any v0 v1 v2 ca cc chans v4 v5 v6 a cap t W (hc.later hB) (he.later hB) hl hv)
  simp only [List.all_toArray, List.all_cons, List.all_nil, Bool.and_true, Bool.and_eq_true] at hv
  obtain ⟨o0, o1, o2, o3, o4, o5, o6⟩ := hv
  generalize racesL chans t = L at *
  clear hc he
  have HL : Hid (decide (0 < L.length) = decide (L ≠ [])) := Lib.hid (by
    cases L with
    | nil => rfl
    | cons x r => simp)
  have HB : Hid (Below w.heap.size w (w.alloc (.cells #[v0, v1, v2, .slice ca chans.length cc, v4, v5, v6] 32))) := Lib.hid (below_box _ _)
  go_enter Try.func15, Try.ntmps15
  go_wp2_with (go_at_call 14; refine (HF.out _ HB.out).mono ?_; rintro e w1 ⟨x, c, rfl, hr, hB1⟩)
  go_ret
  refine ⟨?_, below_next HB.out hB1⟩
  show Ending.returned (Value.bool (decide (0 < L.length))) = _
  rw [HL.out]
set_option maxRecDepth 100000 in
set_option maxHeartbeats 20000000 in
theorem raceRaw_walk (ra : Option Addr) (rc : Nat) (l : List (Nat × Nat)) (ea : Option Addr) (ec : Nat) (t : List EvD) (ca : Option Addr) (cn cc : Nat) (rs : List Int) (w : World) (h : RawIn w ra l) (hl : l.length ≤ 9223372036854775807) (he : EvsIn w w.heap.size ea t ∧ ∀ e ∈ t, EvW e) (ht : t.length ≤ ec ∧ t.length ≤ 9223372036854775807) (hr : SliceIn .i64 w ca cn cc rs) :
    Calls Try.prog 4 #[.slice ra l.length rc, .slice ea t.length ec, .slice ca cn cc] w fun e w' => e = .returned (.bool true) ∧ Below w.heap.size w w' := by
  have HKW := Lib.hid (fun V => known8_any V)
  by_cases h20 : 25 < t.length
  · have h20' : decide ((25 : Int) < (t.length : Int)) = true := decide_eq_true (by omega)
    have h20n : decide (25 < t.length) = true := decide_eq_true (by omega)
    go_enter Try.func4, Try.ntmps4
    go_wp2_with (go_at_call 9; refine (HKW.out _).mono ?_; rintro e w5 ⟨rfl, hB⟩)
    go_ret
    exact ⟨rfl, hB⟩
  have h20' : decide ((25 : Int) < (t.length : Int)) = false := decide_eq_false (by omega)
  have h20n : decide (25 < t.length) = false := decide_eq_false (by omega)
  by_cases h5 : 5 < cn
  · have h5' : decide ((5 : Int) < (cn : Int)) = true := decide_eq_true (by omega)
    have h5n : decide (5 < cn) = true := decide_eq_true (by omega)
    go_enter Try.func4, Try.ntmps4
    go_wp2_with (go_at_call 9; refine (HKW.out _).mono ?_; rintro e w5 ⟨rfl, hB⟩)
    go_ret
    exact ⟨rfl, hB⟩
  have h5' : decide ((5 : Int) < (cn : Int)) = false := decide_eq_false (by omega)
  have h5n : decide (5 < cn) = false := decide_eq_false (by omega)
  have HCh := Lib.hid (chIn_sliceR hr (by omega))
  obtain rfl := hr.len_eq
  have HT := Lib.hid (fun V (hB : Below w.heap.size w V) => trace_any ra rc l V ⟨fun k p hk => by
    obtain ⟨g, o, e, hg, c0, c1⟩ := h.cell k p hk
    exact ⟨g, o, e, Nat.lt_of_lt_of_le hg hB.size, (hB.cell (p := ⟨g, o + k * 2, none⟩) hg).trans c0, (hB.cell (p := ⟨g, o + k * 2 + 1, none⟩) hg).trans c1⟩, h.wf⟩ hl)
  have HEt := Lib.hid he.1
  have HWt := Lib.hid he.2
  have htc := ht.1
  clear h hr he ht
  go_enter Try.func4, Try.ntmps4
  go_upto_region 4 with (go_at_call 9; refine (HKW.out _).mono ?_; rintro e w5 ⟨rfl, hB⟩)
  generalize hV0 : World.alloc w5 _ = V0
  have HB0 := Lib.hid (show Below w.heap.size w V0 by rw [← hV0]; exact below_new hB _)
  have HN0 : Hid (V0.heap[w5.heap.size]? = some (.cells #[.int .i64 0, .int .i64 0, .int .i64 0, .slice ca rs.length cc, .int .i64 0, .int .i64 0, .slice none 0 0] 32)) := Lib.hid (by rw [← hV0]; exact heap_alloc_new _ _)
  generalize w5.heap.size = g0 at *
  clear hV0 hB
  go_upto_region 5 with (go_at_call 11; refine (HT.out _ HB0.out).mono ?_; rintro e V1 ⟨v, rfl, xa, xc, rfl, hxc, hxo, hxB⟩)
  have HB1 := Lib.hid (below_next HB0.out hxB)
  have HN1 := Lib.hid (old_later HN0.out hxB)
  have HEx := Lib.hid (evsIn_own hxo)
  have htl : (trL l).length ≤ 1000 := by rw [trL_len]; omega
  have HWx := Lib.hid (trL_wf l)
  generalize trL l = tr at *
  clear hxo hxB HT HN0
  have HCV := Lib.hid (fun V (hB : Below V1.heap.size V1 V) => HCh.out.later (below_next HB1.out hB))
  have HET := Lib.hid (fun V (hB : Below V1.heap.size V1 V) => HEt.out.later (below_next HB1.out hB))
  have one : (#[Value.int .i64 0, .int .i64 0, .int .i64 0, .slice ca rs.length cc, .int .i64 0, .int .i64 0, .slice none 0 0] : Array Value).all (·.oneCell') = true := by simp [Value.oneCell']
  have ht20 : t.length ≤ 1000 := by omega
  have HDx := Lib.hid (fun V (hB : Below V1.heap.size V1 V) => findR_any (.int .i64 0) (.int .i64 0) (.int .i64 0) ca cc rs (.int .i64 0) (.int .i64 0) (.slice none 0 0) xa xc tr V (HCV.out V hB) (HEx.out.later hB) HWx.out htl one)
  have HRx := Lib.hid (fun V (hB : Below V1.heap.size V1 V) => rfindR_any (.int .i64 0) (.int .i64 0) (.int .i64 0) ca cc rs (.int .i64 0) (.int .i64 0) (.slice none 0 0) xa xc tr V (HCV.out V hB) (HEx.out.later hB) htl one)
  have HBx := Lib.hid (fun V (hB : Below V1.heap.size V1 V) => racy_any (.int .i64 0) (.int .i64 0) (.int .i64 0) ca cc rs (.int .i64 0) (.int .i64 0) (.slice none 0 0) xa xc tr V (HEx.out.later hB) HWx.out (HCV.out V hB) (by omega) one)
  have HSx := Lib.hid (fun V (hB : Below V1.heap.size V1 V) => rracy_any (.int .i64 0) (.int .i64 0) (.int .i64 0) ca cc rs (.int .i64 0) (.int .i64 0) (.slice none 0 0) xa xc tr V (HCV.out V hB) (HEx.out.later hB) htl one)
  have HDt := Lib.hid (fun V (hB : Below V1.heap.size V1 V) => findR_any (.int .i64 0) (.int .i64 0) (.int .i64 0) ca cc rs (.int .i64 0) (.int .i64 0) (.slice none 0 0) ea ec t V (HCV.out V hB) (HET.out V hB) HWt.out ht20 one)
  have HRt := Lib.hid (fun V (hB : Below V1.heap.size V1 V) => rfindR_any (.int .i64 0) (.int .i64 0) (.int .i64 0) ca cc rs (.int .i64 0) (.int .i64 0) (.slice none 0 0) ea ec t V (HCV.out V hB) (HET.out V hB) ht20 one)
  have HLx : Hid ((racesL rs tr).length ≤ 1000000) := Lib.hid (by have := racesL_len rs tr; omega)
  have HLt : Hid ((racesL rs t).length ≤ 1000000) := Lib.hid (by have := racesL_len rs t; omega)
  generalize racesL rs tr = L at *
  generalize racesL rs t = M at *
  generalize decide (L ≠ []) = D at *
  have b1 : (D == D) = true := by simp
  have HL : Hid (Below V1.heap.size V1 V1.drew) := Lib.hid (Below.refl _ V1).drew
  have KX := box7S (old_later HN1.out HL.out)
  clear HCV HET HEx HEt HWt HWx HCh one
  unfold FindR at HDx HRx HDt HRt
  go_region_held3 (fun u => u.cell? ⟨g0, 0, none⟩ = some (.int .i64 0) ∧ u.cell? ⟨g0, 1, none⟩ = some (.int .i64 0) ∧ u.cell? ⟨g0, 2, none⟩ = some (.int .i64 0) ∧ u.cell? ⟨g0, 3, none⟩ = some (.slice ca rs.length cc) ∧ u.cell? ⟨g0, 4, none⟩ = some (.int .i64 0) ∧ u.cell? ⟨g0, 5, none⟩ = some (.int .i64 0) ∧ u.cell? ⟨g0, 6, none⟩ = some (.slice none 0 0)) (first | with_reducible exact KX | fail)
    (first
      | (go_at_call 12; (first | with_reducible refine (same8_yes _ _ _ _ L _ HX1.out HX2.out HLx.out).mono ?_ | with_reducible refine (same8_yes _ _ _ _ M _ HT1.out HT2.out HLt.out).mono ?_); rintro e w5 ⟨rfl, nd, rfl⟩; have HL := Lib.hid (below_drewN HL.out nd); have KX := box7S (old_later HN1.out HL.out); (try have HT1 := Lib.hid (HT1.out.later (below_drewN (Below.refl _ _) nd))); (try have HT2 := Lib.hid (HT2.out.later (below_drewN (Below.refl _ _) nd))); (try have HX1 := Lib.hid (HX1.out.later (below_drewN (Below.refl _ _) nd))); (try have HX2 := Lib.hid (HX2.out.later (below_drewN (Below.refl _ _) nd))))
      | (go_at_call 13; with_reducible refine (HDx.out _ HL.out).mono ?_; rintro e w5 ⟨a1, c1, rfl, hr, hB⟩; (try have HX2 := Lib.hid (HX2.out.later hB)); (try have HT1 := Lib.hid (HT1.out.later hB)); (try have HT2 := Lib.hid (HT2.out.later hB)); have HX1 := Lib.hid hr; have HL := Lib.hid (below_next HL.out hB); have KX := box7S (old_later HN1.out HL.out); clear hB hr)
      | (go_at_call 13; with_reducible refine (HDt.out _ HL.out).mono ?_; rintro e w5 ⟨a2, c2, rfl, hr, hB⟩; (try have HX1 := Lib.hid (HX1.out.later hB)); (try have HX2 := Lib.hid (HX2.out.later hB)); (try have HT2 := Lib.hid (HT2.out.later hB)); have HT1 := Lib.hid hr; have HL := Lib.hid (below_next HL.out hB); have KX := box7S (old_later HN1.out HL.out); clear hB hr)
      | (go_at_call 14; with_reducible refine (HRx.out _ HL.out).mono ?_; rintro e w5 ⟨a3, c3, rfl, hr, hB⟩; (try have HX1 := Lib.hid (HX1.out.later hB)); (try have HT1 := Lib.hid (HT1.out.later hB)); (try have HT2 := Lib.hid (HT2.out.later hB)); have HX2 := Lib.hid hr; have HL := Lib.hid (below_next HL.out hB); have KX := box7S (old_later HN1.out HL.out); clear hB hr)
      | (go_at_call 14; with_reducible refine (HRt.out _ HL.out).mono ?_; rintro e w5 ⟨a4, c4, rfl, hr, hB⟩; (try have HX1 := Lib.hid (HX1.out.later hB)); (try have HX2 := Lib.hid (HX2.out.later hB)); (try have HT1 := Lib.hid (HT1.out.later hB)); have HT2 := Lib.hid hr; have HL := Lib.hid (below_next HL.out hB); have KX := box7S (old_later HN1.out HL.out); clear hB hr)
      | (go_at_call 10; with_reducible refine (HBx.out _ HL.out).mono ?_; rintro e w5 ⟨rfl, hB⟩; (try have HX1 := Lib.hid (HX1.out.later hB)); (try have HX2 := Lib.hid (HX2.out.later hB)); (try have HT1 := Lib.hid (HT1.out.later hB)); (try have HT2 := Lib.hid (HT2.out.later hB)); have HL := Lib.hid (below_next HL.out hB); have KX := box7S (old_later HN1.out HL.out); clear hB)
      | (go_at_call 15; with_reducible refine (HSx.out _ HL.out).mono ?_; rintro e w5 ⟨rfl, hB⟩; (try have HX1 := Lib.hid (HX1.out.later hB)); (try have HX2 := Lib.hid (HX2.out.later hB)); (try have HT1 := Lib.hid (HT1.out.later hB)); (try have HT2 := Lib.hid (HT2.out.later hB)); have HL := Lib.hid (below_next HL.out hB); have KX := box7S (old_later HN1.out HL.out); clear hB))
  go_wp2_with fail
  go_ret
  exact ⟨rfl, below_next HB1.out HL.out⟩
set_option maxRecDepth 100000 in
theorem raceRaw_lifted (os : Os) (started : os.Started) (H : Type) (enc : TypeId × Value → H) :
    ReturnsInHanded {} Try.checked os 4 .any (Rows.raceRawSpec.pre6 enc Try.prog Try.f4 Rows.raceRawRow.domain false) (Rows.raceRawSpec.post enc Try.prog Try.f4 false true false false) := by
  refine returnsInHanded_of_change (C := Try.checked) law_own started (by kernel_rfl) Try.func4
    (ChangeSpec.witness6 (enc := enc) (C := Try.checked) false ⟨#[], #[.slice none 0 0, .slice none 0 0, .slice none 0 0], []⟩ 8 (by kernel_rfl) (by kernel_rfl) (by kernel_rfl) (by kernel_rfl)) ?_
  intro W base args ds gs before hval0 hW hcnd _
  have hval : ∀ (j : Nat) t v, Try.f4.params[j]? = some t → args[j]? = some v → Value.okWide Try.prog W .any base t v := hval0
  have hW' := hW
  obtain ⟨p, q, hA0, hV, rfl, hfz, hnd⟩ := hW
  have hA : DataW.TrodAll enc Try.prog W 0 (fun _ => true) true Try.f4.params.toList args.toList ds p := hA0
  rw [Try.params4] at hA hval
  obtain ⟨v0, vs0, d0, ds0, p0, q0, hargs, rfl, rfl, h0, r0⟩ := trodAll_cons hA
  obtain ⟨v1, vs1, d1, ds1, p1, q1, rfl, rfl, rfl, h1, r1⟩ := trodAll_cons r0
  obtain ⟨v2, vs2, d2, ds2, p2, q2, rfl, rfl, rfl, h2, r2⟩ := trodAll_cons r1
  obtain ⟨rfl, rfl, rfl⟩ := trodAll_nil r2
  obtain rfl : args = #[v0, v1, v2] := by cases args; simp_all
  obtain ⟨rfl, rfl⟩ := trodVars_none hV
  have k0 := h0
  have lt0 : ∀ x ∈ p0, x.block < W.heap.size := by obtain ⟨m, hm⟩ := k0; exact DataW.trod_lt m _ _ _ hm
  obtain ⟨a0, cap0, l0, rfl, n0, w0⟩ := open_raws (hval 0 34 v0 rfl rfl) h0
  have k1 := h1
  have lt1 : ∀ x ∈ p1, x.block < W.heap.size := by obtain ⟨m, hm⟩ := k1; exact DataW.trod_lt m _ _ _ hm
  obtain ⟨a1, cap1, l1, rfl, n1, w1⟩ := open_evs (hval 1 24 v1 rfl rfl) h1
  obtain ⟨a2, len2, cap2, rfl⟩ := okWide_slice Try.underlying29 (hval 2 29 v2 rfl rfl)
  have k2 := h2
  have lt2 : ∀ x ∈ p2, x.block < W.heap.size := by obtain ⟨m, hm⟩ := k2; exact DataW.trod_lt m _ _ _ hm
  obtain ⟨l2, w2⟩ : ∃ l, SliceIn .i64 W a2 len2 cap2 l := by
    obtain ⟨fuel, hf⟩ := h2
    rcases open_ints Try.underlying29 Try.underlying3 (by kernel_rfl) hf with ⟨hcs, _⟩ | ⟨x, l, c, zs, hcs, _, hl, hm, hz, _, hcell, hwz⟩
    · simp [Value.cells] at hcs
      obtain ⟨rfl, rfl, rfl⟩ := hcs
      exact ⟨[], SliceIn.nil _ _⟩
    · simp [Value.cells] at hcs
      obtain ⟨rfl, rfl, rfl⟩ := hcs
      exact ⟨_, SliceIn.of hl hm (by simpa using hz) hcell hwz⟩
  clear hA0 hval0
  refine (raceRaw_walk a0 cap0 l0 a1 cap1 l1 a2 len2 cap2 l2 W w0 n0 w1 n1 w2).mono fun e W' ⟨he, bel⟩ => ?_
  subst he
  exact ⟨_, rfl, _, _, _, [], _, [], hW', trodAll_mk1 (shut_bool Try.underlying4 _), (trodAll_cons_mk (Below.trod law_laidOut (by kernel_rfl) (of_decide_eq_true (by kernel_rfl)) k0 bel lt0) (trodAll_cons_mk (Below.trod law_laidOut (by kernel_rfl) (of_decide_eq_true (by kernel_rfl)) k1 bel lt1) (trodAll_cons_mk (Below.trod law_laidOut (by kernel_rfl) (of_decide_eq_true (by kernel_rfl)) k2 bel lt2) trodAll_mk0))), rfl, bel.frame _, fun h => by cases h⟩

/-- The statement. -/
theorem raceRaw_holds : Rows.RaceRawSaid :=
  OpenClaim.holds_of_wide 4 Try.f4 rfl rfl rfl rfl rfl rfl rfl ⟨rfl, rfl, rfl, rfl, rfl⟩ rfl rfl rfl rfl rfl (by kernel_rfl) Try.func4 (by kernel_rfl)
    (of_decide_eq_true (by kernel_rfl)) (by unfold Func.isWrapper; first | (rw [if_pos (by decide +kernel)]; kernel_rfl) | (rw [if_neg (by decide +kernel)]; exact ⟨rfl, rfl⟩))
    (fun os started H enc _ => raceRaw_lifted os started H enc)
end Go.Proofs.Ytgikoajclkfoiaa
