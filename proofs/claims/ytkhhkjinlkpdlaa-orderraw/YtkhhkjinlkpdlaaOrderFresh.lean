/- order's fresh: what is directly ahead, but for what is gone. -/
import Derived.Test.YtkhhkjinlkpdlaaOrderNoteM
import Derived.StillTailTactics
namespace Go.Proofs.Ytkhhkjinlkpdlaa
set_option linter.unusedVariables false
set_option linter.unusedSimpArgs false
set_option maxRecDepth 100000
open Go.ChangeShapes Go.WideShapes Go.ChangeAt Go.RowKit Go.Maps

theorem slice_three (aa : Option Addr) (n ac m e : Nat) (hme : m ≤ e) (he : e ≤ ac) : ∃ a' c, (∀ w : World, (Instr.slice 27 (.slice aa n ac) (some (.int .i64 m)) (some (.int .i64 e)) (some (.int .i64 e))).run Try.prog w = .ok (.slice a' (e - m) c) w) ∧ (m < e → ∀ g, aa = some ⟨g, 0, none⟩ → a' = some ⟨g, m, none⟩) := by
  have hu := Try.underlying27
  have h1 : (m : Int) ≤ (e : Int) := by omega
  have h2 : (e : Int) ≤ (ac : Int) := by omega
  by_cases h : m = e
  · subst h
    refine ⟨aa, 0, fun w => ?_, fun h => absurd h (by omega)⟩
    simp [Instr.slice, run_underlying hu, Instr.sliceBounds, Instr.sliceBound, asIntOf, go_sem, h2]
    intro h; omega
  · refine ⟨aa.map fun x => x.add m, e - m, fun w => ?_, fun _ g q => by rw [q]; simp [Addr.add_mid]⟩
    simp [Instr.slice, run_underlying hu, Instr.sliceBounds, Instr.sliceBound, asIntOf, go_sem, h1, h2]
    rw [if_pos he, if_pos hme, if_neg (by omega)]
def FreshE (X : Nat → Prop) (chans : List Int) (R : Array Value) (base g0 gm : Nat) (ks : List (Int × Int)) (A B : Nat → List Nat) (G : Nat → Nat) (seen : List Bool) (st : List Nat) (fv : Nat → Value) (rv sv : Value) (k f e : Nat) (u : World) (en : Ending) (u' : World) : Prop :=
  ∃ a cap, en = .returned (.slice a (e - goneF f e (G k)) cap) ∧ (∀ i y : Nat, (((A k).take e).drop (goneF f e (G k)))[i]? = some y → ∃ g, a = some ⟨g, goneF f e (G k), none⟩ ∧ (fv (1 + 2 * k)).ownBlock = some g ∧ u'.cell? ⟨g, goneF f e (G k) + i, none⟩ = some (.int .i64 y)) ∧ WkIn X chans R base g0 gm ks A B (updF G k (goneG f e (G k))) seen st fv rv sv u' ∧ WkGo (Wb g0 gm fv rv sv) (Wb g0 gm fv rv sv) u u'
set_option maxHeartbeats 4000000 in
theorem fresh_none {X : Nat → Prop} {chans : List Int} {R : Array Value} {base g0 gm : Nat} {ks : List (Int × Int)} {A B : Nat → List Nat} {G : Nat → Nat} {seen : List Bool} {st : List Nat} {fv : Nat → Value} {rv sv : Value} {u : World} (h : WkIn X chans R base g0 gm ks A B G seen st fv rv sv u) {k gr cap : Nat} (hk : k < ks.length) (hrv : rv = .slice (some ⟨gr, 0, none⟩) ks.length cap) (va vb : Value) (x : Int) (j e : Nat) (hva : va.oneCell' = true) (hvb : vb.oneCell' = true) (hs : (A k).Pairwise (· < ·)) (hl : (A k).length ≤ 1000000) (hG : G k ≤ 1000000) (he : cntLt (A k) j = e) :
    Calls Try.prog 40 #[.pointer (some ⟨gr, k * 3, none⟩), .agg #[va, vb, .nilFunc], .int .i64 x, .int .i64 j] u (FreshE X chans R base g0 gm ks A B G seen st fv rv sv k 0 e u) := by
  obtain ⟨⟨aa, ac, hfa, hac, hra, ha0⟩, ab, bc, hfb, hrb⟩ := h.lists k
  obtain ⟨gr', cap', hrv', hgr, r0, r1, r2, rf⟩ := h.row hk
  rw [hrv] at hrv'; cases hrv'
  rw [hfa] at r0
  rw [hfb] at r1
  have hel : e ≤ (A k).length := by rw [← he]; exact cntLt_le _ _
  have HK := Lib.hid h
  have HRA := Lib.hid hra
  have HE := Lib.hid he
  have HS := Lib.hid hs
  have HRV := Lib.hid hrv
  have hec : e ≤ ac := by omega
  have rf2 := rf (k * 3 + 2)
  have hnil : ∀ u : World, (binOp BinOp.neq 48 .nilFunc .nilFunc).run Try.prog u = .ok (.bool false) u := fun _ => by kernel_rfl
  clear h hra hrb hs he rf ha0 hrv
  generalize hgk : G k = gk at *
  have HGK := Lib.hid hgk
  have h0g : decide ((0 : Int) ≤ (gk : Int)) = true := decide_eq_true (by omega)
  clear hgk
  have HFA := Lib.hid hfa
  clear hfa
  rcases Nat.lt_trichotomy gk e with hge | hge | hge
  · have HF1 : Hid (goneF 0 e gk = gk) := Lib.hid (by unfold goneF; rw [if_pos (Nat.zero_le _)]; omega)
    have HF2 : Hid (goneG 0 e gk = e) := Lib.hid (by unfold goneG; rw [if_pos (Nat.zero_le _)]; omega)
    have hge' : (gk : Int) < (e : Int) := by omega
    have hge'' : ¬ (e : Int) < (gk : Int) := by omega
    have hge3 : (gk : Int) ≤ (e : Int) := by omega
    obtain ⟨a', cf, hsl, hsa⟩ := slice_three aa (A k).length ac gk e (by omega) hec
    have HSA := Lib.hid hsa
    clear hsa
    go_enter Try.func40, Try.ntmps40
    go_upto_region 5 with (go_at_call 45; refine (below_any aa ac (A k) j _ ((HRA.out.below (below_box u _)).more (below_box u _).size) hl HS.out).mono ?_; rintro en w1 ⟨rfl, rfl⟩; rw [HE.out])
    generalize hU : World.alloc u _ = U
    have HU := Lib.hid (show Below u.heap.size u U by rw [← hU]; exact below_box _ _)
    have s0 := (HU.out.cell (p := ⟨gr, k * 3, none⟩) hgr).trans r0
    have s2 := (HU.out.cell (p := ⟨gr, k * 3 + 2, none⟩) hgr).trans r2
    have sf2 : U.frozen? ⟨gr, k * 3 + 2, none⟩ = false := (World.frozen?_of_block (a := ⟨gr, k * 3 + 2, none⟩) (HU.out.block _ hgr)).trans rf2
    clear hU r0 r1 r2 rf2
    go_still_tail 16, (by kernel_rfl)
    go_upto_region 6 with (fail)
    generalize hV : World.drew _ = V
    have HV : Hid (WkIn X chans R base g0 gm ks A B (updF G k (goneG 0 e gk)) seen st fv rv sv V ∧ WkGo (Wb g0 gm fv rv sv) (Wb g0 gm fv rv sv) u V) := Lib.hid (by
      rw [← hV, HF2.out]
      have hW := (HK.out.later HU.out).gone hk HRV.out e
      exact ⟨hW.1.later (Below.refl _ _).drew, (WkGo.ahead HU.out hW.2).below (Below.refl _ _).drew⟩)
    have t0 : V.cell? ⟨gr, k * 3, none⟩ = some (.slice aa (A k).length ac) := by
      obtain ⟨gr', cap', e1, _, q, _⟩ := HV.out.1.row hk
      rw [HRV.out] at e1; cases e1
      rw [q, HFA.out]
    clear hV s0 s2 sf2
    go_wp2_with fail
    go_ret
    exact ⟨a', cf, by rw [HGK.out, HF1.out]; first | rfl | (rw [Nat.sub_self]; rfl), fun i y hy => (by
      rw [HGK.out, HF1.out] at hy ⊢
      obtain ⟨g, q1, q2, q3⟩ := HV.out.1.part HFA.out _ _ i y hy
      have hlt := (List.getElem?_eq_some_iff.1 hy).1
      simp only [List.length_drop, List.length_take] at hlt
      exact ⟨g, HSA.out (by omega) g q1, q2, q3⟩), by rw [HGK.out]; exact HV.out.1, HV.out.2⟩
  · subst hge
    have HF1 : Hid (goneF 0 gk gk = gk) := Lib.hid (by unfold goneF; rw [if_pos (Nat.zero_le _)]; omega)
    have HF2 : Hid (goneG 0 gk gk = gk) := Lib.hid (by unfold goneG; rw [if_pos (Nat.zero_le _)]; omega)
    obtain ⟨a', cf, hsl, hsa⟩ := slice_three aa (A k).length ac gk gk (Nat.le_refl _) hec
    have HSA := Lib.hid hsa
    clear hsa
    go_enter Try.func40, Try.ntmps40
    go_upto_region 5 with (go_at_call 45; refine (below_any aa ac (A k) j _ ((HRA.out.below (below_box u _)).more (below_box u _).size) hl HS.out).mono ?_; rintro en w1 ⟨rfl, rfl⟩; rw [HE.out])
    generalize hU : World.alloc u _ = U
    have HU := Lib.hid (show Below u.heap.size u U by rw [← hU]; exact below_box _ _)
    have s0 := (HU.out.cell (p := ⟨gr, k * 3, none⟩) hgr).trans r0
    have s2 := (HU.out.cell (p := ⟨gr, k * 3 + 2, none⟩) hgr).trans r2
    have sf2 : U.frozen? ⟨gr, k * 3 + 2, none⟩ = false := (World.frozen?_of_block (a := ⟨gr, k * 3 + 2, none⟩) (HU.out.block _ hgr)).trans rf2
    clear hU r0 r1 r2 rf2
    go_still_tail 16, (by kernel_rfl)
    go_upto_region 6 with (fail)
    generalize hV : World.drew _ = V
    have HV : Hid (WkIn X chans R base g0 gm ks A B (updF G k (goneG 0 gk gk)) seen st fv rv sv V ∧ WkGo (Wb g0 gm fv rv sv) (Wb g0 gm fv rv sv) u V) := Lib.hid (by
      rw [← hV, HF2.out]
      have hW := (HK.out.later HU.out).gone hk HRV.out gk
      exact ⟨hW.1.later (Below.refl _ _).drew, (WkGo.ahead HU.out hW.2).below (Below.refl _ _).drew⟩)
    have t0 : V.cell? ⟨gr, k * 3, none⟩ = some (.slice aa (A k).length ac) := by
      obtain ⟨gr', cap', e1, _, q, _⟩ := HV.out.1.row hk
      rw [HRV.out] at e1; cases e1
      rw [q, HFA.out]
    clear hV s0 s2 sf2
    go_wp2_with fail
    go_ret
    exact ⟨a', cf, by rw [HGK.out, HF1.out]; first | rfl | (rw [Nat.sub_self]; rfl), fun i y hy => (by
      rw [HGK.out, HF1.out] at hy ⊢
      obtain ⟨g, q1, q2, q3⟩ := HV.out.1.part HFA.out _ _ i y hy
      have hlt := (List.getElem?_eq_some_iff.1 hy).1
      simp only [List.length_drop, List.length_take] at hlt
      exact ⟨g, HSA.out (by omega) g q1, q2, q3⟩), by rw [HGK.out]; exact HV.out.1, HV.out.2⟩
  · have HF1 : Hid (goneF 0 e gk = e) := Lib.hid (by unfold goneF; rw [if_pos (Nat.zero_le _)]; omega)
    have HF2 : Hid (goneG 0 e gk = gk) := Lib.hid (by unfold goneG; rw [if_pos (Nat.zero_le _)]; omega)
    have hge' : (e : Int) < (gk : Int) := by omega
    have hge'' : ¬ (gk : Int) < (e : Int) := by omega
    have hge3 : ¬ (gk : Int) ≤ (e : Int) := by omega
    obtain ⟨a', cf, hsl, hsa⟩ := slice_three aa (A k).length ac e e (Nat.le_refl _) hec
    have HSA := Lib.hid hsa
    clear hsa
    go_enter Try.func40, Try.ntmps40
    go_upto_region 5 with (go_at_call 45; refine (below_any aa ac (A k) j _ ((HRA.out.below (below_box u _)).more (below_box u _).size) hl HS.out).mono ?_; rintro en w1 ⟨rfl, rfl⟩; rw [HE.out])
    generalize hU : World.alloc u _ = U
    have HU := Lib.hid (show Below u.heap.size u U by rw [← hU]; exact below_box _ _)
    have s0 := (HU.out.cell (p := ⟨gr, k * 3, none⟩) hgr).trans r0
    have s2 := (HU.out.cell (p := ⟨gr, k * 3 + 2, none⟩) hgr).trans r2
    have sf2 : U.frozen? ⟨gr, k * 3 + 2, none⟩ = false := (World.frozen?_of_block (a := ⟨gr, k * 3 + 2, none⟩) (HU.out.block _ hgr)).trans rf2
    clear hU r0 r1 r2 rf2
    go_still_tail 16, (by kernel_rfl)
    go_upto_region 6 with (fail)
    generalize hV : World.drew _ = V
    have HV : Hid (WkIn X chans R base g0 gm ks A B (updF G k (goneG 0 e gk)) seen st fv rv sv V ∧ WkGo (Wb g0 gm fv rv sv) (Wb g0 gm fv rv sv) u V) := Lib.hid (by
      rw [← hV, HF2.out]
      have hW := (HK.out.later HU.out).gone hk HRV.out gk
      exact ⟨hW.1.later (Below.refl _ _).drew, (WkGo.ahead HU.out hW.2).below (Below.refl _ _).drew⟩)
    have t0 : V.cell? ⟨gr, k * 3, none⟩ = some (.slice aa (A k).length ac) := by
      obtain ⟨gr', cap', e1, _, q, _⟩ := HV.out.1.row hk
      rw [HRV.out] at e1; cases e1
      rw [q, HFA.out]
    clear hV s0 s2 sf2
    go_wp2_with fail
    go_ret
    exact ⟨a', cf, by rw [HGK.out, HF1.out]; first | rfl | (rw [Nat.sub_self]; rfl), fun i y hy => (by
      rw [HGK.out, HF1.out] at hy ⊢
      obtain ⟨g, q1, q2, q3⟩ := HV.out.1.part HFA.out _ _ i y hy
      have hlt := (List.getElem?_eq_some_iff.1 hy).1
      simp only [List.length_drop, List.length_take] at hlt
      exact ⟨g, HSA.out (by omega) g q1, q2, q3⟩), by rw [HGK.out]; exact HV.out.1, HV.out.2⟩
set_option maxHeartbeats 4000000 in
theorem fresh_some {X : Nat → Prop} {chans : List Int} {R : Array Value} {base g0 gm : Nat} {ks : List (Int × Int)} {A B : Nat → List Nat} {G : Nat → Nat} {seen : List Bool} {st : List Nat} {fv : Nat → Value} {rv sv : Value} {u : World} (h : WkIn X chans R base g0 gm ks A B G seen st fv rv sv u) {k gr cap : Nat} (hk : k < ks.length) (hrv : rv = .slice (some ⟨gr, 0, none⟩) ks.length cap) (va vb vw : Value) (wf : Wh) (x : Int) (j f e : Nat) (hva : va.oneCell' = true) (hvb : vb.oneCell' = true) (hww : WhV X u vw (some wf)) (hs : (A k).Pairwise (· < ·)) (hsB : (B k).Pairwise (· < ·)) (hlB : (B k).length ≤ 1000000) (hl : (A k).length ≤ 1000000) (hG : G k ≤ 1000000) (hwf : wf x (cntLt (A k) j) (cntLt (B k) j) = ((f : Int), (e : Int))) (hfe : f ≤ e) (hel : e ≤ (A k).length) :
    Calls Try.prog 40 #[.pointer (some ⟨gr, k * 3, none⟩), .agg #[va, vb, vw], .int .i64 x, .int .i64 j] u (FreshE X chans R base g0 gm ks A B G seen st fv rv sv k f e u) := by
  obtain ⟨fw, cw, rfl, hcfw, hSw⟩ := hww
  obtain ⟨⟨aa, ac, hfa, hac, hra, ha0⟩, ab, bc, hfb, hrb⟩ := h.lists k
  obtain ⟨gr', cap', hrv', hgr, r0, r1, r2, rf⟩ := h.row hk
  rw [hrv] at hrv'; cases hrv'
  rw [hfa] at r0
  rw [hfb] at r1
  have hcA := cntLt_le (A k) j
  have hcB := cntLt_le (B k) j
  generalize hcAe : cntLt (A k) j = cA at *
  generalize hcBe : cntLt (B k) j = cB at *
  have HCA := Lib.hid hcAe
  have HCB := Lib.hid hcBe
  have hW := fun u' (q : Below u.heap.size u u') => hSw u' (Touch.of_below q) x cA cB (by omega) (by omega)
  rw [hwf] at hW
  have HW := Lib.hid hW
  have HRB := Lib.hid hrb
  have HSB := Lib.hid hsB
  clear hW hSw hwf hcAe hcBe hsB
  have HK := Lib.hid h
  have HRA := Lib.hid hra
  have HS := Lib.hid hs
  have HRV := Lib.hid hrv
  have hec : e ≤ ac := by omega
  have rf2 := rf (k * 3 + 2)
  have hnil : ∀ u : World, (binOp BinOp.neq 48 (.func (.func fw) #[] cw) .nilFunc).run Try.prog u = .ok (.bool true) u := fun _ => by kernel_rfl
  clear h hra hrb hs rf ha0 hrv
  generalize hgk : G k = gk at *
  have HGK := Lib.hid hgk
  clear hgk
  have HFA := Lib.hid hfa
  clear hfa
  by_cases hfg : f ≤ gk
  · have hfg' : (f : Int) ≤ (gk : Int) := by omega
    rcases Nat.lt_trichotomy gk e with hge | hge | hge
    · have HF1 : Hid (goneF f e gk = gk) := Lib.hid (by unfold goneF; rw [if_pos hfg]; omega)
      have HF2 : Hid (goneG f e gk = e) := Lib.hid (by unfold goneG; rw [if_pos hfg]; omega)
      have hge' : (gk : Int) < (e : Int) := by omega
      have hge'' : ¬ (e : Int) < (gk : Int) := by omega
      have hge3 : (gk : Int) ≤ (e : Int) := by omega
      obtain ⟨a', cf, hsl, hsa⟩ := slice_three aa (A k).length ac gk e (by omega) hec
      have HSA := Lib.hid hsa
      clear hsa
      go_enter Try.func40, Try.ntmps40
      go_upto_region 1 with (fail)
      generalize hU : World.alloc u _ = U
      have hN := (congrArg (fun x : World => x.heap[u.heap.size]?) hU).symm.trans (heap_alloc_new _ _)
      have HU := Lib.hid (show Below u.heap.size u U by rw [← hU]; exact below_box _ _)
      obtain ⟨k0, k1, k2⟩ := box3 hN
      have s0 := (HU.out.cell (p := ⟨gr, k * 3, none⟩) hgr).trans r0
      have s1 := (HU.out.cell (p := ⟨gr, k * 3 + 1, none⟩) hgr).trans r1
      clear hU r0 r1 r2 hN
      go_upto_region 3 with (go_at_call 45; refine (below_any aa ac (A k) j _ ((HRA.out.below HU.out).more HU.out.size) hl HS.out).mono ?_; rintro en w1 ⟨rfl, rfl⟩; rw [HCA.out])
      have KU : U.drew.cell? ⟨u.heap.size, 2, none⟩ = some (.func (.func fw) #[] cw) ∧ U.drew.cell? ⟨gr, k * 3 + 1, none⟩ = some (.slice ab (B k).length bc) := ⟨k2, s1⟩
      clear k0 k1 k2 s0 s1
      go_region_held3 (fun u' => u'.cell? ⟨u.heap.size, 2, none⟩ = some (.func (.func fw) #[] cw) ∧ u'.cell? ⟨gr, k * 3 + 1, none⟩ = some (.slice ab (B k).length bc)) (first | with_reducible exact KU | with_reducible exact ⟨keepC hB2 KU.1, keepC hB2 KU.2⟩ | fail)
        (first
          | (go_at_call 45; refine (below_any ab bc (B k) j _ (((HRB.out.below HU.out).more HU.out.size).up (Below.refl U.heap.size U).drew) hlB HSB.out).mono ?_; rintro en w1 ⟨rfl, rfl⟩; rw [HCB.out])
          | (refine (HW.out _ HU.out.drew).mono ?_; rintro en w2 ⟨rfl, hB2⟩))
      have HV2 := Lib.hid (below_next HU.out.drew hB2)
      clear KU hB2 HU
      have HK2 := Lib.hid (HK.out.later HV2.out)
      obtain ⟨s0, s2, sf2⟩ : w2.cell? ⟨gr, k * 3, none⟩ = some (.slice aa (A k).length ac) ∧ w2.cell? ⟨gr, k * 3 + 2, none⟩ = some (.int .i64 gk) ∧ w2.frozen? ⟨gr, k * 3 + 2, none⟩ = false := by
        obtain ⟨gr', cap', e1, _, q1, _, q2, q3⟩ := HK2.out.row hk
        rw [HRV.out] at e1; cases e1
        exact ⟨q1.trans (by rw [HFA.out]), q2.trans (by rw [HGK.out]), q3 _⟩
      go_upto_region 5 with (fail)
      go_still_tail 16, (by kernel_rfl)
      go_upto_region 6 with (fail)
      generalize hV : World.drew _ = V
      have HV : Hid (WkIn X chans R base g0 gm ks A B (updF G k (goneG f e gk)) seen st fv rv sv V ∧ WkGo (Wb g0 gm fv rv sv) (Wb g0 gm fv rv sv) u V) := Lib.hid (by
        rw [← hV, HF2.out]
        have hW := HK2.out.gone hk HRV.out e
        exact ⟨hW.1.later (Below.refl _ _).drew, (WkGo.ahead HV2.out hW.2).below (Below.refl _ _).drew⟩)
      have t0 : V.cell? ⟨gr, k * 3, none⟩ = some (.slice aa (A k).length ac) := by
        obtain ⟨gr', cap', e1, _, q, _⟩ := HV.out.1.row hk
        rw [HRV.out] at e1; cases e1
        rw [q, HFA.out]
      clear hV s0 s2 sf2
      go_wp2_with fail
      go_ret
      exact ⟨a', cf, by rw [HGK.out, HF1.out]; first | rfl | (rw [Nat.sub_self]; rfl), fun i y hy => (by
        rw [HGK.out, HF1.out] at hy ⊢
        obtain ⟨g, q1, q2, q3⟩ := HV.out.1.part HFA.out _ _ i y hy
        have hlt := (List.getElem?_eq_some_iff.1 hy).1
        simp only [List.length_drop, List.length_take] at hlt
        exact ⟨g, HSA.out (by omega) g q1, q2, q3⟩), by rw [HGK.out]; exact HV.out.1, HV.out.2⟩
    · subst hge
      have HF1 : Hid (goneF f gk gk = gk) := Lib.hid (by unfold goneF; rw [if_pos hfg]; omega)
      have HF2 : Hid (goneG f gk gk = gk) := Lib.hid (by unfold goneG; rw [if_pos hfg]; omega)
      obtain ⟨a', cf, hsl, hsa⟩ := slice_three aa (A k).length ac gk gk (Nat.le_refl _) hec
      have HSA := Lib.hid hsa
      clear hsa
      go_enter Try.func40, Try.ntmps40
      go_upto_region 1 with (fail)
      generalize hU : World.alloc u _ = U
      have hN := (congrArg (fun x : World => x.heap[u.heap.size]?) hU).symm.trans (heap_alloc_new _ _)
      have HU := Lib.hid (show Below u.heap.size u U by rw [← hU]; exact below_box _ _)
      obtain ⟨k0, k1, k2⟩ := box3 hN
      have s0 := (HU.out.cell (p := ⟨gr, k * 3, none⟩) hgr).trans r0
      have s1 := (HU.out.cell (p := ⟨gr, k * 3 + 1, none⟩) hgr).trans r1
      clear hU r0 r1 r2 hN
      go_upto_region 3 with (go_at_call 45; refine (below_any aa ac (A k) j _ ((HRA.out.below HU.out).more HU.out.size) hl HS.out).mono ?_; rintro en w1 ⟨rfl, rfl⟩; rw [HCA.out])
      have KU : U.drew.cell? ⟨u.heap.size, 2, none⟩ = some (.func (.func fw) #[] cw) ∧ U.drew.cell? ⟨gr, k * 3 + 1, none⟩ = some (.slice ab (B k).length bc) := ⟨k2, s1⟩
      clear k0 k1 k2 s0 s1
      go_region_held3 (fun u' => u'.cell? ⟨u.heap.size, 2, none⟩ = some (.func (.func fw) #[] cw) ∧ u'.cell? ⟨gr, k * 3 + 1, none⟩ = some (.slice ab (B k).length bc)) (first | with_reducible exact KU | with_reducible exact ⟨keepC hB2 KU.1, keepC hB2 KU.2⟩ | fail)
        (first
          | (go_at_call 45; refine (below_any ab bc (B k) j _ (((HRB.out.below HU.out).more HU.out.size).up (Below.refl U.heap.size U).drew) hlB HSB.out).mono ?_; rintro en w1 ⟨rfl, rfl⟩; rw [HCB.out])
          | (refine (HW.out _ HU.out.drew).mono ?_; rintro en w2 ⟨rfl, hB2⟩))
      have HV2 := Lib.hid (below_next HU.out.drew hB2)
      clear KU hB2 HU
      have HK2 := Lib.hid (HK.out.later HV2.out)
      obtain ⟨s0, s2, sf2⟩ : w2.cell? ⟨gr, k * 3, none⟩ = some (.slice aa (A k).length ac) ∧ w2.cell? ⟨gr, k * 3 + 2, none⟩ = some (.int .i64 gk) ∧ w2.frozen? ⟨gr, k * 3 + 2, none⟩ = false := by
        obtain ⟨gr', cap', e1, _, q1, _, q2, q3⟩ := HK2.out.row hk
        rw [HRV.out] at e1; cases e1
        exact ⟨q1.trans (by rw [HFA.out]), q2.trans (by rw [HGK.out]), q3 _⟩
      go_upto_region 5 with (fail)
      go_still_tail 16, (by kernel_rfl)
      go_upto_region 6 with (fail)
      generalize hV : World.drew _ = V
      have HV : Hid (WkIn X chans R base g0 gm ks A B (updF G k (goneG f gk gk)) seen st fv rv sv V ∧ WkGo (Wb g0 gm fv rv sv) (Wb g0 gm fv rv sv) u V) := Lib.hid (by
        rw [← hV, HF2.out]
        have hW := HK2.out.gone hk HRV.out gk
        exact ⟨hW.1.later (Below.refl _ _).drew, (WkGo.ahead HV2.out hW.2).below (Below.refl _ _).drew⟩)
      have t0 : V.cell? ⟨gr, k * 3, none⟩ = some (.slice aa (A k).length ac) := by
        obtain ⟨gr', cap', e1, _, q, _⟩ := HV.out.1.row hk
        rw [HRV.out] at e1; cases e1
        rw [q, HFA.out]
      clear hV s0 s2 sf2
      go_wp2_with fail
      go_ret
      exact ⟨a', cf, by rw [HGK.out, HF1.out]; first | rfl | (rw [Nat.sub_self]; rfl), fun i y hy => (by
        rw [HGK.out, HF1.out] at hy ⊢
        obtain ⟨g, q1, q2, q3⟩ := HV.out.1.part HFA.out _ _ i y hy
        have hlt := (List.getElem?_eq_some_iff.1 hy).1
        simp only [List.length_drop, List.length_take] at hlt
        exact ⟨g, HSA.out (by omega) g q1, q2, q3⟩), by rw [HGK.out]; exact HV.out.1, HV.out.2⟩
    · have HF1 : Hid (goneF f e gk = e) := Lib.hid (by unfold goneF; rw [if_pos hfg]; omega)
      have HF2 : Hid (goneG f e gk = gk) := Lib.hid (by unfold goneG; rw [if_pos hfg]; omega)
      have hge' : (e : Int) < (gk : Int) := by omega
      have hge'' : ¬ (gk : Int) < (e : Int) := by omega
      have hge3 : ¬ (gk : Int) ≤ (e : Int) := by omega
      obtain ⟨a', cf, hsl, hsa⟩ := slice_three aa (A k).length ac e e (Nat.le_refl _) hec
      have HSA := Lib.hid hsa
      clear hsa
      go_enter Try.func40, Try.ntmps40
      go_upto_region 1 with (fail)
      generalize hU : World.alloc u _ = U
      have hN := (congrArg (fun x : World => x.heap[u.heap.size]?) hU).symm.trans (heap_alloc_new _ _)
      have HU := Lib.hid (show Below u.heap.size u U by rw [← hU]; exact below_box _ _)
      obtain ⟨k0, k1, k2⟩ := box3 hN
      have s0 := (HU.out.cell (p := ⟨gr, k * 3, none⟩) hgr).trans r0
      have s1 := (HU.out.cell (p := ⟨gr, k * 3 + 1, none⟩) hgr).trans r1
      clear hU r0 r1 r2 hN
      go_upto_region 3 with (go_at_call 45; refine (below_any aa ac (A k) j _ ((HRA.out.below HU.out).more HU.out.size) hl HS.out).mono ?_; rintro en w1 ⟨rfl, rfl⟩; rw [HCA.out])
      have KU : U.drew.cell? ⟨u.heap.size, 2, none⟩ = some (.func (.func fw) #[] cw) ∧ U.drew.cell? ⟨gr, k * 3 + 1, none⟩ = some (.slice ab (B k).length bc) := ⟨k2, s1⟩
      clear k0 k1 k2 s0 s1
      go_region_held3 (fun u' => u'.cell? ⟨u.heap.size, 2, none⟩ = some (.func (.func fw) #[] cw) ∧ u'.cell? ⟨gr, k * 3 + 1, none⟩ = some (.slice ab (B k).length bc)) (first | with_reducible exact KU | with_reducible exact ⟨keepC hB2 KU.1, keepC hB2 KU.2⟩ | fail)
        (first
          | (go_at_call 45; refine (below_any ab bc (B k) j _ (((HRB.out.below HU.out).more HU.out.size).up (Below.refl U.heap.size U).drew) hlB HSB.out).mono ?_; rintro en w1 ⟨rfl, rfl⟩; rw [HCB.out])
          | (refine (HW.out _ HU.out.drew).mono ?_; rintro en w2 ⟨rfl, hB2⟩))
      have HV2 := Lib.hid (below_next HU.out.drew hB2)
      clear KU hB2 HU
      have HK2 := Lib.hid (HK.out.later HV2.out)
      obtain ⟨s0, s2, sf2⟩ : w2.cell? ⟨gr, k * 3, none⟩ = some (.slice aa (A k).length ac) ∧ w2.cell? ⟨gr, k * 3 + 2, none⟩ = some (.int .i64 gk) ∧ w2.frozen? ⟨gr, k * 3 + 2, none⟩ = false := by
        obtain ⟨gr', cap', e1, _, q1, _, q2, q3⟩ := HK2.out.row hk
        rw [HRV.out] at e1; cases e1
        exact ⟨q1.trans (by rw [HFA.out]), q2.trans (by rw [HGK.out]), q3 _⟩
      go_upto_region 5 with (fail)
      go_still_tail 16, (by kernel_rfl)
      go_upto_region 6 with (fail)
      generalize hV : World.drew _ = V
      have HV : Hid (WkIn X chans R base g0 gm ks A B (updF G k (goneG f e gk)) seen st fv rv sv V ∧ WkGo (Wb g0 gm fv rv sv) (Wb g0 gm fv rv sv) u V) := Lib.hid (by
        rw [← hV, HF2.out]
        have hW := HK2.out.gone hk HRV.out gk
        exact ⟨hW.1.later (Below.refl _ _).drew, (WkGo.ahead HV2.out hW.2).below (Below.refl _ _).drew⟩)
      have t0 : V.cell? ⟨gr, k * 3, none⟩ = some (.slice aa (A k).length ac) := by
        obtain ⟨gr', cap', e1, _, q, _⟩ := HV.out.1.row hk
        rw [HRV.out] at e1; cases e1
        rw [q, HFA.out]
      clear hV s0 s2 sf2
      go_wp2_with fail
      go_ret
      exact ⟨a', cf, by rw [HGK.out, HF1.out]; first | rfl | (rw [Nat.sub_self]; rfl), fun i y hy => (by
        rw [HGK.out, HF1.out] at hy ⊢
        obtain ⟨g, q1, q2, q3⟩ := HV.out.1.part HFA.out _ _ i y hy
        have hlt := (List.getElem?_eq_some_iff.1 hy).1
        simp only [List.length_drop, List.length_take] at hlt
        exact ⟨g, HSA.out (by omega) g q1, q2, q3⟩), by rw [HGK.out]; exact HV.out.1, HV.out.2⟩
  · have hfg' : ¬ (f : Int) ≤ (gk : Int) := by omega
    have HF1 : Hid (goneF f e gk = f) := Lib.hid (by unfold goneF; rw [if_neg hfg])
    have HF2 : Hid (goneG f e gk = gk) := Lib.hid (by unfold goneG; rw [if_neg hfg])
    have hfe' : (f : Int) ≤ (e : Int) := by omega
    obtain ⟨a', cf, hsl, hsa⟩ := slice_three aa (A k).length ac f e hfe hec
    have HSA := Lib.hid hsa
    clear hsa
    go_enter Try.func40, Try.ntmps40
    go_upto_region 1 with (fail)
    generalize hU : World.alloc u _ = U
    have hN := (congrArg (fun x : World => x.heap[u.heap.size]?) hU).symm.trans (heap_alloc_new _ _)
    have HU := Lib.hid (show Below u.heap.size u U by rw [← hU]; exact below_box _ _)
    obtain ⟨k0, k1, k2⟩ := box3 hN
    have s0 := (HU.out.cell (p := ⟨gr, k * 3, none⟩) hgr).trans r0
    have s1 := (HU.out.cell (p := ⟨gr, k * 3 + 1, none⟩) hgr).trans r1
    clear hU r0 r1 r2 hN
    go_upto_region 3 with (go_at_call 45; refine (below_any aa ac (A k) j _ ((HRA.out.below HU.out).more HU.out.size) hl HS.out).mono ?_; rintro en w1 ⟨rfl, rfl⟩; rw [HCA.out])
    have KU : U.drew.cell? ⟨u.heap.size, 2, none⟩ = some (.func (.func fw) #[] cw) ∧ U.drew.cell? ⟨gr, k * 3 + 1, none⟩ = some (.slice ab (B k).length bc) := ⟨k2, s1⟩
    clear k0 k1 k2 s0 s1
    go_region_held3 (fun u' => u'.cell? ⟨u.heap.size, 2, none⟩ = some (.func (.func fw) #[] cw) ∧ u'.cell? ⟨gr, k * 3 + 1, none⟩ = some (.slice ab (B k).length bc)) (first | with_reducible exact KU | with_reducible exact ⟨keepC hB2 KU.1, keepC hB2 KU.2⟩ | fail)
      (first
        | (go_at_call 45; refine (below_any ab bc (B k) j _ (((HRB.out.below HU.out).more HU.out.size).up (Below.refl U.heap.size U).drew) hlB HSB.out).mono ?_; rintro en w1 ⟨rfl, rfl⟩; rw [HCB.out])
        | (refine (HW.out _ HU.out.drew).mono ?_; rintro en w2 ⟨rfl, hB2⟩))
    have HV2 := Lib.hid (below_next HU.out.drew hB2)
    clear KU hB2 HU
    have HK2 := Lib.hid (HK.out.later HV2.out)
    obtain ⟨s0, s2, sf2⟩ : w2.cell? ⟨gr, k * 3, none⟩ = some (.slice aa (A k).length ac) ∧ w2.cell? ⟨gr, k * 3 + 2, none⟩ = some (.int .i64 gk) ∧ w2.frozen? ⟨gr, k * 3 + 2, none⟩ = false := by
      obtain ⟨gr', cap', e1, _, q1, _, q2, q3⟩ := HK2.out.row hk
      rw [HRV.out] at e1; cases e1
      exact ⟨q1.trans (by rw [HFA.out]), q2.trans (by rw [HGK.out]), q3 _⟩
    go_upto_region 6 with (fail)
    generalize hV : w2 = V at *
    have HV : Hid (WkIn X chans R base g0 gm ks A B (updF G k (goneG f e gk)) seen st fv rv sv V ∧ WkGo (Wb g0 gm fv rv sv) (Wb g0 gm fv rv sv) u V) := Lib.hid (by
      rw [HF2.out]
      have : updF G k gk = G := by funext i; by_cases q : i = k; subst q; rw [updF_same, HGK.out]; rw [updF_ne _ _ q]
      rw [this]
      exact ⟨HK2.out, (WkGo.refl _ u).below HV2.out⟩)
    go_wp2_with fail
    go_ret
    exact ⟨a', cf, by rw [HGK.out, HF1.out]; first | rfl | (rw [Nat.sub_self]; rfl), fun i y hy => (by
      rw [HGK.out, HF1.out] at hy ⊢
      obtain ⟨g, q1, q2, q3⟩ := HV.out.1.part HFA.out _ _ i y hy
      have hlt := (List.getElem?_eq_some_iff.1 hy).1
      simp only [List.length_drop, List.length_take] at hlt
      exact ⟨g, HSA.out (by omega) g q1, q2, q3⟩), by rw [HGK.out]; exact HV.out.1, HV.out.2⟩
theorem fresh_any {X : Nat → Prop} {chans : List Int} {R : Array Value} {base g0 gm : Nat} {ks : List (Int × Int)} {A B : Nat → List Nat} {G : Nat → Nat} {seen : List Bool} {st : List Nat} {fv : Nat → Value} {rv sv : Value} {u : World} (h : WkIn X chans R base g0 gm ks A B G seen st fv rv sv u) {k gr cap : Nat} (hk : k < ks.length) (hrv : rv = .slice (some ⟨gr, 0, none⟩) ks.length cap) (va vb vw : Value) (o : Option Wh) (x : Int) (j f e : Nat) (hva : va.oneCell' = true) (hvb : vb.oneCell' = true) (hww : WhV X u vw o) (hs : (A k).Pairwise (· < ·)) (hl : (A k).length ≤ 1000000) (hB : o ≠ none → (B k).Pairwise (· < ·) ∧ (B k).length ≤ 1000000) (hG : G k ≤ 1000000) (hwf : whN o x (cntLt (A k) j) (cntLt (B k) j) = ((f : Int), (e : Int))) (hfe : f ≤ e) (hel : e ≤ (A k).length) :
    Calls Try.prog 40 #[.pointer (some ⟨gr, k * 3, none⟩), .agg #[va, vb, vw], .int .i64 x, .int .i64 j] u (FreshE X chans R base g0 gm ks A B G seen st fv rv sv k f e u) := by
  cases o with
  | none =>
    cases hww
    simp only [whN] at hwf
    have e1 : f = 0 := by have := congrArg Prod.fst hwf; simp only at this; omega
    have e2 : cntLt (A k) j = e := by have := congrArg Prod.snd hwf; simp only at this; omega
    subst e1
    exact fresh_none h hk hrv va vb x j e hva hvb hs hl hG e2
  | some w =>
    obtain ⟨b1, b2⟩ := hB (by simp)
    exact fresh_some h hk hrv va vb vw w x j f e hva hvb hww hs b1 b2 hl hG hwf hfe hel
end Go.Proofs.Ytkhhkjinlkpdlaa
