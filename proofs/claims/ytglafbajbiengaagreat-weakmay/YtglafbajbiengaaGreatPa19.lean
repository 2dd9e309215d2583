/- What the laws of this seat stand on, part 19. -/
import Derived.Test.YtglafbajbiengaaGreatPa0
import Derived.Test.YtglafbajbiengaaGreatPa16
import Derived.Test.YtglafbajbiengaaGreatPa17
import Derived.Test.YtglafbajbiengaaGreatPa18
set_option linter.unusedVariables false
set_option linter.unusedSimpArgs false
set_option maxRecDepth 100000
set_option maxHeartbeats 40000000
namespace Go.Proofs.YtglafbajbiengaaGreat
open Go.ChangeShapes Go.WideShapes Go.ChangeAt Go.RowKit Go.Maps
section
variable {X : Nat → Prop} {chans : List Int} {R : Array Value} {base g0 gm : Nat} {ks : List (Int × Int)} {A B : Nat → List Nat} {G : Nat → Nat} {seen : List Bool} {st : List Nat} {fv : Nat → Value} {rv sv : Value} {u u' : World}
theorem WkIn.seenAt (h : WkIn X chans R base g0 gm ks A B G seen st fv rv sv u) {i : Nat} {b : Bool} (hi : seen[i]? = some b) : ∃ gs cap, sv = .slice (some ⟨gs, 0, none⟩) seen.length cap ∧ u.cell? ⟨gs, i, none⟩ = some (.bool b) ∧ u.frozen? ⟨gs, i, none⟩ = false := by
  have hlt := (List.getElem?_eq_some_iff.1 hi).1
  rcases h.marks.2 with ⟨_, h0⟩ | ⟨g, cap, cur, rfl, hb, hh, hle, hcap, hsz, ht⟩
  · omega
  · refine ⟨g, cap, rfl, ?_, frozen_of_row _ _ _ _ _ hh⟩
    rw [cell_of_row _ _ _ _ _ _ hh]
    have e : (seen.map Value.bool)[i]? = some (.bool b) := by rw [List.getElem?_map, hi]; rfl
    rw [← ht, List.getElem?_take_of_lt (by omega)] at e
    simpa using e
theorem WkIn.stackOwn (h : WkIn X chans R base g0 gm ks A B G seen st fv rv sv u) : ∃ a cap, fv 0 = .slice a st.length cap ∧ u.ownsRow base 3 1 (.slice a st.length cap) st.length ((ofN st).map (.int .i64 ·)) := by
  have q := h.fam.row 0
  rw [show flW A B st 0 = ofN st from rfl, ofN_len] at q
  obtain ⟨a, cap, e⟩ := own_slice0 q
  rw [e] at q
  exact ⟨a, cap, e, q⟩
end
def FromI (X : Nat → Prop) (chans : List Int) (R : Array Value) (base g0 gm : Nat) (A B : Nat → List Nat) (sv : Value) (t : List EvD) (j n0 : Nat) (seen : List Bool) (st : List Nat) (u0 : World) (Z0 : Nat → Prop) (bE : Nat) (o : Obj) (q : Nat) (w : World) : Prop :=
  ∃ ks G seen' st' fv rv, WkIn X chans R base g0 gm ks A B G seen' st' fv rv sv w ∧ RowsOk chans t (fun _ => t.length) (fun _ => t.length) ks A B ∧ GoneOk ks.length A G seen' ∧ Marked (fun i => dirB chans t i j) seen st seen' st' ∧ (∀ (m : Nat) (r : RuD) (i : Nat), m < q → (rulesL chans)[m]? = some r → i < j → holdsB r t i j = true → seen'[i]? = some true) ∧ WkGo Z0 (Wb g0 gm fv rv sv) u0 w ∧ w.heap[bE]? = some o ∧ ¬ Wb g0 gm fv rv sv bE ∧ ks.length ≤ n0 + q
def FromJ (X : Nat → Prop) (chans : List Int) (R : Array Value) (base g0 gm : Nat) (ks : List (Int × Int)) (A B : Nat → List Nat) (G : Nat → Nat) (rv sv : Value) (t : List EvD) (j : Nat) (seen : List Bool) (st : List Nat) (u0 : World) (Z0 : Nat → Prop) (bE : Nat) (o : Obj) (fv2 : Nat → Value) (l : List Nat) (p : Nat) (w : World) : Prop :=
  ∃ seen' st' fv, WkIn X chans R base g0 gm ks A B G seen' st' fv rv sv w ∧ (∀ i, i ≠ 0 → fv i = fv2 i) ∧ Marked (fun i => dirB chans t i j) seen st seen' st' ∧ (∀ m i : Nat, m < p → l[m]? = some i → seen'[i]? = some true) ∧ WkGo Z0 (Wb g0 gm fv rv sv) u0 w ∧ w.heap[bE]? = some o ∧ ¬ Wb g0 gm fv rv sv bE
def FromE (X : Nat → Prop) (chans : List Int) (R : Array Value) (base g0 gm : Nat) (A B : Nat → List Nat) (sv : Value) (t : List EvD) (j n0 : Nat) (seen : List Bool) (st : List Nat) (u0 : World) (Z0 : Nat → Prop) (e : Ending) (w : World) : Prop :=
  e = .returned (.tuple #[]) ∧ ∃ ks G seen' st' fv rv, WkIn X chans R base g0 gm ks A B G seen' st' fv rv sv w ∧ RowsOk chans t (fun _ => t.length) (fun _ => t.length) ks A B ∧ GoneOk ks.length A G seen' ∧ Marked (fun i => dirB chans t i j) seen st seen' st' ∧ (∀ i, dirB chans t i j = true → seen'[i]? = some true) ∧ WkGo Z0 (Wb g0 gm fv rv sv) u0 w ∧ ks.length ≤ n0 + 10
theorem from_any {X : Nat → Prop} {chans : List Int} {R : Array Value} {base g0 gm : Nat} {ks : List (Int × Int)} {A B : Nat → List Nat} {G : Nat → Nat} {seen : List Bool} {st : List Nat} {fv : Nat → Value} {rv sv : Value} {u : World} (h : WkIn X chans R base g0 gm ks A B G seen st fv rv sv u) {t : List EvD} {j : Nat} {e : EvD} (hR : RowsOk chans t (fun _ => t.length) (fun _ => t.length) ks A B) (hg : GoneOk ks.length A G seen) (hsl : seen.length = t.length) (he : t[j]? = some e) (hW : EvW e) (hl : ks.length ≤ 100000) (htl : t.length ≤ 100000) (hst : st.length ≤ 100000) :
    Calls Tryz.prog 85 #[.pointer (some ⟨g0, 0, none⟩), .int .i64 j, e.v] u (FromE X chans R base g0 gm A B sv t j ks.length seen st u (Wb g0 gm fv rv sv)) := by
  obtain ⟨ti, hi0, iz0, iz1, iz2⟩ := info_parts info_intT
  have HK := Lib.hid h
  have HR0 := Lib.hid hR
  have HG0 := Lib.hid hg
  have HE := Lib.hid he
  have HW := Lib.hid hW
  clear h hR he hW hg
  obtain ⟨th, pc, op, obj, val, mode⟩ := e
  show Calls Tryz.prog 85 #[.pointer (some ⟨g0, 0, none⟩), .int .i64 j, evV th pc op obj val mode] u _
  go_enter Tryz.func85, Tryz.ntmps85
  go_upto_region 1 with (fail)
  generalize hU : World.alloc u _ = U
  have HNE : Hid (U.heap[u.heap.size]? = some (evOn th pc op obj val mode)) := Lib.hid (by rw [← hU]; exact heap_alloc_new _ _)
  have HU := Lib.hid (show Below u.heap.size u U by rw [← hU]; exact below_box _ _)
  have HI : Hid (FromI X chans R base g0 gm A B sv t j ks.length seen st u (Wb g0 gm fv rv sv) u.heap.size (evOn th pc op obj val mode) 0 U) := Lib.hid ⟨ks, G, seen, st, fv, rv, HK.out.later HU.out, HR0.out, HG0.out, Marked.refl _ _ _, fun m r i h => absurd h (by omega), (WkGo.refl _ u).below HU.out, HNE.out, HK.out.new, by omega⟩
  have HRs := HK.out.rules.size
  have hrange := (HK.out.later HU.out).range
  clear hU
  go_wp2_with (refine wpList_load_mid rfl 156 (.tmp 14) rfl g0 0 rfl R.toList _ hrange Tryz.underlying156 rfl (by rw [info_rules]; simp [HRs]) ?_)
  clear hrange
  go_loopw [16] (fun k w => ∃ q : Nat, q ≤ 10 ∧ k = .int .i64 q ∧ FromI X chans R base g0 gm A B sv t j ks.length seen st u (Wb g0 gm fv rv sv) u.heap.size (evOn th pc op obj val mode) q w) (fun k _ => 10 - (intOf k).toNat)
  case atStart => exact ⟨0, by omega, rfl, HI.out⟩
  case round =>
    obtain ⟨q, hq, rfl, ks1, G1, seen1, st1, fv1, rv1, hK, hR, hG, hM, hC, hgo, hbE, hnE, hln⟩ := hrel
    have HI := Lib.hid hK
    have HRo := Lib.hid hR
    have HGn := Lib.hid hG
    have HM := Lib.hid hM
    have HC := Lib.hid hC
    have HGo := Lib.hid hgo
    have HbE := Lib.hid hbE
    have HnE := Lib.hid hnE
    clear hK hR hG hM hC hgo hbE hnE HNE
    by_cases hlt : q < 10
    · obtain ⟨r, va, vb, vw, hr, hidx, hSa, hSb, hWw⟩ := rules_at HI.out.rules hlt
      have hone := (show va.oneCell' = true ∧ vb.oneCell' = true ∧ vw.oneCell' = true from ⟨side_one hSa, side_one hSb, wh_one hWw⟩)
      have hlt' : (q : Int) < 10 := by omega
      have hidx2 : ∀ (u : World), (Instr.index 156 (.agg R.toList.toArray) (.int .i64 q)).run Tryz.prog u = .ok (.agg #[va, vb, vw]) u := fun u => by rw [Array.toArray_toList]; exact hidx .i64 u
      obtain ⟨wfa, wfb⟩ := side_wf hr HW.out
      have HWw := Lib.hid hWw
      have HRr := Lib.hid hr
      have Hone := Lib.hid hone
      clear hSa hWw hr hone wfa
      obtain ⟨fb, cb, rfl, hcfb, hSb⟩ := hSb
      have hB := fun w (hw : Below wr.heap.size wr w) => hSb w (Touch.of_below hw) ⟨th, pc, op, obj, val, mode⟩
      have Hwfq : Wf (q : Int) := WalkArith.wf_i64 (by omega)
      rcases hsb : r.b ⟨th, pc, op, obj, val, mode⟩ with ⟨xb, isb⟩
      rw [hsb] at hB wfb
      have HB := Lib.hid hB
      have HSB := Lib.hid hsb
      clear hB hSb hsb
      go_upto_region 4 with (refine wpList_store_row rfl 155 (.tmp 7) (.tmp 19) rfl wr.heap.size #[va, .func (.func fb) #[] cb, vw] rfl rfl 155 _ (heap_alloc_new _ _) info_rule rfl (by have := Hone.out; simp [this.1, this.2.1, this.2.2]) ?_)
      generalize hV : World.setRow (World.alloc wr _) _ _ = V
      have hNV : V.heap[wr.heap.size]? = some (.cells #[va, .func (.func fb) #[] cb, vw] 155) := by rw [← hV]; exact setRow_heap _ _ _ _ _ _ (heap_alloc_new _ _)
      have HV := Lib.hid (show Below wr.heap.size wr V by rw [← hV]; exact below_row (below_box _ _) (Nat.le_refl _) _)
      obtain ⟨k0, k1, k2⟩ := box3 hNV
      have HNV := Lib.hid hNV
      clear hV hNV
      obtain ⟨e0, e1, e2, e3, e4, e5⟩ := cells6 (old_later HbE.out HV.out)
      go_upto_region 5 with (refine (HB.out _ HV.out).mono ?_; rintro e w1 ⟨rfl, hB1⟩; have HB1 := Lib.hid hB1; clear hB1)
      clear k0 k1 k2 e0 e1 e2 e3 e4 e5
      have HW1 := Lib.hid (below_next HV.out HB1.out)
      have HK1 := Lib.hid (HI.out.later HW1.out)
      have HG1 := Lib.hid (HGo.out.below HW1.out)
      have HNR := Lib.hid (old_later HNV.out HB1.out)
      have HbE1 := Lib.hid (old_later HbE.out HW1.out)
      have HnR : Hid (¬ Wb g0 gm fv1 rv1 sv wr.heap.size) := Lib.hid HI.out.new
      have HWw1 := Lib.hid (HWw.out.later HW1.out)
      clear HI HGo HV HB1 HNV HbE HB HWw
      rcases isb with _ | _
      · have HC1 : Hid (∀ (m : Nat) (r : RuD) (i : Nat), m < q + 1 → (rulesL chans)[m]? = some r → i < j → holdsB r t i j = true → seen1[i]? = some true) := Lib.hid (fun m r' i hm hr' hij hh => by
          rcases Nat.lt_or_ge m q with z | z
          · exact HC.out m r' i z hr' hij hh
          · obtain rfl : m = q := by omega
            have e1 := HRr.out
            rw [hr'] at e1; cases e1
            exfalso
            unfold holdsB at hh
            rw [HE.out] at hh
            rcases hti : t[i]? with _ | ei
            · rw [hti] at hh; cases hh
            · rw [hti] at hh
              simp [HSB.out] at hh)
        go_wp2_with fail
        go_roundw
        case rel => exact ⟨q + 1, by omega, by go_num, ks1, G1, seen1, st1, fv1, rv1, HK1.out, HRo.out, HGn.out, HM.out, HC1.out, HG1.out, HbE1.out, HnE.out, by omega⟩
        case measure => simp [intOf]; omega
      · go_upto_region 6 with (fail)
        obtain ⟨k0, k1, k2⟩ := box3 HNR.out
        have KU : w1.drew.cell? ⟨wr.heap.size, 0, none⟩ = some va ∧ w1.drew.cell? ⟨wr.heap.size, 1, none⟩ = some (.func (.func fb) #[] cb) ∧ w1.drew.cell? ⟨wr.heap.size, 2, none⟩ = some vw := ⟨k0, k1, k2⟩
        clear k0 k1 k2
        have HNRd : Hid (w1.drew.heap[wr.heap.size]? = some (.cells #[va, .func (.func fb) #[] cb, vw] 155)) := HNR
        have HK1d := Lib.hid (HK1.out.later (Below.refl w1.heap.size w1).drew)
        go_region_held3 (fun w => w.cell? ⟨wr.heap.size, 0, none⟩ = some va ∧ w.cell? ⟨wr.heap.size, 1, none⟩ = some (.func (.func fb) #[] cb) ∧ w.cell? ⟨wr.heap.size, 2, none⟩ = some vw) (first | with_reducible exact KU | with_reducible exact KR3 | with_reducible exact KR2 | fail)
          (first
            | (have _g := hgo2; go_at_call 116
               refine (fresh_any hK2 hkl2 hrv2 va (.func (.func fb) #[] cb) vw r.wh xb j f2 e2 Hone.out.1 Hone.out.2.1 hWw2 hpA (by omega) hpB hGb hwh hfe hel).mono ?_
               rintro en w3 ⟨fa, fc, rfl, hfr, hK3, hgo3⟩
               have KR3 := box3 (hgo3.keep hnR2.2 hnR2.1).1)
            | (go_at_call 115
               refine (row_any HK1d.out Hwfq wfb (by omega)).mono ?_
               rintro en w2 ⟨ks2, rv2, k2, gr, cap2, rfl, hks, hk2, hrv2, hK2, hgo2⟩
               have hnR2 := hgo2.keep HnR.out HNRd.out
               have KR2 := box3 hnR2.1
               have HRr2 : RowsOk chans t (fun _ => t.length) (fun _ => t.length) ks2 A B := by
                 rcases hks with rfl | ⟨hni, rfl⟩
                 · exact HRo.out
                 · exact HRo.out.row HRr.out hni (HK1d.out.nil _ (Nat.le_refl _)).2.2.1 (HK1d.out.nil _ (Nat.le_refl _)).2.2.2.1
               have hln2 : ks2.length ≤ ks.length + q + 1 ∧ GoneOk ks2.length A G1 seen1 := by
                 rcases hks with rfl | ⟨hni, rfl⟩
                 · exact ⟨by omega, HGn.out⟩
                 · refine ⟨by simp; omega, fun k hk => ?_⟩
                   by_cases z : k < ks1.length
                   · exact HGn.out k z
                   · obtain ⟨_, _, z1, _, z2⟩ := HK1d.out.nil k (by omega)
                     rw [z1, z2]; exact ⟨Nat.le_refl _, fun m i h => absurd h (by omega)⟩
               have hkl2 := (List.getElem?_eq_some_iff.1 hk2).1
               obtain ⟨m', r', em, hr', hA2, hB2⟩ := HRr2.at_ k2 _ _ hk2
               obtain rfl : q = m' := by omega
               obtain rfl : r = r' := by have := HRr.out; rw [hr'] at this; cases this; rfl
               rw [List.take_length] at hA2 hB2
               have hpA : (A k2).Pairwise (· < ·) := by rw [hA2]; exact plS_rise _ _ _ _
               have hlens := HRr2.lens hr' hk2
               have hpB : r.wh ≠ none → (B k2).Pairwise (· < ·) ∧ (B k2).length ≤ 1000000 := fun z => ⟨by rw [hB2 z]; exact plS_rise _ _ _ _, Nat.le_trans (hlens.2 z) (by omega)⟩
               have hGb : G1 k2 ≤ 1000000 := Nat.le_trans (hln2.2 k2 hkl2).1 (by omega)
               obtain ⟨f2, e2, hwh, hfe, hea⟩ := rules_wh hr' xb (cntLt (A k2) j) (cntLt (B k2) j)
               have hel : e2 ≤ (A k2).length := Nat.le_trans hea (cntLt_le _ _)
               have hWw2 : WhV X w2 vw r.wh := HWw1.out.touch (((Touch.of_below (Below.refl w1.heap.size w1).drew).trans (hgo2.toX HK1d.out) fun _ _ h => h))))
        have HFr := Lib.hid hfr
        have HK3 := Lib.hid hK3
        have HGO3 := Lib.hid (((HG1.out.below (Below.refl w1.heap.size w1).drew).trans hgo2).trans hgo3)
        have hE2 := hgo2.keep HnE.out (show w1.drew.heap[u.heap.size]? = some (evOn th pc op obj val mode) from HbE1.out)
        have HE3 := Lib.hid (hgo3.keep hE2.2 hE2.1)
        have HRr2 := Lib.hid HRr2
        have hln3 := hln2.1
        have HGn2 := Lib.hid hln2.2
        have HA2 := Lib.hid hA2
        have HB2 := Lib.hid hB2
        have HWH := Lib.hid hwh
        have Hea := Lib.hid hea
        have hsl1 := HM.out.len
        have hAl : (A k2).length ≤ 100000 := Nat.le_trans hlens.1 htl
        have he100 : e2 ≤ 100000 := Nat.le_trans hel hAl
        have HROW : Hid (∀ i, (i < j ∧ holdsB r t i j = true) ↔ ∃ m, (A k2)[m]? = some i ∧ f2 ≤ m ∧ m < e2) := Lib.hid (fun i => by
          have e1 : (r.b ⟨th, pc, op, obj, val, mode⟩).1 = xb := by rw [HSB.out]
          have h1 := holds_row (i := i) (f := f2) (e := e2) HE.out (r := r) (by rw [HSB.out]) (by
            rw [e1, ← HA2.out]
            rcases hw : r.wh with _ | w
            · have := HWH.out
              rw [hw] at this
              exact this
            · rw [← hw, ← HB2.out (by rw [hw]; simp)]; exact HWH.out) (by rw [e1, ← HA2.out]; exact Hea.out)
          rw [e1, ← HA2.out] at h1
          exact h1)
        clear hfr hK3 hgo2 hgo3 hK2 hks hE2 hln2 hA2 hB2 hwh hea hWw2 KU KR2 KR3 hnR2 HK1d HNRd HK1 HG1 HNR HnR HbE1 HnE HWw1 hGb hpB hpA HGn HRo hlens hr'
        obtain ⟨⟨aa, ac, hfa, _⟩, _⟩ := HK3.out.lists k2
        have HFA := Lib.hid hfa
        clear hfa
        generalize hm0 : goneF f2 e2 (G1 k2) = m0 at *
        have HM0 := Lib.hid hm0
        generalize hG2 : updF G1 k2 (goneG f2 e2 (G1 k2)) = G2 at *
        have HG2 := Lib.hid hG2
        generalize hll : ((A k2).take e2).drop m0 = l at *
        have HL := Lib.hid hll
        have hlen : l.length = e2 - m0 := by rw [← hll, List.length_drop, List.length_take]; omega
        clear hm0 hG2 hll
        have HJ : Hid (FromJ X chans R base g0 gm ks2 A B G2 rv2 sv t j seen1 st1 u (Wb g0 gm fv rv sv) u.heap.size (evOn th pc op obj val mode) fv1 l 0 w3) := Lib.hid ⟨seen1, st1, fv1, HK3.out, fun _ _ => rfl, Marked.refl _ _ _, fun m i h => absurd h (by omega), HGO3.out, HE3.out.1, HE3.out.2⟩
        have hcnt := HM.out.cnt
        have hcp : seen.countP (· == false) ≤ 100000 := Nat.le_trans List.countP_le_length (by omega)
        clear HK3 HGO3 HE3
        go_wp2_with fail
        go_loopw [38] (fun k w => ∃ p : Nat, p ≤ e2 - m0 ∧ k = .int .i64 p ∧ FromJ X chans R base g0 gm ks2 A B G2 rv2 sv t j seen1 st1 u (Wb g0 gm fv rv sv) u.heap.size (evOn th pc op obj val mode) fv1 l p w) (fun k _ => (e2 - m0) - (intOf k).toNat)
        case atStart => exact ⟨0, Nat.zero_le _, rfl, HJ.out⟩
        case round =>
          obtain ⟨p, hp, rfl, seen4, st4, fv4, hK, hfv, hM4, hl4, hgo, hbE, hnE⟩ := hrel
          have HK4 := Lib.hid hK
          have HFV := Lib.hid hfv
          have HM4 := Lib.hid hM4
          have HL4 := Lib.hid hl4
          have HGO4 := Lib.hid hgo
          have HbE4 := Lib.hid hbE
          have HnE4 := Lib.hid hnE
          have hcnt4 := hM4.cnt
          have hlen4 := hM4.len
          clear hK hfv hM4 hl4 hgo hbE hnE HJ
          by_cases hpl : p < e2 - m0
          · obtain ⟨i, hi⟩ := at_lt (l := l) (k := p) (by omega)
            have HLi := Lib.hid hi
            have hpl' : (p : Int) < ((e2 - m0 : Nat) : Int) := by omega
            have Hp1 := Lib.hid (show p + 1 ≤ e2 - m0 from hpl)
            have hmem : i ∈ A k2 := by
              have h1 := HL.out
              have h2 := List.mem_of_getElem? hi
              rw [← h1] at h2
              exact List.mem_of_mem_take (List.mem_of_mem_drop h2)
            have hit : i < t.length := by
              rw [HA2.out] at hmem
              obtain ⟨_, e', h1, _⟩ := (plS_mem _ _ _ _ _).1 hmem
              have := (List.getElem?_eq_some_iff.1 h1).1
              omega
            obtain ⟨g, rfl, hgb, _⟩ := HFr.out p i hi
            obtain ⟨g', _, hgb', hcl⟩ := HK4.out.part (by rw [HFV.out _ (by omega)]; exact HFA.out) e2 m0 p i (by rw [HL.out]; exact hi)
            rw [HFV.out _ (by omega), hgb] at hgb'
            cases hgb'
            obtain ⟨b, hb⟩ := at_lt (l := seen4) (k := i) (by omega)
            obtain ⟨gs, cs, hsv, hcb, hcf⟩ := HK4.out.seenAt hb
            have hi' : (i : Int) < (seen4.length : Int) := by omega
            obtain ⟨_, _, c32, c33, cf⟩ := HK4.out.cells
            rw [hsv] at c32
            have HSV := Lib.hid hsv
            have HBb := Lib.hid hb
            clear hi hmem hgb hsv hb
            rcases b with _ | _
            · go_upto_region 11 with (fail)
              generalize hW5 : World.setCell _ _ _ = W5
              have hP := HK4.out.mark (i := i) (by omega) HSV.out
              rw [hW5] at hP
              have HK5 := Lib.hid hP.1
              have HGO5 := Lib.hid (HGO4.out.trans hP.2)
              have HKE := Lib.hid (hP.2.keep HnE4.out HbE4.out)
              obtain ⟨_, _, _, d33, df⟩ := hP.1.cells
              have df33 := df 33
              obtain ⟨sa, sc, hfs, hso⟩ := hP.1.stackOwn
              rw [hfs] at d33
              have HSO := Lib.hid hso
              have HFS := Lib.hid hfs
              have hbs : base ≤ W5.heap.size := hP.1.fam.top
              have Hg0 := Lib.hid (hP.1.lt (.inl rfl)).1
              have Hn0 := Lib.hid ((hP.1.no g0 (.inl rfl)).1 0)
              clear hW5 hP c32 c33 cf hcb hcf hcl df hso hfs HK4 HGO4 HnE4 HbE4
              go_upto_region 12 with (first
                | (at_builtin; refine wpList_append_own_at _ rfl _ _ 23 rfl base 3 ti (.int .i64 0) 1 8 Tryz.underlying23 hi0 iz0 iz1 iz2 rfl (by decide) (.slice sa st4.length sc) st4.length ((ofN st4).map (.int .i64 ·)) rfl (own_later HSO.out (below_box W5 _)) ⟨W5.heap.size, 0, none⟩ 1 1 [.int .i64 i] rfl rfl (cell_one_i W5 _ _) (by simp [Value.oneCell']) (by unfold maxLen; omega) (by omega) (by simp; omega) ?_; intro v6 w6 hown6 hgrow6 _ hat6
                   have HT6 : Hid (Touch (fun z => (fv4 0).ownBlock = some z) W5 w6) := Lib.hid (by
                     rw [HFS.out]
                     exact (Touch.of_below (below_box W5 (.cells #[.int .i64 i] 3))).trans (Touch.grown (X := fun z => (Value.slice sa st4.length sc).ownBlock = some z) hgrow6 (fun k e => e)) (fun _ _ h => h))
                   have HW6 : Hid (Whr W5 v6 (fv4 0)) := Lib.hid (by
                     rw [HFS.out]
                     rcases hat6 with z | z
                     · exact .inl z
                     · exact .inr (.inr ⟨_, z, by simp⟩))
                   have HO6 := Lib.hid hown6
                   obtain ⟨g6, cap6, rfl⟩ := own_slice hown6 (by omega)
                   have hbk : w6.heap[g0]? = W5.heap[g0]? := HT6.out.block g0 Hg0.out Hn0.out
                   have x0 := (World.cell?_of_block (a := ⟨g0, 33, none⟩) hbk).trans d33
                   have xf0 := (World.frozen?_of_block (a := ⟨g0, 33, none⟩) hbk).trans df33
                   clear hown6 hgrow6 hat6 hbk d33))
              generalize hW7 : World.setCell _ _ _ = W7
              have hP := HK5.out.stack (l := st4 ++ [i]) HT6.out (by simpa [ofN] using HO6.out) HW6.out
              rw [hW7] at hP
              have HP := Lib.hid hP
              have HKE7 := Lib.hid (hP.2.keep HKE.out.2 HKE.out.1)
              have HD : Hid (dirB chans t i j = true) := Lib.hid (by
                have h1 := HLi.out
                rw [← HL.out, List.getElem?_drop, List.getElem?_take] at h1
                split at h1
                · rename_i hlt2
                  have hf2 : f2 ≤ m0 + p := by
                    rw [← HM0.out]; unfold goneF
                    have := Hp1.out
                    rw [← HM0.out] at this; unfold goneF at this
                    split <;> rename_i z
                    · rw [if_pos z] at this; omega
                    · omega
                  obtain ⟨h2, h3⟩ := (HROW.out i).2 ⟨m0 + p, h1, hf2, hlt2⟩
                  unfold dirB
                  rw [decide_eq_true h2, Bool.true_and]
                  exact List.any_eq_true.2 ⟨r, List.mem_of_getElem? HRr.out, h3⟩
                · cases h1)
              have HM7 := Lib.hid (HM4.out.trans (Marked.one (D := fun i => dirB chans t i j) (st := st4) HBb.out HD.out))
              have HL5 : Hid (∀ m i' : Nat, m < p + 1 → l[m]? = some i' → (seen4.set i true)[i']? = some true) := Lib.hid (fun m i' hm hi' => by
                rw [set_true (by omega)]
                rcases Nat.lt_or_ge m p with z | z
                · exact .inr (HL4.out m i' z hi')
                · obtain rfl : m = p := by omega
                  have := HLi.out
                  rw [hi'] at this; cases this
                  exact .inl rfl)
              clear hW7 hP x0 xf0
              go_wp2_with fail
              go_roundw
              case rel => exact ⟨p + 1, Hp1.out, by go_num, seen4.set i true, st4 ++ [i], _, HP.out.1, fun k hk => by rw [updF_ne _ _ hk]; exact HFV.out k hk, HM7.out, HL5.out, HGO5.out.trans HP.out.2, HKE7.out.1, HKE7.out.2⟩
              case measure => simp [intOf]; omega
            · have HL5 : Hid (∀ m i : Nat, m < p + 1 → l[m]? = some i → seen4[i]? = some true) := Lib.hid (fun m i' hm hi' => by
                rcases Nat.lt_or_ge m p with z | z
                · exact HL4.out m i' z hi'
                · obtain rfl : m = p := by omega
                  have := HLi.out
                  rw [hi'] at this; cases this
                  exact HBb.out)
              go_wp2_with fail
              go_roundw
              case rel => exact ⟨p + 1, Hp1.out, by go_num, seen4, st4, fv4, HK4.out, HFV.out, HM4.out, HL5.out, HGO4.out, HbE4.out, HnE4.out⟩
              case measure => simp [intOf]; omega
          · obtain rfl : p = e2 - m0 := by omega
            have hnx := (HGn2.out.up HM4.out.up).next hkl2 hel (fun p' i' hi' => by
              rw [HM0.out, HL.out] at hi'
              refine HL4.out p' i' ?_ hi'
              have := (List.getElem?_eq_some_iff.1 hi').1
              omega)
            rw [HG2.out] at hnx
            have HNX := Lib.hid hnx
            have HC5 : Hid (∀ (m : Nat) (r : RuD) (i : Nat), m < q + 1 → (rulesL chans)[m]? = some r → i < j → holdsB r t i j = true → seen4[i]? = some true) := Lib.hid (fun m r' i hm hr' hij hh => by
              rcases Nat.lt_or_ge m q with z | z
              · exact HM4.out.up i (HC.out m r' i z hr' hij hh)
              · obtain rfl : m = q := by omega
                have e1 := HRr.out
                rw [hr'] at e1; cases e1
                obtain ⟨n, h1, h2, h3⟩ := (HROW.out i).1 ⟨hij, hh⟩
                exact HNX.out.2 n i h2 h3 h1)
            have HM5 := Lib.hid (HM.out.trans HM4.out)
            clear hnx
            go_wp2_with fail
            go_roundw
            case rel => exact ⟨q + 1, by omega, by go_num, ks2, G2, seen4, st4, fv4, rv2, HK4.out, HRr2.out, HNX.out.1, HM5.out, HC5.out, HGO4.out, HbE4.out, HnE4.out, by omega⟩
            case measure => simp [intOf]; omega
    · obtain rfl : q = 10 := by omega
      have HCE : Hid (∀ i, dirB chans t i j = true → seen1[i]? = some true) := Lib.hid (fun i hd => by
        unfold dirB at hd
        rw [Bool.and_eq_true, List.any_eq_true] at hd
        obtain ⟨h1, r, h2, h3⟩ := hd
        obtain ⟨m, hm⟩ := List.getElem?_of_mem h2
        exact HC.out m r i (rules_lt hm) hm (of_decide_eq_true h1) h3)
      go_wp2_with fail
      go_end0
      exact ⟨rfl, ks1, G1, seen1, st1, fv1, rv1, HI.out, HRo.out, HGn.out, HM.out, HCE.out, HGo.out, hln⟩
end Go.Proofs.YtglafbajbiengaaGreat
namespace Go.Proofs.YtglafbajbiengaaGreat
/-- How many have not come up. -/
def leftN (n : Nat) (listed : Array Bool) : Nat := ((List.range n).filter fun i => !(listed.getD i true)).length
theorem left_set {listed : Array Bool} {i : Nat} (hs : i < listed.size) (hf : listed.getD i true = false) : ∀ n, i < n → leftN n (listed.setIfInBounds i true) + 1 = leftN n listed := by
  intro n
  induction n with
  | zero => intro h; omega
  | succ n ih =>
    intro h
    unfold leftN
    rw [List.range_succ, List.filter_append, List.filter_append, List.length_append, List.length_append]
    by_cases e : i = n
    · subst e
      have e1 : (List.range i).filter (fun t => !((listed.setIfInBounds i true).getD t true)) = (List.range i).filter fun t => !(listed.getD t true) := by
        apply List.filter_congr
        intro t ht
        have ht := List.mem_range.1 ht
        simp only [Array.getD_eq_getD_getElem?]
        rw [Array.getElem?_setIfInBounds_ne (by omega)]
      rw [e1]
      have e2 : (listed.setIfInBounds i true).getD i true = true := by
        rw [Array.getD_eq_getD_getElem?, Array.getElem?_setIfInBounds_self, if_pos hs]; rfl
      simp only [List.filter_cons, List.filter_nil, hf, e2, Bool.not_true, Bool.not_false, if_true, Bool.false_eq_true, if_false, List.length_cons, List.length_nil]
    · have := ih (by omega)
      unfold leftN at this
      have e2 : (listed.setIfInBounds i true).getD n true = listed.getD n true := by
        simp only [Array.getD_eq_getD_getElem?]
        rw [Array.getElem?_setIfInBounds_ne e]
      simp only [List.filter_cons, List.filter_nil, e2]
      omega
/-- Whatever comes up next keeps J; where nothing is left J is enough. -/
theorem wpAny_inv {P : Program} {ops : Array Oper} {Q : Exit → Act → World → Prop} {md : Region.Mode} (J : Array Bool → Act → World → Prop) (hsz : ∀ listed a w, J listed a w → listed.size = ops.size)
    (hstep : ∀ listed a w i, J listed a w → i ∈ Region.ready md ops listed → wpOp P ops Q i (fun a' w' => J (listed.setIfInBounds i true) a' w') a w)
    (hdone : ∀ listed a w, J listed a w → Region.ready md ops listed = [] → Q .normal a w) :
    ∀ fuel listed a w, J listed a w → leftN ops.size listed ≤ fuel → wpAny P md ops Q fuel listed a w := by
  intro fuel
  induction fuel with
  | zero =>
    intro listed a w hJ hf
    have hr : Region.ready md ops listed = [] := by
      rw [List.eq_nil_iff_forall_not_mem]
      intro i hi
      obtain ⟨h1, o, ho, _⟩ := mem_ready.1 hi
      have hlt := (Array.getElem?_eq_some_iff.1 ho).1
      have := left_set (by rw [hsz _ _ _ hJ]; exact hlt) h1 ops.size hlt
      omega
    exact ⟨hr, hdone _ _ _ hJ hr⟩
  | succ fuel ih =>
    intro listed a w hJ hf
    refine ⟨hdone _ _ _ hJ, fun i hi => ?_⟩
    obtain ⟨h1, o, ho, _⟩ := mem_ready.1 hi
    have hlt := (Array.getElem?_eq_some_iff.1 ho).1
    have hl := left_set (by rw [hsz _ _ _ hJ]; exact hlt) h1 ops.size hlt
    exact wpOp_mono (fun a' w' h => ih _ _ _ h (by omega)) (hstep _ _ _ _ hJ hi)
/-- An operation that yields a value. -/
theorem wpOp_val {P : Program} {ops : Array Oper} {Q : Exit → Act → World → Prop} {i : Nat} {o : Oper} {K : Act → World → Prop} {a : Act} {w w' : World} {v : Value} (ho : ops[i]? = some o) (hg : o.guard = none) (hr : (execOp a.eval o).run P w = .ok (.value v) w') (h : K (a.put o.dst v) w') : wpOp P ops Q i K a w := by
  have hw : Region.wanted o (yielded ops a.tmps) = true := by simp [Region.wanted, hg]
  unfold wpOp
  simp only [ho, hw, if_true, Oper.wp, hr, Oper.upon]
  exact .inl h
/-- What lies in the slots, as a function. -/
def actF (N : Nat) (D : List Deferred) (f : Nat → Value) : Act := ⟨((List.range N).map f).toArray, D⟩
def putF (f : Nat → Value) (d : Option Nat) (v : Value) : Nat → Value := fun t => if d = some t then v else f t
theorem putF_ne {f : Nat → Value} {d : Option Nat} {v : Value} {t : Nat} (h : d ≠ some t) : putF f d v t = f t := by simp [putF, h]
theorem putF_same {f : Nat → Value} {v : Value} {t : Nat} : putF f (some t) v t = v := by simp [putF]
theorem actF_get {N : Nat} {D : List Deferred} {f : Nat → Value} {t : Nat} (h : t < N) : (actF N D f).tmps[t]?.getD undef = f t := by
  simp [actF, h]
theorem actF_put {N : Nat} {D : List Deferred} {f : Nat → Value} {d : Option Nat} {v : Value} : (actF N D f).put d v = actF N D (putF f d v) := by
  cases d with
  | none =>
    have : putF f none v = f := by funext t; simp [putF]
    rw [this]; rfl
  | some d =>
    unfold actF Act.put
    simp only
    congr 1
    apply Array.ext_getElem?
    intro t
    rw [Array.getElem?_setIfInBounds]
    simp only [List.getElem?_toArray, List.getElem?_map, List.size_toArray, List.length_map, List.length_range]
    by_cases e : d = t
    · subst e
      by_cases h : d < N
      · simp [h, putF]
      · simp [h]
    · rw [if_neg e]
      by_cases h : t < N
      · simp [h, putF, e]
      · simp [h]
theorem actF_of (a : Act) (N : Nat) (h : a.tmps.size = N) : a = actF N a.defers (fun t => a.tmps.getD t undef) := by
  subst h
  cases a with
  | mk tmps defers =>
    unfold actF
    congr 1
    apply Array.ext_getElem?
    intro t
    simp only [List.getElem?_toArray, List.getElem?_map]
    by_cases h : t < tmps.size
    · simp [h, Array.getD_eq_getD_getElem?]
    · simp [h]
/-- Every operation waits for earlier ones alone. -/
def afterOk (md : Region.Mode) (ops : Array Oper) : Bool := (List.range ops.size).all fun i => ((ops[i]?).map fun o => o.after.all fun e => !Region.binds md e || decide (e.on < i)).getD true
def upL (L : Nat → Bool) (i : Nat) : Nat → Bool := fun j => if j = i then true else L j
theorem upL_same (L : Nat → Bool) (i : Nat) : upL L i i = true := by simp [upL]
theorem upL_ne (L : Nat → Bool) {i j : Nat} (h : j ≠ i) : upL L i j = L j := by simp [upL, h]
/-- Whatever comes up next keeps Inv. -/
theorem wpAny_fam {P : Program} {ops : Array Oper} {Q : Exit → Act → World → Prop} {md : Region.Mode} {N : Nat} {D : List Deferred} (hok : afterOk md ops = true) (Inv : (Nat → Bool) → (Nat → Value) → World → Prop) {f0 : Nat → Value} {w : World} (h0 : Inv (fun i => decide (ops.size ≤ i)) f0 w)
    (hstep : ∀ L f w i o, ops[i]? = some o → L i = false → (∀ e ∈ o.after, Region.binds md e = true → L e.on = true) → Inv L f w → wpOp P ops Q i (fun a' w' => ∃ f', a' = actF N D f' ∧ Inv (upL L i) f' w') (actF N D f) w)
    (hdone : ∀ f w, Inv (fun _ => true) f w → Q .normal (actF N D f) w) :
    wpAny P md ops Q ops.size (Array.replicate ops.size false) (actF N D f0) w := by
  refine wpAny_inv (fun listed a w => listed.size = ops.size ∧ ∃ f, a = actF N D f ∧ Inv (fun i => listed.getD i true) f w) (fun listed a w h => h.1) ?_ ?_ ops.size _ _ _ ⟨by simp, f0, rfl, ?_⟩ ?_
  · rintro listed a w i ⟨hs, f, rfl, hI⟩ hi
    obtain ⟨h1, o, ho, h2⟩ := mem_ready.1 hi
    have hlt := (Array.getElem?_eq_some_iff.1 ho).1
    refine wpOp_mono ?_ (hstep _ f w i o ho h1 (fun e he hb => ?_) hI)
    · rintro a' w' ⟨f', rfl, hI'⟩
      refine ⟨by simpa using hs, f', rfl, ?_⟩
      have : (fun j => (listed.setIfInBounds i true).getD j true) = upL (fun j => listed.getD j true) i := by
        funext j
        simp only [Array.getD_eq_getD_getElem?]
        by_cases e : j = i
        · subst e
          rw [upL_same, Array.getElem?_setIfInBounds_self]
          split <;> rfl
        · rw [upL_ne _ e, Array.getElem?_setIfInBounds_ne (Ne.symm e)]
      rw [this]; exact hI'
    · have := h2 e he hb
      simp only [Array.getD_eq_getD_getElem?] at this ⊢
      rcases hq : listed[e.on]? with _ | b
      · rfl
      · rw [hq] at this; exact this
  · rintro listed a w ⟨hs, f, rfl, hI⟩ hr
    have hall : ∀ n i, i < n → listed.getD i true = true := by
      intro n
      induction n with
      | zero => intro i h; omega
      | succ n ih =>
        intro i h
        rcases Nat.lt_or_ge i n with q | q
        · exact ih i q
        · obtain rfl : i = n := by omega
          by_cases hlt : i < ops.size
          · rcases hq : listed.getD i true with _ | _
            · exfalso
              have : i ∈ Region.ready md ops listed := by
                refine mem_ready.2 ⟨hq, ops[i], by simp [hlt], fun e he hb => ?_⟩
                have h3 := List.all_eq_true.1 hok i (List.mem_range.2 hlt)
                simp only [hlt, getElem?_pos, Option.map_some, Option.getD_some, Array.all_eq_true_iff_forall_mem, Bool.or_eq_true, Bool.not_eq_true', decide_eq_true_eq] at h3
                have h3 : ∀ e, e ∈ ops[i].after → Region.binds md e = true → e.on < i := fun e he hb => (h3 e he).resolve_left (by rw [hb]; simp)
                have h4 := ih e.on (h3 e he hb)
                have h5 : e.on < listed.size := by have := h3 e he hb; omega
                simp only [Array.getD_eq_getD_getElem?, h5, getElem?_pos, Option.getD_some] at h4 ⊢
                exact h4
              rw [hr] at this
              cases this
            · rfl
          · simp [Array.getD_eq_getD_getElem?, Array.getElem?_eq_none (show listed.size ≤ i by omega)]
    have : (fun i => listed.getD i true) = fun _ => true := by
      funext i
      exact hall (i + 1) i (by omega)
    rw [this] at hI
    exact hdone f w hI
  · have : (fun i => (Array.replicate ops.size false).getD i true) = fun i => decide (ops.size ≤ i) := by
      funext i
      by_cases h : i < ops.size
      · simp [Array.getD_eq_getD_getElem?, h]
      · simp [Array.getD_eq_getD_getElem?, h]; omega
    rw [this]; exact h0
  · unfold leftN
    refine Nat.le_trans (List.length_filter_le _ _) (by simp)
theorem wpOp_fam {P : Program} {ops : Array Oper} {Q : Exit → Act → World → Prop} {N : Nat} {D : List Deferred} {Inv : (Nat → Bool) → (Nat → Value) → World → Prop} {L : Nat → Bool} {f : Nat → Value} {w w' : World} {i : Nat} {o : Oper} {v : Value} (ho : ops[i]? = some o) (hg : o.guard = none) (hr : (execOp (actF N D f).eval o).run P w = .ok (.value v) w') (h : Inv (upL L i) (putF f o.dst v) w') :
    wpOp P ops Q i (fun a' w' => ∃ f', a' = actF N D f' ∧ Inv (upL L i) f' w') (actF N D f) w :=
  wpOp_val ho hg hr ⟨_, actF_put, h⟩
theorem wpOp_fam_call {P : Program} {ops : Array Oper} {Q : Exit → Act → World → Prop} {N : Nat} {D : List Deferred} {Inv : (Nat → Bool) → (Nat → Value) → World → Prop} {L : Nat → Bool} {f : Nat → Value} {w w' : World} {i : Nat} {o : Oper} {fn : FuncId} {args : Array Value} (ho : ops[i]? = some o) (hg : o.guard = none) (hr : (execOp (actF N D f).eval o).run P w = .ok (.enter fn args) w') (h : Calls P fn args w' fun e w'' => ∃ v, e = .returned v ∧ Inv (upL L i) (putF f o.dst v) w'') :
    wpOp P ops Q i (fun a' w' => ∃ f', a' = actF N D f' ∧ Inv (upL L i) f' w') (actF N D f) w := by
  have hw : Region.wanted o (yielded ops (actF N D f).tmps) = true := by simp [Region.wanted, hg]
  unfold wpOp
  simp only [ho, hw, if_true, Oper.wp, hr, Oper.upon]
  refine .inl (h.mono ?_)
  rintro e w'' ⟨v, rfl, hI⟩
  exact ⟨_, actF_put, hI⟩
/-- The same of the region itself. -/
theorem wp_region_fam {P : Program} {ops : Array Oper} {Q : Exit → Act → World → Prop} {id : Nat} {a : Act} {w : World} (hm : P.follows .mixedOrders = true) (N : Nat) (hN : a.tmps.size = N) (D : List Deferred) (hD : a.defers = D) (hok : afterOk .any ops = true) (Inv : (Nat → Bool) → (Nat → Value) → World → Prop) (h0 : Inv (fun i => decide (ops.size ≤ i)) (fun t => a.tmps.getD t undef) { w with drawn := w.drawn + 1 })
    (hstep : ∀ L f w i o, ops[i]? = some o → L i = false → (∀ e ∈ o.after, Region.binds .any e = true → L e.on = true) → Inv L f w → wpOp P ops Q i (fun a' w' => ∃ f', a' = actF N D f' ∧ Inv (upL L i) f' w') (actF N D f) w)
    (hdone : ∀ f w, Inv (fun _ => true) f w → Q .normal (actF N D f) w) : (Code.region id ops true).wp P Q a w := by
  subst hD
  refine wp_region_any hm ?_
  have h := wpAny_fam (P := P) (ops := ops) (Q := Q) (md := .any) (N := N) (D := a.defers) hok Inv h0 hstep hdone
  rw [← actF_of a N hN] at h
  exact h
/-- The same, where Inv knows what lay in the slots ahead. -/
theorem wp_region_famK {P : Program} {ops : Array Oper} {Q : Exit → Act → World → Prop} {id : Nat} {a : Act} {w : World} (hm : P.follows .mixedOrders = true) (N : Nat) (hN : a.tmps.size = N) (D : List Deferred) (hD : a.defers = D) (hok : afterOk .any ops = true) (Inv : (Nat → Value) → (Nat → Bool) → (Nat → Value) → World → Prop) (h0 : Inv (fun t => a.tmps.getD t undef) (fun i => decide (ops.size ≤ i)) (fun t => a.tmps.getD t undef) { w with drawn := w.drawn + 1 })
    (hstep : ∀ L f w i o, ops[i]? = some o → L i = false → (∀ e ∈ o.after, Region.binds .any e = true → L e.on = true) → Inv (fun t => a.tmps.getD t undef) L f w → wpOp P ops Q i (fun a' w' => ∃ f', a' = actF N D f' ∧ Inv (fun t => a.tmps.getD t undef) (upL L i) f' w') (actF N D f) w)
    (hdone : ∀ f w, Inv (fun t => a.tmps.getD t undef) (fun _ => true) f w → Q .normal (actF N D f) w) : (Code.region id ops true).wp P Q a w :=
  wp_region_fam hm N hN D hD hok (Inv (fun t => a.tmps.getD t undef)) h0 hstep hdone
/-- All slots but some are as they were. -/
theorem actF_puts (a : Act) (N : Nat) (hN : a.tmps.size = N) (f : Nat → Value) (l : List Nat) (keep : ∀ t, t < N → t ∉ l → f t = a.tmps.getD t undef) : actF N a.defers f = l.foldl (fun b t => b.put (some t) (f t)) a := by
  have key : ∀ (l : List Nat) (b : Act), b.tmps.size = N → b.defers = a.defers → (l.foldl (fun b t => b.put (some t) (f t)) b).tmps.size = N ∧ (l.foldl (fun b t => b.put (some t) (f t)) b).defers = a.defers ∧ ∀ t, t < N → (l.foldl (fun b t => b.put (some t) (f t)) b).tmps[t]? = if t ∈ l then some (f t) else b.tmps[t]? := by
    intro l
    induction l with
    | nil => intro b h1 h2; exact ⟨h1, h2, fun t ht => by simp⟩
    | cons x l ih =>
      intro b h1 h2
      obtain ⟨i1, i2, i3⟩ := ih (b.put (some x) (f x)) (by simpa [Act.put] using h1) (by simpa [Act.put] using h2)
      refine ⟨i1, i2, fun t ht => (i3 t ht).trans ?_⟩
      by_cases e : t ∈ l
      · rw [if_pos e, if_pos (List.mem_cons_of_mem _ e)]
      · rw [if_neg e]
        by_cases e2 : t = x
        · subst e2
          rw [if_pos (List.mem_cons_self ..)]
          show (b.tmps.setIfInBounds t (f t))[t]? = _
          rw [Array.getElem?_setIfInBounds_self_of_lt (by omega)]
        · rw [if_neg (by simp [e, e2])]
          show (b.tmps.setIfInBounds x (f x))[t]? = _
          rw [Array.getElem?_setIfInBounds_ne (Ne.symm e2)]
  obtain ⟨h1, h2, h3⟩ := key l a hN rfl
  generalize l.foldl (fun b t => b.put (some t) (f t)) a = c at *
  have hc : c = ⟨c.tmps, a.defers⟩ := by rw [← h2]
  rw [hc]
  unfold actF
  congr 1
  apply Array.ext_getElem?
  intro t
  by_cases ht : t < N
  · rw [h3 t ht]
    simp only [List.getElem?_toArray, List.getElem?_map]
    rw [List.getElem?_range ht]
    by_cases e : t ∈ l
    · rw [if_pos e]; rfl
    · rw [if_neg e, Option.map_some, keep t ht e]
      have hta : t < a.tmps.size := by omega
      simp [Array.getD_eq_getD_getElem?, hta]
  · rw [Array.getElem?_eq_none (by simp; omega), Array.getElem?_eq_none (by omega)]
theorem dep_of {o : Oper} {md : Region.Mode} {L : Nat → Bool} (h : ∀ e ∈ o.after, Region.binds md e = true → L e.on = true) (j : Nat) (hj : (o.after.any fun e => e.on == j && Region.binds md e) = true) : L j = true := by
  rw [← Array.any_toList, List.any_eq_true] at hj
  obtain ⟨e, he, h1⟩ := hj
  have he := Array.mem_toList_iff.1 he
  simp only [Bool.and_eq_true, beq_iff_eq] at h1
  rw [← h1.1]
  exact h e he h1.2
end Go.Proofs.YtglafbajbiengaaGreat
