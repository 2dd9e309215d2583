/- order's from: what is directly ahead is marked, and put on the stack. -/
import Derived.Test.YtkhhkjinlkpdlaaOrderFresh
import Derived.Test.YtkhhkjinlkpdlaaOrderFromM
import Derived.Test.YtkhhkjinlkpdlaaOrderNote
namespace Go.Proofs.Ytkhhkjinlkpdlaa
set_option linter.unusedVariables false
set_option linter.unusedSimpArgs false
set_option maxRecDepth 100000
open Go.ChangeShapes Go.WideShapes Go.ChangeAt Go.RowKit Go.Maps

section
variable {X : Nat → Prop} {chans : List Int} {R : Array Value} {base g0 gm : Nat} {ks : List (Int × Int)} {A B : Nat → List Nat} {G : Nat → Nat} {seen : List Bool} {st : List Nat} {fv : Nat → Value} {rv sv : Value} {u u' : World}
theorem WkIn.seenAt (h : WkIn X chans R base g0 gm ks A B G seen st fv rv sv u) {i : Nat} {b : Bool} (hi : seen[i]? = some b) : ∃ gs cap, sv = .slice (some ⟨gs, 0, none⟩) seen.length cap ∧ u.cell? ⟨gs, i, none⟩ = some (.bool b) ∧ u.frozen? ⟨gs, i, none⟩ = false := by
  have hlt := (List.getElem?_eq_some_iff.1 hi).1
  rcases h.marks.2 with ⟨_, h0⟩ | ⟨g, cap, cur, rfl, hb, hh, hle, hcap, hsz, ht⟩
  · omega
  · refine ⟨g, cap, rfl, ?_, frozen_of_row _ _ _ _ _ hh⟩
    rw [cell_of_row _ _ _ _ _ _ hh]
    have e : (seen.map Value.bool)[i]? = some (.bool b) := by rw [List.getElem?_map, hi]; rfl
    rw [← ht, List.getElem?_take_of_lt (by omega)] at e
    simpa using e
theorem WkIn.stackOwn (h : WkIn X chans R base g0 gm ks A B G seen st fv rv sv u) : ∃ a cap, fv 0 = .slice a st.length cap ∧ u.ownsRow base 3 1 (.slice a st.length cap) st.length ((ofN st).map (.int .i64 ·)) := by
  have q := h.fam.row 0
  rw [show flW A B st 0 = ofN st from rfl, ofN_len] at q
  obtain ⟨a, cap, e⟩ := own_slice0 q
  rw [e] at q
  exact ⟨a, cap, e, q⟩
end
def FromI (X : Nat → Prop) (chans : List Int) (R : Array Value) (base g0 gm : Nat) (A B : Nat → List Nat) (sv : Value) (t : List EvD) (j n0 : Nat) (seen : List Bool) (st : List Nat) (u0 : World) (Z0 : Nat → Prop) (bE : Nat) (o : Obj) (q : Nat) (w : World) : Prop :=
  ∃ ks G seen' st' fv rv, WkIn X chans R base g0 gm ks A B G seen' st' fv rv sv w ∧ RowsOk chans t (fun _ => t.length) (fun _ => t.length) ks A B ∧ GoneOk ks.length A G seen' ∧ Marked (fun i => dirB chans t i j) seen st seen' st' ∧ (∀ (m : Nat) (r : RuD) (i : Nat), m < q → (rulesL chans)[m]? = some r → i < j → holdsB r t i j = true → seen'[i]? = some true) ∧ WkGo Z0 (Wb g0 gm fv rv sv) u0 w ∧ w.heap[bE]? = some o ∧ ¬ Wb g0 gm fv rv sv bE ∧ ks.length ≤ n0 + q
def FromJ (X : Nat → Prop) (chans : List Int) (R : Array Value) (base g0 gm : Nat) (ks : List (Int × Int)) (A B : Nat → List Nat) (G : Nat → Nat) (rv sv : Value) (t : List EvD) (j : Nat) (seen : List Bool) (st : List Nat) (u0 : World) (Z0 : Nat → Prop) (bE : Nat) (o : Obj) (fv2 : Nat → Value) (l : List Nat) (p : Nat) (w : World) : Prop :=
  ∃ seen' st' fv, WkIn X chans R base g0 gm ks A B G seen' st' fv rv sv w ∧ (∀ i, i ≠ 0 → fv i = fv2 i) ∧ Marked (fun i => dirB chans t i j) seen st seen' st' ∧ (∀ m i : Nat, m < p → l[m]? = some i → seen'[i]? = some true) ∧ WkGo Z0 (Wb g0 gm fv rv sv) u0 w ∧ w.heap[bE]? = some o ∧ ¬ Wb g0 gm fv rv sv bE
def FromE (X : Nat → Prop) (chans : List Int) (R : Array Value) (base g0 gm : Nat) (A B : Nat → List Nat) (sv : Value) (t : List EvD) (j n0 : Nat) (seen : List Bool) (st : List Nat) (u0 : World) (Z0 : Nat → Prop) (e : Ending) (w : World) : Prop :=
  e = .returned (.tuple #[]) ∧ ∃ ks G seen' st' fv rv, WkIn X chans R base g0 gm ks A B G seen' st' fv rv sv w ∧ RowsOk chans t (fun _ => t.length) (fun _ => t.length) ks A B ∧ GoneOk ks.length A G seen' ∧ Marked (fun i => dirB chans t i j) seen st seen' st' ∧ (∀ i, dirB chans t i j = true → seen'[i]? = some true) ∧ WkGo Z0 (Wb g0 gm fv rv sv) u0 w ∧ ks.length ≤ n0 + 10
set_option maxHeartbeats 8000000 in
theorem from_any {X : Nat → Prop} {chans : List Int} {R : Array Value} {base g0 gm : Nat} {ks : List (Int × Int)} {A B : Nat → List Nat} {G : Nat → Nat} {seen : List Bool} {st : List Nat} {fv : Nat → Value} {rv sv : Value} {u : World} (h : WkIn X chans R base g0 gm ks A B G seen st fv rv sv u) {t : List EvD} {j : Nat} {e : EvD} (hR : RowsOk chans t (fun _ => t.length) (fun _ => t.length) ks A B) (hg : GoneOk ks.length A G seen) (hsl : seen.length = t.length) (he : t[j]? = some e) (hW : EvW e) (hl : ks.length ≤ 100000) (htl : t.length ≤ 100000) (hst : st.length ≤ 100000) :
    Calls Try.prog 29 #[.pointer (some ⟨g0, 0, none⟩), .int .i64 j, e.v] u (FromE X chans R base g0 gm A B sv t j ks.length seen st u (Wb g0 gm fv rv sv)) := by
  obtain ⟨ti, hi0, iz0, iz1, iz2⟩ := info_parts info_intT
  have HK := Lib.hid h
  have HR0 := Lib.hid hR
  have HG0 := Lib.hid hg
  have HE := Lib.hid he
  have HW := Lib.hid hW
  clear h hR he hW hg
  obtain ⟨th, pc, op, obj, val, mode⟩ := e
  show Calls Try.prog 29 #[.pointer (some ⟨g0, 0, none⟩), .int .i64 j, evV th pc op obj val mode] u _
  go_enter Try.func29, Try.ntmps29
  go_upto_region 1 with (fail)
  generalize hU : World.alloc u _ = U
  have HNE : Hid (U.heap[u.heap.size]? = some (evO th pc op obj val mode)) := Lib.hid (by rw [← hU]; exact heap_alloc_new _ _)
  have HU := Lib.hid (show Below u.heap.size u U by rw [← hU]; exact below_box _ _)
  have HI : Hid (FromI X chans R base g0 gm A B sv t j ks.length seen st u (Wb g0 gm fv rv sv) u.heap.size (evO th pc op obj val mode) 0 U) := Lib.hid ⟨ks, G, seen, st, fv, rv, HK.out.later HU.out, HR0.out, HG0.out, Marked.refl _ _ _, fun m r i h => absurd h (by omega), (WkGo.refl _ u).below HU.out, HNE.out, HK.out.new, by omega⟩
  have HRs := HK.out.rules.size
  have hrange := (HK.out.later HU.out).range
  clear hU
  go_wp2_with (refine wpList_load_mid rfl 51 (.tmp 14) rfl g0 0 rfl R.toList _ hrange Try.underlying51 rfl (by rw [info_rules]; simp [HRs]) ?_)
  clear hrange
  go_loopw [16] (fun k w => ∃ q : Nat, q ≤ 10 ∧ k = .int .i64 q ∧ FromI X chans R base g0 gm A B sv t j ks.length seen st u (Wb g0 gm fv rv sv) u.heap.size (evO th pc op obj val mode) q w) (fun k _ => 10 - (intOf k).toNat)
  case atStart => exact ⟨0, by omega, rfl, HI.out⟩
  case round =>
    obtain ⟨q, hq, rfl, ks1, G1, seen1, st1, fv1, rv1, hK, hR, hG, hM, hC, hgo, hbE, hnE, hln⟩ := hrel
    have HI := Lib.hid hK
    have HRo := Lib.hid hR
    have HGn := Lib.hid hG
    have HM := Lib.hid hM
    have HC := Lib.hid hC
    have HGo := Lib.hid hgo
    have HbE := Lib.hid hbE
    have HnE := Lib.hid hnE
    clear hK hR hG hM hC hgo hbE hnE HNE
    by_cases hlt : q < 10
    · obtain ⟨r, va, vb, vw, hr, hidx, hSa, hSb, hWw⟩ := rules_at HI.out.rules hlt
      have hone := (show va.oneCell' = true ∧ vb.oneCell' = true ∧ vw.oneCell' = true from ⟨side_one hSa, side_one hSb, wh_one hWw⟩)
      have hlt' : (q : Int) < 10 := by omega
      have hidx2 : ∀ (u : World), (Instr.index 51 (.agg R.toList.toArray) (.int .i64 q)).run Try.prog u = .ok (.agg #[va, vb, vw]) u := fun u => by rw [Array.toArray_toList]; exact hidx .i64 u
      obtain ⟨wfa, wfb⟩ := side_wf hr HW.out
      have HWw := Lib.hid hWw
      have HRr := Lib.hid hr
      have Hone := Lib.hid hone
      clear hSa hWw hr hone wfa
      obtain ⟨fb, cb, rfl, hcfb, hSb⟩ := hSb
      have hB := fun w (hw : Below wr.heap.size wr w) => hSb w (Touch.of_below hw) ⟨th, pc, op, obj, val, mode⟩
      have Hwfq : Wf (q : Int) := WalkArith.wf_i64 (by omega)
      rcases hsb : r.b ⟨th, pc, op, obj, val, mode⟩ with ⟨xb, isb⟩
      rw [hsb] at hB wfb
      have HB := Lib.hid hB
      have HSB := Lib.hid hsb
      clear hB hSb hsb
      go_upto_region 4 with (refine wpList_store_row rfl 50 (.tmp 7) (.tmp 19) rfl wr.heap.size #[va, .func (.func fb) #[] cb, vw] rfl rfl 50 _ (heap_alloc_new _ _) info_rule rfl (by have := Hone.out; simp [this.1, this.2.1, this.2.2]) ?_)
      generalize hV : World.setRow (World.alloc wr _) _ _ = V
      have hNV : V.heap[wr.heap.size]? = some (.cells #[va, .func (.func fb) #[] cb, vw] 50) := by rw [← hV]; exact setRow_heap _ _ _ _ _ _ (heap_alloc_new _ _)
      have HV := Lib.hid (show Below wr.heap.size wr V by rw [← hV]; exact below_row (below_box _ _) (Nat.le_refl _) _)
      obtain ⟨k0, k1, k2⟩ := box3 hNV
      have HNV := Lib.hid hNV
      clear hV hNV
      obtain ⟨e0, e1, e2, e3, e4, e5⟩ := cells6 (old_later HbE.out HV.out)
      go_upto_region 5 with (refine (HB.out _ HV.out).mono ?_; rintro e w1 ⟨rfl, hB1⟩; have HB1 := Lib.hid hB1; clear hB1)
      clear k0 k1 k2 e0 e1 e2 e3 e4 e5
      have HW1 := Lib.hid (below_next HV.out HB1.out)
      have HK1 := Lib.hid (HI.out.later HW1.out)
      have HG1 := Lib.hid (HGo.out.below HW1.out)
      have HNR := Lib.hid (old_later HNV.out HB1.out)
      have HbE1 := Lib.hid (old_later HbE.out HW1.out)
      have HnR : Hid (¬ Wb g0 gm fv1 rv1 sv wr.heap.size) := Lib.hid HI.out.new
      have HWw1 := Lib.hid (HWw.out.later HW1.out)
      clear HI HGo HV HB1 HNV HbE HB HWw
      rcases isb with _ | _
      · have HC1 : Hid (∀ (m : Nat) (r : RuD) (i : Nat), m < q + 1 → (rulesL chans)[m]? = some r → i < j → holdsB r t i j = true → seen1[i]? = some true) := Lib.hid (fun m r' i hm hr' hij hh => by
          rcases Nat.lt_or_ge m q with z | z
          · exact HC.out m r' i z hr' hij hh
          · obtain rfl : m = q := by omega
            have e1 := HRr.out
            rw [hr'] at e1; cases e1
            exfalso
            unfold holdsB at hh
            rw [HE.out] at hh
            rcases hti : t[i]? with _ | ei
            · rw [hti] at hh; cases hh
            · rw [hti] at hh
              simp [HSB.out] at hh)
        go_wp2_with fail
        go_roundw
        case rel => exact ⟨q + 1, by omega, by go_num, ks1, G1, seen1, st1, fv1, rv1, HK1.out, HRo.out, HGn.out, HM.out, HC1.out, HG1.out, HbE1.out, HnE.out, by omega⟩
        case measure => simp [intOf]; omega
      · go_upto_region 6 with (fail)
        obtain ⟨k0, k1, k2⟩ := box3 HNR.out
        have KU : w1.drew.cell? ⟨wr.heap.size, 0, none⟩ = some va ∧ w1.drew.cell? ⟨wr.heap.size, 1, none⟩ = some (.func (.func fb) #[] cb) ∧ w1.drew.cell? ⟨wr.heap.size, 2, none⟩ = some vw := ⟨k0, k1, k2⟩
        clear k0 k1 k2
        have HNRd : Hid (w1.drew.heap[wr.heap.size]? = some (.cells #[va, .func (.func fb) #[] cb, vw] 50)) := HNR
        have HK1d := Lib.hid (HK1.out.later (Below.refl w1.heap.size w1).drew)
        go_region_held3 (fun w => w.cell? ⟨wr.heap.size, 0, none⟩ = some va ∧ w.cell? ⟨wr.heap.size, 1, none⟩ = some (.func (.func fb) #[] cb) ∧ w.cell? ⟨wr.heap.size, 2, none⟩ = some vw) (first | with_reducible exact KU | with_reducible exact KR3 | with_reducible exact KR2 | fail)
          (first
            | (have _g := hgo2; go_at_call 40
               refine (fresh_any hK2 hkl2 hrv2 va (.func (.func fb) #[] cb) vw r.wh xb j f2 e2 Hone.out.1 Hone.out.2.1 hWw2 hpA (by omega) hpB hGb hwh hfe hel).mono ?_
               rintro en w3 ⟨fa, fc, rfl, hfr, hK3, hgo3⟩
               have KR3 := box3 (hgo3.keep hnR2.2 hnR2.1).1)
            | (go_at_call 39
               refine (row_any HK1d.out Hwfq wfb (by omega)).mono ?_
               rintro en w2 ⟨ks2, rv2, k2, gr, cap2, rfl, hks, hk2, hrv2, hK2, hgo2⟩
               have hnR2 := hgo2.keep HnR.out HNRd.out
               have KR2 := box3 hnR2.1
               have HRr2 : RowsOk chans t (fun _ => t.length) (fun _ => t.length) ks2 A B := by
                 rcases hks with rfl | ⟨hni, rfl⟩
                 · exact HRo.out
                 · exact HRo.out.row HRr.out hni (HK1d.out.nil _ (Nat.le_refl _)).2.2.1 (HK1d.out.nil _ (Nat.le_refl _)).2.2.2.1
               have hln2 : ks2.length ≤ ks.length + q + 1 ∧ GoneOk ks2.length A G1 seen1 := by
                 rcases hks with rfl | ⟨hni, rfl⟩
                 · exact ⟨by omega, HGn.out⟩
                 · refine ⟨by simp; omega, fun k hk => ?_⟩
                   by_cases z : k < ks1.length
                   · exact HGn.out k z
                   · obtain ⟨_, _, z1, _, z2⟩ := HK1d.out.nil k (by omega)
                     rw [z1, z2]; exact ⟨Nat.le_refl _, fun m i h => absurd h (by omega)⟩
               have hkl2 := (List.getElem?_eq_some_iff.1 hk2).1
               obtain ⟨m', r', em, hr', hA2, hB2⟩ := HRr2.at_ k2 _ _ hk2
               obtain rfl : q = m' := by omega
               obtain rfl : r = r' := by have := HRr.out; rw [hr'] at this; cases this; rfl
               rw [List.take_length] at hA2 hB2
               have hpA : (A k2).Pairwise (· < ·) := by rw [hA2]; exact plS_rise _ _ _ _
               have hlens := HRr2.lens hr' hk2
               have hpB : r.wh ≠ none → (B k2).Pairwise (· < ·) ∧ (B k2).length ≤ 1000000 := fun z => ⟨by rw [hB2 z]; exact plS_rise _ _ _ _, Nat.le_trans (hlens.2 z) (by omega)⟩
               have hGb : G1 k2 ≤ 1000000 := Nat.le_trans (hln2.2 k2 hkl2).1 (by omega)
               obtain ⟨f2, e2, hwh, hfe, hea⟩ := rules_wh hr' xb (cntLt (A k2) j) (cntLt (B k2) j)
               have hel : e2 ≤ (A k2).length := Nat.le_trans hea (cntLt_le _ _)
               have hWw2 : WhV X w2 vw r.wh := HWw1.out.touch (((Touch.of_below (Below.refl w1.heap.size w1).drew).trans (hgo2.toX HK1d.out) fun _ _ h => h))))
        have HFr := Lib.hid hfr
        have HK3 := Lib.hid hK3
        have HGO3 := Lib.hid (((HG1.out.below (Below.refl w1.heap.size w1).drew).trans hgo2).trans hgo3)
        have hE2 := hgo2.keep HnE.out (show w1.drew.heap[u.heap.size]? = some (evO th pc op obj val mode) from HbE1.out)
        have HE3 := Lib.hid (hgo3.keep hE2.2 hE2.1)
        have HRr2 := Lib.hid HRr2
        have hln3 := hln2.1
        have HGn2 := Lib.hid hln2.2
        have HA2 := Lib.hid hA2
        have HB2 := Lib.hid hB2
        have HWH := Lib.hid hwh
        have Hea := Lib.hid hea
        have hsl1 := HM.out.len
        have hAl : (A k2).length ≤ 100000 := Nat.le_trans hlens.1 htl
        have he100 : e2 ≤ 100000 := Nat.le_trans hel hAl
        have HROW : Hid (∀ i, (i < j ∧ holdsB r t i j = true) ↔ ∃ m, (A k2)[m]? = some i ∧ f2 ≤ m ∧ m < e2) := Lib.hid (fun i => by
          have e1 : (r.b ⟨th, pc, op, obj, val, mode⟩).1 = xb := by rw [HSB.out]
          have h1 := holds_row (i := i) (f := f2) (e := e2) HE.out (r := r) (by rw [HSB.out]) (by
            rw [e1, ← HA2.out]
            rcases hw : r.wh with _ | w
            · have := HWH.out
              rw [hw] at this
              exact this
            · rw [← hw, ← HB2.out (by rw [hw]; simp)]; exact HWH.out) (by rw [e1, ← HA2.out]; exact Hea.out)
          rw [e1, ← HA2.out] at h1
          exact h1)
        clear hfr hK3 hgo2 hgo3 hK2 hks hE2 hln2 hA2 hB2 hwh hea hWw2 KU KR2 KR3 hnR2 HK1d HNRd HK1 HG1 HNR HnR HbE1 HnE HWw1 hGb hpB hpA HGn HRo hlens hr'
        obtain ⟨⟨aa, ac, hfa, _⟩, _⟩ := HK3.out.lists k2
        have HFA := Lib.hid hfa
        clear hfa
        generalize hm0 : goneF f2 e2 (G1 k2) = m0 at *
        have HM0 := Lib.hid hm0
        generalize hG2 : updF G1 k2 (goneG f2 e2 (G1 k2)) = G2 at *
        have HG2 := Lib.hid hG2
        generalize hll : ((A k2).take e2).drop m0 = l at *
        have HL := Lib.hid hll
        have hlen : l.length = e2 - m0 := by rw [← hll, List.length_drop, List.length_take]; omega
        clear hm0 hG2 hll
        have HJ : Hid (FromJ X chans R base g0 gm ks2 A B G2 rv2 sv t j seen1 st1 u (Wb g0 gm fv rv sv) u.heap.size (evO th pc op obj val mode) fv1 l 0 w3) := Lib.hid ⟨seen1, st1, fv1, HK3.out, fun _ _ => rfl, Marked.refl _ _ _, fun m i h => absurd h (by omega), HGO3.out, HE3.out.1, HE3.out.2⟩
        have hcnt := HM.out.cnt
        have hcp : seen.countP (· == false) ≤ 100000 := Nat.le_trans List.countP_le_length (by omega)
        clear HK3 HGO3 HE3
        go_wp2_with fail
        go_loopw [38] (fun k w => ∃ p : Nat, p ≤ e2 - m0 ∧ k = .int .i64 p ∧ FromJ X chans R base g0 gm ks2 A B G2 rv2 sv t j seen1 st1 u (Wb g0 gm fv rv sv) u.heap.size (evO th pc op obj val mode) fv1 l p w) (fun k _ => (e2 - m0) - (intOf k).toNat)
        case atStart => exact ⟨0, Nat.zero_le _, rfl, HJ.out⟩
        case round =>
          obtain ⟨p, hp, rfl, seen4, st4, fv4, hK, hfv, hM4, hl4, hgo, hbE, hnE⟩ := hrel
          have HK4 := Lib.hid hK
          have HFV := Lib.hid hfv
          have HM4 := Lib.hid hM4
          have HL4 := Lib.hid hl4
          have HGO4 := Lib.hid hgo
          have HbE4 := Lib.hid hbE
          have HnE4 := Lib.hid hnE
          have hcnt4 := hM4.cnt
          have hlen4 := hM4.len
          clear hK hfv hM4 hl4 hgo hbE hnE HJ
          by_cases hpl : p < e2 - m0
          · obtain ⟨i, hi⟩ := at_lt (l := l) (k := p) (by omega)
            have HLi := Lib.hid hi
            have hpl' : (p : Int) < ((e2 - m0 : Nat) : Int) := by omega
            have Hp1 := Lib.hid (show p + 1 ≤ e2 - m0 from hpl)
            have hmem : i ∈ A k2 := by
              have h1 := HL.out
              have h2 := List.mem_of_getElem? hi
              rw [← h1] at h2
              exact List.mem_of_mem_take (List.mem_of_mem_drop h2)
            have hit : i < t.length := by
              rw [HA2.out] at hmem
              obtain ⟨_, e', h1, _⟩ := (plS_mem _ _ _ _ _).1 hmem
              have := (List.getElem?_eq_some_iff.1 h1).1
              omega
            obtain ⟨g, rfl, hgb, _⟩ := HFr.out p i hi
            obtain ⟨g', _, hgb', hcl⟩ := HK4.out.part (by rw [HFV.out _ (by omega)]; exact HFA.out) e2 m0 p i (by rw [HL.out]; exact hi)
            rw [HFV.out _ (by omega), hgb] at hgb'
            cases hgb'
            obtain ⟨b, hb⟩ := at_lt (l := seen4) (k := i) (by omega)
            obtain ⟨gs, cs, hsv, hcb, hcf⟩ := HK4.out.seenAt hb
            have hi' : (i : Int) < (seen4.length : Int) := by omega
            obtain ⟨_, _, c32, c33, cf⟩ := HK4.out.cells
            rw [hsv] at c32
            have HSV := Lib.hid hsv
            have HBb := Lib.hid hb
            clear hi hmem hgb hsv hb
            rcases b with _ | _
            · go_upto_region 11 with (fail)
              generalize hW5 : World.setCell _ _ _ = W5
              have hP := HK4.out.mark (i := i) (by omega) HSV.out
              rw [hW5] at hP
              have HK5 := Lib.hid hP.1
              have HGO5 := Lib.hid (HGO4.out.trans hP.2)
              have HKE := Lib.hid (hP.2.keep HnE4.out HbE4.out)
              obtain ⟨_, _, _, d33, df⟩ := hP.1.cells
              have df33 := df 33
              obtain ⟨sa, sc, hfs, hso⟩ := hP.1.stackOwn
              rw [hfs] at d33
              have HSO := Lib.hid hso
              have HFS := Lib.hid hfs
              have hbs : base ≤ W5.heap.size := hP.1.fam.top
              have Hg0 := Lib.hid (hP.1.lt (.inl rfl)).1
              have Hn0 := Lib.hid ((hP.1.no g0 (.inl rfl)).1 0)
              clear hW5 hP c32 c33 cf hcb hcf hcl df hso hfs HK4 HGO4 HnE4 HbE4
              go_upto_region 12 with (first
                | (at_builtin; refine wpList_append_own_at _ rfl _ _ 27 rfl base 3 ti (.int .i64 0) 1 8 Try.underlying27 hi0 iz0 iz1 iz2 rfl (by decide) (.slice sa st4.length sc) st4.length ((ofN st4).map (.int .i64 ·)) rfl (own_later HSO.out (below_box W5 _)) ⟨W5.heap.size, 0, none⟩ 1 1 [.int .i64 i] rfl rfl (cell_one_i W5 _ _) (by simp [Value.oneCell']) (by unfold maxLen; omega) (by omega) (by simp; omega) ?_; intro v6 w6 hown6 hgrow6 _ hat6
                   have HT6 : Hid (Touch (fun z => (fv4 0).ownBlock = some z) W5 w6) := Lib.hid (by
                     rw [HFS.out]
                     exact (Touch.of_below (below_box W5 (.cells #[.int .i64 i] 3))).trans (Touch.grown (X := fun z => (Value.slice sa st4.length sc).ownBlock = some z) hgrow6 (fun k e => e)) (fun _ _ h => h))
                   have HW6 : Hid (Whr W5 v6 (fv4 0)) := Lib.hid (by
                     rw [HFS.out]
                     rcases hat6 with z | z
                     · exact .inl z
                     · exact .inr (.inr ⟨_, z, by simp⟩))
                   have HO6 := Lib.hid hown6
                   obtain ⟨g6, cap6, rfl⟩ := own_slice hown6 (by omega)
                   have hbk : w6.heap[g0]? = W5.heap[g0]? := HT6.out.block g0 Hg0.out Hn0.out
                   have x0 := (World.cell?_of_block (a := ⟨g0, 33, none⟩) hbk).trans d33
                   have xf0 := (World.frozen?_of_block (a := ⟨g0, 33, none⟩) hbk).trans df33
                   clear hown6 hgrow6 hat6 hbk d33))
              generalize hW7 : World.setCell _ _ _ = W7
              have hP := HK5.out.stack (l := st4 ++ [i]) HT6.out (by simpa [ofN] using HO6.out) HW6.out
              rw [hW7] at hP
              have HP := Lib.hid hP
              have HKE7 := Lib.hid (hP.2.keep HKE.out.2 HKE.out.1)
              have HD : Hid (dirB chans t i j = true) := Lib.hid (by
                have h1 := HLi.out
                rw [← HL.out, List.getElem?_drop, List.getElem?_take] at h1
                split at h1
                · rename_i hlt2
                  have hf2 : f2 ≤ m0 + p := by
                    rw [← HM0.out]; unfold goneF
                    have := Hp1.out
                    rw [← HM0.out] at this; unfold goneF at this
                    split <;> rename_i z
                    · rw [if_pos z] at this; omega
                    · omega
                  obtain ⟨h2, h3⟩ := (HROW.out i).2 ⟨m0 + p, h1, hf2, hlt2⟩
                  unfold dirB
                  rw [decide_eq_true h2, Bool.true_and]
                  exact List.any_eq_true.2 ⟨r, List.mem_of_getElem? HRr.out, h3⟩
                · cases h1)
              have HM7 := Lib.hid (HM4.out.trans (Marked.one (D := fun i => dirB chans t i j) (st := st4) HBb.out HD.out))
              have HL5 : Hid (∀ m i' : Nat, m < p + 1 → l[m]? = some i' → (seen4.set i true)[i']? = some true) := Lib.hid (fun m i' hm hi' => by
                rw [set_true (by omega)]
                rcases Nat.lt_or_ge m p with z | z
                · exact .inr (HL4.out m i' z hi')
                · obtain rfl : m = p := by omega
                  have := HLi.out
                  rw [hi'] at this; cases this
                  exact .inl rfl)
              clear hW7 hP x0 xf0
              go_wp2_with fail
              go_roundw
              case rel => exact ⟨p + 1, Hp1.out, by go_num, seen4.set i true, st4 ++ [i], _, HP.out.1, fun k hk => by rw [updF_ne _ _ hk]; exact HFV.out k hk, HM7.out, HL5.out, HGO5.out.trans HP.out.2, HKE7.out.1, HKE7.out.2⟩
              case measure => simp [intOf]; omega
            · have HL5 : Hid (∀ m i : Nat, m < p + 1 → l[m]? = some i → seen4[i]? = some true) := Lib.hid (fun m i' hm hi' => by
                rcases Nat.lt_or_ge m p with z | z
                · exact HL4.out m i' z hi'
                · obtain rfl : m = p := by omega
                  have := HLi.out
                  rw [hi'] at this; cases this
                  exact HBb.out)
              go_wp2_with fail
              go_roundw
              case rel => exact ⟨p + 1, Hp1.out, by go_num, seen4, st4, fv4, HK4.out, HFV.out, HM4.out, HL5.out, HGO4.out, HbE4.out, HnE4.out⟩
              case measure => simp [intOf]; omega
          · obtain rfl : p = e2 - m0 := by omega
            have hnx := (HGn2.out.up HM4.out.up).next hkl2 hel (fun p' i' hi' => by
              rw [HM0.out, HL.out] at hi'
              refine HL4.out p' i' ?_ hi'
              have := (List.getElem?_eq_some_iff.1 hi').1
              omega)
            rw [HG2.out] at hnx
            have HNX := Lib.hid hnx
            have HC5 : Hid (∀ (m : Nat) (r : RuD) (i : Nat), m < q + 1 → (rulesL chans)[m]? = some r → i < j → holdsB r t i j = true → seen4[i]? = some true) := Lib.hid (fun m r' i hm hr' hij hh => by
              rcases Nat.lt_or_ge m q with z | z
              · exact HM4.out.up i (HC.out m r' i z hr' hij hh)
              · obtain rfl : m = q := by omega
                have e1 := HRr.out
                rw [hr'] at e1; cases e1
                obtain ⟨n, h1, h2, h3⟩ := (HROW.out i).1 ⟨hij, hh⟩
                exact HNX.out.2 n i h2 h3 h1)
            have HM5 := Lib.hid (HM.out.trans HM4.out)
            clear hnx
            go_wp2_with fail
            go_roundw
            case rel => exact ⟨q + 1, by omega, by go_num, ks2, G2, seen4, st4, fv4, rv2, HK4.out, HRr2.out, HNX.out.1, HM5.out, HC5.out, HGO4.out, HbE4.out, HnE4.out, by omega⟩
            case measure => simp [intOf]; omega
    · obtain rfl : q = 10 := by omega
      have HCE : Hid (∀ i, dirB chans t i j = true → seen1[i]? = some true) := Lib.hid (fun i hd => by
        unfold dirB at hd
        rw [Bool.and_eq_true, List.any_eq_true] at hd
        obtain ⟨h1, r, h2, h3⟩ := hd
        obtain ⟨m, hm⟩ := List.getElem?_of_mem h2
        exact HC.out m r i (rules_lt hm) hm (of_decide_eq_true h1) h3)
      go_wp2_with fail
      go_end0
      exact ⟨rfl, ks1, G1, seen1, st1, fv1, rv1, HI.out, HRo.out, HGn.out, HM.out, HCE.out, HGo.out, hln⟩
end Go.Proofs.Ytkhhkjinlkpdlaa
