/- What order's holds answers (under way). -/
import Derived.Test.YtkhhkjinlkpdlaaOrderHold
namespace Go.Proofs.Ytkhhkjinlkpdlaa
set_option linter.unusedVariables false
set_option linter.unusedSimpArgs false
set_option maxRecDepth 100000
open Go.ChangeShapes Go.WideShapes Go.ChangeAt Go.RowKit

set_option maxHeartbeats 4000000 in
theorem holds_any (r : RuD) (va vb vw : Value) (a : Option Addr) (cap : Nat) (t : List EvD) (i j : Nat) (w : World) (he : EvsIn w w.heap.size a t) (hl : t.length ≤ 1000000) (hij : i < j) (hj : j < t.length) (ha : SideV (fun _ => False) w va r.a) (hb : SideV (fun _ => False) w vb r.b) (hw : WhV (fun _ => False) w vw r.wh) (hcap : t.length ≤ cap) :
    Calls Try.prog 21 #[.agg #[va, vb, vw], .slice a t.length cap, .int .i64 i, .int .i64 j] w fun e w' => e = .returned (.bool (holdsB r t i j)) ∧ Below w.heap.size w w' := by
  obtain ⟨fa, ca, rfl, hcfa, hSa⟩ := ha
  obtain ⟨fb, cb, rfl, hcfb, hSb⟩ := hb
  obtain ⟨e1, hx1⟩ := at_lt (show i < t.length by omega)
  obtain ⟨e2, hx2⟩ := at_lt hj
  have hA := fun u hu => hSa u (Touch.of_below hu) e1
  have hB := fun u hu => hSb u (Touch.of_below hu) e2
  have hH : holdsB r t i j = (isS r.a (r.b e2).1 e1 && (r.b e2).2 && whB r.wh (r.b e2).1 (cntS r.a (r.b e2).1 (t.take j)) (cntS r.b (r.b e2).1 (t.take j)) (cntS r.a (r.b e2).1 (t.take i))) := by unfold holdsB; rw [hx1, hx2]
  unfold isS at hH
  rcases hsa : r.a e1 with ⟨x, ia⟩
  rcases hsb : r.b e2 with ⟨y, ib⟩
  simp only [hsa, hsb] at hA hB hH
  have HA := Lib.hid hA
  have HB := Lib.hid hB
  have HH := Lib.hid hH
  clear hA hB hH hsa hsb
  have HVA : Hid (SideV (fun _ => False) w (.func (.func fa) #[] ca) r.a) := Lib.hid ⟨fa, ca, rfl, hcfa, hSa⟩
  have HVB : Hid (SideV (fun _ => False) w (.func (.func fb) #[] cb) r.b) := Lib.hid ⟨fb, cb, rfl, hcfb, hSb⟩
  have HE := Lib.hid he
  have HW := Lib.hid hw
  have HX1 := Lib.hid hx1
  have HX2 := Lib.hid hx2
  have hij' : (i : Int) < (t.length : Int) := by omega
  have hjl' : (j : Int) < (t.length : Int) := by omega
  obtain ⟨g, o, rfl, hg, a0, a1, a2, a3, a4, a5⟩ := he i e1 hx1
  obtain ⟨g', o', he', hg', b0, b1, b2, b3, b4, b5⟩ := he j e2 hx2
  cases he'
  clear he hSa hSb hw hx1 hx2
  go_enter Try.func21, Try.ntmps21
  go_upto_region 1 with (fail)
  generalize hU : World.alloc w _ = U
  have hN := (congrArg (fun x : World => x.heap[w.heap.size]?) hU).symm.trans (heap_alloc_new _ _)
  have HN := Lib.hid hN
  have HU := Lib.hid (show Below w.heap.size w U by rw [← hU]; exact below_box _ _)
  have hcl : ∀ {q v}, w.cell? ⟨g, q, none⟩ = some v → U.cell? ⟨g, q, none⟩ = some v := fun h => (HU.out.cell (p := ⟨g, _, none⟩) (cell_lt h)).trans h
  have c0 := hcl a0
  have c1 := hcl a1
  have c2 := hcl a2
  have c3 := hcl a3
  have c4 := hcl a4
  have c5 := hcl a5
  have d0 := hcl b0
  have d1 := hcl b1
  have d2 := hcl b2
  have d3 := hcl b3
  have d4 := hcl b4
  have d5 := hcl b5
  obtain ⟨k0, k1, k2⟩ := box3 hN
  clear hcl a0 a1 a2 a3 a4 a5 b0 b1 b2 b3 b4 b5 hU hN
  have KU : U.drew.cell? ⟨w.heap.size, 0, none⟩ = some (.func (.func fa) #[] ca) ∧ U.drew.cell? ⟨w.heap.size, 1, none⟩ = some (.func (.func fb) #[] cb) ∧ U.drew.cell? ⟨g, o + i * 6, none⟩ = some (.int .i64 e1.th) ∧ U.drew.cell? ⟨g, o + i * 6 + 1, none⟩ = some (.int .i64 e1.pc) ∧ U.drew.cell? ⟨g, o + i * 6 + 2, none⟩ = some (.int .u8 e1.op) ∧ U.drew.cell? ⟨g, o + i * 6 + 3, none⟩ = some (.int .i64 e1.obj) ∧ U.drew.cell? ⟨g, o + i * 6 + 4, none⟩ = some (.int .i64 e1.val) ∧ U.drew.cell? ⟨g, o + i * 6 + 5, none⟩ = some (.int .i64 e1.mode) := ⟨k0, k1, c0, c1, c2, c3, c4, c5⟩
  go_region_held3 (fun u => u.cell? ⟨w.heap.size, 0, none⟩ = some (.func (.func fa) #[] ca) ∧ u.cell? ⟨w.heap.size, 1, none⟩ = some (.func (.func fb) #[] cb) ∧ u.cell? ⟨g, o + i * 6, none⟩ = some (.int .i64 e1.th) ∧ u.cell? ⟨g, o + i * 6 + 1, none⟩ = some (.int .i64 e1.pc) ∧ u.cell? ⟨g, o + i * 6 + 2, none⟩ = some (.int .u8 e1.op) ∧ u.cell? ⟨g, o + i * 6 + 3, none⟩ = some (.int .i64 e1.obj) ∧ u.cell? ⟨g, o + i * 6 + 4, none⟩ = some (.int .i64 e1.val) ∧ u.cell? ⟨g, o + i * 6 + 5, none⟩ = some (.int .i64 e1.mode)) (first | with_reducible exact KU | with_reducible exact keepO8 (by assumption) hB1 | fail)
    (first
      | (refine (HA.out _ HU.out.drew).mono ?_; rintro e w1 ⟨rfl, hB1⟩))
  have HB1 := Lib.hid (show Below U.heap.size U w1 from below_next (Below.refl U.heap.size U).drew hB1)
  have HW1 := Lib.hid (below_next HU.out HB1.out)
  have KV : w1.drew.cell? ⟨w.heap.size, 0, none⟩ = some (.func (.func fa) #[] ca) ∧ w1.drew.cell? ⟨w.heap.size, 1, none⟩ = some (.func (.func fb) #[] cb) ∧ w1.drew.cell? ⟨g, o + j * 6, none⟩ = some (.int .i64 e2.th) ∧ w1.drew.cell? ⟨g, o + j * 6 + 1, none⟩ = some (.int .i64 e2.pc) ∧ w1.drew.cell? ⟨g, o + j * 6 + 2, none⟩ = some (.int .u8 e2.op) ∧ w1.drew.cell? ⟨g, o + j * 6 + 3, none⟩ = some (.int .i64 e2.obj) ∧ w1.drew.cell? ⟨g, o + j * 6 + 4, none⟩ = some (.int .i64 e2.val) ∧ w1.drew.cell? ⟨g, o + j * 6 + 5, none⟩ = some (.int .i64 e2.mode) := ⟨(keepC HB1.out.drew k0), (keepC HB1.out.drew k1), (keepC HB1.out.drew d0), (keepC HB1.out.drew d1), (keepC HB1.out.drew d2), (keepC HB1.out.drew d3), (keepC HB1.out.drew d4), (keepC HB1.out.drew d5)⟩
  clear KU hB1 k0 k1 k2 c0 c1 c2 c3 c4 c5 d0 d1 d2 d3 d4 d5
  go_upto_region 2 with (fail)
  go_region_held3 (fun u => u.cell? ⟨w.heap.size, 0, none⟩ = some (.func (.func fa) #[] ca) ∧ u.cell? ⟨w.heap.size, 1, none⟩ = some (.func (.func fb) #[] cb) ∧ u.cell? ⟨g, o + j * 6, none⟩ = some (.int .i64 e2.th) ∧ u.cell? ⟨g, o + j * 6 + 1, none⟩ = some (.int .i64 e2.pc) ∧ u.cell? ⟨g, o + j * 6 + 2, none⟩ = some (.int .u8 e2.op) ∧ u.cell? ⟨g, o + j * 6 + 3, none⟩ = some (.int .i64 e2.obj) ∧ u.cell? ⟨g, o + j * 6 + 4, none⟩ = some (.int .i64 e2.val) ∧ u.cell? ⟨g, o + j * 6 + 5, none⟩ = some (.int .i64 e2.mode)) (first | with_reducible exact KV | with_reducible exact keepO8 (by assumption) hB2 | fail)
    (first
      | (refine (HB.out _ HW1.out.drew).mono ?_; rintro e w2 ⟨rfl, hB2⟩))
  have HB2 := Lib.hid (show Below w1.heap.size w1 w2 from below_next (Below.refl w1.heap.size w1).drew hB2)
  have HW2 := Lib.hid (below_next HW1.out HB2.out)
  have HN2 := Lib.hid (old_later HN.out (below_next HB1.out HB2.out))
  clear KV hB2
  rcases ia with _ | _
  · go_wp2
    go_ret
    exact ⟨by rw [HH.out]; rfl, HW2.out⟩
  rcases ib with _ | _
  · go_wp2
    go_ret
    exact ⟨by rw [HH.out]; simp, HW2.out⟩
  by_cases hxy : x = y
  rotate_left
  · have hxy' : (x == y) = false := by simpa using hxy
    go_wp2
    all_goals
      go_ret
      exact ⟨by rw [HH.out]; simp [hxy'], HW2.out⟩
  subst hxy
  have HF : Hid (holdsB r t i j = whB r.wh x (cntS r.a x (t.take j)) (cntS r.b x (t.take j)) (cntS r.a x (t.take i))) := Lib.hid (by rw [HH.out]; simp)
  clear HH
  obtain ⟨k0, k1, k2⟩ := box3 HN2.out
  rcases hwh : r.wh with _ | f
  · have hvw : vw = .nilFunc := by have := HW.out; rw [hwh] at this; exact this
    rw [hwh] at HF
    clear hwh HW
    subst hvw
    have hnil : ∀ u : World, (binOp BinOp.eql 48 .nilFunc .nilFunc).run Try.prog u = .ok (.bool true) u := fun _ => by kernel_rfl
    go_wp2
    go_ret
    exact ⟨by rw [HF.out]; rfl, HW2.out⟩
  · have hvw := HW.out
    rw [hwh] at HF hvw
    obtain ⟨fw, cw, rfl, hcfw, hSw⟩ := hvw
    have hj0 : (t.take j).length = j := by rw [List.length_take]; omega
    have hi0 : (t.take i).length = i := by rw [List.length_take]; omega
    have hca : cntS r.a x (t.take j) ≤ j := by have := List.countP_le_length (p := isS r.a x) (l := t.take j); unfold cntS; omega
    have hcb : cntS r.b x (t.take j) ≤ j := by have := List.countP_le_length (p := isS r.b x) (l := t.take j); unfold cntS; omega
    have hci : cntS r.a x (t.take i) ≤ i := by have := List.countP_le_length (p := isS r.a x) (l := t.take i); unfold cntS; omega
    have hCA := fun u (hu : Below w.heap.size w u) => count_any r.a _ (some ⟨g, o, none⟩) cap (t.take j) x u ((HE.out.later hu).take j) (by omega) (HVA.out.later hu)
    have hCB := fun u (hu : Below w.heap.size w u) => count_any r.b _ (some ⟨g, o, none⟩) cap (t.take j) x u ((HE.out.later hu).take j) (by omega) (HVB.out.later hu)
    have hCI := fun u (hu : Below w.heap.size w u) => count_any r.a _ (some ⟨g, o, none⟩) cap (t.take i) x u ((HE.out.later hu).take i) (by omega) (HVA.out.later hu)
    have hL := fun u (hu : Below w.heap.size w u) => hSw u (Touch.of_below hu) x _ _ (show cntS r.a x (t.take j) ≤ 1000000 by omega) (show cntS r.b x (t.take j) ≤ 1000000 by omega)
    rw [hj0] at hCA hCB
    rw [hi0] at hCI
    have hF := HF.out
    unfold whB at hF
    simp only at hF
    generalize cntS r.a x (t.take j) = nA at *
    generalize cntS r.b x (t.take j) = nB at *
    generalize cntS r.a x (t.take i) = nI at *
    rcases hfx : f x nA nB with ⟨p1, p2⟩
    simp only [hfx] at hL hF
    have HCA := Lib.hid hCA
    have HCB := Lib.hid hCB
    have HCI := Lib.hid hCI
    have HL := Lib.hid hL
    have HG := Lib.hid hF
    clear hCA hCB hCI hL hF HF hwh HW hSw hfx hj0 hi0
    have hjc : j ≤ cap := by omega
    have hjc' : (j : Int) ≤ (cap : Int) := by omega
    have hjn : (j : Int).toNat = j := by omega
    have hj00 : ¬ (j : Int) < 0 := by omega
    have hjc2 : ¬ (cap : Int) < (j : Int) := by omega
    have hic : i ≤ cap := by omega
    have hic' : (i : Int) ≤ (cap : Int) := by omega
    have hic2 : ¬ (cap : Int) < (i : Int) := by omega
    have KW : w2.drew.cell? ⟨w.heap.size, 0, none⟩ = some (.func (.func fa) #[] ca) ∧ w2.drew.cell? ⟨w.heap.size, 1, none⟩ = some (.func (.func fb) #[] cb) ∧ w2.drew.cell? ⟨w.heap.size, 2, none⟩ = some (.func (.func fw) #[] cw) := ⟨k0, k1, k2⟩
    have hnil : ∀ u : World, (binOp BinOp.eql 48 (.func (.func fw) #[] cw) .nilFunc).run Try.prog u = .ok (.bool false) u := fun _ => by kernel_rfl
    go_upto_region 7 with (fail)
    go_region_held3 (fun u => u.cell? ⟨w.heap.size, 0, none⟩ = some (.func (.func fa) #[] ca) ∧ u.cell? ⟨w.heap.size, 1, none⟩ = some (.func (.func fb) #[] cb) ∧ u.cell? ⟨w.heap.size, 2, none⟩ = some (.func (.func fw) #[] cw)) (first | with_reducible exact KW | with_reducible exact keepO3 (by assumption) hB5 | with_reducible exact keepO3 (by assumption) hB4 | with_reducible exact keepO3 (by assumption) hB3 | fail)
      (first
        | (have _g := hB4; refine (HL.out _ (below_next (below_next HW2.out.drew hB3) hB4)).mono ?_; rintro e w5 ⟨rfl, hB5⟩)
        | (have _g := hB3; go_at_call 38; refine (HCB.out _ (below_next HW2.out.drew hB3)).mono ?_; rintro e w4 ⟨rfl, hB4⟩)
        | (go_at_call 38; refine (HCA.out _ HW2.out.drew).mono ?_; rintro e w3 ⟨rfl, hB3⟩))
    all_goals
      have HW5 := Lib.hid (below_next (below_next (below_next HW2.out.drew hB3) hB4) hB5)
      obtain ⟨k0, k1, k2⟩ := box3 (old_later HN2.out (show Below w2.heap.size w2 w5 from below_next (below_next (below_next (Below.refl w2.heap.size w2).drew hB3) hB4) hB5))
      clear KW hB3 hB4 hB5
      have KX : w5.drew.cell? ⟨w.heap.size, 0, none⟩ = some (.func (.func fa) #[] ca) ∧ w5.drew.cell? ⟨w.heap.size, 1, none⟩ = some (.func (.func fb) #[] cb) ∧ w5.drew.cell? ⟨w.heap.size, 2, none⟩ = some (.func (.func fw) #[] cw) := ⟨k0, k1, k2⟩
      go_upto_region 8 with (fail)
      go_region_held3 (fun u => u.cell? ⟨w.heap.size, 0, none⟩ = some (.func (.func fa) #[] ca) ∧ u.cell? ⟨w.heap.size, 1, none⟩ = some (.func (.func fb) #[] cb) ∧ u.cell? ⟨w.heap.size, 2, none⟩ = some (.func (.func fw) #[] cw)) (first | with_reducible exact KX | with_reducible exact keepO3 (by assumption) hB6 | fail)
        (first
          | (go_at_call 38; refine (HCI.out _ HW5.out.drew).mono ?_; rintro e w6 ⟨rfl, hB6⟩))
      all_goals
        have HW6 := Lib.hid (below_next HW5.out.drew hB6)
        clear KX hB6 k0 k1 k2
        rcases d1 : decide (p1 ≤ (nI : Int)) with _ | _
        · have hG := HG.out
          rw [d1] at hG
          have HG2 := Lib.hid hG
          clear hG HG
          go_wp2
          go_ret
          exact ⟨by rw [HG2.out]; rfl, HW6.out⟩
        · have hG := HG.out
          rw [d1] at hG
          have HG2 := Lib.hid hG
          clear hG HG
          go_wp2
          go_ret
          exact ⟨by rw [HG2.out]; rfl, HW6.out⟩
end Go.Proofs.Ytkhhkjinlkpdlaa
