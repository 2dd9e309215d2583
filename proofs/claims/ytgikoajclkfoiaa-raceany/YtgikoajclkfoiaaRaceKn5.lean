/- Race's step: the clock of the next event, and what is known behind it. -/
import Derived.Test.YtgikoajclkfoiaaRaceKn4
namespace Go.Proofs.Ytgikoajclkfoiaa
set_option linter.unusedVariables false
set_option linter.unusedSimpArgs false
set_option maxRecDepth 100000
open Go.ChangeShapes Go.WideShapes Go.ChangeAt Go.RowKit Go.Maps

section
variable {base gk gc gs gt : Nat} {ca : Option Addr} {cc : Nat} {chans : List Int} {n : Nat} {k : KnS} {u u' : World}
theorem KnIn.notX (h : KnIn base gk gc gs gt ca cc chans n k u) {g : Nat} {cs : Array Value} {t : TypeId} {fr : Nat × Nat} (hg : u.heap[g]? = some (.cells cs t fr)) : ¬ KnX gc gs gt g := by
  rintro (rfl | rfl | rfl)
  · obtain ⟨es, c, hb⟩ := h.cl.isMap; rw [hb] at hg; cases hg
  · obtain ⟨es, c, hb⟩ := h.se.isMap; rw [hb] at hg; cases hg
  · obtain ⟨es, c, hb⟩ := h.ta.isMap; rw [hb] at hg; cases hg
theorem old_touchX (h : KnIn base gk gc gs gt ca cc chans n k u) (T : Touch (KnX gc gs gt) u u') {g : Nat} {cs : Array Value} {t : TypeId} {fr : Nat × Nat} (hg : u.heap[g]? = some (.cells cs t fr)) : u'.heap[g]? = some (.cells cs t fr) :=
  (T.block g (Array.getElem?_eq_some_iff.1 hg).1 (h.notX hg)).trans hg
theorem row_touchX (h : KnIn base gk gc gs gt ca cc chans n k u) (T : Touch (KnX gc gs gt) u u') {a : Option Addr} {l : List Int} (hr : RowI u a l) : RowI u' a l := fun i x hx => by
  obtain ⟨c, off, cs, fr, h1, h2, h3⟩ := hr i x hx
  exact ⟨c, off, cs, fr, h1, old_touchX h T h2, h3⟩
end
theorem wf_u8 {x : Int} (h0 : 0 ≤ x) (h1 : x ≤ 255) : (Lit.int .u8 x).wf = true := WalkArith.wf_u8 ⟨h0, h1⟩
theorem wf_wrap (x : Int) : Wf (wrap64 x) := WalkArith.wf_i64 (by simp only [wrap64]; omega)
theorem hears_wf {chans : List Int} {S T : Int → Nat} {e : EvD} (hW : Wf e.obj) (hT : ∀ x, T x < 100000) : ∀ x ∈ hearsL chans S T e, KyW x := by
  have z : Wf 0 := by unfold Wf; kernel_rfl
  have key : ∀ (a b : Int), 0 ≤ a → a ≤ 255 → Wf b → KyW (a, e.obj, b) := fun a b h0 h1 hb => ⟨wf_u8 h0 h1, hW, hb⟩
  have ht : Wf ((T e.obj : Nat) : Int) := WalkArith.wf_i64 (by have := hT e.obj; omega)
  intro x hx
  unfold hearsL at hx
  split at hx
  · simp at hx; rcases hx with rfl | rfl
    · exact key 1 0 (by decide) (by decide) z
    · exact key 2 0 (by decide) (by decide) z
  split at hx
  · simp at hx; subst hx; exact key 1 0 (by decide) (by decide) z
  split at hx
  · simp at hx; subst hx; exact key 3 0 (by decide) (by decide) z
  split at hx
  · simp at hx; subst hx; exact key 3 0 (by decide) (by decide) z
  split at hx
  · simp at hx; subst hx; exact key 4 _ (by decide) (by decide) ht
  split at hx
  · simp at hx; subst hx; exact key 5 _ (by decide) (by decide) (wf_wrap _)
  split at hx
  · simp at hx; subst hx; exact key 6 0 (by decide) (by decide) z
  split at hx
  · simp at hx; subst hx; exact key 7 0 (by decide) (by decide) z
  split at hx
  · simp at hx; subst hx; exact key 8 0 (by decide) (by decide) z
  · simp at hx
theorem tells_wf {S T : Int → Nat} {e : EvD} (hW : Wf e.obj) (hS : ∀ x, S x < 100000) (hT : ∀ x, T x < 100000) {x : Ky} (hx : tellsL S T e = some x) : KyW x := by
  have z : Wf 0 := by unfold Wf; kernel_rfl
  have key : ∀ (a b : Int), 0 ≤ a → a ≤ 255 → Wf b → KyW (a, e.obj, b) := fun a b h0 h1 hb => ⟨wf_u8 h0 h1, hW, hb⟩
  have ht : Wf ((T e.obj : Nat) : Int) := WalkArith.wf_i64 (by have := hT e.obj; omega)
  have hs : Wf ((S e.obj : Nat) : Int) := WalkArith.wf_i64 (by have := hS e.obj; omega)
  unfold tellsL at hx
  split at hx
  · simp at hx; subst hx; exact key 0 0 (by decide) (by decide) z
  split at hx
  · simp at hx; subst hx; exact key 1 0 (by decide) (by decide) z
  split at hx
  · simp at hx; subst hx; exact key 2 0 (by decide) (by decide) z
  split at hx
  · simp at hx; subst hx; exact key 3 0 (by decide) (by decide) z
  split at hx
  · simp at hx; subst hx; exact key 3 0 (by decide) (by decide) z
  split at hx
  · simp at hx; subst hx; exact key 4 _ (by decide) (by decide) hs
  split at hx
  · simp at hx; subst hx; exact key 5 _ (by decide) (by decide) ht
  split at hx
  · simp at hx; subst hx; exact key 6 0 (by decide) (by decide) z
  split at hx
  · simp at hx; subst hx; exact key 7 0 (by decide) (by decide) z
  split at hx
  · simp at hx; subst hx; exact key 8 0 (by decide) (by decide) z
  · simp at hx
theorem hears_len (chans : List Int) (S T : Int → Nat) (e : EvD) : (hearsL chans S T e).length ≤ 2 := by
  unfold hearsL
  repeat' split
  all_goals simp
theorem touch_below {X : Nat → Prop} {w V V' : World} (T : Touch X w V) (hB : Below V.heap.size V V') : Touch X w V' := T.trans (Touch.of_below (X := X) hB) fun _ _ h => h
theorem touch_on {X : Nat → Prop} {w V V' : World} (T : Touch X w V) (T2 : Touch X V V') : Touch X w V' := T.trans T2 fun _ _ h => h
theorem upd_len {K : Ky → List Int} {x : Ky} {l : List Int} (h : ∀ y, (K y).length ≤ 64) (hl : l.length ≤ 64) : ∀ y, (upd K x l y).length ≤ 64 := fun y => by
  unfold upd
  split
  · exact hl
  · exact h y
def foldK (k : KnS) (l : List Ky) (c : List Int) : List Int := l.foldl (fun c x => joinL c (k.K x)) c
theorem foldK_len {k : KnS} (hlen : ∀ x, (k.K x).length ≤ 64) : ∀ (l : List Ky) (c : List Int), c.length ≤ 64 → (foldK k l c).length ≤ 64
  | [], c, h => h
  | x :: l, c, h => foldK_len hlen l _ (by rw [join_len]; have := hlen x; omega)
theorem foldK_snoc (k : KnS) (l : List Ky) (x : Ky) (c : List Int) : foldK k (l ++ [x]) c = joinL (foldK k l c) (k.K x) := by simp [foldK]
theorem clock_len {chans : List Int} {k : KnS} (hlen : ∀ x, (k.K x).length ≤ 64) (e : EvD) : (clockL chans k e).length ≤ 64 := by
  unfold clockL
  have h1 := tickL_len (foldK k (hearsL chans k.S k.T e) (k.K (0, e.th, 0))) e.th
  have h2 := foldK_len hlen (hearsL chans k.S k.T e) _ (hlen (0, e.th, 0))
  have : (tickL (foldK k (hearsL chans k.S k.T e) (k.K (0, e.th, 0))) e.th).length ≤ 64 := by omega
  exact this
def StepE (base gk gc gs gt : Nat) (ca : Option Addr) (cc : Nat) (chans : List Int) (n : Nat) (k : KnS) (L : List Int) (w : World) (e : Ending) (w' : World) : Prop :=
  ∃ a c, e = .returned (.slice a L.length c) ∧ RowI w' a L ∧ KnIn base gk gc gs gt ca cc chans n k w' ∧ Touch (KnX gc gs gt) w w'
set_option maxHeartbeats 2000000 in
theorem step8_any {base gk gc gs gt : Nat} {ca : Option Addr} {cc : Nat} {chans : List Int} {n : Nat} {k : KnS} {w : World} (h : KnIn base gk gc gs gt ca cc chans n k w) (hn : n + 3 < 100000) (hlen : ∀ x, (k.K x).length ≤ 64) (hS : ∀ x, k.S x < 100000) (hT : ∀ x, k.T x < 100000) (e : EvD) (hW : Wf e.th ∧ Wf e.obj) :
    Calls Try.prog 25 #[.pointer (some ⟨gk, 0, none⟩), e.v] w (StepE base gk gc gs gt ca cc chans (n + 3) (stepK7 chans k e) (clockL chans k e) w) := by
  have HK := Lib.hid h
  have HSW : Hid (KyW (0, e.th, 0)) := Lib.hid ⟨wf_u8 (x := 0) (by decide) (by decide), hW.1, show Wf 0 by unfold Wf; kernel_rfl⟩
  have HHW := Lib.hid (hears_wf (chans := chans) (S := k.S) (e := e) hW.2 hT)
  have HTW := Lib.hid (fun x => tells_wf (x := x) hW.2 hS hT)
  have hhl := hears_len chans k.S k.T e
  have HCL := Lib.hid (clock_len (chans := chans) hlen e)
  have HLn := Lib.hid hlen
  have HHr := Lib.hid (fun W (hB : Below w.heap.size w W) => hears_any (h.later hB) e hW.2)
  have HWo := Lib.hid hW.2
  have HSS := Lib.hid hS
  have HTT := Lib.hid hT
  have HC : Hid (clockL chans k e = tickL (foldK k (hearsL chans k.S k.T e) (k.K (0, e.th, 0))) e.th) := Lib.hid rfl
  have HST : Hid (stepK7 chans k e = cntK ⟨toldK (upd k.K (0, e.th, 0) (clockL chans k e)) (tellsL k.S k.T e) (clockL chans k e), k.S, k.T⟩ e) := Lib.hid rfl
  have HTl := Lib.hid (fun (W : World) (k' : KnS) (n' : Nat) (hk : KnIn base gk gc gs gt ca cc chans n' k' W) (hs : k'.S = k.S) (ht : k'.T = k.T) => (show Calls Try.prog 40 #[.pointer (some ⟨gk, 0, none⟩), e.v] W (TellsE W (tellsL k.S k.T e)) from by
    have := tells_any hk e hW.2
    rw [hs, ht] at this
    exact this))
  have HCt := Lib.hid (fun (W : World) (k' : KnS) (hk : KnIn base gk gc gs gt ca cc chans (n + 2) k' W) (hs : k'.S = k.S) (ht : k'.T = k.T) => count8_any hk (by omega) (by rw [hs]; exact hS) (by rw [ht]; exact hT) e hW.2)
  generalize clockL chans k e = L at *
  generalize stepK7 chans k e = k9 at *
  generalize hearsL chans k.S k.T e = hl at *
  generalize tellsL k.S k.T e = tl at *
  clear h hlen hS hT hW
  obtain ⟨th, pc, op, obj, val, mode⟩ := e
  show Calls Try.prog 25 #[.pointer (some ⟨gk, 0, none⟩), evV th pc op obj val mode] w _
  simp only at HSW HC HST
  go_enter Try.func25, Try.ntmps25
  go_upto_region 2 with (fail)
  generalize hV : World.alloc (World.alloc w _) _ = V
  have HB := Lib.hid (show Below w.heap.size w V by rw [← hV]; exact below_two _ _ _)
  have HN : Hid (V.heap[w.heap.size]? = some (.cells #[.int .i64 th, .int .i64 pc, .int .u8 op, .int .i64 obj, .int .i64 val, .int .i64 mode] 26)) := Lib.hid (by rw [← hV]; exact old_alloc (heap_alloc_new _ _) _)
  have HM : Hid (V.heap[w.heap.size + 1]? = some (.cells #[.int .u8 0, .int .i64 th, .int .i64 0] 75)) := Lib.hid (by rw [← hV]; exact heap_alloc2_new _ _ _)
  clear hV
  have HKV := Lib.hid (HK.out.later HB.out.drew)
  obtain ⟨aK, cK, hlk, hrK⟩ := HKV.out.cl.look HSW.out
  simp only [kyV] at hlk
  have HRK := Lib.hid hrK
  clear hrK
  obtain ⟨m0, m1, m2⟩ := box3R (show V.drew.heap[w.heap.size + 1]? = _ from HM.out)
  obtain ⟨k0, k1, k2, k3⟩ := box4R HKV.out.box
  have HK0 : Hid ((k.K (0, th, 0)).length ≤ 64) := Lib.hid (HLn.out _)
  generalize hc0 : k.K (0, th, 0) = c0 at *
  refine wp_region_still_tail 6 (by kernel_rfl) (by kernel_rfl) ?_
  simp only [List.take_succ_cons, List.take_zero, List.drop_succ_cons, List.drop_zero]
  still_step
  still_step
  still_step
  still_step
  still_step
  still_step
  refine wpStill_nil ?_
  change wpList _ _ _ _ _ V.drew
  have HB3 := Lib.hid (show Below w.heap.size w V.drew from HB.out.drew)
  have HN3 := Lib.hid (show V.drew.heap[w.heap.size]? = _ from HN.out)
  have HM3 := Lib.hid (show V.drew.heap[w.heap.size + 1]? = _ from HM.out)
  generalize V.drew = U at *
  clear m0 m1 m2 k0 k1 k2 k3 hlk HB HN HM HKV
  obtain ⟨a0, a1, a2, a3, a4, a5⟩ := box6R HN3.out
  go_upto_region 4 with (go_at_call 37; refine (HHr.out _ HB3.out).mono ?_; rintro e w1 ⟨ha, hc, rfl, hky, hB⟩)
  have HKY := Lib.hid hky
  have HB1 := Lib.hid (below_next HB3.out hB)
  have HN1 := Lib.hid (old_later HN3.out hB)
  have HM1 := Lib.hid (old_later HM3.out hB)
  have HR1 := Lib.hid (HRK.out.up hB)
  clear hky hB a0 a1 a2 a3 a4 a5 HB3 HN3 HM3 HRK
  have HL0 : Hid (foldK k (hl.take 0) c0 = c0) := Lib.hid rfl
  go_wp2_with fail
  go_loopw [6, 24] (fun cv iv u => ∃ (q : Nat) (M : List Int) (a' : Option Addr) (c' : Nat), q ≤ hl.length ∧ iv = .int .i64 q ∧ cv = .slice a' M.length c' ∧ Hid (M = foldK k (hl.take q) c0) ∧ M.length ≤ 64 ∧ RowI u a' M ∧ Below w1.heap.size w1 u) (fun _ iv _ => hl.length - (intOf iv).toNat)
  case atStart => exact ⟨0, c0, aK, cK, Nat.zero_le _, rfl, rfl, Lib.hid HL0.out.symm, HK0.out, HR1.out, Below.refl _ _⟩
  case round =>
    obtain ⟨q, M, a', c', hq, rfl, rfl, hM, hMl, hr, hB⟩ := hrel
    have HR := Lib.hid hr
    have HBr := Lib.hid hB
    clear hr hB
    by_cases hlt : q < hl.length
    · have hlt' : (q : Int) < (hl.length : Int) := by omega
      obtain ⟨x, hx⟩ := at_lt (l := hl) (k := q) hlt
      obtain ⟨g, rfl, hg, x0, x1, x2⟩ := (HKY.out.later HBr.out) q x hx
      have HXW : Hid (KyW x) := Lib.hid (HHW.out x (List.mem_of_getElem? hx))
      have HFS : Hid (foldK k (hl.take (q + 1)) c0 = joinL M (k.K x)) := Lib.hid (by rw [List.take_add_one, hx, Option.toList_some, foldK_snoc, hM.out])
      have hkx := HLn.out x
      obtain ⟨x1', x2', x3'⟩ := x
      simp only at x0 x1 x2
      clear hx
      go_upto_region 6 with (fail)
      generalize hV : World.alloc wr _ = V
      have HBV := Lib.hid (show Below wr.heap.size wr V by rw [← hV]; exact below_box _ _)
      have HMV : Hid (V.heap[wr.heap.size]? = some (.cells #[.int .u8 x1', .int .i64 x2', .int .i64 x3'] 75)) := Lib.hid (by rw [← hV]; exact heap_alloc_new _ _)
      clear hV x0 x1 x2
      have HKV := Lib.hid (HK.out.later (below_next HB1.out (below_next HBr.out HBV.out)).drew)
      obtain ⟨bK, dK, hlk, hrK⟩ := HKV.out.cl.look HXW.out
      simp only [kyV] at hlk
      have HRX := Lib.hid hrK
      clear hrK
      obtain ⟨m0, m1, m2⟩ := box3R (show V.drew.heap[wr.heap.size]? = _ from HMV.out)
      obtain ⟨k0, k1, k2, k3⟩ := box4R HKV.out.box
      generalize hmx : k.K (x1', x2', x3') = mx at *
      refine wp_region_still_tail 7 (by kernel_rfl) (by kernel_rfl) ?_
      simp only [List.take_succ_cons, List.take_zero, List.drop_succ_cons, List.drop_zero]
      still_step
      still_step
      still_step
      still_step
      still_step
      still_step
      still_step
      refine wpStill_nil ?_
      change wpList _ _ _ _ _ V.drew
      have HBD := Lib.hid (show Below wr.heap.size wr V.drew from HBV.out.drew)
      generalize V.drew = U2 at *
      have HRM := Lib.hid (HR.out.up HBD.out)
      clear m0 m1 m2 k0 k1 k2 k3 hlk
      go_wp2_with (go_at_call 38; refine (join_any M mx a' bK c' dK U2 HRM.out.row HRX.out.row (by omega) (by omega)).mono ?_; rintro e w2 ⟨a2, c2, M2, hM2, rfl, hr2, hB2⟩)
      go_roundw
      case rel => exact ⟨q + 1, M2, a2, c2, by omega, by go_num, rfl, Lib.hid (by rw [HFS.out]; exact hM2.out), by rw [hM2.out, join_len]; omega, hr2, below_next HBr.out (below_next HBD.out hB2)⟩
      case measure => simp [intOf]; omega
    · obtain rfl : q = hl.length := by omega
      have HMe : Hid (tickL M th = L) := Lib.hid (by rw [HC.out, hM.out, List.take_length])
      have HBw := Lib.hid (below_next HB1.out HBr.out)
      have HNr := Lib.hid (old_later HN1.out HBr.out)
      have HMr := Lib.hid (old_later HM1.out HBr.out)
      clear hM
      obtain ⟨a0, a1, a2, a3, a4, a5⟩ := box6R HNr.out
      have HTi := tick_any M a' c' th wr HR.out.row (by omega)
      rw [HMe.out] at HTi
      have HTI := Lib.hid HTi
      clear HTi
      go_upto_region 9 with (go_at_call 39; refine HTI.out.mono ?_; rintro e w2 ⟨aL, cL, L', hL', rfl, hrL, hB2⟩; obtain rfl := hL'.out)
      clear HTI
      have HB2 := Lib.hid (below_next HBw.out hB2)
      have HN2 := Lib.hid (old_later HNr.out hB2)
      have HM2 := Lib.hid (old_later HMr.out hB2)
      have HRL := Lib.hid hrL
      have HLL := Lib.hid HCL.out
      clear hrL hB2 a0 a1 a2 a3 a4 a5 HNr HMr HBr HN1 HM1
      have HK2 := Lib.hid (HK.out.later HB2.out)
      obtain ⟨m0, m1, m2⟩ := box3R HM2.out
      obtain ⟨k0, k1, k2, k3⟩ := box4R HK2.out.box
      refine wp_region_still_tail 6 (by kernel_rfl) (by kernel_rfl) ?_
      simp only [List.take_succ_cons, List.take_zero, List.drop_succ_cons, List.drop_zero]
      still_step
      still_step
      still_step
      still_step
      still_step
      still_step
      refine wpStill_nil ?_
      change wpList _ _ _ _ _ w2.drew
      have HB3 := Lib.hid (show Below w.heap.size w w2.drew from HB2.out.drew)
      have HN3 := Lib.hid (show w2.drew.heap[w.heap.size]? = _ from HN2.out)
      have HR3 := Lib.hid (show RowI w2.drew aL _ from HRL.out)
      have HK3 := Lib.hid (HK.out.later HB3.out)
      generalize w2.drew = U3 at *
      clear m0 m1 m2 k0 k1 k2 k3
      obtain ⟨u1, hrun, hk1, hg1⟩ := HK3.out.putK (by omega) HSW.out (c := cL) HR3.out
      simp only [kyV] at hrun
      have HK4 := Lib.hid hk1
      have HT4 := Lib.hid (touch_box HB3.out (Touch.grown (X := KnX gc gs gt) hg1 (fun g e => .inl (Option.some.inj e).symm)))
      have HTg := Lib.hid (Touch.grown (X := KnX gc gs gt) hg1 (fun g e => .inl (Option.some.inj e).symm))
      have HN4 := Lib.hid (old_touchX HK3.out HTg.out HN3.out)
      have HR4 := Lib.hid (row_touchX HK3.out HTg.out HR3.out)
      clear hk1 hg1
      go_upto_region 10 with (fail)
      clear hrun
      have HTU := Lib.hid (HTl.out u1 _ _ HK4.out rfl rfl)
      obtain ⟨a0, a1, a2, a3, a4, a5⟩ := box6R HN4.out
      rcases htl : tl with _ | x
      · subst htl
        go_upto_region 13 with (go_at_call 40; refine HTU.out.mono ?_; rintro e w4 ⟨rfl, hB4⟩; simp only [kyV, Option.getD_none, Option.isSome_none])
        generalize hV : World.alloc w4 _ = V
        have HB5 := Lib.hid (show Below u1.heap.size u1 V by rw [← hV]; exact below_new hB4 _)
        clear hV hB4 a0 a1 a2 a3 a4 a5
        have HN5 := Lib.hid (old_later HN4.out HB5.out)
        have HK5 := Lib.hid ((HK4.out.later HB5.out).mono (m := n + 2) (by omega))
        have HR5 := Lib.hid (HR4.out.up HB5.out)
        obtain ⟨a0, a1, a2, a3, a4, a5⟩ := box6R HN5.out
        have HCU := Lib.hid (HCt.out V _ HK5.out rfl rfl)
        go_wp2_with (go_at_call 42; refine HCU.out.mono ?_; rintro e w6 ⟨⟨_, rfl⟩, hk6, hT6⟩)
        go_ret
        exact ⟨aL, cL, rfl, row_touchX HK5.out hT6 HR5.out, by rw [HST.out]; exact hk6, touch_on (touch_below HT4.out HB5.out) hT6⟩
      · subst htl
        have HXW := Lib.hid (HTW.out x rfl)
        obtain ⟨x1, x2, x3⟩ := x
        go_upto_region 12 with (go_at_call 40; refine HTU.out.mono ?_; rintro e w4 ⟨rfl, hB4⟩; simp only [kyV, Option.getD_some, Option.isSome_some])
        generalize hV : World.alloc w4 _ = V
        have HB5 := Lib.hid (show Below u1.heap.size u1 V by rw [← hV]; exact below_new hB4 _)
        have HM5 : Hid (V.heap[w4.heap.size]? = some (.cells #[.int .u8 x1, .int .i64 x2, .int .i64 x3] 75)) := Lib.hid (by rw [← hV]; exact heap_alloc_new _ _)
        clear hV hB4 a0 a1 a2 a3 a4 a5
        have HN5 := Lib.hid (old_later HN4.out HB5.out)
        have HK5 := Lib.hid (HK4.out.later HB5.out)
        have HR5 := Lib.hid (HR4.out.up HB5.out)
        obtain ⟨m0, m1, m2⟩ := box3R HM5.out
        have HTE := Lib.hid (tell_any HK5.out (by omega) (upd_len HLn.out HLL.out) (x1, x2, x3) HXW.out aL cL _ HR5.out HLL.out)
        simp only [kyV] at HTE
        go_upto_region 13 with (go_at_call 41; refine HTE.out.mono ?_; rintro e w6 ⟨⟨_, rfl⟩, hk6, hT6⟩)
        have HK6 := Lib.hid hk6
        have HT6 := Lib.hid hT6
        have HN6 := Lib.hid (old_touchX HK5.out hT6 HN5.out)
        have HR6 := Lib.hid (row_touchX HK5.out hT6 HR5.out)
        clear hk6 hT6 m0 m1 m2
        obtain ⟨a0, a1, a2, a3, a4, a5⟩ := box6R HN6.out
        have HCU := Lib.hid (HCt.out w6 _ HK6.out rfl rfl)
        go_wp2_with (go_at_call 42; refine HCU.out.mono ?_; rintro e w7 ⟨⟨_, rfl⟩, hk7, hT7⟩)
        go_ret
        exact ⟨aL, cL, rfl, row_touchX HK6.out hT7 HR6.out, by rw [HST.out]; exact hk7, touch_on (touch_on (touch_below HT4.out HB5.out) HT6.out) hT7⟩
end Go.Proofs.Ytgikoajclkfoiaa
