/- The document's Find and Racy. -/
import Derived.Test.YtgikoajclkfoiaaRaceRef2M
import Derived.Test.YtgikoajclkfoiaaRefOrd4
import Derived.Test.YtgikoajclkfoiaaRaceSame
import Derived.Maps.AppendAt
import Derived.Deep.RegionHeld3
namespace Go.Proofs.Ytgikoajclkfoiaa
set_option linter.unusedVariables false
set_option linter.unusedSimpArgs false
set_option maxRecDepth 100000
open Go.ChangeShapes Go.WideShapes Go.ChangeAt Go.RowKit Go.Maps

/-- The races so far, and the program's box. -/
structure FdI (w u : World) (vs : Array Value) (L : List (Int × Int)) (v : Value) : Prop where
  row : u.ownsRow (w.heap.size + 1) 43 2 v L.length (rcCells L)
  pb : u.heap[w.heap.size]? = some (.cells vs 32)
  low : Below w.heap.size w u
theorem FdI.later {w u u' : World} {vs : Array Value} {L : List (Int × Int)} {v : Value} (h : FdI w u vs L v) (hB : Below u.heap.size u u') : FdI w u' vs L v := ⟨own_later h.row hB, old_later h.pb hB, below_next h.low hB⟩
theorem FdI.push {w u u' : World} {vs : Array Value} {L : List (Int × Int)} {v v' : Value} {x : Int × Int} {o : Obj} (h : FdI w u vs L v)
    (hown : u'.ownsRow (w.heap.size + 1) 43 2 v' (L.length + 1) (rcCells L ++ [.int .i64 x.1, .int .i64 x.2])) (hgrow : (u.alloc o).grownBy u' v.ownBlock) : FdI w u' vs (L ++ [x]) v' := by
  have hlt : w.heap.size < u.heap.size := (Array.getElem?_eq_some_iff.1 h.pb).1
  refine ⟨by rw [rcCells_snoc, List.length_append]; exact hown, ?_, (below_new h.low o).trans ((Below.refl _ _).grown hgrow (by simp; omega) (fun g e => by have := (own_lt h.row g e).2; omega))⟩
  refine (hgrow.block w.heap.size (by simp; omega) (fun e => ?_)).trans (old_alloc h.pb _)
  have := (own_lt h.row _ e.symm).2
  omega
/-- What is marked lies in a block of its own. -/
def PsI (u : World) (g : Nat) (s : Nat → Bool) (n : Nat) (v : Value) : Prop := (∃ (cur : Array Value) (fr : Nat × Nat), u.heap[g]? = some (.cells cur 3 fr) ∧ ∀ i, i < n → cur[i]? = some (.int .i64 (if s i then 1 else 0))) ∧ v.ownBlock ≠ some g
theorem PsI.later {u u' : World} {g : Nat} {s : Nat → Bool} {n : Nat} {v : Value} (h : PsI u g s n v) (hB : Below u.heap.size u u') : PsI u' g s n v := by
  obtain ⟨⟨cur, fr, h1, h2⟩, h3⟩ := h
  exact ⟨⟨cur, fr, old_later h1 hB, h2⟩, h3⟩
theorem PsI.cell {u : World} {g : Nat} {s : Nat → Bool} {n : Nat} {v : Value} (h : PsI u g s n v) {i : Nat} (hi : i < n) : u.cell? ⟨g, i, none⟩ = some (.int .i64 (if s i then 1 else 0)) := by
  obtain ⟨⟨cur, fr, h1, h2⟩, h3⟩ := h
  rw [cell_of_row _ _ _ _ _ _ h1]; exact h2 i hi
theorem PsI.push {u u' : World} {g : Nat} {s : Nat → Bool} {n : Nat} {v v' : Value} {o : Obj} (h : PsI u g s n v) (hgrow : (u.alloc o).grownBy u' v.ownBlock) (hat : v'.ownBlock = v.ownBlock ∨ v'.ownBlock = some (u.alloc o).heap.size) : PsI u' g s n v' := by
  obtain ⟨⟨cur, fr, h1, h2⟩, h3⟩ := h
  have hlt : g < u.heap.size := (Array.getElem?_eq_some_iff.1 h1).1
  refine ⟨⟨cur, fr, (hgrow.block g (by simp; omega) (fun e => h3 e.symm)).trans (old_alloc h1 _), h2⟩, ?_⟩
  rcases hat with e | e
  · rw [e]; exact h3
  · rw [e]
    intro e'
    injection e' with e'
    simp at e'
    omega
theorem PsI.of {w u V : World} {vs : Array Value} {L : List (Int × Int)} {v : Value} {chans : List Int} {t : List EvD} {g j : Nat} (hF : FdI w u vs L v)
    (ho : V.ownsRow u.heap.size 3 1 (.slice (some ⟨g, 0, none⟩) t.length t.length) t.length ((mkI (fun i => befI chans t (i : Nat) j) t.length).map (.int .i64 ·))) : PsI V g (fun i => befI chans t (i : Nat) j) t.length v := by
  have hl := ho.1
  rcases ho.2 with ⟨h0, _⟩ | ⟨g', cap, cur, e', hb, hh, hle, hcap, hsz, ht⟩
  · cases h0
  · cases e'
    refine ⟨⟨cur, _, hh, fun i hi => ?_⟩, fun e => ?_⟩
    · have h1 := mkI_at (fun i => befI chans t (i : Nat) j) hi
      have h2 : ((mkI (fun i => befI chans t (i : Nat) j) t.length).map (Value.int .i64 ·))[i]? = some (.int .i64 (if befI chans t (i : Nat) j then 1 else 0)) := by rw [List.getElem?_map, h1]; rfl
      rw [← ht, List.getElem?_take_of_lt (by omega)] at h2
      simpa using h2
    · have := (own_lt hF.row _ e).1
      omega
theorem befI_at {chans : List Int} {t : List EvD} {i j : Nat} (hi : i < j) (hj : j < t.length) : befI chans t (i : Nat) (j : Nat) = befB (dirB chans t) i j := by
  unfold befI
  rw [riseB_iff.2 ⟨by omega, by omega, by omega⟩]
  simp
def RFindE (chans : List Int) (t : List EvD) (w : World) (e : Ending) (W' : World) : Prop := ∃ v, e = .returned v ∧ W'.ownsRow w.heap.size 43 2 v (rfL chans t).length (rcCells (rfL chans t)) ∧ Below w.heap.size w W'
theorem two_newR (w : World) (x y : Int) (t : TypeId) : ∀ j u, ([.int .i64 x, .int .i64 y] : List Value)[j]? = some u → (w.alloc (.cells #[.int .i64 x, .int .i64 y] t)).cell? ((⟨w.heap.size, 0, none⟩ : Addr).add j) = some u := by
  intro j u hj
  rw [Addr.add_mid, Nat.zero_add, cell_of_row _ _ _ _ _ _ (heap_alloc_new _ _)]
  simpa using hj
set_option maxHeartbeats 16000000 in
theorem rfind_any (v0 v1 v2 : Value) (ca : Option Addr) (cc : Nat) (chans : List Int) (v4 v5 v6 : Value) (a : Option Addr) (cap : Nat) (t : List EvD) (w : World) (hc : ChIn w ca chans) (he : EvsIn w w.heap.size a t) (hl : t.length ≤ 1000000) (hv : (#[v0, v1, v2, .slice ca chans.length cc, v4, v5, v6] : Array Value).all (·.oneCell') = true) :
    Calls Try.prog 14 #[.agg #[v0, v1, v2, .slice ca chans.length cc, v4, v5, v6], .slice a t.length cap] w (RFindE chans t w) := by
  obtain ⟨i0, hi0, hz0, hz1, hz2⟩ := info_parts info_race
  have HE := Lib.hid he
  have HMk := Lib.hid (fun W (hB : Below w.heap.size w W) (j : Nat) => marks_any v0 v1 v2 ca cc chans v4 v5 v6 a cap t j W (hc.later hB) (he.later hB) hl hv)
  clear he hc
  simp only [List.all_toArray, List.all_cons, List.all_nil, Bool.and_true, Bool.and_eq_true] at hv
  obtain ⟨o0, o1, o2, o3, o4, o5, o6⟩ := hv
  have HR0 : Hid (¬ fitsB t = true → rfL chans t = []) := Lib.hid (fun h => by unfold rfL; rw [if_neg h])
  have HR1 : Hid (fitsB t = true → docUp chans t t.length = rfL chans t) := Lib.hid (fun h => by unfold rfL; rw [if_pos h]; rfl)
  unfold RFindE
  generalize rfL chans t = R at *
  go_enter Try.func14, Try.ntmps14
  go_upto_region 1 with (fail)
  generalize hV : World.alloc w _ = V
  have HB := Lib.hid (show Below w.heap.size w V by rw [← hV]; exact below_box _ _)
  have HF0 : Hid (FdI w V #[v0, v1, v2, .slice ca chans.length cc, v4, v5, v6] (docUp chans t 0) (.slice none 0 0)) := Lib.hid ⟨World.ownsRow_nil _ _ _ _, by rw [← hV]; exact heap_alloc_new _ _, HB.out⟩
  clear hV
  go_wp2_with fail
  go_loopw [6] (fun i u => ∃ k : Nat, k ≤ t.length ∧ i = .int .i64 k ∧ (1 ≤ k → t.length ≤ 2000) ∧ (∀ (m : Nat) (e : EvD), m < k → t[m]? = some e → thIn e = true) ∧ u = V) (fun i _ => t.length - (intOf i).toNat)
  case atStart => exact ⟨0, Nat.zero_le _, rfl, fun h => by omega, fun m e hm => by omega, rfl⟩
  case round =>
    obtain ⟨k, hk, rfl, hk2, hgo, rfl⟩ := hrel
    have HK2 := Lib.hid hk2
    have HGO := Lib.hid hgo
    clear hk2 hgo
    by_cases hlt : k < t.length
    · obtain ⟨e, hx⟩ := at_lt hlt
      obtain ⟨g, o, rfl, hg, h0, h1, h2, h3, h4, h5⟩ := (HE.out.later HB.out) k e hx
      have HNo := Lib.hid (fun h => HR0.out (fits_not hx h))
      have HTh := Lib.hid (show thIn e = (decide (0 ≤ e.th) && decide (e.th < 6)) from rfl)
      have HX := Lib.hid hx
      have hlt' : (k : Int) < (t.length : Int) := by omega
      clear h1 h2 h3 h4 h5 hx
      generalize e.th = A at *
      by_cases hn : 2000 < t.length
      · have hn' : decide ((2000 : Int) < (t.length : Int)) = true := decide_eq_true (by omega)
        go_wp2
        go_ret
        exact ⟨_, rfl, by rw [HNo.out (fun h => by omega)]; exact World.ownsRow_nil _ _ _ _, HB.out⟩
      have hn' : decide ((2000 : Int) < (t.length : Int)) = false := decide_eq_false (by omega)
      have hn'' : decide (2000 < t.length) = false := decide_eq_false (by omega)
      by_cases ha : A < 0
      · have ha' : decide (A < 0) = true := decide_eq_true ha
        go_wp2
        go_ret
        exact ⟨_, rfl, by rw [HNo.out (fun h => by have := HTh.out.symm.trans h.2; simp at this; omega)]; exact World.ownsRow_nil _ _ _ _, HB.out⟩
      have ha' : decide (A < 0) = false := decide_eq_false ha
      by_cases hb : 5 < A
      · have hb' : decide (5 < A) = true := decide_eq_true hb
        go_wp2
        go_ret
        exact ⟨_, rfl, by rw [HNo.out (fun h => by have := HTh.out.symm.trans h.2; simp at this; omega)]; exact World.ownsRow_nil _ _ _ _, HB.out⟩
      have hb' : decide (5 < A) = false := decide_eq_false hb
      go_wp2_with fail
      go_roundw
      case rel => exact ⟨k + 1, by omega, by go_num, fun _ => by omega, fun m e' hm he' => by
        by_cases hmk : m < k
        · exact HGO.out m e' hmk he'
        · obtain rfl : m = k := by omega
          have := HX.out.symm.trans he'
          cases this
          rw [HTh.out]
          simp; omega, trivial⟩
      case measure => simp [intOf]; omega
    · obtain rfl : k = t.length := by omega
      have HFit : Hid (fitsB t = true) := Lib.hid (fits_of HK2.out (fun i e hi he => HGO.out i e hi he))
      have HR := Lib.hid (HR1.out HFit.out)
      clear hlt
      go_wp2_with fail
      go_loopw [5, 7] (fun v j u => ∃ q : Nat, q ≤ t.length ∧ j = .int .i64 q ∧ FdI w u #[v0, v1, v2, .slice ca chans.length cc, v4, v5, v6] (docUp chans t q) v) (fun v j _ => t.length - (intOf j).toNat)
      case atStart => exact ⟨0, Nat.zero_le _, rfl, HF0.out⟩
      case round =>
        obtain ⟨q, hq, rfl, hF⟩ := hrel
        have HF := Lib.hid hF
        clear hF
        by_cases hlt : q < t.length
        · obtain ⟨e, hx⟩ := at_lt hlt
          obtain ⟨g, o, rfl, hg, h0, h1, h2, h3, h4, h5⟩ := (HE.out.later HF.out.low) q e hx
          have hlt' : (q : Int) < (t.length : Int) := by omega
          have HUp := Lib.hid (docUp_succ (chans := chans) hx)
          have HTo := Lib.hid (show toB e = (e.op == 7 || e.op == 8) from rfl)
          have HLen := Lib.hid (docUp_len chans t q (by omega))
          have HX := Lib.hid hx
          clear hx
          by_cases htc : toB e = true
          · rw [if_pos htc] at HUp
            have HMk2 := Lib.hid (HMk.out _ HF.out.low q)
            obtain ⟨p0, p1, p2, p3, p4, p5, p6⟩ := box7R HF.out.pb
            have hop : ((e.op != 7) = false) ∨ ((e.op != 7) = true ∧ (e.op != 8) = false) := by
              have := HTo.out.symm.trans htc
              simp at this ⊢
              omega
            clear h0 h1 h3 h4 h5
            rcases hop with hop | ⟨hop, hop2⟩
            all_goals
              go_upto_region 12 with (go_at_call 16; refine HMk2.out.mono ?_; rintro e6 w6 ⟨gm, rfl, hom, hBm⟩)
              have HP6 := Lib.hid (PsI.of HF.out hom)
              have HF6 : Hid (FdI w w6 #[v0, v1, v2, .slice ca chans.length cc, v4, v5, v6] (midUp chans t q e 0) _) := Lib.hid (by rw [midUp_zero]; exact HF.out.later hBm)
              clear hom hBm HF p0 p1 p2 p3 p4 p5 p6 h2 hop HTo
              go_wp2_with fail
              go_loopw [5, 9] (fun v c u => ∃ m : Nat, m ≤ 6 ∧ c = .int .i64 m ∧ FdI w u #[v0, v1, v2, .slice ca chans.length cc, v4, v5, v6] (midUp chans t q e m) v ∧ PsI u gm (fun i => befI chans t (i : Nat) (q : Nat)) t.length v) (fun v c _ => 6 - (intOf c).toNat)
              case atStart => exact ⟨0, by omega, rfl, HF6.out, HP6.out⟩
              case round =>
                obtain ⟨m, hm, rfl, hF, hP⟩ := hrel
                have HF := Lib.hid hF
                have HP := Lib.hid hP
                clear hF hP HF6 HP6
                have HML := Lib.hid (midUp_len chans t q e m)
                have HMS := Lib.hid (midUp_succ chans t q e m)
                by_cases hm6 : m < 6
                · have hm6' : (m : Int) < 6 := by omega
                  have HLB := Lib.hid (fun d => lastI_bounds (P := cfP t e m) d)
                  go_wp2_with fail
                  go_loopw [10, 11] (fun b c u => ∃ d : Nat, d ≤ q ∧ c = .int .i64 d ∧ b = .int .i64 (lastI (lastP (cfP t e m) d)) ∧ Below wr.heap.size wr u) (fun b c _ => q - (intOf c).toNat)
                  case atStart => exact ⟨0, Nat.zero_le _, rfl, rfl, Below.refl _ _⟩
                  case round =>
                    obtain ⟨d, hd, rfl, rfl, hBd⟩ := hrel
                    have HBd := Lib.hid hBd
                    clear hBd
                    by_cases hdq : d < q
                    · have hdq' : (d : Int) < (q : Int) := by omega
                      have hdt' : (d : Int) < (t.length : Int) := by omega
                      obtain ⟨e', hx'⟩ := at_lt (l := t) (k := d) (by omega)
                      have hEW := HE.out.later (below_next HF.out.low HBd.out)
                      obtain ⟨g1, o1, ea, hg1, hE1⟩ := hEW d e' hx'
                      cases ea
                      obtain ⟨g2, o2, ea, hg2, hE2⟩ := hEW q e HX.out
                      cases ea
                      have HE1 := Lib.hid hE1
                      have HE2 := Lib.hid hE2
                      obtain ⟨c0, c1, c2, c3, c4, c5⟩ := hE1
                      obtain ⟨d0, d1, d2, d3, d4, d5⟩ := hE2
                      have HCF := Lib.hid (conflict_any e' e)
                      have HPa := Lib.hid (cfP_at hx' e m)
                      clear hEW hx'
                      generalize hcb : cfB e' e = CB at *
                      obtain ⟨th, pc, op, obj, val, mode⟩ := e
                      obtain ⟨th', pc', op', obj', val', mode'⟩ := e'
                      simp only at c0 c1 c2 c3 c4 c5 d0 d1 d2 d3 d4 d5 HPa
                      rcases hth : (th' == (m : Int)) with _ | _
                      · have HNx := Lib.hid (lastP_no (P := cfP t ⟨th, pc, op, obj, val, mode⟩ m) (j := d) (by rw [HPa.out, hth]; rfl))
                        clear hcb
                        go_upto_region 19 with (fail)
                        go_quiet (fail)
                        go_wp2_with fail
                        go_roundw
                        case rel => exact ⟨d + 1, by omega, by go_num, by rw [HNx.out], below_drewN HBd.out _⟩
                        case measure => simp [intOf]; omega
                      · have HKX : Hid (∀ u : World, Below wr.heap.size wr u → (u.cell? ⟨g, o + d * 6, none⟩ = some (.int .i64 th') ∧ u.cell? ⟨g, o + d * 6 + 1, none⟩ = some (.int .i64 pc') ∧ u.cell? ⟨g, o + d * 6 + 2, none⟩ = some (.int .u8 op') ∧ u.cell? ⟨g, o + d * 6 + 3, none⟩ = some (.int .i64 obj') ∧ u.cell? ⟨g, o + d * 6 + 4, none⟩ = some (.int .i64 val') ∧ u.cell? ⟨g, o + d * 6 + 5, none⟩ = some (.int .i64 mode') ∧ u.cell? ⟨g, o + q * 6, none⟩ = some (.int .i64 th) ∧ u.cell? ⟨g, o + q * 6 + 1, none⟩ = some (.int .i64 pc) ∧ u.cell? ⟨g, o + q * 6 + 2, none⟩ = some (.int .u8 op) ∧ u.cell? ⟨g, o + q * 6 + 3, none⟩ = some (.int .i64 obj) ∧ u.cell? ⟨g, o + q * 6 + 4, none⟩ = some (.int .i64 val) ∧ u.cell? ⟨g, o + q * 6 + 5, none⟩ = some (.int .i64 mode))) := Lib.hid (fun u hB => by
                          obtain ⟨a0, a1, a2, a3, a4, a5⟩ := HE1.out.later hB
                          obtain ⟨b0, b1, b2, b3, b4, b5⟩ := HE2.out.later hB
                          exact ⟨a0, a1, a2, a3, a4, a5, b0, b1, b2, b3, b4, b5⟩)
                        clear c0 c1 c2 c3 c4 c5 d0 d1 d2 d3 d4 d5
                        have HL := Lib.hid (Below.refl wr.heap.size wr).drew
                        rcases CB with _ | _
                        · have HNx := Lib.hid (lastP_no (P := cfP t ⟨th, pc, op, obj, val, mode⟩ m) (j := d) (by rw [HPa.out, hth]; rfl))
                          clear hcb HE1 HE2
                          go_upto_region 19 with (fail)
                          have KX := HKX.out _ HL.out
                          go_region_held3 (fun u => u.cell? ⟨g, o + d * 6, none⟩ = some (.int .i64 th') ∧ u.cell? ⟨g, o + d * 6 + 1, none⟩ = some (.int .i64 pc') ∧ u.cell? ⟨g, o + d * 6 + 2, none⟩ = some (.int .u8 op') ∧ u.cell? ⟨g, o + d * 6 + 3, none⟩ = some (.int .i64 obj') ∧ u.cell? ⟨g, o + d * 6 + 4, none⟩ = some (.int .i64 val') ∧ u.cell? ⟨g, o + d * 6 + 5, none⟩ = some (.int .i64 mode') ∧ u.cell? ⟨g, o + q * 6, none⟩ = some (.int .i64 th) ∧ u.cell? ⟨g, o + q * 6 + 1, none⟩ = some (.int .i64 pc) ∧ u.cell? ⟨g, o + q * 6 + 2, none⟩ = some (.int .u8 op) ∧ u.cell? ⟨g, o + q * 6 + 3, none⟩ = some (.int .i64 obj) ∧ u.cell? ⟨g, o + q * 6 + 4, none⟩ = some (.int .i64 val) ∧ u.cell? ⟨g, o + q * 6 + 5, none⟩ = some (.int .i64 mode)) (first | with_reducible exact KX | fail)
                            (first | (go_at_call 17; refine (HCF.out _).mono ?_; rintro e5 w5 ⟨rfl, hB⟩; have HL := Lib.hid (below_next HL.out hB); have KX := HKX.out _ HL.out; clear hB))
                          go_wp2_with fail
                          go_roundw
                          case rel => exact ⟨d + 1, by omega, by go_num, by rw [HNx.out], below_next HBd.out HL.out⟩
                          case measure => simp [intOf]; omega
                        · have HNx := Lib.hid (lastP_yes (P := cfP t ⟨th, pc, op, obj, val, mode⟩ m) (j := d) (by rw [HPa.out, hth]; rfl))
                          clear hcb HE1 HE2
                          go_upto_region 19 with (fail)
                          have KX := HKX.out _ HL.out
                          go_region_held3 (fun u => u.cell? ⟨g, o + d * 6, none⟩ = some (.int .i64 th') ∧ u.cell? ⟨g, o + d * 6 + 1, none⟩ = some (.int .i64 pc') ∧ u.cell? ⟨g, o + d * 6 + 2, none⟩ = some (.int .u8 op') ∧ u.cell? ⟨g, o + d * 6 + 3, none⟩ = some (.int .i64 obj') ∧ u.cell? ⟨g, o + d * 6 + 4, none⟩ = some (.int .i64 val') ∧ u.cell? ⟨g, o + d * 6 + 5, none⟩ = some (.int .i64 mode') ∧ u.cell? ⟨g, o + q * 6, none⟩ = some (.int .i64 th) ∧ u.cell? ⟨g, o + q * 6 + 1, none⟩ = some (.int .i64 pc) ∧ u.cell? ⟨g, o + q * 6 + 2, none⟩ = some (.int .u8 op) ∧ u.cell? ⟨g, o + q * 6 + 3, none⟩ = some (.int .i64 obj) ∧ u.cell? ⟨g, o + q * 6 + 4, none⟩ = some (.int .i64 val) ∧ u.cell? ⟨g, o + q * 6 + 5, none⟩ = some (.int .i64 mode)) (first | with_reducible exact KX | fail)
                            (first | (go_at_call 17; refine (HCF.out _).mono ?_; rintro e5 w5 ⟨rfl, hB⟩; have HL := Lib.hid (below_next HL.out hB); have KX := HKX.out _ HL.out; clear hB))
                          go_wp2_with fail
                          go_roundw
                          case rel => exact ⟨d + 1, by omega, by go_num, by rw [HNx.out]; rfl, below_next HBd.out HL.out⟩
                          case measure => simp [intOf]; omega
                    · obtain rfl : d = q := by omega
                      have HF2 := Lib.hid (HF.out.later HBd.out)
                      have HP2 := Lib.hid (HP.out.later HBd.out)
                      have hmm : (midUp chans t d e m).length ≤ 7000000 := by have := HML.out; have := HLen.out; omega
                      rcases hL : lastP (cfP t e m) d with _ | i
                      · have HNx : Hid (midUp chans t d e (m + 1) = midUp chans t d e m) := Lib.hid (by rw [HMS.out, rf1_none hL]; simp)
                        have hLL : lastI (none : Option Nat) = -1 := rfl
                        rw [hLL]
                        clear hL hLL
                        go_wp2_with fail
                        go_roundw
                        case rel => exact ⟨m + 1, by omega, by go_num, by rw [HNx.out]; exact HF2.out, HP2.out⟩
                        case measure => simp [intOf]; omega
                      · have hid := (lastP_some hL).1
                        have hit : i < t.length := by omega
                        have hit' : (i : Int) < (t.length : Int) := by omega
                        have hi0' : decide ((0 : Int) ≤ (i : Int)) = true := decide_eq_true (by omega)
                        have ci := HP2.out.cell hit
                        simp only [befI_at hid (by omega)] at ci
                        have HRf := Lib.hid (rf1_some (chans := chans) hL)
                        have hLL : lastI (some i) = (i : Int) := rfl
                        rw [hLL]
                        clear hL hLL
                        rcases hb : befB (dirB chans t) i d with _ | _
                        · have HNx : Hid (midUp chans t d e (m + 1) = midUp chans t d e m ++ [((i : Int), (d : Int))]) := Lib.hid (by rw [HMS.out, HRf.out, hb]; rfl)
                          rw [hb] at ci
                          simp only [Bool.false_eq_true, if_false] at ci
                          clear hb
                          obtain ⟨xa, xc, rfl⟩ := own_slice0 HF2.out.row
                          go_wp2_with (first
                            | (at_builtin; refine wpList_append_own_at _ rfl _ _ 37 rfl (w.heap.size + 1) 43 i0 (.agg #[.int .i64 0, .int .i64 0]) 2 16 Try.underlying37 hi0 hz0 hz1 hz2 rfl (by decide) (.slice xa (midUp chans t d e m).length xc) _ _ rfl (own_later HF2.out.row (below_box wr _)) ⟨wr.heap.size, 0, none⟩ 1 1 [.int .i64 (i : Int), .int .i64 (d : Int)] rfl rfl (two_newR wr _ _ _) (by simp [Value.oneCell']) (by unfold maxLen; omega) (by omega) (by have := (Array.getElem?_eq_some_iff.1 HF2.out.pb).1; simp; omega) ?_; intro v6 w6 hown6 hgrow6 _ hat6
                               have HF7 := Lib.hid (HF2.out.push (x := ((i : Int), (d : Int))) hown6 hgrow6)
                               have HP7 := Lib.hid (HP2.out.push hgrow6 hat6)
                               clear hown6 hgrow6 hat6))
                          go_roundw
                          case rel => exact ⟨m + 1, by omega, by go_num, by rw [HNx.out]; exact HF7.out, HP7.out⟩
                          case measure => simp [intOf]; omega
                        · have HNx : Hid (midUp chans t d e (m + 1) = midUp chans t d e m) := Lib.hid (by rw [HMS.out, HRf.out, hb]; simp)
                          rw [hb] at ci
                          simp only [if_true] at ci
                          clear hb
                          go_wp2_with fail
                          go_roundw
                          case rel => exact ⟨m + 1, by omega, by go_num, by rw [HNx.out]; exact HF2.out, HP2.out⟩
                          case measure => simp [intOf]; omega
                · obtain rfl : m = 6 := by omega
                  go_wp2_with fail
                  go_roundw
                  case rel => exact ⟨q + 1, by omega, by go_num, by rw [HUp.out]; exact HF.out⟩
                  case measure => simp [intOf]; omega
          · rw [if_neg htc] at HUp
            have hop : (e.op != 7) = true := by
              have := HTo.out
              rw [Bool.eq_false_iff.2 htc] at this
              simp at this ⊢
              omega
            have hop2 : (e.op != 8) = true := by
              have := HTo.out
              rw [Bool.eq_false_iff.2 htc] at this
              simp at this ⊢
              omega
            go_wp2_with fail
            go_roundw
            case rel => exact ⟨q + 1, by omega, by go_num, by rw [HUp.out]; exact HF.out⟩
            case measure => simp [intOf]; omega
        · obtain rfl : q = t.length := by omega
          go_wp2
          go_ret
          exact ⟨_, rfl, by rw [← HR.out]; exact own_base HF.out.row (by omega), HF.out.low⟩
end Go.Proofs.Ytgikoajclkfoiaa
