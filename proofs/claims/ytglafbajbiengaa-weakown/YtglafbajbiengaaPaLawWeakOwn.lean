/- WeakOwn: a load behind a store of the same thread never reads what was there ahead of that; for every input. -/
import Derived.Deep.QuietTactic
import Derived.BigQuiet
import Derived.ChangeMaps5
import Derived.Test.YtglafbajbiengaaPa1
import Derived.Test.YtglafbajbiengaaPa2
import Derived.Test.YtglafbajbiengaaPa3
import Derived.Test.YtglafbajbiengaaPa4
import Derived.Test.YtglafbajbiengaaPa5
import Derived.Test.YtglafbajbiengaaPa6
import Derived.Test.YtglafbajbiengaaPa7
import Derived.Test.YtglafbajbiengaaPa8
import Derived.Test.YtglafbajbiengaaPa9
import Derived.Test.YtglafbajbiengaaPa10
import Derived.Test.YtglafbajbiengaaPa11
import Derived.Test.YtglafbajbiengaaPa12
import Derived.Test.YtglafbajbiengaaPa13
import Derived.Test.YtglafbajbiengaaPa14
import Derived.Test.YtglafbajbiengaaPa15
import Derived.Test.YtglafbajbiengaaPa16
import Derived.Test.YtglafbajbiengaaPa17
import Derived.Test.YtglafbajbiengaaPa18
import Derived.Test.YtglafbajbiengaaPa19
import Derived.Test.YtglafbajbiengaaPa20
import Derived.Test.YtglafbajbiengaaPa21
import Derived.Test.YtglafbajbiengaaPa22
import Derived.Test.YtglafbajbiengaaPa23
import Derived.Test.YtglafbajbiengaaPa24
import Derived.Test.YtglafbajbiengaaPa25
namespace Go.Proofs.Ytglafbajbiengaa
set_option linter.unusedVariables false
set_option linter.unusedSimpArgs false
open Go.ChangeShapes Go.WideShapes Go.ChangeAt Go.RowKit

def c11W : List Int := [1, 1]
theorem wfW {v : Int} (h : v = 0 ∨ v = 1 ∨ v = 2) : Wf v := by rcases h with rfl | rfl | rfl <;> (unfold Wf; kernel_rfl)
set_option maxRecDepth 100000 in
set_option maxHeartbeats 16000000 in
theorem weakOwn_walk (ra : Option Addr) (rc : Nat) (l : List (Nat × Nat)) (x y : Int) (w : World) (h : RawIn w ra l) (hl : l.length ≤ 9223372036854775807) (hx : (Lit.int .u8 x).wf = true) (hy : (Lit.int .u8 y).wf = true) :
    Calls Try.prog 3 #[.slice ra l.length rc, .int .u8 x, .int .u8 y] w fun e w' => e = .returned (.bool true) ∧ Below w.heap.size w w' := by
  obtain ⟨x0, x1⟩ := bounds_u8 hx
  obtain ⟨y0, y1⟩ := bounds_u8 hy
  clear hx hy
  obtain ⟨x, rfl⟩ : ∃ q : Nat, x = q := ⟨x.toNat, by omega⟩
  obtain ⟨y, rfl⟩ : ∃ q : Nat, y = q := ⟨y.toNat, by omega⟩
  have HT0 := Lib.hid (trace_any ra rc l w h hl)
  have HKW := Lib.hid (fun V => known9_any V)
  clear h
  go_enter Try.func3, Try.ntmps3
  go_upto_region 2 with (go_at_call 4; refine HT0.out.mono ?_; rintro e V1 ⟨v, rfl, xa, xc, rfl, hxc, hxo, hxB⟩)
  have HEV := Lib.hid (evsIn_own hxo)
  have htl : (trL l).length ≤ 25 := by rw [trL_len]; omega
  have HWF := Lib.hid (trL_wf l)
  have HB1 := Lib.hid hxB
  generalize trL l = tr at *
  clear hxo hxB HT0
  go_upto_region 6 with (fail)
  have hm : (if (18 : Int) < (tr.length : Int) then (18 : Int) else (tr.length : Int)) = ((tr.take 18).length : Int) := by
    rw [List.length_take]; split <;> omega
  simp only [hm, Int.toNat_natCast]
  have hxc2 : (tr.take 18).length ≤ xc := by rw [List.length_take]; omega
  have htl2 : (tr.take 18).length ≤ 18 := by rw [List.length_take]; omega
  have HEV := Lib.hid (HEV.out.take 18)
  have HWF : Hid (∀ e ∈ tr.take 18, EvW e) := Lib.hid (fun e he => HWF.out e (List.mem_of_mem_take he))
  generalize tr.take 18 = t at *
  clear hm hxc htl
  have hTw : Wf ((x : Int) % 3) := wfW (by omega)
  have hXw : Wf ((y : Int) % 2) := wfW (by omega)
  generalize (x : Int) % 3 = TH at *
  generalize (y : Int) % 2 = X at *
  have HTw := Lib.hid hTw
  have HXw := Lib.hid hXw
  clear hTw hXw x0 x1 y0 y1
  have HL0 := Lib.hid (Below.refl V1.heap.size V1)
  go_wp2_with fail
  go_loopw [10, 11] (fun c j u => ∃ q : Nat, q ≤ t.length ∧ j = .int .i64 q ∧ c = .int .i64 (lastO t TH X q) ∧ Below V1.heap.size V1 u) (fun _ j _ => t.length - (intOf j).toNat)
  case atStart => exact ⟨0, Nat.zero_le _, rfl, rfl, HL0.out⟩
  case round =>
    obtain ⟨q, hq, rfl, rfl, hB⟩ := hrel
    have HB := Lib.hid hB
    clear hB
    by_cases hlt : q < t.length
    · obtain ⟨e, hx⟩ := at_lt hlt
      have hlt' : (q : Int) < (t.length : Int) := by omega
      have HNX : Hid (lastO t TH X (q + 1) = if (e.th == TH && (e.op == 8 && e.obj == X)) = true then (q : Int) else lastO t TH X q) := Lib.hid (by
        rw [lastO, ownP_at hx]; rfl)
      obtain ⟨g, o, rfl, hg, e0, e1, e2, e3, e4, e5⟩ := HEV.out.later HB.out q e hx
      clear hx
      generalize lastO t TH X q = A at *
      obtain ⟨th', pc', op', obj', val', mode'⟩ := e
      simp only at HNX e0 e1 e2 e3 e4 e5
      rcases h1 : (th' == TH) with _ | _
      · have HN2 : Hid (lastO t TH X (q + 1) = A) := Lib.hid (by rw [HNX.out, h1]; rfl)
        go_wp2_with fail
        go_roundw
        case rel => exact ⟨q + 1, by omega, by go_num, by rw [HN2.out], HB.out⟩
        case measure => simp [intOf]; omega
      · rcases h2 : (op' == 8) with _ | _
        · have HN2 : Hid (lastO t TH X (q + 1) = A) := Lib.hid (by rw [HNX.out, h1, h2]; rfl)
          go_wp2_with fail
          go_roundw
          case rel => exact ⟨q + 1, by omega, by go_num, by rw [HN2.out], HB.out⟩
          case measure => simp [intOf]; omega
        · rcases h3 : (obj' == X) with _ | _
          · have HN2 : Hid (lastO t TH X (q + 1) = A) := Lib.hid (by rw [HNX.out, h1, h2, h3]; rfl)
            go_wp2_with fail
            go_roundw
            case rel => exact ⟨q + 1, by omega, by go_num, by rw [HN2.out], HB.out⟩
            case measure => simp [intOf]; omega
          · have HN2 : Hid (lastO t TH X (q + 1) = q) := Lib.hid (by rw [HNX.out, h1, h2, h3]; rfl)
            go_wp2_with fail
            go_roundw
            case rel => exact ⟨q + 1, by omega, by go_num, by rw [HN2.out], HB.out⟩
            case measure => simp [intOf]; omega
    · obtain rfl : q = t.length := by omega
      have HOwn := Lib.hid (fun y (hl : 0 ≤ lastO t TH X t.length) (hy : y ∈ mayL c11W t TH X) (hlt : y < lastO t TH X t.length) => may_own (chans := c11W) (n := t.length) hl hy hlt)
      have hlb := lastO_bd t TH X t.length
      generalize lastO t TH X t.length = LA at *
      have HEw := Lib.hid (HEV.out.later HB.out)
      have HCh : Hid (∀ V, Below (wr.alloc (.cells #[.int .i64 1, .int .i64 1] 3)).heap.size (wr.alloc (.cells #[.int .i64 1, .int .i64 1] 3)) V → ChIn V (some ⟨wr.heap.size, 0, none⟩) c11W) := Lib.hid (fun V hV => by
        refine ChIn.later ⟨fun i x hx => ?_, by simp [c11W], by intro c hc; simp [c11W] at hc; subst hc; omega⟩ hV
        match i, hx with
        | 0, hx => cases hx; exact ⟨_, 0, rfl, by simp, cell_of_row _ _ 0 _ _ _ (heap_alloc_new _ _)⟩
        | 1, hx => cases hx; exact ⟨_, 0, rfl, by simp, cell_of_row _ _ 1 _ _ _ (heap_alloc_new _ _)⟩
        | i + 2, hx => simp [c11W] at hx)
      have HMay := Lib.hid (may_any (.int .i64 0) (.int .i64 0) (.int .i64 0) (some ⟨wr.heap.size, 0, none⟩) 2 c11W (.int .i64 0) (.int .i64 0) (.slice none 0 0) xa xc t TH X (wr.alloc (.cells #[.int .i64 1, .int .i64 1] 3)) (HCh.out _ (Below.refl _ _)) (HEw.out.later (below_box _ _)) HWF.out HTw.out HXw.out (by omega) hxc2 (by simp [Value.oneCell']))
      have HMp := Lib.hid (mayL_pos c11W t TH X)
      have HMf := Lib.hid (fun i a b => may_fall (chans := c11W) (t := t) (th := TH) (x := X) (i := i) (a := a) (b := b))
      have HMb := Lib.hid (fun y => may_bd (chans := c11W) (t := t) (th := TH) (x := X) (y := y))
      have HMl := Lib.hid (mayL_len c11W t TH X)
      unfold MayE at HMay
      generalize mayL c11W t TH X = M at *
      clear HCh
      go_upto_region 12 with (go_at_call 5; refine HMay.out.mono ?_; rintro e V2 ⟨ma, mc, rfl, hr2, hB2⟩)
      have HB2 := Lib.hid (below_next HB.out (below_next (below_box _ _) hB2))
      have HR2 := Lib.hid hr2
      have hMp := HMp.out
      have hMl : M.length ≤ 20 := by have := HMl.out; omega
      have hM0 : ((M.length : Int) == 0) = false := by rw [beq_eq_false_iff_ne]; omega
      have HEt := Lib.hid (fun V (hV : Below V2.heap.size V2 V) => HEV.out.later (below_next HB2.out hV))
      have HV0 := Lib.hid (Below.refl V2.heap.size V2)
      clear hr2 hB2 HMay HEw HEV HWF HTw HXw
      go_wp2_with fail
      go_loopw [13] (fun j u => ∃ q : Nat, q ≤ M.length ∧ j = .int .i64 q ∧ Below V2.heap.size V2 u) (fun j _ => M.length - (intOf j).toNat)
      case atStart => exact ⟨0, Nat.zero_le _, rfl, HV0.out⟩
      case round =>
        obtain ⟨q, hq, rfl, hV⟩ := hrel
        have HV := Lib.hid hV
        clear hV
        by_cases hlt2 : q < M.length
        · obtain ⟨y, hy⟩ := at_lt hlt2
          have hltM : (q : Int) < (M.length : Int) := by omega
          have HY := Lib.hid hy
          obtain ⟨hb0, hb1⟩ := HMb.out y (List.mem_of_getElem? hy)
          obtain ⟨gm, om, rfl, hgm, m0⟩ := HR2.out.later HV.out q y hy
          clear hy
          have hn1 : decide (y < -1) = false := decide_eq_false (by omega)
          have hn2 : decide ((t.length : Int) ≤ y) = false := decide_eq_false (by omega)
          go_upto_region 17 with fail
          by_cases hq0 : q = 0
          · have hq1 : decide ((0 : Int) < (q : Int)) = false := decide_eq_false (by omega)
            have hq1n : decide (0 < q) = false := decide_eq_false (by omega)
            clear hq0
            go_quiet (fail)
            go_upto_region 19 with fail
            rcases hLA : decide ((0 : Int) ≤ LA) with _ | _
            · skip
              go_wp2_with fail
              go_roundw
              case rel => exact ⟨q + 1, by omega, by go_num, by first | exact below_drewN HV.out _ | exact below_drewN (below_drewN HV.out _) _⟩
              case measure => simp [intOf]; omega
            · rcases hyl : decide (y < LA) with _ | _
              · skip
                go_wp2_with fail
                go_roundw
                case rel => exact ⟨q + 1, by omega, by go_num, by first | exact below_drewN HV.out _ | exact below_drewN (below_drewN HV.out _) _⟩
                case measure => simp [intOf]; omega
              · obtain ⟨i, e, rfl, he, hne⟩ := HOwn.out y (by simpa using hLA) (List.mem_of_getElem? HY.out) (by simpa using hyl)
                obtain ⟨g2, o2, rfl, hg2, e0, e1, e2, e3, e4, e5⟩ := HEt.out _ HV.out i e he
                have hin : i < t.length := (List.getElem?_eq_some_iff.1 he).1
                have hin' : (i : Int) < (t.length : Int) := by omega
                have hi0 : decide ((i : Int) < 0) = false := decide_eq_false (by omega)
                obtain ⟨th', pc', op', obj', val', mode'⟩ := e
                simp only at e0 hne
                clear he e1 e2 e3 e4 e5 hg2
                go_wp2_with fail
                go_roundw
                case rel => exact ⟨q + 1, by omega, by go_num, by first | exact below_drewN HV.out _ | exact below_drewN (below_drewN HV.out _) _⟩
                case measure => simp [intOf]; omega
          · obtain ⟨p, rfl⟩ : ∃ p, q = p + 1 := ⟨q - 1, by omega⟩
            obtain ⟨z, hz⟩ := at_lt (l := M) (k := p) (by omega)
            have hzy := HMf.out p z y hz HY.out
            obtain ⟨gm', om', hm', hgm', m1⟩ := HR2.out.later HV.out p z hz
            obtain ⟨rfl, rfl⟩ : gm = gm' ∧ om = om' := by simpa using hm'
            clear hm' hz
            have hp0 : decide ((0 : Int) < ((p + 1 : Nat) : Int)) = true := decide_eq_true (by omega)
            have hp0n : decide (0 < p + 1) = true := decide_eq_true (by omega)
            have hpm : (((p + 1 : Nat) : Int) - 1) = (p : Int) := by omega
            have hpw : IntKind.i64.wrap (((p + 1 : Nat) : Int) - 1) = (p : Int) := by rw [hpm]; exact IntWalk.i64_in _ ⟨by omega, by omega⟩
            have hplt : (p : Int) < (M.length : Int) := by omega
            have hzd : decide (z ≤ y) = false := decide_eq_false (by omega)
            generalize hqq : p + 1 = q at *
            go_quiet (fail)
            go_upto_region 19 with fail
            rcases hLA : decide ((0 : Int) ≤ LA) with _ | _
            · skip
              go_wp2_with fail
              go_roundw
              case rel => exact ⟨q + 1, by omega, by go_num, by first | exact below_drewN HV.out _ | exact below_drewN (below_drewN HV.out _) _⟩
              case measure => simp [intOf]; omega
            · rcases hyl : decide (y < LA) with _ | _
              · skip
                go_wp2_with fail
                go_roundw
                case rel => exact ⟨q + 1, by omega, by go_num, by first | exact below_drewN HV.out _ | exact below_drewN (below_drewN HV.out _) _⟩
                case measure => simp [intOf]; omega
              · obtain ⟨i, e, rfl, he, hne⟩ := HOwn.out y (by simpa using hLA) (List.mem_of_getElem? HY.out) (by simpa using hyl)
                obtain ⟨g2, o2, rfl, hg2, e0, e1, e2, e3, e4, e5⟩ := HEt.out _ HV.out i e he
                have hin : i < t.length := (List.getElem?_eq_some_iff.1 he).1
                have hin' : (i : Int) < (t.length : Int) := by omega
                have hi0 : decide ((i : Int) < 0) = false := decide_eq_false (by omega)
                obtain ⟨th', pc', op', obj', val', mode'⟩ := e
                simp only at e0 hne
                clear he e1 e2 e3 e4 e5 hg2
                go_wp2_with fail
                go_roundw
                case rel => exact ⟨q + 1, by omega, by go_num, by first | exact below_drewN HV.out _ | exact below_drewN (below_drewN HV.out _) _⟩
                case measure => simp [intOf]; omega
        · obtain rfl : q = M.length := by omega
          go_wp2_with (go_at_call 6; refine (HKW.out _).mono ?_; rintro e w5 ⟨rfl, hB5⟩)
          go_ret
          exact ⟨rfl, below_next HB1.out (below_next HB2.out (below_next HV.out hB5))⟩
set_option maxRecDepth 100000 in
theorem weakOwn_lifted (os : Os) (started : os.Started) (H : Type) (enc : TypeId × Value → H) :
    ReturnsInHanded {} Try.checked os 3 .any (Rows.weakOwnSpec.pre6 enc Try.prog Try.f3 Rows.weakOwnRow.domain false) (Rows.weakOwnSpec.post enc Try.prog Try.f3 false true false false) := by
  refine returnsInHanded_of_change (C := Try.checked) law_own started (by kernel_rfl) Try.func3
    (ChangeSpec.witness6 (enc := enc) (C := Try.checked) false ⟨#[], #[.slice none 0 0, .int .u8 0, .int .u8 0], []⟩ 8 (by kernel_rfl) (by kernel_rfl) (by kernel_rfl) (by kernel_rfl)) ?_
  intro W base args ds gs before hval0 hW hcnd _
  have hval : ∀ (j : Nat) t v, Try.f3.params[j]? = some t → args[j]? = some v → Value.okWide Try.prog W .any base t v := hval0
  have hW' := hW
  obtain ⟨p, q, hA0, hV, rfl, hfz, hnd⟩ := hW
  have hA : DataW.TrodAll enc Try.prog W 0 (fun _ => true) true Try.f3.params.toList args.toList ds p := hA0
  rw [Try.params3] at hA hval
  obtain ⟨v0, vs0, d0, ds0, p0, q0, hargs, rfl, rfl, h0, r0⟩ := trodAll_cons hA
  obtain ⟨v1, vs1, d1, ds1, p1, q1, rfl, rfl, rfl, h1, r1⟩ := trodAll_cons r0
  obtain ⟨v2, vs2, d2, ds2, p2, q2, rfl, rfl, rfl, h2, r2⟩ := trodAll_cons r1
  obtain ⟨rfl, rfl, rfl⟩ := trodAll_nil r2
  obtain rfl : args = #[v0, v1, v2] := by cases args; simp_all
  obtain ⟨rfl, rfl⟩ := trodVars_none hV
  have k0 := h0
  have lt0 : ∀ x ∈ p0, x.block < W.heap.size := by obtain ⟨m, hm⟩ := k0; exact DataW.trod_lt m _ _ _ hm
  obtain ⟨a0, cap0, l0, rfl, n0, w0⟩ := open_raws (hval 0 22 v0 rfl rfl) h0
  obtain ⟨a1, rfl, rfl, rfl, w1⟩ := open_int Try.underlying5 (hval 1 5 v1 rfl rfl) h1
  obtain ⟨a2, rfl, rfl, rfl, w2⟩ := open_int Try.underlying5 (hval 2 5 v2 rfl rfl) h2
  clear hA0 hval0
  refine (weakOwn_walk a0 cap0 l0 a1 a2 W w0 n0 w1 w2).mono fun e W' ⟨he, bel⟩ => ?_
  subst he
  exact ⟨_, rfl, _, _, _, [], _, [], hW', trodAll_mk1 (shut_bool Try.underlying4 _), (trodAll_cons_mk (Below.trod law_laidOut (by kernel_rfl) (of_decide_eq_true (by kernel_rfl)) k0 bel lt0) (trodAll_cons_mk (shut_int Try.underlying5 w1) (trodAll_cons_mk (shut_int Try.underlying5 w2) trodAll_mk0))), rfl, bel.frame _, fun h => by cases h⟩

/-- The statement. -/
theorem weakOwn_holds : Rows.WeakOwnSaid :=
  OpenClaim.holds_of_wide 3 Try.f3 rfl rfl rfl rfl rfl rfl rfl ⟨rfl, rfl, rfl, rfl, rfl⟩ rfl rfl rfl rfl rfl (by kernel_rfl) Try.func3 (by kernel_rfl)
    (of_decide_eq_true (by kernel_rfl)) (by unfold Func.isWrapper; first | (rw [if_pos (by decide +kernel)]; kernel_rfl) | (rw [if_neg (by decide +kernel)]; exact ⟨rfl, rfl⟩))
    (fun os started H enc _ => weakOwn_lifted os started H enc)
end Go.Proofs.Ytglafbajbiengaa
