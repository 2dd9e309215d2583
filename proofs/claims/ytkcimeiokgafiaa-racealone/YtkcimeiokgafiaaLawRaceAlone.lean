/- RaceAlone: of one thread alone, and of loads alone, no races are told; for every input. -/
import Derived.Test.YtkcimeiokgafiaaRaceKnown2
import Derived.Test.YtkcimeiokgafiaaRaceOpenRaws
import Derived.Test.YtkcimeiokgafiaaRaceAloneM
import Derived.ChangeMaps5
namespace Go.Proofs.Ytkcimeiokgafiaa
set_option linter.unusedVariables false
set_option linter.unusedSimpArgs false
open Go.ChangeShapes Go.WideShapes Go.ChangeAt Go.RowKit Go.Maps

theorem chIn_one {W : World} {g : Nat} {ty : TypeId} {fr : Nat × Nat} (h : W.heap[g]? = some (.cells #[.int .i64 1] ty fr)) : ChIn W (some ⟨g, 0, none⟩) [1] := by
  refine ⟨fun i x hx => ?_, by simp, by intro c hc; simp at hc; omega⟩
  match i, hx with
  | 0, hx => cases hx; exact ⟨_, 0, rfl, (Array.getElem?_eq_some_iff.1 h).1, cell_of_row _ _ 0 _ _ _ h⟩
  | i + 1, hx => simp at hx
theorem prog1_one (g : Nat) : (#[.int .i64 0, .int .i64 0, .int .i64 0, .slice (some ⟨g, 0, none⟩) ([1] : List Int).length 1, .int .i64 0, .int .i64 0, .slice none 0 0] : Array Value).all (·.oneCell') = true := by first | kernel_rfl | (simp; rfl)
/-- A program of one channel finds nothing in such events. -/
theorem find1_none {W : World} {g : Nat} {ty : TypeId} {fr : Nat × Nat} (hg : W.heap[g]? = some (.cells #[.int .i64 1] ty fr)) (a : Option Addr) (cap n : Nat) (t : List EvD) (he : EvsIn W W.heap.size a t) (hW : ∀ e ∈ t, EvW e) (hn : t.length = n) (hl : n ≤ 1000) (h0 : racesL [1] t = []) :
    Calls Try.prog 13 #[.agg #[.int .i64 0, .int .i64 0, .int .i64 0, .slice (some ⟨g, 0, none⟩) 1 1, .int .i64 0, .int .i64 0, .slice none 0 0], .slice a n cap] W fun e w' => (∃ xa xc, e = .returned (.slice xa 0 xc)) ∧ Below W.heap.size W w' := by
  subst hn
  refine (find_any _ _ _ (some ⟨g, 0, none⟩) 1 [1] _ _ _ a cap t W he hW (chIn_one hg) (by omega) (prog1_one g)).mono ?_
  rintro e w' ⟨v, rfl, ho, hB⟩
  rw [h0] at ho
  obtain ⟨xa, xc, rfl⟩ := own_slice0 ho
  exact ⟨⟨xa, xc, rfl⟩, hB⟩
set_option maxRecDepth 100000 in
set_option maxHeartbeats 4000000 in
theorem raceAlone_walk (ra : Option Addr) (rc : Nat) (l : List (Nat × Nat)) (b : Bool) (w : World) (h : RawIn w ra l) (hl : l.length ≤ 9223372036854775807) :
    Calls Try.prog 7 #[.slice ra l.length rc, .bool b] w fun e w' => e = .returned (.bool true) ∧ Below w.heap.size w w' := by
  have HT := Lib.hid (trace_any ra rc l w h hl)
  have HKW := Lib.hid (fun V => known8_any V)
  clear h
  cases b
  all_goals
    go_enter Try.func7, Try.ntmps7
    go_wp2_with (go_at_call 11; refine HT.out.mono ?_; rintro e V1 ⟨v, rfl, xa, xc, rfl, hxc, hxo, hxB⟩)
    have HXB := Lib.hid hxB
    have HXO := Lib.hid hxo
    have htl : (trL l).length ≤ 1000 := by rw [trL_len]; omega
    have HWF := Lib.hid (trL_wf l)
    generalize htn : (trL l).length = n at *
    generalize htr : trL l = tr at *
    have HTN := Lib.hid htn
    clear hxo hxB HT htn htr
  · go_loopw [6] (fun i V => ∃ q : Nat, q ≤ n ∧ i = .int .i64 q ∧ V.ownsRow w.heap.size 26 6 (.slice xa n xc) n (evsCells (aloneL false q tr)) ∧ Below w.heap.size w V) (fun i _ => n - (intOf i).toNat)
    case atStart => exact ⟨0, Nat.zero_le _, rfl, by rw [aloneL_zero]; exact HXO.out, HXB.out⟩
    case round =>
      obtain ⟨q, hq, rfl, hxo, hxB⟩ := hrel
      have HO := Lib.hid hxo
      have HB := Lib.hid hxB
      clear hxo hxB
      by_cases hlt : q < n
      · have hlt' : (q : Int) < (n : Int) := by omega
        obtain ⟨e, he⟩ := at_lt (l := tr) (k := q) (by rw [HTN.out]; exact hlt)
        have HE := Lib.hid he
        obtain ⟨g, rfl, hgb, c0, c2, cf, cf0⟩ := own_ev HO.out (aloneL_at he)
        have HGB := Lib.hid hgb
        clear he
        go_wp2_with fail
        go_roundw
        case rel => exact ⟨q + 1, by omega, by go_num, by rw [← aloneL_th HE.out]; exact own_put HO.out rfl (by omega) _, HB.out.setCell (p := ⟨g, q * 6, none⟩) HGB.out _⟩
        case measure => simp [intOf]; omega
      · obtain rfl : q = n := by omega
        have hlt' : ¬ (q : Int) < (q : Int) := by omega
        have HLN : Hid ((aloneL false q tr).length = q) := Lib.hid (by rw [aloneL_len _ _ _ (by rw [HTN.out]; omega), HTN.out])
        have HWL : Hid (∀ e ∈ aloneL false q tr, EvW e) := Lib.hid (by have := aloneL_wf (b := false) HWF.out; rw [HTN.out] at this; exact this)
        have HR0 : Hid (racesL [1] (aloneL false q tr) = []) := Lib.hid (by have := aloneL_races (b := false) (chans := [1]) (t := tr); rw [HTN.out] at this; exact this)
        have HEV := Lib.hid (evsIn_own HO.out)
        generalize aloneL false q tr = T at *
        clear HTN HWF HO
        go_wp2_with (first
          | (have _g := hB5; go_at_call 13; refine (find1_none (heap_alloc_new _ _) xa xc q T (HEV.out.later (below_next hB5 (below_box _ _))) HWL.out HLN.out htl HR0.out).mono ?_; rintro e w6 ⟨⟨ya, yc, rfl⟩, hB6⟩)
          | (go_at_call 9; refine (HKW.out _).mono ?_; rintro e w5 ⟨rfl, hB5⟩))
        go_ret
        exact ⟨rfl, below_next HB.out (below_next hB5 (below_next (below_box _ _) hB6))⟩
  · go_loopw [6] (fun i V => ∃ q : Nat, q ≤ n ∧ i = .int .i64 q ∧ V.ownsRow w.heap.size 26 6 (.slice xa n xc) n (evsCells (aloneL true q tr)) ∧ Below w.heap.size w V) (fun i _ => n - (intOf i).toNat)
    case atStart => exact ⟨0, Nat.zero_le _, rfl, by rw [aloneL_zero]; exact HXO.out, HXB.out⟩
    case round =>
      obtain ⟨q, hq, rfl, hxo, hxB⟩ := hrel
      have HO := Lib.hid hxo
      have HB := Lib.hid hxB
      clear hxo hxB
      by_cases hlt : q < n
      · have hlt' : (q : Int) < (n : Int) := by omega
        obtain ⟨e, he⟩ := at_lt (l := tr) (k := q) (by rw [HTN.out]; exact hlt)
        have HE := Lib.hid he
        obtain ⟨g, rfl, hgb, c0, c2, cf, cf0⟩ := own_ev HO.out (aloneL_at he)
        have HGB := Lib.hid hgb
        clear he
        by_cases h8 : e.op = 8
        · have h8' : (e.op == 8) = true := by simp [h8]
          go_wp2_with fail
          go_roundw
          case rel => exact ⟨q + 1, by omega, by go_num, by rw [← aloneL_op HE.out h8]; exact own_put HO.out rfl (by omega) _, HB.out.setCell (p := ⟨g, q * 6 + 2, none⟩) HGB.out _⟩
          case measure => simp [intOf]; omega
        · have h8' : (e.op == 8) = false := by simp [h8]
          go_wp2_with fail
          go_roundw
          case rel => exact ⟨q + 1, by omega, by go_num, by rw [aloneL_keep HE.out h8]; exact HO.out, HB.out⟩
          case measure => simp [intOf]; omega
      · obtain rfl : q = n := by omega
        have hlt' : ¬ (q : Int) < (q : Int) := by omega
        have HLN : Hid ((aloneL true q tr).length = q) := Lib.hid (by rw [aloneL_len _ _ _ (by rw [HTN.out]; omega), HTN.out])
        have HWL : Hid (∀ e ∈ aloneL true q tr, EvW e) := Lib.hid (by have := aloneL_wf (b := true) HWF.out; rw [HTN.out] at this; exact this)
        have HR0 : Hid (racesL [1] (aloneL true q tr) = []) := Lib.hid (by have := aloneL_races (b := true) (chans := [1]) (t := tr); rw [HTN.out] at this; exact this)
        have HEV := Lib.hid (evsIn_own HO.out)
        generalize aloneL true q tr = T at *
        clear HTN HWF HO
        go_wp2_with (first
          | (have _g := hB5; go_at_call 13; refine (find1_none (heap_alloc_new _ _) xa xc q T (HEV.out.later (below_next hB5 (below_box _ _))) HWL.out HLN.out htl HR0.out).mono ?_; rintro e w6 ⟨⟨ya, yc, rfl⟩, hB6⟩)
          | (go_at_call 9; refine (HKW.out _).mono ?_; rintro e w5 ⟨rfl, hB5⟩))
        go_ret
        exact ⟨rfl, below_next HB.out (below_next hB5 (below_next (below_box _ _) hB6))⟩
set_option maxRecDepth 100000 in
theorem raceAlone_lifted (os : Os) (started : os.Started) (H : Type) (enc : TypeId × Value → H) :
    ReturnsInHanded {} Try.checked os 7 .any (Rows.raceAloneSpec.pre6 enc Try.prog Try.f7 Rows.raceAloneRow.domain false) (Rows.raceAloneSpec.post enc Try.prog Try.f7 false true false false) := by
  refine returnsInHanded_of_change (C := Try.checked) law_own started (by kernel_rfl) Try.func7
    (ChangeSpec.witness6 (enc := enc) (C := Try.checked) false ⟨#[], #[.slice none 0 0, .bool false], []⟩ 8 (by kernel_rfl) (by kernel_rfl) (by kernel_rfl) (by kernel_rfl)) ?_
  intro W base args ds gs before hval0 hW hcnd _
  have hval : ∀ (j : Nat) t v, Try.f7.params[j]? = some t → args[j]? = some v → Value.okWide Try.prog W .any base t v := hval0
  have hW' := hW
  obtain ⟨p, q, hA0, hV, rfl, hfz, hnd⟩ := hW
  have hA : DataW.TrodAll enc Try.prog W 0 (fun _ => true) true Try.f7.params.toList args.toList ds p := hA0
  rw [Try.params7] at hA hval
  obtain ⟨v0, vs0, d0, ds0, p0, q0, hargs, rfl, rfl, h0, r0⟩ := trodAll_cons hA
  obtain ⟨v1, vs1, d1, ds1, p1, q1, rfl, rfl, rfl, h1, r1⟩ := trodAll_cons r0
  obtain ⟨rfl, rfl, rfl⟩ := trodAll_nil r1
  obtain rfl : args = #[v0, v1] := by cases args; simp_all
  obtain ⟨rfl, rfl⟩ := trodVars_none hV
  have k0 := h0
  have lt0 : ∀ x ∈ p0, x.block < W.heap.size := by obtain ⟨m, hm⟩ := k0; exact DataW.trod_lt m _ _ _ hm
  obtain ⟨a0, cap0, l0, rfl, n0, w0⟩ := open_raws (hval 0 34 v0 rfl rfl) h0
  obtain ⟨a1, rfl, rfl, rfl⟩ := open_bool Try.underlying4 (hval 1 4 v1 rfl rfl) h1
  clear hA0 hval0
  refine (raceAlone_walk a0 cap0 l0 a1 W w0 n0).mono fun e W' ⟨he, bel⟩ => ?_
  subst he
  exact ⟨_, rfl, _, _, _, [], _, [], hW', trodAll_mk1 (shut_bool Try.underlying4 _), (trodAll_cons_mk (Below.trod law_laidOut (by kernel_rfl) (of_decide_eq_true (by kernel_rfl)) k0 bel lt0) (trodAll_cons_mk (shut_bool Try.underlying4 a1) trodAll_mk0)), rfl, bel.frame _, fun h => by cases h⟩

/-- The statement. -/
theorem raceAlone_holds : Rows.RaceAloneSaid :=
  OpenClaim.holds_of_wide 7 Try.f7 rfl rfl rfl rfl rfl rfl rfl ⟨rfl, rfl, rfl, rfl, rfl⟩ rfl rfl rfl rfl rfl (by kernel_rfl) Try.func7 (by kernel_rfl)
    (of_decide_eq_true (by kernel_rfl)) (by unfold Func.isWrapper; first | (rw [if_pos (by decide +kernel)]; kernel_rfl) | (rw [if_neg (by decide +kernel)]; exact ⟨rfl, rfl⟩))
    (fun os started H enc _ => raceAlone_lifted os started H enc)
end Go.Proofs.Ytkcimeiokgafiaa
