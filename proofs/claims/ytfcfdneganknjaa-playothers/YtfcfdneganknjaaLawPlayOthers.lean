/- PlayOthers: picks of threads that there are none of change nothing; for every input. -/
import Derived.Test.YtfcfdneganknjaaPlaySame
import Derived.Deep.DeepCutAuto
namespace Go.Proofs.Ytfcfdneganknjaa
set_option linter.unusedVariables false
set_option linter.unusedSimpArgs false
open Go.ChangeShapes Go.WideShapes Go.ChangeAt Go.RowKit

theorem far_snoc (k : Int) {l : List Int} {i : Nat} {x : Int} (h : l[i]? = some x) : withFar k (l.take (i + 1)) = withFar k (l.take i) ++ [k, x, -1] := by
  rw [List.take_add_one, h]; simp [withFar]
theorem far_len (k : Int) : ∀ l : List Int, (withFar k l).length = 3 * l.length
  | [] => rfl
  | x :: l => by
    have := far_len k l
    simp only [withFar, List.flatMap_cons, List.length_append, List.length_cons, List.length_nil] at this ⊢
    omega
theorem st_three_new (w : World) (v0 v1 v2 : Value) (t : TypeId) : ∀ j u, [v0, v1, v2][j]? = some u → (w.alloc (.cells #[v0, v1, v2] t)).cell? ((⟨w.heap.size, 0, none⟩ : Addr).add j) = some u := by
  intro j u hj
  rw [Addr.add_mid, Nat.zero_add, cell_of_row _ _ _ _ _ _ (heap_alloc_new _ _)]
  simpa using hj

set_option maxRecDepth 100000 in
set_option maxHeartbeats 4000000 in
theorem playOthers_walk (rows : List (List Int)) (a : Option Addr) (cap : Nat) (a1 : Option Addr) (len1 cap1 : Nat) (l1 : List Int) (far : Int) (w : World) (hl : rows.length ≤ 9223372036854775807) (hr : BytesIn w w.heap.size a rows) (hp : SliceIn .u8 w a1 len1 cap1 l1) (hfar : (Lit.int .i64 far).wf = true) :
    Calls Try.prog 4 #[.slice a rows.length cap, .slice a1 len1 cap1, .int .i64 far] w fun e w' => e = .returned (.bool true) ∧ Below w.heap.size w w' := by
  obtain ⟨q1, q2, q3, rfl⟩ := bytes_of hp
  obtain ⟨t0, ti, tz0, tz1, tz2⟩ := info_parts info_intT
  have HM := Lib.hid (make_any rows a cap w hl hr)
  have HP := Lib.hid q1
  have HPf := Lib.hid q2
  clear hr hp q1 q2
  go_enter Try.func4, Try.ntmps4
  go_wp2_with fail
  refine HM.out.mono ?_
  rintro e w1 ⟨cs, vs, tv, rfl, hO, hCh, ⟨h1, h3⟩, hG, hB1⟩
  obtain ⟨ta, tcap, rfl, hPr⟩ := made_in hO hCh (by omega)
  have HPr := Lib.hid (hPr.later (below_box w1 (pbO (some ⟨w.heap.size + 1, 0, none⟩) ta cs.length tcap)))
  have HSd := Lib.hid (made_good h1 h3 hG)
  have HB1 := Lib.hid (below_new hB1 (pbO (some ⟨w.heap.size + 1, 0, none⟩) ta cs.length tcap))
  have HN1 := Lib.hid (heap_alloc_new w1 (pbO (some ⟨w.heap.size + 1, 0, none⟩) ta cs.length tcap))
  have h60 := picksL_len l1
  clear HM hO hCh hG hB1 hPr
  generalize hps : picksL l1 = ps at *
  go_upto_region 4 with (first
    | (go_at_call 13; refine (picks_any l1 a1 cap1 _ (picks_later HP.out HB1.out) HPf.out q3).mono ?_; rw [hps]; rintro e w2 ⟨pv, rfl, hown, hB2⟩; obtain ⟨pa, pc, rfl, hcells⟩ := own_cells hown; have HRw := Lib.hid hcells; have HPr2 := Lib.hid (HPr.out.later hB2); have HB2 := Lib.hid (below_next HB1.out hB2); have HN2 := Lib.hid (old_later HN1.out hB2); clear hown hcells hB2))
  go_cut [27] (fun v u => v = .bool (decide (0 ≤ far ∧ far < 3)) ∧ w2 = u)
  case first =>
    by_cases f0 : far < 0
    · have d0 : ¬ 0 ≤ far := by omega
      have d1 : decide (0 ≤ far) = false := decide_eq_false d0
      go_wp2
      all_goals go_meet
      all_goals exact ⟨by rw [decide_eq_false (by omega : ¬ (0 ≤ far ∧ far < 3))], rfl⟩
    · have d0 : 0 ≤ far := by omega
      by_cases f3 : far < 3
      · go_wp2
        all_goals go_meet
        all_goals exact ⟨by rw [decide_eq_true (by omega : (0 ≤ far ∧ far < 3))], rfl⟩
      · have d1 : decide (far < 3) = false := decide_eq_false f3
        go_wp2
        all_goals go_meet
        all_goals exact ⟨by rw [decide_eq_false (by omega : ¬ (0 ≤ far ∧ far < 3))], rfl⟩
  case rest =>
  obtain ⟨rfl, rfl⟩ := hcut
  generalize hfb : decide (0 ≤ far ∧ far < 3) = fb
  go_upto_if 27 with (fail)
  go_cut [9] (fun v u => ∃ kk : Int, v = .int .i64 kk ∧ (kk < 0 ∨ 3 ≤ kk) ∧ w2 = u)
  case first =>
    rcases fb with _ | _
    · have hf : ¬ (0 ≤ far ∧ far < 3) := by simpa using hfb
      go_wp2
      all_goals go_meet
      all_goals exact ⟨far, rfl, by omega, rfl⟩
    · have hf : 0 ≤ far ∧ far < 3 := by simpa using hfb
      go_wp2
      all_goals go_meet
      all_goals exact ⟨3 + far, by go_num, .inr (by omega), rfl⟩
  case rest =>
    obtain ⟨kk, rfl, hkk, rfl⟩ := hcut
    have hB2 := HB2.out
    go_wp2_with fail
    go_loopw [10, 11] (fun tv i wr => ∃ j : Nat, j ≤ ps.length ∧ i = .int .i64 j ∧ Below w2.heap.size w2 wr ∧ Hid (wr.ownsRow w2.heap.size 3 1 tv (3 * j) ((withFar kk (ps.take j)).map (.int .i64 ·)))) (fun _ i _ => ps.length - (intOf i).toNat)
    case atStart => exact ⟨0, Nat.zero_le _, rfl, Below.refl _ _, Lib.hid (World.ownsRow_nil _ _ _ _)⟩
    case round =>
      obtain ⟨j, hj, rfl, hB, HO⟩ := hrel
      obtain ⟨oa, oc, rfl⟩ := st_slice HO.out
      have hs := hB.size
      by_cases hlt : j < ps.length
      · obtain ⟨x, hx⟩ := at_lt hlt
        obtain ⟨g, rfl, hg1, hg2, hcell⟩ := HRw.out j x hx
        have hcell' := (hB.cell (p := ⟨g, j, none⟩) hg2).trans hcell
        have HX := Lib.hid hx
        clear hx hcell
        go_wp2_with (first
          | (at_builtin; refine wpList_append_own_at _ rfl _ _ 23 rfl w2.heap.size 3 t0 (.int .i64 0) 1 8 Try.underlying23 ti tz0 tz1 tz2 rfl (by decide) (.slice oa (3 * j) oc) (3 * j) _ rfl (own_later HO.out (below_box wr _)) ⟨wr.heap.size, 0, none⟩ 3 3 [.int .i64 kk, .int .i64 x, .int .i64 (-1)] rfl rfl (st_three_new _ _ _ _ _) (by simp [Value.oneCell']) (by unfold maxLen; omega) (by omega) (by simp; omega) ?_; intro v' w3 hown3 hgrow3 _ hat3; have HO3 := Lib.hid hown3; have HG3 := Lib.hid hgrow3; clear hown3 hgrow3))
        go_roundw
        case rel =>
          refine ⟨j + 1, by omega, by go_num, (hB.trans ((below_box wr _).mono hs)).grown HG3.out (by simp; omega) (fun g e => (own_lt HO.out g e).2), Lib.hid ?_⟩
          rw [far_snoc kk HX.out, show 3 * (j + 1) = 3 * j + 3 by omega]
          simpa using HO3.out
        case measure => simp [intOf]; omega
      · obtain rfl : j = ps.length := by omega
        obtain ⟨f1, f2, f3, f4⟩ := far_run (code := cs) (k := kk) (by omega) ps (newM [1])
        have ho := HO.out
        rw [List.take_length] at ho
        rw [show 3 * ps.length = (withFar kk ps).length from (far_len kk ps).symm] at ho ⊢
        obtain ⟨ta', tc', e1, hcells⟩ := own_cells ho
        cases e1
        have hfl := far_len kk ps
        have HRt := Lib.hid (row_own (cap := oc) hcells)
        have HRs := Lib.hid ((row_own (cap := pc) HRw.out).up hB)
        have HPr3 := Lib.hid (HPr2.out.later hB)
        have HN3 := Lib.hid (old_later HN2.out hB)
        have HB3 := Lib.hid (below_next HB2.out hB)
        have HF := Lib.hid (And.intro f1 (And.intro f2 (And.intro f3 f4)))
        have hle1 := trM_len cs ps (newM [1])
        have hle2 := pkM_len cs ps (newM [1])
        have hle4 : (trM cs ps (newM [1])).length ≤ 60 := by omega
        obtain ⟨b0, b1, b2, b3, b4, b5, b6⟩ := box7 HN3.out
        have hf180 : (withFar kk ps).length ≤ 2000 := by omega
        clear ho hcells f1 f2 f3 f4 hle1 hfl hB hs
        have HRn1 := Lib.hid (made_run HPr3.out (tcap := tcap) HSd.out pc HRs.out (by omega))
        have HRn2 := Lib.hid (fun u (hB : Below wr.heap.size wr u) => made_run (HPr3.out.later hB) (tcap := tcap) HSd.out oc (HRt.out.up hB) hf180)
        rw [HF.out.1, HF.out.2.1, HF.out.2.2.1, HF.out.2.2.2] at HRn2
        clear HF
        generalize withFar kk ps = fs at *
        generalize htr : trM cs ps (newM [1]) = tr at *
        generalize hst : statusM cs (runM cs ps (newM [1])) = st at *
        generalize hpk : pkM cs ps (newM [1]) = pk at *
        generalize hpr : runT cs ps (newM [1]) = pr at *
        clear htr hst hpk hpr
        go_wp2_with fail
        refine HRn1.out.mono ?_
        rintro e w5 ⟨va, vc, ka, kc, xa, xc, rfl, hR, hB5⟩
        have HR5 := Lib.hid (hR.later (below_box w5 (rsO va pr.length vc st ka pk.length kc xa tr.length xc)))
        have HU5 := Lib.hid (below_new hB5 (rsO va pr.length vc st ka pk.length kc xa tr.length xc))
        have HE5 := Lib.hid (heap_alloc_new w5 (rsO va pr.length vc st ka pk.length kc xa tr.length xc))
        clear b0 b1 b2 b3 b4 b5 b6
        obtain ⟨b0, b1, b2, b3, b4, b5, b6⟩ := box7 (old_later HN3.out HU5.out)
        clear hR hB5
        go_wp2_with (first
          | (go_at_call 12; refine (HRn2.out _ HU5.out).mono ?_; rintro e w6 ⟨va', vc', ka', kc', xa', xc', rfl, hR', hB6⟩; have HR6a := Lib.hid ((HR5.out.later hB6).later (below_box w6 (rsO va' pr.length vc' st ka' pk.length kc' xa' tr.length xc'))); have HR6b := Lib.hid (hR'.later (below_box w6 (rsO va' pr.length vc' st ka' pk.length kc' xa' tr.length xc'))); have HE6 := Lib.hid (old_alloc (old_later HE5.out hB6) (rsO va' pr.length vc' st ka' pk.length kc' xa' tr.length xc')); have HF6 := Lib.hid (heap_alloc_new w6 (rsO va' pr.length vc' st ka' pk.length kc' xa' tr.length xc')); have HU6 := Lib.hid (below_new (below_next HU5.out hB6) (rsO va' pr.length vc' st ka' pk.length kc' xa' tr.length xc')); obtain ⟨c0, c1, c2, c3⟩ := cells4 HE6.out; clear hR' hB6 b0 b1 b2 b3 b4 b5 b6))
        generalize hV : World.alloc w6 _ = V at *
        clear c0 c1 c2 c3
        go_loopw [16] (fun i u => ∃ j : Nat, j ≤ tr.length ∧ i = .int .i64 j ∧ Below V.heap.size V u) (fun i _ => tr.length - (intOf i).toNat)
        case atStart => exact ⟨0, Nat.zero_le _, rfl, Below.refl _ _⟩
        case round =>
          obtain ⟨j, hj, rfl, hB⟩ := hrel
          obtain ⟨c0, c1, c2, c3⟩ := cells4 (old_later HE6.out hB)
          obtain ⟨d0, d1, d2, d3⟩ := cells4 (old_later HF6.out hB)
          by_cases hlt : j < tr.length
          · obtain ⟨x, hx⟩ := at_lt hlt
            obtain ⟨g, rfl, hg, hE⟩ := HR6a.out.trace j x hx
            obtain ⟨g', rfl, hg', hE'⟩ := HR6b.out.trace j x hx
            obtain ⟨x0, x1, x2, x3, x4, x5⟩ := hE.later hB
            obtain ⟨y0, y1, y2, y3, y4, y5⟩ := hE'.later hB
            clear hx hE hE'
            go_wp2_with fail
            go_quiet (fail)
            go_wp2
            go_roundw
            case rel => exact ⟨j + 1, by omega, by go_num, below_draws hB _⟩
            case measure => simp [intOf]; omega
          · obtain rfl : j = tr.length := by omega
            have HBj := Lib.hid hB
            go_wp2_with (first
              | (go_at_call 15; refine (known5_any _).mono ?_; rintro e w8 ⟨rfl, hB8⟩; have HB8 := Lib.hid (below_next HBj.out hB8); clear hB8))
            go_ret
            exact ⟨rfl, below_next (below_next HB3.out HU6.out) HB8.out⟩
set_option maxRecDepth 100000 in
theorem playOthers_lifted (os : Os) (started : os.Started) (H : Type) (enc : TypeId × Value → H) :
    ReturnsInHanded {} Try.checked os 4 .any (Rows.playOthersSpec.pre6 enc Try.prog Try.f4 Rows.playOthersRow.domain false) (Rows.playOthersSpec.post enc Try.prog Try.f4 false true false false) := by
  refine returnsInHanded_of_change (C := Try.checked) law_own started (by kernel_rfl) Try.func4
    (ChangeSpec.witness6 (enc := enc) (C := Try.checked) false ⟨#[], #[.slice none 0 0, .slice none 0 0, .int .i64 0], []⟩ 8 (by kernel_rfl) (by kernel_rfl) (by kernel_rfl) (by kernel_rfl)) ?_
  intro W base args ds gs before hval0 hW hcnd _
  have hval : ∀ (j : Nat) t v, Try.f4.params[j]? = some t → args[j]? = some v → Value.okWide Try.prog W .any base t v := hval0
  have hW' := hW
  obtain ⟨p, q, hA0, hV, rfl, hfz, hnd⟩ := hW
  have hA : DataW.TrodAll enc Try.prog W 0 (fun _ => true) true Try.f4.params.toList args.toList ds p := hA0
  rw [Try.params4] at hA hval
  obtain ⟨v0, vs0, d0, ds0, p0, q0, hargs, rfl, rfl, h0, r0⟩ := trodAll_cons hA
  obtain ⟨v1, vs1, d1, ds1, p1, q1, rfl, rfl, rfl, h1, r1⟩ := trodAll_cons r0
  obtain ⟨v2, vs2, d2, ds2, p2, q2, rfl, rfl, rfl, h2, r2⟩ := trodAll_cons r1
  obtain ⟨rfl, rfl, rfl⟩ := trodAll_nil r2
  obtain rfl : args = #[v0, v1, v2] := by cases args; simp_all
  obtain ⟨rfl, rfl⟩ := trodVars_none hV
  have k0 := h0
  have lt0 : ∀ x ∈ p0, x.block < W.heap.size := by obtain ⟨m, hm⟩ := k0; exact DataW.trod_lt m _ _ _ hm
  obtain ⟨a0, cap0, l0, rfl, n0, w0⟩ := open_rows_u8 (hval 0 28 v0 rfl rfl) h0
  obtain ⟨a1, len1, cap1, rfl⟩ := okWide_slice Try.underlying22 (hval 1 22 v1 rfl rfl)
  have k1 := h1
  have lt1 : ∀ x ∈ p1, x.block < W.heap.size := by obtain ⟨m, hm⟩ := k1; exact DataW.trod_lt m _ _ _ hm
  obtain ⟨l1, w1⟩ : ∃ l, SliceIn .u8 W a1 len1 cap1 l := by
    obtain ⟨fuel, hf⟩ := h1
    rcases open_ints Try.underlying22 Try.underlying5 (by kernel_rfl) hf with ⟨hcs, _⟩ | ⟨x, l, c, zs, hcs, _, hl, hm, hz, _, hcell, hwz⟩
    · simp [Value.cells] at hcs
      obtain ⟨rfl, rfl, rfl⟩ := hcs
      exact ⟨[], SliceIn.nil _ _⟩
    · simp [Value.cells] at hcs
      obtain ⟨rfl, rfl, rfl⟩ := hcs
      exact ⟨_, SliceIn.of hl hm (by simpa using hz) hcell hwz⟩
  obtain ⟨a2, rfl, rfl, rfl, w2⟩ := open_int Try.underlying3 (hval 2 3 v2 rfl rfl) h2
  clear hA0 hval0
  refine (playOthers_walk l0 a0 cap0 a1 len1 cap1 l1 a2 W n0 w0 w1 w2).mono fun e W' ⟨he, bel⟩ => ?_
  subst he
  exact ⟨_, rfl, _, _, _, [], _, [], hW', trodAll_mk1 (shut_bool Try.underlying4 _), (trodAll_cons_mk (Below.trod law_laidOut (by kernel_rfl) (of_decide_eq_true (by kernel_rfl)) k0 bel lt0) (trodAll_cons_mk (Below.trod law_laidOut (by kernel_rfl) (of_decide_eq_true (by kernel_rfl)) k1 bel lt1) (trodAll_cons_mk (shut_int Try.underlying3 w2) trodAll_mk0))), rfl, bel.frame _, fun h => by cases h⟩

/-- The statement. -/
theorem playOthers_holds : Rows.PlayOthersSaid :=
  OpenClaim.holds_of_wide 4 Try.f4 rfl rfl rfl rfl rfl rfl rfl ⟨rfl, rfl, rfl, rfl, rfl⟩ rfl rfl rfl rfl rfl (by kernel_rfl) Try.func4 (by kernel_rfl)
    (of_decide_eq_true (by kernel_rfl)) (by unfold Func.isWrapper; first | (rw [if_pos (by decide +kernel)]; kernel_rfl) | (rw [if_neg (by decide +kernel)]; exact ⟨rfl, rfl⟩))
    (fun os started H enc _ => playOthers_lifted os started H enc)
