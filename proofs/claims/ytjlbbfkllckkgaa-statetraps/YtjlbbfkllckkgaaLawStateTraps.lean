/- StateTraps: behind a trap none can go on; what is stuck or done stays so; for every input. -/
import Derived.Test.YtjlbbfkllckkgaaStateMade
namespace Go.Proofs.Ytjlbbfkllckkgaa
set_option linter.unusedVariables false
set_option linter.unusedSimpArgs false
open Go.ChangeShapes Go.WideShapes Go.ChangeAt Go.RowKit

theorem status_cut {code : List (List InsD)} {m : Nat → Int} (h : statusM code m = 0) : ∃ k : Nat, k < code.length ∧ canM code m k = true := by
  unfold statusM at h
  split at h
  · omega
  · split at h
    · rename_i h2
      simp only [canTo, List.any_eq_true] at h2
      obtain ⟨k, h3, h4⟩ := h2
      exact ⟨k, by simpa using h3, h4⟩
    · unfold goesN at h; split at h <;> omega
theorem status_stop {code : List (List InsD)} {m : Nat → Int} (h : statusM code m ≠ 0) (k : Int) : canM code m k = false := by
  rcases hc : canM code m k with _ | _
  · rfl
  · exfalso
    obtain ⟨j, x, rfl, hj, _, _, _, h90⟩ := canM_parts hc
    refine h ?_
    unfold statusM
    rw [if_neg (by simpa using h90), if_pos (canTo_at hj hc)]

set_option maxRecDepth 100000 in
set_option maxHeartbeats 4000000 in
theorem stateTraps_walk (rows : List (List Int)) (a : Option Addr) (cap : Nat) (a1 : Option Addr) (len1 cap1 : Nat) (l1 : List Int) (a2 : Option Addr) (len2 cap2 : Nat) (l2 : List Int) (w : World) (hl : rows.length ≤ 9223372036854775807) (hr : BytesIn w w.heap.size a rows) (hp : SliceIn .u8 w a1 len1 cap1 l1) (hp2 : SliceIn .u8 w a2 len2 cap2 l2) :
    Calls Try.prog 7 #[.slice a rows.length cap, .slice a1 len1 cap1, .slice a2 len2 cap2] w fun e w' => e = .returned (.bool true) ∧ Below w.heap.size w w' := by
  obtain ⟨q1, q2, q3, rfl⟩ := bytes_of hp
  obtain ⟨z1, z2, z3, rfl⟩ := bytes_of hp2
  have HQ := Lib.hid z1
  have HQf := Lib.hid z2
  have HM := Lib.hid (make_any rows a cap w hl hr)
  have HP := Lib.hid q1
  have HPf := Lib.hid q2
  clear hr hp hp2 q1 q2 z1 z2
  go_enter Try.func7, Try.ntmps7
  go_wp2_with fail
  refine HM.out.mono ?_
  rintro e w1 ⟨cs, vs, tv, rfl, hO, hCh, ⟨h1, h3⟩, hG, hB1⟩
  have HN := Lib.hid (made_new hO hCh h1 h3 hG)
  have HI := Lib.hid (made_inv h1 h3 hG)
  have HB1 := Lib.hid hB1
  clear HM hO hCh hG hB1
  go_wp2_with (first
    | (go_at_call 9; refine HN.out.mono ?_; rintro e w2 ⟨b, rfl, hB2, hb, S⟩; have HS := Lib.hid S; have HB2 := Lib.hid (below_next HB1.out hB2); have hwb : w.heap.size ≤ b := Nat.le_trans HB1.out.size hb; clear hB2 S hb)
    | (go_at_call 10; refine (known4_any w2).mono ?_; rintro e w3 ⟨rfl, hB3⟩; have HS3 := Lib.hid (HS.out.later hB3); have HB3 := Lib.hid (below_next HB2.out hB3); clear hB3)
    | (go_at_call 11; refine (picks_any l1 a1 cap1 w3 (fun i y hy => by obtain ⟨c, off, e1, e2, e3⟩ := HP.out i y hy; exact ⟨c, off, e1, Nat.lt_of_lt_of_le e2 HB3.out.size, (HB3.out.cell (p := ⟨c, off + i, none⟩) e2).trans e3⟩) HPf.out q3).mono ?_; rintro e w4 ⟨pv, rfl, hown, hB4⟩; have HR0 := Lib.hid (Rn.start (HS3.out.later hB4) HI.out (by omega)); have HB4 := Lib.hid (below_next HB3.out hB4); obtain ⟨pa, pc, rfl, hcells⟩ := own_cells hown; have HC := Lib.hid hcells; have hb4 : b < w3.heap.size := HS3.out.lt; clear hown hB4 hcells))
  generalize hps : picksL l1 = ps at *
  have h60 : ps.length ≤ 60 := by rw [← hps]; exact picksL_len l1
  clear hps
  go_loopw [9] (fun i wr => ∃ k : Nat, k ≤ ps.length ∧ i = .int .i64 k ∧ Hid (Rn w4 wr b (b + 1) (runM cs (ps.take k) (newM [1])) cs (runT cs (ps.take k) (newM [1])))) (fun i _ => ps.length - (intOf i).toNat)
  case atStart => exact ⟨0, Nat.zero_le _, rfl, HR0⟩
  case round =>
    obtain ⟨k, hk, rfl, HR⟩ := hrel
    have htl := runT_len cs (ps.take k) (newM [1])
    rw [List.length_take] at htl
    by_cases hlt : k < ps.length
    · obtain ⟨y, hy⟩ := at_lt hlt
      obtain ⟨g, rfl, hg1, hg2, hcell⟩ := HC.out k y hy
      have hcell' := (World.cell?_of_block (a := ⟨g, k, none⟩) (HR.out.kept hg2 (by show g ≠ b; omega))).trans hcell
      have HY := Lib.hid hy
      clear hcell hy
      go_wp2_with (first
        | (go_at_call 12; refine (HR.out.step (by omega) y).mono ?_; rintro e w5 ⟨rfl, hR5, _⟩; have HR5 := Lib.hid hR5; clear hR5))
      go_roundw
      case rel => exact ⟨k + 1, by omega, by go_num, Lib.hid (by rw [runM_take HY.out, runT_take HY.out]; exact HR5.out)⟩
      case measure => simp [intOf]; omega
    · obtain rfl : k = ps.length := by omega
      generalize hmm : runM cs (ps.take ps.length) (newM [1]) = mm at HR
      generalize hpr : runT cs (ps.take ps.length) (newM [1]) = pr at HR htl
      have hpl : pr.length ≤ 60 := by omega
      clear hmm hpr htl HR0 HC
      have HBr := Lib.hid (HR.out.below HB4.out hwb)
      rcases hst : (statusM cs mm == 0) with _ | _
      · have HSt := Lib.hid (fun k => status_stop (code := cs) (m := mm) (by simpa using hst) k)
        generalize hsm : statusM cs mm = st at hst
        have HSm := Lib.hid hsm
        clear hsm
        go_wp2_with (first
          | (go_at_call 14; refine HR.out.status.mono ?_; rintro e w5 ⟨rfl, hB5⟩; rw [HSm.out]; have HR5 := Lib.hid (HR.out.later hB5); have HB5 := Lib.hid (below_next HBr.out hB5); clear hB5)
          | (go_at_call 15; refine (HR5.out.prints (by omega)).mono ?_; rintro e w6 ⟨v6, rfl, hown6, hB6⟩; obtain ⟨va, vc, rfl⟩ := st_slice hown6; have HR6 := Lib.hid (HR5.out.later hB6); have HB6 := Lib.hid (below_next HB5.out hB6); clear hB6 hown6)
          | (go_at_call 11; refine (picks_any l2 a2 cap2 w6 (fun i y hy => by obtain ⟨c, off, e1, e2, e3⟩ := HQ.out i y hy; exact ⟨c, off, e1, Nat.lt_of_lt_of_le e2 HB6.out.size, (HB6.out.cell (p := ⟨c, off + i, none⟩) e2).trans e3⟩) HQf.out z3).mono ?_; rintro e w7 ⟨qv, rfl, hown7, hB7⟩; have HR7 := Lib.hid (HR6.out.later hB7); have HB7 := Lib.hid (below_next HB6.out hB7); obtain ⟨qa, qc, rfl, hcells7⟩ := own_cells hown7; have HC7 := Lib.hid hcells7; clear hown7 hB7 hcells7))
        have h60q := picksL_len l2
        generalize hqs : picksL l2 = qs at *
        clear hqs
        go_loopw [13] (fun i u => ∃ k : Nat, k ≤ qs.length ∧ i = .int .i64 k ∧ Hid (Rn w4 u b (b + 1) mm cs pr) ∧ Below w7.heap.size w7 u) (fun i _ => qs.length - (intOf i).toNat)
        case atStart => exact ⟨0, Nat.zero_le _, rfl, HR7, Below.refl _ _⟩
        case round =>
          obtain ⟨k, hk2, rfl, HRk, hBk⟩ := hrel
          by_cases hlk : k < qs.length
          · obtain ⟨y, hy⟩ := at_lt hlk
            obtain ⟨g, rfl, hg1, hg2, hcell⟩ := HC7.out k y hy
            have hcell' := (hBk.cell (p := ⟨g, k, none⟩) hg2).trans hcell
            clear hcell hy
            go_wp2_with (first
              | (go_at_call 12; refine (HRk.out.step (by omega) y).mono ?_; rintro e w8 ⟨rfl, hR8, hB8⟩; rw [stepV_no (HSt.out y), HSt.out y]; rw [stepM_no (HSt.out y), stepT_no (HSt.out y), List.append_nil] at hR8; have HR8 := Lib.hid hR8; have HB8 := Lib.hid (below_next hBk (hB8 (HSt.out y))); clear hR8 hB8))
            go_roundw
            case rel => exact ⟨k + 1, by omega, by go_num, Lib.hid (HR8.out.later (below_box w8 _)), below_new HB8.out _⟩
            case measure => simp [intOf]; omega
          · obtain rfl : k = qs.length := by omega
            go_wp2_with (first
              | (go_at_call 14; refine HRk.out.status.mono ?_; rintro e w9 ⟨rfl, hB9⟩; rw [HSm.out]; have HR9 := Lib.hid (HRk.out.later hB9); have HB9 := Lib.hid (below_next (below_next HB7.out hBk) hB9); clear hB9)
              | (go_at_call 15; refine (HR9.out.prints (by omega)).mono ?_; rintro e w10 ⟨v10, rfl, hown10, hB10⟩; obtain ⟨va2, vc2, rfl⟩ := st_slice hown10; have HB10 := Lib.hid (below_next HB9.out hB10); clear hB10 hown10))
            go_ret
            exact ⟨rfl, HB10.out⟩
      · obtain ⟨j, hj, hcan⟩ := status_cut (code := cs) (m := mm) (by simpa using hst)
        have HSm := Lib.hid (show statusM cs mm = 0 by simpa using hst)
        clear hst
        have hj3 : j = 0 ∨ j = 1 ∨ j = 2 := by omega
        have hor : canM cs mm 0 = true ∨ canM cs mm 1 = true ∨ canM cs mm 2 = true := by
          rcases hj3 with rfl | rfl | rfl
          · exact .inl hcan
          · exact .inr (.inl hcan)
          · exact .inr (.inr hcan)
        clear hcan hj3 hj
        rcases hc0 : canM cs mm 0 with _ | _
        · rcases hc1 : canM cs mm 1 with _ | _
          · have hc2 : canM cs mm 2 = true := by
              rcases hor with h | h | h
              · rw [hc0] at h; cases h
              · rw [hc1] at h; cases h
              · exact h
            have H0 := Lib.hid hc0
            have H1 := Lib.hid hc1
            have H2 := Lib.hid hc2
            clear hor hc0 hc1 hc2
            go_wp2_with (first
              | (go_at_call 18; refine (HR9.out.can 2).mono ?_; rintro e w10 ⟨rfl, hB10⟩; rw [H2.out]; have HB10 := Lib.hid (below_next HB9.out hB10); clear hB10)
              | (go_at_call 18; refine (HR8.out.can 1).mono ?_; rintro e w9 ⟨rfl, hB9⟩; rw [H1.out]; have HR9 := Lib.hid (HR8.out.later hB9); have HB9 := Lib.hid (below_next HB8.out hB9); clear hB9)
              | (go_at_call 18; refine (HR7.out.can 0).mono ?_; rintro e w8 ⟨rfl, hB8⟩; rw [H0.out]; have HR8 := Lib.hid (HR7.out.later hB8); have HB8 := Lib.hid (below_next HB7.out hB8); clear hB8)
              | (go_at_call 11; refine (picks_any l2 a2 cap2 w6 (fun i y hy => by obtain ⟨c, off, e1, e2, e3⟩ := HQ.out i y hy; exact ⟨c, off, e1, Nat.lt_of_lt_of_le e2 HB6.out.size, (HB6.out.cell (p := ⟨c, off + i, none⟩) e2).trans e3⟩) HQf.out z3).mono ?_; rintro e w7 ⟨qv, rfl, hown7, hB7⟩; have HR7 := Lib.hid (HR6.out.later hB7); have HB7 := Lib.hid (below_next HB6.out hB7); obtain ⟨qa, qc, rfl, _⟩ := own_cells hown7; clear hown7 hB7)
              | (go_at_call 15; refine (HR5.out.prints (by omega)).mono ?_; rintro e w6 ⟨v6, rfl, hown6, hB6⟩; obtain ⟨va, vc, rfl⟩ := st_slice hown6; have HR6 := Lib.hid (HR5.out.later hB6); have HB6 := Lib.hid (below_next HB5.out hB6); clear hB6 hown6)
              | (go_at_call 14; refine HR.out.status.mono ?_; rintro e w5 ⟨rfl, hB5⟩; rw [HSm.out]; have HR5 := Lib.hid (HR.out.later hB5); have HB5 := Lib.hid (below_next HBr.out hB5); clear hB5))
            go_ret
            exact ⟨rfl, HB10.out⟩
          · have H0 := Lib.hid hc0
            have H1 := Lib.hid hc1
            clear hor hc0 hc1
            go_wp2_with (first
              | (go_at_call 18; refine (HR8.out.can 1).mono ?_; rintro e w9 ⟨rfl, hB9⟩; rw [H1.out]; have HB9 := Lib.hid (below_next HB8.out hB9); clear hB9)
              | (go_at_call 18; refine (HR7.out.can 0).mono ?_; rintro e w8 ⟨rfl, hB8⟩; rw [H0.out]; have HR8 := Lib.hid (HR7.out.later hB8); have HB8 := Lib.hid (below_next HB7.out hB8); clear hB8)
              | (go_at_call 11; refine (picks_any l2 a2 cap2 w6 (fun i y hy => by obtain ⟨c, off, e1, e2, e3⟩ := HQ.out i y hy; exact ⟨c, off, e1, Nat.lt_of_lt_of_le e2 HB6.out.size, (HB6.out.cell (p := ⟨c, off + i, none⟩) e2).trans e3⟩) HQf.out z3).mono ?_; rintro e w7 ⟨qv, rfl, hown7, hB7⟩; have HR7 := Lib.hid (HR6.out.later hB7); have HB7 := Lib.hid (below_next HB6.out hB7); obtain ⟨qa, qc, rfl, _⟩ := own_cells hown7; clear hown7 hB7)
              | (go_at_call 15; refine (HR5.out.prints (by omega)).mono ?_; rintro e w6 ⟨v6, rfl, hown6, hB6⟩; obtain ⟨va, vc, rfl⟩ := st_slice hown6; have HR6 := Lib.hid (HR5.out.later hB6); have HB6 := Lib.hid (below_next HB5.out hB6); clear hB6 hown6)
              | (go_at_call 14; refine HR.out.status.mono ?_; rintro e w5 ⟨rfl, hB5⟩; rw [HSm.out]; have HR5 := Lib.hid (HR.out.later hB5); have HB5 := Lib.hid (below_next HBr.out hB5); clear hB5))
            go_ret
            exact ⟨rfl, HB9.out⟩
        · have H0 := Lib.hid hc0
          clear hor hc0
          go_wp2_with (first
            | (go_at_call 18; refine (HR7.out.can 0).mono ?_; rintro e w8 ⟨rfl, hB8⟩; rw [H0.out]; have HB8 := Lib.hid (below_next HB7.out hB8); clear hB8)
              | (go_at_call 11; refine (picks_any l2 a2 cap2 w6 (fun i y hy => by obtain ⟨c, off, e1, e2, e3⟩ := HQ.out i y hy; exact ⟨c, off, e1, Nat.lt_of_lt_of_le e2 HB6.out.size, (HB6.out.cell (p := ⟨c, off + i, none⟩) e2).trans e3⟩) HQf.out z3).mono ?_; rintro e w7 ⟨qv, rfl, hown7, hB7⟩; have HR7 := Lib.hid (HR6.out.later hB7); have HB7 := Lib.hid (below_next HB6.out hB7); obtain ⟨qa, qc, rfl, _⟩ := own_cells hown7; clear hown7 hB7)
              | (go_at_call 15; refine (HR5.out.prints (by omega)).mono ?_; rintro e w6 ⟨v6, rfl, hown6, hB6⟩; obtain ⟨va, vc, rfl⟩ := st_slice hown6; have HR6 := Lib.hid (HR5.out.later hB6); have HB6 := Lib.hid (below_next HB5.out hB6); clear hB6 hown6)
            | (go_at_call 14; refine HR.out.status.mono ?_; rintro e w5 ⟨rfl, hB5⟩; rw [HSm.out]; have HR5 := Lib.hid (HR.out.later hB5); have HB5 := Lib.hid (below_next HBr.out hB5); clear hB5))
          go_ret
          exact ⟨rfl, HB8.out⟩

set_option maxRecDepth 100000 in
theorem stateTraps_lifted (os : Os) (started : os.Started) (H : Type) (enc : TypeId × Value → H) :
    ReturnsInHanded {} Try.checked os 7 .any (Rows.stateTrapsSpec.pre6 enc Try.prog Try.f7 Rows.stateTrapsRow.domain false) (Rows.stateTrapsSpec.post enc Try.prog Try.f7 false true false false) := by
  refine returnsInHanded_of_change (C := Try.checked) law_own started (by kernel_rfl) Try.func7
    (ChangeSpec.witness6 (enc := enc) (C := Try.checked) false ⟨#[], #[.slice none 0 0, .slice none 0 0, .slice none 0 0], []⟩ 8 (by kernel_rfl) (by kernel_rfl) (by kernel_rfl) (by kernel_rfl)) ?_
  intro W base args ds gs before hval0 hW hcnd _
  have hval : ∀ (j : Nat) t v, Try.f7.params[j]? = some t → args[j]? = some v → Value.okWide Try.prog W .any base t v := hval0
  have hW' := hW
  obtain ⟨p, q, hA0, hV, rfl, hfz, hnd⟩ := hW
  have hA : DataW.TrodAll enc Try.prog W 0 (fun _ => true) true Try.f7.params.toList args.toList ds p := hA0
  rw [Try.params7] at hA hval
  obtain ⟨v0, vs0, d0, ds0, p0, q0, hargs, rfl, rfl, h0, r0⟩ := trodAll_cons hA
  obtain ⟨v1, vs1, d1, ds1, p1, q1, rfl, rfl, rfl, h1, r1⟩ := trodAll_cons r0
  obtain ⟨v2, vs2, d2, ds2, p2, q2, rfl, rfl, rfl, h2, r2⟩ := trodAll_cons r1
  obtain ⟨rfl, rfl, rfl⟩ := trodAll_nil r2
  obtain rfl : args = #[v0, v1, v2] := by cases args; simp_all
  obtain ⟨rfl, rfl⟩ := trodVars_none hV
  have k0 := h0
  have lt0 : ∀ x ∈ p0, x.block < W.heap.size := by obtain ⟨m, hm⟩ := k0; exact DataW.trod_lt m _ _ _ hm
  obtain ⟨a0, cap0, l0, rfl, n0, w0⟩ := open_rows_u8 (hval 0 46 v0 rfl rfl) h0
  obtain ⟨a1, len1, cap1, rfl⟩ := okWide_slice Try.underlying22 (hval 1 22 v1 rfl rfl)
  have k1 := h1
  have lt1 : ∀ x ∈ p1, x.block < W.heap.size := by obtain ⟨m, hm⟩ := k1; exact DataW.trod_lt m _ _ _ hm
  obtain ⟨l1, w1⟩ : ∃ l, SliceIn .u8 W a1 len1 cap1 l := by
    obtain ⟨fuel, hf⟩ := h1
    rcases open_ints Try.underlying22 Try.underlying5 (by kernel_rfl) hf with ⟨hcs, _⟩ | ⟨x, l, c, zs, hcs, _, hl, hm, hz, _, hcell, hwz⟩
    · simp [Value.cells] at hcs
      obtain ⟨rfl, rfl, rfl⟩ := hcs
      exact ⟨[], SliceIn.nil _ _⟩
    · simp [Value.cells] at hcs
      obtain ⟨rfl, rfl, rfl⟩ := hcs
      exact ⟨_, SliceIn.of hl hm (by simpa using hz) hcell hwz⟩
  obtain ⟨a2, len2, cap2, rfl⟩ := okWide_slice Try.underlying22 (hval 2 22 v2 rfl rfl)
  have k2 := h2
  have lt2 : ∀ x ∈ p2, x.block < W.heap.size := by obtain ⟨m, hm⟩ := k2; exact DataW.trod_lt m _ _ _ hm
  obtain ⟨l2, w2⟩ : ∃ l, SliceIn .u8 W a2 len2 cap2 l := by
    obtain ⟨fuel, hf⟩ := h2
    rcases open_ints Try.underlying22 Try.underlying5 (by kernel_rfl) hf with ⟨hcs, _⟩ | ⟨x, l, c, zs, hcs, _, hl, hm, hz, _, hcell, hwz⟩
    · simp [Value.cells] at hcs
      obtain ⟨rfl, rfl, rfl⟩ := hcs
      exact ⟨[], SliceIn.nil _ _⟩
    · simp [Value.cells] at hcs
      obtain ⟨rfl, rfl, rfl⟩ := hcs
      exact ⟨_, SliceIn.of hl hm (by simpa using hz) hcell hwz⟩
  clear hA0 hval0
  refine (stateTraps_walk l0 a0 cap0 a1 len1 cap1 l1 a2 len2 cap2 l2 W n0 w0 w1 w2).mono fun e W' ⟨he, bel⟩ => ?_
  subst he
  exact ⟨_, rfl, _, _, _, [], _, [], hW', trodAll_mk1 (shut_bool Try.underlying4 _), (trodAll_cons_mk (Below.trod law_laidOut (by kernel_rfl) (of_decide_eq_true (by kernel_rfl)) k0 bel lt0) (trodAll_cons_mk (Below.trod law_laidOut (by kernel_rfl) (of_decide_eq_true (by kernel_rfl)) k1 bel lt1) (trodAll_cons_mk (Below.trod law_laidOut (by kernel_rfl) (of_decide_eq_true (by kernel_rfl)) k2 bel lt2) trodAll_mk0))), rfl, bel.frame _, fun h => by cases h⟩

/-- The statement. -/
theorem stateTraps_holds : Rows.StateTrapsSaid :=
  OpenClaim.holds_of_wide 7 Try.f7 rfl rfl rfl rfl rfl rfl rfl ⟨rfl, rfl, rfl, rfl, rfl⟩ rfl rfl rfl rfl rfl (by kernel_rfl) Try.func7 (by kernel_rfl)
    (of_decide_eq_true (by kernel_rfl)) (by unfold Func.isWrapper; first | (rw [if_pos (by decide +kernel)]; kernel_rfl) | (rw [if_neg (by decide +kernel)]; exact ⟨rfl, rfl⟩))
    (fun os started H enc _ => stateTraps_lifted os started H enc)

end Go.Proofs.Ytjlbbfkllckkgaa
