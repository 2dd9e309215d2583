/- PlayFronts: by a longer script all that was told is told, and more; for every input. -/
import Derived.Test.YtfcfdneganknjaaPlayApp
import Derived.Deep.DeepCutAuto
namespace Go.Proofs.Ytfcfdneganknjaa
set_option linter.unusedVariables false
set_option linter.unusedSimpArgs false
open Go.ChangeShapes Go.WideShapes Go.ChangeAt Go.RowKit

set_option maxRecDepth 100000 in
set_option maxHeartbeats 1000000 in
theorem playFronts_walk (rows : List (List Int)) (a : Option Addr) (cap : Nat) (a1 : Option Addr) (len1 cap1 : Nat) (l1 : List Int) (a2 : Option Addr) (len2 cap2 : Nat) (l2 : List Int) (w : World) (hl : rows.length ≤ 9223372036854775807) (hr : BytesIn w w.heap.size a rows) (hp : SliceIn .u8 w a1 len1 cap1 l1) (hq : SliceIn .u8 w a2 len2 cap2 l2) :
    Calls Try.prog 8 #[.slice a rows.length cap, .slice a1 len1 cap1, .slice a2 len2 cap2] w fun e w' => e = .returned (.bool true) ∧ Below w.heap.size w w' := by
  obtain ⟨q1, q2, q3, rfl⟩ := bytes_of hp
  obtain ⟨z1, z2, z3, rfl⟩ := bytes_of hq
  obtain ⟨t0, ti, tz0, tz1, tz2⟩ := info_parts info_intT
  have HM := Lib.hid (make_any rows a cap w hl hr)
  have HP := Lib.hid q1
  have HPf := Lib.hid q2
  have HQ := Lib.hid z1
  have HQf := Lib.hid z2
  clear hr hp hq q1 q2 z1 z2
  go_enter Try.func8, Try.ntmps8
  go_wp2_with fail
  refine HM.out.mono ?_
  rintro e w1 ⟨cs, vs, tv, rfl, hO, hCh, ⟨h1, h3⟩, hG, hB1⟩
  obtain ⟨ta, tcap, rfl, hPr⟩ := made_in hO hCh (by omega)
  have HPr := Lib.hid (hPr.later (below_box w1 (pbO (some ⟨w.heap.size + 1, 0, none⟩) ta cs.length tcap)))
  have HSd := Lib.hid (made_good h1 h3 hG)
  have HB1 := Lib.hid (below_new hB1 (pbO (some ⟨w.heap.size + 1, 0, none⟩) ta cs.length tcap))
  have HN1 := Lib.hid (heap_alloc_new w1 (pbO (some ⟨w.heap.size + 1, 0, none⟩) ta cs.length tcap))
  have h60 := picksL_len l1
  have h61 := picksL_len l2
  clear HM hO hCh hG hB1 hPr
  have HPi := Lib.hid (fun u (hB : Below w.heap.size w u) => picks_any l1 a1 cap1 u (picks_later HP.out hB) HPf.out q3)
  have HQi := Lib.hid (fun u (hB : Below w.heap.size w u) => picks_any l2 a2 cap2 u (picks_later HQ.out hB) HQf.out z3)
  generalize picksL l1 = ps at *
  generalize picksL l2 = qs at *
  have e1 := runT_append cs ps qs (newM [1])
  have e2 := trM_append cs ps qs (newM [1])
  have e3 := runM_append cs ps qs (newM [1])
  have hstill : statusM cs (runM cs ps (newM [1])) ≠ 0 → statusM cs (runM cs (ps ++ qs) (newM [1])) = statusM cs (runM cs ps (newM [1])) ∧ trM cs (ps ++ qs) (newM [1]) = trM cs ps (newM [1]) := fun h => by
    obtain ⟨s1, s2, s3, s4⟩ := still_run (still_of_status h) qs
    rw [e3, e2, s1, s4, List.append_nil]; exact ⟨rfl, rfl⟩
  have g1 : ∀ j x, (trM cs ps (newM [1]))[j]? = some x → (trM cs (ps ++ qs) (newM [1]))[j]? = some x := fun j x h => by
    rw [e2, List.getElem?_append_left (List.getElem?_eq_some_iff.1 h).1]; exact h
  have g2 : ∀ j x, (runT cs ps (newM [1]))[j]? = some x → (runT cs (ps ++ qs) (newM [1]))[j]? = some x := fun j x h => by
    rw [e1, List.getElem?_append_left (List.getElem?_eq_some_iff.1 h).1]; exact h
  have k1 : (trM cs ps (newM [1])).length ≤ (trM cs (ps ++ qs) (newM [1])).length := by rw [e2, List.length_append]; omega
  have k2 : (runT cs ps (newM [1])).length ≤ (runT cs (ps ++ qs) (newM [1])).length := by rw [e1, List.length_append]; omega
  have HRn1 := Lib.hid (fun u (hB : Below (w1.alloc (pbO (some ⟨w.heap.size + 1, 0, none⟩) ta cs.length tcap)).heap.size (w1.alloc (pbO (some ⟨w.heap.size + 1, 0, none⟩) ta cs.length tcap)) u) aa cc (hR : RowOf .i64 u u.heap.size aa ps) => made_run (HPr.out.later hB) (tcap := tcap) HSd.out cc hR (by omega))
  have HRn2 := Lib.hid (fun u (hB : Below (w1.alloc (pbO (some ⟨w.heap.size + 1, 0, none⟩) ta cs.length tcap)).heap.size (w1.alloc (pbO (some ⟨w.heap.size + 1, 0, none⟩) ta cs.length tcap)) u) aa cc (hR : RowOf .i64 u u.heap.size aa (ps ++ qs)) => made_run (HPr.out.later hB) (tcap := tcap) HSd.out cc hR (by rw [List.length_append]; omega))
  have HSt := Lib.hid hstill
  have HG1 := Lib.hid g1
  have HG2 := Lib.hid g2
  have b1 := trM_len cs ps (newM [1])
  have b2 := pkM_len cs ps (newM [1])
  have b3 := trM_len cs (ps ++ qs) (newM [1])
  have b4 := pkM_len cs (ps ++ qs) (newM [1])
  have b5 := runT_len cs ps (newM [1])
  have b6 := runT_len cs (ps ++ qs) (newM [1])
  rw [List.length_append] at b4 b6
  have b7 : (trM cs ps (newM [1])).length ≤ 120 := by omega
  have b8 : (trM cs (ps ++ qs) (newM [1])).length ≤ 120 := by omega
  clear hstill g1 g2 e1 e2 e3 b1 b3 b2 b4
  have hrl : (ps ++ qs).length = ps.length + qs.length := List.length_append
  generalize hrs : ps ++ qs = rs at *
  have HRs := Lib.hid hrs
  have HRl := Lib.hid hrl
  clear hrs hrl
  generalize trM cs ps (newM [1]) = tr at *
  generalize trM cs rs (newM [1]) = tr' at *
  generalize runT cs ps (newM [1]) = pr at *
  generalize runT cs rs (newM [1]) = pr' at *
  generalize pkM cs ps (newM [1]) = pk at *
  generalize pkM cs rs (newM [1]) = pk' at *
  generalize statusM cs (runM cs ps (newM [1])) = st at *
  generalize statusM cs (runM cs rs (newM [1])) = st' at *
  have d1 : decide ((tr'.length : Int) < tr.length) = false := decide_eq_false (by omega)
  have d2 : ¬ tr'.length < tr.length := by omega
  have d3 : decide ((pr'.length : Int) < pr.length) = false := decide_eq_false (by omega)
  have d4 : ¬ pr'.length < pr.length := by omega
  go_upto_region 5 with (first
    | (go_at_call 12; refine (HRn1.out _ HU2.out _ _ HRw2.out).mono ?_; rintro e w3 ⟨va, vc, ka, kc, xa, xc, rfl, hR3, hB3⟩; have HR3 := Lib.hid (hR3.later (below_box w3 (rsO va pr.length vc st ka pk.length kc xa tr.length xc))); have HE3 := Lib.hid (heap_alloc_new w3 (rsO va pr.length vc st ka pk.length kc xa tr.length xc)); have HW3 := Lib.hid (below_new hB3 (rsO va pr.length vc st ka pk.length kc xa tr.length xc)); have HU3 := Lib.hid (below_new (below_next HU2.out hB3) (rsO va pr.length vc st ka pk.length kc xa tr.length xc)); clear hR3 hB3 p0 p1 p2 p3 p4 p5 p6)
    | (go_at_call 13; refine (HPi.out _ HB1.out).mono ?_; rintro e w2 ⟨pv, rfl, hown, hB2⟩; have HO2 := Lib.hid hown; obtain ⟨pa, pc, e1, hcells⟩ := own_cells hown; obtain rfl := e1; have HRw2 := Lib.hid (row_own (cap := pc) hcells); have HU2 := Lib.hid hB2; obtain ⟨p0, p1, p2, p3, p4, p5, p6⟩ := box7 (old_later HN1.out hB2); clear hown hcells hB2))
  go_upto_region 6 with (first
    | (at_builtin; refine wpList_append_row rfl _ _ 23 rfl (w3.alloc (rsO va pr.length vc st ka pk.length kc xa tr.length xc)).heap.size 3 t0 (.int .i64 0) 8 Try.underlying23 ti tz0 tz1 tz2 rfl (.slice none 0 0) 0 [] rfl (World.ownsRow_nil _ _ _ _) (.slice pa ps.length pc) ps.length _ (ps.map (.int .i64 ·)) rfl (own_later HO2.out HW3.out) (ints_one _) (by unfold maxLen; omega) (by omega) (Nat.le_refl _) ?_; intro v5 w5 hown5 hgrow5 hat5; rw [Nat.zero_add, List.nil_append] at hown5; obtain ⟨oa, oc, rfl⟩ := st_slice hown5; have HO5 := Lib.hid hown5; have HV5 := Lib.hid (show Below (w3.alloc (rsO va pr.length vc st ka pk.length kc xa tr.length xc)).heap.size (w3.alloc (rsO va pr.length vc st ka pk.length kc xa tr.length xc)) w5 from (Below.refl _ _).grown hgrow5 (Nat.le_refl _) (fun g e => by simp [Value.ownBlock] at e)); clear hown5 hgrow5))
  go_wp2_with (first
    | (go_at_call 13; refine (HQi.out _ (below_next (below_next HB1.out HU3.out) HV5.out)).mono ?_; rintro e w6 ⟨yv, rfl, hown6, hB6⟩; obtain ⟨ya, yc, rfl⟩ := st_slice hown6; have HO6 := Lib.hid hown6; have HB6 := Lib.hid hB6; clear hown6 hB6)
    | (at_builtin; refine wpList_append_row rfl _ _ 23 rfl (w3.alloc (rsO va pr.length vc st ka pk.length kc xa tr.length xc)).heap.size 3 t0 (.int .i64 0) 8 Try.underlying23 ti tz0 tz1 tz2 rfl (.slice oa ps.length oc) ps.length (ps.map (.int .i64 ·)) rfl ?_ (.slice ya qs.length yc) qs.length (w5.heap.size) (qs.map (.int .i64 ·)) rfl ?_ ?_ ?_ ?_ ?_ ?_))
  · exact own_later HO5.out HB6.out
  · exact HO6.out
  · exact ints_one _
  · unfold maxLen; omega
  · omega
  · have := HV5.out.size; have := HB6.out.size; omega
  intro v7 w7 hown7 hgrow7 hat7
  have hown8 : w7.ownsRow (w3.alloc (rsO va pr.length vc st ka pk.length kc xa tr.length xc)).heap.size 3 1 v7 rs.length (rs.map (.int .i64 ·)) := by
    rw [HRl.out, ← HRs.out, List.map_append]
    rw [show (w3.alloc (rsO va pr.length vc st ka pk.length kc xa tr.length xc)).heap.size = w3.heap.size + 1 by simp]
    exact hown7
  have hV7 : Below (w3.alloc (rsO va pr.length vc st ka pk.length kc xa tr.length xc)).heap.size (w3.alloc (rsO va pr.length vc st ka pk.length kc xa tr.length xc)) w7 := (below_next HV5.out HB6.out).grown hgrow7 (by have := HV5.out.size; have := HB6.out.size; omega) (fun g e => (own_lt HO5.out g e).2)
  obtain ⟨na, nc, rfl, hcells7⟩ := own_cells hown8
  have HRw7 := Lib.hid (row_own (cap := nc) hcells7)
  have HV7 := Lib.hid hV7
  have HU7 := Lib.hid (below_next HU3.out hV7)
  obtain ⟨p0, p1, p2, p3, p4, p5, p6⟩ := box7 (old_later HN1.out HU7.out)
  clear hown7 hgrow7 hcells7 hV7 hown8
  go_wp2_with (first
    | (go_at_call 12; refine (HRn2.out _ HU7.out _ _ HRw7.out).mono ?_; rintro e w8 ⟨va', vc', ka', kc', xa', xc', rfl, hR8, hB8⟩; have HR8a := Lib.hid ((HR3.out.later HV7.out).later (below_new hB8 (rsO va' pr'.length vc' st' ka' pk'.length kc' xa' tr'.length xc'))); have HR8b := Lib.hid (hR8.later (below_box w8 (rsO va' pr'.length vc' st' ka' pk'.length kc' xa' tr'.length xc'))); have HE8 := Lib.hid (old_alloc (old_later (old_later HE3.out HV7.out) hB8) (rsO va' pr'.length vc' st' ka' pk'.length kc' xa' tr'.length xc')); have HF8 := Lib.hid (heap_alloc_new w8 (rsO va' pr'.length vc' st' ka' pk'.length kc' xa' tr'.length xc')); have HU8 := Lib.hid (below_new (below_next HU7.out hB8) (rsO va' pr'.length vc' st' ka' pk'.length kc' xa' tr'.length xc')); obtain ⟨c0, c1, c2, c3⟩ := cells4 HE8.out; clear hR8 hB8 p0 p1 p2 p3 p4 p5 p6))
  generalize hV : World.alloc w8 _ = V at *
  clear c0 c1 c2 c3
  go_loopw [14] (fun i u => ∃ j : Nat, j ≤ tr.length ∧ i = .int .i64 j ∧ Below V.heap.size V u) (fun i _ => tr.length - (intOf i).toNat)
  case atStart => exact ⟨0, Nat.zero_le _, rfl, Below.refl _ _⟩
  case round =>
    obtain ⟨j, hj, rfl, hB⟩ := hrel
    obtain ⟨c0, c1, c2, c3⟩ := cells4 (old_later HE8.out hB)
    obtain ⟨f0, f1, f2, f3⟩ := cells4 (old_later HF8.out hB)
    by_cases hlt : j < tr.length
    · obtain ⟨x, hx⟩ := at_lt hlt
      have hx' := HG1.out j x hx
      obtain ⟨g, rfl, hg, hE⟩ := HR8a.out.trace j x hx
      obtain ⟨g', rfl, hg', hE'⟩ := HR8b.out.trace j x hx'
      have hlt' := (List.getElem?_eq_some_iff.1 hx').1
      obtain ⟨x0, x1, x2, x3, x4, x5⟩ := hE.later hB
      obtain ⟨y0, y1, y2, y3, y4, y5⟩ := hE'.later hB
      clear hx hx' hE hE'
      go_wp2_with fail
      go_quiet (fail)
      go_wp2
      go_roundw
      case rel => exact ⟨j + 1, by omega, by go_num, below_draws hB _⟩
      case measure => simp [intOf]; omega
    · obtain rfl : j = tr.length := by omega
      have HBj := Lib.hid hB
      clear hB
      go_wp2_with fail
      clear c0 c1 c2 c3 f0 f1 f2 f3
      go_loopw [15] (fun i u => ∃ j : Nat, j ≤ pr.length ∧ i = .int .i64 j ∧ Below wr.heap.size wr u) (fun i _ => pr.length - (intOf i).toNat)
      case atStart => exact ⟨0, Nat.zero_le _, rfl, Below.refl _ _⟩
      case round =>
        obtain ⟨j, hj, rfl, hB⟩ := hrel
        rename_i wr2
        obtain ⟨c0, c1, c2, c3⟩ := cells4 (old_later (old_later HE8.out HBj.out) hB)
        obtain ⟨f0, f1, f2, f3⟩ := cells4 (old_later (old_later HF8.out HBj.out) hB)
        by_cases hlt : j < pr.length
        · obtain ⟨x, hx⟩ := at_lt hlt
          have hx' := HG2.out j x hx
          obtain ⟨g, rfl, hg, hE⟩ := (HR8a.out.later HBj.out).prints j x hx
          obtain ⟨g', rfl, hg', hE'⟩ := (HR8b.out.later HBj.out).prints j x hx'
          have hlt' := (List.getElem?_eq_some_iff.1 hx').1
          have x0 := (hB.cell (p := ⟨g, j, none⟩) hg).trans hE
          have y0 := (hB.cell (p := ⟨g', j, none⟩) hg').trans hE'
          clear hx hx' hE hE'
          go_wp2_with fail
          go_quiet (fail)
          go_wp2
          go_roundw
          case rel => exact ⟨j + 1, by omega, by go_num, below_draws hB _⟩
          case measure => simp [intOf]; omega
        · obtain rfl : j = pr.length := by omega
          have HBk := Lib.hid hB
          clear hB
          by_cases hz : st = 0
          · subst hz
            go_wp2_with (first
              | (go_at_call 15; refine (known5_any _).mono ?_; rintro e w9 ⟨rfl, hB9⟩; obtain ⟨c0, c1, c2, c3⟩ := keep4 ⟨c0, c1, c2, c3⟩ hB9; have HB9 := Lib.hid (below_next (below_next HBj.out HBk.out) hB9); clear hB9))
            go_ret
            exact ⟨rfl, below_next (below_next HB1.out HU8.out) HB9.out⟩
          · obtain ⟨s1, s2⟩ := HSt.out hz
            have hz1 : (st == 0) = false := by simpa using hz
            subst s1
            have HS2 := Lib.hid s2
            clear s2
            go_wp2_with (first
              | (go_at_call 15; refine (known5_any _).mono ?_; rintro e w9 ⟨rfl, hB9⟩; obtain ⟨c0, c1, c2, c3⟩ := keep4 ⟨c0, c1, c2, c3⟩ hB9; obtain ⟨f0, f1, f2, f3⟩ := keep4 ⟨f0, f1, f2, f3⟩ hB9; have HB9 := Lib.hid (below_next (below_next HBj.out HBk.out) hB9); clear hB9; have hll : (tr'.length : Int) = tr.length := (by rw [HS2.out])))
            go_ret
            exact ⟨by first | rfl | simp [hll], below_next (below_next HB1.out HU8.out) HB9.out⟩
set_option maxRecDepth 100000 in
theorem playFronts_lifted (os : Os) (started : os.Started) (H : Type) (enc : TypeId × Value → H) :
    ReturnsInHanded {} Try.checked os 8 .any (Rows.playFrontsSpec.pre6 enc Try.prog Try.f8 Rows.playFrontsRow.domain false) (Rows.playFrontsSpec.post enc Try.prog Try.f8 false true false false) := by
  refine returnsInHanded_of_change (C := Try.checked) law_own started (by kernel_rfl) Try.func8
    (ChangeSpec.witness6 (enc := enc) (C := Try.checked) false ⟨#[], #[.slice none 0 0, .slice none 0 0, .slice none 0 0], []⟩ 8 (by kernel_rfl) (by kernel_rfl) (by kernel_rfl) (by kernel_rfl)) ?_
  intro W base args ds gs before hval0 hW hcnd _
  have hval : ∀ (j : Nat) t v, Try.f8.params[j]? = some t → args[j]? = some v → Value.okWide Try.prog W .any base t v := hval0
  have hW' := hW
  obtain ⟨p, q, hA0, hV, rfl, hfz, hnd⟩ := hW
  have hA : DataW.TrodAll enc Try.prog W 0 (fun _ => true) true Try.f8.params.toList args.toList ds p := hA0
  rw [Try.params8] at hA hval
  obtain ⟨v0, vs0, d0, ds0, p0, q0, hargs, rfl, rfl, h0, r0⟩ := trodAll_cons hA
  obtain ⟨v1, vs1, d1, ds1, p1, q1, rfl, rfl, rfl, h1, r1⟩ := trodAll_cons r0
  obtain ⟨v2, vs2, d2, ds2, p2, q2, rfl, rfl, rfl, h2, r2⟩ := trodAll_cons r1
  obtain ⟨rfl, rfl, rfl⟩ := trodAll_nil r2
  obtain rfl : args = #[v0, v1, v2] := by cases args; simp_all
  obtain ⟨rfl, rfl⟩ := trodVars_none hV
  have k0 := h0
  have lt0 : ∀ x ∈ p0, x.block < W.heap.size := by obtain ⟨m, hm⟩ := k0; exact DataW.trod_lt m _ _ _ hm
  obtain ⟨a0, cap0, l0, rfl, n0, w0⟩ := open_rows_u8 (hval 0 28 v0 rfl rfl) h0
  obtain ⟨a1, len1, cap1, rfl⟩ := okWide_slice Try.underlying22 (hval 1 22 v1 rfl rfl)
  have k1 := h1
  have lt1 : ∀ x ∈ p1, x.block < W.heap.size := by obtain ⟨m, hm⟩ := k1; exact DataW.trod_lt m _ _ _ hm
  obtain ⟨l1, w1⟩ : ∃ l, SliceIn .u8 W a1 len1 cap1 l := by
    obtain ⟨fuel, hf⟩ := h1
    rcases open_ints Try.underlying22 Try.underlying5 (by kernel_rfl) hf with ⟨hcs, _⟩ | ⟨x, l, c, zs, hcs, _, hl, hm, hz, _, hcell, hwz⟩
    · simp [Value.cells] at hcs
      obtain ⟨rfl, rfl, rfl⟩ := hcs
      exact ⟨[], SliceIn.nil _ _⟩
    · simp [Value.cells] at hcs
      obtain ⟨rfl, rfl, rfl⟩ := hcs
      exact ⟨_, SliceIn.of hl hm (by simpa using hz) hcell hwz⟩
  obtain ⟨a2, len2, cap2, rfl⟩ := okWide_slice Try.underlying22 (hval 2 22 v2 rfl rfl)
  have k2 := h2
  have lt2 : ∀ x ∈ p2, x.block < W.heap.size := by obtain ⟨m, hm⟩ := k2; exact DataW.trod_lt m _ _ _ hm
  obtain ⟨l2, w2⟩ : ∃ l, SliceIn .u8 W a2 len2 cap2 l := by
    obtain ⟨fuel, hf⟩ := h2
    rcases open_ints Try.underlying22 Try.underlying5 (by kernel_rfl) hf with ⟨hcs, _⟩ | ⟨x, l, c, zs, hcs, _, hl, hm, hz, _, hcell, hwz⟩
    · simp [Value.cells] at hcs
      obtain ⟨rfl, rfl, rfl⟩ := hcs
      exact ⟨[], SliceIn.nil _ _⟩
    · simp [Value.cells] at hcs
      obtain ⟨rfl, rfl, rfl⟩ := hcs
      exact ⟨_, SliceIn.of hl hm (by simpa using hz) hcell hwz⟩
  clear hA0 hval0
  refine (playFronts_walk l0 a0 cap0 a1 len1 cap1 l1 a2 len2 cap2 l2 W n0 w0 w1 w2).mono fun e W' ⟨he, bel⟩ => ?_
  subst he
  exact ⟨_, rfl, _, _, _, [], _, [], hW', trodAll_mk1 (shut_bool Try.underlying4 _), (trodAll_cons_mk (Below.trod law_laidOut (by kernel_rfl) (of_decide_eq_true (by kernel_rfl)) k0 bel lt0) (trodAll_cons_mk (Below.trod law_laidOut (by kernel_rfl) (of_decide_eq_true (by kernel_rfl)) k1 bel lt1) (trodAll_cons_mk (Below.trod law_laidOut (by kernel_rfl) (of_decide_eq_true (by kernel_rfl)) k2 bel lt2) trodAll_mk0))), rfl, bel.frame _, fun h => by cases h⟩

/-- The statement. -/
theorem playFronts_holds : Rows.PlayFrontsSaid :=
  OpenClaim.holds_of_wide 8 Try.f8 rfl rfl rfl rfl rfl rfl rfl ⟨rfl, rfl, rfl, rfl, rfl⟩ rfl rfl rfl rfl rfl (by kernel_rfl) Try.func8 (by kernel_rfl)
    (of_decide_eq_true (by kernel_rfl)) (by unfold Func.isWrapper; first | (rw [if_pos (by decide +kernel)]; kernel_rfl) | (rw [if_neg (by decide +kernel)]; exact ⟨rfl, rfl⟩))
    (fun os started H enc _ => playFronts_lifted os started H enc)
