/- PlayPicks: the picks that were steps tell the same run, each of them a step; as many as events; for every input. -/
import Derived.Test.YtfcfdneganknjaaPlaySame
namespace Go.Proofs.Ytfcfdneganknjaa
set_option linter.unusedVariables false
set_option linter.unusedSimpArgs false
open Go.ChangeShapes Go.WideShapes Go.ChangeAt Go.RowKit

theorem pb_keep {u u' : World} {g : Nat} {v0 v1 v2 v3 v4 v5 v6 : Value} {t : TypeId} {fr : Nat × Nat} (h : u.heap[g]? = some (.cells #[v0, v1, v2, v3, v4, v5, v6] t fr)) (hB : Below u.heap.size u u') : u'.cell? ⟨g, 0, none⟩ = some v0 ∧ u'.cell? ⟨g, 1, none⟩ = some v1 ∧ u'.cell? ⟨g, 2, none⟩ = some v2 ∧ u'.cell? ⟨g, 3, none⟩ = some v3 ∧ u'.cell? ⟨g, 4, none⟩ = some v4 ∧ u'.cell? ⟨g, 5, none⟩ = some v5 ∧ u'.cell? ⟨g, 6, none⟩ = some v6 := box7 (old_later h hB)

set_option maxRecDepth 100000 in
set_option maxHeartbeats 4000000 in
theorem playPicks_walk (rows : List (List Int)) (a : Option Addr) (cap : Nat) (a1 : Option Addr) (len1 cap1 : Nat) (l1 : List Int) (w : World) (hl : rows.length ≤ 9223372036854775807) (hr : BytesIn w w.heap.size a rows) (hp : SliceIn .u8 w a1 len1 cap1 l1) :
    Calls Try.prog 7 #[.slice a rows.length cap, .slice a1 len1 cap1] w fun e w' => e = .returned (.bool true) ∧ Below w.heap.size w w' := by
  obtain ⟨q1, q2, q3, rfl⟩ := bytes_of hp
  have HM := Lib.hid (make_any rows a cap w hl hr)
  have HP := Lib.hid q1
  have HPf := Lib.hid q2
  clear hr hp q1 q2
  go_enter Try.func7, Try.ntmps7
  go_wp2_with fail
  refine HM.out.mono ?_
  rintro e w1 ⟨cs, vs, tv, rfl, hO, hCh, ⟨h1, h3⟩, hG, hB1⟩
  obtain ⟨ta, tcap, rfl, hPr⟩ := made_in hO hCh (by omega)
  have HPr := Lib.hid (hPr.later (below_box w1 (pbO (some ⟨w.heap.size + 1, 0, none⟩) ta cs.length tcap)))
  have HSd := Lib.hid (made_good h1 h3 hG)
  have HB1 := Lib.hid (below_new hB1 (pbO (some ⟨w.heap.size + 1, 0, none⟩) ta cs.length tcap))
  have h60 := picksL_len l1
  obtain ⟨p1, p2, p3, p4⟩ := by_picks cs (picksL l1) (newM [1])
  have hle1 := runT_len cs (picksL l1) (newM [1])
  have hle2 := pkM_len cs (picksL l1) (newM [1])
  have hle3 := trM_len cs (picksL l1) (newM [1])
  have hth := trM_th cs (picksL l1) (newM [1])
  have HPp := Lib.hid (And.intro p1 (And.intro p2 (And.intro p3 p4)))
  have HTh := Lib.hid hth
  have HL3 := Lib.hid hle3
  have hle4 : (trM cs (picksL l1) (newM [1])).length ≤ 60 := by omega
  clear HM hO hCh hG hB1 hPr p1 p2 p3 p4 hth hle3
  go_wp2_with fail
  generalize hU : World.alloc w1 _ = U at *
  have hN := (congrArg (fun x : World => x.heap[w1.heap.size]?) hU).symm.trans (heap_alloc_new _ _)
  have HN := Lib.hid hN
  obtain ⟨b0, b1, b2, b3, b4, b5, b6⟩ := box7 hN
  clear hU hN
  generalize w1.heap.size = q at *
  have hqU : q < U.heap.size := (Array.getElem?_eq_some_iff.1 HN.out).1
  have KU : U.drew.cell? ⟨q, 0, none⟩ = some (.int .i64 2) ∧ U.drew.cell? ⟨q, 1, none⟩ = some (.int .i64 1) ∧ U.drew.cell? ⟨q, 2, none⟩ = some (.int .i64 1) ∧ U.drew.cell? ⟨q, 3, none⟩ = some (.slice (some ⟨w.heap.size + 1, 0, none⟩) 1 1) ∧ U.drew.cell? ⟨q, 4, none⟩ = some (.int .i64 1) ∧ U.drew.cell? ⟨q, 5, none⟩ = some (.int .i64 1) ∧ U.drew.cell? ⟨q, 6, none⟩ = some (.slice ta cs.length tcap) := ⟨b0, b1, b2, b3, b4, b5, b6⟩
  clear b0 b1 b2 b3 b4 b5 b6
  generalize hps : picksL l1 = ps at *
  go_region_held3 (fun u' => u'.cell? ⟨q, 0, none⟩ = some (.int .i64 2) ∧ u'.cell? ⟨q, 1, none⟩ = some (.int .i64 1) ∧ u'.cell? ⟨q, 2, none⟩ = some (.int .i64 1) ∧ u'.cell? ⟨q, 3, none⟩ = some (.slice (some ⟨w.heap.size + 1, 0, none⟩) 1 1) ∧ u'.cell? ⟨q, 4, none⟩ = some (.int .i64 1) ∧ u'.cell? ⟨q, 5, none⟩ = some (.int .i64 1) ∧ u'.cell? ⟨q, 6, none⟩ = some (.slice ta cs.length tcap)) (first | with_reducible exact KU | with_reducible exact keepB (by assumption) hB3 | with_reducible exact keepB (by assumption) hB2 | with_reducible exact keepB (by assumption) (below_box _ _) | with_reducible exact keepB K3 (below_box _ _) | with_reducible exact keepS4 hqr (by assumption) | fail)
    (first
      | (go_at_call 12; refine (made_runB (by first | exact HPr.out.later HU2.out | exact HPr.out.later (below_new HU2.out _)) HSd.out _ (by first | exact HRw.out | exact HRw.out.up (below_box _ _)) (by omega)).mono ?_; rintro e w3 ⟨va, vc, ka, kc, xa, xc, rfl, hR, hB3⟩; (first | (have HU3 := Lib.hid (below_next HU2.out hB3); try (have HE3 := Lib.hid (old_later HE2.out hB3); obtain ⟨z0, z1, z2, z3⟩ := cells4 HE3.out; have fz := fun j => frozen_of_row _ _ j _ _ HE3.out; have hqr : q ≠ U.heap.size := (by omega); have HRb := Lib.hid (show U.heap.size < w2.heap.size from (Array.getElem?_eq_some_iff.1 HE2.out).1); have hUr := Nat.le_refl U.heap.size)) | (have HU3 := Lib.hid (below_next (below_new HU2.out _) hB3); have HE3 := Lib.hid (old_later (heap_alloc_new w2 (rsO none 0 0 0 none 0 0 none 0 0)) hB3); obtain ⟨z0, z1, z2, z3⟩ := cells4 HE3.out; have fz := fun j => frozen_of_row _ _ j _ _ HE3.out; have hUr := HU2.out.size; have hqr : q ≠ w2.heap.size := (by omega); have HRb := Lib.hid (show w2.heap.size < (w2.alloc (rsO none 0 0 0 none 0 0 none 0 0)).heap.size by simp))); have K3 := box7 (old_later HN.out HU3.out); have HR := Lib.hid hR; clear hR)
      | (go_at_call 13; refine (picks_any l1 a1 cap1 _ (picks_later HP.out (by first | exact HB1.out.drew | exact below_new HB1.out.drew _)) HPf.out q3).mono ?_; rw [hps]; rintro e w2 ⟨pv, rfl, hown, hB2⟩; obtain ⟨pa, pc, rfl, hcells⟩ := own_cells hown; have HRw := Lib.hid (row_own (cap := pc) hcells); (first | (have HU2 := Lib.hid (show Below U.heap.size U w2 from below_next (Below.refl U.heap.size U).drew hB2)) | (have HU2 := Lib.hid (show Below U.heap.size U w2 from below_next (below_new (Below.refl U.heap.size U).drew _) hB2); have HE2 := Lib.hid (old_later (show (U.drew.alloc (rsO none 0 0 0 none 0 0 none 0 0)).heap[U.heap.size]? = some (rsO none 0 0 0 none 0 0 none 0 0) from heap_alloc_new U.drew (rsO none 0 0 0 none 0 0 none 0 0)) hB2))); clear hown hcells))
  all_goals first
    | (generalize hV : World.alloc w3 _ = V
       with_reducible refine (show Exit.then _ _ Exit.normal _ V from ?_)
       have HNV : Hid (V.heap[w3.heap.size]? = some (rsO va (runT cs ps (newM [1])).length vc (statusM cs (runM cs ps (newM [1]))) ka (pkM cs ps (newM [1])).length kc xa (trM cs ps (newM [1])).length xc)) := Lib.hid (by rw [← hV]; exact heap_alloc_new _ _)
       have HUV : Hid (Below U.heap.size U V) := Lib.hid (by rw [← hV]; exact below_new HU3.out _)
       have HRV : Hid (Res V (runT cs ps (newM [1])) (pkM cs ps (newM [1])) (trM cs ps (newM [1])) va ka xa) := Lib.hid (by rw [← hV]; exact HR.out.res'.later (below_box _ _))
       skip)
    | (generalize hV : World.setCell (World.setCell (World.setCell (World.setCell w3 ⟨w2.heap.size, 0, none⟩ _) ⟨w2.heap.size, 1, none⟩ _) ⟨w2.heap.size, 2, none⟩ _) ⟨w2.heap.size, 3, none⟩ _ = V
       with_reducible refine (show Exit.then _ _ Exit.normal _ V from ?_)
       have HNV : Hid (V.heap[w2.heap.size]? = some (rsO va (runT cs ps (newM [1])).length vc (statusM cs (runM cs ps (newM [1]))) ka (pkM cs ps (newM [1])).length kc xa (trM cs ps (newM [1])).length xc)) := Lib.hid (by rw [← hV]; exact stSet_four HE3.out)
       have HUV : Hid (Below U.heap.size U V) := Lib.hid (by rw [← hV]; exact stBelow_set (stBelow_set (stBelow_set (stBelow_set HU3.out hUr) hUr) hUr) hUr)
       have HRV : Hid (Res V (runT cs ps (newM [1])) (pkM cs ps (newM [1])) (trM cs ps (newM [1])) va ka xa) := Lib.hid (by rw [← hV]; exact (HR.out.set4 HRb.out).res')
       skip)
    | (generalize hV : World.setCell (World.setCell (World.setCell (World.setCell w3 ⟨U.heap.size, 0, none⟩ _) ⟨U.heap.size, 1, none⟩ _) ⟨U.heap.size, 2, none⟩ _) ⟨U.heap.size, 3, none⟩ _ = V
       with_reducible refine (show Exit.then _ _ Exit.normal _ V from ?_)
       have HNV : Hid (V.heap[U.heap.size]? = some (rsO va (runT cs ps (newM [1])).length vc (statusM cs (runM cs ps (newM [1]))) ka (pkM cs ps (newM [1])).length kc xa (trM cs ps (newM [1])).length xc)) := Lib.hid (by rw [← hV]; exact stSet_four HE3.out)
       have HUV : Hid (Below U.heap.size U V) := Lib.hid (by rw [← hV]; exact stBelow_set (stBelow_set (stBelow_set (stBelow_set HU3.out hUr) hUr) hUr) hUr)
       have HRV : Hid (Res V (runT cs ps (newM [1])) (pkM cs ps (newM [1])) (trM cs ps (newM [1])) va ka xa) := Lib.hid (by rw [← hV]; exact (HR.out.set4 HRb.out).res')
       skip)
  all_goals
    clear HR HU3 HU2 hB3 hB2 K3 KU hV HRw hps
    try clear HE3 z0 z1 z2 z3 fz hqr HRb hUr
    try clear HE2
    obtain ⟨p1, p2, p3, p4⟩ := HPp.out
    have HRn := Lib.hid (made_run (HPr.out.later HUV.out) (tcap := tcap) HSd.out kc HRV.out.row (by omega))
    rw [p1, p2, p3, p4] at HRn
    clear HPp p1 p2 p3 p4
    generalize hpr : runT cs ps (newM [1]) = pr at *
    generalize htr : trM cs ps (newM [1]) = tr at *
    generalize hpk : pkM cs ps (newM [1]) = pk at *
    generalize hst : statusM cs (runM cs ps (newM [1])) = st at *
    clear hpr htr hpk hst
    obtain ⟨b0, b1, b2, b3, b4, b5, b6⟩ := box7 (old_later HN.out HUV.out)
    obtain ⟨a0, a1', a2, a3⟩ := cells4 HNV.out
    go_wp2_with (first
      | (go_at_call 18; refine (same5_yes _ _ _ _ _ _ _ _ _ _ _ _ _ _ _ _ _ HR5a.out HR5b.out (by omega) (by omega) (by omega)).mono ?_; rintro e w6 ⟨rfl, hB6⟩; have HN6 := Lib.hid (old_later HN5.out hB6); have HB6 := Lib.hid (below_next HB5.out hB6); have HR6 := Lib.hid (HR5a.out.later hB6); clear hB6 a0 a1' a2 a3)
      | (go_at_call 12; refine HRn.out.mono ?_; rintro e w5 ⟨va', vc', ka', kc', xa', xc', rfl, hR', hB5⟩; have HR5a := Lib.hid ((HRV.out.later hB5).later (below_box w5 (rsO va' pr.length vc' st ka' pk.length kc' xa' tr.length xc'))); have HR5b := Lib.hid (hR'.later (below_box w5 (rsO va' pr.length vc' st ka' pk.length kc' xa' tr.length xc'))); have HN5 := Lib.hid (old_alloc (old_later HNV.out hB5) (rsO va' pr.length vc' st ka' pk.length kc' xa' tr.length xc')); have HB5 := Lib.hid (below_new (below_next (below_next HB1.out HUV.out) hB5) (rsO va' pr.length vc' st ka' pk.length kc' xa' tr.length xc')); clear a0 a1' a2 a3; obtain ⟨a0, a1', a2, a3⟩ := cells4 HN5.out; clear hR' hB5 b0 b1 b2 b3 b4 b5 b6))
    go_loopw [11] (fun i wr => ∃ j : Nat, j ≤ tr.length ∧ i = .int .i64 j ∧ Below w6.heap.size w6 wr) (fun i _ => tr.length - (intOf i).toNat)
    case atStart => exact ⟨0, Nat.zero_le _, rfl, Below.refl _ _⟩
    case round =>
      obtain ⟨j, hj, rfl, hB⟩ := hrel
      obtain ⟨a0, a1', a2, a3⟩ := cells4 (old_later HN6.out hB)
      by_cases hlt : j < tr.length
      · obtain ⟨x, hx⟩ := at_lt hlt
        have hpx : pk[j]? = some x.th := by rw [← HTh.out, List.getElem?_map, hx]; rfl
        have hlt2 := (List.getElem?_eq_some_iff.1 hpx).1
        obtain ⟨g, rfl, hg, hE⟩ := HR6.out.trace j x hx
        obtain ⟨g', rfl, hg', hP'⟩ := HR6.out.picks j x.th hpx
        obtain ⟨x0, x1, x2, x3, x4, x5⟩ := hE.later hB
        have hP2 := (hB.cell (p := ⟨g', j, none⟩) hg').trans hP'
        clear hx hE hpx hP'
        go_wp2_with fail
        go_quiet (fail)
        go_wp2
        go_roundw
        case rel => exact ⟨j + 1, by omega, by go_num, below_draws hB _⟩
        case measure => simp [intOf]; omega
      · obtain rfl : j = tr.length := by omega
        have HBj := Lib.hid hB
        go_wp2_with (first
          | (go_at_call 15; refine (known5_any _).mono ?_; rintro e w8 ⟨rfl, hB8⟩; have HB8 := Lib.hid (below_next HBj.out hB8); clear a0 a1' a2 a3; obtain ⟨a0, a1', a2, a3⟩ := cells4 (old_later HN6.out HB8.out); have heq : (tr.length : Int) = pk.length := (by have := HL3.out; omega); clear hB8))
        go_ret
        exact ⟨by first | rfl | simp [heq], below_next HB6.out HB8.out⟩
set_option maxRecDepth 100000 in
theorem playPicks_lifted (os : Os) (started : os.Started) (H : Type) (enc : TypeId × Value → H) :
    ReturnsInHanded {} Try.checked os 7 .any (Rows.playPicksSpec.pre6 enc Try.prog Try.f7 Rows.playPicksRow.domain false) (Rows.playPicksSpec.post enc Try.prog Try.f7 false true false false) := by
  refine returnsInHanded_of_change (C := Try.checked) law_own started (by kernel_rfl) Try.func7
    (ChangeSpec.witness6 (enc := enc) (C := Try.checked) false ⟨#[], #[.slice none 0 0, .slice none 0 0], []⟩ 8 (by kernel_rfl) (by kernel_rfl) (by kernel_rfl) (by kernel_rfl)) ?_
  intro W base args ds gs before hval0 hW hcnd _
  have hval : ∀ (j : Nat) t v, Try.f7.params[j]? = some t → args[j]? = some v → Value.okWide Try.prog W .any base t v := hval0
  have hW' := hW
  obtain ⟨p, q, hA0, hV, rfl, hfz, hnd⟩ := hW
  have hA : DataW.TrodAll enc Try.prog W 0 (fun _ => true) true Try.f7.params.toList args.toList ds p := hA0
  rw [Try.params7] at hA hval
  obtain ⟨v0, vs0, d0, ds0, p0, q0, hargs, rfl, rfl, h0, r0⟩ := trodAll_cons hA
  obtain ⟨v1, vs1, d1, ds1, p1, q1, rfl, rfl, rfl, h1, r1⟩ := trodAll_cons r0
  obtain ⟨rfl, rfl, rfl⟩ := trodAll_nil r1
  obtain rfl : args = #[v0, v1] := by cases args; simp_all
  obtain ⟨rfl, rfl⟩ := trodVars_none hV
  have k0 := h0
  have lt0 : ∀ x ∈ p0, x.block < W.heap.size := by obtain ⟨m, hm⟩ := k0; exact DataW.trod_lt m _ _ _ hm
  obtain ⟨a0, cap0, l0, rfl, n0, w0⟩ := open_rows_u8 (hval 0 28 v0 rfl rfl) h0
  obtain ⟨a1, len1, cap1, rfl⟩ := okWide_slice Try.underlying22 (hval 1 22 v1 rfl rfl)
  have k1 := h1
  have lt1 : ∀ x ∈ p1, x.block < W.heap.size := by obtain ⟨m, hm⟩ := k1; exact DataW.trod_lt m _ _ _ hm
  obtain ⟨l1, w1⟩ : ∃ l, SliceIn .u8 W a1 len1 cap1 l := by
    obtain ⟨fuel, hf⟩ := h1
    rcases open_ints Try.underlying22 Try.underlying5 (by kernel_rfl) hf with ⟨hcs, _⟩ | ⟨x, l, c, zs, hcs, _, hl, hm, hz, _, hcell, hwz⟩
    · simp [Value.cells] at hcs
      obtain ⟨rfl, rfl, rfl⟩ := hcs
      exact ⟨[], SliceIn.nil _ _⟩
    · simp [Value.cells] at hcs
      obtain ⟨rfl, rfl, rfl⟩ := hcs
      exact ⟨_, SliceIn.of hl hm (by simpa using hz) hcell hwz⟩
  clear hA0 hval0
  refine (playPicks_walk l0 a0 cap0 a1 len1 cap1 l1 W n0 w0 w1).mono fun e W' ⟨he, bel⟩ => ?_
  subst he
  exact ⟨_, rfl, _, _, _, [], _, [], hW', trodAll_mk1 (shut_bool Try.underlying4 _), (trodAll_cons_mk (Below.trod law_laidOut (by kernel_rfl) (of_decide_eq_true (by kernel_rfl)) k0 bel lt0) (trodAll_cons_mk (Below.trod law_laidOut (by kernel_rfl) (of_decide_eq_true (by kernel_rfl)) k1 bel lt1) trodAll_mk0)), rfl, bel.frame _, fun h => by cases h⟩

/-- The statement. -/
theorem playPicks_holds : Rows.PlayPicksSaid :=
  OpenClaim.holds_of_wide 7 Try.f7 rfl rfl rfl rfl rfl rfl rfl ⟨rfl, rfl, rfl, rfl, rfl⟩ rfl rfl rfl rfl rfl (by kernel_rfl) Try.func7 (by kernel_rfl)
    (of_decide_eq_true (by kernel_rfl)) (by unfold Func.isWrapper; first | (rw [if_pos (by decide +kernel)]; kernel_rfl) | (rw [if_neg (by decide +kernel)]; exact ⟨rfl, rfl⟩))
    (fun os started H enc _ => playPicks_lifted os started H enc)
