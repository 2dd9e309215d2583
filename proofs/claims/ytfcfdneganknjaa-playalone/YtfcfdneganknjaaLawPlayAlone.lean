/- PlayAlone: of one thread there is one run: any picks of it are steps of it; for every input. -/
import Derived.Test.YtfcfdneganknjaaPlayMake
namespace Go.Proofs.Ytfcfdneganknjaa
set_option linter.unusedVariables false
set_option linter.unusedSimpArgs false
open Go.ChangeShapes Go.WideShapes Go.ChangeAt Go.RowKit

theorem bytes_one {w : World} {a0 : Option Addr} {cap0 : Nat} {l0 : List Int} (h1 : RowOf .u8 w w.heap.size a0 l0) (h2 : ∀ n ∈ l0, 0 ≤ n ∧ n < 256) (h3 : l0.length ≤ 9223372036854775807) (t : TypeId) : BytesIn (w.alloc (.cells #[.slice a0 l0.length cap0] t)) (w.alloc (.cells #[.slice a0 l0.length cap0] t)).heap.size (some ⟨w.heap.size, 0, none⟩) [l0] := by
  intro k r hr
  match k, hr with
  | 0, hr =>
    cases hr
    exact ⟨w.heap.size, 0, rfl, by simp, a0, cap0, cell_of_row _ _ _ _ _ _ (heap_alloc_new _ _), h1.up (below_box _ _), h2, h3⟩
  | k + 1, hr => simp at hr

set_option maxRecDepth 100000 in
set_option maxHeartbeats 4000000 in
theorem playAlone_walk (a0 : Option Addr) (len0 cap0 : Nat) (l0 : List Int) (a1 : Option Addr) (len1 cap1 : Nat) (l1 : List Int) (w : World) (hp0 : SliceIn .u8 w a0 len0 cap0 l0) (hp : SliceIn .u8 w a1 len1 cap1 l1) :
    Calls Try.prog 3 #[.slice a0 len0 cap0, .slice a1 len1 cap1] w fun e w' => e = .returned (.bool true) ∧ Below w.heap.size w w' := by
  obtain ⟨q1, q2, q3, rfl⟩ := bytes_of hp
  obtain ⟨z1, z2, z3, rfl⟩ := bytes_of hp0
  have HQ := Lib.hid z1
  have HQf := Lib.hid z2
  have HP0 := Lib.hid q1
  have HPf := Lib.hid q2
  clear hp hp0 q1 q2 z1 z2
  go_enter Try.func3, Try.ntmps3
  go_wp2_with fail
  generalize hW : World.alloc w _ = W0
  have HBW : Hid (Below w.heap.size w W0) := Lib.hid (by rw [← hW]; exact below_box _ _)
  have hBy : BytesIn W0 W0.heap.size (some ⟨w.heap.size, 0, none⟩) [l0] := by rw [← hW]; exact bytes_one HQ.out HQf.out z3 _
  have HP := Lib.hid (HP0.out.up HBW.out)
  clear hW HP0
  refine (make_one [l0] (some ⟨w.heap.size, 0, none⟩) 1 W0 (by simp) hBy).mono ?_
  rintro e w1 ⟨cs, vs, tv, rfl, hO, hCh, ⟨h1, h3⟩, hG, hB1, hone⟩
  have HC1 := Lib.hid (hone rfl)
  obtain ⟨ta, tcap, rfl, hPr⟩ := made_in hO hCh (by omega)
  clear hBy hone
  have HPr := Lib.hid (hPr.later (below_box w1 (pbO (some ⟨W0.heap.size + 1, 0, none⟩) ta cs.length tcap)))
  have HSd := Lib.hid (made_good h1 h3 hG)
  have HB1 := Lib.hid (below_new hB1 (pbO (some ⟨W0.heap.size + 1, 0, none⟩) ta cs.length tcap))
  have h60 := picksL_len l1
  obtain ⟨p1, p2, p3, p4⟩ := by_picks cs (picksL l1) (newM [1])
  have hle1 := runT_len cs (picksL l1) (newM [1])
  have hle2 := pkM_len cs (picksL l1) (newM [1])
  have hle3 := trM_len cs (picksL l1) (newM [1])
  have hth := trM_th cs (picksL l1) (newM [1])
  have HPp := Lib.hid (And.intro p1 (And.intro p2 (And.intro p3 p4)))
  have HTh := Lib.hid hth
  have HL3 := Lib.hid hle3
  have hle4 : (trM cs (picksL l1) (newM [1])).length ≤ 60 := by omega
  clear hO hCh hG hB1 hPr p1 p2 p3 p4 hth hle3
  go_wp2_with fail
  generalize hU : World.alloc w1 _ = U at *
  have hN := (congrArg (fun x : World => x.heap[w1.heap.size]?) hU).symm.trans (heap_alloc_new _ _)
  have HN := Lib.hid hN
  obtain ⟨b0, b1, b2, b3, b4, b5, b6⟩ := box7 hN
  clear hU hN
  generalize w1.heap.size = q at *
  have hqU : q < U.heap.size := (Array.getElem?_eq_some_iff.1 HN.out).1
  have KU : U.drew.cell? ⟨q, 0, none⟩ = some (.int .i64 2) ∧ U.drew.cell? ⟨q, 1, none⟩ = some (.int .i64 1) ∧ U.drew.cell? ⟨q, 2, none⟩ = some (.int .i64 1) ∧ U.drew.cell? ⟨q, 3, none⟩ = some (.slice (some ⟨W0.heap.size + 1, 0, none⟩) 1 1) ∧ U.drew.cell? ⟨q, 4, none⟩ = some (.int .i64 1) ∧ U.drew.cell? ⟨q, 5, none⟩ = some (.int .i64 1) ∧ U.drew.cell? ⟨q, 6, none⟩ = some (.slice ta cs.length tcap) := ⟨b0, b1, b2, b3, b4, b5, b6⟩
  clear b0 b1 b2 b3 b4 b5 b6
  generalize hps : picksL l1 = ps at *
  go_region_held3 (fun u' => u'.cell? ⟨q, 0, none⟩ = some (.int .i64 2) ∧ u'.cell? ⟨q, 1, none⟩ = some (.int .i64 1) ∧ u'.cell? ⟨q, 2, none⟩ = some (.int .i64 1) ∧ u'.cell? ⟨q, 3, none⟩ = some (.slice (some ⟨W0.heap.size + 1, 0, none⟩) 1 1) ∧ u'.cell? ⟨q, 4, none⟩ = some (.int .i64 1) ∧ u'.cell? ⟨q, 5, none⟩ = some (.int .i64 1) ∧ u'.cell? ⟨q, 6, none⟩ = some (.slice ta cs.length tcap)) (first | with_reducible exact KU | with_reducible exact keepB (by assumption) hB3 | with_reducible exact keepB (by assumption) hB2 | with_reducible exact keepB (by assumption) (below_box _ _) | with_reducible exact keepB K3 (below_box _ _) | with_reducible exact keepS4 hqr (by assumption) | fail)
    (first
      | (go_at_call 12; refine (made_runB (by first | exact HPr.out.later HU2.out | exact HPr.out.later (below_new HU2.out _)) HSd.out _ (by first | exact HRw.out | exact HRw.out.up (below_box _ _)) (by omega)).mono ?_; rintro e w3 ⟨va, vc, ka, kc, xa, xc, rfl, hR, hB3⟩; (first | (have HU3 := Lib.hid (below_next HU2.out hB3); try (have HE3 := Lib.hid (old_later HE2.out hB3); obtain ⟨z0, z1, z2, z3⟩ := cells4 HE3.out; have fz := fun j => frozen_of_row _ _ j _ _ HE3.out; have hqr : q ≠ U.heap.size := (by omega); have HRb := Lib.hid (show U.heap.size < w2.heap.size from (Array.getElem?_eq_some_iff.1 HE2.out).1); have hUr := Nat.le_refl U.heap.size)) | (have HU3 := Lib.hid (below_next (below_new HU2.out _) hB3); have HE3 := Lib.hid (old_later (heap_alloc_new w2 (rsO none 0 0 0 none 0 0 none 0 0)) hB3); obtain ⟨z0, z1, z2, z3⟩ := cells4 HE3.out; have fz := fun j => frozen_of_row _ _ j _ _ HE3.out; have hUr := HU2.out.size; have hqr : q ≠ w2.heap.size := (by omega); have HRb := Lib.hid (show w2.heap.size < (w2.alloc (rsO none 0 0 0 none 0 0 none 0 0)).heap.size by simp))); have K3 := box7 (old_later HN.out HU3.out); have HR := Lib.hid hR; clear hR)
      | (go_at_call 13; refine (picks_any l1 a1 cap1 _ (picks_later HP.out (by first | exact HB1.out.drew | exact below_new HB1.out.drew _)) HPf.out q3).mono ?_; rw [hps]; rintro e w2 ⟨pv, rfl, hown, hB2⟩; obtain ⟨pa, pc, rfl, hcells⟩ := own_cells hown; have HRw := Lib.hid (row_own (cap := pc) hcells); (first | (have HU2 := Lib.hid (show Below U.heap.size U w2 from below_next (Below.refl U.heap.size U).drew hB2)) | (have HU2 := Lib.hid (show Below U.heap.size U w2 from below_next (below_new (Below.refl U.heap.size U).drew _) hB2); have HE2 := Lib.hid (old_later (show (U.drew.alloc (rsO none 0 0 0 none 0 0 none 0 0)).heap[U.heap.size]? = some (rsO none 0 0 0 none 0 0 none 0 0) from heap_alloc_new U.drew (rsO none 0 0 0 none 0 0 none 0 0)) hB2))); clear hown hcells))
  all_goals first
    | (generalize hV : World.alloc w3 _ = V
       with_reducible refine (show Exit.then _ _ Exit.normal _ V from ?_)
       have HNV : Hid (V.heap[w3.heap.size]? = some (rsO va (runT cs ps (newM [1])).length vc (statusM cs (runM cs ps (newM [1]))) ka (pkM cs ps (newM [1])).length kc xa (trM cs ps (newM [1])).length xc)) := Lib.hid (by rw [← hV]; exact heap_alloc_new _ _)
       have HUV : Hid (Below U.heap.size U V) := Lib.hid (by rw [← hV]; exact below_new HU3.out _)
       have HRV : Hid (Res V (runT cs ps (newM [1])) (pkM cs ps (newM [1])) (trM cs ps (newM [1])) va ka xa) := Lib.hid (by rw [← hV]; exact HR.out.res'.later (below_box _ _))
       skip)
    | (generalize hV : World.setCell (World.setCell (World.setCell (World.setCell w3 ⟨w2.heap.size, 0, none⟩ _) ⟨w2.heap.size, 1, none⟩ _) ⟨w2.heap.size, 2, none⟩ _) ⟨w2.heap.size, 3, none⟩ _ = V
       with_reducible refine (show Exit.then _ _ Exit.normal _ V from ?_)
       have HNV : Hid (V.heap[w2.heap.size]? = some (rsO va (runT cs ps (newM [1])).length vc (statusM cs (runM cs ps (newM [1]))) ka (pkM cs ps (newM [1])).length kc xa (trM cs ps (newM [1])).length xc)) := Lib.hid (by rw [← hV]; exact stSet_four HE3.out)
       have HUV : Hid (Below U.heap.size U V) := Lib.hid (by rw [← hV]; exact stBelow_set (stBelow_set (stBelow_set (stBelow_set HU3.out hUr) hUr) hUr) hUr)
       have HRV : Hid (Res V (runT cs ps (newM [1])) (pkM cs ps (newM [1])) (trM cs ps (newM [1])) va ka xa) := Lib.hid (by rw [← hV]; exact (HR.out.set4 HRb.out).res')
       skip)
    | (generalize hV : World.setCell (World.setCell (World.setCell (World.setCell w3 ⟨U.heap.size, 0, none⟩ _) ⟨U.heap.size, 1, none⟩ _) ⟨U.heap.size, 2, none⟩ _) ⟨U.heap.size, 3, none⟩ _ = V
       with_reducible refine (show Exit.then _ _ Exit.normal _ V from ?_)
       have HNV : Hid (V.heap[U.heap.size]? = some (rsO va (runT cs ps (newM [1])).length vc (statusM cs (runM cs ps (newM [1]))) ka (pkM cs ps (newM [1])).length kc xa (trM cs ps (newM [1])).length xc)) := Lib.hid (by rw [← hV]; exact stSet_four HE3.out)
       have HUV : Hid (Below U.heap.size U V) := Lib.hid (by rw [← hV]; exact stBelow_set (stBelow_set (stBelow_set (stBelow_set HU3.out hUr) hUr) hUr) hUr)
       have HRV : Hid (Res V (runT cs ps (newM [1])) (pkM cs ps (newM [1])) (trM cs ps (newM [1])) va ka xa) := Lib.hid (by rw [← hV]; exact (HR.out.set4 HRb.out).res')
       skip)
  all_goals
    clear HR HU3 HU2 hB3 hB2 K3 KU hV HRw hps HTh
    try clear HE3 z0 z1 z2 z3 fz hqr HRb hUr
    try clear HE2
    obtain ⟨p1, p2, p3, p4⟩ := HPp.out
    have hrp : roundP cs cs.length (pkM cs ps (newM [1])).length 0 (newM [1]) = pkM cs ps (newM [1]) := by rw [HC1.out]; exact round_alone HC1.out _ 0 _ p3
    have HRn := Lib.hid (made_round (HPr.out.later HUV.out) (tcap := tcap) HSd.out (pkM cs ps (newM [1])).length (by omega) hrp)
    rw [p1, p2, p3, p4] at HRn
    clear HPp p1 p2 p3 p4 hrp
    generalize hpr : runT cs ps (newM [1]) = pr at *
    generalize htr : trM cs ps (newM [1]) = tr at *
    generalize hpk : pkM cs ps (newM [1]) = pk at *
    generalize hst : statusM cs (runM cs ps (newM [1])) = st at *
    clear hpr htr hpk hst
    obtain ⟨b0, b1, b2, b3, b4, b5, b6⟩ := box7 (old_later HN.out HUV.out)
    obtain ⟨c0, c1, c2, c3⟩ := cells4 HNV.out
    go_wp2_with (first
      | (go_at_call 14; refine HRn.out.mono ?_; rintro e w5 ⟨va', vc', ka', kc', xa', xc', rfl, hR', hB5⟩; have HR5a := Lib.hid ((HRV.out.later hB5).later (below_box w5 (rsO va' pr.length vc' st ka' pk.length kc' xa' tr.length xc'))); have HR5b := Lib.hid (hR'.later (below_box w5 (rsO va' pr.length vc' st ka' pk.length kc' xa' tr.length xc'))); have HE5 := Lib.hid (old_alloc (old_later HNV.out hB5) (rsO va' pr.length vc' st ka' pk.length kc' xa' tr.length xc')); have HF5 := Lib.hid (heap_alloc_new w5 (rsO va' pr.length vc' st ka' pk.length kc' xa' tr.length xc')); have HB5 := Lib.hid (below_new (below_next (below_next HB1.out HUV.out) hB5) (rsO va' pr.length vc' st ka' pk.length kc' xa' tr.length xc')); clear c0 c1 c2 c3; obtain ⟨c0, c1, c2, c3⟩ := cells4 HE5.out; clear hR' hB5 b0 b1 b2 b3 b4 b5 b6))
    generalize hV : World.alloc w5 _ = X at *
    clear c0 c1 c2 c3
    go_loopw [10] (fun i u => ∃ j : Nat, j ≤ pr.length ∧ i = .int .i64 j ∧ Below X.heap.size X u) (fun i _ => pr.length - (intOf i).toNat)
    case atStart => exact ⟨0, Nat.zero_le _, rfl, Below.refl _ _⟩
    case round =>
      obtain ⟨j, hj, rfl, hB⟩ := hrel
      obtain ⟨c0, c1, c2, c3⟩ := cells4 (old_later HE5.out hB)
      obtain ⟨f0, f1, f2, f3⟩ := cells4 (old_later HF5.out hB)
      by_cases hlt : j < pr.length
      · obtain ⟨x, hx⟩ := at_lt hlt
        obtain ⟨g, rfl, hg, hE⟩ := HR5a.out.prints j x hx
        obtain ⟨g', rfl, hg', hE'⟩ := HR5b.out.prints j x hx
        have x0 := (hB.cell (p := ⟨g, j, none⟩) hg).trans hE
        have y0 := (hB.cell (p := ⟨g', j, none⟩) hg').trans hE'
        clear hx hE hE'
        go_wp2_with fail
        go_quiet (fail)
        go_wp2
        go_roundw
        case rel => exact ⟨j + 1, by omega, by go_num, below_draws hB _⟩
        case measure => simp [intOf]; omega
      · obtain rfl : j = pr.length := by omega
        have HBj := Lib.hid hB
        clear hB
        go_wp2_with (first
          | (go_at_call 15; refine (known5_any _).mono ?_; rintro e w9 ⟨rfl, hB9⟩; obtain ⟨c0, c1, c2, c3⟩ := keep4 ⟨c0, c1, c2, c3⟩ hB9; obtain ⟨f0, f1, f2, f3⟩ := keep4 ⟨f0, f1, f2, f3⟩ hB9; have HB9 := Lib.hid (below_next HBj.out hB9); clear hB9))
        go_ret
        exact ⟨by first | rfl | simp, below_next HBW.out (below_next HB5.out HB9.out)⟩
set_option maxRecDepth 100000 in
theorem playAlone_lifted (os : Os) (started : os.Started) (H : Type) (enc : TypeId × Value → H) :
    ReturnsInHanded {} Try.checked os 3 .any (Rows.playAloneSpec.pre6 enc Try.prog Try.f3 Rows.playAloneRow.domain false) (Rows.playAloneSpec.post enc Try.prog Try.f3 false true false false) := by
  refine returnsInHanded_of_change (C := Try.checked) law_own started (by kernel_rfl) Try.func3
    (ChangeSpec.witness6 (enc := enc) (C := Try.checked) false ⟨#[], #[.slice none 0 0, .slice none 0 0], []⟩ 8 (by kernel_rfl) (by kernel_rfl) (by kernel_rfl) (by kernel_rfl)) ?_
  intro W base args ds gs before hval0 hW hcnd _
  have hval : ∀ (j : Nat) t v, Try.f3.params[j]? = some t → args[j]? = some v → Value.okWide Try.prog W .any base t v := hval0
  have hW' := hW
  obtain ⟨p, q, hA0, hV, rfl, hfz, hnd⟩ := hW
  have hA : DataW.TrodAll enc Try.prog W 0 (fun _ => true) true Try.f3.params.toList args.toList ds p := hA0
  rw [Try.params3] at hA hval
  obtain ⟨v0, vs0, d0, ds0, p0, q0, hargs, rfl, rfl, h0, r0⟩ := trodAll_cons hA
  obtain ⟨v1, vs1, d1, ds1, p1, q1, rfl, rfl, rfl, h1, r1⟩ := trodAll_cons r0
  obtain ⟨rfl, rfl, rfl⟩ := trodAll_nil r1
  obtain rfl : args = #[v0, v1] := by cases args; simp_all
  obtain ⟨rfl, rfl⟩ := trodVars_none hV
  obtain ⟨a0, len0, cap0, rfl⟩ := okWide_slice Try.underlying22 (hval 0 22 v0 rfl rfl)
  have k0 := h0
  have lt0 : ∀ x ∈ p0, x.block < W.heap.size := by obtain ⟨m, hm⟩ := k0; exact DataW.trod_lt m _ _ _ hm
  obtain ⟨l0, w0⟩ : ∃ l, SliceIn .u8 W a0 len0 cap0 l := by
    obtain ⟨fuel, hf⟩ := h0
    rcases open_ints Try.underlying22 Try.underlying5 (by kernel_rfl) hf with ⟨hcs, _⟩ | ⟨x, l, c, zs, hcs, _, hl, hm, hz, _, hcell, hwz⟩
    · simp [Value.cells] at hcs
      obtain ⟨rfl, rfl, rfl⟩ := hcs
      exact ⟨[], SliceIn.nil _ _⟩
    · simp [Value.cells] at hcs
      obtain ⟨rfl, rfl, rfl⟩ := hcs
      exact ⟨_, SliceIn.of hl hm (by simpa using hz) hcell hwz⟩
  obtain ⟨a1, len1, cap1, rfl⟩ := okWide_slice Try.underlying22 (hval 1 22 v1 rfl rfl)
  have k1 := h1
  have lt1 : ∀ x ∈ p1, x.block < W.heap.size := by obtain ⟨m, hm⟩ := k1; exact DataW.trod_lt m _ _ _ hm
  obtain ⟨l1, w1⟩ : ∃ l, SliceIn .u8 W a1 len1 cap1 l := by
    obtain ⟨fuel, hf⟩ := h1
    rcases open_ints Try.underlying22 Try.underlying5 (by kernel_rfl) hf with ⟨hcs, _⟩ | ⟨x, l, c, zs, hcs, _, hl, hm, hz, _, hcell, hwz⟩
    · simp [Value.cells] at hcs
      obtain ⟨rfl, rfl, rfl⟩ := hcs
      exact ⟨[], SliceIn.nil _ _⟩
    · simp [Value.cells] at hcs
      obtain ⟨rfl, rfl, rfl⟩ := hcs
      exact ⟨_, SliceIn.of hl hm (by simpa using hz) hcell hwz⟩
  clear hA0 hval0
  refine (playAlone_walk a0 len0 cap0 l0 a1 len1 cap1 l1 W w0 w1).mono fun e W' ⟨he, bel⟩ => ?_
  subst he
  exact ⟨_, rfl, _, _, _, [], _, [], hW', trodAll_mk1 (shut_bool Try.underlying4 _), (trodAll_cons_mk (Below.trod law_laidOut (by kernel_rfl) (of_decide_eq_true (by kernel_rfl)) k0 bel lt0) (trodAll_cons_mk (Below.trod law_laidOut (by kernel_rfl) (of_decide_eq_true (by kernel_rfl)) k1 bel lt1) trodAll_mk0)), rfl, bel.frame _, fun h => by cases h⟩

/-- The statement. -/
theorem playAlone_holds : Rows.PlayAloneSaid :=
  OpenClaim.holds_of_wide 3 Try.f3 rfl rfl rfl rfl rfl rfl rfl ⟨rfl, rfl, rfl, rfl, rfl⟩ rfl rfl rfl rfl rfl (by kernel_rfl) Try.func3 (by kernel_rfl)
    (of_decide_eq_true (by kernel_rfl)) (by unfold Func.isWrapper; first | (rw [if_pos (by decide +kernel)]; kernel_rfl) | (rw [if_neg (by decide +kernel)]; exact ⟨rfl, rfl⟩))
    (fun os started H enc _ => playAlone_lifted os started H enc)
