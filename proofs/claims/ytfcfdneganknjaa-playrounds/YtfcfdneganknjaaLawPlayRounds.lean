/- PlayRounds: a run in turn is a run; if it has not so many steps as there may be, none can go on; for every input. -/
import Derived.Test.YtfcfdneganknjaaPlaySame
namespace Go.Proofs.Ytfcfdneganknjaa
set_option linter.unusedVariables false
set_option linter.unusedSimpArgs false
open Go.ChangeShapes Go.WideShapes Go.ChangeAt Go.RowKit

set_option maxRecDepth 100000 in
set_option maxHeartbeats 4000000 in
theorem playRounds_walk (rows : List (List Int)) (a : Option Addr) (cap : Nat) (n1 : Int) (w : World) (hl : rows.length ≤ 9223372036854775807) (hr : BytesIn w w.heap.size a rows) (w1 : (Lit.int .u8 n1).wf = true) :
    Calls Try.prog 9 #[.slice a rows.length cap, .int .u8 n1] w fun e w' => e = .returned (.bool true) ∧ Below w.heap.size w w' := by
  obtain ⟨r0, r1⟩ := bounds_u8 w1
  obtain ⟨n, rfl⟩ := Int.eq_ofNat_of_zero_le r0
  have HM := Lib.hid (make_any rows a cap w hl hr)
  clear hr w1
  go_enter Try.func9, Try.ntmps9
  go_wp2_with fail
  refine HM.out.mono ?_
  rintro e w1 ⟨cs, vs, tv, rfl, hO, hCh, ⟨h1, h3⟩, hG, hB1⟩
  obtain ⟨ta, tcap, rfl, hPr⟩ := made_in hO hCh (by omega)
  have HPr := Lib.hid (hPr.later (below_box w1 (pbO (some ⟨w.heap.size + 1, 0, none⟩) ta cs.length tcap)))
  have HSd := Lib.hid (made_good h1 h3 hG)
  have HB1 := Lib.hid (below_new hB1 (pbO (some ⟨w.heap.size + 1, 0, none⟩) ta cs.length tcap))
  have hlen := round_len cs cs.length n 0 (newM [1])
  have hend := round_end cs n 0 (newM [1])
  have hpk := round_picks cs cs.length n 0 (newM [1])
  generalize hps : roundP cs cs.length n 0 (newM [1]) = ps at *
  have HPs := Lib.hid hps
  have HPk := Lib.hid hpk
  have hle1 := runT_len cs ps (newM [1])
  have hle3 := trM_len cs ps (newM [1])
  rw [hpk] at hle3
  have hle4 : (trM cs ps (newM [1])).length ≤ 255 := by omega
  clear hle3
  clear HM hO hCh hG hB1 hPr hps hpk
  have hle : (ps.length : Int) ≤ (n : Int) := by omega
  rcases (show (ps.length = n) ∨ (ps.length ≠ n ∧ statusM cs (runM cs ps (newM [1])) ≠ 0) by by_cases hq : ps.length = n; exact .inl hq; exact .inr ⟨hq, hend.resolve_left hq⟩) with hq | ⟨hq, hz⟩
  all_goals
    have HQ := Lib.hid hq
    clear hq
    generalize hst : statusM cs (runM cs ps (newM [1])) = st at *
    have HSt := Lib.hid hst
    clear hst hend
    go_wp2_with (first
      | (go_at_call 15; refine (known5_any w4).mono ?_; rintro e w5 ⟨rfl, hB5⟩; obtain ⟨a0, a1, a2, a3⟩ := cells4 (old_later HN4.out hB5); have HB5 := Lib.hid (below_next HB4.out hB5); clear hB5; have hq := HQ.out; first | (have hq1 : decide ((ps.length : Int) = (n : Int)) = true := decide_eq_true (by omega)) | (have hq1 : decide ((ps.length : Int) = (n : Int)) = false := decide_eq_false (by omega); have hq2 : ¬ (ps.length : Int) = (n : Int) := (by omega)))
      | (go_at_call 18; refine (same5_yes _ _ _ _ _ _ _ _ _ _ _ _ _ _ _ _ _ HR3a.out HR3b.out (by omega) (by omega) (by omega)).mono ?_; rintro e w4 ⟨rfl, hB4⟩; have HN4 := Lib.hid (old_later HN3.out hB4); have HB4 := Lib.hid (below_next HB3.out hB4); clear hB4 a0 a1 a2 a3)
      | (go_at_call 12; refine (made_run HPr2.out HSd.out _ HR.out.row (by omega)).mono ?_; rw [HPk.out, HSt.out]; rintro e w3 ⟨va', vc', ka', kc', xa', xc', rfl, hR', hB3⟩; have HR3a := Lib.hid ((HR.out.later hB3).later (below_box w3 (rsO va' (runT cs ps (newM [1])).length vc' st ka' ps.length kc' xa' (trM cs ps (newM [1])).length xc'))); have HR3b := Lib.hid (hR'.later (below_box w3 (rsO va' (runT cs ps (newM [1])).length vc' st ka' ps.length kc' xa' (trM cs ps (newM [1])).length xc'))); have HN3 := Lib.hid (old_alloc (old_later HN2.out hB3) (rsO va' (runT cs ps (newM [1])).length vc' st ka' ps.length kc' xa' (trM cs ps (newM [1])).length xc')); obtain ⟨a0, a1, a2, a3⟩ := cells4 HN3.out; have HB3 := Lib.hid (below_new (below_next HB2.out hB3) (rsO va' (runT cs ps (newM [1])).length vc' st ka' ps.length kc' xa' (trM cs ps (newM [1])).length xc')); clear hR' hB3 b0 b1 b2 b3 b4 b5 b6)
      | (go_at_call 14; refine (made_round HPr.out HSd.out n (by omega) HPs.out).mono ?_; rw [HPk.out, HSt.out]; rintro e w2 ⟨va, vc, ka, kc, xa, xc, rfl, hR, hB2⟩; have HR := Lib.hid (hR.later (below_box w2 (rsO va (runT cs ps (newM [1])).length vc st ka ps.length kc xa (trM cs ps (newM [1])).length xc))); have HPr2 := Lib.hid ((HPr.out.later hB2).later (below_box w2 (rsO va (runT cs ps (newM [1])).length vc st ka ps.length kc xa (trM cs ps (newM [1])).length xc))); obtain ⟨b0, b1, b2, b3, b4, b5, b6⟩ := box7 (old_alloc (old_later (heap_alloc_new w1 (pbO (some ⟨w.heap.size + 1, 0, none⟩) ta cs.length tcap)) hB2) (rsO va (runT cs ps (newM [1])).length vc st ka ps.length kc xa (trM cs ps (newM [1])).length xc)); have HN2 := Lib.hid (heap_alloc_new w2 (rsO va (runT cs ps (newM [1])).length vc st ka ps.length kc xa (trM cs ps (newM [1])).length xc)); have HB2 := Lib.hid (below_new (below_next HB1.out hB2) (rsO va (runT cs ps (newM [1])).length vc st ka ps.length kc xa (trM cs ps (newM [1])).length xc)); clear hR hB2))
    go_ret
    exact ⟨by first | rfl | simp [hz], HB5.out⟩
set_option maxRecDepth 100000 in
theorem playRounds_lifted (os : Os) (started : os.Started) (H : Type) (enc : TypeId × Value → H) :
    ReturnsInHanded {} Try.checked os 9 .any (Rows.playRoundsSpec.pre6 enc Try.prog Try.f9 Rows.playRoundsRow.domain false) (Rows.playRoundsSpec.post enc Try.prog Try.f9 false true false false) := by
  refine returnsInHanded_of_change (C := Try.checked) law_own started (by kernel_rfl) Try.func9
    (ChangeSpec.witness6 (enc := enc) (C := Try.checked) false ⟨#[], #[.slice none 0 0, .int .u8 0], []⟩ 8 (by kernel_rfl) (by kernel_rfl) (by kernel_rfl) (by kernel_rfl)) ?_
  intro W base args ds gs before hval0 hW hcnd _
  have hval : ∀ (j : Nat) t v, Try.f9.params[j]? = some t → args[j]? = some v → Value.okWide Try.prog W .any base t v := hval0
  have hW' := hW
  obtain ⟨p, q, hA0, hV, rfl, hfz, hnd⟩ := hW
  have hA : DataW.TrodAll enc Try.prog W 0 (fun _ => true) true Try.f9.params.toList args.toList ds p := hA0
  rw [Try.params9] at hA hval
  obtain ⟨v0, vs0, d0, ds0, p0, q0, hargs, rfl, rfl, h0, r0⟩ := trodAll_cons hA
  obtain ⟨v1, vs1, d1, ds1, p1, q1, rfl, rfl, rfl, h1, r1⟩ := trodAll_cons r0
  obtain ⟨rfl, rfl, rfl⟩ := trodAll_nil r1
  obtain rfl : args = #[v0, v1] := by cases args; simp_all
  obtain ⟨rfl, rfl⟩ := trodVars_none hV
  have k0 := h0
  have lt0 : ∀ x ∈ p0, x.block < W.heap.size := by obtain ⟨m, hm⟩ := k0; exact DataW.trod_lt m _ _ _ hm
  obtain ⟨a0, cap0, l0, rfl, n0, w0⟩ := open_rows_u8 (hval 0 28 v0 rfl rfl) h0
  obtain ⟨a1, rfl, rfl, rfl, w1⟩ := open_int Try.underlying5 (hval 1 5 v1 rfl rfl) h1
  clear hA0 hval0
  refine (playRounds_walk l0 a0 cap0 a1 W n0 w0 w1).mono fun e W' ⟨he, bel⟩ => ?_
  subst he
  exact ⟨_, rfl, _, _, _, [], _, [], hW', trodAll_mk1 (shut_bool Try.underlying4 _), (trodAll_cons_mk (Below.trod law_laidOut (by kernel_rfl) (of_decide_eq_true (by kernel_rfl)) k0 bel lt0) (trodAll_cons_mk (shut_int Try.underlying5 w1) trodAll_mk0)), rfl, bel.frame _, fun h => by cases h⟩

/-- The statement. -/
theorem playRounds_holds : Rows.PlayRoundsSaid :=
  OpenClaim.holds_of_wide 9 Try.f9 rfl rfl rfl rfl rfl rfl rfl ⟨rfl, rfl, rfl, rfl, rfl⟩ rfl rfl rfl rfl rfl (by kernel_rfl) Try.func9 (by kernel_rfl)
    (of_decide_eq_true (by kernel_rfl)) (by unfold Func.isWrapper; first | (rw [if_pos (by decide +kernel)]; kernel_rfl) | (rw [if_neg (by decide +kernel)]; exact ⟨rfl, rfl⟩))
    (fun os started H enc _ => playRounds_lifted os started H enc)
