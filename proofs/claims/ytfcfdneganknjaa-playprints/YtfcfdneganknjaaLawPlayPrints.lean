/- PlayPrints: what is told is what the events of printing tell, in order; for every input. -/
import Derived.Test.YtfcfdneganknjaaPlayAll
namespace Go.Proofs.Ytfcfdneganknjaa
set_option linter.unusedVariables false
set_option linter.unusedSimpArgs false
open Go.ChangeShapes Go.WideShapes Go.ChangeAt Go.RowKit

theorem vals_take {l : List EvD} {j : Nat} {x : EvD} (h : l[j]? = some x) : valsE (l.take (j + 1)) = valsE (l.take j) ++ (if x.op = 9 then [x.val] else []) := by
  rw [List.take_add_one, h, valsE_append]
  congr 1
  simp only [valsE, Option.toList, List.filterMap_cons, List.filterMap_nil]
  split <;> simp_all
theorem vals_at {l : List EvD} {j : Nat} {x : EvD} (h : l[j]? = some x) (h9 : x.op = 9) : (valsE l)[(valsE (l.take j)).length]? = some x.val := by
  have e : l = l.take j ++ x :: l.drop (j + 1) := by
    have := (List.take_append_drop j l).symm
    rwa [List.drop_eq_getElem_cons (List.getElem?_eq_some_iff.1 h).1, (List.getElem?_eq_some_iff.1 h).2] at this
  have e2 : valsE l = valsE (l.take j) ++ (x.val :: valsE (l.drop (j + 1))) := by
    conv => lhs; rw [e]
    rw [valsE_append]; simp [valsE, h9]
  rw [e2, List.getElem?_append_right (Nat.le_refl _)]; simp

set_option maxRecDepth 100000 in
set_option maxHeartbeats 4000000 in
theorem playPrints_walk (rows : List (List Int)) (a : Option Addr) (cap : Nat) (a1 : Option Addr) (len1 cap1 : Nat) (l1 : List Int) (w : World) (hl : rows.length ≤ 9223372036854775807) (hr : BytesIn w w.heap.size a rows) (hp : SliceIn .u8 w a1 len1 cap1 l1) :
    Calls Try.prog 10 #[.slice a rows.length cap, .slice a1 len1 cap1] w fun e w' => e = .returned (.bool true) ∧ Below w.heap.size w w' := by
  obtain ⟨q1, q2, q3, rfl⟩ := bytes_of hp
  have HM := Lib.hid (make_any rows a cap w hl hr)
  have HP := Lib.hid q1
  have HPf := Lib.hid q2
  clear hr hp q1 q2
  go_enter Try.func10, Try.ntmps10
  go_wp2_with fail
  refine HM.out.mono ?_
  rintro e w1 ⟨cs, vs, tv, rfl, hO, hCh, ⟨h1, h3⟩, hG, hB1⟩
  obtain ⟨ta, tcap, rfl, hPr⟩ := made_in hO hCh (by omega)
  have HPr := Lib.hid hPr
  have HSd := Lib.hid (made_good h1 h3 hG)
  have HB1 := Lib.hid hB1
  have h60 := picksL_len l1
  clear HM hO hCh hG hB1 hPr
  go_wp2_with (first
    | (go_at_call 12; refine (made_run HPr2.out HSd.out _ HRw.out (by omega)).mono ?_; rintro e w3 ⟨va, vc, ka, kc, xa, xc, rfl, hR, hB3⟩; have HR := Lib.hid (hR.later (below_box w3 (.cells #[.slice va (runT cs (picksL l1) (newM [1])).length vc, .int .u8 (statusM cs (runM cs (picksL l1) (newM [1]))), .slice ka (pkM cs (picksL l1) (newM [1])).length kc, .slice xa (trM cs (picksL l1) (newM [1])).length xc] 31))); have HB3 := Lib.hid (below_new (below_next HB2.out hB3) (.cells #[.slice va (runT cs (picksL l1) (newM [1])).length vc, .int .u8 (statusM cs (runM cs (picksL l1) (newM [1]))), .slice ka (pkM cs (picksL l1) (newM [1])).length kc, .slice xa (trM cs (picksL l1) (newM [1])).length xc] 31)); clear hR hB3)
    | (go_at_call 13; refine (picks_any l1 a1 cap1 w1 (picks_later HP.out HB1.out) HPf.out q3).mono ?_; rintro e w2 ⟨pv, rfl, hown, hB2⟩; have HPr2 := Lib.hid (HPr.out.later hB2); have HB2 := Lib.hid (below_next HB1.out hB2); obtain ⟨pa, pc, rfl, hcells⟩ := own_cells hown; have HRw := Lib.hid (row_own (cap := pc) hcells); clear hown hB2 hcells))
  generalize hU : World.alloc w3 _ = U at *
  have hN := (congrArg (fun x : World => x.heap[w3.heap.size]?) hU).symm.trans (heap_alloc_new _ _)
  have hv := vals_run cs (picksL l1) (newM [1])
  have hle1 := runT_len cs (picksL l1) (newM [1])
  have hle2 := pkM_len cs (picksL l1) (newM [1])
  have hle3 := trM_len cs (picksL l1) (newM [1])
  clear hU
  generalize runT cs (picksL l1) (newM [1]) = pr at *
  generalize trM cs (picksL l1) (newM [1]) = tr at *
  generalize pkM cs (picksL l1) (newM [1]) = pk at *
  generalize statusM cs (runM cs (picksL l1) (newM [1])) = st at *
  generalize w3.heap.size = q at *
  have HV := Lib.hid hv
  have HN := Lib.hid hN
  clear hv hN
  go_loopw [7, 8] (fun kk i wr => ∃ j : Nat, j ≤ tr.length ∧ i = .int .i64 j ∧ kk = .int .i64 (valsE (tr.take j)).length ∧ Below U.heap.size U wr) (fun _ i _ => tr.length - (intOf i).toNat)
  case atStart => exact ⟨0, Nat.zero_le _, rfl, rfl, Below.refl _ _⟩
  case round =>
    obtain ⟨j, hj, rfl, rfl, hB⟩ := hrel
    obtain ⟨n0, n1, n2, n3⟩ := cells4 ((hB.block _ (Array.getElem?_eq_some_iff.1 HN.out).1).trans HN.out)
    have hkl : (valsE (tr.take j)).length ≤ pr.length := by
      rw [← HV.out]
      conv => rhs; rw [← List.take_append_drop j tr, valsE_append, List.length_append]
      omega
    by_cases hlt : j < tr.length
    · obtain ⟨x, hx⟩ := at_lt hlt
      obtain ⟨g, rfl, hg, hE⟩ := HR.out.trace j x hx
      obtain ⟨x0, x1, x2, x3, x4, x5⟩ := hE.later hB
      have ht := vals_take hx
      by_cases h9 : x.op = 9
      · have ha := vals_at hx h9
        rw [HV.out] at ha
        obtain ⟨vg, rfl, hvg, hvc⟩ := HR.out.prints _ _ ha
        have hvc' := (hB.cell (p := ⟨vg, (valsE (tr.take j)).length, none⟩) hvg).trans hvc
        have hkk := (List.getElem?_eq_some_iff.1 ha).1
        rw [if_pos h9] at ht
        rw [h9] at x2
        generalize hk : (valsE (tr.take j)).length = k at *
        have hd : decide ((pr.length : Int) ≤ (k : Int)) = false := decide_eq_false (by omega)
        have hd2 : ¬ pr.length ≤ k := by omega
        have HT := Lib.hid ht
        have HK := Lib.hid hk
        clear ht ha hvc hx hk
        go_wp2_with fail
        go_quiet (fail)
        go_wp2
        go_roundw
        case rel => exact ⟨j + 1, by omega, by go_num, by rw [HT.out, List.length_append, HK.out]; go_num, below_draws hB _⟩
        case measure => simp [intOf]; omega
      · rw [if_neg h9, List.append_nil] at ht
        have HT := Lib.hid ht
        have h9' : (x.op == 9) = false := by simpa using h9
        clear ht hx
        go_wp2_with fail
        go_roundw
        case rel => exact ⟨j + 1, by omega, by go_num, by rw [HT.out], hB⟩
        case measure => simp [intOf]; omega
    · obtain rfl : j = tr.length := by omega
      have hz : (valsE (tr.take tr.length)).length = pr.length := by rw [List.take_length, HV.out]
      rw [hz]
      have HBx := Lib.hid hB
      have hs := hB.size
      clear hz hkl hB
      go_wp2_with (first
        | (go_at_call 15; refine (known5_any _).mono ?_; rintro e w5 ⟨rfl, hB5⟩; obtain ⟨m0, m1, m2, m3⟩ := keep4 ⟨n0, n1, n2, n3⟩ hB5; have HB5 := Lib.hid hB5; clear hB5))
      go_ret
      exact ⟨rfl, below_next HB3.out (below_next HBx.out HB5.out)⟩
set_option maxRecDepth 100000 in
theorem playPrints_lifted (os : Os) (started : os.Started) (H : Type) (enc : TypeId × Value → H) :
    ReturnsInHanded {} Try.checked os 10 .any (Rows.playPrintsSpec.pre6 enc Try.prog Try.f10 Rows.playPrintsRow.domain false) (Rows.playPrintsSpec.post enc Try.prog Try.f10 false true false false) := by
  refine returnsInHanded_of_change (C := Try.checked) law_own started (by kernel_rfl) Try.func10
    (ChangeSpec.witness6 (enc := enc) (C := Try.checked) false ⟨#[], #[.slice none 0 0, .slice none 0 0], []⟩ 8 (by kernel_rfl) (by kernel_rfl) (by kernel_rfl) (by kernel_rfl)) ?_
  intro W base args ds gs before hval0 hW hcnd _
  have hval : ∀ (j : Nat) t v, Try.f10.params[j]? = some t → args[j]? = some v → Value.okWide Try.prog W .any base t v := hval0
  have hW' := hW
  obtain ⟨p, q, hA0, hV, rfl, hfz, hnd⟩ := hW
  have hA : DataW.TrodAll enc Try.prog W 0 (fun _ => true) true Try.f10.params.toList args.toList ds p := hA0
  rw [Try.params10] at hA hval
  obtain ⟨v0, vs0, d0, ds0, p0, q0, hargs, rfl, rfl, h0, r0⟩ := trodAll_cons hA
  obtain ⟨v1, vs1, d1, ds1, p1, q1, rfl, rfl, rfl, h1, r1⟩ := trodAll_cons r0
  obtain ⟨rfl, rfl, rfl⟩ := trodAll_nil r1
  obtain rfl : args = #[v0, v1] := by cases args; simp_all
  obtain ⟨rfl, rfl⟩ := trodVars_none hV
  have k0 := h0
  have lt0 : ∀ x ∈ p0, x.block < W.heap.size := by obtain ⟨m, hm⟩ := k0; exact DataW.trod_lt m _ _ _ hm
  obtain ⟨a0, cap0, l0, rfl, n0, w0⟩ := open_rows_u8 (hval 0 28 v0 rfl rfl) h0
  obtain ⟨a1, len1, cap1, rfl⟩ := okWide_slice Try.underlying22 (hval 1 22 v1 rfl rfl)
  have k1 := h1
  have lt1 : ∀ x ∈ p1, x.block < W.heap.size := by obtain ⟨m, hm⟩ := k1; exact DataW.trod_lt m _ _ _ hm
  obtain ⟨l1, w1⟩ : ∃ l, SliceIn .u8 W a1 len1 cap1 l := by
    obtain ⟨fuel, hf⟩ := h1
    rcases open_ints Try.underlying22 Try.underlying5 (by kernel_rfl) hf with ⟨hcs, _⟩ | ⟨x, l, c, zs, hcs, _, hl, hm, hz, _, hcell, hwz⟩
    · simp [Value.cells] at hcs
      obtain ⟨rfl, rfl, rfl⟩ := hcs
      exact ⟨[], SliceIn.nil _ _⟩
    · simp [Value.cells] at hcs
      obtain ⟨rfl, rfl, rfl⟩ := hcs
      exact ⟨_, SliceIn.of hl hm (by simpa using hz) hcell hwz⟩
  clear hA0 hval0
  refine (playPrints_walk l0 a0 cap0 a1 len1 cap1 l1 W n0 w0 w1).mono fun e W' ⟨he, bel⟩ => ?_
  subst he
  exact ⟨_, rfl, _, _, _, [], _, [], hW', trodAll_mk1 (shut_bool Try.underlying4 _), (trodAll_cons_mk (Below.trod law_laidOut (by kernel_rfl) (of_decide_eq_true (by kernel_rfl)) k0 bel lt0) (trodAll_cons_mk (Below.trod law_laidOut (by kernel_rfl) (of_decide_eq_true (by kernel_rfl)) k1 bel lt1) trodAll_mk0)), rfl, bel.frame _, fun h => by cases h⟩

/-- The statement. -/
theorem playPrints_holds : Rows.PlayPrintsSaid :=
  OpenClaim.holds_of_wide 10 Try.f10 rfl rfl rfl rfl rfl rfl rfl ⟨rfl, rfl, rfl, rfl, rfl⟩ rfl rfl rfl rfl rfl (by kernel_rfl) Try.func10 (by kernel_rfl)
    (of_decide_eq_true (by kernel_rfl)) (by unfold Func.isWrapper; first | (rw [if_pos (by decide +kernel)]; kernel_rfl) | (rw [if_neg (by decide +kernel)]; exact ⟨rfl, rfl⟩))
    (fun os started H enc _ => playPrints_lifted os started H enc)
