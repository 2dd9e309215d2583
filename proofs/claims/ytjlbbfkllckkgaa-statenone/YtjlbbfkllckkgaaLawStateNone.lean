/- StateNone: a thread that can not go on does not, and nothing changes; one that can does; for every input. -/
import Derived.Test.YtjlbbfkllckkgaaStateMade
namespace Go.Proofs.Ytjlbbfkllckkgaa
set_option linter.unusedVariables false
set_option linter.unusedSimpArgs false
open Go.ChangeShapes Go.WideShapes Go.ChangeAt Go.RowKit

set_option maxRecDepth 100000 in
set_option maxHeartbeats 4000000 in
theorem stateNone_walk (rows : List (List Int)) (a : Option Addr) (cap : Nat) (a1 : Option Addr) (len1 cap1 : Nat) (l1 : List Int) (x : Int) (w : World) (hl : rows.length ≤ 9223372036854775807) (hr : BytesIn w w.heap.size a rows) (hp : SliceIn .u8 w a1 len1 cap1 l1) (hx : (Lit.int .i64 x).wf = true) :
    Calls Try.prog 6 #[.slice a rows.length cap, .slice a1 len1 cap1, .int .i64 x] w fun e w' => e = .returned (.bool true) ∧ Below w.heap.size w w' := by
  obtain ⟨q1, q2, q3, rfl⟩ := bytes_of hp
  have HM := Lib.hid (make_any rows a cap w hl hr)
  have HP := Lib.hid q1
  have HPf := Lib.hid q2
  clear hr hp hx q1 q2
  go_enter Try.func6, Try.ntmps6
  go_wp2_with fail
  refine HM.out.mono ?_
  rintro e w1 ⟨cs, vs, tv, rfl, hO, hCh, ⟨h1, h3⟩, hG, hB1⟩
  have HN := Lib.hid (made_new hO hCh h1 h3 hG)
  have HI := Lib.hid (made_inv h1 h3 hG)
  have HB1 := Lib.hid hB1
  clear HM hO hCh hG hB1
  go_wp2_with (first
    | (go_at_call 9; refine HN.out.mono ?_; rintro e w2 ⟨b, rfl, hB2, hb, S⟩; have HS := Lib.hid S; have HB2 := Lib.hid (below_next HB1.out hB2); have hwb : w.heap.size ≤ b := Nat.le_trans HB1.out.size hb; clear hB2 S hb)
    | (go_at_call 10; refine (known4_any w2).mono ?_; rintro e w3 ⟨rfl, hB3⟩; have HS3 := Lib.hid (HS.out.later hB3); have HB3 := Lib.hid (below_next HB2.out hB3); clear hB3)
    | (go_at_call 11; refine (picks_any l1 a1 cap1 w3 (fun i y hy => by obtain ⟨c, off, e1, e2, e3⟩ := HP.out i y hy; exact ⟨c, off, e1, Nat.lt_of_lt_of_le e2 HB3.out.size, (HB3.out.cell (p := ⟨c, off + i, none⟩) e2).trans e3⟩) HPf.out q3).mono ?_; rintro e w4 ⟨pv, rfl, hown, hB4⟩; have HR0 := Lib.hid (Rn.start (HS3.out.later hB4) HI.out (by omega)); have HB4 := Lib.hid (below_next HB3.out hB4); obtain ⟨pa, pc, rfl, hcells⟩ := own_cells hown; have HC := Lib.hid hcells; have hb4 : b < w3.heap.size := HS3.out.lt; clear hown hB4 hcells))
  generalize hps : picksL l1 = ps at *
  have h60 : ps.length ≤ 60 := by rw [← hps]; exact picksL_len l1
  clear hps
  go_loopw [9] (fun i wr => ∃ k : Nat, k ≤ ps.length ∧ i = .int .i64 k ∧ Hid (Rn w4 wr b (b + 1) (runM cs (ps.take k) (newM [1])) cs (runT cs (ps.take k) (newM [1])))) (fun i _ => ps.length - (intOf i).toNat)
  case atStart => exact ⟨0, Nat.zero_le _, rfl, HR0⟩
  case round =>
    obtain ⟨k, hk, rfl, HR⟩ := hrel
    have htl := runT_len cs (ps.take k) (newM [1])
    rw [List.length_take] at htl
    by_cases hlt : k < ps.length
    · obtain ⟨y, hy⟩ := at_lt hlt
      obtain ⟨g, rfl, hg1, hg2, hcell⟩ := HC.out k y hy
      have hcell' := (World.cell?_of_block (a := ⟨g, k, none⟩) (HR.out.kept hg2 (by show g ≠ b; omega))).trans hcell
      have HY := Lib.hid hy
      clear hcell hy
      go_wp2_with (first
        | (go_at_call 12; refine (HR.out.step (by omega) y).mono ?_; rintro e w5 ⟨rfl, hR5, _⟩; have HR5 := Lib.hid hR5; clear hR5))
      go_roundw
      case rel => exact ⟨k + 1, by omega, by go_num, Lib.hid (by rw [runM_take HY.out, runT_take HY.out]; exact HR5.out)⟩
      case measure => simp [intOf]; omega
    · obtain rfl : k = ps.length := by omega
      generalize hmm : runM cs (ps.take ps.length) (newM [1]) = mm at HR
      generalize hpr : runT cs (ps.take ps.length) (newM [1]) = pr at HR htl
      have hpl : pr.length ≤ 60 := by omega
      clear hmm hpr htl HR0 HC
      have HBr := Lib.hid (HR.out.below HB4.out hwb)
      rcases hcan : canM cs mm x with _ | _
      · have HCan := Lib.hid hcan
        clear hcan
        generalize hst : statusM cs mm = st
        have HSt := Lib.hid hst
        generalize hpcx : pcM cs mm x = px
        have HPx := Lib.hid hpcx
        clear hst hpcx
        go_wp2_with (first
          | (go_at_call 14; refine HR.out.status.mono ?_; rintro e w5 ⟨rfl, hB5⟩; rw [HSt.out]; have HR5 := Lib.hid (HR.out.later hB5); have HB5 := Lib.hid (below_next HBr.out hB5); clear hB5)
          | (go_at_call 18; refine (HR5.out.can x).mono ?_; rintro e w6 ⟨rfl, hB6⟩; rw [HCan.out]; have HR6 := Lib.hid (HR5.out.later hB6); have HB6 := Lib.hid (below_next HB5.out hB6); clear hB6)
          | (go_at_call 13; refine (HR6.out.pc x).mono ?_; rintro e w6' ⟨rfl, rfl⟩; rw [HPx.out])
          | (go_at_call 15; refine (HR6.out.prints (by omega)).mono ?_; rintro e w7 ⟨v7, rfl, hown7, hB7⟩; obtain ⟨va, vc, rfl⟩ := st_slice hown7; have HR7 := Lib.hid (HR6.out.later hB7); have HB7 := Lib.hid (below_next HB6.out hB7); clear hB7 hown7)
          | (go_at_call 12; refine (HR7.out.step (by omega) x).mono ?_; rintro e w8 ⟨rfl, hR8, hB8⟩; rw [stepV_no HCan.out, HCan.out]; rw [stepM_no HCan.out, stepT_no HCan.out, List.append_nil] at hR8; have HR8 := Lib.hid hR8; have HB8 := Lib.hid (below_next HB7.out (hB8 HCan.out)); clear hR8 hB8)
          | (go_at_call 14; refine (HR8.out.later (below_box w8 _)).status.mono ?_; rintro e w9 ⟨rfl, hB9⟩; rw [HSt.out]; have HR9 := Lib.hid ((HR8.out.later (below_box w8 _)).later hB9); have HB9 := Lib.hid (below_next (below_new HB8.out _) hB9); clear hB9)
          | (go_at_call 13; refine (HR9.out.pc x).mono ?_; rintro e w9' ⟨rfl, rfl⟩; rw [HPx.out])
          | (go_at_call 15; refine (HR9.out.prints (by omega)).mono ?_; rintro e w10 ⟨v10, rfl, hown10, hB10⟩; obtain ⟨va2, vc2, rfl⟩ := st_slice hown10; have HB10 := Lib.hid (below_next HB9.out hB10); clear hB10 hown10))
        go_ret
        exact ⟨rfl, HB10.out⟩
      · have HCan := Lib.hid hcan
        clear hcan
        go_wp2_with (first
          | (go_at_call 14; refine HR.out.status.mono ?_; rintro e w5 ⟨rfl, hB5⟩; have HR5 := Lib.hid (HR.out.later hB5); have HB5 := Lib.hid (below_next HBr.out hB5); clear hB5)
          | (go_at_call 18; refine (HR5.out.can x).mono ?_; rintro e w6 ⟨rfl, hB6⟩; rw [HCan.out]; have HR6 := Lib.hid (HR5.out.later hB6); clear hB6)
          | (go_at_call 13; refine (HR6.out.pc x).mono ?_; rintro e w6' ⟨rfl, rfl⟩)
          | (go_at_call 15; refine (HR6.out.prints (by omega)).mono ?_; rintro e w7 ⟨v7, rfl, hown7, hB7⟩; obtain ⟨va, vc, rfl⟩ := st_slice hown7; have HR7 := Lib.hid (HR6.out.later hB7); clear hB7 hown7)
          | (go_at_call 12; refine (HR7.out.step (by omega) x).mono ?_; rintro e w8 ⟨rfl, hR8, hB8⟩; rw [HCan.out]; obtain ⟨e0, e1, e2, e3, e4, e5, he⟩ := stepV_shape cs mm x; rw [he]; clear he; have HB8 := Lib.hid (hR8.below HB4.out hwb); clear hR8 hB8))
        go_ret
        exact ⟨rfl, below_new HB8.out _⟩

set_option maxRecDepth 100000 in
theorem stateNone_lifted (os : Os) (started : os.Started) (H : Type) (enc : TypeId × Value → H) :
    ReturnsInHanded {} Try.checked os 6 .any (Rows.stateNoneSpec.pre6 enc Try.prog Try.f6 Rows.stateNoneRow.domain false) (Rows.stateNoneSpec.post enc Try.prog Try.f6 false true false false) := by
  refine returnsInHanded_of_change (C := Try.checked) law_own started (by kernel_rfl) Try.func6
    (ChangeSpec.witness6 (enc := enc) (C := Try.checked) false ⟨#[], #[.slice none 0 0, .slice none 0 0, .int .i64 0], []⟩ 8 (by kernel_rfl) (by kernel_rfl) (by kernel_rfl) (by kernel_rfl)) ?_
  intro W base args ds gs before hval0 hW hcnd _
  have hval : ∀ (j : Nat) t v, Try.f6.params[j]? = some t → args[j]? = some v → Value.okWide Try.prog W .any base t v := hval0
  have hW' := hW
  obtain ⟨p, q, hA0, hV, rfl, hfz, hnd⟩ := hW
  have hA : DataW.TrodAll enc Try.prog W 0 (fun _ => true) true Try.f6.params.toList args.toList ds p := hA0
  rw [Try.params6] at hA hval
  obtain ⟨v0, vs0, d0, ds0, p0, q0, hargs, rfl, rfl, h0, r0⟩ := trodAll_cons hA
  obtain ⟨v1, vs1, d1, ds1, p1, q1, rfl, rfl, rfl, h1, r1⟩ := trodAll_cons r0
  obtain ⟨v2, vs2, d2, ds2, p2, q2, rfl, rfl, rfl, h2, r2⟩ := trodAll_cons r1
  obtain ⟨rfl, rfl, rfl⟩ := trodAll_nil r2
  obtain rfl : args = #[v0, v1, v2] := by cases args; simp_all
  obtain ⟨rfl, rfl⟩ := trodVars_none hV
  have k0 := h0
  have lt0 : ∀ x ∈ p0, x.block < W.heap.size := by obtain ⟨m, hm⟩ := k0; exact DataW.trod_lt m _ _ _ hm
  obtain ⟨a0, cap0, l0, rfl, n0, w0⟩ := open_rows_u8 (hval 0 46 v0 rfl rfl) h0
  obtain ⟨a1, len1, cap1, rfl⟩ := okWide_slice Try.underlying22 (hval 1 22 v1 rfl rfl)
  have k1 := h1
  have lt1 : ∀ x ∈ p1, x.block < W.heap.size := by obtain ⟨m, hm⟩ := k1; exact DataW.trod_lt m _ _ _ hm
  obtain ⟨l1, w1⟩ : ∃ l, SliceIn .u8 W a1 len1 cap1 l := by
    obtain ⟨fuel, hf⟩ := h1
    rcases open_ints Try.underlying22 Try.underlying5 (by kernel_rfl) hf with ⟨hcs, _⟩ | ⟨x, l, c, zs, hcs, _, hl, hm, hz, _, hcell, hwz⟩
    · simp [Value.cells] at hcs
      obtain ⟨rfl, rfl, rfl⟩ := hcs
      exact ⟨[], SliceIn.nil _ _⟩
    · simp [Value.cells] at hcs
      obtain ⟨rfl, rfl, rfl⟩ := hcs
      exact ⟨_, SliceIn.of hl hm (by simpa using hz) hcell hwz⟩
  obtain ⟨a2, rfl, rfl, rfl, w2⟩ := open_int Try.underlying3 (hval 2 3 v2 rfl rfl) h2
  clear hA0 hval0
  refine (stateNone_walk l0 a0 cap0 a1 len1 cap1 l1 a2 W n0 w0 w1 w2).mono fun e W' ⟨he, bel⟩ => ?_
  subst he
  exact ⟨_, rfl, _, _, _, [], _, [], hW', trodAll_mk1 (shut_bool Try.underlying4 _), (trodAll_cons_mk (Below.trod law_laidOut (by kernel_rfl) (of_decide_eq_true (by kernel_rfl)) k0 bel lt0) (trodAll_cons_mk (Below.trod law_laidOut (by kernel_rfl) (of_decide_eq_true (by kernel_rfl)) k1 bel lt1) (trodAll_cons_mk (shut_int Try.underlying3 w2) trodAll_mk0))), rfl, bel.frame _, fun h => by cases h⟩

/-- The statement. -/
theorem stateNone_holds : Rows.StateNoneSaid :=
  OpenClaim.holds_of_wide 6 Try.f6 rfl rfl rfl rfl rfl rfl rfl ⟨rfl, rfl, rfl, rfl, rfl⟩ rfl rfl rfl rfl rfl (by kernel_rfl) Try.func6 (by kernel_rfl)
    (of_decide_eq_true (by kernel_rfl)) (by unfold Func.isWrapper; first | (rw [if_pos (by decide +kernel)]; kernel_rfl) | (rw [if_neg (by decide +kernel)]; exact ⟨rfl, rfl⟩))
    (fun os started H enc _ => stateNone_lifted os started H enc)

end Go.Proofs.Ytjlbbfkllckkgaa
