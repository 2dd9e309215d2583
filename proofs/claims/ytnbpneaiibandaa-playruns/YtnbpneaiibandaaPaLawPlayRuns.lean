/- PlayRuns: Run and Round of any program that may be are what the document says; for every input. -/
import Derived.Test.YtnbpneaiibandaaPa1
import Derived.Test.YtnbpneaiibandaaPa2
import Derived.Test.YtnbpneaiibandaaPa3
import Derived.Test.YtnbpneaiibandaaPa4
import Derived.Test.YtnbpneaiibandaaPa5
import Derived.Test.YtnbpneaiibandaaPa6
import Derived.Test.YtnbpneaiibandaaPa7
import Derived.Test.YtnbpneaiibandaaPa8
import Derived.Test.YtnbpneaiibandaaPa9
import Derived.Test.YtnbpneaiibandaaPa10
import Derived.Test.YtnbpneaiibandaaPa11
import Derived.Test.YtnbpneaiibandaaPa12
import Derived.Test.YtnbpneaiibandaaPa13
import Derived.Test.YtnbpneaiibandaaPa14
import Derived.Test.YtnbpneaiibandaaPa15
import Derived.Test.YtnbpneaiibandaaPa16
import Derived.Test.YtnbpneaiibandaaPa17
import Derived.Test.YtnbpneaiibandaaPa18
import Derived.Test.YtnbpneaiibandaaPa19
import Derived.Test.YtnbpneaiibandaaPa20
namespace Go.Proofs.Ytnbpneaiibandaa
set_option linter.unusedVariables false
set_option linter.unusedSimpArgs false
open Go.ChangeShapes Go.WideShapes Go.ChangeAt Go.RowKit

theorem rowsU_later {w u : World} {a : Option Addr} {rows : List (List Int)} (h : BytesIn w w.heap.size a rows) (hB : Below w.heap.size w u) : BytesIn u u.heap.size a rows := fun k r hr => by
 obtain ⟨b, off, h1, h2, a', cap', h3, h4, h5⟩ := h.below hB k r hr
 exact ⟨b, off, h1, Nat.lt_of_lt_of_le h2 hB.size, a', cap', h3, h4.more hB.size, h5⟩
set_option maxRecDepth 100000 in
set_option maxHeartbeats 4000000 in
theorem playRuns_walk (rows : List (List Int)) (a : Option Addr) (cap : Nat) (a1 : Option Addr) (len1 cap1 : Nat) (l1 : List Int) (a2 : Option Addr) (len2 cap2 : Nat) (l2 : List Int) (most n1 : Int) (w : World) (hl : rows.length ≤ 9223372036854775807) (hr : BytesIn w w.heap.size a rows) (hp : SliceIn .u8 w a1 len1 cap1 l1) (hs : SliceIn .i64 w a2 len2 cap2 l2) (hm : (Lit.int .i64 most).wf = true) (hn : (Lit.int .u8 n1).wf = true) :
  Calls Try.prog 3 #[.slice a rows.length cap, .slice a1 len1 cap1, .slice a2 len2 cap2, .int .i64 most, .int .u8 n1] w fun e w' => e = .returned (.bool true) ∧ Below w.heap.size w w' := by
 obtain ⟨q1, q2, q3, rfl⟩ := bytes_of hp
 obtain ⟨r0, r1⟩ := bounds_u8 hn
 obtain ⟨n, rfl⟩ := Int.eq_ofNat_of_zero_le r0
 have HM := Lib.hid (fun u (hu : Below w.heap.size w u) => make_any rows a cap u hl (rowsU_later hr hu))
 have HP := Lib.hid q1
 have HPf := Lib.hid q2
 have hle2 := hs.len_eq
 have HSc := Lib.hid hs.row
 subst hle2
 clear hr hp q1 q2 hs hm hn
 by_cases hlong : 100 < l2.length
 ·have hlong' : decide (100 < (l2.length : Int)) = true := decide_eq_true (by omega)
  go_enter Try.func3, Try.ntmps3
  go_wp2_with (go_at_call 12; refine (known5_any _).mono ?_; rintro e w1 ⟨rfl, hB1⟩)
  go_ret
  exact ⟨rfl, hB1⟩
 ·have hlong' : decide (100 < (l2.length : Int)) = false := decide_eq_false (by omega)
  go_enter Try.func3, Try.ntmps3
  go_upto_region 3 with (go_at_call 12; refine (known5_any _).mono ?_; rintro e w0 ⟨rfl, hB0⟩; have HB0 := Lib.hid hB0; clear hB0)
  go_wp2_with fail
  refine (HM.out w0 HB0.out).mono ?_
  rintro e w1 ⟨cs, vs, tv, rfl, hO, hCh, ⟨h1, h3⟩, hG, hB1⟩
  obtain ⟨ta, tcap, rfl, hPr⟩ := made_in hO hCh (by omega)
  have HPr := Lib.hid (hPr.later (below_box w1 (pbO (some ⟨w0.heap.size + 1, 0, none⟩) ta cs.length tcap)))
  have HB1 := Lib.hid (below_next HB0.out (below_new hB1 (pbO (some ⟨w0.heap.size + 1, 0, none⟩) ta cs.length tcap)))
  clear HM hO hCh hG hB1 hPr
  go_wp2_with fail
  generalize hU : World.alloc w1 _ = U at *
  have hN := (congrArg (fun x : World => x.heap[w1.heap.size]?) hU).symm.trans (heap_alloc_new _ _)
  have HN := Lib.hid hN
  obtain ⟨b0, b1, b2, b3, b4, b5, b6⟩ := kb7 hN (Below.refl _ _)
  clear hU hN
  generalize w1.heap.size = q at *
  have KU : U.drew.cell? ⟨q, 0, none⟩ = some (.int .i64 2) ∧ U.drew.cell? ⟨q, 1, none⟩ = some (.int .i64 1) ∧ U.drew.cell? ⟨q, 2, none⟩ = some (.int .i64 1) ∧ U.drew.cell? ⟨q, 3, none⟩ = some (.slice (some ⟨w0.heap.size + 1, 0, none⟩) 1 1) ∧ U.drew.cell? ⟨q, 4, none⟩ = some (.int .i64 1) ∧ U.drew.cell? ⟨q, 5, none⟩ = some (.int .i64 1) ∧ U.drew.cell? ⟨q, 6, none⟩ = some (.slice ta cs.length tcap) := ⟨b0, b1, b2, b3, b4, b5, b6⟩
  clear b0 b1 b2 b3 b4 b5 b6
  have h60 := picksL_len l1
  go_region_held3 (fun u' => u'.cell? ⟨q, 0, none⟩ = some (.int .i64 2) ∧ u'.cell? ⟨q, 1, none⟩ = some (.int .i64 1) ∧ u'.cell? ⟨q, 2, none⟩ = some (.int .i64 1) ∧ u'.cell? ⟨q, 3, none⟩ = some (.slice (some ⟨w0.heap.size + 1, 0, none⟩) 1 1) ∧ u'.cell? ⟨q, 4, none⟩ = some (.int .i64 1) ∧ u'.cell? ⟨q, 5, none⟩ = some (.int .i64 1) ∧ u'.cell? ⟨q, 6, none⟩ = some (.slice ta cs.length tcap)) (first | with_reducible exact KU | with_reducible exact keepB (by assumption) hB3 | with_reducible exact keepB (by assumption) hB2 | fail)
   (first
    | (go_at_call 14; refine (tells5_any (madeD cs) (some ⟨w0.heap.size + 1, 0, none⟩) 1 ta tcap _ _ (picksL l1) _ w2 (HPr.out.later HU2.out) HRw.out).mono ?_; rintro e w3 ⟨rfl, hB3⟩)
    | (go_at_call 15; refine (picks_any l1 a1 cap1 _ (picks_later HP.out HB1.out.drew) HPf.out q3).mono ?_; rintro e w2 ⟨pv, rfl, hown, hB2⟩; obtain ⟨pa, pc, rfl, hcells⟩ := own_cells hown; have HRw := Lib.hid (row_own (cap := pc) hcells); have HU2 := Lib.hid (show Below U.heap.size U w2 from below_next (Below.refl U.heap.size U).drew hB2); clear hown hcells))
  have HU3 := Lib.hid (below_next HU2.out hB3)
  obtain ⟨b0, b1, b2, b3, b4, b5, b6⟩ := kb7 HN.out HU3.out
  have HBU := Lib.hid (below_next HB1.out HU3.out)
  clear hB2 hB3 KU
  try clear K3
  go_wp2_with (go_at_call 14; refine (tells5_any (madeD cs) (some ⟨w0.heap.size + 1, 0, none⟩) 1 ta tcap a2 cap2 l2 _ w3 (HPr.out.later HU3.out) ((HSc.out.below HBU.out).more HBU.out.size)).mono ?_; rintro e w4 ⟨rfl, hB4⟩; have HB4 := Lib.hid hB4; clear hB4)
  all_goals
   go_wp2
   go_ret
   exact ⟨rfl, below_next HBU.out HB4.out⟩

set_option maxRecDepth 100000 in
theorem playRuns_lifted (os : Os) (started : os.Started) (H : Type) (enc : TypeId × Value → H) :
  ReturnsInHanded {} Try.checked os 3 .any (Rows.playRunsSpec.pre6 enc Try.prog Try.f3 Rows.playRunsRow.domain false) (Rows.playRunsSpec.post enc Try.prog Try.f3 false true false false) := by
 refine returnsInHanded_of_change (C := Try.checked) law_own started (by kernel_rfl) Try.func3
  (ChangeSpec.witness6 (enc := enc) (C := Try.checked) false ⟨#[], #[.slice none 0 0, .slice none 0 0, .slice none 0 0, .int .i64 0, .int .u8 0], []⟩ 8 (by kernel_rfl) (by kernel_rfl) (by kernel_rfl) (by kernel_rfl)) ?_
 intro W base args ds gs before hval0 hW hcnd _
 have hval : ∀ (j : Nat) t v, Try.f3.params[j]? = some t → args[j]? = some v → Value.okWide Try.prog W .any base t v := hval0
 have hW' := hW
 obtain ⟨p, q, hA0, hV, rfl, hfz, hnd⟩ := hW
 have hA : DataW.TrodAll enc Try.prog W 0 (fun _ => true) true Try.f3.params.toList args.toList ds p := hA0
 rw [Try.params3] at hA hval
 obtain ⟨v0, vs0, d0, ds0, p0, q0, hargs, rfl, rfl, h0, r0⟩ := trodAll_cons hA
 obtain ⟨v1, vs1, d1, ds1, p1, q1, rfl, rfl, rfl, h1, r1⟩ := trodAll_cons r0
 obtain ⟨v2, vs2, d2, ds2, p2, q2, rfl, rfl, rfl, h2, r2⟩ := trodAll_cons r1
 obtain ⟨v3, vs3, d3, ds3, p3, q3, rfl, rfl, rfl, h3, r3⟩ := trodAll_cons r2
 obtain ⟨v4, vs4, d4, ds4, p4, q4, rfl, rfl, rfl, h4, r4⟩ := trodAll_cons r3
 obtain ⟨rfl, rfl, rfl⟩ := trodAll_nil r4
 obtain rfl : args = #[v0, v1, v2, v3, v4] := by cases args; simp_all
 obtain ⟨rfl, rfl⟩ := trodVars_none hV
 have k0 := h0
 have lt0 : ∀ x ∈ p0, x.block < W.heap.size := by obtain ⟨m, hm⟩ := k0; exact DataW.trod_lt m _ _ _ hm
 obtain ⟨a0, cap0, l0, rfl, n0, w0⟩ := open_rows_u8 (hval 0 22 v0 rfl rfl) h0
 obtain ⟨a1, len1, cap1, rfl⟩ := okWide_slice Try.underlying23 (hval 1 23 v1 rfl rfl)
 have k1 := h1
 have lt1 : ∀ x ∈ p1, x.block < W.heap.size := by obtain ⟨m, hm⟩ := k1; exact DataW.trod_lt m _ _ _ hm
 obtain ⟨l1, w1⟩ : ∃ l, SliceIn .u8 W a1 len1 cap1 l := by
  obtain ⟨fuel, hf⟩ := h1
  rcases open_ints Try.underlying23 Try.underlying5 (by kernel_rfl) hf with ⟨hcs, _⟩ | ⟨x, l, c, zs, hcs, _, hl, hm, hz, _, hcell, hwz⟩
  ·simp [Value.cells] at hcs
   obtain ⟨rfl, rfl, rfl⟩ := hcs
   exact ⟨[], SliceIn.nil _ _⟩
  ·simp [Value.cells] at hcs
   obtain ⟨rfl, rfl, rfl⟩ := hcs
   exact ⟨_, SliceIn.of hl hm (by simpa using hz) hcell hwz⟩
 obtain ⟨a2, len2, cap2, rfl⟩ := okWide_slice Try.underlying24 (hval 2 24 v2 rfl rfl)
 have k2 := h2
 have lt2 : ∀ x ∈ p2, x.block < W.heap.size := by obtain ⟨m, hm⟩ := k2; exact DataW.trod_lt m _ _ _ hm
 obtain ⟨l2, w2⟩ : ∃ l, SliceIn .i64 W a2 len2 cap2 l := by
  obtain ⟨fuel, hf⟩ := h2
  rcases open_ints Try.underlying24 Try.underlying3 (by kernel_rfl) hf with ⟨hcs, _⟩ | ⟨x, l, c, zs, hcs, _, hl, hm, hz, _, hcell, hwz⟩
  ·simp [Value.cells] at hcs
   obtain ⟨rfl, rfl, rfl⟩ := hcs
   exact ⟨[], SliceIn.nil _ _⟩
  ·simp [Value.cells] at hcs
   obtain ⟨rfl, rfl, rfl⟩ := hcs
   exact ⟨_, SliceIn.of hl hm (by simpa using hz) hcell hwz⟩
 obtain ⟨a3, rfl, rfl, rfl, w3⟩ := open_int Try.underlying3 (hval 3 3 v3 rfl rfl) h3
 obtain ⟨a4, rfl, rfl, rfl, w4⟩ := open_int Try.underlying5 (hval 4 5 v4 rfl rfl) h4
 clear hA0 hval0
 refine (playRuns_walk l0 a0 cap0 a1 len1 cap1 l1 a2 len2 cap2 l2 a3 a4 W n0 w0 w1 w2 w3 w4).mono fun e W' ⟨he, bel⟩ => ?_
 subst he
 exact ⟨_, rfl, _, _, _, [], _, [], hW', trodAll_mk1 (shut_bool Try.underlying4 _), (trodAll_cons_mk (Below.trod law_laidOut (by kernel_rfl) (of_decide_eq_true (by kernel_rfl)) k0 bel lt0) (trodAll_cons_mk (Below.trod law_laidOut (by kernel_rfl) (of_decide_eq_true (by kernel_rfl)) k1 bel lt1) (trodAll_cons_mk (Below.trod law_laidOut (by kernel_rfl) (of_decide_eq_true (by kernel_rfl)) k2 bel lt2) (trodAll_cons_mk (shut_int Try.underlying3 w3) (trodAll_cons_mk (shut_int Try.underlying5 w4) trodAll_mk0))))), rfl, bel.frame _, fun h => by cases h⟩

theorem playRuns_holds : Rows.PlayRunsSaid :=
 OpenClaim.holds_of_wide 3 Try.f3 rfl rfl rfl rfl rfl rfl rfl ⟨rfl, rfl, rfl, rfl, rfl⟩ rfl rfl rfl rfl rfl (by kernel_rfl) Try.func3 (by kernel_rfl)
  (of_decide_eq_true (by kernel_rfl)) (by unfold Func.isWrapper; first | (rw [if_pos (by decide +kernel)]; kernel_rfl) | (rw [if_neg (by decide +kernel)]; exact ⟨rfl, rfl⟩))
  (fun os started H enc _ => playRuns_lifted os started H enc)
end Go.Proofs.Ytnbpneaiibandaa
