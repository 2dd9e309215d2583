/- PlayRaw: Run and Round of any program are what the document says; for every input. -/
import Derived.Test.YtnbpneaiibandaaPa1
import Derived.Test.YtnbpneaiibandaaPa2
import Derived.Test.YtnbpneaiibandaaPa3
import Derived.Test.YtnbpneaiibandaaPa4
import Derived.Test.YtnbpneaiibandaaPa5
import Derived.Test.YtnbpneaiibandaaPa6
import Derived.Test.YtnbpneaiibandaaPa7
import Derived.Test.YtnbpneaiibandaaPa8
import Derived.Test.YtnbpneaiibandaaPa9
import Derived.Test.YtnbpneaiibandaaPa10
import Derived.Test.YtnbpneaiibandaaPa11
import Derived.Test.YtnbpneaiibandaaPa12
import Derived.Test.YtnbpneaiibandaaPa13
import Derived.Test.YtnbpneaiibandaaPa14
import Derived.Test.YtnbpneaiibandaaPa15
import Derived.Test.YtnbpneaiibandaaPa16
import Derived.Test.YtnbpneaiibandaaPa17
import Derived.Test.YtnbpneaiibandaaPa18
import Derived.Test.YtnbpneaiibandaaPa19
import Derived.Test.YtnbpneaiibandaaPa20
namespace Go.Proofs.Ytnbpneaiibandaa
set_option linter.unusedVariables false
set_option linter.unusedSimpArgs false
open Go.ChangeShapes Go.WideShapes Go.ChangeAt Go.RowKit

def rwS46 : Nat → Nat := fun j => [46, 47, 48, 49, 50, 51, 52, 45, 53, 54, 11, 0, 12].getD j 0
def rwS56 : Nat → Nat := fun j => [56, 57, 58, 59, 60, 61, 62, 55, 63, 64, 13, 0, 14].getD j 0
set_option maxRecDepth 100000 in
set_option maxHeartbeats 8000000 in
theorem playRaw_walk (p : ProgD) (ca : Option Addr) (ccap : Nat) (ta : Option Addr) (tcap : Nat) (a1 : Option Addr) (len1 cap1 : Nat) (l1 : List Int) (most lg : Int) (w : World) (hp : ProgIn w w.heap.size p ca ta) (hpl : ∀ c ∈ p.threads, List.length c ≤ 9223372036854775807) (hs : SliceIn .i64 w a1 len1 cap1 l1) (hm : (Lit.int .u8 most).wf = true) (hlg : (Lit.int .u16 lg).wf = true) :
  Calls Try.prog 4 #[p.val ca ccap ta tcap, .slice a1 len1 cap1, .int .u8 most, .int .u16 lg] w fun e w' => e = .returned (.bool true) ∧ Below w.heap.size w w' := by
 obtain ⟨r0, r1⟩ := bounds_u8 hm
 obtain ⟨g0, g1⟩ := bounds_u16 hlg
 have hle2 := hs.len_eq
 have HSc := Lib.hid hs.row
 subst hle2
 have HP := Lib.hid hp
 have HPL := Lib.hid hpl
 have htl := hp.tlen
 clear hs hm hlg hp hpl
 by_cases hlong : 60 < l1.length
 ·have hlong' : decide (60 < (l1.length : Int)) = true := decide_eq_true (by omega)
  go_enter Try.func4, Try.ntmps4
  go_wp2_with (go_at_call 12; refine (known5_any _).mono ?_; rintro e w1 ⟨rfl, hB1⟩)
  go_ret
  exact ⟨rfl, below_next (below_box _ _) hB1⟩
 have hlong' : decide (60 < (l1.length : Int)) = false := decide_eq_false (by omega)
 by_cases h8 : 8 < p.threads.length
 ·have h8' : decide (8 < (p.threads.length : Int)) = true := decide_eq_true (by omega)
  go_enter Try.func4, Try.ntmps4
  go_wp2_with (go_at_call 12; refine (known5_any _).mono ?_; rintro e w1 ⟨rfl, hB1⟩)
  go_ret
  exact ⟨rfl, below_next (below_box _ _) hB1⟩
 have h8' : decide (8 < (p.threads.length : Int)) = false := decide_eq_false (by omega)
 go_enter Try.func4, Try.ntmps4
 go_upto_region 3 with (go_at_call 12; refine (known5_any _).mono ?_; rintro e w1 ⟨rfl, hB1⟩; have HB1 := Lib.hid hB1; have HBx := Lib.hid (old_later (heap_alloc_new w _) hB1); have HW := Lib.hid (below_next (below_box w _) hB1); clear hB1)
 have HPw := Lib.hid (HP.out.later HW.out)
 obtain ⟨b0, b1, b2, b3, b4, b5, b6⟩ := kb7 HBx.out (Below.refl _ _)
 go_wp2_with fail
 go_loopw [9] (fun i u => ∃ k : Nat, k ≤ p.threads.length ∧ i = .int .i64 k ∧ w1 = u) (fun i _ => p.threads.length - (intOf i).toNat)
 case atStart => exact ⟨0, Nat.zero_le _, rfl, rfl⟩
 case round =>
  obtain ⟨k, hk, rfl, rfl⟩ := hrel
  by_cases hlt : k < p.threads.length
  ·obtain ⟨c, hc⟩ := at_lt hlt
   obtain ⟨tb, toff, rfl, _, ta', tcap', hcell, _⟩ := HPw.out.threads k c hc
   have hlt' : (k : Int) < (p.threads.length : Int) := by omega
   have hcl := HPL.out c (List.mem_of_getElem? hc)
   by_cases h70 : 70 < c.length
   ·have h70' : (70 : Int) < (c.length : Int) := by omega
    go_wp2
    go_ret
    exact ⟨rfl, HW.out⟩
   ·have h70' : ¬ (70 : Int) < (c.length : Int) := by omega
    go_wp2
    go_roundw
    case rel => exact ⟨k + 1, by omega, by go_num, by first | rfl | trivial⟩
    case measure => simp [intOf]; omega
  ·obtain rfl : k = p.threads.length := by omega
   clear b0 b1 b2 b3 b4 b5
   go_upto_region 9 with (fail)
   generalize hU : World.alloc (World.alloc w1 _) _ = U
   have HBq : Hid (U.heap[w1.heap.size]? = some (.cells #[.slice none 0 0] 34)) := Lib.hid (by rw [← hU]; exact hAllocO _ _ _)
   have HQx : Hid (U.heap[w1.heap.size + 1]? = some (.cells #[.int .i64 0, .int .i64 0, .int .i64 0, .slice none 0 0, .int .i64 0, .int .i64 0, .slice (some ⟨w1.heap.size, 0, none⟩) 1 1] 28)) := Lib.hid (by rw [← hU]; exact hAllocN _ _ _)
   have HU := Lib.hid (show Below w1.heap.size w1 U by rw [← hU]; exact (below_box _ _).alloc (by simp) _)
   have HBp := Lib.hid (old_later HBx.out HU.out)
   have HWu := Lib.hid (below_next HW.out HU.out)
   clear hU HBx HB1 b6 HU
   generalize hgb : w1.heap.size + 1 = gb at *
   generalize w1.heap.size = gq at *
   clear hgb
   obtain ⟨n, hn⟩ : ∃ n : Nat, (n : Int) = 1990 + lg % 20 := ⟨(1990 + lg % 20).toNat, by omega⟩
   have hn1 : 1990 ≤ n := by omega
   have hn2 : n ≤ 2009 := by omega
   have HN := Lib.hid hn
   clear hn
   obtain ⟨c, hc0, hc3, hRun⟩ := run_raw qD (List.replicate n 0)
   have HRun := Lib.hid hRun
   clear hRun
   obtain ⟨i0, hi0, hz0, hz1, hz2⟩ := info_parts info_intT
   refine wp_region_famK (by kernel_rfl) 77 rfl [] rfl (by kernel_rfl) (fun f0 => RwI U.drew f0 (qD.val none 0 (some ⟨gq, 0, none⟩) 1) lg .u16 c n rwS46) ?h0 ?hstep ?hdone
   case h0 => exact ⟨Below.refl _ _, fun t ht => rfl, fun j hj _ hL => absurd (of_decide_eq_true hL) (by show ¬ 13 ≤ j; omega)⟩
   case hstep =>
    intro L f u i o ho hL hd hI
    have hi : i < 13 := (Array.getElem?_eq_some_iff.1 ho).1
    have hσ : ∀ i, i < 13 → ∀ k, k < 13 → i ≠ 11 → k ≠ 11 → rwS46 i = rwS46 k → i = k := by decide
    have k3 : f 3 = .int .u16 lg := hI.keep 3 (by decide)
    have k10 : f 10 = .pointer (some ⟨gb, 0, none⟩) := hI.keep 10 (by decide)
    have hBu : Below U.heap.size U u := ⟨hI.bel.os, hI.bel.tape, hI.bel.output, hI.bel.size, hI.bel.block⟩
    match i, hi, ho, hL, hd with
    | 0, _, ho, hL, hd =>
     have he : _ = o := Option.some.inj ho
     have hop : o.op = Op.load 28 (.tmp 10) := by rw [← he]; rfl
     have hg : o.guard = none := by rw [← he]; rfl
     have hds : o.dst = some 46 := by rw [← he]; rfl
     refine wpOp_fam (v := qD.val none 0 (some ⟨gq, 0, none⟩) 1) (w' := u) ho hg ?_ (by rw [hds]; exact hI.plain (j := 0) hσ rfl)
     have hr := run_loadVar_row (P := Try.prog) u gb 28 28 _ (0, 0) _ (old_later HQx.out hBu) Try.underlying28 rfl info_prog
     have e0 := eF k10
     clear ho hd he hI; unfold execOp; rw [hop]; simp [Act.eval, e0, Instr.loadAt, Instr.sureAddr, hr, Result.andThen]; exact ⟨rfl, rfl, rfl, rfl, rfl, rfl, rfl⟩
    | 1, _, ho, hL, hd =>
     have he : _ = o := Option.some.inj ho
     have hop : o.op = Op.move (.tmp 3) := by rw [← he]; rfl
     have hg : o.guard = none := by rw [← he]; rfl
     have hds : o.dst = some 47 := by rw [← he]; rfl
     refine wpOp_fam (v := .int .u16 lg) (w' := u) ho hg ?_ (by rw [hds]; exact hI.plain (j := 1) hσ rfl)
     have e0 := eF k3
     clear ho hd he hI; unfold execOp; rw [hop]; go_simp
    | 2, _, ho, hL, hd =>
     have he : _ = o := Option.some.inj ho
     have hop : o.op = Op.binOp BinOp.rem 33 (.tmp 47) (.const (.int .u16 20)) 33 := by rw [← he]; rfl
     have hg : o.guard = none := by rw [← he]; rfl
     have hds : o.dst = some 48 := by rw [← he]; rfl
     have v1 : f 47 = .int .u16 lg := (hI.vals 1 (by omega) (by omega) (dep_of hd 1 (by rw [← he]; kernel_rfl))).con
     refine wpOp_fam (v := .int .u16 (lg % 20)) (w' := u) ho hg ?_ (by rw [hds]; exact hI.plain (j := 2) hσ rfl)
     have e0 := eF v1
     clear ho hd he hI; unfold execOp; rw [hop]; go_simp; exact Int.tmod_eq_emod_of_nonneg g0
    | 3, _, ho, hL, hd =>
     have he : _ = o := Option.some.inj ho
     have hop : o.op = Op.convert 33 3 (.tmp 48) := by rw [← he]; rfl
     have hg : o.guard = none := by rw [← he]; rfl
     have hds : o.dst = some 49 := by rw [← he]; rfl
     have v1 : f 48 = .int .u16 (lg % 20) := (hI.vals 2 (by omega) (by omega) (dep_of hd 2 (by rw [← he]; kernel_rfl))).con
     refine wpOp_fam (v := .int .i64 (lg % 20)) (w' := u) ho hg ?_ (by rw [hds]; exact hI.plain (j := 3) hσ rfl)
     have e0 := eF v1
     clear ho hd he hI; unfold execOp; rw [hop]; go_simp; rw [IntKind.wrap_i64]; omega
    | 4, _, ho, hL, hd =>
     have he : _ = o := Option.some.inj ho
     have hop : o.op = Op.binOp BinOp.add 3 (.const (.int .i64 1990)) (.tmp 49) 3 := by rw [← he]; rfl
     have hg : o.guard = none := by rw [← he]; rfl
     have hds : o.dst = some 50 := by rw [← he]; rfl
     have v1 : f 49 = .int .i64 (lg % 20) := (hI.vals 3 (by omega) (by omega) (dep_of hd 3 (by rw [← he]; kernel_rfl))).con
     refine wpOp_fam (v := .int .i64 (n : Int)) (w' := u) ho hg ?_ (by rw [hds]; exact hI.plain (j := 4) hσ rfl)
     have e0 := eF v1
     clear ho hd he hI; unfold execOp; rw [hop]; go_simp; rw [HN.out]; rw [IntKind.wrap_i64]; omega
    | 5, _, ho, hL, hd =>
     have he : _ = o := Option.some.inj ho
     have hop : o.op = Op.makeSlice 24 (.tmp 50) (.tmp 50) := by rw [← he]; rfl
     have hg : o.guard = none := by rw [← he]; rfl
     have hds : o.dst = some 51 := by rw [← he]; rfl
     have v1 : f 50 = .int .i64 (n : Int) := (hI.vals 4 (by omega) (by omega) (dep_of hd 4 (by rw [← he]; kernel_rfl))).con
     obtain ⟨w2, hrun, r1, r2⟩ := run_make_full (P := Try.prog) u u.heap.size 24 3 i0 (.int .i64 0) 1 Try.underlying24 hi0 hz0 hz1 .i64 .i64 n (by rw [hz2]; omega) (by unfold maxLen; omega) (Nat.le_refl _)
     have hB2 : Below u.heap.size u w2 := (Below.refl _ _).grown r2 (Nat.le_refl _) (fun g e => by cases e)
     rw [made_int4] at r1
     have r3 : w2.ownsRow u.heap.size 3 1 (.slice (some ⟨u.heap.size, 0, none⟩) n n) (List.replicate n (0 : Int)).length ((List.replicate n (0 : Int)).map (.int .i64 ·)) := by rw [List.map_replicate, List.length_replicate]; exact r1
     obtain ⟨ga, gc, ge, gcells⟩ := own_cells r3
     simp only [List.length_replicate, Value.slice.injEq] at ge
     obtain ⟨rfl, _, rfl⟩ := ge
     refine wpOp_fam (v := .slice (some ⟨u.heap.size, 0, none⟩) n n) (w' := w2) ho hg ?_ (by rw [hds]; exact hI.step (j := 5) (by omega) (by omega) hσ hB2 ⟨trivial, fun _ => ⟨_, rfl, fun i hi => by obtain ⟨g2, e2, _, _, e3⟩ := gcells i 0 (by simp [hi]); cases e2; exact e3⟩, fun e => by omega⟩)
     have e0 := eF v1
     clear ho hd he hI; unfold execOp; rw [hop]; go_simp
    | 6, _, ho, hL, hd =>
     have he : _ = o := Option.some.inj ho
     have hop : o.op = Op.call { callee := .value (.func 16), args := #[.tmp 46, .tmp 51], argTypes := #[28, 24] } := by rw [← he]; rfl
     have hg : o.guard = none := by rw [← he]; rfl
     have hds : o.dst = some 52 := by rw [← he]; rfl
     have v0 : f 46 = qD.val none 0 (some ⟨gq, 0, none⟩) 1 := (hI.vals 0 (by omega) (by omega) (dep_of hd 0 (by rw [← he]; kernel_rfl))).con
     obtain ⟨g5, e5, c5⟩ := (hI.vals 5 (by omega) (by omega) (dep_of hd 5 (by rw [← he]; kernel_rfl))).row rfl
     have e5 : f 51 = _ := e5
     have hrow : RowOf .i64 u u.heap.size (some ⟨g5, 0, none⟩) (List.replicate n (0 : Int)) := fun i x hx => by rw [List.getElem?_replicate] at hx; split at hx <;> cases hx; rename_i h1; exact ⟨g5, 0, rfl, cell_lt (c5 i h1), by rw [Nat.zero_add]; exact c5 i h1⟩
     have hq := qD_in (old_later HBq.out hBu)
     refine wpOp_fam_call (w' := u) (fn := 16) (args := #[qD.val none 0 (some ⟨gq, 0, none⟩) 1, .slice (some ⟨g5, 0, none⟩) (List.replicate n (0 : Int)).length n]) ho hg ?_ ((HRun.out none 0 _ 1 _ n u hq hrow).1.mono ?_)
     rotate_left
     ·rintro e w' ⟨v, rfl, hv, hB2⟩; exact ⟨v, rfl, by rw [hds]; exact hI.step (j := 6) (by omega) (by omega) hσ hB2 ⟨hv, fun e => by omega, fun e => by omega⟩⟩
     rw [List.length_replicate]
     have hcf := cf_of Try.func16 (by kernel_rfl) (by kernel_rfl)
     have e0 := eF v0
     have e1 := eF e5
     clear ho hd he hI; unfold execOp; rw [hop]; go_simp
    | 7, _, ho, hL, hd =>
     have he : _ = o := Option.some.inj ho
     have hop : o.op = Op.move (.tmp 52) := by rw [← he]; rfl
     have hg : o.guard = none := by rw [← he]; rfl
     have hds : o.dst = some 45 := by rw [← he]; rfl
     obtain ⟨R, v6, hR4, hR1⟩ : RwT .u16 c (f 52) := (hI.vals 6 (by omega) (by omega) (dep_of hd 6 (by rw [← he]; kernel_rfl))).con
     refine wpOp_fam (v := .tuple #[.agg R, .int .u16 c]) (w' := u) ho hg ?_ (by rw [hds]; exact hI.plain (j := 7) hσ ⟨R, rfl, hR4, hR1⟩)
     have e0 := eF v6
     clear ho hd he hI; unfold execOp; rw [hop]; go_simp
    | 8, _, ho, hL, hd =>
     have he : _ = o := Option.some.inj ho
     have hop : o.op = Op.extract (.tmp 45) 0 := by rw [← he]; rfl
     have hg : o.guard = none := by rw [← he]; rfl
     have hds : o.dst = some 53 := by rw [← he]; rfl
     obtain ⟨R, v6, hR4, hR1⟩ : RwT .u16 c (f 45) := (hI.vals 7 (by omega) (by omega) (dep_of hd 7 (by rw [← he]; kernel_rfl))).con
     refine wpOp_fam (v := .agg R) (w' := u) ho hg ?_ (by rw [hds]; exact hI.plain (j := 8) hσ ⟨R, rfl, hR4, hR1⟩)
     have e0 := eF v6
     clear ho hd he hI; unfold execOp; rw [hop]; go_simp
    | 9, _, ho, hL, hd =>
     have he : _ = o := Option.some.inj ho
     have hop : o.op = Op.extract (.tmp 45) 1 := by rw [← he]; rfl
     have hg : o.guard = none := by rw [← he]; rfl
     have hds : o.dst = some 54 := by rw [← he]; rfl
     obtain ⟨R, v6, hR4, hR1⟩ : RwT .u16 c (f 45) := (hI.vals 7 (by omega) (by omega) (dep_of hd 7 (by rw [← he]; kernel_rfl))).con
     refine wpOp_fam (v := .int .u16 c) (w' := u) ho hg ?_ (by rw [hds]; exact hI.plain (j := 9) hσ rfl)
     have e0 := eF v6
     clear ho hd he hI; unfold execOp; rw [hop]; go_simp
    | 10, _, ho, hL, hd =>
     have he : _ = o := Option.some.inj ho
     have hop : o.op = Op.alloc 37 := by rw [← he]; rfl
     have hg : o.guard = none := by rw [← he]; rfl
     have hds : o.dst = some 11 := by rw [← he]; rfl
     refine wpOp_fam (w' := u.alloc (.cells #[.slice none 0 0, .int .u8 0, .slice none 0 0, .slice none 0 0] 37)) (v := .pointer (some ⟨u.heap.size, 0, none⟩)) ho hg ?_ (by rw [hds]; exact hI.step (j := 10) (by omega) (by omega) hσ (below_box _ _) ⟨trivial, fun e => by omega, fun _ => ⟨_, _, rfl, hI.bel.size, heap_alloc_new _ _, rfl⟩⟩)
     clear ho hd he hI; unfold execOp; rw [hop]; go_simp
    | 11, _, ho, hL, hd =>
     have he : _ = o := Option.some.inj ho
     have hop : o.op = Op.store 37 (.tmp 11) (.tmp 53) := by rw [← he]; rfl
     have hg : o.guard = none := by rw [← he]; rfl
     have hds : o.dst = none := by rw [← he]; rfl
     obtain ⟨g, Z, t1, lo, hZ, hZ4⟩ := (hI.vals 10 (by omega) (by omega) (dep_of hd 10 (by rw [← he]; kernel_rfl))).box rfl
     have t1 : f 11 = _ := t1
     obtain ⟨R, t2, hR4, hR1⟩ : ∃ R : Array Value, f 53 = .agg R ∧ R.size = 4 ∧ R.all (·.oneCell') = true := (hI.vals 8 (by omega) (by omega) (dep_of hd 8 (by rw [← he]; kernel_rfl))).con
     refine wpOp_fam_skip (w' := u.setRow g R) ho hg ?_ (by rw [hds]; exact hI.stored hZ lo hZ4 hR4 (by omega))
     have hr := run_storeVar_row (P := Try.prog) u g 37 37 Z R hZ (by rw [hR4]; exact info_result) (by rw [hZ4, hR4]) hR1
     have e0 := eF t1
     have e1 := eF t2
     clear ho hd he hI; unfold execOp; rw [hop]; simp [Act.eval, e0, e1, Instr.storeAt, Instr.sureAddr, hr, Result.andThen]
    | 12, _, ho, hL, hd =>
     have he : _ = o := Option.some.inj ho
     have hop : o.op = Op.assign (.tmp 54) := by rw [← he]; rfl
     have hg : o.guard = none := by rw [← he]; rfl
     have hds : o.dst = some 12 := by rw [← he]; rfl
     have v9 : f 54 = .int .u16 c := (hI.vals 9 (by omega) (by omega) (dep_of hd 9 (by rw [← he]; kernel_rfl))).con
     refine wpOp_fam (v := .int .u16 c) (w' := u) ho hg ?_ (by rw [hds]; exact hI.plain (j := 12) hσ rfl)
     have e0 := eF v9
     clear ho hd he hI; unfold execOp; rw [hop]; go_simp
   case hdone =>
    intro f u9 hI
    have hBu : Below U.heap.size U u9 := ⟨hI.bel.os, hI.bel.tape, hI.bel.output, hI.bel.size, hI.bel.block⟩
    have t12 : f 12 = .int .u16 c := (hI.vals 12 (by omega) (by omega) rfl).con
    have hke := hI.keep
    have hmem : ∀ j, j < 13 → j ≠ 11 → rwS46 j ∈ [11, 12, 45, 46, 47, 48, 49, 50, 51, 52, 53, 54] := by decide
    rw [actF_puts _ 77 rfl f [11, 12, 45, 46, 47, 48, 49, 50, 51, 52, 53, 54] (fun t _ ht => hke t (fun j hj h11 e => ht (e ▸ hmem j hj h11)))]
    simp only [List.foldl_cons, List.foldl_nil, Act.put, List.setIfInBounds_toArray, List.set_cons_zero, List.set_cons_succ]
    rw [t12]
    clear t12 hke hI hmem
    have HBq := Lib.hid (old_later HBq.out hBu)
    have HQx := Lib.hid (old_later HQx.out hBu)
    have HBp := Lib.hid (old_later HBp.out hBu)
    have HWu := Lib.hid (below_next HWu.out hBu)
    clear hBu
    go_upto_region 10 with (fail)
    refine wp_region_famK (by kernel_rfl) 77 rfl [] rfl (by kernel_rfl) (fun f0 => RwI u9.drew f0 (qD.val none 0 (some ⟨gq, 0, none⟩) 1) lg .i64 c n rwS56) ?h0 ?hstep ?hdone
    case h0 => exact ⟨Below.refl _ _, fun t ht => rfl, fun j hj _ hL => absurd (of_decide_eq_true hL) (by show ¬ 13 ≤ j; omega)⟩
    case hstep =>
     intro L f u i o ho hL hd hI
     have hi : i < 13 := (Array.getElem?_eq_some_iff.1 ho).1
     have hσ : ∀ i, i < 13 → ∀ k, k < 13 → i ≠ 11 → k ≠ 11 → rwS56 i = rwS56 k → i = k := by decide
     have k3 : f 3 = .int .u16 lg := hI.keep 3 (by decide)
     have k10 : f 10 = .pointer (some ⟨gb, 0, none⟩) := hI.keep 10 (by decide)
     have hBu : Below u9.heap.size u9 u := ⟨hI.bel.os, hI.bel.tape, hI.bel.output, hI.bel.size, hI.bel.block⟩
     match i, hi, ho, hL, hd with
     | 0, _, ho, hL, hd =>
      have he : _ = o := Option.some.inj ho
      have hop : o.op = Op.load 28 (.tmp 10) := by rw [← he]; rfl
      have hg : o.guard = none := by rw [← he]; rfl
      have hds : o.dst = some 56 := by rw [← he]; rfl
      refine wpOp_fam (v := qD.val none 0 (some ⟨gq, 0, none⟩) 1) (w' := u) ho hg ?_ (by rw [hds]; exact hI.plain (j := 0) hσ rfl)
      have hr := run_loadVar_row (P := Try.prog) u gb 28 28 _ (0, 0) _ (old_later HQx.out hBu) Try.underlying28 rfl info_prog
      have e0 := eF k10
      clear ho hd he hI; unfold execOp; rw [hop]; simp [Act.eval, e0, Instr.loadAt, Instr.sureAddr, hr, Result.andThen]; exact ⟨rfl, rfl, rfl, rfl, rfl, rfl, rfl⟩
     | 1, _, ho, hL, hd =>
      have he : _ = o := Option.some.inj ho
      have hop : o.op = Op.move (.tmp 3) := by rw [← he]; rfl
      have hg : o.guard = none := by rw [← he]; rfl
      have hds : o.dst = some 57 := by rw [← he]; rfl
      refine wpOp_fam (v := .int .u16 lg) (w' := u) ho hg ?_ (by rw [hds]; exact hI.plain (j := 1) hσ rfl)
      have e0 := eF k3
      clear ho hd he hI; unfold execOp; rw [hop]; go_simp
     | 2, _, ho, hL, hd =>
      have he : _ = o := Option.some.inj ho
      have hop : o.op = Op.binOp BinOp.rem 33 (.tmp 57) (.const (.int .u16 20)) 33 := by rw [← he]; rfl
      have hg : o.guard = none := by rw [← he]; rfl
      have hds : o.dst = some 58 := by rw [← he]; rfl
      have v1 : f 57 = .int .u16 lg := (hI.vals 1 (by omega) (by omega) (dep_of hd 1 (by rw [← he]; kernel_rfl))).con
      refine wpOp_fam (v := .int .u16 (lg % 20)) (w' := u) ho hg ?_ (by rw [hds]; exact hI.plain (j := 2) hσ rfl)
      have e0 := eF v1
      clear ho hd he hI; unfold execOp; rw [hop]; go_simp; exact Int.tmod_eq_emod_of_nonneg g0
     | 3, _, ho, hL, hd =>
      have he : _ = o := Option.some.inj ho
      have hop : o.op = Op.convert 33 3 (.tmp 58) := by rw [← he]; rfl
      have hg : o.guard = none := by rw [← he]; rfl
      have hds : o.dst = some 59 := by rw [← he]; rfl
      have v1 : f 58 = .int .u16 (lg % 20) := (hI.vals 2 (by omega) (by omega) (dep_of hd 2 (by rw [← he]; kernel_rfl))).con
      refine wpOp_fam (v := .int .i64 (lg % 20)) (w' := u) ho hg ?_ (by rw [hds]; exact hI.plain (j := 3) hσ rfl)
      have e0 := eF v1
      clear ho hd he hI; unfold execOp; rw [hop]; go_simp; rw [IntKind.wrap_i64]; omega
     | 4, _, ho, hL, hd =>
      have he : _ = o := Option.some.inj ho
      have hop : o.op = Op.binOp BinOp.add 3 (.const (.int .i64 1990)) (.tmp 59) 3 := by rw [← he]; rfl
      have hg : o.guard = none := by rw [← he]; rfl
      have hds : o.dst = some 60 := by rw [← he]; rfl
      have v1 : f 59 = .int .i64 (lg % 20) := (hI.vals 3 (by omega) (by omega) (dep_of hd 3 (by rw [← he]; kernel_rfl))).con
      refine wpOp_fam (v := .int .i64 (n : Int)) (w' := u) ho hg ?_ (by rw [hds]; exact hI.plain (j := 4) hσ rfl)
      have e0 := eF v1
      clear ho hd he hI; unfold execOp; rw [hop]; go_simp; rw [HN.out]; rw [IntKind.wrap_i64]; omega
     | 5, _, ho, hL, hd =>
      have he : _ = o := Option.some.inj ho
      have hop : o.op = Op.makeSlice 24 (.tmp 60) (.tmp 60) := by rw [← he]; rfl
      have hg : o.guard = none := by rw [← he]; rfl
      have hds : o.dst = some 61 := by rw [← he]; rfl
      have v1 : f 60 = .int .i64 (n : Int) := (hI.vals 4 (by omega) (by omega) (dep_of hd 4 (by rw [← he]; kernel_rfl))).con
      obtain ⟨w2, hrun, r1, r2⟩ := run_make_full (P := Try.prog) u u.heap.size 24 3 i0 (.int .i64 0) 1 Try.underlying24 hi0 hz0 hz1 .i64 .i64 n (by rw [hz2]; omega) (by unfold maxLen; omega) (Nat.le_refl _)
      have hB2 : Below u.heap.size u w2 := (Below.refl _ _).grown r2 (Nat.le_refl _) (fun g e => by cases e)
      rw [made_int4] at r1
      have r3 : w2.ownsRow u.heap.size 3 1 (.slice (some ⟨u.heap.size, 0, none⟩) n n) (List.replicate n (0 : Int)).length ((List.replicate n (0 : Int)).map (.int .i64 ·)) := by rw [List.map_replicate, List.length_replicate]; exact r1
      obtain ⟨ga, gc, ge, gcells⟩ := own_cells r3
      simp only [List.length_replicate, Value.slice.injEq] at ge
      obtain ⟨rfl, _, rfl⟩ := ge
      refine wpOp_fam (v := .slice (some ⟨u.heap.size, 0, none⟩) n n) (w' := w2) ho hg ?_ (by rw [hds]; exact hI.step (j := 5) (by omega) (by omega) hσ hB2 ⟨trivial, fun _ => ⟨_, rfl, fun i hi => by obtain ⟨g2, e2, _, _, e3⟩ := gcells i 0 (by simp [hi]); cases e2; exact e3⟩, fun e => by omega⟩)
      have e0 := eF v1
      clear ho hd he hI; unfold execOp; rw [hop]; go_simp
     | 6, _, ho, hL, hd =>
      have he : _ = o := Option.some.inj ho
      have hop : o.op = Op.call { callee := .value (.func 17), args := #[.tmp 56, .tmp 61], argTypes := #[28, 24] } := by rw [← he]; rfl
      have hg : o.guard = none := by rw [← he]; rfl
      have hds : o.dst = some 62 := by rw [← he]; rfl
      have v0 : f 56 = qD.val none 0 (some ⟨gq, 0, none⟩) 1 := (hI.vals 0 (by omega) (by omega) (dep_of hd 0 (by rw [← he]; kernel_rfl))).con
      obtain ⟨g5, e5, c5⟩ := (hI.vals 5 (by omega) (by omega) (dep_of hd 5 (by rw [← he]; kernel_rfl))).row rfl
      have e5 : f 61 = _ := e5
      have hrow : RowOf .i64 u u.heap.size (some ⟨g5, 0, none⟩) (List.replicate n (0 : Int)) := fun i x hx => by rw [List.getElem?_replicate] at hx; split at hx <;> cases hx; rename_i h1; exact ⟨g5, 0, rfl, cell_lt (c5 i h1), by rw [Nat.zero_add]; exact c5 i h1⟩
      have hq := qD_in (old_later HBq.out hBu)
      refine wpOp_fam_call (w' := u) (fn := 17) (args := #[qD.val none 0 (some ⟨gq, 0, none⟩) 1, .slice (some ⟨g5, 0, none⟩) (List.replicate n (0 : Int)).length n]) ho hg ?_ ((HRun.out none 0 _ 1 _ n u hq hrow).2.mono ?_)
      rotate_left
      ·rintro e w' ⟨v, rfl, hv, hB2⟩; exact ⟨v, rfl, by rw [hds]; exact hI.step (j := 6) (by omega) (by omega) hσ hB2 ⟨hv, fun e => by omega, fun e => by omega⟩⟩
      rw [List.length_replicate]
      have hcf := cf_of Try.func17 (by kernel_rfl) (by kernel_rfl)
      have e0 := eF v0
      have e1 := eF e5
      clear ho hd he hI; unfold execOp; rw [hop]; go_simp
     | 7, _, ho, hL, hd =>
      have he : _ = o := Option.some.inj ho
      have hop : o.op = Op.move (.tmp 62) := by rw [← he]; rfl
      have hg : o.guard = none := by rw [← he]; rfl
      have hds : o.dst = some 55 := by rw [← he]; rfl
      obtain ⟨R, v6, hR4, hR1⟩ : RwT .i64 c (f 62) := (hI.vals 6 (by omega) (by omega) (dep_of hd 6 (by rw [← he]; kernel_rfl))).con
      refine wpOp_fam (v := .tuple #[.agg R, .int .i64 c]) (w' := u) ho hg ?_ (by rw [hds]; exact hI.plain (j := 7) hσ ⟨R, rfl, hR4, hR1⟩)
      have e0 := eF v6
      clear ho hd he hI; unfold execOp; rw [hop]; go_simp
     | 8, _, ho, hL, hd =>
      have he : _ = o := Option.some.inj ho
      have hop : o.op = Op.extract (.tmp 55) 0 := by rw [← he]; rfl
      have hg : o.guard = none := by rw [← he]; rfl
      have hds : o.dst = some 63 := by rw [← he]; rfl
      obtain ⟨R, v6, hR4, hR1⟩ : RwT .i64 c (f 55) := (hI.vals 7 (by omega) (by omega) (dep_of hd 7 (by rw [← he]; kernel_rfl))).con
      refine wpOp_fam (v := .agg R) (w' := u) ho hg ?_ (by rw [hds]; exact hI.plain (j := 8) hσ ⟨R, rfl, hR4, hR1⟩)
      have e0 := eF v6
      clear ho hd he hI; unfold execOp; rw [hop]; go_simp
     | 9, _, ho, hL, hd =>
      have he : _ = o := Option.some.inj ho
      have hop : o.op = Op.extract (.tmp 55) 1 := by rw [← he]; rfl
      have hg : o.guard = none := by rw [← he]; rfl
      have hds : o.dst = some 64 := by rw [← he]; rfl
      obtain ⟨R, v6, hR4, hR1⟩ : RwT .i64 c (f 55) := (hI.vals 7 (by omega) (by omega) (dep_of hd 7 (by rw [← he]; kernel_rfl))).con
      refine wpOp_fam (v := .int .i64 c) (w' := u) ho hg ?_ (by rw [hds]; exact hI.plain (j := 9) hσ rfl)
      have e0 := eF v6
      clear ho hd he hI; unfold execOp; rw [hop]; go_simp
     | 10, _, ho, hL, hd =>
      have he : _ = o := Option.some.inj ho
      have hop : o.op = Op.alloc 37 := by rw [← he]; rfl
      have hg : o.guard = none := by rw [← he]; rfl
      have hds : o.dst = some 13 := by rw [← he]; rfl
      refine wpOp_fam (w' := u.alloc (.cells #[.slice none 0 0, .int .u8 0, .slice none 0 0, .slice none 0 0] 37)) (v := .pointer (some ⟨u.heap.size, 0, none⟩)) ho hg ?_ (by rw [hds]; exact hI.step (j := 10) (by omega) (by omega) hσ (below_box _ _) ⟨trivial, fun e => by omega, fun _ => ⟨_, _, rfl, hI.bel.size, heap_alloc_new _ _, rfl⟩⟩)
      clear ho hd he hI; unfold execOp; rw [hop]; go_simp
     | 11, _, ho, hL, hd =>
      have he : _ = o := Option.some.inj ho
      have hop : o.op = Op.store 37 (.tmp 13) (.tmp 63) := by rw [← he]; rfl
      have hg : o.guard = none := by rw [← he]; rfl
      have hds : o.dst = none := by rw [← he]; rfl
      obtain ⟨g, Z, t1, lo, hZ, hZ4⟩ := (hI.vals 10 (by omega) (by omega) (dep_of hd 10 (by rw [← he]; kernel_rfl))).box rfl
      have t1 : f 13 = _ := t1
      obtain ⟨R, t2, hR4, hR1⟩ : ∃ R : Array Value, f 63 = .agg R ∧ R.size = 4 ∧ R.all (·.oneCell') = true := (hI.vals 8 (by omega) (by omega) (dep_of hd 8 (by rw [← he]; kernel_rfl))).con
      refine wpOp_fam_skip (w' := u.setRow g R) ho hg ?_ (by rw [hds]; exact hI.stored hZ lo hZ4 hR4 (by omega))
      have hr := run_storeVar_row (P := Try.prog) u g 37 37 Z R hZ (by rw [hR4]; exact info_result) (by rw [hZ4, hR4]) hR1
      have e0 := eF t1
      have e1 := eF t2
      clear ho hd he hI; unfold execOp; rw [hop]; simp [Act.eval, e0, e1, Instr.storeAt, Instr.sureAddr, hr, Result.andThen]
     | 12, _, ho, hL, hd =>
      have he : _ = o := Option.some.inj ho
      have hop : o.op = Op.assign (.tmp 64) := by rw [← he]; rfl
      have hg : o.guard = none := by rw [← he]; rfl
      have hds : o.dst = some 14 := by rw [← he]; rfl
      have v9 : f 64 = .int .i64 c := (hI.vals 9 (by omega) (by omega) (dep_of hd 9 (by rw [← he]; kernel_rfl))).con
      refine wpOp_fam (v := .int .i64 c) (w' := u) ho hg ?_ (by rw [hds]; exact hI.plain (j := 12) hσ rfl)
      have e0 := eF v9
      clear ho hd he hI; unfold execOp; rw [hop]; go_simp
    case hdone =>
     intro f u10 hI
     have hBu : Below u9.heap.size u9 u10 := ⟨hI.bel.os, hI.bel.tape, hI.bel.output, hI.bel.size, hI.bel.block⟩
     have t12 : f 14 = .int .i64 c := (hI.vals 12 (by omega) (by omega) rfl).con
     have hke := hI.keep
     have hmem : ∀ j, j < 13 → j ≠ 11 → rwS56 j ∈ [13, 14, 55, 56, 57, 58, 59, 60, 61, 62, 63, 64] := by decide
     rw [actF_puts _ 77 rfl f [13, 14, 55, 56, 57, 58, 59, 60, 61, 62, 63, 64] (fun t _ ht => hke t (fun j hj h11 e => ht (e ▸ hmem j hj h11)))]
     simp only [List.foldl_cons, List.foldl_nil, Act.put, List.setIfInBounds_toArray, List.set_cons_zero, List.set_cons_succ]
     rw [t12]
     clear t12 hke hI hmem
     have HBp := Lib.hid (old_later HBp.out hBu)
     have HWu := Lib.hid (below_next HWu.out hBu)
     have HPu := Lib.hid (HP.out.later HWu.out)
     clear hBu
     obtain ⟨b0, b1, b2, b3, b4, b5, b6⟩ := kb7 HBp.out (Below.refl _ _)
     go_wp2_with (go_at_call 14; refine (tells5_any p ca ccap ta tcap a1 cap1 l1 _ _ HPu.out ((HSc.out.below HWu.out).more HWu.out.size)).mono ?_; rintro e w9 ⟨rfl, hB9⟩)
     go_ret
     exact ⟨rfl, below_next HWu.out hB9⟩

set_option maxRecDepth 100000 in
theorem playRaw_lifted (os : Os) (started : os.Started) (H : Type) (enc : TypeId × Value → H) :
  ReturnsInHanded {} Try.checked os 4 .any (Rows.playRawSpec.pre6 enc Try.prog Try.f4 Rows.playRawRow.domain false) (Rows.playRawSpec.post enc Try.prog Try.f4 false true false false) := by
 refine returnsInHanded_of_change (C := Try.checked) law_own started (by kernel_rfl) Try.func4
  (ChangeSpec.witness6 (enc := enc) (C := Try.checked) false ⟨#[], #[.agg #[.int .i64 0, .int .i64 0, .int .i64 0, .slice none 0 0, .int .i64 0, .int .i64 0, .slice none 0 0], .slice none 0 0, .int .u8 0, .int .u16 0], []⟩ 8 (by kernel_rfl) (by kernel_rfl) (by kernel_rfl) (by kernel_rfl)) ?_
 intro W base args ds gs before hval0 hW hcnd _
 have hval : ∀ (j : Nat) t v, Try.f4.params[j]? = some t → args[j]? = some v → Value.okWide Try.prog W .any base t v := hval0
 have hW' := hW
 obtain ⟨p, q, hA0, hV, rfl, hfz, hnd⟩ := hW
 have hA : DataW.TrodAll enc Try.prog W 0 (fun _ => true) true Try.f4.params.toList args.toList ds p := hA0
 rw [Try.params4] at hA hval
 obtain ⟨v0, vs0, d0, ds0, p0, q0, hargs, rfl, rfl, h0, r0⟩ := trodAll_cons hA
 obtain ⟨v1, vs1, d1, ds1, p1, q1, rfl, rfl, rfl, h1, r1⟩ := trodAll_cons r0
 obtain ⟨v2, vs2, d2, ds2, p2, q2, rfl, rfl, rfl, h2, r2⟩ := trodAll_cons r1
 obtain ⟨v3, vs3, d3, ds3, p3, q3, rfl, rfl, rfl, h3, r3⟩ := trodAll_cons r2
 obtain ⟨rfl, rfl, rfl⟩ := trodAll_nil r3
 obtain rfl : args = #[v0, v1, v2, v3] := by cases args; simp_all
 obtain ⟨rfl, rfl⟩ := trodVars_none hV
 have k0 := h0
 have lt0 : ∀ x ∈ p0, x.block < W.heap.size := by obtain ⟨m, hm⟩ := k0; exact DataW.trod_lt m _ _ _ hm
 obtain ⟨x0, ca0, cc0, ta0, tc0, rfl, n0, w0⟩ := open_prog (hval 0 28 v0 rfl rfl) h0
 obtain ⟨a1, len1, cap1, rfl⟩ := okWide_slice Try.underlying24 (hval 1 24 v1 rfl rfl)
 have k1 := h1
 have lt1 : ∀ x ∈ p1, x.block < W.heap.size := by obtain ⟨m, hm⟩ := k1; exact DataW.trod_lt m _ _ _ hm
 obtain ⟨l1, w1⟩ : ∃ l, SliceIn .i64 W a1 len1 cap1 l := by
  obtain ⟨fuel, hf⟩ := h1
  rcases open_ints Try.underlying24 Try.underlying3 (by kernel_rfl) hf with ⟨hcs, _⟩ | ⟨x, l, c, zs, hcs, _, hl, hm, hz, _, hcell, hwz⟩
  ·simp [Value.cells] at hcs
   obtain ⟨rfl, rfl, rfl⟩ := hcs
   exact ⟨[], SliceIn.nil _ _⟩
  ·simp [Value.cells] at hcs
   obtain ⟨rfl, rfl, rfl⟩ := hcs
   exact ⟨_, SliceIn.of hl hm (by simpa using hz) hcell hwz⟩
 obtain ⟨a2, rfl, rfl, rfl, w2⟩ := open_int Try.underlying5 (hval 2 5 v2 rfl rfl) h2
 obtain ⟨a3, rfl, rfl, rfl, w3⟩ := open_int Try.underlying33 (hval 3 33 v3 rfl rfl) h3
 clear hA0 hval0
 refine (playRaw_walk x0 ca0 cc0 ta0 tc0 a1 len1 cap1 l1 a2 a3 W n0 w0 w1 w2 w3).mono fun e W' ⟨he, bel⟩ => ?_
 subst he
 exact ⟨_, rfl, _, _, _, [], _, [], hW', trodAll_mk1 (shut_bool Try.underlying4 _), (trodAll_cons_mk (Below.trod law_laidOut (by kernel_rfl) (of_decide_eq_true (by kernel_rfl)) k0 bel lt0) (trodAll_cons_mk (Below.trod law_laidOut (by kernel_rfl) (of_decide_eq_true (by kernel_rfl)) k1 bel lt1) (trodAll_cons_mk (shut_int Try.underlying5 w2) (trodAll_cons_mk (shut_int Try.underlying33 w3) trodAll_mk0)))), rfl, bel.frame _, fun h => by cases h⟩

theorem playRaw_holds : Rows.PlayRawSaid :=
 OpenClaim.holds_of_wide 4 Try.f4 rfl rfl rfl rfl rfl rfl rfl ⟨rfl, rfl, rfl, rfl, rfl⟩ rfl rfl rfl rfl rfl (by kernel_rfl) Try.func4 (by kernel_rfl)
  (of_decide_eq_true (by kernel_rfl)) (by unfold Func.isWrapper; first | (rw [if_pos (by decide +kernel)]; kernel_rfl) | (rw [if_neg (by decide +kernel)]; exact ⟨rfl, rfl⟩))
  (fun os started H enc _ => playRaw_lifted os started H enc)
end Go.Proofs.Ytnbpneaiibandaa
