/- IrTells: of any instruction all is told that the chapter says; for every input. -/
import Derived.Test.YtpmfolgihdmcjaaLawKit
import Derived.Test.YtpmfolgihdmcjaaIrRef2
import Derived.Test.YtpmfolgihdmcjaaIrInsAny
import Derived.Lib.SmallJoins
import Derived.Deep.RegionHeld3
namespace Go.Proofs.Ytpmfolgihdmcjaa
set_option linter.unusedVariables false
set_option linter.unusedSimpArgs false
open Go.ChangeShapes Go.WideShapes Go.ChangeAt Go.RowKit

theorem u8_nat {a : Int} (h : (Lit.int .u8 a).wf = true) : ∃ s : Nat, a = (s : Int) ∧ s < 256 := by
  obtain ⟨h0, h1⟩ := bounds_u8 h
  exact ⟨a.toNat, by omega, by omega⟩
theorem cells_ins : Try.prog.cellsOf 30 = 4 := by kernel_rfl
/-- An instruction that came in. -/
theorem open_ins {H : Type} {enc : TypeId × Value → H} {W : World} {base b0 : Nat} {sp : Nat → Bool} {held : Bool} {v : Value} {d : DataW H} {p : List MemPlace} {r : Reach}
    (hv : Value.okWide Try.prog W r b0 30 v) (h : DataW.Trod enc Try.prog W base sp held 30 v d p) :
    ∃ x : InsD, v = .agg #[.int .u8 x.op, .int .i64 x.a, .int .i64 x.b, .int .i64 x.c] ∧ x.op < 256 := by
  obtain ⟨c0, c1, c2, c3, y0, y1, y2, y3, m, rfl, _, _, h0, h1, h2, h3⟩ := Joins.open_agg4 Try.underlying30 (by kernel_rfl) cells_ins hv h
  obtain ⟨a, e0, _, wa⟩ := DataW.trod_int Try.underlying5 h0
  obtain ⟨b, e1, _, _⟩ := DataW.trod_int Try.underlying3 h1
  obtain ⟨c, e2, _, _⟩ := DataW.trod_int Try.underlying3 h2
  obtain ⟨d, e3, _, _⟩ := DataW.trod_int Try.underlying3 h3
  simp at e0 e1 e2 e3
  subst e0 e1 e2 e3
  obtain ⟨k, rfl, hk⟩ := u8_nat wa
  exact ⟨⟨k, b, c, d⟩, rfl, hk⟩

theorem keep1 {u u' : World} {b o : Nat} {v : Value} (h : u.cell? ⟨b, o, none⟩ = some v) (hB : Below u.heap.size u u') : u'.cell? ⟨b, o, none⟩ = some v := (hB.cell (p := ⟨b, o, none⟩) (cell_lt h)).trans h

/-- Two instructions lie in blocks of their own. -/
structure TwoIn (u : World) (g h : Nat) (x y : InsD) : Prop where
  fst : ∃ t fr, u.heap[g]? = some (.cells #[.int .u8 x.op, .int .i64 x.a, .int .i64 x.b, .int .i64 x.c] t fr)
  snd : ∃ t fr, u.heap[h]? = some (.cells #[.int .u8 y.op, .int .i64 y.a, .int .i64 y.b, .int .i64 y.c] t fr)
theorem TwoIn.later {u u' : World} {g h : Nat} {x y : InsD} (k : TwoIn u g h x y) (hB : Below u.heap.size u u') : TwoIn u' g h x y := by
  obtain ⟨⟨t1, f1, h1⟩, ⟨t2, f2, h2⟩⟩ := k
  exact ⟨⟨t1, f1, (hB.block _ (lt_of_blk h1)).trans h1⟩, ⟨t2, f2, (hB.block _ (lt_of_blk h2)).trans h2⟩⟩
theorem TwoIn.cells {u : World} {g h : Nat} {x y : InsD} (k : TwoIn u g h x y) :
    (u.cell? ⟨g, 0, none⟩ = some (.int .u8 x.op) ∧ u.cell? ⟨g, 1, none⟩ = some (.int .i64 x.a) ∧ u.cell? ⟨g, 2, none⟩ = some (.int .i64 x.b) ∧ u.cell? ⟨g, 3, none⟩ = some (.int .i64 x.c)) ∧
    (u.cell? ⟨h, 0, none⟩ = some (.int .u8 y.op) ∧ u.cell? ⟨h, 1, none⟩ = some (.int .i64 y.a) ∧ u.cell? ⟨h, 2, none⟩ = some (.int .i64 y.b) ∧ u.cell? ⟨h, 3, none⟩ = some (.int .i64 y.c)) := by
  obtain ⟨⟨t1, f1, h1⟩, ⟨t2, f2, h2⟩⟩ := k
  exact ⟨cells4 h1, cells4 h2⟩

theorem keep8 {u u' : World} {g h : Nat} {v0 v1 v2 v3 v4 v5 v6 v7 : Value} (k : u.cell? ⟨g, 0, none⟩ = some v0 ∧ u.cell? ⟨g, 1, none⟩ = some v1 ∧ u.cell? ⟨g, 2, none⟩ = some v2 ∧ u.cell? ⟨g, 3, none⟩ = some v3 ∧ u.cell? ⟨h, 0, none⟩ = some v4 ∧ u.cell? ⟨h, 1, none⟩ = some v5 ∧ u.cell? ⟨h, 2, none⟩ = some v6 ∧ u.cell? ⟨h, 3, none⟩ = some v7) (hB : Below u.heap.size u u') : u'.cell? ⟨g, 0, none⟩ = some v0 ∧ u'.cell? ⟨g, 1, none⟩ = some v1 ∧ u'.cell? ⟨g, 2, none⟩ = some v2 ∧ u'.cell? ⟨g, 3, none⟩ = some v3 ∧ u'.cell? ⟨h, 0, none⟩ = some v4 ∧ u'.cell? ⟨h, 1, none⟩ = some v5 ∧ u'.cell? ⟨h, 2, none⟩ = some v6 ∧ u'.cell? ⟨h, 3, none⟩ = some v7 :=
  ⟨keep1 k.1 hB, keep1 k.2.1 hB, keep1 k.2.2.1 hB, keep1 k.2.2.2.1 hB, keep1 k.2.2.2.2.1 hB, keep1 k.2.2.2.2.2.1 hB, keep1 k.2.2.2.2.2.2.1 hB, keep1 k.2.2.2.2.2.2.2 hB⟩

set_option maxRecDepth 100000 in
set_option maxHeartbeats 8000000 in
theorem irTells_in (x : InsD) (a b : Nat) (w : World) (ha : a < 256) (hb : b < 256) :
    Calls Try.prog 6 #[.agg #[.int .u8 x.op, .int .i64 x.a, .int .i64 x.b, .int .i64 x.c], .int .u8 a, .int .u8 b] w fun e w' => e = .returned (.bool true) ∧ Below w.heap.size w w' := by
  go_enter Try.func6, Try.ntmps6
  go_wp2_with fail
  refine (ins_any a b 1 4 _ ha hb (by decide) (by decide) (by decide)).mono ?_
  rintro e w1 ⟨y, rfl, _, hB1⟩
  have hk := kept_new hB1
  have hL1 := ((Below.refl w.heap.size w).alloc (Nat.le_refl _) _).trans (hB1.mono (by simp))
  clear hB1
  go_wp2_with fail
  generalize hU : w1.alloc _ = U
  have T0 : TwoIn U w.heap.size w1.heap.size x y := by
    rw [← hU]
    exact ⟨⟨_, _, (Below.heap_alloc _ _ _ (lt_of_blk hk)).trans hk⟩, ⟨_, _, heap_alloc_new _ _⟩⟩
  have hL0 : Below w.heap.size w U := by rw [← hU]; exact hL1.alloc hL1.size _
  clear hU hL1 hk
  have HT0 := Lib.hid T0
  have HL0 := Lib.hid hL0
  have c0 := T0.cells.1.1
  clear T0 hL0
  go_region_held3 (fun u => u.cell? ⟨w.heap.size, 0, none⟩ = some (.int .u8 x.op)) (first | exact keep1 (by assumption) hB6 | exact keep1 (by assumption) hB4 | exact keep1 (by assumption) hB2 | assumption)
    (first
      | (go_at_call 15; refine (plain_any x.op _).mono ?_; rintro e w2 ⟨rfl, hB2⟩)
      | (go_at_call 16; refine (refPlain_any x.op _).mono ?_; rintro e w3 ⟨rfl, rfl⟩)
      | (go_at_call 17; refine (acquire_any x.op _).mono ?_; rintro e w4 ⟨rfl, hB4⟩)
      | (go_at_call 18; refine (refAcquire_any x.op _).mono ?_; rintro e w5 ⟨rfl, rfl⟩)
      | (go_at_call 19; refine (release_any x.op _).mono ?_; rintro e w6 ⟨rfl, hB6⟩)
      | (go_at_call 20; refine (refRelease_any x.op _).mono ?_; rintro e w7 ⟨rfl, rfl⟩))
  have hB0 : Below U.heap.size U w6 := below_next (below_next (show Below U.heap.size U w2 from ⟨hB2.os, hB2.tape, hB2.output, hB2.size, hB2.block⟩) hB4) hB6
  have T6 := HT0.out.later hB0
  have HL6 := Lib.hid (below_next HL0.out hB0)
  obtain ⟨⟨xa6, xb6, xc6, xd6⟩, ⟨ya6, yb6, yc6, yd6⟩⟩ := T6.cells
  have HT6 := Lib.hid T6
  clear T6 hB0 hB2 hB4 hB6 c0 HT0 HL0
  go_wp2_with fail
  refine (name_any x.op _).mono ?_
  rintro e w7 ⟨rfl, hB7⟩
  have T7 := HT6.out.later hB7
  have HL7 := Lib.hid (below_next HL6.out hB7)
  obtain ⟨⟨xa7, xb7, xc7, xd7⟩, ⟨ya7, yb7, yc7, yd7⟩⟩ := T7.cells
  have HT7 := Lib.hid T7
  clear T7 hB7 xa6 xb6 xc6 xd6 ya6 yb6 yc6 yd6 HT6 HL6
  go_wp2_with fail
  refine (refName_any x.op _).mono ?_
  rintro e w8 ⟨rfl, hB8⟩
  have T8 := HT7.out.later hB8
  have HL8 := Lib.hid (below_next HL7.out hB8)
  obtain ⟨⟨xa8, xb8, xc8, xd8⟩, ⟨ya8, yb8, yc8, yd8⟩⟩ := T8.cells
  have HT8 := Lib.hid T8
  clear T8 hB8 xa7 xb7 xc7 xd7 ya7 yb7 yc7 yd7 HT7 HL7
  go_wp2_with fail
  simp only [List.append]
  go_region_held3 (fun u => u.cell? ⟨w.heap.size, 0, none⟩ = some (.int .u8 x.op) ∧ u.cell? ⟨w.heap.size, 1, none⟩ = some (.int .i64 x.a) ∧ u.cell? ⟨w.heap.size, 2, none⟩ = some (.int .i64 x.b) ∧ u.cell? ⟨w.heap.size, 3, none⟩ = some (.int .i64 x.c) ∧ u.cell? ⟨w1.heap.size, 0, none⟩ = some (.int .u8 y.op) ∧ u.cell? ⟨w1.heap.size, 1, none⟩ = some (.int .i64 y.a) ∧ u.cell? ⟨w1.heap.size, 2, none⟩ = some (.int .i64 y.b) ∧ u.cell? ⟨w1.heap.size, 3, none⟩ = some (.int .i64 y.c)) (first | exact ⟨xa8, xb8, xc8, xd8, ya8, yb8, yc8, yd8⟩ | exact keep8 (by assumption) hB20 | exact keep8 (by assumption) hB19 | exact keep8 (by assumption) hB18 | exact keep8 (by assumption) hB17 | exact keep8 (by assumption) hB16 | exact keep8 (by assumption) hB15 | exact keep8 (by assumption) hB14 | exact keep8 (by assumption) hB13 | exact keep8 (by assumption) hB12 | exact keep8 (by assumption) hB11 | exact keep8 (by assumption) hB10 | exact keep8 (by assumption) hB9 | assumption)
    (first
      | (go_at_call 23; have _q := hB13; refine (uses_any y _).mono ?_; rintro e w14 ⟨rfl, hB14⟩)
      | (go_at_call 24; have _q := hB13; refine (refUses_any y _).mono ?_; rintro e w15 ⟨rfl, hB15⟩)
      | (go_at_call 25; have _q := hB13; refine (sets_any y _).mono ?_; rintro e w16 ⟨rfl, hB16⟩)
      | (go_at_call 26; have _q := hB13; refine (refSets_any y _).mono ?_; rintro e w17 ⟨rfl, hB17⟩)
      | (go_at_call 11; refine (known_any _).mono ?_; rintro e w9 ⟨rfl, hB9⟩)
      | (go_at_call 23; refine (uses_any x _).mono ?_; rintro e w10 ⟨rfl, hB10⟩)
      | (go_at_call 24; refine (refUses_any x _).mono ?_; rintro e w11 ⟨rfl, hB11⟩)
      | (go_at_call 25; refine (sets_any x _).mono ?_; rintro e w12 ⟨rfl, hB12⟩)
      | (go_at_call 26; refine (refSets_any x _).mono ?_; rintro e w13 ⟨rfl, hB13⟩)
      | (go_at_call 15; refine (plain_any y.op _).mono ?_; rintro e w18 ⟨rfl, hB18⟩)
      | (go_at_call 16; refine (refPlain_any y.op _).mono ?_; rintro e w' ⟨rfl, rfl⟩)
      | (go_at_call 17; refine (acquire_any y.op _).mono ?_; rintro e w19 ⟨rfl, hB19⟩)
      | (go_at_call 18; refine (refAcquire_any y.op _).mono ?_; rintro e w' ⟨rfl, rfl⟩)
      | (go_at_call 19; refine (release_any y.op _).mono ?_; rintro e w20 ⟨rfl, hB20⟩)
      | (go_at_call 20; refine (refRelease_any y.op _).mono ?_; rintro e w' ⟨rfl, rfl⟩))
  go_wp2
  go_ret
  exact ⟨rfl, below_next HL8.out (below_next (below_next (below_next (below_next (below_next (below_next (below_next (below_next (below_next (below_next (below_next ((show Below w8.heap.size w8 w9 from ⟨hB9.os, hB9.tape, hB9.output, hB9.size, hB9.block⟩)) hB10) hB11) hB12) hB13) hB14) hB15) hB16) hB17) hB18) hB19) hB20)⟩

theorem irTells_walk (x0 : InsD) (a1 a2 : Int) (w : World) (w0 : x0.op < 256) (w1 : (Lit.int .u8 a1).wf = true) (w2 : (Lit.int .u8 a2).wf = true) :
    Calls Try.prog 6 #[.agg #[.int .u8 x0.op, .int .i64 x0.a, .int .i64 x0.b, .int .i64 x0.c], .int .u8 a1, .int .u8 a2] w fun e w' => e = .returned (.bool true) ∧ Below w.heap.size w w' := by
  obtain ⟨a, rfl, ha⟩ := u8_nat w1
  obtain ⟨b, rfl, hb⟩ := u8_nat w2
  exact irTells_in x0 a b w ha hb

set_option maxRecDepth 100000 in
theorem irTells_lifted (os : Os) (started : os.Started) (H : Type) (enc : TypeId × Value → H) :
    ReturnsInHanded {} Try.checked os 6 .any (Rows.irTellsSpec.pre6 enc Try.prog Try.f6 Rows.irTellsRow.domain false) (Rows.irTellsSpec.post enc Try.prog Try.f6 false true false false) := by
  refine returnsInHanded_of_change (C := Try.checked) law_own started (by kernel_rfl) Try.func6
    (ChangeSpec.witness6 (enc := enc) (C := Try.checked) false ⟨#[], #[.agg #[.int .u8 0, .int .i64 0, .int .i64 0, .int .i64 0], .int .u8 0, .int .u8 0], []⟩ 8 (by kernel_rfl) (by kernel_rfl) (by kernel_rfl) (by kernel_rfl)) ?_
  intro W base args ds gs before hval0 hW hcnd _
  have hval : ∀ (j : Nat) t v, Try.f6.params[j]? = some t → args[j]? = some v → Value.okWide Try.prog W .any base t v := hval0
  have hW' := hW
  obtain ⟨p, q, hA0, hV, rfl, hfz, hnd⟩ := hW
  have hA : DataW.TrodAll enc Try.prog W 0 (fun _ => true) true Try.f6.params.toList args.toList ds p := hA0
  rw [Try.params6] at hA hval
  obtain ⟨v0, vs0, d0, ds0, p0, q0, hargs, rfl, rfl, h0, r0⟩ := trodAll_cons hA
  obtain ⟨v1, vs1, d1, ds1, p1, q1, rfl, rfl, rfl, h1, r1⟩ := trodAll_cons r0
  obtain ⟨v2, vs2, d2, ds2, p2, q2, rfl, rfl, rfl, h2, r2⟩ := trodAll_cons r1
  obtain ⟨rfl, rfl, rfl⟩ := trodAll_nil r2
  obtain rfl : args = #[v0, v1, v2] := by cases args; simp_all
  obtain ⟨rfl, rfl⟩ := trodVars_none hV
  have k0 := h0
  have lt0 : ∀ x ∈ p0, x.block < W.heap.size := by obtain ⟨m, hm⟩ := k0; exact DataW.trod_lt m _ _ _ hm
  obtain ⟨x0, rfl, w0⟩ := open_ins (hval 0 30 v0 rfl rfl) h0
  obtain ⟨a1, rfl, rfl, rfl, w1⟩ := open_int Try.underlying5 (hval 1 5 v1 rfl rfl) h1
  obtain ⟨a2, rfl, rfl, rfl, w2⟩ := open_int Try.underlying5 (hval 2 5 v2 rfl rfl) h2
  clear hA0 hval0
  refine (irTells_walk x0 a1 a2 W w0 w1 w2).mono fun e W' ⟨he, bel⟩ => ?_
  subst he
  exact ⟨_, rfl, _, _, _, [], _, [], hW', trodAll_mk1 (shut_bool Try.underlying4 _), (trodAll_cons_mk (Below.trod law_laidOut (by kernel_rfl) (of_decide_eq_true (by kernel_rfl)) k0 bel lt0) (trodAll_cons_mk (shut_int Try.underlying5 w1) (trodAll_cons_mk (shut_int Try.underlying5 w2) trodAll_mk0))), rfl, bel.frame _, fun h => by cases h⟩

/-- The statement. -/
theorem irTells_holds : Rows.IrTellsSaid :=
  OpenClaim.holds_of_wide 6 Try.f6 rfl rfl rfl rfl rfl rfl rfl ⟨rfl, rfl, rfl, rfl, rfl⟩ rfl rfl rfl rfl rfl (by kernel_rfl) Try.func6 (by kernel_rfl)
    (of_decide_eq_true (by kernel_rfl)) (by unfold Func.isWrapper; first | (rw [if_pos (by decide +kernel)]; kernel_rfl) | (rw [if_neg (by decide +kernel)]; exact ⟨rfl, rfl⟩))
    (fun os started H enc _ => irTells_lifted os started H enc)

end Go.Proofs.Ytpmfolgihdmcjaa
