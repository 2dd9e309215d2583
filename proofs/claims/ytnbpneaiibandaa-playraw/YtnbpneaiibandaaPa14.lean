/- What the laws of this seat stand on, part 14. -/
import Derived.Test.YtnbpneaiibandaaPa0
import Derived.Test.YtnbpneaiibandaaPa10
import Derived.Test.YtnbpneaiibandaaPa11
import Derived.Test.YtnbpneaiibandaaPa12
import Derived.Test.YtnbpneaiibandaaPa13
set_option linter.unusedVariables false
set_option linter.unusedSimpArgs false
set_option maxRecDepth 100000
set_option maxHeartbeats 40000000
namespace Go.Proofs.Ytnbpneaiibandaa
open Go.ChangeShapes Go.WideShapes Go.ChangeAt Go.RowKit
theorem taken_22f (S : Array Value) (p : ProgD) (ca : Option Addr) (ccap : Nat) (ta : Option Addr) (tcap : Nat) (fv : Nat → Value) (rs qs : Value) (fl : Nat → List Int) (n c : Nat) (B : Nat) (w : World) (hS : SV S p ca ccap ta tcap fv rs qs 0) (hO : Ow w B fv rs qs fl n c) (hn : n ≤ 6) (hc : c ≤ 4) (k : Nat) (hk : k < n) (hr4 : (fl (9 + k)).length = 4) (q o0 : Int) (A b C : Nat) (v0 rA : Int) (rest : List Int) (hbc : b < c) (hA4 : A < 4) (hA : (fl (9 + k))[A]? = some rA) (hC4 : C < 4) (rC : Int) (hrC : ((fl (9 + k)).set A v0)[C]? = some rC) (hq : fl (15 + b) = v0 :: rest) :
    Calls Try.prog 80 #[.agg S, .int .i64 k, .agg #[.int .u8 22, .int .i64 A, .int .i64 b, .int .i64 C], .agg #[.int .i64 k, .int .i64 q, .int .u8 22, .int .i64 o0, .int .i64 0, .int .i64 0]] w fun e w' => Rs4 (Held fv rs qs) w w' e p ca ccap ta tcap n c (updF (updF (updF fl (9 + k) ((fl (9 + k)).set A v0)) (9 + k) (((updF fl (9 + k) ((fl (9 + k)).set A v0)) (9 + k)).set C 1)) (15 + b) rest) 0 #[.int .i64 k, .int .i64 q, .int .u8 22, .int .i64 b, .int .i64 v0, .int .i64 1] := by
  go_enter Try.func80, Try.ntmps80
  go_upto_region 1 with (fail)
  generalize hU : World.alloc (World.alloc (World.alloc (World.alloc (World.alloc w _) _) _) _) _ = U0
  have X0 : Hid (Sx (Held fv rs qs) w U0 B (w.heap.size) (w.heap.size + 1) (w.heap.size + 1 + 1) (w.heap.size + 1 + 1 + 1) (w.heap.size + 1 + 1 + 1 + 1) S ⟨22, A, b, C⟩ #[.int .i64 k, .int .i64 q, .int .u8 22, .int .i64 o0, .int .i64 0, .int .i64 0] fv rs qs (fl) n c) := Lib.hid (by rw [← hU]; exact sx_boxes (x := ⟨22, A, b, C⟩) hO rfl rfl)
  have hSV := Lib.hid hS
  clear hU hO
  have hA4' : (A : Int) < 4 := by omega
  have hC4' : (C : Int) < 4 := by omega
  obtain ⟨gR, capR, eR, _, ltR, cR⟩ := X0.out.ow.reg hk
  obtain ⟨gr, capr, er, _, _, _⟩ := X0.out.num hA
  rw [hr4] at er
  have EE9 := Lib.hid er
  have H9 : Hid (S[9]? = some (.slice (some ⟨gR, 0, none⟩) n capR)) := Lib.hid (by rw [← eR, hS.eq]; rfl)
  rw [er] at cR
  clear er eR
  obtain ⟨gQ, capQ, eQ, _, ltQ, cQ, _⟩ := X0.out.ow.que hbc
  have EQ := Lib.hid eQ
  have H13 : Hid (S[13]? = some (.slice (some ⟨gQ, 0, none⟩) c capQ)) := Lib.hid (by rw [← eQ, hS.eq]; rfl)
  have hq0 : (fl (15 + b))[0]? = some v0 := by rw [hq]; rfl
  obtain ⟨gq, capq, eq, _⟩ := X0.out.num hq0
  rw [hq, List.length_cons] at eq
  have hql : rest.length + 1 ≤ capq := by have := X0.out.ow.fam.row (15 + b); rw [eq] at this; exact own_cap this
  have EEQ := Lib.hid eq
  clear eq eQ cQ
  have s9 : U0.cell? ⟨w.heap.size, 9, none⟩ = some (.slice (some ⟨gR, 0, none⟩) n capR) := X0.out.s H9.out
  have cR0 := cR
  have i2 : U0.cell? ⟨w.heap.size + 1, 2, none⟩ = some (.int .i64 b) := X0.out.i.2.2.1
  have e3 : U0.cell? ⟨w.heap.size + 1 + 1, 3, none⟩ = some (.int .i64 o0) := X0.out.e rfl
  have ef3 : U0.frozen? ⟨w.heap.size + 1 + 1, 3, none⟩ = false := X0.out.eF 3
  go_upto_region 3 with (fail)
  generalize hU : World.setCell _ _ _ = U1
  have X1 : Hid (Sx (Held fv rs qs) w U1 B (w.heap.size) (w.heap.size + 1) (w.heap.size + 1 + 1) (w.heap.size + 1 + 1 + 1) (w.heap.size + 1 + 1 + 1 + 1) S ⟨22, A, b, C⟩ #[.int .i64 k, .int .i64 q, .int .u8 22, .int .i64 b, .int .i64 0, .int .i64 0] fv rs qs (fl) n c) := Lib.hid (by rw [← hU]; exact X0.out.ev 3 (.int .i64 b))
  clear hU X0
  clear s9 i2 e3 ef3
  clear cR cR0
  have hbc' : (b : Int) < (c : Int) := by omega
  have i0 : U1.cell? ⟨w.heap.size + 1, 0, none⟩ = some (.int .u8 22) := X1.out.i.1
  have i2 : U1.cell? ⟨w.heap.size + 1, 2, none⟩ = some (.int .i64 b) := X1.out.i.2.2.1
  have s13 : U1.cell? ⟨w.heap.size, 13, none⟩ = some (.slice (some ⟨gQ, 0, none⟩) c capQ) := X1.out.s H13.out
  have cQ : U1.cell? ⟨gQ, b, none⟩ = some (.slice (some ⟨gq, 0, none⟩) (rest.length + 1) capq) := by obtain ⟨g, cap, e, _, _, h, _⟩ := X1.out.ow.que hbc; rw [EQ.out] at e; cases e; rw [EEQ.out] at h; exact h
  have cQf : U1.frozen? ⟨gQ, b, none⟩ = false := by obtain ⟨g, cap, e, _, _, _, h⟩ := X1.out.ow.que hbc; rw [EQ.out] at e; cases e; exact h
  have e5 : U1.cell? ⟨w.heap.size + 1 + 1, 5, none⟩ = some (.int .i64 0) := X1.out.e rfl
  have ef5 : U1.frozen? ⟨w.heap.size + 1 + 1, 5, none⟩ = false := X1.out.eF 5
  go_upto_region 20 with (fail)
  generalize hU : World.setCell _ _ _ = U2
  have X2 : Hid (Sx (Held fv rs qs) w U2 B (w.heap.size) (w.heap.size + 1) (w.heap.size + 1 + 1) (w.heap.size + 1 + 1 + 1) (w.heap.size + 1 + 1 + 1 + 1) S ⟨22, A, b, C⟩ #[.int .i64 k, .int .i64 q, .int .u8 22, .int .i64 b, .int .i64 0, .int .i64 1] fv rs qs (fl) n c) := Lib.hid (by rw [← hU]; exact X1.out.ev 5 (.int .i64 1))
  clear hU X1
  clear i0 i2 s13 cQ cQf e5 ef5
  have i2 : U2.cell? ⟨w.heap.size + 1, 2, none⟩ = some (.int .i64 b) := X2.out.i.2.2.1
  have s13 : U2.cell? ⟨w.heap.size, 13, none⟩ = some (.slice (some ⟨gQ, 0, none⟩) c capQ) := X2.out.s H13.out
  have cQ : U2.cell? ⟨gQ, b, none⟩ = some (.slice (some ⟨gq, 0, none⟩) (rest.length + 1) capq) := by obtain ⟨g, cap, e, _, _, h, _⟩ := X2.out.ow.que hbc; rw [EQ.out] at e; cases e; rw [EEQ.out] at h; exact h
  have cQf : U2.frozen? ⟨gQ, b, none⟩ = false := by obtain ⟨g, cap, e, _, _, _, h⟩ := X2.out.ow.que hbc; rw [EQ.out] at e; cases e; exact h
  have e4 : U2.cell? ⟨w.heap.size + 1 + 1, 4, none⟩ = some (.int .i64 0) := X2.out.e rfl
  have ef4 : U2.frozen? ⟨w.heap.size + 1 + 1, 4, none⟩ = false := X2.out.eF 4
  have cv : U2.cell? ⟨gq, 0, none⟩ = some (.int .i64 v0) := (X2.out.at EEQ.out (by rw [hq]; rfl)).1
  go_upto_region 21 with (fail)
  generalize hU : World.setCell _ _ _ = U3
  have X3 : Hid (Sx (Held fv rs qs) w U3 B (w.heap.size) (w.heap.size + 1) (w.heap.size + 1 + 1) (w.heap.size + 1 + 1 + 1) (w.heap.size + 1 + 1 + 1 + 1) S ⟨22, A, b, C⟩ #[.int .i64 k, .int .i64 q, .int .u8 22, .int .i64 b, .int .i64 v0, .int .i64 1] fv rs qs (fl) n c) := Lib.hid (by rw [← hU]; exact X2.out.ev 4 (.int .i64 v0))
  clear hU X2
  clear i2 s13 cQ cQf e4 ef4 cv
  have i2 : U3.cell? ⟨w.heap.size + 1, 2, none⟩ = some (.int .i64 b) := X3.out.i.2.2.1
  have s13 : U3.cell? ⟨w.heap.size, 13, none⟩ = some (.slice (some ⟨gQ, 0, none⟩) c capQ) := X3.out.s H13.out
  have cQ : U3.cell? ⟨gQ, b, none⟩ = some (.slice (some ⟨gq, 0, none⟩) (rest.length + 1) capq) := by obtain ⟨g, cap, e, _, _, h, _⟩ := X3.out.ow.que hbc; rw [EQ.out] at e; cases e; rw [EEQ.out] at h; exact h
  have cQf : U3.frozen? ⟨gQ, b, none⟩ = false := by obtain ⟨g, cap, e, _, _, _, h⟩ := X3.out.ow.que hbc; rw [EQ.out] at e; cases e; exact h
  obtain ⟨off, mq, hoff, hsl⟩ := slice_one gq rest.length capq hql
  go_still_tail 12, (by kernel_rfl)
  go_upto_region 24 with (fail)
  have qn := X3.out.qne EQ.out
  generalize hU : World.setCell _ _ _ = U4
  obtain ⟨Y4, P4, X4⟩ : ∃ Y, Hid (U4 = Y.setCell ⟨gQ, b, none⟩ (.slice (some ⟨gq, off, none⟩) rest.length mq)) ∧ Hid (Sx (Held fv rs qs) w Y B (w.heap.size) (w.heap.size + 1) (w.heap.size + 1 + 1) (w.heap.size + 1 + 1 + 1) (w.heap.size + 1 + 1 + 1 + 1) S ⟨22, A, b, C⟩ #[.int .i64 k, .int .i64 q, .int .u8 22, .int .i64 b, .int .i64 v0, .int .i64 1] fv rs qs (fl) n c) := ⟨U3, Lib.hid hU.symm, X3⟩
  clear hU X3
  clear i2 s13 cQ cQf
  generalize hD : World.drew U4 = U5
  obtain ⟨Y5, P5, X5⟩ : ∃ Y, Hid (U5 = Y.setCell ⟨gQ, b, none⟩ (.slice (some ⟨gq, off, none⟩) rest.length mq)) ∧ Hid (Sx (Held fv rs qs) w Y B (w.heap.size) (w.heap.size + 1) (w.heap.size + 1 + 1) (w.heap.size + 1 + 1 + 1) (w.heap.size + 1 + 1 + 1 + 1) S ⟨22, A, b, C⟩ #[.int .i64 k, .int .i64 q, .int .u8 22, .int .i64 b, .int .i64 v0, .int .i64 1] fv rs qs (fl) n c) := ⟨_, Lib.hid (by rw [← hD, P4.out]; rfl), Lib.hid X4.out.drew⟩
  clear hD X4 P4
  clear hsl
  have i1 : U5.cell? ⟨w.heap.size + 1, 1, none⟩ = some (.int .i64 A) := (by rw [P5.out]; exact (pop_cell qn.1.2.1).trans (X5.out.i.2.1))
  have e4 : U5.cell? ⟨w.heap.size + 1 + 1, 4, none⟩ = some (.int .i64 v0) := (by rw [P5.out]; exact (pop_cell qn.1.2.2.1).trans (X5.out.e rfl))
  have ef4 : U5.frozen? ⟨w.heap.size + 1 + 1, 4, none⟩ = false := (by rw [P5.out]; exact (pop_frozen qn.1.2.2.1).trans (X5.out.eF 4))
  obtain ⟨cr_, crf_⟩ := X5.out.at (j := A) (z := rA) EE9.out (hA)
  have cr : U5.cell? ⟨gr, A, none⟩ = some (.int .i64 rA) := (by rw [P5.out]; exact (pop_cell (qn.2.1 (9 + k) gr (by rw [EE9.out]; rfl))).trans (cr_))
  have crf : U5.frozen? ⟨gr, A, none⟩ = false := (by rw [P5.out]; exact (pop_frozen (qn.2.1 (9 + k) gr (by rw [EE9.out]; rfl))).trans (crf_))
  clear cr_ crf_
  go_upto_region 25 with (fail)
  generalize hU : World.setCell _ _ _ = U6
  obtain ⟨Y6, P6, X6⟩ : ∃ Y, Hid (U6 = Y.setCell ⟨gQ, b, none⟩ (.slice (some ⟨gq, off, none⟩) rest.length mq)) ∧ Hid (Sx (Held fv rs qs) w Y B (w.heap.size) (w.heap.size + 1) (w.heap.size + 1 + 1) (w.heap.size + 1 + 1 + 1) (w.heap.size + 1 + 1 + 1 + 1) S ⟨22, A, b, C⟩ #[.int .i64 k, .int .i64 q, .int .u8 22, .int .i64 b, .int .i64 v0, .int .i64 1] fv rs qs (updF fl (9 + k) ((fl (9 + k)).set A v0)) n c) := ⟨_, Lib.hid (by rw [← hU, P5.out]; exact set_comm (Ne.symm (qn.2.1 (9 + k) gr (by rw [EE9.out]; rfl)))), Lib.hid (X5.out.put' EE9.out (by omega) v0)⟩
  clear hU X5 P5
  clear i1 e4 ef4 cr crf
  have i0 : U6.cell? ⟨w.heap.size + 1, 0, none⟩ = some (.int .u8 22) := (by rw [P6.out]; exact (pop_cell qn.1.2.1).trans (X6.out.i.1))
  go_upto_region 26 with (fail)
  have i3 : U6.cell? ⟨w.heap.size + 1, 3, none⟩ = some (.int .i64 C) := (by rw [P6.out]; exact (pop_cell qn.1.2.1).trans (X6.out.i.2.2.2))
  have e5 : U6.cell? ⟨w.heap.size + 1 + 1, 5, none⟩ = some (.int .i64 1) := (by rw [P6.out]; exact (pop_cell qn.1.2.2.1).trans (X6.out.e rfl))
  have ef5 : U6.frozen? ⟨w.heap.size + 1 + 1, 5, none⟩ = false := (by rw [P6.out]; exact (pop_frozen qn.1.2.2.1).trans (X6.out.eF 5))
  obtain ⟨cr_, crf_⟩ := X6.out.at (j := C) (z := rC) EE9.out (by rw [updF_same, hrC])
  have cr : U6.cell? ⟨gr, C, none⟩ = some (.int .i64 rC) := (by rw [P6.out]; exact (pop_cell (qn.2.1 (9 + k) gr (by rw [EE9.out]; rfl))).trans (cr_))
  have crf : U6.frozen? ⟨gr, C, none⟩ = false := (by rw [P6.out]; exact (pop_frozen (qn.2.1 (9 + k) gr (by rw [EE9.out]; rfl))).trans (crf_))
  clear cr_ crf_
  refine wp_region_still_tail 8 (by kernel_rfl) (by kernel_rfl) ?_
  simp only [List.take_succ_cons, List.take_zero, List.drop_succ_cons, List.drop_zero]
  still_step
  still_step
  still_step
  still_step
  still_step
  still_step
  still_call (number4_still _ _)
  still_step
  refine wpStill_nil ?_
  go_wp2_with fail
  generalize hU : World.setCell _ _ _ = U7
  obtain ⟨Y7, P7, X7⟩ : ∃ Y, Hid (U7 = Y.setCell ⟨gQ, b, none⟩ (.slice (some ⟨gq, off, none⟩) rest.length mq)) ∧ Hid (Sx (Held fv rs qs) w Y B (w.heap.size) (w.heap.size + 1) (w.heap.size + 1 + 1) (w.heap.size + 1 + 1 + 1) (w.heap.size + 1 + 1 + 1 + 1) S ⟨22, A, b, C⟩ #[.int .i64 k, .int .i64 q, .int .u8 22, .int .i64 b, .int .i64 v0, .int .i64 1] fv rs qs (updF (updF fl (9 + k) ((fl (9 + k)).set A v0)) (9 + k) (((updF fl (9 + k) ((fl (9 + k)).set A v0)) (9 + k)).set C 1)) n c) := ⟨_, Lib.hid (by rw [← hU, P6.out]; exact set_comm (Ne.symm (qn.2.1 (9 + k) gr (by rw [EE9.out]; rfl)))), Lib.hid (X6.out.put' EE9.out (by rw [updF_same, List.length_set]; omega) 1)⟩
  clear hU X6 P6
  clear i0 i3 e5 ef5 cr crf
  have hSP := Lib.hid (sv_pop hSV.out b (.slice (some ⟨gq, off, none⟩) rest.length mq))
  have FX := Lib.hid ((by rw [P7.out]; exact X7.out.popped hn hbc EQ.out (by rw [updF_ne _ _ (by omega), updF_ne _ _ (by omega)]; exact hq) EEQ.out off mq hoff : Fx (Held fv rs qs) w U7 (w.heap.size) (w.heap.size + 1 + 1) (w.heap.size + 1 + 1 + 1) (w.heap.size + 1 + 1 + 1 + 1) S #[.int .i64 k, .int .i64 q, .int .u8 22, .int .i64 b, .int .i64 v0, .int .i64 1] (updF fv (15 + b) (.slice (some ⟨gq, off, none⟩) rest.length mq)) rs qs (updF (updF (updF fl (9 + k) ((fl (9 + k)).set A v0)) (9 + k) (((updF fl (9 + k) ((fl (9 + k)).set A v0)) (9 + k)).set C 1)) (15 + b) rest) n c))
  obtain ⟨Z0, z0, _⟩ := FX.out.b0
  obtain ⟨Z1, z2, _⟩ := FX.out.b1
  have ne1 := FX.out.ne.1
  have FZ0 := Lib.hid z0
  have FZ1 := Lib.hid z2
  have hS19 : Array.size S = 19 := by rw [hSP.out.eq]; rfl
  have hSz : (Try.prog.info? 72).map (·.size) = some (Array.size S) := by rw [hS19]; exact info_S
  have hS1 : Array.all S (·.oneCell') = true := sv_one hSP.out (FX.out.rf _ (Touch.of_below (Below.refl _ _)))
  clear z0 z2
  go_wp2_with fail
  refine fin_taken FX.out rfl hS19 hS1 rfl (by simp [Value.oneCell']) rfl (fun _ _ _ _ _ h => h) rfl rfl rfl rfl ?_
  (try simp only [zz0, zz1, zz2, Act.put, zz3, zz4, zz5])
  go_wp2
  refine bodyPost_ret (v := .tuple #[.agg S, .agg #[.int .i64 k, .int .i64 q, .int .u8 22, .int .i64 b, .int .i64 v0, .int .i64 1], .bool true]) (results_two (p := 8) (q := 9) (u := 10) rfl _ _ (w.heap.size + 1 + 1 + 1) (w.heap.size + 1 + 1 + 1 + 1) 72 45 S #[.int .i64 k, .int .i64 q, .int .u8 22, .int .i64 b, .int .i64 v0, .int .i64 1] (0, 0) (0, 0) _ _ rfl ((setRow_other _ _ _ _ ne1).trans (setRow_heap _ _ _ _ _ _ FZ0.out)) Try.underlying72 rfl hSz rfl (setRow_heap _ _ _ _ _ _ ((setRow_other _ _ _ _ (Ne.symm ne1)).trans FZ1.out)) Try.underlying45 rfl info_event) rfl ?_
  exact ⟨_, _, _, _, rfl, hSP.out, fun u' T => FX.out.rf u' (touch_end T rfl rfl rfl rfl), touch_fin FX.out.bel FX.out.lo.1 FX.out.lo.2 rfl rfl rfl rfl⟩
theorem taken_22c (S : Array Value) (p : ProgD) (ca : Option Addr) (ccap : Nat) (ta : Option Addr) (tcap : Nat) (fv : Nat → Value) (rs qs : Value) (fl : Nat → List Int) (n c : Nat) (B : Nat) (w : World) (hS : SV S p ca ccap ta tcap fv rs qs 0) (hO : Ow w B fv rs qs fl n c) (hn : n ≤ 6) (hc : c ≤ 4) (k : Nat) (hk : k < n) (hr4 : (fl (9 + k)).length = 4) (q o0 : Int) (A b C : Nat) (y rA : Int) (hbc : b < c) (hA4 : A < 4) (hA : (fl (9 + k))[A]? = some rA) (hC4 : C < 4) (rC : Int) (hrC : ((fl (9 + k)).set A 0)[C]? = some rC) (hq : fl (15 + b) = []) (h5 : (fl 5)[b]? = some y) (hy : y = 1) :
    Calls Try.prog 80 #[.agg S, .int .i64 k, .agg #[.int .u8 22, .int .i64 A, .int .i64 b, .int .i64 C], .agg #[.int .i64 k, .int .i64 q, .int .u8 22, .int .i64 o0, .int .i64 0, .int .i64 0]] w fun e w' => Rs4 (Held fv rs qs) w w' e p ca ccap ta tcap n c (updF (updF fl (9 + k) ((fl (9 + k)).set A 0)) (9 + k) (((updF fl (9 + k) ((fl (9 + k)).set A 0)) (9 + k)).set C 0)) 0 #[.int .i64 k, .int .i64 q, .int .u8 22, .int .i64 b, .int .i64 0, .int .i64 2] := by
  go_enter Try.func80, Try.ntmps80
  go_upto_region 1 with (fail)
  generalize hU : World.alloc (World.alloc (World.alloc (World.alloc (World.alloc w _) _) _) _) _ = U0
  have X0 : Hid (Sx (Held fv rs qs) w U0 B (w.heap.size) (w.heap.size + 1) (w.heap.size + 1 + 1) (w.heap.size + 1 + 1 + 1) (w.heap.size + 1 + 1 + 1 + 1) S ⟨22, A, b, C⟩ #[.int .i64 k, .int .i64 q, .int .u8 22, .int .i64 o0, .int .i64 0, .int .i64 0] fv rs qs (fl) n c) := Lib.hid (by rw [← hU]; exact sx_boxes (x := ⟨22, A, b, C⟩) hO rfl rfl)
  have hSV := Lib.hid hS
  clear hU hO
  have hA4' : (A : Int) < 4 := by omega
  have hC4' : (C : Int) < 4 := by omega
  obtain ⟨gR, capR, eR, _, ltR, cR⟩ := X0.out.ow.reg hk
  obtain ⟨gr, capr, er, _, _, _⟩ := X0.out.num hA
  rw [hr4] at er
  have EE9 := Lib.hid er
  have H9 : Hid (S[9]? = some (.slice (some ⟨gR, 0, none⟩) n capR)) := Lib.hid (by rw [← eR, hS.eq]; rfl)
  rw [er] at cR
  clear er eR
  obtain ⟨gQ, capQ, eQ, _, ltQ, cQ, _⟩ := X0.out.ow.que hbc
  have EQ := Lib.hid eQ
  have H13 : Hid (S[13]? = some (.slice (some ⟨gQ, 0, none⟩) c capQ)) := Lib.hid (by rw [← eQ, hS.eq]; rfl)
  obtain ⟨aq, capq, eq, _⟩ := X0.out.ow.rf.row (15 + b)
  rw [hq, List.length_nil] at eq
  have EEQ := Lib.hid eq
  clear eq eQ cQ
  obtain ⟨g5, cap5, e5, _, _, lt5⟩ := X0.out.num h5
  have EE5 := Lib.hid e5
  have H14 : Hid (S[14]? = some (.slice (some ⟨g5, 0, none⟩) (fl 5).length cap5)) := Lib.hid (by rw [← e5, hS.eq]; rfl)
  clear e5
  have s9 : U0.cell? ⟨w.heap.size, 9, none⟩ = some (.slice (some ⟨gR, 0, none⟩) n capR) := X0.out.s H9.out
  have cR0 := cR
  have i2 : U0.cell? ⟨w.heap.size + 1, 2, none⟩ = some (.int .i64 b) := X0.out.i.2.2.1
  have e3 : U0.cell? ⟨w.heap.size + 1 + 1, 3, none⟩ = some (.int .i64 o0) := X0.out.e rfl
  have ef3 : U0.frozen? ⟨w.heap.size + 1 + 1, 3, none⟩ = false := X0.out.eF 3
  go_upto_region 3 with (fail)
  generalize hU : World.setCell _ _ _ = U1
  have X1 : Hid (Sx (Held fv rs qs) w U1 B (w.heap.size) (w.heap.size + 1) (w.heap.size + 1 + 1) (w.heap.size + 1 + 1 + 1) (w.heap.size + 1 + 1 + 1 + 1) S ⟨22, A, b, C⟩ #[.int .i64 k, .int .i64 q, .int .u8 22, .int .i64 b, .int .i64 0, .int .i64 0] fv rs qs (fl) n c) := Lib.hid (by rw [← hU]; exact X0.out.ev 3 (.int .i64 b))
  clear hU X0
  clear s9 i2 e3 ef3
  clear cR cR0
  have hbc' : (b : Int) < (c : Int) := by omega
  have i0 : U1.cell? ⟨w.heap.size + 1, 0, none⟩ = some (.int .u8 22) := X1.out.i.1
  have i2 : U1.cell? ⟨w.heap.size + 1, 2, none⟩ = some (.int .i64 b) := X1.out.i.2.2.1
  have s13 : U1.cell? ⟨w.heap.size, 13, none⟩ = some (.slice (some ⟨gQ, 0, none⟩) c capQ) := X1.out.s H13.out
  have cQ : U1.cell? ⟨gQ, b, none⟩ = some (.slice aq 0 capq) := by obtain ⟨g, cap, e, _, _, h, _⟩ := X1.out.ow.que hbc; rw [EQ.out] at e; cases e; rw [EEQ.out] at h; exact h
  have cQf : U1.frozen? ⟨gQ, b, none⟩ = false := by obtain ⟨g, cap, e, _, _, _, h⟩ := X1.out.ow.que hbc; rw [EQ.out] at e; cases e; exact h
  have s14 : U1.cell? ⟨w.heap.size, 14, none⟩ = some (.slice (some ⟨g5, 0, none⟩) (fl 5).length cap5) := X1.out.s H14.out
  obtain ⟨c5, c5f⟩ := X1.out.at (j := b) (z := y) EE5.out (h5)
  have hy0 : (y == 1) = true := by simpa using hy
  have e5 : U1.cell? ⟨w.heap.size + 1 + 1, 5, none⟩ = some (.int .i64 0) := X1.out.e rfl
  have ef5 : U1.frozen? ⟨w.heap.size + 1 + 1, 5, none⟩ = false := X1.out.eF 5
  go_upto_region 24 with (fail)
  generalize hU : World.setCell _ _ _ = U2
  have X2 : Hid (Sx (Held fv rs qs) w U2 B (w.heap.size) (w.heap.size + 1) (w.heap.size + 1 + 1) (w.heap.size + 1 + 1 + 1) (w.heap.size + 1 + 1 + 1 + 1) S ⟨22, A, b, C⟩ #[.int .i64 k, .int .i64 q, .int .u8 22, .int .i64 b, .int .i64 0, .int .i64 2] fv rs qs (fl) n c) := Lib.hid (by rw [← hU]; exact X1.out.ev 5 (.int .i64 2))
  clear hU X1
  clear i0 i2 s13 cQ cQf s14 c5 c5f e5 ef5
  have i1 : U2.cell? ⟨w.heap.size + 1, 1, none⟩ = some (.int .i64 A) := X2.out.i.2.1
  have e4 : U2.cell? ⟨w.heap.size + 1 + 1, 4, none⟩ = some (.int .i64 0) := X2.out.e rfl
  have ef4 : U2.frozen? ⟨w.heap.size + 1 + 1, 4, none⟩ = false := X2.out.eF 4
  obtain ⟨cr, crf⟩ := X2.out.at (j := A) (z := rA) EE9.out (hA)
  go_upto_region 25 with (fail)
  generalize hU : World.setCell _ _ _ = U3
  have X3 : Hid (Sx (Held fv rs qs) w U3 B (w.heap.size) (w.heap.size + 1) (w.heap.size + 1 + 1) (w.heap.size + 1 + 1 + 1) (w.heap.size + 1 + 1 + 1 + 1) S ⟨22, A, b, C⟩ #[.int .i64 k, .int .i64 q, .int .u8 22, .int .i64 b, .int .i64 0, .int .i64 2] fv rs qs (updF fl (9 + k) ((fl (9 + k)).set A 0)) n c) := Lib.hid (by rw [← hU]; exact X2.out.put' EE9.out (by omega) 0)
  clear hU X2
  clear i1 e4 ef4 cr crf
  have i0 : U3.cell? ⟨w.heap.size + 1, 0, none⟩ = some (.int .u8 22) := X3.out.i.1
  go_upto_region 26 with (fail)
  have i3 : U3.cell? ⟨w.heap.size + 1, 3, none⟩ = some (.int .i64 C) := X3.out.i.2.2.2
  have e5 : U3.cell? ⟨w.heap.size + 1 + 1, 5, none⟩ = some (.int .i64 2) := X3.out.e rfl
  have ef5 : U3.frozen? ⟨w.heap.size + 1 + 1, 5, none⟩ = false := X3.out.eF 5
  obtain ⟨cr, crf⟩ := X3.out.at (j := C) (z := rC) EE9.out (by rw [updF_same, hrC])
  refine wp_region_still_tail 8 (by kernel_rfl) (by kernel_rfl) ?_
  simp only [List.take_succ_cons, List.take_zero, List.drop_succ_cons, List.drop_zero]
  still_step
  still_step
  still_step
  still_step
  still_step
  still_step
  still_call (number4_still _ _)
  still_step
  refine wpStill_nil ?_
  go_wp2_with fail
  generalize hU : World.setCell _ _ _ = U4
  have X4 : Hid (Sx (Held fv rs qs) w U4 B (w.heap.size) (w.heap.size + 1) (w.heap.size + 1 + 1) (w.heap.size + 1 + 1 + 1) (w.heap.size + 1 + 1 + 1 + 1) S ⟨22, A, b, C⟩ #[.int .i64 k, .int .i64 q, .int .u8 22, .int .i64 b, .int .i64 0, .int .i64 2] fv rs qs (updF (updF fl (9 + k) ((fl (9 + k)).set A 0)) (9 + k) (((updF fl (9 + k) ((fl (9 + k)).set A 0)) (9 + k)).set C 0)) n c) := Lib.hid (by rw [← hU]; exact X3.out.put' EE9.out (by rw [updF_same, List.length_set]; omega) 0)
  clear hU X3
  clear i0 i3 e5 ef5 cr crf
  have FX := Lib.hid (X4.out.fin)
  obtain ⟨Z0, z0, _⟩ := FX.out.b0
  obtain ⟨Z1, z2, _⟩ := FX.out.b1
  have ne1 := FX.out.ne.1
  have FZ0 := Lib.hid z0
  have FZ1 := Lib.hid z2
  have hS19 : Array.size S = 19 := by rw [hSV.out.eq]; rfl
  have hSz : (Try.prog.info? 72).map (·.size) = some (Array.size S) := by rw [hS19]; exact info_S
  have hS1 : Array.all S (·.oneCell') = true := sv_one hSV.out (FX.out.rf _ (Touch.of_below (Below.refl _ _)))
  clear z0 z2
  go_wp2_with fail
  refine fin_taken FX.out rfl hS19 hS1 rfl (by simp [Value.oneCell']) rfl (fun _ _ _ _ _ h => h) rfl rfl rfl rfl ?_
  (try simp only [zz0, zz1, zz2, Act.put, zz3, zz4, zz5])
  go_wp2
  refine bodyPost_ret (v := .tuple #[.agg S, .agg #[.int .i64 k, .int .i64 q, .int .u8 22, .int .i64 b, .int .i64 0, .int .i64 2], .bool true]) (results_two (p := 8) (q := 9) (u := 10) rfl _ _ (w.heap.size + 1 + 1 + 1) (w.heap.size + 1 + 1 + 1 + 1) 72 45 S #[.int .i64 k, .int .i64 q, .int .u8 22, .int .i64 b, .int .i64 0, .int .i64 2] (0, 0) (0, 0) _ _ rfl ((setRow_other _ _ _ _ ne1).trans (setRow_heap _ _ _ _ _ _ FZ0.out)) Try.underlying72 rfl hSz rfl (setRow_heap _ _ _ _ _ _ ((setRow_other _ _ _ _ (Ne.symm ne1)).trans FZ1.out)) Try.underlying45 rfl info_event) rfl ?_
  exact ⟨_, _, _, _, rfl, hSV.out, fun u' T => FX.out.rf u' (touch_end T rfl rfl rfl rfl), touch_fin FX.out.bel FX.out.lo.1 FX.out.lo.2 rfl rfl rfl rfl⟩
theorem taken_22e (S : Array Value) (p : ProgD) (ca : Option Addr) (ccap : Nat) (ta : Option Addr) (tcap : Nat) (fv : Nat → Value) (rs qs : Value) (fl : Nat → List Int) (n c : Nat) (B : Nat) (w : World) (hS : SV S p ca ccap ta tcap fv rs qs 0) (hO : Ow w B fv rs qs fl n c) (hn : n ≤ 6) (hc : c ≤ 4) (k : Nat) (hk : k < n) (hr4 : (fl (9 + k)).length = 4) (q o0 : Int) (A b C : Nat) (y rA : Int) (hbc : b < c) (hA4 : A < 4) (hA : (fl (9 + k))[A]? = some rA) (hC4 : C < 4) (rC : Int) (hrC : ((fl (9 + k)).set A 0)[C]? = some rC) (hq : fl (15 + b) = []) (h5 : (fl 5)[b]? = some y) (hy : ¬ y = 1) :
    Calls Try.prog 80 #[.agg S, .int .i64 k, .agg #[.int .u8 22, .int .i64 A, .int .i64 b, .int .i64 C], .agg #[.int .i64 k, .int .i64 q, .int .u8 22, .int .i64 o0, .int .i64 0, .int .i64 0]] w fun e w' => Rs4 (Held fv rs qs) w w' e p ca ccap ta tcap n c (updF (updF fl (9 + k) ((fl (9 + k)).set A 0)) (9 + k) (((updF fl (9 + k) ((fl (9 + k)).set A 0)) (9 + k)).set C 0)) 0 #[.int .i64 k, .int .i64 q, .int .u8 22, .int .i64 b, .int .i64 0, .int .i64 0] := by
  go_enter Try.func80, Try.ntmps80
  go_upto_region 1 with (fail)
  generalize hU : World.alloc (World.alloc (World.alloc (World.alloc (World.alloc w _) _) _) _) _ = U0
  have X0 : Hid (Sx (Held fv rs qs) w U0 B (w.heap.size) (w.heap.size + 1) (w.heap.size + 1 + 1) (w.heap.size + 1 + 1 + 1) (w.heap.size + 1 + 1 + 1 + 1) S ⟨22, A, b, C⟩ #[.int .i64 k, .int .i64 q, .int .u8 22, .int .i64 o0, .int .i64 0, .int .i64 0] fv rs qs (fl) n c) := Lib.hid (by rw [← hU]; exact sx_boxes (x := ⟨22, A, b, C⟩) hO rfl rfl)
  have hSV := Lib.hid hS
  clear hU hO
  have hA4' : (A : Int) < 4 := by omega
  have hC4' : (C : Int) < 4 := by omega
  obtain ⟨gR, capR, eR, _, ltR, cR⟩ := X0.out.ow.reg hk
  obtain ⟨gr, capr, er, _, _, _⟩ := X0.out.num hA
  rw [hr4] at er
  have EE9 := Lib.hid er
  have H9 : Hid (S[9]? = some (.slice (some ⟨gR, 0, none⟩) n capR)) := Lib.hid (by rw [← eR, hS.eq]; rfl)
  rw [er] at cR
  clear er eR
  obtain ⟨gQ, capQ, eQ, _, ltQ, cQ, _⟩ := X0.out.ow.que hbc
  have EQ := Lib.hid eQ
  have H13 : Hid (S[13]? = some (.slice (some ⟨gQ, 0, none⟩) c capQ)) := Lib.hid (by rw [← eQ, hS.eq]; rfl)
  obtain ⟨aq, capq, eq, _⟩ := X0.out.ow.rf.row (15 + b)
  rw [hq, List.length_nil] at eq
  have EEQ := Lib.hid eq
  clear eq eQ cQ
  obtain ⟨g5, cap5, e5, _, _, lt5⟩ := X0.out.num h5
  have EE5 := Lib.hid e5
  have H14 : Hid (S[14]? = some (.slice (some ⟨g5, 0, none⟩) (fl 5).length cap5)) := Lib.hid (by rw [← e5, hS.eq]; rfl)
  clear e5
  have s9 : U0.cell? ⟨w.heap.size, 9, none⟩ = some (.slice (some ⟨gR, 0, none⟩) n capR) := X0.out.s H9.out
  have cR0 := cR
  have i2 : U0.cell? ⟨w.heap.size + 1, 2, none⟩ = some (.int .i64 b) := X0.out.i.2.2.1
  have e3 : U0.cell? ⟨w.heap.size + 1 + 1, 3, none⟩ = some (.int .i64 o0) := X0.out.e rfl
  have ef3 : U0.frozen? ⟨w.heap.size + 1 + 1, 3, none⟩ = false := X0.out.eF 3
  go_upto_region 3 with (fail)
  generalize hU : World.setCell _ _ _ = U1
  have X1 : Hid (Sx (Held fv rs qs) w U1 B (w.heap.size) (w.heap.size + 1) (w.heap.size + 1 + 1) (w.heap.size + 1 + 1 + 1) (w.heap.size + 1 + 1 + 1 + 1) S ⟨22, A, b, C⟩ #[.int .i64 k, .int .i64 q, .int .u8 22, .int .i64 b, .int .i64 0, .int .i64 0] fv rs qs (fl) n c) := Lib.hid (by rw [← hU]; exact X0.out.ev 3 (.int .i64 b))
  clear hU X0
  clear s9 i2 e3 ef3
  clear cR cR0
  have hbc' : (b : Int) < (c : Int) := by omega
  have i0 : U1.cell? ⟨w.heap.size + 1, 0, none⟩ = some (.int .u8 22) := X1.out.i.1
  have i2 : U1.cell? ⟨w.heap.size + 1, 2, none⟩ = some (.int .i64 b) := X1.out.i.2.2.1
  have s13 : U1.cell? ⟨w.heap.size, 13, none⟩ = some (.slice (some ⟨gQ, 0, none⟩) c capQ) := X1.out.s H13.out
  have cQ : U1.cell? ⟨gQ, b, none⟩ = some (.slice aq 0 capq) := by obtain ⟨g, cap, e, _, _, h, _⟩ := X1.out.ow.que hbc; rw [EQ.out] at e; cases e; rw [EEQ.out] at h; exact h
  have cQf : U1.frozen? ⟨gQ, b, none⟩ = false := by obtain ⟨g, cap, e, _, _, _, h⟩ := X1.out.ow.que hbc; rw [EQ.out] at e; cases e; exact h
  have s14 : U1.cell? ⟨w.heap.size, 14, none⟩ = some (.slice (some ⟨g5, 0, none⟩) (fl 5).length cap5) := X1.out.s H14.out
  obtain ⟨c5, c5f⟩ := X1.out.at (j := b) (z := y) EE5.out (h5)
  have hy0 : (y == 1) = false := by simpa using hy
  go_upto_region 24 with (fail)
  clear i0 i2 s13 cQ cQf s14 c5 c5f
  have i1 : U1.cell? ⟨w.heap.size + 1, 1, none⟩ = some (.int .i64 A) := X1.out.i.2.1
  have e4 : U1.cell? ⟨w.heap.size + 1 + 1, 4, none⟩ = some (.int .i64 0) := X1.out.e rfl
  have ef4 : U1.frozen? ⟨w.heap.size + 1 + 1, 4, none⟩ = false := X1.out.eF 4
  obtain ⟨cr, crf⟩ := X1.out.at (j := A) (z := rA) EE9.out (hA)
  go_upto_region 25 with (fail)
  generalize hU : World.setCell _ _ _ = U2
  have X2 : Hid (Sx (Held fv rs qs) w U2 B (w.heap.size) (w.heap.size + 1) (w.heap.size + 1 + 1) (w.heap.size + 1 + 1 + 1) (w.heap.size + 1 + 1 + 1 + 1) S ⟨22, A, b, C⟩ #[.int .i64 k, .int .i64 q, .int .u8 22, .int .i64 b, .int .i64 0, .int .i64 0] fv rs qs (updF fl (9 + k) ((fl (9 + k)).set A 0)) n c) := Lib.hid (by rw [← hU]; exact X1.out.put' EE9.out (by omega) 0)
  clear hU X1
  clear i1 e4 ef4 cr crf
  have i0 : U2.cell? ⟨w.heap.size + 1, 0, none⟩ = some (.int .u8 22) := X2.out.i.1
  go_upto_region 26 with (fail)
  have i3 : U2.cell? ⟨w.heap.size + 1, 3, none⟩ = some (.int .i64 C) := X2.out.i.2.2.2
  have e5 : U2.cell? ⟨w.heap.size + 1 + 1, 5, none⟩ = some (.int .i64 0) := X2.out.e rfl
  have ef5 : U2.frozen? ⟨w.heap.size + 1 + 1, 5, none⟩ = false := X2.out.eF 5
  obtain ⟨cr, crf⟩ := X2.out.at (j := C) (z := rC) EE9.out (by rw [updF_same, hrC])
  refine wp_region_still_tail 8 (by kernel_rfl) (by kernel_rfl) ?_
  simp only [List.take_succ_cons, List.take_zero, List.drop_succ_cons, List.drop_zero]
  still_step
  still_step
  still_step
  still_step
  still_step
  still_step
  still_call (number4_still _ _)
  still_step
  refine wpStill_nil ?_
  go_wp2_with fail
  generalize hU : World.setCell _ _ _ = U3
  have X3 : Hid (Sx (Held fv rs qs) w U3 B (w.heap.size) (w.heap.size + 1) (w.heap.size + 1 + 1) (w.heap.size + 1 + 1 + 1) (w.heap.size + 1 + 1 + 1 + 1) S ⟨22, A, b, C⟩ #[.int .i64 k, .int .i64 q, .int .u8 22, .int .i64 b, .int .i64 0, .int .i64 0] fv rs qs (updF (updF fl (9 + k) ((fl (9 + k)).set A 0)) (9 + k) (((updF fl (9 + k) ((fl (9 + k)).set A 0)) (9 + k)).set C 0)) n c) := Lib.hid (by rw [← hU]; exact X2.out.put' EE9.out (by rw [updF_same, List.length_set]; omega) 0)
  clear hU X2
  clear i0 i3 e5 ef5 cr crf
  have FX := Lib.hid (X3.out.fin)
  obtain ⟨Z0, z0, _⟩ := FX.out.b0
  obtain ⟨Z1, z2, _⟩ := FX.out.b1
  have ne1 := FX.out.ne.1
  have FZ0 := Lib.hid z0
  have FZ1 := Lib.hid z2
  have hS19 : Array.size S = 19 := by rw [hSV.out.eq]; rfl
  have hSz : (Try.prog.info? 72).map (·.size) = some (Array.size S) := by rw [hS19]; exact info_S
  have hS1 : Array.all S (·.oneCell') = true := sv_one hSV.out (FX.out.rf _ (Touch.of_below (Below.refl _ _)))
  clear z0 z2
  go_wp2_with fail
  refine fin_taken FX.out rfl hS19 hS1 rfl (by simp [Value.oneCell']) rfl (fun _ _ _ _ _ h => h) rfl rfl rfl rfl ?_
  (try simp only [zz0, zz1, zz2, Act.put, zz3, zz4, zz5])
  go_wp2
  refine bodyPost_ret (v := .tuple #[.agg S, .agg #[.int .i64 k, .int .i64 q, .int .u8 22, .int .i64 b, .int .i64 0, .int .i64 0], .bool true]) (results_two (p := 8) (q := 9) (u := 10) rfl _ _ (w.heap.size + 1 + 1 + 1) (w.heap.size + 1 + 1 + 1 + 1) 72 45 S #[.int .i64 k, .int .i64 q, .int .u8 22, .int .i64 b, .int .i64 0, .int .i64 0] (0, 0) (0, 0) _ _ rfl ((setRow_other _ _ _ _ ne1).trans (setRow_heap _ _ _ _ _ _ FZ0.out)) Try.underlying72 rfl hSz rfl (setRow_heap _ _ _ _ _ _ ((setRow_other _ _ _ _ (Ne.symm ne1)).trans FZ1.out)) Try.underlying45 rfl info_event) rfl ?_
  exact ⟨_, _, _, _, rfl, hSV.out, fun u' T => FX.out.rf u' (touch_end T rfl rfl rfl rfl), touch_fin FX.out.bel FX.out.lo.1 FX.out.lo.2 rfl rfl rfl rfl⟩
theorem range_set {n k : Nat} {f g : Nat → Int} {v : Int} (h : ∀ j, j < n → j ≠ k → g j = f j) (hv : g k = v) : (List.range n).map g = ((List.range n).map f).set k v := by
  apply List.ext_getElem?
  intro i
  by_cases hi : i < n
  · rw [map_at g hi]
    by_cases e : i = k
    · subst e
      rw [List.getElem?_set_self (by simpa using hi), hv]
    · rw [List.getElem?_set_ne (Ne.symm e), map_at f hi, h i hi e]
  · rw [List.getElem?_eq_none (by simpa using hi), List.getElem?_eq_none (by simpa using hi)]
theorem range_same {n : Nat} {f g : Nat → Int} (h : ∀ j, j < n → g j = f j) : (List.range n).map g = (List.range n).map f := List.map_congr_left fun j hj => h j (List.mem_range.1 hj)
section
variable {p : ProgD} {m m' : Nat → Int} {told told' : List Int}
theorem flM_same {i : Nat} (h0 : i = 0 → ∀ k, k < p.threads.length → m' (1 + k * 6 + 1) = m (1 + k * 6 + 1)) (h1 : i = 1 → ∀ k, k < p.threads.length → m' (1 + k * 6) = m (1 + k * 6))
    (h2 : i = 2 → ∀ j, j < p.vars.toNat → m' (37 + j) = m (37 + j)) (h3 : i = 3 → ∀ j, j < p.atoms.toNat → m' (45 + j) = m (45 + j))
    (h4 : i = 4 → ∀ j, j < p.locks.toNat → m' (49 + j * 2) = m (49 + j * 2) ∧ m' (49 + j * 2 + 1) = m (49 + j * 2 + 1)) (h5 : i = 5 → ∀ j, j < p.chans.length → m' (57 + j * 6 + 5) = m (57 + j * 6 + 5))
    (h6 : i = 6 → ∀ j, j < p.groups.toNat → m' (81 + j) = m (81 + j)) (h7 : i = 7 → ∀ j, j < p.onces.toNat → m' (85 + j) = m (85 + j)) (h8 : i = 8 → told' = told)
    (h9 : 9 ≤ i → i < 15 → i < 9 + p.threads.length → ∀ r, r < 4 → m' (rg (i - 9) r) = m (rg (i - 9) r))
    (h15 : 15 ≤ i → i < 15 + p.chans.length → m' (57 + (i - 15) * 6 + 3) = m (57 + (i - 15) * 6 + 3) ∧ ∀ j, j < (m (57 + (i - 15) * 6 + 3)).toNat → m' (57 + (i - 15) * 6 + j) = m (57 + (i - 15) * 6 + j)) :
    flM p m' told' i = flM p m told i := by
  unfold flM
  by_cases c0 : i = 0
  · rw [if_pos c0, if_pos c0]; exact range_same (h0 c0)
  rw [if_neg c0, if_neg c0]
  by_cases c1 : i = 1
  · rw [if_pos c1, if_pos c1]; exact range_same fun j hj => by rw [h1 c1 j hj]
  rw [if_neg c1, if_neg c1]
  by_cases c2 : i = 2
  · rw [if_pos c2, if_pos c2]; exact range_same (h2 c2)
  rw [if_neg c2, if_neg c2]
  by_cases c3 : i = 3
  · rw [if_pos c3, if_pos c3]; exact range_same (h3 c3)
  rw [if_neg c3, if_neg c3]
  by_cases c4 : i = 4
  · rw [if_pos c4, if_pos c4]; exact range_same fun j hj => by rw [(h4 c4 j hj).1, (h4 c4 j hj).2]
  rw [if_neg c4, if_neg c4]
  by_cases c5 : i = 5
  · rw [if_pos c5, if_pos c5]; exact range_same fun j hj => by rw [h5 c5 j hj]
  rw [if_neg c5, if_neg c5]
  by_cases c6 : i = 6
  · rw [if_pos c6, if_pos c6]; exact range_same (h6 c6)
  rw [if_neg c6, if_neg c6]
  by_cases c7 : i = 7
  · rw [if_pos c7, if_pos c7]; exact range_same (h7 c7)
  rw [if_neg c7, if_neg c7]
  by_cases c8 : i = 8
  · rw [if_pos c8, if_pos c8]; exact h8 c8
  rw [if_neg c8, if_neg c8]
  by_cases c15 : i < 15
  · rw [if_pos c15, if_pos c15]
    by_cases d : i < 9 + p.threads.length
    · rw [if_pos d, if_pos d]; exact range_same (h9 (by omega) c15 d)
    · rw [if_neg d, if_neg d]
  rw [if_neg c15, if_neg c15]
  by_cases d : i < 15 + p.chans.length
  · rw [if_pos d, if_pos d, (h15 (by omega) d).1]; exact range_same (h15 (by omega) d).2
  · rw [if_neg d, if_neg d]
/-- The sizes of a sound program, and rooms. -/
structure Sz (p : ProgD) (m : Nat → Int) : Prop where
  t : p.threads.length ≤ 6
  v : p.vars ≤ 8
  a : p.atoms ≤ 4
  l : p.locks ≤ 4
  c : p.chans.length ≤ 4
  g : p.groups ≤ 4
  o : p.onces ≤ 4
  q : ∀ c, c < 4 → 0 ≤ m (57 + c * 6 + 3) ∧ m (57 + c * 6 + 3) ≤ 3
/-- Rows but one. -/
theorem rows_but {t : Nat} {L : List Int} (ht : flM p m' told' t = L) (h : ∀ i, i ≠ t → flM p m' told' i = flM p m told i) : flM p m' told' = updF (flM p m told) t L := by
  funext i
  by_cases e : i = t
  · subst e; rw [updF_same, ht]
  · rw [updF_ne _ _ e, h i e]
theorem rows_all (h : ∀ i, flM p m' told' i = flM p m told i) : flM p m' told' = flM p m told := funext h
theorem up_pc (Z : Sz p m) {k : Nat} (hk : k < p.threads.length) (v : Int) : flM p (upd m (1 + k * 6 + 1) v) told = updF (flM p m told) 0 ((flM p m told 0).set k v) := by
  have := Z.t; have := Z.v; have := Z.a; have := Z.l; have := Z.c; have := Z.g; have := Z.o
  refine rows_but ?_ fun i hi => ?_
  · exact range_set (fun j hj e => upd_ne _ _ (by omega)) (upd_same _ _ _)
  · refine flM_same (fun e => absurd e hi) ?_ ?_ ?_ ?_ ?_ ?_ ?_ (fun _ => rfl) ?_ ?_ <;> intros
    all_goals first
      | exact ⟨upd_ne _ _ (by omega), upd_ne _ _ (by omega)⟩
      | exact ⟨upd_ne _ _ (by omega), fun j _ => upd_ne _ _ (by omega)⟩
      | exact upd_ne _ _ (by first | omega | (unfold rg; omega))
theorem up_began (Z : Sz p m) {k : Nat} (hk : k < p.threads.length) (v : Int) : flM p (upd m (1 + k * 6) v) told = updF (flM p m told) 1 ((flM p m told 1).set k (bitN (v == 1))) := by
  have := Z.t; have := Z.v; have := Z.a; have := Z.l; have := Z.c; have := Z.g; have := Z.o
  refine rows_but ?_ fun i hi => ?_
  · exact range_set (fun j hj e => by rw [upd_ne _ _ (by omega)]) (by rw [upd_same])
  · refine flM_same ?_ (fun e => absurd e hi) ?_ ?_ ?_ ?_ ?_ ?_ (fun _ => rfl) ?_ ?_ <;> intros
    all_goals first
      | exact ⟨upd_ne _ _ (by omega), upd_ne _ _ (by omega)⟩
      | exact ⟨upd_ne _ _ (by omega), fun j _ => upd_ne _ _ (by omega)⟩
      | exact upd_ne _ _ (by first | omega | (unfold rg; omega))
theorem up_reg (Z : Sz p m) {k a : Nat} (hk : k < p.threads.length) (ha : a < 4) (v : Int) : flM p (upd m (rg k a) v) told = updF (flM p m told) (9 + k) ((flM p m told (9 + k)).set a v) := by
  have := Z.t; have := Z.v; have := Z.a; have := Z.l; have := Z.c; have := Z.g; have := Z.o
  refine rows_but ?_ fun i hi => ?_
  · have e : ∀ m, flM p m told (9 + k) = (List.range 4).map fun r => m (rg k r) := fun m => by
      unfold flM
      rw [if_neg (by omega), if_neg (by omega), if_neg (by omega), if_neg (by omega), if_neg (by omega), if_neg (by omega), if_neg (by omega), if_neg (by omega), if_neg (by omega), if_pos (by omega), if_pos (by omega)]
      rw [show 9 + k - 9 = k by omega]
    rw [e, e]
    exact range_set (fun j hj e => upd_ne _ _ (by first | omega | (unfold rg; omega))) (upd_same _ _ _)
  · refine flM_same ?_ ?_ ?_ ?_ ?_ ?_ ?_ ?_ (fun _ => rfl) ?_ ?_ <;> intros
    all_goals first
      | exact ⟨upd_ne _ _ (by first | omega | (unfold rg; omega)), upd_ne _ _ (by first | omega | (unfold rg; omega))⟩
      | exact ⟨upd_ne _ _ (by first | omega | (unfold rg; omega)), fun j _ => upd_ne _ _ (by first | omega | (unfold rg; omega))⟩
      | exact upd_ne _ _ (by first | omega | (unfold rg; omega))
end
section
variable {p : ProgD} {m m' : Nat → Int} {told told' : List Int}
theorem up_var (Z : Sz p m) {A : Nat} (hA : A < p.vars.toNat) (v : Int) : flM p (upd m (37 + A) v) told = updF (flM p m told) 2 ((flM p m told 2).set A v) := by
  have := Z.t; have := Z.v; have := Z.a; have := Z.l; have := Z.c; have := Z.g; have := Z.o
  have hq := Z.q
  refine rows_but ?_ fun i hi => ?_
  · exact range_set (fun j hj e => upd_ne _ _ (by omega)) (upd_same _ _ _)
  · refine flM_same ?_ ?_ (fun e => absurd e hi) ?_ ?_ ?_ ?_ ?_ (fun _ => rfl) ?_ ?_ <;> intros
    all_goals first
      | exact ⟨upd_ne _ _ (by omega), upd_ne _ _ (by omega)⟩
      | (have hqi := hq (i - 15) (by omega); exact ⟨upd_ne _ _ (by omega), fun j _ => upd_ne _ _ (by omega)⟩)
      | exact upd_ne _ _ (by first | omega | (unfold rg; omega))
theorem up_atom (Z : Sz p m) {A : Nat} (hA : A < p.atoms.toNat) (v : Int) : flM p (upd m (45 + A) v) told = updF (flM p m told) 3 ((flM p m told 3).set A v) := by
  have := Z.t; have := Z.v; have := Z.a; have := Z.l; have := Z.c; have := Z.g; have := Z.o
  have hq := Z.q
  refine rows_but ?_ fun i hi => ?_
  · exact range_set (fun j hj e => upd_ne _ _ (by omega)) (upd_same _ _ _)
  · refine flM_same ?_ ?_ ?_ (fun e => absurd e hi) ?_ ?_ ?_ ?_ (fun _ => rfl) ?_ ?_ <;> intros
    all_goals first
      | exact ⟨upd_ne _ _ (by omega), upd_ne _ _ (by omega)⟩
      | (have hqi := hq (i - 15) (by omega); exact ⟨upd_ne _ _ (by omega), fun j _ => upd_ne _ _ (by omega)⟩)
      | exact upd_ne _ _ (by first | omega | (unfold rg; omega))
theorem up_lock (Z : Sz p m) {A : Nat} (hA : A < p.locks.toNat) : flM p (upd m (49 + A * 2) 1) told = updF (flM p m told) 4 ((flM p m told 4).set A (-1)) := by
  have := Z.t; have := Z.v; have := Z.a; have := Z.l; have := Z.c; have := Z.g; have := Z.o
  have hq := Z.q
  refine rows_but ?_ fun i hi => ?_
  · exact range_set (fun j hj e => by rw [upd_ne _ _ (by omega), upd_ne _ _ (by omega)]) (by rw [upd_same]; rfl)
  · refine flM_same ?_ ?_ ?_ ?_ (fun e => absurd e hi) ?_ ?_ ?_ (fun _ => rfl) ?_ ?_ <;> intros
    all_goals first
      | exact ⟨upd_ne _ _ (by omega), upd_ne _ _ (by omega)⟩
      | (have hqi := hq (i - 15) (by omega); exact ⟨upd_ne _ _ (by omega), fun j _ => upd_ne _ _ (by omega)⟩)
      | exact upd_ne _ _ (by first | omega | (unfold rg; omega))
theorem up_unlock (Z : Sz p m) {A : Nat} (hA : A < p.locks.toNat) (h0 : m (49 + A * 2 + 1) = 0) : flM p (upd m (49 + A * 2) 0) told = updF (flM p m told) 4 ((flM p m told 4).set A 0) := by
  have := Z.t; have := Z.v; have := Z.a; have := Z.l; have := Z.c; have := Z.g; have := Z.o
  have hq := Z.q
  refine rows_but ?_ fun i hi => ?_
  · exact range_set (fun j hj e => by rw [upd_ne _ _ (by omega), upd_ne _ _ (by omega)]) (by rw [upd_same, upd_ne _ _ (by omega), h0]; rfl)
  · refine flM_same ?_ ?_ ?_ ?_ (fun e => absurd e hi) ?_ ?_ ?_ (fun _ => rfl) ?_ ?_ <;> intros
    all_goals first
      | exact ⟨upd_ne _ _ (by omega), upd_ne _ _ (by omega)⟩
      | (have hqi := hq (i - 15) (by omega); exact ⟨upd_ne _ _ (by omega), fun j _ => upd_ne _ _ (by omega)⟩)
      | exact upd_ne _ _ (by first | omega | (unfold rg; omega))
theorem up_read (Z : Sz p m) {A : Nat} (hA : A < p.locks.toNat) (h0 : ¬ m (49 + A * 2) = 1) (v : Int) : flM p (upd m (49 + A * 2 + 1) v) told = updF (flM p m told) 4 ((flM p m told 4).set A v) := by
  have := Z.t; have := Z.v; have := Z.a; have := Z.l; have := Z.c; have := Z.g; have := Z.o
  have hq := Z.q
  refine rows_but ?_ fun i hi => ?_
  · exact range_set (fun j hj e => by rw [upd_ne _ _ (by omega), upd_ne _ _ (by omega)]) (by rw [upd_same, upd_ne _ _ (by omega), if_neg (by simpa using h0)])
  · refine flM_same ?_ ?_ ?_ ?_ (fun e => absurd e hi) ?_ ?_ ?_ (fun _ => rfl) ?_ ?_ <;> intros
    all_goals first
      | exact ⟨upd_ne _ _ (by omega), upd_ne _ _ (by omega)⟩
      | (have hqi := hq (i - 15) (by omega); exact ⟨upd_ne _ _ (by omega), fun j _ => upd_ne _ _ (by omega)⟩)
      | exact upd_ne _ _ (by first | omega | (unfold rg; omega))
theorem up_group (Z : Sz p m) {A : Nat} (hA : A < p.groups.toNat) (v : Int) : flM p (upd m (81 + A) v) told = updF (flM p m told) 6 ((flM p m told 6).set A v) := by
  have := Z.t; have := Z.v; have := Z.a; have := Z.l; have := Z.c; have := Z.g; have := Z.o
  have hq := Z.q
  refine rows_but ?_ fun i hi => ?_
  · exact range_set (fun j hj e => upd_ne _ _ (by omega)) (upd_same _ _ _)
  · refine flM_same ?_ ?_ ?_ ?_ ?_ ?_ (fun e => absurd e hi) ?_ (fun _ => rfl) ?_ ?_ <;> intros
    all_goals first
      | exact ⟨upd_ne _ _ (by omega), upd_ne _ _ (by omega)⟩
      | (have hqi := hq (i - 15) (by omega); exact ⟨upd_ne _ _ (by omega), fun j _ => upd_ne _ _ (by omega)⟩)
      | exact upd_ne _ _ (by first | omega | (unfold rg; omega))
theorem up_once (Z : Sz p m) {A : Nat} (hA : A < p.onces.toNat) (v : Int) : flM p (upd m (85 + A) v) told = updF (flM p m told) 7 ((flM p m told 7).set A v) := by
  have := Z.t; have := Z.v; have := Z.a; have := Z.l; have := Z.c; have := Z.g; have := Z.o
  have hq := Z.q
  refine rows_but ?_ fun i hi => ?_
  · exact range_set (fun j hj e => upd_ne _ _ (by omega)) (upd_same _ _ _)
  · refine flM_same ?_ ?_ ?_ ?_ ?_ ?_ ?_ (fun e => absurd e hi) (fun _ => rfl) ?_ ?_ <;> intros
    all_goals first
      | exact ⟨upd_ne _ _ (by omega), upd_ne _ _ (by omega)⟩
      | (have hqi := hq (i - 15) (by omega); exact ⟨upd_ne _ _ (by omega), fun j _ => upd_ne _ _ (by omega)⟩)
      | exact upd_ne _ _ (by first | omega | (unfold rg; omega))
theorem up_close (Z : Sz p m) {A : Nat} (hA : A < p.chans.length) : flM p (upd m (57 + A * 6 + 5) 1) told = updF (flM p m told) 5 ((flM p m told 5).set A 1) := by
  have := Z.t; have := Z.v; have := Z.a; have := Z.l; have := Z.c; have := Z.g; have := Z.o
  have hq := Z.q
  refine rows_but ?_ fun i hi => ?_
  · exact range_set (fun j hj e => by rw [upd_ne _ _ (by omega)]) (by rw [upd_same]; rfl)
  · refine flM_same ?_ ?_ ?_ ?_ ?_ (fun e => absurd e hi) ?_ ?_ (fun _ => rfl) ?_ ?_ <;> intros
    all_goals first
      | exact ⟨upd_ne _ _ (by omega), upd_ne _ _ (by omega)⟩
      | (have hqi := hq (i - 15) (by omega); exact ⟨upd_ne _ _ (by omega), fun j _ => upd_ne _ _ (by omega)⟩)
      | exact upd_ne _ _ (by first | omega | (unfold rg; omega))
theorem up_trap (Z : Sz p m) (v : Int) : flM p (upd m 90 v) told = flM p m told := by
  have := Z.t; have := Z.v; have := Z.a; have := Z.l; have := Z.c; have := Z.g; have := Z.o
  have hq := Z.q
  refine rows_all fun i => ?_
  refine flM_same ?_ ?_ ?_ ?_ ?_ ?_ ?_ ?_ (fun _ => rfl) ?_ ?_ <;> intros
  all_goals first
    | exact ⟨upd_ne _ _ (by omega), upd_ne _ _ (by omega)⟩
    | (have hqi := hq (i - 15) (by omega); exact ⟨upd_ne _ _ (by omega), fun j _ => upd_ne _ _ (by omega)⟩)
    | exact upd_ne _ _ (by first | omega | (unfold rg; omega))
theorem up_told : flM p m told' = updF (flM p m told) 8 told' := by
  refine rows_but rfl fun i hi => ?_
  refine flM_same (fun _ _ _ => rfl) (fun _ _ _ => rfl) (fun _ _ _ => rfl) (fun _ _ _ => rfl) (fun _ _ _ => ⟨rfl, rfl⟩) (fun _ _ _ => rfl) (fun _ _ _ => rfl) (fun _ _ _ => rfl) (fun e => absurd e hi) (fun _ _ _ _ _ => rfl) (fun _ _ => ⟨rfl, fun _ _ => rfl⟩)
theorem fl_reg (m : Nat → Int) {k : Nat} (hk : k < p.threads.length) (ht : p.threads.length ≤ 6) : flM p m told (9 + k) = (List.range 4).map fun r => m (rg k r) := by
  unfold flM
  rw [if_neg (by omega), if_neg (by omega), if_neg (by omega), if_neg (by omega), if_neg (by omega), if_neg (by omega), if_neg (by omega), if_neg (by omega), if_neg (by omega), if_pos (by omega), if_pos (by omega)]
  rw [show 9 + k - 9 = k by omega]
theorem fl_que (m : Nat → Int) {A : Nat} (hA : A < p.chans.length) : flM p m told (15 + A) = (List.range (m (57 + A * 6 + 3)).toNat).map fun j => m (57 + A * 6 + j) := by
  unfold flM
  rw [if_neg (by omega), if_neg (by omega), if_neg (by omega), if_neg (by omega), if_neg (by omega), if_neg (by omega), if_neg (by omega), if_neg (by omega), if_neg (by omega), if_neg (by omega), if_pos (by omega)]
  rw [show 15 + A - 15 = A by omega]
/-- Of a queue alone. -/
theorem up_queue (Z : Sz p m) (Z' : Sz p m') {A : Nat} (hA : A < p.chans.length) (h : ∀ i, ¬ (57 + A * 6 ≤ i ∧ i < 57 + A * 6 + 4) → m' i = m i) : flM p m' told = updF (flM p m told) (15 + A) (flM p m' told (15 + A)) := by
  have := Z.t; have := Z.v; have := Z.a; have := Z.l; have := Z.c; have := Z.g; have := Z.o
  refine rows_but rfl fun i hi => ?_
  refine flM_same ?_ ?_ ?_ ?_ ?_ ?_ ?_ ?_ (fun _ => rfl) ?_ ?_ <;> intros
  all_goals first
    | exact ⟨h _ (by omega), h _ (by omega)⟩
    | exact h _ (by first | omega | (unfold rg; omega))
    | (have hq := Z.q (i - 15) (by omega); exact ⟨h _ (by omega), fun j _ => h _ (by omega)⟩)
theorem up_push (Z : Sz p m) {A : Nat} (hA : A < p.chans.length) (v : Int) (hr : m (57 + A * 6 + 3) < 3) : flM p (upd (upd m (57 + A * 6 + (m (57 + A * 6 + 3)).toNat) v) (57 + A * 6 + 3) (m (57 + A * 6 + 3) + 1)) told = updF (flM p m told) (15 + A) (flM p m told (15 + A) ++ [v]) := by
  have := Z.t; have := Z.v; have := Z.a; have := Z.l; have := Z.c; have := Z.g; have := Z.o
  have hq := Z.q
  have hqA := hq A (by omega)
  have e3 : upd (upd m (57 + A * 6 + (m (57 + A * 6 + 3)).toNat) v) (57 + A * 6 + 3) (m (57 + A * 6 + 3) + 1) (57 + A * 6 + 3) = m (57 + A * 6 + 3) + 1 := upd_same _ _ _
  have Z' : Sz p (upd (upd m (57 + A * 6 + (m (57 + A * 6 + 3)).toNat) v) (57 + A * 6 + 3) (m (57 + A * 6 + 3) + 1)) := ⟨Z.t, Z.v, Z.a, Z.l, Z.c, Z.g, Z.o, fun c hc => by
    by_cases e : c = A
    · subst e; rw [e3]; omega
    · rw [upd_ne _ _ (by omega), upd_ne _ _ (by omega)]; exact hq c hc⟩
  rw [up_queue Z Z' hA (fun i hi => by rw [upd_ne _ _ (by omega), upd_ne _ _ (by omega)]), fl_que _ hA, fl_que _ hA, e3]
  congr 1
  rw [show (m (57 + A * 6 + 3) + 1).toNat = (m (57 + A * 6 + 3)).toNat + 1 by omega, List.range_succ, List.map_append]
  congr 1
  · exact range_same fun j hj => by rw [upd_ne _ _ (by omega), upd_ne _ _ (by omega)]
  · simp only [List.map_cons, List.map_nil]
    rw [upd_ne _ _ (by omega), upd_same]
/-- One is taken. -/
theorem up_pop (Z : Sz p m) {A : Nat} (hA : A < p.chans.length) (hr : 0 < m (57 + A * 6 + 3)) : (takeE m (57 + A * 6)).1 = m (57 + A * 6) ∧ (takeE m (57 + A * 6)).2.1 = 1 ∧ flM p (edM (takeE m (57 + A * 6)).2.2 m) told = updF (flM p m told) (15 + A) (flM p m told (15 + A)).tail := by
  have := Z.t; have := Z.v; have := Z.a; have := Z.l; have := Z.c; have := Z.g; have := Z.o
  have hq := Z.q
  have hqA := hq A (by omega)
  have key : ∀ m', (∀ i, ¬ (57 + A * 6 ≤ i ∧ i < 57 + A * 6 + 4) → m' i = m i) → m' (57 + A * 6 + 3) = m (57 + A * 6 + 3) - 1 → (∀ j, j < (m (57 + A * 6 + 3) - 1).toNat → m' (57 + A * 6 + j) = m (57 + A * 6 + (j + 1))) → flM p m' told = updF (flM p m told) (15 + A) (flM p m told (15 + A)).tail := by
    intro m' h1 h2 h3
    have Z' : Sz p m' := ⟨Z.t, Z.v, Z.a, Z.l, Z.c, Z.g, Z.o, fun c hc => by
      by_cases e : c = A
      · subst e; rw [h2]; omega
      · rw [h1 _ (by omega)]; exact hq c hc⟩
    rw [up_queue Z Z' hA h1, fl_que _ hA, fl_que _ hA, h2]
    congr 1
    rw [show (m (57 + A * 6 + 3)).toNat = (m (57 + A * 6 + 3) - 1).toNat + 1 by omega, List.range_succ_eq_map]
    simp only [List.map_cons, List.tail_cons, List.map_map]
    exact range_same fun j hj => h3 j hj
  rcases hc : (m (57 + A * 6 + 3)).toNat with _ | _ | _ | q
  · omega
  · unfold takeE; rw [hc]
    refine ⟨rfl, rfl, key _ (fun i hi => upd_ne _ _ (by omega)) ?_ (fun j hj => by omega)⟩
    show upd m (57 + A * 6 + 3) 0 (57 + A * 6 + 3) = _
    rw [upd_same]; omega
  · unfold takeE; rw [hc]
    refine ⟨rfl, rfl, key _ (fun i hi => ?_) ?_ (fun j hj => ?_)⟩
    · show upd (upd m (57 + A * 6) _) (57 + A * 6 + 3) 1 i = _
      rw [upd_ne _ _ (by omega), upd_ne _ _ (by omega)]
    · show upd (upd m (57 + A * 6) _) (57 + A * 6 + 3) 1 (57 + A * 6 + 3) = _
      rw [upd_same]; omega
    · obtain rfl : j = 0 := by omega
      show upd (upd m (57 + A * 6) _) (57 + A * 6 + 3) 1 (57 + A * 6 + 0) = _
      rw [upd_ne _ _ (by omega)]; exact upd_same _ _ _
  · obtain rfl : q = 0 := by omega
    unfold takeE; rw [hc]
    refine ⟨rfl, rfl, key _ (fun i hi => ?_) ?_ (fun j hj => ?_)⟩
    · show upd (upd (upd m (57 + A * 6) _) (57 + A * 6 + 1) _) (57 + A * 6 + 3) 2 i = _
      rw [upd_ne _ _ (by omega), upd_ne _ _ (by omega), upd_ne _ _ (by omega)]
    · show upd (upd (upd m (57 + A * 6) _) (57 + A * 6 + 1) _) (57 + A * 6 + 3) 2 (57 + A * 6 + 3) = _
      rw [upd_same]; omega
    · show upd (upd (upd m (57 + A * 6) _) (57 + A * 6 + 1) _) (57 + A * 6 + 3) 2 (57 + A * 6 + j) = _
      rw [upd_ne _ _ (by omega)]
      rcases Nat.lt_or_ge j 1 with h | h
      · obtain rfl : j = 0 := by omega
        rw [upd_ne _ _ (by omega)]; exact upd_same _ _ _
      · obtain rfl : j = 1 := by omega
        rw [upd_same]
/-- None is taken. -/
theorem takeE_no (Z : Sz p m) {A : Nat} (hA : A < p.chans.length) (hr : ¬ 0 < m (57 + A * 6 + 3)) : takeE m (57 + A * 6) = (0, if m (57 + A * 6 + 5) == 1 then 2 else 0, []) := by
  have := Z.c
  have hqA := Z.q A (by omega)
  unfold takeE
  have e : (m (57 + A * 6 + 3)).toNat = 0 := by omega
  simp only [e]
end
def LkI (m : Nat → Int) : Prop := ∀ l, l < 4 → m (49 + l * 2) = 1 → m (49 + l * 2 + 1) = 0
theorem do_lock {m : Nat → Int} {nt n k : Nat} {x : InsD} (hx : InsFit nt n x) (hk : k < 6) (hnt : nt ≤ 6) (hop : ¬ (13 ≤ x.op ∧ x.op ≤ 16))
    (hch : ∀ c, c < 4 → 0 ≤ m (57 + c * 6 + 3) ∧ m (57 + c * 6 + 3) ≤ m (57 + c * 6 + 4) ∧ m (57 + c * 6 + 4) ≤ 3) :
    ∀ i v, Ed.m i v ∈ (doE m k x).1 → ¬ (49 ≤ i ∧ i < 57) := by
  obtain ⟨op, a, y, z⟩ := x
  intro i v h hi
  match op, hx, hop with
  | 0, hx, _ => simp [doE, rg] at h
  | 1, hx, _ =>
    obtain ⟨A, rfl, hA⟩ : Fit 4 a := hx
    simp [doE, rg] at h
    omega
  | 2, hx, _ | 3, hx, _ | 4, hx, _ | 5, hx, _ | 6, hx, _ | 7, hx, _ | 17, hx, _ =>
    obtain ⟨A, rfl, hA⟩ : Fit 4 a := hx.1
    simp [doE, rg] at h
    omega
  | 8, hx, _ =>
    obtain ⟨A, rfl, hA⟩ : Fit 8 a := hx.1
    simp [doE, rg] at h
    omega
  | 18, hx, _ =>
    obtain ⟨A, rfl, hA⟩ : Fit 4 a := hx.1
    simp [doE, rg] at h
    omega
  | 9, hx, _ => simp [doE, rg] at h
  | 10, hx, _ => simp [doE, rg] at h; omega
  | 11, hx, _ =>
    simp only [doE, rg] at h
    split at h <;> simp at h
    omega
  | 12, hx, _ =>
    obtain ⟨A, rfl, hA⟩ : Fit nt a := hx
    simp [doE, rg] at h
    omega
  | 23, hx, _ =>
    obtain ⟨A, rfl, hA⟩ : Fit 4 a := hx
    simp [doE, rg] at h
    omega
  | 13, _, hop | 14, _, hop | 15, _, hop | 16, _, hop => exact hop ⟨by simp only; omega, by simp only; omega⟩
  | 24, hx, _ | 27, hx, _ =>
    obtain ⟨A, rfl, hA⟩ : Fit 4 a := hx
    simp only [doE, rg] at h
    split at h <;> simp at h
    all_goals omega
  | 19, hx, _ =>
    obtain ⟨⟨A, rfl, hA⟩, ⟨B, rfl, hB⟩, _⟩ : Fit 4 a ∧ Fit 4 y ∧ Fit 4 z := hx
    simp [doE, rg] at h
    omega
  | 20, hx, _ =>
    obtain ⟨⟨A, rfl, hA⟩, ⟨B, rfl, hB⟩⟩ : Fit 4 a ∧ Fit 4 y := hx
    simp only [doE, rg, Int.toNat_natCast] at h
    split at h <;> simp at h
    omega
  | 21, hx, _ | 22, hx, _ =>
    obtain ⟨A, rfl, hA⟩ : Fit 4 a := hx.1
    obtain ⟨B, rfl, hB⟩ : Fit 4 y := by first | exact hx.2 | exact hx.2.1
    obtain ⟨c1, c2, c3⟩ := hch B hB
    try obtain ⟨C, rfl, hC⟩ : Fit 4 z := hx.2.2
    simp only [doE, rg, takeE, Int.toNat_natCast] at h
    rcases hq : (m (57 + B * 6 + 3)).toNat with _ | _ | _ | q
    all_goals
      rw [hq] at h
      simp at h
      omega
  | 25, hx, _ => simp [doE, rg] at h
  | 26, hx, _ =>
    obtain ⟨⟨A, rfl, hA⟩, ⟨B, rfl, hB⟩⟩ : Fit 4 a ∧ Fit 4 y := hx
    simp only [doE, rg] at h
    split at h <;> simp at h
    all_goals omega
theorem lk_step {m : Nat → Int} {code : List (List InsD)} (I : Inv m code) (hl : code.length ≤ 6) (hL : LkI m) (k : Int) : LkI (stepM code m k) := by
  unfold stepM
  split
  · rename_i hc
    obtain ⟨j, x, rfl, hj, hx, hbl, _⟩ := canM_parts hc
    rw [Int.toNat_natCast, hx]
    rcases hq : code[j]? with _ | ck
    · simp [insM, hq] at hx
    have hx2 := hx
    simp only [insM, hq, Option.bind_some] at hx2
    have hf := I.fit j ck hq x (List.mem_of_getElem? hx2)
    show LkI (stepK m j x)
    unfold stepK
    generalize hm : upd m (1 + j * 6 + 1) (m (1 + j * 6 + 1) + 1) = m1
    have hfar : ∀ i, i ≠ 1 + j * 6 + 1 → m1 i = m i := fun i h => by rw [← hm]; exact upd_ne _ _ h
    have hch : ∀ c, c < 4 → 0 ≤ m1 (57 + c * 6 + 3) ∧ m1 (57 + c * 6 + 3) ≤ m1 (57 + c * 6 + 4) ∧ m1 (57 + c * 6 + 4) ≤ 3 := fun c hc => by
      rw [hfar _ (by omega), hfar _ (by omega)]; exact I.chan c hc
    have hb1 : blockedM m1 x = false := by rw [← hm, blocked_pc _ _ (by omega)]; exact hbl
    have hL1 : LkI m1 := fun l hl h => by rw [hfar _ (by omega)] at h ⊢; exact hL l hl h
    intro l hl4 h
    rw [upd_ne _ _ (by omega)] at h ⊢
    by_cases hop : 13 ≤ x.op ∧ x.op ≤ 16
    · obtain ⟨op, a, y, z⟩ := x
      have h4 : op = 13 ∨ op = 14 ∨ op = 15 ∨ op = 16 := by simp only at hop; omega
      rcases h4 with rfl | rfl | rfl | rfl
      · obtain ⟨A, rfl, hA⟩ : Fit 4 a := hf
        simp only [doE, edM, Int.toNat_natCast] at h ⊢
        rw [upd_ne _ _ (by omega)]
        by_cases e : l = A
        · subst e
          simp [blockedM] at hb1
          exact hb1.2
        · rw [upd_ne _ _ (by omega)] at h
          exact hL1 l hl4 h
      · obtain ⟨A, rfl, hA⟩ : Fit 4 a := hf
        simp only [doE, Int.toNat_natCast] at h ⊢
        split at h
        · rename_i hz
          rw [if_pos hz]
          simp only [edM] at h ⊢
          rw [upd_ne _ _ (by omega)]
          by_cases e : l = A
          · subst e; rw [upd_same] at h; omega
          · rw [upd_ne _ _ (by omega)] at h; exact hL1 l hl4 h
        · rename_i hz
          rw [if_neg hz]
          exact hL1 l hl4 h
      · obtain ⟨A, rfl, hA⟩ : Fit 4 a := hf
        simp only [doE, edM, Int.toNat_natCast] at h ⊢
        rw [upd_ne _ _ (by omega)] at h
        by_cases e : l = A
        · subst e
          simp [blockedM] at hb1
          exact absurd h hb1
        · rw [upd_ne _ _ (by omega)]
          exact hL1 l hl4 h
      · obtain ⟨A, rfl, hA⟩ : Fit 4 a := hf
        simp only [doE, Int.toNat_natCast] at h ⊢
        split at h
        · rename_i hz
          rw [if_pos hz]
          exact hL1 l hl4 h
        · rename_i hz
          rw [if_neg hz]
          simp only [edM] at h ⊢
          rw [upd_ne _ _ (by omega)] at h
          by_cases e : l = A
          · subst e
            have := hL1 l hl4 h
            simp [this] at hz
          · rw [upd_ne _ _ (by omega)]
            exact hL1 l hl4 h
    · have key : ∀ t, 49 ≤ t ∧ t < 57 → edM (doE m1 j x).1 m1 t = m1 t := fun t ht => by
        rcases edM_in (doE m1 j x).1 (m := m1) (j := t) with h | ⟨v, h1, h2⟩
        · exact h
        · exact absurd ht (do_lock (k := j) hf (by omega) hl hop hch _ v h1)
      rw [key _ (by omega)] at h ⊢
      exact hL1 l hl4 h
  · exact hL
theorem lk_run {code : List (List InsD)} (hl6 : code.length ≤ 6) : ∀ (l : List Int) {m : Nat → Int}, Inv m code → LkI m → LkI (runM code l m)
  | [], m, I, h => h
  | k :: l, m, I, h => lk_run hl6 l (inv_stepM I hl6 k) (lk_step I hl6 h k)
theorem lk_new (chans : List Int) : LkI (newM chans) := fun l hl h => by rw [newM_zero _ (by omega) (by omega)]
/-- The event, as a step lays it. -/
def evA (k q : Int) (op : Nat) (es : List Ed) : Array Value := #[.int .i64 k, .int .i64 q, .int .u8 op, .int .i64 (edE es (fun _ => 0) 3), .int .i64 (edE es (fun _ => 0) 4), .int .i64 (edE es (fun _ => 0) 5)]
/-- What sync is to hand out. -/
def Ok4 (X : Nat → Prop) (u w' : World) (e : Ending) (p : ProgD) (ca : Option Addr) (ccap : Nat) (ta : Option Addr) (tcap : Nat) (k : Nat) (q : Int) (m : Nat → Int) (told : List Int) (x : InsD) : Prop :=
  Rs4 X u w' e p ca ccap ta tcap p.threads.length p.chans.length (flM p (edM (doE m k x).1 m) (told ++ doT m k x)) (bitN (!(doE m k x).2)) (evA k q x.op (doE m k x).1)
theorem ok4_of {X : Nat → Prop} {u w' : World} {e : Ending} {p : ProgD} {ca : Option Addr} {ccap : Nat} {ta : Option Addr} {tcap : Nat} {k : Nat} {q : Int} {m : Nat → Int} {told : List Int} {x : InsD} {fl : Nat → List Int} {tp : Int} {E : Array Value} (h : Rs4 X u w' e p ca ccap ta tcap p.threads.length p.chans.length fl tp E) (h1 : flM p (edM (doE m k x).1 m) (told ++ doT m k x) = fl) (h2 : bitN (!(doE m k x).2) = tp) (h3 : evA k q x.op (doE m k x).1 = E) : Ok4 X u w' e p ca ccap ta tcap k q m told x := by
  unfold Ok4; rw [h1, h2, h3]; exact h
theorem reg4 {p : ProgD} {m : Nat → Int} {told : List Int} (Z : Sz p m) {k : Nat} (hk : k < p.threads.length) : (flM p m told (9 + k)).length = 4 := by rw [fl_reg m hk Z.t]; simp
theorem reg_at {p : ProgD} {m : Nat → Int} {told : List Int} (Z : Sz p m) {k r : Nat} (hk : k < p.threads.length) (hr : r < 4) : (flM p m told (9 + k))[r]? = some (m (rg k r)) := by rw [fl_reg m hk Z.t]; exact map_at _ hr
section
variable (S : Array Value) (p : ProgD) (ca : Option Addr) (ccap : Nat) (ta : Option Addr) (tcap : Nat) (fv : Nat → Value) (rs qs : Value) (m : Nat → Int) (told : List Int) (B : Nat) (u : World) (hS : SV S p ca ccap ta tcap fv rs qs 0) (hO : Ow u B fv rs qs (flM p m told) p.threads.length p.chans.length) (Z : Sz p m) (k : Nat) (hk : k < p.threads.length) (q : Int) (n0 : Nat)
include hS hO Z hk
abbrev syncC (S : Array Value) (p : ProgD) (ca : Option Addr) (ccap : Nat) (ta : Option Addr) (tcap : Nat) (fv : Nat → Value) (rs qs : Value) (m : Nat → Int) (told : List Int) (u : World) (k : Nat) (q : Int) (x : InsD) : Prop :=
  Calls Try.prog 59 #[.agg S, .int .i64 k, .agg #[.int .u8 x.op, .int .i64 x.a, .int .i64 x.b, .int .i64 x.c], .agg #[.int .i64 k, .int .i64 q, .int .u8 x.op, .int .i64 0, .int .i64 0, .int .i64 0]] u fun e w' => Ok4 (Held fv rs qs) u w' e p ca ccap ta tcap k q m told x
theorem syncM_0 (a b C : Int) : syncC S p ca ccap ta tcap fv rs qs m told u k q ⟨0, a, b, C⟩ :=
  (sync_0 S p ca ccap ta tcap fv rs qs (flM p m told) _ _ B u hS hO Z.t Z.c k hk (reg4 Z hk) q 0 a b C).mono fun e w' h => ok4_of h (by rw [show doT m k ⟨0, a, b, C⟩ = [] from rfl, List.append_nil]; rfl) rfl rfl
theorem syncM_25 (a b C : Int) : syncC S p ca ccap ta tcap fv rs qs m told u k q ⟨25, a, b, C⟩ :=
  (sync_25 S p ca ccap ta tcap fv rs qs (flM p m told) _ _ B u hS hO Z.t Z.c k hk (reg4 Z hk) q 0 a b C).mono fun e w' h => ok4_of h (by rw [show doT m k ⟨25, a, b, C⟩ = [] from rfl, List.append_nil]; rfl) rfl rfl
theorem syncM_12 (A : Nat) (hA : A < p.threads.length) (b C : Int) : syncC S p ca ccap ta tcap fv rs qs m told u k q ⟨12, A, b, C⟩ :=
  (sync_12 S p ca ccap ta tcap fv rs qs (flM p m told) _ _ B u hS hO Z.t Z.c k hk (reg4 Z hk) q 0 A b C (bitN (m (1 + A * 6) == 1)) (map_at (fun k => bitN (m (1 + k * 6) == 1)) hA)).mono fun e w' h => ok4_of h (by rw [show doT m k ⟨12, A, b, C⟩ = [] from rfl, List.append_nil]; exact up_began Z hA 1) (by show bitN (!!(m (1 + A * 6) == 1)) = _; rw [Bool.not_not]) rfl
theorem syncM_13 (A : Nat) (hA : A < p.locks.toNat) (b C : Int) : syncC S p ca ccap ta tcap fv rs qs m told u k q ⟨13, A, b, C⟩ :=
  (sync_13 S p ca ccap ta tcap fv rs qs (flM p m told) _ _ B u hS hO Z.t Z.c k hk (reg4 Z hk) q 0 A b C _ (map_at (fun j => if m (49 + j * 2) == 1 then -1 else m (49 + j * 2 + 1)) hA)).mono fun e w' h => ok4_of h (by rw [show doT m k ⟨13, A, b, C⟩ = [] from rfl, List.append_nil]; exact up_lock Z hA) rfl rfl
theorem syncM_23 (A : Nat) (hA : A < p.chans.length) (b C : Int) : syncC S p ca ccap ta tcap fv rs qs m told u k q ⟨23, A, b, C⟩ :=
  (sync_23 S p ca ccap ta tcap fv rs qs (flM p m told) _ _ B u hS hO Z.t Z.c k hk (reg4 Z hk) q 0 A b C (bitN (m (57 + A * 6 + 5) == 1)) (map_at (fun j => bitN (m (57 + j * 6 + 5) == 1)) hA)).mono fun e w' h => ok4_of h (by rw [show doT m k ⟨23, A, b, C⟩ = [] from rfl, List.append_nil]; exact up_close Z hA) (by show bitN (!!(m (57 + A * 6 + 5) == 1)) = _; rw [Bool.not_not]) rfl
theorem syncM_18 (A b : Nat) (hA : A < p.atoms.toNat) (hb : b < 4) (C : Int) : syncC S p ca ccap ta tcap fv rs qs m told u k q ⟨18, A, b, C⟩ :=
  (sync_18 S p ca ccap ta tcap fv rs qs (flM p m told) _ _ B u hS hO Z.t Z.c k hk (reg4 Z hk) q 0 A b C (m (45 + A)) (m (rg k b)) (map_at (fun j => m (45 + j)) hA) hb (reg_at Z hk hb)).mono fun e w' h => ok4_of h (by rw [show doT m k ⟨18, A, b, C⟩ = [] from rfl, List.append_nil]; exact up_atom Z hA _) rfl rfl
theorem syncM_24 (A : Nat) (hA : A < p.groups.toNat) (b C : Int) : syncC S p ca ccap ta tcap fv rs qs m told u k q ⟨24, A, b, C⟩ := by
  have h6 : (flM p m told 6)[A]? = some (m (81 + A)) := map_at (fun j => m (81 + j)) hA
  by_cases hy : wrap64 (m (81 + A) + b) < 0
  · have e : doE m k ⟨24, A, b, C⟩ = ([.e 3 A, .e 4 b], false) := by show (if wrap64 (m (81 + A) + b) < 0 then _ else _) = _; rw [if_pos hy]
    refine (sync_24n S p ca ccap ta tcap fv rs qs (flM p m told) _ _ B u hS hO Z.t Z.c k hk (reg4 Z hk) q 0 A b C _ h6 hy).mono fun e' w' h => ok4_of h ?_ (by rw [e]; rfl) (by rw [e]; rfl)
    rw [show doT m k ⟨24, A, b, C⟩ = [] from rfl, List.append_nil, e]; rfl
  · have e : doE m k ⟨24, A, b, C⟩ = ([.e 3 A, .e 4 b, .m (81 + A) (wrap64 (m (81 + A) + b))], true) := by show (if wrap64 (m (81 + A) + b) < 0 then _ else _) = _; rw [if_neg hy]; rfl
    refine (sync_24y S p ca ccap ta tcap fv rs qs (flM p m told) _ _ B u hS hO Z.t Z.c k hk (reg4 Z hk) q 0 A b C _ h6 hy).mono fun e' w' h => ok4_of h ?_ (by rw [e]; rfl) (by rw [e]; rfl)
    rw [show doT m k ⟨24, A, b, C⟩ = [] from rfl, List.append_nil, e]; exact up_group Z hA _
theorem syncM_27 (A : Nat) (hA : A < p.onces.toNat) (b C : Int) : syncC S p ca ccap ta tcap fv rs qs m told u k q ⟨27, A, b, C⟩ := by
  have h7 : (flM p m told 7)[A]? = some (m (85 + A)) := map_at (fun j => m (85 + j)) hA
  by_cases hy : m (85 + A) = 1
  · have e : doE m k ⟨27, A, b, C⟩ = ([.e 3 A, .m (85 + A) 2], true) := by show (if m (85 + A) == 1 then _ else _) = _; rw [if_pos (by simpa using hy)]; rfl
    refine (sync_27y S p ca ccap ta tcap fv rs qs (flM p m told) _ _ B u hS hO Z.t Z.c k hk (reg4 Z hk) q 0 A b C _ h7 hy).mono fun e' w' h => ok4_of h ?_ (by rw [e]; rfl) (by rw [e]; rfl)
    rw [show doT m k ⟨27, A, b, C⟩ = [] from rfl, List.append_nil, e]; exact up_once Z hA _
  · have e : doE m k ⟨27, A, b, C⟩ = ([.e 3 A], false) := by show (if m (85 + A) == 1 then _ else _) = _; rw [if_neg (by simpa using hy)]
    refine (sync_27n S p ca ccap ta tcap fv rs qs (flM p m told) _ _ B u hS hO Z.t Z.c k hk (reg4 Z hk) q 0 A b C _ h7 hy).mono fun e' w' h => ok4_of h ?_ (by rw [e]; rfl) (by rw [e]; rfl)
    rw [show doT m k ⟨27, A, b, C⟩ = [] from rfl, List.append_nil, e]; rfl
end
theorem updF_comm {α : Type} {f : Nat → α} {i j : Nat} {x y : α} (h : i ≠ j) : updF (updF f i x) j y = updF (updF f j y) i x := by
  funext t
  unfold updF
  by_cases h1 : t = j
  · subst h1; rw [if_pos rfl, if_neg (Ne.symm h), if_pos rfl]
  · rw [if_neg h1]
    by_cases h2 : t = i
    · rw [if_pos h2, if_pos h2]
    · rw [if_neg h2, if_neg h2, if_neg h1]
theorem Sz.upd {p : ProgD} {m : Nat → Int} (Z : Sz p m) {i : Nat} (v : Int) (h : ¬ (57 ≤ i ∧ i < 81)) : Sz p (upd m i v) := ⟨Z.t, Z.v, Z.a, Z.l, Z.c, Z.g, Z.o, fun c hc => by rw [upd_ne _ _ (by omega)]; exact Z.q c hc⟩
section
variable (S : Array Value) (p : ProgD) (ca : Option Addr) (ccap : Nat) (ta : Option Addr) (tcap : Nat) (fv : Nat → Value) (rs qs : Value) (m : Nat → Int) (told : List Int) (B : Nat) (u : World) (hS : SV S p ca ccap ta tcap fv rs qs 0) (hO : Ow u B fv rs qs (flM p m told) p.threads.length p.chans.length) (Z : Sz p m) (k : Nat) (hk : k < p.threads.length) (q : Int) (n0 : Nat)
include hS hO Z hk
theorem syncM_14 (A : Nat) (hA : A < p.locks.toNat) (b C : Int) (hL : LkI m) (hR : ∀ l, l < 4 → 0 ≤ m (49 + l * 2 + 1)) : syncC S p ca ccap ta tcap fv rs qs m told u k q ⟨14, A, b, C⟩ := by
  have hl := Z.l
  have h4 : (flM p m told 4)[A]? = some (if m (49 + A * 2) == 1 then -1 else m (49 + A * 2 + 1)) := map_at (fun j => if m (49 + j * 2) == 1 then -1 else m (49 + j * 2 + 1)) hA
  by_cases hy : m (49 + A * 2) = 1
  · have e : doE m k ⟨14, A, b, C⟩ = ([.e 3 A, .m (49 + A * 2) 0], true) := by show (if m (49 + A * 2) == 1 then _ else _) = _; rw [if_pos (by simpa using hy)]; rfl
    rw [if_pos (by simpa using hy)] at h4
    refine (sync_14y S p ca ccap ta tcap fv rs qs (flM p m told) _ _ B u hS hO Z.t Z.c k hk (reg4 Z hk) q 0 A b C _ h4 rfl).mono fun e' w' h => ok4_of h ?_ (by rw [e]; rfl) (by rw [e]; rfl)
    rw [show doT m k ⟨14, A, b, C⟩ = [] from rfl, List.append_nil, e]; exact up_unlock Z hA (hL A (by omega) hy)
  · have e : doE m k ⟨14, A, b, C⟩ = ([.e 3 A], false) := by show (if m (49 + A * 2) == 1 then _ else _) = _; rw [if_neg (by simpa using hy)]
    rw [if_neg (by simpa using hy)] at h4
    have := hR A (by omega)
    refine (sync_14n S p ca ccap ta tcap fv rs qs (flM p m told) _ _ B u hS hO Z.t Z.c k hk (reg4 Z hk) q 0 A b C _ h4 (by omega)).mono fun e' w' h => ok4_of h ?_ (by rw [e]; rfl) (by rw [e]; rfl)
    rw [show doT m k ⟨14, A, b, C⟩ = [] from rfl, List.append_nil, e]; rfl
theorem syncM_15 (A : Nat) (hA : A < p.locks.toNat) (b C : Int) (hy : ¬ m (49 + A * 2) = 1) : syncC S p ca ccap ta tcap fv rs qs m told u k q ⟨15, A, b, C⟩ := by
  have h4 : (flM p m told 4)[A]? = some (if m (49 + A * 2) == 1 then -1 else m (49 + A * 2 + 1)) := map_at (fun j => if m (49 + j * 2) == 1 then -1 else m (49 + j * 2 + 1)) hA
  rw [if_neg (by simpa using hy)] at h4
  refine (sync_15 S p ca ccap ta tcap fv rs qs (flM p m told) _ _ B u hS hO Z.t Z.c k hk (reg4 Z hk) q 0 A b C _ h4).mono fun e' w' h => ok4_of h ?_ rfl rfl
  rw [show doT m k ⟨15, A, b, C⟩ = [] from rfl, List.append_nil]; exact up_read Z hA hy _
theorem syncM_16 (A : Nat) (hA : A < p.locks.toNat) (b C : Int) (hL : LkI m) (hR : ∀ l, l < 4 → 0 ≤ m (49 + l * 2 + 1)) : syncC S p ca ccap ta tcap fv rs qs m told u k q ⟨16, A, b, C⟩ := by
  have hl := Z.l
  have h4 : (flM p m told 4)[A]? = some (if m (49 + A * 2) == 1 then -1 else m (49 + A * 2 + 1)) := map_at (fun j => if m (49 + j * 2) == 1 then -1 else m (49 + j * 2 + 1)) hA
  have hr := hR A (by omega)
  by_cases hy : m (49 + A * 2 + 1) = 0
  · have e : doE m k ⟨16, A, b, C⟩ = ([.e 3 A], false) := by show (if m (49 + A * 2 + 1) == 0 then _ else _) = _; rw [if_pos (by simpa using hy)]
    refine (sync_16n S p ca ccap ta tcap fv rs qs (flM p m told) _ _ B u hS hO Z.t Z.c k hk (reg4 Z hk) q 0 A b C _ h4 ?_).mono fun e' w' h => ok4_of h ?_ (by rw [e]; rfl) (by rw [e]; rfl)
    · by_cases h2 : m (49 + A * 2) = 1
      · rw [if_pos (by simpa using h2)]; omega
      · rw [if_neg (by simpa using h2)]; omega
    · rw [show doT m k ⟨16, A, b, C⟩ = [] from rfl, List.append_nil, e]; rfl
  · have hn : ¬ m (49 + A * 2) = 1 := fun h => hy (hL A (by omega) h)
    have e : doE m k ⟨16, A, b, C⟩ = ([.e 3 A, .m (49 + A * 2 + 1) (wrap64 (m (49 + A * 2 + 1) - 1))], true) := by show (if m (49 + A * 2 + 1) == 0 then _ else _) = _; rw [if_neg (by simpa using hy)]; rfl
    rw [if_neg (by simpa using hn)] at h4
    refine (sync_16y S p ca ccap ta tcap fv rs qs (flM p m told) _ _ B u hS hO Z.t Z.c k hk (reg4 Z hk) q 0 A b C _ h4 (by omega)).mono fun e' w' h => ok4_of h ?_ (by rw [e]; rfl) (by rw [e]; rfl)
    rw [show doT m k ⟨16, A, b, C⟩ = [] from rfl, List.append_nil, e]; exact up_read Z hA hn _
theorem syncM_20 (A b : Nat) (hA : A < p.chans.length) (hb : b < 4) (C : Int) (hr : m (57 + A * 6 + 5) = 1 ∨ m (57 + A * 6 + 3) < 3) : syncC S p ca ccap ta tcap fv rs qs m told u k q ⟨20, A, b, C⟩ := by
  have hc := Z.c
  have h5 : (flM p m told 5)[A]? = some (bitN (m (57 + A * 6 + 5) == 1)) := map_at (fun j => bitN (m (57 + j * 6 + 5) == 1)) hA
  have hqA := Z.q A (by omega)
  by_cases hy : m (57 + A * 6 + 5) = 1
  · have e : doE m k ⟨20, A, b, C⟩ = ([.e 3 A, .e 4 (m (rg k b))], false) := by show (if m (57 + A * 6 + 5) == 1 then _ else _) = _; rw [if_pos (by simpa using hy)]; rfl
    rw [show (m (57 + A * 6 + 5) == 1) = true by simpa using hy] at h5
    refine (sync_20n S p ca ccap ta tcap fv rs qs (flM p m told) _ _ B u hS hO Z.t Z.c k hk (reg4 Z hk) q 0 A b C _ (m (rg k b)) hb (reg_at Z hk hb) h5 (by decide)).mono fun e' w' h => ok4_of h ?_ (by rw [e]; rfl) (by rw [e]; rfl)
    rw [show doT m k ⟨20, A, b, C⟩ = [] from rfl, List.append_nil, e]; rfl
  · have e : doE m k ⟨20, A, b, C⟩ = ([.e 3 A, .e 4 (m (rg k b)), .m (57 + A * 6 + (m (57 + A * 6 + 3)).toNat) (m (rg k b)), .m (57 + A * 6 + 3) (m (57 + A * 6 + 3) + 1)], true) := by show (if m (57 + A * 6 + 5) == 1 then _ else _) = _; rw [if_neg (by simpa using hy)]; rfl
    rw [show (m (57 + A * 6 + 5) == 1) = false by simpa using hy] at h5
    refine (sync_20y S p ca ccap ta tcap fv rs qs (flM p m told) _ _ B u hS hO Z.t Z.c k hk (reg4 Z hk) q 0 A b C _ (m (rg k b)) hA hb (reg_at Z hk hb) h5 rfl (by rw [fl_que m hA]; simp; omega)).mono fun e' w' h => ok4_of h ?_ (by rw [e]; rfl) (by rw [e]; rfl)
    rw [show doT m k ⟨20, A, b, C⟩ = [] from rfl, List.append_nil, e]; exact up_push Z hA _ (by omega)
theorem syncM_17 (A b : Nat) (hA : A < 4) (hb : b < p.atoms.toNat) (C : Int) : syncC S p ca ccap ta tcap fv rs qs m told u k q ⟨17, A, b, C⟩ := by
  refine sync_t17 S p ca ccap ta tcap fv rs qs (flM p m told) _ _ B u hS hO Z.t Z.c k hk (reg4 Z hk) q 0 A b C _ _ _ rfl (by simp [evA, Value.oneCell']) fun v hOv => ?_
  refine (taken_17 S p ca ccap ta tcap fv rs qs (flM p m told) _ _ B v hS hOv Z.t Z.c k hk (reg4 Z hk) q A A b C (m (45 + b)) _ hA (reg_at Z hk hA) (map_at (fun j => m (45 + j)) hb)).mono fun e' w' h => ok4_of h ?_ rfl rfl
  rw [show doT m k ⟨17, A, b, C⟩ = [] from rfl, List.append_nil]; exact up_reg Z hk hA _
theorem syncM_19 (A b C : Nat) (hA : A < 4) (hb : b < p.atoms.toNat) (hC : C < 4) : syncC S p ca ccap ta tcap fv rs qs m told u k q ⟨19, A, b, C⟩ := by
  refine sync_t19 S p ca ccap ta tcap fv rs qs (flM p m told) _ _ B u hS hO Z.t Z.c k hk (reg4 Z hk) q 0 A b C _ _ _ rfl (by simp [evA, Value.oneCell']) fun v hOv => ?_
  refine (taken_19 S p ca ccap ta tcap fv rs qs (flM p m told) _ _ B v hS hOv Z.t Z.c k hk (reg4 Z hk) q A A b C (m (45 + b)) _ (m (rg k C)) hA hC (reg_at Z hk hA) (reg_at Z hk hC) (map_at (fun j => m (45 + j)) hb)).mono fun e' w' h => ok4_of h ?_ rfl rfl
  have ha := Z.a
  rw [show doT m k ⟨19, A, b, C⟩ = [] from rfl, List.append_nil, ← up_atom Z hb]; exact up_reg (Z.upd (i := 45 + b) _ (by omega)) hk hA _
theorem syncM_26 (A b : Nat) (hA : A < 4) (hb : b < p.onces.toNat) (C : Int) : syncC S p ca ccap ta tcap fv rs qs m told u k q ⟨26, A, b, C⟩ := by
  have ho := Z.o
  have h7 : (flM p m told 7)[b]? = some (m (85 + b)) := map_at (fun j => m (85 + j)) hb
  refine sync_t26 S p ca ccap ta tcap fv rs qs (flM p m told) _ _ B u hS hO Z.t Z.c k hk (reg4 Z hk) q 0 A b C _ _ _ rfl (by simp [evA, Value.oneCell']) fun v hOv => ?_
  by_cases hy : m (85 + b) = 0
  · have e : doE m k ⟨26, A, b, C⟩ = ([.m (85 + b) 1, .e 3 b, .e 5 1, .m (rg k A) 1], true) := by show (if m (85 + b) == 0 then _ else _) = _; rw [if_pos (by simpa using hy)]; rfl
    refine (taken_26y S p ca ccap ta tcap fv rs qs (flM p m told) _ _ B v hS hOv Z.t Z.c k hk (reg4 Z hk) q A A b C _ _ hA hy (reg_at Z hk hA) h7).mono fun e' w' h => ok4_of h ?_ (by rw [e]; rfl) (by rw [e]; rfl)
    rw [show doT m k ⟨26, A, b, C⟩ = [] from rfl, List.append_nil, e, ← up_once Z hb]; exact up_reg (Z.upd (i := 85 + b) _ (by omega)) hk hA _
  · have e : doE m k ⟨26, A, b, C⟩ = ([.e 3 b, .e 5 0, .m (rg k A) 0], true) := by show (if m (85 + b) == 0 then _ else _) = _; rw [if_neg (by simpa using hy)]; rfl
    refine (taken_26n S p ca ccap ta tcap fv rs qs (flM p m told) _ _ B v hS hOv Z.t Z.c k hk (reg4 Z hk) q A A b C _ _ hA hy (reg_at Z hk hA) h7).mono fun e' w' h => ok4_of h ?_ (by rw [e]; rfl) (by rw [e]; rfl)
    rw [show doT m k ⟨26, A, b, C⟩ = [] from rfl, List.append_nil, e]; exact up_reg Z hk hA _
end
theorem edM_append (l1 l2 : List Ed) : ∀ m, edM (l1 ++ l2) m = edM l2 (edM l1 m) := by
  induction l1 with
  | nil => intro m; rfl
  | cons x l ih => intro m; cases x <;> exact ih _
theorem edE_take (m : Nat → Int) (o : Nat) (l : List Ed) : ∀ f, edE ((takeE m o).2.2 ++ l) f = edE l f := by
  intro f
  unfold takeE
  split <;> rfl
theorem take_far {m : Nat → Int} {o i : Nat} (h : ¬ (o ≤ i ∧ i < o + 4)) : edM (takeE m o).2.2 m i = m i := by
  unfold takeE
  split
  · rfl
  · show upd _ _ _ i = _; rw [upd_ne _ _ (by omega)]
  · show upd (upd _ _ _) _ _ i = _; rw [upd_ne _ _ (by omega), upd_ne _ _ (by omega)]
  · show upd (upd (upd _ _ _) _ _) _ _ i = _; rw [upd_ne _ _ (by omega), upd_ne _ _ (by omega), upd_ne _ _ (by omega)]
theorem take_len {m : Nat → Int} {o : Nat} (h0 : 0 < m (o + 3)) (h3 : m (o + 3) ≤ 3) : edM (takeE m o).2.2 m (o + 3) = m (o + 3) - 1 := by
  unfold takeE
  rcases hq : (m (o + 3)).toNat with _ | _ | _ | q
  · omega
  · show upd _ _ _ (o + 3) = _; rw [upd_same]; omega
  · show upd (upd _ _ _) _ _ (o + 3) = _; rw [upd_same]; omega
  · show upd (upd (upd _ _ _) _ _) _ _ (o + 3) = _; rw [upd_same]; omega
section
variable (S : Array Value) (p : ProgD) (ca : Option Addr) (ccap : Nat) (ta : Option Addr) (tcap : Nat) (fv : Nat → Value) (rs qs : Value) (m : Nat → Int) (told : List Int) (B : Nat) (u : World) (hS : SV S p ca ccap ta tcap fv rs qs 0) (hO : Ow u B fv rs qs (flM p m told) p.threads.length p.chans.length) (Z : Sz p m) (k : Nat) (hk : k < p.threads.length) (q : Int) (n0 : Nat)
omit hS hO hk in
theorem Sz.take {p : ProgD} {m : Nat → Int} (Z : Sz p m) {b : Nat} (hb : b < p.chans.length) (h0 : 0 < m (57 + b * 6 + 3)) : Sz p (edM (takeE m (57 + b * 6)).2.2 m) := ⟨Z.t, Z.v, Z.a, Z.l, Z.c, Z.g, Z.o, fun c hc => by
  have := Z.c
  have hq := Z.q b (by omega)
  by_cases e : c = b
  · subst e; rw [take_len h0 hq.2]; omega
  · rw [take_far (by omega)]; exact Z.q c hc⟩
omit hS hO hk Z in
theorem que_cons {p : ProgD} {m : Nat → Int} {told : List Int} {b : Nat} (hb : b < p.chans.length) (h0 : 0 < m (57 + b * 6 + 3)) : flM p m told (15 + b) = m (57 + b * 6) :: (flM p m told (15 + b)).tail := by
  rw [fl_que m hb, show (m (57 + b * 6 + 3)).toNat = ((m (57 + b * 6 + 3)).toNat - 1) + 1 by omega, List.range_succ_eq_map]
  rfl
omit hS hO hk Z in
theorem que_nil {p : ProgD} {m : Nat → Int} {told : List Int} {b : Nat} (hb : b < p.chans.length) (h0 : ¬ 0 < m (57 + b * 6 + 3)) : flM p m told (15 + b) = [] := by
  rw [fl_que m hb, show (m (57 + b * 6 + 3)).toNat = 0 by omega]; rfl
include hS hO Z hk
theorem syncM_21 (A b : Nat) (hA : A < 4) (hb : b < p.chans.length) (C : Int) (hr : m (57 + b * 6 + 5) = 1 ∨ 0 < m (57 + b * 6 + 3)) : syncC S p ca ccap ta tcap fv rs qs m told u k q ⟨21, A, b, C⟩ := by
  have hc := Z.c
  have ht := Z.t
  have h5 : (flM p m told 5)[b]? = some (bitN (m (57 + b * 6 + 5) == 1)) := map_at (fun j => bitN (m (57 + j * 6 + 5) == 1)) hb
  refine sync_t21 S p ca ccap ta tcap fv rs qs (flM p m told) _ _ B u hS hO Z.t Z.c k hk (reg4 Z hk) q 0 A b C _ _ _ rfl (by simp [evA, Value.oneCell']) fun v hOv => ?_
  by_cases h0 : 0 < m (57 + b * 6 + 3)
  · obtain ⟨p1, p2, p3⟩ := up_pop (told := told) Z hb h0
    have e : doE m k ⟨21, A, b, C⟩ = ([.e 3 b] ++ (takeE m (57 + b * 6)).2.2 ++ [.e 4 (m (57 + b * 6)), .e 5 1, .m (rg k A) (m (57 + b * 6))], true) := by show (_ ++ _ ++ _, _) = _; rw [show ((b : Int).toNat) = b from rfl, p1, p2]; rfl
    refine (taken_21f S p ca ccap ta tcap fv rs qs (flM p m told) _ _ B v hS hOv Z.t Z.c k hk (reg4 Z hk) q A A b C _ _ _ hb hA (reg_at Z hk hA) (que_cons hb h0)).mono fun e' w' h => ok4_of h ?_ (by rw [e]; rfl) ?_
    · rw [show doT m k ⟨21, A, b, C⟩ = [] from rfl, List.append_nil, e]
      show flM p (edM ([.e 3 b] ++ (takeE m (57 + b * 6)).2.2 ++ [.e 4 (m (57 + b * 6)), .e 5 1, .m (rg k A) (m (57 + b * 6))]) m) told = _
      rw [edM_append, edM_append]
      show flM p (upd (edM (takeE m (57 + b * 6)).2.2 m) (rg k A) (m (57 + b * 6))) told = _
      rw [up_reg (Z.take hb h0) hk hA, p3, updF_ne _ _ (by omega)]
      exact (updF_comm (by omega)).symm
    · rw [e]
      show #[_, _, _, _, _, _] = _
      simp only [List.append_assoc, List.cons_append, List.nil_append, edE, edE_take]
      rfl
  · have hy : m (57 + b * 6 + 5) = 1 := by rcases hr with h | h; exact h; exact absurd h h0
    have t0 := takeE_no Z hb h0
    rw [if_pos (by simpa using hy)] at t0
    have e : doE m k ⟨21, A, b, C⟩ = ([.e 3 b, .e 4 0, .e 5 2, .m (rg k A) 0], true) := by show (_ ++ _ ++ _, _) = _; rw [show ((b : Int).toNat) = b from rfl, t0]; rfl
    rw [show (m (57 + b * 6 + 5) == 1) = true by simpa using hy] at h5
    refine (taken_21c S p ca ccap ta tcap fv rs qs (flM p m told) _ _ B v hS hOv Z.t Z.c k hk (reg4 Z hk) q A A b C _ _ hb hA (reg_at Z hk hA) (que_nil hb h0) h5 rfl).mono fun e' w' h => ok4_of h ?_ (by rw [e]; rfl) (by rw [e]; rfl)
    rw [show doT m k ⟨21, A, b, C⟩ = [] from rfl, List.append_nil, e]; exact up_reg Z hk hA _
theorem syncM_22 (A b C : Nat) (hA : A < 4) (hb : b < p.chans.length) (hC : C < 4) : syncC S p ca ccap ta tcap fv rs qs m told u k q ⟨22, A, b, C⟩ := by
  have hc := Z.c
  have ht := Z.t
  have h5 : (flM p m told 5)[b]? = some (bitN (m (57 + b * 6 + 5) == 1)) := map_at (fun j => bitN (m (57 + j * 6 + 5) == 1)) hb
  have hset : ∀ v, ∃ rC, ((flM p m told (9 + k)).set A v)[C]? = some rC := fun v => at_lt (by rw [List.length_set, reg4 Z hk]; exact hC)
  refine sync_t22 S p ca ccap ta tcap fv rs qs (flM p m told) _ _ B u hS hO Z.t Z.c k hk (reg4 Z hk) q 0 A b C _ _ _ rfl (by simp [evA, Value.oneCell']) fun v hOv => ?_
  by_cases h0 : 0 < m (57 + b * 6 + 3)
  · obtain ⟨p1, p2, p3⟩ := up_pop (told := told) Z hb h0
    obtain ⟨rC, hrC⟩ := hset (m (57 + b * 6))
    have e : doE m k ⟨22, A, b, C⟩ = ([.e 3 b] ++ (takeE m (57 + b * 6)).2.2 ++ [.e 4 (m (57 + b * 6)), .e 5 1, .m (rg k A) (m (57 + b * 6)), .m (rg k C) 1], true) := by show (_ ++ _ ++ _, _) = _; rw [show ((b : Int).toNat) = b from rfl, p1, p2]; rfl
    refine (taken_22f S p ca ccap ta tcap fv rs qs (flM p m told) _ _ B v hS hOv Z.t Z.c k hk (reg4 Z hk) q A A b C _ _ _ hb hA (reg_at Z hk hA) hC rC hrC (que_cons hb h0)).mono fun e' w' h => ok4_of h ?_ (by rw [e]; rfl) ?_
    · rw [show doT m k ⟨22, A, b, C⟩ = [] from rfl, List.append_nil, e]
      show flM p (edM ([.e 3 b] ++ (takeE m (57 + b * 6)).2.2 ++ [.e 4 (m (57 + b * 6)), .e 5 1, .m (rg k A) (m (57 + b * 6)), .m (rg k C) 1]) m) told = _
      rw [edM_append, edM_append]
      show flM p (upd (upd (edM (takeE m (57 + b * 6)).2.2 m) (rg k A) (m (57 + b * 6))) (rg k C) 1) told = _
      rw [up_reg ((Z.take hb h0).upd (i := rg k A) _ (by unfold rg; omega)) hk hC, up_reg (Z.take hb h0) hk hA, p3, updF_ne (flM p m told) _ (show 9 + k ≠ 15 + b by omega), updF_comm (show 15 + b ≠ 9 + k by omega), updF_ne (updF (flM p m told) (9 + k) _) _ (show 9 + k ≠ 15 + b by omega), updF_comm (show 15 + b ≠ 9 + k by omega)]
    · rw [e]
      show #[_, _, _, _, _, _] = _
      simp only [List.append_assoc, List.cons_append, List.nil_append, edE, edE_take]
      rfl
  · have t0 := takeE_no Z hb h0
    obtain ⟨rC, hrC⟩ := hset 0
    by_cases hy : m (57 + b * 6 + 5) = 1
    · rw [if_pos (by simpa using hy)] at t0
      have e : doE m k ⟨22, A, b, C⟩ = ([.e 3 b, .e 4 0, .e 5 2, .m (rg k A) 0, .m (rg k C) 0], true) := by show (_ ++ _ ++ _, _) = _; rw [show ((b : Int).toNat) = b from rfl, t0]; rfl
      rw [show (m (57 + b * 6 + 5) == 1) = true by simpa using hy] at h5
      refine (taken_22c S p ca ccap ta tcap fv rs qs (flM p m told) _ _ B v hS hOv Z.t Z.c k hk (reg4 Z hk) q A A b C _ _ hb hA (reg_at Z hk hA) hC rC hrC (que_nil hb h0) h5 rfl).mono fun e' w' h => ok4_of h ?_ (by rw [e]; rfl) (by rw [e]; rfl)
      rw [show doT m k ⟨22, A, b, C⟩ = [] from rfl, List.append_nil, e, ← up_reg Z hk hA]
      exact up_reg (Z.upd (i := rg k A) _ (by unfold rg; omega)) hk hC _
    · rw [if_neg (by simpa using hy)] at t0
      have e : doE m k ⟨22, A, b, C⟩ = ([.e 3 b, .e 4 0, .e 5 0, .m (rg k A) 0, .m (rg k C) 0], true) := by show (_ ++ _ ++ _, _) = _; rw [show ((b : Int).toNat) = b from rfl, t0]; rfl
      rw [show (m (57 + b * 6 + 5) == 1) = false by simpa using hy] at h5
      refine (taken_22e S p ca ccap ta tcap fv rs qs (flM p m told) _ _ B v hS hOv Z.t Z.c k hk (reg4 Z hk) q A A b C _ _ hb hA (reg_at Z hk hA) hC rC hrC (que_nil hb h0) h5 (by decide)).mono fun e' w' h => ok4_of h ?_ (by rw [e]; rfl) (by rw [e]; rfl)
      rw [show doT m k ⟨22, A, b, C⟩ = [] from rfl, List.append_nil, e, ← up_reg Z hk hA]
      exact up_reg (Z.upd (i := rg k A) _ (by unfold rg; omega)) hk hC _
end
theorem cell_row {u : World} {g t j : Nat} {cs : Array Value} {v : Value} (h : u.cell? ⟨t, j, none⟩ = some v) (hne : t ≠ g) : (u.setRow g cs).cell? ⟨t, j, none⟩ = some v := (World.cell?_of_block (a := ⟨t, j, none⟩) (setRow_other _ _ _ _ hne)).trans h
theorem ow_box {u u2 : World} {base : Nat} {fv : Nat → Value} {rs qs : Value} {fl : Nat → List Int} {n c : Nat} (h : Ow u base fv rs qs fl n c) (T : Touch (fun _ => False) u u2) : Ow u2 base fv rs qs fl n c := h.touch T fun _ _ _ _ z => z
theorem touch_box {u : World} {o : Obj} {r : Array Value} : Touch (fun _ => False) u (((u.alloc o).drew).setRow u.heap.size r) := ⟨rfl, rfl, rfl, by
  have hz : ∀ (v : World) (r : Nat) (S : Array Value), (v.setRow r S).heap.size = v.heap.size := fun v r S => by simp [World.setRow]
  rw [hz]; show u.heap.size ≤ (u.alloc o).heap.size; simp, fun k hk _ => (setRow_other _ _ _ _ (by omega)).trans (Below.heap_alloc _ _ _ hk)⟩
theorem Touch.seq {w u v : World} (h : Touch (fun _ => False) w u) (k : Touch (fun _ => False) u v) : Touch (fun _ => False) w v := h.trans k fun _ _ z => z
theorem Touch.cel {u v : World} (h : Touch (fun _ => False) u v) {t j : Nat} {x : Value} (hc : u.cell? ⟨t, j, none⟩ = some x) : v.cell? ⟨t, j, none⟩ = some x := (World.cell?_of_block (a := ⟨t, j, none⟩) (h.block t (cell_lt hc) fun z => z)).trans hc
theorem Touch.obj {u v : World} (h : Touch (fun _ => False) u v) {t : Nat} {o : Obj} (hc : u.heap[t]? = some o) : v.heap[t]? = some o := (h.block t (Array.getElem?_eq_some_iff.1 hc).1 fun z => z).trans hc
theorem touch_rows {w u v : World} {B sb ib eb r0 r1 : Nat} {S : Array Value} {x : InsD} {E : Array Value} {fv : Nat → Value} {rs qs : Value} {fl : Nat → List Int} {n c : Nat} (h : Sx (fun _ => False) w u B sb ib eb r0 r1 S x E fv rs qs fl n c) (T : Touch (Held fv rs qs) u v) : Touch (fun _ => False) w v := by
  have hu := h.bel.size
  refine ⟨T.os.trans h.bel.os, T.tape.trans h.bel.tape, T.output.trans h.bel.output, Nat.le_trans hu T.size, fun k hk hx => ?_⟩
  rw [T.block k (by omega) (fun hh => ?_)]
  · exact h.bel.block k hk hx
  · rcases h.lo.1 k hh with q | q
    · exact q
    · omega
theorem touch_fresh {w u : World} {B sb ib eb r0 r1 : Nat} {S : Array Value} {x : InsD} {E : Array Value} {fv : Nat → Value} {rs qs : Value} {fl : Nat → List Int} {n c : Nat} (h : Sx (fun _ => False) w u B sb ib eb r0 r1 S x E fv rs qs fl n c) {u3 u' : World} {S2 E2 : Array Value} (T : Touch (fun g => ¬ False ∧ g < w.heap.size) ((u3.setRow r0 S2).setRow r1 E2) u') : Touch (fun g => ¬ Held fv rs qs g ∧ g < u.heap.size) u3 u' := by
  have hz : ∀ (v : World) (r : Nat) (S : Array Value), (v.setRow r S).heap.size = v.heap.size := fun v r S => by simp [World.setRow]
  obtain ⟨Z0, z0, _⟩ := h.b0
  obtain ⟨Z1, z2, _⟩ := h.b1
  have l4 := (Array.getElem?_eq_some_iff.1 z0).1
  have l5 := (Array.getElem?_eq_some_iff.1 z2).1
  have hu := h.bel.size
  refine ⟨T.os, T.tape, T.output, by have := T.size; rwa [hz, hz] at this, fun k hk hx => ?_⟩
  have hk2 : ¬ (¬ False ∧ k < w.heap.size) := fun hh => hx ⟨fun hh2 => by
    rcases h.lo.1 k hh2 with q | q
    · exact q
    · omega, by omega⟩
  rw [T.block k (by rw [hz, hz]; exact hk) hk2]
  rw [setRow_other _ _ _ _ (fun e => ?_), setRow_other _ _ _ _ (fun e => ?_)]
  · exact hx ⟨fun hh => (h.ap k hh).2.2.2.1 e, by omega⟩
  · exact hx ⟨fun hh => (h.ap k hh).2.2.2.2 e, by omega⟩
theorem sx_step {w u : World} {B sb ib eb : Nat} {S : Array Value} {x : InsD} {E Z0 Z1 : Array Value} {fv : Nat → Value} {rs qs : Value} {fl : Nat → List Int} {n c : Nat} (hO : Ow u B fv rs qs fl n c) (hlt : ∀ g, Held fv rs qs g → g < sb) (h1 : w.heap.size + 1 + 1 < B) (h2 : B ≤ sb) (h3 : sb < ib) (h4 : ib < eb)
    (sB : u.heap[sb]? = some (.cells S 72)) (iB : u.heap[ib]? = some (.cells #[.int .u8 x.op, .int .i64 x.a, .int .i64 x.b, .int .i64 x.c] 49)) (eB : u.heap[eb]? = some (.cells E 45)) (b0 : u.heap[w.heap.size + 1]? = some (.cells Z0 72)) (z0 : Z0.size = 19) (b1 : u.heap[w.heap.size + 1 + 1]? = some (.cells Z1 45)) (z1 : Z1.size = 6) (T : Touch (fun _ => False) w u) :
    Sx (fun _ => False) w u B sb ib eb (w.heap.size + 1) (w.heap.size + 1 + 1) S x E fv rs qs fl n c := by
  have hge : ∀ g, Held fv rs qs g → B ≤ g := fun g h => by
    rcases h with ⟨i, h⟩ | h | h
    · exact (own_lt (hO.fam.row i) g h).2
    · exact (own_lt hO.regs g h).2
    · exact (own_lt hO.queue g h).2
  exact ⟨sB, iB, eB, ⟨Z0, b0, z0⟩, ⟨Z1, b1, z1⟩, hO, by omega, fun g hg => by have := hlt g hg; have := hge g hg; omega, ⟨fun g hg => .inr (by have := hge g hg; omega), by omega, by omega, by omega, by omega⟩, T⟩
end Go.Proofs.Ytnbpneaiibandaa
