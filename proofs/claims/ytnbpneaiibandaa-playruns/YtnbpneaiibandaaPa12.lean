/- What the laws of this seat stand on, part 12. -/
import Derived.Test.YtnbpneaiibandaaPa0
import Derived.Test.YtnbpneaiibandaaPa10
set_option linter.unusedVariables false
set_option linter.unusedSimpArgs false
set_option maxRecDepth 100000
set_option maxHeartbeats 40000000
namespace Go.Proofs.Ytnbpneaiibandaa
open Go.ChangeShapes Go.WideShapes Go.ChangeAt Go.RowKit
theorem sync_24y (S : Array Value) (p : ProgD) (ca : Option Addr) (ccap : Nat) (ta : Option Addr) (tcap : Nat) (fv : Nat → Value) (rs qs : Value) (fl : Nat → List Int) (n c : Nat) (B : Nat) (w : World) (hS : SV S p ca ccap ta tcap fv rs qs 0) (hO : Ow w B fv rs qs fl n c) (hn : n ≤ 6) (hc : c ≤ 4) (k : Nat) (hk : k < n) (hr4 : (fl (9 + k)).length = 4) (q o0 : Int) (A : Nat) (b C y : Int) (h6 : (fl 6)[A]? = some y) (hy : ¬ wrap64 (y + b) < 0) :
    Calls Try.prog 59 #[.agg S, .int .i64 k, .agg #[.int .u8 24, .int .i64 A, .int .i64 b, .int .i64 C], .agg #[.int .i64 k, .int .i64 q, .int .u8 24, .int .i64 o0, .int .i64 0, .int .i64 0]] w fun e w' => Rs4 (Held fv rs qs) w w' e p ca ccap ta tcap n c (updF fl (6) ((fl (6)).set A (wrap64 (y + b)))) 0 #[.int .i64 k, .int .i64 q, .int .u8 24, .int .i64 A, .int .i64 b, .int .i64 0] := by
  go_enter Try.func59, Try.ntmps59
  go_upto_region 1 with (fail)
  generalize hU : World.alloc (World.alloc (World.alloc (World.alloc (World.alloc w _) _) _) _) _ = U0
  have X0 : Hid (Sx (Held fv rs qs) w U0 B (w.heap.size) (w.heap.size + 1) (w.heap.size + 1 + 1) (w.heap.size + 1 + 1 + 1) (w.heap.size + 1 + 1 + 1 + 1) S ⟨24, A, b, C⟩ #[.int .i64 k, .int .i64 q, .int .u8 24, .int .i64 o0, .int .i64 0, .int .i64 0] fv rs qs (fl) n c) := Lib.hid (by rw [← hU]; exact sx_boxes (x := ⟨24, A, b, C⟩) hO rfl rfl)
  have hSV := Lib.hid hS
  clear hU hO
  obtain ⟨rz, hz⟩ := at_lt (l := fl (9 + k)) (k := 0) (by omega)
  obtain ⟨gR, capR, eR, _, ltR, cR⟩ := X0.out.ow.reg hk
  obtain ⟨gr, capr, er, _, _, _⟩ := X0.out.num hz
  rw [hr4] at er
  have EE9 := Lib.hid er
  have H9 : Hid (S[9]? = some (.slice (some ⟨gR, 0, none⟩) n capR)) := Lib.hid (by rw [← eR, hS.eq]; rfl)
  rw [er] at cR
  clear er eR
  obtain ⟨g6, cap6, e6, _, _, lt6⟩ := X0.out.num h6
  have EE6 := Lib.hid e6
  have H15 : Hid (S[15]? = some (.slice (some ⟨g6, 0, none⟩) (fl 6).length cap6)) := Lib.hid (by rw [← e6, hS.eq]; rfl)
  clear e6
  have s9 : U0.cell? ⟨w.heap.size, 9, none⟩ = some (.slice (some ⟨gR, 0, none⟩) n capR) := X0.out.s H9.out
  have cR0 := cR
  have i1 : U0.cell? ⟨w.heap.size + 1, 1, none⟩ = some (.int .i64 A) := X0.out.i.2.1
  have e3 : U0.cell? ⟨w.heap.size + 1 + 1, 3, none⟩ = some (.int .i64 o0) := X0.out.e rfl
  have ef3 : U0.frozen? ⟨w.heap.size + 1 + 1, 3, none⟩ = false := X0.out.eF 3
  go_upto_region 3 with (fail)
  generalize hU : World.setCell _ _ _ = U1
  have X1 : Hid (Sx (Held fv rs qs) w U1 B (w.heap.size) (w.heap.size + 1) (w.heap.size + 1 + 1) (w.heap.size + 1 + 1 + 1) (w.heap.size + 1 + 1 + 1 + 1) S ⟨24, A, b, C⟩ #[.int .i64 k, .int .i64 q, .int .u8 24, .int .i64 A, .int .i64 0, .int .i64 0] fv rs qs (fl) n c) := Lib.hid (by rw [← hU]; exact X0.out.ev 3 (.int .i64 A))
  clear hU X0
  clear s9 i1 e3 ef3
  clear cR cR0
  have hwr : IntKind.i64.wrap (y + b) = wrap64 (y + b) := by unfold wrap64; exact IntKind.wrap_i64 _
  have hy2 : decide (wrap64 (y + b) < 0) = false := by simpa using hy
  have i0 : U1.cell? ⟨w.heap.size + 1, 0, none⟩ = some (.int .u8 24) := X1.out.i.1
  have i2 : U1.cell? ⟨w.heap.size + 1, 2, none⟩ = some (.int .i64 b) := X1.out.i.2.2.1
  have e4 : U1.cell? ⟨w.heap.size + 1 + 1, 4, none⟩ = some (.int .i64 0) := X1.out.e rfl
  have ef4 : U1.frozen? ⟨w.heap.size + 1 + 1, 4, none⟩ = false := X1.out.eF 4
  go_upto_region 27 with (fail)
  generalize hU : World.setCell _ _ _ = U2
  have X2 : Hid (Sx (Held fv rs qs) w U2 B (w.heap.size) (w.heap.size + 1) (w.heap.size + 1 + 1) (w.heap.size + 1 + 1 + 1) (w.heap.size + 1 + 1 + 1 + 1) S ⟨24, A, b, C⟩ #[.int .i64 k, .int .i64 q, .int .u8 24, .int .i64 A, .int .i64 b, .int .i64 0] fv rs qs (fl) n c) := Lib.hid (by rw [← hU]; exact X1.out.ev 4 (.int .i64 b))
  clear hU X1
  clear i0 i2 e4 ef4
  have i1 : U2.cell? ⟨w.heap.size + 1, 1, none⟩ = some (.int .i64 A) := X2.out.i.2.1
  have i2 : U2.cell? ⟨w.heap.size + 1, 2, none⟩ = some (.int .i64 b) := X2.out.i.2.2.1
  have s15 : U2.cell? ⟨w.heap.size, 15, none⟩ = some (.slice (some ⟨g6, 0, none⟩) (fl 6).length cap6) := X2.out.s H15.out
  obtain ⟨c6, c6f⟩ := X2.out.at (j := A) (z := y) EE6.out (h6)
  have s18 : U2.cell? ⟨w.heap.size, 18, none⟩ = some (.int .i64 0) := X2.out.s (by rw [hSV.out.eq]; rfl)
  have sf18 := X2.out.sF 18
  refine wp_region_still_tail 12 (by kernel_rfl) (by kernel_rfl) ?_
  simp only [List.take_succ_cons, List.take_zero, List.drop_succ_cons, List.drop_zero]
  still_step
  still_step
  still_step
  still_step
  still_step
  still_step
  still_step
  still_step
  still_step
  still_step
  still_call (number4_still _ _)
  still_step
  refine wpStill_nil ?_
  go_upto_region 28 with (fail)
  try simp only [bitN, hy2, if_true, if_false, Bool.false_eq_true]
  obtain ⟨S1, eS⟩ : ∃ S1, S1 = S.setIfInBounds 18 (.int .i64 0) := ⟨_, rfl⟩
  have hSV1 : Hid (SV S1 p ca ccap ta tcap fv rs qs 0) := Lib.hid ⟨by rw [eS, hSV.out.eq]; rfl⟩
  have H9s : Hid (S1[9]? = some (.slice (some ⟨gR, 0, none⟩) n capR)) := Lib.hid (by rw [eS, Array.getElem?_setIfInBounds_ne (by decide)]; exact H9.out)
  have H15s : Hid (S1[15]? = some (.slice (some ⟨g6, 0, none⟩) (fl 6).length cap6)) := Lib.hid (by rw [eS, Array.getElem?_setIfInBounds_ne (by decide)]; exact H15.out)
  generalize hU : World.setCell _ _ _ = U3
  have X3 : Hid (Sx (Held fv rs qs) w U3 B (w.heap.size) (w.heap.size + 1) (w.heap.size + 1 + 1) (w.heap.size + 1 + 1 + 1) (w.heap.size + 1 + 1 + 1 + 1) S1 ⟨24, A, b, C⟩ #[.int .i64 k, .int .i64 q, .int .u8 24, .int .i64 A, .int .i64 b, .int .i64 0] fv rs qs (fl) n c) := Lib.hid (by rw [← hU]; exact (by rw [eS]; exact X2.out.sv 18 (.int .i64 0)))
  clear hU X2
  clear i1 i2 s15 c6 c6f s18 sf18
  clear eS
  generalize hD : World.drew U3 = U4
  have X4 : Hid (Sx (Held fv rs qs) w U4 B (w.heap.size) (w.heap.size + 1) (w.heap.size + 1 + 1) (w.heap.size + 1 + 1 + 1) (w.heap.size + 1 + 1 + 1 + 1) S1 ⟨24, A, b, C⟩ #[.int .i64 k, .int .i64 q, .int .u8 24, .int .i64 A, .int .i64 b, .int .i64 0] fv rs qs (fl) n c) := Lib.hid (by rw [← hD]; exact X3.out.drew)
  clear hD X3
  have s18 : U4.cell? ⟨w.heap.size, 18, none⟩ = some (.int .i64 0) := X4.out.s (by rw [hSV1.out.eq]; rfl)
  have sf18 := X4.out.sF 18
  have i1 : U4.cell? ⟨w.heap.size + 1, 1, none⟩ = some (.int .i64 A) := X4.out.i.2.1
  have i2 : U4.cell? ⟨w.heap.size + 1, 2, none⟩ = some (.int .i64 b) := X4.out.i.2.2.1
  have s15 : U4.cell? ⟨w.heap.size, 15, none⟩ = some (.slice (some ⟨g6, 0, none⟩) (fl 6).length cap6) := X4.out.s H15s.out
  obtain ⟨c6, c6f⟩ := X4.out.at (j := A) (z := y) EE6.out (h6)
  go_upto_region 29 with (fail)
  go_still_tail 10, (by kernel_rfl)
  go_wp2_with fail
  generalize hU : World.setCell _ _ _ = U5
  have X5 : Hid (Sx (Held fv rs qs) w U5 B (w.heap.size) (w.heap.size + 1) (w.heap.size + 1 + 1) (w.heap.size + 1 + 1 + 1) (w.heap.size + 1 + 1 + 1 + 1) S1 ⟨24, A, b, C⟩ #[.int .i64 k, .int .i64 q, .int .u8 24, .int .i64 A, .int .i64 b, .int .i64 0] fv rs qs (updF fl (6) ((fl (6)).set A (wrap64 (y + b)))) n c) := Lib.hid (by rw [← hU]; exact X4.out.put' EE6.out (lt6) (wrap64 (y + b)))
  clear hU X4
  clear s18 sf18 i1 i2 s15 c6 c6f
  have FX := Lib.hid (X5.out.fin)
  obtain ⟨Z0, z0, _⟩ := FX.out.b0
  obtain ⟨Z1, z2, _⟩ := FX.out.b1
  have ne1 := FX.out.ne.1
  have FZ0 := Lib.hid z0
  have FZ1 := Lib.hid z2
  have hS19 : Array.size S1 = 19 := by rw [hSV1.out.eq]; rfl
  have hSz : (Try.prog.info? 72).map (·.size) = some (Array.size S1) := by rw [hS19]; exact info_S
  have hS1 : Array.all S1 (·.oneCell') = true := sv_one hSV1.out (FX.out.rf _ (Touch.of_below (Below.refl _ _)))
  clear z0 z2
  go_wp2_with fail
  refine fin_sync FX.out rfl hS19 hS1 rfl (by simp [Value.oneCell']) rfl (fun _ _ _ _ _ h => h) rfl rfl rfl rfl ?_
  (try simp only [zz0, zz1, zz2, Act.put, zz3, zz4, zz5])
  go_wp2
  refine bodyPost_ret (v := .tuple #[.agg S1, .agg #[.int .i64 k, .int .i64 q, .int .u8 24, .int .i64 A, .int .i64 b, .int .i64 0], .bool true]) (results_two (p := 8) (q := 9) (u := 10) rfl _ _ (w.heap.size + 1 + 1 + 1) (w.heap.size + 1 + 1 + 1 + 1) 72 45 S1 #[.int .i64 k, .int .i64 q, .int .u8 24, .int .i64 A, .int .i64 b, .int .i64 0] (0, 0) (0, 0) _ _ rfl ((setRow_other _ _ _ _ ne1).trans (setRow_heap _ _ _ _ _ _ FZ0.out)) Try.underlying72 rfl hSz rfl (setRow_heap _ _ _ _ _ _ ((setRow_other _ _ _ _ (Ne.symm ne1)).trans FZ1.out)) Try.underlying45 rfl info_event) rfl ?_
  exact ⟨_, _, _, _, rfl, hSV1.out, fun u' T => FX.out.rf u' (touch_end T rfl rfl rfl rfl), touch_fin FX.out.bel FX.out.lo.1 FX.out.lo.2 rfl rfl rfl rfl⟩
theorem sync_24n (S : Array Value) (p : ProgD) (ca : Option Addr) (ccap : Nat) (ta : Option Addr) (tcap : Nat) (fv : Nat → Value) (rs qs : Value) (fl : Nat → List Int) (n c : Nat) (B : Nat) (w : World) (hS : SV S p ca ccap ta tcap fv rs qs 0) (hO : Ow w B fv rs qs fl n c) (hn : n ≤ 6) (hc : c ≤ 4) (k : Nat) (hk : k < n) (hr4 : (fl (9 + k)).length = 4) (q o0 : Int) (A : Nat) (b C y : Int) (h6 : (fl 6)[A]? = some y) (hy : wrap64 (y + b) < 0) :
    Calls Try.prog 59 #[.agg S, .int .i64 k, .agg #[.int .u8 24, .int .i64 A, .int .i64 b, .int .i64 C], .agg #[.int .i64 k, .int .i64 q, .int .u8 24, .int .i64 o0, .int .i64 0, .int .i64 0]] w fun e w' => Rs4 (Held fv rs qs) w w' e p ca ccap ta tcap n c (fl) 1 #[.int .i64 k, .int .i64 q, .int .u8 24, .int .i64 A, .int .i64 b, .int .i64 0] := by
  go_enter Try.func59, Try.ntmps59
  go_upto_region 1 with (fail)
  generalize hU : World.alloc (World.alloc (World.alloc (World.alloc (World.alloc w _) _) _) _) _ = U0
  have X0 : Hid (Sx (Held fv rs qs) w U0 B (w.heap.size) (w.heap.size + 1) (w.heap.size + 1 + 1) (w.heap.size + 1 + 1 + 1) (w.heap.size + 1 + 1 + 1 + 1) S ⟨24, A, b, C⟩ #[.int .i64 k, .int .i64 q, .int .u8 24, .int .i64 o0, .int .i64 0, .int .i64 0] fv rs qs (fl) n c) := Lib.hid (by rw [← hU]; exact sx_boxes (x := ⟨24, A, b, C⟩) hO rfl rfl)
  have hSV := Lib.hid hS
  clear hU hO
  obtain ⟨rz, hz⟩ := at_lt (l := fl (9 + k)) (k := 0) (by omega)
  obtain ⟨gR, capR, eR, _, ltR, cR⟩ := X0.out.ow.reg hk
  obtain ⟨gr, capr, er, _, _, _⟩ := X0.out.num hz
  rw [hr4] at er
  have EE9 := Lib.hid er
  have H9 : Hid (S[9]? = some (.slice (some ⟨gR, 0, none⟩) n capR)) := Lib.hid (by rw [← eR, hS.eq]; rfl)
  rw [er] at cR
  clear er eR
  obtain ⟨g6, cap6, e6, _, _, lt6⟩ := X0.out.num h6
  have EE6 := Lib.hid e6
  have H15 : Hid (S[15]? = some (.slice (some ⟨g6, 0, none⟩) (fl 6).length cap6)) := Lib.hid (by rw [← e6, hS.eq]; rfl)
  clear e6
  have s9 : U0.cell? ⟨w.heap.size, 9, none⟩ = some (.slice (some ⟨gR, 0, none⟩) n capR) := X0.out.s H9.out
  have cR0 := cR
  have i1 : U0.cell? ⟨w.heap.size + 1, 1, none⟩ = some (.int .i64 A) := X0.out.i.2.1
  have e3 : U0.cell? ⟨w.heap.size + 1 + 1, 3, none⟩ = some (.int .i64 o0) := X0.out.e rfl
  have ef3 : U0.frozen? ⟨w.heap.size + 1 + 1, 3, none⟩ = false := X0.out.eF 3
  go_upto_region 3 with (fail)
  generalize hU : World.setCell _ _ _ = U1
  have X1 : Hid (Sx (Held fv rs qs) w U1 B (w.heap.size) (w.heap.size + 1) (w.heap.size + 1 + 1) (w.heap.size + 1 + 1 + 1) (w.heap.size + 1 + 1 + 1 + 1) S ⟨24, A, b, C⟩ #[.int .i64 k, .int .i64 q, .int .u8 24, .int .i64 A, .int .i64 0, .int .i64 0] fv rs qs (fl) n c) := Lib.hid (by rw [← hU]; exact X0.out.ev 3 (.int .i64 A))
  clear hU X0
  clear s9 i1 e3 ef3
  clear cR cR0
  have hwr : IntKind.i64.wrap (y + b) = wrap64 (y + b) := by unfold wrap64; exact IntKind.wrap_i64 _
  have hy2 : decide (wrap64 (y + b) < 0) = true := by simpa using hy
  have i0 : U1.cell? ⟨w.heap.size + 1, 0, none⟩ = some (.int .u8 24) := X1.out.i.1
  have i2 : U1.cell? ⟨w.heap.size + 1, 2, none⟩ = some (.int .i64 b) := X1.out.i.2.2.1
  have e4 : U1.cell? ⟨w.heap.size + 1 + 1, 4, none⟩ = some (.int .i64 0) := X1.out.e rfl
  have ef4 : U1.frozen? ⟨w.heap.size + 1 + 1, 4, none⟩ = false := X1.out.eF 4
  go_upto_region 27 with (fail)
  generalize hU : World.setCell _ _ _ = U2
  have X2 : Hid (Sx (Held fv rs qs) w U2 B (w.heap.size) (w.heap.size + 1) (w.heap.size + 1 + 1) (w.heap.size + 1 + 1 + 1) (w.heap.size + 1 + 1 + 1 + 1) S ⟨24, A, b, C⟩ #[.int .i64 k, .int .i64 q, .int .u8 24, .int .i64 A, .int .i64 b, .int .i64 0] fv rs qs (fl) n c) := Lib.hid (by rw [← hU]; exact X1.out.ev 4 (.int .i64 b))
  clear hU X1
  clear i0 i2 e4 ef4
  have i1 : U2.cell? ⟨w.heap.size + 1, 1, none⟩ = some (.int .i64 A) := X2.out.i.2.1
  have i2 : U2.cell? ⟨w.heap.size + 1, 2, none⟩ = some (.int .i64 b) := X2.out.i.2.2.1
  have s15 : U2.cell? ⟨w.heap.size, 15, none⟩ = some (.slice (some ⟨g6, 0, none⟩) (fl 6).length cap6) := X2.out.s H15.out
  obtain ⟨c6, c6f⟩ := X2.out.at (j := A) (z := y) EE6.out (h6)
  have s18 : U2.cell? ⟨w.heap.size, 18, none⟩ = some (.int .i64 0) := X2.out.s (by rw [hSV.out.eq]; rfl)
  have sf18 := X2.out.sF 18
  refine wp_region_still_tail 12 (by kernel_rfl) (by kernel_rfl) ?_
  simp only [List.take_succ_cons, List.take_zero, List.drop_succ_cons, List.drop_zero]
  still_step
  still_step
  still_step
  still_step
  still_step
  still_step
  still_step
  still_step
  still_step
  still_step
  still_call (number4_still _ _)
  still_step
  refine wpStill_nil ?_
  go_upto_region 28 with (fail)
  try simp only [bitN, hy2, if_true, if_false, Bool.false_eq_true]
  obtain ⟨S1, eS⟩ : ∃ S1, S1 = S.setIfInBounds 18 (.int .i64 1) := ⟨_, rfl⟩
  have hSV1 : Hid (SV S1 p ca ccap ta tcap fv rs qs 1) := Lib.hid ⟨by rw [eS, hSV.out.eq]; rfl⟩
  have H9s : Hid (S1[9]? = some (.slice (some ⟨gR, 0, none⟩) n capR)) := Lib.hid (by rw [eS, Array.getElem?_setIfInBounds_ne (by decide)]; exact H9.out)
  have H15s : Hid (S1[15]? = some (.slice (some ⟨g6, 0, none⟩) (fl 6).length cap6)) := Lib.hid (by rw [eS, Array.getElem?_setIfInBounds_ne (by decide)]; exact H15.out)
  generalize hU : World.setCell _ _ _ = U3
  have X3 : Hid (Sx (Held fv rs qs) w U3 B (w.heap.size) (w.heap.size + 1) (w.heap.size + 1 + 1) (w.heap.size + 1 + 1 + 1) (w.heap.size + 1 + 1 + 1 + 1) S1 ⟨24, A, b, C⟩ #[.int .i64 k, .int .i64 q, .int .u8 24, .int .i64 A, .int .i64 b, .int .i64 0] fv rs qs (fl) n c) := Lib.hid (by rw [← hU]; exact (by rw [eS]; exact X2.out.sv 18 (.int .i64 1)))
  clear hU X2
  clear i1 i2 s15 c6 c6f s18 sf18
  clear eS
  generalize hD : World.drew U3 = U4
  have X4 : Hid (Sx (Held fv rs qs) w U4 B (w.heap.size) (w.heap.size + 1) (w.heap.size + 1 + 1) (w.heap.size + 1 + 1 + 1) (w.heap.size + 1 + 1 + 1 + 1) S1 ⟨24, A, b, C⟩ #[.int .i64 k, .int .i64 q, .int .u8 24, .int .i64 A, .int .i64 b, .int .i64 0] fv rs qs (fl) n c) := Lib.hid (by rw [← hD]; exact X3.out.drew)
  clear hD X3
  have s18 : U4.cell? ⟨w.heap.size, 18, none⟩ = some (.int .i64 1) := X4.out.s (by rw [hSV1.out.eq]; rfl)
  have sf18 := X4.out.sF 18
  go_wp2_with fail
  clear s18 sf18
  have FX := Lib.hid (X4.out.fin)
  obtain ⟨Z0, z0, _⟩ := FX.out.b0
  obtain ⟨Z1, z2, _⟩ := FX.out.b1
  have ne1 := FX.out.ne.1
  have FZ0 := Lib.hid z0
  have FZ1 := Lib.hid z2
  have hS19 : Array.size S1 = 19 := by rw [hSV1.out.eq]; rfl
  have hSz : (Try.prog.info? 72).map (·.size) = some (Array.size S1) := by rw [hS19]; exact info_S
  have hS1 : Array.all S1 (·.oneCell') = true := sv_one hSV1.out (FX.out.rf _ (Touch.of_below (Below.refl _ _)))
  clear z0 z2
  go_wp2_with fail
  refine fin_sync FX.out rfl hS19 hS1 rfl (by simp [Value.oneCell']) rfl (fun _ _ _ _ _ h => h) rfl rfl rfl rfl ?_
  (try simp only [zz0, zz1, zz2, Act.put, zz3, zz4, zz5])
  go_wp2
  refine bodyPost_ret (v := .tuple #[.agg S1, .agg #[.int .i64 k, .int .i64 q, .int .u8 24, .int .i64 A, .int .i64 b, .int .i64 0], .bool true]) (results_two (p := 8) (q := 9) (u := 10) rfl _ _ (w.heap.size + 1 + 1 + 1) (w.heap.size + 1 + 1 + 1 + 1) 72 45 S1 #[.int .i64 k, .int .i64 q, .int .u8 24, .int .i64 A, .int .i64 b, .int .i64 0] (0, 0) (0, 0) _ _ rfl ((setRow_other _ _ _ _ ne1).trans (setRow_heap _ _ _ _ _ _ FZ0.out)) Try.underlying72 rfl hSz rfl (setRow_heap _ _ _ _ _ _ ((setRow_other _ _ _ _ (Ne.symm ne1)).trans FZ1.out)) Try.underlying45 rfl info_event) rfl ?_
  exact ⟨_, _, _, _, rfl, hSV1.out, fun u' T => FX.out.rf u' (touch_end T rfl rfl rfl rfl), touch_fin FX.out.bel FX.out.lo.1 FX.out.lo.2 rfl rfl rfl rfl⟩
theorem mod_comm {a : Array Obj} {g h : Nat} {f f' : Obj → Obj} (hne : g ≠ h) : (a.modify g f).modify h f' = (a.modify h f').modify g f := by
  apply Array.ext_getElem?
  intro k
  simp only [Array.getElem?_modify]
  by_cases h1 : g = k
  · subst h1
    rw [if_neg (Ne.symm hne), if_pos rfl, if_pos rfl, if_neg (Ne.symm hne)]
  · by_cases h2 : h = k
    · subst h2
      rw [if_pos rfl, if_neg h1, if_neg h1, if_pos rfl]
    · rw [if_neg h2, if_neg h1, if_neg h1, if_neg h2]
theorem set_comm {u : World} {g h i j : Nat} {x y : Value} (hne : g ≠ h) : (u.setCell ⟨g, i, none⟩ x).setCell ⟨h, j, none⟩ y = (u.setCell ⟨h, j, none⟩ y).setCell ⟨g, i, none⟩ x := by
  simp only [World.setCell]
  congr 1
  exact mod_comm hne
theorem pop_cell {Y : World} {gQ b g j : Nat} {V : Value} (h : g ≠ gQ) : (Y.setCell ⟨gQ, b, none⟩ V).cell? ⟨g, j, none⟩ = Y.cell? ⟨g, j, none⟩ := World.cell?_of_block (a := ⟨g, j, none⟩) (Below.heap_setCell _ _ _ _ h)
theorem pop_frozen {Y : World} {gQ b g j : Nat} {V : Value} (h : g ≠ gQ) : (Y.setCell ⟨gQ, b, none⟩ V).frozen? ⟨g, j, none⟩ = Y.frozen? ⟨g, j, none⟩ := by
  have := Below.heap_setCell Y ⟨gQ, b, none⟩ V g h
  simp only [World.frozen?, this]
theorem slice_one (gq r cap : Nat) (hc : r + 1 ≤ cap) : ∃ off m, (r = 0 ∨ off = 1) ∧ ∀ w : World, (Instr.slice 24 (.slice (some ⟨gq, 0, none⟩) (r + 1) cap) (some (.int .i64 1)) none none).run Try.prog w = .ok (.slice (some ⟨gq, off, none⟩) r m) w := by
  have hu := Try.underlying24
  by_cases h : cap = 1
  · obtain rfl : r = 0 := by omega
    subst h
    refine ⟨0, 0, .inl rfl, fun w => ?_⟩
    simp [Instr.slice, run_underlying hu, Instr.sliceBounds, Instr.sliceBound, asIntOf, go_sem]
  · refine ⟨1, cap - 1, .inr rfl, fun w => ?_⟩
    simp [Instr.slice, run_underlying hu, Instr.sliceBounds, Instr.sliceBound, asIntOf, go_sem]
    rw [if_pos (by omega), if_neg h]
section
variable {X0 : Nat → Prop} {w Y : World} {B sb ib eb r0 r1 : Nat} {S : Array Value} {x : InsD} {E : Array Value} {fv : Nat → Value} {rs qs : Value} {fl : Nat → List Int} {n c : Nat}
/-- The block of the queues' spine is none of the others. -/
theorem Sx.qne (h : Sx X0 w Y B sb ib eb r0 r1 S x E fv rs qs fl n c) {gQ capQ : Nat} (e : qs = .slice (some ⟨gQ, 0, none⟩) c capQ) : (sb ≠ gQ ∧ ib ≠ gQ ∧ eb ≠ gQ ∧ r0 ≠ gQ ∧ r1 ≠ gQ) ∧ (∀ i g, (fv i).ownBlock = some g → g ≠ gQ) ∧ ∀ g, rs.ownBlock = some g → g ≠ gQ := by
  have hq : qs.ownBlock = some gQ := by rw [e]; rfl
  obtain ⟨a1, a2, a3, a4, a5⟩ := h.ap gQ (.inr (.inr hq))
  refine ⟨⟨Ne.symm a1, Ne.symm a2, Ne.symm a3, Ne.symm a4, Ne.symm a5⟩, fun i g hg e => ?_, fun g hg e => ?_⟩
  · subst e; exact apart_ne (h.ow.apQ i) hg hq
  · subst e; exact apart_ne h.ow.apRQ hg hq
/-- At the end, where one was taken. -/
theorem Sx.popped (h : Sx X0 w Y B sb ib eb r0 r1 S x E fv rs qs fl n c) (hn : n ≤ 6) {b gQ capQ gq capq : Nat} (hb : b < c) (e : qs = .slice (some ⟨gQ, 0, none⟩) c capQ) {v : Int} {rest : List Int} (hf : fl (15 + b) = v :: rest) (eq : fv (15 + b) = .slice (some ⟨gq, 0, none⟩) (rest.length + 1) capq) (off m : Nat) (ho : rest.length = 0 ∨ off = 1) :
    Fx X0 w (Y.setCell ⟨gQ, b, none⟩ (.slice (some ⟨gq, off, none⟩) rest.length m)) sb eb r0 r1 S E (updF fv (15 + b) (.slice (some ⟨gq, off, none⟩) rest.length m)) rs qs (updF fl (15 + b) rest) n c := by
  obtain ⟨⟨k1, k2, k3, k4, k5⟩, kv, kr⟩ := h.qne e
  obtain ⟨n1, n2, n3, n4, n5, n6, n7, n8, n9, n10⟩ := h.ne
  obtain ⟨Z0, z0, z1⟩ := h.b0
  obtain ⟨Z1, z2, z3⟩ := h.b1
  have hq : qs.ownBlock = some gQ := by rw [e]; rfl
  have hqB := (own_lt h.ow.queue gQ hq).2
  have k : ∀ t, t ≠ gQ → (Y.setCell ⟨gQ, b, none⟩ (.slice (some ⟨gq, off, none⟩) rest.length m)).heap[t]? = Y.heap[t]? := fun t ht => Below.heap_setCell _ _ _ _ ht
  refine ⟨(k _ k1).trans h.sB, (k _ k3).trans h.eB, ⟨Z0, (k _ k4).trans z0, z1⟩, ⟨Z1, (k _ k5).trans z2, z3⟩, ⟨n4, n5, n7, n8, n10⟩, fun u' T => ?_, ⟨h.lo.2.2.2.1, h.lo.2.2.2.2⟩, touch_set h.bel (h.lo.1 gQ (.inr (.inr hq)))⟩
  have T' : Touch (fun g => g = gQ ∨ g = r0 ∨ g = r1 ∨ (¬ X0 g ∧ g < w.heap.size)) Y u' := by
    refine ⟨T.os, T.tape, T.output, by have := T.size; rwa [size_setCell] at this, fun t ht hx => ?_⟩
    rw [T.block t (by rw [size_setCell]; exact ht) (fun hh => hx (.inr hh))]
    exact k t fun hh => hx (.inl hh)
  have hrow : ∀ i, u'.ownsRow B 3 1 (fv i) (fl i).length ((fl i).map (.int .i64 ·)) := fun i => own_touch (h.ow.fam.row i) T' fun g hg hx => by
    obtain ⟨a1, a2, a3, a4, a5⟩ := h.ap g (.inl ⟨i, hg⟩)
    rcases hx with hx | hx | hx | ⟨hx, hx'⟩
    · exact kv i g hg hx
    · exact a4 hx
    · exact a5 hx
    · rcases h.lo.1 g (.inl ⟨i, hg⟩) with q | q
      · exact hx q
      · omega
  refine ⟨fun i => ?_, ?_, ?_⟩
  · obtain ⟨a, cap, e1, hc⟩ := own_cells (hrow i)
    by_cases ei : i = 15 + b
    · subst ei
      rw [updF_same, updF_same]
      refine ⟨_, _, rfl, fun j y hy => ?_⟩
      obtain rfl : off = 1 := by
        rcases ho with h0 | h0
        · rw [List.eq_nil_of_length_eq_zero h0] at hy; simp at hy
        · exact h0
      rw [eq] at e1
      obtain ⟨e3, _⟩ := Value.slice.inj e1
      subst e3
      obtain ⟨g', e2, _, h3, h4⟩ := hc (j + 1) y (by rw [hf, List.getElem?_cons_succ]; exact hy)
      cases e2
      exact ⟨gq, 1, rfl, h3, by rw [Nat.add_comm]; exact h4⟩
    · rw [updF_ne _ _ ei, updF_ne _ _ ei]
      exact ⟨a, cap, e1, row_own (cap := cap) hc⟩
  · have hr := own_touch h.ow.regs T' fun g hg hx => by
      obtain ⟨a1, a2, a3, a4, a5⟩ := h.ap g (.inr (.inl hg))
      rcases hx with hx | hx | hx | ⟨hx, hx'⟩
      · exact kr g hg hx
      · exact a4 hx
      · exact a5 hx
      · rcases h.lo.1 g (.inr (.inl hg)) with q | q
        · exact hx q
        · omega
    obtain ⟨a, cap, e1, hc⟩ := spine_cells hr
    refine ⟨a, cap, e1, fun t ht => ?_⟩
    obtain ⟨g, off, q1, q2, q3⟩ := hc t ht
    exact ⟨g, off, q1, q2, by rw [updF_ne _ _ (by omega)]; exact q3⟩
  · refine ⟨_, _, e, fun t ht => ⟨gQ, 0, rfl, ?_, ?_⟩⟩
    · have := (own_lt h.ow.queue gQ hq).1
      exact Nat.lt_of_lt_of_le this T'.size
    · obtain ⟨g, cap, e1, _, hg2, hcell, _⟩ := h.ow.que ht
      rw [e] at e1
      cases e1
      rw [Nat.zero_add]
      have hblk : u'.heap[gQ]? = (Y.setCell ⟨gQ, b, none⟩ (.slice (some ⟨gq, off, none⟩) rest.length m)).heap[gQ]? := T.block gQ (by rw [size_setCell]; exact hg2) (fun hh => by
        rcases hh with hh | hh | ⟨z1, z2⟩
        · exact k4 hh.symm
        · exact k5 hh.symm
        · rcases h.lo.1 gQ (.inr (.inr hq)) with q | q
          · exact z1 q
          · omega)
      rcases hh : Y.heap[gQ]? with _ | o
      · simp [World.cell?, hh] at hcell
      · cases o with
        | cells cs ty fr =>
          rw [stSet_block _ _ _ _ hh] at hblk
          rw [cell_of_row _ _ _ _ _ _ hh] at hcell
          rw [cell_of_row _ _ _ _ _ _ hblk]
          have hsz := (Array.getElem?_eq_some_iff.1 hcell).1
          by_cases et : t = b
          · subst et
            rw [updF_same, Array.getElem?_setIfInBounds_self, if_pos hsz]
          · rw [updF_ne _ _ (by omega), Array.getElem?_setIfInBounds_ne (Ne.symm et)]
            exact hcell
        | _ => simp [World.cell?, hh] at hcell
end
theorem sv_pop {S : Array Value} {p : ProgD} {ca : Option Addr} {ccap : Nat} {ta : Option Addr} {tcap : Nat} {fv : Nat → Value} {rs qs : Value} {tp : Int} (hS : SV S p ca ccap ta tcap fv rs qs tp) (b : Nat) (V : Value) : SV S p ca ccap ta tcap (updF fv (15 + b) V) rs qs tp := ⟨by
  rw [hS.eq, updF_ne _ _ (by omega), updF_ne _ _ (by omega), updF_ne _ _ (by omega), updF_ne _ _ (by omega), updF_ne _ _ (by omega), updF_ne _ _ (by omega), updF_ne _ _ (by omega), updF_ne _ _ (by omega), updF_ne _ _ (by omega)]⟩
theorem grown_frozen {u1 u2 : World} {row : Option Nat} {g j : Nat} (hg : u1.grownBy u2 row) (hl : g < u1.heap.size) (hne : some g ≠ row) (hf : u1.frozen? ⟨g, j, none⟩ = false) : u2.frozen? ⟨g, j, none⟩ = false := by
  have := hg.block g hl hne
  simpa only [World.frozen?, this] using hf
theorem Fam.grow {u u1 u2 : World} {base : Nat} {fv : Nat → Value} {fl : Nat → List Int} (h : Fam u base fv fl) (hB : Below u.heap.size u u1) (i : Nat) (hg : u1.grownBy u2 (fv i).ownBlock) {v' : Value} {l' : List Int} (ho : u2.ownsRow base 3 1 v' l'.length (l'.map (.int .i64 ·))) (hat : v'.ownBlock = (fv i).ownBlock ∨ v'.ownBlock = some u1.heap.size) : Fam u2 base (updF fv i v') (updF fl i l') := by
  have hs := hB.size
  have hv : ∀ j, j ≠ i → Apart v' (fv j) := fun j hj => by
    rcases hat with e | e
    · have := h.ap i j (Ne.symm hj)
      unfold Apart at this ⊢
      rwa [e]
    · refine .inr fun e2 => ?_
      have := (own_lt (h.row j) _ (e2.symm.trans e)).1
      omega
  refine ⟨fun j => ?_, fun j k hjk => ?_, Nat.le_trans h.top (Nat.le_trans hs hg.size)⟩
  · by_cases e : j = i
    · subst e; rw [updF_same, updF_same]; exact ho
    · rw [updF_ne _ _ e, updF_ne _ _ e]
      exact own_touch (X := fun g => (fv i).ownBlock = some g) (own_later (h.row j) hB) (Touch.grown hg fun k e => e) fun g hg hx => apart_ne (h.ap j i e) hg hx
  · by_cases e : j = i
    · subst e
      rw [updF_same, updF_ne _ _ (Ne.symm hjk)]
      exact hv k (Ne.symm hjk)
    · rw [updF_ne _ _ e]
      by_cases e2 : k = i
      · subst e2; rw [updF_same]; exact (hv j e).symm
      · rw [updF_ne _ _ e2]; exact h.ap j k hjk
section
variable {X0 : Nat → Prop} {w u u1 u2 : World} {B sb ib eb r0 r1 : Nat} {S : Array Value} {x : InsD} {E : Array Value} {fv : Nat → Value} {rs qs : Value} {fl : Nat → List Int} {n c : Nat}
/-- What is not the row that grew is as it was. -/
theorem Sx.old (h : Sx X0 w u B sb ib eb r0 r1 S x E fv rs qs fl n c) (hB : Below u.heap.size u u1) {i : Nat} (hg : u1.grownBy u2 (fv i).ownBlock) : (∀ {t : Nat} {o : Obj}, u.heap[t]? = some o → (t = sb ∨ t = ib ∨ t = eb ∨ t = r0 ∨ t = r1) → u2.heap[t]? = some o) ∧ Touch X0 w u2 := by
  have hs := hB.size
  refine ⟨fun {t o} ht hb => ?_, ⟨?_, ?_, ?_, Nat.le_trans h.bel.size (Nat.le_trans hs hg.size), fun k hk hx => ?_⟩⟩
  · have hl := (Array.getElem?_eq_some_iff.1 ht).1
    rw [hg.block t (by omega) fun e => ?_, hB.block t hl]
    · exact ht
    · obtain ⟨a1, a2, a3, a4, a5⟩ := h.ap t (.inl ⟨i, e.symm⟩)
      rcases hb with e | e | e | e | e
      · exact a1 e
      · exact a2 e
      · exact a3 e
      · exact a4 e
      · exact a5 e
  · exact hg.os.trans (hB.os.trans h.bel.os)
  · exact hg.tape.trans (hB.tape.trans h.bel.tape)
  · exact hg.output.trans (hB.output.trans h.bel.output)
  · have hu := h.bel.size
    rw [hg.block k (by omega) fun e => ?_, hB.block k (by omega)]
    · exact h.bel.block k hk hx
    · rcases h.lo.1 k (.inl ⟨i, e.symm⟩) with q | q
      · exact hx q
      · omega
theorem Sx.lo' (h : Sx X0 w u B sb ib eb r0 r1 S x E fv rs qs fl n c) (hB : Below u.heap.size u u1) {i : Nat} {v' : Value} (hat : v'.ownBlock = (fv i).ownBlock ∨ v'.ownBlock = some u1.heap.size) : (∀ g, Held (updF fv i v') rs qs g → X0 g ∨ w.heap.size ≤ g) ∧ w.heap.size ≤ sb ∧ w.heap.size ≤ eb ∧ w.heap.size ≤ r0 ∧ w.heap.size ≤ r1 := by
  refine ⟨fun g hg => ?_, h.lo.2⟩
  rcases hg with ⟨j, hj⟩ | hr
  · by_cases e : j = i
    · subst e
      rw [updF_same] at hj
      rcases hat with e | e
      · exact h.lo.1 g (.inl ⟨j, e.symm.trans hj⟩)
      · rw [e] at hj; cases hj
        exact .inr (Nat.le_trans h.bel.size hB.size)
    · rw [updF_ne _ _ e] at hj
      exact h.lo.1 g (.inl ⟨j, hj⟩)
  · exact h.lo.1 g (.inr hr)
theorem Sx.apart' (h : Sx X0 w u B sb ib eb r0 r1 S x E fv rs qs fl n c) (hB : Below u.heap.size u u1) {i : Nat} {v' : Value} (hat : v'.ownBlock = (fv i).ownBlock ∨ v'.ownBlock = some u1.heap.size) : (∀ g, Held (updF fv i v') rs qs g → g ≠ sb ∧ g ≠ ib ∧ g ≠ eb ∧ g ≠ r0 ∧ g ≠ r1) ∧ (∀ g, rs.ownBlock = some g → v'.ownBlock ≠ some g) ∧ ∀ g, qs.ownBlock = some g → v'.ownBlock ≠ some g := by
  have hs := hB.size
  obtain ⟨Z0, z0, _⟩ := h.b0
  obtain ⟨Z1, z2, _⟩ := h.b1
  have l1 := (Array.getElem?_eq_some_iff.1 h.sB).1
  have l2 := (Array.getElem?_eq_some_iff.1 h.iB).1
  have l3 := (Array.getElem?_eq_some_iff.1 h.eB).1
  have l4 := (Array.getElem?_eq_some_iff.1 z0).1
  have l5 := (Array.getElem?_eq_some_iff.1 z2).1
  refine ⟨fun g hg => ?_, fun g hg e => ?_, fun g hg e => ?_⟩
  · rcases hg with ⟨j, hj⟩ | hr
    · by_cases e : j = i
      · subst e
        rw [updF_same] at hj
        rcases hat with e | e
        · exact h.ap g (.inl ⟨j, e.symm.trans hj⟩)
        · rw [e] at hj; cases hj; omega
      · rw [updF_ne _ _ e] at hj
        exact h.ap g (.inl ⟨j, hj⟩)
    · exact h.ap g (.inr hr)
  · rcases hat with e2 | e2
    · exact apart_ne (h.ow.apR i) (e2.symm.trans e) hg
    · rw [e2] at e; cases e
      have := (own_lt h.ow.regs _ hg).1; omega
  · rcases hat with e2 | e2
    · exact apart_ne (h.ow.apQ i) (e2.symm.trans e) hg
    · rw [e2] at e; cases e
      have := (own_lt h.ow.queue _ hg).1; omega
theorem apart_of {a b : Value} (h : ∀ g, b.ownBlock = some g → a.ownBlock ≠ some g) : Apart a b := by
  unfold Apart
  rcases ha : a.ownBlock with _ | g
  · exact .inl rfl
  · refine .inr fun e => h g e.symm ha
/-- What a call that is handed the rows leaves of the boxes. -/
theorem old_box (h : Sx X0 w u B sb ib eb r0 r1 S x E fv rs qs fl n c) (T : Touch (Held fv rs qs) u u2) (_ : Bool) : ∃ Z, u2.heap[r0]? = some (.cells Z 72) ∧ Z.size = 19 := by
  obtain ⟨Z0, z0, z1⟩ := h.b0
  exact ⟨Z0, (T.block r0 (Array.getElem?_eq_some_iff.1 z0).1 (fun hh => (h.ap r0 hh).2.2.2.1 rfl)).trans z0, z1⟩
theorem old_box1 (h : Sx X0 w u B sb ib eb r0 r1 S x E fv rs qs fl n c) (T : Touch (Held fv rs qs) u u2) : ∃ Z, u2.heap[r1]? = some (.cells Z 45) ∧ Z.size = 6 := by
  obtain ⟨Z0, z0, z1⟩ := h.b1
  exact ⟨Z0, (T.block r1 (Array.getElem?_eq_some_iff.1 z0).1 (fun hh => (h.ap r1 hh).2.2.2.2 rfl)).trans z0, z1⟩
theorem touch_handed (h : Sx (Held fv rs qs) w u B sb ib eb r0 r1 S x E fv rs qs fl n c) {u3 u' : World} {S2 E2 : Array Value} (T : Touch (fun g => ¬ Held fv rs qs g ∧ g < w.heap.size) ((u3.setRow r0 S2).setRow r1 E2) u') : Touch (fun g => ¬ Held fv rs qs g ∧ g < u.heap.size) u3 u' := by
  have hz : ∀ (v : World) (r : Nat) (S : Array Value), (v.setRow r S).heap.size = v.heap.size := fun v r S => by simp [World.setRow]
  obtain ⟨Z0, z0, _⟩ := h.b0
  obtain ⟨Z1, z2, _⟩ := h.b1
  have l4 := (Array.getElem?_eq_some_iff.1 z0).1
  have l5 := (Array.getElem?_eq_some_iff.1 z2).1
  have hu := h.bel.size
  refine ⟨T.os, T.tape, T.output, by have := T.size; rwa [hz, hz] at this, fun k hk hx => ?_⟩
  rw [T.block k (by rw [hz, hz]; exact hk) (fun hh => hx ⟨hh.1, by omega⟩)]
  rw [setRow_other _ _ _ _ (fun e => ?_), setRow_other _ _ _ _ (fun e => ?_)]
  · exact hx ⟨fun hh => (h.ap k hh).2.2.2.1 e, by omega⟩
  · exact hx ⟨fun hh => (h.ap k hh).2.2.2.2 e, by omega⟩
/-- The spines, where a row grew. -/
theorem Sx.spines (h : Sx X0 w u B sb ib eb r0 r1 S x E fv rs qs fl n c) (hB : Below u.heap.size u u1) {i : Nat} (hg : u1.grownBy u2 (fv i).ownBlock) : u2.ownsRow B 24 1 rs n ((List.range n).map fun k => fv (9 + k)) ∧ u2.ownsRow B 24 1 qs c ((List.range c).map fun k => fv (15 + k)) :=
  ⟨own_touch (X := fun g => (fv i).ownBlock = some g) (own_later h.ow.regs hB) (Touch.grown hg fun k e => e) fun g hg hx => apart_ne (h.ow.apR i) hx hg, own_touch (X := fun g => (fv i).ownBlock = some g) (own_later h.ow.queue hB) (Touch.grown hg fun k e => e) fun g hg hx => apart_ne (h.ow.apQ i) hx hg⟩
/-- One more is told. -/
theorem Sx.tell (h : Sx X0 w u B sb ib eb r0 r1 S x E fv rs qs fl n c) (hB : Below u.heap.size u u1) (hg : u1.grownBy u2 (fv 8).ownBlock) {v' : Value} {l' : List Int} (ho : u2.ownsRow B 3 1 v' l'.length (l'.map (.int .i64 ·))) (hat : v'.ownBlock = (fv 8).ownBlock ∨ v'.ownBlock = some u1.heap.size) :
    Sx X0 w (u2.setCell ⟨sb, 17, none⟩ v') B sb ib eb r0 r1 (S.setIfInBounds 17 v') x E (updF fv 8 v') rs qs (updF fl 8 l') n c := by
  obtain ⟨old, bel⟩ := h.old hB hg
  obtain ⟨ap, apr, apq⟩ := h.apart' hB hat
  obtain ⟨sr, sq⟩ := h.spines hB hg
  obtain ⟨Z0, z0, z1⟩ := h.b0
  obtain ⟨Z1, z2, z3⟩ := h.b1
  have F := h.ow.fam.grow hB 8 hg ho hat
  have h2 : Sx X0 w u2 B sb ib eb r0 r1 S x E (updF fv 8 v') rs qs (updF fl 8 l') n c := by
    refine ⟨old h.sB (by omega), old h.iB (by omega), old h.eB (by omega), ⟨Z0, old z0 (by omega), z1⟩, ⟨Z1, old z2 (by omega), z3⟩, ⟨F, ?_, ?_, fun i => ?_, fun i => ?_, h.ow.apRQ⟩, h.ne, ap, h.lo' hB hat, bel⟩
    · have e : (List.range n).map (fun k => updF fv 8 v' (9 + k)) = (List.range n).map fun k => fv (9 + k) := List.map_congr_left fun k _ => updF_ne _ _ (by omega)
      rw [e]; exact sr
    · have e : (List.range c).map (fun k => updF fv 8 v' (15 + k)) = (List.range c).map fun k => fv (15 + k) := List.map_congr_left fun k _ => updF_ne _ _ (by omega)
      rw [e]; exact sq
    · by_cases e : i = 8
      · subst e; rw [updF_same]; exact apart_of apr
      · rw [updF_ne _ _ e]; exact h.ow.apR i
    · by_cases e : i = 8
      · subst e; rw [updF_same]; exact apart_of apq
      · rw [updF_ne _ _ e]; exact h.ow.apQ i
  exact h2.sv 17 v'
/-- One more in a queue. -/
theorem Sx.push (h : Sx X0 w u B sb ib eb r0 r1 S x E fv rs qs fl n c) (hn : n ≤ 6) {A gQ capQ : Nat} (hA : A < c) (e : qs = .slice (some ⟨gQ, 0, none⟩) c capQ) (hB : Below u.heap.size u u1) (hg : u1.grownBy u2 (fv (15 + A)).ownBlock) {v' : Value} {l' : List Int} (ho : u2.ownsRow B 3 1 v' l'.length (l'.map (.int .i64 ·))) (hat : v'.ownBlock = (fv (15 + A)).ownBlock ∨ v'.ownBlock = some u1.heap.size) :
    Sx X0 w (u2.setCell ⟨gQ, A, none⟩ v') B sb ib eb r0 r1 S x E (updF fv (15 + A) v') rs qs (updF fl (15 + A) l') n c := by
  obtain ⟨old, bel⟩ := h.old hB hg
  obtain ⟨ap, apr, apq⟩ := h.apart' hB hat
  obtain ⟨sr, sq⟩ := h.spines hB hg
  obtain ⟨Z0, z0, z1⟩ := h.b0
  obtain ⟨Z1, z2, z3⟩ := h.b1
  have F := h.ow.fam.grow hB (15 + A) hg ho hat
  have hq : qs.ownBlock = some gQ := by rw [e]; rfl
  obtain ⟨k1, k2, k3, k4, k5⟩ := h.ap gQ (.inr (.inr hq))
  have hqB := (own_lt h.ow.queue gQ hq).2
  have T : Touch (fun t => t = gQ) u2 (u2.setCell ⟨gQ, A, none⟩ v') := (Touch.of_below (Below.refl _ _)).set rfl
  have k : ∀ t, t ≠ gQ → (u2.setCell ⟨gQ, A, none⟩ v').heap[t]? = u2.heap[t]? := fun t ht => Below.heap_setCell _ _ _ _ ht
  have apQ' : ∀ i, Apart (updF fv (15 + A) v' i) qs := fun i => by
    by_cases e : i = 15 + A
    · subst e; rw [updF_same]; exact apart_of apq
    · rw [updF_ne _ _ e]; exact h.ow.apQ i
  refine ⟨(k _ (Ne.symm k1)).trans (old h.sB (by omega)), (k _ (Ne.symm k2)).trans (old h.iB (by omega)), (k _ (Ne.symm k3)).trans (old h.eB (by omega)), ⟨Z0, (k _ (Ne.symm k4)).trans (old z0 (by omega)), z1⟩, ⟨Z1, (k _ (Ne.symm k5)).trans (old z2 (by omega)), z3⟩, ⟨?_, ?_, ?_, fun i => ?_, apQ', h.ow.apRQ⟩, h.ne, ap, h.lo' hB hat, touch_set bel (h.lo.1 gQ (.inr (.inr hq)))⟩
  · exact F.touch T fun i g hg hx => by
      subst hx
      exact apart_ne (apQ' i) hg hq
  · have e1 : (List.range n).map (fun k => updF fv (15 + A) v' (9 + k)) = (List.range n).map fun k => fv (9 + k) := List.map_congr_left fun k hk => updF_ne _ _ (by have := List.mem_range.1 hk; omega)
    rw [e1]
    exact own_touch sr T fun g hg hx => by
      subst hx
      exact apart_ne h.ow.apRQ hg hq
  · rw [e] at sq ⊢
    have := (sq.stored A v').1
    have e1 : (List.range c).map (fun k => updF fv (15 + A) v' (15 + k)) = ((List.range c).map fun k => fv (15 + k)).set A v' := by
      apply List.ext_getElem?
      intro t
      by_cases ht : t < c
      · rw [map_at _ ht]
        by_cases et : t = A
        · subst et; rw [updF_same, List.getElem?_set_self (by simpa using ht)]
        · rw [updF_ne _ _ (by omega), List.getElem?_set_ne (Ne.symm et), map_at _ ht]
      · rw [List.getElem?_eq_none (by simpa using ht), List.getElem?_eq_none (by simpa using ht)]
    rw [e1]; exact this
  · by_cases e : i = 15 + A
    · subst e; rw [updF_same]; exact apart_of apr
    · rw [updF_ne _ _ e]; exact h.ow.apR i
end
theorem sync_20n (S : Array Value) (p : ProgD) (ca : Option Addr) (ccap : Nat) (ta : Option Addr) (tcap : Nat) (fv : Nat → Value) (rs qs : Value) (fl : Nat → List Int) (n c : Nat) (B : Nat) (w : World) (hS : SV S p ca ccap ta tcap fv rs qs 0) (hO : Ow w B fv rs qs fl n c) (hn : n ≤ 6) (hc : c ≤ 4) (k : Nat) (hk : k < n) (hr4 : (fl (9 + k)).length = 4) (q o0 : Int) (A b : Nat) (C y rb : Int) (hb4 : b < 4) (hb : (fl (9 + k))[b]? = some rb) (h5 : (fl 5)[A]? = some y) (hy : ¬ y = 0) :
    Calls Try.prog 59 #[.agg S, .int .i64 k, .agg #[.int .u8 20, .int .i64 A, .int .i64 b, .int .i64 C], .agg #[.int .i64 k, .int .i64 q, .int .u8 20, .int .i64 o0, .int .i64 0, .int .i64 0]] w fun e w' => Rs4 (Held fv rs qs) w w' e p ca ccap ta tcap n c (fl) y #[.int .i64 k, .int .i64 q, .int .u8 20, .int .i64 A, .int .i64 rb, .int .i64 0] := by
  go_enter Try.func59, Try.ntmps59
  go_upto_region 1 with (fail)
  generalize hU : World.alloc (World.alloc (World.alloc (World.alloc (World.alloc w _) _) _) _) _ = U0
  have X0 : Hid (Sx (Held fv rs qs) w U0 B (w.heap.size) (w.heap.size + 1) (w.heap.size + 1 + 1) (w.heap.size + 1 + 1 + 1) (w.heap.size + 1 + 1 + 1 + 1) S ⟨20, A, b, C⟩ #[.int .i64 k, .int .i64 q, .int .u8 20, .int .i64 o0, .int .i64 0, .int .i64 0] fv rs qs (fl) n c) := Lib.hid (by rw [← hU]; exact sx_boxes (x := ⟨20, A, b, C⟩) hO rfl rfl)
  have hSV := Lib.hid hS
  clear hU hO
  have hb4' : (b : Int) < 4 := by omega
  obtain ⟨gR, capR, eR, _, ltR, cR⟩ := X0.out.ow.reg hk
  obtain ⟨gr, capr, er, _, _, _⟩ := X0.out.num hb
  rw [hr4] at er
  have EE9 := Lib.hid er
  have H9 : Hid (S[9]? = some (.slice (some ⟨gR, 0, none⟩) n capR)) := Lib.hid (by rw [← eR, hS.eq]; rfl)
  rw [er] at cR
  clear er eR
  obtain ⟨g5, cap5, e5, _, _, lt5⟩ := X0.out.num h5
  have EE5 := Lib.hid e5
  have H14 : Hid (S[14]? = some (.slice (some ⟨g5, 0, none⟩) (fl 5).length cap5)) := Lib.hid (by rw [← e5, hS.eq]; rfl)
  clear e5
  have s9 : U0.cell? ⟨w.heap.size, 9, none⟩ = some (.slice (some ⟨gR, 0, none⟩) n capR) := X0.out.s H9.out
  have cR0 := cR
  have i1 : U0.cell? ⟨w.heap.size + 1, 1, none⟩ = some (.int .i64 A) := X0.out.i.2.1
  have e3 : U0.cell? ⟨w.heap.size + 1 + 1, 3, none⟩ = some (.int .i64 o0) := X0.out.e rfl
  have ef3 : U0.frozen? ⟨w.heap.size + 1 + 1, 3, none⟩ = false := X0.out.eF 3
  go_upto_region 3 with (fail)
  generalize hU : World.setCell _ _ _ = U1
  have X1 : Hid (Sx (Held fv rs qs) w U1 B (w.heap.size) (w.heap.size + 1) (w.heap.size + 1 + 1) (w.heap.size + 1 + 1 + 1) (w.heap.size + 1 + 1 + 1 + 1) S ⟨20, A, b, C⟩ #[.int .i64 k, .int .i64 q, .int .u8 20, .int .i64 A, .int .i64 0, .int .i64 0] fv rs qs (fl) n c) := Lib.hid (by rw [← hU]; exact X0.out.ev 3 (.int .i64 A))
  clear hU X0
  clear s9 i1 e3 ef3
  clear cR cR0
  have i0 : U1.cell? ⟨w.heap.size + 1, 0, none⟩ = some (.int .u8 20) := X1.out.i.1
  have i2 : U1.cell? ⟨w.heap.size + 1, 2, none⟩ = some (.int .i64 b) := X1.out.i.2.2.1
  obtain ⟨cr, crf⟩ := X1.out.at (j := b) (z := rb) EE9.out (hb)
  have e4 : U1.cell? ⟨w.heap.size + 1 + 1, 4, none⟩ = some (.int .i64 0) := X1.out.e rfl
  have ef4 : U1.frozen? ⟨w.heap.size + 1 + 1, 4, none⟩ = false := X1.out.eF 4
  go_upto_region 36 with (fail)
  generalize hU : World.setCell _ _ _ = U2
  have X2 : Hid (Sx (Held fv rs qs) w U2 B (w.heap.size) (w.heap.size + 1) (w.heap.size + 1 + 1) (w.heap.size + 1 + 1 + 1) (w.heap.size + 1 + 1 + 1 + 1) S ⟨20, A, b, C⟩ #[.int .i64 k, .int .i64 q, .int .u8 20, .int .i64 A, .int .i64 rb, .int .i64 0] fv rs qs (fl) n c) := Lib.hid (by rw [← hU]; exact X1.out.ev 4 (.int .i64 rb))
  clear hU X1
  clear i0 i2 cr crf e4 ef4
  have i1 : U2.cell? ⟨w.heap.size + 1, 1, none⟩ = some (.int .i64 A) := X2.out.i.2.1
  have s14 : U2.cell? ⟨w.heap.size, 14, none⟩ = some (.slice (some ⟨g5, 0, none⟩) (fl 5).length cap5) := X2.out.s H14.out
  obtain ⟨c5, c5f⟩ := X2.out.at (j := A) (z := y) EE5.out (h5)
  have s18 : U2.cell? ⟨w.heap.size, 18, none⟩ = some (.int .i64 0) := X2.out.s (by rw [hSV.out.eq]; rfl)
  have sf18 := X2.out.sF 18
  go_upto_region 37 with (fail)
  obtain ⟨S1, eS⟩ : ∃ S1, S1 = S.setIfInBounds 18 (.int .i64 y) := ⟨_, rfl⟩
  have hSV1 : Hid (SV S1 p ca ccap ta tcap fv rs qs y) := Lib.hid ⟨by rw [eS, hSV.out.eq]; rfl⟩
  have H9s : Hid (S1[9]? = some (.slice (some ⟨gR, 0, none⟩) n capR)) := Lib.hid (by rw [eS, Array.getElem?_setIfInBounds_ne (by decide)]; exact H9.out)
  have H14s : Hid (S1[14]? = some (.slice (some ⟨g5, 0, none⟩) (fl 5).length cap5)) := Lib.hid (by rw [eS, Array.getElem?_setIfInBounds_ne (by decide)]; exact H14.out)
  generalize hU : World.setCell _ _ _ = U3
  have X3 : Hid (Sx (Held fv rs qs) w U3 B (w.heap.size) (w.heap.size + 1) (w.heap.size + 1 + 1) (w.heap.size + 1 + 1 + 1) (w.heap.size + 1 + 1 + 1 + 1) S1 ⟨20, A, b, C⟩ #[.int .i64 k, .int .i64 q, .int .u8 20, .int .i64 A, .int .i64 rb, .int .i64 0] fv rs qs (fl) n c) := Lib.hid (by rw [← hU]; exact (by rw [eS]; exact X2.out.sv 18 (.int .i64 y)))
  clear hU X2
  clear i1 s14 c5 c5f s18 sf18
  clear eS
  have s18 : U3.cell? ⟨w.heap.size, 18, none⟩ = some (.int .i64 y) := X3.out.s (by rw [hSV1.out.eq]; rfl)
  have sf18 := X3.out.sF 18
  have hy0 : (y == 0) = false := by simpa using hy
  go_wp2_with fail
  clear s18 sf18
  have FX := Lib.hid (X3.out.fin)
  obtain ⟨Z0, z0, _⟩ := FX.out.b0
  obtain ⟨Z1, z2, _⟩ := FX.out.b1
  have ne1 := FX.out.ne.1
  have FZ0 := Lib.hid z0
  have FZ1 := Lib.hid z2
  have hS19 : Array.size S1 = 19 := by rw [hSV1.out.eq]; rfl
  have hSz : (Try.prog.info? 72).map (·.size) = some (Array.size S1) := by rw [hS19]; exact info_S
  have hS1 : Array.all S1 (·.oneCell') = true := sv_one hSV1.out (FX.out.rf _ (Touch.of_below (Below.refl _ _)))
  clear z0 z2
  go_wp2_with fail
  refine fin_sync FX.out rfl hS19 hS1 rfl (by simp [Value.oneCell']) rfl (fun _ _ _ _ _ h => h) rfl rfl rfl rfl ?_
  (try simp only [zz0, zz1, zz2, Act.put, zz3, zz4, zz5])
  go_wp2
  refine bodyPost_ret (v := .tuple #[.agg S1, .agg #[.int .i64 k, .int .i64 q, .int .u8 20, .int .i64 A, .int .i64 rb, .int .i64 0], .bool true]) (results_two (p := 8) (q := 9) (u := 10) rfl _ _ (w.heap.size + 1 + 1 + 1) (w.heap.size + 1 + 1 + 1 + 1) 72 45 S1 #[.int .i64 k, .int .i64 q, .int .u8 20, .int .i64 A, .int .i64 rb, .int .i64 0] (0, 0) (0, 0) _ _ rfl ((setRow_other _ _ _ _ ne1).trans (setRow_heap _ _ _ _ _ _ FZ0.out)) Try.underlying72 rfl hSz rfl (setRow_heap _ _ _ _ _ _ ((setRow_other _ _ _ _ (Ne.symm ne1)).trans FZ1.out)) Try.underlying45 rfl info_event) rfl ?_
  exact ⟨_, _, _, _, rfl, hSV1.out, fun u' T => FX.out.rf u' (touch_end T rfl rfl rfl rfl), touch_fin FX.out.bel FX.out.lo.1 FX.out.lo.2 rfl rfl rfl rfl⟩
theorem sync_20y (S : Array Value) (p : ProgD) (ca : Option Addr) (ccap : Nat) (ta : Option Addr) (tcap : Nat) (fv : Nat → Value) (rs qs : Value) (fl : Nat → List Int) (n c : Nat) (B : Nat) (w : World) (hS : SV S p ca ccap ta tcap fv rs qs 0) (hO : Ow w B fv rs qs fl n c) (hn : n ≤ 6) (hc : c ≤ 4) (k : Nat) (hk : k < n) (hr4 : (fl (9 + k)).length = 4) (q o0 : Int) (A b : Nat) (C y rb : Int) (hbc : A < c) (hb4 : b < 4) (hb : (fl (9 + k))[b]? = some rb) (h5 : (fl 5)[A]? = some y) (hy : y = 0) (hlen : (fl (15 + A)).length ≤ 1000) :
    Calls Try.prog 59 #[.agg S, .int .i64 k, .agg #[.int .u8 20, .int .i64 A, .int .i64 b, .int .i64 C], .agg #[.int .i64 k, .int .i64 q, .int .u8 20, .int .i64 o0, .int .i64 0, .int .i64 0]] w fun e w' => Rs4 (Held fv rs qs) w w' e p ca ccap ta tcap n c (updF fl (15 + A) (fl (15 + A) ++ [rb])) 0 #[.int .i64 k, .int .i64 q, .int .u8 20, .int .i64 A, .int .i64 rb, .int .i64 0] := by
  go_enter Try.func59, Try.ntmps59
  go_upto_region 1 with (fail)
  generalize hU : World.alloc (World.alloc (World.alloc (World.alloc (World.alloc w _) _) _) _) _ = U0
  have X0 : Hid (Sx (Held fv rs qs) w U0 B (w.heap.size) (w.heap.size + 1) (w.heap.size + 1 + 1) (w.heap.size + 1 + 1 + 1) (w.heap.size + 1 + 1 + 1 + 1) S ⟨20, A, b, C⟩ #[.int .i64 k, .int .i64 q, .int .u8 20, .int .i64 o0, .int .i64 0, .int .i64 0] fv rs qs (fl) n c) := Lib.hid (by rw [← hU]; exact sx_boxes (x := ⟨20, A, b, C⟩) hO rfl rfl)
  have hSV := Lib.hid hS
  clear hU hO
  have hb4' : (b : Int) < 4 := by omega
  obtain ⟨gR, capR, eR, _, ltR, cR⟩ := X0.out.ow.reg hk
  obtain ⟨gr, capr, er, _, _, _⟩ := X0.out.num hb
  rw [hr4] at er
  have EE9 := Lib.hid er
  have H9 : Hid (S[9]? = some (.slice (some ⟨gR, 0, none⟩) n capR)) := Lib.hid (by rw [← eR, hS.eq]; rfl)
  rw [er] at cR
  clear er eR
  obtain ⟨g5, cap5, e5, _, _, lt5⟩ := X0.out.num h5
  have EE5 := Lib.hid e5
  have H14 : Hid (S[14]? = some (.slice (some ⟨g5, 0, none⟩) (fl 5).length cap5)) := Lib.hid (by rw [← e5, hS.eq]; rfl)
  clear e5
  have s9 : U0.cell? ⟨w.heap.size, 9, none⟩ = some (.slice (some ⟨gR, 0, none⟩) n capR) := X0.out.s H9.out
  have cR0 := cR
  have i1 : U0.cell? ⟨w.heap.size + 1, 1, none⟩ = some (.int .i64 A) := X0.out.i.2.1
  have e3 : U0.cell? ⟨w.heap.size + 1 + 1, 3, none⟩ = some (.int .i64 o0) := X0.out.e rfl
  have ef3 : U0.frozen? ⟨w.heap.size + 1 + 1, 3, none⟩ = false := X0.out.eF 3
  go_upto_region 3 with (fail)
  generalize hU : World.setCell _ _ _ = U1
  have X1 : Hid (Sx (Held fv rs qs) w U1 B (w.heap.size) (w.heap.size + 1) (w.heap.size + 1 + 1) (w.heap.size + 1 + 1 + 1) (w.heap.size + 1 + 1 + 1 + 1) S ⟨20, A, b, C⟩ #[.int .i64 k, .int .i64 q, .int .u8 20, .int .i64 A, .int .i64 0, .int .i64 0] fv rs qs (fl) n c) := Lib.hid (by rw [← hU]; exact X0.out.ev 3 (.int .i64 A))
  clear hU X0
  clear s9 i1 e3 ef3
  clear cR cR0
  have i0 : U1.cell? ⟨w.heap.size + 1, 0, none⟩ = some (.int .u8 20) := X1.out.i.1
  have i2 : U1.cell? ⟨w.heap.size + 1, 2, none⟩ = some (.int .i64 b) := X1.out.i.2.2.1
  obtain ⟨cr, crf⟩ := X1.out.at (j := b) (z := rb) EE9.out (hb)
  have e4 : U1.cell? ⟨w.heap.size + 1 + 1, 4, none⟩ = some (.int .i64 0) := X1.out.e rfl
  have ef4 : U1.frozen? ⟨w.heap.size + 1 + 1, 4, none⟩ = false := X1.out.eF 4
  go_upto_region 36 with (fail)
  generalize hU : World.setCell _ _ _ = U2
  have X2 : Hid (Sx (Held fv rs qs) w U2 B (w.heap.size) (w.heap.size + 1) (w.heap.size + 1 + 1) (w.heap.size + 1 + 1 + 1) (w.heap.size + 1 + 1 + 1 + 1) S ⟨20, A, b, C⟩ #[.int .i64 k, .int .i64 q, .int .u8 20, .int .i64 A, .int .i64 rb, .int .i64 0] fv rs qs (fl) n c) := Lib.hid (by rw [← hU]; exact X1.out.ev 4 (.int .i64 rb))
  clear hU X1
  clear i0 i2 cr crf e4 ef4
  have i1 : U2.cell? ⟨w.heap.size + 1, 1, none⟩ = some (.int .i64 A) := X2.out.i.2.1
  have s14 : U2.cell? ⟨w.heap.size, 14, none⟩ = some (.slice (some ⟨g5, 0, none⟩) (fl 5).length cap5) := X2.out.s H14.out
  obtain ⟨c5, c5f⟩ := X2.out.at (j := A) (z := y) EE5.out (h5)
  have s18 : U2.cell? ⟨w.heap.size, 18, none⟩ = some (.int .i64 0) := X2.out.s (by rw [hSV.out.eq]; rfl)
  have sf18 := X2.out.sF 18
  go_upto_region 37 with (fail)
  subst hy
  skip
  obtain ⟨S1, eS⟩ : ∃ S1, S1 = S.setIfInBounds 18 (.int .i64 0) := ⟨_, rfl⟩
  have hSV1 : Hid (SV S1 p ca ccap ta tcap fv rs qs 0) := Lib.hid ⟨by rw [eS, hSV.out.eq]; rfl⟩
  have H9s : Hid (S1[9]? = some (.slice (some ⟨gR, 0, none⟩) n capR)) := Lib.hid (by rw [eS, Array.getElem?_setIfInBounds_ne (by decide)]; exact H9.out)
  have H14s : Hid (S1[14]? = some (.slice (some ⟨g5, 0, none⟩) (fl 5).length cap5)) := Lib.hid (by rw [eS, Array.getElem?_setIfInBounds_ne (by decide)]; exact H14.out)
  generalize hU : World.setCell _ _ _ = U3
  have X3 : Hid (Sx (Held fv rs qs) w U3 B (w.heap.size) (w.heap.size + 1) (w.heap.size + 1 + 1) (w.heap.size + 1 + 1 + 1) (w.heap.size + 1 + 1 + 1 + 1) S1 ⟨20, A, b, C⟩ #[.int .i64 k, .int .i64 q, .int .u8 20, .int .i64 A, .int .i64 rb, .int .i64 0] fv rs qs (fl) n c) := Lib.hid (by rw [← hU]; exact (by rw [eS]; exact X2.out.sv 18 (.int .i64 0)))
  clear hU X2
  clear i1 s14 c5 c5f s18 sf18
  clear eS
  have s18 : U3.cell? ⟨w.heap.size, 18, none⟩ = some (.int .i64 0) := X3.out.s (by rw [hSV1.out.eq]; rfl)
  have sf18 := X3.out.sF 18
  go_upto_region 38 with (fail)
  clear s18 sf18
  obtain ⟨gQ, capQ, eQ, _, ltQ, cQ, cQf⟩ := X3.out.ow.que hbc
  have EQ := Lib.hid eQ
  have H13s : Hid (S1[13]? = some (.slice (some ⟨gQ, 0, none⟩) c capQ)) := Lib.hid (by rw [← eQ, hSV1.out.eq]; rfl)
  obtain ⟨aq, capq, eq, _⟩ := X3.out.ow.rf.row (15 + A)
  have EEQ := Lib.hid eq
  rw [eq] at cQ
  have HQ := Lib.hid cQ
  have HRow : Hid (U3.ownsRow B 3 1 (.slice aq (fl (15 + A)).length capq) (fl (15 + A)).length ((fl (15 + A)).map (.int .i64 ·))) := Lib.hid (by rw [← eq]; exact X3.out.ow.fam.row (15 + A))
  have qn := X3.out.qne EQ.out
  have hgr : (fv (9 + k)).ownBlock = some gr := by rw [EE9.out]; rfl
  clear eQ eq cQ
  have hbc' : (A : Int) < (c : Int) := by omega
  have i1 : U3.cell? ⟨w.heap.size + 1, 1, none⟩ = some (.int .i64 A) := X3.out.i.2.1
  have i2 : U3.cell? ⟨w.heap.size + 1, 2, none⟩ = some (.int .i64 b) := X3.out.i.2.2.1
  have s13 : U3.cell? ⟨w.heap.size, 13, none⟩ = some (.slice (some ⟨gQ, 0, none⟩) c capQ) := X3.out.s H13s.out
  obtain ⟨cr, crf⟩ := X3.out.at (j := b) (z := rb) EE9.out (hb)
  obtain ⟨i0, hi0, hz0, hz1, hz2⟩ := info_parts info_intT
  refine wp_region_held_drew (S := fun u => u.cell? ⟨w.heap.size, 13, none⟩ = some (.slice (some ⟨gQ, 0, none⟩) c capQ) ∧ u.cell? ⟨w.heap.size + 1, 1, none⟩ = some (.int .i64 A) ∧ u.cell? ⟨w.heap.size + 1, 2, none⟩ = some (.int .i64 b) ∧ u.cell? ⟨gr, b, none⟩ = some (.int .i64 rb)) (by kernel_rfl) ⟨s13, i1, i2, cr⟩ (fun hHeld => ?_)
  refine wpAnyH_take (i := 0) (oi := _) (v := ?_) rfl (by kernel_rfl) (by kernel_rfl) (by kernel_rfl) (fun _ _ _ h => h) (Or.inl ⟨by rfl, ?_⟩) hHeld ?_
  rotate_left
  · intro u hSw; obtain ⟨z0, z1, z2, z3⟩ := hSw; go_simp; try (with_reducible rfl)
  (try simp only [zz0, zz1, zz2, Act.put, zz3, zz4, zz5])
  refine wpAnyH_take (i := 1) (oi := _) (v := ?_) rfl (by kernel_rfl) (by kernel_rfl) (by kernel_rfl) (fun _ _ _ h => h) (Or.inl ⟨by rfl, ?_⟩) hHeld ?_
  rotate_left
  · intro u hSw; obtain ⟨z0, z1, z2, z3⟩ := hSw; go_simp; try (with_reducible rfl)
  (try simp only [zz0, zz1, zz2, Act.put, zz3, zz4, zz5])
  refine wpAnyH_take (i := 2) (oi := _) (v := ?_) rfl (by kernel_rfl) (by kernel_rfl) (by kernel_rfl) (fun _ _ _ h => h) (Or.inl ⟨by rfl, ?_⟩) hHeld ?_
  rotate_left
  · intro u hSw; obtain ⟨z0, z1, z2, z3⟩ := hSw; go_simp; try (with_reducible rfl)
  (try simp only [zz0, zz1, zz2, Act.put, zz3, zz4, zz5])
  refine wpAnyH_take (i := 3) (oi := _) (v := ?_) rfl (by kernel_rfl) (by kernel_rfl) (by kernel_rfl) (fun _ _ _ h => h) (Or.inl ⟨by rfl, ?_⟩) hHeld ?_
  rotate_left
  · intro u hSw; obtain ⟨z0, z1, z2, z3⟩ := hSw; go_simp; try (with_reducible rfl)
  (try simp only [zz0, zz1, zz2, Act.put, zz3, zz4, zz5])
  refine wpAnyH_take (i := 4) (oi := _) (v := ?_) rfl (by kernel_rfl) (by kernel_rfl) (by kernel_rfl) (fun _ _ _ h => h) (Or.inl ⟨by rfl, ?_⟩) hHeld ?_
  rotate_left
  · intro u hSw; obtain ⟨z0, z1, z2, z3⟩ := hSw; go_simp; try (with_reducible rfl)
  (try simp only [zz0, zz1, zz2, Act.put, zz3, zz4, zz5])
  refine wpAnyH_take (i := 5) (oi := _) (v := ?_) rfl (by kernel_rfl) (by kernel_rfl) (by kernel_rfl) (fun _ _ _ h => h) (Or.inl ⟨by rfl, ?_⟩) hHeld ?_
  rotate_left
  · intro u hSw; obtain ⟨z0, z1, z2, z3⟩ := hSw; go_simp; try (with_reducible rfl)
  (try simp only [zz0, zz1, zz2, Act.put, zz3, zz4, zz5])
  refine wpAnyH_take (i := 6) (oi := _) (v := ?_) rfl (by kernel_rfl) (by kernel_rfl) (by kernel_rfl) (fun _ _ _ h => h) (Or.inl ⟨by rfl, ?_⟩) hHeld ?_
  rotate_left
  · intro u hSw; obtain ⟨z0, z1, z2, z3⟩ := hSw; go_simp; try (with_reducible rfl)
  (try simp only [zz0, zz1, zz2, Act.put, zz3, zz4, zz5])
  refine wpAnyH_take (i := 7) (oi := _) (v := ?_) rfl (by kernel_rfl) (by kernel_rfl) (by kernel_rfl) (fun _ _ _ h => h) (Or.inl ⟨by rfl, ?_⟩) hHeld ?_
  rotate_left
  · intro u hSw; obtain ⟨z0, z1, z2, z3⟩ := hSw; go_simp; try (with_reducible rfl)
  (try simp only [zz0, zz1, zz2, Act.put, zz3, zz4, zz5])
  refine wpAnyH_take (i := 8) (oi := _) (v := ?_) rfl (by kernel_rfl) (by kernel_rfl) (by kernel_rfl) (fun _ _ _ h => h) (Or.inl ⟨by rfl, ?_⟩) hHeld ?_
  rotate_left
  · intro u hSw; obtain ⟨z0, z1, z2, z3⟩ := hSw; go_simp; try (with_reducible rfl)
  (try simp only [zz0, zz1, zz2, Act.put, zz3, zz4, zz5])
  refine wpAnyH_take (i := 10) (oi := _) (v := ?_) rfl (by kernel_rfl) (by kernel_rfl) (by kernel_rfl) (fun _ _ _ h => h) (Or.inl ⟨by rfl, ?_⟩) hHeld ?_
  rotate_left
  · intro u hSw; obtain ⟨z0, z1, z2, z3⟩ := hSw; go_simp; try (with_reducible rfl)
  (try simp only [zz0, zz1, zz2, Act.put, zz3, zz4, zz5])
  refine wpAnyH_take (i := 11) (oi := _) (v := ?_) rfl (by kernel_rfl) (by kernel_rfl) (by kernel_rfl) (fun _ _ _ h => h) (Or.inl ⟨by rfl, ?_⟩) hHeld ?_
  rotate_left
  · intro u hSw; obtain ⟨z0, z1, z2, z3⟩ := hSw; go_simp; try (with_reducible rfl)
  (try simp only [zz0, zz1, zz2, Act.put, zz3, zz4, zz5])
  refine wpAnyH_take (i := 12) (oi := _) (v := ?_) rfl (by kernel_rfl) (by kernel_rfl) (by kernel_rfl) (fun _ _ _ h => h) (Or.inl ⟨by rfl, ?_⟩) hHeld ?_
  rotate_left
  · intro u hSw; obtain ⟨z0, z1, z2, z3⟩ := hSw; go_simp; try (with_reducible rfl)
  (try simp only [zz0, zz1, zz2, Act.put, zz3, zz4, zz5])
  refine wpAnyH_take (i := 13) (oi := _) (v := ?_) rfl (by kernel_rfl) (by kernel_rfl) (by kernel_rfl) (fun _ _ _ h => h) (Or.inl ⟨by rfl, ?_⟩) hHeld ?_
  rotate_left
  · intro u hSw; obtain ⟨z0, z1, z2, z3⟩ := hSw; go_simp; try (with_reducible rfl)
  (try simp only [zz0, zz1, zz2, Act.put, zz3, zz4, zz5])
  refine wpAnyH_take (i := 14) (oi := _) (v := ?_) rfl (by kernel_rfl) (by kernel_rfl) (by kernel_rfl) (fun _ _ _ h => h) (Or.inl ⟨by rfl, ?_⟩) hHeld ?_
  rotate_left
  · intro u hSw; obtain ⟨z0, z1, z2, z3⟩ := hSw; go_simp; try (with_reducible rfl)
  (try simp only [zz0, zz1, zz2, Act.put, zz3, zz4, zz5])
  have HQD : Hid ((U3.drew).cell? ⟨gQ, A, none⟩ = some (.slice aq (fl (15 + A)).length capq)) := Lib.hid HQ.out
  have HQA : ∀ o, Hid ((World.alloc (U3.drew) o).cell? ⟨gQ, A, none⟩ = some (.slice aq (fl (15 + A)).length capq)) := fun o => Lib.hid (Lib.cell?_alloc_some _ HQD.out)
  have hBA : ∀ o, Below U3.heap.size U3 (World.alloc (U3.drew) o) := fun o => (Below.refl _ U3).drew.alloc (Nat.le_refl _) o
  refine wpAnyH_ready (rs := [9, 15]) (by kernel_rfl) (by simp) ?_
  refine AllReadyH.cons (o := _) rfl (fun K hK => ?_) (AllReadyH.cons (o := _) rfl (fun K hK => ?_) AllReadyH.nil)
  · skip
    have hq := HQD.out
    rw [if_pos (by rfl)]
    go_simp
    clear hq
    refine hK.out _ _ hHeld (fun hHeld => ?_)
    clear hK K
    (try simp only [zz0, zz1, zz2, Act.put, zz3, zz4, zz5])
    refine wpAnyH_ready (rs := [15]) (by kernel_rfl) (by simp) ?_
    refine AllReadyH.cons (o := _) rfl (fun K hK => ?_) AllReadyH.nil
    rw [if_pos (by rfl)]
    go_simp
    refine hK.out _ _ ⟨Lib.cell?_alloc_some _ hHeld.1, Lib.cell?_alloc_some _ hHeld.2.1, Lib.cell?_alloc_some _ hHeld.2.2.1, Lib.cell?_alloc_some _ hHeld.2.2.2⟩ (fun hHeld => ?_)
    clear hK K
    (try simp only [zz0, zz1, zz2, Act.put, zz3, zz4, zz5])
    refine wpAnyH_ready (rs := [16]) (by kernel_rfl) (by simp) ?_
    refine AllReadyH.cons (o := _) rfl (fun K hK => ?_) AllReadyH.nil
    rw [if_pos (by rfl)]
    refine wp_append_own_at _ (.tmp 199) (.tmp 205) 24 rfl B 3 i0 (.int .i64 0) 1 8 Try.underlying24 hi0 hz0 hz1 hz2 rfl (by decide) (.slice aq (fl (15 + A)).length capq) _ _ rfl (own_later HRow.out (hBA _)) ⟨U3.heap.size, 0, none⟩ 1 1 [.int .i64 rb] rfl rfl (cell_one_new _ _ _) (by simp [Value.oneCell']) (by unfold maxLen; omega) (by omega) (Nat.le_trans X3.out.ow.fam.top (hBA _).size) ?_
    intro v' w5 hown hgrow _ hat
    obtain ⟨g7, cap7, rfl⟩ := ownsRow_succ hown
    rw [← EEQ.out] at hgrow hat
    refine hK.out _ _ ⟨hgrow.cell hHeld.1 (fun e => (fun e => (X3.out.ap _ (.inl ⟨15 + A, e⟩)).1 rfl) e.symm), hgrow.cell hHeld.2.1 (fun e => (fun e => (X3.out.ap _ (.inl ⟨15 + A, e⟩)).2.1 rfl) e.symm), hgrow.cell hHeld.2.2.1 (fun e => (fun e => (X3.out.ap _ (.inl ⟨15 + A, e⟩)).2.1 rfl) e.symm), hgrow.cell hHeld.2.2.2 (fun e => (apart_ne (X3.out.ow.fam.ap (9 + k) (15 + A) (by omega)) hgr) e.symm)⟩ (fun hHeld => ?_)
    clear hK K
    (try simp only [zz0, zz1, zz2, Act.put, zz3, zz4, zz5])
    refine wpAnyH_take (i := 17) (oi := _) (v := ?_) rfl (by kernel_rfl) (by kernel_rfl) (by kernel_rfl) (fun _ _ _ h => h) (Or.inl ⟨by rfl, ?_⟩) hHeld ?_
    rotate_left
    · intro u hSw; clear hSw; go_simp; try (with_reducible rfl)
    (try simp only [zz0, zz1, zz2, Act.put, zz3, zz4, zz5])
    have cst := hgrow.cell (HQA _).out (fun e => (qn.2.1 (15 + A) gQ e.symm) rfl)
    have cstf := grown_frozen hgrow (Nat.lt_of_lt_of_le ltQ (hBA _).size) (fun e => (qn.2.1 (15 + A) gQ e.symm) rfl) (((hBA _).frozen (p := ⟨gQ, A, none⟩) ltQ).trans cQf)
    refine wpAnyH_ready (rs := [18]) (by kernel_rfl) (by simp) ?_
    refine AllReadyH.cons (o := _) rfl (fun K hK => ?_) AllReadyH.nil
    rw [if_pos (by rfl)]
    go_simp
    refine hK.out _ _ ⟨(pop_cell qn.1.1).trans hHeld.1, (pop_cell qn.1.2.1).trans hHeld.2.1, (pop_cell qn.1.2.1).trans hHeld.2.2.1, (pop_cell (qn.2.1 (9 + k) gr hgr)).trans hHeld.2.2.2⟩ (fun hHeld => ?_)
    clear hK K
    (try simp only [zz0, zz1, zz2, Act.put, zz3, zz4, zz5])
    refine wpAnyH_done (by kernel_rfl) ?_ _
    go_wp2_with fail
    generalize hU : World.setCell _ _ _ = U4
    have X4 : Hid (Sx (Held fv rs qs) w U4 B (w.heap.size) (w.heap.size + 1) (w.heap.size + 1 + 1) (w.heap.size + 1 + 1 + 1) (w.heap.size + 1 + 1 + 1 + 1) S1 ⟨20, A, b, C⟩ #[.int .i64 k, .int .i64 q, .int .u8 20, .int .i64 A, .int .i64 rb, .int .i64 0] (updF fv (15 + A) (.slice (some ⟨g7, 0, none⟩) ((fl (15 + A)).length + 1) cap7)) rs qs (updF fl (15 + A) (fl (15 + A) ++ [rb])) n c) := Lib.hid (by rw [← hU]; exact X3.out.push hn hbc EQ.out (hBA _) hgrow (by simpa using hown) hat)
    have hSP := Lib.hid (sv_pop hSV1.out A (.slice (some ⟨g7, 0, none⟩) ((fl (15 + A)).length + 1) cap7))
    clear hU hown hgrow hat HQA HQD HRow HQ cst cstf hBA hHeld X3
    clear i1 i2 s13 cr crf
    have FX := Lib.hid (X4.out.fin)
    obtain ⟨Z0, z0, _⟩ := FX.out.b0
    obtain ⟨Z1, z2, _⟩ := FX.out.b1
    have ne1 := FX.out.ne.1
    have FZ0 := Lib.hid z0
    have FZ1 := Lib.hid z2
    have hS19 : Array.size S1 = 19 := by rw [hSP.out.eq]; rfl
    have hSz : (Try.prog.info? 72).map (·.size) = some (Array.size S1) := by rw [hS19]; exact info_S
    have hS1 : Array.all S1 (·.oneCell') = true := sv_one hSP.out (FX.out.rf _ (Touch.of_below (Below.refl _ _)))
    clear z0 z2
    go_wp2_with fail
    refine fin_sync FX.out rfl hS19 hS1 rfl (by simp [Value.oneCell']) rfl (fun _ _ _ _ _ h => h) rfl rfl rfl rfl ?_
    (try simp only [zz0, zz1, zz2, Act.put, zz3, zz4, zz5])
    go_wp2
    refine bodyPost_ret (v := .tuple #[.agg S1, .agg #[.int .i64 k, .int .i64 q, .int .u8 20, .int .i64 A, .int .i64 rb, .int .i64 0], .bool true]) (results_two (p := 8) (q := 9) (u := 10) rfl _ _ (w.heap.size + 1 + 1 + 1) (w.heap.size + 1 + 1 + 1 + 1) 72 45 S1 #[.int .i64 k, .int .i64 q, .int .u8 20, .int .i64 A, .int .i64 rb, .int .i64 0] (0, 0) (0, 0) _ _ rfl ((setRow_other _ _ _ _ ne1).trans (setRow_heap _ _ _ _ _ _ FZ0.out)) Try.underlying72 rfl hSz rfl (setRow_heap _ _ _ _ _ _ ((setRow_other _ _ _ _ (Ne.symm ne1)).trans FZ1.out)) Try.underlying45 rfl info_event) rfl ?_
    exact ⟨_, _, _, _, rfl, hSP.out, fun u' T => FX.out.rf u' (touch_end T rfl rfl rfl rfl), touch_fin FX.out.bel FX.out.lo.1 FX.out.lo.2 rfl rfl rfl rfl⟩
  · skip
    rw [if_pos (by rfl)]
    go_simp
    refine hK.out _ _ ⟨Lib.cell?_alloc_some _ hHeld.1, Lib.cell?_alloc_some _ hHeld.2.1, Lib.cell?_alloc_some _ hHeld.2.2.1, Lib.cell?_alloc_some _ hHeld.2.2.2⟩ (fun hHeld => ?_)
    clear hK K
    (try simp only [zz0, zz1, zz2, Act.put, zz3, zz4, zz5])
    refine wpAnyH_ready (rs := [9]) (by kernel_rfl) (by simp) ?_
    refine AllReadyH.cons (o := _) rfl (fun K hK => ?_) AllReadyH.nil
    have hq : (World.drew (World.alloc U3 (.cells #[.int .i64 rb] 3))).cell? ⟨gQ, A, none⟩ = some (.slice aq (fl (15 + A)).length capq) := (HQA (.cells #[.int .i64 rb] 3)).out
    rw [if_pos (by rfl)]
    go_simp
    clear hq
    refine hK.out _ _ hHeld (fun hHeld => ?_)
    clear hK K
    (try simp only [zz0, zz1, zz2, Act.put, zz3, zz4, zz5])
    refine wpAnyH_ready (rs := [16]) (by kernel_rfl) (by simp) ?_
    refine AllReadyH.cons (o := _) rfl (fun K hK => ?_) AllReadyH.nil
    rw [if_pos (by rfl)]
    refine wp_append_own_at _ (.tmp 199) (.tmp 205) 24 rfl B 3 i0 (.int .i64 0) 1 8 Try.underlying24 hi0 hz0 hz1 hz2 rfl (by decide) (.slice aq (fl (15 + A)).length capq) _ _ rfl (own_later HRow.out (hBA _)) ⟨U3.heap.size, 0, none⟩ 1 1 [.int .i64 rb] rfl rfl (cell_one_new _ _ _) (by simp [Value.oneCell']) (by unfold maxLen; omega) (by omega) (Nat.le_trans X3.out.ow.fam.top (hBA _).size) ?_
    intro v' w5 hown hgrow _ hat
    obtain ⟨g7, cap7, rfl⟩ := ownsRow_succ hown
    rw [← EEQ.out] at hgrow hat
    refine hK.out _ _ ⟨hgrow.cell hHeld.1 (fun e => (fun e => (X3.out.ap _ (.inl ⟨15 + A, e⟩)).1 rfl) e.symm), hgrow.cell hHeld.2.1 (fun e => (fun e => (X3.out.ap _ (.inl ⟨15 + A, e⟩)).2.1 rfl) e.symm), hgrow.cell hHeld.2.2.1 (fun e => (fun e => (X3.out.ap _ (.inl ⟨15 + A, e⟩)).2.1 rfl) e.symm), hgrow.cell hHeld.2.2.2 (fun e => (apart_ne (X3.out.ow.fam.ap (9 + k) (15 + A) (by omega)) hgr) e.symm)⟩ (fun hHeld => ?_)
    clear hK K
    (try simp only [zz0, zz1, zz2, Act.put, zz3, zz4, zz5])
    refine wpAnyH_take (i := 17) (oi := _) (v := ?_) rfl (by kernel_rfl) (by kernel_rfl) (by kernel_rfl) (fun _ _ _ h => h) (Or.inl ⟨by rfl, ?_⟩) hHeld ?_
    rotate_left
    · intro u hSw; clear hSw; go_simp; try (with_reducible rfl)
    (try simp only [zz0, zz1, zz2, Act.put, zz3, zz4, zz5])
    have cst := hgrow.cell (HQA _).out (fun e => (qn.2.1 (15 + A) gQ e.symm) rfl)
    have cstf := grown_frozen hgrow (Nat.lt_of_lt_of_le ltQ (hBA _).size) (fun e => (qn.2.1 (15 + A) gQ e.symm) rfl) (((hBA _).frozen (p := ⟨gQ, A, none⟩) ltQ).trans cQf)
    refine wpAnyH_ready (rs := [18]) (by kernel_rfl) (by simp) ?_
    refine AllReadyH.cons (o := _) rfl (fun K hK => ?_) AllReadyH.nil
    rw [if_pos (by rfl)]
    go_simp
    refine hK.out _ _ ⟨(pop_cell qn.1.1).trans hHeld.1, (pop_cell qn.1.2.1).trans hHeld.2.1, (pop_cell qn.1.2.1).trans hHeld.2.2.1, (pop_cell (qn.2.1 (9 + k) gr hgr)).trans hHeld.2.2.2⟩ (fun hHeld => ?_)
    clear hK K
    (try simp only [zz0, zz1, zz2, Act.put, zz3, zz4, zz5])
    refine wpAnyH_done (by kernel_rfl) ?_ _
    go_wp2_with fail
    generalize hU : World.setCell _ _ _ = U4
    have X4 : Hid (Sx (Held fv rs qs) w U4 B (w.heap.size) (w.heap.size + 1) (w.heap.size + 1 + 1) (w.heap.size + 1 + 1 + 1) (w.heap.size + 1 + 1 + 1 + 1) S1 ⟨20, A, b, C⟩ #[.int .i64 k, .int .i64 q, .int .u8 20, .int .i64 A, .int .i64 rb, .int .i64 0] (updF fv (15 + A) (.slice (some ⟨g7, 0, none⟩) ((fl (15 + A)).length + 1) cap7)) rs qs (updF fl (15 + A) (fl (15 + A) ++ [rb])) n c) := Lib.hid (by rw [← hU]; exact X3.out.push hn hbc EQ.out (hBA _) hgrow (by simpa using hown) hat)
    have hSP := Lib.hid (sv_pop hSV1.out A (.slice (some ⟨g7, 0, none⟩) ((fl (15 + A)).length + 1) cap7))
    clear hU hown hgrow hat HQA HQD HRow HQ cst cstf hBA hHeld X3
    clear i1 i2 s13 cr crf
    have FX := Lib.hid (X4.out.fin)
    obtain ⟨Z0, z0, _⟩ := FX.out.b0
    obtain ⟨Z1, z2, _⟩ := FX.out.b1
    have ne1 := FX.out.ne.1
    have FZ0 := Lib.hid z0
    have FZ1 := Lib.hid z2
    have hS19 : Array.size S1 = 19 := by rw [hSP.out.eq]; rfl
    have hSz : (Try.prog.info? 72).map (·.size) = some (Array.size S1) := by rw [hS19]; exact info_S
    have hS1 : Array.all S1 (·.oneCell') = true := sv_one hSP.out (FX.out.rf _ (Touch.of_below (Below.refl _ _)))
    clear z0 z2
    go_wp2_with fail
    refine fin_sync FX.out rfl hS19 hS1 rfl (by simp [Value.oneCell']) rfl (fun _ _ _ _ _ h => h) rfl rfl rfl rfl ?_
    (try simp only [zz0, zz1, zz2, Act.put, zz3, zz4, zz5])
    go_wp2
    refine bodyPost_ret (v := .tuple #[.agg S1, .agg #[.int .i64 k, .int .i64 q, .int .u8 20, .int .i64 A, .int .i64 rb, .int .i64 0], .bool true]) (results_two (p := 8) (q := 9) (u := 10) rfl _ _ (w.heap.size + 1 + 1 + 1) (w.heap.size + 1 + 1 + 1 + 1) 72 45 S1 #[.int .i64 k, .int .i64 q, .int .u8 20, .int .i64 A, .int .i64 rb, .int .i64 0] (0, 0) (0, 0) _ _ rfl ((setRow_other _ _ _ _ ne1).trans (setRow_heap _ _ _ _ _ _ FZ0.out)) Try.underlying72 rfl hSz rfl (setRow_heap _ _ _ _ _ _ ((setRow_other _ _ _ _ (Ne.symm ne1)).trans FZ1.out)) Try.underlying45 rfl info_event) rfl ?_
    exact ⟨_, _, _, _, rfl, hSP.out, fun u' T => FX.out.rf u' (touch_end T rfl rfl rfl rfl), touch_fin FX.out.bel FX.out.lo.1 FX.out.lo.2 rfl rfl rfl rfl⟩
end Go.Proofs.Ytnbpneaiibandaa
