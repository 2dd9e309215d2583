/- What the laws of this seat stand on, part 11. -/
import Derived.Test.YtnbpneaiibandaaPa0
import Derived.Test.YtnbpneaiibandaaPa10
set_option linter.unusedVariables false
set_option linter.unusedSimpArgs false
set_option maxRecDepth 100000
set_option maxHeartbeats 40000000
namespace Go.Proofs.Ytnbpneaiibandaa
open Go.ChangeShapes Go.WideShapes Go.ChangeAt Go.RowKit
theorem sync_0 (S : Array Value) (p : ProgD) (ca : Option Addr) (ccap : Nat) (ta : Option Addr) (tcap : Nat) (fv : Nat → Value) (rs qs : Value) (fl : Nat → List Int) (n c : Nat) (B : Nat) (w : World) (hS : SV S p ca ccap ta tcap fv rs qs 0) (hO : Ow w B fv rs qs fl n c) (hn : n ≤ 6) (hc : c ≤ 4) (k : Nat) (hk : k < n) (hr4 : (fl (9 + k)).length = 4) (q o0 a b C : Int) :
    Calls Try.prog 59 #[.agg S, .int .i64 k, .agg #[.int .u8 0, .int .i64 a, .int .i64 b, .int .i64 C], .agg #[.int .i64 k, .int .i64 q, .int .u8 0, .int .i64 o0, .int .i64 0, .int .i64 0]] w fun e w' => Rs4 (Held fv rs qs) w w' e p ca ccap ta tcap n c (fl) 0 #[.int .i64 k, .int .i64 q, .int .u8 0, .int .i64 0, .int .i64 0, .int .i64 0] := by
  go_enter Try.func59, Try.ntmps59
  go_upto_region 1 with (fail)
  generalize hU : World.alloc (World.alloc (World.alloc (World.alloc (World.alloc w _) _) _) _) _ = U0
  have X0 : Hid (Sx (Held fv rs qs) w U0 B (w.heap.size) (w.heap.size + 1) (w.heap.size + 1 + 1) (w.heap.size + 1 + 1 + 1) (w.heap.size + 1 + 1 + 1 + 1) S ⟨0, a, b, C⟩ #[.int .i64 k, .int .i64 q, .int .u8 0, .int .i64 o0, .int .i64 0, .int .i64 0] fv rs qs (fl) n c) := Lib.hid (by rw [← hU]; exact sx_boxes (x := ⟨0, a, b, C⟩) hO rfl rfl)
  have hSV := Lib.hid hS
  clear hU hO
  obtain ⟨rz, hz⟩ := at_lt (l := fl (9 + k)) (k := 0) (by omega)
  obtain ⟨gR, capR, eR, _, ltR, cR⟩ := X0.out.ow.reg hk
  obtain ⟨gr, capr, er, _, _, _⟩ := X0.out.num hz
  rw [hr4] at er
  have EE9 := Lib.hid er
  have H9 : Hid (S[9]? = some (.slice (some ⟨gR, 0, none⟩) n capR)) := Lib.hid (by rw [← eR, hS.eq]; rfl)
  rw [er] at cR
  clear er eR
  have s9 : U0.cell? ⟨w.heap.size, 9, none⟩ = some (.slice (some ⟨gR, 0, none⟩) n capR) := X0.out.s H9.out
  have cR0 := cR
  have i1 : U0.cell? ⟨w.heap.size + 1, 1, none⟩ = some (.int .i64 a) := X0.out.i.2.1
  have e3 : U0.cell? ⟨w.heap.size + 1 + 1, 3, none⟩ = some (.int .i64 o0) := X0.out.e rfl
  have ef3 : U0.frozen? ⟨w.heap.size + 1 + 1, 3, none⟩ = false := X0.out.eF 3
  go_upto_region 3 with (fail)
  generalize hU : World.setCell _ _ _ = U1
  have X1 : Hid (Sx (Held fv rs qs) w U1 B (w.heap.size) (w.heap.size + 1) (w.heap.size + 1 + 1) (w.heap.size + 1 + 1 + 1) (w.heap.size + 1 + 1 + 1 + 1) S ⟨0, a, b, C⟩ #[.int .i64 k, .int .i64 q, .int .u8 0, .int .i64 a, .int .i64 0, .int .i64 0] fv rs qs (fl) n c) := Lib.hid (by rw [← hU]; exact X0.out.ev 3 (.int .i64 a))
  clear hU X0
  clear s9 i1 e3 ef3
  clear cR cR0
  have i0 : U1.cell? ⟨w.heap.size + 1, 0, none⟩ = some (.int .u8 0) := X1.out.i.1
  have e3 : U1.cell? ⟨w.heap.size + 1 + 1, 3, none⟩ = some (.int .i64 a) := X1.out.e rfl
  have ef3 : U1.frozen? ⟨w.heap.size + 1 + 1, 3, none⟩ = false := X1.out.eF 3
  go_wp2_with fail
  generalize hU : World.setCell _ _ _ = U2
  have X2 : Hid (Sx (Held fv rs qs) w U2 B (w.heap.size) (w.heap.size + 1) (w.heap.size + 1 + 1) (w.heap.size + 1 + 1 + 1) (w.heap.size + 1 + 1 + 1 + 1) S ⟨0, a, b, C⟩ #[.int .i64 k, .int .i64 q, .int .u8 0, .int .i64 0, .int .i64 0, .int .i64 0] fv rs qs (fl) n c) := Lib.hid (by rw [← hU]; exact X1.out.ev 3 (.int .i64 0))
  clear hU X1
  clear i0 e3 ef3
  have FX := Lib.hid (X2.out.fin)
  obtain ⟨Z0, z0, _⟩ := FX.out.b0
  obtain ⟨Z1, z2, _⟩ := FX.out.b1
  have ne1 := FX.out.ne.1
  have FZ0 := Lib.hid z0
  have FZ1 := Lib.hid z2
  have hS19 : Array.size S = 19 := by rw [hSV.out.eq]; rfl
  have hSz : (Try.prog.info? 72).map (·.size) = some (Array.size S) := by rw [hS19]; exact info_S
  have hS1 : Array.all S (·.oneCell') = true := sv_one hSV.out (FX.out.rf _ (Touch.of_below (Below.refl _ _)))
  clear z0 z2
  go_wp2_with fail
  refine fin_sync FX.out rfl hS19 hS1 rfl (by simp [Value.oneCell']) rfl (fun _ _ _ _ _ h => h) rfl rfl rfl rfl ?_
  (try simp only [zz0, zz1, zz2, Act.put, zz3, zz4, zz5])
  go_wp2
  refine bodyPost_ret (v := .tuple #[.agg S, .agg #[.int .i64 k, .int .i64 q, .int .u8 0, .int .i64 0, .int .i64 0, .int .i64 0], .bool true]) (results_two (p := 8) (q := 9) (u := 10) rfl _ _ (w.heap.size + 1 + 1 + 1) (w.heap.size + 1 + 1 + 1 + 1) 72 45 S #[.int .i64 k, .int .i64 q, .int .u8 0, .int .i64 0, .int .i64 0, .int .i64 0] (0, 0) (0, 0) _ _ rfl ((setRow_other _ _ _ _ ne1).trans (setRow_heap _ _ _ _ _ _ FZ0.out)) Try.underlying72 rfl hSz rfl (setRow_heap _ _ _ _ _ _ ((setRow_other _ _ _ _ (Ne.symm ne1)).trans FZ1.out)) Try.underlying45 rfl info_event) rfl ?_
  exact ⟨_, _, _, _, rfl, hSV.out, fun u' T => FX.out.rf u' (touch_end T rfl rfl rfl rfl), touch_fin FX.out.bel FX.out.lo.1 FX.out.lo.2 rfl rfl rfl rfl⟩
theorem sync_25 (S : Array Value) (p : ProgD) (ca : Option Addr) (ccap : Nat) (ta : Option Addr) (tcap : Nat) (fv : Nat → Value) (rs qs : Value) (fl : Nat → List Int) (n c : Nat) (B : Nat) (w : World) (hS : SV S p ca ccap ta tcap fv rs qs 0) (hO : Ow w B fv rs qs fl n c) (hn : n ≤ 6) (hc : c ≤ 4) (k : Nat) (hk : k < n) (hr4 : (fl (9 + k)).length = 4) (q o0 a b C : Int) :
    Calls Try.prog 59 #[.agg S, .int .i64 k, .agg #[.int .u8 25, .int .i64 a, .int .i64 b, .int .i64 C], .agg #[.int .i64 k, .int .i64 q, .int .u8 25, .int .i64 o0, .int .i64 0, .int .i64 0]] w fun e w' => Rs4 (Held fv rs qs) w w' e p ca ccap ta tcap n c (fl) 0 #[.int .i64 k, .int .i64 q, .int .u8 25, .int .i64 a, .int .i64 0, .int .i64 0] := by
  go_enter Try.func59, Try.ntmps59
  go_upto_region 1 with (fail)
  generalize hU : World.alloc (World.alloc (World.alloc (World.alloc (World.alloc w _) _) _) _) _ = U0
  have X0 : Hid (Sx (Held fv rs qs) w U0 B (w.heap.size) (w.heap.size + 1) (w.heap.size + 1 + 1) (w.heap.size + 1 + 1 + 1) (w.heap.size + 1 + 1 + 1 + 1) S ⟨25, a, b, C⟩ #[.int .i64 k, .int .i64 q, .int .u8 25, .int .i64 o0, .int .i64 0, .int .i64 0] fv rs qs (fl) n c) := Lib.hid (by rw [← hU]; exact sx_boxes (x := ⟨25, a, b, C⟩) hO rfl rfl)
  have hSV := Lib.hid hS
  clear hU hO
  obtain ⟨rz, hz⟩ := at_lt (l := fl (9 + k)) (k := 0) (by omega)
  obtain ⟨gR, capR, eR, _, ltR, cR⟩ := X0.out.ow.reg hk
  obtain ⟨gr, capr, er, _, _, _⟩ := X0.out.num hz
  rw [hr4] at er
  have EE9 := Lib.hid er
  have H9 : Hid (S[9]? = some (.slice (some ⟨gR, 0, none⟩) n capR)) := Lib.hid (by rw [← eR, hS.eq]; rfl)
  rw [er] at cR
  clear er eR
  have s9 : U0.cell? ⟨w.heap.size, 9, none⟩ = some (.slice (some ⟨gR, 0, none⟩) n capR) := X0.out.s H9.out
  have cR0 := cR
  have i1 : U0.cell? ⟨w.heap.size + 1, 1, none⟩ = some (.int .i64 a) := X0.out.i.2.1
  have e3 : U0.cell? ⟨w.heap.size + 1 + 1, 3, none⟩ = some (.int .i64 o0) := X0.out.e rfl
  have ef3 : U0.frozen? ⟨w.heap.size + 1 + 1, 3, none⟩ = false := X0.out.eF 3
  go_upto_region 3 with (fail)
  generalize hU : World.setCell _ _ _ = U1
  have X1 : Hid (Sx (Held fv rs qs) w U1 B (w.heap.size) (w.heap.size + 1) (w.heap.size + 1 + 1) (w.heap.size + 1 + 1 + 1) (w.heap.size + 1 + 1 + 1 + 1) S ⟨25, a, b, C⟩ #[.int .i64 k, .int .i64 q, .int .u8 25, .int .i64 a, .int .i64 0, .int .i64 0] fv rs qs (fl) n c) := Lib.hid (by rw [← hU]; exact X0.out.ev 3 (.int .i64 a))
  clear hU X0
  clear s9 i1 e3 ef3
  clear cR cR0
  have i0 : U1.cell? ⟨w.heap.size + 1, 0, none⟩ = some (.int .u8 25) := X1.out.i.1
  go_wp2_with fail
  clear i0
  have FX := Lib.hid (X1.out.fin)
  obtain ⟨Z0, z0, _⟩ := FX.out.b0
  obtain ⟨Z1, z2, _⟩ := FX.out.b1
  have ne1 := FX.out.ne.1
  have FZ0 := Lib.hid z0
  have FZ1 := Lib.hid z2
  have hS19 : Array.size S = 19 := by rw [hSV.out.eq]; rfl
  have hSz : (Try.prog.info? 72).map (·.size) = some (Array.size S) := by rw [hS19]; exact info_S
  have hS1 : Array.all S (·.oneCell') = true := sv_one hSV.out (FX.out.rf _ (Touch.of_below (Below.refl _ _)))
  clear z0 z2
  go_wp2_with fail
  refine fin_sync FX.out rfl hS19 hS1 rfl (by simp [Value.oneCell']) rfl (fun _ _ _ _ _ h => h) rfl rfl rfl rfl ?_
  (try simp only [zz0, zz1, zz2, Act.put, zz3, zz4, zz5])
  go_wp2
  refine bodyPost_ret (v := .tuple #[.agg S, .agg #[.int .i64 k, .int .i64 q, .int .u8 25, .int .i64 a, .int .i64 0, .int .i64 0], .bool true]) (results_two (p := 8) (q := 9) (u := 10) rfl _ _ (w.heap.size + 1 + 1 + 1) (w.heap.size + 1 + 1 + 1 + 1) 72 45 S #[.int .i64 k, .int .i64 q, .int .u8 25, .int .i64 a, .int .i64 0, .int .i64 0] (0, 0) (0, 0) _ _ rfl ((setRow_other _ _ _ _ ne1).trans (setRow_heap _ _ _ _ _ _ FZ0.out)) Try.underlying72 rfl hSz rfl (setRow_heap _ _ _ _ _ _ ((setRow_other _ _ _ _ (Ne.symm ne1)).trans FZ1.out)) Try.underlying45 rfl info_event) rfl ?_
  exact ⟨_, _, _, _, rfl, hSV.out, fun u' T => FX.out.rf u' (touch_end T rfl rfl rfl rfl), touch_fin FX.out.bel FX.out.lo.1 FX.out.lo.2 rfl rfl rfl rfl⟩
theorem sync_12 (S : Array Value) (p : ProgD) (ca : Option Addr) (ccap : Nat) (ta : Option Addr) (tcap : Nat) (fv : Nat → Value) (rs qs : Value) (fl : Nat → List Int) (n c : Nat) (B : Nat) (w : World) (hS : SV S p ca ccap ta tcap fv rs qs 0) (hO : Ow w B fv rs qs fl n c) (hn : n ≤ 6) (hc : c ≤ 4) (k : Nat) (hk : k < n) (hr4 : (fl (9 + k)).length = 4) (q o0 : Int) (A : Nat) (b C y : Int) (h1 : (fl 1)[A]? = some y) :
    Calls Try.prog 59 #[.agg S, .int .i64 k, .agg #[.int .u8 12, .int .i64 A, .int .i64 b, .int .i64 C], .agg #[.int .i64 k, .int .i64 q, .int .u8 12, .int .i64 o0, .int .i64 0, .int .i64 0]] w fun e w' => Rs4 (Held fv rs qs) w w' e p ca ccap ta tcap n c (updF fl (1) ((fl (1)).set A 1)) y #[.int .i64 k, .int .i64 q, .int .u8 12, .int .i64 A, .int .i64 0, .int .i64 0] := by
  go_enter Try.func59, Try.ntmps59
  go_upto_region 1 with (fail)
  generalize hU : World.alloc (World.alloc (World.alloc (World.alloc (World.alloc w _) _) _) _) _ = U0
  have X0 : Hid (Sx (Held fv rs qs) w U0 B (w.heap.size) (w.heap.size + 1) (w.heap.size + 1 + 1) (w.heap.size + 1 + 1 + 1) (w.heap.size + 1 + 1 + 1 + 1) S ⟨12, A, b, C⟩ #[.int .i64 k, .int .i64 q, .int .u8 12, .int .i64 o0, .int .i64 0, .int .i64 0] fv rs qs (fl) n c) := Lib.hid (by rw [← hU]; exact sx_boxes (x := ⟨12, A, b, C⟩) hO rfl rfl)
  have hSV := Lib.hid hS
  clear hU hO
  obtain ⟨rz, hz⟩ := at_lt (l := fl (9 + k)) (k := 0) (by omega)
  obtain ⟨gR, capR, eR, _, ltR, cR⟩ := X0.out.ow.reg hk
  obtain ⟨gr, capr, er, _, _, _⟩ := X0.out.num hz
  rw [hr4] at er
  have EE9 := Lib.hid er
  have H9 : Hid (S[9]? = some (.slice (some ⟨gR, 0, none⟩) n capR)) := Lib.hid (by rw [← eR, hS.eq]; rfl)
  rw [er] at cR
  clear er eR
  obtain ⟨g1, cap1, e1, _, _, lt1⟩ := X0.out.num h1
  have EE1 := Lib.hid e1
  have H8 : Hid (S[8]? = some (.slice (some ⟨g1, 0, none⟩) (fl 1).length cap1)) := Lib.hid (by rw [← e1, hS.eq]; rfl)
  clear e1
  have s9 : U0.cell? ⟨w.heap.size, 9, none⟩ = some (.slice (some ⟨gR, 0, none⟩) n capR) := X0.out.s H9.out
  have cR0 := cR
  have i1 : U0.cell? ⟨w.heap.size + 1, 1, none⟩ = some (.int .i64 A) := X0.out.i.2.1
  have e3 : U0.cell? ⟨w.heap.size + 1 + 1, 3, none⟩ = some (.int .i64 o0) := X0.out.e rfl
  have ef3 : U0.frozen? ⟨w.heap.size + 1 + 1, 3, none⟩ = false := X0.out.eF 3
  go_upto_region 3 with (fail)
  generalize hU : World.setCell _ _ _ = U1
  have X1 : Hid (Sx (Held fv rs qs) w U1 B (w.heap.size) (w.heap.size + 1) (w.heap.size + 1 + 1) (w.heap.size + 1 + 1 + 1) (w.heap.size + 1 + 1 + 1 + 1) S ⟨12, A, b, C⟩ #[.int .i64 k, .int .i64 q, .int .u8 12, .int .i64 A, .int .i64 0, .int .i64 0] fv rs qs (fl) n c) := Lib.hid (by rw [← hU]; exact X0.out.ev 3 (.int .i64 A))
  clear hU X0
  clear s9 i1 e3 ef3
  clear cR cR0
  have i0 : U1.cell? ⟨w.heap.size + 1, 0, none⟩ = some (.int .u8 12) := X1.out.i.1
  have i1 : U1.cell? ⟨w.heap.size + 1, 1, none⟩ = some (.int .i64 A) := X1.out.i.2.1
  have s8 : U1.cell? ⟨w.heap.size, 8, none⟩ = some (.slice (some ⟨g1, 0, none⟩) (fl 1).length cap1) := X1.out.s H8.out
  obtain ⟨c1, c1f⟩ := X1.out.at (j := A) (z := y) EE1.out (h1)
  have s18 : U1.cell? ⟨w.heap.size, 18, none⟩ = some (.int .i64 0) := X1.out.s (by rw [hSV.out.eq]; rfl)
  have sf18 := X1.out.sF 18
  go_upto_region 9 with (fail)
  obtain ⟨S1, eS⟩ : ∃ S1, S1 = S.setIfInBounds 18 (.int .i64 y) := ⟨_, rfl⟩
  have hSV1 : Hid (SV S1 p ca ccap ta tcap fv rs qs y) := Lib.hid ⟨by rw [eS, hSV.out.eq]; rfl⟩
  have H9s : Hid (S1[9]? = some (.slice (some ⟨gR, 0, none⟩) n capR)) := Lib.hid (by rw [eS, Array.getElem?_setIfInBounds_ne (by decide)]; exact H9.out)
  have H8s : Hid (S1[8]? = some (.slice (some ⟨g1, 0, none⟩) (fl 1).length cap1)) := Lib.hid (by rw [eS, Array.getElem?_setIfInBounds_ne (by decide)]; exact H8.out)
  generalize hU : World.setCell _ _ _ = U2
  have X2 : Hid (Sx (Held fv rs qs) w U2 B (w.heap.size) (w.heap.size + 1) (w.heap.size + 1 + 1) (w.heap.size + 1 + 1 + 1) (w.heap.size + 1 + 1 + 1 + 1) S1 ⟨12, A, b, C⟩ #[.int .i64 k, .int .i64 q, .int .u8 12, .int .i64 A, .int .i64 0, .int .i64 0] fv rs qs (fl) n c) := Lib.hid (by rw [← hU]; exact (by rw [eS]; exact X1.out.sv 18 (.int .i64 y)))
  clear hU X1
  clear i0 i1 s8 c1 c1f s18 sf18
  clear eS
  have i1 : U2.cell? ⟨w.heap.size + 1, 1, none⟩ = some (.int .i64 A) := X2.out.i.2.1
  have s8 : U2.cell? ⟨w.heap.size, 8, none⟩ = some (.slice (some ⟨g1, 0, none⟩) (fl 1).length cap1) := X2.out.s H8s.out
  obtain ⟨c1, c1f⟩ := X2.out.at (j := A) (z := y) EE1.out (h1)
  go_wp2_with fail
  generalize hU : World.setCell _ _ _ = U3
  have X3 : Hid (Sx (Held fv rs qs) w U3 B (w.heap.size) (w.heap.size + 1) (w.heap.size + 1 + 1) (w.heap.size + 1 + 1 + 1) (w.heap.size + 1 + 1 + 1 + 1) S1 ⟨12, A, b, C⟩ #[.int .i64 k, .int .i64 q, .int .u8 12, .int .i64 A, .int .i64 0, .int .i64 0] fv rs qs (updF fl (1) ((fl (1)).set A 1)) n c) := Lib.hid (by rw [← hU]; exact X2.out.put' EE1.out (lt1) 1)
  clear hU X2
  clear i1 s8 c1 c1f
  have FX := Lib.hid (X3.out.fin)
  obtain ⟨Z0, z0, _⟩ := FX.out.b0
  obtain ⟨Z1, z2, _⟩ := FX.out.b1
  have ne1 := FX.out.ne.1
  have FZ0 := Lib.hid z0
  have FZ1 := Lib.hid z2
  have hS19 : Array.size S1 = 19 := by rw [hSV1.out.eq]; rfl
  have hSz : (Try.prog.info? 72).map (·.size) = some (Array.size S1) := by rw [hS19]; exact info_S
  have hS1 : Array.all S1 (·.oneCell') = true := sv_one hSV1.out (FX.out.rf _ (Touch.of_below (Below.refl _ _)))
  clear z0 z2
  go_wp2_with fail
  refine fin_sync FX.out rfl hS19 hS1 rfl (by simp [Value.oneCell']) rfl (fun _ _ _ _ _ h => h) rfl rfl rfl rfl ?_
  (try simp only [zz0, zz1, zz2, Act.put, zz3, zz4, zz5])
  go_wp2
  refine bodyPost_ret (v := .tuple #[.agg S1, .agg #[.int .i64 k, .int .i64 q, .int .u8 12, .int .i64 A, .int .i64 0, .int .i64 0], .bool true]) (results_two (p := 8) (q := 9) (u := 10) rfl _ _ (w.heap.size + 1 + 1 + 1) (w.heap.size + 1 + 1 + 1 + 1) 72 45 S1 #[.int .i64 k, .int .i64 q, .int .u8 12, .int .i64 A, .int .i64 0, .int .i64 0] (0, 0) (0, 0) _ _ rfl ((setRow_other _ _ _ _ ne1).trans (setRow_heap _ _ _ _ _ _ FZ0.out)) Try.underlying72 rfl hSz rfl (setRow_heap _ _ _ _ _ _ ((setRow_other _ _ _ _ (Ne.symm ne1)).trans FZ1.out)) Try.underlying45 rfl info_event) rfl ?_
  exact ⟨_, _, _, _, rfl, hSV1.out, fun u' T => FX.out.rf u' (touch_end T rfl rfl rfl rfl), touch_fin FX.out.bel FX.out.lo.1 FX.out.lo.2 rfl rfl rfl rfl⟩
theorem sync_13 (S : Array Value) (p : ProgD) (ca : Option Addr) (ccap : Nat) (ta : Option Addr) (tcap : Nat) (fv : Nat → Value) (rs qs : Value) (fl : Nat → List Int) (n c : Nat) (B : Nat) (w : World) (hS : SV S p ca ccap ta tcap fv rs qs 0) (hO : Ow w B fv rs qs fl n c) (hn : n ≤ 6) (hc : c ≤ 4) (k : Nat) (hk : k < n) (hr4 : (fl (9 + k)).length = 4) (q o0 : Int) (A : Nat) (b C y : Int) (h4 : (fl 4)[A]? = some y) :
    Calls Try.prog 59 #[.agg S, .int .i64 k, .agg #[.int .u8 13, .int .i64 A, .int .i64 b, .int .i64 C], .agg #[.int .i64 k, .int .i64 q, .int .u8 13, .int .i64 o0, .int .i64 0, .int .i64 0]] w fun e w' => Rs4 (Held fv rs qs) w w' e p ca ccap ta tcap n c (updF fl (4) ((fl (4)).set A (-1))) 0 #[.int .i64 k, .int .i64 q, .int .u8 13, .int .i64 A, .int .i64 0, .int .i64 0] := by
  go_enter Try.func59, Try.ntmps59
  go_upto_region 1 with (fail)
  generalize hU : World.alloc (World.alloc (World.alloc (World.alloc (World.alloc w _) _) _) _) _ = U0
  have X0 : Hid (Sx (Held fv rs qs) w U0 B (w.heap.size) (w.heap.size + 1) (w.heap.size + 1 + 1) (w.heap.size + 1 + 1 + 1) (w.heap.size + 1 + 1 + 1 + 1) S ⟨13, A, b, C⟩ #[.int .i64 k, .int .i64 q, .int .u8 13, .int .i64 o0, .int .i64 0, .int .i64 0] fv rs qs (fl) n c) := Lib.hid (by rw [← hU]; exact sx_boxes (x := ⟨13, A, b, C⟩) hO rfl rfl)
  have hSV := Lib.hid hS
  clear hU hO
  obtain ⟨rz, hz⟩ := at_lt (l := fl (9 + k)) (k := 0) (by omega)
  obtain ⟨gR, capR, eR, _, ltR, cR⟩ := X0.out.ow.reg hk
  obtain ⟨gr, capr, er, _, _, _⟩ := X0.out.num hz
  rw [hr4] at er
  have EE9 := Lib.hid er
  have H9 : Hid (S[9]? = some (.slice (some ⟨gR, 0, none⟩) n capR)) := Lib.hid (by rw [← eR, hS.eq]; rfl)
  rw [er] at cR
  clear er eR
  obtain ⟨g4, cap4, e4, _, _, lt4⟩ := X0.out.num h4
  have EE4 := Lib.hid e4
  have H12 : Hid (S[12]? = some (.slice (some ⟨g4, 0, none⟩) (fl 4).length cap4)) := Lib.hid (by rw [← e4, hS.eq]; rfl)
  clear e4
  have s9 : U0.cell? ⟨w.heap.size, 9, none⟩ = some (.slice (some ⟨gR, 0, none⟩) n capR) := X0.out.s H9.out
  have cR0 := cR
  have i1 : U0.cell? ⟨w.heap.size + 1, 1, none⟩ = some (.int .i64 A) := X0.out.i.2.1
  have e3 : U0.cell? ⟨w.heap.size + 1 + 1, 3, none⟩ = some (.int .i64 o0) := X0.out.e rfl
  have ef3 : U0.frozen? ⟨w.heap.size + 1 + 1, 3, none⟩ = false := X0.out.eF 3
  go_upto_region 3 with (fail)
  generalize hU : World.setCell _ _ _ = U1
  have X1 : Hid (Sx (Held fv rs qs) w U1 B (w.heap.size) (w.heap.size + 1) (w.heap.size + 1 + 1) (w.heap.size + 1 + 1 + 1) (w.heap.size + 1 + 1 + 1 + 1) S ⟨13, A, b, C⟩ #[.int .i64 k, .int .i64 q, .int .u8 13, .int .i64 A, .int .i64 0, .int .i64 0] fv rs qs (fl) n c) := Lib.hid (by rw [← hU]; exact X0.out.ev 3 (.int .i64 A))
  clear hU X0
  clear s9 i1 e3 ef3
  clear cR cR0
  have i0 : U1.cell? ⟨w.heap.size + 1, 0, none⟩ = some (.int .u8 13) := X1.out.i.1
  have i1 : U1.cell? ⟨w.heap.size + 1, 1, none⟩ = some (.int .i64 A) := X1.out.i.2.1
  have s12 : U1.cell? ⟨w.heap.size, 12, none⟩ = some (.slice (some ⟨g4, 0, none⟩) (fl 4).length cap4) := X1.out.s H12.out
  obtain ⟨c4, c4f⟩ := X1.out.at (j := A) (z := y) EE4.out (h4)
  go_wp2_with fail
  generalize hU : World.setCell _ _ _ = U2
  have X2 : Hid (Sx (Held fv rs qs) w U2 B (w.heap.size) (w.heap.size + 1) (w.heap.size + 1 + 1) (w.heap.size + 1 + 1 + 1) (w.heap.size + 1 + 1 + 1 + 1) S ⟨13, A, b, C⟩ #[.int .i64 k, .int .i64 q, .int .u8 13, .int .i64 A, .int .i64 0, .int .i64 0] fv rs qs (updF fl (4) ((fl (4)).set A (-1))) n c) := Lib.hid (by rw [← hU]; exact X1.out.put' EE4.out (lt4) (-1))
  clear hU X1
  clear i0 i1 s12 c4 c4f
  have FX := Lib.hid (X2.out.fin)
  obtain ⟨Z0, z0, _⟩ := FX.out.b0
  obtain ⟨Z1, z2, _⟩ := FX.out.b1
  have ne1 := FX.out.ne.1
  have FZ0 := Lib.hid z0
  have FZ1 := Lib.hid z2
  have hS19 : Array.size S = 19 := by rw [hSV.out.eq]; rfl
  have hSz : (Try.prog.info? 72).map (·.size) = some (Array.size S) := by rw [hS19]; exact info_S
  have hS1 : Array.all S (·.oneCell') = true := sv_one hSV.out (FX.out.rf _ (Touch.of_below (Below.refl _ _)))
  clear z0 z2
  go_wp2_with fail
  refine fin_sync FX.out rfl hS19 hS1 rfl (by simp [Value.oneCell']) rfl (fun _ _ _ _ _ h => h) rfl rfl rfl rfl ?_
  (try simp only [zz0, zz1, zz2, Act.put, zz3, zz4, zz5])
  go_wp2
  refine bodyPost_ret (v := .tuple #[.agg S, .agg #[.int .i64 k, .int .i64 q, .int .u8 13, .int .i64 A, .int .i64 0, .int .i64 0], .bool true]) (results_two (p := 8) (q := 9) (u := 10) rfl _ _ (w.heap.size + 1 + 1 + 1) (w.heap.size + 1 + 1 + 1 + 1) 72 45 S #[.int .i64 k, .int .i64 q, .int .u8 13, .int .i64 A, .int .i64 0, .int .i64 0] (0, 0) (0, 0) _ _ rfl ((setRow_other _ _ _ _ ne1).trans (setRow_heap _ _ _ _ _ _ FZ0.out)) Try.underlying72 rfl hSz rfl (setRow_heap _ _ _ _ _ _ ((setRow_other _ _ _ _ (Ne.symm ne1)).trans FZ1.out)) Try.underlying45 rfl info_event) rfl ?_
  exact ⟨_, _, _, _, rfl, hSV.out, fun u' T => FX.out.rf u' (touch_end T rfl rfl rfl rfl), touch_fin FX.out.bel FX.out.lo.1 FX.out.lo.2 rfl rfl rfl rfl⟩
theorem sync_15 (S : Array Value) (p : ProgD) (ca : Option Addr) (ccap : Nat) (ta : Option Addr) (tcap : Nat) (fv : Nat → Value) (rs qs : Value) (fl : Nat → List Int) (n c : Nat) (B : Nat) (w : World) (hS : SV S p ca ccap ta tcap fv rs qs 0) (hO : Ow w B fv rs qs fl n c) (hn : n ≤ 6) (hc : c ≤ 4) (k : Nat) (hk : k < n) (hr4 : (fl (9 + k)).length = 4) (q o0 : Int) (A : Nat) (b C y : Int) (h4 : (fl 4)[A]? = some y) :
    Calls Try.prog 59 #[.agg S, .int .i64 k, .agg #[.int .u8 15, .int .i64 A, .int .i64 b, .int .i64 C], .agg #[.int .i64 k, .int .i64 q, .int .u8 15, .int .i64 o0, .int .i64 0, .int .i64 0]] w fun e w' => Rs4 (Held fv rs qs) w w' e p ca ccap ta tcap n c (updF fl (4) ((fl (4)).set A (wrap64 (y + 1)))) 0 #[.int .i64 k, .int .i64 q, .int .u8 15, .int .i64 A, .int .i64 0, .int .i64 0] := by
  go_enter Try.func59, Try.ntmps59
  go_upto_region 1 with (fail)
  generalize hU : World.alloc (World.alloc (World.alloc (World.alloc (World.alloc w _) _) _) _) _ = U0
  have X0 : Hid (Sx (Held fv rs qs) w U0 B (w.heap.size) (w.heap.size + 1) (w.heap.size + 1 + 1) (w.heap.size + 1 + 1 + 1) (w.heap.size + 1 + 1 + 1 + 1) S ⟨15, A, b, C⟩ #[.int .i64 k, .int .i64 q, .int .u8 15, .int .i64 o0, .int .i64 0, .int .i64 0] fv rs qs (fl) n c) := Lib.hid (by rw [← hU]; exact sx_boxes (x := ⟨15, A, b, C⟩) hO rfl rfl)
  have hSV := Lib.hid hS
  clear hU hO
  obtain ⟨rz, hz⟩ := at_lt (l := fl (9 + k)) (k := 0) (by omega)
  obtain ⟨gR, capR, eR, _, ltR, cR⟩ := X0.out.ow.reg hk
  obtain ⟨gr, capr, er, _, _, _⟩ := X0.out.num hz
  rw [hr4] at er
  have EE9 := Lib.hid er
  have H9 : Hid (S[9]? = some (.slice (some ⟨gR, 0, none⟩) n capR)) := Lib.hid (by rw [← eR, hS.eq]; rfl)
  rw [er] at cR
  clear er eR
  obtain ⟨g4, cap4, e4, _, _, lt4⟩ := X0.out.num h4
  have EE4 := Lib.hid e4
  have H12 : Hid (S[12]? = some (.slice (some ⟨g4, 0, none⟩) (fl 4).length cap4)) := Lib.hid (by rw [← e4, hS.eq]; rfl)
  clear e4
  have s9 : U0.cell? ⟨w.heap.size, 9, none⟩ = some (.slice (some ⟨gR, 0, none⟩) n capR) := X0.out.s H9.out
  have cR0 := cR
  have i1 : U0.cell? ⟨w.heap.size + 1, 1, none⟩ = some (.int .i64 A) := X0.out.i.2.1
  have e3 : U0.cell? ⟨w.heap.size + 1 + 1, 3, none⟩ = some (.int .i64 o0) := X0.out.e rfl
  have ef3 : U0.frozen? ⟨w.heap.size + 1 + 1, 3, none⟩ = false := X0.out.eF 3
  go_upto_region 3 with (fail)
  generalize hU : World.setCell _ _ _ = U1
  have X1 : Hid (Sx (Held fv rs qs) w U1 B (w.heap.size) (w.heap.size + 1) (w.heap.size + 1 + 1) (w.heap.size + 1 + 1 + 1) (w.heap.size + 1 + 1 + 1 + 1) S ⟨15, A, b, C⟩ #[.int .i64 k, .int .i64 q, .int .u8 15, .int .i64 A, .int .i64 0, .int .i64 0] fv rs qs (fl) n c) := Lib.hid (by rw [← hU]; exact X0.out.ev 3 (.int .i64 A))
  clear hU X0
  clear s9 i1 e3 ef3
  clear cR cR0
  have i0 : U1.cell? ⟨w.heap.size + 1, 0, none⟩ = some (.int .u8 15) := X1.out.i.1
  have i1 : U1.cell? ⟨w.heap.size + 1, 1, none⟩ = some (.int .i64 A) := X1.out.i.2.1
  have s12 : U1.cell? ⟨w.heap.size, 12, none⟩ = some (.slice (some ⟨g4, 0, none⟩) (fl 4).length cap4) := X1.out.s H12.out
  obtain ⟨c4, c4f⟩ := X1.out.at (j := A) (z := y) EE4.out (h4)
  go_wp2_with fail
  generalize hU : World.setCell _ _ _ = U2
  have X2 : Hid (Sx (Held fv rs qs) w U2 B (w.heap.size) (w.heap.size + 1) (w.heap.size + 1 + 1) (w.heap.size + 1 + 1 + 1) (w.heap.size + 1 + 1 + 1 + 1) S ⟨15, A, b, C⟩ #[.int .i64 k, .int .i64 q, .int .u8 15, .int .i64 A, .int .i64 0, .int .i64 0] fv rs qs (updF fl (4) ((fl (4)).set A (wrap64 (y + 1)))) n c) := Lib.hid (by rw [← hU]; exact X1.out.put' EE4.out (lt4) (wrap64 (y + 1)))
  clear hU X1
  clear i0 i1 s12 c4 c4f
  have FX := Lib.hid (X2.out.fin)
  obtain ⟨Z0, z0, _⟩ := FX.out.b0
  obtain ⟨Z1, z2, _⟩ := FX.out.b1
  have ne1 := FX.out.ne.1
  have FZ0 := Lib.hid z0
  have FZ1 := Lib.hid z2
  have hS19 : Array.size S = 19 := by rw [hSV.out.eq]; rfl
  have hSz : (Try.prog.info? 72).map (·.size) = some (Array.size S) := by rw [hS19]; exact info_S
  have hS1 : Array.all S (·.oneCell') = true := sv_one hSV.out (FX.out.rf _ (Touch.of_below (Below.refl _ _)))
  clear z0 z2
  go_wp2_with fail
  refine fin_sync FX.out rfl hS19 hS1 rfl (by simp [Value.oneCell']) rfl (fun _ _ _ _ _ h => h) rfl rfl rfl rfl ?_
  (try simp only [zz0, zz1, zz2, Act.put, zz3, zz4, zz5])
  go_wp2
  refine bodyPost_ret (v := .tuple #[.agg S, .agg #[.int .i64 k, .int .i64 q, .int .u8 15, .int .i64 A, .int .i64 0, .int .i64 0], .bool true]) (results_two (p := 8) (q := 9) (u := 10) rfl _ _ (w.heap.size + 1 + 1 + 1) (w.heap.size + 1 + 1 + 1 + 1) 72 45 S #[.int .i64 k, .int .i64 q, .int .u8 15, .int .i64 A, .int .i64 0, .int .i64 0] (0, 0) (0, 0) _ _ rfl ((setRow_other _ _ _ _ ne1).trans (setRow_heap _ _ _ _ _ _ FZ0.out)) Try.underlying72 rfl hSz rfl (setRow_heap _ _ _ _ _ _ ((setRow_other _ _ _ _ (Ne.symm ne1)).trans FZ1.out)) Try.underlying45 rfl info_event) rfl ?_
  exact ⟨_, _, _, _, rfl, hSV.out, fun u' T => FX.out.rf u' (touch_end T rfl rfl rfl rfl), touch_fin FX.out.bel FX.out.lo.1 FX.out.lo.2 rfl rfl rfl rfl⟩
theorem sync_14y (S : Array Value) (p : ProgD) (ca : Option Addr) (ccap : Nat) (ta : Option Addr) (tcap : Nat) (fv : Nat → Value) (rs qs : Value) (fl : Nat → List Int) (n c : Nat) (B : Nat) (w : World) (hS : SV S p ca ccap ta tcap fv rs qs 0) (hO : Ow w B fv rs qs fl n c) (hn : n ≤ 6) (hc : c ≤ 4) (k : Nat) (hk : k < n) (hr4 : (fl (9 + k)).length = 4) (q o0 : Int) (A : Nat) (b C y : Int) (h4 : (fl 4)[A]? = some y) (hy : y = -1) :
    Calls Try.prog 59 #[.agg S, .int .i64 k, .agg #[.int .u8 14, .int .i64 A, .int .i64 b, .int .i64 C], .agg #[.int .i64 k, .int .i64 q, .int .u8 14, .int .i64 o0, .int .i64 0, .int .i64 0]] w fun e w' => Rs4 (Held fv rs qs) w w' e p ca ccap ta tcap n c (updF fl (4) ((fl (4)).set A 0)) 0 #[.int .i64 k, .int .i64 q, .int .u8 14, .int .i64 A, .int .i64 0, .int .i64 0] := by
  go_enter Try.func59, Try.ntmps59
  go_upto_region 1 with (fail)
  generalize hU : World.alloc (World.alloc (World.alloc (World.alloc (World.alloc w _) _) _) _) _ = U0
  have X0 : Hid (Sx (Held fv rs qs) w U0 B (w.heap.size) (w.heap.size + 1) (w.heap.size + 1 + 1) (w.heap.size + 1 + 1 + 1) (w.heap.size + 1 + 1 + 1 + 1) S ⟨14, A, b, C⟩ #[.int .i64 k, .int .i64 q, .int .u8 14, .int .i64 o0, .int .i64 0, .int .i64 0] fv rs qs (fl) n c) := Lib.hid (by rw [← hU]; exact sx_boxes (x := ⟨14, A, b, C⟩) hO rfl rfl)
  have hSV := Lib.hid hS
  clear hU hO
  obtain ⟨rz, hz⟩ := at_lt (l := fl (9 + k)) (k := 0) (by omega)
  obtain ⟨gR, capR, eR, _, ltR, cR⟩ := X0.out.ow.reg hk
  obtain ⟨gr, capr, er, _, _, _⟩ := X0.out.num hz
  rw [hr4] at er
  have EE9 := Lib.hid er
  have H9 : Hid (S[9]? = some (.slice (some ⟨gR, 0, none⟩) n capR)) := Lib.hid (by rw [← eR, hS.eq]; rfl)
  rw [er] at cR
  clear er eR
  obtain ⟨g4, cap4, e4, _, _, lt4⟩ := X0.out.num h4
  have EE4 := Lib.hid e4
  have H12 : Hid (S[12]? = some (.slice (some ⟨g4, 0, none⟩) (fl 4).length cap4)) := Lib.hid (by rw [← e4, hS.eq]; rfl)
  clear e4
  have s9 : U0.cell? ⟨w.heap.size, 9, none⟩ = some (.slice (some ⟨gR, 0, none⟩) n capR) := X0.out.s H9.out
  have cR0 := cR
  have i1 : U0.cell? ⟨w.heap.size + 1, 1, none⟩ = some (.int .i64 A) := X0.out.i.2.1
  have e3 : U0.cell? ⟨w.heap.size + 1 + 1, 3, none⟩ = some (.int .i64 o0) := X0.out.e rfl
  have ef3 : U0.frozen? ⟨w.heap.size + 1 + 1, 3, none⟩ = false := X0.out.eF 3
  go_upto_region 3 with (fail)
  generalize hU : World.setCell _ _ _ = U1
  have X1 : Hid (Sx (Held fv rs qs) w U1 B (w.heap.size) (w.heap.size + 1) (w.heap.size + 1 + 1) (w.heap.size + 1 + 1 + 1) (w.heap.size + 1 + 1 + 1 + 1) S ⟨14, A, b, C⟩ #[.int .i64 k, .int .i64 q, .int .u8 14, .int .i64 A, .int .i64 0, .int .i64 0] fv rs qs (fl) n c) := Lib.hid (by rw [← hU]; exact X0.out.ev 3 (.int .i64 A))
  clear hU X0
  clear s9 i1 e3 ef3
  clear cR cR0
  have hy0 : (y != -1) = false := by simpa using hy
  have i0 : U1.cell? ⟨w.heap.size + 1, 0, none⟩ = some (.int .u8 14) := X1.out.i.1
  have i1 : U1.cell? ⟨w.heap.size + 1, 1, none⟩ = some (.int .i64 A) := X1.out.i.2.1
  have s12 : U1.cell? ⟨w.heap.size, 12, none⟩ = some (.slice (some ⟨g4, 0, none⟩) (fl 4).length cap4) := X1.out.s H12.out
  obtain ⟨c4, c4f⟩ := X1.out.at (j := A) (z := y) EE4.out (h4)
  have s18 : U1.cell? ⟨w.heap.size, 18, none⟩ = some (.int .i64 0) := X1.out.s (by rw [hSV.out.eq]; rfl)
  have sf18 := X1.out.sF 18
  go_upto_region 14 with (go_at_call 58; refine (number4_any _ _).mono ?_; rintro e w' ⟨rfl, rfl⟩)
  try simp only [bitN]
  obtain ⟨S1, eS⟩ : ∃ S1, S1 = S.setIfInBounds 18 (.int .i64 0) := ⟨_, rfl⟩
  have hSV1 : Hid (SV S1 p ca ccap ta tcap fv rs qs 0) := Lib.hid ⟨by rw [eS, hSV.out.eq]; rfl⟩
  have H9s : Hid (S1[9]? = some (.slice (some ⟨gR, 0, none⟩) n capR)) := Lib.hid (by rw [eS, Array.getElem?_setIfInBounds_ne (by decide)]; exact H9.out)
  have H12s : Hid (S1[12]? = some (.slice (some ⟨g4, 0, none⟩) (fl 4).length cap4)) := Lib.hid (by rw [eS, Array.getElem?_setIfInBounds_ne (by decide)]; exact H12.out)
  generalize hU : World.setCell _ _ _ = U2
  have X2 : Hid (Sx (Held fv rs qs) w U2 B (w.heap.size) (w.heap.size + 1) (w.heap.size + 1 + 1) (w.heap.size + 1 + 1 + 1) (w.heap.size + 1 + 1 + 1 + 1) S1 ⟨14, A, b, C⟩ #[.int .i64 k, .int .i64 q, .int .u8 14, .int .i64 A, .int .i64 0, .int .i64 0] fv rs qs (fl) n c) := Lib.hid (by rw [← hU]; exact (by rw [eS]; exact X1.out.sv 18 (.int .i64 0)))
  clear hU X1
  clear i0 i1 s12 c4 c4f s18 sf18
  clear eS
  have s18 : U2.cell? ⟨w.heap.size, 18, none⟩ = some (.int .i64 0) := X2.out.s (by rw [hSV1.out.eq]; rfl)
  have sf18 := X2.out.sF 18
  have i1 : U2.cell? ⟨w.heap.size + 1, 1, none⟩ = some (.int .i64 A) := X2.out.i.2.1
  have s12 : U2.cell? ⟨w.heap.size, 12, none⟩ = some (.slice (some ⟨g4, 0, none⟩) (fl 4).length cap4) := X2.out.s H12s.out
  obtain ⟨c4, c4f⟩ := X2.out.at (j := A) (z := y) EE4.out (h4)
  go_wp2_with fail
  generalize hU : World.setCell _ _ _ = U3
  have X3 : Hid (Sx (Held fv rs qs) w U3 B (w.heap.size) (w.heap.size + 1) (w.heap.size + 1 + 1) (w.heap.size + 1 + 1 + 1) (w.heap.size + 1 + 1 + 1 + 1) S1 ⟨14, A, b, C⟩ #[.int .i64 k, .int .i64 q, .int .u8 14, .int .i64 A, .int .i64 0, .int .i64 0] fv rs qs (updF fl (4) ((fl (4)).set A 0)) n c) := Lib.hid (by rw [← hU]; exact X2.out.put' EE4.out (lt4) 0)
  clear hU X2
  clear s18 sf18 i1 s12 c4 c4f
  have FX := Lib.hid (X3.out.fin)
  obtain ⟨Z0, z0, _⟩ := FX.out.b0
  obtain ⟨Z1, z2, _⟩ := FX.out.b1
  have ne1 := FX.out.ne.1
  have FZ0 := Lib.hid z0
  have FZ1 := Lib.hid z2
  have hS19 : Array.size S1 = 19 := by rw [hSV1.out.eq]; rfl
  have hSz : (Try.prog.info? 72).map (·.size) = some (Array.size S1) := by rw [hS19]; exact info_S
  have hS1 : Array.all S1 (·.oneCell') = true := sv_one hSV1.out (FX.out.rf _ (Touch.of_below (Below.refl _ _)))
  clear z0 z2
  go_wp2_with fail
  refine fin_sync FX.out rfl hS19 hS1 rfl (by simp [Value.oneCell']) rfl (fun _ _ _ _ _ h => h) rfl rfl rfl rfl ?_
  (try simp only [zz0, zz1, zz2, Act.put, zz3, zz4, zz5])
  go_wp2
  refine bodyPost_ret (v := .tuple #[.agg S1, .agg #[.int .i64 k, .int .i64 q, .int .u8 14, .int .i64 A, .int .i64 0, .int .i64 0], .bool true]) (results_two (p := 8) (q := 9) (u := 10) rfl _ _ (w.heap.size + 1 + 1 + 1) (w.heap.size + 1 + 1 + 1 + 1) 72 45 S1 #[.int .i64 k, .int .i64 q, .int .u8 14, .int .i64 A, .int .i64 0, .int .i64 0] (0, 0) (0, 0) _ _ rfl ((setRow_other _ _ _ _ ne1).trans (setRow_heap _ _ _ _ _ _ FZ0.out)) Try.underlying72 rfl hSz rfl (setRow_heap _ _ _ _ _ _ ((setRow_other _ _ _ _ (Ne.symm ne1)).trans FZ1.out)) Try.underlying45 rfl info_event) rfl ?_
  exact ⟨_, _, _, _, rfl, hSV1.out, fun u' T => FX.out.rf u' (touch_end T rfl rfl rfl rfl), touch_fin FX.out.bel FX.out.lo.1 FX.out.lo.2 rfl rfl rfl rfl⟩
theorem sync_14n (S : Array Value) (p : ProgD) (ca : Option Addr) (ccap : Nat) (ta : Option Addr) (tcap : Nat) (fv : Nat → Value) (rs qs : Value) (fl : Nat → List Int) (n c : Nat) (B : Nat) (w : World) (hS : SV S p ca ccap ta tcap fv rs qs 0) (hO : Ow w B fv rs qs fl n c) (hn : n ≤ 6) (hc : c ≤ 4) (k : Nat) (hk : k < n) (hr4 : (fl (9 + k)).length = 4) (q o0 : Int) (A : Nat) (b C y : Int) (h4 : (fl 4)[A]? = some y) (hy : ¬ y = -1) :
    Calls Try.prog 59 #[.agg S, .int .i64 k, .agg #[.int .u8 14, .int .i64 A, .int .i64 b, .int .i64 C], .agg #[.int .i64 k, .int .i64 q, .int .u8 14, .int .i64 o0, .int .i64 0, .int .i64 0]] w fun e w' => Rs4 (Held fv rs qs) w w' e p ca ccap ta tcap n c (fl) 1 #[.int .i64 k, .int .i64 q, .int .u8 14, .int .i64 A, .int .i64 0, .int .i64 0] := by
  go_enter Try.func59, Try.ntmps59
  go_upto_region 1 with (fail)
  generalize hU : World.alloc (World.alloc (World.alloc (World.alloc (World.alloc w _) _) _) _) _ = U0
  have X0 : Hid (Sx (Held fv rs qs) w U0 B (w.heap.size) (w.heap.size + 1) (w.heap.size + 1 + 1) (w.heap.size + 1 + 1 + 1) (w.heap.size + 1 + 1 + 1 + 1) S ⟨14, A, b, C⟩ #[.int .i64 k, .int .i64 q, .int .u8 14, .int .i64 o0, .int .i64 0, .int .i64 0] fv rs qs (fl) n c) := Lib.hid (by rw [← hU]; exact sx_boxes (x := ⟨14, A, b, C⟩) hO rfl rfl)
  have hSV := Lib.hid hS
  clear hU hO
  obtain ⟨rz, hz⟩ := at_lt (l := fl (9 + k)) (k := 0) (by omega)
  obtain ⟨gR, capR, eR, _, ltR, cR⟩ := X0.out.ow.reg hk
  obtain ⟨gr, capr, er, _, _, _⟩ := X0.out.num hz
  rw [hr4] at er
  have EE9 := Lib.hid er
  have H9 : Hid (S[9]? = some (.slice (some ⟨gR, 0, none⟩) n capR)) := Lib.hid (by rw [← eR, hS.eq]; rfl)
  rw [er] at cR
  clear er eR
  obtain ⟨g4, cap4, e4, _, _, lt4⟩ := X0.out.num h4
  have EE4 := Lib.hid e4
  have H12 : Hid (S[12]? = some (.slice (some ⟨g4, 0, none⟩) (fl 4).length cap4)) := Lib.hid (by rw [← e4, hS.eq]; rfl)
  clear e4
  have s9 : U0.cell? ⟨w.heap.size, 9, none⟩ = some (.slice (some ⟨gR, 0, none⟩) n capR) := X0.out.s H9.out
  have cR0 := cR
  have i1 : U0.cell? ⟨w.heap.size + 1, 1, none⟩ = some (.int .i64 A) := X0.out.i.2.1
  have e3 : U0.cell? ⟨w.heap.size + 1 + 1, 3, none⟩ = some (.int .i64 o0) := X0.out.e rfl
  have ef3 : U0.frozen? ⟨w.heap.size + 1 + 1, 3, none⟩ = false := X0.out.eF 3
  go_upto_region 3 with (fail)
  generalize hU : World.setCell _ _ _ = U1
  have X1 : Hid (Sx (Held fv rs qs) w U1 B (w.heap.size) (w.heap.size + 1) (w.heap.size + 1 + 1) (w.heap.size + 1 + 1 + 1) (w.heap.size + 1 + 1 + 1 + 1) S ⟨14, A, b, C⟩ #[.int .i64 k, .int .i64 q, .int .u8 14, .int .i64 A, .int .i64 0, .int .i64 0] fv rs qs (fl) n c) := Lib.hid (by rw [← hU]; exact X0.out.ev 3 (.int .i64 A))
  clear hU X0
  clear s9 i1 e3 ef3
  clear cR cR0
  have hy0 : (y != -1) = true := by simpa using hy
  have i0 : U1.cell? ⟨w.heap.size + 1, 0, none⟩ = some (.int .u8 14) := X1.out.i.1
  have i1 : U1.cell? ⟨w.heap.size + 1, 1, none⟩ = some (.int .i64 A) := X1.out.i.2.1
  have s12 : U1.cell? ⟨w.heap.size, 12, none⟩ = some (.slice (some ⟨g4, 0, none⟩) (fl 4).length cap4) := X1.out.s H12.out
  obtain ⟨c4, c4f⟩ := X1.out.at (j := A) (z := y) EE4.out (h4)
  have s18 : U1.cell? ⟨w.heap.size, 18, none⟩ = some (.int .i64 0) := X1.out.s (by rw [hSV.out.eq]; rfl)
  have sf18 := X1.out.sF 18
  go_upto_region 14 with (go_at_call 58; refine (number4_any _ _).mono ?_; rintro e w' ⟨rfl, rfl⟩)
  try simp only [bitN]
  obtain ⟨S1, eS⟩ : ∃ S1, S1 = S.setIfInBounds 18 (.int .i64 1) := ⟨_, rfl⟩
  have hSV1 : Hid (SV S1 p ca ccap ta tcap fv rs qs 1) := Lib.hid ⟨by rw [eS, hSV.out.eq]; rfl⟩
  have H9s : Hid (S1[9]? = some (.slice (some ⟨gR, 0, none⟩) n capR)) := Lib.hid (by rw [eS, Array.getElem?_setIfInBounds_ne (by decide)]; exact H9.out)
  have H12s : Hid (S1[12]? = some (.slice (some ⟨g4, 0, none⟩) (fl 4).length cap4)) := Lib.hid (by rw [eS, Array.getElem?_setIfInBounds_ne (by decide)]; exact H12.out)
  generalize hU : World.setCell _ _ _ = U2
  have X2 : Hid (Sx (Held fv rs qs) w U2 B (w.heap.size) (w.heap.size + 1) (w.heap.size + 1 + 1) (w.heap.size + 1 + 1 + 1) (w.heap.size + 1 + 1 + 1 + 1) S1 ⟨14, A, b, C⟩ #[.int .i64 k, .int .i64 q, .int .u8 14, .int .i64 A, .int .i64 0, .int .i64 0] fv rs qs (fl) n c) := Lib.hid (by rw [← hU]; exact (by rw [eS]; exact X1.out.sv 18 (.int .i64 1)))
  clear hU X1
  clear i0 i1 s12 c4 c4f s18 sf18
  clear eS
  have s18 : U2.cell? ⟨w.heap.size, 18, none⟩ = some (.int .i64 1) := X2.out.s (by rw [hSV1.out.eq]; rfl)
  have sf18 := X2.out.sF 18
  go_wp2_with fail
  clear s18 sf18
  have FX := Lib.hid (X2.out.fin)
  obtain ⟨Z0, z0, _⟩ := FX.out.b0
  obtain ⟨Z1, z2, _⟩ := FX.out.b1
  have ne1 := FX.out.ne.1
  have FZ0 := Lib.hid z0
  have FZ1 := Lib.hid z2
  have hS19 : Array.size S1 = 19 := by rw [hSV1.out.eq]; rfl
  have hSz : (Try.prog.info? 72).map (·.size) = some (Array.size S1) := by rw [hS19]; exact info_S
  have hS1 : Array.all S1 (·.oneCell') = true := sv_one hSV1.out (FX.out.rf _ (Touch.of_below (Below.refl _ _)))
  clear z0 z2
  go_wp2_with fail
  refine fin_sync FX.out rfl hS19 hS1 rfl (by simp [Value.oneCell']) rfl (fun _ _ _ _ _ h => h) rfl rfl rfl rfl ?_
  (try simp only [zz0, zz1, zz2, Act.put, zz3, zz4, zz5])
  go_wp2
  refine bodyPost_ret (v := .tuple #[.agg S1, .agg #[.int .i64 k, .int .i64 q, .int .u8 14, .int .i64 A, .int .i64 0, .int .i64 0], .bool true]) (results_two (p := 8) (q := 9) (u := 10) rfl _ _ (w.heap.size + 1 + 1 + 1) (w.heap.size + 1 + 1 + 1 + 1) 72 45 S1 #[.int .i64 k, .int .i64 q, .int .u8 14, .int .i64 A, .int .i64 0, .int .i64 0] (0, 0) (0, 0) _ _ rfl ((setRow_other _ _ _ _ ne1).trans (setRow_heap _ _ _ _ _ _ FZ0.out)) Try.underlying72 rfl hSz rfl (setRow_heap _ _ _ _ _ _ ((setRow_other _ _ _ _ (Ne.symm ne1)).trans FZ1.out)) Try.underlying45 rfl info_event) rfl ?_
  exact ⟨_, _, _, _, rfl, hSV1.out, fun u' T => FX.out.rf u' (touch_end T rfl rfl rfl rfl), touch_fin FX.out.bel FX.out.lo.1 FX.out.lo.2 rfl rfl rfl rfl⟩
theorem sync_16y (S : Array Value) (p : ProgD) (ca : Option Addr) (ccap : Nat) (ta : Option Addr) (tcap : Nat) (fv : Nat → Value) (rs qs : Value) (fl : Nat → List Int) (n c : Nat) (B : Nat) (w : World) (hS : SV S p ca ccap ta tcap fv rs qs 0) (hO : Ow w B fv rs qs fl n c) (hn : n ≤ 6) (hc : c ≤ 4) (k : Nat) (hk : k < n) (hr4 : (fl (9 + k)).length = 4) (q o0 : Int) (A : Nat) (b C y : Int) (h4 : (fl 4)[A]? = some y) (hy : ¬ y < 1) :
    Calls Try.prog 59 #[.agg S, .int .i64 k, .agg #[.int .u8 16, .int .i64 A, .int .i64 b, .int .i64 C], .agg #[.int .i64 k, .int .i64 q, .int .u8 16, .int .i64 o0, .int .i64 0, .int .i64 0]] w fun e w' => Rs4 (Held fv rs qs) w w' e p ca ccap ta tcap n c (updF fl (4) ((fl (4)).set A (wrap64 (y - 1)))) 0 #[.int .i64 k, .int .i64 q, .int .u8 16, .int .i64 A, .int .i64 0, .int .i64 0] := by
  go_enter Try.func59, Try.ntmps59
  go_upto_region 1 with (fail)
  generalize hU : World.alloc (World.alloc (World.alloc (World.alloc (World.alloc w _) _) _) _) _ = U0
  have X0 : Hid (Sx (Held fv rs qs) w U0 B (w.heap.size) (w.heap.size + 1) (w.heap.size + 1 + 1) (w.heap.size + 1 + 1 + 1) (w.heap.size + 1 + 1 + 1 + 1) S ⟨16, A, b, C⟩ #[.int .i64 k, .int .i64 q, .int .u8 16, .int .i64 o0, .int .i64 0, .int .i64 0] fv rs qs (fl) n c) := Lib.hid (by rw [← hU]; exact sx_boxes (x := ⟨16, A, b, C⟩) hO rfl rfl)
  have hSV := Lib.hid hS
  clear hU hO
  obtain ⟨rz, hz⟩ := at_lt (l := fl (9 + k)) (k := 0) (by omega)
  obtain ⟨gR, capR, eR, _, ltR, cR⟩ := X0.out.ow.reg hk
  obtain ⟨gr, capr, er, _, _, _⟩ := X0.out.num hz
  rw [hr4] at er
  have EE9 := Lib.hid er
  have H9 : Hid (S[9]? = some (.slice (some ⟨gR, 0, none⟩) n capR)) := Lib.hid (by rw [← eR, hS.eq]; rfl)
  rw [er] at cR
  clear er eR
  obtain ⟨g4, cap4, e4, _, _, lt4⟩ := X0.out.num h4
  have EE4 := Lib.hid e4
  have H12 : Hid (S[12]? = some (.slice (some ⟨g4, 0, none⟩) (fl 4).length cap4)) := Lib.hid (by rw [← e4, hS.eq]; rfl)
  clear e4
  have s9 : U0.cell? ⟨w.heap.size, 9, none⟩ = some (.slice (some ⟨gR, 0, none⟩) n capR) := X0.out.s H9.out
  have cR0 := cR
  have i1 : U0.cell? ⟨w.heap.size + 1, 1, none⟩ = some (.int .i64 A) := X0.out.i.2.1
  have e3 : U0.cell? ⟨w.heap.size + 1 + 1, 3, none⟩ = some (.int .i64 o0) := X0.out.e rfl
  have ef3 : U0.frozen? ⟨w.heap.size + 1 + 1, 3, none⟩ = false := X0.out.eF 3
  go_upto_region 3 with (fail)
  generalize hU : World.setCell _ _ _ = U1
  have X1 : Hid (Sx (Held fv rs qs) w U1 B (w.heap.size) (w.heap.size + 1) (w.heap.size + 1 + 1) (w.heap.size + 1 + 1 + 1) (w.heap.size + 1 + 1 + 1 + 1) S ⟨16, A, b, C⟩ #[.int .i64 k, .int .i64 q, .int .u8 16, .int .i64 A, .int .i64 0, .int .i64 0] fv rs qs (fl) n c) := Lib.hid (by rw [← hU]; exact X0.out.ev 3 (.int .i64 A))
  clear hU X0
  clear s9 i1 e3 ef3
  clear cR cR0
  have hy0 : decide (y < 1) = false := by simpa using hy
  have i0 : U1.cell? ⟨w.heap.size + 1, 0, none⟩ = some (.int .u8 16) := X1.out.i.1
  have i1 : U1.cell? ⟨w.heap.size + 1, 1, none⟩ = some (.int .i64 A) := X1.out.i.2.1
  have s12 : U1.cell? ⟨w.heap.size, 12, none⟩ = some (.slice (some ⟨g4, 0, none⟩) (fl 4).length cap4) := X1.out.s H12.out
  obtain ⟨c4, c4f⟩ := X1.out.at (j := A) (z := y) EE4.out (h4)
  have s18 : U1.cell? ⟨w.heap.size, 18, none⟩ = some (.int .i64 0) := X1.out.s (by rw [hSV.out.eq]; rfl)
  have sf18 := X1.out.sF 18
  go_upto_region 20 with (go_at_call 58; refine (number4_any _ _).mono ?_; rintro e w' ⟨rfl, rfl⟩)
  try simp only [bitN]
  obtain ⟨S1, eS⟩ : ∃ S1, S1 = S.setIfInBounds 18 (.int .i64 0) := ⟨_, rfl⟩
  have hSV1 : Hid (SV S1 p ca ccap ta tcap fv rs qs 0) := Lib.hid ⟨by rw [eS, hSV.out.eq]; rfl⟩
  have H9s : Hid (S1[9]? = some (.slice (some ⟨gR, 0, none⟩) n capR)) := Lib.hid (by rw [eS, Array.getElem?_setIfInBounds_ne (by decide)]; exact H9.out)
  have H12s : Hid (S1[12]? = some (.slice (some ⟨g4, 0, none⟩) (fl 4).length cap4)) := Lib.hid (by rw [eS, Array.getElem?_setIfInBounds_ne (by decide)]; exact H12.out)
  generalize hU : World.setCell _ _ _ = U2
  have X2 : Hid (Sx (Held fv rs qs) w U2 B (w.heap.size) (w.heap.size + 1) (w.heap.size + 1 + 1) (w.heap.size + 1 + 1 + 1) (w.heap.size + 1 + 1 + 1 + 1) S1 ⟨16, A, b, C⟩ #[.int .i64 k, .int .i64 q, .int .u8 16, .int .i64 A, .int .i64 0, .int .i64 0] fv rs qs (fl) n c) := Lib.hid (by rw [← hU]; exact (by rw [eS]; exact X1.out.sv 18 (.int .i64 0)))
  clear hU X1
  clear i0 i1 s12 c4 c4f s18 sf18
  clear eS
  have s18 : U2.cell? ⟨w.heap.size, 18, none⟩ = some (.int .i64 0) := X2.out.s (by rw [hSV1.out.eq]; rfl)
  have sf18 := X2.out.sF 18
  have i1 : U2.cell? ⟨w.heap.size + 1, 1, none⟩ = some (.int .i64 A) := X2.out.i.2.1
  have s12 : U2.cell? ⟨w.heap.size, 12, none⟩ = some (.slice (some ⟨g4, 0, none⟩) (fl 4).length cap4) := X2.out.s H12s.out
  obtain ⟨c4, c4f⟩ := X2.out.at (j := A) (z := y) EE4.out (h4)
  go_wp2_with fail
  generalize hU : World.setCell _ _ _ = U3
  have X3 : Hid (Sx (Held fv rs qs) w U3 B (w.heap.size) (w.heap.size + 1) (w.heap.size + 1 + 1) (w.heap.size + 1 + 1 + 1) (w.heap.size + 1 + 1 + 1 + 1) S1 ⟨16, A, b, C⟩ #[.int .i64 k, .int .i64 q, .int .u8 16, .int .i64 A, .int .i64 0, .int .i64 0] fv rs qs (updF fl (4) ((fl (4)).set A (wrap64 (y - 1)))) n c) := Lib.hid (by rw [← hU]; exact X2.out.put' EE4.out (lt4) (wrap64 (y - 1)))
  clear hU X2
  clear s18 sf18 i1 s12 c4 c4f
  have FX := Lib.hid (X3.out.fin)
  obtain ⟨Z0, z0, _⟩ := FX.out.b0
  obtain ⟨Z1, z2, _⟩ := FX.out.b1
  have ne1 := FX.out.ne.1
  have FZ0 := Lib.hid z0
  have FZ1 := Lib.hid z2
  have hS19 : Array.size S1 = 19 := by rw [hSV1.out.eq]; rfl
  have hSz : (Try.prog.info? 72).map (·.size) = some (Array.size S1) := by rw [hS19]; exact info_S
  have hS1 : Array.all S1 (·.oneCell') = true := sv_one hSV1.out (FX.out.rf _ (Touch.of_below (Below.refl _ _)))
  clear z0 z2
  go_wp2_with fail
  refine fin_sync FX.out rfl hS19 hS1 rfl (by simp [Value.oneCell']) rfl (fun _ _ _ _ _ h => h) rfl rfl rfl rfl ?_
  (try simp only [zz0, zz1, zz2, Act.put, zz3, zz4, zz5])
  go_wp2
  refine bodyPost_ret (v := .tuple #[.agg S1, .agg #[.int .i64 k, .int .i64 q, .int .u8 16, .int .i64 A, .int .i64 0, .int .i64 0], .bool true]) (results_two (p := 8) (q := 9) (u := 10) rfl _ _ (w.heap.size + 1 + 1 + 1) (w.heap.size + 1 + 1 + 1 + 1) 72 45 S1 #[.int .i64 k, .int .i64 q, .int .u8 16, .int .i64 A, .int .i64 0, .int .i64 0] (0, 0) (0, 0) _ _ rfl ((setRow_other _ _ _ _ ne1).trans (setRow_heap _ _ _ _ _ _ FZ0.out)) Try.underlying72 rfl hSz rfl (setRow_heap _ _ _ _ _ _ ((setRow_other _ _ _ _ (Ne.symm ne1)).trans FZ1.out)) Try.underlying45 rfl info_event) rfl ?_
  exact ⟨_, _, _, _, rfl, hSV1.out, fun u' T => FX.out.rf u' (touch_end T rfl rfl rfl rfl), touch_fin FX.out.bel FX.out.lo.1 FX.out.lo.2 rfl rfl rfl rfl⟩
theorem sync_16n (S : Array Value) (p : ProgD) (ca : Option Addr) (ccap : Nat) (ta : Option Addr) (tcap : Nat) (fv : Nat → Value) (rs qs : Value) (fl : Nat → List Int) (n c : Nat) (B : Nat) (w : World) (hS : SV S p ca ccap ta tcap fv rs qs 0) (hO : Ow w B fv rs qs fl n c) (hn : n ≤ 6) (hc : c ≤ 4) (k : Nat) (hk : k < n) (hr4 : (fl (9 + k)).length = 4) (q o0 : Int) (A : Nat) (b C y : Int) (h4 : (fl 4)[A]? = some y) (hy : y < 1) :
    Calls Try.prog 59 #[.agg S, .int .i64 k, .agg #[.int .u8 16, .int .i64 A, .int .i64 b, .int .i64 C], .agg #[.int .i64 k, .int .i64 q, .int .u8 16, .int .i64 o0, .int .i64 0, .int .i64 0]] w fun e w' => Rs4 (Held fv rs qs) w w' e p ca ccap ta tcap n c (fl) 1 #[.int .i64 k, .int .i64 q, .int .u8 16, .int .i64 A, .int .i64 0, .int .i64 0] := by
  go_enter Try.func59, Try.ntmps59
  go_upto_region 1 with (fail)
  generalize hU : World.alloc (World.alloc (World.alloc (World.alloc (World.alloc w _) _) _) _) _ = U0
  have X0 : Hid (Sx (Held fv rs qs) w U0 B (w.heap.size) (w.heap.size + 1) (w.heap.size + 1 + 1) (w.heap.size + 1 + 1 + 1) (w.heap.size + 1 + 1 + 1 + 1) S ⟨16, A, b, C⟩ #[.int .i64 k, .int .i64 q, .int .u8 16, .int .i64 o0, .int .i64 0, .int .i64 0] fv rs qs (fl) n c) := Lib.hid (by rw [← hU]; exact sx_boxes (x := ⟨16, A, b, C⟩) hO rfl rfl)
  have hSV := Lib.hid hS
  clear hU hO
  obtain ⟨rz, hz⟩ := at_lt (l := fl (9 + k)) (k := 0) (by omega)
  obtain ⟨gR, capR, eR, _, ltR, cR⟩ := X0.out.ow.reg hk
  obtain ⟨gr, capr, er, _, _, _⟩ := X0.out.num hz
  rw [hr4] at er
  have EE9 := Lib.hid er
  have H9 : Hid (S[9]? = some (.slice (some ⟨gR, 0, none⟩) n capR)) := Lib.hid (by rw [← eR, hS.eq]; rfl)
  rw [er] at cR
  clear er eR
  obtain ⟨g4, cap4, e4, _, _, lt4⟩ := X0.out.num h4
  have EE4 := Lib.hid e4
  have H12 : Hid (S[12]? = some (.slice (some ⟨g4, 0, none⟩) (fl 4).length cap4)) := Lib.hid (by rw [← e4, hS.eq]; rfl)
  clear e4
  have s9 : U0.cell? ⟨w.heap.size, 9, none⟩ = some (.slice (some ⟨gR, 0, none⟩) n capR) := X0.out.s H9.out
  have cR0 := cR
  have i1 : U0.cell? ⟨w.heap.size + 1, 1, none⟩ = some (.int .i64 A) := X0.out.i.2.1
  have e3 : U0.cell? ⟨w.heap.size + 1 + 1, 3, none⟩ = some (.int .i64 o0) := X0.out.e rfl
  have ef3 : U0.frozen? ⟨w.heap.size + 1 + 1, 3, none⟩ = false := X0.out.eF 3
  go_upto_region 3 with (fail)
  generalize hU : World.setCell _ _ _ = U1
  have X1 : Hid (Sx (Held fv rs qs) w U1 B (w.heap.size) (w.heap.size + 1) (w.heap.size + 1 + 1) (w.heap.size + 1 + 1 + 1) (w.heap.size + 1 + 1 + 1 + 1) S ⟨16, A, b, C⟩ #[.int .i64 k, .int .i64 q, .int .u8 16, .int .i64 A, .int .i64 0, .int .i64 0] fv rs qs (fl) n c) := Lib.hid (by rw [← hU]; exact X0.out.ev 3 (.int .i64 A))
  clear hU X0
  clear s9 i1 e3 ef3
  clear cR cR0
  have hy0 : decide (y < 1) = true := by simpa using hy
  have i0 : U1.cell? ⟨w.heap.size + 1, 0, none⟩ = some (.int .u8 16) := X1.out.i.1
  have i1 : U1.cell? ⟨w.heap.size + 1, 1, none⟩ = some (.int .i64 A) := X1.out.i.2.1
  have s12 : U1.cell? ⟨w.heap.size, 12, none⟩ = some (.slice (some ⟨g4, 0, none⟩) (fl 4).length cap4) := X1.out.s H12.out
  obtain ⟨c4, c4f⟩ := X1.out.at (j := A) (z := y) EE4.out (h4)
  have s18 : U1.cell? ⟨w.heap.size, 18, none⟩ = some (.int .i64 0) := X1.out.s (by rw [hSV.out.eq]; rfl)
  have sf18 := X1.out.sF 18
  go_upto_region 20 with (go_at_call 58; refine (number4_any _ _).mono ?_; rintro e w' ⟨rfl, rfl⟩)
  try simp only [bitN]
  obtain ⟨S1, eS⟩ : ∃ S1, S1 = S.setIfInBounds 18 (.int .i64 1) := ⟨_, rfl⟩
  have hSV1 : Hid (SV S1 p ca ccap ta tcap fv rs qs 1) := Lib.hid ⟨by rw [eS, hSV.out.eq]; rfl⟩
  have H9s : Hid (S1[9]? = some (.slice (some ⟨gR, 0, none⟩) n capR)) := Lib.hid (by rw [eS, Array.getElem?_setIfInBounds_ne (by decide)]; exact H9.out)
  have H12s : Hid (S1[12]? = some (.slice (some ⟨g4, 0, none⟩) (fl 4).length cap4)) := Lib.hid (by rw [eS, Array.getElem?_setIfInBounds_ne (by decide)]; exact H12.out)
  generalize hU : World.setCell _ _ _ = U2
  have X2 : Hid (Sx (Held fv rs qs) w U2 B (w.heap.size) (w.heap.size + 1) (w.heap.size + 1 + 1) (w.heap.size + 1 + 1 + 1) (w.heap.size + 1 + 1 + 1 + 1) S1 ⟨16, A, b, C⟩ #[.int .i64 k, .int .i64 q, .int .u8 16, .int .i64 A, .int .i64 0, .int .i64 0] fv rs qs (fl) n c) := Lib.hid (by rw [← hU]; exact (by rw [eS]; exact X1.out.sv 18 (.int .i64 1)))
  clear hU X1
  clear i0 i1 s12 c4 c4f s18 sf18
  clear eS
  have s18 : U2.cell? ⟨w.heap.size, 18, none⟩ = some (.int .i64 1) := X2.out.s (by rw [hSV1.out.eq]; rfl)
  have sf18 := X2.out.sF 18
  go_wp2_with fail
  clear s18 sf18
  have FX := Lib.hid (X2.out.fin)
  obtain ⟨Z0, z0, _⟩ := FX.out.b0
  obtain ⟨Z1, z2, _⟩ := FX.out.b1
  have ne1 := FX.out.ne.1
  have FZ0 := Lib.hid z0
  have FZ1 := Lib.hid z2
  have hS19 : Array.size S1 = 19 := by rw [hSV1.out.eq]; rfl
  have hSz : (Try.prog.info? 72).map (·.size) = some (Array.size S1) := by rw [hS19]; exact info_S
  have hS1 : Array.all S1 (·.oneCell') = true := sv_one hSV1.out (FX.out.rf _ (Touch.of_below (Below.refl _ _)))
  clear z0 z2
  go_wp2_with fail
  refine fin_sync FX.out rfl hS19 hS1 rfl (by simp [Value.oneCell']) rfl (fun _ _ _ _ _ h => h) rfl rfl rfl rfl ?_
  (try simp only [zz0, zz1, zz2, Act.put, zz3, zz4, zz5])
  go_wp2
  refine bodyPost_ret (v := .tuple #[.agg S1, .agg #[.int .i64 k, .int .i64 q, .int .u8 16, .int .i64 A, .int .i64 0, .int .i64 0], .bool true]) (results_two (p := 8) (q := 9) (u := 10) rfl _ _ (w.heap.size + 1 + 1 + 1) (w.heap.size + 1 + 1 + 1 + 1) 72 45 S1 #[.int .i64 k, .int .i64 q, .int .u8 16, .int .i64 A, .int .i64 0, .int .i64 0] (0, 0) (0, 0) _ _ rfl ((setRow_other _ _ _ _ ne1).trans (setRow_heap _ _ _ _ _ _ FZ0.out)) Try.underlying72 rfl hSz rfl (setRow_heap _ _ _ _ _ _ ((setRow_other _ _ _ _ (Ne.symm ne1)).trans FZ1.out)) Try.underlying45 rfl info_event) rfl ?_
  exact ⟨_, _, _, _, rfl, hSV1.out, fun u' T => FX.out.rf u' (touch_end T rfl rfl rfl rfl), touch_fin FX.out.bel FX.out.lo.1 FX.out.lo.2 rfl rfl rfl rfl⟩
theorem sync_27y (S : Array Value) (p : ProgD) (ca : Option Addr) (ccap : Nat) (ta : Option Addr) (tcap : Nat) (fv : Nat → Value) (rs qs : Value) (fl : Nat → List Int) (n c : Nat) (B : Nat) (w : World) (hS : SV S p ca ccap ta tcap fv rs qs 0) (hO : Ow w B fv rs qs fl n c) (hn : n ≤ 6) (hc : c ≤ 4) (k : Nat) (hk : k < n) (hr4 : (fl (9 + k)).length = 4) (q o0 : Int) (A : Nat) (b C y : Int) (h7 : (fl 7)[A]? = some y) (hy : y = 1) :
    Calls Try.prog 59 #[.agg S, .int .i64 k, .agg #[.int .u8 27, .int .i64 A, .int .i64 b, .int .i64 C], .agg #[.int .i64 k, .int .i64 q, .int .u8 27, .int .i64 o0, .int .i64 0, .int .i64 0]] w fun e w' => Rs4 (Held fv rs qs) w w' e p ca ccap ta tcap n c (updF fl (7) ((fl (7)).set A 2)) 0 #[.int .i64 k, .int .i64 q, .int .u8 27, .int .i64 A, .int .i64 0, .int .i64 0] := by
  go_enter Try.func59, Try.ntmps59
  go_upto_region 1 with (fail)
  generalize hU : World.alloc (World.alloc (World.alloc (World.alloc (World.alloc w _) _) _) _) _ = U0
  have X0 : Hid (Sx (Held fv rs qs) w U0 B (w.heap.size) (w.heap.size + 1) (w.heap.size + 1 + 1) (w.heap.size + 1 + 1 + 1) (w.heap.size + 1 + 1 + 1 + 1) S ⟨27, A, b, C⟩ #[.int .i64 k, .int .i64 q, .int .u8 27, .int .i64 o0, .int .i64 0, .int .i64 0] fv rs qs (fl) n c) := Lib.hid (by rw [← hU]; exact sx_boxes (x := ⟨27, A, b, C⟩) hO rfl rfl)
  have hSV := Lib.hid hS
  clear hU hO
  obtain ⟨rz, hz⟩ := at_lt (l := fl (9 + k)) (k := 0) (by omega)
  obtain ⟨gR, capR, eR, _, ltR, cR⟩ := X0.out.ow.reg hk
  obtain ⟨gr, capr, er, _, _, _⟩ := X0.out.num hz
  rw [hr4] at er
  have EE9 := Lib.hid er
  have H9 : Hid (S[9]? = some (.slice (some ⟨gR, 0, none⟩) n capR)) := Lib.hid (by rw [← eR, hS.eq]; rfl)
  rw [er] at cR
  clear er eR
  obtain ⟨g7, cap7, e7, _, _, lt7⟩ := X0.out.num h7
  have EE7 := Lib.hid e7
  have H16 : Hid (S[16]? = some (.slice (some ⟨g7, 0, none⟩) (fl 7).length cap7)) := Lib.hid (by rw [← e7, hS.eq]; rfl)
  clear e7
  have s9 : U0.cell? ⟨w.heap.size, 9, none⟩ = some (.slice (some ⟨gR, 0, none⟩) n capR) := X0.out.s H9.out
  have cR0 := cR
  have i1 : U0.cell? ⟨w.heap.size + 1, 1, none⟩ = some (.int .i64 A) := X0.out.i.2.1
  have e3 : U0.cell? ⟨w.heap.size + 1 + 1, 3, none⟩ = some (.int .i64 o0) := X0.out.e rfl
  have ef3 : U0.frozen? ⟨w.heap.size + 1 + 1, 3, none⟩ = false := X0.out.eF 3
  go_upto_region 3 with (fail)
  generalize hU : World.setCell _ _ _ = U1
  have X1 : Hid (Sx (Held fv rs qs) w U1 B (w.heap.size) (w.heap.size + 1) (w.heap.size + 1 + 1) (w.heap.size + 1 + 1 + 1) (w.heap.size + 1 + 1 + 1 + 1) S ⟨27, A, b, C⟩ #[.int .i64 k, .int .i64 q, .int .u8 27, .int .i64 A, .int .i64 0, .int .i64 0] fv rs qs (fl) n c) := Lib.hid (by rw [← hU]; exact X0.out.ev 3 (.int .i64 A))
  clear hU X0
  clear s9 i1 e3 ef3
  clear cR cR0
  have hy0 : (y != 1) = false := by simpa using hy
  have i0 : U1.cell? ⟨w.heap.size + 1, 0, none⟩ = some (.int .u8 27) := X1.out.i.1
  have i1 : U1.cell? ⟨w.heap.size + 1, 1, none⟩ = some (.int .i64 A) := X1.out.i.2.1
  have s16 : U1.cell? ⟨w.heap.size, 16, none⟩ = some (.slice (some ⟨g7, 0, none⟩) (fl 7).length cap7) := X1.out.s H16.out
  obtain ⟨c7, c7f⟩ := X1.out.at (j := A) (z := y) EE7.out (h7)
  have s18 : U1.cell? ⟨w.heap.size, 18, none⟩ = some (.int .i64 0) := X1.out.s (by rw [hSV.out.eq]; rfl)
  have sf18 := X1.out.sF 18
  go_upto_region 32 with (go_at_call 58; refine (number4_any _ _).mono ?_; rintro e w' ⟨rfl, rfl⟩)
  try simp only [bitN]
  obtain ⟨S1, eS⟩ : ∃ S1, S1 = S.setIfInBounds 18 (.int .i64 0) := ⟨_, rfl⟩
  have hSV1 : Hid (SV S1 p ca ccap ta tcap fv rs qs 0) := Lib.hid ⟨by rw [eS, hSV.out.eq]; rfl⟩
  have H9s : Hid (S1[9]? = some (.slice (some ⟨gR, 0, none⟩) n capR)) := Lib.hid (by rw [eS, Array.getElem?_setIfInBounds_ne (by decide)]; exact H9.out)
  have H16s : Hid (S1[16]? = some (.slice (some ⟨g7, 0, none⟩) (fl 7).length cap7)) := Lib.hid (by rw [eS, Array.getElem?_setIfInBounds_ne (by decide)]; exact H16.out)
  generalize hU : World.setCell _ _ _ = U2
  have X2 : Hid (Sx (Held fv rs qs) w U2 B (w.heap.size) (w.heap.size + 1) (w.heap.size + 1 + 1) (w.heap.size + 1 + 1 + 1) (w.heap.size + 1 + 1 + 1 + 1) S1 ⟨27, A, b, C⟩ #[.int .i64 k, .int .i64 q, .int .u8 27, .int .i64 A, .int .i64 0, .int .i64 0] fv rs qs (fl) n c) := Lib.hid (by rw [← hU]; exact (by rw [eS]; exact X1.out.sv 18 (.int .i64 0)))
  clear hU X1
  clear i0 i1 s16 c7 c7f s18 sf18
  clear eS
  have s18 : U2.cell? ⟨w.heap.size, 18, none⟩ = some (.int .i64 0) := X2.out.s (by rw [hSV1.out.eq]; rfl)
  have sf18 := X2.out.sF 18
  have i1 : U2.cell? ⟨w.heap.size + 1, 1, none⟩ = some (.int .i64 A) := X2.out.i.2.1
  have s16 : U2.cell? ⟨w.heap.size, 16, none⟩ = some (.slice (some ⟨g7, 0, none⟩) (fl 7).length cap7) := X2.out.s H16s.out
  obtain ⟨c7, c7f⟩ := X2.out.at (j := A) (z := y) EE7.out (h7)
  go_wp2_with fail
  generalize hU : World.setCell _ _ _ = U3
  have X3 : Hid (Sx (Held fv rs qs) w U3 B (w.heap.size) (w.heap.size + 1) (w.heap.size + 1 + 1) (w.heap.size + 1 + 1 + 1) (w.heap.size + 1 + 1 + 1 + 1) S1 ⟨27, A, b, C⟩ #[.int .i64 k, .int .i64 q, .int .u8 27, .int .i64 A, .int .i64 0, .int .i64 0] fv rs qs (updF fl (7) ((fl (7)).set A 2)) n c) := Lib.hid (by rw [← hU]; exact X2.out.put' EE7.out (lt7) 2)
  clear hU X2
  clear s18 sf18 i1 s16 c7 c7f
  have FX := Lib.hid (X3.out.fin)
  obtain ⟨Z0, z0, _⟩ := FX.out.b0
  obtain ⟨Z1, z2, _⟩ := FX.out.b1
  have ne1 := FX.out.ne.1
  have FZ0 := Lib.hid z0
  have FZ1 := Lib.hid z2
  have hS19 : Array.size S1 = 19 := by rw [hSV1.out.eq]; rfl
  have hSz : (Try.prog.info? 72).map (·.size) = some (Array.size S1) := by rw [hS19]; exact info_S
  have hS1 : Array.all S1 (·.oneCell') = true := sv_one hSV1.out (FX.out.rf _ (Touch.of_below (Below.refl _ _)))
  clear z0 z2
  go_wp2_with fail
  refine fin_sync FX.out rfl hS19 hS1 rfl (by simp [Value.oneCell']) rfl (fun _ _ _ _ _ h => h) rfl rfl rfl rfl ?_
  (try simp only [zz0, zz1, zz2, Act.put, zz3, zz4, zz5])
  go_wp2
  refine bodyPost_ret (v := .tuple #[.agg S1, .agg #[.int .i64 k, .int .i64 q, .int .u8 27, .int .i64 A, .int .i64 0, .int .i64 0], .bool true]) (results_two (p := 8) (q := 9) (u := 10) rfl _ _ (w.heap.size + 1 + 1 + 1) (w.heap.size + 1 + 1 + 1 + 1) 72 45 S1 #[.int .i64 k, .int .i64 q, .int .u8 27, .int .i64 A, .int .i64 0, .int .i64 0] (0, 0) (0, 0) _ _ rfl ((setRow_other _ _ _ _ ne1).trans (setRow_heap _ _ _ _ _ _ FZ0.out)) Try.underlying72 rfl hSz rfl (setRow_heap _ _ _ _ _ _ ((setRow_other _ _ _ _ (Ne.symm ne1)).trans FZ1.out)) Try.underlying45 rfl info_event) rfl ?_
  exact ⟨_, _, _, _, rfl, hSV1.out, fun u' T => FX.out.rf u' (touch_end T rfl rfl rfl rfl), touch_fin FX.out.bel FX.out.lo.1 FX.out.lo.2 rfl rfl rfl rfl⟩
theorem sync_27n (S : Array Value) (p : ProgD) (ca : Option Addr) (ccap : Nat) (ta : Option Addr) (tcap : Nat) (fv : Nat → Value) (rs qs : Value) (fl : Nat → List Int) (n c : Nat) (B : Nat) (w : World) (hS : SV S p ca ccap ta tcap fv rs qs 0) (hO : Ow w B fv rs qs fl n c) (hn : n ≤ 6) (hc : c ≤ 4) (k : Nat) (hk : k < n) (hr4 : (fl (9 + k)).length = 4) (q o0 : Int) (A : Nat) (b C y : Int) (h7 : (fl 7)[A]? = some y) (hy : ¬ y = 1) :
    Calls Try.prog 59 #[.agg S, .int .i64 k, .agg #[.int .u8 27, .int .i64 A, .int .i64 b, .int .i64 C], .agg #[.int .i64 k, .int .i64 q, .int .u8 27, .int .i64 o0, .int .i64 0, .int .i64 0]] w fun e w' => Rs4 (Held fv rs qs) w w' e p ca ccap ta tcap n c (fl) 1 #[.int .i64 k, .int .i64 q, .int .u8 27, .int .i64 A, .int .i64 0, .int .i64 0] := by
  go_enter Try.func59, Try.ntmps59
  go_upto_region 1 with (fail)
  generalize hU : World.alloc (World.alloc (World.alloc (World.alloc (World.alloc w _) _) _) _) _ = U0
  have X0 : Hid (Sx (Held fv rs qs) w U0 B (w.heap.size) (w.heap.size + 1) (w.heap.size + 1 + 1) (w.heap.size + 1 + 1 + 1) (w.heap.size + 1 + 1 + 1 + 1) S ⟨27, A, b, C⟩ #[.int .i64 k, .int .i64 q, .int .u8 27, .int .i64 o0, .int .i64 0, .int .i64 0] fv rs qs (fl) n c) := Lib.hid (by rw [← hU]; exact sx_boxes (x := ⟨27, A, b, C⟩) hO rfl rfl)
  have hSV := Lib.hid hS
  clear hU hO
  obtain ⟨rz, hz⟩ := at_lt (l := fl (9 + k)) (k := 0) (by omega)
  obtain ⟨gR, capR, eR, _, ltR, cR⟩ := X0.out.ow.reg hk
  obtain ⟨gr, capr, er, _, _, _⟩ := X0.out.num hz
  rw [hr4] at er
  have EE9 := Lib.hid er
  have H9 : Hid (S[9]? = some (.slice (some ⟨gR, 0, none⟩) n capR)) := Lib.hid (by rw [← eR, hS.eq]; rfl)
  rw [er] at cR
  clear er eR
  obtain ⟨g7, cap7, e7, _, _, lt7⟩ := X0.out.num h7
  have EE7 := Lib.hid e7
  have H16 : Hid (S[16]? = some (.slice (some ⟨g7, 0, none⟩) (fl 7).length cap7)) := Lib.hid (by rw [← e7, hS.eq]; rfl)
  clear e7
  have s9 : U0.cell? ⟨w.heap.size, 9, none⟩ = some (.slice (some ⟨gR, 0, none⟩) n capR) := X0.out.s H9.out
  have cR0 := cR
  have i1 : U0.cell? ⟨w.heap.size + 1, 1, none⟩ = some (.int .i64 A) := X0.out.i.2.1
  have e3 : U0.cell? ⟨w.heap.size + 1 + 1, 3, none⟩ = some (.int .i64 o0) := X0.out.e rfl
  have ef3 : U0.frozen? ⟨w.heap.size + 1 + 1, 3, none⟩ = false := X0.out.eF 3
  go_upto_region 3 with (fail)
  generalize hU : World.setCell _ _ _ = U1
  have X1 : Hid (Sx (Held fv rs qs) w U1 B (w.heap.size) (w.heap.size + 1) (w.heap.size + 1 + 1) (w.heap.size + 1 + 1 + 1) (w.heap.size + 1 + 1 + 1 + 1) S ⟨27, A, b, C⟩ #[.int .i64 k, .int .i64 q, .int .u8 27, .int .i64 A, .int .i64 0, .int .i64 0] fv rs qs (fl) n c) := Lib.hid (by rw [← hU]; exact X0.out.ev 3 (.int .i64 A))
  clear hU X0
  clear s9 i1 e3 ef3
  clear cR cR0
  have hy0 : (y != 1) = true := by simpa using hy
  have i0 : U1.cell? ⟨w.heap.size + 1, 0, none⟩ = some (.int .u8 27) := X1.out.i.1
  have i1 : U1.cell? ⟨w.heap.size + 1, 1, none⟩ = some (.int .i64 A) := X1.out.i.2.1
  have s16 : U1.cell? ⟨w.heap.size, 16, none⟩ = some (.slice (some ⟨g7, 0, none⟩) (fl 7).length cap7) := X1.out.s H16.out
  obtain ⟨c7, c7f⟩ := X1.out.at (j := A) (z := y) EE7.out (h7)
  have s18 : U1.cell? ⟨w.heap.size, 18, none⟩ = some (.int .i64 0) := X1.out.s (by rw [hSV.out.eq]; rfl)
  have sf18 := X1.out.sF 18
  go_upto_region 32 with (go_at_call 58; refine (number4_any _ _).mono ?_; rintro e w' ⟨rfl, rfl⟩)
  try simp only [bitN]
  obtain ⟨S1, eS⟩ : ∃ S1, S1 = S.setIfInBounds 18 (.int .i64 1) := ⟨_, rfl⟩
  have hSV1 : Hid (SV S1 p ca ccap ta tcap fv rs qs 1) := Lib.hid ⟨by rw [eS, hSV.out.eq]; rfl⟩
  have H9s : Hid (S1[9]? = some (.slice (some ⟨gR, 0, none⟩) n capR)) := Lib.hid (by rw [eS, Array.getElem?_setIfInBounds_ne (by decide)]; exact H9.out)
  have H16s : Hid (S1[16]? = some (.slice (some ⟨g7, 0, none⟩) (fl 7).length cap7)) := Lib.hid (by rw [eS, Array.getElem?_setIfInBounds_ne (by decide)]; exact H16.out)
  generalize hU : World.setCell _ _ _ = U2
  have X2 : Hid (Sx (Held fv rs qs) w U2 B (w.heap.size) (w.heap.size + 1) (w.heap.size + 1 + 1) (w.heap.size + 1 + 1 + 1) (w.heap.size + 1 + 1 + 1 + 1) S1 ⟨27, A, b, C⟩ #[.int .i64 k, .int .i64 q, .int .u8 27, .int .i64 A, .int .i64 0, .int .i64 0] fv rs qs (fl) n c) := Lib.hid (by rw [← hU]; exact (by rw [eS]; exact X1.out.sv 18 (.int .i64 1)))
  clear hU X1
  clear i0 i1 s16 c7 c7f s18 sf18
  clear eS
  have s18 : U2.cell? ⟨w.heap.size, 18, none⟩ = some (.int .i64 1) := X2.out.s (by rw [hSV1.out.eq]; rfl)
  have sf18 := X2.out.sF 18
  go_wp2_with fail
  clear s18 sf18
  have FX := Lib.hid (X2.out.fin)
  obtain ⟨Z0, z0, _⟩ := FX.out.b0
  obtain ⟨Z1, z2, _⟩ := FX.out.b1
  have ne1 := FX.out.ne.1
  have FZ0 := Lib.hid z0
  have FZ1 := Lib.hid z2
  have hS19 : Array.size S1 = 19 := by rw [hSV1.out.eq]; rfl
  have hSz : (Try.prog.info? 72).map (·.size) = some (Array.size S1) := by rw [hS19]; exact info_S
  have hS1 : Array.all S1 (·.oneCell') = true := sv_one hSV1.out (FX.out.rf _ (Touch.of_below (Below.refl _ _)))
  clear z0 z2
  go_wp2_with fail
  refine fin_sync FX.out rfl hS19 hS1 rfl (by simp [Value.oneCell']) rfl (fun _ _ _ _ _ h => h) rfl rfl rfl rfl ?_
  (try simp only [zz0, zz1, zz2, Act.put, zz3, zz4, zz5])
  go_wp2
  refine bodyPost_ret (v := .tuple #[.agg S1, .agg #[.int .i64 k, .int .i64 q, .int .u8 27, .int .i64 A, .int .i64 0, .int .i64 0], .bool true]) (results_two (p := 8) (q := 9) (u := 10) rfl _ _ (w.heap.size + 1 + 1 + 1) (w.heap.size + 1 + 1 + 1 + 1) 72 45 S1 #[.int .i64 k, .int .i64 q, .int .u8 27, .int .i64 A, .int .i64 0, .int .i64 0] (0, 0) (0, 0) _ _ rfl ((setRow_other _ _ _ _ ne1).trans (setRow_heap _ _ _ _ _ _ FZ0.out)) Try.underlying72 rfl hSz rfl (setRow_heap _ _ _ _ _ _ ((setRow_other _ _ _ _ (Ne.symm ne1)).trans FZ1.out)) Try.underlying45 rfl info_event) rfl ?_
  exact ⟨_, _, _, _, rfl, hSV1.out, fun u' T => FX.out.rf u' (touch_end T rfl rfl rfl rfl), touch_fin FX.out.bel FX.out.lo.1 FX.out.lo.2 rfl rfl rfl rfl⟩
theorem sync_18 (S : Array Value) (p : ProgD) (ca : Option Addr) (ccap : Nat) (ta : Option Addr) (tcap : Nat) (fv : Nat → Value) (rs qs : Value) (fl : Nat → List Int) (n c : Nat) (B : Nat) (w : World) (hS : SV S p ca ccap ta tcap fv rs qs 0) (hO : Ow w B fv rs qs fl n c) (hn : n ≤ 6) (hc : c ≤ 4) (k : Nat) (hk : k < n) (hr4 : (fl (9 + k)).length = 4) (q o0 : Int) (A b : Nat) (C y rb : Int) (h3 : (fl 3)[A]? = some y) (hb4 : b < 4) (hb : (fl (9 + k))[b]? = some rb) :
    Calls Try.prog 59 #[.agg S, .int .i64 k, .agg #[.int .u8 18, .int .i64 A, .int .i64 b, .int .i64 C], .agg #[.int .i64 k, .int .i64 q, .int .u8 18, .int .i64 o0, .int .i64 0, .int .i64 0]] w fun e w' => Rs4 (Held fv rs qs) w w' e p ca ccap ta tcap n c (updF fl (3) ((fl (3)).set A rb)) 0 #[.int .i64 k, .int .i64 q, .int .u8 18, .int .i64 A, .int .i64 rb, .int .i64 0] := by
  go_enter Try.func59, Try.ntmps59
  go_upto_region 1 with (fail)
  generalize hU : World.alloc (World.alloc (World.alloc (World.alloc (World.alloc w _) _) _) _) _ = U0
  have X0 : Hid (Sx (Held fv rs qs) w U0 B (w.heap.size) (w.heap.size + 1) (w.heap.size + 1 + 1) (w.heap.size + 1 + 1 + 1) (w.heap.size + 1 + 1 + 1 + 1) S ⟨18, A, b, C⟩ #[.int .i64 k, .int .i64 q, .int .u8 18, .int .i64 o0, .int .i64 0, .int .i64 0] fv rs qs (fl) n c) := Lib.hid (by rw [← hU]; exact sx_boxes (x := ⟨18, A, b, C⟩) hO rfl rfl)
  have hSV := Lib.hid hS
  clear hU hO
  have hb4' : (b : Int) < 4 := by omega
  obtain ⟨gR, capR, eR, _, ltR, cR⟩ := X0.out.ow.reg hk
  obtain ⟨gr, capr, er, _, _, _⟩ := X0.out.num hb
  rw [hr4] at er
  have EE9 := Lib.hid er
  have H9 : Hid (S[9]? = some (.slice (some ⟨gR, 0, none⟩) n capR)) := Lib.hid (by rw [← eR, hS.eq]; rfl)
  rw [er] at cR
  clear er eR
  obtain ⟨g3, cap3, e3, _, _, lt3⟩ := X0.out.num h3
  have EE3 := Lib.hid e3
  have H11 : Hid (S[11]? = some (.slice (some ⟨g3, 0, none⟩) (fl 3).length cap3)) := Lib.hid (by rw [← e3, hS.eq]; rfl)
  clear e3
  have s9 : U0.cell? ⟨w.heap.size, 9, none⟩ = some (.slice (some ⟨gR, 0, none⟩) n capR) := X0.out.s H9.out
  have cR0 := cR
  have i1 : U0.cell? ⟨w.heap.size + 1, 1, none⟩ = some (.int .i64 A) := X0.out.i.2.1
  have e3 : U0.cell? ⟨w.heap.size + 1 + 1, 3, none⟩ = some (.int .i64 o0) := X0.out.e rfl
  have ef3 : U0.frozen? ⟨w.heap.size + 1 + 1, 3, none⟩ = false := X0.out.eF 3
  go_upto_region 3 with (fail)
  generalize hU : World.setCell _ _ _ = U1
  have X1 : Hid (Sx (Held fv rs qs) w U1 B (w.heap.size) (w.heap.size + 1) (w.heap.size + 1 + 1) (w.heap.size + 1 + 1 + 1) (w.heap.size + 1 + 1 + 1 + 1) S ⟨18, A, b, C⟩ #[.int .i64 k, .int .i64 q, .int .u8 18, .int .i64 A, .int .i64 0, .int .i64 0] fv rs qs (fl) n c) := Lib.hid (by rw [← hU]; exact X0.out.ev 3 (.int .i64 A))
  clear hU X0
  clear s9 i1 e3 ef3
  clear cR cR0
  have i0 : U1.cell? ⟨w.heap.size + 1, 0, none⟩ = some (.int .u8 18) := X1.out.i.1
  have i1 : U1.cell? ⟨w.heap.size + 1, 1, none⟩ = some (.int .i64 A) := X1.out.i.2.1
  have i2 : U1.cell? ⟨w.heap.size + 1, 2, none⟩ = some (.int .i64 b) := X1.out.i.2.2.1
  have s11 : U1.cell? ⟨w.heap.size, 11, none⟩ = some (.slice (some ⟨g3, 0, none⟩) (fl 3).length cap3) := X1.out.s H11.out
  obtain ⟨c3, c3f⟩ := X1.out.at (j := A) (z := y) EE3.out (h3)
  obtain ⟨cr, crf⟩ := X1.out.at (j := b) (z := rb) EE9.out (hb)
  go_upto_region 23 with (fail)
  go_still_tail 10, (by kernel_rfl)
  go_upto_region 24 with (fail)
  generalize hU : World.setCell _ _ _ = U2
  have X2 : Hid (Sx (Held fv rs qs) w U2 B (w.heap.size) (w.heap.size + 1) (w.heap.size + 1 + 1) (w.heap.size + 1 + 1 + 1) (w.heap.size + 1 + 1 + 1 + 1) S ⟨18, A, b, C⟩ #[.int .i64 k, .int .i64 q, .int .u8 18, .int .i64 A, .int .i64 0, .int .i64 0] fv rs qs (updF fl (3) ((fl (3)).set A rb)) n c) := Lib.hid (by rw [← hU]; exact X1.out.put' EE3.out (lt3) rb)
  clear hU X1
  clear i0 i1 i2 s11 c3 c3f cr crf
  have i2 : U2.cell? ⟨w.heap.size + 1, 2, none⟩ = some (.int .i64 b) := X2.out.i.2.2.1
  obtain ⟨cr, crf⟩ := X2.out.at (j := b) (z := rb) EE9.out (by rw [updF_ne _ _ (by omega)]; exact hb)
  have e4 : U2.cell? ⟨w.heap.size + 1 + 1, 4, none⟩ = some (.int .i64 0) := X2.out.e rfl
  have ef4 : U2.frozen? ⟨w.heap.size + 1 + 1, 4, none⟩ = false := X2.out.eF 4
  go_wp2_with fail
  generalize hU : World.setCell _ _ _ = U3
  have X3 : Hid (Sx (Held fv rs qs) w U3 B (w.heap.size) (w.heap.size + 1) (w.heap.size + 1 + 1) (w.heap.size + 1 + 1 + 1) (w.heap.size + 1 + 1 + 1 + 1) S ⟨18, A, b, C⟩ #[.int .i64 k, .int .i64 q, .int .u8 18, .int .i64 A, .int .i64 rb, .int .i64 0] fv rs qs (updF fl (3) ((fl (3)).set A rb)) n c) := Lib.hid (by rw [← hU]; exact X2.out.ev 4 (.int .i64 rb))
  clear hU X2
  clear i2 cr crf e4 ef4
  have FX := Lib.hid (X3.out.fin)
  obtain ⟨Z0, z0, _⟩ := FX.out.b0
  obtain ⟨Z1, z2, _⟩ := FX.out.b1
  have ne1 := FX.out.ne.1
  have FZ0 := Lib.hid z0
  have FZ1 := Lib.hid z2
  have hS19 : Array.size S = 19 := by rw [hSV.out.eq]; rfl
  have hSz : (Try.prog.info? 72).map (·.size) = some (Array.size S) := by rw [hS19]; exact info_S
  have hS1 : Array.all S (·.oneCell') = true := sv_one hSV.out (FX.out.rf _ (Touch.of_below (Below.refl _ _)))
  clear z0 z2
  go_wp2_with fail
  refine fin_sync FX.out rfl hS19 hS1 rfl (by simp [Value.oneCell']) rfl (fun _ _ _ _ _ h => h) rfl rfl rfl rfl ?_
  (try simp only [zz0, zz1, zz2, Act.put, zz3, zz4, zz5])
  go_wp2
  refine bodyPost_ret (v := .tuple #[.agg S, .agg #[.int .i64 k, .int .i64 q, .int .u8 18, .int .i64 A, .int .i64 rb, .int .i64 0], .bool true]) (results_two (p := 8) (q := 9) (u := 10) rfl _ _ (w.heap.size + 1 + 1 + 1) (w.heap.size + 1 + 1 + 1 + 1) 72 45 S #[.int .i64 k, .int .i64 q, .int .u8 18, .int .i64 A, .int .i64 rb, .int .i64 0] (0, 0) (0, 0) _ _ rfl ((setRow_other _ _ _ _ ne1).trans (setRow_heap _ _ _ _ _ _ FZ0.out)) Try.underlying72 rfl hSz rfl (setRow_heap _ _ _ _ _ _ ((setRow_other _ _ _ _ (Ne.symm ne1)).trans FZ1.out)) Try.underlying45 rfl info_event) rfl ?_
  exact ⟨_, _, _, _, rfl, hSV.out, fun u' T => FX.out.rf u' (touch_end T rfl rfl rfl rfl), touch_fin FX.out.bel FX.out.lo.1 FX.out.lo.2 rfl rfl rfl rfl⟩
theorem sync_23 (S : Array Value) (p : ProgD) (ca : Option Addr) (ccap : Nat) (ta : Option Addr) (tcap : Nat) (fv : Nat → Value) (rs qs : Value) (fl : Nat → List Int) (n c : Nat) (B : Nat) (w : World) (hS : SV S p ca ccap ta tcap fv rs qs 0) (hO : Ow w B fv rs qs fl n c) (hn : n ≤ 6) (hc : c ≤ 4) (k : Nat) (hk : k < n) (hr4 : (fl (9 + k)).length = 4) (q o0 : Int) (A : Nat) (b C y : Int) (h5 : (fl 5)[A]? = some y) :
    Calls Try.prog 59 #[.agg S, .int .i64 k, .agg #[.int .u8 23, .int .i64 A, .int .i64 b, .int .i64 C], .agg #[.int .i64 k, .int .i64 q, .int .u8 23, .int .i64 o0, .int .i64 0, .int .i64 0]] w fun e w' => Rs4 (Held fv rs qs) w w' e p ca ccap ta tcap n c (updF fl (5) ((fl (5)).set A 1)) y #[.int .i64 k, .int .i64 q, .int .u8 23, .int .i64 A, .int .i64 0, .int .i64 0] := by
  go_enter Try.func59, Try.ntmps59
  go_upto_region 1 with (fail)
  generalize hU : World.alloc (World.alloc (World.alloc (World.alloc (World.alloc w _) _) _) _) _ = U0
  have X0 : Hid (Sx (Held fv rs qs) w U0 B (w.heap.size) (w.heap.size + 1) (w.heap.size + 1 + 1) (w.heap.size + 1 + 1 + 1) (w.heap.size + 1 + 1 + 1 + 1) S ⟨23, A, b, C⟩ #[.int .i64 k, .int .i64 q, .int .u8 23, .int .i64 o0, .int .i64 0, .int .i64 0] fv rs qs (fl) n c) := Lib.hid (by rw [← hU]; exact sx_boxes (x := ⟨23, A, b, C⟩) hO rfl rfl)
  have hSV := Lib.hid hS
  clear hU hO
  obtain ⟨rz, hz⟩ := at_lt (l := fl (9 + k)) (k := 0) (by omega)
  obtain ⟨gR, capR, eR, _, ltR, cR⟩ := X0.out.ow.reg hk
  obtain ⟨gr, capr, er, _, _, _⟩ := X0.out.num hz
  rw [hr4] at er
  have EE9 := Lib.hid er
  have H9 : Hid (S[9]? = some (.slice (some ⟨gR, 0, none⟩) n capR)) := Lib.hid (by rw [← eR, hS.eq]; rfl)
  rw [er] at cR
  clear er eR
  obtain ⟨g5, cap5, e5, _, _, lt5⟩ := X0.out.num h5
  have EE5 := Lib.hid e5
  have H14 : Hid (S[14]? = some (.slice (some ⟨g5, 0, none⟩) (fl 5).length cap5)) := Lib.hid (by rw [← e5, hS.eq]; rfl)
  clear e5
  have s9 : U0.cell? ⟨w.heap.size, 9, none⟩ = some (.slice (some ⟨gR, 0, none⟩) n capR) := X0.out.s H9.out
  have cR0 := cR
  have i1 : U0.cell? ⟨w.heap.size + 1, 1, none⟩ = some (.int .i64 A) := X0.out.i.2.1
  have e3 : U0.cell? ⟨w.heap.size + 1 + 1, 3, none⟩ = some (.int .i64 o0) := X0.out.e rfl
  have ef3 : U0.frozen? ⟨w.heap.size + 1 + 1, 3, none⟩ = false := X0.out.eF 3
  go_upto_region 3 with (fail)
  generalize hU : World.setCell _ _ _ = U1
  have X1 : Hid (Sx (Held fv rs qs) w U1 B (w.heap.size) (w.heap.size + 1) (w.heap.size + 1 + 1) (w.heap.size + 1 + 1 + 1) (w.heap.size + 1 + 1 + 1 + 1) S ⟨23, A, b, C⟩ #[.int .i64 k, .int .i64 q, .int .u8 23, .int .i64 A, .int .i64 0, .int .i64 0] fv rs qs (fl) n c) := Lib.hid (by rw [← hU]; exact X0.out.ev 3 (.int .i64 A))
  clear hU X0
  clear s9 i1 e3 ef3
  clear cR cR0
  have i0 : U1.cell? ⟨w.heap.size + 1, 0, none⟩ = some (.int .u8 23) := X1.out.i.1
  have i1 : U1.cell? ⟨w.heap.size + 1, 1, none⟩ = some (.int .i64 A) := X1.out.i.2.1
  have s14 : U1.cell? ⟨w.heap.size, 14, none⟩ = some (.slice (some ⟨g5, 0, none⟩) (fl 5).length cap5) := X1.out.s H14.out
  obtain ⟨c5, c5f⟩ := X1.out.at (j := A) (z := y) EE5.out (h5)
  have s18 : U1.cell? ⟨w.heap.size, 18, none⟩ = some (.int .i64 0) := X1.out.s (by rw [hSV.out.eq]; rfl)
  have sf18 := X1.out.sF 18
  go_upto_region 41 with (fail)
  obtain ⟨S1, eS⟩ : ∃ S1, S1 = S.setIfInBounds 18 (.int .i64 y) := ⟨_, rfl⟩
  have hSV1 : Hid (SV S1 p ca ccap ta tcap fv rs qs y) := Lib.hid ⟨by rw [eS, hSV.out.eq]; rfl⟩
  have H9s : Hid (S1[9]? = some (.slice (some ⟨gR, 0, none⟩) n capR)) := Lib.hid (by rw [eS, Array.getElem?_setIfInBounds_ne (by decide)]; exact H9.out)
  have H14s : Hid (S1[14]? = some (.slice (some ⟨g5, 0, none⟩) (fl 5).length cap5)) := Lib.hid (by rw [eS, Array.getElem?_setIfInBounds_ne (by decide)]; exact H14.out)
  generalize hU : World.setCell _ _ _ = U2
  have X2 : Hid (Sx (Held fv rs qs) w U2 B (w.heap.size) (w.heap.size + 1) (w.heap.size + 1 + 1) (w.heap.size + 1 + 1 + 1) (w.heap.size + 1 + 1 + 1 + 1) S1 ⟨23, A, b, C⟩ #[.int .i64 k, .int .i64 q, .int .u8 23, .int .i64 A, .int .i64 0, .int .i64 0] fv rs qs (fl) n c) := Lib.hid (by rw [← hU]; exact (by rw [eS]; exact X1.out.sv 18 (.int .i64 y)))
  clear hU X1
  clear i0 i1 s14 c5 c5f s18 sf18
  clear eS
  have i1 : U2.cell? ⟨w.heap.size + 1, 1, none⟩ = some (.int .i64 A) := X2.out.i.2.1
  have s14 : U2.cell? ⟨w.heap.size, 14, none⟩ = some (.slice (some ⟨g5, 0, none⟩) (fl 5).length cap5) := X2.out.s H14s.out
  obtain ⟨c5, c5f⟩ := X2.out.at (j := A) (z := y) EE5.out (h5)
  go_wp2_with fail
  generalize hU : World.setCell _ _ _ = U3
  have X3 : Hid (Sx (Held fv rs qs) w U3 B (w.heap.size) (w.heap.size + 1) (w.heap.size + 1 + 1) (w.heap.size + 1 + 1 + 1) (w.heap.size + 1 + 1 + 1 + 1) S1 ⟨23, A, b, C⟩ #[.int .i64 k, .int .i64 q, .int .u8 23, .int .i64 A, .int .i64 0, .int .i64 0] fv rs qs (updF fl (5) ((fl (5)).set A 1)) n c) := Lib.hid (by rw [← hU]; exact X2.out.put' EE5.out (lt5) 1)
  clear hU X2
  clear i1 s14 c5 c5f
  have FX := Lib.hid (X3.out.fin)
  obtain ⟨Z0, z0, _⟩ := FX.out.b0
  obtain ⟨Z1, z2, _⟩ := FX.out.b1
  have ne1 := FX.out.ne.1
  have FZ0 := Lib.hid z0
  have FZ1 := Lib.hid z2
  have hS19 : Array.size S1 = 19 := by rw [hSV1.out.eq]; rfl
  have hSz : (Try.prog.info? 72).map (·.size) = some (Array.size S1) := by rw [hS19]; exact info_S
  have hS1 : Array.all S1 (·.oneCell') = true := sv_one hSV1.out (FX.out.rf _ (Touch.of_below (Below.refl _ _)))
  clear z0 z2
  go_wp2_with fail
  refine fin_sync FX.out rfl hS19 hS1 rfl (by simp [Value.oneCell']) rfl (fun _ _ _ _ _ h => h) rfl rfl rfl rfl ?_
  (try simp only [zz0, zz1, zz2, Act.put, zz3, zz4, zz5])
  go_wp2
  refine bodyPost_ret (v := .tuple #[.agg S1, .agg #[.int .i64 k, .int .i64 q, .int .u8 23, .int .i64 A, .int .i64 0, .int .i64 0], .bool true]) (results_two (p := 8) (q := 9) (u := 10) rfl _ _ (w.heap.size + 1 + 1 + 1) (w.heap.size + 1 + 1 + 1 + 1) 72 45 S1 #[.int .i64 k, .int .i64 q, .int .u8 23, .int .i64 A, .int .i64 0, .int .i64 0] (0, 0) (0, 0) _ _ rfl ((setRow_other _ _ _ _ ne1).trans (setRow_heap _ _ _ _ _ _ FZ0.out)) Try.underlying72 rfl hSz rfl (setRow_heap _ _ _ _ _ _ ((setRow_other _ _ _ _ (Ne.symm ne1)).trans FZ1.out)) Try.underlying45 rfl info_event) rfl ?_
  exact ⟨_, _, _, _, rfl, hSV1.out, fun u' T => FX.out.rf u' (touch_end T rfl rfl rfl rfl), touch_fin FX.out.bel FX.out.lo.1 FX.out.lo.2 rfl rfl rfl rfl⟩
end Go.Proofs.Ytnbpneaiibandaa
