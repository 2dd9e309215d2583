/- What the laws of this seat stand on, part 13. -/
import Derived.Test.YtnbpneaiibandaaPa0
import Derived.Test.YtnbpneaiibandaaPa10
import Derived.Test.YtnbpneaiibandaaPa12
set_option linter.unusedVariables false
set_option linter.unusedSimpArgs false
set_option maxRecDepth 100000
set_option maxHeartbeats 40000000
namespace Go.Proofs.Ytnbpneaiibandaa
open Go.ChangeShapes Go.WideShapes Go.ChangeAt Go.RowKit
theorem sync_t17 (S : Array Value) (p : ProgD) (ca : Option Addr) (ccap : Nat) (ta : Option Addr) (tcap : Nat) (fv : Nat → Value) (rs qs : Value) (fl : Nat → List Int) (n c : Nat) (B : Nat) (w : World) (hS : SV S p ca ccap ta tcap fv rs qs 0) (hO : Ow w B fv rs qs fl n c) (hn : n ≤ 6) (hc : c ≤ 4) (k : Nat) (hk : k < n) (hr4 : (fl (9 + k)).length = 4) (q o0 a b C : Int) (fl2 : Nat → List Int) (tp2 : Int) (E2 : Array Value) (hE6 : E2.size = 6) (hE1 : E2.all (·.oneCell') = true) (hT : ∀ u, Ow u B fv rs qs fl n c → Calls Try.prog 80 #[.agg S, .int .i64 k, .agg #[.int .u8 17, .int .i64 a, .int .i64 b, .int .i64 C], .agg #[.int .i64 k, .int .i64 q, .int .u8 17, .int .i64 a, .int .i64 0, .int .i64 0]] u fun e w' => Rs4 (Held fv rs qs) u w' e p ca ccap ta tcap n c fl2 tp2 E2) :
    Calls Try.prog 59 #[.agg S, .int .i64 k, .agg #[.int .u8 17, .int .i64 a, .int .i64 b, .int .i64 C], .agg #[.int .i64 k, .int .i64 q, .int .u8 17, .int .i64 o0, .int .i64 0, .int .i64 0]] w fun e w' => Rs4 (Held fv rs qs) w w' e p ca ccap ta tcap n c fl2 tp2 E2 := by
  have hE2 : (Try.prog.info? 45).map (·.size) = some E2.size := by rw [hE6]; exact info_event
  go_enter Try.func59, Try.ntmps59
  go_upto_region 1 with (fail)
  generalize hU : World.alloc (World.alloc (World.alloc (World.alloc (World.alloc w _) _) _) _) _ = U0
  have X0 : Hid (Sx (Held fv rs qs) w U0 B (w.heap.size) (w.heap.size + 1) (w.heap.size + 1 + 1) (w.heap.size + 1 + 1 + 1) (w.heap.size + 1 + 1 + 1 + 1) S ⟨17, a, b, C⟩ #[.int .i64 k, .int .i64 q, .int .u8 17, .int .i64 o0, .int .i64 0, .int .i64 0] fv rs qs (fl) n c) := Lib.hid (by rw [← hU]; exact sx_boxes (x := ⟨17, a, b, C⟩) hO rfl rfl)
  have hSV := Lib.hid hS
  clear hU hO
  obtain ⟨rz, hz⟩ := at_lt (l := fl (9 + k)) (k := 0) (by omega)
  obtain ⟨gR, capR, eR, _, ltR, cR⟩ := X0.out.ow.reg hk
  obtain ⟨gr, capr, er, _, _, _⟩ := X0.out.num hz
  rw [hr4] at er
  have EE9 := Lib.hid er
  have H9 : Hid (S[9]? = some (.slice (some ⟨gR, 0, none⟩) n capR)) := Lib.hid (by rw [← eR, hS.eq]; rfl)
  rw [er] at cR
  clear er eR
  have s9 : U0.cell? ⟨w.heap.size, 9, none⟩ = some (.slice (some ⟨gR, 0, none⟩) n capR) := X0.out.s H9.out
  have cR0 := cR
  have i1 : U0.cell? ⟨w.heap.size + 1, 1, none⟩ = some (.int .i64 a) := X0.out.i.2.1
  have e3 : U0.cell? ⟨w.heap.size + 1 + 1, 3, none⟩ = some (.int .i64 o0) := X0.out.e rfl
  have ef3 : U0.frozen? ⟨w.heap.size + 1 + 1, 3, none⟩ = false := X0.out.eF 3
  go_upto_region 3 with (fail)
  generalize hU : World.setCell _ _ _ = U1
  have X1 : Hid (Sx (Held fv rs qs) w U1 B (w.heap.size) (w.heap.size + 1) (w.heap.size + 1 + 1) (w.heap.size + 1 + 1 + 1) (w.heap.size + 1 + 1 + 1 + 1) S ⟨17, a, b, C⟩ #[.int .i64 k, .int .i64 q, .int .u8 17, .int .i64 a, .int .i64 0, .int .i64 0] fv rs qs (fl) n c) := Lib.hid (by rw [← hU]; exact X0.out.ev 3 (.int .i64 a))
  clear hU X0
  clear s9 i1 e3 ef3
  clear cR cR0
  have i0 : U1.cell? ⟨w.heap.size + 1, 0, none⟩ = some (.int .u8 17) := X1.out.i.1
  go_upto_region 4 with (fail)
  clear i0
  have hSz : (Try.prog.info? 72).map (·.size) = some S.size := by rw [hSV.out.eq]; exact info_S
  have FS : Hid (U1.heap[w.heap.size]? = some (.cells S 72)) := Lib.hid X1.out.sB
  have FI : Hid (U1.heap[w.heap.size + 1]? = some (.cells #[.int .u8 17, .int .i64 a, .int .i64 b, .int .i64 C] 49)) := Lib.hid X1.out.iB
  have FE : Hid (U1.heap[w.heap.size + 1 + 1]? = some (.cells #[.int .i64 k, .int .i64 q, .int .u8 17, .int .i64 a, .int .i64 0, .int .i64 0] 45)) := Lib.hid X1.out.eB
  have HC := Lib.hid (hT U1 X1.out.ow)
  clear hT
  go_wp2_with (first
    | (refine wpList_store_row rfl 45 (.tmp 9) (.tmp 28) rfl (w.heap.size + 1 + 1 + 1 + 1) E2 rfl rfl 45 Z1 ((setRow_other _ _ _ _ (Ne.symm ne1)).trans z2.out) hE2 (by rw [z3, hE6]) hE1 ?_)
    | (refine wpList_store_row rfl 72 (.tmp 8) (.tmp 27) rfl (w.heap.size + 1 + 1 + 1) S2 rfl rfl 72 Z0 z0.out hSz2 (by rw [z1, hS19]) hS1 ?_)
    | (go_at_call 80; refine HC.out.mono ?_; rintro e w2 ⟨S2, fv2, rs2, qs2, rfl, hSV2, hR2, hT2⟩; obtain ⟨Z0, z0, z1⟩ := old_box X1.out hT2 true; obtain ⟨Z1, z2, z3⟩ := old_box1 X1.out hT2; have hS2 := Lib.hid hSV2; have hR2 := Lib.hid hR2; have hT2 := Lib.hid hT2; have z0 := Lib.hid z0; have z2 := Lib.hid z2; have ne1 := X1.out.ne.2.2.2.1; have hSz2 : (Try.prog.info? 72).map (·.size) = some S2.size := (by rw [hS2.out.eq]; exact info_S); have hS19 : S2.size = 19 := (by rw [hS2.out.eq]; rfl); have hS1 : S2.all (·.oneCell') = true := (sv_one hS2.out (hR2.out _ (Touch.of_below (Below.refl _ _)))); clear hSV2)
    | (refine wpList_load_row rfl 45 (.tmp 7) rfl (w.heap.size + 1 + 1) rfl 45 _ (0, 0) _ FE.out Try.underlying45 rfl info_event ?_)
    | (refine wpList_load_row rfl 49 (.tmp 6) rfl (w.heap.size + 1) rfl 49 _ (0, 0) _ FI.out Try.underlying49 rfl info_ins4 ?_)
    | (refine wpList_load_row rfl 72 (.tmp 4) rfl (w.heap.size) rfl 72 S (0, 0) _ FS.out Try.underlying72 rfl hSz ?_))
  refine bodyPost_ret (v := .tuple #[.agg S2, .agg E2, .bool true]) (results_two (p := 8) (q := 9) (u := 10) rfl _ _ (w.heap.size + 1 + 1 + 1) (w.heap.size + 1 + 1 + 1 + 1) 72 45 S2 E2 (0, 0) (0, 0) _ _ rfl ((setRow_other _ _ _ _ ne1).trans (setRow_heap _ _ _ _ _ _ z0.out)) Try.underlying72 rfl hSz2 rfl (setRow_heap _ _ _ _ _ _ ((setRow_other _ _ _ _ (Ne.symm ne1)).trans z2.out)) Try.underlying45 rfl hE2) rfl ?_
  exact ⟨_, _, _, _, rfl, hS2.out, fun u' T => hR2.out u' (touch_handed X1.out T), touch_fin (X1.out.bel.trans hT2.out fun k _ h => h) X1.out.lo.2.2.2.1 X1.out.lo.2.2.2.2 rfl rfl rfl rfl⟩
theorem sync_t19 (S : Array Value) (p : ProgD) (ca : Option Addr) (ccap : Nat) (ta : Option Addr) (tcap : Nat) (fv : Nat → Value) (rs qs : Value) (fl : Nat → List Int) (n c : Nat) (B : Nat) (w : World) (hS : SV S p ca ccap ta tcap fv rs qs 0) (hO : Ow w B fv rs qs fl n c) (hn : n ≤ 6) (hc : c ≤ 4) (k : Nat) (hk : k < n) (hr4 : (fl (9 + k)).length = 4) (q o0 a b C : Int) (fl2 : Nat → List Int) (tp2 : Int) (E2 : Array Value) (hE6 : E2.size = 6) (hE1 : E2.all (·.oneCell') = true) (hT : ∀ u, Ow u B fv rs qs fl n c → Calls Try.prog 80 #[.agg S, .int .i64 k, .agg #[.int .u8 19, .int .i64 a, .int .i64 b, .int .i64 C], .agg #[.int .i64 k, .int .i64 q, .int .u8 19, .int .i64 a, .int .i64 0, .int .i64 0]] u fun e w' => Rs4 (Held fv rs qs) u w' e p ca ccap ta tcap n c fl2 tp2 E2) :
    Calls Try.prog 59 #[.agg S, .int .i64 k, .agg #[.int .u8 19, .int .i64 a, .int .i64 b, .int .i64 C], .agg #[.int .i64 k, .int .i64 q, .int .u8 19, .int .i64 o0, .int .i64 0, .int .i64 0]] w fun e w' => Rs4 (Held fv rs qs) w w' e p ca ccap ta tcap n c fl2 tp2 E2 := by
  have hE2 : (Try.prog.info? 45).map (·.size) = some E2.size := by rw [hE6]; exact info_event
  go_enter Try.func59, Try.ntmps59
  go_upto_region 1 with (fail)
  generalize hU : World.alloc (World.alloc (World.alloc (World.alloc (World.alloc w _) _) _) _) _ = U0
  have X0 : Hid (Sx (Held fv rs qs) w U0 B (w.heap.size) (w.heap.size + 1) (w.heap.size + 1 + 1) (w.heap.size + 1 + 1 + 1) (w.heap.size + 1 + 1 + 1 + 1) S ⟨19, a, b, C⟩ #[.int .i64 k, .int .i64 q, .int .u8 19, .int .i64 o0, .int .i64 0, .int .i64 0] fv rs qs (fl) n c) := Lib.hid (by rw [← hU]; exact sx_boxes (x := ⟨19, a, b, C⟩) hO rfl rfl)
  have hSV := Lib.hid hS
  clear hU hO
  obtain ⟨rz, hz⟩ := at_lt (l := fl (9 + k)) (k := 0) (by omega)
  obtain ⟨gR, capR, eR, _, ltR, cR⟩ := X0.out.ow.reg hk
  obtain ⟨gr, capr, er, _, _, _⟩ := X0.out.num hz
  rw [hr4] at er
  have EE9 := Lib.hid er
  have H9 : Hid (S[9]? = some (.slice (some ⟨gR, 0, none⟩) n capR)) := Lib.hid (by rw [← eR, hS.eq]; rfl)
  rw [er] at cR
  clear er eR
  have s9 : U0.cell? ⟨w.heap.size, 9, none⟩ = some (.slice (some ⟨gR, 0, none⟩) n capR) := X0.out.s H9.out
  have cR0 := cR
  have i1 : U0.cell? ⟨w.heap.size + 1, 1, none⟩ = some (.int .i64 a) := X0.out.i.2.1
  have e3 : U0.cell? ⟨w.heap.size + 1 + 1, 3, none⟩ = some (.int .i64 o0) := X0.out.e rfl
  have ef3 : U0.frozen? ⟨w.heap.size + 1 + 1, 3, none⟩ = false := X0.out.eF 3
  go_upto_region 3 with (fail)
  generalize hU : World.setCell _ _ _ = U1
  have X1 : Hid (Sx (Held fv rs qs) w U1 B (w.heap.size) (w.heap.size + 1) (w.heap.size + 1 + 1) (w.heap.size + 1 + 1 + 1) (w.heap.size + 1 + 1 + 1 + 1) S ⟨19, a, b, C⟩ #[.int .i64 k, .int .i64 q, .int .u8 19, .int .i64 a, .int .i64 0, .int .i64 0] fv rs qs (fl) n c) := Lib.hid (by rw [← hU]; exact X0.out.ev 3 (.int .i64 a))
  clear hU X0
  clear s9 i1 e3 ef3
  clear cR cR0
  have i0 : U1.cell? ⟨w.heap.size + 1, 0, none⟩ = some (.int .u8 19) := X1.out.i.1
  go_upto_region 4 with (fail)
  clear i0
  have hSz : (Try.prog.info? 72).map (·.size) = some S.size := by rw [hSV.out.eq]; exact info_S
  have FS : Hid (U1.heap[w.heap.size]? = some (.cells S 72)) := Lib.hid X1.out.sB
  have FI : Hid (U1.heap[w.heap.size + 1]? = some (.cells #[.int .u8 19, .int .i64 a, .int .i64 b, .int .i64 C] 49)) := Lib.hid X1.out.iB
  have FE : Hid (U1.heap[w.heap.size + 1 + 1]? = some (.cells #[.int .i64 k, .int .i64 q, .int .u8 19, .int .i64 a, .int .i64 0, .int .i64 0] 45)) := Lib.hid X1.out.eB
  have HC := Lib.hid (hT U1 X1.out.ow)
  clear hT
  go_wp2_with (first
    | (refine wpList_store_row rfl 45 (.tmp 9) (.tmp 28) rfl (w.heap.size + 1 + 1 + 1 + 1) E2 rfl rfl 45 Z1 ((setRow_other _ _ _ _ (Ne.symm ne1)).trans z2.out) hE2 (by rw [z3, hE6]) hE1 ?_)
    | (refine wpList_store_row rfl 72 (.tmp 8) (.tmp 27) rfl (w.heap.size + 1 + 1 + 1) S2 rfl rfl 72 Z0 z0.out hSz2 (by rw [z1, hS19]) hS1 ?_)
    | (go_at_call 80; refine HC.out.mono ?_; rintro e w2 ⟨S2, fv2, rs2, qs2, rfl, hSV2, hR2, hT2⟩; obtain ⟨Z0, z0, z1⟩ := old_box X1.out hT2 true; obtain ⟨Z1, z2, z3⟩ := old_box1 X1.out hT2; have hS2 := Lib.hid hSV2; have hR2 := Lib.hid hR2; have hT2 := Lib.hid hT2; have z0 := Lib.hid z0; have z2 := Lib.hid z2; have ne1 := X1.out.ne.2.2.2.1; have hSz2 : (Try.prog.info? 72).map (·.size) = some S2.size := (by rw [hS2.out.eq]; exact info_S); have hS19 : S2.size = 19 := (by rw [hS2.out.eq]; rfl); have hS1 : S2.all (·.oneCell') = true := (sv_one hS2.out (hR2.out _ (Touch.of_below (Below.refl _ _)))); clear hSV2)
    | (refine wpList_load_row rfl 45 (.tmp 7) rfl (w.heap.size + 1 + 1) rfl 45 _ (0, 0) _ FE.out Try.underlying45 rfl info_event ?_)
    | (refine wpList_load_row rfl 49 (.tmp 6) rfl (w.heap.size + 1) rfl 49 _ (0, 0) _ FI.out Try.underlying49 rfl info_ins4 ?_)
    | (refine wpList_load_row rfl 72 (.tmp 4) rfl (w.heap.size) rfl 72 S (0, 0) _ FS.out Try.underlying72 rfl hSz ?_))
  refine bodyPost_ret (v := .tuple #[.agg S2, .agg E2, .bool true]) (results_two (p := 8) (q := 9) (u := 10) rfl _ _ (w.heap.size + 1 + 1 + 1) (w.heap.size + 1 + 1 + 1 + 1) 72 45 S2 E2 (0, 0) (0, 0) _ _ rfl ((setRow_other _ _ _ _ ne1).trans (setRow_heap _ _ _ _ _ _ z0.out)) Try.underlying72 rfl hSz2 rfl (setRow_heap _ _ _ _ _ _ ((setRow_other _ _ _ _ (Ne.symm ne1)).trans z2.out)) Try.underlying45 rfl hE2) rfl ?_
  exact ⟨_, _, _, _, rfl, hS2.out, fun u' T => hR2.out u' (touch_handed X1.out T), touch_fin (X1.out.bel.trans hT2.out fun k _ h => h) X1.out.lo.2.2.2.1 X1.out.lo.2.2.2.2 rfl rfl rfl rfl⟩
theorem sync_t21 (S : Array Value) (p : ProgD) (ca : Option Addr) (ccap : Nat) (ta : Option Addr) (tcap : Nat) (fv : Nat → Value) (rs qs : Value) (fl : Nat → List Int) (n c : Nat) (B : Nat) (w : World) (hS : SV S p ca ccap ta tcap fv rs qs 0) (hO : Ow w B fv rs qs fl n c) (hn : n ≤ 6) (hc : c ≤ 4) (k : Nat) (hk : k < n) (hr4 : (fl (9 + k)).length = 4) (q o0 a b C : Int) (fl2 : Nat → List Int) (tp2 : Int) (E2 : Array Value) (hE6 : E2.size = 6) (hE1 : E2.all (·.oneCell') = true) (hT : ∀ u, Ow u B fv rs qs fl n c → Calls Try.prog 80 #[.agg S, .int .i64 k, .agg #[.int .u8 21, .int .i64 a, .int .i64 b, .int .i64 C], .agg #[.int .i64 k, .int .i64 q, .int .u8 21, .int .i64 a, .int .i64 0, .int .i64 0]] u fun e w' => Rs4 (Held fv rs qs) u w' e p ca ccap ta tcap n c fl2 tp2 E2) :
    Calls Try.prog 59 #[.agg S, .int .i64 k, .agg #[.int .u8 21, .int .i64 a, .int .i64 b, .int .i64 C], .agg #[.int .i64 k, .int .i64 q, .int .u8 21, .int .i64 o0, .int .i64 0, .int .i64 0]] w fun e w' => Rs4 (Held fv rs qs) w w' e p ca ccap ta tcap n c fl2 tp2 E2 := by
  have hE2 : (Try.prog.info? 45).map (·.size) = some E2.size := by rw [hE6]; exact info_event
  go_enter Try.func59, Try.ntmps59
  go_upto_region 1 with (fail)
  generalize hU : World.alloc (World.alloc (World.alloc (World.alloc (World.alloc w _) _) _) _) _ = U0
  have X0 : Hid (Sx (Held fv rs qs) w U0 B (w.heap.size) (w.heap.size + 1) (w.heap.size + 1 + 1) (w.heap.size + 1 + 1 + 1) (w.heap.size + 1 + 1 + 1 + 1) S ⟨21, a, b, C⟩ #[.int .i64 k, .int .i64 q, .int .u8 21, .int .i64 o0, .int .i64 0, .int .i64 0] fv rs qs (fl) n c) := Lib.hid (by rw [← hU]; exact sx_boxes (x := ⟨21, a, b, C⟩) hO rfl rfl)
  have hSV := Lib.hid hS
  clear hU hO
  obtain ⟨rz, hz⟩ := at_lt (l := fl (9 + k)) (k := 0) (by omega)
  obtain ⟨gR, capR, eR, _, ltR, cR⟩ := X0.out.ow.reg hk
  obtain ⟨gr, capr, er, _, _, _⟩ := X0.out.num hz
  rw [hr4] at er
  have EE9 := Lib.hid er
  have H9 : Hid (S[9]? = some (.slice (some ⟨gR, 0, none⟩) n capR)) := Lib.hid (by rw [← eR, hS.eq]; rfl)
  rw [er] at cR
  clear er eR
  have s9 : U0.cell? ⟨w.heap.size, 9, none⟩ = some (.slice (some ⟨gR, 0, none⟩) n capR) := X0.out.s H9.out
  have cR0 := cR
  have i1 : U0.cell? ⟨w.heap.size + 1, 1, none⟩ = some (.int .i64 a) := X0.out.i.2.1
  have e3 : U0.cell? ⟨w.heap.size + 1 + 1, 3, none⟩ = some (.int .i64 o0) := X0.out.e rfl
  have ef3 : U0.frozen? ⟨w.heap.size + 1 + 1, 3, none⟩ = false := X0.out.eF 3
  go_upto_region 3 with (fail)
  generalize hU : World.setCell _ _ _ = U1
  have X1 : Hid (Sx (Held fv rs qs) w U1 B (w.heap.size) (w.heap.size + 1) (w.heap.size + 1 + 1) (w.heap.size + 1 + 1 + 1) (w.heap.size + 1 + 1 + 1 + 1) S ⟨21, a, b, C⟩ #[.int .i64 k, .int .i64 q, .int .u8 21, .int .i64 a, .int .i64 0, .int .i64 0] fv rs qs (fl) n c) := Lib.hid (by rw [← hU]; exact X0.out.ev 3 (.int .i64 a))
  clear hU X0
  clear s9 i1 e3 ef3
  clear cR cR0
  have i0 : U1.cell? ⟨w.heap.size + 1, 0, none⟩ = some (.int .u8 21) := X1.out.i.1
  go_upto_region 4 with (fail)
  clear i0
  have hSz : (Try.prog.info? 72).map (·.size) = some S.size := by rw [hSV.out.eq]; exact info_S
  have FS : Hid (U1.heap[w.heap.size]? = some (.cells S 72)) := Lib.hid X1.out.sB
  have FI : Hid (U1.heap[w.heap.size + 1]? = some (.cells #[.int .u8 21, .int .i64 a, .int .i64 b, .int .i64 C] 49)) := Lib.hid X1.out.iB
  have FE : Hid (U1.heap[w.heap.size + 1 + 1]? = some (.cells #[.int .i64 k, .int .i64 q, .int .u8 21, .int .i64 a, .int .i64 0, .int .i64 0] 45)) := Lib.hid X1.out.eB
  have HC := Lib.hid (hT U1 X1.out.ow)
  clear hT
  go_wp2_with (first
    | (refine wpList_store_row rfl 45 (.tmp 9) (.tmp 28) rfl (w.heap.size + 1 + 1 + 1 + 1) E2 rfl rfl 45 Z1 ((setRow_other _ _ _ _ (Ne.symm ne1)).trans z2.out) hE2 (by rw [z3, hE6]) hE1 ?_)
    | (refine wpList_store_row rfl 72 (.tmp 8) (.tmp 27) rfl (w.heap.size + 1 + 1 + 1) S2 rfl rfl 72 Z0 z0.out hSz2 (by rw [z1, hS19]) hS1 ?_)
    | (go_at_call 80; refine HC.out.mono ?_; rintro e w2 ⟨S2, fv2, rs2, qs2, rfl, hSV2, hR2, hT2⟩; obtain ⟨Z0, z0, z1⟩ := old_box X1.out hT2 true; obtain ⟨Z1, z2, z3⟩ := old_box1 X1.out hT2; have hS2 := Lib.hid hSV2; have hR2 := Lib.hid hR2; have hT2 := Lib.hid hT2; have z0 := Lib.hid z0; have z2 := Lib.hid z2; have ne1 := X1.out.ne.2.2.2.1; have hSz2 : (Try.prog.info? 72).map (·.size) = some S2.size := (by rw [hS2.out.eq]; exact info_S); have hS19 : S2.size = 19 := (by rw [hS2.out.eq]; rfl); have hS1 : S2.all (·.oneCell') = true := (sv_one hS2.out (hR2.out _ (Touch.of_below (Below.refl _ _)))); clear hSV2)
    | (refine wpList_load_row rfl 45 (.tmp 7) rfl (w.heap.size + 1 + 1) rfl 45 _ (0, 0) _ FE.out Try.underlying45 rfl info_event ?_)
    | (refine wpList_load_row rfl 49 (.tmp 6) rfl (w.heap.size + 1) rfl 49 _ (0, 0) _ FI.out Try.underlying49 rfl info_ins4 ?_)
    | (refine wpList_load_row rfl 72 (.tmp 4) rfl (w.heap.size) rfl 72 S (0, 0) _ FS.out Try.underlying72 rfl hSz ?_))
  refine bodyPost_ret (v := .tuple #[.agg S2, .agg E2, .bool true]) (results_two (p := 8) (q := 9) (u := 10) rfl _ _ (w.heap.size + 1 + 1 + 1) (w.heap.size + 1 + 1 + 1 + 1) 72 45 S2 E2 (0, 0) (0, 0) _ _ rfl ((setRow_other _ _ _ _ ne1).trans (setRow_heap _ _ _ _ _ _ z0.out)) Try.underlying72 rfl hSz2 rfl (setRow_heap _ _ _ _ _ _ ((setRow_other _ _ _ _ (Ne.symm ne1)).trans z2.out)) Try.underlying45 rfl hE2) rfl ?_
  exact ⟨_, _, _, _, rfl, hS2.out, fun u' T => hR2.out u' (touch_handed X1.out T), touch_fin (X1.out.bel.trans hT2.out fun k _ h => h) X1.out.lo.2.2.2.1 X1.out.lo.2.2.2.2 rfl rfl rfl rfl⟩
theorem sync_t22 (S : Array Value) (p : ProgD) (ca : Option Addr) (ccap : Nat) (ta : Option Addr) (tcap : Nat) (fv : Nat → Value) (rs qs : Value) (fl : Nat → List Int) (n c : Nat) (B : Nat) (w : World) (hS : SV S p ca ccap ta tcap fv rs qs 0) (hO : Ow w B fv rs qs fl n c) (hn : n ≤ 6) (hc : c ≤ 4) (k : Nat) (hk : k < n) (hr4 : (fl (9 + k)).length = 4) (q o0 a b C : Int) (fl2 : Nat → List Int) (tp2 : Int) (E2 : Array Value) (hE6 : E2.size = 6) (hE1 : E2.all (·.oneCell') = true) (hT : ∀ u, Ow u B fv rs qs fl n c → Calls Try.prog 80 #[.agg S, .int .i64 k, .agg #[.int .u8 22, .int .i64 a, .int .i64 b, .int .i64 C], .agg #[.int .i64 k, .int .i64 q, .int .u8 22, .int .i64 a, .int .i64 0, .int .i64 0]] u fun e w' => Rs4 (Held fv rs qs) u w' e p ca ccap ta tcap n c fl2 tp2 E2) :
    Calls Try.prog 59 #[.agg S, .int .i64 k, .agg #[.int .u8 22, .int .i64 a, .int .i64 b, .int .i64 C], .agg #[.int .i64 k, .int .i64 q, .int .u8 22, .int .i64 o0, .int .i64 0, .int .i64 0]] w fun e w' => Rs4 (Held fv rs qs) w w' e p ca ccap ta tcap n c fl2 tp2 E2 := by
  have hE2 : (Try.prog.info? 45).map (·.size) = some E2.size := by rw [hE6]; exact info_event
  go_enter Try.func59, Try.ntmps59
  go_upto_region 1 with (fail)
  generalize hU : World.alloc (World.alloc (World.alloc (World.alloc (World.alloc w _) _) _) _) _ = U0
  have X0 : Hid (Sx (Held fv rs qs) w U0 B (w.heap.size) (w.heap.size + 1) (w.heap.size + 1 + 1) (w.heap.size + 1 + 1 + 1) (w.heap.size + 1 + 1 + 1 + 1) S ⟨22, a, b, C⟩ #[.int .i64 k, .int .i64 q, .int .u8 22, .int .i64 o0, .int .i64 0, .int .i64 0] fv rs qs (fl) n c) := Lib.hid (by rw [← hU]; exact sx_boxes (x := ⟨22, a, b, C⟩) hO rfl rfl)
  have hSV := Lib.hid hS
  clear hU hO
  obtain ⟨rz, hz⟩ := at_lt (l := fl (9 + k)) (k := 0) (by omega)
  obtain ⟨gR, capR, eR, _, ltR, cR⟩ := X0.out.ow.reg hk
  obtain ⟨gr, capr, er, _, _, _⟩ := X0.out.num hz
  rw [hr4] at er
  have EE9 := Lib.hid er
  have H9 : Hid (S[9]? = some (.slice (some ⟨gR, 0, none⟩) n capR)) := Lib.hid (by rw [← eR, hS.eq]; rfl)
  rw [er] at cR
  clear er eR
  have s9 : U0.cell? ⟨w.heap.size, 9, none⟩ = some (.slice (some ⟨gR, 0, none⟩) n capR) := X0.out.s H9.out
  have cR0 := cR
  have i1 : U0.cell? ⟨w.heap.size + 1, 1, none⟩ = some (.int .i64 a) := X0.out.i.2.1
  have e3 : U0.cell? ⟨w.heap.size + 1 + 1, 3, none⟩ = some (.int .i64 o0) := X0.out.e rfl
  have ef3 : U0.frozen? ⟨w.heap.size + 1 + 1, 3, none⟩ = false := X0.out.eF 3
  go_upto_region 3 with (fail)
  generalize hU : World.setCell _ _ _ = U1
  have X1 : Hid (Sx (Held fv rs qs) w U1 B (w.heap.size) (w.heap.size + 1) (w.heap.size + 1 + 1) (w.heap.size + 1 + 1 + 1) (w.heap.size + 1 + 1 + 1 + 1) S ⟨22, a, b, C⟩ #[.int .i64 k, .int .i64 q, .int .u8 22, .int .i64 a, .int .i64 0, .int .i64 0] fv rs qs (fl) n c) := Lib.hid (by rw [← hU]; exact X0.out.ev 3 (.int .i64 a))
  clear hU X0
  clear s9 i1 e3 ef3
  clear cR cR0
  have i0 : U1.cell? ⟨w.heap.size + 1, 0, none⟩ = some (.int .u8 22) := X1.out.i.1
  go_upto_region 4 with (fail)
  clear i0
  have hSz : (Try.prog.info? 72).map (·.size) = some S.size := by rw [hSV.out.eq]; exact info_S
  have FS : Hid (U1.heap[w.heap.size]? = some (.cells S 72)) := Lib.hid X1.out.sB
  have FI : Hid (U1.heap[w.heap.size + 1]? = some (.cells #[.int .u8 22, .int .i64 a, .int .i64 b, .int .i64 C] 49)) := Lib.hid X1.out.iB
  have FE : Hid (U1.heap[w.heap.size + 1 + 1]? = some (.cells #[.int .i64 k, .int .i64 q, .int .u8 22, .int .i64 a, .int .i64 0, .int .i64 0] 45)) := Lib.hid X1.out.eB
  have HC := Lib.hid (hT U1 X1.out.ow)
  clear hT
  go_wp2_with (first
    | (refine wpList_store_row rfl 45 (.tmp 9) (.tmp 28) rfl (w.heap.size + 1 + 1 + 1 + 1) E2 rfl rfl 45 Z1 ((setRow_other _ _ _ _ (Ne.symm ne1)).trans z2.out) hE2 (by rw [z3, hE6]) hE1 ?_)
    | (refine wpList_store_row rfl 72 (.tmp 8) (.tmp 27) rfl (w.heap.size + 1 + 1 + 1) S2 rfl rfl 72 Z0 z0.out hSz2 (by rw [z1, hS19]) hS1 ?_)
    | (go_at_call 80; refine HC.out.mono ?_; rintro e w2 ⟨S2, fv2, rs2, qs2, rfl, hSV2, hR2, hT2⟩; obtain ⟨Z0, z0, z1⟩ := old_box X1.out hT2 true; obtain ⟨Z1, z2, z3⟩ := old_box1 X1.out hT2; have hS2 := Lib.hid hSV2; have hR2 := Lib.hid hR2; have hT2 := Lib.hid hT2; have z0 := Lib.hid z0; have z2 := Lib.hid z2; have ne1 := X1.out.ne.2.2.2.1; have hSz2 : (Try.prog.info? 72).map (·.size) = some S2.size := (by rw [hS2.out.eq]; exact info_S); have hS19 : S2.size = 19 := (by rw [hS2.out.eq]; rfl); have hS1 : S2.all (·.oneCell') = true := (sv_one hS2.out (hR2.out _ (Touch.of_below (Below.refl _ _)))); clear hSV2)
    | (refine wpList_load_row rfl 45 (.tmp 7) rfl (w.heap.size + 1 + 1) rfl 45 _ (0, 0) _ FE.out Try.underlying45 rfl info_event ?_)
    | (refine wpList_load_row rfl 49 (.tmp 6) rfl (w.heap.size + 1) rfl 49 _ (0, 0) _ FI.out Try.underlying49 rfl info_ins4 ?_)
    | (refine wpList_load_row rfl 72 (.tmp 4) rfl (w.heap.size) rfl 72 S (0, 0) _ FS.out Try.underlying72 rfl hSz ?_))
  refine bodyPost_ret (v := .tuple #[.agg S2, .agg E2, .bool true]) (results_two (p := 8) (q := 9) (u := 10) rfl _ _ (w.heap.size + 1 + 1 + 1) (w.heap.size + 1 + 1 + 1 + 1) 72 45 S2 E2 (0, 0) (0, 0) _ _ rfl ((setRow_other _ _ _ _ ne1).trans (setRow_heap _ _ _ _ _ _ z0.out)) Try.underlying72 rfl hSz2 rfl (setRow_heap _ _ _ _ _ _ ((setRow_other _ _ _ _ (Ne.symm ne1)).trans z2.out)) Try.underlying45 rfl hE2) rfl ?_
  exact ⟨_, _, _, _, rfl, hS2.out, fun u' T => hR2.out u' (touch_handed X1.out T), touch_fin (X1.out.bel.trans hT2.out fun k _ h => h) X1.out.lo.2.2.2.1 X1.out.lo.2.2.2.2 rfl rfl rfl rfl⟩
theorem sync_t26 (S : Array Value) (p : ProgD) (ca : Option Addr) (ccap : Nat) (ta : Option Addr) (tcap : Nat) (fv : Nat → Value) (rs qs : Value) (fl : Nat → List Int) (n c : Nat) (B : Nat) (w : World) (hS : SV S p ca ccap ta tcap fv rs qs 0) (hO : Ow w B fv rs qs fl n c) (hn : n ≤ 6) (hc : c ≤ 4) (k : Nat) (hk : k < n) (hr4 : (fl (9 + k)).length = 4) (q o0 a b C : Int) (fl2 : Nat → List Int) (tp2 : Int) (E2 : Array Value) (hE6 : E2.size = 6) (hE1 : E2.all (·.oneCell') = true) (hT : ∀ u, Ow u B fv rs qs fl n c → Calls Try.prog 80 #[.agg S, .int .i64 k, .agg #[.int .u8 26, .int .i64 a, .int .i64 b, .int .i64 C], .agg #[.int .i64 k, .int .i64 q, .int .u8 26, .int .i64 a, .int .i64 0, .int .i64 0]] u fun e w' => Rs4 (Held fv rs qs) u w' e p ca ccap ta tcap n c fl2 tp2 E2) :
    Calls Try.prog 59 #[.agg S, .int .i64 k, .agg #[.int .u8 26, .int .i64 a, .int .i64 b, .int .i64 C], .agg #[.int .i64 k, .int .i64 q, .int .u8 26, .int .i64 o0, .int .i64 0, .int .i64 0]] w fun e w' => Rs4 (Held fv rs qs) w w' e p ca ccap ta tcap n c fl2 tp2 E2 := by
  have hE2 : (Try.prog.info? 45).map (·.size) = some E2.size := by rw [hE6]; exact info_event
  go_enter Try.func59, Try.ntmps59
  go_upto_region 1 with (fail)
  generalize hU : World.alloc (World.alloc (World.alloc (World.alloc (World.alloc w _) _) _) _) _ = U0
  have X0 : Hid (Sx (Held fv rs qs) w U0 B (w.heap.size) (w.heap.size + 1) (w.heap.size + 1 + 1) (w.heap.size + 1 + 1 + 1) (w.heap.size + 1 + 1 + 1 + 1) S ⟨26, a, b, C⟩ #[.int .i64 k, .int .i64 q, .int .u8 26, .int .i64 o0, .int .i64 0, .int .i64 0] fv rs qs (fl) n c) := Lib.hid (by rw [← hU]; exact sx_boxes (x := ⟨26, a, b, C⟩) hO rfl rfl)
  have hSV := Lib.hid hS
  clear hU hO
  obtain ⟨rz, hz⟩ := at_lt (l := fl (9 + k)) (k := 0) (by omega)
  obtain ⟨gR, capR, eR, _, ltR, cR⟩ := X0.out.ow.reg hk
  obtain ⟨gr, capr, er, _, _, _⟩ := X0.out.num hz
  rw [hr4] at er
  have EE9 := Lib.hid er
  have H9 : Hid (S[9]? = some (.slice (some ⟨gR, 0, none⟩) n capR)) := Lib.hid (by rw [← eR, hS.eq]; rfl)
  rw [er] at cR
  clear er eR
  have s9 : U0.cell? ⟨w.heap.size, 9, none⟩ = some (.slice (some ⟨gR, 0, none⟩) n capR) := X0.out.s H9.out
  have cR0 := cR
  have i1 : U0.cell? ⟨w.heap.size + 1, 1, none⟩ = some (.int .i64 a) := X0.out.i.2.1
  have e3 : U0.cell? ⟨w.heap.size + 1 + 1, 3, none⟩ = some (.int .i64 o0) := X0.out.e rfl
  have ef3 : U0.frozen? ⟨w.heap.size + 1 + 1, 3, none⟩ = false := X0.out.eF 3
  go_upto_region 3 with (fail)
  generalize hU : World.setCell _ _ _ = U1
  have X1 : Hid (Sx (Held fv rs qs) w U1 B (w.heap.size) (w.heap.size + 1) (w.heap.size + 1 + 1) (w.heap.size + 1 + 1 + 1) (w.heap.size + 1 + 1 + 1 + 1) S ⟨26, a, b, C⟩ #[.int .i64 k, .int .i64 q, .int .u8 26, .int .i64 a, .int .i64 0, .int .i64 0] fv rs qs (fl) n c) := Lib.hid (by rw [← hU]; exact X0.out.ev 3 (.int .i64 a))
  clear hU X0
  clear s9 i1 e3 ef3
  clear cR cR0
  have i0 : U1.cell? ⟨w.heap.size + 1, 0, none⟩ = some (.int .u8 26) := X1.out.i.1
  go_upto_region 4 with (fail)
  clear i0
  have hSz : (Try.prog.info? 72).map (·.size) = some S.size := by rw [hSV.out.eq]; exact info_S
  have FS : Hid (U1.heap[w.heap.size]? = some (.cells S 72)) := Lib.hid X1.out.sB
  have FI : Hid (U1.heap[w.heap.size + 1]? = some (.cells #[.int .u8 26, .int .i64 a, .int .i64 b, .int .i64 C] 49)) := Lib.hid X1.out.iB
  have FE : Hid (U1.heap[w.heap.size + 1 + 1]? = some (.cells #[.int .i64 k, .int .i64 q, .int .u8 26, .int .i64 a, .int .i64 0, .int .i64 0] 45)) := Lib.hid X1.out.eB
  have HC := Lib.hid (hT U1 X1.out.ow)
  clear hT
  go_wp2_with (first
    | (refine wpList_store_row rfl 45 (.tmp 9) (.tmp 28) rfl (w.heap.size + 1 + 1 + 1 + 1) E2 rfl rfl 45 Z1 ((setRow_other _ _ _ _ (Ne.symm ne1)).trans z2.out) hE2 (by rw [z3, hE6]) hE1 ?_)
    | (refine wpList_store_row rfl 72 (.tmp 8) (.tmp 27) rfl (w.heap.size + 1 + 1 + 1) S2 rfl rfl 72 Z0 z0.out hSz2 (by rw [z1, hS19]) hS1 ?_)
    | (go_at_call 80; refine HC.out.mono ?_; rintro e w2 ⟨S2, fv2, rs2, qs2, rfl, hSV2, hR2, hT2⟩; obtain ⟨Z0, z0, z1⟩ := old_box X1.out hT2 true; obtain ⟨Z1, z2, z3⟩ := old_box1 X1.out hT2; have hS2 := Lib.hid hSV2; have hR2 := Lib.hid hR2; have hT2 := Lib.hid hT2; have z0 := Lib.hid z0; have z2 := Lib.hid z2; have ne1 := X1.out.ne.2.2.2.1; have hSz2 : (Try.prog.info? 72).map (·.size) = some S2.size := (by rw [hS2.out.eq]; exact info_S); have hS19 : S2.size = 19 := (by rw [hS2.out.eq]; rfl); have hS1 : S2.all (·.oneCell') = true := (sv_one hS2.out (hR2.out _ (Touch.of_below (Below.refl _ _)))); clear hSV2)
    | (refine wpList_load_row rfl 45 (.tmp 7) rfl (w.heap.size + 1 + 1) rfl 45 _ (0, 0) _ FE.out Try.underlying45 rfl info_event ?_)
    | (refine wpList_load_row rfl 49 (.tmp 6) rfl (w.heap.size + 1) rfl 49 _ (0, 0) _ FI.out Try.underlying49 rfl info_ins4 ?_)
    | (refine wpList_load_row rfl 72 (.tmp 4) rfl (w.heap.size) rfl 72 S (0, 0) _ FS.out Try.underlying72 rfl hSz ?_))
  refine bodyPost_ret (v := .tuple #[.agg S2, .agg E2, .bool true]) (results_two (p := 8) (q := 9) (u := 10) rfl _ _ (w.heap.size + 1 + 1 + 1) (w.heap.size + 1 + 1 + 1 + 1) 72 45 S2 E2 (0, 0) (0, 0) _ _ rfl ((setRow_other _ _ _ _ ne1).trans (setRow_heap _ _ _ _ _ _ z0.out)) Try.underlying72 rfl hSz2 rfl (setRow_heap _ _ _ _ _ _ ((setRow_other _ _ _ _ (Ne.symm ne1)).trans z2.out)) Try.underlying45 rfl hE2) rfl ?_
  exact ⟨_, _, _, _, rfl, hS2.out, fun u' T => hR2.out u' (touch_handed X1.out T), touch_fin (X1.out.bel.trans hT2.out fun k _ h => h) X1.out.lo.2.2.2.1 X1.out.lo.2.2.2.2 rfl rfl rfl rfl⟩
theorem taken_17 (S : Array Value) (p : ProgD) (ca : Option Addr) (ccap : Nat) (ta : Option Addr) (tcap : Nat) (fv : Nat → Value) (rs qs : Value) (fl : Nat → List Int) (n c : Nat) (B : Nat) (w : World) (hS : SV S p ca ccap ta tcap fv rs qs 0) (hO : Ow w B fv rs qs fl n c) (hn : n ≤ 6) (hc : c ≤ 4) (k : Nat) (hk : k < n) (hr4 : (fl (9 + k)).length = 4) (q o0 : Int) (A b : Nat) (C v rA : Int) (hA4 : A < 4) (hA : (fl (9 + k))[A]? = some rA) (h3 : (fl 3)[b]? = some v) :
    Calls Try.prog 80 #[.agg S, .int .i64 k, .agg #[.int .u8 17, .int .i64 A, .int .i64 b, .int .i64 C], .agg #[.int .i64 k, .int .i64 q, .int .u8 17, .int .i64 o0, .int .i64 0, .int .i64 0]] w fun e w' => Rs4 (Held fv rs qs) w w' e p ca ccap ta tcap n c (updF fl (9 + k) ((fl (9 + k)).set A v)) 0 #[.int .i64 k, .int .i64 q, .int .u8 17, .int .i64 b, .int .i64 v, .int .i64 0] := by
  go_enter Try.func80, Try.ntmps80
  go_upto_region 1 with (fail)
  generalize hU : World.alloc (World.alloc (World.alloc (World.alloc (World.alloc w _) _) _) _) _ = U0
  have X0 : Hid (Sx (Held fv rs qs) w U0 B (w.heap.size) (w.heap.size + 1) (w.heap.size + 1 + 1) (w.heap.size + 1 + 1 + 1) (w.heap.size + 1 + 1 + 1 + 1) S ⟨17, A, b, C⟩ #[.int .i64 k, .int .i64 q, .int .u8 17, .int .i64 o0, .int .i64 0, .int .i64 0] fv rs qs (fl) n c) := Lib.hid (by rw [← hU]; exact sx_boxes (x := ⟨17, A, b, C⟩) hO rfl rfl)
  have hSV := Lib.hid hS
  clear hU hO
  have hA4' : (A : Int) < 4 := by omega
  obtain ⟨gR, capR, eR, _, ltR, cR⟩ := X0.out.ow.reg hk
  obtain ⟨gr, capr, er, _, _, _⟩ := X0.out.num hA
  rw [hr4] at er
  have EE9 := Lib.hid er
  have H9 : Hid (S[9]? = some (.slice (some ⟨gR, 0, none⟩) n capR)) := Lib.hid (by rw [← eR, hS.eq]; rfl)
  rw [er] at cR
  clear er eR
  obtain ⟨g3, cap3, e3, _, _, lt3⟩ := X0.out.num h3
  have EE3 := Lib.hid e3
  have H11 : Hid (S[11]? = some (.slice (some ⟨g3, 0, none⟩) (fl 3).length cap3)) := Lib.hid (by rw [← e3, hS.eq]; rfl)
  clear e3
  have s9 : U0.cell? ⟨w.heap.size, 9, none⟩ = some (.slice (some ⟨gR, 0, none⟩) n capR) := X0.out.s H9.out
  have cR0 := cR
  have i2 : U0.cell? ⟨w.heap.size + 1, 2, none⟩ = some (.int .i64 b) := X0.out.i.2.2.1
  have e3 : U0.cell? ⟨w.heap.size + 1 + 1, 3, none⟩ = some (.int .i64 o0) := X0.out.e rfl
  have ef3 : U0.frozen? ⟨w.heap.size + 1 + 1, 3, none⟩ = false := X0.out.eF 3
  go_upto_region 3 with (fail)
  generalize hU : World.setCell _ _ _ = U1
  have X1 : Hid (Sx (Held fv rs qs) w U1 B (w.heap.size) (w.heap.size + 1) (w.heap.size + 1 + 1) (w.heap.size + 1 + 1 + 1) (w.heap.size + 1 + 1 + 1 + 1) S ⟨17, A, b, C⟩ #[.int .i64 k, .int .i64 q, .int .u8 17, .int .i64 b, .int .i64 0, .int .i64 0] fv rs qs (fl) n c) := Lib.hid (by rw [← hU]; exact X0.out.ev 3 (.int .i64 b))
  clear hU X0
  clear s9 i2 e3 ef3
  clear cR cR0
  have i0 : U1.cell? ⟨w.heap.size + 1, 0, none⟩ = some (.int .u8 17) := X1.out.i.1
  have i1 : U1.cell? ⟨w.heap.size + 1, 1, none⟩ = some (.int .i64 A) := X1.out.i.2.1
  have i2 : U1.cell? ⟨w.heap.size + 1, 2, none⟩ = some (.int .i64 b) := X1.out.i.2.2.1
  have s11 : U1.cell? ⟨w.heap.size, 11, none⟩ = some (.slice (some ⟨g3, 0, none⟩) (fl 3).length cap3) := X1.out.s H11.out
  obtain ⟨c3, c3f⟩ := X1.out.at (j := b) (z := v) EE3.out (h3)
  obtain ⟨cr, crf⟩ := X1.out.at (j := A) (z := rA) EE9.out (hA)
  go_upto_region 5 with (fail)
  go_still_tail 10, (by kernel_rfl)
  go_upto_region 6 with (fail)
  generalize hU : World.setCell _ _ _ = U2
  have X2 : Hid (Sx (Held fv rs qs) w U2 B (w.heap.size) (w.heap.size + 1) (w.heap.size + 1 + 1) (w.heap.size + 1 + 1 + 1) (w.heap.size + 1 + 1 + 1 + 1) S ⟨17, A, b, C⟩ #[.int .i64 k, .int .i64 q, .int .u8 17, .int .i64 b, .int .i64 0, .int .i64 0] fv rs qs (updF fl (9 + k) ((fl (9 + k)).set A v)) n c) := Lib.hid (by rw [← hU]; exact X1.out.put' EE9.out (by omega) v)
  clear hU X1
  clear i0 i1 i2 s11 c3 c3f cr crf
  have i1 : U2.cell? ⟨w.heap.size + 1, 1, none⟩ = some (.int .i64 A) := X2.out.i.2.1
  obtain ⟨cr, crf⟩ := X2.out.at (j := A) (z := v) EE9.out (by rw [updF_same, List.getElem?_set_self (by omega)])
  have e4 : U2.cell? ⟨w.heap.size + 1 + 1, 4, none⟩ = some (.int .i64 0) := X2.out.e rfl
  have ef4 : U2.frozen? ⟨w.heap.size + 1 + 1, 4, none⟩ = false := X2.out.eF 4
  go_wp2_with fail
  generalize hU : World.setCell _ _ _ = U3
  have X3 : Hid (Sx (Held fv rs qs) w U3 B (w.heap.size) (w.heap.size + 1) (w.heap.size + 1 + 1) (w.heap.size + 1 + 1 + 1) (w.heap.size + 1 + 1 + 1 + 1) S ⟨17, A, b, C⟩ #[.int .i64 k, .int .i64 q, .int .u8 17, .int .i64 b, .int .i64 v, .int .i64 0] fv rs qs (updF fl (9 + k) ((fl (9 + k)).set A v)) n c) := Lib.hid (by rw [← hU]; exact X2.out.ev 4 (.int .i64 v))
  clear hU X2
  clear i1 cr crf e4 ef4
  have FX := Lib.hid (X3.out.fin)
  obtain ⟨Z0, z0, _⟩ := FX.out.b0
  obtain ⟨Z1, z2, _⟩ := FX.out.b1
  have ne1 := FX.out.ne.1
  have FZ0 := Lib.hid z0
  have FZ1 := Lib.hid z2
  have hS19 : Array.size S = 19 := by rw [hSV.out.eq]; rfl
  have hSz : (Try.prog.info? 72).map (·.size) = some (Array.size S) := by rw [hS19]; exact info_S
  have hS1 : Array.all S (·.oneCell') = true := sv_one hSV.out (FX.out.rf _ (Touch.of_below (Below.refl _ _)))
  clear z0 z2
  go_wp2_with fail
  refine fin_taken FX.out rfl hS19 hS1 rfl (by simp [Value.oneCell']) rfl (fun _ _ _ _ _ h => h) rfl rfl rfl rfl ?_
  (try simp only [zz0, zz1, zz2, Act.put, zz3, zz4, zz5])
  go_wp2
  refine bodyPost_ret (v := .tuple #[.agg S, .agg #[.int .i64 k, .int .i64 q, .int .u8 17, .int .i64 b, .int .i64 v, .int .i64 0], .bool true]) (results_two (p := 8) (q := 9) (u := 10) rfl _ _ (w.heap.size + 1 + 1 + 1) (w.heap.size + 1 + 1 + 1 + 1) 72 45 S #[.int .i64 k, .int .i64 q, .int .u8 17, .int .i64 b, .int .i64 v, .int .i64 0] (0, 0) (0, 0) _ _ rfl ((setRow_other _ _ _ _ ne1).trans (setRow_heap _ _ _ _ _ _ FZ0.out)) Try.underlying72 rfl hSz rfl (setRow_heap _ _ _ _ _ _ ((setRow_other _ _ _ _ (Ne.symm ne1)).trans FZ1.out)) Try.underlying45 rfl info_event) rfl ?_
  exact ⟨_, _, _, _, rfl, hSV.out, fun u' T => FX.out.rf u' (touch_end T rfl rfl rfl rfl), touch_fin FX.out.bel FX.out.lo.1 FX.out.lo.2 rfl rfl rfl rfl⟩
theorem taken_19 (S : Array Value) (p : ProgD) (ca : Option Addr) (ccap : Nat) (ta : Option Addr) (tcap : Nat) (fv : Nat → Value) (rs qs : Value) (fl : Nat → List Int) (n c : Nat) (B : Nat) (w : World) (hS : SV S p ca ccap ta tcap fv rs qs 0) (hO : Ow w B fv rs qs fl n c) (hn : n ≤ 6) (hc : c ≤ 4) (k : Nat) (hk : k < n) (hr4 : (fl (9 + k)).length = 4) (q o0 : Int) (A b C : Nat) (v rA rC : Int) (hA4 : A < 4) (hC4 : C < 4) (hA : (fl (9 + k))[A]? = some rA) (hC : (fl (9 + k))[C]? = some rC) (h3 : (fl 3)[b]? = some v) :
    Calls Try.prog 80 #[.agg S, .int .i64 k, .agg #[.int .u8 19, .int .i64 A, .int .i64 b, .int .i64 C], .agg #[.int .i64 k, .int .i64 q, .int .u8 19, .int .i64 o0, .int .i64 0, .int .i64 0]] w fun e w' => Rs4 (Held fv rs qs) w w' e p ca ccap ta tcap n c (updF (updF fl (3) ((fl (3)).set b (wrap64 (v + rC)))) (9 + k) (((updF fl (3) ((fl (3)).set b (wrap64 (v + rC)))) (9 + k)).set A v)) 0 #[.int .i64 k, .int .i64 q, .int .u8 19, .int .i64 b, .int .i64 v, .int .i64 0] := by
  go_enter Try.func80, Try.ntmps80
  go_upto_region 1 with (fail)
  generalize hU : World.alloc (World.alloc (World.alloc (World.alloc (World.alloc w _) _) _) _) _ = U0
  have X0 : Hid (Sx (Held fv rs qs) w U0 B (w.heap.size) (w.heap.size + 1) (w.heap.size + 1 + 1) (w.heap.size + 1 + 1 + 1) (w.heap.size + 1 + 1 + 1 + 1) S ⟨19, A, b, C⟩ #[.int .i64 k, .int .i64 q, .int .u8 19, .int .i64 o0, .int .i64 0, .int .i64 0] fv rs qs (fl) n c) := Lib.hid (by rw [← hU]; exact sx_boxes (x := ⟨19, A, b, C⟩) hO rfl rfl)
  have hSV := Lib.hid hS
  clear hU hO
  have hA4' : (A : Int) < 4 := by omega
  have hC4' : (C : Int) < 4 := by omega
  obtain ⟨gR, capR, eR, _, ltR, cR⟩ := X0.out.ow.reg hk
  obtain ⟨gr, capr, er, _, _, _⟩ := X0.out.num hA
  rw [hr4] at er
  have EE9 := Lib.hid er
  have H9 : Hid (S[9]? = some (.slice (some ⟨gR, 0, none⟩) n capR)) := Lib.hid (by rw [← eR, hS.eq]; rfl)
  rw [er] at cR
  clear er eR
  obtain ⟨g3, cap3, e3, _, _, lt3⟩ := X0.out.num h3
  have EE3 := Lib.hid e3
  have H11 : Hid (S[11]? = some (.slice (some ⟨g3, 0, none⟩) (fl 3).length cap3)) := Lib.hid (by rw [← e3, hS.eq]; rfl)
  clear e3
  have s9 : U0.cell? ⟨w.heap.size, 9, none⟩ = some (.slice (some ⟨gR, 0, none⟩) n capR) := X0.out.s H9.out
  have cR0 := cR
  have i2 : U0.cell? ⟨w.heap.size + 1, 2, none⟩ = some (.int .i64 b) := X0.out.i.2.2.1
  have e3 : U0.cell? ⟨w.heap.size + 1 + 1, 3, none⟩ = some (.int .i64 o0) := X0.out.e rfl
  have ef3 : U0.frozen? ⟨w.heap.size + 1 + 1, 3, none⟩ = false := X0.out.eF 3
  go_upto_region 3 with (fail)
  generalize hU : World.setCell _ _ _ = U1
  have X1 : Hid (Sx (Held fv rs qs) w U1 B (w.heap.size) (w.heap.size + 1) (w.heap.size + 1 + 1) (w.heap.size + 1 + 1 + 1) (w.heap.size + 1 + 1 + 1 + 1) S ⟨19, A, b, C⟩ #[.int .i64 k, .int .i64 q, .int .u8 19, .int .i64 b, .int .i64 0, .int .i64 0] fv rs qs (fl) n c) := Lib.hid (by rw [← hU]; exact X0.out.ev 3 (.int .i64 b))
  clear hU X0
  clear s9 i2 e3 ef3
  clear cR cR0
  have i0 : U1.cell? ⟨w.heap.size + 1, 0, none⟩ = some (.int .u8 19) := X1.out.i.1
  have i2 : U1.cell? ⟨w.heap.size + 1, 2, none⟩ = some (.int .i64 b) := X1.out.i.2.2.1
  have s11 : U1.cell? ⟨w.heap.size, 11, none⟩ = some (.slice (some ⟨g3, 0, none⟩) (fl 3).length cap3) := X1.out.s H11.out
  obtain ⟨c3, c3f⟩ := X1.out.at (j := b) (z := v) EE3.out (h3)
  have e4 : U1.cell? ⟨w.heap.size + 1 + 1, 4, none⟩ = some (.int .i64 0) := X1.out.e rfl
  have ef4 : U1.frozen? ⟨w.heap.size + 1 + 1, 4, none⟩ = false := X1.out.eF 4
  go_upto_region 9 with (fail)
  generalize hU : World.setCell _ _ _ = U2
  have X2 : Hid (Sx (Held fv rs qs) w U2 B (w.heap.size) (w.heap.size + 1) (w.heap.size + 1 + 1) (w.heap.size + 1 + 1 + 1) (w.heap.size + 1 + 1 + 1 + 1) S ⟨19, A, b, C⟩ #[.int .i64 k, .int .i64 q, .int .u8 19, .int .i64 b, .int .i64 v, .int .i64 0] fv rs qs (fl) n c) := Lib.hid (by rw [← hU]; exact X1.out.ev 4 (.int .i64 v))
  clear hU X1
  clear i0 i2 s11 c3 c3f e4 ef4
  have i2 : U2.cell? ⟨w.heap.size + 1, 2, none⟩ = some (.int .i64 b) := X2.out.i.2.2.1
  have i3 : U2.cell? ⟨w.heap.size + 1, 3, none⟩ = some (.int .i64 C) := X2.out.i.2.2.2
  have s11 : U2.cell? ⟨w.heap.size, 11, none⟩ = some (.slice (some ⟨g3, 0, none⟩) (fl 3).length cap3) := X2.out.s H11.out
  obtain ⟨c3, c3f⟩ := X2.out.at (j := b) (z := v) EE3.out (h3)
  obtain ⟨cr, crf⟩ := X2.out.at (j := C) (z := rC) EE9.out (hC)
  go_still_tail 13, (by kernel_rfl)
  go_upto_region 10 with (fail)
  generalize hU : World.setCell _ _ _ = U3
  have X3 : Hid (Sx (Held fv rs qs) w U3 B (w.heap.size) (w.heap.size + 1) (w.heap.size + 1 + 1) (w.heap.size + 1 + 1 + 1) (w.heap.size + 1 + 1 + 1 + 1) S ⟨19, A, b, C⟩ #[.int .i64 k, .int .i64 q, .int .u8 19, .int .i64 b, .int .i64 v, .int .i64 0] fv rs qs (updF fl (3) ((fl (3)).set b (wrap64 (v + rC)))) n c) := Lib.hid (by rw [← hU]; exact X2.out.put' EE3.out (lt3) (wrap64 (v + rC)))
  clear hU X2
  clear i2 i3 s11 c3 c3f cr crf
  have i1 : U3.cell? ⟨w.heap.size + 1, 1, none⟩ = some (.int .i64 A) := X3.out.i.2.1
  have e4 : U3.cell? ⟨w.heap.size + 1 + 1, 4, none⟩ = some (.int .i64 v) := X3.out.e rfl
  have ef4 : U3.frozen? ⟨w.heap.size + 1 + 1, 4, none⟩ = false := X3.out.eF 4
  obtain ⟨cr, crf⟩ := X3.out.at (j := A) (z := rA) EE9.out (by rw [updF_ne _ _ (by omega)]; exact hA)
  go_wp2_with fail
  generalize hU : World.setCell _ _ _ = U4
  have X4 : Hid (Sx (Held fv rs qs) w U4 B (w.heap.size) (w.heap.size + 1) (w.heap.size + 1 + 1) (w.heap.size + 1 + 1 + 1) (w.heap.size + 1 + 1 + 1 + 1) S ⟨19, A, b, C⟩ #[.int .i64 k, .int .i64 q, .int .u8 19, .int .i64 b, .int .i64 v, .int .i64 0] fv rs qs (updF (updF fl (3) ((fl (3)).set b (wrap64 (v + rC)))) (9 + k) (((updF fl (3) ((fl (3)).set b (wrap64 (v + rC)))) (9 + k)).set A v)) n c) := Lib.hid (by rw [← hU]; exact X3.out.put' EE9.out (by rw [updF_ne _ _ (by omega)]; omega) v)
  clear hU X3
  clear i1 e4 ef4 cr crf
  have FX := Lib.hid (X4.out.fin)
  obtain ⟨Z0, z0, _⟩ := FX.out.b0
  obtain ⟨Z1, z2, _⟩ := FX.out.b1
  have ne1 := FX.out.ne.1
  have FZ0 := Lib.hid z0
  have FZ1 := Lib.hid z2
  have hS19 : Array.size S = 19 := by rw [hSV.out.eq]; rfl
  have hSz : (Try.prog.info? 72).map (·.size) = some (Array.size S) := by rw [hS19]; exact info_S
  have hS1 : Array.all S (·.oneCell') = true := sv_one hSV.out (FX.out.rf _ (Touch.of_below (Below.refl _ _)))
  clear z0 z2
  go_wp2_with fail
  refine fin_taken FX.out rfl hS19 hS1 rfl (by simp [Value.oneCell']) rfl (fun _ _ _ _ _ h => h) rfl rfl rfl rfl ?_
  (try simp only [zz0, zz1, zz2, Act.put, zz3, zz4, zz5])
  go_wp2
  refine bodyPost_ret (v := .tuple #[.agg S, .agg #[.int .i64 k, .int .i64 q, .int .u8 19, .int .i64 b, .int .i64 v, .int .i64 0], .bool true]) (results_two (p := 8) (q := 9) (u := 10) rfl _ _ (w.heap.size + 1 + 1 + 1) (w.heap.size + 1 + 1 + 1 + 1) 72 45 S #[.int .i64 k, .int .i64 q, .int .u8 19, .int .i64 b, .int .i64 v, .int .i64 0] (0, 0) (0, 0) _ _ rfl ((setRow_other _ _ _ _ ne1).trans (setRow_heap _ _ _ _ _ _ FZ0.out)) Try.underlying72 rfl hSz rfl (setRow_heap _ _ _ _ _ _ ((setRow_other _ _ _ _ (Ne.symm ne1)).trans FZ1.out)) Try.underlying45 rfl info_event) rfl ?_
  exact ⟨_, _, _, _, rfl, hSV.out, fun u' T => FX.out.rf u' (touch_end T rfl rfl rfl rfl), touch_fin FX.out.bel FX.out.lo.1 FX.out.lo.2 rfl rfl rfl rfl⟩
theorem taken_26y (S : Array Value) (p : ProgD) (ca : Option Addr) (ccap : Nat) (ta : Option Addr) (tcap : Nat) (fv : Nat → Value) (rs qs : Value) (fl : Nat → List Int) (n c : Nat) (B : Nat) (w : World) (hS : SV S p ca ccap ta tcap fv rs qs 0) (hO : Ow w B fv rs qs fl n c) (hn : n ≤ 6) (hc : c ≤ 4) (k : Nat) (hk : k < n) (hr4 : (fl (9 + k)).length = 4) (q o0 : Int) (A b : Nat) (C v rA : Int) (hA4 : A < 4) (hv : v = 0) (hA : (fl (9 + k))[A]? = some rA) (h7 : (fl 7)[b]? = some v) :
    Calls Try.prog 80 #[.agg S, .int .i64 k, .agg #[.int .u8 26, .int .i64 A, .int .i64 b, .int .i64 C], .agg #[.int .i64 k, .int .i64 q, .int .u8 26, .int .i64 o0, .int .i64 0, .int .i64 0]] w fun e w' => Rs4 (Held fv rs qs) w w' e p ca ccap ta tcap n c (updF (updF fl (7) ((fl (7)).set b 1)) (9 + k) (((updF fl (7) ((fl (7)).set b 1)) (9 + k)).set A 1)) 0 #[.int .i64 k, .int .i64 q, .int .u8 26, .int .i64 b, .int .i64 0, .int .i64 1] := by
  go_enter Try.func80, Try.ntmps80
  go_upto_region 1 with (fail)
  generalize hU : World.alloc (World.alloc (World.alloc (World.alloc (World.alloc w _) _) _) _) _ = U0
  have X0 : Hid (Sx (Held fv rs qs) w U0 B (w.heap.size) (w.heap.size + 1) (w.heap.size + 1 + 1) (w.heap.size + 1 + 1 + 1) (w.heap.size + 1 + 1 + 1 + 1) S ⟨26, A, b, C⟩ #[.int .i64 k, .int .i64 q, .int .u8 26, .int .i64 o0, .int .i64 0, .int .i64 0] fv rs qs (fl) n c) := Lib.hid (by rw [← hU]; exact sx_boxes (x := ⟨26, A, b, C⟩) hO rfl rfl)
  have hSV := Lib.hid hS
  clear hU hO
  have hA4' : (A : Int) < 4 := by omega
  obtain ⟨gR, capR, eR, _, ltR, cR⟩ := X0.out.ow.reg hk
  obtain ⟨gr, capr, er, _, _, _⟩ := X0.out.num hA
  rw [hr4] at er
  have EE9 := Lib.hid er
  have H9 : Hid (S[9]? = some (.slice (some ⟨gR, 0, none⟩) n capR)) := Lib.hid (by rw [← eR, hS.eq]; rfl)
  rw [er] at cR
  clear er eR
  obtain ⟨g7, cap7, e7, _, _, lt7⟩ := X0.out.num h7
  have EE7 := Lib.hid e7
  have H16 : Hid (S[16]? = some (.slice (some ⟨g7, 0, none⟩) (fl 7).length cap7)) := Lib.hid (by rw [← e7, hS.eq]; rfl)
  clear e7
  have s9 : U0.cell? ⟨w.heap.size, 9, none⟩ = some (.slice (some ⟨gR, 0, none⟩) n capR) := X0.out.s H9.out
  have cR0 := cR
  have i2 : U0.cell? ⟨w.heap.size + 1, 2, none⟩ = some (.int .i64 b) := X0.out.i.2.2.1
  have e3 : U0.cell? ⟨w.heap.size + 1 + 1, 3, none⟩ = some (.int .i64 o0) := X0.out.e rfl
  have ef3 : U0.frozen? ⟨w.heap.size + 1 + 1, 3, none⟩ = false := X0.out.eF 3
  go_upto_region 3 with (fail)
  generalize hU : World.setCell _ _ _ = U1
  have X1 : Hid (Sx (Held fv rs qs) w U1 B (w.heap.size) (w.heap.size + 1) (w.heap.size + 1 + 1) (w.heap.size + 1 + 1 + 1) (w.heap.size + 1 + 1 + 1 + 1) S ⟨26, A, b, C⟩ #[.int .i64 k, .int .i64 q, .int .u8 26, .int .i64 b, .int .i64 0, .int .i64 0] fv rs qs (fl) n c) := Lib.hid (by rw [← hU]; exact X0.out.ev 3 (.int .i64 b))
  clear hU X0
  clear s9 i2 e3 ef3
  clear cR cR0
  have hv0 : (v == 0) = true := by simpa using hv
  have i0 : U1.cell? ⟨w.heap.size + 1, 0, none⟩ = some (.int .u8 26) := X1.out.i.1
  have i2 : U1.cell? ⟨w.heap.size + 1, 2, none⟩ = some (.int .i64 b) := X1.out.i.2.2.1
  have s16 : U1.cell? ⟨w.heap.size, 16, none⟩ = some (.slice (some ⟨g7, 0, none⟩) (fl 7).length cap7) := X1.out.s H16.out
  obtain ⟨c7, c7f⟩ := X1.out.at (j := b) (z := v) EE7.out (h7)
  have e5 : U1.cell? ⟨w.heap.size + 1 + 1, 5, none⟩ = some (.int .i64 0) := X1.out.e rfl
  have ef5 : U1.frozen? ⟨w.heap.size + 1 + 1, 5, none⟩ = false := X1.out.eF 5
  go_upto_region 13 with (go_at_call 58; refine (number4_any _ _).mono ?_; rintro e w' ⟨rfl, rfl⟩)
  try simp only [bitN]
  generalize hU : World.setCell _ _ _ = U2
  have X2 : Hid (Sx (Held fv rs qs) w U2 B (w.heap.size) (w.heap.size + 1) (w.heap.size + 1 + 1) (w.heap.size + 1 + 1 + 1) (w.heap.size + 1 + 1 + 1 + 1) S ⟨26, A, b, C⟩ #[.int .i64 k, .int .i64 q, .int .u8 26, .int .i64 b, .int .i64 0, .int .i64 1] fv rs qs (fl) n c) := Lib.hid (by rw [← hU]; exact X1.out.ev 5 (.int .i64 1))
  clear hU X1
  clear i0 i2 s16 c7 c7f e5 ef5
  have e5 : U2.cell? ⟨w.heap.size + 1 + 1, 5, none⟩ = some (.int .i64 1) := X2.out.e rfl
  have ef5 : U2.frozen? ⟨w.heap.size + 1 + 1, 5, none⟩ = false := X2.out.eF 5
  have i2 : U2.cell? ⟨w.heap.size + 1, 2, none⟩ = some (.int .i64 b) := X2.out.i.2.2.1
  have s16 : U2.cell? ⟨w.heap.size, 16, none⟩ = some (.slice (some ⟨g7, 0, none⟩) (fl 7).length cap7) := X2.out.s H16.out
  obtain ⟨c7, c7f⟩ := X2.out.at (j := b) (z := v) EE7.out (h7)
  go_upto_region 15 with (fail)
  generalize hU : World.setCell _ _ _ = U3
  have X3 : Hid (Sx (Held fv rs qs) w U3 B (w.heap.size) (w.heap.size + 1) (w.heap.size + 1 + 1) (w.heap.size + 1 + 1 + 1) (w.heap.size + 1 + 1 + 1 + 1) S ⟨26, A, b, C⟩ #[.int .i64 k, .int .i64 q, .int .u8 26, .int .i64 b, .int .i64 0, .int .i64 1] fv rs qs (updF fl (7) ((fl (7)).set b 1)) n c) := Lib.hid (by rw [← hU]; exact X2.out.put' EE7.out (lt7) 1)
  clear hU X2
  clear e5 ef5 i2 s16 c7 c7f
  have i1 : U3.cell? ⟨w.heap.size + 1, 1, none⟩ = some (.int .i64 A) := X3.out.i.2.1
  have e5 : U3.cell? ⟨w.heap.size + 1 + 1, 5, none⟩ = some (.int .i64 1) := X3.out.e rfl
  have ef5 : U3.frozen? ⟨w.heap.size + 1 + 1, 5, none⟩ = false := X3.out.eF 5
  obtain ⟨cr, crf⟩ := X3.out.at (j := A) (z := rA) EE9.out (by rw [updF_ne _ _ (by omega)]; exact hA)
  go_wp2_with fail
  generalize hU : World.setCell _ _ _ = U4
  have X4 : Hid (Sx (Held fv rs qs) w U4 B (w.heap.size) (w.heap.size + 1) (w.heap.size + 1 + 1) (w.heap.size + 1 + 1 + 1) (w.heap.size + 1 + 1 + 1 + 1) S ⟨26, A, b, C⟩ #[.int .i64 k, .int .i64 q, .int .u8 26, .int .i64 b, .int .i64 0, .int .i64 1] fv rs qs (updF (updF fl (7) ((fl (7)).set b 1)) (9 + k) (((updF fl (7) ((fl (7)).set b 1)) (9 + k)).set A 1)) n c) := Lib.hid (by rw [← hU]; exact X3.out.put' EE9.out (by rw [updF_ne _ _ (by omega)]; omega) 1)
  clear hU X3
  clear i1 e5 ef5 cr crf
  have FX := Lib.hid (X4.out.fin)
  obtain ⟨Z0, z0, _⟩ := FX.out.b0
  obtain ⟨Z1, z2, _⟩ := FX.out.b1
  have ne1 := FX.out.ne.1
  have FZ0 := Lib.hid z0
  have FZ1 := Lib.hid z2
  have hS19 : Array.size S = 19 := by rw [hSV.out.eq]; rfl
  have hSz : (Try.prog.info? 72).map (·.size) = some (Array.size S) := by rw [hS19]; exact info_S
  have hS1 : Array.all S (·.oneCell') = true := sv_one hSV.out (FX.out.rf _ (Touch.of_below (Below.refl _ _)))
  clear z0 z2
  go_wp2_with fail
  refine fin_taken FX.out rfl hS19 hS1 rfl (by simp [Value.oneCell']) rfl (fun _ _ _ _ _ h => h) rfl rfl rfl rfl ?_
  (try simp only [zz0, zz1, zz2, Act.put, zz3, zz4, zz5])
  go_wp2
  refine bodyPost_ret (v := .tuple #[.agg S, .agg #[.int .i64 k, .int .i64 q, .int .u8 26, .int .i64 b, .int .i64 0, .int .i64 1], .bool true]) (results_two (p := 8) (q := 9) (u := 10) rfl _ _ (w.heap.size + 1 + 1 + 1) (w.heap.size + 1 + 1 + 1 + 1) 72 45 S #[.int .i64 k, .int .i64 q, .int .u8 26, .int .i64 b, .int .i64 0, .int .i64 1] (0, 0) (0, 0) _ _ rfl ((setRow_other _ _ _ _ ne1).trans (setRow_heap _ _ _ _ _ _ FZ0.out)) Try.underlying72 rfl hSz rfl (setRow_heap _ _ _ _ _ _ ((setRow_other _ _ _ _ (Ne.symm ne1)).trans FZ1.out)) Try.underlying45 rfl info_event) rfl ?_
  exact ⟨_, _, _, _, rfl, hSV.out, fun u' T => FX.out.rf u' (touch_end T rfl rfl rfl rfl), touch_fin FX.out.bel FX.out.lo.1 FX.out.lo.2 rfl rfl rfl rfl⟩
theorem taken_26n (S : Array Value) (p : ProgD) (ca : Option Addr) (ccap : Nat) (ta : Option Addr) (tcap : Nat) (fv : Nat → Value) (rs qs : Value) (fl : Nat → List Int) (n c : Nat) (B : Nat) (w : World) (hS : SV S p ca ccap ta tcap fv rs qs 0) (hO : Ow w B fv rs qs fl n c) (hn : n ≤ 6) (hc : c ≤ 4) (k : Nat) (hk : k < n) (hr4 : (fl (9 + k)).length = 4) (q o0 : Int) (A b : Nat) (C v rA : Int) (hA4 : A < 4) (hv : ¬ v = 0) (hA : (fl (9 + k))[A]? = some rA) (h7 : (fl 7)[b]? = some v) :
    Calls Try.prog 80 #[.agg S, .int .i64 k, .agg #[.int .u8 26, .int .i64 A, .int .i64 b, .int .i64 C], .agg #[.int .i64 k, .int .i64 q, .int .u8 26, .int .i64 o0, .int .i64 0, .int .i64 0]] w fun e w' => Rs4 (Held fv rs qs) w w' e p ca ccap ta tcap n c (updF fl (9 + k) ((fl (9 + k)).set A 0)) 0 #[.int .i64 k, .int .i64 q, .int .u8 26, .int .i64 b, .int .i64 0, .int .i64 0] := by
  go_enter Try.func80, Try.ntmps80
  go_upto_region 1 with (fail)
  generalize hU : World.alloc (World.alloc (World.alloc (World.alloc (World.alloc w _) _) _) _) _ = U0
  have X0 : Hid (Sx (Held fv rs qs) w U0 B (w.heap.size) (w.heap.size + 1) (w.heap.size + 1 + 1) (w.heap.size + 1 + 1 + 1) (w.heap.size + 1 + 1 + 1 + 1) S ⟨26, A, b, C⟩ #[.int .i64 k, .int .i64 q, .int .u8 26, .int .i64 o0, .int .i64 0, .int .i64 0] fv rs qs (fl) n c) := Lib.hid (by rw [← hU]; exact sx_boxes (x := ⟨26, A, b, C⟩) hO rfl rfl)
  have hSV := Lib.hid hS
  clear hU hO
  have hA4' : (A : Int) < 4 := by omega
  obtain ⟨gR, capR, eR, _, ltR, cR⟩ := X0.out.ow.reg hk
  obtain ⟨gr, capr, er, _, _, _⟩ := X0.out.num hA
  rw [hr4] at er
  have EE9 := Lib.hid er
  have H9 : Hid (S[9]? = some (.slice (some ⟨gR, 0, none⟩) n capR)) := Lib.hid (by rw [← eR, hS.eq]; rfl)
  rw [er] at cR
  clear er eR
  obtain ⟨g7, cap7, e7, _, _, lt7⟩ := X0.out.num h7
  have EE7 := Lib.hid e7
  have H16 : Hid (S[16]? = some (.slice (some ⟨g7, 0, none⟩) (fl 7).length cap7)) := Lib.hid (by rw [← e7, hS.eq]; rfl)
  clear e7
  have s9 : U0.cell? ⟨w.heap.size, 9, none⟩ = some (.slice (some ⟨gR, 0, none⟩) n capR) := X0.out.s H9.out
  have cR0 := cR
  have i2 : U0.cell? ⟨w.heap.size + 1, 2, none⟩ = some (.int .i64 b) := X0.out.i.2.2.1
  have e3 : U0.cell? ⟨w.heap.size + 1 + 1, 3, none⟩ = some (.int .i64 o0) := X0.out.e rfl
  have ef3 : U0.frozen? ⟨w.heap.size + 1 + 1, 3, none⟩ = false := X0.out.eF 3
  go_upto_region 3 with (fail)
  generalize hU : World.setCell _ _ _ = U1
  have X1 : Hid (Sx (Held fv rs qs) w U1 B (w.heap.size) (w.heap.size + 1) (w.heap.size + 1 + 1) (w.heap.size + 1 + 1 + 1) (w.heap.size + 1 + 1 + 1 + 1) S ⟨26, A, b, C⟩ #[.int .i64 k, .int .i64 q, .int .u8 26, .int .i64 b, .int .i64 0, .int .i64 0] fv rs qs (fl) n c) := Lib.hid (by rw [← hU]; exact X0.out.ev 3 (.int .i64 b))
  clear hU X0
  clear s9 i2 e3 ef3
  clear cR cR0
  have hv0 : (v == 0) = false := by simpa using hv
  have i0 : U1.cell? ⟨w.heap.size + 1, 0, none⟩ = some (.int .u8 26) := X1.out.i.1
  have i2 : U1.cell? ⟨w.heap.size + 1, 2, none⟩ = some (.int .i64 b) := X1.out.i.2.2.1
  have s16 : U1.cell? ⟨w.heap.size, 16, none⟩ = some (.slice (some ⟨g7, 0, none⟩) (fl 7).length cap7) := X1.out.s H16.out
  obtain ⟨c7, c7f⟩ := X1.out.at (j := b) (z := v) EE7.out (h7)
  have e5 : U1.cell? ⟨w.heap.size + 1 + 1, 5, none⟩ = some (.int .i64 0) := X1.out.e rfl
  have ef5 : U1.frozen? ⟨w.heap.size + 1 + 1, 5, none⟩ = false := X1.out.eF 5
  go_upto_region 13 with (go_at_call 58; refine (number4_any _ _).mono ?_; rintro e w' ⟨rfl, rfl⟩)
  try simp only [bitN]
  generalize hU : World.setCell _ _ _ = U2
  have X2 : Hid (Sx (Held fv rs qs) w U2 B (w.heap.size) (w.heap.size + 1) (w.heap.size + 1 + 1) (w.heap.size + 1 + 1 + 1) (w.heap.size + 1 + 1 + 1 + 1) S ⟨26, A, b, C⟩ #[.int .i64 k, .int .i64 q, .int .u8 26, .int .i64 b, .int .i64 0, .int .i64 0] fv rs qs (fl) n c) := Lib.hid (by rw [← hU]; exact X1.out.ev 5 (.int .i64 0))
  clear hU X1
  clear i0 i2 s16 c7 c7f e5 ef5
  have e5 : U2.cell? ⟨w.heap.size + 1 + 1, 5, none⟩ = some (.int .i64 0) := X2.out.e rfl
  have ef5 : U2.frozen? ⟨w.heap.size + 1 + 1, 5, none⟩ = false := X2.out.eF 5
  have i1 : U2.cell? ⟨w.heap.size + 1, 1, none⟩ = some (.int .i64 A) := X2.out.i.2.1
  obtain ⟨cr, crf⟩ := X2.out.at (j := A) (z := rA) EE9.out (hA)
  go_wp2_with fail
  generalize hU : World.setCell _ _ _ = U3
  have X3 : Hid (Sx (Held fv rs qs) w U3 B (w.heap.size) (w.heap.size + 1) (w.heap.size + 1 + 1) (w.heap.size + 1 + 1 + 1) (w.heap.size + 1 + 1 + 1 + 1) S ⟨26, A, b, C⟩ #[.int .i64 k, .int .i64 q, .int .u8 26, .int .i64 b, .int .i64 0, .int .i64 0] fv rs qs (updF fl (9 + k) ((fl (9 + k)).set A 0)) n c) := Lib.hid (by rw [← hU]; exact X2.out.put' EE9.out (by omega) 0)
  clear hU X2
  clear e5 ef5 i1 cr crf
  have FX := Lib.hid (X3.out.fin)
  obtain ⟨Z0, z0, _⟩ := FX.out.b0
  obtain ⟨Z1, z2, _⟩ := FX.out.b1
  have ne1 := FX.out.ne.1
  have FZ0 := Lib.hid z0
  have FZ1 := Lib.hid z2
  have hS19 : Array.size S = 19 := by rw [hSV.out.eq]; rfl
  have hSz : (Try.prog.info? 72).map (·.size) = some (Array.size S) := by rw [hS19]; exact info_S
  have hS1 : Array.all S (·.oneCell') = true := sv_one hSV.out (FX.out.rf _ (Touch.of_below (Below.refl _ _)))
  clear z0 z2
  go_wp2_with fail
  refine fin_taken FX.out rfl hS19 hS1 rfl (by simp [Value.oneCell']) rfl (fun _ _ _ _ _ h => h) rfl rfl rfl rfl ?_
  (try simp only [zz0, zz1, zz2, Act.put, zz3, zz4, zz5])
  go_wp2
  refine bodyPost_ret (v := .tuple #[.agg S, .agg #[.int .i64 k, .int .i64 q, .int .u8 26, .int .i64 b, .int .i64 0, .int .i64 0], .bool true]) (results_two (p := 8) (q := 9) (u := 10) rfl _ _ (w.heap.size + 1 + 1 + 1) (w.heap.size + 1 + 1 + 1 + 1) 72 45 S #[.int .i64 k, .int .i64 q, .int .u8 26, .int .i64 b, .int .i64 0, .int .i64 0] (0, 0) (0, 0) _ _ rfl ((setRow_other _ _ _ _ ne1).trans (setRow_heap _ _ _ _ _ _ FZ0.out)) Try.underlying72 rfl hSz rfl (setRow_heap _ _ _ _ _ _ ((setRow_other _ _ _ _ (Ne.symm ne1)).trans FZ1.out)) Try.underlying45 rfl info_event) rfl ?_
  exact ⟨_, _, _, _, rfl, hSV.out, fun u' T => FX.out.rf u' (touch_end T rfl rfl rfl rfl), touch_fin FX.out.bel FX.out.lo.1 FX.out.lo.2 rfl rfl rfl rfl⟩
theorem taken_21f (S : Array Value) (p : ProgD) (ca : Option Addr) (ccap : Nat) (ta : Option Addr) (tcap : Nat) (fv : Nat → Value) (rs qs : Value) (fl : Nat → List Int) (n c : Nat) (B : Nat) (w : World) (hS : SV S p ca ccap ta tcap fv rs qs 0) (hO : Ow w B fv rs qs fl n c) (hn : n ≤ 6) (hc : c ≤ 4) (k : Nat) (hk : k < n) (hr4 : (fl (9 + k)).length = 4) (q o0 : Int) (A b : Nat) (C v0 rA : Int) (rest : List Int) (hbc : b < c) (hA4 : A < 4) (hA : (fl (9 + k))[A]? = some rA) (hq : fl (15 + b) = v0 :: rest) :
    Calls Try.prog 80 #[.agg S, .int .i64 k, .agg #[.int .u8 21, .int .i64 A, .int .i64 b, .int .i64 C], .agg #[.int .i64 k, .int .i64 q, .int .u8 21, .int .i64 o0, .int .i64 0, .int .i64 0]] w fun e w' => Rs4 (Held fv rs qs) w w' e p ca ccap ta tcap n c (updF (updF fl (9 + k) ((fl (9 + k)).set A v0)) (15 + b) rest) 0 #[.int .i64 k, .int .i64 q, .int .u8 21, .int .i64 b, .int .i64 v0, .int .i64 1] := by
  go_enter Try.func80, Try.ntmps80
  go_upto_region 1 with (fail)
  generalize hU : World.alloc (World.alloc (World.alloc (World.alloc (World.alloc w _) _) _) _) _ = U0
  have X0 : Hid (Sx (Held fv rs qs) w U0 B (w.heap.size) (w.heap.size + 1) (w.heap.size + 1 + 1) (w.heap.size + 1 + 1 + 1) (w.heap.size + 1 + 1 + 1 + 1) S ⟨21, A, b, C⟩ #[.int .i64 k, .int .i64 q, .int .u8 21, .int .i64 o0, .int .i64 0, .int .i64 0] fv rs qs (fl) n c) := Lib.hid (by rw [← hU]; exact sx_boxes (x := ⟨21, A, b, C⟩) hO rfl rfl)
  have hSV := Lib.hid hS
  clear hU hO
  have hA4' : (A : Int) < 4 := by omega
  obtain ⟨gR, capR, eR, _, ltR, cR⟩ := X0.out.ow.reg hk
  obtain ⟨gr, capr, er, _, _, _⟩ := X0.out.num hA
  rw [hr4] at er
  have EE9 := Lib.hid er
  have H9 : Hid (S[9]? = some (.slice (some ⟨gR, 0, none⟩) n capR)) := Lib.hid (by rw [← eR, hS.eq]; rfl)
  rw [er] at cR
  clear er eR
  obtain ⟨gQ, capQ, eQ, _, ltQ, cQ, _⟩ := X0.out.ow.que hbc
  have EQ := Lib.hid eQ
  have H13 : Hid (S[13]? = some (.slice (some ⟨gQ, 0, none⟩) c capQ)) := Lib.hid (by rw [← eQ, hS.eq]; rfl)
  have hq0 : (fl (15 + b))[0]? = some v0 := by rw [hq]; rfl
  obtain ⟨gq, capq, eq, _⟩ := X0.out.num hq0
  rw [hq, List.length_cons] at eq
  have hql : rest.length + 1 ≤ capq := by have := X0.out.ow.fam.row (15 + b); rw [eq] at this; exact own_cap this
  have EEQ := Lib.hid eq
  clear eq eQ cQ
  have s9 : U0.cell? ⟨w.heap.size, 9, none⟩ = some (.slice (some ⟨gR, 0, none⟩) n capR) := X0.out.s H9.out
  have cR0 := cR
  have i2 : U0.cell? ⟨w.heap.size + 1, 2, none⟩ = some (.int .i64 b) := X0.out.i.2.2.1
  have e3 : U0.cell? ⟨w.heap.size + 1 + 1, 3, none⟩ = some (.int .i64 o0) := X0.out.e rfl
  have ef3 : U0.frozen? ⟨w.heap.size + 1 + 1, 3, none⟩ = false := X0.out.eF 3
  go_upto_region 3 with (fail)
  generalize hU : World.setCell _ _ _ = U1
  have X1 : Hid (Sx (Held fv rs qs) w U1 B (w.heap.size) (w.heap.size + 1) (w.heap.size + 1 + 1) (w.heap.size + 1 + 1 + 1) (w.heap.size + 1 + 1 + 1 + 1) S ⟨21, A, b, C⟩ #[.int .i64 k, .int .i64 q, .int .u8 21, .int .i64 b, .int .i64 0, .int .i64 0] fv rs qs (fl) n c) := Lib.hid (by rw [← hU]; exact X0.out.ev 3 (.int .i64 b))
  clear hU X0
  clear s9 i2 e3 ef3
  clear cR cR0
  have hbc' : (b : Int) < (c : Int) := by omega
  have i0 : U1.cell? ⟨w.heap.size + 1, 0, none⟩ = some (.int .u8 21) := X1.out.i.1
  have i2 : U1.cell? ⟨w.heap.size + 1, 2, none⟩ = some (.int .i64 b) := X1.out.i.2.2.1
  have s13 : U1.cell? ⟨w.heap.size, 13, none⟩ = some (.slice (some ⟨gQ, 0, none⟩) c capQ) := X1.out.s H13.out
  have cQ : U1.cell? ⟨gQ, b, none⟩ = some (.slice (some ⟨gq, 0, none⟩) (rest.length + 1) capq) := by obtain ⟨g, cap, e, _, _, h, _⟩ := X1.out.ow.que hbc; rw [EQ.out] at e; cases e; rw [EEQ.out] at h; exact h
  have cQf : U1.frozen? ⟨gQ, b, none⟩ = false := by obtain ⟨g, cap, e, _, _, _, h⟩ := X1.out.ow.que hbc; rw [EQ.out] at e; cases e; exact h
  have e5 : U1.cell? ⟨w.heap.size + 1 + 1, 5, none⟩ = some (.int .i64 0) := X1.out.e rfl
  have ef5 : U1.frozen? ⟨w.heap.size + 1 + 1, 5, none⟩ = false := X1.out.eF 5
  go_upto_region 20 with (fail)
  generalize hU : World.setCell _ _ _ = U2
  have X2 : Hid (Sx (Held fv rs qs) w U2 B (w.heap.size) (w.heap.size + 1) (w.heap.size + 1 + 1) (w.heap.size + 1 + 1 + 1) (w.heap.size + 1 + 1 + 1 + 1) S ⟨21, A, b, C⟩ #[.int .i64 k, .int .i64 q, .int .u8 21, .int .i64 b, .int .i64 0, .int .i64 1] fv rs qs (fl) n c) := Lib.hid (by rw [← hU]; exact X1.out.ev 5 (.int .i64 1))
  clear hU X1
  clear i0 i2 s13 cQ cQf e5 ef5
  have i2 : U2.cell? ⟨w.heap.size + 1, 2, none⟩ = some (.int .i64 b) := X2.out.i.2.2.1
  have s13 : U2.cell? ⟨w.heap.size, 13, none⟩ = some (.slice (some ⟨gQ, 0, none⟩) c capQ) := X2.out.s H13.out
  have cQ : U2.cell? ⟨gQ, b, none⟩ = some (.slice (some ⟨gq, 0, none⟩) (rest.length + 1) capq) := by obtain ⟨g, cap, e, _, _, h, _⟩ := X2.out.ow.que hbc; rw [EQ.out] at e; cases e; rw [EEQ.out] at h; exact h
  have cQf : U2.frozen? ⟨gQ, b, none⟩ = false := by obtain ⟨g, cap, e, _, _, _, h⟩ := X2.out.ow.que hbc; rw [EQ.out] at e; cases e; exact h
  have e4 : U2.cell? ⟨w.heap.size + 1 + 1, 4, none⟩ = some (.int .i64 0) := X2.out.e rfl
  have ef4 : U2.frozen? ⟨w.heap.size + 1 + 1, 4, none⟩ = false := X2.out.eF 4
  have cv : U2.cell? ⟨gq, 0, none⟩ = some (.int .i64 v0) := (X2.out.at EEQ.out (by rw [hq]; rfl)).1
  go_upto_region 21 with (fail)
  generalize hU : World.setCell _ _ _ = U3
  have X3 : Hid (Sx (Held fv rs qs) w U3 B (w.heap.size) (w.heap.size + 1) (w.heap.size + 1 + 1) (w.heap.size + 1 + 1 + 1) (w.heap.size + 1 + 1 + 1 + 1) S ⟨21, A, b, C⟩ #[.int .i64 k, .int .i64 q, .int .u8 21, .int .i64 b, .int .i64 v0, .int .i64 1] fv rs qs (fl) n c) := Lib.hid (by rw [← hU]; exact X2.out.ev 4 (.int .i64 v0))
  clear hU X2
  clear i2 s13 cQ cQf e4 ef4 cv
  have i2 : U3.cell? ⟨w.heap.size + 1, 2, none⟩ = some (.int .i64 b) := X3.out.i.2.2.1
  have s13 : U3.cell? ⟨w.heap.size, 13, none⟩ = some (.slice (some ⟨gQ, 0, none⟩) c capQ) := X3.out.s H13.out
  have cQ : U3.cell? ⟨gQ, b, none⟩ = some (.slice (some ⟨gq, 0, none⟩) (rest.length + 1) capq) := by obtain ⟨g, cap, e, _, _, h, _⟩ := X3.out.ow.que hbc; rw [EQ.out] at e; cases e; rw [EEQ.out] at h; exact h
  have cQf : U3.frozen? ⟨gQ, b, none⟩ = false := by obtain ⟨g, cap, e, _, _, _, h⟩ := X3.out.ow.que hbc; rw [EQ.out] at e; cases e; exact h
  obtain ⟨off, mq, hoff, hsl⟩ := slice_one gq rest.length capq hql
  go_still_tail 12, (by kernel_rfl)
  go_upto_region 24 with (fail)
  have qn := X3.out.qne EQ.out
  generalize hU : World.setCell _ _ _ = U4
  obtain ⟨Y4, P4, X4⟩ : ∃ Y, Hid (U4 = Y.setCell ⟨gQ, b, none⟩ (.slice (some ⟨gq, off, none⟩) rest.length mq)) ∧ Hid (Sx (Held fv rs qs) w Y B (w.heap.size) (w.heap.size + 1) (w.heap.size + 1 + 1) (w.heap.size + 1 + 1 + 1) (w.heap.size + 1 + 1 + 1 + 1) S ⟨21, A, b, C⟩ #[.int .i64 k, .int .i64 q, .int .u8 21, .int .i64 b, .int .i64 v0, .int .i64 1] fv rs qs (fl) n c) := ⟨U3, Lib.hid hU.symm, X3⟩
  clear hU X3
  clear i2 s13 cQ cQf
  generalize hD : World.drew U4 = U5
  obtain ⟨Y5, P5, X5⟩ : ∃ Y, Hid (U5 = Y.setCell ⟨gQ, b, none⟩ (.slice (some ⟨gq, off, none⟩) rest.length mq)) ∧ Hid (Sx (Held fv rs qs) w Y B (w.heap.size) (w.heap.size + 1) (w.heap.size + 1 + 1) (w.heap.size + 1 + 1 + 1) (w.heap.size + 1 + 1 + 1 + 1) S ⟨21, A, b, C⟩ #[.int .i64 k, .int .i64 q, .int .u8 21, .int .i64 b, .int .i64 v0, .int .i64 1] fv rs qs (fl) n c) := ⟨_, Lib.hid (by rw [← hD, P4.out]; rfl), Lib.hid X4.out.drew⟩
  clear hD X4 P4
  clear hsl
  have i1 : U5.cell? ⟨w.heap.size + 1, 1, none⟩ = some (.int .i64 A) := (by rw [P5.out]; exact (pop_cell qn.1.2.1).trans (X5.out.i.2.1))
  have e4 : U5.cell? ⟨w.heap.size + 1 + 1, 4, none⟩ = some (.int .i64 v0) := (by rw [P5.out]; exact (pop_cell qn.1.2.2.1).trans (X5.out.e rfl))
  have ef4 : U5.frozen? ⟨w.heap.size + 1 + 1, 4, none⟩ = false := (by rw [P5.out]; exact (pop_frozen qn.1.2.2.1).trans (X5.out.eF 4))
  obtain ⟨cr_, crf_⟩ := X5.out.at (j := A) (z := rA) EE9.out (hA)
  have cr : U5.cell? ⟨gr, A, none⟩ = some (.int .i64 rA) := (by rw [P5.out]; exact (pop_cell (qn.2.1 (9 + k) gr (by rw [EE9.out]; rfl))).trans (cr_))
  have crf : U5.frozen? ⟨gr, A, none⟩ = false := (by rw [P5.out]; exact (pop_frozen (qn.2.1 (9 + k) gr (by rw [EE9.out]; rfl))).trans (crf_))
  clear cr_ crf_
  go_upto_region 25 with (fail)
  generalize hU : World.setCell _ _ _ = U6
  obtain ⟨Y6, P6, X6⟩ : ∃ Y, Hid (U6 = Y.setCell ⟨gQ, b, none⟩ (.slice (some ⟨gq, off, none⟩) rest.length mq)) ∧ Hid (Sx (Held fv rs qs) w Y B (w.heap.size) (w.heap.size + 1) (w.heap.size + 1 + 1) (w.heap.size + 1 + 1 + 1) (w.heap.size + 1 + 1 + 1 + 1) S ⟨21, A, b, C⟩ #[.int .i64 k, .int .i64 q, .int .u8 21, .int .i64 b, .int .i64 v0, .int .i64 1] fv rs qs (updF fl (9 + k) ((fl (9 + k)).set A v0)) n c) := ⟨_, Lib.hid (by rw [← hU, P5.out]; exact set_comm (Ne.symm (qn.2.1 (9 + k) gr (by rw [EE9.out]; rfl)))), Lib.hid (X5.out.put' EE9.out (by omega) v0)⟩
  clear hU X5 P5
  clear i1 e4 ef4 cr crf
  have i0 : U6.cell? ⟨w.heap.size + 1, 0, none⟩ = some (.int .u8 21) := (by rw [P6.out]; exact (pop_cell qn.1.2.1).trans (X6.out.i.1))
  go_wp2_with fail
  clear i0
  have hSP := Lib.hid (sv_pop hSV.out b (.slice (some ⟨gq, off, none⟩) rest.length mq))
  have FX := Lib.hid ((by rw [P6.out]; exact X6.out.popped hn hbc EQ.out (by rw [updF_ne _ _ (by omega)]; exact hq) EEQ.out off mq hoff : Fx (Held fv rs qs) w U6 (w.heap.size) (w.heap.size + 1 + 1) (w.heap.size + 1 + 1 + 1) (w.heap.size + 1 + 1 + 1 + 1) S #[.int .i64 k, .int .i64 q, .int .u8 21, .int .i64 b, .int .i64 v0, .int .i64 1] (updF fv (15 + b) (.slice (some ⟨gq, off, none⟩) rest.length mq)) rs qs (updF (updF fl (9 + k) ((fl (9 + k)).set A v0)) (15 + b) rest) n c))
  obtain ⟨Z0, z0, _⟩ := FX.out.b0
  obtain ⟨Z1, z2, _⟩ := FX.out.b1
  have ne1 := FX.out.ne.1
  have FZ0 := Lib.hid z0
  have FZ1 := Lib.hid z2
  have hS19 : Array.size S = 19 := by rw [hSP.out.eq]; rfl
  have hSz : (Try.prog.info? 72).map (·.size) = some (Array.size S) := by rw [hS19]; exact info_S
  have hS1 : Array.all S (·.oneCell') = true := sv_one hSP.out (FX.out.rf _ (Touch.of_below (Below.refl _ _)))
  clear z0 z2
  go_wp2_with fail
  refine fin_taken FX.out rfl hS19 hS1 rfl (by simp [Value.oneCell']) rfl (fun _ _ _ _ _ h => h) rfl rfl rfl rfl ?_
  (try simp only [zz0, zz1, zz2, Act.put, zz3, zz4, zz5])
  go_wp2
  refine bodyPost_ret (v := .tuple #[.agg S, .agg #[.int .i64 k, .int .i64 q, .int .u8 21, .int .i64 b, .int .i64 v0, .int .i64 1], .bool true]) (results_two (p := 8) (q := 9) (u := 10) rfl _ _ (w.heap.size + 1 + 1 + 1) (w.heap.size + 1 + 1 + 1 + 1) 72 45 S #[.int .i64 k, .int .i64 q, .int .u8 21, .int .i64 b, .int .i64 v0, .int .i64 1] (0, 0) (0, 0) _ _ rfl ((setRow_other _ _ _ _ ne1).trans (setRow_heap _ _ _ _ _ _ FZ0.out)) Try.underlying72 rfl hSz rfl (setRow_heap _ _ _ _ _ _ ((setRow_other _ _ _ _ (Ne.symm ne1)).trans FZ1.out)) Try.underlying45 rfl info_event) rfl ?_
  exact ⟨_, _, _, _, rfl, hSP.out, fun u' T => FX.out.rf u' (touch_end T rfl rfl rfl rfl), touch_fin FX.out.bel FX.out.lo.1 FX.out.lo.2 rfl rfl rfl rfl⟩
theorem taken_21c (S : Array Value) (p : ProgD) (ca : Option Addr) (ccap : Nat) (ta : Option Addr) (tcap : Nat) (fv : Nat → Value) (rs qs : Value) (fl : Nat → List Int) (n c : Nat) (B : Nat) (w : World) (hS : SV S p ca ccap ta tcap fv rs qs 0) (hO : Ow w B fv rs qs fl n c) (hn : n ≤ 6) (hc : c ≤ 4) (k : Nat) (hk : k < n) (hr4 : (fl (9 + k)).length = 4) (q o0 : Int) (A b : Nat) (C y rA : Int) (hbc : b < c) (hA4 : A < 4) (hA : (fl (9 + k))[A]? = some rA) (hq : fl (15 + b) = []) (h5 : (fl 5)[b]? = some y) (hy : y = 1) :
    Calls Try.prog 80 #[.agg S, .int .i64 k, .agg #[.int .u8 21, .int .i64 A, .int .i64 b, .int .i64 C], .agg #[.int .i64 k, .int .i64 q, .int .u8 21, .int .i64 o0, .int .i64 0, .int .i64 0]] w fun e w' => Rs4 (Held fv rs qs) w w' e p ca ccap ta tcap n c (updF fl (9 + k) ((fl (9 + k)).set A 0)) 0 #[.int .i64 k, .int .i64 q, .int .u8 21, .int .i64 b, .int .i64 0, .int .i64 2] := by
  go_enter Try.func80, Try.ntmps80
  go_upto_region 1 with (fail)
  generalize hU : World.alloc (World.alloc (World.alloc (World.alloc (World.alloc w _) _) _) _) _ = U0
  have X0 : Hid (Sx (Held fv rs qs) w U0 B (w.heap.size) (w.heap.size + 1) (w.heap.size + 1 + 1) (w.heap.size + 1 + 1 + 1) (w.heap.size + 1 + 1 + 1 + 1) S ⟨21, A, b, C⟩ #[.int .i64 k, .int .i64 q, .int .u8 21, .int .i64 o0, .int .i64 0, .int .i64 0] fv rs qs (fl) n c) := Lib.hid (by rw [← hU]; exact sx_boxes (x := ⟨21, A, b, C⟩) hO rfl rfl)
  have hSV := Lib.hid hS
  clear hU hO
  have hA4' : (A : Int) < 4 := by omega
  obtain ⟨gR, capR, eR, _, ltR, cR⟩ := X0.out.ow.reg hk
  obtain ⟨gr, capr, er, _, _, _⟩ := X0.out.num hA
  rw [hr4] at er
  have EE9 := Lib.hid er
  have H9 : Hid (S[9]? = some (.slice (some ⟨gR, 0, none⟩) n capR)) := Lib.hid (by rw [← eR, hS.eq]; rfl)
  rw [er] at cR
  clear er eR
  obtain ⟨gQ, capQ, eQ, _, ltQ, cQ, _⟩ := X0.out.ow.que hbc
  have EQ := Lib.hid eQ
  have H13 : Hid (S[13]? = some (.slice (some ⟨gQ, 0, none⟩) c capQ)) := Lib.hid (by rw [← eQ, hS.eq]; rfl)
  obtain ⟨aq, capq, eq, _⟩ := X0.out.ow.rf.row (15 + b)
  rw [hq, List.length_nil] at eq
  have EEQ := Lib.hid eq
  clear eq eQ cQ
  obtain ⟨g5, cap5, e5, _, _, lt5⟩ := X0.out.num h5
  have EE5 := Lib.hid e5
  have H14 : Hid (S[14]? = some (.slice (some ⟨g5, 0, none⟩) (fl 5).length cap5)) := Lib.hid (by rw [← e5, hS.eq]; rfl)
  clear e5
  have s9 : U0.cell? ⟨w.heap.size, 9, none⟩ = some (.slice (some ⟨gR, 0, none⟩) n capR) := X0.out.s H9.out
  have cR0 := cR
  have i2 : U0.cell? ⟨w.heap.size + 1, 2, none⟩ = some (.int .i64 b) := X0.out.i.2.2.1
  have e3 : U0.cell? ⟨w.heap.size + 1 + 1, 3, none⟩ = some (.int .i64 o0) := X0.out.e rfl
  have ef3 : U0.frozen? ⟨w.heap.size + 1 + 1, 3, none⟩ = false := X0.out.eF 3
  go_upto_region 3 with (fail)
  generalize hU : World.setCell _ _ _ = U1
  have X1 : Hid (Sx (Held fv rs qs) w U1 B (w.heap.size) (w.heap.size + 1) (w.heap.size + 1 + 1) (w.heap.size + 1 + 1 + 1) (w.heap.size + 1 + 1 + 1 + 1) S ⟨21, A, b, C⟩ #[.int .i64 k, .int .i64 q, .int .u8 21, .int .i64 b, .int .i64 0, .int .i64 0] fv rs qs (fl) n c) := Lib.hid (by rw [← hU]; exact X0.out.ev 3 (.int .i64 b))
  clear hU X0
  clear s9 i2 e3 ef3
  clear cR cR0
  have hbc' : (b : Int) < (c : Int) := by omega
  have i0 : U1.cell? ⟨w.heap.size + 1, 0, none⟩ = some (.int .u8 21) := X1.out.i.1
  have i2 : U1.cell? ⟨w.heap.size + 1, 2, none⟩ = some (.int .i64 b) := X1.out.i.2.2.1
  have s13 : U1.cell? ⟨w.heap.size, 13, none⟩ = some (.slice (some ⟨gQ, 0, none⟩) c capQ) := X1.out.s H13.out
  have cQ : U1.cell? ⟨gQ, b, none⟩ = some (.slice aq 0 capq) := by obtain ⟨g, cap, e, _, _, h, _⟩ := X1.out.ow.que hbc; rw [EQ.out] at e; cases e; rw [EEQ.out] at h; exact h
  have cQf : U1.frozen? ⟨gQ, b, none⟩ = false := by obtain ⟨g, cap, e, _, _, _, h⟩ := X1.out.ow.que hbc; rw [EQ.out] at e; cases e; exact h
  have s14 : U1.cell? ⟨w.heap.size, 14, none⟩ = some (.slice (some ⟨g5, 0, none⟩) (fl 5).length cap5) := X1.out.s H14.out
  obtain ⟨c5, c5f⟩ := X1.out.at (j := b) (z := y) EE5.out (h5)
  have hy0 : (y == 1) = true := by simpa using hy
  have e5 : U1.cell? ⟨w.heap.size + 1 + 1, 5, none⟩ = some (.int .i64 0) := X1.out.e rfl
  have ef5 : U1.frozen? ⟨w.heap.size + 1 + 1, 5, none⟩ = false := X1.out.eF 5
  go_upto_region 24 with (fail)
  generalize hU : World.setCell _ _ _ = U2
  have X2 : Hid (Sx (Held fv rs qs) w U2 B (w.heap.size) (w.heap.size + 1) (w.heap.size + 1 + 1) (w.heap.size + 1 + 1 + 1) (w.heap.size + 1 + 1 + 1 + 1) S ⟨21, A, b, C⟩ #[.int .i64 k, .int .i64 q, .int .u8 21, .int .i64 b, .int .i64 0, .int .i64 2] fv rs qs (fl) n c) := Lib.hid (by rw [← hU]; exact X1.out.ev 5 (.int .i64 2))
  clear hU X1
  clear i0 i2 s13 cQ cQf s14 c5 c5f e5 ef5
  have i1 : U2.cell? ⟨w.heap.size + 1, 1, none⟩ = some (.int .i64 A) := X2.out.i.2.1
  have e4 : U2.cell? ⟨w.heap.size + 1 + 1, 4, none⟩ = some (.int .i64 0) := X2.out.e rfl
  have ef4 : U2.frozen? ⟨w.heap.size + 1 + 1, 4, none⟩ = false := X2.out.eF 4
  obtain ⟨cr, crf⟩ := X2.out.at (j := A) (z := rA) EE9.out (hA)
  go_upto_region 25 with (fail)
  generalize hU : World.setCell _ _ _ = U3
  have X3 : Hid (Sx (Held fv rs qs) w U3 B (w.heap.size) (w.heap.size + 1) (w.heap.size + 1 + 1) (w.heap.size + 1 + 1 + 1) (w.heap.size + 1 + 1 + 1 + 1) S ⟨21, A, b, C⟩ #[.int .i64 k, .int .i64 q, .int .u8 21, .int .i64 b, .int .i64 0, .int .i64 2] fv rs qs (updF fl (9 + k) ((fl (9 + k)).set A 0)) n c) := Lib.hid (by rw [← hU]; exact X2.out.put' EE9.out (by omega) 0)
  clear hU X2
  clear i1 e4 ef4 cr crf
  have i0 : U3.cell? ⟨w.heap.size + 1, 0, none⟩ = some (.int .u8 21) := X3.out.i.1
  go_wp2_with fail
  clear i0
  have FX := Lib.hid (X3.out.fin)
  obtain ⟨Z0, z0, _⟩ := FX.out.b0
  obtain ⟨Z1, z2, _⟩ := FX.out.b1
  have ne1 := FX.out.ne.1
  have FZ0 := Lib.hid z0
  have FZ1 := Lib.hid z2
  have hS19 : Array.size S = 19 := by rw [hSV.out.eq]; rfl
  have hSz : (Try.prog.info? 72).map (·.size) = some (Array.size S) := by rw [hS19]; exact info_S
  have hS1 : Array.all S (·.oneCell') = true := sv_one hSV.out (FX.out.rf _ (Touch.of_below (Below.refl _ _)))
  clear z0 z2
  go_wp2_with fail
  refine fin_taken FX.out rfl hS19 hS1 rfl (by simp [Value.oneCell']) rfl (fun _ _ _ _ _ h => h) rfl rfl rfl rfl ?_
  (try simp only [zz0, zz1, zz2, Act.put, zz3, zz4, zz5])
  go_wp2
  refine bodyPost_ret (v := .tuple #[.agg S, .agg #[.int .i64 k, .int .i64 q, .int .u8 21, .int .i64 b, .int .i64 0, .int .i64 2], .bool true]) (results_two (p := 8) (q := 9) (u := 10) rfl _ _ (w.heap.size + 1 + 1 + 1) (w.heap.size + 1 + 1 + 1 + 1) 72 45 S #[.int .i64 k, .int .i64 q, .int .u8 21, .int .i64 b, .int .i64 0, .int .i64 2] (0, 0) (0, 0) _ _ rfl ((setRow_other _ _ _ _ ne1).trans (setRow_heap _ _ _ _ _ _ FZ0.out)) Try.underlying72 rfl hSz rfl (setRow_heap _ _ _ _ _ _ ((setRow_other _ _ _ _ (Ne.symm ne1)).trans FZ1.out)) Try.underlying45 rfl info_event) rfl ?_
  exact ⟨_, _, _, _, rfl, hSV.out, fun u' T => FX.out.rf u' (touch_end T rfl rfl rfl rfl), touch_fin FX.out.bel FX.out.lo.1 FX.out.lo.2 rfl rfl rfl rfl⟩
end Go.Proofs.Ytnbpneaiibandaa
