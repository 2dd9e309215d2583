/- What the laws of this seat stand on, part 10. -/
import Derived.Test.YtnbpneaiibandaaPa0
import Derived.Test.YtnbpneaiibandaaPa9
set_option linter.unusedVariables false
set_option linter.unusedSimpArgs false
set_option maxRecDepth 100000
set_option maxHeartbeats 40000000
namespace Go.Proofs.Ytnbpneaiibandaa
open Go.ChangeShapes Go.WideShapes Go.ChangeAt Go.RowKit
theorem keep9 {u u' : World} {b b1 o1 b2 o2 b3 o3 b4 o4 b5 o5 b6 o6 b7 o7 b8 o8 : Nat} {o : Obj} {v1 v2 v3 v4 v5 v6 v7 v8 : Value} (h : u.heap[b]? = some o ∧ u.cell? ⟨b1, o1, none⟩ = some v1 ∧ u.cell? ⟨b2, o2, none⟩ = some v2 ∧ u.cell? ⟨b3, o3, none⟩ = some v3 ∧ u.cell? ⟨b4, o4, none⟩ = some v4 ∧ u.cell? ⟨b5, o5, none⟩ = some v5 ∧ u.cell? ⟨b6, o6, none⟩ = some v6 ∧ u.cell? ⟨b7, o7, none⟩ = some v7 ∧ u.cell? ⟨b8, o8, none⟩ = some v8) (hB : Below u.heap.size u u') : u'.heap[b]? = some o ∧ u'.cell? ⟨b1, o1, none⟩ = some v1 ∧ u'.cell? ⟨b2, o2, none⟩ = some v2 ∧ u'.cell? ⟨b3, o3, none⟩ = some v3 ∧ u'.cell? ⟨b4, o4, none⟩ = some v4 ∧ u'.cell? ⟨b5, o5, none⟩ = some v5 ∧ u'.cell? ⟨b6, o6, none⟩ = some v6 ∧ u'.cell? ⟨b7, o7, none⟩ = some v7 ∧ u'.cell? ⟨b8, o8, none⟩ = some v8 :=
  have q : ∀ {g i : Nat} {v : Value}, u.cell? ⟨g, i, none⟩ = some v → u'.cell? ⟨g, i, none⟩ = some v := fun {g i v} h => (hB.cell (p := ⟨g, i, none⟩) (cell_lt h)).trans h
  ⟨old_later h.1 hB, q h.2.1, q h.2.2.1, q h.2.2.2.1, q h.2.2.2.2.1, q h.2.2.2.2.2.1, q h.2.2.2.2.2.2.1, q h.2.2.2.2.2.2.2.1, q h.2.2.2.2.2.2.2.2⟩
theorem can4_yes (S : Array Value) (p : ProgD) (ca : Option Addr) (ccap : Nat) (ta : Option Addr) (tcap : Nat) (fv : Nat → Value) (rs qs : Value) (fl : Nat → List Int) (n c : Nat) (tp : Int) (w : World) (hS : SV S p ca ccap ta tcap fv rs qs tp) (hR : Rf w fv rs qs fl n c) (hP : ProgIn w w.heap.size p ca ta) (hl : ∀ i, (fl i).length ≤ 1000000) (hc : c ≤ 1000) (k q : Nat) (be : Int) (hat : (fl 0)[k]? = some (q : Int)) (hbe : (fl 1)[k]? = some be) (hz : be ≠ 0) (ck : List InsD) (hck : p.threads[k]? = some ck) (ht : tp ≠ 1) (x : InsD) (hx : ck[q]? = some x) (hcl : ck.length ≤ 1000000) (hF : FitF fl c p x) :
    Calls Try.prog 56 #[.agg S, .int .i64 k] w fun e w' => e = .returned (.bool (!blockedF fl p.chans x)) ∧ Below w.heap.size w w' := by
  obtain ⟨at', rfl⟩ : ∃ at' : Int, at' = (q : Int) := ⟨_, rfl⟩
  have hqc := (List.getElem?_eq_some_iff.1 hx).1
  have he : (q : Int) < (ck.length : Int) := by omega
  obtain ⟨g0, o0, k0, e0, hg0, hc0, hk0⟩ := hR.num hat
  have h1 : decide ((k : Int) < 0) = false := decide_eq_false (by omega)
  have h1' : ¬ (k : Int) < 0 := by omega
  have h2 : decide (((fl 0).length : Int) ≤ (k : Int)) = false := decide_eq_false (by omega)
  have h2' : ¬ (fl 0).length ≤ k := by omega
  have s0 : S[7]? = some (.slice (some ⟨g0, o0, none⟩) (fl 0).length k0) := by rw [← e0, hS.eq]; rfl
  have c0 : (w.alloc (.cells S 72)).cell? ⟨w.heap.size, 7, none⟩ = some (.slice (some ⟨g0, o0, none⟩) (fl 0).length k0) := (cell_of_row _ _ _ _ _ _ (heap_alloc_new _ _)).trans s0
  have d0 : ∀ o, (w.alloc o).cell? ⟨g0, o0 + k, none⟩ = some (.int .i64 (q : Int)) := fun o => ((below_box w o).cell (p := ⟨g0, o0 + k, none⟩) hg0).trans hc0
  obtain ⟨g1, o1, k1, e1, hg1, hc1, hk1⟩ := hR.num hbe
  have s1 : S[8]? = some (.slice (some ⟨g1, o1, none⟩) (fl 1).length k1) := by rw [← e1, hS.eq]; rfl
  have c1 : (w.alloc (.cells S 72)).cell? ⟨w.heap.size, 8, none⟩ = some (.slice (some ⟨g1, o1, none⟩) (fl 1).length k1) := (cell_of_row _ _ _ _ _ _ (heap_alloc_new _ _)).trans s1
  have d1 : ∀ o, (w.alloc o).cell? ⟨g1, o1 + k, none⟩ = some (.int .i64 be) := fun o => ((below_box w o).cell (p := ⟨g1, o1 + k, none⟩) hg1).trans hc1
  have hz1 : (be == 0) = false := by simpa using hz
  have hz2 : decide (be = 0) = false := decide_eq_false hz
  obtain ⟨g2, o2, rfl, hg2, a2, k2, hc2, hcode⟩ := hP.threads k ck hck
  have hkt := (List.getElem?_eq_some_iff.1 hck).1
  have htl := hP.tlen
  have s2 : S[6]? = some (.slice (some ⟨g2, o2, none⟩) p.threads.length tcap) := by rw [hS.eq]; rfl
  have c2 : (w.alloc (.cells S 72)).cell? ⟨w.heap.size, 6, none⟩ = some (.slice (some ⟨g2, o2, none⟩) p.threads.length tcap) := (cell_of_row _ _ _ _ _ _ (heap_alloc_new _ _)).trans s2
  have d2 : ∀ o, (w.alloc o).cell? ⟨g2, o2 + k, none⟩ = some (.slice a2 ck.length k2) := fun o => ((below_box w o).cell (p := ⟨g2, o2 + k, none⟩) hg2).trans hc2
  have h3 : decide ((ck.length : Int) ≤ (q : Int)) = false := decide_eq_false (by omega)
  have h3' : ¬ (ck.length : Int) ≤ (q : Int) := by omega
  have s3 : S[18]? = some (.int .i64 tp) := by rw [hS.eq]; rfl
  have c3 : (w.alloc (.cells S 72)).cell? ⟨w.heap.size, 18, none⟩ = some (.int .i64 tp) := (cell_of_row _ _ _ _ _ _ (heap_alloc_new _ _)).trans s3
  have ht1 : (tp == 1) = false := by simpa using ht
  have ht2 : decide (tp = 1) = false := decide_eq_false ht
  obtain ⟨g3, o3, rfl, hg3, i0, i1, i2, i3⟩ := hcode q x hx
  have HBl := Lib.hid (fun u (hB : Below w.heap.size w u) => blocked4_any S p ca ccap (some ⟨g2, o2, none⟩) tcap fv rs qs fl n c tp u hS (hR.later hB) (hP.later hB) hl hc x hF)
  have hSz : (Try.prog.info? 72).map (·.size) = some S.size := by rw [hS.eq]; exact info_S
  have hload : ∀ u : World, u.heap[w.heap.size]? = some (.cells S 72) → (loadVar 72 ⟨w.heap.size, 0, none⟩).run Try.prog u = .ok (.agg S) u := fun u hu => run_loadVar_row u w.heap.size _ _ S (0, 0) _ hu Try.underlying72 rfl hSz
  clear hS hR hP hF hcode e0 e1 s0 s1 s2 s3 hc0 hc1
  go_enter Try.func56, Try.ntmps56
  go_wp2_with fail
  go_quiet (fail)
  go_wp2_with fail
  generalize hW : World.drewN _ _ = W
  have hBW : Below w.heap.size w W := by rw [← hW]; exact below_draws (below_box _ _) _
  have hN : W.heap[w.heap.size]? = some (.cells S 72) := by rw [← hW]; exact heap_alloc_new _ _
  have y6 : W.cell? ⟨w.heap.size, 6, none⟩ = some (.slice (some ⟨g2, o2, none⟩) p.threads.length tcap) := by rw [← hW]; exact c2
  have y7 : W.cell? ⟨w.heap.size, 7, none⟩ = some (.slice (some ⟨g0, o0, none⟩) (fl 0).length k0) := by rw [← hW]; exact c0
  have z2 : W.cell? ⟨g2, o2 + k, none⟩ = some (.slice (some ⟨g3, o3, none⟩) ck.length k2) := by rw [← hW]; exact d2 _
  have z0 : W.cell? ⟨g0, o0 + k, none⟩ = some (.int .i64 (q : Int)) := by rw [← hW]; exact d0 _
  have j0 := (hBW.cell (p := ⟨g3, o3 + q * 4, none⟩) hg3).trans i0
  have j1 := (hBW.cell (p := ⟨g3, o3 + q * 4 + 1, none⟩) hg3).trans i1
  have j2 := (hBW.cell (p := ⟨g3, o3 + q * 4 + 2, none⟩) hg3).trans i2
  have j3 := (hBW.cell (p := ⟨g3, o3 + q * 4 + 3, none⟩) hg3).trans i3
  have KW : W.drew.heap[w.heap.size]? = some (.cells S 72) ∧ W.drew.cell? ⟨w.heap.size, 6, none⟩ = some (.slice (some ⟨g2, o2, none⟩) p.threads.length tcap) ∧ W.drew.cell? ⟨w.heap.size, 7, none⟩ = some (.slice (some ⟨g0, o0, none⟩) (fl 0).length k0) ∧ W.drew.cell? ⟨g2, o2 + k, none⟩ = some (.slice (some ⟨g3, o3, none⟩) ck.length k2) ∧ W.drew.cell? ⟨g0, o0 + k, none⟩ = some (.int .i64 (q : Int)) ∧ W.drew.cell? ⟨g3, o3 + q * 4, none⟩ = some (.int .u8 x.op) ∧ W.drew.cell? ⟨g3, o3 + q * 4 + 1, none⟩ = some (.int .i64 x.a) ∧ W.drew.cell? ⟨g3, o3 + q * 4 + 2, none⟩ = some (.int .i64 x.b) ∧ W.drew.cell? ⟨g3, o3 + q * 4 + 3, none⟩ = some (.int .i64 x.c) := ⟨hN, y6, y7, z2, z0, j0, j1, j2, j3⟩
  have HBW := Lib.hid hBW
  clear hW c0 c1 c2 c3 d0 d1 d2 i0 i1 i2 i3 hBW hN y6 y7 z2 z0 j0 j1 j2 j3
  refine wp_region_held_drew (S := (fun u => u.heap[w.heap.size]? = some (.cells S 72) ∧ u.cell? ⟨w.heap.size, 6, none⟩ = some (.slice (some ⟨g2, o2, none⟩) p.threads.length tcap) ∧ u.cell? ⟨w.heap.size, 7, none⟩ = some (.slice (some ⟨g0, o0, none⟩) (fl 0).length k0) ∧ u.cell? ⟨g2, o2 + k, none⟩ = some (.slice (some ⟨g3, o3, none⟩) ck.length k2) ∧ u.cell? ⟨g0, o0 + k, none⟩ = some (.int .i64 (q : Int)) ∧ u.cell? ⟨g3, o3 + q * 4, none⟩ = some (.int .u8 x.op) ∧ u.cell? ⟨g3, o3 + q * 4 + 1, none⟩ = some (.int .i64 x.a) ∧ u.cell? ⟨g3, o3 + q * 4 + 2, none⟩ = some (.int .i64 x.b) ∧ u.cell? ⟨g3, o3 + q * 4 + 3, none⟩ = some (.int .i64 x.c))) (by kernel_rfl) (KW) (fun hHeld => ?_)
  refine wpAnyH_take (i := 0) (oi := _) (v := .agg S) rfl (by kernel_rfl) (by kernel_rfl) (by kernel_rfl) (fun _ _ _ h => h) (Or.inl ⟨by rfl, ?_⟩) (by assumption) ?_
  · intro u hSw
    have hq := hload u hSw.1
    simp [execOp, Instr.loadAt, Instr.sureAddr, Act.eval, hq]
  (try simp only [zz0, zz1, zz2, Act.put, zz3, zz4, zz5])
  refine wpAnyH_take (i := 1) (oi := _) (v := ?_) rfl (by kernel_rfl) (by kernel_rfl) (by kernel_rfl) (fun _ _ _ h => h) (Or.inl ⟨by rfl, ?_⟩) (by assumption) ?_
  rotate_left
  · intro w hSw; obtain ⟨_, k6, k7, kt, ka, m0, m1, m2, m3⟩ := hSw; go_simp; try (with_reducible rfl)
  (try simp only [zz0, zz1, zz2, Act.put, zz3, zz4, zz5])
  refine wpAnyH_take (i := 2) (oi := _) (v := ?_) rfl (by kernel_rfl) (by kernel_rfl) (by kernel_rfl) (fun _ _ _ h => h) (Or.inl ⟨by rfl, ?_⟩) (by assumption) ?_
  rotate_left
  · intro w hSw; obtain ⟨_, k6, k7, kt, ka, m0, m1, m2, m3⟩ := hSw; go_simp; try (with_reducible rfl)
  (try simp only [zz0, zz1, zz2, Act.put, zz3, zz4, zz5])
  refine wpAnyH_take (i := 3) (oi := _) (v := ?_) rfl (by kernel_rfl) (by kernel_rfl) (by kernel_rfl) (fun _ _ _ h => h) (Or.inl ⟨by rfl, ?_⟩) (by assumption) ?_
  rotate_left
  · intro w hSw; obtain ⟨_, k6, k7, kt, ka, m0, m1, m2, m3⟩ := hSw; go_simp; try (with_reducible rfl)
  (try simp only [zz0, zz1, zz2, Act.put, zz3, zz4, zz5])
  refine wpAnyH_take (i := 4) (oi := _) (v := ?_) rfl (by kernel_rfl) (by kernel_rfl) (by kernel_rfl) (fun _ _ _ h => h) (Or.inl ⟨by rfl, ?_⟩) (by assumption) ?_
  rotate_left
  · intro w hSw; obtain ⟨_, k6, k7, kt, ka, m0, m1, m2, m3⟩ := hSw; go_simp; try (with_reducible rfl)
  (try simp only [zz0, zz1, zz2, Act.put, zz3, zz4, zz5])
  refine wpAnyH_take (i := 5) (oi := _) (v := ?_) rfl (by kernel_rfl) (by kernel_rfl) (by kernel_rfl) (fun _ _ _ h => h) (Or.inl ⟨by rfl, ?_⟩) (by assumption) ?_
  rotate_left
  · intro w hSw; obtain ⟨_, k6, k7, kt, ka, m0, m1, m2, m3⟩ := hSw; go_simp; try (with_reducible rfl)
  (try simp only [zz0, zz1, zz2, Act.put, zz3, zz4, zz5])
  refine wpAnyH_take (i := 6) (oi := _) (v := ?_) rfl (by kernel_rfl) (by kernel_rfl) (by kernel_rfl) (fun _ _ _ h => h) (Or.inl ⟨by rfl, ?_⟩) (by assumption) ?_
  rotate_left
  · intro w hSw; obtain ⟨_, k6, k7, kt, ka, m0, m1, m2, m3⟩ := hSw; go_simp; try (with_reducible rfl)
  (try simp only [zz0, zz1, zz2, Act.put, zz3, zz4, zz5])
  refine wpAnyH_take (i := 7) (oi := _) (v := ?_) rfl (by kernel_rfl) (by kernel_rfl) (by kernel_rfl) (fun _ _ _ h => h) (Or.inl ⟨by rfl, ?_⟩) (by assumption) ?_
  rotate_left
  · intro w hSw; obtain ⟨_, k6, k7, kt, ka, m0, m1, m2, m3⟩ := hSw; go_simp; try (with_reducible rfl)
  (try simp only [zz0, zz1, zz2, Act.put, zz3, zz4, zz5])
  refine wpAnyH_take (i := 8) (oi := _) (v := ?_) rfl (by kernel_rfl) (by kernel_rfl) (by kernel_rfl) (fun _ _ _ h => h) (Or.inl ⟨by rfl, ?_⟩) (by assumption) ?_
  rotate_left
  · intro w hSw; obtain ⟨_, k6, k7, kt, ka, m0, m1, m2, m3⟩ := hSw; go_simp; try (with_reducible rfl)
  (try simp only [zz0, zz1, zz2, Act.put, zz3, zz4, zz5])
  refine wpAnyH_take (i := 9) (oi := _) (v := ?_) rfl (by kernel_rfl) (by kernel_rfl) (by kernel_rfl) (fun _ _ _ h => h) (Or.inl ⟨by rfl, ?_⟩) (by assumption) ?_
  rotate_left
  · intro w hSw; obtain ⟨_, k6, k7, kt, ka, m0, m1, m2, m3⟩ := hSw; go_simp; try (with_reducible rfl)
  (try simp only [zz0, zz1, zz2, Act.put, zz3, zz4, zz5])
  refine wpAnyH_take (i := 10) (oi := _) (v := ?_) rfl (by kernel_rfl) (by kernel_rfl) (by kernel_rfl) (fun _ _ _ h => h) (Or.inl ⟨by rfl, ?_⟩) (by assumption) ?_
  rotate_left
  · intro w hSw; obtain ⟨_, k6, k7, kt, ka, m0, m1, m2, m3⟩ := hSw; go_simp; try (with_reducible rfl)
  (try simp only [zz0, zz1, zz2, Act.put, zz3, zz4, zz5])
  refine wpAnyH_take (i := 11) (oi := _) (v := ?_) rfl (by kernel_rfl) (by kernel_rfl) (by kernel_rfl) (fun _ _ _ h => h) (Or.inl ⟨by rfl, ?_⟩) (by assumption) ?_
  rotate_left
  · intro w hSw; obtain ⟨_, k6, k7, kt, ka, m0, m1, m2, m3⟩ := hSw; go_simp; try (with_reducible rfl)
  (try simp only [zz0, zz1, zz2, Act.put, zz3, zz4, zz5])
  refine wpAnyH_take (i := 12) (oi := _) (v := ?_) rfl (by kernel_rfl) (by kernel_rfl) (by kernel_rfl) (fun _ _ _ h => h) (Or.inl ⟨by rfl, ?_⟩) (by assumption) ?_
  rotate_left
  · intro w hSw; obtain ⟨_, k6, k7, kt, ka, m0, m1, m2, m3⟩ := hSw; go_simp; try (with_reducible rfl)
  (try simp only [zz0, zz1, zz2, Act.put, zz3, zz4, zz5])
  refine wpAnyH_take (i := 13) (oi := _) (v := ?_) rfl (by kernel_rfl) (by kernel_rfl) (by kernel_rfl) (fun _ _ _ h => h) (Or.inl ⟨by rfl, ?_⟩) (by assumption) ?_
  rotate_left
  · intro w hSw; obtain ⟨_, k6, k7, kt, ka, m0, m1, m2, m3⟩ := hSw; go_simp; try (with_reducible rfl)
  (try simp only [zz0, zz1, zz2, Act.put, zz3, zz4, zz5])
  refine wpAnyH_ready (rs := [14]) (by kernel_rfl) (by simp) ?_
  refine AllReadyH.cons (o := _) rfl (fun K hK => ?_) AllReadyH.nil
  rw [if_pos (by rfl)]
  go_simp
  refine (HBl.out _ HBW.out.drew).mono ?_
  rintro e w2 ⟨rfl, hB2⟩
  refine hK.out _ _ (keep9 KW hB2) (fun hHeld => ?_)
  clear hK K
  (try simp only [zz0, zz1, zz2, Act.put, zz3, zz4, zz5])
  refine wpAnyH_take (i := 15) (oi := _) (v := ?_) rfl (by kernel_rfl) (by kernel_rfl) (by kernel_rfl) (fun _ _ _ h => h) (Or.inl ⟨by rfl, ?_⟩) (by assumption) ?_
  rotate_left
  · intro w hSw; clear hSw; go_simp; try (with_reducible rfl)
  (try simp only [zz0, zz1, zz2, Act.put, zz3, zz4, zz5])
  refine wpAnyH_take (i := 16) (oi := _) (v := ?_) rfl (by kernel_rfl) (by kernel_rfl) (by kernel_rfl) (fun _ _ _ h => h) (Or.inl ⟨by rfl, ?_⟩) (by assumption) ?_
  rotate_left
  · intro w hSw; clear hSw; go_simp; try (with_reducible rfl)
  (try simp only [zz0, zz1, zz2, Act.put, zz3, zz4, zz5])
  refine wpAnyH_done (by kernel_rfl) ?_ _
  go_wp2
  go_ret
  exact ⟨rfl, below_next HBW.out.drew hB2⟩
/-- What an instruction of a sound program names, by the program's own sizes. -/
def InsFitP (p : ProgD) (n : Nat) (x : InsD) : Prop := match x.op with
  | 0 => True
  | 1 => Fit 4 x.a
  | 2 => Fit 4 x.a ∧ Fit 4 x.b
  | 3 => Fit 4 x.a ∧ Fit 4 x.b ∧ Fit 4 x.c
  | 4 => Fit 4 x.a ∧ Fit 4 x.b ∧ Fit 4 x.c
  | 5 => Fit 4 x.a ∧ Fit 4 x.b ∧ Fit 4 x.c
  | 6 => Fit 4 x.a ∧ Fit 4 x.b ∧ Fit 4 x.c
  | 7 => Fit 4 x.a ∧ Fit p.vars.toNat x.b
  | 8 => Fit p.vars.toNat x.a ∧ Fit 4 x.b
  | 9 => Fit 4 x.a
  | 10 => Fit (n + 1) x.a
  | 11 => Fit 4 x.a ∧ Fit (n + 1) x.b
  | 12 => Fit p.threads.length x.a
  | 13 => Fit p.locks.toNat x.a
  | 14 => Fit p.locks.toNat x.a
  | 15 => Fit p.locks.toNat x.a
  | 16 => Fit p.locks.toNat x.a
  | 17 => Fit 4 x.a ∧ Fit p.atoms.toNat x.b
  | 18 => Fit p.atoms.toNat x.a ∧ Fit 4 x.b
  | 19 => Fit 4 x.a ∧ Fit p.atoms.toNat x.b ∧ Fit 4 x.c
  | 20 => Fit p.chans.length x.a ∧ Fit 4 x.b
  | 21 => Fit 4 x.a ∧ Fit p.chans.length x.b
  | 22 => Fit 4 x.a ∧ Fit p.chans.length x.b ∧ Fit 4 x.c
  | 23 => Fit p.chans.length x.a
  | 24 => Fit p.groups.toNat x.a
  | 25 => Fit p.groups.toNat x.a
  | 26 => Fit 4 x.a ∧ Fit p.onces.toNat x.b
  | 27 => Fit p.onces.toNat x.a
  | _ => False
theorem insFitP_of {p : ProgD} {n : Nat} {x : InsD} (hs : sizesB p = true) (h : insE p n x = 0) : InsFitP p n x := by
  have hq := sizes_parts hs
  obtain ⟨op, a, b, c⟩ := x
  have hk : knownB ⟨op, a, b, c⟩ = true := by
    rcases hb : knownB ⟨op, a, b, c⟩ with _ | _
    · simp [insE, hb, firstE, unE] at h
    · rfl
  have hf : fitsB p n ⟨op, a, b, c⟩ = true := by
    rcases hb : fitsB p n ⟨op, a, b, c⟩ with _ | _
    · simp [insE, hk, hb, firstE, unE] at h
    · rfl
  clear h
  have hop : op < 28 := by simp [knownB] at hk; exact hk.2
  clear hk
  have key : ∀ op, op < 28 → fitsB p n ⟨op, a, b, c⟩ = true → InsFitP p n ⟨op, a, b, c⟩ := by
    intro op hop hf
    simp only [fitsB, fitB] at hf
    match op, hop with
    | 0, _ | 1, _ | 2, _ | 3, _ | 4, _ | 5, _ | 6, _ | 7, _ | 8, _ | 9, _ | 10, _ | 11, _ | 12, _ | 13, _ | 14, _ | 15, _ | 16, _ | 17, _ | 18, _ | 19, _ | 20, _ | 21, _ | 22, _ | 23, _ | 24, _ | 25, _ | 26, _ | 27, _ =>
      simp [rowAt, tab, Row.at, InsD.at, canL, canB, wiB] at hf
      simp only [InsFitP]
      all_goals first
        | trivial
        | exact fit_of (by omega) (by omega)
        | exact ⟨fit_of (by omega) (by omega), fit_of (by omega) (by omega)⟩
        | exact ⟨fit_of (by omega) (by omega), fit_of (by omega) (by omega), fit_of (by omega) (by omega)⟩
    | (k + 28), h => omega
  exact key op hop hf
/-- The rows of the document's state, by the numbers of the program's own. -/
def flM (p : ProgD) (m : Nat → Int) (told : List Int) (i : Nat) : List Int :=
  if i = 0 then (List.range p.threads.length).map (fun k => m (1 + k * 6 + 1))
  else if i = 1 then (List.range p.threads.length).map (fun k => bitN (m (1 + k * 6) == 1))
  else if i = 2 then (List.range p.vars.toNat).map (fun j => m (37 + j))
  else if i = 3 then (List.range p.atoms.toNat).map (fun j => m (45 + j))
  else if i = 4 then (List.range p.locks.toNat).map (fun j => if m (49 + j * 2) == 1 then -1 else m (49 + j * 2 + 1))
  else if i = 5 then (List.range p.chans.length).map (fun j => bitN (m (57 + j * 6 + 5) == 1))
  else if i = 6 then (List.range p.groups.toNat).map (fun j => m (81 + j))
  else if i = 7 then (List.range p.onces.toNat).map (fun j => m (85 + j))
  else if i = 8 then told
  else if i < 15 then (if i < 9 + p.threads.length then (List.range 4).map (fun r => m (rg (i - 9) r)) else [])
  else if i < 15 + p.chans.length then (List.range (m (57 + (i - 15) * 6 + 3)).toNat).map (fun j => m (57 + (i - 15) * 6 + j)) else []
theorem map_at {α : Type} {n k : Nat} (f : Nat → α) (h : k < n) : ((List.range n).map f)[k]? = some (f k) := by
  rw [List.getElem?_map, List.getElem?_range h]; rfl
theorem fitF_of {p : ProgD} {n : Nat} {x : InsD} {m : Nat → Int} {told : List Int} (h : InsFitP p n x) : FitF (flM p m told) p.chans.length p x := by
  obtain ⟨op, a, b, c⟩ := x
  refine ⟨?_, ?_, ?_, ?_, ?_⟩
  · rintro (rfl | rfl)
    · obtain ⟨A, h1, h2⟩ := h; exact ⟨A, h1, by simpa [flM] using h2⟩
    · obtain ⟨A, h1, h2⟩ := h; exact ⟨A, h1, by simpa [flM] using h2⟩
  · rintro rfl
    obtain ⟨⟨A, h1, h2⟩, _⟩ := h; exact ⟨A, h1, by simpa [flM] using h2, h2, h2⟩
  · rintro rfl
    obtain ⟨_, ⟨A, h1, h2⟩⟩ := h; exact ⟨A, h1, by simpa [flM] using h2, h2⟩
  · rintro rfl
    obtain ⟨A, h1, h2⟩ := h; exact ⟨A, h1, by simpa [flM] using h2⟩
  · rintro rfl
    obtain ⟨_, ⟨A, h1, h2⟩⟩ := h; exact ⟨A, h1, by simpa [flM] using h2⟩
/-- What else holds of a state's numbers: the rooms of channels, and no reader too few. -/
structure InvR (p : ProgD) (m : Nat → Int) : Prop where
  room : ∀ c x, p.chans[c]? = some x → m (57 + c * 6 + 4) = x
  read : ∀ l, l < 4 → 0 ≤ m (49 + l * 2 + 1)
  size : p.locks ≤ 4 ∧ p.chans.length ≤ 4
theorem bit_zero (b : Bool) : (bitN b == 0) = !b := by cases b <;> rfl
theorem blockedF_M {p : ProgD} {n : Nat} {x : InsD} {m : Nat → Int} {told : List Int} {code : List (List InsD)} (h : InsFitP p n x) (I : Inv m code) (R : InvR p m) : blockedF (flM p m told) p.chans x = blockedM m x := by
  obtain ⟨op, a, b, c⟩ := x
  have hsz := R.size
  unfold blockedF blockedM
  by_cases h13 : op = 13
  · subst h13
    obtain ⟨A, rfl, h2⟩ := h
    have e : (flM p m told 4)[A]? = some (if m (49 + A * 2) == 1 then -1 else m (49 + A * 2 + 1)) := map_at _ h2
    simp only [Int.toNat_natCast, e, Option.getD_some, if_true]
    rcases hb : m (49 + A * 2) == 1 with _ | _
    · simp [bne]
    · simp
  by_cases h15 : op = 15
  · subst h15
    obtain ⟨A, rfl, h2⟩ := h
    have e : (flM p m told 4)[A]? = some (if m (49 + A * 2) == 1 then -1 else m (49 + A * 2 + 1)) := map_at _ h2
    simp only [Int.toNat_natCast, e, Option.getD_some, if_true]
    rcases hb : m (49 + A * 2) == 1 with _ | _
    · have := R.read A (by omega)
      simp; omega
    · simp
  by_cases h20 : op = 20
  · subst h20
    obtain ⟨⟨A, rfl, h2⟩, _⟩ := h
    obtain ⟨ch, hch⟩ := at_lt h2
    have e : (flM p m told 5)[A]? = some (bitN (m (57 + A * 6 + 5) == 1)) := map_at _ h2
    have hA : A < 4 := by omega
    have e2 : (flM p m told (15 + A)).length = (m (57 + A * 6 + 3)).toNat := by
      unfold flM
      rw [if_neg (by omega), if_neg (by omega), if_neg (by omega), if_neg (by omega), if_neg (by omega), if_neg (by omega), if_neg (by omega), if_neg (by omega), if_neg (by omega), if_neg (by omega), if_pos (by omega)]
      simp
    have hc := I.chan A hA
    have hr := R.room A ch hch
    simp only [Int.toNat_natCast, e, e2, hch, Option.getD_some, bit_zero, hr]
    rw [show ((m (57 + A * 6 + 3)).toNat : Int) = m (57 + A * 6 + 3) by omega]
    simp [Bool.and_comm]
  by_cases h21 : op = 21
  · subst h21
    obtain ⟨_, ⟨A, rfl, h2⟩⟩ := h
    have e : (flM p m told 5)[A]? = some (bitN (m (57 + A * 6 + 5) == 1)) := map_at _ h2
    have hA : A < 4 := by omega
    have e2 : (flM p m told (15 + A)).length = (m (57 + A * 6 + 3)).toNat := by
      unfold flM
      rw [if_neg (by omega), if_neg (by omega), if_neg (by omega), if_neg (by omega), if_neg (by omega), if_neg (by omega), if_neg (by omega), if_neg (by omega), if_neg (by omega), if_neg (by omega), if_pos (by omega)]
      simp
    have hc := I.chan A hA
    simp only [Int.toNat_natCast, e, e2, Option.getD_some, bit_zero]
    rw [show ((m (57 + A * 6 + 3)).toNat : Int) = m (57 + A * 6 + 3) by omega]
    simp [Bool.and_comm]
  by_cases h25 : op = 25
  · subst h25
    obtain ⟨A, rfl, h2⟩ := h
    have e : (flM p m told 6)[A]? = some (m (81 + A)) := map_at _ h2
    simp [e]
  by_cases h26 : op = 26
  · subst h26
    obtain ⟨_, ⟨A, rfl, h2⟩⟩ := h
    have e : (flM p m told 7)[A]? = some (m (85 + A)) := map_at _ h2
    simp [e]
  rw [if_neg (show ¬ (InsD.mk op a b c).op = 13 from h13), if_neg (show ¬ (InsD.mk op a b c).op = 15 from h15), if_neg (show ¬ (InsD.mk op a b c).op = 20 from h20), if_neg (show ¬ (InsD.mk op a b c).op = 21 from h21), if_neg (show ¬ (InsD.mk op a b c).op = 25 from h25), if_neg (show ¬ (InsD.mk op a b c).op = 26 from h26)]
  split <;> first | rfl | (rename_i h; exact absurd h (by assumption))
theorem flM_len {p : ProgD} {m : Nat → Int} {told : List Int} (ht : told.length ≤ 1000000) (h1 : p.threads.length ≤ 6) (h2 : p.vars ≤ 8 ∧ p.atoms ≤ 4 ∧ p.locks ≤ 4 ∧ p.chans.length ≤ 4 ∧ p.groups ≤ 4 ∧ p.onces ≤ 4) (hq : ∀ c, c < 4 → m (57 + c * 6 + 3) ≤ 3) (i : Nat) : (flM p m told i).length ≤ 1000000 := by
  unfold flM
  by_cases c0 : i = 0
  · rw [if_pos c0, List.length_map, List.length_range]; omega
  rw [if_neg c0]
  by_cases c1 : i = 1
  · rw [if_pos c1, List.length_map, List.length_range]; omega
  rw [if_neg c1]
  by_cases c2 : i = 2
  · rw [if_pos c2, List.length_map, List.length_range]; omega
  rw [if_neg c2]
  by_cases c3 : i = 3
  · rw [if_pos c3, List.length_map, List.length_range]; omega
  rw [if_neg c3]
  by_cases c4 : i = 4
  · rw [if_pos c4, List.length_map, List.length_range]; omega
  rw [if_neg c4]
  by_cases c5 : i = 5
  · rw [if_pos c5, List.length_map, List.length_range]; omega
  rw [if_neg c5]
  by_cases c6 : i = 6
  · rw [if_pos c6, List.length_map, List.length_range]; omega
  rw [if_neg c6]
  by_cases c7 : i = 7
  · rw [if_pos c7, List.length_map, List.length_range]; omega
  rw [if_neg c7]
  by_cases c8 : i = 8
  · rw [if_pos c8]; exact ht
  rw [if_neg c8]
  by_cases c15 : i < 15
  · rw [if_pos c15]
    by_cases d : i < 9 + p.threads.length
    · rw [if_pos d, List.length_map, List.length_range]; omega
    · rw [if_neg d]; exact Nat.zero_le _
  rw [if_neg c15]
  by_cases d : i < 15 + p.chans.length
  · have := hq (i - 15) (by omega)
    rw [if_pos d, List.length_map, List.length_range]; omega
  · rw [if_neg d]; exact Nat.zero_le _
/-- Can, of the document's: what the program's own Can says. -/
theorem can4_any (S : Array Value) (p : ProgD) (ca : Option Addr) (ccap : Nat) (ta : Option Addr) (tcap : Nat) (fv : Nat → Value) (rs qs : Value) (m : Nat → Int) (told : List Int) (w : World) (hS : SV S p ca ccap ta tcap fv rs qs (bitN (m 90 == 1))) (hR : Rf w fv rs qs (flM p m told) p.threads.length p.chans.length) (hP : ProgIn w w.heap.size p ca ta) (hs : soundE p = 0) (I : Inv m p.threads) (R : InvR p m) (ht : told.length ≤ 1000000) (k : Int) :
    Calls Try.prog 56 #[.agg S, .int .i64 k] w fun e w' => e = .returned (.bool (canM p.threads m k)) ∧ Below w.heap.size w w' := by
  obtain ⟨h1, h2, h3⟩ := sound_parts hs
  have hq := sizes_parts h1
  have hl := flM_len (p := p) (m := m) ht hq.2.2.2.2.2.2.1.2 (by omega) (fun c hc => by have := I.chan c hc; omega)
  have e0 : (flM p m told 0).length = p.threads.length := by simp [flM]
  by_cases hk0 : k < 0
  · have e : canM p.threads m k = false := canM_far (.inl hk0)
    rw [e]; exact can4_neg S p ca ccap ta tcap fv rs qs _ _ _ _ w hS hR hP hl k hk0
  by_cases hk1 : (p.threads.length : Int) ≤ k
  · have e : canM p.threads m k = false := canM_far (.inr hk1)
    rw [e]; exact can4_far S p ca ccap ta tcap fv rs qs _ _ _ _ w hS hR hP hl k (by omega) (by rw [e0]; exact hk1)
  obtain ⟨j, rfl⟩ := Int.eq_ofNat_of_zero_le (show 0 ≤ k by omega)
  have hj : j < p.threads.length := by omega
  obtain ⟨ck, hck⟩ := at_lt hj
  have hat : (flM p m told 0)[j]? = some (m (1 + j * 6 + 1)) := map_at _ hj
  have hbe : (flM p m told 1)[j]? = some (bitN (m (1 + j * 6) == 1)) := map_at _ hj
  have hasj : hasT p.threads.length (j : Int) = true := by simp [hasT]; omega
  obtain ⟨q, hqm, hqc⟩ := I.pc j ck hck
  rcases hon : (m (1 + j * 6) == 1) with _ | _
  · have e : canM p.threads m j = false := by simp [canM, canK, hon]
    rw [hon] at hbe
    rw [e]; exact can4_off S p ca ccap ta tcap fv rs qs _ _ _ _ w hS hR hP hl j _ _ hat hbe rfl
  rw [hon] at hbe
  rw [hqm] at hat
  by_cases hend : q < ck.length
  · obtain ⟨x, hx⟩ := at_lt hend
    have hins : insM p.threads m j = some x := by simp [insM, hck, hqm, hx]
    rcases htr : (m 90 == 1) with _ | _
    · rw [htr] at hS
      have hfit : InsFitP p ck.length x := by
        refine insFitP_of h1 ?_
        have h4 := firstE_zero h3 (codeE p ck) (List.mem_map.2 ⟨ck, List.mem_of_getElem? hck, rfl⟩)
        exact firstE_zero h4 _ (List.mem_map.2 ⟨x, List.mem_of_getElem? hx, rfl⟩)
      have e : canM p.threads m j = !blockedM m x := by simp [canM, canK, hasj, hon, hins, htr]
      rw [e, ← blockedF_M (told := told) hfit I R]
      exact can4_yes S p ca ccap ta tcap fv rs qs _ _ _ _ w hS hR hP hl (by omega) j q _ hat hbe (by decide) ck hck (by decide) x hx (by have := (hq.2.2.2.2.2.2.2 ck (List.mem_of_getElem? hck)); omega) (fitF_of hfit)
    · rw [htr] at hS
      have e : canM p.threads m j = false := by simp [canM, canK, hins, htr]
      rw [e]; exact can4_trap S p ca ccap ta tcap fv rs qs _ _ _ _ w hS hR hP hl j _ _ hat hbe (by decide) ck hck (by omega) rfl
  · have hins : insM p.threads m j = none := by simp [insM, hck, hqm]; omega
    have e : canM p.threads m j = false := by simp [canM, canK, hins]
    rw [e]; exact can4_end S p ca ccap ta tcap fv rs qs _ _ _ _ w hS hR hP hl j _ _ hat hbe (by decide) ck hck (by omega)
theorem status4_trap (S : Array Value) (w : World) (hS : S[18]? = some (.int .i64 1)) :
    Calls Try.prog 37 #[.agg S] w fun e w' => e = .returned (.int .u8 3) ∧ Below w.heap.size w w' := by
  have c : (w.alloc (.cells S 72)).cell? ⟨w.heap.size, 18, none⟩ = some (.int .i64 1) := (cell_of_row _ _ _ _ _ _ (heap_alloc_new _ _)).trans hS
  go_enter Try.func37, Try.ntmps37
  go_wp2
  go_ret
  exact ⟨rfl, below_box _ _⟩
theorem status4_runs (S : Array Value) (p : ProgD) (ca : Option Addr) (ccap : Nat) (ta : Option Addr) (tcap : Nat) (fv : Nat → Value) (rs qs : Value) (m : Nat → Int) (told : List Int) (w : World) (hS : SV S p ca ccap ta tcap fv rs qs (bitN (m 90 == 1))) (hR : Rf w fv rs qs (flM p m told) p.threads.length p.chans.length) (hP : ProgIn w w.heap.size p ca ta) (hs : soundE p = 0) (I : Inv m p.threads) (R : InvR p m) (ht : told.length ≤ 1000000) (htr : (m 90 == 1) = false) :
    Calls Try.prog 37 #[.agg S] w fun e w' => e = .returned (.int .u8 (statusM p.threads m)) ∧ Below w.heap.size w w' := by
  have hn6 := (sizes_parts (sound_parts hs).1).2.2.2.2.2.2.1.2
  have hn60 := (sizes_parts (sound_parts hs).1).2.2.2.2.2.2.2
  have HCan := Lib.hid (fun u (hB : Below w.heap.size w u) (k : Int) => can4_any S p ca ccap ta tcap fv rs qs m told u hS (hR.later hB) (hP.later hB) hs I R ht k)
  have hSz : (Try.prog.info? 72).map (·.size) = some S.size := by rw [hS.eq]; exact info_S
  have s18 : S[18]? = some (.int .i64 0) := by rw [hS.eq, htr]; rfl
  obtain ⟨a0, k0, e0, r0⟩ := hR.row 0
  obtain ⟨a1, k1, e1, r1⟩ := hR.row 1
  have l0 : (flM p m told 0).length = p.threads.length := by simp [flM]
  have l1 : (flM p m told 1).length = p.threads.length := by simp [flM]
  rw [l0] at e0
  rw [l1] at e1
  have s7 : S[7]? = some (.slice a0 p.threads.length k0) := by rw [← e0, hS.eq]; rfl
  have s8 : S[8]? = some (.slice a1 p.threads.length k1) := by rw [← e1, hS.eq]; rfl
  have s6 : S[6]? = some (.slice ta p.threads.length tcap) := by rw [hS.eq]; rfl
  have H6 := Lib.hid s6
  have H7 := Lib.hid s7
  have H8 := Lib.hid s8
  have HR0 := Lib.hid r0
  have HR1 := Lib.hid r1
  have HI := Lib.hid I
  have HP := Lib.hid hP
  have H60 := Lib.hid hn60
  have HTr := Lib.hid htr
  have c18 : (w.alloc (.cells S 72)).cell? ⟨w.heap.size, 18, none⟩ = some (.int .i64 0) := (cell_of_row _ _ _ _ _ _ (heap_alloc_new _ _)).trans s18
  clear hS hR hP I R s18 s6 s7 s8 r0 r1 e0 e1 l0 l1 hn60 htr hs
  go_enter Try.func37, Try.ntmps37
  go_wp2_with fail
  generalize hW : World.alloc w _ = W at *
  have HB : Hid (Below w.heap.size w W) := Lib.hid (by rw [← hW]; exact below_box _ _)
  have HN : Hid (W.heap[w.heap.size]? = some (.cells S 72)) := Lib.hid (by rw [← hW]; exact heap_alloc_new _ _)
  clear hW c18
  go_loopw [3, 4] (fun en i wr => ∃ j : Nat, j ≤ p.threads.length ∧ i = .int .i64 j ∧ en = .bool (!goesTo p.threads m j) ∧ Below W.heap.size W wr ∧ Hid (canTo p.threads m j = false)) (fun _ i _ => p.threads.length - (intOf i).toNat)
  case atStart => exact ⟨0, Nat.zero_le _, rfl, rfl, Below.refl _ _, Lib.hid rfl⟩
  case round =>
    obtain ⟨j, hj, rfl, rfl, hB, HZ⟩ := hrel
    have HBx := Lib.hid (old_later HN.out hB)
    have c7 := (cell_of_row _ _ 7 _ _ _ HBx.out).trans H7.out
    by_cases hlt : j < p.threads.length
    · have HC := Lib.hid (HCan.out wr (below_next HB.out hB) (j : Int))
      rcases hcan : canM p.threads m j with _ | _
      · rw [hcan] at HC
        have HCa := Lib.hid hcan
        clear hcan
        generalize hgo : goesTo p.threads m j = gk
        have HGo := Lib.hid hgo
        clear hgo
        obtain ⟨ck, hck⟩ := at_lt hlt
        obtain ⟨q, hqm, hqc⟩ := HI.out.pc j ck hck
        have h60 := H60.out ck (List.mem_of_getElem? hck)
        have hat : (flM p m told 0)[j]? = some (m (1 + j * 6 + 1)) := map_at _ hlt
        rw [hqm] at hat
        have hbe : (flM p m told 1)[j]? = some (bitN (m (1 + j * 6) == 1)) := map_at _ hlt
        obtain ⟨g0, o0, rfl, hg0, hc0⟩ := HR0.out j _ hat
        obtain ⟨g1, o1, rfl, hg1, hc1⟩ := HR1.out j _ hbe
        obtain ⟨g2, o2, rfl, hg2, a2, k2, hc2, _⟩ := HP.out.threads j ck hck
        have hBw := below_next HB.out hB
        have HG : ∀ (b : Bool), (m (1 + j * 6) == 1) = b → goesM p.threads m j = (b && decide (q < ck.length)) := fun b hb => by
          simp only [goesM, insM, hck, Option.bind_some, hqm, Int.toNat_natCast, hb]
          congr 1
          by_cases h : q < ck.length
          · rw [List.getElem?_eq_getElem h]; simp [h]
          · rw [List.getElem?_eq_none (by omega)]; simp [h]
        have HGM := Lib.hid HG
        have HW : Hid (∀ u, Below wr.heap.size wr u → u.cell? ⟨w.heap.size, 6, none⟩ = some (.slice (some ⟨g2, o2, none⟩) p.threads.length tcap) ∧ u.cell? ⟨w.heap.size, 7, none⟩ = some (.slice (some ⟨g0, o0, none⟩) p.threads.length k0) ∧ u.cell? ⟨w.heap.size, 8, none⟩ = some (.slice (some ⟨g1, o1, none⟩) p.threads.length k1) ∧ u.cell? ⟨g2, o2 + j, none⟩ = some (.slice a2 ck.length k2) ∧ u.cell? ⟨g0, o0 + j, none⟩ = some (.int .i64 (q : Int)) ∧ u.cell? ⟨g1, o1 + j, none⟩ = some (.int .i64 (bitN (m (1 + j * 6) == 1)))) := Lib.hid (fun u hu => by
          have hx := old_later HBx.out hu
          have hy := below_next hBw hu
          exact ⟨(cell_of_row _ _ 6 _ _ _ hx).trans H6.out, (cell_of_row _ _ 7 _ _ _ hx).trans H7.out, (cell_of_row _ _ 8 _ _ _ hx).trans H8.out, (hy.cell (p := ⟨g2, o2 + j, none⟩) hg2).trans hc2, (hy.cell (p := ⟨g0, o0 + j, none⟩) hg0).trans hc0, (hy.cell (p := ⟨g1, o1 + j, none⟩) hg1).trans hc1⟩)
        have htl : p.threads.length ≤ 9223372036854775807 := by omega
        clear hat hbe hc0 hc1 hc2 hBw HG hqm hck hqc
        rcases hon : (m (1 + j * 6) == 1) with _ | _
        · rw [hon] at HW
          have HM := Lib.hid (HGM.out false hon)
          clear hon
          go_wp2_with (first
            | (go_at_call 56; refine HC.out.mono ?_; rintro e w1 ⟨rfl, hB1⟩; obtain ⟨y6, y7, y8, z2, z0, z1⟩ := HW.out w1 hB1; simp only [bitN, Bool.false_eq_true, if_false] at z1; have HB1 := Lib.hid hB1; clear hB1)
            | (refine wpList_load_row rfl 72 (.tmp 1) rfl w.heap.size rfl 72 S (0, 0) _ HBx.out Try.underlying72 rfl hSz ?_))
          go_quiet (fail)
          go_wp2
          go_roundw
          case rel => exact ⟨j + 1, by omega, by go_num, by rw [goesTo_succ, HGo.out, HM.out]; simp, below_draws (below_next hB HB1.out) _, Lib.hid (by rw [canTo_succ, HZ.out, HCa.out]; rfl)⟩
          case measure => simp [intOf]; omega
        · rw [hon] at HW
          have HM := Lib.hid (HGM.out true hon)
          clear hon
          by_cases hql : q < ck.length
          · have hd : decide ((q : Int) < (ck.length : Int)) = true := decide_eq_true (by omega)
            go_wp2_with (first
              | (go_at_call 56; refine HC.out.mono ?_; rintro e w1 ⟨rfl, hB1⟩; obtain ⟨y6, y7, y8, z2, z0, z1⟩ := HW.out w1 hB1; simp only [bitN, if_true] at z1; have HB1 := Lib.hid hB1; clear hB1)
              | (refine wpList_load_row rfl 72 (.tmp 1) rfl w.heap.size rfl 72 S (0, 0) _ HBx.out Try.underlying72 rfl hSz ?_))
            go_quiet (fail)
            go_wp2
            go_roundw
            case rel => exact ⟨j + 1, by omega, by go_num, by rw [goesTo_succ, HGo.out, HM.out]; simp [hql], below_draws (below_next hB HB1.out) _, Lib.hid (by rw [canTo_succ, HZ.out, HCa.out]; rfl)⟩
            case measure => simp [intOf]; omega
          · have hd : decide ((q : Int) < (ck.length : Int)) = false := decide_eq_false (by omega)
            go_wp2_with (first
              | (go_at_call 56; refine HC.out.mono ?_; rintro e w1 ⟨rfl, hB1⟩; obtain ⟨y6, y7, y8, z2, z0, z1⟩ := HW.out w1 hB1; simp only [bitN, if_true] at z1; have HB1 := Lib.hid hB1; clear hB1)
              | (refine wpList_load_row rfl 72 (.tmp 1) rfl w.heap.size rfl 72 S (0, 0) _ HBx.out Try.underlying72 rfl hSz ?_))
            go_quiet (fail)
            go_wp2
            go_roundw
            case rel => exact ⟨j + 1, by omega, by go_num, by rw [goesTo_succ, HGo.out, HM.out]; simp [hql], below_draws (below_next hB HB1.out) _, Lib.hid (by rw [canTo_succ, HZ.out, HCa.out]; rfl)⟩
            case measure => simp [intOf]; omega
      · rw [hcan] at HC
        have HCa := Lib.hid (canTo_at hlt hcan)
        clear hcan
        go_wp2_with (first
          | (go_at_call 56; refine HC.out.mono ?_; rintro e w1 ⟨rfl, hB1⟩)
          | (refine wpList_load_row rfl 72 (.tmp 1) rfl w.heap.size rfl 72 S (0, 0) _ HBx.out Try.underlying72 rfl hSz ?_))
        go_ret
        exact ⟨by simp [statusM, HTr.out, HCa.out], below_next HB.out (below_next hB hB1)⟩
    · obtain rfl : j = p.threads.length := by omega
      generalize hgo : goesTo p.threads m p.threads.length = gk
      have HGo := Lib.hid hgo
      clear hgo
      rcases gk with _ | _
      all_goals
        go_wp2
        go_ret
        exact ⟨by simp [statusM, HTr.out, HZ.out, HGo.out, goesN], below_next HB.out hB⟩
theorem status4_any (S : Array Value) (p : ProgD) (ca : Option Addr) (ccap : Nat) (ta : Option Addr) (tcap : Nat) (fv : Nat → Value) (rs qs : Value) (m : Nat → Int) (told : List Int) (w : World) (hS : SV S p ca ccap ta tcap fv rs qs (bitN (m 90 == 1))) (hR : Rf w fv rs qs (flM p m told) p.threads.length p.chans.length) (hP : ProgIn w w.heap.size p ca ta) (hs : soundE p = 0) (I : Inv m p.threads) (R : InvR p m) (ht : told.length ≤ 1000000) :
    Calls Try.prog 37 #[.agg S] w fun e w' => e = .returned (.int .u8 (statusM p.threads m)) ∧ Below w.heap.size w w' := by
  rcases htr : (m 90 == 1) with _ | _
  · exact status4_runs S p ca ccap ta tcap fv rs qs m told w hS hR hP hs I R ht htr
  · simpa [statusM, htr] using status4_trap S w (by rw [hS.eq, htr]; rfl)
theorem spine_cells {u : World} {base : Nat} {v : Value} {n : Nat} {f : Nat → Value} {t : TypeId} (h : u.ownsRow base t 1 v n ((List.range n).map f)) : ∃ a cap, v = .slice a n cap ∧ ∀ k, k < n → ∃ g off, a = some ⟨g, off, none⟩ ∧ g < u.heap.size ∧ u.cell? ⟨g, off + k, none⟩ = some (f k) := by
  rcases h.2 with ⟨rfl, h0⟩ | ⟨g, cap, cur, rfl, hb, hh, hle, hcap, hsz, ht⟩
  · exact ⟨none, 0, by rw [h0], fun k hk => by omega⟩
  · refine ⟨_, cap, rfl, fun k hk => ⟨g, 0, rfl, (Array.getElem?_eq_some_iff.1 hh).1, ?_⟩⟩
    have e : ((List.range n).map f)[k]? = some (f k) := map_at f hk
    rw [Nat.zero_add, cell_of_row _ _ _ _ _ _ hh]
    rw [← ht, List.getElem?_take_of_lt (by omega)] at e
    simpa using e
theorem Ow.rf {u : World} {base : Nat} {fv : Nat → Value} {rs qs : Value} {fl : Nat → List Int} {n c : Nat} (h : Ow u base fv rs qs fl n c) : Rf u fv rs qs fl n c := by
  refine ⟨fun i => ?_, spine_cells h.regs, spine_cells h.queue⟩
  obtain ⟨a, cap, e, hc⟩ := own_cells (h.fam.row i)
  exact ⟨a, cap, e, row_own (cap := cap) hc⟩
/-- Of a row of registers, a queue: where the spine has it. -/
theorem Ow.reg {u : World} {base : Nat} {fv : Nat → Value} {rs qs : Value} {fl : Nat → List Int} {n c : Nat} (h : Ow u base fv rs qs fl n c) {k : Nat} (hk : k < n) : ∃ g cap, rs = .slice (some ⟨g, 0, none⟩) n cap ∧ base ≤ g ∧ g < u.heap.size ∧ u.cell? ⟨g, k, none⟩ = some (fv (9 + k)) := by
  rcases h.regs.2 with ⟨_, h0⟩ | ⟨g, cap, cur, e, hb, hh, hle, hcap, hsz, ht⟩
  · omega
  · refine ⟨g, cap, e, hb, (Array.getElem?_eq_some_iff.1 hh).1, ?_⟩
    have e : ((List.range n).map fun k => fv (9 + k))[k]? = some (fv (9 + k)) := map_at _ hk
    rw [cell_of_row _ _ _ _ _ _ hh]
    rw [← ht, List.getElem?_take_of_lt (by omega)] at e
    simpa using e
theorem Ow.que {u : World} {base : Nat} {fv : Nat → Value} {rs qs : Value} {fl : Nat → List Int} {n c : Nat} (h : Ow u base fv rs qs fl n c) {k : Nat} (hk : k < c) : ∃ g cap, qs = .slice (some ⟨g, 0, none⟩) c cap ∧ base ≤ g ∧ g < u.heap.size ∧ u.cell? ⟨g, k, none⟩ = some (fv (15 + k)) ∧ u.frozen? ⟨g, k, none⟩ = false := by
  rcases h.queue.2 with ⟨_, h0⟩ | ⟨g, cap, cur, e, hb, hh, hle, hcap, hsz, ht⟩
  · omega
  · refine ⟨g, cap, e, hb, (Array.getElem?_eq_some_iff.1 hh).1, ?_, frozen_of_row _ _ _ _ _ hh⟩
    have e : ((List.range c).map fun k => fv (15 + k))[k]? = some (fv (15 + k)) := map_at _ hk
    rw [cell_of_row _ _ _ _ _ _ hh]
    rw [← ht, List.getElem?_take_of_lt (by omega)] at e
    simpa using e
/-- A number of a row is put. -/
theorem Ow.put {u : World} {base : Nat} {fv : Nat → Value} {rs qs : Value} {fl : Nat → List Int} {n c : Nat} (h : Ow u base fv rs qs fl n c) {i k g cap : Nat} (e : fv i = .slice (some ⟨g, 0, none⟩) (fl i).length cap) (hk : k < (fl i).length) (y : Int) : Ow (u.setCell ⟨g, k, none⟩ (.int .i64 y)) base fv rs qs (updF fl i ((fl i).set k y)) n c := by
  have hgo : (fv i).ownBlock = some g := by rw [e]; rfl
  have T : Touch (fun x => x = g) u (u.setCell ⟨g, k, none⟩ (.int .i64 y)) := (Touch.of_below (Below.refl _ _)).set rfl
  refine ⟨h.fam.put e hk y, own_touch h.regs T ?_, own_touch h.queue T ?_, h.apR, h.apQ, h.apRQ⟩
  · intro x hx ex
    subst ex
    exact apart_ne (h.apR i) hgo hx
  · intro x hx ex
    subst ex
    exact apart_ne (h.apQ i) hgo hx
theorem results_two {P : Program} {fn : Func} {p q u : Tmp} {ty ty' : TypeId} (h : fn.results = #[.cell p ty, .cell q ty', .tmp u]) (tmps : Array Value) (w : World) (g g' : Nat) (t t' : TypeId) (cs cs' : Array Value) (fr fr' : Nat × Nat) (d d' : TypeDesc)
    (hp : tmps.getD p undef = .pointer (some ⟨g, 0, none⟩)) (hg : w.heap[g]? = some (.cells cs t fr)) (hu : P.underlying ty = some d) (hd : (match d with | .struct _ | .array _ _ => true | _ => false) = true) (hi : (P.info? ty).map (·.size) = some cs.size)
    (hp' : tmps.getD q undef = .pointer (some ⟨g', 0, none⟩)) (hg' : w.heap[g']? = some (.cells cs' t' fr')) (hu' : P.underlying ty' = some d') (hd' : (match d' with | .struct _ | .array _ _ => true | _ => false) = true) (hi' : (P.info? ty').map (·.size) = some cs'.size) :
    (results fn tmps).run P w = .ok (.tuple #[.agg cs, .agg cs', tmps.getD u undef]) w := by
  have a1 : tmps[p]?.getD undef = .pointer (some ⟨g, 0, none⟩) := by simpa using hp
  have a2 : tmps[q]?.getD undef = .pointer (some ⟨g', 0, none⟩) := by simpa using hp'
  simp [results, h, a1, a2, asAddr, run_loadVar_row w g t ty cs fr d hg hu hd hi, run_loadVar_row w g' t' ty' cs' fr' d' hg' hu' hd' hi', Result.andThen]
theorem three_old {w : World} {o o' o'' : Obj} : (((w.alloc o).alloc o').alloc o'').heap[w.heap.size]? = some o := (Below.heap_alloc _ _ _ (by simp; omega)).trans ((Below.heap_alloc _ _ _ (by simp)).trans (heap_alloc_new _ _))
theorem three_mid {w : World} {o o' o'' : Obj} : (((w.alloc o).alloc o').alloc o'').heap[w.heap.size + 1]? = some o' := (Below.heap_alloc _ _ _ (by simp)).trans (heap_alloc2_new _ _ _)
theorem below_three (w : World) (o o' o'' : Obj) : Below w.heap.size w (((w.alloc o).alloc o').alloc o'') := (((Below.refl _ _).alloc (Nat.le_refl _) _).alloc (by simp) _).alloc (by simp; omega) _
theorem step4_no (S : Array Value) (hS19 : S.size = 19) (hS1 : S.all (·.oneCell') = true) (k : Int) (w : World) (hC : ∀ u, Below w.heap.size w u → Calls Try.prog 56 #[.agg S, .int .i64 k] u fun e w' => e = .returned (.bool false) ∧ Below u.heap.size u w') :
    Calls Try.prog 36 #[.agg S, .int .i64 k] w fun e w' => e = .returned (.tuple #[.agg S, evV 0 0 0 0 0 0, .bool false]) ∧ Below w.heap.size w w' := by
  have hSz : (Try.prog.info? 72).map (·.size) = some S.size := by rw [hS19]; exact info_S
  have HC := Lib.hid hC
  clear hC
  go_enter Try.func36, Try.ntmps36
  go_upto_region 1 with (fail)
  generalize hW : World.alloc (World.alloc (World.alloc w _) _) _ = W
  have HB : Hid (Below w.heap.size w W) := Lib.hid (by rw [← hW]; exact below_three _ _ _ _)
  have HN0 : Hid (W.heap[w.heap.size]? = some (.cells S 72)) := Lib.hid (by rw [← hW]; exact three_old)
  have hN1 := (congrArg (fun x : World => x.heap[w.heap.size + 1]?) hW).symm.trans three_mid
  have hN2 := (congrArg (fun x : World => x.heap[w.heap.size + 1 + 1]?) hW).symm.trans (alloc_at _ _ (by simp))
  have HN1 := Lib.hid hN1
  have HN2 := Lib.hid hN2
  clear hW hN1 hN2
  go_wp2_with (first
    | (refine wpList_store_row rfl 45 (.tmp 5) (.tmp 16) rfl (w.heap.size + 1 + 1) _ rfl rfl 45 _ ((setRow_other _ _ _ _ (by omega)).trans HM2.out) info_event rfl (by simp [Value.oneCell']) ?_)
    | (refine wpList_store_row rfl 72 (.tmp 4) (.tmp 15) rfl (w.heap.size + 1) _ rfl rfl 72 _ HM1.out hSz (by rw [hS19]; rfl) hS1 ?_)
    | (refine wpList_load_row rfl 72 (.tmp 2) rfl w.heap.size rfl 72 S (0, 0) _ HM0.out Try.underlying72 rfl hSz ?_)
    | (go_at_call 56; refine (HC.out W HB.out).mono ?_; rintro e w1 ⟨rfl, hB1⟩; have HM0 := Lib.hid (old_later HN0.out hB1); have HM1 := Lib.hid (old_later HN1.out hB1); have HM2 := Lib.hid (old_later HN2.out hB1); have HB1 := Lib.hid (below_next HB.out hB1); clear hB1)
    | (refine wpList_load_row rfl 72 (.tmp 2) rfl w.heap.size rfl 72 S (0, 0) _ HN0.out Try.underlying72 rfl hSz ?_))
  refine bodyPost_ret (v := .tuple #[.agg S, evV 0 0 0 0 0 0, .bool false]) (results_two (p := 4) (q := 5) (u := 6) rfl _ _ (w.heap.size + 1) (w.heap.size + 1 + 1) 72 45 S #[.int .i64 0, .int .i64 0, .int .u8 0, .int .i64 0, .int .i64 0, .int .i64 0] (0, 0) (0, 0) _ _ rfl ((setRow_other _ _ _ _ (by omega)).trans (setRow_heap _ _ _ _ _ _ HM1.out)) Try.underlying72 rfl hSz rfl (setRow_heap _ _ _ _ _ _ ((setRow_other _ _ _ _ (by omega)).trans HM2.out)) Try.underlying45 rfl info_event) rfl ⟨rfl, below_row (below_row HB1.out (by omega) _) (by omega) _⟩
/-- How many read: none below 0, none above N. -/
def Reads (N : Nat) (m : Nat → Int) : Prop := ∀ l, l < 4 → 0 ≤ m (49 + l * 2 + 1) ∧ m (49 + l * 2 + 1) ≤ N
theorem wrap_small {a : Int} (h1 : -4611686018427387904 ≤ a) (h2 : a ≤ 4611686018427387904) : wrap64 a = a := by unfold wrap64; omega
theorem do_read {m : Nat → Int} {nt n k N : Nat} {x : InsD} (hx : InsFit nt n x) (hk : k < 6) (hnt : nt ≤ 6) (hR : Reads N m) (hN : N ≤ 1000000)
    (hch : ∀ c, c < 4 → 0 ≤ m (57 + c * 6 + 3) ∧ m (57 + c * 6 + 3) ≤ m (57 + c * 6 + 4) ∧ m (57 + c * 6 + 4) ≤ 3) :
    ∀ i v, Ed.m i v ∈ (doE m k x).1 → ∀ l, l < 4 → i = 49 + l * 2 + 1 → 0 ≤ v ∧ v ≤ N + 1 := by
  obtain ⟨op, a, y, z⟩ := x
  intro i v h l hl hi
  have hRl := hR l hl
  match op, hx with
  | 0, hx => simp [doE, rg] at h
  | 1, hx =>
    obtain ⟨A, rfl, hA⟩ : Fit 4 a := hx
    simp [doE, rg] at h
    omega
  | 2, hx | 3, hx | 4, hx | 5, hx | 6, hx | 7, hx | 17, hx =>
    obtain ⟨A, rfl, hA⟩ : Fit 4 a := hx.1
    simp [doE, rg] at h
    omega
  | 8, hx =>
    obtain ⟨A, rfl, hA⟩ : Fit 8 a := hx.1
    simp [doE, rg] at h
    omega
  | 18, hx =>
    obtain ⟨A, rfl, hA⟩ : Fit 4 a := hx.1
    simp [doE, rg] at h
    omega
  | 9, hx => simp [doE, rg] at h
  | 10, hx => simp [doE, rg] at h; omega
  | 11, hx =>
    simp only [doE, rg] at h
    split at h <;> simp at h
    omega
  | 12, hx =>
    obtain ⟨A, rfl, hA⟩ : Fit nt a := hx
    simp [doE, rg] at h
    omega
  | 13, hx | 23, hx =>
    obtain ⟨A, rfl, hA⟩ : Fit 4 a := hx
    simp [doE, rg] at h
    omega
  | 15, hx =>
    obtain ⟨A, rfl, hA⟩ : Fit 4 a := hx
    simp only [doE, rg, Int.toNat_natCast, List.mem_cons, List.not_mem_nil, or_false, reduceCtorEq, false_or, Ed.m.injEq] at h
    obtain ⟨e1, e2⟩ := h
    obtain rfl : A = l := by omega
    rw [wrap_small (by omega) (by omega)] at e2
    omega
  | 16, hx =>
    obtain ⟨A, rfl, hA⟩ : Fit 4 a := hx
    simp only [doE, rg, Int.toNat_natCast] at h
    split at h
    · simp at h
    · rename_i hz
      simp only [List.mem_cons, List.not_mem_nil, or_false, reduceCtorEq, false_or, Ed.m.injEq] at h
      obtain ⟨e1, e2⟩ := h
      obtain rfl : A = l := by omega
      have hz' : m (49 + A * 2 + 1) ≠ 0 := by simpa using hz
      rw [wrap_small (by omega) (by omega)] at e2
      omega
  | 14, hx | 24, hx | 27, hx =>
    obtain ⟨A, rfl, hA⟩ : Fit 4 a := hx
    simp only [doE, rg] at h
    split at h <;> simp at h
    all_goals omega
  | 19, hx =>
    obtain ⟨⟨A, rfl, hA⟩, ⟨B, rfl, hB⟩, _⟩ : Fit 4 a ∧ Fit 4 y ∧ Fit 4 z := hx
    simp [doE, rg] at h
    omega
  | 20, hx =>
    obtain ⟨⟨A, rfl, hA⟩, ⟨B, rfl, hB⟩⟩ : Fit 4 a ∧ Fit 4 y := hx
    simp only [doE, rg, Int.toNat_natCast] at h
    split at h <;> simp at h
    omega
  | 21, hx | 22, hx =>
    obtain ⟨A, rfl, hA⟩ : Fit 4 a := hx.1
    obtain ⟨B, rfl, hB⟩ : Fit 4 y := by first | exact hx.2 | exact hx.2.1
    obtain ⟨c1, c2, c3⟩ := hch B hB
    try obtain ⟨C, rfl, hC⟩ : Fit 4 z := hx.2.2
    simp only [doE, rg, takeE, Int.toNat_natCast] at h
    rcases hq : (m (57 + B * 6 + 3)).toNat with _ | _ | _ | q
    all_goals
      rw [hq] at h
      simp at h
      omega
  | 25, hx => simp [doE, rg] at h
  | 26, hx =>
    obtain ⟨⟨A, rfl, hA⟩, ⟨B, rfl, hB⟩⟩ : Fit 4 a ∧ Fit 4 y := hx
    simp only [doE, rg] at h
    split at h <;> simp at h
    all_goals omega
theorem reads_new (chans : List Int) : Reads 0 (newM chans) := fun l hl => by rw [newM_zero _ (by omega) (by omega)]; omega
/-- Behind a step. -/
theorem reads_step {m : Nat → Int} {code : List (List InsD)} {N : Nat} (I : Inv m code) (hl : code.length ≤ 6) (hR : Reads N m) (hN : N ≤ 1000000) (k : Int) : Reads (N + 1) (stepM code m k) := by
  intro l hl4
  have hRl := hR l hl4
  unfold stepM
  split
  · rename_i hc
    obtain ⟨j, x, rfl, hj, hx, hbl, _⟩ := canM_parts hc
    rw [Int.toNat_natCast, hx]
    rcases hq : code[j]? with _ | ck
    · simp [insM, hq] at hx
    have hx2 := hx
    simp only [insM, hq, Option.bind_some] at hx2
    have hf := I.fit j ck hq x (List.mem_of_getElem? hx2)
    show 0 ≤ stepK m j x (49 + l * 2 + 1) ∧ stepK m j x (49 + l * 2 + 1) ≤ ((N + 1 : Nat) : Int)
    unfold stepK
    rw [upd_ne _ _ (by omega)]
    generalize hm : upd m (1 + j * 6 + 1) (m (1 + j * 6 + 1) + 1) = m1
    have hfar : ∀ i, i ≠ 1 + j * 6 + 1 → m1 i = m i := fun i h => by rw [← hm]; exact upd_ne _ _ h
    have hR1 : Reads N m1 := fun l hl => by rw [hfar _ (by omega)]; exact hR l hl
    have hch : ∀ c, c < 4 → 0 ≤ m1 (57 + c * 6 + 3) ∧ m1 (57 + c * 6 + 3) ≤ m1 (57 + c * 6 + 4) ∧ m1 (57 + c * 6 + 4) ≤ 3 := fun c hc => by
      rw [hfar _ (by omega), hfar _ (by omega)]; exact I.chan c hc
    rcases edM_in (doE m1 j x).1 (m := m1) (j := 49 + l * 2 + 1) with h | ⟨v, h1, h2⟩
    · rw [h, hfar _ (by omega)]; omega
    · rw [h2]
      have := do_read (k := j) hf (by omega) hl hR1 hN hch _ v h1 l hl4 rfl
      omega
  · omega
theorem room_step {m : Nat → Int} {code : List (List InsD)} (I : Inv m code) (hl : code.length ≤ 6) (k : Int) {c : Nat} (hc4 : c < 4) : stepM code m k (57 + c * 6 + 4) = m (57 + c * 6 + 4) := by
  unfold stepM
  split
  · rename_i hc
    obtain ⟨j, x, rfl, hj, hx, hbl, _⟩ := canM_parts hc
    rw [Int.toNat_natCast, hx]
    rcases hq : code[j]? with _ | ck
    · simp [insM, hq] at hx
    have hx2 := hx
    simp only [insM, hq, Option.bind_some] at hx2
    have hf := I.fit j ck hq x (List.mem_of_getElem? hx2)
    show stepK m j x (57 + c * 6 + 4) = m (57 + c * 6 + 4)
    unfold stepK
    rw [upd_ne _ _ (by omega)]
    generalize hm : upd m (1 + j * 6 + 1) (m (1 + j * 6 + 1) + 1) = m1
    have hfar : ∀ i, i ≠ 1 + j * 6 + 1 → m1 i = m i := fun i h => by rw [← hm]; exact upd_ne _ _ h
    have hch : ∀ c, c < 4 → 0 ≤ m1 (57 + c * 6 + 3) ∧ m1 (57 + c * 6 + 3) ≤ m1 (57 + c * 6 + 4) ∧ m1 (57 + c * 6 + 4) ≤ 3 := fun c hc => by
      rw [hfar _ (by omega), hfar _ (by omega)]; exact I.chan c hc
    have hb1 : blockedM m1 x = false := by rw [← hm, blocked_pc _ _ (by omega)]; exact hbl
    rw [(do_chan (k := j) hf (by omega) hl hch hb1 c hc4).1, hfar _ (by omega)]
  · rfl
/-- Both, behind whatever picks. -/
theorem invR_go {code : List (List InsD)} (hl6 : code.length ≤ 6) : ∀ (l : List Int) {m : Nat → Int} {N : Nat}, Inv m code → Reads N m → N + l.length ≤ 1000000 → Reads (N + l.length) (runM code l m) ∧ (∀ c, c < 4 → runM code l m (57 + c * 6 + 4) = m (57 + c * 6 + 4))
  | [], m, N, I, h, _ => ⟨h, fun c _ => rfl⟩
  | k :: l, m, N, I, h, hN => by
    simp only [List.length_cons] at hN ⊢
    obtain ⟨h1, h2⟩ := invR_go hl6 l (inv_stepM I hl6 k) (reads_step I hl6 h (by omega) k) (by omega)
    rw [show N + (l.length + 1) = N + 1 + l.length by omega]
    exact ⟨h1, fun c hc => (h2 c hc).trans (room_step I hl6 k hc)⟩
theorem invR_run {p : ProgD} (hs : soundE p = 0) (l : List Int) (hl : l.length ≤ 1000000) : Reads l.length (runM p.threads l (newM p.chans)) ∧ (∀ c, c < 4 → runM p.threads l (newM p.chans) (57 + c * 6 + 4) = newM p.chans (57 + c * 6 + 4)) := by
  have h := invR_go (sizes_parts (sound_parts hs).1).2.2.2.2.2.2.1.2 l (inv_new hs) (reads_new p.chans) (by omega)
  rwa [Nat.zero_add] at h
theorem invR_of {p : ProgD} (hs : soundE p = 0) {l : List Int} (hl : l.length ≤ 1000000) : InvR p (runM p.threads l (newM p.chans)) := by
  have hq := sizes_parts (sound_parts hs).1
  obtain ⟨h1, h2⟩ := invR_run hs l hl
  refine ⟨fun c x hx => ?_, fun i hi => (h1 i hi).1, hq.2.2.1.2, hq.2.2.2.2.2.1⟩
  have hc := (List.getElem?_eq_some_iff.1 hx).1
  rw [h2 c (by omega), newM_most _ (by omega), hx]; rfl
theorem Fam.touch {X : Nat → Prop} {u u' : World} {base : Nat} {fv : Nat → Value} {fl : Nat → List Int} (h : Fam u base fv fl) (T : Touch X u u') (hX : ∀ i g, (fv i).ownBlock = some g → ¬ X g) : Fam u' base fv fl := ⟨fun i => own_touch (h.row i) T (hX i), h.ap, Nat.le_trans h.top T.size⟩
theorem Ow.touch {X : Nat → Prop} {u u' : World} {base : Nat} {fv : Nat → Value} {rs qs : Value} {fl : Nat → List Int} {n c : Nat} (h : Ow u base fv rs qs fl n c) (T : Touch X u u') (hX : ∀ g, base ≤ g → g < u.heap.size → ((∃ i, (fv i).ownBlock = some g) ∨ rs.ownBlock = some g ∨ qs.ownBlock = some g) → ¬ X g) : Ow u' base fv rs qs fl n c := by
  refine ⟨h.fam.touch T fun i g e => hX g (own_lt (h.fam.row i) g e).2 (own_lt (h.fam.row i) g e).1 (.inl ⟨i, e⟩), own_touch h.regs T fun g e => hX g (own_lt h.regs g e).2 (own_lt h.regs g e).1 (.inr (.inl e)), own_touch h.queue T fun g e => hX g (own_lt h.queue g e).2 (own_lt h.queue g e).1 (.inr (.inr e)), h.apR, h.apQ, h.apRQ⟩
/-- A store into a box that was made behind all rows. -/
theorem Ow.boxed {u : World} {base sb : Nat} {fv : Nat → Value} {rs qs : Value} {fl : Nat → List Int} {n c : Nat} {o : Obj} (h : Ow u base fv rs qs fl n c) (r : Array Value) : Ow ((u.alloc o).setRow u.heap.size r) base fv rs qs fl n c := by
  refine h.touch (X := fun x => x = u.heap.size) ⟨rfl, rfl, rfl, by simp, fun k hk hx => ?_⟩ fun g _ hg _ e => by omega
  exact (setRow_other _ _ _ _ hx).trans (Below.heap_alloc _ _ _ hk)
def Held (fv : Nat → Value) (rs qs : Value) (g : Nat) : Prop := (∃ i, (fv i).ownBlock = some g) ∨ rs.ownBlock = some g ∨ qs.ownBlock = some g
/-- The state's box sb, the instruction's ib, the event's eb, the results' r0 and r1; the rows, from B on. -/
structure Sx (X0 : Nat → Prop) (w u : World) (B sb ib eb r0 r1 : Nat) (S : Array Value) (x : InsD) (E : Array Value) (fv : Nat → Value) (rs qs : Value) (fl : Nat → List Int) (n c : Nat) : Prop where
  sB : u.heap[sb]? = some (.cells S 72)
  iB : u.heap[ib]? = some (.cells #[.int .u8 x.op, .int .i64 x.a, .int .i64 x.b, .int .i64 x.c] 49)
  eB : u.heap[eb]? = some (.cells E 45)
  b0 : ∃ Z, u.heap[r0]? = some (.cells Z 72) ∧ Z.size = 19
  b1 : ∃ Z, u.heap[r1]? = some (.cells Z 45) ∧ Z.size = 6
  ow : Ow u B fv rs qs fl n c
  ne : sb ≠ ib ∧ sb ≠ eb ∧ ib ≠ eb ∧ r0 ≠ r1 ∧ r0 ≠ sb ∧ r0 ≠ ib ∧ r0 ≠ eb ∧ r1 ≠ sb ∧ r1 ≠ ib ∧ r1 ≠ eb
  ap : ∀ g, Held fv rs qs g → g ≠ sb ∧ g ≠ ib ∧ g ≠ eb ∧ g ≠ r0 ∧ g ≠ r1
  lo : (∀ g, Held fv rs qs g → X0 g ∨ w.heap.size ≤ g) ∧ w.heap.size ≤ sb ∧ w.heap.size ≤ eb ∧ w.heap.size ≤ r0 ∧ w.heap.size ≤ r1
  bel : Touch X0 w u
theorem touch_set {X : Nat → Prop} {w u : World} (h : Touch X w u) {b j : Nat} {v : Value} (hb : X b ∨ w.heap.size ≤ b) : Touch X w (u.setCell ⟨b, j, none⟩ v) :=
  ⟨h.os, h.tape, h.output, by rw [size_setCell]; exact h.size, fun k hk hx => (Below.heap_setCell _ _ _ _ (by intro e; simp only at e; subst e; rcases hb with hb | hb; exact hx hb; omega)).trans (h.block k hk hx)⟩
section
variable {X0 : Nat → Prop} {w u : World} {B sb ib eb r0 r1 : Nat} {S : Array Value} {x : InsD} {E : Array Value} {fv : Nat → Value} {rs qs : Value} {fl : Nat → List Int} {n c : Nat}
theorem Sx.drew (h : Sx X0 w u B sb ib eb r0 r1 S x E fv rs qs fl n c) : Sx X0 w u.drew B sb ib eb r0 r1 S x E fv rs qs fl n c :=
  ⟨h.sB, h.iB, h.eB, h.b0, h.b1, h.ow.later (Below.refl _ u).drew, h.ne, h.ap, h.lo, ⟨h.bel.os, h.bel.tape, h.bel.output, h.bel.size, h.bel.block⟩⟩
/-- A number of a row is put. -/
theorem Sx.put (h : Sx X0 w u B sb ib eb r0 r1 S x E fv rs qs fl n c) {i j g cap : Nat} (e : fv i = .slice (some ⟨g, 0, none⟩) (fl i).length cap) (hj : j < (fl i).length) (y : Int) : Sx X0 w (u.setCell ⟨g, j, none⟩ (.int .i64 y)) B sb ib eb r0 r1 S x E fv rs qs (updF fl i ((fl i).set j y)) n c := by
  have hgo : (fv i).ownBlock = some g := by rw [e]; rfl
  obtain ⟨a1, a2, a3, a4, a5⟩ := h.ap g (.inl ⟨i, hgo⟩)
  have hg := (own_lt (h.ow.fam.row i) g hgo).2
  obtain ⟨Z0, z0, z1⟩ := h.b0
  obtain ⟨Z1, z2, z3⟩ := h.b1
  have k : ∀ t, t ≠ g → (u.setCell ⟨g, j, none⟩ (.int .i64 y)).heap[t]? = u.heap[t]? := fun t ht => Below.heap_setCell _ _ _ _ ht
  exact ⟨(k _ (Ne.symm a1)).trans h.sB, (k _ (Ne.symm a2)).trans h.iB, (k _ (Ne.symm a3)).trans h.eB, ⟨Z0, (k _ (Ne.symm a4)).trans z0, z1⟩, ⟨Z1, (k _ (Ne.symm a5)).trans z2, z3⟩, h.ow.put e hj y, h.ne, h.ap, h.lo, touch_set h.bel (h.lo.1 g (.inl ⟨i, hgo⟩))⟩
theorem Sx.aside (h : Sx X0 w u B sb ib eb r0 r1 S x E fv rs qs fl n c) {b j : Nat} {v : Value} (hb : b = sb ∨ b = eb) : Ow (u.setCell ⟨b, j, none⟩ v) B fv rs qs fl n c := by
  refine h.ow.touch (X := fun t => t = b) ((Touch.of_below (Below.refl _ _)).set rfl) fun g _ _ hg e => ?_
  subst e
  obtain ⟨a1, a2, a3, a4, a5⟩ := h.ap g hg
  rcases hb with rfl | rfl
  · exact a1 rfl
  · exact a3 rfl
/-- Of the event. -/
theorem Sx.ev (h : Sx X0 w u B sb ib eb r0 r1 S x E fv rs qs fl n c) (j : Nat) (v : Value) : Sx X0 w (u.setCell ⟨eb, j, none⟩ v) B sb ib eb r0 r1 S x (E.setIfInBounds j v) fv rs qs fl n c := by
  obtain ⟨Z0, z0, z1⟩ := h.b0
  obtain ⟨Z1, z2, z3⟩ := h.b1
  obtain ⟨n1, n2, n3, n4, n5, n6, n7, n8, n9, n10⟩ := h.ne
  have k : ∀ t, t ≠ eb → (u.setCell ⟨eb, j, none⟩ v).heap[t]? = u.heap[t]? := fun t ht => Below.heap_setCell _ _ _ _ ht
  exact ⟨(k _ n2).trans h.sB, (k _ n3).trans h.iB, stSet_block _ _ _ _ h.eB, ⟨Z0, (k _ n7).trans z0, z1⟩, ⟨Z1, (k _ n10).trans z2, z3⟩, h.aside (.inr rfl), h.ne, h.ap, h.lo, touch_set h.bel (.inr h.lo.2.2.1)⟩
/-- Of the state. -/
theorem Sx.sv (h : Sx X0 w u B sb ib eb r0 r1 S x E fv rs qs fl n c) (j : Nat) (v : Value) : Sx X0 w (u.setCell ⟨sb, j, none⟩ v) B sb ib eb r0 r1 (S.setIfInBounds j v) x E fv rs qs fl n c := by
  obtain ⟨Z0, z0, z1⟩ := h.b0
  obtain ⟨Z1, z2, z3⟩ := h.b1
  obtain ⟨n1, n2, n3, n4, n5, n6, n7, n8, n9, n10⟩ := h.ne
  have k : ∀ t, t ≠ sb → (u.setCell ⟨sb, j, none⟩ v).heap[t]? = u.heap[t]? := fun t ht => Below.heap_setCell _ _ _ _ ht
  exact ⟨stSet_block _ _ _ _ h.sB, (k _ (Ne.symm n1)).trans h.iB, (k _ (Ne.symm n2)).trans h.eB, ⟨Z0, (k _ n5).trans z0, z1⟩, ⟨Z1, (k _ n8).trans z2, z3⟩, h.aside (.inl rfl), h.ne, h.ap, h.lo, touch_set h.bel (.inr h.lo.2.1)⟩
theorem Sx.num (h : Sx X0 w u B sb ib eb r0 r1 S x E fv rs qs fl n c) {i j : Nat} {z : Int} (hz : (fl i)[j]? = some z) : ∃ g cap, fv i = .slice (some ⟨g, 0, none⟩) (fl i).length cap ∧ u.cell? ⟨g, j, none⟩ = some (.int .i64 z) ∧ u.frozen? ⟨g, j, none⟩ = false ∧ j < (fl i).length := by
  obtain ⟨g, cap, e, _, _, h3, h4⟩ := h.ow.fam.cell hz
  exact ⟨g, cap, e, h3, h4, (List.getElem?_eq_some_iff.1 hz).1⟩
/-- Of a row whose place is known. -/
theorem Sx.at (h : Sx X0 w u B sb ib eb r0 r1 S x E fv rs qs fl n c) {i j g cap l : Nat} {z : Int} (e : fv i = .slice (some ⟨g, 0, none⟩) l cap) (hz : (fl i)[j]? = some z) : u.cell? ⟨g, j, none⟩ = some (.int .i64 z) ∧ u.frozen? ⟨g, j, none⟩ = false := by
  obtain ⟨g', cap', e', h1, h2, _⟩ := h.num hz
  rw [e] at e'
  cases e'
  exact ⟨h1, h2⟩
theorem Sx.s (h : Sx X0 w u B sb ib eb r0 r1 S x E fv rs qs fl n c) {j : Nat} {v : Value} (hv : S[j]? = some v) : u.cell? ⟨sb, j, none⟩ = some v := (cell_of_row _ _ _ _ _ _ h.sB).trans hv
theorem Sx.sF (h : Sx X0 w u B sb ib eb r0 r1 S x E fv rs qs fl n c) (j : Nat) : u.frozen? ⟨sb, j, none⟩ = false := frozen_of_row _ _ _ _ _ h.sB
theorem Sx.e (h : Sx X0 w u B sb ib eb r0 r1 S x E fv rs qs fl n c) {j : Nat} {v : Value} (hv : E[j]? = some v) : u.cell? ⟨eb, j, none⟩ = some v := (cell_of_row _ _ _ _ _ _ h.eB).trans hv
theorem Sx.eF (h : Sx X0 w u B sb ib eb r0 r1 S x E fv rs qs fl n c) (j : Nat) : u.frozen? ⟨eb, j, none⟩ = false := frozen_of_row _ _ _ _ _ h.eB
theorem Sx.i (h : Sx X0 w u B sb ib eb r0 r1 S x E fv rs qs fl n c) : u.cell? ⟨ib, 0, none⟩ = some (.int .u8 x.op) ∧ u.cell? ⟨ib, 1, none⟩ = some (.int .i64 x.a) ∧ u.cell? ⟨ib, 2, none⟩ = some (.int .i64 x.b) ∧ u.cell? ⟨ib, 3, none⟩ = some (.int .i64 x.c) := cells4 h.iB
end
/-- At the end: what is handed out lies in the boxes sb and eb. -/
structure Fx (X0 : Nat → Prop) (w u : World) (sb eb r0 r1 : Nat) (S : Array Value) (E : Array Value) (fv : Nat → Value) (rs qs : Value) (fl : Nat → List Int) (n c : Nat) : Prop where
  sB : u.heap[sb]? = some (.cells S 72)
  eB : u.heap[eb]? = some (.cells E 45)
  b0 : ∃ Z, u.heap[r0]? = some (.cells Z 72) ∧ Z.size = 19
  b1 : ∃ Z, u.heap[r1]? = some (.cells Z 45) ∧ Z.size = 6
  ne : r0 ≠ r1 ∧ r0 ≠ sb ∧ r0 ≠ eb ∧ r1 ≠ sb ∧ r1 ≠ eb
  rf : ∀ u', Touch (fun g => g = r0 ∨ g = r1 ∨ (¬ X0 g ∧ g < w.heap.size)) u u' → Rf u' fv rs qs fl n c
  lo : w.heap.size ≤ r0 ∧ w.heap.size ≤ r1
  bel : Touch X0 w u
theorem Sx.fin {X0 : Nat → Prop} {w u : World} {B sb ib eb r0 r1 : Nat} {S : Array Value} {x : InsD} {E : Array Value} {fv : Nat → Value} {rs qs : Value} {fl : Nat → List Int} {n c : Nat} (h : Sx X0 w u B sb ib eb r0 r1 S x E fv rs qs fl n c) : Fx X0 w u sb eb r0 r1 S E fv rs qs fl n c := by
  obtain ⟨n1, n2, n3, n4, n5, n6, n7, n8, n9, n10⟩ := h.ne
  refine ⟨h.sB, h.eB, h.b0, h.b1, ⟨n4, n5, n7, n8, n10⟩, fun u' T => (h.ow.touch T fun g _ _ hg e => ?_).rf, ⟨h.lo.2.2.2.1, h.lo.2.2.2.2⟩, h.bel⟩
  obtain ⟨a1, a2, a3, a4, a5⟩ := h.ap g hg
  rcases e with e | e | ⟨e1, e2⟩
  · exact a4 e
  · exact a5 e
  · rcases h.lo.1 g hg with q | q
    · exact e1 q
    · omega
/-- What a step hands out. -/
def Rs4 (X0 : Nat → Prop) (w w' : World) (e : Ending) (p : ProgD) (ca : Option Addr) (ccap : Nat) (ta : Option Addr) (tcap : Nat) (n c : Nat) (fl : Nat → List Int) (tp : Int) (E : Array Value) : Prop :=
  ∃ S fv rs qs, e = .returned (.tuple #[.agg S, .agg E, .bool true]) ∧ SV S p ca ccap ta tcap fv rs qs tp ∧ (∀ u', Touch (fun g => ¬ X0 g ∧ g < w.heap.size) w' u' → Rf u' fv rs qs fl n c) ∧ Touch X0 w w'
theorem sx_boxes {w : World} {B : Nat} {S : Array Value} {x : InsD} {E Z0 Z1 : Array Value} {fv : Nat → Value} {rs qs : Value} {fl : Nat → List Int} {n c : Nat} (hO : Ow w B fv rs qs fl n c) (h0 : Z0.size = 19) (h1 : Z1.size = 6) :
    Sx (Held fv rs qs) w (((((w.alloc (.cells S 72)).alloc (.cells #[.int .u8 x.op, .int .i64 x.a, .int .i64 x.b, .int .i64 x.c] 49)).alloc (.cells E 45)).alloc (.cells Z0 72)).alloc (.cells Z1 45)) B w.heap.size (w.heap.size + 1) (w.heap.size + 1 + 1) (w.heap.size + 1 + 1 + 1) (w.heap.size + 1 + 1 + 1 + 1) S x E fv rs qs fl n c := by
  have b5 : Below w.heap.size w (((((w.alloc (.cells S 72)).alloc (.cells #[.int .u8 x.op, .int .i64 x.a, .int .i64 x.b, .int .i64 x.c] 49)).alloc (.cells E 45)).alloc (.cells Z0 72)).alloc (.cells Z1 45)) := (((((Below.refl _ _).alloc (Nat.le_refl _) _).alloc (by simp) _).alloc (by simp; omega) _).alloc (by simp; omega) _).alloc (by simp; omega) _
  have hB := hO.fam.top
  have hlt : ∀ g, Held fv rs qs g → g < w.heap.size := fun g h => by
    rcases h with ⟨i, h⟩ | h | h
    · exact (own_lt (hO.fam.row i) g h).1
    · exact (own_lt hO.regs g h).1
    · exact (own_lt hO.queue g h).1
  refine ⟨?_, ?_, ?_, ⟨Z0, ?_, h0⟩, ⟨Z1, ?_, h1⟩, hO.later b5, by omega, fun g hg => by have := hlt g hg; omega, ⟨fun g hg => .inl hg, by omega⟩, Touch.of_below b5⟩
  · exact old_alloc (old_alloc (old_alloc (old_alloc (alloc_at _ _ rfl) _) _) _) _
  · exact old_alloc (old_alloc (old_alloc (alloc_at _ _ (by simp)) _) _) _
  · exact old_alloc (old_alloc (alloc_at _ _ (by simp)) _) _
  · exact old_alloc (alloc_at _ _ (by simp)) _
  · exact alloc_at _ _ (by simp)
theorem sv_one {u : World} {S : Array Value} {p : ProgD} {ca : Option Addr} {ccap : Nat} {ta : Option Addr} {tcap : Nat} {fv : Nat → Value} {rs qs : Value} {tp : Int} {fl : Nat → List Int} {n c : Nat} (hS : SV S p ca ccap ta tcap fv rs qs tp) (hR : Rf u fv rs qs fl n c) : S.all (·.oneCell') = true := by
  have h : ∀ i, (fv i).oneCell' = true := fun i => by obtain ⟨a, cap, e, _⟩ := hR.row i; rw [e]; rfl
  obtain ⟨a, cap, e, _⟩ := hR.regs
  obtain ⟨a', cap', e', _⟩ := hR.queue
  rw [hS.eq, e, e']
  simp [Value.oneCell']
  exact ⟨h 0, h 1, h 2, h 3, h 4, h 5, h 6, h 7, h 8⟩
theorem touch_two {u v : World} {r0 r1 : Nat} {S E : Array Value} (h1 : v.heap = u.heap) (h2 : v.os = u.os) (h3 : v.tape = u.tape) (h4 : v.output = u.output) : Touch (fun g => g = r0 ∨ g = r1) u ((v.setRow r0 S).setRow r1 E) :=
  ⟨h2, h3, h4, by have h : ∀ (v : World) (r : Nat) (S : Array Value), (v.setRow r S).heap.size = v.heap.size := fun v r S => by simp [World.setRow]
                  rw [h, h, h1]; exact Nat.le_refl _, fun k _ hk => by
    rw [setRow_other _ _ _ _ (fun e => hk (.inr e)), setRow_other _ _ _ _ (fun e => hk (.inl e)), h1]⟩
theorem touch_three {u v u' : World} {r0 r1 : Nat} {Z : Nat → Prop} (h : Touch (fun g => g = r0 ∨ g = r1) u v) (T : Touch Z v u') : Touch (fun g => g = r0 ∨ g = r1 ∨ Z g) u u' :=
  ⟨T.os.trans h.os, T.tape.trans h.tape, T.output.trans h.output, Nat.le_trans h.size T.size, fun k hk hx => by
    rw [T.block k (Nat.lt_of_lt_of_le hk h.size) (fun z => hx (.inr (.inr z))), h.block k hk (fun z => z.elim (fun z => hx (.inl z)) (fun z => hx (.inr (.inl z))))]⟩
theorem touch_end {u v u' : World} {r0 r1 : Nat} {S E : Array Value} {Z : Nat → Prop} (T : Touch Z ((v.setRow r0 S).setRow r1 E) u') (h1 : v.heap = u.heap) (h2 : v.os = u.os) (h3 : v.tape = u.tape) (h4 : v.output = u.output) : Touch (fun g => g = r0 ∨ g = r1 ∨ Z g) u u' := touch_three (touch_two h1 h2 h3 h4) T
theorem number4_still (b : Bool) (w : World) : Calls Try.prog 58 #[.bool b] w fun e w' => e = .returned (.int .i64 (bitN b)) ∧ w' = w := (number4_any b w).mono fun e w' ⟨h1, h2⟩ => ⟨h1, h2.symm⟩
theorem touch_fin {X : Nat → Prop} {r0 r1 : Nat} {w u v : World} {S E : Array Value} (h : Touch X w u) (l0 : w.heap.size ≤ r0) (l1 : w.heap.size ≤ r1) (h1 : v.heap = u.heap) (h2 : v.os = u.os) (h3 : v.tape = u.tape) (h4 : v.output = u.output) : Touch X w ((v.setRow r0 S).setRow r1 E) :=
  ⟨h2.trans h.os, h3.trans h.tape, h4.trans h.output, by
    have hz : ∀ (v : World) (r : Nat) (S : Array Value), (v.setRow r S).heap.size = v.heap.size := fun v r S => by simp [World.setRow]
    rw [hz, hz, h1]; exact h.size, fun k hk hx => by
    rw [setRow_other _ _ _ _ (by omega), setRow_other _ _ _ _ (by omega), h1]; exact h.block k hk hx⟩
theorem own_cap {w : World} {B : Nat} {t : TypeId} {a : Option Addr} {l n cap : Nat} {xs : List Value} (h : w.ownsRow B t 1 (.slice a l cap) n xs) : l ≤ cap := by
  rcases h.2 with ⟨e, _⟩ | ⟨g, cap', cur, e, _, _, h1, _⟩
  · cases e; exact Nat.le_refl _
  · cases e; exact h1
theorem Sx.put' {X0 : Nat → Prop} {w u : World} {B sb ib eb r0 r1 : Nat} {S : Array Value} {x : InsD} {E : Array Value} {fv : Nat → Value} {rs qs : Value} {fl : Nat → List Int} {n c : Nat} (h : Sx X0 w u B sb ib eb r0 r1 S x E fv rs qs fl n c) {i j g cap l : Nat} (e : fv i = .slice (some ⟨g, 0, none⟩) l cap) (hj : j < (fl i).length) (y : Int) : Sx X0 w (u.setCell ⟨g, j, none⟩ (.int .i64 y)) B sb ib eb r0 r1 S x E fv rs qs (updF fl i ((fl i).set j y)) n c := by
  obtain ⟨z, hz⟩ := at_lt hj
  obtain ⟨g', cap', e', _⟩ := h.num hz
  have e2 := e'
  rw [e] at e2
  cases e2
  exact h.put e' hj y
theorem eval_put_ne {a : Act} {s t : Nat} {v : Value} (h : s ≠ t) : (a.put (some s) v).eval (.tmp t) = a.eval (.tmp t) := by
  simp [Act.put, Act.eval, Array.getElem?_setIfInBounds_ne h]
theorem eval_put_same {a : Act} {s : Nat} {v : Value} (h : s < a.tmps.size) : (a.put (some s) v).eval (.tmp s) = v := by
  simp [Act.put, Act.eval, h]
theorem put_size {a : Act} {s : Nat} {v : Value} : (a.put (some s) v).tmps.size = a.tmps.size := by simp [Act.put]
theorem fin_taken {Q : Exit → Act → World → Prop} {a : Act} {X0 : Nat → Prop} {w u v : World} {sb eb r0 r1 : Nat} {S E : Array Value} {fv : Nat → Value} {rs qs : Value} {fl : Nat → List Int} {n c : Nat} (F : Fx X0 w u sb eb r0 r1 S E fv rs qs fl n c) (hv : v.heap = u.heap) (h19 : S.size = 19) (hS1 : S.all (·.oneCell') = true) (h6 : E.size = 6) (hE1 : E.all (·.oneCell') = true) (hsz : a.tmps.size = 153) (hQ : ∀ c a s v w, Q (.panic c) (Act.put a (some s) v) w → Q (.panic c) a w)
    (e1 : a.eval (.tmp 4) = .pointer (some ⟨sb, 0, none⟩)) (e2 : a.eval (.tmp 7) = .pointer (some ⟨eb, 0, none⟩)) (e3 : a.eval (.tmp 8) = .pointer (some ⟨r0, 0, none⟩)) (e4 : a.eval (.tmp 9) = .pointer (some ⟨r1, 0, none⟩))
    (h : Q .normal (((a.put (some 151) (.agg S)).put (some 152) (.agg E)).put (some 10) (.bool true)) ((v.drew.setRow r0 S).setRow r1 E)) :
    (Code.region 27 #[{ dst := some 151, op := Op.load 72 (Operand.tmp 4), type := 72, pos := "ref.go:235", after := #[], guard := none }, { dst := some 152, op := Op.load 45 (Operand.tmp 7), type := 45, pos := "ref.go:235", after := #[{ on := 2, ground := Ground.gcOnly Departure.lateStores }], guard := none }, { dst := none, op := Op.store 72 (Operand.tmp 8) (Operand.tmp 151), type := 0, pos := "ref.go:235", after := #[{ on := 0, ground := Ground.data }, { on := 0, ground := Ground.phase }, { on := 1, ground := Ground.textOnly Departure.lateStores }], guard := none }, { dst := none, op := Op.store 45 (Operand.tmp 9) (Operand.tmp 152), type := 0, pos := "ref.go:235", after := #[{ on := 1, ground := Ground.data }, { on := 2, ground := Ground.chain }, { on := 0, ground := Ground.phase }, { on := 1, ground := Ground.phase }, { on := 2, ground := Ground.phase }], guard := none }, { dst := some 10, op := Op.assign (Operand.const (Value.bool true)), type := 4, pos := "ref.go:235", after := #[{ on := 3, ground := Ground.chain }, { on := 0, ground := Ground.phase }, { on := 1, ground := Ground.phase }, { on := 2, ground := Ground.phase }, { on := 3, ground := Ground.phase }], guard := none }] true).wp Try.prog Q a v := by
  obtain ⟨Z0, z0, z1⟩ := F.b0
  obtain ⟨Z1, z2, z3⟩ := F.b1
  obtain ⟨ne1, ne2, ne3, ne4, ne5⟩ := F.ne
  have hSz : (Try.prog.info? 72).map (·.size) = some S.size := by rw [h19]; exact info_S
  have hEz : (Try.prog.info? 45).map (·.size) = some E.size := by rw [h6]; exact info_event
  have hb : ∀ t : Nat, v.drew.heap[t]? = u.heap[t]? := fun t => by rw [← hv]; rfl
  have hlS : ∀ u : World, u.heap[sb]? = some (.cells S 72) → (loadVar 72 ⟨sb, 0, none⟩).run Try.prog u = .ok (.agg S) u := fun u hu => run_loadVar_row u sb _ _ S (0, 0) _ hu Try.underlying72 rfl hSz
  have hlE : ∀ u : World, u.heap[eb]? = some (.cells E 45) → (loadVar 45 ⟨eb, 0, none⟩).run Try.prog u = .ok (.agg E) u := fun u hu => run_loadVar_row u eb _ _ E (0, 0) _ hu Try.underlying45 rfl hEz
  refine wp_region_held_drew (S := fun u => u.heap[sb]? = some (.cells S 72) ∧ u.heap[eb]? = some (.cells E 45)) (by kernel_rfl) ⟨(hb _).trans F.sB, (hb _).trans F.eB⟩ (fun hHeld => ?_)
  refine wpAnyH_take (i := 0) (oi := _) (v := .agg S) rfl (by kernel_rfl) (by kernel_rfl) (by kernel_rfl) (fun _ _ _ h => hQ _ _ _ _ _ h) (Or.inl ⟨by simp [Region.wanted], ?_⟩) hHeld ?_
  · intro u hSw; have hq := hlS u hSw.1; simp [execOp, Instr.loadAt, Instr.sureAddr, e1, hq]
  refine wpAnyH_take (i := 1) (oi := _) (v := .agg E) rfl (by kernel_rfl) (by kernel_rfl) (by kernel_rfl) (fun _ _ _ h => hQ _ _ _ _ _ h) (Or.inl ⟨by simp [Region.wanted], ?_⟩) hHeld ?_
  · intro u hSw; have hq := hlE u hSw.2
    have e2' : (a.put (some 151) (.agg S)).eval (.tmp 7) = .pointer (some ⟨eb, 0, none⟩) := (eval_put_ne (by decide)).trans e2
    simp [execOp, Instr.loadAt, Instr.sureAddr, e2', hq]
  refine wpAnyH_ready (rs := [2]) (by kernel_rfl) (by simp) ?_
  refine AllReadyH.cons (o := _) rfl (fun K hK => ?_) AllReadyH.nil
  rw [if_pos (by simp [Region.wanted])]
  refine wp_store_row 72 (.tmp 8) (.tmp 151) rfl r0 S ((eval_put_ne (by decide)).trans ((eval_put_ne (by decide)).trans e3)) ((eval_put_ne (by decide)).trans (eval_put_same (by rw [hsz]; decide))) 72 Z0 ((hb _).trans z0) hSz (by rw [z1, h19]) hS1 ?_
  refine hK.out _ _ ⟨(setRow_other _ _ _ _ (Ne.symm ne2)).trans hHeld.1, (setRow_other _ _ _ _ (Ne.symm ne3)).trans hHeld.2⟩ (fun hHeld => ?_)
  clear hK K
  refine wpAnyH_ready (rs := [3]) (by kernel_rfl) (by simp) ?_
  refine AllReadyH.cons (o := _) rfl (fun K hK => ?_) AllReadyH.nil
  rw [if_pos (by simp [Region.wanted])]
  refine wp_store_row 45 (.tmp 9) (.tmp 152) rfl r1 E ((eval_put_ne (by decide)).trans ((eval_put_ne (by decide)).trans e4)) (eval_put_same (a := a.put (some 151) (.agg S)) (by rw [put_size, hsz]; decide)) 45 Z1 ((setRow_other _ _ _ _ (Ne.symm ne1)).trans ((hb _).trans z2)) hEz (by rw [z3, h6]) hE1 ?_
  refine hK.out _ _ ⟨(setRow_other _ _ _ _ (Ne.symm ne4)).trans hHeld.1, (setRow_other _ _ _ _ (Ne.symm ne5)).trans hHeld.2⟩ (fun hHeld => ?_)
  clear hK K
  refine wpAnyH_take (i := 4) (oi := _) (v := .bool true) rfl (by kernel_rfl) (by kernel_rfl) (by kernel_rfl) (fun _ _ _ h => hQ _ _ _ _ _ h) (Or.inl ⟨by simp [Region.wanted], ?_⟩) hHeld ?_
  · intro u hSw; simp [execOp, Act.eval]
  refine wpAnyH_done (by kernel_rfl) ?_ _
  exact h
theorem fin_sync {Q : Exit → Act → World → Prop} {a : Act} {X0 : Nat → Prop} {w u v : World} {sb eb r0 r1 : Nat} {S E : Array Value} {fv : Nat → Value} {rs qs : Value} {fl : Nat → List Int} {n c : Nat} (F : Fx X0 w u sb eb r0 r1 S E fv rs qs fl n c) (hv : v.heap = u.heap) (h19 : S.size = 19) (hS1 : S.all (·.oneCell') = true) (h6 : E.size = 6) (hE1 : E.all (·.oneCell') = true) (hsz : a.tmps.size = 226) (hQ : ∀ c a s v w, Q (.panic c) (Act.put a (some s) v) w → Q (.panic c) a w)
    (e1 : a.eval (.tmp 4) = .pointer (some ⟨sb, 0, none⟩)) (e2 : a.eval (.tmp 7) = .pointer (some ⟨eb, 0, none⟩)) (e3 : a.eval (.tmp 8) = .pointer (some ⟨r0, 0, none⟩)) (e4 : a.eval (.tmp 9) = .pointer (some ⟨r1, 0, none⟩))
    (h : Q .normal (((a.put (some 224) (.agg S)).put (some 225) (.agg E)).put (some 10) (.bool true)) ((v.drew.setRow r0 S).setRow r1 E)) :
    (Code.region 43 #[{ dst := some 224, op := Op.load 72 (Operand.tmp 4), type := 72, pos := "ref.go:201", after := #[], guard := none }, { dst := some 225, op := Op.load 45 (Operand.tmp 7), type := 45, pos := "ref.go:201", after := #[{ on := 2, ground := Ground.gcOnly Departure.lateStores }], guard := none }, { dst := none, op := Op.store 72 (Operand.tmp 8) (Operand.tmp 224), type := 0, pos := "ref.go:201", after := #[{ on := 0, ground := Ground.data }, { on := 0, ground := Ground.phase }, { on := 1, ground := Ground.textOnly Departure.lateStores }], guard := none }, { dst := none, op := Op.store 45 (Operand.tmp 9) (Operand.tmp 225), type := 0, pos := "ref.go:201", after := #[{ on := 1, ground := Ground.data }, { on := 2, ground := Ground.chain }, { on := 0, ground := Ground.phase }, { on := 1, ground := Ground.phase }, { on := 2, ground := Ground.phase }], guard := none }, { dst := some 10, op := Op.assign (Operand.const (Value.bool true)), type := 4, pos := "ref.go:201", after := #[{ on := 3, ground := Ground.chain }, { on := 0, ground := Ground.phase }, { on := 1, ground := Ground.phase }, { on := 2, ground := Ground.phase }, { on := 3, ground := Ground.phase }], guard := none }] true).wp Try.prog Q a v := by
  obtain ⟨Z0, z0, z1⟩ := F.b0
  obtain ⟨Z1, z2, z3⟩ := F.b1
  obtain ⟨ne1, ne2, ne3, ne4, ne5⟩ := F.ne
  have hSz : (Try.prog.info? 72).map (·.size) = some S.size := by rw [h19]; exact info_S
  have hEz : (Try.prog.info? 45).map (·.size) = some E.size := by rw [h6]; exact info_event
  have hb : ∀ t : Nat, v.drew.heap[t]? = u.heap[t]? := fun t => by rw [← hv]; rfl
  have hlS : ∀ u : World, u.heap[sb]? = some (.cells S 72) → (loadVar 72 ⟨sb, 0, none⟩).run Try.prog u = .ok (.agg S) u := fun u hu => run_loadVar_row u sb _ _ S (0, 0) _ hu Try.underlying72 rfl hSz
  have hlE : ∀ u : World, u.heap[eb]? = some (.cells E 45) → (loadVar 45 ⟨eb, 0, none⟩).run Try.prog u = .ok (.agg E) u := fun u hu => run_loadVar_row u eb _ _ E (0, 0) _ hu Try.underlying45 rfl hEz
  refine wp_region_held_drew (S := fun u => u.heap[sb]? = some (.cells S 72) ∧ u.heap[eb]? = some (.cells E 45)) (by kernel_rfl) ⟨(hb _).trans F.sB, (hb _).trans F.eB⟩ (fun hHeld => ?_)
  refine wpAnyH_take (i := 0) (oi := _) (v := .agg S) rfl (by kernel_rfl) (by kernel_rfl) (by kernel_rfl) (fun _ _ _ h => hQ _ _ _ _ _ h) (Or.inl ⟨by simp [Region.wanted], ?_⟩) hHeld ?_
  · intro u hSw; have hq := hlS u hSw.1; simp [execOp, Instr.loadAt, Instr.sureAddr, e1, hq]
  refine wpAnyH_take (i := 1) (oi := _) (v := .agg E) rfl (by kernel_rfl) (by kernel_rfl) (by kernel_rfl) (fun _ _ _ h => hQ _ _ _ _ _ h) (Or.inl ⟨by simp [Region.wanted], ?_⟩) hHeld ?_
  · intro u hSw; have hq := hlE u hSw.2
    have e2' : (a.put (some 224) (.agg S)).eval (.tmp 7) = .pointer (some ⟨eb, 0, none⟩) := (eval_put_ne (by decide)).trans e2
    simp [execOp, Instr.loadAt, Instr.sureAddr, e2', hq]
  refine wpAnyH_ready (rs := [2]) (by kernel_rfl) (by simp) ?_
  refine AllReadyH.cons (o := _) rfl (fun K hK => ?_) AllReadyH.nil
  rw [if_pos (by simp [Region.wanted])]
  refine wp_store_row 72 (.tmp 8) (.tmp 224) rfl r0 S ((eval_put_ne (by decide)).trans ((eval_put_ne (by decide)).trans e3)) ((eval_put_ne (by decide)).trans (eval_put_same (by rw [hsz]; decide))) 72 Z0 ((hb _).trans z0) hSz (by rw [z1, h19]) hS1 ?_
  refine hK.out _ _ ⟨(setRow_other _ _ _ _ (Ne.symm ne2)).trans hHeld.1, (setRow_other _ _ _ _ (Ne.symm ne3)).trans hHeld.2⟩ (fun hHeld => ?_)
  clear hK K
  refine wpAnyH_ready (rs := [3]) (by kernel_rfl) (by simp) ?_
  refine AllReadyH.cons (o := _) rfl (fun K hK => ?_) AllReadyH.nil
  rw [if_pos (by simp [Region.wanted])]
  refine wp_store_row 45 (.tmp 9) (.tmp 225) rfl r1 E ((eval_put_ne (by decide)).trans ((eval_put_ne (by decide)).trans e4)) (eval_put_same (a := a.put (some 224) (.agg S)) (by rw [put_size, hsz]; decide)) 45 Z1 ((setRow_other _ _ _ _ (Ne.symm ne1)).trans ((hb _).trans z2)) hEz (by rw [z3, h6]) hE1 ?_
  refine hK.out _ _ ⟨(setRow_other _ _ _ _ (Ne.symm ne4)).trans hHeld.1, (setRow_other _ _ _ _ (Ne.symm ne5)).trans hHeld.2⟩ (fun hHeld => ?_)
  clear hK K
  refine wpAnyH_take (i := 4) (oi := _) (v := .bool true) rfl (by kernel_rfl) (by kernel_rfl) (by kernel_rfl) (fun _ _ _ h => hQ _ _ _ _ _ h) (Or.inl ⟨by simp [Region.wanted], ?_⟩) hHeld ?_
  · intro u hSw; simp [execOp, Act.eval]
  refine wpAnyH_done (by kernel_rfl) ?_ _
  exact h
theorem fin_step {Q : Exit → Act → World → Prop} {a : Act} {X0 : Nat → Prop} {w u v : World} {sb eb r0 r1 : Nat} {S E : Array Value} {fv : Nat → Value} {rs qs : Value} {fl : Nat → List Int} {n c : Nat} (F : Fx X0 w u sb eb r0 r1 S E fv rs qs fl n c) (hv : v.heap = u.heap) (h19 : S.size = 19) (hS1 : S.all (·.oneCell') = true) (h6 : E.size = 6) (hE1 : E.all (·.oneCell') = true) (hsz : a.tmps.size = 235) (hQ : ∀ c a s v w, Q (.panic c) (Act.put a (some s) v) w → Q (.panic c) a w)
    (e1 : a.eval (.tmp 7) = .pointer (some ⟨sb, 0, none⟩)) (e2 : a.eval (.tmp 9) = .pointer (some ⟨eb, 0, none⟩)) (e3 : a.eval (.tmp 4) = .pointer (some ⟨r0, 0, none⟩)) (e4 : a.eval (.tmp 5) = .pointer (some ⟨r1, 0, none⟩))
    (h : Q .normal (((a.put (some 233) (.agg S)).put (some 234) (.agg E)).put (some 6) (.bool true)) ((v.drew.setRow r0 S).setRow r1 E)) :
    (Code.region 38 #[{ dst := some 233, op := Op.load 72 (Operand.tmp 7), type := 72, pos := "ref.go:147", after := #[], guard := none }, { dst := some 234, op := Op.load 45 (Operand.tmp 9), type := 45, pos := "ref.go:147", after := #[{ on := 2, ground := Ground.gcOnly Departure.lateStores }], guard := none }, { dst := none, op := Op.store 72 (Operand.tmp 4) (Operand.tmp 233), type := 0, pos := "ref.go:147", after := #[{ on := 0, ground := Ground.data }, { on := 0, ground := Ground.phase }, { on := 1, ground := Ground.textOnly Departure.lateStores }], guard := none }, { dst := none, op := Op.store 45 (Operand.tmp 5) (Operand.tmp 234), type := 0, pos := "ref.go:147", after := #[{ on := 1, ground := Ground.data }, { on := 2, ground := Ground.chain }, { on := 0, ground := Ground.phase }, { on := 1, ground := Ground.phase }, { on := 2, ground := Ground.phase }], guard := none }, { dst := some 6, op := Op.assign (Operand.const (Value.bool true)), type := 4, pos := "ref.go:147", after := #[{ on := 3, ground := Ground.chain }, { on := 0, ground := Ground.phase }, { on := 1, ground := Ground.phase }, { on := 2, ground := Ground.phase }, { on := 3, ground := Ground.phase }], guard := none }] true).wp Try.prog Q a v := by
  obtain ⟨Z0, z0, z1⟩ := F.b0
  obtain ⟨Z1, z2, z3⟩ := F.b1
  obtain ⟨ne1, ne2, ne3, ne4, ne5⟩ := F.ne
  have hSz : (Try.prog.info? 72).map (·.size) = some S.size := by rw [h19]; exact info_S
  have hEz : (Try.prog.info? 45).map (·.size) = some E.size := by rw [h6]; exact info_event
  have hb : ∀ t : Nat, v.drew.heap[t]? = u.heap[t]? := fun t => by rw [← hv]; rfl
  have hlS : ∀ u : World, u.heap[sb]? = some (.cells S 72) → (loadVar 72 ⟨sb, 0, none⟩).run Try.prog u = .ok (.agg S) u := fun u hu => run_loadVar_row u sb _ _ S (0, 0) _ hu Try.underlying72 rfl hSz
  have hlE : ∀ u : World, u.heap[eb]? = some (.cells E 45) → (loadVar 45 ⟨eb, 0, none⟩).run Try.prog u = .ok (.agg E) u := fun u hu => run_loadVar_row u eb _ _ E (0, 0) _ hu Try.underlying45 rfl hEz
  refine wp_region_held_drew (S := fun u => u.heap[sb]? = some (.cells S 72) ∧ u.heap[eb]? = some (.cells E 45)) (by kernel_rfl) ⟨(hb _).trans F.sB, (hb _).trans F.eB⟩ (fun hHeld => ?_)
  refine wpAnyH_take (i := 0) (oi := _) (v := .agg S) rfl (by kernel_rfl) (by kernel_rfl) (by kernel_rfl) (fun _ _ _ h => hQ _ _ _ _ _ h) (Or.inl ⟨by simp [Region.wanted], ?_⟩) hHeld ?_
  · intro u hSw; have hq := hlS u hSw.1; simp [execOp, Instr.loadAt, Instr.sureAddr, e1, hq]
  refine wpAnyH_take (i := 1) (oi := _) (v := .agg E) rfl (by kernel_rfl) (by kernel_rfl) (by kernel_rfl) (fun _ _ _ h => hQ _ _ _ _ _ h) (Or.inl ⟨by simp [Region.wanted], ?_⟩) hHeld ?_
  · intro u hSw; have hq := hlE u hSw.2
    have e2' : (a.put (some 233) (.agg S)).eval (.tmp 9) = .pointer (some ⟨eb, 0, none⟩) := (eval_put_ne (by decide)).trans e2
    simp [execOp, Instr.loadAt, Instr.sureAddr, e2', hq]
  refine wpAnyH_ready (rs := [2]) (by kernel_rfl) (by simp) ?_
  refine AllReadyH.cons (o := _) rfl (fun K hK => ?_) AllReadyH.nil
  rw [if_pos (by simp [Region.wanted])]
  refine wp_store_row 72 (.tmp 4) (.tmp 233) rfl r0 S ((eval_put_ne (by decide)).trans ((eval_put_ne (by decide)).trans e3)) ((eval_put_ne (by decide)).trans (eval_put_same (by rw [hsz]; decide))) 72 Z0 ((hb _).trans z0) hSz (by rw [z1, h19]) hS1 ?_
  refine hK.out _ _ ⟨(setRow_other _ _ _ _ (Ne.symm ne2)).trans hHeld.1, (setRow_other _ _ _ _ (Ne.symm ne3)).trans hHeld.2⟩ (fun hHeld => ?_)
  clear hK K
  refine wpAnyH_ready (rs := [3]) (by kernel_rfl) (by simp) ?_
  refine AllReadyH.cons (o := _) rfl (fun K hK => ?_) AllReadyH.nil
  rw [if_pos (by simp [Region.wanted])]
  refine wp_store_row 45 (.tmp 5) (.tmp 234) rfl r1 E ((eval_put_ne (by decide)).trans ((eval_put_ne (by decide)).trans e4)) (eval_put_same (a := a.put (some 233) (.agg S)) (by rw [put_size, hsz]; decide)) 45 Z1 ((setRow_other _ _ _ _ (Ne.symm ne1)).trans ((hb _).trans z2)) hEz (by rw [z3, h6]) hE1 ?_
  refine hK.out _ _ ⟨(setRow_other _ _ _ _ (Ne.symm ne4)).trans hHeld.1, (setRow_other _ _ _ _ (Ne.symm ne5)).trans hHeld.2⟩ (fun hHeld => ?_)
  clear hK K
  refine wpAnyH_take (i := 4) (oi := _) (v := .bool true) rfl (by kernel_rfl) (by kernel_rfl) (by kernel_rfl) (fun _ _ _ h => hQ _ _ _ _ _ h) (Or.inl ⟨by simp [Region.wanted], ?_⟩) hHeld ?_
  · intro u hSw; simp [execOp, Act.eval]
  refine wpAnyH_done (by kernel_rfl) ?_ _
  exact h
end Go.Proofs.Ytnbpneaiibandaa
