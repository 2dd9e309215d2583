/- What the laws of this seat stand on, part 15. -/
import Derived.Test.YtnbpneaiibandaaPa0
import Derived.Test.YtnbpneaiibandaaPa14
set_option linter.unusedVariables false
set_option linter.unusedSimpArgs false
set_option maxRecDepth 100000
set_option maxHeartbeats 40000000
namespace Go.Proofs.Ytnbpneaiibandaa
open Go.ChangeShapes Go.WideShapes Go.ChangeAt Go.RowKit
def stepA_front : PSigma fun R : (S0 : Array Value) → (p : ProgD) → (ca : Option Addr) → (ccap : Nat) → (ta : Option Addr) → (tcap : Nat) → (fo fl : Nat → List Int) → (n c : Nat) → (w : World) → (k q : Nat) → (ck : List InsD) → (o : Nat) → (oi xa xb xc : Int) → (Q : Ending → World → Prop) → Prop =>
    ∀ (S0 : Array Value) (p : ProgD) (ca : Option Addr) (ccap : Nat) (ta : Option Addr) (tcap : Nat) (fv0 : Nat → Value) (rs0 qs0 : Value) (fo fl : Nat → List Int) (n c : Nat) (w : World) (hS0 : SV S0 p ca ccap ta tcap fv0 rs0 qs0 0) (hP : ProgIn w w.heap.size p ca ta) (hn : n ≤ 6) (hc : c ≤ 4) (k q : Nat) (hk : k < n) (hr4 : (fl (9 + k)).length = 4) (hq : (fo 0)[k]? = some (q : Int)) (hfl : fl = updF fo 0 ((fo 0).set k ((q : Int) + 1))) (hq1 : q ≤ 1000) (ck : List InsD) (hck : p.threads[k]? = some ck) (hC : ∀ u, Below w.heap.size w u → Calls Try.prog 56 #[.agg S0, .int .i64 k] u fun e w' => e = .returned (.bool true) ∧ Below u.heap.size u w') (hK : ∀ u, Below w.heap.size w u → Calls Try.prog 57 #[.agg S0] u fun e w' => ∃ S fv rs qs, e = .returned (.agg S) ∧ SV S p ca ccap ta tcap fv rs qs 0 ∧ Ow w' u.heap.size fv rs qs fo n c ∧ Below u.heap.size u w') (t2 : Option Addr) (ht : ta = t2) (o : Nat) (oi xa xb xc : Int) (hoi : oi = o) (hx : ck[q]? = some ⟨o, xa, xb, xc⟩) (Q : Ending → World → Prop) (h : R S0 p ca ccap t2 tcap fo fl n c w k q ck o oi xa xb xc Q), Calls Try.prog 36 #[.agg S0, .int .i64 k] w Q := by
  apply PSigma.mk
  intro S0 p ca ccap ta tcap fv0 rs0 qs0 fo fl n c w hS0 hP hn hc k q hk hr4 hq hfl hq1 ck hck hC hK t2 ht o oi xa xb xc hoi hx Q h
  have HT := Lib.hid ht
  clear ht
  have HOI := Lib.hid hoi
  clear hoi
  have hSz : (Try.prog.info? 72).map (·.size) = some S0.size := by rw [hS0.eq]; exact info_S
  have HC := Lib.hid hC
  have HK := Lib.hid hK
  have HP := Lib.hid hP
  have HFL := Lib.hid hfl
  clear hfl
  have hkt := (List.getElem?_eq_some_iff.1 hck).1
  have hqc := (List.getElem?_eq_some_iff.1 hx).1
  have hq0 := (List.getElem?_eq_some_iff.1 hq).1
  have htl := hP.tlen
  clear hC hK hP hS0
  go_enter Try.func36, Try.ntmps36
  go_upto_region 1 with (fail)
  generalize hW : World.alloc (World.alloc (World.alloc w _) _) _ = W
  have HB : Hid (Below w.heap.size w W) := Lib.hid (by rw [← hW]; exact below_three _ _ _ _)
  have HN0 : Hid (W.heap[w.heap.size]? = some (.cells S0 72)) := Lib.hid (by rw [← hW]; exact three_old)
  have hN1 := (congrArg (fun x : World => x.heap[w.heap.size + 1]?) hW).symm.trans three_mid
  have hN2 := (congrArg (fun x : World => x.heap[w.heap.size + 1 + 1]?) hW).symm.trans (alloc_at _ _ (by simp))
  have HN1 := Lib.hid hN1
  have HN2 := Lib.hid hN2
  clear hW hN1 hN2
  go_wp2_with (first
    | (refine wpList_store_row rfl 72 (.tmp 7) (.tmp 18) rfl w2.heap.size S rfl rfl 72 _ (heap_alloc_new _ _) hSz2 (by rw [hS19]; rfl) hS1 ?_)
    | (go_at_call 57; refine (HK.out w1 HB1.out).mono ?_; rintro e w2 ⟨S, fv, rs, qs, rfl, hS, hO, hB2⟩; have hSz2 : (Try.prog.info? 72).map (·.size) = some S.size := (by rw [hS.eq]; exact info_S); have hS19 : S.size = 19 := (by rw [hS.eq]; rfl); have hS1 : S.all (·.oneCell') = true := (sv_one hS hO.rf); have HO := Lib.hid hO; have hSV := Lib.hid hS; have HL0 := Lib.hid (old_later HM1.out hB2); have HL1 := Lib.hid (old_later HM2.out hB2); have hsz1 := hB2.size; have hszM := (Array.getElem?_eq_some_iff.1 HM2.out).1; have HB2 := Lib.hid (below_next HB1.out hB2); clear hO hS hB2)
    | (refine wpList_load_row rfl 72 (.tmp 2) rfl w.heap.size rfl 72 S0 (0, 0) _ HM0.out Try.underlying72 rfl hSz ?_)
    | (go_at_call 56; refine (HC.out W HB.out).mono ?_; rintro e w1 ⟨rfl, hB1⟩; have HM0 := Lib.hid (old_later HN0.out hB1); have HM1 := Lib.hid (old_later HN1.out hB1); have HM2 := Lib.hid (old_later HN2.out hB1); have HB1 := Lib.hid (below_next HB.out hB1); clear hB1)
    | (refine wpList_load_row rfl 72 (.tmp 2) rfl w.heap.size rfl 72 S0 (0, 0) _ HN0.out Try.underlying72 rfl hSz ?_))
  generalize hV : World.setRow (World.alloc w2 _) _ _ = V
  have HVS : Hid (V.heap[w2.heap.size]? = some (.cells S 72)) := Lib.hid (by rw [← hV]; exact setRow_heap _ _ _ _ _ _ (heap_alloc_new _ _))
  have hold : ∀ t, t < w2.heap.size → V.heap[t]? = w2.heap[t]? := fun t ht => by rw [← hV]; exact (setRow_other _ _ _ _ (by omega)).trans (Below.heap_alloc _ _ _ ht)
  have HVO : Hid (Ow V w1.heap.size fv rs qs fo n c) := Lib.hid (by rw [← hV]; exact HO.out.boxed (sb := 0) _)
  have HVB : Hid (Below w.heap.size w V) := Lib.hid (by rw [← hV]; exact below_row (HB2.out.alloc HB2.out.size _) HB2.out.size _)
  have hlM := hszM
  have HV0 := Lib.hid ((hold _ (Nat.lt_of_lt_of_le (Array.getElem?_eq_some_iff.1 HM1.out).1 hsz1)).trans HL0.out)
  have HV1 := Lib.hid ((hold _ (Nat.lt_of_lt_of_le hszM hsz1)).trans HL1.out)
  have hVs : w2.heap.size < V.heap.size := (Array.getElem?_eq_some_iff.1 HVS.out).1
  have hw1 := HVO.out.fam.top
  have hlt : ∀ g, Held fv rs qs g → g < w2.heap.size := fun g h => by
    rcases h with ⟨i, h⟩ | h | h
    · exact (own_lt (HO.out.fam.row i) g h).1
    · exact (own_lt HO.out.regs g h).1
    · exact (own_lt HO.out.queue g h).1
  clear hV hold HL0 HL1 HM0 HM1 HM2 HN0 HN1 HN2 HO HC HK HB HB1 HB2
  obtain ⟨g2, o2, e2, hg2, a2, k2, hc2, hcode⟩ := HP.out.threads k ck hck
  obtain ⟨g3, o3, e3, hg3, j0, j1, j2, j3⟩ := hcode q _ hx
  subst e2 e3
  obtain ⟨g0, cap0, e0, _, _, hc0, hf0⟩ := HVO.out.fam.cell hq
  have E0 := Lib.hid e0
  have HS7 : Hid (S[7]? = some (.slice (some ⟨g0, 0, none⟩) (fo 0).length cap0)) := Lib.hid (by rw [← e0, hSV.out.eq]; rfl)
  have y6 : V.cell? ⟨w2.heap.size, 6, none⟩ = some (.slice (some ⟨g2, o2, none⟩) p.threads.length tcap) := (cell_of_row _ _ _ _ _ _ HVS.out).trans (by rw [hSV.out.eq]; rfl)
  have y7 : V.cell? ⟨w2.heap.size, 7, none⟩ = some (.slice (some ⟨g0, 0, none⟩) (fo 0).length cap0) := (cell_of_row _ _ _ _ _ _ HVS.out).trans HS7.out
  have z2 : V.cell? ⟨g2, o2 + k, none⟩ = some (.slice (some ⟨g3, o3, none⟩) ck.length k2) := (HVB.out.cell (p := ⟨g2, o2 + k, none⟩) hg2).trans hc2
  have m0 : V.cell? ⟨g3, o3 + q * 4, none⟩ = some (.int .u8 oi) := (HVB.out.cell (p := ⟨g3, o3 + q * 4, none⟩) hg3).trans (by rw [HOI.out]; exact j0)
  have m1 : V.cell? ⟨g3, o3 + q * 4 + 1, none⟩ = some (.int .i64 xa) := (HVB.out.cell (p := ⟨g3, o3 + q * 4 + 1, none⟩) hg3).trans j1
  have m2 : V.cell? ⟨g3, o3 + q * 4 + 2, none⟩ = some (.int .i64 xb) := (HVB.out.cell (p := ⟨g3, o3 + q * 4 + 2, none⟩) hg3).trans j2
  have m3 : V.cell? ⟨g3, o3 + q * 4 + 3, none⟩ = some (.int .i64 xc) := (HVB.out.cell (p := ⟨g3, o3 + q * 4 + 3, none⟩) hg3).trans j3
  clear e0 j0 j1 j2 j3 hc2 hcode
  refine wp_region_held_drew (S := fun u => u.cell? ⟨w2.heap.size, 6, none⟩ = some (.slice (some ⟨g2, o2, none⟩) p.threads.length tcap) ∧ u.cell? ⟨w2.heap.size, 7, none⟩ = some (.slice (some ⟨g0, 0, none⟩) (fo 0).length cap0) ∧ u.cell? ⟨g2, o2 + k, none⟩ = some (.slice (some ⟨g3, o3, none⟩) ck.length k2) ∧ u.cell? ⟨g0, k, none⟩ = some (.int .i64 (q : Int)) ∧ u.cell? ⟨g3, o3 + q * 4, none⟩ = some (.int .u8 oi) ∧ u.cell? ⟨g3, o3 + q * 4 + 1, none⟩ = some (.int .i64 xa) ∧ u.cell? ⟨g3, o3 + q * 4 + 2, none⟩ = some (.int .i64 xb) ∧ u.cell? ⟨g3, o3 + q * 4 + 3, none⟩ = some (.int .i64 xc)) (by kernel_rfl) ⟨y6, y7, z2, hc0, m0, m1, m2, m3⟩ (fun hHeld => ?_)
  refine wpAnyH_take (i := 0) (oi := _) (v := ?_) rfl (by kernel_rfl) (by kernel_rfl) (by kernel_rfl) (fun _ _ _ h => h) (Or.inl ⟨by rfl, ?_⟩) hHeld ?_
  rotate_left
  · intro u hSw; obtain ⟨z0, z1, z2, z3, z4, z5, z6, z7⟩ := hSw; go_simp; try (with_reducible rfl)
  (try simp only [zz0, zz1, zz2, Act.put, zz3, zz4, zz5])
  refine wpAnyH_take (i := 1) (oi := _) (v := ?_) rfl (by kernel_rfl) (by kernel_rfl) (by kernel_rfl) (fun _ _ _ h => h) (Or.inl ⟨by rfl, ?_⟩) hHeld ?_
  rotate_left
  · intro u hSw; obtain ⟨z0, z1, z2, z3, z4, z5, z6, z7⟩ := hSw; go_simp; try (with_reducible rfl)
  (try simp only [zz0, zz1, zz2, Act.put, zz3, zz4, zz5])
  refine wpAnyH_take (i := 2) (oi := _) (v := ?_) rfl (by kernel_rfl) (by kernel_rfl) (by kernel_rfl) (fun _ _ _ h => h) (Or.inl ⟨by rfl, ?_⟩) hHeld ?_
  rotate_left
  · intro u hSw; obtain ⟨z0, z1, z2, z3, z4, z5, z6, z7⟩ := hSw; go_simp; try (with_reducible rfl)
  (try simp only [zz0, zz1, zz2, Act.put, zz3, zz4, zz5])
  refine wpAnyH_take (i := 3) (oi := _) (v := ?_) rfl (by kernel_rfl) (by kernel_rfl) (by kernel_rfl) (fun _ _ _ h => h) (Or.inl ⟨by rfl, ?_⟩) hHeld ?_
  rotate_left
  · intro u hSw; obtain ⟨z0, z1, z2, z3, z4, z5, z6, z7⟩ := hSw; go_simp; try (with_reducible rfl)
  (try simp only [zz0, zz1, zz2, Act.put, zz3, zz4, zz5])
  refine wpAnyH_take (i := 4) (oi := _) (v := ?_) rfl (by kernel_rfl) (by kernel_rfl) (by kernel_rfl) (fun _ _ _ h => h) (Or.inl ⟨by rfl, ?_⟩) hHeld ?_
  rotate_left
  · intro u hSw; obtain ⟨z0, z1, z2, z3, z4, z5, z6, z7⟩ := hSw; go_simp; try (with_reducible rfl)
  (try simp only [zz0, zz1, zz2, Act.put, zz3, zz4, zz5])
  refine wpAnyH_take (i := 5) (oi := _) (v := ?_) rfl (by kernel_rfl) (by kernel_rfl) (by kernel_rfl) (fun _ _ _ h => h) (Or.inl ⟨by rfl, ?_⟩) hHeld ?_
  rotate_left
  · intro u hSw; obtain ⟨z0, z1, z2, z3, z4, z5, z6, z7⟩ := hSw; go_simp; try (with_reducible rfl)
  (try simp only [zz0, zz1, zz2, Act.put, zz3, zz4, zz5])
  refine wpAnyH_take (i := 6) (oi := _) (v := ?_) rfl (by kernel_rfl) (by kernel_rfl) (by kernel_rfl) (fun _ _ _ h => h) (Or.inl ⟨by rfl, ?_⟩) hHeld ?_
  rotate_left
  · intro u hSw; obtain ⟨z0, z1, z2, z3, z4, z5, z6, z7⟩ := hSw; go_simp; try (with_reducible rfl)
  (try simp only [zz0, zz1, zz2, Act.put, zz3, zz4, zz5])
  refine wpAnyH_take (i := 7) (oi := _) (v := ?_) rfl (by kernel_rfl) (by kernel_rfl) (by kernel_rfl) (fun _ _ _ h => h) (Or.inl ⟨by rfl, ?_⟩) hHeld ?_
  rotate_left
  · intro u hSw; obtain ⟨z0, z1, z2, z3, z4, z5, z6, z7⟩ := hSw; go_simp; try (with_reducible rfl)
  (try simp only [zz0, zz1, zz2, Act.put, zz3, zz4, zz5])
  refine wpAnyH_take (i := 8) (oi := _) (v := ?_) rfl (by kernel_rfl) (by kernel_rfl) (by kernel_rfl) (fun _ _ _ h => h) (Or.inl ⟨by rfl, ?_⟩) hHeld ?_
  rotate_left
  · intro u hSw; obtain ⟨z0, z1, z2, z3, z4, z5, z6, z7⟩ := hSw; go_simp; try (with_reducible rfl)
  (try simp only [zz0, zz1, zz2, Act.put, zz3, zz4, zz5])
  refine wpAnyH_take (i := 9) (oi := _) (v := ?_) rfl (by kernel_rfl) (by kernel_rfl) (by kernel_rfl) (fun _ _ _ h => h) (Or.inl ⟨by rfl, ?_⟩) hHeld ?_
  rotate_left
  · intro u hSw; obtain ⟨z0, z1, z2, z3, z4, z5, z6, z7⟩ := hSw; go_simp; try (with_reducible rfl)
  (try simp only [zz0, zz1, zz2, Act.put, zz3, zz4, zz5])
  refine wpAnyH_take (i := 10) (oi := _) (v := ?_) rfl (by kernel_rfl) (by kernel_rfl) (by kernel_rfl) (fun _ _ _ h => h) (Or.inl ⟨by rfl, ?_⟩) hHeld ?_
  rotate_left
  · intro u hSw; obtain ⟨z0, z1, z2, z3, z4, z5, z6, z7⟩ := hSw; go_simp; try (with_reducible rfl)
  (try simp only [zz0, zz1, zz2, Act.put, zz3, zz4, zz5])
  refine wpAnyH_take (i := 11) (oi := _) (v := ?_) rfl (by kernel_rfl) (by kernel_rfl) (by kernel_rfl) (fun _ _ _ h => h) (Or.inl ⟨by rfl, ?_⟩) hHeld ?_
  rotate_left
  · intro u hSw; obtain ⟨z0, z1, z2, z3, z4, z5, z6, z7⟩ := hSw; go_simp; try (with_reducible rfl)
  (try simp only [zz0, zz1, zz2, Act.put, zz3, zz4, zz5])
  refine wpAnyH_take (i := 12) (oi := _) (v := ?_) rfl (by kernel_rfl) (by kernel_rfl) (by kernel_rfl) (fun _ _ _ h => h) (Or.inl ⟨by rfl, ?_⟩) hHeld ?_
  rotate_left
  · intro u hSw; obtain ⟨z0, z1, z2, z3, z4, z5, z6, z7⟩ := hSw; go_simp; try (with_reducible rfl)
  (try simp only [zz0, zz1, zz2, Act.put, zz3, zz4, zz5])
  refine wpAnyH_ready (rs := [13]) (by kernel_rfl) (by simp) ?_
  refine AllReadyH.cons (o := _) rfl (fun K hK => ?_) AllReadyH.nil
  rw [if_pos (by rfl)]
  go_simp
  refine hK.out _ _ ⟨Lib.cell?_alloc_some _ hHeld.1, Lib.cell?_alloc_some _ hHeld.2.1, Lib.cell?_alloc_some _ hHeld.2.2.1, Lib.cell?_alloc_some _ hHeld.2.2.2.1, Lib.cell?_alloc_some _ hHeld.2.2.2.2.1, Lib.cell?_alloc_some _ hHeld.2.2.2.2.2.1, Lib.cell?_alloc_some _ hHeld.2.2.2.2.2.2.1, Lib.cell?_alloc_some _ hHeld.2.2.2.2.2.2.2⟩ (fun hHeld => ?_)
  clear hK K
  (try simp only [zz0, zz1, zz2, Act.put, zz3, zz4, zz5])
  refine wpAnyH_ready (rs := [14]) (by kernel_rfl) (by simp) ?_
  refine AllReadyH.cons (o := _) rfl (fun K hK => ?_) AllReadyH.nil
  rw [if_pos (by rfl)]
  refine wp_store_row 49 (.tmp 8) (.tmp 31) rfl (V.heap.size) #[.int .u8 oi, .int .i64 xa, .int .i64 xb, .int .i64 xc] rfl rfl 49 #[.int .u8 0, .int .i64 0, .int .i64 0, .int .i64 0] (heap_alloc_new _ _) info_ins4 rfl (by simp [Value.oneCell']) ?_
  refine hK.out _ _ ⟨cell_row hHeld.1 (Nat.ne_of_lt (cell_lt y6)), cell_row hHeld.2.1 (Nat.ne_of_lt (cell_lt y7)), cell_row hHeld.2.2.1 (Nat.ne_of_lt (cell_lt z2)), cell_row hHeld.2.2.2.1 (Nat.ne_of_lt (cell_lt hc0)), cell_row hHeld.2.2.2.2.1 (Nat.ne_of_lt (cell_lt m0)), cell_row hHeld.2.2.2.2.2.1 (Nat.ne_of_lt (cell_lt m1)), cell_row hHeld.2.2.2.2.2.2.1 (Nat.ne_of_lt (cell_lt m2)), cell_row hHeld.2.2.2.2.2.2.2 (Nat.ne_of_lt (cell_lt m3))⟩ (fun hHeld => ?_)
  clear hK K
  (try simp only [zz0, zz1, zz2, Act.put, zz3, zz4, zz5])
  refine wpAnyH_done (by kernel_rfl) ?_ _
  generalize hV2 : World.setRow _ _ _ = V2
  have T2 : Touch (fun _ => False) V V2 := by rw [← hV2]; exact touch_box
  have i2B : V2.heap[V.heap.size]? = some (.cells #[.int .u8 oi, .int .i64 xa, .int .i64 xb, .int .i64 xc] 49) := by rw [← hV2]; exact setRow_heap _ _ _ _ _ _ (heap_alloc_new _ _)
  have y7b := T2.cel y7
  have hc0b := T2.cel hc0
  have m0b := (cells4 i2B).1
  have HI2 := Lib.hid i2B
  have HT2 := Lib.hid T2
  have hV2s : V.heap.size < V2.heap.size := (Array.getElem?_eq_some_iff.1 i2B).1
  clear hV2 i2B T2 y6 y7 z2 hc0 m0 m1 m2 m3 hHeld
  go_upto_region 5 with (fail)
  refine wp_region_held_drew (S := fun u => u.cell? ⟨w2.heap.size, 7, none⟩ = some (.slice (some ⟨g0, 0, none⟩) (fo 0).length cap0) ∧ u.cell? ⟨g0, k, none⟩ = some (.int .i64 (q : Int)) ∧ u.cell? ⟨V.heap.size, 0, none⟩ = some (.int .u8 oi)) (by kernel_rfl) ⟨y7b, hc0b, m0b⟩ (fun hHeld => ?_)
  refine wpAnyH_take (i := 0) (oi := _) (v := ?_) rfl (by kernel_rfl) (by kernel_rfl) (by kernel_rfl) (fun _ _ _ h => h) (Or.inl ⟨by rfl, ?_⟩) hHeld ?_
  rotate_left
  · intro u hSw; obtain ⟨z0, z1, z2⟩ := hSw; go_simp; try (with_reducible rfl)
  (try simp only [zz0, zz1, zz2, Act.put, zz3, zz4, zz5])
  refine wpAnyH_take (i := 1) (oi := _) (v := ?_) rfl (by kernel_rfl) (by kernel_rfl) (by kernel_rfl) (fun _ _ _ h => h) (Or.inl ⟨by rfl, ?_⟩) hHeld ?_
  rotate_left
  · intro u hSw; obtain ⟨z0, z1, z2⟩ := hSw; go_simp; try (with_reducible rfl)
  (try simp only [zz0, zz1, zz2, Act.put, zz3, zz4, zz5])
  refine wpAnyH_take (i := 2) (oi := _) (v := ?_) rfl (by kernel_rfl) (by kernel_rfl) (by kernel_rfl) (fun _ _ _ h => h) (Or.inl ⟨by rfl, ?_⟩) hHeld ?_
  rotate_left
  · intro u hSw; obtain ⟨z0, z1, z2⟩ := hSw; go_simp; try (with_reducible rfl)
  (try simp only [zz0, zz1, zz2, Act.put, zz3, zz4, zz5])
  refine wpAnyH_take (i := 3) (oi := _) (v := ?_) rfl (by kernel_rfl) (by kernel_rfl) (by kernel_rfl) (fun _ _ _ h => h) (Or.inl ⟨by rfl, ?_⟩) hHeld ?_
  rotate_left
  · intro u hSw; obtain ⟨z0, z1, z2⟩ := hSw; go_simp; try (with_reducible rfl)
  (try simp only [zz0, zz1, zz2, Act.put, zz3, zz4, zz5])
  refine wpAnyH_take (i := 4) (oi := _) (v := ?_) rfl (by kernel_rfl) (by kernel_rfl) (by kernel_rfl) (fun _ _ _ h => h) (Or.inl ⟨by rfl, ?_⟩) hHeld ?_
  rotate_left
  · intro u hSw; obtain ⟨z0, z1, z2⟩ := hSw; go_simp; try (with_reducible rfl)
  (try simp only [zz0, zz1, zz2, Act.put, zz3, zz4, zz5])
  refine wpAnyH_take (i := 5) (oi := _) (v := ?_) rfl (by kernel_rfl) (by kernel_rfl) (by kernel_rfl) (fun _ _ _ h => h) (Or.inl ⟨by rfl, ?_⟩) hHeld ?_
  rotate_left
  · intro u hSw; obtain ⟨z0, z1, z2⟩ := hSw; go_simp; try (with_reducible rfl)
  (try simp only [zz0, zz1, zz2, Act.put, zz3, zz4, zz5])
  refine wpAnyH_take (i := 6) (oi := _) (v := ?_) rfl (by kernel_rfl) (by kernel_rfl) (by kernel_rfl) (fun _ _ _ h => h) (Or.inl ⟨by rfl, ?_⟩) hHeld ?_
  rotate_left
  · intro u hSw; obtain ⟨z0, z1, z2⟩ := hSw; go_simp; try (with_reducible rfl)
  (try simp only [zz0, zz1, zz2, Act.put, zz3, zz4, zz5])
  refine wpAnyH_take (i := 7) (oi := _) (v := ?_) rfl (by kernel_rfl) (by kernel_rfl) (by kernel_rfl) (fun _ _ _ h => h) (Or.inl ⟨by rfl, ?_⟩) hHeld ?_
  rotate_left
  · intro u hSw; obtain ⟨z0, z1, z2⟩ := hSw; go_simp; try (with_reducible rfl)
  (try simp only [zz0, zz1, zz2, Act.put, zz3, zz4, zz5])
  refine wpAnyH_take (i := 8) (oi := _) (v := ?_) rfl (by kernel_rfl) (by kernel_rfl) (by kernel_rfl) (fun _ _ _ h => h) (Or.inl ⟨by rfl, ?_⟩) hHeld ?_
  rotate_left
  · intro u hSw; obtain ⟨z0, z1, z2⟩ := hSw; go_simp; try (with_reducible rfl)
  (try simp only [zz0, zz1, zz2, Act.put, zz3, zz4, zz5])
  refine wpAnyH_ready (rs := [9]) (by kernel_rfl) (by simp) ?_
  refine AllReadyH.cons (o := _) rfl (fun K hK => ?_) AllReadyH.nil
  rw [if_pos (by rfl)]
  go_simp
  refine hK.out _ _ ⟨Lib.cell?_alloc_some _ hHeld.1, Lib.cell?_alloc_some _ hHeld.2.1, Lib.cell?_alloc_some _ hHeld.2.2⟩ (fun hHeld => ?_)
  clear hK K
  (try simp only [zz0, zz1, zz2, Act.put, zz3, zz4, zz5])
  refine wpAnyH_ready (rs := [10]) (by kernel_rfl) (by simp) ?_
  refine AllReadyH.cons (o := _) rfl (fun K hK => ?_) AllReadyH.nil
  rw [if_pos (by rfl)]
  refine wp_store_row 45 (.tmp 9) (.tmp 40) rfl (V2.heap.size) #[.int .i64 k, .int .i64 q, .int .u8 oi, .int .i64 0, .int .i64 0, .int .i64 0] rfl rfl 45 #[.int .i64 0, .int .i64 0, .int .u8 0, .int .i64 0, .int .i64 0, .int .i64 0] (heap_alloc_new _ _) info_event rfl (by simp [Value.oneCell']) ?_
  refine hK.out _ _ ⟨cell_row hHeld.1 (Nat.ne_of_lt (cell_lt y7b)), cell_row hHeld.2.1 (Nat.ne_of_lt (cell_lt hc0b)), cell_row hHeld.2.2 (Nat.ne_of_lt (cell_lt m0b))⟩ (fun hHeld => ?_)
  clear hK K
  (try simp only [zz0, zz1, zz2, Act.put, zz3, zz4, zz5])
  refine wpAnyH_done (by kernel_rfl) ?_ _
  generalize hV3 : World.setRow _ _ _ = V3
  have T3 : Touch (fun _ => False) V2 V3 := by rw [← hV3]; exact touch_box
  have e3B : V3.heap[V2.heap.size]? = some (.cells #[.int .i64 k, .int .i64 q, .int .u8 oi, .int .i64 0, .int .i64 0, .int .i64 0] 45) := by rw [← hV3]; exact setRow_heap _ _ _ _ _ _ (heap_alloc_new _ _)
  have T13 := HT2.out.seq T3
  have XP : Hid (Sx (fun _ => False) w V3 w1.heap.size (w2.heap.size) (V.heap.size) (V2.heap.size) (w.heap.size + 1) (w.heap.size + 1 + 1) S ⟨o, xa, xb, xc⟩ #[.int .i64 k, .int .i64 q, .int .u8 oi, .int .i64 0, .int .i64 0, .int .i64 0] fv rs qs fo n c) := Lib.hid (sx_step (x := ⟨o, xa, xb, xc⟩) (ow_box HVO.out T13) hlt hszM hsz1 hVs hV2s (T13.obj HVS.out) (T3.obj (by rw [← HOI.out]; exact HI2.out)) e3B (T13.obj HV0.out) rfl (T13.obj HV1.out) rfl ((Touch.of_below HVB.out).seq T13))
  have y7c := T3.cel y7b
  have hc0c := T3.cel hc0b
  have hf0c := (XP.out.at (i := 0) (j := k) (z := (q : Int)) E0.out hq).2
  clear hV3 T3 e3B T13 y7b hc0b m0b hHeld HVO HVS HV0 HV1 HI2 HT2 HVB hlt
  go_upto_region 7 with (fail)
  generalize hU : World.setCell _ _ _ = U0
  have X0 : Hid (Sx (fun _ => False) w U0 w1.heap.size (w2.heap.size) (V.heap.size) (V2.heap.size) (w.heap.size + 1) (w.heap.size + 1 + 1) S ⟨o, xa, xb, xc⟩ #[.int .i64 k, .int .i64 q, .int .u8 oi, .int .i64 0, .int .i64 0, .int .i64 0] fv rs qs (fl) n c) := Lib.hid (by rw [← hU, HFL.out]; exact XP.out.put' E0.out hq0 _)
  clear hU XP y7c hc0c hf0c
  rename_i x1 x2 x3 x4 x5 KK hKK
  clear hHeld hf0 hg2 hg3 hlM HP x1 x2 x3 x4 x5
  revert hKK
  revert KK
  revert X0
  revert U0
  revert V3
  revert hV2s
  revert V2
  revert HS7
  revert E0
  revert cap0
  revert g0
  revert hSV
  revert HT
  revert o3
  revert g3
  revert k2
  revert o2
  revert g2
  revert hw1
  revert hVs
  revert V
  revert hszM
  revert hsz1
  revert hS1
  revert hS19
  revert hSz2
  revert qs
  revert rs
  revert fv
  revert S
  revert w2
  revert w1
  revert htl
  revert hq0
  revert hqc
  revert hkt
  exact h
theorem stepA_1 (S0 : Array Value) (p : ProgD) (ca : Option Addr) (ccap : Nat) (ta : Option Addr) (tcap : Nat) (fv0 : Nat → Value) (rs0 qs0 : Value) (fo fl : Nat → List Int) (n c : Nat) (w : World) (hS0 : SV S0 p ca ccap ta tcap fv0 rs0 qs0 0) (hP : ProgIn w w.heap.size p ca ta) (hn : n ≤ 6) (hc : c ≤ 4) (k q : Nat) (hk : k < n) (hr4 : (fl (9 + k)).length = 4) (hq : (fo 0)[k]? = some (q : Int)) (hfl : fl = updF fo 0 ((fo 0).set k ((q : Int) + 1))) (hq1 : q ≤ 1000) (ck : List InsD) (hck : p.threads[k]? = some ck) (hC : ∀ u, Below w.heap.size w u → Calls Try.prog 56 #[.agg S0, .int .i64 k] u fun e w' => e = .returned (.bool true) ∧ Below u.heap.size u w') (hK : ∀ u, Below w.heap.size w u → Calls Try.prog 57 #[.agg S0] u fun e w' => ∃ S fv rs qs, e = .returned (.agg S) ∧ SV S p ca ccap ta tcap fv rs qs 0 ∧ Ow w' u.heap.size fv rs qs fo n c ∧ Below u.heap.size u w') (A : Nat) (b C rA : Int) (hA4 : A < 4) (hA : (fl (9 + k))[A]? = some rA) (hx : ck[q]? = some ⟨1, A, b, C⟩) :
    Calls Try.prog 36 #[.agg S0, .int .i64 k] w fun e w' => Rs4 (fun _ => False) w w' e p ca ccap ta tcap n c (updF fl (9 + k) ((fl (9 + k)).set A b)) 0 #[.int .i64 k, .int .i64 q, .int .u8 1, .int .i64 0, .int .i64 0, .int .i64 0] := by
  refine (stepA_front.2 S0 p ca ccap ta tcap fv0 rs0 qs0 fo fl n c w hS0 hP hn hc k q hk hr4 hq hfl hq1 ck hck hC hK ta rfl 1 1 A b C rfl hx _ ?_)
  clear hS0 hP hfl hC hK
  intro hkt hqc hq0 htl w1 w2 S fv rs qs hSz2 hS19 hS1 hsz1 hszM V hVs hw1 g2 o2 k2 g3 o3 HT hSV g0 cap0 E0 HS7 V2 hV2s V3 U0 X0 KK hKK
  have hT2 := HT.out
  clear HT
  subst hT2
  have hS := hSV.out
  have hA4' : (A : Int) < 4 := by omega
  obtain ⟨gR, capR, eR, _, ltR, cR⟩ := X0.out.ow.reg hk
  obtain ⟨gr, capr, er, _, _, _⟩ := X0.out.num hA
  rw [hr4] at er
  have EE9 := Lib.hid er
  have H9 : Hid (S[9]? = some (.slice (some ⟨gR, 0, none⟩) n capR)) := Lib.hid (by rw [← eR, hS.eq]; rfl)
  rw [er] at cR
  clear er eR
  have s9 : U0.cell? ⟨w2.heap.size, 9, none⟩ = some (.slice (some ⟨gR, 0, none⟩) n capR) := X0.out.s H9.out
  have cR0 := cR
  have i0 : U0.cell? ⟨V.heap.size, 0, none⟩ = some (.int .u8 1) := X0.out.i.1
  have i1 : U0.cell? ⟨V.heap.size, 1, none⟩ = some (.int .i64 A) := X0.out.i.2.1
  have i2 : U0.cell? ⟨V.heap.size, 2, none⟩ = some (.int .i64 b) := X0.out.i.2.2.1
  have i3 : U0.cell? ⟨V.heap.size, 3, none⟩ = some (.int .i64 C) := X0.out.i.2.2.2
  obtain ⟨cr, crf⟩ := X0.out.at (j := A) (z := rA) EE9.out (hA)
  go_wp2_with fail
  generalize hU : World.setCell _ _ _ = U1
  have X1 : Hid (Sx (fun _ => False) w U1 w1.heap.size (w2.heap.size) (V.heap.size) (V2.heap.size) (w.heap.size + 1) (w.heap.size + 1 + 1) S ⟨1, A, b, C⟩ #[.int .i64 k, .int .i64 q, .int .u8 1, .int .i64 0, .int .i64 0, .int .i64 0] fv rs qs (updF fl (9 + k) ((fl (9 + k)).set A b)) n c) := Lib.hid (by rw [← hU]; exact X0.out.put' EE9.out (by omega) b)
  clear hU X0
  clear s9 i0 i1 i2 i3 cR cR0 cr crf
  have FX := Lib.hid (X1.out.fin)
  obtain ⟨Z0, z0, _⟩ := FX.out.b0
  obtain ⟨Z1, z2, _⟩ := FX.out.b1
  have ne1 := FX.out.ne.1
  have FZ0 := Lib.hid z0
  have FZ1 := Lib.hid z2
  have hS19 : Array.size S = 19 := by rw [hSV.out.eq]; rfl
  have hSz : (Try.prog.info? 72).map (·.size) = some (Array.size S) := by rw [hS19]; exact info_S
  have hS1 : Array.all S (·.oneCell') = true := sv_one hSV.out (FX.out.rf _ (Touch.of_below (Below.refl _ _)))
  clear z0 z2
  go_wp2_with fail
  refine fin_step FX.out rfl hS19 hS1 rfl (by simp [Value.oneCell']) rfl (fun _ _ _ _ _ h => h) rfl rfl rfl rfl ?_
  (try simp only [zz0, zz1, zz2, Act.put, zz3, zz4, zz5])
  go_wp2
  refine bodyPost_ret (v := .tuple #[.agg S, .agg #[.int .i64 k, .int .i64 q, .int .u8 1, .int .i64 0, .int .i64 0, .int .i64 0], .bool true]) (results_two (p := 4) (q := 5) (u := 6) rfl _ _ (w.heap.size + 1) (w.heap.size + 1 + 1) 72 45 S #[.int .i64 k, .int .i64 q, .int .u8 1, .int .i64 0, .int .i64 0, .int .i64 0] (0, 0) (0, 0) _ _ rfl ((setRow_other _ _ _ _ ne1).trans (setRow_heap _ _ _ _ _ _ FZ0.out)) Try.underlying72 rfl hSz rfl (setRow_heap _ _ _ _ _ _ ((setRow_other _ _ _ _ (Ne.symm ne1)).trans FZ1.out)) Try.underlying45 rfl info_event) rfl ?_
  exact ⟨_, _, _, _, rfl, hSV.out, fun u' T => FX.out.rf u' (touch_end T rfl rfl rfl rfl), touch_fin FX.out.bel FX.out.lo.1 FX.out.lo.2 rfl rfl rfl rfl⟩
theorem stepA_2 (S0 : Array Value) (p : ProgD) (ca : Option Addr) (ccap : Nat) (ta : Option Addr) (tcap : Nat) (fv0 : Nat → Value) (rs0 qs0 : Value) (fo fl : Nat → List Int) (n c : Nat) (w : World) (hS0 : SV S0 p ca ccap ta tcap fv0 rs0 qs0 0) (hP : ProgIn w w.heap.size p ca ta) (hn : n ≤ 6) (hc : c ≤ 4) (k q : Nat) (hk : k < n) (hr4 : (fl (9 + k)).length = 4) (hq : (fo 0)[k]? = some (q : Int)) (hfl : fl = updF fo 0 ((fo 0).set k ((q : Int) + 1))) (hq1 : q ≤ 1000) (ck : List InsD) (hck : p.threads[k]? = some ck) (hC : ∀ u, Below w.heap.size w u → Calls Try.prog 56 #[.agg S0, .int .i64 k] u fun e w' => e = .returned (.bool true) ∧ Below u.heap.size u w') (hK : ∀ u, Below w.heap.size w u → Calls Try.prog 57 #[.agg S0] u fun e w' => ∃ S fv rs qs, e = .returned (.agg S) ∧ SV S p ca ccap ta tcap fv rs qs 0 ∧ Ow w' u.heap.size fv rs qs fo n c ∧ Below u.heap.size u w') (A b : Nat) (C rA rb : Int) (hA4 : A < 4) (hb4 : b < 4) (hA : (fl (9 + k))[A]? = some rA) (hb : (fl (9 + k))[b]? = some rb) (hx : ck[q]? = some ⟨2, A, b, C⟩) :
    Calls Try.prog 36 #[.agg S0, .int .i64 k] w fun e w' => Rs4 (fun _ => False) w w' e p ca ccap ta tcap n c (updF fl (9 + k) ((fl (9 + k)).set A rb)) 0 #[.int .i64 k, .int .i64 q, .int .u8 2, .int .i64 0, .int .i64 0, .int .i64 0] := by
  refine (stepA_front.2 S0 p ca ccap ta tcap fv0 rs0 qs0 fo fl n c w hS0 hP hn hc k q hk hr4 hq hfl hq1 ck hck hC hK ta rfl 2 2 A b C rfl hx _ ?_)
  clear hS0 hP hfl hC hK
  intro hkt hqc hq0 htl w1 w2 S fv rs qs hSz2 hS19 hS1 hsz1 hszM V hVs hw1 g2 o2 k2 g3 o3 HT hSV g0 cap0 E0 HS7 V2 hV2s V3 U0 X0 KK hKK
  have hT2 := HT.out
  clear HT
  subst hT2
  have hS := hSV.out
  have hA4' : (A : Int) < 4 := by omega
  have hb4' : (b : Int) < 4 := by omega
  obtain ⟨gR, capR, eR, _, ltR, cR⟩ := X0.out.ow.reg hk
  obtain ⟨gr, capr, er, _, _, _⟩ := X0.out.num hA
  rw [hr4] at er
  have EE9 := Lib.hid er
  have H9 : Hid (S[9]? = some (.slice (some ⟨gR, 0, none⟩) n capR)) := Lib.hid (by rw [← eR, hS.eq]; rfl)
  rw [er] at cR
  clear er eR
  have s9 : U0.cell? ⟨w2.heap.size, 9, none⟩ = some (.slice (some ⟨gR, 0, none⟩) n capR) := X0.out.s H9.out
  have cR0 := cR
  have i0 : U0.cell? ⟨V.heap.size, 0, none⟩ = some (.int .u8 2) := X0.out.i.1
  have i1 : U0.cell? ⟨V.heap.size, 1, none⟩ = some (.int .i64 A) := X0.out.i.2.1
  have i2 : U0.cell? ⟨V.heap.size, 2, none⟩ = some (.int .i64 b) := X0.out.i.2.2.1
  have i3 : U0.cell? ⟨V.heap.size, 3, none⟩ = some (.int .i64 C) := X0.out.i.2.2.2
  obtain ⟨cr, crf⟩ := X0.out.at (j := A) (z := rA) EE9.out (hA)
  obtain ⟨cb, cbf⟩ := X0.out.at (j := b) (z := rb) EE9.out (hb)
  go_upto_region 13 with (fail)
  go_still_tail 9, (by kernel_rfl)
  go_wp2_with fail
  generalize hU : World.setCell _ _ _ = U1
  have X1 : Hid (Sx (fun _ => False) w U1 w1.heap.size (w2.heap.size) (V.heap.size) (V2.heap.size) (w.heap.size + 1) (w.heap.size + 1 + 1) S ⟨2, A, b, C⟩ #[.int .i64 k, .int .i64 q, .int .u8 2, .int .i64 0, .int .i64 0, .int .i64 0] fv rs qs (updF fl (9 + k) ((fl (9 + k)).set A rb)) n c) := Lib.hid (by rw [← hU]; exact X0.out.put' EE9.out (by omega) rb)
  clear hU X0
  clear s9 i0 i1 i2 i3 cR cR0 cr crf cb cbf
  have FX := Lib.hid (X1.out.fin)
  obtain ⟨Z0, z0, _⟩ := FX.out.b0
  obtain ⟨Z1, z2, _⟩ := FX.out.b1
  have ne1 := FX.out.ne.1
  have FZ0 := Lib.hid z0
  have FZ1 := Lib.hid z2
  have hS19 : Array.size S = 19 := by rw [hSV.out.eq]; rfl
  have hSz : (Try.prog.info? 72).map (·.size) = some (Array.size S) := by rw [hS19]; exact info_S
  have hS1 : Array.all S (·.oneCell') = true := sv_one hSV.out (FX.out.rf _ (Touch.of_below (Below.refl _ _)))
  clear z0 z2
  go_wp2_with fail
  refine fin_step FX.out rfl hS19 hS1 rfl (by simp [Value.oneCell']) rfl (fun _ _ _ _ _ h => h) rfl rfl rfl rfl ?_
  (try simp only [zz0, zz1, zz2, Act.put, zz3, zz4, zz5])
  go_wp2
  refine bodyPost_ret (v := .tuple #[.agg S, .agg #[.int .i64 k, .int .i64 q, .int .u8 2, .int .i64 0, .int .i64 0, .int .i64 0], .bool true]) (results_two (p := 4) (q := 5) (u := 6) rfl _ _ (w.heap.size + 1) (w.heap.size + 1 + 1) 72 45 S #[.int .i64 k, .int .i64 q, .int .u8 2, .int .i64 0, .int .i64 0, .int .i64 0] (0, 0) (0, 0) _ _ rfl ((setRow_other _ _ _ _ ne1).trans (setRow_heap _ _ _ _ _ _ FZ0.out)) Try.underlying72 rfl hSz rfl (setRow_heap _ _ _ _ _ _ ((setRow_other _ _ _ _ (Ne.symm ne1)).trans FZ1.out)) Try.underlying45 rfl info_event) rfl ?_
  exact ⟨_, _, _, _, rfl, hSV.out, fun u' T => FX.out.rf u' (touch_end T rfl rfl rfl rfl), touch_fin FX.out.bel FX.out.lo.1 FX.out.lo.2 rfl rfl rfl rfl⟩
theorem stepA_3 (S0 : Array Value) (p : ProgD) (ca : Option Addr) (ccap : Nat) (ta : Option Addr) (tcap : Nat) (fv0 : Nat → Value) (rs0 qs0 : Value) (fo fl : Nat → List Int) (n c : Nat) (w : World) (hS0 : SV S0 p ca ccap ta tcap fv0 rs0 qs0 0) (hP : ProgIn w w.heap.size p ca ta) (hn : n ≤ 6) (hc : c ≤ 4) (k q : Nat) (hk : k < n) (hr4 : (fl (9 + k)).length = 4) (hq : (fo 0)[k]? = some (q : Int)) (hfl : fl = updF fo 0 ((fo 0).set k ((q : Int) + 1))) (hq1 : q ≤ 1000) (ck : List InsD) (hck : p.threads[k]? = some ck) (hCan : ∀ u, Below w.heap.size w u → Calls Try.prog 56 #[.agg S0, .int .i64 k] u fun e w' => e = .returned (.bool true) ∧ Below u.heap.size u w') (hK : ∀ u, Below w.heap.size w u → Calls Try.prog 57 #[.agg S0] u fun e w' => ∃ S fv rs qs, e = .returned (.agg S) ∧ SV S p ca ccap ta tcap fv rs qs 0 ∧ Ow w' u.heap.size fv rs qs fo n c ∧ Below u.heap.size u w') (A b C : Nat) (rA rb rC : Int) (hA4 : A < 4) (hb4 : b < 4) (hC4 : C < 4) (hA : (fl (9 + k))[A]? = some rA) (hb : (fl (9 + k))[b]? = some rb) (hC0 : (fl (9 + k))[C]? = some rC) (hx : ck[q]? = some ⟨3, A, b, C⟩) :
    Calls Try.prog 36 #[.agg S0, .int .i64 k] w fun e w' => Rs4 (fun _ => False) w w' e p ca ccap ta tcap n c (updF fl (9 + k) ((fl (9 + k)).set A (wrap64 (rb + rC)))) 0 #[.int .i64 k, .int .i64 q, .int .u8 3, .int .i64 0, .int .i64 0, .int .i64 0] := by
  refine (stepA_front.2 S0 p ca ccap ta tcap fv0 rs0 qs0 fo fl n c w hS0 hP hn hc k q hk hr4 hq hfl hq1 ck hck hCan hK ta rfl 3 3 A b C rfl hx _ ?_)
  clear hS0 hP hfl hCan hK
  intro hkt hqc hq0 htl w1 w2 S fv rs qs hSz2 hS19 hS1 hsz1 hszM V hVs hw1 g2 o2 k2 g3 o3 HT hSV g0 cap0 E0 HS7 V2 hV2s V3 U0 X0 KK hKK
  have hT2 := HT.out
  clear HT
  subst hT2
  have hS := hSV.out
  have hA4' : (A : Int) < 4 := by omega
  have hb4' : (b : Int) < 4 := by omega
  have hC4' : (C : Int) < 4 := by omega
  obtain ⟨gR, capR, eR, _, ltR, cR⟩ := X0.out.ow.reg hk
  obtain ⟨gr, capr, er, _, _, _⟩ := X0.out.num hA
  rw [hr4] at er
  have EE9 := Lib.hid er
  have H9 : Hid (S[9]? = some (.slice (some ⟨gR, 0, none⟩) n capR)) := Lib.hid (by rw [← eR, hS.eq]; rfl)
  rw [er] at cR
  clear er eR
  have s9 : U0.cell? ⟨w2.heap.size, 9, none⟩ = some (.slice (some ⟨gR, 0, none⟩) n capR) := X0.out.s H9.out
  have cR0 := cR
  have i0 : U0.cell? ⟨V.heap.size, 0, none⟩ = some (.int .u8 3) := X0.out.i.1
  have i1 : U0.cell? ⟨V.heap.size, 1, none⟩ = some (.int .i64 A) := X0.out.i.2.1
  have i2 : U0.cell? ⟨V.heap.size, 2, none⟩ = some (.int .i64 b) := X0.out.i.2.2.1
  have i3 : U0.cell? ⟨V.heap.size, 3, none⟩ = some (.int .i64 C) := X0.out.i.2.2.2
  obtain ⟨cr, crf⟩ := X0.out.at (j := A) (z := rA) EE9.out (hA)
  obtain ⟨cb, cbf⟩ := X0.out.at (j := b) (z := rb) EE9.out (hb)
  obtain ⟨cc, ccf⟩ := X0.out.at (j := C) (z := rC) EE9.out (hC0)
  go_upto_region 15 with (fail)
  go_still_tail 15, (by kernel_rfl)
  go_wp2_with fail
  generalize hU : World.setCell _ _ _ = U1
  have X1 : Hid (Sx (fun _ => False) w U1 w1.heap.size (w2.heap.size) (V.heap.size) (V2.heap.size) (w.heap.size + 1) (w.heap.size + 1 + 1) S ⟨3, A, b, C⟩ #[.int .i64 k, .int .i64 q, .int .u8 3, .int .i64 0, .int .i64 0, .int .i64 0] fv rs qs (updF fl (9 + k) ((fl (9 + k)).set A (wrap64 (rb + rC)))) n c) := Lib.hid (by rw [← hU]; exact X0.out.put' EE9.out (by omega) (wrap64 (rb + rC)))
  clear hU X0
  clear s9 i0 i1 i2 i3 cR cR0 cr crf cb cbf cc ccf
  have FX := Lib.hid (X1.out.fin)
  obtain ⟨Z0, z0, _⟩ := FX.out.b0
  obtain ⟨Z1, z2, _⟩ := FX.out.b1
  have ne1 := FX.out.ne.1
  have FZ0 := Lib.hid z0
  have FZ1 := Lib.hid z2
  have hS19 : Array.size S = 19 := by rw [hSV.out.eq]; rfl
  have hSz : (Try.prog.info? 72).map (·.size) = some (Array.size S) := by rw [hS19]; exact info_S
  have hS1 : Array.all S (·.oneCell') = true := sv_one hSV.out (FX.out.rf _ (Touch.of_below (Below.refl _ _)))
  clear z0 z2
  go_wp2_with fail
  refine fin_step FX.out rfl hS19 hS1 rfl (by simp [Value.oneCell']) rfl (fun _ _ _ _ _ h => h) rfl rfl rfl rfl ?_
  (try simp only [zz0, zz1, zz2, Act.put, zz3, zz4, zz5])
  go_wp2
  refine bodyPost_ret (v := .tuple #[.agg S, .agg #[.int .i64 k, .int .i64 q, .int .u8 3, .int .i64 0, .int .i64 0, .int .i64 0], .bool true]) (results_two (p := 4) (q := 5) (u := 6) rfl _ _ (w.heap.size + 1) (w.heap.size + 1 + 1) 72 45 S #[.int .i64 k, .int .i64 q, .int .u8 3, .int .i64 0, .int .i64 0, .int .i64 0] (0, 0) (0, 0) _ _ rfl ((setRow_other _ _ _ _ ne1).trans (setRow_heap _ _ _ _ _ _ FZ0.out)) Try.underlying72 rfl hSz rfl (setRow_heap _ _ _ _ _ _ ((setRow_other _ _ _ _ (Ne.symm ne1)).trans FZ1.out)) Try.underlying45 rfl info_event) rfl ?_
  exact ⟨_, _, _, _, rfl, hSV.out, fun u' T => FX.out.rf u' (touch_end T rfl rfl rfl rfl), touch_fin FX.out.bel FX.out.lo.1 FX.out.lo.2 rfl rfl rfl rfl⟩
theorem stepA_4 (S0 : Array Value) (p : ProgD) (ca : Option Addr) (ccap : Nat) (ta : Option Addr) (tcap : Nat) (fv0 : Nat → Value) (rs0 qs0 : Value) (fo fl : Nat → List Int) (n c : Nat) (w : World) (hS0 : SV S0 p ca ccap ta tcap fv0 rs0 qs0 0) (hP : ProgIn w w.heap.size p ca ta) (hn : n ≤ 6) (hc : c ≤ 4) (k q : Nat) (hk : k < n) (hr4 : (fl (9 + k)).length = 4) (hq : (fo 0)[k]? = some (q : Int)) (hfl : fl = updF fo 0 ((fo 0).set k ((q : Int) + 1))) (hq1 : q ≤ 1000) (ck : List InsD) (hck : p.threads[k]? = some ck) (hCan : ∀ u, Below w.heap.size w u → Calls Try.prog 56 #[.agg S0, .int .i64 k] u fun e w' => e = .returned (.bool true) ∧ Below u.heap.size u w') (hK : ∀ u, Below w.heap.size w u → Calls Try.prog 57 #[.agg S0] u fun e w' => ∃ S fv rs qs, e = .returned (.agg S) ∧ SV S p ca ccap ta tcap fv rs qs 0 ∧ Ow w' u.heap.size fv rs qs fo n c ∧ Below u.heap.size u w') (A b C : Nat) (rA rb rC : Int) (hA4 : A < 4) (hb4 : b < 4) (hC4 : C < 4) (hA : (fl (9 + k))[A]? = some rA) (hb : (fl (9 + k))[b]? = some rb) (hC0 : (fl (9 + k))[C]? = some rC) (hx : ck[q]? = some ⟨4, A, b, C⟩) :
    Calls Try.prog 36 #[.agg S0, .int .i64 k] w fun e w' => Rs4 (fun _ => False) w w' e p ca ccap ta tcap n c (updF fl (9 + k) ((fl (9 + k)).set A (wrap64 (rb - rC)))) 0 #[.int .i64 k, .int .i64 q, .int .u8 4, .int .i64 0, .int .i64 0, .int .i64 0] := by
  refine (stepA_front.2 S0 p ca ccap ta tcap fv0 rs0 qs0 fo fl n c w hS0 hP hn hc k q hk hr4 hq hfl hq1 ck hck hCan hK ta rfl 4 4 A b C rfl hx _ ?_)
  clear hS0 hP hfl hCan hK
  intro hkt hqc hq0 htl w1 w2 S fv rs qs hSz2 hS19 hS1 hsz1 hszM V hVs hw1 g2 o2 k2 g3 o3 HT hSV g0 cap0 E0 HS7 V2 hV2s V3 U0 X0 KK hKK
  have hT2 := HT.out
  clear HT
  subst hT2
  have hS := hSV.out
  have hA4' : (A : Int) < 4 := by omega
  have hb4' : (b : Int) < 4 := by omega
  have hC4' : (C : Int) < 4 := by omega
  obtain ⟨gR, capR, eR, _, ltR, cR⟩ := X0.out.ow.reg hk
  obtain ⟨gr, capr, er, _, _, _⟩ := X0.out.num hA
  rw [hr4] at er
  have EE9 := Lib.hid er
  have H9 : Hid (S[9]? = some (.slice (some ⟨gR, 0, none⟩) n capR)) := Lib.hid (by rw [← eR, hS.eq]; rfl)
  rw [er] at cR
  clear er eR
  have s9 : U0.cell? ⟨w2.heap.size, 9, none⟩ = some (.slice (some ⟨gR, 0, none⟩) n capR) := X0.out.s H9.out
  have cR0 := cR
  have i0 : U0.cell? ⟨V.heap.size, 0, none⟩ = some (.int .u8 4) := X0.out.i.1
  have i1 : U0.cell? ⟨V.heap.size, 1, none⟩ = some (.int .i64 A) := X0.out.i.2.1
  have i2 : U0.cell? ⟨V.heap.size, 2, none⟩ = some (.int .i64 b) := X0.out.i.2.2.1
  have i3 : U0.cell? ⟨V.heap.size, 3, none⟩ = some (.int .i64 C) := X0.out.i.2.2.2
  obtain ⟨cr, crf⟩ := X0.out.at (j := A) (z := rA) EE9.out (hA)
  obtain ⟨cb, cbf⟩ := X0.out.at (j := b) (z := rb) EE9.out (hb)
  obtain ⟨cc, ccf⟩ := X0.out.at (j := C) (z := rC) EE9.out (hC0)
  go_upto_region 17 with (fail)
  go_still_tail 15, (by kernel_rfl)
  go_wp2_with fail
  generalize hU : World.setCell _ _ _ = U1
  have X1 : Hid (Sx (fun _ => False) w U1 w1.heap.size (w2.heap.size) (V.heap.size) (V2.heap.size) (w.heap.size + 1) (w.heap.size + 1 + 1) S ⟨4, A, b, C⟩ #[.int .i64 k, .int .i64 q, .int .u8 4, .int .i64 0, .int .i64 0, .int .i64 0] fv rs qs (updF fl (9 + k) ((fl (9 + k)).set A (wrap64 (rb - rC)))) n c) := Lib.hid (by rw [← hU]; exact X0.out.put' EE9.out (by omega) (wrap64 (rb - rC)))
  clear hU X0
  clear s9 i0 i1 i2 i3 cR cR0 cr crf cb cbf cc ccf
  have FX := Lib.hid (X1.out.fin)
  obtain ⟨Z0, z0, _⟩ := FX.out.b0
  obtain ⟨Z1, z2, _⟩ := FX.out.b1
  have ne1 := FX.out.ne.1
  have FZ0 := Lib.hid z0
  have FZ1 := Lib.hid z2
  have hS19 : Array.size S = 19 := by rw [hSV.out.eq]; rfl
  have hSz : (Try.prog.info? 72).map (·.size) = some (Array.size S) := by rw [hS19]; exact info_S
  have hS1 : Array.all S (·.oneCell') = true := sv_one hSV.out (FX.out.rf _ (Touch.of_below (Below.refl _ _)))
  clear z0 z2
  go_wp2_with fail
  refine fin_step FX.out rfl hS19 hS1 rfl (by simp [Value.oneCell']) rfl (fun _ _ _ _ _ h => h) rfl rfl rfl rfl ?_
  (try simp only [zz0, zz1, zz2, Act.put, zz3, zz4, zz5])
  go_wp2
  refine bodyPost_ret (v := .tuple #[.agg S, .agg #[.int .i64 k, .int .i64 q, .int .u8 4, .int .i64 0, .int .i64 0, .int .i64 0], .bool true]) (results_two (p := 4) (q := 5) (u := 6) rfl _ _ (w.heap.size + 1) (w.heap.size + 1 + 1) 72 45 S #[.int .i64 k, .int .i64 q, .int .u8 4, .int .i64 0, .int .i64 0, .int .i64 0] (0, 0) (0, 0) _ _ rfl ((setRow_other _ _ _ _ ne1).trans (setRow_heap _ _ _ _ _ _ FZ0.out)) Try.underlying72 rfl hSz rfl (setRow_heap _ _ _ _ _ _ ((setRow_other _ _ _ _ (Ne.symm ne1)).trans FZ1.out)) Try.underlying45 rfl info_event) rfl ?_
  exact ⟨_, _, _, _, rfl, hSV.out, fun u' T => FX.out.rf u' (touch_end T rfl rfl rfl rfl), touch_fin FX.out.bel FX.out.lo.1 FX.out.lo.2 rfl rfl rfl rfl⟩
theorem stepA_5 (S0 : Array Value) (p : ProgD) (ca : Option Addr) (ccap : Nat) (ta : Option Addr) (tcap : Nat) (fv0 : Nat → Value) (rs0 qs0 : Value) (fo fl : Nat → List Int) (n c : Nat) (w : World) (hS0 : SV S0 p ca ccap ta tcap fv0 rs0 qs0 0) (hP : ProgIn w w.heap.size p ca ta) (hn : n ≤ 6) (hc : c ≤ 4) (k q : Nat) (hk : k < n) (hr4 : (fl (9 + k)).length = 4) (hq : (fo 0)[k]? = some (q : Int)) (hfl : fl = updF fo 0 ((fo 0).set k ((q : Int) + 1))) (hq1 : q ≤ 1000) (ck : List InsD) (hck : p.threads[k]? = some ck) (hCan : ∀ u, Below w.heap.size w u → Calls Try.prog 56 #[.agg S0, .int .i64 k] u fun e w' => e = .returned (.bool true) ∧ Below u.heap.size u w') (hK : ∀ u, Below w.heap.size w u → Calls Try.prog 57 #[.agg S0] u fun e w' => ∃ S fv rs qs, e = .returned (.agg S) ∧ SV S p ca ccap ta tcap fv rs qs 0 ∧ Ow w' u.heap.size fv rs qs fo n c ∧ Below u.heap.size u w') (A b C : Nat) (rA rb rC : Int) (hA4 : A < 4) (hb4 : b < 4) (hC4 : C < 4) (hA : (fl (9 + k))[A]? = some rA) (hb : (fl (9 + k))[b]? = some rb) (hC0 : (fl (9 + k))[C]? = some rC) (hx : ck[q]? = some ⟨5, A, b, C⟩) :
    Calls Try.prog 36 #[.agg S0, .int .i64 k] w fun e w' => Rs4 (fun _ => False) w w' e p ca ccap ta tcap n c (updF fl (9 + k) ((fl (9 + k)).set A (wrap64 (rb * rC)))) 0 #[.int .i64 k, .int .i64 q, .int .u8 5, .int .i64 0, .int .i64 0, .int .i64 0] := by
  refine (stepA_front.2 S0 p ca ccap ta tcap fv0 rs0 qs0 fo fl n c w hS0 hP hn hc k q hk hr4 hq hfl hq1 ck hck hCan hK ta rfl 5 5 A b C rfl hx _ ?_)
  clear hS0 hP hfl hCan hK
  intro hkt hqc hq0 htl w1 w2 S fv rs qs hSz2 hS19 hS1 hsz1 hszM V hVs hw1 g2 o2 k2 g3 o3 HT hSV g0 cap0 E0 HS7 V2 hV2s V3 U0 X0 KK hKK
  have hT2 := HT.out
  clear HT
  subst hT2
  have hS := hSV.out
  have hA4' : (A : Int) < 4 := by omega
  have hb4' : (b : Int) < 4 := by omega
  have hC4' : (C : Int) < 4 := by omega
  obtain ⟨gR, capR, eR, _, ltR, cR⟩ := X0.out.ow.reg hk
  obtain ⟨gr, capr, er, _, _, _⟩ := X0.out.num hA
  rw [hr4] at er
  have EE9 := Lib.hid er
  have H9 : Hid (S[9]? = some (.slice (some ⟨gR, 0, none⟩) n capR)) := Lib.hid (by rw [← eR, hS.eq]; rfl)
  rw [er] at cR
  clear er eR
  have s9 : U0.cell? ⟨w2.heap.size, 9, none⟩ = some (.slice (some ⟨gR, 0, none⟩) n capR) := X0.out.s H9.out
  have cR0 := cR
  have i0 : U0.cell? ⟨V.heap.size, 0, none⟩ = some (.int .u8 5) := X0.out.i.1
  have i1 : U0.cell? ⟨V.heap.size, 1, none⟩ = some (.int .i64 A) := X0.out.i.2.1
  have i2 : U0.cell? ⟨V.heap.size, 2, none⟩ = some (.int .i64 b) := X0.out.i.2.2.1
  have i3 : U0.cell? ⟨V.heap.size, 3, none⟩ = some (.int .i64 C) := X0.out.i.2.2.2
  obtain ⟨cr, crf⟩ := X0.out.at (j := A) (z := rA) EE9.out (hA)
  obtain ⟨cb, cbf⟩ := X0.out.at (j := b) (z := rb) EE9.out (hb)
  obtain ⟨cc, ccf⟩ := X0.out.at (j := C) (z := rC) EE9.out (hC0)
  go_upto_region 19 with (fail)
  go_still_tail 15, (by kernel_rfl)
  go_wp2_with fail
  generalize hU : World.setCell _ _ _ = U1
  have X1 : Hid (Sx (fun _ => False) w U1 w1.heap.size (w2.heap.size) (V.heap.size) (V2.heap.size) (w.heap.size + 1) (w.heap.size + 1 + 1) S ⟨5, A, b, C⟩ #[.int .i64 k, .int .i64 q, .int .u8 5, .int .i64 0, .int .i64 0, .int .i64 0] fv rs qs (updF fl (9 + k) ((fl (9 + k)).set A (wrap64 (rb * rC)))) n c) := Lib.hid (by rw [← hU]; exact X0.out.put' EE9.out (by omega) (wrap64 (rb * rC)))
  clear hU X0
  clear s9 i0 i1 i2 i3 cR cR0 cr crf cb cbf cc ccf
  have FX := Lib.hid (X1.out.fin)
  obtain ⟨Z0, z0, _⟩ := FX.out.b0
  obtain ⟨Z1, z2, _⟩ := FX.out.b1
  have ne1 := FX.out.ne.1
  have FZ0 := Lib.hid z0
  have FZ1 := Lib.hid z2
  have hS19 : Array.size S = 19 := by rw [hSV.out.eq]; rfl
  have hSz : (Try.prog.info? 72).map (·.size) = some (Array.size S) := by rw [hS19]; exact info_S
  have hS1 : Array.all S (·.oneCell') = true := sv_one hSV.out (FX.out.rf _ (Touch.of_below (Below.refl _ _)))
  clear z0 z2
  go_wp2_with fail
  refine fin_step FX.out rfl hS19 hS1 rfl (by simp [Value.oneCell']) rfl (fun _ _ _ _ _ h => h) rfl rfl rfl rfl ?_
  (try simp only [zz0, zz1, zz2, Act.put, zz3, zz4, zz5])
  go_wp2
  refine bodyPost_ret (v := .tuple #[.agg S, .agg #[.int .i64 k, .int .i64 q, .int .u8 5, .int .i64 0, .int .i64 0, .int .i64 0], .bool true]) (results_two (p := 4) (q := 5) (u := 6) rfl _ _ (w.heap.size + 1) (w.heap.size + 1 + 1) 72 45 S #[.int .i64 k, .int .i64 q, .int .u8 5, .int .i64 0, .int .i64 0, .int .i64 0] (0, 0) (0, 0) _ _ rfl ((setRow_other _ _ _ _ ne1).trans (setRow_heap _ _ _ _ _ _ FZ0.out)) Try.underlying72 rfl hSz rfl (setRow_heap _ _ _ _ _ _ ((setRow_other _ _ _ _ (Ne.symm ne1)).trans FZ1.out)) Try.underlying45 rfl info_event) rfl ?_
  exact ⟨_, _, _, _, rfl, hSV.out, fun u' T => FX.out.rf u' (touch_end T rfl rfl rfl rfl), touch_fin FX.out.bel FX.out.lo.1 FX.out.lo.2 rfl rfl rfl rfl⟩
theorem stepA_6 (S0 : Array Value) (p : ProgD) (ca : Option Addr) (ccap : Nat) (ta : Option Addr) (tcap : Nat) (fv0 : Nat → Value) (rs0 qs0 : Value) (fo fl : Nat → List Int) (n c : Nat) (w : World) (hS0 : SV S0 p ca ccap ta tcap fv0 rs0 qs0 0) (hP : ProgIn w w.heap.size p ca ta) (hn : n ≤ 6) (hc : c ≤ 4) (k q : Nat) (hk : k < n) (hr4 : (fl (9 + k)).length = 4) (hq : (fo 0)[k]? = some (q : Int)) (hfl : fl = updF fo 0 ((fo 0).set k ((q : Int) + 1))) (hq1 : q ≤ 1000) (ck : List InsD) (hck : p.threads[k]? = some ck) (hCan : ∀ u, Below w.heap.size w u → Calls Try.prog 56 #[.agg S0, .int .i64 k] u fun e w' => e = .returned (.bool true) ∧ Below u.heap.size u w') (hK : ∀ u, Below w.heap.size w u → Calls Try.prog 57 #[.agg S0] u fun e w' => ∃ S fv rs qs, e = .returned (.agg S) ∧ SV S p ca ccap ta tcap fv rs qs 0 ∧ Ow w' u.heap.size fv rs qs fo n c ∧ Below u.heap.size u w') (A b C : Nat) (rA rb rC : Int) (hA4 : A < 4) (hb4 : b < 4) (hC4 : C < 4) (hA : (fl (9 + k))[A]? = some rA) (hb : (fl (9 + k))[b]? = some rb) (hC0 : (fl (9 + k))[C]? = some rC) (hx : ck[q]? = some ⟨6, A, b, C⟩) :
    Calls Try.prog 36 #[.agg S0, .int .i64 k] w fun e w' => Rs4 (fun _ => False) w w' e p ca ccap ta tcap n c (updF fl (9 + k) ((fl (9 + k)).set A (bitN (decide (rb < rC))))) 0 #[.int .i64 k, .int .i64 q, .int .u8 6, .int .i64 0, .int .i64 0, .int .i64 0] := by
  refine (stepA_front.2 S0 p ca ccap ta tcap fv0 rs0 qs0 fo fl n c w hS0 hP hn hc k q hk hr4 hq hfl hq1 ck hck hCan hK ta rfl 6 6 A b C rfl hx _ ?_)
  clear hS0 hP hfl hCan hK
  intro hkt hqc hq0 htl w1 w2 S fv rs qs hSz2 hS19 hS1 hsz1 hszM V hVs hw1 g2 o2 k2 g3 o3 HT hSV g0 cap0 E0 HS7 V2 hV2s V3 U0 X0 KK hKK
  have hT2 := HT.out
  clear HT
  subst hT2
  have hS := hSV.out
  have hA4' : (A : Int) < 4 := by omega
  have hb4' : (b : Int) < 4 := by omega
  have hC4' : (C : Int) < 4 := by omega
  obtain ⟨gR, capR, eR, _, ltR, cR⟩ := X0.out.ow.reg hk
  obtain ⟨gr, capr, er, _, _, _⟩ := X0.out.num hA
  rw [hr4] at er
  have EE9 := Lib.hid er
  have H9 : Hid (S[9]? = some (.slice (some ⟨gR, 0, none⟩) n capR)) := Lib.hid (by rw [← eR, hS.eq]; rfl)
  rw [er] at cR
  clear er eR
  have s9 : U0.cell? ⟨w2.heap.size, 9, none⟩ = some (.slice (some ⟨gR, 0, none⟩) n capR) := X0.out.s H9.out
  have cR0 := cR
  have i0 : U0.cell? ⟨V.heap.size, 0, none⟩ = some (.int .u8 6) := X0.out.i.1
  have i1 : U0.cell? ⟨V.heap.size, 1, none⟩ = some (.int .i64 A) := X0.out.i.2.1
  have i2 : U0.cell? ⟨V.heap.size, 2, none⟩ = some (.int .i64 b) := X0.out.i.2.2.1
  have i3 : U0.cell? ⟨V.heap.size, 3, none⟩ = some (.int .i64 C) := X0.out.i.2.2.2
  obtain ⟨cr, crf⟩ := X0.out.at (j := A) (z := rA) EE9.out (hA)
  obtain ⟨cb, cbf⟩ := X0.out.at (j := b) (z := rb) EE9.out (hb)
  obtain ⟨cc, ccf⟩ := X0.out.at (j := C) (z := rC) EE9.out (hC0)
  go_upto_region 21 with (fail)
  refine wp_region_still_tail 16 (by kernel_rfl) (by kernel_rfl) ?_
  simp only [List.take_succ_cons, List.take_zero, List.drop_succ_cons, List.drop_zero]
  still_step
  still_step
  still_step
  still_step
  still_step
  still_step
  still_step
  still_step
  still_step
  still_step
  still_step
  still_step
  still_step
  still_step
  still_call (number4_still _ _)
  still_step
  refine wpStill_nil ?_
  go_wp2_with fail
  generalize hU : World.setCell _ _ _ = U1
  have X1 : Hid (Sx (fun _ => False) w U1 w1.heap.size (w2.heap.size) (V.heap.size) (V2.heap.size) (w.heap.size + 1) (w.heap.size + 1 + 1) S ⟨6, A, b, C⟩ #[.int .i64 k, .int .i64 q, .int .u8 6, .int .i64 0, .int .i64 0, .int .i64 0] fv rs qs (updF fl (9 + k) ((fl (9 + k)).set A (bitN (decide (rb < rC))))) n c) := Lib.hid (by rw [← hU]; exact X0.out.put' EE9.out (by omega) (bitN (decide (rb < rC))))
  clear hU X0
  clear s9 i0 i1 i2 i3 cR cR0 cr crf cb cbf cc ccf
  have FX := Lib.hid (X1.out.fin)
  obtain ⟨Z0, z0, _⟩ := FX.out.b0
  obtain ⟨Z1, z2, _⟩ := FX.out.b1
  have ne1 := FX.out.ne.1
  have FZ0 := Lib.hid z0
  have FZ1 := Lib.hid z2
  have hS19 : Array.size S = 19 := by rw [hSV.out.eq]; rfl
  have hSz : (Try.prog.info? 72).map (·.size) = some (Array.size S) := by rw [hS19]; exact info_S
  have hS1 : Array.all S (·.oneCell') = true := sv_one hSV.out (FX.out.rf _ (Touch.of_below (Below.refl _ _)))
  clear z0 z2
  go_wp2_with fail
  refine fin_step FX.out rfl hS19 hS1 rfl (by simp [Value.oneCell']) rfl (fun _ _ _ _ _ h => h) rfl rfl rfl rfl ?_
  (try simp only [zz0, zz1, zz2, Act.put, zz3, zz4, zz5])
  go_wp2
  refine bodyPost_ret (v := .tuple #[.agg S, .agg #[.int .i64 k, .int .i64 q, .int .u8 6, .int .i64 0, .int .i64 0, .int .i64 0], .bool true]) (results_two (p := 4) (q := 5) (u := 6) rfl _ _ (w.heap.size + 1) (w.heap.size + 1 + 1) 72 45 S #[.int .i64 k, .int .i64 q, .int .u8 6, .int .i64 0, .int .i64 0, .int .i64 0] (0, 0) (0, 0) _ _ rfl ((setRow_other _ _ _ _ ne1).trans (setRow_heap _ _ _ _ _ _ FZ0.out)) Try.underlying72 rfl hSz rfl (setRow_heap _ _ _ _ _ _ ((setRow_other _ _ _ _ (Ne.symm ne1)).trans FZ1.out)) Try.underlying45 rfl info_event) rfl ?_
  exact ⟨_, _, _, _, rfl, hSV.out, fun u' T => FX.out.rf u' (touch_end T rfl rfl rfl rfl), touch_fin FX.out.bel FX.out.lo.1 FX.out.lo.2 rfl rfl rfl rfl⟩
theorem stepA_7 (S0 : Array Value) (p : ProgD) (ca : Option Addr) (ccap : Nat) (ta : Option Addr) (tcap : Nat) (fv0 : Nat → Value) (rs0 qs0 : Value) (fo fl : Nat → List Int) (n c : Nat) (w : World) (hS0 : SV S0 p ca ccap ta tcap fv0 rs0 qs0 0) (hP : ProgIn w w.heap.size p ca ta) (hn : n ≤ 6) (hc : c ≤ 4) (k q : Nat) (hk : k < n) (hr4 : (fl (9 + k)).length = 4) (hq : (fo 0)[k]? = some (q : Int)) (hfl : fl = updF fo 0 ((fo 0).set k ((q : Int) + 1))) (hq1 : q ≤ 1000) (ck : List InsD) (hck : p.threads[k]? = some ck) (hC : ∀ u, Below w.heap.size w u → Calls Try.prog 56 #[.agg S0, .int .i64 k] u fun e w' => e = .returned (.bool true) ∧ Below u.heap.size u w') (hK : ∀ u, Below w.heap.size w u → Calls Try.prog 57 #[.agg S0] u fun e w' => ∃ S fv rs qs, e = .returned (.agg S) ∧ SV S p ca ccap ta tcap fv rs qs 0 ∧ Ow w' u.heap.size fv rs qs fo n c ∧ Below u.heap.size u w') (A b : Nat) (C rA v : Int) (hA4 : A < 4) (hA : (fl (9 + k))[A]? = some rA) (h2 : (fl 2)[b]? = some v) (hx : ck[q]? = some ⟨7, A, b, C⟩) :
    Calls Try.prog 36 #[.agg S0, .int .i64 k] w fun e w' => Rs4 (fun _ => False) w w' e p ca ccap ta tcap n c (updF fl (9 + k) ((fl (9 + k)).set A v)) 0 #[.int .i64 k, .int .i64 q, .int .u8 7, .int .i64 b, .int .i64 v, .int .i64 0] := by
  refine (stepA_front.2 S0 p ca ccap ta tcap fv0 rs0 qs0 fo fl n c w hS0 hP hn hc k q hk hr4 hq hfl hq1 ck hck hC hK ta rfl 7 7 A b C rfl hx _ ?_)
  clear hS0 hP hfl hC hK
  intro hkt hqc hq0 htl w1 w2 S fv rs qs hSz2 hS19 hS1 hsz1 hszM V hVs hw1 g2 o2 k2 g3 o3 HT hSV g0 cap0 E0 HS7 V2 hV2s V3 U0 X0 KK hKK
  have hT2 := HT.out
  clear HT
  subst hT2
  have hS := hSV.out
  have hA4' : (A : Int) < 4 := by omega
  obtain ⟨gR, capR, eR, _, ltR, cR⟩ := X0.out.ow.reg hk
  obtain ⟨gr, capr, er, _, _, _⟩ := X0.out.num hA
  rw [hr4] at er
  have EE9 := Lib.hid er
  have H9 : Hid (S[9]? = some (.slice (some ⟨gR, 0, none⟩) n capR)) := Lib.hid (by rw [← eR, hS.eq]; rfl)
  rw [er] at cR
  clear er eR
  obtain ⟨g2, cap2, e2, _, _, lt2⟩ := X0.out.num h2
  have EE2 := Lib.hid e2
  have H10 : Hid (S[10]? = some (.slice (some ⟨g2, 0, none⟩) (fl 2).length cap2)) := Lib.hid (by rw [← e2, hS.eq]; rfl)
  clear e2
  have s9 : U0.cell? ⟨w2.heap.size, 9, none⟩ = some (.slice (some ⟨gR, 0, none⟩) n capR) := X0.out.s H9.out
  have cR0 := cR
  have i0 : U0.cell? ⟨V.heap.size, 0, none⟩ = some (.int .u8 7) := X0.out.i.1
  have i1 : U0.cell? ⟨V.heap.size, 1, none⟩ = some (.int .i64 A) := X0.out.i.2.1
  have i2 : U0.cell? ⟨V.heap.size, 2, none⟩ = some (.int .i64 b) := X0.out.i.2.2.1
  have i3 : U0.cell? ⟨V.heap.size, 3, none⟩ = some (.int .i64 C) := X0.out.i.2.2.2
  have s10 : U0.cell? ⟨w2.heap.size, 10, none⟩ = some (.slice (some ⟨g2, 0, none⟩) (fl 2).length cap2) := X0.out.s H10.out
  obtain ⟨c2, c2f⟩ := X0.out.at (j := b) (z := v) EE2.out (h2)
  obtain ⟨cr, crf⟩ := X0.out.at (j := A) (z := rA) EE9.out (hA)
  go_upto_region 23 with (fail)
  go_still_tail 10, (by kernel_rfl)
  go_upto_region 24 with (fail)
  generalize hU : World.setCell _ _ _ = U1
  have X1 : Hid (Sx (fun _ => False) w U1 w1.heap.size (w2.heap.size) (V.heap.size) (V2.heap.size) (w.heap.size + 1) (w.heap.size + 1 + 1) S ⟨7, A, b, C⟩ #[.int .i64 k, .int .i64 q, .int .u8 7, .int .i64 0, .int .i64 0, .int .i64 0] fv rs qs (updF fl (9 + k) ((fl (9 + k)).set A v)) n c) := Lib.hid (by rw [← hU]; exact X0.out.put' EE9.out (by omega) v)
  clear hU X0
  clear s9 i0 i1 i2 i3 cR cR0 s10 c2 c2f cr crf
  have i2 : U1.cell? ⟨V.heap.size, 2, none⟩ = some (.int .i64 b) := X1.out.i.2.2.1
  have e3 : U1.cell? ⟨V2.heap.size, 3, none⟩ = some (.int .i64 0) := X1.out.e rfl
  have ef3 : U1.frozen? ⟨V2.heap.size, 3, none⟩ = false := X1.out.eF 3
  go_upto_region 25 with (fail)
  generalize hU : World.setCell _ _ _ = U2
  have X2 : Hid (Sx (fun _ => False) w U2 w1.heap.size (w2.heap.size) (V.heap.size) (V2.heap.size) (w.heap.size + 1) (w.heap.size + 1 + 1) S ⟨7, A, b, C⟩ #[.int .i64 k, .int .i64 q, .int .u8 7, .int .i64 b, .int .i64 0, .int .i64 0] fv rs qs (updF fl (9 + k) ((fl (9 + k)).set A v)) n c) := Lib.hid (by rw [← hU]; exact X1.out.ev 3 (.int .i64 b))
  clear hU X1
  clear i2 e3 ef3
  have i1 : U2.cell? ⟨V.heap.size, 1, none⟩ = some (.int .i64 A) := X2.out.i.2.1
  obtain ⟨cr, crf⟩ := X2.out.at (j := A) (z := v) EE9.out (by rw [updF_same, List.getElem?_set_self (by omega)])
  have e4 : U2.cell? ⟨V2.heap.size, 4, none⟩ = some (.int .i64 0) := X2.out.e rfl
  have ef4 : U2.frozen? ⟨V2.heap.size, 4, none⟩ = false := X2.out.eF 4
  go_wp2_with fail
  generalize hU : World.setCell _ _ _ = U3
  have X3 : Hid (Sx (fun _ => False) w U3 w1.heap.size (w2.heap.size) (V.heap.size) (V2.heap.size) (w.heap.size + 1) (w.heap.size + 1 + 1) S ⟨7, A, b, C⟩ #[.int .i64 k, .int .i64 q, .int .u8 7, .int .i64 b, .int .i64 v, .int .i64 0] fv rs qs (updF fl (9 + k) ((fl (9 + k)).set A v)) n c) := Lib.hid (by rw [← hU]; exact X2.out.ev 4 (.int .i64 v))
  clear hU X2
  clear i1 cr crf e4 ef4
  have FX := Lib.hid (X3.out.fin)
  obtain ⟨Z0, z0, _⟩ := FX.out.b0
  obtain ⟨Z1, z2, _⟩ := FX.out.b1
  have ne1 := FX.out.ne.1
  have FZ0 := Lib.hid z0
  have FZ1 := Lib.hid z2
  have hS19 : Array.size S = 19 := by rw [hSV.out.eq]; rfl
  have hSz : (Try.prog.info? 72).map (·.size) = some (Array.size S) := by rw [hS19]; exact info_S
  have hS1 : Array.all S (·.oneCell') = true := sv_one hSV.out (FX.out.rf _ (Touch.of_below (Below.refl _ _)))
  clear z0 z2
  go_wp2_with fail
  refine fin_step FX.out rfl hS19 hS1 rfl (by simp [Value.oneCell']) rfl (fun _ _ _ _ _ h => h) rfl rfl rfl rfl ?_
  (try simp only [zz0, zz1, zz2, Act.put, zz3, zz4, zz5])
  go_wp2
  refine bodyPost_ret (v := .tuple #[.agg S, .agg #[.int .i64 k, .int .i64 q, .int .u8 7, .int .i64 b, .int .i64 v, .int .i64 0], .bool true]) (results_two (p := 4) (q := 5) (u := 6) rfl _ _ (w.heap.size + 1) (w.heap.size + 1 + 1) 72 45 S #[.int .i64 k, .int .i64 q, .int .u8 7, .int .i64 b, .int .i64 v, .int .i64 0] (0, 0) (0, 0) _ _ rfl ((setRow_other _ _ _ _ ne1).trans (setRow_heap _ _ _ _ _ _ FZ0.out)) Try.underlying72 rfl hSz rfl (setRow_heap _ _ _ _ _ _ ((setRow_other _ _ _ _ (Ne.symm ne1)).trans FZ1.out)) Try.underlying45 rfl info_event) rfl ?_
  exact ⟨_, _, _, _, rfl, hSV.out, fun u' T => FX.out.rf u' (touch_end T rfl rfl rfl rfl), touch_fin FX.out.bel FX.out.lo.1 FX.out.lo.2 rfl rfl rfl rfl⟩
theorem stepA_8 (S0 : Array Value) (p : ProgD) (ca : Option Addr) (ccap : Nat) (ta : Option Addr) (tcap : Nat) (fv0 : Nat → Value) (rs0 qs0 : Value) (fo fl : Nat → List Int) (n c : Nat) (w : World) (hS0 : SV S0 p ca ccap ta tcap fv0 rs0 qs0 0) (hP : ProgIn w w.heap.size p ca ta) (hn : n ≤ 6) (hc : c ≤ 4) (k q : Nat) (hk : k < n) (hr4 : (fl (9 + k)).length = 4) (hq : (fo 0)[k]? = some (q : Int)) (hfl : fl = updF fo 0 ((fo 0).set k ((q : Int) + 1))) (hq1 : q ≤ 1000) (ck : List InsD) (hck : p.threads[k]? = some ck) (hC : ∀ u, Below w.heap.size w u → Calls Try.prog 56 #[.agg S0, .int .i64 k] u fun e w' => e = .returned (.bool true) ∧ Below u.heap.size u w') (hK : ∀ u, Below w.heap.size w u → Calls Try.prog 57 #[.agg S0] u fun e w' => ∃ S fv rs qs, e = .returned (.agg S) ∧ SV S p ca ccap ta tcap fv rs qs 0 ∧ Ow w' u.heap.size fv rs qs fo n c ∧ Below u.heap.size u w') (A b : Nat) (C v rb : Int) (hb4 : b < 4) (hb : (fl (9 + k))[b]? = some rb) (h2 : (fl 2)[A]? = some v) (hx : ck[q]? = some ⟨8, A, b, C⟩) :
    Calls Try.prog 36 #[.agg S0, .int .i64 k] w fun e w' => Rs4 (fun _ => False) w w' e p ca ccap ta tcap n c (updF fl (2) ((fl (2)).set A rb)) 0 #[.int .i64 k, .int .i64 q, .int .u8 8, .int .i64 A, .int .i64 rb, .int .i64 0] := by
  refine (stepA_front.2 S0 p ca ccap ta tcap fv0 rs0 qs0 fo fl n c w hS0 hP hn hc k q hk hr4 hq hfl hq1 ck hck hC hK ta rfl 8 8 A b C rfl hx _ ?_)
  clear hS0 hP hfl hC hK
  intro hkt hqc hq0 htl w1 w2 S fv rs qs hSz2 hS19 hS1 hsz1 hszM V hVs hw1 g2 o2 k2 g3 o3 HT hSV g0 cap0 E0 HS7 V2 hV2s V3 U0 X0 KK hKK
  have hT2 := HT.out
  clear HT
  subst hT2
  have hS := hSV.out
  have hb4' : (b : Int) < 4 := by omega
  obtain ⟨gR, capR, eR, _, ltR, cR⟩ := X0.out.ow.reg hk
  obtain ⟨gr, capr, er, _, _, _⟩ := X0.out.num hb
  rw [hr4] at er
  have EE9 := Lib.hid er
  have H9 : Hid (S[9]? = some (.slice (some ⟨gR, 0, none⟩) n capR)) := Lib.hid (by rw [← eR, hS.eq]; rfl)
  rw [er] at cR
  clear er eR
  obtain ⟨g2, cap2, e2, _, _, lt2⟩ := X0.out.num h2
  have EE2 := Lib.hid e2
  have H10 : Hid (S[10]? = some (.slice (some ⟨g2, 0, none⟩) (fl 2).length cap2)) := Lib.hid (by rw [← e2, hS.eq]; rfl)
  clear e2
  have s9 : U0.cell? ⟨w2.heap.size, 9, none⟩ = some (.slice (some ⟨gR, 0, none⟩) n capR) := X0.out.s H9.out
  have cR0 := cR
  have i0 : U0.cell? ⟨V.heap.size, 0, none⟩ = some (.int .u8 8) := X0.out.i.1
  have i1 : U0.cell? ⟨V.heap.size, 1, none⟩ = some (.int .i64 A) := X0.out.i.2.1
  have i2 : U0.cell? ⟨V.heap.size, 2, none⟩ = some (.int .i64 b) := X0.out.i.2.2.1
  have i3 : U0.cell? ⟨V.heap.size, 3, none⟩ = some (.int .i64 C) := X0.out.i.2.2.2
  have s10 : U0.cell? ⟨w2.heap.size, 10, none⟩ = some (.slice (some ⟨g2, 0, none⟩) (fl 2).length cap2) := X0.out.s H10.out
  obtain ⟨c2, c2f⟩ := X0.out.at (j := A) (z := v) EE2.out (h2)
  obtain ⟨cr, crf⟩ := X0.out.at (j := b) (z := rb) EE9.out (hb)
  go_upto_region 27 with (fail)
  go_still_tail 10, (by kernel_rfl)
  go_upto_region 28 with (fail)
  generalize hU : World.setCell _ _ _ = U1
  have X1 : Hid (Sx (fun _ => False) w U1 w1.heap.size (w2.heap.size) (V.heap.size) (V2.heap.size) (w.heap.size + 1) (w.heap.size + 1 + 1) S ⟨8, A, b, C⟩ #[.int .i64 k, .int .i64 q, .int .u8 8, .int .i64 0, .int .i64 0, .int .i64 0] fv rs qs (updF fl (2) ((fl (2)).set A rb)) n c) := Lib.hid (by rw [← hU]; exact X0.out.put' EE2.out (lt2) rb)
  clear hU X0
  clear s9 i0 i1 i2 i3 cR cR0 s10 c2 c2f cr crf
  have i1 : U1.cell? ⟨V.heap.size, 1, none⟩ = some (.int .i64 A) := X1.out.i.2.1
  have e3 : U1.cell? ⟨V2.heap.size, 3, none⟩ = some (.int .i64 0) := X1.out.e rfl
  have ef3 : U1.frozen? ⟨V2.heap.size, 3, none⟩ = false := X1.out.eF 3
  go_upto_region 29 with (fail)
  generalize hU : World.setCell _ _ _ = U2
  have X2 : Hid (Sx (fun _ => False) w U2 w1.heap.size (w2.heap.size) (V.heap.size) (V2.heap.size) (w.heap.size + 1) (w.heap.size + 1 + 1) S ⟨8, A, b, C⟩ #[.int .i64 k, .int .i64 q, .int .u8 8, .int .i64 A, .int .i64 0, .int .i64 0] fv rs qs (updF fl (2) ((fl (2)).set A rb)) n c) := Lib.hid (by rw [← hU]; exact X1.out.ev 3 (.int .i64 A))
  clear hU X1
  clear i1 e3 ef3
  have i2 : U2.cell? ⟨V.heap.size, 2, none⟩ = some (.int .i64 b) := X2.out.i.2.2.1
  obtain ⟨cr, crf⟩ := X2.out.at (j := b) (z := rb) EE9.out (by rw [updF_ne _ _ (by omega)]; exact hb)
  have e4 : U2.cell? ⟨V2.heap.size, 4, none⟩ = some (.int .i64 0) := X2.out.e rfl
  have ef4 : U2.frozen? ⟨V2.heap.size, 4, none⟩ = false := X2.out.eF 4
  go_wp2_with fail
  generalize hU : World.setCell _ _ _ = U3
  have X3 : Hid (Sx (fun _ => False) w U3 w1.heap.size (w2.heap.size) (V.heap.size) (V2.heap.size) (w.heap.size + 1) (w.heap.size + 1 + 1) S ⟨8, A, b, C⟩ #[.int .i64 k, .int .i64 q, .int .u8 8, .int .i64 A, .int .i64 rb, .int .i64 0] fv rs qs (updF fl (2) ((fl (2)).set A rb)) n c) := Lib.hid (by rw [← hU]; exact X2.out.ev 4 (.int .i64 rb))
  clear hU X2
  clear i2 cr crf e4 ef4
  have FX := Lib.hid (X3.out.fin)
  obtain ⟨Z0, z0, _⟩ := FX.out.b0
  obtain ⟨Z1, z2, _⟩ := FX.out.b1
  have ne1 := FX.out.ne.1
  have FZ0 := Lib.hid z0
  have FZ1 := Lib.hid z2
  have hS19 : Array.size S = 19 := by rw [hSV.out.eq]; rfl
  have hSz : (Try.prog.info? 72).map (·.size) = some (Array.size S) := by rw [hS19]; exact info_S
  have hS1 : Array.all S (·.oneCell') = true := sv_one hSV.out (FX.out.rf _ (Touch.of_below (Below.refl _ _)))
  clear z0 z2
  go_wp2_with fail
  refine fin_step FX.out rfl hS19 hS1 rfl (by simp [Value.oneCell']) rfl (fun _ _ _ _ _ h => h) rfl rfl rfl rfl ?_
  (try simp only [zz0, zz1, zz2, Act.put, zz3, zz4, zz5])
  go_wp2
  refine bodyPost_ret (v := .tuple #[.agg S, .agg #[.int .i64 k, .int .i64 q, .int .u8 8, .int .i64 A, .int .i64 rb, .int .i64 0], .bool true]) (results_two (p := 4) (q := 5) (u := 6) rfl _ _ (w.heap.size + 1) (w.heap.size + 1 + 1) 72 45 S #[.int .i64 k, .int .i64 q, .int .u8 8, .int .i64 A, .int .i64 rb, .int .i64 0] (0, 0) (0, 0) _ _ rfl ((setRow_other _ _ _ _ ne1).trans (setRow_heap _ _ _ _ _ _ FZ0.out)) Try.underlying72 rfl hSz rfl (setRow_heap _ _ _ _ _ _ ((setRow_other _ _ _ _ (Ne.symm ne1)).trans FZ1.out)) Try.underlying45 rfl info_event) rfl ?_
  exact ⟨_, _, _, _, rfl, hSV.out, fun u' T => FX.out.rf u' (touch_end T rfl rfl rfl rfl), touch_fin FX.out.bel FX.out.lo.1 FX.out.lo.2 rfl rfl rfl rfl⟩
theorem stepA_10 (S0 : Array Value) (p : ProgD) (ca : Option Addr) (ccap : Nat) (ta : Option Addr) (tcap : Nat) (fv0 : Nat → Value) (rs0 qs0 : Value) (fo fl : Nat → List Int) (n c : Nat) (w : World) (hS0 : SV S0 p ca ccap ta tcap fv0 rs0 qs0 0) (hP : ProgIn w w.heap.size p ca ta) (hn : n ≤ 6) (hc : c ≤ 4) (k q : Nat) (hk : k < n) (hr4 : (fl (9 + k)).length = 4) (hq : (fo 0)[k]? = some (q : Int)) (hfl : fl = updF fo 0 ((fo 0).set k ((q : Int) + 1))) (hq1 : q ≤ 1000) (ck : List InsD) (hck : p.threads[k]? = some ck) (hC : ∀ u, Below w.heap.size w u → Calls Try.prog 56 #[.agg S0, .int .i64 k] u fun e w' => e = .returned (.bool true) ∧ Below u.heap.size u w') (hK : ∀ u, Below w.heap.size w u → Calls Try.prog 57 #[.agg S0] u fun e w' => ∃ S fv rs qs, e = .returned (.agg S) ∧ SV S p ca ccap ta tcap fv rs qs 0 ∧ Ow w' u.heap.size fv rs qs fo n c ∧ Below u.heap.size u w') (a b C : Int) (h0 : (fl 0)[k]? = some ((q : Int) + 1)) (hx : ck[q]? = some ⟨10, a, b, C⟩) :
    Calls Try.prog 36 #[.agg S0, .int .i64 k] w fun e w' => Rs4 (fun _ => False) w w' e p ca ccap ta tcap n c (updF fl (0) ((fl (0)).set k a)) 0 #[.int .i64 k, .int .i64 q, .int .u8 10, .int .i64 0, .int .i64 0, .int .i64 0] := by
  refine (stepA_front.2 S0 p ca ccap ta tcap fv0 rs0 qs0 fo fl n c w hS0 hP hn hc k q hk hr4 hq hfl hq1 ck hck hC hK ta rfl 10 10 a b C rfl hx _ ?_)
  clear hS0 hP hfl hC hK
  intro hkt hqc hq0 htl w1 w2 S fv rs qs hSz2 hS19 hS1 hsz1 hszM V hVs hw1 g2 o2 k2 g3 o3 HT hSV g0 cap0 E0 HS7 V2 hV2s V3 U0 X0 KK hKK
  have hT2 := HT.out
  clear HT
  subst hT2
  have hS := hSV.out
  obtain ⟨rz, hz⟩ := at_lt (l := fl (9 + k)) (k := 0) (by omega)
  obtain ⟨gR, capR, eR, _, ltR, cR⟩ := X0.out.ow.reg hk
  obtain ⟨gr, capr, er, _, _, _⟩ := X0.out.num hz
  rw [hr4] at er
  have EE9 := Lib.hid er
  have H9 : Hid (S[9]? = some (.slice (some ⟨gR, 0, none⟩) n capR)) := Lib.hid (by rw [← eR, hS.eq]; rfl)
  rw [er] at cR
  clear er eR
  obtain ⟨g0, cap0, e0, _, _, lt0⟩ := X0.out.num h0
  have EE0 := Lib.hid e0
  have H7 : Hid (S[7]? = some (.slice (some ⟨g0, 0, none⟩) (fl 0).length cap0)) := Lib.hid (by rw [← e0, hS.eq]; rfl)
  clear e0
  have s9 : U0.cell? ⟨w2.heap.size, 9, none⟩ = some (.slice (some ⟨gR, 0, none⟩) n capR) := X0.out.s H9.out
  have cR0 := cR
  have i0 : U0.cell? ⟨V.heap.size, 0, none⟩ = some (.int .u8 10) := X0.out.i.1
  have i1 : U0.cell? ⟨V.heap.size, 1, none⟩ = some (.int .i64 a) := X0.out.i.2.1
  have i2 : U0.cell? ⟨V.heap.size, 2, none⟩ = some (.int .i64 b) := X0.out.i.2.2.1
  have i3 : U0.cell? ⟨V.heap.size, 3, none⟩ = some (.int .i64 C) := X0.out.i.2.2.2
  have s7 : U0.cell? ⟨w2.heap.size, 7, none⟩ = some (.slice (some ⟨g0, 0, none⟩) (fl 0).length cap0) := X0.out.s H7.out
  obtain ⟨c0, c0f⟩ := X0.out.at (j := k) (z := ((q : Int) + 1)) EE0.out (h0)
  go_wp2_with fail
  generalize hU : World.setCell _ _ _ = U1
  have X1 : Hid (Sx (fun _ => False) w U1 w1.heap.size (w2.heap.size) (V.heap.size) (V2.heap.size) (w.heap.size + 1) (w.heap.size + 1 + 1) S ⟨10, a, b, C⟩ #[.int .i64 k, .int .i64 q, .int .u8 10, .int .i64 0, .int .i64 0, .int .i64 0] fv rs qs (updF fl (0) ((fl (0)).set k a)) n c) := Lib.hid (by rw [← hU]; exact X0.out.put' EE0.out (lt0) a)
  clear hU X0
  clear s9 i0 i1 i2 i3 cR cR0 s7 c0 c0f
  have FX := Lib.hid (X1.out.fin)
  obtain ⟨Z0, z0, _⟩ := FX.out.b0
  obtain ⟨Z1, z2, _⟩ := FX.out.b1
  have ne1 := FX.out.ne.1
  have FZ0 := Lib.hid z0
  have FZ1 := Lib.hid z2
  have hS19 : Array.size S = 19 := by rw [hSV.out.eq]; rfl
  have hSz : (Try.prog.info? 72).map (·.size) = some (Array.size S) := by rw [hS19]; exact info_S
  have hS1 : Array.all S (·.oneCell') = true := sv_one hSV.out (FX.out.rf _ (Touch.of_below (Below.refl _ _)))
  clear z0 z2
  go_wp2_with fail
  refine fin_step FX.out rfl hS19 hS1 rfl (by simp [Value.oneCell']) rfl (fun _ _ _ _ _ h => h) rfl rfl rfl rfl ?_
  (try simp only [zz0, zz1, zz2, Act.put, zz3, zz4, zz5])
  go_wp2
  refine bodyPost_ret (v := .tuple #[.agg S, .agg #[.int .i64 k, .int .i64 q, .int .u8 10, .int .i64 0, .int .i64 0, .int .i64 0], .bool true]) (results_two (p := 4) (q := 5) (u := 6) rfl _ _ (w.heap.size + 1) (w.heap.size + 1 + 1) 72 45 S #[.int .i64 k, .int .i64 q, .int .u8 10, .int .i64 0, .int .i64 0, .int .i64 0] (0, 0) (0, 0) _ _ rfl ((setRow_other _ _ _ _ ne1).trans (setRow_heap _ _ _ _ _ _ FZ0.out)) Try.underlying72 rfl hSz rfl (setRow_heap _ _ _ _ _ _ ((setRow_other _ _ _ _ (Ne.symm ne1)).trans FZ1.out)) Try.underlying45 rfl info_event) rfl ?_
  exact ⟨_, _, _, _, rfl, hSV.out, fun u' T => FX.out.rf u' (touch_end T rfl rfl rfl rfl), touch_fin FX.out.bel FX.out.lo.1 FX.out.lo.2 rfl rfl rfl rfl⟩
theorem stepA_11y (S0 : Array Value) (p : ProgD) (ca : Option Addr) (ccap : Nat) (ta : Option Addr) (tcap : Nat) (fv0 : Nat → Value) (rs0 qs0 : Value) (fo fl : Nat → List Int) (n c : Nat) (w : World) (hS0 : SV S0 p ca ccap ta tcap fv0 rs0 qs0 0) (hP : ProgIn w w.heap.size p ca ta) (hn : n ≤ 6) (hc : c ≤ 4) (k q : Nat) (hk : k < n) (hr4 : (fl (9 + k)).length = 4) (hq : (fo 0)[k]? = some (q : Int)) (hfl : fl = updF fo 0 ((fo 0).set k ((q : Int) + 1))) (hq1 : q ≤ 1000) (ck : List InsD) (hck : p.threads[k]? = some ck) (hC : ∀ u, Below w.heap.size w u → Calls Try.prog 56 #[.agg S0, .int .i64 k] u fun e w' => e = .returned (.bool true) ∧ Below u.heap.size u w') (hK : ∀ u, Below w.heap.size w u → Calls Try.prog 57 #[.agg S0] u fun e w' => ∃ S fv rs qs, e = .returned (.agg S) ∧ SV S p ca ccap ta tcap fv rs qs 0 ∧ Ow w' u.heap.size fv rs qs fo n c ∧ Below u.heap.size u w') (A : Nat) (b C rA : Int) (hA4 : A < 4) (hA : (fl (9 + k))[A]? = some rA) (h0 : (fl 0)[k]? = some ((q : Int) + 1)) (hzr : rA = 0) (hx : ck[q]? = some ⟨11, A, b, C⟩) :
    Calls Try.prog 36 #[.agg S0, .int .i64 k] w fun e w' => Rs4 (fun _ => False) w w' e p ca ccap ta tcap n c (updF fl (0) ((fl (0)).set k b)) 0 #[.int .i64 k, .int .i64 q, .int .u8 11, .int .i64 0, .int .i64 0, .int .i64 0] := by
  refine (stepA_front.2 S0 p ca ccap ta tcap fv0 rs0 qs0 fo fl n c w hS0 hP hn hc k q hk hr4 hq hfl hq1 ck hck hC hK ta rfl 11 11 A b C rfl hx _ ?_)
  clear hS0 hP hfl hC hK
  intro hkt hqc hq0 htl w1 w2 S fv rs qs hSz2 hS19 hS1 hsz1 hszM V hVs hw1 g2 o2 k2 g3 o3 HT hSV g0 cap0 E0 HS7 V2 hV2s V3 U0 X0 KK hKK
  have hT2 := HT.out
  clear HT
  subst hT2
  have hS := hSV.out
  have hA4' : (A : Int) < 4 := by omega
  obtain ⟨gR, capR, eR, _, ltR, cR⟩ := X0.out.ow.reg hk
  obtain ⟨gr, capr, er, _, _, _⟩ := X0.out.num hA
  rw [hr4] at er
  have EE9 := Lib.hid er
  have H9 : Hid (S[9]? = some (.slice (some ⟨gR, 0, none⟩) n capR)) := Lib.hid (by rw [← eR, hS.eq]; rfl)
  rw [er] at cR
  clear er eR
  obtain ⟨g0, cap0, e0, _, _, lt0⟩ := X0.out.num h0
  have EE0 := Lib.hid e0
  have H7 : Hid (S[7]? = some (.slice (some ⟨g0, 0, none⟩) (fl 0).length cap0)) := Lib.hid (by rw [← e0, hS.eq]; rfl)
  clear e0
  have s9 : U0.cell? ⟨w2.heap.size, 9, none⟩ = some (.slice (some ⟨gR, 0, none⟩) n capR) := X0.out.s H9.out
  have cR0 := cR
  have i0 : U0.cell? ⟨V.heap.size, 0, none⟩ = some (.int .u8 11) := X0.out.i.1
  have i1 : U0.cell? ⟨V.heap.size, 1, none⟩ = some (.int .i64 A) := X0.out.i.2.1
  have i2 : U0.cell? ⟨V.heap.size, 2, none⟩ = some (.int .i64 b) := X0.out.i.2.2.1
  have i3 : U0.cell? ⟨V.heap.size, 3, none⟩ = some (.int .i64 C) := X0.out.i.2.2.2
  have hz0 : (rA == 0) = true := by simpa using hzr
  obtain ⟨cr, crf⟩ := X0.out.at (j := A) (z := rA) EE9.out (hA)
  have s7 : U0.cell? ⟨w2.heap.size, 7, none⟩ = some (.slice (some ⟨g0, 0, none⟩) (fl 0).length cap0) := X0.out.s H7.out
  obtain ⟨c0, c0f⟩ := X0.out.at (j := k) (z := ((q : Int) + 1)) EE0.out (h0)
  go_wp2_with fail
  generalize hU : World.setCell _ _ _ = U1
  have X1 : Hid (Sx (fun _ => False) w U1 w1.heap.size (w2.heap.size) (V.heap.size) (V2.heap.size) (w.heap.size + 1) (w.heap.size + 1 + 1) S ⟨11, A, b, C⟩ #[.int .i64 k, .int .i64 q, .int .u8 11, .int .i64 0, .int .i64 0, .int .i64 0] fv rs qs (updF fl (0) ((fl (0)).set k b)) n c) := Lib.hid (by rw [← hU]; exact X0.out.put' EE0.out (lt0) b)
  clear hU X0
  clear s9 i0 i1 i2 i3 cR cR0 cr crf s7 c0 c0f
  have FX := Lib.hid (X1.out.fin)
  obtain ⟨Z0, z0, _⟩ := FX.out.b0
  obtain ⟨Z1, z2, _⟩ := FX.out.b1
  have ne1 := FX.out.ne.1
  have FZ0 := Lib.hid z0
  have FZ1 := Lib.hid z2
  have hS19 : Array.size S = 19 := by rw [hSV.out.eq]; rfl
  have hSz : (Try.prog.info? 72).map (·.size) = some (Array.size S) := by rw [hS19]; exact info_S
  have hS1 : Array.all S (·.oneCell') = true := sv_one hSV.out (FX.out.rf _ (Touch.of_below (Below.refl _ _)))
  clear z0 z2
  go_wp2_with fail
  refine fin_step FX.out rfl hS19 hS1 rfl (by simp [Value.oneCell']) rfl (fun _ _ _ _ _ h => h) rfl rfl rfl rfl ?_
  (try simp only [zz0, zz1, zz2, Act.put, zz3, zz4, zz5])
  go_wp2
  refine bodyPost_ret (v := .tuple #[.agg S, .agg #[.int .i64 k, .int .i64 q, .int .u8 11, .int .i64 0, .int .i64 0, .int .i64 0], .bool true]) (results_two (p := 4) (q := 5) (u := 6) rfl _ _ (w.heap.size + 1) (w.heap.size + 1 + 1) 72 45 S #[.int .i64 k, .int .i64 q, .int .u8 11, .int .i64 0, .int .i64 0, .int .i64 0] (0, 0) (0, 0) _ _ rfl ((setRow_other _ _ _ _ ne1).trans (setRow_heap _ _ _ _ _ _ FZ0.out)) Try.underlying72 rfl hSz rfl (setRow_heap _ _ _ _ _ _ ((setRow_other _ _ _ _ (Ne.symm ne1)).trans FZ1.out)) Try.underlying45 rfl info_event) rfl ?_
  exact ⟨_, _, _, _, rfl, hSV.out, fun u' T => FX.out.rf u' (touch_end T rfl rfl rfl rfl), touch_fin FX.out.bel FX.out.lo.1 FX.out.lo.2 rfl rfl rfl rfl⟩
theorem stepA_11n (S0 : Array Value) (p : ProgD) (ca : Option Addr) (ccap : Nat) (ta : Option Addr) (tcap : Nat) (fv0 : Nat → Value) (rs0 qs0 : Value) (fo fl : Nat → List Int) (n c : Nat) (w : World) (hS0 : SV S0 p ca ccap ta tcap fv0 rs0 qs0 0) (hP : ProgIn w w.heap.size p ca ta) (hn : n ≤ 6) (hc : c ≤ 4) (k q : Nat) (hk : k < n) (hr4 : (fl (9 + k)).length = 4) (hq : (fo 0)[k]? = some (q : Int)) (hfl : fl = updF fo 0 ((fo 0).set k ((q : Int) + 1))) (hq1 : q ≤ 1000) (ck : List InsD) (hck : p.threads[k]? = some ck) (hC : ∀ u, Below w.heap.size w u → Calls Try.prog 56 #[.agg S0, .int .i64 k] u fun e w' => e = .returned (.bool true) ∧ Below u.heap.size u w') (hK : ∀ u, Below w.heap.size w u → Calls Try.prog 57 #[.agg S0] u fun e w' => ∃ S fv rs qs, e = .returned (.agg S) ∧ SV S p ca ccap ta tcap fv rs qs 0 ∧ Ow w' u.heap.size fv rs qs fo n c ∧ Below u.heap.size u w') (A : Nat) (b C rA : Int) (hA4 : A < 4) (hA : (fl (9 + k))[A]? = some rA) (h0 : (fl 0)[k]? = some ((q : Int) + 1)) (hzr : ¬ rA = 0) (hx : ck[q]? = some ⟨11, A, b, C⟩) :
    Calls Try.prog 36 #[.agg S0, .int .i64 k] w fun e w' => Rs4 (fun _ => False) w w' e p ca ccap ta tcap n c (fl) 0 #[.int .i64 k, .int .i64 q, .int .u8 11, .int .i64 0, .int .i64 0, .int .i64 0] := by
  refine (stepA_front.2 S0 p ca ccap ta tcap fv0 rs0 qs0 fo fl n c w hS0 hP hn hc k q hk hr4 hq hfl hq1 ck hck hC hK ta rfl 11 11 A b C rfl hx _ ?_)
  clear hS0 hP hfl hC hK
  intro hkt hqc hq0 htl w1 w2 S fv rs qs hSz2 hS19 hS1 hsz1 hszM V hVs hw1 g2 o2 k2 g3 o3 HT hSV g0 cap0 E0 HS7 V2 hV2s V3 U0 X0 KK hKK
  have hT2 := HT.out
  clear HT
  subst hT2
  have hS := hSV.out
  have hA4' : (A : Int) < 4 := by omega
  obtain ⟨gR, capR, eR, _, ltR, cR⟩ := X0.out.ow.reg hk
  obtain ⟨gr, capr, er, _, _, _⟩ := X0.out.num hA
  rw [hr4] at er
  have EE9 := Lib.hid er
  have H9 : Hid (S[9]? = some (.slice (some ⟨gR, 0, none⟩) n capR)) := Lib.hid (by rw [← eR, hS.eq]; rfl)
  rw [er] at cR
  clear er eR
  obtain ⟨g0, cap0, e0, _, _, lt0⟩ := X0.out.num h0
  have EE0 := Lib.hid e0
  have H7 : Hid (S[7]? = some (.slice (some ⟨g0, 0, none⟩) (fl 0).length cap0)) := Lib.hid (by rw [← e0, hS.eq]; rfl)
  clear e0
  have s9 : U0.cell? ⟨w2.heap.size, 9, none⟩ = some (.slice (some ⟨gR, 0, none⟩) n capR) := X0.out.s H9.out
  have cR0 := cR
  have i0 : U0.cell? ⟨V.heap.size, 0, none⟩ = some (.int .u8 11) := X0.out.i.1
  have i1 : U0.cell? ⟨V.heap.size, 1, none⟩ = some (.int .i64 A) := X0.out.i.2.1
  have i2 : U0.cell? ⟨V.heap.size, 2, none⟩ = some (.int .i64 b) := X0.out.i.2.2.1
  have i3 : U0.cell? ⟨V.heap.size, 3, none⟩ = some (.int .i64 C) := X0.out.i.2.2.2
  have hz0 : (rA == 0) = false := by simpa using hzr
  obtain ⟨cr, crf⟩ := X0.out.at (j := A) (z := rA) EE9.out (hA)
  go_wp2_with fail
  clear s9 i0 i1 i2 i3 cR cR0 cr crf
  have FX := Lib.hid (X0.out.fin)
  obtain ⟨Z0, z0, _⟩ := FX.out.b0
  obtain ⟨Z1, z2, _⟩ := FX.out.b1
  have ne1 := FX.out.ne.1
  have FZ0 := Lib.hid z0
  have FZ1 := Lib.hid z2
  have hS19 : Array.size S = 19 := by rw [hSV.out.eq]; rfl
  have hSz : (Try.prog.info? 72).map (·.size) = some (Array.size S) := by rw [hS19]; exact info_S
  have hS1 : Array.all S (·.oneCell') = true := sv_one hSV.out (FX.out.rf _ (Touch.of_below (Below.refl _ _)))
  clear z0 z2
  go_wp2_with fail
  refine fin_step FX.out rfl hS19 hS1 rfl (by simp [Value.oneCell']) rfl (fun _ _ _ _ _ h => h) rfl rfl rfl rfl ?_
  (try simp only [zz0, zz1, zz2, Act.put, zz3, zz4, zz5])
  go_wp2
  refine bodyPost_ret (v := .tuple #[.agg S, .agg #[.int .i64 k, .int .i64 q, .int .u8 11, .int .i64 0, .int .i64 0, .int .i64 0], .bool true]) (results_two (p := 4) (q := 5) (u := 6) rfl _ _ (w.heap.size + 1) (w.heap.size + 1 + 1) 72 45 S #[.int .i64 k, .int .i64 q, .int .u8 11, .int .i64 0, .int .i64 0, .int .i64 0] (0, 0) (0, 0) _ _ rfl ((setRow_other _ _ _ _ ne1).trans (setRow_heap _ _ _ _ _ _ FZ0.out)) Try.underlying72 rfl hSz rfl (setRow_heap _ _ _ _ _ _ ((setRow_other _ _ _ _ (Ne.symm ne1)).trans FZ1.out)) Try.underlying45 rfl info_event) rfl ?_
  exact ⟨_, _, _, _, rfl, hSV.out, fun u' T => FX.out.rf u' (touch_end T rfl rfl rfl rfl), touch_fin FX.out.bel FX.out.lo.1 FX.out.lo.2 rfl rfl rfl rfl⟩
end Go.Proofs.Ytnbpneaiibandaa
