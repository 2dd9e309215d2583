/- What the laws of this seat stand on, part 16. -/
import Derived.Test.YtnbpneaiibandaaPa0
import Derived.Test.YtnbpneaiibandaaPa14
import Derived.Test.YtnbpneaiibandaaPa15
set_option linter.unusedVariables false
set_option linter.unusedSimpArgs false
set_option maxRecDepth 100000
set_option maxHeartbeats 40000000
namespace Go.Proofs.Ytnbpneaiibandaa
open Go.ChangeShapes Go.WideShapes Go.ChangeAt Go.RowKit
theorem stepA_9 (S0 : Array Value) (p : ProgD) (ca : Option Addr) (ccap : Nat) (ta : Option Addr) (tcap : Nat) (fv0 : Nat → Value) (rs0 qs0 : Value) (fo fl : Nat → List Int) (n c : Nat) (w : World) (hS0 : SV S0 p ca ccap ta tcap fv0 rs0 qs0 0) (hP : ProgIn w w.heap.size p ca ta) (hn : n ≤ 6) (hc : c ≤ 4) (k q : Nat) (hk : k < n) (hr4 : (fl (9 + k)).length = 4) (hq : (fo 0)[k]? = some (q : Int)) (hfl : fl = updF fo 0 ((fo 0).set k ((q : Int) + 1))) (hq1 : q ≤ 1000) (ck : List InsD) (hck : p.threads[k]? = some ck) (hC : ∀ u, Below w.heap.size w u → Calls Try.prog 56 #[.agg S0, .int .i64 k] u fun e w' => e = .returned (.bool true) ∧ Below u.heap.size u w') (hK : ∀ u, Below w.heap.size w u → Calls Try.prog 57 #[.agg S0] u fun e w' => ∃ S fv rs qs, e = .returned (.agg S) ∧ SV S p ca ccap ta tcap fv rs qs 0 ∧ Ow w' u.heap.size fv rs qs fo n c ∧ Below u.heap.size u w') (A : Nat) (b C rA : Int) (hA4 : A < 4) (hA : (fl (9 + k))[A]? = some rA) (hlen : (fl 8).length ≤ 1000000) (hx : ck[q]? = some ⟨9, A, b, C⟩) :
    Calls Try.prog 36 #[.agg S0, .int .i64 k] w fun e w' => Rs4 (fun _ => False) w w' e p ca ccap ta tcap n c (updF fl 8 (fl 8 ++ [rA])) 0 #[.int .i64 k, .int .i64 q, .int .u8 9, .int .i64 0, .int .i64 rA, .int .i64 0] := by
  refine (stepA_front.2 S0 p ca ccap ta tcap fv0 rs0 qs0 fo fl n c w hS0 hP hn hc k q hk hr4 hq hfl hq1 ck hck hC hK ta rfl 9 9 A b C rfl hx _ ?_)
  clear hS0 hP hfl hC hK
  intro hkt hqc hq0 htl w1 w2 S fv rs qs hSz2 hS19 hS1 hsz1 hszM V hVs hw1 g2 o2 k2 g3 o3 HT hSV g0 cap0 E0 HS7 V2 hV2s V3 U0 X0 KK hKK
  have hT2 := HT.out
  clear HT
  subst hT2
  have hS := hSV.out
  have hA4' : (A : Int) < 4 := by omega
  obtain ⟨gR, capR, eR, _, ltR, cR⟩ := X0.out.ow.reg hk
  obtain ⟨gr, capr, er, _, _, _⟩ := X0.out.num hA
  rw [hr4] at er
  have EE9 := Lib.hid er
  have H9 : Hid (S[9]? = some (.slice (some ⟨gR, 0, none⟩) n capR)) := Lib.hid (by rw [← eR, hS.eq]; rfl)
  rw [er] at cR
  clear er eR
  have s9 : U0.cell? ⟨w2.heap.size, 9, none⟩ = some (.slice (some ⟨gR, 0, none⟩) n capR) := X0.out.s H9.out
  have cR0 := cR
  have i0 : U0.cell? ⟨V.heap.size, 0, none⟩ = some (.int .u8 9) := X0.out.i.1
  have i1 : U0.cell? ⟨V.heap.size, 1, none⟩ = some (.int .i64 A) := X0.out.i.2.1
  have i2 : U0.cell? ⟨V.heap.size, 2, none⟩ = some (.int .i64 b) := X0.out.i.2.2.1
  have i3 : U0.cell? ⟨V.heap.size, 3, none⟩ = some (.int .i64 C) := X0.out.i.2.2.2
  go_upto_region 31 with (fail)
  clear s9 i0 i1 i2 i3 cR cR0
  obtain ⟨a8, cap8, e8, _⟩ := X0.out.ow.rf.row 8
  have EEQ := Lib.hid e8
  have HQ : Hid (U0.cell? ⟨w2.heap.size, 17, none⟩ = some (.slice a8 (fl 8).length cap8)) := Lib.hid (X0.out.s (by rw [← e8, hSV.out.eq]; rfl))
  have HRow : Hid (U0.ownsRow w1.heap.size 3 1 (.slice a8 (fl 8).length cap8) (fl 8).length ((fl 8).map (.int .i64 ·))) := Lib.hid (by rw [← e8]; exact X0.out.ow.fam.row 8)
  have hgr : (fv (9 + k)).ownBlock = some gr := by rw [EE9.out]; rfl
  have lsb := (Array.getElem?_eq_some_iff.1 X0.out.sB).1
  clear e8
  have i1 : U0.cell? ⟨V.heap.size, 1, none⟩ = some (.int .i64 A) := X0.out.i.2.1
  obtain ⟨cr, crf⟩ := X0.out.at (j := A) (z := rA) EE9.out (hA)
  obtain ⟨i0, hi0, hz0, hz1, hz2⟩ := info_parts info_intT
  refine wp_region_held_drew (S := fun u => u.cell? ⟨V.heap.size, 1, none⟩ = some (.int .i64 A) ∧ u.cell? ⟨gr, A, none⟩ = some (.int .i64 rA)) (by kernel_rfl) ⟨i1, cr⟩ (fun hHeld => ?_)
  refine wpAnyH_take (i := 0) (oi := _) (v := ?_) rfl (by kernel_rfl) (by kernel_rfl) (by kernel_rfl) (fun _ _ _ h => h) (Or.inl ⟨by rfl, ?_⟩) hHeld ?_
  rotate_left
  · intro u hSw; obtain ⟨z0, z1⟩ := hSw; go_simp; try (with_reducible rfl)
  (try simp only [zz0, zz1, zz2, Act.put, zz3, zz4, zz5])
  refine wpAnyH_take (i := 2) (oi := _) (v := ?_) rfl (by kernel_rfl) (by kernel_rfl) (by kernel_rfl) (fun _ _ _ h => h) (Or.inl ⟨by rfl, ?_⟩) hHeld ?_
  rotate_left
  · intro u hSw; obtain ⟨z0, z1⟩ := hSw; go_simp; try (with_reducible rfl)
  (try simp only [zz0, zz1, zz2, Act.put, zz3, zz4, zz5])
  refine wpAnyH_take (i := 3) (oi := _) (v := ?_) rfl (by kernel_rfl) (by kernel_rfl) (by kernel_rfl) (fun _ _ _ h => h) (Or.inl ⟨by rfl, ?_⟩) hHeld ?_
  rotate_left
  · intro u hSw; obtain ⟨z0, z1⟩ := hSw; go_simp; try (with_reducible rfl)
  (try simp only [zz0, zz1, zz2, Act.put, zz3, zz4, zz5])
  refine wpAnyH_take (i := 4) (oi := _) (v := ?_) rfl (by kernel_rfl) (by kernel_rfl) (by kernel_rfl) (fun _ _ _ h => h) (Or.inl ⟨by rfl, ?_⟩) hHeld ?_
  rotate_left
  · intro u hSw; obtain ⟨z0, z1⟩ := hSw; go_simp; try (with_reducible rfl)
  (try simp only [zz0, zz1, zz2, Act.put, zz3, zz4, zz5])
  refine wpAnyH_take (i := 5) (oi := _) (v := ?_) rfl (by kernel_rfl) (by kernel_rfl) (by kernel_rfl) (fun _ _ _ h => h) (Or.inl ⟨by rfl, ?_⟩) hHeld ?_
  rotate_left
  · intro u hSw; obtain ⟨z0, z1⟩ := hSw; go_simp; try (with_reducible rfl)
  (try simp only [zz0, zz1, zz2, Act.put, zz3, zz4, zz5])
  refine wpAnyH_take (i := 6) (oi := _) (v := ?_) rfl (by kernel_rfl) (by kernel_rfl) (by kernel_rfl) (fun _ _ _ h => h) (Or.inl ⟨by rfl, ?_⟩) hHeld ?_
  rotate_left
  · intro u hSw; obtain ⟨z0, z1⟩ := hSw; go_simp; try (with_reducible rfl)
  (try simp only [zz0, zz1, zz2, Act.put, zz3, zz4, zz5])
  have HQD : Hid ((U0.drew).cell? ⟨w2.heap.size, 17, none⟩ = some (.slice a8 (fl 8).length cap8)) := Lib.hid HQ.out
  have HQA : ∀ o, Hid ((World.alloc (U0.drew) o).cell? ⟨w2.heap.size, 17, none⟩ = some (.slice a8 (fl 8).length cap8)) := fun o => Lib.hid (Lib.cell?_alloc_some _ HQD.out)
  have hBA : ∀ o, Below U0.heap.size U0 (World.alloc (U0.drew) o) := fun o => (Below.refl _ U0).drew.alloc (Nat.le_refl _) o
  refine wpAnyH_ready (rs := [1, 7]) (by kernel_rfl) (by simp) ?_
  refine AllReadyH.cons (o := _) rfl (fun K hK => ?_) (AllReadyH.cons (o := _) rfl (fun K hK => ?_) AllReadyH.nil)
  · skip
    have hq := HQD.out
    rw [if_pos (by rfl)]
    go_simp
    clear hq
    refine hK.out _ _ hHeld (fun hHeld => ?_)
    clear hK K
    (try simp only [zz0, zz1, zz2, Act.put, zz3, zz4, zz5])
    refine wpAnyH_ready (rs := [7]) (by kernel_rfl) (by simp) ?_
    refine AllReadyH.cons (o := _) rfl (fun K hK => ?_) AllReadyH.nil
    rw [if_pos (by rfl)]
    go_simp
    refine hK.out _ _ ⟨Lib.cell?_alloc_some _ hHeld.1, Lib.cell?_alloc_some _ hHeld.2⟩ (fun hHeld => ?_)
    clear hK K
    (try simp only [zz0, zz1, zz2, Act.put, zz3, zz4, zz5])
    refine wpAnyH_ready (rs := [8]) (by kernel_rfl) (by simp) ?_
    refine AllReadyH.cons (o := _) rfl (fun K hK => ?_) AllReadyH.nil
    rw [if_pos (by rfl)]
    refine wp_append_own_at _ (.tmp 196) (.tmp 202) 24 rfl w1.heap.size 3 i0 (.int .i64 0) 1 8 Try.underlying24 hi0 hz0 hz1 hz2 rfl (by decide) (.slice a8 (fl 8).length cap8) _ _ rfl (own_later HRow.out (hBA _)) ⟨U0.heap.size, 0, none⟩ 1 1 [.int .i64 rA] rfl rfl (cell_one_new _ _ _) (by simp [Value.oneCell']) (by unfold maxLen; omega) (by omega) (Nat.le_trans X0.out.ow.fam.top (hBA _).size) ?_
    intro v' w5 hown hgrow _ hat
    obtain ⟨g7, cap7, rfl⟩ := ownsRow_succ hown
    rw [← EEQ.out] at hgrow hat
    refine hK.out _ _ ⟨hgrow.cell hHeld.1 (fun e => (fun e => (X0.out.ap _ (.inl ⟨8, e⟩)).2.1 rfl) e.symm), hgrow.cell hHeld.2 (fun e => (apart_ne (X0.out.ow.fam.ap (9 + k) 8 (by omega)) hgr) e.symm)⟩ (fun hHeld => ?_)
    clear hK K
    (try simp only [zz0, zz1, zz2, Act.put, zz3, zz4, zz5])
    refine wpAnyH_take (i := 9) (oi := _) (v := ?_) rfl (by kernel_rfl) (by kernel_rfl) (by kernel_rfl) (fun _ _ _ h => h) (Or.inl ⟨by rfl, ?_⟩) hHeld ?_
    rotate_left
    · intro u hSw; clear hSw; go_simp; try (with_reducible rfl)
    (try simp only [zz0, zz1, zz2, Act.put, zz3, zz4, zz5])
    have cst := hgrow.cell (HQA _).out (fun e => (X0.out.ap _ (.inl ⟨8, e.symm⟩)).1 rfl)
    have cstf := grown_frozen hgrow (Nat.lt_of_lt_of_le lsb (hBA _).size) (fun e => (X0.out.ap _ (.inl ⟨8, e.symm⟩)).1 rfl) (((hBA _).frozen (p := ⟨w2.heap.size, 17, none⟩) lsb).trans (X0.out.sF 17))
    refine wpAnyH_ready (rs := [10]) (by kernel_rfl) (by simp) ?_
    refine AllReadyH.cons (o := _) rfl (fun K hK => ?_) AllReadyH.nil
    rw [if_pos (by rfl)]
    go_simp
    refine hK.out _ _ ⟨(pop_cell (Ne.symm X0.out.ne.1)).trans hHeld.1, (pop_cell (X0.out.ap gr (.inl ⟨9 + k, hgr⟩)).1).trans hHeld.2⟩ (fun hHeld => ?_)
    clear hK K
    (try simp only [zz0, zz1, zz2, Act.put, zz3, zz4, zz5])
    refine wpAnyH_done (by kernel_rfl) ?_ _
    generalize hU : World.setCell _ _ _ = U1
    obtain ⟨S1, eS⟩ : ∃ S1, S1 = S.setIfInBounds 17 (.slice (some ⟨g7, 0, none⟩) ((fl 8).length + 1) cap7) := ⟨_, rfl⟩
    have hSV1 : Hid (SV S1 p ca ccap (some ⟨g2, o2, none⟩) tcap (updF fv 8 (.slice (some ⟨g7, 0, none⟩) ((fl 8).length + 1) cap7)) rs qs 0) := Lib.hid ⟨by rw [eS, hSV.out.eq]; rfl⟩
    have X1 : Hid (Sx (fun _ => False) w U1 w1.heap.size (w2.heap.size) (V.heap.size) (V2.heap.size) (w.heap.size + 1) (w.heap.size + 1 + 1) S1 ⟨9, A, b, C⟩ #[.int .i64 k, .int .i64 q, .int .u8 9, .int .i64 0, .int .i64 0, .int .i64 0] (updF fv 8 (.slice (some ⟨g7, 0, none⟩) ((fl 8).length + 1) cap7)) rs qs (updF fl 8 (fl 8 ++ [rA])) n c) := Lib.hid (by rw [← hU, eS]; exact X0.out.tell (hBA _) hgrow (by simpa using hown) hat)
    have EE9 : Hid ((updF fv 8 (.slice (some ⟨g7, 0, none⟩) ((fl 8).length + 1) cap7)) (9 + k) = .slice (some ⟨gr, 0, none⟩) 4 capr) := Lib.hid (by rw [updF_ne _ _ (by omega)]; exact EE9.out)
    clear hU eS hown hgrow hat HQA HQD HRow HQ cst cstf hBA hHeld X0
    clear i1 cr crf
    go_upto_region 32 with (fail)
    have i1 : U1.cell? ⟨V.heap.size, 1, none⟩ = some (.int .i64 A) := X1.out.i.2.1
    obtain ⟨cr, crf⟩ := X1.out.at (j := A) (z := rA) EE9.out (by rw [updF_ne _ _ (by omega)]; exact hA)
    have e4 : U1.cell? ⟨V2.heap.size, 4, none⟩ = some (.int .i64 0) := X1.out.e rfl
    have ef4 : U1.frozen? ⟨V2.heap.size, 4, none⟩ = false := X1.out.eF 4
    go_wp2_with fail
    generalize hU : World.setCell _ _ _ = U2
    have X2 : Hid (Sx (fun _ => False) w U2 w1.heap.size (w2.heap.size) (V.heap.size) (V2.heap.size) (w.heap.size + 1) (w.heap.size + 1 + 1) S1 ⟨9, A, b, C⟩ #[.int .i64 k, .int .i64 q, .int .u8 9, .int .i64 0, .int .i64 rA, .int .i64 0] (updF fv 8 (.slice (some ⟨g7, 0, none⟩) ((fl 8).length + 1) cap7)) rs qs (updF fl 8 (fl 8 ++ [rA])) n c) := Lib.hid (by rw [← hU]; exact X1.out.ev 4 (.int .i64 rA))
    clear hU X1
    clear i1 cr crf e4 ef4
    have FX := Lib.hid (X2.out.fin)
    obtain ⟨Z0, z0, _⟩ := FX.out.b0
    obtain ⟨Z1, z2, _⟩ := FX.out.b1
    have ne1 := FX.out.ne.1
    have FZ0 := Lib.hid z0
    have FZ1 := Lib.hid z2
    have hS19 : Array.size S1 = 19 := by rw [hSV1.out.eq]; rfl
    have hSz : (Try.prog.info? 72).map (·.size) = some (Array.size S1) := by rw [hS19]; exact info_S
    have hS1 : Array.all S1 (·.oneCell') = true := sv_one hSV1.out (FX.out.rf _ (Touch.of_below (Below.refl _ _)))
    clear z0 z2
    go_wp2_with fail
    refine fin_step FX.out rfl hS19 hS1 rfl (by simp [Value.oneCell']) rfl (fun _ _ _ _ _ h => h) rfl rfl rfl rfl ?_
    (try simp only [zz0, zz1, zz2, Act.put, zz3, zz4, zz5])
    go_wp2
    refine bodyPost_ret (v := .tuple #[.agg S1, .agg #[.int .i64 k, .int .i64 q, .int .u8 9, .int .i64 0, .int .i64 rA, .int .i64 0], .bool true]) (results_two (p := 4) (q := 5) (u := 6) rfl _ _ (w.heap.size + 1) (w.heap.size + 1 + 1) 72 45 S1 #[.int .i64 k, .int .i64 q, .int .u8 9, .int .i64 0, .int .i64 rA, .int .i64 0] (0, 0) (0, 0) _ _ rfl ((setRow_other _ _ _ _ ne1).trans (setRow_heap _ _ _ _ _ _ FZ0.out)) Try.underlying72 rfl hSz rfl (setRow_heap _ _ _ _ _ _ ((setRow_other _ _ _ _ (Ne.symm ne1)).trans FZ1.out)) Try.underlying45 rfl info_event) rfl ?_
    exact ⟨_, _, _, _, rfl, hSV1.out, fun u' T => FX.out.rf u' (touch_end T rfl rfl rfl rfl), touch_fin FX.out.bel FX.out.lo.1 FX.out.lo.2 rfl rfl rfl rfl⟩
  · skip
    rw [if_pos (by rfl)]
    go_simp
    refine hK.out _ _ ⟨Lib.cell?_alloc_some _ hHeld.1, Lib.cell?_alloc_some _ hHeld.2⟩ (fun hHeld => ?_)
    clear hK K
    (try simp only [zz0, zz1, zz2, Act.put, zz3, zz4, zz5])
    refine wpAnyH_ready (rs := [1]) (by kernel_rfl) (by simp) ?_
    refine AllReadyH.cons (o := _) rfl (fun K hK => ?_) AllReadyH.nil
    have hq : (World.drew (World.alloc U0 (.cells #[.int .i64 rA] 3))).cell? ⟨w2.heap.size, 17, none⟩ = some (.slice a8 (fl 8).length cap8) := (HQA (.cells #[.int .i64 rA] 3)).out
    rw [if_pos (by rfl)]
    go_simp
    clear hq
    refine hK.out _ _ hHeld (fun hHeld => ?_)
    clear hK K
    (try simp only [zz0, zz1, zz2, Act.put, zz3, zz4, zz5])
    refine wpAnyH_ready (rs := [8]) (by kernel_rfl) (by simp) ?_
    refine AllReadyH.cons (o := _) rfl (fun K hK => ?_) AllReadyH.nil
    rw [if_pos (by rfl)]
    refine wp_append_own_at _ (.tmp 196) (.tmp 202) 24 rfl w1.heap.size 3 i0 (.int .i64 0) 1 8 Try.underlying24 hi0 hz0 hz1 hz2 rfl (by decide) (.slice a8 (fl 8).length cap8) _ _ rfl (own_later HRow.out (hBA _)) ⟨U0.heap.size, 0, none⟩ 1 1 [.int .i64 rA] rfl rfl (cell_one_new _ _ _) (by simp [Value.oneCell']) (by unfold maxLen; omega) (by omega) (Nat.le_trans X0.out.ow.fam.top (hBA _).size) ?_
    intro v' w5 hown hgrow _ hat
    obtain ⟨g7, cap7, rfl⟩ := ownsRow_succ hown
    rw [← EEQ.out] at hgrow hat
    refine hK.out _ _ ⟨hgrow.cell hHeld.1 (fun e => (fun e => (X0.out.ap _ (.inl ⟨8, e⟩)).2.1 rfl) e.symm), hgrow.cell hHeld.2 (fun e => (apart_ne (X0.out.ow.fam.ap (9 + k) 8 (by omega)) hgr) e.symm)⟩ (fun hHeld => ?_)
    clear hK K
    (try simp only [zz0, zz1, zz2, Act.put, zz3, zz4, zz5])
    refine wpAnyH_take (i := 9) (oi := _) (v := ?_) rfl (by kernel_rfl) (by kernel_rfl) (by kernel_rfl) (fun _ _ _ h => h) (Or.inl ⟨by rfl, ?_⟩) hHeld ?_
    rotate_left
    · intro u hSw; clear hSw; go_simp; try (with_reducible rfl)
    (try simp only [zz0, zz1, zz2, Act.put, zz3, zz4, zz5])
    have cst := hgrow.cell (HQA _).out (fun e => (X0.out.ap _ (.inl ⟨8, e.symm⟩)).1 rfl)
    have cstf := grown_frozen hgrow (Nat.lt_of_lt_of_le lsb (hBA _).size) (fun e => (X0.out.ap _ (.inl ⟨8, e.symm⟩)).1 rfl) (((hBA _).frozen (p := ⟨w2.heap.size, 17, none⟩) lsb).trans (X0.out.sF 17))
    refine wpAnyH_ready (rs := [10]) (by kernel_rfl) (by simp) ?_
    refine AllReadyH.cons (o := _) rfl (fun K hK => ?_) AllReadyH.nil
    rw [if_pos (by rfl)]
    go_simp
    refine hK.out _ _ ⟨(pop_cell (Ne.symm X0.out.ne.1)).trans hHeld.1, (pop_cell (X0.out.ap gr (.inl ⟨9 + k, hgr⟩)).1).trans hHeld.2⟩ (fun hHeld => ?_)
    clear hK K
    (try simp only [zz0, zz1, zz2, Act.put, zz3, zz4, zz5])
    refine wpAnyH_done (by kernel_rfl) ?_ _
    generalize hU : World.setCell _ _ _ = U1
    obtain ⟨S1, eS⟩ : ∃ S1, S1 = S.setIfInBounds 17 (.slice (some ⟨g7, 0, none⟩) ((fl 8).length + 1) cap7) := ⟨_, rfl⟩
    have hSV1 : Hid (SV S1 p ca ccap (some ⟨g2, o2, none⟩) tcap (updF fv 8 (.slice (some ⟨g7, 0, none⟩) ((fl 8).length + 1) cap7)) rs qs 0) := Lib.hid ⟨by rw [eS, hSV.out.eq]; rfl⟩
    have X1 : Hid (Sx (fun _ => False) w U1 w1.heap.size (w2.heap.size) (V.heap.size) (V2.heap.size) (w.heap.size + 1) (w.heap.size + 1 + 1) S1 ⟨9, A, b, C⟩ #[.int .i64 k, .int .i64 q, .int .u8 9, .int .i64 0, .int .i64 0, .int .i64 0] (updF fv 8 (.slice (some ⟨g7, 0, none⟩) ((fl 8).length + 1) cap7)) rs qs (updF fl 8 (fl 8 ++ [rA])) n c) := Lib.hid (by rw [← hU, eS]; exact X0.out.tell (hBA _) hgrow (by simpa using hown) hat)
    have EE9 : Hid ((updF fv 8 (.slice (some ⟨g7, 0, none⟩) ((fl 8).length + 1) cap7)) (9 + k) = .slice (some ⟨gr, 0, none⟩) 4 capr) := Lib.hid (by rw [updF_ne _ _ (by omega)]; exact EE9.out)
    clear hU eS hown hgrow hat HQA HQD HRow HQ cst cstf hBA hHeld X0
    clear i1 cr crf
    go_upto_region 32 with (fail)
    have i1 : U1.cell? ⟨V.heap.size, 1, none⟩ = some (.int .i64 A) := X1.out.i.2.1
    obtain ⟨cr, crf⟩ := X1.out.at (j := A) (z := rA) EE9.out (by rw [updF_ne _ _ (by omega)]; exact hA)
    have e4 : U1.cell? ⟨V2.heap.size, 4, none⟩ = some (.int .i64 0) := X1.out.e rfl
    have ef4 : U1.frozen? ⟨V2.heap.size, 4, none⟩ = false := X1.out.eF 4
    go_wp2_with fail
    generalize hU : World.setCell _ _ _ = U2
    have X2 : Hid (Sx (fun _ => False) w U2 w1.heap.size (w2.heap.size) (V.heap.size) (V2.heap.size) (w.heap.size + 1) (w.heap.size + 1 + 1) S1 ⟨9, A, b, C⟩ #[.int .i64 k, .int .i64 q, .int .u8 9, .int .i64 0, .int .i64 rA, .int .i64 0] (updF fv 8 (.slice (some ⟨g7, 0, none⟩) ((fl 8).length + 1) cap7)) rs qs (updF fl 8 (fl 8 ++ [rA])) n c) := Lib.hid (by rw [← hU]; exact X1.out.ev 4 (.int .i64 rA))
    clear hU X1
    clear i1 cr crf e4 ef4
    have FX := Lib.hid (X2.out.fin)
    obtain ⟨Z0, z0, _⟩ := FX.out.b0
    obtain ⟨Z1, z2, _⟩ := FX.out.b1
    have ne1 := FX.out.ne.1
    have FZ0 := Lib.hid z0
    have FZ1 := Lib.hid z2
    have hS19 : Array.size S1 = 19 := by rw [hSV1.out.eq]; rfl
    have hSz : (Try.prog.info? 72).map (·.size) = some (Array.size S1) := by rw [hS19]; exact info_S
    have hS1 : Array.all S1 (·.oneCell') = true := sv_one hSV1.out (FX.out.rf _ (Touch.of_below (Below.refl _ _)))
    clear z0 z2
    go_wp2_with fail
    refine fin_step FX.out rfl hS19 hS1 rfl (by simp [Value.oneCell']) rfl (fun _ _ _ _ _ h => h) rfl rfl rfl rfl ?_
    (try simp only [zz0, zz1, zz2, Act.put, zz3, zz4, zz5])
    go_wp2
    refine bodyPost_ret (v := .tuple #[.agg S1, .agg #[.int .i64 k, .int .i64 q, .int .u8 9, .int .i64 0, .int .i64 rA, .int .i64 0], .bool true]) (results_two (p := 4) (q := 5) (u := 6) rfl _ _ (w.heap.size + 1) (w.heap.size + 1 + 1) 72 45 S1 #[.int .i64 k, .int .i64 q, .int .u8 9, .int .i64 0, .int .i64 rA, .int .i64 0] (0, 0) (0, 0) _ _ rfl ((setRow_other _ _ _ _ ne1).trans (setRow_heap _ _ _ _ _ _ FZ0.out)) Try.underlying72 rfl hSz rfl (setRow_heap _ _ _ _ _ _ ((setRow_other _ _ _ _ (Ne.symm ne1)).trans FZ1.out)) Try.underlying45 rfl info_event) rfl ?_
    exact ⟨_, _, _, _, rfl, hSV1.out, fun u' T => FX.out.rf u' (touch_end T rfl rfl rfl rfl), touch_fin FX.out.bel FX.out.lo.1 FX.out.lo.2 rfl rfl rfl rfl⟩
theorem stepA_s (S0 : Array Value) (p : ProgD) (ca : Option Addr) (ccap : Nat) (ta : Option Addr) (tcap : Nat) (fv0 : Nat → Value) (rs0 qs0 : Value) (fo fl : Nat → List Int) (n c : Nat) (w : World) (hS0 : SV S0 p ca ccap ta tcap fv0 rs0 qs0 0) (hP : ProgIn w w.heap.size p ca ta) (hn : n ≤ 6) (hc : c ≤ 4) (k q : Nat) (hk : k < n) (hr4 : (fl (9 + k)).length = 4) (hq : (fo 0)[k]? = some (q : Int)) (hfl : fl = updF fo 0 ((fo 0).set k ((q : Int) + 1))) (hq1 : q ≤ 1000) (ck : List InsD) (hck : p.threads[k]? = some ck) (hC : ∀ u, Below w.heap.size w u → Calls Try.prog 56 #[.agg S0, .int .i64 k] u fun e w' => e = .returned (.bool true) ∧ Below u.heap.size u w') (hK : ∀ u, Below w.heap.size w u → Calls Try.prog 57 #[.agg S0] u fun e w' => ∃ S fv rs qs, e = .returned (.agg S) ∧ SV S p ca ccap ta tcap fv rs qs 0 ∧ Ow w' u.heap.size fv rs qs fo n c ∧ Below u.heap.size u w') (op : Nat) (hop : op = 0 ∨ 12 ≤ op) (a b C : Int) (fl2 : Nat → List Int) (tp2 : Int) (E2 : Array Value) (hE6 : E2.size = 6) (hE1 : E2.all (·.oneCell') = true) (hT : ∀ S fv rs qs B u, SV S p ca ccap ta tcap fv rs qs 0 → Ow u B fv rs qs fl n c → Calls Try.prog 59 #[.agg S, .int .i64 k, .agg #[.int .u8 op, .int .i64 a, .int .i64 b, .int .i64 C], .agg #[.int .i64 k, .int .i64 q, .int .u8 op, .int .i64 0, .int .i64 0, .int .i64 0]] u fun e w' => Rs4 (Held fv rs qs) u w' e p ca ccap ta tcap n c fl2 tp2 E2) (hx : ck[q]? = some ⟨op, a, b, C⟩) :
    Calls Try.prog 36 #[.agg S0, .int .i64 k] w fun e w' => Rs4 (fun _ => False) w w' e p ca ccap ta tcap n c (fl2) tp2 E2 := by
  have hE2 : (Try.prog.info? 45).map (·.size) = some E2.size := by rw [hE6]; exact info_event
  refine (stepA_front.2 S0 p ca ccap ta tcap fv0 rs0 qs0 fo fl n c w hS0 hP hn hc k q hk hr4 hq hfl hq1 ck hck hC hK ta rfl op op a b C rfl hx _ ?_)
  clear hS0 hP hfl hC hK
  intro hkt hqc hq0 htl w1 w2 S fv rs qs hSz2 hS19 hS1 hsz1 hszM V hVs hw1 g2 o2 k2 g3 o3 HT hSV g0 cap0 E0 HS7 V2 hV2s V3 U0 X0 KK hKK
  have hT2 := HT.out
  clear HT
  subst hT2
  have hS := hSV.out
  obtain ⟨rz, hz⟩ := at_lt (l := fl (9 + k)) (k := 0) (by omega)
  obtain ⟨gR, capR, eR, _, ltR, cR⟩ := X0.out.ow.reg hk
  obtain ⟨gr, capr, er, _, _, _⟩ := X0.out.num hz
  rw [hr4] at er
  have EE9 := Lib.hid er
  have H9 : Hid (S[9]? = some (.slice (some ⟨gR, 0, none⟩) n capR)) := Lib.hid (by rw [← eR, hS.eq]; rfl)
  rw [er] at cR
  clear er eR
  have s9 : U0.cell? ⟨w2.heap.size, 9, none⟩ = some (.slice (some ⟨gR, 0, none⟩) n capR) := X0.out.s H9.out
  have cR0 := cR
  have i0 : U0.cell? ⟨V.heap.size, 0, none⟩ = some (.int .u8 op) := X0.out.i.1
  have i1 : U0.cell? ⟨V.heap.size, 1, none⟩ = some (.int .i64 a) := X0.out.i.2.1
  have i2 : U0.cell? ⟨V.heap.size, 2, none⟩ = some (.int .i64 b) := X0.out.i.2.2.1
  have i3 : U0.cell? ⟨V.heap.size, 3, none⟩ = some (.int .i64 C) := X0.out.i.2.2.2
  have hb1 : ((op : Int) == 1) = false := by simp; omega
  have hb2 : ((op : Int) == 2) = false := by simp; omega
  have hb3 : ((op : Int) == 3) = false := by simp; omega
  have hb4 : ((op : Int) == 4) = false := by simp; omega
  have hb5 : ((op : Int) == 5) = false := by simp; omega
  have hb6 : ((op : Int) == 6) = false := by simp; omega
  have hb7 : ((op : Int) == 7) = false := by simp; omega
  have hb8 : ((op : Int) == 8) = false := by simp; omega
  have hb9 : ((op : Int) == 9) = false := by simp; omega
  have hb10 : ((op : Int) == 10) = false := by simp; omega
  have hb11 : ((op : Int) == 11) = false := by simp; omega
  go_upto_region 9 with (fail)
  clear s9 i0 i1 i2 i3 cR cR0
  have FS : Hid (U0.heap[w2.heap.size]? = some (.cells S 72)) := Lib.hid X0.out.sB
  have FI : Hid (U0.heap[V.heap.size]? = some (.cells #[.int .u8 op, .int .i64 a, .int .i64 b, .int .i64 C] 49)) := Lib.hid X0.out.iB
  have FE : Hid (U0.heap[V2.heap.size]? = some (.cells #[.int .i64 k, .int .i64 q, .int .u8 op, .int .i64 0, .int .i64 0, .int .i64 0] 45)) := Lib.hid X0.out.eB
  have HT := Lib.hid (hT S fv rs qs w1.heap.size U0 hSV.out X0.out.ow)
  clear hT
  go_wp2_with (first
    | (refine wpList_store_row rfl 45 (.tmp 5) (.tmp 61) rfl (w.heap.size + 1 + 1) E2 rfl rfl 45 Z1 ((setRow_other _ _ _ _ (Ne.symm ne1)).trans z2.out) hE2 (by rw [z3, hE6]) hE1 ?_)
    | (refine wpList_store_row rfl 72 (.tmp 4) (.tmp 60) rfl (w.heap.size + 1) S2 rfl rfl 72 Z0 z0.out hSz3 (by rw [z1, hS20]) hS3 ?_)
    | (go_at_call 59; refine HT.out.mono ?_; rintro e w3 ⟨S2, fv2, rs2, qs2, rfl, hSV2, hR2, hT2⟩; obtain ⟨Z0, z0, z1⟩ := old_box X0.out hT2 true; obtain ⟨Z1, z2, z3⟩ := old_box1 X0.out hT2; have hS2 := Lib.hid hSV2; have hR2 := Lib.hid hR2; have hT2 := Lib.hid hT2; have z0 := Lib.hid z0; have z2 := Lib.hid z2; have ne1 := X0.out.ne.2.2.2.1; have hSz3 : (Try.prog.info? 72).map (·.size) = some S2.size := (by rw [hS2.out.eq]; exact info_S); have hS20 : S2.size = 19 := (by rw [hS2.out.eq]; rfl); have hS3 : S2.all (·.oneCell') = true := (sv_one hS2.out (hR2.out _ (Touch.of_below (Below.refl _ _)))); clear hSV2)
    | (refine wpList_load_row rfl 45 (.tmp 9) rfl (V2.heap.size) rfl 45 _ (0, 0) _ FE.out Try.underlying45 rfl info_event ?_)
    | (refine wpList_load_row rfl 49 (.tmp 8) rfl (V.heap.size) rfl 49 _ (0, 0) _ FI.out Try.underlying49 rfl info_ins4 ?_)
    | (refine wpList_load_row rfl 72 (.tmp 7) rfl (w2.heap.size) rfl 72 S (0, 0) _ FS.out Try.underlying72 rfl hSz2 ?_))
  refine bodyPost_ret (v := .tuple #[.agg S2, .agg E2, .bool true]) (results_two (p := 4) (q := 5) (u := 6) rfl _ _ (w.heap.size + 1) (w.heap.size + 1 + 1) 72 45 S2 E2 (0, 0) (0, 0) _ _ rfl ((setRow_other _ _ _ _ ne1).trans (setRow_heap _ _ _ _ _ _ z0.out)) Try.underlying72 rfl hSz3 rfl (setRow_heap _ _ _ _ _ _ ((setRow_other _ _ _ _ (Ne.symm ne1)).trans z2.out)) Try.underlying45 rfl hE2) rfl ?_
  exact ⟨_, _, _, _, rfl, hS2.out, fun u' T => hR2.out u' (touch_fresh X0.out T), touch_fin (touch_rows X0.out hT2.out) X0.out.lo.2.2.2.1 X0.out.lo.2.2.2.2 rfl rfl rfl rfl⟩
section
variable (S0 : Array Value) (p : ProgD) (ca : Option Addr) (ccap : Nat) (ta : Option Addr) (tcap : Nat) (fv0 : Nat → Value) (rs0 qs0 : Value) (m m1 : Nat → Int) (told : List Int) (w : World) (hS0 : SV S0 p ca ccap ta tcap fv0 rs0 qs0 0) (hP : ProgIn w w.heap.size p ca ta) (Z1 : Sz p m1) (k q : Nat) (hk : k < p.threads.length) (hq : (flM p m told 0)[k]? = some (q : Int)) (hfl : flM p m1 told = updF (flM p m told) 0 ((flM p m told 0).set k ((q : Int) + 1))) (hq1 : q ≤ 1000) (hm1 : m1 (1 + k * 6 + 1) = (q : Int) + 1) (ck : List InsD) (hck : p.threads[k]? = some ck)
  (hC : ∀ u, Below w.heap.size w u → Calls Try.prog 56 #[.agg S0, .int .i64 k] u fun e w' => e = .returned (.bool true) ∧ Below u.heap.size u w') (hK : ∀ u, Below w.heap.size w u → Calls Try.prog 57 #[.agg S0] u fun e w' => ∃ S fv rs qs, e = .returned (.agg S) ∧ SV S p ca ccap ta tcap fv rs qs 0 ∧ Ow w' u.heap.size fv rs qs (flM p m told) p.threads.length p.chans.length ∧ Below u.heap.size u w')
include hS0 hP Z1 hk hq hfl hq1 hck hC hK
abbrev stepC (S0 : Array Value) (p : ProgD) (ca : Option Addr) (ccap : Nat) (ta : Option Addr) (tcap : Nat) (m1 : Nat → Int) (told : List Int) (w : World) (k q : Nat) (x : InsD) : Prop :=
  Calls Try.prog 36 #[.agg S0, .int .i64 k] w fun e w' => Ok4 (fun _ => False) w w' e p ca ccap ta tcap k q m1 told x
theorem stepM_1 (A : Nat) (hA : A < 4) (b C : Int) (hx : ck[q]? = some ⟨1, A, b, C⟩) : stepC S0 p ca ccap ta tcap m1 told w k q ⟨1, A, b, C⟩ :=
  (stepA_1 S0 p ca ccap ta tcap fv0 rs0 qs0 (flM p m told) (flM p m1 told) p.threads.length p.chans.length w hS0 hP Z1.t Z1.c k q hk (reg4 Z1 hk) hq hfl hq1 ck hck hC hK A b C _ hA (reg_at Z1 hk hA) hx).mono fun e w' h => ok4_of h (by rw [show doT m1 k ⟨1, A, b, C⟩ = [] from rfl, List.append_nil]; exact up_reg Z1 hk hA _) rfl rfl
theorem stepM_2 (A b : Nat) (hA : A < 4) (hb : b < 4) (C : Int) (hx : ck[q]? = some ⟨2, A, b, C⟩) : stepC S0 p ca ccap ta tcap m1 told w k q ⟨2, A, b, C⟩ :=
  (stepA_2 S0 p ca ccap ta tcap fv0 rs0 qs0 (flM p m told) (flM p m1 told) p.threads.length p.chans.length w hS0 hP Z1.t Z1.c k q hk (reg4 Z1 hk) hq hfl hq1 ck hck hC hK A b C _ (m1 (rg k b)) hA hb (reg_at Z1 hk hA) (reg_at Z1 hk hb) hx).mono fun e w' h => ok4_of h (by rw [show doT m1 k ⟨2, A, b, C⟩ = [] from rfl, List.append_nil]; exact up_reg Z1 hk hA _) rfl rfl
theorem stepM_3 (A b C : Nat) (hA : A < 4) (hb : b < 4) (hc : C < 4) (hx : ck[q]? = some ⟨3, A, b, C⟩) : stepC S0 p ca ccap ta tcap m1 told w k q ⟨3, A, b, C⟩ :=
  (stepA_3 S0 p ca ccap ta tcap fv0 rs0 qs0 (flM p m told) (flM p m1 told) p.threads.length p.chans.length w hS0 hP Z1.t Z1.c k q hk (reg4 Z1 hk) hq hfl hq1 ck hck hC hK A b C _ (m1 (rg k b)) (m1 (rg k C)) hA hb hc (reg_at Z1 hk hA) (reg_at Z1 hk hb) (reg_at Z1 hk hc) hx).mono fun e w' h => ok4_of h (by rw [show doT m1 k ⟨3, A, b, C⟩ = [] from rfl, List.append_nil]; exact up_reg Z1 hk hA _) rfl rfl
theorem stepM_4 (A b C : Nat) (hA : A < 4) (hb : b < 4) (hc : C < 4) (hx : ck[q]? = some ⟨4, A, b, C⟩) : stepC S0 p ca ccap ta tcap m1 told w k q ⟨4, A, b, C⟩ :=
  (stepA_4 S0 p ca ccap ta tcap fv0 rs0 qs0 (flM p m told) (flM p m1 told) p.threads.length p.chans.length w hS0 hP Z1.t Z1.c k q hk (reg4 Z1 hk) hq hfl hq1 ck hck hC hK A b C _ (m1 (rg k b)) (m1 (rg k C)) hA hb hc (reg_at Z1 hk hA) (reg_at Z1 hk hb) (reg_at Z1 hk hc) hx).mono fun e w' h => ok4_of h (by rw [show doT m1 k ⟨4, A, b, C⟩ = [] from rfl, List.append_nil]; exact up_reg Z1 hk hA _) rfl rfl
theorem stepM_5 (A b C : Nat) (hA : A < 4) (hb : b < 4) (hc : C < 4) (hx : ck[q]? = some ⟨5, A, b, C⟩) : stepC S0 p ca ccap ta tcap m1 told w k q ⟨5, A, b, C⟩ :=
  (stepA_5 S0 p ca ccap ta tcap fv0 rs0 qs0 (flM p m told) (flM p m1 told) p.threads.length p.chans.length w hS0 hP Z1.t Z1.c k q hk (reg4 Z1 hk) hq hfl hq1 ck hck hC hK A b C _ (m1 (rg k b)) (m1 (rg k C)) hA hb hc (reg_at Z1 hk hA) (reg_at Z1 hk hb) (reg_at Z1 hk hc) hx).mono fun e w' h => ok4_of h (by rw [show doT m1 k ⟨5, A, b, C⟩ = [] from rfl, List.append_nil]; exact up_reg Z1 hk hA _) rfl rfl
theorem stepM_6 (A b C : Nat) (hA : A < 4) (hb : b < 4) (hc : C < 4) (hx : ck[q]? = some ⟨6, A, b, C⟩) : stepC S0 p ca ccap ta tcap m1 told w k q ⟨6, A, b, C⟩ :=
  (stepA_6 S0 p ca ccap ta tcap fv0 rs0 qs0 (flM p m told) (flM p m1 told) p.threads.length p.chans.length w hS0 hP Z1.t Z1.c k q hk (reg4 Z1 hk) hq hfl hq1 ck hck hC hK A b C _ (m1 (rg k b)) (m1 (rg k C)) hA hb hc (reg_at Z1 hk hA) (reg_at Z1 hk hb) (reg_at Z1 hk hc) hx).mono fun e w' h => ok4_of h (by rw [show doT m1 k ⟨6, A, b, C⟩ = [] from rfl, List.append_nil]; exact up_reg Z1 hk hA _) rfl rfl
theorem stepM_7 (A b : Nat) (hA : A < 4) (hb : b < p.vars.toNat) (C : Int) (hx : ck[q]? = some ⟨7, A, b, C⟩) : stepC S0 p ca ccap ta tcap m1 told w k q ⟨7, A, b, C⟩ :=
  (stepA_7 S0 p ca ccap ta tcap fv0 rs0 qs0 (flM p m told) (flM p m1 told) p.threads.length p.chans.length w hS0 hP Z1.t Z1.c k q hk (reg4 Z1 hk) hq hfl hq1 ck hck hC hK A b C _ (m1 (37 + b)) hA (reg_at Z1 hk hA) (map_at (fun j => m1 (37 + j)) hb) hx).mono fun e w' h => ok4_of h (by rw [show doT m1 k ⟨7, A, b, C⟩ = [] from rfl, List.append_nil]; exact up_reg Z1 hk hA _) rfl rfl
theorem stepM_8 (A b : Nat) (hA : A < p.vars.toNat) (hb : b < 4) (C : Int) (hx : ck[q]? = some ⟨8, A, b, C⟩) : stepC S0 p ca ccap ta tcap m1 told w k q ⟨8, A, b, C⟩ :=
  (stepA_8 S0 p ca ccap ta tcap fv0 rs0 qs0 (flM p m told) (flM p m1 told) p.threads.length p.chans.length w hS0 hP Z1.t Z1.c k q hk (reg4 Z1 hk) hq hfl hq1 ck hck hC hK A b C _ (m1 (rg k b)) hb (reg_at Z1 hk hb) (map_at (fun j => m1 (37 + j)) hA) hx).mono fun e w' h => ok4_of h (by rw [show doT m1 k ⟨8, A, b, C⟩ = [] from rfl, List.append_nil]; exact up_var Z1 hA _) rfl rfl
theorem stepM_9 (A : Nat) (hA : A < 4) (b C : Int) (ht : told.length ≤ 1000000) (hx : ck[q]? = some ⟨9, A, b, C⟩) : stepC S0 p ca ccap ta tcap m1 told w k q ⟨9, A, b, C⟩ :=
  (stepA_9 S0 p ca ccap ta tcap fv0 rs0 qs0 (flM p m told) (flM p m1 told) p.threads.length p.chans.length w hS0 hP Z1.t Z1.c k q hk (reg4 Z1 hk) hq hfl hq1 ck hck hC hK A b C (m1 (rg k A)) hA (reg_at Z1 hk hA) ht hx).mono fun e w' h => ok4_of h (by show flM p m1 (told ++ [m1 (rg k A)]) = _; exact up_told) rfl rfl
include hm1 in
theorem stepM_10 (a b C : Int) (hx : ck[q]? = some ⟨10, a, b, C⟩) : stepC S0 p ca ccap ta tcap m1 told w k q ⟨10, a, b, C⟩ :=
  (stepA_10 S0 p ca ccap ta tcap fv0 rs0 qs0 (flM p m told) (flM p m1 told) p.threads.length p.chans.length w hS0 hP Z1.t Z1.c k q hk (reg4 Z1 hk) hq hfl hq1 ck hck hC hK a b C (by have := map_at (fun k => m1 (1 + k * 6 + 1)) hk; rw [hm1] at this; exact this) hx).mono fun e w' h => ok4_of h (by rw [show doT m1 k ⟨10, a, b, C⟩ = [] from rfl, List.append_nil]; exact up_pc Z1 hk _) rfl rfl
include hm1 in
theorem stepM_11 (A : Nat) (hA : A < 4) (b C : Int) (hx : ck[q]? = some ⟨11, A, b, C⟩) : stepC S0 p ca ccap ta tcap m1 told w k q ⟨11, A, b, C⟩ := by
  have h0 : (flM p m1 told 0)[k]? = some ((q : Int) + 1) := by have := map_at (fun k => m1 (1 + k * 6 + 1)) hk; rw [hm1] at this; exact this
  by_cases hy : m1 (rg k A) = 0
  · have e : doE m1 k ⟨11, A, b, C⟩ = ([.m (1 + k * 6 + 1) b], true) := by show (if m1 (rg k A) == 0 then _ else _, true) = _; rw [if_pos (by simpa using hy)]
    refine (stepA_11y S0 p ca ccap ta tcap fv0 rs0 qs0 (flM p m told) (flM p m1 told) p.threads.length p.chans.length w hS0 hP Z1.t Z1.c k q hk (reg4 Z1 hk) hq hfl hq1 ck hck hC hK A b C _ hA (reg_at Z1 hk hA) h0 hy hx).mono fun e' w' h => ok4_of h ?_ (by rw [e]; rfl) (by rw [e]; rfl)
    rw [show doT m1 k ⟨11, A, b, C⟩ = [] from rfl, List.append_nil, e]; exact up_pc Z1 hk _
  · have e : doE m1 k ⟨11, A, b, C⟩ = ([], true) := by show (if m1 (rg k A) == 0 then _ else _, true) = _; rw [if_neg (by simpa using hy)]
    refine (stepA_11n S0 p ca ccap ta tcap fv0 rs0 qs0 (flM p m told) (flM p m1 told) p.threads.length p.chans.length w hS0 hP Z1.t Z1.c k q hk (reg4 Z1 hk) hq hfl hq1 ck hck hC hK A b C _ hA (reg_at Z1 hk hA) h0 hy hx).mono fun e' w' h => ok4_of h ?_ (by rw [e]; rfl) (by rw [e]; rfl)
    rw [show doT m1 k ⟨11, A, b, C⟩ = [] from rfl, List.append_nil, e]; rfl
theorem stepM_s (x : InsD) (hop : x.op = 0 ∨ 12 ≤ x.op) (hT : ∀ S fv rs qs B u, SV S p ca ccap ta tcap fv rs qs 0 → Ow u B fv rs qs (flM p m1 told) p.threads.length p.chans.length → syncC S p ca ccap ta tcap fv rs qs m1 told u k q x) (hx : ck[q]? = some x) : stepC S0 p ca ccap ta tcap m1 told w k q x :=
  stepA_s S0 p ca ccap ta tcap fv0 rs0 qs0 (flM p m told) (flM p m1 told) p.threads.length p.chans.length w hS0 hP Z1.t Z1.c k q hk (reg4 Z1 hk) hq hfl hq1 ck hck hC hK x.op hop x.a x.b x.c _ _ _ rfl (by simp [evA, Value.oneCell']) hT hx
end
theorem sz_of {p : ProgD} {m : Nat → Int} (hs : soundE p = 0) (h : ∀ c, c < 4 → 0 ≤ m (57 + c * 6 + 3) ∧ m (57 + c * 6 + 3) ≤ 3) : Sz p m := by
  have hq := sizes_parts (sound_parts hs).1
  exact ⟨hq.2.2.2.2.2.2.1.2, by omega, by omega, by omega, by omega, by omega, by omega, h⟩
theorem step4_keep (S0 : Array Value) (p : ProgD) (ca : Option Addr) (ccap : Nat) (ta : Option Addr) (tcap : Nat) (fv0 : Nat → Value) (rs0 qs0 : Value) (m : Nat → Int) (told : List Int) (w : World) (hS0 : SV S0 p ca ccap ta tcap fv0 rs0 qs0 (bitN (m 90 == 1))) (hR : Rf w fv0 rs0 qs0 (flM p m told) p.threads.length p.chans.length) (hP : ProgIn w w.heap.size p ca ta) (hs : soundE p = 0) (I : Inv m p.threads) (R : InvR p m) (hL : LkI m) (ht : told.length ≤ 1000000) (k : Int) (hcan : canM p.threads m k = true) :
    Calls Try.prog 36 #[.agg S0, .int .i64 k] w fun e w' => ∃ S fv rs qs, e = .returned (.tuple #[.agg S, stepV p.threads m k, .bool true]) ∧ SV S p ca ccap ta tcap fv rs qs (bitN (stepM p.threads m k 90 == 1)) ∧ (∀ u', Touch (fun g => g < w.heap.size) w' u' → Rf u' fv rs qs (flM p (stepM p.threads m k) (told ++ stepT p.threads m k)) p.threads.length p.chans.length) ∧ Below w.heap.size w w' := by
  obtain ⟨h1, h2, h3⟩ := sound_parts hs
  have hz := sizes_parts h1
  obtain ⟨j, x, rfl, hj, hins, hbl, hon, htrap⟩ := canM_parts hcan
  rcases hck : p.threads[j]? with _ | ck
  · simp [insM, hck] at hins
  obtain ⟨q, hqm, hqc⟩ := I.pc j ck hck
  have hx : ck[q]? = some x := by simp only [insM, hck, Option.bind_some, hqm, Int.toNat_natCast] at hins; exact hins
  have hcl := hz.2.2.2.2.2.2.2 ck (List.mem_of_getElem? hck)
  have hfit : InsFitP p ck.length x := by
    refine insFitP_of h1 ?_
    have h4 := firstE_zero h3 (codeE p ck) (List.mem_map.2 ⟨ck, List.mem_of_getElem? hck, rfl⟩)
    exact firstE_zero h4 _ (List.mem_map.2 ⟨x, List.mem_of_getElem? hx, rfl⟩)
  have hch : ∀ c, c < 4 → 0 ≤ m (57 + c * 6 + 3) ∧ m (57 + c * 6 + 3) ≤ 3 := fun c hc => by have := I.chan c hc; omega
  have Z := sz_of hs hch
  have hzt := Z.t
  obtain ⟨m1, hm⟩ : ∃ m1, m1 = upd m (1 + j * 6 + 1) (m (1 + j * 6 + 1) + 1) := ⟨_, rfl⟩
  have hfar : ∀ i, i ≠ 1 + j * 6 + 1 → m1 i = m i := fun i h => by rw [hm]; exact upd_ne _ _ h
  have Z1 : Sz p m1 := by rw [hm]; exact Z.upd _ (by omega)
  have hm1 : m1 (1 + j * 6 + 1) = (q : Int) + 1 := by rw [hm, upd_same, hqm]
  have hq : (flM p m told 0)[j]? = some (q : Int) := by have := map_at (fun k => m (1 + k * 6 + 1)) hj; rw [hqm] at this; exact this
  have hfl : flM p m1 told = updF (flM p m told) 0 ((flM p m told 0).set j ((q : Int) + 1)) := by rw [hm, hqm]; exact up_pc Z hj _
  have hb1 : blockedM m1 x = false := by rw [hm, blocked_pc _ _ (by omega)]; exact hbl
  have hL1 : LkI m1 := fun l hl h => by rw [hfar _ (by omega)] at h ⊢; exact hL l hl h
  have hR1 : ∀ l, l < 4 → 0 ≤ m1 (49 + l * 2 + 1) := fun l hl => by rw [hfar _ (by omega)]; exact R.read l hl
  have hr1 : ∀ c, c < 4 → m1 (57 + c * 6 + 3) ≤ m1 (57 + c * 6 + 4) ∧ m1 (57 + c * 6 + 4) ≤ 3 := fun c hc => by
    rw [hfar _ (by omega), hfar _ (by omega)]; have := I.chan c hc; omega
  have hS00 := hS0
  have hb90 : (m 90 == 1) = false := by simpa using htrap
  rw [hb90] at hS0
  have hlen := flM_len (p := p) (m := m) ht Z.t (by have := Z.v; have := Z.a; have := Z.l; have := Z.c; have := Z.g; have := Z.o; omega) (fun c hc => (hch c hc).2)
  have hC : ∀ u, Below w.heap.size w u → Calls Try.prog 56 #[.agg S0, .int .i64 (j : Int)] u fun e w' => e = .returned (.bool true) ∧ Below u.heap.size u w' := fun u hB => by
    have := can4_any S0 p ca ccap ta tcap fv0 rs0 qs0 m told u hS00 (hR.later hB) (hP.later hB) hs I R ht j
    rwa [hcan] at this
  have hK : ∀ u, Below w.heap.size w u → Calls Try.prog 57 #[.agg S0] u fun e w' => ∃ S fv rs qs, e = .returned (.agg S) ∧ SV S p ca ccap ta tcap fv rs qs 0 ∧ Ow w' u.heap.size fv rs qs (flM p m told) p.threads.length p.chans.length ∧ Below u.heap.size u w' := fun u hB => by
    have := copy4_any p ca ccap ta tcap fv0 rs0 qs0 (flM p m told) p.threads.length p.chans.length 0 u (hR.later hB) hlen Z.t Z.c (fun i hi => by
      unfold flM
      rw [if_neg (by omega), if_neg (by omega), if_neg (by omega), if_neg (by omega), if_neg (by omega), if_neg (by omega), if_neg (by omega), if_neg (by omega), if_neg (by omega)]
      rcases hi with hi | hi
      · rw [if_pos hi.2, if_neg (by omega)]
      · rw [if_neg (by omega), if_neg (by omega)])
    rw [hS0.eq]
    exact this.mono fun e w' ⟨fv', rs', qs', he, hO, hB'⟩ => ⟨_, fv', rs', qs', he, ⟨rfl⟩, hO, hB'⟩
  have key : stepC S0 p ca ccap ta tcap m1 told w j q x := by
    obtain ⟨op, a, b, c⟩ := x
    have hsync : ∀ (hop : op = 0 ∨ 12 ≤ op), (∀ S fv rs qs B u, SV S p ca ccap ta tcap fv rs qs 0 → Ow u B fv rs qs (flM p m1 told) p.threads.length p.chans.length → syncC S p ca ccap ta tcap fv rs qs m1 told u j q ⟨op, a, b, c⟩) → stepC S0 p ca ccap ta tcap m1 told w j q ⟨op, a, b, c⟩ := fun hop hT => stepM_s S0 p ca ccap ta tcap fv0 rs0 qs0 m m1 told w hS0 hP Z1 j q hj hq hfl (by omega) ck hck hC hK ⟨op, a, b, c⟩ hop hT hx
    match op, hfit with
    | 0, hf => exact hsync (.inl rfl) fun S fv rs qs B u h1 h2 => syncM_0 S p ca ccap ta tcap fv rs qs m1 told B u h1 h2 Z1 j hj q a b c
    | 1, hf =>
      obtain ⟨A, rfl, hA⟩ : Fit 4 a := hf
      exact stepM_1 S0 p ca ccap ta tcap fv0 rs0 qs0 m m1 told w hS0 hP Z1 j q hj hq hfl (by omega) ck hck hC hK A hA b c hx
    | 2, hf =>
      obtain ⟨⟨A, rfl, hA⟩, ⟨B, rfl, hB⟩⟩ : Fit 4 a ∧ Fit 4 b := hf
      exact stepM_2 S0 p ca ccap ta tcap fv0 rs0 qs0 m m1 told w hS0 hP Z1 j q hj hq hfl (by omega) ck hck hC hK A B hA hB c hx
    | 3, hf =>
      obtain ⟨⟨A, rfl, hA⟩, ⟨B, rfl, hB⟩, ⟨C, rfl, hcc⟩⟩ : Fit 4 a ∧ Fit 4 b ∧ Fit 4 c := hf
      exact stepM_3 S0 p ca ccap ta tcap fv0 rs0 qs0 m m1 told w hS0 hP Z1 j q hj hq hfl (by omega) ck hck hC hK A B C hA hB hcc hx
    | 4, hf =>
      obtain ⟨⟨A, rfl, hA⟩, ⟨B, rfl, hB⟩, ⟨C, rfl, hcc⟩⟩ : Fit 4 a ∧ Fit 4 b ∧ Fit 4 c := hf
      exact stepM_4 S0 p ca ccap ta tcap fv0 rs0 qs0 m m1 told w hS0 hP Z1 j q hj hq hfl (by omega) ck hck hC hK A B C hA hB hcc hx
    | 5, hf =>
      obtain ⟨⟨A, rfl, hA⟩, ⟨B, rfl, hB⟩, ⟨C, rfl, hcc⟩⟩ : Fit 4 a ∧ Fit 4 b ∧ Fit 4 c := hf
      exact stepM_5 S0 p ca ccap ta tcap fv0 rs0 qs0 m m1 told w hS0 hP Z1 j q hj hq hfl (by omega) ck hck hC hK A B C hA hB hcc hx
    | 6, hf =>
      obtain ⟨⟨A, rfl, hA⟩, ⟨B, rfl, hB⟩, ⟨C, rfl, hcc⟩⟩ : Fit 4 a ∧ Fit 4 b ∧ Fit 4 c := hf
      exact stepM_6 S0 p ca ccap ta tcap fv0 rs0 qs0 m m1 told w hS0 hP Z1 j q hj hq hfl (by omega) ck hck hC hK A B C hA hB hcc hx
    | 7, hf =>
      obtain ⟨⟨A, rfl, hA⟩, ⟨B, rfl, hB⟩⟩ : Fit 4 a ∧ Fit p.vars.toNat b := hf
      exact stepM_7 S0 p ca ccap ta tcap fv0 rs0 qs0 m m1 told w hS0 hP Z1 j q hj hq hfl (by omega) ck hck hC hK A B hA hB c hx
    | 8, hf =>
      obtain ⟨⟨A, rfl, hA⟩, ⟨B, rfl, hB⟩⟩ : Fit p.vars.toNat a ∧ Fit 4 b := hf
      exact stepM_8 S0 p ca ccap ta tcap fv0 rs0 qs0 m m1 told w hS0 hP Z1 j q hj hq hfl (by omega) ck hck hC hK A B hA hB c hx
    | 9, hf =>
      obtain ⟨A, rfl, hA⟩ : Fit 4 a := hf
      exact stepM_9 S0 p ca ccap ta tcap fv0 rs0 qs0 m m1 told w hS0 hP Z1 j q hj hq hfl (by omega) ck hck hC hK A hA b c ht hx
    | 10, hf => exact stepM_10 S0 p ca ccap ta tcap fv0 rs0 qs0 m m1 told w hS0 hP Z1 j q hj hq hfl (by omega) hm1 ck hck hC hK a b c hx
    | 11, hf =>
      obtain ⟨⟨A, rfl, hA⟩, _⟩ : Fit 4 a ∧ Fit (ck.length + 1) b := hf
      exact stepM_11 S0 p ca ccap ta tcap fv0 rs0 qs0 m m1 told w hS0 hP Z1 j q hj hq hfl (by omega) hm1 ck hck hC hK A hA b c hx
    | 12, hf =>
      obtain ⟨A, rfl, hA⟩ : Fit p.threads.length a := hf
      exact hsync (.inr (by omega)) fun S fv rs qs B u h1 h2 => syncM_12 S p ca ccap ta tcap fv rs qs m1 told B u h1 h2 Z1 j hj q A hA b c
    | 13, hf =>
      obtain ⟨A, rfl, hA⟩ : Fit p.locks.toNat a := hf
      exact hsync (.inr (by omega)) fun S fv rs qs B u h1 h2 => syncM_13 S p ca ccap ta tcap fv rs qs m1 told B u h1 h2 Z1 j hj q A hA b c
    | 14, hf =>
      obtain ⟨A, rfl, hA⟩ : Fit p.locks.toNat a := hf
      exact hsync (.inr (by omega)) fun S fv rs qs B u h1 h2 => syncM_14 S p ca ccap ta tcap fv rs qs m1 told B u h1 h2 Z1 j hj q A hA b c hL1 hR1
    | 15, hf =>
      obtain ⟨A, rfl, hA⟩ : Fit p.locks.toNat a := hf
      exact hsync (.inr (by omega)) fun S fv rs qs B u h1 h2 => syncM_15 S p ca ccap ta tcap fv rs qs m1 told B u h1 h2 Z1 j hj q A hA b c (by simp [blockedM] at hb1; exact hb1)
    | 16, hf =>
      obtain ⟨A, rfl, hA⟩ : Fit p.locks.toNat a := hf
      exact hsync (.inr (by omega)) fun S fv rs qs B u h1 h2 => syncM_16 S p ca ccap ta tcap fv rs qs m1 told B u h1 h2 Z1 j hj q A hA b c hL1 hR1
    | 17, hf =>
      obtain ⟨⟨A, rfl, hA⟩, ⟨B', rfl, hB⟩⟩ : Fit 4 a ∧ Fit p.atoms.toNat b := hf
      exact hsync (.inr (by omega)) fun S fv rs qs B u h1 h2 => syncM_17 S p ca ccap ta tcap fv rs qs m1 told B u h1 h2 Z1 j hj q A B' hA hB c
    | 18, hf =>
      obtain ⟨⟨A, rfl, hA⟩, ⟨B', rfl, hB⟩⟩ : Fit p.atoms.toNat a ∧ Fit 4 b := hf
      exact hsync (.inr (by omega)) fun S fv rs qs B u h1 h2 => syncM_18 S p ca ccap ta tcap fv rs qs m1 told B u h1 h2 Z1 j hj q A B' hA hB c
    | 19, hf =>
      obtain ⟨⟨A, rfl, hA⟩, ⟨B', rfl, hB⟩, ⟨C, rfl, hcc⟩⟩ : Fit 4 a ∧ Fit p.atoms.toNat b ∧ Fit 4 c := hf
      exact hsync (.inr (by omega)) fun S fv rs qs B u h1 h2 => syncM_19 S p ca ccap ta tcap fv rs qs m1 told B u h1 h2 Z1 j hj q A B' C hA hB hcc
    | 20, hf =>
      obtain ⟨⟨A, rfl, hA⟩, ⟨B', rfl, hB⟩⟩ : Fit p.chans.length a ∧ Fit 4 b := hf
      have hA4 := hr1 A (by have := Z.c; omega)
      exact hsync (.inr (by omega)) fun S fv rs qs B u h1 h2 => syncM_20 S p ca ccap ta tcap fv rs qs m1 told B u h1 h2 Z1 j hj q A B' hA hB c (by
        by_cases h5 : m1 (57 + A * 6 + 5) = 1
        · exact .inl h5
        · simp [blockedM, h5] at hb1; exact .inr (by omega))
    | 21, hf =>
      obtain ⟨⟨A, rfl, hA⟩, ⟨B', rfl, hB⟩⟩ : Fit 4 a ∧ Fit p.chans.length b := hf
      have hA4 := Z1.q B' (by have := Z.c; omega)
      exact hsync (.inr (by omega)) fun S fv rs qs B u h1 h2 => syncM_21 S p ca ccap ta tcap fv rs qs m1 told B u h1 h2 Z1 j hj q A B' hA hB c (by
        by_cases h5 : m1 (57 + B' * 6 + 5) = 1
        · exact .inl h5
        · simp [blockedM, h5] at hb1; exact .inr (by omega))
    | 22, hf =>
      obtain ⟨⟨A, rfl, hA⟩, ⟨B', rfl, hB⟩, ⟨C, rfl, hcc⟩⟩ : Fit 4 a ∧ Fit p.chans.length b ∧ Fit 4 c := hf
      exact hsync (.inr (by omega)) fun S fv rs qs B u h1 h2 => syncM_22 S p ca ccap ta tcap fv rs qs m1 told B u h1 h2 Z1 j hj q A B' C hA hB hcc
    | 23, hf =>
      obtain ⟨A, rfl, hA⟩ : Fit p.chans.length a := hf
      exact hsync (.inr (by omega)) fun S fv rs qs B u h1 h2 => syncM_23 S p ca ccap ta tcap fv rs qs m1 told B u h1 h2 Z1 j hj q A hA b c
    | 24, hf =>
      obtain ⟨A, rfl, hA⟩ : Fit p.groups.toNat a := hf
      exact hsync (.inr (by omega)) fun S fv rs qs B u h1 h2 => syncM_24 S p ca ccap ta tcap fv rs qs m1 told B u h1 h2 Z1 j hj q A hA b c
    | 25, hf => exact hsync (.inr (by omega)) fun S fv rs qs B u h1 h2 => syncM_25 S p ca ccap ta tcap fv rs qs m1 told B u h1 h2 Z1 j hj q a b c
    | 26, hf =>
      obtain ⟨⟨A, rfl, hA⟩, ⟨B', rfl, hB⟩⟩ : Fit 4 a ∧ Fit p.onces.toNat b := hf
      exact hsync (.inr (by omega)) fun S fv rs qs B u h1 h2 => syncM_26 S p ca ccap ta tcap fv rs qs m1 told B u h1 h2 Z1 j hj q A B' hA hB c
    | 27, hf =>
      obtain ⟨A, rfl, hA⟩ : Fit p.onces.toNat a := hf
      exact hsync (.inr (by omega)) fun S fv rs qs B u h1 h2 => syncM_27 S p ca ccap ta tcap fv rs qs m1 told B u h1 h2 Z1 j hj q A hA b c
    | (n + 28), hf => exact hf.elim
  have eM : stepM p.threads m j = stepK m j x := by unfold stepM; rw [if_pos hcan, Int.toNat_natCast, hins]
  have eT : stepT p.threads m j = doT m1 j x := by unfold stepT; rw [if_pos hcan, Int.toNat_natCast, hins, hm]; first | done | rfl
  have eV : stepV p.threads m j = .agg (evA j q x.op (doE m1 j x).1) := by unfold stepV; rw [if_pos hcan, Int.toNat_natCast, hins, hm, ← hqm]; rfl
  have I2 := inv_step I Z.t hins hbl
  have eK : stepK m j x = upd (edM (doE m1 j x).1 m1) 90 (bitN (!(doE m1 j x).2)) := by rw [hm]; rfl
  rw [eK] at I2
  have Z2 : Sz p (edM (doE m1 j x).1 m1) := sz_of hs fun c hc => by
    have := I2.chan c hc
    rw [upd_ne _ _ (by omega), upd_ne _ _ (by omega)] at this
    omega
  refine key.mono fun e w' h => ?_
  obtain ⟨S, fv, rs, qs, he, hSV, hRf, hT⟩ := h
  rw [eM, eT, eV, eK, upd_same, bitN_eq, up_trap Z2]
  exact ⟨S, fv, rs, qs, he, hSV, fun u' h => hRf u' ⟨h.os, h.tape, h.output, h.size, fun k hk hx => h.block k hk fun hlt => hx ⟨fun z => z, hlt⟩⟩, hT.os, hT.tape, hT.output, hT.size, fun k hk => hT.block k hk fun z => z⟩
/-- What a run of the document's keeps. -/
structure Keep4 (p : ProgD) (l : List Int) : Prop where
  inv : Inv (runM p.threads l (newM p.chans)) p.threads
  invR : InvR p (runM p.threads l (newM p.chans))
  lk : LkI (runM p.threads l (newM p.chans))
theorem keep4_of {p : ProgD} (hs : soundE p = 0) : ∀ (l : List Int), l.length ≤ 1000000 → Keep4 p l := fun l hl => by
  have h6 := (sizes_parts (sound_parts hs).1).2.2.2.2.2.2.1.2
  have hi : ∀ (l : List Int) {m : Nat → Int}, Inv m p.threads → Inv (runM p.threads l m) p.threads := fun l => by
    induction l with
    | nil => intro m h; exact h
    | cons k l ih => intro m h; exact ih (inv_stepM h h6 k)
  exact ⟨hi l (inv_new hs), invR_of hs hl, lk_run h6 l (inv_new hs) (lk_new _)⟩
end Go.Proofs.Ytnbpneaiibandaa
namespace Go.Proofs.Ytnbpneaiibandaa
/-- How many have not come up. -/
def leftN (n : Nat) (listed : Array Bool) : Nat := ((List.range n).filter fun i => !(listed.getD i true)).length
theorem left_set {listed : Array Bool} {i : Nat} (hs : i < listed.size) (hf : listed.getD i true = false) : ∀ n, i < n → leftN n (listed.setIfInBounds i true) + 1 = leftN n listed := by
  intro n
  induction n with
  | zero => intro h; omega
  | succ n ih =>
    intro h
    unfold leftN
    rw [List.range_succ, List.filter_append, List.filter_append, List.length_append, List.length_append]
    by_cases e : i = n
    · subst e
      have e1 : (List.range i).filter (fun t => !((listed.setIfInBounds i true).getD t true)) = (List.range i).filter fun t => !(listed.getD t true) := by
        apply List.filter_congr
        intro t ht
        have ht := List.mem_range.1 ht
        simp only [Array.getD_eq_getD_getElem?]
        rw [Array.getElem?_setIfInBounds_ne (by omega)]
      rw [e1]
      have e2 : (listed.setIfInBounds i true).getD i true = true := by
        rw [Array.getD_eq_getD_getElem?, Array.getElem?_setIfInBounds_self, if_pos hs]; rfl
      simp only [List.filter_cons, List.filter_nil, hf, e2, Bool.not_true, Bool.not_false, if_true, Bool.false_eq_true, if_false, List.length_cons, List.length_nil]
    · have := ih (by omega)
      unfold leftN at this
      have e2 : (listed.setIfInBounds i true).getD n true = listed.getD n true := by
        simp only [Array.getD_eq_getD_getElem?]
        rw [Array.getElem?_setIfInBounds_ne e]
      simp only [List.filter_cons, List.filter_nil, e2]
      omega
/-- Whatever comes up next keeps J; where nothing is left J is enough. -/
theorem wpAny_inv {P : Program} {ops : Array Oper} {Q : Exit → Act → World → Prop} {md : Region.Mode} (J : Array Bool → Act → World → Prop) (hsz : ∀ listed a w, J listed a w → listed.size = ops.size)
    (hstep : ∀ listed a w i, J listed a w → i ∈ Region.ready md ops listed → wpOp P ops Q i (fun a' w' => J (listed.setIfInBounds i true) a' w') a w)
    (hdone : ∀ listed a w, J listed a w → Region.ready md ops listed = [] → Q .normal a w) :
    ∀ fuel listed a w, J listed a w → leftN ops.size listed ≤ fuel → wpAny P md ops Q fuel listed a w := by
  intro fuel
  induction fuel with
  | zero =>
    intro listed a w hJ hf
    have hr : Region.ready md ops listed = [] := by
      rw [List.eq_nil_iff_forall_not_mem]
      intro i hi
      obtain ⟨h1, o, ho, _⟩ := mem_ready.1 hi
      have hlt := (Array.getElem?_eq_some_iff.1 ho).1
      have := left_set (by rw [hsz _ _ _ hJ]; exact hlt) h1 ops.size hlt
      omega
    exact ⟨hr, hdone _ _ _ hJ hr⟩
  | succ fuel ih =>
    intro listed a w hJ hf
    refine ⟨hdone _ _ _ hJ, fun i hi => ?_⟩
    obtain ⟨h1, o, ho, _⟩ := mem_ready.1 hi
    have hlt := (Array.getElem?_eq_some_iff.1 ho).1
    have hl := left_set (by rw [hsz _ _ _ hJ]; exact hlt) h1 ops.size hlt
    exact wpOp_mono (fun a' w' h => ih _ _ _ h (by omega)) (hstep _ _ _ _ hJ hi)
/-- An operation that yields a value. -/
theorem wpOp_val {P : Program} {ops : Array Oper} {Q : Exit → Act → World → Prop} {i : Nat} {o : Oper} {K : Act → World → Prop} {a : Act} {w w' : World} {v : Value} (ho : ops[i]? = some o) (hg : o.guard = none) (hr : (execOp a.eval o).run P w = .ok (.value v) w') (h : K (a.put o.dst v) w') : wpOp P ops Q i K a w := by
  have hw : Region.wanted o (yielded ops a.tmps) = true := by simp [Region.wanted, hg]
  unfold wpOp
  simp only [ho, hw, if_true, Oper.wp, hr, Oper.upon]
  exact .inl h
/-- What lies in the slots, as a function. -/
def actF (N : Nat) (D : List Deferred) (f : Nat → Value) : Act := ⟨((List.range N).map f).toArray, D⟩
def putF (f : Nat → Value) (d : Option Nat) (v : Value) : Nat → Value := fun t => if d = some t then v else f t
theorem putF_ne {f : Nat → Value} {d : Option Nat} {v : Value} {t : Nat} (h : d ≠ some t) : putF f d v t = f t := by simp [putF, h]
theorem putF_same {f : Nat → Value} {v : Value} {t : Nat} : putF f (some t) v t = v := by simp [putF]
theorem actF_tmp {N : Nat} {D : List Deferred} {f : Nat → Value} {t : Nat} (h : t < N) : (actF N D f).eval (.tmp t) = f t := by
  simp [Act.eval, actF, Array.getD_eq_getD_getElem?, h]
theorem actF_get {N : Nat} {D : List Deferred} {f : Nat → Value} {t : Nat} (h : t < N) : (actF N D f).tmps[t]?.getD undef = f t := by
  simp [actF, h]
theorem actF_put {N : Nat} {D : List Deferred} {f : Nat → Value} {d : Option Nat} {v : Value} : (actF N D f).put d v = actF N D (putF f d v) := by
  cases d with
  | none =>
    have : putF f none v = f := by funext t; simp [putF]
    rw [this]; rfl
  | some d =>
    unfold actF Act.put
    simp only
    congr 1
    apply Array.ext_getElem?
    intro t
    rw [Array.getElem?_setIfInBounds]
    simp only [List.getElem?_toArray, List.getElem?_map, List.size_toArray, List.length_map, List.length_range]
    by_cases e : d = t
    · subst e
      by_cases h : d < N
      · simp [h, putF]
      · simp [h]
    · rw [if_neg e]
      by_cases h : t < N
      · simp [h, putF, e]
      · simp [h]
theorem actF_of (a : Act) (N : Nat) (h : a.tmps.size = N) : a = actF N a.defers (fun t => a.tmps.getD t undef) := by
  subst h
  cases a with
  | mk tmps defers =>
    unfold actF
    congr 1
    apply Array.ext_getElem?
    intro t
    simp only [List.getElem?_toArray, List.getElem?_map]
    by_cases h : t < tmps.size
    · simp [h, Array.getD_eq_getD_getElem?]
    · simp [h]
/-- Every operation waits for earlier ones alone. -/
def afterOk (md : Region.Mode) (ops : Array Oper) : Bool := (List.range ops.size).all fun i => ((ops[i]?).map fun o => o.after.all fun e => !Region.binds md e || decide (e.on < i)).getD true
def upL (L : Nat → Bool) (i : Nat) : Nat → Bool := fun j => if j = i then true else L j
theorem upL_same (L : Nat → Bool) (i : Nat) : upL L i i = true := by simp [upL]
theorem upL_ne (L : Nat → Bool) {i j : Nat} (h : j ≠ i) : upL L i j = L j := by simp [upL, h]
/-- Whatever comes up next keeps Inv. -/
theorem wpAny_fam {P : Program} {ops : Array Oper} {Q : Exit → Act → World → Prop} {md : Region.Mode} {N : Nat} {D : List Deferred} (hok : afterOk md ops = true) (Inv : (Nat → Bool) → (Nat → Value) → World → Prop) {f0 : Nat → Value} {w : World} (h0 : Inv (fun i => decide (ops.size ≤ i)) f0 w)
    (hstep : ∀ L f w i o, ops[i]? = some o → L i = false → (∀ e ∈ o.after, Region.binds md e = true → L e.on = true) → Inv L f w → wpOp P ops Q i (fun a' w' => ∃ f', a' = actF N D f' ∧ Inv (upL L i) f' w') (actF N D f) w)
    (hdone : ∀ f w, Inv (fun _ => true) f w → Q .normal (actF N D f) w) :
    wpAny P md ops Q ops.size (Array.replicate ops.size false) (actF N D f0) w := by
  refine wpAny_inv (fun listed a w => listed.size = ops.size ∧ ∃ f, a = actF N D f ∧ Inv (fun i => listed.getD i true) f w) (fun listed a w h => h.1) ?_ ?_ ops.size _ _ _ ⟨by simp, f0, rfl, ?_⟩ ?_
  · rintro listed a w i ⟨hs, f, rfl, hI⟩ hi
    obtain ⟨h1, o, ho, h2⟩ := mem_ready.1 hi
    have hlt := (Array.getElem?_eq_some_iff.1 ho).1
    refine wpOp_mono ?_ (hstep _ f w i o ho h1 (fun e he hb => ?_) hI)
    · rintro a' w' ⟨f', rfl, hI'⟩
      refine ⟨by simpa using hs, f', rfl, ?_⟩
      have : (fun j => (listed.setIfInBounds i true).getD j true) = upL (fun j => listed.getD j true) i := by
        funext j
        simp only [Array.getD_eq_getD_getElem?]
        by_cases e : j = i
        · subst e
          rw [upL_same, Array.getElem?_setIfInBounds_self]
          split <;> rfl
        · rw [upL_ne _ e, Array.getElem?_setIfInBounds_ne (Ne.symm e)]
      rw [this]; exact hI'
    · have := h2 e he hb
      simp only [Array.getD_eq_getD_getElem?] at this ⊢
      rcases hq : listed[e.on]? with _ | b
      · rfl
      · rw [hq] at this; exact this
  · rintro listed a w ⟨hs, f, rfl, hI⟩ hr
    have hall : ∀ n i, i < n → listed.getD i true = true := by
      intro n
      induction n with
      | zero => intro i h; omega
      | succ n ih =>
        intro i h
        rcases Nat.lt_or_ge i n with q | q
        · exact ih i q
        · obtain rfl : i = n := by omega
          by_cases hlt : i < ops.size
          · rcases hq : listed.getD i true with _ | _
            · exfalso
              have : i ∈ Region.ready md ops listed := by
                refine mem_ready.2 ⟨hq, ops[i], by simp [hlt], fun e he hb => ?_⟩
                have h3 := List.all_eq_true.1 hok i (List.mem_range.2 hlt)
                simp only [hlt, getElem?_pos, Option.map_some, Option.getD_some, Array.all_eq_true_iff_forall_mem, Bool.or_eq_true, Bool.not_eq_true', decide_eq_true_eq] at h3
                have h3 : ∀ e, e ∈ ops[i].after → Region.binds md e = true → e.on < i := fun e he hb => (h3 e he).resolve_left (by rw [hb]; simp)
                have h4 := ih e.on (h3 e he hb)
                have h5 : e.on < listed.size := by have := h3 e he hb; omega
                simp only [Array.getD_eq_getD_getElem?, h5, getElem?_pos, Option.getD_some] at h4 ⊢
                exact h4
              rw [hr] at this
              cases this
            · rfl
          · simp [Array.getD_eq_getD_getElem?, Array.getElem?_eq_none (show listed.size ≤ i by omega)]
    have : (fun i => listed.getD i true) = fun _ => true := by
      funext i
      exact hall (i + 1) i (by omega)
    rw [this] at hI
    exact hdone f w hI
  · have : (fun i => (Array.replicate ops.size false).getD i true) = fun i => decide (ops.size ≤ i) := by
      funext i
      by_cases h : i < ops.size
      · simp [Array.getD_eq_getD_getElem?, h]
      · simp [Array.getD_eq_getD_getElem?, h]; omega
    rw [this]; exact h0
  · unfold leftN
    refine Nat.le_trans (List.length_filter_le _ _) (by simp)
theorem wpOp_fam {P : Program} {ops : Array Oper} {Q : Exit → Act → World → Prop} {N : Nat} {D : List Deferred} {Inv : (Nat → Bool) → (Nat → Value) → World → Prop} {L : Nat → Bool} {f : Nat → Value} {w w' : World} {i : Nat} {o : Oper} {v : Value} (ho : ops[i]? = some o) (hg : o.guard = none) (hr : (execOp (actF N D f).eval o).run P w = .ok (.value v) w') (h : Inv (upL L i) (putF f o.dst v) w') :
    wpOp P ops Q i (fun a' w' => ∃ f', a' = actF N D f' ∧ Inv (upL L i) f' w') (actF N D f) w :=
  wpOp_val ho hg hr ⟨_, actF_put, h⟩
theorem wpOp_fam_call {P : Program} {ops : Array Oper} {Q : Exit → Act → World → Prop} {N : Nat} {D : List Deferred} {Inv : (Nat → Bool) → (Nat → Value) → World → Prop} {L : Nat → Bool} {f : Nat → Value} {w w' : World} {i : Nat} {o : Oper} {fn : FuncId} {args : Array Value} (ho : ops[i]? = some o) (hg : o.guard = none) (hr : (execOp (actF N D f).eval o).run P w = .ok (.enter fn args) w') (h : Calls P fn args w' fun e w'' => ∃ v, e = .returned v ∧ Inv (upL L i) (putF f o.dst v) w'') :
    wpOp P ops Q i (fun a' w' => ∃ f', a' = actF N D f' ∧ Inv (upL L i) f' w') (actF N D f) w := by
  have hw : Region.wanted o (yielded ops (actF N D f).tmps) = true := by simp [Region.wanted, hg]
  unfold wpOp
  simp only [ho, hw, if_true, Oper.wp, hr, Oper.upon]
  refine .inl (h.mono ?_)
  rintro e w'' ⟨v, rfl, hI⟩
  exact ⟨_, actF_put, hI⟩
/-- The same of the region itself. -/
theorem wp_region_fam {P : Program} {ops : Array Oper} {Q : Exit → Act → World → Prop} {id : Nat} {a : Act} {w : World} (hm : P.follows .mixedOrders = true) (N : Nat) (hN : a.tmps.size = N) (D : List Deferred) (hD : a.defers = D) (hok : afterOk .any ops = true) (Inv : (Nat → Bool) → (Nat → Value) → World → Prop) (h0 : Inv (fun i => decide (ops.size ≤ i)) (fun t => a.tmps.getD t undef) { w with drawn := w.drawn + 1 })
    (hstep : ∀ L f w i o, ops[i]? = some o → L i = false → (∀ e ∈ o.after, Region.binds .any e = true → L e.on = true) → Inv L f w → wpOp P ops Q i (fun a' w' => ∃ f', a' = actF N D f' ∧ Inv (upL L i) f' w') (actF N D f) w)
    (hdone : ∀ f w, Inv (fun _ => true) f w → Q .normal (actF N D f) w) : (Code.region id ops true).wp P Q a w := by
  subst hD
  refine wp_region_any hm ?_
  have h := wpAny_fam (P := P) (ops := ops) (Q := Q) (md := .any) (N := N) (D := a.defers) hok Inv h0 hstep hdone
  rw [← actF_of a N hN] at h
  exact h
/-- The same, where Inv knows what lay in the slots ahead. -/
theorem wp_region_famK {P : Program} {ops : Array Oper} {Q : Exit → Act → World → Prop} {id : Nat} {a : Act} {w : World} (hm : P.follows .mixedOrders = true) (N : Nat) (hN : a.tmps.size = N) (D : List Deferred) (hD : a.defers = D) (hok : afterOk .any ops = true) (Inv : (Nat → Value) → (Nat → Bool) → (Nat → Value) → World → Prop) (h0 : Inv (fun t => a.tmps.getD t undef) (fun i => decide (ops.size ≤ i)) (fun t => a.tmps.getD t undef) { w with drawn := w.drawn + 1 })
    (hstep : ∀ L f w i o, ops[i]? = some o → L i = false → (∀ e ∈ o.after, Region.binds .any e = true → L e.on = true) → Inv (fun t => a.tmps.getD t undef) L f w → wpOp P ops Q i (fun a' w' => ∃ f', a' = actF N D f' ∧ Inv (fun t => a.tmps.getD t undef) (upL L i) f' w') (actF N D f) w)
    (hdone : ∀ f w, Inv (fun t => a.tmps.getD t undef) (fun _ => true) f w → Q .normal (actF N D f) w) : (Code.region id ops true).wp P Q a w :=
  wp_region_fam hm N hN D hD hok (Inv (fun t => a.tmps.getD t undef)) h0 hstep hdone
/-- All slots but some are as they were. -/
theorem actF_puts (a : Act) (N : Nat) (hN : a.tmps.size = N) (f : Nat → Value) (l : List Nat) (keep : ∀ t, t < N → t ∉ l → f t = a.tmps.getD t undef) : actF N a.defers f = l.foldl (fun b t => b.put (some t) (f t)) a := by
  have key : ∀ (l : List Nat) (b : Act), b.tmps.size = N → b.defers = a.defers → (l.foldl (fun b t => b.put (some t) (f t)) b).tmps.size = N ∧ (l.foldl (fun b t => b.put (some t) (f t)) b).defers = a.defers ∧ ∀ t, t < N → (l.foldl (fun b t => b.put (some t) (f t)) b).tmps[t]? = if t ∈ l then some (f t) else b.tmps[t]? := by
    intro l
    induction l with
    | nil => intro b h1 h2; exact ⟨h1, h2, fun t ht => by simp⟩
    | cons x l ih =>
      intro b h1 h2
      obtain ⟨i1, i2, i3⟩ := ih (b.put (some x) (f x)) (by simpa [Act.put] using h1) (by simpa [Act.put] using h2)
      refine ⟨i1, i2, fun t ht => (i3 t ht).trans ?_⟩
      by_cases e : t ∈ l
      · rw [if_pos e, if_pos (List.mem_cons_of_mem _ e)]
      · rw [if_neg e]
        by_cases e2 : t = x
        · subst e2
          rw [if_pos (List.mem_cons_self ..)]
          show (b.tmps.setIfInBounds t (f t))[t]? = _
          rw [Array.getElem?_setIfInBounds_self_of_lt (by omega)]
        · rw [if_neg (by simp [e, e2])]
          show (b.tmps.setIfInBounds x (f x))[t]? = _
          rw [Array.getElem?_setIfInBounds_ne (Ne.symm e2)]
  obtain ⟨h1, h2, h3⟩ := key l a hN rfl
  generalize l.foldl (fun b t => b.put (some t) (f t)) a = c at *
  have hc : c = ⟨c.tmps, a.defers⟩ := by rw [← h2]
  rw [hc]
  unfold actF
  congr 1
  apply Array.ext_getElem?
  intro t
  by_cases ht : t < N
  · rw [h3 t ht]
    simp only [List.getElem?_toArray, List.getElem?_map]
    rw [List.getElem?_range ht]
    by_cases e : t ∈ l
    · rw [if_pos e]; rfl
    · rw [if_neg e, Option.map_some, keep t ht e]
      have hta : t < a.tmps.size := by omega
      simp [Array.getD_eq_getD_getElem?, hta]
  · rw [Array.getElem?_eq_none (by simp; omega), Array.getElem?_eq_none (by omega)]
end Go.Proofs.Ytnbpneaiibandaa
