/- What the laws of this seat stand on, part 26. -/
import Derived.Test.YtglafbajbiengaaGreatPa0
import Derived.Test.YtglafbajbiengaaGreatPa21
import Derived.Test.YtglafbajbiengaaGreatPa25
set_option linter.unusedVariables false
set_option linter.unusedSimpArgs false
set_option maxRecDepth 100000
set_option maxHeartbeats 40000000
namespace Go.Proofs.YtglafbajbiengaaGreat
open Go.ChangeShapes Go.WideShapes Go.ChangeAt Go.RowKit
theorem bef_step {D : Nat → Nat → Bool} (hD : Up D) {q j : Nat} : befB D q j = (D q j || (List.range j).any fun k => befB D k j && D q k) := by
  rw [Bool.eq_iff_iff, befB_iff hD, Bool.or_eq_true, List.any_eq_true]
  constructor
  · intro h
    cases h with
    | one h => exact .inl h
    | more h g =>
      rename_i k
      exact .inr ⟨k, List.mem_range.2 (g.lt hD), by rw [(befB_iff hD).2 g, h]; rfl⟩
  · rintro (h | ⟨k, _, h⟩)
    · exact .one h
    · rw [Bool.and_eq_true] at h
      exact .more h.2 ((befB_iff hD).1 h.1)
def mkI (s : Nat → Bool) (n : Nat) : List Int := (List.range n).map fun i => if s i then 1 else 0
theorem mkI_len (s : Nat → Bool) (n : Nat) : (mkI s n).length = n := by simp [mkI]
theorem mkI_at (s : Nat → Bool) {n k : Nat} (h : k < n) : (mkI s n)[k]? = some (if s k then 1 else 0) := by simp [mkI, h]
theorem mkI_congr {s s' : Nat → Bool} {n : Nat} (h : ∀ k, k < n → s k = s' k) : mkI s n = mkI s' n := by
  unfold mkI
  refine List.map_congr_left fun k hk => ?_
  rw [h k (List.mem_range.1 hk)]
theorem mkI_set (s : Nat → Bool) (n q : Nat) : ((mkI s n).map (Value.int .i64 ·)).set q (.int .i64 1) = (mkI (fun k => s k || k == q) n).map (Value.int .i64 ·) := by
  rw [← List.map_set]
  congr 1
  refine List.ext_getElem? fun k => ?_
  rw [List.getElem?_set]
  by_cases hk : k < n
  · rw [mkI_at (fun k => s k || k == q) hk, mkI_len]
    by_cases e : q = k
    · subst e; simp [hk]
    · rw [if_neg e, mkI_at s hk]
      have : (k == q) = false := by simpa using fun h => e h.symm
      simp [this]
  · rw [List.getElem?_eq_none (l := mkI (fun k => s k || k == q) n) (by rw [mkI_len]; omega), mkI_len]
    split
    · rw [if_neg (by omega)]
    · rw [List.getElem?_eq_none (by rw [mkI_len]; omega)]
theorem mkI_zero (n : Nat) : List.replicate n (Value.int .i64 0) = (mkI (fun _ => false) n).map (Value.int .i64 ·) := by
  refine List.ext_getElem? fun k => ?_
  rw [List.getElem?_map, List.getElem?_replicate]
  by_cases hk : k < n
  · rw [mkI_at _ hk, if_pos hk]; rfl
  · rw [List.getElem?_eq_none (l := mkI _ _) (by rw [mkI_len]; omega), if_neg hk]; rfl
theorem made_intR (n : Nat) : (madeCells (Value.int .i64 0).cells (n * 1)).toList = List.replicate n (Value.int .i64 0) := by rw [Nat.mul_one]; exact toList_madeCells_one _ _
theorem below_madeR {w w1 : World} (h : w.grownBy w1 none) : Below w.heap.size w w1 := (Below.refl _ w).grown h (Nat.le_refl _) (by intro k hk; cases hk)
/-- The row of marks, as it lies. -/
def MkIn (w : World) (s : Nat → Bool) (n : Nat) (u : World) : Prop := u.ownsRow w.heap.size 3 1 (.slice (some ⟨w.heap.size + 1, 0, none⟩) n n) n ((mkI s n).map (.int .i64 ·)) ∧ Below w.heap.size w u ∧ w.heap.size + 1 < u.heap.size
theorem MkIn.later {w u u' : World} {s : Nat → Bool} {n : Nat} (h : MkIn w s n u) (hB : Below u.heap.size u u') : MkIn w s n u' := ⟨own_later h.1 hB, below_next h.2.1 hB, Nat.lt_of_lt_of_le h.2.2 hB.size⟩
theorem MkIn.cell {w u : World} {s : Nat → Bool} {n k : Nat} (h : MkIn w s n u) (hk : k < n) : u.cell? ⟨w.heap.size + 1, k, none⟩ = some (.int .i64 (if s k then 1 else 0)) ∧ u.frozen? ⟨w.heap.size + 1, k, none⟩ = false := by
  refine ⟨?_, h.1.frozenAt k⟩
  rw [h.1.cellAt k (by omega), List.getElem?_map, mkI_at _ hk]; rfl
theorem MkIn.put {w u : World} {s : Nat → Bool} {n q : Nat} (h : MkIn w s n u) (hq : q < n) : MkIn w (fun k => s k || k == q) n (u.setCell ⟨w.heap.size + 1, q, none⟩ (.int .i64 1)) := by
  refine ⟨?_, h.2.1.setCell (p := ⟨w.heap.size + 1, q, none⟩) (by simp) _, by rw [size_setCell]; exact h.2.2⟩
  rw [← mkI_set]
  exact (h.1.stored q (.int .i64 1)).1
theorem MkIn.congr {w u : World} {s s' : Nat → Bool} {n : Nat} (h : MkIn w s n u) (e : ∀ k, k < n → s k = s' k) : MkIn w s' n u := by
  unfold MkIn at h ⊢
  rwa [← mkI_congr e]
/-- A program's box, the first that the call made. -/
def PbAt (w : World) (vs : Array Value) (u : World) : Prop := u.heap[w.heap.size]? = some (.cells vs 26)
theorem PbAt.later {w u u' : World} {vs : Array Value} (h : PbAt w vs u) (hB : Below u.heap.size u u') : PbAt w vs u' := old_later h hB
theorem PbAt.set {w u : World} {vs : Array Value} (h : PbAt w vs u) {q : Nat} {v : Value} : PbAt w vs (u.setCell ⟨w.heap.size + 1, q, none⟩ v) := (Below.heap_setCell u ⟨w.heap.size + 1, q, none⟩ v w.heap.size (by simp)).trans h
def MarksE (chans : List Int) (t : List EvD) (j : Int) (w : World) (e : Ending) (V : World) : Prop :=
  ∃ g, e = .returned (.slice (some ⟨g, 0, none⟩) t.length t.length) ∧ V.ownsRow w.heap.size 3 1 (.slice (some ⟨g, 0, none⟩) t.length t.length) t.length ((mkI (fun i => befI chans t (i : Nat) j) t.length).map (.int .i64 ·)) ∧ Below w.heap.size w V
/-- What is marked, of what is not below d. -/
def sD (D : Nat → Nat → Bool) (j d : Nat) : Nat → Bool := fun k => decide (d ≤ k) && befB D k j
def bD (D : Nat → Nat → Bool) (j q m : Nat) : Bool := D q j || (List.range m).any fun k => sD D j (q + 1) k && D q k
theorem bD_end {D : Nat → Nat → Bool} (hD : Up D) {j q : Nat} : bD D j q j = befB D q j := by
  rw [bef_step hD]
  unfold bD
  congr 1
  rw [Bool.eq_iff_iff, List.any_eq_true, List.any_eq_true]
  constructor
  · rintro ⟨k, hk, h⟩
    simp only [sD, Bool.and_eq_true] at h
    exact ⟨k, hk, by rw [h.1.2, h.2]; rfl⟩
  · rintro ⟨k, hk, h⟩
    rw [Bool.and_eq_true] at h
    have := hD _ _ h.2
    exact ⟨k, hk, by simp only [sD, h.1, h.2, Bool.and_true, decide_eq_true_eq]; omega⟩
theorem bD_stop {D : Nat → Nat → Bool} (hD : Up D) {j q m : Nat} (hm : m ≤ j) (h : bD D j q m = true) : befB D q j = true := by
  rw [← bD_end hD]
  unfold bD at h ⊢
  rw [Bool.or_eq_true, List.any_eq_true] at h ⊢
  rcases h with h | ⟨k, hk, h⟩
  · exact .inl h
  · exact .inr ⟨k, List.mem_range.2 (Nat.lt_of_lt_of_le (List.mem_range.1 hk) hm), h⟩
theorem bD_succ (D : Nat → Nat → Bool) (j q m : Nat) : bD D j q (m + 1) = (bD D j q m || (sD D j (q + 1) m && D q m)) := by
  unfold bD
  rw [List.range_succ, List.any_append, Bool.or_assoc]; simp
theorem bD_first {D : Nat → Nat → Bool} (hD : Up D) (j q : Nat) : bD D j q (q + 1) = D q j := by
  unfold bD
  rw [show ((List.range (q + 1)).any fun k => sD D j (q + 1) k && D q k) = false from ?_, Bool.or_false]
  rw [List.any_eq_false]
  intro k hk h
  rw [Bool.and_eq_true] at h
  have := hD _ _ h.2
  have := List.mem_range.1 hk
  omega
theorem marks_any (v0 v1 v2 : Value) (ca : Option Addr) (ccap : Nat) (chans : List Int) (v4 v5 v6 : Value) (a : Option Addr) (cap : Nat) (t : List EvD) (j : Int) (w : World) (hc : ChIn w ca chans) (he : EvsIn w w.heap.size a t) (hl : t.length ≤ 1000000) (hv : (#[v0, v1, v2, .slice ca chans.length ccap, v4, v5, v6] : Array Value).all (·.oneCell') = true) :
    Calls Tryz.prog 24 #[.agg #[v0, v1, v2, .slice ca chans.length ccap, v4, v5, v6], .slice a t.length cap, .int .i64 j] w (MarksE chans t j w) := by
  obtain ⟨i0, hi0, hz0, hz1, hz2⟩ := info_parts info_intT
  have HC := Lib.hid hc
  have HE := Lib.hid he
  have HVV := Lib.hid hv
  clear hc he
  simp only [List.all_toArray, List.all_cons, List.all_nil, Bool.and_true, Bool.and_eq_true] at hv
  obtain ⟨o0, o1, o2, o3, o4, o5, o6⟩ := hv
  have hsz : (World.alloc w (.cells #[v0, v1, v2, .slice ca chans.length ccap, v4, v5, v6] 26)).heap.size = w.heap.size + 1 := by simp
  have HDI := Lib.hid (fun W (hB : Below w.heap.size w W) (i j : Int) => rdirect_any v0 v1 v2 ca ccap chans v4 v5 v6 a cap t i j W (HC.out.later hB) (HE.out.later hB) hl HVV.out)
  have HNo : Hid (¬ (0 ≤ j ∧ j < t.length) → ∀ i : Nat, befI chans t (i : Nat) j = false) := Lib.hid fun h i => by
    unfold befI
    rcases hr : riseB (i : Int) j t.length with _ | _
    · rfl
    · have := riseB_iff.1 hr; omega
  by_cases hin : 0 ≤ j ∧ j < t.length
  · obtain ⟨j0, j1⟩ := hin
    obtain ⟨j, rfl⟩ : ∃ k : Nat, j = k := ⟨j.toNat, by omega⟩
    have hjl : j < t.length := by omega
    have q0' : decide ((j : Int) < 0) = false := decide_eq_false (by omega)
    have q1' : decide ((t.length : Int) ≤ (j : Int)) = false := decide_eq_false (by omega)
    have q2' : decide (t.length ≤ j) = false := decide_eq_false (by omega)
    have HD := Lib.hid (dirB_up chans t)
    have HEQ : Hid (∀ k, k < t.length → sD (dirB chans t) j 0 k = befI chans t (k : Nat) (j : Nat)) := Lib.hid fun k hk => by
      unfold sD befI
      rw [decide_eq_true (Nat.zero_le k), Bool.true_and]
      rcases hb : befB (dirB chans t) k j with _ | _
      · simp [hb]
      · have := (befB_iff HD.out).1 hb
        have := this.lt HD.out
        simp [hb]
        exact riseB_iff.2 ⟨by omega, by omega, by omega⟩
    have HDI2 := Lib.hid (fun W (hB : Below w.heap.size w W) (i j' : Nat) (b : Bool) (hij : i < j') (hj' : j' < t.length) (hb : dirB chans t i j' = b) => (show Calls Tryz.prog 41 #[.agg #[v0, v1, v2, .slice ca chans.length ccap, v4, v5, v6], .slice a t.length cap, .int .i64 i, .int .i64 j'] W fun e w' => e = .returned (.bool b) ∧ Below W.heap.size W w' from by
      have h := HDI.out W hB i j'
      rw [show dirI chans t (i : Int) (j' : Int) = b from by unfold dirI; rw [riseB_iff.2 ⟨by omega, by omega, by omega⟩]; simpa using hb] at h
      exact h))
    generalize dirB chans t = D at *
    go_enter Tryz.func24, Tryz.ntmps24
    go_upto_region 2 with (refine wpList_make_full _ rfl _ _ 23 rfl (w.heap.size + 1) 3 i0 _ 1 Tryz.underlying23 hi0 hz0 hz1 .i64 .i64 _ _ t.length rfl rfl rfl rfl (by rw [hz2]; omega) (by unfold maxLen; omega) (by simp) ?_; intro w1 hown hgrow)
    rw [hsz] at hown
    try rw [hsz]
    have HPB : Hid (PbAt w #[v0, v1, v2, .slice ca chans.length ccap, v4, v5, v6] w1) := Lib.hid (old_later (heap_alloc_new _ _) (below_madeR hgrow))
    have HM : Hid (MkIn w (sD D j j) t.length w1) := Lib.hid (by
      rw [made_intR, mkI_zero] at hown
      refine ⟨?_, below_next (below_box _ _) (below_madeR hgrow), ?_⟩
      · rw [mkI_congr (s' := fun _ => false) fun k hk => ?_]
        · exact own_base hown (by omega)
        · unfold sD
          rcases hb : befB D k j with _ | _
          · simp
          · have := ((befB_iff HD.out).1 hb).lt HD.out
            simp; omega
      · rcases hown.2 with ⟨h0, _⟩ | ⟨g', c', cur, e', hb, hh, _⟩
        · cases h0
        · cases e'; exact (Array.getElem?_eq_some_iff.1 hh).1)
    have HLT : Hid (w1.heap.size ≤ w.heap.size + 1 → False) := Lib.hid fun h => by have := HM.out.2.2; omega
    clear hown hgrow
    go_wp2_with fail
    go_loopw [8] (fun i' u => ∃ (d : Nat) (x : Int), d ≤ j ∧ i' = .int .i64 x ∧ x = (d : Int) - 1 ∧ MkIn w (sD D j d) t.length u ∧ PbAt w #[v0, v1, v2, .slice ca chans.length ccap, v4, v5, v6] u) (fun i' _ => ((intOf i') + 1).toNat)
    case atStart => exact ⟨j, _, Nat.le_refl _, rfl, by go_num, HM.out, HPB.out⟩
    case round =>
      obtain ⟨d, x, hd, rfl, hx, hM, hB⟩ := hrel
      have HM := Lib.hid hM
      have HB := Lib.hid hB
      clear hM hB
      rcases d with _ | q
      · have hx' : decide ((0 : Int) ≤ x) = false := decide_eq_false (by omega)
        go_wp2
        go_ret
        exact ⟨w.heap.size + 1, rfl, (HM.out.congr HEQ.out).1, HM.out.2.1⟩
      · obtain rfl : x = (q : Int) := by omega
        have hx' : decide ((0 : Int) ≤ (q : Int)) = true := decide_eq_true (by omega)
        have hqj : q < j := by omega
        clear hx
        have hqt : (q : Int) < (t.length : Int) := by omega
        have hjt : (j : Int) < (t.length : Int) := by omega
        have HS0 : Hid (sD D j (q + 1) q = false) := Lib.hid (by unfold sD; rw [decide_eq_false (by omega)]; rfl)
        obtain ⟨p0, p1, p2, p3, p4, p5, p6⟩ := box7R HB.out
        have HD1 := Lib.hid (fun b hb => HDI2.out wr HM.out.2.1 q j b hqj hjl hb)
        have HNX : Hid (∀ (b : Bool) (u : World), b = befB D q j → MkIn w (fun k => sD D j (q + 1) k || (k == q && b)) t.length u → MkIn w (sD D j q) t.length u) := Lib.hid fun b u hb h => h.congr fun k hk => by
          subst hb
          by_cases e : k = q
          · subst e
            rw [HS0.out]; simp [sD]
          · have e' : (k == q) = false := by simpa using e
            simp only [sD, e', Bool.false_and, Bool.or_false]
            congr 1
            exact decide_eq_decide.2 (by omega)
        rcases hb : D q j with _ | _
        · go_upto_region 9 with (go_at_call 41; refine (HD1.out _ hb).mono ?_; rintro e w2 ⟨rfl, hB2⟩)
          have HM2 : Hid (MkIn w (fun k => sD D j (q + 1) k || (k == q && bD D j q (q + 1))) t.length w2) := Lib.hid ((HM.out.later hB2).congr fun k hk => by rw [bD_first HD.out, hb]; simp)
          have HB2 := Lib.hid (HB.out.later hB2)
          clear hb hB2
          go_wp2_with fail
          go_loopw [9] (fun k' u => ∃ (m : Nat) (b : Bool), q + 1 ≤ m ∧ m ≤ j ∧ k' = .int .i64 m ∧ Hid (b = bD D j q m) ∧ MkIn w (fun k => sD D j (q + 1) k || (k == q && b)) t.length u ∧ PbAt w #[v0, v1, v2, .slice ca chans.length ccap, v4, v5, v6] u) (fun k' _ => j - (intOf k').toNat)
          case atStart => exact ⟨q + 1, _, Nat.le_refl _, hqj, by go_num, Lib.hid rfl, HM2.out, HB2.out⟩
          case round =>
            obtain ⟨m, b, hqm, hmj, rfl, hbm, hM3, hB3⟩ := hrel
            have HM3 := Lib.hid hM3
            have HB3 := Lib.hid hB3
            clear hM3 hB3
            have hcq := (HM3.out.cell (k := q) (by omega)).1
            rw [HS0.out, Bool.false_or, beq_self_eq_true, Bool.true_and] at hcq
            by_cases hlt : m < j
            · have hlt' : (m : Int) < (j : Int) := by omega
              have hmt : (m : Int) < (t.length : Int) := by omega
              rcases b with _ | _
              · have hcm := (HM3.out.cell (k := m) (by omega)).1
                rw [Bool.and_false, Bool.or_false] at hcm
                simp only [Bool.false_eq_true, if_false] at hcq
                rcases hs : sD D j (q + 1) m with _ | _
                · rw [hs] at hcm
                  simp only [Bool.false_eq_true, if_false] at hcm
                  have HBM : Hid (false = bD D j q (m + 1)) := Lib.hid (by rw [bD_succ, ← hbm.out, hs]; rfl)
                  clear hs
                  go_wp2_with fail
                  go_roundw
                  case rel => exact ⟨m + 1, false, by omega, by omega, by go_num, HBM, HM3.out, HB3.out⟩
                  case measure => simp [intOf] <;> omega
                · rw [hs] at hcm
                  simp only [if_true] at hcm
                  obtain ⟨p0, p1, p2, p3, p4, p5, p6⟩ := box7R HB3.out
                  have HD2 := Lib.hid (fun b hb => HDI2.out _ HM3.out.2.1 q m b (by omega) (by omega) hb)
                  rcases hb2 : D q m with _ | _
                  · have HBM : Hid (false = bD D j q (m + 1)) := Lib.hid (by rw [bD_succ, ← hbm.out, hs, hb2]; rfl)
                    have HB2D := Lib.hid hb2
                    clear hs hb2
                    go_wp2_with (go_at_call 41; refine (HD2.out _ HB2D.out).mono ?_; rintro e w4 ⟨rfl, hB4⟩)
                    go_roundw
                    case rel => exact ⟨m + 1, false, by omega, by omega, by go_num, HBM, HM3.out.later hB4, HB3.out.later hB4⟩
                    case measure => simp [intOf] <;> omega
                  · have HBM : Hid (true = bD D j q (m + 1)) := Lib.hid (by rw [bD_succ, ← hbm.out, hs, hb2]; rfl)
                    have HB2D := Lib.hid hb2
                    clear hs hb2
                    go_wp2_with (go_at_call 41; refine (HD2.out _ HB2D.out).mono ?_; rintro e w4 ⟨rfl, hB4⟩; obtain ⟨c4, f4⟩ := (HM3.out.later hB4).cell (k := q) (by omega))
                    go_roundw
                    case rel => exact ⟨m + 1, true, by omega, by omega, by go_num, HBM, ((HM3.out.later hB4).put (q := q) (by omega)).congr (fun k _ => by simp), (HB3.out.later hB4).set⟩
                    case measure => simp [intOf] <;> omega
              · simp only [if_true] at hcq
                have HEx := Lib.hid (HNX.out true _ (by rw [bD_stop HD.out hmj hbm.out.symm]) HM3.out)
                go_wp2_with fail
                go_roundw
                case rel => exact ⟨q, _, by omega, rfl, by go_num, HEx.out, HB3.out⟩
                case measure => simp [intOf] <;> omega
            · obtain rfl : m = j := by omega
              have HEx := Lib.hid (HNX.out b _ (by rw [hbm.out, bD_end HD.out]) HM3.out)
              go_wp2_with fail
              go_roundw
              case rel => exact ⟨q, _, by omega, rfl, by go_num, HEx.out, HB3.out⟩
              case measure => simp [intOf] <;> omega
        · go_upto_region 9 with (go_at_call 41; refine (HD1.out _ hb).mono ?_; rintro e w2 ⟨rfl, hB2⟩; obtain ⟨c1, f1⟩ := (HM.out.later hB2).cell (k := q) (by omega))
          have HM2 : Hid (MkIn w (fun k => sD D j (q + 1) k || (k == q && bD D j q (q + 1))) t.length (w2.setCell ⟨w.heap.size + 1, q, none⟩ (.int .i64 1))) := Lib.hid (((HM.out.later hB2).put (by omega)).congr fun k hk => by rw [bD_first HD.out, hb]; simp)
          have HB2 : Hid (PbAt w #[v0, v1, v2, .slice ca chans.length ccap, v4, v5, v6] (w2.setCell ⟨w.heap.size + 1, q, none⟩ (.int .i64 1))) := Lib.hid ((HB.out.later hB2).set)
          clear hb hB2 f1 c1
          generalize w2.setCell ⟨w.heap.size + 1, q, none⟩ (.int .i64 1) = w3 at *
          go_wp2_with fail
          go_loopw [9] (fun k' u => ∃ (m : Nat) (b : Bool), q + 1 ≤ m ∧ m ≤ j ∧ k' = .int .i64 m ∧ Hid (b = bD D j q m) ∧ MkIn w (fun k => sD D j (q + 1) k || (k == q && b)) t.length u ∧ PbAt w #[v0, v1, v2, .slice ca chans.length ccap, v4, v5, v6] u) (fun k' _ => j - (intOf k').toNat)
          case atStart => exact ⟨q + 1, _, Nat.le_refl _, hqj, by go_num, Lib.hid rfl, HM2.out, HB2.out⟩
          case round =>
            obtain ⟨m, b, hqm, hmj, rfl, hbm, hM3, hB3⟩ := hrel
            have HM3 := Lib.hid hM3
            have HB3 := Lib.hid hB3
            clear hM3 hB3
            have hcq := (HM3.out.cell (k := q) (by omega)).1
            rw [HS0.out, Bool.false_or, beq_self_eq_true, Bool.true_and] at hcq
            by_cases hlt : m < j
            · have hlt' : (m : Int) < (j : Int) := by omega
              have hmt : (m : Int) < (t.length : Int) := by omega
              rcases b with _ | _
              · have hcm := (HM3.out.cell (k := m) (by omega)).1
                rw [Bool.and_false, Bool.or_false] at hcm
                simp only [Bool.false_eq_true, if_false] at hcq
                rcases hs : sD D j (q + 1) m with _ | _
                · rw [hs] at hcm
                  simp only [Bool.false_eq_true, if_false] at hcm
                  have HBM : Hid (false = bD D j q (m + 1)) := Lib.hid (by rw [bD_succ, ← hbm.out, hs]; rfl)
                  clear hs
                  go_wp2_with fail
                  go_roundw
                  case rel => exact ⟨m + 1, false, by omega, by omega, by go_num, HBM, HM3.out, HB3.out⟩
                  case measure => simp [intOf] <;> omega
                · rw [hs] at hcm
                  simp only [if_true] at hcm
                  obtain ⟨p0, p1, p2, p3, p4, p5, p6⟩ := box7R HB3.out
                  have HD2 := Lib.hid (fun b hb => HDI2.out _ HM3.out.2.1 q m b (by omega) (by omega) hb)
                  rcases hb2 : D q m with _ | _
                  · have HBM : Hid (false = bD D j q (m + 1)) := Lib.hid (by rw [bD_succ, ← hbm.out, hs, hb2]; rfl)
                    have HB2D := Lib.hid hb2
                    clear hs hb2
                    go_wp2_with (go_at_call 41; refine (HD2.out _ HB2D.out).mono ?_; rintro e w4 ⟨rfl, hB4⟩)
                    go_roundw
                    case rel => exact ⟨m + 1, false, by omega, by omega, by go_num, HBM, HM3.out.later hB4, HB3.out.later hB4⟩
                    case measure => simp [intOf] <;> omega
                  · have HBM : Hid (true = bD D j q (m + 1)) := Lib.hid (by rw [bD_succ, ← hbm.out, hs, hb2]; rfl)
                    have HB2D := Lib.hid hb2
                    clear hs hb2
                    go_wp2_with (go_at_call 41; refine (HD2.out _ HB2D.out).mono ?_; rintro e w4 ⟨rfl, hB4⟩; obtain ⟨c4, f4⟩ := (HM3.out.later hB4).cell (k := q) (by omega))
                    go_roundw
                    case rel => exact ⟨m + 1, true, by omega, by omega, by go_num, HBM, ((HM3.out.later hB4).put (q := q) (by omega)).congr (fun k _ => by simp), (HB3.out.later hB4).set⟩
                    case measure => simp [intOf] <;> omega
              · simp only [if_true] at hcq
                have HEx := Lib.hid (HNX.out true _ (by rw [bD_stop HD.out hmj hbm.out.symm]) HM3.out)
                go_wp2_with fail
                go_roundw
                case rel => exact ⟨q, _, by omega, rfl, by go_num, HEx.out, HB3.out⟩
                case measure => simp [intOf] <;> omega
            · obtain rfl : m = j := by omega
              have HEx := Lib.hid (HNX.out b _ (by rw [hbm.out, bD_end HD.out]) HM3.out)
              go_wp2_with fail
              go_roundw
              case rel => exact ⟨q, _, by omega, rfl, by go_num, HEx.out, HB3.out⟩
              case measure => simp [intOf] <;> omega
  · have HF := Lib.hid (HNo.out hin)
    have HMk : ∀ u, MkIn w (fun _ => false) t.length u → MarksE chans t j w (.returned (.slice (some ⟨w.heap.size + 1, 0, none⟩) t.length t.length)) u := fun u h =>
      ⟨w.heap.size + 1, rfl, (h.congr fun k _ => (HF.out k).symm).1, h.2.1⟩
    have HMK := Lib.hid HMk
    have HW1 : Hid (∀ w1 : World, w1.ownsRow (w.heap.size + 1) 3 1 (.slice (some ⟨w.heap.size + 1, 0, none⟩) t.length t.length) t.length (madeCells (Value.int .i64 0).cells (t.length * 1)).toList → (World.alloc w (.cells #[v0, v1, v2, .slice ca chans.length ccap, v4, v5, v6] 26)).grownBy w1 none → MkIn w (fun _ => false) t.length w1) := Lib.hid fun w1 hown hgrow => by
      rw [made_intR, mkI_zero] at hown
      refine ⟨own_base hown (by omega), below_next (below_box _ _) (below_madeR hgrow), ?_⟩
      rcases hown.2 with ⟨h0, _⟩ | ⟨g', c', cur, e', hb, hh, _⟩
      · cases h0
      · cases e'; exact (Array.getElem?_eq_some_iff.1 hh).1
    clear HMk HNo HF HDI
    by_cases h0 : j < 0
    · have h0' : decide (j < 0) = true := decide_eq_true h0
      go_enter Tryz.func24, Tryz.ntmps24
      go_wp2_with (refine wpList_make_full _ rfl _ _ 23 rfl (w.heap.size + 1) 3 i0 _ 1 Tryz.underlying23 hi0 hz0 hz1 .i64 .i64 _ _ t.length rfl rfl rfl rfl (by rw [hz2]; omega) (by unfold maxLen; omega) (by simp) ?_; intro w1 hown hgrow; rw [hsz] at hown; (try rw [hsz]); have HN := Lib.hid (HW1.out w1 hown hgrow); clear hown hgrow)
      go_ret
      exact HMK.out _ HN.out
    · have h0' : decide (j < 0) = false := decide_eq_false h0
      have h1' : decide ((t.length : Int) ≤ j) = true := decide_eq_true (by omega)
      go_enter Tryz.func24, Tryz.ntmps24
      go_wp2_with (refine wpList_make_full _ rfl _ _ 23 rfl (w.heap.size + 1) 3 i0 _ 1 Tryz.underlying23 hi0 hz0 hz1 .i64 .i64 _ _ t.length rfl rfl rfl rfl (by rw [hz2]; omega) (by unfold maxLen; omega) (by simp) ?_; intro w1 hown hgrow; rw [hsz] at hown; (try rw [hsz]); have HN := Lib.hid (HW1.out w1 hown hgrow); clear hown hgrow)
      go_ret
      exact HMK.out _ HN.out
theorem rbefore_any (v0 v1 v2 : Value) (ca : Option Addr) (ccap : Nat) (chans : List Int) (v4 v5 v6 : Value) (a : Option Addr) (cap : Nat) (t : List EvD) (i j : Int) (w : World) (hc : ChIn w ca chans) (he : EvsIn w w.heap.size a t) (hl : t.length ≤ 1000000) (hv : (#[v0, v1, v2, .slice ca chans.length ccap, v4, v5, v6] : Array Value).all (·.oneCell') = true) :
    Calls Tryz.prog 9 #[.agg #[v0, v1, v2, .slice ca chans.length ccap, v4, v5, v6], .slice a t.length cap, .int .i64 i, .int .i64 j] w fun e w' => e = .returned (.bool (befI chans t i j)) ∧ Below w.heap.size w w' := by
  have HC := Lib.hid hc
  have HE := Lib.hid he
  have HVV := Lib.hid hv
  clear hc he
  simp only [List.all_toArray, List.all_cons, List.all_nil, Bool.and_true, Bool.and_eq_true] at hv
  obtain ⟨o0, o1, o2, o3, o4, o5, o6⟩ := hv
  rcases hr : riseB i j t.length with _ | _
  · have HF : Hid (befI chans t i j = false) := Lib.hid (by unfold befI; rw [hr]; rfl)
    have hn : ¬ (0 ≤ i ∧ i < j ∧ j < t.length) := by rw [← riseB_iff, hr]; simp
    by_cases q0 : i < 0
    · have q0' : decide (i < 0) = true := decide_eq_true q0
      go_enter Tryz.func9, Tryz.ntmps9
      go_wp2
      go_ret
      exact ⟨by rw [HF.out]; rfl, below_box _ _⟩
    · have q0' : decide (i < 0) = false := decide_eq_false q0
      by_cases q1 : j ≤ i
      · have q1' : decide (j ≤ i) = true := decide_eq_true q1
        go_enter Tryz.func9, Tryz.ntmps9
        go_wp2
        go_ret
        exact ⟨by rw [HF.out]; rfl, below_box _ _⟩
      · have q1' : decide (j ≤ i) = false := decide_eq_false q1
        have q2' : decide ((t.length : Int) ≤ j) = true := decide_eq_true (by omega)
        go_enter Tryz.func9, Tryz.ntmps9
        go_wp2
        go_ret
        exact ⟨by rw [HF.out]; rfl, below_box _ _⟩
  · obtain ⟨r1, r2, r3⟩ := riseB_iff.1 hr
    obtain ⟨i, rfl⟩ : ∃ k : Nat, i = k := ⟨i.toNat, by omega⟩
    obtain ⟨j, rfl⟩ : ∃ k : Nat, j = k := ⟨j.toNat, by omega⟩
    have q0' : decide ((i : Int) < 0) = false := decide_eq_false (by omega)
    have q1' : decide ((j : Int) ≤ (i : Int)) = false := decide_eq_false (by omega)
    have q2' : decide ((t.length : Int) ≤ (j : Int)) = false := decide_eq_false (by omega)
    have q1n : decide (j ≤ i) = false := decide_eq_false (by omega)
    have q2n : decide (t.length ≤ j) = false := decide_eq_false (by omega)
    have hit : (i : Int) < (t.length : Int) := by omega
    have HM := Lib.hid (fun W (hB : Below w.heap.size w W) => marks_any v0 v1 v2 ca ccap chans v4 v5 v6 a cap t j W (HC.out.later hB) (HE.out.later hB) hl HVV.out)
    have HB0 := Lib.hid (below_box w (.cells #[v0, v1, v2, .slice ca chans.length ccap, v4, v5, v6] 26))
    clear hr r1 r2
    rcases hb : befI chans t i j with _ | _
    all_goals
      have HBq := Lib.hid hb
      clear hb
      go_enter Tryz.func9, Tryz.ntmps9
      go_wp2_with (go_at_call 24; refine (HM.out _ HB0.out).mono ?_; rintro e w1 ⟨g, rfl, ho, hB1⟩; have c1 := ho.cellAt i (by omega); rw [List.getElem?_map, mkI_at _ (by omega), HBq.out] at c1; simp only [Option.map_some, if_true, Bool.false_eq_true, if_false] at c1)
      go_ret
      exact ⟨rfl, below_next HB0.out hB1⟩
end Go.Proofs.YtglafbajbiengaaGreat
