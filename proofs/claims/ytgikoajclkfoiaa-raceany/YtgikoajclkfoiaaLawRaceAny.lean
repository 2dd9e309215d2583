/- RaceAny: a race is told just if any two events that conflict are in no order; each that is told is such a pair; for every input. -/
import Derived.Test.YtgikoajclkfoiaaRaceAnyM
import Derived.Test.YtgikoajclkfoiaaRefOrd4
import Derived.Test.YtgikoajclkfoiaaRaceSame
import Derived.Test.YtgikoajclkfoiaaRaceOpenRaws
import Derived.Deep.RegionHeld3
import Derived.ChangeMaps5
namespace Go.Proofs.Ytgikoajclkfoiaa
set_option linter.unusedVariables false
set_option linter.unusedSimpArgs false
open Go.ChangeShapes Go.WideShapes Go.ChangeAt Go.RowKit Go.Maps

def c11 : List Int := [1, 1]
def FindR (L : List (Int × Int)) (w : World) (e : Ending) (W' : World) : Prop := ∃ a cap, e = .returned (.slice a L.length cap) ∧ RcIn W' a L ∧ Below w.heap.size w W'
set_option maxRecDepth 100000 in
theorem findR_any (v0 v1 v2 : Value) (ca : Option Addr) (cc : Nat) (chans : List Int) (v4 v5 v6 : Value) (a : Option Addr) (cap : Nat) (t : List EvD) (w : World) (hc : ChIn w ca chans) (he : EvsIn w w.heap.size a t) (hW : ∀ e ∈ t, EvW e) (hl : t.length ≤ 1000) (hv : (#[v0, v1, v2, .slice ca chans.length cc, v4, v5, v6] : Array Value).all (·.oneCell') = true) :
    Calls Try.prog 13 #[.agg #[v0, v1, v2, .slice ca chans.length cc, v4, v5, v6], .slice a t.length cap] w (FindR (racesL chans t) w) := by
  refine (find_any v0 v1 v2 ca cc chans v4 v5 v6 a cap t w he hW hc (by omega) hv).mono ?_
  rintro e w' ⟨v, rfl, ho, hB⟩
  obtain ⟨x, c, rfl, _, hr⟩ := rcIn_own ho
  exact ⟨x, c, rfl, hr, hB⟩
set_option maxRecDepth 100000 in
set_option maxHeartbeats 16000000 in
theorem raceAny_walk (ra : Option Addr) (rc : Nat) (l : List (Nat × Nat)) (w : World) (h : RawIn w ra l) (hl : l.length ≤ 9223372036854775807) :
    Calls Try.prog 5 #[.slice ra l.length rc] w fun e w' => e = .returned (.bool true) ∧ Below w.heap.size w w' := by
  have HT := Lib.hid (fun V (hB : Below w.heap.size w V) => trace_any ra rc l V ⟨fun k p hk => by
    obtain ⟨g, o, e, hg, c0, c1⟩ := h.cell k p hk
    exact ⟨g, o, e, Nat.lt_of_lt_of_le hg hB.size, (hB.cell (p := ⟨g, o + k * 2, none⟩) hg).trans c0, (hB.cell (p := ⟨g, o + k * 2 + 1, none⟩) hg).trans c1⟩, h.wf⟩ hl)
  have HKW := Lib.hid (fun V => known8_any V)
  clear h
  go_enter Try.func5, Try.ntmps5
  go_upto_region 2 with (fail)
  generalize hV0 : World.alloc (World.alloc w _) _ = V0
  have n1 := (congrArg (fun x : World => x.heap[w.heap.size]?) hV0).symm.trans ((Below.heap_alloc _ _ _ (by simp)).trans (heap_alloc_new _ _))
  have n2 := (congrArg (fun x : World => x.heap[w.heap.size + 1]?) hV0).symm.trans (heap_alloc2_new _ _ _)
  have HV0 := Lib.hid (show Below w.heap.size w V0 by rw [← hV0]; exact below_two _ _ _)
  have HN1 := Lib.hid n1
  have HN2 := Lib.hid n2
  have HT0 := Lib.hid (HT.out V0 HV0.out)
  clear hV0 n1 n2 HT
  go_upto_region 3 with (go_at_call 11; refine HT0.out.mono ?_; rintro e V1 ⟨v, rfl, xa, xc, rfl, hxc, hxo, hxB⟩)
  have HXB := Lib.hid hxB
  have HCH : Hid (ChIn V1 (some ⟨w.heap.size, 0, none⟩) c11) := Lib.hid (by
    refine ChIn.later ⟨fun i x hx => ?_, by simp [c11], by intro c hc; simp [c11] at hc; rcases hc with rfl | rfl <;> omega⟩ hxB
    match i, hx with
    | 0, hx => cases hx; exact ⟨_, 0, rfl, (Array.getElem?_eq_some_iff.1 HN1.out).1, cell_of_row _ _ 0 _ _ _ HN1.out⟩
    | 1, hx => cases hx; exact ⟨_, 0, rfl, (Array.getElem?_eq_some_iff.1 HN1.out).1, cell_of_row _ _ 1 _ _ _ HN1.out⟩
    | i + 2, hx => simp [c11] at hx)
  have HEV := Lib.hid (evsIn_own hxo)
  have htl : (trL l).length ≤ 25 := by rw [trL_len]; omega
  have HWF := Lib.hid (trL_wf l)
  have HFT := Lib.hid (fits_tr l)
  have HBV := Lib.hid (below_next HV0.out HXB.out)
  have HPB := Lib.hid (old_later HN2.out HXB.out)
  have HW8 : V1.heap.size ≥ w.heap.size := HBV.out.size
  generalize trL l = tr at *
  have one : (#[Value.int .i64 0, .int .i64 0, .int .i64 0, .slice (some ⟨w.heap.size, 0, none⟩) c11.length 2, .int .i64 0, .int .i64 0, .slice none 0 0] : Array Value).all (·.oneCell') = true := by simp [Value.oneCell']
  have HMk := Lib.hid (fun V (hB : Below V1.heap.size V1 V) (j : Nat) => marks_any (.int .i64 0) (.int .i64 0) (.int .i64 0) (some ⟨w.heap.size, 0, none⟩) 2 c11 (.int .i64 0) (.int .i64 0) (.slice none 0 0) xa xc tr j V (HCH.out.later hB) (HEV.out.later hB) (by omega) one)
  have HFd := Lib.hid (fun V (hB : Below V1.heap.size V1 V) => findR_any (.int .i64 0) (.int .i64 0) (.int .i64 0) (some ⟨w.heap.size, 0, none⟩) 2 c11 (.int .i64 0) (.int .i64 0) (.slice none 0 0) xa xc tr V (HCH.out.later hB) (HEV.out.later hB) HWF.out (by omega) one)
  have HRy := Lib.hid (fun V (hB : Below V1.heap.size V1 V) => racy_any (.int .i64 0) (.int .i64 0) (.int .i64 0) (some ⟨w.heap.size, 0, none⟩) 2 c11 (.int .i64 0) (.int .i64 0) (.slice none 0 0) xa xc tr V (HEV.out.later hB) HWF.out (HCH.out.later hB) (by omega) one)
  have HBf := Lib.hid (fun V (hB : Below V1.heap.size V1 V) (i j : Nat) (hi : i < j) (hj : j < tr.length) (hb : befB (dirB c11 tr) i j = false) => (show Calls Try.prog 18 _ V fun e w' => e = .returned (.bool false) ∧ Below V.heap.size V w' from by
    have h := rbefore_any (.int .i64 0) (.int .i64 0) (.int .i64 0) (some ⟨w.heap.size, 0, none⟩) 2 c11 (.int .i64 0) (.int .i64 0) (.slice none 0 0) xa xc tr i j V (HCH.out.later hB) (HEV.out.later hB) (by omega) one
    have e0 : befI c11 tr (i : Int) (j : Int) = false := by
      unfold befI; rw [riseB_iff.2 ⟨by omega, by omega, by omega⟩]; simpa using hb
    rw [e0] at h
    exact h))
  have HEach := Lib.hid (fun (p : Int × Int) (hp : p ∈ racesL c11 tr) => races_each HCH.out.wf HFT.out hp)
  have HAny := Lib.hid (races_any HCH.out.wf HFT.out)
  have HRl := Lib.hid (racesL_len c11 tr)
  have HMI := Lib.hid (fun (i j : Nat) (hi : i < j) (hj : j < tr.length) => (show befI c11 tr (i : Int) (j : Int) = befB (dirB c11 tr) i j from by
    unfold befI; rw [riseB_iff.2 ⟨by omega, by omega, by omega⟩]; simp))
  clear hxo hxB HN1 HN2 HT0 HXB one HFT HWF HCH HV0
  unfold FindR at HFd
  generalize racesL c11 tr = L at *
  have hLl : L.length ≤ 1000 := by have := HRl.out; omega
  have mixed : Try.prog.follows Departure.mixedOrders = true := by kernel_rfl
  have HL0 := Lib.hid (Below.refl V1.heap.size V1)
  go_wp2_with fail
  go_loopw [5, 6] (fun c j u => ∃ q : Nat, q ≤ tr.length ∧ j = .int .i64 q ∧ c = .bool (anyB c11 tr q) ∧ Below V1.heap.size V1 u) (fun c j _ => tr.length - (intOf j).toNat)
  case atStart => exact ⟨0, Nat.zero_le _, rfl, rfl, HL0.out⟩
  case round =>
    obtain ⟨q, hq, rfl, rfl, hB⟩ := hrel
    have HB := Lib.hid hB
    clear hB
    by_cases hlt : q < tr.length
    · obtain ⟨e, hx⟩ := at_lt hlt
      have hlt' : (q : Int) < (tr.length : Int) := by omega
      have HX := Lib.hid hx
      clear hx
      have HMk2 := Lib.hid (HMk.out _ HB.out q)
      have HNX := Lib.hid (anyB_succ c11 tr q)
      obtain ⟨p0, p1, p2, p3, p4, p5, p6⟩ := box7S (old_later HPB.out HB.out)
      generalize anyB c11 tr q = A at *
      go_upto_region 8 with (go_at_call 16; refine HMk2.out.mono ?_; rintro e6 w6 ⟨gm, rfl, hom, hBm⟩)
      have HPc : Hid (∀ i, i < q → w6.cell? ⟨gm, i, none⟩ = some (.int .i64 (if befB (dirB c11 tr) i q = true then 1 else 0))) := Lib.hid (fun i hi => by
        have c1 := hom.cellAt i (by omega)
        rw [List.getElem?_map, mkI_at _ (by omega), HMI.out i q hi hlt] at c1
        exact c1)
      have HB6 := Lib.hid (below_next HB.out hBm)
      clear hom hBm p0 p1 p2 p3 p4 p5 p6
      go_wp2_with fail
      go_loopw [5, 8] (fun c j u => ∃ d : Nat, d ≤ q ∧ j = .int .i64 d ∧ c = .bool (A || rowB c11 tr q d) ∧ Below w6.heap.size w6 u) (fun c j _ => q - (intOf j).toNat)
      case atStart => exact ⟨0, Nat.zero_le _, rfl, by simp [rowB], Below.refl _ _⟩
      case round =>
        obtain ⟨d, hd, rfl, rfl, hBd⟩ := hrel
        have HBd := Lib.hid hBd
        clear hBd
        by_cases hdq : d < q
        · have hdq' : (d : Int) < (q : Int) := by omega
          have hdt' : (d : Int) < (tr.length : Int) := by omega
          have hqt' : (q : Int) < (tr.length : Int) := by omega
          obtain ⟨e', hx'⟩ := at_lt (l := tr) (k := d) (by omega)
          have HR2 := Lib.hid (rowB_succ c11 tr q d)
          have HO1 := Lib.hid (show oneB c11 tr q d = (cfB e' e && !befB (dirB c11 tr) d q) by unfold oneB; rw [cB_at hx' HX.out])
          rcases hab : (A || rowB c11 tr q d) with _ | _
          · have hEW := HEV.out.later (below_next HB6.out HBd.out)
            obtain ⟨g1, o1, ea, hg1, hE1⟩ := hEW d e' hx'
            cases ea
            obtain ⟨g2, o2, ea, hg2, hE2⟩ := hEW q e HX.out
            cases ea
            have HE1 := Lib.hid hE1
            have HE2 := Lib.hid hE2
            clear hE1 hE2 hEW hx'
            have HCF := Lib.hid (conflict_any e' e)
            have HPd := Lib.hid (HPc.out d hdq)
            generalize cfB e' e = CB at *
            generalize befB (dirB c11 tr) d q = BB at *
            have HNe : Hid ((A || rowB c11 tr q (d + 1)) = (CB && !BB)) := Lib.hid (by rw [HR2.out, ← Bool.or_assoc, hab, HO1.out, Bool.false_or])
            clear hab
            obtain ⟨th, pc, op, obj, val, mode⟩ := e
            obtain ⟨th', pc', op', obj', val', mode'⟩ := e'
            have HKX : Hid (∀ u : World, Below wr.heap.size wr u → (u.cell? ⟨g1, o1 + d * 6, none⟩ = some (.int .i64 th') ∧ u.cell? ⟨g1, o1 + d * 6 + 1, none⟩ = some (.int .i64 pc') ∧ u.cell? ⟨g1, o1 + d * 6 + 2, none⟩ = some (.int .u8 op') ∧ u.cell? ⟨g1, o1 + d * 6 + 3, none⟩ = some (.int .i64 obj') ∧ u.cell? ⟨g1, o1 + d * 6 + 4, none⟩ = some (.int .i64 val') ∧ u.cell? ⟨g1, o1 + d * 6 + 5, none⟩ = some (.int .i64 mode') ∧ u.cell? ⟨g1, o1 + q * 6, none⟩ = some (.int .i64 th) ∧ u.cell? ⟨g1, o1 + q * 6 + 1, none⟩ = some (.int .i64 pc) ∧ u.cell? ⟨g1, o1 + q * 6 + 2, none⟩ = some (.int .u8 op) ∧ u.cell? ⟨g1, o1 + q * 6 + 3, none⟩ = some (.int .i64 obj) ∧ u.cell? ⟨g1, o1 + q * 6 + 4, none⟩ = some (.int .i64 val) ∧ u.cell? ⟨g1, o1 + q * 6 + 5, none⟩ = some (.int .i64 mode) ∧ u.cell? ⟨gm, d, none⟩ = some (.int .i64 (if BB = true then 1 else 0)))) := Lib.hid (fun u hB => by
              obtain ⟨a0, a1, a2, a3, a4, a5⟩ := HE1.out.later hB
              obtain ⟨b0, b1, b2, b3, b4, b5⟩ := HE2.out.later hB
              exact ⟨a0, a1, a2, a3, a4, a5, b0, b1, b2, b3, b4, b5, ((below_next HBd.out hB).cell (p := ⟨gm, d, none⟩) (cell_lt HPd.out)).trans HPd.out⟩)
            have HL := Lib.hid (Below.refl wr.heap.size wr).drew
            rcases CB with _ | _
            · go_upto_region 11 with (fail)
              have KX := HKX.out _ HL.out
              refine wp_region_held_drew (S := (fun u => u.cell? ⟨g1, o1 + d * 6, none⟩ = some (.int .i64 th') ∧ u.cell? ⟨g1, o1 + d * 6 + 1, none⟩ = some (.int .i64 pc') ∧ u.cell? ⟨g1, o1 + d * 6 + 2, none⟩ = some (.int .u8 op') ∧ u.cell? ⟨g1, o1 + d * 6 + 3, none⟩ = some (.int .i64 obj') ∧ u.cell? ⟨g1, o1 + d * 6 + 4, none⟩ = some (.int .i64 val') ∧ u.cell? ⟨g1, o1 + d * 6 + 5, none⟩ = some (.int .i64 mode') ∧ u.cell? ⟨g1, o1 + q * 6, none⟩ = some (.int .i64 th) ∧ u.cell? ⟨g1, o1 + q * 6 + 1, none⟩ = some (.int .i64 pc) ∧ u.cell? ⟨g1, o1 + q * 6 + 2, none⟩ = some (.int .u8 op) ∧ u.cell? ⟨g1, o1 + q * 6 + 3, none⟩ = some (.int .i64 obj) ∧ u.cell? ⟨g1, o1 + q * 6 + 4, none⟩ = some (.int .i64 val) ∧ u.cell? ⟨g1, o1 + q * 6 + 5, none⟩ = some (.int .i64 mode) ∧ u.cell? ⟨gm, d, none⟩ = some (.int .i64 (if BB = true then 1 else 0)))) mixed KX (fun hHeld => ?_)
              refine take_val 0 32 (.bool false) (by kernel_rfl) (by kernel_rfl) (by kernel_rfl) (by kernel_rfl) (fun w => by kernel_rfl) (fun _ _ _ h => h) (by assumption) ?_
              (try simp only [Act.put, List.setIfInBounds_toArray, List.set_cons_zero, List.set_cons_succ])
              refine take_val 1 33 (.bool false) (by kernel_rfl) (by kernel_rfl) (by kernel_rfl) (by kernel_rfl) (fun w => by kernel_rfl) (fun _ _ _ h => h) (by assumption) ?_
              (try simp only [Act.put, List.setIfInBounds_toArray, List.set_cons_zero, List.set_cons_succ])
              refine take_val 2 34 (.slice (some ⟨g1, o1, none⟩) tr.length xc) (by kernel_rfl) (by kernel_rfl) (by kernel_rfl) (by kernel_rfl) (fun w => by kernel_rfl) (fun _ _ _ h => h) (by assumption) ?_
              (try simp only [Act.put, List.setIfInBounds_toArray, List.set_cons_zero, List.set_cons_succ])
              refine take_val 3 35 (.int .i64 (d : Int)) (by kernel_rfl) (by kernel_rfl) (by kernel_rfl) (by kernel_rfl) (fun w => by kernel_rfl) (fun _ _ _ h => h) (by assumption) ?_
              (try simp only [Act.put, List.setIfInBounds_toArray, List.set_cons_zero, List.set_cons_succ])
              refine take_at 4 36 (.pointer (some ⟨g1, o1 + d * 6, none⟩)) rfl rfl (by kernel_rfl) (by kernel_rfl) (by kernel_rfl) (by kernel_rfl) ?_ (fun _ _ _ h => h) (by assumption) ?_
              · intro w hSw; (try dsimp only at hSw); go_simp; try (with_reducible rfl)
              (try simp only [Act.put, List.setIfInBounds_toArray, List.set_cons_zero, List.set_cons_succ])
              refine take_at 5 37 (.agg #[.int .i64 th', .int .i64 pc', .int .u8 op', .int .i64 obj', .int .i64 val', .int .i64 mode']) rfl rfl (by kernel_rfl) (by kernel_rfl) (by kernel_rfl) (by kernel_rfl) ?_ (fun _ _ _ h => h) (by assumption) ?_
              · intro w hSw; (try dsimp only at hSw); go_simp; try (with_reducible rfl)
              (try simp only [Act.put, List.setIfInBounds_toArray, List.set_cons_zero, List.set_cons_succ])
              refine take_val 6 38 (.slice (some ⟨g1, o1, none⟩) tr.length xc) (by kernel_rfl) (by kernel_rfl) (by kernel_rfl) (by kernel_rfl) (fun w => by kernel_rfl) (fun _ _ _ h => h) (by assumption) ?_
              (try simp only [Act.put, List.setIfInBounds_toArray, List.set_cons_zero, List.set_cons_succ])
              refine take_val 7 39 (.int .i64 (q : Int)) (by kernel_rfl) (by kernel_rfl) (by kernel_rfl) (by kernel_rfl) (fun w => by kernel_rfl) (fun _ _ _ h => h) (by assumption) ?_
              (try simp only [Act.put, List.setIfInBounds_toArray, List.set_cons_zero, List.set_cons_succ])
              refine take_at 8 40 (.pointer (some ⟨g1, o1 + q * 6, none⟩)) rfl rfl (by kernel_rfl) (by kernel_rfl) (by kernel_rfl) (by kernel_rfl) ?_ (fun _ _ _ h => h) (by assumption) ?_
              · intro w hSw; (try dsimp only at hSw); go_simp; try (with_reducible rfl)
              (try simp only [Act.put, List.setIfInBounds_toArray, List.set_cons_zero, List.set_cons_succ])
              refine take_at 9 41 (.agg #[.int .i64 th, .int .i64 pc, .int .u8 op, .int .i64 obj, .int .i64 val, .int .i64 mode]) rfl rfl (by kernel_rfl) (by kernel_rfl) (by kernel_rfl) (by kernel_rfl) ?_ (fun _ _ _ h => h) (by assumption) ?_
              · intro w hSw; (try dsimp only at hSw); go_simp; try (with_reducible rfl)
              (try simp only [Act.put, List.setIfInBounds_toArray, List.set_cons_zero, List.set_cons_succ])
              refine wpAnyH_ready (rs := [10]) (by kernel_rfl) (by simp) ?_
              refine AllReadyH.cons (o := _) rfl (fun K hK => ?_) AllReadyH.nil
              go_simp
              go_at_call 17; refine (HCF.out _).mono ?_; rintro e5 w5 ⟨rfl, hB⟩; have HL := Lib.hid (below_next HL.out hB); have KX := HKX.out _ HL.out; clear hB
              try go_simp
              refine hK.out _ _ KX (fun hHeld => ?_)
              clear hK K
              (try simp only [Act.put, List.setIfInBounds_toArray, List.set_cons_zero, List.set_cons_succ])
              refine take_val 11 43 (.bool false) (by kernel_rfl) (by kernel_rfl) (by kernel_rfl) (by kernel_rfl) (fun w => by kernel_rfl) (fun _ _ _ h => h) (by assumption) ?_
              (try simp only [Act.put, List.setIfInBounds_toArray, List.set_cons_zero, List.set_cons_succ])
              refine take_skip 12 44 (by kernel_rfl) (by kernel_rfl) (by kernel_rfl) (by kernel_rfl) (fun _ _ _ h => h) (by assumption) ?_
              (try simp only [Act.put, List.setIfInBounds_toArray, List.set_cons_zero, List.set_cons_succ])
              refine take_skip 13 45 (by kernel_rfl) (by kernel_rfl) (by kernel_rfl) (by kernel_rfl) (fun _ _ _ h => h) (by assumption) ?_
              (try simp only [Act.put, List.setIfInBounds_toArray, List.set_cons_zero, List.set_cons_succ])
              refine take_skip 14 46 (by kernel_rfl) (by kernel_rfl) (by kernel_rfl) (by kernel_rfl) (fun _ _ _ h => h) (by assumption) ?_
              (try simp only [Act.put, List.setIfInBounds_toArray, List.set_cons_zero, List.set_cons_succ])
              refine take_skip 15 47 (by kernel_rfl) (by kernel_rfl) (by kernel_rfl) (by kernel_rfl) (fun _ _ _ h => h) (by assumption) ?_
              (try simp only [Act.put, List.setIfInBounds_toArray, List.set_cons_zero, List.set_cons_succ])
              refine take_skip 16 48 (by kernel_rfl) (by kernel_rfl) (by kernel_rfl) (by kernel_rfl) (fun _ _ _ h => h) (by assumption) ?_
              (try simp only [Act.put, List.setIfInBounds_toArray, List.set_cons_zero, List.set_cons_succ])
              refine take_val 17 49 (.bool false) (by kernel_rfl) (by kernel_rfl) (by kernel_rfl) (by kernel_rfl) (fun w => by kernel_rfl) (fun _ _ _ h => h) (by assumption) ?_
              (try simp only [Act.put, List.setIfInBounds_toArray, List.set_cons_zero, List.set_cons_succ])
              refine take_val 18 50 (.bool false) (by kernel_rfl) (by kernel_rfl) (by kernel_rfl) (by kernel_rfl) (fun w => by kernel_rfl) (fun _ _ _ h => h) (by assumption) ?_
              (try simp only [Act.put, List.setIfInBounds_toArray, List.set_cons_zero, List.set_cons_succ])
              refine take_val 19 5 (.bool false) (by kernel_rfl) (by kernel_rfl) (by kernel_rfl) (by kernel_rfl) (fun w => by kernel_rfl) (fun _ _ _ h => h) (by assumption) ?_
              (try simp only [Act.put, List.setIfInBounds_toArray, List.set_cons_zero, List.set_cons_succ])
              refine wpAnyH_done (by kernel_rfl) ?_ _
              go_wp2_with fail
              go_roundw
              case rel => exact ⟨d + 1, by omega, by go_num, by rw [HNe.out]; rfl, below_next HBd.out HL.out⟩
              case measure => simp [intOf]; omega
            · rcases BB with _ | _
              · simp only [if_true, Bool.false_eq_true, if_false] at HKX
                go_upto_region 11 with (fail)
                have KX := HKX.out _ HL.out
                go_region_held3 (fun u => u.cell? ⟨g1, o1 + d * 6, none⟩ = some (.int .i64 th') ∧ u.cell? ⟨g1, o1 + d * 6 + 1, none⟩ = some (.int .i64 pc') ∧ u.cell? ⟨g1, o1 + d * 6 + 2, none⟩ = some (.int .u8 op') ∧ u.cell? ⟨g1, o1 + d * 6 + 3, none⟩ = some (.int .i64 obj') ∧ u.cell? ⟨g1, o1 + d * 6 + 4, none⟩ = some (.int .i64 val') ∧ u.cell? ⟨g1, o1 + d * 6 + 5, none⟩ = some (.int .i64 mode') ∧ u.cell? ⟨g1, o1 + q * 6, none⟩ = some (.int .i64 th) ∧ u.cell? ⟨g1, o1 + q * 6 + 1, none⟩ = some (.int .i64 pc) ∧ u.cell? ⟨g1, o1 + q * 6 + 2, none⟩ = some (.int .u8 op) ∧ u.cell? ⟨g1, o1 + q * 6 + 3, none⟩ = some (.int .i64 obj) ∧ u.cell? ⟨g1, o1 + q * 6 + 4, none⟩ = some (.int .i64 val) ∧ u.cell? ⟨g1, o1 + q * 6 + 5, none⟩ = some (.int .i64 mode) ∧ u.cell? ⟨gm, d, none⟩ = some (.int .i64 0)) (first | with_reducible exact KX | fail)
                  (first | (go_at_call 17; refine (HCF.out _).mono ?_; rintro e5 w5 ⟨rfl, hB⟩; have HL := Lib.hid (below_next HL.out hB); have KX := HKX.out _ HL.out; clear hB))
                go_wp2_with fail
                go_roundw
                case rel => exact ⟨d + 1, by omega, by go_num, by rw [HNe.out]; rfl, below_next HBd.out HL.out⟩
                case measure => simp [intOf]; omega
              · simp only [if_true, Bool.false_eq_true, if_false] at HKX
                go_upto_region 11 with (fail)
                have KX := HKX.out _ HL.out
                go_region_held3 (fun u => u.cell? ⟨g1, o1 + d * 6, none⟩ = some (.int .i64 th') ∧ u.cell? ⟨g1, o1 + d * 6 + 1, none⟩ = some (.int .i64 pc') ∧ u.cell? ⟨g1, o1 + d * 6 + 2, none⟩ = some (.int .u8 op') ∧ u.cell? ⟨g1, o1 + d * 6 + 3, none⟩ = some (.int .i64 obj') ∧ u.cell? ⟨g1, o1 + d * 6 + 4, none⟩ = some (.int .i64 val') ∧ u.cell? ⟨g1, o1 + d * 6 + 5, none⟩ = some (.int .i64 mode') ∧ u.cell? ⟨g1, o1 + q * 6, none⟩ = some (.int .i64 th) ∧ u.cell? ⟨g1, o1 + q * 6 + 1, none⟩ = some (.int .i64 pc) ∧ u.cell? ⟨g1, o1 + q * 6 + 2, none⟩ = some (.int .u8 op) ∧ u.cell? ⟨g1, o1 + q * 6 + 3, none⟩ = some (.int .i64 obj) ∧ u.cell? ⟨g1, o1 + q * 6 + 4, none⟩ = some (.int .i64 val) ∧ u.cell? ⟨g1, o1 + q * 6 + 5, none⟩ = some (.int .i64 mode) ∧ u.cell? ⟨gm, d, none⟩ = some (.int .i64 1)) (first | with_reducible exact KX | fail)
                  (first | (go_at_call 17; refine (HCF.out _).mono ?_; rintro e5 w5 ⟨rfl, hB⟩; have HL := Lib.hid (below_next HL.out hB); have KX := HKX.out _ HL.out; clear hB))
                go_wp2_with fail
                go_roundw
                case rel => exact ⟨d + 1, by omega, by go_num, by rw [HNe.out]; rfl, below_next HBd.out HL.out⟩
                case measure => simp [intOf]; omega
          · have HNe : Hid ((A || rowB c11 tr q (d + 1)) = true) := Lib.hid (by rw [HR2.out, ← Bool.or_assoc, hab, Bool.true_or])
            clear hab hx'
            go_upto_region 11 with (fail)
            go_quiet (fail)
            go_wp2_with fail
            go_roundw
            case rel => exact ⟨d + 1, by omega, by go_num, by rw [HNe.out], below_drewN HBd.out _⟩
            case measure => simp [intOf]; omega
        · obtain rfl : d = q := by omega
          go_wp2_with fail
          go_roundw
          case rel => exact ⟨d + 1, by omega, by go_num, by rw [HNX.out], below_next HB6.out HBd.out⟩
          case measure => simp [intOf]; omega
    · obtain rfl : q = tr.length := by omega
      have HFd2 := Lib.hid (HFd.out _ HB.out)
      obtain ⟨p0, p1, p2, p3, p4, p5, p6⟩ := box7S (old_later HPB.out HB.out)
      rw [← HAny.out]
      have HD : Hid (decide (0 < L.length) = decide (L ≠ [])) := Lib.hid (by
        cases L with
        | nil => rfl
        | cons x r => simp)
      generalize hDD : decide (L ≠ []) = D at *
      have b1 : (D == D) = true := by simp
      go_upto_region 13 with (go_at_call 13; refine HFd2.out.mono ?_; rintro e6 w6 ⟨fa, fc, rfl, hrc, hB6⟩)
      have HRC := Lib.hid hrc
      have HB6 := Lib.hid (below_next HB.out hB6)
      clear hrc hB6 p0 p1 p2 p3 p4 p5 p6
      go_wp2_with fail
      go_loopw [10] (fun i u => ∃ m : Nat, m ≤ L.length ∧ i = .int .i64 m ∧ Below w6.heap.size w6 u) (fun i _ => L.length - (intOf i).toNat)
      case atStart => exact ⟨0, Nat.zero_le _, rfl, Below.refl _ _⟩
      case round =>
        obtain ⟨m, hm, rfl, hBd⟩ := hrel
        have HBd := Lib.hid hBd
        clear hBd
        by_cases hml : m < L.length
        · have hml' : (m : Int) < (L.length : Int) := by omega
          obtain ⟨x, hx⟩ := at_lt hml
          obtain ⟨d, q, rfl, hdq, hqt, hcb, hbb⟩ := HEach.out x (List.mem_of_getElem? hx)
          obtain ⟨gr, rfl, hgr, f0, f1⟩ := HRC.out.later HBd.out m _ hx
          simp only at f0 f1
          have hdq' : decide ((q : Int) ≤ (d : Int)) = false := decide_eq_false (by omega)
          have hd0' : decide ((d : Int) < 0) = false := decide_eq_false (by omega)
          have hqt' : decide ((tr.length : Int) ≤ (q : Int)) = false := decide_eq_false (by omega)
          have hdq'' : decide (q ≤ d) = false := decide_eq_false (by omega)
          have hqt'' : decide (tr.length ≤ q) = false := decide_eq_false (by omega)
          have hql' : (q : Int) < (tr.length : Int) := by omega
          have hdl' : (d : Int) < (tr.length : Int) := by omega
          obtain ⟨e, he⟩ := at_lt hqt
          obtain ⟨e', he'⟩ := at_lt (l := tr) (k := d) (by omega)
          rw [cB_at he' he] at hcb
          have HCF := Lib.hid (conflict_any e' e)
          rw [hcb] at HCF
          have HB2 := Lib.hid (fun V hB => HBf.out V hB d q hdq hqt hbb)
          have hEW := HEV.out.later (below_next HB6.out HBd.out)
          obtain ⟨g1, o1, ea, hg1, hE1⟩ := hEW d e' he'
          cases ea
          obtain ⟨g2, o2, ea, hg2, hE2⟩ := hEW q e he
          cases ea
          have HE1 := Lib.hid hE1
          have HE2 := Lib.hid hE2
          clear hE1 hE2 hEW he he' hx hcb hbb
          obtain ⟨th, pc, op, obj, val, mode⟩ := e
          obtain ⟨th', pc', op', obj', val', mode'⟩ := e'
          have HKX : Hid (∀ u : World, Below wr.heap.size wr u → (u.cell? ⟨g1, o1 + d * 6, none⟩ = some (.int .i64 th') ∧ u.cell? ⟨g1, o1 + d * 6 + 1, none⟩ = some (.int .i64 pc') ∧ u.cell? ⟨g1, o1 + d * 6 + 2, none⟩ = some (.int .u8 op') ∧ u.cell? ⟨g1, o1 + d * 6 + 3, none⟩ = some (.int .i64 obj') ∧ u.cell? ⟨g1, o1 + d * 6 + 4, none⟩ = some (.int .i64 val') ∧ u.cell? ⟨g1, o1 + d * 6 + 5, none⟩ = some (.int .i64 mode') ∧ u.cell? ⟨g1, o1 + q * 6, none⟩ = some (.int .i64 th) ∧ u.cell? ⟨g1, o1 + q * 6 + 1, none⟩ = some (.int .i64 pc) ∧ u.cell? ⟨g1, o1 + q * 6 + 2, none⟩ = some (.int .u8 op) ∧ u.cell? ⟨g1, o1 + q * 6 + 3, none⟩ = some (.int .i64 obj) ∧ u.cell? ⟨g1, o1 + q * 6 + 4, none⟩ = some (.int .i64 val) ∧ u.cell? ⟨g1, o1 + q * 6 + 5, none⟩ = some (.int .i64 mode) ∧ u.cell? ⟨w.heap.size + 1, 0, none⟩ = some (.int .i64 0) ∧ u.cell? ⟨w.heap.size + 1, 1, none⟩ = some (.int .i64 0) ∧ u.cell? ⟨w.heap.size + 1, 2, none⟩ = some (.int .i64 0) ∧ u.cell? ⟨w.heap.size + 1, 3, none⟩ = some (.slice (some ⟨w.heap.size, 0, none⟩) 2 2) ∧ u.cell? ⟨w.heap.size + 1, 4, none⟩ = some (.int .i64 0) ∧ u.cell? ⟨w.heap.size + 1, 5, none⟩ = some (.int .i64 0) ∧ u.cell? ⟨w.heap.size + 1, 6, none⟩ = some (.slice none 0 0))) := Lib.hid (fun u hB => by
            obtain ⟨a0, a1, a2, a3, a4, a5⟩ := HE1.out.later hB
            obtain ⟨b0, b1, b2, b3, b4, b5⟩ := HE2.out.later hB
            obtain ⟨p0, p1, p2, p3, p4, p5, p6⟩ := box7S (old_later HPB.out (below_next HB6.out (below_next HBd.out hB)))
            exact ⟨a0, a1, a2, a3, a4, a5, b0, b1, b2, b3, b4, b5, p0, p1, p2, p3, p4, p5, p6⟩)
          have HL := Lib.hid (Below.refl wr.heap.size wr).drew
          go_upto_region 18 with (fail)
          have KX := HKX.out _ HL.out
          go_region_held3 (fun u => u.cell? ⟨g1, o1 + d * 6, none⟩ = some (.int .i64 th') ∧ u.cell? ⟨g1, o1 + d * 6 + 1, none⟩ = some (.int .i64 pc') ∧ u.cell? ⟨g1, o1 + d * 6 + 2, none⟩ = some (.int .u8 op') ∧ u.cell? ⟨g1, o1 + d * 6 + 3, none⟩ = some (.int .i64 obj') ∧ u.cell? ⟨g1, o1 + d * 6 + 4, none⟩ = some (.int .i64 val') ∧ u.cell? ⟨g1, o1 + d * 6 + 5, none⟩ = some (.int .i64 mode') ∧ u.cell? ⟨g1, o1 + q * 6, none⟩ = some (.int .i64 th) ∧ u.cell? ⟨g1, o1 + q * 6 + 1, none⟩ = some (.int .i64 pc) ∧ u.cell? ⟨g1, o1 + q * 6 + 2, none⟩ = some (.int .u8 op) ∧ u.cell? ⟨g1, o1 + q * 6 + 3, none⟩ = some (.int .i64 obj) ∧ u.cell? ⟨g1, o1 + q * 6 + 4, none⟩ = some (.int .i64 val) ∧ u.cell? ⟨g1, o1 + q * 6 + 5, none⟩ = some (.int .i64 mode) ∧ u.cell? ⟨w.heap.size + 1, 0, none⟩ = some (.int .i64 0) ∧ u.cell? ⟨w.heap.size + 1, 1, none⟩ = some (.int .i64 0) ∧ u.cell? ⟨w.heap.size + 1, 2, none⟩ = some (.int .i64 0) ∧ u.cell? ⟨w.heap.size + 1, 3, none⟩ = some (.slice (some ⟨w.heap.size, 0, none⟩) 2 2) ∧ u.cell? ⟨w.heap.size + 1, 4, none⟩ = some (.int .i64 0) ∧ u.cell? ⟨w.heap.size + 1, 5, none⟩ = some (.int .i64 0) ∧ u.cell? ⟨w.heap.size + 1, 6, none⟩ = some (.slice none 0 0)) (first | with_reducible exact KX | fail)
            (first
              | (go_at_call 17; refine (HCF.out _).mono ?_; rintro e5 w5 ⟨rfl, hB⟩; have HL := Lib.hid (below_next HL.out hB); have KX := HKX.out _ HL.out; clear hB)
              | (go_at_call 18; refine (HB2.out _ (below_next HB6.out (below_next HBd.out HL.out))).mono ?_; rintro e5 w5 ⟨rfl, hB⟩; have HL := Lib.hid (below_next HL.out hB); have KX := HKX.out _ HL.out; clear hB))
          go_wp2_with fail
          go_roundw
          case rel => exact ⟨m + 1, by omega, by go_num, below_next HBd.out HL.out⟩
          case measure => simp [intOf]; omega
        · obtain rfl : m = L.length := by omega
          have HB7 := Lib.hid (below_next HB6.out HBd.out)
          go_wp2_with (first
            | (have _g := hB5; go_at_call 10; refine (HRy.out _ (below_next HB7.out hB5)).mono ?_; rintro e w8 ⟨rfl, hB8⟩)
            | (go_at_call 9; refine (HKW.out _).mono ?_; rintro e w5 ⟨rfl, hB5⟩; obtain ⟨p0, p1, p2, p3, p4, p5, p6⟩ := box7S (old_later HPB.out (below_next HB7.out hB5))))
          go_ret
          exact ⟨by simp [HD.out], below_next HBV.out (below_next HB7.out (below_next hB5 hB8))⟩
set_option maxRecDepth 100000 in
theorem raceAny_lifted (os : Os) (started : os.Started) (H : Type) (enc : TypeId × Value → H) :
    ReturnsInHanded {} Try.checked os 5 .any (Rows.raceAnySpec.pre6 enc Try.prog Try.f5 Rows.raceAnyRow.domain false) (Rows.raceAnySpec.post enc Try.prog Try.f5 false true false false) := by
  refine returnsInHanded_of_change (C := Try.checked) law_own started (by kernel_rfl) Try.func5
    (ChangeSpec.witness6 (enc := enc) (C := Try.checked) false ⟨#[], #[.slice none 0 0], []⟩ 8 (by kernel_rfl) (by kernel_rfl) (by kernel_rfl) (by kernel_rfl)) ?_
  intro W base args ds gs before hval0 hW hcnd _
  have hval : ∀ (j : Nat) t v, Try.f5.params[j]? = some t → args[j]? = some v → Value.okWide Try.prog W .any base t v := hval0
  have hW' := hW
  obtain ⟨p, q, hA0, hV, rfl, hfz, hnd⟩ := hW
  have hA : DataW.TrodAll enc Try.prog W 0 (fun _ => true) true Try.f5.params.toList args.toList ds p := hA0
  rw [Try.params5] at hA hval
  obtain ⟨v0, vs0, d0, ds0, p0, q0, hargs, rfl, rfl, h0, r0⟩ := trodAll_cons hA
  obtain ⟨rfl, rfl, rfl⟩ := trodAll_nil r0
  obtain rfl : args = #[v0] := by cases args; simp_all
  obtain ⟨rfl, rfl⟩ := trodVars_none hV
  have k0 := h0
  have lt0 : ∀ x ∈ p0, x.block < W.heap.size := by obtain ⟨m, hm⟩ := k0; exact DataW.trod_lt m _ _ _ hm
  obtain ⟨a0, cap0, l0, rfl, n0, w0⟩ := open_raws (hval 0 34 v0 rfl rfl) h0
  clear hA0 hval0
  refine (raceAny_walk a0 cap0 l0 W w0 n0).mono fun e W' ⟨he, bel⟩ => ?_
  subst he
  exact ⟨_, rfl, _, _, _, [], _, [], hW', trodAll_mk1 (shut_bool Try.underlying4 _), (trodAll_cons_mk (Below.trod law_laidOut (by kernel_rfl) (of_decide_eq_true (by kernel_rfl)) k0 bel lt0) trodAll_mk0), rfl, bel.frame _, fun h => by cases h⟩

/-- The statement. -/
theorem raceAny_holds : Rows.RaceAnySaid :=
  OpenClaim.holds_of_wide 5 Try.f5 rfl rfl rfl rfl rfl rfl rfl ⟨rfl, rfl, rfl, rfl, rfl⟩ rfl rfl rfl rfl rfl (by kernel_rfl) Try.func5 (by kernel_rfl)
    (of_decide_eq_true (by kernel_rfl)) (by unfold Func.isWrapper; first | (rw [if_pos (by decide +kernel)]; kernel_rfl) | (rw [if_neg (by decide +kernel)]; exact ⟨rfl, rfl⟩))
    (fun os started H enc _ => raceAny_lifted os started H enc)
end Go.Proofs.Ytgikoajclkfoiaa
