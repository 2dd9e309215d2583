/- IrSounds: Sound of any program, and of one that may be and is bent in one place; for every input. -/
import Derived.Test.YtpmfolgihdmcjaaSoundsKit2
import Derived.Deep.RegionHeld3
import Derived.Deep.RegionLaw
import Derived.OwnWalk
namespace Go.Proofs.Ytpmfolgihdmcjaa
set_option linter.unusedVariables false
set_option linter.unusedSimpArgs false
open Go.ChangeShapes Go.WideShapes Go.ChangeAt Go.RowKit

theorem BytesIn.wide {w : World} {B B' : Nat} {a : Option Addr} {rows : List (List Int)} (h : BytesIn w B a rows) (hB : B ≤ B') : BytesIn w B' a rows := fun k r hr => by
  obtain ⟨b, off, h1, h2, a', cap', h3, h4, h5⟩ := h k r hr
  refine ⟨b, off, h1, by omega, a', cap', h3, fun i x hx => ?_, h5⟩
  obtain ⟨b2, o2, h6, h7, h8⟩ := h4 i x hx
  exact ⟨b2, o2, h6, by omega, h8⟩
theorem heap_alloc_old (w : World) (o o' : Obj) : ((w.alloc o).alloc o').heap[w.heap.size]? = some o := by
  rw [Below.heap_alloc _ _ _ (by simp)]; exact heap_alloc_new _ _
theorem heap_alloc_new2 (w : World) (o o' : Obj) : ((w.alloc o).alloc o').heap[w.heap.size + 1]? = some o' := by
  have := heap_alloc_new (w.alloc o) o'; simpa using this
theorem keep14 {u u' : World} {g h : Nat} {v0 v1 v2 v3 v4 v5 v6 x0 x1 x2 x3 x4 x5 x6 : Value} (k : (u.cell? ⟨g, 0, none⟩ = some v0 ∧ u.cell? ⟨g, 1, none⟩ = some v1 ∧ u.cell? ⟨g, 2, none⟩ = some v2 ∧ u.cell? ⟨g, 3, none⟩ = some v3 ∧ u.cell? ⟨g, 4, none⟩ = some v4 ∧ u.cell? ⟨g, 5, none⟩ = some v5 ∧ u.cell? ⟨g, 6, none⟩ = some v6) ∧ (u.cell? ⟨h, 0, none⟩ = some x0 ∧ u.cell? ⟨h, 1, none⟩ = some x1 ∧ u.cell? ⟨h, 2, none⟩ = some x2 ∧ u.cell? ⟨h, 3, none⟩ = some x3 ∧ u.cell? ⟨h, 4, none⟩ = some x4 ∧ u.cell? ⟨h, 5, none⟩ = some x5 ∧ u.cell? ⟨h, 6, none⟩ = some x6)) (hB : Below u.heap.size u u') : (u'.cell? ⟨g, 0, none⟩ = some v0 ∧ u'.cell? ⟨g, 1, none⟩ = some v1 ∧ u'.cell? ⟨g, 2, none⟩ = some v2 ∧ u'.cell? ⟨g, 3, none⟩ = some v3 ∧ u'.cell? ⟨g, 4, none⟩ = some v4 ∧ u'.cell? ⟨g, 5, none⟩ = some v5 ∧ u'.cell? ⟨g, 6, none⟩ = some v6) ∧ (u'.cell? ⟨h, 0, none⟩ = some x0 ∧ u'.cell? ⟨h, 1, none⟩ = some x1 ∧ u'.cell? ⟨h, 2, none⟩ = some x2 ∧ u'.cell? ⟨h, 3, none⟩ = some x3 ∧ u'.cell? ⟨h, 4, none⟩ = some x4 ∧ u'.cell? ⟨h, 5, none⟩ = some x5 ∧ u'.cell? ⟨h, 6, none⟩ = some x6) := ⟨keep7 k.1 hB, keep7 k.2 hB⟩
theorem cell_one_new2 (w : World) (o : Obj) (v : Value) (t : TypeId) : ∀ j u, [v][j]? = some u → (((w.alloc o).alloc (.cells #[v] t)).drew).cell? ((⟨w.heap.size + 1, 0, none⟩ : Addr).add j) = some u := by
  intro j u hj
  have := cell_one_new (w.alloc o) v t j u hj
  simpa using this

set_option maxRecDepth 100000 in
set_option maxHeartbeats 8000000 in
theorem irSounds_in (p : ProgD) (ca : Option Addr) (ccap : Nat) (ta : Option Addr) (tcap : Nat) (rows : List (List Int)) (a : Option Addr) (cap how t at' : Nat) (n : Int) (x : InsD) (w : World)
    (hp : ProgIn w w.heap.size p ca ta) (hpl : ∀ c ∈ p.threads, List.length c ≤ 9223372036854775807) (hl : rows.length ≤ 9223372036854775807) (hr : BytesIn w w.heap.size a rows) (hhow : how < 256) (ht : t < 256) (hat : at' < 256) :
    Calls Try.prog 8 #[p.val ca ccap ta tcap, .slice a rows.length cap, .int .u8 how, .int .u8 t, .int .u8 at', .int .i64 n, .agg #[.int .u8 x.op, .int .i64 x.a, .int .i64 x.b, .int .i64 x.c]] w fun e w' => e = .returned (.bool true) ∧ Below w.heap.size w w' := by
  have HP := Lib.hid hp
  have HPL := Lib.hid hpl
  have HR := Lib.hid hr
  have htl := hp.tlen
  have hw := soundE_wrap p
  clear hp hpl hr
  go_enter Try.func8, Try.ntmps8
  by_cases h10 : 10 < p.threads.length
  · have h10' : (10 : Int) < (p.threads.length : Int) := by omega
    go_wp2_with fail
    refine (known_any _).mono ?_
    rintro e w1 ⟨rfl, hB1⟩
    go_wp2
    go_ret
    exact ⟨rfl, ((((Below.refl _ _).alloc (Nat.le_refl _) _).alloc (by simp) _)).trans (hB1.mono (by simp; omega))⟩
  have h10' : ¬ (10 : Int) < (p.threads.length : Int) := by omega
  go_wp2_with fail
  refine (known_any _).mono ?_
  rintro e w1 ⟨rfl, hB1⟩
  have HB1 : Hid (Below w.heap.size w w1) := ((((Below.refl _ _).alloc (Nat.le_refl _) _).alloc (by simp) _)).trans (hB1.mono (by simp; omega))
  have HPB : Hid (QSt w1 w.heap.size p ca ccap ta tcap) := ⟨(hB1.block _ (by simp; omega)).trans (heap_alloc_old _ _ _), (HP.out.below HB1.out).wide HB1.out.size⟩
  have HIB : Hid (w1.heap[w.heap.size + 1]? = some (.cells #[.int .u8 x.op, .int .i64 x.a, .int .i64 x.b, .int .i64 x.c] 30)) := (hB1.block _ (by simp)).trans (heap_alloc_new2 _ _ _)
  have hp6 := HPB.out.cells.2.2.2.2.2.2
  clear hB1
  go_wp2_with fail
  go_loopw [15] (fun i u => ∃ k : Nat, k ≤ p.threads.length ∧ i = .int .i64 k ∧ w1 = u) (fun i _ => p.threads.length - (intOf i).toNat)
  case atStart => exact ⟨0, Nat.zero_le _, rfl, rfl⟩
  case round =>
    obtain ⟨k, hk, rfl, rfl⟩ := hrel
    by_cases hlt : k < p.threads.length
    · obtain ⟨c, hc⟩ := at_lt hlt
      obtain ⟨tb, toff, rfl, _, ta', tcap', hcell, _⟩ := HPB.out.inn.threads k c hc
      have hlt' : (k : Int) < (p.threads.length : Int) := by omega
      have hcl := HPL.out c (List.mem_of_getElem? hc)
      by_cases h70 : 70 < c.length
      · have h70' : (70 : Int) < (c.length : Int) := by omega
        go_wp2
        go_ret
        exact ⟨rfl, HB1.out⟩
      · have h70' : ¬ (70 : Int) < (c.length : Int) := by omega
        go_wp2
        go_roundw
        case rel => exact ⟨k + 1, by omega, by go_num, by first | rfl | trivial⟩
        case measure => simp [intOf]; omega
    · obtain rfl : k = p.threads.length := by omega
      have HM := Lib.hid (make_any rows a cap _ hl ((HR.out.below HB1.out).wide HB1.out.size))
      go_wp2_with fail
      refine (HM.out).mono ?_
      rintro e w2 ⟨cs, vs, tv, rfl, hO, hCh, ⟨hn1, hn3⟩, hG, hB2⟩
      obtain ⟨g, qcap, rfl, hgb, hgl, _⟩ := hO.addr (by omega)
      have HSt : Hid (ProgSt w1 (w2.alloc (.cells #[.int .i64 2, .int .i64 1, .int .i64 1, .slice (some ⟨w1.heap.size + 1, 0, none⟩) 1 1, .int .i64 1, .int .i64 1, .slice (some ⟨g, 0, none⟩) cs.length qcap] 26)) w2.heap.size (.slice (some ⟨g, 0, none⟩) cs.length qcap) vs cs) :=
        ⟨hO.later ((Below.refl _ _).alloc (Nat.le_refl _) _), heap_alloc_new _ _, (Below.heap_alloc _ _ _ (Array.getElem?_eq_some_iff.1 hCh).1).trans hCh, hB2.alloc hB2.size _⟩
      have hTB : g ≠ w2.heap.size := by omega
      have HV : Hid (∀ (k : Nat) (b : Value), vs[k]? = some b → b.ownBlock ≠ some w2.heap.size) := fun k b hb e => by obtain ⟨d, _, hd⟩ := hO.codeOf hb; have := (own_lt hd _ e).1; omega
      have HE0 : Hid (soundE (madeD cs) = 0) := made_ok cs cs.length hn1 (by omega) (Nat.le_refl _) fun d hd => ⟨by have := (hG d hd).1; omega, (hG d hd).2⟩
      have HG := Lib.hid hG
      have HQ := Lib.hid (HSt.out.q (by omega))
      have HQi : Hid (ProgIn (w2.alloc (.cells #[.int .i64 2, .int .i64 1, .int .i64 1, .slice (some ⟨w1.heap.size + 1, 0, none⟩) 1 1, .int .i64 1, .int .i64 1, .slice (some ⟨g, 0, none⟩) cs.length qcap] 26)) w2.heap.size (madeD cs) (some ⟨w1.heap.size + 1, 0, none⟩) (some ⟨g, 0, none⟩)) := by
        obtain ⟨ta', tcap', e, hq⟩ := made_in hO hCh (by omega)
        simp only [Value.slice.injEq] at e
        obtain ⟨rfl, _, rfl⟩ := e
        exact hq.below ((Below.refl _ _).alloc (Nat.le_refl _) _)
      have HP2 := Lib.hid (HPB.out.later HSt.out.bel)
      have HI2 : Hid ((w2.alloc (.cells #[.int .i64 2, .int .i64 1, .int .i64 1, .slice (some ⟨w1.heap.size + 1, 0, none⟩) 1 1, .int .i64 1, .int .i64 1, .slice (some ⟨g, 0, none⟩) cs.length qcap] 26)).heap[w.heap.size + 1]? = some (.cells #[.int .u8 x.op, .int .i64 x.a, .int .i64 x.b, .int .i64 x.c] 30)) := (HSt.out.bel.block _ (Array.getElem?_eq_some_iff.1 HIB.out).1).trans HIB.out
      clear hO hCh hG hB2 HM hp6
      generalize hU : w2.alloc (.cells #[.int .i64 2, .int .i64 1, .int .i64 1, .slice (some ⟨w1.heap.size + 1, 0, none⟩) 1 1, .int .i64 1, .int .i64 1, .slice (some ⟨g, 0, none⟩) cs.length qcap] 26) = U at HSt HQ HQi HP2 HI2
      generalize hBq : w2.heap.size = B at *
      have hS0 : (U.cell? ⟨B, 0, none⟩ = some (.int .i64 2) ∧ U.cell? ⟨B, 1, none⟩ = some (.int .i64 1) ∧ U.cell? ⟨B, 2, none⟩ = some (.int .i64 1) ∧ U.cell? ⟨B, 3, none⟩ = some (.slice (some ⟨w1.heap.size + 1, 0, none⟩) 1 1) ∧ U.cell? ⟨B, 4, none⟩ = some (.int .i64 1) ∧ U.cell? ⟨B, 5, none⟩ = some (.int .i64 1) ∧ U.cell? ⟨B, 6, none⟩ = some (.slice (some ⟨g, 0, none⟩) cs.length qcap)) ∧ (U.cell? ⟨w.heap.size, 0, none⟩ = some (.int .i64 p.vars) ∧ U.cell? ⟨w.heap.size, 1, none⟩ = some (.int .i64 p.atoms) ∧ U.cell? ⟨w.heap.size, 2, none⟩ = some (.int .i64 p.locks) ∧ U.cell? ⟨w.heap.size, 3, none⟩ = some (.slice ca p.chans.length ccap) ∧ U.cell? ⟨w.heap.size, 4, none⟩ = some (.int .i64 p.groups) ∧ U.cell? ⟨w.heap.size, 5, none⟩ = some (.int .i64 p.onces) ∧ U.cell? ⟨w.heap.size, 6, none⟩ = some (.slice ta p.threads.length tcap)) := ⟨HQ.out.cells, HP2.out.cells⟩
      go_wp2_with fail
      (try simp only [hBq])
      (try rw [hU])
      clear hU hBq
      go_region_held3 (fun u => (u.cell? ⟨B, 0, none⟩ = some (.int .i64 2) ∧ u.cell? ⟨B, 1, none⟩ = some (.int .i64 1) ∧ u.cell? ⟨B, 2, none⟩ = some (.int .i64 1) ∧ u.cell? ⟨B, 3, none⟩ = some (.slice (some ⟨w1.heap.size + 1, 0, none⟩) 1 1) ∧ u.cell? ⟨B, 4, none⟩ = some (.int .i64 1) ∧ u.cell? ⟨B, 5, none⟩ = some (.int .i64 1) ∧ u.cell? ⟨B, 6, none⟩ = some (.slice (some ⟨g, 0, none⟩) cs.length qcap)) ∧ (u.cell? ⟨w.heap.size, 0, none⟩ = some (.int .i64 p.vars) ∧ u.cell? ⟨w.heap.size, 1, none⟩ = some (.int .i64 p.atoms) ∧ u.cell? ⟨w.heap.size, 2, none⟩ = some (.int .i64 p.locks) ∧ u.cell? ⟨w.heap.size, 3, none⟩ = some (.slice ca p.chans.length ccap) ∧ u.cell? ⟨w.heap.size, 4, none⟩ = some (.int .i64 p.groups) ∧ u.cell? ⟨w.heap.size, 5, none⟩ = some (.int .i64 p.onces) ∧ u.cell? ⟨w.heap.size, 6, none⟩ = some (.slice ta p.threads.length tcap))) (first | exact hS0 | exact keep14 (by assumption) hB5 | exact keep14 (by assumption) hB4 | exact keep14 (by assumption) hB3 | assumption)
        (first
          | (go_at_call 12; have _q := hB3; refine (sound_any p ca ccap ta tcap _ (HP2.out.inn.later (show Below U.heap.size U w3 from ⟨hB3.os, hB3.tape, hB3.output, hB3.size, hB3.block⟩))).mono ?_; rintro e w4 ⟨rfl, hB4⟩)
          | (go_at_call 12; refine (sound_any (madeD cs) (some ⟨w1.heap.size + 1, 0, none⟩) 1 (some ⟨g, 0, none⟩) qcap U.drew (HQ.out.inn.later ⟨rfl, rfl, rfl, Nat.le_refl _, fun _ _ => rfl⟩)).mono ?_; rw [HE0.out]; rintro e w3 ⟨rfl, hB3⟩)
          | (go_at_call 13; refine (refSound_any p ca ccap ta tcap _ ((HP2.out.inn.later (show Below U.heap.size U w3 from ⟨hB3.os, hB3.tape, hB3.output, hB3.size, hB3.block⟩)).later hB4)).mono ?_; rintro e w5 ⟨rfl, hB5⟩))
      have hBU : Below U.heap.size U w5 := below_next (below_next (show Below U.heap.size U w3 from ⟨hB3.os, hB3.tape, hB3.output, hB3.size, hB3.block⟩) hB4) hB5
      have HSt5 := Lib.hid (HSt.out.later hBU)
      have HQ5 := Lib.hid (HQ.out.later hBU)
      have HQi5 := Lib.hid (HQi.out.below (hBU.mono (Nat.le_of_lt (Array.getElem?_eq_some_iff.1 HQ.out.box).1)))
      have HB5 := Lib.hid (below_next HB1.out HSt5.out.bel)
      have HI5 := Lib.hid ((hBU.block _ (Array.getElem?_eq_some_iff.1 HI2.out).1).trans HI2.out)
      have hwB : w1.heap.size + 3 ≤ B := by omega
      have hww : w.heap.size ≤ w1.heap.size := HB1.out.size
      clear hBU hS0 hB3 _q hB4 hB5 HSt HQ HQi HP2 HI2 HPB HIB HPL HP HR
      have h9 : how % 9 = 0 ∨ how % 9 = 1 ∨ how % 9 = 2 ∨ how % 9 = 3 ∨ how % 9 = 4 ∨ how % 9 = 5 ∨ how % 9 = 6 ∨ how % 9 = 7 ∨ how % 9 = 8 := by omega
      rcases h9 with h9 | h9 | h9 | h9 | h9 | h9 | h9 | h9 | h9

      · have hm : (how : Int) % 9 = 0 := by omega
        have hcj : w5.cell? ⟨B, 0, none⟩ = some (.int .i64 2) := HQ5.out.cells.1
        have hfj : w5.frozen? ⟨B, 0, none⟩ = false := HQ5.out.frozen 0
        obtain ⟨q', hq'⟩ : ∃ q' : ProgD, q' = ⟨n, 1, 1, [1], 1, 1, cs⟩ := ⟨_, rfl⟩
        have HN : Hid (QSt (w5.setCell ⟨B, 0, none⟩ (.int .i64 n)) B q' (some ⟨w1.heap.size + 1, 0, none⟩) 1 (some ⟨g, 0, none⟩) qcap) := by rw [hq']; exact HQ5.out.num HQi5.out 0 _ rfl rfl rfl
        have HBV : Hid (Below w.heap.size w (w5.setCell ⟨B, 0, none⟩ (.int .i64 n))) := HB5.out.setCell (p := ⟨B, 0, none⟩) (by show w.heap.size ≤ B; omega) _
        clear hq' HSt5 HQ5 HQi5 HI5 HG HV
        generalize hV : w5.setCell ⟨B, 0, none⟩ (.int .i64 n) = V at HN HBV
        have hS1 := HN.out.cells
        have hwq := soundE_wrap q'
        go_wp2_with fail
        (try rw [hV])
        clear hV
        go_region_held3 (fun u => u.cell? ⟨B, 0, none⟩ = some (.int .i64 q'.vars) ∧ u.cell? ⟨B, 1, none⟩ = some (.int .i64 q'.atoms) ∧ u.cell? ⟨B, 2, none⟩ = some (.int .i64 q'.locks) ∧ u.cell? ⟨B, 3, none⟩ = some (.slice (some ⟨w1.heap.size + 1, 0, none⟩) q'.chans.length 1) ∧ u.cell? ⟨B, 4, none⟩ = some (.int .i64 q'.groups) ∧ u.cell? ⟨B, 5, none⟩ = some (.int .i64 q'.onces) ∧ u.cell? ⟨B, 6, none⟩ = some (.slice (some ⟨g, 0, none⟩) q'.threads.length qcap)) (first | exact hS1 | exact keep7 (by assumption) hB7 | exact keep7 (by assumption) hB6 | assumption)
          (first
            | (go_at_call 12; refine (sound_any q' (some ⟨w1.heap.size + 1, 0, none⟩) 1 (some ⟨g, 0, none⟩) qcap V.drew (HN.out.inn.later ⟨rfl, rfl, rfl, Nat.le_refl _, fun _ _ => rfl⟩)).mono ?_; rintro e w6 ⟨rfl, hB6⟩)
            | (go_at_call 13; refine (refSound_any q' (some ⟨w1.heap.size + 1, 0, none⟩) 1 (some ⟨g, 0, none⟩) qcap _ (HN.out.inn.later (show Below V.heap.size V w6 from ⟨hB6.os, hB6.tape, hB6.output, hB6.size, hB6.block⟩))).mono ?_; rintro e w7 ⟨rfl, hB7⟩))
        go_wp2
        go_ret
        exact ⟨rfl, below_next HBV.out (below_next (show Below V.heap.size V w6 from ⟨hB6.os, hB6.tape, hB6.output, hB6.size, hB6.block⟩) hB7)⟩
      · have hm : (how : Int) % 9 = 1 := by omega
        have hcj : w5.cell? ⟨B, 1, none⟩ = some (.int .i64 1) := HQ5.out.cells.2.1
        have hfj : w5.frozen? ⟨B, 1, none⟩ = false := HQ5.out.frozen 1
        obtain ⟨q', hq'⟩ : ∃ q' : ProgD, q' = ⟨2, n, 1, [1], 1, 1, cs⟩ := ⟨_, rfl⟩
        have HN : Hid (QSt (w5.setCell ⟨B, 1, none⟩ (.int .i64 n)) B q' (some ⟨w1.heap.size + 1, 0, none⟩) 1 (some ⟨g, 0, none⟩) qcap) := by rw [hq']; exact HQ5.out.num HQi5.out 1 _ rfl rfl rfl
        have HBV : Hid (Below w.heap.size w (w5.setCell ⟨B, 1, none⟩ (.int .i64 n))) := HB5.out.setCell (p := ⟨B, 1, none⟩) (by show w.heap.size ≤ B; omega) _
        clear hq' HSt5 HQ5 HQi5 HI5 HG HV
        generalize hV : w5.setCell ⟨B, 1, none⟩ (.int .i64 n) = V at HN HBV
        have hS1 := HN.out.cells
        have hwq := soundE_wrap q'
        go_wp2_with fail
        (try rw [hV])
        clear hV
        go_region_held3 (fun u => u.cell? ⟨B, 0, none⟩ = some (.int .i64 q'.vars) ∧ u.cell? ⟨B, 1, none⟩ = some (.int .i64 q'.atoms) ∧ u.cell? ⟨B, 2, none⟩ = some (.int .i64 q'.locks) ∧ u.cell? ⟨B, 3, none⟩ = some (.slice (some ⟨w1.heap.size + 1, 0, none⟩) q'.chans.length 1) ∧ u.cell? ⟨B, 4, none⟩ = some (.int .i64 q'.groups) ∧ u.cell? ⟨B, 5, none⟩ = some (.int .i64 q'.onces) ∧ u.cell? ⟨B, 6, none⟩ = some (.slice (some ⟨g, 0, none⟩) q'.threads.length qcap)) (first | exact hS1 | exact keep7 (by assumption) hB7 | exact keep7 (by assumption) hB6 | assumption)
          (first
            | (go_at_call 12; refine (sound_any q' (some ⟨w1.heap.size + 1, 0, none⟩) 1 (some ⟨g, 0, none⟩) qcap V.drew (HN.out.inn.later ⟨rfl, rfl, rfl, Nat.le_refl _, fun _ _ => rfl⟩)).mono ?_; rintro e w6 ⟨rfl, hB6⟩)
            | (go_at_call 13; refine (refSound_any q' (some ⟨w1.heap.size + 1, 0, none⟩) 1 (some ⟨g, 0, none⟩) qcap _ (HN.out.inn.later (show Below V.heap.size V w6 from ⟨hB6.os, hB6.tape, hB6.output, hB6.size, hB6.block⟩))).mono ?_; rintro e w7 ⟨rfl, hB7⟩))
        go_wp2
        go_ret
        exact ⟨rfl, below_next HBV.out (below_next (show Below V.heap.size V w6 from ⟨hB6.os, hB6.tape, hB6.output, hB6.size, hB6.block⟩) hB7)⟩
      · have hm : (how : Int) % 9 = 2 := by omega
        have hcj : w5.cell? ⟨B, 2, none⟩ = some (.int .i64 1) := HQ5.out.cells.2.2.1
        have hfj : w5.frozen? ⟨B, 2, none⟩ = false := HQ5.out.frozen 2
        obtain ⟨q', hq'⟩ : ∃ q' : ProgD, q' = ⟨2, 1, n, [1], 1, 1, cs⟩ := ⟨_, rfl⟩
        have HN : Hid (QSt (w5.setCell ⟨B, 2, none⟩ (.int .i64 n)) B q' (some ⟨w1.heap.size + 1, 0, none⟩) 1 (some ⟨g, 0, none⟩) qcap) := by rw [hq']; exact HQ5.out.num HQi5.out 2 _ rfl rfl rfl
        have HBV : Hid (Below w.heap.size w (w5.setCell ⟨B, 2, none⟩ (.int .i64 n))) := HB5.out.setCell (p := ⟨B, 2, none⟩) (by show w.heap.size ≤ B; omega) _
        clear hq' HSt5 HQ5 HQi5 HI5 HG HV
        generalize hV : w5.setCell ⟨B, 2, none⟩ (.int .i64 n) = V at HN HBV
        have hS1 := HN.out.cells
        have hwq := soundE_wrap q'
        go_wp2_with fail
        (try rw [hV])
        clear hV
        go_region_held3 (fun u => u.cell? ⟨B, 0, none⟩ = some (.int .i64 q'.vars) ∧ u.cell? ⟨B, 1, none⟩ = some (.int .i64 q'.atoms) ∧ u.cell? ⟨B, 2, none⟩ = some (.int .i64 q'.locks) ∧ u.cell? ⟨B, 3, none⟩ = some (.slice (some ⟨w1.heap.size + 1, 0, none⟩) q'.chans.length 1) ∧ u.cell? ⟨B, 4, none⟩ = some (.int .i64 q'.groups) ∧ u.cell? ⟨B, 5, none⟩ = some (.int .i64 q'.onces) ∧ u.cell? ⟨B, 6, none⟩ = some (.slice (some ⟨g, 0, none⟩) q'.threads.length qcap)) (first | exact hS1 | exact keep7 (by assumption) hB7 | exact keep7 (by assumption) hB6 | assumption)
          (first
            | (go_at_call 12; refine (sound_any q' (some ⟨w1.heap.size + 1, 0, none⟩) 1 (some ⟨g, 0, none⟩) qcap V.drew (HN.out.inn.later ⟨rfl, rfl, rfl, Nat.le_refl _, fun _ _ => rfl⟩)).mono ?_; rintro e w6 ⟨rfl, hB6⟩)
            | (go_at_call 13; refine (refSound_any q' (some ⟨w1.heap.size + 1, 0, none⟩) 1 (some ⟨g, 0, none⟩) qcap _ (HN.out.inn.later (show Below V.heap.size V w6 from ⟨hB6.os, hB6.tape, hB6.output, hB6.size, hB6.block⟩))).mono ?_; rintro e w7 ⟨rfl, hB7⟩))
        go_wp2
        go_ret
        exact ⟨rfl, below_next HBV.out (below_next (show Below V.heap.size V w6 from ⟨hB6.os, hB6.tape, hB6.output, hB6.size, hB6.block⟩) hB7)⟩
      · have hm : (how : Int) % 9 = 3 := by omega
        have hcj : w5.cell? ⟨B, 4, none⟩ = some (.int .i64 1) := HQ5.out.cells.2.2.2.2.1
        have hfj : w5.frozen? ⟨B, 4, none⟩ = false := HQ5.out.frozen 4
        obtain ⟨q', hq'⟩ : ∃ q' : ProgD, q' = ⟨2, 1, 1, [1], n, 1, cs⟩ := ⟨_, rfl⟩
        have HN : Hid (QSt (w5.setCell ⟨B, 4, none⟩ (.int .i64 n)) B q' (some ⟨w1.heap.size + 1, 0, none⟩) 1 (some ⟨g, 0, none⟩) qcap) := by rw [hq']; exact HQ5.out.num HQi5.out 4 _ rfl rfl rfl
        have HBV : Hid (Below w.heap.size w (w5.setCell ⟨B, 4, none⟩ (.int .i64 n))) := HB5.out.setCell (p := ⟨B, 4, none⟩) (by show w.heap.size ≤ B; omega) _
        clear hq' HSt5 HQ5 HQi5 HI5 HG HV
        generalize hV : w5.setCell ⟨B, 4, none⟩ (.int .i64 n) = V at HN HBV
        have hS1 := HN.out.cells
        have hwq := soundE_wrap q'
        go_wp2_with fail
        (try rw [hV])
        clear hV
        go_region_held3 (fun u => u.cell? ⟨B, 0, none⟩ = some (.int .i64 q'.vars) ∧ u.cell? ⟨B, 1, none⟩ = some (.int .i64 q'.atoms) ∧ u.cell? ⟨B, 2, none⟩ = some (.int .i64 q'.locks) ∧ u.cell? ⟨B, 3, none⟩ = some (.slice (some ⟨w1.heap.size + 1, 0, none⟩) q'.chans.length 1) ∧ u.cell? ⟨B, 4, none⟩ = some (.int .i64 q'.groups) ∧ u.cell? ⟨B, 5, none⟩ = some (.int .i64 q'.onces) ∧ u.cell? ⟨B, 6, none⟩ = some (.slice (some ⟨g, 0, none⟩) q'.threads.length qcap)) (first | exact hS1 | exact keep7 (by assumption) hB7 | exact keep7 (by assumption) hB6 | assumption)
          (first
            | (go_at_call 12; refine (sound_any q' (some ⟨w1.heap.size + 1, 0, none⟩) 1 (some ⟨g, 0, none⟩) qcap V.drew (HN.out.inn.later ⟨rfl, rfl, rfl, Nat.le_refl _, fun _ _ => rfl⟩)).mono ?_; rintro e w6 ⟨rfl, hB6⟩)
            | (go_at_call 13; refine (refSound_any q' (some ⟨w1.heap.size + 1, 0, none⟩) 1 (some ⟨g, 0, none⟩) qcap _ (HN.out.inn.later (show Below V.heap.size V w6 from ⟨hB6.os, hB6.tape, hB6.output, hB6.size, hB6.block⟩))).mono ?_; rintro e w7 ⟨rfl, hB7⟩))
        go_wp2
        go_ret
        exact ⟨rfl, below_next HBV.out (below_next (show Below V.heap.size V w6 from ⟨hB6.os, hB6.tape, hB6.output, hB6.size, hB6.block⟩) hB7)⟩
      · have hm : (how : Int) % 9 = 4 := by omega
        have hcj : w5.cell? ⟨B, 5, none⟩ = some (.int .i64 1) := HQ5.out.cells.2.2.2.2.2.1
        have hfj : w5.frozen? ⟨B, 5, none⟩ = false := HQ5.out.frozen 5
        obtain ⟨q', hq'⟩ : ∃ q' : ProgD, q' = ⟨2, 1, 1, [1], 1, n, cs⟩ := ⟨_, rfl⟩
        have HN : Hid (QSt (w5.setCell ⟨B, 5, none⟩ (.int .i64 n)) B q' (some ⟨w1.heap.size + 1, 0, none⟩) 1 (some ⟨g, 0, none⟩) qcap) := by rw [hq']; exact HQ5.out.num HQi5.out 5 _ rfl rfl rfl
        have HBV : Hid (Below w.heap.size w (w5.setCell ⟨B, 5, none⟩ (.int .i64 n))) := HB5.out.setCell (p := ⟨B, 5, none⟩) (by show w.heap.size ≤ B; omega) _
        clear hq' HSt5 HQ5 HQi5 HI5 HG HV
        generalize hV : w5.setCell ⟨B, 5, none⟩ (.int .i64 n) = V at HN HBV
        have hS1 := HN.out.cells
        have hwq := soundE_wrap q'
        go_wp2_with fail
        (try rw [hV])
        clear hV
        go_region_held3 (fun u => u.cell? ⟨B, 0, none⟩ = some (.int .i64 q'.vars) ∧ u.cell? ⟨B, 1, none⟩ = some (.int .i64 q'.atoms) ∧ u.cell? ⟨B, 2, none⟩ = some (.int .i64 q'.locks) ∧ u.cell? ⟨B, 3, none⟩ = some (.slice (some ⟨w1.heap.size + 1, 0, none⟩) q'.chans.length 1) ∧ u.cell? ⟨B, 4, none⟩ = some (.int .i64 q'.groups) ∧ u.cell? ⟨B, 5, none⟩ = some (.int .i64 q'.onces) ∧ u.cell? ⟨B, 6, none⟩ = some (.slice (some ⟨g, 0, none⟩) q'.threads.length qcap)) (first | exact hS1 | exact keep7 (by assumption) hB7 | exact keep7 (by assumption) hB6 | assumption)
          (first
            | (go_at_call 12; refine (sound_any q' (some ⟨w1.heap.size + 1, 0, none⟩) 1 (some ⟨g, 0, none⟩) qcap V.drew (HN.out.inn.later ⟨rfl, rfl, rfl, Nat.le_refl _, fun _ _ => rfl⟩)).mono ?_; rintro e w6 ⟨rfl, hB6⟩)
            | (go_at_call 13; refine (refSound_any q' (some ⟨w1.heap.size + 1, 0, none⟩) 1 (some ⟨g, 0, none⟩) qcap _ (HN.out.inn.later (show Below V.heap.size V w6 from ⟨hB6.os, hB6.tape, hB6.output, hB6.size, hB6.block⟩))).mono ?_; rintro e w7 ⟨rfl, hB7⟩))
        go_wp2
        go_ret
        exact ⟨rfl, below_next HBV.out (below_next (show Below V.heap.size V w6 from ⟨hB6.os, hB6.tape, hB6.output, hB6.size, hB6.block⟩) hB7)⟩
      · have hm : (how : Int) % 9 = 5 := by omega
        obtain ⟨i0, hi, hz0, hz1, hz2⟩ := info_parts info_intT
        have hc3 : w5.cell? ⟨B, 3, none⟩ = some (.slice (some ⟨w1.heap.size + 1, 0, none⟩) 1 1) := HQ5.out.cells.2.2.2.1
        have HOwn := Lib.hid (chan_own (base := w1.heap.size) HSt5.out.chn (by omega))
        have hw5 : w1.heap.size + 3 ≤ w5.heap.size := by have := (Array.getElem?_eq_some_iff.1 HQ5.out.box).1; omega
        obtain ⟨q', hq'⟩ : ∃ q' : ProgD, q' = ⟨2, 1, 1, [1, n], 1, 1, cs⟩ := ⟨_, rfl⟩
        clear HQ5 HQi5 HI5 HG
        go_wp2_with (first
          | (at_builtin; refine wpList_append_own_at _ rfl _ _ 23 rfl w1.heap.size 3 i0 (.int .i64 0) 1 8 Try.underlying23 hi hz0 hz1 hz2 rfl (by decide) (.slice (some ⟨w1.heap.size + 1, 0, none⟩) 1 1) _ _ rfl (own_later HOwn.out ((Below.refl _ _).alloc (Nat.le_refl _) _)) ⟨w5.heap.size, 0, none⟩ 1 1 [.int .i64 n] rfl rfl (cell_one_new _ _ _) (by simp [Value.oneCell']) (by unfold maxLen; omega) (by omega) (by simp; omega) ?_; intro tv' w6' hown6 hgrow6 _ hat6; obtain ⟨g7, cap7, rfl⟩ := ownsRow_succ hown6; obtain ⟨⟨hcb, hfb⟩, hN, hBV⟩ := chan_push (n := n) (HSt5.out.later ((Below.refl _ _).alloc (Nat.le_refl _) _)) (by omega) hTB HV.out hwB hown6 hgrow6 (by rcases hat6 with e | e; exact .inl (by simpa [Value.ownBlock] using e); exact .inr (by simpa [Value.ownBlock] using e)); have HN0 := Lib.hid hN; have HBV0 := Lib.hid hBV; clear hown6 hgrow6 hat6 hN hBV))
        generalize hV : World.setCell w6' _ _ = V
        have HN : Hid (QSt V B q' (some ⟨g7, 0, none⟩) cap7 (some ⟨g, 0, none⟩) qcap) := by rw [← hV, hq']; exact HN0.out
        have HBV : Hid (Below w.heap.size w V) := by rw [← hV]; exact below_next HB1.out HBV0.out
        clear hV hq' HN0 HBV0 HSt5 HOwn HV
        have hS1 := HN.out.cells
        have hwq := soundE_wrap q'
        go_region_held3 (fun u => u.cell? ⟨B, 0, none⟩ = some (.int .i64 q'.vars) ∧ u.cell? ⟨B, 1, none⟩ = some (.int .i64 q'.atoms) ∧ u.cell? ⟨B, 2, none⟩ = some (.int .i64 q'.locks) ∧ u.cell? ⟨B, 3, none⟩ = some (.slice (some ⟨g7, 0, none⟩) q'.chans.length cap7) ∧ u.cell? ⟨B, 4, none⟩ = some (.int .i64 q'.groups) ∧ u.cell? ⟨B, 5, none⟩ = some (.int .i64 q'.onces) ∧ u.cell? ⟨B, 6, none⟩ = some (.slice (some ⟨g, 0, none⟩) q'.threads.length qcap)) (first | exact hS1 | exact keep7 (by assumption) hB7 | exact keep7 (by assumption) hB6 | assumption)
          (first
            | (go_at_call 12; refine (sound_any q' (some ⟨g7, 0, none⟩) cap7 (some ⟨g, 0, none⟩) qcap V.drew (HN.out.inn.later ⟨rfl, rfl, rfl, Nat.le_refl _, fun _ _ => rfl⟩)).mono ?_; rintro e w6 ⟨rfl, hB6⟩)
            | (go_at_call 13; refine (refSound_any q' (some ⟨g7, 0, none⟩) cap7 (some ⟨g, 0, none⟩) qcap _ (HN.out.inn.later (show Below V.heap.size V w6 from ⟨hB6.os, hB6.tape, hB6.output, hB6.size, hB6.block⟩))).mono ?_; rintro e w7 ⟨rfl, hB7⟩))
        go_wp2
        go_ret
        exact ⟨rfl, below_next HBV.out (below_next (show Below V.heap.size V w6 from ⟨hB6.os, hB6.tape, hB6.output, hB6.size, hB6.block⟩) hB7)⟩
      · have hm : (how : Int) % 9 = 6 := by omega
        obtain ⟨i0, hi, hz0, hz1, hz2⟩ := info_parts info_insT
        obtain ⟨j0, hj, hy0, hy1, hy2⟩ := info_parts info_codeT
        obtain ⟨m, hmm⟩ : ∃ m, m = at' % 70 := ⟨_, rfl⟩
        have hm70 : m < 70 := by rw [hmm]; exact Nat.mod_lt _ (by decide)
        have hm1 : (at' : Int) % 70 = (m : Int) := by rw [hmm]; omega
        have hm2 : Int.tmod (at' : Int) 70 = (m : Int) := by rw [Int.tmod_eq_emod_of_nonneg (by omega)]; exact hm1
        have hwm : IntKind.i64.wrap (m : Int) = (m : Int) := by rw [IntKind.wrap_i64]; omega
        clear hmm
        have hc6 : w5.cell? ⟨B, 6, none⟩ = some (.slice (some ⟨g, 0, none⟩) cs.length qcap) := HQ5.out.cells.2.2.2.2.2.2
        have hw5 : w1.heap.size + 3 ≤ w5.heap.size := by have := (Array.getElem?_eq_some_iff.1 HQ5.out.box).1; omega
        have hBl : B < w5.heap.size := (Array.getElem?_eq_some_iff.1 HQ5.out.box).1
        have HVl : Hid (vs.length = cs.length) := HSt5.out.own.len
        obtain ⟨q', hq'⟩ : ∃ q' : ProgD, q' = ⟨2, 1, 1, [1], 1, 1, cs ++ [List.replicate m ⟨0, 0, 0, 0⟩]⟩ := ⟨_, rfl⟩
        obtain ⟨M, hM⟩ : ∃ M : Array Value, M = madeCells (Value.agg #[.int .u8 0, .int .i64 0, .int .i64 0, .int .i64 0]).cells (m * 4) := ⟨_, rfl⟩
        have hMl : M.toList = codeCells (List.replicate m ⟨0, 0, 0, 0⟩) := by rw [hM]; exact made_zero m
        have hmk : ∀ W : World, (Instr.makeSlice 28 (.int .i64 m) (.int .i64 m)).run Try.prog W = .ok (.slice (some ⟨W.heap.size, 0, none⟩) m m) (W.alloc (.cells M 30)) := fun W => by
          have := run_make (P := Try.prog) W 28 30 i0 _ Try.underlying28 hi hz0 .i64 .i64 (m : Int) (m : Int) (by omega) (by omega) (by rw [hz2]; omega) (by omega)
          rw [hz1, Int.toNat_natCast, ← hM] at this; exact this
        have HMl := Lib.hid hMl
        have HStA : Hid (ProgSt w1 ((w5.alloc (.cells M 30)).alloc (.cells #[.slice (some ⟨w5.heap.size, 0, none⟩) m m] 28)).drew B (.slice (some ⟨g, 0, none⟩) cs.length qcap) vs cs) := by
          have h1 : Below w5.heap.size w5 ((w5.alloc (.cells M 30)).alloc (.cells #[.slice (some ⟨w5.heap.size, 0, none⟩) m m] 28)) := ((Below.refl _ _).alloc (Nat.le_refl _) _).alloc (by simp) _
          exact HSt5.out.later ⟨h1.os, h1.tape, h1.output, h1.size, h1.block⟩
        have HVA : Hid (((w5.alloc (.cells M 30)).alloc (.cells #[.slice (some ⟨w5.heap.size, 0, none⟩) m m] 28)).drew.ownsRow (w1.heap.size + 3) 30 4 (.slice (some ⟨w5.heap.size, 0, none⟩) m m) (List.replicate m (⟨0, 0, 0, 0⟩ : InsD)).length (codeCells (List.replicate m ⟨0, 0, 0, 0⟩))) := by
          have hsz : M.size = m * 4 := by rw [← Array.length_toList, hMl, codeCells_len, List.length_replicate]
          refine ⟨by rw [codeCells_len], .inr ⟨w5.heap.size, m, M, by rw [List.length_replicate], hw5, heap_alloc_old _ _ _, by rw [List.length_replicate]; exact Nat.le_refl _, by unfold maxLen; omega, hsz, ?_⟩⟩
          rw [List.length_replicate, ← hMl, List.take_of_length_le (by rw [Array.length_toList]; omega)]
        clear HQ5 HQi5 HI5 HG hM hMl
        go_wp2_with fail
        go_region_law ((rw [if_pos (by rfl)]); refine wp_append_own_at _ (.tmp 116) (.tmp 121) 24 rfl (w1.heap.size + 3) 28 j0 (.slice none 0 0) 1 24 Try.underlying24 hj hy0 hy1 hy2 rfl (by decide) (.slice (some ⟨g, 0, none⟩) cs.length qcap) vs.length vs rfl HStA.out.own.thr ⟨w5.heap.size + 1, 0, none⟩ 1 1 [.slice (some ⟨w5.heap.size, 0, none⟩) m m] rfl rfl (cell_one_new2 _ _ _ _) (by simp [Value.oneCell']) (by have := HVl.out; unfold maxLen; omega) (by have := HVl.out; omega) (by simp; omega) ?_; intro tv' w6' hown6 hgrow6 _ hat6; obtain ⟨g7, cap7, rfl⟩ := ownsRow_succ hown6; obtain ⟨⟨hcb, hfb⟩, hst6, _, _⟩ := ProgSt.push (c := List.replicate m ⟨0, 0, 0, 0⟩) HStA.out (by simp [Value.ownBlock]; exact hTB) HV.out HVA.out (by simp [Value.ownBlock]; omega) (.inr (by simp [Value.ownBlock]; omega)) (fun k b hb => .inr (fun e => by obtain ⟨d, _, hd⟩ := HSt5.out.own.codeOf hb; have := (own_lt hd w5.heap.size (by rw [e]; rfl)).1; omega)) hown6 hgrow6 hat6 (by simp; omega) (by omega); have HX := Lib.hid hst6; clear hown6 hgrow6 hat6 hst6)
        all_goals
          generalize hV : World.setCell w6' _ _ = V
          have HX2 : Hid (ProgSt w1 V B (.slice (some ⟨g7, 0, none⟩) (vs.length + 1) cap7) (vs ++ [.slice (some ⟨w5.heap.size, 0, none⟩) m m]) (cs ++ [List.replicate m ⟨0, 0, 0, 0⟩])) := by rw [← hV]; exact HX.out
          have HN : Hid (QSt V B q' (some ⟨w1.heap.size + 1, 0, none⟩) 1 (some ⟨g7, 0, none⟩) cap7) := by
            have h8 := HX2.out
            rw [show vs.length + 1 = (cs ++ [List.replicate m (⟨0, 0, 0, 0⟩ : InsD)]).length from by simp [HVl.out]] at h8
            rw [hq']; exact h8.q (by simp; omega)
          have HBV : Hid (Below w.heap.size w V) := below_next HB1.out HX2.out.bel
          clear hV hq' HX HX2 HSt5 HStA HVA HV HVl hmk HMl
          have hS1 := HN.out.cells
          have hwq := soundE_wrap q'
          go_wp2_with fail
          go_region_held3 (fun u => u.cell? ⟨B, 0, none⟩ = some (.int .i64 q'.vars) ∧ u.cell? ⟨B, 1, none⟩ = some (.int .i64 q'.atoms) ∧ u.cell? ⟨B, 2, none⟩ = some (.int .i64 q'.locks) ∧ u.cell? ⟨B, 3, none⟩ = some (.slice (some ⟨w1.heap.size + 1, 0, none⟩) q'.chans.length 1) ∧ u.cell? ⟨B, 4, none⟩ = some (.int .i64 q'.groups) ∧ u.cell? ⟨B, 5, none⟩ = some (.int .i64 q'.onces) ∧ u.cell? ⟨B, 6, none⟩ = some (.slice (some ⟨g7, 0, none⟩) q'.threads.length cap7)) (first | exact hS1 | exact keep7 (by assumption) hB7 | exact keep7 (by assumption) hB6 | assumption)
            (first
              | (go_at_call 12; refine (sound_any q' (some ⟨w1.heap.size + 1, 0, none⟩) 1 (some ⟨g7, 0, none⟩) cap7 V.drew (HN.out.inn.later ⟨rfl, rfl, rfl, Nat.le_refl _, fun _ _ => rfl⟩)).mono ?_; rintro e w6 ⟨rfl, hB6⟩)
              | (go_at_call 13; refine (refSound_any q' (some ⟨w1.heap.size + 1, 0, none⟩) 1 (some ⟨g7, 0, none⟩) cap7 _ (HN.out.inn.later (show Below V.heap.size V w6 from ⟨hB6.os, hB6.tape, hB6.output, hB6.size, hB6.block⟩))).mono ?_; rintro e w7 ⟨rfl, hB7⟩))
          go_wp2
          go_ret
          exact ⟨rfl, below_next HBV.out (below_next (show Below V.heap.size V w6 from ⟨hB6.os, hB6.tape, hB6.output, hB6.size, hB6.block⟩) hB7)⟩
      · have hm : (how : Int) % 9 = 7 := by omega
        obtain ⟨k, hk⟩ : ∃ k, k = t % cs.length := ⟨_, rfl⟩
        have hkl : k < cs.length := by rw [hk]; exact Nat.mod_lt _ (by omega)
        have hk1 : (t : Int) % (cs.length : Int) = (k : Int) := by rw [hk]; omega
        have hk2 : Int.tmod (t : Int) (cs.length : Int) = (k : Int) := by rw [Int.tmod_eq_emod_of_nonneg (by omega)]; exact hk1
        have hkI : (k : Int) < (cs.length : Int) := by omega
        have hcs0 : (cs.length : Int) ≠ 0 := by omega
        have hcsn : ¬ cs = [] := by rintro rfl; simp at hn1
        clear hk
        obtain ⟨c, hc⟩ := at_lt hkl
        obtain ⟨v, hv, hrow⟩ := HSt5.out.own.codeAt hc
        obtain ⟨g2, cap2, e2, _, _, hcells⟩ := HSt5.out.own.addr (by omega)
        simp only [Value.slice.injEq, Option.some.injEq, Addr.mk.injEq] at e2
        obtain ⟨⟨rfl, _⟩, _, rfl⟩ := e2
        have hck := (hcells k v hv).1
        have hc6 : w5.cell? ⟨B, 6, none⟩ = some (.slice (some ⟨g, 0, none⟩) cs.length qcap) := HQ5.out.cells.2.2.2.2.2.2
        clear hcells
        have hc60 := (HG.out c (List.mem_of_getElem? hc)).1
        by_cases h0 : c.length = 0
        · obtain ⟨a2, cap2, rfl, _⟩ := code_in hrow
          have h0' : (c.length : Int) = 0 := by omega
          obtain ⟨q', hq'⟩ : ∃ q' : ProgD, q' = ⟨2, 1, 1, [1], 1, 1, cs⟩ := ⟨_, rfl⟩
          have HN : Hid (QSt w5 B q' (some ⟨w1.heap.size + 1, 0, none⟩) 1 (some ⟨g, 0, none⟩) qcap) := by rw [hq']; exact HQ5.out
          have HBV : Hid (Below w.heap.size w w5) := HB5.out
          clear hq' HSt5 HQ5 HQi5 HI5 HG HV hrow
          have hS1 := HN.out.cells
          have hwq := soundE_wrap q'
          go_wp2_with fail
          go_region_held3 (fun u => u.cell? ⟨B, 0, none⟩ = some (.int .i64 q'.vars) ∧ u.cell? ⟨B, 1, none⟩ = some (.int .i64 q'.atoms) ∧ u.cell? ⟨B, 2, none⟩ = some (.int .i64 q'.locks) ∧ u.cell? ⟨B, 3, none⟩ = some (.slice (some ⟨w1.heap.size + 1, 0, none⟩) q'.chans.length 1) ∧ u.cell? ⟨B, 4, none⟩ = some (.int .i64 q'.groups) ∧ u.cell? ⟨B, 5, none⟩ = some (.int .i64 q'.onces) ∧ u.cell? ⟨B, 6, none⟩ = some (.slice (some ⟨g, 0, none⟩) q'.threads.length qcap)) (first | exact hS1 | exact keep7 (by assumption) hB7 | exact keep7 (by assumption) hB6 | assumption)
            (first
              | (go_at_call 12; refine (sound_any q' (some ⟨w1.heap.size + 1, 0, none⟩) 1 (some ⟨g, 0, none⟩) qcap w5.drew (HN.out.inn.later ⟨rfl, rfl, rfl, Nat.le_refl _, fun _ _ => rfl⟩)).mono ?_; rintro e w6 ⟨rfl, hB6⟩)
              | (go_at_call 13; refine (refSound_any q' (some ⟨w1.heap.size + 1, 0, none⟩) 1 (some ⟨g, 0, none⟩) qcap _ (HN.out.inn.later (show Below w5.heap.size w5 w6 from ⟨hB6.os, hB6.tape, hB6.output, hB6.size, hB6.block⟩))).mono ?_; rintro e w7 ⟨rfl, hB7⟩))
          go_wp2
          go_ret
          exact ⟨rfl, below_next HBV.out (below_next (show Below w5.heap.size w5 w6 from ⟨hB6.os, hB6.tape, hB6.output, hB6.size, hB6.block⟩) hB7)⟩
        · have hcn : ¬ c = [] := by rintro rfl; simp at h0
          have hc0 : (0 : Int) < (c.length : Int) := by omega
          have hcI0 : (c.length : Int) ≠ 0 := by omega
          obtain ⟨b, vcap, rfl⟩ : ∃ b vcap, v = .slice (some ⟨b, 0, none⟩) c.length vcap := by
            rcases hrow.2 with ⟨_, e⟩ | ⟨b, vcap, cur, e, _⟩
            · omega
            · exact ⟨b, vcap, e⟩
          obtain ⟨i, hi⟩ : ∃ i, i = at' % c.length := ⟨_, rfl⟩
          have hil : i < c.length := by rw [hi]; exact Nat.mod_lt _ (by omega)
          have hi1 : (at' : Int) % (c.length : Int) = (i : Int) := by rw [hi]; omega
          have hi2 : Int.tmod (at' : Int) (c.length : Int) = (i : Int) := by rw [Int.tmod_eq_emod_of_nonneg (by omega)]; exact hi1
          have hiI : (i : Int) < (c.length : Int) := by omega
          clear hi
          have hwat : IntKind.i64.wrap (at' : Int) = (at' : Int) := by rw [IntKind.wrap_i64]; omega
          obtain ⟨y, hy⟩ := at_lt hil
          have hbl := own_lt hrow b rfl
          have hbB : B ≠ b := fun e => HV.out k _ hv (by rw [e]; rfl)
          have hbg : g ≠ b := fun e => by
            rcases HSt5.out.own.apartT k _ hv with h1 | h1
            · simp [Value.ownBlock] at h1
            · exact h1 (by rw [e]; rfl)
          have hwb : w.heap.size + 1 ≠ b := by omega
          obtain ⟨hx0, hx1, hx2, hx3⟩ := cells4 HI5.out
          obtain ⟨hth, hN, hBV⟩ := put_ins x HSt5.out (by omega) hTB HV.out hwB hc hv hy
          have HTh := Lib.hid hth
          have HN0 := Lib.hid hN
          have HBV0 := Lib.hid hBV
          have hS3 : w5.cell? ⟨B, 6, none⟩ = some (.slice (some ⟨g, 0, none⟩) cs.length qcap) ∧ w5.cell? ⟨g, k, none⟩ = some (.slice (some ⟨b, 0, none⟩) c.length vcap) ∧ w5.cell? ⟨w.heap.size + 1, 0, none⟩ = some (.int .u8 x.op) ∧ w5.cell? ⟨w.heap.size + 1, 1, none⟩ = some (.int .i64 x.a) ∧ w5.cell? ⟨w.heap.size + 1, 2, none⟩ = some (.int .i64 x.b) ∧ w5.cell? ⟨w.heap.size + 1, 3, none⟩ = some (.int .i64 x.c) := ⟨hc6, hck, hx0, hx1, hx2, hx3⟩
          have HS3 : Hid ((w5.drew.setCells b (i * 4) (insCells x)).cell? ⟨B, 6, none⟩ = some (.slice (some ⟨g, 0, none⟩) cs.length qcap) ∧ (w5.drew.setCells b (i * 4) (insCells x)).cell? ⟨g, k, none⟩ = some (.slice (some ⟨b, 0, none⟩) c.length vcap) ∧ (w5.drew.setCells b (i * 4) (insCells x)).cell? ⟨w.heap.size + 1, 0, none⟩ = some (.int .u8 x.op) ∧ (w5.drew.setCells b (i * 4) (insCells x)).cell? ⟨w.heap.size + 1, 1, none⟩ = some (.int .i64 x.a) ∧ (w5.drew.setCells b (i * 4) (insCells x)).cell? ⟨w.heap.size + 1, 2, none⟩ = some (.int .i64 x.b) ∧ (w5.drew.setCells b (i * 4) (insCells x)).cell? ⟨w.heap.size + 1, 3, none⟩ = some (.int .i64 x.c)) := ⟨cell_put hc6 hbB, cell_put hck hbg, cell_put hx0 hwb, cell_put hx1 hwb, cell_put hx2 hwb, cell_put hx3 hwb⟩
          obtain ⟨hy0, hy1, hy2, hy3⟩ : InsAt w5 b (i * 4) y := by
            obtain ⟨a9, cap9, e9, hin9⟩ := code_in hrow
            simp only [Value.slice.injEq] at e9
            obtain ⟨rfl, _, rfl⟩ := e9
            obtain ⟨b2, o2, e2, _, hi⟩ := hin9 i y hy
            simp only [Option.some.injEq, Addr.mk.injEq] at e2
            obtain ⟨rfl, rfl, _⟩ := e2
            rw [Nat.zero_add] at hi; exact hi
          have hf0 : w5.frozen? ⟨b, i * 4, none⟩ = false := (hth 0 (by omega)).2
          have hf1 : w5.frozen? ⟨b, i * 4 + 1, none⟩ = false := (hth 1 (by omega)).2
          have hf2 : w5.frozen? ⟨b, i * 4 + 2, none⟩ = false := (hth 2 (by omega)).2
          have hf3 : w5.frozen? ⟨b, i * 4 + 3, none⟩ = false := (hth 3 (by omega)).2
          have hinf : (Try.prog.info? 30).map (·.size) = some 4 := by kernel_rfl
          obtain ⟨q', hq'⟩ : ∃ q' : ProgD, q' = ⟨2, 1, 1, [1], 1, 1, cs.set k (c.set i x)⟩ := ⟨_, rfl⟩
          clear hth hN hBV hrow HQ5 HQi5 HG HI5
          go_wp2_with fail
          go_region_held3 (fun u => u.cell? ⟨B, 6, none⟩ = some (.slice (some ⟨g, 0, none⟩) cs.length qcap) ∧ u.cell? ⟨g, k, none⟩ = some (.slice (some ⟨b, 0, none⟩) c.length vcap) ∧ u.cell? ⟨w.heap.size + 1, 0, none⟩ = some (.int .u8 x.op) ∧ u.cell? ⟨w.heap.size + 1, 1, none⟩ = some (.int .i64 x.a) ∧ u.cell? ⟨w.heap.size + 1, 2, none⟩ = some (.int .i64 x.b) ∧ u.cell? ⟨w.heap.size + 1, 3, none⟩ = some (.int .i64 x.c)) (first | exact hS3 | exact HS3.out | assumption)
            (first
              | (fail))
          generalize hV : World.drew _ = V
          have HN : Hid (QSt V B q' (some ⟨w1.heap.size + 1, 0, none⟩) 1 (some ⟨g, 0, none⟩) qcap) := by rw [← hV, hq']; exact HN0.out.later ⟨rfl, rfl, rfl, Nat.le_refl _, fun _ _ => rfl⟩
          have HBV : Hid (Below w.heap.size w V) := by rw [← hV]; exact below_next (below_next HB1.out HBV0.out) ⟨rfl, rfl, rfl, Nat.le_refl _, fun _ _ => rfl⟩
          clear hV hq' HN0 HBV0 HTh HS3 hS3 HSt5 HV
          have hS1 := HN.out.cells
          have hwq := soundE_wrap q'
          go_wp2_with fail
          go_region_held3 (fun u => u.cell? ⟨B, 0, none⟩ = some (.int .i64 q'.vars) ∧ u.cell? ⟨B, 1, none⟩ = some (.int .i64 q'.atoms) ∧ u.cell? ⟨B, 2, none⟩ = some (.int .i64 q'.locks) ∧ u.cell? ⟨B, 3, none⟩ = some (.slice (some ⟨w1.heap.size + 1, 0, none⟩) q'.chans.length 1) ∧ u.cell? ⟨B, 4, none⟩ = some (.int .i64 q'.groups) ∧ u.cell? ⟨B, 5, none⟩ = some (.int .i64 q'.onces) ∧ u.cell? ⟨B, 6, none⟩ = some (.slice (some ⟨g, 0, none⟩) q'.threads.length qcap)) (first | exact hS1 | exact keep7 (by assumption) hB7 | exact keep7 (by assumption) hB6 | assumption)
            (first
              | (go_at_call 12; refine (sound_any q' (some ⟨w1.heap.size + 1, 0, none⟩) 1 (some ⟨g, 0, none⟩) qcap V.drew (HN.out.inn.later ⟨rfl, rfl, rfl, Nat.le_refl _, fun _ _ => rfl⟩)).mono ?_; rintro e w6 ⟨rfl, hB6⟩)
              | (go_at_call 13; refine (refSound_any q' (some ⟨w1.heap.size + 1, 0, none⟩) 1 (some ⟨g, 0, none⟩) qcap _ (HN.out.inn.later (show Below V.heap.size V w6 from ⟨hB6.os, hB6.tape, hB6.output, hB6.size, hB6.block⟩))).mono ?_; rintro e w7 ⟨rfl, hB7⟩))
          go_wp2
          go_ret
          exact ⟨rfl, below_next HBV.out (below_next (show Below V.heap.size V w6 from ⟨hB6.os, hB6.tape, hB6.output, hB6.size, hB6.block⟩) hB7)⟩
      · have hm : (how : Int) % 9 = 8 := by omega
        obtain ⟨k, hk⟩ : ∃ k, k = t % cs.length := ⟨_, rfl⟩
        have hkl : k < cs.length := by rw [hk]; exact Nat.mod_lt _ (by omega)
        have hk1 : (t : Int) % (cs.length : Int) = (k : Int) := by rw [hk]; omega
        have hk2 : Int.tmod (t : Int) (cs.length : Int) = (k : Int) := by rw [Int.tmod_eq_emod_of_nonneg (by omega)]; exact hk1
        have hkI : (k : Int) < (cs.length : Int) := by omega
        have hcs0 : (cs.length : Int) ≠ 0 := by omega
        have hcsn : ¬ cs = [] := by rintro rfl; simp at hn1
        clear hk
        obtain ⟨c, hc⟩ := at_lt hkl
        obtain ⟨v, hv, hrow⟩ := HSt5.out.own.codeAt hc
        obtain ⟨g2, cap2, e2, _, _, hcells⟩ := HSt5.out.own.addr (by omega)
        simp only [Value.slice.injEq, Option.some.injEq, Addr.mk.injEq] at e2
        obtain ⟨⟨rfl, _⟩, _, rfl⟩ := e2
        have hck := (hcells k v hv).1
        have hc6 : w5.cell? ⟨B, 6, none⟩ = some (.slice (some ⟨g, 0, none⟩) cs.length qcap) := HQ5.out.cells.2.2.2.2.2.2
        clear hcells
        have hc60 := (HG.out c (List.mem_of_getElem? hc)).1
        by_cases h0 : c.length = 0
        · obtain ⟨a2, cap2, rfl, _⟩ := code_in hrow
          have h0' : (c.length : Int) = 0 := by omega
          obtain ⟨q', hq'⟩ : ∃ q' : ProgD, q' = ⟨2, 1, 1, [1], 1, 1, cs⟩ := ⟨_, rfl⟩
          have HN : Hid (QSt w5 B q' (some ⟨w1.heap.size + 1, 0, none⟩) 1 (some ⟨g, 0, none⟩) qcap) := by rw [hq']; exact HQ5.out
          have HBV : Hid (Below w.heap.size w w5) := HB5.out
          clear hq' HSt5 HQ5 HQi5 HI5 HG HV hrow
          have hS1 := HN.out.cells
          have hwq := soundE_wrap q'
          go_wp2_with fail
          go_region_held3 (fun u => u.cell? ⟨B, 0, none⟩ = some (.int .i64 q'.vars) ∧ u.cell? ⟨B, 1, none⟩ = some (.int .i64 q'.atoms) ∧ u.cell? ⟨B, 2, none⟩ = some (.int .i64 q'.locks) ∧ u.cell? ⟨B, 3, none⟩ = some (.slice (some ⟨w1.heap.size + 1, 0, none⟩) q'.chans.length 1) ∧ u.cell? ⟨B, 4, none⟩ = some (.int .i64 q'.groups) ∧ u.cell? ⟨B, 5, none⟩ = some (.int .i64 q'.onces) ∧ u.cell? ⟨B, 6, none⟩ = some (.slice (some ⟨g, 0, none⟩) q'.threads.length qcap)) (first | exact hS1 | exact keep7 (by assumption) hB7 | exact keep7 (by assumption) hB6 | assumption)
            (first
              | (go_at_call 12; refine (sound_any q' (some ⟨w1.heap.size + 1, 0, none⟩) 1 (some ⟨g, 0, none⟩) qcap w5.drew (HN.out.inn.later ⟨rfl, rfl, rfl, Nat.le_refl _, fun _ _ => rfl⟩)).mono ?_; rintro e w6 ⟨rfl, hB6⟩)
              | (go_at_call 13; refine (refSound_any q' (some ⟨w1.heap.size + 1, 0, none⟩) 1 (some ⟨g, 0, none⟩) qcap _ (HN.out.inn.later (show Below w5.heap.size w5 w6 from ⟨hB6.os, hB6.tape, hB6.output, hB6.size, hB6.block⟩))).mono ?_; rintro e w7 ⟨rfl, hB7⟩))
          go_wp2
          go_ret
          exact ⟨rfl, below_next HBV.out (below_next (show Below w5.heap.size w5 w6 from ⟨hB6.os, hB6.tape, hB6.output, hB6.size, hB6.block⟩) hB7)⟩
        · have hcn : ¬ c = [] := by rintro rfl; simp at h0
          have hc0 : (0 : Int) < (c.length : Int) := by omega
          have hcI0 : (c.length : Int) ≠ 0 := by omega
          obtain ⟨b, vcap, rfl⟩ : ∃ b vcap, v = .slice (some ⟨b, 0, none⟩) c.length vcap := by
            rcases hrow.2 with ⟨_, e⟩ | ⟨b, vcap, cur, e, _⟩
            · omega
            · exact ⟨b, vcap, e⟩
          obtain ⟨i, hi⟩ : ∃ i, i = at' % c.length := ⟨_, rfl⟩
          have hil : i < c.length := by rw [hi]; exact Nat.mod_lt _ (by omega)
          have hi1 : (at' : Int) % (c.length : Int) = (i : Int) := by rw [hi]; omega
          have hi2 : Int.tmod (at' : Int) (c.length : Int) = (i : Int) := by rw [Int.tmod_eq_emod_of_nonneg (by omega)]; exact hi1
          have hiI : (i : Int) < (c.length : Int) := by omega
          clear hi
          have hwat : IntKind.i64.wrap (at' : Int) = (at' : Int) := by rw [IntKind.wrap_i64]; omega
          obtain ⟨y, hy⟩ := at_lt hil
          have hbl := own_lt hrow b rfl
          have hbB : B ≠ b := fun e => HV.out k _ hv (by rw [e]; rfl)
          have hbg : g ≠ b := fun e => by
            rcases HSt5.out.own.apartT k _ hv with h1 | h1
            · simp [Value.ownBlock] at h1
            · exact h1 (by rw [e]; rfl)
          have hwb : w.heap.size + 1 ≠ b := by omega
          obtain ⟨hx0, hx1, hx2, hx3⟩ := cells4 HI5.out
          obtain ⟨hth, hN, hBV⟩ := put_ins x HSt5.out (by omega) hTB HV.out hwB hc hv hy
          have HTh := Lib.hid hth
          have HN0 := Lib.hid hN
          have HBV0 := Lib.hid hBV
          have hS3 : w5.cell? ⟨B, 6, none⟩ = some (.slice (some ⟨g, 0, none⟩) cs.length qcap) ∧ w5.cell? ⟨g, k, none⟩ = some (.slice (some ⟨b, 0, none⟩) c.length vcap) ∧ w5.cell? ⟨w.heap.size + 1, 0, none⟩ = some (.int .u8 x.op) ∧ w5.cell? ⟨w.heap.size + 1, 1, none⟩ = some (.int .i64 x.a) ∧ w5.cell? ⟨w.heap.size + 1, 2, none⟩ = some (.int .i64 x.b) ∧ w5.cell? ⟨w.heap.size + 1, 3, none⟩ = some (.int .i64 x.c) := ⟨hc6, hck, hx0, hx1, hx2, hx3⟩
          have HS3 : Hid ((w5.drew.setCells b (i * 4) (insCells x)).cell? ⟨B, 6, none⟩ = some (.slice (some ⟨g, 0, none⟩) cs.length qcap) ∧ (w5.drew.setCells b (i * 4) (insCells x)).cell? ⟨g, k, none⟩ = some (.slice (some ⟨b, 0, none⟩) c.length vcap) ∧ (w5.drew.setCells b (i * 4) (insCells x)).cell? ⟨w.heap.size + 1, 0, none⟩ = some (.int .u8 x.op) ∧ (w5.drew.setCells b (i * 4) (insCells x)).cell? ⟨w.heap.size + 1, 1, none⟩ = some (.int .i64 x.a) ∧ (w5.drew.setCells b (i * 4) (insCells x)).cell? ⟨w.heap.size + 1, 2, none⟩ = some (.int .i64 x.b) ∧ (w5.drew.setCells b (i * 4) (insCells x)).cell? ⟨w.heap.size + 1, 3, none⟩ = some (.int .i64 x.c)) := ⟨cell_put hc6 hbB, cell_put hck hbg, cell_put hx0 hwb, cell_put hx1 hwb, cell_put hx2 hwb, cell_put hx3 hwb⟩
          obtain ⟨hy0, hy1, hy2, hy3⟩ : InsAt w5 b (i * 4) y := by
            obtain ⟨a9, cap9, e9, hin9⟩ := code_in hrow
            simp only [Value.slice.injEq] at e9
            obtain ⟨rfl, _, rfl⟩ := e9
            obtain ⟨b2, o2, e2, _, hi⟩ := hin9 i y hy
            simp only [Option.some.injEq, Addr.mk.injEq] at e2
            obtain ⟨rfl, rfl, _⟩ := e2
            rw [Nat.zero_add] at hi; exact hi
          have hf0 : w5.frozen? ⟨b, i * 4, none⟩ = false := (hth 0 (by omega)).2
          have hf1 : w5.frozen? ⟨b, i * 4 + 1, none⟩ = false := (hth 1 (by omega)).2
          have hf2 : w5.frozen? ⟨b, i * 4 + 2, none⟩ = false := (hth 2 (by omega)).2
          have hf3 : w5.frozen? ⟨b, i * 4 + 3, none⟩ = false := (hth 3 (by omega)).2
          have hinf : (Try.prog.info? 30).map (·.size) = some 4 := by kernel_rfl
          obtain ⟨q', hq'⟩ : ∃ q' : ProgD, q' = ⟨2, 1, 1, [1], 1, 1, cs.set k (c.set i x)⟩ := ⟨_, rfl⟩
          clear hth hN hBV hrow HQ5 HQi5 HG HI5
          go_wp2_with fail
          go_region_held3 (fun u => u.cell? ⟨B, 6, none⟩ = some (.slice (some ⟨g, 0, none⟩) cs.length qcap) ∧ u.cell? ⟨g, k, none⟩ = some (.slice (some ⟨b, 0, none⟩) c.length vcap) ∧ u.cell? ⟨w.heap.size + 1, 0, none⟩ = some (.int .u8 x.op) ∧ u.cell? ⟨w.heap.size + 1, 1, none⟩ = some (.int .i64 x.a) ∧ u.cell? ⟨w.heap.size + 1, 2, none⟩ = some (.int .i64 x.b) ∧ u.cell? ⟨w.heap.size + 1, 3, none⟩ = some (.int .i64 x.c)) (first | exact hS3 | exact HS3.out | assumption)
            (first
              | (fail))
          generalize hV : World.drew _ = V
          have HN : Hid (QSt V B q' (some ⟨w1.heap.size + 1, 0, none⟩) 1 (some ⟨g, 0, none⟩) qcap) := by rw [← hV, hq']; exact HN0.out.later ⟨rfl, rfl, rfl, Nat.le_refl _, fun _ _ => rfl⟩
          have HBV : Hid (Below w.heap.size w V) := by rw [← hV]; exact below_next (below_next HB1.out HBV0.out) ⟨rfl, rfl, rfl, Nat.le_refl _, fun _ _ => rfl⟩
          clear hV hq' HN0 HBV0 HTh HS3 hS3 HSt5 HV
          have hS1 := HN.out.cells
          have hwq := soundE_wrap q'
          go_wp2_with fail
          go_region_held3 (fun u => u.cell? ⟨B, 0, none⟩ = some (.int .i64 q'.vars) ∧ u.cell? ⟨B, 1, none⟩ = some (.int .i64 q'.atoms) ∧ u.cell? ⟨B, 2, none⟩ = some (.int .i64 q'.locks) ∧ u.cell? ⟨B, 3, none⟩ = some (.slice (some ⟨w1.heap.size + 1, 0, none⟩) q'.chans.length 1) ∧ u.cell? ⟨B, 4, none⟩ = some (.int .i64 q'.groups) ∧ u.cell? ⟨B, 5, none⟩ = some (.int .i64 q'.onces) ∧ u.cell? ⟨B, 6, none⟩ = some (.slice (some ⟨g, 0, none⟩) q'.threads.length qcap)) (first | exact hS1 | exact keep7 (by assumption) hB7 | exact keep7 (by assumption) hB6 | assumption)
            (first
              | (go_at_call 12; refine (sound_any q' (some ⟨w1.heap.size + 1, 0, none⟩) 1 (some ⟨g, 0, none⟩) qcap V.drew (HN.out.inn.later ⟨rfl, rfl, rfl, Nat.le_refl _, fun _ _ => rfl⟩)).mono ?_; rintro e w6 ⟨rfl, hB6⟩)
              | (go_at_call 13; refine (refSound_any q' (some ⟨w1.heap.size + 1, 0, none⟩) 1 (some ⟨g, 0, none⟩) qcap _ (HN.out.inn.later (show Below V.heap.size V w6 from ⟨hB6.os, hB6.tape, hB6.output, hB6.size, hB6.block⟩))).mono ?_; rintro e w7 ⟨rfl, hB7⟩))
          go_wp2
          go_ret
          exact ⟨rfl, below_next HBV.out (below_next (show Below V.heap.size V w6 from ⟨hB6.os, hB6.tape, hB6.output, hB6.size, hB6.block⟩) hB7)⟩

theorem irSounds_walk (p : ProgD) (ca : Option Addr) (ccap : Nat) (ta : Option Addr) (tcap : Nat) (rows : List (List Int)) (a : Option Addr) (cap : Nat) (a2 a3 a4 n : Int) (x : InsD) (w : World)
    (hp : ProgIn w w.heap.size p ca ta) (hpl : ∀ c ∈ p.threads, List.length c ≤ 9223372036854775807) (hl : rows.length ≤ 9223372036854775807) (hr : BytesIn w w.heap.size a rows) (w2 : (Lit.int .u8 a2).wf = true) (w3 : (Lit.int .u8 a3).wf = true) (w4 : (Lit.int .u8 a4).wf = true) (w5 : (Lit.int .i64 n).wf = true) (w6 : x.op < 256) :
    Calls Try.prog 8 #[p.val ca ccap ta tcap, .slice a rows.length cap, .int .u8 a2, .int .u8 a3, .int .u8 a4, .int .i64 n, .agg #[.int .u8 x.op, .int .i64 x.a, .int .i64 x.b, .int .i64 x.c]] w fun e w' => e = .returned (.bool true) ∧ Below w.heap.size w w' := by
  obtain ⟨how, rfl, h2⟩ := u8_nat w2
  obtain ⟨t, rfl, h3⟩ := u8_nat w3
  obtain ⟨at', rfl, h4⟩ := u8_nat w4
  exact irSounds_in p ca ccap ta tcap rows a cap how t at' n x w hp hpl hl hr h2 h3 h4

set_option maxRecDepth 100000 in
theorem irSounds_lifted (os : Os) (started : os.Started) (H : Type) (enc : TypeId × Value → H) :
    ReturnsInHanded {} Try.checked os 8 .any (Rows.irSoundsSpec.pre6 enc Try.prog Try.f8 Rows.irSoundsRow.domain false) (Rows.irSoundsSpec.post enc Try.prog Try.f8 false true false false) := by
  refine returnsInHanded_of_change (C := Try.checked) law_own started (by kernel_rfl) Try.func8
    (ChangeSpec.witness6 (enc := enc) (C := Try.checked) false ⟨#[], #[.agg #[.int .i64 0, .int .i64 0, .int .i64 0, .slice none 0 0, .int .i64 0, .int .i64 0, .slice none 0 0], .slice none 0 0, .int .u8 0, .int .u8 0, .int .u8 0, .int .i64 0, .agg #[.int .u8 0, .int .i64 0, .int .i64 0, .int .i64 0]], []⟩ 8 (by kernel_rfl) (by kernel_rfl) (by kernel_rfl) (by kernel_rfl)) ?_
  intro W base args ds gs before hval0 hW hcnd _
  have hval : ∀ (j : Nat) t v, Try.f8.params[j]? = some t → args[j]? = some v → Value.okWide Try.prog W .any base t v := hval0
  have hW' := hW
  obtain ⟨p, q, hA0, hV, rfl, hfz, hnd⟩ := hW
  have hA : DataW.TrodAll enc Try.prog W 0 (fun _ => true) true Try.f8.params.toList args.toList ds p := hA0
  rw [Try.params8] at hA hval
  obtain ⟨v0, vs0, d0, ds0, p0, q0, hargs, rfl, rfl, h0, r0⟩ := trodAll_cons hA
  obtain ⟨v1, vs1, d1, ds1, p1, q1, rfl, rfl, rfl, h1, r1⟩ := trodAll_cons r0
  obtain ⟨v2, vs2, d2, ds2, p2, q2, rfl, rfl, rfl, h2, r2⟩ := trodAll_cons r1
  obtain ⟨v3, vs3, d3, ds3, p3, q3, rfl, rfl, rfl, h3, r3⟩ := trodAll_cons r2
  obtain ⟨v4, vs4, d4, ds4, p4, q4, rfl, rfl, rfl, h4, r4⟩ := trodAll_cons r3
  obtain ⟨v5, vs5, d5, ds5, p5, q5, rfl, rfl, rfl, h5, r5⟩ := trodAll_cons r4
  obtain ⟨v6, vs6, d6, ds6, p6, q6, rfl, rfl, rfl, h6, r6⟩ := trodAll_cons r5
  obtain ⟨rfl, rfl, rfl⟩ := trodAll_nil r6
  obtain rfl : args = #[v0, v1, v2, v3, v4, v5, v6] := by cases args; simp_all
  obtain ⟨rfl, rfl⟩ := trodVars_none hV
  have k0 := h0
  have lt0 : ∀ x ∈ p0, x.block < W.heap.size := by obtain ⟨m, hm⟩ := k0; exact DataW.trod_lt m _ _ _ hm
  obtain ⟨x0, ca0, cc0, ta0, tc0, rfl, n0, w0⟩ := open_prog (hval 0 26 v0 rfl rfl) h0
  have k1 := h1
  have lt1 : ∀ x ∈ p1, x.block < W.heap.size := by obtain ⟨m, hm⟩ := k1; exact DataW.trod_lt m _ _ _ hm
  obtain ⟨a1, cap1, l1, rfl, n1, w1⟩ := open_rows_u8 (hval 1 22 v1 rfl rfl) h1
  obtain ⟨a2, rfl, rfl, rfl, w2⟩ := open_int Try.underlying5 (hval 2 5 v2 rfl rfl) h2
  obtain ⟨a3, rfl, rfl, rfl, w3⟩ := open_int Try.underlying5 (hval 3 5 v3 rfl rfl) h3
  obtain ⟨a4, rfl, rfl, rfl, w4⟩ := open_int Try.underlying5 (hval 4 5 v4 rfl rfl) h4
  obtain ⟨a5, rfl, rfl, rfl, w5⟩ := open_int Try.underlying3 (hval 5 3 v5 rfl rfl) h5
  have k6 := h6
  have lt6 : ∀ x ∈ p6, x.block < W.heap.size := by obtain ⟨m, hm⟩ := k6; exact DataW.trod_lt m _ _ _ hm
  obtain ⟨x6, rfl, w6⟩ := open_ins (hval 6 30 v6 rfl rfl) h6
  clear hA0 hval0
  refine (irSounds_walk x0 ca0 cc0 ta0 tc0 l1 a1 cap1 a2 a3 a4 a5 x6 W n0 w0 n1 w1 w2 w3 w4 w5 w6).mono fun e W' ⟨he, bel⟩ => ?_
  subst he
  exact ⟨_, rfl, _, _, _, [], _, [], hW', trodAll_mk1 (shut_bool Try.underlying4 _), (trodAll_cons_mk (Below.trod law_laidOut (by kernel_rfl) (of_decide_eq_true (by kernel_rfl)) k0 bel lt0) (trodAll_cons_mk (Below.trod law_laidOut (by kernel_rfl) (of_decide_eq_true (by kernel_rfl)) k1 bel lt1) (trodAll_cons_mk (shut_int Try.underlying5 w2) (trodAll_cons_mk (shut_int Try.underlying5 w3) (trodAll_cons_mk (shut_int Try.underlying5 w4) (trodAll_cons_mk (shut_int Try.underlying3 w5) (trodAll_cons_mk (Below.trod law_laidOut (by kernel_rfl) (of_decide_eq_true (by kernel_rfl)) k6 bel lt6) trodAll_mk0))))))), rfl, bel.frame _, fun h => by cases h⟩

/-- The statement. -/
theorem irSounds_holds : Rows.IrSoundsSaid :=
  OpenClaim.holds_of_wide 8 Try.f8 rfl rfl rfl rfl rfl rfl rfl ⟨rfl, rfl, rfl, rfl, rfl⟩ rfl rfl rfl rfl rfl (by kernel_rfl) Try.func8 (by kernel_rfl)
    (of_decide_eq_true (by kernel_rfl)) (by unfold Func.isWrapper; first | (rw [if_pos (by decide +kernel)]; kernel_rfl) | (rw [if_neg (by decide +kernel)]; exact ⟨rfl, rfl⟩))
    (fun os started H enc _ => irSounds_lifted os started H enc)

end Go.Proofs.Ytpmfolgihdmcjaa
