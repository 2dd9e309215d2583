/- The events that race's laws make of choices: OrderTrace in this seat. -/
import Derived.Test.YtgikoajclkfoiaaRaceKnown
namespace Go.Proofs.Ytgikoajclkfoiaa
set_option linter.unusedVariables false
set_option linter.unusedSimpArgs false
set_option maxRecDepth 100000
open Go.ChangeShapes Go.WideShapes Go.ChangeAt Go.RowKit Go.Maps

theorem info_ev8 : (Try.prog.info? 26).map (fun i => (i.zero, i.size, i.bytes)) = some (some (evV 0 0 0 0 0 0), 6, 48) := by kernel_rfl
def opsT : List Int := [7, 8, 12, 13, 14, 15, 16, 17, 18, 19, 20, 21, 22, 23, 24, 25, 26, 27, 7, 8, 20, 21, 9]
def opT (A : Nat) : Int := opsT.getD (A % 23) 0
/-- An event, as choices say. -/
def trE (p : Nat × Nat) : EvD := ⟨(p.2 : Int) % 3, 0, opT p.1, (p.2 : Int) / 4 % 2, (p.2 : Int) / 32 - 3, (p.2 : Int) / 8 % 3⟩
def trL (l : List (Nat × Nat)) : List EvD := (l.take 25).map trE
theorem trL_len (l : List (Nat × Nat)) : (trL l).length = min 25 l.length := by simp [trL]
theorem trL_wf (l : List (Nat × Nat)) : ∀ e ∈ trL l, EvW e := by
  intro e he
  obtain ⟨p, _, rfl⟩ := List.mem_map.1 he
  exact ⟨WalkArith.wf_i64 (by simp only [trE]; omega), WalkArith.wf_i64 (by simp only [trE]; omega)⟩
theorem trL_stop {l : List (Nat × Nat)} {q : Nat} (h : q = 25 ∨ l.length ≤ q) : trL (l.take q) = trL l := by
  unfold trL
  rcases h with rfl | h
  · rw [List.take_take, Nat.min_self]
  · rw [List.take_of_length_le h]
theorem trL_next {l : List (Nat × Nat)} {q : Nat} {p : Nat × Nat} (hp : l[q]? = some p) (hq : q < 25) : trL (l.take (q + 1)) = trL (l.take q) ++ [trE p] := by
  unfold trL
  rw [List.take_take, List.take_take, Nat.min_eq_right (by omega), Nat.min_eq_right (by omega), List.take_add_one, hp]
  simp
theorem tr_nums {B : Nat} (h : B ≤ 255) : IntKind.i64.wrap ((B : Int).tmod 3) = (B : Int) % 3 ∧ IntKind.i64.wrap ((IntKind.u8.wrap ((B : Int) / 4)).tmod 2) = (B : Int) / 4 % 2 ∧ IntKind.i64.wrap (IntKind.i64.wrap (IntKind.u8.wrap ((B : Int) / 32)) - 3) = (B : Int) / 32 - 3 ∧ IntKind.i64.wrap ((IntKind.u8.wrap ((B : Int) / 8)).tmod 3) = (B : Int) / 8 % 3 := by
  have w4 : IntKind.u8.wrap ((B : Int) / 4) = (B : Int) / 4 := by rw [IntKind.wrap_u8]; omega
  have w8 : IntKind.u8.wrap ((B : Int) / 8) = (B : Int) / 8 := by rw [IntKind.wrap_u8]; omega
  have w32 : IntKind.u8.wrap ((B : Int) / 32) = (B : Int) / 32 := by rw [IntKind.wrap_u8]; omega
  have i1 : ∀ x : Int, -1000 ≤ x → x ≤ 1000 → IntKind.i64.wrap x = x := fun x h1 h2 => IntWalk.i64_in _ ⟨by omega, by omega⟩
  refine ⟨?_, ?_, ?_, ?_⟩
  · rw [Int.tmod_eq_emod_of_nonneg (by omega)]; exact i1 _ (by omega) (by omega)
  · rw [w4, Int.tmod_eq_emod_of_nonneg (by omega)]; exact i1 _ (by omega) (by omega)
  · rw [w32, i1 ((B : Int) / 32) (by omega) (by omega), i1 ((B : Int) / 32 - 3) (by omega) (by omega)]
  · rw [w8, Int.tmod_eq_emod_of_nonneg (by omega)]; exact i1 _ (by omega) (by omega)
/-- Choices that came in. -/
structure RawIn (w : World) (a : Option Addr) (l : List (Nat × Nat)) : Prop where
  cell : ∀ (k : Nat) (p : Nat × Nat), l[k]? = some p → ∃ g o, a = some ⟨g, o, none⟩ ∧ g < w.heap.size ∧ w.cell? ⟨g, o + k * 2, none⟩ = some (.int .u8 p.1) ∧ w.cell? ⟨g, o + k * 2 + 1, none⟩ = some (.int .u8 p.2)
  wf : ∀ p ∈ l, p.1 ≤ 255 ∧ p.2 ≤ 255
theorem cells_new (w : World) (l : List Value) (t : TypeId) : ∀ j u, l[j]? = some u → (w.alloc (.cells l.toArray t)).cell? ((⟨w.heap.size, 0, none⟩ : Addr).add j) = some u := by
  intro j u hj
  rw [Addr.add_mid, Nat.zero_add, cell_of_row _ _ _ _ _ _ (heap_alloc_new _ _)]
  simpa using hj
/-- Events of the call's own, so far. -/
def EvR (w : World) (t : List EvD) (v : Value) (V : World) : Prop := ∃ (xa : Option Addr) (xc : Nat), v = .slice xa t.length xc ∧ t.length ≤ xc ∧ V.ownsRow w.heap.size 26 6 v t.length (evsCells t) ∧ Below w.heap.size w V
def TraceE (l : List (Nat × Nat)) (w : World) (e : Ending) (V : World) : Prop := ∃ v, e = .returned v ∧ EvR w (trL l) v V
set_option maxHeartbeats 4000000 in
theorem trace_any (a : Option Addr) (cap : Nat) (l : List (Nat × Nat)) (w : World) (h : RawIn w a l) (hl : l.length ≤ 9223372036854775807) :
    Calls Try.prog 11 #[.slice a l.length cap] w (TraceE l w) := by
  obtain ⟨ti, hi0, iz0, iz1, iz2⟩ := info_parts info_ev8
  have HC := Lib.hid h.cell
  have HWf := Lib.hid h.wf
  clear h
  have HP0 : Hid (EvR w (trL (l.take 0)) (.slice none 0 0) w) := Lib.hid ⟨none, 0, rfl, Nat.le_refl _, World.ownsRow_nil _ _ _ _, Below.refl _ _⟩
  go_enter Try.func11, Try.ntmps11
  go_upto_region 2 with (fail)
  generalize hU : World.alloc w _ = U
  have HNO : Hid (U.heap[w.heap.size]? = some (.cells (opsT.map (Value.int .u8 ·)).toArray 5)) := Lib.hid (by rw [← hU]; exact heap_alloc_new _ _)
  have HU := Lib.hid (show Below w.heap.size w U by rw [← hU]; exact below_box _ _)
  have HP1 : Hid (EvR U (trL (l.take 0)) (.slice none 0 0) U) := Lib.hid ⟨none, 0, rfl, Nat.le_refl _, World.ownsRow_nil _ _ _ _, Below.refl _ _⟩
  clear hU HP0
  go_wp2_with fail
  go_loopw [5, 4] (fun i v V => ∃ q : Nat, q ≤ l.length ∧ q ≤ 25 ∧ i = .int .i64 q ∧ EvR U (trL (l.take q)) v V) (fun i _ _ => 25 - (intOf i).toNat)
  case atStart => exact ⟨0, Nat.zero_le _, by omega, rfl, HP1.out⟩
  case round =>
    obtain ⟨q, hq, hq25, rfl, xa, xc, rfl, hxc, hxo, hUB⟩ := hrel
    have hrl : (trL (l.take q)).length = q := by rw [trL_len, List.length_take]; omega
    have HXO := Lib.hid hxo
    have HUB := Lib.hid hUB
    have HXB := Lib.hid (below_next HU.out hUB)
    have hbs : U.heap.size ≤ wr.heap.size := hUB.size
    rw [hrl] at HXO
    rw [hrl] at hxc
    simp only [hrl]
    clear hxo hUB
    by_cases hlt : q < l.length
    · have hlt' : (q : Int) < (l.length : Int) := by omega
      by_cases h25 : q < 25
      · obtain ⟨p, hp⟩ := at_lt hlt
        obtain ⟨g, o, rfl, hg, c0, c1⟩ := HC.out q p hp
        obtain ⟨A, B⟩ := p
        have hAB := HWf.out _ (List.mem_of_getElem? hp)
        simp only at c0 c1 hAB
        have h25' : decide ((q : Int) < 25) = true := decide_eq_true (by omega)
        have hA255 : (A : Int) ≤ 255 := by omega
        have hB255 : (B : Int) ≤ 255 := by omega
        have hA00 : (0 : Int) ≤ (A : Int) := by omega
        have hB00 : (0 : Int) ≤ (B : Int) := by omega
        obtain ⟨M, hM, hMn⟩ : ∃ M : Nat, (A : Int) % 23 = (M : Int) ∧ A % 23 = M := ⟨A % 23, by omega, rfl⟩
        have hM1 : (M : Int) < 23 := by omega
        have hwA : IntKind.i64.wrap (A : Int) = (A : Int) := IntWalk.i64_in _ ⟨by omega, by omega⟩
        have htm : (A : Int).tmod 23 = (M : Int) := by rw [Int.tmod_eq_emod_of_nonneg hA00]; exact hM
        have hM2 : M < 23 := by omega
        have hop : wr.cell? ⟨w.heap.size, M, none⟩ = some (.int .u8 (opT A)) := by
          rw [cell_of_row _ _ _ _ _ _ (old_later HNO.out HUB.out)]
          simp only [List.getElem?_toArray, List.getElem?_map, opT, hMn]
          have hm : M < opsT.length := by simp [opsT]; omega
          rw [List.getElem?_eq_getElem hm, List.getD_eq_getElem?_getD, List.getElem?_eq_getElem hm]; rfl
        have HPp := Lib.hid hp
        have K0' : wr.cell? ⟨g, o + q * 2, none⟩ = some (.int .u8 A) ∧ wr.cell? ⟨g, o + q * 2 + 1, none⟩ = some (.int .u8 B) ∧ wr.cell? ⟨w.heap.size, M, none⟩ = some (.int .u8 (opT A)) := ⟨keepC HXB.out c0, keepC HXB.out c1, hop⟩
        have K0 : wr.drew.cell? ⟨g, o + q * 2, none⟩ = some (.int .u8 A) ∧ wr.drew.cell? ⟨g, o + q * 2 + 1, none⟩ = some (.int .u8 B) ∧ wr.drew.cell? ⟨w.heap.size, M, none⟩ = some (.int .u8 (opT A)) := K0'
        clear hp c0 c1 hop K0' hMn
        go_upto_region 6 with (fail)
        go_region_held3 (fun u => u.cell? ⟨g, o + q * 2, none⟩ = some (.int .u8 A) ∧ u.cell? ⟨g, o + q * 2 + 1, none⟩ = some (.int .u8 B) ∧ u.cell? ⟨w.heap.size, M, none⟩ = some (.int .u8 (opT A))) (first | with_reducible exact K0 | exact keepO3 K0 (below_box _ _) | fail) (fail)
        generalize hZ : World.drew (World.alloc wr _) = Z
        have hN := (congrArg (fun x : World => x.heap[wr.heap.size]?) hZ).symm.trans (heap_alloc_new _ _)
        obtain ⟨f1, f2, f3, f4⟩ := tr_nums hAB.2
        rw [f1, f2, f3, f4] at hN
        have HZ := Lib.hid (show Below wr.heap.size wr Z by rw [← hZ]; exact (below_box _ _).drew)
        have HNX := Lib.hid (trL_next HPp.out h25)
        obtain ⟨e0, e1, e2, e3, e4, e5⟩ := cells6 hN
        have HXZ := Lib.hid (own_later HXO.out HZ.out)
        have hzs := HZ.out.size
        clear hN hZ f1 f2 f3 f4 K0 hM htm hwA
        go_wp2_with (first
          | (at_builtin; refine wpList_append_own_at _ rfl _ _ 24 rfl U.heap.size 26 ti (evV 0 0 0 0 0 0) 6 48 Try.underlying24 hi0 iz0 iz1 iz2 rfl (by decide) (.slice xa q xc) q (evsCells (trL (l.take q))) rfl (own_later HXZ.out (below_box Z _)) ⟨Z.heap.size, 0, none⟩ 1 1 (evCells (trE (A, B))) rfl rfl (cells_new Z _ _) (ev_one _) (by unfold maxLen; omega) (by omega) (by simp; omega) ?_; intro v6 w6 hown6 hgrow6 _ hat6
             have HB6 : Hid (Below U.heap.size U w6) := Lib.hid ((below_new (below_next HUB.out HZ.out) (.cells (evCells (trE (A, B))).toArray 26)).trans ((Below.refl _ _).grown hgrow6 (by have := HUB.out.size; simp; omega) (fun g e => (own_lt HXO.out g e).2)))
             obtain ⟨ya, yc, rfl⟩ := own_slice0 hown6
             have HO6 := Lib.hid hown6
             have HYC : Hid (q + 1 ≤ yc) := Lib.hid (by
               rcases hown6.2 with ⟨_, h0⟩ | ⟨g', c', cur, e', _, _, hle, _⟩
               · omega
               · injection e' with e1 e2 e3; omega)
             clear hown6 hgrow6 hat6))
        go_roundw
        case rel => exact ⟨q + 1, by omega, by omega, by go_num, ya, yc, by rw [HNX.out, List.length_append, hrl]; rfl, by rw [HNX.out, List.length_append, hrl]; exact HYC.out, by rw [HNX.out, List.length_append, hrl, evsCells_snoc]; exact HO6.out, HB6.out⟩
        case measure => simp [intOf]; omega
      · have h25' : decide ((q : Int) < 25) = false := decide_eq_false (by omega)
        have hst := trL_stop (l := l) (q := q) (.inl (by omega))
        have HST := Lib.hid hst
        clear hst
        go_wp2_with fail
        go_ret
        have hr2 : (trL l).length = q := by rw [← HST.out]; exact hrl
        exact ⟨_, rfl, xa, xc, by rw [hr2]; rfl, by rw [hr2]; exact hxc, by rw [hr2, ← HST.out]; exact own_base HXO.out HU.out.size, HXB.out⟩
    · have hlt' : ¬ (q : Int) < (l.length : Int) := by omega
      have hst := trL_stop (l := l) (q := q) (.inr (by omega))
      have HST := Lib.hid hst
      clear hst
      go_wp2_with fail
      go_ret
      have hr2 : (trL l).length = q := by rw [← HST.out]; exact hrl
      exact ⟨_, rfl, xa, xc, by rw [hr2]; rfl, by rw [hr2]; exact hxc, by rw [hr2, ← HST.out]; exact own_base HXO.out HU.out.size, HXB.out⟩
end Go.Proofs.Ytgikoajclkfoiaa
