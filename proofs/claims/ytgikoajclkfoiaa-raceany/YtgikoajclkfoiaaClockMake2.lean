/- What Tick returns; the laws' small numbers. -/
import Derived.Test.YtgikoajclkfoiaaClockMake
namespace Go.Proofs.Ytgikoajclkfoiaa
set_option linter.unusedVariables false
set_option linter.unusedSimpArgs false
set_option maxRecDepth 100000
open Go.ChangeShapes Go.WideShapes Go.ChangeAt Go.RowKit

theorem own_row {w : World} {B : Nat} {a : Option Addr} {cap : Nat} {l : List Int} (h : w.ownsRow B 3 1 (.slice a l.length cap) l.length (l.map (.int .i64 ·))) : RowOf .i64 w w.heap.size a l := by
  obtain ⟨a', cap', e, _, hr⟩ := RowOf.own h
  cases e
  exact hr
/-- Numbers at an address, in a row of ints. -/
def RowI (w : World) (a : Option Addr) (l : List Int) : Prop := ∀ i x, l[i]? = some x → ∃ c off cs fr, a = some ⟨c, off, none⟩ ∧ w.heap[c]? = some (.cells cs 3 fr) ∧ cs[off + i]? = some (.int .i64 x)
theorem RowI.row {w : World} {a : Option Addr} {l : List Int} (h : RowI w a l) : RowOf .i64 w w.heap.size a l := fun i x hx => by
  obtain ⟨c, off, cs, fr, h1, h2, h3⟩ := h i x hx
  exact ⟨c, off, h1, (Array.getElem?_eq_some_iff.1 h2).1, (cell_of_row _ _ _ _ _ _ h2).trans h3⟩
theorem RowI.up {w w' : World} {a : Option Addr} {l : List Int} (h : RowI w a l) (hB : Below w.heap.size w w') : RowI w' a l := fun i x hx => by
  obtain ⟨c, off, cs, fr, h1, h2, h3⟩ := h i x hx
  exact ⟨c, off, cs, fr, h1, old_later h2 hB, h3⟩
theorem own_rowI {w : World} {B : Nat} {a : Option Addr} {cap : Nat} {l : List Int} (h : w.ownsRow B 3 1 (.slice a l.length cap) l.length (l.map (.int .i64 ·))) : RowI w a l := fun i x hx => by
  have hi := (List.getElem?_eq_some_iff.1 hx).1
  rcases h.2 with ⟨e, h0⟩ | ⟨g, cap', cur, e, hb, hg, hn, hc, hs, ht⟩
  · omega
  · cases e
    refine ⟨g, 0, cur, (0, 0), rfl, hg, ?_⟩
    have : (cur.toList.take (l.length * 1))[i]? = some (.int .i64 x) := by rw [ht, List.getElem?_map, hx]; rfl
    rw [List.getElem?_take_of_lt (by omega)] at this
    simpa using this
/-- A clock that a call made: it lies in rows of its own. -/
def Made (w0 w : World) (e : Ending) (L : List Int) : Prop := ∃ a cap M, Hid (M = L) ∧ e = .returned (.slice a M.length cap) ∧ RowI w a M ∧ Below w0.heap.size w0 w
theorem set_tick {l L : List Int} {i : Nat} {x : Int} (hL : L = padL l (i + 1)) (hx : L[i]? = some x) : L.set i (wrap64 (x + 1)) = tickN l i := by
  have hlen : L.length = max l.length (i + 1) := by rw [hL, pad_len]
  have hxa : atN l i = x := by rw [← pad_at l (i + 1) i, ← hL]; exact atN_some hx
  refine fill_ext (by rw [List.length_set, hlen]) fun k hk => ?_
  by_cases h : k = i
  · subst h
    rw [List.getElem?_set_self (by omega), if_pos rfl, hxa]
  · rw [List.getElem?_set_ne (by omega), if_neg h, hL, padL, fill_get _ _ _ hk]
theorem map_set (L : List Int) (i : Nat) (x : Int) : (L.map (Value.int .i64 ·)).set i (.int .i64 x) = (L.set i x).map (Value.int .i64 ·) := by rw [List.map_set]

theorem own_ge {w : World} {B g n cap : Nat} {xs : List Value} {t : TypeId} (h : w.ownsRow B t 1 (.slice (some ⟨g, 0, none⟩) n cap) n xs) : B ≤ g := by
  rcases h.2 with ⟨e, _⟩ | ⟨g', cap, cur, e, hb, _⟩
  · cases e
  · cases e; exact hb

set_option maxHeartbeats 400000 in
theorem tick_any (l : List Int) (a : Option Addr) (cap : Nat) (i : Int) (w : World) (ha : RowOf .i64 w w.heap.size a l) (hl : l.length ≤ 900) :
    Calls Try.prog 39 #[.slice a l.length cap, .int .i64 i] w fun e w' => Made w w' e (tickL l i) := by
  have HA := Lib.hid ha
  clear ha
  by_cases h0 : i < 0
  · have HX := Lib.hid (tick_out l i (.inl h0))
    go_enter Try.func39, Try.ntmps39
    go_wp2_with (refine (copied_any l a cap 0 w HA.out (by omega) (by omega)).mono ?_; rintro e w1 ⟨g, L, hL, rfl, hown, hB⟩; have HO := Lib.hid hown; have HB := Lib.hid hB; clear hown hB)
    go_ret
    exact ⟨_, _, L, by rw [hL.out, pad_zero, HX.out]; exact Lib.hid rfl, rfl, own_rowI HO.out, HB.out⟩
  · by_cases h1 : 64 ≤ i
    · have HX := Lib.hid (tick_out l i (.inr h1))
      go_enter Try.func39, Try.ntmps39
      go_wp2_with (refine (copied_any l a cap 0 w HA.out (by omega) (by omega)).mono ?_; rintro e w1 ⟨g, L, hL, rfl, hown, hB⟩; have HO := Lib.hid hown; have HB := Lib.hid hB; clear hown hB)
      go_ret
      exact ⟨_, _, L, by rw [hL.out, pad_zero, HX.out]; exact Lib.hid rfl, rfl, own_rowI HO.out, HB.out⟩
    · obtain ⟨k, rfl⟩ := Int.eq_ofNat_of_zero_le (by omega : 0 ≤ i)
      have hk : k < 64 := by omega
      have hk' : (k : Int) < 64 := by omega
      rw [tick_nat l k hk]
      clear h0 h1
      go_enter Try.func39, Try.ntmps39
      go_wp2_with fail
      refine (copied_any l a cap (k + 1) w HA.out (by omega) (by omega)).mono ?_
      rintro e w1 ⟨g, L, hL, rfl, hown, hB⟩
      have hkL : k < L.length := by rw [hL.out, pad_len]; omega
      obtain ⟨x, hx⟩ := at_len hkL
      have c1 : w1.cell? ⟨g, k, none⟩ = some (.int .i64 x) := by rw [hown.cellAt k (by omega), List.getElem?_map, hx]; rfl
      have f1 := hown.frozenAt k
      have HO := Lib.hid (hown.stored k (.int .i64 (wrap64 (x + 1)))).1
      have hG := (hown.stored k (.int .i64 (wrap64 (x + 1)))).2
      have HB := Lib.hid (show Below w.heap.size w (w1.setCell ⟨g, k, none⟩ (.int .i64 (wrap64 (x + 1)))) from hB.setCell (p := ⟨g, k, none⟩) (own_ge hown) _)
      have HX := Lib.hid (set_tick hL.out hx)
      clear hown hB hx hG
      go_wp2
      go_ret
      refine ⟨some ⟨g, 0, none⟩, L.length, L.set k (wrap64 (x + 1)), ?_, ?_, ?_, HB.out⟩
      · exact Lib.hid HX.out
      · rw [List.length_set]; rfl
      · have q := HO.out
        rw [map_set] at q
        exact own_rowI (by rw [List.length_set]; exact q)
end Go.Proofs.Ytgikoajclkfoiaa
