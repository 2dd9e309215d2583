/- What order's count, holds and Direct answer. -/
import Derived.Test.YtkhhkjinlkpdlaaOrderRules
namespace Go.Proofs.Ytkhhkjinlkpdlaa
set_option linter.unusedVariables false
set_option linter.unusedSimpArgs false
set_option maxRecDepth 100000
open Go.ChangeShapes Go.WideShapes Go.ChangeAt Go.RowKit

/-- Events lie at an address, in a block below B. -/
def EvsIn (w : World) (B : Nat) (a : Option Addr) (t : List EvD) : Prop := ∀ k e, t[k]? = some e → ∃ g o, a = some ⟨g, o, none⟩ ∧ g < B ∧ EvAt w g (o + k * 6) e
theorem EvsIn.later {w u : World} {a : Option Addr} {t : List EvD} (h : EvsIn w w.heap.size a t) (hB : Below w.heap.size w u) : EvsIn u u.heap.size a t := fun k e hk => by
  obtain ⟨g, o, h1, h2, h3⟩ := h k e hk
  exact ⟨g, o, h1, Nat.lt_of_lt_of_le h2 hB.size, h3.later hB⟩
theorem EvsIn.take {w : World} {B : Nat} {a : Option Addr} {t : List EvD} (h : EvsIn w B a t) (n : Nat) : EvsIn w B a (t.take n) := fun k e hk => by
  rw [List.getElem?_take] at hk
  split at hk
  · exact h k e hk
  · cases hk
theorem cnt_snoc (s : Sd) (x : Int) {t : List EvD} {k : Nat} {e : EvD} (h : t[k]? = some e) : cntS s x (t.take (k + 1)) = cntS s x (t.take k) + (if isS s x e then 1 else 0) := by
  rw [List.take_add_one, h]
  unfold cntS
  rw [List.countP_append]
  simp [List.countP_cons]
set_option maxHeartbeats 4000000 in
theorem count_any (s : Sd) (v : Value) (a : Option Addr) (cap : Nat) (t : List EvD) (x : Int) (w : World) (he : EvsIn w w.heap.size a t) (hl : t.length ≤ 1000000) (hs : SideV (fun _ => False) w v s) :
    Calls Try.prog 38 #[.slice a t.length cap, v, .int .i64 x] w fun e w' => e = .returned (.int .i64 (cntS s x t)) ∧ Below w.heap.size w w' := by
  obtain ⟨fn, vc, rfl, hcf, hS⟩ := hs
  have HS := Lib.hid hS
  have HE := Lib.hid he
  clear he hS
  go_enter Try.func38, Try.ntmps38
  go_wp2_with fail
  go_loopw [7, 14] (fun c i u => ∃ k : Nat, k ≤ t.length ∧ i = .int .i64 k ∧ c = .int .i64 (cntS s x (t.take k)) ∧ Below w.heap.size w u) (fun c i _ => t.length - (intOf i).toNat)
  case atStart => exact ⟨0, Nat.zero_le _, rfl, rfl, Below.refl _ _⟩
  case round =>
    obtain ⟨k, hk, rfl, rfl, hB⟩ := hrel
    have HB := Lib.hid hB
    clear hB
    by_cases hlt : k < t.length
    · obtain ⟨e, hx⟩ := at_lt hlt
      obtain ⟨g, o, rfl, hg, h0, h1, h2, h3, h4, h5⟩ := (HE.out.later HB.out) k e hx
      have hk1 : (k : Int) < (t.length : Int) := by omega
      have hcn : cntS s x (t.take k) ≤ k := by
        have := List.countP_le_length (p := isS s x) (l := t.take k)
        rw [List.length_take] at this
        unfold cntS; omega
      obtain ⟨th, pc, op, obj, val, mode⟩ := e
      have hC := fun o => HS.out _ (Touch.of_below (below_new HB.out o)) ⟨th, pc, op, obj, val, mode⟩
      have hI := cnt_snoc s x hx
      unfold isS at hI
      rcases hse : s ⟨th, pc, op, obj, val, mode⟩ with ⟨y, b⟩
      rw [hse] at hI
      simp only [hse] at hC
      have HC := Lib.hid hC
      have HI := Lib.hid hI
      have HX := Lib.hid hx
      clear hC hI hse hx
      have hcn2 : cntS s x (t.take k) < 9223372036854775807 := by omega
      rcases b with _ | _
      · go_wp2_with (refine (HC.out _).mono ?_; rintro e w1 ⟨rfl, hB1⟩; have HB1 := Lib.hid hB1; clear hB1)
        go_wp2
        go_roundw
        case rel => exact ⟨k + 1, by omega, by go_num, by rw [HI.out]; rfl, below_next (below_new HB.out _) HB1.out⟩
        case measure => simp [intOf]; omega
      · by_cases hyx : y = x
        · subst hyx
          go_wp2_with (refine (HC.out _).mono ?_; rintro e w1 ⟨rfl, hB1⟩; have HB1 := Lib.hid hB1; clear hB1)
          go_wp2
          go_roundw
          case rel => exact ⟨k + 1, by omega, by go_num, by rw [HI.out, show (true && y == y) = true by simp]; simp; try go_num, below_next (below_new HB.out _) HB1.out⟩
          case measure => simp [intOf]; omega
        · have hyx' : (y == x) = false := by simpa using hyx
          go_wp2_with (refine (HC.out _).mono ?_; rintro e w1 ⟨rfl, hB1⟩; have HB1 := Lib.hid hB1; clear hB1)
          go_wp2
          go_roundw
          case rel => exact ⟨k + 1, by omega, by go_num, by rw [HI.out, hyx']; rfl, below_next (below_new HB.out _) HB1.out⟩
          case measure => simp [intOf]; omega
    · obtain rfl : k = t.length := by omega
      have HT : Hid (t.take t.length = t) := Lib.hid List.take_length
      go_wp2
      go_ret
      exact ⟨by rw [HT.out]; rfl, HB.out⟩
theorem keepC {u u' : World} {g o : Nat} {v : Value} (hB : Below u.heap.size u u') (h : u.cell? ⟨g, o, none⟩ = some v) : u'.cell? ⟨g, o, none⟩ = some v := (hB.cell (p := ⟨g, o, none⟩) (cell_lt h)).trans h
theorem keepO8 {u u' : World} {g0 o0 g1 o1 g2 o2 g3 o3 g4 o4 g5 o5 g6 o6 g7 o7 : Nat} {v0 v1 v2 v3 v4 v5 v6 v7 : Value} (k : u.cell? ⟨g0, o0, none⟩ = some v0 ∧ u.cell? ⟨g1, o1, none⟩ = some v1 ∧ u.cell? ⟨g2, o2, none⟩ = some v2 ∧ u.cell? ⟨g3, o3, none⟩ = some v3 ∧ u.cell? ⟨g4, o4, none⟩ = some v4 ∧ u.cell? ⟨g5, o5, none⟩ = some v5 ∧ u.cell? ⟨g6, o6, none⟩ = some v6 ∧ u.cell? ⟨g7, o7, none⟩ = some v7) (hB : Below u.heap.size u u') : u'.cell? ⟨g0, o0, none⟩ = some v0 ∧ u'.cell? ⟨g1, o1, none⟩ = some v1 ∧ u'.cell? ⟨g2, o2, none⟩ = some v2 ∧ u'.cell? ⟨g3, o3, none⟩ = some v3 ∧ u'.cell? ⟨g4, o4, none⟩ = some v4 ∧ u'.cell? ⟨g5, o5, none⟩ = some v5 ∧ u'.cell? ⟨g6, o6, none⟩ = some v6 ∧ u'.cell? ⟨g7, o7, none⟩ = some v7 := ⟨keepC hB k.1, keepC hB k.2.1, keepC hB k.2.2.1, keepC hB k.2.2.2.1, keepC hB k.2.2.2.2.1, keepC hB k.2.2.2.2.2.1, keepC hB k.2.2.2.2.2.2.1, keepC hB k.2.2.2.2.2.2.2⟩
theorem keepO3 {u u' : World} {g0 o0 g1 o1 g2 o2 : Nat} {v0 v1 v2 : Value} (k : u.cell? ⟨g0, o0, none⟩ = some v0 ∧ u.cell? ⟨g1, o1, none⟩ = some v1 ∧ u.cell? ⟨g2, o2, none⟩ = some v2) (hB : Below u.heap.size u u') : u'.cell? ⟨g0, o0, none⟩ = some v0 ∧ u'.cell? ⟨g1, o1, none⟩ = some v1 ∧ u'.cell? ⟨g2, o2, none⟩ = some v2 := ⟨keepC hB k.1, keepC hB k.2.1, keepC hB k.2.2⟩
theorem box3 {u : World} {g : Nat} {v0 v1 v2 : Value} {t : TypeId} {fr : Nat × Nat} (h : u.heap[g]? = some (.cells #[v0, v1, v2] t fr)) : u.cell? ⟨g, 0, none⟩ = some v0 ∧ u.cell? ⟨g, 1, none⟩ = some v1 ∧ u.cell? ⟨g, 2, none⟩ = some v2 :=
  ⟨cell_of_row _ _ 0 _ _ _ h, cell_of_row _ _ 1 _ _ _ h, cell_of_row _ _ 2 _ _ _ h⟩
end Go.Proofs.Ytkhhkjinlkpdlaa
