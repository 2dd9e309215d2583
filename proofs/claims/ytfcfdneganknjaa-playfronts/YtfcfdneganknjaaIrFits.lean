/- What known and fits of package ir return, for every instruction. -/
import Derived.Test.YtfcfdneganknjaaIrAllowed
namespace Go.Proofs.Ytfcfdneganknjaa
set_option linter.unusedVariables false
set_option linter.unusedSimpArgs false
open Go.RowKit

theorem cell_later {u u1 : World} {o : Obj} {g off : Nat} {v : Value} (h : u.cell? ⟨g, off, none⟩ = some v) (hB : Below (u.alloc o).heap.size (u.alloc o) u1) : u1.cell? ⟨g, off, none⟩ = some v := by
  have hlt := cell_lt h
  exact (hB.cell (p := ⟨g, off, none⟩) (by simp; omega)).trans ((World.cell?_alloc_lt _ _ _ hlt).trans h)
theorem block_later {u u1 : World} {o ob : Obj} {g : Nat} (h : u.heap[g]? = some ob) (hB : Below (u.alloc o).heap.size (u.alloc o) u1) : u1.heap[g]? = some ob := by
  have hlt := (Array.getElem?_eq_some_iff.1 h).1
  exact (hB.block g (by simp; omega)).trans ((Below.heap_alloc _ _ _ hlt).trans h)
/-- Two blocks that were new when a call began. -/
theorem kept_two {w w1 : World} {o o' : Obj} (h : Below ((w.alloc o).alloc o').heap.size ((w.alloc o).alloc o') w1) : w1.heap[w.heap.size]? = some o ∧ w1.heap[w.heap.size + 1]? = some o' :=
  ⟨(h.block _ (by simp; omega)).trans (heap_alloc2_old _ _ _), (h.block _ (by simp)).trans (heap_alloc2_new _ _ _)⟩
/-- Has each of the first k numbers that is not nought a word? -/
def wordsB (r : Row) (x : InsD) : Nat → Bool
  | 0 => true
  | k + 1 => wordsB r x k && !(decide (r.at k = 0) && decide (x.at k ≠ 0))
theorem wordsB_stop {r : Row} {x : InsD} {j : Nat} (h : r.at j = 0) (h2 : x.at j ≠ 0) : ∀ k, j < k → wordsB r x k = false
  | 0, hk => by omega
  | k + 1, hk => by
    unfold wordsB
    by_cases e : j = k
    · subst e; simp [h, h2]
    · rw [wordsB_stop h h2 k (by omega)]; rfl
theorem wordsB_on {r : Row} {x : InsD} {k : Nat} (hw : wordsB r x k = true) (h : r.at k ≠ 0 ∨ x.at k = 0) : wordsB r x (k + 1) = true := by
  unfold wordsB; rw [hw]
  rcases h with h | h <;> simp [h]
def knownB (x : InsD) : Bool := wordsB (rowAt x.op) x 3 && decide (x.op < 28)

set_option maxHeartbeats 2000000 in
theorem known_ins (x : InsD) (w : World) :
    Calls Try.prog 67 #[.agg #[.int .u8 x.op, .int .i64 x.a, .int .i64 x.b, .int .i64 x.c]] w fun e w' => e = .returned (.bool (knownB x)) ∧ Below w.heap.size w w' := by
  have H := of_row x.op
  unfold knownB
  generalize rowAt x.op = r at H ⊢
  have H := Lib.hid H
  have hf := field_abc r
  go_enter Try.func67, Try.ntmps67
  go_wp2_with (first
    | (go_at_call 87; refine (H.out _).mono ?_; rintro e w1 ⟨rfl, hB1⟩; obtain ⟨c0, c1, c2, c3⟩ := cells4 (kept_new hB1); have hz : w.heap.size < w1.heap.size := (by have := hB1.size; simp at this; omega))
    | (go_at_call 88; refine (numbers_any _ _ _ _ _).mono ?_; rintro e w2 ⟨rfl, hB2⟩))
  have hR := Lib.hid (kept_new hB2)
  have hB : Below w.heap.size w w2 := (((Below.refl _ _).alloc (Nat.le_refl _) _).trans (hB1.mono (by simp))).alloc (by omega) _ |>.trans (hB2.mono (by simp; omega))
  have hlt1 : w1.heap.size < w2.heap.size := by have := hB2.size; simp at this; omega
  have c0' := cell_later c0 hB2
  clear hB1 hB2 c0 c1 c2 c3
  go_loop [12] (fun i => ∃ j : Nat, j ≤ 3 ∧ i = .int .i64 j ∧ Hid (wordsB r x j = true)) (fun i => 3 - (intOf i).toNat)
  case atStart => exact ⟨0, Nat.zero_le _, rfl, Lib.hid rfl⟩
  case round =>
    obtain ⟨j, hj, rfl, HW⟩ := hrel
    by_cases hlt : j < 3
    · have hi := ins_at x j hlt
      have hq := abc_cell hR.out j hlt
      by_cases hz : r.at j = 0
      · have hz' : (r.at j == 0) = true := by simp [hz]
        by_cases hx : x.at j = 0
        · have hx' : (x.at j != 0) = false := by simp [hx]
          have HN := Lib.hid (wordsB_on HW.out (.inr hx))
          clear hz hx
          go_wp2
          go_round
          case rel => exact ⟨j + 1, by omega, by go_num, HN⟩
          case measure => simp [intOf]; omega
        · have hx' : (x.at j != 0) = true := by simp [hx]
          have HN := Lib.hid (wordsB_stop hz hx 3 hlt)
          clear hz hx
          go_wp2
          go_ret
          exact ⟨ret_bool (by rw [HN.out]; rfl), hB⟩
      · have hz' : (r.at j == 0) = false := by simp [hz]
        have HN := Lib.hid (wordsB_on (x := x) HW.out (.inl hz))
        clear hz
        go_wp2
        go_round
        case rel => exact ⟨j + 1, by omega, by go_num, HN⟩
        case measure => simp [intOf]; omega
    · obtain rfl : j = 3 := by omega
      go_wp2
      go_ret
      exact ⟨ret_bool (by rw [HW.out, Bool.true_and]; exact decide_eq_decide.2 (by omega)), hB⟩

/-- Can each of the first k numbers be what its word says? -/
def fitB (l : List (Option (Int × Int))) (r : Row) (x : InsD) : Nat → Bool
  | 0 => true
  | k + 1 => fitB l r x k && canB (l.getD (r.at k).toNat none) (x.at k)
theorem fitB_stop {l : List (Option (Int × Int))} {r : Row} {x : InsD} {j : Nat} (h : canB (l.getD (r.at j).toNat none) (x.at j) = false) : ∀ k, j < k → fitB l r x k = false
  | 0, hk => by omega
  | k + 1, hk => by
    unfold fitB
    by_cases e : j = k
    · subst e; rw [h, Bool.and_false]
    · rw [fitB_stop h k (by omega)]; rfl
theorem word_all : (List.range 28).all (fun k => decide (0 ≤ (rowAt k).a) && decide ((rowAt k).a < 12) && decide (0 ≤ (rowAt k).b) && decide ((rowAt k).b < 12) && decide (0 ≤ (rowAt k).c) && decide ((rowAt k).c < 12)) = true := by decide
theorem word_lt (op k : Nat) : 0 ≤ (rowAt op).at k ∧ (rowAt op).at k < 12 := by
  rcases Nat.lt_or_ge op 28 with h | h
  · have := List.all_eq_true.1 word_all op (by simpa using h)
    simp only [Bool.and_eq_true, decide_eq_true_eq] at this
    unfold Row.at; split
    · omega
    · split <;> omega
  · rw [rowAt_out op h]; unfold Row.at noRow; split
    · simp
    · split <;> simp
def fitsB (p : ProgD) (n : Nat) (x : InsD) : Bool := fitB (canL p n) (rowAt x.op) x 3

set_option maxHeartbeats 2000000 in
theorem fits_any (p : ProgD) (n : Nat) (fs : List Value) (x : InsD) (w : World) (hc : CansIn w p n fs) :
    Calls Try.prog 69 #[.agg #[.int .u8 x.op, .int .i64 x.a, .int .i64 x.b, .int .i64 x.c], .agg fs.toArray] w fun e w' => e = .returned (.bool (fitsB p n x)) ∧ Below w.heap.size w w' := by
  have H := of_row x.op
  have HWd := Lib.hid (word_lt x.op)
  unfold fitsB
  generalize rowAt x.op = r at H HWd ⊢
  have H := Lib.hid H
  have HC := Lib.hid hc
  clear hc
  have hf := field_abc r
  go_enter Try.func69, Try.ntmps69
  go_wp2_with (first
    | (go_at_call 87; refine (H.out _).mono ?_; rintro e w1 ⟨rfl, hB1⟩; obtain ⟨k0, k1⟩ := kept_two hB1; have hK1 := Lib.hid k1; obtain ⟨c0, c1, c2, c3⟩ := cells4 k0; have hz : w.heap.size + 1 < w1.heap.size := (by have := hB1.size; simp at this; omega); have hz2 : w.heap.size < w1.heap.size := (by omega); clear k0 k1)
    | (go_at_call 88; refine (numbers_any _ _ _ _ _).mono ?_; rintro e w2 ⟨rfl, hB2⟩))
  have hR := Lib.hid (kept_new hB2)
  have hF := Lib.hid (block_later hK1.out hB2)
  have hB : Below w.heap.size w w2 := ((((Below.refl _ _).alloc (Nat.le_refl _) _).alloc (by simp) _).trans (hB1.mono (by simp; omega))).alloc (by omega) _ |>.trans (hB2.mono (by simp; omega))
  have hlt1 : w1.heap.size < w2.heap.size := by have := hB2.size; simp at this; omega
  clear hB1 hB2 c0 c1 c2 c3
  go_loop [14] (fun i => ∃ j : Nat, j ≤ 3 ∧ i = .int .i64 j ∧ Hid (fitB (canL p n) r x j = true)) (fun i => 3 - (intOf i).toNat)
  case atStart => exact ⟨0, Nat.zero_le _, rfl, Lib.hid rfl⟩
  case round =>
    obtain ⟨j, hj, rfl, HW⟩ := hrel
    by_cases hlt : j < 3
    · have hi := ins_at x j hlt
      have hq := abc_cell hR.out j hlt
      obtain ⟨hm0, hm1⟩ := HWd.out j
      obtain ⟨m, hm⟩ := Int.eq_ofNat_of_zero_le hm0
      have hm12 : m < 12 := by omega
      obtain ⟨f, hf0⟩ := at_lt (l := fs) (k := m) (by rw [HC.out.len]; exact hm12)
      obtain ⟨g, hg0⟩ := at_lt (l := canL p n) (k := m) hm12
      obtain ⟨fn, caps, rfl, hfn, hcall⟩ := HC.out.fn m f g hf0 hg0
      have hcf : w2.cell? ⟨w.heap.size + 1, m, none⟩ = some (.func (.func fn) #[] caps) := by
        rw [cell_of_row _ _ _ _ _ _ hF.out]; simpa using hf0
      have HX := Lib.hid (show canB ((canL p n).getD (r.at j).toNat none) (x.at j) = canB g (x.at j) by
        rw [hm, List.getD_eq_getElem?_getD, Int.toNat_natCast, hg0]; rfl)
      have hcall' := Lib.hid (hcall (x.at j) w2 hB)
      have hfn' := hfn (x.at j)
      rw [hm] at hq
      clear hf0 hg0 hfn hcall hm hm0 hm1
      cases hb : canB g (x.at j)
      · have HN := Lib.hid (fitB_stop (HX.out.trans hb) 3 hlt)
        rw [hb] at hcall'
        clear hb
        go_wp2_with fail
        refine (hcall'.out).mono ?_
        rintro e w3 ⟨rfl, rfl⟩
        go_wp2
        go_ret
        exact ⟨ret_bool (by rw [HN.out]), hB⟩
      · have HN := Lib.hid (show fitB (canL p n) r x (j + 1) = true by unfold fitB; rw [HW.out, HX.out, hb]; rfl)
        rw [hb] at hcall'
        clear hb
        go_wp2_with fail
        refine (hcall'.out).mono ?_
        rintro e w3 ⟨rfl, rfl⟩
        go_wp2
        go_round
        case rel => exact ⟨j + 1, by omega, by go_num, HN⟩
        case measure => simp [intOf]; omega
    · obtain rfl : j = 3 := by omega
      go_wp2
      go_ret
      exact ⟨ret_bool HW.out.symm, hB⟩

end Go.Proofs.Ytfcfdneganknjaa
