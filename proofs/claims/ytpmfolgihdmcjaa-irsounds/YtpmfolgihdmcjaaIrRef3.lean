/- What the document's own many and ins of layer 2 return, in the table's words, for every instruction. -/
import Derived.Test.YtpmfolgihdmcjaaIrRef2
import Derived.Deep.RegionHeld3
namespace Go.Proofs.Ytpmfolgihdmcjaa
set_option linter.unusedVariables false
set_option linter.unusedSimpArgs false
open Go.RowKit

/-- How many things of a word there are. -/
def manyR (p : ProgD) (n : Int) (y : Int) : Int :=
  if y = 1 ∨ y = 2 then 4 else if y = 6 then p.vars else if y = 4 then n + 1 else if y = 5 then (p.threads.length : Int) else if y = 8 then p.locks else if y = 7 then p.atoms else if y = 9 then (p.chans.length : Int) else if y = 10 then p.groups else p.onces

set_option maxHeartbeats 1000000 in
theorem refMany_1 (p : ProgD) (ca : Option Addr) (ccap : Nat) (ta : Option Addr) (tcap n : Nat) (w : World) (hn : n ≤ 60) :
    Calls Try.prog 51 #[p.val ca ccap ta tcap, .int .i64 2, .int .i64 n] w fun e w' => e = .returned (.int .i64 4) ∧ Below w.heap.size w w' := by
  go_enter Try.func51, Try.ntmps51
  go_wp2
  go_ret
  exact ⟨rfl, (Below.refl _ _).alloc (Nat.le_refl _) _⟩
set_option maxHeartbeats 1000000 in
theorem refMany_2 (p : ProgD) (ca : Option Addr) (ccap : Nat) (ta : Option Addr) (tcap n : Nat) (w : World) (hn : n ≤ 60) :
    Calls Try.prog 51 #[p.val ca ccap ta tcap, .int .i64 3, .int .i64 n] w fun e w' => e = .returned (.int .i64 4) ∧ Below w.heap.size w w' := by
  go_enter Try.func51, Try.ntmps51
  go_wp2
  go_ret
  exact ⟨rfl, (Below.refl _ _).alloc (Nat.le_refl _) _⟩
set_option maxHeartbeats 1000000 in
theorem refMany_4 (p : ProgD) (ca : Option Addr) (ccap : Nat) (ta : Option Addr) (tcap n : Nat) (w : World) (hn : n ≤ 60) :
    Calls Try.prog 51 #[p.val ca ccap ta tcap, .int .i64 5, .int .i64 n] w fun e w' => e = .returned (.int .i64 ((n : Int) + 1)) ∧ Below w.heap.size w w' := by
  go_enter Try.func51, Try.ntmps51
  go_wp2
  go_ret
  exact ⟨rfl, (Below.refl _ _).alloc (Nat.le_refl _) _⟩
set_option maxHeartbeats 1000000 in
theorem refMany_5 (p : ProgD) (ca : Option Addr) (ccap : Nat) (ta : Option Addr) (tcap n : Nat) (w : World) (hn : n ≤ 60) :
    Calls Try.prog 51 #[p.val ca ccap ta tcap, .int .i64 6, .int .i64 n] w fun e w' => e = .returned (.int .i64 (p.threads.length : Int)) ∧ Below w.heap.size w w' := by
  go_enter Try.func51, Try.ntmps51
  go_wp2
  go_ret
  exact ⟨rfl, (Below.refl _ _).alloc (Nat.le_refl _) _⟩
set_option maxHeartbeats 1000000 in
theorem refMany_6 (p : ProgD) (ca : Option Addr) (ccap : Nat) (ta : Option Addr) (tcap n : Nat) (w : World) (hn : n ≤ 60) :
    Calls Try.prog 51 #[p.val ca ccap ta tcap, .int .i64 4, .int .i64 n] w fun e w' => e = .returned (.int .i64 p.vars) ∧ Below w.heap.size w w' := by
  go_enter Try.func51, Try.ntmps51
  go_wp2
  go_ret
  exact ⟨rfl, (Below.refl _ _).alloc (Nat.le_refl _) _⟩
set_option maxHeartbeats 1000000 in
theorem refMany_7 (p : ProgD) (ca : Option Addr) (ccap : Nat) (ta : Option Addr) (tcap n : Nat) (w : World) (hn : n ≤ 60) :
    Calls Try.prog 51 #[p.val ca ccap ta tcap, .int .i64 8, .int .i64 n] w fun e w' => e = .returned (.int .i64 p.atoms) ∧ Below w.heap.size w w' := by
  go_enter Try.func51, Try.ntmps51
  go_wp2
  go_ret
  exact ⟨rfl, (Below.refl _ _).alloc (Nat.le_refl _) _⟩
set_option maxHeartbeats 1000000 in
theorem refMany_8 (p : ProgD) (ca : Option Addr) (ccap : Nat) (ta : Option Addr) (tcap n : Nat) (w : World) (hn : n ≤ 60) :
    Calls Try.prog 51 #[p.val ca ccap ta tcap, .int .i64 7, .int .i64 n] w fun e w' => e = .returned (.int .i64 p.locks) ∧ Below w.heap.size w w' := by
  go_enter Try.func51, Try.ntmps51
  go_wp2
  go_ret
  exact ⟨rfl, (Below.refl _ _).alloc (Nat.le_refl _) _⟩
set_option maxHeartbeats 1000000 in
theorem refMany_9 (p : ProgD) (ca : Option Addr) (ccap : Nat) (ta : Option Addr) (tcap n : Nat) (w : World) (hn : n ≤ 60) :
    Calls Try.prog 51 #[p.val ca ccap ta tcap, .int .i64 9, .int .i64 n] w fun e w' => e = .returned (.int .i64 (p.chans.length : Int)) ∧ Below w.heap.size w w' := by
  go_enter Try.func51, Try.ntmps51
  go_wp2
  go_ret
  exact ⟨rfl, (Below.refl _ _).alloc (Nat.le_refl _) _⟩
set_option maxHeartbeats 1000000 in
theorem refMany_10 (p : ProgD) (ca : Option Addr) (ccap : Nat) (ta : Option Addr) (tcap n : Nat) (w : World) (hn : n ≤ 60) :
    Calls Try.prog 51 #[p.val ca ccap ta tcap, .int .i64 10, .int .i64 n] w fun e w' => e = .returned (.int .i64 p.groups) ∧ Below w.heap.size w w' := by
  go_enter Try.func51, Try.ntmps51
  go_wp2
  go_ret
  exact ⟨rfl, (Below.refl _ _).alloc (Nat.le_refl _) _⟩
set_option maxHeartbeats 1000000 in
theorem refMany_11 (p : ProgD) (ca : Option Addr) (ccap : Nat) (ta : Option Addr) (tcap n : Nat) (w : World) (hn : n ≤ 60) :
    Calls Try.prog 51 #[p.val ca ccap ta tcap, .int .i64 11, .int .i64 n] w fun e w' => e = .returned (.int .i64 p.onces) ∧ Below w.heap.size w w' := by
  go_enter Try.func51, Try.ntmps51
  go_wp2
  go_ret
  exact ⟨rfl, (Below.refl _ _).alloc (Nat.le_refl _) _⟩
theorem refMany_any (p : ProgD) (ca : Option Addr) (ccap : Nat) (ta : Option Addr) (tcap n : Nat) (y : Nat) (w : World) (hn : n ≤ 60) (h0 : 1 ≤ y) (h1 : y < 12) (h3 : y ≠ 3) :
    Calls Try.prog 51 #[p.val ca ccap ta tcap, .int .i64 (tr y), .int .i64 n] w fun e w' => e = .returned (.int .i64 (manyR p n y)) ∧ Below w.heap.size w w' := by
  match y, h0, h1, h3 with
  | 1, _, _, _ => exact refMany_1 p ca ccap ta tcap n w hn
  | 2, _, _, _ => exact refMany_2 p ca ccap ta tcap n w hn
  | 4, _, _, _ => exact refMany_4 p ca ccap ta tcap n w hn
  | 5, _, _, _ => exact refMany_5 p ca ccap ta tcap n w hn
  | 6, _, _, _ => exact refMany_6 p ca ccap ta tcap n w hn
  | 7, _, _, _ => exact refMany_7 p ca ccap ta tcap n w hn
  | 8, _, _, _ => exact refMany_8 p ca ccap ta tcap n w hn
  | 9, _, _, _ => exact refMany_9 p ca ccap ta tcap n w hn
  | 10, _, _, _ => exact refMany_10 p ca ccap ta tcap n w hn
  | 11, _, _, _ => exact refMany_11 p ca ccap ta tcap n w hn
  | 3, _, _, h => exact absurd rfl h
  | y + 12, _, h, _ => omega

/-- What the row's words ask, in these words. -/
theorem can_none (p : ProgD) (n : Nat) : canB ((canL p n).getD 0 none) 0 = true := rfl
theorem can_num (p : ProgD) (n : Nat) (v : Int) : canB ((canL p n).getD 3 none) v = true := rfl
theorem can_many (p : ProgD) (n : Nat) (y : Nat) (v : Int) (h0 : 1 ≤ y) (h1 : y < 12) (h3 : y ≠ 3) : canB ((canL p n).getD y none) v = (decide (0 ≤ v) && decide (v < manyR p n y) && !(decide (y = 5) && decide (v = 0))) := by
  rw [Bool.eq_iff_iff]
  match y, h0, h1, h3 with
  | 1, _, _, _ => simp [canL, canB, wiB, manyR]; omega
  | 2, _, _, _ => simp [canL, canB, wiB, manyR]; omega
  | 4, _, _, _ => simp [canL, canB, wiB, manyR]; omega
  | 5, _, _, _ => simp [canL, canB, wiB, manyR]; omega
  | 6, _, _, _ => simp [canL, canB, wiB, manyR]; omega
  | 7, _, _, _ => simp [canL, canB, wiB, manyR]; omega
  | 8, _, _, _ => simp [canL, canB, wiB, manyR]; omega
  | 9, _, _, _ => simp [canL, canB, wiB, manyR]; omega
  | 10, _, _, _ => simp [canL, canB, wiB, manyR]; omega
  | 11, _, _, _ => simp [canL, canB, wiB, manyR]; omega
  | 3, _, _, h => exact absurd rfl h
  | y + 12, _, h, _ => omega

theorem wordsB_none {r : Row} {x : InsD} : ∀ {k j : Nat}, wordsB r x k = true → j < k → r.at j = 0 → x.at j = 0
  | k + 1, j, h, hj, h0 => by
    unfold wordsB at h
    rw [Bool.and_eq_true] at h
    by_cases e : j = k
    · subst e
      have := h.2
      simpa [h0] using this
    · exact wordsB_none h.1 (by omega) h0
theorem insE_unknown (p : ProgD) (n : Nat) (x : InsD) (h : knownB x = false) : insE p n x = 20 := by unfold insE; rw [h]; rfl
theorem insE_known (p : ProgD) (n : Nat) (x : InsD) (h : knownB x = true) : insE p n x = unE (fitsB p n x) 21 := by
  unfold insE; rw [h]
  show firstE [0, _] = _
  show firstE [unE (fitsB p n x) 21] = _
  unfold firstE firstE; split <;> simp_all

def conj9 (u : World) (gn gr bp j : Nat) (v t : Int) (c0 c1 c2 c3 c4 c5 c6 : Value) : Prop := u.cell? ⟨gn, j, none⟩ = some (.int .i64 v) ∧ u.cell? ⟨gr, j, none⟩ = some (.int .i64 t) ∧ u.cell? ⟨bp, 0, none⟩ = some c0 ∧ u.cell? ⟨bp, 1, none⟩ = some c1 ∧ u.cell? ⟨bp, 2, none⟩ = some c2 ∧ u.cell? ⟨bp, 3, none⟩ = some c3 ∧ u.cell? ⟨bp, 4, none⟩ = some c4 ∧ u.cell? ⟨bp, 5, none⟩ = some c5 ∧ u.cell? ⟨bp, 6, none⟩ = some c6
theorem keepC {u u' : World} {b o : Nat} {v : Value} (h : u.cell? ⟨b, o, none⟩ = some v) (hB : Below u.heap.size u u') : u'.cell? ⟨b, o, none⟩ = some v := (hB.cell (p := ⟨b, o, none⟩) (cell_lt h)).trans h
theorem keep9 {u u' : World} {gn gr bp j : Nat} {v t : Int} {c0 c1 c2 c3 c4 c5 c6 : Value} (h : conj9 u gn gr bp j v t c0 c1 c2 c3 c4 c5 c6) (hB : Below u.heap.size u u') : conj9 u' gn gr bp j v t c0 c1 c2 c3 c4 c5 c6 := by
  obtain ⟨h0, h1, h2, h3, h4, h5, h6, h7, h8⟩ := h
  exact ⟨keepC h0 hB, keepC h1 hB, keepC h2 hB, keepC h3 hB, keepC h4 hB, keepC h5 hB, keepC h6 hB, keepC h7 hB, keepC h8 hB⟩
theorem cells7' {w : World} {g : Nat} {a b c d e f h : Value} {t : TypeId} {fr : Nat × Nat} (hb : w.heap[g]? = some (.cells #[a, b, c, d, e, f, h] t fr)) :
    w.cell? ⟨g, 0, none⟩ = some a ∧ w.cell? ⟨g, 1, none⟩ = some b ∧ w.cell? ⟨g, 2, none⟩ = some c ∧ w.cell? ⟨g, 3, none⟩ = some d ∧ w.cell? ⟨g, 4, none⟩ = some e ∧ w.cell? ⟨g, 5, none⟩ = some f ∧ w.cell? ⟨g, 6, none⟩ = some h :=
  ⟨cell_of_row w g 0 _ _ _ hb, cell_of_row w g 1 _ _ _ hb, cell_of_row w g 2 _ _ _ hb, cell_of_row w g 3 _ _ _ hb, cell_of_row w g 4 _ _ _ hb, cell_of_row w g 5 _ _ _ hb, cell_of_row w g 6 _ _ _ hb⟩

theorem kept_three {w w1 : World} {a b c : Obj} (h : Below (((w.alloc a).alloc b).alloc c).heap.size (((w.alloc a).alloc b).alloc c) w1) : w1.heap[w.heap.size]? = some a ∧ w1.heap[w.heap.size + 1]? = some b ∧ w1.heap[w.heap.size + 1 + 1]? = some c := by
  have hs : ((w.alloc a).alloc b).heap.size = w.heap.size + 1 + 1 := by simp
  refine ⟨(h.block _ (by first | (simp; done) | (simp; omega))).trans ((Below.heap_alloc _ _ _ (by first | (simp; done) | (simp; omega))).trans (heap_alloc2_old _ _ _)), (h.block _ (by first | (simp; done) | (simp; omega))).trans ((Below.heap_alloc _ _ _ (by first | (simp; done) | (simp; omega))).trans (heap_alloc2_new _ _ _)), ?_⟩
  refine (h.block (w.heap.size + 1 + 1) (by first | (simp; done) | (simp; omega))).trans ?_
  rw [← hs]; exact heap_alloc_new _ _
theorem tr_bool0 (y : Nat) (h : y < 12) (h0 : y ≠ 0) : (tr (y : Int) == 0) = false := by
  rw [beq_eq_false_iff_ne]; intro e; exact h0 (by have := (tr_none (x := y) (by omega) (by omega)).1 e; omega)
theorem tr_bool1 (y : Nat) (h : y < 12) (h3 : y ≠ 3) : (tr (y : Int) == 1) = false := by
  have hall : (List.range 12).all (fun y => decide (y = 3) || !(tr (y : Int) == 1)) = true := by decide
  have := List.all_eq_true.1 hall y (by simpa using h)
  simpa [h3] using this
theorem tr_bool6 (y : Nat) (h : y < 12) : (tr (y : Int) == 6) = decide (y = 5) := by
  have hall : (List.range 12).all (fun y => (tr (y : Int) == 6) == decide (y = 5)) = true := by decide
  simpa using List.all_eq_true.1 hall y (by simpa using h)
/-- The second loop's relation. -/
def RelIns (p : ProgD) (n : Nat) (r : Row) (x : InsD) (w2 : World) (i : Value) (u : World) : Prop := ∃ j : Nat, j ≤ 3 ∧ i = .int .i64 j ∧ fitB (canL p n) r x j = true ∧ Below w2.heap.size w2 u

set_option maxRecDepth 100000 in
set_option maxHeartbeats 8000000 in
theorem refIns_any (p : ProgD) (ca : Option Addr) (ccap : Nat) (ta : Option Addr) (tcap n : Nat) (x : InsD) (w : World) (hn : n ≤ 60) :
    Calls Try.prog 37 #[p.val ca ccap ta tcap, .agg #[.int .u8 x.op, .int .i64 x.a, .int .i64 x.b, .int .i64 x.c], .int .i64 n] w fun e w' => e = .returned (.int .i64 (insE p n x)) ∧ Below w.heap.size w w' := by
  have H := refRow_any x.op
  have HWd := Lib.hid (word_lt x.op)
  have HU := Lib.hid (insE_unknown p n x)
  have HKn := Lib.hid (insE_known p n x)
  unfold knownB at HU HKn
  unfold fitsB at HKn
  generalize rowAt x.op = r at H HWd HU HKn ⊢
  have H := Lib.hid H
  go_enter Try.func37, Try.ntmps37
  go_wp2_with (first
    | (go_at_call 39; refine (H.out _).mono ?_; rintro e w1 ⟨rfl, rfl⟩)
    | (go_at_call 50; refine (refNumbers_any _ _ _ _ _).mono ?_; rintro e w2 ⟨rfl, hN2, hB2⟩))
  have hs3 : (((w.alloc (.cells #[.int .i64 p.vars, .int .i64 p.atoms, .int .i64 p.locks, .slice ca p.chans.length ccap, .int .i64 p.groups, .int .i64 p.onces, .slice ta p.threads.length tcap] 26)).alloc (.cells #[.int .u8 x.op, .int .i64 x.a, .int .i64 x.b, .int .i64 x.c] 30)).alloc (.cells #[.int .i64 (tr r.a), .int .i64 (tr r.b), .int .i64 (tr r.c)] 3)).heap.size = w.heap.size + 1 + 1 + 1 := by simp
  obtain ⟨kp, kx, kr⟩ := kept_three hB2
  rw [hs3] at hN2
  have hB : Below w.heap.size w w2 := ((((Below.refl _ _).alloc (Nat.le_refl _) _).alloc (by simp) _).alloc (by simp; omega) _).trans (hB2.mono (by simp; omega))
  have HNm := Lib.hid hN2
  have HRw := Lib.hid kr
  have cx := (cells4 kx).1
  obtain ⟨p0, p1, p2, p3, p4, p5, p6⟩ := cells7' kp
  have HP := Lib.hid kp
  have hL := lt_of_blk hN2
  clear kp kx kr hB2 hN2 hs3
  by_cases hop : x.op < 28
  · have hd : decide ((27 : Int) < (x.op : Int)) = false := by simp; omega
    go_loop [9] (fun i => ∃ j : Nat, j ≤ 3 ∧ i = .int .i64 j ∧ Hid (wordsB r x j = true)) (fun i => 3 - (intOf i).toNat)
    case atStart => exact ⟨0, Nat.zero_le _, rfl, Lib.hid rfl⟩
    case round =>
      obtain ⟨j, hj, rfl, HW⟩ := hrel
      by_cases hlt : j < 3
      · have hrj := tr_cell HRw.out j hlt
        have hnj := num_cell HNm.out j hlt
        obtain ⟨hy0, hy1⟩ := HWd.out j
        by_cases hz : r.at j = 0
        · have hz' : (tr (r.at j) == 0) = true := by simpa using (tr_none hy0 hy1).2 hz
          by_cases hx : x.at j = 0
          · have hx' : (x.at j != 0) = false := by simp [hx]
            have HN := Lib.hid (wordsB_on HW.out (.inr hx))
            clear hz hx
            go_wp2
            go_round
            case rel => exact ⟨j + 1, by omega, by go_num, HN⟩
            case measure => simp [intOf]; omega
          · have hx' : (x.at j != 0) = true := by simp [hx]
            have HN := Lib.hid (HU.out (by rw [wordsB_stop hz hx 3 hlt]; rfl))
            clear hz hx
            go_wp2
            go_ret
            exact ⟨ret_int HN.out.symm, hB⟩
        · have hz' : (tr (r.at j) == 0) = false := by simpa using fun h => hz ((tr_none hy0 hy1).1 h)
          have HN := Lib.hid (wordsB_on (x := x) HW.out (.inl hz))
          clear hz
          go_wp2
          go_round
          case rel => exact ⟨j + 1, by omega, by go_num, HN⟩
          case measure => simp [intOf]; omega
      · obtain rfl : j = 3 := by omega
        have HE := Lib.hid (HKn.out (by rw [HW.out]; simp [hop]))
        go_wp2_with fail
        go_loopw [10] (fun i u => RelIns p n r x w2 i u) (fun i _ => 3 - (intOf i).toNat)
        case atStart => exact ⟨0, Nat.zero_le _, rfl, rfl, Below.refl _ _⟩
        case round =>
          obtain ⟨j, hj, rfl, hF, hb⟩ := hrel
          have HF := Lib.hid hF
          clear hF
          by_cases hlt : j < 3
          · have hrj := tr_cell ((hb.block _ (by omega)).trans HRw.out) j hlt
            have hnj := num_cell ((hb.block _ hL).trans HNm.out) j hlt
            obtain ⟨p0, p1, p2, p3, p4, p5, p6⟩ := cells7' ((hb.block _ (by omega)).trans HP.out)
            obtain ⟨hy0, hy1⟩ := HWd.out j
            obtain ⟨y, hy⟩ := Int.eq_ofNat_of_zero_le hy0
            have hy12 : y < 12 := by omega
            by_cases hz : y = 0
            · have hz' : (tr (r.at j) == 0) = true := by rw [hy, hz]; decide
              have HN := Lib.hid (show fitB (canL p n) r x (j + 1) = true by
                unfold fitB
                rw [HF.out, hy, hz, wordsB_none HW.out hlt (by rw [hy, hz]; rfl)]; rfl)
              clear hy hz
              go_wp2
              go_roundw
              case rel => exact ⟨j + 1, by omega, by go_num, HN.out, hb⟩
              case measure => simp [intOf]; omega
            · by_cases hz3 : y = 3
              · have hz' : (tr (r.at j) == 0) = false := by rw [hy, hz3]; decide
                have hz1 : (tr (r.at j) == 1) = true := by rw [hy, hz3]; decide
                have HN := Lib.hid (show fitB (canL p n) r x (j + 1) = true by
                  unfold fitB
                  rw [HF.out, hy, hz3]; rfl)
                clear hy hz
                go_wp2
                go_roundw
                case rel => exact ⟨j + 1, by omega, by go_num, HN.out, hb⟩
                case measure => simp [intOf]; omega
              · have hz' : (tr (r.at j) == 0) = false := by rw [hy]; exact tr_bool0 y hy12 hz
                have hz1 : (tr (r.at j) == 1) = false := by rw [hy]; exact tr_bool1 y hy12 hz3
                have h6 : (tr (r.at j) == 6) = decide (y = 5) := by rw [hy]; exact tr_bool6 y hy12
                have HCan := Lib.hid (can_many p n y (x.at j) (by omega) hy12 hz3)
                have HMany := Lib.hid (fun u => refMany_any p ca ccap ta tcap n y u hn (by omega) hy12 hz3)
                rw [hy] at hrj hz' hz1 h6
                have HToN := Lib.hid (show (r.at j).toNat = y by rw [hy]; simp)
                have HFit := Lib.hid (show fitB (canL p n) r x (j + 1) = canB ((canL p n).getD y none) (x.at j) by unfold fitB; rw [HF.out, hy]; simp)
                generalize manyR p n (y : Int) = M at HMany HCan
                clear hy hz
                have mkStop : canB ((canL p n).getD y none) (x.at j) = false → Hid (fitB (canL p n) r x 3 = false) := fun h => Lib.hid (fitB_stop (by rw [HToN.out]; exact h) 3 hlt)
                by_cases hv0 : x.at j < 0
                · have HStop := mkStop (by rw [HCan.out]; simp; omega)
                  have hv' : decide (x.at j < 0) = true := by simp [hv0]
                  clear mkStop
                  go_wp2_with fail
                  go_quiet (fail)
                  go_wp2
                  go_ret
                  exact ⟨ret_int (by rw [HE.out, HStop.out]; rfl), below_next hB (below_next hb (below_draws (Below.refl _ _) _))⟩
                · have hv' : decide (x.at j < 0) = false := by simp; omega
                  by_cases hvM : M ≤ x.at j
                  · have HStop := mkStop (by rw [HCan.out]; simp; omega)
                    have hvM' : decide (M ≤ x.at j) = true := by simp [hvM]
                    clear mkStop
                    go_wp2_with fail
                    refine wp_region_noPanic ?_
                    refine wp_region_held_drew (S := (fun u => u.cell? ⟨w.heap.size + 1 + 1 + 1 + 1, j, none⟩ = some (.int .i64 (x.at j)) ∧ u.cell? ⟨w.heap.size + 1 + 1, j, none⟩ = some (.int .i64 (tr (y : Int))) ∧ u.cell? ⟨w.heap.size, 0, none⟩ = some (.int .i64 p.vars) ∧ u.cell? ⟨w.heap.size, 1, none⟩ = some (.int .i64 p.atoms) ∧ u.cell? ⟨w.heap.size, 2, none⟩ = some (.int .i64 p.locks) ∧ u.cell? ⟨w.heap.size, 3, none⟩ = some (.slice ca p.chans.length ccap) ∧ u.cell? ⟨w.heap.size, 4, none⟩ = some (.int .i64 p.groups) ∧ u.cell? ⟨w.heap.size, 5, none⟩ = some (.int .i64 p.onces) ∧ u.cell? ⟨w.heap.size, 6, none⟩ = some (.slice ta p.threads.length tcap))) (by kernel_rfl) ⟨hnj, hrj, p0, p1, p2, p3, p4, p5, p6⟩ (fun hHeld => ?_)
                    refine wpAnyH_take (i := 0) (v := ?va1) rfl (by kernel_rfl) (by kernel_rfl) (by kernel_rfl) (fun _ _ _ h => h) (Or.inl ⟨by rfl, ?hy1⟩) (by assumption) ?rest1
                    case hy1 => (intro w' hSw; (try dsimp only at hSw); go_simp; try with_reducible rfl)
                    simp only [Act.put, List.getElem_toArray, List.getElem_cons_zero, List.getElem_cons_succ, List.setIfInBounds_toArray, List.set_cons_zero, List.set_cons_succ]
                    refine wpAnyH_take (i := 1) (v := ?va2) rfl (by kernel_rfl) (by kernel_rfl) (by kernel_rfl) (fun _ _ _ h => h) (Or.inl ⟨by rfl, ?hy2⟩) (by assumption) ?rest2
                    case hy2 => (intro w' hSw; (try dsimp only at hSw); go_simp; try with_reducible rfl)
                    simp only [Act.put, List.getElem_toArray, List.getElem_cons_zero, List.getElem_cons_succ, List.setIfInBounds_toArray, List.set_cons_zero, List.set_cons_succ]
                    refine wpAnyH_take (i := 2) (v := ?va3) rfl (by kernel_rfl) (by kernel_rfl) (by kernel_rfl) (fun _ _ _ h => h) (Or.inl ⟨by rfl, ?hy3⟩) (by assumption) ?rest3
                    case hy3 => (intro w' hSw; (try dsimp only at hSw); go_simp; try with_reducible rfl)
                    simp only [Act.put, List.getElem_toArray, List.getElem_cons_zero, List.getElem_cons_succ, List.setIfInBounds_toArray, List.set_cons_zero, List.set_cons_succ]
                    refine wpAnyH_take (i := 3) (v := ?va4) rfl (by kernel_rfl) (by kernel_rfl) (by kernel_rfl) (fun _ _ _ h => h) (Or.inl ⟨by rfl, ?hy4⟩) (by assumption) ?rest4
                    case hy4 => (intro w' hSw; (try dsimp only at hSw); go_simp; try with_reducible rfl)
                    simp only [Act.put, List.getElem_toArray, List.getElem_cons_zero, List.getElem_cons_succ, List.setIfInBounds_toArray, List.set_cons_zero, List.set_cons_succ]
                    refine wpAnyH_take (i := 4) (v := ?va5) rfl (by kernel_rfl) (by kernel_rfl) (by kernel_rfl) (fun _ _ _ h => h) (Or.inl ⟨by rfl, ?hy5⟩) (by assumption) ?rest5
                    case hy5 => (intro w' hSw; (try dsimp only at hSw); go_simp; try with_reducible rfl)
                    simp only [Act.put, List.getElem_toArray, List.getElem_cons_zero, List.getElem_cons_succ, List.setIfInBounds_toArray, List.set_cons_zero, List.set_cons_succ]
                    refine wpAnyH_take (i := 5) (v := ?va6) rfl (by kernel_rfl) (by kernel_rfl) (by kernel_rfl) (fun _ _ _ h => h) (Or.inl ⟨by rfl, ?hy6⟩) (by assumption) ?rest6
                    case hy6 => (intro w' hSw; (try dsimp only at hSw); go_simp; try with_reducible rfl)
                    simp only [Act.put, List.getElem_toArray, List.getElem_cons_zero, List.getElem_cons_succ, List.setIfInBounds_toArray, List.set_cons_zero, List.set_cons_succ]
                    refine wpAnyH_take (i := 6) (v := ?va7) rfl (by kernel_rfl) (by kernel_rfl) (by kernel_rfl) (fun _ _ _ h => h) (Or.inl ⟨by rfl, ?hy7⟩) (by assumption) ?rest7
                    case hy7 => (intro w' hSw; (try dsimp only at hSw); go_simp; try with_reducible rfl)
                    simp only [Act.put, List.getElem_toArray, List.getElem_cons_zero, List.getElem_cons_succ, List.setIfInBounds_toArray, List.set_cons_zero, List.set_cons_succ]
                    refine wpAnyH_take (i := 7) (v := ?va8) rfl (by kernel_rfl) (by kernel_rfl) (by kernel_rfl) (fun _ _ _ h => h) (Or.inl ⟨by rfl, ?hy8⟩) (by assumption) ?rest8
                    case hy8 => (intro w' hSw; (try dsimp only at hSw); go_simp; try with_reducible rfl)
                    simp only [Act.put, List.getElem_toArray, List.getElem_cons_zero, List.getElem_cons_succ, List.setIfInBounds_toArray, List.set_cons_zero, List.set_cons_succ]
                    refine wpAnyH_take (i := 8) (v := ?va9) rfl (by kernel_rfl) (by kernel_rfl) (by kernel_rfl) (fun _ _ _ h => h) (Or.inl ⟨by rfl, ?hy9⟩) (by assumption) ?rest9
                    case hy9 => (intro w' hSw; (try dsimp only at hSw); go_simp; try with_reducible rfl)
                    simp only [Act.put, List.getElem_toArray, List.getElem_cons_zero, List.getElem_cons_succ, List.setIfInBounds_toArray, List.set_cons_zero, List.set_cons_succ]
                    refine wpAnyH_take (i := 9) (v := ?va10) rfl (by kernel_rfl) (by kernel_rfl) (by kernel_rfl) (fun _ _ _ h => h) (Or.inl ⟨by rfl, ?hy10⟩) (by assumption) ?rest10
                    case hy10 => (intro w' hSw; (try dsimp only at hSw); go_simp; try with_reducible rfl)
                    simp only [Act.put, List.getElem_toArray, List.getElem_cons_zero, List.getElem_cons_succ, List.setIfInBounds_toArray, List.set_cons_zero, List.set_cons_succ]
                    refine wpAnyH_take (i := 10) (v := ?va11) rfl (by kernel_rfl) (by kernel_rfl) (by kernel_rfl) (fun _ _ _ h => h) (Or.inl ⟨by rfl, ?hy11⟩) (by assumption) ?rest11
                    case hy11 => (intro w' hSw; (try dsimp only at hSw); go_simp; try with_reducible rfl)
                    simp only [Act.put, List.getElem_toArray, List.getElem_cons_zero, List.getElem_cons_succ, List.setIfInBounds_toArray, List.set_cons_zero, List.set_cons_succ]
                    refine wpAnyH_take (i := 11) (v := ?va12) rfl (by kernel_rfl) (by kernel_rfl) (by kernel_rfl) (fun _ _ _ h => h) (Or.inl ⟨by rfl, ?hy12⟩) (by assumption) ?rest12
                    case hy12 => (intro w' hSw; (try dsimp only at hSw); go_simp; try with_reducible rfl)
                    simp only [Act.put, List.getElem_toArray, List.getElem_cons_zero, List.getElem_cons_succ, List.setIfInBounds_toArray, List.set_cons_zero, List.set_cons_succ]
                    refine wpAnyH_take (i := 12) (v := ?va13) rfl (by kernel_rfl) (by kernel_rfl) (by kernel_rfl) (fun _ _ _ h => h) (Or.inl ⟨by rfl, ?hy13⟩) (by assumption) ?rest13
                    case hy13 => (intro w' hSw; (try dsimp only at hSw); go_simp; try with_reducible rfl)
                    simp only [Act.put, List.getElem_toArray, List.getElem_cons_zero, List.getElem_cons_succ, List.setIfInBounds_toArray, List.set_cons_zero, List.set_cons_succ]
                    refine wpAnyH_take (i := 13) (v := ?va14) rfl (by kernel_rfl) (by kernel_rfl) (by kernel_rfl) (fun _ _ _ h => h) (Or.inl ⟨by rfl, ?hy14⟩) (by assumption) ?rest14
                    case hy14 => (intro w' hSw; (try dsimp only at hSw); go_simp; try with_reducible rfl)
                    simp only [Act.put, List.getElem_toArray, List.getElem_cons_zero, List.getElem_cons_succ, List.setIfInBounds_toArray, List.set_cons_zero, List.set_cons_succ]
                    refine wpAnyH_take (i := 14) (v := ?va15) rfl (by kernel_rfl) (by kernel_rfl) (by kernel_rfl) (fun _ _ _ h => h) (Or.inl ⟨by rfl, ?hy15⟩) (by assumption) ?rest15
                    case hy15 => (intro w' hSw; (try dsimp only at hSw); go_simp; try with_reducible rfl)
                    simp only [Act.put, List.getElem_toArray, List.getElem_cons_zero, List.getElem_cons_succ, List.setIfInBounds_toArray, List.set_cons_zero, List.set_cons_succ]
                    refine wpAnyH_take (i := 15) (v := ?va16) rfl (by kernel_rfl) (by kernel_rfl) (by kernel_rfl) (fun _ _ _ h => h) (Or.inl ⟨by rfl, ?hy16⟩) (by assumption) ?rest16
                    case hy16 => (intro w' hSw; (try dsimp only at hSw); go_simp; try with_reducible rfl)
                    simp only [Act.put, List.getElem_toArray, List.getElem_cons_zero, List.getElem_cons_succ, List.setIfInBounds_toArray, List.set_cons_zero, List.set_cons_succ]
                    refine wpAnyH_ready (rs := [16]) (by kernel_rfl) (by simp) ?_
                    refine AllReadyH.cons rfl (fun K hK => ?_) AllReadyH.nil
                    go_simp
                    refine (HMany.out _).mono ?_
                    rintro e w3 ⟨rfl, hB3⟩
                    refine hK.out _ _ (keep9 hHeld hB3) (fun hHeld2 => ?_)
                    clear hK K hHeld
                    try simp only [Act.put, List.getElem_toArray, List.getElem_cons_zero, List.getElem_cons_succ, List.setIfInBounds_toArray, List.set_cons_zero, List.set_cons_succ]
                    refine wpAnyH_take (i := 17) (v := ?va17) rfl (by kernel_rfl) (by kernel_rfl) (by kernel_rfl) (fun _ _ _ h => h) (Or.inl ⟨by rfl, ?hy17⟩) (by assumption) ?rest17
                    case hy17 => (intro w' hSw; (try dsimp only at hSw); go_simp; try with_reducible rfl)
                    simp only [Act.put, List.getElem_toArray, List.getElem_cons_zero, List.getElem_cons_succ, List.setIfInBounds_toArray, List.set_cons_zero, List.set_cons_succ]
                    refine wpAnyH_take (i := 18) (v := ?va18) rfl (by kernel_rfl) (by kernel_rfl) (by kernel_rfl) (fun _ _ _ h => h) (Or.inl ⟨by rfl, ?hy18⟩) (by assumption) ?rest18
                    case hy18 => (intro w' hSw; (try dsimp only at hSw); go_simp; try with_reducible rfl)
                    simp only [Act.put, List.getElem_toArray, List.getElem_cons_zero, List.getElem_cons_succ, List.setIfInBounds_toArray, List.set_cons_zero, List.set_cons_succ]
                    refine wpAnyH_take (i := 19) (v := ?va19) rfl (by kernel_rfl) (by kernel_rfl) (by kernel_rfl) (fun _ _ _ h => h) (Or.inl ⟨by rfl, ?hy19⟩) (by assumption) ?rest19
                    case hy19 => (intro w' hSw; (try dsimp only at hSw); go_simp; try with_reducible rfl)
                    simp only [Act.put, List.getElem_toArray, List.getElem_cons_zero, List.getElem_cons_succ, List.setIfInBounds_toArray, List.set_cons_zero, List.set_cons_succ]
                    refine wpAnyH_take (i := 20) (v := undef) rfl (by kernel_rfl) (by kernel_rfl) (by kernel_rfl) (fun _ _ _ h => h) (Or.inr ⟨by rfl, rfl⟩) (by assumption) ?_
                    simp only [Act.put, List.getElem_toArray, List.getElem_cons_zero, List.getElem_cons_succ, List.setIfInBounds_toArray, List.set_cons_zero, List.set_cons_succ]
                    refine wpAnyH_take (i := 21) (v := undef) rfl (by kernel_rfl) (by kernel_rfl) (by kernel_rfl) (fun _ _ _ h => h) (Or.inr ⟨by rfl, rfl⟩) (by assumption) ?_
                    simp only [Act.put, List.getElem_toArray, List.getElem_cons_zero, List.getElem_cons_succ, List.setIfInBounds_toArray, List.set_cons_zero, List.set_cons_succ]
                    refine wpAnyH_take (i := 22) (v := undef) rfl (by kernel_rfl) (by kernel_rfl) (by kernel_rfl) (fun _ _ _ h => h) (Or.inr ⟨by rfl, rfl⟩) (by assumption) ?_
                    simp only [Act.put, List.getElem_toArray, List.getElem_cons_zero, List.getElem_cons_succ, List.setIfInBounds_toArray, List.set_cons_zero, List.set_cons_succ]
                    refine wpAnyH_take (i := 23) (v := undef) rfl (by kernel_rfl) (by kernel_rfl) (by kernel_rfl) (fun _ _ _ h => h) (Or.inr ⟨by rfl, rfl⟩) (by assumption) ?_
                    simp only [Act.put, List.getElem_toArray, List.getElem_cons_zero, List.getElem_cons_succ, List.setIfInBounds_toArray, List.set_cons_zero, List.set_cons_succ]
                    refine wpAnyH_take (i := 24) (v := undef) rfl (by kernel_rfl) (by kernel_rfl) (by kernel_rfl) (fun _ _ _ h => h) (Or.inr ⟨by rfl, rfl⟩) (by assumption) ?_
                    simp only [Act.put, List.getElem_toArray, List.getElem_cons_zero, List.getElem_cons_succ, List.setIfInBounds_toArray, List.set_cons_zero, List.set_cons_succ]
                    refine wpAnyH_take (i := 25) (v := undef) rfl (by kernel_rfl) (by kernel_rfl) (by kernel_rfl) (fun _ _ _ h => h) (Or.inr ⟨by rfl, rfl⟩) (by assumption) ?_
                    simp only [Act.put, List.getElem_toArray, List.getElem_cons_zero, List.getElem_cons_succ, List.setIfInBounds_toArray, List.set_cons_zero, List.set_cons_succ]
                    refine wpAnyH_take (i := 26) (v := undef) rfl (by kernel_rfl) (by kernel_rfl) (by kernel_rfl) (fun _ _ _ h => h) (Or.inr ⟨by rfl, rfl⟩) (by assumption) ?_
                    simp only [Act.put, List.getElem_toArray, List.getElem_cons_zero, List.getElem_cons_succ, List.setIfInBounds_toArray, List.set_cons_zero, List.set_cons_succ]
                    refine wpAnyH_take (i := 27) (v := undef) rfl (by kernel_rfl) (by kernel_rfl) (by kernel_rfl) (fun _ _ _ h => h) (Or.inr ⟨by rfl, rfl⟩) (by assumption) ?_
                    simp only [Act.put, List.getElem_toArray, List.getElem_cons_zero, List.getElem_cons_succ, List.setIfInBounds_toArray, List.set_cons_zero, List.set_cons_succ]
                    refine wpAnyH_take (i := 28) (v := undef) rfl (by kernel_rfl) (by kernel_rfl) (by kernel_rfl) (fun _ _ _ h => h) (Or.inr ⟨by rfl, rfl⟩) (by assumption) ?_
                    simp only [Act.put, List.getElem_toArray, List.getElem_cons_zero, List.getElem_cons_succ, List.setIfInBounds_toArray, List.set_cons_zero, List.set_cons_succ]
                    refine wpAnyH_take (i := 29) (v := undef) rfl (by kernel_rfl) (by kernel_rfl) (by kernel_rfl) (fun _ _ _ h => h) (Or.inr ⟨by rfl, rfl⟩) (by assumption) ?_
                    simp only [Act.put, List.getElem_toArray, List.getElem_cons_zero, List.getElem_cons_succ, List.setIfInBounds_toArray, List.set_cons_zero, List.set_cons_succ]
                    refine wpAnyH_take (i := 30) (v := undef) rfl (by kernel_rfl) (by kernel_rfl) (by kernel_rfl) (fun _ _ _ h => h) (Or.inr ⟨by rfl, rfl⟩) (by assumption) ?_
                    simp only [Act.put, List.getElem_toArray, List.getElem_cons_zero, List.getElem_cons_succ, List.setIfInBounds_toArray, List.set_cons_zero, List.set_cons_succ]
                    refine wpAnyH_take (i := 31) (v := undef) rfl (by kernel_rfl) (by kernel_rfl) (by kernel_rfl) (fun _ _ _ h => h) (Or.inr ⟨by rfl, rfl⟩) (by assumption) ?_
                    simp only [Act.put, List.getElem_toArray, List.getElem_cons_zero, List.getElem_cons_succ, List.setIfInBounds_toArray, List.set_cons_zero, List.set_cons_succ]
                    refine wpAnyH_take (i := 32) (v := ?va20) rfl (by kernel_rfl) (by kernel_rfl) (by kernel_rfl) (fun _ _ _ h => h) (Or.inl ⟨by rfl, ?hy20⟩) (by assumption) ?rest20
                    case hy20 => (intro w' hSw; (try dsimp only at hSw); go_simp; try with_reducible rfl)
                    simp only [Act.put, List.getElem_toArray, List.getElem_cons_zero, List.getElem_cons_succ, List.setIfInBounds_toArray, List.set_cons_zero, List.set_cons_succ]
                    refine wpAnyH_done (by kernel_rfl) ?_ _
                    refine NoPanic.normal ?_
                    go_wp2
                    go_ret
                    exact ⟨ret_int (by rw [HE.out, HStop.out]; rfl), below_next hB (below_next hb (show Below wr.heap.size wr w3 from ⟨hB3.os, hB3.tape, hB3.output, hB3.size, hB3.block⟩))⟩
                  · have hvM' : decide (M ≤ x.at j) = false := by simp; omega
                    by_cases hy5 : y = 5 ∧ x.at j = 0
                    · have HStop := mkStop (by rw [HCan.out]; simp [hy5.1, hy5.2])
                      have h6' : (tr (y : Int) == 6) = true := by rw [h6]; simp [hy5.1]
                      have hx0 : (x.at j == 0) = true := by simp [hy5.2]
                      clear mkStop h6 hy5
                      go_wp2_with fail
                      first
                        | (go_region_held3 (fun u => u.cell? ⟨w.heap.size + 1 + 1 + 1 + 1, j, none⟩ = some (.int .i64 (x.at j)) ∧ u.cell? ⟨w.heap.size + 1 + 1, j, none⟩ = some (.int .i64 (tr (y : Int))) ∧ u.cell? ⟨w.heap.size, 0, none⟩ = some (.int .i64 p.vars) ∧ u.cell? ⟨w.heap.size, 1, none⟩ = some (.int .i64 p.atoms) ∧ u.cell? ⟨w.heap.size, 2, none⟩ = some (.int .i64 p.locks) ∧ u.cell? ⟨w.heap.size, 3, none⟩ = some (.slice ca p.chans.length ccap) ∧ u.cell? ⟨w.heap.size, 4, none⟩ = some (.int .i64 p.groups) ∧ u.cell? ⟨w.heap.size, 5, none⟩ = some (.int .i64 p.onces) ∧ u.cell? ⟨w.heap.size, 6, none⟩ = some (.slice ta p.threads.length tcap)) (first | exact ⟨hnj, hrj, p0, p1, p2, p3, p4, p5, p6⟩ | exact keep9 (by assumption) hB3 |  assumption)
                        (first
                          | (go_at_call 51; refine (HMany.out _).mono ?_; rintro e w3 ⟨rfl, hB3⟩)))
                        | fail
                      go_wp2
                      go_ret
                      exact ⟨ret_int (by rw [HE.out, HStop.out]; rfl), below_next hB (below_next hb (show Below wr.heap.size wr w3 from ⟨hB3.os, hB3.tape, hB3.output, hB3.size, hB3.block⟩))⟩
                    · have HN := Lib.hid (show fitB (canL p n) r x (j + 1) = true by
                        rw [HFit.out, HCan.out]
                        by_cases e5 : y = 5
                        · have : x.at j ≠ 0 := fun e => hy5 ⟨e5, e⟩
                          simp [this]; omega
                        · simp [e5]; omega)
                      clear mkStop
                      by_cases e5 : y = 5
                      · have h6' : (tr (y : Int) == 6) = true := by rw [h6]; simp [e5]
                        have hx0 : (x.at j == 0) = false := by
                          have : x.at j ≠ 0 := fun e => hy5 ⟨e5, e⟩
                          simp [this]
                        clear h6 hy5 e5
                        go_wp2_with fail
                        first
                          | (go_region_held3 (fun u => u.cell? ⟨w.heap.size + 1 + 1 + 1 + 1, j, none⟩ = some (.int .i64 (x.at j)) ∧ u.cell? ⟨w.heap.size + 1 + 1, j, none⟩ = some (.int .i64 (tr (y : Int))) ∧ u.cell? ⟨w.heap.size, 0, none⟩ = some (.int .i64 p.vars) ∧ u.cell? ⟨w.heap.size, 1, none⟩ = some (.int .i64 p.atoms) ∧ u.cell? ⟨w.heap.size, 2, none⟩ = some (.int .i64 p.locks) ∧ u.cell? ⟨w.heap.size, 3, none⟩ = some (.slice ca p.chans.length ccap) ∧ u.cell? ⟨w.heap.size, 4, none⟩ = some (.int .i64 p.groups) ∧ u.cell? ⟨w.heap.size, 5, none⟩ = some (.int .i64 p.onces) ∧ u.cell? ⟨w.heap.size, 6, none⟩ = some (.slice ta p.threads.length tcap)) (first | exact ⟨hnj, hrj, p0, p1, p2, p3, p4, p5, p6⟩ | exact keep9 (by assumption) hB3 |  assumption)
                          (first
                            | (go_at_call 51; refine (HMany.out _).mono ?_; rintro e w3 ⟨rfl, hB3⟩)))
                          | fail
                        go_wp2
                        go_roundw
                        case rel => exact ⟨j + 1, by omega, by go_num, HN.out, below_next hb (show Below wr.heap.size wr w3 from ⟨hB3.os, hB3.tape, hB3.output, hB3.size, hB3.block⟩)⟩
                        case measure => simp [intOf]; omega
                      · have h6' : (tr (y : Int) == 6) = false := by rw [h6]; simp [e5]
                        clear h6 hy5 e5
                        go_wp2_with fail
                        refine wp_region_noPanic ?_
                        refine wp_region_held_drew (S := (fun u => u.cell? ⟨w.heap.size + 1 + 1 + 1 + 1, j, none⟩ = some (.int .i64 (x.at j)) ∧ u.cell? ⟨w.heap.size + 1 + 1, j, none⟩ = some (.int .i64 (tr (y : Int))) ∧ u.cell? ⟨w.heap.size, 0, none⟩ = some (.int .i64 p.vars) ∧ u.cell? ⟨w.heap.size, 1, none⟩ = some (.int .i64 p.atoms) ∧ u.cell? ⟨w.heap.size, 2, none⟩ = some (.int .i64 p.locks) ∧ u.cell? ⟨w.heap.size, 3, none⟩ = some (.slice ca p.chans.length ccap) ∧ u.cell? ⟨w.heap.size, 4, none⟩ = some (.int .i64 p.groups) ∧ u.cell? ⟨w.heap.size, 5, none⟩ = some (.int .i64 p.onces) ∧ u.cell? ⟨w.heap.size, 6, none⟩ = some (.slice ta p.threads.length tcap))) (by kernel_rfl) ⟨hnj, hrj, p0, p1, p2, p3, p4, p5, p6⟩ (fun hHeld => ?_)
                        refine wpAnyH_take (i := 0) (v := ?va21) rfl (by kernel_rfl) (by kernel_rfl) (by kernel_rfl) (fun _ _ _ h => h) (Or.inl ⟨by rfl, ?hy21⟩) (by assumption) ?rest21
                        case hy21 => (intro w' hSw; (try dsimp only at hSw); go_simp; try with_reducible rfl)
                        simp only [Act.put, List.getElem_toArray, List.getElem_cons_zero, List.getElem_cons_succ, List.setIfInBounds_toArray, List.set_cons_zero, List.set_cons_succ]
                        refine wpAnyH_take (i := 1) (v := ?va22) rfl (by kernel_rfl) (by kernel_rfl) (by kernel_rfl) (fun _ _ _ h => h) (Or.inl ⟨by rfl, ?hy22⟩) (by assumption) ?rest22
                        case hy22 => (intro w' hSw; (try dsimp only at hSw); go_simp; try with_reducible rfl)
                        simp only [Act.put, List.getElem_toArray, List.getElem_cons_zero, List.getElem_cons_succ, List.setIfInBounds_toArray, List.set_cons_zero, List.set_cons_succ]
                        refine wpAnyH_take (i := 2) (v := ?va23) rfl (by kernel_rfl) (by kernel_rfl) (by kernel_rfl) (fun _ _ _ h => h) (Or.inl ⟨by rfl, ?hy23⟩) (by assumption) ?rest23
                        case hy23 => (intro w' hSw; (try dsimp only at hSw); go_simp; try with_reducible rfl)
                        simp only [Act.put, List.getElem_toArray, List.getElem_cons_zero, List.getElem_cons_succ, List.setIfInBounds_toArray, List.set_cons_zero, List.set_cons_succ]
                        refine wpAnyH_take (i := 3) (v := ?va24) rfl (by kernel_rfl) (by kernel_rfl) (by kernel_rfl) (fun _ _ _ h => h) (Or.inl ⟨by rfl, ?hy24⟩) (by assumption) ?rest24
                        case hy24 => (intro w' hSw; (try dsimp only at hSw); go_simp; try with_reducible rfl)
                        simp only [Act.put, List.getElem_toArray, List.getElem_cons_zero, List.getElem_cons_succ, List.setIfInBounds_toArray, List.set_cons_zero, List.set_cons_succ]
                        refine wpAnyH_take (i := 4) (v := ?va25) rfl (by kernel_rfl) (by kernel_rfl) (by kernel_rfl) (fun _ _ _ h => h) (Or.inl ⟨by rfl, ?hy25⟩) (by assumption) ?rest25
                        case hy25 => (intro w' hSw; (try dsimp only at hSw); go_simp; try with_reducible rfl)
                        simp only [Act.put, List.getElem_toArray, List.getElem_cons_zero, List.getElem_cons_succ, List.setIfInBounds_toArray, List.set_cons_zero, List.set_cons_succ]
                        refine wpAnyH_take (i := 5) (v := ?va26) rfl (by kernel_rfl) (by kernel_rfl) (by kernel_rfl) (fun _ _ _ h => h) (Or.inl ⟨by rfl, ?hy26⟩) (by assumption) ?rest26
                        case hy26 => (intro w' hSw; (try dsimp only at hSw); go_simp; try with_reducible rfl)
                        simp only [Act.put, List.getElem_toArray, List.getElem_cons_zero, List.getElem_cons_succ, List.setIfInBounds_toArray, List.set_cons_zero, List.set_cons_succ]
                        refine wpAnyH_take (i := 6) (v := ?va27) rfl (by kernel_rfl) (by kernel_rfl) (by kernel_rfl) (fun _ _ _ h => h) (Or.inl ⟨by rfl, ?hy27⟩) (by assumption) ?rest27
                        case hy27 => (intro w' hSw; (try dsimp only at hSw); go_simp; try with_reducible rfl)
                        simp only [Act.put, List.getElem_toArray, List.getElem_cons_zero, List.getElem_cons_succ, List.setIfInBounds_toArray, List.set_cons_zero, List.set_cons_succ]
                        refine wpAnyH_take (i := 7) (v := ?va28) rfl (by kernel_rfl) (by kernel_rfl) (by kernel_rfl) (fun _ _ _ h => h) (Or.inl ⟨by rfl, ?hy28⟩) (by assumption) ?rest28
                        case hy28 => (intro w' hSw; (try dsimp only at hSw); go_simp; try with_reducible rfl)
                        simp only [Act.put, List.getElem_toArray, List.getElem_cons_zero, List.getElem_cons_succ, List.setIfInBounds_toArray, List.set_cons_zero, List.set_cons_succ]
                        refine wpAnyH_take (i := 8) (v := ?va29) rfl (by kernel_rfl) (by kernel_rfl) (by kernel_rfl) (fun _ _ _ h => h) (Or.inl ⟨by rfl, ?hy29⟩) (by assumption) ?rest29
                        case hy29 => (intro w' hSw; (try dsimp only at hSw); go_simp; try with_reducible rfl)
                        simp only [Act.put, List.getElem_toArray, List.getElem_cons_zero, List.getElem_cons_succ, List.setIfInBounds_toArray, List.set_cons_zero, List.set_cons_succ]
                        refine wpAnyH_take (i := 9) (v := ?va30) rfl (by kernel_rfl) (by kernel_rfl) (by kernel_rfl) (fun _ _ _ h => h) (Or.inl ⟨by rfl, ?hy30⟩) (by assumption) ?rest30
                        case hy30 => (intro w' hSw; (try dsimp only at hSw); go_simp; try with_reducible rfl)
                        simp only [Act.put, List.getElem_toArray, List.getElem_cons_zero, List.getElem_cons_succ, List.setIfInBounds_toArray, List.set_cons_zero, List.set_cons_succ]
                        refine wpAnyH_take (i := 10) (v := ?va31) rfl (by kernel_rfl) (by kernel_rfl) (by kernel_rfl) (fun _ _ _ h => h) (Or.inl ⟨by rfl, ?hy31⟩) (by assumption) ?rest31
                        case hy31 => (intro w' hSw; (try dsimp only at hSw); go_simp; try with_reducible rfl)
                        simp only [Act.put, List.getElem_toArray, List.getElem_cons_zero, List.getElem_cons_succ, List.setIfInBounds_toArray, List.set_cons_zero, List.set_cons_succ]
                        refine wpAnyH_take (i := 11) (v := ?va32) rfl (by kernel_rfl) (by kernel_rfl) (by kernel_rfl) (fun _ _ _ h => h) (Or.inl ⟨by rfl, ?hy32⟩) (by assumption) ?rest32
                        case hy32 => (intro w' hSw; (try dsimp only at hSw); go_simp; try with_reducible rfl)
                        simp only [Act.put, List.getElem_toArray, List.getElem_cons_zero, List.getElem_cons_succ, List.setIfInBounds_toArray, List.set_cons_zero, List.set_cons_succ]
                        refine wpAnyH_take (i := 12) (v := ?va33) rfl (by kernel_rfl) (by kernel_rfl) (by kernel_rfl) (fun _ _ _ h => h) (Or.inl ⟨by rfl, ?hy33⟩) (by assumption) ?rest33
                        case hy33 => (intro w' hSw; (try dsimp only at hSw); go_simp; try with_reducible rfl)
                        simp only [Act.put, List.getElem_toArray, List.getElem_cons_zero, List.getElem_cons_succ, List.setIfInBounds_toArray, List.set_cons_zero, List.set_cons_succ]
                        refine wpAnyH_take (i := 13) (v := ?va34) rfl (by kernel_rfl) (by kernel_rfl) (by kernel_rfl) (fun _ _ _ h => h) (Or.inl ⟨by rfl, ?hy34⟩) (by assumption) ?rest34
                        case hy34 => (intro w' hSw; (try dsimp only at hSw); go_simp; try with_reducible rfl)
                        simp only [Act.put, List.getElem_toArray, List.getElem_cons_zero, List.getElem_cons_succ, List.setIfInBounds_toArray, List.set_cons_zero, List.set_cons_succ]
                        refine wpAnyH_take (i := 14) (v := ?va35) rfl (by kernel_rfl) (by kernel_rfl) (by kernel_rfl) (fun _ _ _ h => h) (Or.inl ⟨by rfl, ?hy35⟩) (by assumption) ?rest35
                        case hy35 => (intro w' hSw; (try dsimp only at hSw); go_simp; try with_reducible rfl)
                        simp only [Act.put, List.getElem_toArray, List.getElem_cons_zero, List.getElem_cons_succ, List.setIfInBounds_toArray, List.set_cons_zero, List.set_cons_succ]
                        refine wpAnyH_take (i := 15) (v := ?va36) rfl (by kernel_rfl) (by kernel_rfl) (by kernel_rfl) (fun _ _ _ h => h) (Or.inl ⟨by rfl, ?hy36⟩) (by assumption) ?rest36
                        case hy36 => (intro w' hSw; (try dsimp only at hSw); go_simp; try with_reducible rfl)
                        simp only [Act.put, List.getElem_toArray, List.getElem_cons_zero, List.getElem_cons_succ, List.setIfInBounds_toArray, List.set_cons_zero, List.set_cons_succ]
                        refine wpAnyH_ready (rs := [16]) (by kernel_rfl) (by simp) ?_
                        refine AllReadyH.cons rfl (fun K hK => ?_) AllReadyH.nil
                        go_simp
                        refine (HMany.out _).mono ?_
                        rintro e w3 ⟨rfl, hB3⟩
                        refine hK.out _ _ (keep9 hHeld hB3) (fun hHeld2 => ?_)
                        clear hK K hHeld
                        try simp only [Act.put, List.getElem_toArray, List.getElem_cons_zero, List.getElem_cons_succ, List.setIfInBounds_toArray, List.set_cons_zero, List.set_cons_succ]
                        refine wpAnyH_take (i := 17) (v := ?va37) rfl (by kernel_rfl) (by kernel_rfl) (by kernel_rfl) (fun _ _ _ h => h) (Or.inl ⟨by rfl, ?hy37⟩) (by assumption) ?rest37
                        case hy37 => (intro w' hSw; (try dsimp only at hSw); go_simp; try with_reducible rfl)
                        simp only [Act.put, List.getElem_toArray, List.getElem_cons_zero, List.getElem_cons_succ, List.setIfInBounds_toArray, List.set_cons_zero, List.set_cons_succ]
                        refine wpAnyH_take (i := 18) (v := ?va38) rfl (by kernel_rfl) (by kernel_rfl) (by kernel_rfl) (fun _ _ _ h => h) (Or.inl ⟨by rfl, ?hy38⟩) (by assumption) ?rest38
                        case hy38 => (intro w' hSw; (try dsimp only at hSw); go_simp; try with_reducible rfl)
                        simp only [Act.put, List.getElem_toArray, List.getElem_cons_zero, List.getElem_cons_succ, List.setIfInBounds_toArray, List.set_cons_zero, List.set_cons_succ]
                        refine wpAnyH_take (i := 19) (v := ?va39) rfl (by kernel_rfl) (by kernel_rfl) (by kernel_rfl) (fun _ _ _ h => h) (Or.inl ⟨by rfl, ?hy39⟩) (by assumption) ?rest39
                        case hy39 => (intro w' hSw; (try dsimp only at hSw); go_simp; try with_reducible rfl)
                        simp only [Act.put, List.getElem_toArray, List.getElem_cons_zero, List.getElem_cons_succ, List.setIfInBounds_toArray, List.set_cons_zero, List.set_cons_succ]
                        refine wpAnyH_take (i := 20) (v := ?va40) rfl (by kernel_rfl) (by kernel_rfl) (by kernel_rfl) (fun _ _ _ h => h) (Or.inl ⟨by rfl, ?hy40⟩) (by assumption) ?rest40
                        case hy40 => (intro w' hSw; (try dsimp only at hSw); go_simp; try with_reducible rfl)
                        simp only [Act.put, List.getElem_toArray, List.getElem_cons_zero, List.getElem_cons_succ, List.setIfInBounds_toArray, List.set_cons_zero, List.set_cons_succ]
                        refine wpAnyH_take (i := 21) (v := ?va41) rfl (by kernel_rfl) (by kernel_rfl) (by kernel_rfl) (fun _ _ _ h => h) (Or.inl ⟨by rfl, ?hy41⟩) (by assumption) ?rest41
                        case hy41 => (intro w' hSw; (try dsimp only at hSw); go_simp; try with_reducible rfl)
                        simp only [Act.put, List.getElem_toArray, List.getElem_cons_zero, List.getElem_cons_succ, List.setIfInBounds_toArray, List.set_cons_zero, List.set_cons_succ]
                        refine wpAnyH_take (i := 22) (v := ?va42) rfl (by kernel_rfl) (by kernel_rfl) (by kernel_rfl) (fun _ _ _ h => h) (Or.inl ⟨by rfl, ?hy42⟩) (by assumption) ?rest42
                        case hy42 => (intro w' hSw; (try dsimp only at hSw); go_simp; try with_reducible rfl)
                        simp only [Act.put, List.getElem_toArray, List.getElem_cons_zero, List.getElem_cons_succ, List.setIfInBounds_toArray, List.set_cons_zero, List.set_cons_succ]
                        refine wpAnyH_take (i := 23) (v := ?va43) rfl (by kernel_rfl) (by kernel_rfl) (by kernel_rfl) (fun _ _ _ h => h) (Or.inl ⟨by rfl, ?hy43⟩) (by assumption) ?rest43
                        case hy43 => (intro w' hSw; (try dsimp only at hSw); go_simp; try with_reducible rfl)
                        simp only [Act.put, List.getElem_toArray, List.getElem_cons_zero, List.getElem_cons_succ, List.setIfInBounds_toArray, List.set_cons_zero, List.set_cons_succ]
                        refine wpAnyH_take (i := 24) (v := ?va44) rfl (by kernel_rfl) (by kernel_rfl) (by kernel_rfl) (fun _ _ _ h => h) (Or.inl ⟨by rfl, ?hy44⟩) (by assumption) ?rest44
                        case hy44 => (intro w' hSw; (try dsimp only at hSw); go_simp; try with_reducible rfl)
                        simp only [Act.put, List.getElem_toArray, List.getElem_cons_zero, List.getElem_cons_succ, List.setIfInBounds_toArray, List.set_cons_zero, List.set_cons_succ]
                        refine wpAnyH_take (i := 25) (v := ?va45) rfl (by kernel_rfl) (by kernel_rfl) (by kernel_rfl) (fun _ _ _ h => h) (Or.inl ⟨by rfl, ?hy45⟩) (by assumption) ?rest45
                        case hy45 => (intro w' hSw; (try dsimp only at hSw); go_simp; try with_reducible rfl)
                        simp only [Act.put, List.getElem_toArray, List.getElem_cons_zero, List.getElem_cons_succ, List.setIfInBounds_toArray, List.set_cons_zero, List.set_cons_succ]
                        refine wpAnyH_take (i := 26) (v := undef) rfl (by kernel_rfl) (by kernel_rfl) (by kernel_rfl) (fun _ _ _ h => h) (Or.inr ⟨by rfl, rfl⟩) (by assumption) ?_
                        simp only [Act.put, List.getElem_toArray, List.getElem_cons_zero, List.getElem_cons_succ, List.setIfInBounds_toArray, List.set_cons_zero, List.set_cons_succ]
                        refine wpAnyH_take (i := 27) (v := undef) rfl (by kernel_rfl) (by kernel_rfl) (by kernel_rfl) (fun _ _ _ h => h) (Or.inr ⟨by rfl, rfl⟩) (by assumption) ?_
                        simp only [Act.put, List.getElem_toArray, List.getElem_cons_zero, List.getElem_cons_succ, List.setIfInBounds_toArray, List.set_cons_zero, List.set_cons_succ]
                        refine wpAnyH_take (i := 28) (v := undef) rfl (by kernel_rfl) (by kernel_rfl) (by kernel_rfl) (fun _ _ _ h => h) (Or.inr ⟨by rfl, rfl⟩) (by assumption) ?_
                        simp only [Act.put, List.getElem_toArray, List.getElem_cons_zero, List.getElem_cons_succ, List.setIfInBounds_toArray, List.set_cons_zero, List.set_cons_succ]
                        refine wpAnyH_take (i := 29) (v := undef) rfl (by kernel_rfl) (by kernel_rfl) (by kernel_rfl) (fun _ _ _ h => h) (Or.inr ⟨by rfl, rfl⟩) (by assumption) ?_
                        simp only [Act.put, List.getElem_toArray, List.getElem_cons_zero, List.getElem_cons_succ, List.setIfInBounds_toArray, List.set_cons_zero, List.set_cons_succ]
                        refine wpAnyH_take (i := 30) (v := undef) rfl (by kernel_rfl) (by kernel_rfl) (by kernel_rfl) (fun _ _ _ h => h) (Or.inr ⟨by rfl, rfl⟩) (by assumption) ?_
                        simp only [Act.put, List.getElem_toArray, List.getElem_cons_zero, List.getElem_cons_succ, List.setIfInBounds_toArray, List.set_cons_zero, List.set_cons_succ]
                        refine wpAnyH_take (i := 31) (v := ?va46) rfl (by kernel_rfl) (by kernel_rfl) (by kernel_rfl) (fun _ _ _ h => h) (Or.inl ⟨by rfl, ?hy46⟩) (by assumption) ?rest46
                        case hy46 => (intro w' hSw; (try dsimp only at hSw); go_simp; try with_reducible rfl)
                        simp only [Act.put, List.getElem_toArray, List.getElem_cons_zero, List.getElem_cons_succ, List.setIfInBounds_toArray, List.set_cons_zero, List.set_cons_succ]
                        refine wpAnyH_take (i := 32) (v := ?va47) rfl (by kernel_rfl) (by kernel_rfl) (by kernel_rfl) (fun _ _ _ h => h) (Or.inl ⟨by rfl, ?hy47⟩) (by assumption) ?rest47
                        case hy47 => (intro w' hSw; (try dsimp only at hSw); go_simp; try with_reducible rfl)
                        simp only [Act.put, List.getElem_toArray, List.getElem_cons_zero, List.getElem_cons_succ, List.setIfInBounds_toArray, List.set_cons_zero, List.set_cons_succ]
                        refine wpAnyH_done (by kernel_rfl) ?_ _
                        refine NoPanic.normal ?_
                        go_wp2
                        go_roundw
                        case rel => exact ⟨j + 1, by omega, by go_num, HN.out, below_next hb (show Below wr.heap.size wr w3 from ⟨hB3.os, hB3.tape, hB3.output, hB3.size, hB3.block⟩)⟩
                        case measure => simp [intOf]; omega
          · obtain rfl : j = 3 := by omega
            go_wp2
            go_ret
            exact ⟨ret_int (by rw [HE.out, HF.out]; rfl), below_next hB hb⟩
  · have hd : decide ((27 : Int) < (x.op : Int)) = true := by simp; omega
    have HN := Lib.hid (HU.out (by rw [decide_eq_false hop, Bool.and_false]))
    go_loop [9] (fun i => i = .int .i64 0) (fun _ => 0)
    case atStart => rfl
    case round =>
      subst hrel
      go_wp2
      go_ret
      exact ⟨ret_int HN.out.symm, hB⟩

end Go.Proofs.Ytpmfolgihdmcjaa
