/- IrRegs: registers from 0 to 3 may be, no others; what has no word is nought; for every input. -/
import Derived.Test.YtpmfolgihdmcjaaLawKit
import Derived.Test.YtpmfolgihdmcjaaIrKnown
namespace Go.Proofs.Ytpmfolgihdmcjaa
set_option linter.unusedVariables false
set_option linter.unusedSimpArgs false
open Go.ChangeShapes Go.WideShapes Go.ChangeAt Go.RowKit

/-- A program of one instruction. -/
def soleD (x : InsD) : ProgD := ⟨0, 0, 0, [], 0, 0, [[x]]⟩
theorem soleD_in (x : InsD) (w : World) (B g h : Nat) (hg : g < B) (hh : h < B) (hc : w.cell? ⟨g, 0, none⟩ = some (.slice (some ⟨h, 0, none⟩) 1 1)) (hi : InsAt w h 0 x) : ProgIn w B (soleD x) none (some ⟨g, 0, none⟩) := by
  refine ⟨fun i x h => by simp [soleD] at h, fun i c hc' => ?_, by simp [soleD], by simp [soleD]⟩
  match i, hc' with
  | 0, hc' =>
    cases hc'
    refine ⟨g, 0, rfl, hg, _, 1, hc, fun k y hy => ?_⟩
    match k, hy with
    | 0, hy => cases hy; exact ⟨h, 0, rfl, hh, hi⟩
    | k + 1, hy => simp at hy
  | i + 1, hc' => simp [soleD] at hc'
theorem firstE_one (e : Int) : firstE [e] = e := by unfold firstE firstE; split <;> simp_all
theorem soleD_sound (x : InsD) : soundE (soleD x) = insE (soleD x) 1 x := by
  have h1 : sizesB (soleD x) = true := rfl
  have h2 : capsB (soleD x).chans = true := rfl
  have h3 : threadsE (soleD x) = insE (soleD x) 1 x := by
    show firstE [firstE [insE (soleD x) 1 x]] = _
    rw [firstE_one, firstE_one]
  unfold soundE; rw [h1, h2, h3]
  show firstE [0, 0, _] = _
  have : ∀ e : Int, firstE [0, 0, e] = e := fun e => firstE_one e
  exact this _
theorem sole_add (a b c : Int) : soundE (soleD ⟨3, a, b, c⟩) = if wiB a 0 3 && wiB b 0 3 && wiB c 0 3 then 0 else 21 := by
  rw [soleD_sound]
  have hk : knownB ⟨3, a, b, c⟩ = true := by simp [knownB, wordsB, Row.at, rowAt, tab]
  have hf : fitsB (soleD ⟨3, a, b, c⟩) 1 ⟨3, a, b, c⟩ = (wiB a 0 3 && wiB b 0 3 && wiB c 0 3) := by
    simp [fitsB, fitB, Row.at, rowAt, tab, InsD.at, canB, canL]
  unfold insE; rw [hk, hf]; unfold firstE firstE firstE unE
  cases wiB a 0 3 && wiB b 0 3 && wiB c 0 3 <;> simp
theorem sole_nop (c : Int) : soundE (soleD ⟨0, 0, 0, c⟩) = if c = 0 then 0 else 20 := by
  rw [soleD_sound]
  have hk : knownB ⟨0, 0, 0, c⟩ = decide (c = 0) := by simp [knownB, wordsB, Row.at, rowAt, tab, InsD.at]
  by_cases h : c = 0
  · subst h; rfl
  · unfold insE; rw [hk, decide_eq_false h, if_neg h]; unfold firstE unE; simp

theorem cells7 {w : World} {g : Nat} {a b c d e f h : Value} {t : TypeId} {fr : Nat × Nat} (hb : w.heap[g]? = some (.cells #[a, b, c, d, e, f, h] t fr)) :
    w.cell? ⟨g, 0, none⟩ = some a ∧ w.cell? ⟨g, 1, none⟩ = some b ∧ w.cell? ⟨g, 2, none⟩ = some c ∧ w.cell? ⟨g, 3, none⟩ = some d ∧ w.cell? ⟨g, 4, none⟩ = some e ∧ w.cell? ⟨g, 5, none⟩ = some f ∧ w.cell? ⟨g, 6, none⟩ = some h :=
  ⟨cell_of_row w g 0 _ _ _ hb, cell_of_row w g 1 _ _ _ hb, cell_of_row w g 2 _ _ _ hb, cell_of_row w g 3 _ _ _ hb, cell_of_row w g 4 _ _ _ hb, cell_of_row w g 5 _ _ _ hb, cell_of_row w g 6 _ _ _ hb⟩
/-- A program of one instruction lies: its instruction in block h, its one thread in block g, itself in block b. -/
structure SoleIn (w : World) (h g b : Nat) (x : InsD) : Prop where
  ins : ∃ t fr, w.heap[h]? = some (.cells #[.int .u8 x.op, .int .i64 x.a, .int .i64 x.b, .int .i64 x.c] t fr)
  thr : ∃ t fr, w.heap[g]? = some (.cells #[.slice (some ⟨h, 0, none⟩) 1 1] t fr)
  box : ∃ t fr, w.heap[b]? = some (.cells #[.int .i64 0, .int .i64 0, .int .i64 0, .slice none 0 0, .int .i64 0, .int .i64 0, .slice (some ⟨g, 0, none⟩) 1 1] t fr)
theorem lt_of_block {w : World} {b : Nat} {o : Obj} (h : w.heap[b]? = some o) : b < w.heap.size := (Array.getElem?_eq_some_iff.1 h).1
theorem SoleIn.later {w w' : World} {h g b : Nat} {x : InsD} (k : SoleIn w h g b x) (hB : Below w.heap.size w w') : SoleIn w' h g b x := by
  obtain ⟨⟨t1, f1, h1⟩, ⟨t2, f2, h2⟩, ⟨t3, f3, h3⟩⟩ := k
  exact ⟨⟨t1, f1, (hB.block _ (lt_of_block h1)).trans h1⟩, ⟨t2, f2, (hB.block _ (lt_of_block h2)).trans h2⟩, ⟨t3, f3, (hB.block _ (lt_of_block h3)).trans h3⟩⟩
theorem SoleIn.cells {w : World} {h g b : Nat} {x : InsD} (k : SoleIn w h g b x) : w.cell? ⟨b, 0, none⟩ = some (.int .i64 0) ∧ w.cell? ⟨b, 1, none⟩ = some (.int .i64 0) ∧ w.cell? ⟨b, 2, none⟩ = some (.int .i64 0) ∧ w.cell? ⟨b, 3, none⟩ = some (.slice none 0 0) ∧ w.cell? ⟨b, 4, none⟩ = some (.int .i64 0) ∧ w.cell? ⟨b, 5, none⟩ = some (.int .i64 0) ∧ w.cell? ⟨b, 6, none⟩ = some (.slice (some ⟨g, 0, none⟩) 1 1) := by
  obtain ⟨t, fr, hb⟩ := k.box
  exact cells7 hb
theorem SoleIn.sound {w : World} {h g b : Nat} {x : InsD} (k : SoleIn w h g b x) (e : Int) (he : soundE (soleD x) = e) :
    Calls Try.prog 12 #[.agg #[.int .i64 0, .int .i64 0, .int .i64 0, .slice none 0 0, .int .i64 0, .int .i64 0, .slice (some ⟨g, 0, none⟩) 1 1]] w fun en w' => en = .returned (.int .u16 e) ∧ Below w.heap.size w w' := by
  obtain ⟨⟨t1, f1, h1⟩, ⟨t2, f2, h2⟩, _⟩ := k
  rw [← he]
  exact sound_any (soleD x) none 0 (some ⟨g, 0, none⟩) 1 w (soleD_in x w _ g h (lt_of_block h2) (lt_of_block h1) (cell_of_row _ _ _ _ _ _ h2) (cells4 h1))

abbrev insObj (x : InsD) : Obj := .cells #[.int .u8 x.op, .int .i64 x.a, .int .i64 x.b, .int .i64 x.c] 30
abbrev thrObj (h : Nat) : Obj := .cells #[.slice (some ⟨h, 0, none⟩) 1 1] 28
abbrev progObj (g : Nat) : Obj := .cells #[.int .i64 0, .int .i64 0, .int .i64 0, .slice none 0 0, .int .i64 0, .int .i64 0, .slice (some ⟨g, 0, none⟩) 1 1] 26
theorem sole_new (w : World) (x : InsD) : SoleIn (((w.alloc (insObj x)).alloc (thrObj w.heap.size)).alloc (progObj (w.heap.size + 1))) w.heap.size (w.heap.size + 1) (w.heap.size + 1 + 1) x ∧ Below w.heap.size w (((w.alloc (insObj x)).alloc (thrObj w.heap.size)).alloc (progObj (w.heap.size + 1))) := by
  have hs2 : ((w.alloc (insObj x)).alloc (thrObj w.heap.size)).heap.size = w.heap.size + 1 + 1 := by simp
  refine ⟨⟨⟨30, (0, 0), ?_⟩, ⟨28, (0, 0), ?_⟩, ⟨26, (0, 0), ?_⟩⟩, (((Below.refl _ _).alloc (Nat.le_refl _) _).alloc (by simp) _).alloc (by simp; omega) _⟩
  · rw [Below.heap_alloc _ _ _ (by simp; omega)]; exact heap_alloc2_old _ _ _
  · rw [Below.heap_alloc _ _ _ (by simp)]; exact heap_alloc2_new _ _ _
  · rw [← hs2]; exact heap_alloc_new _ _
theorem sole_two (w : World) (x y : InsD) :
    SoleIn ((((((w.alloc (insObj x)).alloc (thrObj w.heap.size)).alloc (progObj (w.heap.size + 1))).alloc (insObj y)).alloc (thrObj (w.heap.size + 1 + 1 + 1))).alloc (progObj (w.heap.size + 1 + 1 + 1 + 1))) w.heap.size (w.heap.size + 1) (w.heap.size + 1 + 1) x ∧
    SoleIn ((((((w.alloc (insObj x)).alloc (thrObj w.heap.size)).alloc (progObj (w.heap.size + 1))).alloc (insObj y)).alloc (thrObj (w.heap.size + 1 + 1 + 1))).alloc (progObj (w.heap.size + 1 + 1 + 1 + 1))) (w.heap.size + 1 + 1 + 1) (w.heap.size + 1 + 1 + 1 + 1) (w.heap.size + 1 + 1 + 1 + 1 + 1) y ∧
    Below w.heap.size w ((((((w.alloc (insObj x)).alloc (thrObj w.heap.size)).alloc (progObj (w.heap.size + 1))).alloc (insObj y)).alloc (thrObj (w.heap.size + 1 + 1 + 1))).alloc (progObj (w.heap.size + 1 + 1 + 1 + 1))) := by
  obtain ⟨h1, hB1⟩ := sole_new w x
  obtain ⟨h2, hB2⟩ := sole_new (((w.alloc (insObj x)).alloc (thrObj w.heap.size)).alloc (progObj (w.heap.size + 1))) y
  have hs : (((w.alloc (insObj x)).alloc (thrObj w.heap.size)).alloc (progObj (w.heap.size + 1))).heap.size = w.heap.size + 1 + 1 + 1 := by simp
  have h3 := h1.later hB2
  have h4 := below_next hB1 hB2
  rw [hs] at h2 h3 h4
  exact ⟨h3, h2, h4⟩
theorem i8_in (n : Int) (h : -128 ≤ n ∧ n ≤ 127) : IntKind.i8.wrap n = n := by
  have e1 : IntKind.i8.bits = 8 := rfl
  unfold IntKind.wrap
  simp only [e1]
  have e2 : IntKind.i8.signed = true := rfl
  simp only [e2]
  simp
  omega
theorem tmod6 (a : Int) : -5 ≤ a.tmod 6 ∧ a.tmod 6 ≤ 5 := by
  rcases Int.le_total 0 a with h | h
  · rw [Int.tmod_eq_emod_of_nonneg h]; omega
  · have := Int.tmod_eq_emod_of_nonneg (a := -a) (b := 6) (by omega)
    rw [Int.neg_tmod] at this; omega

set_option maxHeartbeats 4000000 in
theorem irRegs_at (a b c x y z : Int) (q1 q2 q3 q4 q5 q6 q7 : Bool) (w : World) (ha : a.tmod 6 = x) (hb : b.tmod 6 = y) (hc : c.tmod 6 = z) (wx : wrap64 x = x) (wy : wrap64 y = y) (wz : wrap64 z = z) (wc : wrap64 c = c)
    (ex : IntKind.i8.wrap x = x) (ey : IntKind.i8.wrap y = y) (ez : IntKind.i8.wrap z = z)
    (h1 : decide (0 ≤ x) = q1) (h2 : decide (x < 4) = q2) (h3 : decide (0 ≤ y) = q3) (h4 : decide (y < 4) = q4) (h5 : decide (0 ≤ z) = q5) (h6 : decide (z < 4) = q6) (h7 : (c == 0) = q7) :
    Calls Try.prog 4 #[.int .i8 a, .int .i8 b, .int .i8 c] w fun e w' => e = .returned (.bool true) ∧ Below w.heap.size w w' := by
  have HE := Lib.hid (sole_add x y z)
  have HN := Lib.hid (sole_nop c)
  have hw1 : wiB x 0 3 = (q1 && q2) := by rw [← h1, ← h2]; unfold wiB; congr 1; exact decide_eq_decide.2 (by omega)
  have hw2 : wiB y 0 3 = (q3 && q4) := by rw [← h3, ← h4]; unfold wiB; congr 1; exact decide_eq_decide.2 (by omega)
  have hw3 : wiB z 0 3 = (q5 && q6) := by rw [← h5, ← h6]; unfold wiB; congr 1; exact decide_eq_decide.2 (by omega)
  rw [hw1, hw2, hw3] at HE
  clear hw1 hw2 hw3
  have HN : Hid (soundE (soleD ⟨0, 0, 0, c⟩) = if q7 then 0 else 20) := by rw [← h7]; have := HN.out; simp only [beq_iff_eq]; exact this
  cases q1
  · cases q7
    · skip
      have EP : Hid (soundE (soleD ⟨3, x, y, z⟩) = 21) := (HE.out).trans (by simp)
      have EQ : Hid (soundE (soleD ⟨0, 0, 0, c⟩) = 20) := (HN.out).trans (by simp)
      clear HE HN
      obtain ⟨S0, T0, hB0⟩ := sole_two w ⟨3, x, y, z⟩ ⟨0, 0, 0, c⟩
      have S0 := Lib.hid S0
      have T0 := Lib.hid T0
      have hB0 := Lib.hid hB0
      go_enter Try.func4, Try.ntmps4
      go_wp2_with fail
      refine (known_any _).mono ?_
      rintro e w1 ⟨rfl, hB1⟩
      have hL1 := below_next hB0.out hB1
      have S1 := S0.out.later hB1
      have T1 := T0.out.later hB1
      obtain ⟨sc10, sc11, sc12, sc13, sc14, sc15, sc16⟩ := S1.cells
      obtain ⟨tc10, tc11, tc12, tc13, tc14, tc15, tc16⟩ := T1.cells
      go_wp2_with fail
      refine (S1.sound 21 EP.out).mono ?_
      rintro e w2 ⟨rfl, hB2⟩
      have hL2 := below_next hL1 hB2
      have S2 := S1.later hB2
      obtain ⟨sc20, sc21, sc22, sc23, sc24, sc25, sc26⟩ := S2.cells
      have T2 := T1.later hB2
      obtain ⟨tc20, tc21, tc22, tc23, tc24, tc25, tc26⟩ := T2.cells
      go_wp2_with fail
      refine (S2.sound 21 EP.out).mono ?_
      rintro e w3 ⟨rfl, hB3⟩
      have hL3 := below_next hL2 hB3
      have S3 := S2.later hB3
      obtain ⟨sc30, sc31, sc32, sc33, sc34, sc35, sc36⟩ := S3.cells
      have T3 := T2.later hB3
      obtain ⟨tc30, tc31, tc32, tc33, tc34, tc35, tc36⟩ := T3.cells
      go_wp2_with fail
      refine (T3.sound 20 EQ.out).mono ?_
      rintro e w4 ⟨rfl, hB4⟩
      have hL4 := below_next hL3 hB4
      have S4 := S3.later hB4
      obtain ⟨sc40, sc41, sc42, sc43, sc44, sc45, sc46⟩ := S4.cells
      have T4 := T3.later hB4
      obtain ⟨tc40, tc41, tc42, tc43, tc44, tc45, tc46⟩ := T4.cells
      go_wp2_with fail
      refine (T4.sound 20 EQ.out).mono ?_
      rintro e w5 ⟨rfl, hB5⟩
      have hL5 := below_next hL4 hB5
      have S5 := S4.later hB5
      obtain ⟨sc50, sc51, sc52, sc53, sc54, sc55, sc56⟩ := S5.cells
      have T5 := T4.later hB5
      obtain ⟨tc50, tc51, tc52, tc53, tc54, tc55, tc56⟩ := T5.cells
      go_wp2
      go_ret
      exact ⟨rfl, hL5⟩
    · skip
      have EP : Hid (soundE (soleD ⟨3, x, y, z⟩) = 21) := (HE.out).trans (by simp)
      have EQ : Hid (soundE (soleD ⟨0, 0, 0, c⟩) = 0) := (HN.out).trans (by simp)
      clear HE HN
      obtain ⟨S0, T0, hB0⟩ := sole_two w ⟨3, x, y, z⟩ ⟨0, 0, 0, c⟩
      have S0 := Lib.hid S0
      have T0 := Lib.hid T0
      have hB0 := Lib.hid hB0
      go_enter Try.func4, Try.ntmps4
      go_wp2_with fail
      refine (known_any _).mono ?_
      rintro e w1 ⟨rfl, hB1⟩
      have hL1 := below_next hB0.out hB1
      have S1 := S0.out.later hB1
      have T1 := T0.out.later hB1
      obtain ⟨sc10, sc11, sc12, sc13, sc14, sc15, sc16⟩ := S1.cells
      obtain ⟨tc10, tc11, tc12, tc13, tc14, tc15, tc16⟩ := T1.cells
      go_wp2_with fail
      refine (S1.sound 21 EP.out).mono ?_
      rintro e w2 ⟨rfl, hB2⟩
      have hL2 := below_next hL1 hB2
      have S2 := S1.later hB2
      obtain ⟨sc20, sc21, sc22, sc23, sc24, sc25, sc26⟩ := S2.cells
      have T2 := T1.later hB2
      obtain ⟨tc20, tc21, tc22, tc23, tc24, tc25, tc26⟩ := T2.cells
      go_wp2_with fail
      refine (S2.sound 21 EP.out).mono ?_
      rintro e w3 ⟨rfl, hB3⟩
      have hL3 := below_next hL2 hB3
      have S3 := S2.later hB3
      obtain ⟨sc30, sc31, sc32, sc33, sc34, sc35, sc36⟩ := S3.cells
      have T3 := T2.later hB3
      obtain ⟨tc30, tc31, tc32, tc33, tc34, tc35, tc36⟩ := T3.cells
      go_wp2_with fail
      refine (T3.sound 0 EQ.out).mono ?_
      rintro e w4 ⟨rfl, hB4⟩
      have hL4 := below_next hL3 hB4
      have S4 := S3.later hB4
      obtain ⟨sc40, sc41, sc42, sc43, sc44, sc45, sc46⟩ := S4.cells
      have T4 := T3.later hB4
      obtain ⟨tc40, tc41, tc42, tc43, tc44, tc45, tc46⟩ := T4.cells
      go_wp2
      go_ret
      exact ⟨rfl, hL4⟩
  · skip
    cases q2
    · cases q7
      · skip
        have EP : Hid (soundE (soleD ⟨3, x, y, z⟩) = 21) := (HE.out).trans (by simp)
        have EQ : Hid (soundE (soleD ⟨0, 0, 0, c⟩) = 20) := (HN.out).trans (by simp)
        clear HE HN
        obtain ⟨S0, T0, hB0⟩ := sole_two w ⟨3, x, y, z⟩ ⟨0, 0, 0, c⟩
        have S0 := Lib.hid S0
        have T0 := Lib.hid T0
        have hB0 := Lib.hid hB0
        go_enter Try.func4, Try.ntmps4
        go_wp2_with fail
        refine (known_any _).mono ?_
        rintro e w1 ⟨rfl, hB1⟩
        have hL1 := below_next hB0.out hB1
        have S1 := S0.out.later hB1
        have T1 := T0.out.later hB1
        obtain ⟨sc10, sc11, sc12, sc13, sc14, sc15, sc16⟩ := S1.cells
        obtain ⟨tc10, tc11, tc12, tc13, tc14, tc15, tc16⟩ := T1.cells
        go_wp2_with fail
        refine (S1.sound 21 EP.out).mono ?_
        rintro e w2 ⟨rfl, hB2⟩
        have hL2 := below_next hL1 hB2
        have S2 := S1.later hB2
        obtain ⟨sc20, sc21, sc22, sc23, sc24, sc25, sc26⟩ := S2.cells
        have T2 := T1.later hB2
        obtain ⟨tc20, tc21, tc22, tc23, tc24, tc25, tc26⟩ := T2.cells
        go_wp2_with fail
        refine (S2.sound 21 EP.out).mono ?_
        rintro e w3 ⟨rfl, hB3⟩
        have hL3 := below_next hL2 hB3
        have S3 := S2.later hB3
        obtain ⟨sc30, sc31, sc32, sc33, sc34, sc35, sc36⟩ := S3.cells
        have T3 := T2.later hB3
        obtain ⟨tc30, tc31, tc32, tc33, tc34, tc35, tc36⟩ := T3.cells
        go_wp2_with fail
        refine (T3.sound 20 EQ.out).mono ?_
        rintro e w4 ⟨rfl, hB4⟩
        have hL4 := below_next hL3 hB4
        have S4 := S3.later hB4
        obtain ⟨sc40, sc41, sc42, sc43, sc44, sc45, sc46⟩ := S4.cells
        have T4 := T3.later hB4
        obtain ⟨tc40, tc41, tc42, tc43, tc44, tc45, tc46⟩ := T4.cells
        go_wp2_with fail
        refine (T4.sound 20 EQ.out).mono ?_
        rintro e w5 ⟨rfl, hB5⟩
        have hL5 := below_next hL4 hB5
        have S5 := S4.later hB5
        obtain ⟨sc50, sc51, sc52, sc53, sc54, sc55, sc56⟩ := S5.cells
        have T5 := T4.later hB5
        obtain ⟨tc50, tc51, tc52, tc53, tc54, tc55, tc56⟩ := T5.cells
        go_wp2
        go_ret
        exact ⟨rfl, hL5⟩
      · skip
        have EP : Hid (soundE (soleD ⟨3, x, y, z⟩) = 21) := (HE.out).trans (by simp)
        have EQ : Hid (soundE (soleD ⟨0, 0, 0, c⟩) = 0) := (HN.out).trans (by simp)
        clear HE HN
        obtain ⟨S0, T0, hB0⟩ := sole_two w ⟨3, x, y, z⟩ ⟨0, 0, 0, c⟩
        have S0 := Lib.hid S0
        have T0 := Lib.hid T0
        have hB0 := Lib.hid hB0
        go_enter Try.func4, Try.ntmps4
        go_wp2_with fail
        refine (known_any _).mono ?_
        rintro e w1 ⟨rfl, hB1⟩
        have hL1 := below_next hB0.out hB1
        have S1 := S0.out.later hB1
        have T1 := T0.out.later hB1
        obtain ⟨sc10, sc11, sc12, sc13, sc14, sc15, sc16⟩ := S1.cells
        obtain ⟨tc10, tc11, tc12, tc13, tc14, tc15, tc16⟩ := T1.cells
        go_wp2_with fail
        refine (S1.sound 21 EP.out).mono ?_
        rintro e w2 ⟨rfl, hB2⟩
        have hL2 := below_next hL1 hB2
        have S2 := S1.later hB2
        obtain ⟨sc20, sc21, sc22, sc23, sc24, sc25, sc26⟩ := S2.cells
        have T2 := T1.later hB2
        obtain ⟨tc20, tc21, tc22, tc23, tc24, tc25, tc26⟩ := T2.cells
        go_wp2_with fail
        refine (S2.sound 21 EP.out).mono ?_
        rintro e w3 ⟨rfl, hB3⟩
        have hL3 := below_next hL2 hB3
        have S3 := S2.later hB3
        obtain ⟨sc30, sc31, sc32, sc33, sc34, sc35, sc36⟩ := S3.cells
        have T3 := T2.later hB3
        obtain ⟨tc30, tc31, tc32, tc33, tc34, tc35, tc36⟩ := T3.cells
        go_wp2_with fail
        refine (T3.sound 0 EQ.out).mono ?_
        rintro e w4 ⟨rfl, hB4⟩
        have hL4 := below_next hL3 hB4
        have S4 := S3.later hB4
        obtain ⟨sc40, sc41, sc42, sc43, sc44, sc45, sc46⟩ := S4.cells
        have T4 := T3.later hB4
        obtain ⟨tc40, tc41, tc42, tc43, tc44, tc45, tc46⟩ := T4.cells
        go_wp2
        go_ret
        exact ⟨rfl, hL4⟩
    · skip
      cases q3
      · cases q7
        · skip
          have EP : Hid (soundE (soleD ⟨3, x, y, z⟩) = 21) := (HE.out).trans (by simp)
          have EQ : Hid (soundE (soleD ⟨0, 0, 0, c⟩) = 20) := (HN.out).trans (by simp)
          clear HE HN
          obtain ⟨S0, T0, hB0⟩ := sole_two w ⟨3, x, y, z⟩ ⟨0, 0, 0, c⟩
          have S0 := Lib.hid S0
          have T0 := Lib.hid T0
          have hB0 := Lib.hid hB0
          go_enter Try.func4, Try.ntmps4
          go_wp2_with fail
          refine (known_any _).mono ?_
          rintro e w1 ⟨rfl, hB1⟩
          have hL1 := below_next hB0.out hB1
          have S1 := S0.out.later hB1
          have T1 := T0.out.later hB1
          obtain ⟨sc10, sc11, sc12, sc13, sc14, sc15, sc16⟩ := S1.cells
          obtain ⟨tc10, tc11, tc12, tc13, tc14, tc15, tc16⟩ := T1.cells
          go_wp2_with fail
          refine (S1.sound 21 EP.out).mono ?_
          rintro e w2 ⟨rfl, hB2⟩
          have hL2 := below_next hL1 hB2
          have S2 := S1.later hB2
          obtain ⟨sc20, sc21, sc22, sc23, sc24, sc25, sc26⟩ := S2.cells
          have T2 := T1.later hB2
          obtain ⟨tc20, tc21, tc22, tc23, tc24, tc25, tc26⟩ := T2.cells
          go_wp2_with fail
          refine (S2.sound 21 EP.out).mono ?_
          rintro e w3 ⟨rfl, hB3⟩
          have hL3 := below_next hL2 hB3
          have S3 := S2.later hB3
          obtain ⟨sc30, sc31, sc32, sc33, sc34, sc35, sc36⟩ := S3.cells
          have T3 := T2.later hB3
          obtain ⟨tc30, tc31, tc32, tc33, tc34, tc35, tc36⟩ := T3.cells
          go_wp2_with fail
          refine (T3.sound 20 EQ.out).mono ?_
          rintro e w4 ⟨rfl, hB4⟩
          have hL4 := below_next hL3 hB4
          have S4 := S3.later hB4
          obtain ⟨sc40, sc41, sc42, sc43, sc44, sc45, sc46⟩ := S4.cells
          have T4 := T3.later hB4
          obtain ⟨tc40, tc41, tc42, tc43, tc44, tc45, tc46⟩ := T4.cells
          go_wp2_with fail
          refine (T4.sound 20 EQ.out).mono ?_
          rintro e w5 ⟨rfl, hB5⟩
          have hL5 := below_next hL4 hB5
          have S5 := S4.later hB5
          obtain ⟨sc50, sc51, sc52, sc53, sc54, sc55, sc56⟩ := S5.cells
          have T5 := T4.later hB5
          obtain ⟨tc50, tc51, tc52, tc53, tc54, tc55, tc56⟩ := T5.cells
          go_wp2
          go_ret
          exact ⟨rfl, hL5⟩
        · skip
          have EP : Hid (soundE (soleD ⟨3, x, y, z⟩) = 21) := (HE.out).trans (by simp)
          have EQ : Hid (soundE (soleD ⟨0, 0, 0, c⟩) = 0) := (HN.out).trans (by simp)
          clear HE HN
          obtain ⟨S0, T0, hB0⟩ := sole_two w ⟨3, x, y, z⟩ ⟨0, 0, 0, c⟩
          have S0 := Lib.hid S0
          have T0 := Lib.hid T0
          have hB0 := Lib.hid hB0
          go_enter Try.func4, Try.ntmps4
          go_wp2_with fail
          refine (known_any _).mono ?_
          rintro e w1 ⟨rfl, hB1⟩
          have hL1 := below_next hB0.out hB1
          have S1 := S0.out.later hB1
          have T1 := T0.out.later hB1
          obtain ⟨sc10, sc11, sc12, sc13, sc14, sc15, sc16⟩ := S1.cells
          obtain ⟨tc10, tc11, tc12, tc13, tc14, tc15, tc16⟩ := T1.cells
          go_wp2_with fail
          refine (S1.sound 21 EP.out).mono ?_
          rintro e w2 ⟨rfl, hB2⟩
          have hL2 := below_next hL1 hB2
          have S2 := S1.later hB2
          obtain ⟨sc20, sc21, sc22, sc23, sc24, sc25, sc26⟩ := S2.cells
          have T2 := T1.later hB2
          obtain ⟨tc20, tc21, tc22, tc23, tc24, tc25, tc26⟩ := T2.cells
          go_wp2_with fail
          refine (S2.sound 21 EP.out).mono ?_
          rintro e w3 ⟨rfl, hB3⟩
          have hL3 := below_next hL2 hB3
          have S3 := S2.later hB3
          obtain ⟨sc30, sc31, sc32, sc33, sc34, sc35, sc36⟩ := S3.cells
          have T3 := T2.later hB3
          obtain ⟨tc30, tc31, tc32, tc33, tc34, tc35, tc36⟩ := T3.cells
          go_wp2_with fail
          refine (T3.sound 0 EQ.out).mono ?_
          rintro e w4 ⟨rfl, hB4⟩
          have hL4 := below_next hL3 hB4
          have S4 := S3.later hB4
          obtain ⟨sc40, sc41, sc42, sc43, sc44, sc45, sc46⟩ := S4.cells
          have T4 := T3.later hB4
          obtain ⟨tc40, tc41, tc42, tc43, tc44, tc45, tc46⟩ := T4.cells
          go_wp2
          go_ret
          exact ⟨rfl, hL4⟩
      · skip
        cases q4
        · cases q7
          · skip
            have EP : Hid (soundE (soleD ⟨3, x, y, z⟩) = 21) := (HE.out).trans (by simp)
            have EQ : Hid (soundE (soleD ⟨0, 0, 0, c⟩) = 20) := (HN.out).trans (by simp)
            clear HE HN
            obtain ⟨S0, T0, hB0⟩ := sole_two w ⟨3, x, y, z⟩ ⟨0, 0, 0, c⟩
            have S0 := Lib.hid S0
            have T0 := Lib.hid T0
            have hB0 := Lib.hid hB0
            go_enter Try.func4, Try.ntmps4
            go_wp2_with fail
            refine (known_any _).mono ?_
            rintro e w1 ⟨rfl, hB1⟩
            have hL1 := below_next hB0.out hB1
            have S1 := S0.out.later hB1
            have T1 := T0.out.later hB1
            obtain ⟨sc10, sc11, sc12, sc13, sc14, sc15, sc16⟩ := S1.cells
            obtain ⟨tc10, tc11, tc12, tc13, tc14, tc15, tc16⟩ := T1.cells
            go_wp2_with fail
            refine (S1.sound 21 EP.out).mono ?_
            rintro e w2 ⟨rfl, hB2⟩
            have hL2 := below_next hL1 hB2
            have S2 := S1.later hB2
            obtain ⟨sc20, sc21, sc22, sc23, sc24, sc25, sc26⟩ := S2.cells
            have T2 := T1.later hB2
            obtain ⟨tc20, tc21, tc22, tc23, tc24, tc25, tc26⟩ := T2.cells
            go_wp2_with fail
            refine (S2.sound 21 EP.out).mono ?_
            rintro e w3 ⟨rfl, hB3⟩
            have hL3 := below_next hL2 hB3
            have S3 := S2.later hB3
            obtain ⟨sc30, sc31, sc32, sc33, sc34, sc35, sc36⟩ := S3.cells
            have T3 := T2.later hB3
            obtain ⟨tc30, tc31, tc32, tc33, tc34, tc35, tc36⟩ := T3.cells
            go_wp2_with fail
            refine (T3.sound 20 EQ.out).mono ?_
            rintro e w4 ⟨rfl, hB4⟩
            have hL4 := below_next hL3 hB4
            have S4 := S3.later hB4
            obtain ⟨sc40, sc41, sc42, sc43, sc44, sc45, sc46⟩ := S4.cells
            have T4 := T3.later hB4
            obtain ⟨tc40, tc41, tc42, tc43, tc44, tc45, tc46⟩ := T4.cells
            go_wp2_with fail
            refine (T4.sound 20 EQ.out).mono ?_
            rintro e w5 ⟨rfl, hB5⟩
            have hL5 := below_next hL4 hB5
            have S5 := S4.later hB5
            obtain ⟨sc50, sc51, sc52, sc53, sc54, sc55, sc56⟩ := S5.cells
            have T5 := T4.later hB5
            obtain ⟨tc50, tc51, tc52, tc53, tc54, tc55, tc56⟩ := T5.cells
            go_wp2
            go_ret
            exact ⟨rfl, hL5⟩
          · skip
            have EP : Hid (soundE (soleD ⟨3, x, y, z⟩) = 21) := (HE.out).trans (by simp)
            have EQ : Hid (soundE (soleD ⟨0, 0, 0, c⟩) = 0) := (HN.out).trans (by simp)
            clear HE HN
            obtain ⟨S0, T0, hB0⟩ := sole_two w ⟨3, x, y, z⟩ ⟨0, 0, 0, c⟩
            have S0 := Lib.hid S0
            have T0 := Lib.hid T0
            have hB0 := Lib.hid hB0
            go_enter Try.func4, Try.ntmps4
            go_wp2_with fail
            refine (known_any _).mono ?_
            rintro e w1 ⟨rfl, hB1⟩
            have hL1 := below_next hB0.out hB1
            have S1 := S0.out.later hB1
            have T1 := T0.out.later hB1
            obtain ⟨sc10, sc11, sc12, sc13, sc14, sc15, sc16⟩ := S1.cells
            obtain ⟨tc10, tc11, tc12, tc13, tc14, tc15, tc16⟩ := T1.cells
            go_wp2_with fail
            refine (S1.sound 21 EP.out).mono ?_
            rintro e w2 ⟨rfl, hB2⟩
            have hL2 := below_next hL1 hB2
            have S2 := S1.later hB2
            obtain ⟨sc20, sc21, sc22, sc23, sc24, sc25, sc26⟩ := S2.cells
            have T2 := T1.later hB2
            obtain ⟨tc20, tc21, tc22, tc23, tc24, tc25, tc26⟩ := T2.cells
            go_wp2_with fail
            refine (S2.sound 21 EP.out).mono ?_
            rintro e w3 ⟨rfl, hB3⟩
            have hL3 := below_next hL2 hB3
            have S3 := S2.later hB3
            obtain ⟨sc30, sc31, sc32, sc33, sc34, sc35, sc36⟩ := S3.cells
            have T3 := T2.later hB3
            obtain ⟨tc30, tc31, tc32, tc33, tc34, tc35, tc36⟩ := T3.cells
            go_wp2_with fail
            refine (T3.sound 0 EQ.out).mono ?_
            rintro e w4 ⟨rfl, hB4⟩
            have hL4 := below_next hL3 hB4
            have S4 := S3.later hB4
            obtain ⟨sc40, sc41, sc42, sc43, sc44, sc45, sc46⟩ := S4.cells
            have T4 := T3.later hB4
            obtain ⟨tc40, tc41, tc42, tc43, tc44, tc45, tc46⟩ := T4.cells
            go_wp2
            go_ret
            exact ⟨rfl, hL4⟩
        · skip
          cases q5
          · cases q7
            · skip
              have EP : Hid (soundE (soleD ⟨3, x, y, z⟩) = 21) := (HE.out).trans (by simp)
              have EQ : Hid (soundE (soleD ⟨0, 0, 0, c⟩) = 20) := (HN.out).trans (by simp)
              clear HE HN
              obtain ⟨S0, T0, hB0⟩ := sole_two w ⟨3, x, y, z⟩ ⟨0, 0, 0, c⟩
              have S0 := Lib.hid S0
              have T0 := Lib.hid T0
              have hB0 := Lib.hid hB0
              go_enter Try.func4, Try.ntmps4
              go_wp2_with fail
              refine (known_any _).mono ?_
              rintro e w1 ⟨rfl, hB1⟩
              have hL1 := below_next hB0.out hB1
              have S1 := S0.out.later hB1
              have T1 := T0.out.later hB1
              obtain ⟨sc10, sc11, sc12, sc13, sc14, sc15, sc16⟩ := S1.cells
              obtain ⟨tc10, tc11, tc12, tc13, tc14, tc15, tc16⟩ := T1.cells
              go_wp2_with fail
              refine (S1.sound 21 EP.out).mono ?_
              rintro e w2 ⟨rfl, hB2⟩
              have hL2 := below_next hL1 hB2
              have S2 := S1.later hB2
              obtain ⟨sc20, sc21, sc22, sc23, sc24, sc25, sc26⟩ := S2.cells
              have T2 := T1.later hB2
              obtain ⟨tc20, tc21, tc22, tc23, tc24, tc25, tc26⟩ := T2.cells
              go_wp2_with fail
              refine (S2.sound 21 EP.out).mono ?_
              rintro e w3 ⟨rfl, hB3⟩
              have hL3 := below_next hL2 hB3
              have S3 := S2.later hB3
              obtain ⟨sc30, sc31, sc32, sc33, sc34, sc35, sc36⟩ := S3.cells
              have T3 := T2.later hB3
              obtain ⟨tc30, tc31, tc32, tc33, tc34, tc35, tc36⟩ := T3.cells
              go_wp2_with fail
              refine (T3.sound 20 EQ.out).mono ?_
              rintro e w4 ⟨rfl, hB4⟩
              have hL4 := below_next hL3 hB4
              have S4 := S3.later hB4
              obtain ⟨sc40, sc41, sc42, sc43, sc44, sc45, sc46⟩ := S4.cells
              have T4 := T3.later hB4
              obtain ⟨tc40, tc41, tc42, tc43, tc44, tc45, tc46⟩ := T4.cells
              go_wp2_with fail
              refine (T4.sound 20 EQ.out).mono ?_
              rintro e w5 ⟨rfl, hB5⟩
              have hL5 := below_next hL4 hB5
              have S5 := S4.later hB5
              obtain ⟨sc50, sc51, sc52, sc53, sc54, sc55, sc56⟩ := S5.cells
              have T5 := T4.later hB5
              obtain ⟨tc50, tc51, tc52, tc53, tc54, tc55, tc56⟩ := T5.cells
              go_wp2
              go_ret
              exact ⟨rfl, hL5⟩
            · skip
              have EP : Hid (soundE (soleD ⟨3, x, y, z⟩) = 21) := (HE.out).trans (by simp)
              have EQ : Hid (soundE (soleD ⟨0, 0, 0, c⟩) = 0) := (HN.out).trans (by simp)
              clear HE HN
              obtain ⟨S0, T0, hB0⟩ := sole_two w ⟨3, x, y, z⟩ ⟨0, 0, 0, c⟩
              have S0 := Lib.hid S0
              have T0 := Lib.hid T0
              have hB0 := Lib.hid hB0
              go_enter Try.func4, Try.ntmps4
              go_wp2_with fail
              refine (known_any _).mono ?_
              rintro e w1 ⟨rfl, hB1⟩
              have hL1 := below_next hB0.out hB1
              have S1 := S0.out.later hB1
              have T1 := T0.out.later hB1
              obtain ⟨sc10, sc11, sc12, sc13, sc14, sc15, sc16⟩ := S1.cells
              obtain ⟨tc10, tc11, tc12, tc13, tc14, tc15, tc16⟩ := T1.cells
              go_wp2_with fail
              refine (S1.sound 21 EP.out).mono ?_
              rintro e w2 ⟨rfl, hB2⟩
              have hL2 := below_next hL1 hB2
              have S2 := S1.later hB2
              obtain ⟨sc20, sc21, sc22, sc23, sc24, sc25, sc26⟩ := S2.cells
              have T2 := T1.later hB2
              obtain ⟨tc20, tc21, tc22, tc23, tc24, tc25, tc26⟩ := T2.cells
              go_wp2_with fail
              refine (S2.sound 21 EP.out).mono ?_
              rintro e w3 ⟨rfl, hB3⟩
              have hL3 := below_next hL2 hB3
              have S3 := S2.later hB3
              obtain ⟨sc30, sc31, sc32, sc33, sc34, sc35, sc36⟩ := S3.cells
              have T3 := T2.later hB3
              obtain ⟨tc30, tc31, tc32, tc33, tc34, tc35, tc36⟩ := T3.cells
              go_wp2_with fail
              refine (T3.sound 0 EQ.out).mono ?_
              rintro e w4 ⟨rfl, hB4⟩
              have hL4 := below_next hL3 hB4
              have S4 := S3.later hB4
              obtain ⟨sc40, sc41, sc42, sc43, sc44, sc45, sc46⟩ := S4.cells
              have T4 := T3.later hB4
              obtain ⟨tc40, tc41, tc42, tc43, tc44, tc45, tc46⟩ := T4.cells
              go_wp2
              go_ret
              exact ⟨rfl, hL4⟩
          · skip
            cases q6
            · cases q7
              · skip
                have EP : Hid (soundE (soleD ⟨3, x, y, z⟩) = 21) := (HE.out).trans (by simp)
                have EQ : Hid (soundE (soleD ⟨0, 0, 0, c⟩) = 20) := (HN.out).trans (by simp)
                clear HE HN
                obtain ⟨S0, T0, hB0⟩ := sole_two w ⟨3, x, y, z⟩ ⟨0, 0, 0, c⟩
                have S0 := Lib.hid S0
                have T0 := Lib.hid T0
                have hB0 := Lib.hid hB0
                go_enter Try.func4, Try.ntmps4
                go_wp2_with fail
                refine (known_any _).mono ?_
                rintro e w1 ⟨rfl, hB1⟩
                have hL1 := below_next hB0.out hB1
                have S1 := S0.out.later hB1
                have T1 := T0.out.later hB1
                obtain ⟨sc10, sc11, sc12, sc13, sc14, sc15, sc16⟩ := S1.cells
                obtain ⟨tc10, tc11, tc12, tc13, tc14, tc15, tc16⟩ := T1.cells
                go_wp2_with fail
                refine (S1.sound 21 EP.out).mono ?_
                rintro e w2 ⟨rfl, hB2⟩
                have hL2 := below_next hL1 hB2
                have S2 := S1.later hB2
                obtain ⟨sc20, sc21, sc22, sc23, sc24, sc25, sc26⟩ := S2.cells
                have T2 := T1.later hB2
                obtain ⟨tc20, tc21, tc22, tc23, tc24, tc25, tc26⟩ := T2.cells
                go_wp2_with fail
                refine (S2.sound 21 EP.out).mono ?_
                rintro e w3 ⟨rfl, hB3⟩
                have hL3 := below_next hL2 hB3
                have S3 := S2.later hB3
                obtain ⟨sc30, sc31, sc32, sc33, sc34, sc35, sc36⟩ := S3.cells
                have T3 := T2.later hB3
                obtain ⟨tc30, tc31, tc32, tc33, tc34, tc35, tc36⟩ := T3.cells
                go_wp2_with fail
                refine (T3.sound 20 EQ.out).mono ?_
                rintro e w4 ⟨rfl, hB4⟩
                have hL4 := below_next hL3 hB4
                have S4 := S3.later hB4
                obtain ⟨sc40, sc41, sc42, sc43, sc44, sc45, sc46⟩ := S4.cells
                have T4 := T3.later hB4
                obtain ⟨tc40, tc41, tc42, tc43, tc44, tc45, tc46⟩ := T4.cells
                go_wp2_with fail
                refine (T4.sound 20 EQ.out).mono ?_
                rintro e w5 ⟨rfl, hB5⟩
                have hL5 := below_next hL4 hB5
                have S5 := S4.later hB5
                obtain ⟨sc50, sc51, sc52, sc53, sc54, sc55, sc56⟩ := S5.cells
                have T5 := T4.later hB5
                obtain ⟨tc50, tc51, tc52, tc53, tc54, tc55, tc56⟩ := T5.cells
                go_wp2
                go_ret
                exact ⟨rfl, hL5⟩
              · skip
                have EP : Hid (soundE (soleD ⟨3, x, y, z⟩) = 21) := (HE.out).trans (by simp)
                have EQ : Hid (soundE (soleD ⟨0, 0, 0, c⟩) = 0) := (HN.out).trans (by simp)
                clear HE HN
                obtain ⟨S0, T0, hB0⟩ := sole_two w ⟨3, x, y, z⟩ ⟨0, 0, 0, c⟩
                have S0 := Lib.hid S0
                have T0 := Lib.hid T0
                have hB0 := Lib.hid hB0
                go_enter Try.func4, Try.ntmps4
                go_wp2_with fail
                refine (known_any _).mono ?_
                rintro e w1 ⟨rfl, hB1⟩
                have hL1 := below_next hB0.out hB1
                have S1 := S0.out.later hB1
                have T1 := T0.out.later hB1
                obtain ⟨sc10, sc11, sc12, sc13, sc14, sc15, sc16⟩ := S1.cells
                obtain ⟨tc10, tc11, tc12, tc13, tc14, tc15, tc16⟩ := T1.cells
                go_wp2_with fail
                refine (S1.sound 21 EP.out).mono ?_
                rintro e w2 ⟨rfl, hB2⟩
                have hL2 := below_next hL1 hB2
                have S2 := S1.later hB2
                obtain ⟨sc20, sc21, sc22, sc23, sc24, sc25, sc26⟩ := S2.cells
                have T2 := T1.later hB2
                obtain ⟨tc20, tc21, tc22, tc23, tc24, tc25, tc26⟩ := T2.cells
                go_wp2_with fail
                refine (S2.sound 21 EP.out).mono ?_
                rintro e w3 ⟨rfl, hB3⟩
                have hL3 := below_next hL2 hB3
                have S3 := S2.later hB3
                obtain ⟨sc30, sc31, sc32, sc33, sc34, sc35, sc36⟩ := S3.cells
                have T3 := T2.later hB3
                obtain ⟨tc30, tc31, tc32, tc33, tc34, tc35, tc36⟩ := T3.cells
                go_wp2_with fail
                refine (T3.sound 0 EQ.out).mono ?_
                rintro e w4 ⟨rfl, hB4⟩
                have hL4 := below_next hL3 hB4
                have S4 := S3.later hB4
                obtain ⟨sc40, sc41, sc42, sc43, sc44, sc45, sc46⟩ := S4.cells
                have T4 := T3.later hB4
                obtain ⟨tc40, tc41, tc42, tc43, tc44, tc45, tc46⟩ := T4.cells
                go_wp2
                go_ret
                exact ⟨rfl, hL4⟩
            · skip
              cases q7
              · skip
                have EP : Hid (soundE (soleD ⟨3, x, y, z⟩) = 0) := (HE.out).trans (by simp)
                have EQ : Hid (soundE (soleD ⟨0, 0, 0, c⟩) = 20) := (HN.out).trans (by simp)
                clear HE HN
                obtain ⟨S0, T0, hB0⟩ := sole_two w ⟨3, x, y, z⟩ ⟨0, 0, 0, c⟩
                have S0 := Lib.hid S0
                have T0 := Lib.hid T0
                have hB0 := Lib.hid hB0
                go_enter Try.func4, Try.ntmps4
                go_wp2_with fail
                refine (known_any _).mono ?_
                rintro e w1 ⟨rfl, hB1⟩
                have hL1 := below_next hB0.out hB1
                have S1 := S0.out.later hB1
                have T1 := T0.out.later hB1
                obtain ⟨sc10, sc11, sc12, sc13, sc14, sc15, sc16⟩ := S1.cells
                obtain ⟨tc10, tc11, tc12, tc13, tc14, tc15, tc16⟩ := T1.cells
                go_wp2_with fail
                refine (S1.sound 0 EP.out).mono ?_
                rintro e w2 ⟨rfl, hB2⟩
                have hL2 := below_next hL1 hB2
                have S2 := S1.later hB2
                obtain ⟨sc20, sc21, sc22, sc23, sc24, sc25, sc26⟩ := S2.cells
                have T2 := T1.later hB2
                obtain ⟨tc20, tc21, tc22, tc23, tc24, tc25, tc26⟩ := T2.cells
                go_wp2_with fail
                refine (T2.sound 20 EQ.out).mono ?_
                rintro e w3 ⟨rfl, hB3⟩
                have hL3 := below_next hL2 hB3
                have S3 := S2.later hB3
                obtain ⟨sc30, sc31, sc32, sc33, sc34, sc35, sc36⟩ := S3.cells
                have T3 := T2.later hB3
                obtain ⟨tc30, tc31, tc32, tc33, tc34, tc35, tc36⟩ := T3.cells
                go_wp2_with fail
                refine (T3.sound 20 EQ.out).mono ?_
                rintro e w4 ⟨rfl, hB4⟩
                have hL4 := below_next hL3 hB4
                have S4 := S3.later hB4
                obtain ⟨sc40, sc41, sc42, sc43, sc44, sc45, sc46⟩ := S4.cells
                have T4 := T3.later hB4
                obtain ⟨tc40, tc41, tc42, tc43, tc44, tc45, tc46⟩ := T4.cells
                go_wp2
                go_ret
                exact ⟨rfl, hL4⟩
              · skip
                have EP : Hid (soundE (soleD ⟨3, x, y, z⟩) = 0) := (HE.out).trans (by simp)
                have EQ : Hid (soundE (soleD ⟨0, 0, 0, c⟩) = 0) := (HN.out).trans (by simp)
                clear HE HN
                obtain ⟨S0, T0, hB0⟩ := sole_two w ⟨3, x, y, z⟩ ⟨0, 0, 0, c⟩
                have S0 := Lib.hid S0
                have T0 := Lib.hid T0
                have hB0 := Lib.hid hB0
                go_enter Try.func4, Try.ntmps4
                go_wp2_with fail
                refine (known_any _).mono ?_
                rintro e w1 ⟨rfl, hB1⟩
                have hL1 := below_next hB0.out hB1
                have S1 := S0.out.later hB1
                have T1 := T0.out.later hB1
                obtain ⟨sc10, sc11, sc12, sc13, sc14, sc15, sc16⟩ := S1.cells
                obtain ⟨tc10, tc11, tc12, tc13, tc14, tc15, tc16⟩ := T1.cells
                go_wp2_with fail
                refine (S1.sound 0 EP.out).mono ?_
                rintro e w2 ⟨rfl, hB2⟩
                have hL2 := below_next hL1 hB2
                have S2 := S1.later hB2
                obtain ⟨sc20, sc21, sc22, sc23, sc24, sc25, sc26⟩ := S2.cells
                have T2 := T1.later hB2
                obtain ⟨tc20, tc21, tc22, tc23, tc24, tc25, tc26⟩ := T2.cells
                go_wp2_with fail
                refine (T2.sound 0 EQ.out).mono ?_
                rintro e w3 ⟨rfl, hB3⟩
                have hL3 := below_next hL2 hB3
                have S3 := S2.later hB3
                obtain ⟨sc30, sc31, sc32, sc33, sc34, sc35, sc36⟩ := S3.cells
                have T3 := T2.later hB3
                obtain ⟨tc30, tc31, tc32, tc33, tc34, tc35, tc36⟩ := T3.cells
                go_wp2
                go_ret
                exact ⟨rfl, hL3⟩

theorem irRegs_walk (a0 a1 a2 : Int) (w : World) (w0 : (Lit.int .i8 a0).wf = true) (w1 : (Lit.int .i8 a1).wf = true) (w2 : (Lit.int .i8 a2).wf = true) :
    Calls Try.prog 4 #[.int .i8 a0, .int .i8 a1, .int .i8 a2] w fun e w' => e = .returned (.bool true) ∧ Below w.heap.size w w' := by
  have b0 := bounds_i8 w0
  have b1 := bounds_i8 w1
  have b2 := bounds_i8 w2
  have t0 := tmod6 a0
  have t1 := tmod6 a1
  have t2 := tmod6 a2
  exact irRegs_at a0 a1 a2 _ _ _ _ _ _ _ _ _ _ w rfl rfl rfl (IntWalk.wrap64_in _ (by omega)) (IntWalk.wrap64_in _ (by omega)) (IntWalk.wrap64_in _ (by omega)) (IntWalk.wrap64_in _ (by omega)) (i8_in _ (by omega)) (i8_in _ (by omega)) (i8_in _ (by omega)) rfl rfl rfl rfl rfl rfl rfl

set_option maxRecDepth 100000 in
theorem irRegs_lifted (os : Os) (started : os.Started) (H : Type) (enc : TypeId × Value → H) :
    ReturnsInHanded {} Try.checked os 4 .any (Rows.irRegsSpec.pre6 enc Try.prog Try.f4 Rows.irRegsRow.domain false) (Rows.irRegsSpec.post enc Try.prog Try.f4 false true false false) := by
  refine returnsInHanded_of_change (C := Try.checked) law_own started (by kernel_rfl) Try.func4
    (ChangeSpec.witness6 (enc := enc) (C := Try.checked) false ⟨#[], #[.int .i8 0, .int .i8 0, .int .i8 0], []⟩ 8 (by kernel_rfl) (by kernel_rfl) (by kernel_rfl) (by kernel_rfl)) ?_
  intro W base args ds gs before hval0 hW hcnd _
  have hval : ∀ (j : Nat) t v, Try.f4.params[j]? = some t → args[j]? = some v → Value.okWide Try.prog W .any base t v := hval0
  have hW' := hW
  obtain ⟨p, q, hA0, hV, rfl, hfz, hnd⟩ := hW
  have hA : DataW.TrodAll enc Try.prog W 0 (fun _ => true) true Try.f4.params.toList args.toList ds p := hA0
  rw [Try.params4] at hA hval
  obtain ⟨v0, vs0, d0, ds0, p0, q0, hargs, rfl, rfl, h0, r0⟩ := trodAll_cons hA
  obtain ⟨v1, vs1, d1, ds1, p1, q1, rfl, rfl, rfl, h1, r1⟩ := trodAll_cons r0
  obtain ⟨v2, vs2, d2, ds2, p2, q2, rfl, rfl, rfl, h2, r2⟩ := trodAll_cons r1
  obtain ⟨rfl, rfl, rfl⟩ := trodAll_nil r2
  obtain rfl : args = #[v0, v1, v2] := by cases args; simp_all
  obtain ⟨rfl, rfl⟩ := trodVars_none hV
  obtain ⟨a0, rfl, rfl, rfl, w0⟩ := open_int Try.underlying36 (hval 0 36 v0 rfl rfl) h0
  obtain ⟨a1, rfl, rfl, rfl, w1⟩ := open_int Try.underlying36 (hval 1 36 v1 rfl rfl) h1
  obtain ⟨a2, rfl, rfl, rfl, w2⟩ := open_int Try.underlying36 (hval 2 36 v2 rfl rfl) h2
  clear hA0 hval0
  refine (irRegs_walk a0 a1 a2 W w0 w1 w2).mono fun e W' ⟨he, bel⟩ => ?_
  subst he
  exact ⟨_, rfl, _, _, _, [], _, [], hW', trodAll_mk1 (shut_bool Try.underlying4 _), (trodAll_cons_mk (shut_int Try.underlying36 w0) (trodAll_cons_mk (shut_int Try.underlying36 w1) (trodAll_cons_mk (shut_int Try.underlying36 w2) trodAll_mk0))), rfl, bel.frame _, fun h => by cases h⟩

/-- The statement. -/
theorem irRegs_holds : Rows.IrRegsSaid :=
  OpenClaim.holds_of_wide 4 Try.f4 rfl rfl rfl rfl rfl rfl rfl ⟨rfl, rfl, rfl, rfl, rfl⟩ rfl rfl rfl rfl rfl (by kernel_rfl) Try.func4 (by kernel_rfl)
    (of_decide_eq_true (by kernel_rfl)) (by unfold Func.isWrapper; first | (rw [if_pos (by decide +kernel)]; kernel_rfl) | (rw [if_neg (by decide +kernel)]; exact ⟨rfl, rfl⟩))
    (fun os started H enc _ => irRegs_lifted os started H enc)

end Go.Proofs.Ytpmfolgihdmcjaa
