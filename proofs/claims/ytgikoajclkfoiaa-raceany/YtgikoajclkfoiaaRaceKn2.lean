/- What race's hears answers: the things whose knowledge comes to an event. -/
import Derived.Test.YtgikoajclkfoiaaRaceKn1
namespace Go.Proofs.Ytgikoajclkfoiaa
set_option linter.unusedVariables false
set_option linter.unusedSimpArgs false
set_option maxRecDepth 100000
open Go.ChangeShapes Go.WideShapes Go.ChangeAt Go.RowKit Go.Maps

def kyCells (x : Ky) : List Value := [.int .u8 x.1, .int .i64 x.2.1, .int .i64 x.2.2]
def kysCells (l : List Ky) : List Value := l.flatMap kyCells
/-- Things lie at an address. -/
def KysIn (u : World) (a : Option Addr) (l : List Ky) : Prop := ∀ i x, l[i]? = some x → ∃ g, a = some ⟨g, 0, none⟩ ∧ g < u.heap.size ∧ u.cell? ⟨g, i * 3, none⟩ = some (.int .u8 x.1) ∧ u.cell? ⟨g, i * 3 + 1, none⟩ = some (.int .i64 x.2.1) ∧ u.cell? ⟨g, i * 3 + 2, none⟩ = some (.int .i64 x.2.2)
theorem KysIn.later {u u' : World} {a : Option Addr} {l : List Ky} (h : KysIn u a l) (hB : Below u.heap.size u u') : KysIn u' a l := fun i x hx => by
  obtain ⟨g, e, hg, h0, h1, h2⟩ := h i x hx
  exact ⟨g, e, Nat.lt_of_lt_of_le hg hB.size, (hB.cell (p := ⟨g, i * 3, none⟩) hg).trans h0, (hB.cell (p := ⟨g, i * 3 + 1, none⟩) hg).trans h1, (hB.cell (p := ⟨g, i * 3 + 2, none⟩) hg).trans h2⟩
theorem kys_at : ∀ (l : List Ky) (i : Nat) (x : Ky), l[i]? = some x → ∀ j, j < 3 → (kysCells l)[i * 3 + j]? = (kyCells x)[j]?
  | [], i, x, h, _, _ => by simp at h
  | y :: r, 0, x, h, j, hj => by
    simp at h; subst h
    rw [show kysCells (y :: r) = kyCells y ++ kysCells r by simp [kysCells], List.getElem?_append_left (by simp [kyCells]; omega)]; simp
  | y :: r, i + 1, x, h, j, hj => by
    have h' : r[i]? = some x := by simpa using h
    rw [show kysCells (y :: r) = kyCells y ++ kysCells r by simp [kysCells], List.getElem?_append_right (by simp [kyCells]; omega), show (i + 1) * 3 + j - (kyCells y).length = i * 3 + j by simp [kyCells]; omega]
    exact kys_at r i x h' j hj
theorem kys_new (u : World) (l : List Ky) (t : TypeId) : KysIn (u.alloc (.cells (kysCells l).toArray t)) (some ⟨u.heap.size, 0, none⟩) l := fun i x hx => by
  refine ⟨u.heap.size, rfl, by simp, ?_, ?_, ?_⟩
  all_goals rw [cell_of_row _ _ _ _ _ _ (heap_alloc_new _ _)]
  · simpa [kyCells] using kys_at l i x hx 0 (by omega)
  · simpa [kyCells] using kys_at l i x hx 1 (by omega)
  · simpa [kyCells] using kys_at l i x hx 2 (by omega)
def HearsE (w : World) (l : List Ky) (r : Ending) (w' : World) : Prop := ∃ (a : Option Addr) (c : Nat), r = .returned (.slice a l.length c) ∧ KysIn w' a l ∧ Below w.heap.size w w'
theorem hears_new {w V : World} (hB : Below w.heap.size w V) {g : Nat} (hg : g = V.heap.size) (l : List Ky) (t : TypeId) (c : Nat) : HearsE w l (.returned (.slice (some ⟨g, 0, none⟩) l.length c)) (V.alloc (.cells (kysCells l).toArray t)) := by
  subst hg
  exact ⟨_, c, rfl, kys_new V l t, below_next hB (below_box _ _)⟩
theorem hears_nil {w V : World} (hB : Below w.heap.size w V) : HearsE w [] (.returned (.slice none 0 0)) V := by
  have h : KysIn V none [] := fun i x hx => by simp at hx
  exact ⟨none, 0, rfl, h, hB⟩
set_option maxHeartbeats 2000000 in
theorem hears_any {base gk gc gs gt : Nat} {ca : Option Addr} {cc : Nat} {chans : List Int} {n : Nat} {k : KnS} {w : World} (h : KnIn base gk gc gs gt ca cc chans n k w) (e : EvD) (hW : Wf e.obj) :
    Calls Try.prog 37 #[.pointer (some ⟨gk, 0, none⟩), e.v] w (HearsE w (hearsL chans k.S k.T e)) := by
  have HK := Lib.hid h
  have HT := Lib.hid (fun W => taking8_any e W)
  have HC := Lib.hid (fun W => closed8_any e W)
  clear h
  obtain ⟨th, pc, op, obj, val, mode⟩ := e
  show Calls Try.prog 37 #[.pointer (some ⟨gk, 0, none⟩), evV th pc op obj val mode] w _
  by_cases h13 : op = 13
  · subst h13
    have HF := Lib.hid (show hearsL chans k.S k.T ⟨th, pc, 13, obj, val, mode⟩ = [(1, obj, 0), (2, obj, 0)] by unfold hearsL; rw [if_pos rfl])
    rw [HF.out]
    go_enter Try.func37, Try.ntmps37
    go_wp2
    go_ret
    exact hears_new (below_box w (.cells #[.int .i64 th, .int .i64 pc, .int .u8 13, .int .i64 obj, .int .i64 val, .int .i64 mode] 26)) (by simp) [(1, obj, 0), (2, obj, 0)] 75 2
  have h13' : (op == 13) = false := by simpa using h13
  by_cases h15 : op = 15
  · subst h15
    have HF := Lib.hid (show hearsL chans k.S k.T ⟨th, pc, 15, obj, val, mode⟩ = [(1, obj, 0)] by unfold hearsL; rw [if_neg (by simp), if_pos rfl])
    rw [HF.out]
    go_enter Try.func37, Try.ntmps37
    go_wp2
    go_ret
    exact hears_new (below_box w (.cells #[.int .i64 th, .int .i64 pc, .int .u8 15, .int .i64 obj, .int .i64 val, .int .i64 mode] 26)) (by simp) [(1, obj, 0)] 75 1
  have h15' : (op == 15) = false := by simpa using h15
  by_cases h17 : op = 17
  · subst h17
    have HF := Lib.hid (show hearsL chans k.S k.T ⟨th, pc, 17, obj, val, mode⟩ = [(3, obj, 0)] by unfold hearsL; rw [if_neg (by simp), if_neg (by simp), if_pos rfl])
    rw [HF.out]
    go_enter Try.func37, Try.ntmps37
    go_wp2
    go_ret
    exact hears_new (below_box w (.cells #[.int .i64 th, .int .i64 pc, .int .u8 17, .int .i64 obj, .int .i64 val, .int .i64 mode] 26)) (by simp) [(3, obj, 0)] 75 1
  have h17' : (op == 17) = false := by simpa using h17
  by_cases h19 : op = 19
  · subst h19
    have HF := Lib.hid (show hearsL chans k.S k.T ⟨th, pc, 19, obj, val, mode⟩ = [(3, obj, 0)] by unfold hearsL; rw [if_neg (by simp), if_neg (by simp), if_neg (by simp), if_pos rfl])
    rw [HF.out]
    go_enter Try.func37, Try.ntmps37
    go_wp2
    go_ret
    exact hears_new (below_box w (.cells #[.int .i64 th, .int .i64 pc, .int .u8 19, .int .i64 obj, .int .i64 val, .int .i64 mode] 26)) (by simp) [(3, obj, 0)] 75 1
  have h19' : (op == 19) = false := by simpa using h19
  generalize hL : hearsL chans k.S k.T ⟨th, pc, op, obj, val, mode⟩ = L
  have HLq := Lib.hid hL
  clear hL
  go_enter Try.func37, Try.ntmps37
  go_upto_region 9 with (fail)
  generalize hV : World.alloc w _ = V
  have HB := Lib.hid (show Below w.heap.size w V by rw [← hV]; exact below_box _ _)
  have HN : Hid (V.heap[w.heap.size]? = some (.cells #[.int .i64 th, .int .i64 pc, .int .u8 op, .int .i64 obj, .int .i64 val, .int .i64 mode] 26)) := Lib.hid (by rw [← hV]; exact heap_alloc_new _ _)
  clear hV
  obtain ⟨a0, a1, a2, a3, a4, a5⟩ := box6R HN.out
  rcases ht : tkB ⟨th, pc, op, obj, val, mode⟩ with _ | _
  · simp only [ht] at HT
    by_cases h20 : op = 20
    · subst h20
      have HF := Lib.hid (show hearsL chans k.S k.T ⟨th, pc, 20, obj, val, mode⟩ = [(5, obj, RowKit.wrap64 ((k.S obj : Nat) - roomL chans obj))] by unfold hearsL; rw [if_neg (by simp), if_neg (by simp), if_neg (by simp), if_neg (by simp), if_neg (by rw [ht]; decide), if_pos rfl])
      obtain rfl := HLq.out.symm.trans HF.out
      clear ht
      go_upto_region 12 with (go_at_call 46; refine (HT.out _).mono ?_; rintro e w1 ⟨rfl, hB1⟩; obtain ⟨a0, a1, a2, a3, a4, a5⟩ := box6R (old_later HN.out hB1))
      have HB2 := Lib.hid (below_next HB.out hB1)
      have HK1 := Lib.hid (HK.out.later HB2.out)
      obtain ⟨k0, k1, k2, k3⟩ := box4R HK1.out.box
      have HKd := Lib.hid (HK1.out.later (Below.refl _ _).drew)
      have hl := HKd.out.se.look hW
      have HR := Lib.hid (room8_any HKd.out obj)
      refine wp_region_still_tail 12 (by kernel_rfl) (by kernel_rfl) ?_
      simp only [List.take_succ_cons, List.take_zero, List.drop_succ_cons, List.drop_zero]
      still_step
      still_step
      still_step
      still_step
      still_step
      still_step
      still_step
      still_step
      still_step
      still_call HR.out
      still_step
      still_step
      refine wpStill_nil ?_
      change wpList _ _ _ _ _ w1.drew
      have HB3 := Lib.hid (show Below w.heap.size w w1.drew from HB2.out.drew)
      generalize w1.drew = U at *
      go_wp2
      go_ret
      exact hears_new HB3.out rfl [(5, obj, RowKit.wrap64 ((k.S obj : Nat) - roomL chans obj))] 75 1
    have h20' : (op == 20) = false := by simpa using h20
    go_upto_region 13 with (go_at_call 46; refine (HT.out _).mono ?_; rintro e w1 ⟨rfl, hB1⟩; obtain ⟨a0, a1, a2, a3, a4, a5⟩ := box6R (old_later HN.out hB1))
    have HB2 := Lib.hid (below_next HB.out hB1)
    have HN1 := Lib.hid (old_later HN.out hB1)
    rcases hc : clB ⟨th, pc, op, obj, val, mode⟩ with _ | _
    · simp only [hc] at HC
      by_cases h25 : op = 25
      · subst h25
        have HF := Lib.hid (show hearsL chans k.S k.T ⟨th, pc, 25, obj, val, mode⟩ = [(7, obj, 0)] by unfold hearsL; rw [if_neg (by simp), if_neg (by simp), if_neg (by simp), if_neg (by simp), if_neg (by rw [ht]; decide), if_neg (by simp), if_neg (by rw [hc]; decide), if_pos rfl])
        obtain rfl := HLq.out.symm.trans HF.out
        clear ht hc
        go_wp2_with (go_at_call 48; refine (HC.out _).mono ?_; rintro e w2 ⟨rfl, hB2⟩; obtain ⟨a0, a1, a2, a3, a4, a5⟩ := box6R (old_later HN1.out hB2))
        go_ret
        exact hears_new (below_next HB2.out hB2) rfl [(7, obj, 0)] 75 1
      have h25' : (op == 25) = false := by simpa using h25
      by_cases h26 : op = 26
      · subst h26
        rcases hm : (mode == 0) with _ | _
        · have hm' : ¬ mode = 0 := by simpa using hm
          have HF := Lib.hid (show hearsL chans k.S k.T ⟨th, pc, 26, obj, val, mode⟩ = [] by unfold hearsL; rw [if_neg (by simp), if_neg (by simp), if_neg (by simp), if_neg (by simp), if_neg (by rw [ht]; decide), if_neg (by simp), if_neg (by rw [hc]; decide), if_neg (by simp), if_neg (fun h => hm' h.2)])
          obtain rfl := HLq.out.symm.trans HF.out
          clear ht hc
          go_wp2_with (go_at_call 48; refine (HC.out _).mono ?_; rintro e w2 ⟨rfl, hB2⟩; obtain ⟨a0, a1, a2, a3, a4, a5⟩ := box6R (old_later HN1.out hB2))
          go_ret
          exact hears_nil (below_next HB2.out hB2)
        · have hm' : mode = 0 := by simpa using hm
          have HF := Lib.hid (show hearsL chans k.S k.T ⟨th, pc, 26, obj, val, mode⟩ = [(8, obj, 0)] by unfold hearsL; rw [if_neg (by simp), if_neg (by simp), if_neg (by simp), if_neg (by simp), if_neg (by rw [ht]; decide), if_neg (by simp), if_neg (by rw [hc]; decide), if_neg (by simp), if_pos ⟨rfl, hm'⟩])
          obtain rfl := HLq.out.symm.trans HF.out
          clear ht hc hm'
          go_wp2_with (go_at_call 48; refine (HC.out _).mono ?_; rintro e w2 ⟨rfl, hB2⟩; obtain ⟨a0, a1, a2, a3, a4, a5⟩ := box6R (old_later HN1.out hB2))
          go_ret
          exact hears_new (below_next HB2.out hB2) rfl [(8, obj, 0)] 75 1
      · have h26' : (op == 26) = false := by simpa using h26
        have HF := Lib.hid (show hearsL chans k.S k.T ⟨th, pc, op, obj, val, mode⟩ = [] by unfold hearsL; rw [if_neg h13, if_neg h15, if_neg h17, if_neg h19, if_neg (by rw [ht]; decide), if_neg h20, if_neg (by rw [hc]; decide), if_neg h25, if_neg (fun h => h26 h.1)])
        obtain rfl := HLq.out.symm.trans HF.out
        clear ht hc
        go_wp2_with (go_at_call 48; refine (HC.out _).mono ?_; rintro e w2 ⟨rfl, hB2⟩; obtain ⟨a0, a1, a2, a3, a4, a5⟩ := box6R (old_later HN1.out hB2))
        go_ret
        exact hears_nil (below_next HB2.out hB2)
    · simp only [hc] at HC
      have HF := Lib.hid (show hearsL chans k.S k.T ⟨th, pc, op, obj, val, mode⟩ = [(6, obj, 0)] by unfold hearsL; rw [if_neg h13, if_neg h15, if_neg h17, if_neg h19, if_neg (by rw [ht]; decide), if_neg h20, if_pos hc])
      obtain rfl := HLq.out.symm.trans HF.out
      clear ht hc
      go_wp2_with (go_at_call 48; refine (HC.out _).mono ?_; rintro e w2 ⟨rfl, hB2⟩; obtain ⟨a0, a1, a2, a3, a4, a5⟩ := box6R (old_later HN1.out hB2))
      go_ret
      exact hears_new (below_next HB2.out hB2) rfl [(6, obj, 0)] 75 1
  · simp only [ht] at HT
    have HF := Lib.hid (show hearsL chans k.S k.T ⟨th, pc, op, obj, val, mode⟩ = ([(4, obj, ((k.T obj : Nat) : Int))] : List Ky) by unfold hearsL; rw [if_neg h13, if_neg h15, if_neg h17, if_neg h19, if_pos ht])
    obtain rfl := HLq.out.symm.trans HF.out
    clear ht
    go_upto_region 10 with (go_at_call 46; refine (HT.out _).mono ?_; rintro e w1 ⟨rfl, hB1⟩)
    have HB2 := Lib.hid (below_next HB.out hB1)
    have HK1 := Lib.hid (HK.out.later HB2.out)
    obtain ⟨k0, k1, k2, k3⟩ := box4R HK1.out.box
    have hl := HK1.out.ta.look hW
    go_wp2
    go_ret
    exact hears_new HB2.out rfl ([(4, obj, ((k.T obj : Nat) : Int))] : List Ky) 75 1
end Go.Proofs.Ytgikoajclkfoiaa
