/- Of one thread alone, and of loads alone, there are no races. No statement of its own. -/
import Derived.Test.YtkcimeiokgafiaaRaceTrace
namespace Go.Proofs.Ytkcimeiokgafiaa
set_option linter.unusedVariables false
set_option linter.unusedSimpArgs false
set_option maxRecDepth 100000
open Go.ChangeShapes Go.WideShapes Go.ChangeAt Go.RowKit

theorem racesGo_nil {chans : List Int} (P : EvD → Prop) (I : LsS → Prop) (h1 : ∀ ls e c, P e → I ls → racingL ls e c = []) (h2 : ∀ ls i e c, P e → I ls → I (noteL ls i e c)) :
    ∀ (t : List EvD) (i : Nat) (k : KnS) (ls : LsS), (∀ e ∈ t, P e) → I ls → racesGo chans i t k ls = []
  | [], _, _, _, _, _ => rfl
  | e :: r, i, k, ls, hP, hI => by
    have he := hP e List.mem_cons_self
    have hr : ∀ x ∈ r, P x := fun x hx => hP x (List.mem_cons_of_mem _ hx)
    unfold racesGo
    split
    · rw [h1 _ _ _ he hI, racesGo_nil P I h1 h2 r _ _ _ hr (h2 _ _ _ _ he hI)]; rfl
    · exact racesGo_nil P I h1 h2 r _ _ _ hr hI
theorem races_loads {chans : List Int} {t : List EvD} (h : ∀ e ∈ t, e.op ≠ 8) : racesL chans t = [] := by
  unfold racesL
  split
  · refine racesGo_nil (fun e => e.op ≠ 8) (fun ls => ∀ x k, (ls x k).sp = 0 ∧ (ls x k).sn = 0) ?_ ?_ t _ _ _ h (fun x k => ⟨rfl, rfl⟩)
    · intro ls e c he hI
      unfold racingL
      rw [List.flatMap_eq_nil_iff]
      intro k _
      obtain ⟨a, b⟩ := hI e.obj k
      have : agP e (ls e.obj k) = (0, 0) := by unfold agP; rw [if_neg he, a, b]
      unfold racing1
      rw [if_pos (.inr this)]
    · intro ls i e c he hI x k
      by_cases hx : x = e.obj
      · by_cases hk : k = e.th.toNat
        · simp only [noteL, upd, if_pos hx, if_pos hk, if_neg he]; exact hI _ _
        · simp only [noteL, upd, if_pos hx, if_neg hk]; exact hI _ _
      · simp only [noteL, upd, if_neg hx]; exact hI _ _
  · rfl
theorem races_one {chans : List Int} {t : List EvD} (h : ∀ e ∈ t, e.th = 2) : racesL chans t = [] := by
  unfold racesL
  split
  · refine racesGo_nil (fun e => e.th = 2) (fun ls => ∀ x k, k ≠ 2 → ls x k = lt0) ?_ ?_ t _ _ _ h (fun x k _ => rfl)
    · intro ls e c he hI
      unfold racingL
      rw [List.flatMap_eq_nil_iff]
      intro k _
      unfold racing1
      by_cases hk : k = 2
      · rw [if_pos (.inl (by rw [he, hk]; rfl))]
      · have : agP e (ls e.obj k) = (0, 0) := by unfold agP; rw [hI _ _ hk]; split <;> rfl
        rw [if_pos (.inr this)]
    · intro ls i e c he hI x k hk
      have h2 : ¬ k = e.th.toNat := by rw [he]; exact hk
      by_cases hx : x = e.obj
      · simp only [noteL, upd, if_pos hx, if_neg h2]; exact hI _ _ hk
      · simp only [noteL, upd, if_neg hx]; exact hI _ _ hk
  · rfl
/-- What the law makes of an event. -/
def aloneE (b : Bool) (e : EvD) : EvD := if b = true then (if e.op = 8 then { e with op := 7 } else e) else { e with th := 2 }
def aloneL (b : Bool) (q : Nat) (t : List EvD) : List EvD := (t.take q).map (aloneE b) ++ t.drop q
theorem aloneL_zero (b : Bool) (t : List EvD) : aloneL b 0 t = t := by simp [aloneL]
theorem aloneL_len (b : Bool) (q : Nat) (t : List EvD) (h : q ≤ t.length) : (aloneL b q t).length = t.length := by simp [aloneL]; omega
theorem aloneL_at {b : Bool} {q : Nat} {t : List EvD} {e : EvD} (h : t[q]? = some e) : (aloneL b q t)[q]? = some e := by
  have hq := (List.getElem?_eq_some_iff.1 h).1
  unfold aloneL
  rw [List.getElem?_append_right (by simp; omega)]
  simp only [List.length_map, List.length_take, Nat.min_eq_left (Nat.le_of_lt hq), Nat.sub_self]
  rw [List.getElem?_drop]; simpa using h
theorem aloneL_succ {b : Bool} {q : Nat} {t : List EvD} {e : EvD} (h : t[q]? = some e) : aloneL b (q + 1) t = (aloneL b q t).set q (aloneE b e) := by
  have hq := (List.getElem?_eq_some_iff.1 h).1
  unfold aloneL
  rw [List.set_append_right _ _ (by simp; omega)]
  simp only [List.length_map, List.length_take, Nat.min_eq_left (Nat.le_of_lt hq), Nat.sub_self]
  rw [List.take_add_one, h, List.map_append, List.append_assoc]
  congr 1
  rw [show t.drop q = e :: t.drop (q + 1) from by rw [List.drop_eq_getElem_cons hq]; congr 1; exact (List.getElem?_eq_some_iff.1 h).2]
  rfl
theorem aloneL_keep {q : Nat} {t : List EvD} {e : EvD} (h : t[q]? = some e) (ho : e.op ≠ 8) : aloneL true (q + 1) t = aloneL true q t := by
  rw [aloneL_succ h, show aloneE true e = e from by unfold aloneE; rw [if_pos rfl, if_neg ho]]
  refine List.ext_getElem? fun i => ?_
  rw [List.getElem?_set]
  split
  · subst i
    rw [aloneL_at h]
    split <;> first | rfl | (rename_i hh; exact absurd (List.getElem?_eq_some_iff.1 (aloneL_at h)).1 hh)
  · rfl
theorem evsCells_op : ∀ (t : List EvD) (q : Nat) (e : EvD) (y : Int), t[q]? = some e → (evsCells t).set (q * 6 + 2) (.int .u8 y) = evsCells (t.set q { e with op := y })
  | [], q, e, y, h => by simp at h
  | x :: r, 0, e, y, h => by
    simp at h; subst h
    simp [evsCells, evCells]
  | x :: r, q + 1, e, y, h => by
    have ih := evsCells_op r q e y (by simpa using h)
    simp only [evsCells, List.flatMap_cons, List.set_cons_succ] at ih ⊢
    rw [← ih, List.set_append_right _ _ (by simp [evCells]; omega)]
    congr 2
    simp [evCells]; omega
theorem evsCells_th : ∀ (t : List EvD) (q : Nat) (e : EvD) (y : Int), t[q]? = some e → (evsCells t).set (q * 6) (.int .i64 y) = evsCells (t.set q { e with th := y })
  | [], q, e, y, h => by simp at h
  | x :: r, 0, e, y, h => by
    simp at h; subst h
    simp [evsCells, evCells]
  | x :: r, q + 1, e, y, h => by
    have ih := evsCells_th r q e y (by simpa using h)
    simp only [evsCells, List.flatMap_cons, List.set_cons_succ] at ih ⊢
    rw [← ih, List.set_append_right _ _ (by simp [evCells]; omega)]
    congr 2
    simp [evCells]; omega
theorem aloneL_op {q : Nat} {t : List EvD} {e : EvD} (h : t[q]? = some e) (ho : e.op = 8) : (evsCells (aloneL true q t)).set (q * 6 + 2) (.int .u8 7) = evsCells (aloneL true (q + 1) t) := by
  rw [evsCells_op _ _ _ _ (aloneL_at h), aloneL_succ h, show aloneE true e = { e with op := 7 } from by unfold aloneE; rw [if_pos rfl, if_pos ho]]
theorem aloneL_th {q : Nat} {t : List EvD} {e : EvD} (h : t[q]? = some e) : (evsCells (aloneL false q t)).set (q * 6) (.int .i64 2) = evsCells (aloneL false (q + 1) t) := by
  rw [evsCells_th _ _ _ _ (aloneL_at h), aloneL_succ h]; rfl
theorem aloneL_wf {b : Bool} {t : List EvD} (h : ∀ e ∈ t, EvW e) : ∀ e ∈ aloneL b t.length t, EvW e := by
  intro e he
  unfold aloneL at he
  rw [List.take_length, List.drop_length, List.append_nil] at he
  obtain ⟨x, hx, rfl⟩ := List.mem_map.1 he
  have := h x hx
  unfold aloneE
  split
  · split <;> exact this
  · exact ⟨by unfold Wf; kernel_rfl, this.2⟩
theorem aloneL_races {b : Bool} {chans : List Int} {t : List EvD} : racesL chans (aloneL b t.length t) = [] := by
  have key : ∀ e ∈ aloneL b t.length t, ∃ x ∈ t, e = aloneE b x := by
    intro e he
    unfold aloneL at he
    rw [List.take_length, List.drop_length, List.append_nil] at he
    obtain ⟨x, hx, rfl⟩ := List.mem_map.1 he
    exact ⟨x, hx, rfl⟩
  cases b
  · refine races_one fun e he => ?_
    obtain ⟨x, _, rfl⟩ := key e he
    rfl
  · refine races_loads fun e he => ?_
    obtain ⟨x, _, rfl⟩ := key e he
    unfold aloneE
    rw [if_pos rfl]
    split
    · simp
    · assumption
theorem own_put {u : World} {base : Nat} {e : TypeId} {z n : Nat} {v : Value} {xs : List Value} (h : u.ownsRow base e z v n xs) {g cap : Nat} (ev : v = .slice (some ⟨g, 0, none⟩) n cap) {j : Nat} (hj : j < n * z) (y : Value) : (u.setCell ⟨g, j, none⟩ y).ownsRow base e z v n (xs.set j y) := by
  refine ⟨by rw [List.length_set]; exact h.1, ?_⟩
  rcases h.2 with ⟨h0, _⟩ | ⟨g', cap', cur, e', hb, hh, hle, hcap, hsz, ht⟩
  · rw [ev] at h0; cases h0
  · rw [ev] at e'; cases e'
    refine .inr ⟨g, cap, cur.setIfInBounds j y, ev, hb, stSet_block _ _ _ _ hh, hle, hcap, by simpa using hsz, ?_⟩
    rw [Array.toList_setIfInBounds, List.take_set, ht]
/-- An event of a row of the call's own: its cells, and that they may be written. -/
theorem own_ev {V : World} {base : Nat} {a : Option Addr} {n c : Nat} {t : List EvD} (h : V.ownsRow base 26 6 (.slice a n c) n (evsCells t)) {k : Nat} {e : EvD} (hk : t[k]? = some e) :
    ∃ g, a = some ⟨g, 0, none⟩ ∧ base ≤ g ∧ V.cell? ⟨g, k * 6, none⟩ = some (.int .i64 e.th) ∧ V.cell? ⟨g, k * 6 + 2, none⟩ = some (.int .u8 e.op) ∧ V.frozen? ⟨g, k * 6 + 2, none⟩ = false ∧ V.frozen? ⟨g, k * 6, none⟩ = false := by
  have hl := h.1
  rw [evsCells_len] at hl
  obtain ⟨g, o, ea, _, hc⟩ := evsIn_own h k e hk
  have hkl := (List.getElem?_eq_some_iff.1 hk).1
  rcases h.2 with ⟨_, h0⟩ | ⟨g', cap, cur, e', hb, hh, hle, hcap, hsz, ht⟩
  · omega
  · injection e' with e1 e2 e3
    rw [e1] at ea
    injection ea with ea
    injection ea with eg eo
    subst eg eo
    rw [Nat.zero_add] at hc
    exact ⟨g', e1, hb, hc.1, hc.2.2.1, frozen_of_row _ _ _ _ _ hh, frozen_of_row _ _ _ _ _ hh⟩
end Go.Proofs.Ytkcimeiokgafiaa
