/- Loads, stores and prints: in order just if they are of one thread. No statement of its own. -/
import Derived.Test.YtkhhkjinlkpdlaaOrderTrace
import Derived.Test.YtkhhkjinlkpdlaaOrderSame
namespace Go.Proofs.Ytkhhkjinlkpdlaa
set_option linter.unusedVariables false
set_option linter.unusedSimpArgs false
set_option maxRecDepth 100000
open Go.ChangeShapes Go.WideShapes Go.ChangeAt Go.RowKit

def OpW (e : EvD) : Prop := e.op = 7 ∨ e.op = 8 ∨ e.op = 9
theorem dir_own {t : List EvD} (h : ∀ e ∈ t, OpW e) {i j : Nat} {e e' : EvD} (hi : t[i]? = some e) (hj : t[j]? = some e') : dirB [] t i j = (decide (i < j) && (e.th == e'.th)) := by
  unfold dirB
  congr 1
  have hb : ∀ r : RuD, holdsB r t i j = (isS r.a (r.b e').1 e && (r.b e').2 && whB r.wh (r.b e').1 (cntS r.a (r.b e').1 (t.take j)) (cntS r.b (r.b e').1 (t.take j)) (cntS r.a (r.b e').1 (t.take i))) := by
    intro r; unfold holdsB; rw [hi, hj]
  have h7 := h e (List.mem_of_getElem? hi)
  rw [show ((rulesL []).any fun r => holdsB r t i j) = holdsB ⟨thS, thS, none⟩ t i j from ?_]
  · rw [hb]; simp [isS, thS, whB]
  · simp only [rulesL, List.any_cons, List.any_nil, hb]
    rcases h7 with h7 | h7 | h7 <;> simp [isS, opsS, modeS, fewS, h7]
theorem bef_own {t : List EvD} (h : ∀ e ∈ t, OpW e) {i j : Nat} {e e' : EvD} (hi : t[i]? = some e) (hj : t[j]? = some e') (hij : i < j) : befI [] t (i : Int) (j : Int) = (e.th == e'.th) := by
  have hjl := (List.getElem?_eq_some_iff.1 hj).1
  have hr : riseB (i : Int) (j : Int) t.length = true := riseB_iff.2 ⟨by omega, by omega, by omega⟩
  unfold befI
  rw [hr, Bool.true_and]
  simp only [Int.toNat_natCast]
  rw [Bool.eq_iff_iff, befB_iff (dirB_up _ _)]
  refine ⟨fun hB => ?_, fun hq => .one (by rw [dir_own h hi hj, hq, decide_eq_true hij]; rfl)⟩
  clear hr
  induction hB generalizing e with
  | one hd =>
    rw [dir_own h hi hj, Bool.and_eq_true] at hd
    exact hd.2
  | @more a k hd hB ih =>
    have hkj := Bef.lt (dirB_up _ _) hB
    obtain ⟨ek, hk⟩ := at_lt (l := t) (k := k) (by omega)
    have h2 := ih hk hkj
    rw [dir_own h hi hk, Bool.and_eq_true] at hd
    have h3 := hd.2
    rw [beq_iff_eq] at h2 h3 ⊢
    exact h3.trans h2
theorem befI_no {t : List EvD} {i j : Nat} (h : ¬ (i < j ∧ j < t.length)) : befI [] t (i : Int) (j : Int) = false := by
  unfold befI
  rcases hr : riseB (i : Int) (j : Int) t.length with _ | _
  · rfl
  · have := riseB_iff.1 hr; omega
/-- What is neither a load nor a store prints. -/
def ownE (e : EvD) : EvD := if e.op = 7 ∨ e.op = 8 then e else { e with op := 9 }
def ownL (q : Nat) (t : List EvD) : List EvD := (t.take q).map ownE ++ t.drop q
theorem ownL_zero (t : List EvD) : ownL 0 t = t := by simp [ownL]
theorem ownL_len (q : Nat) (t : List EvD) (h : q ≤ t.length) : (ownL q t).length = t.length := by simp [ownL]; omega
theorem ownL_at {q : Nat} {t : List EvD} {e : EvD} (h : t[q]? = some e) : (ownL q t)[q]? = some e := by
  have hq := (List.getElem?_eq_some_iff.1 h).1
  unfold ownL
  rw [List.getElem?_append_right (by simp; omega)]
  simp only [List.length_map, List.length_take, Nat.min_eq_left (Nat.le_of_lt hq), Nat.sub_self]
  rw [List.getElem?_drop]; simpa using h
theorem ownL_succ {q : Nat} {t : List EvD} {e : EvD} (h : t[q]? = some e) : ownL (q + 1) t = (ownL q t).set q (ownE e) := by
  have hq := (List.getElem?_eq_some_iff.1 h).1
  unfold ownL
  rw [List.set_append_right _ _ (by simp; omega)]
  simp only [List.length_map, List.length_take, Nat.min_eq_left (Nat.le_of_lt hq), Nat.sub_self]
  rw [List.take_add_one, h, List.map_append, List.append_assoc]
  congr 1
  rw [show t.drop q = e :: t.drop (q + 1) from by rw [List.drop_eq_getElem_cons hq]; congr 1; exact (List.getElem?_eq_some_iff.1 h).2]
  rfl
theorem ownL_keep {q : Nat} {t : List EvD} {e : EvD} (h : t[q]? = some e) (ho : e.op = 7 ∨ e.op = 8) : ownL (q + 1) t = ownL q t := by
  rw [ownL_succ h, show ownE e = e from if_pos ho]
  refine List.ext_getElem? fun i => ?_
  rw [List.getElem?_set]
  split
  · subst i
    rw [ownL_at h]
    split <;> first | rfl | (rename_i hh; exact absurd (List.getElem?_eq_some_iff.1 (ownL_at h)).1 hh)
  · rfl
theorem evsCells_set : ∀ (t : List EvD) (q : Nat) (e : EvD), t[q]? = some e → (evsCells t).set (q * 6 + 2) (.int .u8 9) = evsCells (t.set q { e with op := 9 })
  | [], q, e, h => by simp at h
  | x :: r, 0, e, h => by
    simp at h; subst h
    simp [evsCells, evCells]
  | x :: r, q + 1, e, h => by
    have ih := evsCells_set r q e (by simpa using h)
    simp only [evsCells, List.flatMap_cons, List.set_cons_succ] at ih ⊢
    rw [← ih, List.set_append_right _ _ (by simp [evCells]; omega)]
    congr 2
    simp [evCells]; omega
theorem ownL_put {q : Nat} {t : List EvD} {e : EvD} (h : t[q]? = some e) (ho : ¬ (e.op = 7 ∨ e.op = 8)) : (evsCells (ownL q t)).set (q * 6 + 2) (.int .u8 9) = evsCells (ownL (q + 1) t) := by
  rw [evsCells_set _ _ _ (ownL_at h), ownL_succ h, show ownE e = { e with op := 9 } from if_neg ho]
theorem ownL_all {t : List EvD} : ∀ e ∈ ownL t.length t, OpW e := by
  intro e he
  unfold ownL at he
  rw [List.take_length, List.drop_length, List.append_nil] at he
  obtain ⟨x, _, rfl⟩ := List.mem_map.1 he
  unfold ownE
  split
  · rename_i h; rcases h with h | h <;> simp [OpW, h]
  · simp [OpW]
theorem ownL_wf {t : List EvD} (h : ∀ e ∈ t, EvW e) : ∀ e ∈ ownL t.length t, EvW e := by
  intro e he
  unfold ownL at he
  rw [List.take_length, List.drop_length, List.append_nil] at he
  obtain ⟨x, hx, rfl⟩ := List.mem_map.1 he
  have := h x hx
  unfold ownE
  split
  · exact this
  · exact this
/-- An event of a row of the call's own: its cells, and that its operation may be written. -/
theorem own_ev {V : World} {base : Nat} {a : Option Addr} {n c : Nat} {t : List EvD} (h : V.ownsRow base 24 6 (.slice a n c) n (evsCells t)) {k : Nat} {e : EvD} (hk : t[k]? = some e) :
    ∃ g, a = some ⟨g, 0, none⟩ ∧ base ≤ g ∧ V.cell? ⟨g, k * 6, none⟩ = some (.int .i64 e.th) ∧ V.cell? ⟨g, k * 6 + 2, none⟩ = some (.int .u8 e.op) ∧ V.frozen? ⟨g, k * 6 + 2, none⟩ = false := by
  have hl := h.1
  rw [evsCells_len] at hl
  obtain ⟨g, o, ea, _, hc⟩ := evsIn_own h k e hk
  have hkl := (List.getElem?_eq_some_iff.1 hk).1
  rcases h.2 with ⟨_, h0⟩ | ⟨g', cap, cur, e', hb, hh, hle, hcap, hsz, ht⟩
  · omega
  · injection e' with e1 e2 e3
    rw [e1] at ea
    injection ea with ea
    injection ea with eg eo
    subst eg eo
    rw [Nat.zero_add] at hc
    exact ⟨g', e1, hb, hc.1, hc.2.2.1, frozen_of_row _ _ _ _ _ hh⟩

end Go.Proofs.Ytkhhkjinlkpdlaa
