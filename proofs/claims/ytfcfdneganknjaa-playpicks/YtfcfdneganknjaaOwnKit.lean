/- Rows of the call's own that lie in blocks of their own; a program whose threads are such rows. No statement of its own. -/
import Derived.Test.YtfcfdneganknjaaIrKnown
import Derived.Maps.AppendAt
namespace Go.Proofs.Ytfcfdneganknjaa
set_option linter.unusedVariables false
set_option linter.unusedSimpArgs false
open Go.RowKit

/-- Two rows of the call's own lie in two blocks. -/
def Apart (v b : Value) : Prop := v.ownBlock = none ∨ v.ownBlock ≠ b.ownBlock
theorem Apart.symm {v b : Value} (h : Apart v b) : Apart b v := by
  rcases h with h | h
  · by_cases e : b.ownBlock = none
    · exact .inl e
    · exact .inr (fun h2 => e (h2.trans h))
  · exact .inr (fun e => h e.symm)
theorem own_lt {w : World} {base : Nat} {e : TypeId} {s : Nat} {v : Value} {n : Nat} {xs : List Value} (h : w.ownsRow base e s v n xs) : ∀ g, v.ownBlock = some g → g < w.heap.size ∧ base ≤ g := by
  intro g hg
  rcases h.2 with ⟨rfl, _⟩ | ⟨g', cap, cur, rfl, hb, hh, _⟩
  · simp [Value.ownBlock] at hg
  · obtain rfl : g' = g := by simpa [Value.ownBlock] using hg
    exact ⟨(Array.getElem?_eq_some_iff.1 hh).1, hb⟩
theorem own_later {w w' : World} {base : Nat} {e : TypeId} {s : Nat} {v : Value} {n : Nat} {xs : List Value} (h : w.ownsRow base e s v n xs) (hB : Below w.heap.size w w') : w'.ownsRow base e s v n xs := by
  refine ⟨h.1, ?_⟩
  rcases h.2 with h2 | ⟨g, cap, cur, rfl, hb, hh, hr⟩
  · exact .inl h2
  · exact .inr ⟨g, cap, cur, rfl, hb, (hB.block g (Array.getElem?_eq_some_iff.1 hh).1).trans hh, hr⟩
/-- A row that another is appended to stays as it is. -/
theorem own_beside {w w' : World} {base : Nat} {e : TypeId} {s : Nat} {v b : Value} {n : Nat} {xs : List Value} (h : w.ownsRow base e s b n xs) (hg : w.grownBy w' v.ownBlock) (ha : Apart b v) : w'.ownsRow base e s b n xs := by
  refine ⟨h.1, ?_⟩
  rcases h.2 with h2 | ⟨g, cap, cur, rfl, hb, hh, hr⟩
  · exact .inl h2
  · have hlt := (Array.getElem?_eq_some_iff.1 hh).1
    refine .inr ⟨g, cap, cur, rfl, hb, (hg.block g hlt ?_).trans hh, hr⟩
    rcases ha with ha | ha
    · simp [Value.ownBlock] at ha
    · exact ha
/-- Where a row lies behind an append. -/
theorem apart_append {w : World} {base : Nat} {e : TypeId} {s : Nat} {v v' b : Value} {n : Nat} {xs : List Value} (hb : w.ownsRow base e s b n xs) (ha : Apart b v) (hat : v'.ownBlock = v.ownBlock ∨ v'.ownBlock = some w.heap.size) : Apart b v' := by
  rcases hat with h | h
  · unfold Apart; rw [h]; exact ha
  · by_cases hn : b.ownBlock = none
    · exact .inl hn
    · refine .inr (fun e => ?_)
      rw [h] at e
      have := (own_lt hb _ e).1
      omega

/-- The cells of instructions. -/
def insCells (x : InsD) : List Value := [.int .u8 x.op, .int .i64 x.a, .int .i64 x.b, .int .i64 x.c]
def codeCells (c : List InsD) : List Value := c.flatMap insCells
theorem codeCells_len (c : List InsD) : (codeCells c).length = c.length * 4 := by
  induction c with
  | nil => rfl
  | cons x r ih => simp only [codeCells, List.flatMap_cons, List.length_append] at ih ⊢; rw [ih]; simp [insCells]; omega
theorem codeCells_snoc (c : List InsD) (x : InsD) : codeCells (c ++ [x]) = codeCells c ++ insCells x := by simp [codeCells]
theorem codeCells_at (c : List InsD) : ∀ (k : Nat) (x : InsD), c[k]? = some x → ∀ j, j < 4 → (codeCells c)[k * 4 + j]? = (insCells x)[j]? := by
  induction c with
  | nil => intro k x h; simp at h
  | cons y r ih =>
    intro k x h j hj
    have e : codeCells (y :: r) = insCells y ++ codeCells r := by simp [codeCells]
    rw [e]
    cases k with
    | zero =>
      simp at h; subst h
      rw [List.getElem?_append_left (by simp [insCells]; omega)]; simp
    | succ k =>
      have h' : r[k]? = some x := by simpa using h
      rw [List.getElem?_append_right (by simp [insCells]; omega)]
      have : (k + 1) * 4 + j - (insCells y).length = k * 4 + j := by simp [insCells]; omega
      rw [this]
      exact ih k x h' j hj
theorem ins_one (x : InsD) : ∀ u ∈ insCells x, u.oneCell' = true := by
  intro u hu
  simp [insCells] at hu
  rcases hu with rfl | rfl | rfl | rfl <;> rfl
/-- The instructions of a row of the call's own lie where it is. -/
theorem code_in {u : World} {base : Nat} {v : Value} {c : List InsD} (h : u.ownsRow base 54 4 v c.length (codeCells c)) : ∃ a cap, v = .slice a c.length cap ∧ CodeIn u u.heap.size a c := by
  rcases h.2 with ⟨rfl, h0⟩ | ⟨g, cap, cur, rfl, _, hh, hle, _, hs, ht⟩
  · refine ⟨none, 0, by rw [h0], fun k x hx => ?_⟩
    have := (List.getElem?_eq_some_iff.1 hx).1; omega
  · refine ⟨some ⟨g, 0, none⟩, cap, rfl, fun k x hx => ⟨g, 0, rfl, (Array.getElem?_eq_some_iff.1 hh).1, ?_⟩⟩
    have hk := (List.getElem?_eq_some_iff.1 hx).1
    have key : ∀ j, j < 4 → u.cell? ⟨g, k * 4 + j, none⟩ = (insCells x)[j]? := fun j hj => by
      rw [cell_of_row _ _ _ _ _ _ hh, ← codeCells_at c k x hx j hj, ← ht, List.getElem?_take_of_lt (by omega)]
      simp
    refine ⟨?_, ?_, ?_, ?_⟩
    · have := key 0 (by omega); simpa [insCells] using this
    · have := key 1 (by omega); simpa [insCells] using this
    · have := key 2 (by omega); simpa [insCells] using this
    · have := key 3 (by omega); simpa [insCells] using this

/-- The threads of a program: a row of the call's own of rows of the call's own, each in a block of its own. -/
structure OwnThreads (u : World) (base : Nat) (tv : Value) (vs : List Value) (cs : List (List InsD)) : Prop where
  len : vs.length = cs.length
  thr : u.ownsRow base 45 1 tv vs.length vs
  code : ∀ (k : Nat) (v : Value) (c : List InsD), vs[k]? = some v → cs[k]? = some c → u.ownsRow base 54 4 v c.length (codeCells c)
  apartT : ∀ (k : Nat) (v : Value), vs[k]? = some v → Apart v tv
  apartV : ∀ (j k : Nat) (v v' : Value), j ≠ k → vs[j]? = some v → vs[k]? = some v' → Apart v v'
theorem OwnThreads.nil (u : World) (base : Nat) : OwnThreads u base (.slice none 0 0) [] [] :=
  ⟨rfl, World.ownsRow_nil _ _ _ _, fun k v c h => by simp at h, fun k v h => by simp at h, fun j k v v' _ h => by simp at h⟩
theorem OwnThreads.codeAt {u : World} {base : Nat} {tv : Value} {vs : List Value} {cs : List (List InsD)} (h : OwnThreads u base tv vs cs) {k : Nat} {c : List InsD} (hc : cs[k]? = some c) : ∃ v, vs[k]? = some v ∧ u.ownsRow base 54 4 v c.length (codeCells c) := by
  obtain ⟨v, hv⟩ := at_lt (l := vs) (k := k) (by rw [h.len]; exact (List.getElem?_eq_some_iff.1 hc).1)
  exact ⟨v, hv, h.code k v c hv hc⟩
theorem OwnThreads.codeOf {u : World} {base : Nat} {tv : Value} {vs : List Value} {cs : List (List InsD)} (h : OwnThreads u base tv vs cs) {k : Nat} {v : Value} (hv : vs[k]? = some v) : ∃ c, cs[k]? = some c ∧ u.ownsRow base 54 4 v c.length (codeCells c) := by
  obtain ⟨c, hc⟩ := at_lt (l := cs) (k := k) (by rw [← h.len]; exact (List.getElem?_eq_some_iff.1 hv).1)
  exact ⟨c, hc, h.code k v c hv hc⟩
theorem OwnThreads.later {u u' : World} {base : Nat} {tv : Value} {vs : List Value} {cs : List (List InsD)} (h : OwnThreads u base tv vs cs) (hB : Below u.heap.size u u') : OwnThreads u' base tv vs cs :=
  ⟨h.len, own_later h.thr hB, fun k v c hv hc => own_later (h.code k v c hv hc) hB, h.apartT, h.apartV⟩
/-- Beside an append to a row that is none of them. -/
theorem OwnThreads.beside {u u' : World} {base : Nat} {tv v : Value} {vs : List Value} {cs : List (List InsD)} (h : OwnThreads u base tv vs cs) (hg : u.grownBy u' v.ownBlock) (hT : Apart tv v) (hV : ∀ (k : Nat) (b : Value), vs[k]? = some b → Apart b v) : OwnThreads u' base tv vs cs :=
  ⟨h.len, own_beside h.thr hg hT, fun k b c hb hc => own_beside (h.code k b c hb hc) hg (hV k b hb), h.apartT, h.apartV⟩
/-- One more thread. -/
theorem OwnThreads.snoc {u u' : World} {base : Nat} {tv tv' v : Value} {vs : List Value} {cs : List (List InsD)} {c : List InsD} (h : OwnThreads u base tv vs cs)
    (hv : u.ownsRow base 54 4 v c.length (codeCells c)) (hT : Apart v tv) (hV : ∀ (k : Nat) (b : Value), vs[k]? = some b → Apart b v)
    (hrow : u'.ownsRow base 45 1 tv' (vs.length + 1) (vs ++ [v])) (hg : u.grownBy u' tv.ownBlock) (hat : tv'.ownBlock = tv.ownBlock ∨ tv'.ownBlock = some u.heap.size) :
    OwnThreads u' base tv' (vs ++ [v]) (cs ++ [c]) := by
  have split : ∀ (k : Nat) (b : Value), (vs ++ [v])[k]? = some b → vs[k]? = some b ∧ k < vs.length ∨ k = vs.length ∧ b = v := fun k b hb => by
    rcases Nat.lt_trichotomy k vs.length with hk | hk | hk
    · left; rw [List.getElem?_append_left hk] at hb; exact ⟨hb, hk⟩
    · right; subst hk; simp at hb; exact ⟨rfl, hb.symm⟩
    · rw [List.getElem?_eq_none (by simp; omega)] at hb; cases hb
  have splitC : ∀ (k : Nat) (d : List InsD), (cs ++ [c])[k]? = some d → cs[k]? = some d ∧ k < vs.length ∨ k = vs.length ∧ d = c := fun k d hd => by
    rcases Nat.lt_trichotomy k cs.length with hk | hk | hk
    · left; rw [List.getElem?_append_left hk] at hd; exact ⟨hd, by rw [h.len]; exact hk⟩
    · right; subst hk; simp at hd; exact ⟨h.len.symm, hd.symm⟩
    · rw [List.getElem?_eq_none (by simp; omega)] at hd; cases hd
  have rowOf : ∀ (k : Nat) (b : Value) (d : List InsD), (vs ++ [v])[k]? = some b → (cs ++ [c])[k]? = some d → u.ownsRow base 54 4 b d.length (codeCells d) ∧ Apart b tv := fun k b d hb hd => by
    rcases split k b hb with ⟨h1, h2⟩ | ⟨rfl, rfl⟩
    · rcases splitC k d hd with ⟨h3, _⟩ | ⟨h3, _⟩
      · exact ⟨h.code k b d h1 h3, h.apartT k b h1⟩
      · omega
    · rcases splitC _ d hd with ⟨_, h3⟩ | ⟨_, rfl⟩
      · omega
      · exact ⟨hv, hT⟩
  refine ⟨by simp [h.len], by simpa using hrow, fun k b d hb hd => own_beside (rowOf k b d hb hd).1 hg (rowOf k b d hb hd).2, fun k b hb => ?_, fun j k b b' hne hb hb' => ?_⟩
  · obtain ⟨d, hd⟩ := at_lt (l := cs ++ [c]) (k := k) (by have := (List.getElem?_eq_some_iff.1 hb).1; simp at this ⊢; rw [← h.len]; exact this)
    obtain ⟨h1, h2⟩ := rowOf k b d hb hd
    exact apart_append h1 h2 hat
  · rcases split j b hb with ⟨h1, h2⟩ | ⟨h1, rfl⟩
    · rcases split k b' hb' with ⟨h3, h4⟩ | ⟨h3, rfl⟩
      · exact h.apartV j k b b' hne h1 h3
      · exact hV j b h1
    · rcases split k b' hb' with ⟨h3, h4⟩ | ⟨h3, rfl⟩
      · exact (hV k b' h3).symm
      · omega
/-- Threads of the call's own lie where they are. -/
theorem OwnThreads.threads_in {u : World} {base : Nat} {tv : Value} {vs : List Value} {cs : List (List InsD)} (h : OwnThreads u base tv vs cs) : ∃ a cap, tv = .slice a cs.length cap ∧ ThreadsIn u u.heap.size a cs := by
  have hl := h.len
  rcases h.thr.2 with ⟨rfl, h0⟩ | ⟨g, cap, cur, rfl, _, hh, hle, _, hs, ht⟩
  · refine ⟨none, 0, by rw [← hl, h0], fun k c hc => ?_⟩
    have := (List.getElem?_eq_some_iff.1 hc).1; omega
  · refine ⟨some ⟨g, 0, none⟩, cap, by rw [hl], fun k c hc => ⟨g, 0, rfl, (Array.getElem?_eq_some_iff.1 hh).1, ?_⟩⟩
    obtain ⟨v, hv, hrow⟩ := h.codeAt hc
    obtain ⟨a', cap', rfl, hin⟩ := code_in hrow
    refine ⟨a', cap', ?_, hin⟩
    have hk := (List.getElem?_eq_some_iff.1 hv).1
    rw [Nat.zero_add, cell_of_row _ _ _ _ _ _ hh, ← hv, ← ht, List.getElem?_take_of_lt (by omega)]
    simp

end Go.Proofs.Ytfcfdneganknjaa
