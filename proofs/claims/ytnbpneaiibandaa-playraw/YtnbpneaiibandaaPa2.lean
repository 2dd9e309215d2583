/- What the laws of this seat stand on, part 2. -/
import Derived.Test.YtnbpneaiibandaaPa0
import Derived.Test.YtnbpneaiibandaaPa1
set_option linter.unusedVariables false
set_option linter.unusedSimpArgs false
set_option maxRecDepth 100000
set_option maxHeartbeats 40000000
namespace Go.Proofs.Ytnbpneaiibandaa
open Go.RowKit
/-- Two rows of the call's own lie in two blocks. -/
def Apart (v b : Value) : Prop := v.ownBlock = none ∨ v.ownBlock ≠ b.ownBlock
theorem Apart.symm {v b : Value} (h : Apart v b) : Apart b v := by
  rcases h with h | h
  · by_cases e : b.ownBlock = none
    · exact .inl e
    · exact .inr (fun h2 => e (h2.trans h))
  · exact .inr (fun e => h e.symm)
theorem own_lt {w : World} {base : Nat} {e : TypeId} {s : Nat} {v : Value} {n : Nat} {xs : List Value} (h : w.ownsRow base e s v n xs) : ∀ g, v.ownBlock = some g → g < w.heap.size ∧ base ≤ g := by
  intro g hg
  rcases h.2 with ⟨rfl, _⟩ | ⟨g', cap, cur, rfl, hb, hh, _⟩
  · simp [Value.ownBlock] at hg
  · obtain rfl : g' = g := by simpa [Value.ownBlock] using hg
    exact ⟨(Array.getElem?_eq_some_iff.1 hh).1, hb⟩
theorem own_later {w w' : World} {base : Nat} {e : TypeId} {s : Nat} {v : Value} {n : Nat} {xs : List Value} (h : w.ownsRow base e s v n xs) (hB : Below w.heap.size w w') : w'.ownsRow base e s v n xs := by
  refine ⟨h.1, ?_⟩
  rcases h.2 with h2 | ⟨g, cap, cur, rfl, hb, hh, hr⟩
  · exact .inl h2
  · exact .inr ⟨g, cap, cur, rfl, hb, (hB.block g (Array.getElem?_eq_some_iff.1 hh).1).trans hh, hr⟩
/-- A row that another is appended to stays as it is. -/
theorem own_beside {w w' : World} {base : Nat} {e : TypeId} {s : Nat} {v b : Value} {n : Nat} {xs : List Value} (h : w.ownsRow base e s b n xs) (hg : w.grownBy w' v.ownBlock) (ha : Apart b v) : w'.ownsRow base e s b n xs := by
  refine ⟨h.1, ?_⟩
  rcases h.2 with h2 | ⟨g, cap, cur, rfl, hb, hh, hr⟩
  · exact .inl h2
  · have hlt := (Array.getElem?_eq_some_iff.1 hh).1
    refine .inr ⟨g, cap, cur, rfl, hb, (hg.block g hlt ?_).trans hh, hr⟩
    rcases ha with ha | ha
    · simp [Value.ownBlock] at ha
    · exact ha
/-- Where a row lies behind an append. -/
theorem apart_append {w : World} {base : Nat} {e : TypeId} {s : Nat} {v v' b : Value} {n : Nat} {xs : List Value} (hb : w.ownsRow base e s b n xs) (ha : Apart b v) (hat : v'.ownBlock = v.ownBlock ∨ v'.ownBlock = some w.heap.size) : Apart b v' := by
  rcases hat with h | h
  · unfold Apart; rw [h]; exact ha
  · by_cases hn : b.ownBlock = none
    · exact .inl hn
    · refine .inr (fun e => ?_)
      rw [h] at e
      have := (own_lt hb _ e).1
      omega
/-- The cells of instructions. -/
def insCells (x : InsD) : List Value := [.int .u8 x.op, .int .i64 x.a, .int .i64 x.b, .int .i64 x.c]
def codeCells (c : List InsD) : List Value := c.flatMap insCells
theorem codeCells_len (c : List InsD) : (codeCells c).length = c.length * 4 := by
  induction c with
  | nil => rfl
  | cons x r ih => simp only [codeCells, List.flatMap_cons, List.length_append] at ih ⊢; rw [ih]; simp [insCells]; omega
theorem codeCells_snoc (c : List InsD) (x : InsD) : codeCells (c ++ [x]) = codeCells c ++ insCells x := by simp [codeCells]
theorem codeCells_at (c : List InsD) : ∀ (k : Nat) (x : InsD), c[k]? = some x → ∀ j, j < 4 → (codeCells c)[k * 4 + j]? = (insCells x)[j]? := by
  induction c with
  | nil => intro k x h; simp at h
  | cons y r ih =>
    intro k x h j hj
    have e : codeCells (y :: r) = insCells y ++ codeCells r := by simp [codeCells]
    rw [e]
    cases k with
    | zero =>
      simp at h; subst h
      rw [List.getElem?_append_left (by simp [insCells]; omega)]; simp
    | succ k =>
      have h' : r[k]? = some x := by simpa using h
      rw [List.getElem?_append_right (by simp [insCells]; omega)]
      have : (k + 1) * 4 + j - (insCells y).length = k * 4 + j := by simp [insCells]; omega
      rw [this]
      exact ih k x h' j hj
theorem ins_one (x : InsD) : ∀ u ∈ insCells x, u.oneCell' = true := by
  intro u hu
  simp [insCells] at hu
  rcases hu with rfl | rfl | rfl | rfl <;> rfl
/-- The instructions of a row of the call's own lie where it is. -/
theorem code_in {u : World} {base : Nat} {v : Value} {c : List InsD} (h : u.ownsRow base 49 4 v c.length (codeCells c)) : ∃ a cap, v = .slice a c.length cap ∧ CodeIn u u.heap.size a c := by
  rcases h.2 with ⟨rfl, h0⟩ | ⟨g, cap, cur, rfl, _, hh, hle, _, hs, ht⟩
  · refine ⟨none, 0, by rw [h0], fun k x hx => ?_⟩
    have := (List.getElem?_eq_some_iff.1 hx).1; omega
  · refine ⟨some ⟨g, 0, none⟩, cap, rfl, fun k x hx => ⟨g, 0, rfl, (Array.getElem?_eq_some_iff.1 hh).1, ?_⟩⟩
    have hk := (List.getElem?_eq_some_iff.1 hx).1
    have key : ∀ j, j < 4 → u.cell? ⟨g, k * 4 + j, none⟩ = (insCells x)[j]? := fun j hj => by
      rw [cell_of_row _ _ _ _ _ _ hh, ← codeCells_at c k x hx j hj, ← ht, List.getElem?_take_of_lt (by omega)]
      simp
    refine ⟨?_, ?_, ?_, ?_⟩
    · have := key 0 (by omega); simpa [insCells] using this
    · have := key 1 (by omega); simpa [insCells] using this
    · have := key 2 (by omega); simpa [insCells] using this
    · have := key 3 (by omega); simpa [insCells] using this
/-- The threads of a program: a row of the call's own of rows of the call's own, each in a block of its own. -/
structure OwnThreads (u : World) (base : Nat) (tv : Value) (vs : List Value) (cs : List (List InsD)) : Prop where
  len : vs.length = cs.length
  thr : u.ownsRow base 34 1 tv vs.length vs
  code : ∀ (k : Nat) (v : Value) (c : List InsD), vs[k]? = some v → cs[k]? = some c → u.ownsRow base 49 4 v c.length (codeCells c)
  apartT : ∀ (k : Nat) (v : Value), vs[k]? = some v → Apart v tv
  apartV : ∀ (j k : Nat) (v v' : Value), j ≠ k → vs[j]? = some v → vs[k]? = some v' → Apart v v'
theorem OwnThreads.nil (u : World) (base : Nat) : OwnThreads u base (.slice none 0 0) [] [] :=
  ⟨rfl, World.ownsRow_nil _ _ _ _, fun k v c h => by simp at h, fun k v h => by simp at h, fun j k v v' _ h => by simp at h⟩
theorem OwnThreads.codeAt {u : World} {base : Nat} {tv : Value} {vs : List Value} {cs : List (List InsD)} (h : OwnThreads u base tv vs cs) {k : Nat} {c : List InsD} (hc : cs[k]? = some c) : ∃ v, vs[k]? = some v ∧ u.ownsRow base 49 4 v c.length (codeCells c) := by
  obtain ⟨v, hv⟩ := at_lt (l := vs) (k := k) (by rw [h.len]; exact (List.getElem?_eq_some_iff.1 hc).1)
  exact ⟨v, hv, h.code k v c hv hc⟩
theorem OwnThreads.codeOf {u : World} {base : Nat} {tv : Value} {vs : List Value} {cs : List (List InsD)} (h : OwnThreads u base tv vs cs) {k : Nat} {v : Value} (hv : vs[k]? = some v) : ∃ c, cs[k]? = some c ∧ u.ownsRow base 49 4 v c.length (codeCells c) := by
  obtain ⟨c, hc⟩ := at_lt (l := cs) (k := k) (by rw [← h.len]; exact (List.getElem?_eq_some_iff.1 hv).1)
  exact ⟨c, hc, h.code k v c hv hc⟩
theorem OwnThreads.later {u u' : World} {base : Nat} {tv : Value} {vs : List Value} {cs : List (List InsD)} (h : OwnThreads u base tv vs cs) (hB : Below u.heap.size u u') : OwnThreads u' base tv vs cs :=
  ⟨h.len, own_later h.thr hB, fun k v c hv hc => own_later (h.code k v c hv hc) hB, h.apartT, h.apartV⟩
/-- Beside an append to a row that is none of them. -/
theorem OwnThreads.beside {u u' : World} {base : Nat} {tv v : Value} {vs : List Value} {cs : List (List InsD)} (h : OwnThreads u base tv vs cs) (hg : u.grownBy u' v.ownBlock) (hT : Apart tv v) (hV : ∀ (k : Nat) (b : Value), vs[k]? = some b → Apart b v) : OwnThreads u' base tv vs cs :=
  ⟨h.len, own_beside h.thr hg hT, fun k b c hb hc => own_beside (h.code k b c hb hc) hg (hV k b hb), h.apartT, h.apartV⟩
/-- One more thread. -/
theorem OwnThreads.snoc {u u' : World} {base : Nat} {tv tv' v : Value} {vs : List Value} {cs : List (List InsD)} {c : List InsD} (h : OwnThreads u base tv vs cs)
    (hv : u.ownsRow base 49 4 v c.length (codeCells c)) (hT : Apart v tv) (hV : ∀ (k : Nat) (b : Value), vs[k]? = some b → Apart b v)
    (hrow : u'.ownsRow base 34 1 tv' (vs.length + 1) (vs ++ [v])) (hg : u.grownBy u' tv.ownBlock) (hat : tv'.ownBlock = tv.ownBlock ∨ tv'.ownBlock = some u.heap.size) :
    OwnThreads u' base tv' (vs ++ [v]) (cs ++ [c]) := by
  have split : ∀ (k : Nat) (b : Value), (vs ++ [v])[k]? = some b → vs[k]? = some b ∧ k < vs.length ∨ k = vs.length ∧ b = v := fun k b hb => by
    rcases Nat.lt_trichotomy k vs.length with hk | hk | hk
    · left; rw [List.getElem?_append_left hk] at hb; exact ⟨hb, hk⟩
    · right; subst hk; simp at hb; exact ⟨rfl, hb.symm⟩
    · rw [List.getElem?_eq_none (by simp; omega)] at hb; cases hb
  have splitC : ∀ (k : Nat) (d : List InsD), (cs ++ [c])[k]? = some d → cs[k]? = some d ∧ k < vs.length ∨ k = vs.length ∧ d = c := fun k d hd => by
    rcases Nat.lt_trichotomy k cs.length with hk | hk | hk
    · left; rw [List.getElem?_append_left hk] at hd; exact ⟨hd, by rw [h.len]; exact hk⟩
    · right; subst hk; simp at hd; exact ⟨h.len.symm, hd.symm⟩
    · rw [List.getElem?_eq_none (by simp; omega)] at hd; cases hd
  have rowOf : ∀ (k : Nat) (b : Value) (d : List InsD), (vs ++ [v])[k]? = some b → (cs ++ [c])[k]? = some d → u.ownsRow base 49 4 b d.length (codeCells d) ∧ Apart b tv := fun k b d hb hd => by
    rcases split k b hb with ⟨h1, h2⟩ | ⟨rfl, rfl⟩
    · rcases splitC k d hd with ⟨h3, _⟩ | ⟨h3, _⟩
      · exact ⟨h.code k b d h1 h3, h.apartT k b h1⟩
      · omega
    · rcases splitC _ d hd with ⟨_, h3⟩ | ⟨_, rfl⟩
      · omega
      · exact ⟨hv, hT⟩
  refine ⟨by simp [h.len], by simpa using hrow, fun k b d hb hd => own_beside (rowOf k b d hb hd).1 hg (rowOf k b d hb hd).2, fun k b hb => ?_, fun j k b b' hne hb hb' => ?_⟩
  · obtain ⟨d, hd⟩ := at_lt (l := cs ++ [c]) (k := k) (by have := (List.getElem?_eq_some_iff.1 hb).1; simp at this ⊢; rw [← h.len]; exact this)
    obtain ⟨h1, h2⟩ := rowOf k b d hb hd
    exact apart_append h1 h2 hat
  · rcases split j b hb with ⟨h1, h2⟩ | ⟨h1, rfl⟩
    · rcases split k b' hb' with ⟨h3, h4⟩ | ⟨h3, rfl⟩
      · exact h.apartV j k b b' hne h1 h3
      · exact hV j b h1
    · rcases split k b' hb' with ⟨h3, h4⟩ | ⟨h3, rfl⟩
      · exact (hV k b' h3).symm
      · omega
/-- Threads of the call's own lie where they are. -/
theorem OwnThreads.threads_in {u : World} {base : Nat} {tv : Value} {vs : List Value} {cs : List (List InsD)} (h : OwnThreads u base tv vs cs) : ∃ a cap, tv = .slice a cs.length cap ∧ ThreadsIn u u.heap.size a cs := by
  have hl := h.len
  rcases h.thr.2 with ⟨rfl, h0⟩ | ⟨g, cap, cur, rfl, _, hh, hle, _, hs, ht⟩
  · refine ⟨none, 0, by rw [← hl, h0], fun k c hc => ?_⟩
    have := (List.getElem?_eq_some_iff.1 hc).1; omega
  · refine ⟨some ⟨g, 0, none⟩, cap, by rw [hl], fun k c hc => ⟨g, 0, rfl, (Array.getElem?_eq_some_iff.1 hh).1, ?_⟩⟩
    obtain ⟨v, hv, hrow⟩ := h.codeAt hc
    obtain ⟨a', cap', rfl, hin⟩ := code_in hrow
    refine ⟨a', cap', ?_, hin⟩
    have hk := (List.getElem?_eq_some_iff.1 hv).1
    rw [Nat.zero_add, cell_of_row _ _ _ _ _ _ hh, ← hv, ← ht, List.getElem?_take_of_lt (by omega)]
    simp
/-- A program of the laws' making has so many things. -/
structure MadeP (p : ProgD) : Prop where
  vars : p.vars = 2
  atoms : p.atoms = 1
  locks : p.locks = 1
  chans : p.chans.length = 1
  groups : p.groups = 1
  onces : p.onces = 1
/-- An instruction may be in such a program, in a thread of n instructions or more. -/
def InsOK (n : Int) (x : InsD) : Prop := knownB x = true ∧ ∀ (p : ProgD) (m : Nat), MadeP p → n ≤ m → fitsB p m x = true
theorem insOK_of {n : Int} {x : InsD} (h : knownB x = true) (h2 : ∀ (p : ProgD) (m : Nat), p.vars = 2 → p.atoms = 1 → p.locks = 1 → (p.chans.length : Int) = 1 → p.groups = 1 → p.onces = 1 → n ≤ m → fitsB p m x = true) : InsOK n x :=
  ⟨h, fun p m k hn => h2 p m k.vars k.atoms k.locks (by have := k.chans; omega) k.groups k.onces hn⟩
theorem ins_ok_0 (n A B C : Int) (h : A = 0 ∧ A = 0 ∧ B = 0 ∧ C = 0) : InsOK n ⟨0, A, B, C⟩ := by
  refine insOK_of ?_ ?_
  · simp [knownB, wordsB, Row.at, rowAt, tab, InsD.at]; try omega
  · intro p m h1 h2 h3 h4 h5 h6 hn
    simp [fitsB, fitB, Row.at, rowAt, tab, InsD.at, canB, canL, h1, h2, h3, h4, h5, h6, wiB]; try omega
theorem ins_ok_1 (n A B C : Int) (h : 0 ≤ A ∧ A < 4 ∧ C = 0) : InsOK n ⟨1, A, B, C⟩ := by
  refine insOK_of ?_ ?_
  · simp [knownB, wordsB, Row.at, rowAt, tab, InsD.at]; try omega
  · intro p m h1 h2 h3 h4 h5 h6 hn
    simp [fitsB, fitB, Row.at, rowAt, tab, InsD.at, canB, canL, h1, h2, h3, h4, h5, h6, wiB]; try omega
theorem ins_ok_2 (n A B C : Int) (h : 0 ≤ A ∧ A < 4 ∧ 0 ≤ B ∧ B < 4 ∧ C = 0) : InsOK n ⟨2, A, B, C⟩ := by
  refine insOK_of ?_ ?_
  · simp [knownB, wordsB, Row.at, rowAt, tab, InsD.at]; try omega
  · intro p m h1 h2 h3 h4 h5 h6 hn
    simp [fitsB, fitB, Row.at, rowAt, tab, InsD.at, canB, canL, h1, h2, h3, h4, h5, h6, wiB]; try omega
theorem ins_ok_3 (n A B C : Int) (h : 0 ≤ A ∧ A < 4 ∧ 0 ≤ B ∧ B < 4 ∧ 0 ≤ C ∧ C < 4) : InsOK n ⟨3, A, B, C⟩ := by
  refine insOK_of ?_ ?_
  · simp [knownB, wordsB, Row.at, rowAt, tab, InsD.at]; try omega
  · intro p m h1 h2 h3 h4 h5 h6 hn
    simp [fitsB, fitB, Row.at, rowAt, tab, InsD.at, canB, canL, h1, h2, h3, h4, h5, h6, wiB]; try omega
theorem ins_ok_4 (n A B C : Int) (h : 0 ≤ A ∧ A < 4 ∧ 0 ≤ B ∧ B < 4 ∧ 0 ≤ C ∧ C < 4) : InsOK n ⟨4, A, B, C⟩ := by
  refine insOK_of ?_ ?_
  · simp [knownB, wordsB, Row.at, rowAt, tab, InsD.at]; try omega
  · intro p m h1 h2 h3 h4 h5 h6 hn
    simp [fitsB, fitB, Row.at, rowAt, tab, InsD.at, canB, canL, h1, h2, h3, h4, h5, h6, wiB]; try omega
theorem ins_ok_5 (n A B C : Int) (h : 0 ≤ A ∧ A < 4 ∧ 0 ≤ B ∧ B < 4 ∧ 0 ≤ C ∧ C < 4) : InsOK n ⟨5, A, B, C⟩ := by
  refine insOK_of ?_ ?_
  · simp [knownB, wordsB, Row.at, rowAt, tab, InsD.at]; try omega
  · intro p m h1 h2 h3 h4 h5 h6 hn
    simp [fitsB, fitB, Row.at, rowAt, tab, InsD.at, canB, canL, h1, h2, h3, h4, h5, h6, wiB]; try omega
theorem ins_ok_6 (n A B C : Int) (h : 0 ≤ A ∧ A < 4 ∧ 0 ≤ B ∧ B < 4 ∧ 0 ≤ C ∧ C < 4) : InsOK n ⟨6, A, B, C⟩ := by
  refine insOK_of ?_ ?_
  · simp [knownB, wordsB, Row.at, rowAt, tab, InsD.at]; try omega
  · intro p m h1 h2 h3 h4 h5 h6 hn
    simp [fitsB, fitB, Row.at, rowAt, tab, InsD.at, canB, canL, h1, h2, h3, h4, h5, h6, wiB]; try omega
theorem ins_ok_7 (n A B C : Int) (h : 0 ≤ A ∧ A < 4 ∧ 0 ≤ B ∧ B < 2 ∧ C = 0) : InsOK n ⟨7, A, B, C⟩ := by
  refine insOK_of ?_ ?_
  · simp [knownB, wordsB, Row.at, rowAt, tab, InsD.at]; try omega
  · intro p m h1 h2 h3 h4 h5 h6 hn
    simp [fitsB, fitB, Row.at, rowAt, tab, InsD.at, canB, canL, h1, h2, h3, h4, h5, h6, wiB]; try omega
theorem ins_ok_8 (n A B C : Int) (h : 0 ≤ A ∧ A < 2 ∧ 0 ≤ B ∧ B < 4 ∧ C = 0) : InsOK n ⟨8, A, B, C⟩ := by
  refine insOK_of ?_ ?_
  · simp [knownB, wordsB, Row.at, rowAt, tab, InsD.at]; try omega
  · intro p m h1 h2 h3 h4 h5 h6 hn
    simp [fitsB, fitB, Row.at, rowAt, tab, InsD.at, canB, canL, h1, h2, h3, h4, h5, h6, wiB]; try omega
theorem ins_ok_9 (n A B C : Int) (h : 0 ≤ A ∧ A < 4 ∧ B = 0 ∧ C = 0) : InsOK n ⟨9, A, B, C⟩ := by
  refine insOK_of ?_ ?_
  · simp [knownB, wordsB, Row.at, rowAt, tab, InsD.at]; try omega
  · intro p m h1 h2 h3 h4 h5 h6 hn
    simp [fitsB, fitB, Row.at, rowAt, tab, InsD.at, canB, canL, h1, h2, h3, h4, h5, h6, wiB]; try omega
theorem ins_ok_10 (n A B C : Int) (h : 0 ≤ A ∧ A ≤ n ∧ B = 0 ∧ C = 0) : InsOK n ⟨10, A, B, C⟩ := by
  refine insOK_of ?_ ?_
  · simp [knownB, wordsB, Row.at, rowAt, tab, InsD.at]; try omega
  · intro p m h1 h2 h3 h4 h5 h6 hn
    simp [fitsB, fitB, Row.at, rowAt, tab, InsD.at, canB, canL, h1, h2, h3, h4, h5, h6, wiB]; try omega
theorem ins_ok_11 (n A B C : Int) (h : 0 ≤ A ∧ A < 4 ∧ 0 ≤ B ∧ B ≤ n ∧ C = 0) : InsOK n ⟨11, A, B, C⟩ := by
  refine insOK_of ?_ ?_
  · simp [knownB, wordsB, Row.at, rowAt, tab, InsD.at]; try omega
  · intro p m h1 h2 h3 h4 h5 h6 hn
    simp [fitsB, fitB, Row.at, rowAt, tab, InsD.at, canB, canL, h1, h2, h3, h4, h5, h6, wiB]; try omega
theorem ins_ok_13 (n A B C : Int) (h : A = 0 ∧ B = 0 ∧ C = 0) : InsOK n ⟨13, A, B, C⟩ := by
  refine insOK_of ?_ ?_
  · simp [knownB, wordsB, Row.at, rowAt, tab, InsD.at]; try omega
  · intro p m h1 h2 h3 h4 h5 h6 hn
    simp [fitsB, fitB, Row.at, rowAt, tab, InsD.at, canB, canL, h1, h2, h3, h4, h5, h6, wiB]; try omega
theorem ins_ok_14 (n A B C : Int) (h : A = 0 ∧ B = 0 ∧ C = 0) : InsOK n ⟨14, A, B, C⟩ := by
  refine insOK_of ?_ ?_
  · simp [knownB, wordsB, Row.at, rowAt, tab, InsD.at]; try omega
  · intro p m h1 h2 h3 h4 h5 h6 hn
    simp [fitsB, fitB, Row.at, rowAt, tab, InsD.at, canB, canL, h1, h2, h3, h4, h5, h6, wiB]; try omega
theorem ins_ok_15 (n A B C : Int) (h : A = 0 ∧ B = 0 ∧ C = 0) : InsOK n ⟨15, A, B, C⟩ := by
  refine insOK_of ?_ ?_
  · simp [knownB, wordsB, Row.at, rowAt, tab, InsD.at]; try omega
  · intro p m h1 h2 h3 h4 h5 h6 hn
    simp [fitsB, fitB, Row.at, rowAt, tab, InsD.at, canB, canL, h1, h2, h3, h4, h5, h6, wiB]; try omega
theorem ins_ok_16 (n A B C : Int) (h : A = 0 ∧ B = 0 ∧ C = 0) : InsOK n ⟨16, A, B, C⟩ := by
  refine insOK_of ?_ ?_
  · simp [knownB, wordsB, Row.at, rowAt, tab, InsD.at]; try omega
  · intro p m h1 h2 h3 h4 h5 h6 hn
    simp [fitsB, fitB, Row.at, rowAt, tab, InsD.at, canB, canL, h1, h2, h3, h4, h5, h6, wiB]; try omega
theorem ins_ok_17 (n A B C : Int) (h : 0 ≤ A ∧ A < 4 ∧ B = 0 ∧ C = 0) : InsOK n ⟨17, A, B, C⟩ := by
  refine insOK_of ?_ ?_
  · simp [knownB, wordsB, Row.at, rowAt, tab, InsD.at]; try omega
  · intro p m h1 h2 h3 h4 h5 h6 hn
    simp [fitsB, fitB, Row.at, rowAt, tab, InsD.at, canB, canL, h1, h2, h3, h4, h5, h6, wiB]; try omega
theorem ins_ok_18 (n A B C : Int) (h : A = 0 ∧ 0 ≤ B ∧ B < 4 ∧ C = 0) : InsOK n ⟨18, A, B, C⟩ := by
  refine insOK_of ?_ ?_
  · simp [knownB, wordsB, Row.at, rowAt, tab, InsD.at]; try omega
  · intro p m h1 h2 h3 h4 h5 h6 hn
    simp [fitsB, fitB, Row.at, rowAt, tab, InsD.at, canB, canL, h1, h2, h3, h4, h5, h6, wiB]; try omega
theorem ins_ok_19 (n A B C : Int) (h : 0 ≤ A ∧ A < 4 ∧ B = 0 ∧ 0 ≤ C ∧ C < 4) : InsOK n ⟨19, A, B, C⟩ := by
  refine insOK_of ?_ ?_
  · simp [knownB, wordsB, Row.at, rowAt, tab, InsD.at]; try omega
  · intro p m h1 h2 h3 h4 h5 h6 hn
    simp [fitsB, fitB, Row.at, rowAt, tab, InsD.at, canB, canL, h1, h2, h3, h4, h5, h6, wiB]; try omega
theorem ins_ok_20 (n A B C : Int) (h : A = 0 ∧ 0 ≤ B ∧ B < 4 ∧ C = 0) : InsOK n ⟨20, A, B, C⟩ := by
  refine insOK_of ?_ ?_
  · simp [knownB, wordsB, Row.at, rowAt, tab, InsD.at]; try omega
  · intro p m h1 h2 h3 h4 h5 h6 hn
    simp [fitsB, fitB, Row.at, rowAt, tab, InsD.at, canB, canL, h1, h2, h3, h4, h5, h6, wiB]; try omega
theorem ins_ok_21 (n A B C : Int) (h : 0 ≤ A ∧ A < 4 ∧ B = 0 ∧ C = 0) : InsOK n ⟨21, A, B, C⟩ := by
  refine insOK_of ?_ ?_
  · simp [knownB, wordsB, Row.at, rowAt, tab, InsD.at]; try omega
  · intro p m h1 h2 h3 h4 h5 h6 hn
    simp [fitsB, fitB, Row.at, rowAt, tab, InsD.at, canB, canL, h1, h2, h3, h4, h5, h6, wiB]; try omega
theorem ins_ok_22 (n A B C : Int) (h : 0 ≤ A ∧ A < 4 ∧ B = 0 ∧ 0 ≤ C ∧ C < 4) : InsOK n ⟨22, A, B, C⟩ := by
  refine insOK_of ?_ ?_
  · simp [knownB, wordsB, Row.at, rowAt, tab, InsD.at]; try omega
  · intro p m h1 h2 h3 h4 h5 h6 hn
    simp [fitsB, fitB, Row.at, rowAt, tab, InsD.at, canB, canL, h1, h2, h3, h4, h5, h6, wiB]; try omega
theorem ins_ok_23 (n A B C : Int) (h : A = 0 ∧ B = 0 ∧ C = 0) : InsOK n ⟨23, A, B, C⟩ := by
  refine insOK_of ?_ ?_
  · simp [knownB, wordsB, Row.at, rowAt, tab, InsD.at]; try omega
  · intro p m h1 h2 h3 h4 h5 h6 hn
    simp [fitsB, fitB, Row.at, rowAt, tab, InsD.at, canB, canL, h1, h2, h3, h4, h5, h6, wiB]; try omega
theorem ins_ok_24 (n A B C : Int) (h : A = 0 ∧ C = 0) : InsOK n ⟨24, A, B, C⟩ := by
  refine insOK_of ?_ ?_
  · simp [knownB, wordsB, Row.at, rowAt, tab, InsD.at]; try omega
  · intro p m h1 h2 h3 h4 h5 h6 hn
    simp [fitsB, fitB, Row.at, rowAt, tab, InsD.at, canB, canL, h1, h2, h3, h4, h5, h6, wiB]; try omega
theorem ins_ok_25 (n A B C : Int) (h : A = 0 ∧ B = 0 ∧ C = 0) : InsOK n ⟨25, A, B, C⟩ := by
  refine insOK_of ?_ ?_
  · simp [knownB, wordsB, Row.at, rowAt, tab, InsD.at]; try omega
  · intro p m h1 h2 h3 h4 h5 h6 hn
    simp [fitsB, fitB, Row.at, rowAt, tab, InsD.at, canB, canL, h1, h2, h3, h4, h5, h6, wiB]; try omega
theorem ins_ok_26 (n A B C : Int) (h : 0 ≤ A ∧ A < 4 ∧ B = 0 ∧ C = 0) : InsOK n ⟨26, A, B, C⟩ := by
  refine insOK_of ?_ ?_
  · simp [knownB, wordsB, Row.at, rowAt, tab, InsD.at]; try omega
  · intro p m h1 h2 h3 h4 h5 h6 hn
    simp [fitsB, fitB, Row.at, rowAt, tab, InsD.at, canB, canL, h1, h2, h3, h4, h5, h6, wiB]; try omega
theorem ins_ok_27 (n A B C : Int) (h : A = 0 ∧ B = 0 ∧ C = 0) : InsOK n ⟨27, A, B, C⟩ := by
  refine insOK_of ?_ ?_
  · simp [knownB, wordsB, Row.at, rowAt, tab, InsD.at]; try omega
  · intro p m h1 h2 h3 h4 h5 h6 hn
    simp [fitsB, fitB, Row.at, rowAt, tab, InsD.at, canB, canL, h1, h2, h3, h4, h5, h6, wiB]; try omega
theorem ins_below (w : World) (x y : Obj) : Below w.heap.size w ((w.alloc x).alloc y) := ((Below.refl _ _).alloc (Nat.le_refl _) _).alloc (by simp) _
/-- The choices' instructions. -/
def opsL : List Int := [7, 8, 9, 1, 3, 7, 8, 9, 13, 14, 15, 16, 17, 18, 19, 20, 21, 22, 23, 24, 25, 26, 27, 11, 10, 0, 2, 4, 5, 6, 7, 8, 13, 14, 9, 8]
abbrev zeroIns : Obj := .cells #[.int .u8 0, .int .i64 0, .int .i64 0, .int .i64 0] 49
theorem ops_cell (j : Nat) (k : Int) (h : opsL[j]? = some k) (w : World) : ((w.alloc zeroIns).alloc (.cells (opsL.map (Value.int .u8)).toArray 5)).cell? ⟨w.heap.size + 1, j, none⟩ = some (.int .u8 k) := by
  rw [cell_of_row _ _ _ _ _ _ (heap_alloc2_new _ _ _)]
  simp [h]
theorem ins_op_0 (a b : Nat) (at' n : Int) (w : World) (ha : a < 256) (hb : b < 256) (h1 : 0 ≤ at') (h2 : at' < n) (h3 : n ≤ 60) (j : Nat) (hj : (a : Int) % 36 = (j : Int)) (hlt : j < 36) (hop : opsL[j]? = some 0) :
    Calls Try.prog 30 #[.int .u8 a, .int .u8 b, .int .i64 at', .int .i64 n] w fun e w' => ∃ x : InsD, e = .returned (.agg #[.int .u8 x.op, .int .i64 x.a, .int .i64 x.b, .int .i64 x.c]) ∧ InsOK n x ∧ Below w.heap.size w w' := by
  have hcell := ops_cell j _ hop w
  have hlt' : (j : Int) < 36 := by omega
  clear hop
  go_enter Try.func30, Try.ntmps30
  go_wp2_with (refine wpList_buildFlat rfl 23 5 36 _ rfl .u8 opsL Try.underlying23 (by kernel_rfl) (by kernel_rfl) rfl (by decide) (by decide) rfl ?_)
  refine bodyPost_ret (v := .agg #[.int .u8 0, .int .i64 0, .int .i64 0, .int .i64 0]) (by simp [results, Try.results30, go_sem]) rfl ⟨⟨0, 0, 0, 0⟩, rfl, ?_, ?_⟩
  · exact ins_ok_0 _ _ _ _ (by omega)
  · exact ins_below _ _ _
theorem ins_op_1 (a b : Nat) (at' n : Int) (w : World) (ha : a < 256) (hb : b < 256) (h1 : 0 ≤ at') (h2 : at' < n) (h3 : n ≤ 60) (j : Nat) (hj : (a : Int) % 36 = (j : Int)) (hlt : j < 36) (hop : opsL[j]? = some 1) :
    Calls Try.prog 30 #[.int .u8 a, .int .u8 b, .int .i64 at', .int .i64 n] w fun e w' => ∃ x : InsD, e = .returned (.agg #[.int .u8 x.op, .int .i64 x.a, .int .i64 x.b, .int .i64 x.c]) ∧ InsOK n x ∧ Below w.heap.size w w' := by
  have hcell := ops_cell j _ hop w
  have hlt' : (j : Int) < 36 := by omega
  clear hop
  go_enter Try.func30, Try.ntmps30
  go_wp2_with (refine wpList_buildFlat rfl 23 5 36 _ rfl .u8 opsL Try.underlying23 (by kernel_rfl) (by kernel_rfl) rfl (by decide) (by decide) rfl ?_)
  refine bodyPost_ret (v := .agg #[.int .u8 1, .int .i64 ((b : Int) % 4), .int .i64 ((b : Int) / 4 % 8), .int .i64 0]) (by simp [results, Try.results30, go_sem]) rfl ⟨⟨1, ((b : Int) % 4), ((b : Int) / 4 % 8), 0⟩, rfl, ?_, ?_⟩
  · exact ins_ok_1 _ _ _ _ (by omega)
  · exact ins_below _ _ _
theorem ins_op_2 (a b : Nat) (at' n : Int) (w : World) (ha : a < 256) (hb : b < 256) (h1 : 0 ≤ at') (h2 : at' < n) (h3 : n ≤ 60) (j : Nat) (hj : (a : Int) % 36 = (j : Int)) (hlt : j < 36) (hop : opsL[j]? = some 2) :
    Calls Try.prog 30 #[.int .u8 a, .int .u8 b, .int .i64 at', .int .i64 n] w fun e w' => ∃ x : InsD, e = .returned (.agg #[.int .u8 x.op, .int .i64 x.a, .int .i64 x.b, .int .i64 x.c]) ∧ InsOK n x ∧ Below w.heap.size w w' := by
  have hcell := ops_cell j _ hop w
  have hlt' : (j : Int) < 36 := by omega
  clear hop
  go_enter Try.func30, Try.ntmps30
  go_wp2_with (refine wpList_buildFlat rfl 23 5 36 _ rfl .u8 opsL Try.underlying23 (by kernel_rfl) (by kernel_rfl) rfl (by decide) (by decide) rfl ?_)
  refine bodyPost_ret (v := .agg #[.int .u8 2, .int .i64 ((b : Int) % 4), .int .i64 ((b : Int) / 4 % 4), .int .i64 0]) (by simp [results, Try.results30, go_sem]) rfl ⟨⟨2, ((b : Int) % 4), ((b : Int) / 4 % 4), 0⟩, rfl, ?_, ?_⟩
  · exact ins_ok_2 _ _ _ _ (by omega)
  · exact ins_below _ _ _
theorem ins_op_3 (a b : Nat) (at' n : Int) (w : World) (ha : a < 256) (hb : b < 256) (h1 : 0 ≤ at') (h2 : at' < n) (h3 : n ≤ 60) (j : Nat) (hj : (a : Int) % 36 = (j : Int)) (hlt : j < 36) (hop : opsL[j]? = some 3) :
    Calls Try.prog 30 #[.int .u8 a, .int .u8 b, .int .i64 at', .int .i64 n] w fun e w' => ∃ x : InsD, e = .returned (.agg #[.int .u8 x.op, .int .i64 x.a, .int .i64 x.b, .int .i64 x.c]) ∧ InsOK n x ∧ Below w.heap.size w w' := by
  have hcell := ops_cell j _ hop w
  have hlt' : (j : Int) < 36 := by omega
  clear hop
  go_enter Try.func30, Try.ntmps30
  go_wp2_with (refine wpList_buildFlat rfl 23 5 36 _ rfl .u8 opsL Try.underlying23 (by kernel_rfl) (by kernel_rfl) rfl (by decide) (by decide) rfl ?_)
  refine bodyPost_ret (v := .agg #[.int .u8 3, .int .i64 ((b : Int) % 4), .int .i64 ((b : Int) / 4 % 4), .int .i64 ((b : Int) / 16 % 4)]) (by simp [results, Try.results30, go_sem]) rfl ⟨⟨3, ((b : Int) % 4), ((b : Int) / 4 % 4), ((b : Int) / 16 % 4)⟩, rfl, ?_, ?_⟩
  · exact ins_ok_3 _ _ _ _ (by omega)
  · exact ins_below _ _ _
theorem ins_op_4 (a b : Nat) (at' n : Int) (w : World) (ha : a < 256) (hb : b < 256) (h1 : 0 ≤ at') (h2 : at' < n) (h3 : n ≤ 60) (j : Nat) (hj : (a : Int) % 36 = (j : Int)) (hlt : j < 36) (hop : opsL[j]? = some 4) :
    Calls Try.prog 30 #[.int .u8 a, .int .u8 b, .int .i64 at', .int .i64 n] w fun e w' => ∃ x : InsD, e = .returned (.agg #[.int .u8 x.op, .int .i64 x.a, .int .i64 x.b, .int .i64 x.c]) ∧ InsOK n x ∧ Below w.heap.size w w' := by
  have hcell := ops_cell j _ hop w
  have hlt' : (j : Int) < 36 := by omega
  clear hop
  go_enter Try.func30, Try.ntmps30
  go_wp2_with (refine wpList_buildFlat rfl 23 5 36 _ rfl .u8 opsL Try.underlying23 (by kernel_rfl) (by kernel_rfl) rfl (by decide) (by decide) rfl ?_)
  refine bodyPost_ret (v := .agg #[.int .u8 4, .int .i64 ((b : Int) % 4), .int .i64 ((b : Int) / 4 % 4), .int .i64 ((b : Int) / 16 % 4)]) (by simp [results, Try.results30, go_sem]) rfl ⟨⟨4, ((b : Int) % 4), ((b : Int) / 4 % 4), ((b : Int) / 16 % 4)⟩, rfl, ?_, ?_⟩
  · exact ins_ok_4 _ _ _ _ (by omega)
  · exact ins_below _ _ _
theorem ins_op_5 (a b : Nat) (at' n : Int) (w : World) (ha : a < 256) (hb : b < 256) (h1 : 0 ≤ at') (h2 : at' < n) (h3 : n ≤ 60) (j : Nat) (hj : (a : Int) % 36 = (j : Int)) (hlt : j < 36) (hop : opsL[j]? = some 5) :
    Calls Try.prog 30 #[.int .u8 a, .int .u8 b, .int .i64 at', .int .i64 n] w fun e w' => ∃ x : InsD, e = .returned (.agg #[.int .u8 x.op, .int .i64 x.a, .int .i64 x.b, .int .i64 x.c]) ∧ InsOK n x ∧ Below w.heap.size w w' := by
  have hcell := ops_cell j _ hop w
  have hlt' : (j : Int) < 36 := by omega
  clear hop
  go_enter Try.func30, Try.ntmps30
  go_wp2_with (refine wpList_buildFlat rfl 23 5 36 _ rfl .u8 opsL Try.underlying23 (by kernel_rfl) (by kernel_rfl) rfl (by decide) (by decide) rfl ?_)
  refine bodyPost_ret (v := .agg #[.int .u8 5, .int .i64 ((b : Int) % 4), .int .i64 ((b : Int) / 4 % 4), .int .i64 ((b : Int) / 16 % 4)]) (by simp [results, Try.results30, go_sem]) rfl ⟨⟨5, ((b : Int) % 4), ((b : Int) / 4 % 4), ((b : Int) / 16 % 4)⟩, rfl, ?_, ?_⟩
  · exact ins_ok_5 _ _ _ _ (by omega)
  · exact ins_below _ _ _
theorem ins_op_6 (a b : Nat) (at' n : Int) (w : World) (ha : a < 256) (hb : b < 256) (h1 : 0 ≤ at') (h2 : at' < n) (h3 : n ≤ 60) (j : Nat) (hj : (a : Int) % 36 = (j : Int)) (hlt : j < 36) (hop : opsL[j]? = some 6) :
    Calls Try.prog 30 #[.int .u8 a, .int .u8 b, .int .i64 at', .int .i64 n] w fun e w' => ∃ x : InsD, e = .returned (.agg #[.int .u8 x.op, .int .i64 x.a, .int .i64 x.b, .int .i64 x.c]) ∧ InsOK n x ∧ Below w.heap.size w w' := by
  have hcell := ops_cell j _ hop w
  have hlt' : (j : Int) < 36 := by omega
  clear hop
  go_enter Try.func30, Try.ntmps30
  go_wp2_with (refine wpList_buildFlat rfl 23 5 36 _ rfl .u8 opsL Try.underlying23 (by kernel_rfl) (by kernel_rfl) rfl (by decide) (by decide) rfl ?_)
  refine bodyPost_ret (v := .agg #[.int .u8 6, .int .i64 ((b : Int) % 4), .int .i64 ((b : Int) / 4 % 4), .int .i64 ((b : Int) / 16 % 4)]) (by simp [results, Try.results30, go_sem]) rfl ⟨⟨6, ((b : Int) % 4), ((b : Int) / 4 % 4), ((b : Int) / 16 % 4)⟩, rfl, ?_, ?_⟩
  · exact ins_ok_6 _ _ _ _ (by omega)
  · exact ins_below _ _ _
theorem ins_op_7 (a b : Nat) (at' n : Int) (w : World) (ha : a < 256) (hb : b < 256) (h1 : 0 ≤ at') (h2 : at' < n) (h3 : n ≤ 60) (j : Nat) (hj : (a : Int) % 36 = (j : Int)) (hlt : j < 36) (hop : opsL[j]? = some 7) :
    Calls Try.prog 30 #[.int .u8 a, .int .u8 b, .int .i64 at', .int .i64 n] w fun e w' => ∃ x : InsD, e = .returned (.agg #[.int .u8 x.op, .int .i64 x.a, .int .i64 x.b, .int .i64 x.c]) ∧ InsOK n x ∧ Below w.heap.size w w' := by
  have hcell := ops_cell j _ hop w
  have hlt' : (j : Int) < 36 := by omega
  clear hop
  go_enter Try.func30, Try.ntmps30
  go_wp2_with (refine wpList_buildFlat rfl 23 5 36 _ rfl .u8 opsL Try.underlying23 (by kernel_rfl) (by kernel_rfl) rfl (by decide) (by decide) rfl ?_)
  refine bodyPost_ret (v := .agg #[.int .u8 7, .int .i64 ((b : Int) % 4), .int .i64 ((b : Int) / 16 % 2), .int .i64 0]) (by simp [results, Try.results30, go_sem]) rfl ⟨⟨7, ((b : Int) % 4), ((b : Int) / 16 % 2), 0⟩, rfl, ?_, ?_⟩
  · exact ins_ok_7 _ _ _ _ (by omega)
  · exact ins_below _ _ _
theorem ins_op_8 (a b : Nat) (at' n : Int) (w : World) (ha : a < 256) (hb : b < 256) (h1 : 0 ≤ at') (h2 : at' < n) (h3 : n ≤ 60) (j : Nat) (hj : (a : Int) % 36 = (j : Int)) (hlt : j < 36) (hop : opsL[j]? = some 8) :
    Calls Try.prog 30 #[.int .u8 a, .int .u8 b, .int .i64 at', .int .i64 n] w fun e w' => ∃ x : InsD, e = .returned (.agg #[.int .u8 x.op, .int .i64 x.a, .int .i64 x.b, .int .i64 x.c]) ∧ InsOK n x ∧ Below w.heap.size w w' := by
  have hcell := ops_cell j _ hop w
  have hlt' : (j : Int) < 36 := by omega
  clear hop
  go_enter Try.func30, Try.ntmps30
  go_wp2_with (refine wpList_buildFlat rfl 23 5 36 _ rfl .u8 opsL Try.underlying23 (by kernel_rfl) (by kernel_rfl) rfl (by decide) (by decide) rfl ?_)
  refine bodyPost_ret (v := .agg #[.int .u8 8, .int .i64 ((b : Int) / 16 % 2), .int .i64 ((b : Int) % 4), .int .i64 0]) (by simp [results, Try.results30, go_sem]) rfl ⟨⟨8, ((b : Int) / 16 % 2), ((b : Int) % 4), 0⟩, rfl, ?_, ?_⟩
  · exact ins_ok_8 _ _ _ _ (by omega)
  · exact ins_below _ _ _
theorem ins_op_9 (a b : Nat) (at' n : Int) (w : World) (ha : a < 256) (hb : b < 256) (h1 : 0 ≤ at') (h2 : at' < n) (h3 : n ≤ 60) (j : Nat) (hj : (a : Int) % 36 = (j : Int)) (hlt : j < 36) (hop : opsL[j]? = some 9) :
    Calls Try.prog 30 #[.int .u8 a, .int .u8 b, .int .i64 at', .int .i64 n] w fun e w' => ∃ x : InsD, e = .returned (.agg #[.int .u8 x.op, .int .i64 x.a, .int .i64 x.b, .int .i64 x.c]) ∧ InsOK n x ∧ Below w.heap.size w w' := by
  have hcell := ops_cell j _ hop w
  have hlt' : (j : Int) < 36 := by omega
  clear hop
  go_enter Try.func30, Try.ntmps30
  go_wp2_with (refine wpList_buildFlat rfl 23 5 36 _ rfl .u8 opsL Try.underlying23 (by kernel_rfl) (by kernel_rfl) rfl (by decide) (by decide) rfl ?_)
  refine bodyPost_ret (v := .agg #[.int .u8 9, .int .i64 ((b : Int) % 4), .int .i64 0, .int .i64 0]) (by simp [results, Try.results30, go_sem]) rfl ⟨⟨9, ((b : Int) % 4), 0, 0⟩, rfl, ?_, ?_⟩
  · exact ins_ok_9 _ _ _ _ (by omega)
  · exact ins_below _ _ _
theorem ins_op_10 (a b : Nat) (at' n : Int) (w : World) (ha : a < 256) (hb : b < 256) (h1 : 0 ≤ at') (h2 : at' < n) (h3 : n ≤ 60) (j : Nat) (hj : (a : Int) % 36 = (j : Int)) (hlt : j < 36) (hop : opsL[j]? = some 10) :
    Calls Try.prog 30 #[.int .u8 a, .int .u8 b, .int .i64 at', .int .i64 n] w fun e w' => ∃ x : InsD, e = .returned (.agg #[.int .u8 x.op, .int .i64 x.a, .int .i64 x.b, .int .i64 x.c]) ∧ InsOK n x ∧ Below w.heap.size w w' := by
  have hcell := ops_cell j _ hop w
  have hlt' : (j : Int) < 36 := by omega
  clear hop
  by_cases hm : at' + 1 + (b : Int) / 4 % 4 ≤ n
  · skip
    go_enter Try.func30, Try.ntmps30
    go_wp2_with (refine wpList_buildFlat rfl 23 5 36 _ rfl .u8 opsL Try.underlying23 (by kernel_rfl) (by kernel_rfl) rfl (by decide) (by decide) rfl ?_)
    refine bodyPost_ret (v := .agg #[.int .u8 10, .int .i64 (at' + 1 + (b : Int) / 4 % 4), .int .i64 0, .int .i64 0]) (by simp [results, Try.results30, go_sem]) rfl ⟨⟨10, (at' + 1 + (b : Int) / 4 % 4), 0, 0⟩, rfl, ?_, ?_⟩
    · exact ins_ok_10 _ _ _ _ (by omega)
    · exact ins_below _ _ _
  · have hm' : n < at' + 1 + (b : Int) / 4 % 4 := by omega
    go_enter Try.func30, Try.ntmps30
    go_wp2_with (refine wpList_buildFlat rfl 23 5 36 _ rfl .u8 opsL Try.underlying23 (by kernel_rfl) (by kernel_rfl) rfl (by decide) (by decide) rfl ?_)
    refine bodyPost_ret (v := .agg #[.int .u8 10, .int .i64 n, .int .i64 0, .int .i64 0]) (by simp [results, Try.results30, go_sem]) rfl ⟨⟨10, n, 0, 0⟩, rfl, ?_, ?_⟩
    · exact ins_ok_10 _ _ _ _ (by omega)
    · exact ins_below _ _ _
theorem ins_op_11 (a b : Nat) (at' n : Int) (w : World) (ha : a < 256) (hb : b < 256) (h1 : 0 ≤ at') (h2 : at' < n) (h3 : n ≤ 60) (j : Nat) (hj : (a : Int) % 36 = (j : Int)) (hlt : j < 36) (hop : opsL[j]? = some 11) :
    Calls Try.prog 30 #[.int .u8 a, .int .u8 b, .int .i64 at', .int .i64 n] w fun e w' => ∃ x : InsD, e = .returned (.agg #[.int .u8 x.op, .int .i64 x.a, .int .i64 x.b, .int .i64 x.c]) ∧ InsOK n x ∧ Below w.heap.size w w' := by
  have hcell := ops_cell j _ hop w
  have hlt' : (j : Int) < 36 := by omega
  clear hop
  by_cases hq : 200 ≤ (b : Int)
  · have hd : decide (200 ≤ (b : Int)) = true := by simp; omega
    by_cases hm : 0 ≤ at' - (b : Int) / 4 % 4
    · skip
      go_enter Try.func30, Try.ntmps30
      go_wp2_with (refine wpList_buildFlat rfl 23 5 36 _ rfl .u8 opsL Try.underlying23 (by kernel_rfl) (by kernel_rfl) rfl (by decide) (by decide) rfl ?_)
      refine bodyPost_ret (v := .agg #[.int .u8 11, .int .i64 ((b : Int) % 4), .int .i64 (at' - (b : Int) / 4 % 4), .int .i64 0]) (by simp [results, Try.results30, go_sem]) rfl ⟨⟨11, ((b : Int) % 4), (at' - (b : Int) / 4 % 4), 0⟩, rfl, ?_, ?_⟩
      · exact ins_ok_11 _ _ _ _ (by omega)
      · exact ins_below _ _ _
    · have hm' : at' - (b : Int) / 4 % 4 < 0 := by omega
      go_enter Try.func30, Try.ntmps30
      go_wp2_with (refine wpList_buildFlat rfl 23 5 36 _ rfl .u8 opsL Try.underlying23 (by kernel_rfl) (by kernel_rfl) rfl (by decide) (by decide) rfl ?_)
      refine bodyPost_ret (v := .agg #[.int .u8 11, .int .i64 ((b : Int) % 4), .int .i64 0, .int .i64 0]) (by simp [results, Try.results30, go_sem]) rfl ⟨⟨11, ((b : Int) % 4), 0, 0⟩, rfl, ?_, ?_⟩
      · exact ins_ok_11 _ _ _ _ (by omega)
      · exact ins_below _ _ _
  · have hd : decide (200 ≤ (b : Int)) = false := by simp; omega
    by_cases hm : at' + 1 + (b : Int) / 4 % 4 ≤ n
    · skip
      go_enter Try.func30, Try.ntmps30
      go_wp2_with (refine wpList_buildFlat rfl 23 5 36 _ rfl .u8 opsL Try.underlying23 (by kernel_rfl) (by kernel_rfl) rfl (by decide) (by decide) rfl ?_)
      refine bodyPost_ret (v := .agg #[.int .u8 11, .int .i64 ((b : Int) % 4), .int .i64 (at' + 1 + (b : Int) / 4 % 4), .int .i64 0]) (by simp [results, Try.results30, go_sem]) rfl ⟨⟨11, ((b : Int) % 4), (at' + 1 + (b : Int) / 4 % 4), 0⟩, rfl, ?_, ?_⟩
      · exact ins_ok_11 _ _ _ _ (by omega)
      · exact ins_below _ _ _
    · have hm' : n < at' + 1 + (b : Int) / 4 % 4 := by omega
      go_enter Try.func30, Try.ntmps30
      go_wp2_with (refine wpList_buildFlat rfl 23 5 36 _ rfl .u8 opsL Try.underlying23 (by kernel_rfl) (by kernel_rfl) rfl (by decide) (by decide) rfl ?_)
      refine bodyPost_ret (v := .agg #[.int .u8 11, .int .i64 ((b : Int) % 4), .int .i64 n, .int .i64 0]) (by simp [results, Try.results30, go_sem]) rfl ⟨⟨11, ((b : Int) % 4), n, 0⟩, rfl, ?_, ?_⟩
      · exact ins_ok_11 _ _ _ _ (by omega)
      · exact ins_below _ _ _
theorem ins_op_13 (a b : Nat) (at' n : Int) (w : World) (ha : a < 256) (hb : b < 256) (h1 : 0 ≤ at') (h2 : at' < n) (h3 : n ≤ 60) (j : Nat) (hj : (a : Int) % 36 = (j : Int)) (hlt : j < 36) (hop : opsL[j]? = some 13) :
    Calls Try.prog 30 #[.int .u8 a, .int .u8 b, .int .i64 at', .int .i64 n] w fun e w' => ∃ x : InsD, e = .returned (.agg #[.int .u8 x.op, .int .i64 x.a, .int .i64 x.b, .int .i64 x.c]) ∧ InsOK n x ∧ Below w.heap.size w w' := by
  have hcell := ops_cell j _ hop w
  have hlt' : (j : Int) < 36 := by omega
  clear hop
  go_enter Try.func30, Try.ntmps30
  go_wp2_with (refine wpList_buildFlat rfl 23 5 36 _ rfl .u8 opsL Try.underlying23 (by kernel_rfl) (by kernel_rfl) rfl (by decide) (by decide) rfl ?_)
  refine bodyPost_ret (v := .agg #[.int .u8 13, .int .i64 0, .int .i64 0, .int .i64 0]) (by simp [results, Try.results30, go_sem]) rfl ⟨⟨13, 0, 0, 0⟩, rfl, ?_, ?_⟩
  · exact ins_ok_13 _ _ _ _ (by omega)
  · exact ins_below _ _ _
theorem ins_op_14 (a b : Nat) (at' n : Int) (w : World) (ha : a < 256) (hb : b < 256) (h1 : 0 ≤ at') (h2 : at' < n) (h3 : n ≤ 60) (j : Nat) (hj : (a : Int) % 36 = (j : Int)) (hlt : j < 36) (hop : opsL[j]? = some 14) :
    Calls Try.prog 30 #[.int .u8 a, .int .u8 b, .int .i64 at', .int .i64 n] w fun e w' => ∃ x : InsD, e = .returned (.agg #[.int .u8 x.op, .int .i64 x.a, .int .i64 x.b, .int .i64 x.c]) ∧ InsOK n x ∧ Below w.heap.size w w' := by
  have hcell := ops_cell j _ hop w
  have hlt' : (j : Int) < 36 := by omega
  clear hop
  go_enter Try.func30, Try.ntmps30
  go_wp2_with (refine wpList_buildFlat rfl 23 5 36 _ rfl .u8 opsL Try.underlying23 (by kernel_rfl) (by kernel_rfl) rfl (by decide) (by decide) rfl ?_)
  refine bodyPost_ret (v := .agg #[.int .u8 14, .int .i64 0, .int .i64 0, .int .i64 0]) (by simp [results, Try.results30, go_sem]) rfl ⟨⟨14, 0, 0, 0⟩, rfl, ?_, ?_⟩
  · exact ins_ok_14 _ _ _ _ (by omega)
  · exact ins_below _ _ _
theorem ins_op_15 (a b : Nat) (at' n : Int) (w : World) (ha : a < 256) (hb : b < 256) (h1 : 0 ≤ at') (h2 : at' < n) (h3 : n ≤ 60) (j : Nat) (hj : (a : Int) % 36 = (j : Int)) (hlt : j < 36) (hop : opsL[j]? = some 15) :
    Calls Try.prog 30 #[.int .u8 a, .int .u8 b, .int .i64 at', .int .i64 n] w fun e w' => ∃ x : InsD, e = .returned (.agg #[.int .u8 x.op, .int .i64 x.a, .int .i64 x.b, .int .i64 x.c]) ∧ InsOK n x ∧ Below w.heap.size w w' := by
  have hcell := ops_cell j _ hop w
  have hlt' : (j : Int) < 36 := by omega
  clear hop
  go_enter Try.func30, Try.ntmps30
  go_wp2_with (refine wpList_buildFlat rfl 23 5 36 _ rfl .u8 opsL Try.underlying23 (by kernel_rfl) (by kernel_rfl) rfl (by decide) (by decide) rfl ?_)
  refine bodyPost_ret (v := .agg #[.int .u8 15, .int .i64 0, .int .i64 0, .int .i64 0]) (by simp [results, Try.results30, go_sem]) rfl ⟨⟨15, 0, 0, 0⟩, rfl, ?_, ?_⟩
  · exact ins_ok_15 _ _ _ _ (by omega)
  · exact ins_below _ _ _
theorem ins_op_16 (a b : Nat) (at' n : Int) (w : World) (ha : a < 256) (hb : b < 256) (h1 : 0 ≤ at') (h2 : at' < n) (h3 : n ≤ 60) (j : Nat) (hj : (a : Int) % 36 = (j : Int)) (hlt : j < 36) (hop : opsL[j]? = some 16) :
    Calls Try.prog 30 #[.int .u8 a, .int .u8 b, .int .i64 at', .int .i64 n] w fun e w' => ∃ x : InsD, e = .returned (.agg #[.int .u8 x.op, .int .i64 x.a, .int .i64 x.b, .int .i64 x.c]) ∧ InsOK n x ∧ Below w.heap.size w w' := by
  have hcell := ops_cell j _ hop w
  have hlt' : (j : Int) < 36 := by omega
  clear hop
  go_enter Try.func30, Try.ntmps30
  go_wp2_with (refine wpList_buildFlat rfl 23 5 36 _ rfl .u8 opsL Try.underlying23 (by kernel_rfl) (by kernel_rfl) rfl (by decide) (by decide) rfl ?_)
  refine bodyPost_ret (v := .agg #[.int .u8 16, .int .i64 0, .int .i64 0, .int .i64 0]) (by simp [results, Try.results30, go_sem]) rfl ⟨⟨16, 0, 0, 0⟩, rfl, ?_, ?_⟩
  · exact ins_ok_16 _ _ _ _ (by omega)
  · exact ins_below _ _ _
theorem ins_op_17 (a b : Nat) (at' n : Int) (w : World) (ha : a < 256) (hb : b < 256) (h1 : 0 ≤ at') (h2 : at' < n) (h3 : n ≤ 60) (j : Nat) (hj : (a : Int) % 36 = (j : Int)) (hlt : j < 36) (hop : opsL[j]? = some 17) :
    Calls Try.prog 30 #[.int .u8 a, .int .u8 b, .int .i64 at', .int .i64 n] w fun e w' => ∃ x : InsD, e = .returned (.agg #[.int .u8 x.op, .int .i64 x.a, .int .i64 x.b, .int .i64 x.c]) ∧ InsOK n x ∧ Below w.heap.size w w' := by
  have hcell := ops_cell j _ hop w
  have hlt' : (j : Int) < 36 := by omega
  clear hop
  go_enter Try.func30, Try.ntmps30
  go_wp2_with (refine wpList_buildFlat rfl 23 5 36 _ rfl .u8 opsL Try.underlying23 (by kernel_rfl) (by kernel_rfl) rfl (by decide) (by decide) rfl ?_)
  refine bodyPost_ret (v := .agg #[.int .u8 17, .int .i64 ((b : Int) % 4), .int .i64 0, .int .i64 0]) (by simp [results, Try.results30, go_sem]) rfl ⟨⟨17, ((b : Int) % 4), 0, 0⟩, rfl, ?_, ?_⟩
  · exact ins_ok_17 _ _ _ _ (by omega)
  · exact ins_below _ _ _
theorem ins_op_18 (a b : Nat) (at' n : Int) (w : World) (ha : a < 256) (hb : b < 256) (h1 : 0 ≤ at') (h2 : at' < n) (h3 : n ≤ 60) (j : Nat) (hj : (a : Int) % 36 = (j : Int)) (hlt : j < 36) (hop : opsL[j]? = some 18) :
    Calls Try.prog 30 #[.int .u8 a, .int .u8 b, .int .i64 at', .int .i64 n] w fun e w' => ∃ x : InsD, e = .returned (.agg #[.int .u8 x.op, .int .i64 x.a, .int .i64 x.b, .int .i64 x.c]) ∧ InsOK n x ∧ Below w.heap.size w w' := by
  have hcell := ops_cell j _ hop w
  have hlt' : (j : Int) < 36 := by omega
  clear hop
  go_enter Try.func30, Try.ntmps30
  go_wp2_with (refine wpList_buildFlat rfl 23 5 36 _ rfl .u8 opsL Try.underlying23 (by kernel_rfl) (by kernel_rfl) rfl (by decide) (by decide) rfl ?_)
  refine bodyPost_ret (v := .agg #[.int .u8 18, .int .i64 0, .int .i64 ((b : Int) % 4), .int .i64 0]) (by simp [results, Try.results30, go_sem]) rfl ⟨⟨18, 0, ((b : Int) % 4), 0⟩, rfl, ?_, ?_⟩
  · exact ins_ok_18 _ _ _ _ (by omega)
  · exact ins_below _ _ _
theorem ins_op_19 (a b : Nat) (at' n : Int) (w : World) (ha : a < 256) (hb : b < 256) (h1 : 0 ≤ at') (h2 : at' < n) (h3 : n ≤ 60) (j : Nat) (hj : (a : Int) % 36 = (j : Int)) (hlt : j < 36) (hop : opsL[j]? = some 19) :
    Calls Try.prog 30 #[.int .u8 a, .int .u8 b, .int .i64 at', .int .i64 n] w fun e w' => ∃ x : InsD, e = .returned (.agg #[.int .u8 x.op, .int .i64 x.a, .int .i64 x.b, .int .i64 x.c]) ∧ InsOK n x ∧ Below w.heap.size w w' := by
  have hcell := ops_cell j _ hop w
  have hlt' : (j : Int) < 36 := by omega
  clear hop
  go_enter Try.func30, Try.ntmps30
  go_wp2_with (refine wpList_buildFlat rfl 23 5 36 _ rfl .u8 opsL Try.underlying23 (by kernel_rfl) (by kernel_rfl) rfl (by decide) (by decide) rfl ?_)
  refine bodyPost_ret (v := .agg #[.int .u8 19, .int .i64 ((b : Int) % 4), .int .i64 0, .int .i64 ((b : Int) / 4 % 4)]) (by simp [results, Try.results30, go_sem]) rfl ⟨⟨19, ((b : Int) % 4), 0, ((b : Int) / 4 % 4)⟩, rfl, ?_, ?_⟩
  · exact ins_ok_19 _ _ _ _ (by omega)
  · exact ins_below _ _ _
theorem ins_op_20 (a b : Nat) (at' n : Int) (w : World) (ha : a < 256) (hb : b < 256) (h1 : 0 ≤ at') (h2 : at' < n) (h3 : n ≤ 60) (j : Nat) (hj : (a : Int) % 36 = (j : Int)) (hlt : j < 36) (hop : opsL[j]? = some 20) :
    Calls Try.prog 30 #[.int .u8 a, .int .u8 b, .int .i64 at', .int .i64 n] w fun e w' => ∃ x : InsD, e = .returned (.agg #[.int .u8 x.op, .int .i64 x.a, .int .i64 x.b, .int .i64 x.c]) ∧ InsOK n x ∧ Below w.heap.size w w' := by
  have hcell := ops_cell j _ hop w
  have hlt' : (j : Int) < 36 := by omega
  clear hop
  go_enter Try.func30, Try.ntmps30
  go_wp2_with (refine wpList_buildFlat rfl 23 5 36 _ rfl .u8 opsL Try.underlying23 (by kernel_rfl) (by kernel_rfl) rfl (by decide) (by decide) rfl ?_)
  refine bodyPost_ret (v := .agg #[.int .u8 20, .int .i64 0, .int .i64 ((b : Int) % 4), .int .i64 0]) (by simp [results, Try.results30, go_sem]) rfl ⟨⟨20, 0, ((b : Int) % 4), 0⟩, rfl, ?_, ?_⟩
  · exact ins_ok_20 _ _ _ _ (by omega)
  · exact ins_below _ _ _
theorem ins_op_21 (a b : Nat) (at' n : Int) (w : World) (ha : a < 256) (hb : b < 256) (h1 : 0 ≤ at') (h2 : at' < n) (h3 : n ≤ 60) (j : Nat) (hj : (a : Int) % 36 = (j : Int)) (hlt : j < 36) (hop : opsL[j]? = some 21) :
    Calls Try.prog 30 #[.int .u8 a, .int .u8 b, .int .i64 at', .int .i64 n] w fun e w' => ∃ x : InsD, e = .returned (.agg #[.int .u8 x.op, .int .i64 x.a, .int .i64 x.b, .int .i64 x.c]) ∧ InsOK n x ∧ Below w.heap.size w w' := by
  have hcell := ops_cell j _ hop w
  have hlt' : (j : Int) < 36 := by omega
  clear hop
  go_enter Try.func30, Try.ntmps30
  go_wp2_with (refine wpList_buildFlat rfl 23 5 36 _ rfl .u8 opsL Try.underlying23 (by kernel_rfl) (by kernel_rfl) rfl (by decide) (by decide) rfl ?_)
  refine bodyPost_ret (v := .agg #[.int .u8 21, .int .i64 ((b : Int) % 4), .int .i64 0, .int .i64 0]) (by simp [results, Try.results30, go_sem]) rfl ⟨⟨21, ((b : Int) % 4), 0, 0⟩, rfl, ?_, ?_⟩
  · exact ins_ok_21 _ _ _ _ (by omega)
  · exact ins_below _ _ _
theorem ins_op_22 (a b : Nat) (at' n : Int) (w : World) (ha : a < 256) (hb : b < 256) (h1 : 0 ≤ at') (h2 : at' < n) (h3 : n ≤ 60) (j : Nat) (hj : (a : Int) % 36 = (j : Int)) (hlt : j < 36) (hop : opsL[j]? = some 22) :
    Calls Try.prog 30 #[.int .u8 a, .int .u8 b, .int .i64 at', .int .i64 n] w fun e w' => ∃ x : InsD, e = .returned (.agg #[.int .u8 x.op, .int .i64 x.a, .int .i64 x.b, .int .i64 x.c]) ∧ InsOK n x ∧ Below w.heap.size w w' := by
  have hcell := ops_cell j _ hop w
  have hlt' : (j : Int) < 36 := by omega
  clear hop
  go_enter Try.func30, Try.ntmps30
  go_wp2_with (refine wpList_buildFlat rfl 23 5 36 _ rfl .u8 opsL Try.underlying23 (by kernel_rfl) (by kernel_rfl) rfl (by decide) (by decide) rfl ?_)
  refine bodyPost_ret (v := .agg #[.int .u8 22, .int .i64 ((b : Int) % 4), .int .i64 0, .int .i64 ((b : Int) / 4 % 4)]) (by simp [results, Try.results30, go_sem]) rfl ⟨⟨22, ((b : Int) % 4), 0, ((b : Int) / 4 % 4)⟩, rfl, ?_, ?_⟩
  · exact ins_ok_22 _ _ _ _ (by omega)
  · exact ins_below _ _ _
theorem ins_op_23 (a b : Nat) (at' n : Int) (w : World) (ha : a < 256) (hb : b < 256) (h1 : 0 ≤ at') (h2 : at' < n) (h3 : n ≤ 60) (j : Nat) (hj : (a : Int) % 36 = (j : Int)) (hlt : j < 36) (hop : opsL[j]? = some 23) :
    Calls Try.prog 30 #[.int .u8 a, .int .u8 b, .int .i64 at', .int .i64 n] w fun e w' => ∃ x : InsD, e = .returned (.agg #[.int .u8 x.op, .int .i64 x.a, .int .i64 x.b, .int .i64 x.c]) ∧ InsOK n x ∧ Below w.heap.size w w' := by
  have hcell := ops_cell j _ hop w
  have hlt' : (j : Int) < 36 := by omega
  clear hop
  go_enter Try.func30, Try.ntmps30
  go_wp2_with (refine wpList_buildFlat rfl 23 5 36 _ rfl .u8 opsL Try.underlying23 (by kernel_rfl) (by kernel_rfl) rfl (by decide) (by decide) rfl ?_)
  refine bodyPost_ret (v := .agg #[.int .u8 23, .int .i64 0, .int .i64 0, .int .i64 0]) (by simp [results, Try.results30, go_sem]) rfl ⟨⟨23, 0, 0, 0⟩, rfl, ?_, ?_⟩
  · exact ins_ok_23 _ _ _ _ (by omega)
  · exact ins_below _ _ _
theorem ins_op_24 (a b : Nat) (at' n : Int) (w : World) (ha : a < 256) (hb : b < 256) (h1 : 0 ≤ at') (h2 : at' < n) (h3 : n ≤ 60) (j : Nat) (hj : (a : Int) % 36 = (j : Int)) (hlt : j < 36) (hop : opsL[j]? = some 24) :
    Calls Try.prog 30 #[.int .u8 a, .int .u8 b, .int .i64 at', .int .i64 n] w fun e w' => ∃ x : InsD, e = .returned (.agg #[.int .u8 x.op, .int .i64 x.a, .int .i64 x.b, .int .i64 x.c]) ∧ InsOK n x ∧ Below w.heap.size w w' := by
  have hcell := ops_cell j _ hop w
  have hlt' : (j : Int) < 36 := by omega
  clear hop
  go_enter Try.func30, Try.ntmps30
  go_wp2_with (refine wpList_buildFlat rfl 23 5 36 _ rfl .u8 opsL Try.underlying23 (by kernel_rfl) (by kernel_rfl) rfl (by decide) (by decide) rfl ?_)
  refine bodyPost_ret (v := .agg #[.int .u8 24, .int .i64 0, .int .i64 ((b : Int) % 3 - 1), .int .i64 0]) (by simp [results, Try.results30, go_sem]) rfl ⟨⟨24, 0, ((b : Int) % 3 - 1), 0⟩, rfl, ?_, ?_⟩
  · exact ins_ok_24 _ _ _ _ (by omega)
  · exact ins_below _ _ _
theorem ins_op_25 (a b : Nat) (at' n : Int) (w : World) (ha : a < 256) (hb : b < 256) (h1 : 0 ≤ at') (h2 : at' < n) (h3 : n ≤ 60) (j : Nat) (hj : (a : Int) % 36 = (j : Int)) (hlt : j < 36) (hop : opsL[j]? = some 25) :
    Calls Try.prog 30 #[.int .u8 a, .int .u8 b, .int .i64 at', .int .i64 n] w fun e w' => ∃ x : InsD, e = .returned (.agg #[.int .u8 x.op, .int .i64 x.a, .int .i64 x.b, .int .i64 x.c]) ∧ InsOK n x ∧ Below w.heap.size w w' := by
  have hcell := ops_cell j _ hop w
  have hlt' : (j : Int) < 36 := by omega
  clear hop
  go_enter Try.func30, Try.ntmps30
  go_wp2_with (refine wpList_buildFlat rfl 23 5 36 _ rfl .u8 opsL Try.underlying23 (by kernel_rfl) (by kernel_rfl) rfl (by decide) (by decide) rfl ?_)
  refine bodyPost_ret (v := .agg #[.int .u8 25, .int .i64 0, .int .i64 0, .int .i64 0]) (by simp [results, Try.results30, go_sem]) rfl ⟨⟨25, 0, 0, 0⟩, rfl, ?_, ?_⟩
  · exact ins_ok_25 _ _ _ _ (by omega)
  · exact ins_below _ _ _
theorem ins_op_26 (a b : Nat) (at' n : Int) (w : World) (ha : a < 256) (hb : b < 256) (h1 : 0 ≤ at') (h2 : at' < n) (h3 : n ≤ 60) (j : Nat) (hj : (a : Int) % 36 = (j : Int)) (hlt : j < 36) (hop : opsL[j]? = some 26) :
    Calls Try.prog 30 #[.int .u8 a, .int .u8 b, .int .i64 at', .int .i64 n] w fun e w' => ∃ x : InsD, e = .returned (.agg #[.int .u8 x.op, .int .i64 x.a, .int .i64 x.b, .int .i64 x.c]) ∧ InsOK n x ∧ Below w.heap.size w w' := by
  have hcell := ops_cell j _ hop w
  have hlt' : (j : Int) < 36 := by omega
  clear hop
  go_enter Try.func30, Try.ntmps30
  go_wp2_with (refine wpList_buildFlat rfl 23 5 36 _ rfl .u8 opsL Try.underlying23 (by kernel_rfl) (by kernel_rfl) rfl (by decide) (by decide) rfl ?_)
  refine bodyPost_ret (v := .agg #[.int .u8 26, .int .i64 ((b : Int) % 4), .int .i64 0, .int .i64 0]) (by simp [results, Try.results30, go_sem]) rfl ⟨⟨26, ((b : Int) % 4), 0, 0⟩, rfl, ?_, ?_⟩
  · exact ins_ok_26 _ _ _ _ (by omega)
  · exact ins_below _ _ _
theorem ins_op_27 (a b : Nat) (at' n : Int) (w : World) (ha : a < 256) (hb : b < 256) (h1 : 0 ≤ at') (h2 : at' < n) (h3 : n ≤ 60) (j : Nat) (hj : (a : Int) % 36 = (j : Int)) (hlt : j < 36) (hop : opsL[j]? = some 27) :
    Calls Try.prog 30 #[.int .u8 a, .int .u8 b, .int .i64 at', .int .i64 n] w fun e w' => ∃ x : InsD, e = .returned (.agg #[.int .u8 x.op, .int .i64 x.a, .int .i64 x.b, .int .i64 x.c]) ∧ InsOK n x ∧ Below w.heap.size w w' := by
  have hcell := ops_cell j _ hop w
  have hlt' : (j : Int) < 36 := by omega
  clear hop
  go_enter Try.func30, Try.ntmps30
  go_wp2_with (refine wpList_buildFlat rfl 23 5 36 _ rfl .u8 opsL Try.underlying23 (by kernel_rfl) (by kernel_rfl) rfl (by decide) (by decide) rfl ?_)
  refine bodyPost_ret (v := .agg #[.int .u8 27, .int .i64 0, .int .i64 0, .int .i64 0]) (by simp [results, Try.results30, go_sem]) rfl ⟨⟨27, 0, 0, 0⟩, rfl, ?_, ?_⟩
  · exact ins_ok_27 _ _ _ _ (by omega)
  · exact ins_below _ _ _
theorem ins_any (a b : Nat) (at' n : Int) (w : World) (ha : a < 256) (hb : b < 256) (h1 : 0 ≤ at') (h2 : at' < n) (h3 : n ≤ 60) :
    Calls Try.prog 30 #[.int .u8 a, .int .u8 b, .int .i64 at', .int .i64 n] w fun e w' => ∃ x : InsD, e = .returned (.agg #[.int .u8 x.op, .int .i64 x.a, .int .i64 x.b, .int .i64 x.c]) ∧ InsOK n x ∧ Below w.heap.size w w' := by
  have hl : a % 36 < 36 := Nat.mod_lt _ (by decide)
  have hc : (a : Int) % 36 = ((a % 36 : Nat) : Int) := by omega
  generalize a % 36 = j at hl hc
  match j, hl, hc with
  | 0, hl, hc => exact ins_op_7 a b at' n w ha hb h1 h2 h3 0 hc hl rfl
  | 1, hl, hc => exact ins_op_8 a b at' n w ha hb h1 h2 h3 1 hc hl rfl
  | 2, hl, hc => exact ins_op_9 a b at' n w ha hb h1 h2 h3 2 hc hl rfl
  | 3, hl, hc => exact ins_op_1 a b at' n w ha hb h1 h2 h3 3 hc hl rfl
  | 4, hl, hc => exact ins_op_3 a b at' n w ha hb h1 h2 h3 4 hc hl rfl
  | 5, hl, hc => exact ins_op_7 a b at' n w ha hb h1 h2 h3 5 hc hl rfl
  | 6, hl, hc => exact ins_op_8 a b at' n w ha hb h1 h2 h3 6 hc hl rfl
  | 7, hl, hc => exact ins_op_9 a b at' n w ha hb h1 h2 h3 7 hc hl rfl
  | 8, hl, hc => exact ins_op_13 a b at' n w ha hb h1 h2 h3 8 hc hl rfl
  | 9, hl, hc => exact ins_op_14 a b at' n w ha hb h1 h2 h3 9 hc hl rfl
  | 10, hl, hc => exact ins_op_15 a b at' n w ha hb h1 h2 h3 10 hc hl rfl
  | 11, hl, hc => exact ins_op_16 a b at' n w ha hb h1 h2 h3 11 hc hl rfl
  | 12, hl, hc => exact ins_op_17 a b at' n w ha hb h1 h2 h3 12 hc hl rfl
  | 13, hl, hc => exact ins_op_18 a b at' n w ha hb h1 h2 h3 13 hc hl rfl
  | 14, hl, hc => exact ins_op_19 a b at' n w ha hb h1 h2 h3 14 hc hl rfl
  | 15, hl, hc => exact ins_op_20 a b at' n w ha hb h1 h2 h3 15 hc hl rfl
  | 16, hl, hc => exact ins_op_21 a b at' n w ha hb h1 h2 h3 16 hc hl rfl
  | 17, hl, hc => exact ins_op_22 a b at' n w ha hb h1 h2 h3 17 hc hl rfl
  | 18, hl, hc => exact ins_op_23 a b at' n w ha hb h1 h2 h3 18 hc hl rfl
  | 19, hl, hc => exact ins_op_24 a b at' n w ha hb h1 h2 h3 19 hc hl rfl
  | 20, hl, hc => exact ins_op_25 a b at' n w ha hb h1 h2 h3 20 hc hl rfl
  | 21, hl, hc => exact ins_op_26 a b at' n w ha hb h1 h2 h3 21 hc hl rfl
  | 22, hl, hc => exact ins_op_27 a b at' n w ha hb h1 h2 h3 22 hc hl rfl
  | 23, hl, hc => exact ins_op_11 a b at' n w ha hb h1 h2 h3 23 hc hl rfl
  | 24, hl, hc => exact ins_op_10 a b at' n w ha hb h1 h2 h3 24 hc hl rfl
  | 25, hl, hc => exact ins_op_0 a b at' n w ha hb h1 h2 h3 25 hc hl rfl
  | 26, hl, hc => exact ins_op_2 a b at' n w ha hb h1 h2 h3 26 hc hl rfl
  | 27, hl, hc => exact ins_op_4 a b at' n w ha hb h1 h2 h3 27 hc hl rfl
  | 28, hl, hc => exact ins_op_5 a b at' n w ha hb h1 h2 h3 28 hc hl rfl
  | 29, hl, hc => exact ins_op_6 a b at' n w ha hb h1 h2 h3 29 hc hl rfl
  | 30, hl, hc => exact ins_op_7 a b at' n w ha hb h1 h2 h3 30 hc hl rfl
  | 31, hl, hc => exact ins_op_8 a b at' n w ha hb h1 h2 h3 31 hc hl rfl
  | 32, hl, hc => exact ins_op_13 a b at' n w ha hb h1 h2 h3 32 hc hl rfl
  | 33, hl, hc => exact ins_op_14 a b at' n w ha hb h1 h2 h3 33 hc hl rfl
  | 34, hl, hc => exact ins_op_9 a b at' n w ha hb h1 h2 h3 34 hc hl rfl
  | 35, hl, hc => exact ins_op_8 a b at' n w ha hb h1 h2 h3 35 hc hl rfl
  | j + 36, hl, _ => omega
end Go.Proofs.Ytnbpneaiibandaa
