/- The rules of order, of lists and numbers alone. -/
import Derived.Test.YtgikoajclkfoiaaOwnBase
import Derived.Deep.LoopGhost
import Derived.WalkMore
import Derived.Deep.RegionHeld3
import Derived.OwnWalk
import Derived.Maps.AppendAt
import Derived.Deep.DeepCutAuto
import Derived.Laws.ResultCell
import Derived.Laws.OwnMore
import Derived.Deep.MidRow
import Derived.Maps.Views
import Derived.Maps.OwnOps
import Derived.Maps.OwnSet
import Derived.Test.YtgikoajclkfoiaaBefMath
namespace Go.Proofs.Ytgikoajclkfoiaa
set_option linter.unusedVariables false
set_option linter.unusedSimpArgs false

/-- A side of a rule: what it is of, and whether it is. -/
abbrev Sd := EvD → Int × Bool
def opsS (l : List Int) : Sd := fun e => (e.obj, l.contains e.op)
def modeS (m : Int) (l : List Int) : Sd := fun e => (e.obj, l.contains e.op && e.mode == m)
def thS : Sd := fun e => (e.th, true)
def fewS : Sd := fun e => (e.obj, e.op == 24 && decide (e.val < 0))
/-- Which of them, by how many are ahead. -/
abbrev Wh := Int → Nat → Nat → Int × Int
def lastW : Wh := fun _ a _ => (max ((a : Int) - 1) 0, a)
def pairW (room : Int → Int) : Wh := fun x a b => if (b : Int) - room x < 0 ∨ (a : Int) ≤ (b : Int) - room x then (0, 0) else ((b : Int) - room x, (b : Int) - room x + 1)
def roomL (chans : List Int) : Int → Int := fun x => if x < 0 ∨ (chans.length : Int) ≤ x then 0 else (chans[x.toNat]?).getD 0
def noRoom : Int → Int := fun _ => 0
structure RuD where
  a : Sd
  b : Sd
  wh : Option Wh
def rulesL (chans : List Int) : List RuD :=
  [⟨thS, thS, none⟩, ⟨opsS [12], thS, none⟩, ⟨opsS [14], opsS [13, 15], none⟩, ⟨opsS [16], opsS [13], none⟩, ⟨opsS [18, 19], opsS [17, 19], some lastW⟩,
   ⟨opsS [20], modeS 1 [21, 22], some (pairW noRoom)⟩, ⟨modeS 1 [21, 22], opsS [20], some (pairW (roomL chans))⟩, ⟨opsS [23], modeS 2 [21, 22], none⟩, ⟨fewS, opsS [25], none⟩, ⟨opsS [27], modeS 0 [26], none⟩]
/-- Is it of the side, and of x? -/
def isS (s : Sd) (x : Int) (e : EvD) : Bool := (s e).2 && (s e).1 == x
def cntS (s : Sd) (x : Int) (t : List EvD) : Nat := t.countP (isS s x)
def whB : Option Wh → Int → Nat → Nat → Nat → Bool
  | none, _, _, _, _ => true
  | some f, x, a, b, n => decide ((f x a b).1 ≤ (n : Int)) && decide ((n : Int) < (f x a b).2)
def holdsB (r : RuD) (t : List EvD) (i j : Nat) : Bool := match t[i]?, t[j]? with
  | some e, some e' => isS r.a (r.b e').1 e && (r.b e').2 && whB r.wh (r.b e').1 (cntS r.a (r.b e').1 (t.take j)) (cntS r.b (r.b e').1 (t.take j)) (cntS r.a (r.b e').1 (t.take i))
  | _, _ => false
def dirB (chans : List Int) (t : List EvD) (i j : Nat) : Bool := decide (i < j) && (rulesL chans).any fun r => holdsB r t i j
theorem dirB_up (chans : List Int) (t : List EvD) : Up (dirB chans t) := fun i j h => by
  simp only [dirB, Bool.and_eq_true, decide_eq_true_eq] at h; exact h.1
theorem dirB_in {chans : List Int} {t : List EvD} {i j : Nat} (h : dirB chans t i j = true) : i < j ∧ j < t.length := by
  refine ⟨dirB_up _ _ _ _ h, ?_⟩
  simp only [dirB, Bool.and_eq_true, List.any_eq_true] at h
  obtain ⟨_, r, _, h⟩ := h
  unfold holdsB at h
  rcases h1 : t[i]? with _ | e
  · rw [h1] at h; cases h
  · rcases h2 : t[j]? with _ | e'
    · rw [h1, h2] at h; cases h
    · exact (List.getElem?_eq_some_iff.1 h2).1
theorem holds_take {r : RuD} {t : List EvD} {i j n : Nat} (hi : i < j) (hj : j < n) : holdsB r (t.take n) i j = holdsB r t i j := by
  unfold holdsB
  rw [List.getElem?_take_of_lt (by omega), List.getElem?_take_of_lt (by omega), List.take_take, List.take_take, Nat.min_eq_left (by omega), Nat.min_eq_left (by omega)]
theorem dir_take {chans : List Int} {t : List EvD} {i j n : Nat} (hj : j < n) : dirB chans (t.take n) i j = dirB chans t i j := by
  unfold dirB
  by_cases h : i < j
  · congr 1
    congr 1
    funext r
    exact holds_take h hj
  · rw [decide_eq_false h]; rfl
/-- What is ahead of the j-th, by a trace that ends there. -/
theorem past_take {chans : List Int} {t : List EvD} {j : Nat} : pastL (dirB chans (t.take (j + 1))) j = pastL (dirB chans t) j :=
  pastL_congr (dirB_up _ _) (dirB_up _ _) fun i k hk => dir_take (by omega)
theorem bef_take {chans : List Int} {t : List EvD} {i j : Nat} : befB (dirB chans (t.take (j + 1))) i j = befB (dirB chans t) i j := by
  unfold befB; rw [past_take]

/-! Where the events of a side stand. -/
def plS (s : Sd) (x : Int) : List EvD → Nat → List Nat
  | [], _ => []
  | e :: t, i => if isS s x e then i :: plS s x t (i + 1) else plS s x t (i + 1)
theorem plS_snoc (s : Sd) (x : Int) : ∀ (t : List EvD) (i : Nat) (e : EvD), plS s x (t ++ [e]) i = plS s x t i ++ (if isS s x e then [i + t.length] else [])
  | [], i, e => by simp [plS]
  | a :: t, i, e => by
    have ih := plS_snoc s x t (i + 1) e
    simp only [List.cons_append, plS, ih, List.length_cons, show i + 1 + t.length = i + (t.length + 1) by omega]
    split <;> simp
theorem plS_len (s : Sd) (x : Int) : ∀ (t : List EvD) (i : Nat), (plS s x t i).length = cntS s x t
  | [], i => by simp [plS, cntS]
  | a :: t, i => by
    have ih := plS_len s x t (i + 1)
    unfold cntS at ih ⊢
    simp only [plS, List.countP_cons]
    rcases isS s x a <;> simp [ih]
theorem plS_mem (s : Sd) (x : Int) : ∀ (t : List EvD) (i k : Nat), k ∈ plS s x t i ↔ i ≤ k ∧ ∃ e, t[k - i]? = some e ∧ isS s x e = true
  | [], i, k => by simp [plS]
  | a :: t, i, k => by
    have ih := plS_mem s x t (i + 1) k
    have hk : ∀ e, i + 1 ≤ k → ((a :: t)[k - i]? = some e ↔ t[k - (i + 1)]? = some e) := fun e h => by
      rw [show k - i = k - (i + 1) + 1 by omega, List.getElem?_cons_succ]
    unfold plS
    split
    · rename_i ha
      rw [List.mem_cons, ih]
      constructor
      · rintro (rfl | ⟨h, e, h1, h2⟩)
        · exact ⟨Nat.le_refl _, a, by simp, ha⟩
        · exact ⟨by omega, e, (hk e h).2 h1, h2⟩
      · rintro ⟨h, e, h1, h2⟩
        by_cases q : k = i
        · exact .inl q
        · exact .inr ⟨by omega, e, (hk e (by omega)).1 h1, h2⟩
    · rename_i ha
      rw [ih]
      constructor
      · rintro ⟨h, e, h1, h2⟩; exact ⟨by omega, e, (hk e h).2 h1, h2⟩
      · rintro ⟨h, e, h1, h2⟩
        by_cases q : k = i
        · subst q; simp at h1; subst h1; exact absurd h2 ha
        · exact ⟨by omega, e, (hk e (by omega)).1 h1, h2⟩
theorem plS_rise (s : Sd) (x : Int) : ∀ (t : List EvD) (i : Nat), (plS s x t i).Pairwise (· < ·)
  | [], i => List.Pairwise.nil
  | a :: t, i => by
    have ih := plS_rise s x t (i + 1)
    unfold plS
    split
    · refine List.pairwise_cons.2 ⟨fun k hk => ?_, ih⟩
      have := ((plS_mem s x t (i + 1) k).1 hk).1
      omega
    · exact ih
/-- The n-th of them has n ahead. -/
theorem plS_at (s : Sd) (x : Int) : ∀ (t : List EvD) (i n k : Nat), (plS s x t i)[n]? = some k → i ≤ k ∧ k < i + t.length ∧ cntS s x (t.take (k - i)) = n ∧ ∃ e, t[k - i]? = some e ∧ isS s x e = true
  | [], i, n, k, h => by simp [plS] at h
  | a :: t, i, n, k, h => by
    unfold plS at h
    have hk : i + 1 ≤ k → ((a :: t)[k - i]? = t[k - (i + 1)]?) ∧ (a :: t).take (k - i) = a :: t.take (k - (i + 1)) := fun h => by
      rw [show k - i = k - (i + 1) + 1 by omega, List.getElem?_cons_succ, List.take_succ_cons]; exact ⟨rfl, rfl⟩
    rcases ha : isS s x a with _ | _
    · rw [ha] at h
      simp only [Bool.false_eq_true, if_false] at h
      obtain ⟨h1, h2, h3, e, h4, h5⟩ := plS_at s x t (i + 1) n k h
      obtain ⟨k1, k2⟩ := hk h1
      refine ⟨by omega, by simp only [List.length_cons]; omega, ?_, e, k1.trans h4, h5⟩
      rw [k2]
      unfold cntS at h3 ⊢
      rw [List.countP_cons, ha, h3]; rfl
    · rw [ha] at h
      simp only [if_true] at h
      cases n with
      | zero =>
        simp at h
        subst h
        exact ⟨Nat.le_refl _, by simp, by simp [cntS], a, by simp, ha⟩
      | succ n =>
        rw [List.getElem?_cons_succ] at h
        obtain ⟨h1, h2, h3, e, h4, h5⟩ := plS_at s x t (i + 1) n k h
        obtain ⟨k1, k2⟩ := hk h1
        refine ⟨by omega, by simp only [List.length_cons]; omega, ?_, e, k1.trans h4, h5⟩
        rw [k2]
        unfold cntS at h3 ⊢
        rw [List.countP_cons, ha, h3]; rfl
theorem plS_take (s : Sd) (x : Int) (t : List EvD) (j : Nat) : plS s x (t.take j) 0 = (plS s x t 0).filter (· < j) := by
  refine rise_eq (plS_rise s x _ 0) ((plS_rise s x t 0).filter _) fun k => ?_
  rw [List.mem_filter, plS_mem, plS_mem, decide_eq_true_eq]
  simp only [Nat.sub_zero]
  constructor
  · rintro ⟨_, e, h1, h2⟩
    have hk := (List.getElem?_eq_some_iff.1 h1).1
    rw [List.length_take] at hk
    rw [List.getElem?_take_of_lt (by omega)] at h1
    exact ⟨⟨Nat.zero_le _, e, h1, h2⟩, by omega⟩
  · rintro ⟨⟨_, e, h1, h2⟩, h3⟩
    exact ⟨Nat.zero_le _, e, by rw [List.getElem?_take_of_lt h3]; exact h1, h2⟩
end Go.Proofs.Ytgikoajclkfoiaa
