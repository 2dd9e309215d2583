/- Race's clocks are the document's order: a clock's number is how many of a thread's events are ahead. No program. -/
import Derived.Test.YtgikoajclkfoiaaRaceClkT
namespace Go.Proofs.Ytgikoajclkfoiaa
set_option linter.unusedVariables false
set_option linter.unusedSimpArgs false
set_option maxRecDepth 100000
open Go.ChangeShapes Go.WideShapes Go.ChangeAt Go.RowKit

def sdC (t : List EvD) (j : Nat) : Int → Nat := fun x => cntS sdS x (t.take j)
def tkC (t : List EvD) (j : Nat) : Int → Nat := fun x => cntS tkS x (t.take j)
def thO (t : List EvD) (i : Nat) : Nat := ((t[i]?).map (fun e => e.th.toNat)).getD 0
def teO (t : List EvD) (i : Nat) : Option Ky := (t[i]?).bind fun e => tellsL (sdC t i) (tkC t i) e
def heO (chans : List Int) (t : List EvD) (i : Nat) : List Ky := ((t[i]?).map fun e => hearsL chans (sdC t i) (tkC t i) e).getD []
theorem thO_at {t : List EvD} {i : Nat} {e : EvD} (h : t[i]? = some e) (h0 : 0 ≤ e.th) : (thO t i : Int) = e.th := by unfold thO; rw [h]; simp; omega
theorem teO_at {t : List EvD} {i : Nat} {e : EvD} (h : t[i]? = some e) : teO t i = tellsL (sdC t i) (tkC t i) e := by unfold teO; rw [h]; rfl
theorem heO_at {chans : List Int} {t : List EvD} {i : Nat} {e : EvD} (h : t[i]? = some e) : heO chans t i = hearsL chans (sdC t i) (tkC t i) e := by unfold heO; rw [h]; rfl
theorem between_iff {s : Sd} {x : Int} {t : List EvD} {a b : Nat} (hab : a ≤ b) (hb : b ≤ t.length) : (¬ cntS s x (t.take a) < cntS s x (t.take b)) ↔ ∀ m, a ≤ m → m < b → ∀ e, t[m]? = some e → isS s x e = false := by
  constructor
  · intro h m h1 h2 e he
    cases hs : isS s x e with
    | false => rfl
    | true =>
      exfalso
      have g1 := cnt_snoc s x he
      rw [if_pos hs] at g1
      have g2 := cnt_mono s x t h1
      have g3 := cnt_mono s x t (show m + 1 ≤ b by omega)
      omega
  · intro h
    have key : ∀ b, a ≤ b → b ≤ t.length → (∀ m, a ≤ m → m < b → ∀ e, t[m]? = some e → isS s x e = false) → cntS s x (t.take b) = cntS s x (t.take a) := by
      intro b
      induction b with
      | zero => intro h1 _ _; obtain rfl : a = 0 := by omega
                rfl
      | succ b ih =>
        intro h1 h2 h3
        rcases Nat.lt_or_ge b a with g | g
        · obtain rfl : a = b + 1 := by omega
          rfl
        · obtain ⟨e, he⟩ := at_lt (l := t) (k := b) (by omega)
          have g1 := cnt_snoc s x he
          rw [h3 b g (by omega) e he] at g1
          have g2 := ih g (by omega) fun m a1 a2 => h3 m a1 (by omega)
          simp at g1
          omega
    have := key b hab hb h
    omega
theorem wr_tells {t : List EvD} {m : Nat} {e : EvD} (he : t[m]? = some e) (h0 : 0 ≤ e.th) (x : Int) : TL (thO t) (teO t) m (3, x, 0) ↔ isS wrS x e = true := by
  unfold TL
  rw [teO_at he, tells_iff]
  have e1 : isS wrS x e = true ↔ (e.op = 18 ∨ e.op = 19) ∧ e.obj = x := by simp [isS, wrS, opsS]
  rw [e1]
  simp
  exact fun _ => eq_comm
theorem tellO {t : List EvD} {m : Nat} {e : EvD} (he : t[m]? = some e) (h0 : 0 ≤ e.th) (y : Ky) : TL (thO t) (teO t) m y ↔ y = (0, e.th, 0) ∨ tellsL (sdC t m) (tkC t m) e = some y := by
  unfold TL; rw [thO_at he h0, teO_at he]
theorem rules_told {chans : List Int} {t : List EvD} (hl : t.length ≤ 1000000) (hc : ∀ c ∈ chans, -9223372036854775808 ≤ c ∧ c ≤ 9223372036854775807) (h0 : ∀ e ∈ t, 0 ≤ e.th) (m j : Nat) (hmj : m < j) (hj : j < t.length) :
    dirB chans t m j = true ↔ ∃ y, (y = (0, (thO t j : Int), 0) ∨ y ∈ heO chans t j) ∧ TJ (thO t) (teO t) j m y := by
  obtain ⟨e, he⟩ := at_lt (l := t) (k := m) (by omega)
  obtain ⟨e', he'⟩ := at_lt hj
  have p0 := h0 e (List.mem_of_getElem? he)
  have p0' := h0 e' (List.mem_of_getElem? he')
  rw [dir_rd he he' hmj hl hc, thO_at he' p0', heO_at he']
  unfold TJ rdB
  have hlast : ∀ x, (¬ cntS wrS x (t.take (m + 1)) < cntS wrS x (t.take j)) ↔ ∀ m', m < m' → m' < j → ¬ TL (thO t) (teO t) m' (3, x, 0) := by
    intro x
    rw [between_iff (by omega) (by omega)]
    constructor
    · intro h m' a b hT
      obtain ⟨e2, he2⟩ := at_lt (l := t) (k := m') (by omega)
      have := h m' (by omega) b e2 he2
      rw [(wr_tells he2 (h0 e2 (List.mem_of_getElem? he2)) x).1 hT] at this
      cases this
    · intro h m' a b e2 he2
      cases hs : isS wrS x e2 with
      | false => rfl
      | true => exact absurd ((wr_tells he2 (h0 e2 (List.mem_of_getElem? he2)) x).2 hs) (h m' (by omega) b)
  have hroom := room_wf hc e.obj
  have b1 := cnt_le tkS e.obj t m
  have b2 := cnt_le sdS e.obj t j
  have hwr : (IntKind.i64.wrap ((cntS tkS e.obj (t.take m) : Int) + roomL chans e.obj) = (cntS sdS e.obj (t.take j) : Int)) ↔ ((cntS tkS e.obj (t.take m) : Nat) : Int) = RowKit.wrap64 (((cntS sdS e.obj (t.take j) : Nat) : Int) - roomL chans e.obj) := by
    rw [IntKind.wrap_i64]; unfold RowKit.wrap64; omega
  rw [Bool.or_eq_true, Bool.or_eq_true, Bool.and_eq_true, Bool.and_eq_true, beq_iff_eq, beq_iff_eq, beq_iff_eq, beq_iff_eq, rdO_iff, hwr]
  constructor
  · rintro ((h | ⟨h, g⟩) | ⟨ho, hr⟩)
    · exact ⟨_, .inl rfl, (tellO he p0 _).2 (.inl (by rw [h])), fun h3 => absurd h3 (by simp)⟩
    · exact ⟨_, .inl rfl, (tellO he p0 _).2 (.inr ((tells_iff _ _ _ _).2 (.inl ⟨h, by rw [g]⟩))), fun h3 => absurd h3 (by simp)⟩
    · have give : ∀ y, y ∈ hearsL chans (sdC t j) (tkC t j) e' → tellsL (sdC t m) (tkC t m) e = some y → (y.1 = 3 → ∀ m', m < m' → m' < j → ¬ TL (thO t) (teO t) m' y) → ∃ y, (y = (0, e'.th, 0) ∨ y ∈ hearsL chans (sdC t j) (tkC t j) e') ∧ TL (thO t) (teO t) m y ∧ (y.1 = 3 → ∀ m', m < m' → m' < j → ¬ TL (thO t) (teO t) m' y) :=
        fun y a b c => ⟨y, .inr a, (tellO he p0 y).2 (.inr b), c⟩
      rcases hr with ⟨h, g⟩ | ⟨h, g⟩ | ⟨h, g, k⟩ | ⟨h, g, k⟩ | ⟨h, g⟩ | ⟨h, g, k⟩ | ⟨h, g, k⟩ | ⟨h, g, k⟩
      · refine give (1, e.obj, 0) ((hears_iff _ _ _ _ _).2 ?_) ((tells_iff _ _ _ _).2 (by simp [h])) (fun h3 => absurd h3 (by simp))
        rcases g with g | g <;> simp [g, ho]
      · exact give (2, e.obj, 0) ((hears_iff _ _ _ _ _).2 (by simp [g, ho])) ((tells_iff _ _ _ _).2 (by simp [h])) (fun h3 => absurd h3 (by simp))
      · exact give (3, e.obj, 0) ((hears_iff _ _ _ _ _).2 (by simp [g, ho])) ((tells_iff _ _ _ _).2 (by simp [h])) (fun _ => (hlast _).1 k)
      · exact give (4, e.obj, (cntS sdS e.obj (t.take m) : Nat)) ((hears_iff _ _ _ _ _).2 (by rw [k]; simp [g, ho, tkC])) ((tells_iff _ _ _ _).2 (by simp [h, sdC])) (fun h3 => absurd h3 (by simp))
      · exact give (6, e.obj, 0) ((hears_iff _ _ _ _ _).2 (by simp [g, ho])) ((tells_iff _ _ _ _).2 (by simp [h])) (fun h3 => absurd h3 (by simp))
      · exact give (7, e.obj, 0) ((hears_iff _ _ _ _ _).2 (by simp [k, ho])) ((tells_iff _ _ _ _).2 (by simp [h, g])) (fun h3 => absurd h3 (by simp))
      · exact give (8, e.obj, 0) ((hears_iff _ _ _ _ _).2 (by simp [g, k, ho])) ((tells_iff _ _ _ _).2 (by simp [h])) (fun h3 => absurd h3 (by simp))
      · exact give (5, e.obj, (cntS tkS e.obj (t.take m) : Nat)) ((hears_iff _ _ _ _ _).2 (by rw [k]; simp [g, ho, sdC])) ((tells_iff _ _ _ _).2 (by simp [h, tkC])) (fun h3 => absurd h3 (by simp))
  · rintro ⟨y, hy, hT, hL⟩
    rw [tellO he p0] at hT
    rcases hy with rfl | hy
    · rcases hT with hT | hT
      · simp at hT; exact .inl (.inl hT.symm)
      · rw [tells_iff] at hT
        simp at hT
        exact .inl (.inr ⟨hT.1, hT.2.symm⟩)
    · rw [hears_iff] at hy
      rcases hT with rfl | hT
      · simp at hy
      · rw [tells_iff] at hT
        right
        rcases hT with ⟨h, rfl⟩ | ⟨h, rfl⟩ | ⟨h, rfl⟩ | ⟨h, rfl⟩ | ⟨h, rfl⟩ | ⟨h, rfl⟩ | ⟨h, rfl⟩ | ⟨h, g, rfl⟩ | ⟨h, rfl⟩
        · simp at hy
        · simp at hy
          have ho : e.obj = e'.obj := by rcases hy with hy | hy <;> exact hy.2
          exact ⟨ho, .inl ⟨h, by rcases hy with hy | hy <;> simp [hy.1]⟩⟩
        · simp at hy
          exact ⟨hy.2, .inr (.inl ⟨h, hy.1⟩)⟩
        · have hk := (hlast e.obj).2 (hL rfl)
          simp at hy
          exact ⟨hy.2, .inr (.inr (.inl ⟨h, hy.1, hk⟩))⟩
        · simp [sdC, tkC] at hy
          obtain ⟨a, b, c⟩ := hy
          exact ⟨b, .inr (.inr (.inr (.inl ⟨h, a, by rw [← b] at c; omega⟩)))⟩
        · simp [sdC, tkC] at hy
          obtain ⟨a, b, c⟩ := hy
          exact ⟨b, .inr (.inr (.inr (.inr (.inr (.inr (.inr ⟨h, a, by rw [← b] at c; exact c⟩))))))⟩
        · simp at hy
          exact ⟨hy.2, .inr (.inr (.inr (.inr (.inl ⟨h, hy.1⟩))))⟩
        · simp at hy
          exact ⟨hy.2, .inr (.inr (.inr (.inr (.inr (.inl ⟨h, g, hy.1⟩)))))⟩
        · simp at hy
          exact ⟨hy.2.2, .inr (.inr (.inr (.inr (.inr (.inr (.inl ⟨h, hy.1, hy.2.1⟩))))))⟩
end Go.Proofs.Ytgikoajclkfoiaa
