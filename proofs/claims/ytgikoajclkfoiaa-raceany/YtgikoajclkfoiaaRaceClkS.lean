/- Clocks that are handed on tell what is ahead of what: of sequences alone. No program. -/
import Derived.Test.YtgikoajclkfoiaaRaceClkM
import Derived.Test.YtgikoajclkfoiaaRaceM
namespace Go.Proofs.Ytgikoajclkfoiaa
set_option linter.unusedVariables false
set_option linter.unusedSimpArgs false
set_option maxRecDepth 100000

theorem cnN_bd (N : Nat → Bool) : ∀ k, cnN N k ≤ k
  | 0 => Nat.le_refl _
  | k + 1 => by have := cnN_bd N k; rw [cnN_succ]; split <;> omega
theorem fold_ge (K : Ky → List Int) (n : Nat) : ∀ (hs : List Ky) (c : List Int), atN c n ≤ atN (hs.foldl (fun c x => joinL c (K x)) c) n ∧ ∀ y ∈ hs, atN (K y) n ≤ atN (hs.foldl (fun c x => joinL c (K x)) c) n
  | [], c => ⟨Int.le_refl _, fun y h => by simp at h⟩
  | x :: r, c => by
    obtain ⟨g1, g2⟩ := fold_ge K n r (joinL c (K x))
    rw [join_at] at g1
    rw [List.foldl_cons]
    refine ⟨by omega, fun y hy => ?_⟩
    rcases List.mem_cons.1 hy with rfl | hy
    · omega
    · exact g2 y hy
theorem fold_one (K : Ky → List Int) (n : Nat) : ∀ (hs : List Ky) (c : List Int), atN (hs.foldl (fun c x => joinL c (K x)) c) n = atN c n ∨ ∃ y ∈ hs, atN (hs.foldl (fun c x => joinL c (K x)) c) n = atN (K y) n
  | [], c => .inl rfl
  | x :: r, c => by
    rw [List.foldl_cons]
    rcases fold_one K n r (joinL c (K x)) with h | ⟨y, hy, h⟩
    · rw [join_at] at h
      rcases Int.le_total (atN c n) (atN (K x) n) with g | g
      · exact .inr ⟨x, List.mem_cons_self, by omega⟩
      · exact .inl (by omega)
    · exact .inr ⟨y, List.mem_cons_of_mem _ hy, h⟩
theorem bef_last {D : Nat → Nat → Bool} (hD : Up D) {j i : Nat} (h : Bef D j i) : ∃ m, D m j = true ∧ leB D i m = true := by
  induction h with
  | @one i h => exact ⟨i, h, (leB_iff hD).2 (.inl rfl)⟩
  | @more i k h _ ih =>
    obtain ⟨m, hm, hl⟩ := ih
    refine ⟨m, hm, (leB_iff hD).2 (.inr ?_)⟩
    rcases (leB_iff hD).1 hl with rfl | hB
    · exact .one h
    · exact .more h hB
/-- Who tells a knower. -/
def TL (th : Nat → Nat) (tells : Nat → Option Ky) (m : Nat) (y : Ky) : Prop := y = (0, (th m : Int), 0) ∨ tells m = some y
/-- And is not overwritten before j. -/
def TJ (th : Nat → Nat) (tells : Nat → Option Ky) (j m : Nat) (y : Ky) : Prop := TL th tells m y ∧ (y.1 = 3 → ∀ m', m < m' → m' < j → ¬ TL th tells m' y)
def thN (L : Nat) (th : Nat → Nat) (n : Nat) : Nat → Bool := fun i => decide (i < L) && (th i == n)
structure InvC (D : Nat → Nat → Bool) (L : Nat) (th : Nat → Nat) (tells : Nat → Option Ky) (j : Nat) (K : Ky → List Int) : Prop where
  up : ∀ y n m, m < j → TJ th tells j m y → (cl D (thN L th n) m : Int) ≤ atN (K y) n
  one : ∀ y n, atN (K y) n = 0 ∨ ∃ m, m < j ∧ TJ th tells j m y ∧ atN (K y) n ≤ (cl D (thN L th n) m : Int)
  low : ∀ y n, 0 ≤ atN (K y) n
theorem invC_zero (D : Nat → Nat → Bool) (L : Nat) (th : Nat → Nat) (tells : Nat → Option Ky) : InvC D L th tells 0 (fun _ => []) :=
  ⟨fun y n m h => by omega, fun y n => .inl (by simp [atN]), fun y n => by simp [atN]⟩
theorem clock_one {D : Nat → Nat → Bool} (hD : Up D) {L : Nat} (hL : L ≤ 1000000) {th : Nat → Nat} (hth : ∀ j, j < L → th j < 64) {tells : Nat → Option Ky} {hears : Nat → List Ky} {j : Nat} (hj : j < L) {K : Ky → List Int}
    (hR : ∀ m j, m < j → j < L → (D m j = true ↔ ∃ y, (y = (0, (th j : Int), 0) ∨ y ∈ hears j) ∧ TJ th tells j m y)) (h : InvC D L th tells j K)
    (hp : ∀ n i k, i < k → thN L th n i = true → thN L th n k = true → D i k = true) (n : Nat) :
    atN (tickL ((hears j).foldl (fun c x => joinL c (K x)) (K (0, (th j : Int), 0))) (th j)) n = (cl D (thN L th n) j : Int) := by
  obtain ⟨g0, g1⟩ := fold_ge K n (hears j) (K (0, (th j : Int), 0))
  have g2 := fold_one K n (hears j) (K (0, (th j : Int), 0))
  generalize (hears j).foldl (fun c x => joinL c (K x)) (K (0, (th j : Int), 0)) = F at *
  have hlow : 0 ≤ atN F n := Int.le_trans (h.low _ _) g0
  obtain ⟨M, hM⟩ : ∃ M : Nat, atN F n = M := ⟨(atN F n).toNat, by omega⟩
  have h1 : ∀ m, Bef D j m → cl D (thN L th n) m ≤ M := by
    intro m hB
    obtain ⟨m', hm', hl⟩ := bef_last hD hB
    have a1 := cl_mono hD (N := thN L th n) hl
    have hlt := hD _ _ hm'
    obtain ⟨y, hy, hT⟩ := (hR m' j hlt hj).1 hm'
    have a2 := h.up y n m' hlt hT
    have a3 : atN (K y) n ≤ atN F n := by
      rcases hy with rfl | hy
      · exact g0
      · exact g1 y hy
    omega
  have h2 : M = 0 ∨ ∃ m, Bef D j m ∧ M ≤ cl D (thN L th n) m := by
    have key : ∀ y, (y = (0, (th j : Int), 0) ∨ y ∈ hears j) → atN F n = atN (K y) n → M = 0 ∨ ∃ m, Bef D j m ∧ M ≤ cl D (thN L th n) m := by
      intro y hy he
      rcases h.one y n with h0 | ⟨m, hm, hT, hle⟩
      · exact .inl (by omega)
      · exact .inr ⟨m, .one ((hR m j hm hj).2 ⟨y, hy, hT⟩), by omega⟩
    rcases g2 with e | ⟨y, hy, e⟩
    · exact key _ (.inl rfl) e
    · exact key y (.inr hy) e
  have hMb : M ≤ 1000001 := by
    rcases h2 with h0 | ⟨m, hm, hle⟩
    · omega
    · have := cnN_bd (fun i => thN L th n i && leB D i m) (m + 1)
      have hlt := Bef.lt hD hm
      unfold cl at hle
      omega
  rw [cl_step hD (hp n) h1 h2, tick_nat _ _ (hth j hj), tickN_at, hM]
  by_cases hn : n = th j
  · rw [if_pos hn, if_pos (by unfold thN; rw [hn]; simp [hj]), show RowKit.wrap64 ((M : Int) + 1) = (M : Int) + 1 from by unfold RowKit.wrap64; omega]; omega
  · rw [if_neg hn, if_neg (by unfold thN; simp; intro _; exact fun e => hn e.symm)]; omega
theorem clock_next {D : Nat → Nat → Bool} (hD : Up D) {L : Nat} {th : Nat → Nat} {tells : Nat → Option Ky} {hears : Nat → List Ky} {j : Nat} (hj : j < L) {K : Ky → List Int} {c : List Int}
    (hR : ∀ m j, m < j → j < L → (D m j = true ↔ ∃ y, (y = (0, (th j : Int), 0) ∨ y ∈ hears j) ∧ TJ th tells j m y)) (h : InvC D L th tells j K)
    (hc : ∀ n, atN c n = (cl D (thN L th n) j : Int)) : InvC D L th tells (j + 1) (toldK (upd K (0, (th j : Int), 0) c) (tells j) c) := by
  -- what each knower knows now
  have kk : ∀ y n, (¬ TL th tells j y → atN (toldK (upd K (0, (th j : Int), 0) c) (tells j) c y) n = atN (K y) n) ∧
      (TL th tells j y → atN c n ≤ atN (toldK (upd K (0, (th j : Int), 0) c) (tells j) c y) n ∧ (y.1 ≠ 3 → y ≠ (0, (th j : Int), 0) → atN (K y) n ≤ atN (toldK (upd K (0, (th j : Int), 0) c) (tells j) c y) n) ∧ (atN (toldK (upd K (0, (th j : Int), 0) c) (tells j) c y) n = atN c n ∨ (y.1 ≠ 3 ∧ y ≠ (0, (th j : Int), 0) ∧ atN (toldK (upd K (0, (th j : Int), 0) c) (tells j) c y) n = atN (K y) n))) := by
    intro y n
    unfold TL
    cases ht : tells j with
    | none =>
      simp only [toldK, upd]
      by_cases hy : y = (0, (th j : Int), 0)
      · simp [hy]
      · simp [hy]
    | some z =>
      simp only [toldK, tellK, upd]
      by_cases hz : y = z
      · subst hz
        refine ⟨fun hn => absurd (.inr rfl) hn, fun _ => ?_⟩
        rw [if_pos rfl]
        by_cases h3 : y.1 = 3
        · rw [if_pos h3]; exact ⟨Int.le_refl _, fun g => absurd h3 g, .inl rfl⟩
        · rw [if_neg h3, join_at]
          by_cases hy : y = (0, (th j : Int), 0)
          · rw [if_pos hy]; exact ⟨by omega, fun _ g => absurd hy g, .inl (by omega)⟩
          · rw [if_neg hy]
            refine ⟨by omega, fun _ _ => by omega, ?_⟩
            rcases Int.le_total (atN (K y) n) (atN c n) with g | g
            · exact .inl (by omega)
            · exact .inr ⟨h3, hy, by omega⟩
      · rw [if_neg hz]
        by_cases hy : y = (0, (th j : Int), 0)
        · rw [if_pos hy]
          refine ⟨fun hn => absurd (.inl hy) hn, fun _ => ⟨Int.le_refl _, fun _ g => absurd hy g, .inl rfl⟩⟩
        · rw [if_neg hy]
          refine ⟨fun _ => rfl, fun hT => ?_⟩
          rcases hT with e | e
          · exact absurd e hy
          · exact absurd (Option.some.inj e).symm hz
  have old : ∀ y m, m < j → TJ th tells (j + 1) m y → TJ th tells j m y := fun y m hm hT => ⟨hT.1, fun h3 m' a b => hT.2 h3 m' a (by omega)⟩
  have new : ∀ y m, m < j → (¬ TL th tells j y ∨ y.1 ≠ 3) → TJ th tells j m y → TJ th tells (j + 1) m y := by
    intro y m hm ho hT
    refine ⟨hT.1, fun h3 m' a b => ?_⟩
    rcases Nat.lt_or_ge m' j with g | g
    · exact hT.2 h3 m' a g
    · obtain rfl : m' = j := by omega
      rcases ho with ho | ho
      · exact ho
      · exact absurd h3 ho
  refine ⟨fun y n m hm hT => ?_, fun y n => ?_, fun y n => ?_⟩
  · obtain ⟨k0, k1⟩ := kk y n
    rcases Nat.lt_or_ge m j with g | g
    · by_cases hy : TL th tells j y
      · obtain ⟨a1, a2, _⟩ := k1 hy
        have h3 : y.1 ≠ 3 := fun h3 => hT.2 h3 j g (by omega) hy
        by_cases h0 : y = (0, (th j : Int), 0)
        · have hd : D m j = true := (hR m j g hj).2 ⟨y, .inl h0, old y m g hT⟩
          have := cl_mono hD (N := thN L th n) ((leB_iff hD).2 (.inr (.one hd)))
          have := hc n
          omega
        · have := h.up y n m g (old y m g hT)
          have := a2 h3 h0
          omega
      · rw [k0 hy]; exact h.up y n m g (old y m g hT)
    · obtain rfl : m = j := by omega
      have := (k1 hT.1).1
      have := hc n
      omega
  · obtain ⟨k0, k1⟩ := kk y n
    by_cases hy : TL th tells j y
    · obtain ⟨_, _, e | ⟨h3, h0, e⟩⟩ := k1 hy
      · exact .inr ⟨j, by omega, ⟨hy, fun _ m' a b => by omega⟩, by rw [e, hc n]; exact Int.le_refl _⟩
      · rw [e]
        rcases h.one y n with z | ⟨m, hm, hT, hle⟩
        · exact .inl z
        · exact .inr ⟨m, by omega, new y m hm (.inr h3) hT, hle⟩
    · rw [k0 hy]
      rcases h.one y n with z | ⟨m, hm, hT, hle⟩
      · exact .inl z
      · exact .inr ⟨m, by omega, new y m hm (.inl hy) hT, hle⟩
  · obtain ⟨k0, k1⟩ := kk y n
    by_cases hy : TL th tells j y
    · have := (k1 hy).1
      have := hc n
      omega
    · rw [k0 hy]; exact h.low y n
end Go.Proofs.Ytgikoajclkfoiaa
