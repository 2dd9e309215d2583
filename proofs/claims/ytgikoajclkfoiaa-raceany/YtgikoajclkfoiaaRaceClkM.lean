/- How many of a thread's events are ahead of an event: a clock's numbers, by counting. No program. -/
import Derived.Test.YtgikoajclkfoiaaBefMath
namespace Go.Proofs.Ytgikoajclkfoiaa
set_option linter.unusedVariables false
set_option linter.unusedSimpArgs false

/-- How many below k. -/
def cnN (N : Nat → Bool) (k : Nat) : Nat := (List.range k).countP N
theorem cnN_zero (N : Nat → Bool) : cnN N 0 = 0 := rfl
theorem cnN_succ (N : Nat → Bool) (k : Nat) : cnN N (k + 1) = cnN N k + if N k = true then 1 else 0 := by
  unfold cnN; rw [List.range_succ, List.countP_append]; simp [List.countP_cons]
theorem cnN_mono (N : Nat → Bool) {k m : Nat} (h : k ≤ m) : cnN N k ≤ cnN N m := by
  induction m with
  | zero => obtain rfl : k = 0 := by omega
            exact Nat.le_refl _
  | succ m ih =>
    rcases Nat.lt_or_ge m k with hk | hk
    · obtain rfl : k = m + 1 := by omega
      exact Nat.le_refl _
    · have := ih hk; rw [cnN_succ]; omega
theorem cnN_le {A N : Nat → Bool} : ∀ {k : Nat}, (∀ i, i < k → A i = true → N i = true) → cnN A k ≤ cnN N k
  | 0, _ => Nat.le_refl _
  | k + 1, h => by
    have ih := cnN_le (k := k) fun i hi => h i (by omega)
    rw [cnN_succ, cnN_succ]
    by_cases ha : A k = true
    · rw [if_pos ha, if_pos (h k (by omega) ha)]; omega
    · rw [if_neg ha]; omega
theorem cnN_lt {N : Nat → Bool} {i k : Nat} (h : N i = true) (hk : i < k) : cnN N i < cnN N k := by
  have h1 := cnN_mono N (show i + 1 ≤ k by omega)
  rw [cnN_succ, if_pos h] at h1; omega
theorem cnN_last (B : Nat → Bool) : ∀ k, cnN B k = 0 ∨ ∃ i, i < k ∧ B i = true ∧ cnN B k = cnN B (i + 1)
  | 0 => .inl rfl
  | k + 1 => by
    by_cases h : B k = true
    · exact .inr ⟨k, by omega, h, rfl⟩
    · have e : cnN B (k + 1) = cnN B k := by rw [cnN_succ, if_neg h]; omega
      rcases cnN_last B k with h0 | ⟨i, hi, hb, hc⟩
      · exact .inl (e.trans h0)
      · exact .inr ⟨i, by omega, hb, e.trans hc⟩
/-- A front of N's: who is in it, by number. -/
theorem front_iff {A N : Nat → Bool} (hA : ∀ i, A i = true → N i = true) (hd : ∀ i k, i < k → N i = true → A k = true → A i = true) {L i : Nat} (hi : i < L) (hN : N i = true) : A i = true ↔ cnN N (i + 1) ≤ cnN A L := by
  constructor
  · intro h
    refine Nat.le_trans (cnN_le fun k hk hn => ?_) (cnN_mono A (show i + 1 ≤ L by omega))
    rcases Nat.lt_or_ge k i with g | g
    · exact hd k i g hn h
    · obtain rfl : k = i := by omega
      exact h
  · intro h
    cases hx : A i with
    | true => rfl
    | false =>
      exfalso
      have e : ∀ L, i ≤ L → cnN A L = cnN A i := by
        intro L
        induction L with
        | zero => intro hL; obtain rfl : i = 0 := by omega
                  rfl
        | succ L ih =>
          intro hL
          rcases Nat.lt_or_ge L i with g | g
          · obtain rfl : i = L + 1 := by omega
            rfl
          · rw [cnN_succ, if_neg ?_, ih g]; · rfl
            intro ha
            rcases Nat.lt_or_ge i L with g2 | g2
            · rw [hd i L g2 hN ha] at hx; cases hx
            · obtain rfl : i = L := by omega
              rw [ha] at hx; cases hx
      rw [e L (by omega)] at h
      have h1 := cnN_le (k := i) (A := A) (N := N) fun k _ => hA k
      have h2 := cnN_lt hN (show i < i + 1 by omega)
      omega
/-- i is j, or ahead of it. -/
def leB (D : Nat → Nat → Bool) (i j : Nat) : Bool := i == j || befB D i j
theorem leB_iff {D : Nat → Nat → Bool} (hD : Up D) {i j : Nat} : leB D i j = true ↔ i = j ∨ Bef D j i := by
  unfold leB; rw [Bool.or_eq_true, beq_iff_eq, befB_iff hD]
/-- How many of N's are j or ahead of it. -/
def cl (D : Nat → Nat → Bool) (N : Nat → Bool) (j : Nat) : Nat := cnN (fun i => N i && leB D i j) (j + 1)
theorem cl_iff {D : Nat → Nat → Bool} (hD : Up D) {N : Nat → Bool} (hp : ∀ i k, i < k → N i = true → N k = true → D i k = true) {i j : Nat} (hN : N i = true) : leB D i j = true ↔ cnN N (i + 1) ≤ cl D N j := by
  rcases Nat.lt_or_ge j i with g | g
  · constructor
    · intro h
      rcases (leB_iff hD).1 h with rfl | h
      · omega
      · have := Bef.lt hD h; omega
    · intro h
      exfalso
      have h1 : cl D N j ≤ cnN N (j + 1) := cnN_le fun k _ hk => by rw [Bool.and_eq_true] at hk; exact hk.1
      have h2 := cnN_mono N (show j + 1 ≤ i by omega)
      have h3 := cnN_lt hN (show i < i + 1 by omega)
      omega
  · show _ ↔ cnN N (i + 1) ≤ cnN (fun k => N k && leB D k j) (j + 1)
    rw [← front_iff (A := fun k => N k && leB D k j) (N := N) (fun k hk => by rw [Bool.and_eq_true] at hk; exact hk.1) (fun a b hab ha hb => ?_) (show i < j + 1 by omega) hN]
    · simp only [hN, Bool.true_and]
    · rw [Bool.and_eq_true] at hb ⊢
      refine ⟨ha, (leB_iff hD).2 (.inr ?_)⟩
      rcases (leB_iff hD).1 hb.2 with rfl | h
      · exact .one (hp a b hab ha hb.1)
      · exact .more (hp a b hab ha hb.1) h
/-- The clock of an event out of the clocks of those that are ahead of it at once. -/
theorem cl_step {D : Nat → Nat → Bool} (hD : Up D) {N : Nat → Bool} (hp : ∀ i k, i < k → N i = true → N k = true → D i k = true) {j : Nat} {M : Nat}
    (h1 : ∀ m, Bef D j m → cl D N m ≤ M) (h2 : M = 0 ∨ ∃ m, Bef D j m ∧ M ≤ cl D N m) : cl D N j = M + if N j = true then 1 else 0 := by
  have e1 : cl D N j = cnN (fun i => N i && leB D i j) j + if N j = true then 1 else 0 := by
    unfold cl
    rw [cnN_succ]
    have : leB D j j = true := (leB_iff hD).2 (.inl rfl)
    simp only [this, Bool.and_true]
  rw [e1]
  congr 1
  apply Nat.le_antisymm
  · rcases cnN_last (fun i => N i && leB D i j) j with h0 | ⟨i, hi, hb, hc⟩
    · rw [h0]; exact Nat.zero_le _
    · rw [Bool.and_eq_true] at hb
      rcases (leB_iff hD).1 hb.2 with rfl | hB
      · omega
      · have h3 := h1 i hB
        have h4 : cnN N (i + 1) ≤ cl D N i := (cl_iff hD hp hb.1).1 ((leB_iff hD).2 (.inl rfl))
        have h5 : cnN (fun i => N i && leB D i j) (i + 1) ≤ cnN N (i + 1) := cnN_le fun k _ hk => by rw [Bool.and_eq_true] at hk; exact hk.1
        omega
  · rcases h2 with rfl | ⟨m, hm, hM⟩
    · exact Nat.zero_le _
    · refine Nat.le_trans hM (Nat.le_trans (cnN_le (N := fun i => N i && leB D i j) fun k hk hx => ?_) (cnN_mono _ (Bef.lt hD hm)))
      rw [Bool.and_eq_true] at hx ⊢
      refine ⟨hx.1, (leB_iff hD).2 (.inr ?_)⟩
      rcases (leB_iff hD).1 hx.2 with rfl | h
      · exact hm
      · exact h.trans hm
theorem cl_mono {D : Nat → Nat → Bool} (hD : Up D) {N : Nat → Bool} {m j : Nat} (h : leB D m j = true) : cl D N m ≤ cl D N j := by
  rcases (leB_iff hD).1 h with rfl | hB
  · exact Nat.le_refl _
  · have hlt := Bef.lt hD hB
    refine Nat.le_trans (cnN_le (N := fun i => N i && leB D i j) fun k hk hx => ?_) (cnN_mono _ (by omega))
    rw [Bool.and_eq_true] at hx ⊢
    refine ⟨hx.1, (leB_iff hD).2 (.inr ?_)⟩
    rcases (leB_iff hD).1 hx.2 with rfl | h
    · exact hB
    · exact h.trans hB
/-- Of N's one: ahead just if its number is within the clock. -/
theorem cl_ahead {D : Nat → Nat → Bool} (hD : Up D) {N : Nat → Bool} (hp : ∀ i k, i < k → N i = true → N k = true → D i k = true) {i j : Nat} (hN : N i = true) (hij : i < j) : befB D i j = true ↔ cnN N (i + 1) ≤ cl D N j := by
  rw [← cl_iff hD hp hN]
  unfold leB
  rw [show (i == j) = false from by rw [beq_eq_false_iff_ne]; omega, Bool.false_or]
theorem cl_own {D : Nat → Nat → Bool} (hD : Up D) {N : Nat → Bool} (hp : ∀ i k, i < k → N i = true → N k = true → D i k = true) {j : Nat} (hN : N j = true) : cl D N j = cnN N (j + 1) := by
  apply Nat.le_antisymm
  · exact cnN_le fun k _ hk => by rw [Bool.and_eq_true] at hk; exact hk.1
  · exact (cl_iff hD hp hN).1 ((leB_iff hD).2 (.inl rfl))
end Go.Proofs.Ytgikoajclkfoiaa
