/- What holds of a state's numbers holds behind a step. -/
import Derived.Test.YtfcfdneganknjaaStateAny
namespace Go.Proofs.Ytfcfdneganknjaa
set_option linter.unusedVariables false
set_option linter.unusedSimpArgs false
set_option maxRecDepth 100000
open Go.ChangeShapes Go.WideShapes Go.ChangeAt Go.RowKit

theorem edM_off : ∀ (L : List Ed) {m : Nat → Int} {j : Nat}, (∀ i v, Ed.m i v ∈ L → i ≠ j) → edM L m j = m j
  | [], _, _, _ => rfl
  | .e i v :: l, m, j, h => by rw [edM]; exact edM_off l (fun i v hh => h i v (by simp [hh]))
  | .m i v :: l, m, j, h => by rw [edM, edM_off l (fun i v hh => h i v (by simp [hh])), upd_ne _ _ (h i v (by simp)).symm]
theorem blocked_pc (m : Nat → Int) (x : InsD) {i : Nat} (hi : i < 37) (v : Int) : blockedM (upd m i v) x = blockedM m x := by
  have e : ∀ j, 37 ≤ j → upd m i v j = m j := fun j hj => upd_ne _ _ (by omega)
  simp only [blockedM, e _ (show 37 ≤ 49 + x.a.toNat * 2 by omega), e _ (show 37 ≤ 49 + x.a.toNat * 2 + 1 by omega), e _ (show 37 ≤ 57 + x.a.toNat * 6 + 3 by omega), e _ (show 37 ≤ 57 + x.a.toNat * 6 + 4 by omega), e _ (show 37 ≤ 57 + x.a.toNat * 6 + 5 by omega), e _ (show 37 ≤ 57 + x.b.toNat * 6 + 3 by omega), e _ (show 37 ≤ 57 + x.b.toNat * 6 + 5 by omega), e _ (show 37 ≤ 81 + x.a.toNat by omega), e _ (show 37 ≤ 85 + x.b.toNat by omega)]

/-- Where a put of an instruction that does not jump may lie: not at where a thread is, not at what a channel holds or may hold. -/
theorem do_off {m : Nat → Int} {nt n k : Nat} {x : InsD} (hx : InsFit nt n x) (hk : k < 6) (hnt : nt ≤ 6) (hj : x.op ≠ 10) (hj2 : x.op ≠ 11)
    (hch : ∀ c, c < 4 → 0 ≤ m (57 + c * 6 + 3) ∧ m (57 + c * 6 + 3) ≤ m (57 + c * 6 + 4) ∧ m (57 + c * 6 + 4) ≤ 3) (hb : blockedM m x = false) :
    ∀ i v, Ed.m i v ∈ (doE m k x).1 → (∀ j, j < 6 → i ≠ 1 + j * 6 + 1) ∧ i ≠ 90 ∧ ∀ c, c < 4 → i ≠ 57 + c * 6 + 4 ∧ (i = 57 + c * 6 + 3 → 0 ≤ v ∧ v ≤ m (57 + c * 6 + 4)) := by
  obtain ⟨op, a, y, z⟩ := x
  intro i v h
  match op, hx, hb with
  | 0, hx, _ => simp [doE, rg] at h
  | 1, hx, _ =>
    obtain ⟨A, rfl, hA⟩ : Fit 4 a := hx
    simp [doE, rg] at h
    exact ⟨fun j hj => by omega, by omega, fun c hc => by omega⟩
  | 2, hx, _ | 3, hx, _ | 4, hx, _ | 5, hx, _ | 6, hx, _ | 7, hx, _ | 17, hx, _ =>
    obtain ⟨A, rfl, hA⟩ : Fit 4 a := hx.1
    simp [doE, rg] at h
    exact ⟨fun j hj => by omega, by omega, fun c hc => by omega⟩
  | 8, hx, _ =>
    obtain ⟨A, rfl, hA⟩ : Fit 8 a := hx.1
    simp [doE, rg] at h
    exact ⟨fun j hj => by omega, by omega, fun c hc => by omega⟩
  | 18, hx, _ =>
    obtain ⟨A, rfl, hA⟩ : Fit 4 a := hx.1
    simp [doE, rg] at h
    exact ⟨fun j hj => by omega, by omega, fun c hc => by omega⟩
  | 9, hx, _ => simp [doE, rg] at h
  | 10, hx, _ => exact absurd rfl hj
  | 11, hx, _ => exact absurd rfl hj2
  | 12, hx, _ =>
    obtain ⟨A, rfl, hA⟩ : Fit nt a := hx
    simp [doE, rg] at h
    exact ⟨fun j hj => by omega, by omega, fun c hc => by omega⟩
  | 13, hx, _ | 15, hx, _ =>
    obtain ⟨A, rfl, hA⟩ : Fit 4 a := hx
    simp [doE, rg] at h
    exact ⟨fun j hj => by omega, by omega, fun c hc => by omega⟩
  | 23, hx, _ =>
    obtain ⟨A, rfl, hA⟩ : Fit 4 a := hx
    simp [doE, rg] at h
    exact ⟨fun j hj => by omega, by omega, fun c hc => by omega⟩
  | 14, hx, _ | 16, hx, _ | 24, hx, _ | 27, hx, _ =>
    obtain ⟨A, rfl, hA⟩ : Fit 4 a := hx
    simp only [doE, rg] at h
    split at h <;> simp at h
    all_goals exact ⟨fun j hj => by omega, by omega, fun c hc => by omega⟩
  | 19, hx, _ =>
    obtain ⟨⟨A, rfl, hA⟩, ⟨B, rfl, hB⟩, _⟩ : Fit 4 a ∧ Fit 4 y ∧ Fit 4 z := hx
    simp [doE, rg] at h
    exact ⟨fun j hj => by omega, by omega, fun c hc => by omega⟩
  | 20, hx, hb =>
    obtain ⟨⟨A, rfl, hA⟩, ⟨B, rfl, hB⟩⟩ : Fit 4 a ∧ Fit 4 y := hx
    obtain ⟨c1, c2, c3⟩ := hch A hA
    simp only [doE, rg, Int.toNat_natCast] at h
    rcases hq : (m (57 + A * 6 + 5) == 1) with _ | _
    · have hne : m (57 + A * 6 + 3) ≠ m (57 + A * 6 + 4) := by
        intro e
        simp [blockedM, e] at hb
        simp [hb] at hq
      rw [hq] at h
      simp at h
      refine ⟨fun j hj => by omega, by omega, fun c hc => ⟨by omega, fun e => ?_⟩⟩
      obtain rfl : c = A := by omega
      omega
    · rw [hq] at h
      simp at h
  | 21, hx, _ | 22, hx, _ =>
    obtain ⟨A, rfl, hA⟩ : Fit 4 a := hx.1
    obtain ⟨B, rfl, hB⟩ : Fit 4 y := by first | exact hx.2 | exact hx.2.1
    obtain ⟨c1, c2, c3⟩ := hch B hB
    try obtain ⟨C, rfl, hC⟩ : Fit 4 z := hx.2.2
    simp only [doE, rg, takeE, Int.toNat_natCast] at h
    rcases hq : (m (57 + B * 6 + 3)).toNat with _ | _ | _ | q
    all_goals
      rw [hq] at h
      simp at h
      refine ⟨fun j hj => by omega, by omega, fun c hc => ⟨by omega, fun e => ?_⟩⟩
      first
        | (obtain rfl : c = B := by omega
           omega)
        | omega
  | 25, hx, _ => simp [doE, rg] at h
  | 26, hx, _ =>
    obtain ⟨⟨A, rfl, hA⟩, ⟨B, rfl, hB⟩⟩ : Fit 4 a ∧ Fit 4 y := hx
    simp only [doE, rg] at h
    split at h <;> simp at h
    all_goals exact ⟨fun j hj => by omega, by omega, fun c hc => by omega⟩

theorem edM_in : ∀ (L : List Ed) {m : Nat → Int} {j : Nat}, edM L m j = m j ∨ ∃ v, Ed.m j v ∈ L ∧ edM L m j = v
  | [], _, _ => .inl rfl
  | .e i v :: l, m, j => by
    rw [edM]
    rcases edM_in l (m := m) (j := j) with h | ⟨u, h1, h2⟩
    · exact .inl h
    · exact .inr ⟨u, by simp [h1], h2⟩
  | .m i v :: l, m, j => by
    rw [edM]
    rcases edM_in l (m := upd m i v) (j := j) with h | ⟨u, h1, h2⟩
    · by_cases e : j = i
      · subst e
        rw [upd_same] at h
        exact .inr ⟨v, by simp, h⟩
      · rw [upd_ne _ _ e] at h
        exact .inl h
    · exact .inr ⟨u, by simp [h1], h2⟩

/-- Where a thread is behind an instruction. -/
theorem do_pc {m : Nat → Int} {nt n k : Nat} {x : InsD} (hx : InsFit nt n x) (hk : k < 6) (hnt : nt ≤ 6)
    (hch : ∀ c, c < 4 → 0 ≤ m (57 + c * 6 + 3) ∧ m (57 + c * 6 + 3) ≤ m (57 + c * 6 + 4) ∧ m (57 + c * 6 + 4) ≤ 3) (hb : blockedM m x = false) (j : Nat) (hj : j < 6) :
    edM (doE m k x).1 m (1 + j * 6 + 1) = m (1 + j * 6 + 1) ∨ j = k ∧ ∃ q : Nat, q ≤ n ∧ edM (doE m k x).1 m (1 + j * 6 + 1) = q := by
  obtain ⟨op, a, y, z⟩ := x
  by_cases h10 : op = 10
  · subst h10
    obtain ⟨A, rfl, hA⟩ : Fit (n + 1) a := hx
    by_cases e : j = k
    · subst e
      exact .inr ⟨rfl, A, by omega, by simp [doE, edM, upd]⟩
    · exact .inl (by simp only [doE, edM]; exact upd_ne _ _ (by omega))
  by_cases h11 : op = 11
  · subst h11
    obtain ⟨B, rfl, hB⟩ : Fit (n + 1) y := hx.2
    simp only [doE]
    split
    · by_cases e : j = k
      · subst e
        exact .inr ⟨rfl, B, by omega, by simp [doE, edM, upd]⟩
      · exact .inl (by simp only [doE, edM]; exact upd_ne _ _ (by omega))
    · exact .inl rfl
  refine .inl (edM_off _ fun i v h => (do_off hx hk hnt h10 h11 hch hb i v h).1 j hj)
theorem do_chan {m : Nat → Int} {nt n k : Nat} {x : InsD} (hx : InsFit nt n x) (hk : k < 6) (hnt : nt ≤ 6)
    (hch : ∀ c, c < 4 → 0 ≤ m (57 + c * 6 + 3) ∧ m (57 + c * 6 + 3) ≤ m (57 + c * 6 + 4) ∧ m (57 + c * 6 + 4) ≤ 3) (hb : blockedM m x = false) (c : Nat) (hc : c < 4) :
    edM (doE m k x).1 m (57 + c * 6 + 4) = m (57 + c * 6 + 4) ∧ 0 ≤ edM (doE m k x).1 m (57 + c * 6 + 3) ∧ edM (doE m k x).1 m (57 + c * 6 + 3) ≤ m (57 + c * 6 + 4) := by
  have hcc := hch c hc
  by_cases hjj : x.op = 10 ∨ x.op = 11
  · have hq : ∀ i v, Ed.m i v ∈ (doE m k x).1 → i = 1 + k * 6 + 1 := by
      intro i v h
      rcases hjj with e | e
      · simp [doE, e] at h; exact h.1
      · simp only [doE, e] at h
        split at h
        · simp at h; exact h.1
        · simp at h
    have e3 := edM_off (doE m k x).1 (m := m) (j := 57 + c * 6 + 3) fun i v h => by have := hq i v h; omega
    have e4 := edM_off (doE m k x).1 (m := m) (j := 57 + c * 6 + 4) fun i v h => by have := hq i v h; omega
    rw [e3, e4]; exact ⟨rfl, hcc.1, hcc.2.1⟩
  have ho := do_off hx hk hnt (fun e => hjj (.inl e)) (fun e => hjj (.inr e)) hch hb
  refine ⟨edM_off _ fun i v h => ((ho i v h).2.2 c hc).1, ?_⟩
  rcases edM_in (doE m k x).1 (m := m) (j := 57 + c * 6 + 3) with h | ⟨v, h1, h2⟩
  · rw [h]; exact ⟨hcc.1, hcc.2.1⟩
  · rw [h2]; exact ((ho _ v h1).2.2 c hc).2 rfl

/-- A step of thread k at the instruction x. -/
def stepK (m : Nat → Int) (k : Nat) (x : InsD) : Nat → Int :=
  upd (edM (doE (upd m (1 + k * 6 + 1) (m (1 + k * 6 + 1) + 1)) k x).1 (upd m (1 + k * 6 + 1) (m (1 + k * 6 + 1) + 1))) 90 (bitN (!(doE (upd m (1 + k * 6 + 1) (m (1 + k * 6 + 1) + 1)) k x).2))
theorem inv_step {m : Nat → Int} {code : List (List InsD)} (I : Inv m code) (hl : code.length ≤ 6) {k : Nat} {x : InsD} (hx : insM code m k = some x) (hb : blockedM m x = false) : Inv (stepK m k x) code := by
  rcases hq : code[k]? with _ | ck
  · simp [insM, hq] at hx
  have hk := (List.getElem?_eq_some_iff.1 hq).1
  simp only [insM, hq, Option.bind_some] at hx
  obtain ⟨p, hp, hpl⟩ := I.pc k ck hq
  rw [hp, Int.toNat_natCast] at hx
  have hpc := (List.getElem?_eq_some_iff.1 hx).1
  have hf := I.fit k ck hq x (List.mem_of_getElem? hx)
  unfold stepK
  generalize hm : upd m (1 + k * 6 + 1) (m (1 + k * 6 + 1) + 1) = m1
  have hfar : ∀ j, j ≠ 1 + k * 6 + 1 → m1 j = m j := fun j h => by rw [← hm]; exact upd_ne _ _ h
  have hch : ∀ c, c < 4 → 0 ≤ m1 (57 + c * 6 + 3) ∧ m1 (57 + c * 6 + 3) ≤ m1 (57 + c * 6 + 4) ∧ m1 (57 + c * 6 + 4) ≤ 3 := fun c hc => by
    rw [hfar _ (by omega), hfar _ (by omega)]; exact I.chan c hc
  have hb1 : blockedM m1 x = false := by rw [← hm, blocked_pc _ _ (by omega)]; exact hb
  refine ⟨fun j c hj => ?_, I.fit, fun c hc => ?_⟩
  · have hj6 := (List.getElem?_eq_some_iff.1 hj).1
    rw [upd_ne _ _ (by omega)]
    have h1 : ∃ q : Nat, m1 (1 + j * 6 + 1) = q ∧ q ≤ c.length := by
      by_cases e : j = k
      · subst e
        rw [hq] at hj
        cases hj
        exact ⟨p + 1, by rw [← hm, upd_same, hp]; omega, by omega⟩
      · rw [hfar _ (by omega)]; exact I.pc j c hj
    rcases do_pc (k := k) hf (by omega) hl hch hb1 j (by omega) with e | ⟨rfl, q, h2, h3⟩
    · rw [e]; exact h1
    · rw [hq] at hj
      cases hj
      exact ⟨q, h3, h2⟩
  · rw [upd_ne _ _ (by omega), upd_ne _ _ (by omega)]
    obtain ⟨h1, h2, h3⟩ := do_chan (k := k) hf (by omega) hl hch hb1 c hc
    rw [h1]
    exact ⟨h2, h3, (hch c hc).2.2⟩
end Go.Proofs.Ytfcfdneganknjaa
