/- States that are finitely many: a run stays within a list of them. -/
import Derived.Test.YtjlbbfkllckkgaaStateKnown
namespace Go.Proofs.Ytjlbbfkllckkgaa
set_option linter.unusedVariables false
set_option linter.unusedSimpArgs false
set_option maxRecDepth 100000
open Go.ChangeShapes Go.WideShapes Go.ChangeAt Go.RowKit

/-- A put of an instruction lies within a state. -/
theorem do_lt {m : Nat → Int} {nt n k : Nat} {x : InsD} (hx : InsFit nt n x) (hk : k < 6) (hnt : nt ≤ 6)
    (hch : ∀ c, c < 4 → 0 ≤ m (57 + c * 6 + 3) ∧ m (57 + c * 6 + 3) ≤ m (57 + c * 6 + 4) ∧ m (57 + c * 6 + 4) ≤ 3) (hb : blockedM m x = false) :
    ∀ i v, Ed.m i v ∈ (doE m k x).1 → i < 89 := by
  obtain ⟨op, a, y, z⟩ := x
  intro i v h
  match op, hx, hb with
  | 0, hx, _ => simp [doE, rg] at h
  | 1, hx, _ =>
    obtain ⟨A, rfl, hA⟩ : Fit 4 a := hx
    simp [doE, rg] at h
    omega
  | 2, hx, _ | 3, hx, _ | 4, hx, _ | 5, hx, _ | 6, hx, _ | 7, hx, _ | 17, hx, _ =>
    obtain ⟨A, rfl, hA⟩ : Fit 4 a := hx.1
    simp [doE, rg] at h
    omega
  | 8, hx, _ =>
    obtain ⟨A, rfl, hA⟩ : Fit 8 a := hx.1
    simp [doE, rg] at h
    omega
  | 18, hx, _ =>
    obtain ⟨A, rfl, hA⟩ : Fit 4 a := hx.1
    simp [doE, rg] at h
    omega
  | 9, hx, _ => simp [doE, rg] at h
  | 10, hx, _ =>
    simp [doE, rg] at h
    omega
  | 11, hx, _ =>
    simp only [doE, rg] at h
    split at h <;> simp at h
    omega
  | 12, hx, _ =>
    obtain ⟨A, rfl, hA⟩ : Fit nt a := hx
    simp [doE, rg] at h
    omega
  | 13, hx, _ | 15, hx, _ =>
    obtain ⟨A, rfl, hA⟩ : Fit 4 a := hx
    simp [doE, rg] at h
    omega
  | 23, hx, _ =>
    obtain ⟨A, rfl, hA⟩ : Fit 4 a := hx
    simp [doE, rg] at h
    omega
  | 14, hx, _ | 16, hx, _ | 24, hx, _ | 27, hx, _ =>
    obtain ⟨A, rfl, hA⟩ : Fit 4 a := hx
    simp only [doE, rg] at h
    split at h <;> simp at h
    all_goals omega
  | 19, hx, _ =>
    obtain ⟨⟨A, rfl, hA⟩, ⟨B, rfl, hB⟩, _⟩ : Fit 4 a ∧ Fit 4 y ∧ Fit 4 z := hx
    simp [doE, rg] at h
    omega
  | 20, hx, hb =>
    obtain ⟨⟨A, rfl, hA⟩, ⟨B, rfl, hB⟩⟩ : Fit 4 a ∧ Fit 4 y := hx
    obtain ⟨c1, c2, c3⟩ := hch A hA
    simp only [doE, rg, Int.toNat_natCast] at h
    rcases hq : (m (57 + A * 6 + 5) == 1) with _ | _
    · have hne : m (57 + A * 6 + 3) ≠ m (57 + A * 6 + 4) := by
        intro e
        simp [blockedM, e] at hb
        simp [hb] at hq
      rw [hq] at h
      simp at h
      omega
    · rw [hq] at h
      simp at h
  | 21, hx, _ | 22, hx, _ =>
    obtain ⟨A, rfl, hA⟩ : Fit 4 a := hx.1
    obtain ⟨B, rfl, hB⟩ : Fit 4 y := by first | exact hx.2 | exact hx.2.1
    obtain ⟨c1, c2, c3⟩ := hch B hB
    try obtain ⟨C, rfl, hC⟩ : Fit 4 z := hx.2.2
    simp only [doE, rg, takeE, Int.toNat_natCast] at h
    rcases hq : (m (57 + B * 6 + 3)).toNat with _ | _ | _ | q
    all_goals
      rw [hq] at h
      simp at h
      omega
  | 25, hx, _ => simp [doE, rg] at h
  | 26, hx, _ =>
    obtain ⟨⟨A, rfl, hA⟩, ⟨B, rfl, hB⟩⟩ : Fit 4 a ∧ Fit 4 y := hx
    simp only [doE, rg] at h
    split at h <;> simp at h
    all_goals omega

theorem stepM_far {code : List (List InsD)} {m : Nat → Int} (I : Inv m code) (hl : code.length ≤ 6) (k : Int) {i : Nat} (hi : 91 ≤ i) : stepM code m k i = m i := by
  unfold stepM
  split
  · rename_i h
    obtain ⟨j, x, rfl, hj, hx, hb, _⟩ := canM_parts h
    rw [Int.toNat_natCast, hx]
    show stepK m j x i = m i
    rcases hq : code[j]? with _ | ck
    · simp [insM, hq] at hx
    have hx2 := hx
    simp only [insM, hq, Option.bind_some] at hx2
    have hf := I.fit j ck hq x (List.mem_of_getElem? hx2)
    unfold stepK
    rw [upd_ne _ _ (by omega)]
    have hch : ∀ c, c < 4 → 0 ≤ upd m (1 + j * 6 + 1) (m (1 + j * 6 + 1) + 1) (57 + c * 6 + 3) ∧ upd m (1 + j * 6 + 1) (m (1 + j * 6 + 1) + 1) (57 + c * 6 + 3) ≤ upd m (1 + j * 6 + 1) (m (1 + j * 6 + 1) + 1) (57 + c * 6 + 4) ∧ upd m (1 + j * 6 + 1) (m (1 + j * 6 + 1) + 1) (57 + c * 6 + 4) ≤ 3 := fun c hc => by
      rw [upd_ne _ _ (by omega), upd_ne _ _ (by omega)]; exact I.chan c hc
    rw [edM_off _ fun i' v h => by have := do_lt hf (by omega) hl hch (by rw [blocked_pc _ _ (by omega)]; exact hb) i' v h; omega]
    exact upd_ne _ _ (by omega)
  · rfl
/-- A state's numbers by a list. -/
def ofL (l : List Int) : Nat → Int := fun i => (l[i]?).getD 0
def stepL (code : List (List InsD)) (l : List Int) (k : Int) : List Int := (List.range 91).map (stepM code (ofL l) k)
/-- By each pick of a list's states comes one of its states. -/
def closed (code : List (List InsD)) (R : List (List Int × List Int)) : Bool := R.all fun l => [0, 1, 2, 3].all fun k => R.contains (stepL code l.1 k, l.2 ++ stepT code (ofL l.1) k)
def Reach (R : List (List Int × List Int)) (m : Nat → Int) (t : List Int) : Prop := ∃ l ∈ R, m = ofL l.1 ∧ t = l.2
theorem stepL_of {code : List (List InsD)} {l : List Int} (h91 : l.length = 91) (I : Inv (ofL l) code) (hl : code.length ≤ 6) (k : Int) : stepM code (ofL l) k = ofL (stepL code l k) := by
  funext i
  by_cases hi : i < 91
  · show _ = ((stepL code l k)[i]?).getD 0
    unfold stepL
    rw [List.getElem?_map, List.getElem?_range hi]; rfl
  · rw [stepM_far I hl k (by omega)]
    show (l[i]?).getD 0 = ((stepL code l k)[i]?).getD 0
    rw [List.getElem?_eq_none (by omega), List.getElem?_eq_none (by unfold stepL; simp; omega)]
theorem Reach.step {code : List (List InsD)} {R : List (List Int × List Int)} (hc : closed code R = true) (hR : R.all (fun l => l.1.length == 91) = true) {m : Nat → Int} {t : List Int} (h : Reach R m t) (I : Inv m code) (hl : code.length ≤ 6) {k : Int} (h0 : 0 ≤ k) (h3 : k ≤ 3) : Reach R (stepM code m k) (t ++ stepT code m k) := by
  obtain ⟨l, hm, rfl, rfl⟩ := h
  have h91 : l.1.length = 91 := by simpa using List.all_eq_true.1 hR l hm
  have h1 := List.all_eq_true.1 (List.all_eq_true.1 hc l hm) k (by
    have : k = 0 ∨ k = 1 ∨ k = 2 ∨ k = 3 := by omega
    rcases this with rfl | rfl | rfl | rfl <;> simp)
  have h2 : (stepL code l.1 k, l.2 ++ stepT code (ofL l.1) k) ∈ R := by simpa using h1
  exact ⟨_, h2, stepL_of h91 I hl k, rfl⟩
theorem newM_nil : newM [] = fun i => if i = 1 then 1 else 0 := by
  funext i
  by_cases h : i = 1
  · subst h; rfl
  · rw [if_neg h]; unfold newM; rw [upd_ne _ _ h]; unfold beginM; rw [if_neg (by simp)]
end Go.Proofs.Ytjlbbfkllckkgaa
