/- Race's clocks along a trace: each number is how many of a thread's events are ahead. No program. -/
import Derived.Test.YtgikoajclkfoiaaRaceClk
namespace Go.Proofs.Ytgikoajclkfoiaa
set_option linter.unusedVariables false
set_option linter.unusedSimpArgs false
set_option maxRecDepth 100000
open Go.ChangeShapes Go.WideShapes Go.ChangeAt Go.RowKit

/-- What is known behind j events. -/
def kst (chans : List Int) (t : List EvD) (j : Nat) : KnS := (t.take j).foldl (stepK7 chans) kn0
theorem kst_succ {chans : List Int} {t : List EvD} {j : Nat} {e : EvD} (h : t[j]? = some e) : kst chans t (j + 1) = stepK7 chans (kst chans t j) e := by
  unfold kst; rw [List.take_add_one, h, List.foldl_append]; rfl
theorem kst_cnt (chans : List Int) (t : List EvD) : ∀ j, j ≤ t.length → (kst chans t j).S = sdC t j ∧ (kst chans t j).T = tkC t j
  | 0, _ => by
    refine ⟨?_, ?_⟩ <;> (funext x; simp [kst, kn0, sdC, tkC, cntS])
  | j + 1, h => by
    obtain ⟨s, u⟩ := kst_cnt chans t j (by omega)
    obtain ⟨e, he⟩ := at_lt (l := t) (k := j) (by omega)
    have hk := tkB_iff e
    have gS : ∀ x, sdC t (j + 1) x = sdC t j x + if e.op = 20 ∧ e.obj = x then 1 else 0 := by
      intro x
      unfold sdC
      rw [cnt_snoc sdS x he]
      have : isS sdS x e = true ↔ e.op = 20 ∧ e.obj = x := by simp [isS, sdS, opsS]
      by_cases g : e.op = 20 ∧ e.obj = x
      · rw [if_pos g, if_pos (this.2 g)]
      · rw [if_neg g, if_neg (fun h => g (this.1 h))]
    have gT : ∀ x, tkC t (j + 1) x = tkC t j x + if tkB e = true ∧ e.obj = x then 1 else 0 := by
      intro x
      unfold tkC
      rw [cnt_snoc tkS x he]
      have : isS tkS x e = true ↔ tkB e = true ∧ e.obj = x := by simp [isS, tkS, tkB, modeS]
      by_cases g : tkB e = true ∧ e.obj = x
      · rw [if_pos g, if_pos (this.2 g)]
      · rw [if_neg g, if_neg (fun h => g (this.1 h))]
    rw [kst_succ he]
    have eS : (stepK7 chans (kst chans t j) e).S = if e.op = 20 then upd (kst chans t j).S e.obj ((kst chans t j).S e.obj + 1) else (kst chans t j).S := rfl
    have eT : (stepK7 chans (kst chans t j) e).T = if e.op = 20 then (kst chans t j).T else if tkB e = true then upd (kst chans t j).T e.obj ((kst chans t j).T e.obj + 1) else (kst chans t j).T := rfl
    rw [eS, eT, s, u]
    refine ⟨?_, ?_⟩
    · funext x
      rw [gS]
      by_cases h20 : e.op = 20
      · rw [if_pos h20]
        by_cases hx : x = e.obj
        · subst hx; simp [upd, h20]
        · simp only [upd, if_neg hx]; rw [if_neg (fun g => hx g.2.symm)]; omega
      · rw [if_neg h20, if_neg (fun g => h20 g.1)]; omega
    · funext x
      rw [gT]
      by_cases h20 : e.op = 20
      · have hn : ¬ tkB e = true := fun g => by have := hk.1 g; omega
        rw [if_pos h20, if_neg (fun g => hn g.1)]; omega
      · rw [if_neg h20]
        by_cases hb : tkB e = true
        · rw [if_pos hb]
          by_cases hx : x = e.obj
          · subst hx; simp [upd, hb]
          · simp only [upd, if_neg hx]; rw [if_neg (fun g => hx g.2.symm)]; omega
        · rw [if_neg hb, if_neg (fun g => hb g.1)]; omega
theorem thread_order {chans : List Int} {t : List EvD} (hl : t.length ≤ 1000000) (hc : ∀ c ∈ chans, -9223372036854775808 ≤ c ∧ c ≤ 9223372036854775807) (h0 : ∀ e ∈ t, 0 ≤ e.th) (n i k : Nat) (hik : i < k) (hi : thN t.length (thO t) n i = true) (hk : thN t.length (thO t) n k = true) : dirB chans t i k = true := by
  simp only [thN, Bool.and_eq_true, decide_eq_true_eq, beq_iff_eq] at hi hk
  obtain ⟨e, he⟩ := at_lt (l := t) (k := i) hi.1
  obtain ⟨e', he'⟩ := at_lt (l := t) (k := k) hk.1
  have a := thO_at he (h0 e (List.mem_of_getElem? he))
  have b := thO_at he' (h0 e' (List.mem_of_getElem? he'))
  have : e.th = e'.th := by rw [← a, ← b, hi.2, hk.2]
  rw [dir_rd he he' hik hl hc]
  unfold rdB
  rw [this]; simp
theorem clocks {chans : List Int} {t : List EvD} (hl : t.length ≤ 1000000) (hc : ∀ c ∈ chans, -9223372036854775808 ≤ c ∧ c ≤ 9223372036854775807) (h0 : ∀ e ∈ t, 0 ≤ e.th ∧ e.th < 64) :
    ∀ j, j ≤ t.length → InvC (dirB chans t) t.length (thO t) (teO t) j (kst chans t j).K ∧ ∀ e, t[j]? = some e → ∀ n, atN (clockL chans (kst chans t j) e) n = (cl (dirB chans t) (thN t.length (thO t) n) j : Int) := by
  have h00 : ∀ e ∈ t, 0 ≤ e.th := fun e he => (h0 e he).1
  have hth : ∀ j, j < t.length → thO t j < 64 := by
    intro j hj
    obtain ⟨e, he⟩ := at_lt hj
    have := thO_at he (h00 e (List.mem_of_getElem? he))
    have := h0 e (List.mem_of_getElem? he)
    omega
  have hR := fun m j hm hj => rules_told (chans := chans) hl hc h00 m j hm hj
  have one : ∀ j, j ≤ t.length → InvC (dirB chans t) t.length (thO t) (teO t) j (kst chans t j).K → ∀ e, t[j]? = some e → ∀ n, atN (clockL chans (kst chans t j) e) n = (cl (dirB chans t) (thN t.length (thO t) n) j : Int) := by
    intro j hj hI e he n
    have hjl := (List.getElem?_eq_some_iff.1 he).1
    have := clock_one (dirB_up chans t) hl hth (hears := heO chans t) hjl hR hI (fun n i k => thread_order hl hc h00 n i k) n
    rw [← this]
    obtain ⟨s, u⟩ := kst_cnt chans t j hj
    unfold clockL
    rw [s, u, heO_at he, thO_at he (h00 e (List.mem_of_getElem? he))]
  intro j
  induction j with
  | zero => exact fun hj => ⟨invC_zero _ _ _ _, one 0 hj (invC_zero _ _ _ _)⟩
  | succ j ih =>
    intro hj
    obtain ⟨hI, hC⟩ := ih (by omega)
    obtain ⟨e, he⟩ := at_lt (l := t) (k := j) (by omega)
    have hn : InvC (dirB chans t) t.length (thO t) (teO t) (j + 1) (kst chans t (j + 1)).K := by
      have := clock_next (dirB_up chans t) (hears := heO chans t) (show j < t.length by omega) hR hI (c := clockL chans (kst chans t j) e) (fun n => hC e he n)
      obtain ⟨s, u⟩ := kst_cnt chans t j (by omega)
      rw [kst_succ he, show (stepK7 chans (kst chans t j) e).K = toldK (upd (kst chans t j).K (0, e.th, 0) (clockL chans (kst chans t j) e)) (tellsL (kst chans t j).S (kst chans t j).T e) (clockL chans (kst chans t j) e) from rfl, s, u, ← teO_at he, ← thO_at he (h00 e (List.mem_of_getElem? he))]
      exact this
    exact ⟨hn, one (j + 1) hj hn⟩
end Go.Proofs.Ytgikoajclkfoiaa
