/- The races of a trace's front are the front of its races. No statement of its own. -/
import Derived.Test.YtgikoajclkfoiaaRaceTrace
namespace Go.Proofs.Ytgikoajclkfoiaa
set_option linter.unusedVariables false
set_option linter.unusedSimpArgs false
set_option maxRecDepth 100000
open Go.ChangeShapes Go.WideShapes Go.ChangeAt Go.RowKit

theorem racesGo_app {chans : List Int} : ∀ (t s : List EvD) (i : Nat) (k : KnS) (ls : LsS), ∃ k' ls', racesGo chans i (t ++ s) k ls = racesGo chans i t k ls ++ racesGo chans (i + t.length) s k' ls'
  | [], s, i, k, ls => ⟨k, ls, by simp [racesGo]⟩
  | e :: r, s, i, k, ls => by
    rw [List.cons_append]
    by_cases h : toB e = true
    · obtain ⟨k', ls', hx⟩ := racesGo_app (chans := chans) r s (i + 1) (stepK7 chans k e) (noteL ls i e (clockL chans k e))
      refine ⟨k', ls', ?_⟩
      simp only [racesGo, if_pos h, hx, List.append_assoc, List.length_cons]
      rw [show i + 1 + r.length = i + (r.length + 1) from by omega]
    · obtain ⟨k', ls', hx⟩ := racesGo_app (chans := chans) r s (i + 1) (stepK7 chans k e) ls
      refine ⟨k', ls', ?_⟩
      simp only [racesGo, if_neg h, hx, List.length_cons]
      rw [show i + 1 + r.length = i + (r.length + 1) from by omega]
theorem racesGo_ge {chans : List Int} : ∀ (t : List EvD) (i : Nat) (k : KnS) (ls : LsS), ∀ x ∈ racesGo chans i t k ls, (i : Int) ≤ x.2
  | [], i, k, ls, x, h => by simp [racesGo] at h
  | e :: r, i, k, ls, x, h => by
    by_cases hb : toB e = true
    · simp only [racesGo, if_pos hb, List.mem_append, List.mem_map] at h
      rcases h with ⟨f, _, rfl⟩ | h
      · exact Int.le_refl _
      · have := racesGo_ge r (i + 1) _ _ x h; omega
    · simp only [racesGo, if_neg hb] at h
      have := racesGo_ge r (i + 1) _ _ x h; omega
theorem fits_tr (l : List (Nat × Nat)) : fitsB (trL l) = true := by
  unfold fitsB
  rw [Bool.and_eq_true, List.all_eq_true]
  refine ⟨decide_eq_true (by rw [trL_len]; omega), fun e he => ?_⟩
  obtain ⟨p, _, rfl⟩ := List.mem_map.1 he
  rw [Bool.and_eq_true]
  exact ⟨decide_eq_true (by simp only [trE]; omega), decide_eq_true (by simp only [trE]; omega)⟩
theorem fits_take {t : List EvD} (h : fitsB t = true) (n : Nat) : fitsB (t.take n) = true := by
  unfold fitsB at h ⊢
  rw [Bool.and_eq_true, List.all_eq_true] at h ⊢
  refine ⟨decide_eq_true ?_, fun e he => h.2 e (List.mem_of_mem_take he)⟩
  have := of_decide_eq_true h.1
  rw [List.length_take]; omega
theorem races_take {chans : List Int} {t : List EvD} (h : fitsB t = true) {n : Nat} (hn : n ≤ t.length) : ∃ r, racesL chans t = racesL chans (t.take n) ++ r ∧ ∀ x ∈ r, (n : Int) ≤ x.2 := by
  unfold racesL
  rw [if_pos h, if_pos (fits_take h n)]
  obtain ⟨k', ls', hx⟩ := racesGo_app (chans := chans) (t.take n) (t.drop n) 0 kn0 (fun _ _ => lt0)
  rw [List.take_append_drop] at hx
  refine ⟨_, hx, fun x hm => ?_⟩
  have := racesGo_ge _ _ _ _ x hm
  rw [List.length_take, Nat.min_eq_left hn] at this
  omega
theorem races_len {chans : List Int} : ∀ (t : List EvD) (i : Nat) (k : KnS) (ls : LsS), (racesGo chans i t k ls).length ≤ 6 * t.length
  | [], _, _, _ => by simp [racesGo]
  | e :: r, i, k, ls => by
    have h6 : ∀ c, (racingL ls e c).length ≤ 6 := by
      intro c
      unfold racingL
      rw [List.length_flatMap]
      have key : ∀ (m : List Nat), (m.map fun k => (racing1 ls e c k).length).sum ≤ m.length := by
        intro m
        induction m with
        | nil => simp
        | cons a m ih =>
          have : (racing1 ls e c a).length ≤ 1 := by unfold racing1; split; · simp
                                                     split <;> simp
          simp only [List.map_cons, List.sum_cons, List.length_cons]; omega
      simpa using key (List.range 6)
    by_cases hb : toB e = true
    · have := races_len (chans := chans) r (i + 1) (stepK7 chans k e) (noteL ls i e (clockL chans k e))
      have h7 := h6 (clockL chans k e)
      simp only [racesGo, if_pos hb, List.length_append, List.length_map, List.length_cons]; omega
    · have := races_len (chans := chans) r (i + 1) (stepK7 chans k e) ls
      simp only [racesGo, if_neg hb, List.length_cons]; omega
theorem racesL_le6 (chans : List Int) (t : List EvD) : (racesL chans t).length ≤ 6 * t.length := by
  unfold racesL
  split
  · exact races_len _ _ _ _
  · simp
end Go.Proofs.Ytgikoajclkfoiaa
