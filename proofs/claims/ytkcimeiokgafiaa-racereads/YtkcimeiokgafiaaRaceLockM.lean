/- Where each access is between locking and unlocking one lock there are no races. No statement of its own. -/
import Derived.Test.YtkcimeiokgafiaaRaceFrontsM
namespace Go.Proofs.Ytkcimeiokgafiaa
set_option linter.unusedVariables false
set_option linter.unusedSimpArgs false
set_option maxRecDepth 100000
open Go.ChangeShapes Go.WideShapes Go.ChangeAt Go.RowKit

/-- Each place is between 0 and i. -/
def Bd (i : Nat) (a : List Int) : Prop := ∀ n, 0 ≤ atN a n ∧ atN a n ≤ (i : Int)
theorem Bd.mono {i j : Nat} {a : List Int} (h : Bd i a) (hij : i ≤ j) : Bd j a := fun n => ⟨(h n).1, by have := (h n).2; omega⟩
theorem Bd.join {i : Nat} {a b : List Int} (ha : Bd i a) (hb : Bd i b) : Bd i (joinL a b) := fun n => by
  rw [join_at]; have := ha n; have := hb n; omega
theorem tick_up {i : Nat} {a : List Int} (h : Bd i a) (hi : i < 1000000) {k : Nat} (hk : k < 6) : Bd (i + 1) (tickL a (k : Int)) ∧ ∀ n, atN a n ≤ atN (tickL a (k : Int)) n := by
  have key : ∀ n, atN (tickL a (k : Int)) n = if n = k then atN a n + 1 else atN a n := by
    intro n
    rw [tick_nat a k (by omega), tickN_at]
    split
    · have := h n; rw [show RowKit.wrap64 (atN a n + 1) = atN a n + 1 from by unfold RowKit.wrap64; omega]
    · rfl
  refine ⟨fun n => ?_, fun n => ?_⟩
  · rw [key]; have := h n; split <;> omega
  · rw [key]; split <;> omega
def k1 : Ky := (1, 0, 0)
def k2 : Ky := (2, 0, 0)
/-- What is known of the lock covers what was touched. -/
structure Cov (i : Nat) (K : Ky → List Int) (ls : LsS) : Prop where
  bd : ∀ y, Bd i (K y)
  sn : ∀ x n, (ls x n).sn ≤ atN (K k1) n
  tn : ∀ x n, (ls x n).tn ≤ max (atN (K k1) n) (atN (K k2) n)
theorem cov0 : Cov 0 kn0.K (fun _ _ => lt0) := ⟨fun y n => by simp [kn0, atN], fun x n => by simp [lt0, kn0, atN], fun x n => by simp [lt0, kn0, atN]⟩
theorem step_K (chans : List Int) (kn : KnS) (e : EvD) : (stepK7 chans kn e).K = toldK (upd kn.K (0, e.th, 0) (clockL chans kn e)) (tellsL kn.S kn.T e) (clockL chans kn e) := rfl
theorem lock_core {chans : List Int} {i : Nat} {kn : KnS} {ls : LsS} (h : Cov i kn.K ls) (hi : i < 100000) {k : Nat} (hk : k < 6) {op x : Int} {e1 e3 : EvD} {c1 : List Int} {u : Ky}
    (h1 : e1.th = k) (hc : clockL chans kn e1 = c1) (ht : ∀ S T, tellsL S T e1 = none) (hb : toB e1 = false)
    (g1 : e3.th = k) (gh : ∀ S T, hearsL chans S T e3 = []) (gt : ∀ S T, tellsL S T e3 = some u) (gb : toB e3 = false)
    (hop : op = 7 ∨ op = 8) (hbd : Bd (i + 1) c1) (up1 : ∀ n, atN (kn.K k1) n ≤ atN c1 n) (up2 : op = 8 → ∀ n, atN (kn.K k2) n ≤ atN c1 n) (hu : u = k1 ∨ (u = k2 ∧ op = 7)) :
    ∃ kn' ls', (∀ r, racesGo chans i (e1 :: ⟨k, 0, op, x, 0, 0⟩ :: e3 :: r) kn ls = racesGo chans (i + 3) r kn' ls') ∧ Cov (i + 3) kn'.K ls' := by
  generalize he2 : (⟨k, 0, op, x, 0, 0⟩ : EvD) = e2
  have h2t : e2.th = (k : Int) := by rw [← he2]
  have h2o : e2.op = op := by rw [← he2]
  have h2b : toB e2 = true := by rw [← he2]; rcases hop with rfl | rfl <;> rfl
  have h2h : ∀ S T, hearsL chans S T e2 = [] := by intro S T; rw [← he2]; rcases hop with rfl | rfl <;> simp [hearsL, tkB, clB, modeS]
  have h2l : ∀ S T, tellsL S T e2 = none := by intro S T; rw [← he2]; rcases hop with rfl | rfl <;> simp [tellsL, tkB, modeS]
  generalize hn1 : stepK7 chans kn e1 = n1
  have K1 : n1.K = upd kn.K (0, (k : Int), 0) c1 := by rw [← hn1, step_K, ht, hc, h1]; rfl
  have hc2 : clockL chans n1 e2 = tickL c1 k := by unfold clockL; rw [h2h, h2t, K1]; simp [upd]
  obtain ⟨b2, u2⟩ := tick_up hbd (by omega) hk
  generalize tickL c1 (k : Int) = c2 at *
  generalize hn2 : stepK7 chans n1 e2 = n2
  have K2 : n2.K = upd n1.K (0, (k : Int), 0) c2 := by rw [← hn2, step_K, h2l, hc2, h2t]; rfl
  have hc3 : clockL chans n2 e3 = tickL c2 k := by unfold clockL; rw [gh, g1, K2]; simp [upd]
  obtain ⟨b3, u3⟩ := tick_up b2 (by omega) hk
  generalize tickL c2 (k : Int) = c3 at *
  generalize hn3 : stepK7 chans n2 e3 = n3
  have K3 : n3.K = tellK (upd n2.K (0, (k : Int), 0) c3) u c3 := by rw [← hn3, step_K, gt, hc3, g1]; rfl
  have hrl : racingL ls e2 c2 = [] := by
    unfold racingL
    rw [List.flatMap_eq_nil_iff]
    intro n _
    unfold racing1
    split
    · rfl
    · rw [if_neg ?_]
      have s1 := h.sn e2.obj n
      have s2 := h.tn e2.obj n
      have q1 := up1 n
      have q2 := u2 n
      unfold agP
      rcases hop with ho | ho
      · rw [if_neg (by rw [h2o, ho]; decide)]; simp only; omega
      · have q3 := up2 ho n
        rw [if_pos (by rw [h2o, ho])]; simp only; omega
  have kk : ∀ y : Ky, n3.K y = if y = u then joinL (kn.K u) c3 else if y = (0, (k : Int), 0) then c3 else kn.K y := by
    intro y
    have hu3 : ¬ u.1 = 3 := by rcases hu with rfl | ⟨rfl, _⟩ <;> decide
    have hu0 : ¬ u = (0, (k : Int), 0) := by rcases hu with rfl | ⟨rfl, _⟩ <;> simp [k1, k2]
    rw [K3, K2, K1]
    unfold tellK
    rw [if_neg hu3]
    simp only [upd, if_neg hu0]
    split
    · rfl
    · split <;> rfl
  have n1' : ∀ n, atN (kn.K k1) n ≤ atN (n3.K k1) n := by
    intro n; rw [kk]
    split
    · rename_i e; rw [← e, join_at]; omega
    · rw [if_neg (by simp [k1])]; omega
  have n2' : ∀ n, atN (kn.K k2) n ≤ atN (n3.K k2) n := by
    intro n; rw [kk]
    split
    · rename_i e; rw [← e, join_at]; omega
    · rw [if_neg (by simp [k2])]; omega
  have hu' : ∀ n, atN c2 n ≤ atN (n3.K u) n := by
    intro n; rw [kk, if_pos rfl, join_at]; have := u3 n; omega
  refine ⟨n3, noteL ls (i + 1) e2 c2, fun r => ?_, ⟨fun y => ?_, fun x' n => ?_, fun x' n => ?_⟩⟩
  · simp only [racesGo, hb, gb, h2b, hn1, hn2, hn3, hc2, hrl]
    simp
  · rw [kk]
    split
    · exact ((h.bd u).mono (by omega)).join b3
    · split
      · exact b3
      · exact (h.bd y).mono (by omega)
  · have := h.sn x' n
    have := n1' n
    by_cases hx : x' = e2.obj
    · by_cases hn : n = e2.th.toNat
      · rcases hop with ho | ho
        · simp only [noteL, upd, if_pos hx, if_pos hn, if_neg (show ¬ e2.op = 8 by rw [h2o, ho]; decide)]
          have := h.sn e2.obj e2.th.toNat
          have := n1' e2.th.toNat
          rw [hn]; omega
        · simp only [noteL, upd, if_pos hx, if_pos hn, if_pos (show e2.op = 8 by rw [h2o, ho])]
          rcases hu with rfl | ⟨_, h7⟩
          · have := hu' n
            rw [h2t, atL_nat]; rw [h2t] at hn; simp at hn; rw [hn] at this ⊢; exact this
          · omega
      · simp only [noteL, upd, if_pos hx, if_neg hn]
        have := h.sn e2.obj n
        omega
    · simp only [noteL, upd, if_neg hx]; omega
  · have := h.tn x' n
    have := n1' n
    have := n2' n
    by_cases hx : x' = e2.obj
    · by_cases hn : n = e2.th.toNat
      · have e : (noteL ls (i + 1) e2 c2 x' n).tn = atN c2 k := by
          simp only [noteL, upd, if_pos hx, if_pos hn]
          split <;> simp only <;> rw [h2t, atL_nat]
        rw [h2t] at hn
        simp at hn
        rw [e, hn]
        have := hu' k
        rcases hu with rfl | ⟨rfl, _⟩ <;> omega
      · simp only [noteL, upd, if_pos hx, if_neg hn]
        have := h.tn e2.obj n
        omega
    · simp only [noteL, upd, if_neg hx]; omega
/-- An access between locking and unlocking, for all or for reading. -/
def tripW (k op x : Int) : List EvD := [⟨k, 0, 13, 0, 0, 0⟩, ⟨k, 0, op, x, 0, 0⟩, ⟨k, 0, 14, 0, 0, 0⟩]
def tripR (k x : Int) : List EvD := [⟨k, 0, 15, 0, 0, 0⟩, ⟨k, 0, 7, x, 0, 0⟩, ⟨k, 0, 16, 0, 0, 0⟩]
def Trip (s : List EvD) : Prop := ∃ (k : Nat) (op x : Int), k < 6 ∧ (op = 7 ∨ op = 8) ∧ (s = tripW k op x ∨ s = tripR k x)
theorem trip_step {chans : List Int} {i : Nat} {kn : KnS} {ls : LsS} (h : Cov i kn.K ls) (hi : i < 100000) {s : List EvD} (hs : Trip s) :
    ∃ kn' ls', (∀ r, racesGo chans i (s ++ r) kn ls = racesGo chans (i + 3) r kn' ls') ∧ Cov (i + 3) kn'.K ls' := by
  obtain ⟨k, op, x, hk, hop, rfl | rfl⟩ := hs
  · obtain ⟨b, u⟩ := tick_up (((h.bd (0, (k : Int), 0)).join (h.bd k1)).join (h.bd k2)) (by omega) hk
    refine lock_core (e1 := ⟨k, 0, 13, 0, 0, 0⟩) (e3 := ⟨k, 0, 14, 0, 0, 0⟩) (u := k1) (op := op) (x := x) h hi hk rfl rfl (fun S T => by simp [tellsL, tkB, modeS]) rfl rfl (fun S T => by simp [hearsL, tkB, clB, modeS]) (fun S T => by simp [tellsL, tkB, modeS, k1]) rfl hop ?_ ?_ ?_ (.inl rfl)
    all_goals
      rw [show clockL chans kn ⟨k, 0, 13, 0, 0, 0⟩ = tickL (joinL (joinL (kn.K (0, (k : Int), 0)) (kn.K k1)) (kn.K k2)) (k : Int) from by simp [clockL, hearsL, k1, k2]]
    · exact b
    · intro n; have := u n; rw [join_at, join_at] at this; omega
    · intro _ n; have := u n; rw [join_at, join_at] at this; omega
  · obtain ⟨b, u⟩ := tick_up ((h.bd (0, (k : Int), 0)).join (h.bd k1)) (by omega) hk
    refine lock_core (e1 := ⟨k, 0, 15, 0, 0, 0⟩) (e3 := ⟨k, 0, 16, 0, 0, 0⟩) (u := k2) (op := 7) (x := x) h hi hk rfl rfl (fun S T => by simp [tellsL, tkB, modeS]) rfl rfl (fun S T => by simp [hearsL, tkB, clB, modeS]) (fun S T => by simp [tellsL, tkB, modeS, k2]) rfl (.inl rfl) ?_ ?_ ?_ (.inr ⟨rfl, rfl⟩)
    all_goals
      try rw [show clockL chans kn ⟨k, 0, 15, 0, 0, 0⟩ = tickL (joinL (kn.K (0, (k : Int), 0)) (kn.K k1)) (k : Int) from by simp [clockL, hearsL, k1]]
    · exact b
    · intro n; have := u n; rw [join_at] at this; omega
    · intro h; exact absurd h (by decide)
theorem trips_none {chans : List Int} : ∀ (L : List (List EvD)) (i : Nat) (kn : KnS) (ls : LsS), (∀ s ∈ L, Trip s) → i + 3 * L.length < 100000 → Cov i kn.K ls → racesGo chans i L.flatten kn ls = []
  | [], _, _, _, _, _, _ => rfl
  | s :: r, i, kn, ls, hL, hi, h => by
    simp only [List.length_cons] at hi
    obtain ⟨kn', ls', hx, hc⟩ := trip_step (chans := chans) h (by omega) (hL s List.mem_cons_self)
    rw [List.flatten_cons, hx]
    exact trips_none r (i + 3) kn' ls' (fun y hy => hL y (List.mem_cons_of_mem _ hy)) (by omega) hc
theorem trips_races {chans : List Int} {L : List (List EvD)} (h : ∀ s ∈ L, Trip s) (hl : L.length ≤ 1000) : racesL chans L.flatten = [] := by
  unfold racesL
  split
  · exact trips_none L 0 kn0 _ h (by omega) cov0
  · rfl
end Go.Proofs.Ytkcimeiokgafiaa
