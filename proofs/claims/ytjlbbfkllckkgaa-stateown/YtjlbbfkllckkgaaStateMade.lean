/- A state of a program of choices. -/
import Derived.Test.YtjlbbfkllckkgaaStateKnown
import Derived.Test.YtjlbbfkllckkgaaOpenRows
namespace Go.Proofs.Ytjlbbfkllckkgaa
set_option linter.unusedVariables false
set_option linter.unusedSimpArgs false
set_option maxRecDepth 100000
open Go.ChangeShapes Go.WideShapes Go.ChangeAt Go.RowKit

theorem made_good {cs : List (List InsD)} (h1 : 1 ≤ cs.length) (h3 : cs.length ≤ 3) (hG : ∀ c ∈ cs, GoodCode cs.length c) : soundE (madeD cs) = 0 :=
  made_ok cs cs.length h1 (by omega) (Nat.le_refl _) fun c hc => ⟨by have := (hG c hc).1; omega, (hG c hc).2⟩
theorem made_new {u : World} {base g : Nat} {tv : Value} {vs : List Value} {cs : List (List InsD)} {t : TypeId} {fr : Nat × Nat} (h : OwnThreads u base tv vs cs) (hc : u.heap[g]? = some (.cells #[.int .i64 1] t fr)) (h1 : 1 ≤ cs.length) (h3 : cs.length ≤ 3) (hG : ∀ c ∈ cs, GoodCode cs.length c) :
    Calls Try.prog 9 #[.agg #[.int .i64 2, .int .i64 1, .int .i64 1, .slice (some ⟨g, 0, none⟩) 1 1, .int .i64 1, .int .i64 1, tv]] u fun e w' => ∃ b, e = .returned (.pointer (some ⟨b, 0, none⟩)) ∧ Below u.heap.size u w' ∧ u.heap.size ≤ b ∧ StIn w' b (b + 1) w'.heap.size (.slice none 0 0) (newM [1]) cs [] := by
  obtain ⟨ta, tcap, rfl, hp⟩ := made_in h hc (by omega)
  exact new_yes (madeD cs) (some ⟨g, 0, none⟩) 1 ta tcap u hp (made_good h1 h3 hG)
theorem made_inv {cs : List (List InsD)} (h1 : 1 ≤ cs.length) (h3 : cs.length ≤ 3) (hG : ∀ c ∈ cs, GoodCode cs.length c) : Inv (newM [1]) cs := inv_new (p := madeD cs) (made_good h1 h3 hG)
theorem bytes_of {w : World} {a : Option Addr} {len cap : Nat} {l : List Int} (h : SliceIn .u8 w a len cap l) : RowOf .u8 w w.heap.size a l ∧ (∀ n ∈ l, 0 ≤ n ∧ n < 256) ∧ l.length ≤ 9223372036854775807 ∧ len = l.length := by
  refine ⟨h.row, fun n hn => ?_, ?_, h.len_eq⟩
  · obtain ⟨q0, q1⟩ := bounds_u8 (h.fit n hn); omega
  · have h1 := h.len_eq
    have h2 := h.len_le
    have h3 := h.cap_le
    unfold maxLen at h3; omega
theorem stepV_no {code : List (List InsD)} {m : Nat → Int} {k : Int} (h : canM code m k = false) : stepV code m k = evV 0 0 0 0 0 0 := by simp [stepV, h]
theorem stepM_no {code : List (List InsD)} {m : Nat → Int} {k : Int} (h : canM code m k = false) : stepM code m k = m := by simp [stepM, h]
theorem stepT_no {code : List (List InsD)} {m : Nat → Int} {k : Int} (h : canM code m k = false) : stepT code m k = [] := by simp [stepT, h]
theorem stepV_shape (code : List (List InsD)) (m : Nat → Int) (k : Int) : ∃ e0 e1 e2 e3 e4 e5, stepV code m k = evV e0 e1 e2 e3 e4 e5 := by
  unfold stepV
  split
  · split
    · exact ⟨_, _, _, _, _, _, rfl⟩
    · exact ⟨_, _, _, _, _, _, rfl⟩
  · exact ⟨_, _, _, _, _, _, rfl⟩
end Go.Proofs.Ytjlbbfkllckkgaa
