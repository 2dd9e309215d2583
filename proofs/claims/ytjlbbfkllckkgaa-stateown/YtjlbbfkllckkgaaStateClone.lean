/- slices.Clone, of numbers and of instructions. -/
import Derived.Test.YtjlbbfkllckkgaaProgKit
namespace Go.Proofs.Ytjlbbfkllckkgaa
set_option linter.unusedVariables false
set_option linter.unusedSimpArgs false
set_option maxRecDepth 100000
open Go.ChangeShapes Go.WideShapes Go.ChangeAt Go.RowKit

theorem eql_nil_ins (w : World) (a : Option Addr) (n c : Nat) : (binOp .eql 25 (.slice a n c) (.slice none 0 0)).run Try.prog w = .ok (.bool a.isNone) w := by cases a <;> rfl
theorem eql_nil_int (w : World) (a : Option Addr) (n c : Nat) : (binOp .eql 27 (.slice a n c) (.slice none 0 0)).run Try.prog w = .ok (.bool a.isNone) w := by cases a <;> rfl
theorem info_intT : (Try.prog.info? 3).map (fun i => (i.zero, i.size, i.bytes)) = some (some (.int .i64 0), 1, 8) := by kernel_rfl
theorem own_base {w : World} {base base' : Nat} {e : TypeId} {s : Nat} {v : Value} {n : Nat} {xs : List Value} (h : w.ownsRow base e s v n xs) (hb : base' ≤ base) : w.ownsRow base' e s v n xs := by
  refine ⟨h.1, ?_⟩
  rcases h.2 with q | ⟨g, cap, cur, rfl, h1, hh, hr⟩
  · exact .inl q
  · exact .inr ⟨g, cap, cur, rfl, by omega, hh, hr⟩
/-- The cells of code that lies somewhere. -/
theorem cells_code {w : World} {B : Nat} {ad : Addr} {c : List InsD} (h : CodeIn w B (some ad) c) : ∀ j u, (codeCells c)[j]? = some u → w.cell? (ad.add j) = some u := by
  intro j u hj
  have hl := (List.getElem?_eq_some_iff.1 hj).1
  rw [codeCells_len] at hl
  obtain ⟨x, hx⟩ := at_lt (l := c) (k := j / 4) (by omega)
  obtain ⟨g, off, e, _, i0, i1, i2, i3⟩ := h _ x hx
  cases e
  have hm : j % 4 < 4 := by omega
  rw [show j = j / 4 * 4 + j % 4 by omega, codeCells_at c _ x hx _ hm] at hj
  rw [Addr.add_mid]
  rcases hr : j % 4 with _ | _ | _ | _ | r
  · rw [show off + j = off + j / 4 * 4 by omega, i0]; simpa [hr, insCells] using hj
  · rw [show off + j = off + j / 4 * 4 + 1 by omega, i1]; simpa [hr, insCells] using hj
  · rw [show off + j = off + j / 4 * 4 + 2 by omega, i2]; simpa [hr, insCells] using hj
  · rw [show off + j = off + j / 4 * 4 + 3 by omega, i3]; simpa [hr, insCells] using hj
  · omega
theorem code_one (c : List InsD) : ∀ u ∈ codeCells c, u.oneCell' = true := by
  intro u hu
  obtain ⟨x, _, hx⟩ := List.mem_flatMap.1 hu
  exact ins_one x u hx

set_option maxHeartbeats 400000 in
theorem cloneIns_any (a : Option Addr) (cap : Nat) (c : List InsD) (B : Nat) (w : World) (hc : CodeIn w B a c) (hl : c.length ≤ 1000) :
    Calls Try.prog 22 #[.slice a c.length cap] w fun e w' => ∃ v, e = .returned v ∧ w'.ownsRow w.heap.size 24 4 v c.length (codeCells c) ∧ Below w.heap.size w w' := by
  obtain ⟨i0, hi, hz0, hz1, hz2⟩ : ∃ i, Try.prog.info? 24 = some i ∧ i.zero = some (.agg #[.int .u8 0, .int .i64 0, .int .i64 0, .int .i64 0]) ∧ i.size = 4 ∧ i.bytes = 32 := by
    have := info_insT
    cases h : Try.prog.info? 24 with
    | none => simp [h] at this
    | some i => exact ⟨i, rfl, by simpa [h] using congrArg (·.map (·.1)) this, by simpa [h] using congrArg (·.map (·.2.1)) this, by simpa [h] using congrArg (·.map (·.2.2)) this⟩
  have HE := Lib.hid (fun w n c => eql_nil_ins w a n c)
  cases a with
  | none =>
    have h0 : c = [] := by
      rcases c with _ | ⟨x, r⟩
      · rfl
      · obtain ⟨g, off, e, _⟩ := hc 0 x rfl; cases e
    subst h0
    go_enter Try.func22, Try.ntmps22
    go_wp2_with (first | (rw [eql_nil_ins]; go_simp))
    go_ret
    exact ⟨_, rfl, World.ownsRow_nil _ _ _ _, Below.refl _ _⟩
  | some ad =>
    have HC := Lib.hid (cells_code hc)
    have HL := Lib.hid hl
    clear hc
    go_enter Try.func22, Try.ntmps22
    go_wp2_with (first | (rw [eql_nil_ins]; go_simp) | (refine wpList_append_own_at _ rfl _ _ 25 rfl w.heap.size 24 i0 _ 4 32 Try.underlying25 hi hz0 hz1 hz2 rfl (by decide) _ 0 [] rfl (World.ownsRow_made w #[] 0 (Nat.le_refl _) (Nat.zero_le _) rfl) ad c.length cap (codeCells c) rfl (codeCells_len c) (fun j u hj => Lib.cell?_alloc_some _ (HC.out j u hj)) (code_one c) (by unfold maxLen; omega) (by omega) (by simp) ?_; intro v' w1 hown hgrow hnil hat))
    go_ret
    refine ⟨v', rfl, by simpa using hown, ?_⟩
    exact ((Below.refl _ w).alloc (Nat.le_refl _) _).grown hgrow (by simp) (by intro k hk; cases hk; exact Nat.le_refl _)

set_option maxHeartbeats 400000 in
theorem cloneInt_any {B : Nat} (pv : Value) (l : List Int) (w : World) (ho : w.ownsRow B 3 1 pv l.length (l.map (.int .i64 ·))) (hl : l.length ≤ 2000000) :
    Calls Try.prog 27 #[pv] w fun e w' => ∃ v, e = .returned v ∧ w'.ownsRow w.heap.size 3 1 v l.length (l.map (.int .i64 ·)) ∧ Below w.heap.size w w' := by
  obtain ⟨i0, hi, hz0, hz1, hz2⟩ : ∃ i, Try.prog.info? 3 = some i ∧ i.zero = some (.int .i64 0) ∧ i.size = 1 ∧ i.bytes = 8 := by
    have := info_intT
    cases h : Try.prog.info? 3 with
    | none => simp [h] at this
    | some i => exact ⟨i, rfl, by simpa [h] using congrArg (·.map (·.1)) this, by simpa [h] using congrArg (·.map (·.2.1)) this, by simpa [h] using congrArg (·.map (·.2.2)) this⟩
  rcases ho.2 with ⟨rfl, h0⟩ | ⟨g, cap, cur, rfl, hb, hh, hle, hcap, hsz, ht⟩
  · obtain rfl : l = [] := List.eq_nil_of_length_eq_zero h0
    clear ho
    go_enter Try.func27, Try.ntmps27
    go_wp2_with (first | (rw [eql_nil_int]; go_simp))
    go_ret
    exact ⟨_, rfl, World.ownsRow_nil _ _ _ _, Below.refl _ _⟩
  · have hc : ∀ j u, (l.map (Value.int .i64 ·))[j]? = some u → w.cell? ((⟨g, 0, none⟩ : Addr).add j) = some u := by
      intro j u hj
      have hjl := (List.getElem?_eq_some_iff.1 hj).1
      simp at hjl
      rw [Addr.add_mid, Nat.zero_add, cell_of_row _ _ _ _ _ _ hh]
      rw [← ht, List.getElem?_take_of_lt (by omega)] at hj
      simpa using hj
    have HC := Lib.hid hc
    clear hc ho hh ht
    go_enter Try.func27, Try.ntmps27
    go_wp2_with (first | (rw [eql_nil_int]; go_simp) | (refine wpList_append_own_at _ rfl _ _ 27 rfl w.heap.size 3 i0 _ 1 8 Try.underlying27 hi hz0 hz1 hz2 rfl (by decide) _ 0 [] rfl (World.ownsRow_made w #[] 0 (Nat.le_refl _) (Nat.zero_le _) rfl) ⟨g, 0, none⟩ l.length cap (l.map (.int .i64 ·)) rfl (by simp) (fun j u hj => Lib.cell?_alloc_some _ (HC.out j u hj)) (fun u hu => by obtain ⟨x, _, rfl⟩ := List.mem_map.1 hu; rfl) (by unfold maxLen; omega) (by omega) (by simp) ?_; intro v' w1 hown hgrow hnil hat))
    go_ret
    refine ⟨v', rfl, by simpa using hown, ?_⟩
    exact ((Below.refl _ w).alloc (Nat.le_refl _) _).grown hgrow (by simp) (by intro k hk; cases hk; exact Nat.le_refl _)
end Go.Proofs.Ytjlbbfkllckkgaa
