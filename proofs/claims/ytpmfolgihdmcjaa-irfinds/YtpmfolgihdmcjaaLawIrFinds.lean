/- IrFinds: Find of any name is what the chapter says; for every input. -/
import Derived.Test.YtpmfolgihdmcjaaLawKit
import Derived.Test.YtpmfolgihdmcjaaIrRef2
import Derived.ChangeMaps5
namespace Go.Proofs.Ytpmfolgihdmcjaa
set_option linter.unusedVariables false
set_option linter.unusedSimpArgs false
open Go.ChangeShapes Go.WideShapes Go.ChangeAt Go.RowKit

theorem u8_nat {a : Int} (h : (Lit.int .u8 a).wf = true) : ∃ s : Nat, a = (s : Int) ∧ s < 256 := by
  obtain ⟨h0, h1⟩ := bounds_u8 h
  exact ⟨a.toNat, by omega, by omega⟩

set_option maxHeartbeats 2000000 in
theorem irFinds_over (s : ByteArray) (k : Int) (w : World) (h : 100 < s.size) :
    Calls Try.prog 7 #[.string s, .int .u8 k] w fun e w' => e = .returned (.bool true) ∧ Below w.heap.size w w' := by
  have hd : decide ((100 : Int) < (s.size : Int)) = true := by simp; omega
  go_enter Try.func7, Try.ntmps7
  go_wp2_with (go_at_call 11; refine (known_any _).mono ?_; rintro e w1 ⟨rfl, hB1⟩)
  go_ret
  exact ⟨rfl, hB1⟩

theorem name_found (k : Nat) (hk : k < 28) (w : World) : Calls Try.prog 27 #[.string (rowAt k).name] w fun e w' => e = .returned (.tuple #[.int .u8 k, .bool true]) ∧ Below w.heap.size w w' := by
  have := find_any (rowAt k).name w (name_len k hk)
  rw [(found_at hk rfl).1, (found_at hk rfl).2] at this
  exact this

set_option maxHeartbeats 2000000 in
theorem irFinds_in (s : ByteArray) (k : Nat) (w : World) (h : s.size ≤ 100) (hk : k < 256) :
    Calls Try.prog 7 #[.string s, .int .u8 k] w fun e w' => e = .returned (.bool true) ∧ Below w.heap.size w w' := by
  have hd : decide ((100 : Int) < (s.size : Int)) = false := by simp; omega
  have HN := Lib.hid (fun w => name_any (k % 28) w)
  have HF := Lib.hid (fun w => name_found (k % 28) (by omega) w)
  have hc : ((k % 28 : Nat) : Int) = (k : Int) % 28 := by omega
  rw [hc] at HN HF
  clear hc
  generalize rowAt (k % 28) = r at HN HF
  have HS := Lib.hid (fun w => find_any s w (by unfold maxLen; omega))
  have HR := Lib.hid (fun w => refFind_any s w)
  generalize foundN s = fn at HS HR
  generalize foundB s = fb at HS HR
  cases fb
  all_goals
    go_enter Try.func7, Try.ntmps7
    go_wp2_with (first
      | (go_at_call 11; refine (known_any _).mono ?_; rintro e w1 ⟨rfl, hB1⟩)
      | (go_at_call 27; (with_reducible refine (HS.out _).mono ?_); rintro e w2 ⟨rfl, hB2⟩)
      | (go_at_call 28; refine (HR.out _).mono ?_; rintro e w3 ⟨rfl, hB3⟩)
      | (go_at_call 21; refine (HN.out _).mono ?_; rintro e w4 ⟨rfl, hB4⟩)
      | (go_at_call 27; (with_reducible refine (HF.out _).mono ?_); rintro e w5 ⟨rfl, hB5⟩))
    go_ret
    exact ⟨rfl, below_next (below_next (below_next (below_next hB1 hB2) hB3) hB4) hB5⟩

theorem irFinds_walk (a0 : ByteArray) (a1 : Int) (w : World) (w0 : a0.size ≤ maxLen) (w1 : (Lit.int .u8 a1).wf = true) :
    Calls Try.prog 7 #[.string a0, .int .u8 a1] w fun e w' => e = .returned (.bool true) ∧ Below w.heap.size w w' := by
  by_cases h : 100 < a0.size
  · exact irFinds_over a0 a1 w h
  · obtain ⟨k, rfl, hk⟩ := u8_nat w1
    exact irFinds_in a0 k w (by omega) hk

set_option maxRecDepth 100000 in
theorem irFinds_lifted (os : Os) (started : os.Started) (H : Type) (enc : TypeId × Value → H) :
    ReturnsInHanded {} Try.checked os 7 .any (Rows.irFindsSpec.pre6 enc Try.prog Try.f7 Rows.irFindsRow.domain false) (Rows.irFindsSpec.post enc Try.prog Try.f7 false true false false) := by
  refine returnsInHanded_of_change (C := Try.checked) law_own started (by kernel_rfl) Try.func7
    (ChangeSpec.witness6 (enc := enc) (C := Try.checked) false ⟨#[], #[.string ByteArray.empty, .int .u8 0], []⟩ 8 (by kernel_rfl) (by kernel_rfl) (by kernel_rfl) (by kernel_rfl)) ?_
  intro W base args ds gs before hval0 hW hcnd _
  have hval : ∀ (j : Nat) t v, Try.f7.params[j]? = some t → args[j]? = some v → Value.okWide Try.prog W .any base t v := hval0
  have hW' := hW
  obtain ⟨p, q, hA0, hV, rfl, hfz, hnd⟩ := hW
  have hA : DataW.TrodAll enc Try.prog W 0 (fun _ => true) true Try.f7.params.toList args.toList ds p := hA0
  rw [Try.params7] at hA hval
  obtain ⟨v0, vs0, d0, ds0, p0, q0, hargs, rfl, rfl, h0, r0⟩ := trodAll_cons hA
  obtain ⟨v1, vs1, d1, ds1, p1, q1, rfl, rfl, rfl, h1, r1⟩ := trodAll_cons r0
  obtain ⟨rfl, rfl, rfl⟩ := trodAll_nil r1
  obtain rfl : args = #[v0, v1] := by cases args; simp_all
  obtain ⟨rfl, rfl⟩ := trodVars_none hV
  obtain ⟨a0, rfl, rfl, rfl, w0⟩ := ChangeMaps.open_string Try.underlying9 (hval 0 9 v0 rfl rfl) h0
  obtain ⟨a1, rfl, rfl, rfl, w1⟩ := open_int Try.underlying5 (hval 1 5 v1 rfl rfl) h1
  clear hA0 hval0
  refine (irFinds_walk a0 a1 W w0 w1).mono fun e W' ⟨he, bel⟩ => ?_
  subst he
  exact ⟨_, rfl, _, _, _, [], _, [], hW', trodAll_mk1 (shut_bool Try.underlying4 _), (trodAll_cons_mk (ChangeMaps.shut_string Try.underlying9 w0) (trodAll_cons_mk (shut_int Try.underlying5 w1) trodAll_mk0)), rfl, bel.frame _, fun h => by cases h⟩

/-- The statement. -/
theorem irFinds_holds : Rows.IrFindsSaid :=
  OpenClaim.holds_of_wide 7 Try.f7 rfl rfl rfl rfl rfl rfl rfl ⟨rfl, rfl, rfl, rfl, rfl⟩ rfl rfl rfl rfl rfl (by kernel_rfl) Try.func7 (by kernel_rfl)
    (of_decide_eq_true (by kernel_rfl)) (by unfold Func.isWrapper; first | (rw [if_pos (by decide +kernel)]; kernel_rfl) | (rw [if_neg (by decide +kernel)]; exact ⟨rfl, rfl⟩))
    (fun os started H enc _ => irFinds_lifted os started H enc)

end Go.Proofs.Ytpmfolgihdmcjaa
