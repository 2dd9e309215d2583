/- IrOnce: what is plain neither lets know, nor is let know; each name is one's alone; for every input. -/
import Derived.Test.YtpmfolgihdmcjaaLawKit
import Derived.Test.YtpmfolgihdmcjaaIrKnown
namespace Go.Proofs.Ytpmfolgihdmcjaa
set_option linter.unusedVariables false
set_option linter.unusedSimpArgs false
open Go.ChangeShapes Go.WideShapes Go.ChangeAt Go.RowKit

theorem u8_in {a : Int} (h : (Lit.int .u8 a).wf = true) : ∃ s : Nat, a = (s : Int) ∧ s < 256 := by
  obtain ⟨h0, h1⟩ := bounds_u8 h
  exact ⟨a.toNat, by omega, by omega⟩

theorem plain_all : (List.range 28).all (fun k => !(rowAt k).plain || (!(rowAt k).acq && !(rowAt k).rel)) = true := by decide
theorem plain_not (k : Nat) (h : (rowAt k).plain = true) : (rowAt k).acq = false ∧ (rowAt k).rel = false := by
  rcases Nat.lt_or_ge k 28 with hk | hk
  · have := List.all_eq_true.1 plain_all k (by simpa using hk)
    simpa [h] using this
  · rw [rowAt_out k hk]; exact ⟨rfl, rfl⟩
theorem name_some : (List.range 28).all (fun k => !(rowAt k).name.data.toList.isEmpty) = true := by decide
theorem name_ne (k : Nat) (h : k < 28) : (rowAt k).name ≠ ⟨#[]⟩ := fun e => by
  have := List.all_eq_true.1 name_some k (by simpa using h)
  rw [e] at this; simp at this
theorem name_diff : (List.range 28).all (fun i => (List.range 28).all fun k => decide (i = k) || !decide ((rowAt i).name.data.toList = (rowAt k).name.data.toList)) = true := by decide
theorem name_inj (i k : Nat) (hi : i < 28) (hk : k < 28) (h : (rowAt i).name = (rowAt k).name) : i = k := by
  have := List.all_eq_true.1 (List.all_eq_true.1 name_diff i (by simpa using hi)) k (by simpa using hk)
  simpa [h] using this

theorem toList_data (s : ByteArray) : s.toList = s.data.toList := ByteArray.toList_eq s
/-- The walk, its tests decided ahead. -/
theorem irOnce_at (a b : Nat) (s t : ByteArray) (n m : Int) (qa qb q pl aq rl : Bool) (w : World)
    (H1 : ∀ w, Calls Try.prog 21 #[.int .u8 a] w fun e w' => e = .returned (.tuple #[.string s, .int .i64 n]) ∧ Below w.heap.size w w')
    (H2 : ∀ w, Calls Try.prog 21 #[.int .u8 b] w fun e w' => e = .returned (.tuple #[.string t, .int .i64 m]) ∧ Below w.heap.size w w')
    (H3 : ∀ w, Calls Try.prog 15 #[.int .u8 a] w fun e w' => e = .returned (.bool pl) ∧ Below w.heap.size w w')
    (H4 : ∀ w, Calls Try.prog 17 #[.int .u8 a] w fun e w' => e = .returned (.bool aq) ∧ Below w.heap.size w w')
    (H5 : ∀ w, Calls Try.prog 19 #[.int .u8 a] w fun e w' => e = .returned (.bool rl) ∧ Below w.heap.size w w')
    (h1 : decide ((27 : Int) < (a : Int)) = qa) (h2 : s.toList.isEmpty = qa) (h3 : decide ((27 : Int) < (b : Int)) = qb) (h4 : qa = false → qb = false → (s.toList == t.toList) = q) (h5 : qa = false → qb = false → ((a : Int) == (b : Int)) = q)
    (h6 : n ≤ 3) (h7 : pl = true → aq = false) (h8 : pl = true → rl = false) :
    Calls Try.prog 9 #[.int .u8 a, .int .u8 b] w fun e w' => e = .returned (.bool true) ∧ Below w.heap.size w w' := by
  have K1 := Lib.hid H1
  have K2 := Lib.hid H2
  have K3 := Lib.hid H3
  have K4 := Lib.hid H4
  have K5 := Lib.hid H5
  have E7 := Lib.hid h7
  have E8 := Lib.hid h8
  have E4 := Lib.hid h4
  have E5 := Lib.hid h5
  have h6' : decide (n ≤ 3) = true := by simp [h6]
  clear H1 H2 H3 H4 H5 h7 h8 h4 h5
  cases pl
  · clear E7 E8
    cases qa
    · cases qb
      · have g4 := E4.out rfl rfl
        have g5 := E5.out rfl rfl
        clear E4 E5
        cases q
        all_goals
          go_enter Try.func9, Try.ntmps9
          go_wp2_with (first
            | (go_at_call 21; (with_reducible refine (K1.out _).mono ?_); rintro e w1 ⟨rfl, hB1⟩)
            | (go_at_call 21; (with_reducible refine (K2.out _).mono ?_); rintro e w2 ⟨rfl, hB2⟩)
            | (go_at_call 11; refine (known_any _).mono ?_; rintro e w3 ⟨rfl, hB3⟩)
            | (go_at_call 15; refine (K3.out _).mono ?_; rintro e w4 ⟨rfl, hB4⟩))
          go_ret
          exact ⟨rfl, below_next (below_next (below_next hB1 hB2) hB3) hB4⟩
      · clear E4 E5
        go_enter Try.func9, Try.ntmps9
        go_wp2_with (first
          | (go_at_call 21; (with_reducible refine (K1.out _).mono ?_); rintro e w1 ⟨rfl, hB1⟩)
          | (go_at_call 21; (with_reducible refine (K2.out _).mono ?_); rintro e w2 ⟨rfl, hB2⟩)
          | (go_at_call 11; refine (known_any _).mono ?_; rintro e w3 ⟨rfl, hB3⟩)
          | (go_at_call 15; refine (K3.out _).mono ?_; rintro e w4 ⟨rfl, hB4⟩))
        go_ret
        exact ⟨rfl, below_next (below_next (below_next hB1 hB2) hB3) hB4⟩
    · clear E4 E5
      cases qb
      all_goals
        go_enter Try.func9, Try.ntmps9
        go_wp2_with (first
          | (go_at_call 21; (with_reducible refine (K1.out _).mono ?_); rintro e w1 ⟨rfl, hB1⟩)
          | (go_at_call 21; (with_reducible refine (K2.out _).mono ?_); rintro e w2 ⟨rfl, hB2⟩)
          | (go_at_call 11; refine (known_any _).mono ?_; rintro e w3 ⟨rfl, hB3⟩)
          | (go_at_call 15; refine (K3.out _).mono ?_; rintro e w4 ⟨rfl, hB4⟩))
        go_ret
        exact ⟨rfl, below_next (below_next (below_next hB1 hB2) hB3) hB4⟩
  · obtain rfl := E7.out rfl
    obtain rfl := E8.out rfl
    clear E7 E8
    cases qa
    · cases qb
      · have g4 := E4.out rfl rfl
        have g5 := E5.out rfl rfl
        clear E4 E5
        cases q
        all_goals
          go_enter Try.func9, Try.ntmps9
          go_wp2_with (first
            | (go_at_call 21; (with_reducible refine (K1.out _).mono ?_); rintro e w1 ⟨rfl, hB1⟩)
            | (go_at_call 21; (with_reducible refine (K2.out _).mono ?_); rintro e w2 ⟨rfl, hB2⟩)
            | (go_at_call 11; refine (known_any _).mono ?_; rintro e w3 ⟨rfl, hB3⟩)
            | (go_at_call 15; refine (K3.out _).mono ?_; rintro e w4 ⟨rfl, hB4⟩)
            | (go_at_call 17; refine (K4.out _).mono ?_; rintro e w5 ⟨rfl, hB5⟩)
            | (go_at_call 19; refine (K5.out _).mono ?_; rintro e w6 ⟨rfl, hB6⟩))
          go_ret
          exact ⟨rfl, below_next (below_next (below_next (below_next (below_next hB1 hB2) hB3) hB4) hB5) hB6⟩
      · clear E4 E5
        go_enter Try.func9, Try.ntmps9
        go_wp2_with (first
          | (go_at_call 21; (with_reducible refine (K1.out _).mono ?_); rintro e w1 ⟨rfl, hB1⟩)
          | (go_at_call 21; (with_reducible refine (K2.out _).mono ?_); rintro e w2 ⟨rfl, hB2⟩)
          | (go_at_call 11; refine (known_any _).mono ?_; rintro e w3 ⟨rfl, hB3⟩)
          | (go_at_call 15; refine (K3.out _).mono ?_; rintro e w4 ⟨rfl, hB4⟩)
          | (go_at_call 17; refine (K4.out _).mono ?_; rintro e w5 ⟨rfl, hB5⟩)
          | (go_at_call 19; refine (K5.out _).mono ?_; rintro e w6 ⟨rfl, hB6⟩))
        go_ret
        exact ⟨rfl, below_next (below_next (below_next (below_next (below_next hB1 hB2) hB3) hB4) hB5) hB6⟩
    · clear E4 E5
      cases qb
      all_goals
        go_enter Try.func9, Try.ntmps9
        go_wp2_with (first
          | (go_at_call 21; (with_reducible refine (K1.out _).mono ?_); rintro e w1 ⟨rfl, hB1⟩)
          | (go_at_call 21; (with_reducible refine (K2.out _).mono ?_); rintro e w2 ⟨rfl, hB2⟩)
          | (go_at_call 11; refine (known_any _).mono ?_; rintro e w3 ⟨rfl, hB3⟩)
          | (go_at_call 15; refine (K3.out _).mono ?_; rintro e w4 ⟨rfl, hB4⟩)
          | (go_at_call 17; refine (K4.out _).mono ?_; rintro e w5 ⟨rfl, hB5⟩)
          | (go_at_call 19; refine (K5.out _).mono ?_; rintro e w6 ⟨rfl, hB6⟩))
        go_ret
        exact ⟨rfl, below_next (below_next (below_next (below_next (below_next hB1 hB2) hB3) hB4) hB5) hB6⟩

theorem irOnce_walk (a0 a1 : Int) (w : World) (w0 : (Lit.int .u8 a0).wf = true) (w1 : (Lit.int .u8 a1).wf = true) :
    Calls Try.prog 9 #[.int .u8 a0, .int .u8 a1] w fun e w' => e = .returned (.bool true) ∧ Below w.heap.size w w' := by
  obtain ⟨a, rfl, ha⟩ := u8_in w0
  obtain ⟨b, rfl, hb⟩ := u8_in w1
  refine irOnce_at a b _ _ _ _ (decide (27 < a)) (decide (27 < b)) (decide (a = b)) _ _ _ w (name_any a) (name_any b) (plain_any a) (acquire_any a) (release_any a) ?_ ?_ ?_ ?_ ?_ (cnt_bound _ 3).2 (fun h => (plain_not a h).1) (fun h => (plain_not a h).2)
  · exact decide_eq_decide.2 (by omega)
  · rw [toList_data]
    by_cases h : 27 < a
    · rw [rowAt_out a (by omega)]; simp [h, noRow]
    · have := name_ne a (by omega)
      rw [decide_eq_false h, List.isEmpty_eq_false_iff]
      intro e
      refine this ?_
      cases hn : (rowAt a).name with | mk d => rw [hn] at e; simp at e; rw [e]
  · exact decide_eq_decide.2 (by omega)
  · intro h1 h2
    have h1' : a < 28 := by have := of_decide_eq_false h1; omega
    have h2' : b < 28 := by have := of_decide_eq_false h2; omega
    rw [toList_data, toList_data]
    by_cases e : a = b
    · subst e; simp
    · rw [decide_eq_false e, beq_eq_false_iff_ne]
      intro h
      refine e (name_inj a b h1' h2' ?_)
      cases h3 : (rowAt a).name with | mk d => cases h4 : (rowAt b).name with | mk d' =>
        rw [h3, h4] at h
        simp at h; rw [h]
  · intro _ _
    by_cases e : a = b
    · subst e; simp
    · rw [decide_eq_false e, beq_eq_false_iff_ne]; omega

set_option maxRecDepth 100000 in
theorem irOnce_lifted (os : Os) (started : os.Started) (H : Type) (enc : TypeId × Value → H) :
    ReturnsInHanded {} Try.checked os 9 .any (Rows.irOnceSpec.pre6 enc Try.prog Try.f9 Rows.irOnceRow.domain false) (Rows.irOnceSpec.post enc Try.prog Try.f9 false true false false) := by
  refine returnsInHanded_of_change (C := Try.checked) law_own started (by kernel_rfl) Try.func9
    (ChangeSpec.witness6 (enc := enc) (C := Try.checked) false ⟨#[], #[.int .u8 0, .int .u8 0], []⟩ 8 (by kernel_rfl) (by kernel_rfl) (by kernel_rfl) (by kernel_rfl)) ?_
  intro W base args ds gs before hval0 hW hcnd _
  have hval : ∀ (j : Nat) t v, Try.f9.params[j]? = some t → args[j]? = some v → Value.okWide Try.prog W .any base t v := hval0
  have hW' := hW
  obtain ⟨p, q, hA0, hV, rfl, hfz, hnd⟩ := hW
  have hA : DataW.TrodAll enc Try.prog W 0 (fun _ => true) true Try.f9.params.toList args.toList ds p := hA0
  rw [Try.params9] at hA hval
  obtain ⟨v0, vs0, d0, ds0, p0, q0, hargs, rfl, rfl, h0, r0⟩ := trodAll_cons hA
  obtain ⟨v1, vs1, d1, ds1, p1, q1, rfl, rfl, rfl, h1, r1⟩ := trodAll_cons r0
  obtain ⟨rfl, rfl, rfl⟩ := trodAll_nil r1
  obtain rfl : args = #[v0, v1] := by cases args; simp_all
  obtain ⟨rfl, rfl⟩ := trodVars_none hV
  obtain ⟨a0, rfl, rfl, rfl, w0⟩ := open_int Try.underlying5 (hval 0 5 v0 rfl rfl) h0
  obtain ⟨a1, rfl, rfl, rfl, w1⟩ := open_int Try.underlying5 (hval 1 5 v1 rfl rfl) h1
  clear hA0 hval0
  refine (irOnce_walk a0 a1 W w0 w1).mono fun e W' ⟨he, bel⟩ => ?_
  subst he
  exact ⟨_, rfl, _, _, _, [], _, [], hW', trodAll_mk1 (shut_bool Try.underlying4 _), (trodAll_cons_mk (shut_int Try.underlying5 w0) (trodAll_cons_mk (shut_int Try.underlying5 w1) trodAll_mk0)), rfl, bel.frame _, fun h => by cases h⟩

/-- The statement. -/
theorem irOnce_holds : Rows.IrOnceSaid :=
  OpenClaim.holds_of_wide 9 Try.f9 rfl rfl rfl rfl rfl rfl rfl ⟨rfl, rfl, rfl, rfl, rfl⟩ rfl rfl rfl rfl rfl (by kernel_rfl) Try.func9 (by kernel_rfl)
    (of_decide_eq_true (by kernel_rfl)) (by unfold Func.isWrapper; first | (rw [if_pos (by decide +kernel)]; kernel_rfl) | (rw [if_neg (by decide +kernel)]; exact ⟨rfl, rfl⟩))
    (fun os started H enc _ => irOnce_lifted os started H enc)

end Go.Proofs.Ytpmfolgihdmcjaa
