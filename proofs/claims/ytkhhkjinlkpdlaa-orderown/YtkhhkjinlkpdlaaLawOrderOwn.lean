/- OrderOwn: of one thread all events are in order; of two that have nothing else in common none are; for every input. -/
import Derived.Test.YtkhhkjinlkpdlaaOrderTrace
import Derived.Test.YtkhhkjinlkpdlaaOpenRaws
import Derived.Test.YtkhhkjinlkpdlaaOrderOwnM
namespace Go.Proofs.Ytkhhkjinlkpdlaa
set_option linter.unusedVariables false
set_option linter.unusedSimpArgs false
open Go.ChangeShapes Go.WideShapes Go.ChangeAt Go.RowKit

theorem own_nums {A : Nat} (hA : A ≤ 255) : (A : Int) % 25 = ((A % 25 : Nat) : Int) ∧ (A : Int).tmod 25 = ((A % 25 : Nat) : Int) ∧ A % 25 < 25 :=
  ⟨by simp, by rw [Int.tmod_eq_emod_of_nonneg (by omega)]; simp, Nat.mod_lt _ (by omega)⟩
set_option maxRecDepth 100000 in
set_option maxHeartbeats 4000000 in
theorem orderOwn_walk (ra : Option Addr) (rc : Nat) (l : List (Nat × Nat)) (x y : Int) (w : World) (h : RawIn w ra l) (hl : l.length ≤ 9223372036854775807) (hx : (Lit.int .u8 x).wf = true) (hy : (Lit.int .u8 y).wf = true) :
    Calls Try.prog 7 #[.slice ra l.length rc, .int .u8 x, .int .u8 y] w fun e w' => e = .returned (.bool true) ∧ Below w.heap.size w w' := by
  obtain ⟨x0, x1⟩ := bounds_u8 hx
  obtain ⟨y0, y1⟩ := bounds_u8 hy
  clear hx hy
  obtain ⟨x, rfl⟩ : ∃ q : Nat, x = q := ⟨x.toNat, by omega⟩
  obtain ⟨y, rfl⟩ : ∃ q : Nat, y = q := ⟨y.toNat, by omega⟩
  have HT := Lib.hid (trace_any ra rc l w h hl)
  have HKW := Lib.hid (fun V => known7_any V)
  obtain ⟨m0, m1, m2⟩ := own_nums (A := x) (by omega)
  obtain ⟨i0, i1, i2⟩ := own_nums (A := y) (by omega)
  generalize hI : x % 25 = I at *
  generalize hJ : y % 25 = J at *
  clear h hI hJ
  go_enter Try.func7, Try.ntmps7
  go_wp2_with (go_at_call 10; refine HT.out.mono ?_; rintro e V1 ⟨v, rfl, xa, xc, rfl, hxc, hxo, hxB⟩)
  have HXB := Lib.hid hxB
  have HXO := Lib.hid hxo
  have htl : (trL l).length ≤ 1000 := by rw [trL_len]; omega
  have HWF := Lib.hid (trL_wf l)
  generalize htn : (trL l).length = n at *
  generalize htr : trL l = tr at *
  have HTN := Lib.hid htn
  clear hxo hxB HT htn htr
  go_loopw [8] (fun i V => ∃ q : Nat, q ≤ n ∧ i = .int .i64 q ∧ V.ownsRow w.heap.size 24 6 (.slice xa n xc) n (evsCells (ownL q tr)) ∧ Below w.heap.size w V) (fun i _ => n - (intOf i).toNat)
  case atStart => exact ⟨0, Nat.zero_le _, rfl, by rw [ownL_zero]; exact HXO.out, HXB.out⟩
  case round =>
    obtain ⟨q, hq, rfl, hxo, hxB⟩ := hrel
    have HO := Lib.hid hxo
    have HB := Lib.hid hxB
    clear hxo hxB
    by_cases hlt : q < n
    · have hlt' : (q : Int) < (n : Int) := by omega
      obtain ⟨e, he⟩ := at_lt (l := tr) (k := q) (by rw [HTN.out]; exact hlt)
      have HE := Lib.hid he
      obtain ⟨g, rfl, hgb, c0, c2, cf⟩ := own_ev HO.out (ownL_at he)
      have HGB := Lib.hid hgb
      clear he
      by_cases h7 : e.op = 7
      · have h7' : (e.op != 7) = false := by simp [h7]
        go_wp2_with fail
        go_roundw
        case rel => exact ⟨q + 1, by omega, by go_num, by rw [ownL_keep HE.out (.inl h7)]; exact HO.out, HB.out⟩
        case measure => simp [intOf]; omega
      · have h7' : (e.op != 7) = true := by simp [h7]
        by_cases h8 : e.op = 8
        · have h8' : (e.op != 8) = false := by simp [h8]
          go_wp2_with fail
          go_roundw
          case rel => exact ⟨q + 1, by omega, by go_num, by rw [ownL_keep HE.out (.inr h8)]; exact HO.out, HB.out⟩
          case measure => simp [intOf]; omega
        · have h8' : (e.op != 8) = true := by simp [h8]
          go_wp2_with fail
          go_roundw
          case rel => exact ⟨q + 1, by omega, by go_num, by rw [← ownL_put HE.out (by rintro (h | h) <;> contradiction)]; exact own_put HO.out rfl (by omega) _, HB.out.setCell (p := ⟨g, q * 6 + 2, none⟩) HGB.out _⟩
          case measure => simp [intOf]; omega
    · obtain rfl : q = n := by omega
      have HLN : Hid ((ownL q tr).length = q) := Lib.hid (by rw [ownL_len _ _ (by rw [HTN.out]; omega), HTN.out])
      have HAL : Hid (∀ e ∈ ownL q tr, OpW e) := Lib.hid (by have := ownL_all (t := tr); rw [HTN.out] at this; exact this)
      have HWL : Hid (∀ e ∈ ownL q tr, EvW e) := Lib.hid (by have := ownL_wf HWF.out; rw [HTN.out] at this; exact this)
      have HOE := Lib.hid (fun (k : Nat) (e : EvD) (hk : (ownL q tr)[k]? = some e) => own_ev HO.out hk)
      have HEV := Lib.hid (evsIn_own HO.out)
      generalize ownL q tr = T at *
      clear HTN HWF HO
      have HBF := Lib.hid (fun V (hB : Below wr.heap.size wr V) => before0 xa xc T (I : Int) (J : Int) V (HEV.out.later hB) HWL.out (by rw [HLN.out]; omega) (by rw [HLN.out]; exact hxc))
      rw [HLN.out] at HBF
      by_cases hc : I < J ∧ J < q
      · obtain ⟨hc1, hc2⟩ := hc
        obtain ⟨eI, hI⟩ := at_lt (l := T) (k := I) (by rw [HLN.out]; omega)
        obtain ⟨eJ, hJ⟩ := at_lt (l := T) (k := J) (by rw [HLN.out]; omega)
        have HN := Lib.hid (bef_own HAL.out hI hJ hc1)
        obtain ⟨g, rfl, hgb, cI, _, _⟩ := HOE.out I eI hI
        obtain ⟨g', hg', _, cJ, _, _⟩ := HOE.out J eJ hJ
        cases hg'
        rw [HN.out] at HBF
        have hgl : g < wr.heap.size := cell_lt cI
        have HKX := Lib.hid (fun u (hB : Below wr.heap.size wr u) => And.intro ((hB.cell (p := ⟨g, I * 6, none⟩) hgl).trans cI) ((hB.cell (p := ⟨g, J * 6, none⟩) hgl).trans cJ))
        have hji' : decide ((J : Int) ≤ (I : Int)) = false := decide_eq_false (by omega)
        have hjq' : decide ((q : Int) ≤ (J : Int)) = false := decide_eq_false (by omega)
        have hIq : (I : Int) < (q : Int) := by omega
        have hJq : (J : Int) < (q : Int) := by omega
        have HL := Lib.hid (Below.refl wr.heap.size wr)
        generalize eI.th = A at *
        generalize eJ.th = C at *
        have hCC : ∀ b : Bool, (b == b) = true := by intro b; cases b <;> rfl
        clear HEV HWL HAL HOE HN hI hJ cI cJ
        go_upto_region 11 with (fail)
        have KX := HKX.out _ HL.out.drew
        go_region_held3 (fun u => u.cell? ⟨g, I * 6, none⟩ = some (.int .i64 A) ∧ u.cell? ⟨g, J * 6, none⟩ = some (.int .i64 C)) (first | with_reducible exact KX | fail)
          (first
            | (go_at_call 9; refine (HBF.out _ HL.out).mono ?_; rintro e w5 ⟨rfl, hB⟩; have HL := Lib.hid (below_next HL.out hB); have KX := HKX.out _ HL.out; clear hB)
            | (go_at_call 8; refine (HKW.out _).mono ?_; rintro e w5 ⟨rfl, hB⟩; have HL := Lib.hid (below_next HL.out.drew hB); have KX := HKX.out _ HL.out; clear hB))
        go_wp2
        go_ret
        exact ⟨rfl, below_next HB.out HL.out⟩
      · have HN : Hid (befI [] T (I : Int) (J : Int) = false) := Lib.hid (befI_no (by rw [HLN.out]; exact hc))
        rw [HN.out] at HBF
        by_cases hji : J ≤ I
        · have hji' : decide ((J : Int) ≤ (I : Int)) = true := decide_eq_true (by omega)
          go_wp2_with (first
            | (go_at_call 8; refine (HKW.out _).mono ?_; rintro e w7 ⟨rfl, hB7⟩)
            | (have _g := hB7; go_at_call 9; refine (HBF.out _ hB7).mono ?_; rintro e w8 ⟨rfl, hB8⟩))
          go_ret
          exact ⟨rfl, below_next HB.out (below_next hB7 hB8)⟩
        · have hji' : decide ((J : Int) ≤ (I : Int)) = false := decide_eq_false (by omega)
          have hjq' : decide ((q : Int) ≤ (J : Int)) = true := decide_eq_true (by omega)
          go_wp2_with (first
            | (go_at_call 8; refine (HKW.out _).mono ?_; rintro e w7 ⟨rfl, hB7⟩)
            | (have _g := hB7; go_at_call 9; refine (HBF.out _ hB7).mono ?_; rintro e w8 ⟨rfl, hB8⟩))
          go_ret
          exact ⟨rfl, below_next HB.out (below_next hB7 hB8)⟩
set_option maxRecDepth 100000 in
theorem orderOwn_lifted (os : Os) (started : os.Started) (H : Type) (enc : TypeId × Value → H) :
    ReturnsInHanded {} Try.checked os 7 .any (Rows.orderOwnSpec.pre6 enc Try.prog Try.f7 Rows.orderOwnRow.domain false) (Rows.orderOwnSpec.post enc Try.prog Try.f7 false true false false) := by
  refine returnsInHanded_of_change (C := Try.checked) law_own started (by kernel_rfl) Try.func7
    (ChangeSpec.witness6 (enc := enc) (C := Try.checked) false ⟨#[], #[.slice none 0 0, .int .u8 0, .int .u8 0], []⟩ 8 (by kernel_rfl) (by kernel_rfl) (by kernel_rfl) (by kernel_rfl)) ?_
  intro W base args ds gs before hval0 hW hcnd _
  have hval : ∀ (j : Nat) t v, Try.f7.params[j]? = some t → args[j]? = some v → Value.okWide Try.prog W .any base t v := hval0
  have hW' := hW
  obtain ⟨p, q, hA0, hV, rfl, hfz, hnd⟩ := hW
  have hA : DataW.TrodAll enc Try.prog W 0 (fun _ => true) true Try.f7.params.toList args.toList ds p := hA0
  rw [Try.params7] at hA hval
  obtain ⟨v0, vs0, d0, ds0, p0, q0, hargs, rfl, rfl, h0, r0⟩ := trodAll_cons hA
  obtain ⟨v1, vs1, d1, ds1, p1, q1, rfl, rfl, rfl, h1, r1⟩ := trodAll_cons r0
  obtain ⟨v2, vs2, d2, ds2, p2, q2, rfl, rfl, rfl, h2, r2⟩ := trodAll_cons r1
  obtain ⟨rfl, rfl, rfl⟩ := trodAll_nil r2
  obtain rfl : args = #[v0, v1, v2] := by cases args; simp_all
  obtain ⟨rfl, rfl⟩ := trodVars_none hV
  have k0 := h0
  have lt0 : ∀ x ∈ p0, x.block < W.heap.size := by obtain ⟨m, hm⟩ := k0; exact DataW.trod_lt m _ _ _ hm
  obtain ⟨a0, cap0, l0, rfl, n0, w0⟩ := open_raws (hval 0 32 v0 rfl rfl) h0
  obtain ⟨a1, rfl, rfl, rfl, w1⟩ := open_int Try.underlying5 (hval 1 5 v1 rfl rfl) h1
  obtain ⟨a2, rfl, rfl, rfl, w2⟩ := open_int Try.underlying5 (hval 2 5 v2 rfl rfl) h2
  clear hA0 hval0
  refine (orderOwn_walk a0 cap0 l0 a1 a2 W w0 n0 w1 w2).mono fun e W' ⟨he, bel⟩ => ?_
  subst he
  exact ⟨_, rfl, _, _, _, [], _, [], hW', trodAll_mk1 (shut_bool Try.underlying4 _), (trodAll_cons_mk (Below.trod law_laidOut (by kernel_rfl) (of_decide_eq_true (by kernel_rfl)) k0 bel lt0) (trodAll_cons_mk (shut_int Try.underlying5 w1) (trodAll_cons_mk (shut_int Try.underlying5 w2) trodAll_mk0))), rfl, bel.frame _, fun h => by cases h⟩

/-- The statement. -/
theorem orderOwn_holds : Rows.OrderOwnSaid :=
  OpenClaim.holds_of_wide 7 Try.f7 rfl rfl rfl rfl rfl rfl rfl ⟨rfl, rfl, rfl, rfl, rfl⟩ rfl rfl rfl rfl rfl (by kernel_rfl) Try.func7 (by kernel_rfl)
    (of_decide_eq_true (by kernel_rfl)) (by unfold Func.isWrapper; first | (rw [if_pos (by decide +kernel)]; kernel_rfl) | (rw [if_neg (by decide +kernel)]; exact ⟨rfl, rfl⟩))
    (fun os started H enc _ => orderOwn_lifted os started H enc)
end Go.Proofs.Ytkhhkjinlkpdlaa
