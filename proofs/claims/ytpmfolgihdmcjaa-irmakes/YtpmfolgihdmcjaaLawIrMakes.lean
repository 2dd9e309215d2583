/- IrMakes: programs of choices may be; with one thread too many they may not; for every input. -/
import Derived.Test.YtpmfolgihdmcjaaLawKit
import Derived.Test.YtpmfolgihdmcjaaProgKit
import Derived.Test.YtpmfolgihdmcjaaOpenRows
import Derived.Test.YtpmfolgihdmcjaaIrRef4
namespace Go.Proofs.Ytpmfolgihdmcjaa
set_option linter.unusedVariables false
set_option linter.unusedSimpArgs false
open Go.ChangeShapes Go.WideShapes Go.ChangeAt Go.RowKit

theorem BytesIn.wide {w : World} {B B' : Nat} {a : Option Addr} {rows : List (List Int)} (h : BytesIn w B a rows) (hB : B ≤ B') : BytesIn w B' a rows := fun k r hr => by
  obtain ⟨b, off, h1, h2, a', cap', h3, h4, h5⟩ := h k r hr
  refine ⟨b, off, h1, by omega, a', cap', h3, fun i x hx => ?_, h5⟩
  obtain ⟨b2, o2, h6, h7, h8⟩ := h4 i x hx
  exact ⟨b2, o2, h6, by omega, h8⟩
/-- The program with m threads more that do nothing. -/
def padded (cs : List (List InsD)) (m : Nat) : List (List InsD) := cs ++ List.replicate m []
theorem padded_len (cs : List (List InsD)) (m : Nat) : (padded cs m).length = cs.length + m := by simp [padded]
theorem padded_more (cs : List (List InsD)) (m : Nat) : padded cs m ++ [[]] = padded cs (m + 1) := by simp [padded, List.replicate_succ']
theorem padded_ok (cs : List (List InsD)) (m : Nat) (h1 : 1 ≤ cs.length) (h6 : cs.length + m ≤ 6) (hg : ∀ d ∈ cs, GoodCode cs.length d) : soundE (madeD (padded cs m)) = 0 := by
  refine made_ok _ cs.length (by rw [padded_len]; omega) (by rw [padded_len]; exact h6) (by rw [padded_len]; omega) fun d hd => ?_
  rcases List.mem_append.1 hd with hd | hd
  · exact ⟨by have := (hg d hd).1; omega, (hg d hd).2⟩
  · obtain rfl := List.eq_of_mem_replicate hd
    exact ⟨by simp, fun x hx => by simp at hx⟩
theorem padded_long (cs : List (List InsD)) (m : Nat) (h6 : 6 < cs.length + m) : soundE (madeD (padded cs m)) = 3 := by
  refine sound_long ?_
  have hb : wiB (((madeD (padded cs m)).threads.length : Nat) : Int) 1 6 = false := wiB_false.2 (by show ¬ ((1 : Int) ≤ ((padded cs m).length : Int) ∧ ((padded cs m).length : Int) ≤ 6); rw [padded_len]; omega)
  unfold sizesB numsB
  rw [hb, Bool.and_false, Bool.and_false]
theorem made_ref {u : World} {base g : Nat} {tv : Value} {vs : List Value} {cs : List (List InsD)} {t : TypeId} {fr : Nat × Nat} (h : OwnThreads u base tv vs cs) (hc : u.heap[g]? = some (.cells #[.int .i64 1] t fr)) (hl : cs.length ≤ 1000) (e : Int) (he : soundE (madeD cs) = e) :
    Calls Try.prog 13 #[.agg #[.int .i64 2, .int .i64 1, .int .i64 1, .slice (some ⟨g, 0, none⟩) 1 1, .int .i64 1, .int .i64 1, tv]] u fun en w' => en = .returned (.int .i64 e) ∧ Below u.heap.size u w' := by
  obtain ⟨ta, tcap, rfl, hp⟩ := made_in h hc hl
  rw [← he]
  exact refSound_any (madeD cs) (some ⟨g, 0, none⟩) 1 ta tcap u hp
/-- Making the program once more, and asking the document of it. -/
def RelPad (w : World) (B m : Nat) (cs : List (List InsD)) (i : Value) (u : World) : Prop :=
  ∃ (j : Nat) (vs : List Value) (tv : Value), j ≤ m ∧ i = .int .i64 j ∧ ProgSt w u B tv vs (padded cs j) ∧ tv.ownBlock ≠ some B ∧ (∀ (k : Nat) (b : Value), vs[k]? = some b → b.ownBlock ≠ some B) ∧ w.heap.size + 3 ≤ u.heap.size ∧ w.heap.size ≤ B

set_option maxRecDepth 100000 in
set_option maxHeartbeats 4000000 in
theorem irMakes_in (rows : List (List Int)) (a : Option Addr) (cap n m : Nat) (w : World) (hl : rows.length ≤ 9223372036854775807) (hr : BytesIn w w.heap.size a rows) (hn : n < 256) (hm : (n : Int) % 9 = (m : Int)) (hm8 : m ≤ 8) :
    Calls Try.prog 5 #[.slice a rows.length cap, .int .u8 n] w fun e w' => e = .returned (.bool true) ∧ Below w.heap.size w w' := by
  obtain ⟨j0, hj, hy0, hy1, hy2⟩ := info_parts info_codeT
  have HM := Lib.hid (make_any rows a cap w hl hr)
  have HBy := Lib.hid hr
  clear hr
  go_enter Try.func5, Try.ntmps5
  go_wp2_with fail
  refine (HM.out).mono ?_
  rintro e w1 ⟨cs, vs, tv, rfl, hO, hCh, ⟨h1, h3⟩, hG, hB1⟩
  obtain ⟨g, tcap, rfl, hgb, hgl, _⟩ := hO.addr (by omega)
  have hL : Hid (RelPad w w1.heap.size m cs (.int .i64 0) (w1.alloc (.cells #[.int .i64 2, .int .i64 1, .int .i64 1, .slice (some ⟨w.heap.size + 1, 0, none⟩) 1 1, .int .i64 1, .int .i64 1, .slice (some ⟨g, 0, none⟩) cs.length tcap] 26))) :=
    ⟨0, vs, _, Nat.zero_le _, rfl, ⟨by simpa [padded] using hO.later ((Below.refl _ _).alloc (Nat.le_refl _) _), heap_alloc_new _ _, (Below.heap_alloc _ _ _ (Array.getElem?_eq_some_iff.1 hCh).1).trans hCh, hB1.alloc hB1.size _⟩,
      (by simp [Value.ownBlock]; omega), fun k b hb e => by obtain ⟨d, _, hd⟩ := hO.codeOf hb; have := (own_lt hd _ e).1; omega, by simp; omega, hB1.size⟩
  have HG := Lib.hid hG
  have h1' : (0 : Int) < (cs.length : Int) := by omega
  clear hO hCh hG hB1 HM
  go_wp2_with fail
  go_loopw [7] (fun i u => RelPad w w1.heap.size m cs i u) (fun i _ => m - (intOf i).toNat)
  case atStart => exact hL.out
  case round =>
    obtain ⟨j, vs2, tv2, hjm, rfl, hst, hT, hV, hbs, hwB⟩ := hrel
    have hc6 := hst.cells.2.2.2.2.2.2
    have HSt := Lib.hid hst
    have HT := Lib.hid hT
    have HV := Lib.hid hV
    clear hst hT hV
    by_cases hlt : j < m
    · have hlt' : (j : Int) < (m : Int) := by omega
      have hvl : vs2.length ≤ 11 := by have := HSt.out.own.len; rw [padded_len] at this; omega
      go_wp2_with (first
        | (at_builtin; refine wpList_append_own_at _ rfl _ _ 24 rfl (w.heap.size + 3) 28 j0 (.slice none 0 0) 1 24 Try.underlying24 hj hy0 hy1 hy2 rfl (by decide) tv2 _ _ rfl (own_later HSt.out.own.thr ((Below.refl _ _).alloc (Nat.le_refl _) _)) ⟨wr.heap.size, 0, none⟩ 1 1 [.slice none 0 0] rfl rfl (cell_one_new _ _ _) (by simp [Value.oneCell']) (by unfold maxLen; omega) (by omega) (by simp; omega) ?_; intro tv' w6 hown6 hgrow6 _ hat6; obtain ⟨g7, cap7, rfl⟩ := ownsRow_succ hown6; obtain ⟨⟨hcb, hfb⟩, hst6, hT6, hV6⟩ := ProgSt.push (c := []) (HSt.out.later ((Below.refl _ _).alloc (Nat.le_refl _) _)) HT.out HV.out (World.ownsRow_nil _ _ _ _) (by simp [Value.ownBlock]) (.inl rfl) (fun k b _ => Apart.symm (.inl rfl)) hown6 hgrow6 hat6 (by simp; omega) hwB; have HX := Lib.hid hst6; have HT6 := Lib.hid hT6; have HV6 := Lib.hid hV6; have hsz6 := hgrow6.size; clear hown6 hgrow6 hat6 hst6 hT6 hV6))
      go_roundw
      case rel => exact ⟨j + 1, _, _, by omega, by go_num, by rw [← padded_more]; exact HX.out, HT6.out, HV6.out, by have e : (w6.setCell ⟨w1.heap.size, 6, none⟩ (.slice (some ⟨g7, 0, none⟩) (vs2.length + 1) cap7)).heap.size = w6.heap.size := (by simp [World.setCell]); simp at hsz6; omega, hwB⟩
      case measure => simp [intOf]; omega
    · obtain rfl : j = m := by omega
      by_cases h6 : 6 < cs.length + j
      · have hd : decide ((6 : Int) < (cs.length : Int) + (j : Int)) = true := by simp; omega
        have HE := Lib.hid (padded_long cs j h6)
        go_wp2_with fail
        refine (known_any _).mono ?_
        rintro e w4 ⟨rfl, hB4⟩
        have hs4 := HSt.out.later hB4
        obtain ⟨b0, b1, b2, b3, b4, b5, b6⟩ := hs4.cells
        have HS4 := Lib.hid hs4
        clear hs4 hB4 hc6
        go_wp2_with fail
        refine (HS4.out.sound (by rw [padded_len]; omega) 3 HE.out).mono ?_
        rintro e w5 ⟨rfl, hB5⟩
        have hs5 := HS4.out.later hB5
        have HS5 := Lib.hid hs5
        clear hs5 hB5
        have HM5 := Lib.hid (make_any rows a cap w5 hl ((HBy.out.below HS5.out.bel).wide HS5.out.bel.size))
        go_wp2_with fail
        refine (HM5.out).mono ?_
        rintro e w6 ⟨cs6, vs6, tv6, rfl, hO6, hCh6, ⟨h61, h63⟩, hG6, hB6⟩
        have HB6 := Lib.hid (below_next HS5.out.bel hB6)
        have HE6 := Lib.hid (made_ok cs6 cs6.length h61 (by omega) (Nat.le_refl _) fun d hd => ⟨by have := (hG6 d hd).1; omega, (hG6 d hd).2⟩)
        have HC6 := Lib.hid (made_ref hO6 hCh6 (by omega) 0 HE6.out)
        clear hO6 hCh6 hG6 hB6
        go_wp2_with fail
        refine (HC6.out).mono ?_
        rintro e w7 ⟨rfl, hB7⟩
        go_wp2
        go_ret
        exact ⟨rfl, below_next HB6.out hB7⟩
      · have hd : decide ((6 : Int) < (cs.length : Int) + (j : Int)) = false := by simp; omega
        have HE := Lib.hid (padded_ok cs j h1 (by omega) HG.out)
        go_wp2_with fail
        refine (known_any _).mono ?_
        rintro e w4 ⟨rfl, hB4⟩
        have hs4 := HSt.out.later hB4
        obtain ⟨b0, b1, b2, b3, b4, b5, b6⟩ := hs4.cells
        have HS4 := Lib.hid hs4
        clear hs4 hB4 hc6
        go_wp2_with fail
        refine (HS4.out.sound (by rw [padded_len]; omega) 0 HE.out).mono ?_
        rintro e w5 ⟨rfl, hB5⟩
        have hs5 := HS4.out.later hB5
        have HS5 := Lib.hid hs5
        clear hs5 hB5
        have HM5 := Lib.hid (make_any rows a cap w5 hl ((HBy.out.below HS5.out.bel).wide HS5.out.bel.size))
        go_wp2_with fail
        refine (HM5.out).mono ?_
        rintro e w6 ⟨cs6, vs6, tv6, rfl, hO6, hCh6, ⟨h61, h63⟩, hG6, hB6⟩
        have HB6 := Lib.hid (below_next HS5.out.bel hB6)
        have HE6 := Lib.hid (made_ok cs6 cs6.length h61 (by omega) (Nat.le_refl _) fun d hd => ⟨by have := (hG6 d hd).1; omega, (hG6 d hd).2⟩)
        have HC6 := Lib.hid (made_ref hO6 hCh6 (by omega) 0 HE6.out)
        clear hO6 hCh6 hG6 hB6
        go_wp2_with fail
        refine (HC6.out).mono ?_
        rintro e w7 ⟨rfl, hB7⟩
        go_wp2
        go_ret
        exact ⟨rfl, below_next HB6.out hB7⟩

theorem irMakes_walk (rows : List (List Int)) (a : Option Addr) (cap : Nat) (a1 : Int) (w : World) (hl : rows.length ≤ 9223372036854775807) (hr : BytesIn w w.heap.size a rows) (w1 : (Lit.int .u8 a1).wf = true) :
    Calls Try.prog 5 #[.slice a rows.length cap, .int .u8 a1] w fun e w' => e = .returned (.bool true) ∧ Below w.heap.size w w' := by
  obtain ⟨q0, q1⟩ := bounds_u8 w1
  obtain ⟨n, rfl⟩ := Int.eq_ofNat_of_zero_le q0
  exact irMakes_in rows a cap n (n % 9) w hl hr (by omega) (by omega) (by omega)

set_option maxRecDepth 100000 in
theorem irMakes_lifted (os : Os) (started : os.Started) (H : Type) (enc : TypeId × Value → H) :
    ReturnsInHanded {} Try.checked os 5 .any (Rows.irMakesSpec.pre6 enc Try.prog Try.f5 Rows.irMakesRow.domain false) (Rows.irMakesSpec.post enc Try.prog Try.f5 false true false false) := by
  refine returnsInHanded_of_change (C := Try.checked) law_own started (by kernel_rfl) Try.func5
    (ChangeSpec.witness6 (enc := enc) (C := Try.checked) false ⟨#[], #[.slice none 0 0, .int .u8 0], []⟩ 8 (by kernel_rfl) (by kernel_rfl) (by kernel_rfl) (by kernel_rfl)) ?_
  intro W base args ds gs before hval0 hW hcnd _
  have hval : ∀ (j : Nat) t v, Try.f5.params[j]? = some t → args[j]? = some v → Value.okWide Try.prog W .any base t v := hval0
  have hW' := hW
  obtain ⟨p, q, hA0, hV, rfl, hfz, hnd⟩ := hW
  have hA : DataW.TrodAll enc Try.prog W 0 (fun _ => true) true Try.f5.params.toList args.toList ds p := hA0
  rw [Try.params5] at hA hval
  obtain ⟨v0, vs0, d0, ds0, p0, q0, hargs, rfl, rfl, h0, r0⟩ := trodAll_cons hA
  obtain ⟨v1, vs1, d1, ds1, p1, q1, rfl, rfl, rfl, h1, r1⟩ := trodAll_cons r0
  obtain ⟨rfl, rfl, rfl⟩ := trodAll_nil r1
  obtain rfl : args = #[v0, v1] := by cases args; simp_all
  obtain ⟨rfl, rfl⟩ := trodVars_none hV
  have k0 := h0
  have lt0 : ∀ x ∈ p0, x.block < W.heap.size := by obtain ⟨m, hm⟩ := k0; exact DataW.trod_lt m _ _ _ hm
  obtain ⟨a0, cap0, l0, rfl, n0, w0⟩ := open_rows_u8 (hval 0 22 v0 rfl rfl) h0
  obtain ⟨a1, rfl, rfl, rfl, w1⟩ := open_int Try.underlying5 (hval 1 5 v1 rfl rfl) h1
  clear hA0 hval0
  refine (irMakes_walk l0 a0 cap0 a1 W n0 w0 w1).mono fun e W' ⟨he, bel⟩ => ?_
  subst he
  exact ⟨_, rfl, _, _, _, [], _, [], hW', trodAll_mk1 (shut_bool Try.underlying4 _), (trodAll_cons_mk (Below.trod law_laidOut (by kernel_rfl) (of_decide_eq_true (by kernel_rfl)) k0 bel lt0) (trodAll_cons_mk (shut_int Try.underlying5 w1) trodAll_mk0)), rfl, bel.frame _, fun h => by cases h⟩

/-- The statement. -/
theorem irMakes_holds : Rows.IrMakesSaid :=
  OpenClaim.holds_of_wide 5 Try.f5 rfl rfl rfl rfl rfl rfl rfl ⟨rfl, rfl, rfl, rfl, rfl⟩ rfl rfl rfl rfl rfl (by kernel_rfl) Try.func5 (by kernel_rfl)
    (of_decide_eq_true (by kernel_rfl)) (by unfold Func.isWrapper; first | (rw [if_pos (by decide +kernel)]; kernel_rfl) | (rw [if_neg (by decide +kernel)]; exact ⟨rfl, rfl⟩))
    (fun os started H enc _ => irMakes_lifted os started H enc)

end Go.Proofs.Ytpmfolgihdmcjaa
