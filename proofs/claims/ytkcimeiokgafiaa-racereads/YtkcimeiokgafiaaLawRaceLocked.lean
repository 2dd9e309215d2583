/- RaceLocked: where each access is between locking and unlocking one lock no races are told; for every input. -/
import Derived.Test.YtkcimeiokgafiaaRaceKnown2
import Derived.Test.YtkcimeiokgafiaaRaceOpenRaws
import Derived.Test.YtkcimeiokgafiaaRaceLockM
namespace Go.Proofs.Ytkcimeiokgafiaa
set_option linter.unusedVariables false
set_option linter.unusedSimpArgs false
open Go.ChangeShapes Go.WideShapes Go.ChangeAt Go.RowKit Go.Maps

def lkS (p : Nat × Nat) : List EvD := tripW ((p.2 : Int) % 3) (if p.1 % 2 = 0 then 8 else 7) ((p.2 : Int) / 4 % 2)
def lkL (l : List (Nat × Nat)) : List EvD := ((l.take 20).map lkS).flatten
theorem lkS_len (p : Nat × Nat) : (lkS p).length = 3 := rfl
theorem lkL_len (l : List (Nat × Nat)) : (lkL l).length = 3 * min 20 l.length := by
  have key : ∀ m : List (Nat × Nat), ((m.map lkS).flatten).length = 3 * m.length := by
    intro m
    induction m with
    | nil => rfl
    | cons p r ih => simp only [List.map_cons, List.flatten_cons, List.length_append, ih, lkS_len, List.length_cons]; omega
  unfold lkL
  rw [key, List.length_take]
theorem lkL_stop {l : List (Nat × Nat)} {q : Nat} (h : q = 20 ∨ l.length ≤ q) : lkL (l.take q) = lkL l := by
  unfold lkL
  rcases h with rfl | h
  · rw [List.take_take, Nat.min_self]
  · rw [List.take_of_length_le h]
theorem lkL_next {l : List (Nat × Nat)} {q : Nat} {p : Nat × Nat} (hp : l[q]? = some p) (hq : q < 20) : lkL (l.take (q + 1)) = lkL (l.take q) ++ lkS p := by
  unfold lkL
  rw [List.take_take, List.take_take, Nat.min_eq_right (by omega), Nat.min_eq_right (by omega), List.take_add_one, hp]
  simp
theorem lk_trip (p : Nat × Nat) : Trip (lkS p) := by
  refine ⟨p.2 % 3, if p.1 % 2 = 0 then 8 else 7, (p.2 : Int) / 4 % 2, by omega, by split <;> simp, .inl ?_⟩
  unfold lkS
  rw [show ((p.2 % 3 : Nat) : Int) = (p.2 : Int) % 3 from by omega]
theorem lkL_races (chans : List Int) (l : List (Nat × Nat)) : racesL chans (lkL l) = [] := by
  refine trips_races (fun s hs => ?_) (by simp; omega)
  obtain ⟨p, _, rfl⟩ := List.mem_map.1 hs
  exact lk_trip p
theorem lkL_wf (l : List (Nat × Nat)) : ∀ e ∈ lkL l, EvW e := by
  intro e he
  obtain ⟨s, hs, he⟩ := List.mem_flatten.1 he
  obtain ⟨p, _, rfl⟩ := List.mem_map.1 hs
  simp only [lkS, tripW, List.mem_cons, List.not_mem_nil, or_false] at he
  rcases he with rfl | rfl | rfl <;> exact ⟨WalkArith.wf_i64 (by simp only; omega), WalkArith.wf_i64 (by simp only; omega)⟩
theorem evsCells_app (a b : List EvD) : evsCells (a ++ b) = evsCells a ++ evsCells b := by simp [evsCells]
theorem evs_one (t : List EvD) : ∀ u ∈ evsCells t, u.oneCell' = true := by
  intro u hu
  obtain ⟨e, _, he⟩ := List.mem_flatMap.1 hu
  exact ev_one e u he
theorem findL_none {W : World} (a : Option Addr) (cap n : Nat) (t : List EvD) (he : EvsIn W W.heap.size a t) (hW : ∀ e ∈ t, EvW e) (hn : t.length = n) (hl : n ≤ 1000) (h0 : racesL [] t = []) :
    Calls Try.prog 13 #[.agg #[.int .i64 0, .int .i64 0, .int .i64 1, .slice none 0 0, .int .i64 0, .int .i64 0, .slice none 0 0], .slice a n cap] W fun e w' => (∃ xa xc, e = .returned (.slice xa 0 xc)) ∧ Below W.heap.size W w' := by
  subst hn
  refine (find_any _ _ _ none 0 [] _ _ _ a cap t W he hW (chIn_nil W) (by omega) (by kernel_rfl)).mono ?_
  rintro e w' ⟨v, rfl, ho, hB⟩
  rw [h0] at ho
  obtain ⟨xa, xc, rfl⟩ := own_slice0 ho
  exact ⟨⟨xa, xc, rfl⟩, hB⟩
set_option maxRecDepth 100000 in
set_option maxHeartbeats 4000000 in
theorem raceLocked_walk (ra : Option Addr) (rc : Nat) (l : List (Nat × Nat)) (w : World) (h : RawIn w ra l) (hl : l.length ≤ 9223372036854775807) :
    Calls Try.prog 8 #[.slice ra l.length rc] w fun e w' => e = .returned (.bool true) ∧ Below w.heap.size w w' := by
  obtain ⟨ti, hi0, iz0, iz1, iz2⟩ := info_parts info_ev8
  have HC := Lib.hid h.cell
  have HWf := Lib.hid h.wf
  have HKW := Lib.hid (fun V => known8_any V)
  clear h
  have HP0 : Hid (EvR w (lkL (l.take 0)) (.slice none 0 0) w) := Lib.hid ⟨none, 0, rfl, Nat.le_refl _, World.ownsRow_nil _ _ _ _, Below.refl _ _⟩
  go_enter Try.func8, Try.ntmps8
  go_wp2_with fail
  go_loopw [4, 3] (fun i v V => ∃ q : Nat, q ≤ l.length ∧ q ≤ 20 ∧ i = .int .i64 q ∧ EvR w (lkL (l.take q)) v V) (fun i _ _ => 20 - (intOf i).toNat)
  case atStart => exact ⟨0, Nat.zero_le _, by omega, rfl, HP0.out⟩
  case round =>
    obtain ⟨q, hq, hq20, rfl, xa, xc, rfl, hxc, hxo, hUB⟩ := hrel
    have hrl : (lkL (l.take q)).length = 3 * q := by rw [lkL_len, List.length_take]; omega
    have HXO := Lib.hid hxo
    have HUB := Lib.hid hUB
    have hbs : w.heap.size ≤ wr.heap.size := hUB.size
    rw [hrl] at HXO
    rw [hrl] at hxc
    simp only [hrl]
    clear hxo
    by_cases hlt : q < l.length
    · have hlt' : (q : Int) < (l.length : Int) := by omega
      by_cases h20 : q < 20
      · obtain ⟨p, hp⟩ := at_lt hlt
        obtain ⟨g, o, rfl, hg, c0, c1⟩ := HC.out q p hp
        obtain ⟨A, B⟩ := p
        have hAB := HWf.out _ (List.mem_of_getElem? hp)
        simp only at c0 c1 hAB
        have HNX := Lib.hid (lkL_next hp h20)
        have h20' : decide ((q : Int) < 20) = true := decide_eq_true (by omega)
        have d0 := keepC hUB c0
        have d1 := keepC hUB c1
        clear hp c0 c1 hUB
        by_cases ha : A % 2 = 0
        · have ha' : ((A : Int) % 2 == 0) = true := by rw [beq_iff_eq]; omega
          have HLK : Hid (lkS (A, B) = tripW ((B : Int) % 3) 8 ((B : Int) / 4 % 2)) := Lib.hid (by unfold lkS; simp only [if_pos ha])
          rw [HLK.out] at HNX
          go_wp2_with (first
            | (at_builtin; refine wpList_append_own_at _ rfl _ _ 24 rfl w.heap.size 26 ti (evV 0 0 0 0 0 0) 6 48 Try.underlying24 hi0 iz0 iz1 iz2 rfl (by decide) (.slice xa (3 * q) xc) (3 * q) (evsCells (lkL (l.take q))) rfl (own_later HXO.out (below_box wr _)) ⟨wr.heap.size, 0, none⟩ 3 3 (evsCells (tripW ((B : Int) % 3) 8 ((B : Int) / 4 % 2))) rfl rfl (cells_new wr _ _) (evs_one _) (by unfold maxLen; omega) (by omega) (by simp; omega) ?_; intro v6 w6 hown6 hgrow6 _ hat6
               have HB6 : Hid (Below w.heap.size w w6) := Lib.hid ((below_new HUB.out (.cells (evsCells (tripW ((B : Int) % 3) 8 ((B : Int) / 4 % 2))).toArray 26)).trans ((Below.refl _ _).grown hgrow6 (by have := HUB.out.size; simp; omega) (fun g e => (own_lt HXO.out g e).2)))
               obtain ⟨ya, yc, rfl⟩ := own_slice0 hown6
               have HO6 := Lib.hid hown6
               have HYC : Hid (3 * q + 3 ≤ yc) := Lib.hid (by
                 rcases hown6.2 with ⟨_, h0⟩ | ⟨g', c', cur, e', _, _, hle, _⟩
                 · omega
                 · injection e' with e1 e2 e3; omega)
               clear hown6 hgrow6 hat6))
          go_roundw
          case rel => exact ⟨q + 1, by omega, by omega, by go_num, ya, yc, by rw [HNX.out, List.length_append, hrl]; rfl, by rw [HNX.out, List.length_append, hrl]; exact HYC.out, by rw [HNX.out, List.length_append, hrl, evsCells_app]; exact HO6.out, HB6.out⟩
          case measure => simp [intOf]; omega
        · have ha' : ((A : Int) % 2 == 0) = false := by rw [beq_eq_false_iff_ne]; omega
          have HLK : Hid (lkS (A, B) = tripW ((B : Int) % 3) 7 ((B : Int) / 4 % 2)) := Lib.hid (by unfold lkS; simp only [if_neg ha])
          rw [HLK.out] at HNX
          go_wp2_with (first
            | (at_builtin; refine wpList_append_own_at _ rfl _ _ 24 rfl w.heap.size 26 ti (evV 0 0 0 0 0 0) 6 48 Try.underlying24 hi0 iz0 iz1 iz2 rfl (by decide) (.slice xa (3 * q) xc) (3 * q) (evsCells (lkL (l.take q))) rfl (own_later HXO.out (below_box wr _)) ⟨wr.heap.size, 0, none⟩ 3 3 (evsCells (tripW ((B : Int) % 3) 7 ((B : Int) / 4 % 2))) rfl rfl (cells_new wr _ _) (evs_one _) (by unfold maxLen; omega) (by omega) (by simp; omega) ?_; intro v6 w6 hown6 hgrow6 _ hat6
               have HB6 : Hid (Below w.heap.size w w6) := Lib.hid ((below_new HUB.out (.cells (evsCells (tripW ((B : Int) % 3) 7 ((B : Int) / 4 % 2))).toArray 26)).trans ((Below.refl _ _).grown hgrow6 (by have := HUB.out.size; simp; omega) (fun g e => (own_lt HXO.out g e).2)))
               obtain ⟨ya, yc, rfl⟩ := own_slice0 hown6
               have HO6 := Lib.hid hown6
               have HYC : Hid (3 * q + 3 ≤ yc) := Lib.hid (by
                 rcases hown6.2 with ⟨_, h0⟩ | ⟨g', c', cur, e', _, _, hle, _⟩
                 · omega
                 · injection e' with e1 e2 e3; omega)
               clear hown6 hgrow6 hat6))
          go_roundw
          case rel => exact ⟨q + 1, by omega, by omega, by go_num, ya, yc, by rw [HNX.out, List.length_append, hrl]; rfl, by rw [HNX.out, List.length_append, hrl]; exact HYC.out, by rw [HNX.out, List.length_append, hrl, evsCells_app]; exact HO6.out, HB6.out⟩
          case measure => simp [intOf]; omega
      · have h20' : decide ((q : Int) < 20) = false := decide_eq_false (by omega)
        have hm : 3 * q ≤ 1000 := by omega
        have HST := Lib.hid (lkL_stop (l := l) (q := q) (.inl (by omega)))
        have HEV := Lib.hid (evsIn_own HXO.out)
        rw [HST.out] at HEV hrl
        have HWL := Lib.hid (lkL_wf l)
        have HR0 := Lib.hid (lkL_races [] l)
        have HLN := Lib.hid hrl
        generalize lkL l = T at *
        clear hrl
        generalize 3 * q = m at *
        go_wp2_with (first
          | (have _g := hB5; go_at_call 13; refine (findL_none xa xc m T (HEV.out.later hB5) HWL.out HLN.out hm HR0.out).mono ?_; rintro e w6 ⟨⟨ya, yc, rfl⟩, hB6⟩)
          | (go_at_call 9; refine (HKW.out _).mono ?_; rintro e w5 ⟨rfl, hB5⟩))
        go_ret
        exact ⟨rfl, below_next hUB (below_next hB5 hB6)⟩
    · have hlt' : ¬ (q : Int) < (l.length : Int) := by omega
      have hm : 3 * q ≤ 1000 := by omega
      have HST := Lib.hid (lkL_stop (l := l) (q := q) (.inr (by omega)))
      have HEV := Lib.hid (evsIn_own HXO.out)
      rw [HST.out] at HEV hrl
      have HWL := Lib.hid (lkL_wf l)
      have HR0 := Lib.hid (lkL_races [] l)
      have HLN := Lib.hid hrl
      generalize lkL l = T at *
      clear hrl
      generalize 3 * q = m at *
      go_wp2_with (first
        | (have _g := hB5; go_at_call 13; refine (findL_none xa xc m T (HEV.out.later hB5) HWL.out HLN.out hm HR0.out).mono ?_; rintro e w6 ⟨⟨ya, yc, rfl⟩, hB6⟩)
        | (go_at_call 9; refine (HKW.out _).mono ?_; rintro e w5 ⟨rfl, hB5⟩))
      go_ret
      exact ⟨rfl, below_next hUB (below_next hB5 hB6)⟩
set_option maxRecDepth 100000 in
theorem raceLocked_lifted (os : Os) (started : os.Started) (H : Type) (enc : TypeId × Value → H) :
    ReturnsInHanded {} Try.checked os 8 .any (Rows.raceLockedSpec.pre6 enc Try.prog Try.f8 Rows.raceLockedRow.domain false) (Rows.raceLockedSpec.post enc Try.prog Try.f8 false true false false) := by
  refine returnsInHanded_of_change (C := Try.checked) law_own started (by kernel_rfl) Try.func8
    (ChangeSpec.witness6 (enc := enc) (C := Try.checked) false ⟨#[], #[.slice none 0 0], []⟩ 8 (by kernel_rfl) (by kernel_rfl) (by kernel_rfl) (by kernel_rfl)) ?_
  intro W base args ds gs before hval0 hW hcnd _
  have hval : ∀ (j : Nat) t v, Try.f8.params[j]? = some t → args[j]? = some v → Value.okWide Try.prog W .any base t v := hval0
  have hW' := hW
  obtain ⟨p, q, hA0, hV, rfl, hfz, hnd⟩ := hW
  have hA : DataW.TrodAll enc Try.prog W 0 (fun _ => true) true Try.f8.params.toList args.toList ds p := hA0
  rw [Try.params8] at hA hval
  obtain ⟨v0, vs0, d0, ds0, p0, q0, hargs, rfl, rfl, h0, r0⟩ := trodAll_cons hA
  obtain ⟨rfl, rfl, rfl⟩ := trodAll_nil r0
  obtain rfl : args = #[v0] := by cases args; simp_all
  obtain ⟨rfl, rfl⟩ := trodVars_none hV
  have k0 := h0
  have lt0 : ∀ x ∈ p0, x.block < W.heap.size := by obtain ⟨m, hm⟩ := k0; exact DataW.trod_lt m _ _ _ hm
  obtain ⟨a0, cap0, l0, rfl, n0, w0⟩ := open_raws (hval 0 34 v0 rfl rfl) h0
  clear hA0 hval0
  refine (raceLocked_walk a0 cap0 l0 W w0 n0).mono fun e W' ⟨he, bel⟩ => ?_
  subst he
  exact ⟨_, rfl, _, _, _, [], _, [], hW', trodAll_mk1 (shut_bool Try.underlying4 _), (trodAll_cons_mk (Below.trod law_laidOut (by kernel_rfl) (of_decide_eq_true (by kernel_rfl)) k0 bel lt0) trodAll_mk0), rfl, bel.frame _, fun h => by cases h⟩

/-- The statement. -/
theorem raceLocked_holds : Rows.RaceLockedSaid :=
  OpenClaim.holds_of_wide 8 Try.f8 rfl rfl rfl rfl rfl rfl rfl ⟨rfl, rfl, rfl, rfl, rfl⟩ rfl rfl rfl rfl rfl (by kernel_rfl) Try.func8 (by kernel_rfl)
    (of_decide_eq_true (by kernel_rfl)) (by unfold Func.isWrapper; first | (rw [if_pos (by decide +kernel)]; kernel_rfl) | (rw [if_neg (by decide +kernel)]; exact ⟨rfl, rfl⟩))
    (fun os started H enc _ => raceLocked_lifted os started H enc)
end Go.Proofs.Ytkcimeiokgafiaa
