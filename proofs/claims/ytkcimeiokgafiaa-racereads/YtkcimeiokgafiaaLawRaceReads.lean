/- RaceReads: behind a lock for reading no races are told, as long as none but locked ones write; for every input. -/
import Derived.Test.YtkcimeiokgafiaaLawRaceLocked
import Derived.Deep.Grids
namespace Go.Proofs.Ytkcimeiokgafiaa
set_option linter.unusedVariables false
set_option linter.unusedSimpArgs false
open Go.ChangeShapes Go.WideShapes Go.ChangeAt Go.RowKit Go.Maps

/-- Bools that came in. -/
def BoolIn (w : World) (a : Option Addr) (l : List Bool) : Prop := ∀ i x, l[i]? = some x → ∃ b off, a = some ⟨b, off, none⟩ ∧ w.cell? ⟨b, off + i, none⟩ = some (.bool x)
theorem boolIn_of {W : World} {x : Addr} {n c : Nat} {B : Nat → Bool} (hl : n ≤ c) (h : ∀ i, i < c → W.cell? (x.add i) = some (.bool (B i))) : BoolIn W (some x) ((List.range n).map B) := by
  intro i z hz
  simp only [List.getElem?_map, Option.map_eq_some_iff] at hz
  obtain ⟨k, hk, rfl⟩ := hz
  have hi : i < n := by have := (List.getElem?_eq_some_iff.1 hk).1; simpa using this
  rw [List.getElem?_range hi] at hk
  obtain rfl := Option.some.inj hk
  obtain ⟨b, off, rfl, hc⟩ := cell_plain (h i (by omega)) ⟨_, h 0 (by omega)⟩
  exact ⟨b, off, rfl, hc⟩
def rdS (x : Int) (b : Bool) : List EvD := if b = true then tripW (x % 3) 8 0 else tripR (x % 3) 0
def rdL (c : List Int) (hw : List Bool) (q : Nat) : List EvD := ((List.range q).map fun i => rdS ((c[i]?).getD 0) ((hw[i]?).getD false)).flatten
theorem rdS_len (x : Int) (b : Bool) : (rdS x b).length = 3 := by unfold rdS; split <;> rfl
theorem rdL_next (c : List Int) (hw : List Bool) (q : Nat) : rdL c hw (q + 1) = rdL c hw q ++ rdS ((c[q]?).getD 0) ((hw[q]?).getD false) := by
  unfold rdL; rw [List.range_succ]; simp
theorem rdL_len (c : List Int) (hw : List Bool) : ∀ q, (rdL c hw q).length = 3 * q
  | 0 => rfl
  | q + 1 => by rw [rdL_next, List.length_append, rdL_len c hw q, rdS_len]; omega
theorem rd_trip (x : Int) (b : Bool) : Trip (rdS x b) := by
  refine ⟨(x % 3).toNat, 8, 0, by omega, .inr rfl, ?_⟩
  have e : (((x % 3).toNat : Nat) : Int) = x % 3 := by omega
  rw [e]
  unfold rdS
  split
  · exact .inl rfl
  · exact .inr rfl
theorem rdL_races (chans : List Int) (c : List Int) (hw : List Bool) {q : Nat} (hq : q ≤ 20) : racesL chans (rdL c hw q) = [] := by
  refine trips_races (fun s hs => ?_) (by simp; omega)
  obtain ⟨i, _, rfl⟩ := List.mem_map.1 hs
  exact rd_trip _ _
theorem rdL_wf (c : List Int) (hw : List Bool) (q : Nat) : ∀ e ∈ rdL c hw q, EvW e := by
  intro e he
  obtain ⟨s, hs, he⟩ := List.mem_flatten.1 he
  obtain ⟨i, _, rfl⟩ := List.mem_map.1 hs
  unfold rdS at he
  split at he
  · simp only [tripW, List.mem_cons, List.not_mem_nil, or_false] at he
    rcases he with rfl | rfl | rfl <;> exact ⟨WalkArith.wf_i64 (by simp only; omega), WalkArith.wf_i64 (by simp only; omega)⟩
  · simp only [tripR, List.mem_cons, List.not_mem_nil, or_false] at he
    rcases he with rfl | rfl | rfl <;> exact ⟨WalkArith.wf_i64 (by simp only; omega), WalkArith.wf_i64 (by simp only; omega)⟩
theorem racyL_none {W : World} (a : Option Addr) (cap n : Nat) (t : List EvD) (he : EvsIn W W.heap.size a t) (hW : ∀ e ∈ t, EvW e) (hn : t.length = n) (hl : n ≤ 1000) (h0 : racesL [] t = []) :
    Calls Try.prog 10 #[.agg #[.int .i64 0, .int .i64 0, .int .i64 1, .slice none 0 0, .int .i64 0, .int .i64 0, .slice none 0 0], .slice a n cap] W fun e w' => e = .returned (.bool false) ∧ Below W.heap.size W w' := by
  subst hn
  refine (racy_any _ _ _ none 0 [] _ _ _ a cap t W he hW (chIn_nil W) (by omega) (by kernel_rfl)).mono ?_
  rintro e w' ⟨rfl, hB⟩
  rw [h0]
  exact ⟨rfl, hB⟩
set_option maxRecDepth 100000 in
set_option maxHeartbeats 4000000 in
theorem raceReads_walk (ca : Option Addr) (cn cc : Nat) (l : List Int) (ha : Option Addr) (hn hc : Nat) (hw : List Bool) (w : World) (h : SliceIn .u8 w ca cn cc l) (h' : hn = hw.length ∧ BoolIn w ha hw) :
    Calls Try.prog 3 #[.slice ca cn cc, .slice ha hn hc] w fun e w' => e = .returned (.bool true) ∧ Below w.heap.size w w' := by
  obtain ⟨ti, hi0, iz0, iz1, iz2⟩ := info_parts info_ev8
  have hcn := h.len_eq
  have hcm : cn ≤ 9223372036854775807 := Nat.le_trans (Nat.le_trans h.len_le h.cap_le) (by decide)
  have HC := Lib.hid h.row
  have HWf := Lib.hid h.fit
  obtain ⟨hhn, hb⟩ := h'
  have HH := Lib.hid hb
  have HKW := Lib.hid (fun V => known8_any V)
  clear h hb
  have HCN := Lib.hid hcn
  have HHN := Lib.hid hhn
  clear hcn hhn
  have HP0 : Hid (EvR w (rdL l hw 0) (.slice none 0 0) w) := Lib.hid ⟨none, 0, rfl, Nat.le_refl _, World.ownsRow_nil _ _ _ _, Below.refl _ _⟩
  go_enter Try.func3, Try.ntmps3
  go_wp2_with fail
  go_loopw [6, 5] (fun i v V => ∃ q : Nat, q ≤ cn ∧ q ≤ 20 ∧ i = .int .i64 q ∧ EvR w (rdL l hw q) v V) (fun i _ _ => 20 - (intOf i).toNat)
  case atStart => exact ⟨0, Nat.zero_le _, by omega, rfl, HP0.out⟩
  case round =>
    obtain ⟨q, hq, hq20, rfl, xa, xc, rfl, hxc, hxo, hUB⟩ := hrel
    have hrl : (rdL l hw q).length = 3 * q := rdL_len l hw q
    have HXO := Lib.hid hxo
    have HUB := Lib.hid hUB
    have hbs : w.heap.size ≤ wr.heap.size := hUB.size
    rw [hrl] at HXO
    rw [hrl] at hxc
    simp only [hrl]
    clear hxo
    by_cases hlt : q < cn
    · have hlt' : (q : Int) < (cn : Int) := by omega
      by_cases h20 : q < 20
      · obtain ⟨x, hp⟩ := at_lt (l := l) (k := q) (by rw [← HCN.out]; exact hlt)
        obtain ⟨g, o, rfl, hg, c0⟩ := HC.out q x hp
        obtain ⟨x0, x1⟩ := bounds_u8 (HWf.out _ (List.mem_of_getElem? hp))
        have HNX := Lib.hid (rdL_next l hw q)
        rw [hp] at HNX
        have h20' : decide ((q : Int) < 20) = true := decide_eq_true (by omega)
        have d0 := keepC hUB c0
        obtain ⟨B, rfl⟩ : ∃ z : Nat, x = z := ⟨x.toNat, by omega⟩
        have hB255 : B ≤ 255 := by omega
        clear hp c0
        by_cases hh : q < hn
        · have hh' : (q : Int) < (hn : Int) := by omega
          obtain ⟨b, hb⟩ := at_lt (l := hw) (k := q) (by rw [← HHN.out]; exact hh)
          obtain ⟨g2, o2, rfl, c2⟩ := HH.out q b hb
          have d2 := keepC hUB c2
          rw [hb] at HNX
          clear hb c2
          cases b
          · have HLK : Hid (rdL l hw (q + 1) = rdL l hw q ++ tripR ((B : Int) % 3) 0) := Lib.hid (by rw [HNX.out]; rfl)
            clear hUB
            go_wp2_with (first
              | (at_builtin; refine wpList_append_own_at _ rfl _ _ 24 rfl w.heap.size 26 ti (evV 0 0 0 0 0 0) 6 48 Try.underlying24 hi0 iz0 iz1 iz2 rfl (by decide) (.slice xa (3 * q) xc) (3 * q) (evsCells (rdL l hw q)) rfl (own_later HXO.out (below_box wr _)) ⟨wr.heap.size, 0, none⟩ 3 3 (evsCells (tripR ((B : Int) % 3) 0)) rfl rfl (cells_new wr _ _) (evs_one _) (by unfold maxLen; omega) (by omega) (by simp; omega) ?_; intro v6 w6 hown6 hgrow6 _ hat6
                 have HB6 : Hid (Below w.heap.size w w6) := Lib.hid ((below_new HUB.out (.cells (evsCells (tripR ((B : Int) % 3) 0)).toArray 26)).trans ((Below.refl _ _).grown hgrow6 (by have := HUB.out.size; simp; omega) (fun g e => (own_lt HXO.out g e).2)))
                 obtain ⟨ya, yc, rfl⟩ := own_slice0 hown6
                 have HO6 := Lib.hid hown6
                 have HYC : Hid (3 * q + 3 ≤ yc) := Lib.hid (by
                   rcases hown6.2 with ⟨_, h0⟩ | ⟨g', c', cur, e', _, _, hle, _⟩
                   · omega
                   · injection e' with e1 e2 e3; omega)
                 clear hown6 hgrow6 hat6))
            go_roundw
            case rel => exact ⟨q + 1, by omega, by omega, by go_num, ya, yc, by rw [HLK.out, List.length_append, hrl]; rfl, by rw [HLK.out, List.length_append, hrl]; exact HYC.out, by rw [HLK.out, List.length_append, hrl, evsCells_app]; exact HO6.out, HB6.out⟩
            case measure => simp [intOf]; omega
          · have HLK : Hid (rdL l hw (q + 1) = rdL l hw q ++ tripW ((B : Int) % 3) 8 0) := Lib.hid (by rw [HNX.out]; rfl)
            clear hUB
            go_wp2_with (first
              | (at_builtin; refine wpList_append_own_at _ rfl _ _ 24 rfl w.heap.size 26 ti (evV 0 0 0 0 0 0) 6 48 Try.underlying24 hi0 iz0 iz1 iz2 rfl (by decide) (.slice xa (3 * q) xc) (3 * q) (evsCells (rdL l hw q)) rfl (own_later HXO.out (below_box wr _)) ⟨wr.heap.size, 0, none⟩ 3 3 (evsCells (tripW ((B : Int) % 3) 8 0)) rfl rfl (cells_new wr _ _) (evs_one _) (by unfold maxLen; omega) (by omega) (by simp; omega) ?_; intro v6 w6 hown6 hgrow6 _ hat6
                 have HB6 : Hid (Below w.heap.size w w6) := Lib.hid ((below_new HUB.out (.cells (evsCells (tripW ((B : Int) % 3) 8 0)).toArray 26)).trans ((Below.refl _ _).grown hgrow6 (by have := HUB.out.size; simp; omega) (fun g e => (own_lt HXO.out g e).2)))
                 obtain ⟨ya, yc, rfl⟩ := own_slice0 hown6
                 have HO6 := Lib.hid hown6
                 have HYC : Hid (3 * q + 3 ≤ yc) := Lib.hid (by
                   rcases hown6.2 with ⟨_, h0⟩ | ⟨g', c', cur, e', _, _, hle, _⟩
                   · omega
                   · injection e' with e1 e2 e3; omega)
                 clear hown6 hgrow6 hat6))
            go_roundw
            case rel => exact ⟨q + 1, by omega, by omega, by go_num, ya, yc, by rw [HLK.out, List.length_append, hrl]; rfl, by rw [HLK.out, List.length_append, hrl]; exact HYC.out, by rw [HLK.out, List.length_append, hrl, evsCells_app]; exact HO6.out, HB6.out⟩
            case measure => simp [intOf]; omega
        · have hh' : ¬ (q : Int) < (hn : Int) := by omega
          have hb : hw[q]? = none := List.getElem?_eq_none (by rw [← HHN.out]; omega)
          rw [hb] at HNX
          clear hb
          have HLK : Hid (rdL l hw (q + 1) = rdL l hw q ++ tripR ((B : Int) % 3) 0) := Lib.hid (by rw [HNX.out]; rfl)
          clear hUB
          go_wp2_with (first
            | (at_builtin; refine wpList_append_own_at _ rfl _ _ 24 rfl w.heap.size 26 ti (evV 0 0 0 0 0 0) 6 48 Try.underlying24 hi0 iz0 iz1 iz2 rfl (by decide) (.slice xa (3 * q) xc) (3 * q) (evsCells (rdL l hw q)) rfl (own_later HXO.out (below_box wr _)) ⟨wr.heap.size, 0, none⟩ 3 3 (evsCells (tripR ((B : Int) % 3) 0)) rfl rfl (cells_new wr _ _) (evs_one _) (by unfold maxLen; omega) (by omega) (by simp; omega) ?_; intro v6 w6 hown6 hgrow6 _ hat6
               have HB6 : Hid (Below w.heap.size w w6) := Lib.hid ((below_new HUB.out (.cells (evsCells (tripR ((B : Int) % 3) 0)).toArray 26)).trans ((Below.refl _ _).grown hgrow6 (by have := HUB.out.size; simp; omega) (fun g e => (own_lt HXO.out g e).2)))
               obtain ⟨ya, yc, rfl⟩ := own_slice0 hown6
               have HO6 := Lib.hid hown6
               have HYC : Hid (3 * q + 3 ≤ yc) := Lib.hid (by
                 rcases hown6.2 with ⟨_, h0⟩ | ⟨g', c', cur, e', _, _, hle, _⟩
                 · omega
                 · injection e' with e1 e2 e3; omega)
               clear hown6 hgrow6 hat6))
          go_roundw
          case rel => exact ⟨q + 1, by omega, by omega, by go_num, ya, yc, by rw [HLK.out, List.length_append, hrl]; rfl, by rw [HLK.out, List.length_append, hrl]; exact HYC.out, by rw [HLK.out, List.length_append, hrl, evsCells_app]; exact HO6.out, HB6.out⟩
          case measure => simp [intOf]; omega
      · have h20' : decide ((q : Int) < 20) = false := decide_eq_false (by omega)
        have hm : 3 * q ≤ 1000 := by omega
        have HEV := Lib.hid (evsIn_own HXO.out)
        have HWL := Lib.hid (rdL_wf l hw q)
        have HR0 := Lib.hid (rdL_races [] l hw hq20)
        have HLN := Lib.hid hrl
        generalize rdL l hw q = T at *
        clear hrl
        generalize 3 * q = m at *
        go_wp2_with (first
          | (have _g := hB5; go_at_call 10; refine (racyL_none xa xc m T (HEV.out.later hB5) HWL.out HLN.out hm HR0.out).mono ?_; rintro e w6 ⟨rfl, hB6⟩)
          | (go_at_call 9; refine (HKW.out _).mono ?_; rintro e w5 ⟨rfl, hB5⟩))
        go_ret
        exact ⟨rfl, below_next hUB (below_next hB5 hB6)⟩
    · have hlt' : ¬ (q : Int) < (cn : Int) := by omega
      have hm : 3 * q ≤ 1000 := by omega
      have HEV := Lib.hid (evsIn_own HXO.out)
      have HWL := Lib.hid (rdL_wf l hw q)
      have HR0 := Lib.hid (rdL_races [] l hw hq20)
      have HLN := Lib.hid hrl
      generalize rdL l hw q = T at *
      clear hrl
      generalize 3 * q = m at *
      go_wp2_with (first
        | (have _g := hB5; go_at_call 10; refine (racyL_none xa xc m T (HEV.out.later hB5) HWL.out HLN.out hm HR0.out).mono ?_; rintro e w6 ⟨rfl, hB6⟩)
        | (go_at_call 9; refine (HKW.out _).mono ?_; rintro e w5 ⟨rfl, hB5⟩))
      go_ret
      exact ⟨rfl, below_next hUB (below_next hB5 hB6)⟩
set_option maxRecDepth 100000 in
theorem raceReads_lifted (os : Os) (started : os.Started) (H : Type) (enc : TypeId × Value → H) :
    ReturnsInHanded {} Try.checked os 3 .any (Rows.raceReadsSpec.pre6 enc Try.prog Try.f3 Rows.raceReadsRow.domain false) (Rows.raceReadsSpec.post enc Try.prog Try.f3 false true false false) := by
  refine returnsInHanded_of_change (C := Try.checked) law_own started (by kernel_rfl) Try.func3
    (ChangeSpec.witness6 (enc := enc) (C := Try.checked) false ⟨#[], #[.slice none 0 0, .slice none 0 0], []⟩ 8 (by kernel_rfl) (by kernel_rfl) (by kernel_rfl) (by kernel_rfl)) ?_
  intro W base args ds gs before hval0 hW hcnd _
  have hval : ∀ (j : Nat) t v, Try.f3.params[j]? = some t → args[j]? = some v → Value.okWide Try.prog W .any base t v := hval0
  have hW' := hW
  obtain ⟨p, q, hA0, hV, rfl, hfz, hnd⟩ := hW
  have hA : DataW.TrodAll enc Try.prog W 0 (fun _ => true) true Try.f3.params.toList args.toList ds p := hA0
  rw [Try.params3] at hA hval
  obtain ⟨v0, vs0, d0, ds0, p0, q0, hargs, rfl, rfl, h0, r0⟩ := trodAll_cons hA
  obtain ⟨v1, vs1, d1, ds1, p1, q1, rfl, rfl, rfl, h1, r1⟩ := trodAll_cons r0
  obtain ⟨rfl, rfl, rfl⟩ := trodAll_nil r1
  obtain rfl : args = #[v0, v1] := by cases args; simp_all
  obtain ⟨rfl, rfl⟩ := trodVars_none hV
  obtain ⟨a0, len0, cap0, rfl⟩ := okWide_slice Try.underlying22 (hval 0 22 v0 rfl rfl)
  have k0 := h0
  have lt0 : ∀ x ∈ p0, x.block < W.heap.size := by obtain ⟨m, hm⟩ := k0; exact DataW.trod_lt m _ _ _ hm
  obtain ⟨l0, w0⟩ : ∃ l, SliceIn .u8 W a0 len0 cap0 l := by
    obtain ⟨fuel, hf⟩ := h0
    rcases open_ints Try.underlying22 Try.underlying5 (by kernel_rfl) hf with ⟨hcs, _⟩ | ⟨x, l, c, zs, hcs, _, hl, hm, hz, _, hcell, hwz⟩
    · simp [Value.cells] at hcs
      obtain ⟨rfl, rfl, rfl⟩ := hcs
      exact ⟨[], SliceIn.nil _ _⟩
    · simp [Value.cells] at hcs
      obtain ⟨rfl, rfl, rfl⟩ := hcs
      exact ⟨_, SliceIn.of hl hm (by simpa using hz) hcell hwz⟩
  obtain ⟨a1, len1, cap1, rfl⟩ := okWide_slice Try.underlying23 (hval 1 23 v1 rfl rfl)
  have k1 := h1
  have lt1 : ∀ x ∈ p1, x.block < W.heap.size := by obtain ⟨m, hm⟩ := k1; exact DataW.trod_lt m _ _ _ hm
  obtain ⟨l1, w1⟩ : ∃ l, len1 = List.length l ∧ BoolIn W a1 l := by
    obtain ⟨fuel, hf⟩ := h1
    rcases Go.Deep.open_bools Try.underlying23 Try.underlying4 (by kernel_rfl) hf with ⟨hcs, _⟩ | ⟨x, l, c, B, hcs, _, hl, hm, _, hcell⟩
    · simp [Value.cells] at hcs
      obtain ⟨rfl, rfl, rfl⟩ := hcs
      exact ⟨[], rfl, fun i x h => by simp at h⟩
    · simp [Value.cells] at hcs
      obtain ⟨rfl, rfl, rfl⟩ := hcs
      exact ⟨(List.range len1).map B, by simp, boolIn_of hl hcell⟩
  clear hA0 hval0
  refine (raceReads_walk a0 len0 cap0 l0 a1 len1 cap1 l1 W w0 w1).mono fun e W' ⟨he, bel⟩ => ?_
  subst he
  exact ⟨_, rfl, _, _, _, [], _, [], hW', trodAll_mk1 (shut_bool Try.underlying4 _), (trodAll_cons_mk (Below.trod law_laidOut (by kernel_rfl) (of_decide_eq_true (by kernel_rfl)) k0 bel lt0) (trodAll_cons_mk (Below.trod law_laidOut (by kernel_rfl) (of_decide_eq_true (by kernel_rfl)) k1 bel lt1) trodAll_mk0)), rfl, bel.frame _, fun h => by cases h⟩

/-- The statement. -/
theorem raceReads_holds : Rows.RaceReadsSaid :=
  OpenClaim.holds_of_wide 3 Try.f3 rfl rfl rfl rfl rfl rfl rfl ⟨rfl, rfl, rfl, rfl, rfl⟩ rfl rfl rfl rfl rfl (by kernel_rfl) Try.func3 (by kernel_rfl)
    (of_decide_eq_true (by kernel_rfl)) (by unfold Func.isWrapper; first | (rw [if_pos (by decide +kernel)]; kernel_rfl) | (rw [if_neg (by decide +kernel)]; exact ⟨rfl, rfl⟩))
    (fun os started H enc _ => raceReads_lifted os started H enc)
end Go.Proofs.Ytkcimeiokgafiaa
