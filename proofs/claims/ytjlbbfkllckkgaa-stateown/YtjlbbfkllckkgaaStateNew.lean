/- New: a state that begins; the laws own picks. -/
import Derived.Test.YtjlbbfkllckkgaaStateRun
import Derived.Test.YtjlbbfkllckkgaaStateClone
import Derived.Test.YtjlbbfkllckkgaaIrSound2
import Derived.ProofKit
namespace Go.Proofs.Ytjlbbfkllckkgaa
set_option linter.unusedVariables false
set_option linter.unusedSimpArgs false
set_option maxRecDepth 100000
open Go.ChangeShapes Go.WideShapes Go.ChangeAt Go.RowKit

set_option maxHeartbeats 1000000 in
theorem new_no (p : ProgD) (ca : Option Addr) (ccap : Nat) (ta : Option Addr) (tcap : Nat) (w : World) (hp : ProgIn w w.heap.size p ca ta) (hs : soundE p ≠ 0) :
    Calls Try.prog 9 #[p.val ca ccap ta tcap] w fun e w' => e = .returned (.pointer none) ∧ Below w.heap.size w w' := by
  have hb : ∀ o, Below w.heap.size w (w.alloc o) := fun o => (Below.refl _ _).alloc (Nat.le_refl _) _
  have HP := Lib.hid (fun o => ProgIn.wide (hp.below (hb o)) (hb o).size)
  have he : (soundE p != 0) = true := by simpa using hs
  clear hp hs
  generalize hE : soundE p = ee at he
  have HE := Lib.hid hE
  clear hE
  go_enter Try.func9, Try.ntmps9
  go_wp2_with (first
    | (go_at_call 21; refine (sound_any p ca ccap ta tcap _ (HP.out _)).mono ?_; rintro e w1 ⟨rfl, hB1⟩; rw [HE.out]))
  go_ret
  exact ⟨rfl, (hb _).trans (hB1.mono (by simp))⟩

/-- The numbers of a state that begins, as far as the first k channels are laid. -/
def beginM (chans : List Int) (k : Nat) : Nat → Int := fun i => if 57 ≤ i ∧ i ≤ 80 ∧ (i - 57) % 6 = 4 ∧ (i - 57) / 6 < k then (chans[(i - 57) / 6]?).getD 0 else 0
def newM (chans : List Int) : Nat → Int := upd (beginM chans chans.length) 1 1
theorem beginM_zero (chans : List Int) (i : Nat) : beginM chans 0 i = 0 := by
  unfold beginM; rw [if_neg (by omega)]
theorem beginM_succ {chans : List Int} {k : Nat} {x : Int} (hx : chans[k]? = some x) (hk : k < 4) : beginM chans (k + 1) = upd (beginM chans k) (57 + k * 6 + 4) x := by
  funext i
  unfold upd
  by_cases e : i = 57 + k * 6 + 4
  · subst e
    have h1 : (57 + k * 6 + 4 - 57) / 6 = k := by omega
    rw [if_pos rfl]
    unfold beginM
    rw [if_pos (by omega), h1, hx]; rfl
  · rw [if_neg e]
    unfold beginM
    by_cases h : 57 ≤ i ∧ i ≤ 80 ∧ (i - 57) % 6 = 4 ∧ (i - 57) / 6 < k
    · rw [if_pos h, if_pos (by omega)]
    · rw [if_neg h, if_neg (by omega)]
theorem zero_at : ∀ i, i < 91 → i ≠ 0 → i ≠ 89 → Try.zeroCells73[i]? = some (valAt i 0) := by
  have h : Try.zeroCells73.toList = (List.range 91).map (fun i => if i = 0 ∨ i = 89 then Value.slice none 0 0 else valAt i 0) := by kernel_rfl
  intro i h1 h2 h3
  rw [← Array.getElem?_toList, h, List.getElem?_map, List.getElem?_range h1]
  simp [h2, h3]
/-- While the code is laid. -/
structure LaySt (w u : World) (b : Nat) (tv : Value) (vs : List Value) (cs : List (List InsD)) : Prop where
  box : ∃ r, u.heap[b]? = some (.cells r 73) ∧ r.size = 91 ∧ r[0]? = some tv ∧ r[89]? = some (.slice none 0 0) ∧ ∀ i, i < 91 → i ≠ 0 → i ≠ 89 → r[i]? = some (valAt i 0)
  own : OwnThreads u (b + 1) tv vs cs
  bel : Below w.heap.size w u
  at_ : w.heap.size ≤ b
  lt : b < u.heap.size

theorem LaySt.later {w u u' : World} {b : Nat} {tv : Value} {vs : List Value} {cs : List (List InsD)} (h : LaySt w u b tv vs cs) (hB : Below u.heap.size u u') : LaySt w u' b tv vs cs := by
  obtain ⟨r, r1, r2⟩ := h.box
  exact ⟨⟨r, (hB.block _ h.lt).trans r1, r2⟩, h.own.later hB, h.bel.trans (hB.mono h.bel.size), h.at_, Nat.lt_of_lt_of_le h.lt hB.size⟩
theorem LaySt.push {w u u' : World} {b : Nat} {tv tv' v : Value} {vs : List Value} {cs : List (List InsD)} {c : List InsD} (h : LaySt w u b tv vs cs)
    (hv : u.ownsRow (b + 1) 24 4 v c.length (codeCells c)) (haT : Apart v tv) (haV : ∀ (k : Nat) (x : Value), vs[k]? = some x → Apart x v)
    (hrow : u'.ownsRow (b + 1) 25 1 tv' (vs.length + 1) (vs ++ [v])) (hg : u.grownBy u' tv.ownBlock) (hat : tv'.ownBlock = tv.ownBlock ∨ tv'.ownBlock = some u.heap.size) :
    (u'.cell? ⟨b, 0, none⟩ = some tv ∧ u'.frozen? ⟨b, 0, none⟩ = false) ∧ LaySt w (u'.setCell ⟨b, 0, none⟩ tv') b tv' (vs ++ [v]) (cs ++ [c]) := by
  obtain ⟨r, r1, r2, r3, r4, r5⟩ := h.box
  have hT : tv.ownBlock ≠ some b := fun e => by have := (own_lt h.own.thr _ e).2; omega
  have hbx := (hg.block b h.lt (fun e => hT e.symm)).trans r1
  have hS := h.own.snoc hv haT haV hrow hg hat
  refine ⟨⟨(cell_of_row _ _ _ _ _ _ hbx).trans r3, frozen_of_row _ _ _ _ _ hbx⟩, ⟨⟨r.setIfInBounds 0 tv', stSet_block u' b 0 tv' hbx, by simpa using r2, ?_, ?_, fun j hj j0 j9 => ?_⟩, hS.setOff ?_ ?_ 0 tv', ?_, h.at_, by rw [size_setCell]; exact Nat.lt_of_lt_of_le h.lt hg.size⟩⟩
  · rw [Array.getElem?_setIfInBounds_self_of_lt (by omega)]
  · rw [Array.getElem?_setIfInBounds_ne (by omega)]; exact r4
  · rw [Array.getElem?_setIfInBounds_ne (by omega)]; exact r5 j hj j0 j9
  · intro e; have := (own_lt hrow _ e).2; omega
  · intro k x hx e
    obtain ⟨d, _, hd⟩ := hS.codeOf hx
    have := (own_lt hd _ e).2; omega
  · exact (h.bel.grown hg h.bel.size (fun k e => by have := (own_lt h.own.thr k e).2; have := h.at_; omega)).setCell (p := ⟨b, 0, none⟩) h.at_ _
theorem apart_new {u : World} {N : Nat} {e : TypeId} {n s : Nat} {v x : Value} {xs : List Value} (hv : u.ownsRow N e s v n xs) (hx : ∀ g, x.ownBlock = some g → g < N) : Apart x v := by
  by_cases h : x.ownBlock = none
  · exact .inl h
  · refine .inr fun e => ?_
    rcases hq : x.ownBlock with _ | g
    · exact h hq
    · have h1 := hx g hq
      have h2 := (own_lt hv g (by rw [← e]; exact hq)).2
      omega

theorem LaySt.rows {w u : World} {b : Nat} {tv : Value} {vs : List Value} {cs : List (List InsD)} (h : LaySt w u b tv vs cs) : ∃ a cap, tv = .slice a cs.length cap ∧ RowsIn u (b + 1) u.heap.size a cs := by
  obtain ⟨a, cap, rfl, hT⟩ := h.own.threads_in
  refine ⟨a, cap, rfl, fun k c hc => ?_⟩
  obtain ⟨g, off, rfl, h2, a', cap', h3, h4⟩ := hT k c hc
  have hg := (own_lt h.own.thr g rfl).2
  refine ⟨g, off, rfl, hg, h2, a', cap', h3, fun j x hx => ?_⟩
  obtain ⟨g', off', rfl, h5, h6⟩ := h4 j x hx
  obtain ⟨v, hv, hrow⟩ := h.own.codeAt hc
  have e : v = .slice (some ⟨g', off', none⟩) c.length cap' := by
    rcases h.own.thr.2 with ⟨e1, e2⟩ | ⟨g0, cap0, cur, e1, _, hh, hle, _, hs, ht⟩
    · cases e1
    · injection e1 with e1 e2 e3
      injection e1 with e1
      injection e1 with e1 e4
      subst e1 e4
      have hk := (List.getElem?_eq_some_iff.1 hv).1
      rw [Nat.zero_add, cell_of_row _ _ _ _ _ _ hh] at h3
      rw [← ht, List.getElem?_take_of_lt (by omega)] at hv
      simp at hv
      rw [h3] at hv
      exact (Option.some.inj hv).symm
  subst e
  exact ⟨g', off', rfl, (own_lt hrow g' rfl).2, h5, h6⟩
theorem LaySt.st {w u : World} {b : Nat} {tv : Value} {vs : List Value} {cs : List (List InsD)} (h : LaySt w u b tv vs cs) (chans : List Int) (h6 : cs.length ≤ 6) (hl : ∀ c ∈ cs, c.length ≤ 60) : StIn u b (b + 1) u.heap.size (.slice none 0 0) (beginM chans 0) cs [] := by
  obtain ⟨r, r1, r2, r3, r4, r5⟩ := h.box
  obtain ⟨a, cap, rfl, hR⟩ := h.rows
  exact ⟨⟨r, a, cap, r1, r2, r3, r4, fun i h1 h2 h3 => by rw [beginM_zero]; exact r5 i h1 h2 h3, hR⟩, World.ownsRow_nil _ _ _ _, .inl (by omega), by simp [Value.ownBlock], h6, hl, Nat.le_refl _⟩
theorem st_one_new0 (w : World) (v : Value) (t : TypeId) : ∀ j u, [v][j]? = some u → (w.alloc (.cells #[v] t)).cell? ((⟨w.heap.size, 0, none⟩ : Addr).add j) = some u := fun j u hu => by
  cases j with
  | zero =>
    obtain rfl : v = u := by simpa using hu
    exact cell_of_row _ _ 0 _ _ _ (heap_alloc_new w _)
  | succ j => simp at hu

set_option maxHeartbeats 1000000 in
theorem new_yes (p : ProgD) (ca : Option Addr) (ccap : Nat) (ta : Option Addr) (tcap : Nat) (w : World) (hp : ProgIn w w.heap.size p ca ta) (hs : soundE p = 0) :
    Calls Try.prog 9 #[p.val ca ccap ta tcap] w fun e w' => ∃ b, e = .returned (.pointer (some ⟨b, 0, none⟩)) ∧ Below w.heap.size w w' ∧ w.heap.size ≤ b ∧ StIn w' b (b + 1) w'.heap.size (.slice none 0 0) (newM p.chans) p.threads [] := by
  have hb : ∀ o, Below w.heap.size w (w.alloc o) := fun o => (Below.refl _ _).alloc (Nat.le_refl _) _
  have HP := Lib.hid (fun o => ProgIn.wide (hp.below (hb o)) (hb o).size)
  have HT := Lib.hid hp.threads
  have HCh := Lib.hid hp.chans
  have hsz : sizesB p = true := by
    rcases h : sizesB p with _ | _
    · simp [soundE, h, firstE, unE] at hs
    · rfl
  have htl : p.threads.length ≤ 6 := (sizes_parts hsz).2.2.2.2.2.2.1.2
  have HL := Lib.hid (sizes_parts hsz).2.2.2.2.2.2.2
  have hc4 : p.chans.length ≤ 4 := (sizes_parts hsz).2.2.2.2.2.1
  have HE := Lib.hid hs
  clear hp hs hsz
  obtain ⟨j0, hj, hy0, hy1, hy2⟩ := info_parts info_codeT
  go_enter Try.func9, Try.ntmps9
  go_wp2_with (first
    | (go_at_call 21; refine (sound_any p ca ccap ta tcap _ (HP.out _)).mono ?_; rintro e w1 ⟨rfl, hB1⟩; rw [HE.out]; have hN1 := (hB1.block w.heap.size (by simp)).trans (heap_alloc_new w _); have HN1 := Lib.hid hN1; have HB1 := Lib.hid (show Below w.heap.size w w1 from (hb _).trans (hB1.mono (by simp))); have c6 : (w1.alloc (.cells Try.zeroCells73 73)).cell? ⟨w.heap.size, 6, none⟩ = some (.slice ta p.threads.length tcap) := cell_of_row _ _ _ _ _ _ ((Below.heap_alloc _ _ _ (Array.getElem?_eq_some_iff.1 hN1).1).trans hN1); clear hB1 hN1))
  generalize hU : World.alloc w1 _ = U
  have HL0 : Hid (LaySt w1 U w1.heap.size (.slice none 0 0) [] (p.threads.take 0)) := by
    rw [← hU]
    exact ⟨⟨_, heap_alloc_new _ _, rfl, rfl, rfl, zero_at⟩, OwnThreads.nil _ _, (Below.refl _ _).alloc (Nat.le_refl _) _, Nat.le_refl _, by simp⟩
  clear hU c6
  go_loopw [16] (fun i wr => ∃ k : Nat, k ≤ p.threads.length ∧ i = .int .i64 k ∧ ∃ tv vs, Hid (LaySt w1 wr w1.heap.size tv vs (p.threads.take k))) (fun i _ => p.threads.length - (intOf i).toNat)
  case atStart => exact ⟨0, Nat.zero_le _, rfl, _, _, HL0⟩
  case round =>
    obtain ⟨k, hk, rfl, tv, vs, HZ⟩ := hrel
    by_cases hlt : k < p.threads.length
    · obtain ⟨c, hc⟩ := at_lt hlt
      have hcl := HL.out c (List.mem_of_getElem? hc)
      obtain ⟨tb, off, rfl, htb, a', cap', hcell, hcode⟩ := HT.out k c hc
      have hBw : Below w.heap.size w wr := HB1.out.trans (HZ.out.bel.mono HB1.out.size)
      have hcell' := (hBw.cell (p := ⟨tb, off + k, none⟩) htb).trans hcell
      have HX : Hid (∀ u, Below wr.heap.size wr u → Calls Try.prog 22 #[.slice a' c.length cap'] u fun e w' => ∃ v, e = .returned v ∧ w'.ownsRow u.heap.size 24 4 v c.length (codeCells c) ∧ Below u.heap.size u w') := Lib.hid (fun u hu => cloneIns_any a' cap' c w.heap.size u (hcode.below (hBw.trans (hu.mono hBw.size))) (by omega))
      obtain ⟨r, r1, r2, r3, r4, r5⟩ := HZ.out.box
      have hc0 : wr.cell? ⟨w1.heap.size, 0, none⟩ = some tv := (cell_of_row _ _ _ _ _ _ r1).trans r3
      obtain ⟨tva, tvc, rfl⟩ := st_slice HZ.out.own.thr
      have hvl : vs.length = k := by rw [HZ.out.own.len, List.length_take]; omega
      have hZlt := HZ.out.lt
      have HVn := Lib.hid hvl
      clear hvl
      have HTl : Hid (∀ g, (Value.slice tva vs.length tvc).ownBlock = some g → g < wr.heap.size) := Lib.hid (fun g e => (own_lt HZ.out.own.thr g e).1)
      have HVl : Hid (∀ (j : Nat) (x : Value), vs[j]? = some x → ∀ g, x.ownBlock = some g → g < wr.heap.size) := Lib.hid (fun j x hx g e => by obtain ⟨d, _, hd⟩ := HZ.out.own.codeOf hx; exact (own_lt hd g e).1)
      have HCc := Lib.hid hc
      clear hcell hcode hc r1 r3 r5 r4
      go_wp2_with fail
      go_region_law (first
        | (go_simp; go_at_call 22; refine (HX.out _ (by first | exact (Below.refl _ _).drew)).mono ?_; rintro e w2 ⟨v, rfl, hown, hB2⟩; have hB3 : Below wr.heap.size wr w2 := (Below.refl _ wr).drew.trans hB2; have hZ2 := HZ.out.later hB3; have d0 : w2.cell? ⟨w1.heap.size, 0, none⟩ = some (.slice tva vs.length tvc) := (hB3.cell (p := ⟨w1.heap.size, 0, none⟩) hZlt).trans hc0; have d0' : ∀ o, (w2.alloc o).cell? ⟨w1.heap.size, 0, none⟩ = some (.slice tva vs.length tvc) := fun o => Lib.cell?_alloc_some _ d0; have HO := Lib.hid hown; have HZ2 := Lib.hid hZ2; have HB3 := Lib.hid hB3; obtain ⟨va, vc, rfl⟩ := st_slice hown; clear hown hB2 hZ2 hB3)
        | ((rw [if_pos (by rfl)]); refine wp_append_own_at _ (.tmp 24) (.tmp 27) 26 rfl (w1.heap.size + 1) 25 j0 (.slice none 0 0) 1 24 Try.underlying26 hj hy0 hy1 hy2 rfl (by decide) (.slice tva vs.length tvc) vs.length vs rfl (own_later HZ2.out.own.thr (by first | exact below_box w2 _ | exact (below_box w2 _).drew)) ⟨w2.heap.size, 0, none⟩ 1 1 [.slice va c.length vc] rfl rfl (by first | exact st_one_new0 _ _ _ | exact st_one_new _ _ _) (by simp [Value.oneCell']) (by have := HVn.out; unfold maxLen; omega) (by have := HVn.out; omega) (by have := HB3.out.size; simp; omega) ?_; intro tv' w4 hown4 hgrow4 _ hat4; obtain ⟨⟨hcb, hfb⟩, hst⟩ := LaySt.push (c := c) (HZ2.out.later (by first | exact below_box w2 _ | exact (below_box w2 _).drew)) (own_later (own_base HO.out (by show _ ≤ wr.heap.size; omega)) (by first | exact below_box w2 _ | exact (below_box w2 _).drew)) (apart_new HO.out HTl.out).symm (fun j x hx => apart_new HO.out (HVl.out j x hx)) hown4 hgrow4 hat4; have HSt := Lib.hid hst; obtain ⟨ta4, tc4, rfl⟩ := st_slice hown4; clear hst hown4 hgrow4 hat4))
      all_goals
        go_wp2
        go_roundw
        case rel => exact ⟨k + 1, by omega, by go_num, _, _, by rw [List.take_add_one, HCc.out]; exact HSt⟩
        case measure => simp [intOf]; omega
    · obtain rfl : k = p.threads.length := by omega
      have S0 := HZ.out.st p.chans (by rw [List.take_length]; exact htl) (by rw [List.take_length]; exact HL.out)
      rw [List.take_length] at S0
      have hwz : w.heap.size < w1.heap.size := (Array.getElem?_eq_some_iff.1 HN1.out).1
      have hN2 := (HZ.out.bel.block _ hwz).trans HN1.out
      have c3 : wr.cell? ⟨w.heap.size, 3, none⟩ = some (.slice ca p.chans.length ccap) := cell_of_row _ _ _ _ _ _ hN2
      have HS0 := Lib.hid S0
      clear S0 hN2
      go_wp2
      go_loopw [35] (fun i u => ∃ k : Nat, k ≤ p.chans.length ∧ i = .int .i64 k ∧ Below w1.heap.size w1 u ∧ Hid (StIn u w1.heap.size (w1.heap.size + 1) wr.heap.size (.slice none 0 0) (beginM p.chans k) p.threads [])) (fun i _ => p.chans.length - (intOf i).toNat)
      case atStart => exact ⟨0, Nat.zero_le _, rfl, HZ.out.bel, HS0⟩
      case round =>
        obtain ⟨k, hk, rfl, hBu, HZu⟩ := hrel
        by_cases hlk : k < p.chans.length
        · obtain ⟨x, hx⟩ := at_lt hlk
          obtain ⟨cb, off, rfl, hcb, hcell⟩ := HCh.out k x hx
          have hcell' := ((HB1.out.trans (hBu.mono HB1.out.size)).cell (p := ⟨cb, off + k, none⟩) hcb).trans hcell
          have hm := HZu.out.cellI (57 + k * 6 + 4) (by simp [isB]; omega) (by omega) (by omega) (by omega)
          have hf := HZu.out.frozen (57 + k * 6 + 4)
          have hk4 : (k : Int) < 4 := by omega
          have HX := Lib.hid hx
          clear hcell hx
          go_wp2
          go_roundw
          case rel => exact ⟨k + 1, by omega, by go_num, stBelow_set hBu (Nat.le_refl _), by rw [beginM_succ HX.out (by omega)]; exact HZu.out.set (57 + k * 6 + 4) x _ (valAt_i (by simp [isB]; omega) (by omega)).symm (by omega) (by omega)⟩
          case measure => simp [intOf]; omega
        · obtain rfl : k = p.chans.length := by omega
          have hm := HZu.out.on 0 (by omega)
          have hf := HZu.out.frozen 1
          go_wp2
          go_ret
          have hS := HZu.out.set 1 1 (.bool true) (by rw [valAt_b (by simp [isB])]; rfl) (by omega) (by omega)
          refine ⟨_, rfl, stBelow_set (HB1.out.trans (hBu.mono HB1.out.size)) HB1.out.size, HB1.out.size, ?_⟩
          obtain ⟨cs, a, cap, g1, g2, g3, g4, g5, g6⟩ := hS.box
          exact ⟨⟨cs, a, cap, g1, g2, g3, g4, g5, g6.mono hS.top⟩, World.ownsRow_nil _ _ _ _, .inl (by omega), hS.two, hS.len, hS.lens, Nat.le_refl _⟩
end Go.Proofs.Ytjlbbfkllckkgaa

namespace Go.Proofs.Ytjlbbfkllckkgaa
set_option linter.unusedVariables false
set_option linter.unusedSimpArgs false
set_option maxRecDepth 100000
open Go.ChangeShapes Go.WideShapes Go.ChangeAt Go.RowKit

theorem firstE_zero {l : List Int} (h : firstE l = 0) : ∀ e ∈ l, e = 0 := by
  induction l with
  | nil => intro e he; simp at he
  | cons x r ih =>
    unfold firstE at h
    by_cases hx : x = 0
    · rw [if_pos hx] at h
      intro e he
      rcases List.mem_cons.1 he with rfl | he
      · exact hx
      · exact ih h e he
    · rw [if_neg hx] at h; exact absurd h hx
theorem sound_parts {p : ProgD} (h : soundE p = 0) : sizesB p = true ∧ capsB p.chans = true ∧ threadsE p = 0 := by
  have h1 := firstE_zero h
  refine ⟨?_, ?_, h1 _ (by simp)⟩
  · have := h1 (unE (sizesB p) 3) (by simp)
    rcases hq : sizesB p with _ | _
    · simp [hq, unE] at this
    · rfl
  · have := h1 (unE (capsB p.chans) 21) (by simp)
    rcases hq : capsB p.chans with _ | _
    · simp [hq, unE] at this
    · rfl
theorem newM_zero (chans : List Int) {i : Nat} (h1 : i ≠ 1) (h : i < 57 ∨ 80 < i ∨ (i - 57) % 6 ≠ 4) : newM chans i = 0 := by
  unfold newM
  rw [upd_ne _ _ h1]
  unfold beginM
  rw [if_neg (by omega)]
theorem newM_most (chans : List Int) {c : Nat} (hc : c < 4) : newM chans (57 + c * 6 + 4) = (chans[c]?).getD 0 := by
  unfold newM
  rw [upd_ne _ _ (by omega)]
  unfold beginM
  rw [show (57 + c * 6 + 4 - 57) / 6 = c by omega]
  by_cases h : c < chans.length
  · rw [if_pos (by omega)]
  · rw [if_neg (by omega), List.getElem?_eq_none (by omega)]; rfl
theorem inv_new {p : ProgD} (h : soundE p = 0) : Inv (newM p.chans) p.threads := by
  obtain ⟨h1, h2, h3⟩ := sound_parts h
  have htl : p.threads.length ≤ 6 := (sizes_parts h1).2.2.2.2.2.2.1.2
  refine ⟨fun k c hc => ⟨0, ?_, Nat.zero_le _⟩, fun k c hc x hx => ?_, fun c hc => ?_⟩
  · have := (List.getElem?_eq_some_iff.1 hc).1
    rw [newM_zero _ (by omega) (by omega)]; rfl
  · refine insFit_of h1 ?_
    have h4 := firstE_zero h3 (codeE p c) (List.mem_map.2 ⟨c, List.mem_of_getElem? hc, rfl⟩)
    exact firstE_zero h4 _ (List.mem_map.2 ⟨x, hx, rfl⟩)
  · rw [newM_zero _ (by omega) (by omega), newM_most _ hc]
    rcases hq : p.chans[c]? with _ | y
    · simp
    · have h5 : wiB y 1 3 = true := by
        simp only [capsB, List.all_eq_true] at h2
        exact h2 y (List.mem_of_getElem? hq)
      rw [wiB_true] at h5
      simp; omega

theorem new_run (p : ProgD) (ca : Option Addr) (ccap : Nat) (ta : Option Addr) (tcap : Nat) (w : World) (hp : ProgIn w w.heap.size p ca ta) (hs : soundE p = 0) :
    Calls Try.prog 9 #[p.val ca ccap ta tcap] w fun e w' => ∃ b, e = .returned (.pointer (some ⟨b, 0, none⟩)) ∧ Below w.heap.size w w' ∧ w.heap.size ≤ b ∧ Rn w' w' b (b + 1) (newM p.chans) p.threads [] := by
  refine (new_yes p ca ccap ta tcap w hp hs).mono ?_
  rintro e w' ⟨b, rfl, hB, hb, S⟩
  exact ⟨b, rfl, hB, hb, Rn.start S (inv_new hs) (by omega)⟩

/-- What choices pick. -/
def pickN (x : Int) : Int := x % 13 / 4
def picksL (l : List Int) : List Int := (l.take 60).map pickN
theorem picksL_len (l : List Int) : (picksL l).length ≤ 60 := by simp [picksL]; omega
theorem picksL_mem {l : List Int} {x : Int} (h : x ∈ picksL l) : 0 ≤ x ∧ x ≤ 3 := by
  obtain ⟨y, _, rfl⟩ := List.mem_map.1 h
  unfold pickN; omega

set_option maxHeartbeats 1000000 in
theorem picks_any (l : List Int) (a : Option Addr) (cap : Nat) (w : World) (hr : RowOf .u8 w w.heap.size a l) (hf : ∀ n ∈ l, 0 ≤ n ∧ n < 256) (hlen : l.length ≤ 9223372036854775807) :
    Calls Try.prog 11 #[.slice a l.length cap] w fun e w' => ∃ v, e = .returned v ∧ w'.ownsRow w.heap.size 3 1 v (picksL l).length ((picksL l).map (.int .i64 ·)) ∧ Below w.heap.size w w' := by
  obtain ⟨t0, ti, tz0, tz1, tz2⟩ := info_parts info_intT
  have HR := Lib.hid hr
  have HF := Lib.hid hf
  clear hr hf
  go_enter Try.func11, Try.ntmps11
  go_wp2
  go_loopw [3, 4] (fun o i wr => ∃ k : Nat, k ≤ l.length ∧ k ≤ 60 ∧ i = .int .i64 k ∧ Below w.heap.size w wr ∧ Hid (wr.ownsRow w.heap.size 3 1 o k (((l.take k).map pickN).map (.int .i64 ·)))) (fun _ i _ => l.length - (intOf i).toNat)
  case atStart => exact ⟨0, Nat.zero_le _, by omega, rfl, Below.refl _ _, World.ownsRow_nil _ _ _ _⟩
  case round =>
    obtain ⟨k, hk, hk60, rfl, hB, HO⟩ := hrel
    obtain ⟨oa, oc, rfl⟩ := st_slice HO.out
    have hks : ((l.take k).map pickN).length = k := by simp; omega
    by_cases hlt : k < l.length
    · by_cases hl60 : k < 60
      · obtain ⟨x, hx⟩ := at_lt hlt
        obtain ⟨h0, h1⟩ := HF.out x (List.mem_of_getElem? hx)
        obtain ⟨n, rfl⟩ := Int.eq_ofNat_of_zero_le h0
        obtain ⟨cb, off, rfl, hcb, hcell⟩ := HR.out k _ hx
        have hcell' := (hB.cell (p := ⟨cb, off + k, none⟩) hcb).trans hcell
        have HX := Lib.hid hx
        have HK := Lib.hid hks
        have hs := hB.size
        clear hcell hx hks
        go_wp2_with (first
          | (at_builtin; refine wpList_append_own_at _ rfl _ _ 27 rfl w.heap.size 3 t0 (.int .i64 0) 1 8 Try.underlying27 ti tz0 tz1 tz2 rfl (by decide) (.slice oa k oc) k _ rfl (own_later HO.out (below_box wr _)) ⟨wr.heap.size, 0, none⟩ 1 1 [.int .i64 (pickN n)] rfl rfl (st_one_new0 _ _ _) (by simp [Value.oneCell']) (by unfold maxLen; omega) (by omega) (by simp; omega) ?_; intro v' w3 hown3 hgrow3 _ hat3; have HO3 := Lib.hid hown3; have HG3 := Lib.hid hgrow3; clear hown3 hgrow3))
        go_roundw
        case rel =>
          refine ⟨k + 1, by omega, by omega, by go_num, ?_, ?_⟩
          · exact (hB.trans ((below_box wr _).mono hs)).grown HG3.out (by simp; omega) (fun g e => (own_lt HO.out g e).2)
          · refine Lib.hid ?_
            rw [List.take_add_one, HX.out]; simpa using HO3.out
        case measure => simp [intOf]; omega
      · have hk6 : ¬ (k : Int) < 60 := by omega
        go_wp2
        go_ret
        obtain rfl : k = 60 := by omega
        refine ⟨_, rfl, ?_, hB⟩
        rw [show (picksL l).length = 60 from hks]
        exact HO.out
    · go_wp2
      go_ret
      obtain rfl : k = l.length := by omega
      refine ⟨_, rfl, ?_, hB⟩
      have e : picksL l = (l.take l.length).map pickN := by unfold picksL; rw [List.take_length, List.take_of_length_le hk60]
      rw [e, hks]
      exact HO.out
end Go.Proofs.Ytjlbbfkllckkgaa
