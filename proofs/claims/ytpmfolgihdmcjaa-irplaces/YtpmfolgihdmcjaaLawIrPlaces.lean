/- IrPlaces: a place behind all instructions may be, one further may not; nor one below; for every input. -/
import Derived.Test.YtpmfolgihdmcjaaLawKit
import Derived.Test.YtpmfolgihdmcjaaOwnKit2
import Derived.Test.YtpmfolgihdmcjaaOpenRows
import Derived.Test.YtpmfolgihdmcjaaProgKit
namespace Go.Proofs.Ytpmfolgihdmcjaa
set_option linter.unusedVariables false
set_option linter.unusedSimpArgs false
open Go.ChangeShapes Go.WideShapes Go.ChangeAt Go.RowKit

theorem insOK_mono {n n' : Int} {x : InsD} (h : InsOK n x) (hn : n ≤ n') : InsOK n' x := ⟨h.1, fun p m hp hm => h.2 p m hp (Int.le_trans hn hm)⟩
theorem goodIns_mono {k : Nat} {n n' : Int} {x : InsD} (h : GoodIns k n x) (hn : n ≤ n') : GoodIns k n' x := h.imp (fun h => insOK_mono h hn) id
/-- The program with a jump behind its first thread. -/
def placed (cs : List (List InsD)) (c : List InsD) (t : Int) : List (List InsD) := cs.set 0 (c ++ [⟨10, t, 0, 0⟩])
theorem placed_len (cs : List (List InsD)) (c : List InsD) (t : Int) : (placed cs c t).length = cs.length := by simp [placed]
theorem placed_mem {cs : List (List InsD)} {c d : List InsD} {t : Int} (h : d ∈ placed cs c t) : d ∈ cs ∨ d = c ++ [⟨10, t, 0, 0⟩] := List.mem_or_eq_of_mem_set h
theorem placed_fine (cs : List (List InsD)) (c : List InsD) (t : Int) (h1 : 1 ≤ cs.length) (h3 : cs.length ≤ 3) (hg : ∀ d ∈ cs, GoodCode cs.length d) (hc : cs[0]? = some c) (ht : 0 ≤ t) (ht2 : t ≤ c.length + 1) : soundE (madeD (placed cs c t)) = 0 := by
  have hcg := hg c (List.mem_of_getElem? hc)
  refine made_ok _ cs.length (by rw [placed_len]; exact h1) (by rw [placed_len]; omega) (by rw [placed_len]; exact Nat.le_refl _) fun d hd => ?_
  rcases placed_mem hd with hd | rfl
  · exact ⟨by have := (hg d hd).1; omega, (hg d hd).2⟩
  · refine ⟨by have := hcg.1; simp; omega, fun x hx => ?_⟩
    rcases List.mem_append.1 hx with hx | hx
    · exact goodIns_mono (hcg.2 x hx) (by simp; omega)
    · simp at hx; subst hx
      exact .inl (ins_ok_10 _ _ _ _ ⟨ht, by simp; omega, rfl, rfl⟩)
theorem jump_bad (p : ProgD) (m : Nat) (t : Int) (h : t < 0 ∨ (m : Int) < t) : insE p m ⟨10, t, 0, 0⟩ = 21 := by
  have hk : knownB ⟨10, t, 0, 0⟩ = true := by simp [knownB, wordsB, Row.at, rowAt, tab, InsD.at]
  have hf : fitsB p m ⟨10, t, 0, 0⟩ = false := by
    have hw : wiB t 0 ((m : Int) + 1 - 1) = false := wiB_false.2 (by omega)
    simp [fitsB, fitB, Row.at, rowAt, tab, InsD.at, canB, canL]
    intro h'
    have e : (m : Int) + 1 - 1 = m := by omega
    rw [e] at hw
    rw [hw] at h'; cases h'
  unfold insE; rw [hk, hf]; rfl
theorem placed_bad (cs : List (List InsD)) (c : List InsD) (t : Int) (h1 : 1 ≤ cs.length) (h3 : cs.length ≤ 3) (hg : ∀ d ∈ cs, GoodCode cs.length d) (hc : cs[0]? = some c) (ht : t < 0 ∨ (c.length : Int) + 1 < t) : soundE (madeD (placed cs c t)) = 21 := by
  have hcg := hg c (List.mem_of_getElem? hc)
  have hsz : ∀ d ∈ placed cs c t, d.length ≤ 60 := fun d hd => by
    rcases placed_mem hd with hd | rfl
    · have := (hg d hd).1; omega
    · have := hcg.1; simp; omega
  have hl1 : 1 ≤ (placed cs c t).length := by rw [placed_len]; exact h1
  have hl6 : (placed cs c t).length ≤ 6 := by rw [placed_len]; omega
  rw [made_sound (placed cs c t) hl1 hl6 hsz]
  generalize hP : madeD (placed cs c t) = P
  have hPm : MadeP P := by rw [← hP]; exact madeP _
  have hPt : P.threads = placed cs c t := by rw [← hP]; rfl
  have hcode : codeE P (c ++ [⟨10, t, 0, 0⟩]) = 21 := by
    have hlen : (c ++ [(⟨10, t, 0, 0⟩ : InsD)]).length = c.length + 1 := by simp
    have hj := jump_bad P (c.length + 1) t (by omega)
    unfold codeE
    rw [hlen]
    have key := firstE_map_at (insE P (c.length + 1)) (c ++ [⟨10, t, 0, 0⟩]) (k := c.length) (x := ⟨10, t, 0, 0⟩) (by simp) (by rw [hj]; decide) (fun i x hi hx => by
      rw [List.getElem?_append_left hi] at hx
      exact good_ins hPm (n := cs.length) (by rw [hPt, placed_len]; exact Nat.le_refl _) (hcg.2 x (List.mem_of_getElem? hx)) (by omega))
    rw [key, hj]
  unfold threadsE
  rw [hPt]
  have key := firstE_map_at (codeE P) (placed cs c t) (k := 0) (x := c ++ [⟨10, t, 0, 0⟩]) (by unfold placed; rw [List.getElem?_set_self (by omega)]) (by rw [hcode]; decide) (fun i x hi => by omega)
  rw [key, hcode]

set_option maxRecDepth 100000 in
set_option maxHeartbeats 4000000 in
theorem irPlaces_low (rows : List (List Int)) (a : Option Addr) (cap far : Nat) (w : World) (hl : rows.length ≤ 9223372036854775807) (hr : BytesIn w w.heap.size a rows) (hf : far < 256) :
    Calls Try.prog 3 #[.slice a rows.length cap, .int .u8 far, .bool true] w fun e w' => e = .returned (.bool true) ∧ Below w.heap.size w w' := by
  obtain ⟨i0, hi, hz0, hz1, hz2⟩ := info_parts info_insT
  have HM := Lib.hid (make_any rows a cap w hl hr)
  clear hr
  go_enter Try.func3, Try.ntmps3
  go_wp2_with fail
  refine (HM.out).mono ?_
  rintro e w1 ⟨cs, vs, tv, rfl, hO, hCh, ⟨h1, h3⟩, hG, hB1⟩
  obtain ⟨g, tcap, rfl, hgb, hgl, hcell⟩ := hO.addr (by omega)
  obtain ⟨c0, hc0⟩ := at_lt (l := cs) (k := 0) (by omega)
  obtain ⟨v0, hv0, hrow0⟩ := hO.codeAt hc0
  have hcl : c0.length ≤ 11 := (hG c0 (List.mem_of_getElem? hc0)).1
  have hg0 := (hcell 0 _ hv0).1
  have h1' : 0 < cs.length := by omega
  have HLt := Lib.hid (fun b e => (own_lt hrow0 b e).1)
  obtain ⟨a0, cap0, rfl, _⟩ := code_in hrow0
  have HS : Hid (ProgSt w (w1.alloc (.cells #[.int .i64 2, .int .i64 1, .int .i64 1, .slice (some ⟨w.heap.size + 1, 0, none⟩) 1 1, .int .i64 1, .int .i64 1, .slice (some ⟨g, 0, none⟩) cs.length tcap] 26)) w1.heap.size (.slice (some ⟨g, 0, none⟩) cs.length tcap) vs cs) :=
    ⟨hO.later ((Below.refl _ _).alloc (Nat.le_refl _) _), heap_alloc_new _ _, (Below.heap_alloc _ _ _ (Array.getElem?_eq_some_iff.1 hCh).1).trans hCh, hB1.alloc hB1.size _⟩
  have HG := Lib.hid hG
  have HV := Lib.hid hv0
  have HC := Lib.hid hc0
  have HRow := Lib.hid hrow0
  clear hO hCh hG hv0 hc0 hB1 hrow0 hcell HM
  have HE := Lib.hid (placed_bad cs c0 ((-1 - (far : Int))) h1 h3 HG.out HC.out (by omega))
  go_wp2_with (first
    | (at_builtin; refine wpList_append_own_at _ rfl _ _ 28 rfl (w.heap.size + 3) 30 i0 (.agg #[.int .u8 0, .int .i64 0, .int .i64 0, .int .i64 0]) 4 32 Try.underlying28 hi hz0 hz1 hz2 rfl (by decide) (.slice a0 c0.length cap0) _ _ rfl (own_later HRow.out (((Below.refl _ _).alloc (Nat.le_refl _) _).alloc (by simp) _)) ⟨w1.heap.size + 1, 0, none⟩ 1 1 (insCells ⟨10, (-1 - (far : Int)), 0, 0⟩) rfl rfl (cells_ins_new2 _ _ ⟨10, (-1 - (far : Int)), 0, 0⟩ _) (ins_one _) (by unfold maxLen; omega) (by omega) (by simp; omega) ?_; intro v' w3 hown3 hgrow3 _ hat3; obtain ⟨g7, cap7, rfl⟩ := ownsRow_succ hown3; obtain ⟨⟨hq1, hq2, hq3⟩, hst⟩ := ProgSt.grow (HS.out.later ((Below.refl _ _).alloc (Nat.le_refl _) _)) HV.out HC.out (fun b e => by have := HLt.out b e; omega) (by omega) hown3 hgrow3 hat3; have HSt := Lib.hid hst; clear hown3 hgrow3 hat3 hst)
    | (go_at_call 11; refine (known_any _).mono ?_; rintro e w4 ⟨rfl, hB4⟩; have hs4 := HSt.out.later hB4; obtain ⟨b0, b1, b2, b3, b4, b5, b6⟩ := hs4.cells; have HS4 := Lib.hid hs4; clear hs4 hB4))
  refine (HS4.out.sound (by simp; omega) 21 HE.out).mono ?_
  rintro e w5 ⟨rfl, hB5⟩
  have hs5 := HS4.out.later hB5
  obtain ⟨d0, d1, d2, d3, d4, d5, d6⟩ := hs5.cells
  have HS5 := Lib.hid hs5
  clear hs5 hB5
  go_wp2_with fail
  refine (HS5.out.sound (by simp; omega) 21 HE.out).mono ?_
  rintro e w6 ⟨rfl, hB6⟩
  have hs6 := HS5.out.later hB6
  have HS6 := Lib.hid hs6
  clear hs6 hB6
  go_wp2
  go_ret
  exact ⟨rfl, HS6.out.bel⟩

set_option maxRecDepth 100000 in
set_option maxHeartbeats 4000000 in
theorem irPlaces_fine (rows : List (List Int)) (a : Option Addr) (cap far : Nat) (w : World) (hl : rows.length ≤ 9223372036854775807) (hr : BytesIn w w.heap.size a rows) (hf : far < 256) (hfar : (far : Int) % 3 ≤ 1) :
    Calls Try.prog 3 #[.slice a rows.length cap, .int .u8 far, .bool false] w fun e w' => e = .returned (.bool true) ∧ Below w.heap.size w w' := by
  obtain ⟨i0, hi, hz0, hz1, hz2⟩ := info_parts info_insT
  have HM := Lib.hid (make_any rows a cap w hl hr)
  clear hr
  go_enter Try.func3, Try.ntmps3
  go_wp2_with fail
  refine (HM.out).mono ?_
  rintro e w1 ⟨cs, vs, tv, rfl, hO, hCh, ⟨h1, h3⟩, hG, hB1⟩
  obtain ⟨g, tcap, rfl, hgb, hgl, hcell⟩ := hO.addr (by omega)
  obtain ⟨c0, hc0⟩ := at_lt (l := cs) (k := 0) (by omega)
  obtain ⟨v0, hv0, hrow0⟩ := hO.codeAt hc0
  have hcl : c0.length ≤ 11 := (hG c0 (List.mem_of_getElem? hc0)).1
  have hg0 := (hcell 0 _ hv0).1
  have h1' : 0 < cs.length := by omega
  have HLt := Lib.hid (fun b e => (own_lt hrow0 b e).1)
  obtain ⟨a0, cap0, rfl, _⟩ := code_in hrow0
  have HS : Hid (ProgSt w (w1.alloc (.cells #[.int .i64 2, .int .i64 1, .int .i64 1, .slice (some ⟨w.heap.size + 1, 0, none⟩) 1 1, .int .i64 1, .int .i64 1, .slice (some ⟨g, 0, none⟩) cs.length tcap] 26)) w1.heap.size (.slice (some ⟨g, 0, none⟩) cs.length tcap) vs cs) :=
    ⟨hO.later ((Below.refl _ _).alloc (Nat.le_refl _) _), heap_alloc_new _ _, (Below.heap_alloc _ _ _ (Array.getElem?_eq_some_iff.1 hCh).1).trans hCh, hB1.alloc hB1.size _⟩
  have HG := Lib.hid hG
  have HV := Lib.hid hv0
  have HC := Lib.hid hc0
  have HRow := Lib.hid hrow0
  clear hO hCh hG hv0 hc0 hB1 hrow0 hcell HM
  have hto : decide ((c0.length : Int) + 1 + (far : Int) % 3 - 1 ≤ (c0.length : Int) + 1) = true := by simp; omega
  have HE := Lib.hid (placed_fine cs c0 (((c0.length : Int) + 1 + (far : Int) % 3 - 1)) h1 h3 HG.out HC.out (by omega) (by omega))
  go_wp2_with (first
    | (at_builtin; refine wpList_append_own_at _ rfl _ _ 28 rfl (w.heap.size + 3) 30 i0 (.agg #[.int .u8 0, .int .i64 0, .int .i64 0, .int .i64 0]) 4 32 Try.underlying28 hi hz0 hz1 hz2 rfl (by decide) (.slice a0 c0.length cap0) _ _ rfl (own_later HRow.out (((Below.refl _ _).alloc (Nat.le_refl _) _).alloc (by simp) _)) ⟨w1.heap.size + 1, 0, none⟩ 1 1 (insCells ⟨10, ((c0.length : Int) + 1 + (far : Int) % 3 - 1), 0, 0⟩) rfl rfl (cells_ins_new2 _ _ ⟨10, ((c0.length : Int) + 1 + (far : Int) % 3 - 1), 0, 0⟩ _) (ins_one _) (by unfold maxLen; omega) (by omega) (by simp; omega) ?_; intro v' w3 hown3 hgrow3 _ hat3; obtain ⟨g7, cap7, rfl⟩ := ownsRow_succ hown3; obtain ⟨⟨hq1, hq2, hq3⟩, hst⟩ := ProgSt.grow (HS.out.later ((Below.refl _ _).alloc (Nat.le_refl _) _)) HV.out HC.out (fun b e => by have := HLt.out b e; omega) (by omega) hown3 hgrow3 hat3; have HSt := Lib.hid hst; clear hown3 hgrow3 hat3 hst)
    | (go_at_call 11; refine (known_any _).mono ?_; rintro e w4 ⟨rfl, hB4⟩; have hs4 := HSt.out.later hB4; obtain ⟨b0, b1, b2, b3, b4, b5, b6⟩ := hs4.cells; have HS4 := Lib.hid hs4; clear hs4 hB4))
  refine (HS4.out.sound (by simp; omega) 0 HE.out).mono ?_
  rintro e w5 ⟨rfl, hB5⟩
  have hs5 := HS4.out.later hB5
  obtain ⟨d0, d1, d2, d3, d4, d5, d6⟩ := hs5.cells
  have HS5 := Lib.hid hs5
  clear hs5 hB5
  go_wp2
  go_ret
  exact ⟨rfl, HS5.out.bel⟩

set_option maxRecDepth 100000 in
set_option maxHeartbeats 4000000 in
theorem irPlaces_far (rows : List (List Int)) (a : Option Addr) (cap far : Nat) (w : World) (hl : rows.length ≤ 9223372036854775807) (hr : BytesIn w w.heap.size a rows) (hf : far < 256) (hfar : 2 ≤ (far : Int) % 3) :
    Calls Try.prog 3 #[.slice a rows.length cap, .int .u8 far, .bool false] w fun e w' => e = .returned (.bool true) ∧ Below w.heap.size w w' := by
  obtain ⟨i0, hi, hz0, hz1, hz2⟩ := info_parts info_insT
  have HM := Lib.hid (make_any rows a cap w hl hr)
  clear hr
  go_enter Try.func3, Try.ntmps3
  go_wp2_with fail
  refine (HM.out).mono ?_
  rintro e w1 ⟨cs, vs, tv, rfl, hO, hCh, ⟨h1, h3⟩, hG, hB1⟩
  obtain ⟨g, tcap, rfl, hgb, hgl, hcell⟩ := hO.addr (by omega)
  obtain ⟨c0, hc0⟩ := at_lt (l := cs) (k := 0) (by omega)
  obtain ⟨v0, hv0, hrow0⟩ := hO.codeAt hc0
  have hcl : c0.length ≤ 11 := (hG c0 (List.mem_of_getElem? hc0)).1
  have hg0 := (hcell 0 _ hv0).1
  have h1' : 0 < cs.length := by omega
  have HLt := Lib.hid (fun b e => (own_lt hrow0 b e).1)
  obtain ⟨a0, cap0, rfl, _⟩ := code_in hrow0
  have HS : Hid (ProgSt w (w1.alloc (.cells #[.int .i64 2, .int .i64 1, .int .i64 1, .slice (some ⟨w.heap.size + 1, 0, none⟩) 1 1, .int .i64 1, .int .i64 1, .slice (some ⟨g, 0, none⟩) cs.length tcap] 26)) w1.heap.size (.slice (some ⟨g, 0, none⟩) cs.length tcap) vs cs) :=
    ⟨hO.later ((Below.refl _ _).alloc (Nat.le_refl _) _), heap_alloc_new _ _, (Below.heap_alloc _ _ _ (Array.getElem?_eq_some_iff.1 hCh).1).trans hCh, hB1.alloc hB1.size _⟩
  have HG := Lib.hid hG
  have HV := Lib.hid hv0
  have HC := Lib.hid hc0
  have HRow := Lib.hid hrow0
  clear hO hCh hG hv0 hc0 hB1 hrow0 hcell HM
  have hto : decide ((c0.length : Int) + 1 + (far : Int) % 3 - 1 ≤ (c0.length : Int) + 1) = false := by simp; omega
  have HE := Lib.hid (placed_bad cs c0 (((c0.length : Int) + 1 + (far : Int) % 3 - 1)) h1 h3 HG.out HC.out (by omega))
  go_wp2_with (first
    | (at_builtin; refine wpList_append_own_at _ rfl _ _ 28 rfl (w.heap.size + 3) 30 i0 (.agg #[.int .u8 0, .int .i64 0, .int .i64 0, .int .i64 0]) 4 32 Try.underlying28 hi hz0 hz1 hz2 rfl (by decide) (.slice a0 c0.length cap0) _ _ rfl (own_later HRow.out (((Below.refl _ _).alloc (Nat.le_refl _) _).alloc (by simp) _)) ⟨w1.heap.size + 1, 0, none⟩ 1 1 (insCells ⟨10, ((c0.length : Int) + 1 + (far : Int) % 3 - 1), 0, 0⟩) rfl rfl (cells_ins_new2 _ _ ⟨10, ((c0.length : Int) + 1 + (far : Int) % 3 - 1), 0, 0⟩ _) (ins_one _) (by unfold maxLen; omega) (by omega) (by simp; omega) ?_; intro v' w3 hown3 hgrow3 _ hat3; obtain ⟨g7, cap7, rfl⟩ := ownsRow_succ hown3; obtain ⟨⟨hq1, hq2, hq3⟩, hst⟩ := ProgSt.grow (HS.out.later ((Below.refl _ _).alloc (Nat.le_refl _) _)) HV.out HC.out (fun b e => by have := HLt.out b e; omega) (by omega) hown3 hgrow3 hat3; have HSt := Lib.hid hst; clear hown3 hgrow3 hat3 hst)
    | (go_at_call 11; refine (known_any _).mono ?_; rintro e w4 ⟨rfl, hB4⟩; have hs4 := HSt.out.later hB4; obtain ⟨b0, b1, b2, b3, b4, b5, b6⟩ := hs4.cells; have HS4 := Lib.hid hs4; clear hs4 hB4))
  refine (HS4.out.sound (by simp; omega) 21 HE.out).mono ?_
  rintro e w5 ⟨rfl, hB5⟩
  have hs5 := HS4.out.later hB5
  obtain ⟨d0, d1, d2, d3, d4, d5, d6⟩ := hs5.cells
  have HS5 := Lib.hid hs5
  clear hs5 hB5
  go_wp2_with fail
  refine (HS5.out.sound (by simp; omega) 21 HE.out).mono ?_
  rintro e w6 ⟨rfl, hB6⟩
  have hs6 := HS5.out.later hB6
  have HS6 := Lib.hid hs6
  clear hs6 hB6
  go_wp2
  go_ret
  exact ⟨rfl, HS6.out.bel⟩

theorem irPlaces_walk (rows : List (List Int)) (a : Option Addr) (cap : Nat) (a1 : Int) (a2 : Bool) (w : World) (hl : rows.length ≤ 9223372036854775807) (hr : BytesIn w w.heap.size a rows) (w1 : (Lit.int .u8 a1).wf = true) :
    Calls Try.prog 3 #[.slice a rows.length cap, .int .u8 a1, .bool a2] w fun e w' => e = .returned (.bool true) ∧ Below w.heap.size w w' := by
  obtain ⟨q0, q1⟩ := bounds_u8 w1
  obtain ⟨far, rfl⟩ := Int.eq_ofNat_of_zero_le q0
  cases a2
  · by_cases h : (far : Int) % 3 ≤ 1
    · exact irPlaces_fine rows a cap far w hl hr (by omega) h
    · exact irPlaces_far rows a cap far w hl hr (by omega) (by omega)
  · exact irPlaces_low rows a cap far w hl hr (by omega)

set_option maxRecDepth 100000 in
theorem irPlaces_lifted (os : Os) (started : os.Started) (H : Type) (enc : TypeId × Value → H) :
    ReturnsInHanded {} Try.checked os 3 .any (Rows.irPlacesSpec.pre6 enc Try.prog Try.f3 Rows.irPlacesRow.domain false) (Rows.irPlacesSpec.post enc Try.prog Try.f3 false true false false) := by
  refine returnsInHanded_of_change (C := Try.checked) law_own started (by kernel_rfl) Try.func3
    (ChangeSpec.witness6 (enc := enc) (C := Try.checked) false ⟨#[], #[.slice none 0 0, .int .u8 0, .bool false], []⟩ 8 (by kernel_rfl) (by kernel_rfl) (by kernel_rfl) (by kernel_rfl)) ?_
  intro W base args ds gs before hval0 hW hcnd _
  have hval : ∀ (j : Nat) t v, Try.f3.params[j]? = some t → args[j]? = some v → Value.okWide Try.prog W .any base t v := hval0
  have hW' := hW
  obtain ⟨p, q, hA0, hV, rfl, hfz, hnd⟩ := hW
  have hA : DataW.TrodAll enc Try.prog W 0 (fun _ => true) true Try.f3.params.toList args.toList ds p := hA0
  rw [Try.params3] at hA hval
  obtain ⟨v0, vs0, d0, ds0, p0, q0, hargs, rfl, rfl, h0, r0⟩ := trodAll_cons hA
  obtain ⟨v1, vs1, d1, ds1, p1, q1, rfl, rfl, rfl, h1, r1⟩ := trodAll_cons r0
  obtain ⟨v2, vs2, d2, ds2, p2, q2, rfl, rfl, rfl, h2, r2⟩ := trodAll_cons r1
  obtain ⟨rfl, rfl, rfl⟩ := trodAll_nil r2
  obtain rfl : args = #[v0, v1, v2] := by cases args; simp_all
  obtain ⟨rfl, rfl⟩ := trodVars_none hV
  have k0 := h0
  have lt0 : ∀ x ∈ p0, x.block < W.heap.size := by obtain ⟨m, hm⟩ := k0; exact DataW.trod_lt m _ _ _ hm
  obtain ⟨a0, cap0, l0, rfl, n0, w0⟩ := open_rows_u8 (hval 0 22 v0 rfl rfl) h0
  obtain ⟨a1, rfl, rfl, rfl, w1⟩ := open_int Try.underlying5 (hval 1 5 v1 rfl rfl) h1
  obtain ⟨a2, rfl, rfl, rfl⟩ := open_bool Try.underlying4 (hval 2 4 v2 rfl rfl) h2
  clear hA0 hval0
  refine (irPlaces_walk l0 a0 cap0 a1 a2 W n0 w0 w1).mono fun e W' ⟨he, bel⟩ => ?_
  subst he
  exact ⟨_, rfl, _, _, _, [], _, [], hW', trodAll_mk1 (shut_bool Try.underlying4 _), (trodAll_cons_mk (Below.trod law_laidOut (by kernel_rfl) (of_decide_eq_true (by kernel_rfl)) k0 bel lt0) (trodAll_cons_mk (shut_int Try.underlying5 w1) (trodAll_cons_mk (shut_bool Try.underlying4 a2) trodAll_mk0))), rfl, bel.frame _, fun h => by cases h⟩

/-- The statement. -/
theorem irPlaces_holds : Rows.IrPlacesSaid :=
  OpenClaim.holds_of_wide 3 Try.f3 rfl rfl rfl rfl rfl rfl rfl ⟨rfl, rfl, rfl, rfl, rfl⟩ rfl rfl rfl rfl rfl (by kernel_rfl) Try.func3 (by kernel_rfl)
    (of_decide_eq_true (by kernel_rfl)) (by unfold Func.isWrapper; first | (rw [if_pos (by decide +kernel)]; kernel_rfl) | (rw [if_neg (by decide +kernel)]; exact ⟨rfl, rfl⟩))
    (fun os started H enc _ => irPlaces_lifted os started H enc)

end Go.Proofs.Ytpmfolgihdmcjaa
