/- What the document's own Sound of layer 2 returns, for every program: what Sound of package ir returns. -/
import Derived.Test.YtpmfolgihdmcjaaIrRef3
import Derived.Deep.DeepCutAuto
namespace Go.Proofs.Ytpmfolgihdmcjaa
set_option linter.unusedVariables false
set_option linter.unusedSimpArgs false
open Go.RowKit

/-- Too few or too many of what is asked first. -/
def bad1B (p : ProgD) : Bool := decide (p.vars < 0) || decide (8 < p.vars) || decide (4 < (p.chans.length : Int)) || decide ((p.threads.length : Int) < 1) || decide (6 < (p.threads.length : Int))
def outB (v : Int) : Bool := decide (v < 0) || decide (4 < v)
def ProgD.num (p : ProgD) (k : Nat) : Int := if k = 0 then p.atoms else if k = 1 then p.locks else if k = 2 then p.groups else p.onces
/-- .. and of the four others, as far as k. -/
def badB (p : ProgD) : Nat → Bool
  | 0 => bad1B p
  | k + 1 => badB p k || outB (p.num k)
/-- .. and of the threads' instructions, as far as k. -/
def badL (p : ProgD) (k : Nat) : Bool := badB p 4 || (p.threads.take k).any fun c => decide (60 < (c.length : Int))
theorem badL_more {p : ProgD} {k : Nat} {c : List InsD} (h : p.threads[k]? = some c) : badL p (k + 1) = (badL p k || decide (60 < (c.length : Int))) := by
  unfold badL
  have e : p.threads.take (k + 1) = p.threads.take k ++ [c] := by rw [List.take_add_one, h]; rfl
  rw [e, List.any_append]
  simp [Bool.or_assoc]
theorem badL_all (p : ProgD) : badL p p.threads.length = !sizesB p := by
  unfold badL
  rw [List.take_length]
  have h1 : (p.threads.any fun c => decide (60 < (c.length : Int))) = !longB p.threads := by
    unfold longB
    rw [List.not_all_eq_any_not]
    congr 1
    funext c
    by_cases h : c.length ≤ 60
    · simp [h]; omega
    · simp [h]; omega
  have h2 : badB p 4 = !numsB p := by
    unfold numsB
    show (bad1B p || outB p.atoms || outB p.locks || outB p.groups || outB p.onces) = _
    unfold bad1B outB wiB
    rw [Bool.eq_iff_iff]
    simp only [Bool.or_eq_true, decide_eq_true_eq, Bool.not_eq_true', Bool.and_eq_false_iff, decide_eq_false_iff_not]
    omega
  rw [h1, h2]
  unfold sizesB
  rw [Bool.not_and, Bool.or_comm]
theorem sound_long {p : ProgD} (h : sizesB p = false) : soundE p = 3 := by unfold soundE; rw [h]; rfl
theorem sound_caps {p : ProgD} (h : sizesB p = true) (h2 : capsB p.chans = false) : soundE p = 21 := by unfold soundE; rw [h, h2]; rfl
theorem sound_rest {p : ProgD} (h : sizesB p = true) (h2 : capsB p.chans = true) : soundE p = threadsE p := by
  unfold soundE; rw [h, h2]
  show firstE [0, 0, _] = _
  show firstE [threadsE p] = _
  unfold firstE firstE; split <;> simp_all
theorem num4_cell {w : World} {g : Nat} {p : ProgD} {t : TypeId} {fr : Nat × Nat} (h : w.heap[g]? = some (.cells #[.int .i64 p.atoms, .int .i64 p.locks, .int .i64 p.groups, .int .i64 p.onces] t fr)) (k : Nat) (hk : k < 4) :
    w.cell? ⟨g, k, none⟩ = some (.int .i64 (p.num k)) := by
  rw [cell_of_row w g k _ _ _ h]
  obtain rfl | rfl | rfl | rfl : k = 0 ∨ k = 1 ∨ k = 2 ∨ k = 3 := by omega
  · rfl
  · rfl
  · rfl
  · rfl
theorem keep12 {u u' : World} {g b o b' o' : Nat} {c0 c1 c2 c3 c4 c5 c6 t x0 x1 x2 x3 : Value} (h : u.cell? ⟨g, 0, none⟩ = some c0 ∧ u.cell? ⟨g, 1, none⟩ = some c1 ∧ u.cell? ⟨g, 2, none⟩ = some c2 ∧ u.cell? ⟨g, 3, none⟩ = some c3 ∧ u.cell? ⟨g, 4, none⟩ = some c4 ∧ u.cell? ⟨g, 5, none⟩ = some c5 ∧ u.cell? ⟨g, 6, none⟩ = some c6 ∧ u.cell? ⟨b, o, none⟩ = some t ∧ u.cell? ⟨b', o', none⟩ = some x0 ∧ u.cell? ⟨b', o' + 1, none⟩ = some x1 ∧ u.cell? ⟨b', o' + 2, none⟩ = some x2 ∧ u.cell? ⟨b', o' + 3, none⟩ = some x3) (hB : Below u.heap.size u u') : u'.cell? ⟨g, 0, none⟩ = some c0 ∧ u'.cell? ⟨g, 1, none⟩ = some c1 ∧ u'.cell? ⟨g, 2, none⟩ = some c2 ∧ u'.cell? ⟨g, 3, none⟩ = some c3 ∧ u'.cell? ⟨g, 4, none⟩ = some c4 ∧ u'.cell? ⟨g, 5, none⟩ = some c5 ∧ u'.cell? ⟨g, 6, none⟩ = some c6 ∧ u'.cell? ⟨b, o, none⟩ = some t ∧ u'.cell? ⟨b', o', none⟩ = some x0 ∧ u'.cell? ⟨b', o' + 1, none⟩ = some x1 ∧ u'.cell? ⟨b', o' + 2, none⟩ = some x2 ∧ u'.cell? ⟨b', o' + 3, none⟩ = some x3 := by
  obtain ⟨h0, h1, h2, h3, h4, h5, h6, h7, h8, h9, h10, h11⟩ := h
  exact ⟨keepC h0 hB, keepC h1 hB, keepC h2 hB, keepC h3 hB, keepC h4 hB, keepC h5 hB, keepC h6 hB, keepC h7 hB, keepC h8 hB, keepC h9 hB, keepC h10 hB, keepC h11 hB⟩
/-- The first cut's relation. -/
def RelBad (p : ProgD) (W : World) (b : Value) (w' : World) : Prop := w' = W ∧ b = .bool (bad1B p)
def RelNum (p : ProgD) (b i : Value) : Prop := ∃ k : Nat, k ≤ 4 ∧ i = .int .i64 k ∧ b = .bool (badB p k)
def RelLong (p : ProgD) (b i : Value) : Prop := ∃ k : Nat, k ≤ p.threads.length ∧ i = .int .i64 k ∧ b = .bool (badL p k)
def RelThr (p : ProgD) (W : World) (i : Value) (u : World) : Prop := ∃ k : Nat, k ≤ p.threads.length ∧ i = .int .i64 k ∧ Below W.heap.size W u ∧ ∀ (j : Nat) (c : List InsD), j < k → p.threads[j]? = some c → codeE p c = 0
def RelCode (p : ProgD) (c : List InsD) (W : World) (i : Value) (u : World) : Prop := ∃ k : Nat, k ≤ c.length ∧ i = .int .i64 k ∧ Below W.heap.size W u ∧ ∀ (j : Nat) (x : InsD), j < k → c[j]? = some x → insE p c.length x = 0

set_option maxRecDepth 100000 in
set_option maxHeartbeats 8000000 in
theorem refSound_any (p : ProgD) (ca : Option Addr) (ccap : Nat) (ta : Option Addr) (tcap : Nat) (w : World) (hp : ProgIn w w.heap.size p ca ta) :
    Calls Try.prog 13 #[p.val ca ccap ta tcap] w fun e w' => e = .returned (.int .i64 (soundE p)) ∧ Below w.heap.size w w' := by
  have HT := Lib.hid hp.threads
  have HCh := Lib.hid hp.chans
  have htl := hp.tlen
  have hcl := hp.clen
  clear hp
  go_enter Try.func13, Try.ntmps13
  go_upto_region 1 with (fail)
  go_cut [3] (fun b w' => RelBad p (w.alloc (.cells #[.int .i64 p.vars, .int .i64 p.atoms, .int .i64 p.locks, .slice ca p.chans.length ccap, .int .i64 p.groups, .int .i64 p.onces, .slice ta p.threads.length tcap] 26)) b w')
  case first =>
    by_cases h1 : p.vars < 0
    · have d1 : decide (p.vars < 0) = true := by simp [h1]
      go_wp2
      go_meet
      exact ⟨rfl, congrArg Value.bool (by unfold bad1B; simp [h1])⟩
    · have d1 : decide (p.vars < 0) = false := by simp; omega
      by_cases h2 : 8 < p.vars
      · have d2 : decide (8 < p.vars) = true := by simp [h2]
        go_wp2
        go_meet
        exact ⟨rfl, congrArg Value.bool (by unfold bad1B; simp [h2])⟩
      · have d2 : decide (8 < p.vars) = false := by simp; omega
        by_cases h3 : (4 : Int) < (p.chans.length : Int)
        · have d3 : decide ((4 : Int) < (p.chans.length : Int)) = true := by simp; omega
          go_wp2
          go_meet
          exact ⟨rfl, congrArg Value.bool (by unfold bad1B; rw [d3]; simp)⟩
        · have d3 : decide ((4 : Int) < (p.chans.length : Int)) = false := by simp; omega
          by_cases h4 : (p.threads.length : Int) < 1
          · have d4 : decide ((p.threads.length : Int) < 1) = true := by simp; omega
            go_wp2
            go_meet
            exact ⟨rfl, congrArg Value.bool (by unfold bad1B; rw [d4]; simp)⟩
          · have d4 : decide ((p.threads.length : Int) < 1) = false := by simp; omega
            by_cases h5 : (6 : Int) < (p.threads.length : Int)
            · have d5 : decide ((6 : Int) < (p.threads.length : Int)) = true := by simp; omega
              go_wp2
              go_meet
              exact ⟨rfl, congrArg Value.bool (by unfold bad1B; rw [d5]; simp)⟩
            · have d5 : decide ((6 : Int) < (p.threads.length : Int)) = false := by simp; omega
              go_wp2
              go_meet
              exact ⟨rfl, congrArg Value.bool (by unfold bad1B; rw [d1, d2, d3, d4, d5]; rfl)⟩
  case rest =>
    obtain ⟨rfl, rfl⟩ := hcut
    go_wp2_with fail
    generalize hW : World.alloc (World.alloc w _) _ = W
    have HBx := Lib.hid (show W.heap[w.heap.size]? = some (.cells #[.int .i64 p.vars, .int .i64 p.atoms, .int .i64 p.locks, .slice ca p.chans.length ccap, .int .i64 p.groups, .int .i64 p.onces, .slice ta p.threads.length tcap] 26) by rw [← hW]; exact heap_alloc2_old _ _ _)
    have HNu := Lib.hid (show W.heap[w.heap.size + 1]? = some (.cells #[.int .i64 p.atoms, .int .i64 p.locks, .int .i64 p.groups, .int .i64 p.onces] 3) by rw [← hW]; exact heap_alloc2_new _ _ _)
    have hB : Below w.heap.size w W := by rw [← hW]; exact ((Below.refl _ _).alloc (Nat.le_refl _) _).alloc (by simp) _
    have hWl : w.heap.size < W.heap.size := (Array.getElem?_eq_some_iff.1 HBx.out).1
    clear hW
    go_loop [3, 5] (fun b i => RelNum p b i) (fun _ i => 4 - (intOf i).toNat)
    case atStart => exact ⟨0, Nat.zero_le _, rfl, rfl⟩
    case round =>
      obtain ⟨k, hk, rfl, rfl⟩ := hrel
      by_cases hlt : k < 4
      · have hc := num4_cell HNu.out k hlt
        have HM : Hid (badB p (k + 1) = (badB p k || outB (p.num k))) := Lib.hid rfl
        generalize badB p k = bk at HM ⊢
        cases bk
        · by_cases h0 : p.num k < 0
          · have d0 : decide (p.num k < 0) = true := by simp [h0]
            go_wp2
            go_round
            case rel => exact ⟨k + 1, by omega, by go_num, congrArg Value.bool (by rw [HM.out]; unfold outB; rw [d0]; rfl)⟩
            case measure => simp [intOf]; omega
          · have d0 : decide (p.num k < 0) = false := by simp; omega
            go_wp2
            go_round
            case rel => exact ⟨k + 1, by omega, by go_num, congrArg Value.bool (by rw [HM.out]; unfold outB; rw [d0]; rfl)⟩
            case measure => simp [intOf]; omega
        · go_wp2
          go_round
          case rel => exact ⟨k + 1, by omega, by go_num, congrArg Value.bool (by rw [HM.out]; rfl)⟩
          case measure => simp [intOf]; omega
      · obtain rfl : k = 4 := by omega
        obtain ⟨p0, p1, p2, p3, p4, p5, p6⟩ := cells7' HBx.out
        go_wp2_with fail
        go_loop [3, 6] (fun b i => RelLong p b i) (fun _ i => p.threads.length - (intOf i).toNat)
        case atStart => exact ⟨0, Nat.zero_le _, rfl, congrArg Value.bool (by unfold badL; simp)⟩
        case round =>
          obtain ⟨k, hk, rfl, rfl⟩ := hrel
          by_cases hlt : k < p.threads.length
          · obtain ⟨c, hc⟩ := at_lt hlt
            have HM := Lib.hid (badL_more hc)
            obtain ⟨b, off, rfl, hb, a', cap', hcell, _⟩ := HT.out k c hc
            have hcell' := (hB.cell (p := ⟨b, off + k, none⟩) hb).trans hcell
            have hlt' : (k : Int) < (p.threads.length : Int) := by omega
            clear hc hcell
            generalize badL p k = bk at HM ⊢
            cases bk
            · go_wp2
              go_round
              case rel => exact ⟨k + 1, by omega, by go_num, congrArg Value.bool (by rw [HM.out]; rfl)⟩
              case measure => simp [intOf]; omega
            · go_wp2
              go_round
              case rel => exact ⟨k + 1, by omega, by go_num, congrArg Value.bool (by rw [HM.out]; rfl)⟩
              case measure => simp [intOf]; omega
          · obtain rfl : k = p.threads.length := by omega
            rw [badL_all p]
            cases hs : sizesB p
            · have HL := Lib.hid (sound_long hs)
              clear hs
              go_wp2
              go_ret
              exact ⟨ret_int HL.out.symm, hB⟩
            · have HS := Lib.hid hs
              clear hs
              go_wp2_with fail
              go_loop [7] (fun i => ∃ k : Nat, k ≤ p.chans.length ∧ i = .int .i64 k ∧ Hid (∀ (j : Nat) (y : Int), j < k → p.chans[j]? = some y → wiB y 1 3 = true)) (fun i => p.chans.length - (intOf i).toNat)
              case atStart => exact ⟨0, Nat.zero_le _, rfl, Lib.hid (fun j x hj => by omega)⟩
              case round =>
                obtain ⟨k, hk, rfl, HZ⟩ := hrel
                by_cases hlt : k < p.chans.length
                · obtain ⟨y, hy⟩ := at_lt hlt
                  obtain ⟨b, off, rfl, hb, hcell⟩ := HCh.out k y hy
                  have hcell' := (hB.cell (p := ⟨b, off + k, none⟩) hb).trans hcell
                  have hlt' : (k : Int) < (p.chans.length : Int) := by omega
                  have HE := Lib.hid hy
                  clear hy hcell
                  by_cases h1 : y < 1
                  · have d1 : decide (y < 1) = true := by simp [h1]
                    have HF := Lib.hid (sound_caps HS.out (capsB_no HE.out (wiB_false.2 (by omega))))
                    go_wp2
                    go_ret
                    exact ⟨ret_int HF.out.symm, hB⟩
                  · have d1 : decide (y < 1) = false := by simp; omega
                    by_cases h3 : 3 < y
                    · have d3 : decide (3 < y) = true := by simp [h3]
                      have HF := Lib.hid (sound_caps HS.out (capsB_no HE.out (wiB_false.2 (by omega))))
                      go_wp2
                      go_ret
                      exact ⟨ret_int HF.out.symm, hB⟩
                    · have d3 : decide (3 < y) = false := by simp; omega
                      go_wp2
                      go_round
                      case rel => exact ⟨k + 1, by omega, by go_num, Lib.hid (fun j z hj hz => by
                        by_cases e : j = k
                        · subst e; have := HE.out; rw [this] at hz; cases hz; exact wiB_true.2 (by omega)
                        · exact HZ.out j z (by omega) hz)⟩
                      case measure => simp [intOf]; omega
                · obtain rfl : k = p.chans.length := by omega
                  have HR := Lib.hid (sound_rest HS.out (capsB_all fun j y hy => HZ.out j y (List.getElem?_eq_some_iff.1 hy).1 hy))
                  have HL60 := Lib.hid (sizes_parts HS.out).2.2.2.2.2.2.2
                  have htl6 : p.threads.length ≤ 6 := (sizes_parts HS.out).2.2.2.2.2.2.1.2
                  go_wp2_with fail
                  go_loopw [8] (fun i u => RelThr p W i u) (fun i _ => p.threads.length - (intOf i).toNat)
                  case atStart => exact ⟨0, Nat.zero_le _, rfl, Below.refl _ _, fun j x hj => by omega⟩
                  case round =>
                    obtain ⟨k, hk, rfl, hb0, hZ0⟩ := hrel
                    have HZ0 := Lib.hid hZ0
                    clear hZ0
                    obtain ⟨p0, p1, p2, p3, p4, p5, p6⟩ := cells7' ((hb0.block _ hWl).trans HBx.out)
                    by_cases hlt : k < p.threads.length
                    · obtain ⟨c, hc⟩ := at_lt hlt
                      obtain ⟨b, off, rfl, hb, a', cap', hcell, hcode⟩ := HT.out k c hc
                      have hBw : Below w.heap.size w wr := hB.trans (hb0.mono (by omega))
                      have hcell' := (hBw.cell (p := ⟨b, off + k, none⟩) hb).trans hcell
                      have HCell := Lib.hid hcell
                      have HCode := Lib.hid hcode
                      have HE := Lib.hid hc
                      have hcl60 : c.length ≤ 60 := HL60.out c (List.mem_of_getElem? hc)
                      have hlt' : (k : Int) < (p.threads.length : Int) := by omega
                      clear hc hcell hcode
                      go_wp2_with fail
                      go_loopw [9] (fun i u => RelCode p c wr i u) (fun i _ => c.length - (intOf i).toNat)
                      case atStart => exact ⟨0, Nat.zero_le _, rfl, Below.refl _ _, fun j x hj => by omega⟩
                      case round =>
                        obtain ⟨m, hm, rfl, hb1, hZ1⟩ := hrel
                        have HZ1 := Lib.hid hZ1
                        clear hZ1
                        have hbW : Below W.heap.size W wr := below_next hb0 hb1
                        have hBw2 : Below w.heap.size w wr := hB.trans (hbW.mono (by omega))
                        obtain ⟨q0, q1, q2, q3, q4, q5, q6⟩ := cells7' ((hbW.block _ hWl).trans HBx.out)
                        have tc := (hBw2.cell (p := ⟨b, off + k, none⟩) hb).trans HCell.out
                        clear p0 p1 p2 p3 p4 p5 p6 hcell'
                        by_cases hlm : m < c.length
                        · obtain ⟨x, hx⟩ := at_lt hlm
                          obtain ⟨b', off', rfl, hb', hI0⟩ := HCode.out m x hx
                          obtain ⟨i0, i1, i2, i3⟩ := hI0.below hb' hBw2
                          have HEx := Lib.hid hx
                          have hlm' : (m : Int) < (c.length : Int) := by omega
                          clear hx hI0
                          have HIns := Lib.hid (fun u => refIns_any p ca ccap (some ⟨b, off, none⟩) tcap c.length x u hcl60)
                          by_cases hz : insE p c.length x = 0
                          · have HI0 := Lib.hid hz
                            rw [hz] at HIns
                            clear hz
                            go_wp2_with fail
                            first
                              | (go_region_held3 (fun u => u.cell? ⟨w.heap.size, 0, none⟩ = some (.int .i64 p.vars) ∧ u.cell? ⟨w.heap.size, 1, none⟩ = some (.int .i64 p.atoms) ∧ u.cell? ⟨w.heap.size, 2, none⟩ = some (.int .i64 p.locks) ∧ u.cell? ⟨w.heap.size, 3, none⟩ = some (.slice ca p.chans.length ccap) ∧ u.cell? ⟨w.heap.size, 4, none⟩ = some (.int .i64 p.groups) ∧ u.cell? ⟨w.heap.size, 5, none⟩ = some (.int .i64 p.onces) ∧ u.cell? ⟨w.heap.size, 6, none⟩ = some (.slice (some ⟨b, off, none⟩) p.threads.length tcap) ∧ u.cell? ⟨b, off + k, none⟩ = some (.slice (some ⟨b', off', none⟩) c.length cap') ∧ u.cell? ⟨b', off' + m * 4, none⟩ = some (.int .u8 x.op) ∧ u.cell? ⟨b', off' + m * 4 + 1, none⟩ = some (.int .i64 x.a) ∧ u.cell? ⟨b', off' + m * 4 + 2, none⟩ = some (.int .i64 x.b) ∧ u.cell? ⟨b', off' + m * 4 + 3, none⟩ = some (.int .i64 x.c)) (first | exact ⟨q0, q1, q2, q3, q4, q5, q6, tc, i0, i1, i2, i3⟩ | exact keep12 (by assumption) hB3)
                                  (first
                                    | (go_at_call 37; refine (HIns.out _).mono ?_; rintro e w3 ⟨rfl, hB3⟩)))
                              | fail
                            have hB4 : Below wr.heap.size wr w3 := ⟨hB3.os, hB3.tape, hB3.output, hB3.size, hB3.block⟩
                            go_wp2
                            go_roundw
                            case rel => exact ⟨m + 1, by omega, by go_num, below_next hb1 hB4, fun j y hj hy => by
                              by_cases e : j = m
                              · subst e; have := HEx.out; rw [this] at hy; cases hy; exact HI0.out
                              · exact HZ1.out j y (by omega) hy⟩
                            case measure => simp [intOf]; omega
                          · have HR1 := Lib.hid (show codeE p c = insE p c.length x from firstE_map_at _ _ HEx.out hz HZ1.out)
                            have HR2 := Lib.hid (show threadsE p = insE p c.length x from (firstE_map_at _ _ HE.out (by rw [HR1.out]; exact hz) HZ0.out).trans HR1.out)
                            have hz' : (insE p c.length x != 0) = true := by simp [hz]
                            clear hz
                            generalize insE p c.length x = ee at *
                            go_wp2_with fail
                            first
                              | (go_region_held3 (fun u => u.cell? ⟨w.heap.size, 0, none⟩ = some (.int .i64 p.vars) ∧ u.cell? ⟨w.heap.size, 1, none⟩ = some (.int .i64 p.atoms) ∧ u.cell? ⟨w.heap.size, 2, none⟩ = some (.int .i64 p.locks) ∧ u.cell? ⟨w.heap.size, 3, none⟩ = some (.slice ca p.chans.length ccap) ∧ u.cell? ⟨w.heap.size, 4, none⟩ = some (.int .i64 p.groups) ∧ u.cell? ⟨w.heap.size, 5, none⟩ = some (.int .i64 p.onces) ∧ u.cell? ⟨w.heap.size, 6, none⟩ = some (.slice (some ⟨b, off, none⟩) p.threads.length tcap) ∧ u.cell? ⟨b, off + k, none⟩ = some (.slice (some ⟨b', off', none⟩) c.length cap') ∧ u.cell? ⟨b', off' + m * 4, none⟩ = some (.int .u8 x.op) ∧ u.cell? ⟨b', off' + m * 4 + 1, none⟩ = some (.int .i64 x.a) ∧ u.cell? ⟨b', off' + m * 4 + 2, none⟩ = some (.int .i64 x.b) ∧ u.cell? ⟨b', off' + m * 4 + 3, none⟩ = some (.int .i64 x.c)) (first | exact ⟨q0, q1, q2, q3, q4, q5, q6, tc, i0, i1, i2, i3⟩ | exact keep12 (by assumption) hB3)
                                  (first
                                    | (go_at_call 37; refine (HIns.out _).mono ?_; rintro e w3 ⟨rfl, hB3⟩)))
                              | fail
                            have hB4 : Below wr.heap.size wr w3 := ⟨hB3.os, hB3.tape, hB3.output, hB3.size, hB3.block⟩
                            go_wp2
                            go_ret
                            exact ⟨ret_int (by rw [HR.out]; exact HR2.out.symm), hB.trans ((below_next hbW hB4).mono (by omega))⟩
                        · obtain rfl : m = c.length := by omega
                          have hlm' : decide ((c.length : Nat) < c.length) = false := by simp
                          go_wp2
                          go_roundw
                          case rel => exact ⟨k + 1, by omega, by go_num, hbW, fun j d hj hd => by
                            by_cases e : j = k
                            · subst e; have := HE.out; rw [this] at hd; cases hd
                              exact firstE_map _ _ fun j x hj => HZ1.out j x (List.getElem?_eq_some_iff.1 hj).1 hj
                            · exact HZ0.out j d (by omega) hd⟩
                          case measure => simp [intOf]; omega
                    · obtain rfl : k = p.threads.length := by omega
                      go_wp2
                      go_ret
                      exact ⟨ret_int (by rw [HR.out]; exact (firstE_map _ _ fun j c hj => HZ0.out j c (List.getElem?_eq_some_iff.1 hj).1 hj).symm), hB.trans (hb0.mono (by omega))⟩

end Go.Proofs.Ytpmfolgihdmcjaa
