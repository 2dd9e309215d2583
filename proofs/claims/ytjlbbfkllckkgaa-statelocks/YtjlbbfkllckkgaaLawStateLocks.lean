/- StateLocks: whoever locks a lock, never more than one has it alone, and then none reads; for every input. -/
import Derived.Test.YtjlbbfkllckkgaaLocksR
import Derived.Test.YtjlbbfkllckkgaaStateMade
namespace Go.Proofs.Ytjlbbfkllckkgaa
set_option linter.unusedVariables false
set_option linter.unusedSimpArgs false
open Go.ChangeShapes Go.WideShapes Go.ChangeAt Go.RowKit

theorem lk_in (u : World) {g h h' : Nat} (h1 : u.heap[h]? = some (.cells (codeCells lkA).toArray 24)) (h2 : u.heap[h']? = some (.cells (codeCells lkB).toArray 24)) (h3 : u.heap[g]? = some (.cells #[.slice (some ⟨h', 0, none⟩) 7 7, .slice (some ⟨h, 0, none⟩) 5 5, .slice (some ⟨h, 0, none⟩) 5 5] 25)) : ProgIn u u.heap.size lkD none (some ⟨g, 0, none⟩) := by
  refine ⟨fun i x hx => by simp [lkD] at hx, threads_lit (vs := [.slice (some ⟨h', 0, none⟩) 7 7, .slice (some ⟨h, 0, none⟩) 5 5, .slice (some ⟨h, 0, none⟩) 5 5]) h3 fun k c hc => ?_, by decide, by decide⟩
  rcases k with _ | _ | _ | k
  · obtain rfl := Option.some.inj (show some lkB = some c from hc)
    exact ⟨_, 7, rfl, code_lit h2⟩
  · obtain rfl := Option.some.inj (show some lkA = some c from hc)
    exact ⟨_, 5, rfl, code_lit h1⟩
  · obtain rfl := Option.some.inj (show some lkA = some c from hc)
    exact ⟨_, 5, rfl, code_lit h1⟩
  · simp [lkD, lkCode] at hc
theorem lk_facts {m : Nat → Int} {t : List Int} (h : Reach lkR m t) : lkAl m ≤ 1 ∧ (lkAl m ≤ 0 ∨ lkRd m ≤ 0) ∧ statusM lkCode m = 0 := by
  obtain ⟨l, hl, rfl, rfl⟩ := h
  have := List.all_eq_true.1 lk_good l hl
  simpa [and_assoc] using this
theorem alloc4_in {w : World} {o1 o2 o3 o4 : Obj} : ((((w.alloc o1).alloc o2).alloc o3).alloc o4).heap[w.heap.size]? = some o1 ∧ ((((w.alloc o1).alloc o2).alloc o3).alloc o4).heap[w.heap.size + 1]? = some o2 ∧ ((((w.alloc o1).alloc o2).alloc o3).alloc o4).heap[w.heap.size + 2]? = some o3 := by
  refine ⟨?_, ?_, ?_⟩
  · rw [Below.heap_alloc _ _ _ (by simp; omega), Below.heap_alloc _ _ _ (by simp; omega), Below.heap_alloc _ _ _ (by simp)]; exact heap_alloc_new _ _
  · rw [Below.heap_alloc _ _ _ (by simp), Below.heap_alloc _ _ _ (by simp)]
    exact heap_alloc2_new _ _ _
  · rw [Below.heap_alloc _ _ _ (by simp)]
    have := heap_alloc_new ((w.alloc o1).alloc o2) o3
    simpa using this

def lkAT (m : Nat → Int) : Nat → Int
  | 0 => 0
  | j + 1 => lkAT m j + lkAlone m j
def lkRT (m : Nat → Int) : Nat → Int
  | 0 => 0
  | j + 1 => lkRT m j + lkReads m j
theorem lkAlone_le (m : Nat → Int) (j : Nat) : 0 ≤ lkAlone m j ∧ lkAlone m j ≤ 1 := by
  unfold lkAlone; split <;> split <;> omega
theorem lkReads_le (m : Nat → Int) (j : Nat) : 0 ≤ lkReads m j ∧ lkReads m j ≤ 1 := by
  unfold lkReads; split <;> omega
theorem lkAT_le (m : Nat → Int) : ∀ j : Nat, 0 ≤ lkAT m j ∧ lkAT m j ≤ j
  | 0 => by simp [lkAT]
  | j + 1 => by
    have h1 := lkAT_le m j
    have h2 := lkAlone_le m j
    simp only [lkAT]; omega
theorem lkRT_le (m : Nat → Int) : ∀ j : Nat, 0 ≤ lkRT m j ∧ lkRT m j ≤ j
  | 0 => by simp [lkRT]
  | j + 1 => by
    have h1 := lkRT_le m j
    have h2 := lkReads_le m j
    simp only [lkRT]; omega
theorem lkAT_3 (m : Nat → Int) : lkAT m 3 = lkAl m := by simp [lkAT, lkAl]
theorem lkRT_3 (m : Nat → Int) : lkRT m 3 = lkRd m := by simp [lkRT, lkRd]

set_option maxRecDepth 100000 in
set_option maxHeartbeats 4000000 in
theorem stateLocks_walk (a1 : Option Addr) (len1 cap1 : Nat) (l1 : List Int) (w : World) (hp : SliceIn .u8 w a1 len1 cap1 l1) :
    Calls Try.prog 3 #[.slice a1 len1 cap1] w fun e w' => e = .returned (.bool true) ∧ Below w.heap.size w w' := by
  obtain ⟨q1, q2, q3, rfl⟩ := bytes_of hp
  have HP := Lib.hid q1
  have HPf := Lib.hid q2
  clear hp q1 q2
  go_enter Try.func3, Try.ntmps3
  go_wp2_with fail
  generalize hU : World.alloc (World.alloc (World.alloc (World.alloc w _) _) _) _ = U
  have hB1 : Below w.heap.size w U := by rw [← hU]; exact ((((Below.refl _ _).alloc (Nat.le_refl _) _).alloc (by simp) _).alloc (by simp; omega) _).alloc (by simp; omega) _
  have hP : ProgIn U U.heap.size lkD none (some ⟨w.heap.size + 1 + 1, 0, none⟩) := by rw [← hU]; exact lk_in _ alloc4_in.1 alloc4_in.2.1 alloc4_in.2.2
  refine (new_yes lkD none 0 (some ⟨w.heap.size + 1 + 1, 0, none⟩) 3 U hP lkD_sound).mono ?_
  rintro e w2 ⟨b, rfl, hB2, hb, S⟩
  have HB2 := Lib.hid (hB1.trans (hB2.mono hB1.size))
  have HS := Lib.hid S
  have hwb : w.heap.size ≤ b := Nat.le_trans hB1.size hb
  clear hU hB1 hP hB2 S hb
  go_wp2_with (first
    | (go_at_call 11; refine (picks_any l1 a1 cap1 w3 (fun i y hy => by obtain ⟨c, off, e1, e2, e3⟩ := HP.out i y hy; exact ⟨c, off, e1, Nat.lt_of_lt_of_le e2 HB3.out.size, (HB3.out.cell (p := ⟨c, off + i, none⟩) e2).trans e3⟩) HPf.out q3).mono ?_; rintro e w4 ⟨pv, rfl, hown, hB4⟩; have HR0 := Lib.hid (Rn.start (HS3.out.later hB4) (inv_new lkD_sound) (by omega)); have HB4 := Lib.hid (below_next HB3.out hB4); obtain ⟨pa, pc, rfl, hcells⟩ := own_cells hown; have HC := Lib.hid hcells; have hb4 : b < w3.heap.size := HS3.out.lt; clear hown hB4 hcells)
    | (go_at_call 10; refine (known4_any w2).mono ?_; rintro e w3 ⟨rfl, hB3⟩; have HS3 := Lib.hid (HS.out.later hB3); have HB3 := Lib.hid (below_next HB2.out hB3); clear hB3))
  have HMem := Lib.hid (fun x (h : x ∈ picksL l1) => picksL_mem h)
  have h60 := picksL_len l1
  generalize hps : picksL l1 = ps at *
  clear hps HS HS3
  go_loopw [7] (fun i wr => ∃ k : Nat, k ≤ ps.length ∧ i = .int .i64 k ∧ Hid (Rn w4 wr b (b + 1) (runM lkCode (ps.take k) (newM [])) lkCode (runT lkCode (ps.take k) (newM []))) ∧ Hid (Reach lkR (runM lkCode (ps.take k) (newM [])) (runT lkCode (ps.take k) (newM [])))) (fun i _ => ps.length - (intOf i).toNat)
  case atStart => exact ⟨0, Nat.zero_le _, rfl, HR0, Lib.hid lk_start⟩
  case round =>
    obtain ⟨k, hk, rfl, HR, HRe⟩ := hrel
    have htl := runT_len lkCode (ps.take k) (newM [])
    rw [List.length_take] at htl
    by_cases hlt : k < ps.length
    · obtain ⟨y, hy⟩ := at_lt hlt
      obtain ⟨g, rfl, hg1, hg2, hcell⟩ := HC.out k y hy
      have hcell' := (World.cell?_of_block (a := ⟨g, k, none⟩) (HR.out.kept hg2 (by show g ≠ b; omega))).trans hcell
      have HY := Lib.hid hy
      have hy3 := HMem.out y (List.mem_of_getElem? hy)
      have HRe' := HRe.out.step lk_closed lk_len HR.out.inv (by decide) hy3.1 hy3.2
      rw [← runM_take hy, ← runT_take hy] at HRe'
      have HF := Lib.hid (lk_facts HRe')
      have HRe2 := Lib.hid HRe'
      clear hcell hy hy3 HRe'
      go_wp2_with (first
        | (go_at_call 12; refine (HR.out.step (by omega) y).mono ?_; rintro e w5 ⟨rfl, hR5, _⟩; rw [← runM_take HY.out, ← runT_take HY.out] at hR5; have HR5 := Lib.hid hR5; clear hR5))
      generalize hmm : runM lkCode (ps.take (k + 1)) (newM []) = mm at *
      generalize htt : runT lkCode (ps.take (k + 1)) (newM []) = tt at *
      have HMM := Lib.hid hmm
      have HTT := Lib.hid htt
      clear hmm htt
      go_loopw [8, 9, 10] (fun al rd i u => ∃ j : Nat, j ≤ 3 ∧ i = .int .i64 j ∧ al = .int .i64 (lkAT mm j) ∧ rd = .int .i64 (lkRT mm j) ∧ u = w5) (fun _ _ i _ => 3 - (intOf i).toNat)
      case atStart => exact ⟨0, by omega, rfl, rfl, rfl, rfl⟩
      case round =>
        obtain ⟨j, hj, rfl, rfl, rfl, rfl⟩ := hrel
        have hal := lkAT_le mm j
        have hrd := lkRT_le mm j
        by_cases hj3 : j < 3
        · have hA1 : lkAT mm (j + 1) = lkAT mm j + lkAlone mm j := rfl
          have hR1 : lkRT mm (j + 1) = lkRT mm j + lkReads mm j := rfl
          have hpc : pcM lkCode mm j = mm (1 + j * 6 + 1) := by
            have : hasT lkCode.length (j : Int) = true := by simp [hasT, lkCode]; omega
            simp [pcM, this]
          have hAl : lkAlone mm j = if j = 0 then (if mm (1 + j * 6 + 1) == 5 then 1 else 0) else (if mm (1 + j * 6 + 1) == 1 then 1 else 0) := by
            unfold lkAlone
            by_cases h0 : j = 0
            · subst h0; rfl
            · rw [if_neg h0, if_neg h0]
          have hRl : lkReads mm j = if mm (1 + j * 6 + 1) == 3 then 1 else 0 := rfl
          generalize mm (1 + j * 6 + 1) = q at hpc hAl hRl
          rw [hAl] at hA1
          rw [hRl] at hR1
          have HPc := Lib.hid hpc
          generalize hna : lkAT mm (j + 1) = na at hA1
          generalize hnr : lkRT mm (j + 1) = nr at hR1
          have HNa := Lib.hid hna
          have HNr := Lib.hid hnr
          clear hpc hAl hRl hna hnr
          generalize lkAT mm j = al at *
          generalize lkRT mm j = rd at *
          have hjj : (j : Int) < 3 := by omega
          by_cases h0 : j = 0
          · rw [if_pos h0] at hA1
            have hj0 : ((j : Int) == 0) = true := by simp; omega
            have hjp : ¬ (0 : Int) < j := by omega
            clear h0
            rcases h5 : (q == 5) with _ | _
            all_goals
              rcases h33 : (q == 3) with _ | _
              all_goals
                rw [h5] at hA1
                rw [h33] at hR1
                simp only [Bool.false_eq_true, if_false, if_true] at hA1 hR1
                go_wp2_with (first
                  | (go_at_call 13; refine (HR5.out.pc _).mono ?_; rintro e w6 ⟨rfl, rfl⟩; rw [HPc.out]))
                go_roundw
                case rel => exact ⟨j + 1, by omega, by go_num, by (rw [HNa.out, hA1]) <;> go_num, by (rw [HNr.out, hR1]) <;> go_num, trivial⟩
                case measure => simp [intOf]; omega
          · rw [if_neg h0] at hA1
            have hj0 : ((j : Int) == 0) = false := by simp; omega
            have hjp : (0 : Int) < j := by omega
            clear h0
            rcases h5 : (q == 1) with _ | _
            all_goals
              rcases h33 : (q == 3) with _ | _
              all_goals
                rw [h5] at hA1
                rw [h33] at hR1
                simp only [Bool.false_eq_true, if_false, if_true] at hA1 hR1
                go_wp2_with (first
                  | (go_at_call 13; refine (HR5.out.pc _).mono ?_; rintro e w6 ⟨rfl, rfl⟩; rw [HPc.out]))
                go_roundw
                case rel => exact ⟨j + 1, by omega, by go_num, by (rw [HNa.out, hA1]) <;> go_num, by (rw [HNr.out, hR1]) <;> go_num, trivial⟩
                case measure => simp [intOf]; omega
        · obtain rfl : j = 3 := by omega
          rw [lkAT_3] at hal ⊢
          rw [lkRT_3] at hrd ⊢
          obtain ⟨f1, f2, f3⟩ := HF.out
          have HF3 := Lib.hid f3
          generalize lkAl mm = al at *
          generalize lkRd mm = rd at *
          have g1 : ¬ (1 : Int) < al := by omega
          clear f3
          rcases hb : (al == 1) with _ | _
          · go_wp2_with (first
              | (go_at_call 14; refine HR5.out.status.mono ?_; rintro e w6 ⟨rfl, hB6⟩; rw [HF3.out]; have HR6 := Lib.hid (HR5.out.later hB6); clear hB6))
            go_roundw
            case rel => exact ⟨k + 1, by omega, by go_num, Lib.hid (by rw [HMM.out, HTT.out]; exact HR6.out), Lib.hid (by rw [HMM.out, HTT.out]; exact HRe2.out)⟩
            case measure => simp [intOf]; omega
          · have g2 : ¬ (0 : Int) < rd := by
              have : al = 1 := by simpa using hb
              omega
            go_wp2_with (first
              | (go_at_call 14; refine HR5.out.status.mono ?_; rintro e w6 ⟨rfl, hB6⟩; rw [HF3.out]; have HR6 := Lib.hid (HR5.out.later hB6); clear hB6))
            go_roundw
            case rel => exact ⟨k + 1, by omega, by go_num, Lib.hid (by rw [HMM.out, HTT.out]; exact HR6.out), Lib.hid (by rw [HMM.out, HTT.out]; exact HRe2.out)⟩
            case measure => simp [intOf]; omega
    · obtain rfl : k = ps.length := by omega
      go_wp2
      go_ret
      exact ⟨rfl, HR.out.below HB4.out hwb⟩

set_option maxRecDepth 100000 in
theorem stateLocks_lifted (os : Os) (started : os.Started) (H : Type) (enc : TypeId × Value → H) :
    ReturnsInHanded {} Try.checked os 3 .any (Rows.stateLocksSpec.pre6 enc Try.prog Try.f3 Rows.stateLocksRow.domain false) (Rows.stateLocksSpec.post enc Try.prog Try.f3 false true false false) := by
  refine returnsInHanded_of_change (C := Try.checked) law_own started (by kernel_rfl) Try.func3
    (ChangeSpec.witness6 (enc := enc) (C := Try.checked) false ⟨#[], #[.slice none 0 0], []⟩ 8 (by kernel_rfl) (by kernel_rfl) (by kernel_rfl) (by kernel_rfl)) ?_
  intro W base args ds gs before hval0 hW hcnd _
  have hval : ∀ (j : Nat) t v, Try.f3.params[j]? = some t → args[j]? = some v → Value.okWide Try.prog W .any base t v := hval0
  have hW' := hW
  obtain ⟨p, q, hA0, hV, rfl, hfz, hnd⟩ := hW
  have hA : DataW.TrodAll enc Try.prog W 0 (fun _ => true) true Try.f3.params.toList args.toList ds p := hA0
  rw [Try.params3] at hA hval
  obtain ⟨v0, vs0, d0, ds0, p0, q0, hargs, rfl, rfl, h0, r0⟩ := trodAll_cons hA
  obtain ⟨rfl, rfl, rfl⟩ := trodAll_nil r0
  obtain rfl : args = #[v0] := by cases args; simp_all
  obtain ⟨rfl, rfl⟩ := trodVars_none hV
  obtain ⟨a0, len0, cap0, rfl⟩ := okWide_slice Try.underlying22 (hval 0 22 v0 rfl rfl)
  have k0 := h0
  have lt0 : ∀ x ∈ p0, x.block < W.heap.size := by obtain ⟨m, hm⟩ := k0; exact DataW.trod_lt m _ _ _ hm
  obtain ⟨l0, w0⟩ : ∃ l, SliceIn .u8 W a0 len0 cap0 l := by
    obtain ⟨fuel, hf⟩ := h0
    rcases open_ints Try.underlying22 Try.underlying5 (by kernel_rfl) hf with ⟨hcs, _⟩ | ⟨x, l, c, zs, hcs, _, hl, hm, hz, _, hcell, hwz⟩
    · simp [Value.cells] at hcs
      obtain ⟨rfl, rfl, rfl⟩ := hcs
      exact ⟨[], SliceIn.nil _ _⟩
    · simp [Value.cells] at hcs
      obtain ⟨rfl, rfl, rfl⟩ := hcs
      exact ⟨_, SliceIn.of hl hm (by simpa using hz) hcell hwz⟩
  clear hA0 hval0
  refine (stateLocks_walk a0 len0 cap0 l0 W w0).mono fun e W' ⟨he, bel⟩ => ?_
  subst he
  exact ⟨_, rfl, _, _, _, [], _, [], hW', trodAll_mk1 (shut_bool Try.underlying4 _), (trodAll_cons_mk (Below.trod law_laidOut (by kernel_rfl) (of_decide_eq_true (by kernel_rfl)) k0 bel lt0) trodAll_mk0), rfl, bel.frame _, fun h => by cases h⟩

/-- The statement. -/
theorem stateLocks_holds : Rows.StateLocksSaid :=
  OpenClaim.holds_of_wide 3 Try.f3 rfl rfl rfl rfl rfl rfl rfl ⟨rfl, rfl, rfl, rfl, rfl⟩ rfl rfl rfl rfl rfl (by kernel_rfl) Try.func3 (by kernel_rfl)
    (of_decide_eq_true (by kernel_rfl)) (by unfold Func.isWrapper; first | (rw [if_pos (by decide +kernel)]; kernel_rfl) | (rw [if_neg (by decide +kernel)]; exact ⟨rfl, rfl⟩))
    (fun os started H enc _ => stateLocks_lifted os started H enc)

end Go.Proofs.Ytjlbbfkllckkgaa
