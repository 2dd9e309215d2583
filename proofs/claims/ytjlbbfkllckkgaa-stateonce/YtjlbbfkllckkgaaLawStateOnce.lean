/- StateOnce: whoever comes first, what is to be done once is begun by one alone, and all others wait till it is done; for every input. -/
import Derived.Test.YtjlbbfkllckkgaaOnceR
import Derived.Test.YtjlbbfkllckkgaaStateMade
namespace Go.Proofs.Ytjlbbfkllckkgaa
set_option linter.unusedVariables false
set_option linter.unusedSimpArgs false
open Go.ChangeShapes Go.WideShapes Go.ChangeAt Go.RowKit

theorem on_in (u : World) {g h h' : Nat} (h1 : u.heap[h]? = some (.cells (codeCells onA).toArray 24)) (h2 : u.heap[h']? = some (.cells (codeCells onB).toArray 24)) (h3 : u.heap[g]? = some (.cells #[.slice (some ⟨h', 0, none⟩) 2 2, .slice (some ⟨h, 0, none⟩) 5 5, .slice (some ⟨h, 0, none⟩) 5 5] 25)) : ProgIn u u.heap.size onD none (some ⟨g, 0, none⟩) := by
  refine ⟨fun i x hx => by simp [onD] at hx, threads_lit (vs := [.slice (some ⟨h', 0, none⟩) 2 2, .slice (some ⟨h, 0, none⟩) 5 5, .slice (some ⟨h, 0, none⟩) 5 5]) h3 fun k c hc => ?_, by decide, by decide⟩
  rcases k with _ | _ | _ | k
  · obtain rfl := Option.some.inj (show some onB = some c from hc)
    exact ⟨_, 2, rfl, code_lit h2⟩
  · obtain rfl := Option.some.inj (show some onA = some c from hc)
    exact ⟨_, 5, rfl, code_lit h1⟩
  · obtain rfl := Option.some.inj (show some onA = some c from hc)
    exact ⟨_, 5, rfl, code_lit h1⟩
  · simp [onD, onCode] at hc
theorem alloc4_in {w : World} {o1 o2 o3 o4 : Obj} : ((((w.alloc o1).alloc o2).alloc o3).alloc o4).heap[w.heap.size]? = some o1 ∧ ((((w.alloc o1).alloc o2).alloc o3).alloc o4).heap[w.heap.size + 1]? = some o2 ∧ ((((w.alloc o1).alloc o2).alloc o3).alloc o4).heap[w.heap.size + 2]? = some o3 := by
  refine ⟨?_, ?_, ?_⟩
  · rw [Below.heap_alloc _ _ _ (by simp; omega), Below.heap_alloc _ _ _ (by simp; omega), Below.heap_alloc _ _ _ (by simp)]; exact heap_alloc_new _ _
  · rw [Below.heap_alloc _ _ _ (by simp), Below.heap_alloc _ _ _ (by simp)]
    exact heap_alloc2_new _ _ _
  · rw [Below.heap_alloc _ _ _ (by simp)]
    have := heap_alloc_new ((w.alloc o1).alloc o2) o3
    simpa using this

def onT (m : Nat → Int) : Nat → Int
  | 0 => 0
  | j + 1 => onT m j + onIn m (j + 1)
theorem onIn_le (m : Nat → Int) (j : Nat) : 0 ≤ onIn m j ∧ onIn m j ≤ 1 := by
  unfold onIn; split <;> omega
theorem onT_le (m : Nat → Int) : ∀ j : Nat, 0 ≤ onT m j ∧ onT m j ≤ j
  | 0 => by simp [onT]
  | j + 1 => by
    have h1 := onT_le m j
    have h2 := onIn_le m (j + 1)
    simp only [onT]; omega

set_option maxRecDepth 100000 in
set_option maxHeartbeats 4000000 in
theorem stateOnce_walk (a1 : Option Addr) (len1 cap1 : Nat) (l1 : List Int) (w : World) (hp : SliceIn .u8 w a1 len1 cap1 l1) :
    Calls Try.prog 4 #[.slice a1 len1 cap1] w fun e w' => e = .returned (.bool true) ∧ Below w.heap.size w w' := by
  obtain ⟨q1, q2, q3, rfl⟩ := bytes_of hp
  have HP := Lib.hid q1
  have HPf := Lib.hid q2
  clear hp q1 q2
  go_enter Try.func4, Try.ntmps4
  go_wp2_with fail
  generalize hU : World.alloc (World.alloc (World.alloc (World.alloc w _) _) _) _ = U
  have hB1 : Below w.heap.size w U := by rw [← hU]; exact ((((Below.refl _ _).alloc (Nat.le_refl _) _).alloc (by simp) _).alloc (by simp; omega) _).alloc (by simp; omega) _
  have hP : ProgIn U U.heap.size onD none (some ⟨w.heap.size + 1 + 1, 0, none⟩) := by rw [← hU]; exact on_in _ alloc4_in.1 alloc4_in.2.1 alloc4_in.2.2
  refine (new_yes onD none 0 (some ⟨w.heap.size + 1 + 1, 0, none⟩) 3 U hP onD_sound).mono ?_
  rintro e w2 ⟨b, rfl, hB2, hb, S⟩
  have HB2 := Lib.hid (hB1.trans (hB2.mono hB1.size))
  have HS := Lib.hid S
  have hwb : w.heap.size ≤ b := Nat.le_trans hB1.size hb
  clear hU hB1 hP hB2 S hb
  go_wp2_with (first
    | (go_at_call 11; refine (picks_any l1 a1 cap1 w3 (fun i y hy => by obtain ⟨c, off, e1, e2, e3⟩ := HP.out i y hy; exact ⟨c, off, e1, Nat.lt_of_lt_of_le e2 HB3.out.size, (HB3.out.cell (p := ⟨c, off + i, none⟩) e2).trans e3⟩) HPf.out q3).mono ?_; rintro e w4 ⟨pv, rfl, hown, hB4⟩; have HR0 := Lib.hid (Rn.start (HS3.out.later hB4) (inv_new onD_sound) (by omega)); have HB4 := Lib.hid (below_next HB3.out hB4); obtain ⟨pa, pc, rfl, hcells⟩ := own_cells hown; have HC := Lib.hid hcells; have hb4 : b < w3.heap.size := HS3.out.lt; clear hown hB4 hcells)
    | (go_at_call 10; refine (known4_any w2).mono ?_; rintro e w3 ⟨rfl, hB3⟩; have HS3 := Lib.hid (HS.out.later hB3); have HB3 := Lib.hid (below_next HB2.out hB3); clear hB3))
  have HMem := Lib.hid (fun x (h : x ∈ picksL l1) => picksL_mem h)
  have h60 := picksL_len l1
  generalize hps : picksL l1 = ps at *
  clear hps HS HS3
  go_loopw [7] (fun i wr => ∃ k : Nat, k ≤ ps.length ∧ i = .int .i64 k ∧ Hid (Rn w4 wr b (b + 1) (runM onCode (ps.take k) (newM [])) onCode (runT onCode (ps.take k) (newM []))) ∧ Hid (Reach onR (runM onCode (ps.take k) (newM [])) (runT onCode (ps.take k) (newM [])))) (fun i _ => ps.length - (intOf i).toNat)
  case atStart => exact ⟨0, Nat.zero_le _, rfl, HR0, Lib.hid on_start⟩
  case round =>
    obtain ⟨k, hk, rfl, HR, HRe⟩ := hrel
    have htl := runT_len onCode (ps.take k) (newM [])
    rw [List.length_take] at htl
    by_cases hlt : k < ps.length
    · obtain ⟨y, hy⟩ := at_lt hlt
      obtain ⟨g, rfl, hg1, hg2, hcell⟩ := HC.out k y hy
      have hcell' := (World.cell?_of_block (a := ⟨g, k, none⟩) (HR.out.kept hg2 (by show g ≠ b; omega))).trans hcell
      have HY := Lib.hid hy
      have hy3 := HMem.out y (List.mem_of_getElem? hy)
      have HRe' := HRe.out.step on_closed on_len HR.out.inv (by decide) hy3.1 hy3.2
      rw [← runM_take hy, ← runT_take hy] at HRe'
      have HRe2 := Lib.hid HRe'
      clear hcell hy hy3 HRe'
      go_wp2_with (first
        | (go_at_call 12; refine (HR.out.step (by omega) y).mono ?_; rintro e w5 ⟨rfl, hR5, _⟩; rw [← runM_take HY.out, ← runT_take HY.out] at hR5; have HR5 := Lib.hid hR5; clear hR5))
      go_roundw
      case rel => exact ⟨k + 1, by omega, by go_num, HR5, HRe2⟩
      case measure => simp [intOf]; omega
    · obtain rfl : k = ps.length := by omega
      generalize runM onCode (ps.take ps.length) (newM []) = mm at *
      generalize runT onCode (ps.take ps.length) (newM []) = tt at *
      obtain ⟨f1, f2, f3, f4⟩ := on_facts HRe.out
      have HBr := Lib.hid (HR.out.below HB4.out hwb)
      have HF2 := Lib.hid f2
      have HF3 := Lib.hid f3
      have HF4 := Lib.hid f4
      clear f2 f3 f4 htl
      go_wp2_with (first
        | (go_at_call 15; refine (HR.out.prints (by omega)).mono ?_; rintro e w5 ⟨v5, rfl, hown5, hB5⟩; obtain ⟨va, vc, rfl⟩ := st_slice hown5; have HR5 := Lib.hid (HR.out.later hB5); have HB5 := Lib.hid (below_next HBr.out hB5); clear hB5 hown5))
      go_loopw [9, 10] (fun n i u => ∃ j : Nat, j ≤ 2 ∧ i = .int .i64 (j + 1) ∧ n = .int .i64 (onT mm j) ∧ u = w5) (fun _ i _ => 3 - (intOf i).toNat)
      case atStart => exact ⟨0, by omega, rfl, rfl, rfl⟩
      case round =>
        obtain ⟨j, hj, rfl, rfl, rfl⟩ := hrel
        have hal := onT_le mm j
        by_cases hj3 : j < 2
        · have hA1 : onT mm (j + 1) = onT mm j + onIn mm (j + 1) := rfl
          have hpc : pcM onCode mm ((j : Int) + 1) = mm (1 + (j + 1) * 6 + 1) := by
            have h1 : hasT onCode.length ((j : Int) + 1) = true := by simp [hasT, onCode]; omega
            have h2 : ((j : Int) + 1).toNat = j + 1 := by omega
            simp [pcM, h1, h2]
          have HReg := Lib.hid (show Calls Try.prog 16 #[.pointer (some ⟨b, 0, none⟩), .int .i64 ((j : Int) + 1), .int .i64 0] wr fun e w' => e = .returned (.int .i64 (mm (rg (j + 1) 0))) ∧ wr = w' from HR5.out.reg (k := j + 1) (r := 0) (by simp [onCode]; omega) (by decide))
          have hin : onIn mm (j + 1) = if decide (0 < mm (1 + (j + 1) * 6 + 1)) && decide (mm (1 + (j + 1) * 6 + 1) < 4) && (mm (rg (j + 1) 0) == 1) then 1 else 0 := rfl
          generalize mm (1 + (j + 1) * 6 + 1) = q at hpc hin
          generalize mm (rg (j + 1) 0) = r at HReg hin
          rw [hin] at hA1
          have HPc := Lib.hid hpc
          generalize hna : onT mm (j + 1) = na at hA1
          have HNa := Lib.hid hna
          clear hpc hin hna
          generalize onT mm j = al at *
          have hjj : (j : Int) + 1 < 3 := by omega
          by_cases c1 : 0 < q
          · by_cases c2 : q < 4
            · rcases c3 : (r == 1) with _ | _
              all_goals
                simp [c1, c2, c3] at hA1
                go_wp2_with (first
                  | (go_at_call 16; refine HReg.out.mono ?_; rintro e w6 ⟨rfl, rfl⟩)
                  | (go_at_call 13; refine (HR5.out.pc _).mono ?_; rintro e w6 ⟨rfl, rfl⟩; rw [HPc.out]))
                go_roundw
                case rel => exact ⟨j + 1, by omega, by go_num, by (rw [HNa.out, hA1]) <;> go_num, trivial⟩
                case measure => simp [intOf]; omega
            · simp [c1, c2] at hA1
              go_wp2_with (first
                | (go_at_call 16; refine HReg.out.mono ?_; rintro e w6 ⟨rfl, rfl⟩)
                | (go_at_call 13; refine (HR5.out.pc _).mono ?_; rintro e w6 ⟨rfl, rfl⟩; rw [HPc.out]))
              go_roundw
              case rel => exact ⟨j + 1, by omega, by go_num, by (rw [HNa.out, hA1]) <;> go_num, trivial⟩
              case measure => simp [intOf]; omega
          · simp [c1] at hA1
            go_wp2_with (first
              | (go_at_call 16; refine HReg.out.mono ?_; rintro e w6 ⟨rfl, rfl⟩)
              | (go_at_call 13; refine (HR5.out.pc _).mono ?_; rintro e w6 ⟨rfl, rfl⟩; rw [HPc.out]))
            go_roundw
            case rel => exact ⟨j + 1, by omega, by go_num, by (rw [HNa.out, hA1]) <;> go_num, trivial⟩
            case measure => simp [intOf]; omega
        · obtain rfl : j = 2 := by omega
          have f2 := HF2.out
          have e2 : onT mm 2 = onIn mm 1 + onIn mm 2 := by simp [onT]
          rw [← e2] at f2
          rw [show ((2 : Nat) : Int) + 1 = 3 from rfl]
          generalize onT mm 2 = al at *
          have f3 := HF3.out
          generalize hst : statusM onCode mm = st at f3
          have HSt := Lib.hid hst
          have hst3 : (st != 3) = true := by simpa using f3
          have HP1 := Lib.hid (show pcM onCode mm 1 = mm 8 from rfl)
          have HP2 := Lib.hid (show pcM onCode mm 2 = mm 14 from rfl)
          have f4 := HF4.out
          generalize mm 8 = p1 at *
          generalize mm 14 = p2 at *
          have ht1 : (tt.length : Int) ≤ 1 := by omega
          clear hst f3 HF4 HF2 HF3 e2
          by_cases c1 : p1 < 4
          · by_cases c2 : p2 < 4
            · clear f4
              go_wp2_with (first
                | (go_at_call 13; refine (HR6.out.pc _).mono ?_; rintro e w7 ⟨rfl, rfl⟩; first | rw [HP1.out] | rw [HP2.out])
                | (go_at_call 14; refine HR5.out.status.mono ?_; rintro e w6 ⟨rfl, hB6⟩; rw [HSt.out]; have HR6 := Lib.hid (HR5.out.later hB6); have HB6 := Lib.hid (below_next HB5.out hB6); clear hB6))
              go_ret
              exact ⟨rfl, HB6.out⟩
            · by_cases c3 : tt.length = 1
              · have c3' : ((tt.length : Int) == 1) = true := by simp; omega
                clear f4 c3
                go_wp2_with (first
                  | (go_at_call 13; refine (HR6.out.pc _).mono ?_; rintro e w7 ⟨rfl, rfl⟩; first | rw [HP1.out] | rw [HP2.out])
                  | (go_at_call 14; refine HR5.out.status.mono ?_; rintro e w6 ⟨rfl, hB6⟩; rw [HSt.out]; have HR6 := Lib.hid (HR5.out.later hB6); have HB6 := Lib.hid (below_next HB5.out hB6); clear hB6))
                go_ret
                exact ⟨rfl, HB6.out⟩
              · have c3' : ((tt.length : Int) == 1) = false := by simp; omega
                have c4 : (p1 == 0) = true := by simp; omega
                clear f4 c3
                go_wp2_with (first
                  | (go_at_call 13; refine (HR6.out.pc _).mono ?_; rintro e w7 ⟨rfl, rfl⟩; first | rw [HP1.out] | rw [HP2.out])
                  | (go_at_call 14; refine HR5.out.status.mono ?_; rintro e w6 ⟨rfl, hB6⟩; rw [HSt.out]; have HR6 := Lib.hid (HR5.out.later hB6); have HB6 := Lib.hid (below_next HB5.out hB6); clear hB6))
                go_ret
                exact ⟨rfl, HB6.out⟩
          · by_cases c3 : tt.length = 1
            · have c3' : ((tt.length : Int) == 1) = true := by simp; omega
              clear f4 c3
              go_wp2_with (first
                | (go_at_call 13; refine (HR6.out.pc _).mono ?_; rintro e w7 ⟨rfl, rfl⟩; first | rw [HP1.out] | rw [HP2.out])
                | (go_at_call 14; refine HR5.out.status.mono ?_; rintro e w6 ⟨rfl, hB6⟩; rw [HSt.out]; have HR6 := Lib.hid (HR5.out.later hB6); have HB6 := Lib.hid (below_next HB5.out hB6); clear hB6))
              go_ret
              exact ⟨rfl, HB6.out⟩
            · have c3' : ((tt.length : Int) == 1) = false := by simp; omega
              have c4 : (p1 == 0) = false := by simp; omega
              have c5 : (p2 == 0) = true := by simp; omega
              clear f4 c3
              go_wp2_with (first
                | (go_at_call 13; refine (HR6.out.pc _).mono ?_; rintro e w7 ⟨rfl, rfl⟩; first | rw [HP1.out] | rw [HP2.out])
                | (go_at_call 14; refine HR5.out.status.mono ?_; rintro e w6 ⟨rfl, hB6⟩; rw [HSt.out]; have HR6 := Lib.hid (HR5.out.later hB6); have HB6 := Lib.hid (below_next HB5.out hB6); clear hB6))
              go_ret
              exact ⟨rfl, HB6.out⟩

set_option maxRecDepth 100000 in
theorem stateOnce_lifted (os : Os) (started : os.Started) (H : Type) (enc : TypeId × Value → H) :
    ReturnsInHanded {} Try.checked os 4 .any (Rows.stateOnceSpec.pre6 enc Try.prog Try.f4 Rows.stateOnceRow.domain false) (Rows.stateOnceSpec.post enc Try.prog Try.f4 false true false false) := by
  refine returnsInHanded_of_change (C := Try.checked) law_own started (by kernel_rfl) Try.func4
    (ChangeSpec.witness6 (enc := enc) (C := Try.checked) false ⟨#[], #[.slice none 0 0], []⟩ 8 (by kernel_rfl) (by kernel_rfl) (by kernel_rfl) (by kernel_rfl)) ?_
  intro W base args ds gs before hval0 hW hcnd _
  have hval : ∀ (j : Nat) t v, Try.f4.params[j]? = some t → args[j]? = some v → Value.okWide Try.prog W .any base t v := hval0
  have hW' := hW
  obtain ⟨p, q, hA0, hV, rfl, hfz, hnd⟩ := hW
  have hA : DataW.TrodAll enc Try.prog W 0 (fun _ => true) true Try.f4.params.toList args.toList ds p := hA0
  rw [Try.params4] at hA hval
  obtain ⟨v0, vs0, d0, ds0, p0, q0, hargs, rfl, rfl, h0, r0⟩ := trodAll_cons hA
  obtain ⟨rfl, rfl, rfl⟩ := trodAll_nil r0
  obtain rfl : args = #[v0] := by cases args; simp_all
  obtain ⟨rfl, rfl⟩ := trodVars_none hV
  obtain ⟨a0, len0, cap0, rfl⟩ := okWide_slice Try.underlying22 (hval 0 22 v0 rfl rfl)
  have k0 := h0
  have lt0 : ∀ x ∈ p0, x.block < W.heap.size := by obtain ⟨m, hm⟩ := k0; exact DataW.trod_lt m _ _ _ hm
  obtain ⟨l0, w0⟩ : ∃ l, SliceIn .u8 W a0 len0 cap0 l := by
    obtain ⟨fuel, hf⟩ := h0
    rcases open_ints Try.underlying22 Try.underlying5 (by kernel_rfl) hf with ⟨hcs, _⟩ | ⟨x, l, c, zs, hcs, _, hl, hm, hz, _, hcell, hwz⟩
    · simp [Value.cells] at hcs
      obtain ⟨rfl, rfl, rfl⟩ := hcs
      exact ⟨[], SliceIn.nil _ _⟩
    · simp [Value.cells] at hcs
      obtain ⟨rfl, rfl, rfl⟩ := hcs
      exact ⟨_, SliceIn.of hl hm (by simpa using hz) hcell hwz⟩
  clear hA0 hval0
  refine (stateOnce_walk a0 len0 cap0 l0 W w0).mono fun e W' ⟨he, bel⟩ => ?_
  subst he
  exact ⟨_, rfl, _, _, _, [], _, [], hW', trodAll_mk1 (shut_bool Try.underlying4 _), (trodAll_cons_mk (Below.trod law_laidOut (by kernel_rfl) (of_decide_eq_true (by kernel_rfl)) k0 bel lt0) trodAll_mk0), rfl, bel.frame _, fun h => by cases h⟩

/-- The statement. -/
theorem stateOnce_holds : Rows.StateOnceSaid :=
  OpenClaim.holds_of_wide 4 Try.f4 rfl rfl rfl rfl rfl rfl rfl ⟨rfl, rfl, rfl, rfl, rfl⟩ rfl rfl rfl rfl rfl (by kernel_rfl) Try.func4 (by kernel_rfl)
    (of_decide_eq_true (by kernel_rfl)) (by unfold Func.isWrapper; first | (rw [if_pos (by decide +kernel)]; kernel_rfl) | (rw [if_neg (by decide +kernel)]; exact ⟨rfl, rfl⟩))
    (fun os started H enc _ => stateOnce_lifted os started H enc)

end Go.Proofs.Ytjlbbfkllckkgaa
