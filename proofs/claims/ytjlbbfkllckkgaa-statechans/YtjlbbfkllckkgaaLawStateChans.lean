/- StateChans: what goes into a channel comes out in its order, each once; never more are inside than there is room; for every input. -/
import Derived.Test.YtjlbbfkllckkgaaChansR
import Derived.Test.YtjlbbfkllckkgaaStateMade
import Derived.Deep.DeepCutAuto
namespace Go.Proofs.Ytjlbbfkllckkgaa
set_option linter.unusedVariables false
set_option linter.unusedSimpArgs false
open Go.ChangeShapes Go.WideShapes Go.ChangeAt Go.RowKit

theorem cells_two_new (w : World) (x y : InsD) (t : TypeId) : ∀ j u, (codeCells [x, y])[j]? = some u → (w.alloc (.cells #[.int .u8 x.op, .int .i64 x.a, .int .i64 x.b, .int .i64 x.c, .int .u8 y.op, .int .i64 y.a, .int .i64 y.b, .int .i64 y.c] t)).cell? ((⟨w.heap.size, 0, none⟩ : Addr).add j) = some u := by
  intro j u hj
  rw [Addr.add_mid, Nat.zero_add, cell_of_row _ _ _ _ _ _ (heap_alloc_new _ _)]
  simpa [codeCells, insCells] using hj

/-- Two rows of code of the call's own. -/
structure Two (u : World) (base : Nat) (v1 v2 : Value) (c1 c2 : List InsD) : Prop where
  own1 : u.ownsRow base 24 4 v1 c1.length (codeCells c1)
  own2 : u.ownsRow base 24 4 v2 c2.length (codeCells c2)
  apart : Apart v1 v2
theorem Two.symm {u : World} {base : Nat} {v1 v2 : Value} {c1 c2 : List InsD} (h : Two u base v1 v2 c1 c2) : Two u base v2 v1 c2 c1 := ⟨h.own2, h.own1, h.apart.symm⟩
theorem Two.later {u u' : World} {base : Nat} {v1 v2 : Value} {c1 c2 : List InsD} (h : Two u base v1 v2 c1 c2) (hB : Below u.heap.size u u') : Two u' base v1 v2 c1 c2 := ⟨own_later h.own1 hB, own_later h.own2 hB, h.apart⟩
theorem Two.grow {u u' : World} {base : Nat} {v1 v1' v2 : Value} {c1 c2 d : List InsD} (h : Two u base v1 v2 c1 c2) (hrow : u'.ownsRow base 24 4 v1' (c1.length + 2) (codeCells c1 ++ codeCells d)) (hd : d.length = 2) (hg : u.grownBy u' v1.ownBlock) (hat : v1'.ownBlock = v1.ownBlock ∨ v1'.ownBlock = some u.heap.size) : Two u' base v1' v2 (c1 ++ d) c2 := by
  refine ⟨?_, own_beside h.own2 hg h.apart.symm, (apart_append h.own2 h.apart.symm hat).symm⟩
  rw [List.length_append, hd, show codeCells (c1 ++ d) = codeCells c1 ++ codeCells d by simp [codeCells]]
  exact hrow

theorem ch_prog {u : World} {base ga gb gc : Nat} {v1 v2 : Value} {vs : List Int} {R : Int} {t : TypeId} {fr : Nat × Nat} (h : Two u base v1 v2 (chIn vs) (chOut vs)) (hv : vs.length ≤ 8) (ha : u.heap[ga]? = some (.cells #[.int .i64 R] t fr)) (hb : u.heap[gb]? = some (.cells (codeCells chB).toArray 24)) (hc : u.heap[gc]? = some (.cells #[.slice (some ⟨gb, 0, none⟩) 2 2, v1, v2] 25)) : ProgIn u u.heap.size (chD vs R) (some ⟨ga, 0, none⟩) (some ⟨gc, 0, none⟩) := by
  refine ⟨fun i x hx => ?_, threads_lit (vs := [.slice (some ⟨gb, 0, none⟩) 2 2, v1, v2]) hc fun k c hk => ?_, by show 1 ≤ _; omega, by show 3 ≤ _; omega⟩
  · rcases i with _ | i
    · cases hx; exact ⟨ga, 0, rfl, (Array.getElem?_eq_some_iff.1 ha).1, cell_of_row _ _ _ _ _ _ ha⟩
    · simp [chD] at hx
  · rcases k with _ | _ | _ | k
    · obtain rfl := Option.some.inj (show some chB = some c from hk)
      exact ⟨_, 2, rfl, code_lit hb⟩
    · obtain rfl := Option.some.inj (show some (chIn vs) = some c from hk)
      obtain ⟨a', cap', e, hin⟩ := code_in h.own1
      exact ⟨a', cap', by rw [← e]; rfl, hin⟩
    · obtain rfl := Option.some.inj (show some (chOut vs) = some c from hk)
      obtain ⟨a', cap', e, hin⟩ := code_in h.own2
      exact ⟨a', cap', by rw [← e]; rfl, hin⟩
    · simp [chD, chCode] at hk
theorem alloc4_ch {w : World} {o1 o2 o3 o4 : Obj} : ((((w.alloc o1).alloc o2).alloc o3).alloc o4).heap[w.heap.size]? = some o1 ∧ ((((w.alloc o1).alloc o2).alloc o3).alloc o4).heap[w.heap.size + 1]? = some o2 ∧ ((((w.alloc o1).alloc o2).alloc o3).alloc o4).heap[w.heap.size + 2]? = some o3 := by
  refine ⟨?_, ?_, ?_⟩
  · rw [Below.heap_alloc _ _ _ (by simp; omega), Below.heap_alloc _ _ _ (by simp; omega), Below.heap_alloc _ _ _ (by simp)]; exact heap_alloc_new _ _
  · rw [Below.heap_alloc _ _ _ (by simp), Below.heap_alloc _ _ _ (by simp)]
    exact heap_alloc2_new _ _ _
  · rw [Below.heap_alloc _ _ _ (by simp)]
    have := heap_alloc_new ((w.alloc o1).alloc o2) o3
    simpa using this

set_option maxRecDepth 100000 in
set_option maxHeartbeats 4000000 in
theorem stateChans_walk (a0 : Option Addr) (len0 cap0 : Nat) (l0 : List Int) (a1 : Int) (a2 : Option Addr) (len2 cap2 : Nat) (l2 : List Int) (w : World) (hp : SliceIn .u8 w a0 len0 cap0 l0) (w1 : (Lit.int .u8 a1).wf = true) (hv : SliceIn .i8 w a2 len2 cap2 l2) :
    Calls Try.prog 5 #[.slice a0 len0 cap0, .int .u8 a1, .slice a2 len2 cap2] w fun e w' => e = .returned (.bool true) ∧ Below w.heap.size w w' := by
  obtain ⟨q1, q2, q3, rfl⟩ := bytes_of hp
  obtain ⟨r0, r1⟩ := bounds_u8 w1
  obtain ⟨room, rfl⟩ := Int.eq_ofNat_of_zero_le r0
  have HP := Lib.hid q1
  have HPf := Lib.hid q2
  have HV := Lib.hid hv
  obtain rfl := hv.len_eq
  obtain ⟨i0, hi, hz0, hz1, hz2⟩ := info_parts info_insT
  clear hp q1 q2 w1 hv
  go_enter Try.func5, Try.ntmps5
  generalize hvs : l2.take 8 = vs
  have hvl : (vs.length : Int) = min (l2.length : Int) 8 := by rw [← hvs]; simp; omega
  have HVs := Lib.hid hvs
  have h8 : vs.length ≤ 8 := by omega
  clear hvs
  go_upto_region 1 with (fail)
  go_cut [7] (fun n w' => w = w' ∧ n = .int .i64 vs.length)
  case first =>
    by_cases hl : l2.length ≤ 8
    · have hl' : (l2.length : Int) ≤ 8 := by omega
      go_wp2
      all_goals go_meet
      all_goals exact ⟨rfl, by rw [hvl]; congr 1; omega⟩
    · have hl' : ¬ (l2.length : Int) ≤ 8 := by omega
      go_wp2
      all_goals go_meet
      all_goals exact ⟨rfl, by rw [hvl]; congr 1; omega⟩
  case rest =>
    obtain ⟨rfl, rfl⟩ := hcut
    clear hvl
    go_wp2_with fail
    go_loopw [8, 9, 10] (fun i1 o1 i u => ∃ k : Nat, k ≤ vs.length ∧ i = .int .i64 k ∧ Below w.heap.size w u ∧ Hid (Two u w.heap.size i1 o1 (chIn (vs.take k)) (chOut (vs.take k)))) (fun _ _ i _ => vs.length - (intOf i).toNat)
    case atStart => exact ⟨0, Nat.zero_le _, rfl, Below.refl _ _, Lib.hid ⟨World.ownsRow_nil _ _ _ _, World.ownsRow_nil _ _ _ _, .inl rfl⟩⟩
    case round =>
      obtain ⟨k, hk, rfl, hB, HT⟩ := hrel
      by_cases hlt : k < vs.length
      · obtain ⟨x, hx⟩ := at_lt hlt
        have hx2 : l2[k]? = some x := by
          have h := hx
          rw [← HVs.out, List.getElem?_take_of_lt (by omega)] at h; exact h
        have hk2 := (List.getElem?_eq_some_iff.1 hx2).1
        obtain ⟨x0, x1⟩ := bounds_i8 (HV.out.fit x (List.mem_of_getElem? hx2))
        obtain ⟨cb, off, rfl, hcb, hcell⟩ := HV.out.row k x hx2
        have hcell' := (hB.cell (p := ⟨cb, off + k, none⟩) hcb).trans hcell
        have hcl : (chIn (vs.take k)).length ≤ 16 := by rw [chIn_len, List.length_take]; omega
        have hol : (chOut (vs.take k)).length ≤ 16 := by rw [chOut_len, List.length_take]; omega
        obtain ⟨ia, ic, rfl⟩ := st_slice HT.out.own1
        obtain ⟨oa, oc, rfl⟩ := st_slice HT.out.own2
        have HX := Lib.hid hx
        have hs := hB.size
        clear hcell hx hx2
        generalize hc1 : chIn (vs.take k) = c1 at *
        generalize hc2 : chOut (vs.take k) = c2 at *
        have HC1 := Lib.hid hc1
        have HC2 := Lib.hid hc2
        clear hc1 hc2
        go_wp2_with (first
          | (at_builtin; refine wpList_append_own_at _ rfl _ _ 25 rfl w.heap.size 24 i0 (.agg #[.int .u8 0, .int .i64 0, .int .i64 0, .int .i64 0]) 4 32 Try.underlying25 hi hz0 hz1 hz2 rfl (by decide) (.slice oa c2.length oc) _ _ rfl (own_later HT3.out.own2 (below_box w3 _)) ⟨w3.heap.size, 0, none⟩ 2 2 (codeCells [⟨21, 0, 0, 0⟩, ⟨9, 0, 0, 0⟩]) rfl rfl (cells_two_new _ ⟨21, 0, 0, 0⟩ ⟨9, 0, 0, 0⟩ _) (code_one _) (by unfold maxLen; omega) (by omega) (by have := HB3.out.size; simp; omega) ?_; intro v2' w4 hown4 hgrow4 _ hat4; have HT4 := Lib.hid (Two.grow (HT3.out.symm.later (below_box w3 _)) hown4 rfl hgrow4 hat4); have HB4 := Lib.hid ((below_new HB3.out (.cells #[.int .u8 21, .int .i64 0, .int .i64 0, .int .i64 0, .int .u8 9, .int .i64 0, .int .i64 0, .int .i64 0] 24)).grown hgrow4 (by have := HB3.out.size; simp; omega) (fun g e => (own_lt HT3.out.own2 g e).2)); clear hown4 hgrow4 hat4)
          | (at_builtin; refine wpList_append_own_at _ rfl _ _ 25 rfl w.heap.size 24 i0 (.agg #[.int .u8 0, .int .i64 0, .int .i64 0, .int .i64 0]) 4 32 Try.underlying25 hi hz0 hz1 hz2 rfl (by decide) (.slice ia c1.length ic) _ _ rfl (own_later HT.out.own1 (below_box wr _)) ⟨wr.heap.size, 0, none⟩ 2 2 (codeCells [⟨1, 0, x, 0⟩, ⟨20, 0, 0, 0⟩]) rfl rfl (cells_two_new _ ⟨1, 0, x, 0⟩ ⟨20, 0, 0, 0⟩ _) (code_one _) (by unfold maxLen; omega) (by omega) (by simp; omega) ?_; intro v1' w3 hown3 hgrow3 _ hat3; have HT3 := Lib.hid (Two.grow (HT.out.later (below_box wr _)) hown3 rfl hgrow3 hat3); have HB3 := Lib.hid ((below_new hB (.cells #[.int .u8 1, .int .i64 0, .int .i64 x, .int .i64 0, .int .u8 20, .int .i64 0, .int .i64 0, .int .i64 0] 24)).grown hgrow3 (by simp; omega) (fun g e => (own_lt HT.out.own1 g e).2)); clear hown3 hgrow3 hat3))
        go_roundw
        case rel =>
          refine ⟨k + 1, by omega, by go_num, HB4.out, Lib.hid ?_⟩
          rw [List.take_add_one, HX.out]
          have e1 : chIn (vs.take k ++ (some x).toList) = chIn (vs.take k) ++ [⟨1, 0, x, 0⟩, ⟨20, 0, 0, 0⟩] := chIn_snoc _ _
          have e2 : chOut (vs.take k ++ (some x).toList) = chOut (vs.take k) ++ [⟨21, 0, 0, 0⟩, ⟨9, 0, 0, 0⟩] := chOut_snoc _ _
          rw [e1, e2, HC1.out, HC2.out]
          exact HT4.out.symm
        case measure => simp [intOf]; omega
      · obtain rfl : k = vs.length := by omega
        rw [List.take_length] at HT
        obtain ⟨ia, ic, rfl⟩ := st_slice HT.out.own1
        obtain ⟨oa, oc, rfl⟩ := st_slice HT.out.own2
        have hs := hB.size
        go_wp2_with fail
        generalize hU : World.alloc (World.alloc (World.alloc (World.alloc wr _) _) _) _ = U
        have hBU : Below wr.heap.size wr U := by rw [← hU]; exact ((((Below.refl _ _).alloc (Nat.le_refl _) _).alloc (by simp) _).alloc (by simp; omega) _).alloc (by simp; omega) _
        have hP : ProgIn U U.heap.size (chD vs (1 + (room : Int) % 3)) (some ⟨wr.heap.size, 0, none⟩) (some ⟨wr.heap.size + 1 + 1, 0, none⟩) := by
          have h2 := HT.out.later hBU
          rw [← hU] at h2 ⊢
          exact ch_prog h2 h8 alloc4_ch.1 alloc4_ch.2.1 alloc4_ch.2.2
        have hSd := ch_sound (v := vs) (R := 1 + (room : Int) % 3) h8 (by omega) (by omega)
        refine (new_yes (chD vs (1 + (room : Int) % 3)) (some ⟨wr.heap.size, 0, none⟩) 1 (some ⟨wr.heap.size + 1 + 1, 0, none⟩) 3 U hP hSd).mono ?_
        rintro e w2 ⟨b, rfl, hB2, hb, S⟩
        have HB2 := Lib.hid (show Below w.heap.size w w2 from (hB.trans (hBU.mono hs)).trans (hB2.mono (Nat.le_trans hs hBU.size)))
        have HS := Lib.hid S
        have hwb : w.heap.size ≤ b := Nat.le_trans (Nat.le_trans hs hBU.size) hb
        have HInv := Lib.hid (inv_new hSd)
        clear hU hBU hP hB2 S hb hSd
        go_wp2_with (first
          | (go_at_call 11; refine (picks_any l0 a0 cap0 w3 (fun i y hy => by obtain ⟨c, off, e1, e2, e3⟩ := HP.out i y hy; exact ⟨c, off, e1, Nat.lt_of_lt_of_le e2 HB3.out.size, (HB3.out.cell (p := ⟨c, off + i, none⟩) e2).trans e3⟩) HPf.out q3).mono ?_; rintro e w4 ⟨pv, rfl, hown, hB4⟩; have HR0 := Lib.hid (Rn.start (HS3.out.later hB4) HInv.out (by omega)); have HB4 := Lib.hid (below_next HB3.out hB4); obtain ⟨pa, pc, rfl, hcells⟩ := own_cells hown; have HC := Lib.hid hcells; have hb4 : b < w3.heap.size := HS3.out.lt; clear hown hB4 hcells)
          | (go_at_call 10; refine (known4_any w2).mono ?_; rintro e w3 ⟨rfl, hB3⟩; have HS3 := Lib.hid (HS.out.later hB3); have HB3 := Lib.hid (below_next HB2.out hB3); clear hB3))
        have h60 := picksL_len l0
        generalize hps : picksL l0 = ps at *
        generalize hRR : 1 + (room : Int) % 3 = RR at *
        have hR1 : 1 ≤ RR := by omega
        have hR3 : RR ≤ 3 := by omega
        have HRR := Lib.hid hRR
        clear hps HS HS3 HT hRR
        go_loopw [14] (fun i u => ∃ k : Nat, k ≤ ps.length ∧ i = .int .i64 k ∧ Hid (Rn w4 u b (b + 1) (runM (chCode vs) (ps.take k) (newM [RR])) (chCode vs) (runT (chCode vs) (ps.take k) (newM [RR]))) ∧ Hid (∃ q1 q2, ChI vs RR (runM (chCode vs) (ps.take k) (newM [RR])) (runT (chCode vs) (ps.take k) (newM [RR])) q1 q2)) (fun i _ => ps.length - (intOf i).toNat)
        case atStart => exact ⟨0, Nat.zero_le _, rfl, HR0, Lib.hid ⟨0, 0, ch_start hR1⟩⟩
        case round =>
          obtain ⟨k, hk2, rfl, HR, HRe⟩ := hrel
          have htl := runT_len (chCode vs) (ps.take k) (newM [RR])
          rw [List.length_take] at htl
          by_cases hlk : k < ps.length
          · obtain ⟨y, hy⟩ := at_lt hlk
            obtain ⟨g, rfl, hg1, hg2, hcell⟩ := HC.out k y hy
            have hcell' := (World.cell?_of_block (a := ⟨g, k, none⟩) (HR.out.kept hg2 (by show g ≠ b; omega))).trans hcell
            have HY := Lib.hid hy
            have HRe' : ∃ q1 q2, ChI vs RR (runM (chCode vs) (ps.take (k + 1)) (newM [RR])) (runT (chCode vs) (ps.take (k + 1)) (newM [RR])) q1 q2 := by
              obtain ⟨q1, q2, h⟩ := HRe.out
              rw [runM_take hy, runT_take hy]
              exact ch_step h hR3 y
            have HRe2 := Lib.hid HRe'
            obtain ⟨q1, q2, hI⟩ := HRe'
            have HP1 := Lib.hid (show pcM (chCode vs) (runM (chCode vs) (ps.take (k + 1)) (newM [RR])) 1 = q1 from hI.h1)
            have HP2 := Lib.hid (show pcM (chCode vs) (runM (chCode vs) (ps.take (k + 1)) (newM [RR])) 2 = q2 from hI.h2)
            have z1 := hI.l1
            have z2 := hI.l2
            have z3 : ¬ (q1 : Int) / 2 < ((q2 : Int) + 1) / 2 := by have := hI.le; omega
            have z4 : ¬ 1 + (room : Int) % 3 < (q1 : Int) / 2 - ((q2 : Int) + 1) / 2 := by
              have e1 := hI.many
              have e2 := hI.room
              have e3 := hI.le
              have e4 := HRR.out
              omega
            clear hcell hy hI
            go_wp2_with (first
              | (go_at_call 13; refine (HR5.out.pc _).mono ?_; rintro e w6 ⟨rfl, rfl⟩; first | rw [HP1.out] | rw [HP2.out])
              | (go_at_call 12; refine (HR.out.step (by omega) y).mono ?_; rintro e w5 ⟨rfl, hR5, _⟩; rw [← runM_take HY.out, ← runT_take HY.out] at hR5; have HR5 := Lib.hid hR5; clear hR5))
            go_roundw
            case rel => exact ⟨k + 1, by omega, by go_num, HR5, HRe2⟩
            case measure => simp [intOf]; omega
          · obtain rfl : k = ps.length := by omega
            generalize runM (chCode vs) (ps.take ps.length) (newM [RR]) = mm at *
            generalize runT (chCode vs) (ps.take ps.length) (newM [RR]) = tt at *
            obtain ⟨q1, q2, hI⟩ := HRe.out
            have HTold := Lib.hid hI.told
            have htv : tt.length ≤ vs.length := by rw [hI.told, List.length_take]; omega
            have HBr := Lib.hid (HR.out.below HB4.out hwb)
            clear hI
            go_wp2_with (first
              | (go_at_call 15; refine (HR.out.prints (by omega)).mono ?_; rintro e w5 ⟨v5, rfl, hown5, hB5⟩; obtain ⟨va, vc, rfl, hcl5⟩ := own_cells hown5; have HL := Lib.hid hcl5; have HB5 := Lib.hid (below_next HBr.out hB5); clear hB5 hown5 hcl5))
            go_loopw [18] (fun i u => ∃ j : Nat, j ≤ tt.length ∧ i = .int .i64 j ∧ Below w5.heap.size w5 u) (fun i _ => tt.length - (intOf i).toNat)
            case atStart => exact ⟨0, Nat.zero_le _, rfl, Below.refl _ _⟩
            case round =>
              obtain ⟨j, hj, rfl, hBj⟩ := hrel
              by_cases hlj : j < tt.length
              · obtain ⟨x, hx⟩ := at_lt hlj
                have hxl : l2[j]? = some x := by
                  have h := hx
                  rw [HTold.out] at h
                  have hjq : j < q2 / 2 := by
                    have := hlj
                    rw [HTold.out, List.length_take] at this; omega
                  rw [List.getElem?_take_of_lt hjq, ← HVs.out, List.getElem?_take_of_lt (by omega)] at h
                  exact h
                have hjl := (List.getElem?_eq_some_iff.1 hxl).1
                obtain ⟨x0, x1⟩ := bounds_i8 (HV.out.fit x (List.mem_of_getElem? hxl))
                obtain ⟨cb, off, rfl, hcb, hcell⟩ := HV.out.row j x hxl
                obtain ⟨lg, rfl, _, hlg, hlc⟩ := HL.out j x hx
                have c1 := ((HB5.out.trans (hBj.mono HB5.out.size)).cell (p := ⟨cb, off + j, none⟩) hcb).trans hcell
                have c2 := (hBj.cell (p := ⟨lg, j, none⟩) hlg).trans hlc
                have hjn : decide ((vs.length : Int) ≤ j) = false := by simp; omega
                have hjn2 : ¬ vs.length ≤ j := by omega
                have hjv : j < vs.length := by omega
                clear hx hxl hcell hlc
                go_wp2_with fail
                go_big_region
                go_wp2
                go_roundw
                case rel => exact ⟨j + 1, by omega, by go_num, hBj.drew⟩
                case measure => simp [intOf]; omega
              · obtain rfl : j = tt.length := by omega
                go_wp2
                go_ret
                exact ⟨rfl, below_next HB5.out hBj⟩

set_option maxRecDepth 100000 in
theorem stateChans_lifted (os : Os) (started : os.Started) (H : Type) (enc : TypeId × Value → H) :
    ReturnsInHanded {} Try.checked os 5 .any (Rows.stateChansSpec.pre6 enc Try.prog Try.f5 Rows.stateChansRow.domain false) (Rows.stateChansSpec.post enc Try.prog Try.f5 false true false false) := by
  refine returnsInHanded_of_change (C := Try.checked) law_own started (by kernel_rfl) Try.func5
    (ChangeSpec.witness6 (enc := enc) (C := Try.checked) false ⟨#[], #[.slice none 0 0, .int .u8 0, .slice none 0 0], []⟩ 8 (by kernel_rfl) (by kernel_rfl) (by kernel_rfl) (by kernel_rfl)) ?_
  intro W base args ds gs before hval0 hW hcnd _
  have hval : ∀ (j : Nat) t v, Try.f5.params[j]? = some t → args[j]? = some v → Value.okWide Try.prog W .any base t v := hval0
  have hW' := hW
  obtain ⟨p, q, hA0, hV, rfl, hfz, hnd⟩ := hW
  have hA : DataW.TrodAll enc Try.prog W 0 (fun _ => true) true Try.f5.params.toList args.toList ds p := hA0
  rw [Try.params5] at hA hval
  obtain ⟨v0, vs0, d0, ds0, p0, q0, hargs, rfl, rfl, h0, r0⟩ := trodAll_cons hA
  obtain ⟨v1, vs1, d1, ds1, p1, q1, rfl, rfl, rfl, h1, r1⟩ := trodAll_cons r0
  obtain ⟨v2, vs2, d2, ds2, p2, q2, rfl, rfl, rfl, h2, r2⟩ := trodAll_cons r1
  obtain ⟨rfl, rfl, rfl⟩ := trodAll_nil r2
  obtain rfl : args = #[v0, v1, v2] := by cases args; simp_all
  obtain ⟨rfl, rfl⟩ := trodVars_none hV
  obtain ⟨a0, len0, cap0, rfl⟩ := okWide_slice Try.underlying22 (hval 0 22 v0 rfl rfl)
  have k0 := h0
  have lt0 : ∀ x ∈ p0, x.block < W.heap.size := by obtain ⟨m, hm⟩ := k0; exact DataW.trod_lt m _ _ _ hm
  obtain ⟨l0, w0⟩ : ∃ l, SliceIn .u8 W a0 len0 cap0 l := by
    obtain ⟨fuel, hf⟩ := h0
    rcases open_ints Try.underlying22 Try.underlying5 (by kernel_rfl) hf with ⟨hcs, _⟩ | ⟨x, l, c, zs, hcs, _, hl, hm, hz, _, hcell, hwz⟩
    · simp [Value.cells] at hcs
      obtain ⟨rfl, rfl, rfl⟩ := hcs
      exact ⟨[], SliceIn.nil _ _⟩
    · simp [Value.cells] at hcs
      obtain ⟨rfl, rfl, rfl⟩ := hcs
      exact ⟨_, SliceIn.of hl hm (by simpa using hz) hcell hwz⟩
  obtain ⟨a1, rfl, rfl, rfl, w1⟩ := open_int Try.underlying5 (hval 1 5 v1 rfl rfl) h1
  obtain ⟨a2, len2, cap2, rfl⟩ := okWide_slice Try.underlying43 (hval 2 43 v2 rfl rfl)
  have k2 := h2
  have lt2 : ∀ x ∈ p2, x.block < W.heap.size := by obtain ⟨m, hm⟩ := k2; exact DataW.trod_lt m _ _ _ hm
  obtain ⟨l2, w2⟩ : ∃ l, SliceIn .i8 W a2 len2 cap2 l := by
    obtain ⟨fuel, hf⟩ := h2
    rcases open_ints Try.underlying43 Try.underlying44 (by kernel_rfl) hf with ⟨hcs, _⟩ | ⟨x, l, c, zs, hcs, _, hl, hm, hz, _, hcell, hwz⟩
    · simp [Value.cells] at hcs
      obtain ⟨rfl, rfl, rfl⟩ := hcs
      exact ⟨[], SliceIn.nil _ _⟩
    · simp [Value.cells] at hcs
      obtain ⟨rfl, rfl, rfl⟩ := hcs
      exact ⟨_, SliceIn.of hl hm (by simpa using hz) hcell hwz⟩
  clear hA0 hval0
  refine (stateChans_walk a0 len0 cap0 l0 a1 a2 len2 cap2 l2 W w0 w1 w2).mono fun e W' ⟨he, bel⟩ => ?_
  subst he
  exact ⟨_, rfl, _, _, _, [], _, [], hW', trodAll_mk1 (shut_bool Try.underlying4 _), (trodAll_cons_mk (Below.trod law_laidOut (by kernel_rfl) (of_decide_eq_true (by kernel_rfl)) k0 bel lt0) (trodAll_cons_mk (shut_int Try.underlying5 w1) (trodAll_cons_mk (Below.trod law_laidOut (by kernel_rfl) (of_decide_eq_true (by kernel_rfl)) k2 bel lt2) trodAll_mk0))), rfl, bel.frame _, fun h => by cases h⟩

/-- The statement. -/
theorem stateChans_holds : Rows.StateChansSaid :=
  OpenClaim.holds_of_wide 5 Try.f5 rfl rfl rfl rfl rfl rfl rfl ⟨rfl, rfl, rfl, rfl, rfl⟩ rfl rfl rfl rfl rfl (by kernel_rfl) Try.func5 (by kernel_rfl)
    (of_decide_eq_true (by kernel_rfl)) (by unfold Func.isWrapper; first | (rw [if_pos (by decide +kernel)]; kernel_rfl) | (rw [if_neg (by decide +kernel)]; exact ⟨rfl, rfl⟩))
    (fun os started H enc _ => stateChans_lifted os started H enc)

end Go.Proofs.Ytjlbbfkllckkgaa
