/- What race's tells answers: the thing that an event's knowledge goes to. -/
import Derived.Test.YtgikoajclkfoiaaRaceKn2
import Derived.Laws.Rows
import Derived.OwnWalk
namespace Go.Proofs.Ytgikoajclkfoiaa
set_option linter.unusedVariables false
set_option linter.unusedSimpArgs false
set_option maxRecDepth 100000
open Go.ChangeShapes Go.WideShapes Go.ChangeAt Go.RowKit Go.Maps

def TellsE (w : World) (o : Option Ky) (r : Ending) (w' : World) : Prop := r = .returned (.tuple #[kyV (o.getD (0, 0, 0)), .bool o.isSome]) ∧ Below w.heap.size w w'
theorem info_kn : (Try.prog.info? 75).map (·.size) = some 3 := by kernel_rfl
theorem results_kn {P : Program} {fn : Func} {p u : Tmp} {ty : TypeId} (h : fn.results = #[.cell p ty, .tmp u]) (tmps : Array Value) (w : World) (g : Nat) (t : TypeId) (cs : Array Value) (fr : Nat × Nat) (d : TypeDesc)
    (hp : tmps.getD p undef = .pointer (some ⟨g, 0, none⟩)) (hg : w.heap[g]? = some (.cells cs t fr)) (hu : P.underlying ty = some d) (hd : (match d with | .struct _ | .array _ _ => true | _ => false) = true) (hi : (P.info? ty).map (·.size) = some cs.size) :
    (results fn tmps).run P w = .ok (.tuple #[.agg cs, tmps.getD u undef]) w := by
  have a1 : tmps[p]?.getD undef = .pointer (some ⟨g, 0, none⟩) := by simpa using hp
  simp [results, h, a1, asAddr, run_loadVar_row w g t ty cs fr d hg hu hd hi, Result.andThen]
theorem tells_ret {w V : World} {tmps : Array Value} {o : Option Ky} {g : Nat} {fr : Nat × Nat} (x : Ky) (b : Bool) (hx : o.getD (0, 0, 0) = x) (hb : o.isSome = b) (hp : tmps.getD 4 undef = .pointer (some ⟨g, 0, none⟩)) (hu : tmps.getD 5 undef = .bool b) (hg : V.heap[g]? = some (.cells #[.int .u8 x.1, .int .i64 x.2.1, .int .i64 x.2.2] 75 fr)) (hB : Below w.heap.size w V) :
    bodyPost Try.prog Try.f40 (TellsE w o) .ret ⟨tmps, []⟩ V := by
  refine bodyPost_ret (v := .tuple #[kyV x, .bool b]) ?_ rfl ⟨by rw [hx, hb], hB⟩
  rw [results_kn (p := 4) (u := 5) rfl tmps V g 75 #[.int .u8 x.1, .int .i64 x.2.1, .int .i64 x.2.2] fr _ hp hg Try.underlying75 rfl info_kn, hu]
  rfl
set_option maxHeartbeats 900000 in
theorem tells_any {base gk gc gs gt : Nat} {ca : Option Addr} {cc : Nat} {chans : List Int} {n : Nat} {k : KnS} {w : World} (h : KnIn base gk gc gs gt ca cc chans n k w) (e : EvD) (hW : Wf e.obj) :
    Calls Try.prog 40 #[.pointer (some ⟨gk, 0, none⟩), e.v] w (TellsE w (tellsL k.S k.T e)) := by
  have HK := Lib.hid h
  have HT := Lib.hid (fun W => taking8_any e W)
  clear h
  obtain ⟨th, pc, op, obj, val, mode⟩ := e
  show Calls Try.prog 40 #[.pointer (some ⟨gk, 0, none⟩), evV th pc op obj val mode] w _
  by_cases h12 : op = 12
  · subst h12
    have HF := Lib.hid (show tellsL k.S k.T ⟨th, pc, 12, obj, val, mode⟩ = some (0, obj, 0) by unfold tellsL; rw [if_pos rfl])
    rw [HF.out]
    go_enter Try.func40, Try.ntmps40
    go_wp2
    exact tells_ret (0, obj, 0) true rfl rfl rfl rfl (heap_alloc2_new _ _ _) (below_two _ _ _)
  have h12' : (op == 12) = false := by simpa using h12
  by_cases h14 : op = 14
  · subst h14
    have HF := Lib.hid (show tellsL k.S k.T ⟨th, pc, 14, obj, val, mode⟩ = some (1, obj, 0) by unfold tellsL; rw [if_neg (by simp), if_pos rfl])
    rw [HF.out]
    go_enter Try.func40, Try.ntmps40
    go_wp2
    exact tells_ret (1, obj, 0) true rfl rfl rfl rfl (heap_alloc2_new _ _ _) (below_two _ _ _)
  have h14' : (op == 14) = false := by simpa using h14
  by_cases h16 : op = 16
  · subst h16
    have HF := Lib.hid (show tellsL k.S k.T ⟨th, pc, 16, obj, val, mode⟩ = some (2, obj, 0) by unfold tellsL; rw [if_neg (by simp), if_neg (by simp), if_pos rfl])
    rw [HF.out]
    go_enter Try.func40, Try.ntmps40
    go_wp2
    exact tells_ret (2, obj, 0) true rfl rfl rfl rfl (heap_alloc2_new _ _ _) (below_two _ _ _)
  have h16' : (op == 16) = false := by simpa using h16
  by_cases h18 : op = 18
  · subst h18
    have HF := Lib.hid (show tellsL k.S k.T ⟨th, pc, 18, obj, val, mode⟩ = some (3, obj, 0) by unfold tellsL; rw [if_neg (by simp), if_neg (by simp), if_neg (by simp), if_pos rfl])
    rw [HF.out]
    go_enter Try.func40, Try.ntmps40
    go_wp2
    exact tells_ret (3, obj, 0) true rfl rfl rfl rfl (heap_alloc2_new _ _ _) (below_two _ _ _)
  have h18' : (op == 18) = false := by simpa using h18
  by_cases h19 : op = 19
  · subst h19
    have HF := Lib.hid (show tellsL k.S k.T ⟨th, pc, 19, obj, val, mode⟩ = some (3, obj, 0) by unfold tellsL; rw [if_neg (by simp), if_neg (by simp), if_neg (by simp), if_neg (by simp), if_pos rfl])
    rw [HF.out]
    go_enter Try.func40, Try.ntmps40
    go_wp2
    exact tells_ret (3, obj, 0) true rfl rfl rfl rfl (heap_alloc2_new _ _ _) (below_two _ _ _)
  have h19' : (op == 19) = false := by simpa using h19
  generalize hL : tellsL k.S k.T ⟨th, pc, op, obj, val, mode⟩ = L
  have HLq := Lib.hid hL
  clear hL
  go_enter Try.func40, Try.ntmps40
  go_upto_region 11 with (fail)
  generalize hV : World.alloc (World.alloc w _) _ = V
  have HB := Lib.hid (show Below w.heap.size w V by rw [← hV]; exact below_two _ _ _)
  have HN : Hid (V.heap[w.heap.size]? = some (.cells #[.int .i64 th, .int .i64 pc, .int .u8 op, .int .i64 obj, .int .i64 val, .int .i64 mode] 26)) := Lib.hid (by rw [← hV]; exact old_alloc (heap_alloc_new _ _) _)
  have HR : Hid (V.heap[w.heap.size + 1]? = some (.cells #[.int .u8 0, .int .i64 0, .int .i64 0] 75)) := Lib.hid (by rw [← hV]; exact heap_alloc2_new _ _ _)
  clear hV
  obtain ⟨a0, a1, a2, a3, a4, a5⟩ := box6R HN.out
  by_cases h20 : op = 20
  · subst h20
    have HF := Lib.hid (show tellsL k.S k.T ⟨th, pc, 20, obj, val, mode⟩ = some (4, obj, ((k.S obj : Nat) : Int)) by unfold tellsL; rw [if_neg (by simp), if_neg (by simp), if_neg (by simp), if_neg (by simp), if_neg (by simp), if_pos rfl])
    obtain rfl := HLq.out.symm.trans HF.out
    have HK1 := Lib.hid (HK.out.later HB.out)
    obtain ⟨k0, k1, k2, k3⟩ := box4R HK1.out.box
    have hl := HK1.out.se.look hW
    go_wp2_with (refine wpList_store_row rfl 75 (.tmp 4) (.tmp 47) rfl (w.heap.size + 1) #[.int .u8 4, .int .i64 obj, .int .i64 (k.S obj : Nat)] rfl rfl 75 _ HR.out info_kn rfl (by simp [Value.oneCell']) ?_)
    exact tells_ret (4, obj, ((k.S obj : Nat) : Int)) true rfl rfl rfl rfl (setRow_heap _ _ _ _ _ _ HR.out) (below_row HB.out (by omega) _)
  have h20' : (op == 20) = false := by simpa using h20
  rcases ht : tkB ⟨th, pc, op, obj, val, mode⟩ with _ | _
  · simp only [ht] at HT
    by_cases h23 : op = 23
    · subst h23
      have HF := Lib.hid (show tellsL k.S k.T ⟨th, pc, 23, obj, val, mode⟩ = some (6, obj, 0) by unfold tellsL; rw [if_neg (by simp), if_neg (by simp), if_neg (by simp), if_neg (by simp), if_neg (by simp), if_neg (by simp), if_neg (by rw [ht]; simp), if_pos rfl])
      obtain rfl := HLq.out.symm.trans HF.out
      clear ht
      go_wp2_with (first | (have _g := HR1; refine wpList_store_row rfl 75 (.tmp 4) (.tmp 64) rfl (w.heap.size + 1) #[.int .u8 6, .int .i64 obj, .int .i64 0] rfl rfl 75 _ HR1.out info_kn rfl (by simp [Value.oneCell']) ?_) | (go_at_call 46; refine (HT.out _).mono ?_; rintro e w1 ⟨rfl, hB1⟩; have HB1 := Lib.hid (below_next HB.out hB1); have HR1 := Lib.hid (old_later HR.out hB1); obtain ⟨a0, a1, a2, a3, a4, a5⟩ := box6R (old_later HN.out hB1)))
      exact tells_ret (6, obj, 0) true rfl rfl rfl rfl (setRow_heap _ _ _ _ _ _ HR1.out) (below_row HB1.out (by omega) _)
    have h23' : (op == 23) = false := by simpa using h23
    by_cases h24 : op = 24
    · subst h24
      by_cases hv : val < 0
      · have hv' : decide (val < 0) = true := decide_eq_true hv
        have HF := Lib.hid (show tellsL k.S k.T ⟨th, pc, 24, obj, val, mode⟩ = some (7, obj, 0) by unfold tellsL; rw [if_neg (by simp), if_neg (by simp), if_neg (by simp), if_neg (by simp), if_neg (by simp), if_neg (by simp), if_neg (by rw [ht]; simp), if_neg (by simp), if_pos ⟨rfl, hv⟩])
        obtain rfl := HLq.out.symm.trans HF.out
        clear ht
        go_wp2_with (first | (have _g := HR1; refine wpList_store_row rfl 75 (.tmp 4) (.tmp 75) rfl (w.heap.size + 1) #[.int .u8 7, .int .i64 obj, .int .i64 0] rfl rfl 75 _ HR1.out info_kn rfl (by simp [Value.oneCell']) ?_) | (go_at_call 46; refine (HT.out _).mono ?_; rintro e w1 ⟨rfl, hB1⟩; have HB1 := Lib.hid (below_next HB.out hB1); have HR1 := Lib.hid (old_later HR.out hB1); obtain ⟨a0, a1, a2, a3, a4, a5⟩ := box6R (old_later HN.out hB1)))
        exact tells_ret (7, obj, 0) true rfl rfl rfl rfl (setRow_heap _ _ _ _ _ _ HR1.out) (below_row HB1.out (by omega) _)
      · have hv' : decide (val < 0) = false := decide_eq_false hv
        have HF := Lib.hid (show tellsL k.S k.T ⟨th, pc, 24, obj, val, mode⟩ = none by unfold tellsL; rw [if_neg (by simp), if_neg (by simp), if_neg (by simp), if_neg (by simp), if_neg (by simp), if_neg (by simp), if_neg (by rw [ht]; simp), if_neg (by simp), if_neg (fun h => hv h.2), if_neg (by simp)])
        obtain rfl := HLq.out.symm.trans HF.out
        clear ht
        go_wp2_with (first | (have _g := HR1; refine wpList_store_row rfl 75 (.tmp 4) (.tmp 82) rfl (w.heap.size + 1) #[.int .u8 0, .int .i64 0, .int .i64 0] rfl rfl 75 _ HR1.out info_kn rfl (by simp [Value.oneCell']) ?_) | (go_at_call 46; refine (HT.out _).mono ?_; rintro e w1 ⟨rfl, hB1⟩; have HB1 := Lib.hid (below_next HB.out hB1); have HR1 := Lib.hid (old_later HR.out hB1); obtain ⟨a0, a1, a2, a3, a4, a5⟩ := box6R (old_later HN.out hB1)))
        exact tells_ret (0, 0, 0) false rfl rfl rfl rfl (setRow_heap _ _ _ _ _ _ HR1.out) (below_row HB1.out (by omega) _)
    have h24' : (op == 24) = false := by simpa using h24
    by_cases h27 : op = 27
    · subst h27
      have HF := Lib.hid (show tellsL k.S k.T ⟨th, pc, 27, obj, val, mode⟩ = some (8, obj, 0) by unfold tellsL; rw [if_neg (by simp), if_neg (by simp), if_neg (by simp), if_neg (by simp), if_neg (by simp), if_neg (by simp), if_neg (by rw [ht]; simp), if_neg (by simp), if_neg (fun h => by simp at h), if_pos rfl])
      obtain rfl := HLq.out.symm.trans HF.out
      clear ht
      go_wp2_with (first | (have _g := HR1; refine wpList_store_row rfl 75 (.tmp 4) (.tmp 81) rfl (w.heap.size + 1) #[.int .u8 8, .int .i64 obj, .int .i64 0] rfl rfl 75 _ HR1.out info_kn rfl (by simp [Value.oneCell']) ?_) | (go_at_call 46; refine (HT.out _).mono ?_; rintro e w1 ⟨rfl, hB1⟩; have HB1 := Lib.hid (below_next HB.out hB1); have HR1 := Lib.hid (old_later HR.out hB1); obtain ⟨a0, a1, a2, a3, a4, a5⟩ := box6R (old_later HN.out hB1)))
      exact tells_ret (8, obj, 0) true rfl rfl rfl rfl (setRow_heap _ _ _ _ _ _ HR1.out) (below_row HB1.out (by omega) _)
    have h27' : (op == 27) = false := by simpa using h27
    have HF := Lib.hid (show tellsL k.S k.T ⟨th, pc, op, obj, val, mode⟩ = none by unfold tellsL; rw [if_neg h12, if_neg h14, if_neg h16, if_neg h18, if_neg h19, if_neg h20, if_neg (by rw [ht]; simp), if_neg h23, if_neg (fun h => h24 h.1), if_neg h27])
    obtain rfl := HLq.out.symm.trans HF.out
    clear ht
    go_wp2_with (first | (have _g := HR1; refine wpList_store_row rfl 75 (.tmp 4) (.tmp 82) rfl (w.heap.size + 1) #[.int .u8 0, .int .i64 0, .int .i64 0] rfl rfl 75 _ HR1.out info_kn rfl (by simp [Value.oneCell']) ?_) | (go_at_call 46; refine (HT.out _).mono ?_; rintro e w1 ⟨rfl, hB1⟩; have HB1 := Lib.hid (below_next HB.out hB1); have HR1 := Lib.hid (old_later HR.out hB1); obtain ⟨a0, a1, a2, a3, a4, a5⟩ := box6R (old_later HN.out hB1)))
    exact tells_ret (0, 0, 0) false rfl rfl rfl rfl (setRow_heap _ _ _ _ _ _ HR1.out) (below_row HB1.out (by omega) _)
  · simp only [ht] at HT
    have HF := Lib.hid (show tellsL k.S k.T ⟨th, pc, op, obj, val, mode⟩ = some (5, obj, ((k.T obj : Nat) : Int)) by unfold tellsL; rw [if_neg h12, if_neg h14, if_neg h16, if_neg h18, if_neg h19, if_neg h20, if_pos ht])
    obtain rfl := HLq.out.symm.trans HF.out
    clear ht
    go_upto_region 14 with (go_at_call 46; refine (HT.out _).mono ?_; rintro e w1 ⟨rfl, hB1⟩; have HB1 := Lib.hid (below_next HB.out hB1); have HR1 := Lib.hid (old_later HR.out hB1); obtain ⟨a0, a1, a2, a3, a4, a5⟩ := box6R (old_later HN.out hB1))
    have HK1 := Lib.hid (HK.out.later HB1.out)
    obtain ⟨k0, k1, k2, k3⟩ := box4R HK1.out.box
    have hl := HK1.out.ta.look hW
    go_wp2_with (refine wpList_store_row rfl 75 (.tmp 4) (.tmp 58) rfl (w.heap.size + 1) #[.int .u8 5, .int .i64 obj, .int .i64 (k.T obj : Nat)] rfl rfl 75 _ HR1.out info_kn rfl (by simp [Value.oneCell']) ?_)
    exact tells_ret (5, obj, ((k.T obj : Nat) : Int)) true rfl rfl rfl rfl (setRow_heap _ _ _ _ _ _ HR1.out) (below_row HB1.out (by omega) _)
end Go.Proofs.Ytgikoajclkfoiaa
