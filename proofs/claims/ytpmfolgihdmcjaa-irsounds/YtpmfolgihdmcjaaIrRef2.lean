/- The document's own numbers, Names, Find, Name, Uses, Sets of layer 2, in the table's words, for every input. -/
import Derived.Test.YtpmfolgihdmcjaaIrRef1
import Derived.Great.BuildSlice
namespace Go.Proofs.Ytpmfolgihdmcjaa
set_option linter.unusedVariables false
set_option linter.unusedSimpArgs false
open Go.RowKit

set_option maxHeartbeats 1000000 in
theorem refNumbers_any (op a b c : Int) (w : World) :
    Calls Try.prog 50 #[.agg #[.int .u8 op, .int .i64 a, .int .i64 b, .int .i64 c]] w fun e w' => e = .returned (.slice (some ⟨w.heap.size + 1, 0, none⟩) 3 3) ∧ w'.heap[w.heap.size + 1]? = some (.cells #[.int .i64 a, .int .i64 b, .int .i64 c] 3) ∧ Below w.heap.size w w' := by
  go_enter Try.func50, Try.ntmps50
  go_wp2
  go_ret
  exact ⟨rfl, heap_alloc2_new _ _ _, ((Below.refl _ _).alloc (Nat.le_refl _) _).alloc (by simp) _⟩

theorem lt_of_blk {w : World} {b : Nat} {o : Obj} (h : w.heap[b]? = some o) : b < w.heap.size := (Array.getElem?_eq_some_iff.1 h).1

/-- The names, as they lie. -/
def nameArr : Array Value := (tab.map fun r => Value.string r.name).toArray
theorem nameArr_at (k : Nat) (h : k < 28) : nameArr[k]? = some (.string (rowAt k).name) := by
  have e : (List.range 28).map (fun k => nameArr[k]?) = (List.range 28).map (fun k => some (Value.string (rowAt k).name)) := by kernel_rfl
  have := congrArg (fun l => l[k]?) e
  simpa [h] using this

set_option maxHeartbeats 4000000 in
theorem names_any (w : World) :
    Calls Try.prog 40 #[] w fun e w' => e = .returned (.slice (some ⟨w.heap.size, 0, none⟩) 28 28) ∧ w' = w.alloc (.cells nameArr 9) := by
  go_enter Try.func40, Try.ntmps40
  go_wp2
  go_ret
  exact ⟨rfl, rfl⟩

theorem lastOf_none {s : List UInt8} : ∀ {n : Nat}, (∀ j, j < n → (rowAt j).name.data.toList ≠ s) → lastOf s n = none
  | 0, _ => rfl
  | n + 1, h => by
    unfold lastOf; rw [if_neg (h n (by omega))]; exact lastOf_none fun j hj => h j (by omega)
theorem lastOf_some {s : List UInt8} {k : Nat} (hk : (rowAt k).name.data.toList = s) : ∀ {n : Nat}, k < n → (∀ j, k < j → j < n → (rowAt j).name.data.toList ≠ s) → lastOf s n = some k
  | 0, h, _ => by omega
  | n + 1, h, hj => by
    unfold lastOf
    by_cases e : n = k
    · subst e; rw [if_pos hk]
    · rw [if_neg (hj n (by omega) (by omega))]; exact lastOf_some hk (by omega) fun j h1 h2 => hj j h1 (by omega)
theorem nameL_diff : (List.range 28).all (fun i => (List.range 28).all fun k => decide (i = k) || !decide ((rowAt i).name.data.toList = (rowAt k).name.data.toList)) = true := by decide
theorem nameL_inj (i k : Nat) (hi : i < 28) (hk : k < 28) (h : (rowAt i).name.data.toList = (rowAt k).name.data.toList) : i = k := by
  have := List.all_eq_true.1 (List.all_eq_true.1 nameL_diff i (by simpa using hi)) k (by simpa using hk)
  simpa [h] using this
theorem found_at {s : ByteArray} {k : Nat} (hk : k < 28) (h : (rowAt k).name.data.toList = s.data.toList) : foundN s = k ∧ foundB s = true := by
  have : lastOf s.data.toList 28 = some k := lastOf_some h hk fun j h1 h2 h3 => by
    have := nameL_inj j k h2 hk (h3.trans h.symm); omega
  simp [foundN, foundB, this]
theorem found_no {s : ByteArray} (h : ∀ j, j < 28 → (rowAt j).name.data.toList ≠ s.data.toList) : foundN s = 0 ∧ foundB s = false := by
  simp [foundN, foundB, lastOf_none h]

set_option maxHeartbeats 2000000 in
theorem refFind_any (s : ByteArray) (w : World) :
    Calls Try.prog 28 #[.string s] w fun e w' => e = .returned (.tuple #[.int .u8 (foundN s : Nat), .bool (foundB s)]) ∧ Below w.heap.size w w' := by
  go_enter Try.func28, Try.ntmps28
  go_wp2_with (go_at_call 40; refine (names_any _).mono ?_; rintro e w1 ⟨rfl, rfl⟩)
  generalize hW : w.alloc _ = W
  have hB : Below w.heap.size w W := by rw [← hW]; exact (Below.refl _ _).alloc (Nat.le_refl _) _
  have HN := Lib.hid (show W.heap[w.heap.size]? = some (.cells nameArr 9) by rw [← hW]; exact heap_alloc_new _ _)
  clear hW
  go_loop [5] (fun i => ∃ k : Nat, k ≤ 28 ∧ i = .int .i64 k ∧ Hid (∀ j, j < k → (rowAt j).name.data.toList ≠ s.data.toList)) (fun i => 28 - (intOf i).toNat)
  case atStart => exact ⟨0, Nat.zero_le _, rfl, Lib.hid (fun j hj => by omega)⟩
  case round =>
    obtain ⟨k, hk, rfl, HZ⟩ := hrel
    by_cases hlt : k < 28
    · have hc : W.cell? ⟨w.heap.size, k, none⟩ = some (.string (rowAt k).name) := (cell_of_row _ _ _ _ _ _ HN.out).trans (nameArr_at k hlt)
      by_cases he : (rowAt k).name.data.toList = s.data.toList
      · have hq : ((rowAt k).name.toList == s.toList) = true := by rw [ByteArray.toList_eq, ByteArray.toList_eq, he]; simp
        have HF := Lib.hid (found_at hlt he)
        clear he
        generalize (rowAt k).name = nm at *
        go_wp2
        go_ret2
        exact ⟨by rw [HF.out.1, HF.out.2]; rfl, hB⟩
      · have hq : ((rowAt k).name.toList == s.toList) = false := by rw [ByteArray.toList_eq, ByteArray.toList_eq]; simpa using he
        have HE := Lib.hid he
        clear he
        generalize hnm : (rowAt k).name = nm at *
        have HNM := Lib.hid hnm
        clear hnm
        go_wp2
        go_round
        case rel => exact ⟨k + 1, by omega, by go_num, Lib.hid (fun j hj => by
          by_cases e : j = k
          · subst e; rw [HNM.out]; exact HE.out
          · exact HZ.out j (by omega))⟩
        case measure => simp [intOf]; omega
    · obtain rfl : k = 28 := by omega
      have HF := Lib.hid (found_no HZ.out)
      go_wp2
      go_ret2
      exact ⟨by rw [HF.out.1, HF.out.2]; rfl, hB⟩

/-- The document's row of an instruction's, at a place. -/
theorem tr_cell {w : World} {g : Nat} {r : Row} {t : TypeId} {fr : Nat × Nat} (h : w.heap[g]? = some (.cells #[.int .i64 (tr r.a), .int .i64 (tr r.b), .int .i64 (tr r.c)] t fr)) (k : Nat) (hk : k < 3) :
    w.cell? ⟨g, k, none⟩ = some (.int .i64 (tr (r.at k))) := by
  rw [cell_of_row w g k _ _ _ h]
  obtain rfl | rfl | rfl : k = 0 ∨ k = 1 ∨ k = 2 := by omega
  · rfl
  · rfl
  · rfl
theorem num_cell {w : World} {g : Nat} {x : InsD} {t : TypeId} {fr : Nat × Nat} (h : w.heap[g]? = some (.cells #[.int .i64 x.a, .int .i64 x.b, .int .i64 x.c] t fr)) (k : Nat) (hk : k < 3) :
    w.cell? ⟨g, k, none⟩ = some (.int .i64 (x.at k)) := by
  rw [cell_of_row w g k _ _ _ h]
  obtain rfl | rfl | rfl : k = 0 ∨ k = 1 ∨ k = 2 := by omega
  · rfl
  · rfl
  · rfl
theorem tr_none {x : Int} (h0 : 0 ≤ x) (h1 : x < 12) : tr x = 0 ↔ x = 0 := by unfold tr; split <;> (try split) <;> (try split) <;> (try split) <;> (try split) <;> (try split) <;> (try split) <;> (try split) <;> omega
theorem tr_uses {x : Int} (h0 : 0 ≤ x) (h1 : x < 12) : tr x = 3 ↔ x = 2 := by unfold tr; split <;> (try split) <;> (try split) <;> (try split) <;> (try split) <;> (try split) <;> (try split) <;> (try split) <;> omega
theorem tr_sets {x : Int} (h0 : 0 ≤ x) (h1 : x < 12) : tr x = 2 ↔ x = 1 := by unfold tr; split <;> (try split) <;> (try split) <;> (try split) <;> (try split) <;> (try split) <;> (try split) <;> (try split) <;> omega

set_option maxHeartbeats 2000000 in
theorem refName_any (k : Nat) (w : World) :
    Calls Try.prog 22 #[.int .u8 k] w fun e w' => e = .returned (.tuple #[.string (rowAt k).name, .int .i64 ((rowAt k).cnt 3)]) ∧ Below w.heap.size w w' := by
  by_cases hk : 28 ≤ k
  · have hd : decide ((27 : Int) < (k : Int)) = true := by simp; omega
    rw [rowAt_out k hk]
    go_enter Try.func22, Try.ntmps22
    go_wp2
    go_ret2
    exact ⟨rfl, Below.refl _ _⟩
  · have hd : decide ((27 : Int) < (k : Int)) = false := by simp; omega
    have hk' : k < 28 := by omega
    have H := refRow_any k
    have HWd := Lib.hid (word_lt k)
    have HNm := Lib.hid (nameArr_at k hk')
    generalize rowAt k = r at H HWd HNm ⊢
    have H := Lib.hid H
    go_enter Try.func22, Try.ntmps22
    go_wp2_with (go_at_call 39; refine (H.out _).mono ?_; rintro e w1 ⟨rfl, rfl⟩)
    generalize hW : w.alloc _ = W
    have hB : Below w.heap.size w W := by rw [← hW]; exact (Below.refl _ _).alloc (Nat.le_refl _) _
    have HR := Lib.hid (show W.heap[w.heap.size]? = some (.cells #[.int .i64 (tr r.a), .int .i64 (tr r.b), .int .i64 (tr r.c)] 3) by rw [← hW]; exact heap_alloc_new _ _)
    clear hW
    go_loop [4, 6] (fun n i => ∃ j : Nat, j ≤ 3 ∧ i = .int .i64 j ∧ n = .int .i64 (r.cnt j)) (fun _ i => 3 - (intOf i).toNat)
    case atStart => exact ⟨0, Nat.zero_le _, rfl, rfl⟩
    case round =>
      obtain ⟨j, hj, rfl, rfl⟩ := hrel
      have hb := cnt_bound r j
      by_cases hlt : j < 3
      · have hq := tr_cell HR.out j hlt
        have hwd := HWd.out j
        by_cases hz : r.at j = 0
        · have hz' : (tr (r.at j) != 0) = false := by simpa using (tr_none hwd.1 hwd.2).2 hz
          have HN := Lib.hid (show r.cnt j = r.cnt (j + 1) by rw [Row.cnt, nz_zero hz]; omega)
          clear hz
          go_wp2
          go_round
          case rel => exact ⟨j + 1, by omega, by go_num, by rw [← HN.out]⟩
          case measure => simp [intOf]; omega
        · have hz' : (tr (r.at j) != 0) = true := by simpa using fun h => hz ((tr_none hwd.1 hwd.2).1 h)
          have HN := Lib.hid (show r.cnt j + 1 = r.cnt (j + 1) by rw [Row.cnt, nz_one hz])
          clear hz
          go_wp2
          go_round
          case rel => exact ⟨j + 1, by omega, by go_num, by rw [← HN.out]⟩
          case measure => simp [intOf]; omega
      · obtain rfl : j = 3 := by omega
        go_wp2_with (go_at_call 40; refine (names_any _).mono ?_; rintro e w1 ⟨rfl, rfl⟩; have hc : (W.alloc (.cells nameArr 9)).cell? ⟨W.heap.size, k, none⟩ = some (.string r.name) := (cell_of_row _ _ _ _ _ _ (heap_alloc_new _ _)).trans HNm.out)
        go_ret2
        exact ⟨rfl, hB.alloc hB.size _⟩

set_option maxHeartbeats 2000000 in
theorem refOf_any (x : InsD) (wd wt : Int) (w : World) (hw : ∀ y : Int, 0 ≤ y → y < 12 → (tr y = wt ↔ y = wd)) :
    Calls Try.prog 42 #[.agg #[.int .u8 x.op, .int .i64 x.a, .int .i64 x.b, .int .i64 x.c], .int .i64 wt] w fun e w' => e = .returned (.int .u64 (regN (rowAt x.op) x wd 3 : Nat)) ∧ Below w.heap.size w w' := by
  have H := refRow_any x.op
  have HWd := Lib.hid (word_lt x.op)
  have HT := Lib.hid hw
  clear hw
  generalize rowAt x.op = r at H HWd ⊢
  have H := Lib.hid H
  go_enter Try.func42, Try.ntmps42
  go_wp2_with (first
    | (go_at_call 39; refine (H.out _).mono ?_; rintro e w1 ⟨rfl, rfl⟩)
    | (go_at_call 50; refine (refNumbers_any _ _ _ _ _).mono ?_; rintro e w2 ⟨rfl, hN2, hB2⟩))
  have hs : ((w.alloc (.cells #[Value.int .u8 x.op, .int .i64 x.a, .int .i64 x.b, .int .i64 x.c] 30)).alloc (.cells #[Value.int .i64 (tr r.a), .int .i64 (tr r.b), .int .i64 (tr r.c)] 3)).heap.size = w.heap.size + 1 + 1 := by simp
  have HR := Lib.hid (kept_two hB2).2
  have hB : Below w.heap.size w w2 := (((Below.refl _ _).alloc (Nat.le_refl _) _).alloc (by simp) _).trans (hB2.mono (by omega))
  have hlt1 : w.heap.size + 1 < w2.heap.size := by have := hB2.size; omega
  rw [hs] at hN2
  have hlt2 : w.heap.size + 1 + 1 + 1 < w2.heap.size := lt_of_blk hN2
  have HNm := Lib.hid hN2
  clear hB2 hN2 hs
  go_loopw [5, 8] (fun s i wr => ∃ j : Nat, j ≤ 3 ∧ i = .int .i64 j ∧ s = .int .u64 (regN r x wd j : Nat) ∧ Below w2.heap.size w2 wr) (fun _ i _ => 3 - (intOf i).toNat)
  case atStart => exact ⟨0, Nat.zero_le _, rfl, rfl, Below.refl _ _⟩
  case round =>
    obtain ⟨j, hj, rfl, rfl, hb⟩ := hrel
    have hU := regN_lt r x wd j
    by_cases hlt : j < 3
    · have hq := tr_cell ((hb.block _ hlt1).trans HR.out) j hlt
      have hp := num_cell ((hb.block _ hlt2).trans HNm.out) j hlt
      have hwd := HWd.out j
      have hiff := HT.out (r.at j) hwd.1 hwd.2
      by_cases hz : r.at j = wd
      · have hz' : (tr (r.at j) == wt) = true := by simpa using hiff.2 hz
        have HN := Lib.hid (show putN (regN r x wd j) [x.at j] = regN r x wd (j + 1) by rw [regN, if_pos hz])
        clear hz hiff
        go_wp2_with (go_at_call 54; refine (refWith_any _ _ _ [x.at j] _ _ hU (row_only _ _ _ (by simp)) (by simp)).mono ?_; rintro e w4 ⟨rfl, rfl⟩)
        go_roundw
        case rel => exact ⟨j + 1, by omega, by go_num, by rw [← HN.out], below_new hb _⟩
        case measure => simp [intOf]; omega
      · have hz' : (tr (r.at j) == wt) = false := by simpa using fun h => hz (hiff.1 h)
        have HN := Lib.hid (show regN r x wd j = regN r x wd (j + 1) by rw [regN, if_neg hz])
        clear hz hiff
        go_wp2
        go_roundw
        case rel => exact ⟨j + 1, by omega, by go_num, by rw [← HN.out], hb⟩
        case measure => simp [intOf]; omega
    · obtain rfl : j = 3 := by omega
      go_wp2
      go_ret
      exact ⟨rfl, below_next hB hb⟩

set_option maxHeartbeats 1000000 in
theorem refUses_any (x : InsD) (w : World) :
    Calls Try.prog 24 #[.agg #[.int .u8 x.op, .int .i64 x.a, .int .i64 x.b, .int .i64 x.c]] w fun e w' => e = .returned (.int .u64 (regN (rowAt x.op) x 2 3 : Nat)) ∧ Below w.heap.size w w' := by
  have H := Lib.hid (fun w => refOf_any x 2 3 w fun y h0 h1 => tr_uses h0 h1)
  go_enter Try.func24, Try.ntmps24
  go_wp2_with (go_at_call 42; refine (H.out _).mono ?_; rintro e w1 ⟨rfl, hB1⟩)
  go_ret
  exact ⟨rfl, ((Below.refl _ _).alloc (Nat.le_refl _) _).trans (hB1.mono (by simp))⟩

set_option maxHeartbeats 1000000 in
theorem refSets_any (x : InsD) (w : World) :
    Calls Try.prog 26 #[.agg #[.int .u8 x.op, .int .i64 x.a, .int .i64 x.b, .int .i64 x.c]] w fun e w' => e = .returned (.int .u64 (regN (rowAt x.op) x 1 3 : Nat)) ∧ Below w.heap.size w w' := by
  have H := Lib.hid (fun w => refOf_any x 1 2 w fun y h0 h1 => tr_sets h0 h1)
  go_enter Try.func26, Try.ntmps26
  go_wp2_with (go_at_call 42; refine (H.out _).mono ?_; rintro e w1 ⟨rfl, hB1⟩)
  go_ret
  exact ⟨rfl, ((Below.refl _ _).alloc (Nat.le_refl _) _).trans (hB1.mono (by simp))⟩

end Go.Proofs.Ytpmfolgihdmcjaa
