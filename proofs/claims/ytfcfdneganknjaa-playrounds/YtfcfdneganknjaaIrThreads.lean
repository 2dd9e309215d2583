/- What threads and Sound of package ir return, for every program. -/
import Derived.Test.YtfcfdneganknjaaIrFits
namespace Go.Proofs.Ytfcfdneganknjaa
set_option linter.unusedVariables false
set_option linter.unusedSimpArgs false
open Go.RowKit

set_option maxHeartbeats 1000000 in
theorem threads1_any (b : Nat) (x : InsD) (t : TypeId) (fr : Nat × Nat) (w : World) (h : w.heap[b]? = some (.cells #[.int .u8 x.op, .int .i64 x.a, .int .i64 x.b, .int .i64 x.c] t fr)) :
    Calls Try.prog 66 #[.pointer (some ⟨b, 0, none⟩)] w fun e w' => e = .returned (.int .u16 (unE (knownB x) 20)) ∧ Below w.heap.size w w' := by
  obtain ⟨c0, c1, c2, c3⟩ := cells4 h
  clear h
  go_enter Try.func66, Try.ntmps66
  go_wp2_with fail
  refine (known_ins x _).mono ?_
  rintro e w1 ⟨rfl, hB1⟩
  go_wp2_with fail
  refine (unless_any _ _ _).mono ?_
  rintro e w2 ⟨rfl, rfl⟩
  go_wp2
  go_ret
  exact ⟨rfl, hB1⟩

theorem info_can_fs {fs : List Value} (h : fs.length = 12) : (Try.prog.info? 125).map (·.size) = some fs.toArray.size := by
  rw [List.size_toArray, h]; exact info_can

set_option maxHeartbeats 1000000 in
theorem threads2_any (b c : Nat) (x : InsD) (p : ProgD) (n : Nat) (fs : List Value) (t t2 : TypeId) (fr fr2 : Nat × Nat) (w : World) (h : w.heap[b]? = some (.cells #[.int .u8 x.op, .int .i64 x.a, .int .i64 x.b, .int .i64 x.c] t fr))
    (h2 : w.heap[c]? = some (.cells fs.toArray t2 fr2)) (hc : CansIn w p n fs) :
    Calls Try.prog 68 #[.pointer (some ⟨b, 0, none⟩), .pointer (some ⟨c, 0, none⟩)] w fun e w' => e = .returned (.int .u16 (unE (fitsB p n x) 21)) ∧ Below w.heap.size w w' := by
  obtain ⟨c0, c1, c2, c3⟩ := cells4 h
  have H2 := Lib.hid h2
  have HI := Lib.hid (info_can_fs hc.len)
  clear h h2
  go_enter Try.func68, Try.ntmps68
  go_wp2_with (first
    | (refine wpList_load_row rfl 125 (.tmp 1) rfl c rfl t2 fs.toArray fr2 _ H2.out Try.underlying125 rfl HI.out ?_)
    | (go_at_call 69; refine (fits_any p n fs x _ hc).mono ?_; rintro e w1 ⟨rfl, hB1⟩)
    | (go_at_call 51; refine (unless_any _ _ _).mono ?_; rintro e w2 ⟨rfl, rfl⟩))
  go_ret
  exact ⟨rfl, hB1⟩

theorem info_prog : (Try.prog.info? 26).map (·.size) = some 7 := by kernel_rfl
theorem zero_len {fs : List Value} (h : fs.length = 12) : (#[Value.nilFunc, .nilFunc, .nilFunc, .nilFunc, .nilFunc, .nilFunc, .nilFunc, .nilFunc, .nilFunc, .nilFunc, .nilFunc, .nilFunc] : Array Value).size = fs.toArray.size := by
  show 12 = fs.toArray.size
  rw [List.size_toArray, h]
/-- What is wrong with an instruction, of a thread of n; with a thread's; with all. -/
def insE (p : ProgD) (n : Nat) (x : InsD) : Int := firstE [unE (knownB x) 20, unE (fitsB p n x) 21]
def codeE (p : ProgD) (c : List InsD) : Int := firstE (c.map (insE p c.length))
def threadsE (p : ProgD) : Int := firstE (p.threads.map (codeE p))

theorem first_ins (x : InsD) (p : ProgD) (n : Nat) (fs : List Value) (cb : Nat) (t : TypeId) (u : World) (hcan : u.heap[cb]? = some (.cells fs.toArray t)) (hC : CansIn u p n fs) :
    Calls Try.prog 49 #[.slice (some ⟨u.heap.size + 1, 0, none⟩) 2 2]
      ((u.alloc (.cells #[.int .u8 x.op, .int .i64 x.a, .int .i64 x.b, .int .i64 x.c] 54)).alloc (.cells #[.func (.func 66) #[] #[.pointer (some ⟨u.heap.size, 0, none⟩)], .func (.func 68) #[] #[.pointer (some ⟨u.heap.size, 0, none⟩), .pointer (some ⟨cb, 0, none⟩)]] 113))
      fun e w' => e = .returned (.int .u16 (insE p n x)) ∧ Below ((u.alloc (.cells #[.int .u8 x.op, .int .i64 x.a, .int .i64 x.b, .int .i64 x.c] 54)).alloc (.cells #[.func (.func 66) #[] #[.pointer (some ⟨u.heap.size, 0, none⟩)], .func (.func 68) #[] #[.pointer (some ⟨u.heap.size, 0, none⟩), .pointer (some ⟨cb, 0, none⟩)]] 113)).heap.size ((u.alloc (.cells #[.int .u8 x.op, .int .i64 x.a, .int .i64 x.b, .int .i64 x.c] 54)).alloc (.cells #[.func (.func 66) #[] #[.pointer (some ⟨u.heap.size, 0, none⟩)], .func (.func 68) #[] #[.pointer (some ⟨u.heap.size, 0, none⟩), .pointer (some ⟨cb, 0, none⟩)]] 113)) w' := by
  have hcb : cb < u.heap.size := (Array.getElem?_eq_some_iff.1 hcan).1
  refine first_any [.func (.func 66) #[] #[.pointer (some ⟨u.heap.size, 0, none⟩)], .func (.func 68) #[] #[.pointer (some ⟨u.heap.size, 0, none⟩), .pointer (some ⟨cb, 0, none⟩)]] [unE (knownB x) 20, unE (fitsB p n x) 21] _ 2 _ rfl (by simp) ?_ ?_
  · intro i f hf
    refine ⟨u.heap.size + 1, 0, rfl, by simp, ?_⟩
    rw [cell_of_row _ _ _ _ _ _ (heap_alloc2_new _ _ _)]
    simpa using hf
  · intro i f e hf he _
    have hbelow : Below u.heap.size u ((u.alloc (.cells #[.int .u8 x.op, .int .i64 x.a, .int .i64 x.b, .int .i64 x.c] 54)).alloc (.cells #[.func (.func 66) #[] #[.pointer (some ⟨u.heap.size, 0, none⟩)], .func (.func 68) #[] #[.pointer (some ⟨u.heap.size, 0, none⟩), .pointer (some ⟨cb, 0, none⟩)]] 113)) := ((Below.refl _ _).alloc (Nat.le_refl _) _).alloc (by simp) _
    match i, hf, he with
    | 0, hf, he =>
      cases hf; cases he
      refine ⟨_, _, rfl, fun u => by kernel_rfl, fun v hv => ?_⟩
      exact threads1_any _ x _ _ v (kept_two hv).1
    | 1, hf, he =>
      cases hf; cases he
      refine ⟨_, _, rfl, fun u => by kernel_rfl, fun v hv => ?_⟩
      have hv' : Below u.heap.size u v := hbelow.trans (hv.mono (by simp; omega))
      exact threads2_any _ _ x p n fs _ _ _ _ v (kept_two hv).1 ((hv'.block _ hcb).trans hcan) (hC.later hv')
    | i + 2, hf, he => simp at hf

theorem firstE_map {α : Type} (g : α → Int) (l : List α) (h : ∀ (j : Nat) (x : α), l[j]? = some x → g x = 0) : firstE (l.map g) = 0 :=
  firstE_all fun e he => by
    obtain ⟨x, hx, rfl⟩ := List.mem_map.1 he
    obtain ⟨j, hj⟩ := List.getElem?_of_mem hx
    exact h j x hj
theorem firstE_map_at {α : Type} (g : α → Int) (l : List α) {k : Nat} {x : α} (hk : l[k]? = some x) (hne : g x ≠ 0) (h : ∀ (j : Nat) (y : α), j < k → l[j]? = some y → g y = 0) : firstE (l.map g) = g x :=
  firstE_at (k := k) (by rw [List.getElem?_map, hk]; rfl) hne fun j e hj he => by
    rw [List.getElem?_map] at he
    cases hl : l[j]? with
    | none => rw [hl] at he; cases he
    | some y => rw [hl] at he; cases he; exact h j y hj hl

set_option maxRecDepth 100000 in
set_option maxHeartbeats 8000000 in
theorem threads_any (p : ProgD) (ca : Option Addr) (ccap : Nat) (ta : Option Addr) (tcap : Nat) (w : World) (hp : ProgIn w w.heap.size p ca ta) (hs : sizesB p = true) :
    Calls Try.prog 56 #[p.val ca ccap ta tcap] w fun e w' => e = .returned (.int .u16 (threadsE p)) ∧ Below w.heap.size w w' := by
  have HT := Lib.hid hp.threads
  have htl : p.threads.length ≤ 6 := (sizes_parts hs).2.2.2.2.2.2.1.2
  have HL := Lib.hid (sizes_parts hs).2.2.2.2.2.2.2
  have HS := Lib.hid hs
  clear hp hs
  go_enter Try.func56, Try.ntmps56
  go_wp2
  generalize hW : w.alloc _ = W
  have hWB : Below w.heap.size w W := by rw [← hW]; exact (Below.refl _ _).alloc (Nat.le_refl _) _
  have HBx := Lib.hid (show W.heap[w.heap.size]? = some (.cells #[.int .i64 p.vars, .int .i64 p.atoms, .int .i64 p.locks, .slice ca p.chans.length ccap, .int .i64 p.groups, .int .i64 p.onces, .slice ta p.threads.length tcap] 26) by rw [← hW]; exact heap_alloc_new _ _)
  have hWs : w.heap.size < W.heap.size := by rw [← hW]; simp
  clear hW
  go_loopw [12] (fun i wr => ∃ k : Nat, k ≤ p.threads.length ∧ i = .int .i64 k ∧ Below W.heap.size W wr ∧ Hid (∀ (j : Nat) (c : List InsD), j < k → p.threads[j]? = some c → codeE p c = 0)) (fun i _ => p.threads.length - (intOf i).toNat)
  case atStart => exact ⟨0, Nat.zero_le _, rfl, Below.refl _ _, Lib.hid (fun j x hj => by omega)⟩
  case round =>
    obtain ⟨k, hk, rfl, hB, HZ⟩ := hrel
    by_cases hlt : k < p.threads.length
    · obtain ⟨c, hc⟩ := at_lt hlt
      obtain ⟨b, off, rfl, hb, a', cap', hcell, hcode⟩ := HT.out k c hc
      have hBw : Below w.heap.size w wr := hWB.trans (hB.mono (by omega))
      have hcell' := (hBw.cell (p := ⟨b, off + k, none⟩) hb).trans hcell
      have HCode := Lib.hid (hcode.below hBw)
      have HE := Lib.hid hc
      have hcl : c.length ≤ 60 := HL.out c (List.mem_of_getElem? hc)
      have HBr := Lib.hid ((hB.block _ hWs).trans HBx.out)
      have hrs : w.heap.size < wr.heap.size := by have := hB.size; omega
      clear hc hcell hcode
      go_wp2_with (first
        | (refine wpList_load_row rfl 26 (.tmp 1) rfl w.heap.size rfl 26 _ (0, 0) _ HBr.out Try.underlying26 rfl info_prog ?_)
        | (go_at_call 65; refine (allowed_any p ca ccap _ tcap c.length wr hcl HS.out).mono ?_; rintro e w1 ⟨fs, rfl, hC1, hB1⟩; have HI := Lib.hid (info_can_fs hC1.len); have HO := Lib.hid (zero_len hC1.len))
        | (refine wpList_store_row rfl 125 (.tmp 5) (.tmp 19) rfl w1.heap.size fs.toArray rfl rfl 125 _ (heap_alloc_new _ _) HI.out HO.out (all_oneCell_toArray hC1.one) ?_))
      generalize hWc : World.setRow _ _ _ = Wc
      have hWcB : Below w1.heap.size w1 Wc := by rw [← hWc]; exact below_setRow ((Below.refl _ _).alloc (Nat.le_refl _) _) (Nat.le_refl _) _
      have HCan := Lib.hid (show Wc.heap[w1.heap.size]? = some (.cells fs.toArray 125) by rw [← hWc]; exact setRow_heap _ _ _ _ _ _ (heap_alloc_new _ _))
      have HC2 := Lib.hid (hC1.later hWcB)
      have hB2 : Below wr.heap.size wr Wc := below_next hB1 hWcB
      have HCode2 := Lib.hid ((HCode.out).below (hB2.mono (by omega)))
      have hs1 : w1.heap.size < Wc.heap.size := (Array.getElem?_eq_some_iff.1 HCan.out).1
      have hs2 : w.heap.size < Wc.heap.size := by have := hB2.size; omega
      clear hWc hC1 HI HO HCode
      go_loopw [22] (fun i wi => ∃ m : Nat, m ≤ c.length ∧ i = .int .i64 m ∧ Below Wc.heap.size Wc wi ∧ Hid (∀ (j : Nat) (x : InsD), j < m → c[j]? = some x → insE p c.length x = 0)) (fun i _ => c.length - (intOf i).toNat)
      case atStart => exact ⟨0, Nat.zero_le _, rfl, Below.refl _ _, Lib.hid (fun j x hj => by omega)⟩
      case round =>
        obtain ⟨m, hm, rfl, hBi, HZi⟩ := hrel
        by_cases hlm : m < c.length
        · obtain ⟨x, hx⟩ := at_lt hlm
          obtain ⟨b', off', rfl, hb', hI0⟩ := HCode2.out m x hx
          obtain ⟨i0, i1, i2, i3⟩ := hI0.below hb' (hBi.mono (B' := w.heap.size) (by omega))
          have HEx := Lib.hid hx
          clear hx hI0
          have HF := Lib.hid (first_ins x p c.length fs w1.heap.size _ wr ((hBi.block _ hs1).trans HCan.out) (HC2.out.later hBi))
          by_cases hz : insE p c.length x = 0
          · rw [hz] at HF
            have HZ0 := Lib.hid hz
            clear hz
            go_wp2_with fail
            refine (HF.out).mono ?_
            rintro e w3 ⟨rfl, hB3⟩
            go_wp2
            go_roundw
            case rel => exact ⟨m + 1, by omega, by go_num, below_next hBi (((Below.refl _ _).alloc (Nat.le_refl _) _).alloc (by simp) _ |>.trans (hB3.mono (by simp; omega))), Lib.hid (fun j y hj hy => by
              by_cases e : j = m
              · subst e; have := HEx.out; rw [this] at hy; cases hy; exact HZ0.out
              · exact HZi.out j y (by omega) hy)⟩
            case measure => simp [intOf]; omega
          · have HR1 := Lib.hid (show codeE p c = insE p c.length x from firstE_map_at _ _ HEx.out hz HZi.out)
            have HR2 := Lib.hid (show threadsE p = insE p c.length x from (firstE_map_at _ _ HE.out (by rw [HR1.out]; exact hz) HZ.out).trans HR1.out)
            have hz' : (insE p c.length x != 0) = true := by simp [hz]
            clear hz
            generalize insE p c.length x = ee at *
            go_wp2_with fail
            refine (HF.out).mono ?_
            rintro e w3 ⟨rfl, hB3⟩
            go_wp2
            go_ret
            exact ⟨ret_int HR2.out.symm, hWB.trans ((below_next (below_next hB (below_next hB2 hBi)) (((Below.refl _ _).alloc (Nat.le_refl _) _).alloc (by simp) _ |>.trans (hB3.mono (by simp; omega)))).mono (by omega))⟩
        · obtain rfl : m = c.length := by omega
          go_wp2
          go_roundw
          case rel => exact ⟨k + 1, by omega, by go_num, below_next hB (below_next hB2 hBi), Lib.hid (fun j d hj hd => by
            by_cases e : j = k
            · subst e; have := HE.out; rw [this] at hd; cases hd
              exact firstE_map _ _ fun j x hj => HZi.out j x (List.getElem?_eq_some_iff.1 hj).1 hj
            · exact HZ.out j d (by omega) hd)⟩
          case measure => simp [intOf]; omega
    · obtain rfl : k = p.threads.length := by omega
      go_wp2
      go_ret
      exact ⟨ret_int (firstE_map _ _ fun j c hj => HZ.out j c (List.getElem?_eq_some_iff.1 hj).1 hj).symm, hWB.trans (hB.mono (by omega))⟩

end Go.Proofs.Ytfcfdneganknjaa
