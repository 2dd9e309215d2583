/- Print. -/
import Derived.Test.YtfcfdneganknjaaStateDo4
import Derived.Maps.AppendAt
import Derived.OwnWalk
namespace Go.Proofs.Ytfcfdneganknjaa
set_option linter.unusedVariables false
set_option linter.unusedSimpArgs false
set_option maxRecDepth 100000
open Go.ChangeShapes Go.WideShapes Go.ChangeAt Go.RowKit

/-- What lies where X does not say so is as it was. -/
structure Touch (X : Nat → Prop) (w w' : World) : Prop where
  os : w'.os = w.os
  tape : w'.tape = w.tape
  output : w'.output = w.output
  size : w.heap.size ≤ w'.heap.size
  block : ∀ k, k < w.heap.size → ¬ X k → w'.heap[k]? = w.heap[k]?
theorem Touch.of_below {X : Nat → Prop} {w w' : World} (h : Below w.heap.size w w') : Touch X w w' := ⟨h.os, h.tape, h.output, h.size, fun k hk _ => h.block k hk⟩
theorem Touch.set {X : Nat → Prop} {w w' : World} (h : Touch X w w') {b i : Nat} {v : Value} (hb : X b) : Touch X w (w'.setCell ⟨b, i, none⟩ v) :=
  ⟨h.os, h.tape, h.output, by rw [size_setCell]; exact h.size, fun k hk hx => (Below.heap_setCell _ _ _ _ (by intro e; simp only at e; exact hx (e ▸ hb))).trans (h.block k hk hx)⟩
theorem Touch.trans {X Y : Nat → Prop} {w w1 w2 : World} (h : Touch X w w1) (h2 : Touch Y w1 w2) (hY : ∀ k, k < w.heap.size → Y k → X k) : Touch X w w2 :=
  ⟨h2.os.trans h.os, h2.tape.trans h.tape, h2.output.trans h.output, Nat.le_trans h.size h2.size, fun k hk hx => (h2.block k (by have := h.size; omega) fun hy => hx (hY k hk hy)).trans (h.block k hk hx)⟩
theorem Touch.mono {X Y : Nat → Prop} {w w' : World} (h : Touch X w w') (hX : ∀ k, k < w.heap.size → X k → Y k) : Touch Y w w' := ⟨h.os, h.tape, h.output, h.size, fun k hk hy => h.block k hk fun hx => hy (hX k hk hx)⟩
theorem Touch.puts {X : Nat → Prop} {b : Nat} (hb : X b) : ∀ (l : List (Nat × Value)) {w w' : World}, Touch X w w' → Touch X w (putsB b l w')
  | [], _, _, h => h
  | (i, v) :: l, _, _, h => Touch.puts hb l (h.set hb)
theorem Touch.below {X : Nat → Prop} {B : Nat} {w w' : World} (h : Touch X w w') (hX : ∀ k, X k → B ≤ k) (hB : B ≤ w.heap.size) : Below B w w' :=
  ⟨h.os, h.tape, h.output, h.size, fun k hk => h.block k (by omega) fun hx => by have := hX k hx; omega⟩
theorem Touch.grown {X : Nat → Prop} {w w' : World} {row : Option Nat} (h : w.grownBy w' row) (hX : ∀ k, row = some k → X k) : Touch X w w' :=
  ⟨h.os, h.tape, h.output, h.size, fun k hk hx => h.block k hk fun e => hx (hX k e.symm)⟩

theorem st_slice {u : World} {base : Nat} {e : TypeId} {z : Nat} {v : Value} {n : Nat} {xs : List Value} (h : u.ownsRow base e z v n xs) : ∃ ao cap, v = .slice ao n cap := by
  rcases h.2 with ⟨rfl, rfl⟩ | ⟨g, cap, cur, rfl, _⟩
  · exact ⟨none, 0, rfl⟩
  · exact ⟨_, cap, rfl⟩
theorem StIn.told89 {u : World} {b lo hi : Nat} {pv : Value} {m : Nat → Int} {code : List (List InsD)} {pr : List Int} (h : StIn u b lo hi pv m code pr) : u.cell? ⟨b, 89, none⟩ = some pv := by
  obtain ⟨cs, a, cap, h1, h2, h3, h4, h5, h6⟩ := h.box
  rw [cell_of_row _ _ _ _ _ _ h1]; exact h4
theorem StIn.frozen {u : World} {b lo hi : Nat} {pv : Value} {m : Nat → Int} {code : List (List InsD)} {pr : List Int} (h : StIn u b lo hi pv m code pr) (i : Nat) : u.frozen? ⟨b, i, none⟩ = false := by
  obtain ⟨cs, a, cap, h1, h2, h3, h4, h5, h6⟩ := h.box
  exact frozen_of_row _ _ _ _ _ h1
/-- A store into another block. -/
theorem StIn.aside {u : World} {b lo hi : Nat} {pv : Value} {m : Nat → Int} {code : List (List InsD)} {pr : List Int} (h : StIn u b lo hi pv m code pr) {e i : Nat} {v : Value} (h1 : b ≠ e) (h2 : pv.ownBlock ≠ some e) (h3 : e < lo ∨ hi ≤ e) : StIn (u.setCell ⟨e, i, none⟩ v) b lo hi pv m code pr := by
  obtain ⟨cs, a, cap, g1, g2, g3, g4, g5, g6⟩ := h.box
  have hk : ∀ k, k ≠ e → (u.setCell ⟨e, i, none⟩ v).heap[k]? = u.heap[k]? := fun k hk => Below.heap_setCell _ _ _ _ hk
  refine ⟨⟨cs, a, cap, (hk b h1).trans g1, g2, g3, g4, g5, g6.keep fun k k1 k2 => hk k ?_⟩, ?_, h.off, h.two, h.len, h.lens, by rw [size_setCell]; exact h.top⟩
  · rcases h3 with h' | h' <;> omega
  · refine ⟨h.own.1, ?_⟩
    rcases h.own.2 with q | ⟨g, cap', cur, rfl, hb, hh, hr⟩
    · exact .inl q
    · have : g ≠ e := fun x => h2 (by simp [Value.ownBlock, x])
      exact .inr ⟨g, cap', cur, rfl, hb, (hk g this).trans hh, hr⟩
/-- What is told is told. -/
theorem StIn.tell {u u' : World} {b lo hi : Nat} {pv pv' : Value} {m : Nat → Int} {code : List (List InsD)} {pr : List Int} {v : Int} (h : StIn u b lo hi pv m code pr) (ho : u'.ownsRow hi 3 1 pv' (pr.length + 1) (pr.map (.int .i64 ·) ++ [.int .i64 v])) (hg : u.grownBy u' pv.ownBlock) (ha : pv'.ownBlock = pv.ownBlock ∨ pv'.ownBlock = some u.heap.size) :
    StIn (u'.setCell ⟨b, 89, none⟩ pv') b lo hi pv' m code (pr ++ [v]) := by
  have hl := h.lt
  obtain ⟨cs, a, cap, g1, g2, g3, g4, g5, g6⟩ := h.box
  have hb : u'.heap[b]? = u.heap[b]? := hg.block b hl fun e => h.two e.symm
  have h2 : pv'.ownBlock ≠ some b := by
    rcases ha with e | e
    · rw [e]; exact h.two
    · rw [e]; intro e'; simp at e'; omega
  have hk : ∀ k, k ≠ b → (u'.setCell ⟨b, 89, none⟩ pv').heap[k]? = u'.heap[k]? := fun k hk => Below.heap_setCell _ _ _ _ hk
  refine ⟨⟨cs.setIfInBounds 89 pv', a, cap, stSet_block u' b 89 pv' (hb.trans g1), by simpa using g2, ?_, ?_, fun j hj j0 j9 => ?_, g6.keep2 fun k k1 k2 k3 => (hk k ?_).trans (hg.block k k3 ?_)⟩, ?_, h.off, h2, h.len, h.lens, by rw [size_setCell]; exact Nat.le_trans h.top hg.size⟩
  · rw [Array.getElem?_setIfInBounds_ne (by omega)]; exact g3
  · rw [Array.getElem?_setIfInBounds_self_of_lt (by omega)]
  · rw [Array.getElem?_setIfInBounds_ne (by omega)]; exact g5 j hj j0 j9
  · rcases h.off with h' | h' <;> omega
  · intro e
    have := (own_lt h.own k e.symm).2
    omega
  · have ho' : u'.ownsRow hi 3 1 pv' (pr ++ [v]).length ((pr ++ [v]).map (.int .i64 ·)) := by simpa using ho
    refine ⟨ho'.1, ?_⟩
    rcases ho'.2 with q | ⟨g, cap', cur, rfl, hb', hh, hr⟩
    · exact .inl q
    · have : g ≠ b := fun x => h2 (by simp [Value.ownBlock, x])
      exact .inr ⟨g, cap', cur, rfl, hb', (hk g this).trans hh, hr⟩
theorem info_intS : (Try.prog.info? 3).map (fun i => (i.zero, i.size, i.bytes)) = some (some (.int .i64 0), 1, 8) := by kernel_rfl

theorem st_one_new (w : World) (v : Value) (t : TypeId) : ∀ j u, [v][j]? = some u → ((w.alloc (.cells #[v] t)).drew).cell? ((⟨w.heap.size, 0, none⟩ : Addr).add j) = some u := fun j u hu => by
  cases j with
  | zero =>
    obtain rfl : v = u := by simpa using hu
    exact cell_of_row _ _ 0 _ _ _ (heap_alloc_new w _)
  | succ j => simp at hu
set_option maxHeartbeats 1000000 in
theorem do_9 {b lo hi : Nat} {pv : Value} {m : Nat → Int} {code : List (List InsD)} {pr : List Int} (eb k A : Nat) (y z : Int) (hA : A < 4) (hk : k < 6) (o4 : Int) (w : World) (S : StIn w b lo hi pv m code pr) (hpl : pr.length ≤ 1000000)
    (h4 : w.cell? ⟨eb, 4, none⟩ = some (.int .i64 o4)) (hg : ∀ i, w.frozen? ⟨eb, i, none⟩ = false) (hne : b ≠ eb) (hpe : pv.ownBlock ≠ some eb) (heo : eb < lo ∨ hi ≤ eb) :
    Calls Try.prog 58 #[.pointer (some ⟨b, 0, none⟩), .pointer (some ⟨b, 1 + k * 6, none⟩), insV 9 A y z, .pointer (some ⟨eb, 0, none⟩)] w fun e w' => e = .returned (.bool true) ∧ ∃ pv', StIn w' b lo hi pv' m code (pr ++ [m (1 + k * 6 + 2 + A)]) ∧ w'.heap[eb]? = (w.setCell ⟨eb, 4, none⟩ (.int .i64 (m (1 + k * 6 + 2 + A)))).heap[eb]? ∧ Touch (fun j => j = b ∨ j = eb ∨ pv.ownBlock = some j) w w' ∧ (pv'.ownBlock = pv.ownBlock ∨ ∃ g, pv'.ownBlock = some g ∧ w.heap.size ≤ g) := by
  have hA4 : (A : Int) < 4 := by omega
  have l1 := S.lt
  have l4 := cell_lt h4
  have h1 := S.reg k A hk hA
  generalize m (1 + k * 6 + 2 + A) = v at *
  go_enter Try.func58, Try.ntmps58
  go_wp2_with fail
  generalize hV : World.alloc w _ = V
  have hB : Below w.heap.size w V := by rw [← hV]; exact below_box _ _
  have hN : V.heap[w.heap.size]? = some (insO 9 A y z) := by rw [← hV]; exact heap_alloc_new _ _
  obtain ⟨n0, n1, n2, n3⟩ := cells4 hN
  have d1 : V.cell? ⟨b, 1 + k * 6 + 2 + A, none⟩ = some (.int .i64 v) := (hB.cell (p := ⟨b, 1 + k * 6 + 2 + A, none⟩) l1).trans h1
  have d4 : V.cell? ⟨eb, 4, none⟩ = some (.int .i64 o4) := (hB.cell (p := ⟨eb, 4, none⟩) l4).trans h4
  have dg : ∀ i, V.frozen? ⟨eb, i, none⟩ = false := fun i => (hB.frozen (p := ⟨eb, i, none⟩) l4).trans (hg i)
  have HB := Lib.hid hB
  have HSV := Lib.hid ((S.later hB).aside (i := 4) (v := .int .i64 v) hne hpe heo)
  clear hV hB hN h1 h4 hg
  go_wp2_with fail
  go_region
  generalize hU : World.drew _ = U
  have SU : StIn U b lo hi pv m code pr := by rw [← hU]; exact HSV.out.later ((Below.refl _ _).drew)
  have e4 : U.cell? ⟨eb, 4, none⟩ = some (.int .i64 v) := by rw [← hU]; exact cell_is d4
  have hUB : Below w.heap.size (w.setCell ⟨eb, 4, none⟩ (.int .i64 v)) U := by rw [← hU]; exact (below_both HB.out _ _).drew
  obtain ⟨ao, cp, rfl⟩ := st_slice SU.own
  have e9 := SU.told89
  have HU := Lib.hid hUB
  have HSU := Lib.hid SU
  clear hU n0 n1 n2 n3 d1 d4 dg HSV hUB S
  obtain ⟨t0, ti, tz0, tz1, tz2⟩ := info_parts info_intS
  go_wp2_with fail
  have e9' : ∀ o, (U.alloc o).cell? ⟨b, 89, none⟩ = some (.slice ao pr.length cp) := fun o => ((below_box U o).cell (p := ⟨b, 89, none⟩) HSU.out.lt).trans e9
  have e4' : ∀ o, (U.alloc o).cell? ⟨eb, 4, none⟩ = some (.int .i64 v) := fun o => ((below_box U o).cell (p := ⟨eb, 4, none⟩) (cell_lt e4)).trans e4
  go_region_law ((rw [if_pos (by rfl)]); refine wp_append_own_at _ (.tmp 54) (.tmp 59) 23 rfl hi 3 t0 (.int .i64 0) 1 8 Try.underlying23 ti tz0 tz1 tz2 rfl (by decide) (.slice ao pr.length cp) pr.length (pr.map (Value.int .i64 ·)) rfl (own_later HSU.out.own (below_box U _).drew) ⟨U.heap.size, 0, none⟩ 1 1 [.int .i64 v] rfl rfl (st_one_new U _ _) (by simp [Value.oneCell']) (by unfold maxLen; omega) (by omega) (by have := HSU.out.top; simp; omega) ?_; intro v' w4 hown' hgrow _ hat; obtain ⟨ao', cp', rfl⟩ := st_slice hown'; have hq := HSU.out.later ((below_box U (.cells #[.int .i64 v] 3)).drew); have b9 : w4.heap[b]? = _ := hgrow.block b hq.lt (fun e => hq.two e.symm); have c9 : w4.cell? ⟨b, 89, none⟩ = some (.slice ao pr.length cp) := (World.cell?_of_block b9).trans hq.told89; have f9 : w4.frozen? ⟨b, 89, none⟩ = false := (World.frozen?_of_block b9).trans (hq.frozen 89))
  all_goals
    have hfin := hq.tell hown' hgrow hat
    have hT : Touch (fun j => j = b ∨ j = eb ∨ (Value.slice ao pr.length cp).ownBlock = some j) w (w4.setCell ⟨b, 89, none⟩ (.slice ao' (pr.length + 1) cp')) := by
      refine Touch.set ?_ (.inl rfl)
      refine Touch.trans (Y := fun j => (Value.slice ao pr.length cp).ownBlock = some j) (Touch.trans (Y := fun _ => False) ((Touch.of_below (Below.refl _ _)).set (b := eb) (i := 4) (v := .int .i64 v) (.inr (.inl rfl))) (Touch.of_below (by rw [size_setCell]; exact HU.out.trans ((below_box U _).drew.mono (by have := HU.out.size; rw [size_setCell] at this; exact this)))) (fun k hk hf => hf.elim)) (Touch.grown hgrow fun k e => e) (fun k hk e => .inr (.inr e))
    go_wp2
    go_ret
    refine ⟨rfl, _, hfin, ?_, hT, ?_⟩
    · rw [Below.heap_setCell _ _ _ _ hne.symm]
      refine (hgrow.block eb ?_ fun e => hpe e.symm).trans ?_
      · have := cell_lt e4; simp; omega
      · exact ((below_box U _).drew.block eb (cell_lt e4)).trans (HU.out.block eb l4)
    · rcases hat with e | e
      · exact .inl e
      · refine .inr ⟨_, e, ?_⟩
        have := HU.out.size
        rw [size_setCell] at this
        simp; omega
end Go.Proofs.Ytfcfdneganknjaa
