/- Steps, and what they leave alone; what a state tells; the example that each law begins with. -/
import Derived.Test.YtjlbbfkllckkgaaStateNew
import Derived.Test.YtjlbbfkllckkgaaStateTell
namespace Go.Proofs.Ytjlbbfkllckkgaa
set_option linter.unusedVariables false
set_option linter.unusedSimpArgs false
set_option maxRecDepth 100000
open Go.ChangeShapes Go.WideShapes Go.ChangeAt Go.RowKit

theorem st_step {w : World} {b lo hi : Nat} {pv : Value} {m : Nat → Int} {code : List (List InsD)} {pr : List Int} (S : StIn w b lo hi pv m code pr) (I : Inv m code) (hpl : pr.length ≤ 1000000) (k : Int) :
    Calls Try.prog 12 #[.pointer (some ⟨b, 0, none⟩), .int .i64 k] w fun e w' => e = .returned (.tuple #[stepV code m k, .bool (canM code m k)]) ∧ Inv (stepM code m k) code ∧ (canM code m k = false → Below w.heap.size w w') ∧ ∃ pv', StIn w' b lo hi pv' (stepM code m k) code (pr ++ stepT code m k) ∧ Touch (fun j => j = b ∨ pv.ownBlock = some j) w w' ∧ (pv'.ownBlock = pv.ownBlock ∨ ∃ g, pv'.ownBlock = some g ∧ w.heap.size ≤ g) := by
  have I' := inv_stepM I S.len k
  rcases hc : canM code m k with _ | _
  · refine (step_no k w S I hc).mono ?_
    rintro e w' ⟨rfl, hB⟩
    simp only [stepM, stepT, stepV, hc, Bool.false_eq_true, if_false, List.append_nil] at I' ⊢
    exact ⟨trivial, I', fun _ => hB, pv, S.later hB, Touch.of_below hB, .inl rfl⟩
  · obtain ⟨j, x, rfl, hj, hx, hbl, _⟩ := canM_parts hc
    rcases hq : code[j]? with _ | ck
    · simp [insM, hq] at hx
    obtain ⟨p, hp, hpl2⟩ := I.pc j ck hq
    have hx2 := hx
    simp only [insM, hq, Option.bind_some] at hx2
    have h60 := S.lens ck (List.mem_of_getElem? hq)
    refine (step_yes j p x w S I hpl hj hc hx hp (by omega) ⟨_, I.fit j ck hq x (List.mem_of_getElem? hx2)⟩ hbl).mono ?_
    rintro e w' ⟨rfl, pv', S', T', ho⟩
    simp only [stepM, stepT, stepV, hc, if_true, Int.toNat_natCast, hx] at I' ⊢
    exact ⟨trivial, I', by simp, pv', S', T', ho⟩
theorem Rn.step2 {u0 u u' : World} {b lo : Nat} {m : Nat → Int} {code : List (List InsD)} {pr : List Int} (h : Rn u0 u b lo m code pr) (hB : Below u.heap.size u u') (hpl : pr.length ≤ 1000000) (k : Int) :
    Calls Try.prog 12 #[.pointer (some ⟨b, 0, none⟩), .int .i64 k] u' fun e w' => e = .returned (.tuple #[stepV code m k, .bool (canM code m k)]) ∧ Rn u0 w' b lo (stepM code m k) code (pr ++ stepT code m k) ∧ (∀ j, u.heap.size ≤ j → j < u'.heap.size → w'.heap[j]? = u'.heap[j]?) := by
  obtain ⟨pv, S, I, hb, T⟩ := h
  refine (st_step (S.later hB) I hpl k).mono ?_
  rintro e w' ⟨rfl, I', _, pv', S', T', ho⟩
  refine ⟨rfl, ⟨pv', S', I', hb, (T.trans (Touch.of_below (X := fun j => j = b) hB) (fun _ _ h => h)).trans T' fun i hi => ?_⟩, fun j h1 h2 => T'.block j h2 ?_⟩
  · rintro (e | e)
    · exact e
    · have := (own_lt S.own _ e).2; omega
  · rintro (e | e)
    · have := S.lt; omega
    · have := (own_lt S.own _ e).1; omega
theorem Rn.len {u0 u : World} {b lo : Nat} {m : Nat → Int} {code : List (List InsD)} {pr : List Int} (h : Rn u0 u b lo m code pr) : code.length ≤ 6 := by
  obtain ⟨pv, S, _⟩ := h; exact S.len
theorem Rn.inv {u0 u : World} {b lo : Nat} {m : Nat → Int} {code : List (List InsD)} {pr : List Int} (h : Rn u0 u b lo m code pr) : Inv m code := by
  obtain ⟨pv, S, I, _⟩ := h; exact I
theorem Rn.size {u0 u : World} {b lo : Nat} {m : Nat → Int} {code : List (List InsD)} {pr : List Int} (h : Rn u0 u b lo m code pr) : u0.heap.size ≤ u.heap.size := by
  obtain ⟨pv, S, I, _, T⟩ := h; exact T.size
theorem Rn.kept {u0 u : World} {b lo : Nat} {m : Nat → Int} {code : List (List InsD)} {pr : List Int} (h : Rn u0 u b lo m code pr) {j : Nat} (hj : j < u0.heap.size) (hb : j ≠ b) : u.heap[j]? = u0.heap[j]? := by
  obtain ⟨pv, S, I, _, T⟩ := h; exact T.block j hj hb
theorem Rn.status {u0 u : World} {b lo : Nat} {m : Nat → Int} {code : List (List InsD)} {pr : List Int} (h : Rn u0 u b lo m code pr) :
    Calls Try.prog 14 #[.pointer (some ⟨b, 0, none⟩)] u fun e w' => e = .returned (.int .u8 (statusM code m)) ∧ Below u.heap.size u w' := by
  obtain ⟨pv, S, I, _⟩ := h; exact status_any u S I
theorem Rn.prints {u0 u : World} {b lo : Nat} {m : Nat → Int} {code : List (List InsD)} {pr : List Int} (h : Rn u0 u b lo m code pr) (hpl : pr.length ≤ 1000000) :
    Calls Try.prog 15 #[.pointer (some ⟨b, 0, none⟩)] u fun e w' => ∃ v, e = .returned v ∧ w'.ownsRow u.heap.size 3 1 v pr.length (pr.map (.int .i64 ·)) ∧ Below u.heap.size u w' := by
  obtain ⟨pv, S, I, _⟩ := h; exact prints_any u S (by omega)
/-- Where a thread is, as it is told. -/
def pcM (code : List (List InsD)) (m : Nat → Int) (k : Int) : Int := if hasT code.length k then m (1 + k.toNat * 6 + 1) else 0
theorem st_pc {w : World} {b lo hi : Nat} {pv : Value} {m : Nat → Int} {code : List (List InsD)} {pr : List Int} (S : StIn w b lo hi pv m code pr) (k : Int) :
    Calls Try.prog 13 #[.pointer (some ⟨b, 0, none⟩), .int .i64 k] w fun e w' => e = .returned (.int .i64 (pcM code m k)) ∧ w = w' := by
  obtain ⟨a, cap, hc, hR⟩ := S.codeC
  rcases hh : hasT code.length k with _ | _
  · simpa [pcM, hh] using pc_no b _ a cap k w hc hh
  · obtain ⟨j, rfl, hj⟩ := hasT_yes hh
    have := S.len
    simpa [pcM, hh] using pc_yes b _ a cap j _ w hc hj S.len (S.pc j (by omega))
theorem Rn.pc {u0 u : World} {b lo : Nat} {m : Nat → Int} {code : List (List InsD)} {pr : List Int} (h : Rn u0 u b lo m code pr) (k : Int) :
    Calls Try.prog 13 #[.pointer (some ⟨b, 0, none⟩), .int .i64 k] u fun e w' => e = .returned (.int .i64 (pcM code m k)) ∧ u = w' := by
  obtain ⟨pv, S, I, _⟩ := h; exact st_pc S k
theorem Rn.reg {u0 u : World} {b lo : Nat} {m : Nat → Int} {code : List (List InsD)} {pr : List Int} (h : Rn u0 u b lo m code pr) {k r : Nat} (hk : k < code.length) (hr : r < 4) :
    Calls Try.prog 16 #[.pointer (some ⟨b, 0, none⟩), .int .i64 k, .int .i64 r] u fun e w' => e = .returned (.int .i64 (m (rg k r))) ∧ u = w' := by
  obtain ⟨pv, S, I, _⟩ := h
  obtain ⟨a, cap, hc, hR⟩ := S.codeC
  have := S.len
  exact reg_yes b _ a cap k r _ u hc hk S.len hr (S.reg k r (by omega) hr)

/-- The numbers behind picks; what was told. -/
def runM (code : List (List InsD)) : List Int → (Nat → Int) → Nat → Int
  | [], m => m
  | k :: l, m => runM code l (stepM code m k)
def runT (code : List (List InsD)) : List Int → (Nat → Int) → List Int
  | [], _ => []
  | k :: l, m => stepT code m k ++ runT code l (stepM code m k)
theorem runM_snoc (code : List (List InsD)) : ∀ (l : List Int) (m : Nat → Int) (k : Int), runM code (l ++ [k]) m = stepM code (runM code l m) k
  | [], m, k => rfl
  | x :: l, m, k => by simp only [List.cons_append, runM]; exact runM_snoc code l _ k
theorem runT_snoc (code : List (List InsD)) : ∀ (l : List Int) (m : Nat → Int) (k : Int), runT code (l ++ [k]) m = runT code l m ++ stepT code (runM code l m) k
  | [], m, k => by simp [runT, runM]
  | x :: l, m, k => by simp only [List.cons_append, runT, runM, List.append_assoc]; rw [runT_snoc code l _ k]
theorem runT_len (code : List (List InsD)) : ∀ (l : List Int) (m : Nat → Int), (runT code l m).length ≤ l.length
  | [], m => by simp [runT]
  | x :: l, m => by
    have h1 := stepT_len code m x
    have h2 := runT_len code l (stepM code m x)
    simp only [runT, List.length_append, List.length_cons]; omega
theorem inv_runM {code : List (List InsD)} (hl : code.length ≤ 6) : ∀ (l : List Int) {m : Nat → Int}, Inv m code → Inv (runM code l m) code
  | [], _, h => h
  | k :: l, _, h => inv_runM hl l (inv_stepM h hl k)
theorem runM_take {code : List (List InsD)} {l : List Int} {m : Nat → Int} {i : Nat} {x : Int} (h : l[i]? = some x) : runM code (l.take (i + 1)) m = stepM code (runM code (l.take i) m) x := by
  rw [List.take_add_one, h]; exact runM_snoc _ _ _ _
theorem runT_take {code : List (List InsD)} {l : List Int} {m : Nat → Int} {i : Nat} {x : Int} (h : l[i]? = some x) : runT code (l.take (i + 1)) m = runT code (l.take i) m ++ stepT code (runM code (l.take i) m) x := by
  rw [List.take_add_one, h]; exact runT_snoc _ _ _ _
/-- A row of numbers of the call's own: its slice, its cells. -/
theorem own_cells {u : World} {B : Nat} {v : Value} {l : List Int} (h : u.ownsRow B 3 1 v l.length (l.map (.int .i64 ·))) : ∃ a cap, v = .slice a l.length cap ∧ ∀ i x, l[i]? = some x → ∃ g, a = some ⟨g, 0, none⟩ ∧ B ≤ g ∧ g < u.heap.size ∧ u.cell? ⟨g, i, none⟩ = some (.int .i64 x) := by
  rcases h.2 with ⟨rfl, h0⟩ | ⟨g, cap, cur, rfl, hb, hh, hle, hcap, hsz, ht⟩
  · refine ⟨none, 0, by rw [h0], fun i x hx => ?_⟩
    have := (List.getElem?_eq_some_iff.1 hx).1; omega
  · refine ⟨_, cap, rfl, fun i x hx => ⟨g, rfl, hb, (Array.getElem?_eq_some_iff.1 hh).1, ?_⟩⟩
    have hi := (List.getElem?_eq_some_iff.1 hx).1
    have e : (l.map (Value.int .i64 ·))[i]? = some (.int .i64 x) := by rw [List.getElem?_map, hx]; rfl
    rw [cell_of_row _ _ _ _ _ _ hh]
    rw [← ht, List.getElem?_take_of_lt (by omega)] at e
    simpa using e
end Go.Proofs.Ytjlbbfkllckkgaa

namespace Go.Proofs.Ytjlbbfkllckkgaa
set_option linter.unusedVariables false
set_option linter.unusedSimpArgs false
set_option maxRecDepth 100000
open Go.ChangeShapes Go.WideShapes Go.ChangeAt Go.RowKit

/-- Code that was laid as a literal. -/
theorem code_lit {u : World} {h : Nat} {c : List InsD} {t : TypeId} {fr : Nat × Nat} (hh : u.heap[h]? = some (.cells (codeCells c).toArray t fr)) : CodeIn u u.heap.size (some ⟨h, 0, none⟩) c := by
  intro j x hx
  refine ⟨h, 0, rfl, (Array.getElem?_eq_some_iff.1 hh).1, ?_⟩
  have key : ∀ i, i < 4 → u.cell? ⟨h, 0 + j * 4 + i, none⟩ = (insCells x)[i]? := fun i hi => by
    rw [cell_of_row _ _ _ _ _ _ hh, ← codeCells_at c j x hx i hi, Nat.zero_add]; simp
  refine ⟨?_, ?_, ?_, ?_⟩
  · have := key 0 (by omega); simpa [insCells] using this
  · have := key 1 (by omega); simpa [insCells] using this
  · have := key 2 (by omega); simpa [insCells] using this
  · have := key 3 (by omega); simpa [insCells] using this
theorem threads_lit {u : World} {g : Nat} {cs : List (List InsD)} {vs : List Value} {t : TypeId} {fr : Nat × Nat} (hg : u.heap[g]? = some (.cells vs.toArray t fr))
    (h : ∀ (k : Nat) (c : List InsD), cs[k]? = some c → ∃ a' cap', vs[k]? = some (.slice a' c.length cap') ∧ CodeIn u u.heap.size a' c) : ThreadsIn u u.heap.size (some ⟨g, 0, none⟩) cs := by
  intro k c hc
  obtain ⟨a', cap', h1, h2⟩ := h k c hc
  refine ⟨g, 0, rfl, (Array.getElem?_eq_some_iff.1 hg).1, a', cap', ?_, h2⟩
  rw [cell_of_row _ _ _ _ _ _ hg, Nat.zero_add]; simpa using h1

def kCode : List (List InsD) := [[⟨1, 0, 7, 0⟩, ⟨9, 0, 0, 0⟩]]
def kD : ProgD := { vars := 0, atoms := 0, locks := 0, chans := [], groups := 0, onces := 0, threads := kCode }
def kM : Nat → Int := newM []
def kM1 : Nat → Int := stepM kCode kM 0
def kM2 : Nat → Int := stepM kCode kM1 0
theorem kD_sound : soundE kD = 0 := by decide
theorem k_v1 : stepV kCode kM 0 = evV 0 0 1 0 0 0 := by kernel_rfl
theorem k_c1 : canM kCode kM 0 = true := by kernel_rfl
theorem k_t1 : stepT kCode kM 0 = [] := by kernel_rfl
theorem k_v2 : stepV kCode kM1 0 = evV 0 1 9 0 7 0 := by kernel_rfl
theorem k_c2 : canM kCode kM1 0 = true := by kernel_rfl
theorem k_t2 : stepT kCode kM1 0 = [7] := by kernel_rfl
theorem k_status : statusM kCode kM2 = 1 := by kernel_rfl
theorem k_reg : kM2 3 = 7 := by kernel_rfl
theorem k_pc : kM2 2 = 2 := by kernel_rfl
theorem k_in (u : World) {g h : Nat} (h1 : u.heap[h]? = some (.cells #[.int .u8 1, .int .i64 0, .int .i64 7, .int .i64 0, .int .u8 9, .int .i64 0, .int .i64 0, .int .i64 0] 24)) (h2 : u.heap[g]? = some (.cells #[.slice (some ⟨h, 0, none⟩) 2 2] 25)) : ProgIn u u.heap.size kD none (some ⟨g, 0, none⟩) := by
  refine ⟨fun i x hx => by simp [kD] at hx, threads_lit (vs := [.slice (some ⟨h, 0, none⟩) 2 2]) h2 fun k c hc => ?_, by decide, by decide⟩
  rcases k with _ | k
  · obtain rfl := Option.some.inj (show some _ = some c from hc)
    exact ⟨_, 2, rfl, code_lit h1⟩
  · simp [kD, kCode] at hc

set_option maxHeartbeats 2000000 in
theorem known4_any (w : World) : Calls Try.prog 10 #[] w fun e w' => e = .returned (.bool true) ∧ Below w.heap.size w w' := by
  go_enter Try.func10, Try.ntmps10
  go_wp2_with fail
  generalize hU : World.alloc (World.alloc w _) _ = U
  have hB1 : Below w.heap.size w U := by rw [← hU]; exact ((Below.refl _ _).alloc (Nat.le_refl _) _).alloc (by simp) _
  have hP : ProgIn U U.heap.size kD none (some ⟨w.heap.size + 1, 0, none⟩) := by rw [← hU]; exact k_in _ (h := w.heap.size) (Below.heap_alloc _ _ _ (by simp) |>.trans (heap_alloc_new _ _)) (heap_alloc2_new _ _ _)
  refine (new_yes kD none 0 (some ⟨w.heap.size + 1, 0, none⟩) 1 U hP kD_sound).mono ?_
  rintro e w2 ⟨b, rfl, hB2, hb, S⟩
  have HB2 := Lib.hid (hB1.trans (hB2.mono hB1.size))
  have HS := Lib.hid S
  have hb2 : w.heap.size ≤ b := Nat.le_trans hB1.size hb
  clear hU hB1 hP hB2 S hb
  go_wp2_with (first
    | (go_at_call 19; refine (copy_any w2 HS.out (by simp)).mono ?_; rintro e w3 ⟨rfl, hB3, _⟩; have HR := Lib.hid (Rn.start (HS.out.later hB3) (inv_new kD_sound) (by omega)); have HB3 := Lib.hid (below_next HB2.out hB3); clear hB3)
    | (go_at_call 12; refine (HR.out.step (by simp) 0).mono ?_; rintro e w4 ⟨rfl, hR4, _⟩; rw [show stepV kD.threads (newM kD.chans) 0 = evV 0 0 1 0 0 0 from k_v1, show canM kD.threads (newM kD.chans) 0 = true from k_c1]; rw [show stepT kD.threads (newM kD.chans) 0 = [] from k_t1] at hR4; have HR4 := Lib.hid hR4; clear hR4 HR))
  refine (HR4.out.step2 (below_box w4 _) (by simp) 0).mono ?_
  rintro e w5 ⟨rfl, hR5, hk5⟩
  rw [show stepV kD.threads (stepM kD.threads (newM kD.chans) 0) 0 = evV 0 1 9 0 7 0 from k_v2, show canM kD.threads (stepM kD.threads (newM kD.chans) 0) 0 = true from k_c2]
  rw [show stepT kD.threads (stepM kD.threads (newM kD.chans) 0) 0 = [7] from k_t2] at hR5
  have hev1 := (hk5 w4.heap.size (Nat.le_refl _) (by simp)).trans (heap_alloc_new w4 _)
  have HE1 := Lib.hid hev1
  have HR5 := Lib.hid hR5
  clear hR5 hk5 hev1
  go_wp2_with fail
  have hR6 := HR5.out.later (below_box w5 (.cells #[.int .i64 0, .int .i64 1, .int .u8 9, .int .i64 0, .int .i64 7, .int .i64 0] 35))
  refine (hR6.prints (by simp)).mono ?_
  rintro e w6 ⟨v, rfl, hown, hB6⟩
  have hl1 := (Array.getElem?_eq_some_iff.1 HE1.out).1
  have hev1 := ((hB6.block w4.heap.size (by simp; omega)).trans (Below.heap_alloc _ _ _ hl1)).trans HE1.out
  have hev2 := (hB6.block w5.heap.size (by simp)).trans (heap_alloc_new w5 _)
  obtain ⟨va, vc, rfl, hcells⟩ := own_cells hown
  obtain ⟨vg, rfl, _, _, hv0⟩ := hcells 0 7 rfl
  have HR6 := Lib.hid (hR6.later hB6)
  have hw0 : w.heap.size ≤ w5.heap.size := Nat.le_trans HB3.out.size HR5.out.size
  have HB6 := Lib.hid (show Below w.heap.size w w6 from ((HR5.out.below HB3.out hb2).trans ((below_box w5 _).mono hw0)).trans (hB6.mono (by simp; omega)))
  obtain ⟨a0, a1, a2, a3, a4, a5⟩ := cells6 hev1
  obtain ⟨b0, b1, b2, b3, b4, b5⟩ := cells6 hev2
  clear hR6 hown hB6 hcells hev1 hev2 HR4 HR5 HE1
  go_wp2_with (first
    | (go_at_call 14; refine HR6.out.status.mono ?_; rintro e w7 ⟨rfl, hB7⟩; rw [show statusM kD.threads (stepM kD.threads (stepM kD.threads (newM kD.chans) 0) 0) = 1 from k_status]; have HR7 := Lib.hid (HR6.out.later hB7); have HB7 := Lib.hid (below_next HB6.out hB7); clear hB7)
    | (go_at_call 16; refine (HR7.out.reg (k := 0) (r := 0) (by decide) (by decide)).mono ?_; rintro e w8 ⟨rfl, rfl⟩; rw [show stepM kD.threads (stepM kD.threads (newM kD.chans) 0) 0 (rg 0 0) = 7 from k_reg])
    | (go_at_call 13; refine (HR7.out.pc 0).mono ?_; rintro e w9 ⟨rfl, rfl⟩; rw [show pcM kD.threads (stepM kD.threads (stepM kD.threads (newM kD.chans) 0) 0) 0 = 2 from k_pc])
    | (go_at_call 9; refine (new_no ⟨0, 0, 0, [], 0, 0, []⟩ none 0 none 0 _ ⟨fun i x hx => by simp at hx, fun k c hc => by simp at hc, by decide, by decide⟩ (by decide)).mono ?_; rintro e w10 ⟨rfl, hB10⟩))
  go_ret
  exact ⟨rfl, below_next HB7.out hB10⟩
end Go.Proofs.Ytjlbbfkllckkgaa
