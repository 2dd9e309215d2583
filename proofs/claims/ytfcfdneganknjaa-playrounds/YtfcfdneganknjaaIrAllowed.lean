/- What allowed of package ir returns: twelve functions, each of which tells whether a number can be what its word says. -/
import Derived.Test.YtfcfdneganknjaaIrSound1
import Derived.Deep.RegionHeld3
namespace Go.Proofs.Ytfcfdneganknjaa
set_option linter.unusedVariables false
set_option linter.unusedSimpArgs false
open Go.RowKit

/-- A value is the closure that 'from' makes of lo and hi: its two variables lie in blocks from L on. -/
def Clo (w : World) (L : Nat) (f : Value) (lo hi : Int) : Prop :=
  ∃ b1 b2, f = .func (.func 85) #[] #[.pointer (some ⟨b1, 0, none⟩), .pointer (some ⟨b2, 0, none⟩)] ∧ L ≤ b1 ∧ L ≤ b2 ∧ w.cell? ⟨b1, 0, none⟩ = some (.int .i64 lo) ∧ w.cell? ⟨b2, 0, none⟩ = some (.int .i64 hi)
theorem Clo.later {w w' : World} {L : Nat} {f : Value} {lo hi : Int} (h : Clo w L f lo hi) (hB : Below w.heap.size w w') : Clo w' L f lo hi := by
  obtain ⟨b1, b2, rfl, h1, h2, c1, c2⟩ := h
  exact ⟨b1, b2, rfl, h1, h2, (hB.cell (p := ⟨b1, 0, none⟩) (cell_lt c1)).trans c1, (hB.cell (p := ⟨b2, 0, none⟩) (cell_lt c2)).trans c2⟩
theorem Clo.low {w : World} {L L' : Nat} {f : Value} {lo hi : Int} (h : Clo w L f lo hi) (hL : L' ≤ L) : Clo w L' f lo hi := by
  obtain ⟨b1, b2, rfl, h1, h2, c1, c2⟩ := h
  exact ⟨b1, b2, rfl, by omega, by omega, c1, c2⟩

set_option maxHeartbeats 400000 in
theorem allowed1_any (lo hi : Int) (w : World) :
    Calls Try.prog 84 #[.int .i64 lo, .int .i64 hi] w fun e w' => ∃ b1 b2, e = .returned (.func (.func 85) #[] #[.pointer (some ⟨b1, 0, none⟩), .pointer (some ⟨b2, 0, none⟩)]) ∧
      w.heap.size ≤ b1 ∧ w.heap.size ≤ b2 ∧ w'.cell? ⟨b1, 0, none⟩ = some (.int .i64 lo) ∧ w'.cell? ⟨b2, 0, none⟩ = some (.int .i64 hi) ∧ Below w.heap.size w w' := by
  go_enter Try.func84, Try.ntmps84
  go_wp2
  go_ret
  exact ⟨w.heap.size, w.heap.size + 1, rfl, Nat.le_refl _, Nat.le_succ _, by simp, by simp, ((Below.refl _ _).alloc (Nat.le_refl _) _).alloc (by simp) _⟩

set_option maxHeartbeats 400000 in
theorem allowed11_any (n lo hi : Int) (b1 b2 : Nat) (w : World) (h1 : w.cell? ⟨b1, 0, none⟩ = some (.int .i64 lo)) (h2 : w.cell? ⟨b2, 0, none⟩ = some (.int .i64 hi)) (hr : -9223372036854775808 < hi) (hr2 : hi ≤ 9223372036854775807) :
    Calls Try.prog 85 #[.int .i64 n, .pointer (some ⟨b1, 0, none⟩), .pointer (some ⟨b2, 0, none⟩)] w fun e w' => e = .returned (.bool (wiB n lo (hi - 1))) ∧ w = w' := by
  go_enter Try.func85, Try.ntmps85
  go_wp2_with (go_at_call 64; refine (within_any _ _ _ _).mono ?_; rintro e w' ⟨rfl, rfl⟩)
  go_ret
  exact ⟨rfl, rfl⟩

set_option maxHeartbeats 400000 in
theorem allowed2_any (n : Int) (w : World) :
    Calls Try.prog 86 #[.int .i64 n] w fun e w' => e = .returned (.bool true) ∧ w = w' := by
  go_enter Try.func86, Try.ntmps86
  go_wp2
  go_ret
  exact ⟨rfl, rfl⟩

theorem there_later {u u' : World} {b o n : Nat} (h : u.there b o n) (hB : Below u.heap.size u u') : u'.there b o n := fun j hj => by
  obtain ⟨h1, h2⟩ := h j hj
  obtain ⟨v, hv⟩ := Option.isSome_iff_exists.1 h1
  have hb := World.block_lt_of_cell? u _ hv
  exact ⟨by rw [hB.cell (p := ⟨b, o + j, none⟩) hb]; exact h1, by rw [hB.frozen (p := ⟨b, o + j, none⟩) hb]; exact h2⟩
theorem keepS {u u' : World} {B : Nat} {v0 v1 v2 v3 v4 v5 v6 : Value} (h : u.cell? ⟨B, 0, none⟩ = some v0 ∧ u.cell? ⟨B, 1, none⟩ = some v1 ∧ u.cell? ⟨B, 2, none⟩ = some v2 ∧ u.cell? ⟨B, 3, none⟩ = some v3 ∧ u.cell? ⟨B, 4, none⟩ = some v4 ∧ u.cell? ⟨B, 5, none⟩ = some v5 ∧ u.cell? ⟨B, 6, none⟩ = some v6 ∧ u.there (B + 1) 0 12) (hB : Below u.heap.size u u') : u'.cell? ⟨B, 0, none⟩ = some v0 ∧ u'.cell? ⟨B, 1, none⟩ = some v1 ∧ u'.cell? ⟨B, 2, none⟩ = some v2 ∧ u'.cell? ⟨B, 3, none⟩ = some v3 ∧ u'.cell? ⟨B, 4, none⟩ = some v4 ∧ u'.cell? ⟨B, 5, none⟩ = some v5 ∧ u'.cell? ⟨B, 6, none⟩ = some v6 ∧ u'.there (B + 1) 0 12 := by
  obtain ⟨h0, h1, h2, h3, h4, h5, h6, ht⟩ := h
  exact ⟨(hB.cell (p := ⟨B, 0, none⟩) (cell_lt h0)).trans h0, (hB.cell (p := ⟨B, 1, none⟩) (cell_lt h1)).trans h1, (hB.cell (p := ⟨B, 2, none⟩) (cell_lt h2)).trans h2, (hB.cell (p := ⟨B, 3, none⟩) (cell_lt h3)).trans h3, (hB.cell (p := ⟨B, 4, none⟩) (cell_lt h4)).trans h4, (hB.cell (p := ⟨B, 5, none⟩) (cell_lt h5)).trans h5, (hB.cell (p := ⟨B, 6, none⟩) (cell_lt h6)).trans h6, there_later ht hB⟩
theorem keepSet {u : World} {B : Nat} {v0 v1 v2 v3 v4 v5 v6 : Value} {vs : List Value} (h : u.cell? ⟨B, 0, none⟩ = some v0 ∧ u.cell? ⟨B, 1, none⟩ = some v1 ∧ u.cell? ⟨B, 2, none⟩ = some v2 ∧ u.cell? ⟨B, 3, none⟩ = some v3 ∧ u.cell? ⟨B, 4, none⟩ = some v4 ∧ u.cell? ⟨B, 5, none⟩ = some v5 ∧ u.cell? ⟨B, 6, none⟩ = some v6 ∧ u.there (B + 1) 0 12) : (u.setCells (B + 1) 0 vs).cell? ⟨B, 0, none⟩ = some v0 ∧ (u.setCells (B + 1) 0 vs).cell? ⟨B, 1, none⟩ = some v1 ∧ (u.setCells (B + 1) 0 vs).cell? ⟨B, 2, none⟩ = some v2 ∧ (u.setCells (B + 1) 0 vs).cell? ⟨B, 3, none⟩ = some v3 ∧ (u.setCells (B + 1) 0 vs).cell? ⟨B, 4, none⟩ = some v4 ∧ (u.setCells (B + 1) 0 vs).cell? ⟨B, 5, none⟩ = some v5 ∧ (u.setCells (B + 1) 0 vs).cell? ⟨B, 6, none⟩ = some v6 ∧ (u.setCells (B + 1) 0 vs).there (B + 1) 0 12 := by
  obtain ⟨h0, h1, h2, h3, h4, h5, h6, ht⟩ := h
  have hne : ∀ j, (u.setCells (B + 1) 0 vs).cell? ⟨B, j, none⟩ = u.cell? ⟨B, j, none⟩ := fun j => World.cell?_setCells_out (B + 1) vs 0 u ⟨B, j, none⟩ (fun hb _ => by simp at hb)
  exact ⟨(hne 0).trans h0, (hne 1).trans h1, (hne 2).trans h2, (hne 3).trans h3, (hne 4).trans h4, (hne 5).trans h5, (hne 6).trans h6, World.there_setCells ht _ _ _⟩

/-- What allowed's functions ask, word by word: from, and below (none: nothing). -/
def canL (p : ProgD) (n : Nat) : List (Option (Int × Int)) :=
  [some (0, 1), some (0, 4), some (0, 4), none, some (0, (n : Int) + 1), some (1, (p.threads.length : Int)), some (0, p.vars), some (0, p.atoms), some (0, p.locks), some (0, (p.chans.length : Int)), some (0, p.groups), some (0, p.onces)]
def canB : Option (Int × Int) → Int → Bool
  | none, _ => true
  | some (lo, hi), m => wiB m lo (hi - 1)
/-- A value is a function of one number that returns what g says, and leaves the world as it is. -/
def CanFn (w : World) (f : Value) (g : Option (Int × Int)) : Prop :=
  ∃ fn caps, f = .func (.func fn) #[] caps ∧ (∀ m u, (callFunc fn (#[.int .i64 m] ++ caps)).run Try.prog u = .ok (.enter fn (#[.int .i64 m] ++ caps)) u) ∧
    ∀ m w', Below w.heap.size w w' → Calls Try.prog fn (#[.int .i64 m] ++ caps) w' fun e w'' => e = .returned (.bool (canB g m)) ∧ w' = w''
theorem canFn_clo {w : World} {L : Nat} {f : Value} {lo hi : Int} (h : Clo w L f lo hi) (hr : -9223372036854775808 < hi) (hr2 : hi ≤ 9223372036854775807) : CanFn w f (some (lo, hi)) := by
  obtain ⟨b1, b2, rfl, h1, h2, c1, c2⟩ := h
  refine ⟨_, _, rfl, fun m u => by kernel_rfl, fun m w' hB => ?_⟩
  exact allowed11_any m lo hi b1 b2 w' ((hB.cell (p := ⟨b1, 0, none⟩) (cell_lt c1)).trans c1) ((hB.cell (p := ⟨b2, 0, none⟩) (cell_lt c2)).trans c2) hr hr2
theorem canFn_all (w : World) : CanFn w (.func (.func 86) #[] #[]) none :=
  ⟨_, _, rfl, fun m u => by kernel_rfl, fun m w' hB => allowed2_any m w'⟩
theorem CanFn.later {w w' : World} {f : Value} {g : Option (Int × Int)} (h : CanFn w f g) (hB : Below w.heap.size w w') : CanFn w' f g := by
  obtain ⟨fn, caps, rfl, h1, h2⟩ := h
  exact ⟨fn, caps, rfl, h1, fun m u hu => h2 m u (below_next hB hu)⟩
/-- What allowed hands back. -/
structure CansIn (w : World) (p : ProgD) (n : Nat) (fs : List Value) : Prop where
  len : fs.length = 12
  one : ∀ v ∈ fs, Value.oneCell' v = true
  fn : ∀ (j : Nat) (f : Value) (g : Option (Int × Int)), fs[j]? = some f → (canL p n)[j]? = some g → CanFn w f g
theorem CansIn.later {w w' : World} {p : ProgD} {n : Nat} {fs : List Value} (h : CansIn w p n fs) (hB : Below w.heap.size w w') : CansIn w' p n fs :=
  ⟨h.len, h.one, fun j f g hf hg => (h.fn j f g hf hg).later hB⟩
theorem results_cell_range {P : Program} {fn : Func} {p : Tmp} {ty : TypeId} (h : fn.results = #[.cell p ty]) (tmps : Array Value) (w : World) (b : Nat) (cs : List Value) (d : TypeDesc)
    (hp : tmps.getD p undef = .pointer (some ⟨b, 0, none⟩)) (hc : w.rangeAt b 0 cs)
    (hu : P.underlying ty = some d) (hd : d.isRow = true) (hi : (P.info? ty).map (·.size) = some cs.length) :
    (results fn tmps).run P w = .ok (.agg cs.toArray) w := by
  have hp' : tmps[p]?.getD undef = .pointer (some ⟨b, 0, none⟩) := by simpa using hp
  simp [results, h, hp', asAddr, run_loadVar_mid w b 0 ty cs d hc hu hd hi]
theorem Clo.set {w : World} {L : Nat} {f : Value} {lo hi : Int} (h : Clo w L f lo hi) {b : Nat} (hb : b < L) (vs : List Value) : Clo (w.setCells b 0 vs) L f lo hi := by
  obtain ⟨b1, b2, rfl, h1, h2, c1, c2⟩ := h
  exact ⟨b1, b2, rfl, h1, h2, (World.cell?_setCells_out b vs 0 w ⟨b1, 0, none⟩ (fun e _ => by simp at e; omega)).trans c1, (World.cell?_setCells_out b vs 0 w ⟨b2, 0, none⟩ (fun e _ => by simp at e; omega)).trans c2⟩
theorem below_setCells {B : Nat} {a : World} (b : Nat) (hb : B ≤ b) : ∀ (vs : List Value) (o : Nat) (w : World), Below B a w → Below B a (w.setCells b o vs)
  | [], _, _, h => h
  | v :: r, o, w, h => by rw [World.setCells]; exact below_setCells b hb r (o + 1) _ (h.setCell (p := ⟨b, o, none⟩) hb v)
theorem sizes_parts {p : ProgD} (h : sizesB p = true) : (0 ≤ p.vars ∧ p.vars ≤ 8) ∧ (0 ≤ p.atoms ∧ p.atoms ≤ 4) ∧ (0 ≤ p.locks ∧ p.locks ≤ 4) ∧ (0 ≤ p.groups ∧ p.groups ≤ 4) ∧ (0 ≤ p.onces ∧ p.onces ≤ 4) ∧ p.chans.length ≤ 4 ∧ (1 ≤ p.threads.length ∧ p.threads.length ≤ 6) ∧ ∀ c ∈ p.threads, c.length ≤ 60 := by
  unfold sizesB numsB longB at h
  simp only [Bool.and_eq_true, wiB_true, List.all_eq_true, decide_eq_true_eq] at h
  obtain ⟨h0, ⟨⟨⟨⟨⟨h1, h2⟩, h3⟩, h4⟩, h5⟩, h6⟩, h7⟩ := h
  exact ⟨h1, h2, h3, h4, h5, by omega, by omega, h0⟩

theorem info_can : (Try.prog.info? 125).map (·.size) = some 12 := by kernel_rfl

theorem clo_mk {w : World} {L x y : Nat} {lo hi : Int} (h1 : L ≤ x) (h2 : L ≤ y) (c1 : w.cell? ⟨x, 0, none⟩ = some (.int .i64 lo)) (c2 : w.cell? ⟨y, 0, none⟩ = some (.int .i64 hi)) :
    Clo w L (.func (.func 85) #[] #[.pointer (some ⟨x, 0, none⟩), .pointer (some ⟨y, 0, none⟩)]) lo hi := ⟨x, y, rfl, h1, h2, c1, c2⟩

set_option maxRecDepth 100000 in
set_option maxHeartbeats 8000000 in
theorem allowed_any (p : ProgD) (ca : Option Addr) (ccap : Nat) (ta : Option Addr) (tcap n : Nat) (w : World) (hn : n ≤ 60) (hs : sizesB p = true) :
    Calls Try.prog 65 #[p.val ca ccap ta tcap, .int .i64 n] w fun e w' => ∃ fs : List Value, e = .returned (.agg fs.toArray) ∧ CansIn w' p n fs ∧ Below w.heap.size w w' := by
  have HS := Lib.hid hs
  clear hs
  have hi12 : (Try.prog.info? 125).map (·.size) = some 12 := info_can
  have hnw : IntKind.i64.wrap ((n : Int) + 1) = (n : Int) + 1 := IntWalk.i64_in _ (by omega)
  go_enter Try.func65, Try.ntmps65
  go_wp2
  generalize hW : (w.alloc _).alloc _ = W
  have HW := Lib.hid hW
  have c0 : W.cell? ⟨w.heap.size, 0, none⟩ = some (.int .i64 p.vars) := by rw [← hW]; simp
  have c1 : W.cell? ⟨w.heap.size, 1, none⟩ = some (.int .i64 p.atoms) := by rw [← hW]; simp
  have c2 : W.cell? ⟨w.heap.size, 2, none⟩ = some (.int .i64 p.locks) := by rw [← hW]; simp
  have c3 : W.cell? ⟨w.heap.size, 3, none⟩ = some (.slice ca p.chans.length ccap) := by rw [← hW]; simp
  have c4 : W.cell? ⟨w.heap.size, 4, none⟩ = some (.int .i64 p.groups) := by rw [← hW]; simp
  have c5 : W.cell? ⟨w.heap.size, 5, none⟩ = some (.int .i64 p.onces) := by rw [← hW]; simp
  have c6 : W.cell? ⟨w.heap.size, 6, none⟩ = some (.slice ta p.threads.length tcap) := by rw [← hW]; simp
  have ht : W.there (w.heap.size + 1) 0 12 := by
    rw [← hW]
    intro j hj
    have e : (w.alloc (.cells #[Value.int .i64 p.vars, .int .i64 p.atoms, .int .i64 p.locks, .slice ca p.chans.length ccap, .int .i64 p.groups, .int .i64 p.onces, .slice ta p.threads.length tcap] 26)).heap.size = w.heap.size + 1 := by simp
    rw [← e]
    refine ⟨?_, by simp⟩
    rw [cell_of_row _ _ _ _ _ _ (heap_alloc_new _ _)]
    rw [Array.getElem?_eq_getElem (by simp; omega)]; rfl
  have hWB : Below w.heap.size w W := by rw [← hW]; exact ((Below.refl _ _).alloc (Nat.le_refl _) _).alloc (by simp) _
  have hWs : W.heap.size = w.heap.size + 2 := by rw [← hW]; simp
  have HWs := Lib.hid hWs
  clear hW hWs
  go_region_held3 (fun u => u.cell? ⟨w.heap.size, 0, none⟩ = some (.int .i64 p.vars) ∧ u.cell? ⟨w.heap.size, 1, none⟩ = some (.int .i64 p.atoms) ∧ u.cell? ⟨w.heap.size, 2, none⟩ = some (.int .i64 p.locks) ∧ u.cell? ⟨w.heap.size, 3, none⟩ = some (.slice ca p.chans.length ccap) ∧ u.cell? ⟨w.heap.size, 4, none⟩ = some (.int .i64 p.groups) ∧ u.cell? ⟨w.heap.size, 5, none⟩ = some (.int .i64 p.onces) ∧ u.cell? ⟨w.heap.size, 6, none⟩ = some (.slice ta p.threads.length tcap) ∧ u.there (w.heap.size + 1) 0 12) (first | exact keepSet (by assumption) | exact keepS (by assumption) hB11 | exact keepS (by assumption) hB10 | exact keepS (by assumption) hB9 | exact keepS (by assumption) hB8 | exact keepS (by assumption) hB7 | exact keepS (by assumption) hB6 | exact keepS (by assumption) hB5 | exact keepS (by assumption) hB4 | exact keepS (by assumption) hB3 | exact keepS (by assumption) hB2 | exact keepS (by assumption) hB1 | exact ⟨c0, c1, c2, c3, c4, c5, c6, ht⟩)
    (first
      | (go_at_call 84; have _q := hB10; refine (allowed1_any _ _ _).mono ?_; rintro e w11 ⟨x11, y11, rfl, p11, q11, r11, s11, hB11⟩; have hC11 := Lib.hid (clo_mk p11 q11 r11 s11); clear p11 q11 r11 s11; have hone : ∀ v ∈ [.func (.func 85) #[] #[.pointer (some ⟨x1, 0, none⟩), .pointer (some ⟨y1, 0, none⟩)], .func (.func 85) #[] #[.pointer (some ⟨x2, 0, none⟩), .pointer (some ⟨y2, 0, none⟩)], .func (.func 85) #[] #[.pointer (some ⟨x3, 0, none⟩), .pointer (some ⟨y3, 0, none⟩)], .func (.func 86) #[] #[], .func (.func 85) #[] #[.pointer (some ⟨x4, 0, none⟩), .pointer (some ⟨y4, 0, none⟩)], .func (.func 85) #[] #[.pointer (some ⟨x5, 0, none⟩), .pointer (some ⟨y5, 0, none⟩)], .func (.func 85) #[] #[.pointer (some ⟨x6, 0, none⟩), .pointer (some ⟨y6, 0, none⟩)], .func (.func 85) #[] #[.pointer (some ⟨x7, 0, none⟩), .pointer (some ⟨y7, 0, none⟩)], .func (.func 85) #[] #[.pointer (some ⟨x8, 0, none⟩), .pointer (some ⟨y8, 0, none⟩)], .func (.func 85) #[] #[.pointer (some ⟨x9, 0, none⟩), .pointer (some ⟨y9, 0, none⟩)], .func (.func 85) #[] #[.pointer (some ⟨x10, 0, none⟩), .pointer (some ⟨y10, 0, none⟩)], .func (.func 85) #[] #[.pointer (some ⟨x11, 0, none⟩), .pointer (some ⟨y11, 0, none⟩)]], Value.oneCell' v = true := (by simp [Value.oneCell']))
      | (go_at_call 84; have _q := hB9; refine (allowed1_any _ _ _).mono ?_; rintro e w10 ⟨x10, y10, rfl, p10, q10, r10, s10, hB10⟩; have hC10 := Lib.hid (clo_mk p10 q10 r10 s10); clear p10 q10 r10 s10)
      | (go_at_call 84; have _q := hB8; refine (allowed1_any _ _ _).mono ?_; rintro e w9 ⟨x9, y9, rfl, p9, q9, r9, s9, hB9⟩; have hC9 := Lib.hid (clo_mk p9 q9 r9 s9); clear p9 q9 r9 s9)
      | (go_at_call 84; have _q := hB7; refine (allowed1_any _ _ _).mono ?_; rintro e w8 ⟨x8, y8, rfl, p8, q8, r8, s8, hB8⟩; have hC8 := Lib.hid (clo_mk p8 q8 r8 s8); clear p8 q8 r8 s8)
      | (go_at_call 84; have _q := hB6; refine (allowed1_any _ _ _).mono ?_; rintro e w7 ⟨x7, y7, rfl, p7, q7, r7, s7, hB7⟩; have hC7 := Lib.hid (clo_mk p7 q7 r7 s7); clear p7 q7 r7 s7)
      | (go_at_call 84; have _q := hB5; refine (allowed1_any _ _ _).mono ?_; rintro e w6 ⟨x6, y6, rfl, p6, q6, r6, s6, hB6⟩; have hC6 := Lib.hid (clo_mk p6 q6 r6 s6); clear p6 q6 r6 s6)
      | (go_at_call 84; have _q := hB4; refine (allowed1_any _ _ _).mono ?_; rintro e w5 ⟨x5, y5, rfl, p5, q5, r5, s5, hB5⟩; have hC5 := Lib.hid (clo_mk p5 q5 r5 s5); clear p5 q5 r5 s5)
      | (go_at_call 84; have _q := hB3; refine (allowed1_any _ _ _).mono ?_; rintro e w4 ⟨x4, y4, rfl, p4, q4, r4, s4, hB4⟩; have hC4 := Lib.hid (clo_mk p4 q4 r4 s4); clear p4 q4 r4 s4)
      | (go_at_call 84; have _q := hB2; refine (allowed1_any _ _ _).mono ?_; rintro e w3 ⟨x3, y3, rfl, p3, q3, r3, s3, hB3⟩; have hC3 := Lib.hid (clo_mk p3 q3 r3 s3); clear p3 q3 r3 s3)
      | (go_at_call 84; have _q := hB1; refine (allowed1_any _ _ _).mono ?_; rintro e w2 ⟨x2, y2, rfl, p2, q2, r2, s2, hB2⟩; have hC2 := Lib.hid (clo_mk p2 q2 r2 s2); clear p2 q2 r2 s2)
      | (go_at_call 84; refine (allowed1_any _ _ _).mono ?_; rintro e w1 ⟨x1, y1, rfl, p1, q1, r1, s1, hB1⟩; have hC1 := Lib.hid (clo_mk p1 q1 r1 s1); clear p1 q1 r1 s1))
  go_wp2
  have hT := there_later (there_later (there_later (there_later (there_later (there_later (there_later (there_later (there_later (there_later (there_later (show W.drew.there (w.heap.size + 1) 0 12 from ht) hB1) hB2) hB3) hB4) hB5) hB6) hB7) hB8) hB9) hB10) hB11
  obtain ⟨z1, z2, z3, z4, z5, z6, z7, _⟩ := sizes_parts HS.out
  have h2 := below_next hB1 hB2
  have h3 := below_next h2 hB3
  have h4 := below_next h3 hB4
  have h5 := below_next h4 hB5
  have h6 := below_next h5 hB6
  have h7 := below_next h6 hB7
  have h8 := below_next h7 hB8
  have h9 := below_next h8 hB9
  have h10 := below_next h9 hB10
  have h11 := below_next h10 hB11
  have hDB : Below w.heap.size w w11 := (hWB.drew).trans (h11.mono (by have := hWB.size; simpa using this))
  have hWs : W.heap.size = w.heap.size + 2 := HWs.out
  have hDs : W.drew.heap.size = w.heap.size + 2 := hWs
  have k1 := (((((((((((hC1.out.later hB2).later hB3).later hB4).later hB5).later hB6).later hB7).later hB8).later hB9).later hB10).later hB11)).low (L' := w.heap.size + 2) (by omega)
  have k2 := ((((((((((hC2.out.later hB3).later hB4).later hB5).later hB6).later hB7).later hB8).later hB9).later hB10).later hB11)).low (L' := w.heap.size + 2) (by have := hB1.size; omega)
  have k3 := (((((((((hC3.out.later hB4).later hB5).later hB6).later hB7).later hB8).later hB9).later hB10).later hB11)).low (L' := w.heap.size + 2) (by have := h2.size; omega)
  have k4 := ((((((((hC4.out.later hB5).later hB6).later hB7).later hB8).later hB9).later hB10).later hB11)).low (L' := w.heap.size + 2) (by have := h3.size; omega)
  have k5 := (((((((hC5.out.later hB6).later hB7).later hB8).later hB9).later hB10).later hB11)).low (L' := w.heap.size + 2) (by have := h4.size; omega)
  have k6 := ((((((hC6.out.later hB7).later hB8).later hB9).later hB10).later hB11)).low (L' := w.heap.size + 2) (by have := h5.size; omega)
  have k7 := (((((hC7.out.later hB8).later hB9).later hB10).later hB11)).low (L' := w.heap.size + 2) (by have := h6.size; omega)
  have k8 := ((((hC8.out.later hB9).later hB10).later hB11)).low (L' := w.heap.size + 2) (by have := h7.size; omega)
  have k9 := (((hC9.out.later hB10).later hB11)).low (L' := w.heap.size + 2) (by have := h8.size; omega)
  have k10 := ((hC10.out.later hB11)).low (L' := w.heap.size + 2) (by have := h9.size; omega)
  have k11 := (hC11.out).low (L' := w.heap.size + 2) (by have := h10.size; omega)
  refine bodyPost_ret (v := .agg (List.toArray _)) (results_cell_range rfl _ _ (w.heap.size + 1) _ _ rfl (World.rangeAt_setCells_same _ _ _ _ hT) Try.underlying125 rfl info_can) rfl ⟨_, rfl, ⟨rfl, hone, ?_⟩, below_setCells _ (by omega) _ _ _ hDB⟩
  intro j f g hf hg
  match j, hf, hg with
  | 0, hf, hg => cases hf; cases hg; exact canFn_clo (k1.set (b := w.heap.size + 1) (by omega) _) (by omega) (by omega)
  | 1, hf, hg => cases hf; cases hg; exact canFn_clo (k2.set (b := w.heap.size + 1) (by omega) _) (by omega) (by omega)
  | 2, hf, hg => cases hf; cases hg; exact canFn_clo (k3.set (b := w.heap.size + 1) (by omega) _) (by omega) (by omega)
  | 3, hf, hg => cases hf; cases hg; exact canFn_all _
  | 4, hf, hg => cases hf; cases hg; exact canFn_clo (k4.set (b := w.heap.size + 1) (by omega) _) (by omega) (by omega)
  | 5, hf, hg => cases hf; cases hg; exact canFn_clo (k5.set (b := w.heap.size + 1) (by omega) _) (by omega) (by omega)
  | 6, hf, hg => cases hf; cases hg; exact canFn_clo (k6.set (b := w.heap.size + 1) (by omega) _) (by omega) (by omega)
  | 7, hf, hg => cases hf; cases hg; exact canFn_clo (k7.set (b := w.heap.size + 1) (by omega) _) (by omega) (by omega)
  | 8, hf, hg => cases hf; cases hg; exact canFn_clo (k8.set (b := w.heap.size + 1) (by omega) _) (by omega) (by omega)
  | 9, hf, hg => cases hf; cases hg; exact canFn_clo (k9.set (b := w.heap.size + 1) (by omega) _) (by omega) (by omega)
  | 10, hf, hg => cases hf; cases hg; exact canFn_clo (k10.set (b := w.heap.size + 1) (by omega) _) (by omega) (by omega)
  | 11, hf, hg => cases hf; cases hg; exact canFn_clo (k11.set (b := w.heap.size + 1) (by omega) _) (by omega) (by omega)
  | j + 12, hf, hg => simp at hf

end Go.Proofs.Ytfcfdneganknjaa
