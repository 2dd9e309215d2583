/- What the laws of this seat stand on, part 3. -/
import Derived.Test.YtglafbajbiengaaGreatPa0
import Derived.Test.YtglafbajbiengaaGreatPa2
set_option linter.unusedVariables false
set_option linter.unusedSimpArgs false
set_option maxRecDepth 100000
set_option maxHeartbeats 40000000
namespace Go.Proofs.YtglafbajbiengaaGreat
open Go.RowKit
/-- A value is the closure that 'from' makes of lo and hi: its two variables lie in blocks from L on. -/
def Clo (w : World) (L : Nat) (f : Value) (lo hi : Int) : Prop :=
  ∃ b1 b2, f = .func (.func 118) #[] #[.pointer (some ⟨b1, 0, none⟩), .pointer (some ⟨b2, 0, none⟩)] ∧ L ≤ b1 ∧ L ≤ b2 ∧ w.cell? ⟨b1, 0, none⟩ = some (.int .i64 lo) ∧ w.cell? ⟨b2, 0, none⟩ = some (.int .i64 hi)
theorem Clo.later {w w' : World} {L : Nat} {f : Value} {lo hi : Int} (h : Clo w L f lo hi) (hB : Below w.heap.size w w') : Clo w' L f lo hi := by
  obtain ⟨b1, b2, rfl, h1, h2, c1, c2⟩ := h
  exact ⟨b1, b2, rfl, h1, h2, (hB.cell (p := ⟨b1, 0, none⟩) (cell_lt c1)).trans c1, (hB.cell (p := ⟨b2, 0, none⟩) (cell_lt c2)).trans c2⟩
theorem Clo.low {w : World} {L L' : Nat} {f : Value} {lo hi : Int} (h : Clo w L f lo hi) (hL : L' ≤ L) : Clo w L' f lo hi := by
  obtain ⟨b1, b2, rfl, h1, h2, c1, c2⟩ := h
  exact ⟨b1, b2, rfl, by omega, by omega, c1, c2⟩
theorem allowed1_any (lo hi : Int) (w : World) :
    Calls Tryz.prog 117 #[.int .i64 lo, .int .i64 hi] w fun e w' => ∃ b1 b2, e = .returned (.func (.func 118) #[] #[.pointer (some ⟨b1, 0, none⟩), .pointer (some ⟨b2, 0, none⟩)]) ∧
      w.heap.size ≤ b1 ∧ w.heap.size ≤ b2 ∧ w'.cell? ⟨b1, 0, none⟩ = some (.int .i64 lo) ∧ w'.cell? ⟨b2, 0, none⟩ = some (.int .i64 hi) ∧ Below w.heap.size w w' := by
  go_enter Tryz.func117, Tryz.ntmps117
  go_wp2
  go_ret
  exact ⟨w.heap.size, w.heap.size + 1, rfl, Nat.le_refl _, Nat.le_succ _, by simp, by simp, ((Below.refl _ _).alloc (Nat.le_refl _) _).alloc (by simp) _⟩
theorem allowed11_any (n lo hi : Int) (b1 b2 : Nat) (w : World) (h1 : w.cell? ⟨b1, 0, none⟩ = some (.int .i64 lo)) (h2 : w.cell? ⟨b2, 0, none⟩ = some (.int .i64 hi)) (hr : -9223372036854775808 < hi) (hr2 : hi ≤ 9223372036854775807) :
    Calls Tryz.prog 118 #[.int .i64 n, .pointer (some ⟨b1, 0, none⟩), .pointer (some ⟨b2, 0, none⟩)] w fun e w' => e = .returned (.bool (wiB n lo (hi - 1))) ∧ w = w' := by
  go_enter Tryz.func118, Tryz.ntmps118
  go_wp2_with (go_at_call 86; refine (within_any _ _ _ _).mono ?_; rintro e w' ⟨rfl, rfl⟩)
  go_ret
  exact ⟨rfl, rfl⟩
theorem allowed2_any (n : Int) (w : World) :
    Calls Tryz.prog 119 #[.int .i64 n] w fun e w' => e = .returned (.bool true) ∧ w = w' := by
  go_enter Tryz.func119, Tryz.ntmps119
  go_wp2
  go_ret
  exact ⟨rfl, rfl⟩
theorem there_later {u u' : World} {b o n : Nat} (h : u.there b o n) (hB : Below u.heap.size u u') : u'.there b o n := fun j hj => by
  obtain ⟨h1, h2⟩ := h j hj
  obtain ⟨v, hv⟩ := Option.isSome_iff_exists.1 h1
  have hb := World.block_lt_of_cell? u _ hv
  exact ⟨by rw [hB.cell (p := ⟨b, o + j, none⟩) hb]; exact h1, by rw [hB.frozen (p := ⟨b, o + j, none⟩) hb]; exact h2⟩
theorem keepS {u u' : World} {B : Nat} {v0 v1 v2 v3 v4 v5 v6 : Value} (h : u.cell? ⟨B, 0, none⟩ = some v0 ∧ u.cell? ⟨B, 1, none⟩ = some v1 ∧ u.cell? ⟨B, 2, none⟩ = some v2 ∧ u.cell? ⟨B, 3, none⟩ = some v3 ∧ u.cell? ⟨B, 4, none⟩ = some v4 ∧ u.cell? ⟨B, 5, none⟩ = some v5 ∧ u.cell? ⟨B, 6, none⟩ = some v6 ∧ u.there (B + 1) 0 12) (hB : Below u.heap.size u u') : u'.cell? ⟨B, 0, none⟩ = some v0 ∧ u'.cell? ⟨B, 1, none⟩ = some v1 ∧ u'.cell? ⟨B, 2, none⟩ = some v2 ∧ u'.cell? ⟨B, 3, none⟩ = some v3 ∧ u'.cell? ⟨B, 4, none⟩ = some v4 ∧ u'.cell? ⟨B, 5, none⟩ = some v5 ∧ u'.cell? ⟨B, 6, none⟩ = some v6 ∧ u'.there (B + 1) 0 12 := by
  obtain ⟨h0, h1, h2, h3, h4, h5, h6, ht⟩ := h
  exact ⟨(hB.cell (p := ⟨B, 0, none⟩) (cell_lt h0)).trans h0, (hB.cell (p := ⟨B, 1, none⟩) (cell_lt h1)).trans h1, (hB.cell (p := ⟨B, 2, none⟩) (cell_lt h2)).trans h2, (hB.cell (p := ⟨B, 3, none⟩) (cell_lt h3)).trans h3, (hB.cell (p := ⟨B, 4, none⟩) (cell_lt h4)).trans h4, (hB.cell (p := ⟨B, 5, none⟩) (cell_lt h5)).trans h5, (hB.cell (p := ⟨B, 6, none⟩) (cell_lt h6)).trans h6, there_later ht hB⟩
theorem keepSet {u : World} {B : Nat} {v0 v1 v2 v3 v4 v5 v6 : Value} {vs : List Value} (h : u.cell? ⟨B, 0, none⟩ = some v0 ∧ u.cell? ⟨B, 1, none⟩ = some v1 ∧ u.cell? ⟨B, 2, none⟩ = some v2 ∧ u.cell? ⟨B, 3, none⟩ = some v3 ∧ u.cell? ⟨B, 4, none⟩ = some v4 ∧ u.cell? ⟨B, 5, none⟩ = some v5 ∧ u.cell? ⟨B, 6, none⟩ = some v6 ∧ u.there (B + 1) 0 12) : (u.setCells (B + 1) 0 vs).cell? ⟨B, 0, none⟩ = some v0 ∧ (u.setCells (B + 1) 0 vs).cell? ⟨B, 1, none⟩ = some v1 ∧ (u.setCells (B + 1) 0 vs).cell? ⟨B, 2, none⟩ = some v2 ∧ (u.setCells (B + 1) 0 vs).cell? ⟨B, 3, none⟩ = some v3 ∧ (u.setCells (B + 1) 0 vs).cell? ⟨B, 4, none⟩ = some v4 ∧ (u.setCells (B + 1) 0 vs).cell? ⟨B, 5, none⟩ = some v5 ∧ (u.setCells (B + 1) 0 vs).cell? ⟨B, 6, none⟩ = some v6 ∧ (u.setCells (B + 1) 0 vs).there (B + 1) 0 12 := by
  obtain ⟨h0, h1, h2, h3, h4, h5, h6, ht⟩ := h
  have hne : ∀ j, (u.setCells (B + 1) 0 vs).cell? ⟨B, j, none⟩ = u.cell? ⟨B, j, none⟩ := fun j => World.cell?_setCells_out (B + 1) vs 0 u ⟨B, j, none⟩ (fun hb _ => by simp at hb)
  exact ⟨(hne 0).trans h0, (hne 1).trans h1, (hne 2).trans h2, (hne 3).trans h3, (hne 4).trans h4, (hne 5).trans h5, (hne 6).trans h6, World.there_setCells ht _ _ _⟩
/-- What allowed's functions ask, word by word: from, and below (none: nothing). -/
def canL (p : ProgD) (n : Nat) : List (Option (Int × Int)) :=
  [some (0, 1), some (0, 4), some (0, 4), none, some (0, (n : Int) + 1), some (1, (p.threads.length : Int)), some (0, p.vars), some (0, p.atoms), some (0, p.locks), some (0, (p.chans.length : Int)), some (0, p.groups), some (0, p.onces)]
def canB : Option (Int × Int) → Int → Bool
  | none, _ => true
  | some (lo, hi), m => wiB m lo (hi - 1)
/-- A value is a function of one number that returns what g says, and leaves the world as it is. -/
def CanFn (w : World) (f : Value) (g : Option (Int × Int)) : Prop :=
  ∃ fn caps, f = .func (.func fn) #[] caps ∧ (∀ m u, (callFunc fn (#[.int .i64 m] ++ caps)).run Tryz.prog u = .ok (.enter fn (#[.int .i64 m] ++ caps)) u) ∧
    ∀ m w', Below w.heap.size w w' → Calls Tryz.prog fn (#[.int .i64 m] ++ caps) w' fun e w'' => e = .returned (.bool (canB g m)) ∧ w' = w''
theorem canFn_clo {w : World} {L : Nat} {f : Value} {lo hi : Int} (h : Clo w L f lo hi) (hr : -9223372036854775808 < hi) (hr2 : hi ≤ 9223372036854775807) : CanFn w f (some (lo, hi)) := by
  obtain ⟨b1, b2, rfl, h1, h2, c1, c2⟩ := h
  refine ⟨_, _, rfl, fun m u => by kernel_rfl, fun m w' hB => ?_⟩
  exact allowed11_any m lo hi b1 b2 w' ((hB.cell (p := ⟨b1, 0, none⟩) (cell_lt c1)).trans c1) ((hB.cell (p := ⟨b2, 0, none⟩) (cell_lt c2)).trans c2) hr hr2
theorem canFn_all (w : World) : CanFn w (.func (.func 119) #[] #[]) none :=
  ⟨_, _, rfl, fun m u => by kernel_rfl, fun m w' hB => allowed2_any m w'⟩
theorem CanFn.later {w w' : World} {f : Value} {g : Option (Int × Int)} (h : CanFn w f g) (hB : Below w.heap.size w w') : CanFn w' f g := by
  obtain ⟨fn, caps, rfl, h1, h2⟩ := h
  exact ⟨fn, caps, rfl, h1, fun m u hu => h2 m u (below_next hB hu)⟩
/-- What allowed hands back. -/
structure CansIn (w : World) (p : ProgD) (n : Nat) (fs : List Value) : Prop where
  len : fs.length = 12
  one : ∀ v ∈ fs, Value.oneCell' v = true
  fn : ∀ (j : Nat) (f : Value) (g : Option (Int × Int)), fs[j]? = some f → (canL p n)[j]? = some g → CanFn w f g
theorem CansIn.later {w w' : World} {p : ProgD} {n : Nat} {fs : List Value} (h : CansIn w p n fs) (hB : Below w.heap.size w w') : CansIn w' p n fs :=
  ⟨h.len, h.one, fun j f g hf hg => (h.fn j f g hf hg).later hB⟩
theorem results_cell_range {P : Program} {fn : Func} {p : Tmp} {ty : TypeId} (h : fn.results = #[.cell p ty]) (tmps : Array Value) (w : World) (b : Nat) (cs : List Value) (d : TypeDesc)
    (hp : tmps.getD p undef = .pointer (some ⟨b, 0, none⟩)) (hc : w.rangeAt b 0 cs)
    (hu : P.underlying ty = some d) (hd : d.isRow = true) (hi : (P.info? ty).map (·.size) = some cs.length) :
    (results fn tmps).run P w = .ok (.agg cs.toArray) w := by
  have hp' : tmps[p]?.getD undef = .pointer (some ⟨b, 0, none⟩) := by simpa using hp
  simp [results, h, hp', asAddr, run_loadVar_mid w b 0 ty cs d hc hu hd hi]
theorem Clo.set {w : World} {L : Nat} {f : Value} {lo hi : Int} (h : Clo w L f lo hi) {b : Nat} (hb : b < L) (vs : List Value) : Clo (w.setCells b 0 vs) L f lo hi := by
  obtain ⟨b1, b2, rfl, h1, h2, c1, c2⟩ := h
  exact ⟨b1, b2, rfl, h1, h2, (World.cell?_setCells_out b vs 0 w ⟨b1, 0, none⟩ (fun e _ => by simp at e; omega)).trans c1, (World.cell?_setCells_out b vs 0 w ⟨b2, 0, none⟩ (fun e _ => by simp at e; omega)).trans c2⟩
theorem below_setCells {B : Nat} {a : World} (b : Nat) (hb : B ≤ b) : ∀ (vs : List Value) (o : Nat) (w : World), Below B a w → Below B a (w.setCells b o vs)
  | [], _, _, h => h
  | v :: r, o, w, h => by rw [World.setCells]; exact below_setCells b hb r (o + 1) _ (h.setCell (p := ⟨b, o, none⟩) hb v)
theorem sizes_parts {p : ProgD} (h : sizesB p = true) : (0 ≤ p.vars ∧ p.vars ≤ 8) ∧ (0 ≤ p.atoms ∧ p.atoms ≤ 4) ∧ (0 ≤ p.locks ∧ p.locks ≤ 4) ∧ (0 ≤ p.groups ∧ p.groups ≤ 4) ∧ (0 ≤ p.onces ∧ p.onces ≤ 4) ∧ p.chans.length ≤ 4 ∧ (1 ≤ p.threads.length ∧ p.threads.length ≤ 6) ∧ ∀ c ∈ p.threads, c.length ≤ 60 := by
  unfold sizesB numsB longB at h
  simp only [Bool.and_eq_true, wiB_true, List.all_eq_true, decide_eq_true_eq] at h
  obtain ⟨h0, ⟨⟨⟨⟨⟨h1, h2⟩, h3⟩, h4⟩, h5⟩, h6⟩, h7⟩ := h
  exact ⟨h1, h2, h3, h4, h5, by omega, by omega, h0⟩
theorem info_can : (Tryz.prog.info? 164).map (·.size) = some 12 := by kernel_rfl
theorem clo_mk {w : World} {L x y : Nat} {lo hi : Int} (h1 : L ≤ x) (h2 : L ≤ y) (c1 : w.cell? ⟨x, 0, none⟩ = some (.int .i64 lo)) (c2 : w.cell? ⟨y, 0, none⟩ = some (.int .i64 hi)) :
    Clo w L (.func (.func 118) #[] #[.pointer (some ⟨x, 0, none⟩), .pointer (some ⟨y, 0, none⟩)]) lo hi := ⟨x, y, rfl, h1, h2, c1, c2⟩
theorem allowed_any (p : ProgD) (ca : Option Addr) (ccap : Nat) (ta : Option Addr) (tcap n : Nat) (w : World) (hn : n ≤ 60) (hs : sizesB p = true) :
    Calls Tryz.prog 87 #[p.val ca ccap ta tcap, .int .i64 n] w fun e w' => ∃ fs : List Value, e = .returned (.agg fs.toArray) ∧ CansIn w' p n fs ∧ Below w.heap.size w w' := by
  have HS := Lib.hid hs
  clear hs
  have hi12 : (Tryz.prog.info? 164).map (·.size) = some 12 := info_can
  have hnw : IntKind.i64.wrap ((n : Int) + 1) = (n : Int) + 1 := IntWalk.i64_in _ (by omega)
  go_enter Tryz.func87, Tryz.ntmps87
  go_wp2
  generalize hW : (w.alloc _).alloc _ = W
  have HW := Lib.hid hW
  have c0 : W.cell? ⟨w.heap.size, 0, none⟩ = some (.int .i64 p.vars) := by rw [← hW]; simp
  have c1 : W.cell? ⟨w.heap.size, 1, none⟩ = some (.int .i64 p.atoms) := by rw [← hW]; simp
  have c2 : W.cell? ⟨w.heap.size, 2, none⟩ = some (.int .i64 p.locks) := by rw [← hW]; simp
  have c3 : W.cell? ⟨w.heap.size, 3, none⟩ = some (.slice ca p.chans.length ccap) := by rw [← hW]; simp
  have c4 : W.cell? ⟨w.heap.size, 4, none⟩ = some (.int .i64 p.groups) := by rw [← hW]; simp
  have c5 : W.cell? ⟨w.heap.size, 5, none⟩ = some (.int .i64 p.onces) := by rw [← hW]; simp
  have c6 : W.cell? ⟨w.heap.size, 6, none⟩ = some (.slice ta p.threads.length tcap) := by rw [← hW]; simp
  have ht : W.there (w.heap.size + 1) 0 12 := by
    rw [← hW]
    intro j hj
    have e : (w.alloc (.cells #[Value.int .i64 p.vars, .int .i64 p.atoms, .int .i64 p.locks, .slice ca p.chans.length ccap, .int .i64 p.groups, .int .i64 p.onces, .slice ta p.threads.length tcap] 26)).heap.size = w.heap.size + 1 := by simp
    rw [← e]
    refine ⟨?_, by simp⟩
    rw [cell_of_row _ _ _ _ _ _ (heap_alloc_new _ _)]
    rw [Array.getElem?_eq_getElem (by simp; omega)]; rfl
  have hWB : Below w.heap.size w W := by rw [← hW]; exact ((Below.refl _ _).alloc (Nat.le_refl _) _).alloc (by simp) _
  have hWs : W.heap.size = w.heap.size + 2 := by rw [← hW]; simp
  have HWs := Lib.hid hWs
  clear hW hWs
  go_region_held3 (fun u => u.cell? ⟨w.heap.size, 0, none⟩ = some (.int .i64 p.vars) ∧ u.cell? ⟨w.heap.size, 1, none⟩ = some (.int .i64 p.atoms) ∧ u.cell? ⟨w.heap.size, 2, none⟩ = some (.int .i64 p.locks) ∧ u.cell? ⟨w.heap.size, 3, none⟩ = some (.slice ca p.chans.length ccap) ∧ u.cell? ⟨w.heap.size, 4, none⟩ = some (.int .i64 p.groups) ∧ u.cell? ⟨w.heap.size, 5, none⟩ = some (.int .i64 p.onces) ∧ u.cell? ⟨w.heap.size, 6, none⟩ = some (.slice ta p.threads.length tcap) ∧ u.there (w.heap.size + 1) 0 12) (first | exact keepSet (by assumption) | exact keepS (by assumption) hB11 | exact keepS (by assumption) hB10 | exact keepS (by assumption) hB9 | exact keepS (by assumption) hB8 | exact keepS (by assumption) hB7 | exact keepS (by assumption) hB6 | exact keepS (by assumption) hB5 | exact keepS (by assumption) hB4 | exact keepS (by assumption) hB3 | exact keepS (by assumption) hB2 | exact keepS (by assumption) hB1 | exact ⟨c0, c1, c2, c3, c4, c5, c6, ht⟩)
    (first
      | (go_at_call 117; have _q := hB10; refine (allowed1_any _ _ _).mono ?_; rintro e w11 ⟨x11, y11, rfl, p11, q11, r11, s11, hB11⟩; have hC11 := Lib.hid (clo_mk p11 q11 r11 s11); clear p11 q11 r11 s11; have hone : ∀ v ∈ [.func (.func 118) #[] #[.pointer (some ⟨x1, 0, none⟩), .pointer (some ⟨y1, 0, none⟩)], .func (.func 118) #[] #[.pointer (some ⟨x2, 0, none⟩), .pointer (some ⟨y2, 0, none⟩)], .func (.func 118) #[] #[.pointer (some ⟨x3, 0, none⟩), .pointer (some ⟨y3, 0, none⟩)], .func (.func 119) #[] #[], .func (.func 118) #[] #[.pointer (some ⟨x4, 0, none⟩), .pointer (some ⟨y4, 0, none⟩)], .func (.func 118) #[] #[.pointer (some ⟨x5, 0, none⟩), .pointer (some ⟨y5, 0, none⟩)], .func (.func 118) #[] #[.pointer (some ⟨x6, 0, none⟩), .pointer (some ⟨y6, 0, none⟩)], .func (.func 118) #[] #[.pointer (some ⟨x7, 0, none⟩), .pointer (some ⟨y7, 0, none⟩)], .func (.func 118) #[] #[.pointer (some ⟨x8, 0, none⟩), .pointer (some ⟨y8, 0, none⟩)], .func (.func 118) #[] #[.pointer (some ⟨x9, 0, none⟩), .pointer (some ⟨y9, 0, none⟩)], .func (.func 118) #[] #[.pointer (some ⟨x10, 0, none⟩), .pointer (some ⟨y10, 0, none⟩)], .func (.func 118) #[] #[.pointer (some ⟨x11, 0, none⟩), .pointer (some ⟨y11, 0, none⟩)]], Value.oneCell' v = true := (by simp [Value.oneCell']))
      | (go_at_call 117; have _q := hB9; refine (allowed1_any _ _ _).mono ?_; rintro e w10 ⟨x10, y10, rfl, p10, q10, r10, s10, hB10⟩; have hC10 := Lib.hid (clo_mk p10 q10 r10 s10); clear p10 q10 r10 s10)
      | (go_at_call 117; have _q := hB8; refine (allowed1_any _ _ _).mono ?_; rintro e w9 ⟨x9, y9, rfl, p9, q9, r9, s9, hB9⟩; have hC9 := Lib.hid (clo_mk p9 q9 r9 s9); clear p9 q9 r9 s9)
      | (go_at_call 117; have _q := hB7; refine (allowed1_any _ _ _).mono ?_; rintro e w8 ⟨x8, y8, rfl, p8, q8, r8, s8, hB8⟩; have hC8 := Lib.hid (clo_mk p8 q8 r8 s8); clear p8 q8 r8 s8)
      | (go_at_call 117; have _q := hB6; refine (allowed1_any _ _ _).mono ?_; rintro e w7 ⟨x7, y7, rfl, p7, q7, r7, s7, hB7⟩; have hC7 := Lib.hid (clo_mk p7 q7 r7 s7); clear p7 q7 r7 s7)
      | (go_at_call 117; have _q := hB5; refine (allowed1_any _ _ _).mono ?_; rintro e w6 ⟨x6, y6, rfl, p6, q6, r6, s6, hB6⟩; have hC6 := Lib.hid (clo_mk p6 q6 r6 s6); clear p6 q6 r6 s6)
      | (go_at_call 117; have _q := hB4; refine (allowed1_any _ _ _).mono ?_; rintro e w5 ⟨x5, y5, rfl, p5, q5, r5, s5, hB5⟩; have hC5 := Lib.hid (clo_mk p5 q5 r5 s5); clear p5 q5 r5 s5)
      | (go_at_call 117; have _q := hB3; refine (allowed1_any _ _ _).mono ?_; rintro e w4 ⟨x4, y4, rfl, p4, q4, r4, s4, hB4⟩; have hC4 := Lib.hid (clo_mk p4 q4 r4 s4); clear p4 q4 r4 s4)
      | (go_at_call 117; have _q := hB2; refine (allowed1_any _ _ _).mono ?_; rintro e w3 ⟨x3, y3, rfl, p3, q3, r3, s3, hB3⟩; have hC3 := Lib.hid (clo_mk p3 q3 r3 s3); clear p3 q3 r3 s3)
      | (go_at_call 117; have _q := hB1; refine (allowed1_any _ _ _).mono ?_; rintro e w2 ⟨x2, y2, rfl, p2, q2, r2, s2, hB2⟩; have hC2 := Lib.hid (clo_mk p2 q2 r2 s2); clear p2 q2 r2 s2)
      | (go_at_call 117; refine (allowed1_any _ _ _).mono ?_; rintro e w1 ⟨x1, y1, rfl, p1, q1, r1, s1, hB1⟩; have hC1 := Lib.hid (clo_mk p1 q1 r1 s1); clear p1 q1 r1 s1))
  go_wp2
  have hT := there_later (there_later (there_later (there_later (there_later (there_later (there_later (there_later (there_later (there_later (there_later (show W.drew.there (w.heap.size + 1) 0 12 from ht) hB1) hB2) hB3) hB4) hB5) hB6) hB7) hB8) hB9) hB10) hB11
  obtain ⟨z1, z2, z3, z4, z5, z6, z7, _⟩ := sizes_parts HS.out
  have h2 := below_next hB1 hB2
  have h3 := below_next h2 hB3
  have h4 := below_next h3 hB4
  have h5 := below_next h4 hB5
  have h6 := below_next h5 hB6
  have h7 := below_next h6 hB7
  have h8 := below_next h7 hB8
  have h9 := below_next h8 hB9
  have h10 := below_next h9 hB10
  have h11 := below_next h10 hB11
  have hDB : Below w.heap.size w w11 := (hWB.drew).trans (h11.mono (by have := hWB.size; simpa using this))
  have hWs : W.heap.size = w.heap.size + 2 := HWs.out
  have hDs : W.drew.heap.size = w.heap.size + 2 := hWs
  have k1 := (((((((((((hC1.out.later hB2).later hB3).later hB4).later hB5).later hB6).later hB7).later hB8).later hB9).later hB10).later hB11)).low (L' := w.heap.size + 2) (by omega)
  have k2 := ((((((((((hC2.out.later hB3).later hB4).later hB5).later hB6).later hB7).later hB8).later hB9).later hB10).later hB11)).low (L' := w.heap.size + 2) (by have := hB1.size; omega)
  have k3 := (((((((((hC3.out.later hB4).later hB5).later hB6).later hB7).later hB8).later hB9).later hB10).later hB11)).low (L' := w.heap.size + 2) (by have := h2.size; omega)
  have k4 := ((((((((hC4.out.later hB5).later hB6).later hB7).later hB8).later hB9).later hB10).later hB11)).low (L' := w.heap.size + 2) (by have := h3.size; omega)
  have k5 := (((((((hC5.out.later hB6).later hB7).later hB8).later hB9).later hB10).later hB11)).low (L' := w.heap.size + 2) (by have := h4.size; omega)
  have k6 := ((((((hC6.out.later hB7).later hB8).later hB9).later hB10).later hB11)).low (L' := w.heap.size + 2) (by have := h5.size; omega)
  have k7 := (((((hC7.out.later hB8).later hB9).later hB10).later hB11)).low (L' := w.heap.size + 2) (by have := h6.size; omega)
  have k8 := ((((hC8.out.later hB9).later hB10).later hB11)).low (L' := w.heap.size + 2) (by have := h7.size; omega)
  have k9 := (((hC9.out.later hB10).later hB11)).low (L' := w.heap.size + 2) (by have := h8.size; omega)
  have k10 := ((hC10.out.later hB11)).low (L' := w.heap.size + 2) (by have := h9.size; omega)
  have k11 := (hC11.out).low (L' := w.heap.size + 2) (by have := h10.size; omega)
  refine bodyPost_ret (v := .agg (List.toArray _)) (results_cell_range rfl _ _ (w.heap.size + 1) _ _ rfl (World.rangeAt_setCells_same _ _ _ _ hT) Tryz.underlying164 rfl info_can) rfl ⟨_, rfl, ⟨rfl, hone, ?_⟩, below_setCells _ (by omega) _ _ _ hDB⟩
  intro j f g hf hg
  match j, hf, hg with
  | 0, hf, hg => cases hf; cases hg; exact canFn_clo (k1.set (b := w.heap.size + 1) (by omega) _) (by omega) (by omega)
  | 1, hf, hg => cases hf; cases hg; exact canFn_clo (k2.set (b := w.heap.size + 1) (by omega) _) (by omega) (by omega)
  | 2, hf, hg => cases hf; cases hg; exact canFn_clo (k3.set (b := w.heap.size + 1) (by omega) _) (by omega) (by omega)
  | 3, hf, hg => cases hf; cases hg; exact canFn_all _
  | 4, hf, hg => cases hf; cases hg; exact canFn_clo (k4.set (b := w.heap.size + 1) (by omega) _) (by omega) (by omega)
  | 5, hf, hg => cases hf; cases hg; exact canFn_clo (k5.set (b := w.heap.size + 1) (by omega) _) (by omega) (by omega)
  | 6, hf, hg => cases hf; cases hg; exact canFn_clo (k6.set (b := w.heap.size + 1) (by omega) _) (by omega) (by omega)
  | 7, hf, hg => cases hf; cases hg; exact canFn_clo (k7.set (b := w.heap.size + 1) (by omega) _) (by omega) (by omega)
  | 8, hf, hg => cases hf; cases hg; exact canFn_clo (k8.set (b := w.heap.size + 1) (by omega) _) (by omega) (by omega)
  | 9, hf, hg => cases hf; cases hg; exact canFn_clo (k9.set (b := w.heap.size + 1) (by omega) _) (by omega) (by omega)
  | 10, hf, hg => cases hf; cases hg; exact canFn_clo (k10.set (b := w.heap.size + 1) (by omega) _) (by omega) (by omega)
  | 11, hf, hg => cases hf; cases hg; exact canFn_clo (k11.set (b := w.heap.size + 1) (by omega) _) (by omega) (by omega)
  | j + 12, hf, hg => simp at hf
theorem cell_later {u u1 : World} {o : Obj} {g off : Nat} {v : Value} (h : u.cell? ⟨g, off, none⟩ = some v) (hB : Below (u.alloc o).heap.size (u.alloc o) u1) : u1.cell? ⟨g, off, none⟩ = some v := by
  have hlt := cell_lt h
  exact (hB.cell (p := ⟨g, off, none⟩) (by simp; omega)).trans ((World.cell?_alloc_lt _ _ _ hlt).trans h)
theorem block_later {u u1 : World} {o ob : Obj} {g : Nat} (h : u.heap[g]? = some ob) (hB : Below (u.alloc o).heap.size (u.alloc o) u1) : u1.heap[g]? = some ob := by
  have hlt := (Array.getElem?_eq_some_iff.1 h).1
  exact (hB.block g (by simp; omega)).trans ((Below.heap_alloc _ _ _ hlt).trans h)
/-- Two blocks that were new when a call began. -/
theorem kept_two {w w1 : World} {o o' : Obj} (h : Below ((w.alloc o).alloc o').heap.size ((w.alloc o).alloc o') w1) : w1.heap[w.heap.size]? = some o ∧ w1.heap[w.heap.size + 1]? = some o' :=
  ⟨(h.block _ (by simp; omega)).trans (heap_alloc2_old _ _ _), (h.block _ (by simp)).trans (heap_alloc2_new _ _ _)⟩
/-- Has each of the first k numbers that is not nought a word? -/
def wordsB (r : Row) (x : InsD) : Nat → Bool
  | 0 => true
  | k + 1 => wordsB r x k && !(decide (r.at k = 0) && decide (x.at k ≠ 0))
theorem wordsB_stop {r : Row} {x : InsD} {j : Nat} (h : r.at j = 0) (h2 : x.at j ≠ 0) : ∀ k, j < k → wordsB r x k = false
  | 0, hk => by omega
  | k + 1, hk => by
    unfold wordsB
    by_cases e : j = k
    · subst e; simp [h, h2]
    · rw [wordsB_stop h h2 k (by omega)]; rfl
theorem wordsB_on {r : Row} {x : InsD} {k : Nat} (hw : wordsB r x k = true) (h : r.at k ≠ 0 ∨ x.at k = 0) : wordsB r x (k + 1) = true := by
  unfold wordsB; rw [hw]
  rcases h with h | h <;> simp [h]
def knownB (x : InsD) : Bool := wordsB (rowAt x.op) x 3 && decide (x.op < 28)
theorem known_ins (x : InsD) (w : World) :
    Calls Tryz.prog 89 #[.agg #[.int .u8 x.op, .int .i64 x.a, .int .i64 x.b, .int .i64 x.c]] w fun e w' => e = .returned (.bool (knownB x)) ∧ Below w.heap.size w w' := by
  have H := of_row x.op
  unfold knownB
  generalize rowAt x.op = r at H ⊢
  have H := Lib.hid H
  have hf := field_abc r
  go_enter Tryz.func89, Tryz.ntmps89
  go_wp2_with (first
    | (go_at_call 120; refine (H.out _).mono ?_; rintro e w1 ⟨rfl, hB1⟩; obtain ⟨c0, c1, c2, c3⟩ := cells4 (kept_new hB1); have hz : w.heap.size < w1.heap.size := (by have := hB1.size; simp at this; omega))
    | (go_at_call 121; refine (numbers_any _ _ _ _ _).mono ?_; rintro e w2 ⟨rfl, hB2⟩))
  have hR := Lib.hid (kept_new hB2)
  have hB : Below w.heap.size w w2 := (((Below.refl _ _).alloc (Nat.le_refl _) _).trans (hB1.mono (by simp))).alloc (by omega) _ |>.trans (hB2.mono (by simp; omega))
  have hlt1 : w1.heap.size < w2.heap.size := by have := hB2.size; simp at this; omega
  have c0' := cell_later c0 hB2
  clear hB1 hB2 c0 c1 c2 c3
  go_loop [12] (fun i => ∃ j : Nat, j ≤ 3 ∧ i = .int .i64 j ∧ Hid (wordsB r x j = true)) (fun i => 3 - (intOf i).toNat)
  case atStart => exact ⟨0, Nat.zero_le _, rfl, Lib.hid rfl⟩
  case round =>
    obtain ⟨j, hj, rfl, HW⟩ := hrel
    by_cases hlt : j < 3
    · have hi := ins_at x j hlt
      have hq := abc_cell hR.out j hlt
      by_cases hz : r.at j = 0
      · have hz' : (r.at j == 0) = true := by simp [hz]
        by_cases hx : x.at j = 0
        · have hx' : (x.at j != 0) = false := by simp [hx]
          have HN := Lib.hid (wordsB_on HW.out (.inr hx))
          clear hz hx
          go_wp2
          go_round
          case rel => exact ⟨j + 1, by omega, by go_num, HN⟩
          case measure => simp [intOf]; omega
        · have hx' : (x.at j != 0) = true := by simp [hx]
          have HN := Lib.hid (wordsB_stop hz hx 3 hlt)
          clear hz hx
          go_wp2
          go_ret
          exact ⟨ret_bool (by rw [HN.out]; rfl), hB⟩
      · have hz' : (r.at j == 0) = false := by simp [hz]
        have HN := Lib.hid (wordsB_on (x := x) HW.out (.inl hz))
        clear hz
        go_wp2
        go_round
        case rel => exact ⟨j + 1, by omega, by go_num, HN⟩
        case measure => simp [intOf]; omega
    · obtain rfl : j = 3 := by omega
      go_wp2
      go_ret
      exact ⟨ret_bool (by rw [HW.out, Bool.true_and]; exact decide_eq_decide.2 (by omega)), hB⟩
/-- Can each of the first k numbers be what its word says? -/
def fitB (l : List (Option (Int × Int))) (r : Row) (x : InsD) : Nat → Bool
  | 0 => true
  | k + 1 => fitB l r x k && canB (l.getD (r.at k).toNat none) (x.at k)
theorem fitB_stop {l : List (Option (Int × Int))} {r : Row} {x : InsD} {j : Nat} (h : canB (l.getD (r.at j).toNat none) (x.at j) = false) : ∀ k, j < k → fitB l r x k = false
  | 0, hk => by omega
  | k + 1, hk => by
    unfold fitB
    by_cases e : j = k
    · subst e; rw [h, Bool.and_false]
    · rw [fitB_stop h k (by omega)]; rfl
theorem word_all : (List.range 28).all (fun k => decide (0 ≤ (rowAt k).a) && decide ((rowAt k).a < 12) && decide (0 ≤ (rowAt k).b) && decide ((rowAt k).b < 12) && decide (0 ≤ (rowAt k).c) && decide ((rowAt k).c < 12)) = true := by decide
theorem word_lt (op k : Nat) : 0 ≤ (rowAt op).at k ∧ (rowAt op).at k < 12 := by
  rcases Nat.lt_or_ge op 28 with h | h
  · have := List.all_eq_true.1 word_all op (by simpa using h)
    simp only [Bool.and_eq_true, decide_eq_true_eq] at this
    unfold Row.at; split
    · omega
    · split <;> omega
  · rw [rowAt_out op h]; unfold Row.at noRow; split
    · simp
    · split <;> simp
def fitsB (p : ProgD) (n : Nat) (x : InsD) : Bool := fitB (canL p n) (rowAt x.op) x 3
theorem fits_any (p : ProgD) (n : Nat) (fs : List Value) (x : InsD) (w : World) (hc : CansIn w p n fs) :
    Calls Tryz.prog 91 #[.agg #[.int .u8 x.op, .int .i64 x.a, .int .i64 x.b, .int .i64 x.c], .agg fs.toArray] w fun e w' => e = .returned (.bool (fitsB p n x)) ∧ Below w.heap.size w w' := by
  have H := of_row x.op
  have HWd := Lib.hid (word_lt x.op)
  unfold fitsB
  generalize rowAt x.op = r at H HWd ⊢
  have H := Lib.hid H
  have HC := Lib.hid hc
  clear hc
  have hf := field_abc r
  go_enter Tryz.func91, Tryz.ntmps91
  go_wp2_with (first
    | (go_at_call 120; refine (H.out _).mono ?_; rintro e w1 ⟨rfl, hB1⟩; obtain ⟨k0, k1⟩ := kept_two hB1; have hK1 := Lib.hid k1; obtain ⟨c0, c1, c2, c3⟩ := cells4 k0; have hz : w.heap.size + 1 < w1.heap.size := (by have := hB1.size; simp at this; omega); have hz2 : w.heap.size < w1.heap.size := (by omega); clear k0 k1)
    | (go_at_call 121; refine (numbers_any _ _ _ _ _).mono ?_; rintro e w2 ⟨rfl, hB2⟩))
  have hR := Lib.hid (kept_new hB2)
  have hF := Lib.hid (block_later hK1.out hB2)
  have hB : Below w.heap.size w w2 := ((((Below.refl _ _).alloc (Nat.le_refl _) _).alloc (by simp) _).trans (hB1.mono (by simp; omega))).alloc (by omega) _ |>.trans (hB2.mono (by simp; omega))
  have hlt1 : w1.heap.size < w2.heap.size := by have := hB2.size; simp at this; omega
  clear hB1 hB2 c0 c1 c2 c3
  go_loop [14] (fun i => ∃ j : Nat, j ≤ 3 ∧ i = .int .i64 j ∧ Hid (fitB (canL p n) r x j = true)) (fun i => 3 - (intOf i).toNat)
  case atStart => exact ⟨0, Nat.zero_le _, rfl, Lib.hid rfl⟩
  case round =>
    obtain ⟨j, hj, rfl, HW⟩ := hrel
    by_cases hlt : j < 3
    · have hi := ins_at x j hlt
      have hq := abc_cell hR.out j hlt
      obtain ⟨hm0, hm1⟩ := HWd.out j
      obtain ⟨m, hm⟩ := Int.eq_ofNat_of_zero_le hm0
      have hm12 : m < 12 := by omega
      obtain ⟨f, hf0⟩ := at_lt (l := fs) (k := m) (by rw [HC.out.len]; exact hm12)
      obtain ⟨g, hg0⟩ := at_lt (l := canL p n) (k := m) hm12
      obtain ⟨fn, caps, rfl, hfn, hcall⟩ := HC.out.fn m f g hf0 hg0
      have hcf : w2.cell? ⟨w.heap.size + 1, m, none⟩ = some (.func (.func fn) #[] caps) := by
        rw [cell_of_row _ _ _ _ _ _ hF.out]; simpa using hf0
      have HX := Lib.hid (show canB ((canL p n).getD (r.at j).toNat none) (x.at j) = canB g (x.at j) by
        rw [hm, List.getD_eq_getElem?_getD, Int.toNat_natCast, hg0]; rfl)
      have hcall' := Lib.hid (hcall (x.at j) w2 hB)
      have hfn' := hfn (x.at j)
      rw [hm] at hq
      clear hf0 hg0 hfn hcall hm hm0 hm1
      cases hb : canB g (x.at j)
      · have HN := Lib.hid (fitB_stop (HX.out.trans hb) 3 hlt)
        rw [hb] at hcall'
        clear hb
        go_wp2_with fail
        refine (hcall'.out).mono ?_
        rintro e w3 ⟨rfl, rfl⟩
        go_wp2
        go_ret
        exact ⟨ret_bool (by rw [HN.out]), hB⟩
      · have HN := Lib.hid (show fitB (canL p n) r x (j + 1) = true by unfold fitB; rw [HW.out, HX.out, hb]; rfl)
        rw [hb] at hcall'
        clear hb
        go_wp2_with fail
        refine (hcall'.out).mono ?_
        rintro e w3 ⟨rfl, rfl⟩
        go_wp2
        go_round
        case rel => exact ⟨j + 1, by omega, by go_num, HN⟩
        case measure => simp [intOf]; omega
    · obtain rfl : j = 3 := by omega
      go_wp2
      go_ret
      exact ⟨ret_bool HW.out.symm, hB⟩
theorem threads1_any (b : Nat) (x : InsD) (t : TypeId) (fr : Nat × Nat) (w : World) (h : w.heap[b]? = some (.cells #[.int .u8 x.op, .int .i64 x.a, .int .i64 x.b, .int .i64 x.c] t fr)) :
    Calls Tryz.prog 88 #[.pointer (some ⟨b, 0, none⟩)] w fun e w' => e = .returned (.int .u16 (unE (knownB x) 20)) ∧ Below w.heap.size w w' := by
  obtain ⟨c0, c1, c2, c3⟩ := cells4 h
  clear h
  go_enter Tryz.func88, Tryz.ntmps88
  go_wp2_with fail
  refine (known_ins x _).mono ?_
  rintro e w1 ⟨rfl, hB1⟩
  go_wp2_with fail
  refine (unless_any _ _ _).mono ?_
  rintro e w2 ⟨rfl, rfl⟩
  go_wp2
  go_ret
  exact ⟨rfl, hB1⟩
theorem info_can_fs {fs : List Value} (h : fs.length = 12) : (Tryz.prog.info? 164).map (·.size) = some fs.toArray.size := by
  rw [List.size_toArray, h]; exact info_can
theorem threads2_any (b c : Nat) (x : InsD) (p : ProgD) (n : Nat) (fs : List Value) (t t2 : TypeId) (fr fr2 : Nat × Nat) (w : World) (h : w.heap[b]? = some (.cells #[.int .u8 x.op, .int .i64 x.a, .int .i64 x.b, .int .i64 x.c] t fr))
    (h2 : w.heap[c]? = some (.cells fs.toArray t2 fr2)) (hc : CansIn w p n fs) :
    Calls Tryz.prog 90 #[.pointer (some ⟨b, 0, none⟩), .pointer (some ⟨c, 0, none⟩)] w fun e w' => e = .returned (.int .u16 (unE (fitsB p n x) 21)) ∧ Below w.heap.size w w' := by
  obtain ⟨c0, c1, c2, c3⟩ := cells4 h
  have H2 := Lib.hid h2
  have HI := Lib.hid (info_can_fs hc.len)
  clear h h2
  go_enter Tryz.func90, Tryz.ntmps90
  go_wp2_with (first
    | (refine wpList_load_row rfl 164 (.tmp 1) rfl c rfl t2 fs.toArray fr2 _ H2.out Tryz.underlying164 rfl HI.out ?_)
    | (go_at_call 91; refine (fits_any p n fs x _ hc).mono ?_; rintro e w1 ⟨rfl, hB1⟩)
    | (go_at_call 66; refine (unless_any _ _ _).mono ?_; rintro e w2 ⟨rfl, rfl⟩))
  go_ret
  exact ⟨rfl, hB1⟩
theorem info_prog : (Tryz.prog.info? 26).map (·.size) = some 7 := by kernel_rfl
theorem zero_len {fs : List Value} (h : fs.length = 12) : (#[Value.nilFunc, .nilFunc, .nilFunc, .nilFunc, .nilFunc, .nilFunc, .nilFunc, .nilFunc, .nilFunc, .nilFunc, .nilFunc, .nilFunc] : Array Value).size = fs.toArray.size := by
  show 12 = fs.toArray.size
  rw [List.size_toArray, h]
/-- What is wrong with an instruction, of a thread of n; with a thread's; with all. -/
def insE (p : ProgD) (n : Nat) (x : InsD) : Int := firstE [unE (knownB x) 20, unE (fitsB p n x) 21]
def codeE (p : ProgD) (c : List InsD) : Int := firstE (c.map (insE p c.length))
def threadsE (p : ProgD) : Int := firstE (p.threads.map (codeE p))
theorem first_ins (x : InsD) (p : ProgD) (n : Nat) (fs : List Value) (cb : Nat) (t : TypeId) (u : World) (hcan : u.heap[cb]? = some (.cells fs.toArray t)) (hC : CansIn u p n fs) :
    Calls Tryz.prog 64 #[.slice (some ⟨u.heap.size + 1, 0, none⟩) 2 2]
      ((u.alloc (.cells #[.int .u8 x.op, .int .i64 x.a, .int .i64 x.b, .int .i64 x.c] 67)).alloc (.cells #[.func (.func 88) #[] #[.pointer (some ⟨u.heap.size, 0, none⟩)], .func (.func 90) #[] #[.pointer (some ⟨u.heap.size, 0, none⟩), .pointer (some ⟨cb, 0, none⟩)]] 140))
      fun e w' => e = .returned (.int .u16 (insE p n x)) ∧ Below ((u.alloc (.cells #[.int .u8 x.op, .int .i64 x.a, .int .i64 x.b, .int .i64 x.c] 67)).alloc (.cells #[.func (.func 88) #[] #[.pointer (some ⟨u.heap.size, 0, none⟩)], .func (.func 90) #[] #[.pointer (some ⟨u.heap.size, 0, none⟩), .pointer (some ⟨cb, 0, none⟩)]] 140)).heap.size ((u.alloc (.cells #[.int .u8 x.op, .int .i64 x.a, .int .i64 x.b, .int .i64 x.c] 67)).alloc (.cells #[.func (.func 88) #[] #[.pointer (some ⟨u.heap.size, 0, none⟩)], .func (.func 90) #[] #[.pointer (some ⟨u.heap.size, 0, none⟩), .pointer (some ⟨cb, 0, none⟩)]] 140)) w' := by
  have hcb : cb < u.heap.size := (Array.getElem?_eq_some_iff.1 hcan).1
  refine first_any [.func (.func 88) #[] #[.pointer (some ⟨u.heap.size, 0, none⟩)], .func (.func 90) #[] #[.pointer (some ⟨u.heap.size, 0, none⟩), .pointer (some ⟨cb, 0, none⟩)]] [unE (knownB x) 20, unE (fitsB p n x) 21] _ 2 _ rfl (by simp) ?_ ?_
  · intro i f hf
    refine ⟨u.heap.size + 1, 0, rfl, by simp, ?_⟩
    rw [cell_of_row _ _ _ _ _ _ (heap_alloc2_new _ _ _)]
    simpa using hf
  · intro i f e hf he _
    have hbelow : Below u.heap.size u ((u.alloc (.cells #[.int .u8 x.op, .int .i64 x.a, .int .i64 x.b, .int .i64 x.c] 67)).alloc (.cells #[.func (.func 88) #[] #[.pointer (some ⟨u.heap.size, 0, none⟩)], .func (.func 90) #[] #[.pointer (some ⟨u.heap.size, 0, none⟩), .pointer (some ⟨cb, 0, none⟩)]] 140)) := ((Below.refl _ _).alloc (Nat.le_refl _) _).alloc (by simp) _
    match i, hf, he with
    | 0, hf, he =>
      cases hf; cases he
      refine ⟨_, _, rfl, fun u => by kernel_rfl, fun v hv => ?_⟩
      exact threads1_any _ x _ _ v (kept_two hv).1
    | 1, hf, he =>
      cases hf; cases he
      refine ⟨_, _, rfl, fun u => by kernel_rfl, fun v hv => ?_⟩
      have hv' : Below u.heap.size u v := hbelow.trans (hv.mono (by simp; omega))
      exact threads2_any _ _ x p n fs _ _ _ _ v (kept_two hv).1 ((hv'.block _ hcb).trans hcan) (hC.later hv')
    | i + 2, hf, he => simp at hf
theorem firstE_map {α : Type} (g : α → Int) (l : List α) (h : ∀ (j : Nat) (x : α), l[j]? = some x → g x = 0) : firstE (l.map g) = 0 :=
  firstE_all fun e he => by
    obtain ⟨x, hx, rfl⟩ := List.mem_map.1 he
    obtain ⟨j, hj⟩ := List.getElem?_of_mem hx
    exact h j x hj
theorem firstE_map_at {α : Type} (g : α → Int) (l : List α) {k : Nat} {x : α} (hk : l[k]? = some x) (hne : g x ≠ 0) (h : ∀ (j : Nat) (y : α), j < k → l[j]? = some y → g y = 0) : firstE (l.map g) = g x :=
  firstE_at (k := k) (by rw [List.getElem?_map, hk]; rfl) hne fun j e hj he => by
    rw [List.getElem?_map] at he
    cases hl : l[j]? with
    | none => rw [hl] at he; cases he
    | some y => rw [hl] at he; cases he; exact h j y hj hl
theorem threads_any (p : ProgD) (ca : Option Addr) (ccap : Nat) (ta : Option Addr) (tcap : Nat) (w : World) (hp : ProgIn w w.heap.size p ca ta) (hs : sizesB p = true) :
    Calls Tryz.prog 71 #[p.val ca ccap ta tcap] w fun e w' => e = .returned (.int .u16 (threadsE p)) ∧ Below w.heap.size w w' := by
  have HT := Lib.hid hp.threads
  have htl : p.threads.length ≤ 6 := (sizes_parts hs).2.2.2.2.2.2.1.2
  have HL := Lib.hid (sizes_parts hs).2.2.2.2.2.2.2
  have HS := Lib.hid hs
  clear hp hs
  go_enter Tryz.func71, Tryz.ntmps71
  go_wp2
  generalize hW : w.alloc _ = W
  have hWB : Below w.heap.size w W := by rw [← hW]; exact (Below.refl _ _).alloc (Nat.le_refl _) _
  have HBx := Lib.hid (show W.heap[w.heap.size]? = some (.cells #[.int .i64 p.vars, .int .i64 p.atoms, .int .i64 p.locks, .slice ca p.chans.length ccap, .int .i64 p.groups, .int .i64 p.onces, .slice ta p.threads.length tcap] 26) by rw [← hW]; exact heap_alloc_new _ _)
  have hWs : w.heap.size < W.heap.size := by rw [← hW]; simp
  clear hW
  go_loopw [12] (fun i wr => ∃ k : Nat, k ≤ p.threads.length ∧ i = .int .i64 k ∧ Below W.heap.size W wr ∧ Hid (∀ (j : Nat) (c : List InsD), j < k → p.threads[j]? = some c → codeE p c = 0)) (fun i _ => p.threads.length - (intOf i).toNat)
  case atStart => exact ⟨0, Nat.zero_le _, rfl, Below.refl _ _, Lib.hid (fun j x hj => by omega)⟩
  case round =>
    obtain ⟨k, hk, rfl, hB, HZ⟩ := hrel
    by_cases hlt : k < p.threads.length
    · obtain ⟨c, hc⟩ := at_lt hlt
      obtain ⟨b, off, rfl, hb, a', cap', hcell, hcode⟩ := HT.out k c hc
      have hBw : Below w.heap.size w wr := hWB.trans (hB.mono (by omega))
      have hcell' := (hBw.cell (p := ⟨b, off + k, none⟩) hb).trans hcell
      have HCode := Lib.hid (hcode.below hBw)
      have HE := Lib.hid hc
      have hcl : c.length ≤ 60 := HL.out c (List.mem_of_getElem? hc)
      have HBr := Lib.hid ((hB.block _ hWs).trans HBx.out)
      have hrs : w.heap.size < wr.heap.size := by have := hB.size; omega
      clear hc hcell hcode
      go_wp2_with (first
        | (refine wpList_load_row rfl 26 (.tmp 1) rfl w.heap.size rfl 26 _ (0, 0) _ HBr.out Tryz.underlying26 rfl info_prog ?_)
        | (go_at_call 87; refine (allowed_any p ca ccap _ tcap c.length wr hcl HS.out).mono ?_; rintro e w1 ⟨fs, rfl, hC1, hB1⟩; have HI := Lib.hid (info_can_fs hC1.len); have HO := Lib.hid (zero_len hC1.len))
        | (refine wpList_store_row rfl 164 (.tmp 5) (.tmp 19) rfl w1.heap.size fs.toArray rfl rfl 164 _ (heap_alloc_new _ _) HI.out HO.out (all_oneCell_toArray hC1.one) ?_))
      generalize hWc : World.setRow _ _ _ = Wc
      have hWcB : Below w1.heap.size w1 Wc := by rw [← hWc]; exact below_setRow ((Below.refl _ _).alloc (Nat.le_refl _) _) (Nat.le_refl _) _
      have HCan := Lib.hid (show Wc.heap[w1.heap.size]? = some (.cells fs.toArray 164) by rw [← hWc]; exact setRow_heap _ _ _ _ _ _ (heap_alloc_new _ _))
      have HC2 := Lib.hid (hC1.later hWcB)
      have hB2 : Below wr.heap.size wr Wc := below_next hB1 hWcB
      have HCode2 := Lib.hid ((HCode.out).below (hB2.mono (by omega)))
      have hs1 : w1.heap.size < Wc.heap.size := (Array.getElem?_eq_some_iff.1 HCan.out).1
      have hs2 : w.heap.size < Wc.heap.size := by have := hB2.size; omega
      clear hWc hC1 HI HO HCode
      go_loopw [22] (fun i wi => ∃ m : Nat, m ≤ c.length ∧ i = .int .i64 m ∧ Below Wc.heap.size Wc wi ∧ Hid (∀ (j : Nat) (x : InsD), j < m → c[j]? = some x → insE p c.length x = 0)) (fun i _ => c.length - (intOf i).toNat)
      case atStart => exact ⟨0, Nat.zero_le _, rfl, Below.refl _ _, Lib.hid (fun j x hj => by omega)⟩
      case round =>
        obtain ⟨m, hm, rfl, hBi, HZi⟩ := hrel
        by_cases hlm : m < c.length
        · obtain ⟨x, hx⟩ := at_lt hlm
          obtain ⟨b', off', rfl, hb', hI0⟩ := HCode2.out m x hx
          obtain ⟨i0, i1, i2, i3⟩ := hI0.below hb' (hBi.mono (B' := w.heap.size) (by omega))
          have HEx := Lib.hid hx
          clear hx hI0
          have HF := Lib.hid (first_ins x p c.length fs w1.heap.size _ wr ((hBi.block _ hs1).trans HCan.out) (HC2.out.later hBi))
          by_cases hz : insE p c.length x = 0
          · rw [hz] at HF
            have HZ0 := Lib.hid hz
            clear hz
            go_wp2_with fail
            refine (HF.out).mono ?_
            rintro e w3 ⟨rfl, hB3⟩
            go_wp2
            go_roundw
            case rel => exact ⟨m + 1, by omega, by go_num, below_next hBi (((Below.refl _ _).alloc (Nat.le_refl _) _).alloc (by simp) _ |>.trans (hB3.mono (by simp; omega))), Lib.hid (fun j y hj hy => by
              by_cases e : j = m
              · subst e; have := HEx.out; rw [this] at hy; cases hy; exact HZ0.out
              · exact HZi.out j y (by omega) hy)⟩
            case measure => simp [intOf]; omega
          · have HR1 := Lib.hid (show codeE p c = insE p c.length x from firstE_map_at _ _ HEx.out hz HZi.out)
            have HR2 := Lib.hid (show threadsE p = insE p c.length x from (firstE_map_at _ _ HE.out (by rw [HR1.out]; exact hz) HZ.out).trans HR1.out)
            have hz' : (insE p c.length x != 0) = true := by simp [hz]
            clear hz
            generalize insE p c.length x = ee at *
            go_wp2_with fail
            refine (HF.out).mono ?_
            rintro e w3 ⟨rfl, hB3⟩
            go_wp2
            go_ret
            exact ⟨ret_int HR2.out.symm, hWB.trans ((below_next (below_next hB (below_next hB2 hBi)) (((Below.refl _ _).alloc (Nat.le_refl _) _).alloc (by simp) _ |>.trans (hB3.mono (by simp; omega)))).mono (by omega))⟩
        · obtain rfl : m = c.length := by omega
          go_wp2
          go_roundw
          case rel => exact ⟨k + 1, by omega, by go_num, below_next hB (below_next hB2 hBi), Lib.hid (fun j d hj hd => by
            by_cases e : j = k
            · subst e; have := HE.out; rw [this] at hd; cases hd
              exact firstE_map _ _ fun j x hj => HZi.out j x (List.getElem?_eq_some_iff.1 hj).1 hj
            · exact HZ.out j d (by omega) hd)⟩
          case measure => simp [intOf]; omega
    · obtain rfl : k = p.threads.length := by omega
      go_wp2
      go_ret
      exact ⟨ret_int (firstE_map _ _ fun j c hj => HZ.out j c (List.getElem?_eq_some_iff.1 hj).1 hj).symm, hWB.trans (hB.mono (by omega))⟩
end Go.Proofs.YtglafbajbiengaaGreat
