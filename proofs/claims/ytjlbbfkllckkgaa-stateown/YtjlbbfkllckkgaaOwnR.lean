/- Two plain steps of two threads come to the same in either order; two states beside each other. -/
import Derived.Test.YtjlbbfkllckkgaaStateKnown
namespace Go.Proofs.Ytjlbbfkllckkgaa
set_option linter.unusedVariables false
set_option linter.unusedSimpArgs false
set_option maxRecDepth 100000
open Go.ChangeShapes Go.WideShapes Go.ChangeAt Go.RowKit

/-- What a plain instruction puts, and where (90: nothing). -/
def plT (k : Nat) (x : InsD) : Nat := match x.op with
  | 1 | 2 | 3 | 4 | 5 | 6 | 7 => rg k x.a.toNat
  | 8 => 37 + x.a.toNat
  | _ => 90
def plV (m : Nat → Int) (k : Nat) (x : InsD) : Int := match x.op with
  | 1 => x.b
  | 2 => m (rg k x.b.toNat)
  | 3 => wrap64 (m (rg k x.b.toNat) + m (rg k x.c.toNat))
  | 4 => wrap64 (m (rg k x.b.toNat) - m (rg k x.c.toNat))
  | 5 => wrap64 (m (rg k x.b.toNat) * m (rg k x.c.toNat))
  | 6 => bitN (decide (m (rg k x.b.toNat) < m (rg k x.c.toNat)))
  | 7 => m (37 + x.b.toNat)
  | 8 => m (rg k x.b.toNat)
  | _ => 0
/-- The variable that it touches. -/
def plO (x : InsD) : Int := match x.op with
  | 7 => x.b
  | 8 => x.a
  | _ => 0
theorem upd_twice (m : Nat → Int) (i : Nat) (v : Int) : upd (upd m i v) i v = upd m i v := by
  funext j; unfold upd; split <;> rfl
theorem plain_step (m : Nat → Int) (k : Nat) (hk : k < 6) (x : InsD) (hop : x.op ≤ 8) : stepK m k x = upd (upd (pcUp m k) (plT k x) (plV m k x)) 90 0 ∧ edE (doE (pcUp m k) k x).1 (fun _ => 0) 3 = plO x := by
  obtain ⟨op, a, b, c⟩ := x
  have er : ∀ r, upd m (1 + k * 6 + 1) (m (1 + k * 6 + 1) + 1) (rg k r) = m (rg k r) := fun r => upd_ne _ _ (by unfold rg; omega)
  have ev : ∀ v, upd m (1 + k * 6 + 1) (m (1 + k * 6 + 1) + 1) (37 + v) = m (37 + v) := fun v => upd_ne _ _ (by omega)
  have hop' : op ≤ 8 := hop
  match op, hop' with
  | 0, _ => exact ⟨(upd_twice _ _ _).symm, rfl⟩
  | 1, _ => exact ⟨rfl, rfl⟩
  | 2, _ | 3, _ | 4, _ | 5, _ | 6, _ | 8, _ =>
    refine ⟨?_, by simp [doE, edE, plO, upd]⟩
    simp only [stepK, doE, edM, plT, plV, er]; rfl
  | 7, _ =>
    refine ⟨?_, by simp [doE, edE, plO, upd]⟩
    simp only [stepK, doE, edM, plT, plV, ev]; rfl
theorem plV_congr {m m' : Nat → Int} {k nt n : Nat} {x : InsD} (hop : x.op ≤ 8) (hf : InsFit nt n x) (hr : ∀ r, r < 4 → m' (rg k r) = m (rg k r)) (hv : x.op = 7 → m' (37 + x.b.toNat) = m (37 + x.b.toNat)) : plV m' k x = plV m k x := by
  obtain ⟨op, a, b, c⟩ := x
  have hop' : op ≤ 8 := hop
  match op, hop', hf, hv with
  | 0, _, _, _ => rfl
  | 1, _, _, _ => rfl
  | 2, _, hf, _ =>
    obtain ⟨B, rfl, hB⟩ : Fit 4 b := hf.2
    simp only [plV, Int.toNat_natCast, hr B hB]
  | 3, _, hf, _ | 4, _, hf, _ | 5, _, hf, _ | 6, _, hf, _ =>
    obtain ⟨B, rfl, hB⟩ : Fit 4 b := hf.2.1
    obtain ⟨C, rfl, hC⟩ : Fit 4 c := hf.2.2
    simp only [plV, Int.toNat_natCast, hr B hB, hr C hC]
  | 7, _, hf, hv => exact hv rfl
  | 8, _, hf, _ =>
    obtain ⟨B, rfl, hB⟩ : Fit 4 b := hf.2
    simp only [plV, Int.toNat_natCast, hr B hB]
/-- Where a plain instruction puts: a register of its own, a variable (by a store alone), nothing. -/
theorem plT_cases {k nt n : Nat} {x : InsD} (hop : x.op ≤ 8) (hf : InsFit nt n x) : (∃ r, r < 4 ∧ plT k x = 1 + k * 6 + 2 + r) ∨ (x.op = 8 ∧ plT k x = 37 + x.a.toNat ∧ ∃ A : Nat, x.a = A ∧ A < 8) ∨ plT k x = 90 := by
  obtain ⟨op, a, b, c⟩ := x
  have hop' : op ≤ 8 := hop
  match op, hop', hf with
  | 0, _, _ => exact .inr (.inr rfl)
  | 1, _, hf =>
    obtain ⟨A, rfl, hA⟩ : Fit 4 a := hf
    exact .inl ⟨A, hA, by simp [plT]⟩
  | 2, _, hf | 3, _, hf | 4, _, hf | 5, _, hf | 6, _, hf | 7, _, hf =>
    obtain ⟨A, rfl, hA⟩ : Fit 4 a := hf.1
    exact .inl ⟨A, hA, by simp [plT]⟩
  | 8, _, hf =>
    obtain ⟨A, rfl, hA⟩ : Fit 8 a := hf.1
    exact .inr (.inl ⟨rfl, by simp [plT], A, rfl, hA⟩)
theorem load_fit {nt n : Nat} {x : InsD} (h7 : x.op = 7) (hf : InsFit nt n x) : ∃ B : Nat, x.b = B ∧ B < 8 := by
  obtain ⟨op, a, b, c⟩ := x
  subst h7
  exact hf.2
/-- What is far from a plain step stays. -/
theorem plain_far {m : Nat → Int} {k nt n i : Nat} {x : InsD} (hk : k < 3) (hop : x.op ≤ 8) (hf : InsFit nt n x) (h1 : i ≠ 90) (h2 : i ≠ 1 + k * 6 + 1) (h3 : ∀ r, r < 4 → i ≠ 1 + k * 6 + 2 + r) (h4 : x.op = 8 → i ≠ 37 + x.a.toNat) : stepK m k x i = m i := by
  rw [(plain_step m k (by omega) x hop).1, upd_ne _ _ h1]
  rcases plT_cases (k := k) hop hf with ⟨r, hr, e⟩ | ⟨h8, e, _⟩ | e
  · rw [e, upd_ne _ _ (h3 r hr)]; exact upd_ne _ _ h2
  · rw [e, upd_ne _ _ (h4 h8)]; exact upd_ne _ _ h2
  · rw [e, upd_ne _ _ h1]; exact upd_ne _ _ h2
theorem plain_90 {m : Nat → Int} {k : Nat} {x : InsD} (hk : k < 6) (hop : x.op ≤ 8) : stepK m k x 90 = 0 := by
  rw [(plain_step m k hk x hop).1, upd_same]
theorem plain_not_blocked {m : Nat → Int} {x : InsD} (hop : x.op ≤ 8) : blockedM m x = false := by
  unfold blockedM
  rw [if_neg (by omega), if_neg (by omega), if_neg (by omega), if_neg (by omega), if_neg (by omega), if_neg (by omega)]
/-- Whether two touch the same variable. -/
def plBoth (x y : InsD) : Prop := (y.op = 8 ∨ y.op = 7) ∧ (x.op = 8 ∨ x.op = 7) ∧ plO y = plO x
theorem plain_value {m : Nat → Int} {x y nt n nt' n' : Nat} {X Y : InsD} (hx : x < 3) (hy : y < 3) (hne : x ≠ y) (hX : X.op ≤ 8) (hY : Y.op ≤ 8) (fX : InsFit nt n X) (fY : InsFit nt' n' Y) (hc : ¬ plBoth X Y) : plV (stepK m x X) y Y = plV m y Y ∧ stepK m x X (1 + y * 6 + 1) = m (1 + y * 6 + 1) := by
  refine ⟨plV_congr hY fY (fun r hr => plain_far hx hX fX (by unfold rg; omega) (by unfold rg; omega) (fun r' hr' => by unfold rg; omega) (fun h8 => by unfold rg; omega)) (fun h7 => ?_), plain_far hx hX fX (by omega) (by omega) (fun r' hr' => by omega) (fun h8 => by omega)⟩
  obtain ⟨B, hB, hB8⟩ := load_fit h7 fY
  refine plain_far hx hX fX (by omega) (by omega) (fun r' hr' => by omega) (fun h8 => ?_)
  rcases plT_cases (k := x) hX fX with ⟨r, hr, e⟩ | ⟨_, e, A, hA, hA8⟩ | e
  · exfalso
    have : plT x X = 37 + X.a.toNat := by simp [plT, h8]
    omega
  · rw [hA, hB, Int.toNat_natCast, Int.toNat_natCast]
    intro e'
    refine hc ⟨.inr h7, .inl h8, ?_⟩
    have e1 : plO Y = Y.b := by simp [plO, h7]
    have e2 : plO X = X.a := by simp [plO, h8]
    rw [e1, e2, hA, hB]
    have : B = A := by omega
    rw [this]
  · exfalso
    have : plT x X = 37 + X.a.toNat := by simp [plT, h8]
    have h8' := fX
    obtain ⟨op, a, b, c⟩ := X
    subst h8
    obtain ⟨A, rfl, hA⟩ : Fit 8 a := h8'.1
    simp [plT] at e
    omega
theorem plain_comm {m : Nat → Int} {x y nt n nt' n' : Nat} {X Y : InsD} (hx : x < 3) (hy : y < 3) (hne : x ≠ y) (hX : X.op ≤ 8) (hY : Y.op ≤ 8) (fX : InsFit nt n X) (fY : InsFit nt' n' Y) (hc : ¬ plBoth X Y) : stepK (stepK m x X) y Y = stepK (stepK m y Y) x X := by
  have hc' : ¬ plBoth Y X := fun ⟨h1, h2, h3⟩ => hc ⟨h2, h1, h3.symm⟩
  obtain ⟨v1, p1⟩ := plain_value (m := m) hx hy hne hX hY fX fY hc
  obtain ⟨v2, p2⟩ := plain_value (m := m) hy hx (Ne.symm hne) hY hX fY fX hc'
  rw [(plain_step (stepK m x X) y (by omega) Y hY).1, (plain_step (stepK m y Y) x (by omega) X hX).1, v1, v2]
  unfold pcUp
  rw [p1, p2, (plain_step m x (by omega) X hX).1, (plain_step m y (by omega) Y hY).1]
  have hd : plT x X = plT y Y → plT x X = 90 := by
    intro e
    rcases plT_cases (k := x) hX fX with ⟨r, hr, e1⟩ | ⟨h8, e1, A, hA, hA8⟩ | e1
    · rcases plT_cases (k := y) hY fY with ⟨r', hr', e2⟩ | ⟨h8', e2, B, hB, hB8⟩ | e2
      · omega
      · omega
      · omega
    · rcases plT_cases (k := y) hY fY with ⟨r', hr', e2⟩ | ⟨h8', e2, B, hB, hB8⟩ | e2
      · omega
      · exfalso
        refine hc ⟨.inl h8', .inl h8, ?_⟩
        have e3 : plO Y = Y.a := by simp [plO, h8']
        have e4 : plO X = X.a := by simp [plO, h8]
        rw [hA] at e1
        rw [hB] at e2
        have : A = B := by omega
        rw [e3, e4, hA, hB, this]
      · omega
    · exact e1
  have hXt : plT x X ≠ 1 + y * 6 + 1 ∧ plT x X ≠ 1 + x * 6 + 1 := by
    rcases plT_cases (k := x) hX fX with ⟨r, hr, e1⟩ | ⟨h8, e1, A, hA, hA8⟩ | e1 <;> omega
  have hYt : plT y Y ≠ 1 + x * 6 + 1 ∧ plT y Y ≠ 1 + y * 6 + 1 := by
    rcases plT_cases (k := y) hY fY with ⟨r, hr, e1⟩ | ⟨h8, e1, A, hA, hA8⟩ | e1 <;> omega
  unfold pcUp
  generalize plT x X = tx at *
  generalize plT y Y = ty at *
  funext i
  unfold upd
  by_cases h90 : i = 90
  · rw [if_pos h90, if_pos h90]
  · rw [if_neg h90, if_neg h90]
    by_cases hy1 : i = ty
    · have hx1 : i ≠ tx := fun e => h90 (by rw [e]; exact hd (e.symm.trans hy1))
      have hpx : i ≠ 1 + x * 6 + 1 := by omega
      simp [hy1.symm, hx1, hpx, h90]
    · rw [if_neg hy1]
      by_cases hx1 : i = tx
      · have hpy : i ≠ 1 + y * 6 + 1 := by omega
        simp [hx1.symm, hpy, h90]
      · rw [if_neg hx1, if_neg h90, if_neg hx1, if_neg h90, if_neg hy1]
        by_cases ha : i = 1 + y * 6 + 1
        · have hpx : i ≠ 1 + x * 6 + 1 := by omega
          rw [if_pos ha, if_neg hpx, if_pos ha]
        · rw [if_neg ha, if_neg ha]

/-- What is behind a step of one: the other one can still go on, its event tells what it is. -/
theorem plain_can {code : List (List InsD)} {m : Nat → Int} {x y nt n : Nat} {X Y : InsD} (hx : x < 3) (hy : y < 3) (hne : x ≠ y) (hX : X.op ≤ 8) (hY : Y.op ≤ 8) (fX : InsFit nt n X) (hcx : canM code m x = true) (hcy : canM code m y = true) (iX : insM code m x = some X) (iY : insM code m y = some Y) : canM code (stepM code m x) y = true ∧ insM code (stepM code m x) y = some Y ∧ stepM code m x = stepK m x X := by
  have e1 : stepM code m x = stepK m x X := by
    unfold stepM; rw [if_pos hcx, Int.toNat_natCast, iX]
  have far : ∀ i, (i = 1 + y * 6 ∨ i = 1 + y * 6 + 1) → stepK m x X i = m i := fun i hi => plain_far hx hX fX (by omega) (by omega) (fun r hr => by omega) (fun h8 => by omega)
  have e2 : insM code (stepK m x X) y = some Y := by
    unfold insM at iY ⊢
    rw [far _ (.inr rfl)]; exact iY
  rw [e1]
  refine ⟨?_, e2, rfl⟩
  obtain ⟨j, Z, hj, h1, h2, h3, h4, h5⟩ := canM_parts hcy
  obtain rfl : y = j := by omega
  unfold canM canK
  rw [Int.toNat_natCast, e2, far _ (.inl rfl), h4, plain_90 (by omega) hX]
  simp [hasT, plain_not_blocked hY]; omega
theorem stepM_at {code : List (List InsD)} {m : Nat → Int} {y : Nat} {Y : InsD} (hc : canM code m y = true) (iY : insM code m y = some Y) : stepM code m y = stepK m y Y := by
  unfold stepM; rw [if_pos hc, Int.toNat_natCast, iY]
theorem plain_same {code : List (List InsD)} {m : Nat → Int} {x y nt n nt' n' : Nat} {X Y : InsD} (hx : x < 3) (hy : y < 3) (hne : x ≠ y) (hX : X.op ≤ 8) (hY : Y.op ≤ 8) (fX : InsFit nt n X) (fY : InsFit nt' n' Y) (hcx : canM code m x = true) (hcy : canM code m y = true) (iX : insM code m x = some X) (iY : insM code m y = some Y) (hc : ¬ plBoth X Y) : stepM code (stepM code m x) y = stepM code (stepM code m y) x := by
  obtain ⟨y1, y2, y3⟩ := plain_can hx hy hne hX hY fX hcx hcy iX iY
  obtain ⟨x1, x2, x3⟩ := plain_can hy hx (Ne.symm hne) hY hX fY hcy hcx iY iX
  rw [stepM_at y1 y2, stepM_at x1 x2, y3, x3]
  exact plain_comm hx hy hne hX hY fX fY hc
theorem stepV_plain {code : List (List InsD)} {m : Nat → Int} {y : Nat} {Y : InsD} (hy : y < 6) (hY : Y.op ≤ 8) (hc : canM code m y = true) (iY : insM code m y = some Y) : ∃ e0 e1 e4 e5, stepV code m y = evV e0 e1 Y.op (plO Y) e4 e5 := by
  unfold stepV
  rw [if_pos hc, Int.toNat_natCast, iY]
  have e : evK m y Y = evV y (m (1 + y * 6 + 1)) Y.op (plO Y) (edE (doE (pcUp m y) y Y).1 (fun _ => 0) 4) (edE (doE (pcUp m y) y Y).1 (fun _ => 0) 5) := by
    unfold evK; rw [(plain_step m y hy Y hY).2]
  exact ⟨_, _, _, _, e⟩

/-- Two states beside each other; G: what neither touches. -/
def Pair (W : World) (G : Nat → Prop) (base b c lo hi : Nat) (ms mt : Nat → Int) (code : List (List InsD)) (ps pt : List Int) : Prop :=
  ∃ pv qv, StIn W b lo hi pv ms code ps ∧ StIn W c lo hi qv mt code pt ∧ Inv ms code ∧ Inv mt code ∧ b ≠ c ∧ pv.ownBlock ≠ some c ∧ qv.ownBlock ≠ some b ∧ Apart pv qv ∧ base ≤ b ∧ base ≤ c ∧ base ≤ hi ∧ ∀ g, G g → g < W.heap.size ∧ g ≠ b ∧ g ≠ c ∧ pv.ownBlock ≠ some g ∧ qv.ownBlock ≠ some g
theorem Pair.swap {W : World} {G : Nat → Prop} {base b c lo hi : Nat} {ms mt : Nat → Int} {code : List (List InsD)} {ps pt : List Int} (h : Pair W G base b c lo hi ms mt code ps pt) : Pair W G base c b lo hi mt ms code pt ps := by
  obtain ⟨pv, qv, h1, h2, h3, h4, h5, h6, h7, h8, h9, h10, h11, h12⟩ := h
  exact ⟨qv, pv, h2, h1, h4, h3, h5.symm, h7, h6, h8.symm, h10, h9, h11, fun g hg => ⟨(h12 g hg).1, (h12 g hg).2.2.1, (h12 g hg).2.1, (h12 g hg).2.2.2.2, (h12 g hg).2.2.2.1⟩⟩
theorem Pair.later {W W' : World} {G : Nat → Prop} {base b c lo hi : Nat} {ms mt : Nat → Int} {code : List (List InsD)} {ps pt : List Int} (h : Pair W G base b c lo hi ms mt code ps pt) (hB : Below W.heap.size W W') : Pair W' G base b c lo hi ms mt code ps pt := by
  obtain ⟨pv, qv, h1, h2, h3, h4, h5, h6, h7, h8, h9, h10, h11, h12⟩ := h
  exact ⟨pv, qv, h1.later hB, h2.later hB, h3, h4, h5, h6, h7, h8, h9, h10, h11, fun g hg => ⟨Nat.lt_of_lt_of_le (h12 g hg).1 hB.size, (h12 g hg).2⟩⟩
theorem Pair.alloc {W : World} {G : Nat → Prop} {base b c lo hi : Nat} {ms mt : Nat → Int} {code : List (List InsD)} {ps pt : List Int} (h : Pair W G base b c lo hi ms mt code ps pt) (o : Obj) : Pair (W.alloc o) (fun g => G g ∨ g = W.heap.size) base b c lo hi ms mt code ps pt := by
  obtain ⟨pv, qv, h1, h2, h3, h4, h5, h6, h7, h8, h9, h10, h11, h12⟩ := h
  have hB := below_box W o
  refine ⟨pv, qv, h1.later hB, h2.later hB, h3, h4, h5, h6, h7, h8, h9, h10, h11, fun g hg => ?_⟩
  rcases hg with hg | rfl
  · exact ⟨Nat.lt_of_lt_of_le (h12 g hg).1 hB.size, (h12 g hg).2⟩
  · refine ⟨by simp, ?_, ?_, fun e => ?_, fun e => ?_⟩
    · have := h1.lt; omega
    · have := h2.lt; omega
    · have := (own_lt h1.own _ e).1; omega
    · have := (own_lt h2.own _ e).1; omega
theorem StIn.touch {u u' : World} {b lo hi : Nat} {pv : Value} {m : Nat → Int} {code : List (List InsD)} {pr : List Int} {X : Nat → Prop} (S : StIn u b lo hi pv m code pr) (T : Touch X u u') (h1 : ¬ X b) (h2 : ∀ g, pv.ownBlock = some g → ¬ X g) (h3 : ∀ g, lo ≤ g → g < hi → ¬ X g) : StIn u' b lo hi pv m code pr := by
  have hl := S.lt
  obtain ⟨cs, a, cap, g1, g2, g3, g4, g5, g6⟩ := S.box
  refine ⟨⟨cs, a, cap, (T.block _ hl h1).trans g1, g2, g3, g4, g5, g6.keep2 fun k k1 k2 k3 => T.block _ k3 (h3 k k1 k2)⟩, ?_, S.off, S.two, S.len, S.lens, Nat.le_trans S.top T.size⟩
  refine ⟨S.own.1, ?_⟩
  rcases S.own.2 with q | ⟨g, cap', cur, rfl, hb, hh, hr⟩
  · exact .inl q
  · exact .inr ⟨g, cap', cur, rfl, hb, (T.block g (Array.getElem?_eq_some_iff.1 hh).1 (h2 g rfl)).trans hh, hr⟩
theorem Pair.step {W : World} {G : Nat → Prop} {base b c lo hi : Nat} {ms mt : Nat → Int} {code : List (List InsD)} {ps pt : List Int} (h : Pair W G base b c lo hi ms mt code ps pt) (hpl : ps.length ≤ 1000000) (k : Int) :
    Calls Try.prog 12 #[.pointer (some ⟨b, 0, none⟩), .int .i64 k] W fun e W' => e = .returned (.tuple #[stepV code ms k, .bool (canM code ms k)]) ∧ Pair W' G base b c lo hi (stepM code ms k) mt code (ps ++ stepT code ms k) pt ∧ Below base W W' ∧ ∀ g, G g → W'.heap[g]? = W.heap[g]? := by
  obtain ⟨pv, qv, h1, h2, h3, h4, h5, h6, h7, h8, h9, h10, h11, h12⟩ := h
  refine (st_step h1 h3 hpl k).mono ?_
  rintro e W' ⟨rfl, I', _, pv', S', T', ho⟩
  have hq : ∀ g, qv.ownBlock = some g → g < W.heap.size := fun g e => (own_lt h2.own g e).1
  refine ⟨rfl, ⟨pv', qv, S', h2.touch T' ?_ ?_ ?_, I', h4, h5, ?_, h7, ?_, h9, h10, h11, fun g hg => ⟨Nat.lt_of_lt_of_le (h12 g hg).1 T'.size, (h12 g hg).2.1, (h12 g hg).2.2.1, ?_, (h12 g hg).2.2.2.2⟩⟩, ?_, ?_⟩
  · rintro (e | e)
    · exact h5 e.symm
    · exact h6 e
  · intro g e
    rintro (e' | e')
    · exact h7 (e' ▸ e)
    · rcases h8 with h | h
      · rw [h] at e'; cases e'
      · exact h (e'.trans e.symm)
  · intro g g1 g2
    rintro (e | e)
    · rcases h1.off with h | h <;> omega
    · have := (own_lt h1.own g e).2; omega
  · rcases ho with e | ⟨g, e, hg⟩
    · rw [e]; exact h6
    · rw [e]; intro e'
      have := h2.lt
      cases e'; omega
  · rcases ho with e | ⟨g, e, hg⟩
    · unfold Apart; rw [e]; exact h8
    · refine .inr ?_
      rw [e]; intro e'
      have := hq g e'.symm
      omega
  · rcases ho with e | ⟨g', e, hg'⟩
    · rw [e]; exact (h12 g hg).2.2.2.1
    · rw [e]; intro e'
      have := (h12 g hg).1
      cases e'; omega
  · refine T'.below (fun g hg => ?_) ?_
    · rcases hg with rfl | e
      · exact h9
      · have := (own_lt h1.own g e).2; omega
    · have := h1.top; omega
  · intro g hg
    refine T'.block g (h12 g hg).1 ?_
    rintro (e | e)
    · exact (h12 g hg).2.1 e
    · exact (h12 g hg).2.2.2.1 e
end Go.Proofs.Ytjlbbfkllckkgaa
