/- What the laws of this seat stand on, part 29. -/
import Derived.Test.YtglafbajbiengaaGreatPa0
import Derived.Test.YtglafbajbiengaaGreatPa21
import Derived.Test.YtglafbajbiengaaGreatPa28
set_option linter.unusedVariables false
set_option linter.unusedSimpArgs false
set_option maxRecDepth 100000
set_option maxHeartbeats 40000000
namespace Go.Proofs.YtglafbajbiengaaGreat
open Go.ChangeShapes Go.WideShapes Go.ChangeAt Go.RowKit Go.Maps
/-- Choices that lie at an address. -/
def ChcIn (w : World) (B : Nat) (a : Option Addr) (l : List (Int × Int)) : Prop := ∀ k c, l[k]? = some c → ∃ g o, a = some ⟨g, o, none⟩ ∧ g < B ∧ w.cell? ⟨g, o + k * 2, none⟩ = some (.int .i64 c.1) ∧ w.cell? ⟨g, o + k * 2 + 1, none⟩ = some (.int .i64 c.2)
theorem ChcIn.same {W W' : World} {B : Nat} {a : Option Addr} {l : List (Int × Int)} (h : ChcIn W B a l) (hs : ∀ g, g < B → W'.heap[g]? = W.heap[g]?) : ChcIn W' B a l := fun k c hk => by
  obtain ⟨g, o, e, hg, c0, c1⟩ := h k c hk
  exact ⟨g, o, e, hg, (cell_same (hs g hg) _).trans c0, (cell_same (hs g hg) _).trans c1⟩
def wGo (chans : List Int) (code : List (List InsD)) (l : List (Int × Int)) (s : Rs) : Rs := l.foldl (fun s c => wS chans code s c.1 c.2) s
def rs0 (chans : List Int) : Rs := ⟨newM chans, [], [], []⟩
theorem wGo_take {chans : List Int} {code : List (List InsD)} {l : List (Int × Int)} {s : Rs} {q : Nat} {c : Int × Int} (h : l[q]? = some c) : wGo chans code (l.take (q + 1)) s = wS chans code (wGo chans code (l.take q) s) c.1 c.2 := by
  unfold wGo; rw [List.take_add_one, h, List.foldl_append]; rfl
theorem inv_wS {chans : List Int} {code : List (List InsD)} {s : Rs} (I : Inv s.m code) (hl : code.length ≤ 6) (k n : Int) : Inv (wS chans code s k n).m code := by
  unfold wS
  by_cases hc : canM code s.m k = true
  · rw [if_pos hc]
    have hI := inv_stepM I hl k
    by_cases ho : (stepE code s.m k).op = 7
    · rw [if_pos ho]
      obtain ⟨j, pc, ra, c, x, rfl, hj, _, _, _, hxa, hra, _, _, _, _, _, _, hix⟩ := load_parts I hc ho
      show Inv (ldM code s.m (j : Int) _) code
      unfold ldM
      rw [Int.toNat_natCast, hix]
      show Inv (upd _ (1 + j * 6 + 2 + x.a.toNat) _) code
      rw [hxa, Int.toNat_natCast]
      exact inv_reg hI hl (by omega) hra _
    · rw [if_neg ho]; exact hI
  · rw [if_neg hc]; exact I
theorem wGo_ok {chans : List Int} {code : List (List InsD)} (hl : code.length ≤ 6) : ∀ (l : List (Int × Int)) (s : Rs) (q : Nat), Rok s q → Inv s.m code → Rok (wGo chans code l s) (q + l.length) ∧ Inv (wGo chans code l s).m code
  | [], s, q, h, I => ⟨h, I⟩
  | c :: l, s, q, h, I => by
    have := wGo_ok (chans := chans) hl l (wS chans code s c.1 c.2) (q + 1) (wS_ok h I hl c.1 c.2) (inv_wS I hl c.1 c.2)
    rw [List.length_cons, show q + (l.length + 1) = q + 1 + l.length by omega]
    exact this
theorem backW_any (n : Int) (W : World) : Calls Tryz.prog 29 #[.int .i64 n] W fun e w' => e = .returned (.func (.func 47) #[] #[.pointer (some ⟨W.heap.size, 0, none⟩)]) ∧ w' = W.alloc (.cells #[.int .i64 n] 3) := by
  have hmf : ∀ (fn : Fn) (first cap : Array Value) (w : World), (Instr.makeFunc fn first cap).run Tryz.prog w = .ok (.func fn first cap) w := fun _ _ _ _ => rfl
  go_enter Tryz.func29, Tryz.ntmps29
  go_wp2
  go_ret
  exact ⟨rfl, rfl⟩
theorem Rw.start {q0 q1 q2 q3 q4 q5 q6 : Value} {w1 : World} {b : Nat} {m : Nat → Int} {code : List (List InsD)} (S : StIn w1 b (b + 1) w1.heap.size (.slice none 0 0) m code []) (I : Inv m code) :
    Rw q0 q1 q2 q3 q4 q5 q6 (w1.alloc (.cells #[.pointer (some ⟨b, 0, none⟩), q0, q1, q2, q3, q4, q5, q6, .slice none 0 0, .slice none 0 0] 74)) (w1.alloc (.cells #[.pointer (some ⟨b, 0, none⟩), q0, q1, q2, q3, q4, q5, q6, .slice none 0 0, .slice none 0 0] 74)) w1.heap.size b w1.heap.size m code [] [] [] :=
  ⟨.slice none 0 0, .slice none 0 0, .slice none 0 0, ⟨S.later (below_box _ _), I, heap_alloc_new _ _, S.lt, Nat.le_refl _, by simp, fun g hg => by simp [Value.ownBlock] at hg, World.ownsRow_nil _ _ _ _, World.ownsRow_nil _ _ _ _, .inl rfl, .inl rfl, .inl rfl, Touch.of_below (Below.refl _ _)⟩⟩
theorem Rw.kept {q0 q1 q2 q3 q4 q5 q6 : Value} {u0 u : World} {r b hi : Nat} {m : Nat → Int} {code : List (List InsD)} {pr pk : List Int} {tr : List EvD} (h : Rw q0 q1 q2 q3 q4 q5 q6 u0 u r b hi m code pr pk tr) {g : Nat} (hg : g < b) : u.heap[g]? = u0.heap[g]? := by
  obtain ⟨pv, kv, tv, h⟩ := h
  have := h.hb
  have := h.hr
  have := h.hr0
  exact h.touch.block g (by omega) (by rintro (e | e) <;> omega)
theorem Rw.below {q0 q1 q2 q3 q4 q5 q6 : Value} {u0 u : World} {r b hi : Nat} {m : Nat → Int} {code : List (List InsD)} {pr pk : List Int} {tr : List EvD} (h : Rw q0 q1 q2 q3 q4 q5 q6 u0 u r b hi m code pr pk tr) {w : World} (hB : Below w.heap.size w u0) (hb : w.heap.size ≤ b) : Below w.heap.size w u := by
  obtain ⟨pv, kv, tv, h⟩ := h
  have := h.hb
  have := h.hr
  exact hB.trans (h.touch.below (fun k hk => by rcases hk with e | e <;> omega) hB.size)
theorem alloc_atW (w : World) (o : Obj) {k : Nat} (h : k = w.heap.size) : (w.alloc o).heap[k]? = some o := by subst h; exact heap_alloc_new w o
theorem info_resultW : (Tryz.prog.info? 45).map (·.size) = some 4 := by kernel_rfl
theorem ResIn.set4 {u : World} {base q : Nat} {pr pk : List Int} {tr : List EvD} {pv kv tv x0 x1 x2 x3 : Value} (h : ResIn u base pr pk tr pv kv tv) (hq : q < base) :
    ResIn ((((u.setCell ⟨q, 0, none⟩ x0).setCell ⟨q, 1, none⟩ x1).setCell ⟨q, 2, none⟩ x2).setCell ⟨q, 3, none⟩ x3) base pr pk tr pv kv tv :=
  ⟨ownsRow_newer (ownsRow_newer (ownsRow_newer (ownsRow_newer h.1 hq) hq) hq) hq, ownsRow_newer (ownsRow_newer (ownsRow_newer (ownsRow_newer h.2.1 hq) hq) hq) hq, ownsRow_newer (ownsRow_newer (ownsRow_newer (ownsRow_newer h.2.2 hq) hq) hq) hq⟩
theorem runW_yes (p : ProgD) (ca : Option Addr) (ccap : Nat) (ta : Option Addr) (tcap : Nat) (a : Option Addr) (cap : Nat) (l : List (Int × Int)) (w : World) (hp : ProgIn w w.heap.size p ca ta) (hs : soundE p = 0) (hcw : ∀ c ∈ p.chans, -9223372036854775808 ≤ c ∧ c ≤ 9223372036854775807) (hl : ChcIn w w.heap.size a l) (hll : l.length ≤ 700) (hlw : ∀ c ∈ l, -9223372036854775808 ≤ c.2 ∧ c.2 ≤ 9223372036854775807) (hcl : p.chans.length ≤ 1000000) :
    Calls Tryz.prog 16 #[p.val ca ccap ta tcap, .slice a l.length cap] w fun e w' => ∃ pv kv tv, e = .returned (.tuple #[.agg #[pv, .int .u8 (statusM p.threads (wGo p.chans p.threads l (rs0 p.chans)).m), kv, tv], .int .u16 0]) ∧ ResIn w' w.heap.size (wGo p.chans p.threads l (rs0 p.chans)).pr (wGo p.chans p.threads l (rs0 p.chans)).pk (wGo p.chans p.threads l (rs0 p.chans)).tr pv kv tv ∧ Below w.heap.size w w' := by
  have HP := Lib.hid hp
  have HS := Lib.hid hs
  have HI := Lib.hid (inv_new hs)
  have HL := Lib.hid hl
  have HLW := Lib.hid hlw
  have HCW := Lib.hid hcw
  have hq : (#[Value.int .i64 p.vars, .int .i64 p.atoms, .int .i64 p.locks, .slice ca p.chans.length ccap, .int .i64 p.groups, .int .i64 p.onces, .slice ta p.threads.length tcap] : Array Value).all (·.oneCell') = true := by simp [Value.oneCell']
  have HQ := Lib.hid hq
  have hn2 : decide ((2000 : Int) < (l.length : Int)) = false := decide_eq_false (by omega)
  have hn3 : decide (2000 < l.length) = false := decide_eq_false (by omega)
  clear hp hs hl hlw hcw hq
  generalize hG : wGo p.chans p.threads l (rs0 p.chans) = G
  have HG := Lib.hid hG
  clear hG
  go_enter Tryz.func16, Tryz.ntmps16
  go_upto_region 7 with (first
    | (go_at_call 27; refine (new_yes p ca ccap ta tcap _ (ProgIn.wide (HP.out.below (below_two w _ _)) (below_two w _ _).size) HS.out).mono ?_; rintro e w1 ⟨b, rfl, hB1, hb1, hS1⟩; have hb2 : w.heap.size + 2 ≤ b := by { simpa using hb1 }; have hN0 := (hB1.block w.heap.size (by simp; omega)).trans (old_alloc (heap_alloc_new w _) _); have hN1 := (hB1.block (w.heap.size + 1) (by simp)).trans (heap_alloc2_new w _ _); obtain ⟨p0, p1, p2, p3, p4, p5, p6⟩ := box7 hN0; have HB1 := Lib.hid ((below_two w _ _).trans (hB1.mono (below_two w _ _).size)); have HS1 := Lib.hid hS1; clear hB1 hS1 hb1))
  generalize hU0 : World.alloc w1 _ = U0
  have HU : Hid (Rw (.int .i64 p.vars) (.int .i64 p.atoms) (.int .i64 p.locks) (.slice ca p.chans.length ccap) (.int .i64 p.groups) (.int .i64 p.onces) (.slice ta p.threads.length tcap) U0 U0 w1.heap.size b w1.heap.size (newM p.chans) p.threads [] [] []) := Lib.hid (by rw [← hU0]; exact Rw.start HS1.out HI.out)
  have HBu : Hid (Below w.heap.size w U0) := Lib.hid (by rw [← hU0]; exact below_new HB1.out _)
  have HN1 : Hid (U0.heap[w.heap.size + 1]? = some (.cells #[.slice none 0 0, .int .u8 0, .slice none 0 0, .slice none 0 0] 45)) := Lib.hid (by rw [← hU0]; exact old_alloc hN1 _)
  have HSl : Hid (b < U0.heap.size ∧ p.threads.length ≤ 6) := Lib.hid ⟨by rw [← hU0]; have := HS1.out.lt; simp; omega, HS1.out.len⟩
  have HPU : Hid (ProgIn U0 b p ca ta) := Lib.hid (ProgIn.wide (HP.out.below HBu.out) (by omega))
  clear hU0 hN0 hN1 p0 p1 p2 p3 p4 p5 p6 HS1 HB1
  have hok := fun q => wGo_ok (chans := p.chans) HSl.out.2 (l.take q) (rs0 p.chans) 0 ⟨Nat.le_refl _, Nat.le_refl _, Nat.le_refl _, fun e he => by simp [rs0] at he⟩ HI.out
  have HOk := Lib.hid hok
  have HTk := Lib.hid (fun q c h => wGo_take (chans := p.chans) (code := p.threads) (l := l) (s := rs0 p.chans) (q := q) (c := c) h)
  clear hok
  generalize w1.heap.size = r at *
  go_wp2_with fail
  go_loopw [26] (fun iv u => ∃ q : Nat, q ≤ l.length ∧ iv = .int .i64 q ∧ Rw (.int .i64 p.vars) (.int .i64 p.atoms) (.int .i64 p.locks) (.slice ca p.chans.length ccap) (.int .i64 p.groups) (.int .i64 p.onces) (.slice ta p.threads.length tcap) U0 u r b r (wGo p.chans p.threads (l.take q) (rs0 p.chans)).m p.threads (wGo p.chans p.threads (l.take q) (rs0 p.chans)).pr (wGo p.chans p.threads (l.take q) (rs0 p.chans)).pk (wGo p.chans p.threads (l.take q) (rs0 p.chans)).tr) (fun iv _ => l.length - (intOf iv).toNat)
  case atStart => exact ⟨0, Nat.zero_le _, rfl, HU.out⟩
  case round =>
    obtain ⟨q, hq, rfl, hR⟩ := hrel
    have HR := Lib.hid hR
    by_cases hlt : q < l.length
    · have hlt' : (q : Int) < (l.length : Int) := by omega
      obtain ⟨⟨ct, cb⟩, hx⟩ := at_lt hlt
      have hcb := HLW.out _ (List.mem_of_getElem? hx)
      obtain ⟨g, o, rfl, hg, c0, c1⟩ := (HL.out.same fun g hg => (hR.kept (by omega)).trans (HBu.out.block g hg)) q _ hx
      have HT2 := Lib.hid (HTk.out q _ hx)
      have HO2 := Lib.hid (HOk.out q)
      have hlq : (l.take q).length = q := by rw [List.length_take]; omega
      rw [hlq, Nat.zero_add] at HO2
      simp only at c0 c1 hcb HT2
      generalize wGo p.chans p.threads (l.take q) (rs0 p.chans) = s at *
      have hwu := hR
      clear hx hR hlq
      go_upto_region 10 with (fail)
      generalize hWC : World.alloc wr _ = WC
      have HBc := Lib.hid (show Below wr.heap.size wr WC by rw [← hWC]; exact below_box _ _)
      have hcc : WC.heap[wr.heap.size]? = some (.cells #[.int .i64 ct, .int .i64 cb] 51 (0, 0)) := by rw [← hWC]; exact heap_alloc_new _ _
      have e0 := cell_of_row _ _ 0 _ _ _ hcc
      have e1 := cell_of_row _ _ 1 _ _ _ hcc
      simp only [List.getElem?_toArray, List.getElem?_cons_zero, List.getElem?_cons_succ] at e0 e1
      have hWs : wr.heap.size ≤ WC.heap.size := HBc.out.size
      have e0' : ∀ o, (WC.alloc o).cell? ⟨wr.heap.size, 0, none⟩ = some (.int .i64 ct) := fun o => ((below_box WC o).cell (p := ⟨wr.heap.size, 0, none⟩) (cell_lt e0)).trans e0
      have e1' : ∀ o, (WC.alloc o).cell? ⟨wr.heap.size, 1, none⟩ = some (.int .i64 cb) := fun o => ((below_box WC o).cell (p := ⟨wr.heap.size, 1, none⟩) (cell_lt e1)).trans e1
      clear hWC hcc
      have hB5 : Below wr.heap.size wr (WC.alloc (.cells #[.int .i64 cb] 3)).drew := (below_new HBc.out _).drew
      have hbx5 : Boxed (WC.alloc (.cells #[.int .i64 cb] 3)).drew WC.heap.size 3 (.int .i64 cb) := heap_alloc_new WC _
      have HTk2 := Lib.hid (takeW_any p HR.out hB5 hWs HPU.out hcl HCW.out HQ.out HO2.out.1 (by omega) ct cb hcb hbx5)
      clear hB5 hbx5
      go_region_with (first
        | (go_at_call 28; refine HTk2.out.mono ?_; rintro e w6 ⟨rfl, hW6⟩)
        | (go_at_call 29; refine (backW_any _ _).mono ?_; rintro e w5 ⟨rfl, rfl⟩))
      all_goals
        go_wp2
        go_roundw
        case rel => exact ⟨q + 1, by omega, by go_num, by rw [HT2.out]; exact hW6⟩
        case measure => simp [intOf]; omega
    · obtain rfl : q = l.length := by omega
      rw [List.take_length, HG.out] at HR
      have HO2 := HOk.out l.length
      rw [List.take_length, Nat.zero_add, HG.out] at HO2
      have hprl := HO2.1.pr
      have HN2 := Lib.hid ((HR.out.kept (g := w.heap.size + 1) (by omega)).trans HN1.out)
      have HB2 := Lib.hid (HR.out.below HBu.out (by omega))
      have hUs : w.heap.size + 1 < U0.heap.size := by have := HSl.out.1; omega
      clear hR HO2 HTk HOk
      go_wp2_with (first
        | (go_at_call 30; refine (resultW_any HR.out (by omega)).mono ?_; rintro e w3 ⟨pv, kv, tv, rfl, hres, hB3⟩; obtain ⟨va, vc, rfl⟩ := st_slice hres.1; obtain ⟨ka, kc, rfl⟩ := st_slice hres.2.1; obtain ⟨xa, xc, rfl⟩ := st_slice hres.2.2; have hN3 := (hB3.block _ (Array.getElem?_eq_some_iff.1 HN2.out).1).trans HN2.out; obtain ⟨z0, z1, z2, z3⟩ := cells4 hN3; have fz := fun j => frozen_of_row _ _ j _ _ hN3; have HRes := Lib.hid hres; have HB3 := Lib.hid (below_next HB2.out hB3); clear hres hB3))
      refine bodyPost_ret (v := .tuple #[.agg #[.slice va G.pr.length vc, .int .u8 (statusM p.threads G.m), .slice ka G.pk.length kc, .slice xa G.tr.length xc], .int .u16 0]) (st_results (p := 4) (u := 5) rfl _ _ (w.heap.size + 1) 45 #[.slice va G.pr.length vc, .int .u8 (statusM p.threads G.m), .slice ka G.pk.length kc, .slice xa G.tr.length xc] (0, 0) _ rfl (stSet_four hN3) Tryz.underlying45 rfl info_resultW) rfl ⟨_, _, _, rfl, (HRes.out.set4 hUs).base HBu.out.size, stBelow_set (stBelow_set (stBelow_set (stBelow_set HB3.out (by omega)) (by omega)) (by omega)) (by omega)⟩
theorem runW_no (p : ProgD) (ca : Option Addr) (ccap : Nat) (ta : Option Addr) (tcap : Nat) (a : Option Addr) (cap n : Nat) (w : World) (hp : ProgIn w w.heap.size p ca ta) (hs : soundE p ≠ 0) :
    Calls Tryz.prog 16 #[p.val ca ccap ta tcap, .slice a n cap] w fun e w' => e = .returned (.tuple #[.agg #[.slice none 0 0, .int .u8 0, .slice none 0 0, .slice none 0 0], .int .u16 1]) ∧ Below w.heap.size w w' := by
  have HP := Lib.hid hp
  have HS := Lib.hid hs
  clear hp hs
  go_enter Tryz.func16, Tryz.ntmps16
  go_wp2_with (first
    | (go_at_call 27; refine (new_no p ca ccap ta tcap _ (ProgIn.wide (HP.out.below (below_two w _ _)) (below_two w _ _).size) HS.out).mono ?_; rintro e w1 ⟨rfl, hB1⟩; have hN1 := (hB1.block (w.heap.size + 1) (by simp)).trans (heap_alloc2_new w _ _); obtain ⟨z0, z1, z2, z3⟩ := cells4 hN1; have fz := fun j => frozen_of_row _ _ j _ _ hN1; have HB1 := Lib.hid ((below_two w _ _).trans (hB1.mono (below_two w _ _).size)); clear hB1))
  refine bodyPost_ret (v := .tuple #[.agg #[.slice none 0 0, .int .u8 0, .slice none 0 0, .slice none 0 0], .int .u16 1]) (st_results (p := 4) (u := 5) rfl _ _ (w.heap.size + 1) 45 #[.slice none 0 0, .int .u8 0, .slice none 0 0, .slice none 0 0] (0, 0) _ rfl (stSet_four hN1) Tryz.underlying45 rfl info_resultW) rfl ⟨rfl, stBelow_set (stBelow_set (stBelow_set (stBelow_set HB1.out (by omega)) (by omega)) (by omega)) (by omega)⟩
def k9Code : List (List InsD) := [[⟨1, 0, 3, 0⟩, ⟨8, 0, 0, 0⟩, ⟨7, 1, 0, 0⟩]]
def k9D : ProgD := { vars := 1, atoms := 0, locks := 0, chans := [], groups := 0, onces := 0, threads := k9Code }
def k9L : List (Int × Int) := [(0, 0), (0, 0), (0, 7)]
def k9G : Rs := wGo k9D.chans k9D.threads k9L (rs0 k9D.chans)
def k9T : List EvD := [⟨0, 0, 8, 0, 5, 0⟩]
theorem k9D_sound : soundE k9D = 0 := by decide
theorem k9_t : k9G.tr = [⟨0, 0, 1, 0, 0, 0⟩, ⟨0, 1, 8, 0, 3, 0⟩, ⟨0, 2, 7, 0, 3, 0⟩] := by kernel_rfl
theorem k9_m1 : mayL [] k9T 1 0 = [0, -1] := by kernel_rfl
theorem k9_m0 : mayL [] k9T 0 0 = [0] := by kernel_rfl
theorem k9_in (u : World) {g h : Nat} (h1 : u.heap[h]? = some (.cells #[.int .u8 1, .int .i64 0, .int .i64 3, .int .i64 0, .int .u8 8, .int .i64 0, .int .i64 0, .int .i64 0, .int .u8 7, .int .i64 1, .int .i64 0, .int .i64 0] 67)) (h2 : u.heap[g]? = some (.cells #[.slice (some ⟨h, 0, none⟩) 3 3] 68)) : ProgIn u u.heap.size k9D none (some ⟨g, 0, none⟩) := by
  refine ⟨fun i x hx => by simp [k9D] at hx, threads_lit (vs := [.slice (some ⟨h, 0, none⟩) 3 3]) h2 fun k c hc => ?_, by decide, by decide⟩
  rcases k with _ | k
  · obtain rfl := Option.some.inj (show some _ = some c from hc)
    exact ⟨_, 3, rfl, code_lit h1⟩
  · simp [k9D, k9Code] at hc
theorem k9_ch (u : World) {g : Nat} (h : u.heap[g]? = some (.cells #[.int .i64 0, .int .i64 0, .int .i64 0, .int .i64 0, .int .i64 0, .int .i64 7] 51)) : ChcIn u u.heap.size (some ⟨g, 0, none⟩) k9L := by
  intro k c hc
  refine ⟨g, 0, rfl, (Array.getElem?_eq_some_iff.1 h).1, ?_⟩
  rw [cell_of_row _ _ _ _ _ _ h, cell_of_row _ _ _ _ _ _ h]
  match k, hc with
  | 0, hc => cases hc; exact ⟨rfl, rfl⟩
  | 1, hc => cases hc; exact ⟨rfl, rfl⟩
  | 2, hc => cases hc; exact ⟨rfl, rfl⟩
  | k + 3, hc => simp [k9L] at hc
theorem k9_none (u : World) : ProgIn u u.heap.size ⟨0, 0, 0, [], 0, 0, []⟩ none none := ⟨fun i x hx => by simp at hx, fun k c hc => by simp at hc, by decide, by decide⟩
theorem prog9_one : (#[.int .i64 0, .int .i64 0, .int .i64 0, .slice none ([] : List Int).length 0, .int .i64 0, .int .i64 0, .slice none 0 0] : Array Value).all (·.oneCell') = true := by kernel_rfl
theorem may9_any (a : Option Addr) (cap : Nat) (th : Int) (hth : th = 0 ∨ th = 1) (W : World) (he : EvsIn W W.heap.size a k9T) (hcap : 1 ≤ cap) :
    Calls Tryz.prog 8 #[.agg #[.int .i64 0, .int .i64 0, .int .i64 0, .slice none 0 0, .int .i64 0, .int .i64 0, .slice none 0 0], .slice a 1 cap, .int .i64 th, .int .i64 0] W (MayE [] k9T th 0 W) :=
  may_any _ _ _ none 0 [] _ _ _ a cap k9T th 0 W ⟨RowOf.nil _ _ _ _, by simp, by simp⟩ he (fun e he => by simp [k9T] at he; subst he; exact ⟨by unfold Wf; kernel_rfl, by unfold Wf; kernel_rfl⟩) (by rcases hth with rfl | rfl <;> (unfold Wf; kernel_rfl)) (by unfold Wf; kernel_rfl) (by decide) hcap prog9_one
theorem known9_any (w : World) : Calls Tryz.prog 10 #[] w fun e w' => e = .returned (.bool true) ∧ Below w.heap.size w w' := by
  go_enter Tryz.func10, Tryz.ntmps10
  go_upto_region 2 with (fail)
  generalize hU : World.alloc w _ = U
  have HBU := Lib.hid (show Below w.heap.size w U by rw [← hU]; exact below_box _ _)
  have HEv : Hid (EvsIn U U.heap.size (some ⟨w.heap.size, 0, none⟩) k9T) := Lib.hid (by rw [← hU]; exact evsIn_blk (heap_alloc_new _ _))
  clear hU
  have HM1 := Lib.hid (may9_any (some ⟨w.heap.size, 0, none⟩) 1 1 (.inr rfl) U HEv.out (Nat.le_refl _))
  unfold MayE at HM1
  rw [k9_m1] at HM1
  go_upto_region 3 with (first | (go_at_call 8; refine HM1.out.mono ?_; rintro e w1 ⟨ma, mc, rfl, hr1, hB1⟩; have HR1 := Lib.hid hr1; have HB1 := Lib.hid hB1; clear hr1 hB1))
  have HM0 := Lib.hid (may9_any (some ⟨w.heap.size, 0, none⟩) 1 0 (.inl rfl) w1 (HEv.out.later HB1.out) (Nat.le_refl _))
  unfold MayE at HM0
  rw [k9_m0] at HM0
  go_upto_region 4 with (first | (go_at_call 8; refine HM0.out.mono ?_; rintro e w2 ⟨na, nc, rfl, hr2, hB2⟩; have HR2 := Lib.hid hr2; have HR1 := Lib.hid (HR1.out.up hB2); have HB2 := Lib.hid (below_next HBU.out (below_next HB1.out hB2)); clear hr2 hB2))
  clear HM0 HM1 HEv
  go_upto_region 5 with (fail)
  generalize hX : World.alloc (World.alloc (World.alloc w2 _) _) _ = X
  have hBX : Below w2.heap.size w2 X := by rw [← hX]; exact below_new (below_two _ _ _) _
  have hP : ProgIn X X.heap.size k9D none (some ⟨w2.heap.size + 1, 0, none⟩) := by
    rw [← hX]; exact k9_in _ (h := w2.heap.size) (old_alloc (old_alloc (heap_alloc_new _ _) _) _) (old_alloc (heap_alloc2_new _ _ _) _)
  have hch : ChcIn X X.heap.size (some ⟨w2.heap.size + 1 + 1, 0, none⟩) k9L := by rw [← hX]; exact k9_ch _ (alloc_atW _ _ (by simp))
  clear hX
  refine (runW_yes k9D none 0 (some ⟨w2.heap.size + 1, 0, none⟩) 1 (some ⟨w2.heap.size + 1 + 1, 0, none⟩) 3 k9L X hP k9D_sound (by simp [k9D]) hch (by decide) (by simp [k9L]) (by decide)).mono ?_
  rintro e w3 ⟨pv, kv, tv, rfl, hres, hB3⟩
  have hT : (wGo k9D.chans k9D.threads k9L (rs0 k9D.chans)).tr = [⟨0, 0, 1, 0, 0, 0⟩, ⟨0, 1, 8, 0, 3, 0⟩, ⟨0, 2, 7, 0, 3, 0⟩] := k9_t
  generalize statusM k9D.threads (wGo k9D.chans k9D.threads k9L (rs0 k9D.chans)).m = sm at *
  obtain ⟨va, vc, rfl⟩ := st_slice hres.1
  obtain ⟨ka, kc, rfl⟩ := st_slice hres.2.1
  obtain ⟨xa, xc, rfl⟩ := st_slice hres.2.2
  have hEx := evsIn_own hres.2.2
  rw [hT] at hEx ⊢
  generalize (wGo k9D.chans k9D.threads k9L (rs0 k9D.chans)).pr.length = n1 at *
  generalize (wGo k9D.chans k9D.threads k9L (rs0 k9D.chans)).pk.length = n2 at *
  have HEx := Lib.hid hEx
  have HB3 := Lib.hid (below_next HB2.out (below_next hBX hB3))
  have HR1 := Lib.hid (HR1.out.up (below_next hBX hB3))
  have HR2 := Lib.hid (HR2.out.up (below_next hBX hB3))
  clear hres hEx hT hB3 hBX hP hch
  go_upto_region 6 with (first
    | (go_at_call 16; refine (runW_no ⟨0, 0, 0, [], 0, 0, []⟩ none 0 none 0 none 0 0 _ (k9_none _) (by decide)).mono ?_; rintro e w4 ⟨rfl, hB4⟩))
  have hB45 : Below w4.heap.size w4 (w4.alloc (.cells #[.slice none 0 0, .int .u8 0, .slice none 0 0, .slice none 0 0] 45)) := below_box _ _
  generalize World.alloc w4 _ = Z at *
  have hBZ : Below w3.heap.size w3 Z := below_next (below_next (below_box _ _) hB4) hB45
  have hbox := (below_next hB4 hB45).block w3.heap.size (by simp) |>.trans (heap_alloc_new _ _)
  obtain ⟨-, -, -, c3⟩ := cells4 hbox
  have HZ := Lib.hid (below_next HB3.out hBZ)
  obtain ⟨gm, om, rfl, -, m0⟩ := HR1.out.later hBZ 0 0 rfl
  obtain ⟨gm', om', hm', -, m1⟩ := HR1.out.later hBZ 1 (-1) rfl
  obtain ⟨rfl, rfl⟩ : gm = gm' ∧ om = om' := by simpa using hm'
  obtain ⟨gn, on, rfl, -, n0⟩ := HR2.out.later hBZ 0 0 rfl
  obtain ⟨gx, ox, rfl, -, hx⟩ := HEx.out.later hBZ 2 _ rfl
  have x4 := hx.2.2.2.2.1
  rw [Nat.add_zero] at m0 n0
  generalize w3.heap.size = g3 at *
  generalize w4.heap.size = g4 at *
  clear hB4 hB45 hBZ hbox HB3 HR1 HR2 HEx HBU HB1 HB2 hm' hx
  go_wp2
  go_ret
  exact ⟨rfl, HZ.out⟩
theorem info_ev8 : (Tryz.prog.info? 31).map (fun i => (i.zero, i.size, i.bytes)) = some (some (evV 0 0 0 0 0 0), 6, 48) := by kernel_rfl
def opsT : List Int := [7, 8, 12, 13, 14, 15, 16, 17, 18, 19, 20, 21, 22, 23, 24, 25, 26, 27, 7, 8, 20, 21, 9]
def opT (A : Nat) : Int := opsT.getD (A % 23) 0
/-- An event, as choices say. -/
def trE (p : Nat × Nat) : EvD := ⟨(p.2 : Int) % 3, 0, opT p.1, (p.2 : Int) / 4 % 2, (p.2 : Int) / 32 - 3, (p.2 : Int) / 8 % 3⟩
def trL (l : List (Nat × Nat)) : List EvD := (l.take 25).map trE
theorem trL_len (l : List (Nat × Nat)) : (trL l).length = min 25 l.length := by simp [trL]
theorem trL_wf (l : List (Nat × Nat)) : ∀ e ∈ trL l, EvW e := by
  intro e he
  obtain ⟨p, _, rfl⟩ := List.mem_map.1 he
  exact ⟨WalkArith.wf_i64 (by simp only [trE]; omega), WalkArith.wf_i64 (by simp only [trE]; omega)⟩
theorem trL_stop {l : List (Nat × Nat)} {q : Nat} (h : q = 25 ∨ l.length ≤ q) : trL (l.take q) = trL l := by
  unfold trL
  rcases h with rfl | h
  · rw [List.take_take, Nat.min_self]
  · rw [List.take_of_length_le h]
theorem trL_next {l : List (Nat × Nat)} {q : Nat} {p : Nat × Nat} (hp : l[q]? = some p) (hq : q < 25) : trL (l.take (q + 1)) = trL (l.take q) ++ [trE p] := by
  unfold trL
  rw [List.take_take, List.take_take, Nat.min_eq_right (by omega), Nat.min_eq_right (by omega), List.take_add_one, hp]
  simp
theorem tr_nums {B : Nat} (h : B ≤ 255) : IntKind.i64.wrap ((B : Int).tmod 3) = (B : Int) % 3 ∧ IntKind.i64.wrap ((IntKind.u8.wrap ((B : Int) / 4)).tmod 2) = (B : Int) / 4 % 2 ∧ IntKind.i64.wrap (IntKind.i64.wrap (IntKind.u8.wrap ((B : Int) / 32)) - 3) = (B : Int) / 32 - 3 ∧ IntKind.i64.wrap ((IntKind.u8.wrap ((B : Int) / 8)).tmod 3) = (B : Int) / 8 % 3 := by
  have w4 : IntKind.u8.wrap ((B : Int) / 4) = (B : Int) / 4 := by rw [IntKind.wrap_u8]; omega
  have w8 : IntKind.u8.wrap ((B : Int) / 8) = (B : Int) / 8 := by rw [IntKind.wrap_u8]; omega
  have w32 : IntKind.u8.wrap ((B : Int) / 32) = (B : Int) / 32 := by rw [IntKind.wrap_u8]; omega
  have i1 : ∀ x : Int, -1000 ≤ x → x ≤ 1000 → IntKind.i64.wrap x = x := fun x h1 h2 => IntWalk.i64_in _ ⟨by omega, by omega⟩
  refine ⟨?_, ?_, ?_, ?_⟩
  · rw [Int.tmod_eq_emod_of_nonneg (by omega)]; exact i1 _ (by omega) (by omega)
  · rw [w4, Int.tmod_eq_emod_of_nonneg (by omega)]; exact i1 _ (by omega) (by omega)
  · rw [w32, i1 ((B : Int) / 32) (by omega) (by omega), i1 ((B : Int) / 32 - 3) (by omega) (by omega)]
  · rw [w8, Int.tmod_eq_emod_of_nonneg (by omega)]; exact i1 _ (by omega) (by omega)
/-- Choices that came in. -/
structure RawIn (w : World) (a : Option Addr) (l : List (Nat × Nat)) : Prop where
  cell : ∀ (k : Nat) (p : Nat × Nat), l[k]? = some p → ∃ g o, a = some ⟨g, o, none⟩ ∧ g < w.heap.size ∧ w.cell? ⟨g, o + k * 2, none⟩ = some (.int .u8 p.1) ∧ w.cell? ⟨g, o + k * 2 + 1, none⟩ = some (.int .u8 p.2)
  wf : ∀ p ∈ l, p.1 ≤ 255 ∧ p.2 ≤ 255
theorem cells_new (w : World) (l : List Value) (t : TypeId) : ∀ j u, l[j]? = some u → (w.alloc (.cells l.toArray t)).cell? ((⟨w.heap.size, 0, none⟩ : Addr).add j) = some u := by
  intro j u hj
  rw [Addr.add_mid, Nat.zero_add, cell_of_row _ _ _ _ _ _ (heap_alloc_new _ _)]
  simpa using hj
/-- Events of the call's own, so far. -/
def EvR (w : World) (t : List EvD) (v : Value) (V : World) : Prop := ∃ (xa : Option Addr) (xc : Nat), v = .slice xa t.length xc ∧ t.length ≤ xc ∧ V.ownsRow w.heap.size 31 6 v t.length (evsCells t) ∧ Below w.heap.size w V
def TraceE (l : List (Nat × Nat)) (w : World) (e : Ending) (V : World) : Prop := ∃ v, e = .returned v ∧ EvR w (trL l) v V
theorem trace_any (a : Option Addr) (cap : Nat) (l : List (Nat × Nat)) (w : World) (h : RawIn w a l) (hl : l.length ≤ 9223372036854775807) :
    Calls Tryz.prog 7 #[.slice a l.length cap] w (TraceE l w) := by
  obtain ⟨ti, hi0, iz0, iz1, iz2⟩ := info_parts info_ev8
  have HC := Lib.hid h.cell
  have HWf := Lib.hid h.wf
  clear h
  have HP0 : Hid (EvR w (trL (l.take 0)) (.slice none 0 0) w) := Lib.hid ⟨none, 0, rfl, Nat.le_refl _, World.ownsRow_nil _ _ _ _, Below.refl _ _⟩
  go_enter Tryz.func7, Tryz.ntmps7
  go_upto_region 2 with (fail)
  generalize hU : World.alloc w _ = U
  have HNO : Hid (U.heap[w.heap.size]? = some (.cells (opsT.map (Value.int .u8 ·)).toArray 5)) := Lib.hid (by rw [← hU]; exact heap_alloc_new _ _)
  have HU := Lib.hid (show Below w.heap.size w U by rw [← hU]; exact below_box _ _)
  have HP1 : Hid (EvR U (trL (l.take 0)) (.slice none 0 0) U) := Lib.hid ⟨none, 0, rfl, Nat.le_refl _, World.ownsRow_nil _ _ _ _, Below.refl _ _⟩
  clear hU HP0
  go_wp2_with fail
  go_loopw [5, 4] (fun i v V => ∃ q : Nat, q ≤ l.length ∧ q ≤ 25 ∧ i = .int .i64 q ∧ EvR U (trL (l.take q)) v V) (fun i _ _ => 25 - (intOf i).toNat)
  case atStart => exact ⟨0, Nat.zero_le _, by omega, rfl, HP1.out⟩
  case round =>
    obtain ⟨q, hq, hq25, rfl, xa, xc, rfl, hxc, hxo, hUB⟩ := hrel
    have hrl : (trL (l.take q)).length = q := by rw [trL_len, List.length_take]; omega
    have HXO := Lib.hid hxo
    have HUB := Lib.hid hUB
    have HXB := Lib.hid (below_next HU.out hUB)
    have hbs : U.heap.size ≤ wr.heap.size := hUB.size
    rw [hrl] at HXO
    rw [hrl] at hxc
    simp only [hrl]
    clear hxo hUB
    by_cases hlt : q < l.length
    · have hlt' : (q : Int) < (l.length : Int) := by omega
      by_cases h25 : q < 25
      · obtain ⟨p, hp⟩ := at_lt hlt
        obtain ⟨g, o, rfl, hg, c0, c1⟩ := HC.out q p hp
        obtain ⟨A, B⟩ := p
        have hAB := HWf.out _ (List.mem_of_getElem? hp)
        simp only at c0 c1 hAB
        have h25' : decide ((q : Int) < 25) = true := decide_eq_true (by omega)
        have hA255 : (A : Int) ≤ 255 := by omega
        have hB255 : (B : Int) ≤ 255 := by omega
        have hA00 : (0 : Int) ≤ (A : Int) := by omega
        have hB00 : (0 : Int) ≤ (B : Int) := by omega
        obtain ⟨M, hM, hMn⟩ : ∃ M : Nat, (A : Int) % 23 = (M : Int) ∧ A % 23 = M := ⟨A % 23, by omega, rfl⟩
        have hM1 : (M : Int) < 23 := by omega
        have hwA : IntKind.i64.wrap (A : Int) = (A : Int) := IntWalk.i64_in _ ⟨by omega, by omega⟩
        have htm : (A : Int).tmod 23 = (M : Int) := by rw [Int.tmod_eq_emod_of_nonneg hA00]; exact hM
        have hM2 : M < 23 := by omega
        have hop : wr.cell? ⟨w.heap.size, M, none⟩ = some (.int .u8 (opT A)) := by
          rw [cell_of_row _ _ _ _ _ _ (old_later HNO.out HUB.out)]
          simp only [List.getElem?_toArray, List.getElem?_map, opT, hMn]
          have hm : M < opsT.length := by simp [opsT]; omega
          rw [List.getElem?_eq_getElem hm, List.getD_eq_getElem?_getD, List.getElem?_eq_getElem hm]; rfl
        have HPp := Lib.hid hp
        have K0' : wr.cell? ⟨g, o + q * 2, none⟩ = some (.int .u8 A) ∧ wr.cell? ⟨g, o + q * 2 + 1, none⟩ = some (.int .u8 B) ∧ wr.cell? ⟨w.heap.size, M, none⟩ = some (.int .u8 (opT A)) := ⟨keepC HXB.out c0, keepC HXB.out c1, hop⟩
        have K0 : wr.drew.cell? ⟨g, o + q * 2, none⟩ = some (.int .u8 A) ∧ wr.drew.cell? ⟨g, o + q * 2 + 1, none⟩ = some (.int .u8 B) ∧ wr.drew.cell? ⟨w.heap.size, M, none⟩ = some (.int .u8 (opT A)) := K0'
        clear hp c0 c1 hop K0' hMn
        go_upto_region 6 with (fail)
        go_region_held3 (fun u => u.cell? ⟨g, o + q * 2, none⟩ = some (.int .u8 A) ∧ u.cell? ⟨g, o + q * 2 + 1, none⟩ = some (.int .u8 B) ∧ u.cell? ⟨w.heap.size, M, none⟩ = some (.int .u8 (opT A))) (first | with_reducible exact K0 | exact keepO3 K0 (below_box _ _) | fail) (fail)
        generalize hZ : World.drew (World.alloc wr _) = Z
        have hN := (congrArg (fun x : World => x.heap[wr.heap.size]?) hZ).symm.trans (heap_alloc_new _ _)
        obtain ⟨f1, f2, f3, f4⟩ := tr_nums hAB.2
        rw [f1, f2, f3, f4] at hN
        have HZ := Lib.hid (show Below wr.heap.size wr Z by rw [← hZ]; exact (below_box _ _).drew)
        have HNX := Lib.hid (trL_next HPp.out h25)
        obtain ⟨e0, e1, e2, e3, e4, e5⟩ := cells6 hN
        have HXZ := Lib.hid (own_later HXO.out HZ.out)
        have hzs := HZ.out.size
        clear hN hZ f1 f2 f3 f4 K0 hM htm hwA
        go_wp2_with (first
          | (at_builtin; refine wpList_append_own_at _ rfl _ _ 27 rfl U.heap.size 31 ti (evV 0 0 0 0 0 0) 6 48 Tryz.underlying27 hi0 iz0 iz1 iz2 rfl (by decide) (.slice xa q xc) q (evsCells (trL (l.take q))) rfl (own_later HXZ.out (below_box Z _)) ⟨Z.heap.size, 0, none⟩ 1 1 (evCells (trE (A, B))) rfl rfl (cells_new Z _ _) (ev_one _) (by unfold maxLen; omega) (by omega) (by simp; omega) ?_; intro v6 w6 hown6 hgrow6 _ hat6
             have HB6 : Hid (Below U.heap.size U w6) := Lib.hid ((below_new (below_next HUB.out HZ.out) (.cells (evCells (trE (A, B))).toArray 31)).trans ((Below.refl _ _).grown hgrow6 (by have := HUB.out.size; simp; omega) (fun g e => (own_lt HXO.out g e).2)))
             obtain ⟨ya, yc, rfl⟩ := own_slice0 hown6
             have HO6 := Lib.hid hown6
             have HYC : Hid (q + 1 ≤ yc) := Lib.hid (by
               rcases hown6.2 with ⟨_, h0⟩ | ⟨g', c', cur, e', _, _, hle, _⟩
               · omega
               · injection e' with e1 e2 e3; omega)
             clear hown6 hgrow6 hat6))
        go_roundw
        case rel => exact ⟨q + 1, by omega, by omega, by go_num, ya, yc, by rw [HNX.out, List.length_append, hrl]; rfl, by rw [HNX.out, List.length_append, hrl]; exact HYC.out, by rw [HNX.out, List.length_append, hrl, evsCells_snoc]; exact HO6.out, HB6.out⟩
        case measure => simp [intOf]; omega
      · have h25' : decide ((q : Int) < 25) = false := decide_eq_false (by omega)
        have hst := trL_stop (l := l) (q := q) (.inl (by omega))
        have HST := Lib.hid hst
        clear hst
        go_wp2_with fail
        go_ret
        have hr2 : (trL l).length = q := by rw [← HST.out]; exact hrl
        exact ⟨_, rfl, xa, xc, by rw [hr2]; rfl, by rw [hr2]; exact hxc, by rw [hr2, ← HST.out]; exact own_base HXO.out HU.out.size, HXB.out⟩
    · have hlt' : ¬ (q : Int) < (l.length : Int) := by omega
      have hst := trL_stop (l := l) (q := q) (.inr (by omega))
      have HST := Lib.hid hst
      clear hst
      go_wp2_with fail
      go_ret
      have hr2 : (trL l).length = q := by rw [← HST.out]; exact hrl
      exact ⟨_, rfl, xa, xc, by rw [hr2]; rfl, by rw [hr2]; exact hxc, by rw [hr2, ← HST.out]; exact own_base HXO.out HU.out.size, HXB.out⟩
end Go.Proofs.YtglafbajbiengaaGreat
namespace Go.Proofs.YtglafbajbiengaaGreat
open Go.ChangeShapes Go.WideShapes Go.ChangeAt Go.RowKit
theorem cell_plainW {w : World} {a : Addr} {k : Nat} {v : Value} (h : w.cell? (a.add k) = some v) (h0 : ∃ u, w.cell? (a.add 0) = some u) : ∃ b off, a = ⟨b, off, none⟩ ∧ w.cell? ⟨b, off + k, none⟩ = some v := by
  obtain ⟨b, off, spot⟩ := a
  obtain ⟨u, hu⟩ := h0
  have hspot : spot = none := by simpa [Addr.add] using World.cell?_spot hu
  subst hspot
  exact ⟨b, off, rfl, by rw [← Go.WideShapes.add_plain]; exact h⟩
theorem u8_nat {a : Int} (h : (Lit.int .u8 a).wf = true) : ∃ s : Nat, a = (s : Int) ∧ s ≤ 255 := by
  obtain ⟨h0, h1⟩ := bounds_u8 h
  exact ⟨a.toNat, by omega, by omega⟩
/-- Choices that came in. -/
theorem open_raws {H : Type} {enc : TypeId × Value → H} {W : World} {base b0 : Nat} {held : Bool} {v : Value} {d : DataW H} {p : List MemPlace} {r : Reach}
    (hv : Value.okWide Tryz.prog W r b0 22 v) (h : DataW.Trod enc Tryz.prog W base (fun _ => true) held 22 v d p) :
    ∃ a cap l, v = .slice a (List.length l) cap ∧ List.length l ≤ 9223372036854775807 ∧ RawIn W a l := by
  obtain ⟨a, len, cap, rfl⟩ := okWide_slice Tryz.underlying22 hv
  obtain ⟨fuel, hf⟩ := h
  have hmax : maxLen ≤ 9223372036854775807 := by decide
  rcases Go.Deep.open_slice_pairs Tryz.underlying22 Tryz.underlying58 (by kernel_rfl) rfl rfl (by kernel_rfl) (by kernel_rfl) hf with ⟨hcs, _⟩ | ⟨x, len', cap', m, n, V0, V1, D0, D1, P0, P1, hcs, _, hl, hm, hmm, _, hx⟩
  · simp [Value.cells] at hcs
    obtain ⟨rfl, rfl, rfl⟩ := hcs
    exact ⟨none, 0, [], rfl, by simp, ⟨fun k r hr => by simp at hr, fun p hp => by simp at hp⟩⟩
  · simp [Value.cells] at hcs
    obtain ⟨rfl, rfl, rfl⟩ := hcs
    simp only [if_true] at hmm
    subst hmm
    obtain ⟨X, hX⟩ := Go.Deep.choose_lt (α := Nat × Nat) (p := fun i z => W.cell? (x.add (i * 2)) = some (.int .u8 z.1) ∧ W.cell? (x.add (i * 2 + 1)) = some (.int .u8 z.2) ∧ z.1 ≤ 255 ∧ z.2 ≤ 255) (n := m) (fun i hi => by
      obtain ⟨h0, h1, g0, g1⟩ := hx i hi
      obtain ⟨a0, e0, _, w0⟩ := DataW.trod_int Tryz.underlying5 g0
      obtain ⟨a1, e1, _, w1⟩ := DataW.trod_int Tryz.underlying5 g1
      simp at e0 e1
      obtain ⟨s0, rfl, l0⟩ := u8_nat w0
      obtain ⟨s1, rfl, l1⟩ := u8_nat w1
      exact ⟨(s0, s1), by rw [h0, e0], by rw [h1, e1], l0, l1⟩)
    refine ⟨some x, m, (List.range len).map X, by simp, by simp; omega, ⟨fun k z hz => ?_, fun z hz => ?_⟩⟩
    · simp only [List.getElem?_map, Option.map_eq_some_iff] at hz
      obtain ⟨k', hk', rfl⟩ := hz
      have hkl : k < len := by have := (List.getElem?_eq_some_iff.1 hk').1; simpa using this
      have e : k' = k := by
        rw [List.getElem?_range hkl] at hk'
        exact (Option.some.inj hk').symm
      subst e
      obtain ⟨h0, h1, l0, l1⟩ := hX k' (by omega)
      obtain ⟨b, off, rfl, hc0⟩ := cell_plainW h0 ⟨_, by have := (hX 0 (by omega)).1; simpa using this⟩
      rw [Go.WideShapes.add_plain] at h1
      exact ⟨b, off, rfl, cell_lt hc0, hc0, by rw [Nat.add_assoc]; exact h1⟩
    · obtain ⟨k, hk, rfl⟩ := List.mem_map.1 hz
      obtain ⟨_, _, l0, l1⟩ := hX k (by have := List.mem_range.1 hk; omega)
      exact ⟨l0, l1⟩
theorem cells_evO : Tryz.prog.cellsOf 31 = 6 := by kernel_rfl
instance : Inhabited EvD := ⟨⟨0, 0, 0, 0, 0, 0⟩⟩
theorem open_ev_cells {H : Type} {enc : TypeId × Value → H} {W : World} {base : Nat} {sp : Nat → Bool} {held : Bool} {n : Nat} {cs : List Value} {y : DataW H × List MemPlace}
    (h : DataW.trod enc Tryz.prog W base sp held n 31 cs = some y) : ∃ x : EvD, cs = evCells x ∧ EvW x := by
  obtain ⟨xs, m, _, rfl, hl, hlen, hf⟩ := DataW.trod_struct Tryz.underlying31 h
  rw [cells_evO] at hl
  have hxs : xs.length = 6 := by rw [hlen]; rfl
  have k5 : Tryz.prog.cellsOf 5 = 1 := by kernel_rfl
  have k3 : Tryz.prog.cellsOf 3 = 1 := by kernel_rfl
  match cs, hl, xs, hxs with
  | [c0, c1, c2, c3, c4, c5], _, [y0, y1, y2, y3, y4, y5], _ =>
    have h0 := hf 0 _ rfl
    have h1 := hf 1 _ rfl
    have h2 := hf 2 _ rfl
    have h3 := hf 3 _ rfl
    have h4 := hf 4 _ rfl
    have h5 := hf 5 _ rfl
    obtain ⟨a, e0, _, w0⟩ := DataW.trod_int Tryz.underlying3 h0
    obtain ⟨b, e1, _, _⟩ := DataW.trod_int Tryz.underlying3 h1
    obtain ⟨c, e2, _, _⟩ := DataW.trod_int Tryz.underlying5 h2
    obtain ⟨d, e3, _, w3⟩ := DataW.trod_int Tryz.underlying3 h3
    obtain ⟨e, e4, _, _⟩ := DataW.trod_int Tryz.underlying3 h4
    obtain ⟨f, e5, _, _⟩ := DataW.trod_int Tryz.underlying3 h5
    simp [k5] at e2
    simp [k3] at e0 e1 e3 e4 e5
    subst e0 e1 e2 e3 e4 e5
    exact ⟨⟨a, b, c, d, e, f⟩, rfl, w0, w3⟩
/-- Events that came in. -/
theorem open_evs {H : Type} {enc : TypeId × Value → H} {W : World} {base b0 : Nat} {held : Bool} {v : Value} {d : DataW H} {p : List MemPlace} {r : Reach}
    (hv : Value.okWide Tryz.prog W r b0 27 v) (h : DataW.Trod enc Tryz.prog W base (fun _ => true) held 27 v d p) :
    ∃ a cap t, v = .slice a (List.length t) cap ∧ (List.length t ≤ cap ∧ List.length t ≤ 9223372036854775807) ∧ (EvsIn W W.heap.size a t ∧ ∀ e ∈ t, EvW e) := by
  have hmax : maxLen ≤ 9223372036854775807 := by decide
  obtain ⟨a, len, cap, rfl⟩ := okWide_slice Tryz.underlying27 hv
  obtain ⟨fuel, hf⟩ := h
  rcases Go.Deep.open_slice Tryz.underlying27 hf with ⟨hcs, _⟩ | ⟨x, len', cap', m, n, D, Pl, hcs, _, hl, hm, hmm, _, hx⟩
  · simp [Value.cells] at hcs
    obtain ⟨rfl, rfl, rfl⟩ := hcs
    exact ⟨none, 0, [], rfl, ⟨Nat.le_refl _, by simp⟩, fun k r hr => by simp at hr, fun e he => by simp at he⟩
  · simp [Value.cells] at hcs
    obtain ⟨rfl, rfl, rfl⟩ := hcs
    simp only [if_true] at hmm
    subst hmm
    rw [cells_evO] at hx
    obtain ⟨X, hX⟩ := Go.Deep.choose_lt (α := EvD) (p := fun i z => EvW z ∧ ∃ cs', W.cells? base (x.add (i * 6)) 6 = some cs' ∧ cs' = evCells z) (n := m) (fun i hi => by
      obtain ⟨cs', h1, h2⟩ := hx i hi
      obtain ⟨z, hz, hw⟩ := open_ev_cells h2
      exact ⟨z, hw, cs', h1, hz⟩)
    refine ⟨some x, m, (List.range len).map X, by simp, ⟨by simp; omega, by simp; omega⟩, fun k z hz => ?_, fun z hz => ?_⟩
    · simp only [List.getElem?_map, Option.map_eq_some_iff] at hz
      obtain ⟨k', hk', rfl⟩ := hz
      have hkl : k < len := by have := (List.getElem?_eq_some_iff.1 hk').1; simpa using this
      have e : k' = k := by
        rw [List.getElem?_range hkl] at hk'
        exact (Option.some.inj hk').symm
      subst e
      have cell : ∀ i, i < m → ∀ j, j < 6 → W.cell? (x.add (i * 6 + j)) = (evCells (X i))[j]? := fun i hi j hj => by
        obtain ⟨_, cs', h1, rfl⟩ := hX i hi
        have := (World.cells?_some h1).2.2 j hj
        rw [show (x.add (i * 6)).add j = x.add (i * 6 + j) from by
          by_cases hj0 : j = 0
          · subst hj0; simp [Addr.add]
          · by_cases hi0 : i * 6 = 0
            · simp [Addr.add, hi0]
            · simp [Addr.add, hj0, hi0, Nat.add_assoc]] at this
        exact this
      obtain ⟨b, off, rfl, hc0⟩ := cell_plainW (k := k' * 6) (v := .int .i64 (X k').th) (by have := cell k' (by omega) 0 (by omega); simpa [evCells] using this) ⟨_, by have := cell 0 (by omega) 0 (by omega); simpa [evCells] using this⟩
      have cell2 : ∀ j, j < 6 → W.cell? ⟨b, off + k' * 6 + j, none⟩ = (evCells (X k'))[j]? := fun j hj => by
        have := cell k' (by omega) j hj
        rw [Go.WideShapes.add_plain] at this
        rw [Nat.add_assoc]; exact this
      refine ⟨b, off, rfl, cell_lt hc0, hc0, ?_, ?_, ?_, ?_, ?_⟩
      · have := cell2 1 (by omega); simpa [evCells] using this
      · have := cell2 2 (by omega); simpa [evCells] using this
      · have := cell2 3 (by omega); simpa [evCells] using this
      · have := cell2 4 (by omega); simpa [evCells] using this
      · have := cell2 5 (by omega); simpa [evCells] using this
    · obtain ⟨k, hk, rfl⟩ := List.mem_map.1 hz
      exact (hX k (by have := List.mem_range.1 hk; omega)).1
end Go.Proofs.YtglafbajbiengaaGreat
