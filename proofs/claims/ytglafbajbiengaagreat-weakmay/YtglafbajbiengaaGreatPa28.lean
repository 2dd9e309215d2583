/- What the laws of this seat stand on, part 28. -/
import Derived.Test.YtglafbajbiengaaGreatPa0
import Derived.Test.YtglafbajbiengaaGreatPa21
import Derived.Test.YtglafbajbiengaaGreatPa23
import Derived.Test.YtglafbajbiengaaGreatPa27
set_option linter.unusedVariables false
set_option linter.unusedSimpArgs false
set_option maxRecDepth 100000
set_option maxHeartbeats 40000000
namespace Go.Proofs.YtglafbajbiengaaGreat
open Go.ChangeShapes Go.WideShapes Go.ChangeAt Go.RowKit Go.Maps
theorem mayL_mem {chans : List Int} {t : List EvD} {th x y : Int} (h : y ∈ mayL chans t th x) : y = -1 ∨ ∃ i : Nat, y = i ∧ i < t.length := by
  unfold mayL at h
  rcases List.mem_append.1 h with h | h
  · obtain ⟨i, hi, rfl⟩ := List.mem_map.1 h
    have := (List.mem_filter.1 hi).1
    simp at this
    exact .inr ⟨i, rfl, this⟩
  · split at h
    · simp at h; exact .inl h
    · simp at h
theorem mayL_pos (chans : List Int) (t : List EvD) (th x : Int) : 0 < (mayL chans t th x).length := by
  unfold mayL
  rw [List.length_append]
  by_cases hk : knL chans t th x = []
  · rw [if_pos hk]; simp
  · have hr : (knL chans t th x).Pairwise (· < ·) := (pastI_rise _ _ _).filter _
    have hz := List.getLast_mem hk
    have hlast : ∀ k ∈ knL chans t th x, k ≤ (knL chans t th x).getLast hk := fun k hm => by
      obtain ⟨n, hn, rfl⟩ := List.mem_iff_getElem.1 hm
      rw [List.getLast_eq_getElem]
      by_cases e : n = (knL chans t th x).length - 1
      · subst e; exact Nat.le_refl _
      · exact Nat.le_of_lt (List.pairwise_iff_getElem.1 hr n _ hn (by omega) (by omega))
    generalize (knL chans t th x).getLast hk = z at *
    have hst : stP t x z = true := by unfold knL at hz; exact (List.mem_filter.1 hz).2
    have hzl := knL_below z hz
    have hov : ovB chans t (knL chans t th x) z = false := by
      rcases h : ovB chans t (knL chans t th x) z with _ | _
      · rfl
      · unfold ovB at h
        rw [List.any_eq_true] at h
        obtain ⟨k, hk1, hk2⟩ := h
        have := ((befB_iff (dirB_up _ _)).1 hk2).lt (dirB_up _ _)
        have := hlast k hk1
        omega
    have : (z : Int) ∈ (((List.range t.length).reverse.filter fun i => stP t x i && !ovB chans t (knL chans t th x) i).map fun i : Nat => (i : Int)) :=
      List.mem_map.2 ⟨z, List.mem_filter.2 ⟨by simpa using hzl, by rw [hst, hov]; rfl⟩, rfl⟩
    have := List.length_pos_of_mem this
    omega
/-- The number of an event's place; at the beginning: 0. -/
def numV (tr : List EvD) (y : Int) : Int := if y = -1 then 0 else ((tr[y.toNat]?).map EvD.val).getD 0
def loadV (chans : List Int) (tr : List EvD) (k obj back : Int) : Int := numV tr (((mayL chans tr k obj)[bkI (mayL chans tr k obj) back]?).getD (-1))
theorem inv_reg {m : Nat → Int} {code : List (List InsD)} (I : Inv m code) (hl : code.length ≤ 6) {k r : Nat} (hk : k < 6) (hr : r < 4) (v : Int) : Inv (upd m (1 + k * 6 + 2 + r) v) code := by
  have hne : ∀ i, (∀ k' : Nat, i ≠ 1 + k * 6 + 2 + r) → upd m (1 + k * 6 + 2 + r) v i = m i := fun i h => by unfold upd; rw [if_neg (h 0)]
  refine ⟨fun j c hj => ?_, I.fit, fun c hc => ?_⟩
  · obtain ⟨p, hp, hpl⟩ := I.pc j c hj
    exact ⟨p, by rw [hne _ (fun _ => by omega)]; exact hp, hpl⟩
  · have := I.chan c hc
    rw [hne _ (fun _ => by omega), hne _ (fun _ => by omega)]
    exact this
theorem numberW_any {q0 q1 q2 q3 q4 q5 q6 : Value} {r : Nat} {a0 kv : Value} (a : Option Addr) (cap : Nat) (tr : List EvD) (y : Int) (w : World) (hb : w.heap[r]? = some (.cells #[a0, q0, q1, q2, q3, q4, q5, q6, kv, .slice a tr.length cap] 74)) (he : EvsIn w w.heap.size a tr) (hy : y = -1 ∨ ∃ i : Nat, y = i ∧ i < tr.length) :
    Calls Tryz.prog 45 #[.pointer (some ⟨r, 0, none⟩), .int .i64 y] w fun e w' => e = .returned (.int .i64 (numV tr y)) ∧ w = w' := by
  obtain ⟨_, _, _, _, _, _, _, _, _, c9⟩ := cells10 hb
  rcases hy with rfl | ⟨i, rfl, hi⟩
  · clear he hb
    go_enter Tryz.func45, Tryz.ntmps45
    go_wp2
    go_ret
    exact ⟨rfl, rfl⟩
  · obtain ⟨e, hx⟩ := at_lt hi
    obtain ⟨g, o, rfl, hg, h0, h1, h2, h3, h4, h5⟩ := he i e hx
    have hne : ((i : Int) == -1) = false := by rw [beq_eq_false_iff_ne]; omega
    have hil : (i : Int) < (tr.length : Int) := by omega
    have HN : Hid (numV tr (i : Int) = e.val) := Lib.hid (by unfold numV; rw [if_neg (by omega)]; simp [hx])
    clear he hb hx
    go_enter Tryz.func45, Tryz.ntmps45
    go_wp2
    go_ret
    exact ⟨by rw [HN.out]; rfl, rfl⟩
/-- What a load's step is: its thread, its instruction. -/
theorem load_parts {code : List (List InsD)} {m : Nat → Int} (I : Inv m code) {k : Int} (hc : canM code m k = true) (hop : (stepE code m k).op = 7) : ∃ (j pc ra : Nat) (c : List InsD) (x : InsD), k = j ∧ j < code.length ∧ code[j]? = some c ∧ c[pc]? = some x ∧ x.op = 7 ∧ x.a = (ra : Int) ∧ ra < 4 ∧ (stepE code m k).th = (j : Int) ∧ (stepE code m k).pc = (pc : Int) ∧ (stepE code m k).obj = x.b ∧ 0 ≤ x.b ∧ x.b < 8 ∧ (stepE code m k).mode = 0 ∧ insM code m j = some x := by
  obtain ⟨j, x, rfl, hj, hx, _, _⟩ := canM_parts hc
  have hx2 := hx
  unfold insM at hx2
  rcases hq : code[j]? with _ | c
  · simp [hq] at hx2
  simp only [hq, Option.bind_some] at hx2
  obtain ⟨p, hp, hpl⟩ := I.pc j c hq
  have he : stepE code m (j : Int) = evD m j x := by simp [stepE, hc, hx]
  rw [he] at hop ⊢
  have ho : x.op = 7 := by have h9 : (x.op : Int) = 7 := hop; omega
  have hf := I.fit j c hq x (List.mem_of_getElem? hx2)
  unfold InsFit at hf
  rw [ho] at hf
  obtain ⟨⟨ra, a0, a1⟩, ⟨rb, b0, b1⟩⟩ := hf
  rw [hp, Int.toNat_natCast] at hx2
  refine ⟨j, p, x.a.toNat, c, x, rfl, hj, hq, hx2, ho, by omega, by omega, rfl, hp, ?_, by omega, by omega, ?_, hx⟩
  · simp [evD, doE, ho, edE, upd]
  · simp [evD, doE, ho, edE, upd]
theorem keepS3 {u : World} {r g : Nat} {a0 a1 a2 a3 a4 a5 a6 a7 a8 : Value} (hne : r ≠ g) {v : Value} (h : u.cell? ⟨r, 1, none⟩ = some a0 ∧ u.cell? ⟨r, 2, none⟩ = some a1 ∧ u.cell? ⟨r, 3, none⟩ = some a2 ∧ u.cell? ⟨r, 4, none⟩ = some a3 ∧ u.cell? ⟨r, 5, none⟩ = some a4 ∧ u.cell? ⟨r, 6, none⟩ = some a5 ∧ u.cell? ⟨r, 7, none⟩ = some a6 ∧ u.cell? ⟨r, 9, none⟩ = some a7 ∧ u.cell? ⟨g, 3, none⟩ = some a8) : (u.setCell ⟨g, 4, none⟩ v).cell? ⟨r, 1, none⟩ = some a0 ∧ (u.setCell ⟨g, 4, none⟩ v).cell? ⟨r, 2, none⟩ = some a1 ∧ (u.setCell ⟨g, 4, none⟩ v).cell? ⟨r, 3, none⟩ = some a2 ∧ (u.setCell ⟨g, 4, none⟩ v).cell? ⟨r, 4, none⟩ = some a3 ∧ (u.setCell ⟨g, 4, none⟩ v).cell? ⟨r, 5, none⟩ = some a4 ∧ (u.setCell ⟨g, 4, none⟩ v).cell? ⟨r, 6, none⟩ = some a5 ∧ (u.setCell ⟨g, 4, none⟩ v).cell? ⟨r, 7, none⟩ = some a6 ∧ (u.setCell ⟨g, 4, none⟩ v).cell? ⟨r, 9, none⟩ = some a7 ∧ (u.setCell ⟨g, 4, none⟩ v).cell? ⟨g, 3, none⟩ = some a8 := by
  have hs : ∀ o, (u.setCell ⟨g, 4, none⟩ v).cell? ⟨r, o, none⟩ = u.cell? ⟨r, o, none⟩ := fun o => cell_same (Below.heap_setCell u ⟨g, 4, none⟩ v r hne) o
  obtain ⟨h0, h1, h2, h3, h4, h5, h6, h7, h8⟩ := h
  exact ⟨(hs _).trans h0, (hs _).trans h1, (hs _).trans h2, (hs _).trans h3, (hs _).trans h4, (hs _).trans h5, (hs _).trans h6, (hs _).trans h7, (World.cell?_setCell_other _ _ _ _ (fun e => by injection e with _ e2 _; omega)).trans h8⟩
theorem keepS4 {u : World} {r g b tb ib o1 o2 o : Nat} {a0 a1 a2 a3 a4 a5 : Value} (h1 : r ≠ b) (h2 : tb ≠ b) (h3 : g ≠ b) (h4 : ib ≠ b) {v : Value} (h : u.cell? ⟨r, 0, none⟩ = some a0 ∧ u.cell? ⟨r, 7, none⟩ = some a1 ∧ u.cell? ⟨tb, o1, none⟩ = some a2 ∧ u.cell? ⟨g, 1, none⟩ = some a3 ∧ u.cell? ⟨ib, o2, none⟩ = some a4 ∧ u.cell? ⟨g, 4, none⟩ = some a5) : (u.setCell ⟨b, o, none⟩ v).cell? ⟨r, 0, none⟩ = some a0 ∧ (u.setCell ⟨b, o, none⟩ v).cell? ⟨r, 7, none⟩ = some a1 ∧ (u.setCell ⟨b, o, none⟩ v).cell? ⟨tb, o1, none⟩ = some a2 ∧ (u.setCell ⟨b, o, none⟩ v).cell? ⟨g, 1, none⟩ = some a3 ∧ (u.setCell ⟨b, o, none⟩ v).cell? ⟨ib, o2, none⟩ = some a4 ∧ (u.setCell ⟨b, o, none⟩ v).cell? ⟨g, 4, none⟩ = some a5 := by
  have hs : ∀ q, q ≠ b → ∀ i, (u.setCell ⟨b, o, none⟩ v).cell? ⟨q, i, none⟩ = u.cell? ⟨q, i, none⟩ := fun q hq i => cell_same (Below.heap_setCell u ⟨b, o, none⟩ v q hq) i
  exact ⟨(hs _ h1 _).trans h.1, (hs _ h1 _).trans h.2.1, (hs _ h2 _).trans h.2.2.1, (hs _ h3 _).trans h.2.2.2.1, (hs _ h4 _).trans h.2.2.2.2.1, (hs _ h3 _).trans h.2.2.2.2.2⟩
/-- What a load's pick leaves of a state. -/
def ldM (code : List (List InsD)) (m : Nat → Int) (k v : Int) : Nat → Int := match insM code m k.toNat with
  | some x => upd (stepM code m k) (1 + k.toNat * 6 + 2 + x.a.toNat) v
  | none => stepM code m k
theorem Pw.aside {q0 q1 q2 q3 q4 q5 q6 : Value} {u0 u : World} {r b hi : Nat} {pv kv tv : Value} {m : Nat → Int} {code : List (List InsD)} {pr pk : List Int} {tr : List EvD} (h : Pw q0 q1 q2 q3 q4 q5 q6 u0 u r b hi pv kv tv m code pr pk tr) {g i : Nat} {v : Value} (hg : u0.heap.size ≤ g) (h1 : pv.ownBlock ≠ some g) (h2 : kv.ownBlock ≠ some g) (h3 : tv.ownBlock ≠ some g) : Pw q0 q1 q2 q3 q4 q5 q6 u0 (u.setCell ⟨g, i, none⟩ v) r b hi pv kv tv m code pr pk tr := by
  have hr0 := h.hr0
  have hb := h.hb
  have hr := h.hr
  have T : Touch (fun j => j = g) u (u.setCell ⟨g, i, none⟩ v) := (Touch.of_below (Below.refl _ _)).set rfl
  exact ⟨h.st.aside (by omega) h1 (.inr (by omega)), h.inv, (T.block r (by have := h.touch.size; omega) (by omega)).trans h.box, h.hb, h.hr, h.hr0, h.pvAt, own_touch h.picks T (fun q e e' => h2 (e' ▸ e)), own_touch h.trace T (fun q e e' => h3 (e' ▸ e)), h.a1, h.a2, h.a3, h.touch.trans T (fun k hk e => by omega)⟩
theorem mayL_len (chans : List Int) (t : List EvD) (th x : Int) : (mayL chans t th x).length ≤ t.length + 1 := by
  unfold mayL
  rw [List.length_append, List.length_map]
  have := List.length_filter_le (fun i => stP t x i && !ovB chans t (knL chans t th x) i) (List.range t.length).reverse
  rw [List.length_reverse, List.length_range] at this
  split <;> simp only [List.length_cons, List.length_nil] <;> omega
theorem takeW_load (p : ProgD) {q0 q1 q2 q4 q5 : Value} {ca pta : Option Addr} {ccap ptc bx : Nat} {u0 uP u : World} {r b hi : Nat} {m : Nat → Int} {pr pk : List Int} {tr : List EvD} (h : Rw q0 q1 q2 (.slice ca p.chans.length ccap) q4 q5 (.slice pta p.threads.length ptc) u0 uP r b hi m p.threads pr pk tr) (hBu : Below uP.heap.size uP u) (hbx0 : uP.heap.size ≤ bx)
    (hP : ProgIn u0 b p ca pta) (hcl : p.chans.length ≤ 1000000) (hcw : ∀ c ∈ p.chans, -9223372036854775808 ≤ c ∧ c ≤ 9223372036854775807) (hq : (#[q0, q1, q2, .slice ca p.chans.length ccap, q4, q5, .slice pta p.threads.length ptc] : Array Value).all (·.oneCell') = true)
    (hpl : pr.length ≤ 1000000) (hpk : pk.length ≤ 1000000) (htr : tr.length ≤ 899) (hW : ∀ e ∈ tr, EvW e) (k n : Int) (hn : -9223372036854775808 ≤ n ∧ n ≤ 9223372036854775807) (hbx : Boxed u bx 3 (.int .i64 n)) (hc : canM p.threads m k = true) (hop : (stepE p.threads m k).op = 7) :
    Calls Tryz.prog 28 #[.pointer (some ⟨r, 0, none⟩), .int .i64 k, .func (.func 47) #[] #[.pointer (some ⟨bx, 0, none⟩)]] u fun e w' => e = .returned (.tuple #[]) ∧ Rw q0 q1 q2 (.slice ca p.chans.length ccap) q4 q5 (.slice pta p.threads.length ptc) u0 w' r b hi (ldM p.threads m k (loadV p.chans tr k (stepE p.threads m k).obj n)) p.threads (pr ++ stepT p.threads m k) (pk ++ [k]) (tr ++ [{ stepE p.threads m k with val := loadV p.chans tr k (stepE p.threads m k).obj n }]) := by
  obtain ⟨pv, kv, tv, h0⟩ := h
  have hbx3 : pv.ownBlock ≠ some bx := fun e => absurd (own_lt h0.st.own _ e).1 (by omega)
  have hbx1 : bx ≠ b := by have := h0.st.lt; omega
  have h := h0.later hBu
  clear h0 hBu hbx0
  obtain ⟨j, pc, ra, c, x, rfl, hj, hcj, hcx, ho7, hxa, hra, t0', t1', t3', b0, b1, t5', hix⟩ := load_parts h.inv hc hop
  have hld : ∀ v, ldM p.threads m (j : Int) v = upd (stepM p.threads m (j : Int)) (1 + j * 6 + 2 + ra) v := fun v => by
    unfold ldM; rw [Int.toNat_natCast, hix]
    show upd _ (1 + j * 6 + 2 + x.a.toNat) v = _
    rw [hxa, Int.toNat_natCast]
  rw [hld]
  clear hld hix
  obtain ⟨c0, _⟩ := cells10 h.box
  obtain ⟨t0, ti, tz0, tz1, tz2⟩ := info_parts info_intT
  obtain ⟨i0, ii, iz0, iz1, iz2⟩ := info_parts info_eventT
  have hC := st_step h.st h.inv hpl (j : Int)
  rw [hc, stepV_E] at hC
  generalize stepE p.threads m (j : Int) = ev at *
  obtain ⟨e0, e1, e2, e3, e4, e5⟩ := ev
  simp only at hop t0' t1' t3' t5'
  subst hop t0' t1' t5'
  simp only [EvD.v] at hC
  have he3 : 0 ≤ e3 ∧ e3 < 8 := by omega
  clear t3' b0 b1 ho7
  have HC := Lib.hid hC
  obtain ⟨ka, kc, rfl⟩ := st_slice h.picks
  obtain ⟨ta, tc, rfl⟩ := st_slice h.trace
  have htc : tr.length ≤ tc := by
    rcases h.trace.2 with ⟨h1, h2⟩ | ⟨_, _, _, h1, _, _, h2, _⟩
    · omega
    · injection h1 with _ _ h1; omega
  have hlen6 := h.st.len
  have HH := Lib.hid h
  have hr0 := h.hr0
  have hsz := h.touch.size
  have hbhi := h.hb
  have hhir := h.hr
  have HPr := Lib.hid hP
  have hj6 : j < 6 := by omega
  have HBx := Lib.hid hbx
  have hbxl := hbx.lt
  have HQ := Lib.hid hq
  have HWt := Lib.hid hW
  have HCw := Lib.hid hcw
  clear h hc hC hP hbx hq hW hcw
  have HLv : Hid (∀ y, (mayL p.chans tr (j : Int) e3)[bkI (mayL p.chans tr (j : Int) e3) n]? = some y → loadV p.chans tr (j : Int) e3 n = numV tr y) := Lib.hid (fun y hy => by unfold loadV; rw [hy]; rfl)
  generalize loadV p.chans tr (j : Int) e3 n = v at *
  have hcf := cf_of Tryz.func47 (by kernel_rfl) (by kernel_rfl)
  go_enter Tryz.func28, Tryz.ntmps28
  go_upto_region 3 with (first
    | (go_at_call 44; refine HC.out.mono ?_; rintro e w1 ⟨rfl, I', _, pv', S', T', ho⟩; have hP0 := HH.out.stepped S' I' T' ho; have hw1 := T'.size; have HBx1 : Hid (Boxed w1 bx 3 (.int .i64 n)) := Lib.hid ((T'.block bx hbxl (fun e => e.elim hbx1 hbx3)).trans HBx.out); have HW1 : Hid (∀ g, (Value.slice ka pk.length kc).ownBlock = some g → g < w1.heap.size) := Lib.hid (fun g e => (own_lt hP0.picks g e).1); have HW2 : Hid (∀ g, (Value.slice ta tr.length tc).ownBlock = some g → g < w1.heap.size) := Lib.hid (fun g e => (own_lt hP0.trace g e).1); have HW3 : Hid (∀ g, pv'.ownBlock = some g → g < w1.heap.size) := Lib.hid (fun g e => (own_lt hP0.st.own g e).1); have HP := Lib.hid (hP0.later (below_box w1 (evC j pc 7 e3 e4 0))); clear S' T' ho I' hP0))
  generalize hV : World.alloc w1 _ = V
  have HE : Hid (V.heap[w1.heap.size]? = some (evC j pc 7 e3 e4 0)) := Lib.hid (by rw [← hV]; exact heap_alloc_new _ _)
  have HPV : Hid (Pw q0 q1 q2 (.slice ca p.chans.length ccap) q4 q5 (.slice pta p.threads.length ptc) u0 V r b hi pv' (.slice ka pk.length kc) (.slice ta tr.length tc) (stepM p.threads m (j : Int)) p.threads (pr ++ stepT p.threads m (j : Int)) pk tr) := Lib.hid (by rw [← hV]; exact HP.out)
  have HBxV : Hid (Boxed V bx 3 (.int .i64 n)) := Lib.hid (by rw [← hV]; exact HBx1.out.alloc _)
  have hgu : u0.heap.size ≤ w1.heap.size := by omega
  clear hV HP HC HH c0 HBx HBx1
  have HVr : Hid (∀ (u' : World), Below V.heap.size V u' → ∀ g, g < b → u'.heap[g]? = u0.heap[g]?) := Lib.hid (fun u' hB g hg => by
    have h1 := HPV.out.touch
    exact (hB.block g (by have := h1.size; omega)).trans (h1.block g (by omega) (by omega)))
  have HCh : Hid (∀ (u' : World), Below V.heap.size V u' → ChIn u' ca p.chans) := Lib.hid (fun u' hB => ⟨(HPr.out.chans.same fun g hg => HVr.out u' hB g hg).wide (by have h1 := HPV.out.touch.size; have h2 := hB.size; omega), hcl, HCw.out⟩)
  have HEv := Lib.hid (evsIn_own HPV.out.trace)
  have HMay := Lib.hid (fun (u' : World) (hB : Below V.heap.size V u') => may_any q0 q1 q2 ca ccap p.chans q4 q5 (.slice pta p.threads.length ptc) ta tc tr (j : Int) e3 u' (HCh.out u' hB) (HEv.out.later hB) HWt.out (WalkArith.wf_i64 (by omega)) (WalkArith.wf_i64 (by omega)) htr htc HQ.out)
  have HMp := Lib.hid (mayL_pos p.chans tr (j : Int) e3)
  have HMm := Lib.hid (fun y h => mayL_mem (chans := p.chans) (t := tr) (th := (j : Int)) (x := e3) (y := y) h)
  have hMl := mayL_len p.chans tr (j : Int) e3
  unfold MayE at HMay
  generalize mayL p.chans tr (j : Int) e3 = ML at *
  have HGk : Hid ((Value.slice ka pk.length kc).ownBlock ≠ some w1.heap.size) := Lib.hid (fun e => absurd (HW1.out _ e) (by omega))
  have HGt : Hid ((Value.slice ta tr.length tc).ownBlock ≠ some w1.heap.size) := Lib.hid (fun e => absurd (HW2.out _ e) (by omega))
  have HGp : Hid (pv'.ownBlock ≠ some w1.heap.size) := Lib.hid (fun e => absurd (HW3.out _ e) (by omega))
  clear HW1 HW2 HW3 hw1
  generalize w1.heap.size = g at *
  have HQs := Lib.hid HQ.out
  simp only [List.all_toArray, List.all_cons, List.all_nil, Bool.and_true, Bool.and_eq_true] at HQs
  have HKX : Hid (∀ u : World, Below V.heap.size V u → (u.cell? ⟨r, 1, none⟩ = some q0 ∧ u.cell? ⟨r, 2, none⟩ = some q1 ∧ u.cell? ⟨r, 3, none⟩ = some q2 ∧ u.cell? ⟨r, 4, none⟩ = some (.slice ca p.chans.length ccap) ∧ u.cell? ⟨r, 5, none⟩ = some q4 ∧ u.cell? ⟨r, 6, none⟩ = some q5 ∧ u.cell? ⟨r, 7, none⟩ = some (.slice pta p.threads.length ptc) ∧ u.cell? ⟨r, 9, none⟩ = some (.slice ta tr.length tc) ∧ u.cell? ⟨g, 3, none⟩ = some (.int .i64 e3))) := Lib.hid (fun u hB => by
    obtain ⟨_, r1, r2, r3, r4, r5, r6, r7, _, r9⟩ := cells10 (HPV.out.later hB).box
    have hE := old_later HE.out hB
    exact ⟨r1, r2, r3, r4, r5, r6, r7, r9, (cells6 hE).2.2.2.1⟩)
  have HL := Lib.hid (Below.refl V.heap.size V).drew
  have KX := HKX.out _ HL.out
  have hMl2 : ML.length ≤ 1000000 := by omega
  have hrg : r ≠ g := by omega
  go_region_held3 (fun u => u.cell? ⟨r, 1, none⟩ = some q0 ∧ u.cell? ⟨r, 2, none⟩ = some q1 ∧ u.cell? ⟨r, 3, none⟩ = some q2 ∧ u.cell? ⟨r, 4, none⟩ = some (.slice ca p.chans.length ccap) ∧ u.cell? ⟨r, 5, none⟩ = some q4 ∧ u.cell? ⟨r, 6, none⟩ = some q5 ∧ u.cell? ⟨r, 7, none⟩ = some (.slice pta p.threads.length ptc) ∧ u.cell? ⟨r, 9, none⟩ = some (.slice ta tr.length tc) ∧ u.cell? ⟨g, 3, none⟩ = some (.int .i64 e3)) (first | with_reducible exact KX | exact keepS3 hrg KX | fail)
    (first
      | (have _g := HY; go_at_call 45; refine (numberW_any ta tc tr y _ (HPV.out.later HL.out).box (HEv.out.later HL.out) (HMm.out y (List.mem_of_getElem? HY.out))).mono ?_; rintro e w5 ⟨rfl, rfl⟩)
      | (have _g := HR; (first | go_at_call 47 | skip); refine (back1_any bx n ma mc ML _ (boxed_at HBxV.out HL.out) HR.out HMp.out hMl2 hn).mono ?_; rintro e w5 ⟨⟨y, hy, rfl⟩, rfl⟩; have HY := Lib.hid hy; clear hy)
      | (go_at_call 8; refine (HMay.out _ HL.out).mono ?_; rintro e w5 ⟨ma, mc, rfl, hmr, hB⟩; have HL := Lib.hid (below_next HL.out hB); have HR := Lib.hid hmr; have KX := HKX.out _ HL.out; have hE5 := old_later HE.out HL.out; have g4 := (cells6 hE5).2.2.2.2.1; have gf := frozen_of_row _ _ 4 _ _ hE5; clear hB hmr hE5))
  have hv : numV tr y = v := (HLv.out y HY.out).symm
  rw [hv]
  clear hv
  generalize hV4 : World.setCell w5 _ _ = V4
  have HE4 : Hid (V4.heap[g]? = some (evC j pc 7 e3 v 0)) := Lib.hid (by rw [← hV4, stSet_block _ _ _ _ (old_later HE.out HL.out)]; rfl)
  have HP4 : Hid (Pw q0 q1 q2 (.slice ca p.chans.length ccap) q4 q5 (.slice pta p.threads.length ptc) u0 V4 r b hi pv' (.slice ka pk.length kc) (.slice ta tr.length tc) (stepM p.threads m (j : Int)) p.threads (pr ++ stepT p.threads m (j : Int)) pk tr) := Lib.hid (by rw [← hV4]; exact (HPV.out.later HL.out).aside hgu HGp.out HGk.out HGt.out)
  clear hV4 KX HKX HL HR HY g4 gf HMay HEv HCh HVr HBxV HPV HE HLv HMm HMp HQs
  obtain ⟨tb, tq, rfl, htb, a', icap, ht1, hcode⟩ := HPr.out.threads j c hcj
  obtain ⟨ib, io, rfl, hib, hin⟩ := hcode pc x hcx
  have hin1 := hin.2.1
  rw [hxa] at hin1
  have hpcl := (List.getElem?_eq_some_iff.1 hcx).1
  have hpc' : (pc : Int) < (c.length : Int) := by omega
  have hj' : (j : Int) < (p.threads.length : Int) := by omega
  have HV4 : Hid (∀ (u' : World), Below V4.heap.size V4 u' → ∀ g, g < b → u'.heap[g]? = u0.heap[g]?) := Lib.hid (fun u' hB g hg => by
    have h1 := HP4.out.touch
    exact (hB.block g (by have := h1.size; omega)).trans (h1.block g (by omega) (by omega)))
  have HKX : Hid (∀ u : World, Below V4.heap.size V4 u → (u.cell? ⟨r, 0, none⟩ = some (.pointer (some ⟨b, 0, none⟩)) ∧ u.cell? ⟨r, 7, none⟩ = some (.slice (some ⟨tb, tq, none⟩) p.threads.length ptc) ∧ u.cell? ⟨tb, tq + j, none⟩ = some (.slice (some ⟨ib, io, none⟩) c.length icap) ∧ u.cell? ⟨g, 1, none⟩ = some (.int .i64 (pc : Int)) ∧ u.cell? ⟨ib, io + pc * 4 + 1, none⟩ = some (.int .i64 (ra : Int)) ∧ u.cell? ⟨g, 4, none⟩ = some (.int .i64 v))) := Lib.hid (fun u hB => by
    obtain ⟨r0, _, _, _, _, _, _, r7, _, _⟩ := cells10 (HP4.out.later hB).box
    have hE := cells6 (old_later HE4.out hB)
    exact ⟨r0, r7, (cell_same (HV4.out u hB tb htb) _).trans ht1, hE.2.1, (cell_same (HV4.out u hB ib hib) _).trans hin1, hE.2.2.2.2.1⟩)
  clear hcx hcj hcode hin hin1 ht1
  go_upto_region 4 with (fail)
  have HL := Lib.hid (Below.refl V4.heap.size V4).drew
  have KX := HKX.out _ HL.out
  have k1 : r ≠ b := by omega
  have k2 : tb ≠ b := by omega
  have k3 : g ≠ b := by omega
  have k4 : ib ≠ b := by omega
  have HS := Lib.hid (set_yes (HP4.out.later HL.out).st j ra v hj hra)
  go_region_held3 (fun u => u.cell? ⟨r, 0, none⟩ = some (.pointer (some ⟨b, 0, none⟩)) ∧ u.cell? ⟨r, 7, none⟩ = some (.slice (some ⟨tb, tq, none⟩) p.threads.length ptc) ∧ u.cell? ⟨tb, tq + j, none⟩ = some (.slice (some ⟨ib, io, none⟩) c.length icap) ∧ u.cell? ⟨g, 1, none⟩ = some (.int .i64 (pc : Int)) ∧ u.cell? ⟨ib, io + pc * 4 + 1, none⟩ = some (.int .i64 (ra : Int)) ∧ u.cell? ⟨g, 4, none⟩ = some (.int .i64 v)) (first | with_reducible exact KX | exact keepS4 k1 k2 k3 k4 KX | fail)
    (first | (go_at_call 46; refine HS.out.mono ?_; rintro e w6 ⟨rfl, rfl⟩))
  generalize hV5 : World.drew (World.setCell V4 _ _) = V
  have HPV : Hid (Pw q0 q1 q2 (.slice ca p.chans.length ccap) q4 q5 (.slice (some ⟨tb, tq, none⟩) p.threads.length ptc) u0 V r b hi pv' (.slice ka pk.length kc) (.slice ta tr.length tc) (upd (stepM p.threads m (j : Int)) (1 + j * 6 + 2 + ra) v) p.threads (pr ++ stepT p.threads m (j : Int)) pk tr) := Lib.hid (by
    rw [← hV5]
    exact (HP4.out.stepped (HP4.out.st.set (1 + j * 6 + 2 + ra) v _ (valAt_i (by simp [isB]; omega) (by omega)).symm (by omega) (by omega)) (inv_reg HP4.out.inv hlen6 hj6 hra v) ((Touch.of_below (Below.refl _ _)).set (.inl rfl)) (.inl rfl)).later (Below.refl _ _).drew)
  have HE : Hid (V.heap[g]? = some (evC j pc 7 e3 v 0)) := Lib.hid (by
    rw [← hV5]
    exact old_later ((Below.heap_setCell _ _ _ _ k3).trans HE4.out) (Below.refl _ _).drew)
  clear hV5 KX HKX HL HS HV4 HP4 HE4
  have HGA0 := HGk
  have hka : ∀ g, (Value.slice ka pk.length kc).ownBlock = some g → u0.heap.size ≤ g ∧ g < V.heap.size := fun g e => ⟨(own_lt HPV.out.picks g e).2, (own_lt HPV.out.picks g e).1⟩
  have hVs := HPV.out.touch.size
  have hgV : g < V.heap.size := (Array.getElem?_eq_some_iff.1 HE.out).1
  obtain ⟨d0, _, _, _, _, _, _, _, d8, _⟩ := cells10 HPV.out.box
  have HGA : Hid ((Value.slice ka pk.length kc).ownBlock ≠ some g) := Lib.hid (HGA0.out)
  go_upto_region 6 with (first
    | (at_builtin; refine wpList_append_own_at _ rfl _ _ 23 rfl u0.heap.size 3 t0 (.int .i64 0) 1 8 Tryz.underlying23 ti tz0 tz1 tz2 rfl (by decide) (.slice ka pk.length kc) pk.length (pk.map (.int .i64 ·)) rfl (own_later HPV.out.picks (below_box _ _)) ⟨V.heap.size, 0, none⟩ 1 1 [.int .i64 (j : Int)] rfl rfl (st_one_newW _ _ _) (by simp [Value.oneCell']) (by unfold maxLen; omega) (by omega) (by simp; omega) ?_; intro v' w3 hown3 hgrow3 _ hat3; obtain ⟨ka', kc', rfl⟩ := st_slice hown3; have b3 := hgrow3.block r (by simp; omega) (fun e => by have := hka r e.symm; omega); have hbx := b3.trans (HPV.out.later (below_box _ _)).box; obtain ⟨c30, _, _, _, _, _, _, _, c38, _⟩ := cells10 hbx; have f3 := frozen_of_row _ _ 8 _ _ hbx; have he3 := (hgrow3.block g (by simp; omega) (fun e => HGA.out e.symm)).trans ((Below.heap_alloc _ _ _ hgV).trans HE.out); have HP3 := Lib.hid ((HPV.out.later (below_box _ _)).pick (j : Int) hown3 hgrow3 hat3); have HE3 := Lib.hid he3; clear hown3 hgrow3 hat3 b3 hbx he3))
  generalize hU : World.setCell w3 _ _ = U
  have hP : Pw q0 q1 q2 (.slice ca p.chans.length ccap) q4 q5 (.slice (some ⟨tb, tq, none⟩) p.threads.length ptc) u0 U r b hi pv' (.slice ka' (pk.length + 1) kc') (.slice ta tr.length tc) (upd (stepM p.threads m (j : Int)) (1 + j * 6 + 2 + ra) v) p.threads (pr ++ stepT p.threads m (j : Int)) (pk ++ [(j : Int)]) tr := by rw [← hU]; exact HP3.out
  have hE : U.heap[g]? = some (evC j pc 7 e3 v 0) := by rw [← hU]; exact (Below.heap_setCell _ _ _ _ (by simp only; omega)).trans HE3.out
  clear hU HP3 HE3 f3 HPV HE d0 d8 c30 c38
  obtain ⟨c2, _, _, _, _, _, _, _, _, c9⟩ := cells10 hP.box
  obtain ⟨v0, v1, v2, v3, v4, v5⟩ := cells6 hE
  have hrl : r < U.heap.size := cell_lt c2
  have hgl : g < U.heap.size := cell_lt v0
  have c2' : ∀ o, (U.alloc o).cell? ⟨r, 9, none⟩ = some (.slice ta tr.length tc) := fun o => ((below_box U o).cell (p := ⟨r, 9, none⟩) hrl).trans c9
  have HP := Lib.hid hP
  clear hP hE
  go_region_law ((rw [if_pos (by rfl)]); refine wp_append_own_at _ (.tmp 74) (.tmp 76) 27 rfl u0.heap.size 31 i0 (evV 0 0 0 0 0 0) 6 48 Tryz.underlying27 ii iz0 iz1 iz2 rfl (by decide) (.slice ta tr.length tc) tr.length (evsCells tr) rfl (own_later HP.out.trace (below_box U _).drew) ⟨U.heap.size, 0, none⟩ 1 1 (evCells ⟨(j : Int), (pc : Int), 7, e3, v, 0⟩) rfl rfl (cells_ev_new U ⟨(j : Int), (pc : Int), 7, e3, v, 0⟩ _) (ev_one _) (by unfold maxLen; omega) (by omega) (by simp; omega) ?_; intro v' w4 hown' hgrow _ hat; obtain ⟨ta', tc', rfl⟩ := st_slice hown'; have hq := HP.out.later ((below_box U (evC j pc 7 e3 v 0)).drew); have b9 := (hgrow.block r (by simp; omega) (fun e => by have := (own_lt HP.out.trace _ e.symm).2; omega)).trans hq.box; obtain ⟨_, _, _, _, _, _, _, _, _, c99⟩ := cells10 b9; have f9 := frozen_of_row _ _ 9 _ _ b9)
  all_goals
    have hfin := hq.event ⟨(j : Int), (pc : Int), 7, e3, v, 0⟩ hown' hgrow hat
    go_wp2
    go_end0
    exact ⟨rfl, _, _, _, hfin⟩
theorem edE_app : ∀ (l l' : List Ed) (m : Nat → Int), edE (l ++ l') m = edE l' (edE l m)
  | [], l', m => rfl
  | .e i v :: l, l', m => edE_app l l' (upd m i v)
  | .m i v :: l, l', m => edE_app l l' m
theorem takeE_ed (m : Nat → Int) (o : Nat) (f : Nat → Int) : edE (takeE m o).2.2 f = f := by
  unfold takeE
  split <;> rfl
theorem fit_le {n : Nat} {a : Int} (h : Fit n a) (hn : n ≤ 1000) : 0 ≤ a ∧ a < 1000 := by
  obtain ⟨q, h1, h2⟩ := h
  omega
/-- An event's object is small. -/
theorem obj_fit {m : Nat → Int} {k nt n : Nat} {x : InsD} (hf : InsFit nt n x) (hnt : nt ≤ 6) : 0 ≤ edE (doE m k x).1 (fun _ => 0) 3 ∧ edE (doE m k x).1 (fun _ => 0) 3 < 1000 := by
  obtain ⟨op, a, b, c⟩ := x
  unfold InsFit at hf
  unfold doE
  simp only at hf ⊢
  split at hf <;> simp only [edE, edE_app, takeE_ed, upd, List.cons_append, List.nil_append]
  all_goals (try split)
  all_goals (try simp only [edE, edE_app, takeE_ed, upd, List.cons_append, List.nil_append])
  all_goals first
    | (exact ⟨by omega, by omega⟩)
    | (simp; done)
    | exact fit_le hf (by omega)
    | exact fit_le hf.1 (by omega)
    | exact fit_le hf.2 (by omega)
    | exact fit_le hf.2.1 (by omega)
    | (obtain ⟨ha, hb, hc⟩ := hf; have ha := fit_le ha (by omega); have hb := fit_le hb (by omega); simp; omega)
    | (obtain ⟨ha, hb⟩ := hf; have ha := fit_le ha (by omega); have hb := fit_le hb (by omega); simp; omega)
    | (have ha := fit_le hf (by omega); simp; omega)
    | (obtain ⟨ha, hb, hc⟩ := hf; have ha := fit_le ha (by omega); have hb := fit_le hb (by omega); simp at *; omega)
    | (obtain ⟨ha, hb⟩ := hf; have ha := fit_le ha (by omega); have hb := fit_le hb (by omega); simp at *; omega)
    | (have ha := fit_le hf (by omega); simp at *; omega)
    | exact hf.elim
/-- A step's event: its numbers are ints. -/
theorem evW_step {code : List (List InsD)} {m : Nat → Int} (I : Inv m code) (hl : code.length ≤ 6) {k : Int} (hc : canM code m k = true) : EvW (stepE code m k) := by
  obtain ⟨j, x, rfl, hj, hx, _, _⟩ := canM_parts hc
  have hx2 := hx
  unfold insM at hx2
  rcases hq : code[j]? with _ | c
  · simp [hq] at hx2
  simp only [hq, Option.bind_some] at hx2
  have he : stepE code m (j : Int) = evD m j x := by simp [stepE, hc, hx]
  rw [he]
  have hf := I.fit j c hq x (List.mem_of_getElem? hx2)
  have ho := obj_fit (m := pcUp m j) (k := j) hf hl
  exact ⟨WalkArith.wf_i64 (by show _ ∧ _; simp only [evD]; omega), WalkArith.wf_i64 (by show _ ∧ _; simp only [evD]; omega)⟩
/-- How far a weak run is. -/
structure Rs where
  m : Nat → Int
  pr : List Int
  pk : List Int
  tr : List EvD
def wS (chans : List Int) (code : List (List InsD)) (s : Rs) (k n : Int) : Rs :=
  if canM code s.m k = true then
    if (stepE code s.m k).op = 7 then ⟨ldM code s.m k (loadV chans s.tr k (stepE code s.m k).obj n), s.pr ++ stepT code s.m k, s.pk ++ [k], s.tr ++ [{ stepE code s.m k with val := loadV chans s.tr k (stepE code s.m k).obj n }]⟩
    else ⟨stepM code s.m k, s.pr ++ stepT code s.m k, s.pk ++ [k], s.tr ++ [stepE code s.m k]⟩
  else s
/-- What holds of a run in whatever choices: q of them. -/
structure Rok (s : Rs) (q : Nat) : Prop where
  pr : s.pr.length ≤ q
  pk : s.pk.length ≤ q
  tr : s.tr.length ≤ q
  ev : ∀ e ∈ s.tr, EvW e
theorem wS_ok {chans : List Int} {code : List (List InsD)} {s : Rs} {q : Nat} (h : Rok s q) (I : Inv s.m code) (hl : code.length ≤ 6) (k n : Int) : Rok (wS chans code s k n) (q + 1) := by
  unfold wS
  by_cases hc : canM code s.m k = true
  · rw [if_pos hc]
    have hE := evW_step I hl hc
    have ht := stepT_len code s.m k
    by_cases ho : (stepE code s.m k).op = 7
    · rw [if_pos ho]
      refine ⟨by simp only [List.length_append]; have := h.pr; omega, by simp; exact h.pk, by simp; exact h.tr, fun e he => ?_⟩
      rcases List.mem_append.1 he with he | he
      · exact h.ev e he
      · simp at he; subst he; exact hE
    · rw [if_neg ho]
      refine ⟨by simp only [List.length_append]; have := h.pr; omega, by simp; exact h.pk, by simp; exact h.tr, fun e he => ?_⟩
      rcases List.mem_append.1 he with he | he
      · exact h.ev e he
      · simp at he; subst he; exact hE
  · rw [if_neg hc]
    exact ⟨Nat.le_succ_of_le h.pr, Nat.le_succ_of_le h.pk, Nat.le_succ_of_le h.tr, h.ev⟩
theorem takeW_any (p : ProgD) {q0 q1 q2 q4 q5 : Value} {ca pta : Option Addr} {ccap ptc bx : Nat} {u0 uP u : World} {r b hi : Nat} {s : Rs} {q : Nat} (h : Rw q0 q1 q2 (.slice ca p.chans.length ccap) q4 q5 (.slice pta p.threads.length ptc) u0 uP r b hi s.m p.threads s.pr s.pk s.tr) (hBu : Below uP.heap.size uP u) (hbx0 : uP.heap.size ≤ bx)
    (hP : ProgIn u0 b p ca pta) (hcl : p.chans.length ≤ 1000000) (hcw : ∀ c ∈ p.chans, -9223372036854775808 ≤ c ∧ c ≤ 9223372036854775807) (hq : (#[q0, q1, q2, .slice ca p.chans.length ccap, q4, q5, .slice pta p.threads.length ptc] : Array Value).all (·.oneCell') = true)
    (hok : Rok s q) (hq8 : q ≤ 800) (k n : Int) (hn : -9223372036854775808 ≤ n ∧ n ≤ 9223372036854775807) (hbx : Boxed u bx 3 (.int .i64 n)) :
    Calls Tryz.prog 28 #[.pointer (some ⟨r, 0, none⟩), .int .i64 k, .func (.func 47) #[] #[.pointer (some ⟨bx, 0, none⟩)]] u fun e w' => e = .returned (.tuple #[]) ∧ Rw q0 q1 q2 (.slice ca p.chans.length ccap) q4 q5 (.slice pta p.threads.length ptc) u0 w' r b hi (wS p.chans p.threads s k n).m p.threads (wS p.chans p.threads s k n).pr (wS p.chans p.threads s k n).pk (wS p.chans p.threads s k n).tr := by
  have h1 := hok.pr
  have h2 := hok.pk
  have h3 := hok.tr
  unfold wS
  by_cases hc : canM p.threads s.m k = true
  · by_cases ho : (stepE p.threads s.m k).op = 7
    · rw [if_pos hc, if_pos ho]
      exact takeW_load p h hBu hbx0 hP hcl hcw hq (by omega) (by omega) (by omega) hok.ev k n hn hbx hc ho
    · rw [if_pos hc, if_neg ho]
      exact takeW_plain (h.later hBu) (by omega) (by omega) (by omega) k hc ho _
  · rw [if_neg hc]
    exact takeW_no (h.later hBu) k (by simpa using hc) _
theorem keep3 {u u' : World} {r : Nat} {v0 v1 v2 : Value} (h : u.cell? ⟨r, 0, none⟩ = some v0 ∧ u.cell? ⟨r, 8, none⟩ = some v1 ∧ u.cell? ⟨r, 9, none⟩ = some v2) (hB : Below u.heap.size u u') : u'.cell? ⟨r, 0, none⟩ = some v0 ∧ u'.cell? ⟨r, 8, none⟩ = some v1 ∧ u'.cell? ⟨r, 9, none⟩ = some v2 :=
  ⟨(hB.cell (p := ⟨r, 0, none⟩) (cell_lt h.1)).trans h.1, (hB.cell (p := ⟨r, 8, none⟩) (cell_lt h.1)).trans h.2.1, (hB.cell (p := ⟨r, 9, none⟩) (cell_lt h.1)).trans h.2.2⟩
theorem keep3set {u : World} {r q : Nat} {v0 v1 v2 x0 x1 x2 x3 : Value} (hq : r ≠ q) (h : u.cell? ⟨r, 0, none⟩ = some v0 ∧ u.cell? ⟨r, 8, none⟩ = some v1 ∧ u.cell? ⟨r, 9, none⟩ = some v2) :
    ((((u.setCell ⟨q, 0, none⟩ x0).setCell ⟨q, 1, none⟩ x1).setCell ⟨q, 2, none⟩ x2).setCell ⟨q, 3, none⟩ x3).cell? ⟨r, 0, none⟩ = some v0 ∧ ((((u.setCell ⟨q, 0, none⟩ x0).setCell ⟨q, 1, none⟩ x1).setCell ⟨q, 2, none⟩ x2).setCell ⟨q, 3, none⟩ x3).cell? ⟨r, 8, none⟩ = some v1 ∧ ((((u.setCell ⟨q, 0, none⟩ x0).setCell ⟨q, 1, none⟩ x1).setCell ⟨q, 2, none⟩ x2).setCell ⟨q, 3, none⟩ x3).cell? ⟨r, 9, none⟩ = some v2 := by
  have hk : ((((u.setCell ⟨q, 0, none⟩ x0).setCell ⟨q, 1, none⟩ x1).setCell ⟨q, 2, none⟩ x2).setCell ⟨q, 3, none⟩ x3).heap[r]? = u.heap[r]? := by
    rw [Below.heap_setCell _ _ _ _ hq, Below.heap_setCell _ _ _ _ hq, Below.heap_setCell _ _ _ _ hq, Below.heap_setCell _ _ _ _ hq]
  exact ⟨(World.cell?_of_block (a := ⟨r, 0, none⟩) hk).trans h.1, (World.cell?_of_block (a := ⟨r, 8, none⟩) hk).trans h.2.1, (World.cell?_of_block (a := ⟨r, 9, none⟩) hk).trans h.2.2⟩
/-- A result: its rows are of the call's own. -/
def ResIn (u : World) (base : Nat) (pr : List Int) (pk : List Int) (tr : List EvD) (pv kv tv : Value) : Prop :=
  u.ownsRow base 3 1 pv pr.length (pr.map (.int .i64 ·)) ∧ u.ownsRow base 3 1 kv pk.length (pk.map (.int .i64 ·)) ∧ u.ownsRow base 31 6 tv tr.length (evsCells tr)
theorem ResIn.later {u u' : World} {base : Nat} {pr pk : List Int} {tr : List EvD} {pv kv tv : Value} (h : ResIn u base pr pk tr pv kv tv) (hB : Below u.heap.size u u') : ResIn u' base pr pk tr pv kv tv :=
  ⟨own_later h.1 hB, own_later h.2.1 hB, own_later h.2.2 hB⟩
theorem ResIn.base {u : World} {base base' : Nat} {pr pk : List Int} {tr : List EvD} {pv kv tv : Value} (h : ResIn u base pr pk tr pv kv tv) (hb : base' ≤ base) : ResIn u base' pr pk tr pv kv tv :=
  ⟨own_base h.1 hb, own_base h.2.1 hb, own_base h.2.2 hb⟩
theorem resultW_any {q0 q1 q2 q3 q4 q5 q6 : Value} {u0 u : World} {r b hi : Nat} {m : Nat → Int} {code : List (List InsD)} {pr pk : List Int} {tr : List EvD} (h : Rw q0 q1 q2 q3 q4 q5 q6 u0 u r b hi m code pr pk tr) (hpl : pr.length ≤ 2000000) :
    Calls Tryz.prog 30 #[.pointer (some ⟨r, 0, none⟩)] u fun e w' => ∃ pv kv tv, e = .returned (.agg #[pv, .int .u8 (statusM code m), kv, tv]) ∧ ResIn w' u0.heap.size pr pk tr pv kv tv ∧ Below u.heap.size u w' := by
  obtain ⟨pv, kv, tv, h⟩ := h
  have hr0 := h.hr0
  have hsz := h.touch.size
  have HH := Lib.hid h
  clear h
  go_enter Tryz.func30, Tryz.ntmps30
  go_wp2_with fail
  generalize hV : World.alloc u _ = V
  have hB : Below u.heap.size u V := by rw [← hV]; exact below_box _ _
  have hN : V.heap[u.heap.size]? = some (.cells #[.slice none 0 0, .int .u8 0, .slice none 0 0, .slice none 0 0] 45) := by rw [← hV]; exact heap_alloc_new _ _
  obtain ⟨c0, _, _, _, _, _, _, _, c1, c2⟩ := cells10 (HH.out.later hB).box
  obtain ⟨ka, kc, rfl⟩ := st_slice HH.out.picks
  obtain ⟨ta, tc, rfl⟩ := st_slice HH.out.trace
  have HB := Lib.hid hB
  have HN := Lib.hid hN
  have hru : r ≠ u.heap.size := by omega
  clear hV hB hN
  go_region_held3 (fun u' => u'.cell? ⟨r, 0, none⟩ = some (.pointer (some ⟨b, 0, none⟩)) ∧ u'.cell? ⟨r, 8, none⟩ = some (.slice ka pk.length kc) ∧ u'.cell? ⟨r, 9, none⟩ = some (.slice ta tr.length tc)) (first | exact ⟨c0, c1, c2⟩ | with_reducible exact keep3 (by assumption) hB2 | with_reducible exact keep3 (by assumption) hB1 | with_reducible exact keep3set hru (by assumption))
    (first
      | (go_at_call 49; refine (status_any _ (by first | exact HS1.out | exact HS1.out.later (Below.refl _ _).drew) HH.out.inv).mono ?_; rintro e w2 ⟨rfl, hB2⟩; have hN2 := (hB2.block _ (Array.getElem?_eq_some_iff.1 HN1.out).1).trans HN1.out; obtain ⟨z0, z1, z2, z3⟩ := cells4 hN2; have fz := fun j => frozen_of_row _ _ j _ _ hN2)
      | (go_at_call 48; refine (prints_any _ ((HH.out.later HB.out).st.later (by first | exact (Below.refl _ _) | exact (Below.refl _ _).drew)) hpl).mono ?_; rintro e w1 ⟨v1, rfl, hown1, hB1⟩; obtain ⟨pa, pc, rfl⟩ := st_slice hown1; have HO1 := Lib.hid hown1; have HS1 := Lib.hid ((HH.out.later HB.out).st.later ((Below.refl _ _).drew.trans hB1)); have HN1 := Lib.hid ((hB1.block _ (Array.getElem?_eq_some_iff.1 HN.out).1).trans HN.out); clear hown1))
  have hVs : u.heap.size < V.heap.size := (Array.getElem?_eq_some_iff.1 HN.out).1
  generalize hU : World.setCell _ _ _ = U
  have hbx : U.heap[u.heap.size]? = some (.cells #[.slice pa pr.length pc, .int .u8 (statusM code m), .slice ka pk.length kc, .slice ta tr.length tc] 45) := by rw [← hU]; exact stSet_four hN2
  have hBU : Below u.heap.size u U := by
    rw [← hU]
    have h2 : Below u.heap.size u w2 := (HB.out.drew.trans (by exact hB1.mono (Nat.le_of_lt hVs))).trans (hB2.mono (Nat.le_trans (Nat.le_of_lt hVs) hB1.size))
    exact stBelow_set (stBelow_set (stBelow_set (stBelow_set h2 (Nat.le_refl _)) (Nat.le_refl _)) (Nat.le_refl _)) (Nat.le_refl _)
  have hR : ResIn U u0.heap.size pr pk tr (.slice pa pr.length pc) (.slice ka pk.length kc) (.slice ta tr.length tc) := by
    refine ⟨?_, own_later HH.out.picks hBU, own_later HH.out.trace hBU⟩
    rw [← hU]
    exact own_base (ownsRow_newer (ownsRow_newer (ownsRow_newer (ownsRow_newer (own_later HO1.out hB2) hVs) hVs) hVs) hVs) (by show u0.heap.size ≤ V.heap.size; omega)
  clear hU
  obtain ⟨y0, y1, y2, y3⟩ := cells4 hbx
  go_wp2
  refine bodyPost_ret (v := .agg #[.slice pa pr.length pc, .int .u8 (statusM code m), .slice ka pk.length kc, .slice ta tr.length tc]) (by simp [results, Tryz.results30, go_sem, y0, y1, y2, y3]) rfl ⟨_, _, _, rfl, hR, hBU⟩
end Go.Proofs.YtglafbajbiengaaGreat
