/- What the document's Join and Tick return; the laws' near and same. -/
import Derived.Test.YtaiaipejmggbeaaClockJoin
namespace Go.Proofs.Ytaiaipejmggbeaa
set_option linter.unusedVariables false
set_option linter.unusedSimpArgs false
set_option maxRecDepth 100000
open Go.ChangeShapes Go.WideShapes Go.ChangeAt Go.RowKit

theorem own_made {w0 w : World} {v : Value} {L : List Int} (h : w.ownsRow w0.heap.size 3 1 v L.length (L.map (.int .i64 ·))) (hB : Below w0.heap.size w0 w) : Made w0 w (.returned v) L := by
  obtain ⟨a, cap, rfl, _, hr⟩ := RowOf.own h
  exact ⟨a, cap, L, Lib.hid rfl, rfl, hr, hB⟩
theorem map_snoc (n : Nat) (f : Nat → Int) : (fill n f).map (Value.int .i64 ·) ++ [.int .i64 (f n)] = (fill (n + 1) f).map (.int .i64 ·) := by rw [fill_snoc, List.map_append]; rfl

set_option maxHeartbeats 1000000 in
theorem near_any (l : List Int) (a : Option Addr) (cap : Nat) (w : World) (ha : RowOf .u8 w w.heap.size a l) (hu : ∀ x ∈ l, 0 ≤ x ∧ x < 256) (hl : l.length ≤ 1000) :
    Calls Try.prog 9 #[.slice a l.length cap] w fun e w' => Made w w' e (nearL l) := by
  obtain ⟨i0, hi, hz0, hz1, hz2⟩ := info_parts info_int
  have HA := Lib.hid ha
  have HU := Lib.hid hu
  clear ha hu
  have HF := Lib.hid (show nearL l = fill l.length (fun k => atN l k % 5) from fill_ext (near_len l) (fun k hk => by
    rw [nearL, List.getElem?_map, List.getElem?_eq_getElem hk, Option.map_some, atN_some (List.getElem?_eq_getElem hk)]))
  go_enter Try.func9, Try.ntmps9
  go_wp2
  go_loopw [3, 4] (fun v i wr => ∃ k : Nat, k ≤ l.length ∧ i = .int .i64 k ∧ Hid (wr.ownsRow w.heap.size 3 1 v k ((fill k (fun j => atN l j % 5)).map (.int .i64 ·))) ∧ Hid (Below w.heap.size w wr)) (fun _ i _ => l.length - (intOf i).toNat)
  case atStart => exact ⟨0, Nat.zero_le _, rfl, Lib.hid (World.ownsRow_nil _ _ _ _), Lib.hid (Below.refl _ _)⟩
  case round =>
    obtain ⟨k, hk, rfl, HO, HB⟩ := hrel
    by_cases hlt : k < l.length
    · obtain ⟨x, hx⟩ := at_len hlt
      obtain ⟨b, off, rfl, hb, hc⟩ := HA.out k x hx
      have d := (HB.out.cell (p := ⟨b, off + k, none⟩) hb).trans hc
      obtain ⟨hx0, hx1⟩ := HU.out x (List.mem_of_getElem? hx)
      have HX := Lib.hid (atN_some hx)
      clear hx hc
      go_wp2_with (at_builtin; refine wpList_append_own _ rfl _ _ 24 rfl w.heap.size 3 i0 (.int .i64 0) 1 8 Try.underlying24 hi hz0 hz1 hz2 rfl (by decide) _ _ _ rfl (HO.out.alloc _) ⟨wr.heap.size, 0, none⟩ 1 1 [.int .i64 (x % 5)] rfl rfl (cell_one_new _ _ _) (by simp [Value.oneCell']) (by unfold maxLen; omega) (by omega) (by have := HB.out.size; simp; omega) ?_; intro v' w1 hown' hgrow _; have HB' := Lib.hid (append_below HB.out HO.out hgrow); have HO' := Lib.hid hown'; clear hown' hgrow)
      go_roundw
      case rel => exact ⟨k + 1, by omega, by go_num, Lib.hid (by rw [← map_snoc, HX.out]; exact HO'.out), HB'⟩
      case measure => simp [intOf]; omega
    · obtain rfl : k = l.length := by omega
      go_wp2
      go_ret
      refine own_made ?_ HB.out
      rw [HF.out, fill_len]
      exact HO.out
end Go.Proofs.Ytaiaipejmggbeaa
