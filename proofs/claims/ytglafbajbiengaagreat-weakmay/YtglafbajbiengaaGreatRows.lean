/-
  No cell of these rows narrows 'for every input' (looked for: loops, veiled, ifaces, maps, wideKeys, modest, calm, conditions, laid).
  DERIVED. THE GIVEN ROWS OF THIS SEAT. 4 by the template 'for every input the law returns true; each argument reads behind the call as it read before'; 0 by the template 'total and deterministic' (their statements: YtglafbajbiengaaGreatTotals.lean).
  GIVEN WITH THE SEED: the statements are not yours to turn. If you find one false, say at which input.
  Laid BY PROGRAM, IN A SANDBOX (cutbox-rows.mjs): the forced cells as the released guide's own fill.sh prints them over the translation aa2c36084a3a00bd… (all of the seat's roots in one cut). By AI agents, Wed Nov 11 2026. No macro, syntax, notation, axiom, sorry.
-/
import Derived.Test.YtglafbajbiengaaGreatChecked
import GoSem.Claim
import GoSem.ClaimJoined
import GoSem.ClaimMapViews
import Derived.JoinedTies
import Derived.KernelRfl
namespace Go.Proofs.YtglafbajbiengaaGreat
/- THE CELL 'sum', in the pinned program and in every row, IS THE sha256 OF THE DUMP (.gsa) THAT YtglafbajbiengaaGreatProg.lean LOADS. Nothing in Lean hashes anything: it is a label: what it is worth is what the hold of that sum in a sandbox is worth. -/
noncomputable def Tryz.pinned : Pinned := { name := "ytglafbajbiengaagreat", sum := "aa2c36084a3a00bd7d9a5b7d7baf7e91ca4c83e06a67dd5c94e361b385bd2f4a", checked := Tryz.checked }
namespace Rows
def none {H : Type} : Left H := { results := [], args := [] }

/-- 'interlocklaw09.WeakNone': WHATEVER THE INPUT: true; the input reads as it did. -/
def weakNoneSpec : ChangeSpec := { name := "weakNone", fn := fun _ => fun
  | [d1, d2, d3] => { results := [.lit (.bool true)], args := [d1, d2, d3] }
  | _ => none }
def weakNoneRow : OpenClaim := { program := "ytglafbajbiengaagreat", sum := "aa2c36084a3a00bd7d9a5b7d7baf7e91ca4c83e06a67dd5c94e361b385bd2f4a", func := "interlock/interlocklaw09.WeakNone", spec := "weakNone", unfollowed := true, recurses := true, plainKeys := false, apart := false }
def WeakNoneSaid : Prop := weakNoneRow.holds Tryz.pinned (OpenSpec.ofChange weakNoneSpec)

/-- ITS FALSE NEIGHBOUR: 'it returns false'. Refute it at one input. -/
def weakNoneWrong : ChangeSpec := { name := "weakNone", fn := fun _ => fun
  | [d1, d2, d3] => { results := [.lit (.bool false)], args := [d1, d2, d3] }
  | _ => none }
def WeakNoneWrongFalsely : Prop := weakNoneRow.holds Tryz.pinned (OpenSpec.ofChange weakNoneWrong)

/-- 'interlocklaw09.WeakMay': WHATEVER THE INPUT: true; the input reads as it did. -/
def weakMaySpec : ChangeSpec := { name := "weakMay", fn := fun _ => fun
  | [d1, d2, d3, d4, d5, d6, d7] => { results := [.lit (.bool true)], args := [d1, d2, d3, d4, d5, d6, d7] }
  | _ => none }
def weakMayRow : OpenClaim := { program := "ytglafbajbiengaagreat", sum := "aa2c36084a3a00bd7d9a5b7d7baf7e91ca4c83e06a67dd5c94e361b385bd2f4a", func := "interlock/interlocklaw09.WeakMay", spec := "weakMay", unfollowed := true, recurses := true, plainKeys := false, apart := false }
def WeakMaySaid : Prop := weakMayRow.holds Tryz.pinned (OpenSpec.ofChange weakMaySpec)

/-- ITS FALSE NEIGHBOUR: 'it returns false'. Refute it at one input. -/
def weakMayWrong : ChangeSpec := { name := "weakMay", fn := fun _ => fun
  | [d1, d2, d3, d4, d5, d6, d7] => { results := [.lit (.bool false)], args := [d1, d2, d3, d4, d5, d6, d7] }
  | _ => none }
def WeakMayWrongFalsely : Prop := weakMayRow.holds Tryz.pinned (OpenSpec.ofChange weakMayWrong)

/-- 'interlocklaw09.WeakRuns': WHATEVER THE INPUT: true; the input reads as it did. -/
def weakRunsSpec : ChangeSpec := { name := "weakRuns", fn := fun _ => fun
  | [d1, d2, d3] => { results := [.lit (.bool true)], args := [d1, d2, d3] }
  | _ => none }
def weakRunsRow : OpenClaim := { program := "ytglafbajbiengaagreat", sum := "aa2c36084a3a00bd7d9a5b7d7baf7e91ca4c83e06a67dd5c94e361b385bd2f4a", func := "interlock/interlocklaw09.WeakRuns", spec := "weakRuns", unfollowed := true, recurses := true, plainKeys := false, apart := false }
def WeakRunsSaid : Prop := weakRunsRow.holds Tryz.pinned (OpenSpec.ofChange weakRunsSpec)

/-- ITS FALSE NEIGHBOUR: 'it returns false'. Refute it at one input. -/
def weakRunsWrong : ChangeSpec := { name := "weakRuns", fn := fun _ => fun
  | [d1, d2, d3] => { results := [.lit (.bool false)], args := [d1, d2, d3] }
  | _ => none }
def WeakRunsWrongFalsely : Prop := weakRunsRow.holds Tryz.pinned (OpenSpec.ofChange weakRunsWrong)

/-- 'interlocklaw09.WeakLast': WHATEVER THE INPUT: true; the input reads as it did. -/
def weakLastSpec : ChangeSpec := { name := "weakLast", fn := fun _ => fun
  | [d1, d2, d3] => { results := [.lit (.bool true)], args := [d1, d2, d3] }
  | _ => none }
def weakLastRow : OpenClaim := { program := "ytglafbajbiengaagreat", sum := "aa2c36084a3a00bd7d9a5b7d7baf7e91ca4c83e06a67dd5c94e361b385bd2f4a", func := "interlock/interlocklaw09.WeakLast", spec := "weakLast", unfollowed := true, recurses := true, plainKeys := false, apart := false }
def WeakLastSaid : Prop := weakLastRow.holds Tryz.pinned (OpenSpec.ofChange weakLastSpec)

/-- ITS FALSE NEIGHBOUR: 'it returns false'. Refute it at one input. -/
def weakLastWrong : ChangeSpec := { name := "weakLast", fn := fun _ => fun
  | [d1, d2, d3] => { results := [.lit (.bool false)], args := [d1, d2, d3] }
  | _ => none }
def WeakLastWrongFalsely : Prop := weakLastRow.holds Tryz.pinned (OpenSpec.ofChange weakLastWrong)

/- THE SECOND FORM. 'bulk': how many values and letters a reading holds, each counted each time it is reached (what is shared counts as often as it is met; a slice's spare places count too). A statement '..UptoSaid' is the law's where the arguments, and the package variables that the reading takes, are together of bulk at most 1048576: NARROWER than '..Said'. Prove '..Said' where nothing that the law and all that it calls make is longer than what came in: it says more and counts as full. Else prove '..UptoSaid'. A law counts once. -/
mutual
def uptoBulk {H : Type} : DataW H → Nat
  | .lit (.string bytes) => bytes.length + 1
  | .lit _ => 1
  | .nil => 1
  | .ptr d => uptoBulk d + 1
  | .slice elems spare => uptoBulkAll elems + uptoBulkAll spare + 1
  | .agg parts => uptoBulkAll parts + 1
  | .iface _ d => uptoBulk d + 1
  | .map entries => uptoBulkEntries entries + 1
  | .held _ => 1
def uptoBulkAll {H : Type} : List (DataW H) → Nat
  | [] => 0
  | d :: r => uptoBulk d + uptoBulkAll r
def uptoBulkEntries {H : Type} : List (Lit × DataW H) → Nat
  | [] => 0
  | x :: r => uptoBulkEntry x + uptoBulkEntries r
def uptoBulkEntry {H : Type} : Lit × DataW H → Nat
  | (.string bytes, d) => bytes.length + uptoBulk d + 1
  | (_, d) => uptoBulk d + 1
 end
def uptoSmall : (H : Type) → List (DataW H) → Bool := fun _ ds => decide (uptoBulkAll ds ≤ 1048576)
def OpenSpec.upto (s : _root_.Go.ChangeSpec) : _root_.Go.OpenSpec := { _root_.Go.OpenSpec.ofChange s with cond := some uptoSmall }

/-- 'interlocklaw09.WeakNone', WHERE WHAT IT READS IS OF BULK AT MOST 1048576: true; the input reads as it did. -/
def weakNoneUptoRow : OpenClaim := { program := "ytglafbajbiengaagreat", sum := "aa2c36084a3a00bd7d9a5b7d7baf7e91ca4c83e06a67dd5c94e361b385bd2f4a", func := "interlock/interlocklaw09.WeakNone", spec := "weakNone", unfollowed := true, recurses := true, plainKeys := false, apart := false, narrowed := true }
def WeakNoneUptoSaid : Prop := weakNoneUptoRow.holds Tryz.pinned (OpenSpec.upto weakNoneSpec)

/-- 'interlocklaw09.WeakMay', WHERE WHAT IT READS IS OF BULK AT MOST 1048576: true; the input reads as it did. -/
def weakMayUptoRow : OpenClaim := { program := "ytglafbajbiengaagreat", sum := "aa2c36084a3a00bd7d9a5b7d7baf7e91ca4c83e06a67dd5c94e361b385bd2f4a", func := "interlock/interlocklaw09.WeakMay", spec := "weakMay", unfollowed := true, recurses := true, plainKeys := false, apart := false, narrowed := true }
def WeakMayUptoSaid : Prop := weakMayUptoRow.holds Tryz.pinned (OpenSpec.upto weakMaySpec)

/-- 'interlocklaw09.WeakRuns', WHERE WHAT IT READS IS OF BULK AT MOST 1048576: true; the input reads as it did. -/
def weakRunsUptoRow : OpenClaim := { program := "ytglafbajbiengaagreat", sum := "aa2c36084a3a00bd7d9a5b7d7baf7e91ca4c83e06a67dd5c94e361b385bd2f4a", func := "interlock/interlocklaw09.WeakRuns", spec := "weakRuns", unfollowed := true, recurses := true, plainKeys := false, apart := false, narrowed := true }
def WeakRunsUptoSaid : Prop := weakRunsUptoRow.holds Tryz.pinned (OpenSpec.upto weakRunsSpec)

/-- 'interlocklaw09.WeakLast', WHERE WHAT IT READS IS OF BULK AT MOST 1048576: true; the input reads as it did. -/
def weakLastUptoRow : OpenClaim := { program := "ytglafbajbiengaagreat", sum := "aa2c36084a3a00bd7d9a5b7d7baf7e91ca4c83e06a67dd5c94e361b385bd2f4a", func := "interlock/interlocklaw09.WeakLast", spec := "weakLast", unfollowed := true, recurses := true, plainKeys := false, apart := false, narrowed := true }
def WeakLastUptoSaid : Prop := weakLastUptoRow.holds Tryz.pinned (OpenSpec.upto weakLastSpec)

end Rows
end Go.Proofs.YtglafbajbiengaaGreat
