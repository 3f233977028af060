/-
  No cell of these rows narrows 'for every input' (looked for: loops, veiled, ifaces, maps, wideKeys, modest, calm, conditions, laid).
  DERIVED. THE GIVEN ROWS OF THIS SEAT. 5 by the template 'for every input the law returns true; each argument reads behind the call as it read before'; 0 by the template 'total and deterministic' (their statements: YtcnmbolmgifgfaaTotals.lean).
  GIVEN WITH THE SEED: the statements are not yours to turn. If you find one false, say at which input.
  Laid BY PROGRAM, IN A SANDBOX (cutbox-rows.mjs): the forced cells as the released guide's own fill.sh prints them over the translation d7da58761ff11ea5… (all of the seat's roots in one cut). By AI agents, Wed Nov 11 2026. No macro, syntax, notation, axiom, sorry.
-/
import Derived.Test.YtcnmbolmgifgfaaChecked
import GoSem.Claim
import GoSem.ClaimJoined
import GoSem.ClaimMapViews
import Derived.JoinedTies
import Derived.KernelRfl
namespace Go.Proofs.Ytcnmbolmgifgfaa
/- THE CELL 'sum', in the pinned program and in every row, IS THE sha256 OF THE DUMP (.gsa) THAT YtcnmbolmgifgfaaProg.lean LOADS. Nothing in Lean hashes anything: it is a label: what it is worth is what the hold of that sum in a sandbox is worth. -/
noncomputable def Try.pinned : Pinned := { name := "ytcnmbolmgifgfaa", sum := "d7da58761ff11ea58c28458a2809fc4846b72b592c03f264b10d6eeaefe5d8c1", checked := Try.checked }
namespace Rows
def none {H : Type} : Left H := { results := [], args := [] }

/-- 'laws.FnExactGetCard': WHATEVER THE INPUT: true; the input reads as it did. -/
def fnExactGetCardSpec : ChangeSpec := { name := "fnExactGetCard", fn := fun _ => fun
  | [d1, d2] => { results := [.lit (.bool true)], args := [d1, d2] }
  | _ => none }
def fnExactGetCardRow : OpenClaim := { program := "ytcnmbolmgifgfaa", sum := "d7da58761ff11ea58c28458a2809fc4846b72b592c03f264b10d6eeaefe5d8c1", func := "loop.example/g00413/laws.FnExactGetCard", spec := "fnExactGetCard", inPlace := ["internal/bytealg.IndexByteString", "internal/bytealg.IndexString"], unfollowed := true, recurses := true, named := ["internal/bytealg.MaxLen"], apart := false }
def FnExactGetCardSaid : Prop := fnExactGetCardRow.holds Try.pinned (OpenSpec.ofChange fnExactGetCardSpec)

/-- ITS FALSE NEIGHBOUR: 'it returns false'. Refute it at one input. -/
def fnExactGetCardWrong : ChangeSpec := { name := "fnExactGetCard", fn := fun _ => fun
  | [d1, d2] => { results := [.lit (.bool false)], args := [d1, d2] }
  | _ => none }
def FnExactGetCardWrongFalsely : Prop := fnExactGetCardRow.holds Try.pinned (OpenSpec.ofChange fnExactGetCardWrong)

/-- 'laws.FnExactNewFits': WHATEVER THE INPUT: true; the input reads as it did. -/
def fnExactNewFitsSpec : ChangeSpec := { name := "fnExactNewFits", fn := fun _ => fun
  | [d] => { results := [.lit (.bool true)], args := [d] }
  | _ => none }
def fnExactNewFitsRow : OpenClaim := { program := "ytcnmbolmgifgfaa", sum := "d7da58761ff11ea58c28458a2809fc4846b72b592c03f264b10d6eeaefe5d8c1", func := "loop.example/g00413/laws.FnExactNewFits", spec := "fnExactNewFits", inPlace := ["internal/bytealg.IndexByteString", "internal/bytealg.IndexString"], unfollowed := true, recurses := true, named := ["internal/bytealg.MaxLen"], apart := false }
def FnExactNewFitsSaid : Prop := fnExactNewFitsRow.holds Try.pinned (OpenSpec.ofChange fnExactNewFitsSpec)

/-- ITS FALSE NEIGHBOUR: 'it returns false'. Refute it at one input. -/
def fnExactNewFitsWrong : ChangeSpec := { name := "fnExactNewFits", fn := fun _ => fun
  | [d] => { results := [.lit (.bool false)], args := [d] }
  | _ => none }
def FnExactNewFitsWrongFalsely : Prop := fnExactNewFitsRow.holds Try.pinned (OpenSpec.ofChange fnExactNewFitsWrong)

/-- 'laws.FnExactOdcFits': WHATEVER THE INPUT: true; the input reads as it did. -/
def fnExactOdcFitsSpec : ChangeSpec := { name := "fnExactOdcFits", fn := fun _ => fun
  | [d] => { results := [.lit (.bool true)], args := [d] }
  | _ => none }
def fnExactOdcFitsRow : OpenClaim := { program := "ytcnmbolmgifgfaa", sum := "d7da58761ff11ea58c28458a2809fc4846b72b592c03f264b10d6eeaefe5d8c1", func := "loop.example/g00413/laws.FnExactOdcFits", spec := "fnExactOdcFits", inPlace := ["internal/bytealg.IndexByteString", "internal/bytealg.IndexString"], unfollowed := true, recurses := true, named := ["internal/bytealg.MaxLen"], apart := false }
def FnExactOdcFitsSaid : Prop := fnExactOdcFitsRow.holds Try.pinned (OpenSpec.ofChange fnExactOdcFitsSpec)

/-- ITS FALSE NEIGHBOUR: 'it returns false'. Refute it at one input. -/
def fnExactOdcFitsWrong : ChangeSpec := { name := "fnExactOdcFits", fn := fun _ => fun
  | [d] => { results := [.lit (.bool false)], args := [d] }
  | _ => none }
def FnExactOdcFitsWrongFalsely : Prop := fnExactOdcFitsRow.holds Try.pinned (OpenSpec.ofChange fnExactOdcFitsWrong)

/-- 'laws.FnExactGetNew': WHATEVER THE INPUT: true; the input reads as it did. -/
def fnExactGetNewSpec : ChangeSpec := { name := "fnExactGetNew", fn := fun _ => fun
  | [d1, d2, d3] => { results := [.lit (.bool true)], args := [d1, d2, d3] }
  | _ => none }
def fnExactGetNewRow : OpenClaim := { program := "ytcnmbolmgifgfaa", sum := "d7da58761ff11ea58c28458a2809fc4846b72b592c03f264b10d6eeaefe5d8c1", func := "loop.example/g00413/laws.FnExactGetNew", spec := "fnExactGetNew", inPlace := ["internal/bytealg.IndexByteString", "internal/bytealg.IndexString"], unfollowed := true, recurses := true, named := ["internal/bytealg.MaxLen"], apart := false }
def FnExactGetNewSaid : Prop := fnExactGetNewRow.holds Try.pinned (OpenSpec.ofChange fnExactGetNewSpec)

/-- ITS FALSE NEIGHBOUR: 'it returns false'. Refute it at one input. -/
def fnExactGetNewWrong : ChangeSpec := { name := "fnExactGetNew", fn := fun _ => fun
  | [d1, d2, d3] => { results := [.lit (.bool false)], args := [d1, d2, d3] }
  | _ => none }
def FnExactGetNewWrongFalsely : Prop := fnExactGetNewRow.holds Try.pinned (OpenSpec.ofChange fnExactGetNewWrong)

/-- 'laws.FnExactUstarFits': WHATEVER THE INPUT: true; the input reads as it did. -/
def fnExactUstarFitsSpec : ChangeSpec := { name := "fnExactUstarFits", fn := fun _ => fun
  | [d] => { results := [.lit (.bool true)], args := [d] }
  | _ => none }
def fnExactUstarFitsRow : OpenClaim := { program := "ytcnmbolmgifgfaa", sum := "d7da58761ff11ea58c28458a2809fc4846b72b592c03f264b10d6eeaefe5d8c1", func := "loop.example/g00413/laws.FnExactUstarFits", spec := "fnExactUstarFits", inPlace := ["internal/bytealg.IndexByteString", "internal/bytealg.IndexString"], unfollowed := true, recurses := true, named := ["internal/bytealg.MaxLen"], apart := false }
def FnExactUstarFitsSaid : Prop := fnExactUstarFitsRow.holds Try.pinned (OpenSpec.ofChange fnExactUstarFitsSpec)

/-- ITS FALSE NEIGHBOUR: 'it returns false'. Refute it at one input. -/
def fnExactUstarFitsWrong : ChangeSpec := { name := "fnExactUstarFits", fn := fun _ => fun
  | [d] => { results := [.lit (.bool false)], args := [d] }
  | _ => none }
def FnExactUstarFitsWrongFalsely : Prop := fnExactUstarFitsRow.holds Try.pinned (OpenSpec.ofChange fnExactUstarFitsWrong)

/- THE SECOND FORM. 'bulk': how many values and letters a reading holds, each counted each time it is reached (what is shared counts as often as it is met; a slice's spare places count too). A statement '..UptoSaid' is the law's where the arguments, and the package variables that the reading takes, are together of bulk at most 1048576: NARROWER than '..Said'. Prove '..Said' where nothing that the law and all that it calls make is longer than what came in: it says more and counts as full. Else prove '..UptoSaid'. A law counts once. -/
mutual
def uptoBulk {H : Type} : DataW H → Nat
  | .lit (.string bytes) => bytes.length + 1
  | .lit _ => 1
  | .nil => 1
  | .ptr d => uptoBulk d + 1
  | .slice elems spare => uptoBulkAll elems + uptoBulkAll spare + 1
  | .agg parts => uptoBulkAll parts + 1
  | .iface _ d => uptoBulk d + 1
  | .map entries => uptoBulkEntries entries + 1
  | .held _ => 1
def uptoBulkAll {H : Type} : List (DataW H) → Nat
  | [] => 0
  | d :: r => uptoBulk d + uptoBulkAll r
def uptoBulkEntries {H : Type} : List (Lit × DataW H) → Nat
  | [] => 0
  | x :: r => uptoBulkEntry x + uptoBulkEntries r
def uptoBulkEntry {H : Type} : Lit × DataW H → Nat
  | (.string bytes, d) => bytes.length + uptoBulk d + 1
  | (_, d) => uptoBulk d + 1
 end
def uptoSmall : (H : Type) → List (DataW H) → Bool := fun _ ds => decide (uptoBulkAll ds ≤ 1048576)
def OpenSpec.upto (s : _root_.Go.ChangeSpec) : _root_.Go.OpenSpec := { _root_.Go.OpenSpec.ofChange s with cond := some uptoSmall }

/-- 'laws.FnExactGetCard', WHERE WHAT IT READS IS OF BULK AT MOST 1048576: true; the input reads as it did. -/
def fnExactGetCardUptoRow : OpenClaim := { program := "ytcnmbolmgifgfaa", sum := "d7da58761ff11ea58c28458a2809fc4846b72b592c03f264b10d6eeaefe5d8c1", func := "loop.example/g00413/laws.FnExactGetCard", spec := "fnExactGetCard", inPlace := ["internal/bytealg.IndexByteString", "internal/bytealg.IndexString"], unfollowed := true, recurses := true, named := ["internal/bytealg.MaxLen"], apart := false, narrowed := true }
def FnExactGetCardUptoSaid : Prop := fnExactGetCardUptoRow.holds Try.pinned (OpenSpec.upto fnExactGetCardSpec)

/-- 'laws.FnExactNewFits', WHERE WHAT IT READS IS OF BULK AT MOST 1048576: true; the input reads as it did. -/
def fnExactNewFitsUptoRow : OpenClaim := { program := "ytcnmbolmgifgfaa", sum := "d7da58761ff11ea58c28458a2809fc4846b72b592c03f264b10d6eeaefe5d8c1", func := "loop.example/g00413/laws.FnExactNewFits", spec := "fnExactNewFits", inPlace := ["internal/bytealg.IndexByteString", "internal/bytealg.IndexString"], unfollowed := true, recurses := true, named := ["internal/bytealg.MaxLen"], apart := false, narrowed := true }
def FnExactNewFitsUptoSaid : Prop := fnExactNewFitsUptoRow.holds Try.pinned (OpenSpec.upto fnExactNewFitsSpec)

/-- 'laws.FnExactOdcFits', WHERE WHAT IT READS IS OF BULK AT MOST 1048576: true; the input reads as it did. -/
def fnExactOdcFitsUptoRow : OpenClaim := { program := "ytcnmbolmgifgfaa", sum := "d7da58761ff11ea58c28458a2809fc4846b72b592c03f264b10d6eeaefe5d8c1", func := "loop.example/g00413/laws.FnExactOdcFits", spec := "fnExactOdcFits", inPlace := ["internal/bytealg.IndexByteString", "internal/bytealg.IndexString"], unfollowed := true, recurses := true, named := ["internal/bytealg.MaxLen"], apart := false, narrowed := true }
def FnExactOdcFitsUptoSaid : Prop := fnExactOdcFitsUptoRow.holds Try.pinned (OpenSpec.upto fnExactOdcFitsSpec)

/-- 'laws.FnExactGetNew', WHERE WHAT IT READS IS OF BULK AT MOST 1048576: true; the input reads as it did. -/
def fnExactGetNewUptoRow : OpenClaim := { program := "ytcnmbolmgifgfaa", sum := "d7da58761ff11ea58c28458a2809fc4846b72b592c03f264b10d6eeaefe5d8c1", func := "loop.example/g00413/laws.FnExactGetNew", spec := "fnExactGetNew", inPlace := ["internal/bytealg.IndexByteString", "internal/bytealg.IndexString"], unfollowed := true, recurses := true, named := ["internal/bytealg.MaxLen"], apart := false, narrowed := true }
def FnExactGetNewUptoSaid : Prop := fnExactGetNewUptoRow.holds Try.pinned (OpenSpec.upto fnExactGetNewSpec)

/-- 'laws.FnExactUstarFits', WHERE WHAT IT READS IS OF BULK AT MOST 1048576: true; the input reads as it did. -/
def fnExactUstarFitsUptoRow : OpenClaim := { program := "ytcnmbolmgifgfaa", sum := "d7da58761ff11ea58c28458a2809fc4846b72b592c03f264b10d6eeaefe5d8c1", func := "loop.example/g00413/laws.FnExactUstarFits", spec := "fnExactUstarFits", inPlace := ["internal/bytealg.IndexByteString", "internal/bytealg.IndexString"], unfollowed := true, recurses := true, named := ["internal/bytealg.MaxLen"], apart := false, narrowed := true }
def FnExactUstarFitsUptoSaid : Prop := fnExactUstarFitsUptoRow.holds Try.pinned (OpenSpec.upto fnExactUstarFitsSpec)

end Rows
end Go.Proofs.Ytcnmbolmgifgfaa
