/-
  No cell of these rows narrows 'for every input' (looked for: loops, veiled, ifaces, maps, wideKeys, modest, calm, conditions, laid).
  DERIVED. THE GIVEN ROWS OF THIS SEAT. 4 by the template 'for every input the law returns true; each argument reads behind the call as it read before'; 0 by the template 'total and deterministic' (their statements: YtkpdeeembnjmnaaTotals.lean).
  GIVEN WITH THE SEED: the statements are not yours to turn. If you find one false, say at which input.
  Laid BY PROGRAM, IN A SANDBOX (cutbox-rows.mjs): the forced cells as the released guide's own fill.sh prints them over the translation fa10ebdf1baa7128… (all of the seat's roots in one cut). By AI agents, Wed Nov 11 2026. No macro, syntax, notation, axiom, sorry.
-/
import Derived.Test.YtkpdeeembnjmnaaChecked
import GoSem.Claim
import GoSem.ClaimJoined
import GoSem.ClaimMapViews
import Derived.JoinedTies
import Derived.KernelRfl
namespace Go.Proofs.Ytkpdeeembnjmnaa
/- THE CELL 'sum', in the pinned program and in every row, IS THE sha256 OF THE DUMP (.gsa) THAT YtkpdeeembnjmnaaProg.lean LOADS. Nothing in Lean hashes anything: it is a label: what it is worth is what the hold of that sum in a sandbox is worth. -/
noncomputable def Try.pinned : Pinned := { name := "ytkpdeeembnjmnaa", sum := "fa10ebdf1baa71284cf6f99c2d73ab09638b974883e480ef1941475d06c2ebf5", checked := Try.checked }
namespace Rows
def none {H : Type} : Left H := { results := [], args := [] }

/-- 'laws.FnExactFlag': WHATEVER THE INPUT: true; the input reads as it did. -/
def fnExactFlagSpec : ChangeSpec := { name := "fnExactFlag", fn := fun _ => fun
  | [d] => { results := [.lit (.bool true)], args := [d] }
  | _ => none }
def fnExactFlagRow : OpenClaim := { program := "ytkpdeeembnjmnaa", sum := "fa10ebdf1baa71284cf6f99c2d73ab09638b974883e480ef1941475d06c2ebf5", func := "loop.example/g00413/laws.FnExactFlag", spec := "fnExactFlag", apart := false }
def FnExactFlagSaid : Prop := fnExactFlagRow.holds Try.pinned (OpenSpec.ofChange fnExactFlagSpec)

/-- ITS FALSE NEIGHBOUR: 'it returns false'. Refute it at one input. -/
def fnExactFlagWrong : ChangeSpec := { name := "fnExactFlag", fn := fun _ => fun
  | [d] => { results := [.lit (.bool false)], args := [d] }
  | _ => none }
def FnExactFlagWrongFalsely : Prop := fnExactFlagRow.holds Try.pinned (OpenSpec.ofChange fnExactFlagWrong)

/-- 'laws.FnExactKind': WHATEVER THE INPUT: true; the input reads as it did. -/
def fnExactKindSpec : ChangeSpec := { name := "fnExactKind", fn := fun _ => fun
  | [d] => { results := [.lit (.bool true)], args := [d] }
  | _ => none }
def fnExactKindRow : OpenClaim := { program := "ytkpdeeembnjmnaa", sum := "fa10ebdf1baa71284cf6f99c2d73ab09638b974883e480ef1941475d06c2ebf5", func := "loop.example/g00413/laws.FnExactKind", spec := "fnExactKind", inPlace := ["internal/bytealg.IndexByteString", "internal/bytealg.IndexString"], named := ["internal/bytealg.MaxLen"], apart := false }
def FnExactKindSaid : Prop := fnExactKindRow.holds Try.pinned (OpenSpec.ofChange fnExactKindSpec)

/-- ITS FALSE NEIGHBOUR: 'it returns false'. Refute it at one input. -/
def fnExactKindWrong : ChangeSpec := { name := "fnExactKind", fn := fun _ => fun
  | [d] => { results := [.lit (.bool false)], args := [d] }
  | _ => none }
def FnExactKindWrongFalsely : Prop := fnExactKindRow.holds Try.pinned (OpenSpec.ofChange fnExactKindWrong)

/-- 'laws.FnExactSplit': WHATEVER THE INPUT: true; the input reads as it did. -/
def fnExactSplitSpec : ChangeSpec := { name := "fnExactSplit", fn := fun _ => fun
  | [d] => { results := [.lit (.bool true)], args := [d] }
  | _ => none }
def fnExactSplitRow : OpenClaim := { program := "ytkpdeeembnjmnaa", sum := "fa10ebdf1baa71284cf6f99c2d73ab09638b974883e480ef1941475d06c2ebf5", func := "loop.example/g00413/laws.FnExactSplit", spec := "fnExactSplit", inPlace := ["internal/bytealg.IndexByteString", "internal/bytealg.IndexString"], unfollowed := true, recurses := true, named := ["internal/bytealg.MaxLen"], apart := false }
def FnExactSplitSaid : Prop := fnExactSplitRow.holds Try.pinned (OpenSpec.ofChange fnExactSplitSpec)

/-- ITS FALSE NEIGHBOUR: 'it returns false'. Refute it at one input. -/
def fnExactSplitWrong : ChangeSpec := { name := "fnExactSplit", fn := fun _ => fun
  | [d] => { results := [.lit (.bool false)], args := [d] }
  | _ => none }
def FnExactSplitWrongFalsely : Prop := fnExactSplitRow.holds Try.pinned (OpenSpec.ofChange fnExactSplitWrong)

/-- 'laws.FnExactUstarFits': WHATEVER THE INPUT: true; the input reads as it did. -/
def fnExactUstarFitsSpec : ChangeSpec := { name := "fnExactUstarFits", fn := fun _ => fun
  | [d] => { results := [.lit (.bool true)], args := [d] }
  | _ => none }
def fnExactUstarFitsRow : OpenClaim := { program := "ytkpdeeembnjmnaa", sum := "fa10ebdf1baa71284cf6f99c2d73ab09638b974883e480ef1941475d06c2ebf5", func := "loop.example/g00413/laws.FnExactUstarFits", spec := "fnExactUstarFits", inPlace := ["internal/bytealg.IndexByteString", "internal/bytealg.IndexString"], unfollowed := true, recurses := true, named := ["internal/bytealg.MaxLen"], apart := false }
def FnExactUstarFitsSaid : Prop := fnExactUstarFitsRow.holds Try.pinned (OpenSpec.ofChange fnExactUstarFitsSpec)

/-- ITS FALSE NEIGHBOUR: 'it returns false'. Refute it at one input. -/
def fnExactUstarFitsWrong : ChangeSpec := { name := "fnExactUstarFits", fn := fun _ => fun
  | [d] => { results := [.lit (.bool false)], args := [d] }
  | _ => none }
def FnExactUstarFitsWrongFalsely : Prop := fnExactUstarFitsRow.holds Try.pinned (OpenSpec.ofChange fnExactUstarFitsWrong)

/- THE SECOND FORM. 'bulk': how many values and letters a reading holds, each counted each time it is reached (what is shared counts as often as it is met; a slice's spare places count too). A statement '..UptoSaid' is the law's where the arguments, and the package variables that the reading takes, are together of bulk at most 1048576: NARROWER than '..Said'. Prove '..Said' where nothing that the law and all that it calls make is longer than what came in: it says more and counts as full. Else prove '..UptoSaid'. A law counts once. -/
mutual
def uptoBulk {H : Type} : DataW H → Nat
  | .lit (.string bytes) => bytes.length + 1
  | .lit _ => 1
  | .nil => 1
  | .ptr d => uptoBulk d + 1
  | .slice elems spare => uptoBulkAll elems + uptoBulkAll spare + 1
  | .agg parts => uptoBulkAll parts + 1
  | .iface _ d => uptoBulk d + 1
  | .map entries => uptoBulkEntries entries + 1
  | .held _ => 1
def uptoBulkAll {H : Type} : List (DataW H) → Nat
  | [] => 0
  | d :: r => uptoBulk d + uptoBulkAll r
def uptoBulkEntries {H : Type} : List (Lit × DataW H) → Nat
  | [] => 0
  | x :: r => uptoBulkEntry x + uptoBulkEntries r
def uptoBulkEntry {H : Type} : Lit × DataW H → Nat
  | (.string bytes, d) => bytes.length + uptoBulk d + 1
  | (_, d) => uptoBulk d + 1
 end
def uptoSmall : (H : Type) → List (DataW H) → Bool := fun _ ds => decide (uptoBulkAll ds ≤ 1048576)
def OpenSpec.upto (s : _root_.Go.ChangeSpec) : _root_.Go.OpenSpec := { _root_.Go.OpenSpec.ofChange s with cond := some uptoSmall }

/-- 'laws.FnExactFlag', WHERE WHAT IT READS IS OF BULK AT MOST 1048576: true; the input reads as it did. -/
def fnExactFlagUptoRow : OpenClaim := { program := "ytkpdeeembnjmnaa", sum := "fa10ebdf1baa71284cf6f99c2d73ab09638b974883e480ef1941475d06c2ebf5", func := "loop.example/g00413/laws.FnExactFlag", spec := "fnExactFlag", apart := false, narrowed := true }
def FnExactFlagUptoSaid : Prop := fnExactFlagUptoRow.holds Try.pinned (OpenSpec.upto fnExactFlagSpec)

/-- 'laws.FnExactKind', WHERE WHAT IT READS IS OF BULK AT MOST 1048576: true; the input reads as it did. -/
def fnExactKindUptoRow : OpenClaim := { program := "ytkpdeeembnjmnaa", sum := "fa10ebdf1baa71284cf6f99c2d73ab09638b974883e480ef1941475d06c2ebf5", func := "loop.example/g00413/laws.FnExactKind", spec := "fnExactKind", inPlace := ["internal/bytealg.IndexByteString", "internal/bytealg.IndexString"], named := ["internal/bytealg.MaxLen"], apart := false, narrowed := true }
def FnExactKindUptoSaid : Prop := fnExactKindUptoRow.holds Try.pinned (OpenSpec.upto fnExactKindSpec)

/-- 'laws.FnExactSplit', WHERE WHAT IT READS IS OF BULK AT MOST 1048576: true; the input reads as it did. -/
def fnExactSplitUptoRow : OpenClaim := { program := "ytkpdeeembnjmnaa", sum := "fa10ebdf1baa71284cf6f99c2d73ab09638b974883e480ef1941475d06c2ebf5", func := "loop.example/g00413/laws.FnExactSplit", spec := "fnExactSplit", inPlace := ["internal/bytealg.IndexByteString", "internal/bytealg.IndexString"], unfollowed := true, recurses := true, named := ["internal/bytealg.MaxLen"], apart := false, narrowed := true }
def FnExactSplitUptoSaid : Prop := fnExactSplitUptoRow.holds Try.pinned (OpenSpec.upto fnExactSplitSpec)

/-- 'laws.FnExactUstarFits', WHERE WHAT IT READS IS OF BULK AT MOST 1048576: true; the input reads as it did. -/
def fnExactUstarFitsUptoRow : OpenClaim := { program := "ytkpdeeembnjmnaa", sum := "fa10ebdf1baa71284cf6f99c2d73ab09638b974883e480ef1941475d06c2ebf5", func := "loop.example/g00413/laws.FnExactUstarFits", spec := "fnExactUstarFits", inPlace := ["internal/bytealg.IndexByteString", "internal/bytealg.IndexString"], unfollowed := true, recurses := true, named := ["internal/bytealg.MaxLen"], apart := false, narrowed := true }
def FnExactUstarFitsUptoSaid : Prop := fnExactUstarFitsUptoRow.holds Try.pinned (OpenSpec.upto fnExactUstarFitsSpec)

end Rows
end Go.Proofs.Ytkpdeeembnjmnaa
