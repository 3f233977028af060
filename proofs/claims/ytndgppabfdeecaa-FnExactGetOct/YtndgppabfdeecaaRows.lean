/-
  No cell of these rows narrows 'for every input' (looked for: loops, veiled, ifaces, maps, wideKeys, modest, calm, conditions, laid).
  DERIVED. THE GIVEN ROWS OF THIS SEAT. 4 by the template 'for every input the law returns true; each argument reads behind the call as it read before'; 0 by the template 'total and deterministic' (their statements: YtndgppabfdeecaaTotals.lean).
  GIVEN WITH THE SEED: the statements are not yours to turn. If you find one false, say at which input.
  Laid BY PROGRAM, IN A SANDBOX (cutbox-rows.mjs): the forced cells as the released guide's own fill.sh prints them over the translation 5b5cb1c2863f0df7… (all of the seat's roots in one cut). By AI agents, Wed Nov 11 2026. No macro, syntax, notation, axiom, sorry.
-/
import Derived.Test.YtndgppabfdeecaaChecked
import GoSem.Claim
import GoSem.ClaimJoined
import GoSem.ClaimMapViews
import Derived.JoinedTies
import Derived.KernelRfl
namespace Go.Proofs.Ytndgppabfdeecaa
/- THE CELL 'sum', in the pinned program and in every row, IS THE sha256 OF THE DUMP (.gsa) THAT YtndgppabfdeecaaProg.lean LOADS. Nothing in Lean hashes anything: it is a label: what it is worth is what the hold of that sum in a sandbox is worth. -/
noncomputable def Try.pinned : Pinned := { name := "ytndgppabfdeecaa", sum := "5b5cb1c2863f0df74026906c842804a642cccec2003cf0cbf91e0afc8860a480", checked := Try.checked }
namespace Rows
def none {H : Type} : Left H := { results := [], args := [] }

/-- 'laws.FnExactGetOct': WHATEVER THE INPUT: true; the input reads as it did. -/
def fnExactGetOctSpec : ChangeSpec := { name := "fnExactGetOct", fn := fun _ => fun
  | [d] => { results := [.lit (.bool true)], args := [d] }
  | _ => none }
def fnExactGetOctRow : OpenClaim := { program := "ytndgppabfdeecaa", sum := "5b5cb1c2863f0df74026906c842804a642cccec2003cf0cbf91e0afc8860a480", func := "loop.example/g00413/laws.FnExactGetOct", spec := "fnExactGetOct", apart := false }
def FnExactGetOctSaid : Prop := fnExactGetOctRow.holds Try.pinned (OpenSpec.ofChange fnExactGetOctSpec)

/-- ITS FALSE NEIGHBOUR: 'it returns false'. Refute it at one input. -/
def fnExactGetOctWrong : ChangeSpec := { name := "fnExactGetOct", fn := fun _ => fun
  | [d] => { results := [.lit (.bool false)], args := [d] }
  | _ => none }
def FnExactGetOctWrongFalsely : Prop := fnExactGetOctRow.holds Try.pinned (OpenSpec.ofChange fnExactGetOctWrong)

/-- 'laws.FnExactGetHex': WHATEVER THE INPUT: true; the input reads as it did. -/
def fnExactGetHexSpec : ChangeSpec := { name := "fnExactGetHex", fn := fun _ => fun
  | [d] => { results := [.lit (.bool true)], args := [d] }
  | _ => none }
def fnExactGetHexRow : OpenClaim := { program := "ytndgppabfdeecaa", sum := "5b5cb1c2863f0df74026906c842804a642cccec2003cf0cbf91e0afc8860a480", func := "loop.example/g00413/laws.FnExactGetHex", spec := "fnExactGetHex", apart := false }
def FnExactGetHexSaid : Prop := fnExactGetHexRow.holds Try.pinned (OpenSpec.ofChange fnExactGetHexSpec)

/-- ITS FALSE NEIGHBOUR: 'it returns false'. Refute it at one input. -/
def fnExactGetHexWrong : ChangeSpec := { name := "fnExactGetHex", fn := fun _ => fun
  | [d] => { results := [.lit (.bool false)], args := [d] }
  | _ => none }
def FnExactGetHexWrongFalsely : Prop := fnExactGetHexRow.holds Try.pinned (OpenSpec.ofChange fnExactGetHexWrong)

/-- 'laws.FnExactPutBig': WHATEVER THE INPUT: true; the input reads as it did. -/
def fnExactPutBigSpec : ChangeSpec := { name := "fnExactPutBig", fn := fun _ => fun
  | [d1, d2] => { results := [.lit (.bool true)], args := [d1, d2] }
  | _ => none }
def fnExactPutBigRow : OpenClaim := { program := "ytndgppabfdeecaa", sum := "5b5cb1c2863f0df74026906c842804a642cccec2003cf0cbf91e0afc8860a480", func := "loop.example/g00413/laws.FnExactPutBig", spec := "fnExactPutBig", apart := false }
def FnExactPutBigSaid : Prop := fnExactPutBigRow.holds Try.pinned (OpenSpec.ofChange fnExactPutBigSpec)

/-- ITS FALSE NEIGHBOUR: 'it returns false'. Refute it at one input. -/
def fnExactPutBigWrong : ChangeSpec := { name := "fnExactPutBig", fn := fun _ => fun
  | [d1, d2] => { results := [.lit (.bool false)], args := [d1, d2] }
  | _ => none }
def FnExactPutBigWrongFalsely : Prop := fnExactPutBigRow.holds Try.pinned (OpenSpec.ofChange fnExactPutBigWrong)

/-- 'laws.FnExactGetBig': WHATEVER THE INPUT: true; the input reads as it did. -/
def fnExactGetBigSpec : ChangeSpec := { name := "fnExactGetBig", fn := fun _ => fun
  | [d] => { results := [.lit (.bool true)], args := [d] }
  | _ => none }
def fnExactGetBigRow : OpenClaim := { program := "ytndgppabfdeecaa", sum := "5b5cb1c2863f0df74026906c842804a642cccec2003cf0cbf91e0afc8860a480", func := "loop.example/g00413/laws.FnExactGetBig", spec := "fnExactGetBig", apart := false }
def FnExactGetBigSaid : Prop := fnExactGetBigRow.holds Try.pinned (OpenSpec.ofChange fnExactGetBigSpec)

/-- ITS FALSE NEIGHBOUR: 'it returns false'. Refute it at one input. -/
def fnExactGetBigWrong : ChangeSpec := { name := "fnExactGetBig", fn := fun _ => fun
  | [d] => { results := [.lit (.bool false)], args := [d] }
  | _ => none }
def FnExactGetBigWrongFalsely : Prop := fnExactGetBigRow.holds Try.pinned (OpenSpec.ofChange fnExactGetBigWrong)

/- THE SECOND FORM. 'bulk': how many values and letters a reading holds, each counted each time it is reached (what is shared counts as often as it is met; a slice's spare places count too). A statement '..UptoSaid' is the law's where the arguments, and the package variables that the reading takes, are together of bulk at most 1048576: NARROWER than '..Said'. Prove '..Said' where nothing that the law and all that it calls make is longer than what came in: it says more and counts as full. Else prove '..UptoSaid'. A law counts once. -/
mutual
def uptoBulk {H : Type} : DataW H → Nat
  | .lit (.string bytes) => bytes.length + 1
  | .lit _ => 1
  | .nil => 1
  | .ptr d => uptoBulk d + 1
  | .slice elems spare => uptoBulkAll elems + uptoBulkAll spare + 1
  | .agg parts => uptoBulkAll parts + 1
  | .iface _ d => uptoBulk d + 1
  | .map entries => uptoBulkEntries entries + 1
  | .held _ => 1
def uptoBulkAll {H : Type} : List (DataW H) → Nat
  | [] => 0
  | d :: r => uptoBulk d + uptoBulkAll r
def uptoBulkEntries {H : Type} : List (Lit × DataW H) → Nat
  | [] => 0
  | x :: r => uptoBulkEntry x + uptoBulkEntries r
def uptoBulkEntry {H : Type} : Lit × DataW H → Nat
  | (.string bytes, d) => bytes.length + uptoBulk d + 1
  | (_, d) => uptoBulk d + 1
 end
def uptoSmall : (H : Type) → List (DataW H) → Bool := fun _ ds => decide (uptoBulkAll ds ≤ 1048576)
def OpenSpec.upto (s : _root_.Go.ChangeSpec) : _root_.Go.OpenSpec := { _root_.Go.OpenSpec.ofChange s with cond := some uptoSmall }

/-- 'laws.FnExactGetOct', WHERE WHAT IT READS IS OF BULK AT MOST 1048576: true; the input reads as it did. -/
def fnExactGetOctUptoRow : OpenClaim := { program := "ytndgppabfdeecaa", sum := "5b5cb1c2863f0df74026906c842804a642cccec2003cf0cbf91e0afc8860a480", func := "loop.example/g00413/laws.FnExactGetOct", spec := "fnExactGetOct", apart := false, narrowed := true }
def FnExactGetOctUptoSaid : Prop := fnExactGetOctUptoRow.holds Try.pinned (OpenSpec.upto fnExactGetOctSpec)

/-- 'laws.FnExactGetHex', WHERE WHAT IT READS IS OF BULK AT MOST 1048576: true; the input reads as it did. -/
def fnExactGetHexUptoRow : OpenClaim := { program := "ytndgppabfdeecaa", sum := "5b5cb1c2863f0df74026906c842804a642cccec2003cf0cbf91e0afc8860a480", func := "loop.example/g00413/laws.FnExactGetHex", spec := "fnExactGetHex", apart := false, narrowed := true }
def FnExactGetHexUptoSaid : Prop := fnExactGetHexUptoRow.holds Try.pinned (OpenSpec.upto fnExactGetHexSpec)

/-- 'laws.FnExactPutBig', WHERE WHAT IT READS IS OF BULK AT MOST 1048576: true; the input reads as it did. -/
def fnExactPutBigUptoRow : OpenClaim := { program := "ytndgppabfdeecaa", sum := "5b5cb1c2863f0df74026906c842804a642cccec2003cf0cbf91e0afc8860a480", func := "loop.example/g00413/laws.FnExactPutBig", spec := "fnExactPutBig", apart := false, narrowed := true }
def FnExactPutBigUptoSaid : Prop := fnExactPutBigUptoRow.holds Try.pinned (OpenSpec.upto fnExactPutBigSpec)

/-- 'laws.FnExactGetBig', WHERE WHAT IT READS IS OF BULK AT MOST 1048576: true; the input reads as it did. -/
def fnExactGetBigUptoRow : OpenClaim := { program := "ytndgppabfdeecaa", sum := "5b5cb1c2863f0df74026906c842804a642cccec2003cf0cbf91e0afc8860a480", func := "loop.example/g00413/laws.FnExactGetBig", spec := "fnExactGetBig", apart := false, narrowed := true }
def FnExactGetBigUptoSaid : Prop := fnExactGetBigUptoRow.holds Try.pinned (OpenSpec.upto fnExactGetBigSpec)

end Rows
end Go.Proofs.Ytndgppabfdeecaa
