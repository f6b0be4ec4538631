/-
  No cell of these rows narrows 'for every input' (looked for: loops, veiled, ifaces, maps, wideKeys, modest, calm, conditions, laid).
  DERIVED. THE GIVEN ROWS OF THIS SEAT. 6 by the template 'for every input the law returns true; each argument reads behind the call as it read before'; 0 by the template 'total and deterministic' (their statements: YthbkkddfklbhlaaTotals.lean).
  GIVEN WITH THE SEED: the statements are not yours to turn. If you find one false, say at which input.
  Laid BY PROGRAM, IN A SANDBOX (cutbox-rows.mjs): the forced cells as the released guide's own fill.sh prints them over the translation f5d9451890c4ac82… (all of the seat's roots in one cut). By AI agents, Wed Nov 11 2026. No macro, syntax, notation, axiom, sorry.
-/
import Derived.Test.YthbkkddfklbhlaaChecked
import GoSem.Claim
import GoSem.ClaimJoined
import GoSem.ClaimMapViews
import Derived.JoinedTies
import Derived.KernelRfl
namespace Go.Proofs.Ythbkkddfklbhlaa
/- THE CELL 'sum', in the pinned program and in every row, IS THE sha256 OF THE DUMP (.gsa) THAT YthbkkddfklbhlaaProg.lean LOADS. Nothing in Lean hashes anything: it is a label: what it is worth is what the hold of that sum in a sandbox is worth. -/
noncomputable def Try.pinned : Pinned := { name := "ythbkkddfklbhlaa", sum := "f5d9451890c4ac82a4370384076153919cba9448a08f70f54908b463efb49ed7", checked := Try.checked }
namespace Rows
def none {H : Type} : Left H := { results := [], args := [] }

/-- 'annalslaw03.BitsKeys': WHATEVER THE INPUT: true; the input reads as it did. -/
def bitsKeysSpec : ChangeSpec := { name := "bitsKeys", fn := fun _ => fun
  | [d1, d2, d3, d4] => { results := [.lit (.bool true)], args := [d1, d2, d3, d4] }
  | _ => none }
def bitsKeysRow : OpenClaim := { program := "ythbkkddfklbhlaa", sum := "f5d9451890c4ac82a4370384076153919cba9448a08f70f54908b463efb49ed7", func := "annals/annalslaw03.BitsKeys", spec := "bitsKeys", inPlace := ["internal/bytealg.Compare"], apart := false }
def BitsKeysSaid : Prop := bitsKeysRow.holds Try.pinned (OpenSpec.ofChange bitsKeysSpec)

/-- ITS FALSE NEIGHBOUR: 'it returns false'. Refute it at one input. -/
def bitsKeysWrong : ChangeSpec := { name := "bitsKeys", fn := fun _ => fun
  | [d1, d2, d3, d4] => { results := [.lit (.bool false)], args := [d1, d2, d3, d4] }
  | _ => none }
def BitsKeysWrongFalsely : Prop := bitsKeysRow.holds Try.pinned (OpenSpec.ofChange bitsKeysWrong)

/-- 'annalslaw03.BitsFirst': WHATEVER THE INPUT: true; the input reads as it did. -/
def bitsFirstSpec : ChangeSpec := { name := "bitsFirst", fn := fun _ => fun
  | [d1, d2, d3] => { results := [.lit (.bool true)], args := [d1, d2, d3] }
  | _ => none }
def bitsFirstRow : OpenClaim := { program := "ythbkkddfklbhlaa", sum := "f5d9451890c4ac82a4370384076153919cba9448a08f70f54908b463efb49ed7", func := "annals/annalslaw03.BitsFirst", spec := "bitsFirst", apart := false }
def BitsFirstSaid : Prop := bitsFirstRow.holds Try.pinned (OpenSpec.ofChange bitsFirstSpec)

/-- ITS FALSE NEIGHBOUR: 'it returns false'. Refute it at one input. -/
def bitsFirstWrong : ChangeSpec := { name := "bitsFirst", fn := fun _ => fun
  | [d1, d2, d3] => { results := [.lit (.bool false)], args := [d1, d2, d3] }
  | _ => none }
def BitsFirstWrongFalsely : Prop := bitsFirstRow.holds Try.pinned (OpenSpec.ofChange bitsFirstWrong)

/-- 'annalslaw03.BitsSide': WHATEVER THE INPUT: true; the input reads as it did. -/
def bitsSideSpec : ChangeSpec := { name := "bitsSide", fn := fun _ => fun
  | [d1, d2, d3] => { results := [.lit (.bool true)], args := [d1, d2, d3] }
  | _ => none }
def bitsSideRow : OpenClaim := { program := "ythbkkddfklbhlaa", sum := "f5d9451890c4ac82a4370384076153919cba9448a08f70f54908b463efb49ed7", func := "annals/annalslaw03.BitsSide", spec := "bitsSide", apart := false }
def BitsSideSaid : Prop := bitsSideRow.holds Try.pinned (OpenSpec.ofChange bitsSideSpec)

/-- ITS FALSE NEIGHBOUR: 'it returns false'. Refute it at one input. -/
def bitsSideWrong : ChangeSpec := { name := "bitsSide", fn := fun _ => fun
  | [d1, d2, d3] => { results := [.lit (.bool false)], args := [d1, d2, d3] }
  | _ => none }
def BitsSideWrongFalsely : Prop := bitsSideRow.holds Try.pinned (OpenSpec.ofChange bitsSideWrong)

/-- 'annalslaw03.BitsApart': WHATEVER THE INPUT: true; the input reads as it did. -/
def bitsApartSpec : ChangeSpec := { name := "bitsApart", fn := fun _ => fun
  | [d1, d2] => { results := [.lit (.bool true)], args := [d1, d2] }
  | _ => none }
def bitsApartRow : OpenClaim := { program := "ythbkkddfklbhlaa", sum := "f5d9451890c4ac82a4370384076153919cba9448a08f70f54908b463efb49ed7", func := "annals/annalslaw03.BitsApart", spec := "bitsApart", inPlace := ["internal/bytealg.Compare"], apart := false }
def BitsApartSaid : Prop := bitsApartRow.holds Try.pinned (OpenSpec.ofChange bitsApartSpec)

/-- ITS FALSE NEIGHBOUR: 'it returns false'. Refute it at one input. -/
def bitsApartWrong : ChangeSpec := { name := "bitsApart", fn := fun _ => fun
  | [d1, d2] => { results := [.lit (.bool false)], args := [d1, d2] }
  | _ => none }
def BitsApartWrongFalsely : Prop := bitsApartRow.holds Try.pinned (OpenSpec.ofChange bitsApartWrong)

/-- 'annalslaw03.BitsShorter': WHATEVER THE INPUT: true; the input reads as it did. -/
def bitsShorterSpec : ChangeSpec := { name := "bitsShorter", fn := fun _ => fun
  | [d1, d2, d3] => { results := [.lit (.bool true)], args := [d1, d2, d3] }
  | _ => none }
def bitsShorterRow : OpenClaim := { program := "ythbkkddfklbhlaa", sum := "f5d9451890c4ac82a4370384076153919cba9448a08f70f54908b463efb49ed7", func := "annals/annalslaw03.BitsShorter", spec := "bitsShorter", apart := false }
def BitsShorterSaid : Prop := bitsShorterRow.holds Try.pinned (OpenSpec.ofChange bitsShorterSpec)

/-- ITS FALSE NEIGHBOUR: 'it returns false'. Refute it at one input. -/
def bitsShorterWrong : ChangeSpec := { name := "bitsShorter", fn := fun _ => fun
  | [d1, d2, d3] => { results := [.lit (.bool false)], args := [d1, d2, d3] }
  | _ => none }
def BitsShorterWrongFalsely : Prop := bitsShorterRow.holds Try.pinned (OpenSpec.ofChange bitsShorterWrong)

/-- 'annalslaw04.CodecPuts': WHATEVER THE INPUT: true; the input reads as it did. -/
def codecPutsSpec : ChangeSpec := { name := "codecPuts", fn := fun _ => fun
  | [d1, d2, d3, d4] => { results := [.lit (.bool true)], args := [d1, d2, d3, d4] }
  | _ => none }
def codecPutsRow : OpenClaim := { program := "ythbkkddfklbhlaa", sum := "f5d9451890c4ac82a4370384076153919cba9448a08f70f54908b463efb49ed7", func := "annals/annalslaw04.CodecPuts", spec := "codecPuts", apart := false }
def CodecPutsSaid : Prop := codecPutsRow.holds Try.pinned (OpenSpec.ofChange codecPutsSpec)

/-- ITS FALSE NEIGHBOUR: 'it returns false'. Refute it at one input. -/
def codecPutsWrong : ChangeSpec := { name := "codecPuts", fn := fun _ => fun
  | [d1, d2, d3, d4] => { results := [.lit (.bool false)], args := [d1, d2, d3, d4] }
  | _ => none }
def CodecPutsWrongFalsely : Prop := codecPutsRow.holds Try.pinned (OpenSpec.ofChange codecPutsWrong)

/- THE SECOND FORM. 'bulk': how many values and letters a reading holds, each counted each time it is reached (what is shared counts as often as it is met; a slice's spare places count too). A statement '..UptoSaid' is the law's where the arguments, and the package variables that the reading takes, are together of bulk at most 1048576: NARROWER than '..Said'. Prove '..Said' where nothing that the law and all that it calls make is longer than what came in: it says more and counts as full. Else prove '..UptoSaid'. A law counts once. -/
mutual
def uptoBulk {H : Type} : DataW H → Nat
  | .lit (.string bytes) => bytes.length + 1
  | .lit _ => 1
  | .nil => 1
  | .ptr d => uptoBulk d + 1
  | .slice elems spare => uptoBulkAll elems + uptoBulkAll spare + 1
  | .agg parts => uptoBulkAll parts + 1
  | .iface _ d => uptoBulk d + 1
  | .map entries => uptoBulkEntries entries + 1
  | .held _ => 1
def uptoBulkAll {H : Type} : List (DataW H) → Nat
  | [] => 0
  | d :: r => uptoBulk d + uptoBulkAll r
def uptoBulkEntries {H : Type} : List (Lit × DataW H) → Nat
  | [] => 0
  | x :: r => uptoBulkEntry x + uptoBulkEntries r
def uptoBulkEntry {H : Type} : Lit × DataW H → Nat
  | (.string bytes, d) => bytes.length + uptoBulk d + 1
  | (_, d) => uptoBulk d + 1
 end
def uptoSmall : (H : Type) → List (DataW H) → Bool := fun _ ds => decide (uptoBulkAll ds ≤ 1048576)
def OpenSpec.upto (s : _root_.Go.ChangeSpec) : _root_.Go.OpenSpec := { _root_.Go.OpenSpec.ofChange s with cond := some uptoSmall }

/-- 'annalslaw03.BitsKeys', WHERE WHAT IT READS IS OF BULK AT MOST 1048576: true; the input reads as it did. -/
def bitsKeysUptoRow : OpenClaim := { program := "ythbkkddfklbhlaa", sum := "f5d9451890c4ac82a4370384076153919cba9448a08f70f54908b463efb49ed7", func := "annals/annalslaw03.BitsKeys", spec := "bitsKeys", inPlace := ["internal/bytealg.Compare"], apart := false, narrowed := true }
def BitsKeysUptoSaid : Prop := bitsKeysUptoRow.holds Try.pinned (OpenSpec.upto bitsKeysSpec)

/-- 'annalslaw03.BitsFirst', WHERE WHAT IT READS IS OF BULK AT MOST 1048576: true; the input reads as it did. -/
def bitsFirstUptoRow : OpenClaim := { program := "ythbkkddfklbhlaa", sum := "f5d9451890c4ac82a4370384076153919cba9448a08f70f54908b463efb49ed7", func := "annals/annalslaw03.BitsFirst", spec := "bitsFirst", apart := false, narrowed := true }
def BitsFirstUptoSaid : Prop := bitsFirstUptoRow.holds Try.pinned (OpenSpec.upto bitsFirstSpec)

/-- 'annalslaw03.BitsSide', WHERE WHAT IT READS IS OF BULK AT MOST 1048576: true; the input reads as it did. -/
def bitsSideUptoRow : OpenClaim := { program := "ythbkkddfklbhlaa", sum := "f5d9451890c4ac82a4370384076153919cba9448a08f70f54908b463efb49ed7", func := "annals/annalslaw03.BitsSide", spec := "bitsSide", apart := false, narrowed := true }
def BitsSideUptoSaid : Prop := bitsSideUptoRow.holds Try.pinned (OpenSpec.upto bitsSideSpec)

/-- 'annalslaw03.BitsApart', WHERE WHAT IT READS IS OF BULK AT MOST 1048576: true; the input reads as it did. -/
def bitsApartUptoRow : OpenClaim := { program := "ythbkkddfklbhlaa", sum := "f5d9451890c4ac82a4370384076153919cba9448a08f70f54908b463efb49ed7", func := "annals/annalslaw03.BitsApart", spec := "bitsApart", inPlace := ["internal/bytealg.Compare"], apart := false, narrowed := true }
def BitsApartUptoSaid : Prop := bitsApartUptoRow.holds Try.pinned (OpenSpec.upto bitsApartSpec)

/-- 'annalslaw03.BitsShorter', WHERE WHAT IT READS IS OF BULK AT MOST 1048576: true; the input reads as it did. -/
def bitsShorterUptoRow : OpenClaim := { program := "ythbkkddfklbhlaa", sum := "f5d9451890c4ac82a4370384076153919cba9448a08f70f54908b463efb49ed7", func := "annals/annalslaw03.BitsShorter", spec := "bitsShorter", apart := false, narrowed := true }
def BitsShorterUptoSaid : Prop := bitsShorterUptoRow.holds Try.pinned (OpenSpec.upto bitsShorterSpec)

/-- 'annalslaw04.CodecPuts', WHERE WHAT IT READS IS OF BULK AT MOST 1048576: true; the input reads as it did. -/
def codecPutsUptoRow : OpenClaim := { program := "ythbkkddfklbhlaa", sum := "f5d9451890c4ac82a4370384076153919cba9448a08f70f54908b463efb49ed7", func := "annals/annalslaw04.CodecPuts", spec := "codecPuts", apart := false, narrowed := true }
def CodecPutsUptoSaid : Prop := codecPutsUptoRow.holds Try.pinned (OpenSpec.upto codecPutsSpec)

end Rows
end Go.Proofs.Ythbkkddfklbhlaa
