/-
  NARROWER THAN 'FOR EVERY INPUT', by the rows' own cells (each row's printed sentence says how): ArenaLives: laid · ArenaHashes: laid · ArenaSwept: laid · ArenaNobody: laid · PtreeLives: laid · PtreeErrs: laid.
  DERIVED. THE GIVEN ROWS OF THIS SEAT. 6 by the template 'for every input the law returns true; each argument reads behind the call as it read before'; 0 by the template 'total and deterministic' (their statements: YtofchcheoanmdaaDoorTotals.lean).
  GIVEN WITH THE SEED: the statements are not yours to turn. If you find one false, say at which input.
  Laid BY PROGRAM, IN A SANDBOX (cutbox-rows.mjs): the forced cells as the released guide's own fill.sh prints them over the translation a012975cf00569aa… (all of the seat's roots in one cut). By AI agents, Wed Nov 11 2026. No macro, syntax, notation, axiom, sorry.
-/
import Derived.Test.YtofchcheoanmdaaDoorChecked
import GoSem.Claim
import GoSem.ClaimJoined
import GoSem.ClaimMapViews
import Derived.JoinedTies
import Derived.KernelRfl
namespace Go.Proofs.YtofchcheoanmdaaDoor
/- THE CELL 'sum', in the pinned program and in every row, IS THE sha256 OF THE DUMP (.gsa) THAT YtofchcheoanmdaaDoorProg.lean LOADS. Nothing in Lean hashes anything: it is a label: what it is worth is what the hold of that sum in a sandbox is worth. -/
noncomputable def Tryd.pinned : Pinned := { name := "ytofchcheoanmdaadoor", sum := "a012975cf00569aa3e2bdbc10da783a70409f16a70c9013ec98e6aa8680fa038", checked := Tryd.checked }
namespace Rows
def none {H : Type} : Left H := { results := [], args := [] }

/- WHAT THE LISTED PACKAGE-LEVEL VARIABLES READ AS WHEN THE CALL BEGINS. Each datum BY PROGRAM (the guide's laid-datum.mjs) off the statement by which the dump's own 'gosem.cut.vars' lays the variable. In a bare row this is a premise. The card (YtofchcheoanmdaaDoorCards.lean) ties it to the program's text. -/
def laid_annals_sha_start {H : Type} : DataW H := .agg [.lit (.int .u32 1779033703), .lit (.int .u32 3144134277), .lit (.int .u32 1013904242), .lit (.int .u32 2773480762), .lit (.int .u32 1359893119), .lit (.int .u32 2600822924), .lit (.int .u32 528734635), .lit (.int .u32 1541459225)]
def laid_annals_sha_rounds {H : Type} : DataW H := .agg [.lit (.int .u32 1116352408), .lit (.int .u32 1899447441), .lit (.int .u32 3049323471), .lit (.int .u32 3921009573), .lit (.int .u32 961987163), .lit (.int .u32 1508970993), .lit (.int .u32 2453635748), .lit (.int .u32 2870763221), .lit (.int .u32 3624381080), .lit (.int .u32 310598401), .lit (.int .u32 607225278), .lit (.int .u32 1426881987), .lit (.int .u32 1925078388), .lit (.int .u32 2162078206), .lit (.int .u32 2614888103), .lit (.int .u32 3248222580), .lit (.int .u32 3835390401), .lit (.int .u32 4022224774), .lit (.int .u32 264347078), .lit (.int .u32 604807628), .lit (.int .u32 770255983), .lit (.int .u32 1249150122), .lit (.int .u32 1555081692), .lit (.int .u32 1996064986), .lit (.int .u32 2554220882), .lit (.int .u32 2821834349), .lit (.int .u32 2952996808), .lit (.int .u32 3210313671), .lit (.int .u32 3336571891), .lit (.int .u32 3584528711), .lit (.int .u32 113926993), .lit (.int .u32 338241895), .lit (.int .u32 666307205), .lit (.int .u32 773529912), .lit (.int .u32 1294757372), .lit (.int .u32 1396182291), .lit (.int .u32 1695183700), .lit (.int .u32 1986661051), .lit (.int .u32 2177026350), .lit (.int .u32 2456956037), .lit (.int .u32 2730485921), .lit (.int .u32 2820302411), .lit (.int .u32 3259730800), .lit (.int .u32 3345764771), .lit (.int .u32 3516065817), .lit (.int .u32 3600352804), .lit (.int .u32 4094571909), .lit (.int .u32 275423344), .lit (.int .u32 430227734), .lit (.int .u32 506948616), .lit (.int .u32 659060556), .lit (.int .u32 883997877), .lit (.int .u32 958139571), .lit (.int .u32 1322822218), .lit (.int .u32 1537002063), .lit (.int .u32 1747873779), .lit (.int .u32 1955562222), .lit (.int .u32 2024104815), .lit (.int .u32 2227730452), .lit (.int .u32 2361852424), .lit (.int .u32 2428436474), .lit (.int .u32 2756734187), .lit (.int .u32 3204031479), .lit (.int .u32 3329325298)]

/-- 'annalslaw09.ArenaLives': WHATEVER THE INPUT: true; the input reads as it did. -/
def arenaLivesSpec : ChangeSpec := { name := "arenaLives", fn := fun _ => fun
  | [d1, d2, d3] => { results := [.lit (.bool true)], args := [d1, d2, d3] }
  | _ => none }
def arenaLivesRow : OpenClaim := { program := "ytofchcheoanmdaadoor", sum := "a012975cf00569aa3e2bdbc10da783a70409f16a70c9013ec98e6aa8680fa038", func := "annals/annalslaw09.ArenaLives", spec := "arenaLives", unfollowed := true, recurses := true, named := ["annals/sha.start", "annals/sha.rounds"], apart := false, laid := [("annals/sha.start", laid_annals_sha_start), ("annals/sha.rounds", laid_annals_sha_rounds)] }
def ArenaLivesSaid : Prop := arenaLivesRow.holds Tryd.pinned (OpenSpec.ofChange arenaLivesSpec)

/-- ITS FALSE NEIGHBOUR: 'it returns false'. Refute it at one input. -/
def arenaLivesWrong : ChangeSpec := { name := "arenaLives", fn := fun _ => fun
  | [d1, d2, d3] => { results := [.lit (.bool false)], args := [d1, d2, d3] }
  | _ => none }
def ArenaLivesWrongFalsely : Prop := arenaLivesRow.holds Tryd.pinned (OpenSpec.ofChange arenaLivesWrong)

/-- 'annalslaw09.ArenaHashes': WHATEVER THE INPUT: true; the input reads as it did. -/
def arenaHashesSpec : ChangeSpec := { name := "arenaHashes", fn := fun _ => fun
  | [d1, d2, d3, d4, d5, d6, d7] => { results := [.lit (.bool true)], args := [d1, d2, d3, d4, d5, d6, d7] }
  | _ => none }
def arenaHashesRow : OpenClaim := { program := "ytofchcheoanmdaadoor", sum := "a012975cf00569aa3e2bdbc10da783a70409f16a70c9013ec98e6aa8680fa038", func := "annals/annalslaw09.ArenaHashes", spec := "arenaHashes", unfollowed := true, recurses := true, named := ["annals/sha.start", "annals/sha.rounds"], apart := false, laid := [("annals/sha.start", laid_annals_sha_start), ("annals/sha.rounds", laid_annals_sha_rounds)] }
def ArenaHashesSaid : Prop := arenaHashesRow.holds Tryd.pinned (OpenSpec.ofChange arenaHashesSpec)

/-- ITS FALSE NEIGHBOUR: 'it returns false'. Refute it at one input. -/
def arenaHashesWrong : ChangeSpec := { name := "arenaHashes", fn := fun _ => fun
  | [d1, d2, d3, d4, d5, d6, d7] => { results := [.lit (.bool false)], args := [d1, d2, d3, d4, d5, d6, d7] }
  | _ => none }
def ArenaHashesWrongFalsely : Prop := arenaHashesRow.holds Tryd.pinned (OpenSpec.ofChange arenaHashesWrong)

/-- 'annalslaw09.ArenaSwept': WHATEVER THE INPUT: true; the input reads as it did. -/
def arenaSweptSpec : ChangeSpec := { name := "arenaSwept", fn := fun _ => fun
  | [d1, d2] => { results := [.lit (.bool true)], args := [d1, d2] }
  | _ => none }
def arenaSweptRow : OpenClaim := { program := "ytofchcheoanmdaadoor", sum := "a012975cf00569aa3e2bdbc10da783a70409f16a70c9013ec98e6aa8680fa038", func := "annals/annalslaw09.ArenaSwept", spec := "arenaSwept", unfollowed := true, recurses := true, named := ["annals/sha.start", "annals/sha.rounds"], apart := false, laid := [("annals/sha.start", laid_annals_sha_start), ("annals/sha.rounds", laid_annals_sha_rounds)] }
def ArenaSweptSaid : Prop := arenaSweptRow.holds Tryd.pinned (OpenSpec.ofChange arenaSweptSpec)

/-- ITS FALSE NEIGHBOUR: 'it returns false'. Refute it at one input. -/
def arenaSweptWrong : ChangeSpec := { name := "arenaSwept", fn := fun _ => fun
  | [d1, d2] => { results := [.lit (.bool false)], args := [d1, d2] }
  | _ => none }
def ArenaSweptWrongFalsely : Prop := arenaSweptRow.holds Tryd.pinned (OpenSpec.ofChange arenaSweptWrong)

/-- 'annalslaw09.ArenaNobody': WHATEVER THE INPUT: true; the input reads as it did. -/
def arenaNobodySpec : ChangeSpec := { name := "arenaNobody", fn := fun _ => fun
  | [d] => { results := [.lit (.bool true)], args := [d] }
  | _ => none }
def arenaNobodyRow : OpenClaim := { program := "ytofchcheoanmdaadoor", sum := "a012975cf00569aa3e2bdbc10da783a70409f16a70c9013ec98e6aa8680fa038", func := "annals/annalslaw09.ArenaNobody", spec := "arenaNobody", unfollowed := true, recurses := true, named := ["annals/sha.start", "annals/sha.rounds"], apart := false, laid := [("annals/sha.start", laid_annals_sha_start), ("annals/sha.rounds", laid_annals_sha_rounds)] }
def ArenaNobodySaid : Prop := arenaNobodyRow.holds Tryd.pinned (OpenSpec.ofChange arenaNobodySpec)

/-- ITS FALSE NEIGHBOUR: 'it returns false'. Refute it at one input. -/
def arenaNobodyWrong : ChangeSpec := { name := "arenaNobody", fn := fun _ => fun
  | [d] => { results := [.lit (.bool false)], args := [d] }
  | _ => none }
def ArenaNobodyWrongFalsely : Prop := arenaNobodyRow.holds Tryd.pinned (OpenSpec.ofChange arenaNobodyWrong)

/-- 'annalslaw10.PtreeLives': WHATEVER THE INPUT: true; the input reads as it did. -/
def ptreeLivesSpec : ChangeSpec := { name := "ptreeLives", fn := fun _ => fun
  | [d1, d2, d3] => { results := [.lit (.bool true)], args := [d1, d2, d3] }
  | _ => none }
def ptreeLivesRow : OpenClaim := { program := "ytofchcheoanmdaadoor", sum := "a012975cf00569aa3e2bdbc10da783a70409f16a70c9013ec98e6aa8680fa038", func := "annals/annalslaw10.PtreeLives", spec := "ptreeLives", unfollowed := true, recurses := true, named := ["annals/sha.start", "annals/sha.rounds"], apart := false, laid := [("annals/sha.start", laid_annals_sha_start), ("annals/sha.rounds", laid_annals_sha_rounds)] }
def PtreeLivesSaid : Prop := ptreeLivesRow.holds Tryd.pinned (OpenSpec.ofChange ptreeLivesSpec)

/-- ITS FALSE NEIGHBOUR: 'it returns false'. Refute it at one input. -/
def ptreeLivesWrong : ChangeSpec := { name := "ptreeLives", fn := fun _ => fun
  | [d1, d2, d3] => { results := [.lit (.bool false)], args := [d1, d2, d3] }
  | _ => none }
def PtreeLivesWrongFalsely : Prop := ptreeLivesRow.holds Tryd.pinned (OpenSpec.ofChange ptreeLivesWrong)

/-- 'annalslaw10.PtreeErrs': WHATEVER THE INPUT: true; the input reads as it did. -/
def ptreeErrsSpec : ChangeSpec := { name := "ptreeErrs", fn := fun _ => fun
  | [d1, d2, d3, d4] => { results := [.lit (.bool true)], args := [d1, d2, d3, d4] }
  | _ => none }
def ptreeErrsRow : OpenClaim := { program := "ytofchcheoanmdaadoor", sum := "a012975cf00569aa3e2bdbc10da783a70409f16a70c9013ec98e6aa8680fa038", func := "annals/annalslaw10.PtreeErrs", spec := "ptreeErrs", unfollowed := true, recurses := true, named := ["annals/sha.start", "annals/sha.rounds"], apart := false, laid := [("annals/sha.start", laid_annals_sha_start), ("annals/sha.rounds", laid_annals_sha_rounds)] }
def PtreeErrsSaid : Prop := ptreeErrsRow.holds Tryd.pinned (OpenSpec.ofChange ptreeErrsSpec)

/-- ITS FALSE NEIGHBOUR: 'it returns false'. Refute it at one input. -/
def ptreeErrsWrong : ChangeSpec := { name := "ptreeErrs", fn := fun _ => fun
  | [d1, d2, d3, d4] => { results := [.lit (.bool false)], args := [d1, d2, d3, d4] }
  | _ => none }
def PtreeErrsWrongFalsely : Prop := ptreeErrsRow.holds Tryd.pinned (OpenSpec.ofChange ptreeErrsWrong)

/- THE SECOND FORM. 'bulk': how many values and letters a reading holds, each counted each time it is reached (what is shared counts as often as it is met; a slice's spare places count too). A statement '..UptoSaid' is the law's where the arguments, and the package variables that the reading takes, are together of bulk at most 1048576: NARROWER than '..Said'. Prove '..Said' where nothing that the law and all that it calls make is longer than what came in: it says more and counts as full. Else prove '..UptoSaid'. A law counts once. -/
mutual
def uptoBulk {H : Type} : DataW H → Nat
  | .lit (.string bytes) => bytes.length + 1
  | .lit _ => 1
  | .nil => 1
  | .ptr d => uptoBulk d + 1
  | .slice elems spare => uptoBulkAll elems + uptoBulkAll spare + 1
  | .agg parts => uptoBulkAll parts + 1
  | .iface _ d => uptoBulk d + 1
  | .map entries => uptoBulkEntries entries + 1
  | .held _ => 1
def uptoBulkAll {H : Type} : List (DataW H) → Nat
  | [] => 0
  | d :: r => uptoBulk d + uptoBulkAll r
def uptoBulkEntries {H : Type} : List (Lit × DataW H) → Nat
  | [] => 0
  | x :: r => uptoBulkEntry x + uptoBulkEntries r
def uptoBulkEntry {H : Type} : Lit × DataW H → Nat
  | (.string bytes, d) => bytes.length + uptoBulk d + 1
  | (_, d) => uptoBulk d + 1
 end
def uptoSmall : (H : Type) → List (DataW H) → Bool := fun _ ds => decide (uptoBulkAll ds ≤ 1048576)
def OpenSpec.upto (s : _root_.Go.ChangeSpec) : _root_.Go.OpenSpec := { _root_.Go.OpenSpec.ofChange s with cond := some uptoSmall }

/-- 'annalslaw09.ArenaLives', WHERE WHAT IT READS IS OF BULK AT MOST 1048576: true; the input reads as it did. -/
def arenaLivesUptoRow : OpenClaim := { program := "ytofchcheoanmdaadoor", sum := "a012975cf00569aa3e2bdbc10da783a70409f16a70c9013ec98e6aa8680fa038", func := "annals/annalslaw09.ArenaLives", spec := "arenaLives", unfollowed := true, recurses := true, named := ["annals/sha.start", "annals/sha.rounds"], apart := false, laid := [("annals/sha.start", laid_annals_sha_start), ("annals/sha.rounds", laid_annals_sha_rounds)], narrowed := true }
def ArenaLivesUptoSaid : Prop := arenaLivesUptoRow.holds Tryd.pinned (OpenSpec.upto arenaLivesSpec)

/-- 'annalslaw09.ArenaHashes', WHERE WHAT IT READS IS OF BULK AT MOST 1048576: true; the input reads as it did. -/
def arenaHashesUptoRow : OpenClaim := { program := "ytofchcheoanmdaadoor", sum := "a012975cf00569aa3e2bdbc10da783a70409f16a70c9013ec98e6aa8680fa038", func := "annals/annalslaw09.ArenaHashes", spec := "arenaHashes", unfollowed := true, recurses := true, named := ["annals/sha.start", "annals/sha.rounds"], apart := false, laid := [("annals/sha.start", laid_annals_sha_start), ("annals/sha.rounds", laid_annals_sha_rounds)], narrowed := true }
def ArenaHashesUptoSaid : Prop := arenaHashesUptoRow.holds Tryd.pinned (OpenSpec.upto arenaHashesSpec)

/-- 'annalslaw09.ArenaSwept', WHERE WHAT IT READS IS OF BULK AT MOST 1048576: true; the input reads as it did. -/
def arenaSweptUptoRow : OpenClaim := { program := "ytofchcheoanmdaadoor", sum := "a012975cf00569aa3e2bdbc10da783a70409f16a70c9013ec98e6aa8680fa038", func := "annals/annalslaw09.ArenaSwept", spec := "arenaSwept", unfollowed := true, recurses := true, named := ["annals/sha.start", "annals/sha.rounds"], apart := false, laid := [("annals/sha.start", laid_annals_sha_start), ("annals/sha.rounds", laid_annals_sha_rounds)], narrowed := true }
def ArenaSweptUptoSaid : Prop := arenaSweptUptoRow.holds Tryd.pinned (OpenSpec.upto arenaSweptSpec)

/-- 'annalslaw09.ArenaNobody', WHERE WHAT IT READS IS OF BULK AT MOST 1048576: true; the input reads as it did. -/
def arenaNobodyUptoRow : OpenClaim := { program := "ytofchcheoanmdaadoor", sum := "a012975cf00569aa3e2bdbc10da783a70409f16a70c9013ec98e6aa8680fa038", func := "annals/annalslaw09.ArenaNobody", spec := "arenaNobody", unfollowed := true, recurses := true, named := ["annals/sha.start", "annals/sha.rounds"], apart := false, laid := [("annals/sha.start", laid_annals_sha_start), ("annals/sha.rounds", laid_annals_sha_rounds)], narrowed := true }
def ArenaNobodyUptoSaid : Prop := arenaNobodyUptoRow.holds Tryd.pinned (OpenSpec.upto arenaNobodySpec)

/-- 'annalslaw10.PtreeLives', WHERE WHAT IT READS IS OF BULK AT MOST 1048576: true; the input reads as it did. -/
def ptreeLivesUptoRow : OpenClaim := { program := "ytofchcheoanmdaadoor", sum := "a012975cf00569aa3e2bdbc10da783a70409f16a70c9013ec98e6aa8680fa038", func := "annals/annalslaw10.PtreeLives", spec := "ptreeLives", unfollowed := true, recurses := true, named := ["annals/sha.start", "annals/sha.rounds"], apart := false, laid := [("annals/sha.start", laid_annals_sha_start), ("annals/sha.rounds", laid_annals_sha_rounds)], narrowed := true }
def PtreeLivesUptoSaid : Prop := ptreeLivesUptoRow.holds Tryd.pinned (OpenSpec.upto ptreeLivesSpec)

/-- 'annalslaw10.PtreeErrs', WHERE WHAT IT READS IS OF BULK AT MOST 1048576: true; the input reads as it did. -/
def ptreeErrsUptoRow : OpenClaim := { program := "ytofchcheoanmdaadoor", sum := "a012975cf00569aa3e2bdbc10da783a70409f16a70c9013ec98e6aa8680fa038", func := "annals/annalslaw10.PtreeErrs", spec := "ptreeErrs", unfollowed := true, recurses := true, named := ["annals/sha.start", "annals/sha.rounds"], apart := false, laid := [("annals/sha.start", laid_annals_sha_start), ("annals/sha.rounds", laid_annals_sha_rounds)], narrowed := true }
def PtreeErrsUptoSaid : Prop := ptreeErrsUptoRow.holds Tryd.pinned (OpenSpec.upto ptreeErrsSpec)

end Rows
end Go.Proofs.YtofchcheoanmdaaDoor
