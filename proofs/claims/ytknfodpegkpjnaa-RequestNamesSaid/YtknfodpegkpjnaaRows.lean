/-
  No cell of these rows narrows 'for every input' (looked for: loops, veiled, ifaces, maps, wideKeys, modest, calm, conditions, laid).
  DERIVED. THE GIVEN ROWS OF THIS SEAT. 7 by the template 'for every input the law returns true; each argument reads behind the call as it read before'; 0 by the template 'total and deterministic' (their statements: YtknfodpegkpjnaaTotals.lean).
  GIVEN WITH THE SEED: the statements are not yours to turn. If you find one false, say at which input.
  Laid BY PROGRAM, IN A SANDBOX (cutbox-rows.mjs): the forced cells as the released guide's own fill.sh prints them over the translation fc248c5dc23ea67c… (all of the seat's roots in one cut). By AI agents, Wed Nov 11 2026. No macro, syntax, notation, axiom, sorry.
-/
import Derived.Test.YtknfodpegkpjnaaChecked
import GoSem.Claim
import GoSem.ClaimJoined
import GoSem.ClaimMapViews
import Derived.JoinedTies
import Derived.KernelRfl
namespace Go.Proofs.Ytknfodpegkpjnaa
/- THE CELL 'sum', in the pinned program and in every row, IS THE sha256 OF THE DUMP (.gsa) THAT YtknfodpegkpjnaaProg.lean LOADS. Nothing in Lean hashes anything: it is a label: what it is worth is what the hold of that sum in a sandbox is worth. -/
noncomputable def Try.pinned : Pinned := { name := "ytknfodpegkpjnaa", sum := "fc248c5dc23ea67c252f4fdebf73fc96226e4d124090e334caed4e68cb83f0e9", checked := Try.checked }
namespace Rows
def none {H : Type} : Left H := { results := [], args := [] }

/-- 'batonlaw06.RequestReads': WHATEVER THE INPUT: true; the input reads as it did. -/
def requestReadsSpec : ChangeSpec := { name := "requestReads", fn := fun _ => fun
  | [d] => { results := [.lit (.bool true)], args := [d] }
  | _ => none }
def requestReadsRow : OpenClaim := { program := "ytknfodpegkpjnaa", sum := "fc248c5dc23ea67c252f4fdebf73fc96226e4d124090e334caed4e68cb83f0e9", func := "baton/batonlaw06.RequestReads", spec := "requestReads", unfollowed := true, recurses := true, apart := false }
def RequestReadsSaid : Prop := requestReadsRow.holds Try.pinned (OpenSpec.ofChange requestReadsSpec)

/-- ITS FALSE NEIGHBOUR: 'it returns false'. Refute it at one input. -/
def requestReadsWrong : ChangeSpec := { name := "requestReads", fn := fun _ => fun
  | [d] => { results := [.lit (.bool false)], args := [d] }
  | _ => none }
def RequestReadsWrongFalsely : Prop := requestReadsRow.holds Try.pinned (OpenSpec.ofChange requestReadsWrong)

/-- 'batonlaw06.RequestNames': WHATEVER THE INPUT: true; the input reads as it did. -/
def requestNamesSpec : ChangeSpec := { name := "requestNames", fn := fun _ => fun
  | [] => { results := [.lit (.bool true)], args := [] }
  | _ => none }
def requestNamesRow : OpenClaim := { program := "ytknfodpegkpjnaa", sum := "fc248c5dc23ea67c252f4fdebf73fc96226e4d124090e334caed4e68cb83f0e9", func := "baton/batonlaw06.RequestNames", spec := "requestNames", unfollowed := true, recurses := true, apart := false }
def RequestNamesSaid : Prop := requestNamesRow.holds Try.pinned (OpenSpec.ofChange requestNamesSpec)

/-- ITS FALSE NEIGHBOUR: 'it returns false'. Refute it at one input. -/
def requestNamesWrong : ChangeSpec := { name := "requestNames", fn := fun _ => fun
  | [] => { results := [.lit (.bool false)], args := [] }
  | _ => none }
def RequestNamesWrongFalsely : Prop := requestNamesRow.holds Try.pinned (OpenSpec.ofChange requestNamesWrong)

/-- 'batonlaw06.RequestBack': WHATEVER THE INPUT: true; the input reads as it did. -/
def requestBackSpec : ChangeSpec := { name := "requestBack", fn := fun _ => fun
  | [d1, d2] => { results := [.lit (.bool true)], args := [d1, d2] }
  | _ => none }
def requestBackRow : OpenClaim := { program := "ytknfodpegkpjnaa", sum := "fc248c5dc23ea67c252f4fdebf73fc96226e4d124090e334caed4e68cb83f0e9", func := "baton/batonlaw06.RequestBack", spec := "requestBack", unfollowed := true, recurses := true, apart := false }
def RequestBackSaid : Prop := requestBackRow.holds Try.pinned (OpenSpec.ofChange requestBackSpec)

/-- ITS FALSE NEIGHBOUR: 'it returns false'. Refute it at one input. -/
def requestBackWrong : ChangeSpec := { name := "requestBack", fn := fun _ => fun
  | [d1, d2] => { results := [.lit (.bool false)], args := [d1, d2] }
  | _ => none }
def RequestBackWrongFalsely : Prop := requestBackRow.holds Try.pinned (OpenSpec.ofChange requestBackWrong)

/-- 'batonlaw06.RequestJoined': WHATEVER THE INPUT: true; the input reads as it did. -/
def requestJoinedSpec : ChangeSpec := { name := "requestJoined", fn := fun _ => fun
  | [d1, d2] => { results := [.lit (.bool true)], args := [d1, d2] }
  | _ => none }
def requestJoinedRow : OpenClaim := { program := "ytknfodpegkpjnaa", sum := "fc248c5dc23ea67c252f4fdebf73fc96226e4d124090e334caed4e68cb83f0e9", func := "baton/batonlaw06.RequestJoined", spec := "requestJoined", unfollowed := true, recurses := true, apart := false }
def RequestJoinedSaid : Prop := requestJoinedRow.holds Try.pinned (OpenSpec.ofChange requestJoinedSpec)

/-- ITS FALSE NEIGHBOUR: 'it returns false'. Refute it at one input. -/
def requestJoinedWrong : ChangeSpec := { name := "requestJoined", fn := fun _ => fun
  | [d1, d2] => { results := [.lit (.bool false)], args := [d1, d2] }
  | _ => none }
def RequestJoinedWrongFalsely : Prop := requestJoinedRow.holds Try.pinned (OpenSpec.ofChange requestJoinedWrong)

/-- 'batonlaw06.RequestOthers': WHATEVER THE INPUT: true; the input reads as it did. -/
def requestOthersSpec : ChangeSpec := { name := "requestOthers", fn := fun _ => fun
  | [d1, d2, d3, d4, d5] => { results := [.lit (.bool true)], args := [d1, d2, d3, d4, d5] }
  | _ => none }
def requestOthersRow : OpenClaim := { program := "ytknfodpegkpjnaa", sum := "fc248c5dc23ea67c252f4fdebf73fc96226e4d124090e334caed4e68cb83f0e9", func := "baton/batonlaw06.RequestOthers", spec := "requestOthers", unfollowed := true, recurses := true, apart := false }
def RequestOthersSaid : Prop := requestOthersRow.holds Try.pinned (OpenSpec.ofChange requestOthersSpec)

/-- ITS FALSE NEIGHBOUR: 'it returns false'. Refute it at one input. -/
def requestOthersWrong : ChangeSpec := { name := "requestOthers", fn := fun _ => fun
  | [d1, d2, d3, d4, d5] => { results := [.lit (.bool false)], args := [d1, d2, d3, d4, d5] }
  | _ => none }
def RequestOthersWrongFalsely : Prop := requestOthersRow.holds Try.pinned (OpenSpec.ofChange requestOthersWrong)

/-- 'batonlaw06.RequestTwice': WHATEVER THE INPUT: true; the input reads as it did. -/
def requestTwiceSpec : ChangeSpec := { name := "requestTwice", fn := fun _ => fun
  | [d1, d2, d3, d4] => { results := [.lit (.bool true)], args := [d1, d2, d3, d4] }
  | _ => none }
def requestTwiceRow : OpenClaim := { program := "ytknfodpegkpjnaa", sum := "fc248c5dc23ea67c252f4fdebf73fc96226e4d124090e334caed4e68cb83f0e9", func := "baton/batonlaw06.RequestTwice", spec := "requestTwice", unfollowed := true, recurses := true, apart := false }
def RequestTwiceSaid : Prop := requestTwiceRow.holds Try.pinned (OpenSpec.ofChange requestTwiceSpec)

/-- ITS FALSE NEIGHBOUR: 'it returns false'. Refute it at one input. -/
def requestTwiceWrong : ChangeSpec := { name := "requestTwice", fn := fun _ => fun
  | [d1, d2, d3, d4] => { results := [.lit (.bool false)], args := [d1, d2, d3, d4] }
  | _ => none }
def RequestTwiceWrongFalsely : Prop := requestTwiceRow.holds Try.pinned (OpenSpec.ofChange requestTwiceWrong)

/-- 'batonlaw06.RequestEach': WHATEVER THE INPUT: true; the input reads as it did. -/
def requestEachSpec : ChangeSpec := { name := "requestEach", fn := fun _ => fun
  | [d1, d2, d3] => { results := [.lit (.bool true)], args := [d1, d2, d3] }
  | _ => none }
def requestEachRow : OpenClaim := { program := "ytknfodpegkpjnaa", sum := "fc248c5dc23ea67c252f4fdebf73fc96226e4d124090e334caed4e68cb83f0e9", func := "baton/batonlaw06.RequestEach", spec := "requestEach", unfollowed := true, recurses := true, apart := false }
def RequestEachSaid : Prop := requestEachRow.holds Try.pinned (OpenSpec.ofChange requestEachSpec)

/-- ITS FALSE NEIGHBOUR: 'it returns false'. Refute it at one input. -/
def requestEachWrong : ChangeSpec := { name := "requestEach", fn := fun _ => fun
  | [d1, d2, d3] => { results := [.lit (.bool false)], args := [d1, d2, d3] }
  | _ => none }
def RequestEachWrongFalsely : Prop := requestEachRow.holds Try.pinned (OpenSpec.ofChange requestEachWrong)

/- THE SECOND FORM. 'bulk': how many values and letters a reading holds, each counted each time it is reached (what is shared counts as often as it is met; a slice's spare places count too). A statement '..UptoSaid' is the law's where the arguments, and the package variables that the reading takes, are together of bulk at most 1048576: NARROWER than '..Said'. Prove '..Said' where nothing that the law and all that it calls make is longer than what came in: it says more and counts as full. Else prove '..UptoSaid'. A law counts once. -/
mutual
def uptoBulk {H : Type} : DataW H → Nat
  | .lit (.string bytes) => bytes.length + 1
  | .lit _ => 1
  | .nil => 1
  | .ptr d => uptoBulk d + 1
  | .slice elems spare => uptoBulkAll elems + uptoBulkAll spare + 1
  | .agg parts => uptoBulkAll parts + 1
  | .iface _ d => uptoBulk d + 1
  | .map entries => uptoBulkEntries entries + 1
  | .held _ => 1
def uptoBulkAll {H : Type} : List (DataW H) → Nat
  | [] => 0
  | d :: r => uptoBulk d + uptoBulkAll r
def uptoBulkEntries {H : Type} : List (Lit × DataW H) → Nat
  | [] => 0
  | x :: r => uptoBulkEntry x + uptoBulkEntries r
def uptoBulkEntry {H : Type} : Lit × DataW H → Nat
  | (.string bytes, d) => bytes.length + uptoBulk d + 1
  | (_, d) => uptoBulk d + 1
 end
def uptoSmall : (H : Type) → List (DataW H) → Bool := fun _ ds => decide (uptoBulkAll ds ≤ 1048576)
def OpenSpec.upto (s : _root_.Go.ChangeSpec) : _root_.Go.OpenSpec := { _root_.Go.OpenSpec.ofChange s with cond := some uptoSmall }

/-- 'batonlaw06.RequestReads', WHERE WHAT IT READS IS OF BULK AT MOST 1048576: true; the input reads as it did. -/
def requestReadsUptoRow : OpenClaim := { program := "ytknfodpegkpjnaa", sum := "fc248c5dc23ea67c252f4fdebf73fc96226e4d124090e334caed4e68cb83f0e9", func := "baton/batonlaw06.RequestReads", spec := "requestReads", unfollowed := true, recurses := true, apart := false, narrowed := true }
def RequestReadsUptoSaid : Prop := requestReadsUptoRow.holds Try.pinned (OpenSpec.upto requestReadsSpec)

/-- 'batonlaw06.RequestNames', WHERE WHAT IT READS IS OF BULK AT MOST 1048576: true; the input reads as it did. -/
def requestNamesUptoRow : OpenClaim := { program := "ytknfodpegkpjnaa", sum := "fc248c5dc23ea67c252f4fdebf73fc96226e4d124090e334caed4e68cb83f0e9", func := "baton/batonlaw06.RequestNames", spec := "requestNames", unfollowed := true, recurses := true, apart := false, narrowed := true }
def RequestNamesUptoSaid : Prop := requestNamesUptoRow.holds Try.pinned (OpenSpec.upto requestNamesSpec)

/-- 'batonlaw06.RequestBack', WHERE WHAT IT READS IS OF BULK AT MOST 1048576: true; the input reads as it did. -/
def requestBackUptoRow : OpenClaim := { program := "ytknfodpegkpjnaa", sum := "fc248c5dc23ea67c252f4fdebf73fc96226e4d124090e334caed4e68cb83f0e9", func := "baton/batonlaw06.RequestBack", spec := "requestBack", unfollowed := true, recurses := true, apart := false, narrowed := true }
def RequestBackUptoSaid : Prop := requestBackUptoRow.holds Try.pinned (OpenSpec.upto requestBackSpec)

/-- 'batonlaw06.RequestJoined', WHERE WHAT IT READS IS OF BULK AT MOST 1048576: true; the input reads as it did. -/
def requestJoinedUptoRow : OpenClaim := { program := "ytknfodpegkpjnaa", sum := "fc248c5dc23ea67c252f4fdebf73fc96226e4d124090e334caed4e68cb83f0e9", func := "baton/batonlaw06.RequestJoined", spec := "requestJoined", unfollowed := true, recurses := true, apart := false, narrowed := true }
def RequestJoinedUptoSaid : Prop := requestJoinedUptoRow.holds Try.pinned (OpenSpec.upto requestJoinedSpec)

/-- 'batonlaw06.RequestOthers', WHERE WHAT IT READS IS OF BULK AT MOST 1048576: true; the input reads as it did. -/
def requestOthersUptoRow : OpenClaim := { program := "ytknfodpegkpjnaa", sum := "fc248c5dc23ea67c252f4fdebf73fc96226e4d124090e334caed4e68cb83f0e9", func := "baton/batonlaw06.RequestOthers", spec := "requestOthers", unfollowed := true, recurses := true, apart := false, narrowed := true }
def RequestOthersUptoSaid : Prop := requestOthersUptoRow.holds Try.pinned (OpenSpec.upto requestOthersSpec)

/-- 'batonlaw06.RequestTwice', WHERE WHAT IT READS IS OF BULK AT MOST 1048576: true; the input reads as it did. -/
def requestTwiceUptoRow : OpenClaim := { program := "ytknfodpegkpjnaa", sum := "fc248c5dc23ea67c252f4fdebf73fc96226e4d124090e334caed4e68cb83f0e9", func := "baton/batonlaw06.RequestTwice", spec := "requestTwice", unfollowed := true, recurses := true, apart := false, narrowed := true }
def RequestTwiceUptoSaid : Prop := requestTwiceUptoRow.holds Try.pinned (OpenSpec.upto requestTwiceSpec)

/-- 'batonlaw06.RequestEach', WHERE WHAT IT READS IS OF BULK AT MOST 1048576: true; the input reads as it did. -/
def requestEachUptoRow : OpenClaim := { program := "ytknfodpegkpjnaa", sum := "fc248c5dc23ea67c252f4fdebf73fc96226e4d124090e334caed4e68cb83f0e9", func := "baton/batonlaw06.RequestEach", spec := "requestEach", unfollowed := true, recurses := true, apart := false, narrowed := true }
def RequestEachUptoSaid : Prop := requestEachUptoRow.holds Try.pinned (OpenSpec.upto requestEachSpec)

end Rows
end Go.Proofs.Ytknfodpegkpjnaa
