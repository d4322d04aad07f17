/-
  No cell of these rows narrows 'for every input' (looked for: loops, veiled, ifaces, maps, wideKeys, modest, calm, conditions, laid).
  DERIVED. THE GIVEN ROWS OF THIS SEAT. 9 by the template 'for every input the law returns true; each argument reads behind the call as it read before'; 0 by the template 'total and deterministic' (their statements: YtbckkfoenembmaaTotals.lean).
  GIVEN WITH THE SEED: the statements are not yours to turn. If you find one false, say at which input.
  Laid BY PROGRAM, IN A SANDBOX (cutbox-rows.mjs): the forced cells as the released guide's own fill.sh prints them over the translation 1ab9c13b0b50f01a… (all of the seat's roots in one cut). By AI agents, Wed Nov 11 2026. No macro, syntax, notation, axiom, sorry.
-/
import Derived.Test.YtbckkfoenembmaaChecked
import GoSem.Claim
import GoSem.ClaimJoined
import GoSem.ClaimMapViews
import Derived.JoinedTies
import Derived.KernelRfl
namespace Go.Proofs.Ytbckkfoenembmaa
/- THE CELL 'sum', in the pinned program and in every row, IS THE sha256 OF THE DUMP (.gsa) THAT YtbckkfoenembmaaProg.lean LOADS. Nothing in Lean hashes anything: it is a label: what it is worth is what the hold of that sum in a sandbox is worth. -/
noncomputable def Try.pinned : Pinned := { name := "ytbckkfoenembmaa", sum := "1ab9c13b0b50f01aef1e359f4c29d25efdc8117496b34fc5a733a46d37dfa781", checked := Try.checked }
namespace Rows
def none {H : Type} : Left H := { results := [], args := [] }

/-- 'batonlaw04.ProtoReads': WHATEVER THE INPUT: true; the input reads as it did. -/
def protoReadsSpec : ChangeSpec := { name := "protoReads", fn := fun _ => fun
  | [d] => { results := [.lit (.bool true)], args := [d] }
  | _ => none }
def protoReadsRow : OpenClaim := { program := "ytbckkfoenembmaa", sum := "1ab9c13b0b50f01aef1e359f4c29d25efdc8117496b34fc5a733a46d37dfa781", func := "baton/batonlaw04.ProtoReads", spec := "protoReads", unfollowed := true, recurses := true, apart := false }
def ProtoReadsSaid : Prop := protoReadsRow.holds Try.pinned (OpenSpec.ofChange protoReadsSpec)

/-- ITS FALSE NEIGHBOUR: 'it returns false'. Refute it at one input. -/
def protoReadsWrong : ChangeSpec := { name := "protoReads", fn := fun _ => fun
  | [d] => { results := [.lit (.bool false)], args := [d] }
  | _ => none }
def ProtoReadsWrongFalsely : Prop := protoReadsRow.holds Try.pinned (OpenSpec.ofChange protoReadsWrong)

/-- 'batonlaw04.ProtoWrites': WHATEVER THE INPUT: true; the input reads as it did. -/
def protoWritesSpec : ChangeSpec := { name := "protoWrites", fn := fun _ => fun
  | [d] => { results := [.lit (.bool true)], args := [d] }
  | _ => none }
def protoWritesRow : OpenClaim := { program := "ytbckkfoenembmaa", sum := "1ab9c13b0b50f01aef1e359f4c29d25efdc8117496b34fc5a733a46d37dfa781", func := "baton/batonlaw04.ProtoWrites", spec := "protoWrites", unfollowed := true, recurses := true, apart := false }
def ProtoWritesSaid : Prop := protoWritesRow.holds Try.pinned (OpenSpec.ofChange protoWritesSpec)

/-- ITS FALSE NEIGHBOUR: 'it returns false'. Refute it at one input. -/
def protoWritesWrong : ChangeSpec := { name := "protoWrites", fn := fun _ => fun
  | [d] => { results := [.lit (.bool false)], args := [d] }
  | _ => none }
def ProtoWritesWrongFalsely : Prop := protoWritesRow.holds Try.pinned (OpenSpec.ofChange protoWritesWrong)

/-- 'batonlaw04.ProtoPicks': WHATEVER THE INPUT: true; the input reads as it did. -/
def protoPicksSpec : ChangeSpec := { name := "protoPicks", fn := fun _ => fun
  | [d1, d2, d3] => { results := [.lit (.bool true)], args := [d1, d2, d3] }
  | _ => none }
def protoPicksRow : OpenClaim := { program := "ytbckkfoenembmaa", sum := "1ab9c13b0b50f01aef1e359f4c29d25efdc8117496b34fc5a733a46d37dfa781", func := "baton/batonlaw04.ProtoPicks", spec := "protoPicks", unfollowed := true, recurses := true, apart := false }
def ProtoPicksSaid : Prop := protoPicksRow.holds Try.pinned (OpenSpec.ofChange protoPicksSpec)

/-- ITS FALSE NEIGHBOUR: 'it returns false'. Refute it at one input. -/
def protoPicksWrong : ChangeSpec := { name := "protoPicks", fn := fun _ => fun
  | [d1, d2, d3] => { results := [.lit (.bool false)], args := [d1, d2, d3] }
  | _ => none }
def ProtoPicksWrongFalsely : Prop := protoPicksRow.holds Try.pinned (OpenSpec.ofChange protoPicksWrong)

/-- 'batonlaw04.ProtoNames': WHATEVER THE INPUT: true; the input reads as it did. -/
def protoNamesSpec : ChangeSpec := { name := "protoNames", fn := fun _ => fun
  | [] => { results := [.lit (.bool true)], args := [] }
  | _ => none }
def protoNamesRow : OpenClaim := { program := "ytbckkfoenembmaa", sum := "1ab9c13b0b50f01aef1e359f4c29d25efdc8117496b34fc5a733a46d37dfa781", func := "baton/batonlaw04.ProtoNames", spec := "protoNames", unfollowed := true, recurses := true, apart := false }
def ProtoNamesSaid : Prop := protoNamesRow.holds Try.pinned (OpenSpec.ofChange protoNamesSpec)

/-- ITS FALSE NEIGHBOUR: 'it returns false'. Refute it at one input. -/
def protoNamesWrong : ChangeSpec := { name := "protoNames", fn := fun _ => fun
  | [] => { results := [.lit (.bool false)], args := [] }
  | _ => none }
def ProtoNamesWrongFalsely : Prop := protoNamesRow.holds Try.pinned (OpenSpec.ofChange protoNamesWrong)

/-- 'batonlaw04.ProtoBack': WHATEVER THE INPUT: true; the input reads as it did. -/
def protoBackSpec : ChangeSpec := { name := "protoBack", fn := fun _ => fun
  | [d1, d2] => { results := [.lit (.bool true)], args := [d1, d2] }
  | _ => none }
def protoBackRow : OpenClaim := { program := "ytbckkfoenembmaa", sum := "1ab9c13b0b50f01aef1e359f4c29d25efdc8117496b34fc5a733a46d37dfa781", func := "baton/batonlaw04.ProtoBack", spec := "protoBack", unfollowed := true, recurses := true, apart := false }
def ProtoBackSaid : Prop := protoBackRow.holds Try.pinned (OpenSpec.ofChange protoBackSpec)

/-- ITS FALSE NEIGHBOUR: 'it returns false'. Refute it at one input. -/
def protoBackWrong : ChangeSpec := { name := "protoBack", fn := fun _ => fun
  | [d1, d2] => { results := [.lit (.bool false)], args := [d1, d2] }
  | _ => none }
def ProtoBackWrongFalsely : Prop := protoBackRow.holds Try.pinned (OpenSpec.ofChange protoBackWrong)

/-- 'batonlaw04.ProtoJoined': WHATEVER THE INPUT: true; the input reads as it did. -/
def protoJoinedSpec : ChangeSpec := { name := "protoJoined", fn := fun _ => fun
  | [d1, d2] => { results := [.lit (.bool true)], args := [d1, d2] }
  | _ => none }
def protoJoinedRow : OpenClaim := { program := "ytbckkfoenembmaa", sum := "1ab9c13b0b50f01aef1e359f4c29d25efdc8117496b34fc5a733a46d37dfa781", func := "baton/batonlaw04.ProtoJoined", spec := "protoJoined", unfollowed := true, recurses := true, apart := false }
def ProtoJoinedSaid : Prop := protoJoinedRow.holds Try.pinned (OpenSpec.ofChange protoJoinedSpec)

/-- ITS FALSE NEIGHBOUR: 'it returns false'. Refute it at one input. -/
def protoJoinedWrong : ChangeSpec := { name := "protoJoined", fn := fun _ => fun
  | [d1, d2] => { results := [.lit (.bool false)], args := [d1, d2] }
  | _ => none }
def ProtoJoinedWrongFalsely : Prop := protoJoinedRow.holds Try.pinned (OpenSpec.ofChange protoJoinedWrong)

/-- 'batonlaw04.ProtoCut': WHATEVER THE INPUT: true; the input reads as it did. -/
def protoCutSpec : ChangeSpec := { name := "protoCut", fn := fun _ => fun
  | [d1, d2] => { results := [.lit (.bool true)], args := [d1, d2] }
  | _ => none }
def protoCutRow : OpenClaim := { program := "ytbckkfoenembmaa", sum := "1ab9c13b0b50f01aef1e359f4c29d25efdc8117496b34fc5a733a46d37dfa781", func := "baton/batonlaw04.ProtoCut", spec := "protoCut", unfollowed := true, recurses := true, apart := false }
def ProtoCutSaid : Prop := protoCutRow.holds Try.pinned (OpenSpec.ofChange protoCutSpec)

/-- ITS FALSE NEIGHBOUR: 'it returns false'. Refute it at one input. -/
def protoCutWrong : ChangeSpec := { name := "protoCut", fn := fun _ => fun
  | [d1, d2] => { results := [.lit (.bool false)], args := [d1, d2] }
  | _ => none }
def ProtoCutWrongFalsely : Prop := protoCutRow.holds Try.pinned (OpenSpec.ofChange protoCutWrong)

/-- 'batonlaw04.ProtoLonger': WHATEVER THE INPUT: true; the input reads as it did. -/
def protoLongerSpec : ChangeSpec := { name := "protoLonger", fn := fun _ => fun
  | [d1, d2, d3, d4, d5, d6] => { results := [.lit (.bool true)], args := [d1, d2, d3, d4, d5, d6] }
  | _ => none }
def protoLongerRow : OpenClaim := { program := "ytbckkfoenembmaa", sum := "1ab9c13b0b50f01aef1e359f4c29d25efdc8117496b34fc5a733a46d37dfa781", func := "baton/batonlaw04.ProtoLonger", spec := "protoLonger", unfollowed := true, recurses := true, apart := false }
def ProtoLongerSaid : Prop := protoLongerRow.holds Try.pinned (OpenSpec.ofChange protoLongerSpec)

/-- ITS FALSE NEIGHBOUR: 'it returns false'. Refute it at one input. -/
def protoLongerWrong : ChangeSpec := { name := "protoLonger", fn := fun _ => fun
  | [d1, d2, d3, d4, d5, d6] => { results := [.lit (.bool false)], args := [d1, d2, d3, d4, d5, d6] }
  | _ => none }
def ProtoLongerWrongFalsely : Prop := protoLongerRow.holds Try.pinned (OpenSpec.ofChange protoLongerWrong)

/-- 'batonlaw04.ProtoLast': WHATEVER THE INPUT: true; the input reads as it did. -/
def protoLastSpec : ChangeSpec := { name := "protoLast", fn := fun _ => fun
  | [d1, d2, d3] => { results := [.lit (.bool true)], args := [d1, d2, d3] }
  | _ => none }
def protoLastRow : OpenClaim := { program := "ytbckkfoenembmaa", sum := "1ab9c13b0b50f01aef1e359f4c29d25efdc8117496b34fc5a733a46d37dfa781", func := "baton/batonlaw04.ProtoLast", spec := "protoLast", unfollowed := true, recurses := true, apart := false }
def ProtoLastSaid : Prop := protoLastRow.holds Try.pinned (OpenSpec.ofChange protoLastSpec)

/-- ITS FALSE NEIGHBOUR: 'it returns false'. Refute it at one input. -/
def protoLastWrong : ChangeSpec := { name := "protoLast", fn := fun _ => fun
  | [d1, d2, d3] => { results := [.lit (.bool false)], args := [d1, d2, d3] }
  | _ => none }
def ProtoLastWrongFalsely : Prop := protoLastRow.holds Try.pinned (OpenSpec.ofChange protoLastWrong)

/- THE SECOND FORM. 'bulk': how many values and letters a reading holds, each counted each time it is reached (what is shared counts as often as it is met; a slice's spare places count too). A statement '..UptoSaid' is the law's where the arguments, and the package variables that the reading takes, are together of bulk at most 1048576: NARROWER than '..Said'. Prove '..Said' where nothing that the law and all that it calls make is longer than what came in: it says more and counts as full. Else prove '..UptoSaid'. A law counts once. -/
mutual
def uptoBulk {H : Type} : DataW H → Nat
  | .lit (.string bytes) => bytes.length + 1
  | .lit _ => 1
  | .nil => 1
  | .ptr d => uptoBulk d + 1
  | .slice elems spare => uptoBulkAll elems + uptoBulkAll spare + 1
  | .agg parts => uptoBulkAll parts + 1
  | .iface _ d => uptoBulk d + 1
  | .map entries => uptoBulkEntries entries + 1
  | .held _ => 1
def uptoBulkAll {H : Type} : List (DataW H) → Nat
  | [] => 0
  | d :: r => uptoBulk d + uptoBulkAll r
def uptoBulkEntries {H : Type} : List (Lit × DataW H) → Nat
  | [] => 0
  | x :: r => uptoBulkEntry x + uptoBulkEntries r
def uptoBulkEntry {H : Type} : Lit × DataW H → Nat
  | (.string bytes, d) => bytes.length + uptoBulk d + 1
  | (_, d) => uptoBulk d + 1
 end
def uptoSmall : (H : Type) → List (DataW H) → Bool := fun _ ds => decide (uptoBulkAll ds ≤ 1048576)
def OpenSpec.upto (s : _root_.Go.ChangeSpec) : _root_.Go.OpenSpec := { _root_.Go.OpenSpec.ofChange s with cond := some uptoSmall }

/-- 'batonlaw04.ProtoReads', WHERE WHAT IT READS IS OF BULK AT MOST 1048576: true; the input reads as it did. -/
def protoReadsUptoRow : OpenClaim := { program := "ytbckkfoenembmaa", sum := "1ab9c13b0b50f01aef1e359f4c29d25efdc8117496b34fc5a733a46d37dfa781", func := "baton/batonlaw04.ProtoReads", spec := "protoReads", unfollowed := true, recurses := true, apart := false, narrowed := true }
def ProtoReadsUptoSaid : Prop := protoReadsUptoRow.holds Try.pinned (OpenSpec.upto protoReadsSpec)

/-- 'batonlaw04.ProtoWrites', WHERE WHAT IT READS IS OF BULK AT MOST 1048576: true; the input reads as it did. -/
def protoWritesUptoRow : OpenClaim := { program := "ytbckkfoenembmaa", sum := "1ab9c13b0b50f01aef1e359f4c29d25efdc8117496b34fc5a733a46d37dfa781", func := "baton/batonlaw04.ProtoWrites", spec := "protoWrites", unfollowed := true, recurses := true, apart := false, narrowed := true }
def ProtoWritesUptoSaid : Prop := protoWritesUptoRow.holds Try.pinned (OpenSpec.upto protoWritesSpec)

/-- 'batonlaw04.ProtoPicks', WHERE WHAT IT READS IS OF BULK AT MOST 1048576: true; the input reads as it did. -/
def protoPicksUptoRow : OpenClaim := { program := "ytbckkfoenembmaa", sum := "1ab9c13b0b50f01aef1e359f4c29d25efdc8117496b34fc5a733a46d37dfa781", func := "baton/batonlaw04.ProtoPicks", spec := "protoPicks", unfollowed := true, recurses := true, apart := false, narrowed := true }
def ProtoPicksUptoSaid : Prop := protoPicksUptoRow.holds Try.pinned (OpenSpec.upto protoPicksSpec)

/-- 'batonlaw04.ProtoNames', WHERE WHAT IT READS IS OF BULK AT MOST 1048576: true; the input reads as it did. -/
def protoNamesUptoRow : OpenClaim := { program := "ytbckkfoenembmaa", sum := "1ab9c13b0b50f01aef1e359f4c29d25efdc8117496b34fc5a733a46d37dfa781", func := "baton/batonlaw04.ProtoNames", spec := "protoNames", unfollowed := true, recurses := true, apart := false, narrowed := true }
def ProtoNamesUptoSaid : Prop := protoNamesUptoRow.holds Try.pinned (OpenSpec.upto protoNamesSpec)

/-- 'batonlaw04.ProtoBack', WHERE WHAT IT READS IS OF BULK AT MOST 1048576: true; the input reads as it did. -/
def protoBackUptoRow : OpenClaim := { program := "ytbckkfoenembmaa", sum := "1ab9c13b0b50f01aef1e359f4c29d25efdc8117496b34fc5a733a46d37dfa781", func := "baton/batonlaw04.ProtoBack", spec := "protoBack", unfollowed := true, recurses := true, apart := false, narrowed := true }
def ProtoBackUptoSaid : Prop := protoBackUptoRow.holds Try.pinned (OpenSpec.upto protoBackSpec)

/-- 'batonlaw04.ProtoJoined', WHERE WHAT IT READS IS OF BULK AT MOST 1048576: true; the input reads as it did. -/
def protoJoinedUptoRow : OpenClaim := { program := "ytbckkfoenembmaa", sum := "1ab9c13b0b50f01aef1e359f4c29d25efdc8117496b34fc5a733a46d37dfa781", func := "baton/batonlaw04.ProtoJoined", spec := "protoJoined", unfollowed := true, recurses := true, apart := false, narrowed := true }
def ProtoJoinedUptoSaid : Prop := protoJoinedUptoRow.holds Try.pinned (OpenSpec.upto protoJoinedSpec)

/-- 'batonlaw04.ProtoCut', WHERE WHAT IT READS IS OF BULK AT MOST 1048576: true; the input reads as it did. -/
def protoCutUptoRow : OpenClaim := { program := "ytbckkfoenembmaa", sum := "1ab9c13b0b50f01aef1e359f4c29d25efdc8117496b34fc5a733a46d37dfa781", func := "baton/batonlaw04.ProtoCut", spec := "protoCut", unfollowed := true, recurses := true, apart := false, narrowed := true }
def ProtoCutUptoSaid : Prop := protoCutUptoRow.holds Try.pinned (OpenSpec.upto protoCutSpec)

/-- 'batonlaw04.ProtoLonger', WHERE WHAT IT READS IS OF BULK AT MOST 1048576: true; the input reads as it did. -/
def protoLongerUptoRow : OpenClaim := { program := "ytbckkfoenembmaa", sum := "1ab9c13b0b50f01aef1e359f4c29d25efdc8117496b34fc5a733a46d37dfa781", func := "baton/batonlaw04.ProtoLonger", spec := "protoLonger", unfollowed := true, recurses := true, apart := false, narrowed := true }
def ProtoLongerUptoSaid : Prop := protoLongerUptoRow.holds Try.pinned (OpenSpec.upto protoLongerSpec)

/-- 'batonlaw04.ProtoLast', WHERE WHAT IT READS IS OF BULK AT MOST 1048576: true; the input reads as it did. -/
def protoLastUptoRow : OpenClaim := { program := "ytbckkfoenembmaa", sum := "1ab9c13b0b50f01aef1e359f4c29d25efdc8117496b34fc5a733a46d37dfa781", func := "baton/batonlaw04.ProtoLast", spec := "protoLast", unfollowed := true, recurses := true, apart := false, narrowed := true }
def ProtoLastUptoSaid : Prop := protoLastUptoRow.holds Try.pinned (OpenSpec.upto protoLastSpec)

end Rows
end Go.Proofs.Ytbckkfoenembmaa
