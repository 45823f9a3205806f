/-
  No cell of these rows narrows 'for every input' (looked for: loops, veiled, ifaces, maps, wideKeys, modest, calm, conditions, laid).
  DERIVED. THE GIVEN ROWS OF THIS SEAT. 4 by the template 'for every input the law returns true; each argument reads behind the call as it read before'; 0 by the template 'total and deterministic' (their statements: YtnpgpnngpeedhaaTotals.lean).
  GIVEN WITH THE SEED: the statements are not yours to turn. If you find one false, say at which input.
  Laid BY PROGRAM, IN A SANDBOX (cutbox-rows.mjs): the forced cells as the released guide's own fill.sh prints them over the translation 0db1f9cb453c278a… (all of the seat's roots in one cut). By AI agents, Wed Nov 11 2026. No macro, syntax, notation, axiom, sorry.
-/
import Derived.Test.YtnpgpnngpeedhaaChecked
import GoSem.Claim
import GoSem.ClaimJoined
import GoSem.ClaimMapViews
import Derived.JoinedTies
import Derived.KernelRfl
namespace Go.Proofs.Ytnpgpnngpeedhaa
/- THE CELL 'sum', in the pinned program and in every row, IS THE sha256 OF THE DUMP (.gsa) THAT YtnpgpnngpeedhaaProg.lean LOADS. Nothing in Lean hashes anything: it is a label: what it is worth is what the hold of that sum in a sandbox is worth. -/
noncomputable def Try.pinned : Pinned := { name := "ytnpgpnngpeedhaa", sum := "0db1f9cb453c278a4da2264cfe281bb7c78a1e049b10ea3b464e021ae150ed0b", checked := Try.checked }
namespace Rows
def none {H : Type} : Left H := { results := [], args := [] }

/-- 'chapletlaw10.TurnsReady': WHATEVER THE INPUT: true; the input reads as it did. -/
def turnsReadySpec : ChangeSpec := { name := "turnsReady", fn := fun _ => fun
  | [d] => { results := [.lit (.bool true)], args := [d] }
  | _ => none }
def turnsReadyRow : OpenClaim := { program := "ytnpgpnngpeedhaa", sum := "0db1f9cb453c278a4da2264cfe281bb7c78a1e049b10ea3b464e021ae150ed0b", func := "chaplet/chapletlaw10.TurnsReady", spec := "turnsReady", recurses := true, apart := false }
def TurnsReadySaid : Prop := turnsReadyRow.holds Try.pinned (OpenSpec.ofChange turnsReadySpec)

/-- ITS FALSE NEIGHBOUR: 'it returns false'. Refute it at one input. -/
def turnsReadyWrong : ChangeSpec := { name := "turnsReady", fn := fun _ => fun
  | [d] => { results := [.lit (.bool false)], args := [d] }
  | _ => none }
def TurnsReadyWrongFalsely : Prop := turnsReadyRow.holds Try.pinned (OpenSpec.ofChange turnsReadyWrong)

/-- 'chapletlaw10.TurnsIDs': WHATEVER THE INPUT: true; the input reads as it did. -/
def turnsIDsSpec : ChangeSpec := { name := "turnsIDs", fn := fun _ => fun
  | [d1, d2] => { results := [.lit (.bool true)], args := [d1, d2] }
  | _ => none }
def turnsIDsRow : OpenClaim := { program := "ytnpgpnngpeedhaa", sum := "0db1f9cb453c278a4da2264cfe281bb7c78a1e049b10ea3b464e021ae150ed0b", func := "chaplet/chapletlaw10.TurnsIDs", spec := "turnsIDs", apart := false }
def TurnsIDsSaid : Prop := turnsIDsRow.holds Try.pinned (OpenSpec.ofChange turnsIDsSpec)

/-- ITS FALSE NEIGHBOUR: 'it returns false'. Refute it at one input. -/
def turnsIDsWrong : ChangeSpec := { name := "turnsIDs", fn := fun _ => fun
  | [d1, d2] => { results := [.lit (.bool false)], args := [d1, d2] }
  | _ => none }
def TurnsIDsWrongFalsely : Prop := turnsIDsRow.holds Try.pinned (OpenSpec.ofChange turnsIDsWrong)

/-- 'chapletlaw10.TurnsPlay': WHATEVER THE INPUT: true; the input reads as it did. -/
def turnsPlaySpec : ChangeSpec := { name := "turnsPlay", fn := fun _ => fun
  | [d] => { results := [.lit (.bool true)], args := [d] }
  | _ => none }
def turnsPlayRow : OpenClaim := { program := "ytnpgpnngpeedhaa", sum := "0db1f9cb453c278a4da2264cfe281bb7c78a1e049b10ea3b464e021ae150ed0b", func := "chaplet/chapletlaw10.TurnsPlay", spec := "turnsPlay", recurses := true, apart := false }
def TurnsPlaySaid : Prop := turnsPlayRow.holds Try.pinned (OpenSpec.ofChange turnsPlaySpec)

/-- ITS FALSE NEIGHBOUR: 'it returns false'. Refute it at one input. -/
def turnsPlayWrong : ChangeSpec := { name := "turnsPlay", fn := fun _ => fun
  | [d] => { results := [.lit (.bool false)], args := [d] }
  | _ => none }
def TurnsPlayWrongFalsely : Prop := turnsPlayRow.holds Try.pinned (OpenSpec.ofChange turnsPlayWrong)

/-- 'chapletlaw10.TurnsFair': WHATEVER THE INPUT: true; the input reads as it did. -/
def turnsFairSpec : ChangeSpec := { name := "turnsFair", fn := fun _ => fun
  | [d1, d2] => { results := [.lit (.bool true)], args := [d1, d2] }
  | _ => none }
def turnsFairRow : OpenClaim := { program := "ytnpgpnngpeedhaa", sum := "0db1f9cb453c278a4da2264cfe281bb7c78a1e049b10ea3b464e021ae150ed0b", func := "chaplet/chapletlaw10.TurnsFair", spec := "turnsFair", recurses := true, apart := false }
def TurnsFairSaid : Prop := turnsFairRow.holds Try.pinned (OpenSpec.ofChange turnsFairSpec)

/-- ITS FALSE NEIGHBOUR: 'it returns false'. Refute it at one input. -/
def turnsFairWrong : ChangeSpec := { name := "turnsFair", fn := fun _ => fun
  | [d1, d2] => { results := [.lit (.bool false)], args := [d1, d2] }
  | _ => none }
def TurnsFairWrongFalsely : Prop := turnsFairRow.holds Try.pinned (OpenSpec.ofChange turnsFairWrong)

/- THE SECOND FORM. 'bulk': how many values and letters a reading holds, each counted each time it is reached (what is shared counts as often as it is met; a slice's spare places count too). A statement '..UptoSaid' is the law's where the arguments, and the package variables that the reading takes, are together of bulk at most 1048576: NARROWER than '..Said'. Prove '..Said' where nothing that the law and all that it calls make is longer than what came in: it says more and counts as full. Else prove '..UptoSaid'. A law counts once. -/
mutual
def uptoBulk {H : Type} : DataW H → Nat
  | .lit (.string bytes) => bytes.length + 1
  | .lit _ => 1
  | .nil => 1
  | .ptr d => uptoBulk d + 1
  | .slice elems spare => uptoBulkAll elems + uptoBulkAll spare + 1
  | .agg parts => uptoBulkAll parts + 1
  | .iface _ d => uptoBulk d + 1
  | .map entries => uptoBulkEntries entries + 1
  | .held _ => 1
def uptoBulkAll {H : Type} : List (DataW H) → Nat
  | [] => 0
  | d :: r => uptoBulk d + uptoBulkAll r
def uptoBulkEntries {H : Type} : List (Lit × DataW H) → Nat
  | [] => 0
  | x :: r => uptoBulkEntry x + uptoBulkEntries r
def uptoBulkEntry {H : Type} : Lit × DataW H → Nat
  | (.string bytes, d) => bytes.length + uptoBulk d + 1
  | (_, d) => uptoBulk d + 1
 end
def uptoSmall : (H : Type) → List (DataW H) → Bool := fun _ ds => decide (uptoBulkAll ds ≤ 1048576)
def OpenSpec.upto (s : _root_.Go.ChangeSpec) : _root_.Go.OpenSpec := { _root_.Go.OpenSpec.ofChange s with cond := some uptoSmall }

/-- 'chapletlaw10.TurnsReady', WHERE WHAT IT READS IS OF BULK AT MOST 1048576: true; the input reads as it did. -/
def turnsReadyUptoRow : OpenClaim := { program := "ytnpgpnngpeedhaa", sum := "0db1f9cb453c278a4da2264cfe281bb7c78a1e049b10ea3b464e021ae150ed0b", func := "chaplet/chapletlaw10.TurnsReady", spec := "turnsReady", recurses := true, apart := false, narrowed := true }
def TurnsReadyUptoSaid : Prop := turnsReadyUptoRow.holds Try.pinned (OpenSpec.upto turnsReadySpec)

/-- 'chapletlaw10.TurnsIDs', WHERE WHAT IT READS IS OF BULK AT MOST 1048576: true; the input reads as it did. -/
def turnsIDsUptoRow : OpenClaim := { program := "ytnpgpnngpeedhaa", sum := "0db1f9cb453c278a4da2264cfe281bb7c78a1e049b10ea3b464e021ae150ed0b", func := "chaplet/chapletlaw10.TurnsIDs", spec := "turnsIDs", apart := false, narrowed := true }
def TurnsIDsUptoSaid : Prop := turnsIDsUptoRow.holds Try.pinned (OpenSpec.upto turnsIDsSpec)

/-- 'chapletlaw10.TurnsPlay', WHERE WHAT IT READS IS OF BULK AT MOST 1048576: true; the input reads as it did. -/
def turnsPlayUptoRow : OpenClaim := { program := "ytnpgpnngpeedhaa", sum := "0db1f9cb453c278a4da2264cfe281bb7c78a1e049b10ea3b464e021ae150ed0b", func := "chaplet/chapletlaw10.TurnsPlay", spec := "turnsPlay", recurses := true, apart := false, narrowed := true }
def TurnsPlayUptoSaid : Prop := turnsPlayUptoRow.holds Try.pinned (OpenSpec.upto turnsPlaySpec)

/-- 'chapletlaw10.TurnsFair', WHERE WHAT IT READS IS OF BULK AT MOST 1048576: true; the input reads as it did. -/
def turnsFairUptoRow : OpenClaim := { program := "ytnpgpnngpeedhaa", sum := "0db1f9cb453c278a4da2264cfe281bb7c78a1e049b10ea3b464e021ae150ed0b", func := "chaplet/chapletlaw10.TurnsFair", spec := "turnsFair", recurses := true, apart := false, narrowed := true }
def TurnsFairUptoSaid : Prop := turnsFairUptoRow.holds Try.pinned (OpenSpec.upto turnsFairSpec)

end Rows
end Go.Proofs.Ytnpgpnngpeedhaa
