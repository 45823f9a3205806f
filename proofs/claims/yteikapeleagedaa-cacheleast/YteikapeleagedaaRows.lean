/-
  No cell of these rows narrows 'for every input' (looked for: loops, veiled, ifaces, maps, wideKeys, modest, calm, conditions, laid).
  DERIVED. THE GIVEN ROWS OF THIS SEAT. 5 by the template 'for every input the law returns true; each argument reads behind the call as it read before'; 0 by the template 'total and deterministic' (their statements: YteikapeleagedaaTotals.lean).
  GIVEN WITH THE SEED: the statements are not yours to turn. If you find one false, say at which input.
  Laid BY PROGRAM, IN A SANDBOX (cutbox-rows.mjs): the forced cells as the released guide's own fill.sh prints them over the translation b6224b6fa950b996… (all of the seat's roots in one cut). By AI agents, Wed Nov 11 2026. No macro, syntax, notation, axiom, sorry.
-/
import Derived.Test.YteikapeleagedaaChecked
import GoSem.Claim
import GoSem.ClaimJoined
import GoSem.ClaimMapViews
import Derived.JoinedTies
import Derived.KernelRfl
namespace Go.Proofs.Yteikapeleagedaa
/- THE CELL 'sum', in the pinned program and in every row, IS THE sha256 OF THE DUMP (.gsa) THAT YteikapeleagedaaProg.lean LOADS. Nothing in Lean hashes anything: it is a label: what it is worth is what the hold of that sum in a sandbox is worth. -/
noncomputable def Try.pinned : Pinned := { name := "yteikapeleagedaa", sum := "b6224b6fa950b996248d64616c1088ff3d0ee3650be27033289ef63f41a220c5", checked := Try.checked }
namespace Rows
def none {H : Type} : Left H := { results := [], args := [] }

/-- 'chapletlaw08.CacheSets': WHATEVER THE INPUT: true; the input reads as it did. -/
def cacheSetsSpec : ChangeSpec := { name := "cacheSets", fn := fun _ => fun
  | [d1, d2, d3] => { results := [.lit (.bool true)], args := [d1, d2, d3] }
  | _ => none }
def cacheSetsRow : OpenClaim := { program := "yteikapeleagedaa", sum := "b6224b6fa950b996248d64616c1088ff3d0ee3650be27033289ef63f41a220c5", func := "chaplet/chapletlaw08.CacheSets", spec := "cacheSets", unfollowed := true, recurses := true, apart := false }
def CacheSetsSaid : Prop := cacheSetsRow.holds Try.pinned (OpenSpec.ofChange cacheSetsSpec)

/-- ITS FALSE NEIGHBOUR: 'it returns false'. Refute it at one input. -/
def cacheSetsWrong : ChangeSpec := { name := "cacheSets", fn := fun _ => fun
  | [d1, d2, d3] => { results := [.lit (.bool false)], args := [d1, d2, d3] }
  | _ => none }
def CacheSetsWrongFalsely : Prop := cacheSetsRow.holds Try.pinned (OpenSpec.ofChange cacheSetsWrong)

/-- 'chapletlaw08.CacheMemory': WHATEVER THE INPUT: true; the input reads as it did. -/
def cacheMemorySpec : ChangeSpec := { name := "cacheMemory", fn := fun _ => fun
  | [d1, d2] => { results := [.lit (.bool true)], args := [d1, d2] }
  | _ => none }
def cacheMemoryRow : OpenClaim := { program := "yteikapeleagedaa", sum := "b6224b6fa950b996248d64616c1088ff3d0ee3650be27033289ef63f41a220c5", func := "chaplet/chapletlaw08.CacheMemory", spec := "cacheMemory", unfollowed := true, recurses := true, apart := false }
def CacheMemorySaid : Prop := cacheMemoryRow.holds Try.pinned (OpenSpec.ofChange cacheMemorySpec)

/-- ITS FALSE NEIGHBOUR: 'it returns false'. Refute it at one input. -/
def cacheMemoryWrong : ChangeSpec := { name := "cacheMemory", fn := fun _ => fun
  | [d1, d2] => { results := [.lit (.bool false)], args := [d1, d2] }
  | _ => none }
def CacheMemoryWrongFalsely : Prop := cacheMemoryRow.holds Try.pinned (OpenSpec.ofChange cacheMemoryWrong)

/-- 'chapletlaw08.CachePlays': WHATEVER THE INPUT: true; the input reads as it did. -/
def cachePlaysSpec : ChangeSpec := { name := "cachePlays", fn := fun _ => fun
  | [d1, d2, d3] => { results := [.lit (.bool true)], args := [d1, d2, d3] }
  | _ => none }
def cachePlaysRow : OpenClaim := { program := "yteikapeleagedaa", sum := "b6224b6fa950b996248d64616c1088ff3d0ee3650be27033289ef63f41a220c5", func := "chaplet/chapletlaw08.CachePlays", spec := "cachePlays", unfollowed := true, recurses := true, apart := false }
def CachePlaysSaid : Prop := cachePlaysRow.holds Try.pinned (OpenSpec.ofChange cachePlaysSpec)

/-- ITS FALSE NEIGHBOUR: 'it returns false'. Refute it at one input. -/
def cachePlaysWrong : ChangeSpec := { name := "cachePlays", fn := fun _ => fun
  | [d1, d2, d3] => { results := [.lit (.bool false)], args := [d1, d2, d3] }
  | _ => none }
def CachePlaysWrongFalsely : Prop := cachePlaysRow.holds Try.pinned (OpenSpec.ofChange cachePlaysWrong)

/-- 'chapletlaw08.CacheLeast': WHATEVER THE INPUT: true; the input reads as it did. -/
def cacheLeastSpec : ChangeSpec := { name := "cacheLeast", fn := fun _ => fun
  | [d1, d2] => { results := [.lit (.bool true)], args := [d1, d2] }
  | _ => none }
def cacheLeastRow : OpenClaim := { program := "yteikapeleagedaa", sum := "b6224b6fa950b996248d64616c1088ff3d0ee3650be27033289ef63f41a220c5", func := "chaplet/chapletlaw08.CacheLeast", spec := "cacheLeast", unfollowed := true, recurses := true, apart := false }
def CacheLeastSaid : Prop := cacheLeastRow.holds Try.pinned (OpenSpec.ofChange cacheLeastSpec)

/-- ITS FALSE NEIGHBOUR: 'it returns false'. Refute it at one input. -/
def cacheLeastWrong : ChangeSpec := { name := "cacheLeast", fn := fun _ => fun
  | [d1, d2] => { results := [.lit (.bool false)], args := [d1, d2] }
  | _ => none }
def CacheLeastWrongFalsely : Prop := cacheLeastRow.holds Try.pinned (OpenSpec.ofChange cacheLeastWrong)

/-- 'chapletlaw08.CacheClock': WHATEVER THE INPUT: true; the input reads as it did. -/
def cacheClockSpec : ChangeSpec := { name := "cacheClock", fn := fun _ => fun
  | [d] => { results := [.lit (.bool true)], args := [d] }
  | _ => none }
def cacheClockRow : OpenClaim := { program := "yteikapeleagedaa", sum := "b6224b6fa950b996248d64616c1088ff3d0ee3650be27033289ef63f41a220c5", func := "chaplet/chapletlaw08.CacheClock", spec := "cacheClock", unfollowed := true, recurses := true, apart := false }
def CacheClockSaid : Prop := cacheClockRow.holds Try.pinned (OpenSpec.ofChange cacheClockSpec)

/-- ITS FALSE NEIGHBOUR: 'it returns false'. Refute it at one input. -/
def cacheClockWrong : ChangeSpec := { name := "cacheClock", fn := fun _ => fun
  | [d] => { results := [.lit (.bool false)], args := [d] }
  | _ => none }
def CacheClockWrongFalsely : Prop := cacheClockRow.holds Try.pinned (OpenSpec.ofChange cacheClockWrong)

/- THE SECOND FORM. 'bulk': how many values and letters a reading holds, each counted each time it is reached (what is shared counts as often as it is met; a slice's spare places count too). A statement '..UptoSaid' is the law's where the arguments, and the package variables that the reading takes, are together of bulk at most 1048576: NARROWER than '..Said'. Prove '..Said' where nothing that the law and all that it calls make is longer than what came in: it says more and counts as full. Else prove '..UptoSaid'. A law counts once. -/
mutual
def uptoBulk {H : Type} : DataW H → Nat
  | .lit (.string bytes) => bytes.length + 1
  | .lit _ => 1
  | .nil => 1
  | .ptr d => uptoBulk d + 1
  | .slice elems spare => uptoBulkAll elems + uptoBulkAll spare + 1
  | .agg parts => uptoBulkAll parts + 1
  | .iface _ d => uptoBulk d + 1
  | .map entries => uptoBulkEntries entries + 1
  | .held _ => 1
def uptoBulkAll {H : Type} : List (DataW H) → Nat
  | [] => 0
  | d :: r => uptoBulk d + uptoBulkAll r
def uptoBulkEntries {H : Type} : List (Lit × DataW H) → Nat
  | [] => 0
  | x :: r => uptoBulkEntry x + uptoBulkEntries r
def uptoBulkEntry {H : Type} : Lit × DataW H → Nat
  | (.string bytes, d) => bytes.length + uptoBulk d + 1
  | (_, d) => uptoBulk d + 1
 end
def uptoSmall : (H : Type) → List (DataW H) → Bool := fun _ ds => decide (uptoBulkAll ds ≤ 1048576)
def OpenSpec.upto (s : _root_.Go.ChangeSpec) : _root_.Go.OpenSpec := { _root_.Go.OpenSpec.ofChange s with cond := some uptoSmall }

/-- 'chapletlaw08.CacheSets', WHERE WHAT IT READS IS OF BULK AT MOST 1048576: true; the input reads as it did. -/
def cacheSetsUptoRow : OpenClaim := { program := "yteikapeleagedaa", sum := "b6224b6fa950b996248d64616c1088ff3d0ee3650be27033289ef63f41a220c5", func := "chaplet/chapletlaw08.CacheSets", spec := "cacheSets", unfollowed := true, recurses := true, apart := false, narrowed := true }
def CacheSetsUptoSaid : Prop := cacheSetsUptoRow.holds Try.pinned (OpenSpec.upto cacheSetsSpec)

/-- 'chapletlaw08.CacheMemory', WHERE WHAT IT READS IS OF BULK AT MOST 1048576: true; the input reads as it did. -/
def cacheMemoryUptoRow : OpenClaim := { program := "yteikapeleagedaa", sum := "b6224b6fa950b996248d64616c1088ff3d0ee3650be27033289ef63f41a220c5", func := "chaplet/chapletlaw08.CacheMemory", spec := "cacheMemory", unfollowed := true, recurses := true, apart := false, narrowed := true }
def CacheMemoryUptoSaid : Prop := cacheMemoryUptoRow.holds Try.pinned (OpenSpec.upto cacheMemorySpec)

/-- 'chapletlaw08.CachePlays', WHERE WHAT IT READS IS OF BULK AT MOST 1048576: true; the input reads as it did. -/
def cachePlaysUptoRow : OpenClaim := { program := "yteikapeleagedaa", sum := "b6224b6fa950b996248d64616c1088ff3d0ee3650be27033289ef63f41a220c5", func := "chaplet/chapletlaw08.CachePlays", spec := "cachePlays", unfollowed := true, recurses := true, apart := false, narrowed := true }
def CachePlaysUptoSaid : Prop := cachePlaysUptoRow.holds Try.pinned (OpenSpec.upto cachePlaysSpec)

/-- 'chapletlaw08.CacheLeast', WHERE WHAT IT READS IS OF BULK AT MOST 1048576: true; the input reads as it did. -/
def cacheLeastUptoRow : OpenClaim := { program := "yteikapeleagedaa", sum := "b6224b6fa950b996248d64616c1088ff3d0ee3650be27033289ef63f41a220c5", func := "chaplet/chapletlaw08.CacheLeast", spec := "cacheLeast", unfollowed := true, recurses := true, apart := false, narrowed := true }
def CacheLeastUptoSaid : Prop := cacheLeastUptoRow.holds Try.pinned (OpenSpec.upto cacheLeastSpec)

/-- 'chapletlaw08.CacheClock', WHERE WHAT IT READS IS OF BULK AT MOST 1048576: true; the input reads as it did. -/
def cacheClockUptoRow : OpenClaim := { program := "yteikapeleagedaa", sum := "b6224b6fa950b996248d64616c1088ff3d0ee3650be27033289ef63f41a220c5", func := "chaplet/chapletlaw08.CacheClock", spec := "cacheClock", unfollowed := true, recurses := true, apart := false, narrowed := true }
def CacheClockUptoSaid : Prop := cacheClockUptoRow.holds Try.pinned (OpenSpec.upto cacheClockSpec)

end Rows
end Go.Proofs.Yteikapeleagedaa
