/- A configuration's variable in memory, whatever its numbers. -/
import Derived.Test.YtgeiagndpfdnlaaCfg
namespace Go.Proofs.Ytgeiagndpfdnlaa
open Go.RowKit
set_option linter.unusedVariables false
set_option maxRecDepth 20000

/-- A configuration's variable, whatever its numbers. -/
structure CJ (w : World) (g : Nat) (n l k s y o i : Int) (t : Value) : Prop where
  c0 : w.cell? ⟨g, 0, none⟩ = some (.int .i64 n)
  c1 : w.cell? ⟨g, 1, none⟩ = some (.int .i64 l)
  c2 : w.cell? ⟨g, 2, none⟩ = some (.int .i64 k)
  c3 : w.cell? ⟨g, 3, none⟩ = some (.int .i64 s)
  c4 : w.cell? ⟨g, 4, none⟩ = some (.int .i64 y)
  c5 : w.cell? ⟨g, 5, none⟩ = some (.int .i64 o)
  c6 : w.cell? ⟨g, 6, none⟩ = some (.int .i64 i)
  c7 : w.cell? ⟨g, 7, none⟩ = some t
  lt : g < w.heap.size
theorem CJ.made (w : World) (n l k s y o i : Int) (t : Value) : CJ (w.alloc (.cells #[.int .i64 n, .int .i64 l, .int .i64 k, .int .i64 s, .int .i64 y, .int .i64 o, .int .i64 i, t] 26)) w.heap.size n l k s y o i t := by
  constructor <;> simp
theorem CJ.below {w w' : World} {g : Nat} {n l k s y o i : Int} {t : Value} (h : CJ w g n l k s y o i t) (hb : Below w.heap.size w w') : CJ w' g n l k s y o i t := by
  obtain ⟨hc, _⟩ := bcell hb
  exact ⟨by rw [hc _ _ h.lt]; exact h.c0, by rw [hc _ _ h.lt]; exact h.c1, by rw [hc _ _ h.lt]; exact h.c2, by rw [hc _ _ h.lt]; exact h.c3, by rw [hc _ _ h.lt]; exact h.c4, by rw [hc _ _ h.lt]; exact h.c5, by rw [hc _ _ h.lt]; exact h.c6, by rw [hc _ _ h.lt]; exact h.c7, Nat.lt_of_lt_of_le h.lt hb.size⟩
end Go.Proofs.Ytgeiagndpfdnlaa
