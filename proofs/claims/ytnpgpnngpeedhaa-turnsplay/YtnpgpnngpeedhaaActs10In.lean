/- Chapter 10's lists of acts as they come in: each act's four numbers. -/
import Derived.Test.YtnpgpnngpeedhaaStructsIn
namespace Go.Proofs.Ytnpgpnngpeedhaa
open Go.ChangeShapes Go.WideShapes Go.ChangeAt Go.RowKit Go.Deep
set_option linter.unusedVariables false
set_option maxRecDepth 20000

/-- n acts, from address a on. -/
def IsActs10 (w : World) (a : Option Addr) (n : Nat) : Prop := ∀ i, i < n → ∃ (bl o : Nat) (x0 x1 x2 x3 : Int),
  a = some ⟨bl, o, none⟩ ∧ (∀ j, j < 4 → w.cell? ⟨bl, o + i * 4 + j, none⟩ = [Value.int .i64 x0, .int .i64 x1, .int .i64 x2, .int .i64 x3][j]?) ∧ bl < w.heap.size
theorem list4 {α : Type} {l : List α} (h : l.length = 4) : ∃ c0 c1 c2 c3, l = [c0, c1, c2, c3] := by
  match l, h with
  | [c0, c1, c2, c3], _ => exact ⟨c0, c1, c2, c3, rfl⟩
section
variable {H : Type} {enc : TypeId × Value → H} {w : World} {base : Nat} {held : Bool}
theorem acts10_of {n : Nat} {c : Value} {y : DataW H × List MemPlace} (h : DataW.trod enc Try.prog w base (fun _ => true) held n 38 [c] = some y) : ∃ a len cap, c = .slice a len cap ∧ len ≤ cap ∧ cap ≤ maxLen ∧ IsActs10 w a len := by
  obtain ⟨a, len, cap, rfl, hl, hm, hx⟩ := structs_of Try.underlying38 (C := 4) (by kernel_rfl) (by omega) h
  refine ⟨a, len, cap, rfl, hl, hm, fun i hi => ?_⟩
  obtain ⟨bl, off, cs, k, y', rfl, hlen, hc, ht⟩ := hx i hi
  obtain ⟨c0, c1, c2, c3, rfl⟩ := list4 hlen
  have g := fieldOf Try.underlying45 ht
  have k1 : Try.prog.cellsOf 3 = 1 := by kernel_rfl
  obtain ⟨_, _, t0⟩ := g 0 3 0 1 [c0] rfl k1 rfl
  obtain ⟨_, _, t1⟩ := g 1 3 1 1 [c1] rfl k1 rfl
  obtain ⟨_, _, t2⟩ := g 2 3 2 1 [c2] rfl k1 rfl
  obtain ⟨_, _, t3⟩ := g 3 3 3 1 [c3] rfl k1 rfl
  obtain ⟨x0, rfl⟩ := int_cell t0
  obtain ⟨x1, rfl⟩ := int_cell t1
  obtain ⟨x2, rfl⟩ := int_cell t2
  obtain ⟨x3, rfl⟩ := int_cell t3
  exact ⟨bl, off, x0, x1, x2, x3, rfl, hc, World.block_lt_of_cell? _ _ (hc 0 (by omega))⟩
end
end Go.Proofs.Ytnpgpnngpeedhaa
