/- Chapter 8's lists of acts as they come in: each act's cells (as those of an entry: what, the line, Fwd, Back, the state, the words). -/
import Derived.Test.YtfobgkkmbacfjaaStructsIn
import Derived.Test.YtfobgkkmbacfjaaCa0
import Derived.Test.YtfobgkkmbacfjaaIMap
namespace Go.Proofs.Ytfobgkkmbacfjaa
open Go.ChangeShapes Go.WideShapes Go.ChangeAt Go.RowKit Go.Deep
set_option linter.unusedVariables false
set_option maxRecDepth 20000

theorem in64_of {x : Int} (h : (Lit.int .i64 x).wf = true) : In64 x := by
  simp [Lit.wf, IntKind.min, IntKind.max, IntKind.signed, IntKind.bits] at h
  unfold In64
  omega
/-- n acts, from address a on. -/
def IsActs8 (w : World) (a : Option Addr) (n : Nat) : Prop := ∀ i, i < n → ∃ (bl o : Nat) (x : En) (av : Option Addr) (nv cv : Nat),
  a = some ⟨bl, o, none⟩ ∧ (∀ j, j < 6 → w.cell? ⟨bl, o + i * 6 + j, none⟩ = (ecells (x, .slice av nv cv))[j]?) ∧ Sl w av nv cv x.z ∧ bl < w.heap.size ∧ In64 x.b
theorem IsActs8.below {w w' : World} {a : Option Addr} {n : Nat} (h : IsActs8 w a n) (hb : Below w.heap.size w w') : IsActs8 w' a n := fun i hi => by
  obtain ⟨bl, o, x, av, nv, cv, e, hc, hs, hlt, hr⟩ := h i hi
  exact ⟨bl, o, x, av, nv, cv, e, fun j hj => by rw [hb.cell (p := ⟨bl, o + i * 6 + j, none⟩) hlt]; exact hc j hj, hs.below hb, Nat.lt_of_lt_of_le hlt hb.size, hr⟩
theorem list6 {α : Type} {l : List α} (h : l.length = 6) : ∃ c0 c1 c2 c3 c4 c5, l = [c0, c1, c2, c3, c4, c5] := by
  match l, h with
  | [c0, c1, c2, c3, c4, c5], _ => exact ⟨c0, c1, c2, c3, c4, c5, rfl⟩
section
variable {H : Type} {enc : TypeId × Value → H} {w : World} {base : Nat} {held : Bool}
theorem acts8_of {n : Nat} {c : Value} {y : DataW H × List MemPlace} (h : DataW.trod enc Try.prog w base (fun _ => true) held n 22 [c] = some y) : ∃ a len cap, c = .slice a len cap ∧ len ≤ cap ∧ cap ≤ maxLen ∧ IsActs8 w a len := by
  obtain ⟨a, len, cap, rfl, hl, hm, hx⟩ := structs_of Try.underlying22 (C := 6) (by kernel_rfl) (by omega) h
  refine ⟨a, len, cap, rfl, hl, hm, fun i hi => ?_⟩
  obtain ⟨bl, off, cs, k, y', rfl, hlen, hc, ht⟩ := hx i hi
  obtain ⟨c0, c1, c2, c3, c4, c5, rfl⟩ := list6 hlen
  have g := fieldOf Try.underlying30 ht
  have k1 : Try.prog.cellsOf 3 = 1 := by kernel_rfl
  have k4 : Try.prog.cellsOf 4 = 1 := by kernel_rfl
  have k5 : Try.prog.cellsOf 28 = 1 := by kernel_rfl
  obtain ⟨_, _, t0⟩ := g 0 3 0 1 [c0] rfl k1 rfl
  obtain ⟨_, _, t1⟩ := g 1 3 1 1 [c1] rfl k1 rfl
  obtain ⟨_, _, t2⟩ := g 2 3 2 1 [c2] rfl k1 rfl
  obtain ⟨_, _, t3⟩ := g 3 3 3 1 [c3] rfl k1 rfl
  obtain ⟨_, _, t4⟩ := g 4 4 4 1 [c4] rfl k4 rfl
  obtain ⟨_, _, t5⟩ := g 5 28 5 1 [c5] rfl k5 rfl
  obtain ⟨x0, rfl⟩ := int_cell t0
  obtain ⟨x1, e1, _, hw1⟩ := DataW.trod_int Try.underlying3 t1
  obtain rfl := (List.cons.inj e1).1
  obtain ⟨x2, rfl⟩ := int_cell t2
  obtain ⟨x3, rfl⟩ := int_cell t3
  obtain ⟨x4, rfl⟩ := bool_cell t4
  obtain ⟨av, nv, cv, z, rfl, hs, hz⟩ := ints_cell t5
  exact ⟨bl, off, ⟨x0, x1, x2, x3, x4, z⟩, av, nv, cv, rfl, hc, hs, World.block_lt_of_cell? _ _ (hc 0 (by omega)), in64_of hw1⟩
end
end Go.Proofs.Ytfobgkkmbacfjaa
