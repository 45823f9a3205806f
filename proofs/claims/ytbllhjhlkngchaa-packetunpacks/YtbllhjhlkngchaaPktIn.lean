/- Packets as they come in: the value written out, its words readable. -/
import Derived.Test.YtbllhjhlkngchaaInCells
import Derived.Test.YtbllhjhlkngchaaPktMath
namespace Go.Proofs.Ytbllhjhlkngchaa
open Go.ChangeShapes Go.WideShapes Go.ChangeAt Go.RowKit Go.Joins
set_option linter.unusedVariables false

/-- A packet that came in. -/
def IsPk (w : World) (v : Value) : Prop := ∃ (x : Pk) (a : Option Addr) (n cap : Nat), v = x.val (.slice a n cap) ∧ Sl w a n cap x.z ∧ R64 x.z
theorem array9 {α : Type} {cs : Array α} (h : cs.size = 9) : ∃ c0 c1 c2 c3 c4 c5 c6 c7 c8, cs = #[c0, c1, c2, c3, c4, c5, c6, c7, c8] := by
  obtain ⟨l⟩ := cs
  match l, h with
  | [c0, c1, c2, c3, c4, c5, c6, c7, c8], _ => exact ⟨c0, c1, c2, c3, c4, c5, c6, c7, c8, rfl⟩
theorem pkt_of {H : Type} {enc : TypeId × Value → H} {w : World} {base b0 : Nat} {held : Bool} {r : Reach} {v : Value} {d : DataW H} {p : List MemPlace}
    (hv : Value.okWide Try.prog w r b0 26 v) (h : DataW.Trod enc Try.prog w base (fun _ => true) held 26 v d p) : IsPk w v := by
  obtain ⟨cs, rfl, hsz, hf⟩ := agg_cells Try.underlying26 (by kernel_rfl) (by kernel_rfl) hv h
  obtain ⟨c0, c1, c2, c3, c4, c5, c6, c7, c8, rfl⟩ := array9 hsz
  obtain ⟨_, _, _, e0, t0⟩ := hf 0 _ rfl
  obtain ⟨_, _, _, e1, t1⟩ := hf 1 _ rfl
  obtain ⟨_, _, _, e2, t2⟩ := hf 2 _ rfl
  obtain ⟨_, _, _, e3, t3⟩ := hf 3 _ rfl
  obtain ⟨_, _, _, e4, t4⟩ := hf 4 _ rfl
  obtain ⟨_, _, _, e5, t5⟩ := hf 5 _ rfl
  obtain ⟨_, _, _, e6, t6⟩ := hf 6 _ rfl
  obtain ⟨_, _, _, e7, t7⟩ := hf 7 _ rfl
  obtain ⟨_, _, _, e8, t8⟩ := hf 8 _ rfl
  simp at e0 e1 e2 e3 e4 e5 e6 e7 e8
  subst e0 e1 e2 e3 e4 e5 e6 e7 e8
  obtain ⟨x0, rfl⟩ := int_cell t0
  obtain ⟨x1, rfl⟩ := int_cell t1
  obtain ⟨x2, rfl⟩ := int_cell t2
  obtain ⟨x3, rfl⟩ := int_cell t3
  obtain ⟨x4, rfl⟩ := int_cell t4
  obtain ⟨x5, rfl⟩ := int_cell t5
  obtain ⟨x6, rfl⟩ := int_cell t6
  obtain ⟨x7, rfl⟩ := bool_cell t7
  obtain ⟨a8, l8, p8, z8, rfl, s8, r8⟩ := ints_cell t8
  exact ⟨⟨x0, x1, x2, x3, x4, x5, x6, x7, z8⟩, a8, l8, p8, rfl, s8, r8⟩
end Go.Proofs.Ytbllhjhlkngchaa
