/- Setups as they come in: the value written out, its lists readable. -/
import Derived.Test.YtgeiagndpfdnlaaPlay
import Derived.Test.YtgeiagndpfdnlaaInCells
import Derived.ProofKit
import Derived.OpenShut
import Derived.ChangeOld
import Derived.Below
import Derived.Lib.SmallJoins
namespace Go.Proofs.Ytgeiagndpfdnlaa
open Go.ChangeShapes Go.WideShapes Go.ChangeAt Go.RowKit Go.Joins
set_option linter.unusedVariables false
set_option maxRecDepth 20000

/-- A setup that came in. -/
def IsSetup (w : World) (v : Value) : Prop :=
  ∃ (n l k s y o i : Int) (a0 : Option Addr) (n0 c0 : Nat) (z0 : List Int) (a1 : Option Addr) (n1 c1 : Nat) (z1 : List Int) (a2 : Option Addr) (n2 c2 : Nat) (z2 : List Int) (a3 : Option Addr) (n3 c3 : Nat) (z3 : List Int) (a4 : Option Addr) (n4 c4 : Nat) (z4 : List Int),
    v = setup n l k s y o i (.slice a0 n0 c0) (.slice a1 n1 c1) (.slice a2 n2 c2) (.slice a3 n3 c3) (.slice a4 n4 c4) ∧ Sl w a0 n0 c0 z0 ∧ Sl w a1 n1 c1 z1 ∧ Sl w a2 n2 c2 z2 ∧ Sl w a3 n3 c3 z3 ∧ Sl w a4 n4 c4 z4

theorem array12 {α : Type} {cs : Array α} (h : cs.size = 12) : ∃ c0 c1 c2 c3 c4 c5 c6 c7 c8 c9 c10 c11, cs = #[c0, c1, c2, c3, c4, c5, c6, c7, c8, c9, c10, c11] := by
  obtain ⟨l⟩ := cs
  match l, h with
  | [c0, c1, c2, c3, c4, c5, c6, c7, c8, c9, c10, c11], _ => exact ⟨c0, c1, c2, c3, c4, c5, c6, c7, c8, c9, c10, c11, rfl⟩
theorem setup_of {H : Type} {enc : TypeId × Value → H} {w : World} {base b0 : Nat} {held : Bool} {r : Reach} {v : Value} {d : DataW H} {p : List MemPlace}
    (hv : Value.okWide Try.prog w r b0 24 v) (h : DataW.Trod enc Try.prog w base (fun _ => true) held 24 v d p) : IsSetup w v := by
  obtain ⟨cs, rfl, hsz, hf⟩ := agg_cells Try.underlying24 (by kernel_rfl) (by kernel_rfl) hv h
  obtain ⟨c0, c1, c2, c3, c4, c5, c6, c7, c8, c9, c10, c11, rfl⟩ := array12 hsz
  obtain ⟨_, _, _, e0, t0⟩ := hf 0 _ rfl
  obtain ⟨_, _, _, e1, t1⟩ := hf 1 _ rfl
  obtain ⟨_, _, _, e2, t2⟩ := hf 2 _ rfl
  obtain ⟨_, _, _, e3, t3⟩ := hf 3 _ rfl
  obtain ⟨_, _, _, e4, t4⟩ := hf 4 _ rfl
  obtain ⟨_, _, _, e5, t5⟩ := hf 5 _ rfl
  obtain ⟨_, _, _, e6, t6⟩ := hf 6 _ rfl
  obtain ⟨_, _, _, e7, t7⟩ := hf 7 _ rfl
  obtain ⟨_, _, _, e8, t8⟩ := hf 8 _ rfl
  obtain ⟨_, _, _, e9, t9⟩ := hf 9 _ rfl
  obtain ⟨_, _, _, e10, t10⟩ := hf 10 _ rfl
  obtain ⟨_, _, _, e11, t11⟩ := hf 11 _ rfl
  simp at e0 e1 e2 e3 e4 e5 e6 e7 e8 e9 e10 e11
  subst e0 e1 e2 e3 e4 e5 e6 e7 e8 e9 e10 e11
  obtain ⟨x0, rfl⟩ := int_cell t0
  obtain ⟨x1, rfl⟩ := int_cell t1
  obtain ⟨x2, rfl⟩ := int_cell t2
  obtain ⟨x3, rfl⟩ := int_cell t3
  obtain ⟨x4, rfl⟩ := int_cell t4
  obtain ⟨x5, rfl⟩ := int_cell t5
  obtain ⟨x6, rfl⟩ := int_cell t6
  obtain ⟨a7, l7, p7, z7, rfl, s7, _⟩ := ints_cell t7
  obtain ⟨a8, l8, p8, z8, rfl, s8, _⟩ := ints_cell t8
  obtain ⟨a9, l9, p9, z9, rfl, s9, _⟩ := ints_cell t9
  obtain ⟨a10, l10, p10, z10, rfl, s10, _⟩ := ints_cell t10
  obtain ⟨a11, l11, p11, z11, rfl, s11, _⟩ := ints_cell t11
  exact ⟨x0, x1, x2, x3, x4, x5, x6, a7, l7, p7, z7, a8, l8, p8, z8, a9, l9, p9, z9, a10, l10, p10, z10, a11, l11, p11, z11, rfl, s7, s8, s9, s10, s11⟩
end Go.Proofs.Ytgeiagndpfdnlaa
