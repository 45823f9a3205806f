/- A line in a cache as plain data (En), and its variable in memory (Eb). Nothing of the program is named here but its type. -/
import Derived.Test.YtgeiagndpfdnlaaApp
import Derived.Test.YtgeiagndpfdnlaaPk0
import Derived.Deep.CutBlock
namespace Go.Proofs.Ytgeiagndpfdnlaa
open Go.RowKit
set_option linter.unusedVariables false
set_option maxRecDepth 20000

/-- A line in a cache: who is behind it, who is ahead, its number, when it was used, its state, its words. -/
structure En where
  f : Int
  b : Int
  n : Int
  u : Int
  q : Bool
  z : List Int
/-- The entry as a value, its words where d says. -/
@[reducible] def En.val (x : En) (d : Value) : Value := .agg #[.int .i64 x.f, .int .i64 x.b, .int .i64 x.n, .int .i64 x.u, .bool x.q, d]
/-- An entry in memory, in a block that may be written. -/
structure Eb (W : World) (g o : Nat) (x : En) (d : Value) : Prop where
  c0 : W.cell? ⟨g, o, none⟩ = some (.int .i64 x.f)
  c1 : W.cell? ⟨g, o + 1, none⟩ = some (.int .i64 x.b)
  c2 : W.cell? ⟨g, o + 2, none⟩ = some (.int .i64 x.n)
  c3 : W.cell? ⟨g, o + 3, none⟩ = some (.int .i64 x.u)
  c4 : W.cell? ⟨g, o + 4, none⟩ = some (.bool x.q)
  c5 : W.cell? ⟨g, o + 5, none⟩ = some d
  fz : ∀ k, k < 6 → W.frozen? ⟨g, o + k, none⟩ = false
  lt : g < W.heap.size
theorem Eb.keep {F : Nat → Prop} {W W' : World} {g o : Nat} {x : En} {d : Value} (h : Eb W g o x d) (hk : Keep F W W') (hF : ¬ F g) : Eb W' g o x d :=
  have e := fun o => hk.cell (b := g) o h.lt hF
  ⟨(e _).trans h.c0, (e _).trans h.c1, (e _).trans h.c2, (e _).trans h.c3, (e _).trans h.c4, (e _).trans h.c5, fun k hk' => (hk.frozen (b := g) _ h.lt hF).trans (h.fz k hk'), Nat.lt_of_lt_of_le h.lt hk.size⟩
theorem Eb.next {W W' : World} {g o : Nat} {x : En} {d : Value} (h : Eb W g o x d) (hb : Below W.heap.size W W') : Eb W' g o x d := h.keep (F := fun _ => False) (Keep.of_below hb) (fun h => h)
theorem Eb.below {W W' : World} {g o base : Nat} {x : En} {d : Value} (h : Eb W g o x d) (hb : Below base W W') (hg : g < base) : Eb W' g o x d :=
  h.keep (F := fun k => base ≤ k) ⟨hb.os, hb.tape, hb.output, hb.size, fun k _ hF => hb.block k (by omega)⟩ (by omega)
theorem Eb.far {W : World} {g o : Nat} {x : En} {d u : Value} {p : Addr} (h : Eb W g o x d) (hp : g ≠ p.block) : Eb (W.setCell p u) g o x d :=
  h.keep (F := fun k => k = p.block) ((Keep.refl (fun k => k = p.block) W).setCell (p := p) (.inl rfl) u) hp
section
variable {W : World} {g o : Nat} {x : En} {d : Value}
theorem Eb.setF (h : Eb W g o x d) (v : Int) : Eb (W.setCell ⟨g, o, none⟩ (.int .i64 v)) g o { x with f := v } d := by
  obtain ⟨c0, c1, c2, c3, c4, c5, fz, lt⟩ := h
  constructor <;> (try intro k hk) <;> go_simp
theorem Eb.setB (h : Eb W g o x d) (v : Int) : Eb (W.setCell ⟨g, o + 1, none⟩ (.int .i64 v)) g o { x with b := v } d := by
  obtain ⟨c0, c1, c2, c3, c4, c5, fz, lt⟩ := h
  constructor <;> (try intro k hk) <;> go_simp
theorem Eb.setN (h : Eb W g o x d) (v : Int) : Eb (W.setCell ⟨g, o + 2, none⟩ (.int .i64 v)) g o { x with n := v } d := by
  obtain ⟨c0, c1, c2, c3, c4, c5, fz, lt⟩ := h
  constructor <;> (try intro k hk) <;> go_simp
theorem Eb.setU (h : Eb W g o x d) (v : Int) : Eb (W.setCell ⟨g, o + 3, none⟩ (.int .i64 v)) g o { x with u := v } d := by
  obtain ⟨c0, c1, c2, c3, c4, c5, fz, lt⟩ := h
  constructor <;> (try intro k hk) <;> go_simp
theorem Eb.setQ (h : Eb W g o x d) (v : Bool) : Eb (W.setCell ⟨g, o + 4, none⟩ (.bool v)) g o { x with q := v } d := by
  obtain ⟨c0, c1, c2, c3, c4, c5, fz, lt⟩ := h
  constructor <;> (try intro k hk) <;> go_simp
theorem Eb.setZ (h : Eb W g o x d) (z : List Int) (v : Value) : Eb (W.setCell ⟨g, o + 5, none⟩ v) g o { x with z := z } v := by
  obtain ⟨c0, c1, c2, c3, c4, c5, fz, lt⟩ := h
  constructor <;> (try intro k hk) <;> go_simp
end
def zeroEn : En := ⟨0, 0, 0, 0, false, []⟩
/-- All six are written. -/
theorem Eb.six {F : Nat → Prop} {W V : World} {g o : Nat} {x : En} {d : Value} (hF : F g ∨ W.heap.size ≤ g) (h : Keep F W V) :
    Keep F W ((((((V.setCell ⟨g, o, none⟩ (.int .i64 x.f)).setCell ⟨g, o + 1, none⟩ (.int .i64 x.b)).setCell ⟨g, o + 2, none⟩ (.int .i64 x.n)).setCell ⟨g, o + 3, none⟩ (.int .i64 x.u)).setCell ⟨g, o + 4, none⟩ (.bool x.q)).setCell ⟨g, o + 5, none⟩ d) := by
  have k : ∀ (V : World) (o : Nat) (u : Value), Keep F W V → Keep F W (V.setCell ⟨g, o, none⟩ u) := fun V o u h => h.setCell (p := ⟨g, o, none⟩) hF u
  exact k _ _ _ (k _ _ _ (k _ _ _ (k _ _ _ (k _ _ _ (k _ _ _ h)))))
theorem Eb.put {W : World} {g o : Nat} {x : En} {d : Value} (h : Eb W g o x d) (y : En) (v : Value) :
    Eb ((((((W.setCell ⟨g, o, none⟩ (.int .i64 y.f)).setCell ⟨g, o + 1, none⟩ (.int .i64 y.b)).setCell ⟨g, o + 2, none⟩ (.int .i64 y.n)).setCell ⟨g, o + 3, none⟩ (.int .i64 y.u)).setCell ⟨g, o + 4, none⟩ (.bool y.q)).setCell ⟨g, o + 5, none⟩ v) g o y v := by
  obtain ⟨c0, c1, c2, c3, c4, c5, fz, lt⟩ := h
  constructor <;> (try intro k hk) <;> go_simp
/-- What a fresh variable's cells are, written out. -/
theorem Eb.lit {W : World} {g : Nat} {x : En} {d : Value} (h : Eb W g 0 x d) : W.cell? ⟨g, 0, none⟩ = some (.int .i64 x.f) ∧ W.cell? ⟨g, 1, none⟩ = some (.int .i64 x.b) ∧ W.cell? ⟨g, 2, none⟩ = some (.int .i64 x.n) ∧ W.cell? ⟨g, 3, none⟩ = some (.int .i64 x.u) ∧ W.cell? ⟨g, 4, none⟩ = some (.bool x.q) ∧ W.cell? ⟨g, 5, none⟩ = some d :=
  ⟨h.c0, by simpa using h.c1, by simpa using h.c2, by simpa using h.c3, by simpa using h.c4, by simpa using h.c5⟩
theorem Eb.lit' {W : World} {g : Nat} {x : En} {d : Value} (h : Eb W g 0 x d) : W.frozen? ⟨g, 0, none⟩ = false ∧ W.frozen? ⟨g, 1, none⟩ = false ∧ W.frozen? ⟨g, 2, none⟩ = false ∧ W.frozen? ⟨g, 3, none⟩ = false ∧ W.frozen? ⟨g, 4, none⟩ = false ∧ W.frozen? ⟨g, 5, none⟩ = false :=
  ⟨by simpa using h.fz 0 (by omega), by simpa using h.fz 1 (by omega), by simpa using h.fz 2 (by omega), by simpa using h.fz 3 (by omega), by simpa using h.fz 4 (by omega), by simpa using h.fz 5 (by omega)⟩
end Go.Proofs.Ytgeiagndpfdnlaa
