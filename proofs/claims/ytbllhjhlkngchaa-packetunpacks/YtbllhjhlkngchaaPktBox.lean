/- A packet's variable: a block that holds a packet; what a store into it, or elsewhere, leaves. Conditions: as each theorem states them. -/
import Derived.Test.YtbllhjhlkngchaaPktSame
import Derived.Deep.CutBlock
namespace Go.Proofs.Ytbllhjhlkngchaa
open Go.RowKit
set_option linter.unusedVariables false

theorem wp_world {P : Program} {c : Code} {Q : Exit → Act → World → Prop} {a : Act} {w1 w2 : World} (h : w1 = w2) (hw : c.wp P Q a w2) : c.wp P Q a w1 := h ▸ hw
/-- A packet in memory, in a block that may be written. -/
structure Bx (W : World) (g : Nat) (x : Pk) (d : Value) : Prop where
  c0 : W.cell? ⟨g, 0, none⟩ = some (.int .i64 x.k)
  c1 : W.cell? ⟨g, 1, none⟩ = some (.int .i64 x.f)
  c2 : W.cell? ⟨g, 2, none⟩ = some (.int .i64 x.t)
  c3 : W.cell? ⟨g, 3, none⟩ = some (.int .i64 x.i)
  c4 : W.cell? ⟨g, 4, none⟩ = some (.int .i64 x.l)
  c5 : W.cell? ⟨g, 5, none⟩ = some (.int .i64 x.p)
  c6 : W.cell? ⟨g, 6, none⟩ = some (.int .i64 x.s)
  c7 : W.cell? ⟨g, 7, none⟩ = some (.bool x.fl)
  c8 : W.cell? ⟨g, 8, none⟩ = some d
  fz : ∀ o, W.frozen? ⟨g, o, none⟩ = false
  lt : g < W.heap.size
theorem Bx.made (w : World) (x : Pk) (d : Value) : Bx (w.alloc (.cells #[.int .i64 x.k, .int .i64 x.f, .int .i64 x.t, .int .i64 x.i, .int .i64 x.l, .int .i64 x.p, .int .i64 x.s, .bool x.fl, d] 26)) w.heap.size x d := by
  constructor <;> simp
theorem Bx.below {W W' : World} {g base : Nat} {x : Pk} {d : Value} (h : Bx W g x d) (hb : Below base W W') (hg : g < base) : Bx W' g x d :=
  have e := fun o => hb.cell (p := ⟨g, o, none⟩) hg
  ⟨(e 0).trans h.c0, (e 1).trans h.c1, (e 2).trans h.c2, (e 3).trans h.c3, (e 4).trans h.c4, (e 5).trans h.c5, (e 6).trans h.c6, (e 7).trans h.c7, (e 8).trans h.c8, fun o => (hb.frozen (p := ⟨g, o, none⟩) hg).trans (h.fz o), Nat.lt_of_lt_of_le h.lt hb.size⟩
theorem Bx.next {W W' : World} {g : Nat} {x : Pk} {d : Value} (h : Bx W g x d) (hb : Below W.heap.size W W') : Bx W' g x d := h.below hb h.lt
theorem Bx.far {W : World} {g : Nat} {x : Pk} {d u : Value} {p : Addr} (h : Bx W g x d) (hp : g ≠ p.block) : Bx (W.setCell p u) g x d :=
  have e := fun o => cell_far (w := W) (p := p) (v := u) g o hp
  ⟨(e 0).trans h.c0, (e 1).trans h.c1, (e 2).trans h.c2, (e 3).trans h.c3, (e 4).trans h.c4, (e 5).trans h.c5, (e 6).trans h.c6, (e 7).trans h.c7, (e 8).trans h.c8, fun o => by rw [World.frozen?_setCell]; exact h.fz o, by simpa using h.lt⟩
theorem Sl.far {W : World} {a : Option Addr} {n cap : Nat} {l : List Int} {p : Addr} {u : Value} (h : Sl W a n cap l) (hp : ∀ x : Addr, a = some x → x.block ≠ p.block) : Sl (W.setCell p u) a n cap l := by
  refine ⟨h.len, h.le, h.max, h.nil, h.row.imp id ?_⟩
  rintro ⟨b, o, rfl, hc⟩
  exact ⟨b, o, rfl, fun i hi => by rw [cell_far _ _ (hp _ rfl)]; exact hc i hi⟩
section
variable {W : World} {g : Nat} {x : Pk} {d : Value}
theorem Bx.setK (h : Bx W g x d) (v : Int) : Bx (W.setCell ⟨g, 0, none⟩ (.int .i64 v)) g { x with k := v } d := by
  obtain ⟨c0, c1, c2, c3, c4, c5, c6, c7, c8, fz, lt⟩ := h
  constructor <;> (try intro o) <;> go_simp
theorem Bx.setF (h : Bx W g x d) (v : Int) : Bx (W.setCell ⟨g, 1, none⟩ (.int .i64 v)) g { x with f := v } d := by
  obtain ⟨c0, c1, c2, c3, c4, c5, c6, c7, c8, fz, lt⟩ := h
  constructor <;> (try intro o) <;> go_simp
theorem Bx.setT (h : Bx W g x d) (v : Int) : Bx (W.setCell ⟨g, 2, none⟩ (.int .i64 v)) g { x with t := v } d := by
  obtain ⟨c0, c1, c2, c3, c4, c5, c6, c7, c8, fz, lt⟩ := h
  constructor <;> (try intro o) <;> go_simp
theorem Bx.setI (h : Bx W g x d) (v : Int) : Bx (W.setCell ⟨g, 3, none⟩ (.int .i64 v)) g { x with i := v } d := by
  obtain ⟨c0, c1, c2, c3, c4, c5, c6, c7, c8, fz, lt⟩ := h
  constructor <;> (try intro o) <;> go_simp
theorem Bx.setL (h : Bx W g x d) (v : Int) : Bx (W.setCell ⟨g, 4, none⟩ (.int .i64 v)) g { x with l := v } d := by
  obtain ⟨c0, c1, c2, c3, c4, c5, c6, c7, c8, fz, lt⟩ := h
  constructor <;> (try intro o) <;> go_simp
theorem Bx.setP (h : Bx W g x d) (v : Int) : Bx (W.setCell ⟨g, 5, none⟩ (.int .i64 v)) g { x with p := v } d := by
  obtain ⟨c0, c1, c2, c3, c4, c5, c6, c7, c8, fz, lt⟩ := h
  constructor <;> (try intro o) <;> go_simp
theorem Bx.setS (h : Bx W g x d) (v : Int) : Bx (W.setCell ⟨g, 6, none⟩ (.int .i64 v)) g { x with s := v } d := by
  obtain ⟨c0, c1, c2, c3, c4, c5, c6, c7, c8, fz, lt⟩ := h
  constructor <;> (try intro o) <;> go_simp
theorem Bx.setFl (h : Bx W g x d) (v : Bool) : Bx (W.setCell ⟨g, 7, none⟩ (.bool v)) g { x with fl := v } d := by
  obtain ⟨c0, c1, c2, c3, c4, c5, c6, c7, c8, fz, lt⟩ := h
  constructor <;> (try intro o) <;> go_simp
theorem Bx.setZ (h : Bx W g x d) (z : List Int) (v : Value) : Bx (W.setCell ⟨g, 8, none⟩ v) g { x with z := z } v := by
  obtain ⟨c0, c1, c2, c3, c4, c5, c6, c7, c8, fz, lt⟩ := h
  constructor <;> (try intro o) <;> go_simp
end
/-- All nine are written. -/
theorem Bx.put {W : World} {g : Nat} {x : Pk} {d : Value} (h : Bx W g x d) (y : Pk) (v : Value) :
    Bx (((((((((W.setCell ⟨g, 0, none⟩ (.int .i64 y.k)).setCell ⟨g, 1, none⟩ (.int .i64 y.f)).setCell ⟨g, 2, none⟩ (.int .i64 y.t)).setCell ⟨g, 3, none⟩ (.int .i64 y.i)).setCell ⟨g, 4, none⟩ (.int .i64 y.l)).setCell ⟨g, 5, none⟩ (.int .i64 y.p)).setCell ⟨g, 6, none⟩ (.int .i64 y.s)).setCell ⟨g, 7, none⟩ (.bool y.fl)).setCell ⟨g, 8, none⟩ v) g y v := by
  obtain ⟨c0, c1, c2, c3, c4, c5, c6, c7, c8, fz, lt⟩ := h
  constructor <;> (try intro o) <;> go_simp
/-- A block into which a packet is written, cell by cell. -/
theorem far9 {W : World} {g : Nat} {y : Pk} {v : Value} {P : World → Prop} (hP : ∀ (V : World) (o : Nat) (u : Value), P V → P (V.setCell ⟨g, o, none⟩ u)) (h : P W) :
    P (((((((((W.setCell ⟨g, 0, none⟩ (.int .i64 y.k)).setCell ⟨g, 1, none⟩ (.int .i64 y.f)).setCell ⟨g, 2, none⟩ (.int .i64 y.t)).setCell ⟨g, 3, none⟩ (.int .i64 y.i)).setCell ⟨g, 4, none⟩ (.int .i64 y.l)).setCell ⟨g, 5, none⟩ (.int .i64 y.p)).setCell ⟨g, 6, none⟩ (.int .i64 y.s)).setCell ⟨g, 7, none⟩ (.bool y.fl)).setCell ⟨g, 8, none⟩ v) :=
  hP _ _ _ (hP _ _ _ (hP _ _ _ (hP _ _ _ (hP _ _ _ (hP _ _ _ (hP _ _ _ (hP _ _ _ (hP _ _ _ h))))))))
def zeroPk : Pk := ⟨0, 0, 0, 0, 0, 0, 0, false, []⟩
theorem Bx.made' (w : World) (x : Pk) (d : Value) (g : Nat) (hg : g = w.heap.size) : Bx (w.alloc (.cells #[.int .i64 x.k, .int .i64 x.f, .int .i64 x.t, .int .i64 x.i, .int .i64 x.l, .int .i64 x.p, .int .i64 x.s, .bool x.fl, d] 26)) g x d := hg ▸ Bx.made w x d
theorem Own.lo {w : World} {base n cap : Nat} {a : Option Addr} {l : List Int} (h : Own w base (.slice a n cap) l) : ∀ x : Addr, a = some x → base ≤ x.block ∧ x.block < w.heap.size := by
  intro x e
  subst e
  rcases h.2 with ⟨h1, _⟩ | ⟨g, c, cur, h1, hb, hg, _⟩
  · cases h1
  · simp at h1
    obtain ⟨rfl, _⟩ := h1
    exact ⟨hb, (Array.getElem?_eq_some_iff.1 hg).1⟩
end Go.Proofs.Ytbllhjhlkngchaa
