/- Packets as plain data; a packet's variable in memory; rows of packets, their words. Conditions: as each theorem states them.
A line in a cache as plain data (En), and its variable in memory (Eb). Nothing of the program is named here but its type.
Two entries and a list beside each other, each with memory of its own. Nothing of the program is named here but its type.
Rows of structs, cell by cell (flat); rows that are written in place. Nothing of the program is named here.
Rows of entries in memory that may be written, their words elsewhere (ERow). Nothing of the program is named here but the entries' type.
Maps from whole numbers, as lists of pairs: what is there (IM); what a look-up, a store, a delete make of them. Lists with a key (putK, delK). Conditions: as each theorem states them.
What a home knows of its lines, in memory: a map of rows by line (MW). Nothing of the program is named here but its types.
A directory beside what a test has of its own (MO): its memory is new, and none of X. Conditions: as each theorem states them.
The configuration of a setup, in numbers; its variable in memory.
The contract of plan.Words. Conditions: as each theorem states them.
The contracts of package plan: Check, HomeOf, SetOf, LineOf, Addrs. Conditions: as each theorem states them.
The contracts of package plan: HomeOf, SetOf, LineOf, Words. Conditions: as each theorem states them.
The contracts of package memdir: New, Row, Set, Lines. Conditions: as each theorem states them.
The contracts of package memdir: Set. Conditions: as each theorem states them. -/
import Derived.Test.YtgeiagndpfdnlaaPart1
import Derived.Deep.CutBlock
import Derived.Maps.OwnSet
import Derived.Maps.OwnOps
import Derived.Deep.OwnRows
import Derived.ArgAppend
import Derived.Lib.SliceRun
section
namespace Go.Proofs.Ytgeiagndpfdnlaa
open Go.RowKit
set_option linter.unusedVariables false

/-- A packet: its numbers, its flag, its words. -/
structure Pk where
  k : Int
  f : Int
  t : Int
  i : Int
  l : Int
  p : Int
  s : Int
  fl : Bool
  z : List Int
/-- The packet as a value, its words where d says. -/
@[reducible] def Pk.val (x : Pk) (d : Value) : Value := .agg #[.int .i64 x.k, .int .i64 x.f, .int .i64 x.t, .int .i64 x.i, .int .i64 x.l, .int .i64 x.p, .int .i64 x.s, .bool x.fl, d]
def sameP (x y : Pk) : Bool := decide (x.k = y.k ∧ x.f = y.f ∧ x.t = y.t ∧ x.i = y.i ∧ x.l = y.l ∧ x.p = y.p ∧ x.s = y.s ∧ x.fl = y.fl ∧ x.z = y.z)
theorem sameP_self (x : Pk) : sameP x x = true := decide_eq_true ⟨rfl, rfl, rfl, rfl, rfl, rfl, rfl, rfl, rfl⟩
theorem wp_world {P : Program} {c : Code} {Q : Exit → Act → World → Prop} {a : Act} {w1 w2 : World} (h : w1 = w2) (hw : c.wp P Q a w2) : c.wp P Q a w1 := h ▸ hw
/-- A packet in memory, in a block that may be written. -/
structure Bx (W : World) (g : Nat) (x : Pk) (d : Value) : Prop where
  c0 : W.cell? ⟨g, 0, none⟩ = some (.int .i64 x.k)
  c1 : W.cell? ⟨g, 1, none⟩ = some (.int .i64 x.f)
  c2 : W.cell? ⟨g, 2, none⟩ = some (.int .i64 x.t)
  c3 : W.cell? ⟨g, 3, none⟩ = some (.int .i64 x.i)
  c4 : W.cell? ⟨g, 4, none⟩ = some (.int .i64 x.l)
  c5 : W.cell? ⟨g, 5, none⟩ = some (.int .i64 x.p)
  c6 : W.cell? ⟨g, 6, none⟩ = some (.int .i64 x.s)
  c7 : W.cell? ⟨g, 7, none⟩ = some (.bool x.fl)
  c8 : W.cell? ⟨g, 8, none⟩ = some d
  fz : ∀ o, W.frozen? ⟨g, o, none⟩ = false
  lt : g < W.heap.size
theorem Bx.made (w : World) (x : Pk) (d : Value) : Bx (w.alloc (.cells #[.int .i64 x.k, .int .i64 x.f, .int .i64 x.t, .int .i64 x.i, .int .i64 x.l, .int .i64 x.p, .int .i64 x.s, .bool x.fl, d] 32)) w.heap.size x d := by
  constructor <;> simp
theorem Bx.below {W W' : World} {g base : Nat} {x : Pk} {d : Value} (h : Bx W g x d) (hb : Below base W W') (hg : g < base) : Bx W' g x d :=
  have e := fun o => hb.cell (p := ⟨g, o, none⟩) hg
  ⟨(e 0).trans h.c0, (e 1).trans h.c1, (e 2).trans h.c2, (e 3).trans h.c3, (e 4).trans h.c4, (e 5).trans h.c5, (e 6).trans h.c6, (e 7).trans h.c7, (e 8).trans h.c8, fun o => (hb.frozen (p := ⟨g, o, none⟩) hg).trans (h.fz o), Nat.lt_of_lt_of_le h.lt hb.size⟩
theorem Bx.next {W W' : World} {g : Nat} {x : Pk} {d : Value} (h : Bx W g x d) (hb : Below W.heap.size W W') : Bx W' g x d := h.below hb h.lt
theorem Bx.far {W : World} {g : Nat} {x : Pk} {d u : Value} {p : Addr} (h : Bx W g x d) (hp : g ≠ p.block) : Bx (W.setCell p u) g x d :=
  have e := fun o => cell_far (w := W) (p := p) (v := u) g o hp
  ⟨(e 0).trans h.c0, (e 1).trans h.c1, (e 2).trans h.c2, (e 3).trans h.c3, (e 4).trans h.c4, (e 5).trans h.c5, (e 6).trans h.c6, (e 7).trans h.c7, (e 8).trans h.c8, fun o => by rw [World.frozen?_setCell]; exact h.fz o, by simpa using h.lt⟩
theorem Sl.far {W : World} {a : Option Addr} {n cap : Nat} {l : List Int} {p : Addr} {u : Value} (h : Sl W a n cap l) (hp : ∀ x : Addr, a = some x → x.block ≠ p.block) : Sl (W.setCell p u) a n cap l := by
  refine ⟨h.len, h.le, h.max, h.nil, h.row.imp id ?_⟩
  rintro ⟨b, o, rfl, hc⟩
  exact ⟨b, o, rfl, fun i hi => by rw [cell_far _ _ (hp _ rfl)]; exact hc i hi⟩
section
variable {W : World} {g : Nat} {x : Pk} {d : Value}
theorem Bx.setK (h : Bx W g x d) (v : Int) : Bx (W.setCell ⟨g, 0, none⟩ (.int .i64 v)) g { x with k := v } d := by
  obtain ⟨c0, c1, c2, c3, c4, c5, c6, c7, c8, fz, lt⟩ := h
  constructor <;> (try intro o) <;> go_simp
theorem Bx.setF (h : Bx W g x d) (v : Int) : Bx (W.setCell ⟨g, 1, none⟩ (.int .i64 v)) g { x with f := v } d := by
  obtain ⟨c0, c1, c2, c3, c4, c5, c6, c7, c8, fz, lt⟩ := h
  constructor <;> (try intro o) <;> go_simp
theorem Bx.setT (h : Bx W g x d) (v : Int) : Bx (W.setCell ⟨g, 2, none⟩ (.int .i64 v)) g { x with t := v } d := by
  obtain ⟨c0, c1, c2, c3, c4, c5, c6, c7, c8, fz, lt⟩ := h
  constructor <;> (try intro o) <;> go_simp
theorem Bx.setI (h : Bx W g x d) (v : Int) : Bx (W.setCell ⟨g, 3, none⟩ (.int .i64 v)) g { x with i := v } d := by
  obtain ⟨c0, c1, c2, c3, c4, c5, c6, c7, c8, fz, lt⟩ := h
  constructor <;> (try intro o) <;> go_simp
theorem Bx.setL (h : Bx W g x d) (v : Int) : Bx (W.setCell ⟨g, 4, none⟩ (.int .i64 v)) g { x with l := v } d := by
  obtain ⟨c0, c1, c2, c3, c4, c5, c6, c7, c8, fz, lt⟩ := h
  constructor <;> (try intro o) <;> go_simp
theorem Bx.setP (h : Bx W g x d) (v : Int) : Bx (W.setCell ⟨g, 5, none⟩ (.int .i64 v)) g { x with p := v } d := by
  obtain ⟨c0, c1, c2, c3, c4, c5, c6, c7, c8, fz, lt⟩ := h
  constructor <;> (try intro o) <;> go_simp
theorem Bx.setS (h : Bx W g x d) (v : Int) : Bx (W.setCell ⟨g, 6, none⟩ (.int .i64 v)) g { x with s := v } d := by
  obtain ⟨c0, c1, c2, c3, c4, c5, c6, c7, c8, fz, lt⟩ := h
  constructor <;> (try intro o) <;> go_simp
theorem Bx.setFl (h : Bx W g x d) (v : Bool) : Bx (W.setCell ⟨g, 7, none⟩ (.bool v)) g { x with fl := v } d := by
  obtain ⟨c0, c1, c2, c3, c4, c5, c6, c7, c8, fz, lt⟩ := h
  constructor <;> (try intro o) <;> go_simp
theorem Bx.setZ (h : Bx W g x d) (z : List Int) (v : Value) : Bx (W.setCell ⟨g, 8, none⟩ v) g { x with z := z } v := by
  obtain ⟨c0, c1, c2, c3, c4, c5, c6, c7, c8, fz, lt⟩ := h
  constructor <;> (try intro o) <;> go_simp
end
/-- All nine are written. -/
theorem Bx.put {W : World} {g : Nat} {x : Pk} {d : Value} (h : Bx W g x d) (y : Pk) (v : Value) :
    Bx (((((((((W.setCell ⟨g, 0, none⟩ (.int .i64 y.k)).setCell ⟨g, 1, none⟩ (.int .i64 y.f)).setCell ⟨g, 2, none⟩ (.int .i64 y.t)).setCell ⟨g, 3, none⟩ (.int .i64 y.i)).setCell ⟨g, 4, none⟩ (.int .i64 y.l)).setCell ⟨g, 5, none⟩ (.int .i64 y.p)).setCell ⟨g, 6, none⟩ (.int .i64 y.s)).setCell ⟨g, 7, none⟩ (.bool y.fl)).setCell ⟨g, 8, none⟩ v) g y v := by
  obtain ⟨c0, c1, c2, c3, c4, c5, c6, c7, c8, fz, lt⟩ := h
  constructor <;> (try intro o) <;> go_simp
/-- A block into which a packet is written, cell by cell. -/
theorem far9 {W : World} {g : Nat} {y : Pk} {v : Value} {P : World → Prop} (hP : ∀ (V : World) (o : Nat) (u : Value), P V → P (V.setCell ⟨g, o, none⟩ u)) (h : P W) :
    P (((((((((W.setCell ⟨g, 0, none⟩ (.int .i64 y.k)).setCell ⟨g, 1, none⟩ (.int .i64 y.f)).setCell ⟨g, 2, none⟩ (.int .i64 y.t)).setCell ⟨g, 3, none⟩ (.int .i64 y.i)).setCell ⟨g, 4, none⟩ (.int .i64 y.l)).setCell ⟨g, 5, none⟩ (.int .i64 y.p)).setCell ⟨g, 6, none⟩ (.int .i64 y.s)).setCell ⟨g, 7, none⟩ (.bool y.fl)).setCell ⟨g, 8, none⟩ v) :=
  hP _ _ _ (hP _ _ _ (hP _ _ _ (hP _ _ _ (hP _ _ _ (hP _ _ _ (hP _ _ _ (hP _ _ _ (hP _ _ _ h))))))))
def zeroPk : Pk := ⟨0, 0, 0, 0, 0, 0, 0, false, []⟩
theorem Bx.made' (w : World) (x : Pk) (d : Value) (g : Nat) (hg : g = w.heap.size) : Bx (w.alloc (.cells #[.int .i64 x.k, .int .i64 x.f, .int .i64 x.t, .int .i64 x.i, .int .i64 x.l, .int .i64 x.p, .int .i64 x.s, .bool x.fl, d] 32)) g x d := hg ▸ Bx.made w x d
theorem Own.lo {w : World} {base n cap : Nat} {a : Option Addr} {l : List Int} (h : Own w base (.slice a n cap) l) : ∀ x : Addr, a = some x → base ≤ x.block ∧ x.block < w.heap.size := by
  intro x e
  subst e
  rcases h.2 with ⟨h1, _⟩ | ⟨g, c, cur, h1, hb, hg, _⟩
  · cases h1
  · simp at h1
    obtain ⟨rfl, _⟩ := h1
    exact ⟨hb, (Array.getElem?_eq_some_iff.1 hg).1⟩
theorem Sl.at {w : World} {a : Option Addr} {n cap : Nat} {l : List Int} (h : Sl w a n cap l) {k : Nat} (hk : k < n) : ∃ b o, a = some ⟨b, o, none⟩ ∧ b < w.heap.size ∧ w.cell? ⟨b, o + k, none⟩ = some (.int .i64 (l[k]?.getD 0)) := by
  have hl := h.len
  rcases h.row with rfl | ⟨b, o, e, hc⟩
  · simp at hl; omega
  · exact ⟨b, o, e, World.block_lt_of_cell? w _ (hc k (by omega)), hc k (by omega)⟩
theorem sameP_eq {x y : Pk} (h : sameP x y = true) : x = y := by
  obtain ⟨h1, h2, h3, h4, h5, h6, h7, h8, h9⟩ := of_decide_eq_true h
  cases x; cases y; simp_all
instance Pk.dec : DecidableEq Pk := fun x y => decidable_of_iff (sameP x y = true) ⟨sameP_eq, fun h => by subst h; exact sameP_self x⟩
theorem sameP_iff (x y : Pk) : sameP x y = decide (x = y) := by
  by_cases h : x = y
  · subst h; rw [sameP_self]; simp
  · rw [decide_eq_false h]
    cases hs : sameP x y
    · rfl
    · exact absurd (sameP_eq hs) h

/-- The nine cells of a packet. -/
def pcells (x : Pk) (d : Value) : List Value := [.int .i64 x.k, .int .i64 x.f, .int .i64 x.t, .int .i64 x.i, .int .i64 x.l, .int .i64 x.p, .int .i64 x.s, .bool x.fl, d]
theorem pcells_len (x : Pk) (d : Value) : (pcells x d).length = 9 := rfl
/-- A row of packets, cell by cell. -/
def pflat (R : List (Pk × Value)) : List Value := R.flatMap fun r => pcells r.1 r.2
theorem pflat_len (R : List (Pk × Value)) : (pflat R).length = R.length * 9 := by
  induction R with
  | nil => rfl
  | cons o p ih => simp [pflat, pcells] at ih ⊢; omega
theorem pflat_cons (r : Pk × Value) (R : List (Pk × Value)) : pflat (r :: R) = pcells r.1 r.2 ++ pflat R := rfl
theorem pflat_append (R T : List (Pk × Value)) : pflat (R ++ T) = pflat R ++ pflat T := by simp [pflat]
theorem pflat_one (x : Pk) (d : Value) : pflat [(x, d)] = pcells x d := by simp [pflat]
theorem pflat_get {R : List (Pk × Value)} {i : Nat} {r : Pk × Value} (h : R[i]? = some r) (j : Nat) (hj : j < 9) : (pflat R)[i * 9 + j]? = (pcells r.1 r.2)[j]? := by
  induction R generalizing i with
  | nil => simp at h
  | cons x R ih =>
    rw [pflat_cons]
    cases i with
    | zero => simp at h; subst h; rw [Nat.zero_mul, Nat.zero_add, List.getElem?_append_left (by rw [pcells_len]; exact hj)]
    | succ i =>
      have h' : R[i]? = some r := by simpa using h
      rw [List.getElem?_append_right (by rw [pcells_len]; omega), pcells_len, ← ih h']
      congr 1
      omega
theorem pcells_one {x : Pk} {d : Value} (hd : d.oneCell' = true) : ∀ u ∈ pcells x d, u.oneCell' = true := by
  intro u hu
  simp [pcells] at hu
  rcases hu with h | h | h | h | h | h | h | h | h <;> subst h <;> first | rfl | exact hd
/-- The nine cells of element i of a row that lies from o on. -/
theorem pk_at {w : World} {b o i : Nat} {R : List (Pk × Value)} {x : Pk} {d : Value} (hc : ∀ i u, (pflat R)[i]? = some u → w.cell? ⟨b, o + i, none⟩ = some u) (h : R[i]? = some (x, d)) :
    w.cell? ⟨b, o + i * 9, none⟩ = some (.int .i64 x.k) ∧ w.cell? ⟨b, o + i * 9 + 1, none⟩ = some (.int .i64 x.f) ∧ w.cell? ⟨b, o + i * 9 + 2, none⟩ = some (.int .i64 x.t) ∧ w.cell? ⟨b, o + i * 9 + 3, none⟩ = some (.int .i64 x.i) ∧
    w.cell? ⟨b, o + i * 9 + 4, none⟩ = some (.int .i64 x.l) ∧ w.cell? ⟨b, o + i * 9 + 5, none⟩ = some (.int .i64 x.p) ∧ w.cell? ⟨b, o + i * 9 + 6, none⟩ = some (.int .i64 x.s) ∧ w.cell? ⟨b, o + i * 9 + 7, none⟩ = some (.bool x.fl) ∧ w.cell? ⟨b, o + i * 9 + 8, none⟩ = some d := by
  have g : ∀ j u, j < 9 → (pcells x d)[j]? = some u → w.cell? ⟨b, o + i * 9 + j, none⟩ = some u := fun j u hj hu => by rw [Nat.add_assoc]; exact hc _ u (by rw [pflat_get h j hj]; exact hu)
  exact ⟨g 0 _ (by omega) rfl, g 1 _ (by omega) rfl, g 2 _ (by omega) rfl, g 3 _ (by omega) rfl, g 4 _ (by omega) rfl, g 5 _ (by omega) rfl, g 6 _ (by omega) rfl, g 7 _ (by omega) rfl, g 8 _ (by omega) rfl⟩
/-- A packet's words, in a block of D if there are any. -/
def Dat (w : World) (D : Nat → Prop) (x : Pk) (d : Value) : Prop := ∃ a n c, d = .slice a n c ∧ Sl w a n c x.z ∧ n ≤ 17592186044416 ∧ (x.z ≠ [] → ∀ y : Addr, a = some y → D y.block)
theorem Dat.keep {w w' : World} {D F : Nat → Prop} {x : Pk} {d : Value} (h : Dat w D x d) (hk : Keep F w w') (hF : ∀ k, D k → ¬ F k) : Dat w' D x d := by
  obtain ⟨a, n, c, e, hs, hn, hd⟩ := h
  exact ⟨a, n, c, e, hs.keep hk (fun hz y hy => hF _ (hd hz y hy)), hn, hd⟩
theorem Dat.below {w w' : World} {D : Nat → Prop} {x : Pk} {d : Value} (h : Dat w D x d) (hb : Below w.heap.size w w') : Dat w' D x d := h.keep (F := fun _ => False) (Keep.of_below hb) (fun _ _ h => h)
theorem Dat.imp {w : World} {D E : Nat → Prop} {x : Pk} {d : Value} (h : Dat w D x d) (hD : ∀ k, k < w.heap.size → D k → E k) : Dat w E x d := by
  obtain ⟨a, n, c, e, hs, hn, hd⟩ := h
  refine ⟨a, n, c, e, hs, hn, fun hz y hy => hD _ ?_ (hd hz y hy)⟩
  rcases hs.row with h0 | ⟨b, o, rfl, hc⟩
  · exact absurd h0 hz
  · obtain rfl := Option.some.inj hy
    have h1 := hc 0 (by cases hh : x.z with | nil => exact absurd hh hz | cons => simp)
    exact World.block_lt_of_cell? w _ h1
theorem Dat.one {w : World} {D : Nat → Prop} {x : Pk} {d : Value} (h : Dat w D x d) : d.oneCell' = true := by
  obtain ⟨a, n, c, rfl, _⟩ := h
  rfl
theorem dat_own {w : World} {base : Nat} {v : Value} {x : Pk} (h : Own w base v x.z) (hn : x.z.length ≤ 17592186044416) : Dat w (fun k => base ≤ k) x v := by
  obtain ⟨a, c, rfl, hs⟩ := h.sl
  exact ⟨a, _, c, rfl, hs, hn, fun _ y hy => (h.lo y hy).1⟩
theorem dat_nil (w : World) (D : Nat → Prop) {x : Pk} (h : x.z = []) : Dat w D x (.slice none 0 0) := ⟨none, 0, 0, rfl, by rw [h]; exact sl_nil w, by omega, fun hz => absurd h hz⟩
/-- A packet's words, if there are any, may be written. -/
def Soft (w : World) (x : Pk) (d : Value) : Prop := x.z ≠ [] → ∀ a n c, d = .slice (some a) n c → ∀ o, w.frozen? ⟨a.block, o, none⟩ = false
theorem Soft.keep {w w' : World} {D F : Nat → Prop} {x : Pk} {d : Value} (h : Soft w x d) (hd : Dat w D x d) (hk : Keep F w w') (hF : ∀ k, D k → ¬ F k) : Soft w' x d := by
  intro hz a n c e o
  obtain ⟨a1, n1, c1, e1, hs, _, hD⟩ := hd
  rw [e1] at e
  injection e with e2 e3 e4
  subst e2
  have hlt : a.block < w.heap.size := by
    rcases hs.row with h0 | ⟨b, of, e5, hc⟩
    · exact absurd h0 hz
    · obtain rfl := Option.some.inj e5
      exact World.block_lt_of_cell? w _ (hc 0 (by cases hh : x.z with | nil => exact absurd hh hz | cons => simp))
  rw [hk.frozen o hlt (hF _ (hD hz a rfl))]
  exact h hz a n1 c1 e1 o
theorem soft_own {w : World} {base : Nat} {v : Value} {x : Pk} (h : Own w base v x.z) : Soft w x v := by
  intro _ a n c e o
  rcases h.2 with ⟨e', _⟩ | ⟨b, cap', cur, e', hb, hg, r⟩
  · rw [e] at e'; cases e'
  · rw [e] at e'
    injection e' with e1 e2 e3
    obtain rfl := Option.some.inj e1
    simp [World.frozen?, hg]
theorem Own.base {w : World} {base : Nat} {v : Value} {l : List Int} (h : Own w base v l) : ∀ k, v.ownBlock = some k → base ≤ k ∧ k < w.heap.size := by
  intro k hk
  rcases h.2 with ⟨rfl, _⟩ | ⟨g, c, cur, rfl, hb, hg, _⟩
  · simp [Value.ownBlock] at hk
  · simp [Value.ownBlock] at hk
    subst hk
    exact ⟨hb, (Array.getElem?_eq_some_iff.1 hg).1⟩
theorem cell_i1 (w : World) (x : Int) : ∀ j u, (cells [x])[j]? = some u → (w.alloc (.cells #[.int .i64 x] 3)).cell? ((⟨w.heap.size, 0, none⟩ : Addr).add j) = some u := by
  intro j u hu
  obtain ⟨hj, rfl⟩ := cells_get hu
  rw [Addr.add_lit, Nat.zero_add, cell_of_row _ _ _ _ 3 (0, 0) (heap_alloc_new w _)]
  simp at hj
  match j, hj with
  | 0, _ => rfl
theorem Own.keep {w w' : World} {F : Nat → Prop} {base : Nat} {v : Value} {l : List Int} (h : Own w base v l) (hk : Keep F w w') (hF : ∀ k, v.ownBlock = some k → ¬ F k) : Own w' base v l := by
  refine ⟨h.1, h.2.imp id ?_⟩
  rintro ⟨g, cap, cur, rfl, hg, hh, rest⟩
  exact ⟨g, cap, cur, rfl, hg, by rw [hk.block g (Array.getElem?_eq_some_iff.1 hh).1 (hF g rfl)]; exact hh, rest⟩
theorem Bx.keep {W W' : World} {F : Nat → Prop} {g : Nat} {x : Pk} {d : Value} (h : Bx W g x d) (hk : Keep F W W') (hF : ¬ F g) : Bx W' g x d :=
  have e := fun o => hk.cell (b := g) o h.lt hF
  ⟨(e 0).trans h.c0, (e 1).trans h.c1, (e 2).trans h.c2, (e 3).trans h.c3, (e 4).trans h.c4, (e 5).trans h.c5, (e 6).trans h.c6, (e 7).trans h.c7, (e 8).trans h.c8, fun o => (hk.frozen (b := g) o h.lt hF).trans (h.fz o), Nat.lt_of_lt_of_le h.lt hk.size⟩
/-- Writing into a list of its own. -/
theorem Own.poke {w : World} {base n c k : Nat} {a : Option Addr} {l : List Int} (h : Own w base (.slice a n c) l) (hn : l.length = n) (hk : k < n) : ∃ b y, a = some ⟨b, 0, none⟩ ∧ base ≤ b ∧ b < w.heap.size ∧ w.cell? ⟨b, k, none⟩ = some (.int .i64 y) ∧ w.frozen? ⟨b, k, none⟩ = false ∧
    ∀ v, Own (w.setCell ⟨b, k, none⟩ (.int .i64 v)) base (.slice a n c) (l.set k v) := by
  subst hn
  obtain ⟨a', c', e, hs⟩ := h.sl
  injection e with e1 e2 e3
  subst e1 e3
  rcases h.2 with ⟨e', h1⟩ | ⟨b, cap', cur, e', hb, hg, r⟩
  · omega
  · injection e' with e1 e2 e3
    subst e1 e3
    obtain ⟨b', o', e4, hlt, hc⟩ := hs.at hk
    simp at e4
    obtain ⟨rfl, rfl⟩ := e4
    rw [Nat.zero_add] at hc
    refine ⟨b, _, rfl, hb, hlt, hc, by simp [World.frozen?, hg], fun v => ?_⟩
    have := (World.ownsRow.stored h k (.int .i64 v)).1
    have e : (cells l).set k (.int .i64 v) = cells (l.set k v) := by simp [cells, List.map_set]
    rw [e] at this
    unfold Own
    rw [List.length_set]
    exact this
theorem Try.infoPk : (Try.prog.info? 32).map (fun i => (i.zero, i.size, i.bytes)) = some (some (zeroPk.val (.slice none 0 0)), 9, 88) := by kernel_rfl
end Go.Proofs.Ytgeiagndpfdnlaa
end
section
namespace Go.Proofs.Ytgeiagndpfdnlaa
open Go.RowKit
set_option linter.unusedVariables false
set_option maxRecDepth 20000

/-- A line in a cache: who is behind it, who is ahead, its number, when it was used, its state, its words. -/
structure En where
  f : Int
  b : Int
  n : Int
  u : Int
  q : Bool
  z : List Int
/-- The entry as a value, its words where d says. -/
@[reducible] def En.val (x : En) (d : Value) : Value := .agg #[.int .i64 x.f, .int .i64 x.b, .int .i64 x.n, .int .i64 x.u, .bool x.q, d]
/-- An entry in memory, in a block that may be written. -/
structure Eb (W : World) (g o : Nat) (x : En) (d : Value) : Prop where
  c0 : W.cell? ⟨g, o, none⟩ = some (.int .i64 x.f)
  c1 : W.cell? ⟨g, o + 1, none⟩ = some (.int .i64 x.b)
  c2 : W.cell? ⟨g, o + 2, none⟩ = some (.int .i64 x.n)
  c3 : W.cell? ⟨g, o + 3, none⟩ = some (.int .i64 x.u)
  c4 : W.cell? ⟨g, o + 4, none⟩ = some (.bool x.q)
  c5 : W.cell? ⟨g, o + 5, none⟩ = some d
  fz : ∀ k, k < 6 → W.frozen? ⟨g, o + k, none⟩ = false
  lt : g < W.heap.size
theorem Eb.keep {F : Nat → Prop} {W W' : World} {g o : Nat} {x : En} {d : Value} (h : Eb W g o x d) (hk : Keep F W W') (hF : ¬ F g) : Eb W' g o x d :=
  have e := fun o => hk.cell (b := g) o h.lt hF
  ⟨(e _).trans h.c0, (e _).trans h.c1, (e _).trans h.c2, (e _).trans h.c3, (e _).trans h.c4, (e _).trans h.c5, fun k hk' => (hk.frozen (b := g) _ h.lt hF).trans (h.fz k hk'), Nat.lt_of_lt_of_le h.lt hk.size⟩
theorem Eb.next {W W' : World} {g o : Nat} {x : En} {d : Value} (h : Eb W g o x d) (hb : Below W.heap.size W W') : Eb W' g o x d := h.keep (F := fun _ => False) (Keep.of_below hb) (fun h => h)
theorem Eb.below {W W' : World} {g o base : Nat} {x : En} {d : Value} (h : Eb W g o x d) (hb : Below base W W') (hg : g < base) : Eb W' g o x d :=
  h.keep (F := fun k => base ≤ k) ⟨hb.os, hb.tape, hb.output, hb.size, fun k _ hF => hb.block k (by omega)⟩ (by omega)
theorem Eb.far {W : World} {g o : Nat} {x : En} {d u : Value} {p : Addr} (h : Eb W g o x d) (hp : g ≠ p.block) : Eb (W.setCell p u) g o x d :=
  h.keep (F := fun k => k = p.block) ((Keep.refl (fun k => k = p.block) W).setCell (p := p) (.inl rfl) u) hp
section
variable {W : World} {g o : Nat} {x : En} {d : Value}
theorem Eb.setF (h : Eb W g o x d) (v : Int) : Eb (W.setCell ⟨g, o, none⟩ (.int .i64 v)) g o { x with f := v } d := by
  obtain ⟨c0, c1, c2, c3, c4, c5, fz, lt⟩ := h
  constructor <;> (try intro k hk) <;> go_simp
theorem Eb.setB (h : Eb W g o x d) (v : Int) : Eb (W.setCell ⟨g, o + 1, none⟩ (.int .i64 v)) g o { x with b := v } d := by
  obtain ⟨c0, c1, c2, c3, c4, c5, fz, lt⟩ := h
  constructor <;> (try intro k hk) <;> go_simp
theorem Eb.setN (h : Eb W g o x d) (v : Int) : Eb (W.setCell ⟨g, o + 2, none⟩ (.int .i64 v)) g o { x with n := v } d := by
  obtain ⟨c0, c1, c2, c3, c4, c5, fz, lt⟩ := h
  constructor <;> (try intro k hk) <;> go_simp
theorem Eb.setU (h : Eb W g o x d) (v : Int) : Eb (W.setCell ⟨g, o + 3, none⟩ (.int .i64 v)) g o { x with u := v } d := by
  obtain ⟨c0, c1, c2, c3, c4, c5, fz, lt⟩ := h
  constructor <;> (try intro k hk) <;> go_simp
theorem Eb.setQ (h : Eb W g o x d) (v : Bool) : Eb (W.setCell ⟨g, o + 4, none⟩ (.bool v)) g o { x with q := v } d := by
  obtain ⟨c0, c1, c2, c3, c4, c5, fz, lt⟩ := h
  constructor <;> (try intro k hk) <;> go_simp
theorem Eb.setZ (h : Eb W g o x d) (z : List Int) (v : Value) : Eb (W.setCell ⟨g, o + 5, none⟩ v) g o { x with z := z } v := by
  obtain ⟨c0, c1, c2, c3, c4, c5, fz, lt⟩ := h
  constructor <;> (try intro k hk) <;> go_simp
end
def zeroEn : En := ⟨0, 0, 0, 0, false, []⟩
/-- All six are written. -/
theorem Eb.six {F : Nat → Prop} {W V : World} {g o : Nat} {x : En} {d : Value} (hF : F g ∨ W.heap.size ≤ g) (h : Keep F W V) :
    Keep F W ((((((V.setCell ⟨g, o, none⟩ (.int .i64 x.f)).setCell ⟨g, o + 1, none⟩ (.int .i64 x.b)).setCell ⟨g, o + 2, none⟩ (.int .i64 x.n)).setCell ⟨g, o + 3, none⟩ (.int .i64 x.u)).setCell ⟨g, o + 4, none⟩ (.bool x.q)).setCell ⟨g, o + 5, none⟩ d) := by
  have k : ∀ (V : World) (o : Nat) (u : Value), Keep F W V → Keep F W (V.setCell ⟨g, o, none⟩ u) := fun V o u h => h.setCell (p := ⟨g, o, none⟩) hF u
  exact k _ _ _ (k _ _ _ (k _ _ _ (k _ _ _ (k _ _ _ (k _ _ _ h)))))
theorem Eb.put {W : World} {g o : Nat} {x : En} {d : Value} (h : Eb W g o x d) (y : En) (v : Value) :
    Eb ((((((W.setCell ⟨g, o, none⟩ (.int .i64 y.f)).setCell ⟨g, o + 1, none⟩ (.int .i64 y.b)).setCell ⟨g, o + 2, none⟩ (.int .i64 y.n)).setCell ⟨g, o + 3, none⟩ (.int .i64 y.u)).setCell ⟨g, o + 4, none⟩ (.bool y.q)).setCell ⟨g, o + 5, none⟩ v) g o y v := by
  obtain ⟨c0, c1, c2, c3, c4, c5, fz, lt⟩ := h
  constructor <;> (try intro k hk) <;> go_simp
/-- What a fresh variable's cells are, written out. -/
theorem Eb.lit {W : World} {g : Nat} {x : En} {d : Value} (h : Eb W g 0 x d) : W.cell? ⟨g, 0, none⟩ = some (.int .i64 x.f) ∧ W.cell? ⟨g, 1, none⟩ = some (.int .i64 x.b) ∧ W.cell? ⟨g, 2, none⟩ = some (.int .i64 x.n) ∧ W.cell? ⟨g, 3, none⟩ = some (.int .i64 x.u) ∧ W.cell? ⟨g, 4, none⟩ = some (.bool x.q) ∧ W.cell? ⟨g, 5, none⟩ = some d :=
  ⟨h.c0, by simpa using h.c1, by simpa using h.c2, by simpa using h.c3, by simpa using h.c4, by simpa using h.c5⟩
theorem Eb.lit' {W : World} {g : Nat} {x : En} {d : Value} (h : Eb W g 0 x d) : W.frozen? ⟨g, 0, none⟩ = false ∧ W.frozen? ⟨g, 1, none⟩ = false ∧ W.frozen? ⟨g, 2, none⟩ = false ∧ W.frozen? ⟨g, 3, none⟩ = false ∧ W.frozen? ⟨g, 4, none⟩ = false ∧ W.frozen? ⟨g, 5, none⟩ = false :=
  ⟨by simpa using h.fz 0 (by omega), by simpa using h.fz 1 (by omega), by simpa using h.fz 2 (by omega), by simpa using h.fz 3 (by omega), by simpa using h.fz 4 (by omega), by simpa using h.fz 5 (by omega)⟩
end Go.Proofs.Ytgeiagndpfdnlaa
end
section
namespace Go.Proofs.Ytgeiagndpfdnlaa
open Go.RowKit
set_option linter.unusedVariables false
set_option maxRecDepth 20000

/-- Five blocks, no two the same, all new. -/
structure Five (lo ga gb bd ba bb : Nat) : Prop where
  n1 : ga ≠ gb
  n2 : ga ≠ bd
  n3 : ga ≠ ba
  n4 : ga ≠ bb
  n5 : gb ≠ bd
  n6 : gb ≠ ba
  n7 : gb ≠ bb
  n8 : bd ≠ ba
  n9 : bd ≠ bb
  n10 : ba ≠ bb
  l1 : lo ≤ ga
  l2 : lo ≤ gb
  l3 : lo ≤ bd
  l4 : lo ≤ ba
  l5 : lo ≤ bb
structure EC (w wx : World) (ga gb bd ba bb : Nat) (x y : En) (cd ca cb M : Nat) (z : List Int) : Prop where
  lx : x.z.length = M
  ly : y.z.length = M
  lz : z.length = M
  d : Own wx w.heap.size (.slice (some ⟨bd, 0, none⟩) M cd) z
  pa : Own wx w.heap.size (.slice (some ⟨ba, 0, none⟩) M ca) x.z
  pb : Own wx w.heap.size (.slice (some ⟨bb, 0, none⟩) M cb) y.z
  xa : Eb wx ga 0 x (.slice (some ⟨ba, 0, none⟩) M ca)
  xb : Eb wx gb 0 y (.slice (some ⟨bb, 0, none⟩) M cb)
  five : Five w.heap.size ga gb bd ba bb
  bel : Below w.heap.size w wx
theorem Own.far1 {w : World} {base b k : Nat} {g n c : Nat} {l : List Int} {v : Value} (h : Own w base (.slice (some ⟨g, 0, none⟩) n c) l) (hg : g ≠ b) : Own (w.setCell ⟨b, k, none⟩ v) base (.slice (some ⟨g, 0, none⟩) n c) l :=
  h.keep (Keep.one w b k v) (fun j hj => by simp [Value.ownBlock] at hj; omega)
theorem Own.set1 {w : World} {base b n c k : Nat} {l : List Int} (h : Own w base (.slice (some ⟨b, 0, none⟩) n c) l) (hn : l.length = n) (hk : k < n) (v : Int) : Own (w.setCell ⟨b, k, none⟩ (.int .i64 v)) base (.slice (some ⟨b, 0, none⟩) n c) (l.set k v) := by
  obtain ⟨b', y, e, _, _, _, _, p⟩ := h.poke hn hk
  simp at e
  subst e
  exact p v
theorem Own.cell1 {w : World} {base b n c k : Nat} {l : List Int} (h : Own w base (.slice (some ⟨b, 0, none⟩) n c) l) (hn : l.length = n) (hk : k < n) : (∃ y, w.cell? ⟨b, k, none⟩ = some (.int .i64 y)) ∧ w.frozen? ⟨b, k, none⟩ = false := by
  obtain ⟨b', y, e, _, _, hc, hf, _⟩ := h.poke hn hk
  simp at e
  subst e
  exact ⟨⟨y, hc⟩, hf⟩
theorem Own.slice1 {w : World} {base n c : Nat} {a : Option Addr} {l : List Int} (h : Own w base (.slice a n c) l) (hn : l.length = n) : Sl w a n c l := by
  obtain ⟨a', c', e, hs⟩ := h.sl' hn
  injection e with e1 _ e2
  subst e1 e2
  exact hs
theorem cell_1i (w : World) (x : Int) : ∀ j u, (cells [x])[j]? = some u → (w.alloc (.cells #[.int .i64 x] 3)).cell? ((⟨w.heap.size, 0, none⟩ : Addr).add j) = some u := by
  intro j u hu
  obtain ⟨hj, rfl⟩ := cells_get hu
  rw [Addr.add_lit, Nat.zero_add, cell_of_row _ _ _ _ 3 (0, 0) (heap_alloc_new w _)]
  simp at hj
  match j, hj with
  | 0, _ => rfl
theorem Own.row1 {w : World} {base n : Nat} {v : Value} {l : List Int} (h : Own w base v l) (hn : l.length = n) (h0 : 0 < n) : ∃ b cap, v = .slice (some ⟨b, 0, none⟩) n cap ∧ base ≤ b ∧ b < w.heap.size ∧ Sl w (some ⟨b, 0, none⟩) n cap l ∧ Own w base (.slice (some ⟨b, 0, none⟩) n cap) l := by
  obtain ⟨a, cap, rfl, hs⟩ := h.sl' hn
  obtain ⟨b, y, rfl, lo, lt, _⟩ := h.poke hn (k := 0) h0
  exact ⟨b, cap, rfl, lo, lt, hs, h⟩
section
variable {w wx wy : World} {ga gb bd ba bb : Nat} {x y : En} {cd ca cb M : Nat} {z : List Int}
theorem EC.below (h : EC w wx ga gb bd ba bb x y cd ca cb M z) (hb : Below wx.heap.size wx wy) : EC w wy ga gb bd ba bb x y cd ca cb M z :=
  ⟨h.lx, h.ly, h.lz, h.d.below hb, h.pa.below hb, h.pb.below hb, h.xa.next hb, h.xb.next hb, h.five, next h.bel hb⟩
theorem EC.wa (h : EC w wx ga gb bd ba bb x y cd ca cb M z) {k : Nat} (hk : k < M) (v : Int) : EC w (wx.setCell ⟨ba, k, none⟩ (.int .i64 v)) ga gb bd ba bb { x with z := x.z.set k v } y cd ca cb M z :=
  have f := h.five
  ⟨by simpa using h.lx, h.ly, h.lz, h.d.far1 f.n8, h.pa.set1 h.lx hk v, h.pb.far1 f.n10.symm, let t := h.xa.far (p := ⟨ba, k, none⟩) f.n3; ⟨t.c0, t.c1, t.c2, t.c3, t.c4, t.c5, t.fz, t.lt⟩, h.xb.far (p := ⟨ba, k, none⟩) f.n6, f, h.bel.setCell (p := ⟨ba, k, none⟩) f.l4 _⟩
theorem EC.wb (h : EC w wx ga gb bd ba bb x y cd ca cb M z) {k : Nat} (hk : k < M) (v : Int) : EC w (wx.setCell ⟨bb, k, none⟩ (.int .i64 v)) ga gb bd ba bb x { y with z := y.z.set k v } cd ca cb M z :=
  have f := h.five
  ⟨h.lx, by simpa using h.ly, h.lz, h.d.far1 f.n9, h.pa.far1 f.n10, h.pb.set1 h.ly hk v, h.xa.far (p := ⟨bb, k, none⟩) f.n4, let t := h.xb.far (p := ⟨bb, k, none⟩) f.n7; ⟨t.c0, t.c1, t.c2, t.c3, t.c4, t.c5, t.fz, t.lt⟩, f, h.bel.setCell (p := ⟨bb, k, none⟩) f.l5 _⟩
theorem EC.setA (h : EC w wx ga gb bd ba bb x y cd ca cb M z) (o : Nat) (u : Value) (x' : En) (hz : x'.z = x.z) (hx : Eb (wx.setCell ⟨ga, o, none⟩ u) ga 0 x' (.slice (some ⟨ba, 0, none⟩) M ca)) : EC w (wx.setCell ⟨ga, o, none⟩ u) ga gb bd ba bb x' y cd ca cb M z :=
  have f := h.five
  ⟨hz ▸ h.lx, h.ly, h.lz, h.d.far1 f.n2.symm, hz ▸ h.pa.far1 f.n3.symm, h.pb.far1 f.n4.symm, hx, h.xb.far (p := ⟨ga, o, none⟩) f.n1.symm, f, h.bel.setCell (p := ⟨ga, o, none⟩) f.l1 _⟩
theorem EC.setB (h : EC w wx ga gb bd ba bb x y cd ca cb M z) (o : Nat) (u : Value) (y' : En) (hz : y'.z = y.z) (hy : Eb (wx.setCell ⟨gb, o, none⟩ u) gb 0 y' (.slice (some ⟨bb, 0, none⟩) M cb)) : EC w (wx.setCell ⟨gb, o, none⟩ u) ga gb bd ba bb x y' cd ca cb M z :=
  have f := h.five
  ⟨h.lx, hz ▸ h.ly, h.lz, h.d.far1 f.n5.symm, h.pa.far1 f.n6.symm, hz ▸ h.pb.far1 f.n7.symm, h.xa.far (p := ⟨gb, o, none⟩) f.n1, hy, f, h.bel.setCell (p := ⟨gb, o, none⟩) f.l2 _⟩
theorem Own.keep1 {F : Nat → Prop} {w w' : World} {base g n c : Nat} {l : List Int} (h : Own w base (.slice (some ⟨g, 0, none⟩) n c) l) (hk : Keep F w w') (hF : ¬ F g) : Own w' base (.slice (some ⟨g, 0, none⟩) n c) l :=
  h.keep hk (fun j hj => by simp [Value.ownBlock] at hj; subst hj; exact hF)
theorem EC.keep {F : Nat → Prop} (h : EC w wx ga gb bd ba bb x y cd ca cb M z) (hk : Keep F wx wy) (hF : ¬ F ga ∧ ¬ F gb ∧ ¬ F bd ∧ ¬ F ba ∧ ¬ F bb) (hB : Below w.heap.size w wy) : EC w wy ga gb bd ba bb x y cd ca cb M z :=
  ⟨h.lx, h.ly, h.lz, h.d.keep1 hk hF.2.2.1, h.pa.keep1 hk hF.2.2.2.1, h.pb.keep1 hk hF.2.2.2.2, h.xa.keep hk hF.1, h.xb.keep hk hF.2.1, h.five, hB⟩
theorem Own.lt1 {w : World} {base g n c : Nat} {l : List Int} (h : Own w base (.slice (some ⟨g, 0, none⟩) n c) l) : g < w.heap.size := (h.lo _ rfl).2
theorem EC.lts (h : EC w wx ga gb bd ba bb x y cd ca cb M z) : ga < wx.heap.size ∧ gb < wx.heap.size ∧ bd < wx.heap.size ∧ ba < wx.heap.size ∧ bb < wx.heap.size :=
  ⟨h.xa.lt, h.xb.lt, h.d.lt1, h.pa.lt1, h.pb.lt1⟩
/-- A cell of another block is written. -/
theorem EC.far (h : EC w wx ga gb bd ba bb x y cd ca cb M z) {b k : Nat} {u : Value} (hb : ga < b ∧ gb < b ∧ bd < b ∧ ba < b ∧ bb < b) : EC w (wx.setCell ⟨b, k, none⟩ u) ga gb bd ba bb x y cd ca cb M z :=
  h.keep (Keep.one wx b k u) (by omega) (h.bel.setCell (p := ⟨b, k, none⟩) (by have := h.five.l1; show _ ≤ b; omega) u)
end
end Go.Proofs.Ytgeiagndpfdnlaa
end
section
namespace Go.Proofs.Ytgeiagndpfdnlaa
open Go.RowKit
set_option linter.unusedVariables false

/-- A row of structs, cell by cell. -/
def flat {α : Type} (c : α → List Value) (R : List α) : List Value := R.flatMap c
section
variable {α : Type} {c : α → List Value} {k : Nat}
theorem flat_nil : flat c [] = [] := rfl
theorem flat_cons (r : α) (R : List α) : flat c (r :: R) = c r ++ flat c R := rfl
theorem flat_append (R T : List α) : flat c (R ++ T) = flat c R ++ flat c T := by simp [flat]
theorem flat_one (r : α) : flat c [r] = c r := by simp [flat]
theorem flat_len (hc : ∀ x, (c x).length = k) (R : List α) : (flat c R).length = R.length * k := by
  induction R with
  | nil => simp [flat]
  | cons o p ih => rw [flat_cons, List.length_append, hc, ih, List.length_cons, Nat.add_mul]; omega
theorem flat_get (hc : ∀ x, (c x).length = k) {R : List α} {i : Nat} {r : α} (h : R[i]? = some r) (j : Nat) (hj : j < k) : (flat c R)[i * k + j]? = (c r)[j]? := by
  induction R generalizing i with
  | nil => simp at h
  | cons x R ih =>
    rw [flat_cons]
    cases i with
    | zero => simp at h; subst h; rw [Nat.zero_mul, Nat.zero_add, List.getElem?_append_left (by rw [hc]; exact hj)]
    | succ i =>
      have h' : R[i]? = some r := by simpa using h
      have e : (i + 1) * k = i * k + k := by rw [Nat.add_mul, Nat.one_mul]
      rw [List.getElem?_append_right (by rw [hc]; omega), hc, ← ih h']
      congr 1
      omega
theorem flat_take (hc : ∀ x, (c x).length = k) (R : List α) (i : Nat) : (flat c R).take (i * k) = flat c (R.take i) := by
  induction R generalizing i with
  | nil => simp [flat]
  | cons x R ih =>
    cases i with
    | zero => simp [flat]
    | succ i =>
      rw [List.take_succ_cons, flat_cons, flat_cons, ← ih i, List.take_append, hc, List.take_of_length_le (by rw [hc, Nat.add_mul, Nat.one_mul]; omega)]
      congr 2
      rw [Nat.add_mul, Nat.one_mul]; omega
theorem flat_drop (hc : ∀ x, (c x).length = k) (R : List α) (i : Nat) : (flat c R).drop (i * k) = flat c (R.drop i) := by
  induction R generalizing i with
  | nil => simp [flat]
  | cons x R ih =>
    cases i with
    | zero => simp
    | succ i =>
      rw [List.drop_succ_cons, flat_cons, ← ih i, List.drop_append, hc, List.drop_eq_nil_of_le (by rw [hc, Nat.add_mul, Nat.one_mul]; omega), List.nil_append]
      congr 1
      rw [Nat.add_mul, Nat.one_mul]; omega
theorem flat_onecell {R : List α} (h : ∀ r ∈ R, ∀ u ∈ c r, u.oneCell' = true) : ∀ u ∈ flat c R, u.oneCell' = true := by
  intro u hu
  obtain ⟨r, hr, hu'⟩ := List.mem_flatMap.1 hu
  exact h r hr u hu'
/-- One cell of one element is another one. -/
theorem flat_set (hc : ∀ x, (c x).length = k) {R : List α} {i j : Nat} {r r' : α} {u : Value} (h : R[i]? = some r) (hj : j < k) (hr : c r' = (c r).set j u) : (flat c R).set (i * k + j) u = flat c (R.set i r') := by
  induction R generalizing i with
  | nil => simp at h
  | cons x R ih =>
    cases i with
    | zero =>
      simp at h
      subst h
      rw [Nat.zero_mul, Nat.zero_add, List.set_cons_zero, flat_cons, flat_cons, hr, List.set_append_left _ _ (by rw [hc]; exact hj)]
    | succ i =>
      have h' : R[i]? = some r := by simpa using h
      have e : (i + 1) * k + j = k + (i * k + j) := by rw [Nat.add_mul, Nat.one_mul]; omega
      rw [List.set_cons_succ, flat_cons, flat_cons, ← ih h', e, List.set_append_right _ _ (by rw [hc]; omega), hc]
      congr 2
      omega
end
/-- One cell of a row is written. -/
theorem Rw.set {w : World} {S : Nat → Prop} {b o n cap es i : Nat} {vs : List Value} (h : Rw w S (some ⟨b, o, none⟩) n cap es vs) (hi : i < n * es) (u : Value) : Rw (w.setCell ⟨b, o + i, none⟩ u) S (some ⟨b, o, none⟩) n cap es (vs.set i u) := by
  refine ⟨by rw [List.length_set]; exact h.len, h.le, h.max, fun e => (by cases e), ?_⟩
  rcases h.row with h0 | ⟨b', o', e, hs, hb, hc, hf⟩
  · exact .inl h0
  · simp at e
    obtain ⟨rfl, rfl⟩ := e
    have hcap : i < cap * es := Nat.lt_of_lt_of_le hi (Nat.mul_le_mul_right _ h.le)
    refine .inr ⟨b, o, rfl, hs, by simpa using hb, fun j v hj => ?_, fun j hj => ?_⟩
    · rw [List.getElem?_set] at hj
      by_cases e : i = j
      · subst e
        rw [if_pos rfl] at hj
        split at hj
        · obtain rfl := Option.some.inj hj
          exact World.cell?_setCell_same' _ _ _ (hf i hcap).1
        · cases hj
      · rw [if_neg e] at hj
        rw [World.cell?_setCell_other _ _ _ _ (by simp <;> omega)]
        exact hc j v hj
    · rw [World.frozen?_setCell]
      refine ⟨?_, (hf j hj).2⟩
      by_cases e : i = j
      · subst e
        rw [World.cell?_setCell_same' _ _ _ (hf i hcap).1]
        rfl
      · rw [World.cell?_setCell_other _ _ _ _ (by simp <;> omega)]
        exact (hf j hj).1
end Go.Proofs.Ytgeiagndpfdnlaa
end
section
namespace Go.Proofs.Ytgeiagndpfdnlaa
open Go.RowKit
set_option linter.unusedVariables false

/-- The six cells of an entry. -/
def ecells (r : En × Value) : List Value := [.int .i64 r.1.f, .int .i64 r.1.b, .int .i64 r.1.n, .int .i64 r.1.u, .bool r.1.q, r.2]
theorem ecells_len (r : En × Value) : (ecells r).length = 6 := rfl
theorem ecells_one {r : En × Value} (hd : r.2.oneCell' = true) : ∀ u ∈ ecells r, u.oneCell' = true := by
  intro u hu
  simp [ecells] at hu
  rcases hu with h | h | h | h | h | h <;> subst h <;> first | rfl | exact hd
/-- Words, in a block of D if there are any. -/
def pz (z : List Int) : Pk := ⟨0, 0, 0, 0, 0, 0, 0, false, z⟩
@[reducible] def DatZ (w : World) (D : Nat → Prop) (z : List Int) (d : Value) : Prop := Dat w D (pz z) d
theorem datz_own {w : World} {base : Nat} {v : Value} {z : List Int} (h : Own w base v z) (hn : z.length ≤ 17592186044416) : DatZ w (fun k => base ≤ k) z v := dat_own (x := pz z) h hn
/-- A row of the entries L, in a block of M; their words lie in blocks of D. -/
structure ERow (w : World) (M D : Nat → Prop) (L : List En) (R : List (En × Value)) (a : Option Addr) (n cap : Nat) : Prop where
  eq : R.map Prod.fst = L
  len : L.length = n
  row : Rw w M a n cap 6 (flat ecells R)
  dat : ∀ r ∈ R, DatZ w D r.1.z r.2
  old : ∀ k, M k → k < w.heap.size
  dj : ∀ k, M k → ¬ D k
section
variable {w w' : World} {M D F : Nat → Prop} {L : List En} {R : List (En × Value)} {a : Option Addr} {n cap : Nat}
theorem ERow.rlen (h : ERow w M D L R a n cap) : R.length = n := by have := congrArg List.length h.eq; simp at this; rw [this, h.len]
theorem ERow.keep (h : ERow w M D L R a n cap) (hk : Keep F w w') (hF : ∀ k, M k ∨ D k → ¬ F k) : ERow w' M D L R a n cap :=
  ⟨h.eq, h.len, h.row.keep hk (fun k hm => hF k (.inl hm)), fun r hr => (h.dat r hr).keep hk (fun k hd => hF k (.inr hd)), fun k hm => Nat.lt_of_lt_of_le (h.old k hm) hk.size, h.dj⟩
theorem ERow.below (h : ERow w M D L R a n cap) (hb : Below w.heap.size w w') : ERow w' M D L R a n cap := h.keep (F := fun _ => False) (Keep.of_below hb) (fun _ _ h => h)
theorem erow_nil (w : World) (D : Nat → Prop) : ERow w (fun _ => False) D [] [] none 0 0 := ⟨rfl, rfl, rw_nil _ _ _, fun r hr => (by cases hr), fun k h => h.elim, fun k h => h.elim⟩
theorem ERow.onecell (h : ERow w M D L R a n cap) : ∀ u ∈ flat ecells R, u.oneCell' = true := flat_onecell (fun r hr => ecells_one (h.dat r hr).one)
/-- Element i, cell by cell. -/
theorem ERow.get (h : ERow w M D L R a n cap) {i : Nat} (hi : i < n) : ∃ x d b o, L[i]? = some x ∧ R[i]? = some (x, d) ∧ DatZ w D x.z d ∧ a = some ⟨b, o, none⟩ ∧ M b ∧ b < w.heap.size ∧
    (w.cell? ⟨b, o + i * 6, none⟩ = some (.int .i64 x.f) ∧ w.cell? ⟨b, o + i * 6 + 1, none⟩ = some (.int .i64 x.b) ∧ w.cell? ⟨b, o + i * 6 + 2, none⟩ = some (.int .i64 x.n) ∧ w.cell? ⟨b, o + i * 6 + 3, none⟩ = some (.int .i64 x.u) ∧
    w.cell? ⟨b, o + i * 6 + 4, none⟩ = some (.bool x.q) ∧ w.cell? ⟨b, o + i * 6 + 5, none⟩ = some d) ∧
    (∀ j, j < 6 → w.frozen? ⟨b, o + i * 6 + j, none⟩ = false) := by
  have hl := h.rlen
  obtain ⟨⟨x, d⟩, hR'⟩ : ∃ r, R[i]? = some r := ⟨R[i]'(by omega), List.getElem?_eq_getElem (by omega)⟩
  rcases h.row.row with h0 | ⟨b, o, rfl, hm, hb, hc, hf⟩
  · have := h.row.le; omega
  · have g : ∀ j u, j < 6 → (ecells (x, d))[j]? = some u → w.cell? ⟨b, o + i * 6 + j, none⟩ = some u := fun j u hj hu => by
      rw [Nat.add_assoc]; exact hc _ u (by rw [flat_get ecells_len hR' j hj]; exact hu)
    refine ⟨x, d, b, o, ?_, hR', h.dat (x, d) (List.mem_of_getElem? hR'), rfl, hm, hb, ⟨g 0 _ (by omega) rfl, g 1 _ (by omega) rfl, g 2 _ (by omega) rfl, g 3 _ (by omega) rfl, g 4 _ (by omega) rfl, g 5 _ (by omega) rfl⟩, fun j hj => ?_⟩
    · rw [← h.eq, List.getElem?_map, hR']; rfl
    · rw [Nat.add_assoc]
      have h1 := h.row.le
      have : (i + 1) * 6 ≤ cap * 6 := Nat.mul_le_mul_right _ (by omega)
      exact (hf (i * 6 + j) (by omega)).2
theorem map_set' {α β : Type} (f : α → β) (l : List α) (i : Nat) (x : α) : (l.set i x).map f = (l.map f).set i (f x) := by simp [List.map_set]
/-- The Used of one element is another one. -/
theorem ERow.setU {b o : Nat} (h : ERow w M D L R (some ⟨b, o, none⟩) n cap) {i : Nat} {x : En} {d : Value} (hi : i < n) (hr : R[i]? = some (x, d)) (u : Int) :
    ERow (w.setCell ⟨b, o + i * 6 + 3, none⟩ (.int .i64 u)) M D (L.set i { x with u := u }) (R.set i ({ x with u := u }, d)) (some ⟨b, o, none⟩) n cap := by
  obtain ⟨x', d', b', o', _, _, _, e, hm, hb, _⟩ := h.get hi
  simp at e
  obtain ⟨rfl, rfl⟩ := e
  have kk := Keep.one w b (o + (i * 6 + 3)) (.int .i64 u)
  have row := h.row.set (i := i * 6 + 3) (by omega) (.int .i64 u)
  rw [flat_set ecells_len hr (r' := ({ x with u := u }, d)) (by omega) rfl] at row
  rw [Nat.add_assoc]
  refine ⟨by rw [map_set', h.eq], by rw [List.length_set]; exact h.len, row, fun r hr' => ?_, fun k hk => by simpa using h.old k hk, h.dj⟩
  rcases List.mem_or_eq_of_mem_set hr' with hr' | rfl
  · exact (h.dat r hr').keep kk (fun k hd e => h.dj b hm (e ▸ hd))
  · exact (h.dat (x, d) (List.mem_of_getElem? hr)).keep kk (fun k hd e => h.dj b hm (e ▸ hd))
/-- One element is another one, its words elsewhere. -/
theorem ERow.put {b o : Nat} (h : ERow w M D L R (some ⟨b, o, none⟩) n cap) {i : Nat} (hi : i < n) {E : Nat → Prop} {y : En} {v : Value} (hd : DatZ w E y.z v) (hE : ∀ k, E k → ¬ M k) :
    ERow ((((((w.setCell ⟨b, o + i * 6, none⟩ (.int .i64 y.f)).setCell ⟨b, o + i * 6 + 1, none⟩ (.int .i64 y.b)).setCell ⟨b, o + i * 6 + 2, none⟩ (.int .i64 y.n)).setCell ⟨b, o + i * 6 + 3, none⟩ (.int .i64 y.u)).setCell ⟨b, o + i * 6 + 4, none⟩ (.bool y.q)).setCell ⟨b, o + i * 6 + 5, none⟩ v) M (fun k => D k ∨ E k) (L.set i y) (R.set i (y, v)) (some ⟨b, o, none⟩) n cap := by
  obtain ⟨x, d, b', o', _, hr, _, e, hm, hb, _⟩ := h.get hi
  simp at e
  obtain ⟨rfl, rfl⟩ := e
  have hl := h.rlen
  have k1 : ∀ (V : World) (o : Nat) (u : Value), Keep (fun k => k = b) w V → Keep (fun k => k = b) w (V.setCell ⟨b, o, none⟩ u) := fun V o u h => h.setCell (p := ⟨b, o, none⟩) (.inl rfl) u
  have kk := k1 _ (o + i * 6 + 5) v (k1 _ (o + i * 6 + 4) (.bool y.q) (k1 _ (o + i * 6 + 3) (.int .i64 y.u) (k1 _ (o + i * 6 + 2) (.int .i64 y.n) (k1 _ (o + i * 6 + 1) (.int .i64 y.b) (k1 _ (o + i * 6) (.int .i64 y.f) (Keep.refl _ w))))))
  have row := (((((h.row.set (i := i * 6 + 0) (by omega) (.int .i64 y.f)).set (i := i * 6 + 1) (by omega) (.int .i64 y.b)).set (i := i * 6 + 2) (by omega) (.int .i64 y.n)).set (i := i * 6 + 3) (by omega) (.int .i64 y.u)).set (i := i * 6 + 4) (by omega) (.bool y.q)).set (i := i * 6 + 5) (by omega) v
  have hi' : i < R.length := by omega
  have e0 := flat_set ecells_len (R := R) (i := i) (j := 0) (r' := ({ x with f := y.f }, d)) (u := .int .i64 y.f) hr (by omega) rfl
  have e1 := flat_set ecells_len (R := (R).set i ({ x with f := y.f }, d)) (i := i) (j := 1) (r' := ({ x with f := y.f, b := y.b }, d)) (u := .int .i64 y.b) (List.getElem?_set_self (a := (({ x with f := y.f }, d) : En × Value)) (by simpa using hi')) (by omega) rfl
  have e2 := flat_set ecells_len (R := ((R).set i ({ x with f := y.f }, d)).set i ({ x with f := y.f, b := y.b }, d)) (i := i) (j := 2) (r' := ({ x with f := y.f, b := y.b, n := y.n }, d)) (u := .int .i64 y.n) (List.getElem?_set_self (a := (({ x with f := y.f, b := y.b }, d) : En × Value)) (by simpa using hi')) (by omega) rfl
  have e3 := flat_set ecells_len (R := (((R).set i ({ x with f := y.f }, d)).set i ({ x with f := y.f, b := y.b }, d)).set i ({ x with f := y.f, b := y.b, n := y.n }, d)) (i := i) (j := 3) (r' := ({ x with f := y.f, b := y.b, n := y.n, u := y.u }, d)) (u := .int .i64 y.u) (List.getElem?_set_self (a := (({ x with f := y.f, b := y.b, n := y.n }, d) : En × Value)) (by simpa using hi')) (by omega) rfl
  have e4 := flat_set ecells_len (R := ((((R).set i ({ x with f := y.f }, d)).set i ({ x with f := y.f, b := y.b }, d)).set i ({ x with f := y.f, b := y.b, n := y.n }, d)).set i ({ x with f := y.f, b := y.b, n := y.n, u := y.u }, d)) (i := i) (j := 4) (r' := ({ x with f := y.f, b := y.b, n := y.n, u := y.u, q := y.q }, d)) (u := .bool y.q) (List.getElem?_set_self (a := (({ x with f := y.f, b := y.b, n := y.n, u := y.u }, d) : En × Value)) (by simpa using hi')) (by omega) rfl
  have e5 := flat_set ecells_len (R := (((((R).set i ({ x with f := y.f }, d)).set i ({ x with f := y.f, b := y.b }, d)).set i ({ x with f := y.f, b := y.b, n := y.n }, d)).set i ({ x with f := y.f, b := y.b, n := y.n, u := y.u }, d)).set i ({ x with f := y.f, b := y.b, n := y.n, u := y.u, q := y.q }, d)) (i := i) (j := 5) (r' := (y, v)) (u := v) (List.getElem?_set_self (a := (({ x with f := y.f, b := y.b, n := y.n, u := y.u, q := y.q }, d) : En × Value)) (by simpa using hi')) (by omega) rfl
  rw [e0, e1, e2, e3, e4, e5] at row
  simp only [List.set_set, Nat.add_zero, ← Nat.add_assoc] at row
  refine ⟨by rw [map_set', h.eq], by rw [List.length_set]; exact h.len, row, fun r hr' => ?_, fun k hk => by simpa using h.old k hk, ?_⟩
  · rcases List.mem_or_eq_of_mem_set hr' with hr' | rfl
    · exact ((h.dat r hr').keep kk (fun k hd e => h.dj b hm (e ▸ hd))).imp (fun k _ h => .inl h)
    · exact (hd.keep kk (fun k he e => hE b (e ▸ he) hm)).imp (fun k _ h => .inr h)
  · intro k hk hd
    rcases hd with hd | hd
    · exact h.dj k hk hd
    · exact hE k hd hk
end
end Go.Proofs.Ytgeiagndpfdnlaa
end
section
namespace Go.Proofs.Ytgeiagndpfdnlaa
open Go.RowKit Go.Maps
set_option linter.unusedVariables false

section
variable {α : Type} (key : α → Int)
def insK (r : α) : List α → List α
  | [] => [r]
  | q :: l => if key r < key q then r :: q :: l else q :: insK r l
/-- The list with r in the place of what had its key. -/
def putK (r : α) (l : List α) : List α := insK key r (l.filter (fun q => decide (key q ≠ key r)))
/-- The list without what has the key x. -/
def delK (x : Int) (l : List α) : List α := l.filter (fun q => decide (key q ≠ x))
def getK (x : Int) (l : List α) : Option α := l.find? (fun q => decide (key q = x))
/-- The keys rise. -/
def RiseK (l : List α) : Prop := l.Pairwise (fun a b => key a < key b)
variable {key}
theorem insK_perm (r : α) (l : List α) : (insK key r l).Perm (r :: l) := by
  induction l with
  | nil => exact List.Perm.refl _
  | cons q l ih =>
    unfold insK
    split
    · exact List.Perm.refl _
    · exact (List.Perm.cons q ih).trans (List.Perm.swap r q l)
theorem putK_perm (r : α) (l : List α) : (putK key r l).Perm (r :: delK key (key r) l) := insK_perm _ _
theorem mem_putK {r a : α} {l : List α} : a ∈ putK key r l ↔ a = r ∨ (a ∈ l ∧ key a ≠ key r) := by
  rw [(putK_perm r l).mem_iff]
  simp [delK]
theorem mem_delK {x : Int} {a : α} {l : List α} : a ∈ delK key x l ↔ a ∈ l ∧ key a ≠ x := by simp [delK]
theorem rise_ins {r : α} {l : List α} (h : RiseK key l) (hr : ∀ q ∈ l, key q ≠ key r) : RiseK key (insK key r l) := by
  induction l with
  | nil => exact List.pairwise_singleton _ _
  | cons q l ih =>
    have hl : RiseK key l := List.Pairwise.of_cons h
    have hq : ∀ u ∈ l, key q < key u := fun u hu => List.rel_of_pairwise_cons h hu
    unfold insK
    split
    · refine List.pairwise_cons.2 ⟨fun u hu => ?_, h⟩
      rcases List.mem_cons.1 hu with rfl | hu
      · assumption
      · have := hq u hu; omega
    · refine List.pairwise_cons.2 ⟨fun u hu => ?_, ih hl (fun u hu => hr u (List.mem_cons_of_mem _ hu))⟩
      rcases List.mem_cons.1 ((insK_perm r l).mem_iff.1 hu) with rfl | hu
      · have := hr q (List.mem_cons_self ..); omega
      · exact hq u hu
theorem rise_put {r : α} {l : List α} (h : RiseK key l) : RiseK key (putK key r l) := rise_ins (List.Pairwise.sublist List.filter_sublist h) (fun q hq => by simpa using (List.mem_filter.1 hq).2)
theorem rise_del {x : Int} {l : List α} (h : RiseK key l) : RiseK key (delK key x l) := List.Pairwise.sublist List.filter_sublist h
theorem delK_none {x : Int} {l : List α} (h : ∀ q ∈ l, key q ≠ x) : delK key x l = l := List.filter_eq_self.2 (fun q hq => decide_eq_true (h q hq))
theorem rise_ext {l m : List α} (hl : RiseK key l) (hm : RiseK key m) (h : ∀ a, a ∈ l ↔ a ∈ m) : l = m := by
  induction l generalizing m with
  | nil =>
    cases m with
    | nil => rfl
    | cons y m => exact absurd ((h y).2 (List.mem_cons_self ..)) List.not_mem_nil
  | cons x l ih =>
    cases m with
    | nil => exact absurd ((h x).1 (List.mem_cons_self ..)) List.not_mem_nil
    | cons y m =>
      have hx : ∀ u ∈ l, key x < key u := fun u hu => List.rel_of_pairwise_cons hl hu
      have hy : ∀ u ∈ m, key y < key u := fun u hu => List.rel_of_pairwise_cons hm hu
      have e : x = y := by
        rcases List.mem_cons.1 ((h x).1 (List.mem_cons_self ..)) with e | e
        · exact e
        · rcases List.mem_cons.1 ((h y).2 (List.mem_cons_self ..)) with e' | e'
          · exact e'.symm
          · have := hx y e'; have := hy x e; omega
      subst e
      congr 1
      refine ih (List.Pairwise.of_cons hl) (List.Pairwise.of_cons hm) (fun a => ⟨fun ha => ?_, fun ha => ?_⟩)
      · rcases List.mem_cons.1 ((h a).1 (List.mem_cons_of_mem _ ha)) with e | e
        · have := hx a ha; rw [e] at this; omega
        · exact e
      · rcases List.mem_cons.1 ((h a).2 (List.mem_cons_of_mem _ ha)) with e | e
        · have := hy a ha; rw [e] at this; omega
        · exact e
theorem rise_inj {l : List α} (h : RiseK key l) {a b : α} (ha : a ∈ l) (hb : b ∈ l) (e : key a = key b) : a = b := by
  induction l with
  | nil => cases ha
  | cons x l ih =>
    have hx : ∀ u ∈ l, key x < key u := fun u hu => List.rel_of_pairwise_cons h hu
    rcases List.mem_cons.1 ha with ea | ha <;> rcases List.mem_cons.1 hb with eb | hb
    · rw [ea, eb]
    · have := hx b hb; rw [ea] at e; omega
    · have := hx a ha; rw [eb] at e; omega
    · exact ih (List.Pairwise.of_cons h) ha hb
theorem getK_mem {l : List α} (h : RiseK key l) {a : α} (ha : a ∈ l) : getK key (key a) l = some a := by
  unfold getK
  cases e : l.find? (fun q => decide (key q = key a)) with
  | none =>
    rw [List.find?_eq_none] at e
    have := e a ha
    simp at this
  | some b =>
    have hb := List.mem_of_find?_eq_some e
    have hk := List.find?_some e
    rw [rise_inj h hb ha (of_decide_eq_true hk)]
theorem getK_some {l : List α} {x : Int} {a : α} (h : getK key x l = some a) : a ∈ l ∧ key a = x := ⟨List.mem_of_find?_eq_some h, of_decide_eq_true (List.find?_some (p := fun q => decide (key q = x)) h)⟩
theorem getK_none {l : List α} {x : Int} : getK key x l = none ↔ ∀ q ∈ l, key q ≠ x := by unfold getK; rw [List.find?_eq_none]; simp
theorem nodup_rise {l : List α} (h : RiseK key l) : l.Nodup := List.Pairwise.imp (fun h e => by rw [e] at h; omega) h
theorem delK_one {l : List α} (h : RiseK key l) {a : α} (ha : a ∈ l) : (a :: delK key (key a) l).Perm l := by
  induction l with
  | nil => cases ha
  | cons y l ih =>
    have hy : ∀ u ∈ l, key y < key u := fun u hu => List.rel_of_pairwise_cons h hu
    rcases List.mem_cons.1 ha with rfl | ha
    · have e : delK key (key a) (a :: l) = l := by
        unfold delK
        rw [List.filter_cons_of_neg (by simp)]
        exact delK_none (fun q hq => by have := hy q hq; omega)
      rw [e]
    · have e : delK key (key a) (y :: l) = y :: delK key (key a) l := by
        unfold delK
        rw [List.filter_cons_of_pos (by have := hy a ha; simp; omega)]
      rw [e]
      exact (List.Perm.swap y a _).trans (List.Perm.cons y (ih (List.Pairwise.of_cons h) ha))
end
/-- Values, as they are. -/
def asIs (v : Value) : Option (DataW Value × List MemPlace) := some (.held v, [])
def pairsD (l : List (Int × Value)) : List (Lit × DataW Value) := l.map fun p => (Lit.int .i64 p.1, .held p.2)
/-- Block b is a map from whole numbers, with just these pairs. -/
def IM (w : World) (b : Nat) (l : List (Int × Value)) : Prop := w.ownsMap Try.prog 3 asIs b l.length (.map (pairsD l))
def In64 (x : Int) : Prop := -9223372036854775808 ≤ x ∧ x ≤ 9223372036854775807
theorem In64.wf {x : Int} (h : In64 x) : (Lit.int .i64 x).wf = true := by
  unfold In64 at h
  simp [Lit.wf, IntKind.min, IntKind.max, IntKind.signed, IntKind.bits]
  omega
theorem keyI {x : Int} (h : In64 x) : keyOf Try.prog 3 (.int .i64 x) = some (.int .i64 x) := Maps.keyOf_int_mk Try.underlying3 h.wf
theorem keyedI : Keyed Try.prog 3 := Maps.int_keyed Try.underlying3
section
variable {w w' : World} {b n : Nat} {l : List (Int × Value)} {D : DataW Value}
theorem im_of (h : w.ownsMap Try.prog 3 asIs b n (.map (pairsD l))) : IM w b l := by
  obtain ⟨es, clock, hb, F, hs, hD⟩ := h
  refine ⟨es, clock, hb, F, ?_, hD⟩
  have e : pairsD l = (es.toList.map (WideElems.rg Try.prog 3 asIs)).foldr DataW.insert [] := by injection hD
  have := congrArg List.length e
  rw [length_read] at this
  simp [pairsD] at this
  omega
theorem im_made (w : World) : IM (w.alloc (.map #[] 0)) w.heap.size [] := World.ownsMap_made w _ _ _
theorem IM.lt (h : IM w b l) : b < w.heap.size := World.ownsMap.lt h
theorem IM.keep {F : Nat → Prop} (h : IM w b l) (hk : Keep F w w') (hF : ¬ F b) : IM w' b l := by
  have hlt := h.lt
  obtain ⟨es, clock, hb, F1, hs, hD⟩ := h
  exact ⟨es, clock, (hk.block b hlt hF).trans hb, F1, hs, hD⟩
theorem IM.below (h : IM w b l) (hb : Below w.heap.size w w') : IM w' b l := h.keep (F := fun _ => False) (Keep.of_below hb) id
theorem turned_keep (h : w.mapTurned w' b) : Keep (fun j => j = b) w w' := (Keep.grown h.grown).mono (fun k _ h => by simpa using h)
theorem turned_size (h : w.mapTurned w' b) : w'.heap.size = w.heap.size := by
  obtain ⟨es, c, es', c', _, rfl⟩ := h
  simp [ChangeMaps.setBlock]
theorem pairs_get (x : Int) (zd : DataW Value) (l : List (Int × Value)) : (DataW.map (pairsD l)).atKey (.int .i64 x) zd = match getK Prod.fst x l with | some p => .held p.2 | none => zd := by
  simp only [DataW.atKey]
  unfold getK pairsD
  rw [List.find?_map]
  have e : ((fun p : Lit × DataW Value => p.1.sameKey (.int .i64 x)) ∘ fun p : Int × Value => (Lit.int .i64 p.1, DataW.held p.2)) = (fun q : Int × Value => decide (q.1 = x)) := by
    funext q
    simp [Lit.sameKey]
  simp only [e]
  cases List.find? (fun q : Int × Value => decide (q.1 = x)) l <;> rfl
theorem pairs_has (x : Int) (l : List (Int × Value)) : Maps.has (DataW.map (pairsD l)) (.int .i64 x) = (getK Prod.fst x l).isSome := by
  show (pairsD l).any (fun p => p.1.sameKey (.int .i64 x)) = _
  unfold pairsD getK
  rw [List.any_map, Bool.eq_iff_iff, List.any_eq_true, List.find?_isSome]
  constructor
  · rintro ⟨q, hq, h⟩
    exact ⟨q, hq, by simpa [Lit.sameKey] using h⟩
  · rintro ⟨q, hq, h⟩
    exact ⟨q, hq, by simpa [Lit.sameKey] using h⟩
theorem pairs_filter (x : Int) (l : List (Int × Value)) : (pairsD l).filter (fun p => !p.1.sameKey (.int .i64 x)) = pairsD (delK Prod.fst x l) := by
  unfold pairsD delK
  rw [List.filter_map]
  congr 1
  apply List.filter_congr
  intro q _
  simp [Lit.sameKey]
theorem pairs_ins (x : Int) (v : Value) (l : List (Int × Value)) : DataW.insert (.int .i64 x, .held v) (pairsD l) = pairsD (insK Prod.fst (x, v) l) := by
  induction l with
  | nil => rfl
  | cons q l ih =>
    have e : pairsD (q :: l) = (Lit.int .i64 q.1, DataW.held q.2) :: pairsD l := rfl
    rw [e, DataW.insert.eq_2]
    unfold insK
    by_cases h : x < q.1
    · rw [if_pos (by simp [Lit.before, h]), if_pos h]; rfl
    · rw [if_neg (by simp [Lit.before, h]), if_neg h, ih]; rfl
theorem pairs_put (x : Int) (v : Value) (l : List (Int × Value)) : (DataW.map (pairsD l)).put (.int .i64 x) (.held v) = .map (pairsD (putK Prod.fst (x, v) l)) := by
  unfold DataW.put
  simp only [pairs_filter, pairs_ins]
  rfl
theorem pairs_del (x : Int) (l : List (Int × Value)) : (DataW.map (pairsD l)).del (.int .i64 x) = .map (pairsD (delK Prod.fst x l)) := by
  unfold DataW.del
  simp only [pairs_filter]
/-- What stands at x, or the zero value. -/
def atI (x : Int) (z : Value) (l : List (Int × Value)) : Value := match getK Prod.fst x l with | some p => p.2 | none => z
theorem IM.look_ok {t e : TypeId} (h : IM w b l) (ht : Try.prog.underlying t = some (.map 3 e)) {z : Value} (hz : (zeroValue e).run Try.prog w = .ok z w) {x : Int} (hx : In64 x) :
    (Instr.lookup t (.map (some b)) (.int .i64 x) true).run Try.prog w = .ok (.tuple #[atI x z l, .bool (getK Prod.fst x l).isSome]) w := by
  obtain ⟨v, ps, hrun, hv⟩ := World.ownsMap.look_ok h keyedI ht hz (zd := .held z) (zp := []) rfl (keyI hx)
  rw [pairs_get, pairs_has] at *
  unfold asIs at hv
  unfold atI
  cases hg : getK Prod.fst x l with
  | none => rw [hg] at hv hrun; simp at hv; rw [hrun, hv.1]
  | some p => rw [hg] at hv hrun; simp at hv; rw [hrun, hv.1]
theorem IM.look {t e : TypeId} (h : IM w b l) (ht : Try.prog.underlying t = some (.map 3 e)) {z : Value} (hz : (zeroValue e).run Try.prog w = .ok z w) {x : Int} (hx : In64 x) :
    (Instr.lookup t (.map (some b)) (.int .i64 x) false).run Try.prog w = .ok (atI x z l) w := by
  obtain ⟨v, ps, hrun, hv⟩ := World.ownsMap.lookup h keyedI ht hz (zd := .held z) (zp := []) rfl (keyI hx)
  rw [pairs_get] at hv
  unfold asIs at hv
  unfold atI
  cases hg : getK Prod.fst x l with
  | none => rw [hg] at hv; simp at hv; rw [hrun, hv.1]
  | some p => rw [hg] at hv; simp at hv; rw [hrun, hv.1]
theorem IM.len {t e : TypeId} (h : IM w b l) (ht : Try.prog.underlying t = some (.map 3 e)) (ty : TypeId) : (Builtin.len_ #[t] ty #[.map (some b)]).run Try.prog w = .ok (.int .i64 l.length) w := by
  have := World.ownsMap.len h ht ty
  simpa [Maps.size, pairsD] using this
theorem IM.store {t e : TypeId} (h : IM w b l) (ht : Try.prog.underlying t = some (.map 3 e)) (hn : l.length < maxLen) {x : Int} (hx : In64 x) (v : Value) :
    ∃ w', (Instr.mapUpdate t (.map (some b)) (.int .i64 x) v).run Try.prog w = .ok () w' ∧ IM w' b (putK Prod.fst (x, v) l) ∧ w.mapTurned w' b := by
  obtain ⟨w', hrun, ho, ht'⟩ := World.ownsMap.store h keyedI ht hn (keyI hx) (d := .held v) (ps := []) rfl
  rw [pairs_put] at ho
  exact ⟨w', hrun, im_of ho, ht'⟩
theorem IM.drop {t e : TypeId} (h : IM w b l) (ht : Try.prog.underlying t = some (.map 3 e)) {x : Int} (hx : In64 x) (ty : TypeId) :
    ∃ w', (Builtin.delete_ #[t, 3] ty #[.map (some b), .int .i64 x]).run Try.prog w = .ok (.tuple #[]) w' ∧ IM w' b (delK Prod.fst x l) ∧ w.mapTurned w' b := by
  obtain ⟨w', hrun, ho, ht'⟩ := World.ownsMap.drop h keyedI ht (keyI hx) ty
  rw [pairs_del] at ho
  exact ⟨w', hrun, im_of ho, ht'⟩
end
/-- Pairs of a list with a key. -/
def kv {α : Type} (key : α → Int) (val : α → Value) (l : List α) : List (Int × Value) := l.map fun a => (key a, val a)
section
variable {α : Type} {key : α → Int} {val : α → Value}
theorem kv_del (x : Int) (l : List α) : delK Prod.fst x (kv key val l) = kv key val (delK key x l) := by
  unfold delK kv
  rw [List.filter_map]
  rfl
theorem kv_ins (r : α) (l : List α) : insK Prod.fst (key r, val r) (kv key val l) = kv key val (insK key r l) := by
  induction l with
  | nil => rfl
  | cons q l ih =>
    have e : kv key val (q :: l) = (key q, val q) :: kv key val l := rfl
    rw [e]
    unfold insK
    by_cases h : key r < key q
    · rw [if_pos h, if_pos h]; rfl
    · rw [if_neg h, if_neg h, ih]; rfl
theorem kv_put (r : α) (l : List α) : putK Prod.fst (key r, val r) (kv key val l) = kv key val (putK key r l) := by
  have := kv_del (key := key) (val := val) (key r) l
  unfold putK
  unfold delK at this
  rw [this, kv_ins]
theorem kv_get (x : Int) (l : List α) : getK Prod.fst x (kv key val l) = (getK key x l).map (fun a => (key a, val a)) := by
  unfold getK kv
  rw [List.find?_map]
  rfl
theorem kv_len (l : List α) : (kv key val l).length = l.length := by simp [kv]
theorem kv_at (x : Int) (z : Value) (l : List α) : atI x z (kv key val l) = match getK key x l with | some a => val a | none => z := by
  unfold atI
  rw [kv_get]
  cases getK key x l <;> rfl
end
section
variable {α β : Type} {key : α → Int} {key' : β → Int} {f : α → β}
theorem map_delK (h : ∀ a, key' (f a) = key a) (x : Int) (l : List α) : (delK key x l).map f = delK key' x (l.map f) := by
  unfold delK
  rw [List.filter_map]
  congr 1
  apply List.filter_congr
  intro q _
  simp [h]
theorem map_insK (h : ∀ a, key' (f a) = key a) (r : α) (l : List α) : (insK key r l).map f = insK key' (f r) (l.map f) := by
  induction l with
  | nil => rfl
  | cons q l ih =>
    rw [List.map_cons]
    unfold insK
    rw [h, h]
    split
    · rfl
    · rw [List.map_cons, ih]
theorem map_putK (h : ∀ a, key' (f a) = key a) (r : α) (l : List α) : (putK key r l).map f = putK key' (f r) (l.map f) := by
  have e := map_delK h (key r) l
  unfold putK
  unfold delK at e
  rw [map_insK h, e, h]
theorem map_getK (h : ∀ a, key' (f a) = key a) (x : Int) (l : List α) : getK key' x (l.map f) = (getK key x l).map f := by
  unfold getK
  rw [List.find?_map]
  congr 2
  funext q
  simp [h]
theorem putK_delK (r : α) (l : List α) : putK key r (delK key (key r) l) = putK key r l := by
  unfold putK delK
  rw [List.filter_filter]
  simp
theorem putK_len (r : α) (l : List α) : (putK key r l).length ≤ l.length + 1 := by
  rw [(putK_perm r l).length_eq, List.length_cons]
  have := List.length_filter_le (fun q => decide (key q ≠ key r)) l
  unfold delK
  omega
theorem putK_len_at {l : List α} (hl : RiseK key l) {a r : α} (ha : a ∈ l) (he : key r = key a) : (putK key r l).length = l.length := by
  rw [(putK_perm r l).length_eq, List.length_cons, he, ← (delK_one hl ha).length_eq, List.length_cons]
theorem delK_len (x : Int) (l : List α) : (delK key x l).length ≤ l.length := List.length_filter_le _ _
end
/-- A list whose keys are all less: the new one stands last. -/
theorem putK_last {α : Type} {key : α → Int} {r : α} {l : List α} (h : ∀ q ∈ l, key q < key r) : putK key r l = l ++ [r] := by
  have e : l.filter (fun q => decide (key q ≠ key r)) = l := List.filter_eq_self.2 (fun q hq => decide_eq_true (by have := h q hq; omega))
  unfold putK
  rw [e]
  clear e
  induction l with
  | nil => rfl
  | cons q l ih =>
    have := h q (List.mem_cons_self ..)
    unfold insK
    rw [if_neg (by omega), ih (fun u hu => h u (List.mem_cons_of_mem _ hu))]
    rfl
/-- What is there is put there again: nothing else is. -/
theorem putK_same {α : Type} {key : α → Int} {l : List α} (h : RiseK key l) {a : α} (ha : a ∈ l) : putK key a l = l := by
  refine rise_ext (rise_put h) h (fun q => ?_)
  rw [mem_putK]
  constructor
  · rintro (rfl | ⟨hq, _⟩)
    · exact ha
    · exact hq
  · intro hq
    by_cases e : key q = key a
    · exact .inl (rise_inj h hq ha e)
    · exact .inr ⟨hq, e⟩
end Go.Proofs.Ytgeiagndpfdnlaa
end
section
namespace Go.Proofs.Ytgeiagndpfdnlaa
open Go.RowKit Go.Maps
set_option linter.unusedVariables false

/-- What a home knows of a line: its number, its state, its head, its words. -/
structure Hr where
  n : Int
  s : Int
  h : Int
  z : List Int
@[reducible] def Hr.val (x : Hr) (d : Value) : Value := .agg #[.int .i64 x.s, .int .i64 x.h, d]
@[reducible] def hOf (x : Hr) : Int := x.n
@[reducible] def hKey (r : Hr × Value) : Int := r.1.n
@[reducible] def hVal (r : Hr × Value) : Value := r.1.val r.2
def zeroHr : Hr := ⟨0, 0, 0, []⟩
structure MW (w : World) (g b : Nat) (D : Nat → Prop) (N K : Int) (R : List (Hr × Value)) : Prop where
  c0 : w.cell? ⟨g, 0, none⟩ = some (.int .i64 N)
  c1 : w.cell? ⟨g, 1, none⟩ = some (.int .i64 K)
  c2 : w.cell? ⟨g, 2, none⟩ = some (.map (some b))
  lt : g < w.heap.size
  ne : b ≠ g
  rows : IM w b (kv hKey hVal R)
  dat : ∀ r ∈ R, DatZ w D r.1.z r.2
  rise : RiseK hKey R
  len : R.length ≤ 1000
  old : ∀ j, D j → j < w.heap.size
  dj : ¬ D g ∧ ¬ D b
section
variable {w w' : World} {g b : Nat} {D F : Nat → Prop} {N K : Int} {R : List (Hr × Value)}
theorem MW.keep (h : MW w g b D N K R) (hk : Keep F w w') (hF : ¬ F g ∧ ¬ F b ∧ ∀ k, D k → ¬ F k) : MW w' g b D N K R :=
  have e := fun o => hk.cell (b := g) o h.lt hF.1
  ⟨(e _).trans h.c0, (e _).trans h.c1, (e _).trans h.c2, Nat.lt_of_lt_of_le h.lt hk.size, h.ne, h.rows.keep hk hF.2.1, fun r hr => (h.dat r hr).keep hk hF.2.2, h.rise, h.len, fun j hj => Nat.lt_of_lt_of_le (h.old j hj) hk.size, h.dj⟩
theorem MW.below (h : MW w g b D N K R) (hb : Below w.heap.size w w') : MW w' g b D N K R := h.keep (F := fun _ => False) (Keep.of_below hb) ⟨id, id, fun _ _ h => h⟩
/-- The row of a line, or nothing. -/
def rowAt (R : List (Hr × Value)) (n : Int) : Hr × Value := (getK hKey n R).getD (zeroHr, .slice none 0 0)
def hasR (R : List (Hr × Value)) (n : Int) : Bool := (getK hKey n R).isSome
theorem row_at (R : List (Hr × Value)) (n : Int) : atI n (zeroHr.val (.slice none 0 0)) (kv hKey hVal R) = hVal (rowAt R n) := by
  rw [kv_at]
  unfold rowAt
  cases getK hKey n R <;> rfl
theorem row_has (R : List (Hr × Value)) (n : Int) : (getK Prod.fst n (kv hKey hVal R)).isSome = hasR R n := by
  rw [kv_get]
  unfold hasR
  cases getK hKey n R <;> rfl
theorem MW.rowDat (h : MW w g b D N K R) (n : Int) : DatZ w D (rowAt R n).1.z (rowAt R n).2 := by
  unfold rowAt
  cases hg : getK hKey n R with
  | none => exact ⟨none, 0, 0, rfl, sl_nil w, by omega, fun hz => absurd rfl hz⟩
  | some r => exact h.dat r (getK_some hg).1
/-- One row more, or another one; its words lie in E. -/
theorem MW.store {E : Nat → Prop} {r : Hr × Value} (h : MW w g b D N K R) (hl : (putK hKey r R).length ≤ 1000) (hx : In64 r.1.n) (hd : DatZ w E r.1.z r.2) (hE : ∀ j, E j → j < w.heap.size ∧ j ≠ g ∧ j ≠ b) :
    ∃ w', (Instr.mapUpdate 99 (.map (some b)) (.int .i64 r.1.n) (hVal r)).run Try.prog w = .ok () w' ∧ MW w' g b (fun j => D j ∨ E j) N K (putK hKey r R) ∧ Keep (fun j => j = b) w w' ∧ w'.heap.size = w.heap.size := by
  obtain ⟨w', hrun, im, ht⟩ := h.rows.store Try.underlying99 (by rw [kv_len]; have := h.len; unfold maxLen; omega) hx (hVal r)
  have hk := turned_keep ht
  have e := fun o => hk.cell (b := g) o h.lt (Ne.symm h.ne)
  refine ⟨w', hrun, ⟨(e _).trans h.c0, (e _).trans h.c1, (e _).trans h.c2, Nat.lt_of_lt_of_le h.lt hk.size, h.ne, kv_put (key := hKey) (val := hVal) r R ▸ im, fun q hq => ?_, rise_put h.rise, hl, fun j hj => ?_, ?_⟩, hk, turned_size ht⟩
  · rcases mem_putK.1 hq with rfl | ⟨hq, _⟩
    · exact (hd.keep hk (fun j hj e => (hE j hj).2.2 e)).imp (fun j _ hj => .inr hj)
    · exact ((h.dat q hq).keep hk (fun j hj e => h.dj.2 (e ▸ hj))).imp (fun j _ hj => .inl hj)
  · rcases hj with hj | hj
    · exact Nat.lt_of_lt_of_le (h.old j hj) hk.size
    · exact Nat.lt_of_lt_of_le (hE j hj).1 hk.size
  · exact ⟨fun hj => hj.elim h.dj.1 (fun he => (hE _ he).2.1 rfl), fun hj => hj.elim h.dj.2 (fun he => (hE _ he).2.2 rfl)⟩
end
end Go.Proofs.Ytgeiagndpfdnlaa
end
section
namespace Go.Proofs.Ytgeiagndpfdnlaa
open Go.RowKit Go.Maps
set_option linter.unusedVariables false

def rowL (L : List Hr) (n : Int) : Hr := (getK hOf n L).getD zeroHr
def hasH (L : List Hr) (n : Int) : Bool := (getK hOf n L).isSome
structure MO (w wx : World) (g : Nat) (X : Nat → Prop) (N K : Int) (L : List Hr) : Prop where
  bel : Below w.heap.size w wx
  c : ∃ b D R, MW wx g b D N K R ∧ R.map Prod.fst = L ∧ NX w X g ∧ NX w X b ∧ ∀ j, D j → NX w X j
  xl : ∀ j, X j → j < wx.heap.size
  zl : ∀ x ∈ L, (x.z.length : Int) = K
  k1 : 1 ≤ K
section
variable {w wx wy : World} {g : Nat} {X Y F : Nat → Prop} {N K : Int} {L : List Hr}
theorem MO.below (h : MO w wx g X N K L) (hb : Below wx.heap.size wx wy) : MO w wy g X N K L := by
  obtain ⟨b, D, R, c, hc⟩ := h.c
  exact ⟨next h.bel hb, ⟨b, D, R, c.below hb, hc⟩, fun j hj => Nat.lt_of_lt_of_le (h.xl j hj) hb.size, h.zl, h.k1⟩
/-- Another X: what was there of it, and what is new. -/
theorem MO.grow (h : MO w wx g X N K L) (hb : Below wx.heap.size wx wy) (hY : ∀ j, Y j → (X j ∨ wx.heap.size ≤ j) ∧ j < wy.heap.size) : MO w wy g Y N K L := by
  obtain ⟨b, D, R, c, e, hg, hb', hD⟩ := h.c
  have n : ∀ j, j < wx.heap.size → NX w X j → NX w Y j := fun j hj hn => ⟨hn.1, fun hy => by
    rcases (hY j hy).1 with hx | hx
    · exact hn.2 hx
    · omega⟩
  exact ⟨next h.bel hb, ⟨b, D, R, c.below hb, e, n g c.lt hg, n b c.rows.lt hb', fun j hj => n j (c.old j hj) (hD j hj)⟩, fun j hj => (hY j hj).2, h.zl, h.k1⟩
/-- The test writes what is its own. -/
theorem MO.write (h : MO w wx g X N K L) (hk : Keep F wx wy) (hF : ∀ j, F j → w.heap.size ≤ j ∧ (X j ∨ wx.heap.size ≤ j)) : MO w wy g X N K L := by
  obtain ⟨b, D, R, c, e, hg, hb', hD⟩ := h.c
  have n : ∀ j, j < wx.heap.size → NX w X j → ¬ F j := fun j hj hn hf => by
    rcases (hF j hf).2 with hx | hx
    · exact hn.2 hx
    · omega
  exact ⟨h.bel.trans (hk.below (fun j hj => (hF j hj).1) h.bel.size), ⟨b, D, R, c.keep hk ⟨n g c.lt hg, n b c.rows.lt hb', fun j hj => n j (c.old j hj) (hD j hj)⟩, e, hg, hb', hD⟩, fun j hj => Nat.lt_of_lt_of_le (h.xl j hj) hk.size, h.zl, h.k1⟩
theorem MO.rise (h : MO w wx g X N K L) : RiseK hOf L := by
  obtain ⟨b, D, R, c, rfl, _⟩ := h.c
  have := c.rise
  unfold RiseK at *
  rw [List.pairwise_map]
  exact this
theorem MO.len (h : MO w wx g X N K L) : L.length ≤ 1000 := by
  obtain ⟨b, D, R, c, rfl, _⟩ := h.c
  rw [List.length_map]
  exact c.len
end
theorem rowL_eq (R : List (Hr × Value)) (n : Int) : (rowAt R n).1 = rowL (R.map Prod.fst) n := by
  unfold rowAt rowL
  rw [map_getK (key := hKey) (key' := hOf) (fun _ => rfl)]
  cases getK hKey n R <;> rfl
theorem hasH_eq (R : List (Hr × Value)) (n : Int) : hasR R n = hasH (R.map Prod.fst) n := by
  unfold hasR hasH
  rw [map_getK (key := hKey) (key' := hOf) (fun _ => rfl)]
  cases getK hKey n R <;> rfl
end Go.Proofs.Ytgeiagndpfdnlaa
end
section
namespace Go.Proofs.Ytgeiagndpfdnlaa
open Go.RowKit
set_option linter.unusedVariables false
set_option maxRecDepth 20000

/-- A configuration's variable in memory. -/
structure CB (w : World) (g : Nat) (N L K S Y O I : Nat) (t : Value) : Prop where
  c0 : w.cell? ⟨g, 0, none⟩ = some (.int .i64 (N : Int))
  c1 : w.cell? ⟨g, 1, none⟩ = some (.int .i64 (L : Int))
  c2 : w.cell? ⟨g, 2, none⟩ = some (.int .i64 (K : Int))
  c3 : w.cell? ⟨g, 3, none⟩ = some (.int .i64 (S : Int))
  c4 : w.cell? ⟨g, 4, none⟩ = some (.int .i64 (Y : Int))
  c5 : w.cell? ⟨g, 5, none⟩ = some (.int .i64 (O : Int))
  c6 : w.cell? ⟨g, 6, none⟩ = some (.int .i64 (I : Int))
  c7 : w.cell? ⟨g, 7, none⟩ = some t
  lt : g < w.heap.size
theorem CB.below {w w' : World} {g : Nat} {N L K S Y O I : Nat} {t : Value} (h : CB w g N L K S Y O I t) (hb : Below w.heap.size w w') : CB w' g N L K S Y O I t := by
  obtain ⟨hc, _⟩ := bcell hb
  exact ⟨by rw [hc _ _ h.lt]; exact h.c0, by rw [hc _ _ h.lt]; exact h.c1, by rw [hc _ _ h.lt]; exact h.c2, by rw [hc _ _ h.lt]; exact h.c3, by rw [hc _ _ h.lt]; exact h.c4, by rw [hc _ _ h.lt]; exact h.c5, by rw [hc _ _ h.lt]; exact h.c6, by rw [hc _ _ h.lt]; exact h.c7, Nat.lt_of_lt_of_le h.lt hb.size⟩
theorem CB.made (w : World) (N L K S Y O I : Nat) (t : Value) : CB (w.alloc (.cells #[.int .i64 (N : Int), .int .i64 (L : Int), .int .i64 (K : Int), .int .i64 (S : Int), .int .i64 (Y : Int), .int .i64 (O : Int), .int .i64 (I : Int), t] 26)) w.heap.size N L K S Y O I t := by
  constructor <;> simp

/-- The numbers of a setup's configuration. -/
structure IsCfg (n l k s y o i : Int) (z : List Int) (N L K S Y O I : Nat) (zi : List Int) : Prop where
  eN : nd n 4 = N
  eL : nd l 4 = L
  eK : nd k 2 = K
  eS : nd s 2 = S
  eY : nd y 2 = Y
  eO : nd o 3 = O
  eI : nd i 3 = I
  ez : z.take (L * K) = zi
structure CfgB (N L K S Y O I : Nat) : Prop where
  N0 : 1 ≤ N
  N1 : N ≤ 4
  L0 : 1 ≤ L
  L1 : L ≤ 4
  K0 : 1 ≤ K
  K1 : K ≤ 2
  S0 : 1 ≤ S
  S1 : S ≤ 2
  Y0 : 1 ≤ Y
  Y1 : Y ≤ 2
  O0 : 1 ≤ O
  O1 : O ≤ 3
  I0 : 1 ≤ I
  I1 : I ≤ 3
theorem IsCfg.bd {n l k s y o i : Int} {z : List Int} {N L K S Y O I : Nat} {zi : List Int} (h : IsCfg n l k s y o i z N L K S Y O I zi) : CfgB N L K S Y O I := by
  obtain ⟨rfl, rfl, rfl, rfl, rfl, rfl, rfl, _⟩ := h
  exact ⟨(nd_lo n 4).resolve_right (by decide), nd_hi n 4 (by decide), (nd_lo l 4).resolve_right (by decide), nd_hi l 4 (by decide), (nd_lo k 2).resolve_right (by decide), nd_hi k 2 (by decide), (nd_lo s 2).resolve_right (by decide), nd_hi s 2 (by decide), (nd_lo y 2).resolve_right (by decide), nd_hi y 2 (by decide), (nd_lo o 3).resolve_right (by decide), nd_hi o 3 (by decide), (nd_lo i 3).resolve_right (by decide), nd_hi i 3 (by decide)⟩
theorem IsCfg.len {n l k s y o i : Int} {z : List Int} {N L K S Y O I : Nat} {zi : List Int} (h : IsCfg n l k s y o i z N L K S Y O I zi) : zi.length ≤ L * K := by
  obtain ⟨rfl, rfl, rfl, rfl, rfl, rfl, rfl, rfl⟩ := h
  simp; omega
/-- One setup, one configuration. -/
theorem IsCfg.one {n l k s y o i : Int} {z : List Int} {N L K S Y O I N' L' K' S' Y' O' I' : Nat} {zi zi' : List Int} (h : IsCfg n l k s y o i z N L K S Y O I zi) (h' : IsCfg n l k s y o i z N' L' K' S' Y' O' I' zi') :
    N = N' ∧ L = L' ∧ K = K' ∧ S = S' ∧ Y = Y' ∧ O = O' ∧ I = I' ∧ zi = zi' := by
  obtain ⟨rfl, rfl, rfl, rfl, rfl, rfl, rfl, rfl⟩ := h
  obtain ⟨rfl, rfl, rfl, rfl, rfl, rfl, rfl, rfl⟩ := h'
  exact ⟨rfl, rfl, rfl, rfl, rfl, rfl, rfl, rfl⟩
theorem config_c (n l k s y o i : Int) (a : Option Addr) (len cap : Nat) (wh ki ad va : Value) (z : List Int) (w : World) (hsl : Sl w a len cap z) :
    Calls Try.prog 7 #[setup n l k s y o i (.slice a len cap) wh ki ad va] w fun e w' => ∃ (N L K S Y O I : Nat) (zi : List Int) (av : Option Addr) (nv cv : Nat),
      e = .returned (cfg N L K S Y O I (.slice av nv cv)) ∧ IsCfg n l k s y o i z N L K S Y O I zi ∧ Hid (zi.length = nv) ∧ Own w' w.heap.size (.slice av nv cv) zi ∧ Below w.heap.size w w' := by
  refine (config_any n l k s y o i a len cap wh ki ad va z w hsl).mono ?_
  rintro e w' ⟨v, rfl, hown, hb⟩
  obtain ⟨av, cv, rfl, _⟩ := hown.sl
  exact ⟨_, _, _, _, _, _, _, _, av, _, cv, rfl, ⟨rfl, rfl, rfl, rfl, rfl, rfl, rfl, rfl⟩, rfl, hown, hb⟩
theorem own_sl {w : World} {base n cap : Nat} {a : Option Addr} {l : List Int} (h : Own w base (.slice a n cap) l) : Sl w a n cap l := by
  obtain ⟨a', cap', e, hs⟩ := h.sl
  simp at e
  obtain ⟨rfl, rfl, rfl⟩ := e
  exact hs
theorem mul_bd {L K : Nat} (L0 : 1 ≤ L) (L1 : L ≤ 4) (K0 : 1 ≤ K) (K1 : K ≤ 2) : (1 : Int) ≤ (L : Int) * (K : Int) ∧ (L : Int) * (K : Int) ≤ 8 ∧ L * K ≤ 8 := by
  refine ⟨?_, ?_, ?_⟩
  · have := Int.mul_le_mul (show (1 : Int) ≤ (L : Int) by omega) (show (1 : Int) ≤ (K : Int) by omega) (by omega) (by omega); simpa using this
  · have := Int.mul_le_mul (show (L : Int) ≤ 4 by omega) (show (K : Int) ≤ 2 by omega) (by omega) (by omega); simpa using this
  · have := Nat.mul_le_mul (show L ≤ 4 by omega) (show K ≤ 2 by omega); simpa using this
end Go.Proofs.Ytgeiagndpfdnlaa
end
section
namespace Go.Proofs.Ytgeiagndpfdnlaa
open Go.RowKit
set_option linter.unusedVariables false
set_option maxRecDepth 20000

/-- The words of a line at first. -/
def wordsI (zi : List Int) (L K : Nat) (line : Int) : List Int := if 0 ≤ line ∧ line < L then (List.range K).map (fun i => zi[line.toNat * K + i]?.getD 0) else []
theorem wordsI_out {zi : List Int} {L K : Nat} {line : Int} (h : line < 0 ∨ (L : Int) ≤ line) : wordsI zi L K line = [] := if_neg (by omega)
theorem wordsI_in {zi : List Int} {L K j : Nat} (h : j < L) : wordsI zi L K (j : Int) = (List.range K).map (fun i => zi[j * K + i]?.getD 0) := by
  unfold wordsI; rw [if_pos (by omega)]; rfl
theorem words_splice (zi : List Int) (K m : Nat) : splice (cells (List.replicate K 0)) 0 (cells ((zi.drop m).take K)) = cells ((List.range K).map (fun i => zi[m + i]?.getD 0)) := by
  apply List.ext_getElem?
  intro i
  unfold splice
  rw [List.take_zero, List.nil_append]
  by_cases hi : i < ((zi.drop m).take K).length
  · rw [List.getElem?_append_left (by simpa [cells] using hi)]
    simp at hi
    have h1 : i < K := by omega
    simp [cells, h1, List.getElem?_drop, show m + i < zi.length by omega]
  · rw [List.getElem?_append_right (by simpa [cells] using hi)]
    simp only [cells, List.length_map, List.getElem?_drop, List.getElem?_map]
    simp at hi
    by_cases h1 : i < K
    · have h2 : zi.length ≤ m + i := by omega
      rw [List.getElem?_replicate, if_pos (by simp; omega)]
      simp [h1, h2]
    · rw [List.getElem?_replicate, if_neg (by simp; omega)]
      simp [h1]
theorem words_none {zi : List Int} {K m : Nat} (h : zi.length ≤ m) : (List.range K).map (fun i => zi[m + i]?.getD 0) = List.replicate K 0 := by
  apply List.ext_getElem?
  intro i
  by_cases h1 : i < K
  · simp [h1, show zi.length ≤ m + i by omega]
  · simp [h1]
theorem made_zeros (K : Nat) : madeCells #[Value.int .i64 0] K = (cells (List.replicate K 0)).toArray := by
  apply Array.ext_getElem?
  intro i
  simp [madeCells, cells]
  by_cases h : i < K <;> simp [h, Nat.mod_one]
theorem own_row {w : World} {base g K : Nat} {l : List Int} (h : w.heap[g]? = some (.cells (cells l).toArray 3 (0, 0))) (hl : l.length = K) (hb : base ≤ g) (hm : K ≤ maxLen) : Own w base (.slice (some ⟨g, 0, none⟩) K K) l := by
  subst hl
  exact ⟨by simp [cells], Or.inr ⟨g, l.length, (cells l).toArray, rfl, hb, h, Nat.le_refl _, hm, by simp [cells], by rw [Nat.mul_one]; exact List.take_of_length_le (by simp [cells])⟩⟩
theorem make_row (K : Nat) (hK : K ≤ 4) (w : World) : (Instr.makeSlice 22 (.int .i64 (K : Int)) (.int .i64 (K : Int))).run Try.prog w = .ok (.slice (some ⟨w.heap.size, 0, none⟩) K K) (w.alloc (.cells (cells (List.replicate K 0)).toArray 3)) := by
  rw [← made_zeros]
  exact run_make_row' (P := Try.prog) 22 3 (.int .i64 0) 8 Try.underlying22 Try.infoInt rfl .i64 .i64 K (by omega) (by omega) w

set_option maxHeartbeats 400000 in
theorem words_any (N L K S Y O I : Nat) (a : Option Addr) (nv cv : Nat) (zi : List Int) (line : Int) (w : World) (hsl : Sl w a nv cv zi) (hL : L ≤ 8) (hK0 : 1 ≤ K) (hK : K ≤ 4) (hlen : nv ≤ 32) :
    Calls Try.prog 51 #[cfg N L K S Y O I (.slice a nv cv), .int .i64 line] w fun e w' => ∃ v, e = .returned v ∧ Own w' w.heap.size v (wordsI zi L K line) ∧ Below w.heap.size w w' := by
  unfold cfg
  by_cases h0 : line < 0
  · have HW : Hid (wordsI zi L K line = []) := wordsI_out (.inl h0)
    go_enter Try.func51, Try.ntmps51
    go_wp2
    go_ret
    exact ⟨_, rfl, by rw [HW.out]; exact own_nil _ _, ba (Below.refl _ _)⟩
  by_cases h1 : (L : Int) ≤ line
  · have HW : Hid (wordsI zi L K line = []) := wordsI_out (.inr h1)
    have h0' : 0 ≤ line := by omega
    go_enter Try.func51, Try.ntmps51
    go_wp2
    go_ret
    exact ⟨_, rfl, by rw [HW.out]; exact own_nil _ _, ba (Below.refl _ _)⟩
  obtain ⟨j, rfl⟩ : ∃ j : Nat, line = j := ⟨line.toNat, by omega⟩
  have hj : j < L := by omega
  have HW : Hid (wordsI zi L K j = (List.range K).map (fun i => zi[j * K + i]?.getD 0)) := wordsI_in hj
  obtain ⟨m, hm⟩ : ∃ m, m = j * K := ⟨_, rfl⟩
  have hm' : (j : Int) * (K : Int) = (m : Int) := by rw [hm]; exact (Int.natCast_mul j K).symm
  have hm8 : m ≤ 28 := by rw [hm]; have := Nat.mul_le_mul (show j ≤ 7 by omega) hK; simpa using this
  rw [← hm] at HW
  have hl := hsl.len
  have hle := hsl.le
  clear h0 h1 hm
  have hmk := make_row K hK
  by_cases hf : m < nv
  · have hsome : ∃ b o, a = some ⟨b, o, none⟩ ∧ ∀ i, i < zi.length → w.cell? ⟨b, o + i, none⟩ = some (.int .i64 (zi[i]?.getD 0)) := by
      rcases hsl.row with rfl | h
      · simp at hl; omega
      · exact h
    obtain ⟨b, o, rfl, hc⟩ := hsome
    obtain ⟨i0, hi, hz0, hz1, hz2⟩ := info_parts Try.infoInt
    have q0 : (0 : Int) ≤ (m : Int) := by omega
    have q1 : (m : Int) ≤ (cv : Int) := by omega
    have q2 : (m : Int) ≤ (nv : Int) := by omega
    have hcs : (cells ((zi.drop m).take K)).length = Nat.min (nv - m) K := by simp [cells, hl, Nat.min_comm]
    have hsrc : ∀ W : World, Below w.heap.size w W → ∀ j v, (cells ((zi.drop m).take K))[j]? = some v → W.cell? ((⟨b, o + m, none⟩ : Addr).add j) = some v := by
      intro W hW j v hv
      obtain ⟨hj, rfl⟩ := cells_get hv
      simp at hj
      have hc1 := hc (m + j) (by omega)
      have hlt : b < w.heap.size := World.block_lt_of_cell? w _ hc1
      rw [Addr.add_lit, hW.cell (p := ⟨b, o + m + j, none⟩) hlt, show o + m + j = o + (m + j) by omega, hc1]
      simp [List.getElem?_drop, show j < K by omega]
    have hfit : 0 + (cells ((zi.drop m).take K)).length ≤ (cells (List.replicate K 0)).length := by simp [cells]; omega
    have hcur : ∀ t, ((w.alloc t).alloc (.cells (cells (List.replicate K 0)).toArray 3)).heap[w.heap.size + 1]? = some (.cells (cells (List.replicate K 0)).toArray 3 (0, 0)) := by
      intro t
      have := heap_alloc_new (w.alloc t) (.cells (cells (List.replicate K 0)).toArray 3)
      simpa using this
    go_enter Try.func51, Try.ntmps51
    go_wp2_with (refine wpList_copy_splice rfl (.tmp 27) (.tmp 31) 22 22 rfl 3 Try.underlying22 (by rw [hi]; simp [hz1]) _ _ _ _ _ _ rfl rfl (w.heap.size + 1) 0 (cells (List.replicate K 0)) 3 (hcur _) (cells ((zi.drop m).take K)) hcs (fun _ => ⟨rfl, _, rfl, hsrc _ (ba (ba (Below.refl _ _)))⟩) hfit (cells_one _) w.heap.size w (ba (ba (Below.refl _ _))) (by omega) ?_; intro w2 hg2 hb2)
    go_ret
    refine ⟨_, rfl, ?_, hb2⟩
    rw [HW.out]
    have hg3 := hg2.out
    rw [words_splice] at hg3
    exact own_row hg3 (by simp) (by omega) (by unfold maxLen; omega)
  · go_enter Try.func51, Try.ntmps51
    go_wp2
    go_ret
    refine ⟨_, rfl, ?_, ba (ba (Below.refl _ _))⟩
    rw [HW.out, words_none (by omega)]
    refine own_row (g := w.heap.size + 1) ?_ (by simp) (by omega) (by unfold maxLen; omega)
    have := heap_alloc_new (w.alloc (.cells #[.int .i64 (N : Int), .int .i64 (L : Int), .int .i64 (K : Int), .int .i64 (S : Int), .int .i64 (Y : Int), .int .i64 (O : Int), .int .i64 (I : Int), .slice a nv cv] 26)) (.cells (cells (List.replicate K 0)).toArray 3)
    simpa using this
end Go.Proofs.Ytgeiagndpfdnlaa
end
section
namespace Go.Proofs.Ytgeiagndpfdnlaa
open Go.RowKit
set_option linter.unusedVariables false
set_option maxRecDepth 20000

def inB (m n : Int) : Bool := decide (1 ≤ n) && decide (n ≤ m)
theorem inB_of {m n : Int} (h : inB m n = true) : 1 ≤ n ∧ n ≤ m := by simpa [inB] using h

theorem upTo_any (m n : Int) (w : World) :
    Calls Try.prog 48 #[.int .i64 m, .int .i64 n] w fun e w' => e = .returned (.bool (inB m n)) ∧ w = w' := by
  go_enter Try.func48, Try.ntmps48
  go_wp2
  all_goals go_ret
  all_goals exact ⟨ret_bool (by simp [inB, *] <;> omega), rfl⟩

theorem addrs_any (n l k s y o i : Int) (t : Value) (w : World) (hl0 : 1 ≤ l) (hl1 : l ≤ 8) (hk0 : 1 ≤ k) (hk1 : k ≤ 4) :
    Calls Try.prog 49 #[cfg n l k s y o i t] w fun e w' => e = .returned (.int .i64 (l * k)) ∧ Below w.heap.size w w' := by
  have h1 : 1 ≤ l * k := by have := Int.mul_le_mul hl0 hk0 (by omega) (by omega); simpa using this
  have h2 : l * k ≤ 32 := by have := Int.mul_le_mul hl1 hk1 (by omega) (by omega); simpa using this
  unfold cfg
  go_enter Try.func49, Try.ntmps49
  go_wp2
  go_ret
  exact ⟨rfl, (Below.refl _ _).alloc (Nat.le_refl _) _⟩

/-- May a configuration be? -/
def chk (n l k s y o i : Int) (len : Nat) : Bool :=
  inB 6 n && inB 8 l && inB 4 k && inB 4 s && inB 3 y && inB 8 o && inB 8 i && decide ((len : Int) ≤ l * k)

def errI (b : Bool) : Int := if b then 0 else 1
set_option maxHeartbeats 400000 in
theorem check_any (n l k s y o i : Int) (a : Option Addr) (len cap : Nat) (w : World) :
    Calls Try.prog 25 #[cfg n l k s y o i (.slice a len cap)] w fun e w' => e = .returned (.int .i64 (errI (chk n l k s y o i len))) ∧ Below w.heap.size w w' := by
  unfold cfg
  by_cases hall : inB 6 n && inB 8 l && inB 4 k && inB 4 s && inB 3 y && inB 8 o && inB 8 i
  · simp only [Bool.and_eq_true] at hall
    obtain ⟨⟨⟨⟨⟨⟨b1, b2⟩, b3⟩, b4⟩, b5⟩, b6⟩, b7⟩ := hall
    obtain ⟨hl0, hl1⟩ := inB_of b2
    obtain ⟨hk0, hk1⟩ := inB_of b3
    have h1 : 1 ≤ l * k := by have := Int.mul_le_mul hl0 hk0 (by omega) (by omega); simpa using this
    have h2 : l * k ≤ 32 := by have := Int.mul_le_mul hl1 hk1 (by omega) (by omega); simpa using this
    have HC : Hid (chk n l k s y o i len = decide ((len : Int) ≤ l * k)) := by unfold Hid chk; rw [b1, b2, b3, b4, b5, b6, b7]; simp
    go_enter Try.func25, Try.ntmps25
    go_wp2_with (first
      | (go_at_call 48; refine (upTo_any _ _ _).mono ?_; rintro e w1 ⟨rfl, rfl⟩))
    have uc := @Up.cell
    have uf := @Up.frozen
    refine wp_region_up (by kernel_rfl) (by kernel_rfl) ?_
    repeat (go_big_quiet_step ((go_at_call 49; exact Calls.up_of (addrs_any _ _ _ _ _ _ _ _ _ hl0 hl1 hk0 hk1))))
    refine wpQuiet_nil ?_
    rintro _ ⟨u, rfl⟩
    have hb := u.2
    clear uc uf
    go_wp2
    all_goals go_ret
    all_goals
      refine ⟨ret_int ?_, (((Below.refl _ _).alloc (Nat.le_refl _) _).trans (hb.mono (by simp)))⟩
      rw [HC.out]
      unfold errI
    · rw [if_neg (by simp; omega)]
    · rw [if_pos (by simp; omega)]
  · have HC : Hid (chk n l k s y o i len = false) := by
      unfold Hid chk
      rw [Bool.and_eq_false_iff]; left; simpa using hall
    have HA := hall
    clear hall
    cases b1 : inB 6 n
    rotate_left
    cases b2 : inB 8 l
    rotate_left
    cases b3 : inB 4 k
    rotate_left
    cases b4 : inB 4 s
    rotate_left
    cases b5 : inB 3 y
    rotate_left
    cases b6 : inB 8 o
    rotate_left
    cases b7 : inB 8 i
    rotate_left
    · exact absurd (by rw [b1, b2, b3, b4, b5, b6, b7]; rfl) HA
    all_goals
      clear HA
      go_enter Try.func25, Try.ntmps25
      go_wp2_with (first
        | (go_at_call 48; refine (upTo_any _ _ _).mono ?_; rintro e w1 ⟨rfl, rfl⟩))
      go_ret
      exact ⟨ret_int (by rw [HC.out]; rfl), (Below.refl _ _).alloc (Nat.le_refl _) _⟩
theorem chk_none : chk 0 0 0 0 0 0 0 0 = false := by decide
theorem chk_ones : chk 1 1 1 1 1 1 1 0 = true := by decide
end Go.Proofs.Ytgeiagndpfdnlaa
end
section
namespace Go.Proofs.Ytgeiagndpfdnlaa
open Go.RowKit
set_option linter.unusedVariables false
set_option maxRecDepth 20000

/-- The remainder of a line. -/
def remI (line m : Int) : Int := if line < 0 then -1 else line % m
theorem remI_neg {line m : Int} (h : line < 0) : remI line m = -1 := if_pos h
theorem remI_pos {line m : Int} (h : 0 ≤ line) : remI line m = line % m := if_neg (by omega)
theorem remainder_any (line m : Int) (w : World) (hm0 : 1 ≤ m) (hm1 : m ≤ 1000000) :
    Calls Try.prog 63 #[.int .i64 line, .int .i64 m] w fun e w' => e = .returned (.int .i64 (remI line m)) ∧ w = w' := by
  by_cases h : line < 0
  · have HR : Hid (remI line m = -1) := remI_neg h
    go_enter Try.func63, Try.ntmps63
    go_wp2
    go_ret
    exact ⟨ret_int HR.out.symm, rfl⟩
  · have h' : 0 ≤ line := by omega
    have HR : Hid (remI line m = line % m) := remI_pos h'
    go_enter Try.func63, Try.ntmps63
    go_wp2
    go_ret
    exact ⟨ret_int (by rw [HR.out]), rfl⟩
theorem homeOf_any (n l k s y o i line : Int) (t : Value) (w : World) (hm0 : 1 ≤ n) (hm1 : n ≤ 1000000) :
    Calls Try.prog 50 #[cfg n l k s y o i t, .int .i64 line] w fun e w' => e = .returned (.int .i64 (remI line n)) ∧ Below w.heap.size w w' := by
  unfold cfg
  go_enter Try.func50, Try.ntmps50
  go_wp2_with (go_at_call 63; refine (remainder_any _ _ _ hm0 hm1).mono ?_; rintro e w1 ⟨rfl, rfl⟩)
  go_ret
  exact ⟨rfl, ba (Below.refl _ _)⟩
/-- Is there such an address? -/
def isA (l k addr : Int) : Bool := decide (0 ≤ addr) && decide (addr < l * k)
theorem isA_of {l k addr : Int} (h : isA l k addr = true) : 0 ≤ addr ∧ addr < l * k := by simpa [isA] using h
theorem isA_no {l k addr : Int} (h : isA l k addr = false) : addr < 0 ∨ l * k ≤ addr := by simp [isA] at h; omega
theorem isA_mk {l k addr : Int} (h0 : 0 ≤ addr) (h1 : addr < l * k) : isA l k addr = true := by simp [isA, h0, h1]
theorem isA_not {l k addr : Int} (h0 : addr < 0 ∨ l * k ≤ addr) : isA l k addr = false := by simp [isA]; omega
def lineI (l k addr : Int) : Int := if isA l k addr then addr / k else -1
def wordI (l k addr : Int) : Int := if isA l k addr then addr % k else 0
theorem ret_pair {a b c d : Int} (h : a = c) (g : b = d) : Ending.returned (.tuple #[.int .i64 a, .int .i64 b]) = .returned (.tuple #[.int .i64 c, .int .i64 d]) := by rw [h, g]
end Go.Proofs.Ytgeiagndpfdnlaa
end
section
namespace Go.Proofs.Ytgeiagndpfdnlaa
open Go.RowKit Go.Maps
set_option linter.unusedVariables false
set_option maxRecDepth 20000

theorem dclone_none (w : World) : Calls Try.prog 62 #[.slice none 0 0] w fun e w' => e = .returned (.slice none 0 0) ∧ Below w.heap.size w w' := by
  obtain ⟨i0, hi, hz0, hz1, hz2⟩ := info_parts Try.infoInt
  have hz := fun w n c => Lib.run_eql_slice_nil (P := Try.prog) w 22 3 none n c 0 0 Try.underlying22
  go_enter Try.func62, Try.ntmps62
  go_wp2
  go_ret
  exact ⟨rfl, Below.refl _ _⟩
theorem dclone_some (x : Addr) (l : List Int) (n cap : Nat) (w : World) (hsl : Sl w (some x) n cap l) (h0 : 0 < n) (hb : n ≤ 17592186044416) :
    Calls Try.prog 62 #[.slice (some x) n cap] w fun e w' => ∃ a' cap', e = .returned (.slice a' n cap') ∧ Own w' w.heap.size (.slice a' n cap') l ∧ Below w.heap.size w w' := by
  obtain ⟨b, o, ex, _⟩ := hsl.at h0
  obtain rfl := Option.some.inj ex
  clear ex
  have bel : Below w.heap.size w (w.alloc (.cells #[] 3)) := ba (Below.refl _ _)
  obtain ⟨hn, hle, hmx, hnil, hr⟩ := hsl.below bel
  obtain ⟨i0, hi, hz0, hz1, hz2⟩ := info_parts Try.infoInt
  have hm : n ≤ maxLen := Nat.le_trans hle hmx
  have hz := fun w n c => Lib.run_eql_slice_nil (P := Try.prog) w 22 3 (some ⟨b, o, none⟩) n c 0 0 Try.underlying22
  go_enter Try.func62, Try.ntmps62
  go_wp2_with (at_builtin; refine wpList_append_grows _ rfl _ _ 22 rfl 3 i0 (.int .i64 0) 1 8 Try.underlying22 hi hz0 hz1 hz2 rfl (by decide) (some ⟨w.heap.size, 0, none⟩) 0 0 [] rfl (fun h => by cases h) rfl (fun _ _ j u hu => by simp at hu) ⟨b, o, none⟩ n cap (cells l) rfl (by simp [cells, hn]) hr.cellsAt (cells_one l) (by omega) (by omega) (by omega) ?_)
  intro v' w1 hown hgrow
  go_wp2
  go_ret
  have ho : Own w1 (w.heap.size + 1) v' l := by simpa [Own, hn] using hown
  obtain ⟨a', cap', rfl, _⟩ := ho.sl' hn
  exact ⟨a', cap', rfl, ho.low (by omega), bel.grown hgrow (by simp) (by intro k hk; simp at hk)⟩
/-- A copy of words, if any (an empty list comes back as what it is). -/
theorem dclone_any (a : Option Addr) (l : List Int) (n cap : Nat) (w : World) (hsl : Sl w a n cap l) (h0 : a = none ∨ 0 < n) (hb : n ≤ 17592186044416) :
    Calls Try.prog 62 #[.slice a n cap] w fun e w' => ∃ a' cap', e = .returned (.slice a' n cap') ∧ Own w' w.heap.size (.slice a' n cap') l ∧ Below w.heap.size w w' := by
  cases a with
  | none =>
    obtain ⟨rfl, rfl⟩ := hsl.none0 rfl
    obtain rfl : l = [] := List.eq_nil_of_length_eq_zero hsl.len
    refine (dclone_none w).mono ?_
    rintro e w' ⟨rfl, hb⟩
    exact ⟨none, 0, rfl, own_nil _ _, hb⟩
  | some x => exact dclone_some x l n cap w hsl (h0.resolve_left (by simp)) hb
theorem zeroH_val (w : World) : (zeroValue 94).run Try.prog w = .ok (zeroHr.val (.slice none 0 0)) w := Try.zeroValue94 w
section
variable {w : World} {g b : Nat} {D : Nat → Prop} {N K : Int} {R : List (Hr × Value)}
theorem MW.look (h : MW w g b D N K R) {n : Int} (hn : In64 n) {V : World} (hV : Below w.heap.size w V) :
    (Instr.lookup 99 (.map (some b)) (.int .i64 n) true).run Try.prog V = .ok (.tuple #[hVal (rowAt R n), .bool (hasR R n)]) V := by
  have := (h.rows.below hV).look_ok Try.underlying99 (zeroH_val V) hn
  rw [row_at, row_has] at this
  exact this
/-- The words of each row are some. -/
def Full (R : List (Hr × Value)) : Prop := ∀ r ∈ R, r.1.z ≠ []
theorem MW.rowSl (h : MW w g b D N K R) (hf : Full R) (n : Int) : ∃ a n0 cap, (rowAt R n).2 = .slice a n0 cap ∧ Sl w a n0 cap (rowAt R n).1.z ∧ (a = none ∨ 0 < n0) ∧ n0 ≤ 17592186044416 := by
  unfold rowAt
  cases hg : getK hKey n R with
  | none => exact ⟨none, 0, 0, rfl, sl_nil w, .inl rfl, by omega⟩
  | some r =>
    obtain ⟨hm, _⟩ := getK_some hg
    obtain ⟨a, n0, cap, e, hs, hb, _⟩ := h.dat r hm
    have := List.length_pos_iff.2 (hf r hm)
    exact ⟨a, n0, cap, e, hs, .inr (by have := hs.len; simp [pz] at this; omega), hb⟩
set_option maxHeartbeats 600000 in
theorem MW.row_any (h : MW w g b D N K R) (hf : Full R) {n : Int} (hn : In64 n) : Calls Try.prog 45 #[.pointer (some ⟨g, 0, none⟩), .int .i64 n] w fun e w' =>
    ∃ a cap, e = .returned (.tuple #[(rowAt R n).1.val (.slice a (rowAt R n).1.z.length cap), .bool (hasR R n)]) ∧ Own w' w.heap.size (.slice a (rowAt R n).1.z.length cap) (rowAt R n).1.z ∧ Below w.heap.size w w' := by
  have c2 := h.c2
  have lt := h.lt
  obtain ⟨a0, n0, cap0, e0, hs0, hp0, hb0⟩ := h.rowSl hf n
  have hl := h.look hn (V := w.alloc (.cells #[.int .i64 0, .int .i64 0, .slice none 0 0] 94)) (ba (Below.refl _ _))
  generalize rowAt R n = r at *
  generalize hasR R n = ok at *
  obtain ⟨x, d⟩ := r
  simp only at e0
  subst e0
  have hzl : x.z.length = n0 := hs0.len
  rw [hzl]
  go_enter Try.func45, Try.ntmps45
  go_wp2_with (go_at_call 62; refine (dclone_any a0 x.z n0 cap0 _ (hs0.below (ba (ba (Below.refl _ _)))) hp0 hb0).mono ?_; rintro e w1 ⟨a1, cap1, rfl, hown, hbel⟩; obtain ⟨k1, k2⟩ := bcell hbel)
  have z1 := hbel.size
  simp at z1
  have hlo := hown.base
  have e0 : w1.cell? ⟨w.heap.size, 0, none⟩ = some (.int .i64 0) := by rw [k1 _ _ (by simp; omega)]; simp
  have e1 : w1.cell? ⟨w.heap.size, 1, none⟩ = some (.int .i64 0) := by rw [k1 _ _ (by simp; omega)]; simp
  have e2 : w1.cell? ⟨w.heap.size, 2, none⟩ = some (.slice none 0 0) := by rw [k1 _ _ (by simp; omega)]; simp
  have K := ((((Keep.refl (fun k => k = w.heap.size + 1 ∨ k = w.heap.size) w1).setCell (p := ⟨w.heap.size + 1, 2, none⟩) (.inl (.inl rfl)) (.slice a1 n0 cap1)).setCell (p := ⟨w.heap.size, 0, none⟩) (.inl (.inr rfl)) (.int .i64 x.s)).setCell (p := ⟨w.heap.size, 1, none⟩) (.inl (.inr rfl)) (.int .i64 x.h)).setCell (p := ⟨w.heap.size, 2, none⟩) (.inl (.inr rfl)) (.slice a1 n0 cap1)
  refine bodyPost_ret (v := .tuple #[x.val (.slice a1 n0 cap1), .bool ok]) (by simp [results, Try.results45, go_sem, *]) rfl ⟨a1, cap1, rfl, ?_, K.after (next (ba (ba (Below.refl _ _))) hbel) (fun k h => by omega)⟩
  exact (hown.keep K (fun k hk e => by have := (hlo k hk).1; simp at this; omega)).low (by simp; omega)
theorem isState_any (s : Int) (w : World) : Calls Try.prog 66 #[.int .i64 s] w fun e w' => e = .returned (.bool (decide (0 ≤ s ∧ s ≤ 2))) ∧ w = w' := by
  by_cases h : 0 ≤ s ∧ s ≤ 2
  · have HD : Hid (decide (0 ≤ s ∧ s ≤ 2) = true) := decide_eq_true h
    have h3 : s = 0 ∨ s = 1 ∨ s = 2 := by omega
    rcases h3 with rfl | rfl | rfl
    all_goals (go_enter Try.func66, Try.ntmps66; go_wp2; go_ret; exact ⟨ret_bool HD.out.symm, rfl⟩)
  · have HD : Hid (decide (0 ≤ s ∧ s ≤ 2) = false) := decide_eq_false h
    have n0 : (s == 0) = false := by simp; omega
    have n1 : (s == 1) = false := by simp; omega
    have n2 : (s == 2) = false := by simp; omega
    go_enter Try.func66, Try.ntmps66
    go_wp2
    go_ret
    exact ⟨ret_bool HD.out.symm, rfl⟩
theorem fits_any (s h : Int) (w : World) : Calls Try.prog 68 #[.int .i64 s, .int .i64 h] w fun e w' => e = .returned (.bool ((s == 0) == (h == -1))) ∧ w = w' := by
  go_enter Try.func68, Try.ntmps68
  go_wp2
  go_ret
  exact ⟨rfl, rfl⟩
theorem isHead_any (g : Nat) (N h : Int) (w : World) (c0 : w.cell? ⟨g, 0, none⟩ = some (.int .i64 N)) : Calls Try.prog 67 #[.pointer (some ⟨g, 0, none⟩), .int .i64 h] w fun e w' => e = .returned (.bool (decide (-1 ≤ h ∧ h < N))) ∧ w = w' := by
  by_cases h1 : -1 ≤ h
  · by_cases h2 : h < N
    all_goals (go_enter Try.func67, Try.ntmps67; go_wp2; go_ret; exact ⟨ret_bool (by rw [Bool.eq_iff_iff]; simp <;> omega), rfl⟩)
  · go_enter Try.func67, Try.ntmps67
    go_wp2
    go_ret
    exact ⟨ret_bool (by rw [Bool.eq_iff_iff]; simp <;> omega), rfl⟩
theorem isData_any (g : Nat) (K : Int) (a : Option Addr) (n cap : Nat) (w : World) (c1 : w.cell? ⟨g, 1, none⟩ = some (.int .i64 K)) : Calls Try.prog 69 #[.pointer (some ⟨g, 0, none⟩), .slice a n cap] w fun e w' => e = .returned (.bool (decide (n = 0 ∨ (n : Int) = K))) ∧ w = w' := by
  by_cases h1 : n = 0
  · have HD : Hid (decide (n = 0 ∨ (n : Int) = K) = true) := decide_eq_true (.inl h1)
    subst h1
    go_enter Try.func69, Try.ntmps69
    go_wp2
    go_ret
    exact ⟨ret_bool rfl, rfl⟩
  · obtain ⟨b, hb⟩ : ∃ b, decide ((n : Int) = K) = b := ⟨_, rfl⟩
    have HD : Hid (decide (n = 0 ∨ (n : Int) = K) = ((n : Int) == K)) := by show _ = _; rw [Bool.eq_iff_iff]; simp [h1]
    have hn : ((n : Int) == 0) = false := by simp; omega
    go_enter Try.func69, Try.ntmps69
    go_wp2
    go_ret
    exact ⟨ret_bool HD.out.symm, rfl⟩
end
end Go.Proofs.Ytgeiagndpfdnlaa
end
section
namespace Go.Proofs.Ytgeiagndpfdnlaa
open Go.RowKit Go.Maps
set_option linter.unusedVariables false
set_option maxRecDepth 20000

/-- May a row be that? -/
def setOk (N K : Int) (s h : Int) (n : Nat) : Bool := decide (0 ≤ s ∧ s ≤ 2) && decide (-1 ≤ h ∧ h < N) && ((s == 0) == (h == -1)) && decide (n = 0 ∨ (n : Int) = K)
section
variable {w : World} {g b : Nat} {D : Nat → Prop} {N K : Int} {R : List (Hr × Value)}
set_option maxHeartbeats 600000 in
theorem MW.set_none (h : MW w g b D N K R) {l : Int} (hl : In64 l) (hh : hasR R l = false) (s hd : Int) (a : Option Addr) (n cap : Nat) :
    Calls Try.prog 55 #[.pointer (some ⟨g, 0, none⟩), .int .i64 l, .int .i64 s, .int .i64 hd, .slice a n cap] w fun e w' => e = .returned (.int .i64 3) ∧ Below w.heap.size w w' := by
  have c2 := h.c2
  have lt := h.lt
  have hlk := h.look hl (V := w) (Below.refl _ _)
  rw [hh] at hlk
  obtain ⟨a0, n0, cap0, e0, _⟩ := h.rowDat l
  generalize rowAt R l = r at *
  obtain ⟨x, d⟩ := r
  simp only at e0
  subst e0
  go_enter Try.func55, Try.ntmps55
  go_wp2_with fail
  go_ret
  exact ⟨rfl, ba (Below.refl _ _)⟩
set_option maxHeartbeats 600000 in
theorem MW.set_arg (h : MW w g b D N K R) {l : Int} (hl : In64 l) (hh : hasR R l = true) (s hd : Int) (a : Option Addr) (n cap : Nat) (ho : setOk N K s hd n = false) :
    Calls Try.prog 55 #[.pointer (some ⟨g, 0, none⟩), .int .i64 l, .int .i64 s, .int .i64 hd, .slice a n cap] w fun e w' => e = .returned (.int .i64 1) ∧ Below w.heap.size w w' := by
  have c0 := h.c0
  have c1 := h.c1
  have c2 := h.c2
  have lt := h.lt
  have hlk := h.look hl (V := w) (Below.refl _ _)
  rw [hh] at hlk
  obtain ⟨a0, n0, cap0, e0, _⟩ := h.rowDat l
  generalize rowAt R l = r at *
  obtain ⟨x, d⟩ := r
  simp only at e0
  subst e0
  unfold setOk at ho
  obtain ⟨o1, h1⟩ : ∃ o, decide (0 ≤ s ∧ s ≤ 2) = o := ⟨_, rfl⟩
  obtain ⟨o2, h2⟩ : ∃ o, decide (-1 ≤ hd ∧ hd < N) = o := ⟨_, rfl⟩
  obtain ⟨o3, h3⟩ : ∃ o, ((s == 0) == (hd == -1)) = o := ⟨_, rfl⟩
  obtain ⟨o4, h4⟩ : ∃ o, decide (n = 0 ∨ (n : Int) = K) = o := ⟨_, rfl⟩
  rw [h1, h2, h3, h4] at ho
  have H1 : Hid (decide (0 ≤ s ∧ s ≤ 2) = o1) := h1
  have H2 : Hid (decide (-1 ≤ hd ∧ hd < N) = o2) := h2
  have H3 : Hid (((s == 0) == (hd == -1)) = o3) := h3
  have H4 : Hid (decide (n = 0 ∨ (n : Int) = K) = o4) := h4
  clear h1 h2 h3 h4
  have hc : o1 = false ∨ o1 = true ∧ o2 = false ∨ o1 = true ∧ o2 = true ∧ o3 = false ∨ o1 = true ∧ o2 = true ∧ o3 = true ∧ o4 = false := by
    revert ho
    cases o1 <;> cases o2 <;> cases o3 <;> cases o4 <;> decide
  clear ho
  rcases hc with rfl | ⟨rfl, rfl⟩ | ⟨rfl, rfl, rfl⟩ | ⟨rfl, rfl, rfl, rfl⟩
  all_goals (
    go_enter Try.func55, Try.ntmps55
    go_wp2_with (first
      | (go_at_call 66; refine (isState_any _ _).mono ?_; rintro e w1 ⟨rfl, rfl⟩; rw [H1.out])
      | (go_at_call 67; refine (isHead_any _ N _ _ (((ba (Below.refl _ _)).cell (p := ⟨g, 0, none⟩) lt).trans c0)).mono ?_; rintro e w1 ⟨rfl, rfl⟩; rw [H2.out])
      | (go_at_call 68; refine (fits_any _ _ _).mono ?_; rintro e w1 ⟨rfl, rfl⟩; rw [H3.out])
      | (go_at_call 69; refine (isData_any _ K _ _ _ _ (((ba (Below.refl _ _)).cell (p := ⟨g, 1, none⟩) lt).trans c1)).mono ?_; rintro e w1 ⟨rfl, rfl⟩; rw [H4.out]))
    go_ret
    exact ⟨rfl, ba (Below.refl _ _)⟩)
theorem rowAt_key {l : Int} (hh : hasR R l = true) : (rowAt R l).1.n = l ∧ rowAt R l ∈ R := by
  unfold hasR at hh
  unfold rowAt
  cases hg : getK hKey l R with
  | none => rw [hg] at hh; cases hh
  | some r => obtain ⟨h1, h2⟩ := getK_some hg; exact ⟨h2, h1⟩
end
end Go.Proofs.Ytgeiagndpfdnlaa
end
