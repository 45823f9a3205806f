/- Packets as plain data; a packet's variable in memory; rows of packets, their words. Conditions: as each theorem states them. -/
import Derived.Test.YtgeiagndpfdnlaaTake3
import Derived.Test.YtgeiagndpfdnlaaKeep
import Derived.Deep.CutBlock
namespace Go.Proofs.Ytgeiagndpfdnlaa
open Go.RowKit
set_option linter.unusedVariables false

/-- A packet: its numbers, its flag, its words. -/
structure Pk where
  k : Int
  f : Int
  t : Int
  i : Int
  l : Int
  p : Int
  s : Int
  fl : Bool
  z : List Int
/-- The packet as a value, its words where d says. -/
@[reducible] def Pk.val (x : Pk) (d : Value) : Value := .agg #[.int .i64 x.k, .int .i64 x.f, .int .i64 x.t, .int .i64 x.i, .int .i64 x.l, .int .i64 x.p, .int .i64 x.s, .bool x.fl, d]
def sameP (x y : Pk) : Bool := decide (x.k = y.k ∧ x.f = y.f ∧ x.t = y.t ∧ x.i = y.i ∧ x.l = y.l ∧ x.p = y.p ∧ x.s = y.s ∧ x.fl = y.fl ∧ x.z = y.z)
theorem sameP_self (x : Pk) : sameP x x = true := decide_eq_true ⟨rfl, rfl, rfl, rfl, rfl, rfl, rfl, rfl, rfl⟩
theorem wp_world {P : Program} {c : Code} {Q : Exit → Act → World → Prop} {a : Act} {w1 w2 : World} (h : w1 = w2) (hw : c.wp P Q a w2) : c.wp P Q a w1 := h ▸ hw
/-- A packet in memory, in a block that may be written. -/
structure Bx (W : World) (g : Nat) (x : Pk) (d : Value) : Prop where
  c0 : W.cell? ⟨g, 0, none⟩ = some (.int .i64 x.k)
  c1 : W.cell? ⟨g, 1, none⟩ = some (.int .i64 x.f)
  c2 : W.cell? ⟨g, 2, none⟩ = some (.int .i64 x.t)
  c3 : W.cell? ⟨g, 3, none⟩ = some (.int .i64 x.i)
  c4 : W.cell? ⟨g, 4, none⟩ = some (.int .i64 x.l)
  c5 : W.cell? ⟨g, 5, none⟩ = some (.int .i64 x.p)
  c6 : W.cell? ⟨g, 6, none⟩ = some (.int .i64 x.s)
  c7 : W.cell? ⟨g, 7, none⟩ = some (.bool x.fl)
  c8 : W.cell? ⟨g, 8, none⟩ = some d
  fz : ∀ o, W.frozen? ⟨g, o, none⟩ = false
  lt : g < W.heap.size
theorem Bx.made (w : World) (x : Pk) (d : Value) : Bx (w.alloc (.cells #[.int .i64 x.k, .int .i64 x.f, .int .i64 x.t, .int .i64 x.i, .int .i64 x.l, .int .i64 x.p, .int .i64 x.s, .bool x.fl, d] 32)) w.heap.size x d := by
  constructor <;> simp
theorem Bx.below {W W' : World} {g base : Nat} {x : Pk} {d : Value} (h : Bx W g x d) (hb : Below base W W') (hg : g < base) : Bx W' g x d :=
  have e := fun o => hb.cell (p := ⟨g, o, none⟩) hg
  ⟨(e 0).trans h.c0, (e 1).trans h.c1, (e 2).trans h.c2, (e 3).trans h.c3, (e 4).trans h.c4, (e 5).trans h.c5, (e 6).trans h.c6, (e 7).trans h.c7, (e 8).trans h.c8, fun o => (hb.frozen (p := ⟨g, o, none⟩) hg).trans (h.fz o), Nat.lt_of_lt_of_le h.lt hb.size⟩
theorem Bx.next {W W' : World} {g : Nat} {x : Pk} {d : Value} (h : Bx W g x d) (hb : Below W.heap.size W W') : Bx W' g x d := h.below hb h.lt
theorem Bx.far {W : World} {g : Nat} {x : Pk} {d u : Value} {p : Addr} (h : Bx W g x d) (hp : g ≠ p.block) : Bx (W.setCell p u) g x d :=
  have e := fun o => cell_far (w := W) (p := p) (v := u) g o hp
  ⟨(e 0).trans h.c0, (e 1).trans h.c1, (e 2).trans h.c2, (e 3).trans h.c3, (e 4).trans h.c4, (e 5).trans h.c5, (e 6).trans h.c6, (e 7).trans h.c7, (e 8).trans h.c8, fun o => by rw [World.frozen?_setCell]; exact h.fz o, by simpa using h.lt⟩
theorem Sl.far {W : World} {a : Option Addr} {n cap : Nat} {l : List Int} {p : Addr} {u : Value} (h : Sl W a n cap l) (hp : ∀ x : Addr, a = some x → x.block ≠ p.block) : Sl (W.setCell p u) a n cap l := by
  refine ⟨h.len, h.le, h.max, h.nil, h.row.imp id ?_⟩
  rintro ⟨b, o, rfl, hc⟩
  exact ⟨b, o, rfl, fun i hi => by rw [cell_far _ _ (hp _ rfl)]; exact hc i hi⟩
section
variable {W : World} {g : Nat} {x : Pk} {d : Value}
theorem Bx.setK (h : Bx W g x d) (v : Int) : Bx (W.setCell ⟨g, 0, none⟩ (.int .i64 v)) g { x with k := v } d := by
  obtain ⟨c0, c1, c2, c3, c4, c5, c6, c7, c8, fz, lt⟩ := h
  constructor <;> (try intro o) <;> go_simp
theorem Bx.setF (h : Bx W g x d) (v : Int) : Bx (W.setCell ⟨g, 1, none⟩ (.int .i64 v)) g { x with f := v } d := by
  obtain ⟨c0, c1, c2, c3, c4, c5, c6, c7, c8, fz, lt⟩ := h
  constructor <;> (try intro o) <;> go_simp
theorem Bx.setT (h : Bx W g x d) (v : Int) : Bx (W.setCell ⟨g, 2, none⟩ (.int .i64 v)) g { x with t := v } d := by
  obtain ⟨c0, c1, c2, c3, c4, c5, c6, c7, c8, fz, lt⟩ := h
  constructor <;> (try intro o) <;> go_simp
theorem Bx.setI (h : Bx W g x d) (v : Int) : Bx (W.setCell ⟨g, 3, none⟩ (.int .i64 v)) g { x with i := v } d := by
  obtain ⟨c0, c1, c2, c3, c4, c5, c6, c7, c8, fz, lt⟩ := h
  constructor <;> (try intro o) <;> go_simp
theorem Bx.setL (h : Bx W g x d) (v : Int) : Bx (W.setCell ⟨g, 4, none⟩ (.int .i64 v)) g { x with l := v } d := by
  obtain ⟨c0, c1, c2, c3, c4, c5, c6, c7, c8, fz, lt⟩ := h
  constructor <;> (try intro o) <;> go_simp
theorem Bx.setP (h : Bx W g x d) (v : Int) : Bx (W.setCell ⟨g, 5, none⟩ (.int .i64 v)) g { x with p := v } d := by
  obtain ⟨c0, c1, c2, c3, c4, c5, c6, c7, c8, fz, lt⟩ := h
  constructor <;> (try intro o) <;> go_simp
theorem Bx.setS (h : Bx W g x d) (v : Int) : Bx (W.setCell ⟨g, 6, none⟩ (.int .i64 v)) g { x with s := v } d := by
  obtain ⟨c0, c1, c2, c3, c4, c5, c6, c7, c8, fz, lt⟩ := h
  constructor <;> (try intro o) <;> go_simp
theorem Bx.setFl (h : Bx W g x d) (v : Bool) : Bx (W.setCell ⟨g, 7, none⟩ (.bool v)) g { x with fl := v } d := by
  obtain ⟨c0, c1, c2, c3, c4, c5, c6, c7, c8, fz, lt⟩ := h
  constructor <;> (try intro o) <;> go_simp
theorem Bx.setZ (h : Bx W g x d) (z : List Int) (v : Value) : Bx (W.setCell ⟨g, 8, none⟩ v) g { x with z := z } v := by
  obtain ⟨c0, c1, c2, c3, c4, c5, c6, c7, c8, fz, lt⟩ := h
  constructor <;> (try intro o) <;> go_simp
end
/-- All nine are written. -/
theorem Bx.put {W : World} {g : Nat} {x : Pk} {d : Value} (h : Bx W g x d) (y : Pk) (v : Value) :
    Bx (((((((((W.setCell ⟨g, 0, none⟩ (.int .i64 y.k)).setCell ⟨g, 1, none⟩ (.int .i64 y.f)).setCell ⟨g, 2, none⟩ (.int .i64 y.t)).setCell ⟨g, 3, none⟩ (.int .i64 y.i)).setCell ⟨g, 4, none⟩ (.int .i64 y.l)).setCell ⟨g, 5, none⟩ (.int .i64 y.p)).setCell ⟨g, 6, none⟩ (.int .i64 y.s)).setCell ⟨g, 7, none⟩ (.bool y.fl)).setCell ⟨g, 8, none⟩ v) g y v := by
  obtain ⟨c0, c1, c2, c3, c4, c5, c6, c7, c8, fz, lt⟩ := h
  constructor <;> (try intro o) <;> go_simp
/-- A block into which a packet is written, cell by cell. -/
theorem far9 {W : World} {g : Nat} {y : Pk} {v : Value} {P : World → Prop} (hP : ∀ (V : World) (o : Nat) (u : Value), P V → P (V.setCell ⟨g, o, none⟩ u)) (h : P W) :
    P (((((((((W.setCell ⟨g, 0, none⟩ (.int .i64 y.k)).setCell ⟨g, 1, none⟩ (.int .i64 y.f)).setCell ⟨g, 2, none⟩ (.int .i64 y.t)).setCell ⟨g, 3, none⟩ (.int .i64 y.i)).setCell ⟨g, 4, none⟩ (.int .i64 y.l)).setCell ⟨g, 5, none⟩ (.int .i64 y.p)).setCell ⟨g, 6, none⟩ (.int .i64 y.s)).setCell ⟨g, 7, none⟩ (.bool y.fl)).setCell ⟨g, 8, none⟩ v) :=
  hP _ _ _ (hP _ _ _ (hP _ _ _ (hP _ _ _ (hP _ _ _ (hP _ _ _ (hP _ _ _ (hP _ _ _ (hP _ _ _ h))))))))
def zeroPk : Pk := ⟨0, 0, 0, 0, 0, 0, 0, false, []⟩
theorem Bx.made' (w : World) (x : Pk) (d : Value) (g : Nat) (hg : g = w.heap.size) : Bx (w.alloc (.cells #[.int .i64 x.k, .int .i64 x.f, .int .i64 x.t, .int .i64 x.i, .int .i64 x.l, .int .i64 x.p, .int .i64 x.s, .bool x.fl, d] 32)) g x d := hg ▸ Bx.made w x d
theorem Own.lo {w : World} {base n cap : Nat} {a : Option Addr} {l : List Int} (h : Own w base (.slice a n cap) l) : ∀ x : Addr, a = some x → base ≤ x.block ∧ x.block < w.heap.size := by
  intro x e
  subst e
  rcases h.2 with ⟨h1, _⟩ | ⟨g, c, cur, h1, hb, hg, _⟩
  · cases h1
  · simp at h1
    obtain ⟨rfl, _⟩ := h1
    exact ⟨hb, (Array.getElem?_eq_some_iff.1 hg).1⟩
theorem Sl.at {w : World} {a : Option Addr} {n cap : Nat} {l : List Int} (h : Sl w a n cap l) {k : Nat} (hk : k < n) : ∃ b o, a = some ⟨b, o, none⟩ ∧ b < w.heap.size ∧ w.cell? ⟨b, o + k, none⟩ = some (.int .i64 (l[k]?.getD 0)) := by
  have hl := h.len
  rcases h.row with rfl | ⟨b, o, e, hc⟩
  · simp at hl; omega
  · exact ⟨b, o, e, World.block_lt_of_cell? w _ (hc k (by omega)), hc k (by omega)⟩
theorem sameP_eq {x y : Pk} (h : sameP x y = true) : x = y := by
  obtain ⟨h1, h2, h3, h4, h5, h6, h7, h8, h9⟩ := of_decide_eq_true h
  cases x; cases y; simp_all
instance Pk.dec : DecidableEq Pk := fun x y => decidable_of_iff (sameP x y = true) ⟨sameP_eq, fun h => by subst h; exact sameP_self x⟩
theorem sameP_iff (x y : Pk) : sameP x y = decide (x = y) := by
  by_cases h : x = y
  · subst h; rw [sameP_self]; simp
  · rw [decide_eq_false h]
    cases hs : sameP x y
    · rfl
    · exact absurd (sameP_eq hs) h

/-- The nine cells of a packet. -/
def pcells (x : Pk) (d : Value) : List Value := [.int .i64 x.k, .int .i64 x.f, .int .i64 x.t, .int .i64 x.i, .int .i64 x.l, .int .i64 x.p, .int .i64 x.s, .bool x.fl, d]
theorem pcells_len (x : Pk) (d : Value) : (pcells x d).length = 9 := rfl
/-- A row of packets, cell by cell. -/
def pflat (R : List (Pk × Value)) : List Value := R.flatMap fun r => pcells r.1 r.2
theorem pflat_len (R : List (Pk × Value)) : (pflat R).length = R.length * 9 := by
  induction R with
  | nil => rfl
  | cons o p ih => simp [pflat, pcells] at ih ⊢; omega
theorem pflat_cons (r : Pk × Value) (R : List (Pk × Value)) : pflat (r :: R) = pcells r.1 r.2 ++ pflat R := rfl
theorem pflat_append (R T : List (Pk × Value)) : pflat (R ++ T) = pflat R ++ pflat T := by simp [pflat]
theorem pflat_one (x : Pk) (d : Value) : pflat [(x, d)] = pcells x d := by simp [pflat]
theorem pflat_get {R : List (Pk × Value)} {i : Nat} {r : Pk × Value} (h : R[i]? = some r) (j : Nat) (hj : j < 9) : (pflat R)[i * 9 + j]? = (pcells r.1 r.2)[j]? := by
  induction R generalizing i with
  | nil => simp at h
  | cons x R ih =>
    rw [pflat_cons]
    cases i with
    | zero => simp at h; subst h; rw [Nat.zero_mul, Nat.zero_add, List.getElem?_append_left (by rw [pcells_len]; exact hj)]
    | succ i =>
      have h' : R[i]? = some r := by simpa using h
      rw [List.getElem?_append_right (by rw [pcells_len]; omega), pcells_len, ← ih h']
      congr 1
      omega
theorem pcells_one {x : Pk} {d : Value} (hd : d.oneCell' = true) : ∀ u ∈ pcells x d, u.oneCell' = true := by
  intro u hu
  simp [pcells] at hu
  rcases hu with h | h | h | h | h | h | h | h | h <;> subst h <;> first | rfl | exact hd
/-- The nine cells of element i of a row that lies from o on. -/
theorem pk_at {w : World} {b o i : Nat} {R : List (Pk × Value)} {x : Pk} {d : Value} (hc : ∀ i u, (pflat R)[i]? = some u → w.cell? ⟨b, o + i, none⟩ = some u) (h : R[i]? = some (x, d)) :
    w.cell? ⟨b, o + i * 9, none⟩ = some (.int .i64 x.k) ∧ w.cell? ⟨b, o + i * 9 + 1, none⟩ = some (.int .i64 x.f) ∧ w.cell? ⟨b, o + i * 9 + 2, none⟩ = some (.int .i64 x.t) ∧ w.cell? ⟨b, o + i * 9 + 3, none⟩ = some (.int .i64 x.i) ∧
    w.cell? ⟨b, o + i * 9 + 4, none⟩ = some (.int .i64 x.l) ∧ w.cell? ⟨b, o + i * 9 + 5, none⟩ = some (.int .i64 x.p) ∧ w.cell? ⟨b, o + i * 9 + 6, none⟩ = some (.int .i64 x.s) ∧ w.cell? ⟨b, o + i * 9 + 7, none⟩ = some (.bool x.fl) ∧ w.cell? ⟨b, o + i * 9 + 8, none⟩ = some d := by
  have g : ∀ j u, j < 9 → (pcells x d)[j]? = some u → w.cell? ⟨b, o + i * 9 + j, none⟩ = some u := fun j u hj hu => by rw [Nat.add_assoc]; exact hc _ u (by rw [pflat_get h j hj]; exact hu)
  exact ⟨g 0 _ (by omega) rfl, g 1 _ (by omega) rfl, g 2 _ (by omega) rfl, g 3 _ (by omega) rfl, g 4 _ (by omega) rfl, g 5 _ (by omega) rfl, g 6 _ (by omega) rfl, g 7 _ (by omega) rfl, g 8 _ (by omega) rfl⟩
/-- A packet's words, in a block of D if there are any. -/
def Dat (w : World) (D : Nat → Prop) (x : Pk) (d : Value) : Prop := ∃ a n c, d = .slice a n c ∧ Sl w a n c x.z ∧ n ≤ 17592186044416 ∧ (x.z ≠ [] → ∀ y : Addr, a = some y → D y.block)
theorem Dat.keep {w w' : World} {D F : Nat → Prop} {x : Pk} {d : Value} (h : Dat w D x d) (hk : Keep F w w') (hF : ∀ k, D k → ¬ F k) : Dat w' D x d := by
  obtain ⟨a, n, c, e, hs, hn, hd⟩ := h
  exact ⟨a, n, c, e, hs.keep hk (fun hz y hy => hF _ (hd hz y hy)), hn, hd⟩
theorem Dat.below {w w' : World} {D : Nat → Prop} {x : Pk} {d : Value} (h : Dat w D x d) (hb : Below w.heap.size w w') : Dat w' D x d := h.keep (F := fun _ => False) (Keep.of_below hb) (fun _ _ h => h)
theorem Dat.imp {w : World} {D E : Nat → Prop} {x : Pk} {d : Value} (h : Dat w D x d) (hD : ∀ k, k < w.heap.size → D k → E k) : Dat w E x d := by
  obtain ⟨a, n, c, e, hs, hn, hd⟩ := h
  refine ⟨a, n, c, e, hs, hn, fun hz y hy => hD _ ?_ (hd hz y hy)⟩
  rcases hs.row with h0 | ⟨b, o, rfl, hc⟩
  · exact absurd h0 hz
  · obtain rfl := Option.some.inj hy
    have h1 := hc 0 (by cases hh : x.z with | nil => exact absurd hh hz | cons => simp)
    exact World.block_lt_of_cell? w _ h1
theorem Dat.one {w : World} {D : Nat → Prop} {x : Pk} {d : Value} (h : Dat w D x d) : d.oneCell' = true := by
  obtain ⟨a, n, c, rfl, _⟩ := h
  rfl
theorem dat_own {w : World} {base : Nat} {v : Value} {x : Pk} (h : Own w base v x.z) (hn : x.z.length ≤ 17592186044416) : Dat w (fun k => base ≤ k) x v := by
  obtain ⟨a, c, rfl, hs⟩ := h.sl
  exact ⟨a, _, c, rfl, hs, hn, fun _ y hy => (h.lo y hy).1⟩
theorem dat_nil (w : World) (D : Nat → Prop) {x : Pk} (h : x.z = []) : Dat w D x (.slice none 0 0) := ⟨none, 0, 0, rfl, by rw [h]; exact sl_nil w, by omega, fun hz => absurd h hz⟩
/-- A packet's words, if there are any, may be written. -/
def Soft (w : World) (x : Pk) (d : Value) : Prop := x.z ≠ [] → ∀ a n c, d = .slice (some a) n c → ∀ o, w.frozen? ⟨a.block, o, none⟩ = false
theorem Soft.keep {w w' : World} {D F : Nat → Prop} {x : Pk} {d : Value} (h : Soft w x d) (hd : Dat w D x d) (hk : Keep F w w') (hF : ∀ k, D k → ¬ F k) : Soft w' x d := by
  intro hz a n c e o
  obtain ⟨a1, n1, c1, e1, hs, _, hD⟩ := hd
  rw [e1] at e
  injection e with e2 e3 e4
  subst e2
  have hlt : a.block < w.heap.size := by
    rcases hs.row with h0 | ⟨b, of, e5, hc⟩
    · exact absurd h0 hz
    · obtain rfl := Option.some.inj e5
      exact World.block_lt_of_cell? w _ (hc 0 (by cases hh : x.z with | nil => exact absurd hh hz | cons => simp))
  rw [hk.frozen o hlt (hF _ (hD hz a rfl))]
  exact h hz a n1 c1 e1 o
theorem soft_own {w : World} {base : Nat} {v : Value} {x : Pk} (h : Own w base v x.z) : Soft w x v := by
  intro _ a n c e o
  rcases h.2 with ⟨e', _⟩ | ⟨b, cap', cur, e', hb, hg, r⟩
  · rw [e] at e'; cases e'
  · rw [e] at e'
    injection e' with e1 e2 e3
    obtain rfl := Option.some.inj e1
    simp [World.frozen?, hg]
theorem Own.base {w : World} {base : Nat} {v : Value} {l : List Int} (h : Own w base v l) : ∀ k, v.ownBlock = some k → base ≤ k ∧ k < w.heap.size := by
  intro k hk
  rcases h.2 with ⟨rfl, _⟩ | ⟨g, c, cur, rfl, hb, hg, _⟩
  · simp [Value.ownBlock] at hk
  · simp [Value.ownBlock] at hk
    subst hk
    exact ⟨hb, (Array.getElem?_eq_some_iff.1 hg).1⟩
theorem cell_i1 (w : World) (x : Int) : ∀ j u, (cells [x])[j]? = some u → (w.alloc (.cells #[.int .i64 x] 3)).cell? ((⟨w.heap.size, 0, none⟩ : Addr).add j) = some u := by
  intro j u hu
  obtain ⟨hj, rfl⟩ := cells_get hu
  rw [Addr.add_lit, Nat.zero_add, cell_of_row _ _ _ _ 3 (0, 0) (heap_alloc_new w _)]
  simp at hj
  match j, hj with
  | 0, _ => rfl
theorem Own.keep {w w' : World} {F : Nat → Prop} {base : Nat} {v : Value} {l : List Int} (h : Own w base v l) (hk : Keep F w w') (hF : ∀ k, v.ownBlock = some k → ¬ F k) : Own w' base v l := by
  refine ⟨h.1, h.2.imp id ?_⟩
  rintro ⟨g, cap, cur, rfl, hg, hh, rest⟩
  exact ⟨g, cap, cur, rfl, hg, by rw [hk.block g (Array.getElem?_eq_some_iff.1 hh).1 (hF g rfl)]; exact hh, rest⟩
theorem Bx.keep {W W' : World} {F : Nat → Prop} {g : Nat} {x : Pk} {d : Value} (h : Bx W g x d) (hk : Keep F W W') (hF : ¬ F g) : Bx W' g x d :=
  have e := fun o => hk.cell (b := g) o h.lt hF
  ⟨(e 0).trans h.c0, (e 1).trans h.c1, (e 2).trans h.c2, (e 3).trans h.c3, (e 4).trans h.c4, (e 5).trans h.c5, (e 6).trans h.c6, (e 7).trans h.c7, (e 8).trans h.c8, fun o => (hk.frozen (b := g) o h.lt hF).trans (h.fz o), Nat.lt_of_lt_of_le h.lt hk.size⟩
/-- Writing into a list of its own. -/
theorem Own.poke {w : World} {base n c k : Nat} {a : Option Addr} {l : List Int} (h : Own w base (.slice a n c) l) (hn : l.length = n) (hk : k < n) : ∃ b y, a = some ⟨b, 0, none⟩ ∧ base ≤ b ∧ b < w.heap.size ∧ w.cell? ⟨b, k, none⟩ = some (.int .i64 y) ∧ w.frozen? ⟨b, k, none⟩ = false ∧
    ∀ v, Own (w.setCell ⟨b, k, none⟩ (.int .i64 v)) base (.slice a n c) (l.set k v) := by
  subst hn
  obtain ⟨a', c', e, hs⟩ := h.sl
  injection e with e1 e2 e3
  subst e1 e3
  rcases h.2 with ⟨e', h1⟩ | ⟨b, cap', cur, e', hb, hg, r⟩
  · omega
  · injection e' with e1 e2 e3
    subst e1 e3
    obtain ⟨b', o', e4, hlt, hc⟩ := hs.at hk
    simp at e4
    obtain ⟨rfl, rfl⟩ := e4
    rw [Nat.zero_add] at hc
    refine ⟨b, _, rfl, hb, hlt, hc, by simp [World.frozen?, hg], fun v => ?_⟩
    have := (World.ownsRow.stored h k (.int .i64 v)).1
    have e : (cells l).set k (.int .i64 v) = cells (l.set k v) := by simp [cells, List.map_set]
    rw [e] at this
    unfold Own
    rw [List.length_set]
    exact this
theorem Try.infoPk : (Try.prog.info? 32).map (fun i => (i.zero, i.size, i.bytes)) = some (some (zeroPk.val (.slice none 0 0)), 9, 88) := by kernel_rfl
end Go.Proofs.Ytgeiagndpfdnlaa
