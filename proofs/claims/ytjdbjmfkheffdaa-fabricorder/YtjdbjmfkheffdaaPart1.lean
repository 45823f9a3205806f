/- Slices of whole numbers: what can be read of them (Sl), what a call has made (Own); worlds that only grew (Up) and regions that draw their order over them; the helps Within, Copy and Cut over whole numbers. Conditions: as each theorem states them.
How arguments come in: structs by value cell by cell, whole numbers, flags, lists of them. Conditions: as each theorem states them.
What a step leaves alone (Keep); rows of values that can be read (SlV), and that may be written, with the room behind them (Rw); append onto such a row. Nothing of the program is named here.
Lists of flags as they come in. No condition.
Regions that draw their order and also make or write memory: an operation that yields one value in every world that has only grown, and lets the world only grow, may be taken first, calls among them; what is left is walked in the orders that remain. Nothing of the program is named here.
More of regions that draw their order: two that may come up; what was made on the way is there from then on. Nothing of the program is named here.
Regions that draw their order, order by order: what looks at no memory is taken first. Nothing of the program is named here.
Packets as plain data; a packet's variable in memory; rows of packets, their words. Conditions: as each theorem states them.
Rows of packets in memory that may be written, their words elsewhere (PRow). Nothing of the program but packets is named here.
A queue, or a pool, in memory (Qu): its room, its packets; rows of packets out of it (NewRow). Nothing of the program but packets is named here.
Rows of packets whose slices lie in one block, a cell each (Net): what may be read of them, and what a write to one of them leaves of the others. Nothing of the program but packets is named here. -/
import Derived.Test.YtjdbjmfkheffdaaRows
import Derived.WalkKit
import Derived.WalkSpells
import Derived.BigQuiet
import Derived.WalkLawsBesides
import Derived.Laws.AppendOwnNone
import Derived.Laws.CopyOwn
import Derived.Deep.RegionHeld3
import Derived.Deep.DeepCutAuto
import Derived.ProofKit
import Derived.OpenShut
import Derived.ChangeOld
import Derived.Below
import Derived.Lib.SmallJoins
import Derived.ArgAppend
import Derived.Deep.Grids
import Derived.OrdersHeld
import Derived.Deep.CutBlock
section
namespace Go.Proofs.Ytjdbjmfkheffdaa
open Go.RowKit
set_option linter.unusedVariables false

theorem ret_bool {a b : Bool} (h : a = b) : Ending.returned (.bool a) = .returned (.bool b) := by rw [h]
theorem ret_int {k : IntKind} {a b : Int} (h : a = b) : Ending.returned (.int k a) = .returned (.int k b) := by rw [h]
theorem below_dn (w : World) (k : Nat) : Below w.heap.size w (w.drewN k) := ⟨rfl, rfl, rfl, Nat.le_refl _, fun _ _ => rfl⟩

theorem bcell {W w1 : World} (hb : Below W.heap.size W w1) : (∀ b o, b < W.heap.size → w1.cell? ⟨b, o, none⟩ = W.cell? ⟨b, o, none⟩) ∧ (∀ b o, b < W.heap.size → w1.frozen? ⟨b, o, none⟩ = W.frozen? ⟨b, o, none⟩) :=
  ⟨fun b o h => hb.cell (p := ⟨b, o, none⟩) h, fun b o h => hb.frozen (p := ⟨b, o, none⟩) h⟩
theorem ba {w x : World} {o : Obj} (h : Below w.heap.size w x) : Below w.heap.size w (x.alloc o) := h.alloc h.size o
theorem next {W w1 w2 : World} (h1 : Below W.heap.size W w1) (h2 : Below w1.heap.size w1 w2) : Below W.heap.size W w2 := h1.trans (h2.mono h1.size)
/-- What was there is there, and as it was. -/
def Up (w : World) : Type := { u : World // Below w.heap.size w u }
instance Up.some (w : World) : Nonempty (Up w) := ⟨⟨w, Below.refl _ _⟩⟩
theorem Up.cell {w : World} (u : Up w) (b o : Nat) (h : b < w.heap.size) : u.1.cell? ⟨b, o, none⟩ = w.cell? ⟨b, o, none⟩ := u.2.cell (p := ⟨b, o, none⟩) h
theorem Up.frozen {w : World} (u : Up w) (b o : Nat) (h : b < w.heap.size) : u.1.frozen? ⟨b, o, none⟩ = w.frozen? ⟨b, o, none⟩ := u.2.frozen (p := ⟨b, o, none⟩) h
theorem Up.lt {w : World} (u : Up w) (n : Nat) (h : n < w.heap.size) : n < u.1.heap.size := Nat.lt_of_lt_of_le h u.2.size
/-- A region that draws its order, whose operations only read and whose calls only make memory: one walk, in the order of the text. -/
theorem wp_region_up {P : Program} {id : Nat} {Q : Exit → Act → World → Prop} {a : Act} {w : World} {l : List Oper} (hm : P.follows .mixedOrders = true) (hB : Region.lexB .any l.toArray = true)
    (h : wpQuiet P l.toArray (fun w' => ∃ u : Up w, w' = u.1) (fun a' => ∀ w', (∃ u : Up w, w' = u.1) → Q .normal a' w') l a) : (Code.region id l.toArray true).wp P Q a w :=
  wp_region_quiet (C := fun w' => ∃ u : Up w, w' = u.1) hm hB ⟨⟨w.drew, (Below.refl _ _).drew⟩, rfl⟩ (by simpa using h)
/-- A call in such a region. -/
theorem Calls.up_of {P : Program} {f : FuncId} {args : Array Value} {w : World} {u : Up w} {v : Value}
    (h : Calls P f args u.1 fun e w' => e = .returned v ∧ Below u.1.heap.size u.1 w') : Calls P f args u.1 fun e w'' => e = .returned v ∧ ∃ u' : Up w, w'' = u'.1 :=
  h.mono fun _ _ ⟨he, hb⟩ => ⟨he, ⟨_, u.2.trans (hb.mono u.2.size)⟩, rfl⟩
theorem Calls.up_same {P : Program} {f : FuncId} {args : Array Value} {w : World} {u : Up w} {v : Value}
    (h : Calls P f args u.1 fun e w' => e = .returned v ∧ u.1 = w') : Calls P f args u.1 fun e w'' => e = .returned v ∧ ∃ u' : Up w, w'' = u'.1 :=
  h.mono fun _ _ ⟨he, hb⟩ => ⟨he, u, hb.symm⟩

/-- The numbers l lie where a slice at address a says. -/
def Row (w : World) (a : Option Addr) (l : List Int) : Prop :=
  l = [] ∨ ∃ b o, a = some ⟨b, o, none⟩ ∧ ∀ i, i < l.length → w.cell? ⟨b, o + i, none⟩ = some (.int .i64 (l[i]?.getD 0))

/-- A slice of whole numbers: nil, or so many cells, not more than its capacity. -/
structure Sl (w : World) (a : Option Addr) (n cap : Nat) (l : List Int) : Prop where
  len : l.length = n
  le : n ≤ cap
  max : cap ≤ maxLen
  nil : a = none → cap = 0
  row : Row w a l
def cells (l : List Int) : List Value := l.map (Value.int .i64)
/-- A slice of whole numbers that was made since the heap had 'base' blocks, and is nobody else's. -/
def Own (w : World) (base : Nat) (v : Value) (l : List Int) : Prop := w.ownsRow base 3 1 v l.length (cells l)

theorem cells_get {l : List Int} {j : Nat} {u : Value} (h : (cells l)[j]? = some u) : j < l.length ∧ u = .int .i64 (l[j]?.getD 0) := by
  have hj : j < l.length := by have := (List.getElem?_eq_some_iff.1 h).1; simpa [cells] using this
  refine ⟨hj, ?_⟩
  simp [cells, hj] at h
  simp [hj, h]
theorem Own.sl {w : World} {base : Nat} {v : Value} {l : List Int} (h : Own w base v l) : ∃ a cap, v = .slice a l.length cap ∧ Sl w a l.length cap l := by
  obtain ⟨h1, h2⟩ := h
  rcases h2 with ⟨rfl, h0⟩ | ⟨g, cap, cur, rfl, hb, hg, hle, hm, hsz, ht⟩
  · have : l = [] := List.eq_nil_of_length_eq_zero h0
    subst this
    exact ⟨none, 0, rfl, rfl, Nat.le_refl _, Nat.zero_le _, fun _ => rfl, .inl rfl⟩
  · refine ⟨some ⟨g, 0, none⟩, cap, rfl, rfl, hle, hm, fun h => (by cases h), Or.inr ⟨g, 0, rfl, fun i hi => ?_⟩⟩
    rw [Nat.zero_add, cell_of_row w g i cur 3 (0, 0) hg]
    have e : (cells l)[i]? = some (.int .i64 (l[i]?.getD 0)) := by simp [cells, hi]
    rw [← ht, List.getElem?_take] at e
    split at e
    · simpa using e
    · cases e
theorem Own.sl' {w : World} {base n : Nat} {v : Value} {l : List Int} (h : Own w base v l) (hn : l.length = n) : ∃ a cap, v = .slice a n cap ∧ Sl w a n cap l := by
  subst hn; exact h.sl
theorem Row.cellsAt {w : World} {x : Addr} {l : List Int} (h : Row w (some x) l) : ∀ j u, (cells l)[j]? = some u → w.cell? (x.add j) = some u := by
  intro j u hu
  obtain ⟨hj, rfl⟩ := cells_get hu
  rcases h with rfl | ⟨b, o, e, hc⟩
  · simp at hj
  · obtain rfl := Option.some.inj e
    rw [Addr.add_lit]; exact hc j hj
theorem cells_one (l : List Int) : ∀ u ∈ cells l, u.oneCell' = true := ints_oneCell .i64 l
theorem Row.take {w : World} {a : Option Addr} {l : List Int} (h : Row w a l) (k : Nat) : Row w a (l.take k) := by
  rcases h with rfl | ⟨b, o, rfl, hc⟩
  · exact .inl (by simp)
  · refine .inr ⟨b, o, rfl, fun i hi => ?_⟩
    have hi' : i < k ∧ i < l.length := by simp at hi; omega
    rw [hc i hi'.2]; simp [hi'.1]
theorem Sl.take {w : World} {a : Option Addr} {n cap : Nat} {l : List Int} (h : Sl w a n cap l) (k : Nat) (hk : k ≤ n) : Sl w a k cap (l.take k) :=
  ⟨by have := h.len; simp; omega, Nat.le_trans hk h.le, h.max, h.nil, h.row.take k⟩
/-- A block that is there. -/
def There (w : World) (a : Option Addr) : Prop := ∀ x, a = some x → x.block < w.heap.size
theorem Row.below {w w' : World} {a : Option Addr} {l : List Int} (h : Row w a l) (hb : Below w.heap.size w w') : Row w' a l := by
  rcases h with rfl | ⟨b, o, rfl, hc⟩
  · exact .inl rfl
  · refine .inr ⟨b, o, rfl, fun i hi => ?_⟩
    have hi' := hc i hi
    have hlt : b < w.heap.size := World.block_lt_of_cell? w _ hi'
    rw [hb.cell (p := ⟨b, o + i, none⟩) hlt]; exact hi'
theorem Sl.below {w w' : World} {a : Option Addr} {n cap : Nat} {l : List Int} (h : Sl w a n cap l) (hb : Below w.heap.size w w') : Sl w' a n cap l :=
  ⟨h.len, h.le, h.max, h.nil, h.row.below hb⟩
/-- A slice of whole numbers that came in. -/
theorem sl_of {w : World} {a : Option Addr} {len cap : Nat} {zs : List Int}
    (h : (a = none ∧ len = 0 ∧ cap = 0 ∧ zs = []) ∨ ∃ x, a = some x ∧ len ≤ cap ∧ cap ≤ maxLen ∧ zs.length = cap ∧ (∀ i, i < zs.length → w.cell? (x.add i) = some (.int .i64 (zs.getD i 0))) ∧ ∀ n ∈ zs, (Lit.int .i64 n).wf = true) :
    Sl w a len cap (zs.take len) := by
  rcases h with ⟨rfl, rfl, rfl, rfl⟩ | ⟨x, rfl, hl, hm, hz, hcell, hwz⟩
  · exact ⟨rfl, Nat.le_refl _, Nat.zero_le _, fun _ => rfl, Or.inl rfl⟩
  · refine ⟨by simp; omega, hl, hm, fun h => (by cases h), ?_⟩
    by_cases h0 : len = 0
    · subst h0; exact Or.inl (by simp)
    · obtain ⟨b, off, spot⟩ := x
      have hc := hcell 0 (by omega)
      have hspot : spot = none := by simpa [Addr.add] using World.cell?_spot hc
      subst hspot
      refine Or.inr ⟨b, off, rfl, fun i hi => ?_⟩
      have hi' : i < len := by simp at hi; omega
      have := hcell i (by omega)
      rw [Addr.add_lit] at this
      rw [this]; simp [hi', List.getD]
theorem Try.infoInt : (Try.prog.info? 3).map (fun i => (i.zero, i.size, i.bytes)) = some (some (.int .i64 0), 1, 8) := by kernel_rfl
theorem Sl.same {w w' : World} {a : Option Addr} {n cap : Nat} {l : List Int} (h : Sl w a n cap l) (hh : w'.heap = w.heap) : Sl w' a n cap l := by
  refine ⟨h.len, h.le, h.max, h.nil, ?_⟩
  rcases h.row with h0 | ⟨b, o, e, hc⟩
  · exact .inl h0
  · exact .inr ⟨b, o, e, fun i hi => by rw [← hc i hi]; simp [World.cell?, hh]⟩
theorem Sl.none0 {w : World} {a : Option Addr} {n cap : Nat} {l : List Int} (h : Sl w a n cap l) : a = none → n = 0 ∧ cap = 0 := fun e => ⟨by have := h.nil e; have := h.le; omega, h.nil e⟩
theorem sl_nil (w : World) : Sl w none 0 0 [] := ⟨rfl, Nat.le_refl _, Nat.zero_le _, fun _ => rfl, .inl rfl⟩
theorem own_nil (w : World) (base : Nat) : Own w base (.slice none 0 0) [] := World.ownsRow_nil _ _ _ _
theorem below_new {w w' : World} (h : w.grownBy w' none) : Below w.heap.size w w' := (Below.refl _ _).grown h (Nat.le_refl _) (by intro k hk; cases hk)

theorem copy_any (a : Option Addr) (l : List Int) (n cap : Nat) (w : World) (hsl : Sl w a n cap l) (hb : n ≤ 17592186044416) :
    Calls Try.prog 52 #[.slice a n cap] w fun e w' => ∃ v, e = .returned v ∧ Own w' w.heap.size v l ∧ Below w.heap.size w w' := by
  obtain ⟨hn, hle, hmx, hnil, hr⟩ := hsl
  obtain ⟨i0, hi, hz0, hz1, hz2⟩ := info_parts Try.infoInt
  have hm : n ≤ maxLen := Nat.le_trans hle hmx
  cases a with
  | none =>
    obtain rfl : cap = 0 := hnil rfl
    obtain rfl : n = 0 := by omega
    obtain rfl : l = [] := List.eq_nil_of_length_eq_zero hn
    go_enter Try.func52, Try.ntmps52
    go_wp2_with (at_builtin; refine wpList_append_own_none rfl _ _ 22 rfl w.heap.size 3 i0 1 Try.underlying22 hi _ 0 [] rfl (World.ownsRow_nil _ _ _ _) rfl ?_)
    go_ret
    exact ⟨_, rfl, own_nil _ _, Below.refl _ _⟩
  | some x =>
    go_enter Try.func52, Try.ntmps52
    go_wp2_with (at_builtin; refine wpList_append_own _ rfl _ _ 22 rfl w.heap.size 3 i0 (.int .i64 0) 1 8 Try.underlying22 hi hz0 hz1 hz2 rfl (by decide) _ 0 [] rfl (World.ownsRow_nil _ _ _ _) x n cap (cells l) rfl (by simp [cells, hn]) hr.cellsAt (cells_one l) (by omega) (by omega) (Nat.le_refl _) ?_)
    intro v' w1 hown hgrow _
    go_wp2
    go_ret
    refine ⟨_, rfl, by simpa [Own, hn] using hown, (Below.refl _ _).grown hgrow (Nat.le_refl _) (by intro k hk; simp [Value.ownBlock] at hk)⟩

theorem tmod_neg {v n : Int} (hn : 1 ≤ n) (h : v.tmod n < 0) : v.tmod n + n = v % n ∧ -n < v.tmod n := by
  have h1 : -n < v.tmod n := by have := Int.tmod_lt_of_pos (-v) (show 0 < n by omega); rw [Int.neg_tmod] at this; omega
  refine ⟨?_, h1⟩
  have h2 := Int.mul_tdiv_add_tmod v n
  have h3 : v % n = (v.tmod n) % n := by
    conv => lhs; rw [← h2]
    rw [Int.add_comm, Int.add_mul_emod_self_left]
  rw [h3, ← Int.add_emod_right, Int.emod_eq_of_lt (by omega) (by omega)]
theorem tmod_pos {v n : Int} (hn : 1 ≤ n) (h : 0 ≤ v.tmod n) : v.tmod n = v % n := by
  have h1 : v.tmod n < n := Int.tmod_lt_of_pos v (by omega)
  have h2 := Int.mul_tdiv_add_tmod v n
  have h3 : v % n = (v.tmod n) % n := by
    conv => lhs; rw [← h2]
    rw [Int.add_comm, Int.add_mul_emod_self_left]
  rw [h3, Int.emod_eq_of_lt (by omega) (by omega)]
theorem within_any (v n : Int) (w : World) (hn0 : 1 ≤ n) (hn1 : n ≤ 1000000) :
    Calls Try.prog 11 #[.int .i64 v, .int .i64 n] w fun e w' => e = .returned (.int .i64 (v % n)) ∧ w = w' := by
  go_enter Try.func11, Try.ntmps11
  go_wp2
  · go_ret
    have h : v.tmod n < 0 := by assumption
    obtain ⟨h1, h2⟩ := tmod_neg hn0 h
    refine ⟨ret_int ?_, rfl⟩
    rw [← h1]
    exact IntWalk.wrap64_in _ (by omega)
  · go_ret
    exact ⟨ret_int (tmod_pos hn0 (by assumption)), rfl⟩

theorem cut_any (a : Option Addr) (l : List Int) (n cap m : Nat) (w : World) (hsl : Sl w a n cap l) (hb : m ≤ 1000000) :
    Calls Try.prog 28 #[.slice a n cap, .int .i64 m] w fun e w' => ∃ v, e = .returned v ∧ Own w' w.heap.size v (l.take m) ∧ Below w.heap.size w w' := by
  have hle := hsl.le
  have hmx := hsl.max
  unfold maxLen at hmx
  have hl := hsl.len
  by_cases hc : n ≤ m
  · have he : Hid (l.take m = l) := List.take_of_length_le (by omega)
    go_enter Try.func28, Try.ntmps28
    go_wp2_with (go_at_call 52; refine (copy_any a l n cap w hsl (by omega)).mono ?_; rintro e w' ⟨v, rfl, hown, hbel⟩)
    go_ret
    exact ⟨_, rfl, by rw [he.out]; assumption, by assumption⟩
  · have hs2 := hsl.take m (by omega)
    go_enter Try.func28, Try.ntmps28
    go_wp2_with (go_at_call 52; refine (copy_any a (l.take m) m cap w hs2 (by omega)).mono ?_; rintro e w' ⟨v, rfl, hown, hbel⟩)
    go_ret
    exact ⟨_, rfl, by assumption, by assumption⟩

theorem cut_x (a : Option Addr) (l : List Int) (n cap m : Nat) (x : Int) (w : World) (hsl : Sl w a n cap l) (hb : m ≤ 1000000) (hx : x = (m : Int)) :
    Calls Try.prog 28 #[.slice a n cap, .int .i64 x] w fun e w' => ∃ v, e = .returned v ∧ Own w' w.heap.size v (l.take m) ∧ Below w.heap.size w w' := by
  subst hx; exact cut_any a l n cap m w hsl hb
theorem Own.low {w : World} {base base' : Nat} {v : Value} {l : List Int} (h : Own w base v l) (hb : base' ≤ base) : Own w base' v l := by
  refine ⟨h.1, h.2.imp id ?_⟩
  rintro ⟨g, cap, cur, e, hg, rest⟩
  exact ⟨g, cap, cur, e, Nat.le_trans hb hg, rest⟩
theorem Own.set {w : World} {base : Nat} {v : Value} {l : List Int} (h : Own w base v l) {p : Addr} (hp : p.block < base) (u : Value) : Own (w.setCell p u) base v l := ownsRow_setCell_below h hp u
theorem Own.below {w w' : World} {base : Nat} {v : Value} {l : List Int} (h : Own w base v l) (hb : Below w.heap.size w w') : Own w' base v l := by
  refine ⟨h.1, h.2.imp id ?_⟩
  rintro ⟨g, cap, cur, e, hg, hh, rest⟩
  exact ⟨g, cap, cur, e, hg, by rw [hb.block g (by rcases Nat.lt_or_ge g w.heap.size with h | h; exact h; rw [Array.getElem?_eq_none h] at hh; cases hh)]; exact hh, rest⟩
theorem take_same {l m : List Int} {k : Nat} (h : l.take k = m.take k) (hx : l[k]?.getD 0 = m[k]?.getD 0) (h1 : k < l.length) (h2 : k < m.length) : l.take (k + 1) = m.take (k + 1) := by
  rw [List.take_succ_eq_append_getElem h1, List.take_succ_eq_append_getElem h2, h]
  simp [h1, h2] at hx
  rw [hx]
end Go.Proofs.Ytjdbjmfkheffdaa
end
section
namespace Go.Proofs.Ytjdbjmfkheffdaa
open Go.ChangeShapes Go.WideShapes Go.ChangeAt Go.RowKit Go.Joins
set_option linter.unusedVariables false

section
variable {H : Type} {enc : TypeId × Value → H} {P : Program} {w : World} {base : Nat} {spare : Nat → Bool} {held : Bool}
/-- A struct by value whose fields are of one cell each: every field's cell with its reading. -/
theorem agg_cells {r : Reach} {b0 : Nat} {t : TypeId} {fs : Array Field} {v : Value} {d : DataW H} {p : List MemPlace} (hs : P.underlying t = some (.struct fs)) (hone : Deep.oneCellFields P fs = true) (hC : P.cellsOf t = fs.size)
    (hv : Value.okWide P w r b0 t v) (h : DataW.Trod enc P w base spare held t v d p) :
    ∃ cs : Array Value, v = .agg cs ∧ cs.size = fs.size ∧ ∀ (i : Nat) (f : Field), fs[i]? = some f → ∃ c n y, cs[i]? = some c ∧ DataW.trod enc P w base spare held n f.type [c] = some y := by
  obtain ⟨cs, rfl, hsz⟩ := okWide_struct hs hv
  obtain ⟨fuel, hf⟩ := h
  obtain ⟨xs, n, _, _, hl, hlen, hfs⟩ := DataW.trod_struct hs hf
  refine ⟨cs, rfl, hsz.trans hC, fun i f hi => ?_⟩
  obtain ⟨o0, k0⟩ := Deep.hone_of hone i f hi
  have hi' : i < fs.size := (Array.getElem?_eq_some_iff.1 hi).1
  have hc : i < cs.size := by omega
  have hx := hfs i f hi
  rw [o0, k0, List.getElem?_eq_getElem (by omega)] at hx
  refine ⟨cs[i], n, xs[i]'(by omega), by simp [hc], ?_⟩
  have e : ((Value.cells (.agg cs)).toList.drop i).take 1 = [cs[i]] := by
    simp [Value.cells, List.drop_eq_getElem_cons (show i < cs.toList.length by simpa using hc)]
  rw [← e]; exact hx
end

/-- Words of 64 bits. -/
def R64 (l : List Int) : Prop := ∀ x ∈ l, -9223372036854775808 ≤ x ∧ x ≤ 9223372036854775807
theorem wf_i64 {n : Int} (h : (Lit.int .i64 n).wf = true) : -9223372036854775808 ≤ n ∧ n ≤ 9223372036854775807 := by
  simp [Lit.wf, IntKind.min, IntKind.max, IntKind.signed, IntKind.bits] at h; omega
theorem wf_u8 {n : Int} (h : (Lit.int .u8 n).wf = true) : 0 ≤ n ∧ n < 256 := by
  simp [Lit.wf, IntKind.min, IntKind.max, IntKind.signed, IntKind.bits] at h; omega
theorem R64.take {l : List Int} (h : R64 l) (k : Nat) : R64 (l.take k) := fun x hx => h x (List.mem_of_mem_take hx)
section
variable {H : Type} {enc : TypeId × Value → H} {w : World} {base n : Nat}
theorem int_cell {spare : Nat → Bool} {held : Bool} {c : Value} {y : DataW H × List MemPlace} (h : DataW.trod enc Try.prog w base spare held n 3 [c] = some y) : ∃ x, c = .int .i64 x := by
  obtain ⟨x, e, _⟩ := DataW.trod_int Try.underlying3 h
  simp at e
  exact ⟨x, e⟩
theorem bool_cell {spare : Nat → Bool} {held : Bool} {c : Value} {y : DataW H × List MemPlace} (h : DataW.trod enc Try.prog w base spare held n 4 [c] = some y) : ∃ x, c = .bool x := by
  obtain ⟨x, e, _⟩ := DataW.trod_bool Try.underlying4 h
  simp at e
  exact ⟨x, e⟩
theorem ints_cell {held : Bool} {c : Value} {y : DataW H × List MemPlace} (h : DataW.trod enc Try.prog w base (fun _ => true) held n 22 [c] = some y) : ∃ a len cap z, c = .slice a len cap ∧ Sl w a len cap z ∧ R64 z := by
  rcases open_ints Try.underlying22 Try.underlying3 (by kernel_rfl) h with ⟨hcs, _⟩ | ⟨x, l, c', zs, hcs, _, hl, hm, hz, _, hcell, hwz⟩
  · simp at hcs
    exact ⟨none, 0, 0, [], hcs, sl_nil w, fun x hx => by cases hx⟩
  · simp at hcs
    exact ⟨some x, l, c', zs.take l, hcs, sl_of (.inr ⟨x, rfl, hl, hm, by simpa using hz, hcell, hwz⟩), R64.take (fun x hx => wf_i64 (hwz x hx)) l⟩
end
end Go.Proofs.Ytjdbjmfkheffdaa
end
section
namespace Go.Proofs.Ytjdbjmfkheffdaa
open Go.RowKit
set_option linter.unusedVariables false

/-- But for the blocks of F, what was there is as it was. -/
structure Keep (F : Nat → Prop) (w w' : World) : Prop where
  os : w'.os = w.os
  tape : w'.tape = w.tape
  output : w'.output = w.output
  size : w.heap.size ≤ w'.heap.size
  block : ∀ k, k < w.heap.size → ¬ F k → w'.heap[k]? = w.heap[k]?
theorem Keep.refl (F : Nat → Prop) (w : World) : Keep F w w := ⟨rfl, rfl, rfl, Nat.le_refl _, fun _ _ _ => rfl⟩
theorem Keep.of_below {F : Nat → Prop} {w w' : World} (h : Below w.heap.size w w') : Keep F w w' := ⟨h.os, h.tape, h.output, h.size, fun k hk _ => h.block k hk⟩
theorem Keep.trans {F G : Nat → Prop} {w w1 w2 : World} (h : Keep F w w1) (h2 : Keep G w1 w2) (hG : ∀ k, k < w.heap.size → G k → F k) : Keep F w w2 :=
  ⟨h2.os.trans h.os, h2.tape.trans h.tape, h2.output.trans h.output, Nat.le_trans h.size h2.size, fun k hk hF => (h2.block k (Nat.lt_of_lt_of_le hk h.size) (fun g => hF (hG k hk g))).trans (h.block k hk hF)⟩
theorem Keep.next {F : Nat → Prop} {w w1 w2 : World} (h : Keep F w w1) (h2 : Below w1.heap.size w1 w2) : Keep F w w2 := h.trans (Keep.of_below (F := fun _ => False) h2) (fun _ _ h => h.elim)
theorem Keep.mono {F G : Nat → Prop} {w w' : World} (h : Keep F w w') (hF : ∀ k, k < w.heap.size → F k → G k) : Keep G w w' := ⟨h.os, h.tape, h.output, h.size, fun k hk hG => h.block k hk (fun f => hG (hF k hk f))⟩
theorem Keep.pre {F : Nat → Prop} {w w1 w2 : World} (h : Below w.heap.size w w1) (h2 : Keep F w1 w2) : Keep F w w2 := (Keep.of_below h).trans h2 (fun _ _ h => h)
theorem Keep.setCell {F : Nat → Prop} {w w1 : World} (h : Keep F w w1) {p : Addr} (hp : F p.block ∨ w.heap.size ≤ p.block) (u : Value) : Keep F w (w1.setCell p u) :=
  ⟨h.os, h.tape, h.output, by simpa [World.setCell] using h.size, fun k hk hF => (Below.heap_setCell _ _ _ _ (by rintro rfl; rcases hp with hp | hp; exact hF hp; omega)).trans (h.block k hk hF)⟩
theorem Keep.setCells {F : Nat → Prop} {w : World} {b : Nat} (hp : F b ∨ w.heap.size ≤ b) : ∀ (vs : List Value) (o : Nat) (w1 : World), Keep F w w1 → Keep F w (w1.setCells b o vs)
  | [], _, _, h => h
  | v :: r, o, w1, h => Keep.setCells hp r (o + 1) _ (h.setCell (p := ⟨b, o, none⟩) hp v)
theorem Keep.below {F : Nat → Prop} {w w' : World} {base : Nat} (h : Keep F w w') (hF : ∀ k, F k → base ≤ k) (hb : base ≤ w.heap.size) : Below base w w' :=
  ⟨h.os, h.tape, h.output, h.size, fun k hk => h.block k (Nat.lt_of_lt_of_le hk hb) (fun f => by have := hF k f; omega)⟩
theorem Keep.cell {F : Nat → Prop} {w w' : World} (h : Keep F w w') {b : Nat} (o : Nat) (hb : b < w.heap.size) (hF : ¬ F b) : w'.cell? ⟨b, o, none⟩ = w.cell? ⟨b, o, none⟩ := World.cell?_of_block (w := w) (h.block b hb hF)
theorem Keep.frozen {F : Nat → Prop} {w w' : World} (h : Keep F w w') {b : Nat} (o : Nat) (hb : b < w.heap.size) (hF : ¬ F b) : w'.frozen? ⟨b, o, none⟩ = w.frozen? ⟨b, o, none⟩ := World.frozen?_of_block (w := w) (h.block b hb hF)
theorem Keep.after {F : Nat → Prop} {w V V' : World} (hk : Keep F V V') (h : Below w.heap.size w V) (hF : ∀ k, F k → w.heap.size ≤ k) : Below w.heap.size w V' := h.trans (hk.below hF h.size)
theorem Keep.afterN {F : Nat → Prop} {w V V' : World} {g : Nat} (hk : Keep F V V') (h : Below g w V) (hg : g ≤ V.heap.size) (hF : ∀ k, F k → g ≤ k) : Below g w V' := h.trans (hk.below hF hg)
theorem Keep.one (w : World) (b o : Nat) (v : Value) : Keep (fun k => k = b) w (w.setCell ⟨b, o, none⟩ v) := (Keep.refl (fun k => k = b) w).setCell (p := ⟨b, o, none⟩) (.inl rfl) v
theorem Keep.grown {w w' : World} {row : Option Nat} (hg : w.grownBy w' row) : Keep (fun k => some k = row) w w' := ⟨hg.os, hg.tape, hg.output, hg.size, fun k hk h => hg.block k hk h⟩
theorem Sl.keep {F : Nat → Prop} {w w' : World} {a : Option Addr} {n cap : Nat} {l : List Int} (h : Sl w a n cap l) (hk : Keep F w w') (hF : l ≠ [] → ∀ x : Addr, a = some x → ¬ F x.block) : Sl w' a n cap l := by
  refine ⟨h.len, h.le, h.max, h.nil, ?_⟩
  rcases h.row with h0 | ⟨b, o, rfl, hc⟩
  · exact .inl h0
  · by_cases hl : l = []
    · exact .inl hl
    · refine .inr ⟨b, o, rfl, fun i hi => ?_⟩
      have hi' := hc i hi
      rw [hk.cell _ (World.block_lt_of_cell? w _ hi') (hF hl ⟨b, o, none⟩ rfl)]; exact hi'

/-- A slice of n elements of es cells each whose cells can be read: they are vs. -/
structure SlV (w : World) (a : Option Addr) (n cap es : Nat) (vs : List Value) : Prop where
  len : vs.length = n * es
  le : n ≤ cap
  max : cap ≤ maxLen
  nil : a = none → cap = 0
  row : vs = [] ∨ ∃ b o, a = some ⟨b, o, none⟩ ∧ ∀ i u, vs[i]? = some u → w.cell? ⟨b, o + i, none⟩ = some u
theorem SlV.below {w w' : World} {a : Option Addr} {n cap es : Nat} {vs : List Value} (h : SlV w a n cap es vs) (hb : Below w.heap.size w w') : SlV w' a n cap es vs := by
  refine ⟨h.len, h.le, h.max, h.nil, h.row.imp id ?_⟩
  rintro ⟨b, o, rfl, hc⟩
  refine ⟨b, o, rfl, fun i u hu => ?_⟩
  have hi := hc i u hu
  rw [hb.cell (p := ⟨b, o + i, none⟩) (World.block_lt_of_cell? w _ hi)]
  exact hi
theorem SlV.same {w w' : World} {a : Option Addr} {n cap es : Nat} {vs : List Value} (h : SlV w a n cap es vs) (hh : w'.heap = w.heap) : SlV w' a n cap es vs := by
  refine ⟨h.len, h.le, h.max, h.nil, h.row.imp id ?_⟩
  rintro ⟨b, o, rfl, hc⟩
  exact ⟨b, o, rfl, fun i u hu => by rw [← hc i u hu]; simp [World.cell?, hh]⟩
theorem slv_nil (w : World) (es : Nat) : SlV w none 0 0 es [] := ⟨by simp, Nat.le_refl _, Nat.zero_le _, fun _ => rfl, .inl rfl⟩
theorem slv_own {w : World} {base e es n : Nat} {v : Value} {xs : List Value} (h : w.ownsRow base e es v n xs) : ∃ a cap, v = .slice a n cap ∧ SlV w a n cap es xs := by
  obtain ⟨h1, h2⟩ := h
  rcases h2 with ⟨rfl, rfl⟩ | ⟨g, cap, cur, rfl, hb, hg, hle, hm, hsz, ht⟩
  · obtain rfl : xs = [] := List.eq_nil_of_length_eq_zero (by simpa using h1)
    exact ⟨none, 0, rfl, slv_nil w es⟩
  · refine ⟨some ⟨g, 0, none⟩, cap, rfl, h1, hle, hm, fun h => (by cases h), .inr ⟨g, 0, rfl, fun i u hu => ?_⟩⟩
    rw [Nat.zero_add, cell_of_row w g i cur e (0, 0) hg]
    rw [← ht, List.getElem?_take] at hu
    split at hu
    · simpa using hu
    · cases hu

/-- A slice of n elements of es cells each, in a block of S, that may be written up to its capacity: its cells are vs. -/
structure Rw (w : World) (S : Nat → Prop) (a : Option Addr) (n cap es : Nat) (vs : List Value) : Prop where
  len : vs.length = n * es
  le : n ≤ cap
  max : cap ≤ maxLen
  nil : a = none → cap = 0
  row : cap = 0 ∨ ∃ b o, a = some ⟨b, o, none⟩ ∧ S b ∧ b < w.heap.size ∧ (∀ i u, vs[i]? = some u → w.cell? ⟨b, o + i, none⟩ = some u) ∧ (∀ i, i < cap * es → (w.cell? ⟨b, o + i, none⟩).isSome = true ∧ w.frozen? ⟨b, o + i, none⟩ = false)
theorem rw_nil (w : World) (S : Nat → Prop) (es : Nat) : Rw w S none 0 0 es [] := ⟨by simp, Nat.le_refl _, Nat.zero_le _, fun _ => rfl, .inl rfl⟩
theorem Rw.imp {w : World} {S T : Nat → Prop} {a : Option Addr} {n cap es : Nat} {vs : List Value} (h : Rw w S a n cap es vs) (hS : ∀ k, k < w.heap.size → S k → T k) : Rw w T a n cap es vs :=
  ⟨h.len, h.le, h.max, h.nil, h.row.imp id fun ⟨b, o, e, hs, hb, r⟩ => ⟨b, o, e, hS b hb hs, hb, r⟩⟩
theorem Rw.keep {w w' : World} {S F : Nat → Prop} {a : Option Addr} {n cap es : Nat} {vs : List Value} (h : Rw w S a n cap es vs) (hk : Keep F w w') (hF : ∀ k, S k → ¬ F k) : Rw w' S a n cap es vs :=
  ⟨h.len, h.le, h.max, h.nil, h.row.imp id fun ⟨b, o, e, hs, hb, r, f⟩ => ⟨b, o, e, hs, Nat.lt_of_lt_of_le hb hk.size, fun i u hu => by rw [hk.cell _ hb (hF b hs)]; exact r i u hu, fun i hi => by rw [hk.cell _ hb (hF b hs), hk.frozen _ hb (hF b hs)]; exact f i hi⟩⟩
theorem Rw.below {w w' : World} {S : Nat → Prop} {a : Option Addr} {n cap es : Nat} {vs : List Value} (h : Rw w S a n cap es vs) (hb : Below w.heap.size w w') : Rw w' S a n cap es vs :=
  h.keep (F := fun _ => False) (Keep.of_below hb) (fun _ _ h => h)
theorem Rw.slv {w : World} {S : Nat → Prop} {a : Option Addr} {n cap es : Nat} {vs : List Value} (h : Rw w S a n cap es vs) : SlV w a n cap es vs := by
  refine ⟨h.len, h.le, h.max, h.nil, ?_⟩
  rcases h.row with h0 | ⟨b, o, e, _, _, r, _⟩
  · left
    have h1 := h.len
    have h2 := h.le
    have : n = 0 := by omega
    subst this
    exact List.eq_nil_of_length_eq_zero (by simpa using h1)
  · exact .inr ⟨b, o, e, r⟩
theorem rw_own {w : World} {base e es n : Nat} {v : Value} {xs : List Value} (h : w.ownsRow base e es v n xs) : ∃ a cap, v = .slice a n cap ∧ Rw w (fun k => base ≤ k) a n cap es xs := by
  obtain ⟨h1, h2⟩ := h
  rcases h2 with ⟨rfl, rfl⟩ | ⟨g, cap, cur, rfl, hb, hg, hle, hm, hsz, ht⟩
  · obtain rfl : xs = [] := List.eq_nil_of_length_eq_zero (by simpa using h1)
    exact ⟨none, 0, rfl, rw_nil w _ es⟩
  · refine ⟨some ⟨g, 0, none⟩, cap, rfl, h1, hle, hm, fun h => (by cases h), .inr ⟨g, 0, rfl, hb, (Array.getElem?_eq_some_iff.1 hg).1, fun i u hu => ?_, fun i hi => ?_⟩⟩
    · rw [Nat.zero_add, cell_of_row w g i cur e (0, 0) hg]
      rw [← ht, List.getElem?_take] at hu
      split at hu
      · simpa using hu
      · cases hu
    · rw [Nat.zero_add, cell_of_row w g i cur e (0, 0) hg]
      refine ⟨?_, by simp [World.frozen?, hg]⟩
      rw [Array.getElem?_eq_getElem (by omega)]
      rfl
/-- One element, or more, onto such a row: in place, or in a new block. -/
theorem run_append_rw {P : Program} (w : World) (S : Nat → Prop) (t ty e : TypeId) (i : TypeInfo) (z : Value) (size bytes : Nat) (ht : P.underlying t = some (.slice e)) (hi : P.info? e = some i) (hz : i.zero = some z)
    (hsize : i.size = size) (hby : i.bytes = bytes) (hzs : z.cells.size = size) (hsz : 0 < size)
    (a : Option Addr) (n cap : Nat) (vs : List Value) (hr : Rw w S a n cap size vs)
    (ad : Addr) (m c : Nat) (news : List Value) (hm : 0 < m) (hl : news.length = m * size) (hnews : ∀ j u, news[j]? = some u → w.cell? (ad.add j) = some u) (h1 : ∀ u ∈ news, u.oneCell' = true)
    (h63 : n + m ≤ maxLen) (hbytes : (n + m) * bytes ≤ 140737488355328) :
    ∃ a' cap' w', (Builtin.append_ #[t, t] ty #[.slice a n cap, .slice (some ad) m c]).run P w = .ok (.slice a' (n + m) cap') w' ∧
      Rw w' (fun k => S k ∨ w.heap.size ≤ k) a' (n + m) cap' size (vs ++ news) ∧ Keep S w w' := by
  have hlen : (vs ++ news).length = (n + m) * size := by rw [List.length_append, hr.len, hl, Nat.add_mul]
  by_cases hroom : n + m ≤ cap
  · rcases hr.row with h0 | ⟨b, o, rfl, hs, hb, hc, hf⟩
    · omega
    · subst hsize
      have hin : ∀ j, j < news.length → n * i.size + j < cap * i.size := fun j hj => by
        have : (n + m) * i.size ≤ cap * i.size := Nat.mul_le_mul_right _ hroom
        rw [Nat.add_mul] at this
        omega
      have hrun := run_append_room_cells (P := P) w t ty e i ht hi b o n cap ad m c news hl hnews h1 hroom
        (fun j hj => by rw [Nat.add_assoc]; exact (hf _ (hin j hj)).1) (fun j hj => by rw [Nat.add_assoc]; exact (hf _ (hin j hj)).2)
      have hsome : ∀ j, j < news.length → (w.cell? ⟨b, o + n * i.size + j, none⟩).isSome = true := fun j hj => by rw [Nat.add_assoc]; exact (hf _ (hin j hj)).1
      refine ⟨_, _, _, hrun, ⟨hlen, hroom, hr.max, fun h => (by cases h), .inr ⟨b, o, rfl, .inl hs, ?_, fun j u hu => ?_, fun j hj => ?_⟩⟩, Keep.setCells (.inl hs) _ _ _ (Keep.refl _ _)⟩
      · exact Nat.lt_of_lt_of_le hb (Keep.setCells (F := S) (.inl hs) news _ _ (Keep.refl S w)).size
      · by_cases hj : j < vs.length
        · rw [List.getElem?_append_left hj] at hu
          rw [World.cell?_setCells_out b news _ w ⟨b, o + j, none⟩ (fun _ _ => .inl (by have := hr.len; simp only; omega))]
          exact hc j u hu
        · rw [List.getElem?_append_right (by omega)] at hu
          have hj2 : j - vs.length < news.length := (List.getElem?_eq_some_iff.1 hu).1
          have := World.cell?_setCells_in b news (o + n * i.size) w hsome (j - vs.length) hj2
          rw [show o + j = o + n * i.size + (j - vs.length) by have := hr.len; omega, this, ← List.getElem?_eq_getElem hj2]
          exact hu
      · rw [World.frozen?_setCells]
        refine ⟨?_, (hf j hj).2⟩
        by_cases hj1 : n * i.size ≤ j ∧ j < n * i.size + news.length
        · have := World.cell?_setCells_in b news (o + n * i.size) w hsome (j - n * i.size) (by omega)
          rw [show o + j = o + n * i.size + (j - n * i.size) by omega, this]
          rfl
        · rw [World.cell?_setCells_out b news _ w ⟨b, o + j, none⟩ (fun _ _ => by simp only; omega)]
          exact (hf j hj).1
  · have done : ∀ v' w', w'.ownsRow w.heap.size e size v' (n + m) (vs ++ news) → w.grownBy w' none →
        ∃ a' cap', v' = .slice a' (n + m) cap' ∧ Rw w' (fun k => S k ∨ w.heap.size ≤ k) a' (n + m) cap' size (vs ++ news) ∧ Keep S w w' := by
      intro v' w' r1 r2
      obtain ⟨a', cap', e', hrw⟩ := rw_own r1
      exact ⟨a', cap', e', hrw.imp (fun k _ h => .inr h), Keep.of_below (below_new r2)⟩
    cases a with
    | some x =>
      have hc : ∀ j u, vs[j]? = some u → w.cell? (x.add j) = some u := fun j u hu => by
        rcases hr.row with h0 | ⟨b, o, e, _, _, hc, _⟩
        · have h2 := hr.le
          have h3 := hr.len
          have : n = 0 := by omega
          subst this
          have : vs = [] := List.eq_nil_of_length_eq_zero (by simpa using h3)
          subst this
          simp at hu
        · obtain rfl := Option.some.inj e
          rw [Addr.add_lit]; exact hc j u hu
      obtain ⟨v', w', hrun, r1, r2⟩ := run_append_arg_grows (P := P) w t ty e i z size bytes ht hi hz hsize hby hzs hsz x n cap vs hr.len hc ad m c news hl hnews (by omega) h63 hbytes
      obtain ⟨a', cap', rfl, h2, h3⟩ := done v' w' r1 r2
      exact ⟨a', cap', w', hrun, h2, h3⟩
    | none =>
      obtain rfl : cap = 0 := hr.nil rfl
      obtain rfl : n = 0 := by have := hr.le; omega
      obtain rfl : vs = [] := List.eq_nil_of_length_eq_zero (by simpa using hr.len)
      obtain ⟨v', w', hrun, r1, r2, _⟩ := run_append_own (P := P) w w.heap.size t ty e i z size bytes ht hi hz hsize hby hzs hsz (.slice none 0 0) 0 [] (World.ownsRow_nil w _ e size) ad m c news hl hnews h1 h63 hbytes (Nat.le_refl _)
      obtain ⟨a', cap', rfl, h2, h3⟩ := done v' w' r1 r2
      exact ⟨a', cap', w', hrun, h2, h3⟩
theorem wpList_append_rw {P : Program} (w : World) {ops : Array Oper} {rest : List Oper} {o : Oper} {act : Act} {Q : Exit → Act → World → Prop} (S : Nat → Prop)
    (hw : Region.wanted o (yielded ops act.tmps) = true) (s x : Operand) (t : TypeId) (hop : o.op = Op.call { callee := Callee.builtin Builtin.append, args := #[s, x], argTypes := #[t, t] })
    (e : TypeId) (i : TypeInfo) (z : Value) (size bytes : Nat) (ht : P.underlying t = some (.slice e)) (hi : P.info? e = some i) (hz : i.zero = some z)
    (hsize : i.size = size) (hby : i.bytes = bytes) (hzs : z.cells.size = size) (hsz : 0 < size)
    (a : Option Addr) (n cap : Nat) (vs : List Value) (hs : act.eval s = .slice a n cap) (hr : Rw w S a n cap size vs)
    (ad : Addr) (m c : Nat) (news : List Value) (hx : act.eval x = .slice (some ad) m c) (hm : 0 < m) (hl : news.length = m * size) (hnews : ∀ j u, news[j]? = some u → w.cell? (ad.add j) = some u) (h1 : ∀ u ∈ news, u.oneCell' = true)
    (h63 : n + m ≤ maxLen) (hbytes : (n + m) * bytes ≤ 140737488355328)
    (hK : ∀ a' cap' w', Rw w' (fun k => S k ∨ w.heap.size ≤ k) a' (n + m) cap' size (vs ++ news) → Keep S w w' → wpList P ops Q rest (act.put o.dst (.slice a' (n + m) cap')) w') :
    wpList P ops Q (o :: rest) act w := by
  unfold wpList
  rw [if_pos hw]
  left
  obtain ⟨a', cap', w', hrun, r1, r2⟩ := run_append_rw (P := P) w S t o.type e i z size bytes ht hi hz hsize hby hzs hsz a n cap vs hr ad m c news hm hl hnews h1 h63 hbytes
  unfold Oper.wp
  simp [execOp, hop, resolve, invoke, builtin, hs, hx, hrun, Result.andThen]
  exact hK a' cap' w' r1 r2
end Go.Proofs.Ytjdbjmfkheffdaa
end
section
namespace Go.Proofs.Ytjdbjmfkheffdaa
open Go.RowKit
set_option linter.unusedVariables false

theorem bools_of {H : Type} {enc : TypeId × Value → H} {w : World} {base n : Nat} {held : Bool} {c : Value} {y : DataW H × List MemPlace} (h : DataW.trod enc Try.prog w base (fun _ => true) held n 58 [c] = some y) :
    ∃ a len cap, ∃ bs : List Bool, c = .slice a len cap ∧ SlV w a len cap 1 (bs.map Value.bool) := by
  rcases Deep.open_bools Try.underlying58 Try.underlying4 (by kernel_rfl) h with ⟨hcs, _⟩ | ⟨x, l, c', B, hcs, _, hl, hm, _, hcell⟩
  · simp at hcs
    exact ⟨none, 0, 0, [], hcs, slv_nil w 1⟩
  · simp at hcs
    refine ⟨some x, l, c', (List.range l).map B, hcs, by simp, hl, hm, fun h => (by cases h), ?_⟩
    by_cases h0 : l = 0
    · subst h0; exact .inl rfl
    · obtain ⟨b, off, spot⟩ := x
      have hspot : spot = none := by simpa [Addr.add] using World.cell?_spot (hcell 0 (by omega))
      subst hspot
      refine .inr ⟨b, off, rfl, fun i u hu => ?_⟩
      have hi : i < l := by have := (List.getElem?_eq_some_iff.1 hu).1; simpa using this
      have := hcell i (by omega)
      rw [Addr.add_lit] at this
      rw [this]
      simpa [hi] using hu
end Go.Proofs.Ytjdbjmfkheffdaa
end
section
namespace Go.Proofs.Ytjdbjmfkheffdaa
open Go.RowKit
set_option linter.unusedVariables false

section
variable {P : Program} {ops : Array Oper} {Q : Exit → Act → World → Prop} {md : Region.Mode} {w0 : World}

@[reducible] def UpC (w : World) : World → Prop := fun w' => ∃ u : Up w, w' = u.1
def Up.trans {w : World} (W : Up w) (u : Up W.1) : Up w := ⟨u.1, next W.2 u.2⟩
theorem cell_far {w : World} {p : Addr} {v : Value} (b o : Nat) (h : b ≠ p.block) : (w.setCell p v).cell? ⟨b, o, none⟩ = w.cell? ⟨b, o, none⟩ := by
  apply World.cell?_setCell_other
  intro e
  exact h (by rw [e])
theorem Up.cell2 {w : World} (W : Up w) (u : Up W.1) (b o : Nat) (h : b < w.heap.size) : u.1.cell? ⟨b, o, none⟩ = w.cell? ⟨b, o, none⟩ := (W.trans u).2.cell (p := ⟨b, o, none⟩) h
theorem Up.frozen2 {w : World} (W : Up w) (u : Up W.1) (b o : Nat) (h : b < w.heap.size) : u.1.frozen? ⟨b, o, none⟩ = w.frozen? ⟨b, o, none⟩ := (W.trans u).2.frozen (p := ⟨b, o, none⟩) h
def Up.self (w : World) : Up w := ⟨w, Below.refl _ _⟩

/-- In state a, in every world above w0, operation o leaves v and lets the world only grow. -/
def Mild (P : Program) (ops : Array Oper) (w0 : World) (o : Oper) (v : Value) (a : Act) : Prop :=
  (Region.wanted o (yielded ops a.tmps) = true ∧ ∀ (W : Up w0) (K : Act → Prop), K (a.put o.dst v) → o.quiet P a (UpC W.1) K) ∨
  (Region.wanted o (yielded ops a.tmps) = false ∧ v = undef)

theorem Mild.wpOp {i : Nat} {o : Oper} {v : Value} {a : Act} (hi : ops[i]? = some o) (hy : Mild P ops w0 o v a) (W : Up w0) {K : Act → World → Prop}
    (h : ∀ u : Up W.1, K (a.put o.dst v) u.1) : wpOp P ops Q i K a W.1 := by
  unfold Go.wpOp
  simp only [hi]
  rcases hy with ⟨hw, hv⟩ | ⟨hw, rfl⟩
  · rw [if_pos hw]
    refine .inl (Oper.wp_of_quiet (C := UpC W.1) (K := fun x => x = a.put o.dst v) ⟨Up.self _, rfl⟩ ?_ (hv W _ rfl))
    rintro a' w' ⟨u, rfl⟩ rfl
    exact h u
  · rw [if_neg (by rw [hw]; exact Bool.false_ne_true)]
    exact h (Up.self _)

theorem Mild.put {oi oj : Oper} {v : Value} {a : Act} (u : Value) (hsi : ∀ cs b, oi.op ≠ .select cs b) (h2 : ∀ d, oi.dst = some d → oj.dst ≠ some d) (h3 : ∀ d, oj.dst = some d → d ∉ oi.looksAt ops)
    (hy : Mild P ops w0 oi v a) : Mild P ops w0 oi v (a.put oj.dst u) := by
  unfold Mild at *
  rw [wanted_put oi a oj.dst u h3]
  refine hy.imp (fun ⟨hw, hv⟩ => ⟨hw, fun W K hK => ?_⟩) id
  obtain ⟨v', q1, q2⟩ := hv W (fun x => x = a.put oi.dst v) rfl
  refine ⟨v', fun w hw => ?_, ?_⟩
  · have := q1 w hw
    unfold Oper.quietAt at *
    rwa [execOp_put oi hsi a oj.dst u h3]
  · rw [← Act.put_comm a v' u h2, q2, Act.put_comm a v u h2]; exact hK

theorem Mild.defers {oi : Oper} {v : Value} {a : Act} (d : Deferred) (hy : Mild P ops w0 oi v a) : Mild P ops w0 oi v { a with defers := d :: a.defers } := by
  unfold Mild at *
  refine hy.imp (fun ⟨hw, hv⟩ => ⟨hw, fun W K hK => ?_⟩) id
  obtain ⟨v', q1, q2⟩ := hv W (fun x => x = a.put oi.dst v) rfl
  refine ⟨v', q1, ?_⟩
  rw [← Act.put_defers, q2, Act.put_defers]; exact hK

/-- Whether a mild operation's value is already there makes no difference to an operation apart from it. -/
theorem wpOp_mild {j : Nat} {oi oj : Oper} {v : Value} (hj : ops[j]? = some oj) (hap : oi.apart ops oj = true)
    (hsi : ∀ cs b, oi.op ≠ .select cs b) (hsj : ∀ cs b, oj.op ≠ .select cs b)
    (hQ : ∀ c a w, Q (.panic c) (a.put oi.dst v) w → Q (.panic c) a w) {K : Act → World → Prop} {a : Act} {w : World}
    (hy : Mild P ops w0 oi v a) (h : wpOp P ops Q j K (a.put oi.dst v) w) :
    wpOp P ops Q j (fun a' w' => Mild P ops w0 oi v a' ∧ K (a'.put oi.dst v) w') a w := by
  obtain ⟨h1, h2, h3⟩ := Oper.apart_spec hap
  have hx : execOp (a.put oi.dst v).eval oj = execOp a.eval oj := execOp_put oj hsj a oi.dst v h1
  have go : ∀ u w', K ((a.put oi.dst v).put oj.dst u) w' → Mild P ops w0 oi v (a.put oj.dst u) ∧ K ((a.put oj.dst u).put oi.dst v) w' := fun u w' hk =>
    ⟨hy.put u hsi h2 h3, by rwa [Act.put_comm a v u h2] at hk⟩
  unfold wpOp at *
  simp only [hj] at *
  rw [wanted_put oj a oi.dst v h1] at h
  by_cases hw : Region.wanted oj (yielded ops a.tmps) = true
  · rw [if_pos hw] at h ⊢
    rcases h with h | ⟨hasks, hlets⟩
    · left
      unfold Oper.wp at *
      rw [hx] at h
      revert h
      generalize (execOp a.eval oj).run P w = r
      intro h
      rcases r with ⟨n, w'⟩ | ⟨x, w'⟩
      · cases n with
        | value u => exact go u w' h
        | skip => exact go undef w' h
        | «defer» d =>
          simp only [Oper.upon] at h ⊢
          refine ⟨(hy.defers d).put undef hsi h2 h3, ?_⟩
          rwa [← Act.put_comm _ v undef h2, ← Act.put_defers]
        | enter f args =>
          exact Calls.mono h fun e w'' he => by
            cases e with
            | returned u => exact go u w'' he
            | panicked c => exact hQ _ _ _ he
            | outgrown => exact he
        | row r args => exact Rows.mono h fun u w'' he => go u w'' he
        | _ => exact h
      · cases x with
        | panic u => exact hQ _ _ _ h
        | _ => exact h
    · right
      exact ⟨by unfold Oper.asks at *; rwa [hx] at hasks, hlets⟩
  · rw [if_neg hw] at h ⊢
    exact go undef w h

/-- Whatever order is picked from here on; behind each operation the world is above w0, and may grow. -/
def wpAnyU (P : Program) (md : Region.Mode) (ops : Array Oper) (Q : Exit → Act → World → Prop) (w0 : World) : Nat → Array Bool → Act → World → Prop
  | 0, listed, a, w => Region.ready md ops listed = [] ∧ Q .normal a w
  | fuel + 1, listed, a, w =>
    (Region.ready md ops listed = [] → Q .normal a w) ∧
    ∀ i ∈ Region.ready md ops listed, wpOp P ops Q i (fun a' w' => Below w0.heap.size w0 w' ∧ ∀ u : Up w', wpAnyU P md ops Q w0 fuel (listed.setIfInBounds i true) a' u.1) a w

theorem wpAny_of_up : ∀ (fuel : Nat) (listed : Array Bool) (a : Act) (w : World), wpAnyU P md ops Q w0 fuel listed a w → wpAny P md ops Q fuel listed a w
  | 0, _, _, _, h => h
  | fuel + 1, _, _, _, h => ⟨h.1, fun i hi => wpOp_mono (fun a' w' h' => wpAny_of_up fuel _ a' w' (h'.2 (Up.self _))) (h.2 i hi)⟩

theorem wpAnyU_first {i : Nat} {oi : Oper} {v : Value} (hi : ops[i]? = some oi) (hsel : ∀ (j : Nat) (o : Oper) cs b, ops[j]? = some o → o.op ≠ .select cs b)
    (hQ : ∀ c a w, Q (.panic c) (a.put oi.dst v) w → Q (.panic c) a w) :
    ∀ (fuel : Nat) (listed : Array Bool) (a : Act) (W : Up w0),
      (∀ j oj, ops[j]? = some oj → j ≠ i → listed.getD j true = false → (∀ e ∈ oj.after, Region.binds md e = true → e.on ≠ i) → oi.apart ops oj = true) →
      i ∈ Region.ready md ops listed → Mild P ops w0 oi v a →
      (∀ u : Up W.1, wpAnyU P md ops Q w0 fuel (listed.setIfInBounds i true) (a.put oi.dst v) u.1) → wpAnyU P md ops Q w0 (fuel + 1) listed a W.1 := by
  intro fuel
  induction fuel with
  | zero =>
    intro listed a W _ hr hy H
    refine ⟨fun h => (by rw [h] at hr; cases hr), fun j hj => ?_⟩
    by_cases hji : j = i
    · subst hji; exact hy.wpOp hi W fun u => ⟨(W.trans u).2, fun u' => H (u.trans u')⟩
    · have := ready_mono hj hji
      rw [(H (Up.self _)).1] at this
      cases this
  | succ fuel ih =>
    intro listed a W hfree hr hy H
    refine ⟨fun h => (by rw [h] at hr; cases hr), fun j hj => ?_⟩
    by_cases hji : j = i
    · subst hji; exact hy.wpOp hi W fun u => ⟨(W.trans u).2, fun u' => H (u.trans u')⟩
    · have h1 := (H (Up.self _)).2 j (ready_mono hj hji)
      obtain ⟨hjun, oj, hoj, hall⟩ := mem_ready.1 hj
      have hnot : ∀ e ∈ oj.after, Region.binds md e = true → e.on ≠ i := fun e he hb heq => by
        have g1 := hall e he hb
        have g0 := (mem_ready.1 hr).1
        rw [heq] at g1
        rcases Nat.lt_or_ge i listed.size with h' | h'
        · simp [h'] at g0 g1; rw [g0] at g1; cases g1
        · simp [Array.getElem?_eq_none h'] at g1
      have h2 := wpOp_mild hoj (hfree j oj hoj hji hjun hnot) (fun cs b => hsel i oi cs b hi) (fun cs b => hsel j oj cs b hoj) hQ hy h1
      have hfree' : ∀ k ok, ops[k]? = some ok → k ≠ i → (listed.setIfInBounds j true).getD k true = false →
          (∀ e ∈ ok.after, Region.binds md e = true → e.on ≠ i) → oi.apart ops ok = true := fun k ok hk hki hun hno => by
        refine hfree k ok hk hki ?_ hno
        by_cases hjk : j = k
        · subst hjk; exact hjun
        · rw [getD_set_ne true hjk] at hun; exact hun
      refine wpOp_mono (fun a' w' h3 => ⟨h3.2.1, fun u => ?_⟩) h2
      refine ih (listed.setIfInBounds j true) a' ⟨u.1, next h3.2.1 u.2⟩ hfree' (ready_mono hr (Ne.symm hji)) h3.1 fun u' => ?_
      rw [Array.setIfInBounds_comm _ _ hji]
      exact h3.2.2 (u.trans u')

/-- The region, from here on, in every world above w0. -/
def MildOn (P : Program) (ops : Array Oper) (Q : Exit → Act → World → Prop) (w0 : World) (fuel : Nat) (listed : Array Bool) (a : Act) : Prop :=
  ∀ W : Up w0, wpAnyU P .any ops Q w0 fuel listed a W.1

theorem wp_region_mild {id : Nat} {a : Act} {w : World} {l : List Oper} (n : Nat) (hn : l.length = n) (hm : P.follows .mixedOrders = true) (h : MildOn P l.toArray Q w n (Array.replicate n false) a) : (Code.region id l.toArray true).wp P Q a w := by
  refine wp_region_any hm (wpAny_of_up (w0 := w) _ _ _ _ ?_)
  subst hn
  have := h ⟨w.drew, (Below.refl _ _).drew⟩
  simpa using this

theorem of_drop {l rest : List Oper} {oi : Oper} {i : Nat} (h : l.drop i = oi :: rest) : l.toArray[i]? = some oi := by
  have : (l.drop i)[0]? = some oi := by rw [h]; rfl
  simpa using this
theorem mild_take (i : Nat) {l rest : List Oper} {oi : Oper} {v : Value} {fuel : Nat} {listed : Array Bool} {a : Act} (hd : l.drop i = oi :: rest) (hs : Region.noSelect l.toArray = true)
    (hf : Region.free .any l.toArray listed i = true) (hr : (Region.ready .any l.toArray listed).contains i = true) (hQ : ∀ c a w, Q (.panic c) (a.put oi.dst v) w → Q (.panic c) a w)
    (hw : Region.wanted oi (yielded l.toArray a.tmps) = true) (hy : ∀ (W : Up w0) (K : Act → Prop), K (a.put oi.dst v) → oi.quiet P a (fun w' => ∃ u : Up W.1, w' = u.1) K)
    (h : MildOn P l.toArray Q w0 fuel (listed.setIfInBounds i true) (a.put oi.dst v)) : MildOn P l.toArray Q w0 (fuel + 1) listed a := fun W =>
  wpAnyU_first (of_drop hd) (Region.noSelect_spec hs) hQ fuel listed a W (Region.free_spec (of_drop hd) hf) (by simpa using hr) (.inl ⟨hw, hy⟩) fun u => h (W.trans u)
theorem mild_skip (i : Nat) {l rest : List Oper} {oi : Oper} {fuel : Nat} {listed : Array Bool} {a : Act} (hd : l.drop i = oi :: rest) (hs : Region.noSelect l.toArray = true)
    (hf : Region.free .any l.toArray listed i = true) (hr : (Region.ready .any l.toArray listed).contains i = true) (hQ : ∀ c a w, Q (.panic c) (a.put oi.dst undef) w → Q (.panic c) a w)
    (hw : Region.wanted oi (yielded l.toArray a.tmps) = false)
    (h : MildOn P l.toArray Q w0 fuel (listed.setIfInBounds i true) (a.put oi.dst undef)) : MildOn P l.toArray Q w0 (fuel + 1) listed a := fun W =>
  wpAnyU_first (of_drop hd) (Region.noSelect_spec hs) hQ fuel listed a W (Region.free_spec (of_drop hd) hf) (by simpa using hr) (.inr ⟨hw, rfl⟩) fun u => h (W.trans u)

/-- What stands behind one operation of the tail. -/
def Then (K : Act → World → Prop) (Q : Exit → Act → World → Prop) : Exit → Act → World → Prop
  | .normal, a, w => K a w
  | e, a, w => Q e a w
/-- One operation alone may come up: it is walked as a list of its own; behind it the world may grow. -/
theorem up_one (i : Nat) {oi : Oper} {fuel : Nat} {listed : Array Bool} {a : Act} {w : World} (hr : Region.ready .any ops listed = [i]) (hi : ops[i]? = some oi)
    (h : wpOp P ops Q i (fun a' w' => Below w0.heap.size w0 w' ∧ ∀ u : Up w', wpAnyU P .any ops Q w0 fuel (listed.setIfInBounds i true) a' u.1) a w) : wpAnyU P .any ops Q w0 (fuel + 1) listed a w :=
  ⟨fun h0 => (by rw [hr] at h0; cases h0), (by rw [hr]; intro j hj; rw [List.mem_singleton] at hj; subst hj; exact h)⟩
theorem up_list (i : Nat) {l rest : List Oper} {oi : Oper} {fuel : Nat} {listed : Array Bool} {a : Act} {w : World} (hr : Region.ready .any l.toArray listed = [i]) (hd : l.drop i = oi :: rest)
    (h : wpList P l.toArray (Then (fun a' w' => Below w0.heap.size w0 w' ∧ ∀ u : Up w', wpAnyU P .any l.toArray Q w0 fuel (listed.setIfInBounds i true) a' u.1) Q) [oi] a w) : wpAnyU P .any l.toArray Q w0 (fuel + 1) listed a w := by
  have hi := of_drop hd
  refine up_one i hr hi ?_
  unfold wpOp
  simp only [hi]
  unfold wpList at h
  by_cases hw : Region.wanted oi (yielded l.toArray a.tmps) = true
  · rw [if_pos hw] at h ⊢
    refine h.imp (fun h => ?_) id
    unfold Oper.wp at *
    revert h
    generalize (execOp a.eval oi).run P w = r
    intro h
    rcases r with ⟨n, w'⟩ | ⟨x, w'⟩
    · cases n with
      | enter f args =>
        exact Calls.mono h fun e w'' he => by
          cases e <;> exact he
      | _ => exact h
    · cases x <;> exact h
  · rw [if_neg hw] at h ⊢
    exact h
theorem then_mk {K : World → Act → World → Prop} {a : Act} {w : World} (h0 : Below w0.heap.size w0 w) (h : ∀ u : Up w, K u.1 a u.1) : Then (fun a' w' => Below w0.heap.size w0 w' ∧ ∀ u : Up w', K u.1 a' u.1) Q .normal a w := ⟨h0, h⟩
theorem up_done {fuel : Nat} {listed : Array Bool} {a : Act} {w : World} (hr : Region.ready .any ops listed = []) (h : Q .normal a w) : wpAnyU P .any ops Q w0 fuel listed a w := by
  cases fuel with
  | zero => exact ⟨hr, h⟩
  | succ n => exact ⟨fun _ => h, by rw [hr]; simp⟩
end
end Go.Proofs.Ytjdbjmfkheffdaa
end
section
namespace Go.Proofs.Ytjdbjmfkheffdaa
open Go.RowKit
set_option linter.unusedVariables false

section
variable {P : Program} {ops : Array Oper} {Q : Exit → Act → World → Prop} {w0 : World}

theorem wpAnyU_low {w1 : World} (hb : Below w0.heap.size w0 w1) : ∀ (fuel : Nat) (listed : Array Bool) (a : Act) (w : World), wpAnyU P .any ops Q w1 fuel listed a w → wpAnyU P .any ops Q w0 fuel listed a w
  | 0, _, _, _, h => h
  | fuel + 1, _, _, _, h => ⟨h.1, fun i hi => wpOp_mono (fun a' w' h' => ⟨next hb h'.1, fun u => wpAnyU_low hb fuel _ a' u.1 (h'.2 u)⟩) (h.2 i hi)⟩
/-- From here on, all that is there now stays. -/
theorem up_raise {fuel : Nat} {listed : Array Bool} {a : Act} {w : World} (hb : Below w0.heap.size w0 w) (h : MildOn P ops Q w fuel listed a) : wpAnyU P .any ops Q w0 fuel listed a w :=
  wpAnyU_low hb fuel listed a w (h (Up.self w))
/-- Two may come up. -/
theorem up_two (i j : Nat) {l ri rj : List Oper} {oi oj : Oper} {fuel : Nat} {listed : Array Bool} {a : Act} {w : World} (hr : Region.ready .any l.toArray listed = [i, j]) (hdi : l.drop i = oi :: ri) (hdj : l.drop j = oj :: rj)
    (hi : wpList P l.toArray (Then (fun a' w' => Below w0.heap.size w0 w' ∧ ∀ u : Up w', wpAnyU P .any l.toArray Q w0 fuel (listed.setIfInBounds i true) a' u.1) Q) [oi] a w)
    (hj : wpList P l.toArray (Then (fun a' w' => Below w0.heap.size w0 w' ∧ ∀ u : Up w', wpAnyU P .any l.toArray Q w0 fuel (listed.setIfInBounds j true) a' u.1) Q) [oj] a w) : wpAnyU P .any l.toArray Q w0 (fuel + 1) listed a w := by
  have step : ∀ (q : Nat) {oq : Oper} {rq : List Oper}, l.drop q = oq :: rq →
      wpList P l.toArray (Then (fun a' w' => Below w0.heap.size w0 w' ∧ ∀ u : Up w', wpAnyU P .any l.toArray Q w0 fuel (listed.setIfInBounds q true) a' u.1) Q) [oq] a w →
      wpOp P l.toArray Q q (fun a' w' => Below w0.heap.size w0 w' ∧ ∀ u : Up w', wpAnyU P .any l.toArray Q w0 fuel (listed.setIfInBounds q true) a' u.1) a w := by
    intro q oq rq hd h
    have hi := of_drop hd
    unfold wpOp
    simp only [hi]
    unfold wpList at h
    by_cases hw : Region.wanted oq (yielded l.toArray a.tmps) = true
    · rw [if_pos hw] at h ⊢
      refine h.imp (fun h => ?_) id
      unfold Oper.wp at *
      revert h
      generalize (execOp a.eval oq).run P w = r
      intro h
      rcases r with ⟨n, w'⟩ | ⟨x, w'⟩
      · cases n with
        | enter f args =>
          exact Calls.mono h fun e w'' he => by
            cases e <;> exact he
        | _ => exact h
      · cases x <;> exact h
    · rw [if_neg hw] at h ⊢
      exact h
  refine ⟨fun h0 => (by rw [hr] at h0; cases h0), ?_⟩
  rw [hr]
  intro q hq
  simp at hq
  rcases hq with rfl | rfl
  · exact step q hdi hi
  · exact step q hdj hj
end
end Go.Proofs.Ytjdbjmfkheffdaa
end
section
namespace Go.Proofs.Ytjdbjmfkheffdaa
open Go.RowKit
set_option linter.unusedVariables false

section
variable {P : Program} {Q : Exit → Act → World → Prop}

theorem wp_region_orders {id : Nat} {a : Act} {w : World} {l : List Oper} (n : Nat) (hn : l.length = n) (hm : P.follows .mixedOrders = true) (h : wpAny P .any l.toArray Q n (Array.replicate n false) a w.drew) : (Code.region id l.toArray true).wp P Q a w := by
  subst hn
  refine wp_region_any hm ?_
  simpa using h
theorem any_take (i : Nat) (v : Value) {l rest : List Oper} {oi : Oper} {fuel : Nat} {listed : Array Bool} {a : Act} {w : World} (hd : l.drop i = oi :: rest) (hs : Region.noSelect l.toArray = true)
    (hf : Region.free .any l.toArray listed i = true) (hr : (Region.ready .any l.toArray listed).contains i = true) (hQ : ∀ c a w, Q (.panic c) (a.put oi.dst v) w → Q (.panic c) a w)
    (hw : Region.wanted oi (yielded l.toArray a.tmps) = true) (hy : ∀ w, (execOp a.eval oi).run P w = .ok (.value v) w)
    (h : wpAny P .any l.toArray Q fuel (listed.setIfInBounds i true) (a.put oi.dst v) w) : wpAny P .any l.toArray Q (fuel + 1) listed a w :=
  wpAny_take (of_drop hd) hs hf hr hQ (.inl ⟨hw, hy⟩) h
theorem op_list (q : Nat) {l rq : List Oper} {oq : Oper} {K : Act → World → Prop} {a : Act} {w : World} (hd : l.drop q = oq :: rq) (h : wpList P l.toArray (Then K Q) [oq] a w) : wpOp P l.toArray Q q K a w := by
  have hi := of_drop hd
  unfold wpOp
  simp only [hi]
  unfold wpList at h
  by_cases hw : Region.wanted oq (yielded l.toArray a.tmps) = true
  · rw [if_pos hw] at h ⊢
    refine h.imp (fun h => ?_) id
    unfold Oper.wp at *
    revert h
    generalize (execOp a.eval oq).run P w = r
    intro h
    rcases r with ⟨n, w'⟩ | ⟨x, w'⟩
    · cases n with
      | enter f args =>
        exact Calls.mono h fun e w'' he => by
          cases e <;> exact he
      | _ => exact h
    · cases x <;> exact h
  · rw [if_neg hw] at h ⊢
    exact h
theorem any_list (i : Nat) {l rest : List Oper} {oi : Oper} {fuel : Nat} {listed : Array Bool} {a : Act} {w : World} (hr : Region.ready .any l.toArray listed = [i]) (hd : l.drop i = oi :: rest)
    (h : wpList P l.toArray (Then (fun a' w' => wpAny P .any l.toArray Q fuel (listed.setIfInBounds i true) a' w') Q) [oi] a w) : wpAny P .any l.toArray Q (fuel + 1) listed a w :=
  wpAny_all hr (by simp) fun q hq => by
    rw [List.mem_singleton] at hq
    subst hq
    exact op_list q hd h
theorem any_two (i j : Nat) {l ri rj : List Oper} {oi oj : Oper} {fuel : Nat} {listed : Array Bool} {a : Act} {w : World} (hr : Region.ready .any l.toArray listed = [i, j]) (hdi : l.drop i = oi :: ri) (hdj : l.drop j = oj :: rj)
    (hi : wpList P l.toArray (Then (fun a' w' => wpAny P .any l.toArray Q fuel (listed.setIfInBounds i true) a' w') Q) [oi] a w)
    (hj : wpList P l.toArray (Then (fun a' w' => wpAny P .any l.toArray Q fuel (listed.setIfInBounds j true) a' w') Q) [oj] a w) : wpAny P .any l.toArray Q (fuel + 1) listed a w :=
  wpAny_all hr (by simp) fun q hq => by
    simp at hq
    rcases hq with rfl | rfl
    · exact op_list q hdi hi
    · exact op_list q hdj hj
theorem any_done {fuel : Nat} {l : List Oper} {listed : Array Bool} {a : Act} {w : World} (hr : Region.ready .any l.toArray listed = []) (h : Q .normal a w) : wpAny P .any l.toArray Q fuel listed a w := wpAny_done hr h fuel
theorem then_n {K : Act → World → Prop} {a : Act} {w : World} (h : K a w) : Then K Q .normal a w := h
end
end Go.Proofs.Ytjdbjmfkheffdaa
end
section
namespace Go.Proofs.Ytjdbjmfkheffdaa
open Go.RowKit
set_option linter.unusedVariables false

/-- A packet: its numbers, its flag, its words. -/
structure Pk where
  k : Int
  f : Int
  t : Int
  i : Int
  l : Int
  p : Int
  s : Int
  fl : Bool
  z : List Int
/-- The packet as a value, its words where d says. -/
@[reducible] def Pk.val (x : Pk) (d : Value) : Value := .agg #[.int .i64 x.k, .int .i64 x.f, .int .i64 x.t, .int .i64 x.i, .int .i64 x.l, .int .i64 x.p, .int .i64 x.s, .bool x.fl, d]
def sameP (x y : Pk) : Bool := decide (x.k = y.k ∧ x.f = y.f ∧ x.t = y.t ∧ x.i = y.i ∧ x.l = y.l ∧ x.p = y.p ∧ x.s = y.s ∧ x.fl = y.fl ∧ x.z = y.z)
theorem sameP_self (x : Pk) : sameP x x = true := decide_eq_true ⟨rfl, rfl, rfl, rfl, rfl, rfl, rfl, rfl, rfl⟩
theorem wp_world {P : Program} {c : Code} {Q : Exit → Act → World → Prop} {a : Act} {w1 w2 : World} (h : w1 = w2) (hw : c.wp P Q a w2) : c.wp P Q a w1 := h ▸ hw
/-- A packet in memory, in a block that may be written. -/
structure Bx (W : World) (g : Nat) (x : Pk) (d : Value) : Prop where
  c0 : W.cell? ⟨g, 0, none⟩ = some (.int .i64 x.k)
  c1 : W.cell? ⟨g, 1, none⟩ = some (.int .i64 x.f)
  c2 : W.cell? ⟨g, 2, none⟩ = some (.int .i64 x.t)
  c3 : W.cell? ⟨g, 3, none⟩ = some (.int .i64 x.i)
  c4 : W.cell? ⟨g, 4, none⟩ = some (.int .i64 x.l)
  c5 : W.cell? ⟨g, 5, none⟩ = some (.int .i64 x.p)
  c6 : W.cell? ⟨g, 6, none⟩ = some (.int .i64 x.s)
  c7 : W.cell? ⟨g, 7, none⟩ = some (.bool x.fl)
  c8 : W.cell? ⟨g, 8, none⟩ = some d
  fz : ∀ o, W.frozen? ⟨g, o, none⟩ = false
  lt : g < W.heap.size
theorem Bx.made (w : World) (x : Pk) (d : Value) : Bx (w.alloc (.cells #[.int .i64 x.k, .int .i64 x.f, .int .i64 x.t, .int .i64 x.i, .int .i64 x.l, .int .i64 x.p, .int .i64 x.s, .bool x.fl, d] 26)) w.heap.size x d := by
  constructor <;> simp
theorem Bx.below {W W' : World} {g base : Nat} {x : Pk} {d : Value} (h : Bx W g x d) (hb : Below base W W') (hg : g < base) : Bx W' g x d :=
  have e := fun o => hb.cell (p := ⟨g, o, none⟩) hg
  ⟨(e 0).trans h.c0, (e 1).trans h.c1, (e 2).trans h.c2, (e 3).trans h.c3, (e 4).trans h.c4, (e 5).trans h.c5, (e 6).trans h.c6, (e 7).trans h.c7, (e 8).trans h.c8, fun o => (hb.frozen (p := ⟨g, o, none⟩) hg).trans (h.fz o), Nat.lt_of_lt_of_le h.lt hb.size⟩
theorem Bx.next {W W' : World} {g : Nat} {x : Pk} {d : Value} (h : Bx W g x d) (hb : Below W.heap.size W W') : Bx W' g x d := h.below hb h.lt
theorem Bx.far {W : World} {g : Nat} {x : Pk} {d u : Value} {p : Addr} (h : Bx W g x d) (hp : g ≠ p.block) : Bx (W.setCell p u) g x d :=
  have e := fun o => cell_far (w := W) (p := p) (v := u) g o hp
  ⟨(e 0).trans h.c0, (e 1).trans h.c1, (e 2).trans h.c2, (e 3).trans h.c3, (e 4).trans h.c4, (e 5).trans h.c5, (e 6).trans h.c6, (e 7).trans h.c7, (e 8).trans h.c8, fun o => by rw [World.frozen?_setCell]; exact h.fz o, by simpa using h.lt⟩
theorem Sl.far {W : World} {a : Option Addr} {n cap : Nat} {l : List Int} {p : Addr} {u : Value} (h : Sl W a n cap l) (hp : ∀ x : Addr, a = some x → x.block ≠ p.block) : Sl (W.setCell p u) a n cap l := by
  refine ⟨h.len, h.le, h.max, h.nil, h.row.imp id ?_⟩
  rintro ⟨b, o, rfl, hc⟩
  exact ⟨b, o, rfl, fun i hi => by rw [cell_far _ _ (hp _ rfl)]; exact hc i hi⟩
section
variable {W : World} {g : Nat} {x : Pk} {d : Value}
theorem Bx.setK (h : Bx W g x d) (v : Int) : Bx (W.setCell ⟨g, 0, none⟩ (.int .i64 v)) g { x with k := v } d := by
  obtain ⟨c0, c1, c2, c3, c4, c5, c6, c7, c8, fz, lt⟩ := h
  constructor <;> (try intro o) <;> go_simp
theorem Bx.setF (h : Bx W g x d) (v : Int) : Bx (W.setCell ⟨g, 1, none⟩ (.int .i64 v)) g { x with f := v } d := by
  obtain ⟨c0, c1, c2, c3, c4, c5, c6, c7, c8, fz, lt⟩ := h
  constructor <;> (try intro o) <;> go_simp
theorem Bx.setT (h : Bx W g x d) (v : Int) : Bx (W.setCell ⟨g, 2, none⟩ (.int .i64 v)) g { x with t := v } d := by
  obtain ⟨c0, c1, c2, c3, c4, c5, c6, c7, c8, fz, lt⟩ := h
  constructor <;> (try intro o) <;> go_simp
theorem Bx.setI (h : Bx W g x d) (v : Int) : Bx (W.setCell ⟨g, 3, none⟩ (.int .i64 v)) g { x with i := v } d := by
  obtain ⟨c0, c1, c2, c3, c4, c5, c6, c7, c8, fz, lt⟩ := h
  constructor <;> (try intro o) <;> go_simp
theorem Bx.setL (h : Bx W g x d) (v : Int) : Bx (W.setCell ⟨g, 4, none⟩ (.int .i64 v)) g { x with l := v } d := by
  obtain ⟨c0, c1, c2, c3, c4, c5, c6, c7, c8, fz, lt⟩ := h
  constructor <;> (try intro o) <;> go_simp
theorem Bx.setP (h : Bx W g x d) (v : Int) : Bx (W.setCell ⟨g, 5, none⟩ (.int .i64 v)) g { x with p := v } d := by
  obtain ⟨c0, c1, c2, c3, c4, c5, c6, c7, c8, fz, lt⟩ := h
  constructor <;> (try intro o) <;> go_simp
theorem Bx.setS (h : Bx W g x d) (v : Int) : Bx (W.setCell ⟨g, 6, none⟩ (.int .i64 v)) g { x with s := v } d := by
  obtain ⟨c0, c1, c2, c3, c4, c5, c6, c7, c8, fz, lt⟩ := h
  constructor <;> (try intro o) <;> go_simp
theorem Bx.setFl (h : Bx W g x d) (v : Bool) : Bx (W.setCell ⟨g, 7, none⟩ (.bool v)) g { x with fl := v } d := by
  obtain ⟨c0, c1, c2, c3, c4, c5, c6, c7, c8, fz, lt⟩ := h
  constructor <;> (try intro o) <;> go_simp
theorem Bx.setZ (h : Bx W g x d) (z : List Int) (v : Value) : Bx (W.setCell ⟨g, 8, none⟩ v) g { x with z := z } v := by
  obtain ⟨c0, c1, c2, c3, c4, c5, c6, c7, c8, fz, lt⟩ := h
  constructor <;> (try intro o) <;> go_simp
end
/-- All nine are written. -/
theorem Bx.put {W : World} {g : Nat} {x : Pk} {d : Value} (h : Bx W g x d) (y : Pk) (v : Value) :
    Bx (((((((((W.setCell ⟨g, 0, none⟩ (.int .i64 y.k)).setCell ⟨g, 1, none⟩ (.int .i64 y.f)).setCell ⟨g, 2, none⟩ (.int .i64 y.t)).setCell ⟨g, 3, none⟩ (.int .i64 y.i)).setCell ⟨g, 4, none⟩ (.int .i64 y.l)).setCell ⟨g, 5, none⟩ (.int .i64 y.p)).setCell ⟨g, 6, none⟩ (.int .i64 y.s)).setCell ⟨g, 7, none⟩ (.bool y.fl)).setCell ⟨g, 8, none⟩ v) g y v := by
  obtain ⟨c0, c1, c2, c3, c4, c5, c6, c7, c8, fz, lt⟩ := h
  constructor <;> (try intro o) <;> go_simp
/-- A block into which a packet is written, cell by cell. -/
theorem far9 {W : World} {g : Nat} {y : Pk} {v : Value} {P : World → Prop} (hP : ∀ (V : World) (o : Nat) (u : Value), P V → P (V.setCell ⟨g, o, none⟩ u)) (h : P W) :
    P (((((((((W.setCell ⟨g, 0, none⟩ (.int .i64 y.k)).setCell ⟨g, 1, none⟩ (.int .i64 y.f)).setCell ⟨g, 2, none⟩ (.int .i64 y.t)).setCell ⟨g, 3, none⟩ (.int .i64 y.i)).setCell ⟨g, 4, none⟩ (.int .i64 y.l)).setCell ⟨g, 5, none⟩ (.int .i64 y.p)).setCell ⟨g, 6, none⟩ (.int .i64 y.s)).setCell ⟨g, 7, none⟩ (.bool y.fl)).setCell ⟨g, 8, none⟩ v) :=
  hP _ _ _ (hP _ _ _ (hP _ _ _ (hP _ _ _ (hP _ _ _ (hP _ _ _ (hP _ _ _ (hP _ _ _ (hP _ _ _ h))))))))
def zeroPk : Pk := ⟨0, 0, 0, 0, 0, 0, 0, false, []⟩
theorem Bx.made' (w : World) (x : Pk) (d : Value) (g : Nat) (hg : g = w.heap.size) : Bx (w.alloc (.cells #[.int .i64 x.k, .int .i64 x.f, .int .i64 x.t, .int .i64 x.i, .int .i64 x.l, .int .i64 x.p, .int .i64 x.s, .bool x.fl, d] 26)) g x d := hg ▸ Bx.made w x d
theorem Own.lo {w : World} {base n cap : Nat} {a : Option Addr} {l : List Int} (h : Own w base (.slice a n cap) l) : ∀ x : Addr, a = some x → base ≤ x.block ∧ x.block < w.heap.size := by
  intro x e
  subst e
  rcases h.2 with ⟨h1, _⟩ | ⟨g, c, cur, h1, hb, hg, _⟩
  · cases h1
  · simp at h1
    obtain ⟨rfl, _⟩ := h1
    exact ⟨hb, (Array.getElem?_eq_some_iff.1 hg).1⟩
theorem Sl.at {w : World} {a : Option Addr} {n cap : Nat} {l : List Int} (h : Sl w a n cap l) {k : Nat} (hk : k < n) : ∃ b o, a = some ⟨b, o, none⟩ ∧ b < w.heap.size ∧ w.cell? ⟨b, o + k, none⟩ = some (.int .i64 (l[k]?.getD 0)) := by
  have hl := h.len
  rcases h.row with rfl | ⟨b, o, e, hc⟩
  · simp at hl; omega
  · exact ⟨b, o, e, World.block_lt_of_cell? w _ (hc k (by omega)), hc k (by omega)⟩
theorem sameP_eq {x y : Pk} (h : sameP x y = true) : x = y := by
  obtain ⟨h1, h2, h3, h4, h5, h6, h7, h8, h9⟩ := of_decide_eq_true h
  cases x; cases y; simp_all
instance Pk.dec : DecidableEq Pk := fun x y => decidable_of_iff (sameP x y = true) ⟨sameP_eq, fun h => by subst h; exact sameP_self x⟩
theorem sameP_iff (x y : Pk) : sameP x y = decide (x = y) := by
  by_cases h : x = y
  · subst h; rw [sameP_self]; simp
  · rw [decide_eq_false h]
    cases hs : sameP x y
    · rfl
    · exact absurd (sameP_eq hs) h

/-- The nine cells of a packet. -/
def pcells (x : Pk) (d : Value) : List Value := [.int .i64 x.k, .int .i64 x.f, .int .i64 x.t, .int .i64 x.i, .int .i64 x.l, .int .i64 x.p, .int .i64 x.s, .bool x.fl, d]
theorem pcells_len (x : Pk) (d : Value) : (pcells x d).length = 9 := rfl
/-- A row of packets, cell by cell. -/
def pflat (R : List (Pk × Value)) : List Value := R.flatMap fun r => pcells r.1 r.2
theorem pflat_len (R : List (Pk × Value)) : (pflat R).length = R.length * 9 := by
  induction R with
  | nil => rfl
  | cons o p ih => simp [pflat, pcells] at ih ⊢; omega
theorem pflat_cons (r : Pk × Value) (R : List (Pk × Value)) : pflat (r :: R) = pcells r.1 r.2 ++ pflat R := rfl
theorem pflat_append (R T : List (Pk × Value)) : pflat (R ++ T) = pflat R ++ pflat T := by simp [pflat]
theorem pflat_one (x : Pk) (d : Value) : pflat [(x, d)] = pcells x d := by simp [pflat]
theorem pflat_get {R : List (Pk × Value)} {i : Nat} {r : Pk × Value} (h : R[i]? = some r) (j : Nat) (hj : j < 9) : (pflat R)[i * 9 + j]? = (pcells r.1 r.2)[j]? := by
  induction R generalizing i with
  | nil => simp at h
  | cons x R ih =>
    rw [pflat_cons]
    cases i with
    | zero => simp at h; subst h; rw [Nat.zero_mul, Nat.zero_add, List.getElem?_append_left (by rw [pcells_len]; exact hj)]
    | succ i =>
      have h' : R[i]? = some r := by simpa using h
      rw [List.getElem?_append_right (by rw [pcells_len]; omega), pcells_len, ← ih h']
      congr 1
      omega
theorem pcells_one {x : Pk} {d : Value} (hd : d.oneCell' = true) : ∀ u ∈ pcells x d, u.oneCell' = true := by
  intro u hu
  simp [pcells] at hu
  rcases hu with h | h | h | h | h | h | h | h | h <;> subst h <;> first | rfl | exact hd
/-- The nine cells of element i of a row that lies from o on. -/
theorem pk_at {w : World} {b o i : Nat} {R : List (Pk × Value)} {x : Pk} {d : Value} (hc : ∀ i u, (pflat R)[i]? = some u → w.cell? ⟨b, o + i, none⟩ = some u) (h : R[i]? = some (x, d)) :
    w.cell? ⟨b, o + i * 9, none⟩ = some (.int .i64 x.k) ∧ w.cell? ⟨b, o + i * 9 + 1, none⟩ = some (.int .i64 x.f) ∧ w.cell? ⟨b, o + i * 9 + 2, none⟩ = some (.int .i64 x.t) ∧ w.cell? ⟨b, o + i * 9 + 3, none⟩ = some (.int .i64 x.i) ∧
    w.cell? ⟨b, o + i * 9 + 4, none⟩ = some (.int .i64 x.l) ∧ w.cell? ⟨b, o + i * 9 + 5, none⟩ = some (.int .i64 x.p) ∧ w.cell? ⟨b, o + i * 9 + 6, none⟩ = some (.int .i64 x.s) ∧ w.cell? ⟨b, o + i * 9 + 7, none⟩ = some (.bool x.fl) ∧ w.cell? ⟨b, o + i * 9 + 8, none⟩ = some d := by
  have g : ∀ j u, j < 9 → (pcells x d)[j]? = some u → w.cell? ⟨b, o + i * 9 + j, none⟩ = some u := fun j u hj hu => by rw [Nat.add_assoc]; exact hc _ u (by rw [pflat_get h j hj]; exact hu)
  exact ⟨g 0 _ (by omega) rfl, g 1 _ (by omega) rfl, g 2 _ (by omega) rfl, g 3 _ (by omega) rfl, g 4 _ (by omega) rfl, g 5 _ (by omega) rfl, g 6 _ (by omega) rfl, g 7 _ (by omega) rfl, g 8 _ (by omega) rfl⟩
/-- A packet's words, in a block of D if there are any. -/
def Dat (w : World) (D : Nat → Prop) (x : Pk) (d : Value) : Prop := ∃ a n c, d = .slice a n c ∧ Sl w a n c x.z ∧ n ≤ 17592186044416 ∧ (x.z ≠ [] → ∀ y : Addr, a = some y → D y.block)
theorem Dat.keep {w w' : World} {D F : Nat → Prop} {x : Pk} {d : Value} (h : Dat w D x d) (hk : Keep F w w') (hF : ∀ k, D k → ¬ F k) : Dat w' D x d := by
  obtain ⟨a, n, c, e, hs, hn, hd⟩ := h
  exact ⟨a, n, c, e, hs.keep hk (fun hz y hy => hF _ (hd hz y hy)), hn, hd⟩
theorem Dat.below {w w' : World} {D : Nat → Prop} {x : Pk} {d : Value} (h : Dat w D x d) (hb : Below w.heap.size w w') : Dat w' D x d := h.keep (F := fun _ => False) (Keep.of_below hb) (fun _ _ h => h)
theorem Dat.imp {w : World} {D E : Nat → Prop} {x : Pk} {d : Value} (h : Dat w D x d) (hD : ∀ k, k < w.heap.size → D k → E k) : Dat w E x d := by
  obtain ⟨a, n, c, e, hs, hn, hd⟩ := h
  refine ⟨a, n, c, e, hs, hn, fun hz y hy => hD _ ?_ (hd hz y hy)⟩
  rcases hs.row with h0 | ⟨b, o, rfl, hc⟩
  · exact absurd h0 hz
  · obtain rfl := Option.some.inj hy
    have h1 := hc 0 (by cases hh : x.z with | nil => exact absurd hh hz | cons => simp)
    exact World.block_lt_of_cell? w _ h1
theorem Dat.one {w : World} {D : Nat → Prop} {x : Pk} {d : Value} (h : Dat w D x d) : d.oneCell' = true := by
  obtain ⟨a, n, c, rfl, _⟩ := h
  rfl
theorem dat_own {w : World} {base : Nat} {v : Value} {x : Pk} (h : Own w base v x.z) (hn : x.z.length ≤ 17592186044416) : Dat w (fun k => base ≤ k) x v := by
  obtain ⟨a, c, rfl, hs⟩ := h.sl
  exact ⟨a, _, c, rfl, hs, hn, fun _ y hy => (h.lo y hy).1⟩
theorem dat_nil (w : World) (D : Nat → Prop) {x : Pk} (h : x.z = []) : Dat w D x (.slice none 0 0) := ⟨none, 0, 0, rfl, by rw [h]; exact sl_nil w, by omega, fun hz => absurd h hz⟩
/-- A packet's words, if there are any, may be written. -/
def Soft (w : World) (x : Pk) (d : Value) : Prop := x.z ≠ [] → ∀ a n c, d = .slice (some a) n c → ∀ o, w.frozen? ⟨a.block, o, none⟩ = false
theorem Soft.keep {w w' : World} {D F : Nat → Prop} {x : Pk} {d : Value} (h : Soft w x d) (hd : Dat w D x d) (hk : Keep F w w') (hF : ∀ k, D k → ¬ F k) : Soft w' x d := by
  intro hz a n c e o
  obtain ⟨a1, n1, c1, e1, hs, _, hD⟩ := hd
  rw [e1] at e
  injection e with e2 e3 e4
  subst e2
  have hlt : a.block < w.heap.size := by
    rcases hs.row with h0 | ⟨b, of, e5, hc⟩
    · exact absurd h0 hz
    · obtain rfl := Option.some.inj e5
      exact World.block_lt_of_cell? w _ (hc 0 (by cases hh : x.z with | nil => exact absurd hh hz | cons => simp))
  rw [hk.frozen o hlt (hF _ (hD hz a rfl))]
  exact h hz a n1 c1 e1 o
theorem soft_own {w : World} {base : Nat} {v : Value} {x : Pk} (h : Own w base v x.z) : Soft w x v := by
  intro _ a n c e o
  rcases h.2 with ⟨e', _⟩ | ⟨b, cap', cur, e', hb, hg, r⟩
  · rw [e] at e'; cases e'
  · rw [e] at e'
    injection e' with e1 e2 e3
    obtain rfl := Option.some.inj e1
    simp [World.frozen?, hg]
theorem Own.keep {w w' : World} {F : Nat → Prop} {base : Nat} {v : Value} {l : List Int} (h : Own w base v l) (hk : Keep F w w') (hF : ∀ k, v.ownBlock = some k → ¬ F k) : Own w' base v l := by
  refine ⟨h.1, h.2.imp id ?_⟩
  rintro ⟨g, cap, cur, rfl, hg, hh, rest⟩
  exact ⟨g, cap, cur, rfl, hg, by rw [hk.block g (Array.getElem?_eq_some_iff.1 hh).1 (hF g rfl)]; exact hh, rest⟩
theorem Bx.keep {W W' : World} {F : Nat → Prop} {g : Nat} {x : Pk} {d : Value} (h : Bx W g x d) (hk : Keep F W W') (hF : ¬ F g) : Bx W' g x d :=
  have e := fun o => hk.cell (b := g) o h.lt hF
  ⟨(e 0).trans h.c0, (e 1).trans h.c1, (e 2).trans h.c2, (e 3).trans h.c3, (e 4).trans h.c4, (e 5).trans h.c5, (e 6).trans h.c6, (e 7).trans h.c7, (e 8).trans h.c8, fun o => (hk.frozen (b := g) o h.lt hF).trans (h.fz o), Nat.lt_of_lt_of_le h.lt hk.size⟩
/-- Writing into a list of its own. -/
theorem Own.poke {w : World} {base n c k : Nat} {a : Option Addr} {l : List Int} (h : Own w base (.slice a n c) l) (hn : l.length = n) (hk : k < n) : ∃ b y, a = some ⟨b, 0, none⟩ ∧ base ≤ b ∧ b < w.heap.size ∧ w.cell? ⟨b, k, none⟩ = some (.int .i64 y) ∧ w.frozen? ⟨b, k, none⟩ = false ∧
    ∀ v, Own (w.setCell ⟨b, k, none⟩ (.int .i64 v)) base (.slice a n c) (l.set k v) := by
  subst hn
  obtain ⟨a', c', e, hs⟩ := h.sl
  injection e with e1 e2 e3
  subst e1 e3
  rcases h.2 with ⟨e', h1⟩ | ⟨b, cap', cur, e', hb, hg, r⟩
  · omega
  · injection e' with e1 e2 e3
    subst e1 e3
    obtain ⟨b', o', e4, hlt, hc⟩ := hs.at hk
    simp at e4
    obtain ⟨rfl, rfl⟩ := e4
    rw [Nat.zero_add] at hc
    refine ⟨b, _, rfl, hb, hlt, hc, by simp [World.frozen?, hg], fun v => ?_⟩
    have := (World.ownsRow.stored h k (.int .i64 v)).1
    have e : (cells l).set k (.int .i64 v) = cells (l.set k v) := by simp [cells, List.map_set]
    rw [e] at this
    unfold Own
    rw [List.length_set]
    exact this
theorem Try.infoPk : (Try.prog.info? 26).map (fun i => (i.zero, i.size, i.bytes)) = some (some (zeroPk.val (.slice none 0 0)), 9, 88) := by kernel_rfl
end Go.Proofs.Ytjdbjmfkheffdaa
end
section
namespace Go.Proofs.Ytjdbjmfkheffdaa
open Go.RowKit
set_option linter.unusedVariables false

/-- A packet in a block of its own, cell by cell. -/
theorem Bx.news {w : World} {bs : Nat} {x : Pk} {d : Value} (bx : Bx w bs x d) : ∀ j u, (pcells x d)[j]? = some u → w.cell? ((⟨bs, 0, none⟩ : Addr).add j) = some u := by
  intro j u hu
  rw [Addr.add_lit, Nat.zero_add]
  have hj : j < 9 := (List.getElem?_eq_some_iff.1 hu).1
  obtain ⟨b0, b1, b2, b3, b4, b5, b6, b7, b8, _, _⟩ := bx
  match j, hj with
  | 0, _ => rw [b0]; exact hu
  | 1, _ => rw [b1]; exact hu
  | 2, _ => rw [b2]; exact hu
  | 3, _ => rw [b3]; exact hu
  | 4, _ => rw [b4]; exact hu
  | 5, _ => rw [b5]; exact hu
  | 6, _ => rw [b6]; exact hu
  | 7, _ => rw [b7]; exact hu
  | 8, _ => rw [b8]; exact hu
/-- A row of the packets L, in a block of M; their words lie in blocks of D. -/
structure PRow (w : World) (M D : Nat → Prop) (L : List Pk) (R : List (Pk × Value)) (a : Option Addr) (n cap : Nat) : Prop where
  eq : R.map Prod.fst = L
  len : L.length = n
  row : Rw w M a n cap 9 (pflat R)
  dat : ∀ r ∈ R, Dat w D r.1 r.2
  old : ∀ k, M k → k < w.heap.size
  dj : ∀ k, M k → ¬ D k
theorem PRow.keep {w w' : World} {M D F : Nat → Prop} {L : List Pk} {R : List (Pk × Value)} {a : Option Addr} {n cap : Nat} (h : PRow w M D L R a n cap) (hk : Keep F w w') (hF : ∀ k, M k ∨ D k → ¬ F k) : PRow w' M D L R a n cap :=
  ⟨h.eq, h.len, h.row.keep hk (fun k hm => hF k (.inl hm)), fun r hr => (h.dat r hr).keep hk (fun k hd => hF k (.inr hd)), fun k hm => Nat.lt_of_lt_of_le (h.old k hm) hk.size, h.dj⟩
theorem PRow.below {w w' : World} {M D : Nat → Prop} {L : List Pk} {R : List (Pk × Value)} {a : Option Addr} {n cap : Nat} (h : PRow w M D L R a n cap) (hb : Below w.heap.size w w') : PRow w' M D L R a n cap := h.keep (F := fun _ => False) (Keep.of_below hb) (fun _ _ h => h)
theorem prow_nil (w : World) (D : Nat → Prop) : PRow w (fun _ => False) D [] [] none 0 0 := ⟨rfl, rfl, rw_nil _ _ _, fun r hr => (by cases hr), fun k h => h.elim, fun k h => h.elim⟩
/-- One more. -/
theorem PRow.snoc {w w' : World} {M D E : Nat → Prop} {L : List Pk} {R : List (Pk × Value)} {a a' : Option Addr} {n cap cap' : Nat} {x : Pk} {d : Value} (h : PRow w M D L R a n cap) (hd : Dat w E x d) (hE : ∀ k, E k → ¬ M k) (hD : ∀ k, D k → k < w.heap.size) (hE' : ∀ k, E k → k < w.heap.size)
    (hr : Rw w' (fun k => M k ∨ w.heap.size ≤ k) a' (n + 1) cap' 9 (pflat R ++ pcells x d)) (hk : Keep M w w') :
    PRow w' (fun k => M k ∨ (w.heap.size ≤ k ∧ k < w'.heap.size)) (fun k => D k ∨ E k) (L ++ [x]) (R ++ [(x, d)]) a' (n + 1) cap' := by
  refine ⟨by rw [List.map_append, h.eq]; rfl, by rw [List.length_append, h.len]; rfl, ?_, ?_, ?_, ?_⟩
  · rw [pflat_append, pflat_one]
    exact hr.imp (fun k hk h => h.imp id (fun h => ⟨h, hk⟩))
  · intro r hr
    rcases List.mem_append.1 hr with hr | hr
    · exact ((h.dat r hr).keep hk (fun k hd hm => h.dj k hm hd)).imp (fun k _ h => .inl h)
    · rw [List.mem_singleton] at hr
      subst hr
      exact (hd.keep hk (fun k he hm => hE k he hm)).imp (fun k _ h => .inr h)
  · intro k hm
    rcases hm with hm | hm
    · exact Nat.lt_of_lt_of_le (h.old k hm) hk.size
    · exact hm.2
  · intro k hm hd
    rcases hm with hm | hm <;> rcases hd with hd | hd
    · exact h.dj k hm hd
    · exact hE k hd hm
    · have := hD k hd; omega
    · have := hE' k hd; omega
theorem PRow.get {w : World} {M D : Nat → Prop} {L : List Pk} {R : List (Pk × Value)} {a : Option Addr} {n cap : Nat} (h : PRow w M D L R a n cap) {i : Nat} (hi : i < n) : ∃ x d b o, L[i]? = some x ∧ R[i]? = some (x, d) ∧ Dat w D x d ∧ a = some ⟨b, o, none⟩ ∧ M b ∧ b < w.heap.size ∧
    (w.cell? ⟨b, o + i * 9, none⟩ = some (.int .i64 x.k) ∧ w.cell? ⟨b, o + i * 9 + 1, none⟩ = some (.int .i64 x.f) ∧ w.cell? ⟨b, o + i * 9 + 2, none⟩ = some (.int .i64 x.t) ∧ w.cell? ⟨b, o + i * 9 + 3, none⟩ = some (.int .i64 x.i) ∧
    w.cell? ⟨b, o + i * 9 + 4, none⟩ = some (.int .i64 x.l) ∧ w.cell? ⟨b, o + i * 9 + 5, none⟩ = some (.int .i64 x.p) ∧ w.cell? ⟨b, o + i * 9 + 6, none⟩ = some (.int .i64 x.s) ∧ w.cell? ⟨b, o + i * 9 + 7, none⟩ = some (.bool x.fl) ∧ w.cell? ⟨b, o + i * 9 + 8, none⟩ = some d) ∧
    (∀ j, j < 9 → w.frozen? ⟨b, o + i * 9 + j, none⟩ = false) := by
  have hl : R.length = n := by have := congrArg List.length h.eq; simp at this; rw [this, h.len]
  obtain ⟨⟨x, d⟩, hR'⟩ : ∃ r, R[i]? = some r := ⟨R[i]'(by omega), List.getElem?_eq_getElem (by omega)⟩
  rcases h.row.row with h0 | ⟨b, o, rfl, hm, hb, hc, hf⟩
  · have := h.row.le; omega
  · refine ⟨x, d, b, o, ?_, hR', h.dat (x, d) (List.mem_of_getElem? hR'), rfl, hm, hb, pk_at hc hR', fun j hj => ?_⟩
    · rw [← h.eq, List.getElem?_map, hR']; rfl
    · rw [Nat.add_assoc]
      have h1 := h.row.le
      have : (i + 1) * 9 ≤ cap * 9 := Nat.mul_le_mul_right _ (by omega)
      exact (hf (i * 9 + j) (by omega)).2
end Go.Proofs.Ytjdbjmfkheffdaa
end
section
namespace Go.Proofs.Ytjdbjmfkheffdaa
open Go.RowKit
set_option linter.unusedVariables false

/-- A queue at block g: its room, the packets L. It may write the blocks of M; its packets' words lie in those of D. -/
structure QuI (w : World) (g : Nat) (M D : Nat → Prop) (room : Int) (L : List Pk) (R : List (Pk × Value)) (a : Option Addr) (cap : Nat) : Prop where
  c0 : w.cell? ⟨g, 0, none⟩ = some (.int .i64 room)
  c1 : w.cell? ⟨g, 1, none⟩ = some (.slice a L.length cap)
  fz : ∀ o, w.frozen? ⟨g, o, none⟩ = false
  lt : g < w.heap.size
  mg : M g
  eq : R.map Prod.fst = L
  row : Rw w (fun k => M k ∧ k ≠ g) a L.length cap 9 (pflat R)
  dat : ∀ r ∈ R, Dat w D r.1 r.2
  old : ∀ k, M k ∨ D k → k < w.heap.size
  dj : ∀ k, M k → ¬ D k
def Qu (w : World) (g : Nat) (M D : Nat → Prop) (room : Int) (L : List Pk) : Prop := ∃ R a cap, QuI w g M D room L R a cap
theorem QuI.keep {w w' : World} {g : Nat} {M D F : Nat → Prop} {room : Int} {L : List Pk} {R : List (Pk × Value)} {a : Option Addr} {cap : Nat} (h : QuI w g M D room L R a cap) (hk : Keep F w w') (hF : ∀ k, M k ∨ D k → ¬ F k) : QuI w' g M D room L R a cap :=
  ⟨by rw [hk.cell _ h.lt (hF g (.inl h.mg))]; exact h.c0, by rw [hk.cell _ h.lt (hF g (.inl h.mg))]; exact h.c1, fun o => by rw [hk.frozen _ h.lt (hF g (.inl h.mg))]; exact h.fz o, Nat.lt_of_lt_of_le h.lt hk.size, h.mg, h.eq,
    h.row.keep hk (fun k hm => hF k (.inl hm.1)), fun r hr => (h.dat r hr).keep hk (fun k hd => hF k (.inr hd)), fun k hm => Nat.lt_of_lt_of_le (h.old k hm) hk.size, h.dj⟩
theorem Qu.keep {w w' : World} {g : Nat} {M D F : Nat → Prop} {room : Int} {L : List Pk} (h : Qu w g M D room L) (hk : Keep F w w') (hF : ∀ k, M k ∨ D k → ¬ F k) : Qu w' g M D room L := by
  obtain ⟨R, a, cap, h⟩ := h
  exact ⟨R, a, cap, h.keep hk hF⟩
theorem Qu.below {w w' : World} {g : Nat} {M D : Nat → Prop} {room : Int} {L : List Pk} (h : Qu w g M D room L) (hb : Below w.heap.size w w') : Qu w' g M D room L := h.keep (F := fun _ => False) (Keep.of_below hb) (fun _ _ h => h)
theorem Qu.old {w : World} {g : Nat} {M D : Nat → Prop} {room : Int} {L : List Pk} (h : Qu w g M D room L) : ∀ k, M k ∨ D k → k < w.heap.size := by
  obtain ⟨R, a, cap, h⟩ := h
  exact h.old

theorem QuI.prow {w : World} {g : Nat} {M D : Nat → Prop} {room : Int} {L : List Pk} {R : List (Pk × Value)} {a : Option Addr} {cap : Nat} (h : QuI w g M D room L R a cap) : PRow w (fun k => M k ∧ k ≠ g) D L R a L.length cap :=
  ⟨h.eq, rfl, h.row, h.dat, fun k hm => h.old k (.inl hm.1), fun k hm => h.dj k hm.1⟩
theorem map_eraseIdx' {α β : Type} (f : α → β) : ∀ (l : List α) (k : Nat), (l.eraseIdx k).map f = (l.map f).eraseIdx k
  | [], _ => rfl
  | _ :: _, 0 => rfl
  | a :: l, k + 1 => by simp only [List.eraseIdx_cons_succ, List.map_cons, map_eraseIdx' f l k]
theorem take_snoc {α : Type} {l : List α} {k : Nat} {x : α} (h : l[k]? = some x) : l.take (k + 1) = l.take k ++ [x] := by
  rw [List.take_add_one, h]; rfl
/-- A new row of the packets L, in memory from base on. -/
def NewRow (w : World) (base : Nat) (L : List Pk) (n : Nat) (v : Value) : Prop := ∃ M D R a cap, v = .slice a n cap ∧ PRow w M D L R a n cap ∧ (∀ k, M k ∨ D k → base ≤ k ∧ k < w.heap.size) ∧ ∀ r ∈ R, Soft w r.1 r.2
theorem newrow_made {w : World} {base n : Nat} {a : Option Addr} {cap : Nat} (h : w.ownsRow base 26 9 (.slice a n cap) n []) (hn : n = 0) : NewRow w base [] 0 (.slice a 0 cap) := by
  subst hn
  obtain ⟨a', cap', e, hr⟩ := rw_own h
  simp at e
  obtain ⟨rfl, rfl⟩ := e
  exact ⟨fun k => base ≤ k ∧ k < w.heap.size, fun _ => False, [], a, cap, rfl, ⟨rfl, rfl, hr.imp (fun k hk h => ⟨h, hk⟩), fun r hr => (by cases hr), fun k h => h.2, fun k _ h => h⟩, fun k h => h.elim id (fun h => h.elim), fun r hr => (by cases hr)⟩
end Go.Proofs.Ytjdbjmfkheffdaa
end
section
namespace Go.Proofs.Ytjdbjmfkheffdaa
open Go.RowKit
set_option linter.unusedVariables false

/-- A function turned at one place. -/
def upd {α : Type} (F : Nat → α) (q : Nat) (v : α) : Nat → α := fun x => if x = q then v else F x
theorem upd_same {α : Type} (F : Nat → α) (q : Nat) (v : α) : upd F q v q = v := by simp [upd]
theorem upd_other {α : Type} (F : Nat → α) {q x : Nat} (v : α) (h : x ≠ q) : upd F q v x = F x := by simp [upd, h]
/-- m rows of packets; the slice of row q lies in cell q of the block gs, its packets in blocks of M q, their words in blocks of D. -/
structure Net (w : World) (gs m : Nat) (F : Nat → List Pk) (M : Nat → Nat → Prop) (D : Nat → Prop) : Prop where
  row : ∀ q, q < m → ∃ R a cap, w.cell? ⟨gs, q, none⟩ = some (.slice a (F q).length cap) ∧ PRow w (M q) D (F q) R a (F q).length cap
  fz : ∀ o, w.frozen? ⟨gs, o, none⟩ = false
  lt : gs < w.heap.size
  dj : ∀ q q', q < m → q' < m → q ≠ q' → ∀ k, M q k → ¬ M q' k
  ngs : ∀ q, q < m → ¬ M q gs
  dgs : ¬ D gs
theorem Net.old {w : World} {gs m : Nat} {F : Nat → List Pk} {M : Nat → Nat → Prop} {D : Nat → Prop} (h : Net w gs m F M D) {q k : Nat} (hq : q < m) (hk : M q k) : k < w.heap.size := by
  obtain ⟨R, a, cap, _, hp⟩ := h.row q hq
  exact hp.old k hk
theorem Net.nd {w : World} {gs m : Nat} {F : Nat → List Pk} {M : Nat → Nat → Prop} {D : Nat → Prop} (h : Net w gs m F M D) {q k : Nat} (hq : q < m) (hk : M q k) : ¬ D k := by
  obtain ⟨R, a, cap, _, hp⟩ := h.row q hq
  exact hp.dj k hk
theorem Net.keep {w w' : World} {gs m : Nat} {F : Nat → List Pk} {M : Nat → Nat → Prop} {D X : Nat → Prop} (h : Net w gs m F M D) (hk : Keep X w w') (hg : ¬ X gs) (hM : ∀ q k, q < m → M q k → ¬ X k) (hD : ∀ k, D k → ¬ X k) : Net w' gs m F M D := by
  refine ⟨fun q hq => ?_, fun o => by rw [hk.frozen o h.lt hg]; exact h.fz o, Nat.lt_of_lt_of_le h.lt hk.size, h.dj, h.ngs, h.dgs⟩
  obtain ⟨R, a, cap, hc, hp⟩ := h.row q hq
  refine ⟨R, a, cap, by rw [hk.cell q h.lt hg]; exact hc, hp.keep hk (fun k hk' => ?_)⟩
  rcases hk' with hk' | hk'
  · exact hM q k hq hk'
  · exact hD k hk'
theorem Net.below {w w' : World} {gs m : Nat} {F : Nat → List Pk} {M : Nat → Nat → Prop} {D : Nat → Prop} (h : Net w gs m F M D) (hb : Below w.heap.size w w') : Net w' gs m F M D :=
  h.keep (X := fun _ => False) (Keep.of_below hb) id (fun _ _ _ _ h => h) (fun _ _ h => h)
/-- One row is turned: its packets first (in its own blocks, or in new ones), then its slice. -/
theorem Net.set {w w1 : World} {gs m q : Nat} {F : Nat → List Pk} {M : Nat → Nat → Prop} {D N : Nat → Prop} {L : List Pk} {R : List (Pk × Value)} {a : Option Addr} {n cap : Nat} (h : Net w gs m F M D) (hq : q < m) (hk : Keep (M q) w w1) (hp : PRow w1 N D L R a n cap) (hN : ∀ k, N k → M q k ∨ w.heap.size ≤ k) :
    Net (w1.setCell ⟨gs, q, none⟩ (.slice a n cap)) gs m (upd F q L) (upd M q N) D ∧ Keep (fun k => k = gs ∨ M q k) w (w1.setCell ⟨gs, q, none⟩ (.slice a n cap)) := by
  have k2 := Keep.one w1 gs q (.slice a n cap)
  have lt1 : gs < w1.heap.size := Nat.lt_of_lt_of_le h.lt hk.size
  have ngN : ¬ N gs := fun hn => by
    rcases hN gs hn with hn | hn
    · exact h.ngs q hq hn
    · have := h.lt; omega
  refine ⟨⟨fun x hx => ?_, fun o => ?_, Nat.lt_of_lt_of_le lt1 k2.size, fun x y hx hy hxy k h1 h2 => ?_, fun x hx => ?_, h.dgs⟩, ?_⟩
  · by_cases hxq : x = q
    · subst hxq
      obtain ⟨R0, a0, cap0, hc0, _⟩ := h.row x hx
      rw [upd_same, upd_same]
      have hl := hp.len
      refine ⟨R, a, cap, ?_, ?_⟩
      · rw [hl, World.cell?_setCell_same w1 ⟨gs, x, none⟩ _ (u := .slice a0 (F x).length cap0) (by rw [hk.cell x h.lt (h.ngs x hx)]; exact hc0)]
      · rw [hl]
        refine hp.keep k2 (fun k hk' e => ?_)
        subst e
        rcases hk' with hk' | hk'
        · exact ngN hk'
        · exact h.dgs hk'
    · obtain ⟨R0, a0, cap0, hc0, hp0⟩ := h.row x hx
      rw [upd_other _ _ hxq, upd_other _ _ hxq]
      refine ⟨R0, a0, cap0, ?_, ?_⟩
      · rw [World.cell?_setCell_other _ _ _ _ (by simp <;> omega), hk.cell x h.lt (h.ngs q hq)]
        exact hc0
      · refine (hp0.keep hk (fun k hk' hm => ?_)).keep k2 (fun k hk' e => ?_)
        · rcases hk' with hk' | hk'
          · exact h.dj x q hx hq hxq k hk' hm
          · exact h.nd hq hm hk'
        · subst e
          rcases hk' with hk' | hk'
          · exact h.ngs x hx hk'
          · exact h.dgs hk'
  · rw [World.frozen?_setCell, hk.frozen o h.lt (h.ngs q hq)]
    exact h.fz o
  · by_cases hxq : x = q
    · subst hxq
      rw [upd_same] at h1
      rw [upd_other _ _ (Ne.symm hxy)] at h2
      rcases hN k h1 with h1 | h1
      · exact h.dj x y hx hy hxy k h1 h2
      · have := h.old hy h2; omega
    · rw [upd_other _ _ hxq] at h1
      by_cases hyq : y = q
      · subst hyq
        rw [upd_same] at h2
        rcases hN k h2 with h2 | h2
        · exact h.dj x y hx hy hxy k h1 h2
        · have := h.old hx h1; omega
      · rw [upd_other _ _ hyq] at h2
        exact h.dj x y hx hy hxy k h1 h2
  · by_cases hxq : x = q
    · subst hxq; rw [upd_same]; exact ngN
    · rw [upd_other _ _ hxq]; exact h.ngs x hx
  · exact ((Keep.mono hk (fun k _ h => .inr h)).trans k2 (fun k _ e => .inl e))
end Go.Proofs.Ytjdbjmfkheffdaa
end
