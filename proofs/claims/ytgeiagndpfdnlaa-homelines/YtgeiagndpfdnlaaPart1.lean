/- Slices of whole numbers: what can be read of them (Sl), what a call has made (Own); worlds that only grew (Up) and regions that draw their order over them; the helps Within, Copy and Cut over whole numbers. Conditions: as each theorem states them.
How arguments come in: structs by value cell by cell, whole numbers, flags, lists of them. Conditions: as each theorem states them.
A configuration as a value.
Regions that draw their order and also make or write memory: an operation that yields one value in every world that has only grown, and lets the world only grow, may be taken first, calls among them; what is left is walked in the orders that remain. Nothing of the program is named here.
The contracts of the configurations that setups make: Config, at. Conditions: as each theorem states them.
Setups as they come in: the value written out, its lists readable.
The contract of Same over whole numbers. Conditions: as stated.
What a step leaves alone (Keep); rows of values that can be read (SlV), and that may be written, with the room behind them (Rw); append onto such a row. Nothing of the program is named here.
append of a slice that can be read onto a row that may be written, whichever is empty; pieces of slices. Nothing of the program is named here.
More of regions that draw their order: two that may come up; what was made on the way is there from then on. Nothing of the program is named here.
Regions that draw their order, order by order: what looks at no memory is taken first. Nothing of the program is named here. -/
import Derived.Test.YtgeiagndpfdnlaaRows
import Derived.WalkKit
import Derived.WalkSpells
import Derived.BigQuiet
import Derived.WalkLawsBesides
import Derived.Laws.AppendOwnNone
import Derived.Laws.CopyOwn
import Derived.Deep.RegionHeld3
import Derived.Deep.DeepCutAuto
import Derived.ProofKit
import Derived.OpenShut
import Derived.ChangeOld
import Derived.Below
import Derived.Lib.SmallJoins
import Derived.OrdersHeld
import Derived.ArgAppend
section
namespace Go.Proofs.Ytgeiagndpfdnlaa
open Go.RowKit
set_option linter.unusedVariables false

theorem ret_bool {a b : Bool} (h : a = b) : Ending.returned (.bool a) = .returned (.bool b) := by rw [h]
theorem ret_int {k : IntKind} {a b : Int} (h : a = b) : Ending.returned (.int k a) = .returned (.int k b) := by rw [h]
theorem below_dn (w : World) (k : Nat) : Below w.heap.size w (w.drewN k) := ⟨rfl, rfl, rfl, Nat.le_refl _, fun _ _ => rfl⟩

theorem bcell {W w1 : World} (hb : Below W.heap.size W w1) : (∀ b o, b < W.heap.size → w1.cell? ⟨b, o, none⟩ = W.cell? ⟨b, o, none⟩) ∧ (∀ b o, b < W.heap.size → w1.frozen? ⟨b, o, none⟩ = W.frozen? ⟨b, o, none⟩) :=
  ⟨fun b o h => hb.cell (p := ⟨b, o, none⟩) h, fun b o h => hb.frozen (p := ⟨b, o, none⟩) h⟩
theorem ba {w x : World} {o : Obj} (h : Below w.heap.size w x) : Below w.heap.size w (x.alloc o) := h.alloc h.size o
theorem next {W w1 w2 : World} (h1 : Below W.heap.size W w1) (h2 : Below w1.heap.size w1 w2) : Below W.heap.size W w2 := h1.trans (h2.mono h1.size)
/-- What was there is there, and as it was. -/
def Up (w : World) : Type := { u : World // Below w.heap.size w u }
instance Up.some (w : World) : Nonempty (Up w) := ⟨⟨w, Below.refl _ _⟩⟩
theorem Up.cell {w : World} (u : Up w) (b o : Nat) (h : b < w.heap.size) : u.1.cell? ⟨b, o, none⟩ = w.cell? ⟨b, o, none⟩ := u.2.cell (p := ⟨b, o, none⟩) h
theorem Up.frozen {w : World} (u : Up w) (b o : Nat) (h : b < w.heap.size) : u.1.frozen? ⟨b, o, none⟩ = w.frozen? ⟨b, o, none⟩ := u.2.frozen (p := ⟨b, o, none⟩) h
theorem Up.lt {w : World} (u : Up w) (n : Nat) (h : n < w.heap.size) : n < u.1.heap.size := Nat.lt_of_lt_of_le h u.2.size
/-- A region that draws its order, whose operations only read and whose calls only make memory: one walk, in the order of the text. -/
theorem wp_region_up {P : Program} {id : Nat} {Q : Exit → Act → World → Prop} {a : Act} {w : World} {l : List Oper} (hm : P.follows .mixedOrders = true) (hB : Region.lexB .any l.toArray = true)
    (h : wpQuiet P l.toArray (fun w' => ∃ u : Up w, w' = u.1) (fun a' => ∀ w', (∃ u : Up w, w' = u.1) → Q .normal a' w') l a) : (Code.region id l.toArray true).wp P Q a w :=
  wp_region_quiet (C := fun w' => ∃ u : Up w, w' = u.1) hm hB ⟨⟨w.drew, (Below.refl _ _).drew⟩, rfl⟩ (by simpa using h)
/-- A call in such a region. -/
theorem Calls.up_of {P : Program} {f : FuncId} {args : Array Value} {w : World} {u : Up w} {v : Value}
    (h : Calls P f args u.1 fun e w' => e = .returned v ∧ Below u.1.heap.size u.1 w') : Calls P f args u.1 fun e w'' => e = .returned v ∧ ∃ u' : Up w, w'' = u'.1 :=
  h.mono fun _ _ ⟨he, hb⟩ => ⟨he, ⟨_, u.2.trans (hb.mono u.2.size)⟩, rfl⟩
theorem Calls.up_same {P : Program} {f : FuncId} {args : Array Value} {w : World} {u : Up w} {v : Value}
    (h : Calls P f args u.1 fun e w' => e = .returned v ∧ u.1 = w') : Calls P f args u.1 fun e w'' => e = .returned v ∧ ∃ u' : Up w, w'' = u'.1 :=
  h.mono fun _ _ ⟨he, hb⟩ => ⟨he, u, hb.symm⟩

/-- The numbers l lie where a slice at address a says. -/
def Row (w : World) (a : Option Addr) (l : List Int) : Prop :=
  l = [] ∨ ∃ b o, a = some ⟨b, o, none⟩ ∧ ∀ i, i < l.length → w.cell? ⟨b, o + i, none⟩ = some (.int .i64 (l[i]?.getD 0))

/-- A slice of whole numbers: nil, or so many cells, not more than its capacity. -/
structure Sl (w : World) (a : Option Addr) (n cap : Nat) (l : List Int) : Prop where
  len : l.length = n
  le : n ≤ cap
  max : cap ≤ maxLen
  nil : a = none → cap = 0
  row : Row w a l
def cells (l : List Int) : List Value := l.map (Value.int .i64)
/-- A slice of whole numbers that was made since the heap had 'base' blocks, and is nobody else's. -/
def Own (w : World) (base : Nat) (v : Value) (l : List Int) : Prop := w.ownsRow base 3 1 v l.length (cells l)

theorem cells_get {l : List Int} {j : Nat} {u : Value} (h : (cells l)[j]? = some u) : j < l.length ∧ u = .int .i64 (l[j]?.getD 0) := by
  have hj : j < l.length := by have := (List.getElem?_eq_some_iff.1 h).1; simpa [cells] using this
  refine ⟨hj, ?_⟩
  simp [cells, hj] at h
  simp [hj, h]
theorem Own.sl {w : World} {base : Nat} {v : Value} {l : List Int} (h : Own w base v l) : ∃ a cap, v = .slice a l.length cap ∧ Sl w a l.length cap l := by
  obtain ⟨h1, h2⟩ := h
  rcases h2 with ⟨rfl, h0⟩ | ⟨g, cap, cur, rfl, hb, hg, hle, hm, hsz, ht⟩
  · have : l = [] := List.eq_nil_of_length_eq_zero h0
    subst this
    exact ⟨none, 0, rfl, rfl, Nat.le_refl _, Nat.zero_le _, fun _ => rfl, .inl rfl⟩
  · refine ⟨some ⟨g, 0, none⟩, cap, rfl, rfl, hle, hm, fun h => (by cases h), Or.inr ⟨g, 0, rfl, fun i hi => ?_⟩⟩
    rw [Nat.zero_add, cell_of_row w g i cur 3 (0, 0) hg]
    have e : (cells l)[i]? = some (.int .i64 (l[i]?.getD 0)) := by simp [cells, hi]
    rw [← ht, List.getElem?_take] at e
    split at e
    · simpa using e
    · cases e
theorem Own.sl' {w : World} {base n : Nat} {v : Value} {l : List Int} (h : Own w base v l) (hn : l.length = n) : ∃ a cap, v = .slice a n cap ∧ Sl w a n cap l := by
  subst hn; exact h.sl
theorem Row.cellsAt {w : World} {x : Addr} {l : List Int} (h : Row w (some x) l) : ∀ j u, (cells l)[j]? = some u → w.cell? (x.add j) = some u := by
  intro j u hu
  obtain ⟨hj, rfl⟩ := cells_get hu
  rcases h with rfl | ⟨b, o, e, hc⟩
  · simp at hj
  · obtain rfl := Option.some.inj e
    rw [Addr.add_lit]; exact hc j hj
theorem cells_one (l : List Int) : ∀ u ∈ cells l, u.oneCell' = true := ints_oneCell .i64 l
theorem Row.take {w : World} {a : Option Addr} {l : List Int} (h : Row w a l) (k : Nat) : Row w a (l.take k) := by
  rcases h with rfl | ⟨b, o, rfl, hc⟩
  · exact .inl (by simp)
  · refine .inr ⟨b, o, rfl, fun i hi => ?_⟩
    have hi' : i < k ∧ i < l.length := by simp at hi; omega
    rw [hc i hi'.2]; simp [hi'.1]
theorem Sl.take {w : World} {a : Option Addr} {n cap : Nat} {l : List Int} (h : Sl w a n cap l) (k : Nat) (hk : k ≤ n) : Sl w a k cap (l.take k) :=
  ⟨by have := h.len; simp; omega, Nat.le_trans hk h.le, h.max, h.nil, h.row.take k⟩
/-- A block that is there. -/
def There (w : World) (a : Option Addr) : Prop := ∀ x, a = some x → x.block < w.heap.size
theorem Row.below {w w' : World} {a : Option Addr} {l : List Int} (h : Row w a l) (hb : Below w.heap.size w w') : Row w' a l := by
  rcases h with rfl | ⟨b, o, rfl, hc⟩
  · exact .inl rfl
  · refine .inr ⟨b, o, rfl, fun i hi => ?_⟩
    have hi' := hc i hi
    have hlt : b < w.heap.size := World.block_lt_of_cell? w _ hi'
    rw [hb.cell (p := ⟨b, o + i, none⟩) hlt]; exact hi'
theorem Sl.below {w w' : World} {a : Option Addr} {n cap : Nat} {l : List Int} (h : Sl w a n cap l) (hb : Below w.heap.size w w') : Sl w' a n cap l :=
  ⟨h.len, h.le, h.max, h.nil, h.row.below hb⟩
/-- A slice of whole numbers that came in. -/
theorem sl_of {w : World} {a : Option Addr} {len cap : Nat} {zs : List Int}
    (h : (a = none ∧ len = 0 ∧ cap = 0 ∧ zs = []) ∨ ∃ x, a = some x ∧ len ≤ cap ∧ cap ≤ maxLen ∧ zs.length = cap ∧ (∀ i, i < zs.length → w.cell? (x.add i) = some (.int .i64 (zs.getD i 0))) ∧ ∀ n ∈ zs, (Lit.int .i64 n).wf = true) :
    Sl w a len cap (zs.take len) := by
  rcases h with ⟨rfl, rfl, rfl, rfl⟩ | ⟨x, rfl, hl, hm, hz, hcell, hwz⟩
  · exact ⟨rfl, Nat.le_refl _, Nat.zero_le _, fun _ => rfl, Or.inl rfl⟩
  · refine ⟨by simp; omega, hl, hm, fun h => (by cases h), ?_⟩
    by_cases h0 : len = 0
    · subst h0; exact Or.inl (by simp)
    · obtain ⟨b, off, spot⟩ := x
      have hc := hcell 0 (by omega)
      have hspot : spot = none := by simpa [Addr.add] using World.cell?_spot hc
      subst hspot
      refine Or.inr ⟨b, off, rfl, fun i hi => ?_⟩
      have hi' : i < len := by simp at hi; omega
      have := hcell i (by omega)
      rw [Addr.add_lit] at this
      rw [this]; simp [hi', List.getD]
theorem Try.infoInt : (Try.prog.info? 3).map (fun i => (i.zero, i.size, i.bytes)) = some (some (.int .i64 0), 1, 8) := by kernel_rfl
theorem Sl.same {w w' : World} {a : Option Addr} {n cap : Nat} {l : List Int} (h : Sl w a n cap l) (hh : w'.heap = w.heap) : Sl w' a n cap l := by
  refine ⟨h.len, h.le, h.max, h.nil, ?_⟩
  rcases h.row with h0 | ⟨b, o, e, hc⟩
  · exact .inl h0
  · exact .inr ⟨b, o, e, fun i hi => by rw [← hc i hi]; simp [World.cell?, hh]⟩
theorem Sl.none0 {w : World} {a : Option Addr} {n cap : Nat} {l : List Int} (h : Sl w a n cap l) : a = none → n = 0 ∧ cap = 0 := fun e => ⟨by have := h.nil e; have := h.le; omega, h.nil e⟩
theorem sl_nil (w : World) : Sl w none 0 0 [] := ⟨rfl, Nat.le_refl _, Nat.zero_le _, fun _ => rfl, .inl rfl⟩
theorem own_nil (w : World) (base : Nat) : Own w base (.slice none 0 0) [] := World.ownsRow_nil _ _ _ _
theorem below_new {w w' : World} (h : w.grownBy w' none) : Below w.heap.size w w' := (Below.refl _ _).grown h (Nat.le_refl _) (by intro k hk; cases hk)

theorem copy_any (a : Option Addr) (l : List Int) (n cap : Nat) (w : World) (hsl : Sl w a n cap l) (hb : n ≤ 17592186044416) :
    Calls Try.prog 39 #[.slice a n cap] w fun e w' => ∃ v, e = .returned v ∧ Own w' w.heap.size v l ∧ Below w.heap.size w w' := by
  obtain ⟨hn, hle, hmx, hnil, hr⟩ := hsl
  obtain ⟨i0, hi, hz0, hz1, hz2⟩ := info_parts Try.infoInt
  have hm : n ≤ maxLen := Nat.le_trans hle hmx
  cases a with
  | none =>
    obtain rfl : cap = 0 := hnil rfl
    obtain rfl : n = 0 := by omega
    obtain rfl : l = [] := List.eq_nil_of_length_eq_zero hn
    go_enter Try.func39, Try.ntmps39
    go_wp2_with (at_builtin; refine wpList_append_own_none rfl _ _ 22 rfl w.heap.size 3 i0 1 Try.underlying22 hi _ 0 [] rfl (World.ownsRow_nil _ _ _ _) rfl ?_)
    go_ret
    exact ⟨_, rfl, own_nil _ _, Below.refl _ _⟩
  | some x =>
    go_enter Try.func39, Try.ntmps39
    go_wp2_with (at_builtin; refine wpList_append_own _ rfl _ _ 22 rfl w.heap.size 3 i0 (.int .i64 0) 1 8 Try.underlying22 hi hz0 hz1 hz2 rfl (by decide) _ 0 [] rfl (World.ownsRow_nil _ _ _ _) x n cap (cells l) rfl (by simp [cells, hn]) hr.cellsAt (cells_one l) (by omega) (by omega) (Nat.le_refl _) ?_)
    intro v' w1 hown hgrow _
    go_wp2
    go_ret
    refine ⟨_, rfl, by simpa [Own, hn] using hown, (Below.refl _ _).grown hgrow (Nat.le_refl _) (by intro k hk; simp [Value.ownBlock] at hk)⟩

theorem tmod_neg {v n : Int} (hn : 1 ≤ n) (h : v.tmod n < 0) : v.tmod n + n = v % n ∧ -n < v.tmod n := by
  have h1 : -n < v.tmod n := by have := Int.tmod_lt_of_pos (-v) (show 0 < n by omega); rw [Int.neg_tmod] at this; omega
  refine ⟨?_, h1⟩
  have h2 := Int.mul_tdiv_add_tmod v n
  have h3 : v % n = (v.tmod n) % n := by
    conv => lhs; rw [← h2]
    rw [Int.add_comm, Int.add_mul_emod_self_left]
  rw [h3, ← Int.add_emod_right, Int.emod_eq_of_lt (by omega) (by omega)]
theorem tmod_pos {v n : Int} (hn : 1 ≤ n) (h : 0 ≤ v.tmod n) : v.tmod n = v % n := by
  have h1 : v.tmod n < n := Int.tmod_lt_of_pos v (by omega)
  have h2 := Int.mul_tdiv_add_tmod v n
  have h3 : v % n = (v.tmod n) % n := by
    conv => lhs; rw [← h2]
    rw [Int.add_comm, Int.add_mul_emod_self_left]
  rw [h3, Int.emod_eq_of_lt (by omega) (by omega)]
theorem within_any (v n : Int) (w : World) (hn0 : 1 ≤ n) (hn1 : n ≤ 1000000) :
    Calls Try.prog 9 #[.int .i64 v, .int .i64 n] w fun e w' => e = .returned (.int .i64 (v % n)) ∧ w = w' := by
  go_enter Try.func9, Try.ntmps9
  go_wp2
  · go_ret
    have h : v.tmod n < 0 := by assumption
    obtain ⟨h1, h2⟩ := tmod_neg hn0 h
    refine ⟨ret_int ?_, rfl⟩
    rw [← h1]
    exact IntWalk.wrap64_in _ (by omega)
  · go_ret
    exact ⟨ret_int (tmod_pos hn0 (by assumption)), rfl⟩

theorem cut_any (a : Option Addr) (l : List Int) (n cap m : Nat) (w : World) (hsl : Sl w a n cap l) (hb : m ≤ 1000000) :
    Calls Try.prog 21 #[.slice a n cap, .int .i64 m] w fun e w' => ∃ v, e = .returned v ∧ Own w' w.heap.size v (l.take m) ∧ Below w.heap.size w w' := by
  have hle := hsl.le
  have hmx := hsl.max
  unfold maxLen at hmx
  have hl := hsl.len
  by_cases hc : n ≤ m
  · have he : Hid (l.take m = l) := List.take_of_length_le (by omega)
    go_enter Try.func21, Try.ntmps21
    go_wp2_with (go_at_call 39; refine (copy_any a l n cap w hsl (by omega)).mono ?_; rintro e w' ⟨v, rfl, hown, hbel⟩)
    go_ret
    exact ⟨_, rfl, by rw [he.out]; assumption, by assumption⟩
  · have hs2 := hsl.take m (by omega)
    go_enter Try.func21, Try.ntmps21
    go_wp2_with (go_at_call 39; refine (copy_any a (l.take m) m cap w hs2 (by omega)).mono ?_; rintro e w' ⟨v, rfl, hown, hbel⟩)
    go_ret
    exact ⟨_, rfl, by assumption, by assumption⟩

theorem cut_x (a : Option Addr) (l : List Int) (n cap m : Nat) (x : Int) (w : World) (hsl : Sl w a n cap l) (hb : m ≤ 1000000) (hx : x = (m : Int)) :
    Calls Try.prog 21 #[.slice a n cap, .int .i64 x] w fun e w' => ∃ v, e = .returned v ∧ Own w' w.heap.size v (l.take m) ∧ Below w.heap.size w w' := by
  subst hx; exact cut_any a l n cap m w hsl hb
theorem Own.low {w : World} {base base' : Nat} {v : Value} {l : List Int} (h : Own w base v l) (hb : base' ≤ base) : Own w base' v l := by
  refine ⟨h.1, h.2.imp id ?_⟩
  rintro ⟨g, cap, cur, e, hg, rest⟩
  exact ⟨g, cap, cur, e, Nat.le_trans hb hg, rest⟩
theorem Own.set {w : World} {base : Nat} {v : Value} {l : List Int} (h : Own w base v l) {p : Addr} (hp : p.block < base) (u : Value) : Own (w.setCell p u) base v l := ownsRow_setCell_below h hp u
theorem Own.below {w w' : World} {base : Nat} {v : Value} {l : List Int} (h : Own w base v l) (hb : Below w.heap.size w w') : Own w' base v l := by
  refine ⟨h.1, h.2.imp id ?_⟩
  rintro ⟨g, cap, cur, e, hg, hh, rest⟩
  exact ⟨g, cap, cur, e, hg, by rw [hb.block g (by rcases Nat.lt_or_ge g w.heap.size with h | h; exact h; rw [Array.getElem?_eq_none h] at hh; cases hh)]; exact hh, rest⟩
theorem take_same {l m : List Int} {k : Nat} (h : l.take k = m.take k) (hx : l[k]?.getD 0 = m[k]?.getD 0) (h1 : k < l.length) (h2 : k < m.length) : l.take (k + 1) = m.take (k + 1) := by
  rw [List.take_succ_eq_append_getElem h1, List.take_succ_eq_append_getElem h2, h]
  simp [h1, h2] at hx
  rw [hx]
end Go.Proofs.Ytgeiagndpfdnlaa
end
section
namespace Go.Proofs.Ytgeiagndpfdnlaa
open Go.ChangeShapes Go.WideShapes Go.ChangeAt Go.RowKit Go.Joins
set_option linter.unusedVariables false

section
variable {H : Type} {enc : TypeId × Value → H} {P : Program} {w : World} {base : Nat} {spare : Nat → Bool} {held : Bool}
/-- A struct by value whose fields are of one cell each: every field's cell with its reading. -/
theorem agg_cells {r : Reach} {b0 : Nat} {t : TypeId} {fs : Array Field} {v : Value} {d : DataW H} {p : List MemPlace} (hs : P.underlying t = some (.struct fs)) (hone : Deep.oneCellFields P fs = true) (hC : P.cellsOf t = fs.size)
    (hv : Value.okWide P w r b0 t v) (h : DataW.Trod enc P w base spare held t v d p) :
    ∃ cs : Array Value, v = .agg cs ∧ cs.size = fs.size ∧ ∀ (i : Nat) (f : Field), fs[i]? = some f → ∃ c n y, cs[i]? = some c ∧ DataW.trod enc P w base spare held n f.type [c] = some y := by
  obtain ⟨cs, rfl, hsz⟩ := okWide_struct hs hv
  obtain ⟨fuel, hf⟩ := h
  obtain ⟨xs, n, _, _, hl, hlen, hfs⟩ := DataW.trod_struct hs hf
  refine ⟨cs, rfl, hsz.trans hC, fun i f hi => ?_⟩
  obtain ⟨o0, k0⟩ := Deep.hone_of hone i f hi
  have hi' : i < fs.size := (Array.getElem?_eq_some_iff.1 hi).1
  have hc : i < cs.size := by omega
  have hx := hfs i f hi
  rw [o0, k0, List.getElem?_eq_getElem (by omega)] at hx
  refine ⟨cs[i], n, xs[i]'(by omega), by simp [hc], ?_⟩
  have e : ((Value.cells (.agg cs)).toList.drop i).take 1 = [cs[i]] := by
    simp [Value.cells, List.drop_eq_getElem_cons (show i < cs.toList.length by simpa using hc)]
  rw [← e]; exact hx
end

/-- Words of 64 bits. -/
def R64 (l : List Int) : Prop := ∀ x ∈ l, -9223372036854775808 ≤ x ∧ x ≤ 9223372036854775807
theorem wf_i64 {n : Int} (h : (Lit.int .i64 n).wf = true) : -9223372036854775808 ≤ n ∧ n ≤ 9223372036854775807 := by
  simp [Lit.wf, IntKind.min, IntKind.max, IntKind.signed, IntKind.bits] at h; omega
theorem wf_u8 {n : Int} (h : (Lit.int .u8 n).wf = true) : 0 ≤ n ∧ n < 256 := by
  simp [Lit.wf, IntKind.min, IntKind.max, IntKind.signed, IntKind.bits] at h; omega
theorem R64.take {l : List Int} (h : R64 l) (k : Nat) : R64 (l.take k) := fun x hx => h x (List.mem_of_mem_take hx)
section
variable {H : Type} {enc : TypeId × Value → H} {w : World} {base n : Nat}
theorem int_cell {spare : Nat → Bool} {held : Bool} {c : Value} {y : DataW H × List MemPlace} (h : DataW.trod enc Try.prog w base spare held n 3 [c] = some y) : ∃ x, c = .int .i64 x := by
  obtain ⟨x, e, _⟩ := DataW.trod_int Try.underlying3 h
  simp at e
  exact ⟨x, e⟩
theorem bool_cell {spare : Nat → Bool} {held : Bool} {c : Value} {y : DataW H × List MemPlace} (h : DataW.trod enc Try.prog w base spare held n 4 [c] = some y) : ∃ x, c = .bool x := by
  obtain ⟨x, e, _⟩ := DataW.trod_bool Try.underlying4 h
  simp at e
  exact ⟨x, e⟩
theorem ints_cell {held : Bool} {c : Value} {y : DataW H × List MemPlace} (h : DataW.trod enc Try.prog w base (fun _ => true) held n 22 [c] = some y) : ∃ a len cap z, c = .slice a len cap ∧ Sl w a len cap z ∧ R64 z := by
  rcases open_ints Try.underlying22 Try.underlying3 (by kernel_rfl) h with ⟨hcs, _⟩ | ⟨x, l, c', zs, hcs, _, hl, hm, hz, _, hcell, hwz⟩
  · simp at hcs
    exact ⟨none, 0, 0, [], hcs, sl_nil w, fun x hx => by cases hx⟩
  · simp at hcs
    exact ⟨some x, l, c', zs.take l, hcs, sl_of (.inr ⟨x, rfl, hl, hm, by simpa using hz, hcell, hwz⟩), R64.take (fun x hx => wf_i64 (hwz x hx)) l⟩
end
end Go.Proofs.Ytgeiagndpfdnlaa
end
section
namespace Go.Proofs.Ytgeiagndpfdnlaa
open Go.RowKit

/-- A configuration, as a value. -/
@[reducible] def cfg (n l k s y o i : Int) (t : Value) : Value := .agg #[.int .i64 n, .int .i64 l, .int .i64 k, .int .i64 s, .int .i64 y, .int .i64 o, .int .i64 i, t]
end Go.Proofs.Ytgeiagndpfdnlaa
end
section
namespace Go.Proofs.Ytgeiagndpfdnlaa
open Go.RowKit
set_option linter.unusedVariables false

section
variable {P : Program} {ops : Array Oper} {Q : Exit → Act → World → Prop} {md : Region.Mode} {w0 : World}

@[reducible] def UpC (w : World) : World → Prop := fun w' => ∃ u : Up w, w' = u.1
def Up.trans {w : World} (W : Up w) (u : Up W.1) : Up w := ⟨u.1, next W.2 u.2⟩
theorem cell_far {w : World} {p : Addr} {v : Value} (b o : Nat) (h : b ≠ p.block) : (w.setCell p v).cell? ⟨b, o, none⟩ = w.cell? ⟨b, o, none⟩ := by
  apply World.cell?_setCell_other
  intro e
  exact h (by rw [e])
theorem Up.cell2 {w : World} (W : Up w) (u : Up W.1) (b o : Nat) (h : b < w.heap.size) : u.1.cell? ⟨b, o, none⟩ = w.cell? ⟨b, o, none⟩ := (W.trans u).2.cell (p := ⟨b, o, none⟩) h
theorem Up.frozen2 {w : World} (W : Up w) (u : Up W.1) (b o : Nat) (h : b < w.heap.size) : u.1.frozen? ⟨b, o, none⟩ = w.frozen? ⟨b, o, none⟩ := (W.trans u).2.frozen (p := ⟨b, o, none⟩) h
def Up.self (w : World) : Up w := ⟨w, Below.refl _ _⟩

/-- In state a, in every world above w0, operation o leaves v and lets the world only grow. -/
def Mild (P : Program) (ops : Array Oper) (w0 : World) (o : Oper) (v : Value) (a : Act) : Prop :=
  (Region.wanted o (yielded ops a.tmps) = true ∧ ∀ (W : Up w0) (K : Act → Prop), K (a.put o.dst v) → o.quiet P a (UpC W.1) K) ∨
  (Region.wanted o (yielded ops a.tmps) = false ∧ v = undef)

theorem Mild.wpOp {i : Nat} {o : Oper} {v : Value} {a : Act} (hi : ops[i]? = some o) (hy : Mild P ops w0 o v a) (W : Up w0) {K : Act → World → Prop}
    (h : ∀ u : Up W.1, K (a.put o.dst v) u.1) : wpOp P ops Q i K a W.1 := by
  unfold Go.wpOp
  simp only [hi]
  rcases hy with ⟨hw, hv⟩ | ⟨hw, rfl⟩
  · rw [if_pos hw]
    refine .inl (Oper.wp_of_quiet (C := UpC W.1) (K := fun x => x = a.put o.dst v) ⟨Up.self _, rfl⟩ ?_ (hv W _ rfl))
    rintro a' w' ⟨u, rfl⟩ rfl
    exact h u
  · rw [if_neg (by rw [hw]; exact Bool.false_ne_true)]
    exact h (Up.self _)

theorem Mild.put {oi oj : Oper} {v : Value} {a : Act} (u : Value) (hsi : ∀ cs b, oi.op ≠ .select cs b) (h2 : ∀ d, oi.dst = some d → oj.dst ≠ some d) (h3 : ∀ d, oj.dst = some d → d ∉ oi.looksAt ops)
    (hy : Mild P ops w0 oi v a) : Mild P ops w0 oi v (a.put oj.dst u) := by
  unfold Mild at *
  rw [wanted_put oi a oj.dst u h3]
  refine hy.imp (fun ⟨hw, hv⟩ => ⟨hw, fun W K hK => ?_⟩) id
  obtain ⟨v', q1, q2⟩ := hv W (fun x => x = a.put oi.dst v) rfl
  refine ⟨v', fun w hw => ?_, ?_⟩
  · have := q1 w hw
    unfold Oper.quietAt at *
    rwa [execOp_put oi hsi a oj.dst u h3]
  · rw [← Act.put_comm a v' u h2, q2, Act.put_comm a v u h2]; exact hK

theorem Mild.defers {oi : Oper} {v : Value} {a : Act} (d : Deferred) (hy : Mild P ops w0 oi v a) : Mild P ops w0 oi v { a with defers := d :: a.defers } := by
  unfold Mild at *
  refine hy.imp (fun ⟨hw, hv⟩ => ⟨hw, fun W K hK => ?_⟩) id
  obtain ⟨v', q1, q2⟩ := hv W (fun x => x = a.put oi.dst v) rfl
  refine ⟨v', q1, ?_⟩
  rw [← Act.put_defers, q2, Act.put_defers]; exact hK

/-- Whether a mild operation's value is already there makes no difference to an operation apart from it. -/
theorem wpOp_mild {j : Nat} {oi oj : Oper} {v : Value} (hj : ops[j]? = some oj) (hap : oi.apart ops oj = true)
    (hsi : ∀ cs b, oi.op ≠ .select cs b) (hsj : ∀ cs b, oj.op ≠ .select cs b)
    (hQ : ∀ c a w, Q (.panic c) (a.put oi.dst v) w → Q (.panic c) a w) {K : Act → World → Prop} {a : Act} {w : World}
    (hy : Mild P ops w0 oi v a) (h : wpOp P ops Q j K (a.put oi.dst v) w) :
    wpOp P ops Q j (fun a' w' => Mild P ops w0 oi v a' ∧ K (a'.put oi.dst v) w') a w := by
  obtain ⟨h1, h2, h3⟩ := Oper.apart_spec hap
  have hx : execOp (a.put oi.dst v).eval oj = execOp a.eval oj := execOp_put oj hsj a oi.dst v h1
  have go : ∀ u w', K ((a.put oi.dst v).put oj.dst u) w' → Mild P ops w0 oi v (a.put oj.dst u) ∧ K ((a.put oj.dst u).put oi.dst v) w' := fun u w' hk =>
    ⟨hy.put u hsi h2 h3, by rwa [Act.put_comm a v u h2] at hk⟩
  unfold wpOp at *
  simp only [hj] at *
  rw [wanted_put oj a oi.dst v h1] at h
  by_cases hw : Region.wanted oj (yielded ops a.tmps) = true
  · rw [if_pos hw] at h ⊢
    rcases h with h | ⟨hasks, hlets⟩
    · left
      unfold Oper.wp at *
      rw [hx] at h
      revert h
      generalize (execOp a.eval oj).run P w = r
      intro h
      rcases r with ⟨n, w'⟩ | ⟨x, w'⟩
      · cases n with
        | value u => exact go u w' h
        | skip => exact go undef w' h
        | «defer» d =>
          simp only [Oper.upon] at h ⊢
          refine ⟨(hy.defers d).put undef hsi h2 h3, ?_⟩
          rwa [← Act.put_comm _ v undef h2, ← Act.put_defers]
        | enter f args =>
          exact Calls.mono h fun e w'' he => by
            cases e with
            | returned u => exact go u w'' he
            | panicked c => exact hQ _ _ _ he
            | outgrown => exact he
        | row r args => exact Rows.mono h fun u w'' he => go u w'' he
        | _ => exact h
      · cases x with
        | panic u => exact hQ _ _ _ h
        | _ => exact h
    · right
      exact ⟨by unfold Oper.asks at *; rwa [hx] at hasks, hlets⟩
  · rw [if_neg hw] at h ⊢
    exact go undef w h

/-- Whatever order is picked from here on; behind each operation the world is above w0, and may grow. -/
def wpAnyU (P : Program) (md : Region.Mode) (ops : Array Oper) (Q : Exit → Act → World → Prop) (w0 : World) : Nat → Array Bool → Act → World → Prop
  | 0, listed, a, w => Region.ready md ops listed = [] ∧ Q .normal a w
  | fuel + 1, listed, a, w =>
    (Region.ready md ops listed = [] → Q .normal a w) ∧
    ∀ i ∈ Region.ready md ops listed, wpOp P ops Q i (fun a' w' => Below w0.heap.size w0 w' ∧ ∀ u : Up w', wpAnyU P md ops Q w0 fuel (listed.setIfInBounds i true) a' u.1) a w

theorem wpAny_of_up : ∀ (fuel : Nat) (listed : Array Bool) (a : Act) (w : World), wpAnyU P md ops Q w0 fuel listed a w → wpAny P md ops Q fuel listed a w
  | 0, _, _, _, h => h
  | fuel + 1, _, _, _, h => ⟨h.1, fun i hi => wpOp_mono (fun a' w' h' => wpAny_of_up fuel _ a' w' (h'.2 (Up.self _))) (h.2 i hi)⟩

theorem wpAnyU_first {i : Nat} {oi : Oper} {v : Value} (hi : ops[i]? = some oi) (hsel : ∀ (j : Nat) (o : Oper) cs b, ops[j]? = some o → o.op ≠ .select cs b)
    (hQ : ∀ c a w, Q (.panic c) (a.put oi.dst v) w → Q (.panic c) a w) :
    ∀ (fuel : Nat) (listed : Array Bool) (a : Act) (W : Up w0),
      (∀ j oj, ops[j]? = some oj → j ≠ i → listed.getD j true = false → (∀ e ∈ oj.after, Region.binds md e = true → e.on ≠ i) → oi.apart ops oj = true) →
      i ∈ Region.ready md ops listed → Mild P ops w0 oi v a →
      (∀ u : Up W.1, wpAnyU P md ops Q w0 fuel (listed.setIfInBounds i true) (a.put oi.dst v) u.1) → wpAnyU P md ops Q w0 (fuel + 1) listed a W.1 := by
  intro fuel
  induction fuel with
  | zero =>
    intro listed a W _ hr hy H
    refine ⟨fun h => (by rw [h] at hr; cases hr), fun j hj => ?_⟩
    by_cases hji : j = i
    · subst hji; exact hy.wpOp hi W fun u => ⟨(W.trans u).2, fun u' => H (u.trans u')⟩
    · have := ready_mono hj hji
      rw [(H (Up.self _)).1] at this
      cases this
  | succ fuel ih =>
    intro listed a W hfree hr hy H
    refine ⟨fun h => (by rw [h] at hr; cases hr), fun j hj => ?_⟩
    by_cases hji : j = i
    · subst hji; exact hy.wpOp hi W fun u => ⟨(W.trans u).2, fun u' => H (u.trans u')⟩
    · have h1 := (H (Up.self _)).2 j (ready_mono hj hji)
      obtain ⟨hjun, oj, hoj, hall⟩ := mem_ready.1 hj
      have hnot : ∀ e ∈ oj.after, Region.binds md e = true → e.on ≠ i := fun e he hb heq => by
        have g1 := hall e he hb
        have g0 := (mem_ready.1 hr).1
        rw [heq] at g1
        rcases Nat.lt_or_ge i listed.size with h' | h'
        · simp [h'] at g0 g1; rw [g0] at g1; cases g1
        · simp [Array.getElem?_eq_none h'] at g1
      have h2 := wpOp_mild hoj (hfree j oj hoj hji hjun hnot) (fun cs b => hsel i oi cs b hi) (fun cs b => hsel j oj cs b hoj) hQ hy h1
      have hfree' : ∀ k ok, ops[k]? = some ok → k ≠ i → (listed.setIfInBounds j true).getD k true = false →
          (∀ e ∈ ok.after, Region.binds md e = true → e.on ≠ i) → oi.apart ops ok = true := fun k ok hk hki hun hno => by
        refine hfree k ok hk hki ?_ hno
        by_cases hjk : j = k
        · subst hjk; exact hjun
        · rw [getD_set_ne true hjk] at hun; exact hun
      refine wpOp_mono (fun a' w' h3 => ⟨h3.2.1, fun u => ?_⟩) h2
      refine ih (listed.setIfInBounds j true) a' ⟨u.1, next h3.2.1 u.2⟩ hfree' (ready_mono hr (Ne.symm hji)) h3.1 fun u' => ?_
      rw [Array.setIfInBounds_comm _ _ hji]
      exact h3.2.2 (u.trans u')

/-- The region, from here on, in every world above w0. -/
def MildOn (P : Program) (ops : Array Oper) (Q : Exit → Act → World → Prop) (w0 : World) (fuel : Nat) (listed : Array Bool) (a : Act) : Prop :=
  ∀ W : Up w0, wpAnyU P .any ops Q w0 fuel listed a W.1

theorem wp_region_mild {id : Nat} {a : Act} {w : World} {l : List Oper} (n : Nat) (hn : l.length = n) (hm : P.follows .mixedOrders = true) (h : MildOn P l.toArray Q w n (Array.replicate n false) a) : (Code.region id l.toArray true).wp P Q a w := by
  refine wp_region_any hm (wpAny_of_up (w0 := w) _ _ _ _ ?_)
  subst hn
  have := h ⟨w.drew, (Below.refl _ _).drew⟩
  simpa using this

theorem of_drop {l rest : List Oper} {oi : Oper} {i : Nat} (h : l.drop i = oi :: rest) : l.toArray[i]? = some oi := by
  have : (l.drop i)[0]? = some oi := by rw [h]; rfl
  simpa using this
theorem mild_take (i : Nat) {l rest : List Oper} {oi : Oper} {v : Value} {fuel : Nat} {listed : Array Bool} {a : Act} (hd : l.drop i = oi :: rest) (hs : Region.noSelect l.toArray = true)
    (hf : Region.free .any l.toArray listed i = true) (hr : (Region.ready .any l.toArray listed).contains i = true) (hQ : ∀ c a w, Q (.panic c) (a.put oi.dst v) w → Q (.panic c) a w)
    (hw : Region.wanted oi (yielded l.toArray a.tmps) = true) (hy : ∀ (W : Up w0) (K : Act → Prop), K (a.put oi.dst v) → oi.quiet P a (fun w' => ∃ u : Up W.1, w' = u.1) K)
    (h : MildOn P l.toArray Q w0 fuel (listed.setIfInBounds i true) (a.put oi.dst v)) : MildOn P l.toArray Q w0 (fuel + 1) listed a := fun W =>
  wpAnyU_first (of_drop hd) (Region.noSelect_spec hs) hQ fuel listed a W (Region.free_spec (of_drop hd) hf) (by simpa using hr) (.inl ⟨hw, hy⟩) fun u => h (W.trans u)
theorem mild_skip (i : Nat) {l rest : List Oper} {oi : Oper} {fuel : Nat} {listed : Array Bool} {a : Act} (hd : l.drop i = oi :: rest) (hs : Region.noSelect l.toArray = true)
    (hf : Region.free .any l.toArray listed i = true) (hr : (Region.ready .any l.toArray listed).contains i = true) (hQ : ∀ c a w, Q (.panic c) (a.put oi.dst undef) w → Q (.panic c) a w)
    (hw : Region.wanted oi (yielded l.toArray a.tmps) = false)
    (h : MildOn P l.toArray Q w0 fuel (listed.setIfInBounds i true) (a.put oi.dst undef)) : MildOn P l.toArray Q w0 (fuel + 1) listed a := fun W =>
  wpAnyU_first (of_drop hd) (Region.noSelect_spec hs) hQ fuel listed a W (Region.free_spec (of_drop hd) hf) (by simpa using hr) (.inr ⟨hw, rfl⟩) fun u => h (W.trans u)

/-- What stands behind one operation of the tail. -/
def Then (K : Act → World → Prop) (Q : Exit → Act → World → Prop) : Exit → Act → World → Prop
  | .normal, a, w => K a w
  | e, a, w => Q e a w
/-- One operation alone may come up: it is walked as a list of its own; behind it the world may grow. -/
theorem up_one (i : Nat) {oi : Oper} {fuel : Nat} {listed : Array Bool} {a : Act} {w : World} (hr : Region.ready .any ops listed = [i]) (hi : ops[i]? = some oi)
    (h : wpOp P ops Q i (fun a' w' => Below w0.heap.size w0 w' ∧ ∀ u : Up w', wpAnyU P .any ops Q w0 fuel (listed.setIfInBounds i true) a' u.1) a w) : wpAnyU P .any ops Q w0 (fuel + 1) listed a w :=
  ⟨fun h0 => (by rw [hr] at h0; cases h0), (by rw [hr]; intro j hj; rw [List.mem_singleton] at hj; subst hj; exact h)⟩
theorem up_list (i : Nat) {l rest : List Oper} {oi : Oper} {fuel : Nat} {listed : Array Bool} {a : Act} {w : World} (hr : Region.ready .any l.toArray listed = [i]) (hd : l.drop i = oi :: rest)
    (h : wpList P l.toArray (Then (fun a' w' => Below w0.heap.size w0 w' ∧ ∀ u : Up w', wpAnyU P .any l.toArray Q w0 fuel (listed.setIfInBounds i true) a' u.1) Q) [oi] a w) : wpAnyU P .any l.toArray Q w0 (fuel + 1) listed a w := by
  have hi := of_drop hd
  refine up_one i hr hi ?_
  unfold wpOp
  simp only [hi]
  unfold wpList at h
  by_cases hw : Region.wanted oi (yielded l.toArray a.tmps) = true
  · rw [if_pos hw] at h ⊢
    refine h.imp (fun h => ?_) id
    unfold Oper.wp at *
    revert h
    generalize (execOp a.eval oi).run P w = r
    intro h
    rcases r with ⟨n, w'⟩ | ⟨x, w'⟩
    · cases n with
      | enter f args =>
        exact Calls.mono h fun e w'' he => by
          cases e <;> exact he
      | _ => exact h
    · cases x <;> exact h
  · rw [if_neg hw] at h ⊢
    exact h
theorem then_mk {K : World → Act → World → Prop} {a : Act} {w : World} (h0 : Below w0.heap.size w0 w) (h : ∀ u : Up w, K u.1 a u.1) : Then (fun a' w' => Below w0.heap.size w0 w' ∧ ∀ u : Up w', K u.1 a' u.1) Q .normal a w := ⟨h0, h⟩
theorem up_done {fuel : Nat} {listed : Array Bool} {a : Act} {w : World} (hr : Region.ready .any ops listed = []) (h : Q .normal a w) : wpAnyU P .any ops Q w0 fuel listed a w := by
  cases fuel with
  | zero => exact ⟨hr, h⟩
  | succ n => exact ⟨fun _ => h, by rw [hr]; simp⟩
end
end Go.Proofs.Ytgeiagndpfdnlaa
end
section
namespace Go.Proofs.Ytgeiagndpfdnlaa
open Go.RowKit
set_option linter.unusedVariables false
set_option maxRecDepth 20000

/-- A setup, as a value. -/
@[reducible] def setup (n l k s y o i : Int) (t wh ki ad va : Value) : Value := .agg #[.int .i64 n, .int .i64 l, .int .i64 k, .int .i64 s, .int .i64 y, .int .i64 o, .int .i64 i, t, wh, ki, ad, va]
/-- One more than the remainder. -/
def nd (x : Int) (m : Nat) : Nat := (1 + x % (m : Int)).toNat
theorem nd_lo (x : Int) (m : Nat) : 1 ≤ nd x m ∨ m = 0 := by
  by_cases h : m = 0
  · exact .inr h
  · left; have := Int.emod_nonneg x (b := (m : Int)) (by omega); unfold nd; omega
theorem nd_hi (x : Int) (m : Nat) (h : 0 < m) : nd x m ≤ m := by
  have := Int.emod_lt_of_pos x (b := (m : Int)) (by omega); unfold nd; omega
theorem nd_cast (x : Int) (m : Nat) (h : 0 < m) : (nd x m : Int) = 1 + x % (m : Int) := by
  have := Int.emod_nonneg x (b := (m : Int)) (by omega); unfold nd; omega

set_option maxHeartbeats 1000000 in
theorem config_any (n l k s y o i : Int) (a : Option Addr) (len cap : Nat) (wh ki ad va : Value) (z : List Int) (w : World) (hsl : Sl w a len cap z) :
    Calls Try.prog 7 #[setup n l k s y o i (.slice a len cap) wh ki ad va] w fun e w' => ∃ v, e = .returned (cfg (nd n 4) (nd l 4) (nd k 2) (nd s 2) (nd y 2) (nd o 3) (nd i 3) v) ∧ Own w' w.heap.size v (z.take (nd l 4 * nd k 2)) ∧ Below w.heap.size w w' := by
  unfold setup cfg
  have n0 : 0 ≤ n % 4 := Int.emod_nonneg _ (by omega)
  have n1 : n % 4 < 4 := Int.emod_lt_of_pos _ (by omega)
  have l0 : 0 ≤ l % 4 := Int.emod_nonneg _ (by omega)
  have l1 : l % 4 < 4 := Int.emod_lt_of_pos _ (by omega)
  have k0 : 0 ≤ k % 2 := Int.emod_nonneg _ (by omega)
  have k1 : k % 2 < 2 := Int.emod_lt_of_pos _ (by omega)
  have s0 : 0 ≤ s % 2 := Int.emod_nonneg _ (by omega)
  have s1 : s % 2 < 2 := Int.emod_lt_of_pos _ (by omega)
  have y0 : 0 ≤ y % 2 := Int.emod_nonneg _ (by omega)
  have y1 : y % 2 < 2 := Int.emod_lt_of_pos _ (by omega)
  have o0 : 0 ≤ o % 3 := Int.emod_nonneg _ (by omega)
  have o1 : o % 3 < 3 := Int.emod_lt_of_pos _ (by omega)
  have i0 : 0 ≤ i % 3 := Int.emod_nonneg _ (by omega)
  have i1 : i % 3 < 3 := Int.emod_lt_of_pos _ (by omega)
  go_enter Try.func7, Try.ntmps7
  go_wp2_with fail
  have uc := @Up.cell2
  have uf := @Up.frozen2
  refine wp_region_mild 31 rfl (by kernel_rfl) ?_
  refine mild_take (v := ?v1) 0 rfl (by kernel_rfl) (by kernel_rfl) (by kernel_rfl) (fun _ _ _ h => h) (by kernel_rfl) (fun W K hK => ?hy1) ?go1
  case hy1 =>
    go_big_quiet_op
    simp only [Act.put, List.setIfInBounds_toArray, List.set_cons_zero, List.set_cons_succ] at hK
    exact hK
  simp only [Act.put, List.setIfInBounds_toArray, List.set_cons_zero, List.set_cons_succ]
  refine mild_take (v := ?v2) 1 rfl (by kernel_rfl) (by kernel_rfl) (by kernel_rfl) (fun _ _ _ h => h) (by kernel_rfl) (fun W K hK => ?hy2) ?go2
  case hy2 =>
    go_big_quiet_op
    simp only [Act.put, List.setIfInBounds_toArray, List.set_cons_zero, List.set_cons_succ] at hK
    exact hK
  simp only [Act.put, List.setIfInBounds_toArray, List.set_cons_zero, List.set_cons_succ]
  refine mild_take (v := ?v3) 2 rfl (by kernel_rfl) (by kernel_rfl) (by kernel_rfl) (fun _ _ _ h => h) (by kernel_rfl) (fun W K hK => ?hy3) ?go3
  case hy3 =>
    go_big_quiet_op
    simp only [Act.put, List.setIfInBounds_toArray, List.set_cons_zero, List.set_cons_succ] at hK
    refine ⟨_, fun u => Calls.up_same (within_any _ _ _ (by omega) (by omega)), ?_⟩
    exact hK
  simp only [Act.put, List.setIfInBounds_toArray, List.set_cons_zero, List.set_cons_succ]
  refine mild_take (v := ?v4) 3 rfl (by kernel_rfl) (by kernel_rfl) (by kernel_rfl) (fun _ _ _ h => h) (by kernel_rfl) (fun W K hK => ?hy4) ?go4
  case hy4 =>
    go_big_quiet_op
    simp only [Act.put, List.setIfInBounds_toArray, List.set_cons_zero, List.set_cons_succ] at hK
    exact hK
  simp only [Act.put, List.setIfInBounds_toArray, List.set_cons_zero, List.set_cons_succ]
  refine mild_take (v := ?v5) 4 rfl (by kernel_rfl) (by kernel_rfl) (by kernel_rfl) (fun _ _ _ h => h) (by kernel_rfl) (fun W K hK => ?hy5) ?go5
  case hy5 =>
    go_big_quiet_op
    simp only [Act.put, List.setIfInBounds_toArray, List.set_cons_zero, List.set_cons_succ] at hK
    exact hK
  simp only [Act.put, List.setIfInBounds_toArray, List.set_cons_zero, List.set_cons_succ]
  refine mild_take (v := ?v6) 5 rfl (by kernel_rfl) (by kernel_rfl) (by kernel_rfl) (fun _ _ _ h => h) (by kernel_rfl) (fun W K hK => ?hy6) ?go6
  case hy6 =>
    go_big_quiet_op
    simp only [Act.put, List.setIfInBounds_toArray, List.set_cons_zero, List.set_cons_succ] at hK
    exact hK
  simp only [Act.put, List.setIfInBounds_toArray, List.set_cons_zero, List.set_cons_succ]
  refine mild_take (v := ?v7) 6 rfl (by kernel_rfl) (by kernel_rfl) (by kernel_rfl) (fun _ _ _ h => h) (by kernel_rfl) (fun W K hK => ?hy7) ?go7
  case hy7 =>
    go_big_quiet_op
    simp only [Act.put, List.setIfInBounds_toArray, List.set_cons_zero, List.set_cons_succ] at hK
    refine ⟨_, fun u => Calls.up_same (within_any _ _ _ (by omega) (by omega)), ?_⟩
    exact hK
  simp only [Act.put, List.setIfInBounds_toArray, List.set_cons_zero, List.set_cons_succ]
  refine mild_take (v := ?v8) 7 rfl (by kernel_rfl) (by kernel_rfl) (by kernel_rfl) (fun _ _ _ h => h) (by kernel_rfl) (fun W K hK => ?hy8) ?go8
  case hy8 =>
    go_big_quiet_op
    simp only [Act.put, List.setIfInBounds_toArray, List.set_cons_zero, List.set_cons_succ] at hK
    exact hK
  simp only [Act.put, List.setIfInBounds_toArray, List.set_cons_zero, List.set_cons_succ]
  refine mild_take (v := ?v9) 8 rfl (by kernel_rfl) (by kernel_rfl) (by kernel_rfl) (fun _ _ _ h => h) (by kernel_rfl) (fun W K hK => ?hy9) ?go9
  case hy9 =>
    go_big_quiet_op
    simp only [Act.put, List.setIfInBounds_toArray, List.set_cons_zero, List.set_cons_succ] at hK
    exact hK
  simp only [Act.put, List.setIfInBounds_toArray, List.set_cons_zero, List.set_cons_succ]
  refine mild_take (v := ?v10) 9 rfl (by kernel_rfl) (by kernel_rfl) (by kernel_rfl) (fun _ _ _ h => h) (by kernel_rfl) (fun W K hK => ?hy10) ?go10
  case hy10 =>
    go_big_quiet_op
    simp only [Act.put, List.setIfInBounds_toArray, List.set_cons_zero, List.set_cons_succ] at hK
    exact hK
  simp only [Act.put, List.setIfInBounds_toArray, List.set_cons_zero, List.set_cons_succ]
  refine mild_take (v := ?v11) 10 rfl (by kernel_rfl) (by kernel_rfl) (by kernel_rfl) (fun _ _ _ h => h) (by kernel_rfl) (fun W K hK => ?hy11) ?go11
  case hy11 =>
    go_big_quiet_op
    simp only [Act.put, List.setIfInBounds_toArray, List.set_cons_zero, List.set_cons_succ] at hK
    refine ⟨_, fun u => Calls.up_same (within_any _ _ _ (by omega) (by omega)), ?_⟩
    exact hK
  simp only [Act.put, List.setIfInBounds_toArray, List.set_cons_zero, List.set_cons_succ]
  refine mild_take (v := ?v12) 11 rfl (by kernel_rfl) (by kernel_rfl) (by kernel_rfl) (fun _ _ _ h => h) (by kernel_rfl) (fun W K hK => ?hy12) ?go12
  case hy12 =>
    go_big_quiet_op
    simp only [Act.put, List.setIfInBounds_toArray, List.set_cons_zero, List.set_cons_succ] at hK
    exact hK
  simp only [Act.put, List.setIfInBounds_toArray, List.set_cons_zero, List.set_cons_succ]
  refine mild_take (v := ?v13) 12 rfl (by kernel_rfl) (by kernel_rfl) (by kernel_rfl) (fun _ _ _ h => h) (by kernel_rfl) (fun W K hK => ?hy13) ?go13
  case hy13 =>
    go_big_quiet_op
    simp only [Act.put, List.setIfInBounds_toArray, List.set_cons_zero, List.set_cons_succ] at hK
    exact hK
  simp only [Act.put, List.setIfInBounds_toArray, List.set_cons_zero, List.set_cons_succ]
  refine mild_take (v := ?v14) 13 rfl (by kernel_rfl) (by kernel_rfl) (by kernel_rfl) (fun _ _ _ h => h) (by kernel_rfl) (fun W K hK => ?hy14) ?go14
  case hy14 =>
    go_big_quiet_op
    simp only [Act.put, List.setIfInBounds_toArray, List.set_cons_zero, List.set_cons_succ] at hK
    exact hK
  simp only [Act.put, List.setIfInBounds_toArray, List.set_cons_zero, List.set_cons_succ]
  refine mild_take (v := ?v15) 14 rfl (by kernel_rfl) (by kernel_rfl) (by kernel_rfl) (fun _ _ _ h => h) (by kernel_rfl) (fun W K hK => ?hy15) ?go15
  case hy15 =>
    go_big_quiet_op
    simp only [Act.put, List.setIfInBounds_toArray, List.set_cons_zero, List.set_cons_succ] at hK
    refine ⟨_, fun u => Calls.up_same (within_any _ _ _ (by omega) (by omega)), ?_⟩
    exact hK
  simp only [Act.put, List.setIfInBounds_toArray, List.set_cons_zero, List.set_cons_succ]
  refine mild_take (v := ?v16) 15 rfl (by kernel_rfl) (by kernel_rfl) (by kernel_rfl) (fun _ _ _ h => h) (by kernel_rfl) (fun W K hK => ?hy16) ?go16
  case hy16 =>
    go_big_quiet_op
    simp only [Act.put, List.setIfInBounds_toArray, List.set_cons_zero, List.set_cons_succ] at hK
    exact hK
  simp only [Act.put, List.setIfInBounds_toArray, List.set_cons_zero, List.set_cons_succ]
  refine mild_take (v := ?v17) 16 rfl (by kernel_rfl) (by kernel_rfl) (by kernel_rfl) (fun _ _ _ h => h) (by kernel_rfl) (fun W K hK => ?hy17) ?go17
  case hy17 =>
    go_big_quiet_op
    simp only [Act.put, List.setIfInBounds_toArray, List.set_cons_zero, List.set_cons_succ] at hK
    exact hK
  simp only [Act.put, List.setIfInBounds_toArray, List.set_cons_zero, List.set_cons_succ]
  refine mild_take (v := ?v18) 17 rfl (by kernel_rfl) (by kernel_rfl) (by kernel_rfl) (fun _ _ _ h => h) (by kernel_rfl) (fun W K hK => ?hy18) ?go18
  case hy18 =>
    go_big_quiet_op
    simp only [Act.put, List.setIfInBounds_toArray, List.set_cons_zero, List.set_cons_succ] at hK
    exact hK
  simp only [Act.put, List.setIfInBounds_toArray, List.set_cons_zero, List.set_cons_succ]
  refine mild_take (v := ?v19) 18 rfl (by kernel_rfl) (by kernel_rfl) (by kernel_rfl) (fun _ _ _ h => h) (by kernel_rfl) (fun W K hK => ?hy19) ?go19
  case hy19 =>
    go_big_quiet_op
    simp only [Act.put, List.setIfInBounds_toArray, List.set_cons_zero, List.set_cons_succ] at hK
    refine ⟨_, fun u => Calls.up_same (within_any _ _ _ (by omega) (by omega)), ?_⟩
    exact hK
  simp only [Act.put, List.setIfInBounds_toArray, List.set_cons_zero, List.set_cons_succ]
  refine mild_take (v := ?v20) 19 rfl (by kernel_rfl) (by kernel_rfl) (by kernel_rfl) (fun _ _ _ h => h) (by kernel_rfl) (fun W K hK => ?hy20) ?go20
  case hy20 =>
    go_big_quiet_op
    simp only [Act.put, List.setIfInBounds_toArray, List.set_cons_zero, List.set_cons_succ] at hK
    exact hK
  simp only [Act.put, List.setIfInBounds_toArray, List.set_cons_zero, List.set_cons_succ]
  refine mild_take (v := ?v21) 20 rfl (by kernel_rfl) (by kernel_rfl) (by kernel_rfl) (fun _ _ _ h => h) (by kernel_rfl) (fun W K hK => ?hy21) ?go21
  case hy21 =>
    go_big_quiet_op
    simp only [Act.put, List.setIfInBounds_toArray, List.set_cons_zero, List.set_cons_succ] at hK
    exact hK
  simp only [Act.put, List.setIfInBounds_toArray, List.set_cons_zero, List.set_cons_succ]
  refine mild_take (v := ?v22) 21 rfl (by kernel_rfl) (by kernel_rfl) (by kernel_rfl) (fun _ _ _ h => h) (by kernel_rfl) (fun W K hK => ?hy22) ?go22
  case hy22 =>
    go_big_quiet_op
    simp only [Act.put, List.setIfInBounds_toArray, List.set_cons_zero, List.set_cons_succ] at hK
    exact hK
  simp only [Act.put, List.setIfInBounds_toArray, List.set_cons_zero, List.set_cons_succ]
  refine mild_take (v := ?v23) 22 rfl (by kernel_rfl) (by kernel_rfl) (by kernel_rfl) (fun _ _ _ h => h) (by kernel_rfl) (fun W K hK => ?hy23) ?go23
  case hy23 =>
    go_big_quiet_op
    simp only [Act.put, List.setIfInBounds_toArray, List.set_cons_zero, List.set_cons_succ] at hK
    refine ⟨_, fun u => Calls.up_same (within_any _ _ _ (by omega) (by omega)), ?_⟩
    exact hK
  simp only [Act.put, List.setIfInBounds_toArray, List.set_cons_zero, List.set_cons_succ]
  refine mild_take (v := ?v24) 23 rfl (by kernel_rfl) (by kernel_rfl) (by kernel_rfl) (fun _ _ _ h => h) (by kernel_rfl) (fun W K hK => ?hy24) ?go24
  case hy24 =>
    go_big_quiet_op
    simp only [Act.put, List.setIfInBounds_toArray, List.set_cons_zero, List.set_cons_succ] at hK
    exact hK
  simp only [Act.put, List.setIfInBounds_toArray, List.set_cons_zero, List.set_cons_succ]
  refine mild_take (v := ?v25) 24 rfl (by kernel_rfl) (by kernel_rfl) (by kernel_rfl) (fun _ _ _ h => h) (by kernel_rfl) (fun W K hK => ?hy25) ?go25
  case hy25 =>
    go_big_quiet_op
    simp only [Act.put, List.setIfInBounds_toArray, List.set_cons_zero, List.set_cons_succ] at hK
    exact hK
  simp only [Act.put, List.setIfInBounds_toArray, List.set_cons_zero, List.set_cons_succ]
  refine mild_take (v := ?v26) 25 rfl (by kernel_rfl) (by kernel_rfl) (by kernel_rfl) (fun _ _ _ h => h) (by kernel_rfl) (fun W K hK => ?hy26) ?go26
  case hy26 =>
    go_big_quiet_op
    simp only [Act.put, List.setIfInBounds_toArray, List.set_cons_zero, List.set_cons_succ] at hK
    exact hK
  simp only [Act.put, List.setIfInBounds_toArray, List.set_cons_zero, List.set_cons_succ]
  refine mild_take (v := ?v27) 26 rfl (by kernel_rfl) (by kernel_rfl) (by kernel_rfl) (fun _ _ _ h => h) (by kernel_rfl) (fun W K hK => ?hy27) ?go27
  case hy27 =>
    go_big_quiet_op
    simp only [Act.put, List.setIfInBounds_toArray, List.set_cons_zero, List.set_cons_succ] at hK
    refine ⟨_, fun u => Calls.up_same (within_any _ _ _ (by omega) (by omega)), ?_⟩
    exact hK
  simp only [Act.put, List.setIfInBounds_toArray, List.set_cons_zero, List.set_cons_succ]
  refine mild_take (v := ?v28) 27 rfl (by kernel_rfl) (by kernel_rfl) (by kernel_rfl) (fun _ _ _ h => h) (by kernel_rfl) (fun W K hK => ?hy28) ?go28
  case hy28 =>
    go_big_quiet_op
    simp only [Act.put, List.setIfInBounds_toArray, List.set_cons_zero, List.set_cons_succ] at hK
    exact hK
  simp only [Act.put, List.setIfInBounds_toArray, List.set_cons_zero, List.set_cons_succ]
  refine mild_take (v := ?v29) 28 rfl (by kernel_rfl) (by kernel_rfl) (by kernel_rfl) (fun _ _ _ h => h) (by kernel_rfl) (fun W K hK => ?hy29) ?go29
  case hy29 =>
    go_big_quiet_op
    simp only [Act.put, List.setIfInBounds_toArray, List.set_cons_zero, List.set_cons_succ] at hK
    exact hK
  simp only [Act.put, List.setIfInBounds_toArray, List.set_cons_zero, List.set_cons_succ]
  intro W
  clear uc uf
  obtain ⟨hc, hf⟩ := bcell W.2
  refine up_list 29 (by kernel_rfl) rfl ?_
  go_wp2
  refine ⟨ba W.2, fun u => ?_⟩
  have hbu := u.2
  obtain ⟨hc2, hf2⟩ := bcell hbu
  refine up_list 30 (by kernel_rfl) rfl ?_
  go_wp2
  have e1 : w.heap.size < W.1.heap.size := by have := W.2.size; simp at this; omega
  have e2 : w.heap.size + 1 < W.1.heap.size := by have := W.2.size; simp at this; omega
  have e3 : W.1.heap.size < u.1.heap.size := by have := hbu.size; simp at this; omega
  have hw : Below w.heap.size w u.1 := next (next (ba (ba (Below.refl _ _))) W.2) (next (ba (Below.refl _ _)) hbu)
  refine ⟨?_, fun u2 => ?_⟩
  · repeat (refine Below.setCell ?_ (by have := W.2.size; simpa using this) _)
    exact next (ba W.2) hbu
  have hb3 := u2.2
  have x1 : w.heap.size < u.1.heap.size := by omega
  have x2 : w.heap.size + 1 < u.1.heap.size := by omega
  have hbw : Below w.heap.size w u2.1 := by
    refine Below.trans ?_ (hb3.mono (by simp; omega))
    repeat (refine Below.setCell ?_ (by simp <;> omega) _)
    exact hw
  refine up_done (by kernel_rfl) ?_
  obtain ⟨hc3, hf3⟩ := bcell hb3
  have n1 : w.heap.size ≠ W.1.heap.size := by omega
  have n2 : w.heap.size + 1 ≠ W.1.heap.size := by omega
  have far : ∀ b o, b < W.1.heap.size → u2.1.cell? ⟨b, o, none⟩ = W.1.cell? ⟨b, o, none⟩ := by
    intro b o hb
    rw [hc3 _ _ (by simp; omega)]
    repeat rw [cell_far _ _ (by simp; omega)]
    rw [hc2 _ _ (by simp; omega)]
    apply World.cell?_alloc_lt; exact hb
  have near : ∀ j v, (#[.int .i64 (1 + n % 4), .int .i64 (1 + l % 4), .int .i64 (1 + k % 2), .int .i64 (1 + s % 2), .int .i64 (1 + y % 2), .int .i64 (1 + o % 3), .int .i64 (1 + i % 3), .slice none 0 0] : Array Value)[j]? = some v → u2.1.cell? ⟨W.1.heap.size, j, none⟩ = some v := by
    intro j v hv
    rw [hc3 _ _ (by simpa using e3)]
    have hj : j < 8 := by have := (Array.getElem?_eq_some_iff.1 hv).1; simpa using this
    match j, hj, hv with
    | 0, _, hv | 1, _, hv | 2, _, hv | 3, _, hv | 4, _, hv | 5, _, hv | 6, _, hv | 7, _, hv =>
      simp at hv
      subst hv
      go_simp
  have fz : ∀ b o, b < u.1.heap.size → u2.1.frozen? ⟨b, o, none⟩ = u.1.frozen? ⟨b, o, none⟩ := by
    intro b o hb
    rw [hf3 _ _ (by simpa using hb)]
    simp
  have hn : ((nd n 4 : Nat) : Int) = 1 + n % 4 := nd_cast n 4 (by decide)
  have c0 : u2.1.cell? ⟨W.1.heap.size, 0, none⟩ = some (.int .i64 ((nd n 4 : Nat) : Int)) := by rw [hn]; exact near 0 _ rfl
  have hl : ((nd l 4 : Nat) : Int) = 1 + l % 4 := nd_cast l 4 (by decide)
  have c1 : u2.1.cell? ⟨W.1.heap.size, 1, none⟩ = some (.int .i64 ((nd l 4 : Nat) : Int)) := by rw [hl]; exact near 1 _ rfl
  have hk : ((nd k 2 : Nat) : Int) = 1 + k % 2 := nd_cast k 2 (by decide)
  have c2 : u2.1.cell? ⟨W.1.heap.size, 2, none⟩ = some (.int .i64 ((nd k 2 : Nat) : Int)) := by rw [hk]; exact near 2 _ rfl
  have hs : ((nd s 2 : Nat) : Int) = 1 + s % 2 := nd_cast s 2 (by decide)
  have c3 : u2.1.cell? ⟨W.1.heap.size, 3, none⟩ = some (.int .i64 ((nd s 2 : Nat) : Int)) := by rw [hs]; exact near 3 _ rfl
  have hy : ((nd y 2 : Nat) : Int) = 1 + y % 2 := nd_cast y 2 (by decide)
  have c4 : u2.1.cell? ⟨W.1.heap.size, 4, none⟩ = some (.int .i64 ((nd y 2 : Nat) : Int)) := by rw [hy]; exact near 4 _ rfl
  have ho : ((nd o 3 : Nat) : Int) = 1 + o % 3 := nd_cast o 3 (by decide)
  have c5 : u2.1.cell? ⟨W.1.heap.size, 5, none⟩ = some (.int .i64 ((nd o 3 : Nat) : Int)) := by rw [ho]; exact near 5 _ rfl
  have hi : ((nd i 3 : Nat) : Int) = 1 + i % 3 := nd_cast i 3 (by decide)
  have c6 : u2.1.cell? ⟨W.1.heap.size, 6, none⟩ = some (.int .i64 ((nd i 3 : Nat) : Int)) := by rw [hi]; exact near 6 _ rfl
  have c7 : u2.1.cell? ⟨W.1.heap.size, 7, none⟩ = some (.slice none 0 0) := near 7 _ rfl
  have cf : ∀ j, u2.1.frozen? ⟨W.1.heap.size, j, none⟩ = false := by
    intro j
    rw [fz _ _ e3, hf2 _ _ (by simp)]
    go_simp
  have s7 : u2.1.cell? ⟨w.heap.size, 7, none⟩ = some (.slice a len cap) := by
    rw [far _ _ e1, hc _ _ (by simp; omega)]
    go_simp
  have r0 : u2.1.cell? ⟨w.heap.size + 1, 0, none⟩ = some (.int .i64 0) := by
    rw [far _ _ e2, hc _ _ (by simp)]
    go_simp
  have r1 : u2.1.cell? ⟨w.heap.size + 1, 1, none⟩ = some (.int .i64 0) := by
    rw [far _ _ e2, hc _ _ (by simp)]
    go_simp
  have r2 : u2.1.cell? ⟨w.heap.size + 1, 2, none⟩ = some (.int .i64 0) := by
    rw [far _ _ e2, hc _ _ (by simp)]
    go_simp
  have r3 : u2.1.cell? ⟨w.heap.size + 1, 3, none⟩ = some (.int .i64 0) := by
    rw [far _ _ e2, hc _ _ (by simp)]
    go_simp
  have r4 : u2.1.cell? ⟨w.heap.size + 1, 4, none⟩ = some (.int .i64 0) := by
    rw [far _ _ e2, hc _ _ (by simp)]
    go_simp
  have r5 : u2.1.cell? ⟨w.heap.size + 1, 5, none⟩ = some (.int .i64 0) := by
    rw [far _ _ e2, hc _ _ (by simp)]
    go_simp
  have r6 : u2.1.cell? ⟨w.heap.size + 1, 6, none⟩ = some (.int .i64 0) := by
    rw [far _ _ e2, hc _ _ (by simp)]
    go_simp
  have r7 : u2.1.cell? ⟨w.heap.size + 1, 7, none⟩ = some (.slice none 0 0) := by
    rw [far _ _ e2, hc _ _ (by simp)]
    go_simp
  have rf : ∀ j, u2.1.frozen? ⟨w.heap.size + 1, j, none⟩ = false := by
    intro j
    rw [fz _ _ x2, hf2 _ _ (by simp; omega)]
    go_simp
  have z3 : W.1.heap.size < u2.1.heap.size := by have := hb3.size; simp at this; omega
  have l2 := nd_lo l 4
  have l3 := nd_hi l 4 (by decide)
  have k2 := nd_lo k 2
  have k3 := nd_hi k 2 (by decide)
  have z4 : w.heap.size < u2.1.heap.size := by omega
  have z5 : w.heap.size + 1 < u2.1.heap.size := by omega
  clear near far fz hc3 hf3 hc2 hf2 hc hf hb3 x1 x2 e3 hbu hn hl hk hs hy ho hi hw
  generalize W.1.heap.size = g at *
  generalize u2.1 = w3 at *
  clear u2 u W
  generalize GN : nd n 4 = N at *
  have HN : Hid (nd n 4 = N) := GN
  clear GN
  generalize GL : nd l 4 = L at *
  have HL : Hid (nd l 4 = L) := GL
  clear GL
  generalize GK : nd k 2 = K at *
  have HK : Hid (nd k 2 = K) := GK
  clear GK
  generalize GS : nd s 2 = S at *
  have HS : Hid (nd s 2 = S) := GS
  clear GS
  generalize GY : nd y 2 = Y at *
  have HY : Hid (nd y 2 = Y) := GY
  clear GY
  generalize GO : nd o 3 = O at *
  have HO : Hid (nd o 3 = O) := GO
  clear GO
  generalize GI : nd i 3 = I at *
  have HI : Hid (nd i 3 = I) := GI
  clear GI
  have p1 : (0 : Int) ≤ (L : Int) * (K : Int) := Int.mul_nonneg (by omega) (by omega)
  have p2 : (L : Int) * (K : Int) ≤ 8 := by have := Int.mul_le_mul (show (L : Int) ≤ 4 by omega) (show (K : Int) ≤ 2 by omega) (by omega) (by omega); simpa using this
  have p3 : L * K ≤ 8 := by have := Nat.mul_le_mul (show L ≤ 4 by omega) (show K ≤ 2 by omega); simpa using this
  go_wp2_with (go_at_call 21; refine (cut_x a z len cap (L * K) _ _ (hsl.below hbw) (by omega) (Int.natCast_mul L K).symm).mono ?_; rintro e w4 ⟨v, rfl, hown, hb4⟩; obtain ⟨hc4, hf4⟩ := bcell hb4; obtain ⟨av, cv, ev, hslv⟩ := hown.sl; subst ev)
  rw [List.length_take] at hown
  have q1 : g < w4.heap.size := by have := hb4.size; omega
  have q2 : w.heap.size + 1 < w4.heap.size := by have := hb4.size; omega
  refine bodyPost_ret (v := .agg #[.int .i64 N, .int .i64 L, .int .i64 K, .int .i64 S, .int .i64 Y, .int .i64 O, .int .i64 I, .slice av (min (L * K) z.length) cv]) (by simp [results, Try.results7, go_sem, *]) rfl ⟨_, by rw [HN.out, HL.out, HK.out, HS.out, HY.out, HO.out, HI.out], ?_, ?_⟩
  · refine Own.low ?_ (show w.heap.size ≤ w3.heap.size by omega)
    repeat (refine Own.set ?_ (by simp <;> omega) _)
    rw [HL.out, HK.out]
    exact hown
  · repeat (refine Below.setCell ?_ (by simp <;> omega) _)
    exact next hbw hb4
end Go.Proofs.Ytgeiagndpfdnlaa
end
section
namespace Go.Proofs.Ytgeiagndpfdnlaa
open Go.ChangeShapes Go.WideShapes Go.ChangeAt Go.RowKit Go.Joins
set_option linter.unusedVariables false
set_option maxRecDepth 20000

/-- A setup that came in. -/
def IsSetup (w : World) (v : Value) : Prop :=
  ∃ (n l k s y o i : Int) (a0 : Option Addr) (n0 c0 : Nat) (z0 : List Int) (a1 : Option Addr) (n1 c1 : Nat) (z1 : List Int) (a2 : Option Addr) (n2 c2 : Nat) (z2 : List Int) (a3 : Option Addr) (n3 c3 : Nat) (z3 : List Int) (a4 : Option Addr) (n4 c4 : Nat) (z4 : List Int),
    v = setup n l k s y o i (.slice a0 n0 c0) (.slice a1 n1 c1) (.slice a2 n2 c2) (.slice a3 n3 c3) (.slice a4 n4 c4) ∧ Sl w a0 n0 c0 z0 ∧ Sl w a1 n1 c1 z1 ∧ Sl w a2 n2 c2 z2 ∧ Sl w a3 n3 c3 z3 ∧ Sl w a4 n4 c4 z4

theorem array12 {α : Type} {cs : Array α} (h : cs.size = 12) : ∃ c0 c1 c2 c3 c4 c5 c6 c7 c8 c9 c10 c11, cs = #[c0, c1, c2, c3, c4, c5, c6, c7, c8, c9, c10, c11] := by
  obtain ⟨l⟩ := cs
  match l, h with
  | [c0, c1, c2, c3, c4, c5, c6, c7, c8, c9, c10, c11], _ => exact ⟨c0, c1, c2, c3, c4, c5, c6, c7, c8, c9, c10, c11, rfl⟩
theorem setup_of {H : Type} {enc : TypeId × Value → H} {w : World} {base b0 : Nat} {held : Bool} {r : Reach} {v : Value} {d : DataW H} {p : List MemPlace}
    (hv : Value.okWide Try.prog w r b0 24 v) (h : DataW.Trod enc Try.prog w base (fun _ => true) held 24 v d p) : IsSetup w v := by
  obtain ⟨cs, rfl, hsz, hf⟩ := agg_cells Try.underlying24 (by kernel_rfl) (by kernel_rfl) hv h
  obtain ⟨c0, c1, c2, c3, c4, c5, c6, c7, c8, c9, c10, c11, rfl⟩ := array12 hsz
  obtain ⟨_, _, _, e0, t0⟩ := hf 0 _ rfl
  obtain ⟨_, _, _, e1, t1⟩ := hf 1 _ rfl
  obtain ⟨_, _, _, e2, t2⟩ := hf 2 _ rfl
  obtain ⟨_, _, _, e3, t3⟩ := hf 3 _ rfl
  obtain ⟨_, _, _, e4, t4⟩ := hf 4 _ rfl
  obtain ⟨_, _, _, e5, t5⟩ := hf 5 _ rfl
  obtain ⟨_, _, _, e6, t6⟩ := hf 6 _ rfl
  obtain ⟨_, _, _, e7, t7⟩ := hf 7 _ rfl
  obtain ⟨_, _, _, e8, t8⟩ := hf 8 _ rfl
  obtain ⟨_, _, _, e9, t9⟩ := hf 9 _ rfl
  obtain ⟨_, _, _, e10, t10⟩ := hf 10 _ rfl
  obtain ⟨_, _, _, e11, t11⟩ := hf 11 _ rfl
  simp at e0 e1 e2 e3 e4 e5 e6 e7 e8 e9 e10 e11
  subst e0 e1 e2 e3 e4 e5 e6 e7 e8 e9 e10 e11
  obtain ⟨x0, rfl⟩ := int_cell t0
  obtain ⟨x1, rfl⟩ := int_cell t1
  obtain ⟨x2, rfl⟩ := int_cell t2
  obtain ⟨x3, rfl⟩ := int_cell t3
  obtain ⟨x4, rfl⟩ := int_cell t4
  obtain ⟨x5, rfl⟩ := int_cell t5
  obtain ⟨x6, rfl⟩ := int_cell t6
  obtain ⟨a7, l7, p7, z7, rfl, s7, _⟩ := ints_cell t7
  obtain ⟨a8, l8, p8, z8, rfl, s8, _⟩ := ints_cell t8
  obtain ⟨a9, l9, p9, z9, rfl, s9, _⟩ := ints_cell t9
  obtain ⟨a10, l10, p10, z10, rfl, s10, _⟩ := ints_cell t10
  obtain ⟨a11, l11, p11, z11, rfl, s11, _⟩ := ints_cell t11
  exact ⟨x0, x1, x2, x3, x4, x5, x6, a7, l7, p7, z7, a8, l8, p8, z8, a9, l9, p9, z9, a10, l10, p10, z10, a11, l11, p11, z11, rfl, s7, s8, s9, s10, s11⟩
end Go.Proofs.Ytgeiagndpfdnlaa
end
section
namespace Go.Proofs.Ytgeiagndpfdnlaa
open Go.RowKit
set_option linter.unusedVariables false

theorem same_any (a b : Option Addr) (l m : List Int) (n1 n2 c1 c2 : Nat) (w : World) (h1 : Sl w a n1 c1 l) (h2 : Sl w b n2 c2 m) :
    Calls Try.prog 24 #[.slice a n1 c1, .slice b n2 c2] w fun e w' => e = .returned (.bool (decide (l = m))) ∧ ∃ k, w' = w.drewN k := by
  obtain ⟨hn1, hle1, hmx1, _, hr1⟩ := h1
  obtain ⟨hn2, hle2, hmx2, _, hr2⟩ := h2
  unfold maxLen at hmx1 hmx2
  subst hn1; subst hn2
  by_cases hne : l.length = m.length
  · rcases hr1 with rfl | ⟨b1, o1, rfl, hc1⟩
    · obtain rfl : m = [] := List.eq_nil_of_length_eq_zero hne.symm
      clear hr2 hne
      go_enter Try.func24, Try.ntmps24
      go_wp2
      refine wp_loop_rounds 1 ?_
      rw [rounds_succ]
      go_wp2
      go_ret
      exact ⟨rfl, 0, rfl⟩
    rcases hr2 with rfl | ⟨b2, o2, rfl, hc2⟩
    · obtain rfl : l = [] := List.eq_nil_of_length_eq_zero hne
      clear hc1 hne
      go_enter Try.func24, Try.ntmps24
      go_wp2
      refine wp_loop_rounds 1 ?_
      rw [rounds_succ]
      go_wp2
      go_ret
      exact ⟨rfl, 0, rfl⟩
    · have HN : Hid (l.length = m.length) := hne
      have hne' : ((l.length : Int) != (m.length : Int)) = false := by simp [hne]
      clear hne
      go_enter Try.func24, Try.ntmps24
      go_wp2
      go_loopw [5] (fun i wr => ∃ k : Nat, k ≤ l.length ∧ i = .int .i64 k ∧ l.take k = m.take k ∧ ∃ j, wr = w.drewN j) (fun i _ => l.length - (intOf i).toNat)
      case atStart => exact ⟨0, by omega, rfl, rfl, 0, rfl⟩
      case round =>
        obtain ⟨k, hk, rfl, heq, j, rfl⟩ := hrel
        have HE : Hid (l.take k = m.take k) := heq
        clear heq
        by_cases hlt : k < l.length
        · have x1 := hc1 k hlt
          have x2 := hc2 k (by have := HN.out; omega)
          have hlt2 : k < m.length := by have := HN.out; omega
          clear hc1 hc2
          obtain ⟨x, hx1⟩ : ∃ x, x = l[k]?.getD 0 := ⟨_, rfl⟩
          obtain ⟨y, hy1⟩ : ∃ y, y = m[k]?.getD 0 := ⟨_, rfl⟩
          rw [← hx1] at x1
          rw [← hy1] at x2
          have HX : Hid (x = l[k]?.getD 0) := hx1
          have HY : Hid (y = m[k]?.getD 0) := hy1
          clear hx1 hy1
          by_cases hx : x = y
          · have HXY : Hid (x = y) := hx
            have hx' : (x != y) = false := by simp [hx]
            clear hx
            go_wp2_with fail
            go_quiet (fail)
            go_wp2
            go_roundw
            case rel => exact ⟨k + 1, by omega, by go_num, take_same HE.out (by rw [← HX.out, ← HY.out, HXY.out]) hlt hlt2, _, rfl⟩
            case measure => simp [intOf]; omega
          · have HXY : Hid (¬ x = y) := hx
            have hx' : (x != y) = true := by simpa using hx
            clear hx
            go_wp2_with fail
            go_quiet (fail)
            go_wp2
            go_ret
            exact ⟨ret_bool (decide_eq_false (fun h => HXY.out (by rw [HX.out, HY.out, h]))).symm, _, by first | rfl | exact World.drewN_drewN ..⟩
        · go_wp2
          go_ret
          refine ⟨ret_bool (decide_eq_true ?_).symm, _, rfl⟩
          have := HE.out
          rw [List.take_of_length_le (by omega), List.take_of_length_le (by have := HN.out; omega)] at this
          exact this
  · have hne' : ((l.length : Int) != (m.length : Int)) = true := by simp; omega
    go_enter Try.func24, Try.ntmps24
    go_wp2
    go_ret
    exact ⟨ret_bool (decide_eq_false (fun h => hne (by rw [h]))).symm, 0, rfl⟩
end Go.Proofs.Ytgeiagndpfdnlaa
end
section
namespace Go.Proofs.Ytgeiagndpfdnlaa
open Go.RowKit
set_option linter.unusedVariables false

/-- But for the blocks of F, what was there is as it was. -/
structure Keep (F : Nat → Prop) (w w' : World) : Prop where
  os : w'.os = w.os
  tape : w'.tape = w.tape
  output : w'.output = w.output
  size : w.heap.size ≤ w'.heap.size
  block : ∀ k, k < w.heap.size → ¬ F k → w'.heap[k]? = w.heap[k]?
theorem Keep.refl (F : Nat → Prop) (w : World) : Keep F w w := ⟨rfl, rfl, rfl, Nat.le_refl _, fun _ _ _ => rfl⟩
theorem Keep.of_below {F : Nat → Prop} {w w' : World} (h : Below w.heap.size w w') : Keep F w w' := ⟨h.os, h.tape, h.output, h.size, fun k hk _ => h.block k hk⟩
theorem Keep.trans {F G : Nat → Prop} {w w1 w2 : World} (h : Keep F w w1) (h2 : Keep G w1 w2) (hG : ∀ k, k < w.heap.size → G k → F k) : Keep F w w2 :=
  ⟨h2.os.trans h.os, h2.tape.trans h.tape, h2.output.trans h.output, Nat.le_trans h.size h2.size, fun k hk hF => (h2.block k (Nat.lt_of_lt_of_le hk h.size) (fun g => hF (hG k hk g))).trans (h.block k hk hF)⟩
theorem Keep.next {F : Nat → Prop} {w w1 w2 : World} (h : Keep F w w1) (h2 : Below w1.heap.size w1 w2) : Keep F w w2 := h.trans (Keep.of_below (F := fun _ => False) h2) (fun _ _ h => h.elim)
theorem Keep.mono {F G : Nat → Prop} {w w' : World} (h : Keep F w w') (hF : ∀ k, k < w.heap.size → F k → G k) : Keep G w w' := ⟨h.os, h.tape, h.output, h.size, fun k hk hG => h.block k hk (fun f => hG (hF k hk f))⟩
theorem Keep.pre {F : Nat → Prop} {w w1 w2 : World} (h : Below w.heap.size w w1) (h2 : Keep F w1 w2) : Keep F w w2 := (Keep.of_below h).trans h2 (fun _ _ h => h)
theorem Keep.setCell {F : Nat → Prop} {w w1 : World} (h : Keep F w w1) {p : Addr} (hp : F p.block ∨ w.heap.size ≤ p.block) (u : Value) : Keep F w (w1.setCell p u) :=
  ⟨h.os, h.tape, h.output, by simpa [World.setCell] using h.size, fun k hk hF => (Below.heap_setCell _ _ _ _ (by rintro rfl; rcases hp with hp | hp; exact hF hp; omega)).trans (h.block k hk hF)⟩
theorem Keep.setCells {F : Nat → Prop} {w : World} {b : Nat} (hp : F b ∨ w.heap.size ≤ b) : ∀ (vs : List Value) (o : Nat) (w1 : World), Keep F w w1 → Keep F w (w1.setCells b o vs)
  | [], _, _, h => h
  | v :: r, o, w1, h => Keep.setCells hp r (o + 1) _ (h.setCell (p := ⟨b, o, none⟩) hp v)
theorem Keep.below {F : Nat → Prop} {w w' : World} {base : Nat} (h : Keep F w w') (hF : ∀ k, F k → base ≤ k) (hb : base ≤ w.heap.size) : Below base w w' :=
  ⟨h.os, h.tape, h.output, h.size, fun k hk => h.block k (Nat.lt_of_lt_of_le hk hb) (fun f => by have := hF k f; omega)⟩
theorem Keep.cell {F : Nat → Prop} {w w' : World} (h : Keep F w w') {b : Nat} (o : Nat) (hb : b < w.heap.size) (hF : ¬ F b) : w'.cell? ⟨b, o, none⟩ = w.cell? ⟨b, o, none⟩ := World.cell?_of_block (w := w) (h.block b hb hF)
theorem Keep.frozen {F : Nat → Prop} {w w' : World} (h : Keep F w w') {b : Nat} (o : Nat) (hb : b < w.heap.size) (hF : ¬ F b) : w'.frozen? ⟨b, o, none⟩ = w.frozen? ⟨b, o, none⟩ := World.frozen?_of_block (w := w) (h.block b hb hF)
theorem Keep.after {F : Nat → Prop} {w V V' : World} (hk : Keep F V V') (h : Below w.heap.size w V) (hF : ∀ k, F k → w.heap.size ≤ k) : Below w.heap.size w V' := h.trans (hk.below hF h.size)
theorem Keep.afterN {F : Nat → Prop} {w V V' : World} {g : Nat} (hk : Keep F V V') (h : Below g w V) (hg : g ≤ V.heap.size) (hF : ∀ k, F k → g ≤ k) : Below g w V' := h.trans (hk.below hF hg)
theorem Keep.one (w : World) (b o : Nat) (v : Value) : Keep (fun k => k = b) w (w.setCell ⟨b, o, none⟩ v) := (Keep.refl (fun k => k = b) w).setCell (p := ⟨b, o, none⟩) (.inl rfl) v
theorem Keep.grown {w w' : World} {row : Option Nat} (hg : w.grownBy w' row) : Keep (fun k => some k = row) w w' := ⟨hg.os, hg.tape, hg.output, hg.size, fun k hk h => hg.block k hk h⟩
theorem Sl.keep {F : Nat → Prop} {w w' : World} {a : Option Addr} {n cap : Nat} {l : List Int} (h : Sl w a n cap l) (hk : Keep F w w') (hF : l ≠ [] → ∀ x : Addr, a = some x → ¬ F x.block) : Sl w' a n cap l := by
  refine ⟨h.len, h.le, h.max, h.nil, ?_⟩
  rcases h.row with h0 | ⟨b, o, rfl, hc⟩
  · exact .inl h0
  · by_cases hl : l = []
    · exact .inl hl
    · refine .inr ⟨b, o, rfl, fun i hi => ?_⟩
      have hi' := hc i hi
      rw [hk.cell _ (World.block_lt_of_cell? w _ hi') (hF hl ⟨b, o, none⟩ rfl)]; exact hi'

/-- A slice of n elements of es cells each whose cells can be read: they are vs. -/
structure SlV (w : World) (a : Option Addr) (n cap es : Nat) (vs : List Value) : Prop where
  len : vs.length = n * es
  le : n ≤ cap
  max : cap ≤ maxLen
  nil : a = none → cap = 0
  row : vs = [] ∨ ∃ b o, a = some ⟨b, o, none⟩ ∧ ∀ i u, vs[i]? = some u → w.cell? ⟨b, o + i, none⟩ = some u
theorem SlV.below {w w' : World} {a : Option Addr} {n cap es : Nat} {vs : List Value} (h : SlV w a n cap es vs) (hb : Below w.heap.size w w') : SlV w' a n cap es vs := by
  refine ⟨h.len, h.le, h.max, h.nil, h.row.imp id ?_⟩
  rintro ⟨b, o, rfl, hc⟩
  refine ⟨b, o, rfl, fun i u hu => ?_⟩
  have hi := hc i u hu
  rw [hb.cell (p := ⟨b, o + i, none⟩) (World.block_lt_of_cell? w _ hi)]
  exact hi
theorem SlV.same {w w' : World} {a : Option Addr} {n cap es : Nat} {vs : List Value} (h : SlV w a n cap es vs) (hh : w'.heap = w.heap) : SlV w' a n cap es vs := by
  refine ⟨h.len, h.le, h.max, h.nil, h.row.imp id ?_⟩
  rintro ⟨b, o, rfl, hc⟩
  exact ⟨b, o, rfl, fun i u hu => by rw [← hc i u hu]; simp [World.cell?, hh]⟩
theorem slv_nil (w : World) (es : Nat) : SlV w none 0 0 es [] := ⟨by simp, Nat.le_refl _, Nat.zero_le _, fun _ => rfl, .inl rfl⟩
theorem slv_own {w : World} {base e es n : Nat} {v : Value} {xs : List Value} (h : w.ownsRow base e es v n xs) : ∃ a cap, v = .slice a n cap ∧ SlV w a n cap es xs := by
  obtain ⟨h1, h2⟩ := h
  rcases h2 with ⟨rfl, rfl⟩ | ⟨g, cap, cur, rfl, hb, hg, hle, hm, hsz, ht⟩
  · obtain rfl : xs = [] := List.eq_nil_of_length_eq_zero (by simpa using h1)
    exact ⟨none, 0, rfl, slv_nil w es⟩
  · refine ⟨some ⟨g, 0, none⟩, cap, rfl, h1, hle, hm, fun h => (by cases h), .inr ⟨g, 0, rfl, fun i u hu => ?_⟩⟩
    rw [Nat.zero_add, cell_of_row w g i cur e (0, 0) hg]
    rw [← ht, List.getElem?_take] at hu
    split at hu
    · simpa using hu
    · cases hu

/-- A slice of n elements of es cells each, in a block of S, that may be written up to its capacity: its cells are vs. -/
structure Rw (w : World) (S : Nat → Prop) (a : Option Addr) (n cap es : Nat) (vs : List Value) : Prop where
  len : vs.length = n * es
  le : n ≤ cap
  max : cap ≤ maxLen
  nil : a = none → cap = 0
  row : cap = 0 ∨ ∃ b o, a = some ⟨b, o, none⟩ ∧ S b ∧ b < w.heap.size ∧ (∀ i u, vs[i]? = some u → w.cell? ⟨b, o + i, none⟩ = some u) ∧ (∀ i, i < cap * es → (w.cell? ⟨b, o + i, none⟩).isSome = true ∧ w.frozen? ⟨b, o + i, none⟩ = false)
theorem rw_nil (w : World) (S : Nat → Prop) (es : Nat) : Rw w S none 0 0 es [] := ⟨by simp, Nat.le_refl _, Nat.zero_le _, fun _ => rfl, .inl rfl⟩
theorem Rw.imp {w : World} {S T : Nat → Prop} {a : Option Addr} {n cap es : Nat} {vs : List Value} (h : Rw w S a n cap es vs) (hS : ∀ k, k < w.heap.size → S k → T k) : Rw w T a n cap es vs :=
  ⟨h.len, h.le, h.max, h.nil, h.row.imp id fun ⟨b, o, e, hs, hb, r⟩ => ⟨b, o, e, hS b hb hs, hb, r⟩⟩
theorem Rw.keep {w w' : World} {S F : Nat → Prop} {a : Option Addr} {n cap es : Nat} {vs : List Value} (h : Rw w S a n cap es vs) (hk : Keep F w w') (hF : ∀ k, S k → ¬ F k) : Rw w' S a n cap es vs :=
  ⟨h.len, h.le, h.max, h.nil, h.row.imp id fun ⟨b, o, e, hs, hb, r, f⟩ => ⟨b, o, e, hs, Nat.lt_of_lt_of_le hb hk.size, fun i u hu => by rw [hk.cell _ hb (hF b hs)]; exact r i u hu, fun i hi => by rw [hk.cell _ hb (hF b hs), hk.frozen _ hb (hF b hs)]; exact f i hi⟩⟩
theorem Rw.below {w w' : World} {S : Nat → Prop} {a : Option Addr} {n cap es : Nat} {vs : List Value} (h : Rw w S a n cap es vs) (hb : Below w.heap.size w w') : Rw w' S a n cap es vs :=
  h.keep (F := fun _ => False) (Keep.of_below hb) (fun _ _ h => h)
theorem Rw.slv {w : World} {S : Nat → Prop} {a : Option Addr} {n cap es : Nat} {vs : List Value} (h : Rw w S a n cap es vs) : SlV w a n cap es vs := by
  refine ⟨h.len, h.le, h.max, h.nil, ?_⟩
  rcases h.row with h0 | ⟨b, o, e, _, _, r, _⟩
  · left
    have h1 := h.len
    have h2 := h.le
    have : n = 0 := by omega
    subst this
    exact List.eq_nil_of_length_eq_zero (by simpa using h1)
  · exact .inr ⟨b, o, e, r⟩
theorem rw_own {w : World} {base e es n : Nat} {v : Value} {xs : List Value} (h : w.ownsRow base e es v n xs) : ∃ a cap, v = .slice a n cap ∧ Rw w (fun k => base ≤ k) a n cap es xs := by
  obtain ⟨h1, h2⟩ := h
  rcases h2 with ⟨rfl, rfl⟩ | ⟨g, cap, cur, rfl, hb, hg, hle, hm, hsz, ht⟩
  · obtain rfl : xs = [] := List.eq_nil_of_length_eq_zero (by simpa using h1)
    exact ⟨none, 0, rfl, rw_nil w _ es⟩
  · refine ⟨some ⟨g, 0, none⟩, cap, rfl, h1, hle, hm, fun h => (by cases h), .inr ⟨g, 0, rfl, hb, (Array.getElem?_eq_some_iff.1 hg).1, fun i u hu => ?_, fun i hi => ?_⟩⟩
    · rw [Nat.zero_add, cell_of_row w g i cur e (0, 0) hg]
      rw [← ht, List.getElem?_take] at hu
      split at hu
      · simpa using hu
      · cases hu
    · rw [Nat.zero_add, cell_of_row w g i cur e (0, 0) hg]
      refine ⟨?_, by simp [World.frozen?, hg]⟩
      rw [Array.getElem?_eq_getElem (by omega)]
      rfl
theorem rwN_some {w : World} {X : Nat → Prop} {a : Option Addr} {n cap es : Nat} {l : List Value} (h : Rw w X a n cap es l) (hn : 0 < n) : ∃ b o, a = some ⟨b, o, none⟩ ∧ X b ∧ b < w.heap.size ∧ Rw w (fun j => j = b) (some ⟨b, o, none⟩) n cap es l := by
  have hle := h.le
  rcases h.row with h0 | ⟨b, o, rfl, hx, hb, hc, hf⟩
  · omega
  · exact ⟨b, o, rfl, hx, hb, h.len, h.le, h.max, h.nil, .inr ⟨b, o, rfl, rfl, hb, hc, hf⟩⟩
/-- One element, or more, onto such a row: in place, or in a new block. -/
theorem run_append_rw {P : Program} (w : World) (S : Nat → Prop) (t ty e : TypeId) (i : TypeInfo) (z : Value) (size bytes : Nat) (ht : P.underlying t = some (.slice e)) (hi : P.info? e = some i) (hz : i.zero = some z)
    (hsize : i.size = size) (hby : i.bytes = bytes) (hzs : z.cells.size = size) (hsz : 0 < size)
    (a : Option Addr) (n cap : Nat) (vs : List Value) (hr : Rw w S a n cap size vs)
    (ad : Addr) (m c : Nat) (news : List Value) (hm : 0 < m) (hl : news.length = m * size) (hnews : ∀ j u, news[j]? = some u → w.cell? (ad.add j) = some u) (h1 : ∀ u ∈ news, u.oneCell' = true)
    (h63 : n + m ≤ maxLen) (hbytes : (n + m) * bytes ≤ 140737488355328) :
    ∃ a' cap' w', (Builtin.append_ #[t, t] ty #[.slice a n cap, .slice (some ad) m c]).run P w = .ok (.slice a' (n + m) cap') w' ∧
      Rw w' (fun k => S k ∨ w.heap.size ≤ k) a' (n + m) cap' size (vs ++ news) ∧ Keep S w w' := by
  have hlen : (vs ++ news).length = (n + m) * size := by rw [List.length_append, hr.len, hl, Nat.add_mul]
  by_cases hroom : n + m ≤ cap
  · rcases hr.row with h0 | ⟨b, o, rfl, hs, hb, hc, hf⟩
    · omega
    · subst hsize
      have hin : ∀ j, j < news.length → n * i.size + j < cap * i.size := fun j hj => by
        have : (n + m) * i.size ≤ cap * i.size := Nat.mul_le_mul_right _ hroom
        rw [Nat.add_mul] at this
        omega
      have hrun := run_append_room_cells (P := P) w t ty e i ht hi b o n cap ad m c news hl hnews h1 hroom
        (fun j hj => by rw [Nat.add_assoc]; exact (hf _ (hin j hj)).1) (fun j hj => by rw [Nat.add_assoc]; exact (hf _ (hin j hj)).2)
      have hsome : ∀ j, j < news.length → (w.cell? ⟨b, o + n * i.size + j, none⟩).isSome = true := fun j hj => by rw [Nat.add_assoc]; exact (hf _ (hin j hj)).1
      refine ⟨_, _, _, hrun, ⟨hlen, hroom, hr.max, fun h => (by cases h), .inr ⟨b, o, rfl, .inl hs, ?_, fun j u hu => ?_, fun j hj => ?_⟩⟩, Keep.setCells (.inl hs) _ _ _ (Keep.refl _ _)⟩
      · exact Nat.lt_of_lt_of_le hb (Keep.setCells (F := S) (.inl hs) news _ _ (Keep.refl S w)).size
      · by_cases hj : j < vs.length
        · rw [List.getElem?_append_left hj] at hu
          rw [World.cell?_setCells_out b news _ w ⟨b, o + j, none⟩ (fun _ _ => .inl (by have := hr.len; simp only; omega))]
          exact hc j u hu
        · rw [List.getElem?_append_right (by omega)] at hu
          have hj2 : j - vs.length < news.length := (List.getElem?_eq_some_iff.1 hu).1
          have := World.cell?_setCells_in b news (o + n * i.size) w hsome (j - vs.length) hj2
          rw [show o + j = o + n * i.size + (j - vs.length) by have := hr.len; omega, this, ← List.getElem?_eq_getElem hj2]
          exact hu
      · rw [World.frozen?_setCells]
        refine ⟨?_, (hf j hj).2⟩
        by_cases hj1 : n * i.size ≤ j ∧ j < n * i.size + news.length
        · have := World.cell?_setCells_in b news (o + n * i.size) w hsome (j - n * i.size) (by omega)
          rw [show o + j = o + n * i.size + (j - n * i.size) by omega, this]
          rfl
        · rw [World.cell?_setCells_out b news _ w ⟨b, o + j, none⟩ (fun _ _ => by simp only; omega)]
          exact (hf j hj).1
  · have done : ∀ v' w', w'.ownsRow w.heap.size e size v' (n + m) (vs ++ news) → w.grownBy w' none →
        ∃ a' cap', v' = .slice a' (n + m) cap' ∧ Rw w' (fun k => S k ∨ w.heap.size ≤ k) a' (n + m) cap' size (vs ++ news) ∧ Keep S w w' := by
      intro v' w' r1 r2
      obtain ⟨a', cap', e', hrw⟩ := rw_own r1
      exact ⟨a', cap', e', hrw.imp (fun k _ h => .inr h), Keep.of_below (below_new r2)⟩
    cases a with
    | some x =>
      have hc : ∀ j u, vs[j]? = some u → w.cell? (x.add j) = some u := fun j u hu => by
        rcases hr.row with h0 | ⟨b, o, e, _, _, hc, _⟩
        · have h2 := hr.le
          have h3 := hr.len
          have : n = 0 := by omega
          subst this
          have : vs = [] := List.eq_nil_of_length_eq_zero (by simpa using h3)
          subst this
          simp at hu
        · obtain rfl := Option.some.inj e
          rw [Addr.add_lit]; exact hc j u hu
      obtain ⟨v', w', hrun, r1, r2⟩ := run_append_arg_grows (P := P) w t ty e i z size bytes ht hi hz hsize hby hzs hsz x n cap vs hr.len hc ad m c news hl hnews (by omega) h63 hbytes
      obtain ⟨a', cap', rfl, h2, h3⟩ := done v' w' r1 r2
      exact ⟨a', cap', w', hrun, h2, h3⟩
    | none =>
      obtain rfl : cap = 0 := hr.nil rfl
      obtain rfl : n = 0 := by have := hr.le; omega
      obtain rfl : vs = [] := List.eq_nil_of_length_eq_zero (by simpa using hr.len)
      obtain ⟨v', w', hrun, r1, r2, _⟩ := run_append_own (P := P) w w.heap.size t ty e i z size bytes ht hi hz hsize hby hzs hsz (.slice none 0 0) 0 [] (World.ownsRow_nil w _ e size) ad m c news hl hnews h1 h63 hbytes (Nat.le_refl _)
      obtain ⟨a', cap', rfl, h2, h3⟩ := done v' w' r1 r2
      exact ⟨a', cap', w', hrun, h2, h3⟩
theorem wpList_append_rw {P : Program} (w : World) {ops : Array Oper} {rest : List Oper} {o : Oper} {act : Act} {Q : Exit → Act → World → Prop} (S : Nat → Prop)
    (hw : Region.wanted o (yielded ops act.tmps) = true) (s x : Operand) (t : TypeId) (hop : o.op = Op.call { callee := Callee.builtin Builtin.append, args := #[s, x], argTypes := #[t, t] })
    (e : TypeId) (i : TypeInfo) (z : Value) (size bytes : Nat) (ht : P.underlying t = some (.slice e)) (hi : P.info? e = some i) (hz : i.zero = some z)
    (hsize : i.size = size) (hby : i.bytes = bytes) (hzs : z.cells.size = size) (hsz : 0 < size)
    (a : Option Addr) (n cap : Nat) (vs : List Value) (hs : act.eval s = .slice a n cap) (hr : Rw w S a n cap size vs)
    (ad : Addr) (m c : Nat) (news : List Value) (hx : act.eval x = .slice (some ad) m c) (hm : 0 < m) (hl : news.length = m * size) (hnews : ∀ j u, news[j]? = some u → w.cell? (ad.add j) = some u) (h1 : ∀ u ∈ news, u.oneCell' = true)
    (h63 : n + m ≤ maxLen) (hbytes : (n + m) * bytes ≤ 140737488355328)
    (hK : ∀ a' cap' w', Rw w' (fun k => S k ∨ w.heap.size ≤ k) a' (n + m) cap' size (vs ++ news) → Keep S w w' → wpList P ops Q rest (act.put o.dst (.slice a' (n + m) cap')) w') :
    wpList P ops Q (o :: rest) act w := by
  unfold wpList
  rw [if_pos hw]
  left
  obtain ⟨a', cap', w', hrun, r1, r2⟩ := run_append_rw (P := P) w S t o.type e i z size bytes ht hi hz hsize hby hzs hsz a n cap vs hr ad m c news hm hl hnews h1 h63 hbytes
  unfold Oper.wp
  simp [execOp, hop, resolve, invoke, builtin, hs, hx, hrun, Result.andThen]
  exact hK a' cap' w' r1 r2
/-- New since w, and none of X. -/
@[reducible] def NX (w : World) (X : Nat → Prop) (j : Nat) : Prop := w.heap.size ≤ j ∧ ¬ X j
end Go.Proofs.Ytgeiagndpfdnlaa
end
section
namespace Go.Proofs.Ytgeiagndpfdnlaa
open Go.RowKit
set_option linter.unusedVariables false
set_option maxRecDepth 20000

theorem run_append_zero {P : Program} (w : World) (t ty e : TypeId) (i : TypeInfo) (ht : P.underlying t = some (.slice e)) (hi : P.info? e = some i) (a : Option Addr) (n cap : Nat) (hn : n ≤ cap) (b : Option Addr) (c : Nat) :
    (Builtin.append_ #[t, t] ty #[.slice a n cap, .slice b 0 c]).run P w = .ok (.slice a n cap) w := by
  have hf : (Builtin.firstCells i.size 0 (.slice b 0 c)).run P w = .ok #[] w := by
    cases b with
    | none => simp [Builtin.firstCells]
    | some x => exact run_firstCells_some (P := P) w i.size 0 x 0 c [] (by simp) (by simp)
  cases a with
  | none => simp [Builtin.append_, run_underlying ht, sizeOf, typeInfo, hi, Builtin.lenOf, hn, hf]
  | some x => simp [Builtin.append_, run_underlying ht, sizeOf, typeInfo, hi, Builtin.lenOf, hn, hf, storeCells]
theorem run_append_slv {P : Program} (w : World) (S : Nat → Prop) (t ty e : TypeId) (i : TypeInfo) (z : Value) (size bytes : Nat) (ht : P.underlying t = some (.slice e)) (hi : P.info? e = some i) (hz : i.zero = some z)
    (hsize : i.size = size) (hby : i.bytes = bytes) (hzs : z.cells.size = size) (hsz : 0 < size)
    (a : Option Addr) (n cap : Nat) (vs : List Value) (hr : Rw w S a n cap size vs)
    (b : Option Addr) (m c : Nat) (news : List Value) (hs : SlV w b m c size news) (h1 : ∀ u ∈ news, u.oneCell' = true)
    (h63 : n + m ≤ maxLen) (hbytes : (n + m) * bytes ≤ 140737488355328) :
    ∃ a' cap' w', (Builtin.append_ #[t, t] ty #[.slice a n cap, .slice b m c]).run P w = .ok (.slice a' (n + m) cap') w' ∧
      Rw w' (fun k => S k ∨ w.heap.size ≤ k) a' (n + m) cap' size (vs ++ news) ∧ Keep S w w' := by
  have hl := hs.len
  by_cases hm : m = 0
  · subst hm
    obtain rfl : news = [] := List.eq_nil_of_length_eq_zero (by simpa using hl)
    refine ⟨a, cap, w, run_append_zero w t ty e i ht hi a n cap hr.le b c, ?_, Keep.refl _ _⟩
    rw [List.append_nil]
    exact hr.imp (fun k _ h => .inl h)
  · have hpos : 0 < m * size := Nat.mul_pos (by omega) hsz
    rcases hs.row with h0 | ⟨blk, o, rfl, hc⟩
    · rw [h0] at hl; simp at hl; omega
    · exact run_append_rw w S t ty e i z size bytes ht hi hz hsize hby hzs hsz a n cap vs hr ⟨blk, o, none⟩ m c news (by omega) hl (fun j u hu => by rw [Addr.add_lit]; exact hc j u hu) h1 h63 hbytes
theorem wpList_append_slv {P : Program} (w : World) {ops : Array Oper} {rest : List Oper} {o : Oper} {act : Act} {Q : Exit → Act → World → Prop} (S : Nat → Prop)
    (hw : Region.wanted o (yielded ops act.tmps) = true) (s x : Operand) (t : TypeId) (hop : o.op = Op.call { callee := Callee.builtin Builtin.append, args := #[s, x], argTypes := #[t, t] })
    (e : TypeId) (i : TypeInfo) (z : Value) (size bytes : Nat) (ht : P.underlying t = some (.slice e)) (hi : P.info? e = some i) (hz : i.zero = some z)
    (hsize : i.size = size) (hby : i.bytes = bytes) (hzs : z.cells.size = size) (hsz : 0 < size)
    (a : Option Addr) (n cap : Nat) (vs : List Value) (hs : act.eval s = .slice a n cap) (hr : Rw w S a n cap size vs)
    (b : Option Addr) (m c : Nat) (news : List Value) (hx : act.eval x = .slice b m c) (hsv : SlV w b m c size news) (h1 : ∀ u ∈ news, u.oneCell' = true)
    (h63 : n + m ≤ maxLen) (hbytes : (n + m) * bytes ≤ 140737488355328)
    (hK : ∀ a' cap' w', Rw w' (fun k => S k ∨ w.heap.size ≤ k) a' (n + m) cap' size (vs ++ news) → Keep S w w' → wpList P ops Q rest (act.put o.dst (.slice a' (n + m) cap')) w') :
    wpList P ops Q (o :: rest) act w := by
  unfold wpList
  rw [if_pos hw]
  left
  obtain ⟨a', cap', w', hrun, r1, r2⟩ := run_append_slv (P := P) w S t o.type e i z size bytes ht hi hz hsize hby hzs hsz a n cap vs hr b m c news hsv h1 h63 hbytes
  unfold Oper.wp
  simp [execOp, hop, resolve, invoke, builtin, hs, hx, hrun, Result.andThen]
  exact hK a' cap' w' r1 r2
/-- One operation of a region in its order, by its run. -/
theorem list_take {P : Program} {ops : Array Oper} {rest : List Oper} {o : Oper} {a : Act} {w : World} {Q : Exit → Act → World → Prop} (v : Value) (w' : World) (hw : Region.wanted o (yielded ops a.tmps) = true)
    (hrun : (execOp a.eval o).run P w = .ok (.value v) w') (h : wpList P ops Q rest (a.put o.dst v) w') : wpList P ops Q (o :: rest) a w := by
  unfold wpList
  rw [if_pos hw]
  left
  unfold Oper.wp
  rw [hrun]
  exact h
theorem SlV.front {w : World} {a : Option Addr} {n cap es : Nat} {vs : List Value} (h : SlV w a n cap es vs) {k : Nat} (hk : k ≤ n) : SlV w a k cap es (vs.take (k * es)) := by
  have hl := h.len
  have hm : k * es ≤ n * es := Nat.mul_le_mul_right _ hk
  refine ⟨by rw [List.length_take]; omega, Nat.le_trans hk h.le, h.max, h.nil, ?_⟩
  rcases h.row with h0 | ⟨b, o, e, hc⟩
  · exact .inl (by rw [h0]; simp)
  · refine .inr ⟨b, o, e, fun i u hu => hc i u ?_⟩
    rw [List.getElem?_take] at hu
    split at hu
    · exact hu
    · cases hu
theorem SlV.rear {w : World} {b o n cap es : Nat} {vs : List Value} (h : SlV w (some ⟨b, o, none⟩) n cap es vs) {k : Nat} (hk : k ≤ n) {A : Addr} (hA : (if cap = k then some (⟨b, o, none⟩ : Addr) else some ⟨b, o + k * es, none⟩) = some A) : SlV w (some A) (n - k) (cap - k) es (vs.drop (k * es)) := by
  have hl := h.len
  have hle := h.le
  have hm : (n - k) * es = n * es - k * es := Nat.sub_mul _ _ _
  have hmx := h.max
  refine ⟨by rw [List.length_drop]; omega, by omega, by omega, fun h => (by cases h), ?_⟩
  by_cases hc : cap = k
  · left
    apply List.eq_nil_of_length_eq_zero
    rw [List.length_drop]
    have : n = k := by omega
    subst this
    omega
  · rw [if_neg hc] at hA
    obtain rfl := Option.some.inj hA
    rcases h.row with h0 | ⟨b', o', e, hcc⟩
    · exact .inl (by rw [h0]; simp)
    · simp at e
      obtain ⟨rfl, rfl⟩ := e
      refine .inr ⟨b, o + k * es, rfl, fun i u hu => ?_⟩
      rw [List.getElem?_drop] at hu
      rw [Nat.add_assoc]
      exact hcc _ u hu
/-- The two pieces, one behind the other, in new memory: one element is left out. -/
theorem slv_cells {w : World} {a : Option Addr} {n cap : Nat} {z : List Int} : SlV w a n cap 1 (cells z) → Sl w a n cap z := by
  intro h
  have hl := h.len
  refine ⟨by simpa [cells] using hl, h.le, h.max, h.nil, ?_⟩
  rcases h.row with h0 | ⟨b, o, e, hc⟩
  · exact .inl (by simpa [cells] using h0)
  · exact .inr ⟨b, o, e, fun i hi => hc i _ (by simp [cells, hi])⟩
theorem cells_slv {w : World} {a : Option Addr} {n cap : Nat} {z : List Int} (h : Sl w a n cap z) : SlV w a n cap 1 (cells z) := by
  have hl := h.len
  refine ⟨by simpa [cells] using hl, h.le, h.max, h.nil, ?_⟩
  rcases h.row with h0 | ⟨b, o, e, hc⟩
  · exact .inl (by simp [cells, h0])
  · refine .inr ⟨b, o, e, fun i u hu => ?_⟩
    obtain ⟨hi, rfl⟩ := cells_get hu
    exact hc i hi
end Go.Proofs.Ytgeiagndpfdnlaa
end
section
namespace Go.Proofs.Ytgeiagndpfdnlaa
open Go.RowKit
set_option linter.unusedVariables false

section
variable {P : Program} {ops : Array Oper} {Q : Exit → Act → World → Prop} {w0 : World}

theorem wpAnyU_low {w1 : World} (hb : Below w0.heap.size w0 w1) : ∀ (fuel : Nat) (listed : Array Bool) (a : Act) (w : World), wpAnyU P .any ops Q w1 fuel listed a w → wpAnyU P .any ops Q w0 fuel listed a w
  | 0, _, _, _, h => h
  | fuel + 1, _, _, _, h => ⟨h.1, fun i hi => wpOp_mono (fun a' w' h' => ⟨next hb h'.1, fun u => wpAnyU_low hb fuel _ a' u.1 (h'.2 u)⟩) (h.2 i hi)⟩
/-- From here on, all that is there now stays. -/
theorem up_raise {fuel : Nat} {listed : Array Bool} {a : Act} {w : World} (hb : Below w0.heap.size w0 w) (h : MildOn P ops Q w fuel listed a) : wpAnyU P .any ops Q w0 fuel listed a w :=
  wpAnyU_low hb fuel listed a w (h (Up.self w))
/-- Two may come up. -/
theorem up_two (i j : Nat) {l ri rj : List Oper} {oi oj : Oper} {fuel : Nat} {listed : Array Bool} {a : Act} {w : World} (hr : Region.ready .any l.toArray listed = [i, j]) (hdi : l.drop i = oi :: ri) (hdj : l.drop j = oj :: rj)
    (hi : wpList P l.toArray (Then (fun a' w' => Below w0.heap.size w0 w' ∧ ∀ u : Up w', wpAnyU P .any l.toArray Q w0 fuel (listed.setIfInBounds i true) a' u.1) Q) [oi] a w)
    (hj : wpList P l.toArray (Then (fun a' w' => Below w0.heap.size w0 w' ∧ ∀ u : Up w', wpAnyU P .any l.toArray Q w0 fuel (listed.setIfInBounds j true) a' u.1) Q) [oj] a w) : wpAnyU P .any l.toArray Q w0 (fuel + 1) listed a w := by
  have step : ∀ (q : Nat) {oq : Oper} {rq : List Oper}, l.drop q = oq :: rq →
      wpList P l.toArray (Then (fun a' w' => Below w0.heap.size w0 w' ∧ ∀ u : Up w', wpAnyU P .any l.toArray Q w0 fuel (listed.setIfInBounds q true) a' u.1) Q) [oq] a w →
      wpOp P l.toArray Q q (fun a' w' => Below w0.heap.size w0 w' ∧ ∀ u : Up w', wpAnyU P .any l.toArray Q w0 fuel (listed.setIfInBounds q true) a' u.1) a w := by
    intro q oq rq hd h
    have hi := of_drop hd
    unfold wpOp
    simp only [hi]
    unfold wpList at h
    by_cases hw : Region.wanted oq (yielded l.toArray a.tmps) = true
    · rw [if_pos hw] at h ⊢
      refine h.imp (fun h => ?_) id
      unfold Oper.wp at *
      revert h
      generalize (execOp a.eval oq).run P w = r
      intro h
      rcases r with ⟨n, w'⟩ | ⟨x, w'⟩
      · cases n with
        | enter f args =>
          exact Calls.mono h fun e w'' he => by
            cases e <;> exact he
        | _ => exact h
      · cases x <;> exact h
    · rw [if_neg hw] at h ⊢
      exact h
  refine ⟨fun h0 => (by rw [hr] at h0; cases h0), ?_⟩
  rw [hr]
  intro q hq
  simp at hq
  rcases hq with rfl | rfl
  · exact step q hdi hi
  · exact step q hdj hj
end
end Go.Proofs.Ytgeiagndpfdnlaa
end
section
namespace Go.Proofs.Ytgeiagndpfdnlaa
open Go.RowKit
set_option linter.unusedVariables false

section
variable {P : Program} {Q : Exit → Act → World → Prop}

theorem wp_region_orders {id : Nat} {a : Act} {w : World} {l : List Oper} (n : Nat) (hn : l.length = n) (hm : P.follows .mixedOrders = true) (h : wpAny P .any l.toArray Q n (Array.replicate n false) a w.drew) : (Code.region id l.toArray true).wp P Q a w := by
  subst hn
  refine wp_region_any hm ?_
  simpa using h
theorem any_take (i : Nat) (v : Value) {l rest : List Oper} {oi : Oper} {fuel : Nat} {listed : Array Bool} {a : Act} {w : World} (hd : l.drop i = oi :: rest) (hs : Region.noSelect l.toArray = true)
    (hf : Region.free .any l.toArray listed i = true) (hr : (Region.ready .any l.toArray listed).contains i = true) (hQ : ∀ c a w, Q (.panic c) (a.put oi.dst v) w → Q (.panic c) a w)
    (hw : Region.wanted oi (yielded l.toArray a.tmps) = true) (hy : ∀ w, (execOp a.eval oi).run P w = .ok (.value v) w)
    (h : wpAny P .any l.toArray Q fuel (listed.setIfInBounds i true) (a.put oi.dst v) w) : wpAny P .any l.toArray Q (fuel + 1) listed a w :=
  wpAny_take (of_drop hd) hs hf hr hQ (.inl ⟨hw, hy⟩) h
theorem op_list (q : Nat) {l rq : List Oper} {oq : Oper} {K : Act → World → Prop} {a : Act} {w : World} (hd : l.drop q = oq :: rq) (h : wpList P l.toArray (Then K Q) [oq] a w) : wpOp P l.toArray Q q K a w := by
  have hi := of_drop hd
  unfold wpOp
  simp only [hi]
  unfold wpList at h
  by_cases hw : Region.wanted oq (yielded l.toArray a.tmps) = true
  · rw [if_pos hw] at h ⊢
    refine h.imp (fun h => ?_) id
    unfold Oper.wp at *
    revert h
    generalize (execOp a.eval oq).run P w = r
    intro h
    rcases r with ⟨n, w'⟩ | ⟨x, w'⟩
    · cases n with
      | enter f args =>
        exact Calls.mono h fun e w'' he => by
          cases e <;> exact he
      | _ => exact h
    · cases x <;> exact h
  · rw [if_neg hw] at h ⊢
    exact h
theorem any_list (i : Nat) {l rest : List Oper} {oi : Oper} {fuel : Nat} {listed : Array Bool} {a : Act} {w : World} (hr : Region.ready .any l.toArray listed = [i]) (hd : l.drop i = oi :: rest)
    (h : wpList P l.toArray (Then (fun a' w' => wpAny P .any l.toArray Q fuel (listed.setIfInBounds i true) a' w') Q) [oi] a w) : wpAny P .any l.toArray Q (fuel + 1) listed a w :=
  wpAny_all hr (by simp) fun q hq => by
    rw [List.mem_singleton] at hq
    subst hq
    exact op_list q hd h
theorem any_two (i j : Nat) {l ri rj : List Oper} {oi oj : Oper} {fuel : Nat} {listed : Array Bool} {a : Act} {w : World} (hr : Region.ready .any l.toArray listed = [i, j]) (hdi : l.drop i = oi :: ri) (hdj : l.drop j = oj :: rj)
    (hi : wpList P l.toArray (Then (fun a' w' => wpAny P .any l.toArray Q fuel (listed.setIfInBounds i true) a' w') Q) [oi] a w)
    (hj : wpList P l.toArray (Then (fun a' w' => wpAny P .any l.toArray Q fuel (listed.setIfInBounds j true) a' w') Q) [oj] a w) : wpAny P .any l.toArray Q (fuel + 1) listed a w :=
  wpAny_all hr (by simp) fun q hq => by
    simp at hq
    rcases hq with rfl | rfl
    · exact op_list q hdi hi
    · exact op_list q hdj hj
theorem any_done {fuel : Nat} {l : List Oper} {listed : Array Bool} {a : Act} {w : World} (hr : Region.ready .any l.toArray listed = []) (h : Q .normal a w) : wpAny P .any l.toArray Q fuel listed a w := wpAny_done hr h fuel
theorem then_n {K : Act → World → Prop} {a : Act} {w : World} (h : K a w) : Then K Q .normal a w := h
end
end Go.Proofs.Ytgeiagndpfdnlaa
end
