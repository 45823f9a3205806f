/- Slices of whole numbers: what can be read of them (Sl), what a call has made (Own); worlds that only grew (Up) and regions that draw their order over them; the helps Within, Copy and Cut over whole numbers. Conditions: as each theorem states them.
How arguments come in: structs by value cell by cell, whole numbers, flags, lists of them. Conditions: as each theorem states them.
A configuration as a value.
Regions that draw their order and also make or write memory: an operation that yields one value in every world that has only grown, and lets the world only grow, may be taken first, calls among them; what is left is walked in the orders that remain. Nothing of the program is named here.
The contracts of the configurations that setups make: Config, at. Conditions: as each theorem states them.
Setups as they come in: the value written out, its lists readable.
The plain mathematics of chapter 1: a sum digit by digit as the walk spells it (over Int), the same over BitVec 16, that it is linear, and that no burst of up to sixteen digits gives 0. No condition.
More plain mathematics of chapter 1: bytes and their own sum have the sum 0, and only they. No condition.
The contracts of crc.Sum and of the helps Copy, Cut, Same, Within and wakes: what each call gives and what it leaves of the memory. Conditions: as each theorem states them.
The contracts of crc.Seal, crc.Open and the copy that Open hands out. Conditions: as each theorem states them.
What spoiling does to a list of bytes, as the walk spells it. No condition.
More plain mathematics of chapter 1: what Spoil does digit by digit, and that a burst of up to sixteen digits never leaves a sum as it was. No condition.
Small facts of bytes that several texts share. Conditions: as each theorem states them.
More of regions that draw their order: two that may come up; what was made on the way is there from then on. Nothing of the program is named here. -/
import Derived.Test.YtgeiagndpfdnlaaRows
import Derived.WalkKit
import Derived.WalkSpells
import Derived.BigQuiet
import Derived.WalkLawsBesides
import Derived.Laws.AppendOwnNone
import Derived.Laws.CopyOwn
import Derived.Deep.RegionHeld3
import Derived.Deep.DeepCutAuto
import Derived.ProofKit
import Derived.OpenShut
import Derived.ChangeOld
import Derived.Below
import Derived.Lib.SmallJoins
import Derived.OrdersHeld
import Derived.Laws.BitsAllLaws
import Derived.Lib.SlBytesConst
import Derived.Deep.OwnRows
import Derived.BigRegion
import Derived.Deep.DrawnRows
section
namespace Go.Proofs.Ytgeiagndpfdnlaa
open Go.RowKit
set_option linter.unusedVariables false

theorem ret_bool {a b : Bool} (h : a = b) : Ending.returned (.bool a) = .returned (.bool b) := by rw [h]
theorem ret_int {k : IntKind} {a b : Int} (h : a = b) : Ending.returned (.int k a) = .returned (.int k b) := by rw [h]
theorem below_dn (w : World) (k : Nat) : Below w.heap.size w (w.drewN k) := ⟨rfl, rfl, rfl, Nat.le_refl _, fun _ _ => rfl⟩

theorem bcell {W w1 : World} (hb : Below W.heap.size W w1) : (∀ b o, b < W.heap.size → w1.cell? ⟨b, o, none⟩ = W.cell? ⟨b, o, none⟩) ∧ (∀ b o, b < W.heap.size → w1.frozen? ⟨b, o, none⟩ = W.frozen? ⟨b, o, none⟩) :=
  ⟨fun b o h => hb.cell (p := ⟨b, o, none⟩) h, fun b o h => hb.frozen (p := ⟨b, o, none⟩) h⟩
theorem ba {w x : World} {o : Obj} (h : Below w.heap.size w x) : Below w.heap.size w (x.alloc o) := h.alloc h.size o
theorem next {W w1 w2 : World} (h1 : Below W.heap.size W w1) (h2 : Below w1.heap.size w1 w2) : Below W.heap.size W w2 := h1.trans (h2.mono h1.size)
/-- What was there is there, and as it was. -/
def Up (w : World) : Type := { u : World // Below w.heap.size w u }
instance Up.some (w : World) : Nonempty (Up w) := ⟨⟨w, Below.refl _ _⟩⟩
theorem Up.cell {w : World} (u : Up w) (b o : Nat) (h : b < w.heap.size) : u.1.cell? ⟨b, o, none⟩ = w.cell? ⟨b, o, none⟩ := u.2.cell (p := ⟨b, o, none⟩) h
theorem Up.frozen {w : World} (u : Up w) (b o : Nat) (h : b < w.heap.size) : u.1.frozen? ⟨b, o, none⟩ = w.frozen? ⟨b, o, none⟩ := u.2.frozen (p := ⟨b, o, none⟩) h
theorem Up.lt {w : World} (u : Up w) (n : Nat) (h : n < w.heap.size) : n < u.1.heap.size := Nat.lt_of_lt_of_le h u.2.size
/-- A region that draws its order, whose operations only read and whose calls only make memory: one walk, in the order of the text. -/
theorem wp_region_up {P : Program} {id : Nat} {Q : Exit → Act → World → Prop} {a : Act} {w : World} {l : List Oper} (hm : P.follows .mixedOrders = true) (hB : Region.lexB .any l.toArray = true)
    (h : wpQuiet P l.toArray (fun w' => ∃ u : Up w, w' = u.1) (fun a' => ∀ w', (∃ u : Up w, w' = u.1) → Q .normal a' w') l a) : (Code.region id l.toArray true).wp P Q a w :=
  wp_region_quiet (C := fun w' => ∃ u : Up w, w' = u.1) hm hB ⟨⟨w.drew, (Below.refl _ _).drew⟩, rfl⟩ (by simpa using h)
/-- A call in such a region. -/
theorem Calls.up_of {P : Program} {f : FuncId} {args : Array Value} {w : World} {u : Up w} {v : Value}
    (h : Calls P f args u.1 fun e w' => e = .returned v ∧ Below u.1.heap.size u.1 w') : Calls P f args u.1 fun e w'' => e = .returned v ∧ ∃ u' : Up w, w'' = u'.1 :=
  h.mono fun _ _ ⟨he, hb⟩ => ⟨he, ⟨_, u.2.trans (hb.mono u.2.size)⟩, rfl⟩
theorem Calls.up_same {P : Program} {f : FuncId} {args : Array Value} {w : World} {u : Up w} {v : Value}
    (h : Calls P f args u.1 fun e w' => e = .returned v ∧ u.1 = w') : Calls P f args u.1 fun e w'' => e = .returned v ∧ ∃ u' : Up w, w'' = u'.1 :=
  h.mono fun _ _ ⟨he, hb⟩ => ⟨he, u, hb.symm⟩

/-- The numbers l lie where a slice at address a says. -/
def Row (w : World) (a : Option Addr) (l : List Int) : Prop :=
  l = [] ∨ ∃ b o, a = some ⟨b, o, none⟩ ∧ ∀ i, i < l.length → w.cell? ⟨b, o + i, none⟩ = some (.int .i64 (l[i]?.getD 0))

/-- A slice of whole numbers: nil, or so many cells, not more than its capacity. -/
structure Sl (w : World) (a : Option Addr) (n cap : Nat) (l : List Int) : Prop where
  len : l.length = n
  le : n ≤ cap
  max : cap ≤ maxLen
  nil : a = none → cap = 0
  row : Row w a l
def cells (l : List Int) : List Value := l.map (Value.int .i64)
/-- A slice of whole numbers that was made since the heap had 'base' blocks, and is nobody else's. -/
def Own (w : World) (base : Nat) (v : Value) (l : List Int) : Prop := w.ownsRow base 3 1 v l.length (cells l)

theorem cells_get {l : List Int} {j : Nat} {u : Value} (h : (cells l)[j]? = some u) : j < l.length ∧ u = .int .i64 (l[j]?.getD 0) := by
  have hj : j < l.length := by have := (List.getElem?_eq_some_iff.1 h).1; simpa [cells] using this
  refine ⟨hj, ?_⟩
  simp [cells, hj] at h
  simp [hj, h]
theorem Own.sl {w : World} {base : Nat} {v : Value} {l : List Int} (h : Own w base v l) : ∃ a cap, v = .slice a l.length cap ∧ Sl w a l.length cap l := by
  obtain ⟨h1, h2⟩ := h
  rcases h2 with ⟨rfl, h0⟩ | ⟨g, cap, cur, rfl, hb, hg, hle, hm, hsz, ht⟩
  · have : l = [] := List.eq_nil_of_length_eq_zero h0
    subst this
    exact ⟨none, 0, rfl, rfl, Nat.le_refl _, Nat.zero_le _, fun _ => rfl, .inl rfl⟩
  · refine ⟨some ⟨g, 0, none⟩, cap, rfl, rfl, hle, hm, fun h => (by cases h), Or.inr ⟨g, 0, rfl, fun i hi => ?_⟩⟩
    rw [Nat.zero_add, cell_of_row w g i cur 3 (0, 0) hg]
    have e : (cells l)[i]? = some (.int .i64 (l[i]?.getD 0)) := by simp [cells, hi]
    rw [← ht, List.getElem?_take] at e
    split at e
    · simpa using e
    · cases e
theorem Own.sl' {w : World} {base n : Nat} {v : Value} {l : List Int} (h : Own w base v l) (hn : l.length = n) : ∃ a cap, v = .slice a n cap ∧ Sl w a n cap l := by
  subst hn; exact h.sl
theorem Row.cellsAt {w : World} {x : Addr} {l : List Int} (h : Row w (some x) l) : ∀ j u, (cells l)[j]? = some u → w.cell? (x.add j) = some u := by
  intro j u hu
  obtain ⟨hj, rfl⟩ := cells_get hu
  rcases h with rfl | ⟨b, o, e, hc⟩
  · simp at hj
  · obtain rfl := Option.some.inj e
    rw [Addr.add_lit]; exact hc j hj
theorem cells_one (l : List Int) : ∀ u ∈ cells l, u.oneCell' = true := ints_oneCell .i64 l
theorem Row.take {w : World} {a : Option Addr} {l : List Int} (h : Row w a l) (k : Nat) : Row w a (l.take k) := by
  rcases h with rfl | ⟨b, o, rfl, hc⟩
  · exact .inl (by simp)
  · refine .inr ⟨b, o, rfl, fun i hi => ?_⟩
    have hi' : i < k ∧ i < l.length := by simp at hi; omega
    rw [hc i hi'.2]; simp [hi'.1]
theorem Sl.take {w : World} {a : Option Addr} {n cap : Nat} {l : List Int} (h : Sl w a n cap l) (k : Nat) (hk : k ≤ n) : Sl w a k cap (l.take k) :=
  ⟨by have := h.len; simp; omega, Nat.le_trans hk h.le, h.max, h.nil, h.row.take k⟩
/-- A block that is there. -/
def There (w : World) (a : Option Addr) : Prop := ∀ x, a = some x → x.block < w.heap.size
theorem Row.below {w w' : World} {a : Option Addr} {l : List Int} (h : Row w a l) (hb : Below w.heap.size w w') : Row w' a l := by
  rcases h with rfl | ⟨b, o, rfl, hc⟩
  · exact .inl rfl
  · refine .inr ⟨b, o, rfl, fun i hi => ?_⟩
    have hi' := hc i hi
    have hlt : b < w.heap.size := World.block_lt_of_cell? w _ hi'
    rw [hb.cell (p := ⟨b, o + i, none⟩) hlt]; exact hi'
theorem Sl.below {w w' : World} {a : Option Addr} {n cap : Nat} {l : List Int} (h : Sl w a n cap l) (hb : Below w.heap.size w w') : Sl w' a n cap l :=
  ⟨h.len, h.le, h.max, h.nil, h.row.below hb⟩
/-- A slice of whole numbers that came in. -/
theorem sl_of {w : World} {a : Option Addr} {len cap : Nat} {zs : List Int}
    (h : (a = none ∧ len = 0 ∧ cap = 0 ∧ zs = []) ∨ ∃ x, a = some x ∧ len ≤ cap ∧ cap ≤ maxLen ∧ zs.length = cap ∧ (∀ i, i < zs.length → w.cell? (x.add i) = some (.int .i64 (zs.getD i 0))) ∧ ∀ n ∈ zs, (Lit.int .i64 n).wf = true) :
    Sl w a len cap (zs.take len) := by
  rcases h with ⟨rfl, rfl, rfl, rfl⟩ | ⟨x, rfl, hl, hm, hz, hcell, hwz⟩
  · exact ⟨rfl, Nat.le_refl _, Nat.zero_le _, fun _ => rfl, Or.inl rfl⟩
  · refine ⟨by simp; omega, hl, hm, fun h => (by cases h), ?_⟩
    by_cases h0 : len = 0
    · subst h0; exact Or.inl (by simp)
    · obtain ⟨b, off, spot⟩ := x
      have hc := hcell 0 (by omega)
      have hspot : spot = none := by simpa [Addr.add] using World.cell?_spot hc
      subst hspot
      refine Or.inr ⟨b, off, rfl, fun i hi => ?_⟩
      have hi' : i < len := by simp at hi; omega
      have := hcell i (by omega)
      rw [Addr.add_lit] at this
      rw [this]; simp [hi', List.getD]
theorem Try.infoInt : (Try.prog.info? 3).map (fun i => (i.zero, i.size, i.bytes)) = some (some (.int .i64 0), 1, 8) := by kernel_rfl
theorem Sl.same {w w' : World} {a : Option Addr} {n cap : Nat} {l : List Int} (h : Sl w a n cap l) (hh : w'.heap = w.heap) : Sl w' a n cap l := by
  refine ⟨h.len, h.le, h.max, h.nil, ?_⟩
  rcases h.row with h0 | ⟨b, o, e, hc⟩
  · exact .inl h0
  · exact .inr ⟨b, o, e, fun i hi => by rw [← hc i hi]; simp [World.cell?, hh]⟩
theorem Sl.none0 {w : World} {a : Option Addr} {n cap : Nat} {l : List Int} (h : Sl w a n cap l) : a = none → n = 0 ∧ cap = 0 := fun e => ⟨by have := h.nil e; have := h.le; omega, h.nil e⟩
theorem sl_nil (w : World) : Sl w none 0 0 [] := ⟨rfl, Nat.le_refl _, Nat.zero_le _, fun _ => rfl, .inl rfl⟩
theorem own_nil (w : World) (base : Nat) : Own w base (.slice none 0 0) [] := World.ownsRow_nil _ _ _ _
theorem below_new {w w' : World} (h : w.grownBy w' none) : Below w.heap.size w w' := (Below.refl _ _).grown h (Nat.le_refl _) (by intro k hk; cases hk)

theorem copy_any (a : Option Addr) (l : List Int) (n cap : Nat) (w : World) (hsl : Sl w a n cap l) (hb : n ≤ 17592186044416) :
    Calls Try.prog 39 #[.slice a n cap] w fun e w' => ∃ v, e = .returned v ∧ Own w' w.heap.size v l ∧ Below w.heap.size w w' := by
  obtain ⟨hn, hle, hmx, hnil, hr⟩ := hsl
  obtain ⟨i0, hi, hz0, hz1, hz2⟩ := info_parts Try.infoInt
  have hm : n ≤ maxLen := Nat.le_trans hle hmx
  cases a with
  | none =>
    obtain rfl : cap = 0 := hnil rfl
    obtain rfl : n = 0 := by omega
    obtain rfl : l = [] := List.eq_nil_of_length_eq_zero hn
    go_enter Try.func39, Try.ntmps39
    go_wp2_with (at_builtin; refine wpList_append_own_none rfl _ _ 22 rfl w.heap.size 3 i0 1 Try.underlying22 hi _ 0 [] rfl (World.ownsRow_nil _ _ _ _) rfl ?_)
    go_ret
    exact ⟨_, rfl, own_nil _ _, Below.refl _ _⟩
  | some x =>
    go_enter Try.func39, Try.ntmps39
    go_wp2_with (at_builtin; refine wpList_append_own _ rfl _ _ 22 rfl w.heap.size 3 i0 (.int .i64 0) 1 8 Try.underlying22 hi hz0 hz1 hz2 rfl (by decide) _ 0 [] rfl (World.ownsRow_nil _ _ _ _) x n cap (cells l) rfl (by simp [cells, hn]) hr.cellsAt (cells_one l) (by omega) (by omega) (Nat.le_refl _) ?_)
    intro v' w1 hown hgrow _
    go_wp2
    go_ret
    refine ⟨_, rfl, by simpa [Own, hn] using hown, (Below.refl _ _).grown hgrow (Nat.le_refl _) (by intro k hk; simp [Value.ownBlock] at hk)⟩

theorem tmod_neg {v n : Int} (hn : 1 ≤ n) (h : v.tmod n < 0) : v.tmod n + n = v % n ∧ -n < v.tmod n := by
  have h1 : -n < v.tmod n := by have := Int.tmod_lt_of_pos (-v) (show 0 < n by omega); rw [Int.neg_tmod] at this; omega
  refine ⟨?_, h1⟩
  have h2 := Int.mul_tdiv_add_tmod v n
  have h3 : v % n = (v.tmod n) % n := by
    conv => lhs; rw [← h2]
    rw [Int.add_comm, Int.add_mul_emod_self_left]
  rw [h3, ← Int.add_emod_right, Int.emod_eq_of_lt (by omega) (by omega)]
theorem tmod_pos {v n : Int} (hn : 1 ≤ n) (h : 0 ≤ v.tmod n) : v.tmod n = v % n := by
  have h1 : v.tmod n < n := Int.tmod_lt_of_pos v (by omega)
  have h2 := Int.mul_tdiv_add_tmod v n
  have h3 : v % n = (v.tmod n) % n := by
    conv => lhs; rw [← h2]
    rw [Int.add_comm, Int.add_mul_emod_self_left]
  rw [h3, Int.emod_eq_of_lt (by omega) (by omega)]
theorem within_any (v n : Int) (w : World) (hn0 : 1 ≤ n) (hn1 : n ≤ 1000000) :
    Calls Try.prog 9 #[.int .i64 v, .int .i64 n] w fun e w' => e = .returned (.int .i64 (v % n)) ∧ w = w' := by
  go_enter Try.func9, Try.ntmps9
  go_wp2
  · go_ret
    have h : v.tmod n < 0 := by assumption
    obtain ⟨h1, h2⟩ := tmod_neg hn0 h
    refine ⟨ret_int ?_, rfl⟩
    rw [← h1]
    exact IntWalk.wrap64_in _ (by omega)
  · go_ret
    exact ⟨ret_int (tmod_pos hn0 (by assumption)), rfl⟩

theorem cut_any (a : Option Addr) (l : List Int) (n cap m : Nat) (w : World) (hsl : Sl w a n cap l) (hb : m ≤ 1000000) :
    Calls Try.prog 21 #[.slice a n cap, .int .i64 m] w fun e w' => ∃ v, e = .returned v ∧ Own w' w.heap.size v (l.take m) ∧ Below w.heap.size w w' := by
  have hle := hsl.le
  have hmx := hsl.max
  unfold maxLen at hmx
  have hl := hsl.len
  by_cases hc : n ≤ m
  · have he : Hid (l.take m = l) := List.take_of_length_le (by omega)
    go_enter Try.func21, Try.ntmps21
    go_wp2_with (go_at_call 39; refine (copy_any a l n cap w hsl (by omega)).mono ?_; rintro e w' ⟨v, rfl, hown, hbel⟩)
    go_ret
    exact ⟨_, rfl, by rw [he.out]; assumption, by assumption⟩
  · have hs2 := hsl.take m (by omega)
    go_enter Try.func21, Try.ntmps21
    go_wp2_with (go_at_call 39; refine (copy_any a (l.take m) m cap w hs2 (by omega)).mono ?_; rintro e w' ⟨v, rfl, hown, hbel⟩)
    go_ret
    exact ⟨_, rfl, by assumption, by assumption⟩

theorem cut_x (a : Option Addr) (l : List Int) (n cap m : Nat) (x : Int) (w : World) (hsl : Sl w a n cap l) (hb : m ≤ 1000000) (hx : x = (m : Int)) :
    Calls Try.prog 21 #[.slice a n cap, .int .i64 x] w fun e w' => ∃ v, e = .returned v ∧ Own w' w.heap.size v (l.take m) ∧ Below w.heap.size w w' := by
  subst hx; exact cut_any a l n cap m w hsl hb
theorem Own.low {w : World} {base base' : Nat} {v : Value} {l : List Int} (h : Own w base v l) (hb : base' ≤ base) : Own w base' v l := by
  refine ⟨h.1, h.2.imp id ?_⟩
  rintro ⟨g, cap, cur, e, hg, rest⟩
  exact ⟨g, cap, cur, e, Nat.le_trans hb hg, rest⟩
theorem Own.set {w : World} {base : Nat} {v : Value} {l : List Int} (h : Own w base v l) {p : Addr} (hp : p.block < base) (u : Value) : Own (w.setCell p u) base v l := ownsRow_setCell_below h hp u
theorem Own.below {w w' : World} {base : Nat} {v : Value} {l : List Int} (h : Own w base v l) (hb : Below w.heap.size w w') : Own w' base v l := by
  refine ⟨h.1, h.2.imp id ?_⟩
  rintro ⟨g, cap, cur, e, hg, hh, rest⟩
  exact ⟨g, cap, cur, e, hg, by rw [hb.block g (by rcases Nat.lt_or_ge g w.heap.size with h | h; exact h; rw [Array.getElem?_eq_none h] at hh; cases hh)]; exact hh, rest⟩
theorem take_same {l m : List Int} {k : Nat} (h : l.take k = m.take k) (hx : l[k]?.getD 0 = m[k]?.getD 0) (h1 : k < l.length) (h2 : k < m.length) : l.take (k + 1) = m.take (k + 1) := by
  rw [List.take_succ_eq_append_getElem h1, List.take_succ_eq_append_getElem h2, h]
  simp [h1, h2] at hx
  rw [hx]
end Go.Proofs.Ytgeiagndpfdnlaa
end
section
namespace Go.Proofs.Ytgeiagndpfdnlaa
open Go.ChangeShapes Go.WideShapes Go.ChangeAt Go.RowKit Go.Joins
set_option linter.unusedVariables false

section
variable {H : Type} {enc : TypeId × Value → H} {P : Program} {w : World} {base : Nat} {spare : Nat → Bool} {held : Bool}
/-- A struct by value whose fields are of one cell each: every field's cell with its reading. -/
theorem agg_cells {r : Reach} {b0 : Nat} {t : TypeId} {fs : Array Field} {v : Value} {d : DataW H} {p : List MemPlace} (hs : P.underlying t = some (.struct fs)) (hone : Deep.oneCellFields P fs = true) (hC : P.cellsOf t = fs.size)
    (hv : Value.okWide P w r b0 t v) (h : DataW.Trod enc P w base spare held t v d p) :
    ∃ cs : Array Value, v = .agg cs ∧ cs.size = fs.size ∧ ∀ (i : Nat) (f : Field), fs[i]? = some f → ∃ c n y, cs[i]? = some c ∧ DataW.trod enc P w base spare held n f.type [c] = some y := by
  obtain ⟨cs, rfl, hsz⟩ := okWide_struct hs hv
  obtain ⟨fuel, hf⟩ := h
  obtain ⟨xs, n, _, _, hl, hlen, hfs⟩ := DataW.trod_struct hs hf
  refine ⟨cs, rfl, hsz.trans hC, fun i f hi => ?_⟩
  obtain ⟨o0, k0⟩ := Deep.hone_of hone i f hi
  have hi' : i < fs.size := (Array.getElem?_eq_some_iff.1 hi).1
  have hc : i < cs.size := by omega
  have hx := hfs i f hi
  rw [o0, k0, List.getElem?_eq_getElem (by omega)] at hx
  refine ⟨cs[i], n, xs[i]'(by omega), by simp [hc], ?_⟩
  have e : ((Value.cells (.agg cs)).toList.drop i).take 1 = [cs[i]] := by
    simp [Value.cells, List.drop_eq_getElem_cons (show i < cs.toList.length by simpa using hc)]
  rw [← e]; exact hx
end

/-- Words of 64 bits. -/
def R64 (l : List Int) : Prop := ∀ x ∈ l, -9223372036854775808 ≤ x ∧ x ≤ 9223372036854775807
theorem wf_i64 {n : Int} (h : (Lit.int .i64 n).wf = true) : -9223372036854775808 ≤ n ∧ n ≤ 9223372036854775807 := by
  simp [Lit.wf, IntKind.min, IntKind.max, IntKind.signed, IntKind.bits] at h; omega
theorem wf_u8 {n : Int} (h : (Lit.int .u8 n).wf = true) : 0 ≤ n ∧ n < 256 := by
  simp [Lit.wf, IntKind.min, IntKind.max, IntKind.signed, IntKind.bits] at h; omega
theorem R64.take {l : List Int} (h : R64 l) (k : Nat) : R64 (l.take k) := fun x hx => h x (List.mem_of_mem_take hx)
section
variable {H : Type} {enc : TypeId × Value → H} {w : World} {base n : Nat}
theorem int_cell {spare : Nat → Bool} {held : Bool} {c : Value} {y : DataW H × List MemPlace} (h : DataW.trod enc Try.prog w base spare held n 3 [c] = some y) : ∃ x, c = .int .i64 x := by
  obtain ⟨x, e, _⟩ := DataW.trod_int Try.underlying3 h
  simp at e
  exact ⟨x, e⟩
theorem bool_cell {spare : Nat → Bool} {held : Bool} {c : Value} {y : DataW H × List MemPlace} (h : DataW.trod enc Try.prog w base spare held n 4 [c] = some y) : ∃ x, c = .bool x := by
  obtain ⟨x, e, _⟩ := DataW.trod_bool Try.underlying4 h
  simp at e
  exact ⟨x, e⟩
theorem ints_cell {held : Bool} {c : Value} {y : DataW H × List MemPlace} (h : DataW.trod enc Try.prog w base (fun _ => true) held n 22 [c] = some y) : ∃ a len cap z, c = .slice a len cap ∧ Sl w a len cap z ∧ R64 z := by
  rcases open_ints Try.underlying22 Try.underlying3 (by kernel_rfl) h with ⟨hcs, _⟩ | ⟨x, l, c', zs, hcs, _, hl, hm, hz, _, hcell, hwz⟩
  · simp at hcs
    exact ⟨none, 0, 0, [], hcs, sl_nil w, fun x hx => by cases hx⟩
  · simp at hcs
    exact ⟨some x, l, c', zs.take l, hcs, sl_of (.inr ⟨x, rfl, hl, hm, by simpa using hz, hcell, hwz⟩), R64.take (fun x hx => wf_i64 (hwz x hx)) l⟩
end
end Go.Proofs.Ytgeiagndpfdnlaa
end
section
namespace Go.Proofs.Ytgeiagndpfdnlaa
open Go.RowKit

/-- A configuration, as a value. -/
@[reducible] def cfg (n l k s y o i : Int) (t : Value) : Value := .agg #[.int .i64 n, .int .i64 l, .int .i64 k, .int .i64 s, .int .i64 y, .int .i64 o, .int .i64 i, t]
end Go.Proofs.Ytgeiagndpfdnlaa
end
section
namespace Go.Proofs.Ytgeiagndpfdnlaa
open Go.RowKit
set_option linter.unusedVariables false

section
variable {P : Program} {ops : Array Oper} {Q : Exit → Act → World → Prop} {md : Region.Mode} {w0 : World}

@[reducible] def UpC (w : World) : World → Prop := fun w' => ∃ u : Up w, w' = u.1
def Up.trans {w : World} (W : Up w) (u : Up W.1) : Up w := ⟨u.1, next W.2 u.2⟩
theorem cell_far {w : World} {p : Addr} {v : Value} (b o : Nat) (h : b ≠ p.block) : (w.setCell p v).cell? ⟨b, o, none⟩ = w.cell? ⟨b, o, none⟩ := by
  apply World.cell?_setCell_other
  intro e
  exact h (by rw [e])
theorem Up.cell2 {w : World} (W : Up w) (u : Up W.1) (b o : Nat) (h : b < w.heap.size) : u.1.cell? ⟨b, o, none⟩ = w.cell? ⟨b, o, none⟩ := (W.trans u).2.cell (p := ⟨b, o, none⟩) h
theorem Up.frozen2 {w : World} (W : Up w) (u : Up W.1) (b o : Nat) (h : b < w.heap.size) : u.1.frozen? ⟨b, o, none⟩ = w.frozen? ⟨b, o, none⟩ := (W.trans u).2.frozen (p := ⟨b, o, none⟩) h
def Up.self (w : World) : Up w := ⟨w, Below.refl _ _⟩

/-- In state a, in every world above w0, operation o leaves v and lets the world only grow. -/
def Mild (P : Program) (ops : Array Oper) (w0 : World) (o : Oper) (v : Value) (a : Act) : Prop :=
  (Region.wanted o (yielded ops a.tmps) = true ∧ ∀ (W : Up w0) (K : Act → Prop), K (a.put o.dst v) → o.quiet P a (UpC W.1) K) ∨
  (Region.wanted o (yielded ops a.tmps) = false ∧ v = undef)

theorem Mild.wpOp {i : Nat} {o : Oper} {v : Value} {a : Act} (hi : ops[i]? = some o) (hy : Mild P ops w0 o v a) (W : Up w0) {K : Act → World → Prop}
    (h : ∀ u : Up W.1, K (a.put o.dst v) u.1) : wpOp P ops Q i K a W.1 := by
  unfold Go.wpOp
  simp only [hi]
  rcases hy with ⟨hw, hv⟩ | ⟨hw, rfl⟩
  · rw [if_pos hw]
    refine .inl (Oper.wp_of_quiet (C := UpC W.1) (K := fun x => x = a.put o.dst v) ⟨Up.self _, rfl⟩ ?_ (hv W _ rfl))
    rintro a' w' ⟨u, rfl⟩ rfl
    exact h u
  · rw [if_neg (by rw [hw]; exact Bool.false_ne_true)]
    exact h (Up.self _)

theorem Mild.put {oi oj : Oper} {v : Value} {a : Act} (u : Value) (hsi : ∀ cs b, oi.op ≠ .select cs b) (h2 : ∀ d, oi.dst = some d → oj.dst ≠ some d) (h3 : ∀ d, oj.dst = some d → d ∉ oi.looksAt ops)
    (hy : Mild P ops w0 oi v a) : Mild P ops w0 oi v (a.put oj.dst u) := by
  unfold Mild at *
  rw [wanted_put oi a oj.dst u h3]
  refine hy.imp (fun ⟨hw, hv⟩ => ⟨hw, fun W K hK => ?_⟩) id
  obtain ⟨v', q1, q2⟩ := hv W (fun x => x = a.put oi.dst v) rfl
  refine ⟨v', fun w hw => ?_, ?_⟩
  · have := q1 w hw
    unfold Oper.quietAt at *
    rwa [execOp_put oi hsi a oj.dst u h3]
  · rw [← Act.put_comm a v' u h2, q2, Act.put_comm a v u h2]; exact hK

theorem Mild.defers {oi : Oper} {v : Value} {a : Act} (d : Deferred) (hy : Mild P ops w0 oi v a) : Mild P ops w0 oi v { a with defers := d :: a.defers } := by
  unfold Mild at *
  refine hy.imp (fun ⟨hw, hv⟩ => ⟨hw, fun W K hK => ?_⟩) id
  obtain ⟨v', q1, q2⟩ := hv W (fun x => x = a.put oi.dst v) rfl
  refine ⟨v', q1, ?_⟩
  rw [← Act.put_defers, q2, Act.put_defers]; exact hK

/-- Whether a mild operation's value is already there makes no difference to an operation apart from it. -/
theorem wpOp_mild {j : Nat} {oi oj : Oper} {v : Value} (hj : ops[j]? = some oj) (hap : oi.apart ops oj = true)
    (hsi : ∀ cs b, oi.op ≠ .select cs b) (hsj : ∀ cs b, oj.op ≠ .select cs b)
    (hQ : ∀ c a w, Q (.panic c) (a.put oi.dst v) w → Q (.panic c) a w) {K : Act → World → Prop} {a : Act} {w : World}
    (hy : Mild P ops w0 oi v a) (h : wpOp P ops Q j K (a.put oi.dst v) w) :
    wpOp P ops Q j (fun a' w' => Mild P ops w0 oi v a' ∧ K (a'.put oi.dst v) w') a w := by
  obtain ⟨h1, h2, h3⟩ := Oper.apart_spec hap
  have hx : execOp (a.put oi.dst v).eval oj = execOp a.eval oj := execOp_put oj hsj a oi.dst v h1
  have go : ∀ u w', K ((a.put oi.dst v).put oj.dst u) w' → Mild P ops w0 oi v (a.put oj.dst u) ∧ K ((a.put oj.dst u).put oi.dst v) w' := fun u w' hk =>
    ⟨hy.put u hsi h2 h3, by rwa [Act.put_comm a v u h2] at hk⟩
  unfold wpOp at *
  simp only [hj] at *
  rw [wanted_put oj a oi.dst v h1] at h
  by_cases hw : Region.wanted oj (yielded ops a.tmps) = true
  · rw [if_pos hw] at h ⊢
    rcases h with h | ⟨hasks, hlets⟩
    · left
      unfold Oper.wp at *
      rw [hx] at h
      revert h
      generalize (execOp a.eval oj).run P w = r
      intro h
      rcases r with ⟨n, w'⟩ | ⟨x, w'⟩
      · cases n with
        | value u => exact go u w' h
        | skip => exact go undef w' h
        | «defer» d =>
          simp only [Oper.upon] at h ⊢
          refine ⟨(hy.defers d).put undef hsi h2 h3, ?_⟩
          rwa [← Act.put_comm _ v undef h2, ← Act.put_defers]
        | enter f args =>
          exact Calls.mono h fun e w'' he => by
            cases e with
            | returned u => exact go u w'' he
            | panicked c => exact hQ _ _ _ he
            | outgrown => exact he
        | row r args => exact Rows.mono h fun u w'' he => go u w'' he
        | _ => exact h
      · cases x with
        | panic u => exact hQ _ _ _ h
        | _ => exact h
    · right
      exact ⟨by unfold Oper.asks at *; rwa [hx] at hasks, hlets⟩
  · rw [if_neg hw] at h ⊢
    exact go undef w h

/-- Whatever order is picked from here on; behind each operation the world is above w0, and may grow. -/
def wpAnyU (P : Program) (md : Region.Mode) (ops : Array Oper) (Q : Exit → Act → World → Prop) (w0 : World) : Nat → Array Bool → Act → World → Prop
  | 0, listed, a, w => Region.ready md ops listed = [] ∧ Q .normal a w
  | fuel + 1, listed, a, w =>
    (Region.ready md ops listed = [] → Q .normal a w) ∧
    ∀ i ∈ Region.ready md ops listed, wpOp P ops Q i (fun a' w' => Below w0.heap.size w0 w' ∧ ∀ u : Up w', wpAnyU P md ops Q w0 fuel (listed.setIfInBounds i true) a' u.1) a w

theorem wpAny_of_up : ∀ (fuel : Nat) (listed : Array Bool) (a : Act) (w : World), wpAnyU P md ops Q w0 fuel listed a w → wpAny P md ops Q fuel listed a w
  | 0, _, _, _, h => h
  | fuel + 1, _, _, _, h => ⟨h.1, fun i hi => wpOp_mono (fun a' w' h' => wpAny_of_up fuel _ a' w' (h'.2 (Up.self _))) (h.2 i hi)⟩

theorem wpAnyU_first {i : Nat} {oi : Oper} {v : Value} (hi : ops[i]? = some oi) (hsel : ∀ (j : Nat) (o : Oper) cs b, ops[j]? = some o → o.op ≠ .select cs b)
    (hQ : ∀ c a w, Q (.panic c) (a.put oi.dst v) w → Q (.panic c) a w) :
    ∀ (fuel : Nat) (listed : Array Bool) (a : Act) (W : Up w0),
      (∀ j oj, ops[j]? = some oj → j ≠ i → listed.getD j true = false → (∀ e ∈ oj.after, Region.binds md e = true → e.on ≠ i) → oi.apart ops oj = true) →
      i ∈ Region.ready md ops listed → Mild P ops w0 oi v a →
      (∀ u : Up W.1, wpAnyU P md ops Q w0 fuel (listed.setIfInBounds i true) (a.put oi.dst v) u.1) → wpAnyU P md ops Q w0 (fuel + 1) listed a W.1 := by
  intro fuel
  induction fuel with
  | zero =>
    intro listed a W _ hr hy H
    refine ⟨fun h => (by rw [h] at hr; cases hr), fun j hj => ?_⟩
    by_cases hji : j = i
    · subst hji; exact hy.wpOp hi W fun u => ⟨(W.trans u).2, fun u' => H (u.trans u')⟩
    · have := ready_mono hj hji
      rw [(H (Up.self _)).1] at this
      cases this
  | succ fuel ih =>
    intro listed a W hfree hr hy H
    refine ⟨fun h => (by rw [h] at hr; cases hr), fun j hj => ?_⟩
    by_cases hji : j = i
    · subst hji; exact hy.wpOp hi W fun u => ⟨(W.trans u).2, fun u' => H (u.trans u')⟩
    · have h1 := (H (Up.self _)).2 j (ready_mono hj hji)
      obtain ⟨hjun, oj, hoj, hall⟩ := mem_ready.1 hj
      have hnot : ∀ e ∈ oj.after, Region.binds md e = true → e.on ≠ i := fun e he hb heq => by
        have g1 := hall e he hb
        have g0 := (mem_ready.1 hr).1
        rw [heq] at g1
        rcases Nat.lt_or_ge i listed.size with h' | h'
        · simp [h'] at g0 g1; rw [g0] at g1; cases g1
        · simp [Array.getElem?_eq_none h'] at g1
      have h2 := wpOp_mild hoj (hfree j oj hoj hji hjun hnot) (fun cs b => hsel i oi cs b hi) (fun cs b => hsel j oj cs b hoj) hQ hy h1
      have hfree' : ∀ k ok, ops[k]? = some ok → k ≠ i → (listed.setIfInBounds j true).getD k true = false →
          (∀ e ∈ ok.after, Region.binds md e = true → e.on ≠ i) → oi.apart ops ok = true := fun k ok hk hki hun hno => by
        refine hfree k ok hk hki ?_ hno
        by_cases hjk : j = k
        · subst hjk; exact hjun
        · rw [getD_set_ne true hjk] at hun; exact hun
      refine wpOp_mono (fun a' w' h3 => ⟨h3.2.1, fun u => ?_⟩) h2
      refine ih (listed.setIfInBounds j true) a' ⟨u.1, next h3.2.1 u.2⟩ hfree' (ready_mono hr (Ne.symm hji)) h3.1 fun u' => ?_
      rw [Array.setIfInBounds_comm _ _ hji]
      exact h3.2.2 (u.trans u')

/-- The region, from here on, in every world above w0. -/
def MildOn (P : Program) (ops : Array Oper) (Q : Exit → Act → World → Prop) (w0 : World) (fuel : Nat) (listed : Array Bool) (a : Act) : Prop :=
  ∀ W : Up w0, wpAnyU P .any ops Q w0 fuel listed a W.1

theorem wp_region_mild {id : Nat} {a : Act} {w : World} {l : List Oper} (n : Nat) (hn : l.length = n) (hm : P.follows .mixedOrders = true) (h : MildOn P l.toArray Q w n (Array.replicate n false) a) : (Code.region id l.toArray true).wp P Q a w := by
  refine wp_region_any hm (wpAny_of_up (w0 := w) _ _ _ _ ?_)
  subst hn
  have := h ⟨w.drew, (Below.refl _ _).drew⟩
  simpa using this

theorem of_drop {l rest : List Oper} {oi : Oper} {i : Nat} (h : l.drop i = oi :: rest) : l.toArray[i]? = some oi := by
  have : (l.drop i)[0]? = some oi := by rw [h]; rfl
  simpa using this
theorem mild_take (i : Nat) {l rest : List Oper} {oi : Oper} {v : Value} {fuel : Nat} {listed : Array Bool} {a : Act} (hd : l.drop i = oi :: rest) (hs : Region.noSelect l.toArray = true)
    (hf : Region.free .any l.toArray listed i = true) (hr : (Region.ready .any l.toArray listed).contains i = true) (hQ : ∀ c a w, Q (.panic c) (a.put oi.dst v) w → Q (.panic c) a w)
    (hw : Region.wanted oi (yielded l.toArray a.tmps) = true) (hy : ∀ (W : Up w0) (K : Act → Prop), K (a.put oi.dst v) → oi.quiet P a (fun w' => ∃ u : Up W.1, w' = u.1) K)
    (h : MildOn P l.toArray Q w0 fuel (listed.setIfInBounds i true) (a.put oi.dst v)) : MildOn P l.toArray Q w0 (fuel + 1) listed a := fun W =>
  wpAnyU_first (of_drop hd) (Region.noSelect_spec hs) hQ fuel listed a W (Region.free_spec (of_drop hd) hf) (by simpa using hr) (.inl ⟨hw, hy⟩) fun u => h (W.trans u)
theorem mild_skip (i : Nat) {l rest : List Oper} {oi : Oper} {fuel : Nat} {listed : Array Bool} {a : Act} (hd : l.drop i = oi :: rest) (hs : Region.noSelect l.toArray = true)
    (hf : Region.free .any l.toArray listed i = true) (hr : (Region.ready .any l.toArray listed).contains i = true) (hQ : ∀ c a w, Q (.panic c) (a.put oi.dst undef) w → Q (.panic c) a w)
    (hw : Region.wanted oi (yielded l.toArray a.tmps) = false)
    (h : MildOn P l.toArray Q w0 fuel (listed.setIfInBounds i true) (a.put oi.dst undef)) : MildOn P l.toArray Q w0 (fuel + 1) listed a := fun W =>
  wpAnyU_first (of_drop hd) (Region.noSelect_spec hs) hQ fuel listed a W (Region.free_spec (of_drop hd) hf) (by simpa using hr) (.inr ⟨hw, rfl⟩) fun u => h (W.trans u)

/-- What stands behind one operation of the tail. -/
def Then (K : Act → World → Prop) (Q : Exit → Act → World → Prop) : Exit → Act → World → Prop
  | .normal, a, w => K a w
  | e, a, w => Q e a w
/-- One operation alone may come up: it is walked as a list of its own; behind it the world may grow. -/
theorem up_one (i : Nat) {oi : Oper} {fuel : Nat} {listed : Array Bool} {a : Act} {w : World} (hr : Region.ready .any ops listed = [i]) (hi : ops[i]? = some oi)
    (h : wpOp P ops Q i (fun a' w' => Below w0.heap.size w0 w' ∧ ∀ u : Up w', wpAnyU P .any ops Q w0 fuel (listed.setIfInBounds i true) a' u.1) a w) : wpAnyU P .any ops Q w0 (fuel + 1) listed a w :=
  ⟨fun h0 => (by rw [hr] at h0; cases h0), (by rw [hr]; intro j hj; rw [List.mem_singleton] at hj; subst hj; exact h)⟩
theorem up_list (i : Nat) {l rest : List Oper} {oi : Oper} {fuel : Nat} {listed : Array Bool} {a : Act} {w : World} (hr : Region.ready .any l.toArray listed = [i]) (hd : l.drop i = oi :: rest)
    (h : wpList P l.toArray (Then (fun a' w' => Below w0.heap.size w0 w' ∧ ∀ u : Up w', wpAnyU P .any l.toArray Q w0 fuel (listed.setIfInBounds i true) a' u.1) Q) [oi] a w) : wpAnyU P .any l.toArray Q w0 (fuel + 1) listed a w := by
  have hi := of_drop hd
  refine up_one i hr hi ?_
  unfold wpOp
  simp only [hi]
  unfold wpList at h
  by_cases hw : Region.wanted oi (yielded l.toArray a.tmps) = true
  · rw [if_pos hw] at h ⊢
    refine h.imp (fun h => ?_) id
    unfold Oper.wp at *
    revert h
    generalize (execOp a.eval oi).run P w = r
    intro h
    rcases r with ⟨n, w'⟩ | ⟨x, w'⟩
    · cases n with
      | enter f args =>
        exact Calls.mono h fun e w'' he => by
          cases e <;> exact he
      | _ => exact h
    · cases x <;> exact h
  · rw [if_neg hw] at h ⊢
    exact h
theorem then_mk {K : World → Act → World → Prop} {a : Act} {w : World} (h0 : Below w0.heap.size w0 w) (h : ∀ u : Up w, K u.1 a u.1) : Then (fun a' w' => Below w0.heap.size w0 w' ∧ ∀ u : Up w', K u.1 a' u.1) Q .normal a w := ⟨h0, h⟩
theorem up_done {fuel : Nat} {listed : Array Bool} {a : Act} {w : World} (hr : Region.ready .any ops listed = []) (h : Q .normal a w) : wpAnyU P .any ops Q w0 fuel listed a w := by
  cases fuel with
  | zero => exact ⟨hr, h⟩
  | succ n => exact ⟨fun _ => h, by rw [hr]; simp⟩
end
end Go.Proofs.Ytgeiagndpfdnlaa
end
section
namespace Go.Proofs.Ytgeiagndpfdnlaa
open Go.RowKit
set_option linter.unusedVariables false
set_option maxRecDepth 20000

/-- A setup, as a value. -/
@[reducible] def setup (n l k s y o i : Int) (t wh ki ad va : Value) : Value := .agg #[.int .i64 n, .int .i64 l, .int .i64 k, .int .i64 s, .int .i64 y, .int .i64 o, .int .i64 i, t, wh, ki, ad, va]
/-- One more than the remainder. -/
def nd (x : Int) (m : Nat) : Nat := (1 + x % (m : Int)).toNat
theorem nd_lo (x : Int) (m : Nat) : 1 ≤ nd x m ∨ m = 0 := by
  by_cases h : m = 0
  · exact .inr h
  · left; have := Int.emod_nonneg x (b := (m : Int)) (by omega); unfold nd; omega
theorem nd_hi (x : Int) (m : Nat) (h : 0 < m) : nd x m ≤ m := by
  have := Int.emod_lt_of_pos x (b := (m : Int)) (by omega); unfold nd; omega
theorem nd_cast (x : Int) (m : Nat) (h : 0 < m) : (nd x m : Int) = 1 + x % (m : Int) := by
  have := Int.emod_nonneg x (b := (m : Int)) (by omega); unfold nd; omega

set_option maxHeartbeats 1000000 in
theorem config_any (n l k s y o i : Int) (a : Option Addr) (len cap : Nat) (wh ki ad va : Value) (z : List Int) (w : World) (hsl : Sl w a len cap z) :
    Calls Try.prog 7 #[setup n l k s y o i (.slice a len cap) wh ki ad va] w fun e w' => ∃ v, e = .returned (cfg (nd n 4) (nd l 4) (nd k 2) (nd s 2) (nd y 2) (nd o 3) (nd i 3) v) ∧ Own w' w.heap.size v (z.take (nd l 4 * nd k 2)) ∧ Below w.heap.size w w' := by
  unfold setup cfg
  have n0 : 0 ≤ n % 4 := Int.emod_nonneg _ (by omega)
  have n1 : n % 4 < 4 := Int.emod_lt_of_pos _ (by omega)
  have l0 : 0 ≤ l % 4 := Int.emod_nonneg _ (by omega)
  have l1 : l % 4 < 4 := Int.emod_lt_of_pos _ (by omega)
  have k0 : 0 ≤ k % 2 := Int.emod_nonneg _ (by omega)
  have k1 : k % 2 < 2 := Int.emod_lt_of_pos _ (by omega)
  have s0 : 0 ≤ s % 2 := Int.emod_nonneg _ (by omega)
  have s1 : s % 2 < 2 := Int.emod_lt_of_pos _ (by omega)
  have y0 : 0 ≤ y % 2 := Int.emod_nonneg _ (by omega)
  have y1 : y % 2 < 2 := Int.emod_lt_of_pos _ (by omega)
  have o0 : 0 ≤ o % 3 := Int.emod_nonneg _ (by omega)
  have o1 : o % 3 < 3 := Int.emod_lt_of_pos _ (by omega)
  have i0 : 0 ≤ i % 3 := Int.emod_nonneg _ (by omega)
  have i1 : i % 3 < 3 := Int.emod_lt_of_pos _ (by omega)
  go_enter Try.func7, Try.ntmps7
  go_wp2_with fail
  have uc := @Up.cell2
  have uf := @Up.frozen2
  refine wp_region_mild 31 rfl (by kernel_rfl) ?_
  refine mild_take (v := ?v1) 0 rfl (by kernel_rfl) (by kernel_rfl) (by kernel_rfl) (fun _ _ _ h => h) (by kernel_rfl) (fun W K hK => ?hy1) ?go1
  case hy1 =>
    go_big_quiet_op
    simp only [Act.put, List.setIfInBounds_toArray, List.set_cons_zero, List.set_cons_succ] at hK
    exact hK
  simp only [Act.put, List.setIfInBounds_toArray, List.set_cons_zero, List.set_cons_succ]
  refine mild_take (v := ?v2) 1 rfl (by kernel_rfl) (by kernel_rfl) (by kernel_rfl) (fun _ _ _ h => h) (by kernel_rfl) (fun W K hK => ?hy2) ?go2
  case hy2 =>
    go_big_quiet_op
    simp only [Act.put, List.setIfInBounds_toArray, List.set_cons_zero, List.set_cons_succ] at hK
    exact hK
  simp only [Act.put, List.setIfInBounds_toArray, List.set_cons_zero, List.set_cons_succ]
  refine mild_take (v := ?v3) 2 rfl (by kernel_rfl) (by kernel_rfl) (by kernel_rfl) (fun _ _ _ h => h) (by kernel_rfl) (fun W K hK => ?hy3) ?go3
  case hy3 =>
    go_big_quiet_op
    simp only [Act.put, List.setIfInBounds_toArray, List.set_cons_zero, List.set_cons_succ] at hK
    refine ⟨_, fun u => Calls.up_same (within_any _ _ _ (by omega) (by omega)), ?_⟩
    exact hK
  simp only [Act.put, List.setIfInBounds_toArray, List.set_cons_zero, List.set_cons_succ]
  refine mild_take (v := ?v4) 3 rfl (by kernel_rfl) (by kernel_rfl) (by kernel_rfl) (fun _ _ _ h => h) (by kernel_rfl) (fun W K hK => ?hy4) ?go4
  case hy4 =>
    go_big_quiet_op
    simp only [Act.put, List.setIfInBounds_toArray, List.set_cons_zero, List.set_cons_succ] at hK
    exact hK
  simp only [Act.put, List.setIfInBounds_toArray, List.set_cons_zero, List.set_cons_succ]
  refine mild_take (v := ?v5) 4 rfl (by kernel_rfl) (by kernel_rfl) (by kernel_rfl) (fun _ _ _ h => h) (by kernel_rfl) (fun W K hK => ?hy5) ?go5
  case hy5 =>
    go_big_quiet_op
    simp only [Act.put, List.setIfInBounds_toArray, List.set_cons_zero, List.set_cons_succ] at hK
    exact hK
  simp only [Act.put, List.setIfInBounds_toArray, List.set_cons_zero, List.set_cons_succ]
  refine mild_take (v := ?v6) 5 rfl (by kernel_rfl) (by kernel_rfl) (by kernel_rfl) (fun _ _ _ h => h) (by kernel_rfl) (fun W K hK => ?hy6) ?go6
  case hy6 =>
    go_big_quiet_op
    simp only [Act.put, List.setIfInBounds_toArray, List.set_cons_zero, List.set_cons_succ] at hK
    exact hK
  simp only [Act.put, List.setIfInBounds_toArray, List.set_cons_zero, List.set_cons_succ]
  refine mild_take (v := ?v7) 6 rfl (by kernel_rfl) (by kernel_rfl) (by kernel_rfl) (fun _ _ _ h => h) (by kernel_rfl) (fun W K hK => ?hy7) ?go7
  case hy7 =>
    go_big_quiet_op
    simp only [Act.put, List.setIfInBounds_toArray, List.set_cons_zero, List.set_cons_succ] at hK
    refine ⟨_, fun u => Calls.up_same (within_any _ _ _ (by omega) (by omega)), ?_⟩
    exact hK
  simp only [Act.put, List.setIfInBounds_toArray, List.set_cons_zero, List.set_cons_succ]
  refine mild_take (v := ?v8) 7 rfl (by kernel_rfl) (by kernel_rfl) (by kernel_rfl) (fun _ _ _ h => h) (by kernel_rfl) (fun W K hK => ?hy8) ?go8
  case hy8 =>
    go_big_quiet_op
    simp only [Act.put, List.setIfInBounds_toArray, List.set_cons_zero, List.set_cons_succ] at hK
    exact hK
  simp only [Act.put, List.setIfInBounds_toArray, List.set_cons_zero, List.set_cons_succ]
  refine mild_take (v := ?v9) 8 rfl (by kernel_rfl) (by kernel_rfl) (by kernel_rfl) (fun _ _ _ h => h) (by kernel_rfl) (fun W K hK => ?hy9) ?go9
  case hy9 =>
    go_big_quiet_op
    simp only [Act.put, List.setIfInBounds_toArray, List.set_cons_zero, List.set_cons_succ] at hK
    exact hK
  simp only [Act.put, List.setIfInBounds_toArray, List.set_cons_zero, List.set_cons_succ]
  refine mild_take (v := ?v10) 9 rfl (by kernel_rfl) (by kernel_rfl) (by kernel_rfl) (fun _ _ _ h => h) (by kernel_rfl) (fun W K hK => ?hy10) ?go10
  case hy10 =>
    go_big_quiet_op
    simp only [Act.put, List.setIfInBounds_toArray, List.set_cons_zero, List.set_cons_succ] at hK
    exact hK
  simp only [Act.put, List.setIfInBounds_toArray, List.set_cons_zero, List.set_cons_succ]
  refine mild_take (v := ?v11) 10 rfl (by kernel_rfl) (by kernel_rfl) (by kernel_rfl) (fun _ _ _ h => h) (by kernel_rfl) (fun W K hK => ?hy11) ?go11
  case hy11 =>
    go_big_quiet_op
    simp only [Act.put, List.setIfInBounds_toArray, List.set_cons_zero, List.set_cons_succ] at hK
    refine ⟨_, fun u => Calls.up_same (within_any _ _ _ (by omega) (by omega)), ?_⟩
    exact hK
  simp only [Act.put, List.setIfInBounds_toArray, List.set_cons_zero, List.set_cons_succ]
  refine mild_take (v := ?v12) 11 rfl (by kernel_rfl) (by kernel_rfl) (by kernel_rfl) (fun _ _ _ h => h) (by kernel_rfl) (fun W K hK => ?hy12) ?go12
  case hy12 =>
    go_big_quiet_op
    simp only [Act.put, List.setIfInBounds_toArray, List.set_cons_zero, List.set_cons_succ] at hK
    exact hK
  simp only [Act.put, List.setIfInBounds_toArray, List.set_cons_zero, List.set_cons_succ]
  refine mild_take (v := ?v13) 12 rfl (by kernel_rfl) (by kernel_rfl) (by kernel_rfl) (fun _ _ _ h => h) (by kernel_rfl) (fun W K hK => ?hy13) ?go13
  case hy13 =>
    go_big_quiet_op
    simp only [Act.put, List.setIfInBounds_toArray, List.set_cons_zero, List.set_cons_succ] at hK
    exact hK
  simp only [Act.put, List.setIfInBounds_toArray, List.set_cons_zero, List.set_cons_succ]
  refine mild_take (v := ?v14) 13 rfl (by kernel_rfl) (by kernel_rfl) (by kernel_rfl) (fun _ _ _ h => h) (by kernel_rfl) (fun W K hK => ?hy14) ?go14
  case hy14 =>
    go_big_quiet_op
    simp only [Act.put, List.setIfInBounds_toArray, List.set_cons_zero, List.set_cons_succ] at hK
    exact hK
  simp only [Act.put, List.setIfInBounds_toArray, List.set_cons_zero, List.set_cons_succ]
  refine mild_take (v := ?v15) 14 rfl (by kernel_rfl) (by kernel_rfl) (by kernel_rfl) (fun _ _ _ h => h) (by kernel_rfl) (fun W K hK => ?hy15) ?go15
  case hy15 =>
    go_big_quiet_op
    simp only [Act.put, List.setIfInBounds_toArray, List.set_cons_zero, List.set_cons_succ] at hK
    refine ⟨_, fun u => Calls.up_same (within_any _ _ _ (by omega) (by omega)), ?_⟩
    exact hK
  simp only [Act.put, List.setIfInBounds_toArray, List.set_cons_zero, List.set_cons_succ]
  refine mild_take (v := ?v16) 15 rfl (by kernel_rfl) (by kernel_rfl) (by kernel_rfl) (fun _ _ _ h => h) (by kernel_rfl) (fun W K hK => ?hy16) ?go16
  case hy16 =>
    go_big_quiet_op
    simp only [Act.put, List.setIfInBounds_toArray, List.set_cons_zero, List.set_cons_succ] at hK
    exact hK
  simp only [Act.put, List.setIfInBounds_toArray, List.set_cons_zero, List.set_cons_succ]
  refine mild_take (v := ?v17) 16 rfl (by kernel_rfl) (by kernel_rfl) (by kernel_rfl) (fun _ _ _ h => h) (by kernel_rfl) (fun W K hK => ?hy17) ?go17
  case hy17 =>
    go_big_quiet_op
    simp only [Act.put, List.setIfInBounds_toArray, List.set_cons_zero, List.set_cons_succ] at hK
    exact hK
  simp only [Act.put, List.setIfInBounds_toArray, List.set_cons_zero, List.set_cons_succ]
  refine mild_take (v := ?v18) 17 rfl (by kernel_rfl) (by kernel_rfl) (by kernel_rfl) (fun _ _ _ h => h) (by kernel_rfl) (fun W K hK => ?hy18) ?go18
  case hy18 =>
    go_big_quiet_op
    simp only [Act.put, List.setIfInBounds_toArray, List.set_cons_zero, List.set_cons_succ] at hK
    exact hK
  simp only [Act.put, List.setIfInBounds_toArray, List.set_cons_zero, List.set_cons_succ]
  refine mild_take (v := ?v19) 18 rfl (by kernel_rfl) (by kernel_rfl) (by kernel_rfl) (fun _ _ _ h => h) (by kernel_rfl) (fun W K hK => ?hy19) ?go19
  case hy19 =>
    go_big_quiet_op
    simp only [Act.put, List.setIfInBounds_toArray, List.set_cons_zero, List.set_cons_succ] at hK
    refine ⟨_, fun u => Calls.up_same (within_any _ _ _ (by omega) (by omega)), ?_⟩
    exact hK
  simp only [Act.put, List.setIfInBounds_toArray, List.set_cons_zero, List.set_cons_succ]
  refine mild_take (v := ?v20) 19 rfl (by kernel_rfl) (by kernel_rfl) (by kernel_rfl) (fun _ _ _ h => h) (by kernel_rfl) (fun W K hK => ?hy20) ?go20
  case hy20 =>
    go_big_quiet_op
    simp only [Act.put, List.setIfInBounds_toArray, List.set_cons_zero, List.set_cons_succ] at hK
    exact hK
  simp only [Act.put, List.setIfInBounds_toArray, List.set_cons_zero, List.set_cons_succ]
  refine mild_take (v := ?v21) 20 rfl (by kernel_rfl) (by kernel_rfl) (by kernel_rfl) (fun _ _ _ h => h) (by kernel_rfl) (fun W K hK => ?hy21) ?go21
  case hy21 =>
    go_big_quiet_op
    simp only [Act.put, List.setIfInBounds_toArray, List.set_cons_zero, List.set_cons_succ] at hK
    exact hK
  simp only [Act.put, List.setIfInBounds_toArray, List.set_cons_zero, List.set_cons_succ]
  refine mild_take (v := ?v22) 21 rfl (by kernel_rfl) (by kernel_rfl) (by kernel_rfl) (fun _ _ _ h => h) (by kernel_rfl) (fun W K hK => ?hy22) ?go22
  case hy22 =>
    go_big_quiet_op
    simp only [Act.put, List.setIfInBounds_toArray, List.set_cons_zero, List.set_cons_succ] at hK
    exact hK
  simp only [Act.put, List.setIfInBounds_toArray, List.set_cons_zero, List.set_cons_succ]
  refine mild_take (v := ?v23) 22 rfl (by kernel_rfl) (by kernel_rfl) (by kernel_rfl) (fun _ _ _ h => h) (by kernel_rfl) (fun W K hK => ?hy23) ?go23
  case hy23 =>
    go_big_quiet_op
    simp only [Act.put, List.setIfInBounds_toArray, List.set_cons_zero, List.set_cons_succ] at hK
    refine ⟨_, fun u => Calls.up_same (within_any _ _ _ (by omega) (by omega)), ?_⟩
    exact hK
  simp only [Act.put, List.setIfInBounds_toArray, List.set_cons_zero, List.set_cons_succ]
  refine mild_take (v := ?v24) 23 rfl (by kernel_rfl) (by kernel_rfl) (by kernel_rfl) (fun _ _ _ h => h) (by kernel_rfl) (fun W K hK => ?hy24) ?go24
  case hy24 =>
    go_big_quiet_op
    simp only [Act.put, List.setIfInBounds_toArray, List.set_cons_zero, List.set_cons_succ] at hK
    exact hK
  simp only [Act.put, List.setIfInBounds_toArray, List.set_cons_zero, List.set_cons_succ]
  refine mild_take (v := ?v25) 24 rfl (by kernel_rfl) (by kernel_rfl) (by kernel_rfl) (fun _ _ _ h => h) (by kernel_rfl) (fun W K hK => ?hy25) ?go25
  case hy25 =>
    go_big_quiet_op
    simp only [Act.put, List.setIfInBounds_toArray, List.set_cons_zero, List.set_cons_succ] at hK
    exact hK
  simp only [Act.put, List.setIfInBounds_toArray, List.set_cons_zero, List.set_cons_succ]
  refine mild_take (v := ?v26) 25 rfl (by kernel_rfl) (by kernel_rfl) (by kernel_rfl) (fun _ _ _ h => h) (by kernel_rfl) (fun W K hK => ?hy26) ?go26
  case hy26 =>
    go_big_quiet_op
    simp only [Act.put, List.setIfInBounds_toArray, List.set_cons_zero, List.set_cons_succ] at hK
    exact hK
  simp only [Act.put, List.setIfInBounds_toArray, List.set_cons_zero, List.set_cons_succ]
  refine mild_take (v := ?v27) 26 rfl (by kernel_rfl) (by kernel_rfl) (by kernel_rfl) (fun _ _ _ h => h) (by kernel_rfl) (fun W K hK => ?hy27) ?go27
  case hy27 =>
    go_big_quiet_op
    simp only [Act.put, List.setIfInBounds_toArray, List.set_cons_zero, List.set_cons_succ] at hK
    refine ⟨_, fun u => Calls.up_same (within_any _ _ _ (by omega) (by omega)), ?_⟩
    exact hK
  simp only [Act.put, List.setIfInBounds_toArray, List.set_cons_zero, List.set_cons_succ]
  refine mild_take (v := ?v28) 27 rfl (by kernel_rfl) (by kernel_rfl) (by kernel_rfl) (fun _ _ _ h => h) (by kernel_rfl) (fun W K hK => ?hy28) ?go28
  case hy28 =>
    go_big_quiet_op
    simp only [Act.put, List.setIfInBounds_toArray, List.set_cons_zero, List.set_cons_succ] at hK
    exact hK
  simp only [Act.put, List.setIfInBounds_toArray, List.set_cons_zero, List.set_cons_succ]
  refine mild_take (v := ?v29) 28 rfl (by kernel_rfl) (by kernel_rfl) (by kernel_rfl) (fun _ _ _ h => h) (by kernel_rfl) (fun W K hK => ?hy29) ?go29
  case hy29 =>
    go_big_quiet_op
    simp only [Act.put, List.setIfInBounds_toArray, List.set_cons_zero, List.set_cons_succ] at hK
    exact hK
  simp only [Act.put, List.setIfInBounds_toArray, List.set_cons_zero, List.set_cons_succ]
  intro W
  clear uc uf
  obtain ⟨hc, hf⟩ := bcell W.2
  refine up_list 29 (by kernel_rfl) rfl ?_
  go_wp2
  refine ⟨ba W.2, fun u => ?_⟩
  have hbu := u.2
  obtain ⟨hc2, hf2⟩ := bcell hbu
  refine up_list 30 (by kernel_rfl) rfl ?_
  go_wp2
  have e1 : w.heap.size < W.1.heap.size := by have := W.2.size; simp at this; omega
  have e2 : w.heap.size + 1 < W.1.heap.size := by have := W.2.size; simp at this; omega
  have e3 : W.1.heap.size < u.1.heap.size := by have := hbu.size; simp at this; omega
  have hw : Below w.heap.size w u.1 := next (next (ba (ba (Below.refl _ _))) W.2) (next (ba (Below.refl _ _)) hbu)
  refine ⟨?_, fun u2 => ?_⟩
  · repeat (refine Below.setCell ?_ (by have := W.2.size; simpa using this) _)
    exact next (ba W.2) hbu
  have hb3 := u2.2
  have x1 : w.heap.size < u.1.heap.size := by omega
  have x2 : w.heap.size + 1 < u.1.heap.size := by omega
  have hbw : Below w.heap.size w u2.1 := by
    refine Below.trans ?_ (hb3.mono (by simp; omega))
    repeat (refine Below.setCell ?_ (by simp <;> omega) _)
    exact hw
  refine up_done (by kernel_rfl) ?_
  obtain ⟨hc3, hf3⟩ := bcell hb3
  have n1 : w.heap.size ≠ W.1.heap.size := by omega
  have n2 : w.heap.size + 1 ≠ W.1.heap.size := by omega
  have far : ∀ b o, b < W.1.heap.size → u2.1.cell? ⟨b, o, none⟩ = W.1.cell? ⟨b, o, none⟩ := by
    intro b o hb
    rw [hc3 _ _ (by simp; omega)]
    repeat rw [cell_far _ _ (by simp; omega)]
    rw [hc2 _ _ (by simp; omega)]
    apply World.cell?_alloc_lt; exact hb
  have near : ∀ j v, (#[.int .i64 (1 + n % 4), .int .i64 (1 + l % 4), .int .i64 (1 + k % 2), .int .i64 (1 + s % 2), .int .i64 (1 + y % 2), .int .i64 (1 + o % 3), .int .i64 (1 + i % 3), .slice none 0 0] : Array Value)[j]? = some v → u2.1.cell? ⟨W.1.heap.size, j, none⟩ = some v := by
    intro j v hv
    rw [hc3 _ _ (by simpa using e3)]
    have hj : j < 8 := by have := (Array.getElem?_eq_some_iff.1 hv).1; simpa using this
    match j, hj, hv with
    | 0, _, hv | 1, _, hv | 2, _, hv | 3, _, hv | 4, _, hv | 5, _, hv | 6, _, hv | 7, _, hv =>
      simp at hv
      subst hv
      go_simp
  have fz : ∀ b o, b < u.1.heap.size → u2.1.frozen? ⟨b, o, none⟩ = u.1.frozen? ⟨b, o, none⟩ := by
    intro b o hb
    rw [hf3 _ _ (by simpa using hb)]
    simp
  have hn : ((nd n 4 : Nat) : Int) = 1 + n % 4 := nd_cast n 4 (by decide)
  have c0 : u2.1.cell? ⟨W.1.heap.size, 0, none⟩ = some (.int .i64 ((nd n 4 : Nat) : Int)) := by rw [hn]; exact near 0 _ rfl
  have hl : ((nd l 4 : Nat) : Int) = 1 + l % 4 := nd_cast l 4 (by decide)
  have c1 : u2.1.cell? ⟨W.1.heap.size, 1, none⟩ = some (.int .i64 ((nd l 4 : Nat) : Int)) := by rw [hl]; exact near 1 _ rfl
  have hk : ((nd k 2 : Nat) : Int) = 1 + k % 2 := nd_cast k 2 (by decide)
  have c2 : u2.1.cell? ⟨W.1.heap.size, 2, none⟩ = some (.int .i64 ((nd k 2 : Nat) : Int)) := by rw [hk]; exact near 2 _ rfl
  have hs : ((nd s 2 : Nat) : Int) = 1 + s % 2 := nd_cast s 2 (by decide)
  have c3 : u2.1.cell? ⟨W.1.heap.size, 3, none⟩ = some (.int .i64 ((nd s 2 : Nat) : Int)) := by rw [hs]; exact near 3 _ rfl
  have hy : ((nd y 2 : Nat) : Int) = 1 + y % 2 := nd_cast y 2 (by decide)
  have c4 : u2.1.cell? ⟨W.1.heap.size, 4, none⟩ = some (.int .i64 ((nd y 2 : Nat) : Int)) := by rw [hy]; exact near 4 _ rfl
  have ho : ((nd o 3 : Nat) : Int) = 1 + o % 3 := nd_cast o 3 (by decide)
  have c5 : u2.1.cell? ⟨W.1.heap.size, 5, none⟩ = some (.int .i64 ((nd o 3 : Nat) : Int)) := by rw [ho]; exact near 5 _ rfl
  have hi : ((nd i 3 : Nat) : Int) = 1 + i % 3 := nd_cast i 3 (by decide)
  have c6 : u2.1.cell? ⟨W.1.heap.size, 6, none⟩ = some (.int .i64 ((nd i 3 : Nat) : Int)) := by rw [hi]; exact near 6 _ rfl
  have c7 : u2.1.cell? ⟨W.1.heap.size, 7, none⟩ = some (.slice none 0 0) := near 7 _ rfl
  have cf : ∀ j, u2.1.frozen? ⟨W.1.heap.size, j, none⟩ = false := by
    intro j
    rw [fz _ _ e3, hf2 _ _ (by simp)]
    go_simp
  have s7 : u2.1.cell? ⟨w.heap.size, 7, none⟩ = some (.slice a len cap) := by
    rw [far _ _ e1, hc _ _ (by simp; omega)]
    go_simp
  have r0 : u2.1.cell? ⟨w.heap.size + 1, 0, none⟩ = some (.int .i64 0) := by
    rw [far _ _ e2, hc _ _ (by simp)]
    go_simp
  have r1 : u2.1.cell? ⟨w.heap.size + 1, 1, none⟩ = some (.int .i64 0) := by
    rw [far _ _ e2, hc _ _ (by simp)]
    go_simp
  have r2 : u2.1.cell? ⟨w.heap.size + 1, 2, none⟩ = some (.int .i64 0) := by
    rw [far _ _ e2, hc _ _ (by simp)]
    go_simp
  have r3 : u2.1.cell? ⟨w.heap.size + 1, 3, none⟩ = some (.int .i64 0) := by
    rw [far _ _ e2, hc _ _ (by simp)]
    go_simp
  have r4 : u2.1.cell? ⟨w.heap.size + 1, 4, none⟩ = some (.int .i64 0) := by
    rw [far _ _ e2, hc _ _ (by simp)]
    go_simp
  have r5 : u2.1.cell? ⟨w.heap.size + 1, 5, none⟩ = some (.int .i64 0) := by
    rw [far _ _ e2, hc _ _ (by simp)]
    go_simp
  have r6 : u2.1.cell? ⟨w.heap.size + 1, 6, none⟩ = some (.int .i64 0) := by
    rw [far _ _ e2, hc _ _ (by simp)]
    go_simp
  have r7 : u2.1.cell? ⟨w.heap.size + 1, 7, none⟩ = some (.slice none 0 0) := by
    rw [far _ _ e2, hc _ _ (by simp)]
    go_simp
  have rf : ∀ j, u2.1.frozen? ⟨w.heap.size + 1, j, none⟩ = false := by
    intro j
    rw [fz _ _ x2, hf2 _ _ (by simp; omega)]
    go_simp
  have z3 : W.1.heap.size < u2.1.heap.size := by have := hb3.size; simp at this; omega
  have l2 := nd_lo l 4
  have l3 := nd_hi l 4 (by decide)
  have k2 := nd_lo k 2
  have k3 := nd_hi k 2 (by decide)
  have z4 : w.heap.size < u2.1.heap.size := by omega
  have z5 : w.heap.size + 1 < u2.1.heap.size := by omega
  clear near far fz hc3 hf3 hc2 hf2 hc hf hb3 x1 x2 e3 hbu hn hl hk hs hy ho hi hw
  generalize W.1.heap.size = g at *
  generalize u2.1 = w3 at *
  clear u2 u W
  generalize GN : nd n 4 = N at *
  have HN : Hid (nd n 4 = N) := GN
  clear GN
  generalize GL : nd l 4 = L at *
  have HL : Hid (nd l 4 = L) := GL
  clear GL
  generalize GK : nd k 2 = K at *
  have HK : Hid (nd k 2 = K) := GK
  clear GK
  generalize GS : nd s 2 = S at *
  have HS : Hid (nd s 2 = S) := GS
  clear GS
  generalize GY : nd y 2 = Y at *
  have HY : Hid (nd y 2 = Y) := GY
  clear GY
  generalize GO : nd o 3 = O at *
  have HO : Hid (nd o 3 = O) := GO
  clear GO
  generalize GI : nd i 3 = I at *
  have HI : Hid (nd i 3 = I) := GI
  clear GI
  have p1 : (0 : Int) ≤ (L : Int) * (K : Int) := Int.mul_nonneg (by omega) (by omega)
  have p2 : (L : Int) * (K : Int) ≤ 8 := by have := Int.mul_le_mul (show (L : Int) ≤ 4 by omega) (show (K : Int) ≤ 2 by omega) (by omega) (by omega); simpa using this
  have p3 : L * K ≤ 8 := by have := Nat.mul_le_mul (show L ≤ 4 by omega) (show K ≤ 2 by omega); simpa using this
  go_wp2_with (go_at_call 21; refine (cut_x a z len cap (L * K) _ _ (hsl.below hbw) (by omega) (Int.natCast_mul L K).symm).mono ?_; rintro e w4 ⟨v, rfl, hown, hb4⟩; obtain ⟨hc4, hf4⟩ := bcell hb4; obtain ⟨av, cv, ev, hslv⟩ := hown.sl; subst ev)
  rw [List.length_take] at hown
  have q1 : g < w4.heap.size := by have := hb4.size; omega
  have q2 : w.heap.size + 1 < w4.heap.size := by have := hb4.size; omega
  refine bodyPost_ret (v := .agg #[.int .i64 N, .int .i64 L, .int .i64 K, .int .i64 S, .int .i64 Y, .int .i64 O, .int .i64 I, .slice av (min (L * K) z.length) cv]) (by simp [results, Try.results7, go_sem, *]) rfl ⟨_, by rw [HN.out, HL.out, HK.out, HS.out, HY.out, HO.out, HI.out], ?_, ?_⟩
  · refine Own.low ?_ (show w.heap.size ≤ w3.heap.size by omega)
    repeat (refine Own.set ?_ (by simp <;> omega) _)
    rw [HL.out, HK.out]
    exact hown
  · repeat (refine Below.setCell ?_ (by simp <;> omega) _)
    exact next hbw hb4
end Go.Proofs.Ytgeiagndpfdnlaa
end
section
namespace Go.Proofs.Ytgeiagndpfdnlaa
open Go.ChangeShapes Go.WideShapes Go.ChangeAt Go.RowKit Go.Joins
set_option linter.unusedVariables false
set_option maxRecDepth 20000

/-- A setup that came in. -/
def IsSetup (w : World) (v : Value) : Prop :=
  ∃ (n l k s y o i : Int) (a0 : Option Addr) (n0 c0 : Nat) (z0 : List Int) (a1 : Option Addr) (n1 c1 : Nat) (z1 : List Int) (a2 : Option Addr) (n2 c2 : Nat) (z2 : List Int) (a3 : Option Addr) (n3 c3 : Nat) (z3 : List Int) (a4 : Option Addr) (n4 c4 : Nat) (z4 : List Int),
    v = setup n l k s y o i (.slice a0 n0 c0) (.slice a1 n1 c1) (.slice a2 n2 c2) (.slice a3 n3 c3) (.slice a4 n4 c4) ∧ Sl w a0 n0 c0 z0 ∧ Sl w a1 n1 c1 z1 ∧ Sl w a2 n2 c2 z2 ∧ Sl w a3 n3 c3 z3 ∧ Sl w a4 n4 c4 z4

theorem array12 {α : Type} {cs : Array α} (h : cs.size = 12) : ∃ c0 c1 c2 c3 c4 c5 c6 c7 c8 c9 c10 c11, cs = #[c0, c1, c2, c3, c4, c5, c6, c7, c8, c9, c10, c11] := by
  obtain ⟨l⟩ := cs
  match l, h with
  | [c0, c1, c2, c3, c4, c5, c6, c7, c8, c9, c10, c11], _ => exact ⟨c0, c1, c2, c3, c4, c5, c6, c7, c8, c9, c10, c11, rfl⟩
theorem setup_of {H : Type} {enc : TypeId × Value → H} {w : World} {base b0 : Nat} {held : Bool} {r : Reach} {v : Value} {d : DataW H} {p : List MemPlace}
    (hv : Value.okWide Try.prog w r b0 24 v) (h : DataW.Trod enc Try.prog w base (fun _ => true) held 24 v d p) : IsSetup w v := by
  obtain ⟨cs, rfl, hsz, hf⟩ := agg_cells Try.underlying24 (by kernel_rfl) (by kernel_rfl) hv h
  obtain ⟨c0, c1, c2, c3, c4, c5, c6, c7, c8, c9, c10, c11, rfl⟩ := array12 hsz
  obtain ⟨_, _, _, e0, t0⟩ := hf 0 _ rfl
  obtain ⟨_, _, _, e1, t1⟩ := hf 1 _ rfl
  obtain ⟨_, _, _, e2, t2⟩ := hf 2 _ rfl
  obtain ⟨_, _, _, e3, t3⟩ := hf 3 _ rfl
  obtain ⟨_, _, _, e4, t4⟩ := hf 4 _ rfl
  obtain ⟨_, _, _, e5, t5⟩ := hf 5 _ rfl
  obtain ⟨_, _, _, e6, t6⟩ := hf 6 _ rfl
  obtain ⟨_, _, _, e7, t7⟩ := hf 7 _ rfl
  obtain ⟨_, _, _, e8, t8⟩ := hf 8 _ rfl
  obtain ⟨_, _, _, e9, t9⟩ := hf 9 _ rfl
  obtain ⟨_, _, _, e10, t10⟩ := hf 10 _ rfl
  obtain ⟨_, _, _, e11, t11⟩ := hf 11 _ rfl
  simp at e0 e1 e2 e3 e4 e5 e6 e7 e8 e9 e10 e11
  subst e0 e1 e2 e3 e4 e5 e6 e7 e8 e9 e10 e11
  obtain ⟨x0, rfl⟩ := int_cell t0
  obtain ⟨x1, rfl⟩ := int_cell t1
  obtain ⟨x2, rfl⟩ := int_cell t2
  obtain ⟨x3, rfl⟩ := int_cell t3
  obtain ⟨x4, rfl⟩ := int_cell t4
  obtain ⟨x5, rfl⟩ := int_cell t5
  obtain ⟨x6, rfl⟩ := int_cell t6
  obtain ⟨a7, l7, p7, z7, rfl, s7, _⟩ := ints_cell t7
  obtain ⟨a8, l8, p8, z8, rfl, s8, _⟩ := ints_cell t8
  obtain ⟨a9, l9, p9, z9, rfl, s9, _⟩ := ints_cell t9
  obtain ⟨a10, l10, p10, z10, rfl, s10, _⟩ := ints_cell t10
  obtain ⟨a11, l11, p11, z11, rfl, s11, _⟩ := ints_cell t11
  exact ⟨x0, x1, x2, x3, x4, x5, x6, a7, l7, p7, z7, a8, l8, p8, z8, a9, l9, p9, z9, a10, l10, p10, z10, a11, l11, p11, z11, rfl, s7, s8, s9, s10, s11⟩
end Go.Proofs.Ytgeiagndpfdnlaa
end
section
namespace Go.Proofs.Ytgeiagndpfdnlaa.B
open Go.RowKit

/-! ### as the walk spells it -/
def stepI (s d : Int) : Int := if bits .xor .u16 (s / 32768) d == 1 then bits .xor .u16 (IntKind.u16.wrap (s * 2)) 4129 else IntKind.u16.wrap (s * 2)
theorem stepI_t {s d : Int} (h : (bits .xor .u16 (s / 32768) d == 1) = true) : stepI s d = bits .xor .u16 (IntKind.u16.wrap (s * 2)) 4129 := by unfold stepI; rw [h]; rfl
theorem stepI_f {s d : Int} (h : (bits .xor .u16 (s / 32768) d == 1) = false) : stepI s d = IntKind.u16.wrap (s * 2) := by unfold stepI; rw [h]; rfl
def digI (x : Int) (k : Nat) : Int := bits .and .u16 (IntKind.u16.wrap (x / 2 ^ (7 - k))) 1
def goI (s x : Int) (k : Nat) : Int := (List.range k).foldl (fun s j => stepI s (digI x j)) s
def byteI (s x : Int) : Int := goI s x 8
def sumI (l : List Int) : Int := l.foldl byteI 65535
/-- Bytes. -/
def B8 (l : List Int) : Prop := ∀ x ∈ l, 0 ≤ x ∧ x < 256

theorem goI_zero (s x : Int) : goI s x 0 = s := rfl
theorem goI_succ (s x : Int) (k : Nat) : goI s x (k + 1) = stepI (goI s x k) (digI x k) := by
  unfold goI; rw [List.range_succ, List.foldl_append]; rfl
theorem sumI_snoc (l : List Int) (x : Int) : sumI (l ++ [x]) = byteI (sumI l) x := by unfold sumI; rw [List.foldl_append]; rfl
theorem sumI_take (l : List Int) (k : Nat) (h : k < l.length) : sumI (l.take (k + 1)) = byteI (sumI (l.take k)) (l[k]?.getD 0) := by
  rw [List.take_succ_eq_append_getElem h, sumI_snoc]; simp [h]

/-! ### the same over BitVec -/
def stepD (s : BitVec 16) (d : Bool) : BitVec 16 := if (s.msb ^^ d) then (s <<< 1) ^^^ 4129#16 else s <<< 1
def digitsD (x : BitVec 8) : List Bool := (List.range 8).map x.getMsbD
def runD (s : BitVec 16) (ds : List Bool) : BitVec 16 := ds.foldl stepD s

theorem bitI (d : Bool) : (cond d 1 0 : Int) = ((cond d 1 0 : Nat) : Int) := by cases d <;> rfl
theorem stepI_eq (s : BitVec 16) (d : Bool) : stepI (s.toNat : Int) (cond d 1 0) = ((stepD s d).toNat : Int) := by
  have hs := s.isLt
  have e1 : ((s.toNat : Int) / 32768) = ((s.toNat / 32768 : Nat) : Int) := by omega
  have e2 : IntKind.u16.wrap ((s.toNat : Int) * 2) = ((s.toNat * 2 % 65536 : Nat) : Int) := by rw [IntKind.wrap_u16]; omega
  have hd : (cond d 1 0 : Nat) < 65536 := by cases d <;> decide
  have e3 : bits .xor .u16 ((s.toNat : Int) / 32768) (cond d 1 0) = ((s.toNat / 32768 ^^^ cond d 1 0 : Nat) : Int) := by
    rw [e1, bitI]; exact u16_xor_nat _ _ (by omega) hd
  have e4 : bits .xor .u16 ((s.toNat * 2 % 65536 : Nat) : Int) 4129 = ((s.toNat * 2 % 65536 ^^^ 4129 : Nat) : Int) := u16_xor_nat _ 4129 (by omega) (by decide)
  have e5 : (s <<< 1).toNat = s.toNat * 2 % 65536 := by simp [BitVec.toNat_shiftLeft, Nat.shiftLeft_eq]
  have em : s.msb = decide (32768 ≤ s.toNat) := by rw [BitVec.msb_eq_decide]
  unfold stepI stepD
  rw [e3, e2, e4, em]
  by_cases hm : 32768 ≤ s.toNat
  · have q : s.toNat / 32768 = 1 := by omega
    rw [q]
    cases d
    · simp [hm, e5]
    · simp [hm, e5]
  · have q : s.toNat / 32768 = 0 := by omega
    rw [q]
    cases d
    · simp [hm, e5]
    · simp [hm, e5]

theorem digI_eq (x : BitVec 8) (k : Nat) (hk : k < 8) : digI (x.toNat : Int) k = cond (x.getMsbD k) 1 0 := by
  have hx := x.isLt
  have e1 : ((x.toNat : Int) / 2 ^ (7 - k)) = ((x.toNat / 2 ^ (7 - k) : Nat) : Int) := by simp
  have hle : x.toNat / 2 ^ (7 - k) ≤ x.toNat := Nat.div_le_self _ _
  have e2 : ∀ y : Nat, y < 65536 → IntKind.u16.wrap (y : Int) = (y : Int) := fun y hy => by rw [IntKind.wrap_u16]; omega
  unfold digI
  rw [e1, e2 _ (by omega)]
  have e3 := u16_and_nat (x.toNat / 2 ^ (7 - k)) 1 (by omega) (by decide)
  rw [show (1 : Int) = ((1 : Nat) : Int) from rfl, e3, Nat.and_one_is_mod]
  have e4 : x.getMsbD k = decide (x.toNat / 2 ^ (7 - k) % 2 = 1) := by
    rw [BitVec.getMsbD_eq_getLsbD, BitVec.getLsbD, Nat.testBit_eq_decide_div_mod_eq]
    simp [hk]
  rw [e4]
  rcases Nat.mod_two_eq_zero_or_one (x.toNat / 2 ^ (7 - k)) with h | h <;> simp [h]

theorem goI_eq (s : BitVec 16) (x : BitVec 8) : ∀ k, k ≤ 8 → goI (s.toNat : Int) (x.toNat : Int) k = ((runD s ((List.range k).map x.getMsbD)).toNat : Int)
  | 0, _ => rfl
  | k + 1, h => by
    rw [goI_succ, goI_eq s x k (by omega), digI_eq x k (by omega), stepI_eq]
    unfold runD
    rw [List.range_succ, List.map_append, List.foldl_append]; rfl
theorem byteI_eq (s : BitVec 16) (x : BitVec 8) : byteI (s.toNat : Int) (x.toNat : Int) = ((runD s (digitsD x)).toNat : Int) := goI_eq s x 8 (by omega)

def ints (l : List (BitVec 8)) : List Int := l.map fun x => (x.toNat : Int)
def digits (l : List (BitVec 8)) : List Bool := l.flatMap digitsD
theorem foldI_eq (l : List (BitVec 8)) : ∀ s : BitVec 16, (ints l).foldl byteI (s.toNat : Int) = ((runD s (digits l)).toNat : Int) := by
  induction l with
  | nil => intro s; rfl
  | cons x l ih =>
    intro s
    have : ints (x :: l) = (x.toNat : Int) :: ints l := rfl
    rw [this, List.foldl_cons, byteI_eq, ih]
    simp [digits, runD, List.flatMap_cons, List.foldl_append]
theorem sumI_eq (l : List (BitVec 8)) : sumI (ints l) = ((runD 65535#16 (digits l)).toNat : Int) := foldI_eq l 65535#16
theorem ints_of (l : List Int) (h : B8 l) : ∃ m : List (BitVec 8), l = ints m := by
  refine ⟨l.map fun x => BitVec.ofNat 8 x.toNat, ?_⟩
  unfold ints
  rw [List.map_map]
  conv => lhs; rw [← List.map_id l]
  refine List.map_congr_left fun x hx => ?_
  obtain ⟨h0, h1⟩ := h x hx
  simp [Function.comp]
  omega
theorem B8_ints (m : List (BitVec 8)) : B8 (ints m) := by
  intro x hx
  obtain ⟨y, _, rfl⟩ := List.mem_map.1 hx
  have := y.isLt
  omega
theorem word_of (s : Int) (h0 : 0 ≤ s) (h1 : s < 65536) : ∃ t : BitVec 16, s = (t.toNat : Int) := ⟨BitVec.ofNat 16 s.toNat, by simp; omega⟩
theorem byte_of (s : Int) (h0 : 0 ≤ s) (h1 : s < 256) : ∃ t : BitVec 8, s = (t.toNat : Int) := ⟨BitVec.ofNat 8 s.toNat, by simp; omega⟩
theorem goI_bd (s x : Int) (k : Nat) (hk : k ≤ 8) (h0 : 0 ≤ s) (h1 : s < 65536) (h2 : 0 ≤ x) (h3 : x < 256) : 0 ≤ goI s x k ∧ goI s x k < 65536 := by
  obtain ⟨s, rfl⟩ := word_of s h0 h1
  obtain ⟨x, rfl⟩ := byte_of x h2 h3
  rw [goI_eq s x k hk]
  have := (runD s ((List.range k).map x.getMsbD)).isLt
  omega
theorem sumI_bd (l : List Int) (h : B8 l) : 0 ≤ sumI l ∧ sumI l < 65536 := by
  obtain ⟨m, rfl⟩ := ints_of l h
  rw [sumI_eq]
  have := (runD 65535#16 (digits m)).isLt
  omega
theorem B8_take {l : List Int} (h : B8 l) (k : Nat) : B8 (l.take k) := fun x hx => h x (List.mem_of_mem_take hx)
theorem B8_drop {l : List Int} (h : B8 l) (k : Nat) : B8 (l.drop k) := fun x hx => h x (List.mem_of_mem_drop hx)
theorem B8_append {l m : List Int} (h : B8 l) (k : B8 m) : B8 (l ++ m) := fun x hx => (List.mem_append.1 hx).elim (h x) (k x)
theorem B8_get {l : List Int} (h : B8 l) (k : Nat) : 0 ≤ l[k]?.getD 0 ∧ l[k]?.getD 0 < 256 := by
  by_cases hk : k < l.length
  · simp only [hk, List.getElem?_eq_getElem, Option.getD_some]; exact h _ (List.getElem_mem hk)
  · rw [List.getElem?_eq_none (by omega)]; simp

theorem dig_alt (x : Int) (k : Nat) (h0 : 0 ≤ x) (h1 : x < 256) : IntKind.u16.wrap (bits .and .u8 (x / 2 ^ (7 - k)) 1) = digI x k := by
  obtain ⟨y, rfl⟩ := Int.eq_ofNat_of_zero_le h0
  have e1 : ((y : Int) / 2 ^ (7 - k)) = ((y / 2 ^ (7 - k) : Nat) : Int) := by simp
  have hle : y / 2 ^ (7 - k) ≤ y := Nat.div_le_self _ _
  have e2 : ∀ y : Nat, y < 65536 → IntKind.u16.wrap (y : Int) = (y : Int) := fun y hy => by rw [IntKind.wrap_u16]; omega
  unfold digI
  rw [e1, e2 _ (by omega)]
  have a1 := u16_and_nat (y / 2 ^ (7 - k)) 1 (by omega) (by decide)
  have a2 := u8_and_nat (y / 2 ^ (7 - k)) 1 (by omega) (by decide)
  rw [show (1 : Int) = ((1 : Nat) : Int) from rfl, a1, a2, Nat.and_one_is_mod, e2 _ (by omega)]
theorem digI_01 (x : Int) (k : Nat) (hk : k < 8) (h0 : 0 ≤ x) (h1 : x < 256) : digI x k = 0 ∨ digI x k = 1 := by
  obtain ⟨x, rfl⟩ := byte_of x h0 h1
  rw [digI_eq x k hk]
  cases x.getMsbD k <;> simp
theorem xor01 (s d : Int) (h0 : 0 ≤ s) (h1 : s < 65536) (hd : d = 0 ∨ d = 1) : (bits .xor .u16 (s / 32768) d == 1) = (s / 32768 != d) := by
  have hs : s / 32768 = 0 ∨ s / 32768 = 1 := by omega
  have c00 : (bits .xor .u16 0 0 == 1) = ((0 : Int) != 0) := by decide +kernel
  have c01 : (bits .xor .u16 0 1 == 1) = ((0 : Int) != 1) := by decide +kernel
  have c10 : (bits .xor .u16 1 0 == 1) = ((1 : Int) != 0) := by decide +kernel
  have c11 : (bits .xor .u16 1 1 == 1) = ((1 : Int) != 1) := by decide +kernel
  rcases hs with h | h <;> rcases hd with rfl | rfl <;> rw [h] <;> assumption
theorem alt_t {s x : Int} {k : Nat} (hk : k < 8) (s0 : 0 ≤ s) (s1 : s < 65536) (h0 : 0 ≤ x) (h1 : x < 256) (h : (s / 32768 != IntKind.u16.wrap (bits .and .u8 (x / 2 ^ (7 - k)) 1)) = true) :
    stepI s (digI x k) = bits .xor .u16 (IntKind.u16.wrap (s * 2)) 4129 := by
  rw [dig_alt x k h0 h1, ← xor01 s _ s0 s1 (digI_01 x k hk h0 h1)] at h
  exact stepI_t h
theorem alt_f {s x : Int} {k : Nat} (hk : k < 8) (s0 : 0 ≤ s) (s1 : s < 65536) (h0 : 0 ≤ x) (h1 : x < 256) (h : (s / 32768 != IntKind.u16.wrap (bits .and .u8 (x / 2 ^ (7 - k)) 1)) = false) :
    stepI s (digI x k) = IntKind.u16.wrap (s * 2) := by
  rw [dig_alt x k h0 h1, ← xor01 s _ s0 s1 (digI_01 x k hk h0 h1)] at h
  exact stepI_f h

/-! ### linear, and without a kernel -/
def T (s : BitVec 16) : BitVec 16 := stepD s false
theorem stepD_lin (a b : BitVec 16) (c d : Bool) : stepD (a ^^^ b) (c ^^ d) = stepD a c ^^^ stepD b d := by
  unfold stepD
  rw [BitVec.msb_xor, BitVec.shiftLeft_xor_distrib]
  have e : (4129#16 ^^^ 4129#16) = 0#16 := by decide
  have k1 : ∀ p q : BitVec 16, p ^^^ 4129#16 ^^^ (q ^^^ 4129#16) = p ^^^ q := by
    intro p q
    rw [BitVec.xor_assoc, ← BitVec.xor_assoc 4129#16, BitVec.xor_comm 4129#16 q, BitVec.xor_assoc q, e, BitVec.xor_zero]
  have k2 : ∀ p q : BitVec 16, p ^^^ q ^^^ 4129#16 = p ^^^ 4129#16 ^^^ q := by
    intro p q
    rw [BitVec.xor_assoc, BitVec.xor_comm q, ← BitVec.xor_assoc]
  cases ha : a.msb <;> cases hb : b.msb <;> cases c <;> cases d <;> simp [k1, k2, BitVec.xor_assoc] <;> exact BitVec.xor_comm _ _
theorem runD_lin : ∀ (ds es : List Bool), ds.length = es.length → ∀ (a b : BitVec 16), runD (a ^^^ b) (List.zipWith (fun c d => c ^^ d) ds es) = runD a ds ^^^ runD b es := by
  intro ds
  induction ds with
  | nil => intro es he a b; cases es with
    | nil => rfl
    | cons e es => simp at he
  | cons d ds ih =>
    intro es he a b
    cases es with
    | nil => simp at he
    | cons e es =>
      show runD (stepD (a ^^^ b) (d ^^ e)) _ = runD (stepD a d) ds ^^^ runD (stepD b e) es
      rw [stepD_lin]
      exact ih es (by simpa using he) _ _
theorem T_zero : T 0#16 = 0#16 := by decide
theorem msb_iff (s : BitVec 16) : s.msb = decide (32768 ≤ s.toNat) := by rw [BitVec.msb_eq_decide]
/-- T kills nothing but 0. -/
theorem T_inj0 (s : BitVec 16) (h : T s = 0#16) : s = 0#16 := by
  unfold T stepD at h
  rw [Bool.xor_false, msb_iff] at h
  have e5 : (s <<< 1).toNat = s.toNat * 2 % 65536 := by simp [BitVec.toNat_shiftLeft, Nat.shiftLeft_eq]
  by_cases hm : 32768 ≤ s.toNat
  · simp only [hm, decide_true, if_true] at h
    have h2 : (s <<< 1) = 4129#16 := by
      have := congrArg (· ^^^ 4129#16) h
      simpa [BitVec.xor_assoc] using this
    have h3 := congrArg BitVec.toNat h2
    rw [e5] at h3
    simp at h3
    omega
  · simp only [hm, decide_false, Bool.false_eq_true, if_false] at h
    have h3 := congrArg BitVec.toNat h
    rw [e5] at h3
    simp at h3
    apply BitVec.eq_of_toNat_eq
    simp; omega
theorem stepD_T (s : BitVec 16) (d : Bool) : stepD s d = T (s ^^^ (if d then 32768#16 else 0#16)) := by
  unfold T
  have h := stepD_lin s (if d then 32768#16 else 0#16) d d
  rw [Bool.xor_self] at h
  rw [h]
  cases d
  · have : stepD 0#16 false = 0#16 := by decide
    simp [this]
  · have : stepD 32768#16 true = 0#16 := by decide
    simp [this]
theorem runD_falses (s : BitVec 16) : ∀ n, runD s (List.replicate n false) = 0#16 → s = 0#16
  | 0, h => h
  | n + 1, h => by
    have h' : runD (T s) (List.replicate n false) = 0#16 := h
    exact T_inj0 s (runD_falses (T s) n h')
theorem runD_falses0 : ∀ n, runD 0#16 (List.replicate n false) = 0#16
  | 0 => rfl
  | n + 1 => by
    show runD (T 0#16) (List.replicate n false) = 0#16
    rw [T_zero]; exact runD_falses0 n
theorem runD_append (s : BitVec 16) (a b : List Bool) : runD s (a ++ b) = runD (runD s a) b := List.foldl_append ..
end Go.Proofs.Ytgeiagndpfdnlaa.B
end
section
namespace Go.Proofs.Ytgeiagndpfdnlaa.B
open Go.RowKit

theorem run_own (s : BitVec 16) : ∀ k, runD s ((List.range k).map s.getMsbD) = s <<< k
  | 0 => by simp [runD]
  | k + 1 => by
    rw [List.range_succ, List.map_append, runD_append, run_own s k]
    show stepD (s <<< k) (s.getMsbD k) = _
    unfold stepD
    rw [BitVec.msb_shiftLeft, Bool.xor_self, if_neg (by simp), BitVec.shiftLeft_add]
def digits16 (s : BitVec 16) : List Bool := (List.range 16).map s.getMsbD
theorem run_own16 (s : BitVec 16) : runD s (digits16 s) = 0#16 := by
  unfold digits16; rw [run_own]; simp
theorem zip_falses : ∀ ds : List Bool, List.zipWith (fun c d => c ^^ d) (List.replicate ds.length false) ds = ds
  | [] => rfl
  | d :: ds => by simp [List.replicate_succ, zip_falses ds]
theorem run16 (s m : BitVec 16) : runD s (digits16 m) = 0#16 ↔ s = m := by
  constructor
  · intro h
    have e := runD_lin (List.replicate (digits16 m).length false) (digits16 m) (by simp) (s ^^^ m) m
    rw [zip_falses, BitVec.xor_assoc, BitVec.xor_self, BitVec.xor_zero, h, run_own16, BitVec.xor_zero] at e
    have := runD_falses _ _ e.symm
    rw [← BitVec.xor_zero (x := s), ← BitVec.xor_self (x := m), ← BitVec.xor_assoc, this, BitVec.zero_xor]
  · rintro rfl; exact run_own16 s
theorem digits_two (h g : BitVec 8) : digits [h, g] = digits16 (h ++ g) := by
  unfold digits digits16 digitsD
  simp only [List.flatMap_cons, List.flatMap_nil, List.append_nil]
  rw [show List.range 16 = List.range 8 ++ (List.range 8).map (8 + ·) by decide, List.map_append, List.map_map]
  congr 1
  · refine List.map_congr_left fun i hi => ?_
    have : i < 8 := List.mem_range.1 hi
    rw [BitVec.getMsbD_append]; simp [show ¬ 8 ≤ i by omega]
  · refine List.map_congr_left fun i hi => ?_
    show _ = (h ++ g).getMsbD (8 + i)
    rw [BitVec.getMsbD_append]; simp
theorem toNat_two (h g : BitVec 8) : (h ++ g).toNat = h.toNat * 256 + g.toNat := by
  rw [BitVec.toNat_append, ← Nat.shiftLeft_add_eq_or_of_lt g.isLt, Nat.shiftLeft_eq]
theorem sum_whole (l : List Int) (h g : Int) (h8 : B8 l) (h0 : 0 ≤ h) (h1 : h < 256) (g0 : 0 ≤ g) (g1 : g < 256) : sumI (l ++ [h, g]) = 0 ↔ sumI l = h * 256 + g := by
  obtain ⟨m, rfl⟩ := ints_of l h8
  obtain ⟨h, rfl⟩ := byte_of h h0 h1
  obtain ⟨g, rfl⟩ := byte_of g g0 g1
  have e : ints m ++ [(h.toNat : Int), (g.toNat : Int)] = ints (m ++ [h, g]) := by simp [ints]
  have d : digits (m ++ [h, g]) = digits m ++ digits [h, g] := by simp [digits]
  rw [e, sumI_eq, sumI_eq, d, runD_append, digits_two]
  have r := run16 (runD 65535#16 (digits m)) (h ++ g)
  have t := toNat_two h g
  generalize runD 65535#16 (digits m) = s at *
  generalize runD s (digits16 (h ++ g)) = u at *
  constructor
  · intro hu
    have : u = 0#16 := BitVec.eq_of_toNat_eq (by simpa using hu)
    rw [r.1 this]; omega
  · intro hs
    have : s = h ++ g := BitVec.eq_of_toNat_eq (by omega)
    rw [r.2 this]; rfl
theorem split_two {l : List Int} {m : Nat} (hl : l.length = m + 2) : l = l.take m ++ [l[m]?.getD 0, l[m + 1]?.getD 0] := by
  have a1 : l.take (m + 1) = l.take m ++ [l[m]?.getD 0] := by rw [List.take_succ_eq_append_getElem (by omega)]; simp [show m < l.length by omega]
  have a2 : l.take (m + 2) = l.take (m + 1) ++ [l[m + 1]?.getD 0] := by rw [List.take_succ_eq_append_getElem (by omega)]; simp [show m + 1 < l.length by omega]
  rw [List.take_of_length_le (by omega), a1] at a2
  simpa using a2
theorem sum_whole' {l : List Int} {m : Nat} (hl : l.length = m + 2) (h8 : B8 l) : sumI l = 0 ↔ sumI (l.take m) = l[m]?.getD 0 * 256 + l[m + 1]?.getD 0 := by
  have a := B8_get h8 m
  have b := B8_get h8 (m + 1)
  have := sum_whole (l.take m) _ _ (B8_take h8 m) a.1 a.2 b.1 b.2
  rw [← split_two hl] at this
  exact this
end Go.Proofs.Ytgeiagndpfdnlaa.B
end
section
namespace Go.Proofs.Ytgeiagndpfdnlaa.B
open Go.RowKit
set_option linter.unusedVariables false

theorem ret_bool {a b : Bool} (h : a = b) : Ending.returned (.bool a) = .returned (.bool b) := by rw [h]
theorem ret_int {k : IntKind} {a b : Int} (h : a = b) : Ending.returned (.int k a) = .returned (.int k b) := by rw [h]

/-- The bytes l lie where a slice at address a says. -/
def Row (w : World) (a : Option Addr) (l : List Int) : Prop :=
  l = [] ∨ ∃ b o, a = some ⟨b, o, none⟩ ∧ ∀ i, i < l.length → w.cell? ⟨b, o + i, none⟩ = some (.int .u8 (l[i]?.getD 0))

/-- A slice of bytes: nil, or so many cells, not more than its capacity. -/
structure Sl (w : World) (a : Option Addr) (n cap : Nat) (l : List Int) : Prop where
  len : l.length = n
  le : n ≤ cap
  max : cap ≤ maxLen
  nil : a = none → cap = 0
  b8 : B8 l
  row : Row w a l
def cells (l : List Int) : List Value := l.map (Value.int .u8)
/-- A slice of bytes that was made since the heap had 'base' blocks, and is nobody else's. -/
def Own (w : World) (base : Nat) (v : Value) (l : List Int) : Prop := w.ownsRow base 5 1 v l.length (cells l) ∧ B8 l

theorem cells_get {l : List Int} {j : Nat} {u : Value} (h : (cells l)[j]? = some u) : j < l.length ∧ u = .int .u8 (l[j]?.getD 0) := by
  have hj : j < l.length := by have := (List.getElem?_eq_some_iff.1 h).1; simpa [cells] using this
  refine ⟨hj, ?_⟩
  simp [cells, hj] at h
  simp [hj, h]
theorem Own.sl {w : World} {base : Nat} {v : Value} {l : List Int} (h : Own w base v l) : ∃ a cap, v = .slice a l.length cap ∧ Sl w a l.length cap l := by
  obtain ⟨⟨h1, h2⟩, h8⟩ := h
  rcases h2 with ⟨rfl, h0⟩ | ⟨g, cap, cur, rfl, hb, hg, hle, hm, hsz, ht⟩
  · have : l = [] := List.eq_nil_of_length_eq_zero h0
    subst this
    exact ⟨none, 0, rfl, rfl, Nat.le_refl _, Nat.zero_le _, fun _ => rfl, h8, .inl rfl⟩
  · refine ⟨some ⟨g, 0, none⟩, cap, rfl, rfl, hle, hm, fun h => (by cases h), h8, Or.inr ⟨g, 0, rfl, fun i hi => ?_⟩⟩
    rw [Nat.zero_add, cell_of_row w g i cur 5 (0, 0) hg]
    have e : (cells l)[i]? = some (.int .u8 (l[i]?.getD 0)) := by simp [cells, hi]
    rw [← ht, List.getElem?_take] at e
    split at e
    · simpa using e
    · cases e
theorem Own.sl' {w : World} {base n : Nat} {v : Value} {l : List Int} (h : Own w base v l) (hn : l.length = n) : ∃ a cap, v = .slice a n cap ∧ Sl w a n cap l := by
  subst hn; exact h.sl
theorem Row.cellsAt {w : World} {x : Addr} {l : List Int} (h : Row w (some x) l) : ∀ j u, (cells l)[j]? = some u → w.cell? (x.add j) = some u := by
  intro j u hu
  obtain ⟨hj, rfl⟩ := cells_get hu
  rcases h with rfl | ⟨b, o, e, hc⟩
  · simp at hj
  · obtain rfl := Option.some.inj e
    rw [Addr.add_lit]; exact hc j hj
theorem cells_one (l : List Int) : ∀ u ∈ cells l, u.oneCell' = true := ints_oneCell .u8 l
theorem Row.take {w : World} {a : Option Addr} {l : List Int} (h : Row w a l) (k : Nat) : Row w a (l.take k) := by
  rcases h with rfl | ⟨b, o, rfl, hc⟩
  · exact .inl (by simp)
  · refine .inr ⟨b, o, rfl, fun i hi => ?_⟩
    have hi' : i < k ∧ i < l.length := by simp at hi; omega
    rw [hc i hi'.2]; simp [hi'.1]
theorem Sl.take {w : World} {a : Option Addr} {n cap : Nat} {l : List Int} (h : Sl w a n cap l) (k : Nat) (hk : k ≤ n) : Sl w a k cap (l.take k) :=
  ⟨by have := h.len; simp; omega, Nat.le_trans hk h.le, h.max, h.nil, B8_take h.b8 k, h.row.take k⟩
/-- A block that is there. -/
def There (w : World) (a : Option Addr) : Prop := ∀ x, a = some x → x.block < w.heap.size
theorem Row.below {w w' : World} {a : Option Addr} {l : List Int} (h : Row w a l) (hb : Below w.heap.size w w') : Row w' a l := by
  rcases h with rfl | ⟨b, o, rfl, hc⟩
  · exact .inl rfl
  · refine .inr ⟨b, o, rfl, fun i hi => ?_⟩
    have hi' := hc i hi
    have hlt : b < w.heap.size := World.block_lt_of_cell? w _ hi'
    rw [hb.cell (p := ⟨b, o + i, none⟩) hlt]; exact hi'
theorem Sl.below {w w' : World} {a : Option Addr} {n cap : Nat} {l : List Int} (h : Sl w a n cap l) (hb : Below w.heap.size w w') : Sl w' a n cap l :=
  ⟨h.len, h.le, h.max, h.nil, h.b8, h.row.below hb⟩
theorem wf_u8 {n : Int} (h : (Lit.int .u8 n).wf = true) : 0 ≤ n ∧ n < 256 := by
  simp [Lit.wf, IntKind.min, IntKind.max, IntKind.signed, IntKind.bits] at h; omega
/-- A slice of bytes that came in. -/
theorem sl_of {w : World} {a : Option Addr} {len cap : Nat} {zs : List Int}
    (h : (a = none ∧ len = 0 ∧ cap = 0 ∧ zs = []) ∨ ∃ x, a = some x ∧ len ≤ cap ∧ cap ≤ maxLen ∧ zs.length = cap ∧ (∀ i, i < zs.length → w.cell? (x.add i) = some (.int .u8 (zs.getD i 0))) ∧ ∀ n ∈ zs, (Lit.int .u8 n).wf = true) :
    Sl w a len cap (zs.take len) := by
  rcases h with ⟨rfl, rfl, rfl, rfl⟩ | ⟨x, rfl, hl, hm, hz, hcell, hwz⟩
  · exact ⟨rfl, Nat.le_refl _, Nat.zero_le _, fun _ => rfl, fun x hx => (by simp at hx), Or.inl rfl⟩
  · refine ⟨by simp; omega, hl, hm, fun h => (by cases h), fun n hn => wf_u8 (hwz n (List.mem_of_mem_take hn)), ?_⟩
    by_cases h0 : len = 0
    · subst h0; exact Or.inl (by simp)
    · obtain ⟨b, off, spot⟩ := x
      have hc := hcell 0 (by omega)
      have hspot : spot = none := by simpa [Addr.add] using World.cell?_spot hc
      subst hspot
      refine Or.inr ⟨b, off, rfl, fun i hi => ?_⟩
      have hi' : i < len := by simp at hi; omega
      have := hcell i (by omega)
      rw [Addr.add_lit] at this
      rw [this]; simp [hi', List.getD]
theorem Try.info5 : (Try.prog.info? 5).map (fun i => (i.zero, i.size, i.bytes)) = some (some (.int .u8 0), 1, 1) := by kernel_rfl

theorem take_same {l m : List Int} {k : Nat} (h : l.take k = m.take k) (hx : l[k]?.getD 0 = m[k]?.getD 0) (h1 : k < l.length) (h2 : k < m.length) : l.take (k + 1) = m.take (k + 1) := by
  rw [List.take_succ_eq_append_getElem h1, List.take_succ_eq_append_getElem h2, h]
  simp [h1, h2] at hx
  rw [hx]
end Go.Proofs.Ytgeiagndpfdnlaa.B
end
section
namespace Go.Proofs.Ytgeiagndpfdnlaa.B
open Go.RowKit
set_option linter.unusedVariables false

def sealI (l : List Int) : List Int := l ++ [sumI l / 256, sumI l % 256]

theorem sealI_b8 {l : List Int} (h : B8 l) : B8 (sealI l) := by
  refine B8_append h ?_
  have := sumI_bd l h
  intro y hy
  simp at hy
  rcases hy with rfl | rfl <;> omega
theorem cell_two (w : World) (x y : Int) : ∀ j u, (cells [x, y])[j]? = some u → (w.alloc (.cells #[.int .u8 x, .int .u8 y] 5)).cell? ((⟨w.heap.size, 0, none⟩ : Addr).add j) = some u := by
  intro j u hu
  obtain ⟨hj, rfl⟩ := cells_get hu
  rw [Addr.add_lit, Nat.zero_add, cell_of_row _ _ _ _ 5 (0, 0) (heap_alloc_new w _)]
  simp at hj
  match j, hj with
  | 0, _ | 1, _ => rfl

theorem Row.cellsAt' {w : World} {a : Option Addr} {l : List Int} (h : Row w a l) : ∀ ad, a = some ad → ∀ j u, (cells l)[j]? = some u → w.cell? (ad.add j) = some u := by
  intro ad e; subst e; exact h.cellsAt
theorem Sl.none0 {w : World} {a : Option Addr} {n cap : Nat} {l : List Int} (h : Sl w a n cap l) : a = none → n = 0 ∧ cap = 0 := fun e => ⟨by have := h.nil e; have := h.le; omega, h.nil e⟩
theorem own_block {w : World} {base g n cap : Nat} {xs : List Value} (h : w.ownsRow base 5 1 (.slice (some ⟨g, 0, none⟩) n cap) n xs) : ∃ cur : List Value, w.heap[g]? = some (.cells cur.toArray 5 (0, 0)) ∧ cur.length = cap := by
  rcases h.2 with ⟨h1, _⟩ | ⟨g', cap', cur, h1, _, hg, _, _, hsz, _⟩
  · cases h1
  · simp at h1
    obtain ⟨rfl, rfl⟩ := h1
    exact ⟨cur.toList, by simpa using hg, by simpa using hsz⟩
theorem own_full {w : World} {g n : Nat} {l : List Int} {cur : List Value} (h : w.heap[g]? = some (.cells (splice cur 0 (cells l)).toArray 5 (0, 0))) (hc : cur.length = n) (hl : l.length = n) (hm : n ≤ maxLen) :
    w.ownsRow g 5 1 (.slice (some ⟨g, 0, none⟩) n n) l.length (cells l) := by
  have e : splice cur 0 (cells l) = cells l := by
    unfold splice
    rw [List.take_zero, List.nil_append, Nat.zero_add, List.drop_eq_nil_of_le (by simp [cells, hl, hc]), List.append_nil]
  rw [e] at h
  subst hl
  exact ⟨by simp [cells], Or.inr ⟨g, l.length, (cells l).toArray, rfl, Nat.le_refl _, h, Nat.le_refl _, hm, by simp [cells], by rw [Nat.mul_one]; exact List.take_of_length_le (by simp [cells])⟩⟩
theorem row_pos {w : World} {a : Option Addr} {l : List Int} (h : Row w a l) (h0 : 0 < (cells l).length) : ∃ ad, a = some ad ∧ ∀ j v, (cells l)[j]? = some v → w.cell? (ad.add j) = some v := by
  have h' := h
  rcases h' with rfl | ⟨b, o, rfl, hc⟩
  · simp [cells] at h0
  · exact ⟨_, rfl, h.cellsAt⟩
theorem below_new {w w' : World} (h : w.grownBy w' none) : Below w.heap.size w w' := (Below.refl _ _).grown h (Nat.le_refl _) (by intro k hk; cases hk)

/-- What is opened. -/
def openI (l : List Int) : Option (List Int) :=
  if l.length < 2 then none else if sumI (l.take (l.length - 2)) = l[l.length - 2]?.getD 0 * 256 + l[l.length - 1]?.getD 0 then some (l.take (l.length - 2)) else none
theorem openI_short {l : List Int} (h : l.length < 2) : openI l = none := if_pos h
theorem openI_yes {l : List Int} {m : Nat} (hl : l.length = m + 2) (h : sumI (l.take m) = l[m]?.getD 0 * 256 + l[m + 1]?.getD 0) : openI l = some (l.take m) := by
  unfold openI
  rw [if_neg (by omega), hl, show m + 2 - 2 = m by omega, show m + 2 - 1 = m + 1 by omega, if_pos h]
theorem openI_no {l : List Int} {m : Nat} (hl : l.length = m + 2) (h : ¬ sumI (l.take m) = l[m]?.getD 0 * 256 + l[m + 1]?.getD 0) : openI l = none := by
  unfold openI
  rw [if_neg (by omega), hl, show m + 2 - 2 = m by omega, show m + 2 - 1 = m + 1 by omega, if_neg h]
theorem or_join (x y : Int) (hx0 : 0 ≤ x) (hx1 : x < 256) (hy0 : 0 ≤ y) (hy1 : y < 256) : bits .or .u16 (x * 256) y = x * 256 + y := by
  rw [u16_or _ _ (by omega) (by omega) (by omega) (by omega), nat_join 8 _ _ (by omega) (by omega)]
  omega
theorem own_nil (w : World) (base : Nat) : Own w base (.slice none 0 0) [] := ⟨World.ownsRow_nil _ _ _ _, fun x hx => by cases hx⟩
theorem ret_two {v : Value} {a b : Bool} (h : a = b) : Ending.returned (.tuple #[v, .bool a]) = .returned (.tuple #[v, .bool b]) := by rw [h]
theorem below_dn (w : World) (k : Nat) : Below w.heap.size w (w.drewN k) := ⟨rfl, rfl, rfl, Nat.le_refl _, fun _ _ => rfl⟩

end Go.Proofs.Ytgeiagndpfdnlaa.B
end
section
namespace Go.Proofs.Ytgeiagndpfdnlaa.B
open Go.RowKit
set_option linter.unusedVariables false

/-- The byte x, turned at the place t of its list by the digit i of the mask: as the walk spells it. -/
def turnI (x mask : Int) (t i : Nat) : Int := bits .xor .u8 x (IntKind.u8.wrap (bits .and .u8 (mask / 2 ^ (15 - i) % 256) 1 * 2 ^ (7 - t % 8)))
def spStep (l : List Int) (bit mask : Int) (i : Nat) : List Int :=
  if 0 ≤ bit + i ∧ bit + i < 8 * l.length then l.set ((bit + i).toNat / 8) (turnI (l[(bit + i).toNat / 8]?.getD 0) mask (bit + i).toNat i) else l
def spN (l : List Int) (bit mask : Int) (k : Nat) : List Int := (List.range k).foldl (fun l i => spStep l bit mask i) l
def spoilI (l : List Int) (bit mask : Int) : List Int := spN l bit mask 16

theorem spN_zero (l : List Int) (bit mask : Int) : spN l bit mask 0 = l := rfl
theorem spN_succ (l : List Int) (bit mask : Int) (k : Nat) : spN l bit mask (k + 1) = spStep (spN l bit mask k) bit mask k := by
  unfold spN; rw [List.range_succ, List.foldl_append]; rfl
theorem spStep_len (l : List Int) (bit mask : Int) (i : Nat) : (spStep l bit mask i).length = l.length := by
  unfold spStep; split <;> simp
theorem spN_len (l : List Int) (bit mask : Int) : ∀ k, (spN l bit mask k).length = l.length
  | 0 => rfl
  | k + 1 => by rw [spN_succ, spStep_len, spN_len l bit mask k]
theorem spStep_in {l : List Int} {bit mask : Int} {i t : Nat} (h : bit + i = t) (ht : t < 8 * l.length) : spStep l bit mask i = l.set (t / 8) (turnI (l[t / 8]?.getD 0) mask t i) := by
  unfold spStep; rw [if_pos (by omega)]; simp [h]
theorem spStep_out {l : List Int} {bit mask : Int} {i : Nat} (h : bit + i < 0 ∨ 8 * l.length ≤ bit + i) : spStep l bit mask i = l := by
  unfold spStep; rw [if_neg (by omega)]
theorem spN_out {l : List Int} {bit mask : Int} (h : bit ≤ -16 ∨ 8 * l.length ≤ bit) : ∀ k, k ≤ 16 → spN l bit mask k = l
  | 0, _ => rfl
  | k + 1, hk => by
    rw [spN_succ, spN_out h k (by omega), spStep_out (by omega)]
theorem xor8_bd {a b : Int} (ha0 : 0 ≤ a) (ha1 : a < 256) (hb0 : 0 ≤ b) (hb1 : b < 256) : 0 ≤ bits .xor .u8 a b ∧ bits .xor .u8 a b < 256 := by
  rw [u8_xor a b ha0 ha1 hb0 hb1]
  have : a.toNat ^^^ b.toNat < 2 ^ 8 := Nat.xor_lt_two_pow (by omega) (by omega)
  omega
theorem turnI_bd {x : Int} (hx : 0 ≤ x ∧ x < 256) (mask : Int) (t i : Nat) : 0 ≤ turnI x mask t i ∧ turnI x mask t i < 256 := by
  have h : ∀ n : Int, 0 ≤ IntKind.u8.wrap n ∧ IntKind.u8.wrap n < 256 := fun n => by rw [IntKind.wrap_u8']; omega
  exact xor8_bd hx.1 hx.2 (h _).1 (h _).2
theorem spStep_b8 {l : List Int} (h : B8 l) (bit mask : Int) (i : Nat) : B8 (spStep l bit mask i) := by
  unfold spStep
  split
  · intro y hy
    rcases List.mem_or_eq_of_mem_set hy with h' | rfl
    · exact h y h'
    · exact turnI_bd (B8_get h _) _ _ _
  · exact h
theorem spN_b8 {l : List Int} (h : B8 l) (bit mask : Int) : ∀ k, B8 (spN l bit mask k)
  | 0 => h
  | k + 1 => by rw [spN_succ]; exact spStep_b8 (spN_b8 h bit mask k) _ _ _
theorem cells_set (l : List Int) (j : Nat) (x : Int) : (cells l).set j (.int .u8 x) = cells (l.set j x) := by simp [cells, List.map_set]

theorem own_some {w : World} {base n : Nat} {v : Value} {l : List Int} (h : Own w base v l) (hn : l.length = n) (h0 : 0 < n) : ∃ g cap, v = .slice (some ⟨g, 0, none⟩) n cap ∧ base ≤ g ∧ w.ownsRow base 5 1 (.slice (some ⟨g, 0, none⟩) n cap) n (cells l) := by
  subst hn
  have hh := h.1
  rcases h.1.2 with ⟨_, h1⟩ | ⟨g, cap, cur, rfl, hb, _⟩
  · omega
  · exact ⟨g, cap, rfl, hb, hh⟩

theorem Row.some {w : World} {a : Option Addr} {l : List Int} (h : Row w a l) (h0 : 0 < l.length) : ∃ b o, a = Option.some ⟨b, o, none⟩ ∧ ∀ i, i < l.length → w.cell? ⟨b, o + i, none⟩ = Option.some (.int .u8 (l[i]?.getD 0)) := by
  rcases h with rfl | h
  · simp at h0
  · exact h
theorem wrap_small (n : Int) (h0 : -4611686018427387904 ≤ n) (h1 : n ≤ 4611686018427387904) : IntKind.i64.wrap n = n := by
  rw [IntKind.wrap_i64]; omega

end Go.Proofs.Ytgeiagndpfdnlaa.B
end
section
namespace Go.Proofs.Ytgeiagndpfdnlaa.B
open Go.RowKit

def digAt (l : List Int) (k : Nat) : Bool := (l[k / 8]?.getD 0).toNat.testBit (7 - k % 8)
def mdig (mask : Int) (i : Nat) : Bool := mask.toNat.testBit (15 - i)

theorem turnI_bit {x mask : Int} (hx0 : 0 ≤ x) (hx1 : x < 256) (hm0 : 0 ≤ mask) (hm1 : mask < 65536) (t i j : Nat) :
    (turnI x mask t i).toNat.testBit j = (x.toNat.testBit j ^^ (decide (j = 7 - t % 8) && mdig mask i)) := by
  obtain ⟨y, rfl⟩ := Int.eq_ofNat_of_zero_le hx0
  obtain ⟨m, rfl⟩ := Int.eq_ofNat_of_zero_le hm0
  have e1 : ((m : Int) / 2 ^ (15 - i) % 256) = ((m / 2 ^ (15 - i) % 256 : Nat) : Int) := by simp
  have e2 : bits .and .u8 ((m : Int) / 2 ^ (15 - i) % 256) 1 = ((m / 2 ^ (15 - i) % 2 : Nat) : Int) := by
    rw [e1, show (1 : Int) = ((1 : Nat) : Int) from rfl, u8_and_nat _ 1 (by omega) (by decide), Nat.and_one_is_mod]
    congr 1; omega
  have hb : mdig (m : Int) i = decide (m / 2 ^ (15 - i) % 2 = 1) := by
    unfold mdig; rw [Int.toNat_natCast, Nat.testBit_eq_decide_div_mod_eq]
  have hp : 2 ^ (7 - t % 8) ≤ 2 ^ 7 := Nat.pow_le_pow_right (by omega) (by omega)
  unfold turnI
  rw [e2]
  rcases Nat.mod_two_eq_zero_or_one (m / 2 ^ (15 - i)) with h | h
  · rw [h] at hb ⊢
    have z : IntKind.u8.wrap (((0 : Nat) : Int) * 2 ^ (7 - t % 8)) = ((0 : Nat) : Int) := by simp [IntKind.wrap_u8']
    rw [z, u8_xor_nat y 0 (by omega) (by decide), hb]
    simp
  · rw [h] at hb ⊢
    have z : IntKind.u8.wrap (((1 : Nat) : Int) * 2 ^ (7 - t % 8)) = ((2 ^ (7 - t % 8) : Nat) : Int) := by
      rw [IntKind.wrap_u8']
      have : ((1 : Nat) : Int) * 2 ^ (7 - t % 8) = ((2 ^ (7 - t % 8) : Nat) : Int) := by simp
      rw [this]
      generalize 2 ^ (7 - t % 8) = p at hp ⊢
      omega
    rw [z, u8_xor_nat y _ (by omega) (by omega), hb, Int.toNat_natCast, Nat.testBit_xor, Nat.testBit_two_pow]
    simp [eq_comm]

theorem spStep_dig {l : List Int} {bit mask : Int} (h8 : B8 l) (hm0 : 0 ≤ mask) (hm1 : mask < 65536) (i k : Nat) (hk : k < 8 * l.length) :
    digAt (spStep l bit mask i) k = (digAt l k ^^ (decide (bit + i = k) && mdig mask i)) := by
  by_cases h : 0 ≤ bit + i ∧ bit + i < 8 * l.length
  · obtain ⟨t, ht⟩ : ∃ t : Nat, bit + (i : Int) = (t : Int) := ⟨(bit + i).toNat, by omega⟩
    have ht' : t < 8 * l.length := by omega
    rw [spStep_in ht ht', ht]
    unfold digAt
    have hx := B8_get h8 (t / 8)
    by_cases hq : t / 8 = k / 8
    · rw [← hq, List.getElem?_set_self (by omega), Option.getD_some, turnI_bit hx.1 hx.2 hm0 hm1 _ _ _]
      congr 2
      simp; omega
    · rw [List.getElem?_set_ne hq]
      have : ¬ ((t : Int) = (k : Int)) := by omega
      simp [this]
  · rw [spStep_out (by omega)]
    have : ¬ (bit + (i : Int) = (k : Int)) := by omega
    simp [this]
theorem spN_dig {l : List Int} {bit mask : Int} (h8 : B8 l) (hm0 : 0 ≤ mask) (hm1 : mask < 65536) (k : Nat) (hk : k < 8 * l.length) :
    ∀ n, n ≤ 16 → digAt (spN l bit mask n) k = (digAt l k ^^ (decide (bit ≤ k ∧ k < bit + n) && mdig mask (k - bit).toNat))
  | 0, _ => by
    have : ¬ (bit ≤ (k : Int) ∧ (k : Int) < bit + ((0 : Nat) : Int)) := by omega
    simp only [this, spN_zero, decide_false, Bool.false_and, Bool.xor_false]
  | n + 1, hn => by
    rw [spN_succ, spStep_dig (spN_b8 h8 bit mask n) hm0 hm1 n k (by rw [spN_len]; exact hk), spN_dig h8 hm0 hm1 k hk n (by omega)]
    by_cases h : bit + (n : Int) = (k : Int)
    · have a1 : ¬ (bit ≤ (k : Int) ∧ (k : Int) < bit + (n : Int)) := by omega
      have a2 : bit ≤ (k : Int) ∧ (k : Int) < bit + ((n + 1 : Nat) : Int) := by omega
      have a3 : ((k : Int) - bit).toNat = n := by omega
      rw [decide_eq_false a1, decide_eq_true a2, decide_eq_true h, a3]
      simp
    · have a1 : (bit ≤ (k : Int) ∧ (k : Int) < bit + ((n + 1 : Nat) : Int)) ↔ (bit ≤ (k : Int) ∧ (k : Int) < bit + (n : Int)) := by omega
      simp only [h, a1, decide_false, Bool.false_and, Bool.xor_false]
/-- Is the digit k of the list turned? -/
def hit (bit mask : Int) (k : Nat) : Bool := decide (bit ≤ k ∧ k < bit + 16) && mdig mask (k - bit).toNat
theorem spoilI_dig {l : List Int} {bit mask : Int} (h8 : B8 l) (hm0 : 0 ≤ mask) (hm1 : mask < 65536) (k : Nat) (hk : k < 8 * l.length) :
    digAt (spoilI l bit mask) k = (digAt l k ^^ hit bit mask k) := spN_dig h8 hm0 hm1 k hk 16 (by omega)
theorem spoilI_len (l : List Int) (bit mask : Int) : (spoilI l bit mask).length = l.length := spN_len ..
theorem spoilI_b8 {l : List Int} (h : B8 l) (bit mask : Int) : B8 (spoilI l bit mask) := spN_b8 h bit mask 16

theorem byte_ext {x y : Int} (hx : 0 ≤ x ∧ x < 256) (hy : 0 ≤ y ∧ y < 256) (h : ∀ j, j < 8 → x.toNat.testBit j = y.toNat.testBit j) : x = y := by
  have : x.toNat = y.toNat := by
    apply Nat.eq_of_testBit_eq
    intro j
    by_cases hj : j < 8
    · exact h j hj
    · have p : 2 ^ 8 ≤ 2 ^ j := Nat.pow_le_pow_right (by omega) (by omega)
      rw [Nat.testBit_lt_two_pow (by omega), Nat.testBit_lt_two_pow (by omega)]
  omega
theorem digs_ext {l m : List Int} (hl : B8 l) (hm : B8 m) (hlen : l.length = m.length) (h : ∀ k, k < 8 * l.length → digAt l k = digAt m k) : l = m := by
  apply List.ext_getElem? 
  intro i
  by_cases hi : i < l.length
  · have e : l[i]?.getD 0 = m[i]?.getD 0 := by
      refine byte_ext (B8_get hl i) (B8_get hm i) fun j hj => ?_
      have := h (8 * i + (7 - j)) (by omega)
      unfold digAt at this
      rw [show (8 * i + (7 - j)) / 8 = i by omega, show 7 - (8 * i + (7 - j)) % 8 = j by omega] at this
      exact this
    simp [hi, show i < m.length by omega] at e ⊢
    exact e
  · rw [List.getElem?_eq_none (by omega), List.getElem?_eq_none (by omega)]

/-! ### sums over digits by their places -/
theorem digitsD_at (x : BitVec 8) (k : Nat) (hk : k < 8) : x.getMsbD k = ((x.toNat : Int)).toNat.testBit (7 - k) := by
  rw [BitVec.getMsbD_eq_getLsbD, BitVec.getLsbD, Int.toNat_natCast]; simp [hk]
theorem digits_eq : ∀ m : List (BitVec 8), digits m = (List.range (8 * (ints m).length)).map (digAt (ints m))
  | [] => rfl
  | x :: m => by
    have e : 8 * (ints (x :: m)).length = 8 + 8 * (ints m).length := by simp [ints]; omega
    rw [e, List.range_add, List.map_append, List.map_map]
    show digitsD x ++ digits m = _
    rw [digits_eq m]
    have p1 : digitsD x = (List.range 8).map (digAt (ints (x :: m))) := by
      unfold digitsD
      refine List.map_congr_left fun k hk => ?_
      have hk8 : k < 8 := List.mem_range.1 hk
      rw [digitsD_at x k hk8]
      unfold digAt
      rw [show k / 8 = 0 by omega, show k % 8 = k by omega]; rfl
    have p2 : (List.range (8 * (ints m).length)).map (digAt (ints m)) = (List.range (8 * (ints m).length)).map (digAt (ints (x :: m)) ∘ fun x => 8 + x) := by
      refine List.map_congr_left fun k _ => ?_
      show _ = digAt (ints (x :: m)) (8 + k)
      unfold digAt
      rw [show (8 + k) / 8 = k / 8 + 1 by omega, show (8 + k) % 8 = k % 8 by omega]; rfl
    rw [p1, p2]
theorem sum_digs {l : List Int} (h : B8 l) : sumI l = ((runD 65535#16 ((List.range (8 * l.length)).map (digAt l))).toNat : Int) := by
  obtain ⟨m, rfl⟩ := ints_of l h
  rw [sumI_eq, digits_eq]
theorem runD_lin' (f g : Nat → Bool) (a b : BitVec 16) : ∀ n, runD (a ^^^ b) ((List.range n).map fun k => f k ^^ g k) = runD a ((List.range n).map f) ^^^ runD b ((List.range n).map g)
  | 0 => rfl
  | n + 1 => by
    simp only [List.range_succ, List.map_append, runD_append]
    rw [runD_lin' f g a b n]
    exact stepD_lin ..

/-! ### bursts -/
theorem run16_list (W : List Bool) (hW : W.length = 16) (h : runD 0#16 W = 0#16) : ∀ b ∈ W, b = false := by
  have e : digits16 ((BitVec.ofBoolListBE W).cast hW) = W := by
    unfold digits16
    apply List.ext_getElem
    · simp [hW]
    · intro i h1 h2
      simp [h2]
  have z := (run16 0#16 ((BitVec.ofBoolListBE W).cast hW)).1 (by rw [e]; exact h)
  rw [← z] at e
  intro b hb
  rw [← e] at hb
  simp [digits16] at hb
  exact (And.symm hb).1
theorem map_false {g : Nat → Bool} {n : Nat} (h : ∀ j, j < n → g j = false) : (List.range n).map g = List.replicate n false := by
  apply List.ext_getElem
  · simp
  · intro i h1 h2
    simp at h1
    simp [h i h1]
theorem burst (g : Nat → Bool) (b M : Nat) (hb : b + 16 ≤ M) (h0 : ∀ j, j < M → g j = true → b ≤ j ∧ j < b + 16) (h : runD 0#16 ((List.range M).map g) = 0#16) : ∀ j, j < M → g j = false := by
  obtain ⟨c, rfl⟩ : ∃ c, M = b + 16 + c := ⟨M - (b + 16), by omega⟩
  rw [List.range_add, List.map_append, List.range_add, List.map_append, List.map_map, List.map_map, runD_append, runD_append] at h
  have n1 : (List.range b).map g = List.replicate b false := map_false fun j hj => by
    cases hg : g j with
    | false => rfl
    | true => have := h0 j (by omega) hg; omega
  have n2 : (List.range c).map (g ∘ fun x => b + 16 + x) = List.replicate c false := map_false fun j hj => by
    show g (b + 16 + j) = false
    cases hg : g (b + 16 + j) with
    | false => rfl
    | true => have := h0 (b + 16 + j) (by omega) hg; omega
  rw [n1, n2, runD_falses0] at h
  have h2 := runD_falses _ _ h
  have h3 := run16_list _ (by simp) h2
  intro j hj
  cases hg : g j with
  | false => rfl
  | true =>
    have hw := h0 j hj hg
    have := h3 (g j) (List.mem_map.2 ⟨j - b, List.mem_range.2 (by omega), by show g (b + (j - b)) = g j; congr 1; omega⟩)
    rw [hg] at this; exact this
theorem burst_in (e : Nat → Bool) (N : Nat) (bit : Int) (h0 : ∀ k : Nat, k < N → e k = true → bit ≤ k ∧ k < bit + 16) (h : runD 0#16 ((List.range N).map e) = 0#16) : ∀ k, k < N → e k = false := by
  by_cases hb : bit ≤ -16 ∨ N ≤ bit
  · intro k hk
    cases he : e k with
    | false => rfl
    | true => have := h0 k hk he; omega
  obtain ⟨b, hb'⟩ : ∃ b : Nat, bit + 16 = (b : Int) := ⟨(bit + 16).toNat, by omega⟩
  let g : Nat → Bool := fun j => if 16 ≤ j ∧ j < 16 + N then e (j - 16) else false
  have hg : ∀ j, j < 16 + N + 16 → g j = false := by
    refine burst g b (16 + N + 16) (by omega) ?_ ?_
    · intro j hj hgj
      by_cases hj2 : 16 ≤ j ∧ j < 16 + N
      · have : e (j - 16) = true := by simpa [g, hj2] using hgj
        have := h0 (j - 16) (by omega) this
        omega
      · simp [g, hj2] at hgj
    · rw [List.range_add, List.map_append, List.range_add, List.map_append, List.map_map, List.map_map, runD_append, runD_append]
      rw [map_false (n := 16) (g := g) fun j hj => if_neg (by omega), runD_falses0]
      have e1 : (List.range N).map (g ∘ fun x => 16 + x) = (List.range N).map e := List.map_congr_left fun k hk => by
        have : k < N := List.mem_range.1 hk
        show (if 16 ≤ 16 + k ∧ 16 + k < 16 + N then e (16 + k - 16) else false) = e k
        rw [if_pos (by omega), show 16 + k - 16 = k by omega]
      rw [e1, h, map_false (n := 16) fun j hj => by show (if 16 ≤ 16 + N + j ∧ 16 + N + j < 16 + N then e (16 + N + j - 16) else false) = false; exact if_neg (by omega), runD_falses0]
  intro k hk
  have := hg (16 + k) (by omega)
  have e2 : g (16 + k) = e k := by
    show (if 16 ≤ 16 + k ∧ 16 + k < 16 + N then e (16 + k - 16) else false) = e k
    rw [if_pos (by omega), show 16 + k - 16 = k by omega]
  rw [← e2]; exact this

/-- Bytes with the sum 0, spoilt, have it only if nothing was spoilt. -/
theorem spoil_found {l : List Int} {bit mask : Int} (h8 : B8 l) (hm0 : 0 ≤ mask) (hm1 : mask < 65536) (h : sumI l = 0) (h' : sumI (spoilI l bit mask) = 0) : spoilI l bit mask = l := by
  have q := spoilI_b8 h8 bit mask
  rw [sum_digs h8] at h
  rw [sum_digs q, spoilI_len] at h'
  have z : runD 65535#16 ((List.range (8 * l.length)).map (digAt l)) = 0#16 := BitVec.eq_of_toNat_eq (by simpa using h)
  have z' : runD 65535#16 ((List.range (8 * l.length)).map (digAt (spoilI l bit mask))) = 0#16 := BitVec.eq_of_toNat_eq (by simpa using h')
  have e : (List.range (8 * l.length)).map (digAt (spoilI l bit mask)) = (List.range (8 * l.length)).map (fun k => digAt l k ^^ hit bit mask k) :=
    List.map_congr_left fun k hk => spoilI_dig h8 hm0 hm1 k (List.mem_range.1 hk)
  have lin := runD_lin' (digAt l) (hit bit mask) 65535#16 0#16 (8 * l.length)
  rw [BitVec.xor_zero, ← e, z, z', BitVec.zero_xor] at lin
  have none := burst_in (hit bit mask) (8 * l.length) bit (fun k _ hk => by simp [hit] at hk; exact hk.1) lin.symm
  refine digs_ext q h8 (spoilI_len ..) fun k hk => ?_
  rw [spoilI_len] at hk
  rw [spoilI_dig h8 hm0 hm1 k hk, none k hk, Bool.xor_false]
theorem spoil_twice {l : List Int} {bit mask : Int} (h8 : B8 l) (hm0 : 0 ≤ mask) (hm1 : mask < 65536) : spoilI (spoilI l bit mask) bit mask = l := by
  refine digs_ext (spoilI_b8 (spoilI_b8 h8 _ _) _ _) h8 (by rw [spoilI_len, spoilI_len]) fun k hk => ?_
  rw [spoilI_len, spoilI_len] at hk
  rw [spoilI_dig (spoilI_b8 h8 _ _) hm0 hm1 k (by rw [spoilI_len]; exact hk), spoilI_dig h8 hm0 hm1 k hk, Bool.xor_assoc, Bool.xor_self, Bool.xor_false]
theorem spoil_zero {l : List Int} {bit : Int} (h8 : B8 l) : spoilI l bit 0 = l := by
  refine digs_ext (spoilI_b8 h8 _ _) h8 (by rw [spoilI_len]) fun k hk => ?_
  rw [spoilI_len] at hk
  rw [spoilI_dig h8 (by omega) (by omega) k hk]
  simp [hit, mdig]
theorem spoil_past {l : List Int} {bit mask : Int} (h : bit ≤ -16 ∨ 8 * l.length ≤ bit) : spoilI l bit mask = l := spN_out h 16 (by omega)
end Go.Proofs.Ytgeiagndpfdnlaa.B
end
section
namespace Go.Proofs.Ytgeiagndpfdnlaa.B
open Go.RowKit
set_option linter.unusedVariables false

theorem own_snoc {w : World} {base : Nat} {v : Value} {l : List Int} {x : Int} (h : w.ownsRow base 5 1 v (l.length + 1) (cells l ++ cells [x])) (h8 : B8 l) (h0 : 0 ≤ x) (h1 : x < 256) : Own w base v (l ++ [x]) := by
  refine ⟨by simpa [cells] using h, B8_append h8 ?_⟩
  intro y hy; simp at hy; subst hy; exact ⟨h0, h1⟩

theorem nextB {w0 w1 w2 : World} (h : Below w0.heap.size w0 w1) (h2 : Below w1.heap.size w1 w2) : Below w0.heap.size w0 w2 := h.trans (h2.mono h.size)

theorem openI_seal {l : List Int} (h8 : B8 l) : openI (sealI l) = some l := by
  have b := sumI_bd l h8
  have hl : (sealI l).length = l.length + 2 := by simp [sealI]
  have ht : (sealI l).take l.length = l := by simp [sealI]
  have g0 : (sealI l)[l.length]?.getD 0 = sumI l / 256 := by simp [sealI]
  have g1 : (sealI l)[l.length + 1]?.getD 0 = sumI l % 256 := by simp [sealI]
  have := openI_yes hl (by rw [ht, g0, g1]; omega)
  rw [this, ht]
theorem sum_seal {l : List Int} (h8 : B8 l) : sumI (sealI l) = 0 := by
  have b := sumI_bd l h8
  exact (sum_whole l _ _ h8 (by omega) (by omega) (by omega) (by omega)).2 (by omega)

theorem wf_u16 {n : Int} (h : (Lit.int .u16 n).wf = true) : 0 ≤ n ∧ n < 65536 := by
  simp [Lit.wf, IntKind.min, IntKind.max, IntKind.signed, IntKind.bits] at h; omega
theorem openI_sum {l : List Int} (h8 : B8 l) (h : ¬ sumI l = 0) : openI l = none := by
  by_cases h2 : l.length < 2
  · exact openI_short h2
  · obtain ⟨m, hm⟩ : ∃ m, l.length = m + 2 := ⟨l.length - 2, by omega⟩
    exact openI_no hm fun e => h ((sum_whole' hm h8).2 e)

theorem Own.alloc {w : World} {base : Nat} {v : Value} {l : List Int} (h : Own w base v l) (o : Obj) : Own (w.alloc o) base v l := ⟨h.1.alloc o, h.2⟩
theorem own_at {w : World} {base n cap : Nat} {a : Option Addr} {l : List Int} (h : Own w base (.slice a n cap) l) (hn : l.length = n) : Sl w a n cap l := by
  obtain ⟨a', cap', e, s⟩ := h.sl' hn
  simp at e
  obtain ⟨rfl, rfl⟩ := e
  exact s
theorem Sl.same {w w' : World} {a : Option Addr} {n cap : Nat} {l : List Int} (h : Sl w a n cap l) (hh : w'.heap = w.heap) : Sl w' a n cap l := by
  refine ⟨h.len, h.le, h.max, h.nil, h.b8, ?_⟩
  rcases h.row with rfl | ⟨b, o, rfl, hc⟩
  · exact Or.inl rfl
  · exact Or.inr ⟨b, o, rfl, fun i hi => by rw [← hc i hi]; exact World.cell?_of_block (by rw [hh])⟩
end Go.Proofs.Ytgeiagndpfdnlaa.B
end
section
namespace Go.Proofs.Ytgeiagndpfdnlaa
open Go.RowKit
set_option linter.unusedVariables false

section
variable {P : Program} {ops : Array Oper} {Q : Exit → Act → World → Prop} {w0 : World}

theorem wpAnyU_low {w1 : World} (hb : Below w0.heap.size w0 w1) : ∀ (fuel : Nat) (listed : Array Bool) (a : Act) (w : World), wpAnyU P .any ops Q w1 fuel listed a w → wpAnyU P .any ops Q w0 fuel listed a w
  | 0, _, _, _, h => h
  | fuel + 1, _, _, _, h => ⟨h.1, fun i hi => wpOp_mono (fun a' w' h' => ⟨next hb h'.1, fun u => wpAnyU_low hb fuel _ a' u.1 (h'.2 u)⟩) (h.2 i hi)⟩
/-- From here on, all that is there now stays. -/
theorem up_raise {fuel : Nat} {listed : Array Bool} {a : Act} {w : World} (hb : Below w0.heap.size w0 w) (h : MildOn P ops Q w fuel listed a) : wpAnyU P .any ops Q w0 fuel listed a w :=
  wpAnyU_low hb fuel listed a w (h (Up.self w))
/-- Two may come up. -/
theorem up_two (i j : Nat) {l ri rj : List Oper} {oi oj : Oper} {fuel : Nat} {listed : Array Bool} {a : Act} {w : World} (hr : Region.ready .any l.toArray listed = [i, j]) (hdi : l.drop i = oi :: ri) (hdj : l.drop j = oj :: rj)
    (hi : wpList P l.toArray (Then (fun a' w' => Below w0.heap.size w0 w' ∧ ∀ u : Up w', wpAnyU P .any l.toArray Q w0 fuel (listed.setIfInBounds i true) a' u.1) Q) [oi] a w)
    (hj : wpList P l.toArray (Then (fun a' w' => Below w0.heap.size w0 w' ∧ ∀ u : Up w', wpAnyU P .any l.toArray Q w0 fuel (listed.setIfInBounds j true) a' u.1) Q) [oj] a w) : wpAnyU P .any l.toArray Q w0 (fuel + 1) listed a w := by
  have step : ∀ (q : Nat) {oq : Oper} {rq : List Oper}, l.drop q = oq :: rq →
      wpList P l.toArray (Then (fun a' w' => Below w0.heap.size w0 w' ∧ ∀ u : Up w', wpAnyU P .any l.toArray Q w0 fuel (listed.setIfInBounds q true) a' u.1) Q) [oq] a w →
      wpOp P l.toArray Q q (fun a' w' => Below w0.heap.size w0 w' ∧ ∀ u : Up w', wpAnyU P .any l.toArray Q w0 fuel (listed.setIfInBounds q true) a' u.1) a w := by
    intro q oq rq hd h
    have hi := of_drop hd
    unfold wpOp
    simp only [hi]
    unfold wpList at h
    by_cases hw : Region.wanted oq (yielded l.toArray a.tmps) = true
    · rw [if_pos hw] at h ⊢
      refine h.imp (fun h => ?_) id
      unfold Oper.wp at *
      revert h
      generalize (execOp a.eval oq).run P w = r
      intro h
      rcases r with ⟨n, w'⟩ | ⟨x, w'⟩
      · cases n with
        | enter f args =>
          exact Calls.mono h fun e w'' he => by
            cases e <;> exact he
        | _ => exact h
      · cases x <;> exact h
    · rw [if_neg hw] at h ⊢
      exact h
  refine ⟨fun h0 => (by rw [hr] at h0; cases h0), ?_⟩
  rw [hr]
  intro q hq
  simp at hq
  rcases hq with rfl | rfl
  · exact step q hdi hi
  · exact step q hdj hj
end
end Go.Proofs.Ytgeiagndpfdnlaa
end
