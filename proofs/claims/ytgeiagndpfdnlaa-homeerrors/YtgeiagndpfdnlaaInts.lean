/- Slices of whole numbers: what can be read of them (Sl), what a call has made (Own); worlds that only grew (Up) and regions that draw their order over them; the helps Within, Copy and Cut over whole numbers. Conditions: as each theorem states them. -/
import Derived.Test.YtgeiagndpfdnlaaRows
import Derived.WalkKit
import Derived.WalkSpells
import Derived.BigQuiet
import Derived.WalkLawsBesides
import Derived.Laws.AppendOwnNone
import Derived.Laws.CopyOwn
import Derived.Deep.RegionHeld3
import Derived.Deep.DeepCutAuto
namespace Go.Proofs.Ytgeiagndpfdnlaa
open Go.RowKit
set_option linter.unusedVariables false

theorem ret_bool {a b : Bool} (h : a = b) : Ending.returned (.bool a) = .returned (.bool b) := by rw [h]
theorem ret_int {k : IntKind} {a b : Int} (h : a = b) : Ending.returned (.int k a) = .returned (.int k b) := by rw [h]
theorem below_dn (w : World) (k : Nat) : Below w.heap.size w (w.drewN k) := ⟨rfl, rfl, rfl, Nat.le_refl _, fun _ _ => rfl⟩

theorem bcell {W w1 : World} (hb : Below W.heap.size W w1) : (∀ b o, b < W.heap.size → w1.cell? ⟨b, o, none⟩ = W.cell? ⟨b, o, none⟩) ∧ (∀ b o, b < W.heap.size → w1.frozen? ⟨b, o, none⟩ = W.frozen? ⟨b, o, none⟩) :=
  ⟨fun b o h => hb.cell (p := ⟨b, o, none⟩) h, fun b o h => hb.frozen (p := ⟨b, o, none⟩) h⟩
theorem ba {w x : World} {o : Obj} (h : Below w.heap.size w x) : Below w.heap.size w (x.alloc o) := h.alloc h.size o
theorem next {W w1 w2 : World} (h1 : Below W.heap.size W w1) (h2 : Below w1.heap.size w1 w2) : Below W.heap.size W w2 := h1.trans (h2.mono h1.size)
/-- What was there is there, and as it was. -/
def Up (w : World) : Type := { u : World // Below w.heap.size w u }
instance Up.some (w : World) : Nonempty (Up w) := ⟨⟨w, Below.refl _ _⟩⟩
theorem Up.cell {w : World} (u : Up w) (b o : Nat) (h : b < w.heap.size) : u.1.cell? ⟨b, o, none⟩ = w.cell? ⟨b, o, none⟩ := u.2.cell (p := ⟨b, o, none⟩) h
theorem Up.frozen {w : World} (u : Up w) (b o : Nat) (h : b < w.heap.size) : u.1.frozen? ⟨b, o, none⟩ = w.frozen? ⟨b, o, none⟩ := u.2.frozen (p := ⟨b, o, none⟩) h
theorem Up.lt {w : World} (u : Up w) (n : Nat) (h : n < w.heap.size) : n < u.1.heap.size := Nat.lt_of_lt_of_le h u.2.size
/-- A region that draws its order, whose operations only read and whose calls only make memory: one walk, in the order of the text. -/
theorem wp_region_up {P : Program} {id : Nat} {Q : Exit → Act → World → Prop} {a : Act} {w : World} {l : List Oper} (hm : P.follows .mixedOrders = true) (hB : Region.lexB .any l.toArray = true)
    (h : wpQuiet P l.toArray (fun w' => ∃ u : Up w, w' = u.1) (fun a' => ∀ w', (∃ u : Up w, w' = u.1) → Q .normal a' w') l a) : (Code.region id l.toArray true).wp P Q a w :=
  wp_region_quiet (C := fun w' => ∃ u : Up w, w' = u.1) hm hB ⟨⟨w.drew, (Below.refl _ _).drew⟩, rfl⟩ (by simpa using h)
/-- A call in such a region. -/
theorem Calls.up_of {P : Program} {f : FuncId} {args : Array Value} {w : World} {u : Up w} {v : Value}
    (h : Calls P f args u.1 fun e w' => e = .returned v ∧ Below u.1.heap.size u.1 w') : Calls P f args u.1 fun e w'' => e = .returned v ∧ ∃ u' : Up w, w'' = u'.1 :=
  h.mono fun _ _ ⟨he, hb⟩ => ⟨he, ⟨_, u.2.trans (hb.mono u.2.size)⟩, rfl⟩
theorem Calls.up_same {P : Program} {f : FuncId} {args : Array Value} {w : World} {u : Up w} {v : Value}
    (h : Calls P f args u.1 fun e w' => e = .returned v ∧ u.1 = w') : Calls P f args u.1 fun e w'' => e = .returned v ∧ ∃ u' : Up w, w'' = u'.1 :=
  h.mono fun _ _ ⟨he, hb⟩ => ⟨he, u, hb.symm⟩

/-- The numbers l lie where a slice at address a says. -/
def Row (w : World) (a : Option Addr) (l : List Int) : Prop :=
  l = [] ∨ ∃ b o, a = some ⟨b, o, none⟩ ∧ ∀ i, i < l.length → w.cell? ⟨b, o + i, none⟩ = some (.int .i64 (l[i]?.getD 0))

/-- A slice of whole numbers: nil, or so many cells, not more than its capacity. -/
structure Sl (w : World) (a : Option Addr) (n cap : Nat) (l : List Int) : Prop where
  len : l.length = n
  le : n ≤ cap
  max : cap ≤ maxLen
  nil : a = none → cap = 0
  row : Row w a l
def cells (l : List Int) : List Value := l.map (Value.int .i64)
/-- A slice of whole numbers that was made since the heap had 'base' blocks, and is nobody else's. -/
def Own (w : World) (base : Nat) (v : Value) (l : List Int) : Prop := w.ownsRow base 3 1 v l.length (cells l)

theorem cells_get {l : List Int} {j : Nat} {u : Value} (h : (cells l)[j]? = some u) : j < l.length ∧ u = .int .i64 (l[j]?.getD 0) := by
  have hj : j < l.length := by have := (List.getElem?_eq_some_iff.1 h).1; simpa [cells] using this
  refine ⟨hj, ?_⟩
  simp [cells, hj] at h
  simp [hj, h]
theorem Own.sl {w : World} {base : Nat} {v : Value} {l : List Int} (h : Own w base v l) : ∃ a cap, v = .slice a l.length cap ∧ Sl w a l.length cap l := by
  obtain ⟨h1, h2⟩ := h
  rcases h2 with ⟨rfl, h0⟩ | ⟨g, cap, cur, rfl, hb, hg, hle, hm, hsz, ht⟩
  · have : l = [] := List.eq_nil_of_length_eq_zero h0
    subst this
    exact ⟨none, 0, rfl, rfl, Nat.le_refl _, Nat.zero_le _, fun _ => rfl, .inl rfl⟩
  · refine ⟨some ⟨g, 0, none⟩, cap, rfl, rfl, hle, hm, fun h => (by cases h), Or.inr ⟨g, 0, rfl, fun i hi => ?_⟩⟩
    rw [Nat.zero_add, cell_of_row w g i cur 3 (0, 0) hg]
    have e : (cells l)[i]? = some (.int .i64 (l[i]?.getD 0)) := by simp [cells, hi]
    rw [← ht, List.getElem?_take] at e
    split at e
    · simpa using e
    · cases e
theorem Own.sl' {w : World} {base n : Nat} {v : Value} {l : List Int} (h : Own w base v l) (hn : l.length = n) : ∃ a cap, v = .slice a n cap ∧ Sl w a n cap l := by
  subst hn; exact h.sl
theorem Row.cellsAt {w : World} {x : Addr} {l : List Int} (h : Row w (some x) l) : ∀ j u, (cells l)[j]? = some u → w.cell? (x.add j) = some u := by
  intro j u hu
  obtain ⟨hj, rfl⟩ := cells_get hu
  rcases h with rfl | ⟨b, o, e, hc⟩
  · simp at hj
  · obtain rfl := Option.some.inj e
    rw [Addr.add_lit]; exact hc j hj
theorem cells_one (l : List Int) : ∀ u ∈ cells l, u.oneCell' = true := ints_oneCell .i64 l
theorem Row.take {w : World} {a : Option Addr} {l : List Int} (h : Row w a l) (k : Nat) : Row w a (l.take k) := by
  rcases h with rfl | ⟨b, o, rfl, hc⟩
  · exact .inl (by simp)
  · refine .inr ⟨b, o, rfl, fun i hi => ?_⟩
    have hi' : i < k ∧ i < l.length := by simp at hi; omega
    rw [hc i hi'.2]; simp [hi'.1]
theorem Sl.take {w : World} {a : Option Addr} {n cap : Nat} {l : List Int} (h : Sl w a n cap l) (k : Nat) (hk : k ≤ n) : Sl w a k cap (l.take k) :=
  ⟨by have := h.len; simp; omega, Nat.le_trans hk h.le, h.max, h.nil, h.row.take k⟩
/-- A block that is there. -/
def There (w : World) (a : Option Addr) : Prop := ∀ x, a = some x → x.block < w.heap.size
theorem Row.below {w w' : World} {a : Option Addr} {l : List Int} (h : Row w a l) (hb : Below w.heap.size w w') : Row w' a l := by
  rcases h with rfl | ⟨b, o, rfl, hc⟩
  · exact .inl rfl
  · refine .inr ⟨b, o, rfl, fun i hi => ?_⟩
    have hi' := hc i hi
    have hlt : b < w.heap.size := World.block_lt_of_cell? w _ hi'
    rw [hb.cell (p := ⟨b, o + i, none⟩) hlt]; exact hi'
theorem Sl.below {w w' : World} {a : Option Addr} {n cap : Nat} {l : List Int} (h : Sl w a n cap l) (hb : Below w.heap.size w w') : Sl w' a n cap l :=
  ⟨h.len, h.le, h.max, h.nil, h.row.below hb⟩
/-- A slice of whole numbers that came in. -/
theorem sl_of {w : World} {a : Option Addr} {len cap : Nat} {zs : List Int}
    (h : (a = none ∧ len = 0 ∧ cap = 0 ∧ zs = []) ∨ ∃ x, a = some x ∧ len ≤ cap ∧ cap ≤ maxLen ∧ zs.length = cap ∧ (∀ i, i < zs.length → w.cell? (x.add i) = some (.int .i64 (zs.getD i 0))) ∧ ∀ n ∈ zs, (Lit.int .i64 n).wf = true) :
    Sl w a len cap (zs.take len) := by
  rcases h with ⟨rfl, rfl, rfl, rfl⟩ | ⟨x, rfl, hl, hm, hz, hcell, hwz⟩
  · exact ⟨rfl, Nat.le_refl _, Nat.zero_le _, fun _ => rfl, Or.inl rfl⟩
  · refine ⟨by simp; omega, hl, hm, fun h => (by cases h), ?_⟩
    by_cases h0 : len = 0
    · subst h0; exact Or.inl (by simp)
    · obtain ⟨b, off, spot⟩ := x
      have hc := hcell 0 (by omega)
      have hspot : spot = none := by simpa [Addr.add] using World.cell?_spot hc
      subst hspot
      refine Or.inr ⟨b, off, rfl, fun i hi => ?_⟩
      have hi' : i < len := by simp at hi; omega
      have := hcell i (by omega)
      rw [Addr.add_lit] at this
      rw [this]; simp [hi', List.getD]
theorem Try.infoInt : (Try.prog.info? 3).map (fun i => (i.zero, i.size, i.bytes)) = some (some (.int .i64 0), 1, 8) := by kernel_rfl
theorem Sl.same {w w' : World} {a : Option Addr} {n cap : Nat} {l : List Int} (h : Sl w a n cap l) (hh : w'.heap = w.heap) : Sl w' a n cap l := by
  refine ⟨h.len, h.le, h.max, h.nil, ?_⟩
  rcases h.row with h0 | ⟨b, o, e, hc⟩
  · exact .inl h0
  · exact .inr ⟨b, o, e, fun i hi => by rw [← hc i hi]; simp [World.cell?, hh]⟩
theorem Sl.none0 {w : World} {a : Option Addr} {n cap : Nat} {l : List Int} (h : Sl w a n cap l) : a = none → n = 0 ∧ cap = 0 := fun e => ⟨by have := h.nil e; have := h.le; omega, h.nil e⟩
theorem sl_nil (w : World) : Sl w none 0 0 [] := ⟨rfl, Nat.le_refl _, Nat.zero_le _, fun _ => rfl, .inl rfl⟩
theorem own_nil (w : World) (base : Nat) : Own w base (.slice none 0 0) [] := World.ownsRow_nil _ _ _ _
theorem below_new {w w' : World} (h : w.grownBy w' none) : Below w.heap.size w w' := (Below.refl _ _).grown h (Nat.le_refl _) (by intro k hk; cases hk)

theorem copy_any (a : Option Addr) (l : List Int) (n cap : Nat) (w : World) (hsl : Sl w a n cap l) (hb : n ≤ 17592186044416) :
    Calls Try.prog 39 #[.slice a n cap] w fun e w' => ∃ v, e = .returned v ∧ Own w' w.heap.size v l ∧ Below w.heap.size w w' := by
  obtain ⟨hn, hle, hmx, hnil, hr⟩ := hsl
  obtain ⟨i0, hi, hz0, hz1, hz2⟩ := info_parts Try.infoInt
  have hm : n ≤ maxLen := Nat.le_trans hle hmx
  cases a with
  | none =>
    obtain rfl : cap = 0 := hnil rfl
    obtain rfl : n = 0 := by omega
    obtain rfl : l = [] := List.eq_nil_of_length_eq_zero hn
    go_enter Try.func39, Try.ntmps39
    go_wp2_with (at_builtin; refine wpList_append_own_none rfl _ _ 22 rfl w.heap.size 3 i0 1 Try.underlying22 hi _ 0 [] rfl (World.ownsRow_nil _ _ _ _) rfl ?_)
    go_ret
    exact ⟨_, rfl, own_nil _ _, Below.refl _ _⟩
  | some x =>
    go_enter Try.func39, Try.ntmps39
    go_wp2_with (at_builtin; refine wpList_append_own _ rfl _ _ 22 rfl w.heap.size 3 i0 (.int .i64 0) 1 8 Try.underlying22 hi hz0 hz1 hz2 rfl (by decide) _ 0 [] rfl (World.ownsRow_nil _ _ _ _) x n cap (cells l) rfl (by simp [cells, hn]) hr.cellsAt (cells_one l) (by omega) (by omega) (Nat.le_refl _) ?_)
    intro v' w1 hown hgrow _
    go_wp2
    go_ret
    refine ⟨_, rfl, by simpa [Own, hn] using hown, (Below.refl _ _).grown hgrow (Nat.le_refl _) (by intro k hk; simp [Value.ownBlock] at hk)⟩

theorem tmod_neg {v n : Int} (hn : 1 ≤ n) (h : v.tmod n < 0) : v.tmod n + n = v % n ∧ -n < v.tmod n := by
  have h1 : -n < v.tmod n := by have := Int.tmod_lt_of_pos (-v) (show 0 < n by omega); rw [Int.neg_tmod] at this; omega
  refine ⟨?_, h1⟩
  have h2 := Int.mul_tdiv_add_tmod v n
  have h3 : v % n = (v.tmod n) % n := by
    conv => lhs; rw [← h2]
    rw [Int.add_comm, Int.add_mul_emod_self_left]
  rw [h3, ← Int.add_emod_right, Int.emod_eq_of_lt (by omega) (by omega)]
theorem tmod_pos {v n : Int} (hn : 1 ≤ n) (h : 0 ≤ v.tmod n) : v.tmod n = v % n := by
  have h1 : v.tmod n < n := Int.tmod_lt_of_pos v (by omega)
  have h2 := Int.mul_tdiv_add_tmod v n
  have h3 : v % n = (v.tmod n) % n := by
    conv => lhs; rw [← h2]
    rw [Int.add_comm, Int.add_mul_emod_self_left]
  rw [h3, Int.emod_eq_of_lt (by omega) (by omega)]
theorem within_any (v n : Int) (w : World) (hn0 : 1 ≤ n) (hn1 : n ≤ 1000000) :
    Calls Try.prog 9 #[.int .i64 v, .int .i64 n] w fun e w' => e = .returned (.int .i64 (v % n)) ∧ w = w' := by
  go_enter Try.func9, Try.ntmps9
  go_wp2
  · go_ret
    have h : v.tmod n < 0 := by assumption
    obtain ⟨h1, h2⟩ := tmod_neg hn0 h
    refine ⟨ret_int ?_, rfl⟩
    rw [← h1]
    exact IntWalk.wrap64_in _ (by omega)
  · go_ret
    exact ⟨ret_int (tmod_pos hn0 (by assumption)), rfl⟩

theorem cut_any (a : Option Addr) (l : List Int) (n cap m : Nat) (w : World) (hsl : Sl w a n cap l) (hb : m ≤ 1000000) :
    Calls Try.prog 21 #[.slice a n cap, .int .i64 m] w fun e w' => ∃ v, e = .returned v ∧ Own w' w.heap.size v (l.take m) ∧ Below w.heap.size w w' := by
  have hle := hsl.le
  have hmx := hsl.max
  unfold maxLen at hmx
  have hl := hsl.len
  by_cases hc : n ≤ m
  · have he : Hid (l.take m = l) := List.take_of_length_le (by omega)
    go_enter Try.func21, Try.ntmps21
    go_wp2_with (go_at_call 39; refine (copy_any a l n cap w hsl (by omega)).mono ?_; rintro e w' ⟨v, rfl, hown, hbel⟩)
    go_ret
    exact ⟨_, rfl, by rw [he.out]; assumption, by assumption⟩
  · have hs2 := hsl.take m (by omega)
    go_enter Try.func21, Try.ntmps21
    go_wp2_with (go_at_call 39; refine (copy_any a (l.take m) m cap w hs2 (by omega)).mono ?_; rintro e w' ⟨v, rfl, hown, hbel⟩)
    go_ret
    exact ⟨_, rfl, by assumption, by assumption⟩

theorem cut_x (a : Option Addr) (l : List Int) (n cap m : Nat) (x : Int) (w : World) (hsl : Sl w a n cap l) (hb : m ≤ 1000000) (hx : x = (m : Int)) :
    Calls Try.prog 21 #[.slice a n cap, .int .i64 x] w fun e w' => ∃ v, e = .returned v ∧ Own w' w.heap.size v (l.take m) ∧ Below w.heap.size w w' := by
  subst hx; exact cut_any a l n cap m w hsl hb
theorem Own.low {w : World} {base base' : Nat} {v : Value} {l : List Int} (h : Own w base v l) (hb : base' ≤ base) : Own w base' v l := by
  refine ⟨h.1, h.2.imp id ?_⟩
  rintro ⟨g, cap, cur, e, hg, rest⟩
  exact ⟨g, cap, cur, e, Nat.le_trans hb hg, rest⟩
theorem Own.set {w : World} {base : Nat} {v : Value} {l : List Int} (h : Own w base v l) {p : Addr} (hp : p.block < base) (u : Value) : Own (w.setCell p u) base v l := ownsRow_setCell_below h hp u
theorem Own.below {w w' : World} {base : Nat} {v : Value} {l : List Int} (h : Own w base v l) (hb : Below w.heap.size w w') : Own w' base v l := by
  refine ⟨h.1, h.2.imp id ?_⟩
  rintro ⟨g, cap, cur, e, hg, hh, rest⟩
  exact ⟨g, cap, cur, e, hg, by rw [hb.block g (by rcases Nat.lt_or_ge g w.heap.size with h | h; exact h; rw [Array.getElem?_eq_none h] at hh; cases hh)]; exact hh, rest⟩
theorem take_same {l m : List Int} {k : Nat} (h : l.take k = m.take k) (hx : l[k]?.getD 0 = m[k]?.getD 0) (h1 : k < l.length) (h2 : k < m.length) : l.take (k + 1) = m.take (k + 1) := by
  rw [List.take_succ_eq_append_getElem h1, List.take_succ_eq_append_getElem h2, h]
  simp [h1, h2] at hx
  rw [hx]
end Go.Proofs.Ytgeiagndpfdnlaa
