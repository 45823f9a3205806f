/- The contracts of crc.Sum and of the helps Copy, Cut, Same, Within and wakes: what each call gives and what it leaves of the memory. Conditions: as each theorem states them. -/
import Derived.Test.YtgeiagndpfdnlaaRows
import Derived.Test.YtgeiagndpfdnlaaBMath
import Derived.WalkKit
import Derived.WalkSpells
import Derived.BigQuiet
import Derived.WalkLawsBesides
import Derived.Laws.AppendOwnNone
import Derived.Laws.CopyOwn
import Derived.Deep.RegionHeld3
import Derived.Lib.SlBytesConst
namespace Go.Proofs.Ytgeiagndpfdnlaa.B
open Go.RowKit
set_option linter.unusedVariables false

theorem ret_bool {a b : Bool} (h : a = b) : Ending.returned (.bool a) = .returned (.bool b) := by rw [h]
theorem ret_int {k : IntKind} {a b : Int} (h : a = b) : Ending.returned (.int k a) = .returned (.int k b) := by rw [h]

/-- The bytes l lie where a slice at address a says. -/
def Row (w : World) (a : Option Addr) (l : List Int) : Prop :=
  l = [] ∨ ∃ b o, a = some ⟨b, o, none⟩ ∧ ∀ i, i < l.length → w.cell? ⟨b, o + i, none⟩ = some (.int .u8 (l[i]?.getD 0))

/-- A slice of bytes: nil, or so many cells, not more than its capacity. -/
structure Sl (w : World) (a : Option Addr) (n cap : Nat) (l : List Int) : Prop where
  len : l.length = n
  le : n ≤ cap
  max : cap ≤ maxLen
  nil : a = none → cap = 0
  b8 : B8 l
  row : Row w a l
def cells (l : List Int) : List Value := l.map (Value.int .u8)
/-- A slice of bytes that was made since the heap had 'base' blocks, and is nobody else's. -/
def Own (w : World) (base : Nat) (v : Value) (l : List Int) : Prop := w.ownsRow base 5 1 v l.length (cells l) ∧ B8 l

theorem cells_get {l : List Int} {j : Nat} {u : Value} (h : (cells l)[j]? = some u) : j < l.length ∧ u = .int .u8 (l[j]?.getD 0) := by
  have hj : j < l.length := by have := (List.getElem?_eq_some_iff.1 h).1; simpa [cells] using this
  refine ⟨hj, ?_⟩
  simp [cells, hj] at h
  simp [hj, h]
theorem Own.sl {w : World} {base : Nat} {v : Value} {l : List Int} (h : Own w base v l) : ∃ a cap, v = .slice a l.length cap ∧ Sl w a l.length cap l := by
  obtain ⟨⟨h1, h2⟩, h8⟩ := h
  rcases h2 with ⟨rfl, h0⟩ | ⟨g, cap, cur, rfl, hb, hg, hle, hm, hsz, ht⟩
  · have : l = [] := List.eq_nil_of_length_eq_zero h0
    subst this
    exact ⟨none, 0, rfl, rfl, Nat.le_refl _, Nat.zero_le _, fun _ => rfl, h8, .inl rfl⟩
  · refine ⟨some ⟨g, 0, none⟩, cap, rfl, rfl, hle, hm, fun h => (by cases h), h8, Or.inr ⟨g, 0, rfl, fun i hi => ?_⟩⟩
    rw [Nat.zero_add, cell_of_row w g i cur 5 (0, 0) hg]
    have e : (cells l)[i]? = some (.int .u8 (l[i]?.getD 0)) := by simp [cells, hi]
    rw [← ht, List.getElem?_take] at e
    split at e
    · simpa using e
    · cases e
theorem Own.sl' {w : World} {base n : Nat} {v : Value} {l : List Int} (h : Own w base v l) (hn : l.length = n) : ∃ a cap, v = .slice a n cap ∧ Sl w a n cap l := by
  subst hn; exact h.sl
theorem Row.cellsAt {w : World} {x : Addr} {l : List Int} (h : Row w (some x) l) : ∀ j u, (cells l)[j]? = some u → w.cell? (x.add j) = some u := by
  intro j u hu
  obtain ⟨hj, rfl⟩ := cells_get hu
  rcases h with rfl | ⟨b, o, e, hc⟩
  · simp at hj
  · obtain rfl := Option.some.inj e
    rw [Addr.add_lit]; exact hc j hj
theorem cells_one (l : List Int) : ∀ u ∈ cells l, u.oneCell' = true := ints_oneCell .u8 l
theorem Row.take {w : World} {a : Option Addr} {l : List Int} (h : Row w a l) (k : Nat) : Row w a (l.take k) := by
  rcases h with rfl | ⟨b, o, rfl, hc⟩
  · exact .inl (by simp)
  · refine .inr ⟨b, o, rfl, fun i hi => ?_⟩
    have hi' : i < k ∧ i < l.length := by simp at hi; omega
    rw [hc i hi'.2]; simp [hi'.1]
theorem Sl.take {w : World} {a : Option Addr} {n cap : Nat} {l : List Int} (h : Sl w a n cap l) (k : Nat) (hk : k ≤ n) : Sl w a k cap (l.take k) :=
  ⟨by have := h.len; simp; omega, Nat.le_trans hk h.le, h.max, h.nil, B8_take h.b8 k, h.row.take k⟩
/-- A block that is there. -/
def There (w : World) (a : Option Addr) : Prop := ∀ x, a = some x → x.block < w.heap.size
theorem Row.below {w w' : World} {a : Option Addr} {l : List Int} (h : Row w a l) (hb : Below w.heap.size w w') : Row w' a l := by
  rcases h with rfl | ⟨b, o, rfl, hc⟩
  · exact .inl rfl
  · refine .inr ⟨b, o, rfl, fun i hi => ?_⟩
    have hi' := hc i hi
    have hlt : b < w.heap.size := World.block_lt_of_cell? w _ hi'
    rw [hb.cell (p := ⟨b, o + i, none⟩) hlt]; exact hi'
theorem Sl.below {w w' : World} {a : Option Addr} {n cap : Nat} {l : List Int} (h : Sl w a n cap l) (hb : Below w.heap.size w w') : Sl w' a n cap l :=
  ⟨h.len, h.le, h.max, h.nil, h.b8, h.row.below hb⟩
theorem wf_u8 {n : Int} (h : (Lit.int .u8 n).wf = true) : 0 ≤ n ∧ n < 256 := by
  simp [Lit.wf, IntKind.min, IntKind.max, IntKind.signed, IntKind.bits] at h; omega
/-- A slice of bytes that came in. -/
theorem sl_of {w : World} {a : Option Addr} {len cap : Nat} {zs : List Int}
    (h : (a = none ∧ len = 0 ∧ cap = 0 ∧ zs = []) ∨ ∃ x, a = some x ∧ len ≤ cap ∧ cap ≤ maxLen ∧ zs.length = cap ∧ (∀ i, i < zs.length → w.cell? (x.add i) = some (.int .u8 (zs.getD i 0))) ∧ ∀ n ∈ zs, (Lit.int .u8 n).wf = true) :
    Sl w a len cap (zs.take len) := by
  rcases h with ⟨rfl, rfl, rfl, rfl⟩ | ⟨x, rfl, hl, hm, hz, hcell, hwz⟩
  · exact ⟨rfl, Nat.le_refl _, Nat.zero_le _, fun _ => rfl, fun x hx => (by simp at hx), Or.inl rfl⟩
  · refine ⟨by simp; omega, hl, hm, fun h => (by cases h), fun n hn => wf_u8 (hwz n (List.mem_of_mem_take hn)), ?_⟩
    by_cases h0 : len = 0
    · subst h0; exact Or.inl (by simp)
    · obtain ⟨b, off, spot⟩ := x
      have hc := hcell 0 (by omega)
      have hspot : spot = none := by simpa [Addr.add] using World.cell?_spot hc
      subst hspot
      refine Or.inr ⟨b, off, rfl, fun i hi => ?_⟩
      have hi' : i < len := by simp at hi; omega
      have := hcell i (by omega)
      rw [Addr.add_lit] at this
      rw [this]; simp [hi', List.getD]
theorem Try.info5 : (Try.prog.info? 5).map (fun i => (i.zero, i.size, i.bytes)) = some (some (.int .u8 0), 1, 1) := by kernel_rfl

theorem take_same {l m : List Int} {k : Nat} (h : l.take k = m.take k) (hx : l[k]?.getD 0 = m[k]?.getD 0) (h1 : k < l.length) (h2 : k < m.length) : l.take (k + 1) = m.take (k + 1) := by
  rw [List.take_succ_eq_append_getElem h1, List.take_succ_eq_append_getElem h2, h]
  simp [h1, h2] at hx
  rw [hx]
end Go.Proofs.Ytgeiagndpfdnlaa.B
