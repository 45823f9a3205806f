/- A cache in memory as plain data: its sets, its ways, its clock, its entries; what the document asks of it, on plain data. Nothing of the program is named here but the entries' type. -/
import Derived.Test.YtfobgkkmbacfjaaERow
namespace Go.Proofs.Ytfobgkkmbacfjaa
open Go.RowKit
set_option linter.unusedVariables false

/-- Where a line is (-1: it is not there). -/
def atL (L : List En) (l : Int) : Int := match L.findIdx? (fun e => decide (e.n = l)) with | some k => (k : Int) | none => -1
theorem atL_hit {L : List En} {l : Int} {k : Nat} {x : En} (h : L[k]? = some x) (hx : x.n = l) (hj : ∀ j y, j < k → L[j]? = some y → y.n ≠ l) : atL L l = k := by
  have hk := (List.getElem?_eq_some_iff.1 h).1
  have e : L.findIdx? (fun e => decide (e.n = l)) = some k := by
    rw [List.findIdx?_eq_some_iff_getElem]
    refine ⟨hk, ?_, fun j hjk => ?_⟩
    · have : L[k] = x := (List.getElem?_eq_some_iff.1 h).2
      rw [this]; exact decide_eq_true hx
    · rw [Bool.not_eq_true]
      exact decide_eq_false (hj j _ hjk (List.getElem?_eq_getElem (by omega)))
  unfold atL
  rw [e]
theorem atL_miss {L : List En} {l : Int} (h : ∀ y ∈ L, y.n ≠ l) : atL L l = -1 := by
  have e : L.findIdx? (fun e => decide (e.n = l)) = none := by
    rw [List.findIdx?_eq_none_iff]
    intro x hx
    exact decide_eq_false (h x hx)
  unfold atL
  rw [e]
theorem atL_cases (L : List En) (l : Int) : (∃ k x, L[k]? = some x ∧ x.n = l ∧ k < L.length ∧ atL L l = (k : Int) ∧ ∀ j y, j < k → L[j]? = some y → y.n ≠ l) ∨ (atL L l = -1 ∧ ∀ y ∈ L, y.n ≠ l) := by
  cases e : L.findIdx? (fun e => decide (e.n = l)) with
  | none =>
    rw [List.findIdx?_eq_none_iff] at e
    have h : ∀ y ∈ L, y.n ≠ l := fun y hy => of_decide_eq_false (e y hy)
    exact .inr ⟨atL_miss h, h⟩
  | some k =>
    rw [List.findIdx?_eq_some_iff_getElem] at e
    obtain ⟨hk, h1, h2⟩ := e
    have hx : L[k]? = some L[k] := List.getElem?_eq_getElem hk
    have hj : ∀ j y, j < k → L[j]? = some y → y.n ≠ l := fun j y hj hy => by
      have := h2 j hj
      rw [Bool.not_eq_true] at this
      have e : L[j] = y := (List.getElem?_eq_some_iff.1 hy).2
      rw [e] at this
      exact of_decide_eq_false this
    exact .inl ⟨k, L[k], hx, of_decide_eq_true h1, hk, atL_hit hx (of_decide_eq_true h1) hj, hj⟩
/-- How many lines of its set there are. -/
def inL (S : Int) (L : List En) (l : Int) : Nat := if 0 ≤ l then L.countP (fun e => decide (e.n.tmod S = l.tmod S)) else 0
theorem inL_snoc {S : Int} {L : List En} {l : Int} {k : Nat} {x : En} (h : L[k]? = some x) : inL S (L.take (k + 1)) l = inL S (L.take k) l + (if 0 ≤ l ∧ x.n.tmod S = l.tmod S then 1 else 0) := by
  unfold inL
  rw [List.take_add_one, h]
  by_cases hl : 0 ≤ l <;> by_cases hx : x.n.tmod S = l.tmod S <;> simp [hl, hx]
theorem inL_le (S : Int) (L : List En) (l : Int) : inL S L l ≤ L.length := by
  unfold inL
  split
  · exact List.countP_le_length
  · omega
/-- The line of a set that was used first (-1: none), and when. -/
def vstep (S l : Int) (p : Int × Int) (e : En) : Int × Int := if 0 ≤ l ∧ e.n.tmod S = l.tmod S ∧ (p.1 < 0 ∨ e.u < p.2) then (e.n, e.u) else p
def vicL (S : Int) (L : List En) (l : Int) : Int × Int := L.foldl (vstep S l) (-1, 0)
theorem vicL_snoc {S : Int} {L : List En} {l : Int} {k : Nat} {x : En} (h : L[k]? = some x) : vicL S (L.take (k + 1)) l = vstep S l (vicL S (L.take k) l) x := by
  unfold vicL
  rw [List.take_add_one, h, List.foldl_append]
  rfl
theorem Eb.madeT (w : World) (x : En) (d : Value) (t : TypeId) : Eb (w.alloc (.cells #[.int .i64 x.f, .int .i64 x.b, .int .i64 x.n, .int .i64 x.u, .bool x.q, d] t)) w.heap.size 0 x d := by
  constructor <;> simp
/-- A cache at block g: sets, ways, clock, entries, cell by cell in that order. It may write the blocks of M; its entries' words lie in those of D. -/
structure CaI (w : World) (g : Nat) (M D : Nat → Prop) (S W k : Int) (L : List En) (R : List (En × Value)) (a : Option Addr) (cap : Nat) : Prop where
  c0 : w.cell? ⟨g, 0, none⟩ = some (.int .i64 S)
  c1 : w.cell? ⟨g, 1, none⟩ = some (.int .i64 W)
  c2 : w.cell? ⟨g, 2, none⟩ = some (.int .i64 k)
  c3 : w.cell? ⟨g, 3, none⟩ = some (.slice a L.length cap)
  fz : ∀ o, w.frozen? ⟨g, o, none⟩ = false
  lt : g < w.heap.size
  mg : M g
  row : ERow w (fun k => M k ∧ k ≠ g) D L R a L.length cap
  old : ∀ k, M k ∨ D k → k < w.heap.size
  ng : ¬ D g
section
variable {w w' : World} {g : Nat} {M D F : Nat → Prop} {S W k : Int} {L : List En} {R : List (En × Value)} {a : Option Addr} {cap : Nat}
theorem CaI.keep (h : CaI w g M D S W k L R a cap) (hk : Keep F w w') (hF : ∀ k, M k ∨ D k → ¬ F k) : CaI w' g M D S W k L R a cap :=
  have e := fun o => hk.cell (b := g) o h.lt (hF g (.inl h.mg))
  ⟨(e _).trans h.c0, (e _).trans h.c1, (e _).trans h.c2, (e _).trans h.c3, fun o => by rw [hk.frozen _ h.lt (hF g (.inl h.mg))]; exact h.fz o, Nat.lt_of_lt_of_le h.lt hk.size, h.mg,
    h.row.keep hk (fun k hm => hF k (hm.imp And.left id)), fun k hm => Nat.lt_of_lt_of_le (h.old k hm) hk.size, h.ng⟩
theorem CaI.below (h : CaI w g M D S W k L R a cap) (hb : Below w.heap.size w w') : CaI w' g M D S W k L R a cap := h.keep (F := fun _ => False) (Keep.of_below hb) (fun _ _ h => h)
end
/-- The clock is another one. -/
theorem CaI.clock {w : World} {g : Nat} {M D : Nat → Prop} {S W k : Int} {L : List En} {R : List (En × Value)} {a : Option Addr} {cap : Nat} (h : CaI w g M D S W k L R a cap) (u : Int) : CaI (w.setCell ⟨g, 2, none⟩ (.int .i64 u)) g M D S W u L R a cap := by
  have near : ∀ j, j ≠ 2 → (w.setCell ⟨g, 2, none⟩ (.int .i64 u)).cell? ⟨g, j, none⟩ = w.cell? ⟨g, j, none⟩ := fun j hj => World.cell?_setCell_other _ _ _ _ (by simp <;> omega)
  exact ⟨by rw [near 0 (by omega)]; exact h.c0, by rw [near 1 (by omega)]; exact h.c1, World.cell?_setCell_same' _ _ _ (by rw [h.c2]; rfl), by rw [near 3 (by omega)]; exact h.c3, fun o => by rw [World.frozen?_setCell]; exact h.fz o, by simpa using h.lt, h.mg,
    h.row.keep (Keep.one w g 2 (.int .i64 u)) (fun k hk e => hk.elim (fun h => h.2 e) (fun hd => h.ng (e ▸ hd))), fun j hj => by simpa using h.old j hj, h.ng⟩
/-- Another row, in memory from base on. -/
theorem CaI.newrow {w : World} {g : Nat} {M D D' : Nat → Prop} {S W k : Int} {L L' : List En} {R R' : List (En × Value)} {a a' : Option Addr} {cap cap' base n' : Nat} (h : CaI w g M D S W k L R a cap) (hold : ∀ k, M k ∨ D' k → k < base) (hdj : ∀ k, M k → ¬ D' k)
    (hn : L'.length = n') (row : Rw w (fun k => (M k ∧ k ≠ g) ∨ base ≤ k) a' n' cap' 6 (flat ecells R')) (eq : R'.map Prod.fst = L') (dat : ∀ r ∈ R', DatZ w D' r.1.z r.2) (hbase : base ≤ w.heap.size) :
    CaI (w.setCell ⟨g, 3, none⟩ (.slice a' n' cap')) g (fun j => M j ∨ (base ≤ j ∧ j < w.heap.size)) D' S W k L' R' a' cap' := by
  subst hn
  have hg : g < base := hold g (.inl h.mg)
  have kk := Keep.one w g 3 (.slice a' L'.length cap')
  have near : ∀ j, j ≠ 3 → (w.setCell ⟨g, 3, none⟩ (.slice a' L'.length cap')).cell? ⟨g, j, none⟩ = w.cell? ⟨g, j, none⟩ := fun j hj => World.cell?_setCell_other _ _ _ _ (by simp <;> omega)
  have hng : ¬ D' g := hdj g h.mg
  refine ⟨by rw [near 0 (by omega)]; exact h.c0, by rw [near 1 (by omega)]; exact h.c1, by rw [near 2 (by omega)]; exact h.c2, World.cell?_setCell_same' _ _ _ (by rw [h.c3]; rfl), fun o => by rw [World.frozen?_setCell]; exact h.fz o, by simpa using h.lt, .inl h.mg, ?_, ?_, hng⟩
  · refine ⟨eq, rfl, (row.keep kk (fun k hk e => by rcases hk with hk | hk; exact hk.2 e; omega)).imp (fun j hj hk => by rcases hk with hk | hk; exact ⟨.inl hk.1, hk.2⟩; exact ⟨.inr ⟨hk, by simpa using hj⟩, by omega⟩), fun r hr => (dat r hr).keep kk (fun k hk e => hng (e ▸ hk)), fun j hj => ?_, fun j hj hd => ?_⟩
    · rcases hj.1 with hm | hm
      · have := hold j (.inl hm); simp; omega
      · simpa using hm.2
    · rcases hj.1 with hm | hm
      · exact hdj j hm hd
      · have := hold j (.inr hd); omega
  · intro j hj
    rcases hj with (hm | hm) | hd
    · have := hold j (.inl hm); simp; omega
    · simpa using hm.2
    · have := hold j (.inr hd); simp; omega
theorem ca_newrow {w : World} {g : Nat} {M D' : Nat → Prop} {S W k : Int} {L' : List En} {R' : List (En × Value)} {v3 : Value} {a' : Option Addr} {cap' base n' : Nat} (c0 : w.cell? ⟨g, 0, none⟩ = some (.int .i64 S)) (c1 : w.cell? ⟨g, 1, none⟩ = some (.int .i64 W)) (c2 : w.cell? ⟨g, 2, none⟩ = some (.int .i64 k)) (c3 : w.cell? ⟨g, 3, none⟩ = some v3)
    (fz : ∀ o, w.frozen? ⟨g, o, none⟩ = false) (lt : g < w.heap.size) (mg : M g) (hold : ∀ k, M k ∨ D' k → k < base) (hdj : ∀ k, M k → ¬ D' k)
    (hn : L'.length = n') (row : Rw w (fun k => (M k ∧ k ≠ g) ∨ base ≤ k) a' n' cap' 6 (flat ecells R')) (eq : R'.map Prod.fst = L') (dat : ∀ r ∈ R', DatZ w D' r.1.z r.2) (hbase : base ≤ w.heap.size) :
    CaI (w.setCell ⟨g, 3, none⟩ (.slice a' n' cap')) g (fun j => M j ∨ (base ≤ j ∧ j < w.heap.size)) D' S W k L' R' a' cap' := by
  subst hn
  have hg : g < base := hold g (.inl mg)
  have kk := Keep.one w g 3 (.slice a' L'.length cap')
  have near : ∀ j, j ≠ 3 → (w.setCell ⟨g, 3, none⟩ (.slice a' L'.length cap')).cell? ⟨g, j, none⟩ = w.cell? ⟨g, j, none⟩ := fun j hj => World.cell?_setCell_other _ _ _ _ (by simp <;> omega)
  have hng : ¬ D' g := hdj g mg
  refine ⟨by rw [near 0 (by omega)]; exact c0, by rw [near 1 (by omega)]; exact c1, by rw [near 2 (by omega)]; exact c2, World.cell?_setCell_same' _ _ _ (by rw [c3]; rfl), fun o => by rw [World.frozen?_setCell]; exact fz o, by simpa using lt, .inl mg, ?_, ?_, hng⟩
  · refine ⟨eq, rfl, (row.keep kk (fun k hk e => by rcases hk with hk | hk; exact hk.2 e; omega)).imp (fun j hj hk => by rcases hk with hk | hk; exact ⟨.inl hk.1, hk.2⟩; exact ⟨.inr ⟨hk, by simpa using hj⟩, by omega⟩), fun r hr => (dat r hr).keep kk (fun k hk e => hng (e ▸ hk)), fun j hj => ?_, fun j hj hd => ?_⟩
    · rcases hj.1 with hm | hm
      · have := hold j (.inl hm); simp; omega
      · simpa using hm.2
    · rcases hj.1 with hm | hm
      · exact hdj j hm hd
      · have := hold j (.inr hd); omega
  · intro j hj
    rcases hj with (hm | hm) | hd
    · have := hold j (.inl hm); simp; omega
    · simpa using hm.2
    · have := hold j (.inr hd); simp; omega
/-- A new box as a row of one. -/
theorem rw_box (w : World) (x : En) (d : Value) (t : TypeId) : Rw (w.alloc (.cells #[.int .i64 x.f, .int .i64 x.b, .int .i64 x.n, .int .i64 x.u, .bool x.q, d] t)) (fun j => j = w.heap.size) (some ⟨w.heap.size, 0, none⟩) 1 1 6 (ecells (x, d)) := by
  have b := Eb.madeT w x d t
  obtain ⟨c0, c1, c2, c3, c4, c5⟩ := b.lit
  refine ⟨rfl, Nat.le_refl _, by unfold maxLen; omega, fun e => (by cases e), .inr ⟨_, _, rfl, rfl, b.lt, fun i u hu => ?_, fun i hi => ?_⟩⟩
  · have hi : i < 6 := (List.getElem?_eq_some_iff.1 hu).1
    rw [Nat.zero_add]
    match i, hi with
    | 0, _ => rw [c0]; exact hu
    | 1, _ => rw [c1]; exact hu
    | 2, _ => rw [c2]; exact hu
    | 3, _ => rw [c3]; exact hu
    | 4, _ => rw [c4]; exact hu
    | 5, _ => rw [c5]; exact hu
  · refine ⟨?_, b.fz i (by omega)⟩
    rw [Nat.zero_add]
    match i, (show i < 6 by omega) with
    | 0, _ => rw [c0]; rfl
    | 1, _ => rw [c1]; rfl
    | 2, _ => rw [c2]; rfl
    | 3, _ => rw [c3]; rfl
    | 4, _ => rw [c4]; rfl
    | 5, _ => rw [c5]; rfl
/-- The front of a row, with no room behind it. -/
theorem Rw.front {w : World} {S : Nat → Prop} {a : Option Addr} {n cap es k : Nat} {vs : List Value} (h : Rw w S a n cap es vs) (hk : k ≤ n) (hn : a = none → k = 0) : Rw w S a k k es (vs.take (k * es)) := by
  refine ⟨by rw [List.length_take, h.len, Nat.min_eq_left (Nat.mul_le_mul_right _ hk)], Nat.le_refl _, Nat.le_trans hk (Nat.le_trans h.le h.max), hn, ?_⟩
  rcases h.row with h0 | ⟨b, o, e, hs, hb, hc, hf⟩
  · exact .inl (by have := h.le; omega)
  · refine .inr ⟨b, o, e, hs, hb, fun i u hu => ?_, fun i hi => hf i (Nat.lt_of_lt_of_le hi (Nat.mul_le_mul_right _ (Nat.le_trans hk h.le)))⟩
    rw [List.getElem?_take] at hu
    split at hu
    · exact hc i u hu
    · cases hu
theorem flat_insert {R : List (En × Value)} (r : En × Value) (i : Nat) : (flat ecells R).take (i * 6) ++ (ecells r ++ (flat ecells R).drop (i * 6)) = flat ecells (R.take i ++ r :: R.drop i) := by
  rw [flat_take ecells_len, flat_drop ecells_len, flat_append, flat_cons]
/-- A cache. -/
def Ca (w : World) (g : Nat) (M D : Nat → Prop) (S W k : Int) (L : List En) : Prop := ∃ R a cap, CaI w g M D S W k L R a cap
section
variable {w w' : World} {g : Nat} {M D F : Nat → Prop} {S W k : Int} {L : List En}
theorem Ca.keep (h : Ca w g M D S W k L) (hk : Keep F w w') (hF : ∀ k, M k ∨ D k → ¬ F k) : Ca w' g M D S W k L := by
  obtain ⟨R, a, cap, h⟩ := h
  exact ⟨R, a, cap, h.keep hk hF⟩
theorem Ca.below (h : Ca w g M D S W k L) (hb : Below w.heap.size w w') : Ca w' g M D S W k L := h.keep (F := fun _ => False) (Keep.of_below hb) (fun _ _ h => h)
theorem Ca.old (h : Ca w g M D S W k L) : ∀ k, M k ∨ D k → k < w.heap.size := by
  obtain ⟨R, a, cap, h⟩ := h
  exact h.old
end
end Go.Proofs.Ytfobgkkmbacfjaa
