/- Rows of entries in memory that may be written, their words elsewhere (ERow). Nothing of the program is named here but the entries' type. -/
import Derived.Test.YtgeiagndpfdnlaaFlat
import Derived.Test.YtgeiagndpfdnlaaEnt0
namespace Go.Proofs.Ytgeiagndpfdnlaa
open Go.RowKit
set_option linter.unusedVariables false

/-- The six cells of an entry. -/
def ecells (r : En × Value) : List Value := [.int .i64 r.1.f, .int .i64 r.1.b, .int .i64 r.1.n, .int .i64 r.1.u, .bool r.1.q, r.2]
theorem ecells_len (r : En × Value) : (ecells r).length = 6 := rfl
theorem ecells_one {r : En × Value} (hd : r.2.oneCell' = true) : ∀ u ∈ ecells r, u.oneCell' = true := by
  intro u hu
  simp [ecells] at hu
  rcases hu with h | h | h | h | h | h <;> subst h <;> first | rfl | exact hd
/-- Words, in a block of D if there are any. -/
def pz (z : List Int) : Pk := ⟨0, 0, 0, 0, 0, 0, 0, false, z⟩
@[reducible] def DatZ (w : World) (D : Nat → Prop) (z : List Int) (d : Value) : Prop := Dat w D (pz z) d
theorem datz_own {w : World} {base : Nat} {v : Value} {z : List Int} (h : Own w base v z) (hn : z.length ≤ 17592186044416) : DatZ w (fun k => base ≤ k) z v := dat_own (x := pz z) h hn
/-- A row of the entries L, in a block of M; their words lie in blocks of D. -/
structure ERow (w : World) (M D : Nat → Prop) (L : List En) (R : List (En × Value)) (a : Option Addr) (n cap : Nat) : Prop where
  eq : R.map Prod.fst = L
  len : L.length = n
  row : Rw w M a n cap 6 (flat ecells R)
  dat : ∀ r ∈ R, DatZ w D r.1.z r.2
  old : ∀ k, M k → k < w.heap.size
  dj : ∀ k, M k → ¬ D k
section
variable {w w' : World} {M D F : Nat → Prop} {L : List En} {R : List (En × Value)} {a : Option Addr} {n cap : Nat}
theorem ERow.rlen (h : ERow w M D L R a n cap) : R.length = n := by have := congrArg List.length h.eq; simp at this; rw [this, h.len]
theorem ERow.keep (h : ERow w M D L R a n cap) (hk : Keep F w w') (hF : ∀ k, M k ∨ D k → ¬ F k) : ERow w' M D L R a n cap :=
  ⟨h.eq, h.len, h.row.keep hk (fun k hm => hF k (.inl hm)), fun r hr => (h.dat r hr).keep hk (fun k hd => hF k (.inr hd)), fun k hm => Nat.lt_of_lt_of_le (h.old k hm) hk.size, h.dj⟩
theorem ERow.below (h : ERow w M D L R a n cap) (hb : Below w.heap.size w w') : ERow w' M D L R a n cap := h.keep (F := fun _ => False) (Keep.of_below hb) (fun _ _ h => h)
theorem erow_nil (w : World) (D : Nat → Prop) : ERow w (fun _ => False) D [] [] none 0 0 := ⟨rfl, rfl, rw_nil _ _ _, fun r hr => (by cases hr), fun k h => h.elim, fun k h => h.elim⟩
theorem ERow.onecell (h : ERow w M D L R a n cap) : ∀ u ∈ flat ecells R, u.oneCell' = true := flat_onecell (fun r hr => ecells_one (h.dat r hr).one)
/-- Element i, cell by cell. -/
theorem ERow.get (h : ERow w M D L R a n cap) {i : Nat} (hi : i < n) : ∃ x d b o, L[i]? = some x ∧ R[i]? = some (x, d) ∧ DatZ w D x.z d ∧ a = some ⟨b, o, none⟩ ∧ M b ∧ b < w.heap.size ∧
    (w.cell? ⟨b, o + i * 6, none⟩ = some (.int .i64 x.f) ∧ w.cell? ⟨b, o + i * 6 + 1, none⟩ = some (.int .i64 x.b) ∧ w.cell? ⟨b, o + i * 6 + 2, none⟩ = some (.int .i64 x.n) ∧ w.cell? ⟨b, o + i * 6 + 3, none⟩ = some (.int .i64 x.u) ∧
    w.cell? ⟨b, o + i * 6 + 4, none⟩ = some (.bool x.q) ∧ w.cell? ⟨b, o + i * 6 + 5, none⟩ = some d) ∧
    (∀ j, j < 6 → w.frozen? ⟨b, o + i * 6 + j, none⟩ = false) := by
  have hl := h.rlen
  obtain ⟨⟨x, d⟩, hR'⟩ : ∃ r, R[i]? = some r := ⟨R[i]'(by omega), List.getElem?_eq_getElem (by omega)⟩
  rcases h.row.row with h0 | ⟨b, o, rfl, hm, hb, hc, hf⟩
  · have := h.row.le; omega
  · have g : ∀ j u, j < 6 → (ecells (x, d))[j]? = some u → w.cell? ⟨b, o + i * 6 + j, none⟩ = some u := fun j u hj hu => by
      rw [Nat.add_assoc]; exact hc _ u (by rw [flat_get ecells_len hR' j hj]; exact hu)
    refine ⟨x, d, b, o, ?_, hR', h.dat (x, d) (List.mem_of_getElem? hR'), rfl, hm, hb, ⟨g 0 _ (by omega) rfl, g 1 _ (by omega) rfl, g 2 _ (by omega) rfl, g 3 _ (by omega) rfl, g 4 _ (by omega) rfl, g 5 _ (by omega) rfl⟩, fun j hj => ?_⟩
    · rw [← h.eq, List.getElem?_map, hR']; rfl
    · rw [Nat.add_assoc]
      have h1 := h.row.le
      have : (i + 1) * 6 ≤ cap * 6 := Nat.mul_le_mul_right _ (by omega)
      exact (hf (i * 6 + j) (by omega)).2
theorem map_set' {α β : Type} (f : α → β) (l : List α) (i : Nat) (x : α) : (l.set i x).map f = (l.map f).set i (f x) := by simp [List.map_set]
/-- The Used of one element is another one. -/
theorem ERow.setU {b o : Nat} (h : ERow w M D L R (some ⟨b, o, none⟩) n cap) {i : Nat} {x : En} {d : Value} (hi : i < n) (hr : R[i]? = some (x, d)) (u : Int) :
    ERow (w.setCell ⟨b, o + i * 6 + 3, none⟩ (.int .i64 u)) M D (L.set i { x with u := u }) (R.set i ({ x with u := u }, d)) (some ⟨b, o, none⟩) n cap := by
  obtain ⟨x', d', b', o', _, _, _, e, hm, hb, _⟩ := h.get hi
  simp at e
  obtain ⟨rfl, rfl⟩ := e
  have kk := Keep.one w b (o + (i * 6 + 3)) (.int .i64 u)
  have row := h.row.set (i := i * 6 + 3) (by omega) (.int .i64 u)
  rw [flat_set ecells_len hr (r' := ({ x with u := u }, d)) (by omega) rfl] at row
  rw [Nat.add_assoc]
  refine ⟨by rw [map_set', h.eq], by rw [List.length_set]; exact h.len, row, fun r hr' => ?_, fun k hk => by simpa using h.old k hk, h.dj⟩
  rcases List.mem_or_eq_of_mem_set hr' with hr' | rfl
  · exact (h.dat r hr').keep kk (fun k hd e => h.dj b hm (e ▸ hd))
  · exact (h.dat (x, d) (List.mem_of_getElem? hr)).keep kk (fun k hd e => h.dj b hm (e ▸ hd))
/-- One element is another one, its words elsewhere. -/
theorem ERow.put {b o : Nat} (h : ERow w M D L R (some ⟨b, o, none⟩) n cap) {i : Nat} (hi : i < n) {E : Nat → Prop} {y : En} {v : Value} (hd : DatZ w E y.z v) (hE : ∀ k, E k → ¬ M k) :
    ERow ((((((w.setCell ⟨b, o + i * 6, none⟩ (.int .i64 y.f)).setCell ⟨b, o + i * 6 + 1, none⟩ (.int .i64 y.b)).setCell ⟨b, o + i * 6 + 2, none⟩ (.int .i64 y.n)).setCell ⟨b, o + i * 6 + 3, none⟩ (.int .i64 y.u)).setCell ⟨b, o + i * 6 + 4, none⟩ (.bool y.q)).setCell ⟨b, o + i * 6 + 5, none⟩ v) M (fun k => D k ∨ E k) (L.set i y) (R.set i (y, v)) (some ⟨b, o, none⟩) n cap := by
  obtain ⟨x, d, b', o', _, hr, _, e, hm, hb, _⟩ := h.get hi
  simp at e
  obtain ⟨rfl, rfl⟩ := e
  have hl := h.rlen
  have k1 : ∀ (V : World) (o : Nat) (u : Value), Keep (fun k => k = b) w V → Keep (fun k => k = b) w (V.setCell ⟨b, o, none⟩ u) := fun V o u h => h.setCell (p := ⟨b, o, none⟩) (.inl rfl) u
  have kk := k1 _ (o + i * 6 + 5) v (k1 _ (o + i * 6 + 4) (.bool y.q) (k1 _ (o + i * 6 + 3) (.int .i64 y.u) (k1 _ (o + i * 6 + 2) (.int .i64 y.n) (k1 _ (o + i * 6 + 1) (.int .i64 y.b) (k1 _ (o + i * 6) (.int .i64 y.f) (Keep.refl _ w))))))
  have row := (((((h.row.set (i := i * 6 + 0) (by omega) (.int .i64 y.f)).set (i := i * 6 + 1) (by omega) (.int .i64 y.b)).set (i := i * 6 + 2) (by omega) (.int .i64 y.n)).set (i := i * 6 + 3) (by omega) (.int .i64 y.u)).set (i := i * 6 + 4) (by omega) (.bool y.q)).set (i := i * 6 + 5) (by omega) v
  have hi' : i < R.length := by omega
  have e0 := flat_set ecells_len (R := R) (i := i) (j := 0) (r' := ({ x with f := y.f }, d)) (u := .int .i64 y.f) hr (by omega) rfl
  have e1 := flat_set ecells_len (R := (R).set i ({ x with f := y.f }, d)) (i := i) (j := 1) (r' := ({ x with f := y.f, b := y.b }, d)) (u := .int .i64 y.b) (List.getElem?_set_self (a := (({ x with f := y.f }, d) : En × Value)) (by simpa using hi')) (by omega) rfl
  have e2 := flat_set ecells_len (R := ((R).set i ({ x with f := y.f }, d)).set i ({ x with f := y.f, b := y.b }, d)) (i := i) (j := 2) (r' := ({ x with f := y.f, b := y.b, n := y.n }, d)) (u := .int .i64 y.n) (List.getElem?_set_self (a := (({ x with f := y.f, b := y.b }, d) : En × Value)) (by simpa using hi')) (by omega) rfl
  have e3 := flat_set ecells_len (R := (((R).set i ({ x with f := y.f }, d)).set i ({ x with f := y.f, b := y.b }, d)).set i ({ x with f := y.f, b := y.b, n := y.n }, d)) (i := i) (j := 3) (r' := ({ x with f := y.f, b := y.b, n := y.n, u := y.u }, d)) (u := .int .i64 y.u) (List.getElem?_set_self (a := (({ x with f := y.f, b := y.b, n := y.n }, d) : En × Value)) (by simpa using hi')) (by omega) rfl
  have e4 := flat_set ecells_len (R := ((((R).set i ({ x with f := y.f }, d)).set i ({ x with f := y.f, b := y.b }, d)).set i ({ x with f := y.f, b := y.b, n := y.n }, d)).set i ({ x with f := y.f, b := y.b, n := y.n, u := y.u }, d)) (i := i) (j := 4) (r' := ({ x with f := y.f, b := y.b, n := y.n, u := y.u, q := y.q }, d)) (u := .bool y.q) (List.getElem?_set_self (a := (({ x with f := y.f, b := y.b, n := y.n, u := y.u }, d) : En × Value)) (by simpa using hi')) (by omega) rfl
  have e5 := flat_set ecells_len (R := (((((R).set i ({ x with f := y.f }, d)).set i ({ x with f := y.f, b := y.b }, d)).set i ({ x with f := y.f, b := y.b, n := y.n }, d)).set i ({ x with f := y.f, b := y.b, n := y.n, u := y.u }, d)).set i ({ x with f := y.f, b := y.b, n := y.n, u := y.u, q := y.q }, d)) (i := i) (j := 5) (r' := (y, v)) (u := v) (List.getElem?_set_self (a := (({ x with f := y.f, b := y.b, n := y.n, u := y.u, q := y.q }, d) : En × Value)) (by simpa using hi')) (by omega) rfl
  rw [e0, e1, e2, e3, e4, e5] at row
  simp only [List.set_set, Nat.add_zero, ← Nat.add_assoc] at row
  refine ⟨by rw [map_set', h.eq], by rw [List.length_set]; exact h.len, row, fun r hr' => ?_, fun k hk => by simpa using h.old k hk, ?_⟩
  · rcases List.mem_or_eq_of_mem_set hr' with hr' | rfl
    · exact ((h.dat r hr').keep kk (fun k hd e => h.dj b hm (e ▸ hd))).imp (fun k _ h => .inl h)
    · exact (hd.keep kk (fun k he e => hE b (e ▸ he) hm)).imp (fun k _ h => .inr h)
  · intro k hk hd
    rcases hd with hd | hd
    · exact h.dj k hk hd
    · exact hE k hd hk
end
end Go.Proofs.Ytgeiagndpfdnlaa
