/- The document's homes in memory (DH): a configuration, a node, a row of rows. Conditions: as each theorem states them. -/
import Derived.Test.YtgeiagndpfdnlaaMdWk
import Derived.Test.YtgeiagndpfdnlaaFlat
import Derived.Test.YtgeiagndpfdnlaaIntsSame
namespace Go.Proofs.Ytgeiagndpfdnlaa
open Go.RowKit Go.Maps
set_option linter.unusedVariables false
set_option maxRecDepth 20000

/-- The three cells of a row. -/
def hcells (r : Hr × Value) : List Value := [.int .i64 r.1.s, .int .i64 r.1.h, r.2]
theorem hcells_len (r : Hr × Value) : (hcells r).length = 3 := rfl
theorem hcells_one {r : Hr × Value} (hd : r.2.oneCell' = true) : ∀ u ∈ hcells r, u.oneCell' = true := by
  intro u hu
  simp [hcells] at hu
  rcases hu with h | h | h <;> subst h <;> first | rfl | exact hd
structure DH (w : World) (g : Nat) (M D : Nat → Prop) (N L K : Nat) (node : Int) (R : List (Hr × Value)) (a : Option Addr) (n cap : Nat) : Prop where
  c0 : w.cell? ⟨g, 0, none⟩ = some (.int .i64 (N : Int))
  c1 : w.cell? ⟨g, 1, none⟩ = some (.int .i64 (L : Int))
  c2 : w.cell? ⟨g, 2, none⟩ = some (.int .i64 (K : Int))
  c8 : w.cell? ⟨g, 8, none⟩ = some (.int .i64 node)
  c9 : w.cell? ⟨g, 9, none⟩ = some (.slice a n cap)
  f9 : w.frozen? ⟨g, 9, none⟩ = false
  lt : g < w.heap.size
  len : R.length = n
  row : Rw w M a n cap 3 (flat hcells R)
  dat : ∀ r ∈ R, DatZ w D r.1.z r.2
  old : ∀ j, M j ∨ D j → j < w.heap.size
  dj : ∀ j, M j → ¬ D j
  ng : ¬ M g ∧ ¬ D g
  nums : ∀ (i : Nat) (r : Hr × Value), R[i]? = some r → r.1.n = (i : Int)
section
variable {w w' : World} {g : Nat} {M D F : Nat → Prop} {N L K : Nat} {node : Int} {R : List (Hr × Value)} {a : Option Addr} {n cap : Nat}
theorem DH.keep (h : DH w g M D N L K node R a n cap) (hk : Keep F w w') (hg : ¬ F g) (hF : ∀ j, M j ∨ D j → ¬ F j) : DH w' g M D N L K node R a n cap :=
  have e := fun o => hk.cell (b := g) o h.lt hg
  ⟨(e _).trans h.c0, (e _).trans h.c1, (e _).trans h.c2, (e _).trans h.c8, (e _).trans h.c9, (hk.frozen _ h.lt hg).trans h.f9, Nat.lt_of_lt_of_le h.lt hk.size, h.len, h.row.keep hk (fun j hj => hF j (.inl hj)), fun r hr => (h.dat r hr).keep hk (fun j hj => hF j (.inr hj)),
    fun j hj => Nat.lt_of_lt_of_le (h.old j hj) hk.size, h.dj, h.ng, h.nums⟩
theorem DH.below (h : DH w g M D N L K node R a n cap) (hb : Below w.heap.size w w') : DH w' g M D N L K node R a n cap := h.keep (F := fun _ => False) (Keep.of_below hb) id (fun _ _ h => h)
/-- Row i, cell by cell. -/
theorem DH.get (h : DH w g M D N L K node R a n cap) {i : Nat} (hi : i < n) : ∃ x d b o, R[i]? = some (x, d) ∧ DatZ w D x.z d ∧ x.n = (i : Int) ∧ a = some ⟨b, o, none⟩ ∧ M b ∧ b < w.heap.size ∧
    w.cell? ⟨b, o + i * 3, none⟩ = some (.int .i64 x.s) ∧ w.cell? ⟨b, o + i * 3 + 1, none⟩ = some (.int .i64 x.h) ∧ w.cell? ⟨b, o + i * 3 + 2, none⟩ = some d ∧ (∀ j, j < 3 → w.frozen? ⟨b, o + i * 3 + j, none⟩ = false) := by
  have hl := h.len
  obtain ⟨⟨x, d⟩, hR⟩ : ∃ r, R[i]? = some r := ⟨R[i]'(by omega), List.getElem?_eq_getElem (by omega)⟩
  rcases h.row.row with h0 | ⟨b, o, rfl, hm, hb, hc, hf⟩
  · have := h.row.le; omega
  · have q : ∀ j u, j < 3 → (hcells (x, d))[j]? = some u → w.cell? ⟨b, o + i * 3 + j, none⟩ = some u := fun j u hj hu => by
      rw [Nat.add_assoc]; exact hc _ u (by rw [flat_get hcells_len hR j hj]; exact hu)
    refine ⟨x, d, b, o, hR, h.dat (x, d) (List.mem_of_getElem? hR), h.nums i _ hR, rfl, hm, hb, q 0 _ (by omega) rfl, q 1 _ (by omega) rfl, q 2 _ (by omega) rfl, fun j hj => ?_⟩
    rw [Nat.add_assoc]
    have h1 := h.row.le
    have : (i + 1) * 3 ≤ cap * 3 := Nat.mul_le_mul_right _ (by omega)
    exact (hf (i * 3 + j) (by omega)).2
/-- A row is another one. -/
theorem DH.put {b o : Nat} (h : DH w g M D N L K node R (some ⟨b, o, none⟩) n cap) {i : Nat} (hi : i < n) {E : Nat → Prop} {y : Hr} {v : Value} (hy : y.n = (i : Int)) (hd : DatZ w E y.z v) (hE : ∀ k, E k → k < w.heap.size ∧ ¬ M k ∧ k ≠ g) :
    DH (((w.setCell ⟨b, o + i * 3, none⟩ (.int .i64 y.s)).setCell ⟨b, o + i * 3 + 1, none⟩ (.int .i64 y.h)).setCell ⟨b, o + i * 3 + 2, none⟩ v) g M (fun k => D k ∨ E k) N L K node (R.set i (y, v)) (some ⟨b, o, none⟩) n cap ∧ Keep (fun k => k = b) w (((w.setCell ⟨b, o + i * 3, none⟩ (.int .i64 y.s)).setCell ⟨b, o + i * 3 + 1, none⟩ (.int .i64 y.h)).setCell ⟨b, o + i * 3 + 2, none⟩ v) := by
  obtain ⟨x, d, b', o', hr, _, _, e, hm, hb, _⟩ := h.get hi
  simp at e
  obtain ⟨rfl, rfl⟩ := e
  have hl := h.len
  have k1 : ∀ (V : World) (o : Nat) (u : Value), Keep (fun k => k = b) w V → Keep (fun k => k = b) w (V.setCell ⟨b, o, none⟩ u) := fun V o u h => h.setCell (p := ⟨b, o, none⟩) (.inl rfl) u
  have kk := k1 _ (o + i * 3 + 2) v (k1 _ (o + i * 3 + 1) (.int .i64 y.h) (k1 _ (o + i * 3) (.int .i64 y.s) (Keep.refl _ w)))
  have row := ((h.row.set (i := i * 3 + 0) (by omega) (.int .i64 y.s)).set (i := i * 3 + 1) (by omega) (.int .i64 y.h)).set (i := i * 3 + 2) (by omega) v
  have hi' : i < R.length := by omega
  have e0 := flat_set hcells_len (R := R) (i := i) (j := 0) (r' := ({ x with s := y.s }, d)) (u := .int .i64 y.s) hr (by omega) rfl
  have e1 := flat_set hcells_len (R := R.set i ({ x with s := y.s }, d)) (i := i) (j := 1) (r' := ({ x with s := y.s, h := y.h }, d)) (u := .int .i64 y.h) (List.getElem?_set_self (a := (({ x with s := y.s }, d) : Hr × Value)) (by simpa using hi')) (by omega) rfl
  have e2 := flat_set hcells_len (R := (R.set i ({ x with s := y.s }, d)).set i ({ x with s := y.s, h := y.h }, d)) (i := i) (j := 2) (r' := (y, v)) (u := v) (List.getElem?_set_self (a := (({ x with s := y.s, h := y.h }, d) : Hr × Value)) (by simpa using hi')) (by omega) rfl
  rw [e0, e1, e2] at row
  simp only [List.set_set, Nat.add_zero, ← Nat.add_assoc] at row
  have e := fun o' => kk.cell (b := g) o' h.lt (fun e => h.ng.1 (e ▸ hm))
  refine ⟨⟨(e _).trans h.c0, (e _).trans h.c1, (e _).trans h.c2, (e _).trans h.c8, (e _).trans h.c9, (kk.frozen _ h.lt (fun e => h.ng.1 (e ▸ hm))).trans h.f9, Nat.lt_of_lt_of_le h.lt kk.size, by rw [List.length_set]; exact h.len, row, fun r hr' => ?_, fun j hj => ?_, fun j hj hd => ?_, ⟨h.ng.1, fun hg => hg.elim h.ng.2 (fun he => (hE _ he).2.2 rfl)⟩, fun j r hj => ?_⟩, kk⟩
  · rcases List.mem_or_eq_of_mem_set hr' with hr' | rfl
    · exact ((h.dat r hr').keep kk (fun k hd e => h.dj b hm (e ▸ hd))).imp (fun k _ h => .inl h)
    · exact (hd.keep kk (fun k he e => (hE b (e ▸ he)).2.1 hm)).imp (fun k _ h => .inr h)
  · refine Nat.lt_of_lt_of_le ?_ kk.size
    rcases hj with hj | hj | hj
    · exact h.old j (.inl hj)
    · exact h.old j (.inr hj)
    · exact (hE j hj).1
  · exact hd.elim (h.dj j hj) (fun he => (hE j he).2.1 hj)
  · rw [List.getElem?_set] at hj
    by_cases e : i = j
    · subst e
      rw [if_pos rfl, if_pos hi'] at hj
      obtain rfl := Option.some.inj hj
      exact hy
    · rw [if_neg e] at hj
      exact h.nums j r hj
/-- No turns yet: the two cells behind the rows. -/
structure Nil2 (w : World) (g : Nat) : Prop where
  a : w.cell? ⟨g, 10, none⟩ = some (.slice none 0 0)
  b : w.cell? ⟨g, 11, none⟩ = some (.slice none 0 0)
  c : w.frozen? ⟨g, 10, none⟩ = false
  d : w.frozen? ⟨g, 11, none⟩ = false
  lt : g < w.heap.size
theorem Nil2.keep (h : Nil2 w g) (hk : Keep F w w') (hg : ¬ F g) : Nil2 w' g := ⟨(hk.cell _ h.lt hg).trans h.a, (hk.cell _ h.lt hg).trans h.b, (hk.frozen _ h.lt hg).trans h.c, (hk.frozen _ h.lt hg).trans h.d, Nat.lt_of_lt_of_le h.lt hk.size⟩
theorem Nil2.below (h : Nil2 w g) (hb : Below w.heap.size w w') : Nil2 w' g := h.keep (F := fun _ => False) (Keep.of_below hb) id
theorem Nil2.set9 (h : Nil2 w g) (v : Value) : Nil2 (w.setCell ⟨g, 9, none⟩ v) g := ⟨by rw [World.cell?_setCell_other _ _ _ _ (by simp)]; exact h.a, by rw [World.cell?_setCell_other _ _ _ _ (by simp)]; exact h.b, by rw [World.frozen?_setCell]; exact h.c, by rw [World.frozen?_setCell]; exact h.d, by simpa using h.lt⟩
theorem dsame_any (x : Hr) (a b : Option Addr) (n c1 c2 : Nat) (w : World) (h1 : Sl w a n c1 x.z) (h2 : Sl w b n c2 x.z) :
    Calls Try.prog 46 #[.agg #[.int .i64 x.s, .int .i64 x.h, .slice a n c1], .agg #[.int .i64 x.s, .int .i64 x.h, .slice b n c2]] w fun e w' => e = .returned (.bool true) ∧ Below w.heap.size w w' := by
  go_enter Try.func46, Try.ntmps46
  go_wp2_with (go_at_call 24; refine (same_any _ _ _ _ _ _ _ _ _ (h1.below (ba (ba (Below.refl _ _)))) (h2.below (ba (ba (Below.refl _ _))))).mono ?_; rintro e w' ⟨rfl, kk, rfl⟩)
  go_ret
  exact ⟨ret_bool (by simp), next (ba (ba (Below.refl _ _))) ⟨rfl, rfl, rfl, Nat.le_refl _, fun _ _ => rfl⟩⟩
/-- Is a line's home here? -/
def hereI (N L : Nat) (node l : Int) : Bool := decide (0 ≤ l) && decide (l < (L : Int)) && decide (l % (N : Int) = node)
theorem dhere_any (h : DH w g M D N L K node R a n cap) (hN : 1 ≤ N) (l : Int) : Calls Try.prog 41 #[.pointer (some ⟨g, 0, none⟩), .int .i64 l] w fun e w' => e = .returned (.bool (hereI N L node l)) ∧ Below w.heap.size w w' := by
  have c0 := h.c0
  have c1 := h.c1
  have c8 := h.c8
  have lt := h.lt
  have hn : (N : Int) ≠ 0 := by omega
  go_enter Try.func41, Try.ntmps41
  have uc := @Up.cell
  by_cases h0 : 0 ≤ l
  · by_cases h1 : l < (L : Int)
    · have he : hereI N L node l = (l % (N : Int) == node) := by unfold hereI; rw [decide_eq_true h0, decide_eq_true h1]; rw [Bool.eq_iff_iff]; simp
      go_wp2_with fail
      refine wp_region_up (by kernel_rfl) (by kernel_rfl) ?_
      repeat (go_big_quiet_step (fail))
      refine wpQuiet_nil ?_
      rintro _ ⟨u, rfl⟩
      go_wp2
      go_ret
      exact ⟨ret_bool he.symm, u.2⟩
    · have he : hereI N L node l = false := by unfold hereI; rw [decide_eq_false h1]; simp
      have h1' : decide (l < (L : Int)) = false := decide_eq_false h1
      have h1b : (L : Int) ≤ l := by omega
      go_wp2_with fail
      refine wp_region_up (by kernel_rfl) (by kernel_rfl) ?_
      repeat (go_big_quiet_step (fail))
      refine wpQuiet_nil ?_
      rintro _ ⟨u, rfl⟩
      go_wp2
      go_ret
      exact ⟨ret_bool he.symm, u.2⟩
  · have he : hereI N L node l = false := by unfold hereI; rw [decide_eq_false h0]; simp
    have h0' : decide (0 ≤ l) = false := decide_eq_false h0
    have h0b : l < 0 := by omega
    go_wp2_with fail
    refine wp_region_up (by kernel_rfl) (by kernel_rfl) ?_
    repeat (go_big_quiet_step (fail))
    refine wpQuiet_nil ?_
    rintro _ ⟨u, rfl⟩
    go_wp2
    go_ret
    exact ⟨ret_bool he.symm, u.2⟩
end
end Go.Proofs.Ytgeiagndpfdnlaa
