/- The contract of Same over whole numbers. Conditions: as stated.
The document's homes in memory (DH): a configuration, a node, a row of rows. Conditions: as each theorem states them.
A configuration's variable in memory, whatever its numbers.
The contract of the document's own Words. Conditions: as each theorem states them.
The contract of the document's NewHomes. Conditions: as each theorem states them.
The contract of the document's Set of a row. Conditions: as each theorem states them.
The contract of the document's Set of a row, when it sets. Conditions: as each theorem states them.
A directory and the document's homes beside each other (DP), and what the test has of its own. Conditions: as each theorem states them.
Turns on plain data: who has which line, who waits; seen line by line. Nothing of the program is named here. -/
import Derived.Test.YtgeiagndpfdnlaaPart1
import Derived.Test.YtgeiagndpfdnlaaPart3
import Derived.Test.YtgeiagndpfdnlaaPart2
section
namespace Go.Proofs.Ytgeiagndpfdnlaa
open Go.RowKit
set_option linter.unusedVariables false

theorem same_any (a b : Option Addr) (l m : List Int) (n1 n2 c1 c2 : Nat) (w : World) (h1 : Sl w a n1 c1 l) (h2 : Sl w b n2 c2 m) :
    Calls Try.prog 24 #[.slice a n1 c1, .slice b n2 c2] w fun e w' => e = .returned (.bool (decide (l = m))) ∧ ∃ k, w' = w.drewN k := by
  obtain ⟨hn1, hle1, hmx1, _, hr1⟩ := h1
  obtain ⟨hn2, hle2, hmx2, _, hr2⟩ := h2
  unfold maxLen at hmx1 hmx2
  subst hn1; subst hn2
  by_cases hne : l.length = m.length
  · rcases hr1 with rfl | ⟨b1, o1, rfl, hc1⟩
    · obtain rfl : m = [] := List.eq_nil_of_length_eq_zero hne.symm
      clear hr2 hne
      go_enter Try.func24, Try.ntmps24
      go_wp2
      refine wp_loop_rounds 1 ?_
      rw [rounds_succ]
      go_wp2
      go_ret
      exact ⟨rfl, 0, rfl⟩
    rcases hr2 with rfl | ⟨b2, o2, rfl, hc2⟩
    · obtain rfl : l = [] := List.eq_nil_of_length_eq_zero hne
      clear hc1 hne
      go_enter Try.func24, Try.ntmps24
      go_wp2
      refine wp_loop_rounds 1 ?_
      rw [rounds_succ]
      go_wp2
      go_ret
      exact ⟨rfl, 0, rfl⟩
    · have HN : Hid (l.length = m.length) := hne
      have hne' : ((l.length : Int) != (m.length : Int)) = false := by simp [hne]
      clear hne
      go_enter Try.func24, Try.ntmps24
      go_wp2
      go_loopw [5] (fun i wr => ∃ k : Nat, k ≤ l.length ∧ i = .int .i64 k ∧ l.take k = m.take k ∧ ∃ j, wr = w.drewN j) (fun i _ => l.length - (intOf i).toNat)
      case atStart => exact ⟨0, by omega, rfl, rfl, 0, rfl⟩
      case round =>
        obtain ⟨k, hk, rfl, heq, j, rfl⟩ := hrel
        have HE : Hid (l.take k = m.take k) := heq
        clear heq
        by_cases hlt : k < l.length
        · have x1 := hc1 k hlt
          have x2 := hc2 k (by have := HN.out; omega)
          have hlt2 : k < m.length := by have := HN.out; omega
          clear hc1 hc2
          obtain ⟨x, hx1⟩ : ∃ x, x = l[k]?.getD 0 := ⟨_, rfl⟩
          obtain ⟨y, hy1⟩ : ∃ y, y = m[k]?.getD 0 := ⟨_, rfl⟩
          rw [← hx1] at x1
          rw [← hy1] at x2
          have HX : Hid (x = l[k]?.getD 0) := hx1
          have HY : Hid (y = m[k]?.getD 0) := hy1
          clear hx1 hy1
          by_cases hx : x = y
          · have HXY : Hid (x = y) := hx
            have hx' : (x != y) = false := by simp [hx]
            clear hx
            go_wp2_with fail
            go_quiet (fail)
            go_wp2
            go_roundw
            case rel => exact ⟨k + 1, by omega, by go_num, take_same HE.out (by rw [← HX.out, ← HY.out, HXY.out]) hlt hlt2, _, rfl⟩
            case measure => simp [intOf]; omega
          · have HXY : Hid (¬ x = y) := hx
            have hx' : (x != y) = true := by simpa using hx
            clear hx
            go_wp2_with fail
            go_quiet (fail)
            go_wp2
            go_ret
            exact ⟨ret_bool (decide_eq_false (fun h => HXY.out (by rw [HX.out, HY.out, h]))).symm, _, by first | rfl | exact World.drewN_drewN ..⟩
        · go_wp2
          go_ret
          refine ⟨ret_bool (decide_eq_true ?_).symm, _, rfl⟩
          have := HE.out
          rw [List.take_of_length_le (by omega), List.take_of_length_le (by have := HN.out; omega)] at this
          exact this
  · have hne' : ((l.length : Int) != (m.length : Int)) = true := by simp; omega
    go_enter Try.func24, Try.ntmps24
    go_wp2
    go_ret
    exact ⟨ret_bool (decide_eq_false (fun h => hne (by rw [h]))).symm, 0, rfl⟩
end Go.Proofs.Ytgeiagndpfdnlaa
end
section
namespace Go.Proofs.Ytgeiagndpfdnlaa
open Go.RowKit Go.Maps
set_option linter.unusedVariables false
set_option maxRecDepth 20000

/-- The three cells of a row. -/
def hcells (r : Hr × Value) : List Value := [.int .i64 r.1.s, .int .i64 r.1.h, r.2]
theorem hcells_len (r : Hr × Value) : (hcells r).length = 3 := rfl
theorem hcells_one {r : Hr × Value} (hd : r.2.oneCell' = true) : ∀ u ∈ hcells r, u.oneCell' = true := by
  intro u hu
  simp [hcells] at hu
  rcases hu with h | h | h <;> subst h <;> first | rfl | exact hd
structure DH (w : World) (g : Nat) (M D : Nat → Prop) (N L K : Nat) (node : Int) (R : List (Hr × Value)) (a : Option Addr) (n cap : Nat) : Prop where
  c0 : w.cell? ⟨g, 0, none⟩ = some (.int .i64 (N : Int))
  c1 : w.cell? ⟨g, 1, none⟩ = some (.int .i64 (L : Int))
  c2 : w.cell? ⟨g, 2, none⟩ = some (.int .i64 (K : Int))
  c8 : w.cell? ⟨g, 8, none⟩ = some (.int .i64 node)
  c9 : w.cell? ⟨g, 9, none⟩ = some (.slice a n cap)
  f9 : w.frozen? ⟨g, 9, none⟩ = false
  lt : g < w.heap.size
  len : R.length = n
  row : Rw w M a n cap 3 (flat hcells R)
  dat : ∀ r ∈ R, DatZ w D r.1.z r.2
  old : ∀ j, M j ∨ D j → j < w.heap.size
  dj : ∀ j, M j → ¬ D j
  ng : ¬ M g ∧ ¬ D g
  nums : ∀ (i : Nat) (r : Hr × Value), R[i]? = some r → r.1.n = (i : Int)
section
variable {w w' : World} {g : Nat} {M D F : Nat → Prop} {N L K : Nat} {node : Int} {R : List (Hr × Value)} {a : Option Addr} {n cap : Nat}
theorem DH.keep (h : DH w g M D N L K node R a n cap) (hk : Keep F w w') (hg : ¬ F g) (hF : ∀ j, M j ∨ D j → ¬ F j) : DH w' g M D N L K node R a n cap :=
  have e := fun o => hk.cell (b := g) o h.lt hg
  ⟨(e _).trans h.c0, (e _).trans h.c1, (e _).trans h.c2, (e _).trans h.c8, (e _).trans h.c9, (hk.frozen _ h.lt hg).trans h.f9, Nat.lt_of_lt_of_le h.lt hk.size, h.len, h.row.keep hk (fun j hj => hF j (.inl hj)), fun r hr => (h.dat r hr).keep hk (fun j hj => hF j (.inr hj)),
    fun j hj => Nat.lt_of_lt_of_le (h.old j hj) hk.size, h.dj, h.ng, h.nums⟩
theorem DH.below (h : DH w g M D N L K node R a n cap) (hb : Below w.heap.size w w') : DH w' g M D N L K node R a n cap := h.keep (F := fun _ => False) (Keep.of_below hb) id (fun _ _ h => h)
/-- Row i, cell by cell. -/
theorem DH.get (h : DH w g M D N L K node R a n cap) {i : Nat} (hi : i < n) : ∃ x d b o, R[i]? = some (x, d) ∧ DatZ w D x.z d ∧ x.n = (i : Int) ∧ a = some ⟨b, o, none⟩ ∧ M b ∧ b < w.heap.size ∧
    w.cell? ⟨b, o + i * 3, none⟩ = some (.int .i64 x.s) ∧ w.cell? ⟨b, o + i * 3 + 1, none⟩ = some (.int .i64 x.h) ∧ w.cell? ⟨b, o + i * 3 + 2, none⟩ = some d ∧ (∀ j, j < 3 → w.frozen? ⟨b, o + i * 3 + j, none⟩ = false) := by
  have hl := h.len
  obtain ⟨⟨x, d⟩, hR⟩ : ∃ r, R[i]? = some r := ⟨R[i]'(by omega), List.getElem?_eq_getElem (by omega)⟩
  rcases h.row.row with h0 | ⟨b, o, rfl, hm, hb, hc, hf⟩
  · have := h.row.le; omega
  · have q : ∀ j u, j < 3 → (hcells (x, d))[j]? = some u → w.cell? ⟨b, o + i * 3 + j, none⟩ = some u := fun j u hj hu => by
      rw [Nat.add_assoc]; exact hc _ u (by rw [flat_get hcells_len hR j hj]; exact hu)
    refine ⟨x, d, b, o, hR, h.dat (x, d) (List.mem_of_getElem? hR), h.nums i _ hR, rfl, hm, hb, q 0 _ (by omega) rfl, q 1 _ (by omega) rfl, q 2 _ (by omega) rfl, fun j hj => ?_⟩
    rw [Nat.add_assoc]
    have h1 := h.row.le
    have : (i + 1) * 3 ≤ cap * 3 := Nat.mul_le_mul_right _ (by omega)
    exact (hf (i * 3 + j) (by omega)).2
/-- A row is another one. -/
theorem DH.put {b o : Nat} (h : DH w g M D N L K node R (some ⟨b, o, none⟩) n cap) {i : Nat} (hi : i < n) {E : Nat → Prop} {y : Hr} {v : Value} (hy : y.n = (i : Int)) (hd : DatZ w E y.z v) (hE : ∀ k, E k → k < w.heap.size ∧ ¬ M k ∧ k ≠ g) :
    DH (((w.setCell ⟨b, o + i * 3, none⟩ (.int .i64 y.s)).setCell ⟨b, o + i * 3 + 1, none⟩ (.int .i64 y.h)).setCell ⟨b, o + i * 3 + 2, none⟩ v) g M (fun k => D k ∨ E k) N L K node (R.set i (y, v)) (some ⟨b, o, none⟩) n cap ∧ Keep (fun k => k = b) w (((w.setCell ⟨b, o + i * 3, none⟩ (.int .i64 y.s)).setCell ⟨b, o + i * 3 + 1, none⟩ (.int .i64 y.h)).setCell ⟨b, o + i * 3 + 2, none⟩ v) := by
  obtain ⟨x, d, b', o', hr, _, _, e, hm, hb, _⟩ := h.get hi
  simp at e
  obtain ⟨rfl, rfl⟩ := e
  have hl := h.len
  have k1 : ∀ (V : World) (o : Nat) (u : Value), Keep (fun k => k = b) w V → Keep (fun k => k = b) w (V.setCell ⟨b, o, none⟩ u) := fun V o u h => h.setCell (p := ⟨b, o, none⟩) (.inl rfl) u
  have kk := k1 _ (o + i * 3 + 2) v (k1 _ (o + i * 3 + 1) (.int .i64 y.h) (k1 _ (o + i * 3) (.int .i64 y.s) (Keep.refl _ w)))
  have row := ((h.row.set (i := i * 3 + 0) (by omega) (.int .i64 y.s)).set (i := i * 3 + 1) (by omega) (.int .i64 y.h)).set (i := i * 3 + 2) (by omega) v
  have hi' : i < R.length := by omega
  have e0 := flat_set hcells_len (R := R) (i := i) (j := 0) (r' := ({ x with s := y.s }, d)) (u := .int .i64 y.s) hr (by omega) rfl
  have e1 := flat_set hcells_len (R := R.set i ({ x with s := y.s }, d)) (i := i) (j := 1) (r' := ({ x with s := y.s, h := y.h }, d)) (u := .int .i64 y.h) (List.getElem?_set_self (a := (({ x with s := y.s }, d) : Hr × Value)) (by simpa using hi')) (by omega) rfl
  have e2 := flat_set hcells_len (R := (R.set i ({ x with s := y.s }, d)).set i ({ x with s := y.s, h := y.h }, d)) (i := i) (j := 2) (r' := (y, v)) (u := v) (List.getElem?_set_self (a := (({ x with s := y.s, h := y.h }, d) : Hr × Value)) (by simpa using hi')) (by omega) rfl
  rw [e0, e1, e2] at row
  simp only [List.set_set, Nat.add_zero, ← Nat.add_assoc] at row
  have e := fun o' => kk.cell (b := g) o' h.lt (fun e => h.ng.1 (e ▸ hm))
  refine ⟨⟨(e _).trans h.c0, (e _).trans h.c1, (e _).trans h.c2, (e _).trans h.c8, (e _).trans h.c9, (kk.frozen _ h.lt (fun e => h.ng.1 (e ▸ hm))).trans h.f9, Nat.lt_of_lt_of_le h.lt kk.size, by rw [List.length_set]; exact h.len, row, fun r hr' => ?_, fun j hj => ?_, fun j hj hd => ?_, ⟨h.ng.1, fun hg => hg.elim h.ng.2 (fun he => (hE _ he).2.2 rfl)⟩, fun j r hj => ?_⟩, kk⟩
  · rcases List.mem_or_eq_of_mem_set hr' with hr' | rfl
    · exact ((h.dat r hr').keep kk (fun k hd e => h.dj b hm (e ▸ hd))).imp (fun k _ h => .inl h)
    · exact (hd.keep kk (fun k he e => (hE b (e ▸ he)).2.1 hm)).imp (fun k _ h => .inr h)
  · refine Nat.lt_of_lt_of_le ?_ kk.size
    rcases hj with hj | hj | hj
    · exact h.old j (.inl hj)
    · exact h.old j (.inr hj)
    · exact (hE j hj).1
  · exact hd.elim (h.dj j hj) (fun he => (hE j he).2.1 hj)
  · rw [List.getElem?_set] at hj
    by_cases e : i = j
    · subst e
      rw [if_pos rfl, if_pos hi'] at hj
      obtain rfl := Option.some.inj hj
      exact hy
    · rw [if_neg e] at hj
      exact h.nums j r hj
/-- No turns yet: the two cells behind the rows. -/
structure Nil2 (w : World) (g : Nat) : Prop where
  a : w.cell? ⟨g, 10, none⟩ = some (.slice none 0 0)
  b : w.cell? ⟨g, 11, none⟩ = some (.slice none 0 0)
  c : w.frozen? ⟨g, 10, none⟩ = false
  d : w.frozen? ⟨g, 11, none⟩ = false
  lt : g < w.heap.size
theorem Nil2.keep (h : Nil2 w g) (hk : Keep F w w') (hg : ¬ F g) : Nil2 w' g := ⟨(hk.cell _ h.lt hg).trans h.a, (hk.cell _ h.lt hg).trans h.b, (hk.frozen _ h.lt hg).trans h.c, (hk.frozen _ h.lt hg).trans h.d, Nat.lt_of_lt_of_le h.lt hk.size⟩
theorem Nil2.below (h : Nil2 w g) (hb : Below w.heap.size w w') : Nil2 w' g := h.keep (F := fun _ => False) (Keep.of_below hb) id
theorem Nil2.set9 (h : Nil2 w g) (v : Value) : Nil2 (w.setCell ⟨g, 9, none⟩ v) g := ⟨by rw [World.cell?_setCell_other _ _ _ _ (by simp)]; exact h.a, by rw [World.cell?_setCell_other _ _ _ _ (by simp)]; exact h.b, by rw [World.frozen?_setCell]; exact h.c, by rw [World.frozen?_setCell]; exact h.d, by simpa using h.lt⟩
theorem dsame_any (x : Hr) (a b : Option Addr) (n c1 c2 : Nat) (w : World) (h1 : Sl w a n c1 x.z) (h2 : Sl w b n c2 x.z) :
    Calls Try.prog 46 #[.agg #[.int .i64 x.s, .int .i64 x.h, .slice a n c1], .agg #[.int .i64 x.s, .int .i64 x.h, .slice b n c2]] w fun e w' => e = .returned (.bool true) ∧ Below w.heap.size w w' := by
  go_enter Try.func46, Try.ntmps46
  go_wp2_with (go_at_call 24; refine (same_any _ _ _ _ _ _ _ _ _ (h1.below (ba (ba (Below.refl _ _)))) (h2.below (ba (ba (Below.refl _ _))))).mono ?_; rintro e w' ⟨rfl, kk, rfl⟩)
  go_ret
  exact ⟨ret_bool (by simp), next (ba (ba (Below.refl _ _))) ⟨rfl, rfl, rfl, Nat.le_refl _, fun _ _ => rfl⟩⟩
/-- Is a line's home here? -/
def hereI (N L : Nat) (node l : Int) : Bool := decide (0 ≤ l) && decide (l < (L : Int)) && decide (l % (N : Int) = node)
theorem dhere_any (h : DH w g M D N L K node R a n cap) (hN : 1 ≤ N) (l : Int) : Calls Try.prog 41 #[.pointer (some ⟨g, 0, none⟩), .int .i64 l] w fun e w' => e = .returned (.bool (hereI N L node l)) ∧ Below w.heap.size w w' := by
  have c0 := h.c0
  have c1 := h.c1
  have c8 := h.c8
  have lt := h.lt
  have hn : (N : Int) ≠ 0 := by omega
  go_enter Try.func41, Try.ntmps41
  have uc := @Up.cell
  by_cases h0 : 0 ≤ l
  · by_cases h1 : l < (L : Int)
    · have he : hereI N L node l = (l % (N : Int) == node) := by unfold hereI; rw [decide_eq_true h0, decide_eq_true h1]; rw [Bool.eq_iff_iff]; simp
      go_wp2_with fail
      refine wp_region_up (by kernel_rfl) (by kernel_rfl) ?_
      repeat (go_big_quiet_step (fail))
      refine wpQuiet_nil ?_
      rintro _ ⟨u, rfl⟩
      go_wp2
      go_ret
      exact ⟨ret_bool he.symm, u.2⟩
    · have he : hereI N L node l = false := by unfold hereI; rw [decide_eq_false h1]; simp
      have h1' : decide (l < (L : Int)) = false := decide_eq_false h1
      have h1b : (L : Int) ≤ l := by omega
      go_wp2_with fail
      refine wp_region_up (by kernel_rfl) (by kernel_rfl) ?_
      repeat (go_big_quiet_step (fail))
      refine wpQuiet_nil ?_
      rintro _ ⟨u, rfl⟩
      go_wp2
      go_ret
      exact ⟨ret_bool he.symm, u.2⟩
  · have he : hereI N L node l = false := by unfold hereI; rw [decide_eq_false h0]; simp
    have h0' : decide (0 ≤ l) = false := decide_eq_false h0
    have h0b : l < 0 := by omega
    go_wp2_with fail
    refine wp_region_up (by kernel_rfl) (by kernel_rfl) ?_
    repeat (go_big_quiet_step (fail))
    refine wpQuiet_nil ?_
    rintro _ ⟨u, rfl⟩
    go_wp2
    go_ret
    exact ⟨ret_bool he.symm, u.2⟩
end
end Go.Proofs.Ytgeiagndpfdnlaa
end
section
namespace Go.Proofs.Ytgeiagndpfdnlaa
open Go.RowKit
set_option linter.unusedVariables false
set_option maxRecDepth 20000

/-- A configuration's variable, whatever its numbers. -/
structure CJ (w : World) (g : Nat) (n l k s y o i : Int) (t : Value) : Prop where
  c0 : w.cell? ⟨g, 0, none⟩ = some (.int .i64 n)
  c1 : w.cell? ⟨g, 1, none⟩ = some (.int .i64 l)
  c2 : w.cell? ⟨g, 2, none⟩ = some (.int .i64 k)
  c3 : w.cell? ⟨g, 3, none⟩ = some (.int .i64 s)
  c4 : w.cell? ⟨g, 4, none⟩ = some (.int .i64 y)
  c5 : w.cell? ⟨g, 5, none⟩ = some (.int .i64 o)
  c6 : w.cell? ⟨g, 6, none⟩ = some (.int .i64 i)
  c7 : w.cell? ⟨g, 7, none⟩ = some t
  lt : g < w.heap.size
theorem CJ.made (w : World) (n l k s y o i : Int) (t : Value) : CJ (w.alloc (.cells #[.int .i64 n, .int .i64 l, .int .i64 k, .int .i64 s, .int .i64 y, .int .i64 o, .int .i64 i, t] 26)) w.heap.size n l k s y o i t := by
  constructor <;> simp
theorem CJ.below {w w' : World} {g : Nat} {n l k s y o i : Int} {t : Value} (h : CJ w g n l k s y o i t) (hb : Below w.heap.size w w') : CJ w' g n l k s y o i t := by
  obtain ⟨hc, _⟩ := bcell hb
  exact ⟨by rw [hc _ _ h.lt]; exact h.c0, by rw [hc _ _ h.lt]; exact h.c1, by rw [hc _ _ h.lt]; exact h.c2, by rw [hc _ _ h.lt]; exact h.c3, by rw [hc _ _ h.lt]; exact h.c4, by rw [hc _ _ h.lt]; exact h.c5, by rw [hc _ _ h.lt]; exact h.c6, by rw [hc _ _ h.lt]; exact h.c7, Nat.lt_of_lt_of_le h.lt hb.size⟩
end Go.Proofs.Ytgeiagndpfdnlaa
end
section
namespace Go.Proofs.Ytgeiagndpfdnlaa
open Go.RowKit
set_option linter.unusedVariables false
set_option maxRecDepth 20000

theorem news_int (w : World) (x : Int) : ∀ j u, (cells [x])[j]? = some u → (w.alloc (.cells #[.int .i64 x] 3)).cell? ((⟨w.heap.size, 0, none⟩ : Addr).add j) = some u := by
  intro j u hu
  obtain ⟨hj, rfl⟩ := cells_get hu
  rw [Addr.add_lit, Nat.zero_add]
  obtain rfl : j = 0 := by simp at hj; exact hj
  simp

theorem range_snoc (f : Nat → Int) (i : Nat) : cells ((List.range (i + 1)).map f) = cells ((List.range i).map f) ++ cells [f i] := by
  rw [List.range_succ]; simp [cells]

set_option maxHeartbeats 1000000 in
theorem refWords_any (N L K S Y O I : Nat) (a : Option Addr) (nv cv : Nat) (zi : List Int) (line : Int) (w : World) (hsl : Sl w a nv cv zi) (hL : L ≤ 8) (hK0 : 1 ≤ K) (hK : K ≤ 4) (hlen : nv ≤ 32) :
    Calls Try.prog 33 #[cfg N L K S Y O I (.slice a nv cv), .int .i64 line] w fun e w' => ∃ v, e = .returned v ∧ Own w' w.heap.size v (wordsI zi L K line) ∧ Below w.heap.size w w' := by
  unfold cfg
  by_cases h0 : line < 0
  · have HW : Hid (wordsI zi L K line = []) := wordsI_out (.inl h0)
    go_enter Try.func33, Try.ntmps33
    go_wp2
    go_ret
    exact ⟨_, rfl, by rw [HW.out]; exact own_nil _ _, ba (Below.refl _ _)⟩
  by_cases h1 : (L : Int) ≤ line
  · have HW : Hid (wordsI zi L K line = []) := wordsI_out (.inr h1)
    have h0' : 0 ≤ line := by omega
    go_enter Try.func33, Try.ntmps33
    go_wp2
    go_ret
    exact ⟨_, rfl, by rw [HW.out]; exact own_nil _ _, ba (Below.refl _ _)⟩
  obtain ⟨j, rfl⟩ : ∃ j : Nat, line = j := ⟨line.toNat, by omega⟩
  have hj : j < L := by omega
  have hjn : ¬ L ≤ j := by omega
  have HW : Hid (wordsI zi L K j = (List.range K).map (fun i => zi[j * K + i]?.getD 0)) := wordsI_in hj
  obtain ⟨m, hm⟩ : ∃ m, m = j * K := ⟨_, rfl⟩
  have hm' : (j : Int) * (K : Int) = (m : Int) := by rw [hm]; exact (Int.natCast_mul j K).symm
  have hm8 : m ≤ 28 := by rw [hm]; have := Nat.mul_le_mul (show j ≤ 7 by omega) hK; simpa using this
  rw [← hm] at HW
  have hl := hsl.len
  have hle := hsl.le
  clear h0 h1 hm
  have hcj := CJ.made w (N : Int) (L : Int) (K : Int) (S : Int) (Y : Int) (O : Int) (I : Int) (.slice a nv cv)
  have hbw : Below w.heap.size w (w.alloc (.cells #[.int .i64 (N : Int), .int .i64 (L : Int), .int .i64 (K : Int), .int .i64 (S : Int), .int .i64 (Y : Int), .int .i64 (O : Int), .int .i64 (I : Int), .slice a nv cv] 26)) := ba (Below.refl _ _)
  obtain ⟨i0, hi, hz0, hz1, hz2⟩ := info_parts Try.infoInt
  go_enter Try.func33, Try.ntmps33
  go_wp2
  generalize w.alloc (.cells #[.int .i64 (N : Int), .int .i64 (L : Int), .int .i64 (K : Int), .int .i64 (S : Int), .int .i64 (Y : Int), .int .i64 (O : Int), .int .i64 (I : Int), .slice a nv cv] 26) = W at *
  go_loopw [5, 6] (fun v q wr => ∃ i : Nat, q = .int .i64 i ∧ i ≤ K ∧ wr.ownsRow W.heap.size 3 1 v i (cells ((List.range i).map (fun i => zi[m + i]?.getD 0))) ∧ Below W.heap.size W wr) (fun _ q _ => K - (intOf q).toNat)
  case atStart => exact ⟨0, rfl, by omega, World.ownsRow_nil _ _ _ _, Below.refl _ _⟩
  case round =>
    obtain ⟨i, rfl, hik, hown, hbr⟩ := hrel
    obtain ⟨c0, c1, c2, c3, c4, c5, c6, c7, clt⟩ := hcj.below hbr
    by_cases hlt : i < K
    · have hlt' : (i : Int) < (K : Int) := by omega
      obtain ⟨t, ht⟩ : ∃ t, t = m + i := ⟨_, rfl⟩
      have hmi : (m : Int) + (i : Int) = (t : Int) := by omega
      obtain ⟨x, hx⟩ : ∃ x, zi[m + i]?.getD 0 = x := ⟨_, rfl⟩
      have HX : Hid (zi[m + i]?.getD 0 = x) := hx
      by_cases hin : t < nv
      · have hin' : (t : Int) < (nv : Int) := by omega
        have hsr := hsl.below (next hbw hbr)
        have hsome : ∃ b o, a = some ⟨b, o, none⟩ ∧ wr.cell? ⟨b, o + t, none⟩ = some (.int .i64 x) := by
          rcases hsr.row with h | ⟨b, o, e, hc⟩
          · rw [h] at hl; simp at hl; omega
          · exact ⟨b, o, e, by rw [← hx, ← ht]; exact hc t (by omega)⟩
        obtain ⟨b, o, rfl, hcw⟩ := hsome
        clear ht hx
        go_wp2_with (at_builtin; refine wpList_append_own _ rfl _ _ 22 rfl W.heap.size 3 i0 (.int .i64 0) 1 8 Try.underlying22 hi hz0 hz1 hz2 rfl (by decide) _ i (cells ((List.range i).map (fun i => zi[m + i]?.getD 0))) rfl (hown.alloc _) ⟨wr.heap.size, 0, none⟩ 1 1 (cells [x]) rfl rfl (news_int wr x) (cells_one _) (by unfold maxLen; omega) (by omega) (by have := hbr.size; simp; omega) ?_; intro v6 w6 hown6 hg6 hn6)
        have hlt6 := hown.lt
        go_wp2
        go_roundw
        case rel =>
          refine ⟨i + 1, by go_num, by omega, ?_, (ba hbr).grown hg6 (by have := hbr.size; simp; omega) (fun q hq => (hlt6 q hq).1)⟩
          rw [range_snoc, HX.out]
          exact hown6
        case measure => simp [intOf]; omega
      · have hin' : (nv : Int) ≤ (t : Int) := by omega
        have hx0 : x = 0 := by rw [← hx, List.getElem?_eq_none (by omega)]; rfl
        subst hx0
        clear ht hx
        go_wp2_with (at_builtin; refine wpList_append_own _ rfl _ _ 22 rfl W.heap.size 3 i0 (.int .i64 0) 1 8 Try.underlying22 hi hz0 hz1 hz2 rfl (by decide) _ i (cells ((List.range i).map (fun i => zi[m + i]?.getD 0))) rfl (hown.alloc _) ⟨wr.heap.size, 0, none⟩ 1 1 (cells [0]) rfl rfl (news_int wr 0) (cells_one _) (by unfold maxLen; omega) (by omega) (by have := hbr.size; simp; omega) ?_; intro v6 w6 hown6 hg6 hn6)
        have hlt6 := hown.lt
        go_wp2
        go_roundw
        case rel =>
          refine ⟨i + 1, by go_num, by omega, ?_, (ba hbr).grown hg6 (by have := hbr.size; simp; omega) (fun q hq => (hlt6 q hq).1)⟩
          rw [range_snoc, HX.out]
          exact hown6
        case measure => simp [intOf]; omega
    · obtain rfl : i = K := by omega
      go_wp2
      go_ret
      refine ⟨_, rfl, ?_, next hbw hbr⟩
      rw [HW.out]
      have := hbw.size
      refine Own.low ?_ this
      show World.ownsRow _ _ _ _ _ _ _
      simpa using hown
end Go.Proofs.Ytgeiagndpfdnlaa
end
section
namespace Go.Proofs.Ytgeiagndpfdnlaa
open Go.RowKit Go.Maps
set_option linter.unusedVariables false
set_option maxRecDepth 20000

/-- The document's rows at first, those of the lines below i. -/
def dl0 (zi : List Int) (L K : Nat) (i : Nat) : List Hr := (List.range i).map (fun l : Nat => ⟨(l : Int), 0, -1, wordsI zi L K l⟩)
theorem dl0_snoc (zi : List Int) (L K i : Nat) : dl0 zi L K (i + 1) = dl0 zi L K i ++ [⟨(i : Int), 0, -1, wordsI zi L K i⟩] := by
  unfold dl0
  rw [List.range_succ, List.map_append]
  rfl
theorem Try.infoDr : (Try.prog.info? 82).map (fun i => (i.zero, i.size, i.bytes)) = some (some (zeroHr.val (.slice none 0 0)), 3, 40) := by kernel_rfl
set_option maxHeartbeats 1000000 in
theorem dnew_any (N L K S Y O I : Nat) (a : Option Addr) (nv cv : Nat) (zi : List Int) (node : Int) (w : World) (hsl : Sl w a nv cv zi) (hN0 : 1 ≤ N) (hN : N ≤ 6) (hL : L ≤ 8) (hK0 : 1 ≤ K) (hK : K ≤ 4) (hlen : nv ≤ 32) :
    Calls Try.prog 15 #[cfg N L K S Y O I (.slice a nv cv), .int .i64 node] w fun e w' => ∃ g M D R ra rc, e = .returned (.pointer (some ⟨g, 0, none⟩)) ∧ Below w.heap.size w w' ∧
      DH w' g M D N L K node R ra L rc ∧ R.map Prod.fst = dl0 zi L K L ∧ w.heap.size ≤ g ∧ (∀ j, M j ∨ D j → w.heap.size ≤ j) ∧ Nil2 w' g := by
  obtain ⟨f0, hfi, hp0, hp1, hp2⟩ := info_parts Try.infoDr
  have cb1 := CB.made w N L K S Y O I (.slice a nv cv)
  have b1 : Below w.heap.size w (w.alloc (.cells #[.int .i64 (N : Int), .int .i64 (L : Int), .int .i64 (K : Int), .int .i64 (S : Int), .int .i64 (Y : Int), .int .i64 (O : Int), .int .i64 (I : Int), .slice a nv cv] 26)) := ba (Below.refl _ _)
  unfold cfg
  go_enter Try.func15, Try.ntmps15
  go_upto_region 2 with fail
  have cb2 := cb1.below (ba (o := (.cells #[.int .i64 (N : Int), .int .i64 (L : Int), .int .i64 (K : Int), .int .i64 (S : Int), .int .i64 (Y : Int), .int .i64 (O : Int), .int .i64 (I : Int), .slice a nv cv, .int .i64 node, .slice none 0 0, .slice none 0 0, .slice none 0 0] 60)) (Below.refl _ _))
  have b2 := ba (o := (.cells #[.int .i64 (N : Int), .int .i64 (L : Int), .int .i64 (K : Int), .int .i64 (S : Int), .int .i64 (Y : Int), .int .i64 (O : Int), .int .i64 (I : Int), .slice a nv cv, .int .i64 node, .slice none 0 0, .slice none 0 0, .slice none 0 0] 60)) b1
  have hz1 : (w.alloc (.cells #[.int .i64 (N : Int), .int .i64 (L : Int), .int .i64 (K : Int), .int .i64 (S : Int), .int .i64 (Y : Int), .int .i64 (O : Int), .int .i64 (I : Int), .slice a nv cv] 26)).heap.size = w.heap.size + 1 := by simp
  generalize w.alloc (.cells #[.int .i64 (N : Int), .int .i64 (L : Int), .int .i64 (K : Int), .int .i64 (S : Int), .int .i64 (Y : Int), .int .i64 (O : Int), .int .i64 (I : Int), .slice a nv cv] 26) = W1 at *
  have D0 : DH (W1.alloc (.cells #[.int .i64 (N : Int), .int .i64 (L : Int), .int .i64 (K : Int), .int .i64 (S : Int), .int .i64 (Y : Int), .int .i64 (O : Int), .int .i64 (I : Int), .slice a nv cv, .int .i64 node, .slice none 0 0, .slice none 0 0, .slice none 0 0] 60)) W1.heap.size (fun _ => False) (fun _ => False) N L K node [] none 0 0 := by
    refine ⟨by simp, by simp, by simp, by simp, by simp, by simp, by simp, rfl, rw_nil _ _ _, fun r hr => (by cases hr), fun j hj => hj.elim (fun h => h.elim) (fun h => h.elim), fun j hj => hj.elim, ⟨id, id⟩, fun i r hr => (by simp at hr)⟩
  have E0 : Nil2 (W1.alloc (.cells #[.int .i64 (N : Int), .int .i64 (L : Int), .int .i64 (K : Int), .int .i64 (S : Int), .int .i64 (Y : Int), .int .i64 (O : Int), .int .i64 (I : Int), .slice a nv cv, .int .i64 node, .slice none 0 0, .slice none 0 0, .slice none 0 0] 60)) W1.heap.size := ⟨by simp, by simp, by simp, by simp, by simp⟩
  generalize W1.alloc (.cells #[.int .i64 (N : Int), .int .i64 (L : Int), .int .i64 (K : Int), .int .i64 (S : Int), .int .i64 (Y : Int), .int .i64 (O : Int), .int .i64 (I : Int), .slice a nv cv, .int .i64 node, .slice none 0 0, .slice none 0 0, .slice none 0 0] 60) = W2 at *
  rw [hz1] at D0 E0
  obtain ⟨gc, hgc⟩ : ∃ gc, gc = w.heap.size := ⟨_, rfl⟩
  have HG : Hid (gc = w.heap.size) := hgc
  rw [show (⟨w.heap.size, 0, none⟩ : Addr) = ⟨gc, 0, none⟩ by rw [hgc]] at *
  rw [← hgc] at cb2 D0 E0
  simp only [← hgc]
  clear hgc cb1 b1 hz1
  clear W1
  go_wp2_with fail
  go_loopw [6] (fun v6 wr => ∃ (i : Nat) (M D : Nat → Prop) (R : List (Hr × Value)) (ra : Option Addr) (rc : Nat), v6 = .int .i64 (i : Int) ∧ i ≤ L ∧ Below w.heap.size w wr ∧ DH wr (gc + 1) M D N L K node R ra i rc ∧ R.map Prod.fst = dl0 zi L K i ∧ (∀ j, M j ∨ D j → gc + 1 < j) ∧ CB wr gc N L K S Y O I (.slice a nv cv) ∧ Hid (Nil2 wr (gc + 1))) (fun v6 _ => L - (intOf v6).toNat)
  case atStart => exact ⟨0, _, _, [], none, 0, rfl, by omega, b2, D0, rfl, fun j h => h.elim (fun h => h.elim) (fun h => h.elim), cb2, E0⟩
  case round =>
    clear b2 D0 cb2 E0
    obtain ⟨i, M, D, R, ra, rc, rfl, hi, hb, H, hR, hMD, hc, HE⟩ := hrel
    obtain ⟨z0, z1, z2, z3, z4, z5, z6, z7, zlt⟩ := hc
    have hc : CB wr gc N L K S Y O I (.slice a nv cv) := ⟨z0, z1, z2, z3, z4, z5, z6, z7, zlt⟩
    by_cases hlt : i < L
    · have hlt' : (i : Int) < (L : Int) := by omega
      go_upto_region 5 with fail
      clear z0 z1 z2 z3 z4 z5 z6 z7 zlt
      refine wp_region_orders 14 rfl (by kernel_rfl) ?_
      have Bd : Below wr.heap.size wr wr.drew := (Below.refl _ _).drew
      have H2 := H.below Bd
      have c2 := hc.below Bd
      have hb2 := next hb Bd
      have HG2 : Hid (gc + 1 < wr.drew.heap.size) := H2.lt
      have HE2 : Hid (Nil2 wr.drew (gc + 1)) := HE.out.below Bd
      clear Bd H hc hb HE
      generalize wr.drew = w2 at *
      have s2 := hsl.below hb2
      obtain ⟨n3, hn3⟩ : ∃ n, (wordsI zi L K (i : Int)).length = n := ⟨_, rfl⟩
      have HN3 : Hid ((wordsI zi L K (i : Int)).length = n3) := hn3
      have hn3K : n3 ≤ 4 := by rw [← hn3]; unfold wordsI; split <;> simp <;> omega
      clear hn3
      have hI : (fun V => V.cell? ⟨gc + 1, 9, none⟩ = some (.slice ra i rc) ∧ V.frozen? ⟨gc + 1, 9, none⟩ = false ∧ V.cell? ⟨gc, 0, none⟩ = some (.int .i64 (N : Int)) ∧ V.cell? ⟨gc, 1, none⟩ = some (.int .i64 (L : Int)) ∧ V.cell? ⟨gc, 2, none⟩ = some (.int .i64 (K : Int)) ∧ V.cell? ⟨gc, 3, none⟩ = some (.int .i64 (S : Int)) ∧ V.cell? ⟨gc, 4, none⟩ = some (.int .i64 (Y : Int)) ∧ V.cell? ⟨gc, 5, none⟩ = some (.int .i64 (O : Int)) ∧ V.cell? ⟨gc, 6, none⟩ = some (.int .i64 (I : Int)) ∧ V.cell? ⟨gc, 7, none⟩ = some (.slice a nv cv)) w2 := ⟨H2.c9, H2.f9, c2.c0, c2.c1, c2.c2, c2.c3, c2.c4, c2.c5, c2.c6, c2.c7⟩
      refine any_inv (fun V => V.cell? ⟨gc + 1, 9, none⟩ = some (.slice ra i rc) ∧ V.frozen? ⟨gc + 1, 9, none⟩ = false ∧ V.cell? ⟨gc, 0, none⟩ = some (.int .i64 (N : Int)) ∧ V.cell? ⟨gc, 1, none⟩ = some (.int .i64 (L : Int)) ∧ V.cell? ⟨gc, 2, none⟩ = some (.int .i64 (K : Int)) ∧ V.cell? ⟨gc, 3, none⟩ = some (.int .i64 (S : Int)) ∧ V.cell? ⟨gc, 4, none⟩ = some (.int .i64 (Y : Int)) ∧ V.cell? ⟨gc, 5, none⟩ = some (.int .i64 (O : Int)) ∧ V.cell? ⟨gc, 6, none⟩ = some (.int .i64 (I : Int)) ∧ V.cell? ⟨gc, 7, none⟩ = some (.slice a nv cv)) [13] hI ?_
      refine inv_take (v := ?v1) [11, 12, 13] 0 hI rfl (by kernel_rfl) (by kernel_rfl) (by kernel_rfl) (by kernel_rfl) (by kernel_rfl) (fun _ _ _ h => h) (by kernel_rfl) (fun V hV => ?hy1) ?go1
      case hy1 => (obtain ⟨z, zf, z0, z1, z2, z3, z4, z5, z6, z7⟩ := hV; go_simp <;> rfl)
      simp only [Act.put, List.setIfInBounds_toArray, List.set_cons_zero, List.set_cons_succ]
      refine inv_take (v := ?v2) [2, 3, 4, 10, 11, 12, 13] 1 hI rfl (by kernel_rfl) (by kernel_rfl) (by kernel_rfl) (by kernel_rfl) (by kernel_rfl) (fun _ _ _ h => h) (by kernel_rfl) (fun V hV => ?hy2) ?go2
      case hy2 => (obtain ⟨z, zf, z0, z1, z2, z3, z4, z5, z6, z7⟩ := hV; go_simp <;> rfl)
      simp only [Act.put, List.setIfInBounds_toArray, List.set_cons_zero, List.set_cons_succ]
      refine inv_take (v := ?v3) [3, 4, 10, 11, 12, 13] 2 hI rfl (by kernel_rfl) (by kernel_rfl) (by kernel_rfl) (by kernel_rfl) (by kernel_rfl) (fun _ _ _ h => h) (by kernel_rfl) (fun V hV => ?hy3) ?go3
      case hy3 => (obtain ⟨z, zf, z0, z1, z2, z3, z4, z5, z6, z7⟩ := hV; go_simp <;> rfl)
      simp only [Act.put, List.setIfInBounds_toArray, List.set_cons_zero, List.set_cons_succ]
      refine inv_take (v := ?v4) [4, 10, 11, 12, 13] 3 hI rfl (by kernel_rfl) (by kernel_rfl) (by kernel_rfl) (by kernel_rfl) (by kernel_rfl) (fun _ _ _ h => h) (by kernel_rfl) (fun V hV => ?hy4) ?go4
      case hy4 => (obtain ⟨z, zf, z0, z1, z2, z3, z4, z5, z6, z7⟩ := hV; go_simp <;> rfl)
      simp only [Act.put, List.setIfInBounds_toArray, List.set_cons_zero, List.set_cons_succ]
      refine inv_take (v := ?v5) [10, 11, 12, 13] 4 hI rfl (by kernel_rfl) (by kernel_rfl) (by kernel_rfl) (by kernel_rfl) (by kernel_rfl) (fun _ _ _ h => h) (by kernel_rfl) (fun V hV => ?hy5) ?go5
      case hy5 => (obtain ⟨z, zf, z0, z1, z2, z3, z4, z5, z6, z7⟩ := hV; go_simp <;> rfl)
      simp only [Act.put, List.setIfInBounds_toArray, List.set_cons_zero, List.set_cons_succ]
      refine inv_take (v := ?v6) [7, 8, 9, 10, 11, 12, 13] 5 hI rfl (by kernel_rfl) (by kernel_rfl) (by kernel_rfl) (by kernel_rfl) (by kernel_rfl) (fun _ _ _ h => h) (by kernel_rfl) (fun V hV => ?hy6) ?go6
      case hy6 => (obtain ⟨z, zf, z0, z1, z2, z3, z4, z5, z6, z7⟩ := hV; go_simp <;> rfl)
      simp only [Act.put, List.setIfInBounds_toArray, List.set_cons_zero, List.set_cons_succ]
      refine inv_take (v := ?v7) [7, 8, 9, 10, 11, 12, 13] 6 hI rfl (by kernel_rfl) (by kernel_rfl) (by kernel_rfl) (by kernel_rfl) (by kernel_rfl) (fun _ _ _ h => h) (by kernel_rfl) (fun V hV => ?hy7) ?go7
      case hy7 => (obtain ⟨z, zf, z0, z1, z2, z3, z4, z5, z6, z7⟩ := hV; go_simp <;> rfl)
      simp only [Act.put, List.setIfInBounds_toArray, List.set_cons_zero, List.set_cons_succ]
      refine inv_list 7 (by kernel_rfl) rfl ?_
      clear hI
      go_wp2_with (go_at_call 33; refine (refWords_any N L K S Y O I a nv cv zi i _ s2 (by omega) hK0 (by omega) hlen).mono ?_; rintro e w3 ⟨v3, rfl, own3, hb3⟩; obtain ⟨a3, k3, rfl, _⟩ := own3.sl' HN3.out)
      have H3 := H2.below hb3
      have c3 := c2.below hb3
      have hb4 := next hb2 hb3
      have hI : (fun V => V.cell? ⟨gc + 1, 9, none⟩ = some (.slice ra i rc) ∧ V.frozen? ⟨gc + 1, 9, none⟩ = false ∧ V.cell? ⟨gc, 0, none⟩ = some (.int .i64 (N : Int)) ∧ V.cell? ⟨gc, 1, none⟩ = some (.int .i64 (L : Int)) ∧ V.cell? ⟨gc, 2, none⟩ = some (.int .i64 (K : Int)) ∧ V.cell? ⟨gc, 3, none⟩ = some (.int .i64 (S : Int)) ∧ V.cell? ⟨gc, 4, none⟩ = some (.int .i64 (Y : Int)) ∧ V.cell? ⟨gc, 5, none⟩ = some (.int .i64 (O : Int)) ∧ V.cell? ⟨gc, 6, none⟩ = some (.int .i64 (I : Int)) ∧ V.cell? ⟨gc, 7, none⟩ = some (.slice a nv cv)) w3 := ⟨H3.c9, H3.f9, c3.c0, c3.c1, c3.c2, c3.c3, c3.c4, c3.c5, c3.c6, c3.c7⟩
      refine then_n ⟨hI, ?_⟩
      refine inv_take (v := ?v8) [9, 10, 11, 12, 13] 8 hI rfl (by kernel_rfl) (by kernel_rfl) (by kernel_rfl) (by kernel_rfl) (by kernel_rfl) (fun _ _ _ h => h) (by kernel_rfl) (fun V hV => ?hy8) ?go8
      case hy8 => (obtain ⟨z, zf, z0, z1, z2, z3, z4, z5, z6, z7⟩ := hV; go_simp <;> rfl)
      simp only [Act.put, List.setIfInBounds_toArray, List.set_cons_zero, List.set_cons_succ]
      refine inv_list 9 (by kernel_rfl) rfl ?_
      clear hI
      go_wp2_with fail
      have b5 : Below w3.heap.size w3 (w3.alloc (.cells #[.int .i64 0, .int .i64 (-1), .slice a3 n3 k3] 82)) := ba (Below.refl _ _)
      have hsv : SlV (w3.alloc (.cells #[.int .i64 0, .int .i64 (-1), .slice a3 n3 k3] 82)) (some ⟨w3.heap.size, 0, none⟩) 1 1 3 (hcells ((⟨(i : Int), 0, -1, wordsI zi L K i⟩ : Hr), .slice a3 n3 k3)) := by
        refine ⟨rfl, Nat.le_refl _, by unfold maxLen; omega, fun h => (by cases h), .inr ⟨_, _, rfl, fun j u hu => ?_⟩⟩
        have h3 : j < 3 := (List.getElem?_eq_some_iff.1 hu).1
        have h4 : j = 0 ∨ j = 1 ∨ j = 2 := by omega
        rcases h4 with rfl | rfl | rfl <;> (simp [hcells] at hu; subst hu; simp)
      have hzz : w3.heap.size < (w3.alloc (.cells #[.int .i64 0, .int .i64 (-1), .slice a3 n3 k3] 82)).heap.size := by simp
      have HE5 : Hid (Nil2 (w3.alloc (.cells #[.int .i64 0, .int .i64 (-1), .slice a3 n3 k3] 82)) (gc + 1)) := (HE2.out.below hb3).below b5
      have H5 := H3.below b5
      have c5 := c3.below b5
      have hb5 := next hb4 b5
      have own5 := own3.below b5
      have HZ3 : Hid (w2.heap.size ≤ w3.heap.size) := hb3.size
      have HA3 : Hid (∀ y : Addr, a3 = some y → w2.heap.size ≤ y.block ∧ y.block < w3.heap.size) := own3.lo
      have HMO : Hid (∀ j, M j ∨ D j → j < w2.heap.size) := H2.old
      clear H3 c3 H2 c2 hb2 hb3 hb4 own3 s2 b5
      generalize w3.alloc _ = w5 at *
      have hI : (fun V => V.cell? ⟨gc + 1, 9, none⟩ = some (.slice ra i rc) ∧ V.frozen? ⟨gc + 1, 9, none⟩ = false ∧ V.cell? ⟨gc, 0, none⟩ = some (.int .i64 (N : Int)) ∧ V.cell? ⟨gc, 1, none⟩ = some (.int .i64 (L : Int)) ∧ V.cell? ⟨gc, 2, none⟩ = some (.int .i64 (K : Int)) ∧ V.cell? ⟨gc, 3, none⟩ = some (.int .i64 (S : Int)) ∧ V.cell? ⟨gc, 4, none⟩ = some (.int .i64 (Y : Int)) ∧ V.cell? ⟨gc, 5, none⟩ = some (.int .i64 (O : Int)) ∧ V.cell? ⟨gc, 6, none⟩ = some (.int .i64 (I : Int)) ∧ V.cell? ⟨gc, 7, none⟩ = some (.slice a nv cv)) w5 := ⟨H5.c9, H5.f9, c5.c0, c5.c1, c5.c2, c5.c3, c5.c4, c5.c5, c5.c6, c5.c7⟩
      refine then_n ⟨hI, ?_⟩
      clear hI
      refine inv_list 10 (by kernel_rfl) rfl ?_
      refine wpList_append_slv w5 M (by kernel_rfl) (.tmp 21) (.tmp 26) 54 rfl 82 f0 (zeroHr.val (.slice none 0 0)) 3 40 Try.underlying54 hfi hp0 hp1 hp2 rfl (by decide) ra i rc (flat hcells R) rfl H5.row (some ⟨w3.heap.size, 0, none⟩) 1 1 (hcells ((⟨(i : Int), 0, -1, wordsI zi L K i⟩ : Hr), .slice a3 n3 k3)) rfl hsv (hcells_one rfl) (by unfold maxLen; omega) (by omega) ?_
      intro a7 c7 w7 hrw7 hk7
      have hgM : ∀ j, M j → gc + 1 < j := fun j hj => hMD j (.inl hj)
      have hb7 : Below w.heap.size w w7 := hk7.after hb5 (fun j hj => by have := hgM j hj; have := HG.out; omega)
      have HE7 : Hid (Nil2 w7 (gc + 1)) := HE5.out.keep hk7 (fun h => by have := hgM _ h; omega)
      have H7 := H5.c0
      have e7 := fun o => hk7.cell (b := gc + 1) o H5.lt (fun h => by have := hgM _ h; omega)
      have cb7 := c5.keep hk7 (fun h => by have := hgM _ h; omega)
      have f7 := (hk7.frozen (b := gc + 1) 9 H5.lt (fun h => by have := hgM _ h; omega)).trans H5.f9
      have hI : (fun V => V.cell? ⟨gc + 1, 9, none⟩ = some (.slice ra i rc) ∧ V.frozen? ⟨gc + 1, 9, none⟩ = false ∧ V.cell? ⟨gc, 0, none⟩ = some (.int .i64 (N : Int)) ∧ V.cell? ⟨gc, 1, none⟩ = some (.int .i64 (L : Int)) ∧ V.cell? ⟨gc, 2, none⟩ = some (.int .i64 (K : Int)) ∧ V.cell? ⟨gc, 3, none⟩ = some (.int .i64 (S : Int)) ∧ V.cell? ⟨gc, 4, none⟩ = some (.int .i64 (Y : Int)) ∧ V.cell? ⟨gc, 5, none⟩ = some (.int .i64 (O : Int)) ∧ V.cell? ⟨gc, 6, none⟩ = some (.int .i64 (I : Int)) ∧ V.cell? ⟨gc, 7, none⟩ = some (.slice a nv cv)) w7 := ⟨(e7 9).trans H5.c9, f7, cb7.c0, cb7.c1, cb7.c2, cb7.c3, cb7.c4, cb7.c5, cb7.c6, cb7.c7⟩
      refine then_n ⟨hI, ?_⟩
      simp only [Act.put, List.setIfInBounds_toArray, List.set_cons_zero, List.set_cons_succ]
      refine inv_take (v := ?v9) [12, 13] 11 hI rfl (by kernel_rfl) (by kernel_rfl) (by kernel_rfl) (by kernel_rfl) (by kernel_rfl) (fun _ _ _ h => h) (by kernel_rfl) (fun V hV => ?hy9) ?go9
      case hy9 => (obtain ⟨z, zf, z0, z1, z2, z3, z4, z5, z6, z7⟩ := hV; go_simp <;> rfl)
      simp only [Act.put, List.setIfInBounds_toArray, List.set_cons_zero, List.set_cons_succ]
      refine inv_take (v := ?v10) [13] 12 hI rfl (by kernel_rfl) (by kernel_rfl) (by kernel_rfl) (by kernel_rfl) (by kernel_rfl) (fun _ _ _ h => h) (by kernel_rfl) (fun V hV => ?hy10) ?go10
      case hy10 => (obtain ⟨z, zf, z0, z1, z2, z3, z4, z5, z6, z7⟩ := hV; go_simp <;> rfl)
      simp only [Act.put, List.setIfInBounds_toArray, List.set_cons_zero, List.set_cons_succ]
      have HOR : Hid (∀ r ∈ R, DatZ w7 D r.1.z r.2) := fun r hr => (H5.dat r hr).keep hk7 (fun j hd hm => H5.dj j hm hd)
      have own7 := own5.keep hk7 (fun j hj hm => by have := (own5.base j hj).1; have := HMO.out j (.inl hm); omega)
      have h5z := hk7.size
      obtain ⟨M7, hM7⟩ : ∃ M7 : Nat → Prop, M7 = (fun k => M k ∨ (w5.heap.size ≤ k ∧ k < w7.heap.size)) := ⟨_, rfl⟩
      obtain ⟨D7, hD7⟩ : ∃ D7 : Nat → Prop, D7 = (fun k => D k ∨ (w2.heap.size ≤ k ∧ k < w3.heap.size)) := ⟨_, rfl⟩
      have row7 : Rw w7 M7 a7 (i + 1) c7 3 (flat hcells (R ++ [((⟨(i : Int), 0, -1, wordsI zi L K i⟩ : Hr), .slice a3 n3 k3)])) := by
        rw [flat_append, flat_one]
        exact hrw7.imp (fun j hj h => by rw [hM7]; exact h.imp id (fun h => ⟨h, hj⟩))
      have hRl := H5.len
      have hgl := H5.lt
      have hz35 : w3.heap.size ≤ w5.heap.size := Nat.le_of_lt hzz
      have HN : Hid (∀ (j : Nat) (r : Hr × Value), (R ++ [((⟨(i : Int), 0, -1, wordsI zi L K i⟩ : Hr), Value.slice a3 n3 k3)])[j]? = some r → r.1.n = (j : Int)) := fun j r hj => by
        by_cases e : j < R.length
        · rw [List.getElem?_append_left e] at hj
          exact H5.nums j r hj
        · rw [List.getElem?_append_right (by omega)] at hj
          have e1 : j - R.length = 0 := by have := (List.getElem?_eq_some_iff.1 hj).1; simp at this; omega
          rw [e1] at hj
          simp at hj
          subst hj
          show (i : Int) = j
          omega
      have kk := Keep.one w7 (gc + 1) 9 (.slice a7 (i + 1) c7)
      have g7 : gc + 1 < w7.heap.size := Nat.lt_of_lt_of_le hgl h5z
      have H9 : DH (w7.setCell ⟨gc + 1, 9, none⟩ (.slice a7 (i + 1) c7)) (gc + 1) M7 D7 N L K node (R ++ [((⟨(i : Int), 0, -1, wordsI zi L K i⟩ : Hr), .slice a3 n3 k3)]) a7 (i + 1) c7 := by
        have q0 := (e7 0).trans H5.c0
        have q1 := (e7 1).trans H5.c1
        have q2 := (e7 2).trans H5.c2
        have q8 := (e7 8).trans H5.c8
        have q9 := (e7 9).trans H5.c9
        clear e7 H7 hI
        have ne : ∀ j, M7 j ∨ D7 j → j ≠ gc + 1 := fun j hj e => by
          subst e
          rw [hM7, hD7] at hj
          have h2 := HMO.out
          have h3 := HZ3.out
          have hg2 : gc + 1 < w2.heap.size := HG2.out
          rcases hj with (hj | hj) | (hj | hj)
          · have := hgM _ hj; omega
          · omega
          · have := hMD _ (.inr hj); omega
          · omega
        refine ⟨by go_simp, by go_simp, by go_simp, by go_simp, by go_simp, by go_simp, by simpa using g7, by rw [List.length_append]; simp; omega, row7.keep kk (fun j hj e => ne j (.inl hj) e), fun r hr => ?_, fun j hj => ?_, fun j hj hd => ?_, ⟨fun h => ne _ (.inl h) rfl, fun h => ne _ (.inr h) rfl⟩, HN.out⟩
        · rcases List.mem_append.1 hr with hr | hr
          · exact ((HOR.out r hr).imp (fun j _ hj => by rw [hD7]; exact .inl hj)).keep kk (fun j hj e => ne j (.inr hj) e)
          · simp at hr
            subst hr
            have hd : DatZ w7 D7 (wordsI zi L K (i : Int)) (.slice a3 n3 k3) := ⟨a3, n3, k3, rfl, own_sl own7, by omega, fun _ y hy => by rw [hD7]; exact .inr (HA3.out y hy)⟩
            exact hd.keep kk (fun j hj e => ne j (.inr hj) e)
        · refine Nat.lt_of_lt_of_le ?_ kk.size
          rw [hM7, hD7] at hj
          have h3 := H5.old j
          rcases hj with (hj | hj) | (hj | hj)
          · have := h3 (.inl hj); omega
          · exact hj.2
          · have := h3 (.inr hj); omega
          · omega
        · rw [hM7] at hj
          rw [hD7] at hd
          have h2 := HMO.out j
          rcases hj with hj | hj <;> rcases hd with hd | hd
          · exact H5.dj j hj hd
          · have := h2 (.inl hj); omega
          · have := h2 (.inr hd); have := HZ3.out; omega
          · omega
      have HMD9 : Hid (∀ j, M7 j ∨ D7 j → gc + 1 < j) := fun j hj => by
        rw [hM7, hD7] at hj
        have h1 := hMD j
        have h2 := HG2.out
        have h3 := HZ3.out
        rcases hj with (hj | hj) | (hj | hj)
        · exact h1 (.inl hj)
        · omega
        · exact h1 (.inr hj)
        · omega
      have hb9 : Below w.heap.size w (w7.setCell ⟨gc + 1, 9, none⟩ (.slice a7 (i + 1) c7)) := kk.after hb7 (fun j hj => by have := HG.out; omega)
      have cb9 := cb7.keep kk (fun e => by omega)
      obtain ⟨y9, yf, _⟩ := hI
      have HE9 : Hid (Nil2 (w7.setCell ⟨gc + 1, 9, none⟩ (.slice a7 (i + 1) c7)) (gc + 1)) := HE7.out.set9 _
      clear hM7 hD7 kk row7 own7 HN HOR H7 e7 f7 H5 c5 hb5 own5 hsv hk7 hrw7 cb7 hgM hMD hz35 hgl
      refine inv_write 13 (by kernel_rfl) (by kernel_rfl) rfl ?_
      go_wp2_with fail
      refine then_n ?_
      refine any_done (by kernel_rfl) ?_
      clear y9 yf
      generalize w7.setCell ⟨gc + 1, 9, none⟩ (.slice a7 (i + 1) c7) = w9 at *
      go_wp2_with fail
      go_roundw
      case rel => exact ⟨i + 1, M7, D7, _, a7, c7, by go_num, by omega, hb9, H9, by rw [List.map_append, hR, dl0_snoc]; rfl, HMD9.out, cb9, HE9⟩
      case measure => simp [intOf]; omega
    · obtain rfl : i = L := by omega
      go_wp2_with fail
      go_ret
      exact ⟨_, M, D, R, ra, rc, rfl, hb, H, hR, by have := HG.out; omega, fun j hj => by have := hMD j hj; have := HG.out; omega, HE.out⟩
end Go.Proofs.Ytgeiagndpfdnlaa
end
section
namespace Go.Proofs.Ytgeiagndpfdnlaa
open Go.RowKit Go.Maps
set_option linter.unusedVariables false
set_option maxRecDepth 20000

section
variable {w : World} {g : Nat} {M D : Nat → Prop} {N L K : Nat} {node : Int} {R : List (Hr × Value)} {a : Option Addr} {cap : Nat}
theorem dset_none (h : DH w g M D N L K node R a L cap) (hN : 1 ≤ N) {l : Int} (hh : hereI N L node l = false) (s hd : Int) (ax : Option Addr) (n cx : Nat) :
    Calls Try.prog 43 #[.pointer (some ⟨g, 0, none⟩), .int .i64 l, .int .i64 s, .int .i64 hd, .slice ax n cx] w fun e w' => e = .returned (.int .i64 3) ∧ Below w.heap.size w w' := by
  have HH : Hid (hereI N L node l = false) := hh
  go_enter Try.func43, Try.ntmps43
  go_wp2_with (go_at_call 41; refine (dhere_any h hN l).mono ?_; rintro e w1 ⟨rfl, b1⟩; rw [HH.out])
  go_ret
  exact ⟨rfl, b1⟩
set_option maxHeartbeats 1000000 in
theorem dset_arg (h : DH w g M D N L K node R a L cap) (hN : 1 ≤ N) {l : Int} (hh : hereI N L node l = true) (s hd : Int) (ax : Option Addr) (n cx : Nat) (ho : setOk N K s hd n = false) :
    Calls Try.prog 43 #[.pointer (some ⟨g, 0, none⟩), .int .i64 l, .int .i64 s, .int .i64 hd, .slice ax n cx] w fun e w' => e = .returned (.int .i64 1) ∧ Below w.heap.size w w' := by
  have HH : Hid (hereI N L node l = true) := hh
  have hx : s < 0 ∨ (0 ≤ s ∧ 2 < s) ∨ (0 ≤ s ∧ s ≤ 2 ∧ hd < -1) ∨ (0 ≤ s ∧ s ≤ 2 ∧ -1 ≤ hd ∧ (N : Int) ≤ hd) ∨ (0 ≤ s ∧ s ≤ 2 ∧ -1 ≤ hd ∧ hd < (N : Int) ∧ s = 0 ∧ hd ≠ -1) ∨ (0 ≤ s ∧ s ≤ 2 ∧ -1 ≤ hd ∧ hd < (N : Int) ∧ s ≠ 0 ∧ hd = -1) ∨ (0 ≤ s ∧ s ≤ 2 ∧ -1 ≤ hd ∧ hd < (N : Int) ∧ s = 0 ∧ hd = -1 ∧ n ≠ 0 ∧ n ≠ K) ∨ (0 ≤ s ∧ s ≤ 2 ∧ -1 ≤ hd ∧ hd < (N : Int) ∧ s ≠ 0 ∧ hd ≠ -1 ∧ n ≠ 0 ∧ n ≠ K) := by
    unfold setOk at ho
    by_cases h1 : 0 ≤ s ∧ s ≤ 2
    · by_cases h2 : -1 ≤ hd ∧ hd < (N : Int)
      · rw [decide_eq_true h1, decide_eq_true h2] at ho
        by_cases h3 : s = 0
        · by_cases h4 : hd = -1
          · have h5 : ¬ (n = 0 ∨ (n : Int) = K) := fun h5 => by rw [decide_eq_true h5, h3, h4] at ho; exact absurd ho (by decide)
            omega
          · omega
        · by_cases h4 : hd = -1
          · omega
          · have h5 : ¬ (n = 0 ∨ (n : Int) = K) := fun h5 => by
              have e1 : (s == 0) = false := by simp [h3]
              have e2 : (hd == -1) = false := by simp [h4]
              rw [decide_eq_true h5, e1, e2] at ho
              exact absurd ho (by decide)
            omega
      · omega
    · omega
  clear ho
  have c0 := h.c0
  have c2 := h.c2
  have lt := h.lt
  rcases hx with hx | hx | hx | hx | hx | hx | hx | hx
  · go_enter Try.func43, Try.ntmps43
    go_wp2_with (go_at_call 41; refine (dhere_any h hN l).mono ?_; rintro e w1 ⟨rfl, b1⟩; rw [HH.out]; obtain ⟨k1, k2⟩ := bcell b1)
    go_ret
    exact ⟨rfl, b1⟩
  · obtain ⟨x1, x2⟩ := hx
    go_enter Try.func43, Try.ntmps43
    go_wp2_with (go_at_call 41; refine (dhere_any h hN l).mono ?_; rintro e w1 ⟨rfl, b1⟩; rw [HH.out]; obtain ⟨k1, k2⟩ := bcell b1)
    go_ret
    exact ⟨rfl, b1⟩
  · obtain ⟨x1, x2, x3⟩ := hx
    go_enter Try.func43, Try.ntmps43
    go_wp2_with (go_at_call 41; refine (dhere_any h hN l).mono ?_; rintro e w1 ⟨rfl, b1⟩; rw [HH.out]; obtain ⟨k1, k2⟩ := bcell b1)
    go_ret
    exact ⟨rfl, b1⟩
  · obtain ⟨x1, x2, x3, x4⟩ := hx
    go_enter Try.func43, Try.ntmps43
    go_wp2_with (go_at_call 41; refine (dhere_any h hN l).mono ?_; rintro e w1 ⟨rfl, b1⟩; rw [HH.out]; obtain ⟨k1, k2⟩ := bcell b1)
    go_ret
    exact ⟨rfl, b1⟩
  · obtain ⟨x1, x2, x3, x4, x5, x6⟩ := hx
    subst x5
    have x6' : (hd == -1) = false := by simp [x6]
    go_enter Try.func43, Try.ntmps43
    go_wp2_with (go_at_call 41; refine (dhere_any h hN l).mono ?_; rintro e w1 ⟨rfl, b1⟩; rw [HH.out]; obtain ⟨k1, k2⟩ := bcell b1)
    go_ret
    exact ⟨rfl, b1⟩
  · obtain ⟨x1, x2, x3, x4, x5, x6⟩ := hx
    subst x6
    have x5' : (s == 0) = false := by simp [x5]
    go_enter Try.func43, Try.ntmps43
    go_wp2_with (go_at_call 41; refine (dhere_any h hN l).mono ?_; rintro e w1 ⟨rfl, b1⟩; rw [HH.out]; obtain ⟨k1, k2⟩ := bcell b1)
    go_ret
    exact ⟨rfl, b1⟩
  · obtain ⟨x1, x2, x3, x4, x5, x6, x7, x8⟩ := hx
    subst x5 x6
    have x7' : (0 : Int) < (n : Int) := by omega
    have x8' : ((n : Int) != (K : Int)) = true := by simp; omega
    go_enter Try.func43, Try.ntmps43
    go_wp2_with (go_at_call 41; refine (dhere_any h hN l).mono ?_; rintro e w1 ⟨rfl, b1⟩; rw [HH.out]; obtain ⟨k1, k2⟩ := bcell b1)
    go_ret
    exact ⟨rfl, b1⟩
  · obtain ⟨x1, x2, x3, x4, x5, x6, x7, x8⟩ := hx
    have x5' : (s == 0) = false := by simp [x5]
    have x6' : (hd == -1) = false := by simp [x6]
    have x7' : (0 : Int) < (n : Int) := by omega
    have x8' : ((n : Int) != (K : Int)) = true := by simp; omega
    go_enter Try.func43, Try.ntmps43
    go_wp2_with (go_at_call 41; refine (dhere_any h hN l).mono ?_; rintro e w1 ⟨rfl, b1⟩; rw [HH.out]; obtain ⟨k1, k2⟩ := bcell b1)
    go_ret
    exact ⟨rfl, b1⟩
end
end Go.Proofs.Ytgeiagndpfdnlaa
end
section
namespace Go.Proofs.Ytgeiagndpfdnlaa
open Go.RowKit Go.Maps
set_option linter.unusedVariables false
set_option maxRecDepth 20000

section
variable {w : World} {g : Nat} {M D : Nat → Prop} {N L K : Nat} {node : Int} {R : List (Hr × Value)} {a : Option Addr} {cap : Nat}
set_option maxHeartbeats 1000000 in
theorem dset_keep (h : DH w g M D N L K node R a L cap) (hN : 1 ≤ N) {l : Nat} (hl : l < L) (hL : L ≤ 8) (hh : hereI N L node l = true) (s hd : Int) (ax : Option Addr) (n cx : Nat) (h0 : n = 0) (ho : setOk N K s hd n = true) :
    Calls Try.prog 43 #[.pointer (some ⟨g, 0, none⟩), .int .i64 l, .int .i64 s, .int .i64 hd, .slice ax n cx] w fun e w' => e = .returned (.int .i64 0) ∧ Keep M w w' ∧ ∃ D' d x v, (∀ j, D' j → D j ∨ w.heap.size ≤ j) ∧ R[l]? = some (x, v) ∧ DH w' g M D' N L K node (R.set l ((⟨(l : Int), s, hd, x.z⟩ : Hr), d)) a L cap := by
  have HH : Hid (hereI N L node l = true) := hh
  have hx : (0 ≤ s ∧ s ≤ 2) ∧ (-1 ≤ hd ∧ hd < (N : Int)) ∧ (s = 0 ∧ hd = -1 ∨ s ≠ 0 ∧ hd ≠ -1) ∧ (n = 0 ∨ (n : Int) = K) := by
    unfold setOk at ho
    simp only [Bool.and_eq_true] at ho
    refine ⟨of_decide_eq_true ho.1.1.1, of_decide_eq_true ho.1.1.2, ?_, of_decide_eq_true ho.2⟩
    have h3 := ho.1.2
    by_cases e1 : s = 0 <;> by_cases e2 : hd = -1 <;> simp [e1, e2] at h3 ⊢
  obtain ⟨⟨x1, x2⟩, ⟨x3, x4⟩, x5, xK⟩ := hx
  have hn1 : (n : Int) ≤ 0 := by omega
  skip
  clear ho h0 xK
  have c0 := h.c0
  have c2 := h.c2
  have lt := h.lt
  rcases x5 with ⟨x5, x6⟩ | ⟨x5, x6⟩
  · subst x5 x6
    go_enter Try.func43, Try.ntmps43
    go_upto_region 5 with (go_at_call 41; refine (dhere_any h hN l).mono ?_; rintro e w1 ⟨rfl, b1⟩; rw [HH.out]; obtain ⟨k1, k2⟩ := bcell b1)
    clear k1 k2 c0 c2 lt
    have H1 := h.below b1
    obtain ⟨x, d, b, o, hR, hd0, hxn, ea, hMb, hblt, q0, q1, q2, qf⟩ := H1.get hl
    subst ea
    obtain ⟨a0, n0, k0, ed, sd0, _⟩ := hd0
    subst ed
    have HR : Hid (R[l]? = some (x, Value.slice a0 n0 k0)) := hR
    have HD0 : Hid (DatZ w1 D x.z (.slice a0 n0 k0)) := H1.dat _ (List.mem_of_getElem? hR)
    have HMB : Hid (M b) := hMb
    have c9 := H1.c9
    have lt := H1.lt
    have hll : (l : Int) < (L : Int) := by omega
    clear sd0 hR hMb hxn
    go_upto_region 6 with fail
    have r0 : (w1.alloc (.cells #[.int .i64 0, .int .i64 (-1), .slice a0 n0 k0] 82)).cell? ⟨w1.heap.size, 0, none⟩ = some (.int .i64 0) := by simp
    have r1 : (w1.alloc (.cells #[.int .i64 0, .int .i64 (-1), .slice a0 n0 k0] 82)).cell? ⟨w1.heap.size, 1, none⟩ = some (.int .i64 (-1)) := by simp
    have r2 : (w1.alloc (.cells #[.int .i64 0, .int .i64 (-1), .slice a0 n0 k0] 82)).cell? ⟨w1.heap.size, 2, none⟩ = some (.slice a0 n0 k0) := by simp
    have f2 : (w1.alloc (.cells #[.int .i64 0, .int .i64 (-1), .slice a0 n0 k0] 82)).frozen? ⟨w1.heap.size, 2, none⟩ = false := by simp
    have b2 : Below w1.heap.size w1 (w1.alloc (.cells #[.int .i64 0, .int .i64 (-1), .slice a0 n0 k0] 82)) := ba (Below.refl _ _)
    have rlt : w1.heap.size < (w1.alloc (.cells #[.int .i64 0, .int .i64 (-1), .slice a0 n0 k0] 82)).heap.size := by simp
    have H2 := H1.below b2
    have hb2 := next b1 b2
    have HVM : Hid (∀ j, M j ∨ D j → j < w1.heap.size) := H1.old
    have HVG : Hid (g < w1.heap.size ∧ w.heap.size ≤ w1.heap.size) := ⟨H1.lt, b1.size⟩
    have HD2 : Hid (DatZ (w1.alloc (.cells #[.int .i64 0, .int .i64 (-1), .slice a0 n0 k0] 82)) D x.z (.slice a0 n0 k0)) := HD0.out.below b2
    clear HD0 H1 c9 lt q0 q1 q2 qf hblt b2
    generalize w1.heap.size = gv at *
    generalize w1.alloc _ = w2 at *
    clear b1
    clear w1
    go_upto_region 8 with fail
    have HV := H2
    have hbV := hb2
    have p0 := r0
    have p1 := r1
    have p2 := r2
    have hgv := rlt
    obtain ⟨E, hEE⟩ : ∃ E : Nat → Prop, E = D := ⟨_, rfl⟩
    have hE : ∀ k, E k → k < w2.heap.size ∧ ¬ M k ∧ k ≠ g := fun k hk => by
      subst hEE
      exact ⟨H2.old k (.inr hk), fun hm => H2.dj k hm hk, fun e => H2.ng.2 (e ▸ hk)⟩
    have HDV : Hid (DatZ w2 E x.z (.slice a0 n0 k0)) := hEE ▸ HD2
    have HNEW : Hid (∀ j, E j → D j ∨ w.heap.size ≤ j) := fun j hj => .inl (hEE ▸ hj)
    clear hEE H2 hb2 r0 r1 r2 f2 rlt HD2
    generalize w2 = V5 at *
    have HVM4 : Hid (∀ k, E k → k < V5.heap.size ∧ ¬ M k ∧ k ≠ g) := hE
    clear hE
    refine wp_region_orders 8 rfl (by kernel_rfl) ?_
    have Bd : Below V5.heap.size V5 V5.drew := (Below.refl _ _).drew
    have H6 := HV.below Bd
    have hb6 := next hbV Bd
    have y0 := (Bd.cell (p := ⟨gv, 0, none⟩) hgv).trans p0
    have y1 := (Bd.cell (p := ⟨gv, 1, none⟩) hgv).trans p1
    have y2 := (Bd.cell (p := ⟨gv, 2, none⟩) hgv).trans p2
    have HD6 : Hid (DatZ V5.drew E x.z (.slice a0 n0 k0)) := HDV.out.below Bd
    have HE6 : Hid (∀ k, E k → k < V5.drew.heap.size ∧ ¬ M k ∧ k ≠ g) := fun k hk => ⟨Nat.lt_of_lt_of_le (HVM4.out k hk).1 Bd.size, (HVM4.out k hk).2⟩
    clear HV hbV p0 p1 p2 HDV HVM4 Bd hgv
    generalize V5.drew = V6 at *
    clear V5
    have hI : (fun V => V.cell? ⟨g, 9, none⟩ = some (.slice (some ⟨b, o, none⟩) L cap) ∧ V.cell? ⟨gv, 0, none⟩ = some (.int .i64 0) ∧ V.cell? ⟨gv, 1, none⟩ = some (.int .i64 (-1)) ∧ V.cell? ⟨gv, 2, none⟩ = some (.slice a0 n0 k0)) V6 := ⟨H6.c9, y0, y1, y2⟩
    clear y0 y1 y2
    refine any_inv (fun V => V.cell? ⟨g, 9, none⟩ = some (.slice (some ⟨b, o, none⟩) L cap) ∧ V.cell? ⟨gv, 0, none⟩ = some (.int .i64 0) ∧ V.cell? ⟨gv, 1, none⟩ = some (.int .i64 (-1)) ∧ V.cell? ⟨gv, 2, none⟩ = some (.slice a0 n0 k0)) [7] hI ?_
    refine inv_take (v := ?v1) [1, 2, 3, 6, 7] 0 hI rfl (by kernel_rfl) (by kernel_rfl) (by kernel_rfl) (by kernel_rfl) (by kernel_rfl) (fun _ _ _ h => h) (by kernel_rfl) (fun V hV => ?hy1) ?go1
    case hy1 => (obtain ⟨i0, i1, i2, i3⟩ := hV; go_simp <;> rfl)
    simp only [Act.put, List.setIfInBounds_toArray, List.set_cons_zero, List.set_cons_succ]
    refine inv_take (v := ?v2) [2, 3, 6, 7] 1 hI rfl (by kernel_rfl) (by kernel_rfl) (by kernel_rfl) (by kernel_rfl) (by kernel_rfl) (fun _ _ _ h => h) (by kernel_rfl) (fun V hV => ?hy2) ?go2
    case hy2 => (obtain ⟨i0, i1, i2, i3⟩ := hV; go_simp <;> rfl)
    simp only [Act.put, List.setIfInBounds_toArray, List.set_cons_zero, List.set_cons_succ]
    refine inv_take (v := ?v3) [3, 6, 7] 2 hI rfl (by kernel_rfl) (by kernel_rfl) (by kernel_rfl) (by kernel_rfl) (by kernel_rfl) (fun _ _ _ h => h) (by kernel_rfl) (fun V hV => ?hy3) ?go3
    case hy3 => (obtain ⟨i0, i1, i2, i3⟩ := hV; go_simp <;> rfl)
    simp only [Act.put, List.setIfInBounds_toArray, List.set_cons_zero, List.set_cons_succ]
    refine inv_take (v := ?v4) [6, 7] 3 hI rfl (by kernel_rfl) (by kernel_rfl) (by kernel_rfl) (by kernel_rfl) (by kernel_rfl) (fun _ _ _ h => h) (by kernel_rfl) (fun V hV => ?hy4) ?go4
    case hy4 => (obtain ⟨i0, i1, i2, i3⟩ := hV; go_simp <;> rfl)
    simp only [Act.put, List.setIfInBounds_toArray, List.set_cons_zero, List.set_cons_succ]
    refine inv_take (v := ?v5) [6, 7] 4 hI rfl (by kernel_rfl) (by kernel_rfl) (by kernel_rfl) (by kernel_rfl) (by kernel_rfl) (fun _ _ _ h => h) (by kernel_rfl) (fun V hV => ?hy5) ?go5
    case hy5 => (obtain ⟨i0, i1, i2, i3⟩ := hV; go_simp <;> rfl)
    simp only [Act.put, List.setIfInBounds_toArray, List.set_cons_zero, List.set_cons_succ]
    refine inv_take (v := ?v6) [6, 7] 5 hI rfl (by kernel_rfl) (by kernel_rfl) (by kernel_rfl) (by kernel_rfl) (by kernel_rfl) (fun _ _ _ h => h) (by kernel_rfl) (fun V hV => ?hy6) ?go6
    case hy6 => (obtain ⟨i0, i1, i2, i3⟩ := hV; go_simp <;> rfl)
    simp only [Act.put, List.setIfInBounds_toArray, List.set_cons_zero, List.set_cons_succ]
    refine inv_take (v := ?v7) [7] 6 hI rfl (by kernel_rfl) (by kernel_rfl) (by kernel_rfl) (by kernel_rfl) (by kernel_rfl) (fun _ _ _ h => h) (by kernel_rfl) (fun V hV => ?hy7) ?go7
    case hy7 => (obtain ⟨i0, i1, i2, i3⟩ := hV; go_simp <;> rfl)
    simp only [Act.put, List.setIfInBounds_toArray, List.set_cons_zero, List.set_cons_succ]
    clear hI
    obtain ⟨xq, dq, b', o', _, _, _, eb, _, hblt, q0, q1, q2, qf⟩ := H6.get hl
    injection eb with eb
    injection eb with eb1 eb2
    subst eb1 eb2
    have g0 : V6.frozen? ⟨b, o + l * 3, none⟩ = false := qf 0 (by omega)
    have g1 := qf 1 (by omega)
    have g2 := qf 2 (by omega)
    obtain ⟨HP, KP⟩ := H6.put (E := E) (y := ⟨(l : Int), 0, (-1), x.z⟩) (v := .slice a0 n0 k0) hl rfl HD6.out HE6.out
    have KN := (Keep.of_below (F := M) hb6).trans KP (fun j _ e => e ▸ HMB.out)
    clear qf KP hb6
    refine inv_write 7 (by kernel_rfl) (by kernel_rfl) rfl ?_
    go_wp2_with fail
    refine then_n ?_
    refine any_done (by kernel_rfl) ?_
    go_wp2_with fail
    go_ret
    exact ⟨rfl, KN, _, _, x, _, fun j hj => hj.elim .inl (HNEW.out j), HR.out, HP⟩
  · have x5' : (s == 0) = false := by simp [x5]
    have x6' : (hd == -1) = false := by simp [x6]
    go_enter Try.func43, Try.ntmps43
    go_upto_region 5 with (go_at_call 41; refine (dhere_any h hN l).mono ?_; rintro e w1 ⟨rfl, b1⟩; rw [HH.out]; obtain ⟨k1, k2⟩ := bcell b1)
    clear k1 k2 c0 c2 lt
    have H1 := h.below b1
    obtain ⟨x, d, b, o, hR, hd0, hxn, ea, hMb, hblt, q0, q1, q2, qf⟩ := H1.get hl
    subst ea
    obtain ⟨a0, n0, k0, ed, sd0, _⟩ := hd0
    subst ed
    have HR : Hid (R[l]? = some (x, Value.slice a0 n0 k0)) := hR
    have HD0 : Hid (DatZ w1 D x.z (.slice a0 n0 k0)) := H1.dat _ (List.mem_of_getElem? hR)
    have HMB : Hid (M b) := hMb
    have c9 := H1.c9
    have lt := H1.lt
    have hll : (l : Int) < (L : Int) := by omega
    clear sd0 hR hMb hxn
    go_upto_region 6 with fail
    have r0 : (w1.alloc (.cells #[.int .i64 s, .int .i64 hd, .slice a0 n0 k0] 82)).cell? ⟨w1.heap.size, 0, none⟩ = some (.int .i64 s) := by simp
    have r1 : (w1.alloc (.cells #[.int .i64 s, .int .i64 hd, .slice a0 n0 k0] 82)).cell? ⟨w1.heap.size, 1, none⟩ = some (.int .i64 hd) := by simp
    have r2 : (w1.alloc (.cells #[.int .i64 s, .int .i64 hd, .slice a0 n0 k0] 82)).cell? ⟨w1.heap.size, 2, none⟩ = some (.slice a0 n0 k0) := by simp
    have f2 : (w1.alloc (.cells #[.int .i64 s, .int .i64 hd, .slice a0 n0 k0] 82)).frozen? ⟨w1.heap.size, 2, none⟩ = false := by simp
    have b2 : Below w1.heap.size w1 (w1.alloc (.cells #[.int .i64 s, .int .i64 hd, .slice a0 n0 k0] 82)) := ba (Below.refl _ _)
    have rlt : w1.heap.size < (w1.alloc (.cells #[.int .i64 s, .int .i64 hd, .slice a0 n0 k0] 82)).heap.size := by simp
    have H2 := H1.below b2
    have hb2 := next b1 b2
    have HVM : Hid (∀ j, M j ∨ D j → j < w1.heap.size) := H1.old
    have HVG : Hid (g < w1.heap.size ∧ w.heap.size ≤ w1.heap.size) := ⟨H1.lt, b1.size⟩
    have HD2 : Hid (DatZ (w1.alloc (.cells #[.int .i64 s, .int .i64 hd, .slice a0 n0 k0] 82)) D x.z (.slice a0 n0 k0)) := HD0.out.below b2
    clear HD0 H1 c9 lt q0 q1 q2 qf hblt b2
    generalize w1.heap.size = gv at *
    generalize w1.alloc _ = w2 at *
    clear b1
    clear w1
    go_upto_region 8 with fail
    have HV := H2
    have hbV := hb2
    have p0 := r0
    have p1 := r1
    have p2 := r2
    have hgv := rlt
    obtain ⟨E, hEE⟩ : ∃ E : Nat → Prop, E = D := ⟨_, rfl⟩
    have hE : ∀ k, E k → k < w2.heap.size ∧ ¬ M k ∧ k ≠ g := fun k hk => by
      subst hEE
      exact ⟨H2.old k (.inr hk), fun hm => H2.dj k hm hk, fun e => H2.ng.2 (e ▸ hk)⟩
    have HDV : Hid (DatZ w2 E x.z (.slice a0 n0 k0)) := hEE ▸ HD2
    have HNEW : Hid (∀ j, E j → D j ∨ w.heap.size ≤ j) := fun j hj => .inl (hEE ▸ hj)
    clear hEE H2 hb2 r0 r1 r2 f2 rlt HD2
    generalize w2 = V5 at *
    have HVM4 : Hid (∀ k, E k → k < V5.heap.size ∧ ¬ M k ∧ k ≠ g) := hE
    clear hE
    refine wp_region_orders 8 rfl (by kernel_rfl) ?_
    have Bd : Below V5.heap.size V5 V5.drew := (Below.refl _ _).drew
    have H6 := HV.below Bd
    have hb6 := next hbV Bd
    have y0 := (Bd.cell (p := ⟨gv, 0, none⟩) hgv).trans p0
    have y1 := (Bd.cell (p := ⟨gv, 1, none⟩) hgv).trans p1
    have y2 := (Bd.cell (p := ⟨gv, 2, none⟩) hgv).trans p2
    have HD6 : Hid (DatZ V5.drew E x.z (.slice a0 n0 k0)) := HDV.out.below Bd
    have HE6 : Hid (∀ k, E k → k < V5.drew.heap.size ∧ ¬ M k ∧ k ≠ g) := fun k hk => ⟨Nat.lt_of_lt_of_le (HVM4.out k hk).1 Bd.size, (HVM4.out k hk).2⟩
    clear HV hbV p0 p1 p2 HDV HVM4 Bd hgv
    generalize V5.drew = V6 at *
    clear V5
    have hI : (fun V => V.cell? ⟨g, 9, none⟩ = some (.slice (some ⟨b, o, none⟩) L cap) ∧ V.cell? ⟨gv, 0, none⟩ = some (.int .i64 s) ∧ V.cell? ⟨gv, 1, none⟩ = some (.int .i64 hd) ∧ V.cell? ⟨gv, 2, none⟩ = some (.slice a0 n0 k0)) V6 := ⟨H6.c9, y0, y1, y2⟩
    clear y0 y1 y2
    refine any_inv (fun V => V.cell? ⟨g, 9, none⟩ = some (.slice (some ⟨b, o, none⟩) L cap) ∧ V.cell? ⟨gv, 0, none⟩ = some (.int .i64 s) ∧ V.cell? ⟨gv, 1, none⟩ = some (.int .i64 hd) ∧ V.cell? ⟨gv, 2, none⟩ = some (.slice a0 n0 k0)) [7] hI ?_
    refine inv_take (v := ?v8) [1, 2, 3, 6, 7] 0 hI rfl (by kernel_rfl) (by kernel_rfl) (by kernel_rfl) (by kernel_rfl) (by kernel_rfl) (fun _ _ _ h => h) (by kernel_rfl) (fun V hV => ?hy8) ?go8
    case hy8 => (obtain ⟨i0, i1, i2, i3⟩ := hV; go_simp <;> rfl)
    simp only [Act.put, List.setIfInBounds_toArray, List.set_cons_zero, List.set_cons_succ]
    refine inv_take (v := ?v9) [2, 3, 6, 7] 1 hI rfl (by kernel_rfl) (by kernel_rfl) (by kernel_rfl) (by kernel_rfl) (by kernel_rfl) (fun _ _ _ h => h) (by kernel_rfl) (fun V hV => ?hy9) ?go9
    case hy9 => (obtain ⟨i0, i1, i2, i3⟩ := hV; go_simp <;> rfl)
    simp only [Act.put, List.setIfInBounds_toArray, List.set_cons_zero, List.set_cons_succ]
    refine inv_take (v := ?v10) [3, 6, 7] 2 hI rfl (by kernel_rfl) (by kernel_rfl) (by kernel_rfl) (by kernel_rfl) (by kernel_rfl) (fun _ _ _ h => h) (by kernel_rfl) (fun V hV => ?hy10) ?go10
    case hy10 => (obtain ⟨i0, i1, i2, i3⟩ := hV; go_simp <;> rfl)
    simp only [Act.put, List.setIfInBounds_toArray, List.set_cons_zero, List.set_cons_succ]
    refine inv_take (v := ?v11) [6, 7] 3 hI rfl (by kernel_rfl) (by kernel_rfl) (by kernel_rfl) (by kernel_rfl) (by kernel_rfl) (fun _ _ _ h => h) (by kernel_rfl) (fun V hV => ?hy11) ?go11
    case hy11 => (obtain ⟨i0, i1, i2, i3⟩ := hV; go_simp <;> rfl)
    simp only [Act.put, List.setIfInBounds_toArray, List.set_cons_zero, List.set_cons_succ]
    refine inv_take (v := ?v12) [6, 7] 4 hI rfl (by kernel_rfl) (by kernel_rfl) (by kernel_rfl) (by kernel_rfl) (by kernel_rfl) (fun _ _ _ h => h) (by kernel_rfl) (fun V hV => ?hy12) ?go12
    case hy12 => (obtain ⟨i0, i1, i2, i3⟩ := hV; go_simp <;> rfl)
    simp only [Act.put, List.setIfInBounds_toArray, List.set_cons_zero, List.set_cons_succ]
    refine inv_take (v := ?v13) [6, 7] 5 hI rfl (by kernel_rfl) (by kernel_rfl) (by kernel_rfl) (by kernel_rfl) (by kernel_rfl) (fun _ _ _ h => h) (by kernel_rfl) (fun V hV => ?hy13) ?go13
    case hy13 => (obtain ⟨i0, i1, i2, i3⟩ := hV; go_simp <;> rfl)
    simp only [Act.put, List.setIfInBounds_toArray, List.set_cons_zero, List.set_cons_succ]
    refine inv_take (v := ?v14) [7] 6 hI rfl (by kernel_rfl) (by kernel_rfl) (by kernel_rfl) (by kernel_rfl) (by kernel_rfl) (fun _ _ _ h => h) (by kernel_rfl) (fun V hV => ?hy14) ?go14
    case hy14 => (obtain ⟨i0, i1, i2, i3⟩ := hV; go_simp <;> rfl)
    simp only [Act.put, List.setIfInBounds_toArray, List.set_cons_zero, List.set_cons_succ]
    clear hI
    obtain ⟨xq, dq, b', o', _, _, _, eb, _, hblt, q0, q1, q2, qf⟩ := H6.get hl
    injection eb with eb
    injection eb with eb1 eb2
    subst eb1 eb2
    have g0 : V6.frozen? ⟨b, o + l * 3, none⟩ = false := qf 0 (by omega)
    have g1 := qf 1 (by omega)
    have g2 := qf 2 (by omega)
    obtain ⟨HP, KP⟩ := H6.put (E := E) (y := ⟨(l : Int), s, hd, x.z⟩) (v := .slice a0 n0 k0) hl rfl HD6.out HE6.out
    have KN := (Keep.of_below (F := M) hb6).trans KP (fun j _ e => e ▸ HMB.out)
    clear qf KP hb6
    refine inv_write 7 (by kernel_rfl) (by kernel_rfl) rfl ?_
    go_wp2_with fail
    refine then_n ?_
    refine any_done (by kernel_rfl) ?_
    go_wp2_with fail
    go_ret
    exact ⟨rfl, KN, _, _, x, _, fun j hj => hj.elim .inl (HNEW.out j), HR.out, HP⟩
set_option maxHeartbeats 1000000 in
theorem dset_full (h : DH w g M D N L K node R a L cap) (hN : 1 ≤ N) {l : Nat} (hl : l < L) (hL : L ≤ 8) (hh : hereI N L node l = true) (s hd : Int) (ax : Option Addr) (n cx : Nat) (z : List Int) (hs : Sl w ax n cx z) (hn0 : 0 < n) (hb : n ≤ 17592186044416) (ho : setOk N K s hd n = true) :
    Calls Try.prog 43 #[.pointer (some ⟨g, 0, none⟩), .int .i64 l, .int .i64 s, .int .i64 hd, .slice ax n cx] w fun e w' => e = .returned (.int .i64 0) ∧ Keep M w w' ∧ ∃ D' d x v, (∀ j, D' j → D j ∨ w.heap.size ≤ j) ∧ R[l]? = some (x, v) ∧ DH w' g M D' N L K node (R.set l ((⟨(l : Int), s, hd, z⟩ : Hr), d)) a L cap := by
  have HH : Hid (hereI N L node l = true) := hh
  have hx : (0 ≤ s ∧ s ≤ 2) ∧ (-1 ≤ hd ∧ hd < (N : Int)) ∧ (s = 0 ∧ hd = -1 ∨ s ≠ 0 ∧ hd ≠ -1) ∧ (n = 0 ∨ (n : Int) = K) := by
    unfold setOk at ho
    simp only [Bool.and_eq_true] at ho
    refine ⟨of_decide_eq_true ho.1.1.1, of_decide_eq_true ho.1.1.2, ?_, of_decide_eq_true ho.2⟩
    have h3 := ho.1.2
    by_cases e1 : s = 0 <;> by_cases e2 : hd = -1 <;> simp [e1, e2] at h3 ⊢
  obtain ⟨⟨x1, x2⟩, ⟨x3, x4⟩, x5, xK⟩ := hx
  have hn1 : (0 : Int) < (n : Int) := by omega
  have hnK : ((n : Int) != (K : Int)) = false := by simp; omega
  clear ho xK
  have c0 := h.c0
  have c2 := h.c2
  have lt := h.lt
  rcases x5 with ⟨x5, x6⟩ | ⟨x5, x6⟩
  · subst x5 x6
    go_enter Try.func43, Try.ntmps43
    go_upto_region 5 with (go_at_call 41; refine (dhere_any h hN l).mono ?_; rintro e w1 ⟨rfl, b1⟩; rw [HH.out]; obtain ⟨k1, k2⟩ := bcell b1)
    clear k1 k2 c0 c2 lt
    have H1 := h.below b1
    obtain ⟨x, d, b, o, hR, hd0, hxn, ea, hMb, hblt, q0, q1, q2, qf⟩ := H1.get hl
    subst ea
    obtain ⟨a0, n0, k0, ed, sd0, _⟩ := hd0
    subst ed
    have HR : Hid (R[l]? = some (x, Value.slice a0 n0 k0)) := hR
    have HD0 : Hid (DatZ w1 D x.z (.slice a0 n0 k0)) := H1.dat _ (List.mem_of_getElem? hR)
    have HMB : Hid (M b) := hMb
    have c9 := H1.c9
    have lt := H1.lt
    have hll : (l : Int) < (L : Int) := by omega
    clear sd0 hR hMb hxn
    go_upto_region 6 with fail
    have r0 : (w1.alloc (.cells #[.int .i64 0, .int .i64 (-1), .slice a0 n0 k0] 82)).cell? ⟨w1.heap.size, 0, none⟩ = some (.int .i64 0) := by simp
    have r1 : (w1.alloc (.cells #[.int .i64 0, .int .i64 (-1), .slice a0 n0 k0] 82)).cell? ⟨w1.heap.size, 1, none⟩ = some (.int .i64 (-1)) := by simp
    have r2 : (w1.alloc (.cells #[.int .i64 0, .int .i64 (-1), .slice a0 n0 k0] 82)).cell? ⟨w1.heap.size, 2, none⟩ = some (.slice a0 n0 k0) := by simp
    have f2 : (w1.alloc (.cells #[.int .i64 0, .int .i64 (-1), .slice a0 n0 k0] 82)).frozen? ⟨w1.heap.size, 2, none⟩ = false := by simp
    have b2 : Below w1.heap.size w1 (w1.alloc (.cells #[.int .i64 0, .int .i64 (-1), .slice a0 n0 k0] 82)) := ba (Below.refl _ _)
    have rlt : w1.heap.size < (w1.alloc (.cells #[.int .i64 0, .int .i64 (-1), .slice a0 n0 k0] 82)).heap.size := by simp
    have H2 := H1.below b2
    have hb2 := next b1 b2
    have HVM : Hid (∀ j, M j ∨ D j → j < w1.heap.size) := H1.old
    have HVG : Hid (g < w1.heap.size ∧ w.heap.size ≤ w1.heap.size) := ⟨H1.lt, b1.size⟩
    have HD2 : Hid (DatZ (w1.alloc (.cells #[.int .i64 0, .int .i64 (-1), .slice a0 n0 k0] 82)) D x.z (.slice a0 n0 k0)) := HD0.out.below b2
    clear HD0 H1 c9 lt q0 q1 q2 qf hblt b2
    generalize w1.heap.size = gv at *
    generalize w1.alloc _ = w2 at *
    clear b1
    clear w1
    obtain ⟨i0, hi, hz0, hz1, hz2⟩ := info_parts Try.infoInt
    have hsx := hs.below hb2
    obtain ⟨hn, hle, hmx, hnil, hr⟩ := hsx
    have hm : n ≤ maxLen := Nat.le_trans hle hmx
    obtain ⟨xb, xo, eax, _⟩ := (hs.below hb2).at hn0
    subst eax
    go_upto_region 7 with fail
    go_upto_region 8 with (at_builtin; refine wpList_append_grows _ rfl _ _ 22 rfl 3 i0 (.int .i64 0) 1 8 Try.underlying22 hi hz0 hz1 hz2 rfl (by decide) none 0 0 [] rfl (fun _ => ⟨rfl, rfl⟩) rfl (fun _ e => by cases e) ⟨xb, xo, none⟩ n cx (cells z) rfl (by simp [cells, hn]) hr.cellsAt (cells_one z) (by omega) (by omega) (by omega) ?_; intro v4 w4 hown4 hgrow4; have own4 : Own w4 w2.heap.size v4 z := (by simpa [Own, hn] using hown4); obtain ⟨a4, k4, ev4, _⟩ := own4.sl' hn; subst ev4; have b4 : Below w2.heap.size w2 w4 := (Below.refl _ _).grown hgrow4 (Nat.le_refl _) (by intro k hk; simp at hk); have r04 := (b4.cell (p := ⟨gv, 0, none⟩) rlt).trans r0; have r14 := (b4.cell (p := ⟨gv, 1, none⟩) rlt).trans r1; have r24 := (b4.cell (p := ⟨gv, 2, none⟩) rlt).trans r2; have f24 := (b4.frozen (p := ⟨gv, 2, none⟩) rlt).trans f2)
    have hlo4 := own4.lo
    have kk4 := Keep.one w4 gv 2 (.slice a4 n k4)
    have HV := (H2.below b4).keep kk4 (fun e => by have := HVG.out.1; omega) (fun j hj e => by have := HVM.out j hj; omega)
    have hbV : Below w.heap.size w (w4.setCell ⟨gv, 2, none⟩ (.slice a4 n k4)) := kk4.after (next hb2 b4) (fun j hj => by have := HVG.out.2; omega)
    have p0 : (w4.setCell ⟨gv, 2, none⟩ (.slice a4 n k4)).cell? ⟨gv, 0, none⟩ = some (.int .i64 0) := by go_simp
    have p1 : (w4.setCell ⟨gv, 2, none⟩ (.slice a4 n k4)).cell? ⟨gv, 1, none⟩ = some (.int .i64 (-1)) := by go_simp
    have p2 : (w4.setCell ⟨gv, 2, none⟩ (.slice a4 n k4)).cell? ⟨gv, 2, none⟩ = some (.slice a4 n k4) := by go_simp
    have hgv : gv < (w4.setCell ⟨gv, 2, none⟩ (.slice a4 n k4)).heap.size := Nat.lt_of_lt_of_le (Nat.lt_of_lt_of_le rlt b4.size) kk4.size
    have own5 := own4.keep kk4 (fun j hj e => by have := (own4.base j hj).1; omega)
    have hE : ∀ k, (∃ y : Addr, a4 = some y ∧ k = y.block) → k < (w4.setCell ⟨gv, 2, none⟩ (.slice a4 n k4)).heap.size ∧ ¬ M k ∧ k ≠ g := fun k hk => by
      obtain ⟨y, hy, rfl⟩ := hk
      have h1 := hlo4 y hy
      have h2 := HVG.out.1
      exact ⟨Nat.lt_of_lt_of_le h1.2 kk4.size, fun hm => by have := HVM.out _ (.inl hm); omega, by omega⟩
    have HDV : Hid (DatZ (w4.setCell ⟨gv, 2, none⟩ (.slice a4 n k4)) (fun k => ∃ y : Addr, a4 = some y ∧ k = y.block) z (.slice a4 n k4)) := ⟨a4, n, k4, rfl, own_sl own5, hb, fun _ y hy => ⟨y, hy, rfl⟩⟩
    have HNEW : Hid (∀ j, (∃ y : Addr, a4 = some y ∧ j = y.block) → D j ∨ w.heap.size ≤ j) := fun j hj => by obtain ⟨y, hy, rfl⟩ := hj; exact .inr (by have := (hlo4 y hy).1; have := HVG.out.2; omega)
    obtain ⟨E, hEE⟩ : ∃ E : Nat → Prop, (fun k => ∃ y : Addr, a4 = some y ∧ k = y.block) = E := ⟨_, rfl⟩
    replace hE : ∀ k, E k → k < (w4.setCell ⟨gv, 2, none⟩ (.slice a4 n k4)).heap.size ∧ ¬ M k ∧ k ≠ g := hEE ▸ hE
    replace HNEW : Hid (∀ j, E j → D j ∨ w.heap.size ≤ j) := hEE ▸ HNEW
    rw [hEE] at HDV
    clear hEE own4 own5 kk4 hlo4 b4 H2 hb2 r0 r1 r2 f2 rlt r04 r14 r24 f24 hgrow4 HD2 hnil hr
    generalize w4.setCell ⟨gv, 2, none⟩ (.slice a4 n k4) = V5 at *
    have HVM4 : Hid (∀ k, E k → k < V5.heap.size ∧ ¬ M k ∧ k ≠ g) := hE
    clear hE
    refine wp_region_orders 8 rfl (by kernel_rfl) ?_
    have Bd : Below V5.heap.size V5 V5.drew := (Below.refl _ _).drew
    have H6 := HV.below Bd
    have hb6 := next hbV Bd
    have y0 := (Bd.cell (p := ⟨gv, 0, none⟩) hgv).trans p0
    have y1 := (Bd.cell (p := ⟨gv, 1, none⟩) hgv).trans p1
    have y2 := (Bd.cell (p := ⟨gv, 2, none⟩) hgv).trans p2
    have HD6 : Hid (DatZ V5.drew E z (.slice a4 n k4)) := HDV.out.below Bd
    have HE6 : Hid (∀ k, E k → k < V5.drew.heap.size ∧ ¬ M k ∧ k ≠ g) := fun k hk => ⟨Nat.lt_of_lt_of_le (HVM4.out k hk).1 Bd.size, (HVM4.out k hk).2⟩
    clear HV hbV p0 p1 p2 HDV HVM4 Bd hgv
    generalize V5.drew = V6 at *
    clear V5
    have hI : (fun V => V.cell? ⟨g, 9, none⟩ = some (.slice (some ⟨b, o, none⟩) L cap) ∧ V.cell? ⟨gv, 0, none⟩ = some (.int .i64 0) ∧ V.cell? ⟨gv, 1, none⟩ = some (.int .i64 (-1)) ∧ V.cell? ⟨gv, 2, none⟩ = some (.slice a4 n k4)) V6 := ⟨H6.c9, y0, y1, y2⟩
    clear y0 y1 y2
    refine any_inv (fun V => V.cell? ⟨g, 9, none⟩ = some (.slice (some ⟨b, o, none⟩) L cap) ∧ V.cell? ⟨gv, 0, none⟩ = some (.int .i64 0) ∧ V.cell? ⟨gv, 1, none⟩ = some (.int .i64 (-1)) ∧ V.cell? ⟨gv, 2, none⟩ = some (.slice a4 n k4)) [7] hI ?_
    refine inv_take (v := ?v15) [1, 2, 3, 6, 7] 0 hI rfl (by kernel_rfl) (by kernel_rfl) (by kernel_rfl) (by kernel_rfl) (by kernel_rfl) (fun _ _ _ h => h) (by kernel_rfl) (fun V hV => ?hy15) ?go15
    case hy15 => (obtain ⟨i0, i1, i2, i3⟩ := hV; go_simp <;> rfl)
    simp only [Act.put, List.setIfInBounds_toArray, List.set_cons_zero, List.set_cons_succ]
    refine inv_take (v := ?v16) [2, 3, 6, 7] 1 hI rfl (by kernel_rfl) (by kernel_rfl) (by kernel_rfl) (by kernel_rfl) (by kernel_rfl) (fun _ _ _ h => h) (by kernel_rfl) (fun V hV => ?hy16) ?go16
    case hy16 => (obtain ⟨i0, i1, i2, i3⟩ := hV; go_simp <;> rfl)
    simp only [Act.put, List.setIfInBounds_toArray, List.set_cons_zero, List.set_cons_succ]
    refine inv_take (v := ?v17) [3, 6, 7] 2 hI rfl (by kernel_rfl) (by kernel_rfl) (by kernel_rfl) (by kernel_rfl) (by kernel_rfl) (fun _ _ _ h => h) (by kernel_rfl) (fun V hV => ?hy17) ?go17
    case hy17 => (obtain ⟨i0, i1, i2, i3⟩ := hV; go_simp <;> rfl)
    simp only [Act.put, List.setIfInBounds_toArray, List.set_cons_zero, List.set_cons_succ]
    refine inv_take (v := ?v18) [6, 7] 3 hI rfl (by kernel_rfl) (by kernel_rfl) (by kernel_rfl) (by kernel_rfl) (by kernel_rfl) (fun _ _ _ h => h) (by kernel_rfl) (fun V hV => ?hy18) ?go18
    case hy18 => (obtain ⟨i0, i1, i2, i3⟩ := hV; go_simp <;> rfl)
    simp only [Act.put, List.setIfInBounds_toArray, List.set_cons_zero, List.set_cons_succ]
    refine inv_take (v := ?v19) [6, 7] 4 hI rfl (by kernel_rfl) (by kernel_rfl) (by kernel_rfl) (by kernel_rfl) (by kernel_rfl) (fun _ _ _ h => h) (by kernel_rfl) (fun V hV => ?hy19) ?go19
    case hy19 => (obtain ⟨i0, i1, i2, i3⟩ := hV; go_simp <;> rfl)
    simp only [Act.put, List.setIfInBounds_toArray, List.set_cons_zero, List.set_cons_succ]
    refine inv_take (v := ?v20) [6, 7] 5 hI rfl (by kernel_rfl) (by kernel_rfl) (by kernel_rfl) (by kernel_rfl) (by kernel_rfl) (fun _ _ _ h => h) (by kernel_rfl) (fun V hV => ?hy20) ?go20
    case hy20 => (obtain ⟨i0, i1, i2, i3⟩ := hV; go_simp <;> rfl)
    simp only [Act.put, List.setIfInBounds_toArray, List.set_cons_zero, List.set_cons_succ]
    refine inv_take (v := ?v21) [7] 6 hI rfl (by kernel_rfl) (by kernel_rfl) (by kernel_rfl) (by kernel_rfl) (by kernel_rfl) (fun _ _ _ h => h) (by kernel_rfl) (fun V hV => ?hy21) ?go21
    case hy21 => (obtain ⟨i0, i1, i2, i3⟩ := hV; go_simp <;> rfl)
    simp only [Act.put, List.setIfInBounds_toArray, List.set_cons_zero, List.set_cons_succ]
    clear hI
    obtain ⟨xq, dq, b', o', _, _, _, eb, _, hblt, q0, q1, q2, qf⟩ := H6.get hl
    injection eb with eb
    injection eb with eb1 eb2
    subst eb1 eb2
    have g0 : V6.frozen? ⟨b, o + l * 3, none⟩ = false := qf 0 (by omega)
    have g1 := qf 1 (by omega)
    have g2 := qf 2 (by omega)
    obtain ⟨HP, KP⟩ := H6.put (E := E) (y := ⟨(l : Int), 0, (-1), z⟩) (v := .slice a4 n k4) hl rfl HD6.out HE6.out
    have KN := (Keep.of_below (F := M) hb6).trans KP (fun j _ e => e ▸ HMB.out)
    clear qf KP hb6
    refine inv_write 7 (by kernel_rfl) (by kernel_rfl) rfl ?_
    go_wp2_with fail
    refine then_n ?_
    refine any_done (by kernel_rfl) ?_
    go_wp2_with fail
    go_ret
    exact ⟨rfl, KN, _, _, x, _, fun j hj => hj.elim .inl (HNEW.out j), HR.out, HP⟩
  · have x5' : (s == 0) = false := by simp [x5]
    have x6' : (hd == -1) = false := by simp [x6]
    go_enter Try.func43, Try.ntmps43
    go_upto_region 5 with (go_at_call 41; refine (dhere_any h hN l).mono ?_; rintro e w1 ⟨rfl, b1⟩; rw [HH.out]; obtain ⟨k1, k2⟩ := bcell b1)
    clear k1 k2 c0 c2 lt
    have H1 := h.below b1
    obtain ⟨x, d, b, o, hR, hd0, hxn, ea, hMb, hblt, q0, q1, q2, qf⟩ := H1.get hl
    subst ea
    obtain ⟨a0, n0, k0, ed, sd0, _⟩ := hd0
    subst ed
    have HR : Hid (R[l]? = some (x, Value.slice a0 n0 k0)) := hR
    have HD0 : Hid (DatZ w1 D x.z (.slice a0 n0 k0)) := H1.dat _ (List.mem_of_getElem? hR)
    have HMB : Hid (M b) := hMb
    have c9 := H1.c9
    have lt := H1.lt
    have hll : (l : Int) < (L : Int) := by omega
    clear sd0 hR hMb hxn
    go_upto_region 6 with fail
    have r0 : (w1.alloc (.cells #[.int .i64 s, .int .i64 hd, .slice a0 n0 k0] 82)).cell? ⟨w1.heap.size, 0, none⟩ = some (.int .i64 s) := by simp
    have r1 : (w1.alloc (.cells #[.int .i64 s, .int .i64 hd, .slice a0 n0 k0] 82)).cell? ⟨w1.heap.size, 1, none⟩ = some (.int .i64 hd) := by simp
    have r2 : (w1.alloc (.cells #[.int .i64 s, .int .i64 hd, .slice a0 n0 k0] 82)).cell? ⟨w1.heap.size, 2, none⟩ = some (.slice a0 n0 k0) := by simp
    have f2 : (w1.alloc (.cells #[.int .i64 s, .int .i64 hd, .slice a0 n0 k0] 82)).frozen? ⟨w1.heap.size, 2, none⟩ = false := by simp
    have b2 : Below w1.heap.size w1 (w1.alloc (.cells #[.int .i64 s, .int .i64 hd, .slice a0 n0 k0] 82)) := ba (Below.refl _ _)
    have rlt : w1.heap.size < (w1.alloc (.cells #[.int .i64 s, .int .i64 hd, .slice a0 n0 k0] 82)).heap.size := by simp
    have H2 := H1.below b2
    have hb2 := next b1 b2
    have HVM : Hid (∀ j, M j ∨ D j → j < w1.heap.size) := H1.old
    have HVG : Hid (g < w1.heap.size ∧ w.heap.size ≤ w1.heap.size) := ⟨H1.lt, b1.size⟩
    have HD2 : Hid (DatZ (w1.alloc (.cells #[.int .i64 s, .int .i64 hd, .slice a0 n0 k0] 82)) D x.z (.slice a0 n0 k0)) := HD0.out.below b2
    clear HD0 H1 c9 lt q0 q1 q2 qf hblt b2
    generalize w1.heap.size = gv at *
    generalize w1.alloc _ = w2 at *
    clear b1
    clear w1
    obtain ⟨i0, hi, hz0, hz1, hz2⟩ := info_parts Try.infoInt
    have hsx := hs.below hb2
    obtain ⟨hn, hle, hmx, hnil, hr⟩ := hsx
    have hm : n ≤ maxLen := Nat.le_trans hle hmx
    obtain ⟨xb, xo, eax, _⟩ := (hs.below hb2).at hn0
    subst eax
    go_upto_region 7 with fail
    go_upto_region 8 with (at_builtin; refine wpList_append_grows _ rfl _ _ 22 rfl 3 i0 (.int .i64 0) 1 8 Try.underlying22 hi hz0 hz1 hz2 rfl (by decide) none 0 0 [] rfl (fun _ => ⟨rfl, rfl⟩) rfl (fun _ e => by cases e) ⟨xb, xo, none⟩ n cx (cells z) rfl (by simp [cells, hn]) hr.cellsAt (cells_one z) (by omega) (by omega) (by omega) ?_; intro v4 w4 hown4 hgrow4; have own4 : Own w4 w2.heap.size v4 z := (by simpa [Own, hn] using hown4); obtain ⟨a4, k4, ev4, _⟩ := own4.sl' hn; subst ev4; have b4 : Below w2.heap.size w2 w4 := (Below.refl _ _).grown hgrow4 (Nat.le_refl _) (by intro k hk; simp at hk); have r04 := (b4.cell (p := ⟨gv, 0, none⟩) rlt).trans r0; have r14 := (b4.cell (p := ⟨gv, 1, none⟩) rlt).trans r1; have r24 := (b4.cell (p := ⟨gv, 2, none⟩) rlt).trans r2; have f24 := (b4.frozen (p := ⟨gv, 2, none⟩) rlt).trans f2)
    have hlo4 := own4.lo
    have kk4 := Keep.one w4 gv 2 (.slice a4 n k4)
    have HV := (H2.below b4).keep kk4 (fun e => by have := HVG.out.1; omega) (fun j hj e => by have := HVM.out j hj; omega)
    have hbV : Below w.heap.size w (w4.setCell ⟨gv, 2, none⟩ (.slice a4 n k4)) := kk4.after (next hb2 b4) (fun j hj => by have := HVG.out.2; omega)
    have p0 : (w4.setCell ⟨gv, 2, none⟩ (.slice a4 n k4)).cell? ⟨gv, 0, none⟩ = some (.int .i64 s) := by go_simp
    have p1 : (w4.setCell ⟨gv, 2, none⟩ (.slice a4 n k4)).cell? ⟨gv, 1, none⟩ = some (.int .i64 hd) := by go_simp
    have p2 : (w4.setCell ⟨gv, 2, none⟩ (.slice a4 n k4)).cell? ⟨gv, 2, none⟩ = some (.slice a4 n k4) := by go_simp
    have hgv : gv < (w4.setCell ⟨gv, 2, none⟩ (.slice a4 n k4)).heap.size := Nat.lt_of_lt_of_le (Nat.lt_of_lt_of_le rlt b4.size) kk4.size
    have own5 := own4.keep kk4 (fun j hj e => by have := (own4.base j hj).1; omega)
    have hE : ∀ k, (∃ y : Addr, a4 = some y ∧ k = y.block) → k < (w4.setCell ⟨gv, 2, none⟩ (.slice a4 n k4)).heap.size ∧ ¬ M k ∧ k ≠ g := fun k hk => by
      obtain ⟨y, hy, rfl⟩ := hk
      have h1 := hlo4 y hy
      have h2 := HVG.out.1
      exact ⟨Nat.lt_of_lt_of_le h1.2 kk4.size, fun hm => by have := HVM.out _ (.inl hm); omega, by omega⟩
    have HDV : Hid (DatZ (w4.setCell ⟨gv, 2, none⟩ (.slice a4 n k4)) (fun k => ∃ y : Addr, a4 = some y ∧ k = y.block) z (.slice a4 n k4)) := ⟨a4, n, k4, rfl, own_sl own5, hb, fun _ y hy => ⟨y, hy, rfl⟩⟩
    have HNEW : Hid (∀ j, (∃ y : Addr, a4 = some y ∧ j = y.block) → D j ∨ w.heap.size ≤ j) := fun j hj => by obtain ⟨y, hy, rfl⟩ := hj; exact .inr (by have := (hlo4 y hy).1; have := HVG.out.2; omega)
    obtain ⟨E, hEE⟩ : ∃ E : Nat → Prop, (fun k => ∃ y : Addr, a4 = some y ∧ k = y.block) = E := ⟨_, rfl⟩
    replace hE : ∀ k, E k → k < (w4.setCell ⟨gv, 2, none⟩ (.slice a4 n k4)).heap.size ∧ ¬ M k ∧ k ≠ g := hEE ▸ hE
    replace HNEW : Hid (∀ j, E j → D j ∨ w.heap.size ≤ j) := hEE ▸ HNEW
    rw [hEE] at HDV
    clear hEE own4 own5 kk4 hlo4 b4 H2 hb2 r0 r1 r2 f2 rlt r04 r14 r24 f24 hgrow4 HD2 hnil hr
    generalize w4.setCell ⟨gv, 2, none⟩ (.slice a4 n k4) = V5 at *
    have HVM4 : Hid (∀ k, E k → k < V5.heap.size ∧ ¬ M k ∧ k ≠ g) := hE
    clear hE
    refine wp_region_orders 8 rfl (by kernel_rfl) ?_
    have Bd : Below V5.heap.size V5 V5.drew := (Below.refl _ _).drew
    have H6 := HV.below Bd
    have hb6 := next hbV Bd
    have y0 := (Bd.cell (p := ⟨gv, 0, none⟩) hgv).trans p0
    have y1 := (Bd.cell (p := ⟨gv, 1, none⟩) hgv).trans p1
    have y2 := (Bd.cell (p := ⟨gv, 2, none⟩) hgv).trans p2
    have HD6 : Hid (DatZ V5.drew E z (.slice a4 n k4)) := HDV.out.below Bd
    have HE6 : Hid (∀ k, E k → k < V5.drew.heap.size ∧ ¬ M k ∧ k ≠ g) := fun k hk => ⟨Nat.lt_of_lt_of_le (HVM4.out k hk).1 Bd.size, (HVM4.out k hk).2⟩
    clear HV hbV p0 p1 p2 HDV HVM4 Bd hgv
    generalize V5.drew = V6 at *
    clear V5
    have hI : (fun V => V.cell? ⟨g, 9, none⟩ = some (.slice (some ⟨b, o, none⟩) L cap) ∧ V.cell? ⟨gv, 0, none⟩ = some (.int .i64 s) ∧ V.cell? ⟨gv, 1, none⟩ = some (.int .i64 hd) ∧ V.cell? ⟨gv, 2, none⟩ = some (.slice a4 n k4)) V6 := ⟨H6.c9, y0, y1, y2⟩
    clear y0 y1 y2
    refine any_inv (fun V => V.cell? ⟨g, 9, none⟩ = some (.slice (some ⟨b, o, none⟩) L cap) ∧ V.cell? ⟨gv, 0, none⟩ = some (.int .i64 s) ∧ V.cell? ⟨gv, 1, none⟩ = some (.int .i64 hd) ∧ V.cell? ⟨gv, 2, none⟩ = some (.slice a4 n k4)) [7] hI ?_
    refine inv_take (v := ?v22) [1, 2, 3, 6, 7] 0 hI rfl (by kernel_rfl) (by kernel_rfl) (by kernel_rfl) (by kernel_rfl) (by kernel_rfl) (fun _ _ _ h => h) (by kernel_rfl) (fun V hV => ?hy22) ?go22
    case hy22 => (obtain ⟨i0, i1, i2, i3⟩ := hV; go_simp <;> rfl)
    simp only [Act.put, List.setIfInBounds_toArray, List.set_cons_zero, List.set_cons_succ]
    refine inv_take (v := ?v23) [2, 3, 6, 7] 1 hI rfl (by kernel_rfl) (by kernel_rfl) (by kernel_rfl) (by kernel_rfl) (by kernel_rfl) (fun _ _ _ h => h) (by kernel_rfl) (fun V hV => ?hy23) ?go23
    case hy23 => (obtain ⟨i0, i1, i2, i3⟩ := hV; go_simp <;> rfl)
    simp only [Act.put, List.setIfInBounds_toArray, List.set_cons_zero, List.set_cons_succ]
    refine inv_take (v := ?v24) [3, 6, 7] 2 hI rfl (by kernel_rfl) (by kernel_rfl) (by kernel_rfl) (by kernel_rfl) (by kernel_rfl) (fun _ _ _ h => h) (by kernel_rfl) (fun V hV => ?hy24) ?go24
    case hy24 => (obtain ⟨i0, i1, i2, i3⟩ := hV; go_simp <;> rfl)
    simp only [Act.put, List.setIfInBounds_toArray, List.set_cons_zero, List.set_cons_succ]
    refine inv_take (v := ?v25) [6, 7] 3 hI rfl (by kernel_rfl) (by kernel_rfl) (by kernel_rfl) (by kernel_rfl) (by kernel_rfl) (fun _ _ _ h => h) (by kernel_rfl) (fun V hV => ?hy25) ?go25
    case hy25 => (obtain ⟨i0, i1, i2, i3⟩ := hV; go_simp <;> rfl)
    simp only [Act.put, List.setIfInBounds_toArray, List.set_cons_zero, List.set_cons_succ]
    refine inv_take (v := ?v26) [6, 7] 4 hI rfl (by kernel_rfl) (by kernel_rfl) (by kernel_rfl) (by kernel_rfl) (by kernel_rfl) (fun _ _ _ h => h) (by kernel_rfl) (fun V hV => ?hy26) ?go26
    case hy26 => (obtain ⟨i0, i1, i2, i3⟩ := hV; go_simp <;> rfl)
    simp only [Act.put, List.setIfInBounds_toArray, List.set_cons_zero, List.set_cons_succ]
    refine inv_take (v := ?v27) [6, 7] 5 hI rfl (by kernel_rfl) (by kernel_rfl) (by kernel_rfl) (by kernel_rfl) (by kernel_rfl) (fun _ _ _ h => h) (by kernel_rfl) (fun V hV => ?hy27) ?go27
    case hy27 => (obtain ⟨i0, i1, i2, i3⟩ := hV; go_simp <;> rfl)
    simp only [Act.put, List.setIfInBounds_toArray, List.set_cons_zero, List.set_cons_succ]
    refine inv_take (v := ?v28) [7] 6 hI rfl (by kernel_rfl) (by kernel_rfl) (by kernel_rfl) (by kernel_rfl) (by kernel_rfl) (fun _ _ _ h => h) (by kernel_rfl) (fun V hV => ?hy28) ?go28
    case hy28 => (obtain ⟨i0, i1, i2, i3⟩ := hV; go_simp <;> rfl)
    simp only [Act.put, List.setIfInBounds_toArray, List.set_cons_zero, List.set_cons_succ]
    clear hI
    obtain ⟨xq, dq, b', o', _, _, _, eb, _, hblt, q0, q1, q2, qf⟩ := H6.get hl
    injection eb with eb
    injection eb with eb1 eb2
    subst eb1 eb2
    have g0 : V6.frozen? ⟨b, o + l * 3, none⟩ = false := qf 0 (by omega)
    have g1 := qf 1 (by omega)
    have g2 := qf 2 (by omega)
    obtain ⟨HP, KP⟩ := H6.put (E := E) (y := ⟨(l : Int), s, hd, z⟩) (v := .slice a4 n k4) hl rfl HD6.out HE6.out
    have KN := (Keep.of_below (F := M) hb6).trans KP (fun j _ e => e ▸ HMB.out)
    clear qf KP hb6
    refine inv_write 7 (by kernel_rfl) (by kernel_rfl) rfl ?_
    go_wp2_with fail
    refine then_n ?_
    refine any_done (by kernel_rfl) ?_
    go_wp2_with fail
    go_ret
    exact ⟨rfl, KN, _, _, x, _, fun j hj => hj.elim .inl (HNEW.out j), HR.out, HP⟩
end
end Go.Proofs.Ytgeiagndpfdnlaa
end
section
namespace Go.Proofs.Ytgeiagndpfdnlaa
open Go.RowKit Go.Maps
set_option linter.unusedVariables false
set_option maxRecDepth 20000

section
variable {w wx wy : World} {g : Nat} {X Y F : Nat → Prop} {N K : Int} {L : List Hr}
theorem MO.step (h : MO w wx g X N K L) (hk : Keep F wx wy) (hF : ∀ j, F j → w.heap.size ≤ j ∧ (X j ∨ wx.heap.size ≤ j)) (hY : ∀ j, Y j → (X j ∨ wx.heap.size ≤ j) ∧ j < wy.heap.size) : MO w wy g Y N K L := by
  obtain ⟨b, D, R, c, e, hg, hb', hD⟩ := h.c
  have n : ∀ j, j < wx.heap.size → NX w X j → ¬ F j := fun j hj hn hf => by
    rcases (hF j hf).2 with hx | hx
    · exact hn.2 hx
    · omega
  have m : ∀ j, j < wx.heap.size → NX w X j → NX w Y j := fun j hj hn => ⟨hn.1, fun hy => by
    rcases (hY j hy).1 with hx | hx
    · exact hn.2 hx
    · omega⟩
  exact ⟨h.bel.trans (hk.below (fun j hj => (hF j hj).1) h.bel.size), ⟨b, D, R, c.keep hk ⟨n g c.lt hg, n b c.rows.lt hb', fun j hj => n j (c.old j hj) (hD j hj)⟩, e, m g c.lt hg, m b c.rows.lt hb', fun j hj => m j (c.old j hj) (hD j hj)⟩, fun j hj => (hY j hj).2, h.zl, h.k1⟩
end
structure DP (w wx : World) (g g2 gc : Nat) (X Z : Nat → Prop) (N L K : Nat) (node : Int) (Ld DL : List Hr) : Prop where
  mo : MO w wx g X N K Ld
  dh : ∃ M D R a cap, DH wx g2 M D N L K node R a L cap ∧ R.map Prod.fst = DL ∧ (X g2 ∧ ¬ Z g2) ∧ ∀ j, M j ∨ D j → X j ∧ w.heap.size ≤ j ∧ ¬ Z j
  z : ∀ j, Z j → X j ∧ w.heap.size ≤ j
  zc : Z gc
  c0 : wx.cell? ⟨gc, 0, none⟩ = some (.int .i64 (N : Int))
  c1 : wx.cell? ⟨gc, 1, none⟩ = some (.int .i64 (L : Int))
  c2 : wx.cell? ⟨gc, 2, none⟩ = some (.int .i64 (K : Int))
/-- What the document's Set answers, and its rows then. -/
def setD (N L K : Nat) (node : Int) (DL : List Hr) (l s h : Int) (z : List Int) : Int × List Hr :=
  if hereI N L node l = true then (if setOk N K s h z.length = true then (0, DL.set l.toNat ⟨l, s, h, if z = [] then ((DL[l.toNat]?).getD zeroHr).z else z⟩) else (1, DL)) else (3, DL)
section
variable {w wx wy : World} {g g2 gc : Nat} {X Z Y F : Nat → Prop} {N L K : Nat} {node : Int} {Ld Ld' DL : List Hr}
theorem DP.clt (h : DP w wx g g2 gc X Z N L K node Ld DL) : gc < wx.heap.size := h.mo.xl _ (h.z _ h.zc).1
theorem DP.keep (h : DP w wx g g2 gc X Z N L K node Ld DL) (hk : Keep F wx wy) (m : MO w wy g X N K Ld') (hF : ∀ j, F j → ¬ X j ∨ (Z j ∧ j ≠ gc)) : DP w wy g g2 gc X Z N L K node Ld' DL := by
  obtain ⟨M, D, R, a, cap, d, e, ⟨hg1, hg2⟩, hm⟩ := h.dh
  have ec := fun o => hk.cell (b := gc) o h.clt (fun hf => (hF _ hf).elim (fun hx => hx (h.z _ h.zc).1) (fun hz => hz.2 rfl))
  exact ⟨m, ⟨M, D, R, a, cap, d.keep hk (fun hf => (hF _ hf).elim (fun hx => hx hg1) (fun hz => hg2 hz.1)) (fun j hj hf => (hF _ hf).elim (fun hx => hx (hm j hj).1) (fun hz => (hm j hj).2.2 hz.1)), e, ⟨hg1, hg2⟩, hm⟩, h.z, h.zc, (ec _).trans h.c0, (ec _).trans h.c1, (ec _).trans h.c2⟩
theorem DP.below (h : DP w wx g g2 gc X Z N L K node Ld DL) (hb : Below wx.heap.size wx wy) : DP w wy g g2 gc X Z N L K node Ld DL := h.keep (F := fun _ => False) (Keep.of_below hb) (h.mo.below hb) (fun _ h => h.elim)
/-- The test has more of its own, all new. -/
theorem DP.grow (h : DP w wx g g2 gc X Z N L K node Ld DL) (hb : Below wx.heap.size wx wy) (hY : ∀ j, Y j → wx.heap.size ≤ j ∧ j < wy.heap.size) : DP w wy g g2 gc (fun j => X j ∨ Y j) (fun j => Z j ∨ Y j) N L K node Ld DL := by
  obtain ⟨M, D, R, a, cap, d, e, ⟨hg1, hg2⟩, hm⟩ := h.dh
  have hk := Keep.of_below (F := fun _ => False) hb
  have ec := fun o => hk.cell (b := gc) o h.clt id
  have hs := h.mo.bel.size
  refine ⟨h.mo.grow hb (fun j hj => ?_), ⟨M, D, R, a, cap, d.below hb, e, ⟨.inl hg1, fun hz => hz.elim hg2 (fun hy => by have := (hY _ hy).1; have := d.lt; omega)⟩, fun j hj => ⟨.inl (hm j hj).1, (hm j hj).2.1, fun hz => hz.elim (hm j hj).2.2 (fun hy => by have := (hY _ hy).1; have := d.old j hj; omega)⟩⟩, fun j hj => ?_, .inl h.zc, (ec _).trans h.c0, (ec _).trans h.c1, (ec _).trans h.c2⟩
  · rcases hj with hj | hj
    · exact ⟨.inl hj, Nat.lt_of_lt_of_le (h.mo.xl j hj) hb.size⟩
    · exact ⟨.inr (hY j hj).1, (hY j hj).2⟩
  · rcases hj with hj | hj
    · exact ⟨.inl (h.z j hj).1, (h.z j hj).2⟩
    · exact ⟨.inr hj, by have := (hY j hj).1; omega⟩
/-- The test writes its own. -/
theorem DP.write (h : DP w wx g g2 gc X Z N L K node Ld DL) (hk : Keep F wx wy) (hF : ∀ j, F j → Z j ∧ j ≠ gc) : DP w wy g g2 gc X Z N L K node Ld DL :=
  h.keep hk (h.mo.write hk (fun j hj => ⟨(h.z j (hF j hj).1).2, .inl (h.z j (hF j hj).1).1⟩)) (fun j hj => .inr (hF j hj))
theorem dp_set1 (h : DP w wx g g2 gc X Z N L K node Ld DL) {l : Int} (hl : In64 l) (s hd : Int) (a : Option Addr) (n cap : Nat) (z : List Int) (hs : Sl wx a n cap z) (hb : n ≤ 17592186044416) :
    Calls Try.prog 55 #[.pointer (some ⟨g, 0, none⟩), .int .i64 l, .int .i64 s, .int .i64 hd, .slice a n cap] wx fun e w' => e = .returned (.int .i64 (setR N K Ld l s hd z).1) ∧ Keep (NX w X) wx w' ∧ DP w w' g g2 gc X Z N L K node (setR N K Ld l s hd z).2 DL := by
  refine (mo_set h.mo hl s hd a n cap z hs hb).mono ?_
  rintro e w' ⟨rfl, hk, m⟩
  exact ⟨rfl, hk, h.keep hk m (fun j hj => .inl hj.2)⟩
theorem dp_set2 (h : DP w wx g g2 gc X Z N L K node Ld DL) (hN : 1 ≤ N) (hL : L ≤ 8) (l s hd : Int) (a : Option Addr) (n cap : Nat) (z : List Int) (hs : Sl wx a n cap z) (hb : n ≤ 17592186044416) :
    Calls Try.prog 43 #[.pointer (some ⟨g2, 0, none⟩), .int .i64 l, .int .i64 s, .int .i64 hd, .slice a n cap] wx fun e w' => e = .returned (.int .i64 (setD N L K node DL l s hd z).1) ∧ Keep (fun j => X j ∧ w.heap.size ≤ j ∧ ¬ Z j) wx w' ∧ ∃ X', (∀ j, X j → X' j) ∧ DP w w' g g2 gc X' Z N L K node Ld (setD N L K node DL l s hd z).2 := by
  have h0 := h
  obtain ⟨M, D, R, ra, rc, d, e, ⟨hg1, hg2⟩, hm⟩ := h.dh
  have hzn : z.length = n := hs.len
  unfold setD
  rw [hzn]
  have fin : ∀ {w' : World} {D' : Nat → Prop} {R' : List (Hr × Value)} {DL' : List Hr}, Keep M wx w' → (∀ j, D' j → D j ∨ wx.heap.size ≤ j) → DH w' g2 M D' N L K node R' ra L rc → R'.map Prod.fst = DL' →
      Keep (fun j => X j ∧ w.heap.size ≤ j ∧ ¬ Z j) wx w' ∧ ∃ X', (∀ j, X j → X' j) ∧ DP w w' g g2 gc X' Z N L K node Ld DL' := fun {w' D' R' DL'} hk hD' d' e' => by
    have ec := fun o => hk.cell (b := gc) o h.clt (fun hf => (hm _ (.inl hf)).2.2 h.zc)
    have hs := h.mo.bel.size
    refine ⟨hk.mono (fun j _ hj => hm j (.inl hj)), fun j => X j ∨ D' j, fun j hj => .inl hj, h.mo.step hk (fun j hj => ⟨(hm j (.inl hj)).2.1, .inl (hm j (.inl hj)).1⟩) (fun j hj => ?_), ⟨M, D', R', ra, rc, d', e', ⟨.inl hg1, hg2⟩, fun j hj => ?_⟩, fun j hj => ⟨.inl (h.z j hj).1, (h.z j hj).2⟩, h.zc, (ec _).trans h.c0, (ec _).trans h.c1, (ec _).trans h.c2⟩
    · rcases hj with hj | hj
      · exact ⟨.inl hj, Nat.lt_of_lt_of_le (h.mo.xl j hj) hk.size⟩
      · exact ⟨(hD' j hj).imp (fun hd => (hm j (.inr hd)).1) id, d'.old j (.inr hj)⟩
    · rcases hj with hj | hj
      · exact ⟨.inl (hm j (.inl hj)).1, (hm j (.inl hj)).2⟩
      · refine ⟨.inr hj, ?_⟩
        rcases hD' j hj with hd | hn
        · exact (hm j (.inr hd)).2
        · exact ⟨by omega, fun hz => by have := h.mo.xl j (h.z j hz).1; omega⟩
  have same : ∀ {w' : World}, Below wx.heap.size wx w' → Keep (fun j => X j ∧ w.heap.size ≤ j ∧ ¬ Z j) wx w' ∧ ∃ X', (∀ j, X j → X' j) ∧ DP w w' g g2 gc X' Z N L K node Ld DL := fun {w'} hb => ⟨Keep.of_below hb, X, fun j hj => hj, h0.below hb⟩
  cases hh : hereI N L node l with
  | false =>
    rw [if_neg (by simp)]
    refine (dset_none d hN hh s hd a n cap).mono ?_
    rintro en w' ⟨rfl, hb⟩
    exact ⟨rfl, same hb⟩
  | true =>
    rw [if_pos rfl]
    cases ho : setOk N K s hd n with
    | false =>
      rw [if_neg (by simp)]
      refine (dset_arg d hN hh s hd a n cap ho).mono ?_
      rintro en w' ⟨rfl, hb⟩
      exact ⟨rfl, same hb⟩
    | true =>
      rw [if_pos rfl]
      have hl : 0 ≤ l ∧ l < (L : Int) := by
        unfold hereI at hh
        simp only [Bool.and_eq_true] at hh
        exact ⟨of_decide_eq_true hh.1.1, of_decide_eq_true hh.1.2⟩
      obtain ⟨ln, rfl⟩ : ∃ ln : Nat, l = ln := ⟨l.toNat, by omega⟩
      have eln : (ln : Int).toNat = ln := by omega
      rw [eln]
      have hlen := d.len
      have hmap : ∀ (x : Hr) (v : Value) (r : Hr × Value), R[ln]? = some (x, v) → (R.set ln r).map Prod.fst = DL.set ln r.1 ∧ (DL[ln]?).getD zeroHr = x := fun x v r hx => by
        refine ⟨by rw [List.map_set, e], ?_⟩
        rw [← e, List.getElem?_map, hx]
        rfl
      by_cases h00 : n = 0
      · have hz0 : z = [] := List.eq_nil_of_length_eq_zero (by omega)
        rw [if_pos hz0]
        refine (dset_keep d hN (by omega) hL hh s hd a n cap h00 ho).mono ?_
        rintro en w' ⟨rfl, hk, D', dv, x, v, hD', hx, d'⟩
        obtain ⟨m1, m2⟩ := hmap x v (((⟨(ln : Int), s, hd, x.z⟩ : Hr), dv)) hx
        rw [m2]
        exact ⟨rfl, fin hk hD' d' m1⟩
      · have hz0 : z ≠ [] := fun e => by rw [e] at hzn; simp at hzn; omega
        rw [if_neg hz0]
        refine (dset_full d hN (by omega) hL hh s hd a n cap z hs (by omega) hb ho).mono ?_
        rintro en w' ⟨rfl, hk, D', dv, x, v, hD', hx, d'⟩
        obtain ⟨m1, m2⟩ := hmap x v (((⟨(ln : Int), s, hd, z⟩ : Hr), dv)) hx
        exact ⟨rfl, fin hk hD' d' m1⟩
end
end Go.Proofs.Ytgeiagndpfdnlaa
end
section
namespace Go.Proofs.Ytgeiagndpfdnlaa
open Go.RowKit
set_option linter.unusedVariables false

/-- One who waits: line, who, number. -/
structure Wr where
  l : Int
  w : Int
  d : Int
/-- Who has a line (-1: nobody). -/
def ownT (o : List (Int × Int)) (l : Int) : Int := match o.find? (fun p => decide (p.1 = l)) with | some p => p.2 | none => -1
/-- Who waits for a line. -/
def waitT (q : List Wr) (l : Int) : List Wr := q.filter (fun x => decide (x.l = l))
/-- Each line has one owner at most, and that is a number. -/
def OkT (o : List (Int × Int)) : Prop := (o.Pairwise fun a b => a.1 ≠ b.1) ∧ ∀ p ∈ o, 0 ≤ p.2
theorem ok_nil : OkT [] := ⟨List.Pairwise.nil, fun _ h => by cases h⟩
theorem own_at {o : List (Int × Int)} (h : OkT o) {p : Int × Int} (hp : p ∈ o) : ownT o p.1 = p.2 := by
  replace h := h.1
  unfold ownT
  induction o with
  | nil => cases hp
  | cons a o ih =>
    rw [List.find?_cons]
    by_cases e : a.1 = p.1
    · rw [decide_eq_true e]
      rcases List.mem_cons.1 hp with rfl | hp
      · rfl
      · exact absurd e (List.rel_of_pairwise_cons h hp)
    · rw [decide_eq_false e]
      rcases List.mem_cons.1 hp with rfl | hp
      · exact absurd rfl e
      · exact ih hp (List.Pairwise.of_cons h)
theorem own_none {o : List (Int × Int)} {l : Int} (h : ∀ p ∈ o, p.1 ≠ l) : ownT o l = -1 := by
  unfold ownT
  rw [List.find?_eq_none.2 (fun p hp => by simpa using h p hp)]
theorem own_none_of {o : List (Int × Int)} (h : OkT o) {l : Int} (hl : ownT o l = -1) : ∀ p ∈ o, p.1 ≠ l := fun p hp e => by
  have h1 := own_at h hp
  have h2 := h.2 p hp
  rw [e, hl] at h1
  omega
theorem own_some {o : List (Int × Int)} {l : Int} (hl : ownT o l ≠ -1) : (l, ownT o l) ∈ o := by
  unfold ownT at *
  cases hf : o.find? (fun p => decide (p.1 = l)) with
  | none => rw [hf] at hl; exact absurd rfl hl
  | some p =>
    have h1 := List.mem_of_find?_eq_some hf
    have h2 := List.find?_some hf
    simp at h2
    subst h2
    exact h1
theorem own_ge {o : List (Int × Int)} (h : OkT o) (l : Int) : -1 ≤ ownT o l := by
  by_cases e : ownT o l = -1
  · omega
  · have := h.2 _ (own_some e); simp at this; omega
/-- A line that had nobody gets one. -/
theorem ok_snoc {o : List (Int × Int)} (h : OkT o) {l w : Int} (hl : ownT o l = -1) (hw : 0 ≤ w) : OkT (o ++ [(l, w)]) := by
  refine ⟨List.pairwise_append.2 ⟨h.1, List.pairwise_singleton _ _, fun a ha b hb => ?_⟩, fun p hp => ?_⟩
  · rw [List.mem_singleton.1 hb]; exact own_none_of h hl a ha
  · rcases List.mem_append.1 hp with hp | hp
    · exact h.2 p hp
    · rw [List.mem_singleton.1 hp]; exact hw
theorem own_snoc {o : List (Int × Int)} (h : OkT o) {l w : Int} (hl : ownT o l = -1) (hw : 0 ≤ w) (k : Int) : ownT (o ++ [(l, w)]) k = if k = l then w else ownT o k := by
  have h2 := ok_snoc h hl hw
  by_cases e : k = l
  · rw [if_pos e, e]; exact own_at h2 (p := (l, w)) (by simp)
  · rw [if_neg e]
    by_cases e2 : ownT o k = -1
    · rw [e2]
      refine own_none fun p hp => ?_
      rcases List.mem_append.1 hp with hp | hp
      · exact own_none_of h e2 p hp
      · rw [List.mem_singleton.1 hp]; exact fun e3 => e e3.symm
    · exact own_at h2 (p := (k, ownT o k)) (List.mem_append_left _ (own_some e2))
/-- A line is let go. -/
theorem ok_erase {o : List (Int × Int)} (h : OkT o) (i : Nat) : OkT (o.eraseIdx i) := ⟨List.Pairwise.sublist (List.eraseIdx_sublist _ _) h.1, fun p hp => h.2 p (List.eraseIdx_subset hp)⟩
theorem own_erase {o : List (Int × Int)} (h : OkT o) {i : Nat} {p : Int × Int} (hp : o[i]? = some p) (k : Int) : ownT (o.eraseIdx i) k = if k = p.1 then -1 else ownT o k := by
  have h2 := ok_erase h i
  by_cases e : k = p.1
  · rw [if_pos e]
    refine own_none fun q hq e2 => ?_
    obtain ⟨hi, rfl⟩ := List.getElem?_eq_some_iff.1 hp
    rw [List.mem_eraseIdx_iff_getElem?] at hq
    obtain ⟨j, hji, hj⟩ := hq
    obtain ⟨hj', rfl⟩ := List.getElem?_eq_some_iff.1 hj
    have hpw := List.pairwise_iff_getElem.1 h.1
    rcases Nat.lt_or_gt_of_ne hji with hlt | hlt
    · exact hpw j i hj' hi hlt (by rw [e2, e])
    · exact hpw i j hi hj' hlt (by rw [e2, e])
  · rw [if_neg e]
    by_cases e2 : ownT o k = -1
    · rw [e2]; exact own_none fun q hq => own_none_of h e2 q (List.eraseIdx_subset hq)
    · have hm := own_some e2
      refine own_at h2 (p := (k, ownT o k)) ?_
      rw [List.mem_eraseIdx_iff_getElem?]
      obtain ⟨j, hj⟩ := List.mem_iff_getElem?.1 hm
      refine ⟨j, fun e3 => ?_, hj⟩
      rw [e3, hp] at hj
      exact e (by rw [Option.some.inj hj])
theorem wait_snoc (q : List Wr) (x : Wr) (k : Int) : waitT (q ++ [x]) k = if k = x.l then waitT q k ++ [x] else waitT q k := by
  unfold waitT
  rw [List.filter_append]
  by_cases e : k = x.l
  · rw [if_pos e, e]; simp
  · have e3 : [x].filter (fun y => decide (y.l = k)) = [] := List.filter_eq_nil_iff.2 (fun y hy => by rw [List.mem_singleton.1 hy]; simp; exact fun e2 => e e2.symm)
    rw [if_neg e, e3, List.append_nil]
/-- The first one who waits for a line goes. -/
theorem wait_erase {q : List Wr} {i : Nat} {x : Wr} (hx : q[i]? = some x) (hno : ∀ j y, j < i → q[j]? = some y → y.l ≠ x.l) (k : Int) : waitT (q.eraseIdx i) k = if k = x.l then (waitT q k).tail else waitT q k := by
  obtain ⟨hi, rfl⟩ := List.getElem?_eq_some_iff.1 hx
  have e1 : q = q.take i ++ q[i] :: q.drop (i + 1) := by rw [← List.drop_eq_getElem_cons hi, List.take_append_drop]
  have e2 : q.eraseIdx i = q.take i ++ q.drop (i + 1) := List.eraseIdx_eq_take_drop_succ q i
  have e3 : waitT (q.take i) q[i].l = [] := List.filter_eq_nil_iff.2 (fun y hy => by
    obtain ⟨j, hj⟩ := List.mem_iff_getElem?.1 hy
    rw [List.getElem?_take] at hj
    split at hj
    · simpa using hno j y (by assumption) hj
    · cases hj)
  have e4 : waitT q k = waitT (q.take i) k ++ waitT (q[i] :: q.drop (i + 1)) k := by
    unfold waitT
    rw [← List.filter_append, ← e1]
  rw [e2]
  rw [show waitT (q.take i ++ q.drop (i + 1)) k = waitT (q.take i) k ++ waitT (q.drop (i + 1)) k from List.filter_append ..]
  rw [e4]
  by_cases e : k = q[i].l
  · rw [if_pos e, e, e3, List.nil_append, List.nil_append]
    unfold waitT
    rw [List.filter_cons_of_pos (by simp), List.tail_cons]
  · rw [if_neg e]
    congr 1
    unfold waitT
    rw [List.filter_cons_of_neg (by simp; exact fun e5 => e e5.symm)]
theorem wait_first {q : List Wr} {i : Nat} {x : Wr} (hx : q[i]? = some x) (hno : ∀ j y, j < i → q[j]? = some y → y.l ≠ x.l) : (waitT q x.l).head? = some x := by
  have h : q.find? (fun y => decide (y.l = x.l)) = some x := by
    rw [List.find?_eq_some_iff_getElem]
    obtain ⟨hi, rfl⟩ := List.getElem?_eq_some_iff.1 hx
    refine ⟨by simp, i, hi, rfl, fun j hj => ?_⟩
    simpa using hno j _ hj (List.getElem?_eq_getElem (by omega))
  unfold waitT
  rw [List.head?_filter]
  exact h
theorem wait_none {q : List Wr} {l : Int} (h : ∀ y ∈ q, y.l ≠ l) : waitT q l = [] := List.filter_eq_nil_iff.2 (fun y hy => by simpa using h y hy)
/-- The lines that have nobody, but somebody waits for them, rising. -/
def rdyF (o : List (Int × Int)) (out : List Int) (x : Wr) : List Int := if ownT o x.l = -1 then putK id x.l out else out
def readyT (o : List (Int × Int)) (q : List Wr) : List Int := q.foldl (rdyF o) []
theorem ready_gen (o : List (Int × Int)) (q : List Wr) : ∀ (out : List Int), RiseK id out → RiseK id (q.foldl (rdyF o) out) ∧ ∀ k, k ∈ q.foldl (rdyF o) out ↔ k ∈ out ∨ (ownT o k = -1 ∧ ∃ x ∈ q, x.l = k) := by
  induction q with
  | nil => intro out h; exact ⟨h, fun k => by simp⟩
  | cons x q ih =>
    intro out h
    rw [List.foldl_cons]
    have h1 : RiseK id (rdyF o out x) := by unfold rdyF; split; exact rise_put h; exact h
    obtain ⟨h2, h3⟩ := ih _ h1
    refine ⟨h2, fun k => (h3 k).trans ?_⟩
    unfold rdyF
    by_cases e : ownT o x.l = -1
    · rw [if_pos e, mem_putK]
      constructor
      · rintro ((rfl | ⟨hk, _⟩) | ⟨hk, y, hy, rfl⟩)
        · exact .inr ⟨e, x, by simp, rfl⟩
        · exact .inl hk
        · exact .inr ⟨hk, y, by simp [hy], rfl⟩
      · rintro (hk | ⟨hk, y, hy, rfl⟩)
        · by_cases e2 : k = x.l
          · exact .inl (.inl e2)
          · exact .inl (.inr ⟨hk, e2⟩)
        · rcases List.mem_cons.1 hy with rfl | hy
          · exact .inl (.inl rfl)
          · exact .inr ⟨hk, y, hy, rfl⟩
    · rw [if_neg e]
      constructor
      · rintro (hk | ⟨hk, y, hy, rfl⟩)
        · exact .inl hk
        · exact .inr ⟨hk, y, by simp [hy], rfl⟩
      · rintro (hk | ⟨hk, y, hy, rfl⟩)
        · exact .inl hk
        · rcases List.mem_cons.1 hy with rfl | hy
          · exact absurd hk e
          · exact .inr ⟨hk, y, hy, rfl⟩
theorem ready_rise (o : List (Int × Int)) (q : List Wr) : RiseK id (readyT o q) := (ready_gen o q [] List.Pairwise.nil).1
theorem ready_mem (o : List (Int × Int)) (q : List Wr) (k : Int) : k ∈ readyT o q ↔ ownT o k = -1 ∧ waitT q k ≠ [] := by
  rw [readyT, (ready_gen o q [] List.Pairwise.nil).2 k]
  have : (∃ x ∈ q, x.l = k) ↔ waitT q k ≠ [] := by
    unfold waitT
    rw [Ne, List.filter_eq_nil_iff]
    simp
  rw [this]
  simp
/-- What rises and has the same lines is the same list. -/
theorem ready_eq {o : List (Int × Int)} {q : List Wr} {l : List Int} (hl : RiseK id l) (h : ∀ k, k ∈ l ↔ ownT o k = -1 ∧ waitT q k ≠ []) : readyT o q = l := rise_ext (ready_rise o q) hl (fun k => (ready_mem o q k).trans (h k).symm)
end Go.Proofs.Ytgeiagndpfdnlaa
end
