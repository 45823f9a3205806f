/- Regions that draw their order, make memory and then write what was there: as Take, but of the operations named in X, which wait for what is taken first, nothing is asked. Nothing of the program is named here.
The contracts of pool's New, Len, Room and alone. Conditions: as each theorem states them.
The contracts of pool's has and Get. Conditions: as each theorem states them.
slices.Delete of one packet out of a row of packets. Conditions: as each theorem states them.
The contract of pool's Remove. Conditions: as each theorem states them.
The contract of pool's Put. Conditions: as each theorem states them.
The contracts of queue's New, Len, Room and alone. Conditions: as each theorem states them.
The contract of queue's Put. Conditions: as each theorem states them.
The contracts of queue's Take and Peek. Conditions: as each theorem states them.
The contracts of the network's readers: isNode, lane, under, room, waiting. Conditions: as each theorem states them. -/
import Derived.Test.YtjdbjmfkheffdaaPart2
import Derived.Deep.RegionLaw
import Derived.Lib.SliceRun
import Derived.Test.YtjdbjmfkheffdaaPart4
section
namespace Go.Proofs.Ytjdbjmfkheffdaa
open Go.RowKit
set_option linter.unusedVariables false

section
variable {P : Program} {ops : Array Oper} {Q : Exit → Act → World → Prop} {w0 : World} {X : List Nat}

/-- Whatever order is picked from here on; behind each operation but those of X the world is above w0, and may grow. -/
def wpAnyX (P : Program) (ops : Array Oper) (Q : Exit → Act → World → Prop) (w0 : World) (X : List Nat) : Nat → Array Bool → Act → World → Prop
  | 0, listed, a, w => Region.ready .any ops listed = [] ∧ Q .normal a w
  | fuel + 1, listed, a, w =>
    (Region.ready .any ops listed = [] → Q .normal a w) ∧
    ∀ i ∈ Region.ready .any ops listed, wpOp P ops Q i (fun a' w' => (X.contains i = true ∧ wpAny P .any ops Q fuel (listed.setIfInBounds i true) a' w') ∨ (Below w0.heap.size w0 w' ∧ ∀ u : Up w', wpAnyX P ops Q w0 X fuel (listed.setIfInBounds i true) a' u.1)) a w
theorem wpAny_of_x : ∀ (fuel : Nat) (listed : Array Bool) (a : Act) (w : World), wpAnyX P ops Q w0 X fuel listed a w → wpAny P .any ops Q fuel listed a w
  | 0, _, _, _, h => h
  | fuel + 1, _, _, _, h => ⟨h.1, fun i hi => wpOp_mono (fun a' w' h' => h'.elim (fun h => h.2) fun h' => wpAny_of_x fuel _ a' w' (h'.2 (Up.self _))) (h.2 i hi)⟩
/-- Operation j waits for i. -/
def waitsOn (ops : Array Oper) (j i : Nat) : Bool := ((ops[j]?).map fun o => o.after.any fun e => Region.binds .any e && e.on == i).getD false
theorem waitsOn_spec {j i : Nat} (h : waitsOn ops j i = true) {oj : Oper} (hj : ops[j]? = some oj) : ∃ e ∈ oj.after, Region.binds .any e = true ∧ e.on = i := by
  unfold waitsOn at h
  rw [hj] at h
  simp at h
  obtain ⟨k, hk, h2, h3⟩ := h
  exact ⟨oj.after[k], Array.getElem_mem hk, h2, h3⟩
theorem wpAnyX_first {i : Nat} {oi : Oper} {v : Value} (hwa : X.all (fun j => waitsOn ops j i) = true) (hi : ops[i]? = some oi) (hsel : ∀ (j : Nat) (o : Oper) cs b, ops[j]? = some o → o.op ≠ .select cs b)
    (hQ : ∀ c a w, Q (.panic c) (a.put oi.dst v) w → Q (.panic c) a w) :
    ∀ (fuel : Nat) (listed : Array Bool) (a : Act) (W : Up w0),
      (∀ j oj, ops[j]? = some oj → j ≠ i → listed.getD j true = false → (∀ e ∈ oj.after, Region.binds .any e = true → e.on ≠ i) → oi.apart ops oj = true) →
      i ∈ Region.ready .any ops listed → Mild P ops w0 oi v a →
      (∀ u : Up W.1, wpAnyX P ops Q w0 X fuel (listed.setIfInBounds i true) (a.put oi.dst v) u.1) → wpAnyX P ops Q w0 X (fuel + 1) listed a W.1 := by
  intro fuel
  induction fuel with
  | zero =>
    intro listed a W _ hr hy H
    refine ⟨fun h => (by rw [h] at hr; cases hr), fun j hj => ?_⟩
    by_cases hji : j = i
    · subst hji; exact hy.wpOp hi W fun u => .inr ⟨(W.trans u).2, fun u' => H (u.trans u')⟩
    · have := ready_mono hj hji
      rw [(H (Up.self _)).1] at this
      cases this
  | succ fuel ih =>
    intro listed a W hfree hr hy H
    refine ⟨fun h => (by rw [h] at hr; cases hr), fun j hj => ?_⟩
    by_cases hji : j = i
    · subst hji; exact hy.wpOp hi W fun u => .inr ⟨(W.trans u).2, fun u' => H (u.trans u')⟩
    · have h1 := (H (Up.self _)).2 j (ready_mono hj hji)
      obtain ⟨hjun, oj, hoj, hall⟩ := mem_ready.1 hj
      have hnot : ∀ e ∈ oj.after, Region.binds .any e = true → e.on ≠ i := fun e he hb heq => by
        have g1 := hall e he hb
        have g0 := (mem_ready.1 hr).1
        rw [heq] at g1
        rcases Nat.lt_or_ge i listed.size with h' | h'
        · simp [h'] at g0 g1; rw [g0] at g1; cases g1
        · simp [Array.getElem?_eq_none h'] at g1
      have h2 := wpOp_mild hoj (hfree j oj hoj hji hjun hnot) (fun cs b => hsel i oi cs b hi) (fun cs b => hsel j oj cs b hoj) hQ hy h1
      have hfree' : ∀ k ok, ops[k]? = some ok → k ≠ i → (listed.setIfInBounds j true).getD k true = false →
          (∀ e ∈ ok.after, Region.binds .any e = true → e.on ≠ i) → oi.apart ops ok = true := fun k ok hk hki hun hno => by
        refine hfree k ok hk hki ?_ hno
        by_cases hjk : j = k
        · subst hjk; exact hjun
        · rw [getD_set_ne true hjk] at hun; exact hun
      have hri : i ∈ Region.ready .any ops (listed.setIfInBounds j true) := ready_mono hr (Ne.symm hji)
      have hjx : X.contains j = false := by
        cases hc : X.contains j
        · rfl
        · exfalso
          have hm : j ∈ X := by simpa using hc
          obtain ⟨e, he, hb, hon⟩ := waitsOn_spec (List.all_eq_true.1 hwa j hm) hoj
          exact hnot e he hb hon
      refine wpOp_mono (fun a' w' h3 => ?_) h2
      obtain ⟨hy', h3⟩ := h3
      rcases h3 with ⟨hx, _⟩ | ⟨hB, h3⟩
      · rw [hjx] at hx; cases hx
      refine .inr ⟨hB, fun u => ?_⟩
      refine ih (listed.setIfInBounds j true) a' ⟨u.1, next hB u.2⟩ hfree' hri hy' fun u' => ?_
      rw [Array.setIfInBounds_comm _ _ hji]
      exact h3 (u.trans u')

/-- The region, from here on, in every world above w0. -/
def MildX (P : Program) (ops : Array Oper) (Q : Exit → Act → World → Prop) (w0 : World) (X : List Nat) (fuel : Nat) (listed : Array Bool) (a : Act) : Prop :=
  ∀ W : Up w0, wpAnyX P ops Q w0 X fuel listed a W.1
theorem any_mildx (X : List Nat) {fuel : Nat} {listed : Array Bool} {a : Act} {w : World} (h : MildX P ops Q w X fuel listed a) : wpAny P .any ops Q fuel listed a w :=
  wpAny_of_x (w0 := w) (X := X) _ _ _ _ (h (Up.self w))
theorem mildx_take (i : Nat) {l rest : List Oper} {oi : Oper} {v : Value} {fuel : Nat} {listed : Array Bool} {a : Act} (hd : l.drop i = oi :: rest) (hs : Region.noSelect l.toArray = true) (hwa : X.all (fun j => waitsOn l.toArray j i) = true)
    (hf : Region.free .any l.toArray listed i = true) (hr : (Region.ready .any l.toArray listed).contains i = true) (hQ : ∀ c a w, Q (.panic c) (a.put oi.dst v) w → Q (.panic c) a w)
    (hw : Region.wanted oi (yielded l.toArray a.tmps) = true) (hy : ∀ (W : Up w0) (K : Act → Prop), K (a.put oi.dst v) → oi.quiet P a (fun w' => ∃ u : Up W.1, w' = u.1) K)
    (h : MildX P l.toArray Q w0 X fuel (listed.setIfInBounds i true) (a.put oi.dst v)) : MildX P l.toArray Q w0 X (fuel + 1) listed a := fun W =>
  wpAnyX_first hwa (of_drop hd) (Region.noSelect_spec hs) hQ fuel listed a W (Region.free_spec (of_drop hd) hf) (by simpa using hr) (.inl ⟨hw, hy⟩) fun u => h (W.trans u)
/-- One of the operations that only make memory, alone. -/
theorem upx_list (i : Nat) {l rest : List Oper} {oi : Oper} {fuel : Nat} {listed : Array Bool} {a : Act} {w : World} (hr : Region.ready .any l.toArray listed = [i]) (hd : l.drop i = oi :: rest)
    (h : wpList P l.toArray (Then (fun a' w' => Below w0.heap.size w0 w' ∧ ∀ u : Up w', wpAnyX P l.toArray Q w0 X fuel (listed.setIfInBounds i true) a' u.1) Q) [oi] a w) : wpAnyX P l.toArray Q w0 X (fuel + 1) listed a w :=
  ⟨fun h0 => (by rw [hr] at h0; cases h0), (by rw [hr]; intro j hj; rw [List.mem_singleton] at hj; subst hj; exact wpOp_mono (fun _ _ h => .inr h) (op_list j hd h))⟩
theorem upx_write (i : Nat) {l rest : List Oper} {oi : Oper} {fuel : Nat} {listed : Array Bool} {a : Act} {w : World} (hr : Region.ready .any l.toArray listed = [i]) (hx : X.contains i = true) (hd : l.drop i = oi :: rest)
    (h : wpList P l.toArray (Then (fun a' w' => wpAny P .any l.toArray Q fuel (listed.setIfInBounds i true) a' w') Q) [oi] a w) : wpAnyX P l.toArray Q w0 X (fuel + 1) listed a w :=
  ⟨fun h0 => (by rw [hr] at h0; cases h0), (by rw [hr]; intro j hj; rw [List.mem_singleton] at hj; subst hj; exact wpOp_mono (fun _ _ h => .inl ⟨hx, h⟩) (op_list j hd h))⟩
end
end Go.Proofs.Ytjdbjmfkheffdaa
end
section
namespace Go.Proofs.Ytjdbjmfkheffdaa
open Go.RowKit
set_option linter.unusedVariables false
namespace P

theorem qu_new (w : World) (room : Int) : Qu (w.alloc (.cells #[.int .i64 room, .slice none 0 0] 93)) w.heap.size (fun k => k = w.heap.size) (fun _ => False) room [] :=
  ⟨[], none, 0, by simp, by simp, fun o => (by simp), by simp, rfl, rfl, rw_nil _ _ _, fun r hr => (by cases hr), fun k hk => (by rcases hk with rfl | h <;> simp_all), fun k _ h => h⟩
theorem new_any (room : Int) (w : World) :
    Calls Try.prog 29 #[.int .i64 room] w fun e w' => e = .returned (.pointer (some ⟨w.heap.size, 0, none⟩)) ∧ Below w.heap.size w w' ∧ Qu w' w.heap.size (fun k => k = w.heap.size) (fun _ => False) (max room 0) [] := by
  go_enter Try.func29, Try.ntmps29
  go_wp2
  · go_ret
    refine ⟨rfl, ba (Below.refl _ _), ?_⟩
    rw [Int.max_eq_right (by omega)]
    exact qu_new w 0
  · go_ret
    refine ⟨rfl, ba (Below.refl _ _), ?_⟩
    rw [Int.max_eq_left (by omega)]
    exact qu_new w room

theorem len_any (w : World) {g : Nat} {M D : Nat → Prop} {room : Int} {L : List Pk} (h : Qu w g M D room L) :
    Calls Try.prog 62 #[.pointer (some ⟨g, 0, none⟩)] w fun e w' => e = .returned (.int .i64 L.length) ∧ w = w' := by
  obtain ⟨R, a, cap, h⟩ := h
  obtain ⟨c0, c1, fz, lt, _, _, row, _⟩ := h
  have hle := row.le
  have hmx := row.max
  clear row
  go_enter Try.func62, Try.ntmps62
  go_wp2
  go_ret
  exact ⟨rfl, rfl⟩
theorem room_any (w : World) {g : Nat} {M D : Nat → Prop} {room : Int} {L : List Pk} (h : Qu w g M D room L) (h0 : 0 ≤ room) (h1 : room ≤ 1000000000) :
    Calls Try.prog 65 #[.pointer (some ⟨g, 0, none⟩)] w fun e w' => e = .returned (.int .i64 (room - L.length)) ∧ ∃ k, w' = w.drewN k := by
  obtain ⟨R, a, cap, h⟩ := h
  obtain ⟨c0, c1, fz, lt, _, _, row, _⟩ := h
  have hle := row.le
  have hmx := row.max
  unfold maxLen at hmx
  clear row
  go_enter Try.func65, Try.ntmps65
  go_wp2_with fail
  go_quiet (fail)
  go_wp2
  go_ret
  exact ⟨rfl, _, rfl⟩
theorem len_n (w : World) {g : Nat} {M D : Nat → Prop} {room : Int} {L : List Pk} (h : Qu w g M D room L) (n : Int) (hn : (L.length : Int) = n) :
    Calls Try.prog 62 #[.pointer (some ⟨g, 0, none⟩)] w fun e w' => e = .returned (.int .i64 n) ∧ w = w' := by
  subst hn; exact len_any w h
theorem room_n (w : World) {g : Nat} {M D : Nat → Prop} {room : Int} {L : List Pk} (h : Qu w g M D room L) (h0 : 0 ≤ room) (h1 : room ≤ 1000000000) (n : Int) (hn : room - L.length = n) :
    Calls Try.prog 65 #[.pointer (some ⟨g, 0, none⟩)] w fun e w' => e = .returned (.int .i64 n) ∧ ∃ k, w' = w.drewN k := by
  subst hn; exact room_any w h h0 h1

/-- Words of their own. -/
theorem alone_any (x : Pk) (a : Option Addr) (n cap : Nat) (w : World) (hsl : Sl w a n cap x.z) (hn : n ≤ 17592186044416) :
    Calls Try.prog 56 #[x.val (.slice a n cap)] w fun e w' => ∃ v, e = .returned (x.val v) ∧ Own w' w.heap.size v x.z ∧ Below w.heap.size w w' := by
  obtain ⟨i0, hi, hz0, hz1, hz2⟩ := info_parts Try.infoInt
  obtain ⟨hl, hle, hmx, hnil, hr⟩ := hsl
  unfold Pk.val
  cases a with
  | none =>
    obtain rfl : cap = 0 := hnil rfl
    obtain rfl : n = 0 := by omega
    have HZ : Hid (x.z = []) := List.eq_nil_of_length_eq_zero hl
    clear hr hnil
    go_enter Try.func56, Try.ntmps56
    go_wp2_with (at_builtin; refine wpList_append_own_none rfl _ _ 22 rfl w.heap.size 3 i0 1 Try.underlying22 hi _ 0 [] rfl (World.ownsRow_nil _ _ _ _) rfl ?_)
    refine bodyPost_ret (v := x.val (.slice none 0 0)) (by simp [results, Try.results56, go_sem, *]) rfl ⟨_, rfl, by rw [HZ.out]; exact own_nil _ _, ?_⟩
    exact ba (ba (Below.refl _ _))
  | some y =>
    clear hnil
    go_enter Try.func56, Try.ntmps56
    go_wp2_with (at_builtin; refine wpList_append_own _ rfl _ _ 22 rfl (w.heap.size + 2) 3 i0 (.int .i64 0) 1 8 Try.underlying22 hi hz0 hz1 hz2 rfl (by decide) _ 0 [] rfl (World.ownsRow_nil _ _ _ _) y n cap (cells x.z) rfl (by simp [cells, hl]) (Row.below hr (ba (ba (Below.refl _ _)))).cellsAt (cells_one x.z) (by omega) (by omega) (by simp) ?_; intro v' w1 hown hgrow hiff; clear hiff; have hown' : Own w1 (w.heap.size + 2) v' x.z := (by simpa [Own, hl] using hown); obtain ⟨a', c', rfl, hs'⟩ := hown'.sl' hl; clear hown; have hb1 := below_new hgrow; clear hgrow; have bx1 := ((Bx.made w x (.slice (some y) n cap)).next (ba (Below.refl _ _))).next hb1; have bx2 := (Bx.made' (w.alloc (.cells #[.int .i64 x.k, .int .i64 x.f, .int .i64 x.t, .int .i64 x.i, .int .i64 x.l, .int .i64 x.p, .int .i64 x.s, .bool x.fl, .slice (some y) n cap] 26)) zeroPk (.slice none 0 0) (w.heap.size + 1) (by simp)).next hb1; obtain ⟨p0, p1, p2, p3, p4, p5, p6, p7, p8, pf, pl⟩ := bx1; obtain ⟨q0, q1, q2, q3, q4, q5, q6, q7, q8, qf, ql⟩ := bx2; simp only [zeroPk] at q0 q1 q2 q3 q4 q5 q6 q7 q8)
    refine bodyPost_ret (v := x.val (.slice a' n c')) (by simp [results, Try.results56, go_sem, *]) rfl ⟨_, rfl, ?_, ?_⟩
    · refine Own.low (base := w.heap.size + 2) ?_ (by omega)
      exact far9 (g := w.heap.size + 1) (y := x) (v := .slice a' n c') (W := w1.setCell ⟨w.heap.size, 8, none⟩ (.slice a' n c')) (P := fun V => Own V (w.heap.size + 2) (.slice a' n c') x.z) (fun V o u h => h.set (by simp) u) (hown'.set (by simp only; omega) _)
    · exact far9 (g := w.heap.size + 1) (y := x) (v := .slice a' n c') (W := w1.setCell ⟨w.heap.size, 8, none⟩ (.slice a' n c')) (P := fun V => Below w.heap.size w V) (fun V o u h => h.setCell (by simp) u) ((next (ba (ba (Below.refl _ _))) hb1).setCell (by simp) _)
end P
end Go.Proofs.Ytjdbjmfkheffdaa
end
section
namespace Go.Proofs.Ytjdbjmfkheffdaa
open Go.RowKit
set_option linter.unusedVariables false
namespace P

theorem has_yes (w : World) {g : Nat} {M D : Nat → Prop} {room : Int} {L : List Pk} (h : Qu w g M D room L) (at' : Int) (h0 : 0 ≤ at') (h1 : at' < L.length) :
    Calls Try.prog 55 #[.pointer (some ⟨g, 0, none⟩), .int .i64 at'] w fun e w' => e = .returned (.bool true) ∧ w = w' := by
  go_enter Try.func55, Try.ntmps55
  go_wp2_with (go_at_call 62; refine (len_any _ h).mono ?_; rintro e w1 ⟨rfl, rfl⟩)
  go_ret
  exact ⟨rfl, rfl⟩
theorem has_no (w : World) {g : Nat} {M D : Nat → Prop} {room : Int} {L : List Pk} (h : Qu w g M D room L) (at' : Int) (h0 : ¬ (0 ≤ at' ∧ at' < L.length)) :
    Calls Try.prog 55 #[.pointer (some ⟨g, 0, none⟩), .int .i64 at'] w fun e w' => e = .returned (.bool false) ∧ w = w' := by
  by_cases hz : 0 ≤ at'
  · have h1 : (L.length : Int) ≤ at' := by omega
    clear h0
    go_enter Try.func55, Try.ntmps55
    go_wp2_with (go_at_call 62; refine (len_any _ h).mono ?_; rintro e w1 ⟨rfl, rfl⟩)
    go_ret
    exact ⟨ret_bool (decide_eq_false (by omega)), rfl⟩
  · have hz' : at' < 0 := by omega
    clear h0
    go_enter Try.func55, Try.ntmps55
    go_wp2
    go_ret
    exact ⟨rfl, rfl⟩
set_option maxHeartbeats 600000 in
theorem get_none (w : World) {g : Nat} {M D : Nat → Prop} {room : Int} {L : List Pk} (h : Qu w g M D room L) (at' : Int) (h0 : ¬ (0 ≤ at' ∧ at' < L.length)) :
    Calls Try.prog 37 #[.pointer (some ⟨g, 0, none⟩), .int .i64 at'] w fun e w' => e = .returned (.tuple #[zeroPk.val (.slice none 0 0), .bool false]) ∧ Below w.heap.size w w' := by
  have H0 : Hid (¬ (0 ≤ at' ∧ at' < L.length)) := h0
  clear h0
  go_enter Try.func37, Try.ntmps37
  go_wp2_with (go_at_call 55; refine (has_no _ (h.below (ba (Below.refl _ _))) at' H0.out).mono ?_; rintro e w1 ⟨rfl, rfl⟩)
  refine bodyPost_ret (v := .tuple #[zeroPk.val (.slice none 0 0), .bool false]) (by simp [results, Try.results37, go_sem, zeroPk, *]) rfl ⟨rfl, ba (Below.refl _ _)⟩
set_option maxHeartbeats 600000 in
theorem get_some (w : World) {g : Nat} {M D : Nat → Prop} {room : Int} {L : List Pk} (h : Qu w g M D room L) (k : Nat) (x : Pk) (hx : L[k]? = some x) (at' : Int) (hat : at' = (k : Int)) :
    Calls Try.prog 37 #[.pointer (some ⟨g, 0, none⟩), .int .i64 at'] w fun e w' => ∃ d, e = .returned (.tuple #[x.val d, .bool true]) ∧ Below w.heap.size w w' ∧ Own w' w.heap.size d x.z := by
  subst hat
  have hk : k < L.length := (List.getElem?_eq_some_iff.1 hx).1
  have hhas := fun w1 (hb : Below w.heap.size w w1) => has_yes w1 (h.below hb) (k : Int) (by omega) (by omega)
  obtain ⟨R, a, cap, h⟩ := h
  obtain ⟨x', d, b, o, hx', hR, hdat, rfl, hm, hb, ⟨e0, e1, e2, e3, e4, e5, e6, e7, e8⟩, _⟩ := h.prow.get hk
  obtain rfl : x' = x := by rw [hx] at hx'; exact (Option.some.inj hx').symm
  obtain ⟨ad, nd, cd, rfl, hsd, hnd, hdd⟩ := hdat
  have c1 := h.c1
  have glt := h.lt
  have hmx := h.row.max
  have hle := h.row.le
  unfold maxLen at hmx
  have hk1 : (k : Int) < (L.length : Int) := by omega
  clear hdd h hx hx' hR hm
  generalize L.length = N at *
  go_enter Try.func37, Try.ntmps37
  go_wp2_with (first
    | (go_at_call 55; refine (hhas _ (ba (Below.refl _ _))).mono ?_; rintro e w1 ⟨rfl, rfl⟩)
    | (go_at_call 56; refine (alone_any x' ad nd cd _ (hsd.below (ba (Below.refl _ _))) hnd).mono ?_; rintro e w2 ⟨v2, rfl, hown2, hb2⟩; obtain ⟨a2, c2, rfl, hs2⟩ := hown2.sl' hsd.len; clear hs2; have bx := (Bx.made w zeroPk (.slice none 0 0)).next hb2; obtain ⟨q0, q1, q2, q3, q4, q5, q6, q7, q8, qf, ql⟩ := bx; simp only [zeroPk] at q0 q1 q2 q3 q4 q5 q6 q7 q8))
  refine bodyPost_ret (v := .tuple #[x'.val (.slice a2 nd c2), .bool true]) (by simp [results, Try.results37, go_sem, *]) rfl ⟨_, rfl, ?_, ?_⟩
  · exact far9 (g := w.heap.size) (y := x') (v := .slice a2 nd c2) (W := w2) (P := fun V => Below w.heap.size w V) (fun V o u h => h.setCell (by simp) u) (next (ba (Below.refl _ _)) hb2)
  · refine Own.low (base := w.heap.size + 1) ?_ (by omega)
    exact far9 (g := w.heap.size) (y := x') (v := .slice a2 nd c2) (W := w2) (P := fun V => Own V (w.heap.size + 1) (.slice a2 nd c2) x'.z) (fun V o u h => h.set (by simp) u) (by simpa using hown2)
end P
end Go.Proofs.Ytjdbjmfkheffdaa
end
section
namespace Go.Proofs.Ytjdbjmfkheffdaa
open Go.RowKit
set_option linter.unusedVariables false
set_option maxRecDepth 20000

theorem some_setCells (b : Nat) : ∀ (vs : List Value) (o : Nat) (w : World) (p : Addr), (w.cell? p).isSome = true → ((w.setCells b o vs).cell? p).isSome = true
  | [], _, _, _, h => h
  | v :: r, o, w, p, h => some_setCells b r (o + 1) _ p (by
      by_cases e : (⟨b, o, none⟩ : Addr) = p
      · subst e
        rw [World.cell?_setCell_same' _ _ _ h]
        rfl
      · rw [World.cell?_setCell_other _ _ _ _ e]
        exact h)
/-- 'clear' of one element of more than one cell. -/
theorem run_clear_one {P : Program} (w : World) (t e ty : TypeId) (z : Value) (ht : P.underlying t = some (.slice e)) (hv : ∀ w, (zeroValue e).run P w = .ok z w) (zs : List Value) (hz : (Builtin.zeroCells z.cells 1).toList = zs) (h1 : ∀ u ∈ zs, u.oneCell' = true) (b o c : Nat)
    (hc : ∀ j, j < zs.length → (w.cell? ⟨b, o + j, none⟩).isSome = true) (hf : ∀ j, j < zs.length → w.frozen? ⟨b, o + j, none⟩ = false) :
    (Builtin.clear_ #[t] ty #[.slice (some ⟨b, o, none⟩) 1 c]).run P w = .ok (.tuple #[]) (w.setCells b o zs) := by
  have hst := run_storeCells_cells (P := P) b o zs 0 w (by simpa using hc) (by simpa using hf) h1
  simp only [Nat.add_zero] at hst
  simp [Builtin.clear_, run_underlying ht, hv, hz, hst]
theorem zeroPk_val (w : World) : (zeroValue 26).run Try.prog w = .ok (zeroPk.val (.slice none 0 0)) w := by
  obtain ⟨i0, hi, hp0, hp1, hp2⟩ := info_parts Try.infoPk
  simp [zeroValue, typeInfo, hi, hp0]
/-- The row behind both. -/
theorem rw_deleted {w : World} {S : Nat → Prop} {b o n cap k : Nat} {R : List (Pk × Value)} (hr : Rw w S (some ⟨b, o, none⟩) n cap 9 (pflat R)) (hl : R.length = n) (hk : k < n) :
    Rw ((w.setCells b (o + k * 9) (pflat (R.drop (k + 1)))).setCells b (o + (n - 1) * 9) (pcells zeroPk (.slice none 0 0))) S (some ⟨b, o, none⟩) (n - 1) cap 9 (pflat (R.eraseIdx k)) ∧
    Keep (fun j => j = b) w ((w.setCells b (o + k * 9) (pflat (R.drop (k + 1)))).setCells b (o + (n - 1) * 9) (pcells zeroPk (.slice none 0 0))) := by
  have hle := hr.le
  have hm := hr.max
  have kk : Keep (fun j => j = b) w ((w.setCells b (o + k * 9) (pflat (R.drop (k + 1)))).setCells b (o + (n - 1) * 9) (pcells zeroPk (.slice none 0 0))) :=
    Keep.setCells (F := fun j => j = b) (b := b) (.inl rfl) _ _ _ (Keep.setCells (F := fun j => j = b) (b := b) (.inl rfl) _ _ _ (Keep.refl _ _))
  refine ⟨⟨by rw [pflat_len, List.length_eraseIdx_of_lt (by omega), hl], by omega, hm, fun h => (by cases h), ?_⟩, kk⟩
  rcases hr.row with h0 | ⟨b', o', e, hs, hb, hc, hf⟩
  · omega
  · simp at e
    obtain ⟨rfl, rfl⟩ := e
    refine .inr ⟨b, o, rfl, hs, Nat.lt_of_lt_of_le hb kk.size, fun i u hu => ?_, fun i hi => ?_⟩
    · have hlen : (pflat (R.eraseIdx k)).length = (n - 1) * 9 := by rw [pflat_len, List.length_eraseIdx_of_lt (by omega), hl]
      have hi : i < (n - 1) * 9 := by rw [← hlen]; exact (List.getElem?_eq_some_iff.1 hu).1
      rw [World.cell?_setCells_out b _ _ _ ⟨b, o + i, none⟩ (fun _ _ => .inl (by simp only; omega))]
      rw [List.eraseIdx_eq_take_drop_succ, pflat_append] at hu
      have hlt : (pflat (R.take k)).length = k * 9 := by rw [pflat_len, List.length_take, Nat.min_eq_left (by omega)]
      by_cases hik : i < k * 9
      · rw [World.cell?_setCells_out b _ _ _ ⟨b, o + i, none⟩ (fun _ _ => .inl (by simp only; omega))]
        rw [List.getElem?_append_left (by omega)] at hu
        refine hc i u ?_
        rw [show R = R.take k ++ R.drop k from (List.take_append_drop k R).symm, pflat_append, List.getElem?_append_left (by omega)]
        exact hu
      · rw [List.getElem?_append_right (by omega), hlt] at hu
        have hj : i - k * 9 < (pflat (R.drop (k + 1))).length := (List.getElem?_eq_some_iff.1 hu).1
        have hsome : ∀ j, j < (pflat (R.drop (k + 1))).length → (w.cell? ⟨b, o + k * 9 + j, none⟩).isSome = true := fun j hj => by
          rw [pflat_len, List.length_drop] at hj
          rw [Nat.add_assoc]
          exact (hf (k * 9 + j) (by omega)).1
        have := World.cell?_setCells_in b (pflat (R.drop (k + 1))) (o + k * 9) w hsome (i - k * 9) hj
        rw [show o + i = o + k * 9 + (i - k * 9) by omega, this, ← List.getElem?_eq_getElem hj]
        exact hu
    · rw [World.frozen?_setCells, World.frozen?_setCells]
      exact ⟨some_setCells _ _ _ _ _ (some_setCells _ _ _ _ _ (hf i hi).1), (hf i hi).2⟩
set_option maxHeartbeats 600000 in
theorem delete_one (w : World) {S : Nat → Prop} {b o n cap k : Nat} {R : List (Pk × Value)} (hr : Rw w S (some ⟨b, o, none⟩) n cap 9 (pflat R)) (hl : R.length = n) (hk : k < n) (h1 : ∀ r ∈ R, r.2.oneCell' = true) (j : Int) (hj : j = ((k + 1 : Nat) : Int)) :
    Calls Try.prog 61 #[.slice (some ⟨b, o, none⟩) n cap, .int .i64 (k : Int), .int .i64 j] w fun e w' => e = .returned (.slice (some ⟨b, o, none⟩) (n - 1) cap) ∧
      Rw w' S (some ⟨b, o, none⟩) (n - 1) cap 9 (pflat (R.eraseIdx k)) ∧ Keep (fun j => j = b) w w' := by
  subst hj
  obtain ⟨i0, hi, hp0, hp1, hp2⟩ := info_parts Try.infoPk
  have hle := hr.le
  have hm := hr.max
  have HD := rw_deleted (w := w.drew) (S := S) (k := k) (hr.below ((Below.refl _ _).drew)) hl hk
  have hB : Below w.heap.size w w.drew := (Below.refl _ _).drew
  obtain ⟨hc, hf⟩ : (∀ i u, (pflat R)[i]? = some u → w.drew.cell? ⟨b, o + i, none⟩ = some u) ∧ (∀ i, i < cap * 9 → (w.drew.cell? ⟨b, o + i, none⟩).isSome = true ∧ w.drew.frozen? ⟨b, o + i, none⟩ = false) := by
    rcases hr.row with h0 | ⟨b', o', e, hs, hb, hc, hf⟩
    · omega
    · simp at e
      obtain ⟨rfl, rfl⟩ := e
      exact ⟨hc, hf⟩
  obtain ⟨news, hnews⟩ : ∃ news, pflat (R.drop (k + 1)) = news := ⟨_, rfl⟩
  have hlen : news.length = (n - (k + 1)) * 9 := by rw [← hnews, pflat_len, List.length_drop, hl]
  obtain ⟨A, hA, hsrc⟩ : ∃ A : Addr, (if cap = k + 1 then some (⟨b, o, none⟩ : Addr) else some ⟨b, o + (k + 1) * 9, none⟩) = some A ∧ Hid (∀ t u, news[t]? = some u → w.drew.cell? (A.add t) = some u) := by
    by_cases h : cap = k + 1
    · refine ⟨⟨b, o, none⟩, by simp [h], fun t u hu => ?_⟩
      have h0 : news.length = 0 := by rw [hlen]; omega
      rw [List.length_eq_zero_iff.1 h0] at hu
      simp at hu
    · refine ⟨⟨b, o + (k + 1) * 9, none⟩, by simp [h], fun t u hu => ?_⟩
      rw [Addr.add_lit, Nat.add_assoc]
      refine hc _ u ?_
      have hlt : (pflat (R.take (k + 1))).length = (k + 1) * 9 := by rw [pflat_len, List.length_take, Nat.min_eq_left (by omega)]
      rw [show R = R.take (k + 1) ++ R.drop (k + 1) from (List.take_append_drop _ R).symm, pflat_append, hnews, List.getElem?_append_right (by omega), hlt, show (k + 1) * 9 + t - (k + 1) * 9 = t by omega]
      exact hu
  have s1 : Hid (news.length = (n - (k + 1)) * 9) := hlen
  have s2 : Hid (∀ u ∈ news, u.oneCell' = true) := by
    intro u hu
    rw [← hnews] at hu
    obtain ⟨r, hr2, hu2⟩ := List.mem_flatMap.1 hu
    exact pcells_one (h1 r (List.mem_of_mem_drop hr2)) u hu2
  have s3 : Hid (∀ t, t < news.length → (w.drew.cell? ⟨b, o + k * 9 + t, none⟩).isSome = true ∧ w.drew.frozen? ⟨b, o + k * 9 + t, none⟩ = false) := by
    intro t ht
    rw [hlen] at ht
    rw [Nat.add_assoc]
    exact hf _ (by omega)
  obtain ⟨W1, hW1⟩ : ∃ W1, W1 = w.drew.setCells b (o + k * 9) news := ⟨_, rfl⟩
  have e1 : k + (n - (k + 1)) = n - 1 := by omega
  have e2 : n - (n - 1) = 1 := by omega
  have hcl : ∀ ty, (Builtin.clear_ #[53] ty #[.slice (some ⟨b, o + (n - 1) * 9, none⟩) 1 (cap - (n - 1))]).run Try.prog W1 = .ok (.tuple #[]) (W1.setCells b (o + (n - 1) * 9) (pcells zeroPk (.slice none 0 0))) := fun ty =>
    run_clear_one W1 _ _ ty _ Try.underlying53 zeroPk_val _ (by kernel_rfl) (pcells_one rfl) b _ _
      (fun j hj => by rw [hW1, Nat.add_assoc]; exact some_setCells _ _ _ _ _ (hf _ (by simp [pcells] at hj; omega)).1)
      (fun j hj => by rw [hW1, World.frozen?_setCells, Nat.add_assoc]; exact (hf _ (by simp [pcells] at hj; omega)).2)
  have hW : Hid (W1 = w.drew.setCells b (o + k * 9) news) := hW1
  have HD' : Hid (Rw (W1.setCells b (o + (n - 1) * 9) (pcells zeroPk (.slice none 0 0))) S (some ⟨b, o, none⟩) (n - 1) cap 9 (pflat (R.eraseIdx k)) ∧ Keep (fun j => j = b) w.drew (W1.setCells b (o + (n - 1) * 9) (pcells zeroPk (.slice none 0 0)))) := by
    rw [hW1, ← hnews]; exact HD
  have hic : k ≤ cap := by omega
  have hjc : k + 1 ≤ cap := by omega
  have hb1 : 0 ≤ (k : Int) + 1 ∧ (k : Int) + 1 ≤ (n : Int) := by omega
  have hkn : ((k : Int) == ((k + 1 : Nat) : Int)) = false := by simp; omega
  unfold maxLen at hm
  clear hW1 HD hlen hnews hc hf hr h1
  go_enter Try.func61, Try.ntmps61
  go_wp2_with fail
  go_region_law (refine step_append_room rfl (.tmp 22) (.tmp 25) 53 rfl 26 i0 9 Try.underlying53 hi hp1 b o k cap (by simp [Act.eval, Act.put]) A (n - (k + 1)) (cap - (k + 1)) news (by simp [Act.eval, Act.put]) s1.out hsrc.out s2.out (by omega) s3.out ?_; rw [← hW.out])
  go_wp2
  go_ret
  exact ⟨rfl, HD'.out.1, (Keep.of_below hB).trans HD'.out.2 (fun _ _ h => h)⟩
end Go.Proofs.Ytjdbjmfkheffdaa
end
section
namespace Go.Proofs.Ytjdbjmfkheffdaa
open Go.RowKit
set_option linter.unusedVariables false
set_option maxRecDepth 20000
/-- What Remove leaves. -/
theorem QuI.removed {w w3 : World} {g : Nat} {M D : Nat → Prop} {room : Int} {x : Pk} {d : Value} {L : List Pk} {R : List (Pk × Value)} {b o cap k : Nat} (h : QuI w g M D room L R (some ⟨b, o, none⟩) cap) (hk : k < L.length) (hR : R[k]? = some (x, d)) (hm : M b) (hg : b ≠ g)
    (hr : Rw w3 (fun k => M k ∧ k ≠ g) (some ⟨b, o, none⟩) (L.length - 1) cap 9 (pflat (R.eraseIdx k))) (k3 : Keep (fun j => j = b) w w3) :
    QuI (w3.setCell ⟨g, 1, none⟩ (.slice (some ⟨b, o, none⟩) (L.length - 1) cap)) g M D room (L.eraseIdx k) (R.eraseIdx k) (some ⟨b, o, none⟩) cap ∧
    Keep M w (w3.setCell ⟨g, 1, none⟩ (.slice (some ⟨b, o, none⟩) (L.length - 1) cap)) ∧ Dat (w3.setCell ⟨g, 1, none⟩ (.slice (some ⟨b, o, none⟩) (L.length - 1) cap)) D x d := by
  have k4 := Keep.one w3 g 1 (.slice (some ⟨b, o, none⟩) (L.length - 1) cap)
  have c1 : w3.cell? ⟨g, 1, none⟩ = some (.slice (some ⟨b, o, none⟩) L.length cap) := by rw [k3.cell 1 h.lt (fun e => hg e.symm)]; exact h.c1
  have hlen : (L.eraseIdx k).length = L.length - 1 := List.length_eraseIdx_of_lt hk
  have hdat : ∀ r ∈ R, Dat (w3.setCell ⟨g, 1, none⟩ (.slice (some ⟨b, o, none⟩) (L.length - 1) cap)) D r.1 r.2 := fun r hr =>
    ((h.dat r hr).keep k3 (fun k hk e => h.dj k (e ▸ hm) hk)).keep k4 (fun k hk e => h.dj k (e ▸ h.mg) hk)
  refine ⟨?_, ?_, hdat (x, d) (List.mem_of_getElem? hR)⟩
  · constructor
    · rw [World.cell?_setCell_other _ _ _ _ (by simp), k3.cell 0 h.lt (fun e => hg e.symm)]; exact h.c0
    · rw [hlen]; exact World.cell?_setCell_same _ _ _ c1
    · intro q; rw [World.frozen?_setCell, k3.frozen q h.lt (fun e => hg e.symm)]; exact h.fz q
    · exact Nat.lt_of_lt_of_le h.lt (Nat.le_trans k3.size k4.size)
    · exact h.mg
    · rw [← h.eq]; exact (map_eraseIdx' _ R k)
    · rw [hlen]; exact hr.keep k4 (fun k hk => hk.2)
    · exact fun r hr => hdat r (List.mem_of_mem_eraseIdx hr)
    · exact fun k hk => Nat.lt_of_lt_of_le (h.old k hk) (Nat.le_trans k3.size k4.size)
    · exact h.dj
  · exact (k3.mono (fun k _ e => e ▸ hm)).trans k4 (fun k _ e => e ▸ h.mg)
namespace P

set_option maxHeartbeats 600000 in
theorem remove_none (w : World) {g : Nat} {M D : Nat → Prop} {room : Int} {L : List Pk} (h : Qu w g M D room L) (at' : Int) (h0 : ¬ (0 ≤ at' ∧ at' < L.length)) :
    Calls Try.prog 40 #[.pointer (some ⟨g, 0, none⟩), .int .i64 at'] w fun e w' => e = .returned (.tuple #[zeroPk.val (.slice none 0 0), .bool false]) ∧ Below w.heap.size w w' := by
  have H0 : Hid (¬ (0 ≤ at' ∧ at' < L.length)) := h0
  clear h0
  go_enter Try.func40, Try.ntmps40
  go_wp2_with (go_at_call 55; refine (has_no _ (h.below (ba (Below.refl _ _))) at' H0.out).mono ?_; rintro e w1 ⟨rfl, rfl⟩)
  refine bodyPost_ret (v := .tuple #[zeroPk.val (.slice none 0 0), .bool false]) (by simp [results, Try.results40, go_sem, zeroPk, *]) rfl ⟨rfl, ba (Below.refl _ _)⟩
set_option maxHeartbeats 600000 in
theorem remove_some (w : World) {g : Nat} {M D : Nat → Prop} {room : Int} {L : List Pk} (h : Qu w g M D room L) (k : Nat) (x : Pk) (hx : L[k]? = some x) (at' : Int) (hat : at' = (k : Int)) :
    Calls Try.prog 40 #[.pointer (some ⟨g, 0, none⟩), .int .i64 at'] w fun e w' => ∃ d, e = .returned (.tuple #[x.val d, .bool true]) ∧ Keep M w w' ∧ Dat w' D x d ∧ Qu w' g M D room (L.eraseIdx k) := by
  subst hat
  have hk : k < L.length := (List.getElem?_eq_some_iff.1 hx).1
  have hhas := fun w1 (hb : Below w.heap.size w w1) => has_yes w1 (h.below hb) (k : Int) (by omega) (by omega)
  obtain ⟨R, a, cap, h⟩ := h
  obtain ⟨x', d, b, o, hx', hR, hdat, rfl, hm, hb, ⟨e0, e1, e2, e3, e4, e5, e6, e7, e8⟩, _⟩ := h.prow.get hk
  obtain rfl : x' = x := by rw [hx] at hx'; exact (Option.some.inj hx').symm
  obtain ⟨ad, nd, cd, rfl, hsd, hnd, hdd⟩ := hdat
  have c1 := h.c1
  have fz1 := h.fz 1
  have glt := h.lt
  have hmx := h.row.max
  have hle := h.row.le
  have hRl : Hid (R.length = L.length) := by show _ = _; rw [← h.eq]; simp
  have hone : Hid (∀ r ∈ R, r.2.oneCell' = true) := fun r hr => (h.dat r hr).one
  unfold maxLen at hmx
  have hk1 : (k : Int) < (L.length : Int) := by omega
  have hbg := hm.2
  have hbw : w.heap.size ≠ b := by omega
  have hbw1 : w.heap.size + 1 ≠ b := by omega
  have hgb : g ≠ b := Ne.symm hbg
  have HM : Hid (M b ∧ b ≠ g) := hm
  have HQ : Hid (QuI w g M D room L R (some ⟨b, o, none⟩) cap) := h
  have HR : Hid (R[k]? = some (x', .slice ad nd cd)) := hR
  have HK : Hid (k < L.length) := hk
  clear hdd h hx hx' hR hm hsd
  generalize hN : L.length = N at *
  have HN : Hid (L.length = N) := hN
  clear hN
  go_enter Try.func40, Try.ntmps40
  go_wp2_with (first
    | (go_at_call 55; refine (hhas _ (ba (Below.refl _ _))).mono ?_; rintro e w1 ⟨rfl, rfl⟩)
    | (go_at_call 61; have hb2 := ba (o := .cells #[.int .i64 x'.k, .int .i64 x'.f, .int .i64 x'.t, .int .i64 x'.i, .int .i64 x'.l, .int .i64 x'.p, .int .i64 x'.s, .bool x'.fl, .slice ad nd cd] 26) (ba (o := .cells #[.int .i64 0, .int .i64 0, .int .i64 0, .int .i64 0, .int .i64 0, .int .i64 0, .int .i64 0, .bool false, .slice none 0 0] 26) (Below.refl w.heap.size w)); have qi := HQ.out.keep (F := fun _ => False) (Keep.of_below hb2) (fun _ _ h => h); have r2 := qi.row; rw [HN.out] at r2; refine (delete_one _ r2 hRl.out HK.out hone.out _ (by simp)).mono ?_; rintro e w3 ⟨rfl, hrw3, hk3⟩; have bx1 := ((Bx.made w zeroPk (.slice none 0 0)).next (ba (Below.refl _ _))).keep hk3 hbw; have bx2 := (Bx.made' _ x' (.slice ad nd cd) (w.heap.size + 1) (by simp)).keep hk3 hbw1; obtain ⟨p0, p1, p2, p3, p4, p5, p6, p7, p8, pf, pl⟩ := bx1; obtain ⟨q0, q1, q2, q3, q4, q5, q6, q7, q8, qf, ql⟩ := bx2; simp only [zeroPk] at p0 p1 p2 p3 p4 p5 p6 p7 p8; have c3 : w3.cell? ⟨g, 1, none⟩ = some (.slice (some ⟨b, o, none⟩) N cap) := (by rw [hk3.cell 1 (Nat.lt_of_lt_of_le glt hb2.size) hgb, hb2.cell (p := ⟨g, 1, none⟩) glt]; exact c1); have f3 : w3.frozen? ⟨g, 1, none⟩ = false := (by rw [hk3.frozen 1 (Nat.lt_of_lt_of_le glt hb2.size) hgb, hb2.frozen (p := ⟨g, 1, none⟩) glt]; exact fz1)))
  refine bodyPost_ret (v := .tuple #[x'.val (.slice ad nd cd), .bool true]) (by simp [results, Try.results40, go_sem, *]) rfl ⟨_, rfl, ?_⟩
  obtain rfl := HN.out
  obtain ⟨j1, j2, j3⟩ := QuI.removed qi HK.out HR.out HM.out.1 HM.out.2 hrw3 hk3
  have old := HQ.out.old
  exact far9 (g := w.heap.size) (y := x') (v := .slice ad nd cd) (W := w3.setCell ⟨g, 1, none⟩ (.slice (some ⟨b, o, none⟩) (L.length - 1) cap)) (P := fun V => Keep M w V ∧ Dat V D x' (.slice ad nd cd) ∧ Qu V g M D room (L.eraseIdx k))
    (fun V of u h => ⟨h.1.setCell (.inr (Nat.le_refl _)) u, h.2.1.keep (Keep.one V w.heap.size of u) (fun k hk e => by have := old k (.inr hk); omega), h.2.2.keep (Keep.one V w.heap.size of u) (fun k hk e => by have := old k hk; omega)⟩)
    ⟨Keep.pre hb2 j2, j3, ⟨_, _, _, j1⟩⟩
end P
end Go.Proofs.Ytjdbjmfkheffdaa
end
section
namespace Go.Proofs.Ytjdbjmfkheffdaa
open Go.RowKit
set_option linter.unusedVariables false
namespace P

set_option maxHeartbeats 600000 in
theorem put_full (w : World) {g : Nat} {M D : Nat → Prop} {room : Int} {L : List Pk} (h : Qu w g M D room L) (x : Pk) (a : Option Addr) (n cap : Nat) (h0 : 0 ≤ room) (h1 : room ≤ 1000000000) (hr : (L.length : Int) = room) :
    Calls Try.prog 54 #[.pointer (some ⟨g, 0, none⟩), x.val (.slice a n cap)] w fun e w' => e = .returned (.int .i64 5) ∧ Below w.heap.size w w' := by
  have he : (room - (L.length : Int) == 0) = true := by simp; omega
  clear hr
  unfold Pk.val
  go_enter Try.func54, Try.ntmps54
  go_wp2_with (go_at_call 65; refine (room_any _ (h.below (ba (Below.refl _ _))) h0 h1).mono ?_; rintro e w1 ⟨rfl, k1, rfl⟩)
  go_ret
  exact ⟨rfl, next (ba (Below.refl _ _)) (below_dn _ _)⟩
set_option maxHeartbeats 600000 in
theorem put_ok (w : World) {g : Nat} {M D : Nat → Prop} {room : Int} {L : List Pk} (h : Qu w g M D room L) (x : Pk) (a : Option Addr) (n cap : Nat) (hsl : Sl w a n cap x.z) (hn : n ≤ 17592186044416) (h0 : 0 ≤ room) (h1 : room ≤ 1000000000) (hr : (L.length : Int) < room) :
    Calls Try.prog 54 #[.pointer (some ⟨g, 0, none⟩), x.val (.slice a n cap)] w fun e w' => e = .returned (.int .i64 0) ∧ Keep M w w' ∧
      ∃ M' D', Qu w' g M' D' room (L ++ [x]) ∧ (∀ k, M' k → M k ∨ w.heap.size ≤ k) ∧ (∀ k, D' k → D k ∨ w.heap.size ≤ k) := by
  have he : (room - (L.length : Int) == 0) = false := by simp; omega
  have HR : Hid ((L.length : Int) < room) := hr
  clear hr
  unfold Pk.val
  go_enter Try.func54, Try.ntmps54
  go_wp2_with (go_at_call 65; refine (room_any _ (h.below (ba (Below.refl _ _))) h0 h1).mono ?_; rintro e w1 ⟨rfl, k1, rfl⟩)
  have bx := (Bx.made w x (.slice a n cap)).next (below_dn _ k1)
  have B1 : Below w.heap.size w ((w.alloc (.cells #[.int .i64 x.k, .int .i64 x.f, .int .i64 x.t, .int .i64 x.i, .int .i64 x.l, .int .i64 x.p, .int .i64 x.s, .bool x.fl, .slice a n cap] 26)).drewN k1) := next (ba (Below.refl _ _)) (below_dn _ _)
  have lt0 : ∀ k, M k ∨ D k → k < w.heap.size := h.old
  have h' := h.below B1
  have hsl' := hsl.below B1
  clear h hsl
  generalize (w.alloc (.cells #[.int .i64 x.k, .int .i64 x.f, .int .i64 x.t, .int .i64 x.i, .int .i64 x.l, .int .i64 x.p, .int .i64 x.s, .bool x.fl, .slice a n cap] 26)).drewN k1 = W at *
  refine wp_region_orders 12 rfl (by kernel_rfl) ?_
  have hd : Below W.heap.size W W.drew := (Below.refl _ _).drew
  replace bx := bx.next hd
  replace B1 := next B1 hd
  replace h' := h'.below hd
  replace hsl' := hsl'.below hd
  clear hd
  generalize W.drew = w1 at *
  obtain ⟨R, aq, cq, hq⟩ := h'
  obtain ⟨b0, b1, b2, b3, b4, b5, b6, b7, b8, bf, bl⟩ := bx
  have bx : Bx w1 w.heap.size x (.slice a n cap) := ⟨b0, b1, b2, b3, b4, b5, b6, b7, b8, bf, bl⟩
  have c1 := hq.c1
  have lt := hq.lt
  have uc := @Up.cell2
  have uf := @Up.frozen2
  refine any_take 0 (.pointer (some ⟨g, 0, none⟩)) rfl (by kernel_rfl) (by kernel_rfl) (by kernel_rfl) (fun _ _ _ h => h) (by kernel_rfl) (fun w => by go_simp) ?_
  simp only [Act.put, List.setIfInBounds_toArray, List.set_cons_zero, List.set_cons_succ]
  refine any_take 1 (.pointer (some ⟨g, 0, none⟩)) rfl (by kernel_rfl) (by kernel_rfl) (by kernel_rfl) (fun _ _ _ h => h) (by kernel_rfl) (fun w => by go_simp) ?_
  simp only [Act.put, List.setIfInBounds_toArray, List.set_cons_zero, List.set_cons_succ]
  refine any_take 2 (.pointer (some ⟨g, 0, none⟩)) rfl (by kernel_rfl) (by kernel_rfl) (by kernel_rfl) (fun _ _ _ h => h) (by kernel_rfl) (fun w => by go_simp) ?_
  simp only [Act.put, List.setIfInBounds_toArray, List.set_cons_zero, List.set_cons_succ]
  refine any_take 3 (.pointer (some ⟨g, 1, none⟩)) rfl (by kernel_rfl) (by kernel_rfl) (by kernel_rfl) (fun _ _ _ h => h) (by kernel_rfl) (fun w => by go_simp) ?_
  simp only [Act.put, List.setIfInBounds_toArray, List.set_cons_zero, List.set_cons_succ]
  refine any_mildx [8, 9, 10, 11] ?_
  refine mildx_take (v := ?v1) 4 rfl (by kernel_rfl) (by kernel_rfl) (by kernel_rfl) (by kernel_rfl) (fun _ _ _ h => h) (by kernel_rfl) (fun Wu K hK => ?hy1) ?go1
  case hy1 =>
    go_big_quiet_op
    simp only [Act.put, List.setIfInBounds_toArray, List.set_cons_zero, List.set_cons_succ] at hK
    exact hK
  simp only [Act.put, List.setIfInBounds_toArray, List.set_cons_zero, List.set_cons_succ]
  intro W
  clear uc uf
  have hW := W.2
  have hsl2 := hsl'.below hW
  have hqW := hq.keep (F := fun _ => False) (Keep.of_below hW) (fun _ _ h => h)
  have bxW := bx.next hW
  clear b0 b1 b2 b3 b4 b5 b6 b7 b8 bf bl bx c1 lt
  obtain ⟨b0, b1, b2, b3, b4, b5, b6, b7, b8, bf, bl⟩ := bxW
  generalize W.1 = wa at *
  refine upx_list 5 (by kernel_rfl) rfl ?_
  go_wp2
  refine ⟨hW, fun u => ?_⟩
  replace hsl2 := hsl2.below u.2
  replace hW := next hW u.2
  clear b0 b1 b2 b3 b4 b5 b6 b7 b8 bf bl hqW
  generalize u.1 = wb at *
  have hz2 := hW.size
  refine upx_list 6 (by kernel_rfl) rfl ?_
  go_wp2_with (go_at_call 56; refine (alone_any x a n cap _ hsl2 hn).mono ?_; rintro e w2 ⟨v2, rfl, hown2, hb2⟩; obtain ⟨a2, c2, rfl, hs2⟩ := hown2.sl' hsl2.len; clear hs2)
  refine ⟨next hW hb2, fun u => ?_⟩
  replace hW := next hW (next hb2 u.2)
  have dat3 := (dat_own hown2 (by have := hsl2.len; omega)).below u.2
  clear hown2 hb2
  generalize u.1 = w3 at *
  refine upx_list 7 (by kernel_rfl) rfl ?_
  go_wp2
  refine ⟨next hW (ba (Below.refl _ _)), fun u => ?_⟩
  have bx := (Bx.made w3 x (.slice a2 n c2)).next u.2
  replace dat3 := dat3.below (next (ba (Below.refl _ _)) u.2)
  replace hW := next hW (next (ba (Below.refl _ _)) u.2)
  generalize u.1 = w4 at *
  generalize w3.heap.size = bs at *
  have dat4 : Dat w4 (fun k => D k ∨ (wb.heap.size ≤ k ∧ k < w4.heap.size)) x (.slice a2 n c2) := dat3.imp (fun k hk h => .inr ⟨h, hk⟩)
  have q4 := hq.keep (F := fun _ => False) (Keep.of_below hW) (fun _ _ h => h)
  have hz1 := B1.size
  have hz4 := hW.size
  replace B1 := next B1 hW
  have ltm : ∀ k, M k → k < w.heap.size := fun k h => lt0 k (.inl h)
  have ltd : ∀ k, D k → k < w.heap.size := fun k h => lt0 k (.inr h)
  have glt := ltm g q4.mg
  clear hq dat3 hsl' hsl2 W hW lt0
  obtain ⟨i0, hi, hp0, hp1, hp2⟩ := info_parts Try.infoPk
  have hlen : L.length ≤ 1000000000 := by have := HR.out; omega
  have news : ∀ j u, (pcells x (.slice a2 n c2))[j]? = some u → w4.cell? ((⟨bs, 0, none⟩ : Addr).add j) = some u := by
    intro j u hu
    rw [Addr.add_lit, Nat.zero_add]
    have hj : j < 9 := (List.getElem?_eq_some_iff.1 hu).1
    obtain ⟨b0, b1, b2, b3, b4, b5, b6, b7, b8, _, _⟩ := bx
    match j, hj with
    | 0, _ => rw [b0]; exact hu
    | 1, _ => rw [b1]; exact hu
    | 2, _ => rw [b2]; exact hu
    | 3, _ => rw [b3]; exact hu
    | 4, _ => rw [b4]; exact hu
    | 5, _ => rw [b5]; exact hu
    | 6, _ => rw [b6]; exact hu
    | 7, _ => rw [b7]; exact hu
    | 8, _ => rw [b8]; exact hu
  refine upx_write 8 (by kernel_rfl) (by kernel_rfl) rfl ?_
  refine wpList_append_rw w4 (fun k => M k ∧ k ≠ g) (by kernel_rfl) (.tmp 12) (.tmp 15) 53 rfl 26 i0 (zeroPk.val (.slice none 0 0)) 9 88 Try.underlying53 hi hp0 hp1 hp2 rfl (by decide) aq L.length cq (pflat R) rfl q4.row ⟨bs, 0, none⟩ 1 1 (pcells x (.slice a2 n c2)) rfl (by omega) (by rfl) news (pcells_one (by rfl)) (by unfold maxLen; omega) (by omega) ?_
  intro a5 c5 w5 hrw5 hk5
  refine then_n ?_
  simp only [Act.put, List.setIfInBounds_toArray, List.set_cons_zero, List.set_cons_succ]
  refine any_take 9 (.pointer (some ⟨g, 0, none⟩)) rfl (by kernel_rfl) (by kernel_rfl) (by kernel_rfl) (fun _ _ _ h => h) (by kernel_rfl) (fun w => by go_simp) ?_
  simp only [Act.put, List.setIfInBounds_toArray, List.set_cons_zero, List.set_cons_succ]
  refine any_take 10 (.pointer (some ⟨g, 1, none⟩)) rfl (by kernel_rfl) (by kernel_rfl) (by kernel_rfl) (fun _ _ _ h => h) (by kernel_rfl) (fun w => by go_simp) ?_
  simp only [Act.put, List.setIfInBounds_toArray, List.set_cons_zero, List.set_cons_succ]
  have nS : ¬ (M g ∧ g ≠ g) := fun h => h.2 rfl
  have c5g : w5.cell? ⟨g, 1, none⟩ = some (.slice aq L.length cq) := by rw [hk5.cell 1 q4.lt nS]; exact q4.c1
  have f5g : w5.frozen? ⟨g, 1, none⟩ = false := by rw [hk5.frozen 1 q4.lt nS]; exact q4.fz 1
  refine any_list 11 (by kernel_rfl) rfl ?_
  go_wp2
  refine then_n ?_
  refine any_done (by kernel_rfl) ?_
  go_wp2
  go_ret
  have hz5 := hk5.size
  have k6 : Keep (fun k => k = g) w5 (w5.setCell ⟨g, 1, none⟩ (.slice a5 (L.length + 1) c5)) := (Keep.refl (fun k => k = g) w5).setCell (p := ⟨g, 1, none⟩) (.inl rfl) _
  refine ⟨rfl, ?_, fun k => M k ∨ (w4.heap.size ≤ k ∧ k < w5.heap.size), fun k => D k ∨ (wb.heap.size ≤ k ∧ k < w4.heap.size), ⟨R ++ [(x, .slice a2 n c2)], a5, c5, ?_⟩, fun k h => h.imp id (fun h => by omega), fun k h => h.imp id (fun h => by omega)⟩
  · exact ((Keep.of_below B1).trans hk5 (fun k _ h => h.1)).setCell (.inl q4.mg) _
  · constructor
    · rw [World.cell?_setCell_other _ _ _ _ (by simp), hk5.cell 0 q4.lt nS]; exact q4.c0
    · rw [show (L ++ [x]).length = L.length + 1 from (by simp)]; clear news bx dat4 hrw5; go_simp
    · intro o; rw [World.frozen?_setCell, hk5.frozen o q4.lt nS]; exact q4.fz o
    · simpa using Nat.lt_of_lt_of_le q4.lt hk5.size
    · exact .inl q4.mg
    · rw [List.map_append, q4.eq]; rfl
    · have e : (L ++ [x]).length = L.length + 1 := by simp
      rw [e, pflat_append, pflat_one]
      refine (hrw5.imp (T := fun k => (M k ∨ (w4.heap.size ≤ k ∧ k < w5.heap.size)) ∧ k ≠ g) (fun k hk h => ?_)).keep k6 (fun k h => h.2)
      rcases h with ⟨h1, h2⟩ | h
      · exact ⟨.inl h1, h2⟩
      · exact ⟨.inr ⟨h, hk⟩, by omega⟩
    · intro r hr
      have hdat : Dat w4 (fun k => D k ∨ (wb.heap.size ≤ k ∧ k < w4.heap.size)) r.1 r.2 := by
        rcases List.mem_append.1 hr with hr | hr
        · exact (q4.dat r hr).imp (fun k _ h => .inl h)
        · rw [List.mem_singleton] at hr; subst hr; exact dat4
      have hdj : ∀ k, D k ∨ (wb.heap.size ≤ k ∧ k < w4.heap.size) → ¬ M k := fun k h hm => by
        rcases h with h | h
        · exact q4.dj k hm h
        · have := ltm k hm; omega
      exact (hdat.keep hk5 (fun k h hm => hdj k h hm.1)).keep k6 (fun k h e => hdj k h (e ▸ q4.mg))
    · intro k h
      have e : (w5.setCell ⟨g, 1, none⟩ (.slice a5 (L.length + 1) c5)).heap.size = w5.heap.size := by simp
      rw [e]
      rcases h with (h | h) | (h | h)
      · have := ltm k h; omega
      · omega
      · have := ltd k h; omega
      · omega
    · intro k h h'
      rcases h with h | h <;> rcases h' with h' | h'
      · exact q4.dj k h h'
      · have := ltm k h; omega
      · have := ltd k h'; omega
      · omega
end P
end Go.Proofs.Ytjdbjmfkheffdaa
end
section
namespace Go.Proofs.Ytjdbjmfkheffdaa
open Go.RowKit
set_option linter.unusedVariables false

theorem qu_new (w : World) (room : Int) : Qu (w.alloc (.cells #[.int .i64 room, .slice none 0 0] 95)) w.heap.size (fun k => k = w.heap.size) (fun _ => False) room [] :=
  ⟨[], none, 0, by simp, by simp, fun o => (by simp), by simp, rfl, rfl, rw_nil _ _ _, fun r hr => (by cases hr), fun k hk => (by rcases hk with rfl | h <;> simp_all), fun k _ h => h⟩
theorem new_any (room : Int) (w : World) :
    Calls Try.prog 30 #[.int .i64 room] w fun e w' => e = .returned (.pointer (some ⟨w.heap.size, 0, none⟩)) ∧ Below w.heap.size w w' ∧ Qu w' w.heap.size (fun k => k = w.heap.size) (fun _ => False) (max room 0) [] := by
  go_enter Try.func30, Try.ntmps30
  go_wp2
  · go_ret
    refine ⟨rfl, ba (Below.refl _ _), ?_⟩
    rw [Int.max_eq_right (by omega)]
    exact qu_new w 0
  · go_ret
    refine ⟨rfl, ba (Below.refl _ _), ?_⟩
    rw [Int.max_eq_left (by omega)]
    exact qu_new w room

theorem len_any (w : World) {g : Nat} {M D : Nat → Prop} {room : Int} {L : List Pk} (h : Qu w g M D room L) :
    Calls Try.prog 63 #[.pointer (some ⟨g, 0, none⟩)] w fun e w' => e = .returned (.int .i64 L.length) ∧ w = w' := by
  obtain ⟨R, a, cap, h⟩ := h
  obtain ⟨c0, c1, fz, lt, _, _, row, _⟩ := h
  have hle := row.le
  have hmx := row.max
  clear row
  go_enter Try.func63, Try.ntmps63
  go_wp2
  go_ret
  exact ⟨rfl, rfl⟩
theorem room_any (w : World) {g : Nat} {M D : Nat → Prop} {room : Int} {L : List Pk} (h : Qu w g M D room L) (h0 : 0 ≤ room) (h1 : room ≤ 1000000000) :
    Calls Try.prog 76 #[.pointer (some ⟨g, 0, none⟩)] w fun e w' => e = .returned (.int .i64 (room - L.length)) ∧ ∃ k, w' = w.drewN k := by
  obtain ⟨R, a, cap, h⟩ := h
  obtain ⟨c0, c1, fz, lt, _, _, row, _⟩ := h
  have hle := row.le
  have hmx := row.max
  unfold maxLen at hmx
  clear row
  go_enter Try.func76, Try.ntmps76
  go_wp2_with fail
  go_quiet (fail)
  go_wp2
  go_ret
  exact ⟨rfl, _, rfl⟩
theorem len_n (w : World) {g : Nat} {M D : Nat → Prop} {room : Int} {L : List Pk} (h : Qu w g M D room L) (n : Int) (hn : (L.length : Int) = n) :
    Calls Try.prog 63 #[.pointer (some ⟨g, 0, none⟩)] w fun e w' => e = .returned (.int .i64 n) ∧ w = w' := by
  subst hn; exact len_any w h
theorem room_n (w : World) {g : Nat} {M D : Nat → Prop} {room : Int} {L : List Pk} (h : Qu w g M D room L) (h0 : 0 ≤ room) (h1 : room ≤ 1000000000) (n : Int) (hn : room - L.length = n) :
    Calls Try.prog 76 #[.pointer (some ⟨g, 0, none⟩)] w fun e w' => e = .returned (.int .i64 n) ∧ ∃ k, w' = w.drewN k := by
  subst hn; exact room_any w h h0 h1

/-- Words of their own. -/
theorem alone_any (x : Pk) (a : Option Addr) (n cap : Nat) (w : World) (hsl : Sl w a n cap x.z) (hn : n ≤ 17592186044416) :
    Calls Try.prog 77 #[x.val (.slice a n cap)] w fun e w' => ∃ v, e = .returned (x.val v) ∧ Own w' w.heap.size v x.z ∧ Below w.heap.size w w' := by
  obtain ⟨i0, hi, hz0, hz1, hz2⟩ := info_parts Try.infoInt
  obtain ⟨hl, hle, hmx, hnil, hr⟩ := hsl
  unfold Pk.val
  cases a with
  | none =>
    obtain rfl : cap = 0 := hnil rfl
    obtain rfl : n = 0 := by omega
    have HZ : Hid (x.z = []) := List.eq_nil_of_length_eq_zero hl
    clear hr hnil
    go_enter Try.func77, Try.ntmps77
    go_wp2_with (at_builtin; refine wpList_append_own_none rfl _ _ 22 rfl w.heap.size 3 i0 1 Try.underlying22 hi _ 0 [] rfl (World.ownsRow_nil _ _ _ _) rfl ?_)
    refine bodyPost_ret (v := x.val (.slice none 0 0)) (by simp [results, Try.results77, go_sem, *]) rfl ⟨_, rfl, by rw [HZ.out]; exact own_nil _ _, ?_⟩
    exact ba (ba (Below.refl _ _))
  | some y =>
    clear hnil
    go_enter Try.func77, Try.ntmps77
    go_wp2_with (at_builtin; refine wpList_append_own _ rfl _ _ 22 rfl (w.heap.size + 2) 3 i0 (.int .i64 0) 1 8 Try.underlying22 hi hz0 hz1 hz2 rfl (by decide) _ 0 [] rfl (World.ownsRow_nil _ _ _ _) y n cap (cells x.z) rfl (by simp [cells, hl]) (Row.below hr (ba (ba (Below.refl _ _)))).cellsAt (cells_one x.z) (by omega) (by omega) (by simp) ?_; intro v' w1 hown hgrow hiff; clear hiff; have hown' : Own w1 (w.heap.size + 2) v' x.z := (by simpa [Own, hl] using hown); obtain ⟨a', c', rfl, hs'⟩ := hown'.sl' hl; clear hown; have hb1 := below_new hgrow; clear hgrow; have bx1 := ((Bx.made w x (.slice (some y) n cap)).next (ba (Below.refl _ _))).next hb1; have bx2 := (Bx.made' (w.alloc (.cells #[.int .i64 x.k, .int .i64 x.f, .int .i64 x.t, .int .i64 x.i, .int .i64 x.l, .int .i64 x.p, .int .i64 x.s, .bool x.fl, .slice (some y) n cap] 26)) zeroPk (.slice none 0 0) (w.heap.size + 1) (by simp)).next hb1; obtain ⟨p0, p1, p2, p3, p4, p5, p6, p7, p8, pf, pl⟩ := bx1; obtain ⟨q0, q1, q2, q3, q4, q5, q6, q7, q8, qf, ql⟩ := bx2; simp only [zeroPk] at q0 q1 q2 q3 q4 q5 q6 q7 q8)
    refine bodyPost_ret (v := x.val (.slice a' n c')) (by simp [results, Try.results77, go_sem, *]) rfl ⟨_, rfl, ?_, ?_⟩
    · refine Own.low (base := w.heap.size + 2) ?_ (by omega)
      exact far9 (g := w.heap.size + 1) (y := x) (v := .slice a' n c') (W := w1.setCell ⟨w.heap.size, 8, none⟩ (.slice a' n c')) (P := fun V => Own V (w.heap.size + 2) (.slice a' n c') x.z) (fun V o u h => h.set (by simp) u) (hown'.set (by simp only; omega) _)
    · exact far9 (g := w.heap.size + 1) (y := x) (v := .slice a' n c') (W := w1.setCell ⟨w.heap.size, 8, none⟩ (.slice a' n c')) (P := fun V => Below w.heap.size w V) (fun V o u h => h.setCell (by simp) u) ((next (ba (ba (Below.refl _ _))) hb1).setCell (by simp) _)
end Go.Proofs.Ytjdbjmfkheffdaa
end
section
namespace Go.Proofs.Ytjdbjmfkheffdaa
open Go.RowKit
set_option linter.unusedVariables false

set_option maxHeartbeats 600000 in
theorem put_full (w : World) {g : Nat} {M D : Nat → Prop} {room : Int} {L : List Pk} (h : Qu w g M D room L) (x : Pk) (a : Option Addr) (n cap : Nat) (h0 : 0 ≤ room) (h1 : room ≤ 1000000000) (hr : (L.length : Int) = room) :
    Calls Try.prog 60 #[.pointer (some ⟨g, 0, none⟩), x.val (.slice a n cap)] w fun e w' => e = .returned (.int .i64 5) ∧ Below w.heap.size w w' := by
  have he : (room - (L.length : Int) == 0) = true := by simp; omega
  clear hr
  unfold Pk.val
  go_enter Try.func60, Try.ntmps60
  go_wp2_with (go_at_call 76; refine (room_any _ (h.below (ba (Below.refl _ _))) h0 h1).mono ?_; rintro e w1 ⟨rfl, k1, rfl⟩)
  go_ret
  exact ⟨rfl, next (ba (Below.refl _ _)) (below_dn _ _)⟩
set_option maxHeartbeats 600000 in
theorem put_ok (w : World) {g : Nat} {M D : Nat → Prop} {room : Int} {L : List Pk} (h : Qu w g M D room L) (x : Pk) (a : Option Addr) (n cap : Nat) (hsl : Sl w a n cap x.z) (hn : n ≤ 17592186044416) (h0 : 0 ≤ room) (h1 : room ≤ 1000000000) (hr : (L.length : Int) < room) :
    Calls Try.prog 60 #[.pointer (some ⟨g, 0, none⟩), x.val (.slice a n cap)] w fun e w' => e = .returned (.int .i64 0) ∧ Keep M w w' ∧
      ∃ M' D', Qu w' g M' D' room (L ++ [x]) ∧ (∀ k, M' k → M k ∨ w.heap.size ≤ k) ∧ (∀ k, D' k → D k ∨ w.heap.size ≤ k) := by
  have he : (room - (L.length : Int) == 0) = false := by simp; omega
  have HR : Hid ((L.length : Int) < room) := hr
  clear hr
  unfold Pk.val
  go_enter Try.func60, Try.ntmps60
  go_wp2_with (go_at_call 76; refine (room_any _ (h.below (ba (Below.refl _ _))) h0 h1).mono ?_; rintro e w1 ⟨rfl, k1, rfl⟩)
  have bx := (Bx.made w x (.slice a n cap)).next (below_dn _ k1)
  have B1 : Below w.heap.size w ((w.alloc (.cells #[.int .i64 x.k, .int .i64 x.f, .int .i64 x.t, .int .i64 x.i, .int .i64 x.l, .int .i64 x.p, .int .i64 x.s, .bool x.fl, .slice a n cap] 26)).drewN k1) := next (ba (Below.refl _ _)) (below_dn _ _)
  have lt0 : ∀ k, M k ∨ D k → k < w.heap.size := h.old
  have h' := h.below B1
  have hsl' := hsl.below B1
  clear h hsl
  generalize (w.alloc (.cells #[.int .i64 x.k, .int .i64 x.f, .int .i64 x.t, .int .i64 x.i, .int .i64 x.l, .int .i64 x.p, .int .i64 x.s, .bool x.fl, .slice a n cap] 26)).drewN k1 = W at *
  refine wp_region_orders 12 rfl (by kernel_rfl) ?_
  have hd : Below W.heap.size W W.drew := (Below.refl _ _).drew
  replace bx := bx.next hd
  replace B1 := next B1 hd
  replace h' := h'.below hd
  replace hsl' := hsl'.below hd
  clear hd
  generalize W.drew = w1 at *
  obtain ⟨R, aq, cq, hq⟩ := h'
  obtain ⟨b0, b1, b2, b3, b4, b5, b6, b7, b8, bf, bl⟩ := bx
  have bx : Bx w1 w.heap.size x (.slice a n cap) := ⟨b0, b1, b2, b3, b4, b5, b6, b7, b8, bf, bl⟩
  have c1 := hq.c1
  have lt := hq.lt
  have uc := @Up.cell2
  have uf := @Up.frozen2
  refine any_take 0 (.pointer (some ⟨g, 0, none⟩)) rfl (by kernel_rfl) (by kernel_rfl) (by kernel_rfl) (fun _ _ _ h => h) (by kernel_rfl) (fun w => by go_simp) ?_
  simp only [Act.put, List.setIfInBounds_toArray, List.set_cons_zero, List.set_cons_succ]
  refine any_take 1 (.pointer (some ⟨g, 0, none⟩)) rfl (by kernel_rfl) (by kernel_rfl) (by kernel_rfl) (fun _ _ _ h => h) (by kernel_rfl) (fun w => by go_simp) ?_
  simp only [Act.put, List.setIfInBounds_toArray, List.set_cons_zero, List.set_cons_succ]
  refine any_take 2 (.pointer (some ⟨g, 0, none⟩)) rfl (by kernel_rfl) (by kernel_rfl) (by kernel_rfl) (fun _ _ _ h => h) (by kernel_rfl) (fun w => by go_simp) ?_
  simp only [Act.put, List.setIfInBounds_toArray, List.set_cons_zero, List.set_cons_succ]
  refine any_take 3 (.pointer (some ⟨g, 1, none⟩)) rfl (by kernel_rfl) (by kernel_rfl) (by kernel_rfl) (fun _ _ _ h => h) (by kernel_rfl) (fun w => by go_simp) ?_
  simp only [Act.put, List.setIfInBounds_toArray, List.set_cons_zero, List.set_cons_succ]
  refine any_mildx [8, 9, 10, 11] ?_
  refine mildx_take (v := ?v1) 4 rfl (by kernel_rfl) (by kernel_rfl) (by kernel_rfl) (by kernel_rfl) (fun _ _ _ h => h) (by kernel_rfl) (fun Wu K hK => ?hy1) ?go1
  case hy1 =>
    go_big_quiet_op
    simp only [Act.put, List.setIfInBounds_toArray, List.set_cons_zero, List.set_cons_succ] at hK
    exact hK
  simp only [Act.put, List.setIfInBounds_toArray, List.set_cons_zero, List.set_cons_succ]
  intro W
  clear uc uf
  have hW := W.2
  have hsl2 := hsl'.below hW
  have hqW := hq.keep (F := fun _ => False) (Keep.of_below hW) (fun _ _ h => h)
  have bxW := bx.next hW
  clear b0 b1 b2 b3 b4 b5 b6 b7 b8 bf bl bx c1 lt
  obtain ⟨b0, b1, b2, b3, b4, b5, b6, b7, b8, bf, bl⟩ := bxW
  generalize W.1 = wa at *
  refine upx_list 5 (by kernel_rfl) rfl ?_
  go_wp2
  refine ⟨hW, fun u => ?_⟩
  replace hsl2 := hsl2.below u.2
  replace hW := next hW u.2
  clear b0 b1 b2 b3 b4 b5 b6 b7 b8 bf bl hqW
  generalize u.1 = wb at *
  have hz2 := hW.size
  refine upx_list 6 (by kernel_rfl) rfl ?_
  go_wp2_with (go_at_call 77; refine (alone_any x a n cap _ hsl2 hn).mono ?_; rintro e w2 ⟨v2, rfl, hown2, hb2⟩; obtain ⟨a2, c2, rfl, hs2⟩ := hown2.sl' hsl2.len; clear hs2)
  refine ⟨next hW hb2, fun u => ?_⟩
  replace hW := next hW (next hb2 u.2)
  have dat3 := (dat_own hown2 (by have := hsl2.len; omega)).below u.2
  clear hown2 hb2
  generalize u.1 = w3 at *
  refine upx_list 7 (by kernel_rfl) rfl ?_
  go_wp2
  refine ⟨next hW (ba (Below.refl _ _)), fun u => ?_⟩
  have bx := (Bx.made w3 x (.slice a2 n c2)).next u.2
  replace dat3 := dat3.below (next (ba (Below.refl _ _)) u.2)
  replace hW := next hW (next (ba (Below.refl _ _)) u.2)
  generalize u.1 = w4 at *
  generalize w3.heap.size = bs at *
  have dat4 : Dat w4 (fun k => D k ∨ (wb.heap.size ≤ k ∧ k < w4.heap.size)) x (.slice a2 n c2) := dat3.imp (fun k hk h => .inr ⟨h, hk⟩)
  have q4 := hq.keep (F := fun _ => False) (Keep.of_below hW) (fun _ _ h => h)
  have hz1 := B1.size
  have hz4 := hW.size
  replace B1 := next B1 hW
  have ltm : ∀ k, M k → k < w.heap.size := fun k h => lt0 k (.inl h)
  have ltd : ∀ k, D k → k < w.heap.size := fun k h => lt0 k (.inr h)
  have glt := ltm g q4.mg
  clear hq dat3 hsl' hsl2 W hW lt0
  obtain ⟨i0, hi, hp0, hp1, hp2⟩ := info_parts Try.infoPk
  have hlen : L.length ≤ 1000000000 := by have := HR.out; omega
  have news : ∀ j u, (pcells x (.slice a2 n c2))[j]? = some u → w4.cell? ((⟨bs, 0, none⟩ : Addr).add j) = some u := by
    intro j u hu
    rw [Addr.add_lit, Nat.zero_add]
    have hj : j < 9 := (List.getElem?_eq_some_iff.1 hu).1
    obtain ⟨b0, b1, b2, b3, b4, b5, b6, b7, b8, _, _⟩ := bx
    match j, hj with
    | 0, _ => rw [b0]; exact hu
    | 1, _ => rw [b1]; exact hu
    | 2, _ => rw [b2]; exact hu
    | 3, _ => rw [b3]; exact hu
    | 4, _ => rw [b4]; exact hu
    | 5, _ => rw [b5]; exact hu
    | 6, _ => rw [b6]; exact hu
    | 7, _ => rw [b7]; exact hu
    | 8, _ => rw [b8]; exact hu
  refine upx_write 8 (by kernel_rfl) (by kernel_rfl) rfl ?_
  refine wpList_append_rw w4 (fun k => M k ∧ k ≠ g) (by kernel_rfl) (.tmp 12) (.tmp 15) 53 rfl 26 i0 (zeroPk.val (.slice none 0 0)) 9 88 Try.underlying53 hi hp0 hp1 hp2 rfl (by decide) aq L.length cq (pflat R) rfl q4.row ⟨bs, 0, none⟩ 1 1 (pcells x (.slice a2 n c2)) rfl (by omega) (by rfl) news (pcells_one (by rfl)) (by unfold maxLen; omega) (by omega) ?_
  intro a5 c5 w5 hrw5 hk5
  refine then_n ?_
  simp only [Act.put, List.setIfInBounds_toArray, List.set_cons_zero, List.set_cons_succ]
  refine any_take 9 (.pointer (some ⟨g, 0, none⟩)) rfl (by kernel_rfl) (by kernel_rfl) (by kernel_rfl) (fun _ _ _ h => h) (by kernel_rfl) (fun w => by go_simp) ?_
  simp only [Act.put, List.setIfInBounds_toArray, List.set_cons_zero, List.set_cons_succ]
  refine any_take 10 (.pointer (some ⟨g, 1, none⟩)) rfl (by kernel_rfl) (by kernel_rfl) (by kernel_rfl) (fun _ _ _ h => h) (by kernel_rfl) (fun w => by go_simp) ?_
  simp only [Act.put, List.setIfInBounds_toArray, List.set_cons_zero, List.set_cons_succ]
  have nS : ¬ (M g ∧ g ≠ g) := fun h => h.2 rfl
  have c5g : w5.cell? ⟨g, 1, none⟩ = some (.slice aq L.length cq) := by rw [hk5.cell 1 q4.lt nS]; exact q4.c1
  have f5g : w5.frozen? ⟨g, 1, none⟩ = false := by rw [hk5.frozen 1 q4.lt nS]; exact q4.fz 1
  refine any_list 11 (by kernel_rfl) rfl ?_
  go_wp2
  refine then_n ?_
  refine any_done (by kernel_rfl) ?_
  go_wp2
  go_ret
  have hz5 := hk5.size
  have k6 : Keep (fun k => k = g) w5 (w5.setCell ⟨g, 1, none⟩ (.slice a5 (L.length + 1) c5)) := (Keep.refl (fun k => k = g) w5).setCell (p := ⟨g, 1, none⟩) (.inl rfl) _
  refine ⟨rfl, ?_, fun k => M k ∨ (w4.heap.size ≤ k ∧ k < w5.heap.size), fun k => D k ∨ (wb.heap.size ≤ k ∧ k < w4.heap.size), ⟨R ++ [(x, .slice a2 n c2)], a5, c5, ?_⟩, fun k h => h.imp id (fun h => by omega), fun k h => h.imp id (fun h => by omega)⟩
  · exact ((Keep.of_below B1).trans hk5 (fun k _ h => h.1)).setCell (.inl q4.mg) _
  · constructor
    · rw [World.cell?_setCell_other _ _ _ _ (by simp), hk5.cell 0 q4.lt nS]; exact q4.c0
    · rw [show (L ++ [x]).length = L.length + 1 from (by simp)]; clear news bx dat4 hrw5; go_simp
    · intro o; rw [World.frozen?_setCell, hk5.frozen o q4.lt nS]; exact q4.fz o
    · simpa using Nat.lt_of_lt_of_le q4.lt hk5.size
    · exact .inl q4.mg
    · rw [List.map_append, q4.eq]; rfl
    · have e : (L ++ [x]).length = L.length + 1 := by simp
      rw [e, pflat_append, pflat_one]
      refine (hrw5.imp (T := fun k => (M k ∨ (w4.heap.size ≤ k ∧ k < w5.heap.size)) ∧ k ≠ g) (fun k hk h => ?_)).keep k6 (fun k h => h.2)
      rcases h with ⟨h1, h2⟩ | h
      · exact ⟨.inl h1, h2⟩
      · exact ⟨.inr ⟨h, hk⟩, by omega⟩
    · intro r hr
      have hdat : Dat w4 (fun k => D k ∨ (wb.heap.size ≤ k ∧ k < w4.heap.size)) r.1 r.2 := by
        rcases List.mem_append.1 hr with hr | hr
        · exact (q4.dat r hr).imp (fun k _ h => .inl h)
        · rw [List.mem_singleton] at hr; subst hr; exact dat4
      have hdj : ∀ k, D k ∨ (wb.heap.size ≤ k ∧ k < w4.heap.size) → ¬ M k := fun k h hm => by
        rcases h with h | h
        · exact q4.dj k hm h
        · have := ltm k hm; omega
      exact (hdat.keep hk5 (fun k h hm => hdj k h hm.1)).keep k6 (fun k h e => hdj k h (e ▸ q4.mg))
    · intro k h
      have e : (w5.setCell ⟨g, 1, none⟩ (.slice a5 (L.length + 1) c5)).heap.size = w5.heap.size := by simp
      rw [e]
      rcases h with (h | h) | (h | h)
      · have := ltm k h; omega
      · omega
      · have := ltd k h; omega
      · omega
    · intro k h h'
      rcases h with h | h <;> rcases h' with h' | h'
      · exact q4.dj k h h'
      · have := ltm k h; omega
      · have := ltd k h'; omega
      · omega
end Go.Proofs.Ytjdbjmfkheffdaa
end
section
namespace Go.Proofs.Ytjdbjmfkheffdaa
open Go.RowKit
set_option linter.unusedVariables false

set_option maxHeartbeats 600000 in
theorem take_none (w : World) {g : Nat} {M D : Nat → Prop} {room : Int} (h : Qu w g M D room []) :
    Calls Try.prog 64 #[.pointer (some ⟨g, 0, none⟩)] w fun e w' => e = .returned (.tuple #[zeroPk.val (.slice none 0 0), .bool false]) ∧ Below w.heap.size w w' := by
  go_enter Try.func64, Try.ntmps64
  go_wp2_with (go_at_call 63; refine (len_any _ (h.below (ba (Below.refl _ _)))).mono ?_; rintro e w1 ⟨rfl, rfl⟩)
  refine bodyPost_ret (v := .tuple #[zeroPk.val (.slice none 0 0), .bool false]) (by simp [results, Try.results64, go_sem, zeroPk, *]) rfl ⟨rfl, ba (Below.refl _ _)⟩
/-- The first packet's cells. -/
theorem QuI.first {w : World} {g : Nat} {M D : Nat → Prop} {room : Int} {x : Pk} {L : List Pk} {R : List (Pk × Value)} {a : Option Addr} {cap : Nat} (h : QuI w g M D room (x :: L) R a cap) :
    ∃ d R' b o, R = (x, d) :: R' ∧ R'.map Prod.fst = L ∧ a = some ⟨b, o, none⟩ ∧ M b ∧ b ≠ g ∧ b < w.heap.size ∧ 1 ≤ cap ∧
      (w.cell? ⟨b, o, none⟩ = some (.int .i64 x.k) ∧ w.cell? ⟨b, o + 1, none⟩ = some (.int .i64 x.f) ∧ w.cell? ⟨b, o + 2, none⟩ = some (.int .i64 x.t) ∧ w.cell? ⟨b, o + 3, none⟩ = some (.int .i64 x.i) ∧
        w.cell? ⟨b, o + 4, none⟩ = some (.int .i64 x.l) ∧ w.cell? ⟨b, o + 5, none⟩ = some (.int .i64 x.p) ∧ w.cell? ⟨b, o + 6, none⟩ = some (.int .i64 x.s) ∧ w.cell? ⟨b, o + 7, none⟩ = some (.bool x.fl) ∧ w.cell? ⟨b, o + 8, none⟩ = some d) ∧
      (∀ i, i < cap * 9 → (w.cell? ⟨b, o + i, none⟩).isSome = true ∧ w.frozen? ⟨b, o + i, none⟩ = false) ∧ (∀ i u, (pflat R')[i]? = some u → w.cell? ⟨b, o + 9 + i, none⟩ = some u) := by
  have he := h.eq
  match R, he with
  | (y, d) :: R', hq =>
    simp at hq
    obtain ⟨rfl, he2⟩ := hq
    have hle := h.row.le
    simp at hle
    rcases h.row.row with h0 | ⟨b, o, rfl, ⟨hm, hg⟩, hb, hc, hf⟩
    · omega
    · have hp := pk_at hc (i := 0) (x := y) (d := d) rfl
      simp only [Nat.zero_mul, Nat.add_zero] at hp
      refine ⟨d, R', b, o, rfl, he2, rfl, hm, hg, hb, by omega, hp, hf, fun i u hu => ?_⟩
      rw [Nat.add_assoc]
      refine hc (9 + i) u ?_
      rw [pflat_cons, List.getElem?_append_right (by simp [pcells]), show 9 + i - (pcells (y, d).1 (y, d).2).length = i by simp [pcells]]
      exact hu

/-- What Take leaves. -/
theorem QuI.took {w : World} {g : Nat} {M D : Nat → Prop} {room : Int} {x : Pk} {d : Value} {L : List Pk} {R' : List (Pk × Value)} {b o cap : Nat} (h : QuI w g M D room (x :: L) ((x, d) :: R') (some ⟨b, o, none⟩) cap)
    {o' c' n' : Nat} (hn : n' = L.length) (hc : (cap = 1 ∧ o' = o ∧ c' = 0) ∨ (¬ cap = 1 ∧ o' = o + 9 ∧ c' = cap - 1)) :
    QuI ((w.setCells b o (pcells zeroPk (.slice none 0 0))).setCell ⟨g, 1, none⟩ (.slice (some ⟨b, o', none⟩) n' c')) g M D room L R' (some ⟨b, o', none⟩) c' ∧
    Keep M w ((w.setCells b o (pcells zeroPk (.slice none 0 0))).setCell ⟨g, 1, none⟩ (.slice (some ⟨b, o', none⟩) n' c')) ∧
    Dat ((w.setCells b o (pcells zeroPk (.slice none 0 0))).setCell ⟨g, 1, none⟩ (.slice (some ⟨b, o', none⟩) n' c')) D x d := by
  subst hn
  obtain ⟨d2, R2, b2, o2, e1, he, e2, hm, hg, hb, hcap, _, hf, hcc⟩ := h.first
  simp at e1 e2
  obtain ⟨rfl, rfl⟩ := e1
  obtain ⟨rfl, rfl⟩ := e2
  have hle := h.row.le
  have hmx := h.row.max
  simp at hle
  have k1 : Keep (fun k => k = b) w (w.setCells b o (pcells zeroPk (.slice none 0 0))) := Keep.setCells (F := fun k => k = b) (b := b) (.inl rfl) _ _ _ (Keep.refl _ _)
  have hout : ∀ j, 9 ≤ j → (w.setCells b o (pcells zeroPk (.slice none 0 0))).cell? ⟨b, o + j, none⟩ = w.cell? ⟨b, o + j, none⟩ := fun j hj =>
    World.cell?_setCells_out b _ _ w ⟨b, o + j, none⟩ (fun _ _ => .inr (by simp [pcells]; omega))
  have hfr : ∀ p, (w.setCells b o (pcells zeroPk (.slice none 0 0))).frozen? p = w.frozen? p := fun p => World.frozen?_setCells b _ _ w p
  generalize w.setCells b o (pcells zeroPk (.slice none 0 0)) = w1 at *
  have k2 : Keep (fun k => k = g) w1 (w1.setCell ⟨g, 1, none⟩ (.slice (some ⟨b, o', none⟩) L.length c')) := (Keep.refl (fun k => k = g) w1).setCell (p := ⟨g, 1, none⟩) (.inl rfl) _
  have c0 : w1.cell? ⟨g, 0, none⟩ = some (.int .i64 room) := by rw [k1.cell 0 h.lt (fun e => hg e.symm)]; exact h.c0
  have c1 : w1.cell? ⟨g, 1, none⟩ = some (.slice (some ⟨b, o, none⟩) (x :: L).length cap) := by rw [k1.cell 1 h.lt (fun e => hg e.symm)]; exact h.c1
  have hdat : ∀ r ∈ (x, d) :: R', Dat (w1.setCell ⟨g, 1, none⟩ (.slice (some ⟨b, o', none⟩) L.length c')) D r.1 r.2 := fun r hr =>
    ((h.dat r hr).keep k1 (fun k hk e => h.dj k (e ▸ hm) hk)).keep k2 (fun k hk e => h.dj k (e ▸ h.mg) hk)
  refine ⟨?_, ?_, hdat (x, d) (by simp)⟩
  · constructor
    · rw [World.cell?_setCell_other _ _ _ _ (by simp)]; exact c0
    · exact World.cell?_setCell_same _ _ _ c1
    · intro q; rw [World.frozen?_setCell, hfr]; exact h.fz q
    · exact Nat.lt_of_lt_of_le h.lt (Nat.le_trans k1.size k2.size)
    · exact h.mg
    · exact he
    · have hr1 : Rw w1 (fun k => M k ∧ k ≠ g) (some ⟨b, o', none⟩) L.length c' 9 (pflat R') := by
        refine ⟨by rw [pflat_len, ← he]; simp, by omega, by omega, fun h => (by cases h), ?_⟩
        rcases hc with ⟨e1, e2, e3⟩ | ⟨e1, e2, e3⟩
        · exact .inl e3
        · subst e2; subst e3
          refine .inr ⟨b, o + 9, rfl, ⟨hm, hg⟩, Nat.lt_of_lt_of_le hb k1.size, fun i u hu => ?_, fun i hi => ?_⟩
          · rw [Nat.add_assoc, hout _ (by omega), ← Nat.add_assoc]; exact hcc i u hu
          · rw [Nat.add_assoc, hout _ (by omega), hfr]; exact hf (9 + i) (by omega)
      exact hr1.keep k2 (fun k hk => hk.2)
    · exact fun r hr => hdat r (by simp [hr])
    · exact fun k hk => Nat.lt_of_lt_of_le (h.old k hk) (Nat.le_trans k1.size k2.size)
    · exact h.dj
  · exact (k1.mono (fun k _ e => e ▸ hm)).trans k2 (fun k _ e => e ▸ h.mg)

set_option maxHeartbeats 600000 in
theorem take_some (w : World) {g : Nat} {M D : Nat → Prop} {room : Int} {x : Pk} {L : List Pk} (h : Qu w g M D room (x :: L)) :
    Calls Try.prog 64 #[.pointer (some ⟨g, 0, none⟩)] w fun e w' => ∃ d, e = .returned (.tuple #[x.val d, .bool true]) ∧ Keep M w w' ∧ Dat w' D x d ∧ Qu w' g M D room L := by
  have hlen := fun w1 (hb : Below w.heap.size w w1) => len_any w1 (h.below hb)
  obtain ⟨R, a, cap, h⟩ := h
  obtain ⟨d, R', b, o, rfl, he, rfl, hm, hg, hb, hcap, ⟨e0, e1, e2, e3, e4, e5, e6, e7, e8⟩, hf, hc⟩ := h.first
  have hfz : ∀ i, i < 9 → w.frozen? ⟨b, o + i, none⟩ = false := fun i hi => (hf i (by omega)).2
  have f0 := hfz 0 (by omega)
  have f1 := hfz 1 (by omega)
  have f2 := hfz 2 (by omega)
  have f3 := hfz 3 (by omega)
  have f4 := hfz 4 (by omega)
  have f5 := hfz 5 (by omega)
  have f6 := hfz 6 (by omega)
  have f7 := hfz 7 (by omega)
  have f8 := hfz 8 (by omega)
  rw [Nat.add_zero] at f0
  obtain ⟨ad, nd, cd, rfl, hsd, hnd, hdd⟩ := h.dat (x, d) (by simp)
  have c1 := h.c1
  have fz := h.fz
  have glt := h.lt
  have hmx := h.row.max
  have hle := h.row.le
  have HL : Hid ((x :: L).length = L.length + 1) := rfl
  generalize (x :: L).length = N at *
  have hne : ((N : Int) == 0) = false := by have := HL.out; simp; omega
  have hN : (1 : Int) ≤ N := by have := HL.out; omega
  have hN' : 1 ≤ N := by have := HL.out; omega
  unfold maxLen at hmx
  clear hfz hf hc hsd hdd he hcap
  have HQ : Hid (QuI w g M D room (x :: L) ((x, .slice ad nd cd) :: R') (some ⟨b, o, none⟩) cap) := h
  clear h
  go_enter Try.func64, Try.ntmps64
  go_wp2_with (go_at_call 63; refine (hlen _ (ba (Below.refl _ _))).mono ?_; rintro e w1 ⟨rfl, rfl⟩)
  · refine bodyPost_ret (v := .tuple #[x.val (.slice ad nd cd), .bool true]) (by simp [results, Try.results64, go_sem]) rfl ⟨_, rfl, ?_⟩
    obtain ⟨q1, q2, q3⟩ := QuI.took HQ.out (o' := o) (c' := 0) (n' := N - 1) (by have := HL.out; omega) (.inl ⟨by assumption, rfl, rfl⟩)
    exact ⟨q2.next (ba (ba (Below.refl _ _))), q3.below (ba (ba (Below.refl _ _))), Qu.below ⟨_, _, _, q1⟩ (ba (ba (Below.refl _ _)))⟩
  · refine bodyPost_ret (v := .tuple #[x.val (.slice ad nd cd), .bool true]) (by simp [results, Try.results64, go_sem]) rfl ⟨_, rfl, ?_⟩
    obtain ⟨q1, q2, q3⟩ := QuI.took HQ.out (o' := o + 9) (c' := cap - 1) (n' := N - 1) (by have := HL.out; omega) (.inr ⟨by assumption, rfl, rfl⟩)
    exact ⟨q2.next (ba (ba (Below.refl _ _))), q3.below (ba (ba (Below.refl _ _))), Qu.below ⟨_, _, _, q1⟩ (ba (ba (Below.refl _ _)))⟩

end Go.Proofs.Ytjdbjmfkheffdaa
end
section
namespace Go.Proofs.Ytjdbjmfkheffdaa
open Go.RowKit
set_option linter.unusedVariables false
set_option maxRecDepth 20000

/-- A lane as a value. -/
@[reducible] def laneV (p q : Nat) : Value := .agg #[.pointer (some ⟨p, 0, none⟩), .pointer (some ⟨q, 0, none⟩)]
theorem isNode_yes (w : World) {gf nn : Nat} {out inn : Int} {F : Nat → List Pk} {B : Nat → Prop} {gl go cap : Nat} {G : Nat → Nat} {M D : Nat → Nat → Prop} (h : FbI w gf nn out inn F B gl go cap G M D) (i : Int) (h0 : 0 ≤ i) (h1 : i < nn) :
    Calls Try.prog 32 #[.pointer (some ⟨gf, 0, none⟩), .int .i64 i] w fun e w' => e = .returned (.bool true) ∧ w = w' := by
  have fc := h.fc
  have n0 := h.n0
  have n1 := h.n1
  have hd : (2 * (nn : Int)).tdiv 2 = (nn : Int) := by rw [Int.tdiv_eq_ediv_of_nonneg (by omega)]; omega
  clear h
  go_enter Try.func32, Try.ntmps32
  go_wp2
  go_ret
  exact ⟨rfl, rfl⟩
theorem isNode_no (w : World) {gf nn : Nat} {out inn : Int} {F : Nat → List Pk} {B : Nat → Prop} {gl go cap : Nat} {G : Nat → Nat} {M D : Nat → Nat → Prop} (h : FbI w gf nn out inn F B gl go cap G M D) (i : Int) (h1 : i < 0 ∨ (nn : Int) ≤ i) :
    Calls Try.prog 32 #[.pointer (some ⟨gf, 0, none⟩), .int .i64 i] w fun e w' => e = .returned (.bool false) ∧ w = w' := by
  have fc := h.fc
  have n0 := h.n0
  have n1 := h.n1
  have hd : (2 * (nn : Int)).tdiv 2 = (nn : Int) := by rw [Int.tdiv_eq_ediv_of_nonneg (by omega)]; omega
  clear h
  by_cases h0 : 0 ≤ i
  · have h2 := h1.resolve_left (by omega)
    clear h1
    go_enter Try.func32, Try.ntmps32
    go_wp2
    go_ret
    exact ⟨ret_bool (decide_eq_false (by omega)), rfl⟩
  · clear h1
    go_enter Try.func32, Try.ntmps32
    go_wp2
    go_ret
    exact ⟨rfl, rfl⟩
theorem lane_req (w : World) {gf nn : Nat} {out inn : Int} {F : Nat → List Pk} {B : Nat → Prop} {gl go cap : Nat} {G : Nat → Nat} {M D : Nat → Nat → Prop} (h : FbI w gf nn out inn F B gl go cap G M D) (i : Nat) (h1 : i < nn) (x : Int) (hx : x = (i : Int)) :
    Calls Try.prog 33 #[.pointer (some ⟨gf, 0, none⟩), .int .i64 x, .bool true] w fun e w' => e = .returned (laneV (G (pr (2 * i))) (G (pr (2 * i) + 2))) ∧ Below w.heap.size w w' := by
  subst hx
  have fc := h.fc
  have n0 := h.n0
  have n1 := h.n1
  have c1 := h.lp (2 * i) (by omega)
  have c2 := h.lq (2 * i) (by omega)
  have cp := h.cp.1
  have cp2 := h.cp.2
  unfold maxLen at cp2
  have l1 := h.old _ h.mf
  have l2 := h.old _ h.ml
  clear h
  go_enter Try.func33, Try.ntmps33
  go_wp2
  refine bodyPost_ret (v := laneV (G (pr (2 * i))) (G (pr (2 * i) + 2))) (by simp [results, Try.results33, go_sem, *]) rfl ⟨rfl, ba (Below.refl _ _)⟩
theorem lane_ans (w : World) {gf nn : Nat} {out inn : Int} {F : Nat → List Pk} {B : Nat → Prop} {gl go cap : Nat} {G : Nat → Nat} {M D : Nat → Nat → Prop} (h : FbI w gf nn out inn F B gl go cap G M D) (i : Nat) (h1 : i < nn) (x : Int) (hx : x = (i : Int)) :
    Calls Try.prog 33 #[.pointer (some ⟨gf, 0, none⟩), .int .i64 x, .bool false] w fun e w' => e = .returned (laneV (G (pr (2 * i + 1))) (G (pr (2 * i + 1) + 2))) ∧ Below w.heap.size w w' := by
  subst hx
  have fc := h.fc
  have n0 := h.n0
  have n1 := h.n1
  have c1 := h.lp (2 * i + 1) (by omega)
  have c2 := h.lq (2 * i + 1) (by omega)
  have cp := h.cp.1
  have cp2 := h.cp.2
  unfold maxLen at cp2
  have l1 := h.old _ h.mf
  have l2 := h.old _ h.ml
  clear h
  go_enter Try.func33, Try.ntmps33
  go_wp2
  refine bodyPost_ret (v := laneV (G (pr (2 * i + 1))) (G (pr (2 * i + 1) + 2))) (by simp [results, Try.results33, go_sem, *]) rfl ⟨rfl, ba (Below.refl _ _)⟩
end Go.Proofs.Ytjdbjmfkheffdaa
end
