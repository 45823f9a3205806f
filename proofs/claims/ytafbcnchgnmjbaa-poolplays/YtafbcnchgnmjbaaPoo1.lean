/- The contracts of pool's New, Len, Room and alone. Conditions: as each theorem states them. -/
import Derived.Test.YtafbcnchgnmjbaaQue0
import Derived.Test.YtafbcnchgnmjbaaTake6
namespace Go.Proofs.Ytafbcnchgnmjbaa
open Go.RowKit
set_option linter.unusedVariables false
namespace P

theorem qu_new (w : World) (room : Int) : Qu (w.alloc (.cells #[.int .i64 room, .slice none 0 0] 45)) w.heap.size (fun k => k = w.heap.size) (fun _ => False) room [] :=
  ⟨[], none, 0, by simp, by simp, fun o => (by simp), by simp, rfl, rfl, rw_nil _ _ _, fun r hr => (by cases hr), fun k hk => (by rcases hk with rfl | h <;> simp_all), fun k _ h => h⟩
theorem new_any (room : Int) (w : World) :
    Calls Try.prog 8 #[.int .i64 room] w fun e w' => e = .returned (.pointer (some ⟨w.heap.size, 0, none⟩)) ∧ Below w.heap.size w w' ∧ Qu w' w.heap.size (fun k => k = w.heap.size) (fun _ => False) (max room 0) [] := by
  go_enter Try.func8, Try.ntmps8
  go_wp2
  · go_ret
    refine ⟨rfl, ba (Below.refl _ _), ?_⟩
    rw [Int.max_eq_right (by omega)]
    exact qu_new w 0
  · go_ret
    refine ⟨rfl, ba (Below.refl _ _), ?_⟩
    rw [Int.max_eq_left (by omega)]
    exact qu_new w room

theorem len_any (w : World) {g : Nat} {M D : Nat → Prop} {room : Int} {L : List Pk} (h : Qu w g M D room L) :
    Calls Try.prog 12 #[.pointer (some ⟨g, 0, none⟩)] w fun e w' => e = .returned (.int .i64 L.length) ∧ w = w' := by
  obtain ⟨R, a, cap, h⟩ := h
  obtain ⟨c0, c1, fz, lt, _, _, row, _⟩ := h
  have hle := row.le
  have hmx := row.max
  clear row
  go_enter Try.func12, Try.ntmps12
  go_wp2
  go_ret
  exact ⟨rfl, rfl⟩
theorem room_any (w : World) {g : Nat} {M D : Nat → Prop} {room : Int} {L : List Pk} (h : Qu w g M D room L) (h0 : 0 ≤ room) (h1 : room ≤ 1000000000) :
    Calls Try.prog 13 #[.pointer (some ⟨g, 0, none⟩)] w fun e w' => e = .returned (.int .i64 (room - L.length)) ∧ ∃ k, w' = w.drewN k := by
  obtain ⟨R, a, cap, h⟩ := h
  obtain ⟨c0, c1, fz, lt, _, _, row, _⟩ := h
  have hle := row.le
  have hmx := row.max
  unfold maxLen at hmx
  clear row
  go_enter Try.func13, Try.ntmps13
  go_wp2_with fail
  go_quiet (fail)
  go_wp2
  go_ret
  exact ⟨rfl, _, rfl⟩
theorem len_n (w : World) {g : Nat} {M D : Nat → Prop} {room : Int} {L : List Pk} (h : Qu w g M D room L) (n : Int) (hn : (L.length : Int) = n) :
    Calls Try.prog 12 #[.pointer (some ⟨g, 0, none⟩)] w fun e w' => e = .returned (.int .i64 n) ∧ w = w' := by
  subst hn; exact len_any w h
theorem room_n (w : World) {g : Nat} {M D : Nat → Prop} {room : Int} {L : List Pk} (h : Qu w g M D room L) (h0 : 0 ≤ room) (h1 : room ≤ 1000000000) (n : Int) (hn : room - L.length = n) :
    Calls Try.prog 13 #[.pointer (some ⟨g, 0, none⟩)] w fun e w' => e = .returned (.int .i64 n) ∧ ∃ k, w' = w.drewN k := by
  subst hn; exact room_any w h h0 h1

/-- Words of their own. -/
theorem alone_any (x : Pk) (a : Option Addr) (n cap : Nat) (w : World) (hsl : Sl w a n cap x.z) (hn : n ≤ 17592186044416) :
    Calls Try.prog 21 #[x.val (.slice a n cap)] w fun e w' => ∃ v, e = .returned (x.val v) ∧ Own w' w.heap.size v x.z ∧ Below w.heap.size w w' := by
  obtain ⟨i0, hi, hz0, hz1, hz2⟩ := info_parts Try.infoInt
  obtain ⟨hl, hle, hmx, hnil, hr⟩ := hsl
  unfold Pk.val
  cases a with
  | none =>
    obtain rfl : cap = 0 := hnil rfl
    obtain rfl : n = 0 := by omega
    have HZ : Hid (x.z = []) := List.eq_nil_of_length_eq_zero hl
    clear hr hnil
    go_enter Try.func21, Try.ntmps21
    go_wp2_with (at_builtin; refine wpList_append_own_none rfl _ _ 22 rfl w.heap.size 3 i0 1 Try.underlying22 hi _ 0 [] rfl (World.ownsRow_nil _ _ _ _) rfl ?_)
    refine bodyPost_ret (v := x.val (.slice none 0 0)) (by simp [results, Try.results21, go_sem, *]) rfl ⟨_, rfl, by rw [HZ.out]; exact own_nil _ _, ?_⟩
    exact ba (ba (Below.refl _ _))
  | some y =>
    clear hnil
    go_enter Try.func21, Try.ntmps21
    go_wp2_with (at_builtin; refine wpList_append_own _ rfl _ _ 22 rfl (w.heap.size + 2) 3 i0 (.int .i64 0) 1 8 Try.underlying22 hi hz0 hz1 hz2 rfl (by decide) _ 0 [] rfl (World.ownsRow_nil _ _ _ _) y n cap (cells x.z) rfl (by simp [cells, hl]) (Row.below hr (ba (ba (Below.refl _ _)))).cellsAt (cells_one x.z) (by omega) (by omega) (by simp) ?_; intro v' w1 hown hgrow hiff; clear hiff; have hown' : Own w1 (w.heap.size + 2) v' x.z := (by simpa [Own, hl] using hown); obtain ⟨a', c', rfl, hs'⟩ := hown'.sl' hl; clear hown; have hb1 := below_new hgrow; clear hgrow; have bx1 := ((Bx.made w x (.slice (some y) n cap)).next (ba (Below.refl _ _))).next hb1; have bx2 := (Bx.made' (w.alloc (.cells #[.int .i64 x.k, .int .i64 x.f, .int .i64 x.t, .int .i64 x.i, .int .i64 x.l, .int .i64 x.p, .int .i64 x.s, .bool x.fl, .slice (some y) n cap] 29)) zeroPk (.slice none 0 0) (w.heap.size + 1) (by simp)).next hb1; obtain ⟨p0, p1, p2, p3, p4, p5, p6, p7, p8, pf, pl⟩ := bx1; obtain ⟨q0, q1, q2, q3, q4, q5, q6, q7, q8, qf, ql⟩ := bx2; simp only [zeroPk] at q0 q1 q2 q3 q4 q5 q6 q7 q8)
    refine bodyPost_ret (v := x.val (.slice a' n c')) (by simp [results, Try.results21, go_sem, *]) rfl ⟨_, rfl, ?_, ?_⟩
    · refine Own.low (base := w.heap.size + 2) ?_ (by omega)
      exact far9 (g := w.heap.size + 1) (y := x) (v := .slice a' n c') (W := w1.setCell ⟨w.heap.size, 8, none⟩ (.slice a' n c')) (P := fun V => Own V (w.heap.size + 2) (.slice a' n c') x.z) (fun V o u h => h.set (by simp) u) (hown'.set (by simp only; omega) _)
    · exact far9 (g := w.heap.size + 1) (y := x) (v := .slice a' n c') (W := w1.setCell ⟨w.heap.size, 8, none⟩ (.slice a' n c')) (P := fun V => Below w.heap.size w V) (fun V o u h => h.setCell (by simp) u) ((next (ba (ba (Below.refl _ _))) hb1).setCell (by simp) _)
end P
end Go.Proofs.Ytafbcnchgnmjbaa
