/- The contracts of pool's has and Get. Conditions: as each theorem states them. -/
import Derived.Test.YtafbcnchgnmjbaaPoo1
namespace Go.Proofs.Ytafbcnchgnmjbaa
open Go.RowKit
set_option linter.unusedVariables false
namespace P

theorem has_yes (w : World) {g : Nat} {M D : Nat → Prop} {room : Int} {L : List Pk} (h : Qu w g M D room L) (at' : Int) (h0 : 0 ≤ at') (h1 : at' < L.length) :
    Calls Try.prog 22 #[.pointer (some ⟨g, 0, none⟩), .int .i64 at'] w fun e w' => e = .returned (.bool true) ∧ w = w' := by
  go_enter Try.func22, Try.ntmps22
  go_wp2_with (go_at_call 12; refine (len_any _ h).mono ?_; rintro e w1 ⟨rfl, rfl⟩)
  go_ret
  exact ⟨rfl, rfl⟩
theorem has_no (w : World) {g : Nat} {M D : Nat → Prop} {room : Int} {L : List Pk} (h : Qu w g M D room L) (at' : Int) (h0 : ¬ (0 ≤ at' ∧ at' < L.length)) :
    Calls Try.prog 22 #[.pointer (some ⟨g, 0, none⟩), .int .i64 at'] w fun e w' => e = .returned (.bool false) ∧ w = w' := by
  by_cases hz : 0 ≤ at'
  · have h1 : (L.length : Int) ≤ at' := by omega
    clear h0
    go_enter Try.func22, Try.ntmps22
    go_wp2_with (go_at_call 12; refine (len_any _ h).mono ?_; rintro e w1 ⟨rfl, rfl⟩)
    go_ret
    exact ⟨ret_bool (decide_eq_false (by omega)), rfl⟩
  · have hz' : at' < 0 := by omega
    clear h0
    go_enter Try.func22, Try.ntmps22
    go_wp2
    go_ret
    exact ⟨rfl, rfl⟩
set_option maxHeartbeats 600000 in
theorem get_none (w : World) {g : Nat} {M D : Nat → Prop} {room : Int} {L : List Pk} (h : Qu w g M D room L) (at' : Int) (h0 : ¬ (0 ≤ at' ∧ at' < L.length)) :
    Calls Try.prog 10 #[.pointer (some ⟨g, 0, none⟩), .int .i64 at'] w fun e w' => e = .returned (.tuple #[zeroPk.val (.slice none 0 0), .bool false]) ∧ Below w.heap.size w w' := by
  have H0 : Hid (¬ (0 ≤ at' ∧ at' < L.length)) := h0
  clear h0
  go_enter Try.func10, Try.ntmps10
  go_wp2_with (go_at_call 22; refine (has_no _ (h.below (ba (Below.refl _ _))) at' H0.out).mono ?_; rintro e w1 ⟨rfl, rfl⟩)
  refine bodyPost_ret (v := .tuple #[zeroPk.val (.slice none 0 0), .bool false]) (by simp [results, Try.results10, go_sem, zeroPk, *]) rfl ⟨rfl, ba (Below.refl _ _)⟩
set_option maxHeartbeats 600000 in
theorem get_some (w : World) {g : Nat} {M D : Nat → Prop} {room : Int} {L : List Pk} (h : Qu w g M D room L) (k : Nat) (x : Pk) (hx : L[k]? = some x) (at' : Int) (hat : at' = (k : Int)) :
    Calls Try.prog 10 #[.pointer (some ⟨g, 0, none⟩), .int .i64 at'] w fun e w' => ∃ d, e = .returned (.tuple #[x.val d, .bool true]) ∧ Below w.heap.size w w' ∧ Own w' w.heap.size d x.z := by
  subst hat
  have hk : k < L.length := (List.getElem?_eq_some_iff.1 hx).1
  have hhas := fun w1 (hb : Below w.heap.size w w1) => has_yes w1 (h.below hb) (k : Int) (by omega) (by omega)
  obtain ⟨R, a, cap, h⟩ := h
  obtain ⟨x', d, b, o, hx', hR, hdat, rfl, hm, hb, ⟨e0, e1, e2, e3, e4, e5, e6, e7, e8⟩, _⟩ := h.prow.get hk
  obtain rfl : x' = x := by rw [hx] at hx'; exact (Option.some.inj hx').symm
  obtain ⟨ad, nd, cd, rfl, hsd, hnd, hdd⟩ := hdat
  have c1 := h.c1
  have glt := h.lt
  have hmx := h.row.max
  have hle := h.row.le
  unfold maxLen at hmx
  have hk1 : (k : Int) < (L.length : Int) := by omega
  clear hdd h hx hx' hR hm
  generalize L.length = N at *
  go_enter Try.func10, Try.ntmps10
  go_wp2_with (first
    | (go_at_call 22; refine (hhas _ (ba (Below.refl _ _))).mono ?_; rintro e w1 ⟨rfl, rfl⟩)
    | (go_at_call 21; refine (alone_any x' ad nd cd _ (hsd.below (ba (Below.refl _ _))) hnd).mono ?_; rintro e w2 ⟨v2, rfl, hown2, hb2⟩; obtain ⟨a2, c2, rfl, hs2⟩ := hown2.sl' hsd.len; clear hs2; have bx := (Bx.made w zeroPk (.slice none 0 0)).next hb2; obtain ⟨q0, q1, q2, q3, q4, q5, q6, q7, q8, qf, ql⟩ := bx; simp only [zeroPk] at q0 q1 q2 q3 q4 q5 q6 q7 q8))
  refine bodyPost_ret (v := .tuple #[x'.val (.slice a2 nd c2), .bool true]) (by simp [results, Try.results10, go_sem, *]) rfl ⟨_, rfl, ?_, ?_⟩
  · exact far9 (g := w.heap.size) (y := x') (v := .slice a2 nd c2) (W := w2) (P := fun V => Below w.heap.size w V) (fun V o u h => h.setCell (by simp) u) (next (ba (Below.refl _ _)) hb2)
  · refine Own.low (base := w.heap.size + 1) ?_ (by omega)
    exact far9 (g := w.heap.size) (y := x') (v := .slice a2 nd c2) (W := w2) (P := fun V => Own V (w.heap.size + 1) (.slice a2 nd c2) x'.z) (fun V o u h => h.set (by simp) u) (by simpa using hown2)
end P
end Go.Proofs.Ytafbcnchgnmjbaa
