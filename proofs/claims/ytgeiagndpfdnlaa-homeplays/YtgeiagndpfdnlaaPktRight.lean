/- The contracts of the document's own Right, Request, Answer. Conditions: as each theorem states them. -/
import Derived.Test.YtgeiagndpfdnlaaPart7
namespace Go.Proofs.Ytgeiagndpfdnlaa
open Go.RowKit
set_option linter.unusedVariables false
set_option maxRecDepth 20000

theorem Pk.right_no {x : Pk} (h : ¬ x.Right) : x.right = false := by
  cases hr : x.right
  · rfl
  · exact absurd ((Pk.right_iff x).1 hr) h
set_option maxHeartbeats 8000000 in
theorem right_any (x : Pk) (a : Option Addr) (n cap : Nat) (w : World) (hsl : Sl w a n cap x.z) :
    Calls Try.prog 40 #[x.val (.slice a n cap)] w fun e w' => e = .returned (.bool x.right) ∧ Below w.heap.size w w' := by
  have hl := hsl.len
  have hle := hsl.le
  have hmx := hsl.max
  unfold maxLen at hmx
  have HL : Hid (x.z.length = n) := hl
  clear hl hsl
  unfold Pk.val
  by_cases h0 : 1 ≤ x.k
  rotate_left
  · have e0 : decide (1 ≤ x.k) = false := decide_eq_false h0
    have HR : Hid (x.right = false) := Pk.right_no fun r => h0 r.k.1
    go_enter Try.func40, Try.ntmps40
    go_wp2
    go_ret
    exact ⟨ret_bool HR.out.symm, ba (Below.refl _ _)⟩
  have e0 : decide (1 ≤ x.k) = true := decide_eq_true h0
  by_cases h1 : x.k ≤ 9
  rotate_left
  · have e1 : decide (x.k ≤ 9) = false := decide_eq_false h1
    have HR : Hid (x.right = false) := Pk.right_no fun r => h1 r.k.2
    go_enter Try.func40, Try.ntmps40
    go_wp2
    go_ret
    exact ⟨ret_bool HR.out.symm, ba (Below.refl _ _)⟩
  have e1 : decide (x.k ≤ 9) = true := decide_eq_true h1
  by_cases h2 : 0 ≤ x.f
  rotate_left
  · have e2 : decide (0 ≤ x.f) = false := decide_eq_false h2
    have HR : Hid (x.right = false) := Pk.right_no fun r => h2 r.f.1
    go_enter Try.func40, Try.ntmps40
    go_wp2
    go_ret
    exact ⟨ret_bool HR.out.symm, ba (Below.refl _ _)⟩
  have e2 : decide (0 ≤ x.f) = true := decide_eq_true h2
  by_cases h3 : x.f < 6
  rotate_left
  · have e3 : decide (x.f < 6) = false := decide_eq_false h3
    have HR : Hid (x.right = false) := Pk.right_no fun r => h3 (by have := r.f.2; omega)
    go_enter Try.func40, Try.ntmps40
    go_wp2
    go_ret
    exact ⟨ret_bool HR.out.symm, ba (Below.refl _ _)⟩
  have e3 : decide (x.f < 6) = true := decide_eq_true h3
  by_cases h4 : 0 ≤ x.t
  rotate_left
  · have e4 : decide (0 ≤ x.t) = false := decide_eq_false h4
    have HR : Hid (x.right = false) := Pk.right_no fun r => h4 r.t.1
    go_enter Try.func40, Try.ntmps40
    go_wp2
    go_ret
    exact ⟨ret_bool HR.out.symm, ba (Below.refl _ _)⟩
  have e4 : decide (0 ≤ x.t) = true := decide_eq_true h4
  by_cases h5 : x.t < 6
  rotate_left
  · have e5 : decide (x.t < 6) = false := decide_eq_false h5
    have HR : Hid (x.right = false) := Pk.right_no fun r => h5 (by have := r.t.2; omega)
    go_enter Try.func40, Try.ntmps40
    go_wp2
    go_ret
    exact ⟨ret_bool HR.out.symm, ba (Below.refl _ _)⟩
  have e5 : decide (x.t < 6) = true := decide_eq_true h5
  by_cases h6 : 0 ≤ x.i
  rotate_left
  · have e6 : decide (0 ≤ x.i) = false := decide_eq_false h6
    have HR : Hid (x.right = false) := Pk.right_no fun r => h6 r.i.1
    go_enter Try.func40, Try.ntmps40
    go_wp2
    go_ret
    exact ⟨ret_bool HR.out.symm, ba (Below.refl _ _)⟩
  have e6 : decide (0 ≤ x.i) = true := decide_eq_true h6
  by_cases h7 : x.i < 4096
  rotate_left
  · have e7 : decide (x.i < 4096) = false := decide_eq_false h7
    have HR : Hid (x.right = false) := Pk.right_no fun r => h7 (by have := r.i.2; omega)
    go_enter Try.func40, Try.ntmps40
    go_wp2
    go_ret
    exact ⟨ret_bool HR.out.symm, ba (Below.refl _ _)⟩
  have e7 : decide (x.i < 4096) = true := decide_eq_true h7
  by_cases h8 : 0 ≤ x.l
  rotate_left
  · have e8 : decide (0 ≤ x.l) = false := decide_eq_false h8
    have HR : Hid (x.right = false) := Pk.right_no fun r => h8 r.l.1
    go_enter Try.func40, Try.ntmps40
    go_wp2
    go_ret
    exact ⟨ret_bool HR.out.symm, ba (Below.refl _ _)⟩
  have e8 : decide (0 ≤ x.l) = true := decide_eq_true h8
  by_cases h9 : x.l < 8
  rotate_left
  · have e9 : decide (x.l < 8) = false := decide_eq_false h9
    have HR : Hid (x.right = false) := Pk.right_no fun r => h9 (by have := r.l.2; omega)
    go_enter Try.func40, Try.ntmps40
    go_wp2
    go_ret
    exact ⟨ret_bool HR.out.symm, ba (Below.refl _ _)⟩
  have e9 : decide (x.l < 8) = true := decide_eq_true h9
  by_cases h10 : -1 ≤ x.p
  rotate_left
  · have e10 : decide (-1 ≤ x.p) = false := decide_eq_false h10
    have HR : Hid (x.right = false) := Pk.right_no fun r => h10 r.p.1
    go_enter Try.func40, Try.ntmps40
    go_wp2
    go_ret
    exact ⟨ret_bool HR.out.symm, ba (Below.refl _ _)⟩
  have e10 : decide (-1 ≤ x.p) = true := decide_eq_true h10
  by_cases h11 : x.p < 6
  rotate_left
  · have e11 : decide (x.p < 6) = false := decide_eq_false h11
    have HR : Hid (x.right = false) := Pk.right_no fun r => h11 (by have := r.p.2; omega)
    go_enter Try.func40, Try.ntmps40
    go_wp2
    go_ret
    exact ⟨ret_bool HR.out.symm, ba (Below.refl _ _)⟩
  have e11 : decide (x.p < 6) = true := decide_eq_true h11
  by_cases h12 : 0 ≤ x.s
  rotate_left
  · have e12 : decide (0 ≤ x.s) = false := decide_eq_false h12
    have HR : Hid (x.right = false) := Pk.right_no fun r => h12 r.s.1
    go_enter Try.func40, Try.ntmps40
    go_wp2
    go_ret
    exact ⟨ret_bool HR.out.symm, ba (Below.refl _ _)⟩
  have e12 : decide (0 ≤ x.s) = true := decide_eq_true h12
  by_cases h13 : x.s ≤ 2
  rotate_left
  · have e13 : decide (x.s ≤ 2) = false := decide_eq_false h13
    have HR : Hid (x.right = false) := Pk.right_no fun r => h13 r.s.2
    go_enter Try.func40, Try.ntmps40
    go_wp2
    go_ret
    exact ⟨ret_bool HR.out.symm, ba (Below.refl _ _)⟩
  have e13 : decide (x.s ≤ 2) = true := decide_eq_true h13
  by_cases h14 : (n : Int) ≤ 4
  rotate_left
  · have e14 : decide ((n : Int) ≤ 4) = false := decide_eq_false h14
    have HR : Hid (x.right = false) := Pk.right_no fun r => h14 (by have := r.z; have := HL.out; omega)
    go_enter Try.func40, Try.ntmps40
    go_wp2
    go_ret
    exact ⟨ret_bool HR.out.symm, ba (Below.refl _ _)⟩
  have e14 : decide ((n : Int) ≤ 4) = true := decide_eq_true h14
  have HR : Hid (x.right = true) := (Pk.right_iff x).2 ⟨⟨h0, h1⟩, ⟨h2, by omega⟩, ⟨h4, by omega⟩, ⟨h6, by omega⟩, ⟨h8, by omega⟩, ⟨h10, by omega⟩, ⟨h12, h13⟩, by have := HL.out; omega⟩
  go_enter Try.func40, Try.ntmps40
  go_wp2
  go_ret
  exact ⟨ret_bool HR.out.symm, ba (Below.refl _ _)⟩

end Go.Proofs.Ytgeiagndpfdnlaa
