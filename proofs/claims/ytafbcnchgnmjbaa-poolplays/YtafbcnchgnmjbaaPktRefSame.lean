/- The contract of the document's own Same. Conditions: as stated. -/
import Derived.Test.YtafbcnchgnmjbaaPk0
namespace Go.Proofs.Ytafbcnchgnmjbaa
open Go.RowKit
set_option linter.unusedVariables false

theorem sameP_f {x y : Pk} (h : (x.k != y.k) = true ∨ (x.f != y.f) = true ∨ (x.t != y.t) = true ∨ (x.i != y.i) = true ∨ (x.l != y.l) = true ∨ (x.p != y.p) = true ∨ (x.s != y.s) = true ∨ (x.fl != y.fl) = true ∨ ¬ x.z.length = y.z.length) : sameP x y = false :=
  decide_eq_false (fun ⟨h1, h2, h3, h4, h5, h6, h7, h8, h9⟩ => by simp [h1, h2, h3, h4, h5, h6, h7, h8, h9] at h)
theorem sameP_z {x y : Pk} (h1 : (x.k != y.k) = false) (h2 : (x.f != y.f) = false) (h3 : (x.t != y.t) = false) (h4 : (x.i != y.i) = false) (h5 : (x.l != y.l) = false) (h6 : (x.p != y.p) = false) (h7 : (x.s != y.s) = false) (h8 : (x.fl != y.fl) = false) : sameP x y = decide (x.z = y.z) := by
  simp only [bne_eq_false_iff_eq] at h1 h2 h3 h4 h5 h6 h7 h8
  unfold sameP; simp [h1, h2, h3, h4, h5, h6, h7, h8]

set_option maxHeartbeats 8000000 in
theorem refSame_any (x y : Pk) (a b : Option Addr) (n m c d : Nat) (w : World) (hx : Sl w a n c x.z) (hy : Sl w b m d y.z) :
    Calls Try.prog 19 #[x.val (.slice a n c), y.val (.slice b m d)] w fun e w' => e = .returned (.bool (sameP x y)) ∧ Below w.heap.size w w' := by
  have HL1 : Hid (x.z.length = n) := hx.len
  have HL2 : Hid (y.z.length = m) := hy.len
  have hmx := hx.max
  have hmy := hy.max
  have hlx := hx.le
  have hly := hy.le
  unfold maxLen at hmx hmy
  unfold Pk.val
  by_cases h0 : (x.k != y.k) = true
  · have HR : Hid (sameP x y = false) := sameP_f (.inl h0)
    clear hx hy
    skip
    go_enter Try.func19, Try.ntmps19
    go_wp2
    go_ret
    exact ⟨ret_bool HR.out.symm, ba (ba (Below.refl _ _))⟩
  replace h0 : (x.k != y.k) = false := by simpa using h0
  by_cases h1 : (x.f != y.f) = true
  · have HR : Hid (sameP x y = false) := sameP_f (.inr (.inl h1))
    clear hx hy
    skip
    go_enter Try.func19, Try.ntmps19
    go_wp2
    go_ret
    exact ⟨ret_bool HR.out.symm, ba (ba (Below.refl _ _))⟩
  replace h1 : (x.f != y.f) = false := by simpa using h1
  by_cases h2 : (x.t != y.t) = true
  · have HR : Hid (sameP x y = false) := sameP_f (.inr (.inr (.inl h2)))
    clear hx hy
    skip
    go_enter Try.func19, Try.ntmps19
    go_wp2
    go_ret
    exact ⟨ret_bool HR.out.symm, ba (ba (Below.refl _ _))⟩
  replace h2 : (x.t != y.t) = false := by simpa using h2
  by_cases h3 : (x.i != y.i) = true
  · have HR : Hid (sameP x y = false) := sameP_f (.inr (.inr (.inr (.inl h3))))
    clear hx hy
    skip
    go_enter Try.func19, Try.ntmps19
    go_wp2
    go_ret
    exact ⟨ret_bool HR.out.symm, ba (ba (Below.refl _ _))⟩
  replace h3 : (x.i != y.i) = false := by simpa using h3
  by_cases h4 : (x.l != y.l) = true
  · have HR : Hid (sameP x y = false) := sameP_f (.inr (.inr (.inr (.inr (.inl h4)))))
    clear hx hy
    skip
    go_enter Try.func19, Try.ntmps19
    go_wp2
    go_ret
    exact ⟨ret_bool HR.out.symm, ba (ba (Below.refl _ _))⟩
  replace h4 : (x.l != y.l) = false := by simpa using h4
  by_cases h5 : (x.p != y.p) = true
  · have HR : Hid (sameP x y = false) := sameP_f (.inr (.inr (.inr (.inr (.inr (.inl h5))))))
    clear hx hy
    skip
    go_enter Try.func19, Try.ntmps19
    go_wp2
    go_ret
    exact ⟨ret_bool HR.out.symm, ba (ba (Below.refl _ _))⟩
  replace h5 : (x.p != y.p) = false := by simpa using h5
  by_cases h6 : (x.s != y.s) = true
  · have HR : Hid (sameP x y = false) := sameP_f (.inr (.inr (.inr (.inr (.inr (.inr (.inl h6)))))))
    clear hx hy
    skip
    go_enter Try.func19, Try.ntmps19
    go_wp2
    go_ret
    exact ⟨ret_bool HR.out.symm, ba (ba (Below.refl _ _))⟩
  replace h6 : (x.s != y.s) = false := by simpa using h6
  by_cases h7 : (x.fl != y.fl) = true
  · have HR : Hid (sameP x y = false) := sameP_f (.inr (.inr (.inr (.inr (.inr (.inr (.inr (.inl h7))))))))
    clear hx hy
    have h7x : ¬ x.fl = y.fl := by revert h7; cases x.fl <;> cases y.fl <;> simp
    go_enter Try.func19, Try.ntmps19
    go_wp2
    go_ret
    exact ⟨ret_bool HR.out.symm, ba (ba (Below.refl _ _))⟩
  replace h7 : (x.fl != y.fl) = false := by simpa using h7
  have h7x : (x.fl == y.fl) = true := by revert h7; cases x.fl <;> cases y.fl <;> simp
  by_cases h8 : ((n : Int) != (m : Int)) = true
  · have HR : Hid (sameP x y = false) := sameP_f (.inr (.inr (.inr (.inr (.inr (.inr (.inr (.inr ((by have := HL1.out; have := HL2.out; simp at h8; omega))))))))))
    clear hx hy
    skip
    go_enter Try.func19, Try.ntmps19
    go_wp2
    go_ret
    exact ⟨ret_bool HR.out.symm, ba (ba (Below.refl _ _))⟩
  replace h8 : ((n : Int) != (m : Int)) = false := by simpa using h8
  have HR : Hid (sameP x y = decide (x.z = y.z)) := sameP_z h0 h1 h2 h3 h4 h5 h6 h7
  have HNM : Hid (n = m) := by show n = m; simp at h8; omega
  have hx2 := hx.below (ba (o := .cells #[.int .i64 y.k, .int .i64 y.f, .int .i64 y.t, .int .i64 y.i, .int .i64 y.l, .int .i64 y.p, .int .i64 y.s, .bool y.fl, .slice b m d] 29) (ba (o := .cells #[.int .i64 x.k, .int .i64 x.f, .int .i64 x.t, .int .i64 x.i, .int .i64 x.l, .int .i64 x.p, .int .i64 x.s, .bool x.fl, .slice a n c] 29) (Below.refl _ _)))
  have hy2 := hy.below (ba (o := .cells #[.int .i64 y.k, .int .i64 y.f, .int .i64 y.t, .int .i64 y.i, .int .i64 y.l, .int .i64 y.p, .int .i64 y.s, .bool y.fl, .slice b m d] 29) (ba (o := .cells #[.int .i64 x.k, .int .i64 x.f, .int .i64 x.t, .int .i64 x.i, .int .i64 x.l, .int .i64 x.p, .int .i64 x.s, .bool x.fl, .slice a n c] 29) (Below.refl _ _)))
  have bW := (ba (o := .cells #[.int .i64 y.k, .int .i64 y.f, .int .i64 y.t, .int .i64 y.i, .int .i64 y.l, .int .i64 y.p, .int .i64 y.s, .bool y.fl, .slice b m d] 29) (ba (o := .cells #[.int .i64 x.k, .int .i64 x.f, .int .i64 x.t, .int .i64 x.i, .int .i64 x.l, .int .i64 x.p, .int .i64 x.s, .bool x.fl, .slice a n c] 29) (Below.refl w.heap.size w)))
  have cp : ((w.alloc (.cells #[.int .i64 x.k, .int .i64 x.f, .int .i64 x.t, .int .i64 x.i, .int .i64 x.l, .int .i64 x.p, .int .i64 x.s, .bool x.fl, .slice a n c] 29)).alloc (.cells #[.int .i64 y.k, .int .i64 y.f, .int .i64 y.t, .int .i64 y.i, .int .i64 y.l, .int .i64 y.p, .int .i64 y.s, .bool y.fl, .slice b m d] 29)).cell? ⟨w.heap.size, 8, none⟩ = some (.slice a n c) := by simp
  have cq : ((w.alloc (.cells #[.int .i64 x.k, .int .i64 x.f, .int .i64 x.t, .int .i64 x.i, .int .i64 x.l, .int .i64 x.p, .int .i64 x.s, .bool x.fl, .slice a n c] 29)).alloc (.cells #[.int .i64 y.k, .int .i64 y.f, .int .i64 y.t, .int .i64 y.i, .int .i64 y.l, .int .i64 y.p, .int .i64 y.s, .bool y.fl, .slice b m d] 29)).cell? ⟨w.heap.size + 1, 8, none⟩ = some (.slice b m d) := by simp
  clear hx hy
  go_enter Try.func19, Try.ntmps19
  go_wp2
  generalize (w.alloc (.cells #[.int .i64 x.k, .int .i64 x.f, .int .i64 x.t, .int .i64 x.i, .int .i64 x.l, .int .i64 x.p, .int .i64 x.s, .bool x.fl, .slice a n c] 29)).alloc (.cells #[.int .i64 y.k, .int .i64 y.f, .int .i64 y.t, .int .i64 y.i, .int .i64 y.l, .int .i64 y.p, .int .i64 y.s, .bool y.fl, .slice b m d] 29) = W at *
  clear h0 h1 h2 h3 h4 h5 h6 h7 h8 h7x
  go_loopw [72] (fun i wr => ∃ k : Nat, k ≤ n ∧ i = .int .i64 k ∧ x.z.take k = y.z.take k ∧ ∃ j, wr = W.drewN j) (fun i _ => n - (intOf i).toNat)
  case atStart => exact ⟨0, by omega, rfl, rfl, 0, rfl⟩
  case round =>
    obtain ⟨k, hk, rfl, heq, j, rfl⟩ := hrel
    have HE : Hid (x.z.take k = y.z.take k) := heq
    clear heq
    by_cases hlt : k < n
    · have hlt2 : k < m := by have := HNM.out; omega
      obtain ⟨b1, o1, rfl, _, x1⟩ := hx2.at hlt
      obtain ⟨b2, o2, rfl, _, x2⟩ := hy2.at hlt2
      have g1 : k < x.z.length := by have := HL1.out; omega
      have g2 : k < y.z.length := by have := HL2.out; omega
      obtain ⟨e, he1⟩ : ∃ e, e = x.z[k]?.getD 0 := ⟨_, rfl⟩
      obtain ⟨f, hf1⟩ : ∃ f, f = y.z[k]?.getD 0 := ⟨_, rfl⟩
      rw [← he1] at x1
      rw [← hf1] at x2
      have HX : Hid (e = x.z[k]?.getD 0) := he1
      have HY : Hid (f = y.z[k]?.getD 0) := hf1
      clear he1 hf1
      by_cases hxy : e = f
      · have HXY : Hid (e = f) := hxy
        have hx' : (e != f) = false := by simp [hxy]
        clear hxy
        go_wp2_with fail
        go_quiet (fail)
        go_wp2
        go_roundw
        case rel => exact ⟨k + 1, by omega, by go_num, take_same HE.out (by rw [← HX.out, ← HY.out, HXY.out]) g1 g2, _, by first | rfl | exact World.drewN_drewN ..⟩
        case measure => simp [intOf]; omega
      · have HXY : Hid (¬ e = f) := hxy
        have hx' : (e != f) = true := by simpa using hxy
        clear hxy
        go_wp2_with fail
        go_quiet (fail)
        go_wp2
        go_ret
        exact ⟨ret_bool (by rw [HR.out]; exact (decide_eq_false (fun h => HXY.out (by rw [HX.out, HY.out, h]))).symm), by first | exact next bW (below_dn _ _) | exact next bW (next (below_dn _ _) (below_dn _ _))⟩
    · go_wp2
      go_ret
      refine ⟨ret_bool ?_, next bW (below_dn _ _)⟩
      have := HE.out
      rw [List.take_of_length_le (by have := HL1.out; omega), List.take_of_length_le (by have := HL2.out; have := HNM.out; omega)] at this
      rw [HR.out]
      exact (decide_eq_true this).symm
end Go.Proofs.Ytafbcnchgnmjbaa
