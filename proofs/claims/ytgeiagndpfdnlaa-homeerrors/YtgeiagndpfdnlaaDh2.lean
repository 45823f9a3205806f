/- The contract of the document's Set of a row. Conditions: as each theorem states them. -/
import Derived.Test.YtgeiagndpfdnlaaDh1
namespace Go.Proofs.Ytgeiagndpfdnlaa
open Go.RowKit Go.Maps
set_option linter.unusedVariables false
set_option maxRecDepth 20000

section
variable {w : World} {g : Nat} {M D : Nat → Prop} {N L K : Nat} {node : Int} {R : List (Hr × Value)} {a : Option Addr} {cap : Nat}
theorem dset_none (h : DH w g M D N L K node R a L cap) (hN : 1 ≤ N) {l : Int} (hh : hereI N L node l = false) (s hd : Int) (ax : Option Addr) (n cx : Nat) :
    Calls Try.prog 43 #[.pointer (some ⟨g, 0, none⟩), .int .i64 l, .int .i64 s, .int .i64 hd, .slice ax n cx] w fun e w' => e = .returned (.int .i64 3) ∧ Below w.heap.size w w' := by
  have HH : Hid (hereI N L node l = false) := hh
  go_enter Try.func43, Try.ntmps43
  go_wp2_with (go_at_call 41; refine (dhere_any h hN l).mono ?_; rintro e w1 ⟨rfl, b1⟩; rw [HH.out])
  go_ret
  exact ⟨rfl, b1⟩
set_option maxHeartbeats 1000000 in
theorem dset_arg (h : DH w g M D N L K node R a L cap) (hN : 1 ≤ N) {l : Int} (hh : hereI N L node l = true) (s hd : Int) (ax : Option Addr) (n cx : Nat) (ho : setOk N K s hd n = false) :
    Calls Try.prog 43 #[.pointer (some ⟨g, 0, none⟩), .int .i64 l, .int .i64 s, .int .i64 hd, .slice ax n cx] w fun e w' => e = .returned (.int .i64 1) ∧ Below w.heap.size w w' := by
  have HH : Hid (hereI N L node l = true) := hh
  have hx : s < 0 ∨ (0 ≤ s ∧ 2 < s) ∨ (0 ≤ s ∧ s ≤ 2 ∧ hd < -1) ∨ (0 ≤ s ∧ s ≤ 2 ∧ -1 ≤ hd ∧ (N : Int) ≤ hd) ∨ (0 ≤ s ∧ s ≤ 2 ∧ -1 ≤ hd ∧ hd < (N : Int) ∧ s = 0 ∧ hd ≠ -1) ∨ (0 ≤ s ∧ s ≤ 2 ∧ -1 ≤ hd ∧ hd < (N : Int) ∧ s ≠ 0 ∧ hd = -1) ∨ (0 ≤ s ∧ s ≤ 2 ∧ -1 ≤ hd ∧ hd < (N : Int) ∧ s = 0 ∧ hd = -1 ∧ n ≠ 0 ∧ n ≠ K) ∨ (0 ≤ s ∧ s ≤ 2 ∧ -1 ≤ hd ∧ hd < (N : Int) ∧ s ≠ 0 ∧ hd ≠ -1 ∧ n ≠ 0 ∧ n ≠ K) := by
    unfold setOk at ho
    by_cases h1 : 0 ≤ s ∧ s ≤ 2
    · by_cases h2 : -1 ≤ hd ∧ hd < (N : Int)
      · rw [decide_eq_true h1, decide_eq_true h2] at ho
        by_cases h3 : s = 0
        · by_cases h4 : hd = -1
          · have h5 : ¬ (n = 0 ∨ (n : Int) = K) := fun h5 => by rw [decide_eq_true h5, h3, h4] at ho; exact absurd ho (by decide)
            omega
          · omega
        · by_cases h4 : hd = -1
          · omega
          · have h5 : ¬ (n = 0 ∨ (n : Int) = K) := fun h5 => by
              have e1 : (s == 0) = false := by simp [h3]
              have e2 : (hd == -1) = false := by simp [h4]
              rw [decide_eq_true h5, e1, e2] at ho
              exact absurd ho (by decide)
            omega
      · omega
    · omega
  clear ho
  have c0 := h.c0
  have c2 := h.c2
  have lt := h.lt
  rcases hx with hx | hx | hx | hx | hx | hx | hx | hx
  · go_enter Try.func43, Try.ntmps43
    go_wp2_with (go_at_call 41; refine (dhere_any h hN l).mono ?_; rintro e w1 ⟨rfl, b1⟩; rw [HH.out]; obtain ⟨k1, k2⟩ := bcell b1)
    go_ret
    exact ⟨rfl, b1⟩
  · obtain ⟨x1, x2⟩ := hx
    go_enter Try.func43, Try.ntmps43
    go_wp2_with (go_at_call 41; refine (dhere_any h hN l).mono ?_; rintro e w1 ⟨rfl, b1⟩; rw [HH.out]; obtain ⟨k1, k2⟩ := bcell b1)
    go_ret
    exact ⟨rfl, b1⟩
  · obtain ⟨x1, x2, x3⟩ := hx
    go_enter Try.func43, Try.ntmps43
    go_wp2_with (go_at_call 41; refine (dhere_any h hN l).mono ?_; rintro e w1 ⟨rfl, b1⟩; rw [HH.out]; obtain ⟨k1, k2⟩ := bcell b1)
    go_ret
    exact ⟨rfl, b1⟩
  · obtain ⟨x1, x2, x3, x4⟩ := hx
    go_enter Try.func43, Try.ntmps43
    go_wp2_with (go_at_call 41; refine (dhere_any h hN l).mono ?_; rintro e w1 ⟨rfl, b1⟩; rw [HH.out]; obtain ⟨k1, k2⟩ := bcell b1)
    go_ret
    exact ⟨rfl, b1⟩
  · obtain ⟨x1, x2, x3, x4, x5, x6⟩ := hx
    subst x5
    have x6' : (hd == -1) = false := by simp [x6]
    go_enter Try.func43, Try.ntmps43
    go_wp2_with (go_at_call 41; refine (dhere_any h hN l).mono ?_; rintro e w1 ⟨rfl, b1⟩; rw [HH.out]; obtain ⟨k1, k2⟩ := bcell b1)
    go_ret
    exact ⟨rfl, b1⟩
  · obtain ⟨x1, x2, x3, x4, x5, x6⟩ := hx
    subst x6
    have x5' : (s == 0) = false := by simp [x5]
    go_enter Try.func43, Try.ntmps43
    go_wp2_with (go_at_call 41; refine (dhere_any h hN l).mono ?_; rintro e w1 ⟨rfl, b1⟩; rw [HH.out]; obtain ⟨k1, k2⟩ := bcell b1)
    go_ret
    exact ⟨rfl, b1⟩
  · obtain ⟨x1, x2, x3, x4, x5, x6, x7, x8⟩ := hx
    subst x5 x6
    have x7' : (0 : Int) < (n : Int) := by omega
    have x8' : ((n : Int) != (K : Int)) = true := by simp; omega
    go_enter Try.func43, Try.ntmps43
    go_wp2_with (go_at_call 41; refine (dhere_any h hN l).mono ?_; rintro e w1 ⟨rfl, b1⟩; rw [HH.out]; obtain ⟨k1, k2⟩ := bcell b1)
    go_ret
    exact ⟨rfl, b1⟩
  · obtain ⟨x1, x2, x3, x4, x5, x6, x7, x8⟩ := hx
    have x5' : (s == 0) = false := by simp [x5]
    have x6' : (hd == -1) = false := by simp [x6]
    have x7' : (0 : Int) < (n : Int) := by omega
    have x8' : ((n : Int) != (K : Int)) = true := by simp; omega
    go_enter Try.func43, Try.ntmps43
    go_wp2_with (go_at_call 41; refine (dhere_any h hN l).mono ?_; rintro e w1 ⟨rfl, b1⟩; rw [HH.out]; obtain ⟨k1, k2⟩ := bcell b1)
    go_ret
    exact ⟨rfl, b1⟩
end
end Go.Proofs.Ytgeiagndpfdnlaa
