/- The contracts of package plan: Check, HomeOf, SetOf, LineOf, Addrs. Conditions: as each theorem states them. -/
import Derived.Test.YtgeiagndpfdnlaaCfg0
namespace Go.Proofs.Ytgeiagndpfdnlaa
open Go.RowKit
set_option linter.unusedVariables false
set_option maxRecDepth 20000

def inB (m n : Int) : Bool := decide (1 ≤ n) && decide (n ≤ m)
theorem inB_of {m n : Int} (h : inB m n = true) : 1 ≤ n ∧ n ≤ m := by simpa [inB] using h

theorem upTo_any (m n : Int) (w : World) :
    Calls Try.prog 48 #[.int .i64 m, .int .i64 n] w fun e w' => e = .returned (.bool (inB m n)) ∧ w = w' := by
  go_enter Try.func48, Try.ntmps48
  go_wp2
  all_goals go_ret
  all_goals exact ⟨ret_bool (by simp [inB, *] <;> omega), rfl⟩

theorem addrs_any (n l k s y o i : Int) (t : Value) (w : World) (hl0 : 1 ≤ l) (hl1 : l ≤ 8) (hk0 : 1 ≤ k) (hk1 : k ≤ 4) :
    Calls Try.prog 49 #[cfg n l k s y o i t] w fun e w' => e = .returned (.int .i64 (l * k)) ∧ Below w.heap.size w w' := by
  have h1 : 1 ≤ l * k := by have := Int.mul_le_mul hl0 hk0 (by omega) (by omega); simpa using this
  have h2 : l * k ≤ 32 := by have := Int.mul_le_mul hl1 hk1 (by omega) (by omega); simpa using this
  unfold cfg
  go_enter Try.func49, Try.ntmps49
  go_wp2
  go_ret
  exact ⟨rfl, (Below.refl _ _).alloc (Nat.le_refl _) _⟩

/-- May a configuration be? -/
def chk (n l k s y o i : Int) (len : Nat) : Bool :=
  inB 6 n && inB 8 l && inB 4 k && inB 4 s && inB 3 y && inB 8 o && inB 8 i && decide ((len : Int) ≤ l * k)

def errI (b : Bool) : Int := if b then 0 else 1
set_option maxHeartbeats 400000 in
theorem check_any (n l k s y o i : Int) (a : Option Addr) (len cap : Nat) (w : World) :
    Calls Try.prog 25 #[cfg n l k s y o i (.slice a len cap)] w fun e w' => e = .returned (.int .i64 (errI (chk n l k s y o i len))) ∧ Below w.heap.size w w' := by
  unfold cfg
  by_cases hall : inB 6 n && inB 8 l && inB 4 k && inB 4 s && inB 3 y && inB 8 o && inB 8 i
  · simp only [Bool.and_eq_true] at hall
    obtain ⟨⟨⟨⟨⟨⟨b1, b2⟩, b3⟩, b4⟩, b5⟩, b6⟩, b7⟩ := hall
    obtain ⟨hl0, hl1⟩ := inB_of b2
    obtain ⟨hk0, hk1⟩ := inB_of b3
    have h1 : 1 ≤ l * k := by have := Int.mul_le_mul hl0 hk0 (by omega) (by omega); simpa using this
    have h2 : l * k ≤ 32 := by have := Int.mul_le_mul hl1 hk1 (by omega) (by omega); simpa using this
    have HC : Hid (chk n l k s y o i len = decide ((len : Int) ≤ l * k)) := by unfold Hid chk; rw [b1, b2, b3, b4, b5, b6, b7]; simp
    go_enter Try.func25, Try.ntmps25
    go_wp2_with (first
      | (go_at_call 48; refine (upTo_any _ _ _).mono ?_; rintro e w1 ⟨rfl, rfl⟩))
    have uc := @Up.cell
    have uf := @Up.frozen
    refine wp_region_up (by kernel_rfl) (by kernel_rfl) ?_
    repeat (go_big_quiet_step ((go_at_call 49; exact Calls.up_of (addrs_any _ _ _ _ _ _ _ _ _ hl0 hl1 hk0 hk1))))
    refine wpQuiet_nil ?_
    rintro _ ⟨u, rfl⟩
    have hb := u.2
    clear uc uf
    go_wp2
    all_goals go_ret
    all_goals
      refine ⟨ret_int ?_, (((Below.refl _ _).alloc (Nat.le_refl _) _).trans (hb.mono (by simp)))⟩
      rw [HC.out]
      unfold errI
    · rw [if_neg (by simp; omega)]
    · rw [if_pos (by simp; omega)]
  · have HC : Hid (chk n l k s y o i len = false) := by
      unfold Hid chk
      rw [Bool.and_eq_false_iff]; left; simpa using hall
    have HA := hall
    clear hall
    cases b1 : inB 6 n
    rotate_left
    cases b2 : inB 8 l
    rotate_left
    cases b3 : inB 4 k
    rotate_left
    cases b4 : inB 4 s
    rotate_left
    cases b5 : inB 3 y
    rotate_left
    cases b6 : inB 8 o
    rotate_left
    cases b7 : inB 8 i
    rotate_left
    · exact absurd (by rw [b1, b2, b3, b4, b5, b6, b7]; rfl) HA
    all_goals
      clear HA
      go_enter Try.func25, Try.ntmps25
      go_wp2_with (first
        | (go_at_call 48; refine (upTo_any _ _ _).mono ?_; rintro e w1 ⟨rfl, rfl⟩))
      go_ret
      exact ⟨ret_int (by rw [HC.out]; rfl), (Below.refl _ _).alloc (Nat.le_refl _) _⟩
theorem chk_none : chk 0 0 0 0 0 0 0 0 = false := by decide
theorem chk_ones : chk 1 1 1 1 1 1 1 0 = true := by decide
end Go.Proofs.Ytgeiagndpfdnlaa
