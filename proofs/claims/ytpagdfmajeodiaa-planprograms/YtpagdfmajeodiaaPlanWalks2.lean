/- The contracts of package plan: HomeOf, SetOf, LineOf, Words. Conditions: as each theorem states them. -/
import Derived.Test.YtpagdfmajeodiaaPlanWalks
namespace Go.Proofs.Ytpagdfmajeodiaa
open Go.RowKit
set_option linter.unusedVariables false

/-- The remainder of a line. -/
def remI (line m : Int) : Int := if line < 0 then -1 else line % m
theorem remI_neg {line m : Int} (h : line < 0) : remI line m = -1 := if_pos h
theorem remI_pos {line m : Int} (h : 0 ≤ line) : remI line m = line % m := if_neg (by omega)
theorem remainder_any (line m : Int) (w : World) (hm0 : 1 ≤ m) (hm1 : m ≤ 1000000) :
    Calls Try.prog 32 #[.int .i64 line, .int .i64 m] w fun e w' => e = .returned (.int .i64 (remI line m)) ∧ w = w' := by
  by_cases h : line < 0
  · have HR : Hid (remI line m = -1) := remI_neg h
    go_enter Try.func32, Try.ntmps32
    go_wp2
    go_ret
    exact ⟨ret_int HR.out.symm, rfl⟩
  · have h' : 0 ≤ line := by omega
    have HR : Hid (remI line m = line % m) := remI_pos h'
    go_enter Try.func32, Try.ntmps32
    go_wp2
    go_ret
    exact ⟨ret_int (by rw [HR.out]), rfl⟩
theorem homeOf_any (n l k s y o i line : Int) (t : Value) (w : World) (hm0 : 1 ≤ n) (hm1 : n ≤ 1000000) :
    Calls Try.prog 19 #[cfg n l k s y o i t, .int .i64 line] w fun e w' => e = .returned (.int .i64 (remI line n)) ∧ Below w.heap.size w w' := by
  unfold cfg
  go_enter Try.func19, Try.ntmps19
  go_wp2_with (go_at_call 32; refine (remainder_any _ _ _ hm0 hm1).mono ?_; rintro e w1 ⟨rfl, rfl⟩)
  go_ret
  exact ⟨rfl, ba (Below.refl _ _)⟩
theorem setOf_any (n l k s y o i line : Int) (t : Value) (w : World) (hm0 : 1 ≤ s) (hm1 : s ≤ 1000000) :
    Calls Try.prog 20 #[cfg n l k s y o i t, .int .i64 line] w fun e w' => e = .returned (.int .i64 (remI line s)) ∧ Below w.heap.size w w' := by
  unfold cfg
  go_enter Try.func20, Try.ntmps20
  go_wp2_with (go_at_call 32; refine (remainder_any _ _ _ hm0 hm1).mono ?_; rintro e w1 ⟨rfl, rfl⟩)
  go_ret
  exact ⟨rfl, ba (Below.refl _ _)⟩

/-- Is there such an address? -/
def isA (l k addr : Int) : Bool := decide (0 ≤ addr) && decide (addr < l * k)
theorem isA_of {l k addr : Int} (h : isA l k addr = true) : 0 ≤ addr ∧ addr < l * k := by simpa [isA] using h
theorem isA_no {l k addr : Int} (h : isA l k addr = false) : addr < 0 ∨ l * k ≤ addr := by simp [isA] at h; omega
theorem isA_mk {l k addr : Int} (h0 : 0 ≤ addr) (h1 : addr < l * k) : isA l k addr = true := by simp [isA, h0, h1]
theorem isA_not {l k addr : Int} (h0 : addr < 0 ∨ l * k ≤ addr) : isA l k addr = false := by simp [isA]; omega
theorem isAddr_any (n l k s y o i addr : Int) (t : Value) (w : World) (hl0 : 1 ≤ l) (hl1 : l ≤ 8) (hk0 : 1 ≤ k) (hk1 : k ≤ 4) :
    Calls Try.prog 31 #[cfg n l k s y o i t, .int .i64 addr] w fun e w' => e = .returned (.bool (isA l k addr)) ∧ Below w.heap.size w w' := by
  unfold cfg
  by_cases h : 0 ≤ addr
  · have HI : Hid (isA l k addr = decide (addr < l * k)) := by unfold Hid isA; rw [decide_eq_true h]; rfl
    go_enter Try.func31, Try.ntmps31
    go_wp2_with (go_at_call 15; refine (addrs_any _ _ _ _ _ _ _ _ _ hl0 hl1 hk0 hk1).mono ?_; rintro e w1 ⟨rfl, hb⟩)
    go_ret
    exact ⟨ret_bool HI.out.symm, (ba (Below.refl _ _)).trans (hb.mono (by simp))⟩
  · have HI : Hid (isA l k addr = false) := by unfold Hid isA; rw [decide_eq_false h]; rfl
    have h' : addr < 0 := by omega
    go_enter Try.func31, Try.ntmps31
    go_wp2
    go_ret
    exact ⟨ret_bool HI.out.symm, ba (Below.refl _ _)⟩
def lineI (l k addr : Int) : Int := if isA l k addr then addr / k else -1
def wordI (l k addr : Int) : Int := if isA l k addr then addr % k else 0
theorem ret_pair {a b c d : Int} (h : a = c) (g : b = d) : Ending.returned (.tuple #[.int .i64 a, .int .i64 b]) = .returned (.tuple #[.int .i64 c, .int .i64 d]) := by rw [h, g]
set_option maxHeartbeats 400000 in
theorem lineOf_any (n l k s y o i addr : Int) (t : Value) (w : World) (hl0 : 1 ≤ l) (hl1 : l ≤ 8) (hk0 : 1 ≤ k) (hk1 : k ≤ 4) :
    Calls Try.prog 18 #[cfg n l k s y o i t, .int .i64 addr] w fun e w' => e = .returned (.tuple #[.int .i64 (lineI l k addr), .int .i64 (wordI l k addr)]) ∧ Below w.heap.size w w' := by
  unfold cfg
  have h2 : l * k ≤ 32 := by have := Int.mul_le_mul hl1 hk1 (by omega) (by omega); simpa using this
  cases h : isA l k addr
  · have HL : Hid (lineI l k addr = -1) := by unfold Hid lineI; rw [h]; rfl
    have HW : Hid (wordI l k addr = 0) := by unfold Hid wordI; rw [h]; rfl
    go_enter Try.func18, Try.ntmps18
    go_wp2_with (go_at_call 31; refine (isAddr_any _ _ _ _ _ _ _ _ _ _ hl0 hl1 hk0 hk1).mono ?_; rintro e w1 ⟨rfl, hb⟩)
    go_ret2
    exact ⟨ret_pair HL.out.symm HW.out.symm, (ba (Below.refl _ _)).trans (hb.mono (by simp))⟩
  · have HL : Hid (lineI l k addr = addr / k) := by unfold Hid lineI; rw [h]; rfl
    have HW : Hid (wordI l k addr = addr % k) := by unfold Hid wordI; rw [h]; rfl
    obtain ⟨a0, a1⟩ := isA_of h
    go_enter Try.func18, Try.ntmps18
    go_wp2_with (go_at_call 31; refine (isAddr_any _ _ _ _ _ _ _ _ _ _ hl0 hl1 hk0 hk1).mono ?_; rintro e w1 ⟨rfl, hb⟩; obtain ⟨hc1, hf1⟩ := bcell hb)
    go_quiet (fail)
    go_wp2
    go_ret2
    exact ⟨ret_pair (by rw [HL.out]) (by rw [HW.out]), (ba (Below.refl _ _)).trans ((hb.trans ((below_dn _ _).mono hb.size)).mono (by simp))⟩
end Go.Proofs.Ytpagdfmajeodiaa
