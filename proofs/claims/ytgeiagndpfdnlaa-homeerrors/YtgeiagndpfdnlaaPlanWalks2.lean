/- The contracts of package plan: HomeOf, SetOf, LineOf, Words. Conditions: as each theorem states them. -/
import Derived.Test.YtgeiagndpfdnlaaPlanWalks
namespace Go.Proofs.Ytgeiagndpfdnlaa
open Go.RowKit
set_option linter.unusedVariables false
set_option maxRecDepth 20000

/-- The remainder of a line. -/
def remI (line m : Int) : Int := if line < 0 then -1 else line % m
theorem remI_neg {line m : Int} (h : line < 0) : remI line m = -1 := if_pos h
theorem remI_pos {line m : Int} (h : 0 ≤ line) : remI line m = line % m := if_neg (by omega)
theorem remainder_any (line m : Int) (w : World) (hm0 : 1 ≤ m) (hm1 : m ≤ 1000000) :
    Calls Try.prog 63 #[.int .i64 line, .int .i64 m] w fun e w' => e = .returned (.int .i64 (remI line m)) ∧ w = w' := by
  by_cases h : line < 0
  · have HR : Hid (remI line m = -1) := remI_neg h
    go_enter Try.func63, Try.ntmps63
    go_wp2
    go_ret
    exact ⟨ret_int HR.out.symm, rfl⟩
  · have h' : 0 ≤ line := by omega
    have HR : Hid (remI line m = line % m) := remI_pos h'
    go_enter Try.func63, Try.ntmps63
    go_wp2
    go_ret
    exact ⟨ret_int (by rw [HR.out]), rfl⟩
theorem homeOf_any (n l k s y o i line : Int) (t : Value) (w : World) (hm0 : 1 ≤ n) (hm1 : n ≤ 1000000) :
    Calls Try.prog 50 #[cfg n l k s y o i t, .int .i64 line] w fun e w' => e = .returned (.int .i64 (remI line n)) ∧ Below w.heap.size w w' := by
  unfold cfg
  go_enter Try.func50, Try.ntmps50
  go_wp2_with (go_at_call 63; refine (remainder_any _ _ _ hm0 hm1).mono ?_; rintro e w1 ⟨rfl, rfl⟩)
  go_ret
  exact ⟨rfl, ba (Below.refl _ _)⟩
/-- Is there such an address? -/
def isA (l k addr : Int) : Bool := decide (0 ≤ addr) && decide (addr < l * k)
theorem isA_of {l k addr : Int} (h : isA l k addr = true) : 0 ≤ addr ∧ addr < l * k := by simpa [isA] using h
theorem isA_no {l k addr : Int} (h : isA l k addr = false) : addr < 0 ∨ l * k ≤ addr := by simp [isA] at h; omega
theorem isA_mk {l k addr : Int} (h0 : 0 ≤ addr) (h1 : addr < l * k) : isA l k addr = true := by simp [isA, h0, h1]
theorem isA_not {l k addr : Int} (h0 : addr < 0 ∨ l * k ≤ addr) : isA l k addr = false := by simp [isA]; omega
def lineI (l k addr : Int) : Int := if isA l k addr then addr / k else -1
def wordI (l k addr : Int) : Int := if isA l k addr then addr % k else 0
theorem ret_pair {a b c d : Int} (h : a = c) (g : b = d) : Ending.returned (.tuple #[.int .i64 a, .int .i64 b]) = .returned (.tuple #[.int .i64 c, .int .i64 d]) := by rw [h, g]
end Go.Proofs.Ytgeiagndpfdnlaa
