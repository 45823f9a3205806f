/- The contracts of package memdir: Set. Conditions: as each theorem states them. -/
import Derived.Test.YtgeiagndpfdnlaaMd1
namespace Go.Proofs.Ytgeiagndpfdnlaa
open Go.RowKit Go.Maps
set_option linter.unusedVariables false
set_option maxRecDepth 20000

/-- May a row be that? -/
def setOk (N K : Int) (s h : Int) (n : Nat) : Bool := decide (0 ≤ s ∧ s ≤ 2) && decide (-1 ≤ h ∧ h < N) && ((s == 0) == (h == -1)) && decide (n = 0 ∨ (n : Int) = K)
section
variable {w : World} {g b : Nat} {D : Nat → Prop} {N K : Int} {R : List (Hr × Value)}
set_option maxHeartbeats 600000 in
theorem MW.set_none (h : MW w g b D N K R) {l : Int} (hl : In64 l) (hh : hasR R l = false) (s hd : Int) (a : Option Addr) (n cap : Nat) :
    Calls Try.prog 55 #[.pointer (some ⟨g, 0, none⟩), .int .i64 l, .int .i64 s, .int .i64 hd, .slice a n cap] w fun e w' => e = .returned (.int .i64 3) ∧ Below w.heap.size w w' := by
  have c2 := h.c2
  have lt := h.lt
  have hlk := h.look hl (V := w) (Below.refl _ _)
  rw [hh] at hlk
  obtain ⟨a0, n0, cap0, e0, _⟩ := h.rowDat l
  generalize rowAt R l = r at *
  obtain ⟨x, d⟩ := r
  simp only at e0
  subst e0
  go_enter Try.func55, Try.ntmps55
  go_wp2_with fail
  go_ret
  exact ⟨rfl, ba (Below.refl _ _)⟩
set_option maxHeartbeats 600000 in
theorem MW.set_arg (h : MW w g b D N K R) {l : Int} (hl : In64 l) (hh : hasR R l = true) (s hd : Int) (a : Option Addr) (n cap : Nat) (ho : setOk N K s hd n = false) :
    Calls Try.prog 55 #[.pointer (some ⟨g, 0, none⟩), .int .i64 l, .int .i64 s, .int .i64 hd, .slice a n cap] w fun e w' => e = .returned (.int .i64 1) ∧ Below w.heap.size w w' := by
  have c0 := h.c0
  have c1 := h.c1
  have c2 := h.c2
  have lt := h.lt
  have hlk := h.look hl (V := w) (Below.refl _ _)
  rw [hh] at hlk
  obtain ⟨a0, n0, cap0, e0, _⟩ := h.rowDat l
  generalize rowAt R l = r at *
  obtain ⟨x, d⟩ := r
  simp only at e0
  subst e0
  unfold setOk at ho
  obtain ⟨o1, h1⟩ : ∃ o, decide (0 ≤ s ∧ s ≤ 2) = o := ⟨_, rfl⟩
  obtain ⟨o2, h2⟩ : ∃ o, decide (-1 ≤ hd ∧ hd < N) = o := ⟨_, rfl⟩
  obtain ⟨o3, h3⟩ : ∃ o, ((s == 0) == (hd == -1)) = o := ⟨_, rfl⟩
  obtain ⟨o4, h4⟩ : ∃ o, decide (n = 0 ∨ (n : Int) = K) = o := ⟨_, rfl⟩
  rw [h1, h2, h3, h4] at ho
  have H1 : Hid (decide (0 ≤ s ∧ s ≤ 2) = o1) := h1
  have H2 : Hid (decide (-1 ≤ hd ∧ hd < N) = o2) := h2
  have H3 : Hid (((s == 0) == (hd == -1)) = o3) := h3
  have H4 : Hid (decide (n = 0 ∨ (n : Int) = K) = o4) := h4
  clear h1 h2 h3 h4
  have hc : o1 = false ∨ o1 = true ∧ o2 = false ∨ o1 = true ∧ o2 = true ∧ o3 = false ∨ o1 = true ∧ o2 = true ∧ o3 = true ∧ o4 = false := by
    revert ho
    cases o1 <;> cases o2 <;> cases o3 <;> cases o4 <;> decide
  clear ho
  rcases hc with rfl | ⟨rfl, rfl⟩ | ⟨rfl, rfl, rfl⟩ | ⟨rfl, rfl, rfl, rfl⟩
  all_goals (
    go_enter Try.func55, Try.ntmps55
    go_wp2_with (first
      | (go_at_call 66; refine (isState_any _ _).mono ?_; rintro e w1 ⟨rfl, rfl⟩; rw [H1.out])
      | (go_at_call 67; refine (isHead_any _ N _ _ (((ba (Below.refl _ _)).cell (p := ⟨g, 0, none⟩) lt).trans c0)).mono ?_; rintro e w1 ⟨rfl, rfl⟩; rw [H2.out])
      | (go_at_call 68; refine (fits_any _ _ _).mono ?_; rintro e w1 ⟨rfl, rfl⟩; rw [H3.out])
      | (go_at_call 69; refine (isData_any _ K _ _ _ _ (((ba (Below.refl _ _)).cell (p := ⟨g, 1, none⟩) lt).trans c1)).mono ?_; rintro e w1 ⟨rfl, rfl⟩; rw [H4.out]))
    go_ret
    exact ⟨rfl, ba (Below.refl _ _)⟩)
theorem rowAt_key {l : Int} (hh : hasR R l = true) : (rowAt R l).1.n = l ∧ rowAt R l ∈ R := by
  unfold hasR at hh
  unfold rowAt
  cases hg : getK hKey l R with
  | none => rw [hg] at hh; cases hh
  | some r => obtain ⟨h1, h2⟩ := getK_some hg; exact ⟨h2, h1⟩
end
end Go.Proofs.Ytgeiagndpfdnlaa
