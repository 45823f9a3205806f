/- The walk of PlanChecks. No condition. -/
import Derived.Test.YtpagdfmajeodiaaCfg
import Derived.Deep.CutBlock
namespace Go.Proofs.Ytpagdfmajeodiaa
open Go.RowKit
set_option linter.unusedVariables false

theorem refWithin_any (n m : Int) (w : World) :
    Calls Try.prog 30 #[.int .i64 n, .int .i64 m] w fun e w' => e = .returned (.bool (inB m n)) ∧ w = w' := by
  go_enter Try.func30, Try.ntmps30
  go_wp2
  all_goals go_ret
  all_goals exact ⟨ret_bool (by simp [inB, *] <;> omega), rfl⟩

set_option maxHeartbeats 1000000 in
theorem refCheck_any (n l k s y o i : Int) (a : Option Addr) (len cap : Nat) (w : World) :
    Calls Try.prog 17 #[cfg n l k s y o i (.slice a len cap)] w fun e w' => e = .returned (.bool (chk n l k s y o i len)) ∧ Below w.heap.size w w' := by
  unfold cfg
  by_cases hall : inB 6 n && inB 8 l && inB 4 k && inB 4 s && inB 3 y && inB 8 o && inB 8 i
  · simp only [Bool.and_eq_true] at hall
    obtain ⟨⟨⟨⟨⟨⟨b1, b2⟩, b3⟩, b4⟩, b5⟩, b6⟩, b7⟩ := hall
    obtain ⟨hl0, hl1⟩ := inB_of b2
    obtain ⟨hk0, hk1⟩ := inB_of b3
    have h1 : 1 ≤ l * k := by have := Int.mul_le_mul hl0 hk0 (by omega) (by omega); simpa using this
    have h2 : l * k ≤ 32 := by have := Int.mul_le_mul hl1 hk1 (by omega) (by omega); simpa using this
    have HC : Hid (chk n l k s y o i len = decide ((len : Int) ≤ l * k)) := by unfold Hid chk; rw [b1, b2, b3, b4, b5, b6, b7]; simp
    go_enter Try.func17, Try.ntmps17
    go_wp2_with (first
      | (go_at_call 30; refine (refWithin_any _ _ _).mono ?_; rintro e w1 ⟨rfl, rfl⟩))
    all_goals go_ret
    all_goals exact ⟨ret_bool (by rw [HC.out]), ba (Below.refl _ _)⟩
  · have HC : Hid (chk n l k s y o i len = false) := by
      unfold Hid chk
      rw [Bool.and_eq_false_iff]; left; simpa using hall
    have HA := hall
    clear hall
    cases b1 : inB 6 n
    rotate_left
    cases b2 : inB 8 l
    rotate_left
    cases b3 : inB 4 k
    rotate_left
    cases b4 : inB 4 s
    rotate_left
    cases b5 : inB 3 y
    rotate_left
    cases b6 : inB 8 o
    rotate_left
    cases b7 : inB 8 i
    rotate_left
    · exact absurd (by rw [b1, b2, b3, b4, b5, b6, b7]; rfl) HA
    all_goals
      clear HA
      go_enter Try.func17, Try.ntmps17
      go_wp2_with (first
        | (go_at_call 30; refine (refWithin_any _ _ _).mono ?_; rintro e w1 ⟨rfl, rfl⟩))
      go_ret
      exact ⟨ret_bool (by rw [HC.out]), ba (Below.refl _ _)⟩

/-- A configuration's variable, whatever its numbers. -/
structure CI (w : World) (g : Nat) (n l k s y o i : Int) (t : Value) : Prop where
  c0 : w.cell? ⟨g, 0, none⟩ = some (.int .i64 n)
  c1 : w.cell? ⟨g, 1, none⟩ = some (.int .i64 l)
  c2 : w.cell? ⟨g, 2, none⟩ = some (.int .i64 k)
  c3 : w.cell? ⟨g, 3, none⟩ = some (.int .i64 s)
  c4 : w.cell? ⟨g, 4, none⟩ = some (.int .i64 y)
  c5 : w.cell? ⟨g, 5, none⟩ = some (.int .i64 o)
  c6 : w.cell? ⟨g, 6, none⟩ = some (.int .i64 i)
  c7 : w.cell? ⟨g, 7, none⟩ = some t
  lt : g < w.heap.size

theorem CI.made (w : World) (n l k s y o i : Int) (t : Value) : CI (w.alloc (.cells #[.int .i64 n, .int .i64 l, .int .i64 k, .int .i64 s, .int .i64 y, .int .i64 o, .int .i64 i, t] 25)) w.heap.size n l k s y o i t := by
  constructor <;> simp
theorem CI.below {w w' : World} {g : Nat} {n l k s y o i : Int} {t : Value} (h : CI w g n l k s y o i t) (hb : Below w.heap.size w w') : CI w' g n l k s y o i t := by
  obtain ⟨hc, _⟩ := bcell hb
  exact ⟨by rw [hc _ _ h.lt]; exact h.c0, by rw [hc _ _ h.lt]; exact h.c1, by rw [hc _ _ h.lt]; exact h.c2, by rw [hc _ _ h.lt]; exact h.c3, by rw [hc _ _ h.lt]; exact h.c4, by rw [hc _ _ h.lt]; exact h.c5, by rw [hc _ _ h.lt]; exact h.c6, by rw [hc _ _ h.lt]; exact h.c7, Nat.lt_of_lt_of_le h.lt hb.size⟩
theorem CI.init {w : World} {g : Nat} {n l k s y o i : Int} {t : Value} (h : CI w g n l k s y o i t) (u : Value) : CI (w.setCell ⟨g, 7, none⟩ u) g n l k s y o i u := by
  obtain ⟨h0, h1, h2, h3, h4, h5, h6, h7, lt⟩ := h
  constructor <;> go_simp
theorem check_e {n l k s y o i : Int} {a : Option Addr} {len cap : Nat} {w : World} {b : Bool} {x : Int} (hb : chk n l k s y o i len = b) (hx : errI b = x) :
    Calls Try.prog 10 #[cfg n l k s y o i (.slice a len cap)] w fun e w' => e = .returned (.int .i64 x) ∧ Below w.heap.size w w' := by
  subst hb hx; exact check_any _ _ _ _ _ _ _ _ _ _ _
theorem refCheck_e {n l k s y o i : Int} {a : Option Addr} {len cap : Nat} {w : World} {b : Bool} (hb : chk n l k s y o i len = b) :
    Calls Try.prog 17 #[cfg n l k s y o i (.slice a len cap)] w fun e w' => e = .returned (.bool b) ∧ Below w.heap.size w w' := by
  subst hb; exact refCheck_any _ _ _ _ _ _ _ _ _ _ _
theorem errI_ok (b : Bool) : (errI b == 0) = b := by cases b <;> rfl

set_option maxRecDepth 20000 in
set_option maxHeartbeats 1000000 in
theorem planChecks_walk (w : World) (v : Value) (hv : IsSetup w v) (what x : Int) (ai : Option Addr) (ni qi : Nat) (zi : List Int) (hi : Sl w ai ni qi zi) :
    Calls Try.prog 5 #[v, .int .i64 what, .int .i64 x, .slice ai ni qi] w fun e w' => e = .returned (.bool true) ∧ Below w.heap.size w w' := by
  obtain ⟨n, l, k, s, y, o, i, a0, n0, q0, z0, a1, n1, q1, z1, a2, n2, q2, z2, a3, n3, q3, z3, a4, n4, q4, z4, rfl, h0, h1, h2, h3, h4⟩ := hv
  clear h1 h2 h3 h4
  unfold setup
  have m0 : 0 ≤ what % 9 := Int.emod_nonneg _ (by omega)
  have m1 : what % 9 < 9 := Int.emod_lt_of_pos _ (by omega)
  go_enter Try.func5, Try.ntmps5
  go_upto_block 0 with (first
    | (go_at_call 12; refine (config_c _ _ _ _ _ _ _ _ _ _ _ _ _ _ z0 _ (h0.below (by exact ba (Below.refl _ _)))).mono ?_; rintro e w1 ⟨N, L, K, S, Y, O, I, zs, av, nv, cv, rfl, hcf, hnv, hown, hb1⟩; unfold cfg)
    | (go_at_call 9; refine (within_any _ _ _ (by omega) (by omega)).mono ?_; rintro e wx ⟨rfl, rfl⟩))
  go_cut [8, 13] (fun v _ wx => v = .bool false ∧ ∃ (n l k s y o i : Int) (a : Option Addr) (len cap : Nat), CI wx w1.heap.size n l k s y o i (.slice a len cap) ∧ Below w.heap.size w wx)
  case first =>
    have hw0 : Below w.heap.size w w1 := next (ba (Below.refl _ _)) hb1
    have hw := ba (o := .cells #[.int .i64 (N : Int), .int .i64 (L : Int), .int .i64 (K : Int), .int .i64 (S : Int), .int .i64 (Y : Int), .int .i64 (O : Int), .int .i64 (I : Int), .slice av nv cv] 25) (next (ba (Below.refl _ _)) hb1)
    have hlt : w.heap.size ≤ w1.heap.size := by have := hb1.size; simp at this; omega
    have hsi := hi.below hw
    have h : what % 9 = 0 ∨ what % 9 = 1 ∨ what % 9 = 2 ∨ what % 9 = 3 ∨ what % 9 = 4 ∨ what % 9 = 5 ∨ what % 9 = 6 ∨ what % 9 = 7 ∨ what % 9 = 8 := by omega
    clear m0 m1 hown hb1 h0 hcf hi
    rcases h with h | h | h | h | h | h | h | h | h
    rotate_left 7
    · have hci := CI.made w1 N L K S Y O I (.slice av nv cv)
      go_wp2_with (go_at_call 16; refine (cut_any ai zi ni qi 10 _ (by exact hsi) (by omega)).mono ?_; rintro e w2 ⟨v2, rfl, hown2, hb2⟩; obtain ⟨a2', c2', ev, hsl2⟩ := hown2.sl; subst ev; obtain ⟨hc2, hf2⟩ := bcell hb2)
      go_meet
      case rel => exact ⟨rfl, _, _, _, _, _, _, _, _, _, _, (hci.below hb2).init _, (next hw hb2).setCell hlt _⟩
    · go_wp2
      go_meet
      case rel => exact ⟨rfl, _, _, _, _, _, _, _, _, _, _, CI.made _ _ _ _ _ _ _ _ _, ba hw0⟩
    all_goals
      go_wp2
      go_meet
      case rel => exact ⟨rfl, _, _, _, _, _, _, _, _, _, _, CI.made _ _ _ _ _ _ _ _ _, ba hw0⟩
  case rest =>
    obtain ⟨rfl, n', l', k', s', y', o', i', a', len', cap', hci, hbw⟩ := hcut
    obtain ⟨c0, c1, c2, c3, c4, c5, c6, c7, clt⟩ := hci
    clear m0 m1 hown hb1 h0 hcf hi
    generalize w1.heap.size = g at *
    have uc := @Up.cell
    have uf := @Up.frozen
    go_wp2_with fail
    cases hb : chk n' l' k' s' y' o' i' len'
    all_goals
      have HB : Hid (chk n' l' k' s' y' o' i' len' = _) := hb
      clear hb
      have i0 : errI false = 1 := rfl
      have i1 : errI true = 0 := rfl
      refine wp_region_up (by kernel_rfl) (by kernel_rfl) ?_
      repeat (go_big_quiet_step (first | (go_at_call 10; exact Calls.up_of (check_e HB.out (by assumption))) | (go_at_call 17; exact Calls.up_of (refCheck_e HB.out)) | (go_at_call 11; exact Calls.up_of (wakes_any _))))
      refine wpQuiet_nil ?_
      rintro _ ⟨u, rfl⟩
      go_wp2
      go_ret
      exact ⟨rfl, next hbw u.2⟩
end Go.Proofs.Ytpagdfmajeodiaa
