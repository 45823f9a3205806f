/- The walk of CrcSteps: it answers true and writes nothing that was there. No condition but that the slice is one that can come in. -/
import Derived.Test.YtkdclhgfhddphaaCrcWalks
namespace Go.Proofs.Ytkdclhgfhddphaa
open Go.RowKit
set_option linter.unusedVariables false

theorem own_snoc {w : World} {base : Nat} {v : Value} {l : List Int} {x : Int} (h : w.ownsRow base 5 1 v (l.length + 1) (cells l ++ cells [x])) (h8 : B8 l) (h0 : 0 ≤ x) (h1 : x < 256) : Own w base v (l ++ [x]) := by
  refine ⟨by simpa [cells] using h, B8_append h8 ?_⟩
  intro y hy; simp at hy; subst hy; exact ⟨h0, h1⟩

set_option maxHeartbeats 1000000 in
theorem crcSteps_walk (a0 : Option Addr) (len0 cap0 : Nat) (l0 : List Int) (x : Int) (w : World) (w0 : Sl w a0 len0 cap0 l0) (hx0 : 0 ≤ x) (hx1 : x < 256) :
    Calls Try.prog 3 #[.slice a0 len0 cap0, .int .u8 x] w fun e w' => e = .returned (.bool true) ∧ Below w.heap.size w w' := by
  have hlen : (l0.take 60).length ≤ 60 := by simp; omega
  generalize hl : l0.take 60 = l at *
  obtain ⟨i0, hi, hz0, hz1, hz2⟩ := info_parts Try.info5
  go_enter Try.func3, Try.ntmps3
  go_wp2_with (first
    | (go_at_call 10; refine (cut_any a0 l0 len0 cap0 60 w w0 (by omega)).mono ?_; rintro e w1 ⟨v, rfl, hown, hb1⟩; rw [hl] at hown; obtain ⟨a1, cap1, rfl, hsl⟩ := hown.sl)
    | (go_at_call 11; refine (sum_any a1 l l.length cap1 _ hsl).mono ?_; rintro e w4 ⟨rfl, rfl⟩))
  go_loop [5, 6] (fun r i => ∃ k : Nat, k ≤ 8 ∧ i = .int .i64 (7 - (k : Int)) ∧ r = .int .u16 (goI (sumI l) x k)) (fun _ i => (intOf i + 1).toNat)
  case atStart => exact ⟨0, by omega, rfl, rfl⟩
  case round =>
    obtain ⟨k, hk, rfl, rfl⟩ := hrel
    obtain ⟨s0, s1⟩ := sumI_bd l hsl.b8
    obtain ⟨b0, b1⟩ := goI_bd (sumI l) x k hk s0 s1 hx0 hx1
    by_cases hlt : k < 8
    · have HS : Hid (goI (sumI l) x (k + 1) = stepI (goI (sumI l) x k) (digI x k)) := goI_succ _ x k
      go_wp2
      · go_round
        case rel => exact ⟨k + 1, by omega, by go_num, by rw [HS.out, alt_t hlt b0 b1 hx0 hx1 (by assumption)]⟩
        case measure => simp [intOf]; omega
      · go_round
        case rel => exact ⟨k + 1, by omega, by go_num, by rw [HS.out, alt_f hlt b0 b1 hx0 hx1 (by assumption)]⟩
        case measure => simp [intOf]; omega
    · obtain rfl : k = 8 := by omega
      have hsn : (sumI (l ++ [x]) == goI (sumI l) x 8) = true := by rw [sumI_snoc]; simp [byteI]
      go_wp2_with (first
        | (go_at_call 12; refine (copy_any a1 l l.length cap1 _ hsl (by omega)).mono ?_; rintro e w2 ⟨v2, rfl, hown2, hb2⟩)
        | (at_builtin; refine wpList_append_own _ rfl _ _ 22 rfl w1.heap.size 5 i0 (.int .u8 0) 1 1 Try.underlying22 hi hz0 hz1 hz2 rfl (by decide) _ l.length (cells l) rfl (hown2.1.alloc _) ⟨w2.heap.size, 0, none⟩ 1 1 (cells [x]) rfl rfl (cell_one_new _ _ _) (cells_one _) (by unfold maxLen; omega) (by omega) (by have := hb2.size; simp; omega) ?_; intro v3 w3 hown3 hg3 _)
        | (go_at_call 11; obtain ⟨a3, cap3, rfl, hsl3⟩ := (own_snoc hown3 hown2.2 hx0 hx1).sl; refine (sum_any a3 _ _ cap3 _ hsl3).mono ?_; rintro e w4 ⟨rfl, rfl⟩)
        | (go_at_call 13; refine (wakes_any _).mono ?_; rintro e w5 ⟨rfl, hb5⟩))
      go_ret
      have z1 := hb1.size
      have z2 := hb2.size
      have z3 := hg3.size
      simp at z3
      have hbb := ((hb1.trans (hb2.mono (by omega))).alloc (by omega) (.cells #[.int .u8 x] 5)).grown hg3 (by simp; omega) (fun k hk => by have := (hown2.1.lt k hk).1; omega)
      exact ⟨rfl, hbb.trans (hb5.mono (by omega))⟩
end Go.Proofs.Ytkdclhgfhddphaa
