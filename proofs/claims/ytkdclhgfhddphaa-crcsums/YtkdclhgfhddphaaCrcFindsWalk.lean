/- The walk of CrcFinds: it answers true and writes nothing that was there. No condition but that the arguments are ones that can come in. -/
import Derived.Test.YtkdclhgfhddphaaCrcMath3
import Derived.Test.YtkdclhgfhddphaaCrcWholeWalk
namespace Go.Proofs.Ytkdclhgfhddphaa
open Go.RowKit
set_option linter.unusedVariables false

theorem wf_u16 {n : Int} (h : (Lit.int .u16 n).wf = true) : 0 ≤ n ∧ n < 65536 := by
  simp [Lit.wf, IntKind.min, IntKind.max, IntKind.signed, IntKind.bits] at h; omega
theorem openI_sum {l : List Int} (h8 : B8 l) (h : ¬ sumI l = 0) : openI l = none := by
  by_cases h2 : l.length < 2
  · exact openI_short h2
  · obtain ⟨m, hm⟩ : ∃ m, l.length = m + 2 := ⟨l.length - 2, by omega⟩
    exact openI_no hm fun e => h ((sum_whole' hm h8).2 e)

set_option maxHeartbeats 2000000 in
theorem crcFinds_walk (a0 : Option Addr) (len0 cap0 : Nat) (l0 : List Int) (bit mask : Int) (w : World) (w0 : Sl w a0 len0 cap0 l0) (hm0 : 0 ≤ mask) (hm1 : mask < 65536) :
    Calls Try.prog 6 #[.slice a0 len0 cap0, .int .i64 bit, .int .u16 mask] w fun e w' => e = .returned (.bool true) ∧ Below w.heap.size w w' := by
  have hlen : (l0.take 60).length ≤ 60 := by simp; omega
  generalize hl : l0.take 60 = l at *
  have hb8 : B8 l := by rw [← hl]; exact B8_take w0.b8 60
  have hs8 : B8 (sealI l) := sealI_b8 hb8
  have hsl2 : (sealI l).length = l.length + 2 := by simp [sealI]
  have HS : Hid (sumI (sealI l) = 0) := sum_seal hb8
  obtain ⟨N, hN⟩ : ∃ N : Int, 8 * ((l.length : Int) + 2) + 20 = N := ⟨_, rfl⟩
  obtain ⟨bt, hbt⟩ : ∃ bt : Int, bit % N - 18 = bt := ⟨_, rfl⟩
  have hN1 : 1 ≤ N ∧ N ≤ 1000000 := by omega
  have hr0 : 0 ≤ bit % N := Int.emod_nonneg _ (by omega)
  have hr1 : bit % N < N := Int.emod_lt_of_pos _ (by omega)
  have hlt : (spoilI (sealI l) bt mask).length = l.length + 2 := by rw [spoilI_len]; exact hsl2
  by_cases hsame : spoilI (sealI l) bt mask = sealI l
  · have HO : Hid (openI (spoilI (sealI l) bt mask) = some l) := by show _ = _; rw [hsame]; exact openI_seal hb8
    have hd : decide (sealI l = spoilI (sealI l) bt mask) = true := decide_eq_true hsame.symm
    clear hsame
    go_enter Try.func6, Try.ntmps6
    go_wp2_with (first
      | (go_at_call 10; refine (cut_any a0 l0 len0 cap0 60 w w0 (by omega)).mono ?_; rintro e w1 ⟨v, rfl, hown, hb1⟩; rw [hl] at hown; obtain ⟨a1, cap1, rfl, hsl⟩ := hown.sl)
      | (go_at_call 14; refine (seal_any a1 l l.length cap1 _ hsl (by omega)).mono ?_; rintro e w2 ⟨v2, rfl, hown2, hb2⟩; obtain ⟨a2, cap2, rfl, hsl2'⟩ := hown2.sl' hsl2)
      | (go_at_call 21; refine (within_any bit N _ hN1.1 hN1.2).mono ?_; rintro e w3 ⟨rfl, rfl⟩)
      | (go_at_call 22; refine (spoil_any a2 (sealI l) _ cap2 bt mask _ hsl2' (by omega) hm0 hm1).mono ?_; rintro e w3 ⟨v3, rfl, hown3, hb3⟩; obtain ⟨a3, cap3, rfl, hsl3⟩ := hown3.sl' hlt)
      | (go_at_call 15; refine (open_any a3 _ _ cap3 _ hsl3 (by omega)).mono ?_; rintro e w4 ⟨v4, he, hown4, hb4⟩; rw [HO.out] at he hown4; simp only [Option.isSome_some, Option.getD_some] at he hown4; subst he; obtain ⟨a4, cap4, rfl, hsl4⟩ := hown4.sl)
      | (go_at_call 16; have hk5 := k5; clear hk5; refine (same_any a4 a1 l l _ _ cap4 cap1 _ (hsl4.below (below_dn _ _)) ((((hsl.below hb2).below hb3).below hb4).below (below_dn _ _))).mono ?_; rintro e w5 ⟨rfl, k6, rfl⟩)
      | (go_at_call 16; refine (same_any a2 a3 _ _ _ _ cap2 cap3 _ ((hsl2'.below hb3).below hb4) (hsl3.below hb4)).mono ?_; rintro e w5 ⟨he5, k5, rfl⟩; rw [hd] at he5; subst he5)
      | (go_at_call 13; refine (wakes_any _).mono ?_; rintro e w6 ⟨rfl, hb6⟩))
    go_ret
    have z1 := hb1.size
    have z2 := hb2.size
    have z3 := hb3.size
    have z4 := hb4.size
    exact ⟨rfl, ((((hb1.trans (hb2.mono z1)).trans (hb3.mono (by omega))).trans (hb4.mono (by omega))).trans ((below_dn w4 (k5 + k6)).mono (by omega))).trans (hb6.mono (by simp; omega))⟩
  · have HO : Hid (openI (spoilI (sealI l) bt mask) = none) := openI_sum (spoilI_b8 hs8 _ _) fun e => hsame (spoil_found hs8 hm0 hm1 HS.out e)
    have hd : decide (sealI l = spoilI (sealI l) bt mask) = false := decide_eq_false fun e => hsame e.symm
    clear hsame
    go_enter Try.func6, Try.ntmps6
    go_wp2_with (first
      | (go_at_call 10; refine (cut_any a0 l0 len0 cap0 60 w w0 (by omega)).mono ?_; rintro e w1 ⟨v, rfl, hown, hb1⟩; rw [hl] at hown; obtain ⟨a1, cap1, rfl, hsl⟩ := hown.sl)
      | (go_at_call 14; refine (seal_any a1 l l.length cap1 _ hsl (by omega)).mono ?_; rintro e w2 ⟨v2, rfl, hown2, hb2⟩; obtain ⟨a2, cap2, rfl, hsl2'⟩ := hown2.sl' hsl2)
      | (go_at_call 21; refine (within_any bit N _ hN1.1 hN1.2).mono ?_; rintro e w3 ⟨rfl, rfl⟩)
      | (go_at_call 22; refine (spoil_any a2 (sealI l) _ cap2 bt mask _ hsl2' (by omega) hm0 hm1).mono ?_; rintro e w3 ⟨v3, rfl, hown3, hb3⟩; obtain ⟨a3, cap3, rfl, hsl3⟩ := hown3.sl' hlt)
      | (go_at_call 15; refine (open_any a3 _ _ cap3 _ hsl3 (by omega)).mono ?_; rintro e w4 ⟨v4, he, hown4, hb4⟩; rw [HO.out] at he hown4; simp only [Option.isSome_none, Option.getD_none] at he hown4; subst he; obtain ⟨a4, cap4, rfl, hsl4⟩ := hown4.sl)
      | (go_at_call 16; refine (same_any a2 a3 _ _ _ _ cap2 cap3 _ ((hsl2'.below hb3).below hb4) (hsl3.below hb4)).mono ?_; rintro e w5 ⟨he5, k5, rfl⟩; rw [hd] at he5; subst he5)
      | (go_at_call 13; refine (wakes_any _).mono ?_; rintro e w6 ⟨rfl, hb6⟩))
    go_ret
    have z1 := hb1.size
    have z2 := hb2.size
    have z3 := hb3.size
    have z4 := hb4.size
    exact ⟨rfl, ((((hb1.trans (hb2.mono z1)).trans (hb3.mono (by omega))).trans (hb4.mono (by omega))).trans ((below_dn w4 k5).mono (by omega))).trans (hb6.mono (by simp; omega))⟩
end Go.Proofs.Ytkdclhgfhddphaa
