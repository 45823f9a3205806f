/- The walk of CrcWhole: it answers true and writes nothing that was there. No condition but that the slice is one that can come in. -/
import Derived.Test.YtkdclhgfhddphaaCrcSeal
import Derived.Test.YtkdclhgfhddphaaCrcMath2
namespace Go.Proofs.Ytkdclhgfhddphaa
open Go.RowKit
set_option linter.unusedVariables false

theorem openI_seal {l : List Int} (h8 : B8 l) : openI (sealI l) = some l := by
  have b := sumI_bd l h8
  have hl : (sealI l).length = l.length + 2 := by simp [sealI]
  have ht : (sealI l).take l.length = l := by simp [sealI]
  have g0 : (sealI l)[l.length]?.getD 0 = sumI l / 256 := by simp [sealI]
  have g1 : (sealI l)[l.length + 1]?.getD 0 = sumI l % 256 := by simp [sealI]
  have := openI_yes hl (by rw [ht, g0, g1]; omega)
  rw [this, ht]
theorem sum_seal {l : List Int} (h8 : B8 l) : sumI (sealI l) = 0 := by
  have b := sumI_bd l h8
  exact (sum_whole l _ _ h8 (by omega) (by omega) (by omega) (by omega)).2 (by omega)

set_option maxHeartbeats 1000000 in
theorem crcWhole_sealed (a0 : Option Addr) (len0 cap0 : Nat) (l0 : List Int) (w : World) (w0 : Sl w a0 len0 cap0 l0) :
    Calls Try.prog 4 #[.slice a0 len0 cap0, .bool false] w fun e w' => e = .returned (.bool true) ∧ Below w.heap.size w w' := by
  have hlen : (l0.take 60).length ≤ 60 := by simp; omega
  generalize hl : l0.take 60 = l at *
  have hb8 : B8 l := by rw [← hl]; exact B8_take w0.b8 60
  have HO : Hid (openI (sealI l) = some l) := openI_seal hb8
  have hs0 := sum_seal hb8
  have hsl2 : (sealI l).length = l.length + 2 := by simp [sealI]
  go_enter Try.func4, Try.ntmps4
  go_wp2_with (first
    | (go_at_call 10; refine (cut_any a0 l0 len0 cap0 60 w w0 (by omega)).mono ?_; rintro e w1 ⟨v, rfl, hown, hb1⟩; rw [hl] at hown; obtain ⟨a1, cap1, rfl, hsl⟩ := hown.sl)
    | (go_at_call 14; refine (seal_any a1 l l.length cap1 _ hsl (by omega)).mono ?_; rintro e w2 ⟨v2, rfl, hown2, hb2⟩; obtain ⟨a2, cap2, rfl, hsl2'⟩ := hown2.sl; rw [hsl2] at hsl2')
    | (go_at_call 15; refine (open_any a2 (sealI l) (l.length + 2) cap2 _ hsl2' (by omega)).mono ?_; rintro e w3 ⟨v3, he, hown3, hb3⟩; rw [HO.out] at he hown3; simp only [Option.isSome_some, Option.getD_some] at he hown3; subst he; obtain ⟨a3, cap3, rfl, hsl3⟩ := hown3.sl)
    | (go_at_call 11; refine (sum_any a2 (sealI l) (l.length + 2) cap2 _ (hsl2'.below hb3)).mono ?_; rintro e w4 ⟨rfl, rfl⟩)
    | (go_at_call 16; refine (same_any a3 a1 l l l.length l.length cap3 cap1 _ hsl3 ((hsl.below hb2).below hb3)).mono ?_; rintro e w5 ⟨rfl, k5, rfl⟩)
    | (go_at_call 13; refine (wakes_any _).mono ?_; rintro e w6 ⟨rfl, hb6⟩))
  go_ret
  have z1 := hb1.size
  have z2 := hb2.size
  have z3 := hb3.size
  exact ⟨rfl, (((hb1.trans (hb2.mono z1)).trans (hb3.mono (by omega))).trans ((below_dn w3 k5).mono (by omega))).trans (hb6.mono (by simp; omega))⟩

set_option maxHeartbeats 1000000 in
theorem crcWhole_raw (a0 : Option Addr) (len0 cap0 : Nat) (l0 : List Int) (w : World) (w0 : Sl w a0 len0 cap0 l0) :
    Calls Try.prog 4 #[.slice a0 len0 cap0, .bool true] w fun e w' => e = .returned (.bool true) ∧ Below w.heap.size w w' := by
  have hlen : (l0.take 60).length ≤ 60 := by simp; omega
  generalize hl : l0.take 60 = l at *
  have hb8 : B8 l := by rw [← hl]; exact B8_take w0.b8 60
  by_cases h2 : l.length < 2
  · have HO : Hid (openI l = none) := openI_short h2
    go_enter Try.func4, Try.ntmps4
    go_wp2_with (first
      | (go_at_call 10; refine (cut_any a0 l0 len0 cap0 60 w w0 (by omega)).mono ?_; rintro e w1 ⟨v, rfl, hown, hb1⟩; rw [hl] at hown; obtain ⟨a1, cap1, rfl, hsl⟩ := hown.sl)
      | (go_at_call 15; refine (open_any a1 l l.length cap1 _ hsl (by omega)).mono ?_; rintro e w3 ⟨v3, he, hown3, hb3⟩; rw [HO.out] at he hown3; simp only [Option.isSome_none, Option.getD_none] at he hown3; subst he; obtain ⟨a3, cap3, rfl, hsl3⟩ := hown3.sl)
      | (go_at_call 13; refine (wakes_any _).mono ?_; rintro e w6 ⟨rfl, hb6⟩))
    go_ret
    have z1 := hb1.size
    have z3 := hb3.size
    exact ⟨rfl, (hb1.trans (hb3.mono z1)).trans (hb6.mono (by omega))⟩
  obtain ⟨m, hm⟩ : ∃ m, l.length = m + 2 := ⟨l.length - 2, by omega⟩
  have hw := sum_whole' hm hb8
  by_cases hs : sumI l = 0
  · have HM : Hid ((l.take m).length = m) := by show _ = _; simp; omega
    have HO : Hid (openI l = some (l.take m)) := openI_yes hm (hw.1 hs)
    clear hw h2
    go_enter Try.func4, Try.ntmps4
    go_wp2_with (first
      | (go_at_call 10; refine (cut_any a0 l0 len0 cap0 60 w w0 (by omega)).mono ?_; rintro e w1 ⟨v, rfl, hown, hb1⟩; rw [hl] at hown; obtain ⟨a1, cap1, rfl, hsl⟩ := hown.sl; rw [hm] at hsl; have hle := hsl.le)
      | (go_at_call 15; refine (open_any a1 l (m + 2) cap1 _ hsl (by omega)).mono ?_; rintro e w3 ⟨v3, he, hown3, hb3⟩; rw [HO.out] at he hown3; simp only [Option.isSome_some, Option.getD_some] at he hown3; subst he; obtain ⟨a3, cap3, rfl, hsl3⟩ := hown3.sl' HM.out)
      | (go_at_call 11; refine (sum_any a1 l (m + 2) cap1 _ (hsl.below hb3)).mono ?_; rintro e w4 ⟨rfl, rfl⟩)
      | (go_at_call 16; refine (same_any a3 a1 (l.take m) (l.take m) m m cap3 cap1 _ hsl3 ((hsl.take m (by omega)).below hb3)).mono ?_; rintro e w5 ⟨rfl, k5, rfl⟩)
      | (go_at_call 13; refine (wakes_any _).mono ?_; rintro e w6 ⟨rfl, hb6⟩))
    go_ret
    have z1 := hb1.size
    have z3 := hb3.size
    exact ⟨rfl, ((hb1.trans (hb3.mono z1)).trans ((below_dn w3 k5).mono (by omega))).trans (hb6.mono (by simp; omega))⟩
  · have HO : Hid (openI l = none) := openI_no hm (fun h => hs (hw.2 h))
    have hs' : (sumI l == 0) = false := by simpa using hs
    clear hw h2 hs
    go_enter Try.func4, Try.ntmps4
    go_wp2_with (first
      | (go_at_call 10; refine (cut_any a0 l0 len0 cap0 60 w w0 (by omega)).mono ?_; rintro e w1 ⟨v, rfl, hown, hb1⟩; rw [hl] at hown; obtain ⟨a1, cap1, rfl, hsl⟩ := hown.sl; rw [hm] at hsl; have hle := hsl.le)
      | (go_at_call 15; refine (open_any a1 l (m + 2) cap1 _ hsl (by omega)).mono ?_; rintro e w3 ⟨v3, he, hown3, hb3⟩; rw [HO.out] at he hown3; simp only [Option.isSome_none, Option.getD_none] at he hown3; subst he; obtain ⟨a3, cap3, rfl, hsl3⟩ := hown3.sl)
      | (go_at_call 11; refine (sum_any a1 l (m + 2) cap1 _ (hsl.below hb3)).mono ?_; rintro e w4 ⟨rfl, rfl⟩)
      | (go_at_call 13; refine (wakes_any _).mono ?_; rintro e w6 ⟨rfl, hb6⟩))
    go_ret
    have z1 := hb1.size
    have z3 := hb3.size
    exact ⟨rfl, (hb1.trans (hb3.mono z1)).trans (hb6.mono (by omega))⟩

theorem crcWhole_walk (a0 : Option Addr) (len0 cap0 : Nat) (l0 : List Int) (raw : Bool) (w : World) (w0 : Sl w a0 len0 cap0 l0) :
    Calls Try.prog 4 #[.slice a0 len0 cap0, .bool raw] w fun e w' => e = .returned (.bool true) ∧ Below w.heap.size w w' := by
  cases raw
  · exact crcWhole_sealed a0 len0 cap0 l0 w w0
  · exact crcWhole_raw a0 len0 cap0 l0 w w0
end Go.Proofs.Ytkdclhgfhddphaa
