/- The walk of CrcTurns: it answers true and writes nothing that was there. No condition but that the arguments are ones that can come in. -/
import Derived.Test.YtkdclhgfhddphaaCrcFindsWalk
namespace Go.Proofs.Ytkdclhgfhddphaa
open Go.RowKit
set_option linter.unusedVariables false

theorem nextB {w0 w1 w2 : World} (h : Below w0.heap.size w0 w1) (h2 : Below w1.heap.size w1 w2) : Below w0.heap.size w0 w2 := h.trans (h2.mono h.size)

set_option maxHeartbeats 2000000 in
theorem crcTurns_walk (a0 : Option Addr) (len0 cap0 : Nat) (l0 : List Int) (bit mask : Int) (w : World) (w0 : Sl w a0 len0 cap0 l0) (hm0 : 0 ≤ mask) (hm1 : mask < 65536) :
    Calls Try.prog 7 #[.slice a0 len0 cap0, .int .i64 bit, .int .u16 mask] w fun e w' => e = .returned (.bool true) ∧ Below w.heap.size w w' := by
  have hlen : (l0.take 60).length ≤ 60 := by simp; omega
  generalize hl : l0.take 60 = l at *
  have hb8 : B8 l := by rw [← hl]; exact B8_take w0.b8 60
  obtain ⟨n, hn⟩ : ∃ n, l.length = n := ⟨_, rfl⟩
  have E2 : Hid (spoilI (spoilI l bit mask) bit mask = l) := spoil_twice hb8 hm0 hm1
  have E3 : Hid (spoilI l bit 0 = l) := spoil_zero hb8
  have E4 : Hid (spoilI l (8 * (n : Int)) mask = l) := spoil_past (.inr (by omega))
  have E5 : Hid (spoilI l (-16) mask = l) := spoil_past (.inl (by omega))
  have HL : Hid ((spoilI l bit mask).length = n) := by show _ = _; rw [spoilI_len]; exact hn
  have HN : Hid (l.length = n) := hn
  have hn60 : n ≤ 60 := by omega
  clear hn
  go_enter Try.func7, Try.ntmps7
  go_wp2_with (first
    | (go_at_call 10; refine (cut_any a0 l0 len0 cap0 60 w w0 (by omega)).mono ?_; rintro e w1 ⟨v, rfl, hown, hb1⟩; rw [hl] at hown; obtain ⟨a1, cap1, rfl, hsl⟩ := hown.sl' HN.out; clear hown; have B1 := hb1; clear hb1)
    | (go_at_call 22; have mk := k4; clear mk; refine (spoil_any a1 l n cap1 (-16) mask _ hsl4 (by omega) hm0 hm1).mono ?_; rintro e w10 ⟨v5, rfl, hown5, hb5⟩; rw [E5.out] at hown5; obtain ⟨a5, cap5, rfl, hs5⟩ := hown5.sl' HN.out; clear hown5; have B9 := nextB B8x hb5; have hsl5 := hsl4.below hb5; clear hb5)
    | (go_at_call 22; have mk := k3; clear mk; refine (spoil_any a1 l n cap1 (8 * (n : Int)) mask _ hsl3 (by omega) hm0 hm1).mono ?_; rintro e w8 ⟨v4, rfl, hown4, hb4⟩; rw [E4.out] at hown4; obtain ⟨a4, cap4, rfl, hs4⟩ := hown4.sl' HN.out; clear hown4; have B7 := nextB B6 hb4; have hsl4a := hsl3.below hb4; clear hb4)
    | (go_at_call 22; have mk := k2; clear mk; refine (spoil_any a1 l n cap1 bit 0 _ hsl2 (by omega) (by omega) (by omega)).mono ?_; rintro e w6 ⟨v3, rfl, hown3, hb3⟩; rw [E3.out] at hown3; obtain ⟨a3, cap3, rfl, hs3⟩ := hown3.sl' HN.out; clear hown3; have B5 := nextB B4 hb3; have hsl3a := hsl2.below hb3; clear hb3)
    | (go_at_call 22; have mk := hsS; clear mk; refine (spoil_any aS _ n capS bit mask _ hsS (by omega) hm0 hm1).mono ?_; rintro e w4 ⟨v2, rfl, hown2, hb2⟩; rw [E2.out] at hown2; obtain ⟨a2, cap2, rfl, hs2⟩ := hown2.sl' HN.out; clear hown2; have B3 := nextB B2 hb2; have hsl2a := hslS.below hb2; clear hb2)
    | (go_at_call 22; refine (spoil_any a1 l n cap1 bit mask _ hsl (by omega) hm0 hm1).mono ?_; rintro e w3 ⟨vS, rfl, hownS, hbS⟩; obtain ⟨aS, capS, rfl, hsS⟩ := hownS.sl' HL.out; clear hownS; have B2 := nextB B1 hbS; have hslS := hsl.below hbS; clear hbS)
    | (go_at_call 16; have mk := hs5; clear mk; refine (same_any a5 a1 l l n n cap5 cap1 _ hs5 hsl5).mono ?_; rintro e w11 ⟨rfl, k5, rfl⟩; have B10 := nextB B9 (below_dn _ k5))
    | (go_at_call 16; have mk := hs4; clear mk; refine (same_any a4 a1 l l n n cap4 cap1 _ hs4 hsl4a).mono ?_; rintro e w9 ⟨rfl, k4, rfl⟩; have B8x := nextB B7 (below_dn _ k4); have hsl4 := hsl4a.below (below_dn _ k4))
    | (go_at_call 16; have mk := hs3; clear mk; refine (same_any a3 a1 l l n n cap3 cap1 _ hs3 hsl3a).mono ?_; rintro e w7 ⟨rfl, k3, rfl⟩; have B6 := nextB B5 (below_dn _ k3); have hsl3 := hsl3a.below (below_dn _ k3))
    | (go_at_call 16; refine (same_any a2 a1 l l n n cap2 cap1 _ hs2 hsl2a).mono ?_; rintro e w5 ⟨rfl, k2, rfl⟩; have B4 := nextB B3 (below_dn _ k2); have hsl2 := hsl2a.below (below_dn _ k2))
    | (go_at_call 13; refine (wakes_any _).mono ?_; rintro e w12 ⟨rfl, hb6⟩; have B11 := nextB B10 hb6))
  go_ret
  exact ⟨rfl, B11⟩
end Go.Proofs.Ytkdclhgfhddphaa
