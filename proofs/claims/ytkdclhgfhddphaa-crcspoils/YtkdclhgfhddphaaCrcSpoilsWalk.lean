/- The walk of CrcSpoils: it answers true and writes nothing that was there. No condition but that the arguments are ones that can come in. -/
import Derived.Test.YtkdclhgfhddphaaCrcTurnsWalk
namespace Go.Proofs.Ytkdclhgfhddphaa
open Go.RowKit
set_option linter.unusedVariables false

theorem bit_x {x y : Int} (hx0 : 0 ≤ x) (hx1 : x < 256) (hy0 : 0 ≤ y) (hy1 : y < 256) (sh : Nat) : (bits .and .u8 (bits .xor .u8 x y / 2 ^ sh) 1 == 1) = (x.toNat.testBit sh ^^ y.toNat.testBit sh) := by
  obtain ⟨x, rfl⟩ := Int.eq_ofNat_of_zero_le hx0
  obtain ⟨y, rfl⟩ := Int.eq_ofNat_of_zero_le hy0
  have hlt : x ^^^ y < 2 ^ 8 := Nat.xor_lt_two_pow (by omega) (by omega)
  rw [u8_xor_nat x y (by omega) (by omega)]
  have e1 : (((x ^^^ y : Nat) : Int) / 2 ^ sh) = (((x ^^^ y) / 2 ^ sh : Nat) : Int) := by simp
  have hle : (x ^^^ y) / 2 ^ sh ≤ x ^^^ y := Nat.div_le_self _ _
  rw [e1, show (1 : Int) = ((1 : Nat) : Int) from rfl, u8_and_nat _ 1 (by omega) (by decide), Nat.and_one_is_mod, Int.toNat_natCast, Int.toNat_natCast, ← Nat.testBit_xor, Nat.testBit_eq_decide_div_mod_eq]
  rcases Nat.mod_two_eq_zero_or_one ((x ^^^ y) / 2 ^ sh) with h | h <;> rw [h] <;> decide
theorem bit_m {mask : Int} (hm0 : 0 ≤ mask) (hm1 : mask < 65536) (d : Int) (hd0 : 0 ≤ d) (hd1 : d < 16) : (bits .and .u16 (mask / 2 ^ (15 - d).toNat) 1 == 1) = mdig mask d.toNat := by
  obtain ⟨m, rfl⟩ := Int.eq_ofNat_of_zero_le hm0
  have e1 : ((m : Int) / 2 ^ (15 - d).toNat) = ((m / 2 ^ (15 - d).toNat : Nat) : Int) := by simp
  have hle : m / 2 ^ (15 - d).toNat ≤ m := Nat.div_le_self _ _
  unfold mdig
  rw [e1, show (1 : Int) = ((1 : Nat) : Int) from rfl, u16_and_nat _ 1 (by omega) (by decide), Nat.and_one_is_mod, Int.toNat_natCast, Nat.testBit_eq_decide_div_mod_eq, show (15 - d).toNat = 15 - d.toNat by omega]
  rcases Nat.mod_two_eq_zero_or_one (m / 2 ^ (15 - d.toNat)) with h | h <;> rw [h] <;> decide
theorem hit_in {bit mask : Int} {k : Nat} (h0 : bit ≤ k) (h1 : (k : Int) - bit < 16) : hit bit mask k = mdig mask (k - bit).toNat := by
  unfold hit; rw [decide_eq_true (by omega), Bool.true_and]
theorem hit_out {bit mask : Int} {k : Nat} (h : (k : Int) < bit ∨ 16 ≤ (k : Int) - bit) : hit bit mask k = false := by
  unfold hit; rw [decide_eq_false (by omega), Bool.false_and]

set_option maxHeartbeats 2000000 in
theorem crcSpoils_walk (a0 : Option Addr) (len0 cap0 : Nat) (l0 : List Int) (bit mask : Int) (w : World) (w0 : Sl w a0 len0 cap0 l0) (hm0 : 0 ≤ mask) (hm1 : mask < 65536) :
    Calls Try.prog 9 #[.slice a0 len0 cap0, .int .i64 bit, .int .u16 mask] w fun e w' => e = .returned (.bool true) ∧ Below w.heap.size w w' := by
  have hlen : (l0.take 40).length ≤ 40 := by simp; omega
  generalize hl : l0.take 40 = l at *
  have hb8 : B8 l := by rw [← hl]; exact B8_take w0.b8 40
  obtain ⟨n, hn⟩ : ∃ n, l.length = n := ⟨_, rfl⟩
  obtain ⟨N, hN⟩ : ∃ N : Int, 8 * (n : Int) + 24 = N := ⟨_, rfl⟩
  obtain ⟨bt, hbt⟩ : ∃ bt : Int, bit % N - 20 = bt := ⟨_, rfl⟩
  have hN1 : 1 ≤ N ∧ N ≤ 1000000 := by omega
  have hr0 : 0 ≤ bit % N := Int.emod_nonneg _ (by omega)
  have hr1 : bit % N < N := Int.emod_lt_of_pos _ (by omega)
  have hbt0 : -20 ≤ bt := by omega
  have hbt1 : bt ≤ 1000000 := by omega
  have HL : Hid ((spoilI l bt mask).length = n) := by show _ = _; rw [spoilI_len]; exact hn
  have HN : Hid (l.length = n) := hn
  have hn40 : n ≤ 40 := by omega
  clear hn
  go_enter Try.func9, Try.ntmps9
  go_wp2_with (first
    | (go_at_call 10; refine (cut_any a0 l0 len0 cap0 40 w w0 (by omega)).mono ?_; rintro e w1 ⟨v, rfl, hown, hb1⟩; rw [hl] at hown; obtain ⟨a1, cap1, rfl, hsl⟩ := hown.sl' HN.out; clear hown; have B1 := hb1; clear hb1)
    | (go_at_call 21; refine (within_any bit N _ hN1.1 hN1.2).mono ?_; rintro e w3 ⟨rfl, rfl⟩)
    | (go_at_call 22; refine (spoil_any a1 l n cap1 bt mask _ hsl (by omega) hm0 hm1).mono ?_; rintro e w3 ⟨vS, rfl, hownS, hbS⟩; obtain ⟨aS, capS, rfl, hsS⟩ := hownS.sl' HL.out; clear hownS; have B2 := nextB B1 hbS; have hslS := hsl.below hbS; clear hbS))
  clear hN hbt hr0 hr1 hN1 hsl
  go_loopw [8] (fun i wr => ∃ k : Nat, k ≤ 8 * n ∧ i = .int .i64 k ∧ ∃ j, wr = w3.drewN j) (fun i _ => 8 * n - (intOf i).toNat)
  case atStart => exact ⟨0, by omega, rfl, 0, rfl⟩
  case round =>
    obtain ⟨k, hk, rfl, j, rfl⟩ := hrel
    by_cases hlt : k < 8 * n
    · obtain ⟨q, r, hdv, hmv, hr, hq⟩ : ∃ q r : Nat, (k : Int) / 8 = (q : Int) ∧ (k : Int) % 8 = (r : Int) ∧ Hid (r = k % 8) ∧ Hid (q = k / 8) := ⟨k / 8, k % 8, by omega, by omega, rfl, rfl⟩
      have q2 : (0 : Int) ≤ (q : Int) := by omega
      have q3 : (q : Int) < (n : Int) := by omega
      have q4 : (r : Int) < 8 := by omega
      have q5 : (0 : Int) ≤ (r : Int) := by omega
      obtain ⟨sh, hsh, hsh8⟩ : ∃ sh : Nat, 7 - (r : Int) = (sh : Int) ∧ Hid (sh = 7 - r) := ⟨7 - r, by omega, rfl⟩
      have f0 : IntKind.i64.wrap (q : Int) = (q : Int) := wrap_small _ (by omega) (by omega)
      have f1 : (k : Int).tdiv 8 = (q : Int) := by rw [Int.tdiv_eq_ediv_of_nonneg (by omega)]; exact hdv
      have f2 : (k : Int).tmod 8 = (r : Int) := by rw [Int.tmod_eq_emod_of_nonneg (by omega)]; exact hmv
      have f3 : IntKind.i64.wrap (sh : Int) = (sh : Int) := wrap_small _ (by omega) (by omega)
      have q7 : (0 : Int) ≤ (sh : Int) := by omega
      have q8 : (sh : Int) < 8 := by omega
      have d := spoilI_dig (bit := bt) hb8 hm0 hm1 k (by rw [HN.out]; exact hlt)
      obtain ⟨b1, o1, e1, c1⟩ := hslS.row.some (by rw [HN.out]; omega)
      obtain ⟨b2, o2, e2, c2⟩ := hsS.row.some (by rw [HL.out]; omega)
      subst e1 e2
      have x1 := c1 q (by rw [HN.out]; omega)
      have x2 := c2 q (by rw [HL.out]; omega)
      clear c1 c2
      obtain ⟨x, hx⟩ : ∃ x, x = l[q]?.getD 0 := ⟨_, rfl⟩
      obtain ⟨y, hy⟩ : ∃ y, y = (spoilI l bt mask)[q]?.getD 0 := ⟨_, rfl⟩
      have bx := B8_get hb8 q
      have yb := B8_get (spoilI_b8 hb8 bt mask) q
      rw [← hx] at x1 bx
      rw [← hy] at x2 yb
      have HD : Hid ((bits .and .u8 (bits .xor .u8 x y / 2 ^ sh) 1 == 1) = hit bt mask k) := by
        show _ = _
        rw [bit_x bx.1 bx.2 yb.1 yb.2]
        unfold digAt at d
        rw [← hq.out, ← hr.out, ← hsh8.out, ← hx, ← hy] at d
        rw [d, ← Bool.xor_assoc, Bool.xor_self, Bool.false_xor]
      clear hx hy d
      go_wp2_with fail
      go_quiet (fail)
      go_wp2
      · exfalso
        have h1 : bt ≤ (k : Int) := by assumption
        have h2 : (k : Int) - bt < 16 := by assumption
        have h3 : (!(bits .and .u8 (bits .xor .u8 x y / 2 ^ sh) 1 == 1) == (bits .and .u16 (mask / 2 ^ (15 - ((k : Int) - bt)).toNat) 1 == 1)) = true := by assumption
        rw [HD.out, bit_m hm0 hm1 _ (by omega) h2, hit_in h1 h2] at h3
        cases hh : mdig mask ((k : Int) - bt).toNat <;> rw [hh] at h3 <;> exact absurd h3 (by decide)
      · go_roundw
        case rel => exact ⟨k + 1, by omega, by go_num, _, rfl⟩
        case measure => simp [intOf]; omega
      · exfalso
        have h3 : (bits .and .u8 (bits .xor .u8 x y / 2 ^ sh) 1 == 1) = true := by assumption
        rw [HD.out, hit_out (.inr (by assumption))] at h3
        cases h3
      · go_roundw
        case rel => exact ⟨k + 1, by omega, by go_num, _, rfl⟩
        case measure => simp [intOf]; omega
      · exfalso
        have h3 : (bits .and .u8 (bits .xor .u8 x y / 2 ^ sh) 1 == 1) = true := by assumption
        rw [HD.out, hit_out (.inl (by assumption))] at h3
        cases h3
      · go_roundw
        case rel => exact ⟨k + 1, by omega, by go_num, _, rfl⟩
        case measure => simp [intOf]; omega
    · go_wp2_with (go_at_call 13; refine (wakes_any _).mono ?_; rintro e w12 ⟨rfl, hb6⟩; have B11 := nextB (nextB B2 (below_dn _ j)) hb6)
      go_ret
      exact ⟨rfl, B11⟩
end Go.Proofs.Ytkdclhgfhddphaa
