/- The contract of crc.Spoil: what it gives, in new memory; nothing that was there is written. Conditions: as each theorem states them. -/
import Derived.Test.YtkdclhgfhddphaaCrcSeal
namespace Go.Proofs.Ytkdclhgfhddphaa
open Go.RowKit
set_option linter.unusedVariables false

/-- The byte x, turned at the place t of its list by the digit i of the mask: as the walk spells it. -/
def turnI (x mask : Int) (t i : Nat) : Int := bits .xor .u8 x (IntKind.u8.wrap (bits .and .u8 (mask / 2 ^ (15 - i) % 256) 1 * 2 ^ (7 - t % 8)))
def spStep (l : List Int) (bit mask : Int) (i : Nat) : List Int :=
  if 0 ≤ bit + i ∧ bit + i < 8 * l.length then l.set ((bit + i).toNat / 8) (turnI (l[(bit + i).toNat / 8]?.getD 0) mask (bit + i).toNat i) else l
def spN (l : List Int) (bit mask : Int) (k : Nat) : List Int := (List.range k).foldl (fun l i => spStep l bit mask i) l
def spoilI (l : List Int) (bit mask : Int) : List Int := spN l bit mask 16

theorem spN_zero (l : List Int) (bit mask : Int) : spN l bit mask 0 = l := rfl
theorem spN_succ (l : List Int) (bit mask : Int) (k : Nat) : spN l bit mask (k + 1) = spStep (spN l bit mask k) bit mask k := by
  unfold spN; rw [List.range_succ, List.foldl_append]; rfl
theorem spStep_len (l : List Int) (bit mask : Int) (i : Nat) : (spStep l bit mask i).length = l.length := by
  unfold spStep; split <;> simp
theorem spN_len (l : List Int) (bit mask : Int) : ∀ k, (spN l bit mask k).length = l.length
  | 0 => rfl
  | k + 1 => by rw [spN_succ, spStep_len, spN_len l bit mask k]
theorem spStep_in {l : List Int} {bit mask : Int} {i t : Nat} (h : bit + i = t) (ht : t < 8 * l.length) : spStep l bit mask i = l.set (t / 8) (turnI (l[t / 8]?.getD 0) mask t i) := by
  unfold spStep; rw [if_pos (by omega)]; simp [h]
theorem spStep_out {l : List Int} {bit mask : Int} {i : Nat} (h : bit + i < 0 ∨ 8 * l.length ≤ bit + i) : spStep l bit mask i = l := by
  unfold spStep; rw [if_neg (by omega)]
theorem spN_out {l : List Int} {bit mask : Int} (h : bit ≤ -16 ∨ 8 * l.length ≤ bit) : ∀ k, k ≤ 16 → spN l bit mask k = l
  | 0, _ => rfl
  | k + 1, hk => by
    rw [spN_succ, spN_out h k (by omega), spStep_out (by omega)]
theorem xor8_bd {a b : Int} (ha0 : 0 ≤ a) (ha1 : a < 256) (hb0 : 0 ≤ b) (hb1 : b < 256) : 0 ≤ bits .xor .u8 a b ∧ bits .xor .u8 a b < 256 := by
  rw [u8_xor a b ha0 ha1 hb0 hb1]
  have : a.toNat ^^^ b.toNat < 2 ^ 8 := Nat.xor_lt_two_pow (by omega) (by omega)
  omega
theorem turnI_bd {x : Int} (hx : 0 ≤ x ∧ x < 256) (mask : Int) (t i : Nat) : 0 ≤ turnI x mask t i ∧ turnI x mask t i < 256 := by
  have h : ∀ n : Int, 0 ≤ IntKind.u8.wrap n ∧ IntKind.u8.wrap n < 256 := fun n => by rw [IntKind.wrap_u8']; omega
  exact xor8_bd hx.1 hx.2 (h _).1 (h _).2
theorem spStep_b8 {l : List Int} (h : B8 l) (bit mask : Int) (i : Nat) : B8 (spStep l bit mask i) := by
  unfold spStep
  split
  · intro y hy
    rcases List.mem_or_eq_of_mem_set hy with h' | rfl
    · exact h y h'
    · exact turnI_bd (B8_get h _) _ _ _
  · exact h
theorem spN_b8 {l : List Int} (h : B8 l) (bit mask : Int) : ∀ k, B8 (spN l bit mask k)
  | 0 => h
  | k + 1 => by rw [spN_succ]; exact spStep_b8 (spN_b8 h bit mask k) _ _ _
theorem cells_set (l : List Int) (j : Nat) (x : Int) : (cells l).set j (.int .u8 x) = cells (l.set j x) := by simp [cells, List.map_set]

theorem own_some {w : World} {base n : Nat} {v : Value} {l : List Int} (h : Own w base v l) (hn : l.length = n) (h0 : 0 < n) : ∃ g cap, v = .slice (some ⟨g, 0, none⟩) n cap ∧ base ≤ g ∧ w.ownsRow base 5 1 (.slice (some ⟨g, 0, none⟩) n cap) n (cells l) := by
  subst hn
  have hh := h.1
  rcases h.1.2 with ⟨_, h1⟩ | ⟨g, cap, cur, rfl, hb, _⟩
  · omega
  · exact ⟨g, cap, rfl, hb, hh⟩

theorem Row.some {w : World} {a : Option Addr} {l : List Int} (h : Row w a l) (h0 : 0 < l.length) : ∃ b o, a = Option.some ⟨b, o, none⟩ ∧ ∀ i, i < l.length → w.cell? ⟨b, o + i, none⟩ = Option.some (.int .u8 (l[i]?.getD 0)) := by
  rcases h with rfl | h
  · simp at h0
  · exact h
theorem wrap_small (n : Int) (h0 : -4611686018427387904 ≤ n) (h1 : n ≤ 4611686018427387904) : IntKind.i64.wrap n = n := by
  rw [IntKind.wrap_i64]; omega

set_option maxHeartbeats 1000000 in
theorem spoil_any (a : Option Addr) (l : List Int) (n cap : Nat) (bit mask : Int) (w : World) (hsl : Sl w a n cap l) (hn : n ≤ 1000000) (hm0 : 0 ≤ mask) (hm1 : mask < 65536) :
    Calls Try.prog 22 #[.slice a n cap, .int .i64 bit, .int .u16 mask] w fun e w' => ∃ v, e = .returned v ∧ Own w' w.heap.size v (spoilI l bit mask) ∧ Below w.heap.size w w' := by
  have hl := hsl.len
  by_cases h1 : bit ≤ -16
  · have HO : Hid (spoilI l bit mask = l) := spN_out (.inl h1) 16 (by omega)
    go_enter Try.func22, Try.ntmps22
    go_wp2_with (first
      | (go_at_call 26; refine (copyOf_any _ _ n cap _ hsl (by omega)).mono ?_; rintro e w2 ⟨v, rfl, hown, hb⟩))
    go_ret
    exact ⟨_, rfl, by rw [HO.out]; exact hown, hb⟩
  by_cases h2 : 8 * (n : Int) ≤ bit
  · have HO : Hid (spoilI l bit mask = l) := spN_out (.inr (by omega)) 16 (by omega)
    go_enter Try.func22, Try.ntmps22
    go_wp2_with (first
      | (go_at_call 26; refine (copyOf_any _ _ n cap _ hsl (by omega)).mono ?_; rintro e w2 ⟨v, rfl, hown, hb⟩))
    go_ret
    exact ⟨_, rfl, by rw [HO.out]; exact hown, hb⟩
  go_enter Try.func22, Try.ntmps22
  go_wp2_with (first
    | (go_at_call 26; refine (copyOf_any _ _ n cap _ hsl (by omega)).mono ?_; rintro e w2 ⟨v, rfl, hown, hb⟩))
  go_loopw [25] (fun i wr => ∃ k : Nat, k ≤ 16 ∧ i = .int .i64 k ∧ Own wr w.heap.size v (spN l bit mask k) ∧ Below w.heap.size w wr) (fun i _ => 16 - (intOf i).toNat)
  case atStart => exact ⟨0, by omega, rfl, hown, hb⟩
  case round =>
    obtain ⟨k, hk, rfl, hown1, hb1⟩ := hrel
    have hlk := spN_len l bit mask k
    by_cases hlt : k < 16
    · have HS : Hid (spN l bit mask (k + 1) = spStep (spN l bit mask k) bit mask k) := spN_succ l bit mask k
      by_cases hin : bit + k < 0
      · have HQ : Hid (spStep (spN l bit mask k) bit mask k = spN l bit mask k) := spStep_out (.inl hin)
        go_wp2
        go_roundw
        case rel => exact ⟨k + 1, by omega, by go_num, by rw [HS.out, HQ.out]; exact hown1, hb1⟩
        case measure => simp [intOf]; omega
      by_cases hin2 : 8 * (n : Int) ≤ bit + k
      · have HQ : Hid (spStep (spN l bit mask k) bit mask k = spN l bit mask k) := spStep_out (.inr (by omega))
        go_wp2
        go_roundw
        case rel => exact ⟨k + 1, by omega, by go_num, by rw [HS.out, HQ.out]; exact hown1, hb1⟩
        case measure => simp [intOf]; omega
      obtain ⟨t, ht⟩ : ∃ t : Nat, bit + (k : Int) = (t : Int) := ⟨(bit + k).toNat, by omega⟩
      have HQ : Hid (spStep (spN l bit mask k) bit mask k = (spN l bit mask k).set (t / 8) (turnI ((spN l bit mask k)[t / 8]?.getD 0) mask t k)) := spStep_in ht (by omega)
      obtain ⟨g, cp, rfl, hbg, hrow⟩ := own_some hown1 (hlk.trans hl) (by omega)
      have hb8 := spN_b8 hsl.b8 bit mask k
      have ht8 : t / 8 < n := by omega
      have hcell := hrow.cellAt (t / 8) (by omega)
      have hcell' : (cells (spN l bit mask k))[t / 8]? = some (.int .u8 ((spN l bit mask k)[t / 8]?.getD 0)) := by simp [cells, show t / 8 < (spN l bit mask k).length by omega]
      rw [hcell'] at hcell
      have hfz := hrow.frozenAt (t / 8)
      have hst := (hrow.stored (t / 8) (.int .u8 (turnI ((spN l bit mask k)[t / 8]?.getD 0) mask t k)))
      rw [cells_set] at hst
      have hbl : spN l bit mask (k + 1) = (spN l bit mask k).set (t / 8) (turnI ((spN l bit mask k)[t / 8]?.getD 0) mask t k) := HS.out.trans HQ.out
      have HR : Hid (Own (wr.setCell ⟨g, t / 8, none⟩ (.int .u8 (turnI ((spN l bit mask k)[t / 8]?.getD 0) mask t k))) w.heap.size (.slice (some ⟨g, 0, none⟩) n cp) (spN l bit mask (k + 1)) ∧ Below w.heap.size w (wr.setCell ⟨g, t / 8, none⟩ (.int .u8 (turnI ((spN l bit mask k)[t / 8]?.getD 0) mask t k)))) := by
        refine ⟨⟨?_, spN_b8 hsl.b8 bit mask (k + 1)⟩, hb1.setCell hbg _⟩
        rw [spN_len, hl, hbl]; exact hst.1
      generalize (spN l bit mask k)[t / 8]?.getD 0 = x at *
      clear hst hbl HS HQ hcell' hown1 hrow hlk hb8 hown hb
      have q0 : (0 : Int) ≤ (t : Int) := by omega
      have q1 : ((t : Int) : Int) < 8 * (n : Int) := by omega
      clear hin hin2 h1 h2
      obtain ⟨q, r, hdv, hmv, hr, hq⟩ : ∃ q r : Nat, (t : Int) / 8 = (q : Int) ∧ (t : Int) % 8 = (r : Int) ∧ r = t % 8 ∧ q = t / 8 := ⟨t / 8, t % 8, by omega, by omega, rfl, rfl⟩
      rw [← hq] at hcell hfz HR
      have q2 : (0 : Int) ≤ (q : Int) := by omega
      have q3 : (q : Int) < (n : Int) := by omega
      have q4 : (r : Int) < 8 := by omega
      have q5 : (0 : Int) ≤ (r : Int) := by omega
      have q6 : r < 8 := by omega
      have HH : Hid (r = t % 8) := hr
      clear hr hq ht8
      obtain ⟨sh, hsh, hsh8⟩ : ∃ sh : Nat, 7 - (r : Int) = (sh : Int) ∧ Hid (sh = 7 - t % 8) := ⟨7 - r, by omega, by show _ = _; rw [HH.out]⟩
      have f0 : IntKind.i64.wrap (q : Int) = (q : Int) := wrap_small _ (by omega) (by omega)
      have f1 : (t : Int).tdiv 8 = (q : Int) := by rw [Int.tdiv_eq_ediv_of_nonneg (by omega)]; exact hdv
      have f2 : (t : Int).tmod 8 = (r : Int) := by rw [Int.tmod_eq_emod_of_nonneg (by omega)]; exact hmv
      have f3 : IntKind.i64.wrap (sh : Int) = (sh : Int) := wrap_small _ (by omega) (by omega)
      have q7 : (0 : Int) ≤ (sh : Int) := by omega
      have q8 : (sh : Int) < 8 := by omega
      go_wp2_with fail
      have HT : Hid (turnI x mask t k = bits .xor .u8 x (IntKind.u8.wrap (bits .and .u8 (mask / 2 ^ (15 - k) % 256) 1 * 2 ^ sh))) := by
        show _ = _
        unfold turnI; rw [hsh8.out]
      go_region
      go_wp2
      go_roundw
      case rel => exact ⟨k + 1, by omega, by go_num, by have := HR.out.1; rw [HT.out] at this; exact ⟨this.1.drew, this.2⟩, by have := HR.out.2; rw [HT.out] at this; exact this.drew⟩
      case measure => simp [intOf]; omega
    · obtain rfl : k = 16 := by omega
      go_wp2
      go_ret
      exact ⟨_, rfl, hown1, hb1⟩
end Go.Proofs.Ytkdclhgfhddphaa
