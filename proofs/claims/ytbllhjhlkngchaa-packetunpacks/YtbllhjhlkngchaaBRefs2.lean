/- The contracts of the document's Spoil and Open, and of the helps Lend and Intact. Conditions: as each theorem states them. -/
import Derived.Test.YtbllhjhlkngchaaBRefs
namespace Go.Proofs.Ytbllhjhlkngchaa.B
open Go.RowKit
set_option linter.unusedVariables false

/-! ### Spoil -/
theorem mdig_and {m : Nat} (hm : m < 65536) (i : Nat) : bits .and .u16 ((m : Int) / 2 ^ (15 - i)) 1 = ((m / 2 ^ (15 - i) % 2 : Nat) : Int) := by
  have e1 : ((m : Int) / 2 ^ (15 - i)) = ((m / 2 ^ (15 - i) : Nat) : Int) := by simp
  have hle : m / 2 ^ (15 - i) ≤ m := Nat.div_le_self _ _
  rw [e1, show (1 : Int) = ((1 : Nat) : Int) from rfl, u16_and_nat _ 1 (by omega) (by decide), Nat.and_one_is_mod]
theorem turnI_form {x mask : Int} (hm0 : 0 ≤ mask) (hm1 : mask < 65536) (t i : Nat) : turnI x mask t i = bits .xor .u8 x (IntKind.u8.wrap (bits .and .u16 (mask / 2 ^ (15 - i)) 1 * 2 ^ (7 - t % 8))) := by
  obtain ⟨m, rfl⟩ := Int.eq_ofNat_of_zero_le hm0
  have e1 : ((m : Int) / 2 ^ (15 - i) % 256) = ((m / 2 ^ (15 - i) % 256 : Nat) : Int) := by simp
  have e2 : bits .and .u8 ((m : Int) / 2 ^ (15 - i) % 256) 1 = ((m / 2 ^ (15 - i) % 2 : Nat) : Int) := by
    rw [e1, show (1 : Int) = ((1 : Nat) : Int) from rfl, u8_and_nat _ 1 (by omega) (by decide), Nat.and_one_is_mod]
    congr 1; omega
  unfold turnI
  rw [e2, mdig_and (by omega)]
theorem sp_zero {l : List Int} {bit mask : Int} {i : Nat} (h8 : B8 l) (hm0 : 0 ≤ mask) (hm1 : mask < 65536) (h : (bits .and .u16 (mask / 2 ^ (15 - i)) 1 == 0) = true) : spStep l bit mask i = l := by
  refine digs_ext (spStep_b8 h8 _ _ _) h8 (spStep_len ..) fun k hk => ?_
  rw [spStep_len] at hk
  rw [spStep_dig h8 hm0 hm1 i k hk]
  obtain ⟨m, rfl⟩ := Int.eq_ofNat_of_zero_le hm0
  rw [mdig_and (by omega)] at h
  have : mdig (m : Int) i = false := by
    unfold mdig; rw [Int.toNat_natCast, Nat.testBit_eq_decide_div_mod_eq]
    have h' : m / 2 ^ (15 - i) % 2 = 0 := by
      rcases Nat.mod_two_eq_zero_or_one (m / 2 ^ (15 - i)) with e | e
      · exact e
      · rw [e] at h; exact absurd h (by decide)
    rw [h']; rfl
  rw [this, Bool.and_false, Bool.xor_false]
theorem pow_seven (r : Nat) (hr : r < 8) : ((1 : Int) * 2 ^ (7 - r)) = 128 / 2 ^ r := by
  match r, hr with
  | 0, _ | 1, _ | 2, _ | 3, _ | 4, _ | 5, _ | 6, _ | 7, _ => decide
theorem sp_one {x mask : Int} {t i : Nat} (hm0 : 0 ≤ mask) (hm1 : mask < 65536) (h : (bits .and .u16 (mask / 2 ^ (15 - i)) 1 == 0) = false) : turnI x mask t i = bits .xor .u8 x (128 / 2 ^ (t % 8)) := by
  rw [turnI_form hm0 hm1]
  obtain ⟨m, rfl⟩ := Int.eq_ofNat_of_zero_le hm0
  rw [mdig_and (by omega)] at h ⊢
  have e : m / 2 ^ (15 - i) % 2 = 1 := by
    rcases Nat.mod_two_eq_zero_or_one (m / 2 ^ (15 - i)) with h' | h'
    · rw [h'] at h; simp at h
    · exact h'
  rw [e]
  congr 1
  have p := pow_seven (t % 8) (by omega)
  rw [show (((1 : Nat) : Int)) = 1 from rfl, p, IntKind.wrap_u8']
  generalize hr : t % 8 = r
  have hr8 : r < 8 := by omega
  match r, hr8 with
  | 0, _ | 1, _ | 2, _ | 3, _ | 4, _ | 5, _ | 6, _ | 7, _ => decide

set_option maxHeartbeats 2000000 in
theorem refSpoil_any (a : Option Addr) (l : List Int) (n cap : Nat) (bit mask : Int) (w : World) (hsl : Sl w a n cap l) (hn : n ≤ 140737488351300) (hm0 : 0 ≤ mask) (hm1 : mask < 65536) :
    Calls Try.prog 31 #[.slice a n cap, .int .i64 bit, .int .u16 mask] w fun e w' => ∃ v, e = .returned v ∧ Own w' w.heap.size v (spoilI l bit mask) ∧ Below w.heap.size w w' := by
  have hl := hsl.len
  obtain ⟨i0, hi, hz0, hz1, hz2⟩ := info_parts Try.info5
  have hm : n ≤ maxLen := Nat.le_trans hsl.le hsl.max
  go_enter Try.func31, Try.ntmps31
  go_upto_region 1 with fail
  go_cut [7] (fun v wx => Own wx w.heap.size v l ∧ Below w.heap.size w wx)
  case first =>
    cases a with
    | none =>
      obtain ⟨rfl, rfl⟩ := hsl.none0 rfl
      obtain rfl : l = [] := List.eq_nil_of_length_eq_zero hl
      go_wp2_with (at_builtin; refine wpList_append_own_none rfl _ _ 27 rfl w.heap.size 5 i0 1 Try.underlying27 hi _ 0 [] rfl (World.ownsRow_nil _ _ _ _) rfl ?_)
      go_meet
      case rel => exact ⟨⟨World.ownsRow_nil _ _ _ _, hsl.b8⟩, Below.refl _ _⟩
    | some x =>
      go_wp2_with (at_builtin; refine wpList_append_own _ rfl _ _ 27 rfl w.heap.size 5 i0 (.int .u8 0) 1 1 Try.underlying27 hi hz0 hz1 hz2 rfl (by decide) _ 0 [] rfl (World.ownsRow_nil _ _ _ _) x n cap (cells l) rfl (by simp [cells, hl]) hsl.row.cellsAt (cells_one l) (by omega) (by omega) (Nat.le_refl _) ?_; intro v' w1 hown hgrow _)
      go_meet
      case rel => exact ⟨⟨by simpa [hl] using hown, hsl.b8⟩, (Below.refl _ _).grown hgrow (Nat.le_refl _) (by intro k hk; simp [Value.ownBlock, Act.eval] at hk)⟩
  case rest =>
    obtain ⟨hown, hb⟩ := hcut
    rename_i v7
    obtain ⟨av, cv, ev, hsv⟩ := hown.sl' hl
    subst ev
    go_wp2_with fail
    go_loopw [8] (fun i wr => ∃ k : Nat, k ≤ 16 ∧ i = .int .i64 k ∧ Own wr w.heap.size (.slice av n cv) (spN l bit mask k) ∧ Below w.heap.size w wr) (fun i _ => 16 - (intOf i).toNat)
    case atStart => exact ⟨0, by omega, rfl, hown, hb⟩
    case round =>
      obtain ⟨k, hk, rfl, hown1, hb1⟩ := hrel
      clear hown hb hsv hi hz0 hz1 hz2
      have hlk := spN_len l bit mask k
      by_cases hlt : k < 16
      · have HS : Hid (spN l bit mask (k + 1) = spStep (spN l bit mask k) bit mask k) := spN_succ l bit mask k
        have hb8 := spN_b8 hsl.b8 bit mask k
        by_cases hd : (bits .and .u16 (mask / 2 ^ (15 - k)) 1 == 0) = true
        · have HQ : Hid (spStep (spN l bit mask k) bit mask k = spN l bit mask k) := sp_zero hb8 hm0 hm1 hd
          go_wp2
          go_roundw
          case rel => exact ⟨k + 1, by omega, by go_num, by rw [HS.out, HQ.out]; exact hown1, hb1⟩
          case measure => simp [intOf]; omega
        have hd' : (bits .and .u16 (mask / 2 ^ (15 - k)) 1 == 0) = false := by simpa using hd
        clear hd
        by_cases h2 : 8 * (n : Int) < bit
        · have HQ : Hid (spStep (spN l bit mask k) bit mask k = spN l bit mask k) := spStep_out (.inr (by omega))
          go_wp2
          go_roundw
          case rel => exact ⟨k + 1, by omega, by go_num, by rw [HS.out, HQ.out]; exact hown1, hb1⟩
          case measure => simp [intOf]; omega
        by_cases h1 : bit < -16
        · have HQ : Hid (spStep (spN l bit mask k) bit mask k = spN l bit mask k) := spStep_out (.inl (by omega))
          go_wp2
          go_roundw
          case rel => exact ⟨k + 1, by omega, by go_num, by rw [HS.out, HQ.out]; exact hown1, hb1⟩
          case measure => simp [intOf]; omega
        by_cases hin : bit + k < 0
        · have HQ : Hid (spStep (spN l bit mask k) bit mask k = spN l bit mask k) := spStep_out (.inl hin)
          go_wp2
          go_roundw
          case rel => exact ⟨k + 1, by omega, by go_num, by rw [HS.out, HQ.out]; exact hown1, hb1⟩
          case measure => simp [intOf]; omega
        by_cases hin2 : 8 * (n : Int) ≤ bit + k
        · have HQ : Hid (spStep (spN l bit mask k) bit mask k = spN l bit mask k) := spStep_out (.inr (by omega))
          go_wp2
          go_roundw
          case rel => exact ⟨k + 1, by omega, by go_num, by rw [HS.out, HQ.out]; exact hown1, hb1⟩
          case measure => simp [intOf]; omega
        obtain ⟨t, ht⟩ : ∃ t : Nat, bit + (k : Int) = (t : Int) := ⟨(bit + k).toNat, by omega⟩
        have HQ : Hid (spStep (spN l bit mask k) bit mask k = (spN l bit mask k).set (t / 8) (turnI ((spN l bit mask k)[t / 8]?.getD 0) mask t k)) := spStep_in ht (by omega)
        have HT : Hid (∀ x, turnI x mask t k = bits .xor .u8 x (128 / 2 ^ (t % 8))) := fun x => sp_one hm0 hm1 hd'
        obtain ⟨g, cp, eg, hbg, hrow⟩ := own_some hown1 (hlk.trans hl) (by omega)
        simp at eg
        obtain ⟨rfl, rfl⟩ := eg
        have ht8 : t / 8 < n := by omega
        have hcell := hrow.cellAt (t / 8) (by omega)
        have hcell' : (cells (spN l bit mask k))[t / 8]? = some (.int .u8 ((spN l bit mask k)[t / 8]?.getD 0)) := by simp [cells, show t / 8 < (spN l bit mask k).length by omega]
        rw [hcell'] at hcell
        have hfz := hrow.frozenAt (t / 8)
        have hst := (hrow.stored (t / 8) (.int .u8 (bits .xor .u8 ((spN l bit mask k)[t / 8]?.getD 0) (128 / 2 ^ (t % 8)))))
        rw [cells_set] at hst
        have hbl : spN l bit mask (k + 1) = (spN l bit mask k).set (t / 8) (bits .xor .u8 ((spN l bit mask k)[t / 8]?.getD 0) (128 / 2 ^ (t % 8))) := by rw [← HT.out]; exact HS.out.trans HQ.out
        have HR : Hid (Own (wr.setCell ⟨g, t / 8, none⟩ (.int .u8 (bits .xor .u8 ((spN l bit mask k)[t / 8]?.getD 0) (128 / 2 ^ (t % 8))))) w.heap.size (.slice (some ⟨g, 0, none⟩) n cv) (spN l bit mask (k + 1)) ∧ Below w.heap.size w (wr.setCell ⟨g, t / 8, none⟩ (.int .u8 (bits .xor .u8 ((spN l bit mask k)[t / 8]?.getD 0) (128 / 2 ^ (t % 8)))))) := by
          refine ⟨⟨?_, spN_b8 hsl.b8 bit mask (k + 1)⟩, hb1.setCell hbg _⟩
          rw [spN_len, hl, hbl]; exact hst.1
        generalize (spN l bit mask k)[t / 8]?.getD 0 = x at *
        clear hst hbl HS HQ HT hcell' hown1 hrow hlk hb8
        have q0 : (0 : Int) ≤ (t : Int) := by omega
        have q1 : ((t : Int) : Int) < 8 * (n : Int) := by omega
        clear hin hin2
        obtain ⟨q, r, hdv, hmv, hr, hq⟩ : ∃ q r : Nat, (t : Int) / 8 = (q : Int) ∧ (t : Int) % 8 = (r : Int) ∧ r = t % 8 ∧ q = t / 8 := ⟨t / 8, t % 8, by omega, by omega, rfl, rfl⟩
        rw [← hq] at hcell hfz HR
        rw [← hr] at HR
        have q2 : (0 : Int) ≤ (q : Int) := by omega
        have q3 : (q : Int) < (n : Int) := by omega
        have q4 : (r : Int) < 8 := by omega
        have q5 : (0 : Int) ≤ (r : Int) := by omega
        clear hr hq ht8
        go_wp2
        go_roundw
        case rel => exact ⟨k + 1, by omega, by go_num, HR.out.1, HR.out.2⟩
        case measure => simp [intOf]; omega
      · obtain rfl : k = 16 := by omega
        go_wp2
        go_ret
        exact ⟨_, rfl, hown1, hb1⟩

/-! ### Lend, Intact -/
/-- Bytes that are lent: three more lie behind them, each 85. -/
def Lent (w : World) (base : Nat) (v : Value) (l : List Int) : Prop :=
  ∃ g, v = .slice (some ⟨g, 0, none⟩) l.length (l.length + 3) ∧ Own w base (.slice (some ⟨g, 0, none⟩) (l.length + 3) (l.length + 3)) (l ++ [85, 85, 85])
/-- The first n places are l's, those behind it up to k are 85, the others 0. -/
def lendN (l : List Int) (k : Nat) : List Int := l ++ (List.replicate (k - l.length) 85 ++ List.replicate (l.length + 3 - k) 0)
theorem lendN_len (l : List Int) (k : Nat) (h0 : l.length ≤ k) (h1 : k ≤ l.length + 3) : (lendN l k).length = l.length + 3 := by simp [lendN]; omega
theorem lendN_set (l : List Int) (k : Nat) (h0 : l.length ≤ k) (h1 : k < l.length + 3) : (lendN l k).set k 85 = lendN l (k + 1) := by
  obtain ⟨j, rfl⟩ : ∃ j, k = l.length + j := ⟨k - l.length, by omega⟩
  unfold lendN
  rw [show l.length + j - l.length = j by omega, show l.length + j + 1 - l.length = j + 1 by omega, show l.length + 3 - (l.length + j) = 3 - j by omega, show l.length + 3 - (l.length + j + 1) = 2 - j by omega]
  rw [List.set_append_right _ _ (by omega), show l.length + j - l.length = j by omega]
  have hj : j < 3 := by omega
  clear h0 h1
  match j, hj with
  | 0, _ | 1, _ | 2, _ => rfl
theorem lendN_b8 {l : List Int} (h : B8 l) (k : Nat) : B8 (lendN l k) := by
  refine B8_append h (B8_append ?_ ?_)
  · intro x hx; obtain ⟨_, rfl⟩ := List.mem_replicate.1 hx; omega
  · intro x hx; obtain ⟨_, rfl⟩ := List.mem_replicate.1 hx; omega
theorem lendN_end (l : List Int) : lendN l (l.length + 3) = l ++ [85, 85, 85] := by
  unfold lendN
  rw [show l.length + 3 - l.length = 3 by omega, Nat.sub_self]; rfl
theorem lendN_begin (l : List Int) : lendN l l.length = l ++ List.replicate 3 0 := by
  unfold lendN
  rw [Nat.sub_self, show l.length + 3 - l.length = 3 by omega]; rfl
theorem made_own3 (w : World) (base n : Nat) (hb : base ≤ w.heap.size) (hn : n ≤ 140737488351300) : (w.alloc (.cells (madeCells #[.int .u8 0] (n + 3)) 5)).heap[w.heap.size]? = some (.cells (cells (List.replicate (n + 3) 0)).toArray 5 (0, 0)) := by
  rw [heap_alloc_new]
  congr 2
  apply Array.ext'
  rw [toList_madeCells_one]
  simp [cells]

theorem own_of_block {w : World} {base g : Nat} {m : List Int} (h : w.heap[g]? = some (.cells (cells m).toArray 5 (0, 0))) (h8 : B8 m) (hm : m.length ≤ maxLen) (hb : base ≤ g) : Own w base (.slice (some ⟨g, 0, none⟩) m.length m.length) m :=
  ⟨⟨by simp [cells], Or.inr ⟨g, m.length, (cells m).toArray, rfl, hb, h, Nat.le_refl _, hm, by simp [cells], by rw [Nat.mul_one]; exact List.take_of_length_le (by simp [cells])⟩⟩, h8⟩
theorem lend_splice (l : List Int) : splice (cells (List.replicate (l.length + 3) 0)) 0 (cells l) = cells (lendN l l.length) := by
  rw [lendN_begin]
  unfold splice cells
  rw [List.take_zero, List.nil_append, Nat.zero_add, List.map_append]
  congr 1
  simp

set_option maxHeartbeats 1000000 in
theorem lend_any (a : Option Addr) (l : List Int) (n cap : Nat) (w : World) (hsl : Sl w a n cap l) (hn : n ≤ 140737488351300) :
    Calls Try.prog 27 #[.slice a n cap] w fun e w' => ∃ v, e = .returned v ∧ Lent w' w.heap.size v l ∧ Below w.heap.size w w' := by
  obtain ⟨i0, hi, hz0, hz1, hz2⟩ := info_parts Try.info5
  have hl := hsl.len
  have hmk : ∀ w : World, (Instr.makeSlice 27 (.int .i64 (n : Int)) (.int .i64 ((n : Int) + 3))).run Try.prog w = .ok (.slice (some ⟨w.heap.size, 0, none⟩) n (n + 3)) (w.alloc (.cells (madeCells #[.int .u8 0] (n + 3)) 5)) := by
    intro w
    have h := run_make (P := Try.prog) w 27 5 i0 (.int .u8 0) Try.underlying27 hi hz0 .i64 .i64 (n : Int) ((n : Int) + 3) (by omega) (by omega) (by rw [hz2]; omega) (by omega)
    rw [hz1, show ((n : Int) + 3).toNat = n + 3 by omega, Int.toNat_natCast, Nat.mul_one] at h
    exact h
  have H3 : Hid ((w.alloc (.cells (madeCells #[.int .u8 0] (n + 3)) 5)).heap[w.heap.size]? = some (.cells (cells (List.replicate (n + 3) 0)).toArray 5 (0, 0))) := made_own3 w w.heap.size n (Nat.le_refl _) hn
  have hbn : Below w.heap.size w (w.alloc (.cells (madeCells #[.int .u8 0] (n + 3)) 5)) := (Below.refl _ _).alloc (Nat.le_refl _) _
  go_enter Try.func27, Try.ntmps27
  go_wp2_with (refine wpList_copy_splice rfl (.tmp 12) (.tmp 13) 27 27 rfl 5 Try.underlying27 (by rw [hi]; simp [hz1]) _ _ _ _ _ _ rfl rfl w.heap.size 0 (cells (List.replicate (n + 3) 0)) 5 H3.out (cells l) (by simp [cells, hl]) (fun h => ⟨rfl, row_pos (hsl.row.below hbn) h⟩) (by simp [cells, hl]) (cells_one l) w.heap.size w hbn (Nat.le_refl _) ?_; intro w2 hg2 hb2)
  have ho : Own w2 w.heap.size (.slice (some ⟨w.heap.size, 0, none⟩) (n + 3) (n + 3)) (lendN l n) := by
    have := hg2.out
    subst hl
    rw [lend_splice] at this
    have h := own_of_block (base := w.heap.size) this (lendN_b8 hsl.b8 _) (by rw [lendN_len _ _ (Nat.le_refl _) (by omega)]; unfold maxLen; omega) (Nat.le_refl _)
    rw [lendN_len _ _ (Nat.le_refl _) (by omega)] at h
    exact h
  clear hg2 H3 hmk
  go_loopw [5] (fun i wr => ∃ k : Nat, n ≤ k ∧ k ≤ n + 3 ∧ i = .int .i64 k ∧ Own wr w.heap.size (.slice (some ⟨w.heap.size, 0, none⟩) (n + 3) (n + 3)) (lendN l k) ∧ Below w.heap.size w wr) (fun i _ => n + 3 - (intOf i).toNat)
  case atStart => exact ⟨n, Nat.le_refl _, by omega, rfl, ho, hb2⟩
  case round =>
    obtain ⟨k, hk0, hk, rfl, hown, hb⟩ := hrel
    clear ho hb2 hbn
    by_cases hlt : k < n + 3
    · have hlk : (lendN l k).length = n + 3 := by rw [lendN_len _ _ (by omega) (by omega), hl]
      have hrow := hown.1
      rw [hlk] at hrow
      have hfz := hrow.frozenAt k
      have hcell : ∃ u, wr.cell? ⟨w.heap.size, k, none⟩ = some u := ⟨_, (hrow.cellAt k (by omega)).trans (List.getElem?_eq_getElem (by simp [cells, hlk]; omega))⟩
      obtain ⟨u0, hcell⟩ := hcell
      have hst := hrow.stored k (.int .u8 85)
      rw [cells_set, lendN_set _ _ (by omega) (by omega)] at hst
      have HR : Hid (Own (wr.setCell ⟨w.heap.size, k, none⟩ (.int .u8 85)) w.heap.size (.slice (some ⟨w.heap.size, 0, none⟩) (n + 3) (n + 3)) (lendN l (k + 1)) ∧ Below w.heap.size w (wr.setCell ⟨w.heap.size, k, none⟩ (.int .u8 85))) := by
        refine ⟨⟨?_, lendN_b8 hsl.b8 _⟩, hb.setCell (Nat.le_refl _) _⟩
        rw [lendN_len _ _ (by omega) (by omega), hl]; exact hst.1
      clear hst hrow hown hlk hb hz0 hz1 hz2 hi
      have q0 : (0 : Int) ≤ (k : Int) := by omega
      have q1 : (k : Int) < (n : Int) + 3 := by omega
      go_wp2
      go_roundw
      case rel => exact ⟨k + 1, by omega, by omega, by go_num, HR.out.1, HR.out.2⟩
      case measure => simp [intOf]; omega
    · obtain rfl : k = n + 3 := by omega
      have HL : Hid (lendN l (n + 3) = l ++ [85, 85, 85]) := by show _ = _; subst hl; exact lendN_end l
      go_wp2
      go_ret
      refine ⟨_, rfl, ⟨w.heap.size, by subst hl; rfl, ?_⟩, hb⟩
      rw [hl, ← HL.out]; exact hown

set_option maxHeartbeats 1000000 in
theorem intact_any (a : Option Addr) (l : List Int) (g n cap : Nat) (w : World) (ho : Sl w (some ⟨g, 0, none⟩) (n + 3) (n + 3) (l ++ [85, 85, 85])) (hsl : Sl w a n cap l) (hn : n ≤ 140737488351300) :
    Calls Try.prog 30 #[.slice (some ⟨g, 0, none⟩) n (n + 3), .slice a n cap] w fun e w' => e = .returned (.bool true) ∧ ∃ k, w' = w.drewN k := by
  have hl := hsl.len
  obtain ⟨b1, o1, e1, c1⟩ := ho.row.some (by simp)
  obtain ⟨rfl, rfl⟩ : g = b1 ∧ 0 = o1 := by simpa using e1
  clear e1
  have d1 : ∀ k, k < n + 3 → w.cell? ⟨g, k, none⟩ = some (.int .u8 ((l ++ [85, 85, 85])[k]?.getD 0)) := fun k hk => by
    have := c1 k (by simp; omega)
    rwa [Nat.zero_add] at this
  clear c1
  go_enter Try.func30, Try.ntmps30
  go_wp2
  go_loopw [27] (fun i wr => ∃ k : Nat, k ≤ n + 3 ∧ i = .int .i64 k ∧ ∃ j, wr = w.drewN j) (fun i _ => n + 3 - (intOf i).toNat)
  case atStart => exact ⟨0, by omega, rfl, 0, rfl⟩
  case round =>
    obtain ⟨k, hk, rfl, j, rfl⟩ := hrel
    by_cases hlt : k < n
    · obtain ⟨b2, o2, e2, c2⟩ := hsl.row.some (by omega)
      subst e2
      have x1 := d1 k (by omega)
      have x2 := c2 k (by omega)
      rw [show (l ++ [85, 85, 85])[k]? = l[k]? from List.getElem?_append_left (by omega)] at x1
      clear d1 c2
      generalize l[k]?.getD 0 = x at *
      have q0 : (0 : Int) ≤ (k : Int) := by omega
      have q1 : (k : Int) < (n : Int) := by omega
      have q2 : (k : Int) < (n : Int) + 3 := by omega
      have q3 : decide ((k : Int) < (n : Int)) = true := by simpa using q1
      have q4 : decide ((n : Int) ≤ (k : Int)) = false := by simp; omega
      have q5 : decide (n ≤ k) = false := by simp; omega
      have q6 : decide (k < n) = true := by simp; omega
      go_wp2_with fail
      go_quiet (fail)
      go_wp2
      go_roundw
      case rel => exact ⟨k + 1, by omega, by go_num, _, rfl⟩
      case measure => simp [intOf]; omega
    by_cases hlt3 : k < n + 3
    · have x1 := d1 k hlt3
      have e85 : (l ++ [85, 85, 85])[k]?.getD 0 = 85 := by
        rw [List.getElem?_append_right (by omega)]
        obtain ⟨j, rfl⟩ : ∃ j, k = l.length + j := ⟨k - l.length, by omega⟩
        rw [show l.length + j - l.length = j by omega]
        have hj : j < 3 := by omega
        clear x1
        match j, hj with
        | 0, _ | 1, _ | 2, _ => rfl
      rw [e85] at x1
      clear d1 e85
      have q0 : (0 : Int) ≤ (k : Int) := by omega
      have q2 : (k : Int) < (n : Int) + 3 := by omega
      have q3 : decide ((k : Int) < (n : Int)) = false := by simp; omega
      have q4 : decide ((n : Int) ≤ (k : Int)) = true := by simp; omega
      have q5 : decide (n ≤ k) = true := by simp; omega
      have q6 : decide (k < n) = false := by simp; omega
      go_wp2_with fail
      go_quiet (fail)
      go_wp2
      go_roundw
      case rel => exact ⟨k + 1, by omega, by go_num, _, rfl⟩
      case measure => simp [intOf]; omega
    · go_wp2
      go_ret
      exact ⟨rfl, _, rfl⟩
end Go.Proofs.Ytbllhjhlkngchaa.B
