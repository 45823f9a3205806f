/- The contracts of packet's readWord, readWords and hasForm. Conditions: as each theorem states them. -/
import Derived.Test.YtbllhjhlkngchaaPktMath2
import Derived.Test.YtbllhjhlkngchaaPktBox
namespace Go.Proofs.Ytbllhjhlkngchaa
open Go.RowKit
set_option linter.unusedVariables false

theorem B.Sl.at {w : World} {a : Option Addr} {n cap : Nat} {l : List Int} (h : B.Sl w a n cap l) {k : Nat} (hk : k < n) : ∃ b o, a = some ⟨b, o, none⟩ ∧ b < w.heap.size ∧ w.cell? ⟨b, o + k, none⟩ = some (.int .u8 (l[k]?.getD 0)) := by
  have hl := h.len
  rcases h.row with rfl | ⟨b, o, e, hc⟩
  · simp at hl; omega
  · exact ⟨b, o, e, World.block_lt_of_cell? w _ (hc k (by omega)), hc k (by omega)⟩
/-- A piece of a slice of bytes. -/
theorem B.Sl.part {w : World} {b o n cap : Nat} {l : List Int} (h : B.Sl w (some ⟨b, o, none⟩) n cap l) (i j : Nat) (hij : i ≤ j) (hj : j ≤ n) : B.Sl w (some ⟨b, o + i, none⟩) (j - i) (cap - i) ((l.drop i).take (j - i)) := by
  have hl := h.len
  have hle := h.le
  refine ⟨by simp; omega, by omega, Nat.le_trans (Nat.sub_le _ _) h.max, fun e => (by cases e), B.B8_take (B.B8_drop h.b8 i) _, ?_⟩
  by_cases h0 : j - i = 0
  · left; simp [h0]
  · right
    refine ⟨b, o + i, rfl, fun k hk => ?_⟩
    have hk' : k < j - i := by simp at hk; omega
    obtain ⟨b', o', e, _, hc⟩ := h.at (k := i + k) (by omega)
    simp at e
    obtain ⟨rfl, rfl⟩ := e
    rw [Nat.add_assoc, hc]
    congr 2
    rw [List.getElem?_take_of_lt hk', List.getElem?_drop]
set_option maxHeartbeats 400000 in
theorem readWord_any (a : Option Addr) (l : List Int) (n cap : Nat) (w : World) (hsl : B.Sl w a n cap l) :
    Calls Try.prog 48 #[.slice a n cap] w fun e w' => e = .returned (.int .i64 (wordOf l)) ∧ w = w' := by
  have HL : Hid (l.length = n) := hsl.len
  have hm := Nat.le_trans hsl.le hsl.max
  have h8 := hsl.b8
  unfold maxLen at hm
  go_enter Try.func48, Try.ntmps48
  go_wp2
  go_loop [3, 8] (fun r i => ∃ k : Nat, k ≤ n ∧ i = .int .i64 k ∧ r = .int .u64 (rdN (l.take k))) (fun _ i => n - (intOf i).toNat)
  case atStart => exact ⟨0, by omega, rfl, rfl⟩
  case round =>
    obtain ⟨k, hk, rfl, rfl⟩ := hrel
    obtain ⟨b0, b1⟩ := rdN_bd (B.B8_take h8 k)
    by_cases hlt : k < n
    · have HS : Hid (rdN (l.take (k + 1)) = rdStep (rdN (l.take k)) (l[k]?.getD 0)) := rdN_take l k (by have := HL.out; omega)
      obtain ⟨b, o, rfl, _, hck⟩ := hsl.at hlt
      obtain ⟨x0, x1⟩ := B.B8_get h8 k
      generalize l[k]?.getD 0 = x at *
      generalize rdN (l.take k) = d at *
      go_wp2
      go_round
      case rel => exact ⟨k + 1, by omega, by go_num, by rw [HS.out]; rfl⟩
      case measure => simp [intOf]; omega
    · go_wp2
      go_ret
      exact ⟨ret_int (by rw [List.take_of_length_le (by have := HL.out; omega)]; exact (IntWalk.i64_left _).symm), rfl⟩

def fillW (l : List Int) (m k : Nat) : List Int := wordsN l k ++ List.replicate (m - k) 0
theorem fillW_len (l : List Int) (m k : Nat) (h : k ≤ m) : (fillW l m k).length = m := by simp [fillW, wordsN_len]; omega
theorem fillW_zero (l : List Int) (m : Nat) : fillW l m 0 = List.replicate m 0 := by simp [fillW, wordsN]
theorem fillW_full (l : List Int) (m : Nat) : fillW l m m = wordsN l m := by simp [fillW]
theorem fillW_set (l : List Int) (m k : Nat) (h : k < m) : (fillW l m k).set k (wordOf ((l.drop (8 * k)).take 8)) = fillW l m (k + 1) := by
  unfold fillW
  rw [wordsN_succ, List.set_append_right _ _ (by simp [wordsN_len]), wordsN_len, Nat.sub_self, show m - k = (m - (k + 1)) + 1 by omega, List.replicate_succ, List.set_cons_zero, List.append_assoc]
  rfl
theorem icells_set (l : List Int) (j : Nat) (x : Int) : (cells l).set j (.int .i64 x) = cells (l.set j x) := by simp [cells, List.map_set]
theorem imade_own (w : World) (base n : Nat) (hb : base ≤ w.heap.size) (hn : n ≤ 1000) : Own (w.alloc (.cells (madeCells #[.int .i64 0] n) 3)) base (.slice (some ⟨w.heap.size, 0, none⟩) n n) (List.replicate n 0) := by
  have h := World.ownsRow_lit (base := base) (e := 3) (size := 1) w (madeCells #[.int .i64 0] n) n hb (by unfold maxLen; omega) (by simp [madeCells])
  rw [toList_madeCells_one] at h
  simpa [cells, Own] using h

set_option maxHeartbeats 1000000 in
theorem readWords_any (a : Option Addr) (l : List Int) (n cap m : Nat) (w : World) (hsl : B.Sl w a n cap l) (hm : n / 8 = m) (hm1 : m ≤ 255) (hn : n ≤ 3000) :
    Calls Try.prog 46 #[.slice a n cap] w fun e w' => ∃ v, e = .returned v ∧ Own w' w.heap.size v (wordsN l m) ∧ Below w.heap.size w w' := by
  have hle := hsl.le
  have hmx := hsl.max
  unfold maxLen at hmx
  have hd : (n : Int) / 8 = (m : Int) := by omega
  have h8m : 8 * m ≤ n := by omega
  have hmk : ∀ w : World, (Instr.makeSlice 22 (.int .i64 (m : Int)) (.int .i64 (m : Int))).run Try.prog w = .ok (.slice (some ⟨w.heap.size, 0, none⟩) m m) (w.alloc (.cells (madeCells #[.int .i64 0] m) 3)) := fun w => run_make_row' (P := Try.prog) 22 3 (.int .i64 0) 8 Try.underlying22 Try.infoInt rfl .i64 .i64 m (by omega) (by omega) w
  have hmo := imade_own w w.heap.size m (Nat.le_refl _) (by omega)
  have hmb : Below w.heap.size w (w.alloc (.cells (madeCells #[.int .i64 0] m) 3)) := ba (Below.refl _ _)
  have hn0 : (0 : Int) ≤ (n : Int) := by omega
  clear hm
  go_enter Try.func46, Try.ntmps46
  go_wp2
  generalize w.alloc (.cells (madeCells #[.int .i64 0] m) 3) = W at *
  clear hmk hd
  go_loopw [11] (fun i wr => ∃ k : Nat, k ≤ m ∧ i = .int .i64 k ∧ Own wr w.heap.size (.slice (some ⟨w.heap.size, 0, none⟩) m m) (fillW l m k) ∧ Below w.heap.size w wr) (fun i _ => m - (intOf i).toNat)
  case atStart => exact ⟨0, by omega, rfl, by rw [fillW_zero]; exact hmo, hmb⟩
  case round =>
    clear hmo hmb
    obtain ⟨k, hk, rfl, hown, hb⟩ := hrel
    by_cases hlt : k < m
    · have HS : Hid ((fillW l m k).set k (wordOf ((l.drop (8 * k)).take 8)) = fillW l m (k + 1)) := fillW_set l m k hlt
      have HL : Hid ((fillW l m k).length = m) := fillW_len l m k hk
      have HL1 : Hid ((fillW l m (k + 1)).length = m) := fillW_len l m (k + 1) (by omega)
      have hrow : wr.ownsRow w.heap.size 3 1 (.slice (some ⟨w.heap.size, 0, none⟩) m m) m (cells (fillW l m k)) := by have := hown; unfold Own at this; rw [HL.out] at this; exact this
      obtain ⟨b, o, rfl, _, _⟩ := hsl.at (k := 8 * k) (by omega)
      have hpart := (hsl.below hb).part (8 * k) (8 * (k + 1)) (by omega) (by omega)
      obtain ⟨q, hq⟩ : ∃ q, wordOf ((l.drop (8 * k)).take 8) = q := ⟨_, rfl⟩
      have HQ : Hid (wordOf ((l.drop (8 * k)).take (8 * (k + 1) - 8 * k)) = q) := by show _ = _; rw [show 8 * (k + 1) - 8 * k = 8 by omega]; exact hq
      rw [hq] at HS
      have hcell := hrow.cellAt k (by omega)
      have hcell' : (cells (fillW l m k))[k]? = some (.int .i64 ((fillW l m k)[k]?.getD 0)) := by have := HL.out; simp [cells, show k < (fillW l m k).length by omega]
      rw [hcell'] at hcell
      have hfz := hrow.frozenAt k
      have hst := (hrow.stored k (.int .i64 q)).1
      rw [icells_set, HS.out] at hst
      have hz : Below w.heap.size w (wr.setCell ⟨w.heap.size, k, none⟩ (.int .i64 q)) := hb.setCell (by simp) _
      have k0 : (0 : Int) ≤ (k : Int) := by omega
      have k1 : (k : Int) < (m : Int) := by omega
      clear hcell' hrow hown hq
      generalize (fillW l m k)[k]?.getD 0 = old at *
      go_wp2_with (go_at_call 48; refine (readWord_any _ _ _ _ _ hpart).mono ?_; rintro e w2 ⟨rfl, rfl⟩; rw [HQ.out])
      go_roundw
      case rel => exact ⟨k + 1, by omega, by go_num, by unfold Own; rw [HL1.out]; exact hst, hz⟩
      case measure => simp [intOf]; omega
    · obtain rfl : k = m := by omega
      go_wp2
      go_ret
      exact ⟨_, rfl, by rw [← fillW_full]; exact hown, hb⟩

set_option maxHeartbeats 1000000 in
theorem hasForm_any (a : Option Addr) (l : List Int) (n cap : Nat) (w : World) (hsl : B.Sl w a n cap l) :
    Calls Try.prog 40 #[.slice a n cap] w fun e w' => e = .returned (.bool (formB l)) ∧ ∃ k, w' = w.drewN k := by
  have HL : Hid (l.length = n) := hsl.len
  have hle := hsl.le
  have hmx := hsl.max
  unfold maxLen at hmx
  by_cases h10 : n < 10
  · have HF : Hid (formB l = false) := by show _ = _; unfold formB; rw [HL.out]; simp; omega
    go_enter Try.func40, Try.ntmps40
    go_wp2
    go_ret
    exact ⟨ret_bool HF.out.symm, 0, rfl⟩
  · obtain ⟨b, o, rfl, _, c8⟩ := hsl.at (k := 8) (by omega)
    obtain ⟨b', o', e, _, c9⟩ := hsl.at (k := 9) (by omega)
    simp at e
    obtain ⟨rfl, rfl⟩ := e
    have HF : Hid (formB l = (decide (l[8]?.getD 0 ≤ 1) && decide ((n : Int) = 10 + 8 * l[9]?.getD 0))) := by show _ = _; unfold formB; rw [HL.out, decide_eq_true (show 10 ≤ n by omega)]; rfl
    obtain ⟨x0, x1⟩ := B.B8_get hsl.b8 8
    obtain ⟨y0, y1⟩ := B.B8_get hsl.b8 9
    generalize l[8]?.getD 0 = x at *
    generalize l[9]?.getD 0 = y at *
    have hn8 : (8 : Int) < (n : Int) := by omega
    have hn9 : (9 : Int) < (n : Int) := by omega
    by_cases hx : x ≤ 1
    · have hx' : decide (x ≤ 1) = true := decide_eq_true hx
      go_enter Try.func40, Try.ntmps40
      go_wp2_with fail
      go_quiet (fail)
      go_wp2
      go_ret
      exact ⟨ret_bool (by rw [HF.out, hx', Bool.true_and]; exact Bool.eq_iff_iff.2 (by simp)), _, rfl⟩
    · have hx' : decide (x ≤ 1) = false := decide_eq_false hx
      go_enter Try.func40, Try.ntmps40
      go_wp2_with fail
      go_quiet (fail)
      go_wp2
      go_ret
      exact ⟨ret_bool (by rw [HF.out, hx']; rfl), _, rfl⟩
end Go.Proofs.Ytbllhjhlkngchaa
