/- The contracts of packet.appendWord, Pack and of the statements' wakes. Conditions: as each theorem states them. -/
import Derived.Test.YtbllhjhlkngchaaPktHead
namespace Go.Proofs.Ytbllhjhlkngchaa
open Go.RowKit
set_option linter.unusedVariables false

theorem cell_one' (w : World) (x : Int) : ∀ j u, (B.cells [x])[j]? = some u → (w.alloc (.cells #[.int .u8 x] 5)).cell? ((⟨w.heap.size, 0, none⟩ : Addr).add j) = some u := by
  intro j u hu
  obtain ⟨hj, rfl⟩ := B.cells_get hu
  rw [Addr.add_lit, Nat.zero_add, cell_of_row _ _ _ _ 5 (0, 0) (heap_alloc_new w _)]
  simp at hj
  match j, hj with
  | 0, _ => rfl

set_option maxHeartbeats 400000 in
theorem appendWord_any (v : Value) (l : List Int) (word : Int) (base : Nat) (w : World) (hown : B.Own w base v l) (hl : l.length ≤ 1000) (hb : base ≤ w.heap.size) :
    Calls Try.prog 33 #[v, .int .i64 word] w fun e w' => ∃ v', e = .returned v' ∧ B.Own w' base v' (l ++ wordI word) ∧ Below base w w' := by
  obtain ⟨i0, hi, hz0, hz1, hz2⟩ := info_parts B.Try.info5
  go_enter Try.func33, Try.ntmps33
  go_wp2
  go_loopw [0, 9] (fun b i wr => ∃ k : Nat, k ≤ 8 ∧ i = .int .i64 k ∧ B.Own wr base b (l ++ wordN word k) ∧ Below base w wr ∧ base ≤ wr.heap.size) (fun _ i _ => 8 - (intOf i).toNat)
  case atStart => exact ⟨0, by omega, rfl, by simpa [wordN] using hown, Below.refl _ _, hb⟩
  case round =>
    obtain ⟨k, hk, rfl, hown1, hb1, hz⟩ := hrel
    by_cases hlt : k < 8
    · have HS : Hid (wordN word (k + 1) = wordN word k ++ [wbyte word k]) := wordN_succ word k
      have hL : (l ++ wordN word k).length ≤ 1008 := by rw [List.length_append, wordN_len]; omega
      generalize hm : l ++ wordN word k = m at *
      have HM : Hid (l ++ wordN word k = m) := hm
      clear hm
      obtain ⟨a1, cap1, rfl, hsl1⟩ := hown1.sl
      have q : 0 ≤ IntKind.u64.wrap word := by rw [IntKind.wrap_u64]; omega
      go_wp2_with (at_builtin; refine wpList_append_own _ rfl (.tmp 12) (.tmp 19) 27 rfl base 5 i0 (.int .u8 0) 1 1 Try.underlying27 hi hz0 hz1 hz2 rfl (by decide) _ m.length (B.cells m) rfl (hown1.1.alloc _) ⟨_, 0, none⟩ 1 1 (B.cells [_]) rfl rfl (cell_one' _ _) (B.cells_one _) (by unfold maxLen; omega) (by omega) (by simp; omega) ?_; intro v3 w3 hown3 hg3 _)
      have z3 := hg3.size
      simp at z3
      have hb3 := (hb1.alloc hz (.cells #[.int .u8 (IntKind.u64.wrap word / 2 ^ (8 * (7 - k)) % 256)] 5)).grown hg3 (by simp; omega) (fun k hk => by have := (hown1.1.lt k hk).1; omega)
      go_roundw
      case rel =>
        refine ⟨k + 1, by omega, by go_num, ?_, hb3, by omega⟩
        rw [HS.out, ← List.append_assoc, HM.out]
        exact B.own_snoc hown3 hown1.2 (wbyte_bd word k).1 (wbyte_bd word k).2
      case measure => simp [intOf]; omega
    · obtain rfl : k = 8 := by omega
      go_wp2
      go_ret
      exact ⟨_, rfl, hown1, hb1⟩

theorem sealI_len (l : List Int) : (B.sealI l).length = l.length + 2 := by simp [B.sealI]
theorem Sl.at {w : World} {a : Option Addr} {n cap : Nat} {l : List Int} (h : Sl w a n cap l) {k : Nat} (hk : k < n) : ∃ b o, a = some ⟨b, o, none⟩ ∧ b < w.heap.size ∧ w.cell? ⟨b, o + k, none⟩ = some (.int .i64 (l[k]?.getD 0)) := by
  have hl := h.len
  rcases h.row with rfl | ⟨b, o, e, hc⟩
  · simp at hl; omega
  · exact ⟨b, o, e, World.block_lt_of_cell? w _ (hc k (by omega)), hc k (by omega)⟩

theorem B.Own.low {w : World} {base base' : Nat} {v : Value} {l : List Int} (h : B.Own w base v l) (hb : base' ≤ base) : B.Own w base' v l := by
  refine ⟨⟨h.1.1, h.1.2.imp id ?_⟩, h.2⟩
  rintro ⟨g, cap, cur, e, hg, rest⟩
  exact ⟨g, cap, cur, e, Nat.le_trans hb hg, rest⟩

set_option maxHeartbeats 1000000 in
/-- A packet that may be: its seal. -/
theorem pack_yes (x : Pk) (a : Option Addr) (n cap : Nat) (w : World) (hsl : Sl w a n cap x.z) (hr : x.right = true) :
    Calls Try.prog 12 #[x.val (.slice a n cap)] w fun e w' => ∃ v, e = .returned (.tuple #[v, .int .i64 0]) ∧ B.Own w' w.heap.size v (B.sealI (packI x)) ∧ Below w.heap.size w w' := by
  have HL : Hid (x.z.length = n) := hsl.len
  have hR := (Pk.right_iff x).1 hr
  have HE : Hid (x.err = 0) := Pk.err_t hr
  have hn4 : n ≤ 4 := by have := hR.z; have := HL.out; omega
  clear hr
  unfold Pk.val
  go_enter Try.func12, Try.ntmps12
  go_wp2_with (first
    | (go_at_call 16; refine (check_any x a n cap _ (hsl.below (ba (Below.refl _ _)))).mono ?_; rintro e w1 ⟨rfl, hb1⟩; rw [HE.out]; obtain ⟨hc1, hf1⟩ := bcell hb1)
    | (go_at_call 32; refine (head_any x a n cap _ (hsl.below (next (ba (Below.refl _ _)) hb1)) hR).mono ?_; rintro e w2 ⟨v2, rfl, hown2, hb2⟩; obtain ⟨hc2, hf2⟩ := bcell hb2; have z1 : w.heap.size < w1.heap.size := by have := hb1.size; simp at this; omega))
  have B1 : Below w.heap.size w w1 := next (ba (Below.refl _ _)) hb1
  have hs1 := hsl.below B1
  clear hc1 hf1 hc2 hf2 hb1
  go_loopw [5, 18] (fun b i wr => ∃ k : Nat, k ≤ n ∧ i = .int .i64 k ∧ B.Own wr w1.heap.size b (headI x ++ bodyI (x.z.take k)) ∧ Below w1.heap.size w1 wr) (fun _ i _ => n - (intOf i).toNat)
  case atStart => exact ⟨0, by omega, rfl, by simpa [bodyI] using hown2, hb2⟩
  case round =>
    clear hown2 hb2 z1
    obtain ⟨k, hk, rfl, hown3, hb3⟩ := hrel
    have hLen : (headI x ++ bodyI (x.z.take k)).length = 10 + 8 * k := by rw [List.length_append, headI_len, bodyI_len, List.length_take, HL.out]; omega
    by_cases hlt : k < n
    · have HS : Hid (bodyI (x.z.take (k + 1)) = bodyI (x.z.take k) ++ wordI (x.z[k]?.getD 0)) := bodyI_take _ _ (by have := HL.out; omega)
      obtain ⟨b, o, rfl, hbl, hcell⟩ := (hs1.below hb3).at hlt
      have hz := hb3.size
      generalize x.z[k]?.getD 0 = y at *
      go_wp2_with (go_at_call 33; refine (appendWord_any _ _ y w1.heap.size _ hown3 (by omega) hz).mono ?_; rintro e w4 ⟨v4, rfl, hown4, hb4⟩)
      go_roundw
      case rel => exact ⟨k + 1, by omega, by go_num, by rw [HS.out, ← List.append_assoc]; exact hown4, hb3.trans hb4⟩
      case measure => simp [intOf]; omega
    · obtain rfl : k = n := by omega
      have HT : Hid (x.z.take k = x.z) := List.take_of_length_le (by have := HL.out; omega)
      obtain ⟨a1, cap1, rfl, hsl3⟩ := hown3.sl' hLen
      go_wp2_with (go_at_call 14; refine (B.seal_any a1 _ _ cap1 _ hsl3 (by omega)).mono ?_; rintro e w5 ⟨v5, rfl, hown5, hb5⟩)
      go_ret2
      refine ⟨_, rfl, ?_, next (next B1 hb3) hb5⟩
      rw [HT.out] at hown5
      exact B.Own.low hown5 (by have := hb3.size; have := B1.size; omega)
set_option maxHeartbeats 1000000 in
/-- A packet that may not be. -/
theorem pack_no (x : Pk) (a : Option Addr) (n cap : Nat) (w : World) (hsl : Sl w a n cap x.z) (hr : x.right = false) :
    Calls Try.prog 12 #[x.val (.slice a n cap)] w fun e w' => e = .returned (.tuple #[.slice none 0 0, .int .i64 1]) ∧ Below w.heap.size w w' := by
  have HE : Hid (x.err = 1) := Pk.err_f hr
  clear hr
  unfold Pk.val
  go_enter Try.func12, Try.ntmps12
  go_wp2_with (go_at_call 16; refine (check_any x a n cap _ (hsl.below (ba (Below.refl _ _)))).mono ?_; rintro e w1 ⟨rfl, hb1⟩; rw [HE.out]; obtain ⟨hc1, hf1⟩ := bcell hb1)
  go_ret2
  exact ⟨rfl, next (ba (Below.refl _ _)) hb1⟩

def lockPk : Pk := ⟨1, 0, 0, 0, 0, 0, 0, false, []⟩
theorem lock_right : lockPk.right = true := by decide
set_option maxHeartbeats 400000 in
/-- The document's example. -/
theorem wakes_any (w : World) :
    Calls Try.prog 15 #[] w fun e w' => e = .returned (.bool true) ∧ Below w.heap.size w w' := by
  have hlen : (B.sealI (packI lockPk)).length = 12 := by rw [sealI_len, packI_len]; rfl
  go_enter Try.func15, Try.ntmps15
  go_wp2_with (go_at_call 12; refine (pack_yes lockPk none 0 0 _ (sl_nil _) lock_right).mono ?_; rintro e w1 ⟨v1, rfl, hown1, hb1⟩; obtain ⟨a1, cap1, rfl, hsl1⟩ := hown1.sl' hlen)
  go_ret
  exact ⟨rfl, hb1⟩
end Go.Proofs.Ytbllhjhlkngchaa
