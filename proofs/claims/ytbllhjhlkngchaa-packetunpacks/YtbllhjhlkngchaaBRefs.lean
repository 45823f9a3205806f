/- The contracts of the document's own answers of chapter 1 (Sum, Seal, Spoil) and of the helps Lend and Intact. Conditions: as each theorem states them. -/
import Derived.Test.YtbllhjhlkngchaaBAids
import Derived.Laws.BytesArg
namespace Go.Proofs.Ytbllhjhlkngchaa.B
open Go.RowKit
set_option linter.unusedVariables false

theorem dig_alt2 (s x : Int) (k : Nat) (h0 : 0 ≤ x) (h1 : x < 256) : bits .xor .u16 (s / 32768) (IntKind.u16.wrap (bits .and .u8 (x / 2 ^ (7 - k)) 1)) = bits .xor .u16 (s / 32768) (digI x k) := by rw [dig_alt x k h0 h1]

set_option maxHeartbeats 1000000 in
theorem refSum_any (a : Option Addr) (l : List Int) (n cap : Nat) (w : World) (hsl : Sl w a n cap l) :
    Calls Try.prog 38 #[.slice a n cap] w fun e w' => e = .returned (.int .u16 (sumI l)) ∧ w = w' := by
  obtain ⟨hn, hle, hmx, _, h8, hr⟩ := hsl
  have hm : n ≤ maxLen := Nat.le_trans hle hmx
  unfold maxLen at hm
  clear hmx hle
  rcases hr with rfl | ⟨b, o, rfl, hc⟩
  · obtain rfl : n = 0 := by simpa using hn.symm
    go_enter Try.func38, Try.ntmps38
    go_wp2
    refine wp_loop_rounds 1 ?_
    rw [rounds_succ]
    go_wp2
    go_ret
    exact ⟨rfl, rfl⟩
  · subst hn
    go_enter Try.func38, Try.ntmps38
    go_wp2
    go_loop [3, 10] (fun r i => ∃ k : Nat, k ≤ l.length ∧ i = .int .i64 k ∧ r = .int .u16 (sumI (l.take k))) (fun _ i => l.length - (intOf i).toNat)
    case atStart => exact ⟨0, by omega, rfl, rfl⟩
    case round =>
      obtain ⟨k, hk, rfl, rfl⟩ := hrel
      obtain ⟨b0, b1⟩ := sumI_bd _ (B8_take h8 k)
      by_cases hlt : k < l.length
      · have HS : Hid (sumI (l.take (k + 1)) = byteI (sumI (l.take k)) (l[k]?.getD 0)) := sumI_take l k hlt
        have hck := hc k hlt
        have HG : Hid (0 ≤ l[k]?.getD 0 ∧ l[k]?.getD 0 < 256) := B8_get h8 k
        clear hc
        generalize l[k]?.getD 0 = x at *
        generalize sumI (l.take k) = s at *
        go_wp2_with fail
        go_loop [3, 6] (fun r i => ∃ j : Nat, j ≤ 8 ∧ i = .int .i64 (7 - (j : Int)) ∧ r = .int .u16 (goI s x j)) (fun _ i => (intOf i + 1).toNat)
        case atStart => exact ⟨0, by omega, rfl, rfl⟩
        case round =>
          obtain ⟨j, hj, rfl, rfl⟩ := hrel
          have hx0 := HG.out.1
          have hx1 := HG.out.2
          obtain ⟨g0, g1⟩ := goI_bd s x j hj b0 b1 hx0 hx1
          by_cases hjl : j < 8
          · have HJ : Hid (goI s x (j + 1) = stepI (goI s x j) (digI x j)) := goI_succ s x j
            have HA : Hid (∀ t, bits .xor .u16 (t / 32768) (IntKind.u16.wrap (bits .and .u8 (x / 2 ^ (7 - j)) 1)) = bits .xor .u16 (t / 32768) (digI x j)) := fun t => dig_alt2 t x j hx0 hx1
            go_wp2
            · go_round
              case rel => exact ⟨j + 1, by omega, by go_num, by rw [HJ.out, stepI_t (by rw [← HA.out]; assumption)]⟩
              case measure => simp [intOf]; omega
            · go_round
              case rel => exact ⟨j + 1, by omega, by go_num, by rw [HJ.out, stepI_f (by rw [← HA.out]; assumption)]⟩
              case measure => simp [intOf]; omega
          · obtain rfl : j = 8 := by omega
            go_wp2
            go_round
            case rel => exact ⟨k + 1, by omega, by go_num, by rw [HS.out]; rfl⟩
            case measure => simp [intOf]; omega
      · go_wp2
        go_ret
        exact ⟨ret_int (by rw [List.take_of_length_le (by omega)]), rfl⟩

set_option maxHeartbeats 1000000 in
theorem refSeal_any (a : Option Addr) (l : List Int) (n cap : Nat) (w : World) (hsl : Sl w a n cap l) (hn : n ≤ 140737488351300) :
    Calls Try.prog 26 #[.slice a n cap] w fun e w' => ∃ v, e = .returned v ∧ Own w' w.heap.size v (sealI l) ∧ Below w.heap.size w w' := by
  obtain ⟨i0, hi, hz0, hz1, hz2⟩ := info_parts Try.info5
  obtain ⟨s0, s1⟩ := sumI_bd l hsl.b8
  have hl := hsl.len
  have hm : n ≤ maxLen := Nat.le_trans hsl.le hsl.max
  have hs8 := sealI_b8 hsl.b8
  cases a with
  | none =>
    obtain ⟨rfl, rfl⟩ := hsl.none0 rfl
    obtain rfl : l = [] := List.eq_nil_of_length_eq_zero hl
    go_enter Try.func26, Try.ntmps26
    go_wp2_with (first
      | (go_at_call 38; refine (refSum_any none [] 0 0 _ hsl).mono ?_; rintro e w1 ⟨rfl, rfl⟩)
      | (at_builtin; refine wpList_append_own_none rfl (.const (.slice none 0 0)) (.tmp 6) 27 rfl w.heap.size 5 i0 1 Try.underlying27 hi _ 0 [] rfl (World.ownsRow_nil _ _ _ _) rfl ?_)
      | (at_builtin; refine wpList_append_own _ rfl (.tmp 7) (.tmp 13) 27 rfl w.heap.size 5 i0 (.int .u8 0) 1 1 Try.underlying27 hi hz0 hz1 hz2 rfl (by decide) _ 0 [] rfl (World.ownsRow_nil _ _ _ _) ⟨_, 0, none⟩ 2 2 (cells [_, _]) rfl rfl (cell_two _ _ _) (cells_one _) (by unfold maxLen; omega) (by omega) (by simp) ?_; intro v3 w3 hown3 hg3 _))
    go_ret
    refine ⟨_, rfl, ⟨by simpa [sealI, cells] using hown3, hs8⟩, ?_⟩
    exact ((Below.refl _ _).alloc (Nat.le_refl _) _).grown hg3 (by simp) (by intro k hk; simp [Value.ownBlock, Act.eval] at hk)
  | some x =>
    go_enter Try.func26, Try.ntmps26
    go_wp2_with (first
      | (go_at_call 38; refine (refSum_any (some x) l n cap _ hsl).mono ?_; rintro e w1 ⟨rfl, rfl⟩)
      | (at_builtin; refine wpList_append_own _ rfl (.const (.slice none 0 0)) (.tmp 6) 27 rfl w.heap.size 5 i0 (.int .u8 0) 1 1 Try.underlying27 hi hz0 hz1 hz2 rfl (by decide) _ 0 [] rfl (World.ownsRow_nil _ _ _ _) x n cap (cells l) rfl (by simp [cells, hl]) hsl.row.cellsAt (cells_one l) (by omega) (by omega) (Nat.le_refl _) ?_; intro v2 w2 hown2 hg2 _; simp only [Nat.zero_add, List.nil_append] at hown2; have hb2 : Below w.heap.size w w2 := (Below.refl _ _).grown hg2 (Nat.le_refl _) (by intro k hk; simp [Value.ownBlock, Act.eval] at hk))
      | (at_builtin; refine wpList_append_own _ rfl (.tmp 7) (.tmp 13) 27 rfl w.heap.size 5 i0 (.int .u8 0) 1 1 Try.underlying27 hi hz0 hz1 hz2 rfl (by decide) _ n (cells l) rfl (hown2.alloc _) ⟨_, 0, none⟩ 2 2 (cells [_, _]) rfl rfl (cell_two _ _ _) (cells_one _) (by unfold maxLen; omega) (by omega) (by have := hb2.size; simp; omega) ?_; intro v3 w3 hown3 hg3 _))
    go_ret
    refine ⟨_, rfl, ⟨by simpa [sealI, cells, hl] using hown3, hs8⟩, ?_⟩
    have z2 := hb2.size
    exact (hb2.alloc z2 _).grown hg3 (by simp; omega) (fun k hk => (hown2.lt k hk).1)
end Go.Proofs.Ytbllhjhlkngchaa.B
