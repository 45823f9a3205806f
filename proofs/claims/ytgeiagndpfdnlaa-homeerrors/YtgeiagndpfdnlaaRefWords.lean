/- The contract of the document's own Words. Conditions: as each theorem states them. -/
import Derived.Test.YtgeiagndpfdnlaaWords
import Derived.Test.YtgeiagndpfdnlaaCfgJ
namespace Go.Proofs.Ytgeiagndpfdnlaa
open Go.RowKit
set_option linter.unusedVariables false
set_option maxRecDepth 20000

theorem news_int (w : World) (x : Int) : ∀ j u, (cells [x])[j]? = some u → (w.alloc (.cells #[.int .i64 x] 3)).cell? ((⟨w.heap.size, 0, none⟩ : Addr).add j) = some u := by
  intro j u hu
  obtain ⟨hj, rfl⟩ := cells_get hu
  rw [Addr.add_lit, Nat.zero_add]
  obtain rfl : j = 0 := by simp at hj; exact hj
  simp

theorem range_snoc (f : Nat → Int) (i : Nat) : cells ((List.range (i + 1)).map f) = cells ((List.range i).map f) ++ cells [f i] := by
  rw [List.range_succ]; simp [cells]

set_option maxHeartbeats 1000000 in
theorem refWords_any (N L K S Y O I : Nat) (a : Option Addr) (nv cv : Nat) (zi : List Int) (line : Int) (w : World) (hsl : Sl w a nv cv zi) (hL : L ≤ 8) (hK0 : 1 ≤ K) (hK : K ≤ 4) (hlen : nv ≤ 32) :
    Calls Try.prog 33 #[cfg N L K S Y O I (.slice a nv cv), .int .i64 line] w fun e w' => ∃ v, e = .returned v ∧ Own w' w.heap.size v (wordsI zi L K line) ∧ Below w.heap.size w w' := by
  unfold cfg
  by_cases h0 : line < 0
  · have HW : Hid (wordsI zi L K line = []) := wordsI_out (.inl h0)
    go_enter Try.func33, Try.ntmps33
    go_wp2
    go_ret
    exact ⟨_, rfl, by rw [HW.out]; exact own_nil _ _, ba (Below.refl _ _)⟩
  by_cases h1 : (L : Int) ≤ line
  · have HW : Hid (wordsI zi L K line = []) := wordsI_out (.inr h1)
    have h0' : 0 ≤ line := by omega
    go_enter Try.func33, Try.ntmps33
    go_wp2
    go_ret
    exact ⟨_, rfl, by rw [HW.out]; exact own_nil _ _, ba (Below.refl _ _)⟩
  obtain ⟨j, rfl⟩ : ∃ j : Nat, line = j := ⟨line.toNat, by omega⟩
  have hj : j < L := by omega
  have hjn : ¬ L ≤ j := by omega
  have HW : Hid (wordsI zi L K j = (List.range K).map (fun i => zi[j * K + i]?.getD 0)) := wordsI_in hj
  obtain ⟨m, hm⟩ : ∃ m, m = j * K := ⟨_, rfl⟩
  have hm' : (j : Int) * (K : Int) = (m : Int) := by rw [hm]; exact (Int.natCast_mul j K).symm
  have hm8 : m ≤ 28 := by rw [hm]; have := Nat.mul_le_mul (show j ≤ 7 by omega) hK; simpa using this
  rw [← hm] at HW
  have hl := hsl.len
  have hle := hsl.le
  clear h0 h1 hm
  have hcj := CJ.made w (N : Int) (L : Int) (K : Int) (S : Int) (Y : Int) (O : Int) (I : Int) (.slice a nv cv)
  have hbw : Below w.heap.size w (w.alloc (.cells #[.int .i64 (N : Int), .int .i64 (L : Int), .int .i64 (K : Int), .int .i64 (S : Int), .int .i64 (Y : Int), .int .i64 (O : Int), .int .i64 (I : Int), .slice a nv cv] 26)) := ba (Below.refl _ _)
  obtain ⟨i0, hi, hz0, hz1, hz2⟩ := info_parts Try.infoInt
  go_enter Try.func33, Try.ntmps33
  go_wp2
  generalize w.alloc (.cells #[.int .i64 (N : Int), .int .i64 (L : Int), .int .i64 (K : Int), .int .i64 (S : Int), .int .i64 (Y : Int), .int .i64 (O : Int), .int .i64 (I : Int), .slice a nv cv] 26) = W at *
  go_loopw [5, 6] (fun v q wr => ∃ i : Nat, q = .int .i64 i ∧ i ≤ K ∧ wr.ownsRow W.heap.size 3 1 v i (cells ((List.range i).map (fun i => zi[m + i]?.getD 0))) ∧ Below W.heap.size W wr) (fun _ q _ => K - (intOf q).toNat)
  case atStart => exact ⟨0, rfl, by omega, World.ownsRow_nil _ _ _ _, Below.refl _ _⟩
  case round =>
    obtain ⟨i, rfl, hik, hown, hbr⟩ := hrel
    obtain ⟨c0, c1, c2, c3, c4, c5, c6, c7, clt⟩ := hcj.below hbr
    by_cases hlt : i < K
    · have hlt' : (i : Int) < (K : Int) := by omega
      obtain ⟨t, ht⟩ : ∃ t, t = m + i := ⟨_, rfl⟩
      have hmi : (m : Int) + (i : Int) = (t : Int) := by omega
      obtain ⟨x, hx⟩ : ∃ x, zi[m + i]?.getD 0 = x := ⟨_, rfl⟩
      have HX : Hid (zi[m + i]?.getD 0 = x) := hx
      by_cases hin : t < nv
      · have hin' : (t : Int) < (nv : Int) := by omega
        have hsr := hsl.below (next hbw hbr)
        have hsome : ∃ b o, a = some ⟨b, o, none⟩ ∧ wr.cell? ⟨b, o + t, none⟩ = some (.int .i64 x) := by
          rcases hsr.row with h | ⟨b, o, e, hc⟩
          · rw [h] at hl; simp at hl; omega
          · exact ⟨b, o, e, by rw [← hx, ← ht]; exact hc t (by omega)⟩
        obtain ⟨b, o, rfl, hcw⟩ := hsome
        clear ht hx
        go_wp2_with (at_builtin; refine wpList_append_own _ rfl _ _ 22 rfl W.heap.size 3 i0 (.int .i64 0) 1 8 Try.underlying22 hi hz0 hz1 hz2 rfl (by decide) _ i (cells ((List.range i).map (fun i => zi[m + i]?.getD 0))) rfl (hown.alloc _) ⟨wr.heap.size, 0, none⟩ 1 1 (cells [x]) rfl rfl (news_int wr x) (cells_one _) (by unfold maxLen; omega) (by omega) (by have := hbr.size; simp; omega) ?_; intro v6 w6 hown6 hg6 hn6)
        have hlt6 := hown.lt
        go_wp2
        go_roundw
        case rel =>
          refine ⟨i + 1, by go_num, by omega, ?_, (ba hbr).grown hg6 (by have := hbr.size; simp; omega) (fun q hq => (hlt6 q hq).1)⟩
          rw [range_snoc, HX.out]
          exact hown6
        case measure => simp [intOf]; omega
      · have hin' : (nv : Int) ≤ (t : Int) := by omega
        have hx0 : x = 0 := by rw [← hx, List.getElem?_eq_none (by omega)]; rfl
        subst hx0
        clear ht hx
        go_wp2_with (at_builtin; refine wpList_append_own _ rfl _ _ 22 rfl W.heap.size 3 i0 (.int .i64 0) 1 8 Try.underlying22 hi hz0 hz1 hz2 rfl (by decide) _ i (cells ((List.range i).map (fun i => zi[m + i]?.getD 0))) rfl (hown.alloc _) ⟨wr.heap.size, 0, none⟩ 1 1 (cells [0]) rfl rfl (news_int wr 0) (cells_one _) (by unfold maxLen; omega) (by omega) (by have := hbr.size; simp; omega) ?_; intro v6 w6 hown6 hg6 hn6)
        have hlt6 := hown.lt
        go_wp2
        go_roundw
        case rel =>
          refine ⟨i + 1, by go_num, by omega, ?_, (ba hbr).grown hg6 (by have := hbr.size; simp; omega) (fun q hq => (hlt6 q hq).1)⟩
          rw [range_snoc, HX.out]
          exact hown6
        case measure => simp [intOf]; omega
    · obtain rfl : i = K := by omega
      go_wp2
      go_ret
      refine ⟨_, rfl, ?_, next hbw hbr⟩
      rw [HW.out]
      have := hbw.size
      refine Own.low ?_ this
      show World.ownsRow _ _ _ _ _ _ _
      simpa using hown
end Go.Proofs.Ytgeiagndpfdnlaa
