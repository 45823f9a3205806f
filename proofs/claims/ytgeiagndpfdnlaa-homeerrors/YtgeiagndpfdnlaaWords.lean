/- The contract of plan.Words. Conditions: as each theorem states them. -/
import Derived.Test.YtgeiagndpfdnlaaCfg
import Derived.Deep.OwnRows
namespace Go.Proofs.Ytgeiagndpfdnlaa
open Go.RowKit
set_option linter.unusedVariables false
set_option maxRecDepth 20000

/-- The words of a line at first. -/
def wordsI (zi : List Int) (L K : Nat) (line : Int) : List Int := if 0 ≤ line ∧ line < L then (List.range K).map (fun i => zi[line.toNat * K + i]?.getD 0) else []
theorem wordsI_out {zi : List Int} {L K : Nat} {line : Int} (h : line < 0 ∨ (L : Int) ≤ line) : wordsI zi L K line = [] := if_neg (by omega)
theorem wordsI_in {zi : List Int} {L K j : Nat} (h : j < L) : wordsI zi L K (j : Int) = (List.range K).map (fun i => zi[j * K + i]?.getD 0) := by
  unfold wordsI; rw [if_pos (by omega)]; rfl
theorem words_splice (zi : List Int) (K m : Nat) : splice (cells (List.replicate K 0)) 0 (cells ((zi.drop m).take K)) = cells ((List.range K).map (fun i => zi[m + i]?.getD 0)) := by
  apply List.ext_getElem?
  intro i
  unfold splice
  rw [List.take_zero, List.nil_append]
  by_cases hi : i < ((zi.drop m).take K).length
  · rw [List.getElem?_append_left (by simpa [cells] using hi)]
    simp at hi
    have h1 : i < K := by omega
    simp [cells, h1, List.getElem?_drop, show m + i < zi.length by omega]
  · rw [List.getElem?_append_right (by simpa [cells] using hi)]
    simp only [cells, List.length_map, List.getElem?_drop, List.getElem?_map]
    simp at hi
    by_cases h1 : i < K
    · have h2 : zi.length ≤ m + i := by omega
      rw [List.getElem?_replicate, if_pos (by simp; omega)]
      simp [h1, h2]
    · rw [List.getElem?_replicate, if_neg (by simp; omega)]
      simp [h1]
theorem words_none {zi : List Int} {K m : Nat} (h : zi.length ≤ m) : (List.range K).map (fun i => zi[m + i]?.getD 0) = List.replicate K 0 := by
  apply List.ext_getElem?
  intro i
  by_cases h1 : i < K
  · simp [h1, show zi.length ≤ m + i by omega]
  · simp [h1]
theorem made_zeros (K : Nat) : madeCells #[Value.int .i64 0] K = (cells (List.replicate K 0)).toArray := by
  apply Array.ext_getElem?
  intro i
  simp [madeCells, cells]
  by_cases h : i < K <;> simp [h, Nat.mod_one]
theorem own_row {w : World} {base g K : Nat} {l : List Int} (h : w.heap[g]? = some (.cells (cells l).toArray 3 (0, 0))) (hl : l.length = K) (hb : base ≤ g) (hm : K ≤ maxLen) : Own w base (.slice (some ⟨g, 0, none⟩) K K) l := by
  subst hl
  exact ⟨by simp [cells], Or.inr ⟨g, l.length, (cells l).toArray, rfl, hb, h, Nat.le_refl _, hm, by simp [cells], by rw [Nat.mul_one]; exact List.take_of_length_le (by simp [cells])⟩⟩
theorem make_row (K : Nat) (hK : K ≤ 4) (w : World) : (Instr.makeSlice 22 (.int .i64 (K : Int)) (.int .i64 (K : Int))).run Try.prog w = .ok (.slice (some ⟨w.heap.size, 0, none⟩) K K) (w.alloc (.cells (cells (List.replicate K 0)).toArray 3)) := by
  rw [← made_zeros]
  exact run_make_row' (P := Try.prog) 22 3 (.int .i64 0) 8 Try.underlying22 Try.infoInt rfl .i64 .i64 K (by omega) (by omega) w

set_option maxHeartbeats 400000 in
theorem words_any (N L K S Y O I : Nat) (a : Option Addr) (nv cv : Nat) (zi : List Int) (line : Int) (w : World) (hsl : Sl w a nv cv zi) (hL : L ≤ 8) (hK0 : 1 ≤ K) (hK : K ≤ 4) (hlen : nv ≤ 32) :
    Calls Try.prog 51 #[cfg N L K S Y O I (.slice a nv cv), .int .i64 line] w fun e w' => ∃ v, e = .returned v ∧ Own w' w.heap.size v (wordsI zi L K line) ∧ Below w.heap.size w w' := by
  unfold cfg
  by_cases h0 : line < 0
  · have HW : Hid (wordsI zi L K line = []) := wordsI_out (.inl h0)
    go_enter Try.func51, Try.ntmps51
    go_wp2
    go_ret
    exact ⟨_, rfl, by rw [HW.out]; exact own_nil _ _, ba (Below.refl _ _)⟩
  by_cases h1 : (L : Int) ≤ line
  · have HW : Hid (wordsI zi L K line = []) := wordsI_out (.inr h1)
    have h0' : 0 ≤ line := by omega
    go_enter Try.func51, Try.ntmps51
    go_wp2
    go_ret
    exact ⟨_, rfl, by rw [HW.out]; exact own_nil _ _, ba (Below.refl _ _)⟩
  obtain ⟨j, rfl⟩ : ∃ j : Nat, line = j := ⟨line.toNat, by omega⟩
  have hj : j < L := by omega
  have HW : Hid (wordsI zi L K j = (List.range K).map (fun i => zi[j * K + i]?.getD 0)) := wordsI_in hj
  obtain ⟨m, hm⟩ : ∃ m, m = j * K := ⟨_, rfl⟩
  have hm' : (j : Int) * (K : Int) = (m : Int) := by rw [hm]; exact (Int.natCast_mul j K).symm
  have hm8 : m ≤ 28 := by rw [hm]; have := Nat.mul_le_mul (show j ≤ 7 by omega) hK; simpa using this
  rw [← hm] at HW
  have hl := hsl.len
  have hle := hsl.le
  clear h0 h1 hm
  have hmk := make_row K hK
  by_cases hf : m < nv
  · have hsome : ∃ b o, a = some ⟨b, o, none⟩ ∧ ∀ i, i < zi.length → w.cell? ⟨b, o + i, none⟩ = some (.int .i64 (zi[i]?.getD 0)) := by
      rcases hsl.row with rfl | h
      · simp at hl; omega
      · exact h
    obtain ⟨b, o, rfl, hc⟩ := hsome
    obtain ⟨i0, hi, hz0, hz1, hz2⟩ := info_parts Try.infoInt
    have q0 : (0 : Int) ≤ (m : Int) := by omega
    have q1 : (m : Int) ≤ (cv : Int) := by omega
    have q2 : (m : Int) ≤ (nv : Int) := by omega
    have hcs : (cells ((zi.drop m).take K)).length = Nat.min (nv - m) K := by simp [cells, hl, Nat.min_comm]
    have hsrc : ∀ W : World, Below w.heap.size w W → ∀ j v, (cells ((zi.drop m).take K))[j]? = some v → W.cell? ((⟨b, o + m, none⟩ : Addr).add j) = some v := by
      intro W hW j v hv
      obtain ⟨hj, rfl⟩ := cells_get hv
      simp at hj
      have hc1 := hc (m + j) (by omega)
      have hlt : b < w.heap.size := World.block_lt_of_cell? w _ hc1
      rw [Addr.add_lit, hW.cell (p := ⟨b, o + m + j, none⟩) hlt, show o + m + j = o + (m + j) by omega, hc1]
      simp [List.getElem?_drop, show j < K by omega]
    have hfit : 0 + (cells ((zi.drop m).take K)).length ≤ (cells (List.replicate K 0)).length := by simp [cells]; omega
    have hcur : ∀ t, ((w.alloc t).alloc (.cells (cells (List.replicate K 0)).toArray 3)).heap[w.heap.size + 1]? = some (.cells (cells (List.replicate K 0)).toArray 3 (0, 0)) := by
      intro t
      have := heap_alloc_new (w.alloc t) (.cells (cells (List.replicate K 0)).toArray 3)
      simpa using this
    go_enter Try.func51, Try.ntmps51
    go_wp2_with (refine wpList_copy_splice rfl (.tmp 27) (.tmp 31) 22 22 rfl 3 Try.underlying22 (by rw [hi]; simp [hz1]) _ _ _ _ _ _ rfl rfl (w.heap.size + 1) 0 (cells (List.replicate K 0)) 3 (hcur _) (cells ((zi.drop m).take K)) hcs (fun _ => ⟨rfl, _, rfl, hsrc _ (ba (ba (Below.refl _ _)))⟩) hfit (cells_one _) w.heap.size w (ba (ba (Below.refl _ _))) (by omega) ?_; intro w2 hg2 hb2)
    go_ret
    refine ⟨_, rfl, ?_, hb2⟩
    rw [HW.out]
    have hg3 := hg2.out
    rw [words_splice] at hg3
    exact own_row hg3 (by simp) (by omega) (by unfold maxLen; omega)
  · go_enter Try.func51, Try.ntmps51
    go_wp2
    go_ret
    refine ⟨_, rfl, ?_, ba (ba (Below.refl _ _))⟩
    rw [HW.out, words_none (by omega)]
    refine own_row (g := w.heap.size + 1) ?_ (by simp) (by omega) (by unfold maxLen; omega)
    have := heap_alloc_new (w.alloc (.cells #[.int .i64 (N : Int), .int .i64 (L : Int), .int .i64 (K : Int), .int .i64 (S : Int), .int .i64 (Y : Int), .int .i64 (O : Int), .int .i64 (I : Int), .slice a nv cv] 26)) (.cells (cells (List.replicate K 0)).toArray 3)
    simpa using this
end Go.Proofs.Ytgeiagndpfdnlaa
