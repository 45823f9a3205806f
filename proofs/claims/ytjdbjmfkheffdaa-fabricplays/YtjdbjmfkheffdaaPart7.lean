/- The contract of the document's Under, NewFabric. Conditions: as each theorem states them.
The contracts of the document's own answers of chapter 1 (Sum, Seal, Spoil) and of the helps Lend and Intact. Conditions: as each theorem states them.
The contract of the document's own Pack. Conditions: as stated.
The contracts of the document's Spoil and Open, and of the helps Lend and Intact. Conditions: as each theorem states them.
The contract of the document's Open. Conditions: as each theorem states them.
The contract of the document's own Unpack: bytes that are no packet, first part. Conditions: as stated. -/
import Derived.Test.YtjdbjmfkheffdaaPart4
import Derived.Test.YtjdbjmfkheffdaaPart6
import Derived.Test.YtjdbjmfkheffdaaPart1
import Derived.Laws.BytesArg
import Derived.Test.YtjdbjmfkheffdaaPktRight
import Derived.Test.YtjdbjmfkheffdaaPart3
import Derived.Deep.RegionHeldLaw
section
namespace Go.Proofs.Ytjdbjmfkheffdaa
open Go.RowKit
set_option linter.unusedVariables false
set_option maxRecDepth 20000

theorem lane_len {F : Nat → List Pk} {m n : Nat} (h : ∀ q, q < 4 * n → ((F q).length : Int) ≤ 1000) : m ≤ 2 * n → (laneL F m).length ≤ 1000 * m := by
  induction m with
  | zero => intro _; exact Nat.le_refl _
  | succ m ih =>
    intro hm
    have h1 := ih (by omega)
    have h2 := h (pr m) (by unfold pr; omega)
    rw [laneL_succ, List.length_append]; omega
section
variable (w : World) {gr gs N O I cap : Nat} {F : Nat → List Pk} {M : Nat → Nat → Prop} {D : Nat → Prop}
/-- What Under tells. -/
def UnT (w : World) (D : Nat → Prop) (L : List Pk) (e : Ending) (w' : World) : Prop := ∃ MA R a c, e = .returned (.slice a L.length c) ∧ UA w w' D MA L R a c
set_option maxHeartbeats 800000 in
theorem refUnder_any (h : DF w gr gs N O I cap F M D) (hDl : ∀ k, D k → k < w.heap.size) :
    Calls Try.prog 22 #[.pointer (some ⟨gr, 0, none⟩)] w fun e w' => UnT w D (laneL F (2 * N)) e w' := by
  have cs := h.cs
  have n1 := h.n1
  have cp := h.cp.1
  have cp2 := h.cp.2
  unfold maxLen at cp2
  have lt := h.lt
  go_enter Try.func22, Try.ntmps22
  go_wp2_with fail
  clear cs lt
  go_loopw [3, 11] (fun v vj wx => ∃ (j : Nat) (MA : Nat → Prop) (R : List (Pk × Value)) (a : Option Addr) (c : Nat), j ≤ N ∧ vj = .int .i64 (j : Int) ∧ v = .slice a (laneL F (2 * j)).length c ∧ UA w wx D MA (laneL F (2 * j)) R a c) (fun _ vj _ => N - (intOf vj).toNat)
  case atStart => exact ⟨0, noM, [], none, 0, by omega, rfl, rfl, UA.nil (Below.refl _ _) hDl⟩
  case round =>
    obtain ⟨j, MA, R, a5, cap5, hj, rfl, rfl, hU⟩ := hrel
    by_cases hlt : j < N
    · obtain ⟨R1, b1, c1, hc1, hp1⟩ := (h.below hU.bel).at (q := 4 * j) (by omega)
      obtain ⟨R2, b2, c2, hc2, hp2⟩ := (h.below hU.bel).at (q := 4 * j + 1) (by omega)
      obtain ⟨R3, b3, c3, hc3, _⟩ := (h.below hU.bel).at (q := 4 * j + 2) (by omega)
      obtain ⟨R4, b4, c4, hc4, _⟩ := (h.below hU.bel).at (q := 4 * j + 3) (by omega)
      have HJ : Hid (laneL F (2 * (j + 1)) = laneL F (2 * j) ++ F (4 * j) ++ F (4 * j + 1)) := by
        show _ = _
        rw [show 2 * (j + 1) = 2 * j + 1 + 1 by omega, laneL_succ, laneL_succ, show pr (2 * j) = 4 * j by unfold pr; omega, show pr (2 * j + 1) = 4 * j + 1 by unfold pr; omega]
      have HLL : Hid ((laneL F (2 * j)).length ≤ 12000) := by show _ ≤ _; have := lane_len h.rm (m := 2 * j) (by omega); omega
      have HL1 : Hid ((F (4 * j)).length ≤ 1000) := by show _ ≤ _; have := h.rm (4 * j) (by omega); omega
      have HL2 : Hid ((F (4 * j + 1)).length ≤ 1000) := by show _ ≤ _; have := h.rm (4 * j + 1) (by omega); omega
      obtain ⟨l1, hl1⟩ : ∃ l, (F (4 * j)).length = l := ⟨_, rfl⟩
      obtain ⟨l2, hl2⟩ : ∃ l, (F (4 * j + 1)).length = l := ⟨_, rfl⟩
      obtain ⟨l3, hl3⟩ : ∃ l, (F (4 * j + 2)).length = l := ⟨_, rfl⟩
      obtain ⟨l4, hl4⟩ : ∃ l, (F (4 * j + 3)).length = l := ⟨_, rfl⟩
      obtain ⟨T, hT⟩ : ∃ T, (laneL F (2 * j)).length = T := ⟨_, rfl⟩
      rw [hl1] at hc1
      rw [hl2] at hc2
      rw [hl3] at hc3
      rw [hl4] at hc4
      rw [hT]
      have HT : Hid ((laneL F (2 * j)).length = T) := hT
      have HE1 : Hid ((F (4 * j)).length = l1) := hl1
      have HE2 : Hid ((F (4 * j + 1)).length = l2) := hl2
      have e1 : wr.cell? ⟨gs, j * 4, none⟩ = some (.slice b1 l1 c1) := by rw [show j * 4 = 4 * j by omega]; exact hc1
      have e2 : wr.cell? ⟨gs, j * 4 + 1, none⟩ = some (.slice b2 l2 c2) := by rw [show j * 4 = 4 * j by omega]; exact hc2
      have e3 : wr.cell? ⟨gs, j * 4 + 2, none⟩ = some (.slice b3 l3 c3) := by rw [show j * 4 = 4 * j by omega]; exact hc3
      have e4 : wr.cell? ⟨gs, j * 4 + 3, none⟩ = some (.slice b4 l4 c4) := by rw [show j * 4 = 4 * j by omega]; exact hc4
      clear hc1 hc2 hc3 hc4 hl1 hl2 hl3 hl4 hT
      have i0 : (j : Int) < (N : Int) := by omega
      go_upto_region 5 with fail
      refine wp_region_orders 10 rfl (by kernel_rfl) ?_
      have hb : Below wr.heap.size wr (wr.alloc (.cells #[.slice b1 l1 c1, .slice b2 l2 c2, .slice b3 l3 c3, .slice b4 l4 c4] 83)).drew := (ba (Below.refl _ _)).drew
      have hI : (fun V' : World => V'.cell? ⟨wr.heap.size, 0, none⟩ = some (.slice b1 l1 c1) ∧ V'.cell? ⟨wr.heap.size, 1, none⟩ = some (.slice b2 l2 c2)) (wr.alloc (.cells #[.slice b1 l1 c1, .slice b2 l2 c2, .slice b3 l3 c3, .slice b4 l4 c4] 83)).drew := ⟨by simp, by simp⟩
      have hgb : ∀ k, MA k → k ≠ wr.heap.size := fun k hk e => by have := hU.row.old k hk; omega
      have hgl : wr.heap.size < (wr.alloc (.cells #[.slice b1 l1 c1, .slice b2 l2 c2, .slice b3 l3 c3, .slice b4 l4 c4] 83)).drew.heap.size := by simp
      replace hU := hU.below hb
      replace hp1 := hp1.below hb
      replace hp2 := hp2.below hb
      clear hb e1 e2 e3 e4
      generalize (wr.alloc (.cells #[.slice b1 l1 c1, .slice b2 l2 c2, .slice b3 l3 c3, .slice b4 l4 c4] 83)).drew = V at *
      generalize wr.heap.size = gb at *
      refine any_inv (fun V' : World => V'.cell? ⟨gb, 0, none⟩ = some (.slice b1 l1 c1) ∧ V'.cell? ⟨gb, 1, none⟩ = some (.slice b2 l2 c2)) [8, 9] hI ?_
      refine inv_take [4, 8, 9] 0 (.slice a5 T cap5) hI rfl (by kernel_rfl) (by kernel_rfl) (by kernel_rfl) (by kernel_rfl) (by kernel_rfl) (fun _ _ _ h => h) (by kernel_rfl) (fun w hI => by obtain ⟨i1, i2⟩ := hI; go_simp) ?_
      simp only [Act.put, List.setIfInBounds_toArray, List.set_cons_zero, List.set_cons_succ]
      refine inv_take [2, 3, 4, 8, 9] 1 (.pointer (some ⟨gb, 0, none⟩)) hI rfl (by kernel_rfl) (by kernel_rfl) (by kernel_rfl) (by kernel_rfl) (by kernel_rfl) (fun _ _ _ h => h) (by kernel_rfl) (fun w hI => by obtain ⟨i1, i2⟩ := hI; go_simp) ?_
      simp only [Act.put, List.setIfInBounds_toArray, List.set_cons_zero, List.set_cons_succ]
      refine inv_take [3, 4, 8, 9] 2 (.pointer (some ⟨gb, 0, none⟩)) hI rfl (by kernel_rfl) (by kernel_rfl) (by kernel_rfl) (by kernel_rfl) (by kernel_rfl) (fun _ _ _ h => h) (by kernel_rfl) (fun w hI => by obtain ⟨i1, i2⟩ := hI; go_simp) ?_
      simp only [Act.put, List.setIfInBounds_toArray, List.set_cons_zero, List.set_cons_succ]
      refine inv_take [4, 8, 9] 3 (.slice b1 l1 c1) hI rfl (by kernel_rfl) (by kernel_rfl) (by kernel_rfl) (by kernel_rfl) (by kernel_rfl) (fun _ _ _ h => h) (by kernel_rfl) (fun w hI => by obtain ⟨i1, i2⟩ := hI; go_simp) ?_
      simp only [Act.put, List.setIfInBounds_toArray, List.set_cons_zero, List.set_cons_succ]
      refine inv_take [6, 7, 8, 9] 5 (.pointer (some ⟨gb, 0, none⟩)) hI rfl (by kernel_rfl) (by kernel_rfl) (by kernel_rfl) (by kernel_rfl) (by kernel_rfl) (fun _ _ _ h => h) (by kernel_rfl) (fun w hI => by obtain ⟨i1, i2⟩ := hI; go_simp) ?_
      simp only [Act.put, List.setIfInBounds_toArray, List.set_cons_zero, List.set_cons_succ]
      refine inv_take [7, 8, 9] 6 (.pointer (some ⟨gb, 1, none⟩)) hI rfl (by kernel_rfl) (by kernel_rfl) (by kernel_rfl) (by kernel_rfl) (by kernel_rfl) (fun _ _ _ h => h) (by kernel_rfl) (fun w hI => by obtain ⟨i1, i2⟩ := hI; go_simp) ?_
      simp only [Act.put, List.setIfInBounds_toArray, List.set_cons_zero, List.set_cons_succ]
      refine inv_take [8, 9] 7 (.slice b2 l2 c2) hI rfl (by kernel_rfl) (by kernel_rfl) (by kernel_rfl) (by kernel_rfl) (by kernel_rfl) (fun _ _ _ h => h) (by kernel_rfl) (fun w hI => by obtain ⟨i1, i2⟩ := hI; go_simp) ?_
      simp only [Act.put, List.setIfInBounds_toArray, List.set_cons_zero, List.set_cons_succ]
      refine inv_list 4 (by kernel_rfl) rfl ?_
      refine wpList_append_ua hU hp1.row.slv hp1.dat hp1.eq rfl (by have := HLL.out; omega) HL1.out (by kernel_rfl) (.tmp 15) (.tmp 18) rfl (by rw [HT.out]; rfl) (by rw [HE1.out]; rfl) ?_
      intro a6 c6 w6 MA6 hU6 hk6
      have hg := hgb
      have hI6 : (fun V' : World => V'.cell? ⟨gb, 0, none⟩ = some (.slice b1 l1 c1) ∧ V'.cell? ⟨gb, 1, none⟩ = some (.slice b2 l2 c2)) w6 := ⟨(hk6.cell 0 hgl (fun h => hgb _ h rfl)).trans hI.1, (hk6.cell 1 hgl (fun h => hgb _ h rfl)).trans hI.2⟩
      refine then_n ⟨hI6, ?_⟩
      simp only [Act.put, List.setIfInBounds_toArray, List.set_cons_zero, List.set_cons_succ]
      replace hp2 := hp2.keep hk6 (fun k e hm => e.elim (fun e => by have := hU.lo k hm; have := h.net.old (q := 4 * j + 1) (by omega) e; omega) (fun e => hU.row.dj k hm e))
      refine inv_write 8 (by kernel_rfl) (by kernel_rfl) rfl ?_
      have hl6 : (laneL F (2 * j) ++ F (4 * j)).length = (laneL F (2 * j)).length + (F (4 * j)).length := List.length_append
      refine wpList_append_ua hU6 hp2.row.slv hp2.dat hp2.eq rfl (by have := HLL.out; have := HL1.out; omega) HL2.out (by kernel_rfl) (.tmp 19) (.tmp 22) rfl (by rw [hl6]; rfl) (by rw [HE2.out]; rfl) ?_
      intro a7 c7 w7 MA7 hU7 hk7
      refine then_n ?_
      simp only [Act.put, List.setIfInBounds_toArray, List.set_cons_zero, List.set_cons_succ]
      refine any_list 9 (by kernel_rfl) rfl ?_
      go_wp2
      refine then_n ?_
      refine any_done (by kernel_rfl) ?_
      go_wp2
      go_roundw
      case rel => exact ⟨j + 1, MA7, _, a7, c7, by omega, by go_num, by rw [HJ.out]; simp only [List.length_append], by rw [HJ.out]; exact hU7⟩
      case measure => simp [intOf]; omega
    · obtain rfl : j = N := by omega
      go_wp2_with fail
      go_ret
      exact ⟨MA, R, a5, cap5, rfl, hU⟩
theorem Try.infoSide : (Try.prog.info? 83).map (fun i => (i.zero, i.size, i.bytes)) = some (some (.agg #[.slice none 0 0, .slice none 0 0, .slice none 0 0, .slice none 0 0]), 4, 96) := by kernel_rfl
theorem side_at (w : World) (n : Nat) (t : TypeId) (q : Nat) (hq : q < n) : (w.alloc (.cells (madeCells #[.slice none 0 0, .slice none 0 0, .slice none 0 0, .slice none 0 0] n) t)).cell? ⟨w.heap.size, q, none⟩ = some (.slice none 0 0) := by
  have h : (madeCells #[.slice none 0 0, .slice none 0 0, .slice none 0 0, .slice none 0 0] n)[q]? = some (.slice none 0 0) := by
    unfold madeCells
    have h4 : q % 4 = 0 ∨ q % 4 = 1 ∨ q % 4 = 2 ∨ q % 4 = 3 := by omega
    rcases h4 with h4 | h4 | h4 | h4 <;> simp [hq, h4]
  simpa using h
set_option maxHeartbeats 800000 in
theorem refNew_any (L K S Y : Int) (ta : Option Addr) (tn tc : Nat) (n0 : 1 ≤ N) (n1 : N ≤ 6) (o1 : O ≤ 1000) :
    Calls Try.prog 21 #[.agg #[.int .i64 (N : Int), .int .i64 L, .int .i64 K, .int .i64 S, .int .i64 Y, .int .i64 (O : Int), .int .i64 (I : Int), .slice ta tn tc]] w fun e w' => ∃ gr gs, e = .returned (.pointer (some ⟨gr, 0, none⟩)) ∧ DF w' gr gs N O I N (fun _ => []) (fun _ => noM) noM ∧ w.heap.size ≤ gr ∧ w.heap.size ≤ gs ∧ Below w.heap.size w w' := by
  have hmk : ∀ w : World, (Instr.makeSlice 79 (.int .i64 (N : Int)) (.int .i64 (N : Int))).run Try.prog w = .ok (.slice (some ⟨w.heap.size, 0, none⟩) N N) (w.alloc (.cells (madeCells #[.slice none 0 0, .slice none 0 0, .slice none 0 0, .slice none 0 0] (N * 4)) 83)) := by
    intro w
    obtain ⟨i0, hi, hz0, hz1, hz2⟩ := info_parts Try.infoSide
    have h := run_make (P := Try.prog) w 79 83 i0 _ Try.underlying79 hi hz0 .i64 .i64 (N : Int) (N : Int) (by omega) (by omega) (by rw [hz2]; omega) (by omega)
    rw [hz1, Int.toNat_natCast] at h
    exact h
  go_enter Try.func21, Try.ntmps21
  go_upto_region 1 with fail
  refine wp_region_orders 7 rfl (by kernel_rfl) ?_
  have hb : Below w.heap.size w (w.alloc (.cells #[.int .i64 (N : Int), .int .i64 L, .int .i64 K, .int .i64 S, .int .i64 Y, .int .i64 (O : Int), .int .i64 (I : Int), .slice ta tn tc] 29)).drew := (ba (Below.refl _ _)).drew
  have hI : (fun V' : World => V'.cell? ⟨w.heap.size, 0, none⟩ = some (.int .i64 (N : Int)) ∧ V'.cell? ⟨w.heap.size, 1, none⟩ = some (.int .i64 L) ∧ V'.cell? ⟨w.heap.size, 2, none⟩ = some (.int .i64 K) ∧ V'.cell? ⟨w.heap.size, 3, none⟩ = some (.int .i64 S) ∧ V'.cell? ⟨w.heap.size, 4, none⟩ = some (.int .i64 Y) ∧ V'.cell? ⟨w.heap.size, 5, none⟩ = some (.int .i64 (O : Int)) ∧ V'.cell? ⟨w.heap.size, 6, none⟩ = some (.int .i64 (I : Int)) ∧ V'.cell? ⟨w.heap.size, 7, none⟩ = some (.slice ta tn tc)) (w.alloc (.cells #[.int .i64 (N : Int), .int .i64 L, .int .i64 K, .int .i64 S, .int .i64 Y, .int .i64 (O : Int), .int .i64 (I : Int), .slice ta tn tc] 29)).drew := ⟨by simp, by simp, by simp, by simp, by simp, by simp, by simp, by simp⟩
  have hz : w.heap.size < (w.alloc (.cells #[.int .i64 (N : Int), .int .i64 L, .int .i64 K, .int .i64 S, .int .i64 Y, .int .i64 (O : Int), .int .i64 (I : Int), .slice ta tn tc] 29)).drew.heap.size := by simp
  generalize (w.alloc (.cells #[.int .i64 (N : Int), .int .i64 L, .int .i64 K, .int .i64 S, .int .i64 Y, .int .i64 (O : Int), .int .i64 (I : Int), .slice ta tn tc] 29)).drew = V at *
  refine any_inv (fun V' : World => V'.cell? ⟨w.heap.size, 0, none⟩ = some (.int .i64 (N : Int)) ∧ V'.cell? ⟨w.heap.size, 1, none⟩ = some (.int .i64 L) ∧ V'.cell? ⟨w.heap.size, 2, none⟩ = some (.int .i64 K) ∧ V'.cell? ⟨w.heap.size, 3, none⟩ = some (.int .i64 S) ∧ V'.cell? ⟨w.heap.size, 4, none⟩ = some (.int .i64 Y) ∧ V'.cell? ⟨w.heap.size, 5, none⟩ = some (.int .i64 (O : Int)) ∧ V'.cell? ⟨w.heap.size, 6, none⟩ = some (.int .i64 (I : Int)) ∧ V'.cell? ⟨w.heap.size, 7, none⟩ = some (.slice ta tn tc)) [6] hI ?_
  refine inv_take [6] 0 (.agg #[.int .i64 (N : Int), .int .i64 L, .int .i64 K, .int .i64 S, .int .i64 Y, .int .i64 (O : Int), .int .i64 (I : Int), .slice ta tn tc]) hI rfl (by kernel_rfl) (by kernel_rfl) (by kernel_rfl) (by kernel_rfl) (by kernel_rfl) (fun _ _ _ h => h) (by kernel_rfl) (fun w hI => by obtain ⟨i0, i1, i2, i3, i4, i5, i6, i7⟩ := hI; go_simp) ?_
  simp only [Act.put, List.setIfInBounds_toArray, List.set_cons_zero, List.set_cons_succ]
  refine inv_take [6] 1 (.pointer (some ⟨w.heap.size, 0, none⟩)) hI rfl (by kernel_rfl) (by kernel_rfl) (by kernel_rfl) (by kernel_rfl) (by kernel_rfl) (fun _ _ _ h => h) (by kernel_rfl) (fun w hI => by obtain ⟨i0, i1, i2, i3, i4, i5, i6, i7⟩ := hI; go_simp) ?_
  simp only [Act.put, List.setIfInBounds_toArray, List.set_cons_zero, List.set_cons_succ]
  refine inv_take [6] 2 (.int .i64 (N : Int)) hI rfl (by kernel_rfl) (by kernel_rfl) (by kernel_rfl) (by kernel_rfl) (by kernel_rfl) (fun _ _ _ h => h) (by kernel_rfl) (fun w hI => by obtain ⟨i0, i1, i2, i3, i4, i5, i6, i7⟩ := hI; go_simp) ?_
  simp only [Act.put, List.setIfInBounds_toArray, List.set_cons_zero, List.set_cons_succ]
  refine inv_list 3 (by kernel_rfl) rfl ?_
  go_wp2
  have hb2 : Below V.heap.size V (V.alloc (.cells (madeCells #[.slice none 0 0, .slice none 0 0, .slice none 0 0, .slice none 0 0] (N * 4)) 83)) := ba (Below.refl _ _)
  have hcs := side_at V (N * 4) 83
  have hfz : ∀ o, (V.alloc (.cells (madeCells #[.slice none 0 0, .slice none 0 0, .slice none 0 0, .slice none 0 0] (N * 4)) 83)).frozen? ⟨V.heap.size, o, none⟩ = false := fun o => by simp
  have hz2 : V.heap.size < (V.alloc (.cells (madeCells #[.slice none 0 0, .slice none 0 0, .slice none 0 0, .slice none 0 0] (N * 4)) 83)).heap.size := by simp
  generalize V.alloc (.cells (madeCells #[.slice none 0 0, .slice none 0 0, .slice none 0 0, .slice none 0 0] (N * 4)) 83) = V2 at *
  have hI2 : (fun V' : World => V'.cell? ⟨w.heap.size, 0, none⟩ = some (.int .i64 (N : Int)) ∧ V'.cell? ⟨w.heap.size, 1, none⟩ = some (.int .i64 L) ∧ V'.cell? ⟨w.heap.size, 2, none⟩ = some (.int .i64 K) ∧ V'.cell? ⟨w.heap.size, 3, none⟩ = some (.int .i64 S) ∧ V'.cell? ⟨w.heap.size, 4, none⟩ = some (.int .i64 Y) ∧ V'.cell? ⟨w.heap.size, 5, none⟩ = some (.int .i64 (O : Int)) ∧ V'.cell? ⟨w.heap.size, 6, none⟩ = some (.int .i64 (I : Int)) ∧ V'.cell? ⟨w.heap.size, 7, none⟩ = some (.slice ta tn tc)) V2 := ⟨((bcell hb2).1 _ 0 hz).trans hI.1, ((bcell hb2).1 _ 1 hz).trans hI.2.1, ((bcell hb2).1 _ 2 hz).trans hI.2.2.1, ((bcell hb2).1 _ 3 hz).trans hI.2.2.2.1, ((bcell hb2).1 _ 4 hz).trans hI.2.2.2.2.1, ((bcell hb2).1 _ 5 hz).trans hI.2.2.2.2.2.1, ((bcell hb2).1 _ 6 hz).trans hI.2.2.2.2.2.2.1, ((bcell hb2).1 _ 7 hz).trans hI.2.2.2.2.2.2.2⟩
  refine ⟨hI2, ?_⟩
  have hgs : w.heap.size ≤ V.heap.size := by omega
  replace hb := next hb hb2
  clear hI hb2
  generalize V.heap.size = gs at *
  have hI := hI2
  refine inv_take [6] 4 (.agg #[.int .i64 (N : Int), .int .i64 L, .int .i64 K, .int .i64 S, .int .i64 Y, .int .i64 (O : Int), .int .i64 (I : Int), .slice ta tn tc, .slice (some ⟨gs, 0, none⟩) N N]) hI rfl (by kernel_rfl) (by kernel_rfl) (by kernel_rfl) (by kernel_rfl) (by kernel_rfl) (fun _ _ _ h => h) (by kernel_rfl) (fun w hI => by obtain ⟨i0, i1, i2, i3, i4, i5, i6, i7⟩ := hI; go_simp) ?_
  simp only [Act.put, List.setIfInBounds_toArray, List.set_cons_zero, List.set_cons_succ]
  refine inv_list 5 (by kernel_rfl) rfl ?_
  go_wp2
  have hgr : gs < V2.heap.size := hz2
  have hb3 := ba (o := .cells #[.int .i64 (N : Int), .int .i64 L, .int .i64 K, .int .i64 S, .int .i64 Y, .int .i64 (O : Int), .int .i64 (I : Int), .slice ta tn tc, .slice (some ⟨gs, 0, none⟩) N N] 81) (Below.refl V2.heap.size V2)
  have g0 : (V2.alloc (.cells #[.int .i64 (N : Int), .int .i64 L, .int .i64 K, .int .i64 S, .int .i64 Y, .int .i64 (O : Int), .int .i64 (I : Int), .slice ta tn tc, .slice (some ⟨gs, 0, none⟩) N N] 81)).cell? ⟨V2.heap.size, 0, none⟩ = some (.int .i64 (N : Int)) := by simp
  have g5 : (V2.alloc (.cells #[.int .i64 (N : Int), .int .i64 L, .int .i64 K, .int .i64 S, .int .i64 Y, .int .i64 (O : Int), .int .i64 (I : Int), .slice ta tn tc, .slice (some ⟨gs, 0, none⟩) N N] 81)).cell? ⟨V2.heap.size, 5, none⟩ = some (.int .i64 (O : Int)) := by simp
  have g6 : (V2.alloc (.cells #[.int .i64 (N : Int), .int .i64 L, .int .i64 K, .int .i64 S, .int .i64 Y, .int .i64 (O : Int), .int .i64 (I : Int), .slice ta tn tc, .slice (some ⟨gs, 0, none⟩) N N] 81)).cell? ⟨V2.heap.size, 6, none⟩ = some (.int .i64 (I : Int)) := by simp
  have g8 : (V2.alloc (.cells #[.int .i64 (N : Int), .int .i64 L, .int .i64 K, .int .i64 S, .int .i64 Y, .int .i64 (O : Int), .int .i64 (I : Int), .slice ta tn tc, .slice (some ⟨gs, 0, none⟩) N N] 81)).cell? ⟨V2.heap.size, 8, none⟩ = some (.slice (some ⟨gs, 0, none⟩) N N) := by simp
  have g9 : V2.heap.size < (V2.alloc (.cells #[.int .i64 (N : Int), .int .i64 L, .int .i64 K, .int .i64 S, .int .i64 Y, .int .i64 (O : Int), .int .i64 (I : Int), .slice ta tn tc, .slice (some ⟨gs, 0, none⟩) N N] 81)).heap.size := by simp
  have hD : DF (V2.alloc (.cells #[.int .i64 (N : Int), .int .i64 L, .int .i64 K, .int .i64 S, .int .i64 Y, .int .i64 (O : Int), .int .i64 (I : Int), .slice ta tn tc, .slice (some ⟨gs, 0, none⟩) N N] 81)) V2.heap.size gs N O I N (fun _ => []) (fun _ => noM) noM := ⟨g0, g5, g6, g8, ⟨fun q hq => ⟨[], none, 0, ((bcell hb3).1 gs q hz2).trans (hcs q (by omega)), prow_nil _ _⟩, fun o => ((bcell hb3).2 gs o hz2).trans (hfz o), Nat.lt_of_lt_of_le hz2 hb3.size, fun _ _ _ _ _ _ h => h.elim, fun _ _ h => h, fun h => h⟩, g9, by omega, fun _ _ h => h, fun h => h, n1, ⟨Nat.le_refl _, by unfold maxLen; omega⟩, fun _ _ => by simp, o1⟩
  have hI3 : (fun V' : World => V'.cell? ⟨w.heap.size, 0, none⟩ = some (.int .i64 (N : Int)) ∧ V'.cell? ⟨w.heap.size, 1, none⟩ = some (.int .i64 L) ∧ V'.cell? ⟨w.heap.size, 2, none⟩ = some (.int .i64 K) ∧ V'.cell? ⟨w.heap.size, 3, none⟩ = some (.int .i64 S) ∧ V'.cell? ⟨w.heap.size, 4, none⟩ = some (.int .i64 Y) ∧ V'.cell? ⟨w.heap.size, 5, none⟩ = some (.int .i64 (O : Int)) ∧ V'.cell? ⟨w.heap.size, 6, none⟩ = some (.int .i64 (I : Int)) ∧ V'.cell? ⟨w.heap.size, 7, none⟩ = some (.slice ta tn tc)) (V2.alloc (.cells #[.int .i64 (N : Int), .int .i64 L, .int .i64 K, .int .i64 S, .int .i64 Y, .int .i64 (O : Int), .int .i64 (I : Int), .slice ta tn tc, .slice (some ⟨gs, 0, none⟩) N N] 81)) := ⟨((bcell hb3).1 _ 0 (by omega)).trans hI.1, ((bcell hb3).1 _ 1 (by omega)).trans hI.2.1, ((bcell hb3).1 _ 2 (by omega)).trans hI.2.2.1, ((bcell hb3).1 _ 3 (by omega)).trans hI.2.2.2.1, ((bcell hb3).1 _ 4 (by omega)).trans hI.2.2.2.2.1, ((bcell hb3).1 _ 5 (by omega)).trans hI.2.2.2.2.2.1, ((bcell hb3).1 _ 6 (by omega)).trans hI.2.2.2.2.2.2.1, ((bcell hb3).1 _ 7 (by omega)).trans hI.2.2.2.2.2.2.2⟩
  refine then_n ⟨hI3, ?_⟩
  refine inv_write 6 (by kernel_rfl) (by kernel_rfl) rfl ?_
  go_wp2
  refine then_n ?_
  refine any_done (by kernel_rfl) ?_
  go_wp2
  go_ret
  exact ⟨V2.heap.size, gs, rfl, hD, by omega, hgs, next hb hb3⟩
end
end Go.Proofs.Ytjdbjmfkheffdaa
end
section
namespace Go.Proofs.Ytjdbjmfkheffdaa.B
open Go.RowKit
set_option linter.unusedVariables false
set_option maxRecDepth 20000

theorem dig_alt2 (s x : Int) (k : Nat) (h0 : 0 ≤ x) (h1 : x < 256) : bits .xor .u16 (s / 32768) (IntKind.u16.wrap (bits .and .u8 (x / 2 ^ (7 - k)) 1)) = bits .xor .u16 (s / 32768) (digI x k) := by rw [dig_alt x k h0 h1]

set_option maxHeartbeats 1000000 in
theorem refSum_any (a : Option Addr) (l : List Int) (n cap : Nat) (w : World) (hsl : Sl w a n cap l) :
    Calls Try.prog 78 #[.slice a n cap] w fun e w' => e = .returned (.int .u16 (sumI l)) ∧ w = w' := by
  obtain ⟨hn, hle, hmx, _, h8, hr⟩ := hsl
  have hm : n ≤ maxLen := Nat.le_trans hle hmx
  unfold maxLen at hm
  clear hmx hle
  rcases hr with rfl | ⟨b, o, rfl, hc⟩
  · obtain rfl : n = 0 := by simpa using hn.symm
    go_enter Try.func78, Try.ntmps78
    go_wp2
    refine wp_loop_rounds 1 ?_
    rw [rounds_succ]
    go_wp2
    go_ret
    exact ⟨rfl, rfl⟩
  · subst hn
    go_enter Try.func78, Try.ntmps78
    go_wp2
    go_loop [3, 10] (fun r i => ∃ k : Nat, k ≤ l.length ∧ i = .int .i64 k ∧ r = .int .u16 (sumI (l.take k))) (fun _ i => l.length - (intOf i).toNat)
    case atStart => exact ⟨0, by omega, rfl, rfl⟩
    case round =>
      obtain ⟨k, hk, rfl, rfl⟩ := hrel
      obtain ⟨b0, b1⟩ := sumI_bd _ (B8_take h8 k)
      by_cases hlt : k < l.length
      · have HS : Hid (sumI (l.take (k + 1)) = byteI (sumI (l.take k)) (l[k]?.getD 0)) := sumI_take l k hlt
        have hck := hc k hlt
        have HG : Hid (0 ≤ l[k]?.getD 0 ∧ l[k]?.getD 0 < 256) := B8_get h8 k
        clear hc
        generalize l[k]?.getD 0 = x at *
        generalize sumI (l.take k) = s at *
        go_wp2_with fail
        go_loop [3, 6] (fun r i => ∃ j : Nat, j ≤ 8 ∧ i = .int .i64 (7 - (j : Int)) ∧ r = .int .u16 (goI s x j)) (fun _ i => (intOf i + 1).toNat)
        case atStart => exact ⟨0, by omega, rfl, rfl⟩
        case round =>
          obtain ⟨j, hj, rfl, rfl⟩ := hrel
          have hx0 := HG.out.1
          have hx1 := HG.out.2
          obtain ⟨g0, g1⟩ := goI_bd s x j hj b0 b1 hx0 hx1
          by_cases hjl : j < 8
          · have HJ : Hid (goI s x (j + 1) = stepI (goI s x j) (digI x j)) := goI_succ s x j
            have HA : Hid (∀ t, bits .xor .u16 (t / 32768) (IntKind.u16.wrap (bits .and .u8 (x / 2 ^ (7 - j)) 1)) = bits .xor .u16 (t / 32768) (digI x j)) := fun t => dig_alt2 t x j hx0 hx1
            go_wp2
            · go_round
              case rel => exact ⟨j + 1, by omega, by go_num, by rw [HJ.out, stepI_t (by rw [← HA.out]; assumption)]⟩
              case measure => simp [intOf]; omega
            · go_round
              case rel => exact ⟨j + 1, by omega, by go_num, by rw [HJ.out, stepI_f (by rw [← HA.out]; assumption)]⟩
              case measure => simp [intOf]; omega
          · obtain rfl : j = 8 := by omega
            go_wp2
            go_round
            case rel => exact ⟨k + 1, by omega, by go_num, by rw [HS.out]; rfl⟩
            case measure => simp [intOf]; omega
      · go_wp2
        go_ret
        exact ⟨ret_int (by rw [List.take_of_length_le (by omega)]), rfl⟩

set_option maxHeartbeats 1000000 in
theorem refSeal_any (a : Option Addr) (l : List Int) (n cap : Nat) (w : World) (hsl : Sl w a n cap l) (hn : n ≤ 140737488351300) :
    Calls Try.prog 67 #[.slice a n cap] w fun e w' => ∃ v, e = .returned v ∧ Own w' w.heap.size v (sealI l) ∧ Below w.heap.size w w' := by
  obtain ⟨i0, hi, hz0, hz1, hz2⟩ := info_parts Try.info5
  obtain ⟨s0, s1⟩ := sumI_bd l hsl.b8
  have hl := hsl.len
  have hm : n ≤ maxLen := Nat.le_trans hsl.le hsl.max
  have hs8 := sealI_b8 hsl.b8
  cases a with
  | none =>
    obtain ⟨rfl, rfl⟩ := hsl.none0 rfl
    obtain rfl : l = [] := List.eq_nil_of_length_eq_zero hl
    go_enter Try.func67, Try.ntmps67
    go_wp2_with (first
      | (go_at_call 78; refine (refSum_any none [] 0 0 _ hsl).mono ?_; rintro e w1 ⟨rfl, rfl⟩)
      | (at_builtin; refine wpList_append_own_none rfl (.const (.slice none 0 0)) (.tmp 6) 86 rfl w.heap.size 5 i0 1 Try.underlying86 hi _ 0 [] rfl (World.ownsRow_nil _ _ _ _) rfl ?_)
      | (at_builtin; refine wpList_append_own _ rfl (.tmp 7) (.tmp 13) 86 rfl w.heap.size 5 i0 (.int .u8 0) 1 1 Try.underlying86 hi hz0 hz1 hz2 rfl (by decide) _ 0 [] rfl (World.ownsRow_nil _ _ _ _) ⟨_, 0, none⟩ 2 2 (cells [_, _]) rfl rfl (cell_two _ _ _) (cells_one _) (by unfold maxLen; omega) (by omega) (by simp) ?_; intro v3 w3 hown3 hg3 _))
    go_ret
    refine ⟨_, rfl, ⟨by simpa [sealI, cells] using hown3, hs8⟩, ?_⟩
    exact ((Below.refl _ _).alloc (Nat.le_refl _) _).grown hg3 (by simp) (by intro k hk; simp [Value.ownBlock, Act.eval] at hk)
  | some x =>
    go_enter Try.func67, Try.ntmps67
    go_wp2_with (first
      | (go_at_call 78; refine (refSum_any (some x) l n cap _ hsl).mono ?_; rintro e w1 ⟨rfl, rfl⟩)
      | (at_builtin; refine wpList_append_own _ rfl (.const (.slice none 0 0)) (.tmp 6) 86 rfl w.heap.size 5 i0 (.int .u8 0) 1 1 Try.underlying86 hi hz0 hz1 hz2 rfl (by decide) _ 0 [] rfl (World.ownsRow_nil _ _ _ _) x n cap (cells l) rfl (by simp [cells, hl]) hsl.row.cellsAt (cells_one l) (by omega) (by omega) (Nat.le_refl _) ?_; intro v2 w2 hown2 hg2 _; simp only [Nat.zero_add, List.nil_append] at hown2; have hb2 : Below w.heap.size w w2 := (Below.refl _ _).grown hg2 (Nat.le_refl _) (by intro k hk; simp [Value.ownBlock, Act.eval] at hk))
      | (at_builtin; refine wpList_append_own _ rfl (.tmp 7) (.tmp 13) 86 rfl w.heap.size 5 i0 (.int .u8 0) 1 1 Try.underlying86 hi hz0 hz1 hz2 rfl (by decide) _ n (cells l) rfl (hown2.alloc _) ⟨_, 0, none⟩ 2 2 (cells [_, _]) rfl rfl (cell_two _ _ _) (cells_one _) (by unfold maxLen; omega) (by omega) (by have := hb2.size; simp; omega) ?_; intro v3 w3 hown3 hg3 _))
    go_ret
    refine ⟨_, rfl, ⟨by simpa [sealI, cells, hl] using hown3, hs8⟩, ?_⟩
    have z2 := hb2.size
    exact (hb2.alloc z2 _).grown hg3 (by simp; omega) (fun k hk => (hown2.lt k hk).1)
end Go.Proofs.Ytjdbjmfkheffdaa.B
end
section
namespace Go.Proofs.Ytjdbjmfkheffdaa
open Go.RowKit
set_option linter.unusedVariables false
set_option maxRecDepth 20000

theorem head_of (x : Pk) (h : x.Right) : headI x = [x.k, x.f, x.t, x.i / 256, x.i % 256, x.l, x.p + 1, x.s, flI x.fl, (x.z.length : Int)] := by
  obtain ⟨⟨k0, k1⟩, ⟨f0, f1⟩, ⟨t0, t1⟩, ⟨i0, i1⟩, ⟨l0, l1⟩, ⟨p0, p1⟩, ⟨s0, s1⟩, z1⟩ := h
  unfold headI
  rw [show x.k % 256 = x.k by omega, show x.f % 256 = x.f by omega, show x.t % 256 = x.t by omega, show x.i / 256 % 256 = x.i / 256 by omega, show x.l % 256 = x.l by omega, show (x.p + 1) % 256 = x.p + 1 by omega, show x.s % 256 = x.s by omega, show (x.z.length : Int) % 256 = x.z.length by omega]

set_option maxHeartbeats 2000000 in
set_option maxRecDepth 20000 in
/-- A packet that may be: its seal. -/
theorem refPack_yes (x : Pk) (a : Option Addr) (n cap : Nat) (w : World) (hsl : Sl w a n cap x.z) (hr : x.right = true) :
    Calls Try.prog 47 #[x.val (.slice a n cap)] w fun e w' => ∃ v, e = .returned (.tuple #[v, .bool true]) ∧ B.Own w' w.heap.size v (B.sealI (packI x)) ∧ Below w.heap.size w w' := by
  have HN : Hid (x.z.length = n) := hsl.len
  have hR := (Pk.right_iff x).1 hr
  have HE : Hid (x.right = true) := hr
  have hn4 : n ≤ 4 := by have := hR.z; have := HN.out; omega
  have hmx := hsl.max
  unfold maxLen at hmx
  have hle := hsl.le
  have HF := head_of x hR
  rw [HN.out] at HF
  have HH : Hid (headI x = [x.k, x.f, x.t, x.i / 256, x.i % 256, x.l, x.p + 1, x.s, flI x.fl, (n : Int)]) := HF
  obtain ⟨⟨k0, k1⟩, ⟨f0, f1⟩, ⟨t0, t1⟩, ⟨i0, i1⟩, ⟨l0, l1⟩, ⟨p0, p1⟩, ⟨s0, s1⟩, z1⟩ := hR
  obtain ⟨ib, hib, hzb0, hzb1, hzb2⟩ := info_parts B.Try.info5
  clear hr HF z1
  unfold Pk.val
  go_enter Try.func47, Try.ntmps47
  go_upto_if 13 with (go_at_call 45; refine (right_any x a n cap _ (hsl.below (ba (Below.refl _ _)))).mono ?_; rintro e w1 ⟨rfl, hb1⟩; rw [HE.out]; obtain ⟨hc1, hf1⟩ := bcell hb1; have bx := (Bx.made w x (.slice a n cap)).next hb1; have B1 := next (ba (Below.refl _ _)) hb1)
  clear hc1 hf1
  have hs1 := hsl.below B1
  have hz1 : w.heap.size < w1.heap.size := bx.lt
  clear hb1
  go_cut [4, 0, 9, 13] (fun v _ _ _ wx => v = .int .u8 (flI x.fl) ∧ wx = w1)
  case first =>
    cases hfl : x.fl
    · have HL : Hid (flI x.fl = 0) := by show _ = _; rw [hfl]; rfl
      go_wp2
      go_meet
      case rel => exact ⟨by rw [HL.out], rfl⟩
    · have HL : Hid (flI x.fl = 1) := by show _ = _; rw [hfl]; rfl
      go_wp2
      go_meet
      case rel => exact ⟨by rw [HL.out], rfl⟩
  case rest =>
    obtain ⟨rfl, rfl⟩ := hcut
    obtain ⟨c0, c1, c2, c3, c4, c5, c6, c7, c8, fz, lt⟩ := bx
    go_wp2
    have hw0 : B.Own (wc.alloc (.cells #[.int .u8 x.k, .int .u8 x.f, .int .u8 x.t, .int .u8 (x.i / 256), .int .u8 (x.i % 256), .int .u8 x.l, .int .u8 (x.p + 1), .int .u8 x.s, .int .u8 (flI x.fl), .int .u8 (n : Int)] 5)) wc.heap.size (.slice (some ⟨wc.heap.size, 0, none⟩) 10 10) (headI x) := by
      have := hd_own (w := wc.alloc (.cells #[.int .u8 x.k, .int .u8 x.f, .int .u8 x.t, .int .u8 (x.i / 256), .int .u8 (x.i % 256), .int .u8 x.l, .int .u8 (x.p + 1), .int .u8 x.s, .int .u8 (flI x.fl), .int .u8 (n : Int)] 5)) (base := wc.heap.size) (headI x) (headI_b8 x) (by rw [headI_len]; unfold maxLen; omega) wc.heap.size (Nat.le_refl _) (by rw [HH.out]; exact heap_alloc_new _ _)
      rwa [headI_len] at this
    have hb0 : Below wc.heap.size wc (wc.alloc (.cells #[.int .u8 x.k, .int .u8 x.f, .int .u8 x.t, .int .u8 (x.i / 256), .int .u8 (x.i % 256), .int .u8 x.l, .int .u8 (x.p + 1), .int .u8 x.s, .int .u8 (flI x.fl), .int .u8 (n : Int)] 5)) := ba (Below.refl _ _)
    clear k0 k1 f0 f1 t0 t1 i0 i1 l0 l1 p0 p1 s0 s1 c0 c1 c2 c3 c4 c5 c6 c7 c8 fz lt hsl HH HE
    generalize wc.alloc _ = W at *
    go_loopw [5, 49] (fun b i wr => ∃ k : Nat, k ≤ n ∧ i = .int .i64 k ∧ B.Own wr wc.heap.size b (headI x ++ bodyI (x.z.take k)) ∧ Below wc.heap.size wc wr) (fun _ i _ => n - (intOf i).toNat)
    case atStart => exact ⟨0, by omega, rfl, by simpa [bodyI] using hw0, hb0⟩
    case round =>
      clear hw0 hb0
      obtain ⟨k, hk, rfl, hown2, hbr⟩ := hrel
      have hLen : (headI x ++ bodyI (x.z.take k)).length = 10 + 8 * k := by rw [List.length_append, headI_len, bodyI_len, List.length_take, HN.out]; omega
      have hsr := hs1.below hbr
      by_cases hlt : k < n
      · have HS : Hid (bodyI (x.z.take (k + 1)) = bodyI (x.z.take k) ++ wordI (x.z[k]?.getD 0)) := bodyI_take _ _ (by have := HN.out; omega)
        obtain ⟨b, o, rfl, hbl, hcell⟩ := hsr.at hlt
        have hz := hbr.size
        generalize x.z[k]?.getD 0 = y at *
        obtain ⟨m, hm⟩ : ∃ m, headI x ++ bodyI (x.z.take k) = m := ⟨_, rfl⟩
        have HM : Hid (headI x ++ bodyI (x.z.take k) = m) := hm
        rw [hm] at hown2 hLen
        have hL : m.length ≤ 100 := by omega
        clear hm hLen
        go_wp2
        clear hsr hcell
        go_loopw [5, 8] (fun b i wq => ∃ j : Nat, j ≤ 8 ∧ i = .int .i64 (7 - (j : Int)) ∧ B.Own wq wc.heap.size b (m ++ wordN y j) ∧ Below wc.heap.size wc wq) (fun _ i _ => (1 + intOf i).toNat)
        case atStart => exact ⟨0, by omega, rfl, by simpa [wordN] using hown2, hbr⟩
        case round =>
          clear hown2 hbr hz
          obtain ⟨j, hj, rfl, hown3, hbq⟩ := hrel
          have hzq := hbq.size
          by_cases hjl : j < 8
          · have HW : Hid (wordN y (j + 1) = wordN y j ++ [wbyte y j]) := wordN_succ y j
            have hL3 : (m ++ wordN y j).length ≤ 108 := by rw [List.length_append, wordN_len]; omega
            obtain ⟨q, hq⟩ : ∃ q, m ++ wordN y j = q := ⟨_, rfl⟩
            have HQ : Hid (m ++ wordN y j = q) := hq
            rw [hq] at hown3 hL3
            clear hq
            obtain ⟨s, hs⟩ : ∃ s : Nat, 7 - j = s := ⟨_, rfl⟩
            have hs2 : (7 : Int) - (j : Int) = (s : Int) := by omega
            have HB : Hid (wbyte y j = IntKind.u64.wrap y / 2 ^ (8 * s) % 256) := by show _ = _; unfold wbyte; rw [hs]
            have HS2 : Hid (7 - (j : Int) = (s : Int)) := hs2
            have hs3 : s ≤ 7 := by omega
            rw [hs2]
            clear hs hs2
            obtain ⟨a3, cap3, rfl, hsl3⟩ := hown3.sl
            have hq0 : 0 ≤ IntKind.u64.wrap y := by rw [IntKind.wrap_u64]; omega
            have hs0 : (0 : Int) ≤ (s : Int) := by omega
            go_wp2_with (at_builtin; refine wpList_append_own _ rfl (.tmp 57) (.tmp 65) 86 rfl wc.heap.size 5 ib (.int .u8 0) 1 1 Try.underlying86 hib hzb0 hzb1 hzb2 rfl (by decide) _ q.length (B.cells q) rfl (hown3.1.alloc _) ⟨_, 0, none⟩ 1 1 (B.cells [_]) rfl rfl (cell_one' _ _) (B.cells_one _) (by unfold maxLen; omega) (by omega) (by simp; omega) ?_; intro v4 w4 hown4 hg4 _)
            have hb4 := (hbq.alloc hzq (.cells #[.int .u8 (IntKind.u64.wrap y / 2 ^ (8 * s) % 256)] 5)).grown hg4 (by simp; omega) (fun k hk => by have := (hown3.1.lt k hk).1; omega)
            go_roundw
            case rel =>
              have hm8 := HS2.out
              refine ⟨j + 1, by omega, by rw [← hm8]; congr 1; omega, ?_, hb4⟩
              rw [HW.out, ← List.append_assoc, HQ.out, HB.out]
              exact B.own_snoc hown4 hown3.2 (by have := (wbyte_bd y j).1; rw [HB.out] at this; exact this) (by have := (wbyte_bd y j).2; rw [HB.out] at this; exact this)
            case measure => simp [intOf]; omega
          · obtain rfl : j = 8 := by omega
            go_wp2
            go_roundw
            case rel =>
              refine ⟨k + 1, by omega, by go_num, ?_, hbq⟩
              rw [HS.out, ← List.append_assoc, HM.out]
              exact hown3
            case measure => simp [intOf]; omega
      · obtain rfl : k = n := by omega
        have HT : Hid (x.z.take k = x.z) := List.take_of_length_le (by have := HN.out; omega)
        obtain ⟨a2, cap2, rfl, hs2⟩ := hown2.sl' hLen
        clear hLen
        go_wp2_with (go_at_call 67; refine (B.refSeal_any a2 _ _ cap2 _ hs2 (by omega)).mono ?_; rintro e w5 ⟨v5, rfl, hown5, hb5⟩)
        go_ret2
        refine ⟨_, rfl, ?_, next (next B1 hbr) hb5⟩
        rw [HT.out] at hown5
        exact B.Own.low hown5 (by have := hbr.size; have := B1.size; omega)
set_option maxHeartbeats 1000000 in
/-- A packet that may not be. -/
theorem refPack_no (x : Pk) (a : Option Addr) (n cap : Nat) (w : World) (hsl : Sl w a n cap x.z) (hr : x.right = false) :
    Calls Try.prog 47 #[x.val (.slice a n cap)] w fun e w' => e = .returned (.tuple #[.slice none 0 0, .bool false]) ∧ Below w.heap.size w w' := by
  have HE : Hid (x.right = false) := hr
  clear hr
  unfold Pk.val
  go_enter Try.func47, Try.ntmps47
  go_wp2_with (go_at_call 45; refine (right_any x a n cap _ (hsl.below (ba (Below.refl _ _)))).mono ?_; rintro e w1 ⟨rfl, hb1⟩; rw [HE.out])
  go_ret2
  exact ⟨rfl, next (ba (Below.refl _ _)) hb1⟩
end Go.Proofs.Ytjdbjmfkheffdaa
end
section
namespace Go.Proofs.Ytjdbjmfkheffdaa.B
open Go.RowKit
set_option linter.unusedVariables false
set_option maxRecDepth 20000

/-! ### Spoil -/
theorem mdig_and {m : Nat} (hm : m < 65536) (i : Nat) : bits .and .u16 ((m : Int) / 2 ^ (15 - i)) 1 = ((m / 2 ^ (15 - i) % 2 : Nat) : Int) := by
  have e1 : ((m : Int) / 2 ^ (15 - i)) = ((m / 2 ^ (15 - i) : Nat) : Int) := by simp
  have hle : m / 2 ^ (15 - i) ≤ m := Nat.div_le_self _ _
  rw [e1, show (1 : Int) = ((1 : Nat) : Int) from rfl, u16_and_nat _ 1 (by omega) (by decide), Nat.and_one_is_mod]
theorem turnI_form {x mask : Int} (hm0 : 0 ≤ mask) (hm1 : mask < 65536) (t i : Nat) : turnI x mask t i = bits .xor .u8 x (IntKind.u8.wrap (bits .and .u16 (mask / 2 ^ (15 - i)) 1 * 2 ^ (7 - t % 8))) := by
  obtain ⟨m, rfl⟩ := Int.eq_ofNat_of_zero_le hm0
  have e1 : ((m : Int) / 2 ^ (15 - i) % 256) = ((m / 2 ^ (15 - i) % 256 : Nat) : Int) := by simp
  have e2 : bits .and .u8 ((m : Int) / 2 ^ (15 - i) % 256) 1 = ((m / 2 ^ (15 - i) % 2 : Nat) : Int) := by
    rw [e1, show (1 : Int) = ((1 : Nat) : Int) from rfl, u8_and_nat _ 1 (by omega) (by decide), Nat.and_one_is_mod]
    congr 1; omega
  unfold turnI
  rw [e2, mdig_and (by omega)]
theorem sp_zero {l : List Int} {bit mask : Int} {i : Nat} (h8 : B8 l) (hm0 : 0 ≤ mask) (hm1 : mask < 65536) (h : (bits .and .u16 (mask / 2 ^ (15 - i)) 1 == 0) = true) : spStep l bit mask i = l := by
  refine digs_ext (spStep_b8 h8 _ _ _) h8 (spStep_len ..) fun k hk => ?_
  rw [spStep_len] at hk
  rw [spStep_dig h8 hm0 hm1 i k hk]
  obtain ⟨m, rfl⟩ := Int.eq_ofNat_of_zero_le hm0
  rw [mdig_and (by omega)] at h
  have : mdig (m : Int) i = false := by
    unfold mdig; rw [Int.toNat_natCast, Nat.testBit_eq_decide_div_mod_eq]
    have h' : m / 2 ^ (15 - i) % 2 = 0 := by
      rcases Nat.mod_two_eq_zero_or_one (m / 2 ^ (15 - i)) with e | e
      · exact e
      · rw [e] at h; exact absurd h (by decide)
    rw [h']; rfl
  rw [this, Bool.and_false, Bool.xor_false]
theorem pow_seven (r : Nat) (hr : r < 8) : ((1 : Int) * 2 ^ (7 - r)) = 128 / 2 ^ r := by
  match r, hr with
  | 0, _ | 1, _ | 2, _ | 3, _ | 4, _ | 5, _ | 6, _ | 7, _ => decide
theorem sp_one {x mask : Int} {t i : Nat} (hm0 : 0 ≤ mask) (hm1 : mask < 65536) (h : (bits .and .u16 (mask / 2 ^ (15 - i)) 1 == 0) = false) : turnI x mask t i = bits .xor .u8 x (128 / 2 ^ (t % 8)) := by
  rw [turnI_form hm0 hm1]
  obtain ⟨m, rfl⟩ := Int.eq_ofNat_of_zero_le hm0
  rw [mdig_and (by omega)] at h ⊢
  have e : m / 2 ^ (15 - i) % 2 = 1 := by
    rcases Nat.mod_two_eq_zero_or_one (m / 2 ^ (15 - i)) with h' | h'
    · rw [h'] at h; simp at h
    · exact h'
  rw [e]
  congr 1
  have p := pow_seven (t % 8) (by omega)
  rw [show (((1 : Nat) : Int)) = 1 from rfl, p, IntKind.wrap_u8']
  generalize hr : t % 8 = r
  have hr8 : r < 8 := by omega
  match r, hr8 with
  | 0, _ | 1, _ | 2, _ | 3, _ | 4, _ | 5, _ | 6, _ | 7, _ => decide

set_option maxHeartbeats 2000000 in
theorem refSpoil_any (a : Option Addr) (l : List Int) (n cap : Nat) (bit mask : Int) (w : World) (hsl : Sl w a n cap l) (hn : n ≤ 140737488351300) (hm0 : 0 ≤ mask) (hm1 : mask < 65536) :
    Calls Try.prog 49 #[.slice a n cap, .int .i64 bit, .int .u16 mask] w fun e w' => ∃ v, e = .returned v ∧ Own w' w.heap.size v (spoilI l bit mask) ∧ Below w.heap.size w w' := by
  have hl := hsl.len
  obtain ⟨i0, hi, hz0, hz1, hz2⟩ := info_parts Try.info5
  have hm : n ≤ maxLen := Nat.le_trans hsl.le hsl.max
  go_enter Try.func49, Try.ntmps49
  go_upto_region 1 with fail
  go_cut [7] (fun v wx => Own wx w.heap.size v l ∧ Below w.heap.size w wx)
  case first =>
    cases a with
    | none =>
      obtain ⟨rfl, rfl⟩ := hsl.none0 rfl
      obtain rfl : l = [] := List.eq_nil_of_length_eq_zero hl
      go_wp2_with (at_builtin; refine wpList_append_own_none rfl _ _ 86 rfl w.heap.size 5 i0 1 Try.underlying86 hi _ 0 [] rfl (World.ownsRow_nil _ _ _ _) rfl ?_)
      go_meet
      case rel => exact ⟨⟨World.ownsRow_nil _ _ _ _, hsl.b8⟩, Below.refl _ _⟩
    | some x =>
      go_wp2_with (at_builtin; refine wpList_append_own _ rfl _ _ 86 rfl w.heap.size 5 i0 (.int .u8 0) 1 1 Try.underlying86 hi hz0 hz1 hz2 rfl (by decide) _ 0 [] rfl (World.ownsRow_nil _ _ _ _) x n cap (cells l) rfl (by simp [cells, hl]) hsl.row.cellsAt (cells_one l) (by omega) (by omega) (Nat.le_refl _) ?_; intro v' w1 hown hgrow _)
      go_meet
      case rel => exact ⟨⟨by simpa [hl] using hown, hsl.b8⟩, (Below.refl _ _).grown hgrow (Nat.le_refl _) (by intro k hk; simp [Value.ownBlock, Act.eval] at hk)⟩
  case rest =>
    obtain ⟨hown, hb⟩ := hcut
    rename_i v7
    obtain ⟨av, cv, ev, hsv⟩ := hown.sl' hl
    subst ev
    go_wp2_with fail
    go_loopw [8] (fun i wr => ∃ k : Nat, k ≤ 16 ∧ i = .int .i64 k ∧ Own wr w.heap.size (.slice av n cv) (spN l bit mask k) ∧ Below w.heap.size w wr) (fun i _ => 16 - (intOf i).toNat)
    case atStart => exact ⟨0, by omega, rfl, hown, hb⟩
    case round =>
      obtain ⟨k, hk, rfl, hown1, hb1⟩ := hrel
      clear hown hb hsv hi hz0 hz1 hz2
      have hlk := spN_len l bit mask k
      by_cases hlt : k < 16
      · have HS : Hid (spN l bit mask (k + 1) = spStep (spN l bit mask k) bit mask k) := spN_succ l bit mask k
        have hb8 := spN_b8 hsl.b8 bit mask k
        by_cases hd : (bits .and .u16 (mask / 2 ^ (15 - k)) 1 == 0) = true
        · have HQ : Hid (spStep (spN l bit mask k) bit mask k = spN l bit mask k) := sp_zero hb8 hm0 hm1 hd
          go_wp2
          go_roundw
          case rel => exact ⟨k + 1, by omega, by go_num, by rw [HS.out, HQ.out]; exact hown1, hb1⟩
          case measure => simp [intOf]; omega
        have hd' : (bits .and .u16 (mask / 2 ^ (15 - k)) 1 == 0) = false := by simpa using hd
        clear hd
        by_cases h2 : 8 * (n : Int) < bit
        · have HQ : Hid (spStep (spN l bit mask k) bit mask k = spN l bit mask k) := spStep_out (.inr (by omega))
          go_wp2
          go_roundw
          case rel => exact ⟨k + 1, by omega, by go_num, by rw [HS.out, HQ.out]; exact hown1, hb1⟩
          case measure => simp [intOf]; omega
        by_cases h1 : bit < -16
        · have HQ : Hid (spStep (spN l bit mask k) bit mask k = spN l bit mask k) := spStep_out (.inl (by omega))
          go_wp2
          go_roundw
          case rel => exact ⟨k + 1, by omega, by go_num, by rw [HS.out, HQ.out]; exact hown1, hb1⟩
          case measure => simp [intOf]; omega
        by_cases hin : bit + k < 0
        · have HQ : Hid (spStep (spN l bit mask k) bit mask k = spN l bit mask k) := spStep_out (.inl hin)
          go_wp2
          go_roundw
          case rel => exact ⟨k + 1, by omega, by go_num, by rw [HS.out, HQ.out]; exact hown1, hb1⟩
          case measure => simp [intOf]; omega
        by_cases hin2 : 8 * (n : Int) ≤ bit + k
        · have HQ : Hid (spStep (spN l bit mask k) bit mask k = spN l bit mask k) := spStep_out (.inr (by omega))
          go_wp2
          go_roundw
          case rel => exact ⟨k + 1, by omega, by go_num, by rw [HS.out, HQ.out]; exact hown1, hb1⟩
          case measure => simp [intOf]; omega
        obtain ⟨t, ht⟩ : ∃ t : Nat, bit + (k : Int) = (t : Int) := ⟨(bit + k).toNat, by omega⟩
        have HQ : Hid (spStep (spN l bit mask k) bit mask k = (spN l bit mask k).set (t / 8) (turnI ((spN l bit mask k)[t / 8]?.getD 0) mask t k)) := spStep_in ht (by omega)
        have HT : Hid (∀ x, turnI x mask t k = bits .xor .u8 x (128 / 2 ^ (t % 8))) := fun x => sp_one hm0 hm1 hd'
        obtain ⟨g, cp, eg, hbg, hrow⟩ := own_some hown1 (hlk.trans hl) (by omega)
        simp at eg
        obtain ⟨rfl, rfl⟩ := eg
        have ht8 : t / 8 < n := by omega
        have hcell := hrow.cellAt (t / 8) (by omega)
        have hcell' : (cells (spN l bit mask k))[t / 8]? = some (.int .u8 ((spN l bit mask k)[t / 8]?.getD 0)) := by simp [cells, show t / 8 < (spN l bit mask k).length by omega]
        rw [hcell'] at hcell
        have hfz := hrow.frozenAt (t / 8)
        have hst := (hrow.stored (t / 8) (.int .u8 (bits .xor .u8 ((spN l bit mask k)[t / 8]?.getD 0) (128 / 2 ^ (t % 8)))))
        rw [cells_set] at hst
        have hbl : spN l bit mask (k + 1) = (spN l bit mask k).set (t / 8) (bits .xor .u8 ((spN l bit mask k)[t / 8]?.getD 0) (128 / 2 ^ (t % 8))) := by rw [← HT.out]; exact HS.out.trans HQ.out
        have HR : Hid (Own (wr.setCell ⟨g, t / 8, none⟩ (.int .u8 (bits .xor .u8 ((spN l bit mask k)[t / 8]?.getD 0) (128 / 2 ^ (t % 8))))) w.heap.size (.slice (some ⟨g, 0, none⟩) n cv) (spN l bit mask (k + 1)) ∧ Below w.heap.size w (wr.setCell ⟨g, t / 8, none⟩ (.int .u8 (bits .xor .u8 ((spN l bit mask k)[t / 8]?.getD 0) (128 / 2 ^ (t % 8)))))) := by
          refine ⟨⟨?_, spN_b8 hsl.b8 bit mask (k + 1)⟩, hb1.setCell hbg _⟩
          rw [spN_len, hl, hbl]; exact hst.1
        generalize (spN l bit mask k)[t / 8]?.getD 0 = x at *
        clear hst hbl HS HQ HT hcell' hown1 hrow hlk hb8
        have q0 : (0 : Int) ≤ (t : Int) := by omega
        have q1 : ((t : Int) : Int) < 8 * (n : Int) := by omega
        clear hin hin2
        obtain ⟨q, r, hdv, hmv, hr, hq⟩ : ∃ q r : Nat, (t : Int) / 8 = (q : Int) ∧ (t : Int) % 8 = (r : Int) ∧ r = t % 8 ∧ q = t / 8 := ⟨t / 8, t % 8, by omega, by omega, rfl, rfl⟩
        rw [← hq] at hcell hfz HR
        rw [← hr] at HR
        have q2 : (0 : Int) ≤ (q : Int) := by omega
        have q3 : (q : Int) < (n : Int) := by omega
        have q4 : (r : Int) < 8 := by omega
        have q5 : (0 : Int) ≤ (r : Int) := by omega
        clear hr hq ht8
        go_wp2
        go_roundw
        case rel => exact ⟨k + 1, by omega, by go_num, HR.out.1, HR.out.2⟩
        case measure => simp [intOf]; omega
      · obtain rfl : k = 16 := by omega
        go_wp2
        go_ret
        exact ⟨_, rfl, hown1, hb1⟩

/-! ### Lend, Intact -/
/-- Bytes that are lent: three more lie behind them, each 85. -/
def Lent (w : World) (base : Nat) (v : Value) (l : List Int) : Prop :=
  ∃ g, v = .slice (some ⟨g, 0, none⟩) l.length (l.length + 3) ∧ Own w base (.slice (some ⟨g, 0, none⟩) (l.length + 3) (l.length + 3)) (l ++ [85, 85, 85])
/-- The first n places are l's, those behind it up to k are 85, the others 0. -/
def lendN (l : List Int) (k : Nat) : List Int := l ++ (List.replicate (k - l.length) 85 ++ List.replicate (l.length + 3 - k) 0)
theorem lendN_len (l : List Int) (k : Nat) (h0 : l.length ≤ k) (h1 : k ≤ l.length + 3) : (lendN l k).length = l.length + 3 := by simp [lendN]; omega
theorem lendN_set (l : List Int) (k : Nat) (h0 : l.length ≤ k) (h1 : k < l.length + 3) : (lendN l k).set k 85 = lendN l (k + 1) := by
  obtain ⟨j, rfl⟩ : ∃ j, k = l.length + j := ⟨k - l.length, by omega⟩
  unfold lendN
  rw [show l.length + j - l.length = j by omega, show l.length + j + 1 - l.length = j + 1 by omega, show l.length + 3 - (l.length + j) = 3 - j by omega, show l.length + 3 - (l.length + j + 1) = 2 - j by omega]
  rw [List.set_append_right _ _ (by omega), show l.length + j - l.length = j by omega]
  have hj : j < 3 := by omega
  clear h0 h1
  match j, hj with
  | 0, _ | 1, _ | 2, _ => rfl
theorem lendN_b8 {l : List Int} (h : B8 l) (k : Nat) : B8 (lendN l k) := by
  refine B8_append h (B8_append ?_ ?_)
  · intro x hx; obtain ⟨_, rfl⟩ := List.mem_replicate.1 hx; omega
  · intro x hx; obtain ⟨_, rfl⟩ := List.mem_replicate.1 hx; omega
theorem lendN_end (l : List Int) : lendN l (l.length + 3) = l ++ [85, 85, 85] := by
  unfold lendN
  rw [show l.length + 3 - l.length = 3 by omega, Nat.sub_self]; rfl
theorem lendN_begin (l : List Int) : lendN l l.length = l ++ List.replicate 3 0 := by
  unfold lendN
  rw [Nat.sub_self, show l.length + 3 - l.length = 3 by omega]; rfl
theorem made_own3 (w : World) (base n : Nat) (hb : base ≤ w.heap.size) (hn : n ≤ 140737488351300) : (w.alloc (.cells (madeCells #[.int .u8 0] (n + 3)) 5)).heap[w.heap.size]? = some (.cells (cells (List.replicate (n + 3) 0)).toArray 5 (0, 0)) := by
  rw [heap_alloc_new]
  congr 2
  apply Array.ext'
  rw [toList_madeCells_one]
  simp [cells]

theorem own_of_block {w : World} {base g : Nat} {m : List Int} (h : w.heap[g]? = some (.cells (cells m).toArray 5 (0, 0))) (h8 : B8 m) (hm : m.length ≤ maxLen) (hb : base ≤ g) : Own w base (.slice (some ⟨g, 0, none⟩) m.length m.length) m :=
  ⟨⟨by simp [cells], Or.inr ⟨g, m.length, (cells m).toArray, rfl, hb, h, Nat.le_refl _, hm, by simp [cells], by rw [Nat.mul_one]; exact List.take_of_length_le (by simp [cells])⟩⟩, h8⟩
theorem lend_splice (l : List Int) : splice (cells (List.replicate (l.length + 3) 0)) 0 (cells l) = cells (lendN l l.length) := by
  rw [lendN_begin]
  unfold splice cells
  rw [List.take_zero, List.nil_append, Nat.zero_add, List.map_append]
  congr 1
  simp

end Go.Proofs.Ytjdbjmfkheffdaa.B
end
section
namespace Go.Proofs.Ytjdbjmfkheffdaa.B
open Go.RowKit
set_option linter.unusedVariables false
set_option maxRecDepth 20000

theorem conv_any {w : World} {a : Option Addr} {n cap : Nat} {l : List Int} (h : Sl w a n cap l) (h0 : 0 < n) : (convert 86 9 (.slice a n cap)).run Try.prog w = .ok (.string (strOfNums l)) w := by
  obtain ⟨b, o, rfl, hc⟩ := h.row.some (by have := h.len; omega)
  exact run_convert_bytes_arg w 86 5 Try.underlying86 Try.underlying5 b o n cap l h.len (fun i hi => by rw [hc i (by have := h.len; omega)]; simp [List.getD]) 9 Try.underlying9
theorem str_inj {l m : List Int} (hl : B8 l) (hm : B8 m) (h : strOfNums l = strOfNums m) : l = m := by
  have h1 : (strOfNums l).data.toList = (strOfNums m).data.toList := by rw [h]
  rw [strOfNums_data, strOfNums_data] at h1
  obtain ⟨p, rfl⟩ := ints_of l hl
  obtain ⟨q, rfl⟩ := ints_of m hm
  have e : ∀ p : List (BitVec 8), (ints p).map (fun n => UInt8.ofNat n.toNat) = p.map UInt8.ofBitVec := by
    intro p
    unfold ints
    rw [List.map_map]
    refine List.map_congr_left fun x _ => ?_
    apply UInt8.toBitVec_inj.1
    simp
  rw [e, e] at h1
  have := (List.map_inj_right (f := UInt8.ofBitVec) (fun x y hxy => by simpa using congrArg UInt8.toBitVec hxy)).1 h1
  rw [this]
theorem seal_open {l : List Int} {m : Nat} (h8 : B8 l) (hl : l.length = m + 2) : sealI (l.take m) = l ↔ sumI (l.take m) = l[m]?.getD 0 * 256 + l[m + 1]?.getD 0 := by
  have b := sumI_bd _ (B8_take h8 m)
  have x := B8_get h8 m
  have y := B8_get h8 (m + 1)
  have sp := split_two hl
  constructor
  · intro h
    have hm : (l.take m).length = m := by simp; omega
    have g0 : l[m]?.getD 0 = sumI (l.take m) / 256 := by
      conv => lhs; rw [← h]
      unfold sealI; rw [List.getElem?_append_right (by omega), hm]; simp
    have g1 : l[m + 1]?.getD 0 = sumI (l.take m) % 256 := by
      conv => lhs; rw [← h]
      unfold sealI; rw [List.getElem?_append_right (by omega), hm]; simp
    omega
  · intro h
    conv => rhs; rw [sp]
    unfold sealI
    rw [show sumI (l.take m) / 256 = l[m]?.getD 0 by omega, show sumI (l.take m) % 256 = l[m + 1]?.getD 0 by omega]

set_option maxHeartbeats 1000000 in
theorem refOpen_any (a : Option Addr) (l : List Int) (n cap : Nat) (w : World) (hsl : Sl w a n cap l) (hn : n ≤ 140737488351300) :
    Calls Try.prog 68 #[.slice a n cap] w fun e w' => ∃ v, e = .returned (.tuple #[v, .bool (openI l).isSome]) ∧ Own w' w.heap.size v ((openI l).getD []) ∧ Below w.heap.size w w' := by
  have hl := hsl.len
  obtain ⟨i0, hi, hz0, hz1, hz2⟩ := info_parts Try.info5
  by_cases h2 : n < 2
  · have HO : Hid (openI l = none) := openI_short (by omega)
    have hd : decide ((n : Int) < 2) = true := by simp; omega
    go_enter Try.func68, Try.ntmps68
    go_wp2_with fail
    go_quiet (fail)
    go_wp2
    go_ret2
    exact ⟨_, ret_two (by rw [HO.out]; rfl), by rw [HO.out]; exact own_nil _ _, below_dn w _⟩
  · obtain ⟨m, rfl⟩ : ∃ m, n = m + 2 := ⟨n - 2, by omega⟩
    have hst := hsl.take m (by omega)
    have hle := hsl.le
    have hslen : (sealI (l.take m)).length = m + 2 := by have := hst.len; simp [sealI]; omega
    have hd : decide ((m : Int) + 2 < 2) = false := by simp; omega
    have q0 : (0 : Int) ≤ (m : Int) := by omega
    have q1 : (m : Int) ≤ (cap : Int) := by omega
    have f0 : IntKind.i64.wrap (m : Int) = (m : Int) := wrap_small _ (by omega) (by omega)
    have hso := seal_open hsl.b8 hl
    by_cases hs : sealI (l.take m) = l
    · have HO : Hid (openI l = some (l.take m)) := openI_yes hl (hso.1 hs)
      have hbq : ((strOfNums (sealI (l.take m))).toList == (strOfNums l).toList) = true := by rw [hs]; exact beq_self_eq_true _
      clear hso hs
      obtain ⟨b, o, ea, _⟩ := hsl.row.some (by omega)
      have HE : Hid (a = some ⟨b, o, none⟩) := ea
      clear ea
      go_enter Try.func68, Try.ntmps68
      go_upto_region 1 with fail
      go_region_held_law (fun w' => Sl w' a m cap (l.take m) ∧ (convert 86 9 (.slice a (m + 2) cap)).run Try.prog w' = .ok (.string (strOfNums l)) w') (first | exact ⟨hst.same rfl, conv_any (hsl.same rfl) (by omega)⟩ | exact ⟨(hst.same (w' := w.drew) rfl).below hb2, cv2⟩) ((go_at_call 67; refine (refSeal_any a (l.take m) m cap _ (by exact hst.same rfl) (by omega)).mono ?_; rintro e w2 ⟨v2, rfl, hown2, hb2⟩; obtain ⟨a2, cap2, rfl, hsl2⟩ := hown2.sl' hslen; have cv1 := conv_any hsl2 (by omega); have cv2 := conv_any ((hsl.same (w' := w.drew) rfl).below hb2) (by omega)))
      have hstw := (hst.same (w' := w.drew) rfl).below hb2
      have hlm := hst.len
      clear cv1 cv2 hsl2 hown2
      obtain rfl := HE.out
      go_wp2_with (at_builtin; refine wpList_append_own _ rfl _ _ 86 rfl w.heap.size 5 i0 (.int .u8 0) 1 1 Try.underlying86 hi hz0 hz1 hz2 rfl (by decide) _ 0 [] rfl (World.ownsRow_nil _ _ _ _) ⟨b, o, none⟩ m cap (cells (l.take m)) rfl (by simp [cells]; omega) hstw.row.cellsAt (cells_one _) (by unfold maxLen; omega) (by omega) (by have := hb2.size; simpa using this) ?_; intro v3 w3 hown3 hg3 _)
      go_ret2
      refine ⟨_, ret_two (by rw [HO.out]; rfl), by rw [HO.out]; exact ⟨by rw [Option.getD_some, hlm]; simpa using hown3, hst.b8⟩, ?_⟩
      exact (nextB ((Below.refl _ _).drew) hb2).grown hg3 (by have := hb2.size; simpa using this) (by intro k hk; simp [Value.ownBlock, Act.eval] at hk)
    · have HO : Hid (openI l = none) := openI_no hl (fun h => hs (hso.2 h))
      have hbq : ((strOfNums (sealI (l.take m))).toList == (strOfNums l).toList) = false := by
        rw [beq_eq_false_iff_ne]
        intro e
        exact hs (str_inj (sealI_b8 hst.b8) hsl.b8 (by
          have e1 := congrArg List.toArray e
          exact ByteArray.ext (by simpa [ByteArray.toList_eq] using e)))
      clear hso hs
      go_enter Try.func68, Try.ntmps68
      go_upto_region 1 with fail
      go_region_held_law (fun w' => Sl w' a m cap (l.take m) ∧ (convert 86 9 (.slice a (m + 2) cap)).run Try.prog w' = .ok (.string (strOfNums l)) w') (first | exact ⟨hst.same rfl, conv_any (hsl.same rfl) (by omega)⟩ | exact ⟨(hst.same (w' := w.drew) rfl).below hb2, cv2⟩) ((go_at_call 67; refine (refSeal_any a (l.take m) m cap _ (by exact hst.same rfl) (by omega)).mono ?_; rintro e w2 ⟨v2, rfl, hown2, hb2⟩; obtain ⟨a2, cap2, rfl, hsl2⟩ := hown2.sl' hslen; have cv1 := conv_any hsl2 (by omega); have cv2 := conv_any ((hsl.same (w' := w.drew) rfl).below hb2) (by omega)))
      go_wp2
      go_ret2
      exact ⟨_, ret_two (by rw [HO.out]; rfl), by rw [HO.out]; exact own_nil _ _, nextB ((Below.refl _ _).drew) hb2⟩
end Go.Proofs.Ytjdbjmfkheffdaa.B
end
section
namespace Go.Proofs.Ytjdbjmfkheffdaa
open Go.RowKit
set_option linter.unusedVariables false
set_option maxRecDepth 20000

/-- Has it the length that it says? -/
def longB (b : List Int) : Bool := decide (10 ≤ b.length) && decide ((b.length : Int) = 10 + 8 * b[9]?.getD 0)
theorem long_form {b : List Int} (h : longB b = false) : formB b = false := by
  unfold formB
  unfold longB at h
  revert h
  cases decide (10 ≤ b.length) <;> cases decide ((b.length : Int) = 10 + 8 * b[9]?.getD 0) <;> simp
theorem long_of {b : List Int} (h8 : B.B8 b) (h : longB b = true) : ∃ m : Nat, m ≤ 255 ∧ b.length = 10 + 8 * m ∧ b[9]?.getD 0 = (m : Int) := by
  unfold longB at h
  simp at h
  have := B.B8_get h8 9
  exact ⟨(b[9]?.getD 0).toNat, by omega, by omega, by omega⟩
set_option maxHeartbeats 1000000 in
set_option maxRecDepth 20000 in
/-- No seal, or not of its length. -/
theorem refUnpack_short (a : Option Addr) (l : List Int) (n cap : Nat) (w : World) (hsl : B.Sl w a n cap l) (hn : n ≤ 140737488351300) (h : ∀ b, B.openI l = some b → longB b = false) :
    Calls Try.prog 48 #[.slice a n cap] w fun e w' => NoPk w e w' (.bool false) := by
  have bx0 := Bx.made w zeroPk (.slice none 0 0)
  have hB0 : Below w.heap.size w (w.alloc (.cells #[.int .i64 zeroPk.k, .int .i64 zeroPk.f, .int .i64 zeroPk.t, .int .i64 zeroPk.i, .int .i64 zeroPk.l, .int .i64 zeroPk.p, .int .i64 zeroPk.s, .bool zeroPk.fl, .slice none 0 0] 26)) := ba (Below.refl _ _)
  have hs0 := hsl.below hB0
  cases ho : B.openI l with
  | none =>
    have HO : Hid (B.openI l = none) := ho
    clear h ho hsl
    go_enter Try.func48, Try.ntmps48
    go_wp2_with (go_at_call 68; refine (B.refOpen_any a l n cap _ hs0 hn).mono ?_; rintro e w1 ⟨v1, rfl, ho1, hb1⟩; rw [HO.out] at ho1 ⊢; simp only [Option.isSome_none, Option.getD_none] at ho1 ⊢; obtain ⟨a1, cap1, rfl, hs1⟩ := ho1.sl' (n := 0) rfl; have bx1 := bx0.next hb1; have fq := bx1.fz; obtain ⟨q0, q1, q2, q3, q4, q5, q6, q7, q8, _, _⟩ := id bx1)
    refine bodyPost_ret (v := .tuple #[zeroPk.val (.slice none 0 0), .bool false]) (by simp [results, Try.results48, go_sem, zeroPk, *]) rfl ⟨rfl, ?_⟩
    exact far9 (y := zeroPk) (v := .slice none 0 0) (P := fun V => Below w.heap.size w V) (fun V o u h => h.setCell (by simp) _) (next hB0 hb1)
  | some b =>
    have HO : Hid (B.openI l = some b) := ho
    have hlg := h b ho
    obtain ⟨nb, hnb⟩ : ∃ nb, b.length = nb := ⟨_, rfl⟩
    have HB : Hid (b.length = nb) := hnb
    have h8b : B.B8 b := by rw [open_take ho]; exact B.B8_take hsl.b8 _
    have hnb2 : nb ≤ n := by rw [← hnb, open_take ho]; have := hsl.len; simp; omega
    clear hsl ho h
    by_cases h10 : nb < 10
    · clear hlg hnb
      go_enter Try.func48, Try.ntmps48
      go_wp2_with (go_at_call 68; refine (B.refOpen_any a l n cap _ hs0 hn).mono ?_; rintro e w1 ⟨v1, rfl, ho1, hb1⟩; rw [HO.out] at ho1 ⊢; simp only [Option.isSome_some, Option.getD_some] at ho1 ⊢; obtain ⟨a1, cap1, rfl, hs1⟩ := ho1.sl' HB.out; have bx1 := bx0.next hb1; have fq := bx1.fz; obtain ⟨q0, q1, q2, q3, q4, q5, q6, q7, q8, _, _⟩ := id bx1)
      refine bodyPost_ret (v := .tuple #[zeroPk.val (.slice none 0 0), .bool false]) (by simp [results, Try.results48, go_sem, zeroPk, *]) rfl ⟨rfl, ?_⟩
      exact far9 (y := zeroPk) (v := .slice none 0 0) (P := fun V => Below w.heap.size w V) (fun V o u h => h.setCell (by simp) _) (next hB0 hb1)
    · have hne : ¬ (nb : Int) = 10 + 8 * b[9]?.getD 0 := by
        unfold longB at hlg
        rw [hnb] at hlg
        simp at hlg
        exact hlg (by omega)
      obtain ⟨y0, y1⟩ := B.B8_get h8b 9
      have h10' : decide ((nb : Int) < 10) = false := by simp; omega
      have hn9 : (9 : Int) < (nb : Int) := by omega
      have hd : ((nb : Int) != 10 + 8 * b[9]?.getD 0) = true := by simpa using hne
      clear hlg hnb hne
      go_enter Try.func48, Try.ntmps48
      go_wp2_with (first
        | (go_at_call 68; refine (B.refOpen_any a l n cap _ hs0 hn).mono ?_; rintro e w1 ⟨v1, rfl, ho1, hb1⟩; rw [HO.out] at ho1 ⊢; simp only [Option.isSome_some, Option.getD_some] at ho1 ⊢; obtain ⟨a1, cap1, rfl, hs1⟩ := ho1.sl' HB.out; obtain ⟨bb, oo, rfl, _, c9⟩ := hs1.at (k := 9) (by omega); have bx1 := bx0.next hb1; have fq := bx1.fz; obtain ⟨q0, q1, q2, q3, q4, q5, q6, q7, q8, _, _⟩ := id bx1))
      refine bodyPost_ret (v := .tuple #[zeroPk.val (.slice none 0 0), .bool false]) (by simp [results, Try.results48, go_sem, zeroPk, *]) rfl ⟨rfl, ?_⟩
      exact far9 (y := zeroPk) (v := .slice none 0 0) (P := fun V => Below w.heap.size w V) (fun V o u h => h.setCell (by simp) _) (next hB0 hb1)
end Go.Proofs.Ytjdbjmfkheffdaa
end
