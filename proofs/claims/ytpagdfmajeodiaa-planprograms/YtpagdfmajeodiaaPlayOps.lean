/- The contract of chapletplay.Ops: some operations, in new memory. Conditions: as each theorem states them. -/
import Derived.Test.YtpagdfmajeodiaaProgramsWalk
import Derived.Deep.CutBlock
namespace Go.Proofs.Ytpagdfmajeodiaa
open Go.RowKit
set_option linter.unusedVariables false

theorem OB.setA {w : World} {b : Nat} {k a v : Int} (h : OB w b k a v) (x : Int) : OB (w.setCell ⟨b, 1, none⟩ (.int .i64 x)) b k x v := by
  have := heap_setCell_same w b 1 _ 38 (.int .i64 x) h
  simpa [OB] using this
theorem OB.setK {w : World} {b : Nat} {k a v : Int} (h : OB w b k a v) (x : Int) : OB (w.setCell ⟨b, 0, none⟩ (.int .i64 x)) b x a v := by
  have := heap_setCell_same w b 0 _ 38 (.int .i64 x) h
  simpa [OB] using this

set_option maxRecDepth 20000 in
set_option maxHeartbeats 1000000 in
theorem playOps_any (a0 : Option Addr) (n0 q0 : Nat) (z0 : List Int) (a1 : Option Addr) (n1 q1 : Nat) (z1 : List Int) (a2 : Option Addr) (n2 q2 : Nat) (z2 : List Int) (w : World) (h0 : Sl w a0 n0 q0 z0) (h1 : Sl w a1 n1 q1 z1) (h2 : Sl w a2 n2 q2 z2) :
    Calls Try.prog 24 #[.slice a0 n0 q0, .slice a1 n1 q1, .slice a2 n2 q2] w fun e w' => ∃ v q, e = .returned v ∧ w'.ownsRow w.heap.size 38 3 v q.length (flat q) ∧ q.length ≤ 30 ∧ Below w.heap.size w w' := by
  have hmx := h0.max
  have hle := h0.le
  have hl0 := h0.len
  unfold maxLen at hmx
  obtain ⟨i0, hi, hz0, hz1, hz2⟩ := info_parts Try.infoOp
  go_enter Try.func24, Try.ntmps24
  go_wp2
  go_loopw [7, 8] (fun v c wr => ∃ (j : Nat) (q : List OpI), c = .int .i64 j ∧ j ≤ 30 ∧ q.length = j ∧ wr.ownsRow w.heap.size 38 3 v q.length (flat q) ∧ Below w.heap.size w wr) (fun _ c _ => 30 - (intOf c).toNat)
  case atStart => exact ⟨0, [], rfl, by omega, rfl, World.ownsRow_nil _ _ _ _, Below.refl _ _⟩
  case round =>
    obtain ⟨j, q, rfl, hj, hq, hown, hbr⟩ := hrel
    by_cases hin : j < n0 ∧ j < 30
    · obtain ⟨hi1, hi2⟩ := hin
      have hi1' : (j : Int) < (n0 : Int) := by omega
      have hi2' : (j : Int) < 30 := by omega
      have hr0 := h0.below hbr
      have hr1 := h1.below hbr
      have hr2 := h2.below hbr
      obtain ⟨x0, hx0⟩ : ∃ x, z0[j]?.getD 0 = x := ⟨_, rfl⟩
      have hsome : ∃ b o, a0 = some ⟨b, o, none⟩ ∧ wr.cell? ⟨b, o + j, none⟩ = some (.int .i64 x0) := by
        rcases hr0.row with h | ⟨b, o, e, hc⟩
        · rw [h] at hl0; simp at hl0; omega
        · exact ⟨b, o, e, by rw [← hx0]; exact hc j (by omega)⟩
      obtain ⟨b0, o0, rfl, hc0⟩ := hsome
      have blt0 : b0 < wr.heap.size := World.block_lt_of_cell? _ _ hc0
      have HQ : Hid (q.length = j) := hq
      have HX0 : Hid (z0[j]?.getD 0 = x0) := hx0
      have m0 : 0 ≤ x0 % 4 := Int.emod_nonneg _ (by omega)
      have m1 : x0 % 4 < 4 := Int.emod_lt_of_pos _ (by omega)
      clear hq hx0
      generalize wr = wo at *
      go_upto_region 6 with (first
        | (go_at_call 27; refine (at_any a1 z1 n1 q1 j _ hr1 (by omega)).mono ?_; rintro e wz ⟨rfl, rfl⟩)
        | (go_at_call 9; refine (within_any _ _ _ (by omega) (by omega)).mono ?_; rintro e wz ⟨rfl, rfl⟩))
      have hob := OB.made wo (1 + x0 % 4) (z1[j]?.getD 0 % 12) 0
      have hBx : Below wo.heap.size wo (wo.alloc (.cells #[.int .i64 (1 + x0 % 4), .int .i64 (z1[j]?.getD 0 % 12), .int .i64 0] 38)) := ba (Below.refl _ _)
      generalize wo.alloc (.cells #[.int .i64 (1 + x0 % 4), .int .i64 (z1[j]?.getD 0 % 12), .int .i64 0] 38) = wx at *
      generalize 1 + x0 % 4 = kk at *
      generalize z1[j]?.getD 0 % 12 = aa at *
      clear m0 m1
      have t0 := hob.c0
      have t1 := hob.c1
      have t2 := hob.c2
      have tf := hob.fz
      go_cut [38] (fun v wy => (∃ tb : Bool, v = .bool tb) ∧ wx = wy)
      case first =>
        go_wp2
        all_goals
          go_meet
          case rel => exact ⟨⟨_, rfl⟩, rfl⟩
      case rest =>
        obtain ⟨⟨tb, rfl⟩, hwx⟩ := hcut
        subst hwx
        go_upto_if 38 with fail
        go_cut [48] (fun _ wy => ∃ k a v : Int, OB wy wo.heap.size k a v ∧ Below wo.heap.size wo wy)
        case first =>
          cases tb
          · go_wp2
            go_meet
            case rel => exact ⟨_, _, _, hob, hBx⟩
          · go_wp2_with (go_at_call 27; refine (at_any a2 z2 n2 q2 j _ (hr2.below (by exact hBx)) (by omega)).mono ?_; rintro e wz ⟨rfl, rfl⟩)
            go_meet
            case rel => exact ⟨_, _, _, hob.set _, hBx.setCell (Nat.le_refl _) _⟩
        case rest =>
          obtain ⟨k1, a1', v1, hob1, hB1⟩ := hcut
          clear hob hBx t0 t1 t2 tf
          generalize wc = wy at *
          have c0y : wy.cell? ⟨b0, o0 + j, none⟩ = some (.int .i64 x0) := by rw [hB1.cell (p := ⟨b0, o0 + j, none⟩) blt0]; exact hc0
          have tf := hob1.fz
          have t0 := hob1.c0
          have t1 := hob1.c1
          have t2 := hob1.c2
          go_upto_block 2 with fail
          obtain ⟨sw, hsw⟩ : ∃ sw, x0.tmod 31 = sw := ⟨_, rfl⟩
          go_cut [48, 47] (fun _ _ wz => ∃ k a v : Int, OB wz wo.heap.size k a v ∧ Below wo.heap.size wo wz)
          case first =>
            by_cases s1 : sw = 28
            · subst s1
              go_wp2
              go_meet
              case rel => exact ⟨_, _, _, hob1.setK _, hB1.setCell (Nat.le_refl _) _⟩
            by_cases s2 : sw = 29
            · subst s2
              go_wp2_with (go_at_call 27; refine (at_any a1 z1 n1 q1 j _ (hr1.below (by exact hB1)) (by omega)).mono ?_; rintro e wz ⟨rfl, rfl⟩)
              go_meet
              case rel => exact ⟨_, _, _, hob1.setA _, hB1.setCell (Nat.le_refl _) _⟩
            by_cases s3 : sw = 30
            · subst s3
              go_wp2_with (go_at_call 27; refine (at_any a2 z2 n2 q2 j _ (hr2.below (by exact hB1)) (by omega)).mono ?_; rintro e wz ⟨rfl, rfl⟩)
              go_meet
              case rel => exact ⟨_, _, _, hob1.set _, hB1.setCell (Nat.le_refl _) _⟩
            · have b1 : (sw == 28) = false := by simpa using s1
              have b2 : (sw == 29) = false := by simpa using s2
              have b3 : (sw == 30) = false := by simpa using s3
              go_wp2
              go_meet
              case rel => exact ⟨_, _, _, hob1, hB1⟩
          case rest =>
            obtain ⟨k2, a2', v2, hob2, hB2⟩ := hcut
            clear hob1 hB1 t0 t1 t2 tf c0y hsw hr0 hr1 hr2
            generalize wc = wv at *
            have t0 := hob2.c0
            have t1 := hob2.c1
            have t2 := hob2.c2
            have hgO : Below w.heap.size w wv := next hbr hB2
            have hownv := ownsRow_below hown hB2
            have hltq := hownv.lt
            go_wp2_with (at_builtin; refine wpList_append_own _ rfl _ _ 39 rfl w.heap.size 38 i0 (.agg #[.int .i64 0, .int .i64 0, .int .i64 0]) 3 24 Try.underlying39 hi hz0 hz1 hz2 rfl (by decide) _ q.length (flat q) rfl (hownv.alloc _) ⟨wv.heap.size, 0, none⟩ 1 1 (flat [⟨k2, a2', v2⟩]) rfl rfl (news_op wv ⟨k2, a2', v2⟩) (flat_one _) (by unfold maxLen; have := HQ.out; omega) (by have := HQ.out; omega) (by have := hgO.size; simp; omega) ?_; intro r5 w5 hown5 hg5 hnil5)
            go_wp2
            go_roundw
            case rel =>
              refine ⟨j + 1, q ++ [⟨k2, a2', v2⟩], by go_num, by omega, by simp [HQ.out], ?_, (ba hgO).grown hg5 (by have := hgO.size; simp; omega) (fun x hx => (hltq x hx).1)⟩
              rw [flat_append]
              simpa using hown5
            case measure => simp [intOf]; omega
    · have hown2 := hown
      by_cases hi1 : j < n0
      · have hi1' : (j : Int) < (n0 : Int) := by omega
        have hi2' : (30 : Int) ≤ (j : Int) := by omega
        have HQ : Hid (q.length = j) := hq
        clear hq
        go_wp2
        go_ret
        exact ⟨_, q, rfl, hown, by have := HQ.out; omega, hbr⟩
      · have hi1' : (n0 : Int) ≤ (j : Int) := by omega
        have HQ : Hid (q.length = j) := hq
        clear hq
        go_wp2
        go_ret
        exact ⟨_, q, rfl, hown, by have := HQ.out; omega, hbr⟩
end Go.Proofs.Ytpagdfmajeodiaa
