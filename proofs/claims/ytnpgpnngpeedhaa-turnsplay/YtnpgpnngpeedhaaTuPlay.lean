/- The walk of TurnsPlay: it answers true and writes nothing that was there. No condition but that the argument is one that can come in. -/
import Derived.Test.YtnpgpnngpeedhaaTuP0
import Derived.Test.YtnpgpnngpeedhaaActs10In
import Derived.Test.YtnpgpnngpeedhaaIntsSame
namespace Go.Proofs.Ytnpgpnngpeedhaa
open Go.RowKit Go.Maps
set_option linter.unusedVariables false
set_option maxRecDepth 20000

set_option maxHeartbeats 800000 in
theorem turnsPlay_walk (a0 : Option Addr) (n0 c0 : Nat) (w : World) (hl0 : n0 ≤ c0) (hm0 : c0 ≤ maxLen) (hA : IsActs10 w a0 n0) :
    Calls Try.prog 5 #[.slice a0 n0 c0] w fun e w' => e = .returned (.bool true) ∧ Below w.heap.size w w' := by
  unfold maxLen at hm0
  go_enter Try.func5, Try.ntmps5
  go_wp2_with (go_at_call 7; refine (to_new (X := fun _ => False) (Below.refl _ w) (fun j hj => hj.elim)).mono ?_; rintro e w1 ⟨g, rfl, b1, T1⟩)
  have b2 : Below w1.heap.size w1 (w1.alloc (.cells #[.slice none 0 0, .slice none 0 0] 43)) := ba (Below.refl _ _)
  have P0 : TP w (w1.alloc (.cells #[.slice none 0 0, .slice none 0 0] 43)) g w1.heap.size (fun j => j = w1.heap.size) (fun _ => False) 0 0 [] [] [] [] := by
    refine ⟨T1.grow b2 (fun j hj => ⟨.inr (by omega), by rw [hj]; simp⟩), ⟨fun _ => False, fun _ => False, none, 0, 0, none, 0, 0, ⟨by simp, by simp, by simp, by simp, by simp, rw_nil _ _ _, rw_nil _ _ _, ⟨id, id⟩, fun k h => h.elim, fun k h => h.elim (fun h => h.elim) (fun h => h.elim), ok_nil⟩, Nat.le_refl _, Nat.le_refl _, ⟨rfl, id⟩, fun j hj => hj.elim (fun h => h.elim) (fun h => h.elim)⟩, fun j hj => hj.elim, fun j hj => by rw [hj]; exact T1.bel.size⟩
  clear T1 b1 b2
  generalize w1.heap.size = g2 at *
  generalize w1.alloc _ = w2 at *
  clear w1
  go_loopw [5] (fun vi wr => ∃ (i n m : Nat) (X Z : Nat → Prop) (o : List (Int × Int)) (q : List Wr), vi = .int .i64 (i : Int) ∧ i ≤ 30 ∧ n ≤ i ∧ m ≤ i ∧ TP w wr g g2 X Z n m o q o q) (fun vi _ => 30 - (intOf vi).toNat)
  case atStart => exact ⟨0, 0, 0, _, _, [], [], rfl, by omega, by omega, by omega, P0⟩
  case round =>
    clear P0
    clear w2
    obtain ⟨i, n, m, X, Z, o, q, rfl, hi, hn, hm, P⟩ := hrel
    by_cases h1 : (i : Int) < (n0 : Int)
    · have h1' : decide ((i : Int) < (n0 : Int)) = true := decide_eq_true h1
      by_cases h2 : (i : Int) < 30
      · obtain ⟨bl, ob, x0, x1, x2, x3, rfl, hc, hb⟩ := hA i (by omega)
        have lc := fun j (hj : j < 4) => (P.p.bel.cell (p := ⟨bl, ob + i * 4 + j, none⟩) hb).trans (hc j hj)
        have l0 : wr.cell? ⟨bl, ob + i * 4, none⟩ = some (.int .i64 x0) := lc 0 (by omega)
        have l1 : wr.cell? ⟨bl, ob + i * 4 + 1, none⟩ = some (.int .i64 x1) := lc 1 (by omega)
        have l2 : wr.cell? ⟨bl, ob + i * 4 + 2, none⟩ = some (.int .i64 x2) := lc 2 (by omega)
        have l3 : wr.cell? ⟨bl, ob + i * 4 + 3, none⟩ = some (.int .i64 x3) := lc 3 (by omega)
        have hb' : bl < wr.heap.size := Nat.lt_of_lt_of_le hb P.p.bel.size
        clear lc hc hb
        have bA : Below wr.heap.size wr (wr.alloc (.cells #[.int .i64 x0, .int .i64 x1, .int .i64 x2, .int .i64 x3] 45)) := ba (Below.refl _ _)
        have PA := P.own (Y := fun j => j = wr.heap.size) bA (fun j hj => by rw [hj]; exact ⟨Nat.le_refl _, by simp⟩)
        have y0 : (wr.alloc (.cells #[.int .i64 x0, .int .i64 x1, .int .i64 x2, .int .i64 x3] 45)).cell? ⟨wr.heap.size, 0, none⟩ = some (.int .i64 x0) := by simp
        have y1 : (wr.alloc (.cells #[.int .i64 x0, .int .i64 x1, .int .i64 x2, .int .i64 x3] 45)).cell? ⟨wr.heap.size, 1, none⟩ = some (.int .i64 x1) := by simp
        have y2 : (wr.alloc (.cells #[.int .i64 x0, .int .i64 x1, .int .i64 x2, .int .i64 x3] 45)).cell? ⟨wr.heap.size, 2, none⟩ = some (.int .i64 x2) := by simp
        have y3 : (wr.alloc (.cells #[.int .i64 x0, .int .i64 x1, .int .i64 x2, .int .i64 x3] 45)).cell? ⟨wr.heap.size, 3, none⟩ = some (.int .i64 x3) := by simp
        have yl : wr.heap.size < (wr.alloc (.cells #[.int .i64 x0, .int .i64 x1, .int .i64 x2, .int .i64 x3] 45)).heap.size := by simp
        obtain ⟨L, hL, hL0, hL3⟩ : ∃ L, x1 % 3 = L ∧ 0 ≤ L ∧ L < 3 := ⟨_, rfl, by omega, by omega⟩
        have HL : Hid (x1 % 3 = L) := hL
        have HIL : Hid (In64 L) := ⟨by omega, by omega⟩
        have HL0 : Hid (0 ≤ L) := hL0
        clear hL hL0 hL3
        go_upto_region 8 with fail
        clear l0 l1 l2 l3 hb' P bA
        generalize wr.heap.size = ga at *
        generalize wr.alloc _ = w2 at *
        clear wr
        generalize (fun j => X j ∨ j = ga) = X2 at *
        clear X Z
        obtain ⟨D, hD, hD0, hD5⟩ : ∃ D, x0 % 5 = D ∧ 0 ≤ D ∧ D < 5 := ⟨_, rfl, by omega, by omega⟩
        have HD : Hid (x0 % 5 = D) := hD
        obtain ⟨u, hu, hu0⟩ : ∃ u, x2 % 5 = u ∧ 0 ≤ u := ⟨_, rfl, by omega⟩
        have HU : Hid (x2 % 5 = u) := hu
        have HU0 : Hid (0 ≤ u) := hu0
        have HOK : Hid (OkT o) := PA.d.ok
        have HXA : Hid (X2 ga) := PA.z ga rfl
        clear hD hu hu0
        go_upto_block 2 with (first
          | (have mk := l7; clear mk; go_at_call 8; refine (within_any _ _ _ (by omega) (by omega)).mono ?_; rintro e wx ⟨rfl, rfl⟩; rw [HD.out])
          | (go_at_call 8; refine (within_any _ _ _ (by omega) (by omega)).mono ?_; rintro e wx ⟨rfl, rfl⟩; rw [HL.out]; have l7 : True := trivial))
        go_cut [] (fun wx => ∃ (n m : Nat) (X Z : Nat → Prop) (o : List (Int × Int)) (q : List Wr), n ≤ i + 1 ∧ m ≤ i + 1 ∧ TP w wx g g2 X Z n m o q o q)
        case first => as_aux_lemma =>
          rcases (by omega : D = 0 ∨ D = 1 ∨ D = 2 ∨ D = 3 ∨ D = 4) with rfl | rfl | rfl | rfl | rfl
          · skip
            go_upto_region 17 with (go_at_call 8; refine (within_any _ _ _ (by omega) (by omega)).mono ?_; rintro e wx ⟨rfl, rfl⟩; rw [HU.out])
            refine wp_region_orders 13 rfl (by kernel_rfl) ?_
            obtain ⟨B, hB⟩ : ∃ B, askB o q L = B := ⟨_, rfl⟩
            have HB : Hid (askB o q L = B) := hB
            have PV := PA.below ((Below.refl w2.heap.size w2).drew)
            have y3V : w2.drew.cell? ⟨ga, 3, none⟩ = some (.int .i64 x3) := y3
            have ylV : ga < w2.drew.heap.size := yl
            clear y0 y1 y2 y3 yl PA hB
            generalize w2.drew = V0 at *
            clear w2
            have hI : (fun V : World => V.cell? ⟨ga, 3, none⟩ = some (.int .i64 x3)) V0 := y3V
            refine any_inv (fun V : World => V.cell? ⟨ga, 3, none⟩ = some (.int .i64 x3)) [] hI ?_
            refine inv_take (v := ?v1) [5, 11, 12] 0 hI rfl (by kernel_rfl) (by kernel_rfl) (by kernel_rfl) (by kernel_rfl) (by kernel_rfl) (fun _ _ _ h => h) (by kernel_rfl) (fun V hV => ?hy1) ?go1
            case hy1 => (have i1 := hV; go_simp <;> rfl)
            simp only [Act.put, List.setIfInBounds_toArray, List.set_cons_zero, List.set_cons_succ]
            refine inv_take (v := ?v2) [5, 11, 12] 1 hI rfl (by kernel_rfl) (by kernel_rfl) (by kernel_rfl) (by kernel_rfl) (by kernel_rfl) (fun _ _ _ h => h) (by kernel_rfl) (fun V hV => ?hy2) ?go2
            case hy2 => (have i1 := hV; go_simp <;> rfl)
            simp only [Act.put, List.setIfInBounds_toArray, List.set_cons_zero, List.set_cons_succ]
            refine inv_take (v := ?v3) [5, 11, 12] 2 hI rfl (by kernel_rfl) (by kernel_rfl) (by kernel_rfl) (by kernel_rfl) (by kernel_rfl) (fun _ _ _ h => h) (by kernel_rfl) (fun V hV => ?hy3) ?go3
            case hy3 => (have i1 := hV; go_simp <;> rfl)
            simp only [Act.put, List.setIfInBounds_toArray, List.set_cons_zero, List.set_cons_succ]
            refine inv_take (v := ?v4) [4, 5, 11, 12] 3 hI rfl (by kernel_rfl) (by kernel_rfl) (by kernel_rfl) (by kernel_rfl) (by kernel_rfl) (fun _ _ _ h => h) (by kernel_rfl) (fun V hV => ?hy4) ?go4
            case hy4 => (have i1 := hV; go_simp <;> rfl)
            simp only [Act.put, List.setIfInBounds_toArray, List.set_cons_zero, List.set_cons_succ]
            refine inv_take (v := ?v5) [5, 11, 12] 4 hI rfl (by kernel_rfl) (by kernel_rfl) (by kernel_rfl) (by kernel_rfl) (by kernel_rfl) (fun _ _ _ h => h) (by kernel_rfl) (fun V hV => ?hy5) ?go5
            case hy5 => (have i1 := hV; go_simp <;> rfl)
            simp only [Act.put, List.setIfInBounds_toArray, List.set_cons_zero, List.set_cons_succ]
            refine inv_take (v := ?v6) [11, 12] 6 hI rfl (by kernel_rfl) (by kernel_rfl) (by kernel_rfl) (by kernel_rfl) (by kernel_rfl) (fun _ _ _ h => h) (by kernel_rfl) (fun V hV => ?hy6) ?go6
            case hy6 => (have i1 := hV; go_simp <;> rfl)
            simp only [Act.put, List.setIfInBounds_toArray, List.set_cons_zero, List.set_cons_succ]
            refine inv_take (v := ?v7) [11, 12] 7 hI rfl (by kernel_rfl) (by kernel_rfl) (by kernel_rfl) (by kernel_rfl) (by kernel_rfl) (fun _ _ _ h => h) (by kernel_rfl) (fun V hV => ?hy7) ?go7
            case hy7 => (have i1 := hV; go_simp <;> rfl)
            simp only [Act.put, List.setIfInBounds_toArray, List.set_cons_zero, List.set_cons_succ]
            refine inv_take (v := ?v8) [11, 12] 8 hI rfl (by kernel_rfl) (by kernel_rfl) (by kernel_rfl) (by kernel_rfl) (by kernel_rfl) (fun _ _ _ h => h) (by kernel_rfl) (fun V hV => ?hy8) ?go8
            case hy8 => (have i1 := hV; go_simp <;> rfl)
            simp only [Act.put, List.setIfInBounds_toArray, List.set_cons_zero, List.set_cons_succ]
            refine inv_take (v := ?v9) [10, 11, 12] 9 hI rfl (by kernel_rfl) (by kernel_rfl) (by kernel_rfl) (by kernel_rfl) (by kernel_rfl) (fun _ _ _ h => h) (by kernel_rfl) (fun V hV => ?hy9) ?go9
            case hy9 => (have i1 := hV; go_simp <;> rfl)
            simp only [Act.put, List.setIfInBounds_toArray, List.set_cons_zero, List.set_cons_succ]
            refine inv_take (v := ?v10) [11, 12] 10 hI rfl (by kernel_rfl) (by kernel_rfl) (by kernel_rfl) (by kernel_rfl) (by kernel_rfl) (fun _ _ _ h => h) (by kernel_rfl) (fun V hV => ?hy10) ?go10
            case hy10 => (have i1 := hV; go_simp <;> rfl)
            simp only [Act.put, List.setIfInBounds_toArray, List.set_cons_zero, List.set_cons_succ]
            refine inv_list 5 (by kernel_rfl) rfl ?_
            clear hI
            go_wp2_with (go_at_call 9; refine (tp_ask1 PV HOK.out x3 HIL.out HL0.out HU0.out (by omega)).mono ?_; rw [HB.out]; rintro e w3 ⟨rfl, k3, P3⟩)
            have y33 := (k3.cell 3 ylV (fun h => h.2 HXA.out)).trans y3V
            have yl3 := Nat.lt_of_lt_of_le ylV k3.size
            have hI : (fun V : World => V.cell? ⟨ga, 3, none⟩ = some (.int .i64 x3)) w3 := y33
            refine then_n ⟨hI, ?_⟩
            refine inv_list 11 (by kernel_rfl) rfl ?_
            clear hI
            go_wp2_with (go_at_call 17; refine (tp_ask2 P3 (l := L) (v := u) x3 HU0.out (by omega)).mono ?_; rw [HB.out]; rintro e w4 ⟨rfl, X4, hX4, k4, P4⟩)
            have hI : (fun V : World => V.cell? ⟨ga, 3, none⟩ = some (.int .i64 x3)) w4 := (k4.cell 3 yl3 (fun h => h.2 rfl)).trans y33
            refine then_n ⟨hI, ?_⟩
            refine inv_take (v := ?v11) [] 12 hI rfl (by kernel_rfl) (by kernel_rfl) (by kernel_rfl) (by kernel_rfl) (by kernel_rfl) (fun _ _ _ h => h) (by kernel_rfl) (fun V hV => ?hy11) ?go11
            case hy11 => (have i1 := hV; go_simp <;> rfl)
            simp only [Act.put, List.setIfInBounds_toArray, List.set_cons_zero, List.set_cons_succ]
            refine inv_done (by kernel_rfl) ?_
            have hbb : (B != B) = false := by simp
            go_wp2_with fail
            go_meet
            case rel => exact ⟨n + 1, m + 1, X4, _, _, _, by omega, by omega, P4⟩
          · skip
            go_upto_region 17 with (go_at_call 8; refine (within_any _ _ _ (by omega) (by omega)).mono ?_; rintro e wx ⟨rfl, rfl⟩; rw [HU.out])
            refine wp_region_orders 13 rfl (by kernel_rfl) ?_
            obtain ⟨B, hB⟩ : ∃ B, askB o q L = B := ⟨_, rfl⟩
            have HB : Hid (askB o q L = B) := hB
            have PV := PA.below ((Below.refl w2.heap.size w2).drew)
            have y3V : w2.drew.cell? ⟨ga, 3, none⟩ = some (.int .i64 x3) := y3
            have ylV : ga < w2.drew.heap.size := yl
            clear y0 y1 y2 y3 yl PA hB
            generalize w2.drew = V0 at *
            clear w2
            have hI : (fun V : World => V.cell? ⟨ga, 3, none⟩ = some (.int .i64 x3)) V0 := y3V
            refine any_inv (fun V : World => V.cell? ⟨ga, 3, none⟩ = some (.int .i64 x3)) [] hI ?_
            refine inv_take (v := ?v12) [5, 11, 12] 0 hI rfl (by kernel_rfl) (by kernel_rfl) (by kernel_rfl) (by kernel_rfl) (by kernel_rfl) (fun _ _ _ h => h) (by kernel_rfl) (fun V hV => ?hy12) ?go12
            case hy12 => (have i1 := hV; go_simp <;> rfl)
            simp only [Act.put, List.setIfInBounds_toArray, List.set_cons_zero, List.set_cons_succ]
            refine inv_take (v := ?v13) [5, 11, 12] 1 hI rfl (by kernel_rfl) (by kernel_rfl) (by kernel_rfl) (by kernel_rfl) (by kernel_rfl) (fun _ _ _ h => h) (by kernel_rfl) (fun V hV => ?hy13) ?go13
            case hy13 => (have i1 := hV; go_simp <;> rfl)
            simp only [Act.put, List.setIfInBounds_toArray, List.set_cons_zero, List.set_cons_succ]
            refine inv_take (v := ?v14) [5, 11, 12] 2 hI rfl (by kernel_rfl) (by kernel_rfl) (by kernel_rfl) (by kernel_rfl) (by kernel_rfl) (fun _ _ _ h => h) (by kernel_rfl) (fun V hV => ?hy14) ?go14
            case hy14 => (have i1 := hV; go_simp <;> rfl)
            simp only [Act.put, List.setIfInBounds_toArray, List.set_cons_zero, List.set_cons_succ]
            refine inv_take (v := ?v15) [4, 5, 11, 12] 3 hI rfl (by kernel_rfl) (by kernel_rfl) (by kernel_rfl) (by kernel_rfl) (by kernel_rfl) (fun _ _ _ h => h) (by kernel_rfl) (fun V hV => ?hy15) ?go15
            case hy15 => (have i1 := hV; go_simp <;> rfl)
            simp only [Act.put, List.setIfInBounds_toArray, List.set_cons_zero, List.set_cons_succ]
            refine inv_take (v := ?v16) [5, 11, 12] 4 hI rfl (by kernel_rfl) (by kernel_rfl) (by kernel_rfl) (by kernel_rfl) (by kernel_rfl) (fun _ _ _ h => h) (by kernel_rfl) (fun V hV => ?hy16) ?go16
            case hy16 => (have i1 := hV; go_simp <;> rfl)
            simp only [Act.put, List.setIfInBounds_toArray, List.set_cons_zero, List.set_cons_succ]
            refine inv_take (v := ?v17) [11, 12] 6 hI rfl (by kernel_rfl) (by kernel_rfl) (by kernel_rfl) (by kernel_rfl) (by kernel_rfl) (fun _ _ _ h => h) (by kernel_rfl) (fun V hV => ?hy17) ?go17
            case hy17 => (have i1 := hV; go_simp <;> rfl)
            simp only [Act.put, List.setIfInBounds_toArray, List.set_cons_zero, List.set_cons_succ]
            refine inv_take (v := ?v18) [11, 12] 7 hI rfl (by kernel_rfl) (by kernel_rfl) (by kernel_rfl) (by kernel_rfl) (by kernel_rfl) (fun _ _ _ h => h) (by kernel_rfl) (fun V hV => ?hy18) ?go18
            case hy18 => (have i1 := hV; go_simp <;> rfl)
            simp only [Act.put, List.setIfInBounds_toArray, List.set_cons_zero, List.set_cons_succ]
            refine inv_take (v := ?v19) [11, 12] 8 hI rfl (by kernel_rfl) (by kernel_rfl) (by kernel_rfl) (by kernel_rfl) (by kernel_rfl) (fun _ _ _ h => h) (by kernel_rfl) (fun V hV => ?hy19) ?go19
            case hy19 => (have i1 := hV; go_simp <;> rfl)
            simp only [Act.put, List.setIfInBounds_toArray, List.set_cons_zero, List.set_cons_succ]
            refine inv_take (v := ?v20) [10, 11, 12] 9 hI rfl (by kernel_rfl) (by kernel_rfl) (by kernel_rfl) (by kernel_rfl) (by kernel_rfl) (fun _ _ _ h => h) (by kernel_rfl) (fun V hV => ?hy20) ?go20
            case hy20 => (have i1 := hV; go_simp <;> rfl)
            simp only [Act.put, List.setIfInBounds_toArray, List.set_cons_zero, List.set_cons_succ]
            refine inv_take (v := ?v21) [11, 12] 10 hI rfl (by kernel_rfl) (by kernel_rfl) (by kernel_rfl) (by kernel_rfl) (by kernel_rfl) (fun _ _ _ h => h) (by kernel_rfl) (fun V hV => ?hy21) ?go21
            case hy21 => (have i1 := hV; go_simp <;> rfl)
            simp only [Act.put, List.setIfInBounds_toArray, List.set_cons_zero, List.set_cons_succ]
            refine inv_list 5 (by kernel_rfl) rfl ?_
            clear hI
            go_wp2_with (go_at_call 9; refine (tp_ask1 PV HOK.out x3 HIL.out HL0.out HU0.out (by omega)).mono ?_; rw [HB.out]; rintro e w3 ⟨rfl, k3, P3⟩)
            have y33 := (k3.cell 3 ylV (fun h => h.2 HXA.out)).trans y3V
            have yl3 := Nat.lt_of_lt_of_le ylV k3.size
            have hI : (fun V : World => V.cell? ⟨ga, 3, none⟩ = some (.int .i64 x3)) w3 := y33
            refine then_n ⟨hI, ?_⟩
            refine inv_list 11 (by kernel_rfl) rfl ?_
            clear hI
            go_wp2_with (go_at_call 17; refine (tp_ask2 P3 (l := L) (v := u) x3 HU0.out (by omega)).mono ?_; rw [HB.out]; rintro e w4 ⟨rfl, X4, hX4, k4, P4⟩)
            have hI : (fun V : World => V.cell? ⟨ga, 3, none⟩ = some (.int .i64 x3)) w4 := (k4.cell 3 yl3 (fun h => h.2 rfl)).trans y33
            refine then_n ⟨hI, ?_⟩
            refine inv_take (v := ?v22) [] 12 hI rfl (by kernel_rfl) (by kernel_rfl) (by kernel_rfl) (by kernel_rfl) (by kernel_rfl) (fun _ _ _ h => h) (by kernel_rfl) (fun V hV => ?hy22) ?go22
            case hy22 => (have i1 := hV; go_simp <;> rfl)
            simp only [Act.put, List.setIfInBounds_toArray, List.set_cons_zero, List.set_cons_succ]
            refine inv_done (by kernel_rfl) ?_
            have hbb : (B != B) = false := by simp
            go_wp2_with fail
            go_meet
            case rel => exact ⟨n + 1, m + 1, X4, _, _, _, by omega, by omega, P4⟩
          · skip
            obtain ⟨v, hv⟩ : ∃ v, ownT o L = v := ⟨_, rfl⟩
            have HV : Hid (ownT o L = v) := hv
            have hvg : -1 ≤ v := by rw [← hv]; exact own_ge HOK.out L
            clear hv
            by_cases ht : x0.tmod 2 = 0
            · by_cases hv1 : v = -1
              · have HNE : Hid (ownT o L ≠ u) := by have := HV.out; have := HU0.out; show _ ≠ _; omega
                have HN1 : Hid (ownT o L = -1) := by have := HV.out; show _ = _; omega
                subst hv1
                go_wp2_with (first
                  | (have mk := PX; clear mk; go_at_call 11; refine (tp_release1_no PX HIL.out (.inl HN1.out)).mono ?_; rintro e w8 ⟨rfl, rfl⟩)
                  | (have mk := P3; clear mk; go_at_call 19; refine (tp_release2_no P3 HU0.out HNE.out).mono ?_; rintro e w7 ⟨rfl, b7⟩; have PX := P3.below b7)
                  | (go_at_call 18; refine (tp_owner2 PA L).mono ?_; rintro e w3 ⟨rfl, b3⟩; rw [HV.out]; have P3 := PA.below b3)
                  | (go_at_call 8; refine (within_any _ _ _ (by omega) (by omega)).mono ?_; rintro e wx ⟨rfl, rfl⟩; rw [HU.out]))
                go_meet
                case rel => exact ⟨n, m, _, _, _, _, by omega, by omega, PX⟩
              · have hvb : (v != -1) = true := by simpa using hv1
                have HV0 : Hid (0 ≤ v) := by show _ ≤ _; omega
                obtain ⟨k, hk, hno⟩ := own_place HOK.out HV0.out HV.out
                have HK : Hid (o[k]? = some (L, v)) := hk
                have HNO : Hid (∀ (j : Nat) y, j < k → o[j]? = some y → ¬ (y.1 = L ∧ y.2 = v)) := hno
                clear hk hno hv1
                go_wp2_with (first
                  | (have mk := PX; clear mk; go_at_call 11; refine (tp_release1_ok PX HOK.out HIL.out HV0.out HK.out).mono ?_; rintro e w8 ⟨rfl, k8, P8⟩)
                  | (have mk := P4; clear mk; go_at_call 19; refine (tp_release2_ok P4 HK.out HNO.out (by omega)).mono ?_; rintro e w7 ⟨rfl, X7, hX7, k7, PX⟩)
                  | (have mk := P3; clear mk; go_at_call 18; refine (tp_owner2 P3 L).mono ?_; rintro e w4 ⟨rfl, b4⟩; rw [HV.out]; have P4 := P3.below b4)
                  | (go_at_call 18; refine (tp_owner2 PA L).mono ?_; rintro e w3 ⟨rfl, b3⟩; rw [HV.out]; have P3 := PA.below b3)
                  | (go_at_call 8; refine (within_any _ _ _ (by omega) (by omega)).mono ?_; rintro e wx ⟨rfl, rfl⟩; rw [HU.out]))
                go_meet
                case rel => exact ⟨n, m, _, _, _, _, by omega, by omega, P8⟩
            · by_cases hvu : v = u
              · subst hvu
                obtain ⟨k, hk, hno⟩ := own_place HOK.out HU0.out HV.out
                have HK : Hid (o[k]? = some (L, v)) := hk
                have HNO : Hid (∀ (j : Nat) y, j < k → o[j]? = some y → ¬ (y.1 = L ∧ y.2 = v)) := hno
                clear hk hno
                go_wp2_with (first
                  | (have mk := PX; clear mk; go_at_call 11; refine (tp_release1_ok PX HOK.out HIL.out HU0.out HK.out).mono ?_; rintro e w8 ⟨rfl, k8, P8⟩)
                  | (have mk := PA; clear mk; go_at_call 19; refine (tp_release2_ok PA HK.out HNO.out (by omega)).mono ?_; rintro e w7 ⟨rfl, X7, hX7, k7, PX⟩)
                  | (go_at_call 8; refine (within_any _ _ _ (by omega) (by omega)).mono ?_; rintro e wx ⟨rfl, rfl⟩; rw [HU.out]))
                go_meet
                case rel => exact ⟨n, m, _, _, _, _, by omega, by omega, P8⟩
              · have HNE : Hid (ownT o L ≠ u) := by rw [HV.out]; exact hvu
                clear hvu
                go_wp2_with (first
                  | (have mk := PX; clear mk; go_at_call 11; refine (tp_release1_no PX HIL.out (.inr HNE.out)).mono ?_; rintro e w8 ⟨rfl, rfl⟩)
                  | (have mk := PA; clear mk; go_at_call 19; refine (tp_release2_no PA HU0.out HNE.out).mono ?_; rintro e w7 ⟨rfl, b7⟩; have PX := PA.below b7)
                  | (go_at_call 8; refine (within_any _ _ _ (by omega) (by omega)).mono ?_; rintro e wx ⟨rfl, rfl⟩; rw [HU.out]))
                go_meet
                case rel => exact ⟨n, m, _, _, _, _, by omega, by omega, PX⟩
          · skip
            obtain ⟨v, hv⟩ : ∃ v, ownT o L = v := ⟨_, rfl⟩
            have HV : Hid (ownT o L = v) := hv
            have hvg : -1 ≤ v := by rw [← hv]; exact own_ge HOK.out L
            clear hv
            by_cases ht : x0.tmod 2 = 0
            · by_cases hv1 : v = -1
              · have HNE : Hid (ownT o L ≠ u) := by have := HV.out; have := HU0.out; show _ ≠ _; omega
                have HN1 : Hid (ownT o L = -1) := by have := HV.out; show _ = _; omega
                subst hv1
                go_wp2_with (first
                  | (have mk := PX; clear mk; go_at_call 11; refine (tp_release1_no PX HIL.out (.inl HN1.out)).mono ?_; rintro e w8 ⟨rfl, rfl⟩)
                  | (have mk := P3; clear mk; go_at_call 19; refine (tp_release2_no P3 HU0.out HNE.out).mono ?_; rintro e w7 ⟨rfl, b7⟩; have PX := P3.below b7)
                  | (go_at_call 18; refine (tp_owner2 PA L).mono ?_; rintro e w3 ⟨rfl, b3⟩; rw [HV.out]; have P3 := PA.below b3)
                  | (go_at_call 8; refine (within_any _ _ _ (by omega) (by omega)).mono ?_; rintro e wx ⟨rfl, rfl⟩; rw [HU.out]))
                go_meet
                case rel => exact ⟨n, m, _, _, _, _, by omega, by omega, PX⟩
              · have hvb : (v != -1) = true := by simpa using hv1
                have HV0 : Hid (0 ≤ v) := by show _ ≤ _; omega
                obtain ⟨k, hk, hno⟩ := own_place HOK.out HV0.out HV.out
                have HK : Hid (o[k]? = some (L, v)) := hk
                have HNO : Hid (∀ (j : Nat) y, j < k → o[j]? = some y → ¬ (y.1 = L ∧ y.2 = v)) := hno
                clear hk hno hv1
                go_wp2_with (first
                  | (have mk := PX; clear mk; go_at_call 11; refine (tp_release1_ok PX HOK.out HIL.out HV0.out HK.out).mono ?_; rintro e w8 ⟨rfl, k8, P8⟩)
                  | (have mk := P4; clear mk; go_at_call 19; refine (tp_release2_ok P4 HK.out HNO.out (by omega)).mono ?_; rintro e w7 ⟨rfl, X7, hX7, k7, PX⟩)
                  | (have mk := P3; clear mk; go_at_call 18; refine (tp_owner2 P3 L).mono ?_; rintro e w4 ⟨rfl, b4⟩; rw [HV.out]; have P4 := P3.below b4)
                  | (go_at_call 18; refine (tp_owner2 PA L).mono ?_; rintro e w3 ⟨rfl, b3⟩; rw [HV.out]; have P3 := PA.below b3)
                  | (go_at_call 8; refine (within_any _ _ _ (by omega) (by omega)).mono ?_; rintro e wx ⟨rfl, rfl⟩; rw [HU.out]))
                go_meet
                case rel => exact ⟨n, m, _, _, _, _, by omega, by omega, P8⟩
            · by_cases hvu : v = u
              · subst hvu
                obtain ⟨k, hk, hno⟩ := own_place HOK.out HU0.out HV.out
                have HK : Hid (o[k]? = some (L, v)) := hk
                have HNO : Hid (∀ (j : Nat) y, j < k → o[j]? = some y → ¬ (y.1 = L ∧ y.2 = v)) := hno
                clear hk hno
                go_wp2_with (first
                  | (have mk := PX; clear mk; go_at_call 11; refine (tp_release1_ok PX HOK.out HIL.out HU0.out HK.out).mono ?_; rintro e w8 ⟨rfl, k8, P8⟩)
                  | (have mk := PA; clear mk; go_at_call 19; refine (tp_release2_ok PA HK.out HNO.out (by omega)).mono ?_; rintro e w7 ⟨rfl, X7, hX7, k7, PX⟩)
                  | (go_at_call 8; refine (within_any _ _ _ (by omega) (by omega)).mono ?_; rintro e wx ⟨rfl, rfl⟩; rw [HU.out]))
                go_meet
                case rel => exact ⟨n, m, _, _, _, _, by omega, by omega, P8⟩
              · have HNE : Hid (ownT o L ≠ u) := by rw [HV.out]; exact hvu
                clear hvu
                go_wp2_with (first
                  | (have mk := PX; clear mk; go_at_call 11; refine (tp_release1_no PX HIL.out (.inr HNE.out)).mono ?_; rintro e w8 ⟨rfl, rfl⟩)
                  | (have mk := PA; clear mk; go_at_call 19; refine (tp_release2_no PA HU0.out HNE.out).mono ?_; rintro e w7 ⟨rfl, b7⟩; have PX := PA.below b7)
                  | (go_at_call 8; refine (within_any _ _ _ (by omega) (by omega)).mono ?_; rintro e wx ⟨rfl, rfl⟩; rw [HU.out]))
                go_meet
                case rel => exact ⟨n, m, _, _, _, _, by omega, by omega, PX⟩
          · skip
            by_cases hN : ownT o L = -1 ∧ waitT q L ≠ []
            · obtain ⟨k, v, d, hk, hno⟩ := wait_place hN.2
              have HN1 : Hid (ownT o L = -1) := hN.1
              have HK : Hid (q[k]? = some ⟨L, v, d⟩) := hk
              have HNO : Hid (∀ (j : Nat) y, j < k → q[j]? = some y → y.l ≠ L) := hno
              have HV0 : Hid (0 ≤ v) := PA.p.wt_ge L (v, d) (by rw [(wt_erase_upd hk hno).1]; simp)
              clear hk hno hN
              go_wp2_with (first
                | (have mk := P3; clear mk; go_at_call 20; refine (tp_next2_ok P3 HN1.out HV0.out HK.out HNO.out (by omega)).mono ?_; rintro e w4 ⟨rfl, X4, hX4, k4, P4⟩)
                | (go_at_call 14; refine (tp_next1_ok PA HOK.out HIL.out HN1.out HV0.out HK.out HNO.out (by omega)).mono ?_; rintro e w3 ⟨rfl, k3, P3⟩))
              go_meet
              case rel => exact ⟨n + 1, m + 1, X4, _, _, _, by omega, by omega, P4⟩
            · have HN : Hid (¬ (ownT o L = -1 ∧ waitT q L ≠ [])) := hN
              clear hN
              go_wp2_with (first
                | (have mk := P3; clear mk; go_at_call 20; refine (tp_next2_no P3 L HN.out).mono ?_; rintro e w4 ⟨rfl, b4⟩)
                | (go_at_call 14; refine (tp_next1_no PA HIL.out HN.out).mono ?_; rintro e w3 ⟨rfl, rfl⟩; have P3 := PA))
              go_meet
              case rel => exact ⟨n, m, _, _, _, _, by omega, by omega, P3.below b4⟩
        case rest => as_aux_lemma =>
          clear PA HOK HXA y0 y1 y2 y3 yl hn hm
          clear o q n m X2
          obtain ⟨n, m, X, Z, o, q, hn, hm, P⟩ := hcut
          obtain ⟨l, hl⟩ : ∃ l, readyT o q = l := ⟨_, rfl⟩
          have HR : Hid (readyT o q = l) := hl
          clear hl
          go_upto_region 31 with (first
            | (have mk := b4; clear mk; go_at_call 13; refine (same_any _ _ _ _ _ _ _ _ _ (s3.below b4) s4).mono ?_; rintro e w5 ⟨rfl, k5, rfl⟩; rw [decide_eq_true rfl])
            | (have mk := b3; clear mk; go_at_call 21; refine (tp_ready2 (P.below b3) (by omega)).mono ?_; rw [HR.out]; rintro e w4 ⟨a4, l4, c4, rfl, s4, b4⟩)
            | (go_at_call 10; refine (tp_ready1 P (by omega)).mono ?_; rw [HR.out]; rintro e w3 ⟨a3, l3, c3, rfl, s3, b3⟩))
          have P5 := ((P.below b3).below b4).below (below_dn w4 k5)
          clear P b3 b4 s3 s4 HR
          generalize w4.drewN k5 = w5 at *
          go_wp2_with fail
          go_loopw [17] (fun vk wx => ∃ k : Int, vk = .int .i64 k ∧ -1 ≤ k ∧ k ≤ 4 ∧ TP w wx g g2 X Z n m o q o q) (fun vk _ => (4 - intOf vk).toNat)
          case atStart => exact ⟨-1, rfl, by omega, by omega, P5⟩
          case round =>
            clear P5
            obtain ⟨k, rfl, hk0, hk4, P⟩ := hrel
            by_cases hkl : k < 4
            · obtain ⟨v, hv⟩ : ∃ v, ownT o k = v := ⟨_, rfl⟩
              have HV : Hid (ownT o k = v) := hv
              obtain ⟨lw, hlw⟩ : ∃ lw, (waitT q k).length = lw := ⟨_, rfl⟩
              have HW : Hid ((waitT q k).length = lw) := hlw
              have HIK : Hid (In64 k) := ⟨by omega, by omega⟩
              clear hv hlw
              go_wp2_with (first
                | (have mk := P3; clear mk; go_at_call 22; refine (tp_waiting2 P3 k).mono ?_; rintro e w4 ⟨rfl, b4⟩; rw [HW.out])
                | (have mk := P3; clear mk; go_at_call 16; refine (tp_waiting1 P3 HIK.out).mono ?_; rintro e w4 ⟨rfl, rfl⟩; rw [HW.out])
                | (go_at_call 18; refine (tp_owner2 P k).mono ?_; rintro e w3 ⟨rfl, b3⟩; rw [HV.out]; have P3 := P.below b3)
                | (go_at_call 12; refine (tp_owner1 P HIK.out).mono ?_; rintro e w4 ⟨rfl, rfl⟩; rw [HV.out]))
              go_roundw
              case rel => exact ⟨k + 1, by go_num, by omega, by omega, P3.below b4⟩
              case measure => simp [intOf]; omega
            · go_wp2_with fail
              go_roundw
              case rel => exact ⟨i + 1, n, m, X, Z, o, q, by go_num, by omega, hn, hm, P⟩
              case measure => simp [intOf]; omega
      · go_wp2_with (go_at_call 15; refine (twakes_any _).mono ?_; rintro e w9 ⟨rfl, b9⟩)
        go_ret
        exact ⟨rfl, next P.p.bel b9⟩
    · go_wp2_with (go_at_call 15; refine (twakes_any _).mono ?_; rintro e w9 ⟨rfl, b9⟩)
      go_ret
      exact ⟨rfl, next P.p.bel b9⟩
end Go.Proofs.Ytnpgpnngpeedhaa
