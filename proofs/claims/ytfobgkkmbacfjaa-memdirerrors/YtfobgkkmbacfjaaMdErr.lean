/- The walk of MemdirErrors. Conditions: as the theorem states them. -/
import Derived.Test.YtfobgkkmbacfjaaMdWk
import Derived.Test.YtfobgkkmbacfjaaIntsSame
namespace Go.Proofs.Ytfobgkkmbacfjaa
open Go.RowKit Go.Maps
set_option linter.unusedVariables false
set_option maxRecDepth 20000

set_option maxHeartbeats 1000000 in
theorem memdirErrors_walk (w : World) (v : Value) (hv : IsSetup w v) (x : Int) :
    Calls Try.prog 4 #[v, .int .i64 x] w fun e w' => e = .returned (.bool true) ∧ Below w.heap.size w w' := by
  obtain ⟨n, l, k, s, y, o, i, a0, n0, q0, z0, a1, n1, q1, z1, a2, n2, q2, z2, a3, n3, q3, z3, a4, n4, q4, z4, rfl, h0, h1, h2, h3, h4⟩ := hv
  clear h1 h2 h3 h4
  unfold setup
  go_enter Try.func4, Try.ntmps4
  go_upto_region 2 with (go_at_call 29; refine (config_c _ _ _ _ _ _ _ _ _ _ _ _ _ _ z0 _ (h0.below (by exact ba (Below.refl _ _)))).mono ?_; rintro e w1 ⟨N, L, K, S, Y, O, I, zi, av, nv, cv, rfl, hcf, hnv, hown, hb1⟩; unfold cfg)
  have hB := ba (o := .cells #[.int .i64 (N : Int), .int .i64 (L : Int), .int .i64 (K : Int), .int .i64 (S : Int), .int .i64 (Y : Int), .int .i64 (O : Int), .int .i64 (I : Int), .slice av nv cv] 58) (next (ba (Below.refl _ _)) hb1)
  have hcb := CB.made w1 N L K S Y O I (.slice av nv cv)
  have hsl := (own_sl hown).below (ba (o := .cells #[.int .i64 (N : Int), .int .i64 (L : Int), .int .i64 (K : Int), .int .i64 (S : Int), .int .i64 (Y : Int), .int .i64 (O : Int), .int .i64 (I : Int), .slice av nv cv] 58) (Below.refl _ _))
  generalize w1.alloc (.cells #[.int .i64 (N : Int), .int .i64 (L : Int), .int .i64 (K : Int), .int .i64 (S : Int), .int .i64 (Y : Int), .int .i64 (O : Int), .int .i64 (I : Int), .slice av nv cv] 58) = W at *
  generalize w1.heap.size = gc at *
  obtain ⟨N0, N1, L0, L1, K0, K1, S0, S1, Y0, Y1, O0, O1, I0, I1⟩ := hcf.bd
  obtain ⟨p0, p2, p3⟩ := mul_bd L0 L1 K0 K1
  have hnl : nv ≤ 8 := by have := hcf.len; have := hnv.out; omega
  have hnew := mo_new (w := w) (X := fun j => j = gc) N L K S Y O I av nv cv zi 0 hB (fun j hj => hj ▸ hcb.lt) hsl N0 (by omega) (by omega) K0 (by omega) (by omega)
  have HH : Hid (hasH (rows0 zi N L K 0 L) 0 = true) := hasH_some (rows0_in (by omega) (by omega) (by unfold remI; simp))
  have HG : Hid (getK hOf 0 (rows0 zi N L K 0 L) = some ⟨0, 0, -1, wordsI zi L K 0⟩) := rows0_in (by omega) (by omega) (by unfold remI; simp)
  have HN1 : Hid (hasH (rows0 zi N L K 0 L) (-1) = false) := hasH_none (rows0_no (.inl (by omega)))
  have HNL : Hid (hasH (rows0 zi N L K 0 L) (L : Int) = false) := hasH_none (rows0_no (.inr (.inl (by omega))))
  have HNN : Hid (1 < (N : Int) → hasH (rows0 zi N L K 0 L) 1 = false) := fun h => hasH_none (rows0_no (.inr (.inr (by unfold remI; rw [if_neg (by omega), Int.emod_eq_of_lt (by omega) h]; omega))))
  have HZ : Hid ((wordsI zi L K 0).length = K) := by have := wordsI_in (zi := zi) (K := K) (j := 0) (L := L) (by omega); show _ = _; rw [show ((0 : Nat) : Int) = 0 from rfl] at this; rw [this]; simp
  have HIN : Hid (In64 0) := by unfold Hid In64; omega
  clear hcf hown hb1 h0 hsl p0 p2 p3 S0 S1 Y0 Y1 O0 O1 I0 I1 hnv hnl
  unfold cfg at hnew
  generalize rows0 zi N L K 0 L = R0 at *
  obtain ⟨c0, c1, c2, c3, c4, c5, c6, c7, clt⟩ := hcb
  go_upto_region 5 with (go_at_call 30; refine hnew.mono ?_; rintro e w2 ⟨g, rfl, b2, M⟩)
  clear hnew
  replace hB := next hB b2
  have e := fun o => (b2.cell (p := ⟨gc, o, none⟩) clt)
  replace c0 := (e 0).trans c0
  replace c1 := (e 1).trans c1
  replace c2 := (e 2).trans c2
  replace clt := Nat.lt_of_lt_of_le clt b2.size
  clear e c3 c4 c5 c6 c7 b2 W w1
  have hmw : 0 ≤ x % (N : Int) ∧ x % (N : Int) < (N : Int) := ⟨Int.emod_nonneg _ (by omega), Int.emod_lt_of_pos _ (by omega)⟩
  obtain ⟨hd, hhd⟩ : ∃ hd, x % (N : Int) = hd := ⟨_, rfl⟩
  have HHD : Hid (x % (N : Int) = hd) := hhd
  rw [hhd] at hmw
  clear hhd
  have HO0 : Hid (setOk N K 3 hd 0 = false) := by
    show _ = _
    unfold setOk
    simp only [Bool.and_eq_false_iff, decide_eq_false_iff_not]
    exact .inl (.inl (.inl (by omega)))
  have HO1 : Hid (setOk N K (-1) (-1) 0 = false) := by
    show _ = _
    unfold setOk
    simp only [Bool.and_eq_false_iff, decide_eq_false_iff_not]
    exact .inl (.inl (.inl (by omega)))
  have HO2 : Hid (setOk N K 1 N 0 = false) := by
    show _ = _
    unfold setOk
    simp only [Bool.and_eq_false_iff, decide_eq_false_iff_not]
    exact .inl (.inl (.inr (by omega)))
  have HO3 : Hid (setOk N K 2 (-2) 0 = false) := by
    show _ = _
    unfold setOk
    simp only [Bool.and_eq_false_iff, decide_eq_false_iff_not]
    exact .inl (.inl (.inr (by omega)))
  have HO4 : Hid (setOk N K 0 hd 0 = false) := by
    show _ = _
    unfold setOk
    simp only [Bool.and_eq_false_iff, decide_eq_false_iff_not]
    exact .inl (.inr (by have h1 : (hd == -1) = false := (by simp; omega)
                         rw [h1]; rfl))
  have HO5 : Hid (setOk N K 1 (-1) 0 = false) := by
    show _ = _
    unfold setOk
    simp only [Bool.and_eq_false_iff, decide_eq_false_iff_not]
    exact .inl (.inr (by decide))
  have HO6 : Hid (setOk N K 2 (-1) 0 = false) := by
    show _ = _
    unfold setOk
    simp only [Bool.and_eq_false_iff, decide_eq_false_iff_not]
    exact .inl (.inr (by decide))
  have HO7 : Hid (setOk N K 1 hd (K + 1) = false) := by
    show _ = _
    unfold setOk
    simp only [Bool.and_eq_false_iff, decide_eq_false_iff_not]
    exact .inr (by omega)
  have HO8 : Hid (setOk N K 2 hd 0 = true) := by
    show _ = _
    unfold setOk
    have h1 : ((2 : Int) == 0) = false := by decide
    have h2 : (hd == -1) = false := by simp; omega
    rw [h1, h2, decide_eq_true (by omega), decide_eq_true (by omega), decide_eq_true (.inl rfl)]
    rfl
  have hmk : ∀ w : World, (Instr.makeSlice 28 (.int .i64 ((K : Int) + 1)) (.int .i64 ((K : Int) + 1))).run Try.prog w = .ok (.slice (some ⟨w.heap.size, 0, none⟩) (K + 1) (K + 1)) (w.alloc (.cells (cells (List.replicate (K + 1) 0)).toArray 3)) := fun w => by
    have := make_row (K + 1) (by omega) w
    rw [show (((K + 1 : Nat) : Int)) = (K : Int) + 1 by omega] at this
    exact this
  go_upto_region 7 with (go_at_call 8; refine (within_any _ _ _ (by omega) (by omega)).mono ?_; rintro e wx ⟨rfl, rfl⟩; rw [HHD.out])
  have HGF : Hid (gc < w2.heap.size ∧ w.heap.size ≤ w2.heap.size) := ⟨clt, hB.size⟩
  have own : Own (w2.alloc (.cells (cells (List.replicate (K + 1) 0)).toArray 3)) w2.heap.size (.slice (some ⟨w2.heap.size, 0, none⟩) (K + 1) (K + 1)) (List.replicate (K + 1) 0) := own_row (heap_alloc_new _ _) (by simp) (Nat.le_refl _) (by unfold maxLen; omega)
  have b3 : Below w2.heap.size w2 (w2.alloc (.cells (cells (List.replicate (K + 1) 0)).toArray 3)) := ba (Below.refl _ _)
  have hgf : w2.heap.size < (w2.alloc (.cells (cells (List.replicate (K + 1) 0)).toArray 3)).heap.size := by simp
  replace M := M.grow (Y := fun j => j = gc ∨ j = w2.heap.size) b3 (fun j hj => by
    rcases hj with rfl | rfl
    · exact ⟨.inl rfl, by omega⟩
    · exact ⟨.inr (Nat.le_refl _), hgf⟩)
  generalize w2.alloc (.cells (cells (List.replicate (K + 1) 0)).toArray 3) = w3 at *
  have e := fun o => (b3.cell (p := ⟨gc, o, none⟩) clt)
  replace c0 := (e 0).trans c0
  replace c1 := (e 1).trans c1
  have hlt := Nat.lt_of_lt_of_le clt b3.size
  generalize w2.heap.size = gf at *
  clear e b3 hmk clt c2 hgf hB
  clear w2
  refine wp_region_orders 25 rfl (by kernel_rfl) ?_
  have Bd : Below w3.heap.size w3 w3.drew := (Below.refl _ _).drew
  replace M := M.below Bd
  replace c0 := (Bd.cell (p := ⟨gc, 0, none⟩) hlt).trans c0
  replace c1 := (Bd.cell (p := ⟨gc, 1, none⟩) hlt).trans c1
  replace hlt := Nat.lt_of_lt_of_le hlt Bd.size
  replace own := own.below Bd
  clear Bd
  generalize w3.drew = w4 at *
  clear w3
  have hI : (fun V : World => V.cell? ⟨gc, 0, none⟩ = some (.int .i64 (N : Int))) w4 := c0
  refine any_inv (fun V : World => V.cell? ⟨gc, 0, none⟩ = some (.int .i64 (N : Int))) [] hI ?_
  refine inv_take (v := ?v1) [2, 4, 8, 10, 13, 15, 17, 21, 22, 23] 0 hI rfl (by kernel_rfl) (by kernel_rfl) (by kernel_rfl) (by kernel_rfl) (by kernel_rfl) (fun _ _ _ h => h) (by kernel_rfl) (fun V hV => ?hy1) ?go1
  case hy1 => (go_simp <;> rfl)
  simp only [Act.put, List.setIfInBounds_toArray, List.set_cons_zero, List.set_cons_succ]
  refine inv_take (v := ?v2) [2, 4, 8, 10, 13, 15, 17, 21, 22, 23] 1 hI rfl (by kernel_rfl) (by kernel_rfl) (by kernel_rfl) (by kernel_rfl) (by kernel_rfl) (fun _ _ _ h => h) (by kernel_rfl) (fun V hV => ?hy2) ?go2
  case hy2 => (go_simp <;> rfl)
  simp only [Act.put, List.setIfInBounds_toArray, List.set_cons_zero, List.set_cons_succ]
  refine inv_take (v := ?v3) [4, 8, 10, 13, 15, 17, 21, 22, 23] 3 hI rfl (by kernel_rfl) (by kernel_rfl) (by kernel_rfl) (by kernel_rfl) (by kernel_rfl) (fun _ _ _ h => h) (by kernel_rfl) (fun V hV => ?hy3) ?go3
  case hy3 => (go_simp <;> rfl)
  simp only [Act.put, List.setIfInBounds_toArray, List.set_cons_zero, List.set_cons_succ]
  refine inv_take (v := ?v4) [8, 10, 13, 15, 17, 21, 22, 23] 5 hI rfl (by kernel_rfl) (by kernel_rfl) (by kernel_rfl) (by kernel_rfl) (by kernel_rfl) (fun _ _ _ h => h) (by kernel_rfl) (fun V hV => ?hy4) ?go4
  case hy4 => (go_simp <;> rfl)
  simp only [Act.put, List.setIfInBounds_toArray, List.set_cons_zero, List.set_cons_succ]
  refine inv_take (v := ?v5) [7, 8, 10, 13, 15, 17, 21, 22, 23] 6 hI rfl (by kernel_rfl) (by kernel_rfl) (by kernel_rfl) (by kernel_rfl) (by kernel_rfl) (fun _ _ _ h => h) (by kernel_rfl) (fun V hV => ?hy5) ?go5
  case hy5 => (go_simp <;> rfl)
  simp only [Act.put, List.setIfInBounds_toArray, List.set_cons_zero, List.set_cons_succ]
  refine inv_take (v := ?v6) [8, 10, 13, 15, 17, 21, 22, 23] 7 hI rfl (by kernel_rfl) (by kernel_rfl) (by kernel_rfl) (by kernel_rfl) (by kernel_rfl) (fun _ _ _ h => h) (by kernel_rfl) (fun V hV => ?hy6) ?go6
  case hy6 => (go_simp <;> rfl)
  simp only [Act.put, List.setIfInBounds_toArray, List.set_cons_zero, List.set_cons_succ]
  refine inv_take (v := ?v7) [10, 13, 15, 17, 21, 22, 23] 9 hI rfl (by kernel_rfl) (by kernel_rfl) (by kernel_rfl) (by kernel_rfl) (by kernel_rfl) (fun _ _ _ h => h) (by kernel_rfl) (fun V hV => ?hy7) ?go7
  case hy7 => (go_simp <;> rfl)
  simp only [Act.put, List.setIfInBounds_toArray, List.set_cons_zero, List.set_cons_succ]
  refine inv_take (v := ?v8) [13, 15, 17, 21, 22, 23] 11 hI rfl (by kernel_rfl) (by kernel_rfl) (by kernel_rfl) (by kernel_rfl) (by kernel_rfl) (fun _ _ _ h => h) (by kernel_rfl) (fun V hV => ?hy8) ?go8
  case hy8 => (go_simp <;> rfl)
  simp only [Act.put, List.setIfInBounds_toArray, List.set_cons_zero, List.set_cons_succ]
  refine inv_take (v := ?v9) [13, 15, 17, 21, 22, 23] 12 hI rfl (by kernel_rfl) (by kernel_rfl) (by kernel_rfl) (by kernel_rfl) (by kernel_rfl) (fun _ _ _ h => h) (by kernel_rfl) (fun V hV => ?hy9) ?go9
  case hy9 => (go_simp <;> rfl)
  simp only [Act.put, List.setIfInBounds_toArray, List.set_cons_zero, List.set_cons_succ]
  refine inv_take (v := ?v10) [15, 17, 21, 22, 23] 14 hI rfl (by kernel_rfl) (by kernel_rfl) (by kernel_rfl) (by kernel_rfl) (by kernel_rfl) (fun _ _ _ h => h) (by kernel_rfl) (fun V hV => ?hy10) ?go10
  case hy10 => (go_simp <;> rfl)
  simp only [Act.put, List.setIfInBounds_toArray, List.set_cons_zero, List.set_cons_succ]
  refine inv_take (v := ?v11) [17, 21, 22, 23] 16 hI rfl (by kernel_rfl) (by kernel_rfl) (by kernel_rfl) (by kernel_rfl) (by kernel_rfl) (fun _ _ _ h => h) (by kernel_rfl) (fun V hV => ?hy11) ?go11
  case hy11 => (go_simp <;> rfl)
  simp only [Act.put, List.setIfInBounds_toArray, List.set_cons_zero, List.set_cons_succ]
  refine inv_take (v := ?v12) [21, 22, 23] 18 hI rfl (by kernel_rfl) (by kernel_rfl) (by kernel_rfl) (by kernel_rfl) (by kernel_rfl) (fun _ _ _ h => h) (by kernel_rfl) (fun V hV => ?hy12) ?go12
  case hy12 => (go_simp <;> rfl)
  simp only [Act.put, List.setIfInBounds_toArray, List.set_cons_zero, List.set_cons_succ]
  refine inv_take (v := ?v13) [21, 22, 23] 19 hI rfl (by kernel_rfl) (by kernel_rfl) (by kernel_rfl) (by kernel_rfl) (by kernel_rfl) (fun _ _ _ h => h) (by kernel_rfl) (fun V hV => ?hy13) ?go13
  case hy13 => (go_simp <;> rfl)
  simp only [Act.put, List.setIfInBounds_toArray, List.set_cons_zero, List.set_cons_succ]
  refine inv_take (v := ?v14) [21, 22, 23] 20 hI rfl (by kernel_rfl) (by kernel_rfl) (by kernel_rfl) (by kernel_rfl) (by kernel_rfl) (fun _ _ _ h => h) (by kernel_rfl) (fun V hV => ?hy14) ?go14
  case hy14 => (go_simp <;> rfl)
  simp only [Act.put, List.setIfInBounds_toArray, List.set_cons_zero, List.set_cons_succ]
  refine inv_take (v := ?v15) [] 24 hI rfl (by kernel_rfl) (by kernel_rfl) (by kernel_rfl) (by kernel_rfl) (by kernel_rfl) (fun _ _ _ h => h) (by kernel_rfl) (fun V hV => ?hy15) ?go15
  case hy15 => (go_simp <;> rfl)
  simp only [Act.put, List.setIfInBounds_toArray, List.set_cons_zero, List.set_cons_succ]
  clear hI
  refine inv_list 2 (by kernel_rfl) rfl ?_
  go_wp2_with (go_at_call 31; refine (mo_set_arg M HIN.out HH.out 3 hd _ _ _ HO0.out).mono ?_; rintro e u0 ⟨rfl, b0⟩)
  replace M := M.below b0
  replace c0 := (b0.cell (p := ⟨gc, 0, none⟩) hlt).trans c0
  replace c1 := (b0.cell (p := ⟨gc, 1, none⟩) hlt).trans c1
  replace hlt := Nat.lt_of_lt_of_le hlt b0.size
  replace own := own.below b0
  clear b0
  refine then_n ⟨c0, ?_⟩
  refine inv_list 4 (by kernel_rfl) rfl ?_
  go_wp2_with (go_at_call 31; refine (mo_set_arg M HIN.out HH.out (-1) (-1) _ _ _ HO1.out).mono ?_; rintro e u1 ⟨rfl, b1⟩)
  replace M := M.below b1
  replace c0 := (b1.cell (p := ⟨gc, 0, none⟩) hlt).trans c0
  replace c1 := (b1.cell (p := ⟨gc, 1, none⟩) hlt).trans c1
  replace hlt := Nat.lt_of_lt_of_le hlt b1.size
  replace own := own.below b1
  clear b1
  refine then_n ⟨c0, ?_⟩
  refine inv_list 8 (by kernel_rfl) rfl ?_
  go_wp2_with (go_at_call 31; refine (mo_set_arg M HIN.out HH.out 1 N _ _ _ HO2.out).mono ?_; rintro e u2 ⟨rfl, b2⟩)
  replace M := M.below b2
  replace c0 := (b2.cell (p := ⟨gc, 0, none⟩) hlt).trans c0
  replace c1 := (b2.cell (p := ⟨gc, 1, none⟩) hlt).trans c1
  replace hlt := Nat.lt_of_lt_of_le hlt b2.size
  replace own := own.below b2
  clear b2
  refine then_n ⟨c0, ?_⟩
  refine inv_list 10 (by kernel_rfl) rfl ?_
  go_wp2_with (go_at_call 31; refine (mo_set_arg M HIN.out HH.out 2 (-2) _ _ _ HO3.out).mono ?_; rintro e u3 ⟨rfl, b3⟩)
  replace M := M.below b3
  replace c0 := (b3.cell (p := ⟨gc, 0, none⟩) hlt).trans c0
  replace c1 := (b3.cell (p := ⟨gc, 1, none⟩) hlt).trans c1
  replace hlt := Nat.lt_of_lt_of_le hlt b3.size
  replace own := own.below b3
  clear b3
  refine then_n ⟨c0, ?_⟩
  refine inv_list 13 (by kernel_rfl) rfl ?_
  go_wp2_with (go_at_call 31; refine (mo_set_arg M HIN.out HH.out 0 hd _ _ _ HO4.out).mono ?_; rintro e u4 ⟨rfl, b4⟩)
  replace M := M.below b4
  replace c0 := (b4.cell (p := ⟨gc, 0, none⟩) hlt).trans c0
  replace c1 := (b4.cell (p := ⟨gc, 1, none⟩) hlt).trans c1
  replace hlt := Nat.lt_of_lt_of_le hlt b4.size
  replace own := own.below b4
  clear b4
  refine then_n ⟨c0, ?_⟩
  refine inv_list 15 (by kernel_rfl) rfl ?_
  go_wp2_with (go_at_call 31; refine (mo_set_arg M HIN.out HH.out 1 (-1) _ _ _ HO5.out).mono ?_; rintro e u5 ⟨rfl, b5⟩)
  replace M := M.below b5
  replace c0 := (b5.cell (p := ⟨gc, 0, none⟩) hlt).trans c0
  replace c1 := (b5.cell (p := ⟨gc, 1, none⟩) hlt).trans c1
  replace hlt := Nat.lt_of_lt_of_le hlt b5.size
  replace own := own.below b5
  clear b5
  refine then_n ⟨c0, ?_⟩
  refine inv_list 17 (by kernel_rfl) rfl ?_
  go_wp2_with (go_at_call 31; refine (mo_set_arg M HIN.out HH.out 2 (-1) _ _ _ HO6.out).mono ?_; rintro e u6 ⟨rfl, b6⟩)
  replace M := M.below b6
  replace c0 := (b6.cell (p := ⟨gc, 0, none⟩) hlt).trans c0
  replace c1 := (b6.cell (p := ⟨gc, 1, none⟩) hlt).trans c1
  replace hlt := Nat.lt_of_lt_of_le hlt b6.size
  replace own := own.below b6
  clear b6
  refine then_n ⟨c0, ?_⟩
  refine inv_list 21 (by kernel_rfl) rfl ?_
  go_wp2_with (go_at_call 31; refine (mo_set_arg M HIN.out HH.out 1 hd _ _ _ HO7.out).mono ?_; rintro e u7 ⟨rfl, b7⟩)
  replace M := M.below b7
  replace c0 := (b7.cell (p := ⟨gc, 0, none⟩) hlt).trans c0
  replace c1 := (b7.cell (p := ⟨gc, 1, none⟩) hlt).trans c1
  replace hlt := Nat.lt_of_lt_of_le hlt b7.size
  replace own := own.below b7
  clear b7
  refine then_n ⟨c0, ?_⟩
  refine inv_list 22 (by kernel_rfl) rfl ?_
  go_wp2_with fail
  have b9 : Below u7.heap.size u7 (u7.alloc (.cells #[.int .i64 1, .int .i64 1, .int .i64 1, .int .i64 1, .int .i64 1, .int .i64 1, .int .i64 1, .int .i64 1] 37)) := ba (Below.refl _ _)
  have hbx : ∀ j, j < 8 → (u7.alloc (.cells #[.int .i64 1, .int .i64 1, .int .i64 1, .int .i64 1, .int .i64 1, .int .i64 1, .int .i64 1, .int .i64 1] 37)).cell? ⟨u7.heap.size, j, none⟩ = some (.int .i64 1) := fun j hj => by
    have h8 : j = 0 ∨ j = 1 ∨ j = 2 ∨ j = 3 ∨ j = 4 ∨ j = 5 ∨ j = 6 ∨ j = 7 := by omega
    rcases h8 with rfl | rfl | rfl | rfl | rfl | rfl | rfl | rfl <;> simp
  replace M := M.below b9
  replace c0 := (b9.cell (p := ⟨gc, 0, none⟩) hlt).trans c0
  replace c1 := (b9.cell (p := ⟨gc, 1, none⟩) hlt).trans c1
  replace hlt := Nat.lt_of_lt_of_le hlt b9.size
  replace own := own.below b9
  clear b9
  generalize u7.heap.size = gl at *
  generalize u7.alloc _ = v0 at *
  refine then_n ⟨c0, ?_⟩
  have hI : (fun V : World => V.cell? ⟨gc, 0, none⟩ = some (.int .i64 (N : Int))) v0 := c0
  refine inv_take (v := ?v16) [] 23 hI rfl (by kernel_rfl) (by kernel_rfl) (by kernel_rfl) (by kernel_rfl) (by kernel_rfl) (fun _ _ _ h => h) (by kernel_rfl) (fun V hV => ?hy16) ?go16
  case hy16 => (go_simp <;> rfl)
  simp only [Act.put, List.setIfInBounds_toArray, List.set_cons_zero, List.set_cons_succ]
  refine inv_done (by kernel_rfl) ?_
  clear hI
  go_wp2_with fail
  go_loopw [51, 9] (fun vj v9 wx => ∃ j : Nat, vj = .int .i64 (j : Int) ∧ j ≤ 8 ∧ v0 = wx) (fun vj _ _ => 8 - (intOf vj).toNat)
  case atStart => exact ⟨0, rfl, by omega, rfl⟩
  case round =>
    obtain ⟨j, rfl, hj, rfl⟩ := hrel
    by_cases hlt8 : j < 8
    · have hcj := hbx j hlt8
      go_wp2_with fail
      go_roundw
      case rel => exact ⟨j + 1, by go_num, by omega, by first | rfl | trivial⟩
      case measure => simp [intOf]; omega
    · clear hbx
      by_cases hN1 : 1 < (N : Int)
      · go_upto_region 15 with (first
          | (have mk := HN1; clear mk; go_at_call 31; refine (mo_set_none M (by unfold In64; omega) HN1.out 1 hd none 0 0).mono ?_; rintro e x1 ⟨rfl, b10⟩; replace M := M.below b10; replace c0 := (b10.cell (p := ⟨gc, 0, none⟩) hlt).trans c0; replace c1 := (b10.cell (p := ⟨gc, 1, none⟩) hlt).trans c1; replace hlt := Nat.lt_of_lt_of_le hlt b10.size; replace own := own.below b10; clear b10; clear HN1)
          | (have mk := HNL; clear mk; go_at_call 31; refine (mo_set_none M (by unfold In64; omega) HNL.out 1 hd none 0 0).mono ?_; rintro e x2 ⟨rfl, b11⟩; replace M := M.below b11; replace c0 := (b11.cell (p := ⟨gc, 0, none⟩) hlt).trans c0; replace c1 := (b11.cell (p := ⟨gc, 1, none⟩) hlt).trans c1; replace hlt := Nat.lt_of_lt_of_le hlt b11.size; replace own := own.below b11; clear b11; clear HNL)
          | (have mk := HNN; clear mk; go_at_call 31; refine (mo_set_none M (by unfold In64; omega) (HNN.out hN1) 1 hd none 0 0).mono ?_; rintro e x3 ⟨rfl, b12⟩; replace M := M.below b12; replace c0 := (b12.cell (p := ⟨gc, 0, none⟩) hlt).trans c0; replace c1 := (b12.cell (p := ⟨gc, 1, none⟩) hlt).trans c1; replace hlt := Nat.lt_of_lt_of_le hlt b12.size; replace own := own.below b12; clear b12; clear HNN))
        clear hN1
        go_upto_region 16 with (go_at_call 32; refine (mo_row_at M HIN.out HG.out HZ.out).mono ?_; rintro e v1 ⟨ar, cr, rfl, ow1, b1⟩)
        have bel := ba (o := .cells #[.int .i64 0, .int .i64 (-1), .slice ar K cr] 65) (Below.refl v1.heap.size v1)
        have hlo := ow1.lo
        have hz1 := b1.size
        have hgr : v1.heap.size < (v1.alloc (.cells #[.int .i64 0, .int .i64 (-1), .slice ar K cr] 65)).heap.size := by simp
        have hxl := M.xl
        have M2 := M.grow (Y := fun j => (j = gc ∨ j = gf) ∨ (j = v1.heap.size ∨ ∃ y : Addr, ar = some y ∧ j = y.block)) (next b1 bel) (fun j hj => by
          rcases hj with hj | rfl | ⟨y, hy, rfl⟩
          · exact ⟨.inl hj, by have := hxl j hj; omega⟩
          · exact ⟨.inr hz1, hgr⟩
          · have := hlo y hy; exact ⟨.inr this.1, by omega⟩)
        have r0 : (v1.alloc (.cells #[.int .i64 0, .int .i64 (-1), .slice ar K cr] 65)).cell? ⟨v1.heap.size, 0, none⟩ = some (.int .i64 0) := by simp
        have r1 : (v1.alloc (.cells #[.int .i64 0, .int .i64 (-1), .slice ar K cr] 65)).cell? ⟨v1.heap.size, 1, none⟩ = some (.int .i64 (-1)) := by simp
        have r2 : (v1.alloc (.cells #[.int .i64 0, .int .i64 (-1), .slice ar K cr] 65)).cell? ⟨v1.heap.size, 2, none⟩ = some (.slice ar K cr) := by simp
        have f0 : (v1.alloc (.cells #[.int .i64 0, .int .i64 (-1), .slice ar K cr] 65)).frozen? ⟨v1.heap.size, 0, none⟩ = false := by simp
        have f1 : (v1.alloc (.cells #[.int .i64 0, .int .i64 (-1), .slice ar K cr] 65)).frozen? ⟨v1.heap.size, 1, none⟩ = false := by simp
        have f2 : (v1.alloc (.cells #[.int .i64 0, .int .i64 (-1), .slice ar K cr] 65)).frozen? ⟨v1.heap.size, 2, none⟩ = false := by simp
        have ow2 := ow1.below bel
        have own2 := (own.below b1).below bel
        have HLO : Hid (∀ y : Addr, ar = some y → y.block < v1.heap.size) := fun y hy => (hlo y hy).2
        have HFR : Hid (gf ≠ v1.heap.size) := fun e => by have := hxl gf (.inr rfl); omega
        have HGR : Hid (w.heap.size ≤ v1.heap.size) := by have := M.bel.size; show _ ≤ _; omega
        clear M own ow1 b1 hlo hz1 hxl bel c0 c1 hlt
        generalize v1.heap.size = gr at *
        generalize v1.alloc _ = v2 at *
        clear v1
        go_upto_region 21 with (go_at_call 31; refine (mo_set_ok M2 HIN.out HH.out 2 hd none 0 0 [] (sl_nil _) (by omega) HO8.out).mono ?_; rintro e v3 ⟨rfl, K3, M3⟩)
        have e3 := fun o => K3.cell (b := gr) o hgr (fun h => h.2 (.inr (.inl rfl)))
        have g3 := fun o => K3.frozen (b := gr) o hgr (fun h => h.2 (.inr (.inl rfl)))
        replace r0 := (e3 0).trans r0
        replace r1 := (e3 1).trans r1
        replace r2 := (e3 2).trans r2
        replace f0 := (g3 0).trans f0
        replace f1 := (g3 1).trans f1
        replace f2 := (g3 2).trans f2
        replace hgr := Nat.lt_of_lt_of_le hgr K3.size
        have ow3 := ow2.keep K3 (fun j hj h => h.2 (.inr (.inr (by cases ar with | none => cases hj | some y => exact ⟨y, rfl, (Option.some.inj hj).symm⟩))))
        have own3 := own2.keep K3 (fun j hj h => h.2 (.inl (.inr (Option.some.inj hj).symm)))
        have hz3 : (rowL R0 0).z = wordsI zi L K 0 := by unfold rowL; rw [HG.out]; rfl
        simp only [if_true, hz3] at M3
        have HG3 : Hid (getK hOf 0 (putK hOf (⟨0, 2, hd, wordsI zi L K 0⟩ : Hr) R0) = some ⟨0, 2, hd, wordsI zi L K 0⟩) := putH_get M2.rise ⟨0, 2, hd, wordsI zi L K 0⟩
        generalize putK hOf (⟨0, 2, hd, wordsI zi L K 0⟩ : Hr) R0 = R3 at *
        clear K3 M2 e3 g3 ow2 own2 hz3
        clear v2
        go_upto_region 22 with (go_at_call 32; refine (mo_row_at M3 HIN.out HG3.out HZ.out).mono ?_; rintro e v4 ⟨a4, c4, rfl, ow4, b4⟩; obtain ⟨k4, g4⟩ := bcell b4; replace r0 := (k4 gr 0 hgr).trans r0; replace r1 := (k4 gr 1 hgr).trans r1; replace r2 := (k4 gr 2 hgr).trans r2; replace f0 := (g4 gr 0 hgr).trans f0; replace f1 := (g4 gr 1 hgr).trans f1; replace f2 := (g4 gr 2 hgr).trans f2; clear k4 g4)
        have K4 := ((Keep.one v4 gr 0 (.int .i64 2)).trans (Keep.one _ gr 1 (.int .i64 hd)) (fun _ _ h => h)).trans (Keep.one _ gr 2 (.slice a4 K c4)) (fun _ _ h => h)
        have s0 : (((v4.setCell ⟨gr, 0, none⟩ (.int .i64 2)).setCell ⟨gr, 1, none⟩ (.int .i64 hd)).setCell ⟨gr, 2, none⟩ (.slice a4 K c4)).cell? ⟨gr, 0, none⟩ = some (.int .i64 2) := by go_simp
        have s1 : (((v4.setCell ⟨gr, 0, none⟩ (.int .i64 2)).setCell ⟨gr, 1, none⟩ (.int .i64 hd)).setCell ⟨gr, 2, none⟩ (.slice a4 K c4)).cell? ⟨gr, 1, none⟩ = some (.int .i64 hd) := by go_simp
        have s2 : (((v4.setCell ⟨gr, 0, none⟩ (.int .i64 2)).setCell ⟨gr, 1, none⟩ (.int .i64 hd)).setCell ⟨gr, 2, none⟩ (.slice a4 K c4)).cell? ⟨gr, 2, none⟩ = some (.slice a4 K c4) := by go_simp
        have M5 := (M3.below b4).write K4 (fun j hj => ⟨by rw [hj]; exact HGR.out, .inl (.inr (.inl hj))⟩)
        have sa := own_sl (ow4.keep K4 (fun j hj e => by have := (ow4.base j hj).1; have := hgr; omega))
        have sb := own_sl ((ow3.below b4).keep K4 (fun j hj e => by
          cases ar with
          | none => cases hj
          | some y => have := HLO.out y rfl; have h2 := Option.some.inj hj; omega))
        have own5 := own_sl ((own3.below b4).keep K4 (fun j hj e => HFR.out ((Option.some.inj hj).trans e)))
        generalize ((v4.setCell ⟨gr, 0, none⟩ (.int .i64 2)).setCell ⟨gr, 1, none⟩ (.int .i64 hd)).setCell ⟨gr, 2, none⟩ (.slice a4 K c4) = v5 at *
        clear r0 r1 r2 f0 f1 f2 K4 b4 ow3 ow4 own3 M3 hgr HLO
        clear v4
        go_upto_region 24 with (go_at_call 33; refine (same_any _ _ _ _ _ _ _ _ _ sa sb).mono ?_; rintro e v6 ⟨rfl, kk, rfl⟩; rw [decide_eq_true rfl])
        have bk : Below v5.heap.size v5 (v5.drewN kk) := ⟨rfl, rfl, rfl, Nat.le_refl _, fun _ _ => rfl⟩
        have M6 := M5.below bk
        have sf := own5.below bk
        clear M5 sa sb own5 bk s0 s1 s2
        generalize v5.drewN kk = v6 at *
        clear v5
        have sg : Sl v6 (some ⟨gf, 1, none⟩) K K (List.replicate K 0) := by
          refine ⟨by simp, Nat.le_refl _, by unfold maxLen; omega, fun h => (by cases h), .inr ⟨gf, 1, rfl, fun q hq => ?_⟩⟩
          obtain ⟨b', o', e', _, h'⟩ := sf.at (k := q + 1) (by simp at hq; omega)
          injection e' with e'
          injection e' with e1 e2
          subst e1 e2
          rw [show 1 + q = 0 + (q + 1) by omega, h']
          simp at hq
          simp [hq, show q + 1 < K + 1 by omega]
        have HO9 : Hid (setOk N K 0 (-1) K = true) := by
          show _ = _
          unfold setOk
          rw [decide_eq_true (by omega), decide_eq_true (by omega), decide_eq_true (.inr rfl)]
          rfl
        go_wp2_with (first
          | (have mk := M9; clear mk; go_at_call 34; refine (dwakes_any _).mono ?_; rintro e v8 ⟨rfl, b8⟩)
          | (go_at_call 31; refine (mo_set_ok M6 HIN.out (hasH_some HG3.out) 0 (-1) (some ⟨gf, 1, none⟩) K K (List.replicate K 0) sg (by omega) HO9.out).mono ?_; rintro e v7 ⟨rfl, K7, M9⟩))
        go_ret
        exact ⟨rfl, next M9.bel b8⟩
      · go_upto_region 15 with (first
          | (have mk := HN1; clear mk; go_at_call 31; refine (mo_set_none M (by unfold In64; omega) HN1.out 1 hd none 0 0).mono ?_; rintro e x1 ⟨rfl, b10⟩; replace M := M.below b10; replace c0 := (b10.cell (p := ⟨gc, 0, none⟩) hlt).trans c0; replace c1 := (b10.cell (p := ⟨gc, 1, none⟩) hlt).trans c1; replace hlt := Nat.lt_of_lt_of_le hlt b10.size; replace own := own.below b10; clear b10; clear HN1)
          | (have mk := HNL; clear mk; go_at_call 31; refine (mo_set_none M (by unfold In64; omega) HNL.out 1 hd none 0 0).mono ?_; rintro e x2 ⟨rfl, b11⟩; replace M := M.below b11; replace c0 := (b11.cell (p := ⟨gc, 0, none⟩) hlt).trans c0; replace c1 := (b11.cell (p := ⟨gc, 1, none⟩) hlt).trans c1; replace hlt := Nat.lt_of_lt_of_le hlt b11.size; replace own := own.below b11; clear b11; clear HNL))
        clear hN1 HNN
        go_upto_region 16 with (go_at_call 32; refine (mo_row_at M HIN.out HG.out HZ.out).mono ?_; rintro e v1 ⟨ar, cr, rfl, ow1, b1⟩)
        have bel := ba (o := .cells #[.int .i64 0, .int .i64 (-1), .slice ar K cr] 65) (Below.refl v1.heap.size v1)
        have hlo := ow1.lo
        have hz1 := b1.size
        have hgr : v1.heap.size < (v1.alloc (.cells #[.int .i64 0, .int .i64 (-1), .slice ar K cr] 65)).heap.size := by simp
        have hxl := M.xl
        have M2 := M.grow (Y := fun j => (j = gc ∨ j = gf) ∨ (j = v1.heap.size ∨ ∃ y : Addr, ar = some y ∧ j = y.block)) (next b1 bel) (fun j hj => by
          rcases hj with hj | rfl | ⟨y, hy, rfl⟩
          · exact ⟨.inl hj, by have := hxl j hj; omega⟩
          · exact ⟨.inr hz1, hgr⟩
          · have := hlo y hy; exact ⟨.inr this.1, by omega⟩)
        have r0 : (v1.alloc (.cells #[.int .i64 0, .int .i64 (-1), .slice ar K cr] 65)).cell? ⟨v1.heap.size, 0, none⟩ = some (.int .i64 0) := by simp
        have r1 : (v1.alloc (.cells #[.int .i64 0, .int .i64 (-1), .slice ar K cr] 65)).cell? ⟨v1.heap.size, 1, none⟩ = some (.int .i64 (-1)) := by simp
        have r2 : (v1.alloc (.cells #[.int .i64 0, .int .i64 (-1), .slice ar K cr] 65)).cell? ⟨v1.heap.size, 2, none⟩ = some (.slice ar K cr) := by simp
        have f0 : (v1.alloc (.cells #[.int .i64 0, .int .i64 (-1), .slice ar K cr] 65)).frozen? ⟨v1.heap.size, 0, none⟩ = false := by simp
        have f1 : (v1.alloc (.cells #[.int .i64 0, .int .i64 (-1), .slice ar K cr] 65)).frozen? ⟨v1.heap.size, 1, none⟩ = false := by simp
        have f2 : (v1.alloc (.cells #[.int .i64 0, .int .i64 (-1), .slice ar K cr] 65)).frozen? ⟨v1.heap.size, 2, none⟩ = false := by simp
        have ow2 := ow1.below bel
        have own2 := (own.below b1).below bel
        have HLO : Hid (∀ y : Addr, ar = some y → y.block < v1.heap.size) := fun y hy => (hlo y hy).2
        have HFR : Hid (gf ≠ v1.heap.size) := fun e => by have := hxl gf (.inr rfl); omega
        have HGR : Hid (w.heap.size ≤ v1.heap.size) := by have := M.bel.size; show _ ≤ _; omega
        clear M own ow1 b1 hlo hz1 hxl bel c0 c1 hlt
        generalize v1.heap.size = gr at *
        generalize v1.alloc _ = v2 at *
        clear v1
        go_upto_region 21 with (go_at_call 31; refine (mo_set_ok M2 HIN.out HH.out 2 hd none 0 0 [] (sl_nil _) (by omega) HO8.out).mono ?_; rintro e v3 ⟨rfl, K3, M3⟩)
        have e3 := fun o => K3.cell (b := gr) o hgr (fun h => h.2 (.inr (.inl rfl)))
        have g3 := fun o => K3.frozen (b := gr) o hgr (fun h => h.2 (.inr (.inl rfl)))
        replace r0 := (e3 0).trans r0
        replace r1 := (e3 1).trans r1
        replace r2 := (e3 2).trans r2
        replace f0 := (g3 0).trans f0
        replace f1 := (g3 1).trans f1
        replace f2 := (g3 2).trans f2
        replace hgr := Nat.lt_of_lt_of_le hgr K3.size
        have ow3 := ow2.keep K3 (fun j hj h => h.2 (.inr (.inr (by cases ar with | none => cases hj | some y => exact ⟨y, rfl, (Option.some.inj hj).symm⟩))))
        have own3 := own2.keep K3 (fun j hj h => h.2 (.inl (.inr (Option.some.inj hj).symm)))
        have hz3 : (rowL R0 0).z = wordsI zi L K 0 := by unfold rowL; rw [HG.out]; rfl
        simp only [if_true, hz3] at M3
        have HG3 : Hid (getK hOf 0 (putK hOf (⟨0, 2, hd, wordsI zi L K 0⟩ : Hr) R0) = some ⟨0, 2, hd, wordsI zi L K 0⟩) := putH_get M2.rise ⟨0, 2, hd, wordsI zi L K 0⟩
        generalize putK hOf (⟨0, 2, hd, wordsI zi L K 0⟩ : Hr) R0 = R3 at *
        clear K3 M2 e3 g3 ow2 own2 hz3
        clear v2
        go_upto_region 22 with (go_at_call 32; refine (mo_row_at M3 HIN.out HG3.out HZ.out).mono ?_; rintro e v4 ⟨a4, c4, rfl, ow4, b4⟩; obtain ⟨k4, g4⟩ := bcell b4; replace r0 := (k4 gr 0 hgr).trans r0; replace r1 := (k4 gr 1 hgr).trans r1; replace r2 := (k4 gr 2 hgr).trans r2; replace f0 := (g4 gr 0 hgr).trans f0; replace f1 := (g4 gr 1 hgr).trans f1; replace f2 := (g4 gr 2 hgr).trans f2; clear k4 g4)
        have K4 := ((Keep.one v4 gr 0 (.int .i64 2)).trans (Keep.one _ gr 1 (.int .i64 hd)) (fun _ _ h => h)).trans (Keep.one _ gr 2 (.slice a4 K c4)) (fun _ _ h => h)
        have s0 : (((v4.setCell ⟨gr, 0, none⟩ (.int .i64 2)).setCell ⟨gr, 1, none⟩ (.int .i64 hd)).setCell ⟨gr, 2, none⟩ (.slice a4 K c4)).cell? ⟨gr, 0, none⟩ = some (.int .i64 2) := by go_simp
        have s1 : (((v4.setCell ⟨gr, 0, none⟩ (.int .i64 2)).setCell ⟨gr, 1, none⟩ (.int .i64 hd)).setCell ⟨gr, 2, none⟩ (.slice a4 K c4)).cell? ⟨gr, 1, none⟩ = some (.int .i64 hd) := by go_simp
        have s2 : (((v4.setCell ⟨gr, 0, none⟩ (.int .i64 2)).setCell ⟨gr, 1, none⟩ (.int .i64 hd)).setCell ⟨gr, 2, none⟩ (.slice a4 K c4)).cell? ⟨gr, 2, none⟩ = some (.slice a4 K c4) := by go_simp
        have M5 := (M3.below b4).write K4 (fun j hj => ⟨by rw [hj]; exact HGR.out, .inl (.inr (.inl hj))⟩)
        have sa := own_sl (ow4.keep K4 (fun j hj e => by have := (ow4.base j hj).1; have := hgr; omega))
        have sb := own_sl ((ow3.below b4).keep K4 (fun j hj e => by
          cases ar with
          | none => cases hj
          | some y => have := HLO.out y rfl; have h2 := Option.some.inj hj; omega))
        have own5 := own_sl ((own3.below b4).keep K4 (fun j hj e => HFR.out ((Option.some.inj hj).trans e)))
        generalize ((v4.setCell ⟨gr, 0, none⟩ (.int .i64 2)).setCell ⟨gr, 1, none⟩ (.int .i64 hd)).setCell ⟨gr, 2, none⟩ (.slice a4 K c4) = v5 at *
        clear r0 r1 r2 f0 f1 f2 K4 b4 ow3 ow4 own3 M3 hgr HLO
        clear v4
        go_upto_region 24 with (go_at_call 33; refine (same_any _ _ _ _ _ _ _ _ _ sa sb).mono ?_; rintro e v6 ⟨rfl, kk, rfl⟩; rw [decide_eq_true rfl])
        have bk : Below v5.heap.size v5 (v5.drewN kk) := ⟨rfl, rfl, rfl, Nat.le_refl _, fun _ _ => rfl⟩
        have M6 := M5.below bk
        have sf := own5.below bk
        clear M5 sa sb own5 bk s0 s1 s2
        generalize v5.drewN kk = v6 at *
        clear v5
        have sg : Sl v6 (some ⟨gf, 1, none⟩) K K (List.replicate K 0) := by
          refine ⟨by simp, Nat.le_refl _, by unfold maxLen; omega, fun h => (by cases h), .inr ⟨gf, 1, rfl, fun q hq => ?_⟩⟩
          obtain ⟨b', o', e', _, h'⟩ := sf.at (k := q + 1) (by simp at hq; omega)
          injection e' with e'
          injection e' with e1 e2
          subst e1 e2
          rw [show 1 + q = 0 + (q + 1) by omega, h']
          simp at hq
          simp [hq, show q + 1 < K + 1 by omega]
        have HO9 : Hid (setOk N K 0 (-1) K = true) := by
          show _ = _
          unfold setOk
          rw [decide_eq_true (by omega), decide_eq_true (by omega), decide_eq_true (.inr rfl)]
          rfl
        go_wp2_with (first
          | (have mk := M9; clear mk; go_at_call 34; refine (dwakes_any _).mono ?_; rintro e v8 ⟨rfl, b8⟩)
          | (go_at_call 31; refine (mo_set_ok M6 HIN.out (hasH_some HG3.out) 0 (-1) (some ⟨gf, 1, none⟩) K K (List.replicate K 0) sg (by omega) HO9.out).mono ?_; rintro e v7 ⟨rfl, K7, M9⟩))
        go_ret
        exact ⟨rfl, next M9.bel b8⟩
end Go.Proofs.Ytfobgkkmbacfjaa
