/- The walk of MemdirPlays. Conditions: as the theorem states them. -/
import Derived.Test.YtfobgkkmbacfjaaMdP1
import Derived.Test.YtfobgkkmbacfjaaInCells
namespace Go.Proofs.Ytfobgkkmbacfjaa
open Go.RowKit Go.Maps
set_option linter.unusedVariables false
set_option maxRecDepth 20000

set_option maxHeartbeats 3000000 in
theorem memdirPlays_walk (w : World) (v : Value) (hv : IsSetup w v) (x : Int) (a5 : Option Addr) (n5 c5 : Nat) (z5 : List Int) (h5 : Sl w a5 n5 c5 z5) (r5 : R64 z5) (a6 : Option Addr) (n6 c6 : Nat) (z6 : List Int) (h6 : Sl w a6 n6 c6 z6) (a7 : Option Addr) (n7 c7 : Nat) (z7 : List Int) (h7 : Sl w a7 n7 c7 z7) (a8 : Option Addr) (n8 c8 : Nat) (z8 : List Int) (h8 : Sl w a8 n8 c8 z8) (odd : Int) :
    Calls Try.prog 5 #[v, .int .i64 x, .slice a5 n5 c5, .slice a6 n6 c6, .slice a7 n7 c7, .slice a8 n8 c8, .int .i64 odd] w fun e w' => e = .returned (.bool true) ∧ Below w.heap.size w w' := by
  obtain ⟨n, l, k, s, y, o, i, a0, n0, q0, z0, a1, n1, q1, z1, a2, n2, q2, z2, a3, n3, q3, z3, a4, n4, q4, z4, rfl, h0, h1, h2, h3, h4⟩ := hv
  clear h1 h2 h3 h4
  have hmx5 := h5.max
  have hmx6 := h6.max
  have hmx7 := h7.max
  have hmx8 := h8.max
  have hle5 := h5.le
  have hle6 := h6.le
  have hle7 := h7.le
  have hle8 := h8.le
  unfold maxLen at hmx5 hmx6 hmx7 hmx8
  unfold setup
  go_enter Try.func5, Try.ntmps5
  go_upto_region 2 with (go_at_call 29; refine (config_c _ _ _ _ _ _ _ _ _ _ _ _ _ _ z0 _ (h0.below (by exact ba (Below.refl _ _)))).mono ?_; rintro e w1 ⟨N, L, K, S, Y, O, I, zi, av, nv, cv, rfl, hcf, hnv, hown, hb1⟩; unfold cfg)
  have hB := ba (o := .cells #[.int .i64 (N : Int), .int .i64 (L : Int), .int .i64 (K : Int), .int .i64 (S : Int), .int .i64 (Y : Int), .int .i64 (O : Int), .int .i64 (I : Int), .slice av nv cv] 58) (next (ba (Below.refl _ _)) hb1)
  have hcb := CB.made w1 N L K S Y O I (.slice av nv cv)
  have hsl := (own_sl hown).below (ba (o := .cells #[.int .i64 (N : Int), .int .i64 (L : Int), .int .i64 (K : Int), .int .i64 (S : Int), .int .i64 (Y : Int), .int .i64 (O : Int), .int .i64 (I : Int), .slice av nv cv] 58) (Below.refl _ _))
  have HGC : Hid (w.heap.size ≤ w1.heap.size) := by have := hb1.size; simp at this; show _ ≤ _; omega
  generalize w1.alloc (.cells #[.int .i64 (N : Int), .int .i64 (L : Int), .int .i64 (K : Int), .int .i64 (S : Int), .int .i64 (Y : Int), .int .i64 (O : Int), .int .i64 (I : Int), .slice av nv cv] 58) = W at *
  generalize w1.heap.size = gc at *
  obtain ⟨N0, N1, L0, L1, K0, K1, S0, S1, Y0, Y1, O0, O1, I0, I1⟩ := hcf.bd
  obtain ⟨p0, p2, p3⟩ := mul_bd L0 L1 K0 K1
  have hnl : nv ≤ 8 := by have := hcf.len; have := hnv.out; omega
  clear hcf hown hb1 h0 hnv p0 p2 p3 S0 S1 Y0 Y1 O0 O1 I0 I1
  clear w1
  have hnd : 0 ≤ x % (N : Int) ∧ x % (N : Int) < (N : Int) := ⟨Int.emod_nonneg _ (by omega), Int.emod_lt_of_pos _ (by omega)⟩
  obtain ⟨nd, hnd0⟩ : ∃ nd, x % (N : Int) = nd := ⟨_, rfl⟩
  have HND : Hid (x % (N : Int) = nd) := hnd0
  rw [hnd0] at hnd
  clear hnd0
  have cc0 := hcb.c0
  have clt := hcb.lt
  go_upto_region 3 with (go_at_call 8; refine (within_any _ _ _ (by omega) (by omega)).mono ?_; rintro e wx ⟨rfl, rfl⟩; rw [HND.out])
  clear cc0 clt
  refine wp_region_orders 8 rfl (by kernel_rfl) ?_
  have Bd : Below W.heap.size W W.drew := (Below.refl _ _).drew
  replace hcb := hcb.below Bd
  replace hB := next hB Bd
  replace hsl := hsl.below Bd
  clear Bd
  generalize W.drew = W1 at *
  clear W
  have hnew := mo_new (w := w) (X := fun j => j = gc) N L K S Y O I av nv cv zi nd hB (fun j hj => hj ▸ hcb.lt) hsl N0 (by omega) (by omega) K0 (by omega) (by omega)
  have hI : (fun V : World => CB V gc N L K S Y O I (.slice av nv cv)) W1 := hcb
  refine any_inv (fun V : World => CB V gc N L K S Y O I (.slice av nv cv)) [] hI ?_
  refine inv_take (v := ?v1) [2, 5, 6, 7] 0 hI rfl (by kernel_rfl) (by kernel_rfl) (by kernel_rfl) (by kernel_rfl) (by kernel_rfl) (fun _ _ _ h => h) (by kernel_rfl) (fun V hV => ?hy1) ?go1
  case hy1 => (obtain ⟨z0, z1, z2, z3, z4, z5, z6, z7, _⟩ := hV; go_simp <;> rfl)
  simp only [Act.put, List.setIfInBounds_toArray, List.set_cons_zero, List.set_cons_succ]
  refine inv_take (v := ?v2) [2, 5, 6, 7] 1 hI rfl (by kernel_rfl) (by kernel_rfl) (by kernel_rfl) (by kernel_rfl) (by kernel_rfl) (fun _ _ _ h => h) (by kernel_rfl) (fun V hV => ?hy2) ?go2
  case hy2 => (obtain ⟨z0, z1, z2, z3, z4, z5, z6, z7, _⟩ := hV; go_simp <;> rfl)
  simp only [Act.put, List.setIfInBounds_toArray, List.set_cons_zero, List.set_cons_succ]
  refine inv_take (v := ?v3) [5, 6, 7] 3 hI rfl (by kernel_rfl) (by kernel_rfl) (by kernel_rfl) (by kernel_rfl) (by kernel_rfl) (fun _ _ _ h => h) (by kernel_rfl) (fun V hV => ?hy3) ?go3
  case hy3 => (obtain ⟨z0, z1, z2, z3, z4, z5, z6, z7, _⟩ := hV; go_simp <;> rfl)
  simp only [Act.put, List.setIfInBounds_toArray, List.set_cons_zero, List.set_cons_succ]
  refine inv_take (v := ?v4) [5, 6, 7] 4 hI rfl (by kernel_rfl) (by kernel_rfl) (by kernel_rfl) (by kernel_rfl) (by kernel_rfl) (fun _ _ _ h => h) (by kernel_rfl) (fun V hV => ?hy4) ?go4
  case hy4 => (obtain ⟨z0, z1, z2, z3, z4, z5, z6, z7, _⟩ := hV; go_simp <;> rfl)
  simp only [Act.put, List.setIfInBounds_toArray, List.set_cons_zero, List.set_cons_succ]
  refine inv_list 2 (by kernel_rfl) rfl ?_
  clear hI
  unfold cfg at hnew
  go_wp2_with (go_at_call 30; refine hnew.mono ?_; rintro e w2 ⟨g, rfl, b2, M⟩)
  clear hnew
  have hcb2 := hcb.below b2
  have hsl2 := hsl.below b2
  have hdn := dnew_any N L K S Y O I av nv cv zi nd w2 hsl2 N0 (by omega) (by omega) K0 (by omega) (by omega)
  unfold cfg at hdn
  refine then_n ⟨hcb2, ?_⟩
  refine inv_list 5 (by kernel_rfl) rfl ?_
  go_wp2_with (go_at_call 35; refine hdn.mono ?_; rintro e w3 ⟨g2, M2, D2, R2, ra, rc, rfl, b3, H3, hR3, hg3, hM3⟩)
  have hcb3 := hcb2.below b3
  have hI : (fun V : World => CB V gc N L K S Y O I (.slice av nv cv)) w3 := hcb3
  refine then_n ⟨hI, ?_⟩
  refine inv_take (v := ?v5) [7] 6 hI rfl (by kernel_rfl) (by kernel_rfl) (by kernel_rfl) (by kernel_rfl) (by kernel_rfl) (fun _ _ _ h => h) (by kernel_rfl) (fun V hV => ?hy5) ?go5
  case hy5 => (obtain ⟨z0, z1, z2, z3, z4, z5, z6, z7, _⟩ := hV; go_simp <;> rfl)
  simp only [Act.put, List.setIfInBounds_toArray, List.set_cons_zero, List.set_cons_succ]
  refine inv_take (v := ?v6) [] 7 hI rfl (by kernel_rfl) (by kernel_rfl) (by kernel_rfl) (by kernel_rfl) (by kernel_rfl) (fun _ _ _ h => h) (by kernel_rfl) (fun V hV => ?hy6) ?go6
  case hy6 => (obtain ⟨z0, z1, z2, z3, z4, z5, z6, z7, _⟩ := hV; go_simp <;> rfl)
  simp only [Act.put, List.setIfInBounds_toArray, List.set_cons_zero, List.set_cons_succ]
  refine inv_done (by kernel_rfl) ?_
  have hs2 := M.bel.size
  have hgc2 : gc < w2.heap.size := hcb2.lt
  have hg2n : ¬ (g2 = gc) := fun e => by omega
  have D0 : DP w w3 g g2 gc (fun j => j = gc ∨ j = g2 ∨ M2 j ∨ D2 j) (fun j => j = gc) N L K nd (homeF N L nd (dl0 zi L K L)) (dl0 zi L K L) := by
    rw [← home_first zi N0]
    refine ⟨M.grow b3 (fun j hj => ?_), ⟨M2, D2, R2, ra, rc, H3, hR3, ⟨.inr (.inl rfl), hg2n⟩, fun j hj => ⟨.inr (.inr hj), by have := hM3 j hj; omega, fun e => by have := hM3 j hj; omega⟩⟩, fun j hj => ⟨.inl hj, by rw [hj]; exact HGC.out⟩, rfl, hcb3.c0, hcb3.c1, hcb3.c2⟩
    rcases hj with rfl | rfl | hj
    · exact ⟨.inl rfl, hcb3.lt⟩
    · exact ⟨.inr hg3, H3.lt⟩
    · exact ⟨.inr (hM3 j hj), H3.old j hj⟩
  generalize dl0 zi L K L = DL0 at *
  clear hI hcb3 hcb2 hsl2 hdn H3 hR3 hg3 hM3 M hs2 hgc2 hg2n b2 b3 hcb hB hsl
  clear w2 W1
  as_aux_lemma =>
    go_upto_block 0 with fail
    go_cut [] (fun wx => ∃ (X Z : Nat → Prop) (DL : List Hr), DP w wx g g2 gc X Z N L K nd (homeF N L nd DL) DL)
    case first => as_aux_lemma =>
      go_wp2_with fail
      go_loopw [18] (fun v18 wx => ∃ (i : Nat) (X Z : Nat → Prop) (DL : List Hr), v18 = .int .i64 (i : Int) ∧ i ≤ 14 ∧ DP w wx g g2 gc X Z N L K nd (homeF N L nd DL) DL) (fun v18 _ => 14 - (intOf v18).toNat)
      case atStart => exact ⟨0, _, _, DL0, rfl, by omega, D0⟩
      case round =>
        clear D0
        clear w3
        obtain ⟨i2, X, Z, DL, rfl, hi2, D⟩ := hrel
        by_cases q1 : (i2 : Int) < (n5 : Int)
        · have q1' : decide ((i2 : Int) < (n5 : Int)) = true := decide_eq_true q1
          by_cases q2 : (i2 : Int) < (n6 : Int)
          · have q2' : decide ((i2 : Int) < (n6 : Int)) = true := decide_eq_true q2
            by_cases q3 : (i2 : Int) < (n7 : Int)
            · have q3' : decide ((i2 : Int) < (n7 : Int)) = true := decide_eq_true q3
              by_cases q4 : (i2 : Int) < 14
              · skip
                have hi5 : i2 < n5 := by omega
                have hi6 : i2 < n6 := by omega
                have hi7 : i2 < n7 := by omega
                obtain ⟨b5, o5, rfl, blt5, bc5⟩ := h5.at hi5
                obtain ⟨b6, o6, rfl, blt6, bc6⟩ := h6.at hi6
                obtain ⟨b7, o7, rfl, blt7, bc7⟩ := h7.at hi7
                have HIL : Hid (In64 (z5[i2]?.getD 0)) := by
                  show In64 _
                  have hl := h5.len
                  rw [List.getElem?_eq_getElem (by omega)]
                  exact r5 _ (List.getElem_mem (by omega))
                obtain ⟨v5, hv5⟩ : ∃ y, z5[i2]?.getD 0 = y := ⟨_, rfl⟩
                obtain ⟨v6, hv6⟩ : ∃ y, z6[i2]?.getD 0 = y := ⟨_, rfl⟩
                obtain ⟨v7, hv7⟩ : ∃ y, z7[i2]?.getD 0 = y := ⟨_, rfl⟩
                rw [hv5] at bc5 HIL
                rw [hv6] at bc6
                rw [hv7] at bc7
                clear hv5 hv6 hv7
                have B := D.mo.bel
                have e5 := (B.cell (p := ⟨b5, o5 + i2, none⟩) blt5).trans bc5
                have e6 := (B.cell (p := ⟨b6, o6 + i2, none⟩) blt6).trans bc6
                have e7 := (B.cell (p := ⟨b7, o7 + i2, none⟩) blt7).trans bc7
                have l5 := Nat.lt_of_lt_of_le blt5 B.size
                have l6 := Nat.lt_of_lt_of_le blt6 B.size
                have l7 := Nat.lt_of_lt_of_le blt7 B.size
                have c0 := D.c0
                have c1 := D.c1
                have clt := D.clt
                clear bc5 bc6 bc7 blt5 blt6 blt7
                go_upto_region 9 with fail
                have uc := @Up.cell
                refine wp_region_up (by kernel_rfl) (by kernel_rfl) ?_
                repeat (go_big_quiet_step ((go_at_call 8; exact Calls.up_same (within_any _ _ _ (by omega) (by omega)))))
                refine wpQuiet_nil ?_
                rintro _ ⟨u, rfl⟩
                have Du := D.below u.2
                have f5 := (u.2.cell (p := ⟨b5, o5 + i2, none⟩) l5).trans e5
                have f6 := (u.2.cell (p := ⟨b6, o6 + i2, none⟩) l6).trans e6
                have f7 := (u.2.cell (p := ⟨b7, o7 + i2, none⟩) l7).trans e7
                have m5 := Nat.lt_of_lt_of_le l5 u.2.size
                have m6 := Nat.lt_of_lt_of_le l6 u.2.size
                have m7 := Nat.lt_of_lt_of_le l7 u.2.size
                clear D e5 e6 e7 l5 l6 l7 c0 c1 clt uc B
                generalize u.1 = wu at *
                clear u
                clear wr
                have hv5 : 0 ≤ v5 % ((L : Int) + 1) ∧ v5 % ((L : Int) + 1) < (L : Int) + 1 := ⟨Int.emod_nonneg _ (by omega), Int.emod_lt_of_pos _ (by omega)⟩
                go_upto_if 91 with fail
                go_cut [19, 20, 21] (fun a b c wx => ∃ l s h : Int, a = .int .i64 l ∧ b = .int .i64 s ∧ c = .int .i64 h ∧ In64 l ∧ Below wu.heap.size wu wx)
                case first => as_aux_lemma =>
                  by_cases q7 : odd.tmod 7 = 6
                  · have q7' : (odd.tmod 7 == 6) = true := by simp [q7]
                    go_upto_region 11 with fail
                    have uc := @Up.cell
                    refine wp_region_up (by kernel_rfl) (by kernel_rfl) ?_
                    repeat (go_big_quiet_step (fail))
                    refine wpQuiet_nil ?_
                    rintro _ ⟨u, rfl⟩
                    have hbu := u.2
                    clear uc
                    generalize u.1 = wv at *
                    clear u
                    go_wp2_with fail
                    go_meet
                    case rel => exact ⟨v5, v6, v7, rfl, rfl, rfl, HIL.out, hbu⟩
                  · have q7' : (odd.tmod 7 == 6) = false := by simp [q7]
                    go_wp2_with fail
                    go_meet
                    case rel => exact ⟨_, _, _, rfl, rfl, rfl, by unfold In64; omega, Below.refl _ _⟩
                case rest => as_aux_lemma =>
                  obtain ⟨l, s, h, rfl, rfl, rfl, hIl, hbx⟩ := hcut
                  have HIl : Hid (In64 l) := hIl
                  have D1 := Du.below hbx
                  clear Du f5 f6 f7 m5 m6 m7 hIl hbx hv5 HIL
                  obtain ⟨q, hq⟩ : ∃ q : Nat, wrap64 ((i2 : Int) + odd) % 2 = (q : Int) := ⟨(wrap64 ((i2 : Int) + odd) % 2).toNat, by omega⟩
                  have hq1 : q ≤ 1 := by omega
                  have HQ : Hid (wrap64 ((i2 : Int) + odd) % 2 = (q : Int)) := hq
                  obtain ⟨m, hm⟩ : ∃ m : Nat, q * K = m := ⟨_, rfl⟩
                  have hqk : (q : Int) * (K : Int) = (m : Int) := by rw [← hm]; exact (Int.natCast_mul q K).symm
                  have hm2 : m ≤ 2 := by rw [← hm]; have := Nat.mul_le_mul hq1 K1; omega
                  clear hq hm
                  go_upto_region 12 with fail
                  refine wp_region_orders 10 rfl (by kernel_rfl) ?_
                  have Bd : Below wc.heap.size wc wc.drew := (Below.refl _ _).drew
                  have D2 := D1.below Bd
                  clear D1 Bd
                  generalize wc.drew = w4 at *
                  have hI : (fun V : World => V.cell? ⟨gc, 2, none⟩ = some (.int .i64 (K : Int))) w4 := D2.c2
                  refine any_inv (fun V : World => V.cell? ⟨gc, 2, none⟩ = some (.int .i64 (K : Int))) [] hI ?_
                  refine inv_take (v := ?v7) [8, 9] 0 hI rfl (by kernel_rfl) (by kernel_rfl) (by kernel_rfl) (by kernel_rfl) (by kernel_rfl) (fun _ _ _ h => h) (by kernel_rfl) (fun V hV => ?hy7) ?go7
                  case hy7 => (go_simp <;> rfl)
                  simp only [Act.put, List.setIfInBounds_toArray, List.set_cons_zero, List.set_cons_succ]
                  refine inv_take (v := ?v8) [3, 4, 7, 8, 9] 1 hI rfl (by kernel_rfl) (by kernel_rfl) (by kernel_rfl) (by kernel_rfl) (by kernel_rfl) (fun _ _ _ h => h) (by kernel_rfl) (fun V hV => ?hy8) ?go8
                  case hy8 => (go_simp <;> rfl)
                  simp only [Act.put, List.setIfInBounds_toArray, List.set_cons_zero, List.set_cons_succ]
                  refine inv_take (v := ?v9) [3, 4, 7, 8, 9] 2 hI rfl (by kernel_rfl) (by kernel_rfl) (by kernel_rfl) (by kernel_rfl) (by kernel_rfl) (fun _ _ _ h => h) (by kernel_rfl) (fun V hV => ?hy9) ?go9
                  case hy9 => (go_simp <;> rfl)
                  simp only [Act.put, List.setIfInBounds_toArray, List.set_cons_zero, List.set_cons_succ]
                  refine inv_take (v := ?v10) [4, 7, 8, 9] 3 hI rfl (by kernel_rfl) (by kernel_rfl) (by kernel_rfl) (by kernel_rfl) (by kernel_rfl) (fun _ _ _ h => h) (by kernel_rfl) (fun V hV => ?hy10) ?go10
                  case hy10 => (go_simp <;> rfl)
                  simp only [Act.put, List.setIfInBounds_toArray, List.set_cons_zero, List.set_cons_succ]
                  refine inv_take (v := ?v11) [6, 7, 8, 9] 5 hI rfl (by kernel_rfl) (by kernel_rfl) (by kernel_rfl) (by kernel_rfl) (by kernel_rfl) (fun _ _ _ h => h) (by kernel_rfl) (fun V hV => ?hy11) ?go11
                  case hy11 => (go_simp <;> rfl)
                  simp only [Act.put, List.setIfInBounds_toArray, List.set_cons_zero, List.set_cons_succ]
                  refine inv_take (v := ?v12) [7, 8, 9] 6 hI rfl (by kernel_rfl) (by kernel_rfl) (by kernel_rfl) (by kernel_rfl) (by kernel_rfl) (fun _ _ _ h => h) (by kernel_rfl) (fun V hV => ?hy12) ?go12
                  case hy12 => (go_simp <;> rfl)
                  simp only [Act.put, List.setIfInBounds_toArray, List.set_cons_zero, List.set_cons_succ]
                  refine inv_list 4 (by kernel_rfl) rfl ?_
                  clear hI
                  go_wp2_with (go_at_call 8; refine (within_any _ _ _ (by omega) (by omega)).mono ?_; rintro e wx ⟨rfl, rfl⟩; rw [HQ.out])
                  have hI : (fun V : World => V.cell? ⟨gc, 2, none⟩ = some (.int .i64 (K : Int))) w4 := D2.c2
                  refine then_n ⟨hI, ?_⟩
                  refine inv_take (v := ?v13) [8, 9] 7 hI rfl (by kernel_rfl) (by kernel_rfl) (by kernel_rfl) (by kernel_rfl) (by kernel_rfl) (fun _ _ _ h => h) (by kernel_rfl) (fun V hV => ?hy13) ?go13
                  case hy13 => (go_simp <;> rfl)
                  simp only [Act.put, List.setIfInBounds_toArray, List.set_cons_zero, List.set_cons_succ]
                  obtain ⟨n9, hn9⟩ : ∃ n, (z8.take m).length = n := ⟨_, rfl⟩
                  have HZ9 : Hid ((z8.take m).length = n9) := hn9
                  have HN9 : Hid (n9 ≤ 3) := by show _ ≤ _; rw [← hn9, List.length_take]; omega
                  clear hn9
                  refine inv_list 8 (by kernel_rfl) rfl ?_
                  clear hI
                  go_wp2_with (go_at_call 11; refine (cut_any a8 z8 n8 c8 m _ (h8.below D2.mo.bel) (by omega)).mono ?_; rintro e w6 ⟨v9, rfl, own9, b9⟩; obtain ⟨a9, k9, rfl, _⟩ := own9.sl' HZ9.out)
                  have hlo9 := own9.lo
                  have D3 := D2.grow (Y := fun j => ∃ y : Addr, a9 = some y ∧ j = y.block) b9 (fun j hj => by obtain ⟨y, hy, rfl⟩ := hj; exact hlo9 y hy)
                  have HA9 : Hid (∀ y : Addr, a9 = some y → y.block ≠ gc) := fun y hy e => by have := (hlo9 y hy).1; have := D2.clt; omega
                  have own9b := own9.low (base' := w.heap.size) D2.mo.bel.size
                  have hI : (fun V : World => V.cell? ⟨gc, 2, none⟩ = some (.int .i64 (K : Int))) w6 := D3.c2
                  refine then_n ⟨hI, ?_⟩
                  refine inv_take (v := ?v14) [] 9 hI rfl (by kernel_rfl) (by kernel_rfl) (by kernel_rfl) (by kernel_rfl) (by kernel_rfl) (fun _ _ _ h => h) (by kernel_rfl) (fun V hV => ?hy14) ?go14
                  case hy14 => (go_simp <;> rfl)
                  simp only [Act.put, List.setIfInBounds_toArray, List.set_cons_zero, List.set_cons_succ]
                  refine inv_done (by kernel_rfl) ?_
                  clear hI own9 b9 hlo9 D2 hqk hm2 hq1 HQ
                  clear w4 wc
                  generalize z8.take m = z9 at *
                  go_upto_if 115 with fail
                  go_cut [22] (fun v wx => ∃ (X Z : Nat → Prop) (a : Option Addr) (n c : Nat) (z : List Int), v = .slice a n c ∧ n ≤ 3 ∧ z.length = n ∧ Own wx w.heap.size (.slice a n c) z ∧ (∀ y : Addr, a = some y → Z y.block ∧ y.block ≠ gc) ∧ DP w wx g g2 gc X Z N L K nd (homeF N L nd DL) DL)
                  case first => as_aux_lemma =>
                    by_cases q5 : odd.tmod 5 = 4
                    · have q5' : (odd.tmod 5 == 4) = true := by simp [q5]
                      obtain ⟨na, hna⟩ : ∃ n, (z8.take 3).length = n := ⟨_, rfl⟩
                      have HZA : Hid ((z8.take 3).length = na) := hna
                      have HNA : Hid (na ≤ 3) := by show _ ≤ _; rw [← hna, List.length_take]; omega
                      clear hna
                      go_wp2_with (go_at_call 11; refine (cut_any a8 z8 n8 c8 3 _ (h8.below D3.mo.bel) (by omega)).mono ?_; rintro e w7 ⟨va, rfl, owna, ba7⟩; obtain ⟨aa, ka, rfl, _⟩ := owna.sl' HZA.out)
                      have hloa := owna.lo
                      have D4 := D3.grow (Y := fun j => ∃ y : Addr, aa = some y ∧ j = y.block) ba7 (fun j hj => by obtain ⟨y, hy, rfl⟩ := hj; exact hloa y hy)
                      go_meet
                      case rel => exact ⟨_, _, aa, na, ka, z8.take 3, rfl, HNA.out, HZA.out, owna.low D3.mo.bel.size, fun y hy => ⟨.inr ⟨y, hy, rfl⟩, fun e => by have := (hloa y hy).1; have := D3.clt; omega⟩, D4⟩
                    · have q5' : (odd.tmod 5 == 4) = false := by simp [q5]
                      go_wp2_with fail
                      go_meet
                      case rel => exact ⟨_, _, a9, n9, k9, z9, rfl, HN9.out, HZ9.out, own9b, fun y hy => ⟨.inr ⟨y, hy, rfl⟩, HA9.out y hy⟩, D3⟩
                  case rest => as_aux_lemma =>
                    clear D3 own9b HA9 HN9 HZ9
                    clear X Z
                    obtain ⟨X, Z, ax, nx, cx, zx, rfl, hnx, hzx, ow, hax, D⟩ := hcut
                    have HZX : Hid (zx.length = nx) := hzx
                    have HAX : Hid (∀ y : Addr, ax = some y → Z y.block ∧ y.block ≠ gc) := hax
                    have HSD : Hid (setR N K (homeF N L nd DL) l s h zx = ((setD N L K nd DL l s h zx).1, homeF N L nd (setD N L K nd DL l s h zx).2)) := dset_same (dp_nums D) l s h zx
                    clear hzx hax
                    have hset1 := dp_set1 D HIl.out s h ax nx cx zx (own_sl ow) (by omega)
                    rw [HSD.out] at hset1
                    simp only at hset1
                    have hset2 : ∀ {wy : World}, DP w wy g g2 gc X Z N L K nd (homeF N L nd (setD N L K nd DL l s h zx).2) DL → Sl wy ax nx cx zx → _ := fun {wy} c sx => dp_set2 c N0 (by omega) l s h ax nx cx zx sx (by omega)
                    obtain ⟨pr, hpr⟩ : ∃ pr, setD N L K nd DL l s h zx = pr := ⟨_, rfl⟩
                    simp only [hpr] at hset1 hset2
                    clear hpr HSD
                    have hne : (pr.1 != pr.1) = false := by simp
                    have HXZ : Hid (∀ j, Z j → X j) := fun j hj => (D.z j hj).1
                    go_upto_region 17 with (first
                      | (have mk := D7; clear mk; go_at_call 36; refine (hset2 D7 (own_sl ow7)).mono ?_; rintro e w8 ⟨rfl, K8, X8, hX8, D8⟩; have ow8 := ow7.keep K8 (fun j hj hf => hf.2.2 (by cases ax with | none => cases hj | some y => have e1 := Option.some.inj hj; rw [← e1]; exact (HAX.out y rfl).1)))
                      | (go_at_call 31; refine hset1.mono ?_; rintro e w7 ⟨rfl, K7, D7⟩; have ow7 := ow.keep K7 (fun j hj hf => hf.2 (HXZ.out _ (by cases ax with | none => cases hj | some y => have e1 := Option.some.inj hj; rw [← e1]; exact (HAX.out y rfl).1)))))
                    clear hset1 hset2 K7 K8 D7 ow7 D ow hne
                    go_wp2_with fail
                    go_loopw [133, 23] (fun v133 v23 wy => ∃ (j : Nat) (zz : List Int), v133 = .int .i64 (j : Int) ∧ j ≤ nx ∧ zz.length = nx ∧ Own wy w.heap.size (.slice ax nx cx) zz ∧ DP w wy g g2 gc X8 Z N L K nd (homeF N L nd pr.2) pr.2) (fun v133 _ _ => nx - (intOf v133).toNat)
                    case atStart => exact ⟨0, zx, rfl, by omega, HZX.out, ow8, D8⟩
                    case round =>
                      clear ow8 D8
                      obtain ⟨j, zz, rfl, hj, hzz, ow, D⟩ := hrel
                      by_cases hlt : j < nx
                      · have hlt' : (j : Int) < (nx : Int) := by omega
                        obtain ⟨b, y, rfl, lo, lt, hc, hf, pk⟩ := ow.poke hzz hlt
                        have hax := HAX.out _ rfl
                        go_wp2_with fail
                        go_roundw
                        case rel => exact ⟨j + 1, _, by go_num, by omega, by rw [List.length_set]; exact hzz, pk _, D.write (Keep.one _ _ _ _) (fun q hq => by rw [hq]; exact hax)⟩
                        case measure => simp [intOf]; omega
                      · obtain rfl : j = nx := by omega
                        go_wp2_with fail
                        go_roundw
                        case rel => exact ⟨i2 + 1, _, _, _, by go_num, by omega, D⟩
                        case measure => simp [intOf]; omega
              · skip
                go_wp2_with fail
                go_meet
                case rel => exact ⟨X, Z, DL, D⟩
            · skip
              go_wp2_with fail
              go_meet
              case rel => exact ⟨X, Z, DL, D⟩
          · skip
            go_wp2_with fail
            go_meet
            case rel => exact ⟨X, Z, DL, D⟩
        · skip
          go_wp2_with fail
          go_meet
          case rel => exact ⟨X, Z, DL, D⟩
    case rest => as_aux_lemma =>
      obtain ⟨X, Z, DL, D⟩ := hcut
      clear D0 w3
      have HNM : Hid (Nums L DL) := dp_nums D
      go_upto_region 22 with fail
      have hB0 := D.mo.bel
      go_wp2_with fail
      go_loopw [24, 25] (fun v24 v25 wx => ∃ (l : Int) (T : Nat → Prop) (aw : Option Addr) (nw cw : Nat), v25 = .int .i64 l ∧ -1 ≤ l ∧ l ≤ (L : Int) + 1 ∧ v24 = .slice aw nw cw ∧ nw ≤ 8 ∧ Rw wx T aw nw cw 1 (cells (wl N L nd l.toNat)) ∧ (∀ j, T j → wc.heap.size ≤ j ∧ j < wx.heap.size) ∧ Below wc.heap.size wc wx) (fun _ v25 _ => ((L : Int) + 1 - intOf v25).toNat)
      case atStart => exact ⟨-1, fun _ => False, none, 0, 0, rfl, by omega, by omega, rfl, by omega, rw_nil _ _ _, fun _ h => h.elim, Below.refl _ _⟩
      case round =>
        obtain ⟨l, T, aw, nw, cw, rfl, hl0, hl1, rfl, hnw, rw0, hT, hbx⟩ := hrel
        have D1 := D.below hbx
        have c1 := D1.c1
        have clt := D1.clt
        by_cases hlt : l ≤ (L : Int)
        · have HIL : Hid (In64 l) := by unfold Hid In64; omega
          cases hh : hereI N L nd l with
          | true =>
            obtain ⟨hl00, hlL0, _⟩ := here_of hh
            obtain ⟨ln, rfl⟩ : ∃ k : Nat, l = k := ⟨l.toNat, by omega⟩
            have hlL : ln < L := by omega
            have eln : ((ln : Int)).toNat = ln := by omega
            rw [eln] at rw0
            have HHH : Hid (hereI N L nd (ln : Int) = true) := hh
            obtain ⟨xq, hxq, hxn⟩ := nums_at HNM.out hh
            have hg := homeF_get HNM.out hh
            rw [hxq] at hg
            rw [eln] at hxq
            obtain ⟨hgm, _⟩ := getK_some hg
            have hzl := D1.mo.zl _ hgm
            obtain ⟨xn, xs, xh, xz⟩ := xq
            simp only [Option.getD_some] at hxn hg hzl
            subst hxn
            have HG : Hid (getK hOf (ln : Int) (homeF N L nd DL) = some ⟨(ln : Int), xs, xh, xz⟩) := hg
            have HZ : Hid (xz.length = K) := by show _ = _; omega
            have HXQ : Hid (DL[ln]? = some ⟨(ln : Int), xs, xh, xz⟩) := hxq
            have hnwl : nw ≤ ln := by have h1 := rw0.len; have h2 := wl_len (N := N) (L := L) (node := nd) (k := ln); simp [cells] at h1; omega
            clear hh hg hgm hzl hxq hl00 hlL0
            go_upto_region 27 with (go_at_call 32; refine (mo_row_at D1.mo HIL.out HG.out HZ.out).mono ?_; rintro e w1 ⟨ar, cr, rfl, own1, b1⟩)
            have bel := ba (o := .cells #[.int .i64 xs, .int .i64 xh, .slice ar K cr] 65) (Below.refl w1.heap.size w1)
            have r0 : (w1.alloc (.cells #[.int .i64 xs, .int .i64 xh, .slice ar K cr] 65)).cell? ⟨w1.heap.size, 0, none⟩ = some (.int .i64 xs) := by simp
            have r1 : (w1.alloc (.cells #[.int .i64 xs, .int .i64 xh, .slice ar K cr] 65)).cell? ⟨w1.heap.size, 1, none⟩ = some (.int .i64 xh) := by simp
            have r2 : (w1.alloc (.cells #[.int .i64 xs, .int .i64 xh, .slice ar K cr] 65)).cell? ⟨w1.heap.size, 2, none⟩ = some (.slice ar K cr) := by simp
            have rlt : w1.heap.size < (w1.alloc (.cells #[.int .i64 xs, .int .i64 xh, .slice ar K cr] 65)).heap.size := by simp
            have hb2 := next b1 bel
            have D2 := D1.below hb2
            have ow2 := own1.below bel
            have HGR : Hid (wr.heap.size ≤ w1.heap.size) := b1.size
            have HAR : Hid (∀ y : Addr, ar = some y → wr.heap.size ≤ y.block ∧ y.block < w1.heap.size) := own1.lo
            clear b1 bel own1 c1 clt D1
            generalize w1.heap.size = gr at *
            generalize w1.alloc _ = w2 at *
            clear w1
            obtain ⟨M, DD, R, ra, rc, H, eR, hg, hM⟩ := D2.dh
            obtain ⟨xr, dr, b, o, hRl, hdr, hrn, era, _, hblt, q0, q1, q2, _⟩ := H.get hlL
            subst era
            have hxr : xr = ⟨(ln : Int), xs, xh, xz⟩ := by
              have h1 := HXQ.out
              rw [← eR, List.getElem?_map, hRl] at h1
              exact Option.some.inj h1
            subst hxr
            obtain ⟨ad, nd9, cd, ed, sd0, _⟩ := hdr
            subst ed
            have sd : Sl w2 ad nd9 cd xz := sd0
            have hnd9 : K = nd9 := by rw [← sd.len]; exact HZ.out.symm
            subst hnd9
            have sa := own_sl ow2
            have c9 := H.c9
            have ltg := H.lt
            have hln' : (ln : Int) < (L : Int) := by omega
            simp only at q0 q1
            clear sd0 hRl hrn
            have uc := @Up.cell
            refine wp_region_up (by kernel_rfl) (by kernel_rfl) ?_
            repeat (go_big_quiet_step (first
              | (go_at_call 37; exact Calls.up_of (HHH.out ▸ dhere_any (H.below (Subtype.property _)) N0 (ln : Int)))
              | (go_at_call 38; exact Calls.up_of (dsame_any ⟨(ln : Int), xs, xh, xz⟩ ar ad K cr cd _ (sa.below (Subtype.property _)) (sd.below (Subtype.property _))))))
            refine wpQuiet_nil ?_
            rintro _ ⟨u, rfl⟩
            have hb3 := next hb2 u.2
            have ow3 := ow2.below u.2
            have r23 := (u.2.cell (p := ⟨gr, 2, none⟩) rlt).trans r2
            have rlt3 := Nat.lt_of_lt_of_le rlt u.2.size
            clear uc r0 r1 r2 rlt H eR hg hM D2 hb2 q0 q1 q2 sd sa c9 ltg hblt ow2
            generalize u.1 = w3 at *
            clear u
            obtain ⟨i0, hi, hz0, hz1, hz2⟩ := info_parts Try.infoInt
            have b4 : Below w3.heap.size w3 (w3.alloc (.cells #[.int .i64 (ln : Int)] 3)) := ba (Below.refl _ _)
            have hsv : SlV (w3.alloc (.cells #[.int .i64 (ln : Int)] 3)) (some ⟨w3.heap.size, 0, none⟩) 1 1 1 [.int .i64 (ln : Int)] := by
              refine ⟨rfl, Nat.le_refl _, by unfold maxLen; omega, fun h => (by cases h), .inr ⟨_, _, rfl, fun j u hu => ?_⟩⟩
              have h3 : j = 0 := by have := (List.getElem?_eq_some_iff.1 hu).1; simpa using this
              subst h3
              simp at hu
              subst hu
              simp
            have rw4 := rw0.keep (F := fun _ => False) (Keep.of_below (next hb3 b4)) (fun _ _ h => h)
            have HT : Hid (∀ j, T j → wc.heap.size ≤ j ∧ j < wr.heap.size) := hT
            go_upto_region 31 with (at_builtin; refine wpList_append_slv _ T (by kernel_rfl) (.tmp 196) (.tmp 198) 28 rfl 3 i0 (.int .i64 0) 1 8 Try.underlying28 hi hz0 hz1 hz2 rfl (by decide) aw nw cw (cells (wl N L nd ln)) rfl rw4 (some ⟨w3.heap.size, 0, none⟩) 1 1 [.int .i64 (ln : Int)] rfl hsv (fun u hu => by simp at hu; subst hu; rfl) (by unfold maxLen; omega) (by omega) ?_; intro aw5 cw5 w5 rw5 k5)
            have hz3 := hb3.size
            have hz4 := b4.size
            have ow5 := (ow3.below b4).keep k5 (fun j hj ht => by have h1 := (ow3.base j hj).1; have h2 := (HT.out j ht).2; omega)
            have r25 := (k5.cell (b := gr) 2 (Nat.lt_of_lt_of_le rlt3 b4.size) (fun ht => by have h2 := (HT.out _ ht).2; have := HGR.out; omega)).trans ((b4.cell (p := ⟨gr, 2, none⟩) rlt3).trans r23)
            have rlt5 : gr < w5.heap.size := Nat.lt_of_lt_of_le (Nat.lt_of_lt_of_le rlt3 b4.size) k5.size
            have hbc5 : Below wc.heap.size wc w5 := k5.after (next hbx (next hb3 b4)) (fun j hj => (HT.out j hj).1)
            have rw6 : Rw w5 (fun k => T k ∨ (w3.heap.size ≤ k ∧ k < w5.heap.size)) aw5 (nw + 1) cw5 1 (cells (wl N L nd (ln + 1))) := by
              have e : cells (wl N L nd (ln + 1)) = cells (wl N L nd ln) ++ [.int .i64 (ln : Int)] := by rw [wl_at HHH.out]; simp [cells]
              rw [e]
              exact rw5.imp (fun j hj h => h.imp id (fun h => ⟨by first | exact Nat.le_trans hz4 h | omega, hj⟩))
            have hz5 := k5.size
            have HW3 : Hid (gr < w3.heap.size ∧ wr.heap.size ≤ w3.heap.size ∧ w3.heap.size ≤ w5.heap.size ∧ wc.heap.size ≤ wr.heap.size) := ⟨rlt3, Nat.le_of_lt (Nat.lt_of_le_of_lt HGR.out rlt3), Nat.le_trans hz4 hz5, hbx.size⟩
            clear rw0 rw4 rw5 hsv b4 ow3 r23 rlt3 k5 hi hz0 hz1 hz2 hT
            clear hz3 hz4 hz5
            go_wp2_with fail
            go_loopw [203, 28] (fun v203 v28 wy => ∃ (j : Nat) (zz : List Int), v203 = .int .i64 (j : Int) ∧ j ≤ K ∧ zz.length = K ∧ Own wy wr.heap.size (.slice ar K cr) zz ∧ Keep (fun q => ∃ y : Addr, ar = some y ∧ q = y.block) w5 wy) (fun v203 _ _ => K - (intOf v203).toNat)
            case atStart => exact ⟨0, xz, rfl, by omega, HZ.out, ow5, Keep.refl _ _⟩
            case round =>
              clear ow5
              obtain ⟨j, zz, rfl, hj, hzz, ow, kk⟩ := hrel
              have r26 := (kk.cell (b := gr) 2 rlt5 (fun h => by obtain ⟨y, hy, e⟩ := h; have := (HAR.out y hy).2; omega)).trans r25
              have rlt6 := Nat.lt_of_lt_of_le rlt5 kk.size
              by_cases hlt4 : j < K
              · have hlt4' : (j : Int) < (K : Int) := by omega
                obtain ⟨bb, yy, e, lo, lt, hc, hf, pk⟩ := ow.poke hzz hlt4
                subst e
                go_wp2_with fail
                go_roundw
                case rel => exact ⟨j + 1, _, by go_num, by omega, by rw [List.length_set]; exact hzz, pk _, kk.setCell (p := ⟨bb, j, none⟩) (.inl ⟨_, rfl, rfl⟩) _⟩
                case measure => simp [intOf]; omega
              · have ej : K = j := by omega
                subst ej
                clear ow hzz hlt4 r26 rlt6 r25
                have hbc6 := kk.after hbc5 (fun q hq => by obtain ⟨y, hy, rfl⟩ := hq; have := (HAR.out y hy).1; have := HW3.out; omega)
                have D6 := D.below hbc6
                have rw7 := rw6.keep kk (fun q hq h => by
                  obtain ⟨y, hy, rfl⟩ := h
                  have h1 := HAR.out y hy
                  have h2 := HW3.out
                  rcases hq with hq | hq
                  · have := (HT.out _ hq).2; omega
                  · omega)
                have HK7 := kk.size
                clear rw6 kk rlt5 hbc5
                go_upto_region 37 with (go_at_call 32; refine (mo_row_at D6.mo HIL.out HG.out HZ.out).mono ?_; rintro e w8 ⟨a6r, c6r, rfl, own8, b8⟩)
                have bel8 := ba (o := .cells #[.int .i64 xs, .int .i64 xh, .slice a6r K c6r] 65) (Below.refl w8.heap.size w8)
                have r0 : (w8.alloc (.cells #[.int .i64 xs, .int .i64 xh, .slice a6r K c6r] 65)).cell? ⟨w8.heap.size, 0, none⟩ = some (.int .i64 xs) := by simp
                have r1 : (w8.alloc (.cells #[.int .i64 xs, .int .i64 xh, .slice a6r K c6r] 65)).cell? ⟨w8.heap.size, 1, none⟩ = some (.int .i64 xh) := by simp
                have r2 : (w8.alloc (.cells #[.int .i64 xs, .int .i64 xh, .slice a6r K c6r] 65)).cell? ⟨w8.heap.size, 2, none⟩ = some (.slice a6r K c6r) := by simp
                have rlt : w8.heap.size < (w8.alloc (.cells #[.int .i64 xs, .int .i64 xh, .slice a6r K c6r] 65)).heap.size := by simp
                have hb9 := next b8 bel8
                have D9 := D6.below hb9
                have ow9 := own8.below bel8
                clear b8 bel8 own8 D6
                generalize w8.heap.size = gs at *
                generalize w8.alloc _ = w9 at *
                clear w8
                obtain ⟨M, DD, R, ra, rc, H, eR, hg, hM⟩ := D9.dh
                obtain ⟨xr, dr, b, o, hRl, hdr, hrn, era, _, hblt, q0, q1, q2, _⟩ := H.get hlL
                subst era
                have hxr : xr = ⟨(ln : Int), xs, xh, xz⟩ := by
                  have h1 := HXQ.out
                  rw [← eR, List.getElem?_map, hRl] at h1
                  exact Option.some.inj h1
                subst hxr
                obtain ⟨ad, nd9, cd, ed, sd0, _⟩ := hdr
                subst ed
                have sd : Sl w9 ad nd9 cd xz := sd0
                have hnd9 : K = nd9 := by rw [← sd.len]; exact HZ.out.symm
                subst hnd9
                have sa := own_sl ow9
                have c9 := H.c9
                have ltg := H.lt
                simp only at q0 q1
                clear sd0 hRl hrn
                have uc := @Up.cell
                refine wp_region_up (by kernel_rfl) (by kernel_rfl) ?_
                repeat (go_big_quiet_step ((go_at_call 38; exact Calls.up_of (dsame_any ⟨(ln : Int), xs, xh, xz⟩ a6r ad K c6r cd _ (sa.below (Subtype.property _)) (sd.below (Subtype.property _))))))
                refine wpQuiet_nil ?_
                rintro _ ⟨u, rfl⟩
                have hb10 := next hb9 u.2
                clear uc r0 r1 r2 rlt H eR hg hM D9 hb9 q0 q1 q2 sd sa c9 ltg hblt ow9
                generalize u.1 = w10 at *
                clear u
                have hz10 := hb10.size
                go_wp2_with fail
                go_roundw
                case rel => exact ⟨(ln : Int) + 1, _, aw5, nw + 1, cw5, by go_num, by omega, by omega, rfl, by omega, by rw [show ((ln : Int) + 1).toNat = ln + 1 by omega]; exact rw7.keep (F := fun _ => False) (Keep.of_below hb10) (fun _ _ h => h), fun j hj => by
                  have h2 := HW3.out
                  rcases hj with hj | hj
                  · have := HT.out _ hj; exact ⟨this.1, by omega⟩
                  · exact ⟨by omega, by omega⟩, next hbc6 hb10⟩
                case measure => simp [intOf]; omega
          | false =>
            have HHH : Hid (hereI N L nd l = false) := hh
            have hrow := mo_row_no D1.mo HIL.out (hasH_none (homeF_none HNM.out hh))
            clear hh
            go_upto_region 27 with (go_at_call 32; refine hrow.mono ?_; rintro e w1 ⟨ar, cr, rfl, b1⟩)
            have bel := ba (o := .cells #[.int .i64 0, .int .i64 0, .slice ar 0 cr] 65) (Below.refl w1.heap.size w1)
            have r0 : (w1.alloc (.cells #[.int .i64 0, .int .i64 0, .slice ar 0 cr] 65)).cell? ⟨w1.heap.size, 0, none⟩ = some (.int .i64 0) := by simp
            have r1 : (w1.alloc (.cells #[.int .i64 0, .int .i64 0, .slice ar 0 cr] 65)).cell? ⟨w1.heap.size, 1, none⟩ = some (.int .i64 0) := by simp
            have r2 : (w1.alloc (.cells #[.int .i64 0, .int .i64 0, .slice ar 0 cr] 65)).cell? ⟨w1.heap.size, 2, none⟩ = some (.slice ar 0 cr) := by simp
            have rlt : w1.heap.size < (w1.alloc (.cells #[.int .i64 0, .int .i64 0, .slice ar 0 cr] 65)).heap.size := by simp
            have hb2 := next b1 bel
            have D2 := D1.below hb2
            clear b1 bel hrow c1 clt
            generalize w1.heap.size = gr at *
            generalize w1.alloc _ = w2 at *
            clear w1
            obtain ⟨M, DD, R, ra, rc, H, eR, hg, hM⟩ := D2.dh
            have uc := @Up.cell
            refine wp_region_up (by kernel_rfl) (by kernel_rfl) ?_
            repeat (go_big_quiet_step ((go_at_call 37; exact Calls.up_of (HHH.out ▸ dhere_any (H.below (Subtype.property _)) N0 l))))
            refine wpQuiet_nil ?_
            rintro _ ⟨u, rfl⟩
            have hb3 := next hb2 u.2
            clear uc r0 r1 r2 rlt H eR hg hM D2 hb2
            generalize u.1 = w3 at *
            clear u
            go_wp2_with fail
            go_roundw
            case rel => exact ⟨l + 1, T, aw, nw, cw, by go_num, by omega, by omega, rfl, hnw, by
              have e : wl N L nd (l + 1).toNat = wl N L nd l.toNat := by
                by_cases h0 : 0 ≤ l
                · obtain ⟨k, rfl⟩ : ∃ k : Nat, l = k := ⟨l.toNat, by omega⟩
                  rw [show ((k : Int) + 1).toNat = k + 1 by omega, show ((k : Int)).toNat = k by omega]
                  exact wl_no HHH.out
                · rw [show (l + 1).toNat = l.toNat by omega]
              rw [e]
              exact rw0.keep (F := fun _ => False) (Keep.of_below hb3) (fun _ _ h => h), fun j hj => ⟨(hT j hj).1, Nat.lt_of_lt_of_le (hT j hj).2 hb3.size⟩, next hbx hb3⟩
            case measure => simp [intOf]; omega
        · skip
          have hl2 : l = (L : Int) + 1 := by omega
          subst hl2
          have e1 : wl N L nd ((L : Int) + 1).toNat = (homeF N L nd DL).map hOf := by
            rw [show ((L : Int) + 1).toNat = L + 1 by omega, wl_no (by unfold hereI; simp), wl_all HNM.out]
          rw [e1] at rw0
          obtain ⟨lst, hlst⟩ : ∃ lst, (homeF N L nd DL).map hOf = lst := ⟨_, rfl⟩
          have hlines := mo_lines D1.mo
          rw [hlst] at rw0 hlines
          have hnl : lst.length = nw := by have := rw0.len; simpa [cells] using this
          have sw : Sl wr aw nw cw lst := by
            refine ⟨hnl, rw0.le, rw0.max, rw0.nil, ?_⟩
            rcases rw0.row with h0 | ⟨b, o, e, _, _, hc, _⟩
            · exact .inl (List.eq_nil_of_length_eq_zero (by have := rw0.le; omega))
            · exact .inr ⟨b, o, e, fun i hi => hc i _ (by simp [cells, hi])⟩
          have HL : Hid (lst.length = nw) := hnl
          clear rw0 e1 hlst hnl
          go_wp2_with (first
            | (have mk := b2; clear mk; go_at_call 34; refine (dwakes_any _).mono ?_; rintro e w3 ⟨rfl, b3⟩)
            | (have mk := b1; clear mk; go_at_call 33; refine (same_any _ _ _ _ _ _ _ _ _ s1 (sw.below b1)).mono ?_; rintro e w2 ⟨rfl, kk, rfl⟩; rw [decide_eq_true rfl]; have b2 : Below w1.heap.size w1 (w1.drewN kk) := ⟨rfl, rfl, rfl, Nat.le_refl _, fun _ _ => rfl⟩)
            | (go_at_call 39; refine hlines.mono ?_; rintro e w1 ⟨v1, rfl, own1, b1⟩; obtain ⟨a1, k1, rfl, s1⟩ := own1.sl' HL.out))
          go_ret
          exact ⟨rfl, next D1.mo.bel (next b1 (next b2 b3))⟩
end Go.Proofs.Ytfobgkkmbacfjaa
