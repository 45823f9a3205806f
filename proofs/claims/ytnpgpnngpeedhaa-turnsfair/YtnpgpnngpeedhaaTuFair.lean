/- The walk of TurnsFair: it answers true and writes nothing that was there. No condition but that the arguments are ones that can come in. -/
import Derived.Test.YtnpgpnngpeedhaaTuF0
import Derived.Test.YtnpgpnngpeedhaaTuIDs
namespace Go.Proofs.Ytnpgpnngpeedhaa
open Go.RowKit Go.Maps
set_option linter.unusedVariables false
set_option maxRecDepth 20000

set_option maxHeartbeats 800000 in
theorem turnsFair_walk (a0 : Option Addr) (n0 c0 : Nat) (z0 : List Int) (a1 : Option Addr) (n1 c1 : Nat) (z1 : List Int) (w : World) (hs0 : Sl w a0 n0 c0 z0) (hs1 : Sl w a1 n1 c1 z1) :
    Calls Try.prog 6 #[.slice a0 n0 c0, .slice a1 n1 c1] w fun e w' => e = .returned (.bool true) ∧ Below w.heap.size w w' := by
  have hm0 := hs0.max
  have hl0 := hs0.le
  have hm1 := hs1.max
  have hl1 := hs1.le
  unfold maxLen at hm0 hm1
  go_enter Try.func6, Try.ntmps6
  go_upto_block 0 with (go_at_call 7; refine (to_new (X := fun _ => False) (Below.refl _ w) (fun j hj => hj.elim)).mono ?_; rintro e w1 ⟨g, rfl, b1, T1⟩)
  have b2 : Below w1.heap.size w1 (w1.alloc (.cells #[.slice none 0 0, .slice none 0 0, .slice none 0 0] 48)) := ba (Below.refl _ _)
  have F2 : FE w (w1.alloc (.cells #[.slice none 0 0, .slice none 0 0, .slice none 0 0] 48)) g w1.heap.size (fun _ _ => False) 0 (fun _ => -1) (fun _ => []) (fun _ => []) (fun _ => none) (fun _ => 0) := by
    refine ⟨T1.grow b2 (fun j hj => ?_), fun s hs => ?_, fun s hs => by simp, fun s hs => rw_nil _ _ _, fun s t j _ _ _ h => h.elim, fun s j _ h => h.elim, T1.bel.size, fun s j _ h => h.elim⟩
    · rcases hj with rfl | ⟨s, hs, hj⟩
      · exact ⟨.inr (Nat.le_refl _), by simp⟩
      · exact hj.elim
    · rcases (by omega : s = 0 ∨ s = 1 ∨ s = 2) with rfl | rfl | rfl <;> simp
  clear T1 b1 b2
  generalize w1.heap.size = go at *
  generalize w1.alloc _ = w2 at *
  clear w1
  go_cut [] (fun wx => ∃ (n : Nat) (own : Int → Int) (wt : Int → List (Int × Int)) (Y : Nat → Nat → Prop) (O : Nat → List Int) (A : Nat → Option Addr) (cp : Nat → Nat), FE w wx g go Y n own wt O A cp ∧ FQ own wt O ∧ n ≤ 20 ∧ ∀ s : Nat, s < 3 → (O s).length ≤ 20)
  case first => as_aux_lemma =>
    go_wp2_with fail
    go_loopw [7] (fun vi wr => ∃ (i : Nat) (own : Int → Int) (wt : Int → List (Int × Int)) (Y : Nat → Nat → Prop) (O : Nat → List Int) (A : Nat → Option Addr) (cp : Nat → Nat), vi = .int .i64 (i : Int) ∧ i ≤ 20 ∧ FE w wr g go Y i own wt O A cp ∧ FQ own wt O ∧ ∀ s : Nat, s < 3 → (O s).length ≤ i) (fun vi _ => 20 - (intOf vi).toNat)
    case atStart => exact ⟨0, _, _, _, _, _, _, rfl, by omega, F2, fq_first, fun s _ => by simp⟩
    case round =>
      clear F2
      clear w2
      obtain ⟨i, own, wt, Y, O, A, cp, rfl, hi, F, Q, hO⟩ := hrel
      by_cases h1 : (i : Int) < (n0 : Int)
      · have h1' : decide ((i : Int) < (n0 : Int)) = true := decide_eq_true h1
        by_cases h2 : (i : Int) < 20
        · go_upto_if 34 with fail
          go_cut [8] (fun v wx => ∃ l : Nat, l < 3 ∧ v = .int .i64 (l : Int) ∧ wx = wr)
          case first =>
            by_cases h3 : (i : Int) < (n1 : Int)
            · obtain ⟨b, o, rfl, hb, hc⟩ := hs1.at (k := i) (by omega)
              rw [← F.c.bel.cell (p := ⟨b, o + i, none⟩) hb] at hc
              have hb' : b < wr.heap.size := Nat.lt_of_lt_of_le hb F.c.bel.size
              generalize z1[i]?.getD 0 = x at *
              obtain ⟨l, hl, hl3⟩ : ∃ l : Nat, x % 3 = (l : Int) ∧ l < 3 := ⟨(x % 3).toNat, by omega, by omega⟩
              have HL : Hid (x % 3 = (l : Int)) := hl
              clear hl
              go_wp2_with (go_at_call 8; refine (within_any _ _ _ (by omega) (by omega)).mono ?_; rintro e wx ⟨rfl, rfl⟩; rw [HL.out])
              go_meet
              case rel => exact ⟨l, hl3, rfl, rfl⟩
            · go_wp2_with fail
              go_meet
              case rel => exact ⟨0, (by omega), (by simp), rfl⟩
          case rest => as_aux_lemma =>
            obtain ⟨l, hl3, rfl, rfl⟩ := hcut
            obtain ⟨b, o, rfl, hb, hc⟩ := hs0.at (k := i) (by omega)
            rw [← F.c.bel.cell (p := ⟨b, o + i, none⟩) hb] at hc
            have hb' : b < wc.heap.size := Nat.lt_of_lt_of_le hb F.c.bel.size
            generalize z0[i]?.getD 0 = x at *
            obtain ⟨u, hu, hu0, hu9⟩ : ∃ u, x % 9 = u ∧ 0 ≤ u ∧ u < 9 := ⟨_, rfl, by omega, by omega⟩
            have HU : Hid (x % 9 = u) := hu
            have HU9 : Hid (0 ≤ u ∧ u < 9) := ⟨hu0, hu9⟩
            have HIL : Hid (In64 (l : Int)) := ⟨by omega, by omega⟩
            clear hu hu0 hu9
            have hl3' : (l : Int) < 3 := by omega
            obtain ⟨al, hal⟩ : ∃ al, A l = al := ⟨_, rfl⟩
            obtain ⟨cl, hcl⟩ : ∃ cl, cp l = cl := ⟨_, rfl⟩
            obtain ⟨m, hm⟩ : ∃ m, (O l).length = m := ⟨_, rfl⟩
            have HM : Hid ((O l).length = m ∧ A l = al ∧ cp l = cl) := ⟨hm, hal, hcl⟩
            have hm20 : m ≤ 20 := by have := hO l hl3; omega
            obtain ⟨B, hB⟩ : ∃ B, ((m : Int) == 0) = B := ⟨_, rfl⟩
            have HB : Hid ((((O l).length : Int) == 0) = B) := by show _ = _; rw [hm]; exact hB
            clear hm hal hcl
            go_upto_region 11 with fail
            refine wp_region_orders 15 rfl (by kernel_rfl) ?_
            have FV := F.below ((Below.refl wc.heap.size wc).drew)
            have cV : wc.drew.cell? ⟨b, o + i, none⟩ = some (.int .i64 x) := hc
            have HC : Hid (w.cell? ⟨b, o + i, none⟩ = some (.int .i64 x)) := by show _ = _; rw [← F.c.bel.cell (p := ⟨b, o + i, none⟩) hb]; exact hc
            clear hc hb'
            generalize wc.drew = V0 at *
            have oV := FV.cell l hl3
            rw [HM.out.1, HM.out.2.1, HM.out.2.2] at oV
            have hI : (fun V : World => V.cell? ⟨b, o + i, none⟩ = some (.int .i64 x) ∧ V.cell? ⟨go, l, none⟩ = some (.slice al m cl)) V0 := ⟨cV, oV⟩
            clear cV oV
            refine any_inv (fun V : World => V.cell? ⟨b, o + i, none⟩ = some (.int .i64 x) ∧ V.cell? ⟨go, l, none⟩ = some (.slice al m cl)) [] hI ?_
            refine inv_take (v := ?v1) [8, 14] 0 hI rfl (by kernel_rfl) (by kernel_rfl) (by kernel_rfl) (by kernel_rfl) (by kernel_rfl) (fun _ _ _ h => h) (by kernel_rfl) (fun V hV => ?hy1) ?go1
            case hy1 => (obtain ⟨i1, i2⟩ := hV; go_simp <;> rfl)
            simp only [Act.put, List.setIfInBounds_toArray, List.set_cons_zero, List.set_cons_succ]
            refine inv_take (v := ?v2) [8, 14] 1 hI rfl (by kernel_rfl) (by kernel_rfl) (by kernel_rfl) (by kernel_rfl) (by kernel_rfl) (fun _ _ _ h => h) (by kernel_rfl) (fun V hV => ?hy2) ?go2
            case hy2 => (obtain ⟨i1, i2⟩ := hV; go_simp <;> rfl)
            simp only [Act.put, List.setIfInBounds_toArray, List.set_cons_zero, List.set_cons_succ]
            refine inv_take (v := ?v3) [4, 5, 6, 8, 14] 2 hI rfl (by kernel_rfl) (by kernel_rfl) (by kernel_rfl) (by kernel_rfl) (by kernel_rfl) (fun _ _ _ h => h) (by kernel_rfl) (fun V hV => ?hy3) ?go3
            case hy3 => (obtain ⟨i1, i2⟩ := hV; go_simp <;> rfl)
            simp only [Act.put, List.setIfInBounds_toArray, List.set_cons_zero, List.set_cons_succ]
            refine inv_take (v := ?v4) [4, 5, 6, 8, 14] 3 hI rfl (by kernel_rfl) (by kernel_rfl) (by kernel_rfl) (by kernel_rfl) (by kernel_rfl) (fun _ _ _ h => h) (by kernel_rfl) (fun V hV => ?hy4) ?go4
            case hy4 => (obtain ⟨i1, i2⟩ := hV; go_simp <;> rfl)
            simp only [Act.put, List.setIfInBounds_toArray, List.set_cons_zero, List.set_cons_succ]
            refine inv_take (v := ?v5) [5, 6, 8, 14] 4 hI rfl (by kernel_rfl) (by kernel_rfl) (by kernel_rfl) (by kernel_rfl) (by kernel_rfl) (fun _ _ _ h => h) (by kernel_rfl) (fun V hV => ?hy5) ?go5
            case hy5 => (obtain ⟨i1, i2⟩ := hV; go_simp <;> rfl)
            simp only [Act.put, List.setIfInBounds_toArray, List.set_cons_zero, List.set_cons_succ]
            refine inv_take (v := ?v6) [6, 8, 14] 5 hI rfl (by kernel_rfl) (by kernel_rfl) (by kernel_rfl) (by kernel_rfl) (by kernel_rfl) (fun _ _ _ h => h) (by kernel_rfl) (fun V hV => ?hy6) ?go6
            case hy6 => (obtain ⟨i1, i2⟩ := hV; go_simp <;> rfl)
            simp only [Act.put, List.setIfInBounds_toArray, List.set_cons_zero, List.set_cons_succ]
            refine inv_take (v := ?v7) [8, 14] 7 hI rfl (by kernel_rfl) (by kernel_rfl) (by kernel_rfl) (by kernel_rfl) (by kernel_rfl) (fun _ _ _ h => h) (by kernel_rfl) (fun V hV => ?hy7) ?go7
            case hy7 => (obtain ⟨i1, i2⟩ := hV; go_simp <;> rfl)
            simp only [Act.put, List.setIfInBounds_toArray, List.set_cons_zero, List.set_cons_succ]
            refine inv_take (v := ?v8) [10, 11, 12, 13, 14] 9 hI rfl (by kernel_rfl) (by kernel_rfl) (by kernel_rfl) (by kernel_rfl) (by kernel_rfl) (fun _ _ _ h => h) (by kernel_rfl) (fun V hV => ?hy8) ?go8
            case hy8 => (obtain ⟨i1, i2⟩ := hV; go_simp <;> rfl)
            simp only [Act.put, List.setIfInBounds_toArray, List.set_cons_zero, List.set_cons_succ]
            refine inv_take (v := ?v9) [11, 12, 13, 14] 10 hI rfl (by kernel_rfl) (by kernel_rfl) (by kernel_rfl) (by kernel_rfl) (by kernel_rfl) (fun _ _ _ h => h) (by kernel_rfl) (fun V hV => ?hy9) ?go9
            case hy9 => (obtain ⟨i1, i2⟩ := hV; go_simp <;> rfl)
            simp only [Act.put, List.setIfInBounds_toArray, List.set_cons_zero, List.set_cons_succ]
            refine inv_take (v := ?v10) [12, 13, 14] 11 hI rfl (by kernel_rfl) (by kernel_rfl) (by kernel_rfl) (by kernel_rfl) (by kernel_rfl) (fun _ _ _ h => h) (by kernel_rfl) (fun V hV => ?hy10) ?go10
            case hy10 => (obtain ⟨i1, i2⟩ := hV; go_simp <;> rfl)
            simp only [Act.put, List.setIfInBounds_toArray, List.set_cons_zero, List.set_cons_succ]
            refine inv_take (v := ?v11) [13, 14] 12 hI rfl (by kernel_rfl) (by kernel_rfl) (by kernel_rfl) (by kernel_rfl) (by kernel_rfl) (fun _ _ _ h => h) (by kernel_rfl) (fun V hV => ?hy11) ?go11
            case hy11 => (obtain ⟨i1, i2⟩ := hV; go_simp <;> rfl)
            simp only [Act.put, List.setIfInBounds_toArray, List.set_cons_zero, List.set_cons_succ]
            refine inv_take (v := ?v12) [14] 13 hI rfl (by kernel_rfl) (by kernel_rfl) (by kernel_rfl) (by kernel_rfl) (by kernel_rfl) (fun _ _ _ h => h) (by kernel_rfl) (fun V hV => ?hy12) ?go12
            case hy12 => (obtain ⟨i1, i2⟩ := hV; go_simp <;> rfl)
            simp only [Act.put, List.setIfInBounds_toArray, List.set_cons_zero, List.set_cons_succ]
            refine inv_list 6 (by kernel_rfl) rfl ?_
            go_wp2_with (go_at_call 8; refine (within_any _ _ _ (by omega) (by omega)).mono ?_; rintro e wx ⟨rfl, rfl⟩; rw [HU.out])
            refine then_n ⟨hI, ?_⟩
            refine inv_list 8 (by kernel_rfl) rfl ?_
            clear hI
            go_wp2_with (go_at_call 9; refine (fe_ask FV Q hl3 HU9.out (i : Int) (by omega) HB.out).mono ?_; rintro e w3 ⟨rfl, own3, wt3, F3, Q3⟩)
            have oV := F3.cell l hl3
            rw [HM.out.1, HM.out.2.1, HM.out.2.2] at oV
            have cV := (F3.c.bel.cell (p := ⟨b, o + i, none⟩) hb).trans HC.out
            have hI : (fun V : World => V.cell? ⟨b, o + i, none⟩ = some (.int .i64 x) ∧ V.cell? ⟨go, l, none⟩ = some (.slice al m cl)) w3 := ⟨cV, oV⟩
            refine then_n ⟨hI, ?_⟩
            refine inv_take (v := ?v13) [] 14 hI rfl (by kernel_rfl) (by kernel_rfl) (by kernel_rfl) (by kernel_rfl) (by kernel_rfl) (fun _ _ _ h => h) (by kernel_rfl) (fun V hV => ?hy13) ?go13
            case hy13 => (obtain ⟨i1, i2⟩ := hV; go_simp <;> rfl)
            simp only [Act.put, List.setIfInBounds_toArray, List.set_cons_zero, List.set_cons_succ]
            refine inv_done (by kernel_rfl) ?_
            go_upto_region 13 with fail
            clear hI cV oV hB HB FV
            clear V0
            refine wp_region_orders 13 rfl (by kernel_rfl) ?_
            have F4 := F3.below ((Below.refl w3.heap.size w3).drew)
            clear F3
            generalize w3.drew = V4 at *
            clear w3
            have oV := F4.cell l hl3
            rw [HM.out.1, HM.out.2.1, HM.out.2.2] at oV
            have fV := F4.fz l hl3
            have cV := (F4.c.bel.cell (p := ⟨b, o + i, none⟩) hb).trans HC.out
            have rV := F4.row l hl3
            rw [HM.out.1, HM.out.2.1, HM.out.2.2] at rV
            obtain ⟨ol, hol⟩ : ∃ ol, O l = ol := ⟨_, rfl⟩
            rw [hol] at rV
            have HOL : Hid (O l = ol) := hol
            clear hol
            have hI : (fun V : World => V.cell? ⟨b, o + i, none⟩ = some (.int .i64 x) ∧ V.cell? ⟨go, l, none⟩ = some (.slice al m cl) ∧ V.frozen? ⟨go, l, none⟩ = false) V4 := ⟨cV, oV, fV⟩
            clear cV oV fV
            refine any_inv (fun V : World => V.cell? ⟨b, o + i, none⟩ = some (.int .i64 x) ∧ V.cell? ⟨go, l, none⟩ = some (.slice al m cl) ∧ V.frozen? ⟨go, l, none⟩ = false) [12] hI ?_
            refine inv_take (v := ?v14) [11, 12] 0 hI rfl (by kernel_rfl) (by kernel_rfl) (by kernel_rfl) (by kernel_rfl) (by kernel_rfl) (fun _ _ _ h => h) (by kernel_rfl) (fun V hV => ?hy14) ?go14
            case hy14 => (obtain ⟨i1, i2, i3⟩ := hV; go_simp <;> rfl)
            simp only [Act.put, List.setIfInBounds_toArray, List.set_cons_zero, List.set_cons_succ]
            refine inv_take (v := ?v15) [2, 3, 10, 11, 12] 1 hI rfl (by kernel_rfl) (by kernel_rfl) (by kernel_rfl) (by kernel_rfl) (by kernel_rfl) (fun _ _ _ h => h) (by kernel_rfl) (fun V hV => ?hy15) ?go15
            case hy15 => (obtain ⟨i1, i2, i3⟩ := hV; go_simp <;> rfl)
            simp only [Act.put, List.setIfInBounds_toArray, List.set_cons_zero, List.set_cons_succ]
            refine inv_take (v := ?v16) [3, 10, 11, 12] 2 hI rfl (by kernel_rfl) (by kernel_rfl) (by kernel_rfl) (by kernel_rfl) (by kernel_rfl) (fun _ _ _ h => h) (by kernel_rfl) (fun V hV => ?hy16) ?go16
            case hy16 => (obtain ⟨i1, i2, i3⟩ := hV; go_simp <;> rfl)
            simp only [Act.put, List.setIfInBounds_toArray, List.set_cons_zero, List.set_cons_succ]
            refine inv_take (v := ?v17) [10, 11, 12] 3 hI rfl (by kernel_rfl) (by kernel_rfl) (by kernel_rfl) (by kernel_rfl) (by kernel_rfl) (fun _ _ _ h => h) (by kernel_rfl) (fun V hV => ?hy17) ?go17
            case hy17 => (obtain ⟨i1, i2, i3⟩ := hV; go_simp <;> rfl)
            simp only [Act.put, List.setIfInBounds_toArray, List.set_cons_zero, List.set_cons_succ]
            refine inv_take (v := ?v18) [6, 7, 8, 9, 10, 11, 12] 4 hI rfl (by kernel_rfl) (by kernel_rfl) (by kernel_rfl) (by kernel_rfl) (by kernel_rfl) (fun _ _ _ h => h) (by kernel_rfl) (fun V hV => ?hy18) ?go18
            case hy18 => (obtain ⟨i1, i2, i3⟩ := hV; go_simp <;> rfl)
            simp only [Act.put, List.setIfInBounds_toArray, List.set_cons_zero, List.set_cons_succ]
            refine inv_take (v := ?v19) [6, 7, 8, 9, 10, 11, 12] 5 hI rfl (by kernel_rfl) (by kernel_rfl) (by kernel_rfl) (by kernel_rfl) (by kernel_rfl) (fun _ _ _ h => h) (by kernel_rfl) (fun V hV => ?hy19) ?go19
            case hy19 => (obtain ⟨i1, i2, i3⟩ := hV; go_simp <;> rfl)
            simp only [Act.put, List.setIfInBounds_toArray, List.set_cons_zero, List.set_cons_succ]
            refine inv_take (v := ?v20) [7, 8, 9, 10, 11, 12] 6 hI rfl (by kernel_rfl) (by kernel_rfl) (by kernel_rfl) (by kernel_rfl) (by kernel_rfl) (fun _ _ _ h => h) (by kernel_rfl) (fun V hV => ?hy20) ?go20
            case hy20 => (obtain ⟨i1, i2, i3⟩ := hV; go_simp <;> rfl)
            simp only [Act.put, List.setIfInBounds_toArray, List.set_cons_zero, List.set_cons_succ]
            refine inv_take (v := ?v21) [8, 9, 10, 11, 12] 7 hI rfl (by kernel_rfl) (by kernel_rfl) (by kernel_rfl) (by kernel_rfl) (by kernel_rfl) (fun _ _ _ h => h) (by kernel_rfl) (fun V hV => ?hy21) ?go21
            case hy21 => (obtain ⟨i1, i2, i3⟩ := hV; go_simp <;> rfl)
            simp only [Act.put, List.setIfInBounds_toArray, List.set_cons_zero, List.set_cons_succ]
            refine inv_list 8 (by kernel_rfl) rfl ?_
            go_wp2_with (go_at_call 8; refine (within_any _ _ _ (by omega) (by omega)).mono ?_; rintro e wx ⟨rfl, rfl⟩; rw [HU.out])
            refine then_n ⟨hI, ?_⟩
            refine inv_list 9 (by kernel_rfl) rfl ?_
            clear hI
            go_wp2_with fail
            have b5 : Below V4.heap.size V4 (V4.alloc (.cells #[.int .i64 u] 3)) := ba (Below.refl _ _)
            have F5 := F4.below b5
            have oV := F5.cell l hl3
            rw [HM.out.1, HM.out.2.1, HM.out.2.2] at oV
            have cV := (F5.c.bel.cell (p := ⟨b, o + i, none⟩) hb).trans HC.out
            have hI : (fun V : World => V.cell? ⟨b, o + i, none⟩ = some (.int .i64 x) ∧ V.cell? ⟨go, l, none⟩ = some (.slice al m cl) ∧ V.frozen? ⟨go, l, none⟩ = false) (V4.alloc (.cells #[.int .i64 u] 3)) := ⟨cV, oV, F5.fz l hl3⟩
            refine then_n ⟨hI, ?_⟩
            refine inv_list 10 (by kernel_rfl) rfl ?_
            obtain ⟨i0, hi0, hp0, hp1, hp2⟩ := info_parts Try.infoInt
            have hcm := rV.max
            refine wpList_append_rw (V4.alloc (.cells #[.int .i64 u] 3)) (Y l) (by kernel_rfl) (.tmp 58) (.tmp 64) 22 rfl 3 i0 (.int .i64 0) 1 8 Try.underlying22 hi0 hp0 hp1 hp2 rfl (by decide) al m cl (cells ol) rfl (rV.below b5) ⟨V4.heap.size, 0, none⟩ 1 1 (cells [u]) rfl (by omega) rfl (cell_i1 _ _) (cells_one _) (by unfold maxLen; omega) (by omega) ?_
            intro a8 c8 w8 hrw8 hk8
            have e8 : cells ol ++ cells [u] = cells (ol ++ [u]) := by simp [cells]
            rw [e8] at hrw8
            have ngo : ¬ Y l go := fun f => F5.ng l go hl3 f rfl
            have g5 := F5.c.xl go (.inl rfl)
            have o8 := (hk8.cell l g5 ngo).trans oV
            have f8 := (hk8.frozen l g5 ngo).trans (F5.fz l hl3)
            have c8' := (hk8.cell (o + i) (Nat.lt_of_lt_of_le hb F5.c.bel.size) (fun f => by have := F5.lo.2 l b hl3 f; omega)).trans cV
            have hI8 : (fun V : World => V.cell? ⟨b, o + i, none⟩ = some (.int .i64 x) ∧ V.cell? ⟨go, l, none⟩ = some (.slice al m cl) ∧ V.frozen? ⟨go, l, none⟩ = false) w8 := ⟨c8', o8, f8⟩
            have g8 := Nat.lt_of_lt_of_le g5 hk8.size
            clear hI
            refine then_n ⟨hI8, ?_⟩
            simp only [Act.put, List.setIfInBounds_toArray, List.set_cons_zero, List.set_cons_succ]
            refine inv_take (v := ?v22) [12] 11 hI8 rfl (by kernel_rfl) (by kernel_rfl) (by kernel_rfl) (by kernel_rfl) (by kernel_rfl) (fun _ _ _ h => h) (by kernel_rfl) (fun V hV => ?hy22) ?go22
            case hy22 => (obtain ⟨i1, i2, i3⟩ := hV; go_simp <;> rfl)
            simp only [Act.put, List.setIfInBounds_toArray, List.set_cons_zero, List.set_cons_succ]
            have hol8 : ol.length = m := by rw [← HOL.out]; exact HM.out.1
            obtain ⟨Y', F9⟩ := F5.set hl3 hk8 hrw8 (by simp [hol8])
            rw [← HOL.out] at F9
            clear hI8 oV cV hrw8 hk8 c8' hol8 F5 F4 rV b5
            refine inv_write 12 (by kernel_rfl) (by kernel_rfl) rfl ?_
            go_wp2_with fail
            refine then_n ?_
            refine any_done (by kernel_rfl) ?_
            go_wp2_with fail
            go_roundw
            case rel => exact ⟨i + 1, own3, wt3, Y', _, _, _, by go_num, by omega, F9, Q3, fun s hs => by
              have := hO s hs
              by_cases e : s = l
              · subst e
                rw [if_pos rfl, List.length_append, HM.out.1]
                simp
                have := HM.out.1
                omega
              · rw [if_neg e]; omega⟩
            case measure => simp [intOf]; omega
        · go_wp2_with fail
          go_meet
          case rel => exact ⟨i, own, wt, Y, O, A, cp, F, Q, by omega, fun s hs => by have := hO s hs; omega⟩
      · go_wp2_with fail
        go_meet
        case rel => exact ⟨i, own, wt, Y, O, A, cp, F, Q, by omega, fun s hs => by have := hO s hs; omega⟩
  case rest => as_aux_lemma =>
    clear F2
    clear w2
    obtain ⟨n, own, wt, Y, O, A, cp, F, Q, hn, hO⟩ := hcut
    go_wp2_with fail
    go_loopw [67] (fun v wr => ∃ (q n : Nat) (own : Int → Int) (wt : Int → List (Int × Int)), v = .int .i64 (q : Int) ∧ q ≤ 3 ∧ n ≤ 20 + 21 * q ∧ FE w wr g go Y n own wt O A cp ∧ FQ own wt (restO q O)) (fun v _ => 3 - (intOf v).toNat)
    case atStart => exact ⟨0, n, own, wt, rfl, by omega, by omega, F, by rw [restO_zero]; exact Q⟩
    case round =>
      clear F Q hn
      clear own wt n
      clear wc
      obtain ⟨q, n, own, wt, rfl, hq, hn, F, Q⟩ := hrel
      by_cases hq3 : (q : Int) < 3
      · have hq3' : q < 3 := by omega
        have HIL : Hid (In64 (q : Int)) := ⟨by omega, by omega⟩
        have oc := F.cell q hq3'
        obtain ⟨aq, haq⟩ : ∃ aq, A q = aq := ⟨_, rfl⟩
        obtain ⟨cq, hcq⟩ : ∃ cq, cp q = cq := ⟨_, rfl⟩
        obtain ⟨m, hm⟩ : ∃ m, (O q).length = m := ⟨_, rfl⟩
        have HM : Hid ((O q).length = m ∧ A q = aq ∧ cp q = cq) := ⟨hm, haq, hcq⟩
        have hm20 : m ≤ 20 := by have := hO q hq3'; omega
        rw [hm, haq, hcq] at oc
        clear hm haq hcq
        go_upto_block 4 with fail
        clear oc
        go_cut [] (fun wx => ∃ (n : Nat) (own : Int → Int) (wt : Int → List (Int × Int)), n ≤ 20 + 21 * (q + 1) ∧ FE w wx g go Y n own wt O A cp ∧ FQ own wt (restO (q + 1) O))
        case first => as_aux_lemma =>
          go_wp2_with fail
          go_loopw [74] (fun v wx => ∃ (i n : Nat) (own : Int → Int) (wt : Int → List (Int × Int)), v = .int .i64 (i : Int) ∧ i ≤ m ∧ n ≤ 20 + 21 * q + i ∧ FE w wx g go Y n own wt O A cp ∧ FQ own wt (midO q i O)) (fun v _ => m - (intOf v).toNat)
          case atStart => exact ⟨0, n, own, wt, rfl, by omega, by omega, F, by rw [midO_zero]; exact Q⟩
          case round =>
            clear F Q hn
            clear own wt n
            obtain ⟨i, n, own, wt, rfl, hi, hn, F, Q⟩ := hrel
            by_cases him : (i : Int) < (m : Int)
            · skip
              have him' : i < m := by omega
              have rw0 := F.row q hq3'
              rw [HM.out.1, HM.out.2.1, HM.out.2.2] at rw0
              have sl0 : Sl wr aq m cq (O q) := slv_cells rw0.slv
              obtain ⟨b, o, rfl, hb, hc⟩ := sl0.at (k := i) him'
              have hdr : (O q).drop i = (O q)[i]?.getD 0 :: (O q).drop (i + 1) := by
                rw [List.drop_eq_getElem_cons (by rw [HM.out.1]; exact him'), List.getElem?_eq_getElem (by rw [HM.out.1]; exact him')]; rfl
              generalize (O q)[i]?.getD 0 = x at *
              obtain ⟨r, hr⟩ : ∃ r, (O q).drop (i + 1) = r := ⟨_, rfl⟩
              have HR : Hid ((O q).drop (i + 1) = r) := hr
              have hrl : r.length + (i + 1) = m := by rw [← hr, List.length_drop, HM.out.1]; omega
              rw [hr] at hdr
              have hP : midO q i O q = x :: r := by rw [midO_at]; exact hdr
              obtain ⟨s1, s2, s3, s4⟩ := Q.some hq3' hP
              have HP : Hid (midO q i O q = x :: r) := hP
              have S1 : Hid (own q = x) := s1
              have S2 : Hid ((wt q).map Prod.fst = r) := s2
              obtain ⟨rl, hrl'⟩ : ∃ rl, r.length = rl := ⟨_, rfl⟩
              have HRL : Hid ((wt q).length = rl) := by show _ = _; rw [← hrl', ← s2, List.length_map]
              have HRN : Hid (r.length = rl) := hrl'
              rw [hrl'] at hrl
              have oc := F.cell q hq3'
              rw [HM.out.1, HM.out.2.1, HM.out.2.2] at oc
              have gl := F.c.xl go (.inl rfl)
              clear hdr hr hP s1 s2 hrl' sl0 rw0
              go_upto_region 20 with fail
              have hOw : ∀ k, Calls Try.prog 12 #[.pointer (some ⟨g, 0, none⟩), .int .i64 (q : Int)] (wr.drewN k) fun e w' => e = .returned (.int .i64 x) ∧ w' = wr.drewN k := fun k => by
                refine (to_owner (F.below (below_dn wr k)).c HIL.out).mono ?_
                rintro e w4 ⟨rfl, rfl⟩
                rw [S1.out]
                exact ⟨rfl, rfl⟩
              have hWt : ∀ k, Calls Try.prog 16 #[.pointer (some ⟨g, 0, none⟩), .int .i64 (q : Int)] (wr.drewN k) fun e w' => e = .returned (.int .i64 (rl : Int)) ∧ w' = wr.drewN k := fun k => by
                refine (to_waiting (F.below (below_dn wr k)).c HIL.out).mono ?_
                rintro e w4 ⟨rfl, rfl⟩
                rw [HRL.out]
                exact ⟨rfl, rfl⟩
              have hd1 : (m : Int) - 1 - (i : Int) = (rl : Int) := by omega
              go_quiet (first
                | (go_at_call 12; exact Calls.quiet_of_same (hOw _))
                | (go_at_call 16; exact Calls.quiet_of_same (hWt _)))
              have F1 := F.below (below_dn wr nq)
              have oc1 := (F1.cell q hq3')
              rw [HM.out.1, HM.out.2.1, HM.out.2.2] at oc1
              have gl1 := F1.c.xl go (.inl rfl)
              clear hOw hWt oc gl hc hb F
              generalize wr.drewN nq = w5 at *
              cases r with
              | nil =>
                have e2 : wt q = [] := by have := S2.out; simpa using this
                have E2 : Hid (wt q = []) := e2
                obtain rfl : rl = 0 := by have := HRN.out; simpa using this.symm
                clear e2
                go_wp2_with (first
                  | (have mk := F7; clear mk; go_at_call 12; refine (to_owner F7.c HIL.out).mono ?_; rintro e w4 ⟨rfl, rfl⟩; rw [upd_at])
                  | (have mk := F7; clear mk; go_at_call 14; refine (to_next_no F7.c HIL.out (fun h => h.2 E2.out)).mono ?_; rintro e w4 ⟨rfl, rfl⟩)
                  | (go_at_call 14; refine (to_next_no F1.c HIL.out (fun h => by have := S1.out; omega)).mono ?_; rintro e w4 ⟨rfl, rfl⟩)
                  | (go_at_call 11; refine (to_release_no F1.c HIL.out (.inr (by rw [S1.out]; omega))).mono ?_; rintro e w4 ⟨rfl, rfl⟩)
                  | (go_at_call 11; refine (to_release_ok F1.c HIL.out (by rw [S1.out]; omega) S1.out).mono ?_; rintro e w7 ⟨rfl, k7, T7⟩; have F7 := F1.turn k7 T7; have oc7 := F7.cell q hq3'; rw [HM.out.1, HM.out.2.1, HM.out.2.2] at oc7; have gl7 := F7.c.xl go (.inl rfl)))
                have Q7 := Q.last hq3' HP.out
                rw [midO_step q i O HR.out] at Q7
                go_roundw
                case rel => exact ⟨i + 1, n, _, _, by go_num, by omega, by omega, F7, Q7⟩
                case measure => simp [intOf]; omega
              | cons y r =>
                obtain ⟨d, t, ht⟩ : ∃ d t, wt q = (y, d) :: t := by
                  have := S2.out
                  cases hw : wt q with
                  | nil => rw [hw] at this; cases this
                  | cons p t =>
                    rw [hw] at this
                    obtain ⟨p1, p2⟩ := p
                    simp at this
                    exact ⟨p2, t, by rw [this.1]⟩
                have HT : Hid (wt q = (y, d) :: t) := ht
                have hy : (O q)[i + 1]?.getD 0 = y := by
                  have := congrArg (fun l => l[0]?) HR.out
                  simp only [List.getElem?_drop, Nat.add_zero, List.getElem?_cons_zero] at this
                  rw [this]
                  rfl
                have HY : Hid ((O q)[i + 1]?.getD 0 = y) := hy
                have hi2 : i + 1 < m := by have := HRN.out; simp at this; omega
                have HI2 : Hid (i + 1 < m) := hi2
                have hi2' : (i : Int) + 1 < (m : Int) := by omega
                have hi3' : decide ((i : Int) + 1 < (m : Int)) = true := decide_eq_true hi2'
                clear ht hy
                go_wp2_with (first
                  | (have mk := F7; clear mk; go_at_call 12; refine (to_owner F7.c HIL.out).mono ?_; rintro e w4 ⟨rfl, rfl⟩; rw [upd_at])
                  | (have mk := F7; clear mk; go_at_call 14; refine (to_next_ok F7.c HIL.out (upd_at _ _ _) HT.out (by omega)).mono ?_; rintro e w8 ⟨rfl, k8, T8⟩; have F8 := F7.turn k8 T8; have oc8 := F8.cell q hq3'; rw [HM.out.1, HM.out.2.1, HM.out.2.2] at oc8; have gl8 := F8.c.xl go (.inl rfl); obtain ⟨hc8, hb8⟩ := F8.read hq3' HM.out.1 HM.out.2.1 HM.out.2.2 HI2.out HY.out)
                  | (go_at_call 14; refine (to_next_no F1.c HIL.out (fun h => by have := S1.out; omega)).mono ?_; rintro e w4 ⟨rfl, rfl⟩)
                  | (go_at_call 11; refine (to_release_no F1.c HIL.out (.inr (by rw [S1.out]; omega))).mono ?_; rintro e w4 ⟨rfl, rfl⟩)
                  | (go_at_call 11; refine (to_release_ok F1.c HIL.out (by rw [S1.out]; omega) S1.out).mono ?_; rintro e w7 ⟨rfl, k7, T7⟩; have F7 := F1.turn k7 T7))
                have Q8 := Q.next hq3' HP.out HT.out
                rw [midO_step q i O HR.out] at Q8
                go_roundw
                case rel => exact ⟨i + 1, n + 1, _, _, by go_num, by omega, by omega, F8, Q8⟩
                case measure => simp [intOf]; omega
            · go_wp2_with fail
              go_meet
              case rel => exact ⟨n, own, wt, by omega, F, by rw [← midO_end (i := i) (by rw [HM.out.1]; omega)]; exact Q⟩
        case rest => as_aux_lemma =>
          clear F Q hn
          clear own wt n
          obtain ⟨n, own, wt, hn, F, Q⟩ := hcut
          obtain ⟨e1, e2⟩ := Q.none (l := q) hq3' (by unfold restO; rw [if_pos (by omega)])
          have E1 : Hid (own q = -1) := e1
          have E2 : Hid ((wt q).length = 0) := by show _ = _; rw [e2]; rfl
          clear e1 e2
          go_wp2_with (first
            | (go_at_call 12; refine (to_owner F.c HIL.out).mono ?_; rintro e w4 ⟨rfl, rfl⟩; rw [E1.out])
            | (go_at_call 16; refine (to_waiting F.c HIL.out).mono ?_; rintro e w4 ⟨rfl, rfl⟩; rw [E2.out]))
          go_roundw
          case rel => exact ⟨q + 1, n, own, wt, by go_num, by omega, hn, F, Q⟩
          case measure => simp [intOf]; omega
      · obtain rfl : q = 3 := by omega
        go_wp2_with (first
          | (go_at_call 10; refine (to_ready F.c (by omega)).mono ?_; rintro e w3 ⟨v3, l3, rfl, o3, b3, _, hm3⟩; obtain rfl : l3 = [] := (by cases l3 with | nil => rfl | cons y r => exact absurd (Q.done y) ((hm3 y).1 (by simp)).2); obtain ⟨a3, c3, rfl, _⟩ := o3.sl; simp only [List.length_nil])
          | (go_at_call 15; refine (twakes_any _).mono ?_; rintro e w9 ⟨rfl, b9⟩))
        go_ret
        exact ⟨rfl, next F.c.bel (next b3 b9)⟩
end Go.Proofs.Ytnpgpnngpeedhaa
