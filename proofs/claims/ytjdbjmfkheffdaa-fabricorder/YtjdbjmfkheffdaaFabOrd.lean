/- The walk of FabricOrder. Conditions: as its theorem states them. -/
import Derived.Test.YtjdbjmfkheffdaaPart7
namespace Go.Proofs.Ytjdbjmfkheffdaa
open Go.RowKit
set_option linter.unusedVariables false
set_option maxRecDepth 20000

set_option maxHeartbeats 4000000 in
theorem fabricOrder_walk (a : Option Addr) (n cap : Nat) (z : List Int) (b : Option Addr) (m cp : Nat) (zb : List Bool) (w : World) (hs : Sl w a n cap z) (hk : SlV w b m cp 1 (zb.map Value.bool)) :
    Calls Try.prog 7 #[.slice a n cap, .slice b m cp] w fun e w' => e = .returned (.bool true) ∧ Below w.heap.size w w' := by
  go_enter Try.func7, Try.ntmps7
  go_upto_block 0 with (go_at_call 9; refine (new_on (w := w) (X := fun _ => False) (by exact ba (Below.refl _ _)) (fun _ h => h.elim) 4 1 1 1 1 3 8 (.slice none 0 0) rfl (by decide) (by decide) (by decide) (by decide) (by decide) (by decide)).mono ?_; rintro e w1 ⟨gf, rfl, hf0, hb1⟩)
  have hL0 : OL w (w1.alloc (.cells #[.slice none 0 0, .slice none 0 0, .slice none 0 0, .slice none 0 0, .slice none 0 0, .slice none 0 0, .slice none 0 0, .slice none 0 0] 60)) gf w1.heap.size (fun _ => []) (fun _ => noM) := by
    refine ⟨net_nil w1 _, ?_, fun q hq x hx => (by cases hx), fun q hq => Nat.zero_le _, hf0.bel.size, fun q hq k hk => hk.elim⟩
    rw [← laneF_nil]
    refine hf0.more (ba (Below.refl _ _)) (fun k hk => ?_)
    rcases hk with rfl | ⟨q, _, hk⟩
    · exact .inr (by simp)
    · exact hk.elim
  clear hf0 hb1
  generalize w1.heap.size = gs at *
  generalize w1.alloc _ = W0 at *
  go_cut [] (fun wx => ∃ P M, OL w wx gf gs P M)
  case first =>
    go_wp2_with fail
    go_loopw [8] (fun i wr => ∃ (k : Nat) (P : Nat → List Pk) (M : Nat → Nat → Prop), k ≤ n ∧ k ≤ 14 ∧ i = .int .i64 k ∧ OL w wr gf gs P M) (fun i _ => 14 - (intOf i).toNat)
    case atStart => exact ⟨0, _, _, by omega, by omega, rfl, hL0⟩
    case round =>
      obtain ⟨k, P, M, hkn, hk14, rfl, hL⟩ := hrel
      have hs2 := hs.below hL.on.bel
      have hk2 := hk.below hL.on.bel
      have hl2 := hs2.len
      by_cases hlt : k < n ∧ k < 14
      · obtain ⟨hlt1, hlt2⟩ := hlt
        obtain ⟨vs, hvs⟩ : ∃ v : Int, z[k]? = some v := ⟨z[k]'(by omega), List.getElem?_eq_getElem (by omega)⟩
        obtain ⟨bz, oz, rfl, hbz, hcz⟩ := hs2.at hlt1
        rw [hvs, Option.getD_some] at hcz
        obtain ⟨fr, hfr, hfr4⟩ : ∃ fr : Nat, vs % 4 = (fr : Int) ∧ fr < 4 := ⟨(vs % 4).toNat, by omega, by omega⟩
        have hkl := hk2.len
        simp at hkl
        go_upto_region 10 with (go_at_call 11; refine (within_any vs 4 wr (by decide) (by decide)).mono ?_; rintro e w2 ⟨rfl, rfl⟩; rw [hfr])
        go_upto_region 11 with fail
        go_cut [58] (fun v wx => v = .bool ((zb[k]?).getD false) ∧ wx = wr)
        case first =>
          by_cases hkm : k < m
          · obtain ⟨bb, hbb⟩ : ∃ v : Bool, zb[k]? = some v := ⟨zb[k]'(by omega), List.getElem?_eq_getElem (by omega)⟩
            rcases hk2.row with h0 | ⟨bk, ok, rfl, hck⟩
            · have := congrArg List.length h0; rw [List.length_map, List.length_nil] at this; omega
            have hc1 := hck k (.bool bb) (by rw [List.getElem?_map, hbb]; rfl)
            have hle := hk2.le
            clear hck hk2
            go_wp2_with fail
            go_meet
            case rel => exact ⟨by rw [hbb]; rfl, rfl⟩
          · clear hk2
            go_wp2_with fail
            go_meet
            case rel => exact ⟨by rw [List.getElem?_eq_none (by omega)]; rfl, rfl⟩
        case rest =>
          obtain ⟨rfl, rfl⟩ := hcut
          generalize (zb[k]?).getD false = kb at *
          go_upto_if 58 with fail
          go_cut [10, 11] (fun v1 v2 wx => ∃ kk : Nat, kk < 2 ∧ v1 = .int .i64 (kk : Int) ∧ v2 = .int .i64 (ordK kk) ∧ wx = wc)
          case first =>
            cases kb
            · go_wp2_with fail
              go_meet
              case rel => exact ⟨0, by omega, rfl, rfl, rfl⟩
            · go_wp2_with fail
              go_meet
              case rel => exact ⟨1, by omega, rfl, rfl, rfl⟩
          case rest =>
            obtain ⟨kk, hkk, rfl, rfl, rfl⟩ := hcut
            go_upto_region 14 with fail
            have hM : OM w (wc.alloc (.cells #[.int .i64 (ordK kk), .int .i64 (fr : Int), .int .i64 2, .int .i64 (k : Int), .int .i64 0, .int .i64 0, .int .i64 0, .bool false, .slice none 0 0] 26)) gf gs wc.heap.size P P M (ordPk (ordK kk) (fr : Int) (k : Int)) := hL.open (ordPk (ordK kk) fr k)
            have hge := hL.ge
            have hlo := hL.lo
            have hgp : wc.heap.size ≠ gs := fun e => by have := hL.net.lt; omega
            have hgM : ∀ q, q < 8 → ¬ M q wc.heap.size := fun q hq hm => Nat.lt_irrefl _ (hL.net.old hq hm)
            have hwp : w.heap.size ≤ wc.heap.size := hL.on.bel.size
            have hLe := hL.len (2 * fr + kk) (by omega)
            have hGo := hL.good
            have hLn := hL.len
            clear hs hk hs2 hk2 hL hbz hcz hvs hfr
            generalize wc.heap.size = gp at *
            generalize wc.alloc (.cells #[.int .i64 (ordK kk), .int .i64 (fr : Int), .int .i64 2, .int .i64 (k : Int), .int .i64 0, .int .i64 0, .int .i64 0, .bool false, .slice none 0 0] 26) = W at *
            have hq8 : 2 * fr + kk < 8 := by omega
            have hcmd : fr * 2 + kk = 2 * fr + kk := by omega
            go_cut [74] (fun v wx => v = .bool false ∧ ∃ P1, OM w wx gf gs gp P P1 M (ordPk (ordK kk) (fr : Int) (k : Int)) ∧ (((P (2 * fr + kk)).length < 3 ∧ P1 = upd P (2 * fr + kk) (P (2 * fr + kk) ++ [ordPk (ordK kk) (fr : Int) (k : Int)])) ∨ ((P (2 * fr + kk)).length = 3 ∧ P1 = P)))
            case first =>
              refine wp_region_orders 12 rfl (by kernel_rfl) ?_
              replace hM := hM.below ((Below.refl W.heap.size W).drew)
              generalize W.drew = wd at *
              obtain ⟨Rr, ar, cr, hcr, hpr⟩ := hM.net.row (2 * fr + kk) hq8
              replace hcr : wd.cell? ⟨gs, fr * 2 + kk, none⟩ = some (.slice ar (P (2 * fr + kk)).length cr) := by rw [hcmd]; exact hcr
              obtain ⟨q0, q1, q2, q3, q4, q5, q6, q7, q8, qf, ql⟩ := id hM.bx
              simp only [ordPk] at q0 q1 q2 q3 q4 q5 q6 q7 q8
              have i0 : (fr : Int) < 4 := by omega
              have i1 : (kk : Int) < 2 := by omega
              have i2 : (0 : Int) ≤ (fr : Int) := by omega
              have i3 : (0 : Int) ≤ (kk : Int) := by omega
              by_cases hT : (P (2 * fr + kk)).length < 3
              · have HS : Hid (SendTo 4 3 (laneF P) (ordPk (ordK kk) (fr : Int) (k : Int)) 0 (laneF (upd P (2 * fr + kk) (P (2 * fr + kk) ++ [ordPk (ordK kk) (fr : Int) (k : Int)])))) := ord_send hkk hfr4 (by omega) (by omega) hT
                have HT : Hid ((P (2 * fr + kk)).length < 3) := hT
                have hT3 : ((P (2 * fr + kk)).length : Int) < 3 := by omega
                clear hT hpr hLe hcmd
                refine any_take 0 (.pointer (some ⟨gf, 0, none⟩)) rfl (by kernel_rfl) (by kernel_rfl) (by kernel_rfl) (fun _ _ _ h => h) (by kernel_rfl) (fun w => by go_simp) ?_
                simp only [Act.put, List.setIfInBounds_toArray, List.set_cons_zero, List.set_cons_succ]
                refine any_take 4 (.int .i64 (fr : Int)) rfl (by kernel_rfl) (by kernel_rfl) (by kernel_rfl) (fun _ _ _ h => h) (by kernel_rfl) (fun w => by go_simp) ?_
                simp only [Act.put, List.setIfInBounds_toArray, List.set_cons_zero, List.set_cons_succ]
                refine any_take 5 (.int .i64 (kk : Int)) rfl (by kernel_rfl) (by kernel_rfl) (by kernel_rfl) (fun _ _ _ h => h) (by kernel_rfl) (fun w => by go_simp) ?_
                simp only [Act.put, List.setIfInBounds_toArray, List.set_cons_zero, List.set_cons_succ]
                refine any_take 6 (.pointer (some ⟨gs, fr * 2, none⟩)) rfl (by kernel_rfl) (by kernel_rfl) (by kernel_rfl) (fun _ _ _ h => h) (by kernel_rfl) (fun w => by go_simp) ?_
                simp only [Act.put, List.setIfInBounds_toArray, List.set_cons_zero, List.set_cons_succ]
                refine any_take 7 (.pointer (some ⟨gs, fr * 2 + kk, none⟩)) rfl (by kernel_rfl) (by kernel_rfl) (by kernel_rfl) (fun _ _ _ h => h) (by kernel_rfl) (fun w => by go_simp) ?_
                simp only [Act.put, List.setIfInBounds_toArray, List.set_cons_zero, List.set_cons_succ]
                refine any_two 1 8 (by kernel_rfl) rfl rfl ?_ ?_
                · go_wp2
                  refine then_n ?_
                  refine any_two 2 8 (by kernel_rfl) rfl rfl ?_ ?_
                  · go_wp2_with (go_at_call 12; refine (send_on hM.on (ordPk (ordK kk) (fr : Int) (k : Int)) none 0 0 (sl_nil _) (by intro y hy; cases hy) HS.out).mono ?_; rintro en w5 ⟨rfl, ho5, hk5⟩)
                    refine then_n ?_
                    have hM5 := hM.step ho5 hk5
                    have hcr5 := (hk5.cell (fr * 2 + kk) hM.net.lt (fun h => h (.inr (.inl rfl)))).trans hcr
                    clear hcr q0 q1 q2 q3 q4 q5 q6 q7 q8 qf ql ho5 hk5
                    refine any_take 3 (.bool true) rfl (by kernel_rfl) (by kernel_rfl) (by kernel_rfl) (fun _ _ _ h => h) (by kernel_rfl) (fun w => by go_simp) ?_
                    simp only [Act.put, List.setIfInBounds_toArray, List.set_cons_zero, List.set_cons_succ]
                    refine any_list 8 (by kernel_rfl) rfl ?_
                    go_wp2
                    refine then_n ?_
                    refine any_take 9 (.int .i64 ((P (2 * fr + kk)).length : Int)) rfl (by kernel_rfl) (by kernel_rfl) (by kernel_rfl) (fun _ _ _ h => h) (by kernel_rfl) (fun w => by go_simp) ?_
                    simp only [Act.put, List.setIfInBounds_toArray, List.set_cons_zero, List.set_cons_succ]
                    refine any_take 10 (.bool true) rfl (by kernel_rfl) (by kernel_rfl) (by kernel_rfl) (fun _ _ _ h => h) (by kernel_rfl) (fun w => by go_simp) ?_
                    simp only [Act.put, List.setIfInBounds_toArray, List.set_cons_zero, List.set_cons_succ]
                    refine any_take 11 (.bool false) rfl (by kernel_rfl) (by kernel_rfl) (by kernel_rfl) (fun _ _ _ h => h) (by kernel_rfl) (fun w => by go_simp) ?_
                    simp only [Act.put, List.setIfInBounds_toArray, List.set_cons_zero, List.set_cons_succ]
                    refine any_done (by kernel_rfl) ?_
                    go_wp2
                    go_meet
                    case rel => exact ⟨rfl, _, hM5, .inl ⟨HT.out, rfl⟩⟩
                  · go_wp2
                    refine then_n ?_
                    refine any_take 9 (.int .i64 ((P (2 * fr + kk)).length : Int)) rfl (by kernel_rfl) (by kernel_rfl) (by kernel_rfl) (fun _ _ _ h => h) (by kernel_rfl) (fun w => by go_simp) ?_
                    simp only [Act.put, List.setIfInBounds_toArray, List.set_cons_zero, List.set_cons_succ]
                    refine any_take 10 (.bool true) rfl (by kernel_rfl) (by kernel_rfl) (by kernel_rfl) (fun _ _ _ h => h) (by kernel_rfl) (fun w => by go_simp) ?_
                    simp only [Act.put, List.setIfInBounds_toArray, List.set_cons_zero, List.set_cons_succ]
                    refine any_list 2 (by kernel_rfl) rfl ?_
                    go_wp2_with (go_at_call 12; refine (send_on hM.on (ordPk (ordK kk) (fr : Int) (k : Int)) none 0 0 (sl_nil _) (by intro y hy; cases hy) HS.out).mono ?_; rintro en w5 ⟨rfl, ho5, hk5⟩)
                    refine then_n ?_
                    have hM5 := hM.step ho5 hk5
                    have hcr5 := (hk5.cell (fr * 2 + kk) hM.net.lt (fun h => h (.inr (.inl rfl)))).trans hcr
                    clear hcr q0 q1 q2 q3 q4 q5 q6 q7 q8 qf ql ho5 hk5
                    refine any_take 3 (.bool true) rfl (by kernel_rfl) (by kernel_rfl) (by kernel_rfl) (fun _ _ _ h => h) (by kernel_rfl) (fun w => by go_simp) ?_
                    simp only [Act.put, List.setIfInBounds_toArray, List.set_cons_zero, List.set_cons_succ]
                    refine any_take 11 (.bool false) rfl (by kernel_rfl) (by kernel_rfl) (by kernel_rfl) (fun _ _ _ h => h) (by kernel_rfl) (fun w => by go_simp) ?_
                    simp only [Act.put, List.setIfInBounds_toArray, List.set_cons_zero, List.set_cons_succ]
                    refine any_done (by kernel_rfl) ?_
                    go_wp2
                    go_meet
                    case rel => exact ⟨rfl, _, hM5, .inl ⟨HT.out, rfl⟩⟩
                · go_wp2
                  refine then_n ?_
                  refine any_take 9 (.int .i64 ((P (2 * fr + kk)).length : Int)) rfl (by kernel_rfl) (by kernel_rfl) (by kernel_rfl) (fun _ _ _ h => h) (by kernel_rfl) (fun w => by go_simp) ?_
                  simp only [Act.put, List.setIfInBounds_toArray, List.set_cons_zero, List.set_cons_succ]
                  refine any_take 10 (.bool true) rfl (by kernel_rfl) (by kernel_rfl) (by kernel_rfl) (fun _ _ _ h => h) (by kernel_rfl) (fun w => by go_simp) ?_
                  simp only [Act.put, List.setIfInBounds_toArray, List.set_cons_zero, List.set_cons_succ]
                  refine any_list 1 (by kernel_rfl) rfl ?_
                  go_wp2
                  refine then_n ?_
                  refine any_list 2 (by kernel_rfl) rfl ?_
                  go_wp2_with (go_at_call 12; refine (send_on hM.on (ordPk (ordK kk) (fr : Int) (k : Int)) none 0 0 (sl_nil _) (by intro y hy; cases hy) HS.out).mono ?_; rintro en w5 ⟨rfl, ho5, hk5⟩)
                  refine then_n ?_
                  have hM5 := hM.step ho5 hk5
                  have hcr5 := (hk5.cell (fr * 2 + kk) hM.net.lt (fun h => h (.inr (.inl rfl)))).trans hcr
                  clear hcr q0 q1 q2 q3 q4 q5 q6 q7 q8 qf ql ho5 hk5
                  refine any_take 3 (.bool true) rfl (by kernel_rfl) (by kernel_rfl) (by kernel_rfl) (fun _ _ _ h => h) (by kernel_rfl) (fun w => by go_simp) ?_
                  simp only [Act.put, List.setIfInBounds_toArray, List.set_cons_zero, List.set_cons_succ]
                  refine any_take 11 (.bool false) rfl (by kernel_rfl) (by kernel_rfl) (by kernel_rfl) (fun _ _ _ h => h) (by kernel_rfl) (fun w => by go_simp) ?_
                  simp only [Act.put, List.setIfInBounds_toArray, List.set_cons_zero, List.set_cons_succ]
                  refine any_done (by kernel_rfl) ?_
                  go_wp2
                  go_meet
                  case rel => exact ⟨rfl, _, hM5, .inl ⟨HT.out, rfl⟩⟩
              · have hT0 : (P (2 * fr + kk)).length = 3 := by omega
                have HS : Hid (SendTo 4 3 (laneF P) (ordPk (ordK kk) (fr : Int) (k : Int)) 5 (laneF P)) := ord_full hkk hfr4 (by omega) (by omega) hT0
                have HT : Hid ((P (2 * fr + kk)).length = 3) := hT0
                have hT3 : ¬ ((P (2 * fr + kk)).length : Int) < 3 := by omega
                clear hT0
                clear hT hpr hLe hcmd
                refine any_take 0 (.pointer (some ⟨gf, 0, none⟩)) rfl (by kernel_rfl) (by kernel_rfl) (by kernel_rfl) (fun _ _ _ h => h) (by kernel_rfl) (fun w => by go_simp) ?_
                simp only [Act.put, List.setIfInBounds_toArray, List.set_cons_zero, List.set_cons_succ]
                refine any_take 4 (.int .i64 (fr : Int)) rfl (by kernel_rfl) (by kernel_rfl) (by kernel_rfl) (fun _ _ _ h => h) (by kernel_rfl) (fun w => by go_simp) ?_
                simp only [Act.put, List.setIfInBounds_toArray, List.set_cons_zero, List.set_cons_succ]
                refine any_take 5 (.int .i64 (kk : Int)) rfl (by kernel_rfl) (by kernel_rfl) (by kernel_rfl) (fun _ _ _ h => h) (by kernel_rfl) (fun w => by go_simp) ?_
                simp only [Act.put, List.setIfInBounds_toArray, List.set_cons_zero, List.set_cons_succ]
                refine any_take 6 (.pointer (some ⟨gs, fr * 2, none⟩)) rfl (by kernel_rfl) (by kernel_rfl) (by kernel_rfl) (fun _ _ _ h => h) (by kernel_rfl) (fun w => by go_simp) ?_
                simp only [Act.put, List.setIfInBounds_toArray, List.set_cons_zero, List.set_cons_succ]
                refine any_take 7 (.pointer (some ⟨gs, fr * 2 + kk, none⟩)) rfl (by kernel_rfl) (by kernel_rfl) (by kernel_rfl) (fun _ _ _ h => h) (by kernel_rfl) (fun w => by go_simp) ?_
                simp only [Act.put, List.setIfInBounds_toArray, List.set_cons_zero, List.set_cons_succ]
                refine any_two 1 8 (by kernel_rfl) rfl rfl ?_ ?_
                · go_wp2
                  refine then_n ?_
                  refine any_two 2 8 (by kernel_rfl) rfl rfl ?_ ?_
                  · go_wp2_with (go_at_call 12; refine (send_on hM.on (ordPk (ordK kk) (fr : Int) (k : Int)) none 0 0 (sl_nil _) (by intro y hy; cases hy) HS.out).mono ?_; rintro en w5 ⟨rfl, ho5, hk5⟩)
                    refine then_n ?_
                    have hM5 := hM.step ho5 hk5
                    have hcr5 := (hk5.cell (fr * 2 + kk) hM.net.lt (fun h => h (.inr (.inl rfl)))).trans hcr
                    clear hcr q0 q1 q2 q3 q4 q5 q6 q7 q8 qf ql ho5 hk5
                    refine any_take 3 (.bool false) rfl (by kernel_rfl) (by kernel_rfl) (by kernel_rfl) (fun _ _ _ h => h) (by kernel_rfl) (fun w => by go_simp) ?_
                    simp only [Act.put, List.setIfInBounds_toArray, List.set_cons_zero, List.set_cons_succ]
                    refine any_list 8 (by kernel_rfl) rfl ?_
                    go_wp2
                    refine then_n ?_
                    refine any_take 9 (.int .i64 ((P (2 * fr + kk)).length : Int)) rfl (by kernel_rfl) (by kernel_rfl) (by kernel_rfl) (fun _ _ _ h => h) (by kernel_rfl) (fun w => by go_simp) ?_
                    simp only [Act.put, List.setIfInBounds_toArray, List.set_cons_zero, List.set_cons_succ]
                    refine any_take 10 (.bool false) rfl (by kernel_rfl) (by kernel_rfl) (by kernel_rfl) (fun _ _ _ h => h) (by kernel_rfl) (fun w => by go_simp) ?_
                    simp only [Act.put, List.setIfInBounds_toArray, List.set_cons_zero, List.set_cons_succ]
                    refine any_take 11 (.bool false) rfl (by kernel_rfl) (by kernel_rfl) (by kernel_rfl) (fun _ _ _ h => h) (by kernel_rfl) (fun w => by go_simp) ?_
                    simp only [Act.put, List.setIfInBounds_toArray, List.set_cons_zero, List.set_cons_succ]
                    refine any_done (by kernel_rfl) ?_
                    go_wp2
                    go_meet
                    case rel => exact ⟨rfl, _, hM5, .inr ⟨HT.out, rfl⟩⟩
                  · go_wp2
                    refine then_n ?_
                    refine any_take 9 (.int .i64 ((P (2 * fr + kk)).length : Int)) rfl (by kernel_rfl) (by kernel_rfl) (by kernel_rfl) (fun _ _ _ h => h) (by kernel_rfl) (fun w => by go_simp) ?_
                    simp only [Act.put, List.setIfInBounds_toArray, List.set_cons_zero, List.set_cons_succ]
                    refine any_take 10 (.bool false) rfl (by kernel_rfl) (by kernel_rfl) (by kernel_rfl) (fun _ _ _ h => h) (by kernel_rfl) (fun w => by go_simp) ?_
                    simp only [Act.put, List.setIfInBounds_toArray, List.set_cons_zero, List.set_cons_succ]
                    refine any_list 2 (by kernel_rfl) rfl ?_
                    go_wp2_with (go_at_call 12; refine (send_on hM.on (ordPk (ordK kk) (fr : Int) (k : Int)) none 0 0 (sl_nil _) (by intro y hy; cases hy) HS.out).mono ?_; rintro en w5 ⟨rfl, ho5, hk5⟩)
                    refine then_n ?_
                    have hM5 := hM.step ho5 hk5
                    have hcr5 := (hk5.cell (fr * 2 + kk) hM.net.lt (fun h => h (.inr (.inl rfl)))).trans hcr
                    clear hcr q0 q1 q2 q3 q4 q5 q6 q7 q8 qf ql ho5 hk5
                    refine any_take 3 (.bool false) rfl (by kernel_rfl) (by kernel_rfl) (by kernel_rfl) (fun _ _ _ h => h) (by kernel_rfl) (fun w => by go_simp) ?_
                    simp only [Act.put, List.setIfInBounds_toArray, List.set_cons_zero, List.set_cons_succ]
                    refine any_take 11 (.bool false) rfl (by kernel_rfl) (by kernel_rfl) (by kernel_rfl) (fun _ _ _ h => h) (by kernel_rfl) (fun w => by go_simp) ?_
                    simp only [Act.put, List.setIfInBounds_toArray, List.set_cons_zero, List.set_cons_succ]
                    refine any_done (by kernel_rfl) ?_
                    go_wp2
                    go_meet
                    case rel => exact ⟨rfl, _, hM5, .inr ⟨HT.out, rfl⟩⟩
                · go_wp2
                  refine then_n ?_
                  refine any_take 9 (.int .i64 ((P (2 * fr + kk)).length : Int)) rfl (by kernel_rfl) (by kernel_rfl) (by kernel_rfl) (fun _ _ _ h => h) (by kernel_rfl) (fun w => by go_simp) ?_
                  simp only [Act.put, List.setIfInBounds_toArray, List.set_cons_zero, List.set_cons_succ]
                  refine any_take 10 (.bool false) rfl (by kernel_rfl) (by kernel_rfl) (by kernel_rfl) (fun _ _ _ h => h) (by kernel_rfl) (fun w => by go_simp) ?_
                  simp only [Act.put, List.setIfInBounds_toArray, List.set_cons_zero, List.set_cons_succ]
                  refine any_list 1 (by kernel_rfl) rfl ?_
                  go_wp2
                  refine then_n ?_
                  refine any_list 2 (by kernel_rfl) rfl ?_
                  go_wp2_with (go_at_call 12; refine (send_on hM.on (ordPk (ordK kk) (fr : Int) (k : Int)) none 0 0 (sl_nil _) (by intro y hy; cases hy) HS.out).mono ?_; rintro en w5 ⟨rfl, ho5, hk5⟩)
                  refine then_n ?_
                  have hM5 := hM.step ho5 hk5
                  have hcr5 := (hk5.cell (fr * 2 + kk) hM.net.lt (fun h => h (.inr (.inl rfl)))).trans hcr
                  clear hcr q0 q1 q2 q3 q4 q5 q6 q7 q8 qf ql ho5 hk5
                  refine any_take 3 (.bool false) rfl (by kernel_rfl) (by kernel_rfl) (by kernel_rfl) (fun _ _ _ h => h) (by kernel_rfl) (fun w => by go_simp) ?_
                  simp only [Act.put, List.setIfInBounds_toArray, List.set_cons_zero, List.set_cons_succ]
                  refine any_take 11 (.bool false) rfl (by kernel_rfl) (by kernel_rfl) (by kernel_rfl) (fun _ _ _ h => h) (by kernel_rfl) (fun w => by go_simp) ?_
                  simp only [Act.put, List.setIfInBounds_toArray, List.set_cons_zero, List.set_cons_succ]
                  refine any_done (by kernel_rfl) ?_
                  go_wp2
                  go_meet
                  case rel => exact ⟨rfl, _, hM5, .inr ⟨HT.out, rfl⟩⟩
            case rest =>
              obtain ⟨rfl, P1, hM1, hP1⟩ := hcut
              obtain ⟨Rr, ar, cr, hcr, hpr⟩ := hM1.net.row (2 * fr + kk) hq8
              replace hcr : wc.cell? ⟨gs, fr * 2 + kk, none⟩ = some (.slice ar (P (2 * fr + kk)).length cr) := by rw [hcmd]; exact hcr
              have lts := hM1.net.lt
              have i0 : (fr : Int) < 4 := by omega
              have i1 : (kk : Int) < 2 := by omega
              have i2 : (0 : Int) ≤ (fr : Int) := by omega
              have i3 : (0 : Int) ≤ (kk : Int) := by omega
              have HCM : Hid (fr * 2 + kk = 2 * fr + kk) := hcmd
              clear hM hL0 hcmd
              rcases hP1 with ⟨hT, rfl⟩ | ⟨hT, rfl⟩
              · have hT3 : ((P (2 * fr + kk)).length : Int) < 3 := by omega
                have hxe : ∃ i : Int, 0 ≤ i ∧ i < 14 ∧ ordPk (ordK kk) (fr : Int) (k : Int) = ordPk (ordK ((2 * fr + kk) % 2)) (((2 * fr + kk) / 2 : Nat) : Int) i := ⟨k, by omega, by omega, by rw [show (2 * fr + kk) % 2 = kk by omega, show (2 * fr + kk) / 2 = fr by omega]⟩
                have hxz : (ordPk (ordK kk) (fr : Int) (k : Int)).z = [] := rfl
                generalize ordPk (ordK kk) (fr : Int) (k : Int) = x at *
                go_upto_region 17 with fail
                refine wp_region_orders 13 rfl (by kernel_rfl) ?_
                replace hM1 := hM1.below ((Below.refl wc.heap.size wc).drew)
                replace hpr := hpr.below ((Below.refl wc.heap.size wc).drew)
                replace hcr : wc.drew.cell? ⟨gs, fr * 2 + kk, none⟩ = some (.slice ar (P (2 * fr + kk)).length cr) := ((bcell ((Below.refl wc.heap.size wc).drew)).1 gs (fr * 2 + kk) lts).trans hcr
                clear lts
                have lts := hM1.net.lt
                generalize wc.drew = wd at *
                obtain ⟨q0, q1, q2, q3, q4, q5, q6, q7, q8, qf, ql⟩ := id hM1.bx
                have uc := @Up.cell2
                have uf := @Up.frozen2
                refine any_take 0 (.int .i64 (fr : Int)) rfl (by kernel_rfl) (by kernel_rfl) (by kernel_rfl) (fun _ _ _ h => h) (by kernel_rfl) (fun w => by go_simp) ?_
                simp only [Act.put, List.setIfInBounds_toArray, List.set_cons_zero, List.set_cons_succ]
                refine any_take 1 (.int .i64 (kk : Int)) rfl (by kernel_rfl) (by kernel_rfl) (by kernel_rfl) (fun _ _ _ h => h) (by kernel_rfl) (fun w => by go_simp) ?_
                simp only [Act.put, List.setIfInBounds_toArray, List.set_cons_zero, List.set_cons_succ]
                refine any_take 2 (.int .i64 (fr : Int)) rfl (by kernel_rfl) (by kernel_rfl) (by kernel_rfl) (fun _ _ _ h => h) (by kernel_rfl) (fun w => by go_simp) ?_
                simp only [Act.put, List.setIfInBounds_toArray, List.set_cons_zero, List.set_cons_succ]
                refine any_take 3 (.int .i64 (kk : Int)) rfl (by kernel_rfl) (by kernel_rfl) (by kernel_rfl) (fun _ _ _ h => h) (by kernel_rfl) (fun w => by go_simp) ?_
                simp only [Act.put, List.setIfInBounds_toArray, List.set_cons_zero, List.set_cons_succ]
                refine any_take 4 (.pointer (some ⟨gs, fr * 2, none⟩)) rfl (by kernel_rfl) (by kernel_rfl) (by kernel_rfl) (fun _ _ _ h => h) (by kernel_rfl) (fun w => by go_simp) ?_
                simp only [Act.put, List.setIfInBounds_toArray, List.set_cons_zero, List.set_cons_succ]
                refine any_take 5 (.pointer (some ⟨gs, fr * 2 + kk, none⟩)) rfl (by kernel_rfl) (by kernel_rfl) (by kernel_rfl) (fun _ _ _ h => h) (by kernel_rfl) (fun w => by go_simp) ?_
                simp only [Act.put, List.setIfInBounds_toArray, List.set_cons_zero, List.set_cons_succ]
                refine any_take 10 (.pointer (some ⟨gs, fr * 2, none⟩)) rfl (by kernel_rfl) (by kernel_rfl) (by kernel_rfl) (fun _ _ _ h => h) (by kernel_rfl) (fun w => by go_simp) ?_
                simp only [Act.put, List.setIfInBounds_toArray, List.set_cons_zero, List.set_cons_succ]
                refine any_mildx [9, 12] ?_
                refine mildy_take (v := ?v1) [9, 12] 6 rfl (by kernel_rfl) (by kernel_rfl) (by kernel_rfl) (by kernel_rfl) (by kernel_rfl) (fun _ _ _ h => h) (by kernel_rfl) (fun Wu K hK => ?hy1) ?go1
                case hy1 =>
                  go_big_quiet_op
                  simp only [Act.put, List.setIfInBounds_toArray, List.set_cons_zero, List.set_cons_succ] at hK
                  exact hK
                simp only [Act.put, List.setIfInBounds_toArray, List.set_cons_zero, List.set_cons_succ]
                refine mildy_take (v := ?v2) [8, 9, 12] 7 rfl (by kernel_rfl) (by kernel_rfl) (by kernel_rfl) (by kernel_rfl) (by kernel_rfl) (fun _ _ _ h => h) (by kernel_rfl) (fun Wu K hK => ?hy2) ?go2
                case hy2 =>
                  go_big_quiet_op
                  simp only [Act.put, List.setIfInBounds_toArray, List.set_cons_zero, List.set_cons_succ] at hK
                  exact hK
                simp only [Act.put, List.setIfInBounds_toArray, List.set_cons_zero, List.set_cons_succ]
                intro W2
                clear uc uf q0 q1 q2 q3 q4 q5 q6 q7 q8 qf ql hcr lts
                have hB := W2.2
                generalize W2.1 = wa at *
                refine upx_list 8 (by kernel_rfl) rfl ?_
                go_wp2
                refine ⟨next hB (ba (Below.refl _ _)), fun u => ?_⟩
                have bx := (Bx.made wa x (.slice none 0 0)).next u.2
                replace hB := next hB (next (ba (Below.refl _ _)) u.2)
                replace hM1 := hM1.below hB
                replace hpr := hpr.below hB
                clear hB
                generalize u.1 = w4 at *
                generalize wa.heap.size = bs at *
                obtain ⟨f0, hi, hp0, hp1, hp2⟩ := info_parts Try.infoPk
                refine upx_write 9 (by kernel_rfl) (by kernel_rfl) rfl ?_
                refine wpList_append_rw w4 (M (2 * fr + kk)) (by kernel_rfl) (.tmp 88) (.tmp 90) 53 rfl 26 f0 (zeroPk.val (.slice none 0 0)) 9 88 Try.underlying53 hi hp0 hp1 hp2 rfl (by decide) ar (P (2 * fr + kk)).length cr (pflat Rr) rfl hpr.row ⟨bs, 0, none⟩ 1 1 (pcells x (.slice none 0 0)) rfl (by omega) (by rfl) bx.news (pcells_one (by rfl)) (by unfold maxLen; omega) (by omega) ?_
                intro a5 c5 w5 hrw5 hk5
                refine then_n ?_
                simp only [Act.put, List.setIfInBounds_toArray, List.set_cons_zero, List.set_cons_succ]
                have hp5 := hpr.snoc (E := noM) (dat_nil w4 noM hxz) (fun k h => h.elim) (fun k h => h.elim) (fun k h => h.elim) hrw5 hk5
                rw [noM_two] at hp5
                obtain ⟨hn6, hk6⟩ := hM1.net.set hq8 hk5 hp5 (fun k h => h.imp id (fun h => h.1))
                rw [show (⟨gs, 2 * fr + kk, none⟩ : Addr) = ⟨gs, fr * 2 + kk, none⟩ by rw [HCM.out]] at hn6 hk6
                have hfz5 : w5.frozen? ⟨gs, fr * 2 + kk, none⟩ = false := by rw [hk5.frozen _ hM1.net.lt (hM1.net.ngs _ hq8)]; exact hM1.net.fz _
                obtain ⟨R7, a7, c7, hc7, _⟩ := hM1.net.row (2 * fr + kk) hq8
                have hcc5 : w5.cell? ⟨gs, fr * 2 + kk, none⟩ = some (.slice a7 (P (2 * fr + kk)).length c7) := by rw [hk5.cell _ hM1.net.lt (hM1.net.ngs _ hq8), HCM.out]; exact hc7
                clear hc7
                refine any_take 11 (.pointer (some ⟨gs, fr * 2 + kk, none⟩)) rfl (by kernel_rfl) (by kernel_rfl) (by kernel_rfl) (fun _ _ _ h => h) (by kernel_rfl) (fun w => by go_simp) ?_
                simp only [Act.put, List.setIfInBounds_toArray, List.set_cons_zero, List.set_cons_succ]
                refine any_list 12 (by kernel_rfl) rfl ?_
                go_wp2
                refine then_n ?_
                refine any_done (by kernel_rfl) ?_
                have hz5 := hk5.size
                have hz6 : (w5.setCell ⟨gs, fr * 2 + kk, none⟩ (.slice a5 ((P (2 * fr + kk)).length + 1) c5)).heap.size = w5.heap.size := by simp
                have hon : On w (w5.setCell ⟨gs, fr * 2 + kk, none⟩ (.slice a5 ((P (2 * fr + kk)).length + 1) c5)) gf 4 3 8 (laneF (upd P (2 * fr + kk) (P (2 * fr + kk) ++ [x]))) (fun k => k = gs ∨ ∃ q, q < 8 ∧ upd M (2 * fr + kk) (fun k => M (2 * fr + kk) k ∨ (w4.heap.size ≤ k ∧ k < w5.heap.size)) q k) := by
                  refine hM1.on.turn hk6 (fun k h => .inl ?_) (fun k h => ?_) (fun k h => ?_) (fun k h => ?_)
                  · rcases h with h | h
                    · exact .inr (.inl h)
                    · exact .inr (.inr ⟨_, hq8, h⟩)
                  · rcases h with h | h
                    · omega
                    · exact hlo _ hq8 k h
                  · rcases h with h | ⟨q, hq, h⟩
                    · exact .inl (.inr (.inl h))
                    · by_cases e : q = 2 * fr + kk
                      · subst e; rw [upd_same] at h
                        exact h.elim (fun h => .inl (.inr (.inr ⟨_, hq8, h⟩))) (fun h => .inr h.1)
                      · rw [upd_other _ _ e] at h
                        exact .inl (.inr (.inr ⟨q, hq, h⟩))
                  · rcases h with h | ⟨q, hq, h⟩
                    · have := hM1.net.lt; omega
                    · exact hn6.old hq h
                have hOL : OL w _ gf gs _ _ := ⟨hn6, hon, fun q hq y hy => by
                  by_cases e : q = 2 * fr + kk
                  · subst e; rw [upd_same, List.mem_append] at hy
                    rcases hy with hy | hy
                    · exact hGo _ hq y hy
                    · rw [List.mem_singleton] at hy; subst hy; exact hxe
                  · rw [upd_other _ _ e] at hy; exact hGo q hq y hy, fun q hq => by
                  by_cases e : q = 2 * fr + kk
                  · subst e; rw [upd_same, List.length_append]; simp; omega
                  · rw [upd_other _ _ e]; exact hLn q hq, hge, fun q hq k h => by
                  by_cases e : q = 2 * fr + kk
                  · subst e; rw [upd_same] at h
                    rcases h with h | h
                    · exact hlo _ hq8 k h
                    · have := hM1.on.bel.size; omega
                  · rw [upd_other _ _ e] at h; exact hlo q hq k h⟩
                clear hn6 hk6 hon hM1 hrw5 hk5 hp5 hpr bx hfz5 hcc5 hz6
                generalize w5.setCell ⟨gs, fr * 2 + kk, none⟩ (.slice a5 ((P (2 * fr + kk)).length + 1) c5) = w6 at *
                go_wp2
                go_roundw
                case rel => exact ⟨k + 1, _, _, by omega, by omega, by go_num, hOL⟩
                case measure => simp [intOf]; omega
              · have hT3 : ¬ ((P1 (2 * fr + kk)).length : Int) < 3 := by omega
                go_wp2_with fail
                go_roundw
                case rel => exact ⟨k + 1, P1, M, by omega, by omega, by go_num, hM1.net, on_weak hM1.on (fun k e => .inr e), hGo, hLn, hge, hlo⟩
                case measure => simp [intOf]; omega
      · clear hs2 hk2
        by_cases hkn' : k < n
        · obtain rfl : k = 14 := by omega
          go_wp2_with fail
          go_meet
          case rel => exact ⟨P, M, hL⟩
        · obtain rfl : k = n := by omega
          go_wp2_with fail
          go_meet
          case rel => exact ⟨P, M, hL⟩
  case rest =>
    obtain ⟨P, M, hL⟩ := hcut
    clear hL0 hs hk
    replace hL := hL.all
    go_upto_block 2 with fail
    go_cut [13] (fun v wx => ∃ MA R a cap, v = .slice a (joinL P 8).length cap ∧ OA w wx gf gs P M MA (joinL P 8) R a cap)
    case first =>
      go_wp2_with fail
      go_loopw [13, 94] (fun v vj wx => ∃ (j : Nat) (MA : Nat → Prop) (R : List (Pk × Value)) (a : Option Addr) (cap : Nat), j ≤ 4 ∧ vj = .int .i64 (j : Int) ∧ v = .slice a (joinL P (2 * j)).length cap ∧ OA w wx gf gs P M MA (joinL P (2 * j)) R a cap) (fun _ vj _ => 4 - (intOf vj).toNat)
      case atStart => exact ⟨0, noM, [], none, 0, by omega, rfl, rfl, hL⟩
      case round =>
        obtain ⟨j, MA, R, a5, cap5, hj, rfl, rfl, hA⟩ := hrel
        by_cases hlt : j < 4
        · have hjl := join_len hA.len (m := 2 * j) (by omega)
          have hj1 := hA.len (2 * j) (by omega)
          have HJ1 : Hid (joinL P (2 * j + 1) = joinL P (2 * j) ++ P (2 * j)) := rfl
          have HJ2 : Hid (joinL P (2 * (j + 1)) = joinL P (2 * j) ++ P (2 * j) ++ P (2 * j + 1)) := rfl
          obtain ⟨R1, b1, c1, hc1, hp1⟩ := hA.net.row (2 * j) (by omega)
          obtain ⟨R2, b2, c2, hc2, hp2⟩ := hA.net.row (2 * j + 1) (by omega)
          have hlts := hA.net.lt
          replace hc1 : wr.cell? ⟨gs, j * 2, none⟩ = some (.slice b1 (P (2 * j)).length c1) := by rw [Nat.mul_comm j 2]; exact hc1
          replace hc2 : wr.cell? ⟨gs, j * 2 + 1, none⟩ = some (.slice b2 (P (2 * j + 1)).length c2) := by rw [Nat.mul_comm j 2]; exact hc2
          go_upto_region 22 with fail
          refine wp_region_orders 12 rfl (by kernel_rfl) ?_
          have hdr : Below wr.heap.size wr wr.drew := (Below.refl wr.heap.size wr).drew
          replace hA := hA.below hdr
          replace hp1 := hp1.below hdr
          replace hp2 := hp2.below hdr
          replace hc1 := ((bcell hdr).1 gs (j * 2) hlts).trans hc1
          replace hc2 := ((bcell hdr).1 gs (j * 2 + 1) hlts).trans hc2
          clear hdr hlts
          generalize wr.drew = wd at *
          have i0 : (j : Int) < 4 := by omega
          have i2 : (0 : Int) ≤ (j : Int) := by omega
          refine any_take 0 (.slice a5 (joinL P (2 * j)).length cap5) rfl (by kernel_rfl) (by kernel_rfl) (by kernel_rfl) (fun _ _ _ h => h) (by kernel_rfl) (fun w => by go_simp) ?_
          simp only [Act.put, List.setIfInBounds_toArray, List.set_cons_zero, List.set_cons_succ]
          refine any_take 1 (.int .i64 (j : Int)) rfl (by kernel_rfl) (by kernel_rfl) (by kernel_rfl) (fun _ _ _ h => h) (by kernel_rfl) (fun w => by go_simp) ?_
          simp only [Act.put, List.setIfInBounds_toArray, List.set_cons_zero, List.set_cons_succ]
          refine any_take 2 (.pointer (some ⟨gs, j * 2, none⟩)) rfl (by kernel_rfl) (by kernel_rfl) (by kernel_rfl) (fun _ _ _ h => h) (by kernel_rfl) (fun w => by go_simp) ?_
          simp only [Act.put, List.setIfInBounds_toArray, List.set_cons_zero, List.set_cons_succ]
          refine any_take 3 (.pointer (some ⟨gs, j * 2, none⟩)) rfl (by kernel_rfl) (by kernel_rfl) (by kernel_rfl) (fun _ _ _ h => h) (by kernel_rfl) (fun w => by go_simp) ?_
          simp only [Act.put, List.setIfInBounds_toArray, List.set_cons_zero, List.set_cons_succ]
          refine any_take 6 (.int .i64 (j : Int)) rfl (by kernel_rfl) (by kernel_rfl) (by kernel_rfl) (fun _ _ _ h => h) (by kernel_rfl) (fun w => by go_simp) ?_
          simp only [Act.put, List.setIfInBounds_toArray, List.set_cons_zero, List.set_cons_succ]
          refine any_take 7 (.pointer (some ⟨gs, j * 2, none⟩)) rfl (by kernel_rfl) (by kernel_rfl) (by kernel_rfl) (fun _ _ _ h => h) (by kernel_rfl) (fun w => by go_simp) ?_
          simp only [Act.put, List.setIfInBounds_toArray, List.set_cons_zero, List.set_cons_succ]
          refine any_take 8 (.pointer (some ⟨gs, j * 2 + 1, none⟩)) rfl (by kernel_rfl) (by kernel_rfl) (by kernel_rfl) (fun _ _ _ h => h) (by kernel_rfl) (fun w => by go_simp) ?_
          simp only [Act.put, List.setIfInBounds_toArray, List.set_cons_zero, List.set_cons_succ]
          refine any_two 4 9 (by kernel_rfl) rfl rfl ?_ ?_
          · go_wp2
            refine then_n ?_
            refine any_two 5 9 (by kernel_rfl) rfl rfl ?_ ?_
            · refine wpList_append_oa hA (q := 2 * j) (by omega) hp1 (by omega) (by kernel_rfl) (.tmp 97) (.tmp 101) rfl rfl rfl ?_
              intro a6 c6 w6 MA6 hA6 hk6
              refine then_n ?_
              simp only [Act.put, List.setIfInBounds_toArray, List.set_cons_zero, List.set_cons_succ]
              replace hp2 := hp2.keep hk6 (fun k e h => e.elim (fun e => hA.dj k h (.inr ⟨2 * j + 1, by omega, e⟩)) (fun e => e))
              replace hc2 := (hk6.cell (j * 2 + 1) hA.net.lt (fun h => hA.dj gs h (.inl rfl))).trans hc2
              clear hk6 hp1 hc1 hA
              refine any_list 9 (by kernel_rfl) rfl ?_
              go_wp2
              refine then_n ?_
              refine any_list 10 (by kernel_rfl) rfl ?_
              have hl6 : (joinL P (2 * j) ++ P (2 * j)).length = (joinL P (2 * j)).length + (P (2 * j)).length := List.length_append
              refine wpList_append_oa hA6 (q := 2 * j + 1) (by omega) hp2 (by omega) (by kernel_rfl) (.tmp 102) (.tmp 106) rfl (by rw [hl6]; rfl) rfl ?_
              intro a7 c7 w7 MA7 hA7 hk7
              refine then_n ?_
              simp only [Act.put, List.setIfInBounds_toArray, List.set_cons_zero, List.set_cons_succ]
              refine any_list 11 (by kernel_rfl) rfl ?_
              go_wp2
              refine then_n ?_
              refine any_done (by kernel_rfl) ?_
              go_wp2
              go_roundw
              case rel => exact ⟨j + 1, MA7, _, a7, c7, by omega, by go_num, by rw [HJ2.out]; simp only [List.length_append], by rw [HJ2.out]; exact hA7⟩
              case measure => simp [intOf]; omega
            · go_wp2
              refine then_n ?_
              refine any_list 5 (by kernel_rfl) rfl ?_
              refine wpList_append_oa hA (q := 2 * j) (by omega) hp1 (by omega) (by kernel_rfl) (.tmp 97) (.tmp 101) rfl rfl rfl ?_
              intro a6 c6 w6 MA6 hA6 hk6
              refine then_n ?_
              simp only [Act.put, List.setIfInBounds_toArray, List.set_cons_zero, List.set_cons_succ]
              replace hp2 := hp2.keep hk6 (fun k e h => e.elim (fun e => hA.dj k h (.inr ⟨2 * j + 1, by omega, e⟩)) (fun e => e))
              replace hc2 := (hk6.cell (j * 2 + 1) hA.net.lt (fun h => hA.dj gs h (.inl rfl))).trans hc2
              clear hk6 hp1 hc1 hA
              refine any_list 10 (by kernel_rfl) rfl ?_
              have hl6 : (joinL P (2 * j) ++ P (2 * j)).length = (joinL P (2 * j)).length + (P (2 * j)).length := List.length_append
              refine wpList_append_oa hA6 (q := 2 * j + 1) (by omega) hp2 (by omega) (by kernel_rfl) (.tmp 102) (.tmp 106) rfl (by rw [hl6]; rfl) rfl ?_
              intro a7 c7 w7 MA7 hA7 hk7
              refine then_n ?_
              simp only [Act.put, List.setIfInBounds_toArray, List.set_cons_zero, List.set_cons_succ]
              refine any_list 11 (by kernel_rfl) rfl ?_
              go_wp2
              refine then_n ?_
              refine any_done (by kernel_rfl) ?_
              go_wp2
              go_roundw
              case rel => exact ⟨j + 1, MA7, _, a7, c7, by omega, by go_num, by rw [HJ2.out]; simp only [List.length_append], by rw [HJ2.out]; exact hA7⟩
              case measure => simp [intOf]; omega
          · go_wp2
            refine then_n ?_
            refine any_list 4 (by kernel_rfl) rfl ?_
            go_wp2
            refine then_n ?_
            refine any_list 5 (by kernel_rfl) rfl ?_
            refine wpList_append_oa hA (q := 2 * j) (by omega) hp1 (by omega) (by kernel_rfl) (.tmp 97) (.tmp 101) rfl rfl rfl ?_
            intro a6 c6 w6 MA6 hA6 hk6
            refine then_n ?_
            simp only [Act.put, List.setIfInBounds_toArray, List.set_cons_zero, List.set_cons_succ]
            replace hp2 := hp2.keep hk6 (fun k e h => e.elim (fun e => hA.dj k h (.inr ⟨2 * j + 1, by omega, e⟩)) (fun e => e))
            replace hc2 := (hk6.cell (j * 2 + 1) hA.net.lt (fun h => hA.dj gs h (.inl rfl))).trans hc2
            clear hk6 hp1 hc1 hA
            refine any_list 10 (by kernel_rfl) rfl ?_
            have hl6 : (joinL P (2 * j) ++ P (2 * j)).length = (joinL P (2 * j)).length + (P (2 * j)).length := List.length_append
            refine wpList_append_oa hA6 (q := 2 * j + 1) (by omega) hp2 (by omega) (by kernel_rfl) (.tmp 102) (.tmp 106) rfl (by rw [hl6]; rfl) rfl ?_
            intro a7 c7 w7 MA7 hA7 hk7
            refine then_n ?_
            simp only [Act.put, List.setIfInBounds_toArray, List.set_cons_zero, List.set_cons_succ]
            refine any_list 11 (by kernel_rfl) rfl ?_
            go_wp2
            refine then_n ?_
            refine any_done (by kernel_rfl) ?_
            go_wp2
            go_roundw
            case rel => exact ⟨j + 1, MA7, _, a7, c7, by omega, by go_num, by rw [HJ2.out]; simp only [List.length_append], by rw [HJ2.out]; exact hA7⟩
            case measure => simp [intOf]; omega
        · obtain rfl : j = 4 := by omega
          go_wp2_with fail
          go_meet
          case rel => exact ⟨MA, R, a5, cap5, rfl, hA⟩
    case rest =>
      obtain ⟨MA, R, a5, cap5, rfl, hA⟩ := hcut
      clear hL
      have HLL : Hid (laneL (laneF P) 8 = joinL P 8) := lane_join P 8
      have hl24 := join_len hA.len (m := 8) (by omega)
      obtain ⟨N, hN⟩ : ∃ N, (joinL P 8).length = N := ⟨_, rfl⟩
      have HN : Hid ((joinL P 8).length = N) := hN
      rw [hN] at hl24
      rw [hN]
      clear hN
      go_upto_block 4 with (go_at_call 14; refine (under_on hA.on (N : Int) (by rw [HLL.out, HN.out])).mono ?_; rintro e w2 ⟨rfl, hb2⟩)
      replace hA := hA.below hb2
      clear hb2
      go_cut [] (fun wx => OA w wx gf gs P M MA (joinL P 8) R a5 cap5)
      case first =>
        go_wp2_with fail
        go_loopw [116] (fun vj wx => ∃ j : Nat, j ≤ N ∧ vj = .int .i64 (j : Int) ∧ OA w wx gf gs P M MA (joinL P 8) R a5 cap5) (fun vj _ => N - (intOf vj).toNat)
        case atStart => exact ⟨0, by omega, rfl, hA⟩
        case round =>
          obtain ⟨j, hj, rfl, hB⟩ := hrel
          by_cases hlt : j < N
          · obtain ⟨x, d, bo, oo, hxL, hRx, hdat, rfl, hMb, hbl, ⟨e0, e1, e2, e3, e4, e5, e6, e7, e8⟩, _⟩ := hB.row.get (i := j) (by rw [HN.out]; exact hlt)
            obtain ⟨q, kq, y, hq, hy, hjq⟩ := lane_at (laneF P) 8 j (by rw [HLL.out, HN.out]; exact hlt)
            obtain rfl : y = x := by
              have := (lane_found (laneF P) hy 8 hq).2.1
              rw [← hjq, HLL.out, hxL] at this
              exact (Option.some.inj this).symm
            obtain ⟨ad, nd, cd, rfl, hsd, _, _⟩ := hdat
            have hcp := hB.row.row.le
            have hmx := hB.row.row.max
            rw [HN.out] at hcp
            unfold maxLen at hmx
            have hj63 : (j : Int) < (N : Int) := by omega
            have HJ : Hid (j = (laneL (laneF P) q).length + kq) := hjq
            clear hjq hxL hRx hA
            go_wp2_with (first
              | (go_at_call 27; refine (packet_on (hB.on.below (by exact ba (Below.refl _ _))) hq hy _ (by have := HJ.out; omega)).mono ?_; rintro e w4 ⟨d4, rfl, hb4, hown4⟩; obtain ⟨a4, c4, rfl, hs4⟩ := hown4.sl; obtain ⟨q0, q1, q2, q3, q4, q5, q6, q7, q8, qf, ql⟩ := (Bx.made wr y (.slice ad nd cd)).next hb4)
              | (go_at_call 18; refine (refSame_any y y ad a4 nd _ cd c4 _ (hsd.below (next (next (by exact ba (Below.refl _ _)) hb4) (by exact ba (Below.refl _ _)))) (hs4.below (by exact ba (Below.refl _ _)))).mono ?_; rintro e w5 ⟨rfl, hb5⟩; rw [sameP_self]))
            go_roundw
            case rel => exact ⟨j + 1, by omega, by go_num, (((hB.below (by exact ba (Below.refl _ _))).below hb4).below (by exact ba (Below.refl _ _))).below hb5⟩
            case measure => simp [intOf]; omega
          · obtain rfl : j = N := by omega
            go_wp2_with fail
            go_meet
            case rel => exact hB
      case rest =>
        clear hA
        have hG : ∀ x ∈ joinL P 8, ∃ kk : Nat, kk < 2 ∧ ∃ f i : Int, x = ordPk (ordK kk) f i := fun x hx => by
          obtain ⟨q, hq, hx⟩ := mem_join hx
          obtain ⟨i, _, _, e⟩ := hcut.good q hq x hx
          exact ⟨q % 2, by omega, _, _, e⟩
        have hD0 := hcut.del
        have hL0 : Left (joinL P 8) N (laneF P) [] 0 := ⟨⟨[], by rw [HLL.out, ← HN.out, List.take_length, List.append_nil]⟩, laneF_in P 4, .inl ⟨rfl, by rw [laneF_in]; rfl⟩, Nat.zero_le _⟩
        clear HLL hcut
        generalize joinL P 8 = A at *
        generalize laneF P = F0 at *
        go_upto_block 6 with fail
        go_cut [14] (fun v wx => ∃ (RQ : List Pk) (MR : Nat → Prop) (RR : List (Pk × Value)) (aR : Option Addr) (cR : Nat) (F : Nat → List Pk) (ac : Nat), v = .slice aR RQ.length cR ∧ OD w wx gf A MA R a5 cap5 RQ MR RR aR cR F ∧ Left A 0 F RQ ac)
        case first =>
          go_wp2_with fail
          go_loopw [14, 20, 21] (fun v v2 v3 wx => ∃ (j : Nat) (RQ : List Pk) (MR : Nat → Prop) (RR : List (Pk × Value)) (aR : Option Addr) (cR : Nat) (F : Nat → List Pk) (ac : Nat), j ≤ N ∧ v3 = .int .i64 ((j : Int) - 1) ∧ v2 = .int .i64 (ac : Int) ∧ ac + j ≤ N ∧ v = .slice aR RQ.length cR ∧ OD w wx gf A MA R a5 cap5 RQ MR RR aR cR F ∧ Left A j F RQ ac) (fun _ _ v3 _ => (intOf v3 + 1).toNat)
          case atStart => exact ⟨N, [], noM, [], none, 0, F0, 0, by omega, rfl, rfl, by omega, rfl, hD0, hL0⟩
          case round =>
            clear hL0 hD0
            obtain ⟨j0, RQ, MR, RR, aR, cR, F, ac, hj, rfl, rfl, hac, rfl, hD, hL⟩ := hrel
            by_cases hlt : 0 < j0
            · obtain ⟨j, rfl⟩ : ∃ j, j0 = j + 1 := ⟨j0 - 1, by omega⟩
              rw [show ((j + 1 : Nat) : Int) - 1 = (j : Int) by omega]
              obtain ⟨x, d, bo, oo, hxL, hRx, hdat, rfl, hMb, hbl, ⟨e0, e1, e2, e3, e4, e5, e6, e7, e8⟩, _⟩ := hD.row.get (i := j) (by rw [HN.out]; omega)
              obtain ⟨kk, hkk, fr, ix, hxe⟩ := hG x (List.mem_of_getElem? hxL)
              have hcp := hD.row.row.le
              have hmx := hD.row.row.max
              rw [HN.out] at hcp
              unfold maxLen at hmx
              have hj63 : (j : Int) < (N : Int) := by omega
              have hle8 := hL.le
              have HX : Hid (x = ordPk (ordK kk) fr ix) := hxe
              clear hxe
              obtain ⟨kx, hkx⟩ : ∃ kx, x.k = kx := ⟨_, rfl⟩
              have HK : Hid (x.k = kx) := hkx
              have e0' := e0
              rw [hkx] at e0
              clear hkx
              obtain ⟨bx, hbx⟩ : ∃ bx, (kx == 8) = bx := ⟨_, rfl⟩
              have HB : Hid ((kx == 8) = bx) := hbx
              go_upto_if 148 with fail
              clear hbx
              go_cut [14, 20, 22] (fun v v2 v22 wx => ∃ (RQ' : List Pk) (MR' : Nat → Prop) (RR' : List (Pk × Value)) (aR' : Option Addr) (cR' : Nat) (F' : Nat → List Pk) (ac' : Nat) (e : Int), v = .slice aR' RQ'.length cR' ∧ v2 = .int .i64 (ac' : Int) ∧ ac' + j ≤ N ∧ v22 = .int .i64 e ∧ OD w wx gf A MA R (some ⟨bo, oo, none⟩) cap5 RQ' MR' RR' aR' cR' F ∧ Hid (DelTo 4 3 8 F j 0 0 e F') ∧ Left A j F' RQ' ac')
              case first =>
                obtain rfl | rfl : kk = 0 ∨ kk = 1 := by omega
                · obtain rfl : bx = false := by rw [← HB.out, ← HK.out, HX.out]; rfl
                  replace e0 := e0'
                  by_cases h8 : RQ.length = 8
                  · obtain ⟨hdel, hL'⟩ := left_req8 hL h8 hxL HX.out
                    replace hdel : Hid (DelTo 4 3 8 F j 0 0 5 F) := hdel
                    clear hL HX hG hxL hdat hRx
                    go_wp2_with fail
                    go_meet
                    case rel => exact ⟨RQ, MR, RR, aR, cR, F, ac, 5, rfl, rfl, by omega, rfl, hD, hdel, hL'⟩
                  · obtain ⟨F', hdel, hL'⟩ := left_req hL (by omega) hxL HX.out
                    replace hdel : Hid (DelTo 4 3 8 F j 0 0 0 F') := hdel
                    clear hL HX hG hxL hRx
                    have h8i : ((RQ.length : Int) == 8) = false := by simp; omega
                    have h87 : RQ.length < 8 := by omega
                    clear h8
                    obtain ⟨f0, hi, hp0, hp1, hp2⟩ := info_parts Try.infoPk
                    obtain ⟨ad, nd, cd, rfl, _, _, _⟩ := id hdat
                    go_wp2_with ((at_builtin; refine wpList_append_rw _ MR (by kernel_rfl) _ _ 53 rfl 26 f0 (zeroPk.val (.slice none 0 0)) 9 88 Try.underlying53 hi hp0 hp1 hp2 rfl (by decide) aR RQ.length cR (pflat RR) rfl (hD.req.below (by exact ba (Below.refl _ _))).row ⟨wr.heap.size, 0, none⟩ 1 1 (pcells x (.slice ad nd cd)) rfl (by omega) rfl (Bx.made wr x (.slice ad nd cd)).news (pcells_one rfl) (by unfold maxLen; omega) (by omega) ?_; intro a6 c6 w6 hrw6 hk6))
                    go_meet
                    case rel => exact ⟨RQ ++ [x], _, _, a6, c6, F', ac, 0, by rw [List.length_append]; rfl, rfl, by omega, rfl, (hD.below (by exact ba (Below.refl _ _))).snoc (hdat.below (by exact ba (Below.refl _ _))) hrw6 hk6, hdel, hL'⟩
                · obtain rfl : bx = true := by rw [← HB.out, ← HK.out, HX.out]; rfl
                  replace e0 := e0'
                  by_cases h0 : ac = 0
                  · subst h0
                    obtain ⟨F', hdel, hL'⟩ := left_ans0 hL hxL HX.out
                    replace hdel : Hid (DelTo 4 3 8 F j 0 0 0 F') := hdel
                    clear hL HX hG hxL hdat hRx
                    go_wp2_with fail
                    go_meet
                    case rel => exact ⟨RQ, MR, RR, aR, cR, F', 1, 0, rfl, rfl, by omega, rfl, hD, hdel, hL'⟩
                  · obtain ⟨hdel, hL'⟩ := left_ans1 hL (by omega) hxL HX.out
                    replace hdel : Hid (DelTo 4 3 8 F j 0 0 5 F) := hdel
                    clear hL HX hG hxL hdat hRx
                    have h0n : 0 < ac := by omega
                    clear h0
                    go_wp2_with fail
                    go_meet
                    case rel => exact ⟨RQ, MR, RR, aR, cR, F, ac + 1, 5, rfl, by go_num, by omega, rfl, hD, hdel, hL'⟩
              case rest =>
                clear hL hD hdat e0 e0' e1 e2 e3 e4 e5 e6 e7 e8 hRx
                obtain ⟨RQ', MR', RR', aR', cR', F', ac', e, rfl, rfl, hac', rfl, hD, hdel, hL⟩ := hcut
                go_wp2_with (go_at_call 13; refine (deliver_on hD.on (j : Int) 0 0 (by omega) (by decide) (by decide) hdel.out).mono ?_; rintro en w5 ⟨rfl, ho5, hk5⟩)
                go_roundw
                case rel => exact ⟨j, RQ', MR', RR', aR', cR', F', ac', by omega, by go_num, rfl, by omega, rfl, hD.step ho5 hk5, hL⟩
                case measure => simp [intOf] <;> omega
            · obtain rfl : j0 = 0 := by omega
              go_wp2_with fail
              go_meet
              case rel => exact ⟨RQ, MR, RR, aR, cR, F, ac, rfl, hD, hL⟩
        case rest =>
          clear hL0 hD0
          obtain ⟨RQ, MR, RR, aR, cR, F, ac, rfl, hD, hL⟩ := hcut
          have hq := hL.req
          have hle8 := hL.le
          clear hL hG
          replace hD := hD.take
          go_upto_block 8 with fail
          go_cut [] (fun wx => ∃ F, On w wx gf 4 3 8 F MR ∧ Hid (F (pr 4 + 2) = []))
          case first =>
            go_wp2_with fail
            go_loopw [170] (fun vj wx => ∃ (j : Nat) (F : Nat → List Pk), j ≤ RQ.length ∧ vj = .int .i64 (j : Int) ∧ OE w wx gf RQ MR RR aR cR F ∧ Hid (F (pr 4 + 2) = RQ.drop j)) (fun vj _ => RQ.length - (intOf vj).toNat)
            case atStart => exact ⟨0, F, by omega, rfl, hD, hq⟩
            case round =>
              clear hD hq
              obtain ⟨j, F, hj, rfl, hE, HF⟩ := hrel
              by_cases hlt : j < RQ.length
              · obtain ⟨x, d, bo, oo, hxL, hRx, hdat, rfl, hMb, hbl, ⟨e0, e1, e2, e3, e4, e5, e6, e7, e8⟩, _⟩ := hE.row.get (i := j) hlt
                have HT : Hid (TakeTo 4 F 2 true (some x) (upd F (pr 4 + 2) (RQ.drop (j + 1)))) := ord_take (by rw [HF.out]; exact drop_at hxL)
                have HF' : Hid (upd F (pr 4 + 2) (RQ.drop (j + 1)) (pr 4 + 2) = RQ.drop (j + 1)) := upd_same _ _ _
                obtain ⟨ad, nd, cd, rfl, _, _, _⟩ := id hdat
                have hcp := hE.row.row.le
                have hmx := hE.row.row.max
                unfold maxLen at hmx
                have hj63 : (j : Int) < (RQ.length : Int) := by omega
                clear hxL hRx HF
                generalize upd F (pr 4 + 2) (RQ.drop (j + 1)) = F' at *
                go_wp2_with (first
                  | (go_at_call 16; refine (request_on (hE.open x (.slice ad nd cd)) 2 HT.out).mono ?_; rintro e w4 ⟨⟨a4, n4, c4, rfl, hs4, _, _⟩, ho4, hk4⟩; simp only [Option.getD_some, Option.isSome_some] at hs4 ⊢; have hE4 := (hE.below (by exact ba (Below.refl _ _))).step ho4 hk4; obtain ⟨a6, n6, c6, hd6, hs6, _, _⟩ := (hdat.below (by exact ba (Below.refl _ _))).keep hk4 (fun k e => e.elim); cases hd6; obtain ⟨q0, q1, q2, q3, q4, q5, q6, q7, q8, qf, ql⟩ := (Bx.made wr x (.slice ad nd cd)).keep hk4 (fun h => h (.inl rfl)); clear ho4 hk4)
                  | (go_at_call 18; refine (refSame_any x x ad a4 nd n4 cd c4 _ (hs6.below (by exact ba (Below.refl _ _))) (hs4.below (by exact ba (Below.refl _ _)))).mono ?_; rintro e w5 ⟨rfl, hb5⟩; rw [sameP_self]))
                go_roundw
                case rel => exact ⟨j + 1, F', by omega, by go_num, (hE4.below (by exact ba (Below.refl _ _))).below hb5, HF'⟩
                case measure => simp [intOf]; omega
              · obtain rfl : j = RQ.length := by omega
                go_wp2_with fail
                go_meet
                case rel => exact ⟨F, hE.on, HF.out.trans (by simp)⟩
          case rest =>
            obtain ⟨F, hO, HF⟩ := hcut
            have HT : Hid (TakeTo 4 F 2 true none F) := ord_none HF.out
            clear hD hq HF
            go_wp2_with (first
              | (go_at_call 16; refine (request_on hO 2 HT.out).mono ?_; rintro e w4 ⟨⟨a4, n4, c4, rfl, hs4, _, _⟩, ho4, hk4⟩; simp only [Option.getD_none, Option.isSome_none] at hs4 ⊢)
              | (go_at_call 19; refine (fwakes_any _).mono ?_; rintro e w5 ⟨rfl, hb5⟩))
            go_ret
            exact ⟨rfl, next ho4.bel (next (ba (Below.refl _ _)) hb5)⟩
end Go.Proofs.Ytjdbjmfkheffdaa
