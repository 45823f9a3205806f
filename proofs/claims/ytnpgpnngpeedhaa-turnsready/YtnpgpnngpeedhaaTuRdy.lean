/- The walk of TurnsReady: it answers true and writes nothing that was there. No condition but that the argument is one that can come in. -/
import Derived.Test.YtnpgpnngpeedhaaTuR0
import Derived.Test.YtnpgpnngpeedhaaIntsSame
namespace Go.Proofs.Ytnpgpnngpeedhaa
open Go.RowKit Go.Maps
set_option linter.unusedVariables false
set_option maxRecDepth 20000

theorem sl_tail1 {w : World} {b o q : Nat} {x : Int} {r : List Int} (h : Sl w (some ⟨b, o, none⟩) q 1 (x :: r)) : r = [] ∧ Sl w (some ⟨b, o, none⟩) (q - 1) 0 r := by
  have h1 := h.len
  have h2 := h.le
  simp at h1
  obtain rfl : r = [] := List.eq_nil_of_length_eq_zero (by omega)
  exact ⟨rfl, by simp; omega, by omega, Nat.zero_le _, fun h => (by cases h), .inl rfl⟩
theorem sl_tail2 {w : World} {b o q cap : Nat} {x : Int} {r : List Int} (h : Sl w (some ⟨b, o, none⟩) q cap (x :: r)) : Sl w (some ⟨b, o + 1, none⟩) (q - 1) (cap - 1) r := by
  have h1 := h.len
  have h2 := h.le
  have h3 := h.max
  simp at h1
  refine ⟨by omega, by omega, by omega, fun h => (by cases h), ?_⟩
  rcases h.row with h0 | ⟨b', o', e, hc⟩
  · cases h0
  · simp at e
    obtain ⟨rfl, rfl⟩ := e
    refine .inr ⟨_, _, rfl, fun i hi => ?_⟩
    have := hc (i + 1) (by simp; omega)
    rw [Nat.add_assoc, Nat.add_comm 1 i]
    simpa using this
def lenV : Value → Nat
  | .slice _ n _ => n
  | _ => 0
set_option maxHeartbeats 800000 in
theorem turnsReady_walk (ai : Option Addr) (ni ci : Nat) (zi : List Int) (w : World) (hsl : Sl w ai ni ci zi) :
    Calls Try.prog 3 #[.slice ai ni ci] w fun e w' => e = .returned (.bool true) ∧ Below w.heap.size w w' := by
  have hmp := hsl.max
  have hlp := hsl.le
  unfold maxLen at hmp
  have hmm := @run_makeMap Try.prog
  go_enter Try.func3, Try.ntmps3
  go_upto_block 0 with (go_at_call 7; refine (to_new (X := fun _ => False) (Below.refl _ w) (fun j hj => hj.elim)).mono ?_; rintro e w1 ⟨g, rfl, b1, T1⟩)
  have b2 : Below w1.heap.size w1 (w1.alloc (.map #[] 0)) := ba (Below.refl _ _)
  have im2 := im_made w1
  have T2 := T1.grow (Y := fun j => j = w1.heap.size) b2 (fun j hj => by rw [hj]; exact ⟨.inr (Nat.le_refl _), by simp⟩)
  have HGN : Hid (w.heap.size ≤ w1.heap.size) := T1.bel.size
  clear T1 b1 b2 hmm
  generalize w1.heap.size = bn at *
  generalize w1.alloc (.map #[] 0) = w2 at *
  clear w1
  go_cut [] (fun wx => ∃ (n : Nat) (own : Int → Int) (wt : Int → List (Int × Int)) (C : List (Int × Value)), RQ n own wt C ∧ n ≤ 20 ∧ TO w wx g (fun j => j = bn) n own wt ∧ IM wx bn C)
  case first =>
    go_wp2_with fail
    go_loopw [5] (fun vi wr => ∃ (i : Nat) (own : Int → Int) (wt : Int → List (Int × Int)) (C : List (Int × Value)), vi = .int .i64 (i : Int) ∧ i ≤ 20 ∧ RQ i own wt C ∧ TO w wr g (fun j => j = bn) i own wt ∧ IM wr bn C) (fun vi _ => 20 - (intOf vi).toNat)
    case atStart => exact ⟨0, _, _, [], rfl, by omega, rq_first, T2, im2⟩
    case round =>
      clear T2 im2
      clear w2
      obtain ⟨i, own, wt, C, rfl, hi, Q, T, im⟩ := hrel
      by_cases h1 : (i : Int) < (ni : Int)
      · have h1' : decide ((i : Int) < (ni : Int)) = true := decide_eq_true h1
        by_cases h2 : (i : Int) < 20
        · obtain ⟨b, o, rfl, hb, hc⟩ := hsl.at (k := i) (by omega)
          rw [← T.bel.cell (p := ⟨b, o + i, none⟩) hb] at hc
          have hb' : b < wr.heap.size := Nat.lt_of_lt_of_le hb T.bel.size
          generalize zi[i]?.getD 0 = x at *
          obtain ⟨L, hL, hL0, hL1⟩ : ∃ L, x % 6 = L ∧ 0 ≤ L ∧ L < 6 := ⟨_, rfl, by omega, by omega⟩
          have HL : Hid (x % 6 = L) := hL
          have HIL : Hid (In64 L) := ⟨by omega, by omega⟩
          have HL0 : Hid (0 ≤ L ∧ L < 6) := ⟨hL0, hL1⟩
          have hq := Q.q L
          have HCL : Hid (C.length < maxLen) := by have := Q.len; unfold maxLen; show _ < _; omega
          have hcb : 0 ≤ cntT own wt L ∧ cntT own wt L ≤ 21 := by unfold cntT; have := Q.l L; split <;> omega
          obtain ⟨c, hc0⟩ : ∃ c, cntT own wt L = c := ⟨_, rfl⟩
          have HC0 : Hid (cntT own wt L = c) := hc0
          rw [hc0] at hq hcb
          have HQ0 : Hid (atI L (.int .i64 0) C = .int .i64 c) := hq
          obtain ⟨c1, hc1⟩ : ∃ c1, c + 1 = c1 := ⟨_, rfl⟩
          have HC1 : Hid (c + 1 = c1) := hc1
          have hw1 : wrap64 (c + 1) = c1 := by rw [← hc1]; exact IntWalk.wrap64_in _ (by omega)
          clear hL hq hc0 hcb hL0 hL1 hc1
          by_cases ho : own L = -1
          · have HO : Hid (own L = -1) := ho
            have HE : Hid (wt L = []) := Q.e L ho
            clear ho
            go_wp2_with (first
              | (go_at_call 8; refine (within_any _ _ _ (by omega) (by omega)).mono ?_; rintro e wx ⟨rfl, rfl⟩; rw [HL.out])
              | (go_at_call 9; refine (to_ask_own T _ HIL.out HL0.out.1 (by omega) HO.out HE.out (by omega)).mono ?_; rintro e w3 ⟨rfl, k3, T3⟩; have im3 := im.keep k3 (fun h => h.2 rfl); have hlk := im3.look Try.underlying25 (Try.zeroValue3 _) HIL.out; rw [HQ0.out] at hlk; obtain ⟨w4, hrun4, im4, ht4⟩ := im3.store Try.underlying25 HCL.out HIL.out (.int .i64 c1)))
            have T4 := T3.write (turned_keep ht4) (fun j hj => ⟨by have := HGN.out; omega, .inl hj⟩)
            have ec : cntT own wt L = 0 := by unfold cntT; rw [if_pos HO.out]
            obtain rfl : c1 = 1 := by have := HC0.out; have := HC1.out; omega
            have Q4 := Q.own_step HL0.out.1 HL0.out.2 (who := (i : Int) % 4) (by omega) HO.out
            clear hrun4 hlk
            go_roundw
            case rel => exact ⟨i + 1, _, _, _, by go_num, by omega, Q4, T4, im4⟩
            case measure => simp [intOf]; omega
          · have HO : Hid (own L ≠ -1) := ho
            clear ho
            go_wp2_with (first
              | (go_at_call 8; refine (within_any _ _ _ (by omega) (by omega)).mono ?_; rintro e wx ⟨rfl, rfl⟩; rw [HL.out])
              | (go_at_call 9; refine (to_ask_wait T _ HIL.out HL0.out.1 (by omega) (.inl HO.out) (by omega)).mono ?_; rintro e w3 ⟨rfl, k3, T3⟩; have im3 := im.keep k3 (fun h => h.2 rfl); have hlk := im3.look Try.underlying25 (Try.zeroValue3 _) HIL.out; rw [HQ0.out] at hlk; obtain ⟨w4, hrun4, im4, ht4⟩ := im3.store Try.underlying25 HCL.out HIL.out (.int .i64 c1)))
            have T4 := T3.write (turned_keep ht4) (fun j hj => ⟨by have := HGN.out; omega, .inl hj⟩)
            have Q4 := Q.wait_step (((i : Int) % 4), (i : Int)) HL0.out.1 HL0.out.2 HO.out
            rw [HC0.out, HC1.out] at Q4
            clear hrun4 hlk
            go_roundw
            case rel => exact ⟨i + 1, _, _, _, by go_num, by omega, Q4, T4, im4⟩
            case measure => simp [intOf]; omega
        · go_wp2_with fail
          go_meet
          case rel => exact ⟨i, _, _, _, Q, hi, T, im⟩
      · go_wp2_with fail
        go_meet
        case rel => exact ⟨i, _, _, _, Q, hi, T, im⟩
  case rest => as_aux_lemma =>
    clear T2 im2
    clear w2
    obtain ⟨n, own, wt, C, Q, hn, T, im⟩ := hcut
    go_upto_block 2 with (go_at_call 10; refine (to_ready T (by omega)).mono ?_; rintro e w3 ⟨v3, l3, rfl, o3, b3, _, hm3⟩; obtain rfl := Q.none hm3; obtain ⟨a3, c3, rfl, _⟩ := o3.sl; simp only [List.length_nil])
    replace T := T.below b3
    replace im := im.below b3
    clear o3 hm3 b3
    clear wc
    generalize hw3 : w3 = wy at *
    clear hw3
    clear w3
    go_cut [] (fun wx => TO w wx g (fun j => j = bn) n (fun _ => -1) wt ∧ IM wx bn C)
    case first => as_aux_lemma =>
      go_wp2_with fail
      go_loopw [7] (fun vi wr => ∃ (i : Nat), vi = .int .i64 (i : Int) ∧ i ≤ 6 ∧ TO w wr g (fun j => j = bn) n (relI own i) wt ∧ IM wr bn C) (fun vi _ => 6 - (intOf vi).toNat)
      case atStart => exact ⟨0, rfl, by omega, by rw [relI_zero]; exact T, im⟩
      case round =>
        clear T im
        obtain ⟨i, rfl, hi, T, im⟩ := hrel
        by_cases h1 : (i : Int) < 6
        · have HIL : Hid (In64 (i : Int)) := ⟨by omega, by omega⟩
          have hlk := im.look Try.underlying25 (Try.zeroValue3 _) HIL.out
          rw [Q.q] at hlk
          have T' := T
          have hat := relI_at own i
          by_cases ho : own i = -1
          · have ec : cntT own wt i = 0 := by unfold cntT; rw [if_pos ho]
            rw [ec] at hlk
            rw [relI_same ho] at T'
            clear ho ec hat
            go_wp2_with fail
            go_roundw
            case rel => exact ⟨i + 1, by go_num, by omega, T', im⟩
            case measure => simp [intOf]; omega
          · obtain ⟨c, hc⟩ : ∃ c, cntT own wt i = c := ⟨_, rfl⟩
            have hcp : c > 0 := by rw [← hc]; unfold cntT; rw [if_neg ho]; omega
            rw [hc] at hlk
            obtain ⟨u, hu⟩ : ∃ u, own i = u := ⟨_, rfl⟩
            rw [hu] at hat
            have HAT : Hid (relI own i i = u) := hat
            have HU : Hid (u ≠ -1) := by rw [← hu]; exact ho
            clear ho hc hat hu
            go_wp2_with (first
              | (go_at_call 12; refine (to_owner T HIL.out).mono ?_; rintro e w4 ⟨rfl, rfl⟩; rw [HAT.out])
              | (go_at_call 11; refine (to_release_ok T HIL.out (by rw [HAT.out]; exact HU.out) HAT.out).mono ?_; rintro e w4 ⟨rfl, k4, T4⟩; rw [relI_upd] at T4; have im4 := im.keep k4 (fun h => h.2 rfl)))
            go_roundw
            case rel => exact ⟨i + 1, by go_num, by omega, T4, im4⟩
            case measure => simp [intOf]; omega
        · obtain rfl : i = 6 := by omega
          rw [Q.all] at T
          go_wp2_with fail
          go_meet
          case rel => exact ⟨T, im⟩
    case rest => as_aux_lemma =>
      clear T im
      obtain ⟨T, im⟩ := hcut
      skip
      go_upto_block 4 with fail
      go_cut [8] (fun v wx => ∃ (S : Nat → Prop) (a : Option Addr) (cap : Nat), v = .slice a (wantL wt 6).length cap ∧ Rw wx S a (wantL wt 6).length cap 1 (cells (wantL wt 6)) ∧ TO w wx g (fun j => j = bn ∨ S j) n (fun _ => -1) wt)
      case first => as_aux_lemma =>
        go_wp2_with fail
        obtain ⟨i0, hi0, hp0, hp1, hp2⟩ := info_parts Try.infoInt
        go_loopw [8, 9] (fun v vi wr => ∃ (i m : Nat) (S : Nat → Prop) (a : Option Addr) (cap : Nat), vi = .int .i64 (i : Int) ∧ i ≤ 6 ∧ (wantL wt i).length = m ∧ v = .slice a m cap ∧ Rw wr S a m cap 1 (cells (wantL wt i)) ∧ TO w wr g (fun j => j = bn ∨ S j) n (fun _ => -1) wt ∧ IM wr bn C ∧ ¬ S bn ∧ ∀ j, S j → w.heap.size ≤ j) (fun _ vi _ => 6 - (intOf vi).toNat)
        case atStart => exact ⟨0, 0, fun _ => False, none, 0, rfl, by omega, rfl, rfl, rw_nil _ _ _, by simpa using T, im, id, fun j hj => hj.elim⟩
        case round =>
          clear T im
          obtain ⟨i, m, S, a, cap, rfl, hi, hm, rfl, hrw, T, im, hSb, hSw⟩ := hrel
          have HM : Hid ((wantL wt i).length = m) := hm
          have hm6 : m ≤ 6 := by have := wantL_len wt i; omega
          clear hm
          by_cases h1 : (i : Int) < 6
          · have HIL : Hid (In64 (i : Int)) := ⟨by omega, by omega⟩
            have hlk := im.look Try.underlying25 (Try.zeroValue3 _) HIL.out
            rw [Q.q] at hlk
            have hsu := wantL_succ wt i
            by_cases ho : wt i ≠ []
            · rw [if_pos ho] at hsu
              have HSU : Hid (wantL wt (i + 1) = wantL wt i ++ [(i : Int)]) := hsu
              obtain ⟨c, hc⟩ : ∃ c, cntT own wt i = c := ⟨_, rfl⟩
              have hcp : c > 1 := by
                rw [← hc]
                unfold cntT
                rw [if_neg (fun e => ho (Q.e _ e))]
                have := List.length_pos_iff.2 ho
                omega
              rw [hc] at hlk
              clear ho hc hsu
              have hcapm := hrw.max
              go_wp2_with (at_builtin; refine wpList_append_rw _ S (by kernel_rfl) _ _ 22 rfl 3 i0 (.int .i64 0) 1 8 Try.underlying22 hi0 hp0 hp1 hp2 rfl (by decide) a m cap (cells (wantL wt i)) rfl (hrw.below (ba (Below.refl _ _))) ⟨wr.heap.size, 0, none⟩ 1 1 (cells [(i : Int)]) rfl (by omega) rfl (cell_i1 _ _) (cells_one _) (by unfold maxLen; omega) (by omega) ?_; intro a3 c3 w3 hrw3 hk3)
              have bA : Below wr.heap.size wr (wr.alloc (.cells #[.int .i64 (i : Int)] 3)) := ba (Below.refl _ _)
              have T3 := T.wrgrow (Y := fun j => j = bn ∨ (S j ∨ (wr.heap.size ≤ j ∧ j < w3.heap.size))) (Keep.pre bA hk3) (fun j hj => ⟨hSw j hj, .inl (.inr hj)⟩) (fun j hj => by
                have h1 := T.xl bn (.inl rfl)
                have h2 := (Keep.pre bA hk3).size
                rcases hj with hj | hj | hj
                · rw [hj]; exact ⟨.inl (.inl rfl), by omega⟩
                · have := T.xl j (.inr hj); exact ⟨.inl (.inr hj), by omega⟩
                · exact ⟨.inr hj.1, hj.2⟩)
              have im3 := im.keep (Keep.pre bA hk3) hSb
              rw [show cells (wantL wt i) ++ cells [(i : Int)] = cells (wantL wt (i + 1)) by rw [HSU.out]; simp [cells]] at hrw3
              have hrw4 := hrw3.imp (T := fun j => S j ∨ (wr.heap.size ≤ j ∧ j < w3.heap.size)) (fun j hj h => h.imp (fun h => h) (fun h => ⟨by simp at h; omega, hj⟩))
              have hbn := T.xl bn (.inl rfl)
              have hwr := T.bel.size
              go_roundw
              case rel => exact ⟨i + 1, m + 1, _, a3, c3, by go_num, by omega, by rw [HSU.out]; simp [HM.out], rfl, hrw4, T3, im3, fun h => h.elim hSb (fun h => by omega), fun j hj => hj.elim (hSw j) (fun h => by omega)⟩
              case measure => simp [intOf]; omega
            · rw [if_neg ho, List.append_nil] at hsu
              have HSU : Hid (wantL wt (i + 1) = wantL wt i) := hsu
              have HN : Hid (wt i = []) := Classical.not_not.1 ho
              obtain ⟨c, hc⟩ : ∃ c, cntT own wt i = c := ⟨_, rfl⟩
              have hcp : ¬ c > 1 := by
                rw [← hc]
                unfold cntT
                rw [HN.out]
                split <;> simp
              rw [hc] at hlk
              clear ho hc hsu
              go_wp2_with fail
              go_roundw
              case rel => exact ⟨i + 1, m, S, a, cap, by go_num, by omega, by rw [HSU.out]; exact HM.out, rfl, by rw [HSU.out]; exact hrw, T, im, hSb, hSw⟩
              case measure => simp [intOf]; omega
          · obtain rfl : i = 6 := by omega
            go_wp2_with fail
            go_meet
            case rel => exact ⟨S, a, cap, by rw [HM.out], by rw [HM.out]; exact hrw, T⟩
      case rest => as_aux_lemma =>
        clear T im
        obtain ⟨S, a, cap, rfl, hrw, T⟩ := hcut
        obtain ⟨m, hm⟩ : ∃ m, (wantL wt 6).length = m := ⟨_, rfl⟩
        have HM : Hid ((wantL wt 6).length = m) := hm
        have hm6 : m ≤ 6 := by have := wantL_len wt 6; omega
        rw [hm] at hrw ⊢
        clear hm
        have hsw := slv_cells hrw.slv
        have hwm : ∀ k, k ∈ wantL wt 6 ↔ (fun _ : Int => (-1 : Int)) k = -1 ∧ wt k ≠ [] := fun k => by
          rw [wantL_mem]
          refine ⟨fun h => ⟨rfl, h.2⟩, fun h => ⟨?_, h.2⟩⟩
          exact Q.r k (fun e => h.2 (Q.e k e))
        have HWM : Hid _ := hwm
        clear hwm
        have HBS : Hid (∀ y : Addr, a = some y → wantL wt 6 ≠ [] → (fun j => j = bn ∨ S j) y.block) := fun y hy hne => by
          rcases hrw.row with h0 | ⟨b, o, e, hs, _⟩
          · have h1 := hrw.le
            have : (wantL wt 6).length = 0 := by rw [HM.out]; omega
            exact absurd (List.eq_nil_of_length_eq_zero this) hne
          · rw [hy] at e
            rw [Option.some.inj e]
            exact .inr hs
        have hri := wantL_rise wt 6
        have h64 : ∀ k ∈ wantL wt 6, In64 k := fun k hk => by have := ((wantL_mem wt 6 k).1 hk).1; exact ⟨by omega, by omega⟩
        have HRI : Hid (RiseK id (wantL wt 6) ∧ ∀ k ∈ wantL wt 6, In64 k) := ⟨hri, h64⟩
        clear hri h64 hrw
        generalize wantL wt 6 = l0 at *
        generalize (fun j => j = bn ∨ S j) = X at *
        go_upto_block 6 with (first
          | (have mk := b3; clear mk; go_at_call 13; refine (same_any _ _ _ _ _ _ _ _ _ hs3 (hsw.below b3)).mono ?_; rintro e w4 ⟨rfl, k4, rfl⟩; rw [decide_eq_true rfl])
          | (go_at_call 10; refine (to_ready T (by omega)).mono ?_; rintro e w3 ⟨v3, l3, rfl, o3, b3, hr3, hm3⟩; obtain rfl : l3 = l0 := rise_ext hr3 HRI.out.1 (fun k => (hm3 k).trans (HWM.out k).symm); obtain ⟨a3, c3, rfl, hs3⟩ := o3.sl' HM.out))
        have b4 : Below w3.heap.size w3 (w3.drewN k4) := below_dn _ _
        have T5 := (T.below b3).below b4
        have hs5 := (hsw.below b3).below b4
        clear b4 hs3 o3 hr3 hm3 b3 hsw T
        generalize w3.drewN k4 = w5 at *
        clear w3
        go_wp2_with fail
        go_loopw [8] (fun v wr => ∃ (l : List Int) (q : Nat) (a : Option Addr) (cap n : Nat) (own : Int → Int) (wt : Int → List (Int × Int)), v = .slice a q cap ∧ Sl wr a q cap l ∧ Hid (∀ y : Addr, a = some y → l ≠ [] → X y.block) ∧ TO w wr g X n own wt ∧ n + q ≤ 40 ∧ Hid (RiseK id l ∧ ∀ k ∈ l, In64 k) ∧ Hid (∀ k, k ∈ l ↔ own k = -1 ∧ wt k ≠ [])) (fun v _ => lenV v)
        case atStart => exact ⟨_, m, a, cap, n, _, wt, rfl, hs5, HBS, T5, by omega, HRI, fun k => (HWM.out k).trans (by simp)⟩
        case round =>
          clear T5 hs5 HBS HRI HWM HM
          obtain ⟨l, q, a, cap, n, own, wt, rfl, hs, HBS, T, hnq, HRI, HWM⟩ := hrel
          cases l with
          | nil =>
            obtain rfl : q = 0 := by have := hs.len; simpa using this.symm
            go_wp2_with (go_at_call 15; refine (twakes_any _).mono ?_; rintro e w9 ⟨rfl, b9⟩)
            go_ret
            exact ⟨rfl, next T.bel b9⟩
          | cons x r =>
            have hlen := hs.len
            simp at hlen
            have hq0 : (q : Int) > 0 := by omega
            have HIX : Hid (In64 x) := HRI.out.2 x (by simp)
            obtain ⟨b, o, rfl, hb, hc⟩ := hs.at (k := 0) (by omega)
            simp only [List.getElem?_cons_zero, Option.getD_some, Nat.add_zero] at hc
            have HXB : Hid (X b) := HBS.out _ rfl (by simp)
            obtain ⟨ho1, hw1⟩ := (HWM.out x).1 (by simp)
            obtain ⟨y, t, hyt⟩ := List.exists_cons_of_ne_nil hw1
            have HO : Hid (own x = -1) := ho1
            have HY : Hid (wt x = y :: t) := hyt
            have HY0 : Hid (0 ≤ y.1) := T.wt_ge x y (by rw [hyt]; simp)
            have HRr : Hid (RiseK id r ∧ ∀ k ∈ r, In64 k) := ⟨List.Pairwise.of_cons HRI.out.1, fun k hk => HRI.out.2 k (by simp [hk])⟩
            have HXR : Hid (∀ k ∈ r, k ≠ x) := fun k hk e => by have := List.rel_of_pairwise_cons HRI.out.1 hk; simp only [id] at this; omega
            have HW2 : Hid (∀ k, k ∈ r ↔ upd own x y.1 k = -1 ∧ upd wt x t k ≠ []) := fun k => by
              unfold upd
              by_cases e : k = x
              · rw [if_pos e, if_pos e]
                exact ⟨fun h => absurd e (HXR.out k h), fun h => by have := HY0.out; omega⟩
              · rw [if_neg e, if_neg e, ← HWM.out k]
                simp [e]
            have hle := hs.le
            have hmx := hs.max
            unfold maxLen at hmx
            have hyb : (y.1 == -1) = false := by have := HY0.out; simp; omega
            have hq1 : (1 : Int) ≤ (q : Int) := by omega
            clear ho1 hw1 hyt
            go_wp2_with (first
              | (have mk := T3; clear mk; go_at_call 12; refine (to_owner T3 HIX.out).mono ?_; rintro e w4 ⟨rfl, rfl⟩; rw [upd_at])
              | (go_at_call 14; refine (to_next_ok T HIX.out HO.out HY.out (by omega)).mono ?_; rintro e w3 ⟨rfl, k3, T3⟩; have hc3 := (k3.cell o hb (fun h => h.2 HXB.out)).trans hc; have hb3 := Nat.lt_of_lt_of_le hb k3.size; have hs3 := hs.keep k3 (fun _ y hy h => h.2 (HBS.out y hy (by simp))))
              )
            · have hcap1 : cap = 1 := by assumption
              rw [hcap1] at hs3
              have hs3 := (sl_tail1 hs3).2
              have HBr : Hid (∀ y : Addr, some (⟨b, o, none⟩ : Addr) = some y → r ≠ [] → X y.block) := fun y hy _ => by
                obtain rfl := Option.some.inj hy
                exact HXB.out
              have hrl : Hid (r.length = q - 1) := by show _ = _; omega
              go_wp2_with (first
                | (have mk := b4; clear mk; go_at_call 13; refine (same_any _ _ _ _ _ _ _ _ _ hs4 (hs3.below b4)).mono ?_; rintro e w5 ⟨rfl, k5, rfl⟩; rw [decide_eq_true rfl])
                | (go_at_call 10; refine (to_ready T3 (by omega)).mono ?_; rintro e w4 ⟨v4, l4, rfl, o4, b4, hr4, hm4⟩; obtain rfl : l4 = r := rise_ext hr4 HRr.out.1 (fun k => (hm4 k).trans (HW2.out k).symm); obtain ⟨a4, c4, rfl, hs4⟩ := o4.sl' hrl.out))
              have b5 : Below w4.heap.size w4 (w4.drewN k5) := below_dn _ _
              go_roundw
              case rel => exact ⟨l4, q - 1, _, _, n + 1, _, _, rfl, (hs3.below b4).below b5, HBr, (T3.below b4).below b5, by omega, HRr, HW2⟩
              case measure => simp [lenV]; omega
            · skip
              have hs3 := sl_tail2 hs3
              have HBr : Hid (∀ y : Addr, some (⟨b, o + 1, none⟩ : Addr) = some y → r ≠ [] → X y.block) := fun y hy _ => by
                obtain rfl := Option.some.inj hy
                exact HXB.out
              have hrl : Hid (r.length = q - 1) := by show _ = _; omega
              go_wp2_with (first
                | (have mk := b4; clear mk; go_at_call 13; refine (same_any _ _ _ _ _ _ _ _ _ hs4 (hs3.below b4)).mono ?_; rintro e w5 ⟨rfl, k5, rfl⟩; rw [decide_eq_true rfl])
                | (go_at_call 10; refine (to_ready T3 (by omega)).mono ?_; rintro e w4 ⟨v4, l4, rfl, o4, b4, hr4, hm4⟩; obtain rfl : l4 = r := rise_ext hr4 HRr.out.1 (fun k => (hm4 k).trans (HW2.out k).symm); obtain ⟨a4, c4, rfl, hs4⟩ := o4.sl' hrl.out))
              have b5 : Below w4.heap.size w4 (w4.drewN k5) := below_dn _ _
              go_roundw
              case rel => exact ⟨l4, q - 1, _, _, n + 1, _, _, rfl, (hs3.below b4).below b5, HBr, (T3.below b4).below b5, by omega, HRr, HW2⟩
              case measure => simp [lenV]; omega
end Go.Proofs.Ytnpgpnngpeedhaa
