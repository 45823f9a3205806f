/- The walk of PoolTurns: it answers true and writes nothing that was there. No condition but that the arguments are ones that can come in. -/
import Derived.Test.YtafbcnchgnmjbaaPooZ
namespace Go.Proofs.Ytafbcnchgnmjbaa
open Go.RowKit
set_option linter.unusedVariables false

theorem pz_all (w wr : World) {g : Nat} {Q : Int} {L : List Pk} {z : List Int} {v : Value} (h : PZ w wr g Q L z v) (c : Nat) (hL : L.length = c) (hc : c ≤ 1000) :
    Calls Try.prog 18 #[.pointer (some ⟨g, 0, none⟩)] wr fun e w' => ∃ M D R a cap, e = .returned (.slice a c cap) ∧ PRow w' M D L R a c cap ∧ Below wr.heap.size wr w' := by
  subst hL
  obtain ⟨M, D, hq⟩ := h.qu
  refine (P.all_any wr hq (by omega)).mono ?_
  rintro e w' ⟨v, rfl, hn, hb⟩
  obtain ⟨M2, D2, R, a, cap, rfl, hp, _⟩ := hn
  exact ⟨M2, D2, R, a, cap, rfl, hp, hb⟩
set_option maxHeartbeats 600000 in
set_option maxRecDepth 20000 in
theorem poolTurns_walk (room0 : Int) (ap : Option Addr) (np cp : Nat) (pl : List Int) (w : World) (hsl : Sl w ap np cp pl) :
    Calls Try.prog 6 #[.int .i64 room0, .slice ap np cp] w fun e w' => e = .returned (.bool true) ∧ Below w.heap.size w w' := by
  obtain ⟨q, hn, hq6⟩ : ∃ q : Nat, room0 % 6 = (q : Int) ∧ q < 6 := ⟨(room0 % 6).toNat, by omega, by omega⟩
  have hmp := hsl.max
  have hlp := hsl.le
  unfold maxLen at hmp
  obtain ⟨i0, hi0, hp0, hp1, hp2⟩ := info_parts Try.infoInt
  go_enter Try.func6, Try.ntmps6
  go_upto_region 2 with (go_at_call 7; refine (within_any _ _ _ (by omega) (by omega)).mono ?_; rintro e wx ⟨rfl, rfl⟩; rw [hn])
  rw [show (1 + (q : Int)) = ((q + 1 : Nat) : Int) from by omega]
  clear hn
  generalize hr : q + 1 = r at *
  have hr7 : r < 7 := by omega
  have hr1 : 1 ≤ r := by omega
  clear hr hq6
  go_wp2_with (go_at_call 8; refine (P.new_any (r : Int) _).mono ?_; rintro e w1 ⟨rfl, hb1, hq1⟩; have pz0 := pz_new (Q := (r : Int)) hb1 hq1 (Int.max_eq_left (by omega)))
  clear hb1 hq1
  generalize hg : w.heap.size = g at *
  go_loopw [6, 7, 8] (fun vz vx vi wr => ∃ (i : Nat) (X : Int) (z : List Int), vi = .int .i64 (i : Int) ∧ vx = .int .i64 X ∧ i ≤ 30 ∧ 0 ≤ X ∧ X ≤ 8 * i ∧ z.length ≤ r ∧ PZ w wr g r (z.map idPk) z vz) (fun _ _ vi _ => 30 - (intOf vi).toNat)
  case atStart => exact ⟨0, 0, [], rfl, rfl, by omega, by omega, by omega, by simp, pz0⟩
  case round =>
    clear pz0
    obtain ⟨i, X, z, rfl, rfl, hi, hX0, hX1, hzr, hpz⟩ := hrel
    have hB := hpz.wb
    obtain ⟨m, hm⟩ : ∃ m, z.length = m := ⟨_, rfl⟩
    rw [hm] at hzr
    have HM : Hid (z.length = m) := hm
    obtain ⟨az, cz, rfl, hsz⟩ := hpz.slice hm
    clear hm
    have hmz := hsz.max
    have hlz := hsz.le
    unfold maxLen at hmz
    by_cases hin : (i : Int) < (np : Int) ∧ (i : Int) < 30
    · obtain ⟨h1, h2⟩ := hin
      have h1' : decide ((i : Int) < (np : Int)) = true := decide_eq_true h1
      go_wp2
      go_loopw [6, 7] (fun vz vx wx => ∃ (X' : Int) (z' : List Int), vx = .int .i64 X' ∧ m ≤ z'.length ∧ z'.length ≤ r ∧ X' = X + z'.length - m ∧ PZ w wx g r (z'.map idPk) z' vz) (fun _ vx _ => (X + 10 - intOf vx).toNat)
      case atStart => exact ⟨X, z, rfl, by rw [HM.out]; omega, by rw [HM.out]; omega, by rw [HM.out]; omega, hpz⟩
      case round =>
        clear hpz hsz hB hmz hlz
        obtain ⟨X', z', rfl, hmz', hzr', hX', hpz⟩ := hrel
        have hB := hpz.wb
        obtain ⟨m', hm'⟩ : ∃ m', z'.length = m' := ⟨_, rfl⟩
        rw [hm'] at hzr' hmz' hX'
        have HM' : Hid (z'.length = m') := hm'
        obtain ⟨az', cz', rfl, hsz⟩ := hpz.slice hm'
        clear hm' HM
        have hmz := hsz.max
        have hlz := hsz.le
        unfold maxLen at hmz
        have HX' : Hid (X' = X + m' - m) := hX'
        have x0 : 0 ≤ X' := by omega
        have x1 : X' ≤ 300 := by omega
        clear hX'
        by_cases hlt : (m' : Int) < (r : Int)
        · clear hsz
          go_wp2_with (first
            | (go_at_call 9; refine (pz_put w _ hpz (idPk X') rfl (by omega) (by omega) (by rw [List.length_map, HM'.out]; omega)).mono ?_; rintro e w2 ⟨rfl, hp2z⟩; obtain ⟨hl2, M, D, S, hq2, hr2, hlo2, hs2, hb2⟩ := hp2z.open)
            | (at_builtin; refine wpList_append_rw _ S (by kernel_rfl) _ _ 22 rfl 3 i0 (.int .i64 0) 1 8 Try.underlying22 hi0 hp0 hp1 hp2 rfl (by decide) az' m' cz' (cells z') rfl (hr2.below (ba (Below.refl _ _))) ⟨w2.heap.size, 0, none⟩ 1 1 (cells [X']) rfl (by omega) rfl (cell_i1 _ _) (cells_one _) (by unfold maxLen; omega) (by omega) ?_; intro a3 c3 w3 hrw3 hk3))
          go_roundw
          case rel =>
            have hb3 : Below w2.heap.size w2 (w2.alloc (.cells #[.int .i64 X'] 3)) := ba (Below.refl _ _)
            have := pz_snoc (w := w) (g := g) (X := X') hl2 (hq2.below hb3) (fun k h => ⟨(hlo2 k h).1, Nat.lt_of_lt_of_le (hlo2 k h).2 hb3.size⟩) hs2 (next hb2 hb3) hrw3 hk3
            refine ⟨X' + 1, z' ++ [X'], rfl, by simp [HM'.out]; omega, by simp [HM'.out]; omega, by have := HX'.out; simp [HM'.out]; omega, ?_⟩
            rw [List.map_append]
            exact this
          case measure => have := HX'.out; simp [intOf]; omega
        · have hlt' : (r : Int) ≤ (m' : Int) := by omega
          obtain rfl : m' = r := by omega
          clear hlt hlt'
          obtain ⟨bp, op, rfl, hbp, hcp⟩ := hsl.at (k := i) (by omega)
          rw [← hB.cell (p := ⟨bp, op + i, none⟩) hbp] at hcp
          have hbp' : bp < wr.heap.size := Nat.lt_of_lt_of_le hbp hB.size
          generalize pl[i]?.getD 0 = pv at *
          obtain ⟨k, hk⟩ : ∃ k : Nat, pv % (m' : Int) = (k : Int) := ⟨(pv % (m' : Int)).toNat, by have := Int.emod_nonneg pv (show (m' : Int) ≠ 0 by omega); omega⟩
          have hkI : (k : Int) < (m' : Int) := by rw [← hk]; exact Int.emod_lt_of_pos _ (by omega)
          have HK : Hid (pv % (m' : Int) = (k : Int)) := hk
          clear hk
          have hk : k < m' := by omega
          obtain ⟨bz, oz, rfl, hbz, hcz⟩ := hsz.at hk
          have hx := idPk_get (z := z') (k := k) (by rw [HM'.out]; exact hk)
          have HX : Hid ((z'.map idPk)[k]? = some (idPk (z'[k]?.getD 0))) := hx
          clear hx
          generalize hXe : z'[k]?.getD 0 = X2 at *
          have HXE : Hid (z'[k]?.getD 0 = X2) := hXe
          clear hXe
          go_upto_region 17 with (first
            | (go_at_call 7; refine (within_any _ _ _ (by omega) (by omega)).mono ?_; rintro e wx ⟨rfl, rfl⟩; rw [HK.out])
            | (go_at_call 11; refine (pz_remove w _ _ hpz (Below.refl _ _) k (idPk X2) HX.out (k : Int) rfl).mono ?_; rintro e w3 ⟨a3, n3, c3, rfl, hp3, hk3⟩; unfold idPk Pk.val))
          have bxq := Bx.made w3 (idPk X2) (.slice a3 n3 c3)
          simp only [idPk] at bxq
          replace hp3 := hp3.below (ba (o := .cells #[.int .i64 0, .int .i64 0, .int .i64 0, .int .i64 X2, .int .i64 0, .int .i64 0, .int .i64 0, .bool false, .slice a3 n3 c3] 29) (Below.refl _ _))
          clear hk3 hpz hsz hcz hbz hB hcp hbp'
          generalize w3.alloc (.cells #[.int .i64 0, .int .i64 0, .int .i64 0, .int .i64 X2, .int .i64 0, .int .i64 0, .int .i64 0, .bool false, .slice a3 n3 c3] 29) = w4 at *
          generalize w3.heap.size = bq at *
          have e2 := bxq.c3
          have e2l := bxq.lt
          simp only at e2
          clear bxq
          obtain ⟨a4, c4, e4, hsz4⟩ := hp3.slice HM'.out
          injection e4 with e5 e6 e7
          subst e5 e7
          obtain ⟨bz', oz', e8, hbz, hcz⟩ := hsz4.at hk
          obtain ⟨rfl, rfl⟩ : bz = bz' ∧ oz = oz' := by simpa using e8
          rw [HXE.out] at hcz
          obtain ⟨M4, D4, hq4⟩ := hp3.qu
          have hL4 : Hid ((m' : Int) - (((z'.map idPk).eraseIdx k).length : Int) = 1) := by show _ = _; rw [List.length_eraseIdx_of_lt (by rw [List.length_map, HM'.out]; exact hk), List.length_map, HM'.out]; omega
          go_quiet ((go_at_call 13; exact Calls.quiet_of (P.room_n _ (hq4.below (below_dn _ _)) (by omega) (by omega) 1 hL4.out)))
          go_wp2_with fail
          clear e2 e2l hbz hcz hq4 hL4
          replace hp3 := hp3.below (below_dn _ nq)
          replace hsz4 := hsz4.below (below_dn _ nq)
          generalize w4.drewN nq = w5 at *
          refine wp_region_orders 10 rfl (by kernel_rfl) ?_
          replace hp3 := hp3.below ((Below.refl _ _).drew)
          replace hsz4 := hsz4.below ((Below.refl _ _).drew)
          generalize w5.drew = w6 at *
          have hs6 := cells_slv hsz4
          obtain ⟨A, hA⟩ : ∃ A : Addr, (if cz' = k + 1 then some (⟨bz, oz, none⟩ : Addr) else some ⟨bz, oz + (k + 1), none⟩) = some A := by split <;> exact ⟨_, rfl⟩
          have hcz1 : m' ≤ cz' := hsz4.le
          have hcz2 := hsz4.max
          unfold maxLen at hcz2
          have hkc : k ≤ cz' := by omega
          have hkc1 : k + 1 ≤ cz' := by omega
          have hkI1 : 0 ≤ (k : Int) + 1 ∧ (k : Int) + 1 ≤ (m' : Int) := by omega
          have hwr : IntKind.i64.wrap ((k : Int) + 1) = (k : Int) + 1 := (IntWalk.i64_left _).trans (IntWalk.wrap64_in _ (by omega))
          refine any_take 0 (.slice (some ⟨bz, oz, none⟩) m' cz') rfl (by kernel_rfl) (by kernel_rfl) (by kernel_rfl) (fun _ _ _ h => h) (by kernel_rfl) (fun w => by go_simp) ?_
          simp only [Act.put, List.setIfInBounds_toArray, List.set_cons_zero, List.set_cons_succ]
          refine any_take 1 (.int .i64 (k : Int)) rfl (by kernel_rfl) (by kernel_rfl) (by kernel_rfl) (fun _ _ _ h => h) (by kernel_rfl) (fun w => by go_simp) ?_
          simp only [Act.put, List.setIfInBounds_toArray, List.set_cons_zero, List.set_cons_succ]
          refine any_take 2 (.slice (some ⟨bz, oz, none⟩) k cz') rfl (by kernel_rfl) (by kernel_rfl) (by kernel_rfl) (fun _ _ _ h => h) (by kernel_rfl) (fun w => by go_simp) ?_
          simp only [Act.put, List.setIfInBounds_toArray, List.set_cons_zero, List.set_cons_succ]
          refine any_take 4 (.slice (some ⟨bz, oz, none⟩) m' cz') rfl (by kernel_rfl) (by kernel_rfl) (by kernel_rfl) (fun _ _ _ h => h) (by kernel_rfl) (fun w => by go_simp) ?_
          simp only [Act.put, List.setIfInBounds_toArray, List.set_cons_zero, List.set_cons_succ]
          refine any_take 5 (.int .i64 (k : Int)) rfl (by kernel_rfl) (by kernel_rfl) (by kernel_rfl) (fun _ _ _ h => h) (by kernel_rfl) (fun w => by go_simp) ?_
          simp only [Act.put, List.setIfInBounds_toArray, List.set_cons_zero, List.set_cons_succ]
          refine any_take 6 (.int .i64 ((k : Int) + 1)) rfl (by kernel_rfl) (by kernel_rfl) (by kernel_rfl) (fun _ _ _ h => h) (by kernel_rfl) (fun w => by go_simp) ?_
          simp only [Act.put, List.setIfInBounds_toArray, List.set_cons_zero, List.set_cons_succ]
          refine any_take 7 (.slice (some A) (m' - (k + 1)) (cz' - (k + 1))) rfl (by kernel_rfl) (by kernel_rfl) (by kernel_rfl) (fun _ _ _ h => h) (by kernel_rfl) (fun w => by go_simp) ?_
          simp only [Act.put, List.setIfInBounds_toArray, List.set_cons_zero, List.set_cons_succ]
          refine any_list 3 (by kernel_rfl) rfl ?_
          refine wpList_append_slv w6 (fun _ => False) (by kernel_rfl) (.const (.slice none 0 0)) (.tmp 76) 22 rfl 3 i0 (.int .i64 0) 1 8 Try.underlying22 hi0 hp0 hp1 hp2 rfl (by decide) none 0 0 [] rfl (rw_nil _ _ _) (some ⟨bz, oz, none⟩) k cz' ((cells z').take (k * 1)) rfl (hs6.front (by omega)) (fun u hu => cells_one z' u (List.mem_of_mem_take hu)) (by unfold maxLen; omega) (by omega) ?_
          intro a7 c7 w7 hrw7 hk7
          have hb7 : Below w6.heap.size w6 w7 := hk7.below (fun _ h => h.elim) (Nat.le_refl _)
          refine then_n ?_
          simp only [Act.put, List.setIfInBounds_toArray, List.set_cons_zero, List.set_cons_succ]
          refine any_list 8 (by kernel_rfl) rfl ?_
          refine wpList_append_slv w7 (fun k => False ∨ w6.heap.size ≤ k) (by kernel_rfl) (.tmp 77) (.tmp 81) 22 rfl 3 i0 (.int .i64 0) 1 8 Try.underlying22 hi0 hp0 hp1 hp2 rfl (by decide) a7 (0 + k) c7 ([] ++ (cells z').take (k * 1)) rfl hrw7 (some A) (m' - (k + 1)) (cz' - (k + 1)) ((cells z').drop ((k + 1) * 1)) rfl ((hs6.below hb7).rear (by omega) (by rw [Nat.mul_one]; exact hA)) (fun u hu => cells_one z' u (List.mem_of_mem_drop hu)) (by unfold maxLen; omega) (by omega) ?_
          intro a8 c8 w8 hrw8 hk8
          have em : 0 + k + (m' - (k + 1)) = m' - 1 := by omega
          rw [em] at hrw8
          rw [em]
          refine then_n ?_
          simp only [Act.put, List.setIfInBounds_toArray, List.set_cons_zero, List.set_cons_succ]
          refine any_take 9 (.slice a8 (m' - 1) c8) rfl (by kernel_rfl) (by kernel_rfl) (by kernel_rfl) (fun _ _ _ h => h) (by kernel_rfl) (fun w => by go_simp) ?_
          simp only [Act.put, List.setIfInBounds_toArray, List.set_cons_zero, List.set_cons_succ]
          refine any_done (by kernel_rfl) ?_
          have hb8 : Below w6.heap.size w6 w8 := hb7.trans (hk8.below (fun k h => h.elim (fun h => h.elim) id) hb7.size)
          have pz8 := pz_other (z' := z'.eraseIdx k) hp3 hb8 (by rw [List.length_eraseIdx_of_lt (by rw [HM'.out]; exact hk), HM'.out]) (by
            rw [List.nil_append, cells_erase] at hrw8
            exact hrw8.imp (fun j _ h => by rcases h with (h | h) | h; exact h.elim; exact h; exact Nat.le_trans hb7.size h))
          clear hrw7 hrw8 hk7 hk8 hb7 hb8 hs6 hsz4 hp3 hA hcz1 hcz2 hkc hkc1 hkI1 em hwr
          rw [← map_eraseIdx'] at pz8
          go_wp2
          go_roundw
          case rel =>
            refine ⟨i + 1, X', z'.eraseIdx k, by go_num, rfl, by omega, x0, by have := HX'.out; omega, ?_, pz8⟩
            rw [List.length_eraseIdx_of_lt (by rw [HM'.out]; exact hk), HM'.out]
            omega
          case measure => simp [intOf]; omega
    · go_upto_region 20 with fail
      all_goals
        go_wp2_with (go_at_call 18; refine (pz_all w _ hpz m (by rw [List.length_map, HM.out]) (by omega)).mono ?_; rintro e w2 ⟨M2, D2, R2, a2, cap2, rfl, hpr, hb2⟩)
        have hmx := hpr.row.max
        have hle := hpr.row.le
        unfold maxLen at hmx
        have hs2 := hsz.below hb2
        have hB2 := next hB hb2
        clear hpz hB hb2 hsz hin
        go_loopw [92] (fun vi wx => ∃ j : Nat, vi = .int .i64 (j : Int) ∧ j ≤ m ∧ Below w2.heap.size w2 wx) (fun vi _ => m - (intOf vi).toNat)
        case atStart => exact ⟨0, rfl, by omega, Below.refl _ _⟩
        case round =>
          obtain ⟨j, rfl, hj, hbx⟩ := hrel
          by_cases hjm : (j : Int) < (m : Int)
          · have hjm' : j < m := by omega
            obtain ⟨bz, oz, rfl, hbz, hcz⟩ := (hs2.below hbx).at hjm'
            obtain ⟨x, d, b, o, hx, _, _, rfl, _, hb, ⟨_, _, _, e3, _⟩, _⟩ := (hpr.below hbx).get hjm'
            have hxi : x.i = z[j]?.getD 0 := by
              rw [idPk_get (by rw [HM.out]; exact hjm')] at hx
              obtain rfl := Option.some.inj hx
              rfl
            rw [hxi] at e3
            clear hxi hx
            generalize z[j]?.getD 0 = X2 at *
            go_wp2_with fail
            go_quiet (fail)
            go_wp2
            go_roundw
            case rel => exact ⟨j + 1, by go_num, by omega, next hbx (below_dn _ _)⟩
            case measure => simp [intOf]; omega
          · have hjm' : (m : Int) ≤ (j : Int) := by omega
            go_wp2_with (go_at_call 14; refine (wakes_any _).mono ?_; rintro e w3 ⟨rfl, hb3⟩)
            go_ret
            exact ⟨rfl, next hB2 (next hbx hb3)⟩
end Go.Proofs.Ytafbcnchgnmjbaa
