/- The walk of PoolAny: it answers true and writes nothing that was there. No condition but that the arguments are ones that can come in. -/
import Derived.Test.YtafbcnchgnmjbaaPooZ
namespace Go.Proofs.Ytafbcnchgnmjbaa
open Go.RowKit
set_option linter.unusedVariables false

/-- The numbers from 0 on. -/
def iz (n : Nat) : List Int := (List.range n).map fun j : Nat => (j : Int)
theorem iz_len (n : Nat) : (iz n).length = n := by simp [iz]
theorem iz_snoc (n : Nat) : iz (n + 1) = iz n ++ [(n : Int)] := by simp [iz, List.range_succ]
set_option maxHeartbeats 600000 in
set_option maxRecDepth 20000 in
theorem poolAny_walk (n0 : Int) (ap : Option Addr) (np cp : Nat) (pl : List Int) (w : World) (hsl : Sl w ap np cp pl) :
    Calls Try.prog 3 #[.int .i64 n0, .slice ap np cp] w fun e w' => e = .returned (.bool true) ∧ Below w.heap.size w w' := by
  obtain ⟨n, hn, hn9⟩ : ∃ n : Nat, n0 % 9 = (n : Int) ∧ n < 9 := ⟨(n0 % 9).toNat, by omega, by omega⟩
  have hmp := hsl.max
  have hlp := hsl.le
  unfold maxLen at hmp
  obtain ⟨i0, hi0, hp0, hp1, hp2⟩ := info_parts Try.infoInt
  go_enter Try.func3, Try.ntmps3
  go_wp2_with (first
    | (go_at_call 7; refine (within_any _ _ _ (by omega) (by omega)).mono ?_; rintro e wx ⟨rfl, rfl⟩; rw [hn])
    | (go_at_call 8; refine (P.new_any (n : Int) _).mono ?_; rintro e w1 ⟨rfl, hb1, hq1⟩; have pz0 := pz_new (Q := (n : Int)) hb1 hq1 (Int.max_eq_left (by omega))))
  clear hb1 hq1 hn
  generalize hg : w.heap.size = g at *
  go_loopw [6, 7] (fun vz vi wr => ∃ i : Nat, vi = .int .i64 (i : Int) ∧ i ≤ n ∧ PZ w wr g n ((iz i).map idPk) (iz i) vz) (fun _ vi _ => n - (intOf vi).toNat)
  case atStart => exact ⟨0, rfl, by omega, pz0⟩
  case round =>
    clear pz0
    obtain ⟨i, rfl, hi, hpz⟩ := hrel
    obtain ⟨az, cz, rfl, hsz⟩ := hpz.slice (iz_len i)
    by_cases hlt : (i : Int) < (n : Int)
    · clear hsz
      go_wp2_with (first
        | (go_at_call 9; refine (pz_put w _ hpz (idPk i) rfl (by omega) (by omega) (by simp [iz_len]; omega)).mono ?_; rintro e w2 ⟨rfl, hp2z⟩; obtain ⟨hl2, M, D, S, hq2, hr2, hlo2, hs2, hb2⟩ := hp2z.open)
        | (at_builtin; refine wpList_append_rw _ S (by kernel_rfl) _ _ 22 rfl 3 i0 (.int .i64 0) 1 8 Try.underlying22 hi0 hp0 hp1 hp2 rfl (by decide) az i cz (cells (iz i)) rfl (hr2.below (ba (Below.refl _ _))) ⟨w2.heap.size, 0, none⟩ 1 1 (cells [(i : Int)]) rfl (by omega) rfl (cell_i1 _ _) (cells_one _) (by unfold maxLen; omega) (by omega) ?_; intro a3 c3 w3 hrw3 hk3))
      go_roundw
      case rel =>
        refine ⟨i + 1, by go_num, by omega, ?_⟩
        have hb3 : Below w2.heap.size w2 (w2.alloc (.cells #[.int .i64 (i : Int)] 3)) := ba (Below.refl _ _)
        have := pz_snoc (w := w) (g := g) (X := (i : Int)) hl2 (hq2.below hb3) (fun k h => ⟨(hlo2 k h).1, Nat.lt_of_lt_of_le (hlo2 k h).2 hb3.size⟩) hs2 (next hb2 hb3) hrw3 hk3
        rw [iz_snoc, List.map_append]
        exact this
      case measure => simp [intOf]; omega
    · have hlt' : (n : Int) ≤ (i : Int) := by omega
      obtain rfl : i = n := by omega
      clear hlt hlt' hsz hi
      go_wp2_with (go_at_call 9; refine (pz_full w _ hpz (idPk 0) none 0 0 (by omega) (by omega) (by simp [iz_len])).mono ?_; rintro e w2 ⟨rfl, hb2⟩)
      have hpz2 := hpz.below hb2
      clear hpz hb2
      go_loopw [6, 8] (fun vz vi wr => ∃ (j : Nat) (z : List Int), vi = .int .i64 (j : Int) ∧ j + z.length = i ∧ PZ w wr g i (z.map idPk) z vz) (fun _ vi _ => i - (intOf vi).toNat)
      case atStart => exact ⟨0, iz i, rfl, by simp [iz_len], hpz2⟩
      case round =>
        clear hpz2
        obtain ⟨j, z, rfl, hj, hpz⟩ := hrel
        have hB := hpz.wb
        have hgz : g ≤ wr.heap.size := by rw [← hg]; exact hB.size
        obtain ⟨m, hm⟩ : ∃ m, z.length = m := ⟨_, rfl⟩
        rw [hm] at hj
        have HM : Hid (z.length = m) := hm
        obtain ⟨az, cz, rfl, hsz⟩ := hpz.slice hm
        clear hm
        by_cases hlt : (j : Int) < (i : Int)
        · go_upto_if 51 with fail
          go_cut [9] (fun v wx => ∃ k : Nat, v = .int .i64 (k : Int) ∧ k < m ∧ wr = wx)
          case first =>
            by_cases hin : (j : Int) < (np : Int)
            · obtain ⟨bp, op, rfl, hbp, hcp⟩ := hsl.at (k := j) (by omega)
              rw [← hB.cell (p := ⟨bp, op + j, none⟩) hbp] at hcp
              have hbp' : bp < wr.heap.size := by omega
              generalize pl[j]?.getD 0 = pv at *
              obtain ⟨k, hk⟩ : ∃ k : Nat, pv % (m : Int) = (k : Int) := ⟨(pv % (m : Int)).toNat, by have := Int.emod_nonneg pv (show (m : Int) ≠ 0 by omega); omega⟩
              have hkm : (k : Int) < (m : Int) := by rw [← hk]; exact Int.emod_lt_of_pos _ (by omega)
              go_wp2_with (go_at_call 7; refine (within_any _ _ _ (by omega) (by omega)).mono ?_; rintro e wx ⟨rfl, rfl⟩; rw [hk])
              go_meet
              case rel => exact ⟨k, rfl, by omega, rfl⟩
            · have hin' : (np : Int) ≤ (j : Int) := by omega
              go_wp2
              go_meet
              case rel => exact ⟨0, rfl, by omega, rfl⟩
          case rest =>
            obtain ⟨k, rfl, hk, rfl⟩ := hcut
            obtain ⟨bz, oz, rfl, hbz, hcz⟩ := hsz.at hk
            have hx := idPk_get (z := z) (k := k) (by rw [HM.out]; exact hk)
            have HX : Hid ((z.map idPk)[k]? = some (idPk (z[k]?.getD 0))) := hx
            clear hx
            generalize hXe : z[k]?.getD 0 = X at *
            have HXE : Hid (z[k]?.getD 0 = X) := hXe
            clear hXe
            go_upto_region 22 with (first
              | (go_at_call 10; refine (pz_get w _ hpz k (idPk X) HX.out (k : Int) rfl).mono ?_; rintro e w2 ⟨a2, n2, c2, rfl, hb2⟩; unfold idPk Pk.val)
              | (go_at_call 11; refine (pz_remove w _ _ hpz (next hb2 (ba (Below.refl _ _))) k (idPk X) HX.out (k : Int) rfl).mono ?_; rintro e w3 ⟨a3, n3, c3, rfl, hp3, hk3⟩; unfold idPk Pk.val))
            have hz2 := hb2.size
            have hz3 := hk3.size
            simp only [World.size_alloc] at hz3
            have bxp := ((Bx.made w2 (idPk X) (.slice a2 n2 c2)).keep hk3 (by omega)).next (ba (o := .cells #[.int .i64 0, .int .i64 0, .int .i64 0, .int .i64 X, .int .i64 0, .int .i64 0, .int .i64 0, .bool false, .slice a3 n3 c3] 29) (Below.refl _ _))
            have bxq := Bx.made w3 (idPk X) (.slice a3 n3 c3)
            simp only [idPk] at bxq
            replace hp3 := hp3.below (ba (o := .cells #[.int .i64 0, .int .i64 0, .int .i64 0, .int .i64 X, .int .i64 0, .int .i64 0, .int .i64 0, .bool false, .slice a3 n3 c3] 29) (Below.refl _ _))
            clear hk3 hpz hsz hcz hbz hb2 hB
            generalize w3.alloc (.cells #[.int .i64 0, .int .i64 0, .int .i64 0, .int .i64 X, .int .i64 0, .int .i64 0, .int .i64 0, .bool false, .slice a3 n3 c3] 29) = w4 at *
            generalize w2.heap.size = bp at *
            generalize w3.heap.size = bq at *
            have e1 := bxp.c3
            have e2 := bxq.c3
            have e1l := bxp.lt
            have e2l := bxq.lt
            simp only [idPk] at e1 e2
            clear bxp bxq
            obtain ⟨a4, c4, e4, hsz4⟩ := hp3.slice HM.out
            injection e4 with e5 e6 e7
            subst e5 e7
            obtain ⟨bz', oz', e8, hbz, hcz⟩ := hsz4.at hk
            obtain ⟨rfl, rfl⟩ : bz = bz' ∧ oz = oz' := by simpa using e8
            rw [HXE.out] at hcz
            have hkI : (k : Int) < (m : Int) := by omega
            go_quiet (fail)
            go_wp2_with fail
            clear e1 e2 e1l e2l hbz hcz
            replace hp3 := hp3.below (below_dn _ nq)
            replace hsz4 := hsz4.below (below_dn _ nq)
            generalize w4.drewN nq = w5 at *
            refine wp_region_orders 10 rfl (by kernel_rfl) ?_
            replace hp3 := hp3.below ((Below.refl _ _).drew)
            replace hsz4 := hsz4.below ((Below.refl _ _).drew)
            generalize w5.drew = w6 at *
            have hs6 := cells_slv hsz4
            obtain ⟨A, hA⟩ : ∃ A : Addr, (if cz = k + 1 then some (⟨bz, oz, none⟩ : Addr) else some ⟨bz, oz + (k + 1), none⟩) = some A := by split <;> exact ⟨_, rfl⟩
            have hcz1 : m ≤ cz := hsz4.le
            have hcz2 := hsz4.max
            unfold maxLen at hcz2
            have hkc : k ≤ cz := by omega
            have hkc1 : k + 1 ≤ cz := by omega
            have hkI1 : 0 ≤ (k : Int) + 1 ∧ (k : Int) + 1 ≤ (m : Int) := by omega
            have hwr : IntKind.i64.wrap ((k : Int) + 1) = (k : Int) + 1 := (IntWalk.i64_left _).trans (IntWalk.wrap64_in _ (by omega))
            refine any_take 0 (.slice (some ⟨bz, oz, none⟩) m cz) rfl (by kernel_rfl) (by kernel_rfl) (by kernel_rfl) (fun _ _ _ h => h) (by kernel_rfl) (fun w => by go_simp) ?_
            simp only [Act.put, List.setIfInBounds_toArray, List.set_cons_zero, List.set_cons_succ]
            refine any_take 1 (.int .i64 (k : Int)) rfl (by kernel_rfl) (by kernel_rfl) (by kernel_rfl) (fun _ _ _ h => h) (by kernel_rfl) (fun w => by go_simp) ?_
            simp only [Act.put, List.setIfInBounds_toArray, List.set_cons_zero, List.set_cons_succ]
            refine any_take 2 (.slice (some ⟨bz, oz, none⟩) k cz) rfl (by kernel_rfl) (by kernel_rfl) (by kernel_rfl) (fun _ _ _ h => h) (by kernel_rfl) (fun w => by go_simp) ?_
            simp only [Act.put, List.setIfInBounds_toArray, List.set_cons_zero, List.set_cons_succ]
            refine any_take 4 (.slice (some ⟨bz, oz, none⟩) m cz) rfl (by kernel_rfl) (by kernel_rfl) (by kernel_rfl) (fun _ _ _ h => h) (by kernel_rfl) (fun w => by go_simp) ?_
            simp only [Act.put, List.setIfInBounds_toArray, List.set_cons_zero, List.set_cons_succ]
            refine any_take 5 (.int .i64 (k : Int)) rfl (by kernel_rfl) (by kernel_rfl) (by kernel_rfl) (fun _ _ _ h => h) (by kernel_rfl) (fun w => by go_simp) ?_
            simp only [Act.put, List.setIfInBounds_toArray, List.set_cons_zero, List.set_cons_succ]
            refine any_take 6 (.int .i64 ((k : Int) + 1)) rfl (by kernel_rfl) (by kernel_rfl) (by kernel_rfl) (fun _ _ _ h => h) (by kernel_rfl) (fun w => by go_simp) ?_
            simp only [Act.put, List.setIfInBounds_toArray, List.set_cons_zero, List.set_cons_succ]
            refine any_take 7 (.slice (some A) (m - (k + 1)) (cz - (k + 1))) rfl (by kernel_rfl) (by kernel_rfl) (by kernel_rfl) (fun _ _ _ h => h) (by kernel_rfl) (fun w => by go_simp) ?_
            simp only [Act.put, List.setIfInBounds_toArray, List.set_cons_zero, List.set_cons_succ]
            refine any_list 3 (by kernel_rfl) rfl ?_
            refine wpList_append_slv w6 (fun _ => False) (by kernel_rfl) (.const (.slice none 0 0)) (.tmp 97) 22 rfl 3 i0 (.int .i64 0) 1 8 Try.underlying22 hi0 hp0 hp1 hp2 rfl (by decide) none 0 0 [] rfl (rw_nil _ _ _) (some ⟨bz, oz, none⟩) k cz ((cells z).take (k * 1)) rfl (hs6.front (by omega)) (fun u hu => cells_one z u (List.mem_of_mem_take hu)) (by unfold maxLen; omega) (by omega) ?_
            intro a7 c7 w7 hrw7 hk7
            have hb7 : Below w6.heap.size w6 w7 := hk7.below (fun _ h => h.elim) (Nat.le_refl _)
            refine then_n ?_
            simp only [Act.put, List.setIfInBounds_toArray, List.set_cons_zero, List.set_cons_succ]
            refine any_list 8 (by kernel_rfl) rfl ?_
            refine wpList_append_slv w7 (fun k => False ∨ w6.heap.size ≤ k) (by kernel_rfl) (.tmp 98) (.tmp 102) 22 rfl 3 i0 (.int .i64 0) 1 8 Try.underlying22 hi0 hp0 hp1 hp2 rfl (by decide) a7 (0 + k) c7 ([] ++ (cells z).take (k * 1)) rfl hrw7 (some A) (m - (k + 1)) (cz - (k + 1)) ((cells z).drop ((k + 1) * 1)) rfl ((hs6.below hb7).rear (by omega) (by rw [Nat.mul_one]; exact hA)) (fun u hu => cells_one z u (List.mem_of_mem_drop hu)) (by unfold maxLen; omega) (by omega) ?_
            intro a8 c8 w8 hrw8 hk8
            have em : 0 + k + (m - (k + 1)) = m - 1 := by omega
            rw [em] at hrw8
            rw [em]
            refine then_n ?_
            simp only [Act.put, List.setIfInBounds_toArray, List.set_cons_zero, List.set_cons_succ]
            refine any_take 9 (.slice a8 (m - 1) c8) rfl (by kernel_rfl) (by kernel_rfl) (by kernel_rfl) (fun _ _ _ h => h) (by kernel_rfl) (fun w => by go_simp) ?_
            simp only [Act.put, List.setIfInBounds_toArray, List.set_cons_zero, List.set_cons_succ]
            refine any_done (by kernel_rfl) ?_
            have hb8 : Below w6.heap.size w6 w8 := hb7.trans (hk8.below (fun k h => h.elim (fun h => h.elim) id) hb7.size)
            have pz8 := pz_other (z' := z.eraseIdx k) hp3 hb8 (by rw [List.length_eraseIdx_of_lt (by rw [HM.out]; exact hk), HM.out]) (by
              rw [List.nil_append, cells_erase] at hrw8
              exact hrw8.imp (fun j _ h => by rcases h with (h | h) | h; exact h.elim; exact h; exact Nat.le_trans hb7.size h))
            clear hrw7 hrw8 hk7 hk8 hb7 hb8 hs6 hsz4 hp3 hA hcz1 hcz2 hkc hkc1 hkI1 em hwr
            rw [← map_eraseIdx'] at pz8
            have hz8 := pz8.wb.size
            generalize hzz : z.eraseIdx k = z' at *
            have HM' : Hid (z'.length = m - 1) := by show _ = _; rw [← hzz, List.length_eraseIdx_of_lt (by rw [HM.out]; exact hk), HM.out]
            clear hzz HX HXE HM
            obtain ⟨a9, c9, e9, hs9⟩ := pz8.slice HM'.out
            injection e9 with e5 e6 e7
            subst e5 e7
            have hm9 := hs9.max
            have hl9 := hs9.le
            unfold maxLen at hm9
            go_wp2_with fail
            go_loopw [106] (fun v wx => ∃ q : Nat, v = .int .i64 (q : Int) ∧ q ≤ m - 1 ∧ Below w8.heap.size w8 wx) (fun v _ => m - 1 - (intOf v).toNat)
            case atStart => exact ⟨0, rfl, by omega, Below.refl _ _⟩
            case round =>
              obtain ⟨q, rfl, hq, hbx⟩ := hrel
              by_cases hqm : (q : Int) < ((m - 1 : Nat) : Int)
              · obtain ⟨bz2, oz2, rfl, hbz2, hcz2⟩ := (hs9.below hbx).at (k := q) (by omega)
                have hx2 := idPk_get (z := z') (k := q) (by rw [HM'.out]; omega)
                have HX2 : Hid ((z'.map idPk)[q]? = some (idPk (z'[q]?.getD 0))) := hx2
                clear hx2
                generalize z'[q]?.getD 0 = X2 at *
                go_upto_region 29 with (go_at_call 10; refine (pz_get w _ (pz8.below hbx) q (idPk X2) HX2.out (q : Int) rfl).mono ?_; rintro e w10 ⟨a10, n10, c10, rfl, hb10⟩; unfold idPk Pk.val)
                have bx10 := Bx.made w10 (idPk X2) (.slice a10 n10 c10)
                simp only [idPk] at bx10
                have hb11 := next hb10 (ba (o := .cells #[.int .i64 0, .int .i64 0, .int .i64 0, .int .i64 X2, .int .i64 0, .int .i64 0, .int .i64 0, .bool false, .slice a10 n10 c10] 29) (Below.refl _ _))
                rw [← hb11.cell (p := ⟨bz2, oz2 + q, none⟩) hbz2] at hcz2
                have hbz3 := Nat.lt_of_lt_of_le hbz2 hb11.size
                generalize w10.alloc (.cells #[.int .i64 0, .int .i64 0, .int .i64 0, .int .i64 X2, .int .i64 0, .int .i64 0, .int .i64 0, .bool false, .slice a10 n10 c10] 29) = w11 at *
                generalize w10.heap.size = b10 at *
                have e10 := bx10.c3
                have l10 := bx10.lt
                simp only at e10
                clear bx10 hb10
                go_quiet (fail)
                go_wp2
                go_roundw
                case rel => exact ⟨q + 1, by go_num, by omega, next hbx (next hb11 (below_dn _ _))⟩
                case measure => simp [intOf]; omega
              · have hqm' : ((m - 1 : Nat) : Int) ≤ (q : Int) := by omega
                go_wp2
                go_roundw
                case rel => exact ⟨j + 1, z', by go_num, by rw [HM'.out]; omega, pz8.below hbx⟩
                case measure => simp [intOf]; omega
        · have hlt' : (i : Int) ≤ (j : Int) := by omega
          obtain rfl : m = 0 := by omega
          obtain rfl : z = [] := List.eq_nil_of_length_eq_zero HM.out
          clear hlt hsz
          obtain ⟨M, D, hqq⟩ := hpz.qu
          go_wp2_with (first
            | (go_at_call 11; refine (pz_none w _ hpz 0 (by simp)).mono ?_; rintro e w2 ⟨rfl, hb2⟩; unfold zeroPk Pk.val; have hq2 := hqq.below (next hb2 (ba (o := .cells #[.int .i64 0, .int .i64 0, .int .i64 0, .int .i64 0, .int .i64 0, .int .i64 0, .int .i64 0, .bool false, .slice none 0 0] 29) (Below.refl _ _))))
            | (go_at_call 12; refine (P.len_n _ hq2 0 rfl).mono ?_; rintro e w3 ⟨rfl, rfl⟩)
            | (go_at_call 13; refine (P.room_n _ hq2 (by omega) (by omega) (i : Int) (by simp)).mono ?_; rintro e w4 ⟨rfl, k4, rfl⟩)
            | (go_at_call 14; refine (wakes_any _).mono ?_; rintro e w5 ⟨rfl, hb5⟩))
          go_ret
          exact ⟨rfl, next hB (next (next hb2 (ba (Below.refl _ _))) (next (below_dn _ k4) hb5))⟩
end Go.Proofs.Ytafbcnchgnmjbaa
