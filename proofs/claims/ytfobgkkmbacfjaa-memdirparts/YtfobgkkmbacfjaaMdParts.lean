/- The walk of MemdirParts. Conditions: as the theorem states them. -/
import Derived.Test.YtfobgkkmbacfjaaMdWk
namespace Go.Proofs.Ytfobgkkmbacfjaa
open Go.RowKit Go.Maps
set_option linter.unusedVariables false
set_option maxRecDepth 20000

/-- How many lines are at the homes below k. -/
def cntL (N L : Nat) (k : Nat) : Nat := ((List.range L).filter (fun l : Nat => decide (remI (l : Int) N < (k : Int)))).length
theorem filter_two {α : Type} (p q r : α → Bool) (h : ∀ x, r x = (p x || q x)) (hd : ∀ x, p x = true → q x = false) (l : List α) : (l.filter r).length = (l.filter p).length + (l.filter q).length := by
  induction l with
  | nil => rfl
  | cons x l ih =>
    have h1 := h x
    have h2 := hd x
    cases hp : p x <;> cases hq : q x <;> rw [hp, hq] at h1 <;> simp [hp, hq, h1, ih] <;> first | omega | (have := h2 hp; rw [hq] at this; cases this)
theorem cntL_step {zi : List Int} {N L K k : Nat} : cntL N L (k + 1) = cntL N L k + (rows0 zi N L K k L).length := by
  unfold cntL rows0
  rw [List.length_map]
  refine filter_two _ _ _ (fun x => ?_) (fun x hx => ?_) _
  · rw [Bool.eq_iff_iff]; simp; omega
  · simp at hx ⊢; omega
theorem cntL_zero {N L : Nat} (hN : 1 ≤ N) : cntL N L 0 = 0 := by
  unfold cntL
  rw [List.filter_eq_nil_iff.2 (fun x _ => ?_)]
  · rfl
  · simp
    unfold remI
    rw [if_neg (by omega)]
    exact Int.emod_nonneg _ (by omega)
theorem cntL_all {N L : Nat} (hN : 1 ≤ N) : cntL N L N = L := by
  unfold cntL
  rw [List.filter_eq_self.2 (fun x _ => ?_), List.length_range]
  refine decide_eq_true ?_
  unfold remI
  rw [if_neg (by omega)]
  exact Int.emod_lt_of_pos _ (by omega)
/-- What stands at each place of the rows at first. -/
theorem rows0_get {zi : List Int} {N L K k i m : Nat} (hm : (rows0 zi N L K k m).length = i) {j : Nat} (hj : j < i) : ∃ l : Nat, l < m ∧ remI (l : Int) N = k ∧ ((rows0 zi N L K k m).map hOf)[j]? = some (l : Int) := by
  have h1 : j < (rows0 zi N L K k m).length := by omega
  have hmem : (rows0 zi N L K k m)[j] ∈ rows0 zi N L K k m := List.getElem_mem h1
  obtain ⟨l, hl, he⟩ := List.mem_map.1 hmem
  obtain ⟨h2, h3⟩ := List.mem_filter.1 hl
  refine ⟨l, List.mem_range.1 h2, of_decide_eq_true h3, ?_⟩
  rw [List.getElem?_map, List.getElem?_eq_getElem h1, ← he]
  rfl

set_option maxHeartbeats 1000000 in
theorem memdirParts_walk (w : World) (v : Value) (hv : IsSetup w v) :
    Calls Try.prog 6 #[v] w fun e w' => e = .returned (.bool true) ∧ Below w.heap.size w w' := by
  obtain ⟨n, l, k, s, y, o, i, a0, n0, q0, z0, a1, n1, q1, z1, a2, n2, q2, z2, a3, n3, q3, z3, a4, n4, q4, z4, rfl, h0, h1, h2, h3, h4⟩ := hv
  clear h1 h2 h3 h4
  unfold setup
  go_enter Try.func6, Try.ntmps6
  go_upto_region 2 with (go_at_call 29; refine (config_c _ _ _ _ _ _ _ _ _ _ _ _ _ _ z0 _ (h0.below (by exact ba (Below.refl _ _)))).mono ?_; rintro e w1 ⟨N, L, K, S, Y, O, I, zi, av, nv, cv, rfl, hcf, hnv, hown, hb1⟩; unfold cfg)
  have hB := ba (o := .cells #[.int .i64 (N : Int), .int .i64 (L : Int), .int .i64 (K : Int), .int .i64 (S : Int), .int .i64 (Y : Int), .int .i64 (O : Int), .int .i64 (I : Int), .slice av nv cv] 58) (next (ba (Below.refl _ _)) hb1)
  have hcb := CB.made w1 N L K S Y O I (.slice av nv cv)
  have hsl := (own_sl hown).below (ba (o := .cells #[.int .i64 (N : Int), .int .i64 (L : Int), .int .i64 (K : Int), .int .i64 (S : Int), .int .i64 (Y : Int), .int .i64 (O : Int), .int .i64 (I : Int), .slice av nv cv] 58) (Below.refl _ _))
  generalize w1.alloc (.cells #[.int .i64 (N : Int), .int .i64 (L : Int), .int .i64 (K : Int), .int .i64 (S : Int), .int .i64 (Y : Int), .int .i64 (O : Int), .int .i64 (I : Int), .slice av nv cv] 58) = W at *
  generalize w1.heap.size = gc at *
  obtain ⟨N0, N1, L0, L1, K0, K1, S0, S1, Y0, Y1, O0, O1, I0, I1⟩ := hcf.bd
  obtain ⟨p0, p2, p3⟩ := mul_bd L0 L1 K0 K1
  have hnl : nv ≤ 8 := by have := hcf.len; have := hnv.out; omega
  have HNV : Hid (zi.length = nv) := hnv
  clear hcf hown hb1 h0 hnv p0 p2 p3 S0 S1 Y0 Y1 O0 O1 I0 I1
  go_wp2_with fail
  go_loopw [4, 5] (fun v4 v5 wr => ∃ k : Nat, v5 = .int .i64 (k : Int) ∧ k ≤ N ∧ v4 = .int .i64 ((cntL N L k : Nat) : Int) ∧ Below W.heap.size W wr) (fun _ v5 _ => N - (intOf v5).toNat)
  case atStart => exact ⟨0, rfl, by omega, by rw [cntL_zero N0]; rfl, Below.refl _ _⟩
  case round =>
    obtain ⟨k, rfl, hk, rfl, hbr⟩ := hrel
    obtain ⟨c0, c1, c2, c3, c4, c5, c6, c7, clt⟩ := hcb.below hbr
    by_cases hlt : k < N
    · have hlt' : (k : Int) < (N : Int) := by omega
      have hnew := mo_new (w := wr) (X := fun _ => False) N L K S Y O I av nv cv zi k (Below.refl _ _) (fun _ h => h.elim) (hsl.below hbr) N0 (by omega) (by omega) K0 (by omega) (by omega)
      have HST : Hid (cntL N L (k + 1) = cntL N L k + (rows0 zi N L K k L).length) := cntL_step
      have HRG : Hid (∀ j, j < (rows0 zi N L K k L).length → ∃ l : Nat, l < L ∧ remI (l : Int) N = k ∧ ((rows0 zi N L K k L).map hOf)[j]? = some (l : Int)) := fun j hj => rows0_get rfl hj
      have HRI : Hid (∀ l : Nat, l < L → remI (l : Int) N = k → getK hOf (l : Int) (rows0 zi N L K k L) = some ⟨(l : Int), 0, -1, wordsI zi L K l⟩) := fun l h1 h2 => rows0_at h1 h2
      have HRL : Hid ((rows0 zi N L K k L).length ≤ L) := rows0_len
      obtain ⟨cn, hcn⟩ : ∃ cn, cntL N L k = cn := ⟨_, rfl⟩
      have HCN : Hid (cn ≤ L) := by rw [← hcn]; unfold cntL; have := List.length_filter_le (fun l : Nat => decide (remI (l : Int) N < (k : Int))) (List.range L); rw [List.length_range] at this; exact this
      rw [hcn] at HST ⊢
      clear hcn
      unfold cfg at hnew
      generalize rows0 zi N L K k L = R0 at *
      obtain ⟨m, hm⟩ : ∃ m, R0.length = m := ⟨_, rfl⟩
      have HM : Hid ((R0.map hOf).length = m) := by show _ = _; rw [List.length_map]; exact hm
      rw [hm] at HST HRG HRL
      clear hm
      have hmL : m ≤ L := HRL.out
      have hcL : cn ≤ L := HCN.out
      go_upto_region 10 with (first
        | (go_at_call 39; refine (mo_lines M).mono ?_; rintro e w3 ⟨v3, rfl, own3, b3⟩; obtain ⟨al, cl, rfl, sl⟩ := own3.sl' HM.out)
        | (go_at_call 30; refine hnew.mono ?_; rintro e w2 ⟨g, rfl, b2, M⟩))
      have M3 := M.below b3
      have hz := next hbr (next b2 b3)
      clear own3 M hnew HCN HRL b2 b3 c0 c1 c2 c3 c4 c5 c6 c7 clt
      clear w2
      go_loopw [4, 31] (fun v4 v31 wx => ∃ i : Nat, v31 = .int .i64 (i : Int) ∧ i ≤ m ∧ v4 = .int .i64 ((cn + i : Nat) : Int) ∧ Below w3.heap.size w3 wx) (fun _ v31 _ => m - (intOf v31).toNat)
      case atStart => exact ⟨0, rfl, by omega, rfl, Below.refl _ _⟩
      case round =>
        obtain ⟨i, rfl, hi, rfl, hbx⟩ := hrel
        obtain ⟨c0, c1, c2, c3, c4, c5, c6, c7, clt⟩ := hcb.below (next hz hbx)
        by_cases hlt2 : i < m
        · have hlt2' : (i : Int) < (m : Int) := by omega
          obtain ⟨ln, hl1, hl2, hl3⟩ := HRG.out i hlt2
          obtain ⟨lb, lo, rfl, llt, lc⟩ := (sl.below hbx).at hlt2
          rw [hl3] at lc
          simp only [Option.getD_some] at lc
          clear hl3
          have M4 := M3.below hbx
          have hg := HRI.out ln hl1 hl2
          have HZL : Hid ((wordsI zi L K (ln : Int)).length = K) := by show _ = _; rw [wordsI_in hl1]; simp
          have HIL : Hid (In64 (ln : Int)) := by unfold Hid In64; omega
          have HWJ : Hid (∀ j, j < K → (wordsI zi L K (ln : Int))[j]?.getD 0 = zi[ln * K + j]?.getD 0) := fun j hj => by rw [wordsI_in hl1]; simp [hj]
          have hrem : (ln : Int).tmod (N : Int) = (k : Int) := by rw [Int.tmod_eq_emod_of_nonneg (by omega)]; unfold remI at hl2; rw [if_neg (by omega)] at hl2; exact hl2
          obtain ⟨m0, hm0⟩ : ∃ m0, ln * K = m0 := ⟨_, rfl⟩
          have hmul : (ln : Int) * (K : Int) = (m0 : Int) := by rw [← hm0]; exact (Int.natCast_mul ln K).symm
          have hm8 : m0 ≤ 8 := by rw [← hm0]; have := Nat.mul_le_mul (show ln ≤ 4 by omega) K1; simpa using this
          rw [hm0] at HWJ
          generalize wordsI zi L K (ln : Int) = zl at *
          clear hl2 hm0
          go_upto_region 13 with (go_at_call 32; refine (mo_row_at M4 HIL.out hg HZL.out).mono ?_; rintro e w4 ⟨ar, cr, rfl, own4, b4⟩)
          have bel := ba (o := .cells #[.int .i64 0, .int .i64 (-1), .slice ar K cr] 65) (Below.refl w4.heap.size w4)
          have hb5 := next b4 bel
          have s5 := (own_sl own4).below bel
          have r0 : (w4.alloc (.cells #[.int .i64 0, .int .i64 (-1), .slice ar K cr] 65)).cell? ⟨w4.heap.size, 0, none⟩ = some (.int .i64 0) := by simp
          have r1 : (w4.alloc (.cells #[.int .i64 0, .int .i64 (-1), .slice ar K cr] 65)).cell? ⟨w4.heap.size, 1, none⟩ = some (.int .i64 (-1)) := by simp
          have r2 : (w4.alloc (.cells #[.int .i64 0, .int .i64 (-1), .slice ar K cr] 65)).cell? ⟨w4.heap.size, 2, none⟩ = some (.slice ar K cr) := by simp
          have e := fun o => hb5.cell (p := ⟨gc, o, none⟩) clt
          replace c0 := (e 0).trans c0
          replace c2 := (e 2).trans c2
          replace c7 := (e 7).trans c7
          have hi5 := hsl.below (next hz (next hbx hb5))
          have hbx5 := next hbx hb5
          clear e bel own4 b4 hb5 M4 c1 c3 c4 c5 c6 lc llt clt hg HIL
          generalize w4.heap.size = gr at *
          generalize w4.alloc _ = w5 at *
          clear w4
          go_wp2_with fail
          go_loopw [72] (fun v72 wy => ∃ j : Nat, v72 = .int .i64 (j : Int) ∧ j ≤ K ∧ w5 = wy) (fun v72 _ => K - (intOf v72).toNat)
          case atStart => exact ⟨0, rfl, by omega, rfl⟩
          case round =>
            obtain ⟨j, rfl, hj, rfl⟩ := hrel
            by_cases hlt3 : j < K
            · have hlt3' : (j : Int) < (K : Int) := by omega
              obtain ⟨zb, zo, rfl, zlt, zc⟩ := s5.at hlt3
              rw [HWJ.out j hlt3] at zc
              obtain ⟨tt, htt⟩ : ∃ tt, m0 + j = tt := ⟨_, rfl⟩
              have hadd : (m0 : Int) + (j : Int) = (tt : Int) := by omega
              rw [htt] at zc
              obtain ⟨xv, hxv⟩ : ∃ xv, zi[tt]?.getD 0 = xv := ⟨_, rfl⟩
              rw [hxv] at zc
              by_cases hin : tt < nv
              · have hin' : (tt : Int) < (nv : Int) := by omega
                obtain ⟨ib, io, rfl, ilt, ic⟩ := hi5.at hin
                rw [hxv] at ic
                have hne : (xv != xv) = false := by simp
                clear hxv htt
                go_wp2_with fail
                go_roundw
                case rel => exact ⟨j + 1, by go_num, by omega, by first | rfl | trivial⟩
                case measure => simp [intOf]; omega
              · have hin' : (nv : Int) ≤ (tt : Int) := by omega
                have hx0 : xv = 0 := by rw [← hxv, List.getElem?_eq_none (by have := HNV.out; omega)]; rfl
                subst hx0
                clear hxv htt
                go_wp2_with fail
                go_roundw
                case rel => exact ⟨j + 1, by go_num, by omega, by first | rfl | trivial⟩
                case measure => simp [intOf]; omega
            · obtain rfl : j = K := by omega
              go_wp2_with fail
              go_roundw
              case rel => exact ⟨i + 1, by go_num, by omega, by go_num, hbx5⟩
              case measure => simp [intOf]; omega
        · obtain rfl : i = m := by omega
          go_wp2_with fail
          go_roundw
          case rel => exact ⟨k + 1, by go_num, by omega, by rw [HST.out], next hz hbx⟩
          case measure => simp [intOf]; omega
    · obtain rfl : k = N := by omega
      have hall := cntL_all (L := L) N0
      rw [hall]
      go_wp2_with (go_at_call 34; refine (dwakes_any _).mono ?_; rintro e w3 ⟨rfl, hb3⟩)
      go_ret
      exact ⟨rfl, next hB (next hbr hb3)⟩
end Go.Proofs.Ytfobgkkmbacfjaa
