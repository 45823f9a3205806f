/- The walk of PlanTells. No condition. -/
import Derived.Test.YtpagdfmajeodiaaTells17
namespace Go.Proofs.Ytpagdfmajeodiaa
open Go.RowKit
set_option linter.unusedVariables false

theorem lineOf_m {n l k s y o i addr x z : Int} {t : Value} {w : World} (hl0 : 1 ≤ l) (hl1 : l ≤ 8) (hk0 : 1 ≤ k) (hk1 : k ≤ 4) (hx : lineI l k addr = x) (hz : wordI l k addr = z) :
    Calls Try.prog 18 #[cfg n l k s y o i t, .int .i64 addr] w fun e w' => e = .returned (.tuple #[.int .i64 x, .int .i64 z]) ∧ Below w.heap.size w w' := by
  subst hx hz; exact lineOf_any _ _ _ _ _ _ _ _ _ _ hl0 hl1 hk0 hk1

theorem Grid.progs {w : World} {gO : Nat} {rows : List Value} {ps : List (List OpI)} (h : Grid w gO rows ps) (hm : ps.length ≤ 1000) : Progs w (some ⟨gO, 0, none⟩) ps.length ps := by
  refine ⟨rows, ⟨by rw [h.len]; simp, Nat.le_refl _, by unfold maxLen; omega, fun e => (by cases e), .inr ⟨gO, 0, rfl, fun i u hu => ?_⟩⟩, fun i p hp => ?_⟩
  · rw [Nat.zero_add]; exact h.cell hu
  · obtain ⟨r, hr⟩ : ∃ r, rows[i]? = some r := ⟨rows[i]'(by rw [h.len]; exact (List.getElem?_eq_some_iff.1 hp).1), by simp⟩
    obtain ⟨a, c, rfl, hs⟩ := slv_own (h.own i r p hr hp)
    exact ⟨a, c, hr, hs⟩
theorem Progs.tail {w : World} {b o cap : Nat} {ps : List (List OpI)} (h : Progs w (some ⟨b, o, none⟩) cap ps) (h1 : 1 ≤ ps.length) : Progs w (some ⟨b, o + 1, none⟩) (cap - 1) (ps.drop 1) := by
  obtain ⟨rows, hs, hr⟩ := h
  have hl := hs.len
  refine ⟨rows.drop 1, ⟨by simp; omega, by have := hs.le; simp; omega, by have := hs.max; omega, fun e => (by cases e), ?_⟩, fun i p hp => ?_⟩
  · rcases hs.row with e | ⟨b', o', e, hc⟩
    · left; rw [e]; rfl
    · right
      simp at e
      obtain ⟨rfl, rfl⟩ := e
      refine ⟨b, o + 1, rfl, fun i u hu => ?_⟩
      rw [List.getElem?_drop] at hu
      rw [show o + 1 + i = o + (1 + i) by omega]
      exact hc _ _ hu
  · rw [List.getElem?_drop] at hp
    obtain ⟨ai, ci, e, hsl⟩ := hr _ p hp
    exact ⟨ai, ci, by rw [List.getElem?_drop]; exact e, hsl⟩
theorem progs_zero (w : World) (x : Addr) : Progs w (some x) 0 [] := ⟨[], ⟨rfl, Nat.le_refl _, Nat.zero_le _, fun _ => rfl, .inl rfl⟩, fun i p hp => by simp at hp⟩
theorem ops_e {n l k s y o i : Int} {t : Value} {a : Option Addr} {cap : Nat} {ps : List (List OpI)} {w : World} {b : Bool} {x : Int} (hp : Progs w a cap ps) (hl0 : 1 ≤ l) (hl1 : l ≤ 8) (hk0 : 1 ≤ k) (hk1 : k ≤ 4) (hb : opsOk n l k ps = b) (hx : errI b = x) :
    Calls Try.prog 14 #[cfg n l k s y o i t, .slice a ps.length cap] w fun e w' => e = .returned (.int .i64 x) ∧ Below w.heap.size w w' := by
  subst hb hx; exact ops_any _ _ _ _ _ _ _ _ _ _ _ _ hp hl0 hl1 hk0 hk1
theorem refOps_e {n l k s y o i : Int} {t : Value} {a : Option Addr} {cap : Nat} {ps : List (List OpI)} {w : World} {b : Bool} (hp : Progs w a cap ps) (hl0 : 1 ≤ l) (hl1 : l ≤ 8) (hk0 : 1 ≤ k) (hk1 : k ≤ 4) (hb : opsOk n l k ps = b) :
    Calls Try.prog 25 #[cfg n l k s y o i t, .slice a ps.length cap] w fun e w' => e = .returned (.bool b) ∧ Below w.heap.size w w' := by
  subst hb; exact refOps_any _ _ _ _ _ _ _ _ _ _ _ _ hp hl0 hl1 hk0 hk1

set_option maxRecDepth 20000 in
set_option maxHeartbeats 2000000 in
theorem planTells_walk (w : World) (v : Value) (hv : IsSetup w v) (line addr : Int) (b0 : Option Addr) (m0 e0 : Nat) (y0 : List Int) (g0 : Sl w b0 m0 e0 y0) (b1 : Option Addr) (m1 e1 : Nat) (y1 : List Int) (g1 : Sl w b1 m1 e1 y1) (b2 : Option Addr) (m2 e2 : Nat) (y2 : List Int) (g2 : Sl w b2 m2 e2 y2) (more : Int) :
    Calls Try.prog 6 #[v, .int .i64 line, .int .i64 addr, .slice b0 m0 e0, .slice b1 m1 e1, .slice b2 m2 e2, .int .i64 more] w fun e w' => e = .returned (.bool true) ∧ Below w.heap.size w w' := by
  obtain ⟨n, l, k, s, y, o, i, a0, n0, q0, z0, a1, n1, q1, z1, a2, n2, q2, z2, a3, n3, q3, z3, a4, n4, q4, z4, rfl, h0, h1, h2, h3, h4⟩ := hv
  unfold setup
  go_enter Try.func6, Try.ntmps6
  go_upto_region 2 with (first
    | (go_at_call 12; refine (config_c _ _ _ _ _ _ _ _ _ _ _ _ _ _ z0 _ (h0.below (by exact ba (Below.refl _ _)))).mono ?_; rintro e w1 ⟨N, L, K, S, Y, O, I, zi, av, nv, cv, rfl, hcf, hnv, hown, hb1⟩; unfold cfg))
  have hbw := ba (o := .cells #[.int .i64 (N : Int), .int .i64 (L : Int), .int .i64 (K : Int), .int .i64 (S : Int), .int .i64 (Y : Int), .int .i64 (O : Int), .int .i64 (I : Int), .slice av nv cv] 25) (next (ba (Below.refl _ _)) hb1)
  have hcb := CB.made w1 N L K S Y O I (.slice av nv cv)
  have hsl := (own_sl hown).below (ba (o := .cells #[.int .i64 (N : Int), .int .i64 (L : Int), .int .i64 (K : Int), .int .i64 (S : Int), .int .i64 (Y : Int), .int .i64 (O : Int), .int .i64 (I : Int), .slice av nv cv] 25) (Below.refl _ _))
  have hset : ∀ j u, (#[.int .i64 n, .int .i64 l, .int .i64 k, .int .i64 s, .int .i64 y, .int .i64 o, .int .i64 i, .slice a0 n0 q0, .slice a1 n1 q1, .slice a2 n2 q2, .slice a3 n3 q3, .slice a4 n4 q4] : Array Value)[j]? = some u → (w1.alloc (.cells #[.int .i64 (N : Int), .int .i64 (L : Int), .int .i64 (K : Int), .int .i64 (S : Int), .int .i64 (Y : Int), .int .i64 (O : Int), .int .i64 (I : Int), .slice av nv cv] 25)).cell? ⟨w.heap.size, j, none⟩ = some u := by
    intro j u hu
    have hlt : w.heap.size < w1.heap.size := by have := hb1.size; simp at this; omega
    rw [World.cell?_alloc_past _ _ _ hlt, hb1.cell (p := ⟨w.heap.size, j, none⟩) (by simp)]
    simpa using hu
  have hslt : w.heap.size < (w1.alloc (.cells #[.int .i64 (N : Int), .int .i64 (L : Int), .int .i64 (K : Int), .int .i64 (S : Int), .int .i64 (Y : Int), .int .i64 (O : Int), .int .i64 (I : Int), .slice av nv cv] 25)).heap.size := by have := hb1.size; simp at this; simp; omega
  generalize w1.alloc (.cells #[.int .i64 (N : Int), .int .i64 (L : Int), .int .i64 (K : Int), .int .i64 (S : Int), .int .i64 (Y : Int), .int .i64 (O : Int), .int .i64 (I : Int), .slice av nv cv] 25) = W at *
  generalize w1.heap.size = g at *
  obtain ⟨N0, N1, L0, L1, K0, K1, S0, S1, Y0, Y1, O0, O1, I0, I1⟩ := hcf.bd
  obtain ⟨p0, p2, p3⟩ := mul_bd L0 L1 K0 K1
  have hlen := hcf.len
  have hnv' := hnv.out
  clear hown hb1 hnv
  have hcb' := hcb
  obtain ⟨c0, c1, c2, c3, c4, c5, c6, c7, clt⟩ := hcb'
  go_upto_if 27 with fail
  go_cut [1] (fun v wx => (∃ z : Int, v = .int .i64 z) ∧ W = wx)
  case first =>
    by_cases ht : (line.tmod 5 != 4) = true
    · have r0 : 0 ≤ line % ((L : Int) + 2) := Int.emod_nonneg _ (by omega)
      have r1 : line % ((L : Int) + 2) < (L : Int) + 2 := Int.emod_lt_of_pos _ (by omega)
      go_wp2_with (go_at_call 9; refine (within_any _ _ _ (by omega) (by omega)).mono ?_; rintro e wz ⟨rfl, rfl⟩)
      go_meet
      case rel => exact ⟨⟨_, rfl⟩, rfl⟩
    · have ht' : (line.tmod 5 != 4) = false := by simpa using ht
      clear ht
      go_wp2
      go_meet
      case rel => exact ⟨⟨_, rfl⟩, rfl⟩
  case rest =>
    obtain ⟨⟨ln, rfl⟩, hw⟩ := hcut
    subst hw
    go_upto_if 36 with fail
    go_cut [2] (fun v wx => (∃ z : Int, v = .int .i64 z) ∧ W = wx)
    case first =>
      by_cases ht : (addr.tmod 5 != 4) = true
      · have r0 : 0 ≤ addr % ((L : Int) * (K : Int) + 2) := Int.emod_nonneg _ (by omega)
        have r1 : addr % ((L : Int) * (K : Int) + 2) < (L : Int) * (K : Int) + 2 := Int.emod_lt_of_pos _ (by omega)
        go_wp2_with (go_at_call 9; refine (within_any _ _ _ (by omega) (by omega)).mono ?_; rintro e wz ⟨rfl, rfl⟩)
        go_meet
        case rel => exact ⟨⟨_, rfl⟩, rfl⟩
      · have ht' : (addr.tmod 5 != 4) = false := by simpa using ht
        clear ht
        go_wp2
        go_meet
        case rel => exact ⟨⟨_, rfl⟩, rfl⟩
    case rest =>
      obtain ⟨⟨ad, rfl⟩, hw⟩ := hcut
      subst hw
      go_upto_if 47 with fail
      go_cut [16, 17] (fun v v' wx => v = .int .i64 (remI ln N) ∧ v' = .int .i64 (remI ln S) ∧ Below W.heap.size W wx)
      case first =>
        by_cases hln : ln < 0
        · have E1 : Hid (remI ln N = -1) := remI_neg hln
          have E2 : Hid (remI ln S = -1) := remI_neg hln
          go_wp2
          go_meet
          case rel => exact ⟨by rw [E1.out], by rw [E2.out], Below.refl _ _⟩
        · have hln' : 0 ≤ ln := by omega
          have E1 : Hid (remI ln N = ln % N) := remI_pos hln'
          have E2 : Hid (remI ln S = ln % S) := remI_pos hln'
          clear hln
          go_wp2_with fail
          go_quiet (fail)
          go_wp2
          go_meet
          case rel => exact ⟨by rw [E1.out], by rw [E2.out], below_dn _ _⟩
      case rest =>
        obtain ⟨rfl, rfl, hBx⟩ := hcut
        generalize wc = wx at *
        obtain ⟨c0, c1, c2, c3, c4, c5, c6, c7, clt⟩ := hcb.below hBx
        go_upto_region 11 with (go_at_call 18; refine (lineOf_any _ _ _ _ _ _ _ _ _ _ (by omega) (by omega) (by omega) (by omega)).mono ?_; rintro e w3 ⟨rfl, hb3⟩)
        have hB3 := next hBx hb3
        clear c0 c1 c2 c3 c4 c5 c6 c7 clt hb3 hBx
        obtain ⟨c0, c1, c2, c3, c4, c5, c6, c7, clt⟩ := hcb.below hB3
        go_cut [72] (fun v wy => v = .bool (isA L K ad) ∧ w3 = wy)
        case first =>
          by_cases d0 : ad < 0
          · have E1 : Hid (isA L K ad = false) := isA_not (.inl d0)
            go_wp2
            go_meet
            case rel => exact ⟨congrArg Value.bool (by rw [E1.out] <;> first | rfl | (simp; omega)), rfl⟩
          by_cases d1 : (L : Int) * (K : Int) ≤ ad
          · have E1 : Hid (isA L K ad = false) := isA_not (.inr d1)
            have d0' : 0 ≤ ad := by omega
            go_wp2
            go_meet
            case rel => exact ⟨congrArg Value.bool (by rw [E1.out] <;> first | rfl | (simp; omega)), rfl⟩
          · have E1 : Hid (isA L K ad = true) := isA_mk (by omega) (by omega)
            have d0' : 0 ≤ ad := by omega
            have d1' : ad < (L : Int) * (K : Int) := by omega
            go_wp2
            go_meet
            case rel => exact ⟨congrArg Value.bool (by rw [E1.out] <;> first | rfl | (simp; omega)), rfl⟩
        case rest =>
          obtain ⟨rfl, hw⟩ := hcut
          subst hw
          go_upto_if 72 with fail
          go_cut [20, 21] (fun v v' wy => v = .int .i64 (lineI L K ad) ∧ v' = .int .i64 (wordI L K ad) ∧ Below W.heap.size W wy)
          case first =>
            cases hA : isA L K ad
            · have E1 : Hid (lineI L K ad = -1) := by unfold Hid lineI; rw [hA]; rfl
              have E2 : Hid (wordI L K ad = 0) := by unfold Hid wordI; rw [hA]; rfl
              go_wp2
              go_meet
              case rel => exact ⟨by rw [E1.out], by rw [E2.out], hB3⟩
            · have E1 : Hid (lineI L K ad = ad / K) := by unfold Hid lineI; rw [hA]; rfl
              have E2 : Hid (wordI L K ad = ad % K) := by unfold Hid wordI; rw [hA]; rfl
              obtain ⟨d0, d1⟩ := isA_of hA
              go_wp2_with fail
              go_quiet (fail)
              go_wp2
              go_meet
              case rel => exact ⟨by rw [E1.out], by rw [E2.out], hB3.trans ((below_dn _ _).mono hB3.size)⟩
          case rest =>
            obtain ⟨rfl, rfl, hB4⟩ := hcut
            clear c0 c1 c2 c3 c4 c5 c6 c7 clt hB3
            generalize wc = wq at *
            generalize lineI L K ad = xl at *
            generalize wordI L K ad = xw at *
            obtain ⟨c0, c1, c2, c3, c4, c5, c6, c7, clt⟩ := hcb.below hB4
            go_upto_region 13 with fail
            refine tells13 N L K S Y O I g ln xl xw av nv cv zi W wq _ hcb hsl hB4 N0 N1 L0 L1 K0 K1 S0 S1 (by omega) _ _ _ _ _ _ _ _ _ _ _ _ _ _ _ _ _ _ _ _ _ _ _ _ _ _ _ _ _ _ _ _ _ _ _ _ _ _ _ _ _ _ _ _ _ _ _ _ _ _ _ _ _ _ _ _ _ _ _ _ _ _ _ _ _ _ _ _ _ _ _ _ _ _ _ _ _ _ _ _ _ _ _ _ _ _ _ _ _ _ _ _ _ _ _ _ _ _ _ _ _ _ _ _ _ _ _ _ _ _ _ _ _ _ _ _ _ _ _ _ _ _ _ _ _ _ _ _ _ _ _ _ _ _ _ _ _ _ _ _ _ _ _ _ _ _ (fun c a dst v w h => by cases dst <;> exact h) ?_
            intro r81 r82 r83 r84 r85 r86 r87 r88 r89 r90 r91 r92 r93 r94 r95 r96 r97 r98 r99 r100 r101 r102 r103 r104 r105 r106 r107 r108 r109 r110 r111 r112 r113 r114 r115 r116 r117 r118 r119 r120 r121 wr hbr
            have hB5 := next hB4 hbr
            clear c0 c1 c2 c3 c4 c5 c6 c7 clt hB4 hbr
            have hBw5 := next hbw hB5
            have s0 : wr.cell? ⟨w.heap.size, 0, none⟩ = some (.int .i64 n) := by rw [hB5.cell (p := ⟨w.heap.size, 0, none⟩) hslt]; exact hset 0 _ rfl
            have s1 : wr.cell? ⟨w.heap.size, 1, none⟩ = some (.int .i64 l) := by rw [hB5.cell (p := ⟨w.heap.size, 1, none⟩) hslt]; exact hset 1 _ rfl
            have s2 : wr.cell? ⟨w.heap.size, 2, none⟩ = some (.int .i64 k) := by rw [hB5.cell (p := ⟨w.heap.size, 2, none⟩) hslt]; exact hset 2 _ rfl
            have s3 : wr.cell? ⟨w.heap.size, 3, none⟩ = some (.int .i64 s) := by rw [hB5.cell (p := ⟨w.heap.size, 3, none⟩) hslt]; exact hset 3 _ rfl
            have s4 : wr.cell? ⟨w.heap.size, 4, none⟩ = some (.int .i64 y) := by rw [hB5.cell (p := ⟨w.heap.size, 4, none⟩) hslt]; exact hset 4 _ rfl
            have s5 : wr.cell? ⟨w.heap.size, 5, none⟩ = some (.int .i64 o) := by rw [hB5.cell (p := ⟨w.heap.size, 5, none⟩) hslt]; exact hset 5 _ rfl
            have s6 : wr.cell? ⟨w.heap.size, 6, none⟩ = some (.int .i64 i) := by rw [hB5.cell (p := ⟨w.heap.size, 6, none⟩) hslt]; exact hset 6 _ rfl
            have s7 : wr.cell? ⟨w.heap.size, 7, none⟩ = some (.slice a0 n0 q0) := by rw [hB5.cell (p := ⟨w.heap.size, 7, none⟩) hslt]; exact hset 7 _ rfl
            have s8 : wr.cell? ⟨w.heap.size, 8, none⟩ = some (.slice a1 n1 q1) := by rw [hB5.cell (p := ⟨w.heap.size, 8, none⟩) hslt]; exact hset 8 _ rfl
            have s9 : wr.cell? ⟨w.heap.size, 9, none⟩ = some (.slice a2 n2 q2) := by rw [hB5.cell (p := ⟨w.heap.size, 9, none⟩) hslt]; exact hset 9 _ rfl
            have s10 : wr.cell? ⟨w.heap.size, 10, none⟩ = some (.slice a3 n3 q3) := by rw [hB5.cell (p := ⟨w.heap.size, 10, none⟩) hslt]; exact hset 10 _ rfl
            have s11 : wr.cell? ⟨w.heap.size, 11, none⟩ = some (.slice a4 n4 q4) := by rw [hB5.cell (p := ⟨w.heap.size, 11, none⟩) hslt]; exact hset 11 _ rfl
            go_upto_if 127 with (go_at_call 13; refine (programs_any n l k s y o i a0 n0 q0 z0 a1 n1 q1 z1 a2 n2 q2 z2 a3 n3 q3 z3 a4 n4 q4 z4 12 _ (h0.below (by exact hBw5)) (h1.below (by exact hBw5)) (h2.below (by exact hBw5)) (h3.below (by exact hBw5)) (h4.below (by exact hBw5)) (by omega)).mono ?_; rintro e w6 ⟨N', L', K', S', Y', O', I', zi', gO, rows, ps, rfl, hcf', hgO, hgrid, hpl, hfine, hb6⟩; obtain ⟨rfl, rfl, rfl, rfl, rfl, rfl, rfl, rfl⟩ := hcf.one hcf')
            have hB6 := next hB5 hb6
            have hgW : W.heap.size ≤ gO := Nat.le_trans hB5.size hgO
            clear s0 s1 s2 s3 s4 s5 s6 s7 s8 s9 s10 s11 hb6 hB5 hcf' hgO
            have HPL : Hid (ps.length = N) := hpl
            clear hpl
            go_cut [127] (fun _ wx => ∃ rows ps, Grid wx gO rows ps ∧ ps.length = N ∧ Below W.heap.size W wx)
            case first =>
              by_cases hm : (more.tmod 3 == 0) = true
              · go_upto_region 17 with fail
                refine tells17 N gO L K b0 m0 e0 y0 b1 m1 e1 y1 b2 m2 e2 y2 w W w6 rows ps _ g0 g1 g2 hbw hB6 N0 N1 hgrid HPL.out hfine hgW _ _ _ _ _ _ _ _ _ _ _ _ _ _ _ _ _ _ _ _ _ _ _ _ _ _ _ _ _ _ _ _ _ _ _ _ _ _ _ _ _ _ _ _ _ _ _ _ _ _ _ _ _ _ _ _ _ _ _ _ _ _ _ _ _ _ _ _ _ _ _ _ _ _ _ _ _ _ _ _ _ _ _ _ _ _ _ _ _ _ _ _ _ _ _ _ _ _ _ _ _ _ _ _ _ _ _ _ _ _ _ _ _ _ _ _ _ _ _ _ _ _ _ _ _ _ _ _ _ _ _ _ _ _ _ _ _ _ _ _ _ _ _ _ _ _ _ _ _ _ (fun c a dst v w h => by cases dst <;> exact h) ?_
                intro r128 r129 r130 r131 r132 r133 r134 r135 r136 r137 wn hrel
                go_wp2_with fail
                go_meet
                case rel => exact hrel
              · have hm' : (more.tmod 3 == 0) = false := by simpa using hm
                clear hm
                go_wp2
                go_meet
                case rel => exact ⟨rows, ps, hgrid, HPL.out, hB6⟩
            case rest =>
              obtain ⟨rows', ps', hgrid', hpl', hB7⟩ := hcut
              generalize wc = wt at *
              clear hgrid hB6 hfine
              have hpr := hgrid'.progs (by omega)
              rw [hpl'] at hpr
              have HPL' : Hid (ps'.length = N) := hpl'
              clear hpl' hgrid'
              have hN1 : (1 : Int) ≤ (N : Int) := by omega
              have hN12 : N = 1 ∨ 2 ≤ N := by omega
              rcases hN12 with rfl | hN2
              · clear hN1 N0 N1
                go_upto_if 140 with fail
                go_cut [22] (fun v wx => (∃ a cap qs, v = .slice a (List.length qs) cap ∧ Progs wt a cap qs) ∧ wt = wx)
                case first =>
                  by_cases hm : (more.tmod 11 == 10) = true
                  · go_wp2
                    go_meet
                    case rel => exact ⟨⟨some ⟨gO, 0, none⟩, 0, [], rfl, progs_zero _ _⟩, rfl⟩
                  · have hm' : (more.tmod 11 == 10) = false := by simpa using hm
                    clear hm
                    go_wp2
                    go_meet
                    case rel => exact ⟨⟨some ⟨gO, 0, none⟩, 1, ps', by rw [HPL'.out], hpr⟩, rfl⟩
                case rest =>
                  obtain ⟨⟨af, cf, qs, rfl, hqs⟩, hw⟩ := hcut
                  subst hw
                  obtain ⟨c0, c1, c2, c3, c4, c5, c6, c7, clt⟩ := hcb.below hB7
                  go_upto_region 20 with fail
                  have uc := @Up.cell
                  have uf := @Up.frozen
                  cases hb : opsOk (1 : Nat) L K qs
                  all_goals
                    have HB : Hid (opsOk (1 : Nat) L K qs = _) := hb
                    clear hb
                    have i0 : errI false = 1 := rfl
                    have i1 : errI true = 0 := rfl
                    refine wp_region_up (by kernel_rfl) (by kernel_rfl) ?_
                    repeat (go_big_quiet_step (first | (go_at_call 14; exact Calls.up_of (ops_e (hqs.below (Subtype.property _)) (by omega) (by omega) (by omega) (by omega) HB.out (by assumption))) | (go_at_call 25; exact Calls.up_of (refOps_e (hqs.below (Subtype.property _)) (by omega) (by omega) (by omega) (by omega) HB.out)) | (go_at_call 11; exact Calls.up_of (wakes_any _))))
                    refine wpQuiet_nil ?_
                    rintro _ ⟨u, rfl⟩
                    clear uc uf
                    go_wp2
                    go_ret
                    exact ⟨rfl, next hbw (next hB7 u.2)⟩
              · have hne : ¬ N = 1 := by omega
                have hN2' : (2 : Int) ≤ (N : Int) := by omega
                go_upto_if 140 with fail
                go_cut [22] (fun v wx => (∃ a cap qs, v = .slice a (List.length qs) cap ∧ Progs wt a cap qs) ∧ wt = wx)
                case first =>
                  by_cases hm : (more.tmod 11 == 10) = true
                  · go_wp2
                    go_meet
                    case rel => exact ⟨⟨some ⟨gO, 0 + 1, none⟩, N - 1, ps'.drop 1, by rw [List.length_drop, HPL'.out], hpr.tail (by rw [HPL'.out]; omega)⟩, rfl⟩
                  · have hm' : (more.tmod 11 == 10) = false := by simpa using hm
                    clear hm
                    go_wp2
                    go_meet
                    case rel => exact ⟨⟨some ⟨gO, 0, none⟩, N, ps', by rw [HPL'.out], hpr⟩, rfl⟩
                case rest =>
                  obtain ⟨⟨af, cf, qs, rfl, hqs⟩, hw⟩ := hcut
                  subst hw
                  obtain ⟨c0, c1, c2, c3, c4, c5, c6, c7, clt⟩ := hcb.below hB7
                  go_upto_region 20 with fail
                  have uc := @Up.cell
                  have uf := @Up.frozen
                  cases hb : opsOk N L K qs
                  all_goals
                    have HB : Hid (opsOk N L K qs = _) := hb
                    clear hb
                    have i0 : errI false = 1 := rfl
                    have i1 : errI true = 0 := rfl
                    refine wp_region_up (by kernel_rfl) (by kernel_rfl) ?_
                    repeat (go_big_quiet_step (first | (go_at_call 14; exact Calls.up_of (ops_e (hqs.below (Subtype.property _)) (by omega) (by omega) (by omega) (by omega) HB.out (by assumption))) | (go_at_call 25; exact Calls.up_of (refOps_e (hqs.below (Subtype.property _)) (by omega) (by omega) (by omega) (by omega) HB.out)) | (go_at_call 11; exact Calls.up_of (wakes_any _))))
                    refine wpQuiet_nil ?_
                    rintro _ ⟨u, rfl⟩
                    clear uc uf
                    go_wp2
                    go_ret
                    exact ⟨rfl, next hbw (next hB7 u.2)⟩
end Go.Proofs.Ytpagdfmajeodiaa
