/- The walk of PlanPrograms. No condition. -/
import Derived.Test.YtpagdfmajeodiaaProgSets
namespace Go.Proofs.Ytpagdfmajeodiaa
open Go.RowKit
set_option linter.unusedVariables false

theorem own_rows {w : World} {base N : Nat} {v : Value} {rows : List Value} (N0 : 1 ≤ N) (h : w.ownsRow base 39 1 v (0 + N) ([] ++ rows)) :
    ∃ gx cx cur, v = .slice (some ⟨gx, 0, none⟩) N cx ∧ base ≤ gx ∧ w.heap[gx]? = some (.cells cur 39 (0, 0)) ∧ N ≤ cx ∧ cx ≤ maxLen ∧ cur.size = cx ∧ cur.toList.take N = rows := by
  rw [Nat.zero_add, List.nil_append] at h
  rcases h.2 with ⟨_, e⟩ | ⟨g, cap, cur, e, hb, hh, h1, h2, h3, h4⟩
  · omega
  · exact ⟨g, cap, cur, e, hb, hh, h1, h2, by simpa using h3, by simpa using h4⟩

set_option maxRecDepth 20000 in
set_option maxHeartbeats 2000000 in
theorem planPrograms_walk (w : World) (v : Value) (hv : IsSetup w v) (nn : Int) :
    Calls Try.prog 4 #[v, .int .i64 nn] w fun e w' => e = .returned (.bool true) ∧ Below w.heap.size w w' := by
  obtain ⟨n, l, k, s, y, o, i, a0, n0, q0, z0, a1, n1, q1, z1, a2, n2, q2, z2, a3, n3, q3, z3, a4, n4, q4, z4, rfl, h0, h1, h2, h3, h4⟩ := hv
  unfold setup
  go_enter Try.func4, Try.ntmps4
  go_upto_region 2 with (first
    | (go_at_call 12; refine (config_c _ _ _ _ _ _ _ _ _ _ _ _ _ _ z0 _ (h0.below (by exact ba (Below.refl _ _)))).mono ?_; rintro e w1 ⟨N, L, K, S, Y, O, I, zi, av, nv, cv, rfl, hcf, hnv, hown, hb1⟩; unfold cfg))
  have hbw := ba (o := .cells #[.int .i64 (N : Int), .int .i64 (L : Int), .int .i64 (K : Int), .int .i64 (S : Int), .int .i64 (Y : Int), .int .i64 (O : Int), .int .i64 (I : Int), .slice av nv cv] 25) (next (ba (Below.refl _ _)) hb1)
  have hcb := CB.made w1 N L K S Y O I (.slice av nv cv)
  have hsl := (own_sl hown).below (ba (o := .cells #[.int .i64 (N : Int), .int .i64 (L : Int), .int .i64 (K : Int), .int .i64 (S : Int), .int .i64 (Y : Int), .int .i64 (O : Int), .int .i64 (I : Int), .slice av nv cv] 25) (Below.refl _ _))
  have hset : ∀ j u, (#[.int .i64 n, .int .i64 l, .int .i64 k, .int .i64 s, .int .i64 y, .int .i64 o, .int .i64 i, .slice a0 n0 q0, .slice a1 n1 q1, .slice a2 n2 q2, .slice a3 n3 q3, .slice a4 n4 q4] : Array Value)[j]? = some u → (w1.alloc (.cells #[.int .i64 (N : Int), .int .i64 (L : Int), .int .i64 (K : Int), .int .i64 (S : Int), .int .i64 (Y : Int), .int .i64 (O : Int), .int .i64 (I : Int), .slice av nv cv] 25)).cell? ⟨w.heap.size, j, none⟩ = some u := by
    intro j u hu
    have hlt : w.heap.size < w1.heap.size := by have := hb1.size; simp at this; omega
    rw [World.cell?_alloc_past _ _ _ hlt, hb1.cell (p := ⟨w.heap.size, j, none⟩) (by simp)]
    simpa using hu
  have hslt : w.heap.size < (w1.alloc (.cells #[.int .i64 (N : Int), .int .i64 (L : Int), .int .i64 (K : Int), .int .i64 (S : Int), .int .i64 (Y : Int), .int .i64 (O : Int), .int .i64 (I : Int), .slice av nv cv] 25)).heap.size := by have := hb1.size; simp at this; simp; omega
  generalize w1.alloc (.cells #[.int .i64 (N : Int), .int .i64 (L : Int), .int .i64 (K : Int), .int .i64 (S : Int), .int .i64 (Y : Int), .int .i64 (O : Int), .int .i64 (I : Int), .slice av nv cv] 25) = W at *
  generalize w1.heap.size = g at *
  obtain ⟨N0, N1, L0, L1, K0, K1, S0, S1, Y0, Y1, O0, O1, I0, I1⟩ := hcf.bd
  obtain ⟨p0, p2, p3⟩ := mul_bd L0 L1 K0 K1
  have hlen := hcf.len
  have hnv' := hnv.out
  clear hown hb1 hnv
  have s0 : W.cell? ⟨w.heap.size, 0, none⟩ = some (.int .i64 n) := hset 0 _ rfl
  have s1 : W.cell? ⟨w.heap.size, 1, none⟩ = some (.int .i64 l) := hset 1 _ rfl
  have s2 : W.cell? ⟨w.heap.size, 2, none⟩ = some (.int .i64 k) := hset 2 _ rfl
  have s3 : W.cell? ⟨w.heap.size, 3, none⟩ = some (.int .i64 s) := hset 3 _ rfl
  have s4 : W.cell? ⟨w.heap.size, 4, none⟩ = some (.int .i64 y) := hset 4 _ rfl
  have s5 : W.cell? ⟨w.heap.size, 5, none⟩ = some (.int .i64 o) := hset 5 _ rfl
  have s6 : W.cell? ⟨w.heap.size, 6, none⟩ = some (.int .i64 i) := hset 6 _ rfl
  have s7 : W.cell? ⟨w.heap.size, 7, none⟩ = some (.slice a0 n0 q0) := hset 7 _ rfl
  have s8 : W.cell? ⟨w.heap.size, 8, none⟩ = some (.slice a1 n1 q1) := hset 8 _ rfl
  have s9 : W.cell? ⟨w.heap.size, 9, none⟩ = some (.slice a2 n2 q2) := hset 9 _ rfl
  have s10 : W.cell? ⟨w.heap.size, 10, none⟩ = some (.slice a3 n3 q3) := hset 10 _ rfl
  have s11 : W.cell? ⟨w.heap.size, 11, none⟩ = some (.slice a4 n4 q4) := hset 11 _ rfl
  go_upto_region 3 with (go_at_call 13; refine (programs_any n l k s y o i a0 n0 q0 z0 a1 n1 q1 z1 a2 n2 q2 z2 a3 n3 q3 z3 a4 n4 q4 z4 10 _ (h0.below (by exact hbw)) (h1.below (by exact hbw)) (h2.below (by exact hbw)) (h3.below (by exact hbw)) (h4.below (by exact hbw)) (by omega)).mono ?_; rintro e w6 ⟨N', L', K', S', Y', O', I', zi', gO, rows, ps, rfl, hcf', hgO, hgrid, hpl, hfine, hb6⟩; obtain ⟨rfl, rfl, rfl, rfl, rfl, rfl, rfl, rfl⟩ := hcf.one hcf')
  clear s0 s1 s2 s3 s4 s5 s6 s7 s8 s9 s10 s11 hcf' hset h0 h1 h2 h3 h4 hsl
  have hc6 := hcb.below hb6
  have hok := fine_ok hfine hpl
  refine prog3 N L K S Y O I g gO (.slice av nv cv) w6 rows ps _ hc6 hgrid hpl hok N0 N1 L0 L1 K0 K1 _ _ _ _ _ _ _ _ _ _ _ _ _ _ _ _ _ _ _ _ _ _ _ _ _ _ _ _ _ _ _ _ _ _ _ _ _ _ _ _ _ _ _ _ _ _ _ _ _ _ _ _ _ _ _ _ _ _ _ _ _ _ _ _ _ _ _ _ _ _ _ _ _ _ _ _ _ _ _ _ _ _ _ _ _ _ _ _ _ _ _ _ _ _ _ _ _ _ _ _ _ _ _ _ _ _ _ _ _ _ _ _ _ _ _ _ _ _ (fun c a dst v w h => by cases dst <;> exact h) ?_
  intro r18 r19 r20 r21 r22 r23 r24 r25 r26 r27 r28 r29 r30 r31 r32 r33 wr hbr
  have hgr := hgrid.below hbr
  have hcr := hc6.below hbr
  have hBr : Below w.heap.size w wr := next (next hbw hb6) hbr
  have HPL : Hid (ps.length = N) := hpl
  clear hgrid hc6 hbr hb6 hok hpl hbw hcb hgO
  have k0 : 0 ≤ nn % (N : Int) := Int.emod_nonneg _ (by omega)
  have k1 : nn % (N : Int) < (N : Int) := Int.emod_lt_of_pos _ (by omega)
  obtain ⟨kx, hkx⟩ : ∃ m : Nat, nn % (N : Int) = (m : Int) := ⟨(nn % (N : Int)).toNat, by omega⟩
  have hkN : kx < N := by omega
  obtain ⟨c0, c1, c2, c3, c4, c5, c6, c7, clt⟩ := hcr
  go_wp2_with (first
    | (go_at_call 15; refine (addrs_any _ _ _ _ _ _ _ _ _ (by omega) (by omega) (by omega) (by omega)).mono ?_; rintro e w7 ⟨rfl, hb7⟩; obtain ⟨hc7, hf7⟩ := bcell hb7)
    | (go_at_call 9; refine (within_any _ _ _ (by omega) (by omega)).mono ?_; rintro e wx ⟨rfl, rfl⟩))
  have hpart : (#[.int .i64 0, .int .i64 0, .int .i64 0, .int .i64 5, .int .i64 0, .int .i64 0, .int .i64 (-1), .int .i64 0, .int .i64 0, .int .i64 1, .int .i64 (-1), .int .i64 0, .int .i64 2, .int .i64 ((L : Int) * (K : Int)), .int .i64 0, .int .i64 1, .int .i64 0, .int .i64 1, .int .i64 4, .int .i64 0, .int .i64 (-1)] : Array Value) = (flat (bads ((L : Int) * (K : Int)))).toArray := rfl
  have hlit : ∀ i u, (flat (bads ((L : Int) * (K : Int))))[i]? = some u → (w7.alloc (.cells #[.int .i64 0, .int .i64 0, .int .i64 0, .int .i64 5, .int .i64 0, .int .i64 0, .int .i64 (-1), .int .i64 0, .int .i64 0, .int .i64 1, .int .i64 (-1), .int .i64 0, .int .i64 2, .int .i64 ((L : Int) * (K : Int)), .int .i64 0, .int .i64 1, .int .i64 0, .int .i64 1, .int .i64 4, .int .i64 0, .int .i64 (-1)] 38)).cell? ⟨w7.heap.size, 0 + i, none⟩ = some u := by
    intro i u hu
    rw [Nat.zero_add, World.cell?_alloc_new, hpart]
    simpa using hu
  have hBp : Below wr.heap.size wr (w7.alloc (.cells #[.int .i64 0, .int .i64 0, .int .i64 0, .int .i64 5, .int .i64 0, .int .i64 0, .int .i64 (-1), .int .i64 0, .int .i64 0, .int .i64 1, .int .i64 (-1), .int .i64 0, .int .i64 2, .int .i64 ((L : Int) * (K : Int)), .int .i64 0, .int .i64 1, .int .i64 0, .int .i64 1, .int .i64 4, .int .i64 0, .int .i64 (-1)] 38)) := ba hb7
  have gllt : w7.heap.size < (w7.alloc (.cells #[.int .i64 0, .int .i64 0, .int .i64 0, .int .i64 5, .int .i64 0, .int .i64 0, .int .i64 (-1), .int .i64 0, .int .i64 0, .int .i64 1, .int .i64 (-1), .int .i64 0, .int .i64 2, .int .i64 ((L : Int) * (K : Int)), .int .i64 0, .int .i64 1, .int .i64 0, .int .i64 1, .int .i64 4, .int .i64 0, .int .i64 (-1)] 38)).heap.size := by simp
  generalize w7.alloc (.cells #[.int .i64 0, .int .i64 0, .int .i64 0, .int .i64 5, .int .i64 0, .int .i64 0, .int .i64 (-1), .int .i64 0, .int .i64 0, .int .i64 1, .int .i64 (-1), .int .i64 0, .int .i64 2, .int .i64 ((L : Int) * (K : Int)), .int .i64 0, .int .i64 1, .int .i64 0, .int .i64 1, .int .i64 4, .int .i64 0, .int .i64 (-1)] 38) = Wp at *
  generalize w7.heap.size = gl at *
  have hgp := hgr.below hBp
  have hcp := (CB.mk c0 c1 c2 c3 c4 c5 c6 c7 clt).below hBp
  have hBw := next hBr hBp
  clear hpart hc7 hf7 hb7 hBp hgr c0 c1 c2 c3 c4 c5 c6 c7 clt hBr k0 k1
  obtain ⟨i0, hi, hz0, hz1, hz2⟩ := info_parts Try.infoRow
  have hrl : rows.length = N := by rw [hgp.len]; exact HPL.out
  obtain ⟨pp, hpp⟩ : ∃ p, ps[kx]? = some p := ⟨ps[kx]'(by rw [HPL.out]; omega), by simp⟩
  obtain ⟨ar, cr, hrk, hsk⟩ := hgp.rowAt kx pp hpp
  have hp10 := (hfine pp (List.mem_of_getElem? hpp)).1
  have HPP : Hid (ps[kx]? = some pp) := hpp
  have HRK : Hid (rows[kx]? = some (.slice ar pp.length cr)) := hrk
  have HRL : Hid (rows.length = N) := hrl
  have hkp : kx < ps.length := by rw [HPL.out]; exact hkN
  clear hpp hrk hrl
  go_loopw [51] (fun c wr => ∃ j : Nat, c = .int .i64 j ∧ j ≤ 7 ∧ Below Wp.heap.size Wp wr) (fun c _ => 7 - (intOf c).toNat)
  case atStart => exact ⟨0, rfl, by omega, Below.refl _ _⟩
  case round =>
    obtain ⟨j, rfl, hj, hbr⟩ := hrel
    generalize wr = wo at *
    by_cases hlt : j < 7
    · have hlt' : (j : Int) < 7 := by omega
      obtain ⟨x, hx⟩ : ∃ x, (bads ((L : Int) * (K : Int)))[j]? = some x := ⟨(bads ((L : Int) * (K : Int)))[j]'(by simp [bads]; omega), by simp⟩
      have hbad := bads_no (l := (L : Int)) (k := (K : Int)) x (List.mem_of_getElem? hx)
      obtain ⟨e0, e1, e2⟩ := op_cells hlit hx
      rw [Nat.zero_add] at e0 e1 e2
      rw [← hbr.cell (p := ⟨gl, j * 3, none⟩) gllt] at e0
      rw [← hbr.cell (p := ⟨gl, j * 3 + 1, none⟩) gllt] at e1
      rw [← hbr.cell (p := ⟨gl, j * 3 + 2, none⟩) gllt] at e2
      obtain ⟨xk, xa, xv⟩ := x
      have HBD : Hid (opOk (L : Int) (K : Int) ⟨xk, xa, xv⟩ = false) := hbad
      clear hx hbad
      go_upto_region 11 with (at_builtin; refine wpList_append_own _ rfl _ _ 33 rfl Wp.heap.size 39 i0 (.slice none 0 0) 1 24 Try.underlying33 hi hz0 hz1 hz2 rfl (by decide) _ 0 [] rfl (World.ownsRow_nil _ _ _ _) ⟨gO, 0, none⟩ N N rows rfl (by rw [hgp.len, HPL.out]; simp) (fun q u hu => by rw [Addr.add_lit, Nat.zero_add]; exact (hgp.below (by exact ba hbr)).cell hu) (rows_one hgp) (by unfold maxLen; omega) (by omega) (by have := hbr.size; simp; omega) ?_; intro v8 w8 hown8 hg8 hn8; obtain ⟨gx, cx, cur, ev8, hbx, hhx, hcx, hmxx, hszx, htk⟩ : ∃ gx cx cur, v8 = .slice (some ⟨gx, 0, none⟩) N cx ∧ Wp.heap.size ≤ gx ∧ w8.heap[gx]? = some (.cells cur 39 (0, 0)) ∧ N ≤ cx ∧ cx ≤ maxLen ∧ cur.size = cx ∧ cur.toList.take N = rows := (own_rows N0 hown8); subst ev8)
      have hob : OB w8 wo.heap.size xk xa xv := (OB.made wo xk xa xv).below (below_new hg8)
      have hB8 : Below Wp.heap.size Wp w8 := next (ba hbr) (below_new hg8)
      have gxlt : gx < w8.heap.size := (Array.getElem?_eq_some_iff.1 hhx).1
      have hcell : w8.cell? ⟨gx, kx, none⟩ = some (.slice ar pp.length cr) := by
        rw [cell_of_row w8 gx kx _ _ _ hhx]
        have := HRK.out
        rw [← htk, List.getElem?_take, if_pos hkN] at this
        simpa using this
      have hfz : ∀ q, w8.frozen? ⟨gx, q, none⟩ = false := by intro q; simp [World.frozen?, hhx]
      refine prog11 N kx wo.heap.size gx cx cr ar xk xa xv pp w8 _ hcell hfz gxlt hob (hsk.below hB8) hkN N1 (by omega) _ _ _ _ _ _ _ _ _ _ _ _ _ _ _ _ _ _ _ _ _ _ _ _ _ _ _ _ _ _ _ _ _ _ _ _ _ _ _ _ _ _ _ _ _ _ _ _ _ _ _ _ _ _ _ _ _ _ _ _ _ _ _ _ _ _ _ _ _ _ _ _ _ _ _ _ _ _ _ _ _ _ _ _ _ _ _ _ _ _ _ _ _ _ _ _ _ _ _ _ _ _ _ _ _ _ _ _ _ _ _ _ _ _ _ _ _ (fun c a dst v w h => by cases dst <;> exact h) ?_
      intro r57 r58 r59 r60 r61 r62 r63 r64 r65 r66 r67 w2 a2 c2 w9 hs2 hB2 hlo2 hb9
      have h2x : w2.heap[gx]? = some (.cells cur 39 (0, 0)) := by rw [hB2.block gx gxlt]; exact hhx
      have h3x := heap_setCell_same w2 gx kx cur 39 (.slice a2 (pp.length + 1) c2) h2x
      have hBs := (next hB8 hB2).setCell (p := ⟨gx, kx, none⟩) hbx (.slice a2 (pp.length + 1) c2)
      have hB9 := next hBs hb9
      have h9x : w9.heap[gx]? = some (.cells (cur.setIfInBounds kx (.slice a2 (pp.length + 1) c2)) 39 (0, 0)) := by
        rw [hb9.block gx ((Array.getElem?_eq_some_iff.1 h3x).1)]; exact h3x
      have hkrow : SlV w9 a2 (pp ++ [(⟨xk, xa, xv⟩ : OpI)]).length c2 3 (flat (pp ++ [(⟨xk, xa, xv⟩ : OpI)])) := by
        rw [List.length_append]
        exact (hs2.far (fun ad e h => by have := hlo2 ad e; omega)).below hb9
      have hpr := progs_set (p2 := pp ++ [(⟨xk, xa, xv⟩ : OpI)]) (a2 := a2) (c2 := c2) h9x (by rw [List.length_append]; exact take_lay htk _ hkN) HPL.out HRL.out hcx hmxx (fun i p _ hp => by obtain ⟨ai, ci, e, hs⟩ := hgp.rowAt i p hp; exact ⟨ai, ci, e, hs.below hB9⟩) hkrow hkN
      have hno : opsOk N L K (ps.set kx (pp ++ [(⟨xk, xa, xv⟩ : OpI)])) = false := ops_bad hkp (prog_bad HBD.out)
      have hql : (ps.set kx (pp ++ [(⟨xk, xa, xv⟩ : OpI)])).length = N := by rw [List.length_set]; exact HPL.out
      generalize ps.set kx (pp ++ [(⟨xk, xa, xv⟩ : OpI)]) = qs at *
      have HNO : Hid (opsOk N L K qs = false) := hno
      have HQL : Hid (qs.length = N) := hql
      clear hno hql hkrow h9x h3x h2x hBs hb9 hs2 hB2 hlo2 hob hcell hfz hsk
      obtain ⟨c0, c1, c2', c3, c4, c5, c6, c7, clt⟩ := hcp.below hB9
      go_wp2_with (go_at_call 14; refine (ops_n hpr HQL.out (by omega) (by omega) (by omega) (by omega) HNO.out errI_f).mono ?_; rintro e w10 ⟨rfl, hb10⟩)
      go_roundw
      case rel => exact ⟨j + 1, by go_num, by omega, next hB9 hb10⟩
      case measure => simp [intOf]; omega
    · have hge : (7 : Int) ≤ (j : Int) := by omega
      clear hlt
      have hmk := make_ops
      go_upto_region 16 with (at_builtin; refine wpList_append_own _ rfl _ _ 33 rfl Wp.heap.size 39 i0 (.slice none 0 0) 1 24 Try.underlying33 hi hz0 hz1 hz2 rfl (by decide) _ 0 [] rfl (World.ownsRow_nil _ _ _ _) ⟨gO, 0, none⟩ N N rows rfl (by rw [hgp.len, HPL.out]; simp) (fun q u hu => by rw [Addr.add_lit, Nat.zero_add]; exact (hgp.below (by exact hbr)).cell hu) (rows_one hgp) (by unfold maxLen; omega) (by omega) (by have := hbr.size; omega) ?_; intro v8 w8 hown8 hg8 hn8; obtain ⟨gx, cx, cur, ev8, hbx, hhx, hcx, hmxx, hszx, htk⟩ : ∃ gx cx cur, v8 = .slice (some ⟨gx, 0, none⟩) N cx ∧ Wp.heap.size ≤ gx ∧ w8.heap[gx]? = some (.cells cur 39 (0, 0)) ∧ N ≤ cx ∧ cx ≤ maxLen ∧ cur.size = cx ∧ cur.toList.take N = rows := (own_rows N0 hown8); subst ev8)
      have gxlt : gx < w8.heap.size := (Array.getElem?_eq_some_iff.1 hhx).1
      have hB8 : Below Wp.heap.size Wp w8 := next hbr (below_new hg8)
      have hcell : w8.cell? ⟨gx, kx, none⟩ = some (.slice ar pp.length cr) := by
        rw [cell_of_row w8 gx kx _ _ _ hhx]
        have := HRK.out
        rw [← htk, List.getElem?_take, if_pos hkN] at this
        simpa using this
      have hfz : ∀ q, w8.frozen? ⟨gx, q, none⟩ = false := by intro q; simp [World.frozen?, hhx]
      have hgm : Wp.heap.size ≤ w8.heap.size := hB8.size
      have h8r : ((w8.setCell ⟨gx, kx, none⟩ (.slice (some ⟨w8.heap.size, 0, none⟩) 24 24)).alloc (.cells (flat zeroOps).toArray 38)).heap[w8.heap.size]? = some (.cells (flat zeroOps).toArray 38 (0, 0)) := by
        have := heap_alloc_new (w8.setCell ⟨gx, kx, none⟩ (.slice (some ⟨w8.heap.size, 0, none⟩) 24 24)) (.cells (flat zeroOps).toArray 38)
        simpa using this
      have h8x : ((w8.setCell ⟨gx, kx, none⟩ (.slice (some ⟨w8.heap.size, 0, none⟩) 24 24)).alloc (.cells (flat zeroOps).toArray 38)).heap[gx]? = some (.cells (cur.setIfInBounds kx (.slice (some ⟨w8.heap.size, 0, none⟩) 24 24)) 39 (0, 0)) := by
        rw [Below.heap_alloc _ _ _ (by simpa using gxlt)]
        exact heap_setCell_same w8 gx kx cur 39 (.slice (some ⟨w8.heap.size, 0, none⟩) 24 24) hhx
      have hBn := ba (o := (.cells (flat zeroOps).toArray 38)) (hB8.setCell (p := ⟨gx, kx, none⟩) hbx (.slice (some ⟨w8.heap.size, 0, none⟩) 24 24))
      go_wp2
      have hgxm : gx ≠ w8.heap.size := by omega
      generalize (w8.setCell ⟨gx, kx, none⟩ (.slice (some ⟨w8.heap.size, 0, none⟩) 24 24)).alloc (.cells (flat zeroOps).toArray 38) = W8 at *
      generalize w8.heap.size = gm at *
      have htk8 := take_lay htk (.slice (some ⟨gm, 0, none⟩) 24 24) hkN
      have hc8 : W8.cell? ⟨gx, kx, none⟩ = some (.slice (some ⟨gm, 0, none⟩) 24 24) := by
        rw [cell_of_row W8 gx kx _ _ _ h8x]
        have : (rows.set kx (.slice (some ⟨gm, 0, none⟩) 24 24))[kx]? = some (.slice (some ⟨gm, 0, none⟩) 24 24) := by rw [List.getElem?_set, if_pos rfl, if_pos (by rw [HRL.out]; exact hkN)]
        rw [← htk8, List.getElem?_take, if_pos hkN] at this
        rw [← Array.getElem?_toList]; exact this
      have gx8 : gx < W8.heap.size := (Array.getElem?_eq_some_iff.1 h8x).1
      clear hcell hfz hown8 hg8 hn8 hB8 hhx hmk hlit hsk
      go_loopw [84] (fun c wr => ∃ (j : Nat) (q : List OpI), c = .int .i64 j ∧ j ≤ 24 ∧ q.length = 24 ∧ (q.take j).all (opOk L K) = true ∧ wr.heap[gm]? = some (.cells (flat q).toArray 38 (0, 0)) ∧ W8.grownBy wr (some gm)) (fun c _ => 24 - (intOf c).toNat)
      case atStart => exact ⟨0, _, rfl, by omega, zeroOps_len, rfl, h8r, ⟨rfl, rfl, rfl, Nat.le_refl _, fun _ _ _ => rfl⟩⟩
      case round =>
        obtain ⟨m, q, rfl, hm, hq, hall, hrow, hgw⟩ := hrel
        have HQ : Hid (q.length = 24) := hq
        have HA : Hid ((q.take m).all (opOk L K) = true) := hall
        clear hq hall
        have hcr : wr.cell? ⟨gx, kx, none⟩ = some (.slice (some ⟨gm, 0, none⟩) 24 24) := by
          rw [World.cell?_of_block (w := W8) (a := ⟨gx, kx, none⟩) (hgw.block gx gx8 (by simp; exact hgxm))]; exact hc8
        have gxr : gx < wr.heap.size := Nat.lt_of_lt_of_le gx8 hgw.size
        by_cases hlm : m < 24
        · have hlm' : (m : Int) < 24 := by omega
          have hgood : opOk L K ⟨3, (m : Int) % ((L : Int) * (K : Int)), nn⟩ = true := opOk_mk (isA_mk (Int.emod_nonneg _ (by omega)) (Int.emod_lt_of_pos _ (by omega))) rfl
          go_upto_region 20 with fail
          refine prog20 N kx gx cx gm m ((L : Int) * (K : Int)) nn q wr _ hcr gxr hrow HQ.out hlm (by omega) (by omega) hkN N1 _ _ _ _ _ _ _ _ _ _ _ _ _ _ _ _ _ _ _ _ _ _ _ _ _ _ _ _ _ _ _ _ _ _ _ _ _ _ _ _ _ _ _ _ _ _ _ _ _ _ _ _ _ _ _ _ _ _ _ _ _ _ _ _ _ _ _ _ _ _ _ _ _ _ _ _ _ _ _ _ _ _ _ _ _ _ _ _ _ _ _ _ _ _ _ _ _ _ _ _ _ _ _ _ _ _ _ _ _ _ _ _ _ _ _ (fun c a dst v w h => by cases dst <;> exact h) ?_
          intro r87 r88 r89 r90 r91 r92 r93 r94 r95 r96 r97 w9 hrow9 hg9
          go_wp2
          go_roundw
          case rel => exact ⟨m + 1, _, by go_num, by omega, by rw [List.length_set]; exact HQ.out, fill_step (by rw [HQ.out]; omega) HA.out hgood, hrow9, ⟨hg9.os.trans hgw.os, hg9.tape.trans hgw.tape, hg9.output.trans hgw.output, Nat.le_trans hgw.size hg9.size, fun k hk hne => (hg9.block k (Nat.lt_of_lt_of_le hk hgw.size) hne).trans (hgw.block k hk hne)⟩⟩
          case measure => simp [intOf]; omega
        · have hge2 : (24 : Int) ≤ (m : Int) := by omega
          have hqok : progOk (L : Int) (K : Int) q = true := by
            unfold progOk
            have := HA.out
            rw [List.take_of_length_le (by rw [HQ.out]; omega)] at this
            rw [decide_eq_true (by rw [HQ.out]; omega), this]; rfl
          have hBr : Below Wp.heap.size Wp wr := hBn.grown hgw hBn.size (fun x hx => by simp at hx; omega)
          have hrx : wr.heap[gx]? = some (.cells (cur.setIfInBounds kx (.slice (some ⟨gm, 0, none⟩) 24 24)) 39 (0, 0)) := by
            rw [hgw.block gx gx8 (by simp; exact hgxm)]; exact h8x
          have hownm : wr.ownsRow Wp.heap.size 38 3 (.slice (some ⟨gm, 0, none⟩) 24 24) 24 (flat q) := by
            refine ⟨by rw [flat_len, HQ.out], .inr ⟨gm, 24, (flat q).toArray, rfl, hgm, hrow, Nat.le_refl _, by unfold maxLen; omega, by simp [flat_len, HQ.out], ?_⟩⟩
            exact List.take_of_length_le (by simp [flat_len, HQ.out])
          have hkrow : SlV wr (some ⟨gm, 0, none⟩) q.length 24 3 (flat q) := by
            obtain ⟨a', c', e', hs'⟩ := slv_own hownm
            simp at e'
            obtain ⟨rfl, rfl⟩ := e'
            rw [HQ.out]; exact hs'
          have hin : ∀ (w' : World), Below Wp.heap.size Wp w' → ∀ (i : Nat) (p : List OpI), i ≠ kx → ps[i]? = some p → ∃ ai ci, rows[i]? = some (Value.slice ai p.length ci) ∧ SlV w' ai p.length ci 3 (flat p) := by
            intro w' hb i p _ hp
            obtain ⟨ai, ci, e, hs⟩ := hgp.rowAt i p hp
            exact ⟨ai, ci, e, hs.below hb⟩
          have hpr := progs_set (p2 := q) (a2 := some ⟨gm, 0, none⟩) (c2 := 24) hrx (by rw [HQ.out]; exact htk8) HPL.out HRL.out hcx hmxx (hin wr hBr) hkrow hkN
          have HOK : Hid (opsOk N L K (ps.set kx q) = true) := ops_good hfine HPL.out hqok
          have HQL : Hid ((ps.set kx q).length = N) := by unfold Hid; rw [List.length_set]; exact HPL.out
          obtain ⟨c0, c1, c2, c3, c4, c5, c6, c7, clt⟩ := hcp.below hBr
          generalize wr = wb at *
          go_upto_region 24 with (go_at_call 14; refine (ops_n hpr HQL.out (by omega) (by omega) (by omega) (by omega) HOK.out errI_t).mono ?_; rintro e w10 ⟨rfl, hb10⟩)
          have hown10 := ownsRow_below hownm hb10
          have hB10 := next hBr hb10
          have h10x : w10.heap[gx]? = some (.cells (cur.setIfInBounds kx (.slice (some ⟨gm, 0, none⟩) 24 24)) 39 (0, 0)) := by rw [hb10.block gx gxr]; exact hrx
          have hc10 : w10.cell? ⟨gx, kx, none⟩ = some (.slice (some ⟨gm, 0, none⟩) 24 24) := by rw [hb10.cell (p := ⟨gx, kx, none⟩) gxr]; exact hcr
          have gx10 : gx < w10.heap.size := Nat.lt_of_lt_of_le gxr hb10.size
          clear c0 c1 c2 c3 c4 c5 c6 c7 clt hb10 hpr HOK HQL hkrow hrx hownm hcr
          obtain ⟨j0, hj, hw0, hw1, hw2⟩ := info_parts Try.infoOp
          go_upto_region 25 with (at_builtin; refine wpList_append_own _ rfl _ _ 39 rfl Wp.heap.size 38 j0 (.agg #[.int .i64 0, .int .i64 0, .int .i64 0]) 3 24 Try.underlying39 hj hw0 hw1 hw2 rfl (by decide) (.slice (some ⟨gm, 0, none⟩) 24 24) 24 (flat q) rfl (ownsRow_below hown10 (by exact ba (Below.refl _ _))) ⟨w10.heap.size, 0, none⟩ 1 1 (flat [⟨1, 0, 0⟩]) rfl rfl (news_op w10 ⟨1, 0, 0⟩) (flat_one _) (by unfold maxLen; omega) (by omega) (by have := hB10.size; simp; omega) ?_; intro v11 w11 hown11 hg11 hn11; obtain ⟨a11, c11, e11, hs11⟩ := slv_own hown11; subst e11; have h11x : w11.heap[gx]? = some (.cells (cur.setIfInBounds kx (.slice (some ⟨gm, 0, none⟩) 24 24)) 39 (0, 0)) := (by rw [hg11.block gx (by simp; omega) (by simp [Value.ownBlock]; exact hgxm), Below.heap_alloc _ _ _ gx10]; exact h10x); have hc11 : w11.cell? ⟨gx, kx, none⟩ = some (.slice (some ⟨gm, 0, none⟩) 24 24) := (by rw [World.cell?_of_block (w := w10) (a := ⟨gx, kx, none⟩) (h11x.trans h10x.symm)]; exact hc10); have hf11 : ∀ z, w11.frozen? ⟨gx, z, none⟩ = false := (by intro z; simp [World.frozen?, h11x]))
          have hB11 : Below Wp.heap.size Wp w11 := (ba hB10).grown hg11 (by have := hB10.size; simp; omega) (fun x hx => by simp [Value.ownBlock] at hx; omega)
          have h12x := heap_setCell_same w11 gx kx _ 39 (.slice a11 (24 + 1) c11) h11x
          have hB12 := hB11.setCell (p := ⟨gx, kx, none⟩) hbx (.slice a11 (24 + 1) c11)
          have hne11 : ∀ ad : Addr, a11 = some ad → ad.block ≠ gx := by
            intro ad e h
            subst e
            rcases hown11.2 with ⟨e1, _⟩ | ⟨g', cap', cur', e1, _, hh, _⟩
            · cases e1
            · simp at e1
              rw [e1.1] at h
              simp at h
              rw [h, h11x] at hh
              simp at hh
          have hkrow : SlV (w11.setCell ⟨gx, kx, none⟩ (.slice a11 (24 + 1) c11)) a11 (q ++ [(⟨1, 0, 0⟩ : OpI)]).length c11 3 (flat (q ++ [(⟨1, 0, 0⟩ : OpI)])) := by
            rw [List.length_append, HQ.out, flat_append]
            exact hs11.far hne11
          have htk12 : ((cur.setIfInBounds kx (.slice (some ⟨gm, 0, none⟩) 24 24)).setIfInBounds kx (.slice a11 (24 + 1) c11)).toList.take N = rows.set kx (.slice a11 (q ++ [(⟨1, 0, 0⟩ : OpI)]).length c11) := by
            rw [take_lay htk8 _ hkN, List.set_set, List.length_append, HQ.out]; rfl
          have hpr := progs_set (p2 := q ++ [(⟨1, 0, 0⟩ : OpI)]) (a2 := a11) (c2 := c11) h12x htk12 HPL.out HRL.out hcx hmxx (hin _ hB12) hkrow hkN
          have HNO : Hid (opsOk N L K (ps.set kx (q ++ [(⟨1, 0, 0⟩ : OpI)])) = false) := ops_bad hkp (prog_long (by rw [List.length_append, HQ.out]; simp))
          have HQL : Hid ((ps.set kx (q ++ [(⟨1, 0, 0⟩ : OpI)])).length = N) := by unfold Hid; rw [List.length_set]; exact HPL.out
          generalize ps.set kx (q ++ [(⟨1, 0, 0⟩ : OpI)]) = qs at *
          obtain ⟨c0, c1, c2, c3, c4, c5, c6, c7, clt⟩ := hcp.below hB12
          generalize w11.setCell ⟨gx, kx, none⟩ (.slice a11 (24 + 1) c11) = w12 at *
          go_wp2_with (first
            | (go_at_call 14; refine (ops_n hpr HQL.out (by omega) (by omega) (by omega) (by omega) HNO.out errI_f).mono ?_; rintro e w13 ⟨rfl, hb13⟩)
            | (go_at_call 11; refine (wakes_any _).mono ?_; rintro e w14 ⟨rfl, hb14⟩))
          go_ret
          exact ⟨rfl, next hBw (next (next hB12 hb13) hb14)⟩
end Go.Proofs.Ytpagdfmajeodiaa
