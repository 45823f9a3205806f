/- The contract of the document's Deliver, where it delivers. Conditions: as its theorem states them. -/
import Derived.Test.YtjdbjmfkheffdaaPart8
namespace Go.Proofs.Ytjdbjmfkheffdaa
open Go.RowKit
set_option linter.unusedVariables false
set_option maxRecDepth 20000

section
variable (w : World) {gr gs N O I cap : Nat} {F : Nat → List Pk} {M : Nat → Nat → Prop} {D : Nat → Prop}
set_option maxHeartbeats 2000000 in
theorem refDel_ok (h : DF w gr gs N O I cap F M D) (hDl : ∀ k, D k → k < w.heap.size) (a' bit mask : Int) (hm0 : 0 ≤ mask) (hm1 : mask < 65536) (q k : Nat) (x : Pk) (hq : q < 2 * N) (hx : (F (pr q))[k]? = some x) (ha : a' = ((laneL F q).length : Int) + k) (hg : Good N x) (hw : wireB x bit mask = true) (hl : ((F (pr (toQ x) + 2)).length : Int) < Rm O I (pr (toQ x) + 2)) (hI1 : I ≤ 1000) :
    Calls Try.prog 24 #[.pointer (some ⟨gr, 0, none⟩), .int .i64 a', .int .i64 bit, .int .u16 mask] w fun e w' => e = .returned (.int .i64 0) ∧ ∃ M', DF w' gr gs N O I cap (upd (upd F (pr (toQ x) + 2) (F (pr (toQ x) + 2) ++ [x])) (pr q) ((F (pr q)).eraseIdx k)) M' D ∧ (∀ r, r < 4 * N → ∀ k, M' r k → (∃ r', r' < 4 * N ∧ M r' k) ∨ (w.heap.size ≤ k ∧ k < w'.heap.size)) ∧ Keep (fun k => k = gs ∨ ∃ r, r < 4 * N ∧ M r k) w w' := by
  have t0 := ((Pk.right_iff x).1 hg.r).t.1
  have t1 := hg.t
  have hs2' := sortN_lt x
  obtain ⟨tn, htn⟩ : ∃ tn : Nat, x.t = (tn : Int) := ⟨x.t.toNat, by omega⟩
  obtain ⟨sn, hsn⟩ : ∃ sn : Nat, sortN x = sn := ⟨_, rfl⟩
  rw [hsn] at hs2'
  have htn4 : tn < N := by omega
  have hqi : tn * 4 + 2 + sn < 4 * N := by omega
  have hqe : pr (toQ x) + 2 = tn * 4 + 2 + sn := by unfold pr toQ; rw [hsn]; omega
  rw [hqe] at hl
  rw [hqe]
  obtain ⟨rm, hrm⟩ : ∃ rm : Int, Rm O I (tn * 4 + 2 + sn) = rm := ⟨_, rfl⟩
  rw [hrm] at hl
  have HR0 : Hid (sn = 0 → rm = (I : Int)) := fun e => by rw [← hrm, e]; unfold Rm; rw [if_pos (by omega)]
  have HR1 : Hid (sn = 1 → rm = 1) := fun e => by rw [← hrm, e]; unfold Rm; rw [if_neg (by omega), if_pos (by omega)]
  have HRM : Hid (rm ≤ 1000) := by show _ ≤ _; rw [← hrm]; unfold Rm; have := h.o1; repeat (first | omega | split)
  have HSN : Hid ((sn : Int) = (sortN x : Int)) := by show _ = _; rw [hsn]
  have HTN : Hid (x.t = (tn : Int)) := htn
  have HPQ : Hid (pr q ≠ tn * 4 + 2 + sn) := by show _ ≠ _; rw [← hqe]; exact pr_ne
  clear t0 t1 htn hsn hrm hqe
  have hk : k < (F (pr q)).length := (List.getElem?_eq_some_iff.1 hx).1
  have hpl : pr q < 4 * N := by have := pr_lt hq; omega
  have n1 := h.n1
  have hLL := lane_len h.rm (m := 2 * N) (by omega)
  obtain ⟨hA1, hA2, _⟩ := lane_found F hx (2 * N) hq
  obtain ⟨A, hAe⟩ : ∃ A : Nat, (laneL F q).length + k = A := ⟨_, rfl⟩
  rw [hAe] at hA1 hA2
  obtain rfl : a' = (A : Int) := by omega
  obtain ⟨L, hL⟩ : ∃ L, laneL F (2 * N) = L := ⟨_, rfl⟩
  rw [hL] at hA1 hA2 hLL
  have HL : Hid (laneL F (2 * N) = L) := hL
  have HAE : Hid ((laneL F q).length + k = A) := hAe
  have HX : Hid ((F (pr q))[k]? = some x) := hx
  have HW : Hid (wireB x bit mask = true) := hw
  have HM : Hid (0 ≤ mask ∧ mask < 65536) := ⟨hm0, hm1⟩
  have HG : Hid (Good N x) := hg
  have HS12 : Hid ((B.sealI (packI x)).length = 12 + 8 * x.z.length) := by show _ = _; rw [sealI_len, packI_len]; omega
  have HZ8 : Hid (x.z.length ≤ 8) := by show _ ≤ _; have := ((Pk.right_iff x).1 hg.r).z; omega
  have i0 : (A : Int) < (L.length : Int) := by omega
  have i1 : ¬ (A : Int) < 0 := by omega
  have HA12 : Hid (A ≤ 12000) := by show _ ≤ _; omega
  clear hL hAe hx hw hm0 hm1 hg ha hA1
  go_enter Try.func24, Try.ntmps24
  go_upto_region 2 with (go_at_call 22; refine (refUnder_any _ h hDl).mono ?_; rintro e w1 ⟨MA, R, a1, c1, rfl, hU⟩; rw [HL.out] at hU ⊢)
  obtain ⟨x', d, bo, oo, hxL, hRx, hdat, rfl, hMb, hbl, ⟨e0, e1, e2, e3, e4, e5, e6, e7, e8⟩, _⟩ := hU.row.get (i := A) (by omega)
  obtain rfl : x' = x := by rw [hA2] at hxL; exact (Option.some.inj hxL).symm
  have hcp := hU.row.row.le
  have hmx := hU.row.row.max
  unfold maxLen at hmx
  have hb1 := hU.bel
  obtain ⟨ad, nd, cd, rfl, hsd, hnd, hdd⟩ := id hdat
  clear hxL hRx hA2
  go_upto_region 5 with fail
  have hB := next hb1 (ba (o := .cells #[.int .i64 x'.k, .int .i64 x'.f, .int .i64 x'.t, .int .i64 x'.i, .int .i64 x'.l, .int .i64 x'.p, .int .i64 x'.s, .bool x'.fl, .slice ad nd cd] 26) (Below.refl w1.heap.size w1))
  have bx := Bx.made w1 x' (.slice ad nd cd)
  have hd2 := hdat.below (ba (o := .cells #[.int .i64 x'.k, .int .i64 x'.f, .int .i64 x'.t, .int .i64 x'.i, .int .i64 x'.l, .int .i64 x'.p, .int .i64 x'.s, .bool x'.fl, .slice ad nd cd] 26) (Below.refl w1.heap.size w1))
  have hs2 := hsd.below (ba (o := .cells #[.int .i64 x'.k, .int .i64 x'.f, .int .i64 x'.t, .int .i64 x'.i, .int .i64 x'.l, .int .i64 x'.p, .int .i64 x'.s, .bool x'.fl, .slice ad nd cd] 26) (Below.refl w1.heap.size w1))
  have hgp : w.heap.size ≤ w1.heap.size := hb1.size
  have HMO : Hid (∀ q, q < 4 * N → ¬ M q w1.heap.size) := fun q hq hm => by have := h.net.old hq hm; omega
  clear e0 e1 e2 e3 e4 e5 e6 e7 e8 hcp hmx hb1 hdat hsd hU hbl hMb
  generalize w1.alloc (.cells #[.int .i64 x'.k, .int .i64 x'.f, .int .i64 x'.t, .int .i64 x'.i, .int .i64 x'.l, .int .i64 x'.p, .int .i64 x'.s, .bool x'.fl, .slice ad nd cd] 26) = w2 at *
  generalize w1.heap.size = gp at *
  obtain ⟨q0, q1, q2, q3, q4, q5, q6, q7, q8, qf, ql⟩ := id bx
  go_upto_if 58 with (first
    | (go_at_call 47; refine (refPack_yes x' ad nd cd _ hs2 HG.out.r).mono ?_; rintro e w3 ⟨v3, rfl, ho3, hb3⟩; obtain ⟨a3, c3, rfl, hs3⟩ := ho3.sl' HS12.out)
    | (go_at_call 49; refine (B.refSpoil_any a3 _ _ c3 bit mask _ hs3 (by have := HZ8.out; omega) HM.out.1 HM.out.2).mono ?_; rintro e w4 ⟨v4, rfl, ho4, hb4⟩; obtain ⟨a4, c4, rfl, hs4⟩ := ho4.sl' (n := 12 + 8 * x'.z.length) (by rw [B.spoilI_len]; exact HS12.out))
    | (go_at_call 48; refine (refUnpack_any a4 _ _ c4 _ hs4 (by have := HZ8.out; omega)).mono ?_; intro e w5 hU5; obtain ⟨a5, m5, c5, rfl, hs5, lo5, hb5⟩ := hU5.out_yes (wire_yes HG.out.r HG.out.z HW.out); unfold Pk.val; have hb25 := next (next hb3 hb4) hb5; obtain ⟨q0, q1, q2, q3, q4, q5, q6, q7, q8, qf, ql⟩ := bx.next hb25; have hc6 := (h.below (next hB hb25)).c6; have hlt := (h.below (next hB hb25)).lt)
    | (go_at_call 46; refine (refSort_any _ x' _ HSN.out).mono ?_; rintro e w6 ⟨rfl, hb6⟩; have hc6 := (h.below (next (next hB (next hb25 (ba (Below.refl _ _)))) hb6)).c6; have hlt := (h.below (next (next hB (next hb25 (ba (Below.refl _ _)))) hb6)).lt))
  have hb26 := next (next hb25 (ba (Below.refl _ _))) hb6
  replace h := h.below (next hB hb26)
  have hB6 := next hB hb26
  have bx6 := bx.next hb26
  have hd6 := hd2.below hb26
  clear q0 q1 q2 q3 q4 q5 q6 q7 q8 qf ql hc6 hlt hb26 hb6 hb25 hb5 hb4 hb3 hs5 lo5 hU5 hs4 hs3 ho4 ho3 bx hd2 hs2 hB
  go_cut [16] (fun v wx => v = .int .i64 rm ∧ wx = w6)
  case first =>
    have hsc : sn = 0 ∨ sn = 1 := by omega
    rcases hsc with hsc | hsc
    · have hrm := HR0.out hsc
      subst hrm hsc
      go_wp2_with fail
      go_meet
      case rel => exact ⟨rfl, rfl⟩
    · have hrm := HR1.out hsc
      subst hrm hsc
      go_wp2_with fail
      go_meet
      case rel => exact ⟨rfl, rfl⟩
  case rest =>
    obtain ⟨rfl, rfl⟩ := hcut
    obtain ⟨R, ra, rc, hrc, hp⟩ := h.at hqi
    have cs := h.cs
    have lt := h.lt
    have lts := h.net.lt
    have cp := h.cp.1
    have cp2 := h.cp.2
    have hmx := h.rm _ hqi
    unfold maxLen at cp2
    have q2 := bx6.c2
    have ql := bx6.lt
    rw [HTN.out] at q2
    have j0 : (tn : Int) < (N : Int) := by omega
    have j1 : (sn : Int) < 2 := by omega
    generalize hT : (F (tn * 4 + 2 + sn)).length = T at *
    have hge : ¬ rm ≤ (T : Int) := by omega
    clear hl
    go_upto_region 13 with fail
    go_quiet (fail)
    go_upto_region 15 with fail
    refine wp_region_orders 25 rfl (by kernel_rfl) ?_
    have hdr : Below wc.heap.size wc (wc.drewN nq).drew := (below_dn _ _).drew
    replace h := h.below hdr
    replace bx6 := bx6.next hdr
    replace hB6 := next hB6 hdr
    replace hd6 := hd6.below hdr
    replace hp := hp.below hdr
    replace hrc := ((bcell hdr).1 gs (tn * 4 + 2 + sn) lts).trans hrc
    replace cs := ((bcell hdr).1 gr 8 lt).trans cs
    clear hdr lt lts q2 ql
    generalize (wc.drewN nq).drew = V at *
    have hI : (fun V' : World => V'.cell? ⟨gr, 8, none⟩ = some (.slice (some ⟨gs, 0, none⟩) N cap) ∧ V'.cell? ⟨gs, tn * 4 + 2 + sn, none⟩ = some (.slice ra T rc) ∧ Bx V' gp x' (.slice ad nd cd)) V := ⟨cs, hrc, bx6⟩
    refine any_inv (fun V' : World => V'.cell? ⟨gr, 8, none⟩ = some (.slice (some ⟨gs, 0, none⟩) N cap) ∧ V'.cell? ⟨gs, tn * 4 + 2 + sn, none⟩ = some (.slice ra T rc) ∧ Bx V' gp x' (.slice ad nd cd)) [24] hI ?_
    refine inv_take [24] 0 (.pointer (some ⟨gr, 0, none⟩)) hI rfl (by kernel_rfl) (by kernel_rfl) (by kernel_rfl) (by kernel_rfl) (by kernel_rfl) (fun _ _ _ h => h) (by kernel_rfl) (fun w hI => by obtain ⟨i1, i2, ⟨k0, k1, k2, k3, k4, k5, k6, k7, k8, kf, kl⟩⟩ := hI; try rw [HTN.out] at k2; go_simp) ?_
    simp only [Act.put, List.setIfInBounds_toArray, List.set_cons_zero, List.set_cons_succ]
    refine inv_take [24] 1 (.pointer (some ⟨gr, 0, none⟩)) hI rfl (by kernel_rfl) (by kernel_rfl) (by kernel_rfl) (by kernel_rfl) (by kernel_rfl) (fun _ _ _ h => h) (by kernel_rfl) (fun w hI => by obtain ⟨i1, i2, ⟨k0, k1, k2, k3, k4, k5, k6, k7, k8, kf, kl⟩⟩ := hI; try rw [HTN.out] at k2; go_simp) ?_
    simp only [Act.put, List.setIfInBounds_toArray, List.set_cons_zero, List.set_cons_succ]
    refine inv_take [24] 2 (.pointer (some ⟨gr, 8, none⟩)) hI rfl (by kernel_rfl) (by kernel_rfl) (by kernel_rfl) (by kernel_rfl) (by kernel_rfl) (fun _ _ _ h => h) (by kernel_rfl) (fun w hI => by obtain ⟨i1, i2, ⟨k0, k1, k2, k3, k4, k5, k6, k7, k8, kf, kl⟩⟩ := hI; try rw [HTN.out] at k2; go_simp) ?_
    simp only [Act.put, List.setIfInBounds_toArray, List.set_cons_zero, List.set_cons_succ]
    refine inv_take [24] 3 (.slice (some ⟨gs, 0, none⟩) N cap) hI rfl (by kernel_rfl) (by kernel_rfl) (by kernel_rfl) (by kernel_rfl) (by kernel_rfl) (fun _ _ _ h => h) (by kernel_rfl) (fun w hI => by obtain ⟨i1, i2, ⟨k0, k1, k2, k3, k4, k5, k6, k7, k8, kf, kl⟩⟩ := hI; try rw [HTN.out] at k2; go_simp) ?_
    simp only [Act.put, List.setIfInBounds_toArray, List.set_cons_zero, List.set_cons_succ]
    refine inv_take [24] 4 (.pointer (some ⟨gp, 2, none⟩)) hI rfl (by kernel_rfl) (by kernel_rfl) (by kernel_rfl) (by kernel_rfl) (by kernel_rfl) (fun _ _ _ h => h) (by kernel_rfl) (fun w hI => by obtain ⟨i1, i2, ⟨k0, k1, k2, k3, k4, k5, k6, k7, k8, kf, kl⟩⟩ := hI; try rw [HTN.out] at k2; go_simp) ?_
    simp only [Act.put, List.setIfInBounds_toArray, List.set_cons_zero, List.set_cons_succ]
    refine inv_take [24] 5 (.int .i64 (tn : Int)) hI rfl (by kernel_rfl) (by kernel_rfl) (by kernel_rfl) (by kernel_rfl) (by kernel_rfl) (fun _ _ _ h => h) (by kernel_rfl) (fun w hI => by obtain ⟨i1, i2, ⟨k0, k1, k2, k3, k4, k5, k6, k7, k8, kf, kl⟩⟩ := hI; try rw [HTN.out] at k2; go_simp) ?_
    simp only [Act.put, List.setIfInBounds_toArray, List.set_cons_zero, List.set_cons_succ]
    refine inv_take [24] 6 (.int .i64 (sn : Int)) hI rfl (by kernel_rfl) (by kernel_rfl) (by kernel_rfl) (by kernel_rfl) (by kernel_rfl) (fun _ _ _ h => h) (by kernel_rfl) (fun w hI => by obtain ⟨i1, i2, ⟨k0, k1, k2, k3, k4, k5, k6, k7, k8, kf, kl⟩⟩ := hI; try rw [HTN.out] at k2; go_simp) ?_
    simp only [Act.put, List.setIfInBounds_toArray, List.set_cons_zero, List.set_cons_succ]
    refine inv_take [24] 7 (.pointer (some ⟨gr, 0, none⟩)) hI rfl (by kernel_rfl) (by kernel_rfl) (by kernel_rfl) (by kernel_rfl) (by kernel_rfl) (fun _ _ _ h => h) (by kernel_rfl) (fun w hI => by obtain ⟨i1, i2, ⟨k0, k1, k2, k3, k4, k5, k6, k7, k8, kf, kl⟩⟩ := hI; try rw [HTN.out] at k2; go_simp) ?_
    simp only [Act.put, List.setIfInBounds_toArray, List.set_cons_zero, List.set_cons_succ]
    refine inv_take [24] 8 (.pointer (some ⟨gr, 0, none⟩)) hI rfl (by kernel_rfl) (by kernel_rfl) (by kernel_rfl) (by kernel_rfl) (by kernel_rfl) (fun _ _ _ h => h) (by kernel_rfl) (fun w hI => by obtain ⟨i1, i2, ⟨k0, k1, k2, k3, k4, k5, k6, k7, k8, kf, kl⟩⟩ := hI; try rw [HTN.out] at k2; go_simp) ?_
    simp only [Act.put, List.setIfInBounds_toArray, List.set_cons_zero, List.set_cons_succ]
    refine inv_take [24] 9 (.pointer (some ⟨gr, 8, none⟩)) hI rfl (by kernel_rfl) (by kernel_rfl) (by kernel_rfl) (by kernel_rfl) (by kernel_rfl) (fun _ _ _ h => h) (by kernel_rfl) (fun w hI => by obtain ⟨i1, i2, ⟨k0, k1, k2, k3, k4, k5, k6, k7, k8, kf, kl⟩⟩ := hI; try rw [HTN.out] at k2; go_simp) ?_
    simp only [Act.put, List.setIfInBounds_toArray, List.set_cons_zero, List.set_cons_succ]
    refine inv_take [24] 10 (.slice (some ⟨gs, 0, none⟩) N cap) hI rfl (by kernel_rfl) (by kernel_rfl) (by kernel_rfl) (by kernel_rfl) (by kernel_rfl) (fun _ _ _ h => h) (by kernel_rfl) (fun w hI => by obtain ⟨i1, i2, ⟨k0, k1, k2, k3, k4, k5, k6, k7, k8, kf, kl⟩⟩ := hI; try rw [HTN.out] at k2; go_simp) ?_
    simp only [Act.put, List.setIfInBounds_toArray, List.set_cons_zero, List.set_cons_succ]
    refine inv_take [24] 11 (.pointer (some ⟨gp, 2, none⟩)) hI rfl (by kernel_rfl) (by kernel_rfl) (by kernel_rfl) (by kernel_rfl) (by kernel_rfl) (fun _ _ _ h => h) (by kernel_rfl) (fun w hI => by obtain ⟨i1, i2, ⟨k0, k1, k2, k3, k4, k5, k6, k7, k8, kf, kl⟩⟩ := hI; try rw [HTN.out] at k2; go_simp) ?_
    simp only [Act.put, List.setIfInBounds_toArray, List.set_cons_zero, List.set_cons_succ]
    refine inv_take [24] 12 (.int .i64 (tn : Int)) hI rfl (by kernel_rfl) (by kernel_rfl) (by kernel_rfl) (by kernel_rfl) (by kernel_rfl) (fun _ _ _ h => h) (by kernel_rfl) (fun w hI => by obtain ⟨i1, i2, ⟨k0, k1, k2, k3, k4, k5, k6, k7, k8, kf, kl⟩⟩ := hI; try rw [HTN.out] at k2; go_simp) ?_
    simp only [Act.put, List.setIfInBounds_toArray, List.set_cons_zero, List.set_cons_succ]
    refine inv_take [24] 13 (.int .i64 (sn : Int)) hI rfl (by kernel_rfl) (by kernel_rfl) (by kernel_rfl) (by kernel_rfl) (by kernel_rfl) (fun _ _ _ h => h) (by kernel_rfl) (fun w hI => by obtain ⟨i1, i2, ⟨k0, k1, k2, k3, k4, k5, k6, k7, k8, kf, kl⟩⟩ := hI; try rw [HTN.out] at k2; go_simp) ?_
    simp only [Act.put, List.setIfInBounds_toArray, List.set_cons_zero, List.set_cons_succ]
    refine inv_take [24] 14 (.pointer (some ⟨gs, tn * 4, none⟩)) hI rfl (by kernel_rfl) (by kernel_rfl) (by kernel_rfl) (by kernel_rfl) (by kernel_rfl) (fun _ _ _ h => h) (by kernel_rfl) (fun w hI => by obtain ⟨i1, i2, ⟨k0, k1, k2, k3, k4, k5, k6, k7, k8, kf, kl⟩⟩ := hI; try rw [HTN.out] at k2; go_simp) ?_
    simp only [Act.put, List.setIfInBounds_toArray, List.set_cons_zero, List.set_cons_succ]
    refine inv_take [24] 15 (.pointer (some ⟨gs, tn * 4 + 2, none⟩)) hI rfl (by kernel_rfl) (by kernel_rfl) (by kernel_rfl) (by kernel_rfl) (by kernel_rfl) (fun _ _ _ h => h) (by kernel_rfl) (fun w hI => by obtain ⟨i1, i2, ⟨k0, k1, k2, k3, k4, k5, k6, k7, k8, kf, kl⟩⟩ := hI; try rw [HTN.out] at k2; go_simp) ?_
    simp only [Act.put, List.setIfInBounds_toArray, List.set_cons_zero, List.set_cons_succ]
    refine inv_take [24] 16 (.pointer (some ⟨gs, tn * 4 + 2 + sn, none⟩)) hI rfl (by kernel_rfl) (by kernel_rfl) (by kernel_rfl) (by kernel_rfl) (by kernel_rfl) (fun _ _ _ h => h) (by kernel_rfl) (fun w hI => by obtain ⟨i1, i2, ⟨k0, k1, k2, k3, k4, k5, k6, k7, k8, kf, kl⟩⟩ := hI; try rw [HTN.out] at k2; go_simp) ?_
    simp only [Act.put, List.setIfInBounds_toArray, List.set_cons_zero, List.set_cons_succ]
    refine inv_take [24] 17 (.slice ra T rc) hI rfl (by kernel_rfl) (by kernel_rfl) (by kernel_rfl) (by kernel_rfl) (by kernel_rfl) (fun _ _ _ h => h) (by kernel_rfl) (fun w hI => by obtain ⟨i1, i2, ⟨k0, k1, k2, k3, k4, k5, k6, k7, k8, kf, kl⟩⟩ := hI; try rw [HTN.out] at k2; go_simp) ?_
    simp only [Act.put, List.setIfInBounds_toArray, List.set_cons_zero, List.set_cons_succ]
    refine inv_take [24] 18 (x'.val (.slice ad nd cd)) hI rfl (by kernel_rfl) (by kernel_rfl) (by kernel_rfl) (by kernel_rfl) (by kernel_rfl) (fun _ _ _ h => h) (by kernel_rfl) (fun w hI => by obtain ⟨i1, i2, ⟨k0, k1, k2, k3, k4, k5, k6, k7, k8, kf, kl⟩⟩ := hI; go_simp) ?_
    simp only [Act.put, List.setIfInBounds_toArray, List.set_cons_zero, List.set_cons_succ]
    refine inv_take [22, 23, 24] 21 (.pointer (some ⟨gs, tn * 4, none⟩)) hI rfl (by kernel_rfl) (by kernel_rfl) (by kernel_rfl) (by kernel_rfl) (by kernel_rfl) (fun _ _ _ h => h) (by kernel_rfl) (fun w hI => by obtain ⟨i1, i2, ⟨k0, k1, k2, k3, k4, k5, k6, k7, k8, kf, kl⟩⟩ := hI; try rw [HTN.out] at k2; go_simp) ?_
    simp only [Act.put, List.setIfInBounds_toArray, List.set_cons_zero, List.set_cons_succ]
    refine inv_take [23, 24] 22 (.pointer (some ⟨gs, tn * 4 + 2, none⟩)) hI rfl (by kernel_rfl) (by kernel_rfl) (by kernel_rfl) (by kernel_rfl) (by kernel_rfl) (fun _ _ _ h => h) (by kernel_rfl) (fun w hI => by obtain ⟨i1, i2, ⟨k0, k1, k2, k3, k4, k5, k6, k7, k8, kf, kl⟩⟩ := hI; try rw [HTN.out] at k2; go_simp) ?_
    simp only [Act.put, List.setIfInBounds_toArray, List.set_cons_zero, List.set_cons_succ]
    refine inv_list 19 (by kernel_rfl) rfl ?_
    go_wp2
    have hb4 := ba (o := .cells #[.int .i64 x'.k, .int .i64 x'.f, .int .i64 x'.t, .int .i64 x'.i, .int .i64 x'.l, .int .i64 x'.p, .int .i64 x'.s, .bool x'.fl, .slice ad nd cd] 26) (Below.refl V.heap.size V)
    have bxn := Bx.made V x' (.slice ad nd cd)
    have hI4 : (fun V' : World => V'.cell? ⟨gr, 8, none⟩ = some (.slice (some ⟨gs, 0, none⟩) N cap) ∧ V'.cell? ⟨gs, tn * 4 + 2 + sn, none⟩ = some (.slice ra T rc) ∧ Bx V' gp x' (.slice ad nd cd)) (V.alloc (.cells #[.int .i64 x'.k, .int .i64 x'.f, .int .i64 x'.t, .int .i64 x'.i, .int .i64 x'.l, .int .i64 x'.p, .int .i64 x'.s, .bool x'.fl, .slice ad nd cd] 26)) := ⟨((bcell hb4).1 gr 8 h.lt).trans cs, ((bcell hb4).1 gs (tn * 4 + 2 + sn) h.net.lt).trans hrc, bx6.next hb4⟩
    refine ⟨hI4, ?_⟩
    replace h := h.below hb4
    replace hd6 := hd6.below hb4
    replace hB6 := next hB6 hb4
    replace hp := hp.below hb4
    clear hI cs hrc bx6 hb4
    generalize V.alloc (.cells #[.int .i64 x'.k, .int .i64 x'.f, .int .i64 x'.t, .int .i64 x'.i, .int .i64 x'.l, .int .i64 x'.p, .int .i64 x'.s, .bool x'.fl, .slice ad nd cd] 26) = V4 at *
    generalize V.heap.size = bs at *
    obtain ⟨f0, hi, hp0, hp1, hp2⟩ := info_parts Try.infoPk
    refine inv_list 20 (by kernel_rfl) rfl ?_
    refine wpList_append_rw V4 (M (tn * 4 + 2 + sn)) (by kernel_rfl) (.tmp 90) (.tmp 92) 53 rfl 26 f0 (zeroPk.val (.slice none 0 0)) 9 88 Try.underlying53 hi hp0 hp1 hp2 rfl (by decide) ra T rc (pflat R) rfl hp.row ⟨bs, 0, none⟩ 1 1 (pcells x' (.slice ad nd cd)) rfl (by omega) rfl bxn.news (pcells_one rfl) (by unfold maxLen; omega) (by omega) ?_
    intro a5 c5 w5 hrw5 hk5
    have hI : (fun V' : World => V'.cell? ⟨gr, 8, none⟩ = some (.slice (some ⟨gs, 0, none⟩) N cap) ∧ V'.cell? ⟨gs, tn * 4 + 2 + sn, none⟩ = some (.slice ra T rc) ∧ Bx V' gp x' (.slice ad nd cd)) w5 := ⟨(hk5.cell 8 h.lt (h.nm _ hqi)).trans hI4.1, (hk5.cell (tn * 4 + 2 + sn) h.net.lt (h.net.ngs _ hqi)).trans hI4.2.1, hI4.2.2.keep hk5 (HMO.out _ hqi)⟩
    refine then_n ⟨hI, ?_⟩
    simp only [Act.put, List.setIfInBounds_toArray, List.set_cons_zero, List.set_cons_succ]
    refine inv_take [24] 23 (.pointer (some ⟨gs, tn * 4 + 2 + sn, none⟩)) hI rfl (by kernel_rfl) (by kernel_rfl) (by kernel_rfl) (by kernel_rfl) (by kernel_rfl) (fun _ _ _ h => h) (by kernel_rfl) (fun w hI => by obtain ⟨i1, i2, ⟨k0, k1, k2, k3, k4, k5, k6, k7, k8, kf, kl⟩⟩ := hI; try rw [HTN.out] at k2; go_simp) ?_
    simp only [Act.put, List.setIfInBounds_toArray, List.set_cons_zero, List.set_cons_succ]
    refine inv_write 24 (by kernel_rfl) (by kernel_rfl) rfl ?_
    have hcc5 := hI.2.1
    have hfz5 : w5.frozen? ⟨gs, tn * 4 + 2 + sn, none⟩ = false := by rw [hk5.frozen _ h.net.lt (h.net.ngs _ hqi)]; exact h.net.fz _
    go_wp2
    refine then_n ?_
    refine any_done (by kernel_rfl) ?_
    clear hcc5 hfz5 hI hI4
    have hDl4 : ∀ k, D k → k < V4.heap.size := fun k hk => Nat.lt_of_lt_of_le (hDl k hk) hB6.size
    have hp5 := hp.snoc (E := D) hd6 (fun k hk hm => h.net.nd hqi hm hk) hDl4 hDl4 hrw5 hk5
    rw [show (fun k => D k ∨ D k) = D by funext k; simp] at hp5
    obtain ⟨h5, hk6⟩ := h.set hqi hk5 hp5 (fun k h => h.imp id (fun h => h.1)) (by rw [List.length_append, hT]; simp; have := HRM.out; omega)
    have hk7 := Keep.pre hB6 hk6
    have hsz : (w5.setCell ⟨gs, tn * 4 + 2 + sn, none⟩ (.slice a5 (T + 1) c5)).heap.size = w5.heap.size := by simp
    have hB6s := hB6.size
    have hz5 := hk5.size
    clear h hp hp5 hd6 hB6 hk6 hrw5 hk5 bxn hDl4
    generalize w5.setCell ⟨gs, tn * 4 + 2 + sn, none⟩ (.slice a5 (T + 1) c5) = w7 at *
    have HF1 : Hid (∀ r, r % 4 < 2 → upd F (tn * 4 + 2 + sn) (F (tn * 4 + 2 + sn) ++ [x']) r = F r) := fun r hr => upd_other _ _ (by omega)
    have HM1 : Hid (∀ k, M (tn * 4 + 2 + sn) k ∨ (V4.heap.size ≤ k ∧ k < w5.heap.size) → M (tn * 4 + 2 + sn) k ∨ (w.heap.size ≤ k ∧ k < w7.heap.size)) := fun k hk => hk.imp id (fun hk => by omega)
    have cs := h5.cs
    have lt := h5.lt
    obtain ⟨M1, hM1⟩ : ∃ M1, (upd M (tn * 4 + 2 + sn) fun k => M (tn * 4 + 2 + sn) k ∨ V4.heap.size ≤ k ∧ k < w5.heap.size) = M1 := ⟨_, rfl⟩
    have HMa : Hid (∀ r, r < 4 * N → ∀ k, M1 r k → (∃ r', r' < 4 * N ∧ M r' k) ∨ (w.heap.size ≤ k ∧ k < w7.heap.size)) := fun r hr k hk => by
      rw [← hM1] at hk
      by_cases e : r = tn * 4 + 2 + sn
      · subst e; rw [upd_same] at hk; exact (HM1.out k hk).imp (fun h => ⟨_, hqi, h⟩) id
      · rw [upd_other _ _ e] at hk; exact .inl ⟨r, hr, hk⟩
    have HMb : Hid (∀ r, r % 4 < 2 → M1 r = M r) := fun r hr => by rw [← hM1]; exact upd_other _ _ (by omega)
    rw [hM1] at h5
    have hw7 : w.heap.size ≤ w7.heap.size := hk7.size
    clear hM1 HM1 hsz hB6s hz5
    go_wp2_with fail
    go_loopw [1, 102] (fun v vi wx => ∃ (i B : Nat), i ≤ N ∧ vi = .int .i64 (i : Int) ∧ v = .int .i64 (B : Int) ∧ Hid ((laneL F (2 * i)).length + B = A) ∧ 2 * i ≤ q ∧ wx = w7) (fun _ vi _ => N - (intOf vi).toNat)
    case atStart => exact ⟨0, A, by omega, rfl, rfl, by show _ = _; simp [laneL], by omega, rfl⟩
    case round =>
      obtain ⟨i, B0, hiN, rfl, rfl, HB0, h2i, rfl⟩ := hrel
      have hlt : i < N := by omega
      have i3 : (i : Int) < (N : Int) := by omega
      go_wp2_with fail
      go_loopw [1, 18] (fun v vj wx => ∃ (j B : Nat), j ≤ 2 ∧ vj = .int .i64 (j : Int) ∧ v = .int .i64 (B : Int) ∧ Hid ((laneL F (2 * i + j)).length + B = A) ∧ 2 * i + j ≤ q ∧ wx = wr) (fun _ vj _ => 2 - (intOf vj).toNat)
      case atStart => exact ⟨0, B0, by omega, rfl, rfl, HB0, by omega, rfl⟩
      case round =>
        obtain ⟨j, B, hj, rfl, rfl, HB, hij, rfl⟩ := hrel
        clear HB0
        by_cases hj2 : j < 2
        · obtain ⟨R, ra, rc, hrc, hp⟩ := h5.at (q := i * 4 + j) (by omega)
          rw [HF1.out (i * 4 + j) (by omega)] at hrc hp
          have hpr : pr (2 * i + j) = i * 4 + j := by unfold pr; omega
          have HPR : Hid (pr (2 * i + j) = i * 4 + j) := hpr
          have hn1 := h5.rm (i * 4 + j) (by omega)
          rw [HF1.out (i * 4 + j) (by omega)] at hn1
          obtain ⟨n, hn⟩ : ∃ n, (F (i * 4 + j)).length = n := ⟨_, rfl⟩
          rw [hn] at hrc hp hn1
          have HN : Hid ((F (i * 4 + j)).length = n) := hn
          have j3 : (j : Int) < 2 := by omega
          by_cases hqe : 2 * i + j = q
          · have hBk : B = k := by have h1 := HB.out; have h2 := HAE.out; rw [hqe] at h1; omega
            subst hBk hqe
            have hBn : B < n := by have := hk; rw [hpr, hn] at this; exact this
            have hBn2 : (B : Int) < (n : Int) := by omega
            clear hn hpr hk
            obtain ⟨rb, ro, rfl⟩ : ∃ rb ro, ra = some ⟨rb, ro, none⟩ := by
              obtain ⟨_, _, b', o', _, _, _, e, _⟩ := hp.get (i := B) hBn
              exact ⟨b', o', e⟩
            have hle := hp.row.le
            have hmx2 := hp.row.max
            unfold maxLen at hmx2
            have lts := h5.net.lt
            have hB12 : B ≤ 12000 := by have := HB.out; have := HA12.out; omega
            go_upto_region 24 with fail
            obtain ⟨AR, hAR⟩ : ∃ AR : Addr, (if rc = B + 1 then some (⟨rb, ro, none⟩ : Addr) else some ⟨rb, ro + (B + 1) * 9, none⟩) = some AR := by split <;> exact ⟨_, rfl⟩
            refine wp_region_orders 37 rfl (by kernel_rfl) ?_
            have hdr : Below wr.heap.size wr wr.drew := (Below.refl _ _).drew
            have hdz : wr.drew.heap.size = wr.heap.size := by simp
            replace h5 := h5.below hdr
            replace hp := hp.below hdr
            replace hrc := ((bcell hdr).1 gs (i * 4 + j) lts).trans hrc
            replace cs := ((bcell hdr).1 gr 8 lt).trans cs
            replace hk7 := hk7.next hdr
            rw [← hdz] at HMa hw7
            clear hdr hdz lt lts
            generalize wr.drew = V at *
            have hI : (fun V' : World => V'.cell? ⟨gr, 8, none⟩ = some (.slice (some ⟨gs, 0, none⟩) N cap) ∧ V'.cell? ⟨gs, i * 4 + j, none⟩ = some (.slice (some ⟨rb, ro, none⟩) n rc)) V := ⟨cs, hrc⟩
            refine any_inv (fun V' : World => V'.cell? ⟨gr, 8, none⟩ = some (.slice (some ⟨gs, 0, none⟩) N cap) ∧ V'.cell? ⟨gs, i * 4 + j, none⟩ = some (.slice (some ⟨rb, ro, none⟩) n rc)) [36] hI ?_
            refine inv_take [36] 0 (.pointer (some ⟨gr, 0, none⟩)) hI rfl (by kernel_rfl) (by kernel_rfl) (by kernel_rfl) (by kernel_rfl) (by kernel_rfl) (fun _ _ _ h => h) (by kernel_rfl) (fun w hI => by obtain ⟨i1, i2⟩ := hI; go_simp) ?_
            simp only [Act.put, List.setIfInBounds_toArray, List.set_cons_zero, List.set_cons_succ]
            refine inv_take [36] 1 (.pointer (some ⟨gr, 0, none⟩)) hI rfl (by kernel_rfl) (by kernel_rfl) (by kernel_rfl) (by kernel_rfl) (by kernel_rfl) (fun _ _ _ h => h) (by kernel_rfl) (fun w hI => by obtain ⟨i1, i2⟩ := hI; go_simp) ?_
            simp only [Act.put, List.setIfInBounds_toArray, List.set_cons_zero, List.set_cons_succ]
            refine inv_take [36] 2 (.pointer (some ⟨gr, 8, none⟩)) hI rfl (by kernel_rfl) (by kernel_rfl) (by kernel_rfl) (by kernel_rfl) (by kernel_rfl) (fun _ _ _ h => h) (by kernel_rfl) (fun w hI => by obtain ⟨i1, i2⟩ := hI; go_simp) ?_
            simp only [Act.put, List.setIfInBounds_toArray, List.set_cons_zero, List.set_cons_succ]
            refine inv_take [36] 3 (.slice (some ⟨gs, 0, none⟩) N cap) hI rfl (by kernel_rfl) (by kernel_rfl) (by kernel_rfl) (by kernel_rfl) (by kernel_rfl) (fun _ _ _ h => h) (by kernel_rfl) (fun w hI => by obtain ⟨i1, i2⟩ := hI; go_simp) ?_
            simp only [Act.put, List.setIfInBounds_toArray, List.set_cons_zero, List.set_cons_succ]
            refine inv_take [36] 4 (.int .i64 (i : Int)) hI rfl (by kernel_rfl) (by kernel_rfl) (by kernel_rfl) (by kernel_rfl) (by kernel_rfl) (fun _ _ _ h => h) (by kernel_rfl) (fun w hI => by obtain ⟨i1, i2⟩ := hI; go_simp) ?_
            simp only [Act.put, List.setIfInBounds_toArray, List.set_cons_zero, List.set_cons_succ]
            refine inv_take [36] 5 (.int .i64 (j : Int)) hI rfl (by kernel_rfl) (by kernel_rfl) (by kernel_rfl) (by kernel_rfl) (by kernel_rfl) (fun _ _ _ h => h) (by kernel_rfl) (fun w hI => by obtain ⟨i1, i2⟩ := hI; go_simp) ?_
            simp only [Act.put, List.setIfInBounds_toArray, List.set_cons_zero, List.set_cons_succ]
            refine inv_take [36] 6 (.pointer (some ⟨gr, 0, none⟩)) hI rfl (by kernel_rfl) (by kernel_rfl) (by kernel_rfl) (by kernel_rfl) (by kernel_rfl) (fun _ _ _ h => h) (by kernel_rfl) (fun w hI => by obtain ⟨i1, i2⟩ := hI; go_simp) ?_
            simp only [Act.put, List.setIfInBounds_toArray, List.set_cons_zero, List.set_cons_succ]
            refine inv_take [36] 7 (.pointer (some ⟨gr, 0, none⟩)) hI rfl (by kernel_rfl) (by kernel_rfl) (by kernel_rfl) (by kernel_rfl) (by kernel_rfl) (fun _ _ _ h => h) (by kernel_rfl) (fun w hI => by obtain ⟨i1, i2⟩ := hI; go_simp) ?_
            simp only [Act.put, List.setIfInBounds_toArray, List.set_cons_zero, List.set_cons_succ]
            refine inv_take [36] 8 (.pointer (some ⟨gr, 8, none⟩)) hI rfl (by kernel_rfl) (by kernel_rfl) (by kernel_rfl) (by kernel_rfl) (by kernel_rfl) (fun _ _ _ h => h) (by kernel_rfl) (fun w hI => by obtain ⟨i1, i2⟩ := hI; go_simp) ?_
            simp only [Act.put, List.setIfInBounds_toArray, List.set_cons_zero, List.set_cons_succ]
            refine inv_take [36] 9 (.slice (some ⟨gs, 0, none⟩) N cap) hI rfl (by kernel_rfl) (by kernel_rfl) (by kernel_rfl) (by kernel_rfl) (by kernel_rfl) (fun _ _ _ h => h) (by kernel_rfl) (fun w hI => by obtain ⟨i1, i2⟩ := hI; go_simp) ?_
            simp only [Act.put, List.setIfInBounds_toArray, List.set_cons_zero, List.set_cons_succ]
            refine inv_take [36] 10 (.int .i64 (i : Int)) hI rfl (by kernel_rfl) (by kernel_rfl) (by kernel_rfl) (by kernel_rfl) (by kernel_rfl) (fun _ _ _ h => h) (by kernel_rfl) (fun w hI => by obtain ⟨i1, i2⟩ := hI; go_simp) ?_
            simp only [Act.put, List.setIfInBounds_toArray, List.set_cons_zero, List.set_cons_succ]
            refine inv_take [36] 11 (.int .i64 (j : Int)) hI rfl (by kernel_rfl) (by kernel_rfl) (by kernel_rfl) (by kernel_rfl) (by kernel_rfl) (fun _ _ _ h => h) (by kernel_rfl) (fun w hI => by obtain ⟨i1, i2⟩ := hI; go_simp) ?_
            simp only [Act.put, List.setIfInBounds_toArray, List.set_cons_zero, List.set_cons_succ]
            refine inv_take [36] 12 (.pointer (some ⟨gs, i * 4, none⟩)) hI rfl (by kernel_rfl) (by kernel_rfl) (by kernel_rfl) (by kernel_rfl) (by kernel_rfl) (fun _ _ _ h => h) (by kernel_rfl) (fun w hI => by obtain ⟨i1, i2⟩ := hI; go_simp) ?_
            simp only [Act.put, List.setIfInBounds_toArray, List.set_cons_zero, List.set_cons_succ]
            refine inv_take [36] 13 (.pointer (some ⟨gs, i * 4, none⟩)) hI rfl (by kernel_rfl) (by kernel_rfl) (by kernel_rfl) (by kernel_rfl) (by kernel_rfl) (fun _ _ _ h => h) (by kernel_rfl) (fun w hI => by obtain ⟨i1, i2⟩ := hI; go_simp) ?_
            simp only [Act.put, List.setIfInBounds_toArray, List.set_cons_zero, List.set_cons_succ]
            refine inv_take [36] 14 (.pointer (some ⟨gs, i * 4 + j, none⟩)) hI rfl (by kernel_rfl) (by kernel_rfl) (by kernel_rfl) (by kernel_rfl) (by kernel_rfl) (fun _ _ _ h => h) (by kernel_rfl) (fun w hI => by obtain ⟨i1, i2⟩ := hI; go_simp) ?_
            simp only [Act.put, List.setIfInBounds_toArray, List.set_cons_zero, List.set_cons_succ]
            refine inv_take [36] 15 (.slice (some ⟨rb, ro, none⟩) n rc) hI rfl (by kernel_rfl) (by kernel_rfl) (by kernel_rfl) (by kernel_rfl) (by kernel_rfl) (fun _ _ _ h => h) (by kernel_rfl) (fun w hI => by obtain ⟨i1, i2⟩ := hI; go_simp) ?_
            simp only [Act.put, List.setIfInBounds_toArray, List.set_cons_zero, List.set_cons_succ]
            refine inv_take [36] 16 (.int .i64 (B : Int)) hI rfl (by kernel_rfl) (by kernel_rfl) (by kernel_rfl) (by kernel_rfl) (by kernel_rfl) (fun _ _ _ h => h) (by kernel_rfl) (fun w hI => by obtain ⟨i1, i2⟩ := hI; go_simp) ?_
            simp only [Act.put, List.setIfInBounds_toArray, List.set_cons_zero, List.set_cons_succ]
            refine inv_take [36] 17 (.slice (some ⟨rb, ro, none⟩) B rc) hI rfl (by kernel_rfl) (by kernel_rfl) (by kernel_rfl) (by kernel_rfl) (by kernel_rfl) (fun _ _ _ h => h) (by kernel_rfl) (fun w hI => by obtain ⟨i1, i2⟩ := hI; go_simp; intro h; omega) ?_
            simp only [Act.put, List.setIfInBounds_toArray, List.set_cons_zero, List.set_cons_succ]
            refine inv_take [36] 19 (.pointer (some ⟨gr, 0, none⟩)) hI rfl (by kernel_rfl) (by kernel_rfl) (by kernel_rfl) (by kernel_rfl) (by kernel_rfl) (fun _ _ _ h => h) (by kernel_rfl) (fun w hI => by obtain ⟨i1, i2⟩ := hI; go_simp) ?_
            simp only [Act.put, List.setIfInBounds_toArray, List.set_cons_zero, List.set_cons_succ]
            refine inv_take [36] 20 (.pointer (some ⟨gr, 0, none⟩)) hI rfl (by kernel_rfl) (by kernel_rfl) (by kernel_rfl) (by kernel_rfl) (by kernel_rfl) (fun _ _ _ h => h) (by kernel_rfl) (fun w hI => by obtain ⟨i1, i2⟩ := hI; go_simp) ?_
            simp only [Act.put, List.setIfInBounds_toArray, List.set_cons_zero, List.set_cons_succ]
            refine inv_take [36] 21 (.pointer (some ⟨gr, 8, none⟩)) hI rfl (by kernel_rfl) (by kernel_rfl) (by kernel_rfl) (by kernel_rfl) (by kernel_rfl) (fun _ _ _ h => h) (by kernel_rfl) (fun w hI => by obtain ⟨i1, i2⟩ := hI; go_simp) ?_
            simp only [Act.put, List.setIfInBounds_toArray, List.set_cons_zero, List.set_cons_succ]
            refine inv_take [36] 22 (.slice (some ⟨gs, 0, none⟩) N cap) hI rfl (by kernel_rfl) (by kernel_rfl) (by kernel_rfl) (by kernel_rfl) (by kernel_rfl) (fun _ _ _ h => h) (by kernel_rfl) (fun w hI => by obtain ⟨i1, i2⟩ := hI; go_simp) ?_
            simp only [Act.put, List.setIfInBounds_toArray, List.set_cons_zero, List.set_cons_succ]
            refine inv_take [36] 23 (.int .i64 (i : Int)) hI rfl (by kernel_rfl) (by kernel_rfl) (by kernel_rfl) (by kernel_rfl) (by kernel_rfl) (fun _ _ _ h => h) (by kernel_rfl) (fun w hI => by obtain ⟨i1, i2⟩ := hI; go_simp) ?_
            simp only [Act.put, List.setIfInBounds_toArray, List.set_cons_zero, List.set_cons_succ]
            refine inv_take [36] 24 (.int .i64 (j : Int)) hI rfl (by kernel_rfl) (by kernel_rfl) (by kernel_rfl) (by kernel_rfl) (by kernel_rfl) (fun _ _ _ h => h) (by kernel_rfl) (fun w hI => by obtain ⟨i1, i2⟩ := hI; go_simp) ?_
            simp only [Act.put, List.setIfInBounds_toArray, List.set_cons_zero, List.set_cons_succ]
            refine inv_take [36] 25 (.pointer (some ⟨gs, i * 4, none⟩)) hI rfl (by kernel_rfl) (by kernel_rfl) (by kernel_rfl) (by kernel_rfl) (by kernel_rfl) (fun _ _ _ h => h) (by kernel_rfl) (fun w hI => by obtain ⟨i1, i2⟩ := hI; go_simp) ?_
            simp only [Act.put, List.setIfInBounds_toArray, List.set_cons_zero, List.set_cons_succ]
            refine inv_take [36] 26 (.pointer (some ⟨gs, i * 4, none⟩)) hI rfl (by kernel_rfl) (by kernel_rfl) (by kernel_rfl) (by kernel_rfl) (by kernel_rfl) (fun _ _ _ h => h) (by kernel_rfl) (fun w hI => by obtain ⟨i1, i2⟩ := hI; go_simp) ?_
            simp only [Act.put, List.setIfInBounds_toArray, List.set_cons_zero, List.set_cons_succ]
            refine inv_take [36] 27 (.pointer (some ⟨gs, i * 4 + j, none⟩)) hI rfl (by kernel_rfl) (by kernel_rfl) (by kernel_rfl) (by kernel_rfl) (by kernel_rfl) (fun _ _ _ h => h) (by kernel_rfl) (fun w hI => by obtain ⟨i1, i2⟩ := hI; go_simp) ?_
            simp only [Act.put, List.setIfInBounds_toArray, List.set_cons_zero, List.set_cons_succ]
            refine inv_take [36] 28 (.slice (some ⟨rb, ro, none⟩) n rc) hI rfl (by kernel_rfl) (by kernel_rfl) (by kernel_rfl) (by kernel_rfl) (by kernel_rfl) (fun _ _ _ h => h) (by kernel_rfl) (fun w hI => by obtain ⟨i1, i2⟩ := hI; go_simp) ?_
            simp only [Act.put, List.setIfInBounds_toArray, List.set_cons_zero, List.set_cons_succ]
            refine inv_take [36] 29 (.int .i64 (B : Int)) hI rfl (by kernel_rfl) (by kernel_rfl) (by kernel_rfl) (by kernel_rfl) (by kernel_rfl) (fun _ _ _ h => h) (by kernel_rfl) (fun w hI => by obtain ⟨i1, i2⟩ := hI; go_simp) ?_
            simp only [Act.put, List.setIfInBounds_toArray, List.set_cons_zero, List.set_cons_succ]
            refine inv_take [36] 30 (.int .i64 ((B : Int) + 1)) hI rfl (by kernel_rfl) (by kernel_rfl) (by kernel_rfl) (by kernel_rfl) (by kernel_rfl) (fun _ _ _ h => h) (by kernel_rfl) (fun w hI => by obtain ⟨i1, i2⟩ := hI; go_simp; rw [IntKind.wrap_i64]; omega) ?_
            simp only [Act.put, List.setIfInBounds_toArray, List.set_cons_zero, List.set_cons_succ]
            refine inv_take [36] 31 (.slice (some AR) (n - (B + 1)) (rc - (B + 1))) hI rfl (by kernel_rfl) (by kernel_rfl) (by kernel_rfl) (by kernel_rfl) (by kernel_rfl) (fun _ _ _ h => h) (by kernel_rfl) (fun w hI => by obtain ⟨i1, i2⟩ := hI; go_simp; intro h; exact absurd (h (by omega)) (by omega)) ?_
            simp only [Act.put, List.setIfInBounds_toArray, List.set_cons_zero, List.set_cons_succ]
            refine inv_take [34, 35, 36] 33 (.pointer (some ⟨gs, i * 4, none⟩)) hI rfl (by kernel_rfl) (by kernel_rfl) (by kernel_rfl) (by kernel_rfl) (by kernel_rfl) (fun _ _ _ h => h) (by kernel_rfl) (fun w hI => by obtain ⟨i1, i2⟩ := hI; go_simp) ?_
            simp only [Act.put, List.setIfInBounds_toArray, List.set_cons_zero, List.set_cons_succ]
            refine inv_take [35, 36] 34 (.pointer (some ⟨gs, i * 4, none⟩)) hI rfl (by kernel_rfl) (by kernel_rfl) (by kernel_rfl) (by kernel_rfl) (by kernel_rfl) (fun _ _ _ h => h) (by kernel_rfl) (fun w hI => by obtain ⟨i1, i2⟩ := hI; go_simp) ?_
            simp only [Act.put, List.setIfInBounds_toArray, List.set_cons_zero, List.set_cons_succ]
            have hDlV : ∀ k, D k → k < V.heap.size := fun k hk => Nat.lt_of_lt_of_le (hDl k hk) hw7
            have hLn : (F (i * 4 + j)).length = n := HN.out
            refine inv_list 18 (by kernel_rfl) rfl ?_
            refine wpList_append_ua (Lq := (F (i * 4 + j)).take B) (R2 := R.take B) (UA.nil (Below.refl V.heap.size V) hDlV) (by rw [pflat_take]; exact hp.row.slv.front (k := B) (by omega)) (fun r hr => hp.dat r (List.mem_of_mem_take hr)) (by rw [List.map_take, hp.eq]) (by rw [List.length_take]; omega) (by simp) (by omega) (by kernel_rfl) (.const (.slice none 0 0)) (.tmp 144) rfl rfl rfl ?_
            intro a6 c6 w6 MA6 hU6 hk6
            have hI6 : (fun V' : World => V'.cell? ⟨gr, 8, none⟩ = some (.slice (some ⟨gs, 0, none⟩) N cap) ∧ V'.cell? ⟨gs, i * 4 + j, none⟩ = some (.slice (some ⟨rb, ro, none⟩) n rc)) w6 := ⟨((bcell hU6.bel).1 gr 8 h5.lt).trans cs, ((bcell hU6.bel).1 gs (i * 4 + j) h5.net.lt).trans hrc⟩
            refine then_n ⟨hI6, ?_⟩
            simp only [Act.put, List.setIfInBounds_toArray, List.set_cons_zero, List.set_cons_succ]
            have hl6 : ([] ++ (F (i * 4 + j)).take B).length = ([] : List Pk).length + B := by rw [List.length_append, List.length_take]; congr 1; omega
            refine inv_list 32 (by kernel_rfl) rfl ?_
            refine wpList_append_ua (Lq := (F (i * 4 + j)).drop (B + 1)) (R2 := R.drop (B + 1)) (m := n - (B + 1)) hU6 (by rw [pflat_drop]; exact (hp.below hU6.bel).row.slv.rear (k := B + 1) (by omega) hAR) (fun r hr => (hp.below hU6.bel).dat r (List.mem_of_mem_drop hr)) (by rw [List.map_drop, hp.eq]) (by rw [List.length_drop]; omega) (by rw [hl6]; simp; omega) (by omega) (by kernel_rfl) (.tmp 145) (.tmp 158) rfl (by rw [hl6]; rfl) rfl ?_
            intro a7 c7 w7 MA7 hU7 hk7'
            have hI7 : (fun V' : World => V'.cell? ⟨gr, 8, none⟩ = some (.slice (some ⟨gs, 0, none⟩) N cap) ∧ V'.cell? ⟨gs, i * 4 + j, none⟩ = some (.slice (some ⟨rb, ro, none⟩) n rc)) w7 := ⟨((bcell hU7.bel).1 gr 8 h5.lt).trans cs, ((bcell hU7.bel).1 gs (i * 4 + j) h5.net.lt).trans hrc⟩
            refine then_n ⟨hI7, ?_⟩
            simp only [Act.put, List.setIfInBounds_toArray, List.set_cons_zero, List.set_cons_succ]
            refine inv_take [36] 35 (.pointer (some ⟨gs, i * 4 + j, none⟩)) hI7 rfl (by kernel_rfl) (by kernel_rfl) (by kernel_rfl) (by kernel_rfl) (by kernel_rfl) (fun _ _ _ h => h) (by kernel_rfl) (fun w hI => by obtain ⟨i1, i2⟩ := hI; go_simp) ?_
            simp only [Act.put, List.setIfInBounds_toArray, List.set_cons_zero, List.set_cons_succ]
            refine inv_write 36 (by kernel_rfl) (by kernel_rfl) rfl ?_
            have hcc7 := hI7.2
            have hfz7 : w7.frozen? ⟨gs, i * 4 + j, none⟩ = false := ((bcell hU7.bel).2 gs (i * 4 + j) h5.net.lt).trans (h5.net.fz _)
            clear hI hI6 hI7
            rw [hl6]
            go_wp2
            refine then_n ?_
            refine any_done (by kernel_rfl) ?_
            have hLf : ([] ++ (F (i * 4 + j)).take B ++ (F (i * 4 + j)).drop (B + 1)).length = B + (n - (B + 1)) := by rw [List.length_append, hl6, List.length_drop, hLn]; simp
            have hrow := hU7.row
            rw [hLf, show [] ++ (F (i * 4 + j)).take B ++ (F (i * 4 + j)).drop (B + 1) = (F (i * 4 + j)).eraseIdx B by rw [List.nil_append, List.eraseIdx_eq_take_drop_succ]] at hrow
            have hlo7 := hU7.lo
            have hz7 := hU7.bel.size
            obtain ⟨h8, hk8⟩ := h5.set (q := i * 4 + j) (by omega) (Keep.of_below hU7.bel) hrow (fun k h => .inr (hU7.lo k h)) (by rw [hrow.len]; omega)
            have hold7 := hrow.old
            have hsz : (w7.setCell ⟨gs, i * 4 + j, none⟩ (.slice a7 (B + (n - (B + 1))) c7)).heap.size = w7.heap.size := by simp
            clear hcc7 hfz7 hU7 hU6 hrow hp h5 hk7' hk6 hrc cs hLf hl6 hAR
            generalize w7.setCell ⟨gs, i * 4 + j, none⟩ (.slice a7 (B + (n - (B + 1))) c7) = w8 at *
            go_wp2
            go_ret
            refine ⟨rfl, upd M1 (i * 4 + j) MA7, ?_, fun r hr k hk => ?_, ?_⟩
            · rw [HPR.out]; exact h8
            · by_cases e : r = i * 4 + j
              · subst e; rw [upd_same] at hk
                have h1 := hlo7 k hk
                have h2 := hold7 k hk
                exact .inr (by omega)
              · rw [upd_other _ _ e] at hk
                exact (HMa.out r hr k hk).imp id (fun h => by omega)
            · refine (hk7.mono (fun k _ h => h.imp id (fun h => ⟨_, hqi, h⟩))).trans hk8 (fun k hk h => h.imp id (fun h => ?_))
              rw [HMb.out (i * 4 + j) (by omega)] at h
              exact ⟨_, by omega, h⟩
          · have hBn : n ≤ B := by
              have h1 := HB.out
              have h2 := HAE.out
              have h3 := lane_mono F (q := 2 * i + j + 1) (m := q) (by omega)
              rw [laneL_succ, List.length_append, hpr, hn] at h3
              omega
            have hBn2 : ¬ (B : Int) < (n : Int) := by omega
            have HB' : Hid ((laneL F (2 * i + (j + 1))).length + (B - n) = A) := by
              show _ = _
              rw [show 2 * i + (j + 1) = 2 * i + j + 1 by omega, laneL_succ, List.length_append, hpr, hn]
              have := HB.out; omega
            have hB12 : B ≤ 12000 := by have := HB.out; have := HA12.out; omega
            have hBs : ((B - n : Nat) : Int) = (B : Int) - (n : Int) := by omega
            clear hn hpr hp
            go_wp2_with fail
            go_roundw
            case rel => exact ⟨j + 1, B - n, by omega, by go_num, by rw [hBs], HB', by omega, trivial⟩
            case measure => simp [intOf]; omega
        · obtain rfl : j = 2 := by omega
          go_wp2_with fail
          go_roundw
          case rel => exact ⟨i + 1, B, by omega, by go_num, rfl, by show _ = _; rw [show 2 * (i + 1) = 2 * i + 2 by omega]; exact HB.out, by omega, trivial⟩
          case measure => simp [intOf]; omega
end
end Go.Proofs.Ytjdbjmfkheffdaa
