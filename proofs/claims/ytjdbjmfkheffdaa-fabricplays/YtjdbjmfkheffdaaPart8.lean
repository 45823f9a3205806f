/- The contract of the document's Unpack. Condition: the bytes lie in the reach.
The contract of the document's Deliver. Conditions: as each theorem states them. -/
import Derived.Test.YtjdbjmfkheffdaaPktRun2
import Derived.Test.YtjdbjmfkheffdaaPart7
import Derived.Test.YtjdbjmfkheffdaaPart4
section
namespace Go.Proofs.Ytjdbjmfkheffdaa
open Go.RowKit
set_option linter.unusedVariables false

theorem refUnpack_any (a : Option Addr) (l : List Int) (n cap : Nat) (w : World) (hsl : B.Sl w a n cap l) (hn : n ≤ 140737488351300) :
    Calls Try.prog 48 #[.slice a n cap] w fun e w' => Unp l w e w' := by
  cases ho : B.openI l with
  | none => exact (refUnpack_short a l n cap w hsl hn (fun b hb => by rw [ho] at hb; cases hb)).mono fun e w' h => Unp.no (unpack_none ho) h
  | some b =>
    cases hl : longB b
    · exact (refUnpack_short a l n cap w hsl hn (fun b' hb => by rw [ho] at hb; cases hb; exact hl)).mono fun e w' h => Unp.no (unpack_form ho (long_form hl)) h
    · exact refUnpack_long a l n cap w hsl hn b ho hl
theorem Unp.out_no {l : List Int} {w w' : World} {e : Ending} (h : unpackI l = none) (hU : Unp l w e w') : NoPk w e w' (.bool false) := by unfold Unp at hU; rw [h] at hU; exact hU
theorem Unp.out_yes {l : List Int} {w w' : World} {e : Ending} {y : Pk} (h : unpackI l = some y) (hU : Unp l w e w') : ∃ a' m cap', e = .returned (.tuple #[y.val (.slice a' m cap'), .bool true]) ∧ Sl w' a' m cap' y.z ∧ (∀ ad : Addr, a' = some ad → w.heap.size ≤ ad.block) ∧ Below w.heap.size w w' := by unfold Unp at hU; rw [h] at hU; exact hU
end Go.Proofs.Ytjdbjmfkheffdaa
end
section
namespace Go.Proofs.Ytjdbjmfkheffdaa
open Go.RowKit
set_option linter.unusedVariables false
set_option maxRecDepth 20000

section
variable (w : World) {gr gs N O I cap : Nat} {F : Nat → List Pk} {M : Nat → Nat → Prop} {D : Nat → Prop}
set_option maxHeartbeats 400000 in
theorem refDel_none (h : DF w gr gs N O I cap F M D) (hDl : ∀ k, D k → k < w.heap.size) (a' bit mask : Int) (ha : a' < 0 ∨ ((laneL F (2 * N)).length : Int) ≤ a') :
    Calls Try.prog 24 #[.pointer (some ⟨gr, 0, none⟩), .int .i64 a', .int .i64 bit, .int .u16 mask] w fun e w' => e = .returned (.int .i64 3) ∧ Below w.heap.size w w' := by
  by_cases h0 : a' < 0
  · clear ha
    go_enter Try.func24, Try.ntmps24
    go_wp2_with (go_at_call 22; refine (refUnder_any _ h hDl).mono ?_; rintro e w1 ⟨MA, R, a1, c1, rfl, hU⟩)
    go_ret
    exact ⟨rfl, hU.bel⟩
  · have h1 := ha.resolve_left h0
    have HL : Hid ((laneL F (2 * N)).length ≤ 12000) := by show _ ≤ _; have := lane_len h.rm (m := 2 * N) (by omega); have := h.n1; omega
    clear ha
    generalize hL : laneL F (2 * N) = L at *
    go_enter Try.func24, Try.ntmps24
    go_wp2_with (go_at_call 22; refine (refUnder_any _ h hDl).mono ?_; rintro e w1 ⟨MA, R, a1, c1, rfl, hU⟩; rw [hL])
    go_ret
    exact ⟨rfl, hU.bel⟩
set_option maxHeartbeats 800000 in
theorem refDel_form (h : DF w gr gs N O I cap F M D) (hDl : ∀ k, D k → k < w.heap.size) (a' bit mask : Int) (hm0 : 0 ≤ mask) (hm1 : mask < 65536) (q k : Nat) (x : Pk) (hq : q < 2 * N) (hx : (F (pr q))[k]? = some x) (ha : a' = ((laneL F q).length : Int) + k) (hg : Good N x) (hw : wireB x bit mask = false) :
    Calls Try.prog 24 #[.pointer (some ⟨gr, 0, none⟩), .int .i64 a', .int .i64 bit, .int .u16 mask] w fun e w' => e = .returned (.int .i64 2) ∧ Below w.heap.size w w' := by
  have hk : k < (F (pr q)).length := (List.getElem?_eq_some_iff.1 hx).1
  have hpl : pr q < 4 * N := by have := pr_lt hq; omega
  have n1 := h.n1
  have hLL := lane_len h.rm (m := 2 * N) (by omega)
  obtain ⟨hA1, hA2, _⟩ := lane_found F hx (2 * N) hq
  obtain ⟨A, hAe⟩ : ∃ A : Nat, (laneL F q).length + k = A := ⟨_, rfl⟩
  rw [hAe] at hA1 hA2
  obtain rfl : a' = (A : Int) := by omega
  obtain ⟨L, hL⟩ : ∃ L, laneL F (2 * N) = L := ⟨_, rfl⟩
  rw [hL] at hA1 hA2 hLL
  have HL : Hid (laneL F (2 * N) = L) := hL
  have HAE : Hid ((laneL F q).length + k = A) := hAe
  have HX : Hid ((F (pr q))[k]? = some x) := hx
  have HW : Hid (wireB x bit mask = false) := hw
  have HM : Hid (0 ≤ mask ∧ mask < 65536) := ⟨hm0, hm1⟩
  have HG : Hid (Good N x) := hg
  have HS12 : Hid ((B.sealI (packI x)).length = 12 + 8 * x.z.length) := by show _ = _; rw [sealI_len, packI_len]; omega
  have HZ8 : Hid (x.z.length ≤ 8) := by show _ ≤ _; have := ((Pk.right_iff x).1 hg.r).z; omega
  have i0 : (A : Int) < (L.length : Int) := by omega
  have i1 : ¬ (A : Int) < 0 := by omega
  have HA12 : Hid (A ≤ 12000) := by show _ ≤ _; omega
  clear hL hAe hx hw hm0 hm1 hg ha hA1
  go_enter Try.func24, Try.ntmps24
  go_upto_region 2 with (go_at_call 22; refine (refUnder_any _ h hDl).mono ?_; rintro e w1 ⟨MA, R, a1, c1, rfl, hU⟩; rw [HL.out] at hU ⊢)
  obtain ⟨x', d, bo, oo, hxL, hRx, hdat, rfl, hMb, hbl, ⟨e0, e1, e2, e3, e4, e5, e6, e7, e8⟩, _⟩ := hU.row.get (i := A) (by omega)
  obtain rfl : x' = x := by rw [hA2] at hxL; exact (Option.some.inj hxL).symm
  have hcp := hU.row.row.le
  have hmx := hU.row.row.max
  unfold maxLen at hmx
  have hb1 := hU.bel
  obtain ⟨ad, nd, cd, rfl, hsd, hnd, hdd⟩ := id hdat
  clear hxL hRx hA2
  go_upto_region 5 with fail
  have hB := next hb1 (ba (o := .cells #[.int .i64 x'.k, .int .i64 x'.f, .int .i64 x'.t, .int .i64 x'.i, .int .i64 x'.l, .int .i64 x'.p, .int .i64 x'.s, .bool x'.fl, .slice ad nd cd] 26) (Below.refl w1.heap.size w1))
  have bx := Bx.made w1 x' (.slice ad nd cd)
  have hd2 := hdat.below (ba (o := .cells #[.int .i64 x'.k, .int .i64 x'.f, .int .i64 x'.t, .int .i64 x'.i, .int .i64 x'.l, .int .i64 x'.p, .int .i64 x'.s, .bool x'.fl, .slice ad nd cd] 26) (Below.refl w1.heap.size w1))
  have hs2 := hsd.below (ba (o := .cells #[.int .i64 x'.k, .int .i64 x'.f, .int .i64 x'.t, .int .i64 x'.i, .int .i64 x'.l, .int .i64 x'.p, .int .i64 x'.s, .bool x'.fl, .slice ad nd cd] 26) (Below.refl w1.heap.size w1))
  have hgp : w.heap.size ≤ w1.heap.size := hb1.size
  have HMO : Hid (∀ q, q < 4 * N → ¬ M q w1.heap.size) := fun q hq hm => by have := h.net.old hq hm; omega
  clear e0 e1 e2 e3 e4 e5 e6 e7 e8 hcp hmx hb1 hdat hsd hU hbl hMb
  generalize w1.alloc (.cells #[.int .i64 x'.k, .int .i64 x'.f, .int .i64 x'.t, .int .i64 x'.i, .int .i64 x'.l, .int .i64 x'.p, .int .i64 x'.s, .bool x'.fl, .slice ad nd cd] 26) = w2 at *
  generalize w1.heap.size = gp at *
  obtain ⟨q0, q1, q2, q3, q4, q5, q6, q7, q8, qf, ql⟩ := id bx
  go_wp2_with (first
    | (go_at_call 47; refine (refPack_yes x' ad nd cd _ hs2 HG.out.r).mono ?_; rintro e w3 ⟨v3, rfl, ho3, hb3⟩; obtain ⟨a3, c3, rfl, hs3⟩ := ho3.sl' HS12.out)
    | (go_at_call 49; refine (B.refSpoil_any a3 _ _ c3 bit mask _ hs3 (by have := HZ8.out; omega) HM.out.1 HM.out.2).mono ?_; rintro e w4 ⟨v4, rfl, ho4, hb4⟩; obtain ⟨a4, c4, rfl, hs4⟩ := ho4.sl' (n := 12 + 8 * x'.z.length) (by rw [B.spoilI_len]; exact HS12.out))
    | (go_at_call 48; refine (refUnpack_any a4 _ _ c4 _ hs4 (by have := HZ8.out; omega)).mono ?_; intro e w5 hU5; obtain ⟨rfl, hb5⟩ := hU5.out_no (wire_no HM.out.1 HM.out.2 HW.out); unfold Pk.val))
  go_ret
  exact ⟨rfl, next (next (next (next hB hb3) hb4) hb5) (ba (Below.refl _ _))⟩
set_option maxHeartbeats 800000 in
theorem refDel_full (h : DF w gr gs N O I cap F M D) (hDl : ∀ k, D k → k < w.heap.size) (a' bit mask : Int) (hm0 : 0 ≤ mask) (hm1 : mask < 65536) (q k : Nat) (x : Pk) (hq : q < 2 * N) (hx : (F (pr q))[k]? = some x) (ha : a' = ((laneL F q).length : Int) + k) (hg : Good N x) (hw : wireB x bit mask = true) (hl : ((F (pr (toQ x) + 2)).length : Int) = Rm O I (pr (toQ x) + 2)) :
    Calls Try.prog 24 #[.pointer (some ⟨gr, 0, none⟩), .int .i64 a', .int .i64 bit, .int .u16 mask] w fun e w' => e = .returned (.int .i64 5) ∧ Below w.heap.size w w' := by
  have t0 := ((Pk.right_iff x).1 hg.r).t.1
  have t1 := hg.t
  have hs2' := sortN_lt x
  obtain ⟨tn, htn⟩ : ∃ tn : Nat, x.t = (tn : Int) := ⟨x.t.toNat, by omega⟩
  obtain ⟨sn, hsn⟩ : ∃ sn : Nat, sortN x = sn := ⟨_, rfl⟩
  rw [hsn] at hs2'
  have htn4 : tn < N := by omega
  have hqi : tn * 4 + 2 + sn < 4 * N := by omega
  have hqe : pr (toQ x) + 2 = tn * 4 + 2 + sn := by unfold pr toQ; rw [hsn]; omega
  rw [hqe] at hl
  obtain ⟨rm, hrm⟩ : ∃ rm : Int, Rm O I (tn * 4 + 2 + sn) = rm := ⟨_, rfl⟩
  rw [hrm] at hl
  have HR0 : Hid (sn = 0 → rm = (I : Int)) := fun e => by rw [← hrm, e]; unfold Rm; rw [if_pos (by omega)]
  have HR1 : Hid (sn = 1 → rm = 1) := fun e => by rw [← hrm, e]; unfold Rm; rw [if_neg (by omega), if_pos (by omega)]
  have HSN : Hid ((sn : Int) = (sortN x : Int)) := by show _ = _; rw [hsn]
  have HTN : Hid (x.t = (tn : Int)) := htn
  have HPQ : Hid (pr q ≠ tn * 4 + 2 + sn) := by show _ ≠ _; rw [← hqe]; exact pr_ne
  clear t0 t1 htn hsn hrm hqe
  have hk : k < (F (pr q)).length := (List.getElem?_eq_some_iff.1 hx).1
  have hpl : pr q < 4 * N := by have := pr_lt hq; omega
  have n1 := h.n1
  have hLL := lane_len h.rm (m := 2 * N) (by omega)
  obtain ⟨hA1, hA2, _⟩ := lane_found F hx (2 * N) hq
  obtain ⟨A, hAe⟩ : ∃ A : Nat, (laneL F q).length + k = A := ⟨_, rfl⟩
  rw [hAe] at hA1 hA2
  obtain rfl : a' = (A : Int) := by omega
  obtain ⟨L, hL⟩ : ∃ L, laneL F (2 * N) = L := ⟨_, rfl⟩
  rw [hL] at hA1 hA2 hLL
  have HL : Hid (laneL F (2 * N) = L) := hL
  have HAE : Hid ((laneL F q).length + k = A) := hAe
  have HX : Hid ((F (pr q))[k]? = some x) := hx
  have HW : Hid (wireB x bit mask = true) := hw
  have HM : Hid (0 ≤ mask ∧ mask < 65536) := ⟨hm0, hm1⟩
  have HG : Hid (Good N x) := hg
  have HS12 : Hid ((B.sealI (packI x)).length = 12 + 8 * x.z.length) := by show _ = _; rw [sealI_len, packI_len]; omega
  have HZ8 : Hid (x.z.length ≤ 8) := by show _ ≤ _; have := ((Pk.right_iff x).1 hg.r).z; omega
  have i0 : (A : Int) < (L.length : Int) := by omega
  have i1 : ¬ (A : Int) < 0 := by omega
  have HA12 : Hid (A ≤ 12000) := by show _ ≤ _; omega
  clear hL hAe hx hw hm0 hm1 hg ha hA1
  go_enter Try.func24, Try.ntmps24
  go_upto_region 2 with (go_at_call 22; refine (refUnder_any _ h hDl).mono ?_; rintro e w1 ⟨MA, R, a1, c1, rfl, hU⟩; rw [HL.out] at hU ⊢)
  obtain ⟨x', d, bo, oo, hxL, hRx, hdat, rfl, hMb, hbl, ⟨e0, e1, e2, e3, e4, e5, e6, e7, e8⟩, _⟩ := hU.row.get (i := A) (by omega)
  obtain rfl : x' = x := by rw [hA2] at hxL; exact (Option.some.inj hxL).symm
  have hcp := hU.row.row.le
  have hmx := hU.row.row.max
  unfold maxLen at hmx
  have hb1 := hU.bel
  obtain ⟨ad, nd, cd, rfl, hsd, hnd, hdd⟩ := id hdat
  clear hxL hRx hA2
  go_upto_region 5 with fail
  have hB := next hb1 (ba (o := .cells #[.int .i64 x'.k, .int .i64 x'.f, .int .i64 x'.t, .int .i64 x'.i, .int .i64 x'.l, .int .i64 x'.p, .int .i64 x'.s, .bool x'.fl, .slice ad nd cd] 26) (Below.refl w1.heap.size w1))
  have bx := Bx.made w1 x' (.slice ad nd cd)
  have hd2 := hdat.below (ba (o := .cells #[.int .i64 x'.k, .int .i64 x'.f, .int .i64 x'.t, .int .i64 x'.i, .int .i64 x'.l, .int .i64 x'.p, .int .i64 x'.s, .bool x'.fl, .slice ad nd cd] 26) (Below.refl w1.heap.size w1))
  have hs2 := hsd.below (ba (o := .cells #[.int .i64 x'.k, .int .i64 x'.f, .int .i64 x'.t, .int .i64 x'.i, .int .i64 x'.l, .int .i64 x'.p, .int .i64 x'.s, .bool x'.fl, .slice ad nd cd] 26) (Below.refl w1.heap.size w1))
  have hgp : w.heap.size ≤ w1.heap.size := hb1.size
  have HMO : Hid (∀ q, q < 4 * N → ¬ M q w1.heap.size) := fun q hq hm => by have := h.net.old hq hm; omega
  clear e0 e1 e2 e3 e4 e5 e6 e7 e8 hcp hmx hb1 hdat hsd hU hbl hMb
  generalize w1.alloc (.cells #[.int .i64 x'.k, .int .i64 x'.f, .int .i64 x'.t, .int .i64 x'.i, .int .i64 x'.l, .int .i64 x'.p, .int .i64 x'.s, .bool x'.fl, .slice ad nd cd] 26) = w2 at *
  generalize w1.heap.size = gp at *
  obtain ⟨q0, q1, q2, q3, q4, q5, q6, q7, q8, qf, ql⟩ := id bx
  go_upto_if 58 with (first
    | (go_at_call 47; refine (refPack_yes x' ad nd cd _ hs2 HG.out.r).mono ?_; rintro e w3 ⟨v3, rfl, ho3, hb3⟩; obtain ⟨a3, c3, rfl, hs3⟩ := ho3.sl' HS12.out)
    | (go_at_call 49; refine (B.refSpoil_any a3 _ _ c3 bit mask _ hs3 (by have := HZ8.out; omega) HM.out.1 HM.out.2).mono ?_; rintro e w4 ⟨v4, rfl, ho4, hb4⟩; obtain ⟨a4, c4, rfl, hs4⟩ := ho4.sl' (n := 12 + 8 * x'.z.length) (by rw [B.spoilI_len]; exact HS12.out))
    | (go_at_call 48; refine (refUnpack_any a4 _ _ c4 _ hs4 (by have := HZ8.out; omega)).mono ?_; intro e w5 hU5; obtain ⟨a5, m5, c5, rfl, hs5, lo5, hb5⟩ := hU5.out_yes (wire_yes HG.out.r HG.out.z HW.out); unfold Pk.val; have hb25 := next (next hb3 hb4) hb5; obtain ⟨q0, q1, q2, q3, q4, q5, q6, q7, q8, qf, ql⟩ := bx.next hb25; have hc6 := (h.below (next hB hb25)).c6; have hlt := (h.below (next hB hb25)).lt)
    | (go_at_call 46; refine (refSort_any _ x' _ HSN.out).mono ?_; rintro e w6 ⟨rfl, hb6⟩; have hc6 := (h.below (next (next hB (next hb25 (ba (Below.refl _ _)))) hb6)).c6; have hlt := (h.below (next (next hB (next hb25 (ba (Below.refl _ _)))) hb6)).lt))
  have hb26 := next (next hb25 (ba (Below.refl _ _))) hb6
  replace h := h.below (next hB hb26)
  have hB6 := next hB hb26
  have bx6 := bx.next hb26
  have hd6 := hd2.below hb26
  clear q0 q1 q2 q3 q4 q5 q6 q7 q8 qf ql hc6 hlt hb26 hb6 hb25 hb5 hb4 hb3 hs5 lo5 hU5 hs4 hs3 ho4 ho3 bx hd2 hs2 hB
  go_cut [16] (fun v wx => v = .int .i64 rm ∧ wx = w6)
  case first =>
    have hsc : sn = 0 ∨ sn = 1 := by omega
    rcases hsc with hsc | hsc
    · have hrm := HR0.out hsc
      subst hrm hsc
      go_wp2_with fail
      go_meet
      case rel => exact ⟨rfl, rfl⟩
    · have hrm := HR1.out hsc
      subst hrm hsc
      go_wp2_with fail
      go_meet
      case rel => exact ⟨rfl, rfl⟩
  case rest =>
    obtain ⟨rfl, rfl⟩ := hcut
    obtain ⟨R, ra, rc, hrc, hp⟩ := h.at hqi
    have cs := h.cs
    have lt := h.lt
    have lts := h.net.lt
    have cp := h.cp.1
    have cp2 := h.cp.2
    have hmx := h.rm _ hqi
    unfold maxLen at cp2
    have q2 := bx6.c2
    have ql := bx6.lt
    rw [HTN.out] at q2
    have j0 : (tn : Int) < (N : Int) := by omega
    have j1 : (sn : Int) < 2 := by omega
    generalize hT : (F (tn * 4 + 2 + sn)).length = T at *
    have hge : rm ≤ (T : Int) := by omega
    clear hl hT hp
    go_upto_region 13 with fail
    go_quiet (fail)
    go_wp2
    go_ret
    first
      | exact ⟨rfl, next hB6 ((Below.refl _ _).drew)⟩
      | exact ⟨rfl, next hB6 (below_dn _ _)⟩
end
end Go.Proofs.Ytjdbjmfkheffdaa
end
