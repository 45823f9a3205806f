/- The walk of FabricBounds: it answers true and writes nothing that was there. No condition but that the arguments are ones that can come in. -/
import Derived.Test.YtjdbjmfkheffdaaPart7
import Derived.Test.YtjdbjmfkheffdaaPart2
import Derived.OpenShut
namespace Go.Proofs.Ytjdbjmfkheffdaa
open Go.RowKit
set_option linter.unusedVariables false
set_option maxRecDepth 20000

theorem On.weak {w V : World} {gf nn : Nat} {out inn : Int} {F : Nat → List Pk} {X X' : Nat → Prop} (h : On w V gf nn out inn F X) (hX : ∀ k, X' k → X k) : On w V gf nn out inn F X' := by
  obtain ⟨B, hf, hB, hb, hx⟩ := h
  exact ⟨B, hf, fun k hk => ⟨(hB k hk).1, fun h => (hB k hk).2 (hX k h)⟩, hb, fun k hk => hx k (hX k hk)⟩
/-- What the walks over acts keep: the configuration, the network. -/
structure BL (w V : World) (gf gc N O I : Nat) (F : Nat → List Pk) : Prop where
  on : On w V gf N O I F (fun k => k = gc)
  c0 : V.cell? ⟨gc, 0, none⟩ = some (.int .i64 (N : Int))
  c5 : V.cell? ⟨gc, 5, none⟩ = some (.int .i64 (O : Int))
  c6 : V.cell? ⟨gc, 6, none⟩ = some (.int .i64 (I : Int))
  lt : gc < V.heap.size
theorem BL.below {w V V' : World} {gf gc N O I : Nat} {F : Nat → List Pk} (h : BL w V gf gc N O I F) (hb : Below V.heap.size V V') : BL w V' gf gc N O I F :=
  ⟨h.on.below hb, ((bcell hb).1 _ 0 h.lt).trans h.c0, ((bcell hb).1 _ 5 h.lt).trans h.c5, ((bcell hb).1 _ 6 h.lt).trans h.c6, Nat.lt_of_lt_of_le h.lt hb.size⟩
theorem BL.step {w V V' : World} {gf gc N O I : Nat} {F F' : Nat → List Pk} {X : Nat → Prop} (h : BL w V gf gc N O I F) (ho : On w V' gf N O I F' X) (hk : Keep (fun k => ¬ X k) V V') (hX : X gc) : BL w V' gf gc N O I F' :=
  ⟨ho.weak (fun k e => by rw [e]; exact hX), (hk.cell 0 h.lt (fun h => h hX)).trans h.c0, (hk.cell 5 h.lt (fun h => h hX)).trans h.c5, (hk.cell 6 h.lt (fun h => h hX)).trans h.c6, Nat.lt_of_lt_of_le h.lt hk.size⟩
theorem within_zero (v n : Int) (w : World) (hn : n < 1) : Calls Try.prog 11 #[.int .i64 v, .int .i64 n] w fun e w' => e = .returned (.int .i64 0) ∧ w = w' := by
  go_enter Try.func11, Try.ntmps11
  go_wp2
  go_ret
  exact ⟨rfl, rfl⟩
/-- A place among n, or 0. -/
def winI (v n : Int) : Int := if n < 1 then 0 else v % n
theorem winI_bd (v : Int) (n : Nat) : 0 ≤ winI v n ∧ (winI v n < n ∨ winI v n = 0) := by
  unfold winI
  by_cases h : (n : Int) < 1
  · rw [if_pos h]; exact ⟨by omega, .inr rfl⟩
  · rw [if_neg h]; exact ⟨Int.emod_nonneg _ (by omega), .inl (Int.emod_lt_of_pos _ (by omega))⟩
theorem within_w (v n : Int) (w : World) (hn : n ≤ 1000000) : Calls Try.prog 11 #[.int .i64 v, .int .i64 n] w fun e w' => e = .returned (.int .i64 (winI v n)) ∧ w = w' := by
  unfold winI
  by_cases h : n < 1
  · rw [if_pos h]; exact within_zero v n w h
  · rw [if_neg h]; exact within_any v n w (by omega) hn
theorem and16 (a b : Int) : 0 ≤ bits .and .u16 a b ∧ bits .and .u16 a b < 65536 := wf_u16' (wf_bits _ _ _ _)
theorem deliver_ex {w V : World} {gf nn : Nat} {out inn : Int} {F : Nat → List Pk} {X : Nat → Prop} (h : On w V gf nn out inn F X) (a bit mask : Int) (h63 : a < 9223372036854775808) (hm : 0 ≤ mask ∧ mask < 65536) :
    Calls Try.prog 13 #[.pointer (some ⟨gf, 0, none⟩), .int .i64 a, .int .i64 bit, .int .u16 mask] V fun en w' => ∃ e F', en = .returned (.int .i64 e) ∧ totalN F' nn = totalN F nn ∧ On w w' gf nn out inn F' X ∧ Keep (fun k => ¬ X k) V w' := by
  obtain ⟨e, F', hd⟩ := del_ex (out := out) (inn := inn) a bit mask h.good h.rooms
  refine (deliver_on h a bit mask h63 hm.1 hm.2 hd).mono ?_
  rintro en w' ⟨he, ho, hk⟩
  exact ⟨e, F', he, del_total h.good hd, ho, hk⟩
set_option maxHeartbeats 4000000 in

theorem fabricBounds_walk (vs : Value) (w : World) (hs : IsSetup w vs) (a : Option Addr) (n cap : Nat) (hacts : n ≤ cap ∧ cap ≤ maxLen ∧ IsActs w a n) :
    Calls Try.prog 6 #[vs, .slice a n cap] w fun e w' => e = .returned (.bool true) ∧ Below w.heap.size w w' := by
  obtain ⟨sn, sl, sk, ss, sy, so, si, a0, n0, c0, z0, a1, n1, c1, z1, a2, n2, c2, z2, a3, n3, c3, z3, a4, n4, c4, z4, rfl, hz0, _⟩ := hs
  obtain ⟨hle, hmx, hacts⟩ := hacts
  unfold maxLen at hmx
  go_enter Try.func6, Try.ntmps6
  go_wp2_with (first
    | (go_at_call 8; refine (config_c sn sl sk ss sy so si a0 n0 c0 _ _ _ _ z0 _ (hz0.below (ba (Below.refl _ _)))).mono ?_; rintro e w1 ⟨N, L, K, S, Y, O, I, zi, av, nv, cv, rfl, hC, hnv, hown, hb1⟩; unfold cfg; have bd := hC.bd; clear hC)
    | (go_at_call 9; refine (new_on (w := w) (X := fun k => k = w1.heap.size) (by exact next (next (ba (Below.refl _ _)) hb1) (ba (Below.refl _ _))) (fun k h => by subst h; simp) N L K S Y O I (.slice av nv cv) rfl bd.N0 (by have := bd.N1; omega) bd.O0 (by have := bd.O1; omega) bd.I0 (by have := bd.I1; omega)).mono ?_; rintro e w2 ⟨gf, rfl, hf0, hb2⟩; have cb := (CB.made w1 N L K S Y O I (.slice av nv cv)).below hb2))
  have hL0 : BL w w2 gf w1.heap.size N O I (fun _ => []) := ⟨hf0, cb.c0, cb.c5, cb.c6, cb.lt⟩
  have HNB : Hid (1 ≤ N ∧ N ≤ 4 ∧ 1 ≤ O ∧ O ≤ 3 ∧ 1 ≤ I ∧ I ≤ 3) := ⟨bd.N0, bd.N1, bd.O0, bd.O1, bd.I0, bd.I1⟩
  have hge : w.heap.size ≤ w1.heap.size := by have := hb1.size; simp at this; omega
  clear cb hf0 hb1 hb2 hown hnv hz0 bd
  generalize w1.heap.size = gc at *
  go_loopw [7, 8, 9] (fun vs vt vi wr => ∃ (k : Nat) (F : Nat → List Pk) (se ta : Nat), k ≤ n ∧ k ≤ 40 ∧ vi = .int .i64 k ∧ vs = .int .i64 se ∧ vt = .int .i64 ta ∧ BL w wr gf gc N O I F ∧ totalN F N + ta = se ∧ se ≤ k) (fun _ _ vi _ => 40 - (intOf vi).toNat)
  case atStart => exact ⟨0, fun _ => [], 0, 0, by omega, by omega, rfl, rfl, rfl, hL0, by rw [total_nil], by omega⟩
  case round =>
    obtain ⟨k, F, se, ta, hkn, hk40, rfl, rfl, rfl, hL, htot, hse⟩ := hrel
    clear hL0
    by_cases hlt : k < n
    · by_cases hlt9 : k < 40
      · obtain ⟨bl, o, d, t, b, m, h, x, av1, nv1, cv1, rfl, ha, hxs, hx64, hm0, hm1, ht63⟩ := (hacts.below hL.on.bel) k hlt
        obtain ⟨e0, e1, e2, e3, e4, e5, e6, e7, e8, e9, e10, e11, e12, e13, elt⟩ := ha
        obtain ⟨r, hr, hr0, hr1⟩ : ∃ r : Int, d % 5 = r ∧ 0 ≤ r ∧ r < 5 := ⟨_, rfl, Int.emod_nonneg _ (by omega), Int.emod_lt_of_pos _ (by omega)⟩
        go_upto_block 2 with (go_at_call 11; refine (within_any _ _ _ (by decide) (by decide)).mono ?_; rintro e w6 ⟨rfl, rfl⟩; rw [hr])
        have hL1 := hL.below (ba (o := .cells #[.int .i64 d, .int .i64 t, .int .i64 b, .int .u16 m, .int .i64 x.k, .int .i64 x.f, .int .i64 x.t, .int .i64 x.i, .int .i64 x.l, .int .i64 x.p, .int .i64 x.s, .bool x.fl, .slice av1 nv1 cv1, .int .i64 h] 52) (Below.refl _ _))
        have hxs1 := hxs.below (ba (o := .cells #[.int .i64 d, .int .i64 t, .int .i64 b, .int .u16 m, .int .i64 x.k, .int .i64 x.f, .int .i64 x.t, .int .i64 x.i, .int .i64 x.l, .int .i64 x.p, .int .i64 x.s, .bool x.fl, .slice av1 nv1 cv1, .int .i64 h] 52) (Below.refl _ _))
        clear e0 e1 e2 e3 e4 e5 e6 e7 e8 e9 e10 e11 e12 e13 elt hxs
        go_cut [7, 8] (fun vs vt wx => ∃ (F' : Nat → List Pk) (se' ta' : Nat), vs = .int .i64 se' ∧ vt = .int .i64 ta' ∧ BL w wx gf gc N O I F' ∧ totalN F' N + ta' = se' ∧ se' ≤ k + 1)
        case first =>
          have hrc : r = 0 ∨ r = 1 ∨ r = 2 ∨ r = 3 ∨ r = 4 := by omega
          rcases hrc with rfl | rfl | rfl | rfl | rfl
          · as_aux_lemma =>
              clear hacts
              go_upto_region 20 with (go_at_call 10; refine (play_any x 0 av1 nv1 cv1 _ hxs1).mono ?_; rintro e w3 ⟨v3, rfl, y, ya, yn, yc, rfl, hys, hyn, hyr, hyR, ylo, hb3⟩; unfold Pk.val)
              have hG := good_in (N := N) (hyr (by decide)) (hyR hx64) (by have := HNB.out; omega) (by have := HNB.out; omega)
              have hM := (hL1.below hb3).below (ba (o := .cells #[.int .i64 y.k, .int .i64 y.f, .int .i64 y.t, .int .i64 y.i, .int .i64 y.l, .int .i64 y.p, .int .i64 y.s, .bool y.fl, .slice ya yn yc] 26) (Below.refl _ _))
              have bp := Bx.made w3 y (.slice ya yn yc)
              have hys' := hys.below (ba (o := .cells #[.int .i64 y.k, .int .i64 y.f, .int .i64 y.t, .int .i64 y.i, .int .i64 y.l, .int .i64 y.p, .int .i64 y.s, .bool y.fl, .slice ya yn yc] 26) (Below.refl _ _))
              have hf1 := hL1.on.more (X' := fun k => k = gc ∨ k = w3.heap.size ∨ ∃ ad : Addr, ya = some ad ∧ ad.block = k) (by exact ba (o := .cells #[.int .i64 y.k, .int .i64 y.f, .int .i64 y.t, .int .i64 y.i, .int .i64 y.l, .int .i64 y.p, .int .i64 y.s, .bool y.fl, .slice ya yn yc] 26) hb3) (fun k hk => by
                have z3 := hb3.size
                rcases hk with rfl | rfl | ⟨ad, e, rfl⟩
                · exact .inl rfl
                · exact .inr (by simp at z3 ⊢; omega)
                · have := ylo ad e; exact .inr (by simp at this ⊢; omega))
              have far : ∀ ad : Addr, ya = some ad → ad.block ≠ w3.heap.size := fun ad e => by have := ylo ad e; omega
              have hge3 : w.heap.size ≤ w3.heap.size := Nat.le_trans hL1.on.bel.size hb3.size
              have hgp : gc < w3.heap.size := Nat.lt_of_lt_of_le hL1.lt hb3.size
              clear hyr hyR ylo hb3 hys hL1 hxs1 hL hx64
              generalize w3.alloc (.cells #[.int .i64 y.k, .int .i64 y.f, .int .i64 y.t, .int .i64 y.i, .int .i64 y.l, .int .i64 y.p, .int .i64 y.s, .bool y.fl, .slice ya yn yc] 26) = W at *
              generalize w3.heap.size = gp at *
              generalize wr.heap.size = gx at *
              refine wp_region_orders 14 rfl (by kernel_rfl) ?_
              have hdr : Below W.heap.size W W.drew := (Below.refl _ _).drew
              replace bp := bp.next hdr
              replace hM := hM.below hdr
              replace hys' := hys'.below hdr
              replace hf1 := hf1.below hdr
              clear hdr
              generalize W.drew = wd at *
              obtain ⟨q0, q1, q2, q3, q4, q5, q6, q7, q8, qf, ql⟩ := id bp
              have d0 := hM.c0
              have dl := hM.lt
              have uc := @Up.cell2
              have uf := @Up.frozen2
              refine any_take 0 (.pointer (some ⟨gp, 1, none⟩)) rfl (by kernel_rfl) (by kernel_rfl) (by kernel_rfl) (fun _ _ _ h => h) (by kernel_rfl) (fun w => by go_simp) ?_
              simp only [Act.put, List.setIfInBounds_toArray, List.set_cons_zero, List.set_cons_succ]
              refine any_take 2 (.pointer (some ⟨gc, 0, none⟩)) rfl (by kernel_rfl) (by kernel_rfl) (by kernel_rfl) (fun _ _ _ h => h) (by kernel_rfl) (fun w => by go_simp) ?_
              simp only [Act.put, List.setIfInBounds_toArray, List.set_cons_zero, List.set_cons_succ]
              refine any_take 5 (.pointer (some ⟨gp, 2, none⟩)) rfl (by kernel_rfl) (by kernel_rfl) (by kernel_rfl) (fun _ _ _ h => h) (by kernel_rfl) (fun w => by go_simp) ?_
              simp only [Act.put, List.setIfInBounds_toArray, List.set_cons_zero, List.set_cons_succ]
              refine any_take 7 (.pointer (some ⟨gc, 0, none⟩)) rfl (by kernel_rfl) (by kernel_rfl) (by kernel_rfl) (fun _ _ _ h => h) (by kernel_rfl) (fun w => by go_simp) ?_
              simp only [Act.put, List.setIfInBounds_toArray, List.set_cons_zero, List.set_cons_succ]
              refine any_mildx [11, 13] ?_
              refine mildy_take (v := ?v1) [4, 9, 11, 13] 1 rfl (by kernel_rfl) (by kernel_rfl) (by kernel_rfl) (by kernel_rfl) (by kernel_rfl) (fun _ _ _ h => h) (by kernel_rfl) (fun Wu K hK => ?hy1) ?go1
              case hy1 =>
                go_big_quiet_op
                simp only [Act.put, List.setIfInBounds_toArray, List.set_cons_zero, List.set_cons_succ] at hK
                exact hK
              simp only [Act.put, List.setIfInBounds_toArray, List.set_cons_zero, List.set_cons_succ]
              refine mildy_take (v := ?v2) [4, 9, 11, 13] 3 rfl (by kernel_rfl) (by kernel_rfl) (by kernel_rfl) (by kernel_rfl) (by kernel_rfl) (fun _ _ _ h => h) (by kernel_rfl) (fun Wu K hK => ?hy2) ?go2
              case hy2 =>
                go_big_quiet_op
                simp only [Act.put, List.setIfInBounds_toArray, List.set_cons_zero, List.set_cons_succ] at hK
                exact hK
              simp only [Act.put, List.setIfInBounds_toArray, List.set_cons_zero, List.set_cons_succ]
              refine mildy_take (v := ?v3) [9, 11, 13] 6 rfl (by kernel_rfl) (by kernel_rfl) (by kernel_rfl) (by kernel_rfl) (by kernel_rfl) (fun _ _ _ h => h) (by kernel_rfl) (fun Wu K hK => ?hy3) ?go3
              case hy3 =>
                go_big_quiet_op
                simp only [Act.put, List.setIfInBounds_toArray, List.set_cons_zero, List.set_cons_succ] at hK
                exact hK
              simp only [Act.put, List.setIfInBounds_toArray, List.set_cons_zero, List.set_cons_succ]
              refine mildy_take (v := ?v4) [9, 11, 13] 8 rfl (by kernel_rfl) (by kernel_rfl) (by kernel_rfl) (by kernel_rfl) (by kernel_rfl) (fun _ _ _ h => h) (by kernel_rfl) (fun Wu K hK => ?hy4) ?go4
              case hy4 =>
                go_big_quiet_op
                simp only [Act.put, List.setIfInBounds_toArray, List.set_cons_zero, List.set_cons_succ] at hK
                exact hK
              simp only [Act.put, List.setIfInBounds_toArray, List.set_cons_zero, List.set_cons_succ]
              refine mildy_take (v := ?v5) [9, 11, 13] 4 rfl (by kernel_rfl) (by kernel_rfl) (by kernel_rfl) (by kernel_rfl) (by kernel_rfl) (fun _ _ _ h => h) (by kernel_rfl) (fun Wu K hK => ?hy5) ?go5
              case hy5 =>
                go_big_quiet_op
                simp only [Act.put, List.setIfInBounds_toArray, List.set_cons_zero, List.set_cons_succ] at hK
                refine ⟨_, fun u => Calls.up_same (within_any y.f (N : Int) u.1 (by have := HNB.out; omega) (by have := HNB.out; omega)), ?_⟩
                exact hK
              simp only [Act.put, List.setIfInBounds_toArray, List.set_cons_zero, List.set_cons_succ]
              refine mildy_take (v := ?v6) [11, 13] 9 rfl (by kernel_rfl) (by kernel_rfl) (by kernel_rfl) (by kernel_rfl) (by kernel_rfl) (fun _ _ _ h => h) (by kernel_rfl) (fun Wu K hK => ?hy6) ?go6
              case hy6 =>
                go_big_quiet_op
                simp only [Act.put, List.setIfInBounds_toArray, List.set_cons_zero, List.set_cons_succ] at hK
                refine ⟨_, fun u => Calls.up_same (within_any y.t (N : Int) u.1 (by have := HNB.out; omega) (by have := HNB.out; omega)), ?_⟩
                exact hK
              simp only [Act.put, List.setIfInBounds_toArray, List.set_cons_zero, List.set_cons_succ]
              refine mildy_take (v := ?v7) [11, 13] 10 rfl (by kernel_rfl) (by kernel_rfl) (by kernel_rfl) (by kernel_rfl) (by kernel_rfl) (fun _ _ _ h => h) (by kernel_rfl) (fun Wu K hK => ?hy7) ?go7
              case hy7 =>
                go_big_quiet_op
                simp only [Act.put, List.setIfInBounds_toArray, List.set_cons_zero, List.set_cons_succ] at hK
                exact hK
              simp only [Act.put, List.setIfInBounds_toArray, List.set_cons_zero, List.set_cons_succ]
              intro W2
              clear uc uf q0 q1 q2 q3 q4 q5 q6 q7 q8 qf ql d0 dl
              replace bp := bp.next W2.2
              replace hM := hM.below W2.2
              replace hys' := hys'.below W2.2
              replace hf1 := hf1.below W2.2
              generalize W2.1 = wa at *
              obtain ⟨q0, q1, q2, q3, q4, q5, q6, q7, q8, qf, ql⟩ := id bp
              refine upx_write 11 (by kernel_rfl) (by kernel_rfl) rfl ?_
              go_wp2
              refine then_n ?_
              refine any_take 12 (.pointer (some ⟨gp, 2, none⟩)) rfl (by kernel_rfl) (by kernel_rfl) (by kernel_rfl) (fun _ _ _ h => h) (by kernel_rfl) (fun w => by go_simp) ?_
              simp only [Act.put, List.setIfInBounds_toArray, List.set_cons_zero, List.set_cons_succ]
              refine any_list 13 (by kernel_rfl) rfl ?_
              go_wp2
              refine then_n ?_
              refine any_done (by kernel_rfl) ?_
              clear q0 q1 q2 q3 q4 q5 q6 q7 q8 qf ql
              have bp2 := (bp.setF (y.f % (N : Int))).setT (y.t % (N : Int))
              have kk := ((Keep.refl (fun k => k = gp) wa).setCell (p := ⟨gp, 1, none⟩) (.inl rfl) (.int .i64 (y.f % (N : Int)))).setCell (p := ⟨gp, 2, none⟩) (.inl rfl) (.int .i64 (y.t % (N : Int)))
              have sl2 : Sl _ ya yn yc ({ y with f := y.f % (N : Int), t := y.t % (N : Int) } : Pk).z := hys'.keep kk (fun _ ad e h => far ad e h)
              have on2 := hf1.turn kk (X' := fun k => k = gc ∨ k = gp ∨ ∃ ad : Addr, ya = some ad ∧ ad.block = k) (fun k e => .inl (.inr (.inl e))) (fun k e => by omega) (fun k e => .inl e) (fun k e => Nat.lt_of_lt_of_le (hf1.xlt k e) kk.size)
              have hM2 : BL w _ gf gc N O I F := ⟨on2.weak (fun k e => .inl e), (kk.cell 0 hM.lt (by omega)).trans hM.c0, (kk.cell 5 hM.lt (by omega)).trans hM.c5, (kk.cell 6 hM.lt (by omega)).trans hM.c6, Nat.lt_of_lt_of_le hM.lt kk.size⟩
              clear kk bp hys' hf1 far hM
              generalize (wa.setCell ⟨gp, 1, none⟩ (.int .i64 (y.f % (N : Int)))).setCell ⟨gp, 2, none⟩ (.int .i64 (y.t % (N : Int))) = wb at *
              generalize { y with f := y.f % (N : Int), t := y.t % (N : Int) : Pk } = p at *
              obtain ⟨e, F', hS⟩ := send_ex (out := O) (inn := I) p on2.rooms
              have HS : Hid (SendTo N O F p e F') := hS
              have hst := send_total hS
              clear hS
              obtain ⟨q0, q1, q2, q3, q4, q5, q6, q7, q8, qf, ql⟩ := id bp2
              rcases hst with ⟨rfl, ht1⟩ | ⟨hne, ht1⟩
              · go_wp2_with (go_at_call 12; refine (send_on on2 p ya yn yc sl2 hG.z HS.out).mono ?_; rintro en w5 ⟨rfl, ho5, hk5⟩; have hM5 := hM2.step ho5 hk5 (.inl rfl))
                go_meet
                case rel => exact ⟨F', se + 1, ta, by go_num, rfl, hM5, by omega, by omega⟩
              · go_wp2_with (go_at_call 12; refine (send_on on2 p ya yn yc sl2 hG.z HS.out).mono ?_; rintro en w5 ⟨rfl, ho5, hk5⟩; have hM5 := hM2.step ho5 hk5 (.inl rfl))
                go_meet
                case rel => exact ⟨F', se, ta, rfl, rfl, hM5, by omega, by omega⟩
          · as_aux_lemma =>
              clear hacts
              go_upto_region 20 with (go_at_call 10; refine (play_any x 0 av1 nv1 cv1 _ hxs1).mono ?_; rintro e w3 ⟨v3, rfl, y, ya, yn, yc, rfl, hys, hyn, hyr, hyR, ylo, hb3⟩; unfold Pk.val)
              have hG := good_in (N := N) (hyr (by decide)) (hyR hx64) (by have := HNB.out; omega) (by have := HNB.out; omega)
              have hM := (hL1.below hb3).below (ba (o := .cells #[.int .i64 y.k, .int .i64 y.f, .int .i64 y.t, .int .i64 y.i, .int .i64 y.l, .int .i64 y.p, .int .i64 y.s, .bool y.fl, .slice ya yn yc] 26) (Below.refl _ _))
              have bp := Bx.made w3 y (.slice ya yn yc)
              have hys' := hys.below (ba (o := .cells #[.int .i64 y.k, .int .i64 y.f, .int .i64 y.t, .int .i64 y.i, .int .i64 y.l, .int .i64 y.p, .int .i64 y.s, .bool y.fl, .slice ya yn yc] 26) (Below.refl _ _))
              have hf1 := hL1.on.more (X' := fun k => k = gc ∨ k = w3.heap.size ∨ ∃ ad : Addr, ya = some ad ∧ ad.block = k) (by exact ba (o := .cells #[.int .i64 y.k, .int .i64 y.f, .int .i64 y.t, .int .i64 y.i, .int .i64 y.l, .int .i64 y.p, .int .i64 y.s, .bool y.fl, .slice ya yn yc] 26) hb3) (fun k hk => by
                have z3 := hb3.size
                rcases hk with rfl | rfl | ⟨ad, e, rfl⟩
                · exact .inl rfl
                · exact .inr (by simp at z3 ⊢; omega)
                · have := ylo ad e; exact .inr (by simp at this ⊢; omega))
              have far : ∀ ad : Addr, ya = some ad → ad.block ≠ w3.heap.size := fun ad e => by have := ylo ad e; omega
              have hge3 : w.heap.size ≤ w3.heap.size := Nat.le_trans hL1.on.bel.size hb3.size
              have hgp : gc < w3.heap.size := Nat.lt_of_lt_of_le hL1.lt hb3.size
              clear hyr hyR ylo hb3 hys hL1 hxs1 hL hx64
              generalize w3.alloc (.cells #[.int .i64 y.k, .int .i64 y.f, .int .i64 y.t, .int .i64 y.i, .int .i64 y.l, .int .i64 y.p, .int .i64 y.s, .bool y.fl, .slice ya yn yc] 26) = W at *
              generalize w3.heap.size = gp at *
              generalize wr.heap.size = gx at *
              refine wp_region_orders 14 rfl (by kernel_rfl) ?_
              have hdr : Below W.heap.size W W.drew := (Below.refl _ _).drew
              replace bp := bp.next hdr
              replace hM := hM.below hdr
              replace hys' := hys'.below hdr
              replace hf1 := hf1.below hdr
              clear hdr
              generalize W.drew = wd at *
              obtain ⟨q0, q1, q2, q3, q4, q5, q6, q7, q8, qf, ql⟩ := id bp
              have d0 := hM.c0
              have dl := hM.lt
              have uc := @Up.cell2
              have uf := @Up.frozen2
              refine any_take 0 (.pointer (some ⟨gp, 1, none⟩)) rfl (by kernel_rfl) (by kernel_rfl) (by kernel_rfl) (fun _ _ _ h => h) (by kernel_rfl) (fun w => by go_simp) ?_
              simp only [Act.put, List.setIfInBounds_toArray, List.set_cons_zero, List.set_cons_succ]
              refine any_take 2 (.pointer (some ⟨gc, 0, none⟩)) rfl (by kernel_rfl) (by kernel_rfl) (by kernel_rfl) (fun _ _ _ h => h) (by kernel_rfl) (fun w => by go_simp) ?_
              simp only [Act.put, List.setIfInBounds_toArray, List.set_cons_zero, List.set_cons_succ]
              refine any_take 5 (.pointer (some ⟨gp, 2, none⟩)) rfl (by kernel_rfl) (by kernel_rfl) (by kernel_rfl) (fun _ _ _ h => h) (by kernel_rfl) (fun w => by go_simp) ?_
              simp only [Act.put, List.setIfInBounds_toArray, List.set_cons_zero, List.set_cons_succ]
              refine any_take 7 (.pointer (some ⟨gc, 0, none⟩)) rfl (by kernel_rfl) (by kernel_rfl) (by kernel_rfl) (fun _ _ _ h => h) (by kernel_rfl) (fun w => by go_simp) ?_
              simp only [Act.put, List.setIfInBounds_toArray, List.set_cons_zero, List.set_cons_succ]
              refine any_mildx [11, 13] ?_
              refine mildy_take (v := ?v8) [4, 9, 11, 13] 1 rfl (by kernel_rfl) (by kernel_rfl) (by kernel_rfl) (by kernel_rfl) (by kernel_rfl) (fun _ _ _ h => h) (by kernel_rfl) (fun Wu K hK => ?hy8) ?go8
              case hy8 =>
                go_big_quiet_op
                simp only [Act.put, List.setIfInBounds_toArray, List.set_cons_zero, List.set_cons_succ] at hK
                exact hK
              simp only [Act.put, List.setIfInBounds_toArray, List.set_cons_zero, List.set_cons_succ]
              refine mildy_take (v := ?v9) [4, 9, 11, 13] 3 rfl (by kernel_rfl) (by kernel_rfl) (by kernel_rfl) (by kernel_rfl) (by kernel_rfl) (fun _ _ _ h => h) (by kernel_rfl) (fun Wu K hK => ?hy9) ?go9
              case hy9 =>
                go_big_quiet_op
                simp only [Act.put, List.setIfInBounds_toArray, List.set_cons_zero, List.set_cons_succ] at hK
                exact hK
              simp only [Act.put, List.setIfInBounds_toArray, List.set_cons_zero, List.set_cons_succ]
              refine mildy_take (v := ?v10) [9, 11, 13] 6 rfl (by kernel_rfl) (by kernel_rfl) (by kernel_rfl) (by kernel_rfl) (by kernel_rfl) (fun _ _ _ h => h) (by kernel_rfl) (fun Wu K hK => ?hy10) ?go10
              case hy10 =>
                go_big_quiet_op
                simp only [Act.put, List.setIfInBounds_toArray, List.set_cons_zero, List.set_cons_succ] at hK
                exact hK
              simp only [Act.put, List.setIfInBounds_toArray, List.set_cons_zero, List.set_cons_succ]
              refine mildy_take (v := ?v11) [9, 11, 13] 8 rfl (by kernel_rfl) (by kernel_rfl) (by kernel_rfl) (by kernel_rfl) (by kernel_rfl) (fun _ _ _ h => h) (by kernel_rfl) (fun Wu K hK => ?hy11) ?go11
              case hy11 =>
                go_big_quiet_op
                simp only [Act.put, List.setIfInBounds_toArray, List.set_cons_zero, List.set_cons_succ] at hK
                exact hK
              simp only [Act.put, List.setIfInBounds_toArray, List.set_cons_zero, List.set_cons_succ]
              refine mildy_take (v := ?v12) [9, 11, 13] 4 rfl (by kernel_rfl) (by kernel_rfl) (by kernel_rfl) (by kernel_rfl) (by kernel_rfl) (fun _ _ _ h => h) (by kernel_rfl) (fun Wu K hK => ?hy12) ?go12
              case hy12 =>
                go_big_quiet_op
                simp only [Act.put, List.setIfInBounds_toArray, List.set_cons_zero, List.set_cons_succ] at hK
                refine ⟨_, fun u => Calls.up_same (within_any y.f (N : Int) u.1 (by have := HNB.out; omega) (by have := HNB.out; omega)), ?_⟩
                exact hK
              simp only [Act.put, List.setIfInBounds_toArray, List.set_cons_zero, List.set_cons_succ]
              refine mildy_take (v := ?v13) [11, 13] 9 rfl (by kernel_rfl) (by kernel_rfl) (by kernel_rfl) (by kernel_rfl) (by kernel_rfl) (fun _ _ _ h => h) (by kernel_rfl) (fun Wu K hK => ?hy13) ?go13
              case hy13 =>
                go_big_quiet_op
                simp only [Act.put, List.setIfInBounds_toArray, List.set_cons_zero, List.set_cons_succ] at hK
                refine ⟨_, fun u => Calls.up_same (within_any y.t (N : Int) u.1 (by have := HNB.out; omega) (by have := HNB.out; omega)), ?_⟩
                exact hK
              simp only [Act.put, List.setIfInBounds_toArray, List.set_cons_zero, List.set_cons_succ]
              refine mildy_take (v := ?v14) [11, 13] 10 rfl (by kernel_rfl) (by kernel_rfl) (by kernel_rfl) (by kernel_rfl) (by kernel_rfl) (fun _ _ _ h => h) (by kernel_rfl) (fun Wu K hK => ?hy14) ?go14
              case hy14 =>
                go_big_quiet_op
                simp only [Act.put, List.setIfInBounds_toArray, List.set_cons_zero, List.set_cons_succ] at hK
                exact hK
              simp only [Act.put, List.setIfInBounds_toArray, List.set_cons_zero, List.set_cons_succ]
              intro W2
              clear uc uf q0 q1 q2 q3 q4 q5 q6 q7 q8 qf ql d0 dl
              replace bp := bp.next W2.2
              replace hM := hM.below W2.2
              replace hys' := hys'.below W2.2
              replace hf1 := hf1.below W2.2
              generalize W2.1 = wa at *
              obtain ⟨q0, q1, q2, q3, q4, q5, q6, q7, q8, qf, ql⟩ := id bp
              refine upx_write 11 (by kernel_rfl) (by kernel_rfl) rfl ?_
              go_wp2
              refine then_n ?_
              refine any_take 12 (.pointer (some ⟨gp, 2, none⟩)) rfl (by kernel_rfl) (by kernel_rfl) (by kernel_rfl) (fun _ _ _ h => h) (by kernel_rfl) (fun w => by go_simp) ?_
              simp only [Act.put, List.setIfInBounds_toArray, List.set_cons_zero, List.set_cons_succ]
              refine any_list 13 (by kernel_rfl) rfl ?_
              go_wp2
              refine then_n ?_
              refine any_done (by kernel_rfl) ?_
              clear q0 q1 q2 q3 q4 q5 q6 q7 q8 qf ql
              have bp2 := (bp.setF (y.f % (N : Int))).setT (y.t % (N : Int))
              have kk := ((Keep.refl (fun k => k = gp) wa).setCell (p := ⟨gp, 1, none⟩) (.inl rfl) (.int .i64 (y.f % (N : Int)))).setCell (p := ⟨gp, 2, none⟩) (.inl rfl) (.int .i64 (y.t % (N : Int)))
              have sl2 : Sl _ ya yn yc ({ y with f := y.f % (N : Int), t := y.t % (N : Int) } : Pk).z := hys'.keep kk (fun _ ad e h => far ad e h)
              have on2 := hf1.turn kk (X' := fun k => k = gc ∨ k = gp ∨ ∃ ad : Addr, ya = some ad ∧ ad.block = k) (fun k e => .inl (.inr (.inl e))) (fun k e => by omega) (fun k e => .inl e) (fun k e => Nat.lt_of_lt_of_le (hf1.xlt k e) kk.size)
              have hM2 : BL w _ gf gc N O I F := ⟨on2.weak (fun k e => .inl e), (kk.cell 0 hM.lt (by omega)).trans hM.c0, (kk.cell 5 hM.lt (by omega)).trans hM.c5, (kk.cell 6 hM.lt (by omega)).trans hM.c6, Nat.lt_of_lt_of_le hM.lt kk.size⟩
              clear kk bp hys' hf1 far hM
              generalize (wa.setCell ⟨gp, 1, none⟩ (.int .i64 (y.f % (N : Int)))).setCell ⟨gp, 2, none⟩ (.int .i64 (y.t % (N : Int))) = wb at *
              generalize { y with f := y.f % (N : Int), t := y.t % (N : Int) : Pk } = p at *
              obtain ⟨e, F', hS⟩ := send_ex (out := O) (inn := I) p on2.rooms
              have HS : Hid (SendTo N O F p e F') := hS
              have hst := send_total hS
              clear hS
              obtain ⟨q0, q1, q2, q3, q4, q5, q6, q7, q8, qf, ql⟩ := id bp2
              rcases hst with ⟨rfl, ht1⟩ | ⟨hne, ht1⟩
              · go_wp2_with (go_at_call 12; refine (send_on on2 p ya yn yc sl2 hG.z HS.out).mono ?_; rintro en w5 ⟨rfl, ho5, hk5⟩; have hM5 := hM2.step ho5 hk5 (.inl rfl))
                go_meet
                case rel => exact ⟨F', se + 1, ta, by go_num, rfl, hM5, by omega, by omega⟩
              · go_wp2_with (go_at_call 12; refine (send_on on2 p ya yn yc sl2 hG.z HS.out).mono ?_; rintro en w5 ⟨rfl, ho5, hk5⟩; have hM5 := hM2.step ho5 hk5 (.inl rfl))
                go_meet
                case rel => exact ⟨F', se, ta, rfl, rfl, hM5, by omega, by omega⟩
          · as_aux_lemma =>
              clear hacts hxs1 hx64
              go_upto_region 25 with fail
              obtain ⟨T, hT, hT0⟩ : ∃ T : Nat, (laneL F (2 * N)).length = T ∧ T ≤ 12000 := ⟨_, rfl, hL1.on.max⟩
              have HU : Hid (((laneL F (2 * N)).length : Int) = (T : Int)) := by show _ = _; rw [hT]
              obtain ⟨A, hA, hA0, hA1⟩ : ∃ A : Int, winI t (T : Int) = A ∧ 0 ≤ A ∧ A ≤ 12000 := ⟨_, rfl, (winI_bd t T).1, by have := winI_bd t T; omega⟩
              have HA63 : Hid (A < 9223372036854775808) := by show _ < _; omega
              obtain ⟨h2, hh2, h20, h21⟩ : ∃ h2 : Int, h % 2 = h2 ∧ 0 ≤ h2 ∧ h2 < 2 := ⟨_, rfl, by omega, by omega⟩
              clear hT
              have gcl := hL1.lt
              have aw : wr.heap.size < (wr.alloc (.cells #[.int .i64 d, .int .i64 t, .int .i64 b, .int .u16 m, .int .i64 x.k, .int .i64 x.f, .int .i64 x.t, .int .i64 x.i, .int .i64 x.l, .int .i64 x.p, .int .i64 x.s, .bool x.fl, .slice av1 nv1 cv1, .int .i64 h] 52)).heap.size := by simp
              have f1 : (wr.alloc (.cells #[.int .i64 d, .int .i64 t, .int .i64 b, .int .u16 m, .int .i64 x.k, .int .i64 x.f, .int .i64 x.t, .int .i64 x.i, .int .i64 x.l, .int .i64 x.p, .int .i64 x.s, .bool x.fl, .slice av1 nv1 cv1, .int .i64 h] 52)).cell? ⟨wr.heap.size, 1, none⟩ = some (.int .i64 t) := by simp
              have f2 : (wr.alloc (.cells #[.int .i64 d, .int .i64 t, .int .i64 b, .int .u16 m, .int .i64 x.k, .int .i64 x.f, .int .i64 x.t, .int .i64 x.i, .int .i64 x.l, .int .i64 x.p, .int .i64 x.s, .bool x.fl, .slice av1 nv1 cv1, .int .i64 h] 52)).cell? ⟨wr.heap.size, 2, none⟩ = some (.int .i64 b) := by simp
              have f3 : (wr.alloc (.cells #[.int .i64 d, .int .i64 t, .int .i64 b, .int .u16 m, .int .i64 x.k, .int .i64 x.f, .int .i64 x.t, .int .i64 x.i, .int .i64 x.l, .int .i64 x.p, .int .i64 x.s, .bool x.fl, .slice av1 nv1 cv1, .int .i64 h] 52)).cell? ⟨wr.heap.size, 3, none⟩ = some (.int .u16 m) := by simp
              have f4 : (wr.alloc (.cells #[.int .i64 d, .int .i64 t, .int .i64 b, .int .u16 m, .int .i64 x.k, .int .i64 x.f, .int .i64 x.t, .int .i64 x.i, .int .i64 x.l, .int .i64 x.p, .int .i64 x.s, .bool x.fl, .slice av1 nv1 cv1, .int .i64 h] 52)).cell? ⟨wr.heap.size, 13, none⟩ = some (.int .i64 h) := by simp
              generalize wr.alloc (.cells #[.int .i64 d, .int .i64 t, .int .i64 b, .int .u16 m, .int .i64 x.k, .int .i64 x.f, .int .i64 x.t, .int .i64 x.i, .int .i64 x.l, .int .i64 x.p, .int .i64 x.s, .bool x.fl, .slice av1 nv1 cv1, .int .i64 h] 52) = W1 at *
              generalize wr.heap.size = gx at *
              refine wp_region_orders 17 rfl (by kernel_rfl) ?_
              have hdr : Below W1.heap.size W1 W1.drew := (Below.refl _ _).drew
              replace hL1 := hL1.below hdr
              replace f1 := ((bcell hdr).1 _ 1 aw).trans f1
              replace f2 := ((bcell hdr).1 _ 2 aw).trans f2
              replace f3 := ((bcell hdr).1 _ 3 aw).trans f3
              replace f4 := ((bcell hdr).1 _ 13 aw).trans f4
              replace aw := Nat.lt_of_lt_of_le aw hdr.size
              clear hdr
              generalize W1.drew = wd at *
              have uc := @Up.cell2
              have uf := @Up.frozen2
              refine any_take 0 (.pointer (some ⟨gf, 0, none⟩)) rfl (by kernel_rfl) (by kernel_rfl) (by kernel_rfl) (fun _ _ _ h => h) (by kernel_rfl) (fun w => by go_simp) ?_
              simp only [Act.put, List.setIfInBounds_toArray, List.set_cons_zero, List.set_cons_succ]
              refine any_take 1 (.pointer (some ⟨gx, 1, none⟩)) rfl (by kernel_rfl) (by kernel_rfl) (by kernel_rfl) (fun _ _ _ h => h) (by kernel_rfl) (fun w => by go_simp) ?_
              simp only [Act.put, List.setIfInBounds_toArray, List.set_cons_zero, List.set_cons_succ]
              refine any_take 3 (.pointer (some ⟨gf, 0, none⟩)) rfl (by kernel_rfl) (by kernel_rfl) (by kernel_rfl) (fun _ _ _ h => h) (by kernel_rfl) (fun w => by go_simp) ?_
              simp only [Act.put, List.setIfInBounds_toArray, List.set_cons_zero, List.set_cons_succ]
              refine any_take 6 (.pointer (some ⟨gx, 2, none⟩)) rfl (by kernel_rfl) (by kernel_rfl) (by kernel_rfl) (fun _ _ _ h => h) (by kernel_rfl) (fun w => by go_simp) ?_
              simp only [Act.put, List.setIfInBounds_toArray, List.set_cons_zero, List.set_cons_succ]
              refine any_take 8 (.pointer (some ⟨gx, 3, none⟩)) rfl (by kernel_rfl) (by kernel_rfl) (by kernel_rfl) (fun _ _ _ h => h) (by kernel_rfl) (fun w => by go_simp) ?_
              simp only [Act.put, List.setIfInBounds_toArray, List.set_cons_zero, List.set_cons_succ]
              refine any_take 10 (.pointer (some ⟨gx, 13, none⟩)) rfl (by kernel_rfl) (by kernel_rfl) (by kernel_rfl) (fun _ _ _ h => h) (by kernel_rfl) (fun w => by go_simp) ?_
              simp only [Act.put, List.setIfInBounds_toArray, List.set_cons_zero, List.set_cons_succ]
              refine any_mildx [16] ?_
              refine mildy_take (v := ?v15) [5, 16] 2 rfl (by kernel_rfl) (by kernel_rfl) (by kernel_rfl) (by kernel_rfl) (by kernel_rfl) (fun _ _ _ h => h) (by kernel_rfl) (fun Wu K hK => ?hy15) ?go15
              case hy15 =>
                go_big_quiet_op
                simp only [Act.put, List.setIfInBounds_toArray, List.set_cons_zero, List.set_cons_succ] at hK
                exact hK
              simp only [Act.put, List.setIfInBounds_toArray, List.set_cons_zero, List.set_cons_succ]
              refine mildy_take (v := ?v16) [5, 16] 4 rfl (by kernel_rfl) (by kernel_rfl) (by kernel_rfl) (by kernel_rfl) (by kernel_rfl) (fun _ _ _ h => h) (by kernel_rfl) (fun Wu K hK => ?hy16) ?go16
              case hy16 =>
                go_big_quiet_op
                simp only [Act.put, List.setIfInBounds_toArray, List.set_cons_zero, List.set_cons_succ] at hK
                refine ⟨_, fun u => Calls.up_of (under_on ((hL1.on.below Wu.2).below u.2) (T : Int) HU.out), ?_⟩
                exact hK
              simp only [Act.put, List.setIfInBounds_toArray, List.set_cons_zero, List.set_cons_succ]
              refine mildy_take (v := ?v17) [16] 5 rfl (by kernel_rfl) (by kernel_rfl) (by kernel_rfl) (by kernel_rfl) (by kernel_rfl) (fun _ _ _ h => h) (by kernel_rfl) (fun Wu K hK => ?hy17) ?go17
              case hy17 =>
                go_big_quiet_op
                simp only [Act.put, List.setIfInBounds_toArray, List.set_cons_zero, List.set_cons_succ] at hK
                refine ⟨_, fun u => Calls.up_same (within_w t (T : Int) u.1 (by omega)), ?_⟩
                exact hK
              simp only [Act.put, List.setIfInBounds_toArray, List.set_cons_zero, List.set_cons_succ]
              refine mildy_take (v := ?v18) [16] 7 rfl (by kernel_rfl) (by kernel_rfl) (by kernel_rfl) (by kernel_rfl) (by kernel_rfl) (fun _ _ _ h => h) (by kernel_rfl) (fun Wu K hK => ?hy18) ?go18
              case hy18 =>
                go_big_quiet_op
                simp only [Act.put, List.setIfInBounds_toArray, List.set_cons_zero, List.set_cons_succ] at hK
                exact hK
              simp only [Act.put, List.setIfInBounds_toArray, List.set_cons_zero, List.set_cons_succ]
              refine mildy_take (v := ?v19) [15, 16] 9 rfl (by kernel_rfl) (by kernel_rfl) (by kernel_rfl) (by kernel_rfl) (by kernel_rfl) (fun _ _ _ h => h) (by kernel_rfl) (fun Wu K hK => ?hy19) ?go19
              case hy19 =>
                go_big_quiet_op
                simp only [Act.put, List.setIfInBounds_toArray, List.set_cons_zero, List.set_cons_succ] at hK
                exact hK
              simp only [Act.put, List.setIfInBounds_toArray, List.set_cons_zero, List.set_cons_succ]
              refine mildy_take (v := ?v20) [12, 16] 11 rfl (by kernel_rfl) (by kernel_rfl) (by kernel_rfl) (by kernel_rfl) (by kernel_rfl) (fun _ _ _ h => h) (by kernel_rfl) (fun Wu K hK => ?hy20) ?go20
              case hy20 =>
                go_big_quiet_op
                simp only [Act.put, List.setIfInBounds_toArray, List.set_cons_zero, List.set_cons_succ] at hK
                exact hK
              simp only [Act.put, List.setIfInBounds_toArray, List.set_cons_zero, List.set_cons_succ]
              refine mildy_take (v := ?v21) [16] 12 rfl (by kernel_rfl) (by kernel_rfl) (by kernel_rfl) (by kernel_rfl) (by kernel_rfl) (fun _ _ _ h => h) (by kernel_rfl) (fun Wu K hK => ?hy21) ?go21
              case hy21 =>
                go_big_quiet_op
                simp only [Act.put, List.setIfInBounds_toArray, List.set_cons_zero, List.set_cons_succ] at hK
                refine ⟨_, fun u => Calls.up_same (within_any h 2 u.1 (by decide) (by decide)), ?_⟩
                exact hK
              simp only [Act.put, List.setIfInBounds_toArray, List.set_cons_zero, List.set_cons_succ]
              refine mildy_take (v := ?v22) [14, 15, 16] 13 rfl (by kernel_rfl) (by kernel_rfl) (by kernel_rfl) (by kernel_rfl) (by kernel_rfl) (fun _ _ _ h => h) (by kernel_rfl) (fun Wu K hK => ?hy22) ?go22
              case hy22 =>
                go_big_quiet_op
                simp only [Act.put, List.setIfInBounds_toArray, List.set_cons_zero, List.set_cons_succ] at hK
                exact hK
              simp only [Act.put, List.setIfInBounds_toArray, List.set_cons_zero, List.set_cons_succ]
              refine mildy_take (v := ?v23) [15, 16] 14 rfl (by kernel_rfl) (by kernel_rfl) (by kernel_rfl) (by kernel_rfl) (by kernel_rfl) (fun _ _ _ h => h) (by kernel_rfl) (fun Wu K hK => ?hy23) ?go23
              case hy23 =>
                go_big_quiet_op
                simp only [Act.put, List.setIfInBounds_toArray, List.set_cons_zero, List.set_cons_succ] at hK
                exact hK
              simp only [Act.put, List.setIfInBounds_toArray, List.set_cons_zero, List.set_cons_succ]
              refine mildy_take (v := ?v24) [16] 15 rfl (by kernel_rfl) (by kernel_rfl) (by kernel_rfl) (by kernel_rfl) (by kernel_rfl) (fun _ _ _ h => h) (by kernel_rfl) (fun Wu K hK => ?hy24) ?go24
              case hy24 =>
                go_big_quiet_op
                simp only [Act.put, List.setIfInBounds_toArray, List.set_cons_zero, List.set_cons_succ] at hK
                exact hK
              simp only [Act.put, List.setIfInBounds_toArray, List.set_cons_zero, List.set_cons_succ]
              intro W
              clear uc uf f1 f2 f3 f4 aw
              replace hL1 := hL1.below W.2
              generalize W.1 = wa at *
              rw [hA]
              refine upx_write 16 (by kernel_rfl) (by kernel_rfl) rfl ?_
              go_wp2_with (go_at_call 13; refine (deliver_ex hL1.on A b _ HA63.out (and16 _ _)).mono ?_; rintro en w5 ⟨e, F', rfl, htt, ho5, hk5⟩)
              refine then_n ?_
              refine any_done (by kernel_rfl) ?_
              go_wp2
              go_meet
              case rel => exact ⟨F', se, ta, rfl, rfl, hL1.step ho5 hk5 rfl, by omega, by omega⟩
          · as_aux_lemma =>
              clear hacts hxs1 hx64
              go_upto_region 25 with fail
              obtain ⟨T, hT, hT0⟩ : ∃ T : Nat, (laneL F (2 * N)).length = T ∧ T ≤ 12000 := ⟨_, rfl, hL1.on.max⟩
              have HU : Hid (((laneL F (2 * N)).length : Int) = (T : Int)) := by show _ = _; rw [hT]
              obtain ⟨A, hA, hA0, hA1⟩ : ∃ A : Int, winI t (T : Int) = A ∧ 0 ≤ A ∧ A ≤ 12000 := ⟨_, rfl, (winI_bd t T).1, by have := winI_bd t T; omega⟩
              have HA63 : Hid (A < 9223372036854775808) := by show _ < _; omega
              obtain ⟨h2, hh2, h20, h21⟩ : ∃ h2 : Int, h % 2 = h2 ∧ 0 ≤ h2 ∧ h2 < 2 := ⟨_, rfl, by omega, by omega⟩
              clear hT
              have gcl := hL1.lt
              have aw : wr.heap.size < (wr.alloc (.cells #[.int .i64 d, .int .i64 t, .int .i64 b, .int .u16 m, .int .i64 x.k, .int .i64 x.f, .int .i64 x.t, .int .i64 x.i, .int .i64 x.l, .int .i64 x.p, .int .i64 x.s, .bool x.fl, .slice av1 nv1 cv1, .int .i64 h] 52)).heap.size := by simp
              have f1 : (wr.alloc (.cells #[.int .i64 d, .int .i64 t, .int .i64 b, .int .u16 m, .int .i64 x.k, .int .i64 x.f, .int .i64 x.t, .int .i64 x.i, .int .i64 x.l, .int .i64 x.p, .int .i64 x.s, .bool x.fl, .slice av1 nv1 cv1, .int .i64 h] 52)).cell? ⟨wr.heap.size, 1, none⟩ = some (.int .i64 t) := by simp
              have f2 : (wr.alloc (.cells #[.int .i64 d, .int .i64 t, .int .i64 b, .int .u16 m, .int .i64 x.k, .int .i64 x.f, .int .i64 x.t, .int .i64 x.i, .int .i64 x.l, .int .i64 x.p, .int .i64 x.s, .bool x.fl, .slice av1 nv1 cv1, .int .i64 h] 52)).cell? ⟨wr.heap.size, 2, none⟩ = some (.int .i64 b) := by simp
              have f3 : (wr.alloc (.cells #[.int .i64 d, .int .i64 t, .int .i64 b, .int .u16 m, .int .i64 x.k, .int .i64 x.f, .int .i64 x.t, .int .i64 x.i, .int .i64 x.l, .int .i64 x.p, .int .i64 x.s, .bool x.fl, .slice av1 nv1 cv1, .int .i64 h] 52)).cell? ⟨wr.heap.size, 3, none⟩ = some (.int .u16 m) := by simp
              have f4 : (wr.alloc (.cells #[.int .i64 d, .int .i64 t, .int .i64 b, .int .u16 m, .int .i64 x.k, .int .i64 x.f, .int .i64 x.t, .int .i64 x.i, .int .i64 x.l, .int .i64 x.p, .int .i64 x.s, .bool x.fl, .slice av1 nv1 cv1, .int .i64 h] 52)).cell? ⟨wr.heap.size, 13, none⟩ = some (.int .i64 h) := by simp
              generalize wr.alloc (.cells #[.int .i64 d, .int .i64 t, .int .i64 b, .int .u16 m, .int .i64 x.k, .int .i64 x.f, .int .i64 x.t, .int .i64 x.i, .int .i64 x.l, .int .i64 x.p, .int .i64 x.s, .bool x.fl, .slice av1 nv1 cv1, .int .i64 h] 52) = W1 at *
              generalize wr.heap.size = gx at *
              refine wp_region_orders 17 rfl (by kernel_rfl) ?_
              have hdr : Below W1.heap.size W1 W1.drew := (Below.refl _ _).drew
              replace hL1 := hL1.below hdr
              replace f1 := ((bcell hdr).1 _ 1 aw).trans f1
              replace f2 := ((bcell hdr).1 _ 2 aw).trans f2
              replace f3 := ((bcell hdr).1 _ 3 aw).trans f3
              replace f4 := ((bcell hdr).1 _ 13 aw).trans f4
              replace aw := Nat.lt_of_lt_of_le aw hdr.size
              clear hdr
              generalize W1.drew = wd at *
              have uc := @Up.cell2
              have uf := @Up.frozen2
              refine any_take 0 (.pointer (some ⟨gf, 0, none⟩)) rfl (by kernel_rfl) (by kernel_rfl) (by kernel_rfl) (fun _ _ _ h => h) (by kernel_rfl) (fun w => by go_simp) ?_
              simp only [Act.put, List.setIfInBounds_toArray, List.set_cons_zero, List.set_cons_succ]
              refine any_take 1 (.pointer (some ⟨gx, 1, none⟩)) rfl (by kernel_rfl) (by kernel_rfl) (by kernel_rfl) (fun _ _ _ h => h) (by kernel_rfl) (fun w => by go_simp) ?_
              simp only [Act.put, List.setIfInBounds_toArray, List.set_cons_zero, List.set_cons_succ]
              refine any_take 3 (.pointer (some ⟨gf, 0, none⟩)) rfl (by kernel_rfl) (by kernel_rfl) (by kernel_rfl) (fun _ _ _ h => h) (by kernel_rfl) (fun w => by go_simp) ?_
              simp only [Act.put, List.setIfInBounds_toArray, List.set_cons_zero, List.set_cons_succ]
              refine any_take 6 (.pointer (some ⟨gx, 2, none⟩)) rfl (by kernel_rfl) (by kernel_rfl) (by kernel_rfl) (fun _ _ _ h => h) (by kernel_rfl) (fun w => by go_simp) ?_
              simp only [Act.put, List.setIfInBounds_toArray, List.set_cons_zero, List.set_cons_succ]
              refine any_take 8 (.pointer (some ⟨gx, 3, none⟩)) rfl (by kernel_rfl) (by kernel_rfl) (by kernel_rfl) (fun _ _ _ h => h) (by kernel_rfl) (fun w => by go_simp) ?_
              simp only [Act.put, List.setIfInBounds_toArray, List.set_cons_zero, List.set_cons_succ]
              refine any_take 10 (.pointer (some ⟨gx, 13, none⟩)) rfl (by kernel_rfl) (by kernel_rfl) (by kernel_rfl) (fun _ _ _ h => h) (by kernel_rfl) (fun w => by go_simp) ?_
              simp only [Act.put, List.setIfInBounds_toArray, List.set_cons_zero, List.set_cons_succ]
              refine any_mildx [16] ?_
              refine mildy_take (v := ?v25) [5, 16] 2 rfl (by kernel_rfl) (by kernel_rfl) (by kernel_rfl) (by kernel_rfl) (by kernel_rfl) (fun _ _ _ h => h) (by kernel_rfl) (fun Wu K hK => ?hy25) ?go25
              case hy25 =>
                go_big_quiet_op
                simp only [Act.put, List.setIfInBounds_toArray, List.set_cons_zero, List.set_cons_succ] at hK
                exact hK
              simp only [Act.put, List.setIfInBounds_toArray, List.set_cons_zero, List.set_cons_succ]
              refine mildy_take (v := ?v26) [5, 16] 4 rfl (by kernel_rfl) (by kernel_rfl) (by kernel_rfl) (by kernel_rfl) (by kernel_rfl) (fun _ _ _ h => h) (by kernel_rfl) (fun Wu K hK => ?hy26) ?go26
              case hy26 =>
                go_big_quiet_op
                simp only [Act.put, List.setIfInBounds_toArray, List.set_cons_zero, List.set_cons_succ] at hK
                refine ⟨_, fun u => Calls.up_of (under_on ((hL1.on.below Wu.2).below u.2) (T : Int) HU.out), ?_⟩
                exact hK
              simp only [Act.put, List.setIfInBounds_toArray, List.set_cons_zero, List.set_cons_succ]
              refine mildy_take (v := ?v27) [16] 5 rfl (by kernel_rfl) (by kernel_rfl) (by kernel_rfl) (by kernel_rfl) (by kernel_rfl) (fun _ _ _ h => h) (by kernel_rfl) (fun Wu K hK => ?hy27) ?go27
              case hy27 =>
                go_big_quiet_op
                simp only [Act.put, List.setIfInBounds_toArray, List.set_cons_zero, List.set_cons_succ] at hK
                refine ⟨_, fun u => Calls.up_same (within_w t (T : Int) u.1 (by omega)), ?_⟩
                exact hK
              simp only [Act.put, List.setIfInBounds_toArray, List.set_cons_zero, List.set_cons_succ]
              refine mildy_take (v := ?v28) [16] 7 rfl (by kernel_rfl) (by kernel_rfl) (by kernel_rfl) (by kernel_rfl) (by kernel_rfl) (fun _ _ _ h => h) (by kernel_rfl) (fun Wu K hK => ?hy28) ?go28
              case hy28 =>
                go_big_quiet_op
                simp only [Act.put, List.setIfInBounds_toArray, List.set_cons_zero, List.set_cons_succ] at hK
                exact hK
              simp only [Act.put, List.setIfInBounds_toArray, List.set_cons_zero, List.set_cons_succ]
              refine mildy_take (v := ?v29) [15, 16] 9 rfl (by kernel_rfl) (by kernel_rfl) (by kernel_rfl) (by kernel_rfl) (by kernel_rfl) (fun _ _ _ h => h) (by kernel_rfl) (fun Wu K hK => ?hy29) ?go29
              case hy29 =>
                go_big_quiet_op
                simp only [Act.put, List.setIfInBounds_toArray, List.set_cons_zero, List.set_cons_succ] at hK
                exact hK
              simp only [Act.put, List.setIfInBounds_toArray, List.set_cons_zero, List.set_cons_succ]
              refine mildy_take (v := ?v30) [12, 16] 11 rfl (by kernel_rfl) (by kernel_rfl) (by kernel_rfl) (by kernel_rfl) (by kernel_rfl) (fun _ _ _ h => h) (by kernel_rfl) (fun Wu K hK => ?hy30) ?go30
              case hy30 =>
                go_big_quiet_op
                simp only [Act.put, List.setIfInBounds_toArray, List.set_cons_zero, List.set_cons_succ] at hK
                exact hK
              simp only [Act.put, List.setIfInBounds_toArray, List.set_cons_zero, List.set_cons_succ]
              refine mildy_take (v := ?v31) [16] 12 rfl (by kernel_rfl) (by kernel_rfl) (by kernel_rfl) (by kernel_rfl) (by kernel_rfl) (fun _ _ _ h => h) (by kernel_rfl) (fun Wu K hK => ?hy31) ?go31
              case hy31 =>
                go_big_quiet_op
                simp only [Act.put, List.setIfInBounds_toArray, List.set_cons_zero, List.set_cons_succ] at hK
                refine ⟨_, fun u => Calls.up_same (within_any h 2 u.1 (by decide) (by decide)), ?_⟩
                exact hK
              simp only [Act.put, List.setIfInBounds_toArray, List.set_cons_zero, List.set_cons_succ]
              refine mildy_take (v := ?v32) [14, 15, 16] 13 rfl (by kernel_rfl) (by kernel_rfl) (by kernel_rfl) (by kernel_rfl) (by kernel_rfl) (fun _ _ _ h => h) (by kernel_rfl) (fun Wu K hK => ?hy32) ?go32
              case hy32 =>
                go_big_quiet_op
                simp only [Act.put, List.setIfInBounds_toArray, List.set_cons_zero, List.set_cons_succ] at hK
                exact hK
              simp only [Act.put, List.setIfInBounds_toArray, List.set_cons_zero, List.set_cons_succ]
              refine mildy_take (v := ?v33) [15, 16] 14 rfl (by kernel_rfl) (by kernel_rfl) (by kernel_rfl) (by kernel_rfl) (by kernel_rfl) (fun _ _ _ h => h) (by kernel_rfl) (fun Wu K hK => ?hy33) ?go33
              case hy33 =>
                go_big_quiet_op
                simp only [Act.put, List.setIfInBounds_toArray, List.set_cons_zero, List.set_cons_succ] at hK
                exact hK
              simp only [Act.put, List.setIfInBounds_toArray, List.set_cons_zero, List.set_cons_succ]
              refine mildy_take (v := ?v34) [16] 15 rfl (by kernel_rfl) (by kernel_rfl) (by kernel_rfl) (by kernel_rfl) (by kernel_rfl) (fun _ _ _ h => h) (by kernel_rfl) (fun Wu K hK => ?hy34) ?go34
              case hy34 =>
                go_big_quiet_op
                simp only [Act.put, List.setIfInBounds_toArray, List.set_cons_zero, List.set_cons_succ] at hK
                exact hK
              simp only [Act.put, List.setIfInBounds_toArray, List.set_cons_zero, List.set_cons_succ]
              intro W
              clear uc uf f1 f2 f3 f4 aw
              replace hL1 := hL1.below W.2
              generalize W.1 = wa at *
              rw [hA]
              refine upx_write 16 (by kernel_rfl) (by kernel_rfl) rfl ?_
              go_wp2_with (go_at_call 13; refine (deliver_ex hL1.on A b _ HA63.out (and16 _ _)).mono ?_; rintro en w5 ⟨e, F', rfl, htt, ho5, hk5⟩)
              refine then_n ?_
              refine any_done (by kernel_rfl) ?_
              go_wp2
              go_meet
              case rel => exact ⟨F', se, ta, rfl, rfl, hL1.step ho5 hk5 rfl, by omega, by omega⟩
          · as_aux_lemma =>
              clear hacts hxs1 hx64
              obtain ⟨A, hA, hA0, hA1⟩ : ∃ A : Int, t % (N : Int) = A ∧ 0 ≤ A ∧ A < (N : Int) := ⟨_, rfl, Int.emod_nonneg _ (by have := HNB.out; omega), Int.emod_lt_of_pos _ (by have := HNB.out; omega)⟩
              obtain ⟨o1, F1, hT1⟩ := take_ex (nn := N) (F := F) A true
              obtain ⟨o2, F2, hT2⟩ := take_ex (nn := N) (F := F1) A false
              have HT1 : Hid (TakeTo N F A true o1 F1) := hT1
              have HT2 : Hid (TakeTo N F1 A false o2 F2) := hT2
              have t1 := take_total hT1
              have t2 := take_total hT2
              clear hT1 hT2
              have gcl := hL1.lt
              have d0 := hL1.c0
              have aw : wr.heap.size < (wr.alloc (.cells #[.int .i64 d, .int .i64 t, .int .i64 b, .int .u16 m, .int .i64 x.k, .int .i64 x.f, .int .i64 x.t, .int .i64 x.i, .int .i64 x.l, .int .i64 x.p, .int .i64 x.s, .bool x.fl, .slice av1 nv1 cv1, .int .i64 h] 52)).heap.size := by simp
              have f1 : (wr.alloc (.cells #[.int .i64 d, .int .i64 t, .int .i64 b, .int .u16 m, .int .i64 x.k, .int .i64 x.f, .int .i64 x.t, .int .i64 x.i, .int .i64 x.l, .int .i64 x.p, .int .i64 x.s, .bool x.fl, .slice av1 nv1 cv1, .int .i64 h] 52)).cell? ⟨wr.heap.size, 1, none⟩ = some (.int .i64 t) := by simp
              have hX1 := hL.on.more (X' := fun k => k = gc ∨ k = wr.heap.size) (ba (o := .cells #[.int .i64 d, .int .i64 t, .int .i64 b, .int .u16 m, .int .i64 x.k, .int .i64 x.f, .int .i64 x.t, .int .i64 x.i, .int .i64 x.l, .int .i64 x.p, .int .i64 x.s, .bool x.fl, .slice av1 nv1 cv1, .int .i64 h] 52) (Below.refl _ _)) (fun k hk => hk.imp id (fun e => by subst e; simp))
              refine wp_world (w2 := wr.alloc (.cells #[.int .i64 d, .int .i64 t, .int .i64 b, .int .u16 m, .int .i64 x.k, .int .i64 x.f, .int .i64 x.t, .int .i64 x.i, .int .i64 x.l, .int .i64 x.p, .int .i64 x.s, .bool x.fl, .slice av1 nv1 cv1, .int .i64 h] 52)) rfl ?_
              generalize wr.alloc (.cells #[.int .i64 d, .int .i64 t, .int .i64 b, .int .u16 m, .int .i64 x.k, .int .i64 x.f, .int .i64 x.t, .int .i64 x.i, .int .i64 x.l, .int .i64 x.p, .int .i64 x.s, .bool x.fl, .slice av1 nv1 cv1, .int .i64 h] 52) = W1 at *
              generalize wr.heap.size = gx at *
              cases hs1 : o1.isSome <;> cases hs2 : o2.isSome <;> rw [hs1] at t1 <;> rw [hs2] at t2 <;> simp at t1 t2
              · go_wp2_with (first
                  | (have mk := hL2; clear mk; go_at_call 11; refine (within_any t (N : Int) _ (by have := HNB.out; omega) (by have := HNB.out; omega)).mono ?_; rintro e w6 ⟨rfl, rfl⟩; rw [hA])
                  | (go_at_call 11; refine (within_any t (N : Int) _ (by have := HNB.out; omega) (by have := HNB.out; omega)).mono ?_; rintro e w6 ⟨rfl, rfl⟩; rw [hA])
                  | (go_at_call 16; refine (request_on hX1 A HT1.out).mono ?_; rintro e w5 ⟨⟨a5, n5, c5', rfl, _, _, _⟩, ho5, hk5⟩; have hL2 := hL1.step ho5 hk5 (.inl rfl); rw [hs1]; have g0 := hL2.c0; have g1 := hL2.lt; have k1 := (hk5.cell 1 aw (fun h => h (.inr rfl))).trans f1; have k2 := Nat.lt_of_lt_of_le aw hk5.size; unfold Pk.val)
                  | (go_at_call 17; refine (reply_on (hL2.below (ba (Below.refl _ _))).on A HT2.out).mono ?_; rintro e w7 ⟨⟨a7, n7, c7', rfl, _, _, _⟩, ho7, hk7⟩; have hL3 := (hL2.below (ba (Below.refl _ _))).step ho7 hk7 rfl; rw [hs2]; unfold Pk.val))
                go_meet
                case rel => exact ⟨F2, se, ta + 0, rfl, by go_num, hL3.below (ba (Below.refl _ _)), by omega, by omega⟩
              · go_wp2_with (first
                  | (have mk := hL2; clear mk; go_at_call 11; refine (within_any t (N : Int) _ (by have := HNB.out; omega) (by have := HNB.out; omega)).mono ?_; rintro e w6 ⟨rfl, rfl⟩; rw [hA])
                  | (go_at_call 11; refine (within_any t (N : Int) _ (by have := HNB.out; omega) (by have := HNB.out; omega)).mono ?_; rintro e w6 ⟨rfl, rfl⟩; rw [hA])
                  | (go_at_call 16; refine (request_on hX1 A HT1.out).mono ?_; rintro e w5 ⟨⟨a5, n5, c5', rfl, _, _, _⟩, ho5, hk5⟩; have hL2 := hL1.step ho5 hk5 (.inl rfl); rw [hs1]; have g0 := hL2.c0; have g1 := hL2.lt; have k1 := (hk5.cell 1 aw (fun h => h (.inr rfl))).trans f1; have k2 := Nat.lt_of_lt_of_le aw hk5.size; unfold Pk.val)
                  | (go_at_call 17; refine (reply_on (hL2.below (ba (Below.refl _ _))).on A HT2.out).mono ?_; rintro e w7 ⟨⟨a7, n7, c7', rfl, _, _, _⟩, ho7, hk7⟩; have hL3 := (hL2.below (ba (Below.refl _ _))).step ho7 hk7 rfl; rw [hs2]; unfold Pk.val))
                go_meet
                case rel => exact ⟨F2, se, ta + 1, rfl, by go_num, hL3.below (ba (Below.refl _ _)), by omega, by omega⟩
              · go_wp2_with (first
                  | (have mk := hL2; clear mk; go_at_call 11; refine (within_any t (N : Int) _ (by have := HNB.out; omega) (by have := HNB.out; omega)).mono ?_; rintro e w6 ⟨rfl, rfl⟩; rw [hA])
                  | (go_at_call 11; refine (within_any t (N : Int) _ (by have := HNB.out; omega) (by have := HNB.out; omega)).mono ?_; rintro e w6 ⟨rfl, rfl⟩; rw [hA])
                  | (go_at_call 16; refine (request_on hX1 A HT1.out).mono ?_; rintro e w5 ⟨⟨a5, n5, c5', rfl, _, _, _⟩, ho5, hk5⟩; have hL2 := hL1.step ho5 hk5 (.inl rfl); rw [hs1]; have g0 := hL2.c0; have g1 := hL2.lt; have k1 := (hk5.cell 1 aw (fun h => h (.inr rfl))).trans f1; have k2 := Nat.lt_of_lt_of_le aw hk5.size; unfold Pk.val)
                  | (go_at_call 17; refine (reply_on (hL2.below (ba (Below.refl _ _))).on A HT2.out).mono ?_; rintro e w7 ⟨⟨a7, n7, c7', rfl, _, _, _⟩, ho7, hk7⟩; have hL3 := (hL2.below (ba (Below.refl _ _))).step ho7 hk7 rfl; rw [hs2]; unfold Pk.val))
                go_meet
                case rel => exact ⟨F2, se, ta + 1, rfl, by go_num, hL3.below (ba (Below.refl _ _)), by omega, by omega⟩
              · go_wp2_with (first
                  | (have mk := hL2; clear mk; go_at_call 11; refine (within_any t (N : Int) _ (by have := HNB.out; omega) (by have := HNB.out; omega)).mono ?_; rintro e w6 ⟨rfl, rfl⟩; rw [hA])
                  | (go_at_call 11; refine (within_any t (N : Int) _ (by have := HNB.out; omega) (by have := HNB.out; omega)).mono ?_; rintro e w6 ⟨rfl, rfl⟩; rw [hA])
                  | (go_at_call 16; refine (request_on hX1 A HT1.out).mono ?_; rintro e w5 ⟨⟨a5, n5, c5', rfl, _, _, _⟩, ho5, hk5⟩; have hL2 := hL1.step ho5 hk5 (.inl rfl); rw [hs1]; have g0 := hL2.c0; have g1 := hL2.lt; have k1 := (hk5.cell 1 aw (fun h => h (.inr rfl))).trans f1; have k2 := Nat.lt_of_lt_of_le aw hk5.size; unfold Pk.val)
                  | (go_at_call 17; refine (reply_on (hL2.below (ba (Below.refl _ _))).on A HT2.out).mono ?_; rintro e w7 ⟨⟨a7, n7, c7', rfl, _, _, _⟩, ho7, hk7⟩; have hL3 := (hL2.below (ba (Below.refl _ _))).step ho7 hk7 rfl; rw [hs2]; unfold Pk.val))
                go_meet
                case rel => exact ⟨F2, se, ta + 2, rfl, by go_num, hL3.below (ba (Below.refl _ _)), by omega, by omega⟩
        case rest =>
          as_aux_lemma =>
            obtain ⟨F', se', ta', rfl, rfl, hM, htot', hse'⟩ := hcut
            clear hacts hL hL1 hxs1 hx64 hr hr0 hr1 htot hse hm0 hm1 ht63
            obtain ⟨T, hT, hT0⟩ : ∃ T : Nat, (laneL F' (2 * N)).length = T ∧ T ≤ 12000 := ⟨_, rfl, hM.on.max⟩
            have HU : Hid (((laneL F' (2 * N)).length : Int) = (T : Int)) := by show _ = _; rw [hT]
            obtain ⟨P, hP, P0, P1⟩ : ∃ P : Int, 2 * (N : Int) * (O : Int) = P ∧ 0 ≤ P ∧ P ≤ 24 := by
              obtain ⟨q0, q1, q2, q3, _, _⟩ := HNB.out
              have hn : N = 1 ∨ N = 2 ∨ N = 3 ∨ N = 4 := by omega
              rcases hn with h | h | h | h <;> subst h <;> exact ⟨_, rfl, by omega, by omega⟩
            have hTP : (T : Int) ≤ P := by
              have h1 := hM.on.bound
              rw [hT] at h1
              have h2 : ((2 * N : Nat) : Int) = 2 * (N : Int) := by omega
              rw [h2, hP] at h1
              exact h1
            have w2N : wrap64 (2 * (N : Int)) = 2 * (N : Int) := IntWalk.wrap64_in _ (by have := HNB.out; omega)
            have wP : wrap64 P = P := IntWalk.wrap64_in _ (by omega)
            have HTOT : Hid (T + waitN F' N + ta' = se') := by show _ = _; unfold totalN at htot'; rw [hT] at htot'; exact htot'
            have HT2 : Hid ((laneL F' (2 * N)).length = T) := hT
            have HRM : Hid (∀ q, q < 4 * N → ((F' q).length : Int) ≤ Rm O I q) := hM.on.rooms
            clear hT htot'
            have d0 := hM.c0
            have d5 := hM.c5
            have gl := hM.lt
            go_wp2_with (go_at_call 14; refine (under_on hM.on (T : Int) HU.out).mono ?_; rintro e w7 ⟨rfl, hb7⟩; have hM7 := hM.below hb7; clear d0 d5 gl; have d0 := hM7.c0; have d5 := hM7.c5; have d6 := hM7.c6; have gl := hM7.lt)
            have HW40 : Hid (∀ j, j ≤ N → waitN F' j ≤ se') := fun j hj => by have h1 := waitN_mono F' hj; have h2 := HTOT.out; omega
            clear d0 d5 d6 gl hb7 hP w2N wP hTP P0 P1
            go_loopw [16, 17] (fun vn vk wq => ∃ j : Nat, j ≤ N ∧ vk = .int .i64 j ∧ vn = .int .i64 ((T + waitN F' j : Nat) : Int) ∧ BL w wq gf gc N O I F') (fun _ vk _ => N - (intOf vk).toNat)
            case atStart => exact ⟨0, by omega, rfl, rfl, hM7⟩
            case round =>
              obtain ⟨j, hj, rfl, rfl, hQ⟩ := hrel
              clear hM7 hM
              have d0 := hQ.c0
              have d6 := hQ.c6
              have gl := hQ.lt
              by_cases hltj : j < N
              · obtain ⟨A1, hA1, hA2⟩ : ∃ A1 : Nat, Hid ((F' (pr (2 * j) + 2)).length = A1) ∧ (A1 : Int) ≤ I := ⟨_, rfl, by have := HRM.out (pr (2 * j) + 2) (pr_lt (by omega)); rw [Rm_q2] at this; exact this⟩
                obtain ⟨B1, hB1, hB2⟩ : ∃ B1 : Nat, Hid ((F' (pr (2 * j + 1) + 2)).length = B1) ∧ (B1 : Int) ≤ 1 := ⟨_, rfl, by have := HRM.out (pr (2 * j + 1) + 2) (pr_lt (by omega)); rw [Rm_q3] at this; exact this⟩
                obtain ⟨R1, hR1, hR10, hR11⟩ : ∃ R1 : Int, Hid ((O : Int) - ((F' (pr (2 * j + laneS true))).length : Int) = R1) ∧ 0 ≤ R1 ∧ R1 ≤ 1000 := ⟨_, rfl, by have := HRM.out (pr (2 * j + laneS true)) (by have := pr_lt (q := 2 * j + laneS true) (nn := N) (by have := laneS_lt true; omega); omega); rw [Rm_out] at this; omega, by have := HNB.out; omega⟩
                obtain ⟨R2, hR2, hR20, hR21⟩ : ∃ R2 : Int, Hid ((O : Int) - ((F' (pr (2 * j + laneS false))).length : Int) = R2) ∧ 0 ≤ R2 ∧ R2 ≤ 1000 := ⟨_, rfl, by have := HRM.out (pr (2 * j + laneS false)) (by have := pr_lt (q := 2 * j + laneS false) (nn := N) (by have := laneS_lt false; omega); omega); rw [Rm_out] at this; omega, by have := HNB.out; omega⟩
                have HWS : Hid (waitN F' (j + 1) = waitN F' j + (A1 + B1)) := by show _ = _; rw [waitN, hA1.out, hB1.out]
                have hw40 := HW40.out (j + 1) (by omega)
                rw [HWS.out] at hw40
                obtain ⟨Q1, hQ1⟩ : ∃ Q1 : Nat, T + waitN F' j = Q1 := ⟨_, rfl⟩
                rw [hQ1]
                have hQb : Q1 ≤ 13000 := by omega
                have HQ1 : Hid (T + waitN F' j = Q1) := hQ1
                have hj4 : (j : Int) < 4 := by have := HNB.out; omega
                have hA3 : (A1 : Int) ≤ 3 := by have := HNB.out; omega
                clear hQ1 hw40
                go_wp2_with (first
                  | (go_at_call 15; refine (waiting_on hQ.on j hltj _ rfl (A1 : Int) (B1 : Int) (by rw [hA1.out]) (by rw [hB1.out])).mono ?_; rintro e w8 ⟨rfl, hb8⟩; have hQ8 := hQ.below hb8; clear d0 d6 gl; have d0 := hQ8.c0; have d6 := hQ8.c6; have gl := hQ8.lt)
                  | (have mk := hQ9; clear mk; go_at_call 20; refine (room_on hQ9.on j hltj _ rfl false R2 hR2.out).mono ?_; rintro e w10 ⟨rfl, hb10⟩; have hQ10 := hQ9.below hb10)
                  | (go_at_call 20; refine (room_on hQ8.on j hltj _ rfl true R1 hR1.out).mono ?_; rintro e w9 ⟨rfl, hb9⟩; have hQ9 := hQ8.below hb9))
                exact ⟨⟨j + 1, by omega, by go_num, by have h1 := HWS.out; have h2 := HQ1.out; congr 1; omega, hQ10⟩, by simp [intOf]; omega⟩
              · obtain rfl : j = N := by omega
                obtain ⟨Q1, hQ1⟩ : ∃ Q1 : Nat, T + waitN F' j = Q1 := ⟨_, rfl⟩
                have hqs : (Q1 : Int) + (ta' : Int) = (se' : Int) := by have := HTOT.out; omega
                rw [hQ1]
                clear hQ1
                go_wp2_with fail
                exact ⟨⟨k + 1, F', se', ta', by omega, by omega, by go_num, rfl, rfl, hQ, by unfold totalN; rw [HT2.out]; exact HTOT.out, by omega⟩, by simp [intOf]; omega⟩
      · obtain rfl : k = 40 := by omega
        clear hacts
        go_wp2_with (go_at_call 19; refine (fwakes_any _).mono ?_; rintro e w9 ⟨rfl, hb9⟩)
        go_ret
        exact ⟨rfl, next hL.on.bel hb9⟩
    · obtain rfl : k = n := by omega
      clear hacts
      go_wp2_with (go_at_call 19; refine (fwakes_any _).mono ?_; rintro e w9 ⟨rfl, hb9⟩)
      go_ret
      exact ⟨rfl, next hL.on.bel hb9⟩
end Go.Proofs.Ytjdbjmfkheffdaa
