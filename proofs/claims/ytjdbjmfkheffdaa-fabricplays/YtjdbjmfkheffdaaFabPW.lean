/- The walk of FabricPlays: it answers true and writes nothing that was there. No condition but that the arguments are ones that can come in. -/
import Derived.Test.YtjdbjmfkheffdaaPart10
import Derived.Test.YtjdbjmfkheffdaaPart2
import Derived.Test.YtjdbjmfkheffdaaPart11
import Derived.OpenShut
namespace Go.Proofs.Ytjdbjmfkheffdaa
open Go.RowKit
set_option linter.unusedVariables false
set_option maxRecDepth 20000

/-- What the walk keeps: both networks, the configuration. -/
structure PB (w V : World) (gf gr gs gc N O I cap : Nat) (F1 F2 : Nat → List Pk) (M : Nat → Nat → Prop) (D E : Nat → Prop) : Prop where
  fp : FP w V gf gr gs N O I cap F1 F2 M D E
  c0 : V.cell? ⟨gc, 0, none⟩ = some (.int .i64 (N : Int))
  lt : gc < V.heap.size
  eg : E gc
section
variable {w V V' : World} {gf gr gs gc N O I cap : Nat} {F1 F2 F' : Nat → List Pk} {M M' : Nat → Nat → Prop} {D D' E E' : Nat → Prop}
theorem PB.below (h : PB w V gf gr gs gc N O I cap F1 F2 M D E) (hb : Below V.heap.size V V') : PB w V' gf gr gs gc N O I cap F1 F2 M D E :=
  ⟨h.fp.below hb, ((bcell hb).1 gc 0 h.lt).trans h.c0, Nat.lt_of_lt_of_le h.lt hb.size, h.eg⟩
theorem PB.weak (h : PB w V gf gr gs gc N O I cap F1 F2 M D E) (hE : ∀ k, E' k → E k) (hg : E' gc) : PB w V gf gr gs gc N O I cap F1 F2 M D E' := ⟨h.fp.weak hE, h.c0, h.lt, hg⟩
theorem PB.more (h : PB w V gf gr gs gc N O I cap F1 F2 M D E) (hb : Below V.heap.size V V') (hE : ∀ k, E' k → E k ∨ (V.heap.size ≤ k ∧ k < V'.heap.size)) (hg : E' gc) : PB w V' gf gr gs gc N O I cap F1 F2 M D E' :=
  ⟨h.fp.more hb hE, ((bcell hb).1 gc 0 h.lt).trans h.c0, Nat.lt_of_lt_of_le h.lt hb.size, hg⟩
theorem PB.stepF (h : PB w V gf gr gs gc N O I cap F1 F2 M D E) (ho : On w V' gf N O I F' (Xd gr gs N M D E)) (hk : Keep (fun k => ¬ Xd gr gs N M D E k) V V') : PB w V' gf gr gs gc N O I cap F' F2 M D E :=
  ⟨h.fp.stepF ho hk, (hk.cell 0 h.lt (FP.xe h.eg)).trans h.c0, Nat.lt_of_lt_of_le h.lt hk.size, h.eg⟩
theorem PB.stepD (h : PB w V gf gr gs gc N O I cap F1 F2 M D E) (hd : DF V' gr gs N O I cap F' M' D') (hk : Keep (Yd gs N M) V V') (hM : ∀ r, r < 4 * N → ∀ k, M' r k → (∃ r', r' < 4 * N ∧ M r' k) ∨ (V.heap.size ≤ k ∧ k < V'.heap.size)) (hD : ∀ k, D' k → D k ∨ E k) : PB w V' gf gr gs gc N O I cap F1 F' M' D' E :=
  ⟨h.fp.stepD hd hk hM hD, (hk.cell 0 h.lt (h.fp.ex h.eg)).trans h.c0, Nat.lt_of_lt_of_le h.lt hk.size, h.eg⟩
theorem PB.poke {g : Nat} (h : PB w V gf gr gs gc N O I cap F1 F2 M D E) (hk : Keep (fun k => k = g) V V') (he : E g) (hw : w.heap.size ≤ g) (hD : ¬ D g) (hc : gc ≠ g) : PB w V' gf gr gs gc N O I cap F1 F2 M D E :=
  ⟨⟨h.fp.on.turn hk (fun k e => .inl (by rw [e]; exact .inr (.inr (.inr (.inr he))))) (fun k e => by rw [e]; exact hw) (fun k e => .inl e) (fun k e => Nat.lt_of_lt_of_le (h.fp.on.xlt k e) hk.size), h.fp.df.keep hk (fun e => (h.fp.en g he).2.1 e.symm) (fun e => (h.fp.en g he).1 e.symm) (fun q k hq hm e => (h.fp.en g he).2.2 q hq (e ▸ hm)) (fun k hd e => hD (e ▸ hd)), fun k hd => Nat.lt_of_lt_of_le (h.fp.dl k hd) hk.size, h.fp.ls, h.fp.lm, h.fp.en⟩, (hk.cell 0 h.lt hc).trans h.c0, Nat.lt_of_lt_of_le h.lt hk.size, h.eg⟩
theorem ActAt.keep {w w' : World} {X : Nat → Prop} {bl o : Nat} {d t b m h : Int} {x : Pk} {v : Value} (a : ActAt w bl o d t b m h x v) (hk : Keep X w w') (hX : ¬ X bl) : ActAt w' bl o d t b m h x v :=
  have e := fun j => hk.cell j a.lt hX
  ⟨(e _).trans a.c0, (e _).trans a.c1, (e _).trans a.c2, (e _).trans a.c3, (e _).trans a.c4, (e _).trans a.c5, (e _).trans a.c6, (e _).trans a.c7, (e _).trans a.c8, (e _).trans a.c9, (e _).trans a.c10, (e _).trans a.c11, (e _).trans a.c12, (e _).trans a.c13, Nat.lt_of_lt_of_le a.lt hk.size⟩
theorem act_made (w : World) (d t b m h : Int) (x : Pk) (av1 : Option Addr) (nv1 cv1 : Nat) : ActAt (w.alloc (.cells #[.int .i64 d, .int .i64 t, .int .i64 b, .int .u16 m, .int .i64 x.k, .int .i64 x.f, .int .i64 x.t, .int .i64 x.i, .int .i64 x.l, .int .i64 x.p, .int .i64 x.s, .bool x.fl, .slice av1 nv1 cv1, .int .i64 h] 52)) w.heap.size 0 d t b m h x (.slice av1 nv1 cv1) := by constructor <;> simp
end
set_option maxHeartbeats 8000000 in
theorem fabricPlays_walk (vs : Value) (w : World) (hs : IsSetup w vs) (a : Option Addr) (n cap : Nat) (hacts : n ≤ cap ∧ cap ≤ maxLen ∧ IsActs w a n) :
    Calls Try.prog 5 #[vs, .slice a n cap] w fun e w' => e = .returned (.bool true) ∧ Below w.heap.size w w' := by
  obtain ⟨sn, sl, sk, ss, sy, so, si, a0, n0, c0, z0, a1, n1, c1, z1, a2, n2, c2, z2, a3, n3, c3, z3, a4, n4, c4, z4, rfl, hz0, _⟩ := hs
  obtain ⟨hle, hmx, hacts⟩ := hacts
  unfold maxLen at hmx
  go_enter Try.func5, Try.ntmps5
  go_upto_region 2 with (go_at_call 8; refine (config_c sn sl sk ss sy so si a0 n0 c0 _ _ _ _ z0 _ (hz0.below (ba (Below.refl _ _)))).mono ?_; rintro e w1 ⟨N, L, K, S, Y, O, I, zi, av, nv, cv, rfl, hC, hnv, hown, hb1⟩; unfold cfg; have bd := hC.bd; clear hC)
  refine wp_region_orders 6 rfl (by kernel_rfl) ?_
  have HNB : Hid (1 ≤ N ∧ N ≤ 4 ∧ 1 ≤ O ∧ O ≤ 3 ∧ 1 ≤ I ∧ I ≤ 3) := ⟨bd.N0, bd.N1, bd.O0, bd.O1, bd.I0, bd.I1⟩
  have hb2 : Below w.heap.size w (w1.alloc (.cells #[.int .i64 (N : Int), .int .i64 (L : Int), .int .i64 (K : Int), .int .i64 (S : Int), .int .i64 (Y : Int), .int .i64 (O : Int), .int .i64 (I : Int), .slice av nv cv] 29)).drew := (ba (next (ba (Below.refl _ _)) hb1)).drew
  have hI : CB (w1.alloc (.cells #[.int .i64 (N : Int), .int .i64 (L : Int), .int .i64 (K : Int), .int .i64 (S : Int), .int .i64 (Y : Int), .int .i64 (O : Int), .int .i64 (I : Int), .slice av nv cv] 29)).drew w1.heap.size N L K S Y O I (.slice av nv cv) := (CB.made w1 N L K S Y O I (.slice av nv cv)).below ((Below.refl _ _).drew)
  have hge : w.heap.size ≤ w1.heap.size := by have := hb1.size; simp at this; omega
  clear hb1 hown hnv hz0 bd
  generalize (w1.alloc (.cells #[.int .i64 (N : Int), .int .i64 (L : Int), .int .i64 (K : Int), .int .i64 (S : Int), .int .i64 (Y : Int), .int .i64 (O : Int), .int .i64 (I : Int), .slice av nv cv] 29)).drew = V at *
  generalize w1.heap.size = gc at *
  refine any_inv (fun V' : World => CB V' gc N L K S Y O I (.slice av nv cv)) [] hI ?_
  refine inv_take [] 0 (.agg #[.int .i64 (N : Int), .int .i64 (L : Int), .int .i64 (K : Int), .int .i64 (S : Int), .int .i64 (Y : Int), .int .i64 (O : Int), .int .i64 (I : Int), .slice av nv cv]) hI rfl (by kernel_rfl) (by kernel_rfl) (by kernel_rfl) (by kernel_rfl) (by kernel_rfl) (fun _ _ _ h => h) (by kernel_rfl) (fun w hI => by obtain ⟨k0, k1, k2, k3, k4, k5, k6, k7, kl⟩ := hI; go_simp) ?_
  simp only [Act.put, List.setIfInBounds_toArray, List.set_cons_zero, List.set_cons_succ]
  refine inv_take [] 2 (.agg #[.int .i64 (N : Int), .int .i64 (L : Int), .int .i64 (K : Int), .int .i64 (S : Int), .int .i64 (Y : Int), .int .i64 (O : Int), .int .i64 (I : Int), .slice av nv cv]) hI rfl (by kernel_rfl) (by kernel_rfl) (by kernel_rfl) (by kernel_rfl) (by kernel_rfl) (fun _ _ _ h => h) (by kernel_rfl) (fun w hI => by obtain ⟨k0, k1, k2, k3, k4, k5, k6, k7, kl⟩ := hI; go_simp) ?_
  simp only [Act.put, List.setIfInBounds_toArray, List.set_cons_zero, List.set_cons_succ]
  refine inv_list 1 (by kernel_rfl) rfl ?_
  go_wp2_with (go_at_call 9; refine (new_on (w := w) (X := fun k => k = gc) hb2 (fun k h => by subst h; exact hI.lt) N L K S Y O I (.slice av nv cv) rfl HNB.out.1 (by have := HNB.out; omega) (by have := HNB.out; omega) (by have := HNB.out; omega) (by have := HNB.out; omega) (by have := HNB.out; omega)).mono ?_; rintro e w2 ⟨gf, rfl, hf0, hb3⟩)
  replace hI := CB.below hI hb3
  refine then_n ⟨hI, ?_⟩
  refine inv_list 3 (by kernel_rfl) rfl ?_
  go_wp2_with (go_at_call 21; refine (refNew_any w2 (L : Int) (K : Int) (S : Int) (Y : Int) av nv cv HNB.out.1 (by have := HNB.out; omega) (by have := HNB.out; omega)).mono ?_; rintro e w3 ⟨gr, gs, rfl, hd3, hgr, hgs, hb4⟩)
  have hP0 : PB w w3 gf gr gs gc N O I N (fun _ => []) (fun _ => []) (fun _ => noM) noM (fun k => k = gc) := by
    have hlt := hI.lt
    refine ⟨⟨hf0.more hb4 (fun k hk => ?_), hd3, fun k h => h.elim, Nat.le_trans hf0.bel.size hgs, fun q hq k h => h.elim, fun k hk => ?_⟩, (hI.below hb4).c0, (hI.below hb4).lt, rfl⟩
    · rcases hk with hk | hk | ⟨q, hq, hk⟩ | hk | hk
      · subst hk; exact .inr ⟨hgr, hd3.lt⟩
      · subst hk; exact .inr ⟨hgs, hd3.net.lt⟩
      · exact hk.elim
      · exact hk.elim
      · exact .inl hk
    · subst hk; exact ⟨by omega, by omega, fun q hq h => h⟩
  replace hI := CB.below hI hb4
  refine then_n ⟨hI, ?_⟩
  clear hf0 hb2 hb3 hb4 hd3 hgr hgs
  refine inv_take [] 4 (.pointer (some ⟨gf, 0, none⟩)) hI rfl (by kernel_rfl) (by kernel_rfl) (by kernel_rfl) (by kernel_rfl) (by kernel_rfl) (fun _ _ _ h => h) (by kernel_rfl) (fun w hI => by go_simp) ?_
  simp only [Act.put, List.setIfInBounds_toArray, List.set_cons_zero, List.set_cons_succ]
  refine inv_take [] 5 (.pointer (some ⟨gr, 0, none⟩)) hI rfl (by kernel_rfl) (by kernel_rfl) (by kernel_rfl) (by kernel_rfl) (by kernel_rfl) (fun _ _ _ h => h) (by kernel_rfl) (fun w hI => by go_simp) ?_
  simp only [Act.put, List.setIfInBounds_toArray, List.set_cons_zero, List.set_cons_succ]
  refine inv_done (by kernel_rfl) ?_
  clear hI
  go_wp2_with fail
  go_loopw [8] (fun vi wr => ∃ (k : Nat) (F : Nat → List Pk) (M : Nat → Nat → Prop) (D : Nat → Prop), k ≤ n ∧ k ≤ 24 ∧ vi = .int .i64 k ∧ PB w wr gf gr gs gc N O I N F F M D (fun k => k = gc)) (fun vi _ => 24 - (intOf vi).toNat)
  case atStart => exact ⟨0, fun _ => [], fun _ => noM, noM, by omega, by omega, rfl, hP0⟩
  case round =>
    clear hP0
    obtain ⟨k, F, M, D, hkn, hk24, rfl, hP⟩ := hrel
    by_cases hlt : k < n
    · by_cases hlt9 : k < 24
      · obtain ⟨bl, o, d, t, b, m, h, x, av1, nv1, cv1, rfl, ha, hxs, hx64, hm0, hm1, ht63⟩ := (hacts.below hP.fp.on.bel) k hlt
        obtain ⟨e0, e1, e2, e3, e4, e5, e6, e7, e8, e9, e10, e11, e12, e13, elt⟩ := ha
        obtain ⟨r, hr, hr0, hr1⟩ : ∃ r : Int, d % 9 = r ∧ 0 ≤ r ∧ r < 9 := ⟨_, rfl, Int.emod_nonneg _ (by omega), Int.emod_lt_of_pos _ (by omega)⟩
        go_upto_region 9 with fail
        have hP1 := hP.more (E' := fun k => k = gc ∨ k = wr.heap.size) (ba (o := .cells #[.int .i64 d, .int .i64 t, .int .i64 b, .int .u16 m, .int .i64 x.k, .int .i64 x.f, .int .i64 x.t, .int .i64 x.i, .int .i64 x.l, .int .i64 x.p, .int .i64 x.s, .bool x.fl, .slice av1 nv1 cv1, .int .i64 h] 52) (Below.refl _ _)) (fun k hk => hk.imp id (fun e => by subst e; simp)) (.inl rfl)
        have hA1 := act_made wr d t b m h x av1 nv1 cv1
        have hxs1 := hxs.below (ba (o := .cells #[.int .i64 d, .int .i64 t, .int .i64 b, .int .u16 m, .int .i64 x.k, .int .i64 x.f, .int .i64 x.t, .int .i64 x.i, .int .i64 x.l, .int .i64 x.p, .int .i64 x.s, .bool x.fl, .slice av1 nv1 cv1, .int .i64 h] 52) (Below.refl _ _))
        clear e0 e1 e2 e3 e4 e5 e6 e7 e8 e9 e10 e11 e12 e13 elt hxs hP
        refine wp_region_orders 8 rfl (by kernel_rfl) ?_
        have hdr : Below (wr.alloc (.cells #[.int .i64 d, .int .i64 t, .int .i64 b, .int .u16 m, .int .i64 x.k, .int .i64 x.f, .int .i64 x.t, .int .i64 x.i, .int .i64 x.l, .int .i64 x.p, .int .i64 x.s, .bool x.fl, .slice av1 nv1 cv1, .int .i64 h] 52)).heap.size (wr.alloc (.cells #[.int .i64 d, .int .i64 t, .int .i64 b, .int .u16 m, .int .i64 x.k, .int .i64 x.f, .int .i64 x.t, .int .i64 x.i, .int .i64 x.l, .int .i64 x.p, .int .i64 x.s, .bool x.fl, .slice av1 nv1 cv1, .int .i64 h] 52)) (wr.alloc (.cells #[.int .i64 d, .int .i64 t, .int .i64 b, .int .u16 m, .int .i64 x.k, .int .i64 x.f, .int .i64 x.t, .int .i64 x.i, .int .i64 x.l, .int .i64 x.p, .int .i64 x.s, .bool x.fl, .slice av1 nv1 cv1, .int .i64 h] 52)).drew := (Below.refl _ _).drew
        replace hP1 := hP1.below hdr
        replace hA1 := hA1.below hdr
        replace hxs1 := hxs1.below hdr
        clear hdr
        generalize (wr.alloc (.cells #[.int .i64 d, .int .i64 t, .int .i64 b, .int .u16 m, .int .i64 x.k, .int .i64 x.f, .int .i64 x.t, .int .i64 x.i, .int .i64 x.l, .int .i64 x.p, .int .i64 x.s, .bool x.fl, .slice av1 nv1 cv1, .int .i64 h] 52)).drew = V1 at *
        generalize wr.heap.size = gx at *
        obtain ⟨T, hT, hT0⟩ : ∃ T : Nat, (laneL F (2 * N)).length = T ∧ T ≤ 12000 := ⟨_, rfl, hP1.fp.on.max⟩
        have HT : Hid ((laneL F (2 * N)).length = T) := hT
        obtain ⟨A, hA, hA0, hA2⟩ : ∃ A : Int, t % ((T : Int) + 1) = A ∧ 0 ≤ A ∧ A ≤ 12000 := ⟨_, rfl, Int.emod_nonneg _ (by omega), by have := Int.emod_lt_of_pos t (b := (T : Int) + 1) (by omega); omega⟩
        have HA63 : Hid (A < 9223372036854775808) := by show _ < _; omega
        clear hT
        have hI : (fun V' : World => ActAt V' gx 0 d t b m h x (.slice av1 nv1 cv1)) V1 := hA1
        refine any_inv (fun V' : World => ActAt V' gx 0 d t b m h x (.slice av1 nv1 cv1)) [] hI ?_
        refine inv_take [] 0 (.pointer (some ⟨gx, 1, none⟩)) hI rfl (by kernel_rfl) (by kernel_rfl) (by kernel_rfl) (by kernel_rfl) (by kernel_rfl) (fun _ _ _ h => h) (by kernel_rfl) (fun w hI => by go_simp) ?_
        simp only [Act.put, List.setIfInBounds_toArray, List.set_cons_zero, List.set_cons_succ]
        refine inv_take [] 1 (.int .i64 t) hI rfl (by kernel_rfl) (by kernel_rfl) (by kernel_rfl) (by kernel_rfl) (by kernel_rfl) (fun _ _ _ h => h) (by kernel_rfl) (fun w hI => by have k1 := hI.c1; go_simp) ?_
        simp only [Act.put, List.setIfInBounds_toArray, List.set_cons_zero, List.set_cons_succ]
        refine inv_take [] 2 (.pointer (some ⟨gr, 0, none⟩)) hI rfl (by kernel_rfl) (by kernel_rfl) (by kernel_rfl) (by kernel_rfl) (by kernel_rfl) (fun _ _ _ h => h) (by kernel_rfl) (fun w hI => by go_simp) ?_
        simp only [Act.put, List.setIfInBounds_toArray, List.set_cons_zero, List.set_cons_succ]
        refine inv_list 3 (by kernel_rfl) rfl ?_
        go_wp2_with (go_at_call 22; refine (refUnder_any _ hP1.fp.df hP1.fp.dl).mono ?_; rintro e w4 ⟨MA4, R4, a4', c4', rfl, hU4⟩; rw [HT.out])
        replace hA1 := hA1.below hU4.bel
        replace hP1 := hP1.below hU4.bel
        replace hxs1 := hxs1.below hU4.bel
        replace hI := hA1
        refine then_n ⟨hI, ?_⟩
        clear hU4
        refine inv_take [] 4 (.int .i64 (T : Int)) hI rfl (by kernel_rfl) (by kernel_rfl) (by kernel_rfl) (by kernel_rfl) (by kernel_rfl) (fun _ _ _ h => h) (by kernel_rfl) (fun w hI => by go_simp) ?_
        simp only [Act.put, List.setIfInBounds_toArray, List.set_cons_zero, List.set_cons_succ]
        refine inv_take [] 5 (.int .i64 ((T : Int) + 1)) hI rfl (by kernel_rfl) (by kernel_rfl) (by kernel_rfl) (by kernel_rfl) (by kernel_rfl) (fun _ _ _ h => h) (by kernel_rfl) (fun w hI => by go_simp; rw [IntKind.wrap_i64]; omega) ?_
        simp only [Act.put, List.setIfInBounds_toArray, List.set_cons_zero, List.set_cons_succ]
        refine inv_list 6 (by kernel_rfl) rfl ?_
        go_wp2_with (go_at_call 11; refine (within_any t ((T : Int) + 1) _ (by omega) (by omega)).mono ?_; rintro e w5 ⟨rfl, rfl⟩; rw [hA])
        refine then_n ⟨hI, ?_⟩
        refine inv_take [] 7 (.int .i64 A) hI rfl (by kernel_rfl) (by kernel_rfl) (by kernel_rfl) (by kernel_rfl) (by kernel_rfl) (fun _ _ _ h => h) (by kernel_rfl) (fun w hI => by go_simp) ?_
        simp only [Act.put, List.setIfInBounds_toArray, List.set_cons_zero, List.set_cons_succ]
        refine inv_done (by kernel_rfl) ?_
        clear hI HT hA hT0
        have f0 := hA1.c0
        have f0l := hA1.lt
        go_upto_block 2 with (go_at_call 11; refine (within_any _ _ _ (by decide) (by decide)).mono ?_; rintro e w6 ⟨rfl, rfl⟩; rw [hr])
        go_cut [] (fun wx => ∃ (F' : Nat → List Pk) (M' : Nat → Nat → Prop) (D' : Nat → Prop), PB w wx gf gr gs gc N O I N F' F' M' D' (fun k => k = gc))
        case first =>
          have hrc : r = 0 ∨ r = 1 ∨ r = 2 ∨ r = 3 ∨ r = 4 ∨ r = 5 ∨ r = 6 ∨ r = 7 ∨ r = 8 := by omega
          rcases hrc with rfl | rfl | rfl | rfl | rfl | rfl | rfl | rfl | rfl
          · as_aux_lemma =>
              clear hacts
              have g4 := hA1.c4
              have g5 := hA1.c5
              have g6 := hA1.c6
              have g7 := hA1.c7
              have g8 := hA1.c8
              have g9 := hA1.c9
              have g10 := hA1.c10
              have g11 := hA1.c11
              have g12 := hA1.c12
              have g13 := hA1.c13
              simp only [Nat.zero_add] at g4 g5 g6 g7 g8 g9 g10 g11 g12 g13
              go_upto_region 20 with (go_at_call 10; refine (play_any x h av1 nv1 cv1 _ hxs1).mono ?_; rintro e w3 ⟨v3, rfl, y, ya, yn, yc, rfl, hys, hyn, _, hyR, ylo, hb3⟩; unfold Pk.val)
              have hyz := hyR hx64
              have hP2 := hP1.more (E' := (fun k => k = gc ∨ k = w3.heap.size ∨ ∃ ad : Addr, ya = some ad ∧ ad.block = k)) (by exact ba (o := .cells #[.int .i64 y.k, .int .i64 y.f, .int .i64 y.t, .int .i64 y.i, .int .i64 y.l, .int .i64 y.p, .int .i64 y.s, .bool y.fl, .slice ya yn yc] 26) hb3) (fun k hk => by
                have z3 := hb3.size
                rcases hk with rfl | rfl | ⟨ad, e, rfl⟩
                · exact .inl (.inl rfl)
                · exact .inr (by simp at z3 ⊢; omega)
                · have := ylo ad e; exact .inr (by simp at this ⊢; omega)) (.inl rfl)
              have bp := Bx.made w3 y (.slice ya yn yc)
              have hys' := hys.below (ba (o := .cells #[.int .i64 y.k, .int .i64 y.f, .int .i64 y.t, .int .i64 y.i, .int .i64 y.l, .int .i64 y.p, .int .i64 y.s, .bool y.fl, .slice ya yn yc] 26) (Below.refl _ _))
              have far : ∀ ad : Addr, ya = some ad → ad.block ≠ w3.heap.size := fun ad e => by have := ylo ad e; omega
              have hge3 : w.heap.size ≤ w3.heap.size := Nat.le_trans hP1.fp.on.bel.size hb3.size
              have hgp : gc ≠ w3.heap.size := fun e => by have h1 := hP1.lt; have h2 := hb3.size; omega
              have hgD : ¬ D w3.heap.size := fun e => by have h1 := hP1.fp.dl _ e; have h2 := hb3.size; omega
              have hA3 := (hA1.below hb3).below (ba (o := .cells #[.int .i64 y.k, .int .i64 y.f, .int .i64 y.t, .int .i64 y.i, .int .i64 y.l, .int .i64 y.p, .int .i64 y.s, .bool y.fl, .slice ya yn yc] 26) (Below.refl _ _))
              have h13 := hA3.c13
              have h13l := hA3.lt
              simp only [Nat.zero_add] at h13
              clear hyR ylo hb3 hys hP1 hxs1 hx64 hA1 hA3 g4 g5 g6 g7 g8 g9 g10 g11 g12 g13 f0 f0l
              generalize w3.alloc (.cells #[.int .i64 y.k, .int .i64 y.f, .int .i64 y.t, .int .i64 y.i, .int .i64 y.l, .int .i64 y.p, .int .i64 y.s, .bool y.fl, .slice ya yn yc] 26) = W at *
              generalize w3.heap.size = gp at *
              go_upto_if 94 with fail
              obtain ⟨hb, hhb⟩ : ∃ hb, (h.tmod 3 != 0) = hb := ⟨_, rfl⟩
              rw [hhb]
              clear hhb h13 h13l
              go_cut [] (fun wx => ∃ p : Pk, PB w wx gf gr gs gc N O I N F F M D (fun k => k = gc ∨ k = gp ∨ ∃ ad : Addr, ya = some ad ∧ ad.block = k) ∧ Bx wx gp p (.slice ya yn yc) ∧ Sl wx ya yn yc p.z ∧ R64 p.z)
              case first =>
                cases hb
                · go_wp2_with fail
                  go_meet
                  case rel => exact ⟨y, hP2, bp, hys', hyz⟩
                · go_upto_region 21 with fail
                  refine wp_region_orders 14 rfl (by kernel_rfl) ?_
                  have hdr : Below W.heap.size W W.drew := (Below.refl _ _).drew
                  replace bp := bp.next hdr
                  replace hP2 := hP2.below hdr
                  replace hys' := hys'.below hdr
                  clear hdr
                  generalize W.drew = wd at *
                  obtain ⟨q0, q1, q2, q3, q4, q5, q6, q7, q8, qf, ql⟩ := id bp
                  have d0 := hP2.c0
                  have dl := hP2.lt
                  have uc := @Up.cell2
                  have uf := @Up.frozen2
                  refine any_take 0 (.pointer (some ⟨gp, 1, none⟩)) rfl (by kernel_rfl) (by kernel_rfl) (by kernel_rfl) (fun _ _ _ h => h) (by kernel_rfl) (fun w => by go_simp) ?_
                  simp only [Act.put, List.setIfInBounds_toArray, List.set_cons_zero, List.set_cons_succ]
                  refine any_take 2 (.pointer (some ⟨gc, 0, none⟩)) rfl (by kernel_rfl) (by kernel_rfl) (by kernel_rfl) (fun _ _ _ h => h) (by kernel_rfl) (fun w => by go_simp) ?_
                  simp only [Act.put, List.setIfInBounds_toArray, List.set_cons_zero, List.set_cons_succ]
                  refine any_take 5 (.pointer (some ⟨gp, 2, none⟩)) rfl (by kernel_rfl) (by kernel_rfl) (by kernel_rfl) (fun _ _ _ h => h) (by kernel_rfl) (fun w => by go_simp) ?_
                  simp only [Act.put, List.setIfInBounds_toArray, List.set_cons_zero, List.set_cons_succ]
                  refine any_take 7 (.pointer (some ⟨gc, 0, none⟩)) rfl (by kernel_rfl) (by kernel_rfl) (by kernel_rfl) (fun _ _ _ h => h) (by kernel_rfl) (fun w => by go_simp) ?_
                  simp only [Act.put, List.setIfInBounds_toArray, List.set_cons_zero, List.set_cons_succ]
                  refine any_mildx [11, 13] ?_
                  refine mildy_take (v := ?v1) [4, 9, 11, 13] 1 rfl (by kernel_rfl) (by kernel_rfl) (by kernel_rfl) (by kernel_rfl) (by kernel_rfl) (fun _ _ _ h => h) (by kernel_rfl) (fun Wu K hK => ?hy1) ?go1
                  case hy1 =>
                    go_big_quiet_op
                    simp only [Act.put, List.setIfInBounds_toArray, List.set_cons_zero, List.set_cons_succ] at hK
                    exact hK
                  simp only [Act.put, List.setIfInBounds_toArray, List.set_cons_zero, List.set_cons_succ]
                  refine mildy_take (v := ?v2) [4, 9, 11, 13] 3 rfl (by kernel_rfl) (by kernel_rfl) (by kernel_rfl) (by kernel_rfl) (by kernel_rfl) (fun _ _ _ h => h) (by kernel_rfl) (fun Wu K hK => ?hy2) ?go2
                  case hy2 =>
                    go_big_quiet_op
                    simp only [Act.put, List.setIfInBounds_toArray, List.set_cons_zero, List.set_cons_succ] at hK
                    exact hK
                  simp only [Act.put, List.setIfInBounds_toArray, List.set_cons_zero, List.set_cons_succ]
                  refine mildy_take (v := ?v3) [9, 11, 13] 6 rfl (by kernel_rfl) (by kernel_rfl) (by kernel_rfl) (by kernel_rfl) (by kernel_rfl) (fun _ _ _ h => h) (by kernel_rfl) (fun Wu K hK => ?hy3) ?go3
                  case hy3 =>
                    go_big_quiet_op
                    simp only [Act.put, List.setIfInBounds_toArray, List.set_cons_zero, List.set_cons_succ] at hK
                    exact hK
                  simp only [Act.put, List.setIfInBounds_toArray, List.set_cons_zero, List.set_cons_succ]
                  refine mildy_take (v := ?v4) [9, 11, 13] 8 rfl (by kernel_rfl) (by kernel_rfl) (by kernel_rfl) (by kernel_rfl) (by kernel_rfl) (fun _ _ _ h => h) (by kernel_rfl) (fun Wu K hK => ?hy4) ?go4
                  case hy4 =>
                    go_big_quiet_op
                    simp only [Act.put, List.setIfInBounds_toArray, List.set_cons_zero, List.set_cons_succ] at hK
                    exact hK
                  simp only [Act.put, List.setIfInBounds_toArray, List.set_cons_zero, List.set_cons_succ]
                  refine mildy_take (v := ?v5) [9, 11, 13] 4 rfl (by kernel_rfl) (by kernel_rfl) (by kernel_rfl) (by kernel_rfl) (by kernel_rfl) (fun _ _ _ h => h) (by kernel_rfl) (fun Wu K hK => ?hy5) ?go5
                  case hy5 =>
                    go_big_quiet_op
                    simp only [Act.put, List.setIfInBounds_toArray, List.set_cons_zero, List.set_cons_succ] at hK
                    refine ⟨_, fun u => Calls.up_same (within_any y.f (N : Int) u.1 (by have := HNB.out; omega) (by have := HNB.out; omega)), ?_⟩
                    exact hK
                  simp only [Act.put, List.setIfInBounds_toArray, List.set_cons_zero, List.set_cons_succ]
                  refine mildy_take (v := ?v6) [11, 13] 9 rfl (by kernel_rfl) (by kernel_rfl) (by kernel_rfl) (by kernel_rfl) (by kernel_rfl) (fun _ _ _ h => h) (by kernel_rfl) (fun Wu K hK => ?hy6) ?go6
                  case hy6 =>
                    go_big_quiet_op
                    simp only [Act.put, List.setIfInBounds_toArray, List.set_cons_zero, List.set_cons_succ] at hK
                    refine ⟨_, fun u => Calls.up_same (within_any y.t (N : Int) u.1 (by have := HNB.out; omega) (by have := HNB.out; omega)), ?_⟩
                    exact hK
                  simp only [Act.put, List.setIfInBounds_toArray, List.set_cons_zero, List.set_cons_succ]
                  refine mildy_take (v := ?v7) [11, 13] 10 rfl (by kernel_rfl) (by kernel_rfl) (by kernel_rfl) (by kernel_rfl) (by kernel_rfl) (fun _ _ _ h => h) (by kernel_rfl) (fun Wu K hK => ?hy7) ?go7
                  case hy7 =>
                    go_big_quiet_op
                    simp only [Act.put, List.setIfInBounds_toArray, List.set_cons_zero, List.set_cons_succ] at hK
                    exact hK
                  simp only [Act.put, List.setIfInBounds_toArray, List.set_cons_zero, List.set_cons_succ]
                  intro W2
                  clear uc uf q0 q1 q2 q3 q4 q5 q6 q7 q8 qf ql d0 dl
                  replace bp := bp.next W2.2
                  replace hP2 := hP2.below W2.2
                  replace hys' := hys'.below W2.2
                  generalize W2.1 = wa at *
                  obtain ⟨q0, q1, q2, q3, q4, q5, q6, q7, q8, qf, ql⟩ := id bp
                  refine upx_write 11 (by kernel_rfl) (by kernel_rfl) rfl ?_
                  go_wp2
                  refine then_n ?_
                  refine any_take 12 (.pointer (some ⟨gp, 2, none⟩)) rfl (by kernel_rfl) (by kernel_rfl) (by kernel_rfl) (fun _ _ _ h => h) (by kernel_rfl) (fun w => by go_simp) ?_
                  simp only [Act.put, List.setIfInBounds_toArray, List.set_cons_zero, List.set_cons_succ]
                  refine any_list 13 (by kernel_rfl) rfl ?_
                  go_wp2
                  refine then_n ?_
                  refine any_done (by kernel_rfl) ?_
                  clear q0 q1 q2 q3 q4 q5 q6 q7 q8 qf ql
                  have bp2 := (bp.setF (y.f % (N : Int))).setT (y.t % (N : Int))
                  have kk := ((Keep.refl (fun k => k = gp) wa).setCell (p := ⟨gp, 1, none⟩) (.inl rfl) (.int .i64 (y.f % (N : Int)))).setCell (p := ⟨gp, 2, none⟩) (.inl rfl) (.int .i64 (y.t % (N : Int)))
                  have sl2 : Sl _ ya yn yc ({ y with f := y.f % (N : Int), t := y.t % (N : Int) } : Pk).z := hys'.keep kk (fun _ ad e h => far ad e h)
                  have hP3 := hP2.poke kk (.inr (.inl rfl)) hge3 hgD hgp
                  go_wp2
                  go_meet
                  case rel => exact ⟨_, hP3, bp2, sl2, hyz⟩
              case rest =>
                obtain ⟨p, hP3, bp3, hsp, hpz⟩ := hcut
                clear hP2 bp hys' hyz far
                obtain ⟨e5, F', hSS⟩ := send_ex (out := (O : Int)) (inn := (I : Int)) p hP3.fp.on.rooms
                have HS : Hid (SendTo N O F p e5 F') := hSS
                clear hSS
                go_upto_region 22 with fail
                refine wp_region_orders 7 rfl (by kernel_rfl) ?_
                have hdr : Below wc.heap.size wc wc.drew := (Below.refl _ _).drew
                replace bp3 := bp3.next hdr
                replace hP3 := hP3.below hdr
                replace hsp := hsp.below hdr
                clear hdr
                generalize wc.drew = V2 at *
                have hI : (fun V' : World => Bx V' gp p (.slice ya yn yc)) V2 := bp3
                refine any_inv (fun V' : World => Bx V' gp p (.slice ya yn yc)) [] hI ?_
                refine inv_take [] 0 (.pointer (some ⟨gf, 0, none⟩)) hI rfl (by kernel_rfl) (by kernel_rfl) (by kernel_rfl) (by kernel_rfl) (by kernel_rfl) (fun _ _ _ h => h) (by kernel_rfl) (fun w hI => by go_simp) ?_
                simp only [Act.put, List.setIfInBounds_toArray, List.set_cons_zero, List.set_cons_succ]
                refine inv_take [] 1 (p.val (.slice ya yn yc)) hI rfl (by kernel_rfl) (by kernel_rfl) (by kernel_rfl) (by kernel_rfl) (by kernel_rfl) (fun _ _ _ h => h) (by kernel_rfl) (fun w hI => by obtain ⟨k0, k1, k2, k3, k4, k5, k6, k7, k8, kf, kl⟩ := hI; go_simp) ?_
                simp only [Act.put, List.setIfInBounds_toArray, List.set_cons_zero, List.set_cons_succ]
                refine inv_take [] 3 (.pointer (some ⟨gr, 0, none⟩)) hI rfl (by kernel_rfl) (by kernel_rfl) (by kernel_rfl) (by kernel_rfl) (by kernel_rfl) (fun _ _ _ h => h) (by kernel_rfl) (fun w hI => by go_simp) ?_
                simp only [Act.put, List.setIfInBounds_toArray, List.set_cons_zero, List.set_cons_succ]
                refine inv_take [] 4 (p.val (.slice ya yn yc)) hI rfl (by kernel_rfl) (by kernel_rfl) (by kernel_rfl) (by kernel_rfl) (by kernel_rfl) (fun _ _ _ h => h) (by kernel_rfl) (fun w hI => by obtain ⟨k0, k1, k2, k3, k4, k5, k6, k7, k8, kf, kl⟩ := hI; go_simp) ?_
                simp only [Act.put, List.setIfInBounds_toArray, List.set_cons_zero, List.set_cons_succ]
                refine inv_list 2 (by kernel_rfl) rfl ?_
                go_wp2_with (go_at_call 12; refine (send_on hP3.fp.on p ya yn yc hsp hpz HS.out).mono ?_; rintro en w5 ⟨rfl, ho5, hk5⟩)
                have hP4 := hP3.stepF ho5 hk5
                have bp4 := bp3.keep hk5 (FP.xe (E := (fun k => k = gc ∨ k = gp ∨ ∃ ad : Addr, ya = some ad ∧ ad.block = k)) (.inr (.inl rfl)))
                have hsp4 := hsp.keep hk5 (fun hz ad e => FP.xe (E := (fun k => k = gc ∨ k = gp ∨ ∃ ad : Addr, ya = some ad ∧ ad.block = k)) (.inr (.inr ⟨ad, e, rfl⟩)))
                refine then_n ⟨bp4, ?_⟩
                refine inv_list 5 (by kernel_rfl) rfl ?_
                go_wp2_with (go_at_call 23; refine (refSend_to _ hP4.fp.df hP4.fp.dl p ya yn yc hsp4 (fun hz ad e => hP4.fp.en ad.block (.inr (.inr ⟨ad, e, rfl⟩))) HS.out).mono ?_; rintro en w7 ⟨rfl, D7, ⟨M7, hd7, hM7, hk7⟩, hD7⟩)
                have hP5 := hP4.stepD hd7 hk7 hM7 (fun k hk => (hD7 k hk).imp id (fun ⟨_, ad, e, he⟩ => .inr (.inr ⟨ad, e, he⟩)))
                have bp5 := bp4.keep hk7 (hP4.fp.ex (.inr (.inl rfl)))
                refine then_n ⟨bp5, ?_⟩
                refine inv_take [] 6 (.bool false) bp5 rfl (by kernel_rfl) (by kernel_rfl) (by kernel_rfl) (by kernel_rfl) (by kernel_rfl) (fun _ _ _ h => h) (by kernel_rfl) (fun w hI => by go_simp) ?_
                simp only [Act.put, List.setIfInBounds_toArray, List.set_cons_zero, List.set_cons_succ]
                refine inv_done (by kernel_rfl) ?_
                go_wp2
                go_meet
                case rel => exact ⟨F', M7, D7, hP5.weak (fun k e => .inl e) rfl⟩
          · as_aux_lemma =>
              clear hacts
              have g4 := hA1.c4
              have g5 := hA1.c5
              have g6 := hA1.c6
              have g7 := hA1.c7
              have g8 := hA1.c8
              have g9 := hA1.c9
              have g10 := hA1.c10
              have g11 := hA1.c11
              have g12 := hA1.c12
              have g13 := hA1.c13
              simp only [Nat.zero_add] at g4 g5 g6 g7 g8 g9 g10 g11 g12 g13
              go_upto_region 20 with (go_at_call 10; refine (play_any x h av1 nv1 cv1 _ hxs1).mono ?_; rintro e w3 ⟨v3, rfl, y, ya, yn, yc, rfl, hys, hyn, _, hyR, ylo, hb3⟩; unfold Pk.val)
              have hyz := hyR hx64
              have hP2 := hP1.more (E' := (fun k => k = gc ∨ k = w3.heap.size ∨ ∃ ad : Addr, ya = some ad ∧ ad.block = k)) (by exact ba (o := .cells #[.int .i64 y.k, .int .i64 y.f, .int .i64 y.t, .int .i64 y.i, .int .i64 y.l, .int .i64 y.p, .int .i64 y.s, .bool y.fl, .slice ya yn yc] 26) hb3) (fun k hk => by
                have z3 := hb3.size
                rcases hk with rfl | rfl | ⟨ad, e, rfl⟩
                · exact .inl (.inl rfl)
                · exact .inr (by simp at z3 ⊢; omega)
                · have := ylo ad e; exact .inr (by simp at this ⊢; omega)) (.inl rfl)
              have bp := Bx.made w3 y (.slice ya yn yc)
              have hys' := hys.below (ba (o := .cells #[.int .i64 y.k, .int .i64 y.f, .int .i64 y.t, .int .i64 y.i, .int .i64 y.l, .int .i64 y.p, .int .i64 y.s, .bool y.fl, .slice ya yn yc] 26) (Below.refl _ _))
              have far : ∀ ad : Addr, ya = some ad → ad.block ≠ w3.heap.size := fun ad e => by have := ylo ad e; omega
              have hge3 : w.heap.size ≤ w3.heap.size := Nat.le_trans hP1.fp.on.bel.size hb3.size
              have hgp : gc ≠ w3.heap.size := fun e => by have h1 := hP1.lt; have h2 := hb3.size; omega
              have hgD : ¬ D w3.heap.size := fun e => by have h1 := hP1.fp.dl _ e; have h2 := hb3.size; omega
              have hA3 := (hA1.below hb3).below (ba (o := .cells #[.int .i64 y.k, .int .i64 y.f, .int .i64 y.t, .int .i64 y.i, .int .i64 y.l, .int .i64 y.p, .int .i64 y.s, .bool y.fl, .slice ya yn yc] 26) (Below.refl _ _))
              have h13 := hA3.c13
              have h13l := hA3.lt
              simp only [Nat.zero_add] at h13
              clear hyR ylo hb3 hys hP1 hxs1 hx64 hA1 hA3 g4 g5 g6 g7 g8 g9 g10 g11 g12 g13 f0 f0l
              generalize w3.alloc (.cells #[.int .i64 y.k, .int .i64 y.f, .int .i64 y.t, .int .i64 y.i, .int .i64 y.l, .int .i64 y.p, .int .i64 y.s, .bool y.fl, .slice ya yn yc] 26) = W at *
              generalize w3.heap.size = gp at *
              go_upto_if 94 with fail
              obtain ⟨hb, hhb⟩ : ∃ hb, (h.tmod 3 != 0) = hb := ⟨_, rfl⟩
              rw [hhb]
              clear hhb h13 h13l
              go_cut [] (fun wx => ∃ p : Pk, PB w wx gf gr gs gc N O I N F F M D (fun k => k = gc ∨ k = gp ∨ ∃ ad : Addr, ya = some ad ∧ ad.block = k) ∧ Bx wx gp p (.slice ya yn yc) ∧ Sl wx ya yn yc p.z ∧ R64 p.z)
              case first =>
                cases hb
                · go_wp2_with fail
                  go_meet
                  case rel => exact ⟨y, hP2, bp, hys', hyz⟩
                · go_upto_region 21 with fail
                  refine wp_region_orders 14 rfl (by kernel_rfl) ?_
                  have hdr : Below W.heap.size W W.drew := (Below.refl _ _).drew
                  replace bp := bp.next hdr
                  replace hP2 := hP2.below hdr
                  replace hys' := hys'.below hdr
                  clear hdr
                  generalize W.drew = wd at *
                  obtain ⟨q0, q1, q2, q3, q4, q5, q6, q7, q8, qf, ql⟩ := id bp
                  have d0 := hP2.c0
                  have dl := hP2.lt
                  have uc := @Up.cell2
                  have uf := @Up.frozen2
                  refine any_take 0 (.pointer (some ⟨gp, 1, none⟩)) rfl (by kernel_rfl) (by kernel_rfl) (by kernel_rfl) (fun _ _ _ h => h) (by kernel_rfl) (fun w => by go_simp) ?_
                  simp only [Act.put, List.setIfInBounds_toArray, List.set_cons_zero, List.set_cons_succ]
                  refine any_take 2 (.pointer (some ⟨gc, 0, none⟩)) rfl (by kernel_rfl) (by kernel_rfl) (by kernel_rfl) (fun _ _ _ h => h) (by kernel_rfl) (fun w => by go_simp) ?_
                  simp only [Act.put, List.setIfInBounds_toArray, List.set_cons_zero, List.set_cons_succ]
                  refine any_take 5 (.pointer (some ⟨gp, 2, none⟩)) rfl (by kernel_rfl) (by kernel_rfl) (by kernel_rfl) (fun _ _ _ h => h) (by kernel_rfl) (fun w => by go_simp) ?_
                  simp only [Act.put, List.setIfInBounds_toArray, List.set_cons_zero, List.set_cons_succ]
                  refine any_take 7 (.pointer (some ⟨gc, 0, none⟩)) rfl (by kernel_rfl) (by kernel_rfl) (by kernel_rfl) (fun _ _ _ h => h) (by kernel_rfl) (fun w => by go_simp) ?_
                  simp only [Act.put, List.setIfInBounds_toArray, List.set_cons_zero, List.set_cons_succ]
                  refine any_mildx [11, 13] ?_
                  refine mildy_take (v := ?v8) [4, 9, 11, 13] 1 rfl (by kernel_rfl) (by kernel_rfl) (by kernel_rfl) (by kernel_rfl) (by kernel_rfl) (fun _ _ _ h => h) (by kernel_rfl) (fun Wu K hK => ?hy8) ?go8
                  case hy8 =>
                    go_big_quiet_op
                    simp only [Act.put, List.setIfInBounds_toArray, List.set_cons_zero, List.set_cons_succ] at hK
                    exact hK
                  simp only [Act.put, List.setIfInBounds_toArray, List.set_cons_zero, List.set_cons_succ]
                  refine mildy_take (v := ?v9) [4, 9, 11, 13] 3 rfl (by kernel_rfl) (by kernel_rfl) (by kernel_rfl) (by kernel_rfl) (by kernel_rfl) (fun _ _ _ h => h) (by kernel_rfl) (fun Wu K hK => ?hy9) ?go9
                  case hy9 =>
                    go_big_quiet_op
                    simp only [Act.put, List.setIfInBounds_toArray, List.set_cons_zero, List.set_cons_succ] at hK
                    exact hK
                  simp only [Act.put, List.setIfInBounds_toArray, List.set_cons_zero, List.set_cons_succ]
                  refine mildy_take (v := ?v10) [9, 11, 13] 6 rfl (by kernel_rfl) (by kernel_rfl) (by kernel_rfl) (by kernel_rfl) (by kernel_rfl) (fun _ _ _ h => h) (by kernel_rfl) (fun Wu K hK => ?hy10) ?go10
                  case hy10 =>
                    go_big_quiet_op
                    simp only [Act.put, List.setIfInBounds_toArray, List.set_cons_zero, List.set_cons_succ] at hK
                    exact hK
                  simp only [Act.put, List.setIfInBounds_toArray, List.set_cons_zero, List.set_cons_succ]
                  refine mildy_take (v := ?v11) [9, 11, 13] 8 rfl (by kernel_rfl) (by kernel_rfl) (by kernel_rfl) (by kernel_rfl) (by kernel_rfl) (fun _ _ _ h => h) (by kernel_rfl) (fun Wu K hK => ?hy11) ?go11
                  case hy11 =>
                    go_big_quiet_op
                    simp only [Act.put, List.setIfInBounds_toArray, List.set_cons_zero, List.set_cons_succ] at hK
                    exact hK
                  simp only [Act.put, List.setIfInBounds_toArray, List.set_cons_zero, List.set_cons_succ]
                  refine mildy_take (v := ?v12) [9, 11, 13] 4 rfl (by kernel_rfl) (by kernel_rfl) (by kernel_rfl) (by kernel_rfl) (by kernel_rfl) (fun _ _ _ h => h) (by kernel_rfl) (fun Wu K hK => ?hy12) ?go12
                  case hy12 =>
                    go_big_quiet_op
                    simp only [Act.put, List.setIfInBounds_toArray, List.set_cons_zero, List.set_cons_succ] at hK
                    refine ⟨_, fun u => Calls.up_same (within_any y.f (N : Int) u.1 (by have := HNB.out; omega) (by have := HNB.out; omega)), ?_⟩
                    exact hK
                  simp only [Act.put, List.setIfInBounds_toArray, List.set_cons_zero, List.set_cons_succ]
                  refine mildy_take (v := ?v13) [11, 13] 9 rfl (by kernel_rfl) (by kernel_rfl) (by kernel_rfl) (by kernel_rfl) (by kernel_rfl) (fun _ _ _ h => h) (by kernel_rfl) (fun Wu K hK => ?hy13) ?go13
                  case hy13 =>
                    go_big_quiet_op
                    simp only [Act.put, List.setIfInBounds_toArray, List.set_cons_zero, List.set_cons_succ] at hK
                    refine ⟨_, fun u => Calls.up_same (within_any y.t (N : Int) u.1 (by have := HNB.out; omega) (by have := HNB.out; omega)), ?_⟩
                    exact hK
                  simp only [Act.put, List.setIfInBounds_toArray, List.set_cons_zero, List.set_cons_succ]
                  refine mildy_take (v := ?v14) [11, 13] 10 rfl (by kernel_rfl) (by kernel_rfl) (by kernel_rfl) (by kernel_rfl) (by kernel_rfl) (fun _ _ _ h => h) (by kernel_rfl) (fun Wu K hK => ?hy14) ?go14
                  case hy14 =>
                    go_big_quiet_op
                    simp only [Act.put, List.setIfInBounds_toArray, List.set_cons_zero, List.set_cons_succ] at hK
                    exact hK
                  simp only [Act.put, List.setIfInBounds_toArray, List.set_cons_zero, List.set_cons_succ]
                  intro W2
                  clear uc uf q0 q1 q2 q3 q4 q5 q6 q7 q8 qf ql d0 dl
                  replace bp := bp.next W2.2
                  replace hP2 := hP2.below W2.2
                  replace hys' := hys'.below W2.2
                  generalize W2.1 = wa at *
                  obtain ⟨q0, q1, q2, q3, q4, q5, q6, q7, q8, qf, ql⟩ := id bp
                  refine upx_write 11 (by kernel_rfl) (by kernel_rfl) rfl ?_
                  go_wp2
                  refine then_n ?_
                  refine any_take 12 (.pointer (some ⟨gp, 2, none⟩)) rfl (by kernel_rfl) (by kernel_rfl) (by kernel_rfl) (fun _ _ _ h => h) (by kernel_rfl) (fun w => by go_simp) ?_
                  simp only [Act.put, List.setIfInBounds_toArray, List.set_cons_zero, List.set_cons_succ]
                  refine any_list 13 (by kernel_rfl) rfl ?_
                  go_wp2
                  refine then_n ?_
                  refine any_done (by kernel_rfl) ?_
                  clear q0 q1 q2 q3 q4 q5 q6 q7 q8 qf ql
                  have bp2 := (bp.setF (y.f % (N : Int))).setT (y.t % (N : Int))
                  have kk := ((Keep.refl (fun k => k = gp) wa).setCell (p := ⟨gp, 1, none⟩) (.inl rfl) (.int .i64 (y.f % (N : Int)))).setCell (p := ⟨gp, 2, none⟩) (.inl rfl) (.int .i64 (y.t % (N : Int)))
                  have sl2 : Sl _ ya yn yc ({ y with f := y.f % (N : Int), t := y.t % (N : Int) } : Pk).z := hys'.keep kk (fun _ ad e h => far ad e h)
                  have hP3 := hP2.poke kk (.inr (.inl rfl)) hge3 hgD hgp
                  go_wp2
                  go_meet
                  case rel => exact ⟨_, hP3, bp2, sl2, hyz⟩
              case rest =>
                obtain ⟨p, hP3, bp3, hsp, hpz⟩ := hcut
                clear hP2 bp hys' hyz far
                obtain ⟨e5, F', hSS⟩ := send_ex (out := (O : Int)) (inn := (I : Int)) p hP3.fp.on.rooms
                have HS : Hid (SendTo N O F p e5 F') := hSS
                clear hSS
                go_upto_region 22 with fail
                refine wp_region_orders 7 rfl (by kernel_rfl) ?_
                have hdr : Below wc.heap.size wc wc.drew := (Below.refl _ _).drew
                replace bp3 := bp3.next hdr
                replace hP3 := hP3.below hdr
                replace hsp := hsp.below hdr
                clear hdr
                generalize wc.drew = V2 at *
                have hI : (fun V' : World => Bx V' gp p (.slice ya yn yc)) V2 := bp3
                refine any_inv (fun V' : World => Bx V' gp p (.slice ya yn yc)) [] hI ?_
                refine inv_take [] 0 (.pointer (some ⟨gf, 0, none⟩)) hI rfl (by kernel_rfl) (by kernel_rfl) (by kernel_rfl) (by kernel_rfl) (by kernel_rfl) (fun _ _ _ h => h) (by kernel_rfl) (fun w hI => by go_simp) ?_
                simp only [Act.put, List.setIfInBounds_toArray, List.set_cons_zero, List.set_cons_succ]
                refine inv_take [] 1 (p.val (.slice ya yn yc)) hI rfl (by kernel_rfl) (by kernel_rfl) (by kernel_rfl) (by kernel_rfl) (by kernel_rfl) (fun _ _ _ h => h) (by kernel_rfl) (fun w hI => by obtain ⟨k0, k1, k2, k3, k4, k5, k6, k7, k8, kf, kl⟩ := hI; go_simp) ?_
                simp only [Act.put, List.setIfInBounds_toArray, List.set_cons_zero, List.set_cons_succ]
                refine inv_take [] 3 (.pointer (some ⟨gr, 0, none⟩)) hI rfl (by kernel_rfl) (by kernel_rfl) (by kernel_rfl) (by kernel_rfl) (by kernel_rfl) (fun _ _ _ h => h) (by kernel_rfl) (fun w hI => by go_simp) ?_
                simp only [Act.put, List.setIfInBounds_toArray, List.set_cons_zero, List.set_cons_succ]
                refine inv_take [] 4 (p.val (.slice ya yn yc)) hI rfl (by kernel_rfl) (by kernel_rfl) (by kernel_rfl) (by kernel_rfl) (by kernel_rfl) (fun _ _ _ h => h) (by kernel_rfl) (fun w hI => by obtain ⟨k0, k1, k2, k3, k4, k5, k6, k7, k8, kf, kl⟩ := hI; go_simp) ?_
                simp only [Act.put, List.setIfInBounds_toArray, List.set_cons_zero, List.set_cons_succ]
                refine inv_list 2 (by kernel_rfl) rfl ?_
                go_wp2_with (go_at_call 12; refine (send_on hP3.fp.on p ya yn yc hsp hpz HS.out).mono ?_; rintro en w5 ⟨rfl, ho5, hk5⟩)
                have hP4 := hP3.stepF ho5 hk5
                have bp4 := bp3.keep hk5 (FP.xe (E := (fun k => k = gc ∨ k = gp ∨ ∃ ad : Addr, ya = some ad ∧ ad.block = k)) (.inr (.inl rfl)))
                have hsp4 := hsp.keep hk5 (fun hz ad e => FP.xe (E := (fun k => k = gc ∨ k = gp ∨ ∃ ad : Addr, ya = some ad ∧ ad.block = k)) (.inr (.inr ⟨ad, e, rfl⟩)))
                refine then_n ⟨bp4, ?_⟩
                refine inv_list 5 (by kernel_rfl) rfl ?_
                go_wp2_with (go_at_call 23; refine (refSend_to _ hP4.fp.df hP4.fp.dl p ya yn yc hsp4 (fun hz ad e => hP4.fp.en ad.block (.inr (.inr ⟨ad, e, rfl⟩))) HS.out).mono ?_; rintro en w7 ⟨rfl, D7, ⟨M7, hd7, hM7, hk7⟩, hD7⟩)
                have hP5 := hP4.stepD hd7 hk7 hM7 (fun k hk => (hD7 k hk).imp id (fun ⟨_, ad, e, he⟩ => .inr (.inr ⟨ad, e, he⟩)))
                have bp5 := bp4.keep hk7 (hP4.fp.ex (.inr (.inl rfl)))
                refine then_n ⟨bp5, ?_⟩
                refine inv_take [] 6 (.bool false) bp5 rfl (by kernel_rfl) (by kernel_rfl) (by kernel_rfl) (by kernel_rfl) (by kernel_rfl) (fun _ _ _ h => h) (by kernel_rfl) (fun w hI => by go_simp) ?_
                simp only [Act.put, List.setIfInBounds_toArray, List.set_cons_zero, List.set_cons_succ]
                refine inv_done (by kernel_rfl) ?_
                go_wp2
                go_meet
                case rel => exact ⟨F', M7, D7, hP5.weak (fun k e => .inl e) rfl⟩
          · as_aux_lemma =>
              clear hacts
              have g4 := hA1.c4
              have g5 := hA1.c5
              have g6 := hA1.c6
              have g7 := hA1.c7
              have g8 := hA1.c8
              have g9 := hA1.c9
              have g10 := hA1.c10
              have g11 := hA1.c11
              have g12 := hA1.c12
              have g13 := hA1.c13
              simp only [Nat.zero_add] at g4 g5 g6 g7 g8 g9 g10 g11 g12 g13
              go_upto_region 20 with (go_at_call 10; refine (play_any x h av1 nv1 cv1 _ hxs1).mono ?_; rintro e w3 ⟨v3, rfl, y, ya, yn, yc, rfl, hys, hyn, _, hyR, ylo, hb3⟩; unfold Pk.val)
              have hyz := hyR hx64
              have hP2 := hP1.more (E' := (fun k => k = gc ∨ k = w3.heap.size ∨ ∃ ad : Addr, ya = some ad ∧ ad.block = k)) (by exact ba (o := .cells #[.int .i64 y.k, .int .i64 y.f, .int .i64 y.t, .int .i64 y.i, .int .i64 y.l, .int .i64 y.p, .int .i64 y.s, .bool y.fl, .slice ya yn yc] 26) hb3) (fun k hk => by
                have z3 := hb3.size
                rcases hk with rfl | rfl | ⟨ad, e, rfl⟩
                · exact .inl (.inl rfl)
                · exact .inr (by simp at z3 ⊢; omega)
                · have := ylo ad e; exact .inr (by simp at this ⊢; omega)) (.inl rfl)
              have bp := Bx.made w3 y (.slice ya yn yc)
              have hys' := hys.below (ba (o := .cells #[.int .i64 y.k, .int .i64 y.f, .int .i64 y.t, .int .i64 y.i, .int .i64 y.l, .int .i64 y.p, .int .i64 y.s, .bool y.fl, .slice ya yn yc] 26) (Below.refl _ _))
              have far : ∀ ad : Addr, ya = some ad → ad.block ≠ w3.heap.size := fun ad e => by have := ylo ad e; omega
              have hge3 : w.heap.size ≤ w3.heap.size := Nat.le_trans hP1.fp.on.bel.size hb3.size
              have hgp : gc ≠ w3.heap.size := fun e => by have h1 := hP1.lt; have h2 := hb3.size; omega
              have hgD : ¬ D w3.heap.size := fun e => by have h1 := hP1.fp.dl _ e; have h2 := hb3.size; omega
              have hA3 := (hA1.below hb3).below (ba (o := .cells #[.int .i64 y.k, .int .i64 y.f, .int .i64 y.t, .int .i64 y.i, .int .i64 y.l, .int .i64 y.p, .int .i64 y.s, .bool y.fl, .slice ya yn yc] 26) (Below.refl _ _))
              have h13 := hA3.c13
              have h13l := hA3.lt
              simp only [Nat.zero_add] at h13
              clear hyR ylo hb3 hys hP1 hxs1 hx64 hA1 hA3 g4 g5 g6 g7 g8 g9 g10 g11 g12 g13 f0 f0l
              generalize w3.alloc (.cells #[.int .i64 y.k, .int .i64 y.f, .int .i64 y.t, .int .i64 y.i, .int .i64 y.l, .int .i64 y.p, .int .i64 y.s, .bool y.fl, .slice ya yn yc] 26) = W at *
              generalize w3.heap.size = gp at *
              go_upto_if 94 with fail
              obtain ⟨hb, hhb⟩ : ∃ hb, (h.tmod 3 != 0) = hb := ⟨_, rfl⟩
              rw [hhb]
              clear hhb h13 h13l
              go_cut [] (fun wx => ∃ p : Pk, PB w wx gf gr gs gc N O I N F F M D (fun k => k = gc ∨ k = gp ∨ ∃ ad : Addr, ya = some ad ∧ ad.block = k) ∧ Bx wx gp p (.slice ya yn yc) ∧ Sl wx ya yn yc p.z ∧ R64 p.z)
              case first =>
                cases hb
                · go_wp2_with fail
                  go_meet
                  case rel => exact ⟨y, hP2, bp, hys', hyz⟩
                · go_upto_region 21 with fail
                  refine wp_region_orders 14 rfl (by kernel_rfl) ?_
                  have hdr : Below W.heap.size W W.drew := (Below.refl _ _).drew
                  replace bp := bp.next hdr
                  replace hP2 := hP2.below hdr
                  replace hys' := hys'.below hdr
                  clear hdr
                  generalize W.drew = wd at *
                  obtain ⟨q0, q1, q2, q3, q4, q5, q6, q7, q8, qf, ql⟩ := id bp
                  have d0 := hP2.c0
                  have dl := hP2.lt
                  have uc := @Up.cell2
                  have uf := @Up.frozen2
                  refine any_take 0 (.pointer (some ⟨gp, 1, none⟩)) rfl (by kernel_rfl) (by kernel_rfl) (by kernel_rfl) (fun _ _ _ h => h) (by kernel_rfl) (fun w => by go_simp) ?_
                  simp only [Act.put, List.setIfInBounds_toArray, List.set_cons_zero, List.set_cons_succ]
                  refine any_take 2 (.pointer (some ⟨gc, 0, none⟩)) rfl (by kernel_rfl) (by kernel_rfl) (by kernel_rfl) (fun _ _ _ h => h) (by kernel_rfl) (fun w => by go_simp) ?_
                  simp only [Act.put, List.setIfInBounds_toArray, List.set_cons_zero, List.set_cons_succ]
                  refine any_take 5 (.pointer (some ⟨gp, 2, none⟩)) rfl (by kernel_rfl) (by kernel_rfl) (by kernel_rfl) (fun _ _ _ h => h) (by kernel_rfl) (fun w => by go_simp) ?_
                  simp only [Act.put, List.setIfInBounds_toArray, List.set_cons_zero, List.set_cons_succ]
                  refine any_take 7 (.pointer (some ⟨gc, 0, none⟩)) rfl (by kernel_rfl) (by kernel_rfl) (by kernel_rfl) (fun _ _ _ h => h) (by kernel_rfl) (fun w => by go_simp) ?_
                  simp only [Act.put, List.setIfInBounds_toArray, List.set_cons_zero, List.set_cons_succ]
                  refine any_mildx [11, 13] ?_
                  refine mildy_take (v := ?v15) [4, 9, 11, 13] 1 rfl (by kernel_rfl) (by kernel_rfl) (by kernel_rfl) (by kernel_rfl) (by kernel_rfl) (fun _ _ _ h => h) (by kernel_rfl) (fun Wu K hK => ?hy15) ?go15
                  case hy15 =>
                    go_big_quiet_op
                    simp only [Act.put, List.setIfInBounds_toArray, List.set_cons_zero, List.set_cons_succ] at hK
                    exact hK
                  simp only [Act.put, List.setIfInBounds_toArray, List.set_cons_zero, List.set_cons_succ]
                  refine mildy_take (v := ?v16) [4, 9, 11, 13] 3 rfl (by kernel_rfl) (by kernel_rfl) (by kernel_rfl) (by kernel_rfl) (by kernel_rfl) (fun _ _ _ h => h) (by kernel_rfl) (fun Wu K hK => ?hy16) ?go16
                  case hy16 =>
                    go_big_quiet_op
                    simp only [Act.put, List.setIfInBounds_toArray, List.set_cons_zero, List.set_cons_succ] at hK
                    exact hK
                  simp only [Act.put, List.setIfInBounds_toArray, List.set_cons_zero, List.set_cons_succ]
                  refine mildy_take (v := ?v17) [9, 11, 13] 6 rfl (by kernel_rfl) (by kernel_rfl) (by kernel_rfl) (by kernel_rfl) (by kernel_rfl) (fun _ _ _ h => h) (by kernel_rfl) (fun Wu K hK => ?hy17) ?go17
                  case hy17 =>
                    go_big_quiet_op
                    simp only [Act.put, List.setIfInBounds_toArray, List.set_cons_zero, List.set_cons_succ] at hK
                    exact hK
                  simp only [Act.put, List.setIfInBounds_toArray, List.set_cons_zero, List.set_cons_succ]
                  refine mildy_take (v := ?v18) [9, 11, 13] 8 rfl (by kernel_rfl) (by kernel_rfl) (by kernel_rfl) (by kernel_rfl) (by kernel_rfl) (fun _ _ _ h => h) (by kernel_rfl) (fun Wu K hK => ?hy18) ?go18
                  case hy18 =>
                    go_big_quiet_op
                    simp only [Act.put, List.setIfInBounds_toArray, List.set_cons_zero, List.set_cons_succ] at hK
                    exact hK
                  simp only [Act.put, List.setIfInBounds_toArray, List.set_cons_zero, List.set_cons_succ]
                  refine mildy_take (v := ?v19) [9, 11, 13] 4 rfl (by kernel_rfl) (by kernel_rfl) (by kernel_rfl) (by kernel_rfl) (by kernel_rfl) (fun _ _ _ h => h) (by kernel_rfl) (fun Wu K hK => ?hy19) ?go19
                  case hy19 =>
                    go_big_quiet_op
                    simp only [Act.put, List.setIfInBounds_toArray, List.set_cons_zero, List.set_cons_succ] at hK
                    refine ⟨_, fun u => Calls.up_same (within_any y.f (N : Int) u.1 (by have := HNB.out; omega) (by have := HNB.out; omega)), ?_⟩
                    exact hK
                  simp only [Act.put, List.setIfInBounds_toArray, List.set_cons_zero, List.set_cons_succ]
                  refine mildy_take (v := ?v20) [11, 13] 9 rfl (by kernel_rfl) (by kernel_rfl) (by kernel_rfl) (by kernel_rfl) (by kernel_rfl) (fun _ _ _ h => h) (by kernel_rfl) (fun Wu K hK => ?hy20) ?go20
                  case hy20 =>
                    go_big_quiet_op
                    simp only [Act.put, List.setIfInBounds_toArray, List.set_cons_zero, List.set_cons_succ] at hK
                    refine ⟨_, fun u => Calls.up_same (within_any y.t (N : Int) u.1 (by have := HNB.out; omega) (by have := HNB.out; omega)), ?_⟩
                    exact hK
                  simp only [Act.put, List.setIfInBounds_toArray, List.set_cons_zero, List.set_cons_succ]
                  refine mildy_take (v := ?v21) [11, 13] 10 rfl (by kernel_rfl) (by kernel_rfl) (by kernel_rfl) (by kernel_rfl) (by kernel_rfl) (fun _ _ _ h => h) (by kernel_rfl) (fun Wu K hK => ?hy21) ?go21
                  case hy21 =>
                    go_big_quiet_op
                    simp only [Act.put, List.setIfInBounds_toArray, List.set_cons_zero, List.set_cons_succ] at hK
                    exact hK
                  simp only [Act.put, List.setIfInBounds_toArray, List.set_cons_zero, List.set_cons_succ]
                  intro W2
                  clear uc uf q0 q1 q2 q3 q4 q5 q6 q7 q8 qf ql d0 dl
                  replace bp := bp.next W2.2
                  replace hP2 := hP2.below W2.2
                  replace hys' := hys'.below W2.2
                  generalize W2.1 = wa at *
                  obtain ⟨q0, q1, q2, q3, q4, q5, q6, q7, q8, qf, ql⟩ := id bp
                  refine upx_write 11 (by kernel_rfl) (by kernel_rfl) rfl ?_
                  go_wp2
                  refine then_n ?_
                  refine any_take 12 (.pointer (some ⟨gp, 2, none⟩)) rfl (by kernel_rfl) (by kernel_rfl) (by kernel_rfl) (fun _ _ _ h => h) (by kernel_rfl) (fun w => by go_simp) ?_
                  simp only [Act.put, List.setIfInBounds_toArray, List.set_cons_zero, List.set_cons_succ]
                  refine any_list 13 (by kernel_rfl) rfl ?_
                  go_wp2
                  refine then_n ?_
                  refine any_done (by kernel_rfl) ?_
                  clear q0 q1 q2 q3 q4 q5 q6 q7 q8 qf ql
                  have bp2 := (bp.setF (y.f % (N : Int))).setT (y.t % (N : Int))
                  have kk := ((Keep.refl (fun k => k = gp) wa).setCell (p := ⟨gp, 1, none⟩) (.inl rfl) (.int .i64 (y.f % (N : Int)))).setCell (p := ⟨gp, 2, none⟩) (.inl rfl) (.int .i64 (y.t % (N : Int)))
                  have sl2 : Sl _ ya yn yc ({ y with f := y.f % (N : Int), t := y.t % (N : Int) } : Pk).z := hys'.keep kk (fun _ ad e h => far ad e h)
                  have hP3 := hP2.poke kk (.inr (.inl rfl)) hge3 hgD hgp
                  go_wp2
                  go_meet
                  case rel => exact ⟨_, hP3, bp2, sl2, hyz⟩
              case rest =>
                obtain ⟨p, hP3, bp3, hsp, hpz⟩ := hcut
                clear hP2 bp hys' hyz far
                obtain ⟨e5, F', hSS⟩ := send_ex (out := (O : Int)) (inn := (I : Int)) p hP3.fp.on.rooms
                have HS : Hid (SendTo N O F p e5 F') := hSS
                clear hSS
                go_upto_region 22 with fail
                refine wp_region_orders 7 rfl (by kernel_rfl) ?_
                have hdr : Below wc.heap.size wc wc.drew := (Below.refl _ _).drew
                replace bp3 := bp3.next hdr
                replace hP3 := hP3.below hdr
                replace hsp := hsp.below hdr
                clear hdr
                generalize wc.drew = V2 at *
                have hI : (fun V' : World => Bx V' gp p (.slice ya yn yc)) V2 := bp3
                refine any_inv (fun V' : World => Bx V' gp p (.slice ya yn yc)) [] hI ?_
                refine inv_take [] 0 (.pointer (some ⟨gf, 0, none⟩)) hI rfl (by kernel_rfl) (by kernel_rfl) (by kernel_rfl) (by kernel_rfl) (by kernel_rfl) (fun _ _ _ h => h) (by kernel_rfl) (fun w hI => by go_simp) ?_
                simp only [Act.put, List.setIfInBounds_toArray, List.set_cons_zero, List.set_cons_succ]
                refine inv_take [] 1 (p.val (.slice ya yn yc)) hI rfl (by kernel_rfl) (by kernel_rfl) (by kernel_rfl) (by kernel_rfl) (by kernel_rfl) (fun _ _ _ h => h) (by kernel_rfl) (fun w hI => by obtain ⟨k0, k1, k2, k3, k4, k5, k6, k7, k8, kf, kl⟩ := hI; go_simp) ?_
                simp only [Act.put, List.setIfInBounds_toArray, List.set_cons_zero, List.set_cons_succ]
                refine inv_take [] 3 (.pointer (some ⟨gr, 0, none⟩)) hI rfl (by kernel_rfl) (by kernel_rfl) (by kernel_rfl) (by kernel_rfl) (by kernel_rfl) (fun _ _ _ h => h) (by kernel_rfl) (fun w hI => by go_simp) ?_
                simp only [Act.put, List.setIfInBounds_toArray, List.set_cons_zero, List.set_cons_succ]
                refine inv_take [] 4 (p.val (.slice ya yn yc)) hI rfl (by kernel_rfl) (by kernel_rfl) (by kernel_rfl) (by kernel_rfl) (by kernel_rfl) (fun _ _ _ h => h) (by kernel_rfl) (fun w hI => by obtain ⟨k0, k1, k2, k3, k4, k5, k6, k7, k8, kf, kl⟩ := hI; go_simp) ?_
                simp only [Act.put, List.setIfInBounds_toArray, List.set_cons_zero, List.set_cons_succ]
                refine inv_list 2 (by kernel_rfl) rfl ?_
                go_wp2_with (go_at_call 12; refine (send_on hP3.fp.on p ya yn yc hsp hpz HS.out).mono ?_; rintro en w5 ⟨rfl, ho5, hk5⟩)
                have hP4 := hP3.stepF ho5 hk5
                have bp4 := bp3.keep hk5 (FP.xe (E := (fun k => k = gc ∨ k = gp ∨ ∃ ad : Addr, ya = some ad ∧ ad.block = k)) (.inr (.inl rfl)))
                have hsp4 := hsp.keep hk5 (fun hz ad e => FP.xe (E := (fun k => k = gc ∨ k = gp ∨ ∃ ad : Addr, ya = some ad ∧ ad.block = k)) (.inr (.inr ⟨ad, e, rfl⟩)))
                refine then_n ⟨bp4, ?_⟩
                refine inv_list 5 (by kernel_rfl) rfl ?_
                go_wp2_with (go_at_call 23; refine (refSend_to _ hP4.fp.df hP4.fp.dl p ya yn yc hsp4 (fun hz ad e => hP4.fp.en ad.block (.inr (.inr ⟨ad, e, rfl⟩))) HS.out).mono ?_; rintro en w7 ⟨rfl, D7, ⟨M7, hd7, hM7, hk7⟩, hD7⟩)
                have hP5 := hP4.stepD hd7 hk7 hM7 (fun k hk => (hD7 k hk).imp id (fun ⟨_, ad, e, he⟩ => .inr (.inr ⟨ad, e, he⟩)))
                have bp5 := bp4.keep hk7 (hP4.fp.ex (.inr (.inl rfl)))
                refine then_n ⟨bp5, ?_⟩
                refine inv_take [] 6 (.bool false) bp5 rfl (by kernel_rfl) (by kernel_rfl) (by kernel_rfl) (by kernel_rfl) (by kernel_rfl) (fun _ _ _ h => h) (by kernel_rfl) (fun w hI => by go_simp) ?_
                simp only [Act.put, List.setIfInBounds_toArray, List.set_cons_zero, List.set_cons_succ]
                refine inv_done (by kernel_rfl) ?_
                go_wp2
                go_meet
                case rel => exact ⟨F', M7, D7, hP5.weak (fun k e => .inl e) rfl⟩
          · as_aux_lemma =>
              clear hacts hxs1 hx64 f0 f0l
              obtain ⟨e5, F', hDD⟩ := del_ex (out := (O : Int)) (inn := (I : Int)) A 0 0 hP1.fp.on.good hP1.fp.on.rooms
              have HD : Hid (DelTo N O I F A 0 0 e5 F') := hDD
              have HG : Hid (∀ q, q < 4 * N → ∀ x ∈ F q, Good N x) := hP1.fp.on.good
              clear hDD
              go_wp2_with (first
                | (go_at_call 13; refine (deliver_on hP1.fp.on A 0 0 HA63.out (by decide) (by decide) HD.out).mono ?_; rintro en w5 ⟨rfl, ho5, hk5⟩; have hP2 := hP1.stepF ho5 hk5)
                | (go_at_call 24; refine (refDel_to _ hP2.fp.df hP2.fp.dl A 0 0 (by decide) (by decide) HG.out (by have := HNB.out; omega) HD.out).mono ?_; rintro en w7 ⟨rfl, M7, hd7, hM7, hk7⟩))
              have hP3 := hP2.stepD hd7 hk7 hM7 (fun k h => .inl h)
              go_meet
              case rel => exact ⟨F', M7, D, hP3.weak (fun k e => .inl e) rfl⟩
          · as_aux_lemma =>
              clear hacts hxs1 hx64 f0 f0l
              obtain ⟨e5, F', hDD⟩ := del_ex (out := (O : Int)) (inn := (I : Int)) A 0 0 hP1.fp.on.good hP1.fp.on.rooms
              have HD : Hid (DelTo N O I F A 0 0 e5 F') := hDD
              have HG : Hid (∀ q, q < 4 * N → ∀ x ∈ F q, Good N x) := hP1.fp.on.good
              clear hDD
              go_wp2_with (first
                | (go_at_call 13; refine (deliver_on hP1.fp.on A 0 0 HA63.out (by decide) (by decide) HD.out).mono ?_; rintro en w5 ⟨rfl, ho5, hk5⟩; have hP2 := hP1.stepF ho5 hk5)
                | (go_at_call 24; refine (refDel_to _ hP2.fp.df hP2.fp.dl A 0 0 (by decide) (by decide) HG.out (by have := HNB.out; omega) HD.out).mono ?_; rintro en w7 ⟨rfl, M7, hd7, hM7, hk7⟩))
              have hP3 := hP2.stepD hd7 hk7 hM7 (fun k h => .inl h)
              go_meet
              case rel => exact ⟨F', M7, D, hP3.weak (fun k e => .inl e) rfl⟩
          · as_aux_lemma =>
              clear hacts hxs1 hx64 f0 f0l
              obtain ⟨e5, F', hDD⟩ := del_ex (out := (O : Int)) (inn := (I : Int)) A b m hP1.fp.on.good hP1.fp.on.rooms
              have HD : Hid (DelTo N O I F A b m e5 F') := hDD
              have HG : Hid (∀ q, q < 4 * N → ∀ x ∈ F q, Good N x) := hP1.fp.on.good
              clear hDD
              have hI : (fun V' : World => ActAt V' gx 0 d t b m h x (.slice av1 nv1 cv1)) _ := hA1
              go_upto_region 29 with fail
              refine wp_region_orders 15 rfl (by kernel_rfl) ?_
              have hdr : Below w4.heap.size w4 w4.drew := (Below.refl _ _).drew
              replace hP1 := hP1.below hdr
              replace hA1 := hA1.below hdr
              clear hdr hI
              generalize w4.drew = V2 at *
              have hI : (fun V' : World => ActAt V' gx 0 d t b m h x (.slice av1 nv1 cv1)) V2 := hA1
              refine any_inv (fun V' : World => ActAt V' gx 0 d t b m h x (.slice av1 nv1 cv1)) [] hI ?_
              refine inv_take [] 0 (.pointer (some ⟨gf, 0, none⟩)) hI rfl (by kernel_rfl) (by kernel_rfl) (by kernel_rfl) (by kernel_rfl) (by kernel_rfl) (fun _ _ _ h => h) (by kernel_rfl) (fun w hI => by go_simp) ?_
              simp only [Act.put, List.setIfInBounds_toArray, List.set_cons_zero, List.set_cons_succ]
              refine inv_take [] 1 (.int .i64 A) hI rfl (by kernel_rfl) (by kernel_rfl) (by kernel_rfl) (by kernel_rfl) (by kernel_rfl) (fun _ _ _ h => h) (by kernel_rfl) (fun w hI => by go_simp) ?_
              simp only [Act.put, List.setIfInBounds_toArray, List.set_cons_zero, List.set_cons_succ]
              refine inv_take [] 2 (.pointer (some ⟨gx, 2, none⟩)) hI rfl (by kernel_rfl) (by kernel_rfl) (by kernel_rfl) (by kernel_rfl) (by kernel_rfl) (fun _ _ _ h => h) (by kernel_rfl) (fun w hI => by go_simp) ?_
              simp only [Act.put, List.setIfInBounds_toArray, List.set_cons_zero, List.set_cons_succ]
              refine inv_take [] 3 (.int .i64 b) hI rfl (by kernel_rfl) (by kernel_rfl) (by kernel_rfl) (by kernel_rfl) (by kernel_rfl) (fun _ _ _ h => h) (by kernel_rfl) (fun w hI => by have k2 := hI.c2; go_simp) ?_
              simp only [Act.put, List.setIfInBounds_toArray, List.set_cons_zero, List.set_cons_succ]
              refine inv_take [] 4 (.pointer (some ⟨gx, 3, none⟩)) hI rfl (by kernel_rfl) (by kernel_rfl) (by kernel_rfl) (by kernel_rfl) (by kernel_rfl) (fun _ _ _ h => h) (by kernel_rfl) (fun w hI => by go_simp) ?_
              simp only [Act.put, List.setIfInBounds_toArray, List.set_cons_zero, List.set_cons_succ]
              refine inv_take [] 5 (.int .u16 m) hI rfl (by kernel_rfl) (by kernel_rfl) (by kernel_rfl) (by kernel_rfl) (by kernel_rfl) (fun _ _ _ h => h) (by kernel_rfl) (fun w hI => by have k3 := hI.c3; go_simp) ?_
              simp only [Act.put, List.setIfInBounds_toArray, List.set_cons_zero, List.set_cons_succ]
              refine inv_take [] 7 (.pointer (some ⟨gr, 0, none⟩)) hI rfl (by kernel_rfl) (by kernel_rfl) (by kernel_rfl) (by kernel_rfl) (by kernel_rfl) (fun _ _ _ h => h) (by kernel_rfl) (fun w hI => by go_simp) ?_
              simp only [Act.put, List.setIfInBounds_toArray, List.set_cons_zero, List.set_cons_succ]
              refine inv_take [] 8 (.int .i64 A) hI rfl (by kernel_rfl) (by kernel_rfl) (by kernel_rfl) (by kernel_rfl) (by kernel_rfl) (fun _ _ _ h => h) (by kernel_rfl) (fun w hI => by go_simp) ?_
              simp only [Act.put, List.setIfInBounds_toArray, List.set_cons_zero, List.set_cons_succ]
              refine inv_take [] 9 (.pointer (some ⟨gx, 2, none⟩)) hI rfl (by kernel_rfl) (by kernel_rfl) (by kernel_rfl) (by kernel_rfl) (by kernel_rfl) (fun _ _ _ h => h) (by kernel_rfl) (fun w hI => by go_simp) ?_
              simp only [Act.put, List.setIfInBounds_toArray, List.set_cons_zero, List.set_cons_succ]
              refine inv_take [] 10 (.int .i64 b) hI rfl (by kernel_rfl) (by kernel_rfl) (by kernel_rfl) (by kernel_rfl) (by kernel_rfl) (fun _ _ _ h => h) (by kernel_rfl) (fun w hI => by have k2 := hI.c2; go_simp) ?_
              simp only [Act.put, List.setIfInBounds_toArray, List.set_cons_zero, List.set_cons_succ]
              refine inv_take [] 11 (.pointer (some ⟨gx, 3, none⟩)) hI rfl (by kernel_rfl) (by kernel_rfl) (by kernel_rfl) (by kernel_rfl) (by kernel_rfl) (fun _ _ _ h => h) (by kernel_rfl) (fun w hI => by go_simp) ?_
              simp only [Act.put, List.setIfInBounds_toArray, List.set_cons_zero, List.set_cons_succ]
              refine inv_take [] 12 (.int .u16 m) hI rfl (by kernel_rfl) (by kernel_rfl) (by kernel_rfl) (by kernel_rfl) (by kernel_rfl) (fun _ _ _ h => h) (by kernel_rfl) (fun w hI => by have k3 := hI.c3; go_simp) ?_
              simp only [Act.put, List.setIfInBounds_toArray, List.set_cons_zero, List.set_cons_succ]
              refine inv_list 6 (by kernel_rfl) rfl ?_
              go_wp2_with (go_at_call 13; refine (deliver_on hP1.fp.on A b m HA63.out hm0 hm1 HD.out).mono ?_; rintro en w5 ⟨rfl, ho5, hk5⟩)
              have hP2 := hP1.stepF ho5 hk5
              have hA2' := hA1.keep hk5 (FP.xe (E := (fun k => k = gc ∨ k = gx)) (.inr rfl))
              refine then_n ⟨hA2', ?_⟩
              refine inv_list 13 (by kernel_rfl) rfl ?_
              go_wp2_with (go_at_call 24; refine (refDel_to _ hP2.fp.df hP2.fp.dl A b m hm0 hm1 HG.out (by have := HNB.out; omega) HD.out).mono ?_; rintro en w7 ⟨rfl, M7, hd7, hM7, hk7⟩)
              have hP3 := hP2.stepD hd7 hk7 hM7 (fun k h => .inl h)
              have hA3 := hA2'.keep hk7 (hP2.fp.ex (.inr rfl))
              refine then_n ⟨hA3, ?_⟩
              refine inv_take [] 14 (.bool false) hA3 rfl (by kernel_rfl) (by kernel_rfl) (by kernel_rfl) (by kernel_rfl) (by kernel_rfl) (fun _ _ _ h => h) (by kernel_rfl) (fun w hI => by go_simp) ?_
              simp only [Act.put, List.setIfInBounds_toArray, List.set_cons_zero, List.set_cons_succ]
              refine inv_done (by kernel_rfl) ?_
              go_wp2
              go_meet
              case rel => exact ⟨F', M7, D, hP3.weak (fun k e => .inl e) rfl⟩
          · as_aux_lemma =>
              clear hacts hxs1 hx64 f0 f0l
              obtain ⟨e5, F', hDD⟩ := del_ex (out := (O : Int)) (inn := (I : Int)) t b m hP1.fp.on.good hP1.fp.on.rooms
              have HD : Hid (DelTo N O I F t b m e5 F') := hDD
              have HG : Hid (∀ q, q < 4 * N → ∀ x ∈ F q, Good N x) := hP1.fp.on.good
              clear hDD
              have hI : (fun V' : World => ActAt V' gx 0 d t b m h x (.slice av1 nv1 cv1)) _ := hA1
              go_upto_region 32 with fail
              refine wp_region_orders 17 rfl (by kernel_rfl) ?_
              have hdr : Below w4.heap.size w4 w4.drew := (Below.refl _ _).drew
              replace hP1 := hP1.below hdr
              replace hA1 := hA1.below hdr
              clear hdr hI
              generalize w4.drew = V2 at *
              have hI : (fun V' : World => ActAt V' gx 0 d t b m h x (.slice av1 nv1 cv1)) V2 := hA1
              refine any_inv (fun V' : World => ActAt V' gx 0 d t b m h x (.slice av1 nv1 cv1)) [] hI ?_
              refine inv_take [] 0 (.pointer (some ⟨gf, 0, none⟩)) hI rfl (by kernel_rfl) (by kernel_rfl) (by kernel_rfl) (by kernel_rfl) (by kernel_rfl) (fun _ _ _ h => h) (by kernel_rfl) (fun w hI => by go_simp) ?_
              simp only [Act.put, List.setIfInBounds_toArray, List.set_cons_zero, List.set_cons_succ]
              refine inv_take [] 1 (.pointer (some ⟨gx, 1, none⟩)) hI rfl (by kernel_rfl) (by kernel_rfl) (by kernel_rfl) (by kernel_rfl) (by kernel_rfl) (fun _ _ _ h => h) (by kernel_rfl) (fun w hI => by go_simp) ?_
              simp only [Act.put, List.setIfInBounds_toArray, List.set_cons_zero, List.set_cons_succ]
              refine inv_take [] 2 (.int .i64 t) hI rfl (by kernel_rfl) (by kernel_rfl) (by kernel_rfl) (by kernel_rfl) (by kernel_rfl) (fun _ _ _ h => h) (by kernel_rfl) (fun w hI => by have k1 := hI.c1; go_simp) ?_
              simp only [Act.put, List.setIfInBounds_toArray, List.set_cons_zero, List.set_cons_succ]
              refine inv_take [] 3 (.pointer (some ⟨gx, 2, none⟩)) hI rfl (by kernel_rfl) (by kernel_rfl) (by kernel_rfl) (by kernel_rfl) (by kernel_rfl) (fun _ _ _ h => h) (by kernel_rfl) (fun w hI => by go_simp) ?_
              simp only [Act.put, List.setIfInBounds_toArray, List.set_cons_zero, List.set_cons_succ]
              refine inv_take [] 4 (.int .i64 b) hI rfl (by kernel_rfl) (by kernel_rfl) (by kernel_rfl) (by kernel_rfl) (by kernel_rfl) (fun _ _ _ h => h) (by kernel_rfl) (fun w hI => by have k2 := hI.c2; go_simp) ?_
              simp only [Act.put, List.setIfInBounds_toArray, List.set_cons_zero, List.set_cons_succ]
              refine inv_take [] 5 (.pointer (some ⟨gx, 3, none⟩)) hI rfl (by kernel_rfl) (by kernel_rfl) (by kernel_rfl) (by kernel_rfl) (by kernel_rfl) (fun _ _ _ h => h) (by kernel_rfl) (fun w hI => by go_simp) ?_
              simp only [Act.put, List.setIfInBounds_toArray, List.set_cons_zero, List.set_cons_succ]
              refine inv_take [] 6 (.int .u16 m) hI rfl (by kernel_rfl) (by kernel_rfl) (by kernel_rfl) (by kernel_rfl) (by kernel_rfl) (fun _ _ _ h => h) (by kernel_rfl) (fun w hI => by have k3 := hI.c3; go_simp) ?_
              simp only [Act.put, List.setIfInBounds_toArray, List.set_cons_zero, List.set_cons_succ]
              refine inv_take [] 8 (.pointer (some ⟨gr, 0, none⟩)) hI rfl (by kernel_rfl) (by kernel_rfl) (by kernel_rfl) (by kernel_rfl) (by kernel_rfl) (fun _ _ _ h => h) (by kernel_rfl) (fun w hI => by go_simp) ?_
              simp only [Act.put, List.setIfInBounds_toArray, List.set_cons_zero, List.set_cons_succ]
              refine inv_take [] 9 (.pointer (some ⟨gx, 1, none⟩)) hI rfl (by kernel_rfl) (by kernel_rfl) (by kernel_rfl) (by kernel_rfl) (by kernel_rfl) (fun _ _ _ h => h) (by kernel_rfl) (fun w hI => by go_simp) ?_
              simp only [Act.put, List.setIfInBounds_toArray, List.set_cons_zero, List.set_cons_succ]
              refine inv_take [] 10 (.int .i64 t) hI rfl (by kernel_rfl) (by kernel_rfl) (by kernel_rfl) (by kernel_rfl) (by kernel_rfl) (fun _ _ _ h => h) (by kernel_rfl) (fun w hI => by have k1 := hI.c1; go_simp) ?_
              simp only [Act.put, List.setIfInBounds_toArray, List.set_cons_zero, List.set_cons_succ]
              refine inv_take [] 11 (.pointer (some ⟨gx, 2, none⟩)) hI rfl (by kernel_rfl) (by kernel_rfl) (by kernel_rfl) (by kernel_rfl) (by kernel_rfl) (fun _ _ _ h => h) (by kernel_rfl) (fun w hI => by go_simp) ?_
              simp only [Act.put, List.setIfInBounds_toArray, List.set_cons_zero, List.set_cons_succ]
              refine inv_take [] 12 (.int .i64 b) hI rfl (by kernel_rfl) (by kernel_rfl) (by kernel_rfl) (by kernel_rfl) (by kernel_rfl) (fun _ _ _ h => h) (by kernel_rfl) (fun w hI => by have k2 := hI.c2; go_simp) ?_
              simp only [Act.put, List.setIfInBounds_toArray, List.set_cons_zero, List.set_cons_succ]
              refine inv_take [] 13 (.pointer (some ⟨gx, 3, none⟩)) hI rfl (by kernel_rfl) (by kernel_rfl) (by kernel_rfl) (by kernel_rfl) (by kernel_rfl) (fun _ _ _ h => h) (by kernel_rfl) (fun w hI => by go_simp) ?_
              simp only [Act.put, List.setIfInBounds_toArray, List.set_cons_zero, List.set_cons_succ]
              refine inv_take [] 14 (.int .u16 m) hI rfl (by kernel_rfl) (by kernel_rfl) (by kernel_rfl) (by kernel_rfl) (by kernel_rfl) (fun _ _ _ h => h) (by kernel_rfl) (fun w hI => by have k3 := hI.c3; go_simp) ?_
              simp only [Act.put, List.setIfInBounds_toArray, List.set_cons_zero, List.set_cons_succ]
              refine inv_list 7 (by kernel_rfl) rfl ?_
              go_wp2_with (go_at_call 13; refine (deliver_on hP1.fp.on t b m ht63 hm0 hm1 HD.out).mono ?_; rintro en w5 ⟨rfl, ho5, hk5⟩)
              have hP2 := hP1.stepF ho5 hk5
              have hA2' := hA1.keep hk5 (FP.xe (E := (fun k => k = gc ∨ k = gx)) (.inr rfl))
              refine then_n ⟨hA2', ?_⟩
              refine inv_list 15 (by kernel_rfl) rfl ?_
              go_wp2_with (go_at_call 24; refine (refDel_to _ hP2.fp.df hP2.fp.dl t b m hm0 hm1 HG.out (by have := HNB.out; omega) HD.out).mono ?_; rintro en w7 ⟨rfl, M7, hd7, hM7, hk7⟩)
              have hP3 := hP2.stepD hd7 hk7 hM7 (fun k h => .inl h)
              have hA3 := hA2'.keep hk7 (hP2.fp.ex (.inr rfl))
              refine then_n ⟨hA3, ?_⟩
              refine inv_take [] 16 (.bool false) hA3 rfl (by kernel_rfl) (by kernel_rfl) (by kernel_rfl) (by kernel_rfl) (by kernel_rfl) (fun _ _ _ h => h) (by kernel_rfl) (fun w hI => by go_simp) ?_
              simp only [Act.put, List.setIfInBounds_toArray, List.set_cons_zero, List.set_cons_succ]
              refine inv_done (by kernel_rfl) ?_
              go_wp2
              go_meet
              case rel => exact ⟨F', M7, D, hP3.weak (fun k e => .inl e) rfl⟩
          · as_aux_lemma =>
              clear hacts hxs1 hx64 f0 f0l
              have hN1 : 1 ≤ (N : Int) := by have := HNB.out; omega
              have hN4 : (N : Int) ≤ 4 := by have := HNB.out; omega
              obtain ⟨Z, hZ, hZ0, hZ1⟩ : ∃ Z : Int, t % ((N : Int) + 2) = Z ∧ 0 ≤ Z ∧ Z < (N : Int) + 2 := ⟨_, rfl, Int.emod_nonneg _ (by omega), Int.emod_lt_of_pos _ (by omega)⟩
              obtain ⟨o', F', hTT⟩ := take_ex (nn := N) (F := F) (Z - 1) true
              have HT : Hid (TakeTo N F (Z - 1) true o' F') := hTT
              obtain ⟨y, hy⟩ : ∃ y, o'.getD zeroPk = y := ⟨_, rfl⟩
              obtain ⟨bb, hbb⟩ : ∃ bb, o'.isSome = bb := ⟨_, rfl⟩
              have HY : Hid (o'.getD zeroPk = y) := hy
              have HBB : Hid (o'.isSome = bb) := hbb
              clear hTT hy hbb
              have f1 := hA1.c1
              simp only [Nat.zero_add] at f1
              have g0 := hP1.c0
              have gl := hP1.lt
              have al := hA1.lt
              go_wp2_with (first
                | (go_at_call 11; refine (within_any t ((N : Int) + 2) _ (by omega) (by omega)).mono ?_; rintro e w4 ⟨rfl, rfl⟩; rw [hZ])
                | (go_at_call 16; refine (request_on hP1.fp.on (Z - 1) HT.out).mono ?_; rintro e w5 ⟨⟨a5, n5, c5, rfl, hs5, hX5, _⟩, ho5, hk5⟩; rw [HY.out] at hs5 hX5 ⊢; rw [HBB.out]; have hP2 := hP1.stepF ho5 hk5; clear ho5 hk5; unfold Pk.val)
                | (go_at_call 25; have hP3 := hP2.more (E' := fun k => k = gc ∨ k = w5.heap.size) (ba (o := .cells #[.int .i64 y.k, .int .i64 y.f, .int .i64 y.t, .int .i64 y.i, .int .i64 y.l, .int .i64 y.p, .int .i64 y.s, .bool y.fl, .slice a5 n5 c5] 26) (Below.refl _ _)) (fun k hk => hk.elim (fun e => .inl (.inl e)) (fun e => .inr (by subst e; simp))) (.inl rfl); refine (refTake_to _ hP3.fp.df hP3.fp.dl (Z - 1) true 0 rfl HT.out).mono ?_; rintro e w7 ⟨a7, n7, c7, rfl, hs7, M7, hd7, hM7, hk7⟩; rw [HY.out] at hs7 ⊢; rw [HBB.out]; have hP4 := hP3.stepD hd7 hk7 hM7 (fun k h => .inl h); have hs57 := (hs5.below (ba (o := .cells #[.int .i64 y.k, .int .i64 y.f, .int .i64 y.t, .int .i64 y.i, .int .i64 y.l, .int .i64 y.p, .int .i64 y.s, .bool y.fl, .slice a5 n5 c5] 26) (Below.refl _ _))).keep hk7 (fun hz ad e hyd => hX5 hz ad e (hyd.elim (fun e => .inr (.inl e)) (fun e => .inr (.inr (.inl e))))); obtain ⟨q0, q1, q2, q3, q4, q5, q6, q7, q8, qf, ql⟩ := (Bx.made w5 y (.slice a5 n5 c5)).keep hk7 (hP3.fp.ex (.inr rfl)); clear hd7 hM7 hk7 hs5 hX5 hP2 hP3; unfold Pk.val)
                | (go_at_call 18; refine (same_self y a5 a7 n5 n7 c5 c7 _ (hs57.below (by exact ba (Below.refl _ _))) (hs7.below (by exact ba (Below.refl _ _)))).mono ?_; rintro e w8 ⟨rfl, hb8⟩))
              go_meet
              case rel => exact ⟨F', M7, D, ((hP4.below (by exact ba (Below.refl _ _))).below hb8).weak (fun k e => .inl e) rfl⟩
          · as_aux_lemma =>
              clear hacts hxs1 hx64 f0 f0l
              have hN1 : 1 ≤ (N : Int) := by have := HNB.out; omega
              have hN4 : (N : Int) ≤ 4 := by have := HNB.out; omega
              obtain ⟨Z, hZ, hZ0, hZ1⟩ : ∃ Z : Int, t % ((N : Int) + 2) = Z ∧ 0 ≤ Z ∧ Z < (N : Int) + 2 := ⟨_, rfl, Int.emod_nonneg _ (by omega), Int.emod_lt_of_pos _ (by omega)⟩
              obtain ⟨o', F', hTT⟩ := take_ex (nn := N) (F := F) (Z - 1) false
              have HT : Hid (TakeTo N F (Z - 1) false o' F') := hTT
              obtain ⟨y, hy⟩ : ∃ y, o'.getD zeroPk = y := ⟨_, rfl⟩
              obtain ⟨bb, hbb⟩ : ∃ bb, o'.isSome = bb := ⟨_, rfl⟩
              have HY : Hid (o'.getD zeroPk = y) := hy
              have HBB : Hid (o'.isSome = bb) := hbb
              clear hTT hy hbb
              have f1 := hA1.c1
              simp only [Nat.zero_add] at f1
              have g0 := hP1.c0
              have gl := hP1.lt
              have al := hA1.lt
              go_wp2_with (first
                | (go_at_call 11; refine (within_any t ((N : Int) + 2) _ (by omega) (by omega)).mono ?_; rintro e w4 ⟨rfl, rfl⟩; rw [hZ])
                | (go_at_call 17; refine (reply_on hP1.fp.on (Z - 1) HT.out).mono ?_; rintro e w5 ⟨⟨a5, n5, c5, rfl, hs5, hX5, _⟩, ho5, hk5⟩; rw [HY.out] at hs5 hX5 ⊢; rw [HBB.out]; have hP2 := hP1.stepF ho5 hk5; clear ho5 hk5; unfold Pk.val)
                | (go_at_call 25; have hP3 := hP2.more (E' := fun k => k = gc ∨ k = w5.heap.size) (ba (o := .cells #[.int .i64 y.k, .int .i64 y.f, .int .i64 y.t, .int .i64 y.i, .int .i64 y.l, .int .i64 y.p, .int .i64 y.s, .bool y.fl, .slice a5 n5 c5] 26) (Below.refl _ _)) (fun k hk => hk.elim (fun e => .inl (.inl e)) (fun e => .inr (by subst e; simp))) (.inl rfl); refine (refTake_to _ hP3.fp.df hP3.fp.dl (Z - 1) false 1 rfl HT.out).mono ?_; rintro e w7 ⟨a7, n7, c7, rfl, hs7, M7, hd7, hM7, hk7⟩; rw [HY.out] at hs7 ⊢; rw [HBB.out]; have hP4 := hP3.stepD hd7 hk7 hM7 (fun k h => .inl h); have hs57 := (hs5.below (ba (o := .cells #[.int .i64 y.k, .int .i64 y.f, .int .i64 y.t, .int .i64 y.i, .int .i64 y.l, .int .i64 y.p, .int .i64 y.s, .bool y.fl, .slice a5 n5 c5] 26) (Below.refl _ _))).keep hk7 (fun hz ad e hyd => hX5 hz ad e (hyd.elim (fun e => .inr (.inl e)) (fun e => .inr (.inr (.inl e))))); obtain ⟨q0, q1, q2, q3, q4, q5, q6, q7, q8, qf, ql⟩ := (Bx.made w5 y (.slice a5 n5 c5)).keep hk7 (hP3.fp.ex (.inr rfl)); clear hd7 hM7 hk7 hs5 hX5 hP2 hP3; unfold Pk.val)
                | (go_at_call 18; refine (same_self y a5 a7 n5 n7 c5 c7 _ (hs57.below (by exact ba (Below.refl _ _))) (hs7.below (by exact ba (Below.refl _ _)))).mono ?_; rintro e w8 ⟨rfl, hb8⟩))
              go_meet
              case rel => exact ⟨F', M7, D, ((hP4.below (by exact ba (Below.refl _ _))).below hb8).weak (fun k e => .inl e) rfl⟩
        case rest =>
          obtain ⟨F', M', D', hQ⟩ := hcut
          clear hacts hP1 hxs1 hx64 hr hr0 hr1 hm0 hm1 ht63
          go_wp2_with (go_at_call 26; refine (lawSame_any w _ hQ.fp.on hQ.fp.df hQ.fp.dl).mono ?_; rintro e w7 ⟨rfl, hb7⟩)
          go_roundw
          case rel => exact ⟨k + 1, F', M', D', by omega, by omega, by go_num, hQ.below hb7⟩
          case measure => simp [intOf]; omega
      · obtain rfl : k = 24 := by omega
        clear hacts
        go_wp2_with (go_at_call 19; refine (fwakes_any _).mono ?_; rintro e w9 ⟨rfl, hb9⟩)
        go_ret
        exact ⟨rfl, next hP.fp.on.bel hb9⟩
    · obtain rfl : k = n := by omega
      clear hacts
      go_wp2_with (go_at_call 19; refine (fwakes_any _).mono ?_; rintro e w9 ⟨rfl, hb9⟩)
      go_ret
      exact ⟨rfl, next hP.fp.on.bel hb9⟩

end Go.Proofs.Ytjdbjmfkheffdaa
