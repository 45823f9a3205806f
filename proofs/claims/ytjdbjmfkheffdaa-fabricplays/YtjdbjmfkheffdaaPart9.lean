/- The contract of the document's Send. Conditions: as each theorem states them.
The contract of crc.Spoil: what it gives, in new memory; nothing that was there is written. Conditions: as the theorem states them.
The contracts of overWire and Deliver. Conditions: as each theorem states them.
The contract of the document's Take. Conditions: as each theorem states them.
The contract of Deliver. Conditions: as each theorem states them. -/
import Derived.Test.YtjdbjmfkheffdaaPart6
import Derived.Test.YtjdbjmfkheffdaaPart4
import Derived.Test.YtjdbjmfkheffdaaPart1
section
namespace Go.Proofs.Ytjdbjmfkheffdaa
open Go.RowKit
set_option linter.unusedVariables false
set_option maxRecDepth 20000

theorem right_is (x : Pk) (a : Option Addr) (n c : Nat) (w : World) (hsl : Sl w a n c x.z) (b : Bool) (hb : x.right = b) :
    Calls Try.prog 45 #[x.val (.slice a n c)] w fun e w' => e = .returned (.bool b) ∧ Below w.heap.size w w' := by
  subst hb; exact right_any x a n c w hsl
section
variable (w : World) {gr gs N O I cap : Nat} {F : Nat → List Pk} {M : Nat → Nat → Prop} {D : Nat → Prop}
set_option maxHeartbeats 400000 in
theorem refSend_no (h : DF w gr gs N O I cap F M D) (x : Pk) (a : Option Addr) (n c : Nat) (hsl : Sl w a n c x.z) (hr : x.right = false) :
    Calls Try.prog 23 #[.pointer (some ⟨gr, 0, none⟩), x.val (.slice a n c)] w fun e w' => e = .returned (.int .i64 1) ∧ Below w.heap.size w w' := by
  have HR : Hid (x.right = false) := hr
  clear hr
  unfold Pk.val
  go_enter Try.func23, Try.ntmps23
  go_upto_region 1 with fail
  have hB := ba (o := .cells #[.int .i64 x.k, .int .i64 x.f, .int .i64 x.t, .int .i64 x.i, .int .i64 x.l, .int .i64 x.p, .int .i64 x.s, .bool x.fl, .slice a n c] 26) (Below.refl w.heap.size w)
  have bx := Bx.made w x (.slice a n c)
  have h1 := h.below hB
  have hs1 := hsl.below hB
  have hgp : gr ≠ w.heap.size := fun e => by have := h.lt; omega
  have hgp2 : gs ≠ w.heap.size := fun e => by have := h.net.lt; omega
  have HMO : Hid (∀ q, q < 4 * N → ¬ M q w.heap.size) := fun q hq hm => Nat.lt_irrefl _ (h.net.old hq hm)
  clear h hsl
  generalize w.alloc (.cells #[.int .i64 x.k, .int .i64 x.f, .int .i64 x.t, .int .i64 x.i, .int .i64 x.l, .int .i64 x.p, .int .i64 x.s, .bool x.fl, .slice a n c] 26) = W at *
  have c0 := h1.c0
  have lt := h1.lt
  obtain ⟨q0, q1, q2, q3, q4, q5, q6, q7, q8, qf, ql⟩ := id bx
  have uc := @Up.cell
  have uf := @Up.frozen
  refine wp_region_up (by kernel_rfl) (by kernel_rfl) ?_
  repeat (go_big_quiet_step ((go_at_call 45; exact Calls.up_of (right_is x a n c _ (hs1.below (Subtype.property _)) false HR.out))))
  refine wpQuiet_nil ?_
  rintro _ ⟨u, rfl⟩
  clear uc uf
  go_wp2
  go_ret
  exact ⟨rfl, next hB u.2⟩
set_option maxHeartbeats 800000 in
theorem refSend_far (h : DF w gr gs N O I cap F M D) (x : Pk) (a : Option Addr) (n c : Nat) (hsl : Sl w a n c x.z) (hr : x.right = true) (hf : (N : Int) ≤ x.f ∨ (N : Int) ≤ x.t) :
    Calls Try.prog 23 #[.pointer (some ⟨gr, 0, none⟩), x.val (.slice a n c)] w fun e w' => e = .returned (.int .i64 1) ∧ Below w.heap.size w w' := by
  have HR : Hid (x.right = true) := hr
  clear hr
  by_cases hff : (N : Int) ≤ x.f
  · clear hf
    unfold Pk.val
    go_enter Try.func23, Try.ntmps23
    go_upto_region 1 with fail
    have hB := ba (o := .cells #[.int .i64 x.k, .int .i64 x.f, .int .i64 x.t, .int .i64 x.i, .int .i64 x.l, .int .i64 x.p, .int .i64 x.s, .bool x.fl, .slice a n c] 26) (Below.refl w.heap.size w)
    have bx := Bx.made w x (.slice a n c)
    have h1 := h.below hB
    have hs1 := hsl.below hB
    have hgp : gr ≠ w.heap.size := fun e => by have := h.lt; omega
    have hgp2 : gs ≠ w.heap.size := fun e => by have := h.net.lt; omega
    have HMO : Hid (∀ q, q < 4 * N → ¬ M q w.heap.size) := fun q hq hm => Nat.lt_irrefl _ (h.net.old hq hm)
    clear h hsl
    generalize w.alloc (.cells #[.int .i64 x.k, .int .i64 x.f, .int .i64 x.t, .int .i64 x.i, .int .i64 x.l, .int .i64 x.p, .int .i64 x.s, .bool x.fl, .slice a n c] 26) = W at *
    have c0 := h1.c0
    have lt := h1.lt
    obtain ⟨q0, q1, q2, q3, q4, q5, q6, q7, q8, qf, ql⟩ := id bx
    have uc := @Up.cell
    have uf := @Up.frozen
    refine wp_region_up (by kernel_rfl) (by kernel_rfl) ?_
    repeat (go_big_quiet_step ((go_at_call 45; exact Calls.up_of (right_is x a n c _ (hs1.below (Subtype.property _)) true HR.out))))
    refine wpQuiet_nil ?_
    rintro _ ⟨u, rfl⟩
    clear uc uf
    go_wp2
    go_ret
    exact ⟨rfl, next hB u.2⟩
  · have hft := hf.resolve_left hff
    clear hf
    unfold Pk.val
    go_enter Try.func23, Try.ntmps23
    go_upto_region 1 with fail
    have hB := ba (o := .cells #[.int .i64 x.k, .int .i64 x.f, .int .i64 x.t, .int .i64 x.i, .int .i64 x.l, .int .i64 x.p, .int .i64 x.s, .bool x.fl, .slice a n c] 26) (Below.refl w.heap.size w)
    have bx := Bx.made w x (.slice a n c)
    have h1 := h.below hB
    have hs1 := hsl.below hB
    have hgp : gr ≠ w.heap.size := fun e => by have := h.lt; omega
    have hgp2 : gs ≠ w.heap.size := fun e => by have := h.net.lt; omega
    have HMO : Hid (∀ q, q < 4 * N → ¬ M q w.heap.size) := fun q hq hm => Nat.lt_irrefl _ (h.net.old hq hm)
    clear h hsl
    generalize w.alloc (.cells #[.int .i64 x.k, .int .i64 x.f, .int .i64 x.t, .int .i64 x.i, .int .i64 x.l, .int .i64 x.p, .int .i64 x.s, .bool x.fl, .slice a n c] 26) = W at *
    have c0 := h1.c0
    have lt := h1.lt
    obtain ⟨q0, q1, q2, q3, q4, q5, q6, q7, q8, qf, ql⟩ := id bx
    have uc := @Up.cell
    have uf := @Up.frozen
    refine wp_region_up (by kernel_rfl) (by kernel_rfl) ?_
    repeat (go_big_quiet_step ((go_at_call 45; exact Calls.up_of (right_is x a n c _ (hs1.below (Subtype.property _)) true HR.out))))
    refine wpQuiet_nil ?_
    rintro _ ⟨u, rfl⟩
    clear uc uf
    go_wp2
    go_ret
    exact ⟨rfl, next hB u.2⟩
set_option maxHeartbeats 800000 in
theorem refSend_full (h : DF w gr gs N O I cap F M D) (x : Pk) (a : Option Addr) (n c : Nat) (hsl : Sl w a n c x.z) (hr : x.right = true) (hf : x.f < N) (ht : x.t < N) (hl : ((F (pr (fromQ x))).length : Int) = O) :
    Calls Try.prog 23 #[.pointer (some ⟨gr, 0, none⟩), x.val (.slice a n c)] w fun e w' => e = .returned (.int .i64 5) ∧ Below w.heap.size w w' := by
  have HR : Hid (x.right = true) := hr
  have hR := (Pk.right_iff x).1 hr
  have f0 := hR.f.1
  have t0 := hR.t.1
  have hs2 := sortN_lt x
  obtain ⟨fn, hfn⟩ : ∃ fn : Nat, x.f = (fn : Int) := ⟨x.f.toNat, by omega⟩
  obtain ⟨sn, hsn⟩ : ∃ sn : Nat, sortN x = sn := ⟨_, rfl⟩
  rw [hsn] at hs2
  have hfn4 : fn < N := by omega
  have hq : fn * 4 + sn < 4 * N := by omega
  have hqe : pr (fromQ x) = fn * 4 + sn := by unfold pr fromQ; rw [hsn]; omega
  rw [hqe] at hl
  have HSN : Hid ((sn : Int) = (sortN x : Int)) := by show _ = _; rw [hsn]
  have hnf : ¬ (N : Int) ≤ x.f := by omega
  have hnt : ¬ (N : Int) ≤ x.t := by omega
  have HFN : Hid (x.f = (fn : Int)) := hfn
  have HNN : Hid (n ≤ 1000) := by show _ ≤ _; have := hR.z; have := hsl.len; omega
  clear hr hR f0 t0 hsn hqe hfn hf ht
  unfold Pk.val
  go_enter Try.func23, Try.ntmps23
  go_upto_region 1 with fail
  have hB := ba (o := .cells #[.int .i64 x.k, .int .i64 x.f, .int .i64 x.t, .int .i64 x.i, .int .i64 x.l, .int .i64 x.p, .int .i64 x.s, .bool x.fl, .slice a n c] 26) (Below.refl w.heap.size w)
  have bx := Bx.made w x (.slice a n c)
  have h1 := h.below hB
  have hs1 := hsl.below hB
  have hgp : gr ≠ w.heap.size := fun e => by have := h.lt; omega
  have hgp2 : gs ≠ w.heap.size := fun e => by have := h.net.lt; omega
  have HMO : Hid (∀ q, q < 4 * N → ¬ M q w.heap.size) := fun q hq hm => Nat.lt_irrefl _ (h.net.old hq hm)
  clear h hsl
  generalize w.alloc (.cells #[.int .i64 x.k, .int .i64 x.f, .int .i64 x.t, .int .i64 x.i, .int .i64 x.l, .int .i64 x.p, .int .i64 x.s, .bool x.fl, .slice a n c] 26) = W at *
  have c0 := h1.c0
  have lt := h1.lt
  obtain ⟨q0, q1, q2, q3, q4, q5, q6, q7, q8, qf, ql⟩ := id bx
  have uc := @Up.cell
  have uf := @Up.frozen
  refine wp_region_up (by kernel_rfl) (by kernel_rfl) ?_
  repeat (go_big_quiet_step ((go_at_call 45; exact Calls.up_of (right_is x a n c _ (hs1.below (Subtype.property _)) true HR.out))))
  refine wpQuiet_nil ?_
  rintro _ ⟨u, rfl⟩
  clear uc uf
  have hB2 := next hB u.2
  have h2 := h1.below u.2
  have hs3 := hs1.below u.2
  have bx2 := bx.next u.2
  clear q0 q1 q2 q3 q4 q5 q6 q7 q8 qf ql c0 lt h1 hs1 bx hB hnf hnt
  generalize u.1 = w1 at *
  obtain ⟨q0, q1, q2, q3, q4, q5, q6, q7, q8, qf, ql⟩ := id bx2
  go_upto_region 4 with (go_at_call 46; refine (refSort_any w1 x _ HSN.out).mono ?_; rintro e w2 ⟨rfl, hb2⟩)
  have hB3 := next hB2 hb2
  have h3 := h2.below hb2
  have hs4 := hs3.below hb2
  have bx3 := bx2.next hb2
  clear q0 q1 q2 q3 q4 q5 q6 q7 q8 qf ql h2 hs3 bx2 hB2 hb2
  have q1 := bx3.c1
  have ql := bx3.lt
  rw [HFN.out] at q1
  obtain ⟨R, ra, rc, hrc, hp⟩ := h3.at hq
  have cs := h3.cs
  have c5 := h3.c5
  have lt := h3.lt
  have lts := h3.net.lt
  have n1 := h3.n1
  have o1 := h3.o1
  have cp := h3.cp.1
  have cp2 := h3.cp.2
  have hmx := h3.rm _ hq
  unfold maxLen at cp2
  have i0 : (fn : Int) < (N : Int) := by omega
  have i1 : (sn : Int) < 2 := by omega
  generalize hT : (F (fn * 4 + sn)).length = T at *
  have hge : (O : Int) ≤ (T : Int) := by omega
  have hge2 : O ≤ T := by omega
  clear hl hT hp
  go_quiet (fail)
  go_wp2
  go_ret
  first
    | exact ⟨rfl, next hB3 ((Below.refl _ _).drew)⟩
    | exact ⟨rfl, next hB3 (below_dn _ _)⟩
set_option maxHeartbeats 1000000 in
theorem refSend_ok (h : DF w gr gs N O I cap F M D) (x : Pk) (a : Option Addr) (n c : Nat) (hsl : Sl w a n c x.z) (hr : x.right = true) (hf : x.f < N) (ht : x.t < N) (hl : ((F (pr (fromQ x))).length : Int) < O) (hDl : ∀ k, D k → k < w.heap.size) (hE : x.z ≠ [] → ∀ y : Addr, a = some y → y.block ≠ gs ∧ y.block ≠ gr ∧ ∀ q, q < 4 * N → ¬ M q y.block) :
    Calls Try.prog 23 #[.pointer (some ⟨gr, 0, none⟩), x.val (.slice a n c)] w fun e w' => e = .returned (.int .i64 0) ∧ ∃ M', DF w' gr gs N O I cap (upd F (pr (fromQ x)) (F (pr (fromQ x)) ++ [x])) (upd M (pr (fromQ x)) M') (fun k => D k ∨ (x.z ≠ [] ∧ ∃ y : Addr, a = some y ∧ y.block = k)) ∧ (∀ k, M' k → M (pr (fromQ x)) k ∨ (w.heap.size ≤ k ∧ k < w'.heap.size)) ∧ Keep (fun k => k = gs ∨ M (pr (fromQ x)) k) w w' := by
  have HR : Hid (x.right = true) := hr
  have hR := (Pk.right_iff x).1 hr
  have f0 := hR.f.1
  have t0 := hR.t.1
  have hs2 := sortN_lt x
  obtain ⟨fn, hfn⟩ : ∃ fn : Nat, x.f = (fn : Int) := ⟨x.f.toNat, by omega⟩
  obtain ⟨sn, hsn⟩ : ∃ sn : Nat, sortN x = sn := ⟨_, rfl⟩
  rw [hsn] at hs2
  have hfn4 : fn < N := by omega
  have hq : fn * 4 + sn < 4 * N := by omega
  have hqe : pr (fromQ x) = fn * 4 + sn := by unfold pr fromQ; rw [hsn]; omega
  rw [hqe] at hl
  rw [hqe]
  have HSN : Hid ((sn : Int) = (sortN x : Int)) := by show _ = _; rw [hsn]
  have hnf : ¬ (N : Int) ≤ x.f := by omega
  have hnt : ¬ (N : Int) ≤ x.t := by omega
  have HFN : Hid (x.f = (fn : Int)) := hfn
  have HNN : Hid (n ≤ 1000) := by show _ ≤ _; have := hR.z; have := hsl.len; omega
  clear hr hR f0 t0 hsn hqe hfn hf ht
  unfold Pk.val
  go_enter Try.func23, Try.ntmps23
  go_upto_region 1 with fail
  have hB := ba (o := .cells #[.int .i64 x.k, .int .i64 x.f, .int .i64 x.t, .int .i64 x.i, .int .i64 x.l, .int .i64 x.p, .int .i64 x.s, .bool x.fl, .slice a n c] 26) (Below.refl w.heap.size w)
  have bx := Bx.made w x (.slice a n c)
  have h1 := h.below hB
  have hs1 := hsl.below hB
  have hgp : gr ≠ w.heap.size := fun e => by have := h.lt; omega
  have hgp2 : gs ≠ w.heap.size := fun e => by have := h.net.lt; omega
  have HMO : Hid (∀ q, q < 4 * N → ¬ M q w.heap.size) := fun q hq hm => Nat.lt_irrefl _ (h.net.old hq hm)
  clear h hsl
  generalize w.alloc (.cells #[.int .i64 x.k, .int .i64 x.f, .int .i64 x.t, .int .i64 x.i, .int .i64 x.l, .int .i64 x.p, .int .i64 x.s, .bool x.fl, .slice a n c] 26) = W at *
  have c0 := h1.c0
  have lt := h1.lt
  obtain ⟨q0, q1, q2, q3, q4, q5, q6, q7, q8, qf, ql⟩ := id bx
  have uc := @Up.cell
  have uf := @Up.frozen
  refine wp_region_up (by kernel_rfl) (by kernel_rfl) ?_
  repeat (go_big_quiet_step ((go_at_call 45; exact Calls.up_of (right_is x a n c _ (hs1.below (Subtype.property _)) true HR.out))))
  refine wpQuiet_nil ?_
  rintro _ ⟨u, rfl⟩
  clear uc uf
  have hB2 := next hB u.2
  have h2 := h1.below u.2
  have hs3 := hs1.below u.2
  have bx2 := bx.next u.2
  clear q0 q1 q2 q3 q4 q5 q6 q7 q8 qf ql c0 lt h1 hs1 bx hB hnf hnt
  generalize u.1 = w1 at *
  obtain ⟨q0, q1, q2, q3, q4, q5, q6, q7, q8, qf, ql⟩ := id bx2
  go_upto_region 4 with (go_at_call 46; refine (refSort_any w1 x _ HSN.out).mono ?_; rintro e w2 ⟨rfl, hb2⟩)
  have hB3 := next hB2 hb2
  have h3 := h2.below hb2
  have hs4 := hs3.below hb2
  have bx3 := bx2.next hb2
  clear q0 q1 q2 q3 q4 q5 q6 q7 q8 qf ql h2 hs3 bx2 hB2 hb2
  have q1 := bx3.c1
  have ql := bx3.lt
  rw [HFN.out] at q1
  obtain ⟨R, ra, rc, hrc, hp⟩ := h3.at hq
  have cs := h3.cs
  have c5 := h3.c5
  have lt := h3.lt
  have lts := h3.net.lt
  have n1 := h3.n1
  have o1 := h3.o1
  have cp := h3.cp.1
  have cp2 := h3.cp.2
  have hmx := h3.rm _ hq
  unfold maxLen at cp2
  have i0 : (fn : Int) < (N : Int) := by omega
  have i1 : (sn : Int) < 2 := by omega
  generalize hT : (F (fn * 4 + sn)).length = T at *
  have hge : ¬ (O : Int) ≤ (T : Int) := by omega
  have hge2 : ¬ O ≤ T := by omega
  clear hl
  go_quiet (fail)
  go_upto_region 6 with fail
  refine wp_region_orders 25 rfl (by kernel_rfl) ?_
  have hdr : Below w2.heap.size w2 (w2.drewN nq).drew := (below_dn _ _).drew
  replace h3 := h3.below hdr
  replace hs4 := hs4.below hdr
  replace bx3 := bx3.next hdr
  replace hB3 := next hB3 hdr
  replace hp := hp.below hdr
  replace hrc := ((bcell hdr).1 gs (fn * 4 + sn) lts).trans hrc
  replace cs := ((bcell hdr).1 gr 8 lt).trans cs
  clear hdr lt lts q1 ql c5
  generalize (w2.drewN nq).drew = V at *
  have hI : (fun V' : World => V'.cell? ⟨gr, 8, none⟩ = some (.slice (some ⟨gs, 0, none⟩) N cap) ∧ V'.cell? ⟨gs, fn * 4 + sn, none⟩ = some (.slice ra T rc) ∧ Bx V' w.heap.size x (.slice a n c)) V := ⟨cs, hrc, bx3⟩
  refine any_inv (fun V' : World => V'.cell? ⟨gr, 8, none⟩ = some (.slice (some ⟨gs, 0, none⟩) N cap) ∧ V'.cell? ⟨gs, fn * 4 + sn, none⟩ = some (.slice ra T rc) ∧ Bx V' w.heap.size x (.slice a n c)) [24] hI ?_
  refine inv_take [24] 0 (.pointer (some ⟨gr, 0, none⟩)) hI rfl (by kernel_rfl) (by kernel_rfl) (by kernel_rfl) (by kernel_rfl) (by kernel_rfl) (fun _ _ _ h => h) (by kernel_rfl) (fun w hI => by obtain ⟨i1, i2, ⟨k0, k1, k2, k3, k4, k5, k6, k7, k8, kf, kl⟩⟩ := hI; try rw [HFN.out] at k1; go_simp) ?_
  simp only [Act.put, List.setIfInBounds_toArray, List.set_cons_zero, List.set_cons_succ]
  refine inv_take [24] 1 (.pointer (some ⟨gr, 0, none⟩)) hI rfl (by kernel_rfl) (by kernel_rfl) (by kernel_rfl) (by kernel_rfl) (by kernel_rfl) (fun _ _ _ h => h) (by kernel_rfl) (fun w hI => by obtain ⟨i1, i2, ⟨k0, k1, k2, k3, k4, k5, k6, k7, k8, kf, kl⟩⟩ := hI; try rw [HFN.out] at k1; go_simp) ?_
  simp only [Act.put, List.setIfInBounds_toArray, List.set_cons_zero, List.set_cons_succ]
  refine inv_take [24] 2 (.pointer (some ⟨gr, 8, none⟩)) hI rfl (by kernel_rfl) (by kernel_rfl) (by kernel_rfl) (by kernel_rfl) (by kernel_rfl) (fun _ _ _ h => h) (by kernel_rfl) (fun w hI => by obtain ⟨i1, i2, ⟨k0, k1, k2, k3, k4, k5, k6, k7, k8, kf, kl⟩⟩ := hI; try rw [HFN.out] at k1; go_simp) ?_
  simp only [Act.put, List.setIfInBounds_toArray, List.set_cons_zero, List.set_cons_succ]
  refine inv_take [24] 3 (.slice (some ⟨gs, 0, none⟩) N cap) hI rfl (by kernel_rfl) (by kernel_rfl) (by kernel_rfl) (by kernel_rfl) (by kernel_rfl) (fun _ _ _ h => h) (by kernel_rfl) (fun w hI => by obtain ⟨i1, i2, ⟨k0, k1, k2, k3, k4, k5, k6, k7, k8, kf, kl⟩⟩ := hI; try rw [HFN.out] at k1; go_simp) ?_
  simp only [Act.put, List.setIfInBounds_toArray, List.set_cons_zero, List.set_cons_succ]
  refine inv_take [24] 4 (.pointer (some ⟨w.heap.size, 1, none⟩)) hI rfl (by kernel_rfl) (by kernel_rfl) (by kernel_rfl) (by kernel_rfl) (by kernel_rfl) (fun _ _ _ h => h) (by kernel_rfl) (fun w hI => by obtain ⟨i1, i2, ⟨k0, k1, k2, k3, k4, k5, k6, k7, k8, kf, kl⟩⟩ := hI; try rw [HFN.out] at k1; go_simp) ?_
  simp only [Act.put, List.setIfInBounds_toArray, List.set_cons_zero, List.set_cons_succ]
  refine inv_take [24] 5 (.int .i64 (fn : Int)) hI rfl (by kernel_rfl) (by kernel_rfl) (by kernel_rfl) (by kernel_rfl) (by kernel_rfl) (fun _ _ _ h => h) (by kernel_rfl) (fun w hI => by obtain ⟨i1, i2, ⟨k0, k1, k2, k3, k4, k5, k6, k7, k8, kf, kl⟩⟩ := hI; try rw [HFN.out] at k1; go_simp) ?_
  simp only [Act.put, List.setIfInBounds_toArray, List.set_cons_zero, List.set_cons_succ]
  refine inv_take [24] 6 (.int .i64 (sn : Int)) hI rfl (by kernel_rfl) (by kernel_rfl) (by kernel_rfl) (by kernel_rfl) (by kernel_rfl) (fun _ _ _ h => h) (by kernel_rfl) (fun w hI => by obtain ⟨i1, i2, ⟨k0, k1, k2, k3, k4, k5, k6, k7, k8, kf, kl⟩⟩ := hI; try rw [HFN.out] at k1; go_simp) ?_
  simp only [Act.put, List.setIfInBounds_toArray, List.set_cons_zero, List.set_cons_succ]
  refine inv_take [24] 7 (.pointer (some ⟨gr, 0, none⟩)) hI rfl (by kernel_rfl) (by kernel_rfl) (by kernel_rfl) (by kernel_rfl) (by kernel_rfl) (fun _ _ _ h => h) (by kernel_rfl) (fun w hI => by obtain ⟨i1, i2, ⟨k0, k1, k2, k3, k4, k5, k6, k7, k8, kf, kl⟩⟩ := hI; try rw [HFN.out] at k1; go_simp) ?_
  simp only [Act.put, List.setIfInBounds_toArray, List.set_cons_zero, List.set_cons_succ]
  refine inv_take [24] 8 (.pointer (some ⟨gr, 0, none⟩)) hI rfl (by kernel_rfl) (by kernel_rfl) (by kernel_rfl) (by kernel_rfl) (by kernel_rfl) (fun _ _ _ h => h) (by kernel_rfl) (fun w hI => by obtain ⟨i1, i2, ⟨k0, k1, k2, k3, k4, k5, k6, k7, k8, kf, kl⟩⟩ := hI; try rw [HFN.out] at k1; go_simp) ?_
  simp only [Act.put, List.setIfInBounds_toArray, List.set_cons_zero, List.set_cons_succ]
  refine inv_take [24] 9 (.pointer (some ⟨gr, 8, none⟩)) hI rfl (by kernel_rfl) (by kernel_rfl) (by kernel_rfl) (by kernel_rfl) (by kernel_rfl) (fun _ _ _ h => h) (by kernel_rfl) (fun w hI => by obtain ⟨i1, i2, ⟨k0, k1, k2, k3, k4, k5, k6, k7, k8, kf, kl⟩⟩ := hI; try rw [HFN.out] at k1; go_simp) ?_
  simp only [Act.put, List.setIfInBounds_toArray, List.set_cons_zero, List.set_cons_succ]
  refine inv_take [24] 10 (.slice (some ⟨gs, 0, none⟩) N cap) hI rfl (by kernel_rfl) (by kernel_rfl) (by kernel_rfl) (by kernel_rfl) (by kernel_rfl) (fun _ _ _ h => h) (by kernel_rfl) (fun w hI => by obtain ⟨i1, i2, ⟨k0, k1, k2, k3, k4, k5, k6, k7, k8, kf, kl⟩⟩ := hI; try rw [HFN.out] at k1; go_simp) ?_
  simp only [Act.put, List.setIfInBounds_toArray, List.set_cons_zero, List.set_cons_succ]
  refine inv_take [24] 11 (.pointer (some ⟨w.heap.size, 1, none⟩)) hI rfl (by kernel_rfl) (by kernel_rfl) (by kernel_rfl) (by kernel_rfl) (by kernel_rfl) (fun _ _ _ h => h) (by kernel_rfl) (fun w hI => by obtain ⟨i1, i2, ⟨k0, k1, k2, k3, k4, k5, k6, k7, k8, kf, kl⟩⟩ := hI; try rw [HFN.out] at k1; go_simp) ?_
  simp only [Act.put, List.setIfInBounds_toArray, List.set_cons_zero, List.set_cons_succ]
  refine inv_take [24] 12 (.int .i64 (fn : Int)) hI rfl (by kernel_rfl) (by kernel_rfl) (by kernel_rfl) (by kernel_rfl) (by kernel_rfl) (fun _ _ _ h => h) (by kernel_rfl) (fun w hI => by obtain ⟨i1, i2, ⟨k0, k1, k2, k3, k4, k5, k6, k7, k8, kf, kl⟩⟩ := hI; try rw [HFN.out] at k1; go_simp) ?_
  simp only [Act.put, List.setIfInBounds_toArray, List.set_cons_zero, List.set_cons_succ]
  refine inv_take [24] 13 (.int .i64 (sn : Int)) hI rfl (by kernel_rfl) (by kernel_rfl) (by kernel_rfl) (by kernel_rfl) (by kernel_rfl) (fun _ _ _ h => h) (by kernel_rfl) (fun w hI => by obtain ⟨i1, i2, ⟨k0, k1, k2, k3, k4, k5, k6, k7, k8, kf, kl⟩⟩ := hI; try rw [HFN.out] at k1; go_simp) ?_
  simp only [Act.put, List.setIfInBounds_toArray, List.set_cons_zero, List.set_cons_succ]
  refine inv_take [24] 14 (.pointer (some ⟨gs, fn * 4, none⟩)) hI rfl (by kernel_rfl) (by kernel_rfl) (by kernel_rfl) (by kernel_rfl) (by kernel_rfl) (fun _ _ _ h => h) (by kernel_rfl) (fun w hI => by obtain ⟨i1, i2, ⟨k0, k1, k2, k3, k4, k5, k6, k7, k8, kf, kl⟩⟩ := hI; try rw [HFN.out] at k1; go_simp) ?_
  simp only [Act.put, List.setIfInBounds_toArray, List.set_cons_zero, List.set_cons_succ]
  refine inv_take [24] 15 (.pointer (some ⟨gs, fn * 4, none⟩)) hI rfl (by kernel_rfl) (by kernel_rfl) (by kernel_rfl) (by kernel_rfl) (by kernel_rfl) (fun _ _ _ h => h) (by kernel_rfl) (fun w hI => by obtain ⟨i1, i2, ⟨k0, k1, k2, k3, k4, k5, k6, k7, k8, kf, kl⟩⟩ := hI; try rw [HFN.out] at k1; go_simp) ?_
  simp only [Act.put, List.setIfInBounds_toArray, List.set_cons_zero, List.set_cons_succ]
  refine inv_take [24] 16 (.pointer (some ⟨gs, fn * 4 + sn, none⟩)) hI rfl (by kernel_rfl) (by kernel_rfl) (by kernel_rfl) (by kernel_rfl) (by kernel_rfl) (fun _ _ _ h => h) (by kernel_rfl) (fun w hI => by obtain ⟨i1, i2, ⟨k0, k1, k2, k3, k4, k5, k6, k7, k8, kf, kl⟩⟩ := hI; try rw [HFN.out] at k1; go_simp) ?_
  simp only [Act.put, List.setIfInBounds_toArray, List.set_cons_zero, List.set_cons_succ]
  refine inv_take [24] 17 (.slice ra T rc) hI rfl (by kernel_rfl) (by kernel_rfl) (by kernel_rfl) (by kernel_rfl) (by kernel_rfl) (fun _ _ _ h => h) (by kernel_rfl) (fun w hI => by obtain ⟨i1, i2, ⟨k0, k1, k2, k3, k4, k5, k6, k7, k8, kf, kl⟩⟩ := hI; try rw [HFN.out] at k1; go_simp) ?_
  simp only [Act.put, List.setIfInBounds_toArray, List.set_cons_zero, List.set_cons_succ]
  refine inv_take [24] 18 (x.val (.slice a n c)) hI rfl (by kernel_rfl) (by kernel_rfl) (by kernel_rfl) (by kernel_rfl) (by kernel_rfl) (fun _ _ _ h => h) (by kernel_rfl) (fun w hI => by obtain ⟨i1, i2, ⟨k0, k1, k2, k3, k4, k5, k6, k7, k8, kf, kl⟩⟩ := hI; go_simp) ?_
  simp only [Act.put, List.setIfInBounds_toArray, List.set_cons_zero, List.set_cons_succ]
  refine inv_take [22, 23, 24] 21 (.pointer (some ⟨gs, fn * 4, none⟩)) hI rfl (by kernel_rfl) (by kernel_rfl) (by kernel_rfl) (by kernel_rfl) (by kernel_rfl) (fun _ _ _ h => h) (by kernel_rfl) (fun w hI => by obtain ⟨i1, i2, ⟨k0, k1, k2, k3, k4, k5, k6, k7, k8, kf, kl⟩⟩ := hI; try rw [HFN.out] at k1; go_simp) ?_
  simp only [Act.put, List.setIfInBounds_toArray, List.set_cons_zero, List.set_cons_succ]
  refine inv_take [23, 24] 22 (.pointer (some ⟨gs, fn * 4, none⟩)) hI rfl (by kernel_rfl) (by kernel_rfl) (by kernel_rfl) (by kernel_rfl) (by kernel_rfl) (fun _ _ _ h => h) (by kernel_rfl) (fun w hI => by obtain ⟨i1, i2, ⟨k0, k1, k2, k3, k4, k5, k6, k7, k8, kf, kl⟩⟩ := hI; try rw [HFN.out] at k1; go_simp) ?_
  simp only [Act.put, List.setIfInBounds_toArray, List.set_cons_zero, List.set_cons_succ]
  refine inv_list 19 (by kernel_rfl) rfl ?_
  go_wp2
  have hb4 := ba (o := .cells #[.int .i64 x.k, .int .i64 x.f, .int .i64 x.t, .int .i64 x.i, .int .i64 x.l, .int .i64 x.p, .int .i64 x.s, .bool x.fl, .slice a n c] 26) (Below.refl V.heap.size V)
  have bxn := Bx.made V x (.slice a n c)
  have hI4 : (fun V' : World => V'.cell? ⟨gr, 8, none⟩ = some (.slice (some ⟨gs, 0, none⟩) N cap) ∧ V'.cell? ⟨gs, fn * 4 + sn, none⟩ = some (.slice ra T rc) ∧ Bx V' w.heap.size x (.slice a n c)) (V.alloc (.cells #[.int .i64 x.k, .int .i64 x.f, .int .i64 x.t, .int .i64 x.i, .int .i64 x.l, .int .i64 x.p, .int .i64 x.s, .bool x.fl, .slice a n c] 26)) := ⟨((bcell hb4).1 gr 8 h3.lt).trans cs, ((bcell hb4).1 gs (fn * 4 + sn) h3.net.lt).trans hrc, bx3.next hb4⟩
  refine ⟨hI4, ?_⟩
  replace h3 := h3.below hb4
  replace hs4 := hs4.below hb4
  replace hB3 := next hB3 hb4
  replace hp := hp.below hb4
  clear hI cs hrc bx3 hb4
  generalize V.alloc (.cells #[.int .i64 x.k, .int .i64 x.f, .int .i64 x.t, .int .i64 x.i, .int .i64 x.l, .int .i64 x.p, .int .i64 x.s, .bool x.fl, .slice a n c] 26) = V4 at *
  generalize V.heap.size = bs at *
  obtain ⟨f0, hi, hp0, hp1, hp2⟩ := info_parts Try.infoPk
  refine inv_list 20 (by kernel_rfl) rfl ?_
  refine wpList_append_rw V4 (M (fn * 4 + sn)) (by kernel_rfl) (.tmp 67) (.tmp 69) 53 rfl 26 f0 (zeroPk.val (.slice none 0 0)) 9 88 Try.underlying53 hi hp0 hp1 hp2 rfl (by decide) ra T rc (pflat R) rfl hp.row ⟨bs, 0, none⟩ 1 1 (pcells x (.slice a n c)) rfl (by omega) rfl bxn.news (pcells_one rfl) (by unfold maxLen; omega) (by omega) ?_
  intro a5 c5 w5 hrw5 hk5
  have hI : (fun V' : World => V'.cell? ⟨gr, 8, none⟩ = some (.slice (some ⟨gs, 0, none⟩) N cap) ∧ V'.cell? ⟨gs, fn * 4 + sn, none⟩ = some (.slice ra T rc) ∧ Bx V' w.heap.size x (.slice a n c)) w5 := ⟨(hk5.cell 8 h3.lt (h3.nm _ hq)).trans hI4.1, (hk5.cell (fn * 4 + sn) h3.net.lt (h3.net.ngs _ hq)).trans hI4.2.1, hI4.2.2.keep hk5 (HMO.out _ hq)⟩
  refine then_n ⟨hI, ?_⟩
  simp only [Act.put, List.setIfInBounds_toArray, List.set_cons_zero, List.set_cons_succ]
  refine inv_take [24] 23 (.pointer (some ⟨gs, fn * 4 + sn, none⟩)) hI rfl (by kernel_rfl) (by kernel_rfl) (by kernel_rfl) (by kernel_rfl) (by kernel_rfl) (fun _ _ _ h => h) (by kernel_rfl) (fun w hI => by obtain ⟨i1, i2, ⟨k0, k1, k2, k3, k4, k5, k6, k7, k8, kf, kl⟩⟩ := hI; try rw [HFN.out] at k1; go_simp) ?_
  simp only [Act.put, List.setIfInBounds_toArray, List.set_cons_zero, List.set_cons_succ]
  refine inv_write 24 (by kernel_rfl) (by kernel_rfl) rfl ?_
  have hcc5 := hI.2.1
  have hfz5 : w5.frozen? ⟨gs, fn * 4 + sn, none⟩ = false := by rw [hk5.frozen _ h3.net.lt (h3.net.ngs _ hq)]; exact h3.net.fz _
  go_wp2
  refine then_n ?_
  refine any_done (by kernel_rfl) ?_
  clear hcc5 hfz5 hI hI4
  have hEl : ∀ k, (x.z ≠ [] ∧ ∃ y : Addr, a = some y ∧ y.block = k) → k < V4.heap.size := fun k hk => by
    obtain ⟨hz, y, hy, rfl⟩ := hk
    obtain ⟨b, o, hb, hl, _⟩ := hs4.at (k := 0) (by have := hs4.len; have := List.length_pos_iff.2 hz; omega)
    rw [hy] at hb; cases hb; exact hl
  have hEm : ∀ q, q < 4 * N → ∀ k, (x.z ≠ [] ∧ ∃ y : Addr, a = some y ∧ y.block = k) → ¬ M q k := fun q hq k hk => by
    obtain ⟨hz, y, hy, rfl⟩ := hk
    exact (hE hz y hy).2.2 q hq
  have hDl4 : ∀ k, D k → k < V4.heap.size := fun k hk => Nat.lt_of_lt_of_le (hDl k hk) hB3.size
  have hd : Dat V4 (fun k => x.z ≠ [] ∧ ∃ y : Addr, a = some y ∧ y.block = k) x (.slice a n c) := ⟨a, n, c, rfl, hs4, by have := HNN.out; omega, fun hz y hy => ⟨hz, y, hy, rfl⟩⟩
  have hp5 := hp.snoc (E := fun k => x.z ≠ [] ∧ ∃ y : Addr, a = some y ∧ y.block = k) hd (fun k hk => hEm _ hq k hk) hDl4 hEl hrw5 hk5
  have h4 := h3.more (D' := fun k => D k ∨ (x.z ≠ [] ∧ ∃ y : Addr, a = some y ∧ y.block = k)) (fun k h => .inl h) (fun q hq k hm hd => hd.elim (h3.net.nd hq hm) (fun hd => hEm q hq k hd hm)) (fun hd => hd.elim h3.net.dgs (fun hd => by obtain ⟨hz, y, hy, e⟩ := hd; exact (hE hz y hy).1 e)) (fun hd => hd.elim h3.nd (fun hd => by obtain ⟨hz, y, hy, e⟩ := hd; exact (hE hz y hy).2.1 e))
  obtain ⟨h5, hk6⟩ := h4.set hq hk5 hp5 (fun k h => h.imp id (fun h => h.1)) (by rw [List.length_append, hT]; simp; have := h3.o1; omega)
  have hk7 := Keep.pre hB3 hk6
  have hsz : (w5.setCell ⟨gs, fn * 4 + sn, none⟩ (.slice a5 (T + 1) c5)).heap.size = w5.heap.size := by simp
  have hB3s := hB3.size
  clear h4 h3 hp hp5 hd hs4 hB3 hk6
  generalize w5.setCell ⟨gs, fn * 4 + sn, none⟩ (.slice a5 (T + 1) c5) = w6 at *
  go_wp2
  go_ret
  exact ⟨rfl, _, h5, fun k h => h.imp id (fun h => by omega), hk7⟩
end
end Go.Proofs.Ytjdbjmfkheffdaa
end
section
namespace Go.Proofs.Ytjdbjmfkheffdaa.B
open Go.RowKit
set_option linter.unusedVariables false
set_option maxRecDepth 20000

set_option maxHeartbeats 1000000 in
theorem spoil_any (a : Option Addr) (l : List Int) (n cap : Nat) (bit mask : Int) (w : World) (hsl : Sl w a n cap l) (hn : n ≤ 140737488351300) (hm0 : 0 ≤ mask) (hm1 : mask < 65536) :
    Calls Try.prog 59 #[.slice a n cap, .int .i64 bit, .int .u16 mask] w fun e w' => ∃ v, e = .returned v ∧ Own w' w.heap.size v (spoilI l bit mask) ∧ Below w.heap.size w w' := by
  have hl := hsl.len
  by_cases h1 : bit ≤ -16
  · have HO : Hid (spoilI l bit mask = l) := spN_out (.inl h1) 16 (by omega)
    go_enter Try.func59, Try.ntmps59
    go_wp2_with (first
      | (go_at_call 75; refine (copyOf_any _ _ n cap _ hsl (by omega)).mono ?_; rintro e w2 ⟨v, rfl, hown, hb⟩))
    go_ret
    exact ⟨_, rfl, by rw [HO.out]; exact hown, hb⟩
  by_cases h2 : 8 * (n : Int) ≤ bit
  · have HO : Hid (spoilI l bit mask = l) := spN_out (.inr (by omega)) 16 (by omega)
    go_enter Try.func59, Try.ntmps59
    go_wp2_with (first
      | (go_at_call 75; refine (copyOf_any _ _ n cap _ hsl (by omega)).mono ?_; rintro e w2 ⟨v, rfl, hown, hb⟩))
    go_ret
    exact ⟨_, rfl, by rw [HO.out]; exact hown, hb⟩
  go_enter Try.func59, Try.ntmps59
  go_wp2_with (first
    | (go_at_call 75; refine (copyOf_any _ _ n cap _ hsl (by omega)).mono ?_; rintro e w2 ⟨v, rfl, hown, hb⟩))
  go_loopw [25] (fun i wr => ∃ k : Nat, k ≤ 16 ∧ i = .int .i64 k ∧ Own wr w.heap.size v (spN l bit mask k) ∧ Below w.heap.size w wr) (fun i _ => 16 - (intOf i).toNat)
  case atStart => exact ⟨0, by omega, rfl, hown, hb⟩
  case round =>
    obtain ⟨k, hk, rfl, hown1, hb1⟩ := hrel
    have hlk := spN_len l bit mask k
    by_cases hlt : k < 16
    · have HS : Hid (spN l bit mask (k + 1) = spStep (spN l bit mask k) bit mask k) := spN_succ l bit mask k
      by_cases hin : bit + k < 0
      · have HQ : Hid (spStep (spN l bit mask k) bit mask k = spN l bit mask k) := spStep_out (.inl hin)
        go_wp2
        go_roundw
        case rel => exact ⟨k + 1, by omega, by go_num, by rw [HS.out, HQ.out]; exact hown1, hb1⟩
        case measure => simp [intOf]; omega
      by_cases hin2 : 8 * (n : Int) ≤ bit + k
      · have HQ : Hid (spStep (spN l bit mask k) bit mask k = spN l bit mask k) := spStep_out (.inr (by omega))
        go_wp2
        go_roundw
        case rel => exact ⟨k + 1, by omega, by go_num, by rw [HS.out, HQ.out]; exact hown1, hb1⟩
        case measure => simp [intOf]; omega
      obtain ⟨t, ht⟩ : ∃ t : Nat, bit + (k : Int) = (t : Int) := ⟨(bit + k).toNat, by omega⟩
      have HQ : Hid (spStep (spN l bit mask k) bit mask k = (spN l bit mask k).set (t / 8) (turnI ((spN l bit mask k)[t / 8]?.getD 0) mask t k)) := spStep_in ht (by omega)
      obtain ⟨g, cp, rfl, hbg, hrow⟩ := own_some hown1 (hlk.trans hl) (by omega)
      have hb8 := spN_b8 hsl.b8 bit mask k
      have ht8 : t / 8 < n := by omega
      have hcell := hrow.cellAt (t / 8) (by omega)
      have hcell' : (cells (spN l bit mask k))[t / 8]? = some (.int .u8 ((spN l bit mask k)[t / 8]?.getD 0)) := by simp [cells, show t / 8 < (spN l bit mask k).length by omega]
      rw [hcell'] at hcell
      have hfz := hrow.frozenAt (t / 8)
      have hst := (hrow.stored (t / 8) (.int .u8 (turnI ((spN l bit mask k)[t / 8]?.getD 0) mask t k)))
      rw [cells_set] at hst
      have hbl : spN l bit mask (k + 1) = (spN l bit mask k).set (t / 8) (turnI ((spN l bit mask k)[t / 8]?.getD 0) mask t k) := HS.out.trans HQ.out
      have HR : Hid (Own (wr.setCell ⟨g, t / 8, none⟩ (.int .u8 (turnI ((spN l bit mask k)[t / 8]?.getD 0) mask t k))) w.heap.size (.slice (some ⟨g, 0, none⟩) n cp) (spN l bit mask (k + 1)) ∧ Below w.heap.size w (wr.setCell ⟨g, t / 8, none⟩ (.int .u8 (turnI ((spN l bit mask k)[t / 8]?.getD 0) mask t k)))) := by
        refine ⟨⟨?_, spN_b8 hsl.b8 bit mask (k + 1)⟩, hb1.setCell hbg _⟩
        rw [spN_len, hl, hbl]; exact hst.1
      generalize (spN l bit mask k)[t / 8]?.getD 0 = x at *
      clear hst hbl HS HQ hcell' hown1 hrow hlk hb8 hown hb
      have q0 : (0 : Int) ≤ (t : Int) := by omega
      have q1 : ((t : Int) : Int) < 8 * (n : Int) := by omega
      clear hin hin2 h1 h2
      obtain ⟨q, r, hdv, hmv, hr, hq⟩ : ∃ q r : Nat, (t : Int) / 8 = (q : Int) ∧ (t : Int) % 8 = (r : Int) ∧ r = t % 8 ∧ q = t / 8 := ⟨t / 8, t % 8, by omega, by omega, rfl, rfl⟩
      rw [← hq] at hcell hfz HR
      have q2 : (0 : Int) ≤ (q : Int) := by omega
      have q3 : (q : Int) < (n : Int) := by omega
      have q4 : (r : Int) < 8 := by omega
      have q5 : (0 : Int) ≤ (r : Int) := by omega
      have q6 : r < 8 := by omega
      have HH : Hid (r = t % 8) := hr
      clear hr hq ht8
      obtain ⟨sh, hsh, hsh8⟩ : ∃ sh : Nat, 7 - (r : Int) = (sh : Int) ∧ Hid (sh = 7 - t % 8) := ⟨7 - r, by omega, by show _ = _; rw [HH.out]⟩
      have f0 : IntKind.i64.wrap (q : Int) = (q : Int) := wrap_small _ (by omega) (by omega)
      have f1 : (t : Int).tdiv 8 = (q : Int) := by rw [Int.tdiv_eq_ediv_of_nonneg (by omega)]; exact hdv
      have f2 : (t : Int).tmod 8 = (r : Int) := by rw [Int.tmod_eq_emod_of_nonneg (by omega)]; exact hmv
      have f3 : IntKind.i64.wrap (sh : Int) = (sh : Int) := wrap_small _ (by omega) (by omega)
      have q7 : (0 : Int) ≤ (sh : Int) := by omega
      have q8 : (sh : Int) < 8 := by omega
      go_wp2_with fail
      have HT : Hid (turnI x mask t k = bits .xor .u8 x (IntKind.u8.wrap (bits .and .u8 (mask / 2 ^ (15 - k) % 256) 1 * 2 ^ sh))) := by
        show _ = _
        unfold turnI; rw [hsh8.out]
      go_region
      go_wp2
      go_roundw
      case rel => exact ⟨k + 1, by omega, by go_num, by have := HR.out.1; rw [HT.out] at this; exact ⟨this.1.drew, this.2⟩, by have := HR.out.2; rw [HT.out] at this; exact this.drew⟩
      case measure => simp [intOf]; omega
    · obtain rfl : k = 16 := by omega
      go_wp2
      go_ret
      exact ⟨_, rfl, hown1, hb1⟩
end Go.Proofs.Ytjdbjmfkheffdaa.B
end
section
namespace Go.Proofs.Ytjdbjmfkheffdaa
open Go.RowKit
set_option linter.unusedVariables false
set_option maxRecDepth 20000

theorem Bx.made1 (w : World) (o : Obj) (x : Pk) (d : Value) : Bx ((w.alloc o).alloc (.cells #[.int .i64 x.k, .int .i64 x.f, .int .i64 x.t, .int .i64 x.i, .int .i64 x.l, .int .i64 x.p, .int .i64 x.s, .bool x.fl, d] 26)) (w.heap.size + 1) x d := by
  have := Bx.made (w.alloc o) x d
  rw [show (w.alloc o).heap.size = w.heap.size + 1 by simp] at this
  exact this
set_option maxHeartbeats 1000000 in
theorem over_no (w : World) (y : Pk) (a : Option Addr) (n cap : Nat) (bit mask : Int) (hsl : Sl w a n cap y.z) (hr : y.right = true) (hm0 : 0 ≤ mask) (hm1 : mask < 65536) (hw : wireB y bit mask = false) :
    Calls Try.prog 38 #[y.val (.slice a n cap), .int .i64 bit, .int .u16 mask] w fun e w' => e = .returned (.tuple #[zeroPk.val (.slice none 0 0), .int .i64 2]) ∧ Below w.heap.size w w' := by
  have HU : Hid (unpackI (B.spoilI (B.sealI (packI y)) bit mask) = none) := wire_no hm0 hm1 hw
  have HR : Hid (y.right = true) := hr
  have hz := ((Pk.right_iff y).1 hr).z
  obtain ⟨nb, hnb⟩ : ∃ nb : Nat, (B.sealI (packI y)).length = nb := ⟨_, rfl⟩
  have HSL : Hid ((B.sealI (packI y)).length = nb) := hnb
  have HPL : Hid ((B.spoilI (B.sealI (packI y)) bit mask).length = nb) := by show _ = _; rw [B.spoilI_len]; exact hnb
  have HNB : Hid (nb ≤ 140737488351300) := by show _ ≤ _; rw [sealI_len, packI_len] at hnb; omega
  have HM : Hid (0 ≤ mask ∧ mask < 65536) := ⟨hm0, hm1⟩
  clear hr hw hz hnb hm0 hm1
  unfold Pk.val
  go_enter Try.func38, Try.ntmps38
  go_wp2_with (first
    | (go_at_call 57; refine (pack_yes y a n cap _ (hsl.below (ba (ba (Below.refl _ _)))) HR.out).mono ?_; rintro e w2 ⟨v2, rfl, ho2, hb2⟩; obtain ⟨a2, cap2, rfl, hs2⟩ := ho2.sl' HSL.out; clear ho2)
    | (go_at_call 59; refine (B.spoil_any a2 _ nb cap2 bit mask _ hs2 HNB.out HM.out.1 HM.out.2).mono ?_; rintro e w3 ⟨v3, rfl, ho3, hb3⟩; obtain ⟨a3, cap3, rfl, hs3⟩ := ho3.sl' HPL.out; clear ho3)
    | (go_at_call 58; refine (unpack_no a3 _ nb cap3 _ hs3 HNB.out HU.out).mono ?_; rintro e w4 ⟨rfl, hb4⟩; have bx4 := (Bx.made1 w _ zeroPk (.slice none 0 0)).next (next (next hb2 hb3) hb4); obtain ⟨q0, q1, q2, q3, q4, q5, q6, q7, q8, qf, ql⟩ := bx4; simp only [zeroPk] at q0 q1 q2 q3 q4 q5 q6 q7 q8))
  refine bodyPost_ret (v := .tuple #[zeroPk.val (.slice none 0 0), .int .i64 2]) (by simp [results, Try.results38, go_sem, zeroPk, *]) rfl ⟨rfl, ?_⟩
  exact far9 (g := w.heap.size + 1) (y := zeroPk) (v := .slice none 0 0) (W := w4) (P := fun V => Below w.heap.size w V) (fun V o u h => h.setCell (by simp) u) (next (next (next (ba (ba (Below.refl _ _))) hb2) hb3) hb4)
set_option maxHeartbeats 1000000 in
theorem over_yes (w : World) (y : Pk) (a : Option Addr) (n cap : Nat) (bit mask : Int) (hsl : Sl w a n cap y.z) (hz64 : R64 y.z) (hr : y.right = true) (hm0 : 0 ≤ mask) (hm1 : mask < 65536) (hw : wireB y bit mask = true) :
    Calls Try.prog 38 #[y.val (.slice a n cap), .int .i64 bit, .int .u16 mask] w fun e w' => ∃ a' m cap', e = .returned (.tuple #[y.val (.slice a' m cap'), .int .i64 0]) ∧ Sl w' a' m cap' y.z ∧ (∀ ad : Addr, a' = some ad → w.heap.size ≤ ad.block) ∧ Below w.heap.size w w' := by
  have HU : Hid (unpackI (B.spoilI (B.sealI (packI y)) bit mask) = some y) := wire_yes hr hz64 hw
  have HR : Hid (y.right = true) := hr
  have hz := ((Pk.right_iff y).1 hr).z
  obtain ⟨nb, hnb⟩ : ∃ nb : Nat, (B.sealI (packI y)).length = nb := ⟨_, rfl⟩
  have HSL : Hid ((B.sealI (packI y)).length = nb) := hnb
  have HPL : Hid ((B.spoilI (B.sealI (packI y)) bit mask).length = nb) := by show _ = _; rw [B.spoilI_len]; exact hnb
  have HNB : Hid (nb ≤ 140737488351300) := by show _ ≤ _; rw [sealI_len, packI_len] at hnb; omega
  have HM : Hid (0 ≤ mask ∧ mask < 65536) := ⟨hm0, hm1⟩
  clear hr hw hz hz64 hnb hm0 hm1
  unfold Pk.val
  go_enter Try.func38, Try.ntmps38
  go_wp2_with (first
    | (go_at_call 57; refine (pack_yes y a n cap _ (hsl.below (ba (ba (Below.refl _ _)))) HR.out).mono ?_; rintro e w2 ⟨v2, rfl, ho2, hb2⟩; obtain ⟨a2, cap2, rfl, hs2⟩ := ho2.sl' HSL.out; clear ho2)
    | (go_at_call 59; refine (B.spoil_any a2 _ nb cap2 bit mask _ hs2 HNB.out HM.out.1 HM.out.2).mono ?_; rintro e w3 ⟨v3, rfl, ho3, hb3⟩; obtain ⟨a3, cap3, rfl, hs3⟩ := ho3.sl' HPL.out; clear ho3)
    | (go_at_call 58; refine (unpack_yes a3 _ nb cap3 _ hs3 HNB.out y HU.out).mono ?_; rintro e w4 ⟨a4, n4, c4, rfl, hs4, lo4, hb4⟩; have bx4 := (Bx.made1 w _ zeroPk (.slice none 0 0)).next (next (next hb2 hb3) hb4); obtain ⟨q0, q1, q2, q3, q4, q5, q6, q7, q8, qf, ql⟩ := bx4; simp only [zeroPk] at q0 q1 q2 q3 q4 q5 q6 q7 q8))
  have hb3' := next (next (ba (ba (Below.refl w.heap.size w))) hb2) hb3
  have z3 : w.heap.size + 2 ≤ w3.heap.size := by have h1 := hb2.size; have h2 := hb3.size; simp at h1; omega
  refine bodyPost_ret (v := .tuple #[y.val (.slice a4 n4 c4), .int .i64 0]) (by simp [results, Try.results38, go_sem, *]) rfl ⟨a4, n4, c4, rfl, ?_, ?_, ?_⟩
  · exact far9 (g := w.heap.size + 1) (y := y) (v := .slice a4 n4 c4) (W := w4) (P := fun V => Sl V a4 n4 c4 y.z) (fun V o u h => h.far (fun ad e => by have := lo4 ad e; simp only; omega)) hs4
  · intro ad e
    have := lo4 ad e
    omega
  · exact far9 (g := w.heap.size + 1) (y := y) (v := .slice a4 n4 c4) (W := w4) (P := fun V => Below w.heap.size w V) (fun V o u h => h.setCell (by simp) u) (next hb3' hb4)
end Go.Proofs.Ytjdbjmfkheffdaa
end
section
namespace Go.Proofs.Ytjdbjmfkheffdaa
open Go.RowKit
set_option linter.unusedVariables false
set_option maxRecDepth 20000

/-- A row without its first packet. -/
theorem PRow.tail {w : World} {M D : Nat → Prop} {x : Pk} {L : List Pk} {R : List (Pk × Value)} {a : Option Addr} {n cap : Nat} (h : PRow w M D (x :: L) R a n cap) :
    ∃ d R' b o, R = (x, d) :: R' ∧ a = some ⟨b, o, none⟩ ∧ M b ∧ 1 ≤ cap ∧ n = L.length + 1 ∧ ∀ o' c', ((cap = 1 ∧ o' = o ∧ c' = 0) ∨ (¬ cap = 1 ∧ o' = o + 9 ∧ c' = cap - 1)) → PRow w M D L R' (some ⟨b, o', none⟩) L.length c' := by
  have he := h.eq
  match R, he with
  | [], he1 => cases he1
  | (x', d) :: R', he1 =>
    simp at he1
    obtain ⟨rfl, he2⟩ := he1
    have hn := h.len
    simp at hn
    have hle := h.row.le
    rcases h.row.row with h0 | ⟨b, o, rfl, hm, hb, hc, hf⟩
    · omega
    refine ⟨d, R', b, o, rfl, rfl, hm, by omega, by omega, fun o' c' hoc => ?_⟩
    have hlen : R'.length = L.length := by rw [← he2]; simp
    have hmx := h.row.max
    refine ⟨he2, rfl, ⟨by rw [pflat_len, hlen], by omega, by omega, fun e => (by cases e), ?_⟩, fun r hr => h.dat r (List.mem_cons_of_mem _ hr), h.old, h.dj⟩
    by_cases h1 : cap = 1
    · exact .inl (by omega)
    · obtain ⟨_, rfl, rfl⟩ := hoc.resolve_left (fun h => h1 h.1)
      refine .inr ⟨b, o + 9, rfl, hm, hb, fun i u hu => ?_, fun i hi => ?_⟩
      · have := hc (9 + i) u (by rw [pflat_cons, List.getElem?_append_right (by simp [pcells])]; simpa [pcells] using hu)
        rw [Nat.add_assoc]; exact this
      · have := hf (9 + i) (by omega)
        rw [Nat.add_assoc]; exact this
section
variable (w : World) {gr gs N O I cap : Nat} {F : Nat → List Pk} {M : Nat → Nat → Prop} {D : Nat → Prop}
set_option maxHeartbeats 400000 in
theorem refTake_no (h : DF w gr gs N O I cap F M D) (i k : Int) (hi : i < 0 ∨ (N : Int) ≤ i) :
    Calls Try.prog 25 #[.pointer (some ⟨gr, 0, none⟩), .int .i64 i, .int .i64 k] w fun e w' => NoPacket w e w' := by
  have cs := h.cs
  have n1 := h.n1
  have lt := h.lt
  clear h
  by_cases h0 : i < 0
  · clear hi
    go_enter Try.func25, Try.ntmps25
    go_wp2
    refine bodyPost_ret (v := .tuple #[zeroPk.val (.slice none 0 0), .bool false]) (by simp [results, Try.results25, go_sem, zeroPk, *]) rfl ⟨rfl, ?_⟩
    exact ba (Below.refl _ _)
  · have h1 := hi.resolve_left h0
    clear hi
    go_enter Try.func25, Try.ntmps25
    go_wp2
    refine bodyPost_ret (v := .tuple #[zeroPk.val (.slice none 0 0), .bool false]) (by simp [results, Try.results25, go_sem, zeroPk, *]) rfl ⟨rfl, ?_⟩
    exact ba (Below.refl _ _)
set_option maxHeartbeats 400000 in
theorem refTake_empty (h : DF w gr gs N O I cap F M D) (i k : Nat) (hi : i < N) (hk : k < 2) (hF : F (4 * i + 2 + k) = []) :
    Calls Try.prog 25 #[.pointer (some ⟨gr, 0, none⟩), .int .i64 (i : Int), .int .i64 (k : Int)] w fun e w' => NoPacket w e w' := by
  obtain ⟨R, a, c, hc, hp⟩ := h.at (q := 4 * i + 2 + k) (by omega)
  rw [hF] at hc
  have cs := h.cs
  have n1 := h.n1
  have lt := h.lt
  have lt2 := h.net.lt
  have cp := h.cp.1
  have cp2 := h.cp.2
  unfold maxLen at cp2
  have i0 : (i : Int) < (N : Int) := by omega
  have hc' : w.cell? ⟨gs, i * 4 + 2 + k, none⟩ = some (.slice a 0 c) := by rw [show i * 4 + 2 + k = 4 * i + 2 + k by omega]; exact hc
  clear h hp hc hF
  go_enter Try.func25, Try.ntmps25
  go_wp2
  refine bodyPost_ret (v := .tuple #[zeroPk.val (.slice none 0 0), .bool false]) (by simp [results, Try.results25, go_sem, zeroPk, *]) rfl ⟨rfl, ?_⟩
  exact ba (Below.refl _ _)
set_option maxHeartbeats 800000 in
theorem refTake_some (h : DF w gr gs N O I cap F M D) (i k : Nat) (hi : i < N) (hk : k < 2) (x : Pk) (L : List Pk) (hF : F (4 * i + 2 + k) = x :: L) (hDl : ∀ k, D k → k < w.heap.size) :
    Calls Try.prog 25 #[.pointer (some ⟨gr, 0, none⟩), .int .i64 (i : Int), .int .i64 (k : Int)] w fun e w' => ∃ d, e = .returned (.tuple #[x.val d, .bool true]) ∧ Dat w' D x d ∧ DF w' gr gs N O I cap (upd F (4 * i + 2 + k) L) (upd M (4 * i + 2 + k) (M (4 * i + 2 + k))) D ∧ Keep (fun k' => k' = gs ∨ M (4 * i + 2 + k) k') w w' := by
  have hq : 4 * i + 2 + k < 4 * N := by omega
  obtain ⟨R, a, c, hc, hp⟩ := h.at hq
  have hp' := hp
  rw [hF] at hp'
  obtain ⟨d, R', b, o, rfl, rfl, hm, hc1, hn, htl⟩ := hp'.tail
  obtain ⟨x', d', b', o', hx', hR', hdat, hab, _, hbl, ⟨e0, e1, e2, e3, e4, e5, e6, e7, e8⟩, _⟩ := hp'.get (i := 0) (by omega)
  simp at hx' hR' hab
  obtain ⟨rfl, rfl⟩ := hab
  subst hx'
  obtain ⟨_, rfl⟩ := hR'
  rw [hF] at hc
  have cs := h.cs
  have n1 := h.n1
  have lt := h.lt
  have lt2 := h.net.lt
  have cp := h.cp.1
  have cp2 := h.cp.2
  have hmx := hp'.row.max
  have hle := hp'.row.le
  unfold maxLen at cp2 hmx
  have i0 : (i : Int) < (N : Int) := by omega
  have hfz := h.net.fz (i * 4 + 2 + k)
  have hc' : w.cell? ⟨gs, i * 4 + 2 + k, none⟩ = some (.slice (some ⟨b, o, none⟩) (L.length + 1) c) := by rw [show i * 4 + 2 + k = 4 * i + 2 + k by omega]; exact hc
  have hne : ((L.length : Int) + 1 == 0) = false := by simp; omega
  have hi0 : ¬ ((i : Int) < 0) := by omega
  have hi1 : ¬ (N ≤ i) := by omega
  have hH : Hid (DF w gr gs N O I cap F M D) := h
  have hTL : Hid (∀ (o' c' : Nat), c = 1 ∧ o' = o ∧ c' = 0 ∨ ¬c = 1 ∧ o' = o + 9 ∧ c' = c - 1 → PRow w (M (4 * i + 2 + k)) D L R' (some ⟨b, o', none⟩) L.length c') := htl
  have hle' : L.length + 1 ≤ c := by simpa using hle
  obtain ⟨ad, nd, cd, rfl, hsd, hnd, hdd⟩ := id hdat
  have HFL : Hid (F (4 * i + 2 + k) = x :: L) := hF
  have HDL : Hid (∀ k, D k → k < w.heap.size) := hDl
  clear h htl hp hp' hc hle hn hF
  simp only [Nat.zero_mul, Nat.add_zero] at e0 e1 e2 e3 e4 e5 e6 e7 e8
  obtain ⟨W2, hW2, hB2, bxp, bxr⟩ : ∃ W2, W2 = ((w.alloc (.cells #[.int .i64 0, .int .i64 0, .int .i64 0, .int .i64 0, .int .i64 0, .int .i64 0, .int .i64 0, .bool false, .slice none 0 0] 26)).alloc (.cells #[.int .i64 x.k, .int .i64 x.f, .int .i64 x.t, .int .i64 x.i, .int .i64 x.l, .int .i64 x.p, .int .i64 x.s, .bool x.fl, .slice ad nd cd] 26)).drew ∧ Below w.heap.size w W2 ∧ Bx W2 (w.heap.size + 1) x (.slice ad nd cd) ∧ Bx W2 w.heap.size zeroPk (.slice none 0 0) :=
    ⟨_, rfl, (ba (ba (Below.refl _ _))).drew, (Bx.made1 w _ x (.slice ad nd cd)).next ((Below.refl _ _).drew), ((Bx.made w zeroPk (.slice none 0 0)).next (ba (Below.refl _ _))).next ((Below.refl _ _).drew)⟩
  have cs1 := ((bcell hB2).1 gr 8 lt).trans cs
  have hcc1 := ((bcell hB2).1 gs (i * 4 + 2 + k) lt2).trans hc'
  have hfz1 := ((bcell hB2).2 gs (i * 4 + 2 + k) lt2).trans hfz
  have ltr := Nat.lt_of_lt_of_le lt hB2.size
  have lts := Nat.lt_of_lt_of_le lt2 hB2.size
  have HLL : Hid (L.length ≤ 1000) := by show _ ≤ _; have := hH.out.rm (4 * i + 2 + k) hq; have h2 := HFL.out; rw [h2] at this; simp at this; omega
  have HML : Hid (∀ q, q < 4 * N → ¬ M q w.heap.size) := fun q hq' hm' => Nat.lt_irrefl _ (hH.out.net.old hq' hm')
  have HND : Hid (¬ D gs) := hH.out.net.dgs
  have HDJ : Hid (∀ k', M (i * 4 + 2 + k) k' → ¬ D k') := by rw [show i * 4 + 2 + k = 4 * i + 2 + k by omega]; exact fun k' h => hH.out.net.nd hq h
  by_cases hone : c = 1
  · go_enter Try.func25, Try.ntmps25
    go_upto_region 4 with fail
    refine wp_region_orders 21 rfl (by kernel_rfl) ?_
    rw [← hW2]
    clear hW2
    have uc := @Up.cell2
    have uf := @Up.frozen2
    refine any_take 0 (.pointer (some ⟨gr, 0, none⟩)) rfl (by kernel_rfl) (by kernel_rfl) (by kernel_rfl) (fun _ _ _ h => h) (by kernel_rfl) (fun w => by go_simp) ?_
    simp only [Act.put, List.setIfInBounds_toArray, List.set_cons_zero, List.set_cons_succ]
    refine any_take 1 (.pointer (some ⟨gr, 0, none⟩)) rfl (by kernel_rfl) (by kernel_rfl) (by kernel_rfl) (fun _ _ _ h => h) (by kernel_rfl) (fun w => by go_simp) ?_
    simp only [Act.put, List.setIfInBounds_toArray, List.set_cons_zero, List.set_cons_succ]
    refine any_take 2 (.pointer (some ⟨gr, 8, none⟩)) rfl (by kernel_rfl) (by kernel_rfl) (by kernel_rfl) (fun _ _ _ h => h) (by kernel_rfl) (fun w => by go_simp) ?_
    simp only [Act.put, List.setIfInBounds_toArray, List.set_cons_zero, List.set_cons_succ]
    refine any_take 4 (.int .i64 (i : Int)) rfl (by kernel_rfl) (by kernel_rfl) (by kernel_rfl) (fun _ _ _ h => h) (by kernel_rfl) (fun w => by go_simp) ?_
    simp only [Act.put, List.setIfInBounds_toArray, List.set_cons_zero, List.set_cons_succ]
    refine any_take 5 (.int .i64 (k : Int)) rfl (by kernel_rfl) (by kernel_rfl) (by kernel_rfl) (fun _ _ _ h => h) (by kernel_rfl) (fun w => by go_simp) ?_
    simp only [Act.put, List.setIfInBounds_toArray, List.set_cons_zero, List.set_cons_succ]
    refine any_take 6 (.pointer (some ⟨gr, 0, none⟩)) rfl (by kernel_rfl) (by kernel_rfl) (by kernel_rfl) (fun _ _ _ h => h) (by kernel_rfl) (fun w => by go_simp) ?_
    simp only [Act.put, List.setIfInBounds_toArray, List.set_cons_zero, List.set_cons_succ]
    refine any_take 7 (.pointer (some ⟨gr, 0, none⟩)) rfl (by kernel_rfl) (by kernel_rfl) (by kernel_rfl) (fun _ _ _ h => h) (by kernel_rfl) (fun w => by go_simp) ?_
    simp only [Act.put, List.setIfInBounds_toArray, List.set_cons_zero, List.set_cons_succ]
    refine any_take 8 (.pointer (some ⟨gr, 8, none⟩)) rfl (by kernel_rfl) (by kernel_rfl) (by kernel_rfl) (fun _ _ _ h => h) (by kernel_rfl) (fun w => by go_simp) ?_
    simp only [Act.put, List.setIfInBounds_toArray, List.set_cons_zero, List.set_cons_succ]
    refine any_take 10 (.int .i64 (i : Int)) rfl (by kernel_rfl) (by kernel_rfl) (by kernel_rfl) (fun _ _ _ h => h) (by kernel_rfl) (fun w => by go_simp) ?_
    simp only [Act.put, List.setIfInBounds_toArray, List.set_cons_zero, List.set_cons_succ]
    refine any_take 11 (.int .i64 (k : Int)) rfl (by kernel_rfl) (by kernel_rfl) (by kernel_rfl) (fun _ _ _ h => h) (by kernel_rfl) (fun w => by go_simp) ?_
    simp only [Act.put, List.setIfInBounds_toArray, List.set_cons_zero, List.set_cons_succ]
    refine any_mildx [20] ?_
    refine mildy_take (v := ?v1) [20] 3 rfl (by kernel_rfl) (by kernel_rfl) (by kernel_rfl) (by kernel_rfl) (by kernel_rfl) (fun _ _ _ h => h) (by kernel_rfl) (fun Wu K hK => ?hy1) ?go1
    case hy1 =>
      go_big_quiet_op
      simp only [Act.put, List.setIfInBounds_toArray, List.set_cons_zero, List.set_cons_succ] at hK
      exact hK
    simp only [Act.put, List.setIfInBounds_toArray, List.set_cons_zero, List.set_cons_succ]
    refine mildy_take (v := ?v2) [20] 9 rfl (by kernel_rfl) (by kernel_rfl) (by kernel_rfl) (by kernel_rfl) (by kernel_rfl) (fun _ _ _ h => h) (by kernel_rfl) (fun Wu K hK => ?hy2) ?go2
    case hy2 =>
      go_big_quiet_op
      simp only [Act.put, List.setIfInBounds_toArray, List.set_cons_zero, List.set_cons_succ] at hK
      exact hK
    simp only [Act.put, List.setIfInBounds_toArray, List.set_cons_zero, List.set_cons_succ]
    refine mildy_take (v := ?v3) [20] 12 rfl (by kernel_rfl) (by kernel_rfl) (by kernel_rfl) (by kernel_rfl) (by kernel_rfl) (fun _ _ _ h => h) (by kernel_rfl) (fun Wu K hK => ?hy3) ?go3
    case hy3 =>
      go_big_quiet_op
      simp only [Act.put, List.setIfInBounds_toArray, List.set_cons_zero, List.set_cons_succ] at hK
      exact hK
    simp only [Act.put, List.setIfInBounds_toArray, List.set_cons_zero, List.set_cons_succ]
    refine mildy_take (v := ?v4) [20] 13 rfl (by kernel_rfl) (by kernel_rfl) (by kernel_rfl) (by kernel_rfl) (by kernel_rfl) (fun _ _ _ h => h) (by kernel_rfl) (fun Wu K hK => ?hy4) ?go4
    case hy4 =>
      go_big_quiet_op
      simp only [Act.put, List.setIfInBounds_toArray, List.set_cons_zero, List.set_cons_succ] at hK
      exact hK
    simp only [Act.put, List.setIfInBounds_toArray, List.set_cons_zero, List.set_cons_succ]
    refine mildy_take (v := ?v5) [20] 14 rfl (by kernel_rfl) (by kernel_rfl) (by kernel_rfl) (by kernel_rfl) (by kernel_rfl) (fun _ _ _ h => h) (by kernel_rfl) (fun Wu K hK => ?hy5) ?go5
    case hy5 =>
      go_big_quiet_op
      simp only [Act.put, List.setIfInBounds_toArray, List.set_cons_zero, List.set_cons_succ] at hK
      exact hK
    simp only [Act.put, List.setIfInBounds_toArray, List.set_cons_zero, List.set_cons_succ]
    refine mildy_take (v := ?v6) [20] 15 rfl (by kernel_rfl) (by kernel_rfl) (by kernel_rfl) (by kernel_rfl) (by kernel_rfl) (fun _ _ _ h => h) (by kernel_rfl) (fun Wu K hK => ?hy6) ?go6
    case hy6 =>
      go_big_quiet_op
      simp only [Act.put, List.setIfInBounds_toArray, List.set_cons_zero, List.set_cons_succ] at hK
      exact hK
    simp only [Act.put, List.setIfInBounds_toArray, List.set_cons_zero, List.set_cons_succ]
    refine mildy_take (v := ?v7) [20] 16 rfl (by kernel_rfl) (by kernel_rfl) (by kernel_rfl) (by kernel_rfl) (by kernel_rfl) (fun _ _ _ h => h) (by kernel_rfl) (fun Wu K hK => ?hy7) ?go7
    case hy7 =>
      go_big_quiet_op
      simp only [Act.put, List.setIfInBounds_toArray, List.set_cons_zero, List.set_cons_succ] at hK
      exact hK
    simp only [Act.put, List.setIfInBounds_toArray, List.set_cons_zero, List.set_cons_succ]
    refine mildy_take (v := ?v8) [18, 19, 20] 17 rfl (by kernel_rfl) (by kernel_rfl) (by kernel_rfl) (by kernel_rfl) (by kernel_rfl) (fun _ _ _ h => h) (by kernel_rfl) (fun Wu K hK => ?hy8) ?go8
    case hy8 =>
      go_big_quiet_op
      simp only [Act.put, List.setIfInBounds_toArray, List.set_cons_zero, List.set_cons_succ] at hK
      exact hK
    simp only [Act.put, List.setIfInBounds_toArray, List.set_cons_zero, List.set_cons_succ]
    refine mildy_take (v := ?v9) [19, 20] 18 rfl (by kernel_rfl) (by kernel_rfl) (by kernel_rfl) (by kernel_rfl) (by kernel_rfl) (fun _ _ _ h => h) (by kernel_rfl) (fun Wu K hK => ?hy9) ?go9
    case hy9 =>
      go_big_quiet_op
      simp only [Act.put, List.setIfInBounds_toArray, List.set_cons_zero, List.set_cons_succ] at hK
      exact hK
    simp only [Act.put, List.setIfInBounds_toArray, List.set_cons_zero, List.set_cons_succ]
    refine mildy_take (v := ?v10) [20] 19 rfl (by kernel_rfl) (by kernel_rfl) (by kernel_rfl) (by kernel_rfl) (by kernel_rfl) (fun _ _ _ h => h) (by kernel_rfl) (fun Wu K hK => ?hy10) ?go10
    case hy10 =>
      go_big_quiet_op
      simp only [Act.put, List.setIfInBounds_toArray, List.set_cons_zero, List.set_cons_succ] at hK
      exact hK
    simp only [Act.put, List.setIfInBounds_toArray, List.set_cons_zero, List.set_cons_succ]
    intro W
    clear uc uf
    have hB3 := next hB2 W.2
    have bp3 := bxp.next W.2
    have br3 := bxr.next W.2
    have hc3 := ((bcell hB3).1 gs (i * 4 + 2 + k) lt2).trans hc'
    have hf3 := ((bcell hB3).2 gs (i * 4 + 2 + k) lt2).trans hfz
    clear cs1 hcc1 hfz1 ltr lts bxp bxr
    generalize W.1 = wa at *
    refine upx_write 20 (by kernel_rfl) (by kernel_rfl) rfl ?_
    go_wp2
    refine then_n ?_
    refine any_done (by kernel_rfl) ?_
    have hdw := hH.out.below hB3
    have hset := hdw.net.set (q := 4 * i + 2 + k) (N := M (4 * i + 2 + k)) hq (Keep.refl _ _) ((hTL.out o 0 (.inl ⟨hone, rfl, rfl⟩)).below hB3) (fun k h => .inl h)
    rw [show 4 * i + 2 + k = i * 4 + 2 + k by omega] at hset
    obtain ⟨hn5, hk5⟩ := hset
    have hD5 : DF (wa.setCell ⟨gs, i * 4 + 2 + k, none⟩ (.slice (some ⟨b, o, none⟩) L.length 0)) gr gs N O I cap (upd F (i * 4 + 2 + k) L) (upd M (i * 4 + 2 + k) (M (i * 4 + 2 + k))) D :=
      ⟨(cell_far gr 0 hdw.ne).trans hdw.c0, (cell_far gr 5 hdw.ne).trans hdw.c5, (cell_far gr 6 hdw.ne).trans hdw.c6, (cell_far gr 8 hdw.ne).trans hdw.cs, hn5, by simpa using hdw.lt, hdw.ne, fun q hq' => by
        by_cases e : q = i * 4 + 2 + k
        · subst e; rw [upd_same]; exact hdw.nm _ hq'
        · rw [upd_other _ _ e]; exact hdw.nm q hq', hdw.nd, hdw.n1, hdw.cp, fun q hq' => by
        by_cases e : q = i * 4 + 2 + k
        · subst e; rw [upd_same]; have := HLL.out; omega
        · rw [upd_other _ _ e]; exact hdw.rm q hq', hdw.o1⟩
    have bp5 := bp3.far (p := ⟨gs, i * 4 + 2 + k, none⟩) (u := .slice (some ⟨b, o, none⟩) L.length 0) (by simp only; omega)
    have br5 := br3.far (p := ⟨gs, i * 4 + 2 + k, none⟩) (u := .slice (some ⟨b, o, none⟩) L.length 0) (by simp only; omega)
    have kk5 : Keep (fun k' => k' = gs ∨ M (i * 4 + 2 + k) k') w (wa.setCell ⟨gs, i * 4 + 2 + k, none⟩ (.slice (some ⟨b, o, none⟩) L.length 0)) := Keep.pre hB3 hk5
    have hd5 : Dat (wa.setCell ⟨gs, i * 4 + 2 + k, none⟩ (.slice (some ⟨b, o, none⟩) L.length 0)) D x (.slice ad nd cd) := hdat.keep kk5 (fun k' hk' h => h.elim (fun e => HND.out (e ▸ hk')) (fun h => HDJ.out k' h hk'))
    clear hdw hn5 hk5 hB3 bp3 br3 hc3 hf3
    generalize wa.setCell ⟨gs, i * 4 + 2 + k, none⟩ (.slice (some ⟨b, o, none⟩) L.length 0) = w5 at *
    obtain ⟨q0, q1, q2, q3, q4, q5, q6, q7, q8, qf, ql⟩ := id bp5
    obtain ⟨r0, r1, r2, r3, r4, r5, r6, r7, r8, rf, rl⟩ := id br5
    simp only [zeroPk] at r0 r1 r2 r3 r4 r5 r6 r7 r8
    go_wp2
    have hkk : Keep (fun k => k = w.heap.size) w5 _ := far9 (g := w.heap.size) (y := x) (v := .slice ad nd cd) (W := w5) (P := fun V => Keep (fun k => k = w.heap.size) w5 V) (fun V o u h => h.setCell (.inl rfl) u) (Keep.refl _ _)
    refine bodyPost_ret (v := .tuple #[x.val (.slice ad nd cd), .bool true]) (by simp [results, Try.results25, go_sem, *]) rfl ⟨_, rfl, ?_, ?_, ?_⟩
    · exact hd5.keep hkk (fun k' hk' e => by subst e; exact Nat.lt_irrefl _ (HDL.out _ hk'))
    · rw [show 4 * i + 2 + k = i * 4 + 2 + k by omega]
      exact hD5.keep hkk (fun e => by omega) (fun e => by omega) (fun q k' hq' hk' e => by
        subst e
        by_cases e : q = i * 4 + 2 + k
        · subst e; rw [upd_same] at hk'; exact HML.out _ hq' hk'
        · rw [upd_other _ _ e] at hk'; exact HML.out q hq' hk') (fun k' hk' e => by subst e; exact Nat.lt_irrefl _ (HDL.out _ hk'))
    · rw [show 4 * i + 2 + k = i * 4 + 2 + k by omega]
      exact kk5.trans hkk (fun k' hk' e => by omega)
  · go_enter Try.func25, Try.ntmps25
    go_upto_region 4 with fail
    refine wp_region_orders 21 rfl (by kernel_rfl) ?_
    rw [← hW2]
    clear hW2
    have uc := @Up.cell2
    have uf := @Up.frozen2
    refine any_take 0 (.pointer (some ⟨gr, 0, none⟩)) rfl (by kernel_rfl) (by kernel_rfl) (by kernel_rfl) (fun _ _ _ h => h) (by kernel_rfl) (fun w => by go_simp) ?_
    simp only [Act.put, List.setIfInBounds_toArray, List.set_cons_zero, List.set_cons_succ]
    refine any_take 1 (.pointer (some ⟨gr, 0, none⟩)) rfl (by kernel_rfl) (by kernel_rfl) (by kernel_rfl) (fun _ _ _ h => h) (by kernel_rfl) (fun w => by go_simp) ?_
    simp only [Act.put, List.setIfInBounds_toArray, List.set_cons_zero, List.set_cons_succ]
    refine any_take 2 (.pointer (some ⟨gr, 8, none⟩)) rfl (by kernel_rfl) (by kernel_rfl) (by kernel_rfl) (fun _ _ _ h => h) (by kernel_rfl) (fun w => by go_simp) ?_
    simp only [Act.put, List.setIfInBounds_toArray, List.set_cons_zero, List.set_cons_succ]
    refine any_take 4 (.int .i64 (i : Int)) rfl (by kernel_rfl) (by kernel_rfl) (by kernel_rfl) (fun _ _ _ h => h) (by kernel_rfl) (fun w => by go_simp) ?_
    simp only [Act.put, List.setIfInBounds_toArray, List.set_cons_zero, List.set_cons_succ]
    refine any_take 5 (.int .i64 (k : Int)) rfl (by kernel_rfl) (by kernel_rfl) (by kernel_rfl) (fun _ _ _ h => h) (by kernel_rfl) (fun w => by go_simp) ?_
    simp only [Act.put, List.setIfInBounds_toArray, List.set_cons_zero, List.set_cons_succ]
    refine any_take 6 (.pointer (some ⟨gr, 0, none⟩)) rfl (by kernel_rfl) (by kernel_rfl) (by kernel_rfl) (fun _ _ _ h => h) (by kernel_rfl) (fun w => by go_simp) ?_
    simp only [Act.put, List.setIfInBounds_toArray, List.set_cons_zero, List.set_cons_succ]
    refine any_take 7 (.pointer (some ⟨gr, 0, none⟩)) rfl (by kernel_rfl) (by kernel_rfl) (by kernel_rfl) (fun _ _ _ h => h) (by kernel_rfl) (fun w => by go_simp) ?_
    simp only [Act.put, List.setIfInBounds_toArray, List.set_cons_zero, List.set_cons_succ]
    refine any_take 8 (.pointer (some ⟨gr, 8, none⟩)) rfl (by kernel_rfl) (by kernel_rfl) (by kernel_rfl) (fun _ _ _ h => h) (by kernel_rfl) (fun w => by go_simp) ?_
    simp only [Act.put, List.setIfInBounds_toArray, List.set_cons_zero, List.set_cons_succ]
    refine any_take 10 (.int .i64 (i : Int)) rfl (by kernel_rfl) (by kernel_rfl) (by kernel_rfl) (fun _ _ _ h => h) (by kernel_rfl) (fun w => by go_simp) ?_
    simp only [Act.put, List.setIfInBounds_toArray, List.set_cons_zero, List.set_cons_succ]
    refine any_take 11 (.int .i64 (k : Int)) rfl (by kernel_rfl) (by kernel_rfl) (by kernel_rfl) (fun _ _ _ h => h) (by kernel_rfl) (fun w => by go_simp) ?_
    simp only [Act.put, List.setIfInBounds_toArray, List.set_cons_zero, List.set_cons_succ]
    refine any_mildx [20] ?_
    refine mildy_take (v := ?v11) [20] 3 rfl (by kernel_rfl) (by kernel_rfl) (by kernel_rfl) (by kernel_rfl) (by kernel_rfl) (fun _ _ _ h => h) (by kernel_rfl) (fun Wu K hK => ?hy11) ?go11
    case hy11 =>
      go_big_quiet_op
      simp only [Act.put, List.setIfInBounds_toArray, List.set_cons_zero, List.set_cons_succ] at hK
      exact hK
    simp only [Act.put, List.setIfInBounds_toArray, List.set_cons_zero, List.set_cons_succ]
    refine mildy_take (v := ?v12) [20] 9 rfl (by kernel_rfl) (by kernel_rfl) (by kernel_rfl) (by kernel_rfl) (by kernel_rfl) (fun _ _ _ h => h) (by kernel_rfl) (fun Wu K hK => ?hy12) ?go12
    case hy12 =>
      go_big_quiet_op
      simp only [Act.put, List.setIfInBounds_toArray, List.set_cons_zero, List.set_cons_succ] at hK
      exact hK
    simp only [Act.put, List.setIfInBounds_toArray, List.set_cons_zero, List.set_cons_succ]
    refine mildy_take (v := ?v13) [20] 12 rfl (by kernel_rfl) (by kernel_rfl) (by kernel_rfl) (by kernel_rfl) (by kernel_rfl) (fun _ _ _ h => h) (by kernel_rfl) (fun Wu K hK => ?hy13) ?go13
    case hy13 =>
      go_big_quiet_op
      simp only [Act.put, List.setIfInBounds_toArray, List.set_cons_zero, List.set_cons_succ] at hK
      exact hK
    simp only [Act.put, List.setIfInBounds_toArray, List.set_cons_zero, List.set_cons_succ]
    refine mildy_take (v := ?v14) [20] 13 rfl (by kernel_rfl) (by kernel_rfl) (by kernel_rfl) (by kernel_rfl) (by kernel_rfl) (fun _ _ _ h => h) (by kernel_rfl) (fun Wu K hK => ?hy14) ?go14
    case hy14 =>
      go_big_quiet_op
      simp only [Act.put, List.setIfInBounds_toArray, List.set_cons_zero, List.set_cons_succ] at hK
      exact hK
    simp only [Act.put, List.setIfInBounds_toArray, List.set_cons_zero, List.set_cons_succ]
    refine mildy_take (v := ?v15) [20] 14 rfl (by kernel_rfl) (by kernel_rfl) (by kernel_rfl) (by kernel_rfl) (by kernel_rfl) (fun _ _ _ h => h) (by kernel_rfl) (fun Wu K hK => ?hy15) ?go15
    case hy15 =>
      go_big_quiet_op
      simp only [Act.put, List.setIfInBounds_toArray, List.set_cons_zero, List.set_cons_succ] at hK
      exact hK
    simp only [Act.put, List.setIfInBounds_toArray, List.set_cons_zero, List.set_cons_succ]
    refine mildy_take (v := ?v16) [20] 15 rfl (by kernel_rfl) (by kernel_rfl) (by kernel_rfl) (by kernel_rfl) (by kernel_rfl) (fun _ _ _ h => h) (by kernel_rfl) (fun Wu K hK => ?hy16) ?go16
    case hy16 =>
      go_big_quiet_op
      simp only [Act.put, List.setIfInBounds_toArray, List.set_cons_zero, List.set_cons_succ] at hK
      exact hK
    simp only [Act.put, List.setIfInBounds_toArray, List.set_cons_zero, List.set_cons_succ]
    refine mildy_take (v := ?v17) [20] 16 rfl (by kernel_rfl) (by kernel_rfl) (by kernel_rfl) (by kernel_rfl) (by kernel_rfl) (fun _ _ _ h => h) (by kernel_rfl) (fun Wu K hK => ?hy17) ?go17
    case hy17 =>
      go_big_quiet_op
      simp only [Act.put, List.setIfInBounds_toArray, List.set_cons_zero, List.set_cons_succ] at hK
      exact hK
    simp only [Act.put, List.setIfInBounds_toArray, List.set_cons_zero, List.set_cons_succ]
    refine mildy_take (v := ?v18) [18, 19, 20] 17 rfl (by kernel_rfl) (by kernel_rfl) (by kernel_rfl) (by kernel_rfl) (by kernel_rfl) (fun _ _ _ h => h) (by kernel_rfl) (fun Wu K hK => ?hy18) ?go18
    case hy18 =>
      go_big_quiet_op
      simp only [Act.put, List.setIfInBounds_toArray, List.set_cons_zero, List.set_cons_succ] at hK
      exact hK
    simp only [Act.put, List.setIfInBounds_toArray, List.set_cons_zero, List.set_cons_succ]
    refine mildy_take (v := ?v19) [19, 20] 18 rfl (by kernel_rfl) (by kernel_rfl) (by kernel_rfl) (by kernel_rfl) (by kernel_rfl) (fun _ _ _ h => h) (by kernel_rfl) (fun Wu K hK => ?hy19) ?go19
    case hy19 =>
      go_big_quiet_op
      simp only [Act.put, List.setIfInBounds_toArray, List.set_cons_zero, List.set_cons_succ] at hK
      exact hK
    simp only [Act.put, List.setIfInBounds_toArray, List.set_cons_zero, List.set_cons_succ]
    refine mildy_take (v := ?v20) [20] 19 rfl (by kernel_rfl) (by kernel_rfl) (by kernel_rfl) (by kernel_rfl) (by kernel_rfl) (fun _ _ _ h => h) (by kernel_rfl) (fun Wu K hK => ?hy20) ?go20
    case hy20 =>
      go_big_quiet_op
      simp only [Act.put, List.setIfInBounds_toArray, List.set_cons_zero, List.set_cons_succ] at hK
      exact hK
    simp only [Act.put, List.setIfInBounds_toArray, List.set_cons_zero, List.set_cons_succ]
    intro W
    clear uc uf
    have hB3 := next hB2 W.2
    have bp3 := bxp.next W.2
    have br3 := bxr.next W.2
    have hc3 := ((bcell hB3).1 gs (i * 4 + 2 + k) lt2).trans hc'
    have hf3 := ((bcell hB3).2 gs (i * 4 + 2 + k) lt2).trans hfz
    clear cs1 hcc1 hfz1 ltr lts bxp bxr
    generalize W.1 = wa at *
    refine upx_write 20 (by kernel_rfl) (by kernel_rfl) rfl ?_
    go_wp2
    refine then_n ?_
    refine any_done (by kernel_rfl) ?_
    have hdw := hH.out.below hB3
    have hset := hdw.net.set (q := 4 * i + 2 + k) (N := M (4 * i + 2 + k)) hq (Keep.refl _ _) ((hTL.out (o + 9) (c - 1) (.inr ⟨hone, rfl, rfl⟩)).below hB3) (fun k h => .inl h)
    rw [show 4 * i + 2 + k = i * 4 + 2 + k by omega] at hset
    obtain ⟨hn5, hk5⟩ := hset
    have hD5 : DF (wa.setCell ⟨gs, i * 4 + 2 + k, none⟩ (.slice (some ⟨b, (o + 9), none⟩) L.length (c - 1))) gr gs N O I cap (upd F (i * 4 + 2 + k) L) (upd M (i * 4 + 2 + k) (M (i * 4 + 2 + k))) D :=
      ⟨(cell_far gr 0 hdw.ne).trans hdw.c0, (cell_far gr 5 hdw.ne).trans hdw.c5, (cell_far gr 6 hdw.ne).trans hdw.c6, (cell_far gr 8 hdw.ne).trans hdw.cs, hn5, by simpa using hdw.lt, hdw.ne, fun q hq' => by
        by_cases e : q = i * 4 + 2 + k
        · subst e; rw [upd_same]; exact hdw.nm _ hq'
        · rw [upd_other _ _ e]; exact hdw.nm q hq', hdw.nd, hdw.n1, hdw.cp, fun q hq' => by
        by_cases e : q = i * 4 + 2 + k
        · subst e; rw [upd_same]; have := HLL.out; omega
        · rw [upd_other _ _ e]; exact hdw.rm q hq', hdw.o1⟩
    have bp5 := bp3.far (p := ⟨gs, i * 4 + 2 + k, none⟩) (u := .slice (some ⟨b, (o + 9), none⟩) L.length (c - 1)) (by simp only; omega)
    have br5 := br3.far (p := ⟨gs, i * 4 + 2 + k, none⟩) (u := .slice (some ⟨b, (o + 9), none⟩) L.length (c - 1)) (by simp only; omega)
    have kk5 : Keep (fun k' => k' = gs ∨ M (i * 4 + 2 + k) k') w (wa.setCell ⟨gs, i * 4 + 2 + k, none⟩ (.slice (some ⟨b, (o + 9), none⟩) L.length (c - 1))) := Keep.pre hB3 hk5
    have hd5 : Dat (wa.setCell ⟨gs, i * 4 + 2 + k, none⟩ (.slice (some ⟨b, (o + 9), none⟩) L.length (c - 1))) D x (.slice ad nd cd) := hdat.keep kk5 (fun k' hk' h => h.elim (fun e => HND.out (e ▸ hk')) (fun h => HDJ.out k' h hk'))
    clear hdw hn5 hk5 hB3 bp3 br3 hc3 hf3
    generalize wa.setCell ⟨gs, i * 4 + 2 + k, none⟩ (.slice (some ⟨b, (o + 9), none⟩) L.length (c - 1)) = w5 at *
    obtain ⟨q0, q1, q2, q3, q4, q5, q6, q7, q8, qf, ql⟩ := id bp5
    obtain ⟨r0, r1, r2, r3, r4, r5, r6, r7, r8, rf, rl⟩ := id br5
    simp only [zeroPk] at r0 r1 r2 r3 r4 r5 r6 r7 r8
    go_wp2
    have hkk : Keep (fun k => k = w.heap.size) w5 _ := far9 (g := w.heap.size) (y := x) (v := .slice ad nd cd) (W := w5) (P := fun V => Keep (fun k => k = w.heap.size) w5 V) (fun V o u h => h.setCell (.inl rfl) u) (Keep.refl _ _)
    refine bodyPost_ret (v := .tuple #[x.val (.slice ad nd cd), .bool true]) (by simp [results, Try.results25, go_sem, *]) rfl ⟨_, rfl, ?_, ?_, ?_⟩
    · exact hd5.keep hkk (fun k' hk' e => by subst e; exact Nat.lt_irrefl _ (HDL.out _ hk'))
    · rw [show 4 * i + 2 + k = i * 4 + 2 + k by omega]
      exact hD5.keep hkk (fun e => by omega) (fun e => by omega) (fun q k' hq' hk' e => by
        subst e
        by_cases e : q = i * 4 + 2 + k
        · subst e; rw [upd_same] at hk'; exact HML.out _ hq' hk'
        · rw [upd_other _ _ e] at hk'; exact HML.out q hq' hk') (fun k' hk' e => by subst e; exact Nat.lt_irrefl _ (HDL.out _ hk'))
    · rw [show 4 * i + 2 + k = i * 4 + 2 + k by omega]
      exact kk5.trans hkk (fun k' hk' e => by omega)
end
end Go.Proofs.Ytjdbjmfkheffdaa
end
section
namespace Go.Proofs.Ytjdbjmfkheffdaa
open Go.RowKit
set_option linter.unusedVariables false
set_option maxRecDepth 20000

theorem lane_p (p q : Nat) (w : World) : (Instr.field 71 (.agg #[.pointer (some ⟨p, 0, none⟩), .pointer (some ⟨q, 0, none⟩)]) 0).run Try.prog w = .ok (.pointer (some ⟨p, 0, none⟩)) w := by kernel_rfl
section
variable (w : World) {gf nn : Nat} {out inn : Int} {F : Nat → List Pk} {B : Nat → Prop}
set_option maxHeartbeats 400000 in
theorem deliver_none (h : Fb w gf nn out inn F B) (a bit mask : Int) (ha : a < 0 ∨ ((laneL F (2 * nn)).length : Int) ≤ a) (h63 : a < 9223372036854775808) :
    Calls Try.prog 13 #[.pointer (some ⟨gf, 0, none⟩), .int .i64 a, .int .i64 bit, .int .u16 mask] w fun e w' => e = .returned (.int .i64 3) ∧ Below w.heap.size w w' := by
  obtain ⟨gl, go, cap, G, M, D, h⟩ := h
  have HA : Hid (a < 0 ∨ ((laneL F (2 * nn)).length : Int) ≤ a) := ha
  have H63 : Hid (a < 9223372036854775808) := h63
  clear ha h63
  go_enter Try.func13, Try.ntmps13
  go_wp2_with (go_at_call 36; refine (find_no _ h a HA.out H63.out).mono ?_; rintro e w1 ⟨⟨p, q, i, rfl⟩, hb1⟩)
  go_ret
  exact ⟨rfl, ba hb1⟩
set_option maxHeartbeats 400000 in
theorem deliver_form (h : Fb w gf nn out inn F B) (a bit mask : Int) (hm0 : 0 ≤ mask) (hm1 : mask < 65536) (q k : Nat) (x : Pk) (hq : q < 2 * nn) (hx : (F (pr q))[k]? = some x) (ha : a = ((laneL F q).length : Int) + k) (hw : wireB x bit mask = false) :
    Calls Try.prog 13 #[.pointer (some ⟨gf, 0, none⟩), .int .i64 a, .int .i64 bit, .int .u16 mask] w fun e w' => e = .returned (.int .i64 2) ∧ Below w.heap.size w w' := by
  obtain ⟨gl, go, cap, G, M, D, h⟩ := h
  have hk : k < (F (pr q)).length := (List.getElem?_eq_some_iff.1 hx).1
  have hpl : pr q < 4 * nn := by have := pr_lt hq; omega
  have HG : Hid (Good nn x) := h.good _ hpl x (List.mem_of_getElem? hx)
  have HA : Hid (a = ((laneL F q).length : Int) + k) := ha
  have HX : Hid ((F (pr q))[k]? = some x) := hx
  have HM : Hid (0 ≤ mask ∧ mask < 65536) := ⟨hm0, hm1⟩
  have HW : Hid (wireB x bit mask = false) := hw
  clear ha hx hm0 hm1 hw
  have hqu := h.many.qu (pr q) hpl
  have hfd := lane_p
  go_enter Try.func13, Try.ntmps13
  go_wp2_with (first
    | (go_at_call 36; refine (find_yes _ h hq hk a HA.out).mono ?_; rintro e w1 ⟨rfl, hb1⟩; unfold laneV)
    | (go_at_call 37; refine (P.get_some _ (hqu.below (next hb1 (ba (Below.refl _ _)))) k x HX.out _ rfl).mono ?_; rintro e w2 ⟨d, rfl, hb2, ho2⟩; obtain ⟨a2, c2, rfl, hs2⟩ := ho2.sl' rfl)
    | (go_at_call 38; refine (over_no _ x a2 x.z.length c2 bit mask (hs2.below (ba (Below.refl _ _))) HG.out.r HM.out.1 HM.out.2 HW.out).mono ?_; rintro e w3 ⟨rfl, hb3⟩))
  go_ret
  exact ⟨rfl, ba (next (next (next (next hb1 (ba (Below.refl _ _))) hb2) (ba (Below.refl _ _))) hb3)⟩
set_option maxHeartbeats 1000000 in
theorem deliver_full (h : Fb w gf nn out inn F B) (a bit mask : Int) (hm0 : 0 ≤ mask) (hm1 : mask < 65536) (q k : Nat) (x : Pk) (hq : q < 2 * nn) (hx : (F (pr q))[k]? = some x) (ha : a = ((laneL F q).length : Int) + k) (hw : wireB x bit mask = true) (hl : ((F (pr (toQ x) + 2)).length : Int) = Rm out inn (pr (toQ x) + 2)) :
    Calls Try.prog 13 #[.pointer (some ⟨gf, 0, none⟩), .int .i64 a, .int .i64 bit, .int .u16 mask] w fun e w' => e = .returned (.int .i64 5) ∧ Below w.heap.size w w' := by
  obtain ⟨gl, go, cap, G, M, D, h⟩ := h
  have hk : k < (F (pr q)).length := (List.getElem?_eq_some_iff.1 hx).1
  have hpl : pr q < 4 * nn := by have := pr_lt hq; omega
  have hg : Good nn x := h.good _ hpl x (List.mem_of_getElem? hx)
  have HG : Hid (Good nn x) := hg
  have HA : Hid (a = ((laneL F q).length : Int) + k) := ha
  have HX : Hid ((F (pr q))[k]? = some x) := hx
  have HM : Hid (0 ≤ mask ∧ mask < 65536) := ⟨hm0, hm1⟩
  have HW : Hid (wireB x bit mask = true) := hw
  have HT : Hid (x.t = (x.t.toNat : Int)) := hg.tq.2.1.symm
  have HTN : Hid (x.t.toNat < nn) := hg.tq.2.2
  have hin := h.many.qu (pr (toQ x) + 2) (pr_lt hg.tq.1)
  have HO : Hid (0 ≤ Rm out inn (pr (toQ x) + 2) ∧ Rm out inn (pr (toQ x) + 2) ≤ 1000) := by
    have i0 := h.i0; have i1 := h.i1; have o0 := h.o0; have o1 := h.o1
    show _ ∧ _
    unfold Rm; repeat (first | omega | split)
  have HL : Hid (((F (pr (toQ x) + 2)).length : Int) = Rm out inn (pr (toQ x) + 2)) := hl
  clear ha hx hm0 hm1 hw hg hl
  unfold toQ at hin HO HL
  have hqu := h.many.qu (pr q) hpl
  have hfd := lane_p
  go_enter Try.func13, Try.ntmps13
  go_wp2_with (first
    | (go_at_call 36; refine (find_yes _ h hq hk a HA.out).mono ?_; rintro e w1 ⟨rfl, hb1⟩; unfold laneV)
    | (go_at_call 37; refine (P.get_some _ (hqu.below (next hb1 (ba (Below.refl _ _)))) k x HX.out _ rfl).mono ?_; rintro e w2 ⟨d, rfl, hb2, ho2⟩; obtain ⟨a2, c2, rfl, hs2⟩ := ho2.sl' rfl)
    | (go_at_call 38; refine (over_yes _ x a2 x.z.length c2 bit mask (hs2.below (ba (Below.refl _ _))) HG.out.z HG.out.r HM.out.1 HM.out.2 HW.out).mono ?_; rintro e w3 ⟨a3, n3, c3, rfl, hs3, lo3, hb3⟩))
  have hB0 : Below w.heap.size w (w3.alloc (.cells #[.int .i64 x.k, .int .i64 x.f, .int .i64 x.t, .int .i64 x.i, .int .i64 x.l, .int .i64 x.p, .int .i64 x.s, .bool x.fl, .slice a3 n3 c3] 26)) := ba (next (next (next (next hb1 (ba (Below.refl _ _))) hb2) (ba (Below.refl _ _))) hb3)
  have bxd := Bx.made w3 x (.slice a3 n3 c3)
  have hbl := ba (o := .cells #[.int .i64 x.k, .int .i64 x.f, .int .i64 x.t, .int .i64 x.i, .int .i64 x.l, .int .i64 x.p, .int .i64 x.s, .bool x.fl, .slice a3 n3 c3] 26) (next (next hb2 (ba (Below.refl _ _))) hb3)
  have g0 : (w3.alloc (.cells #[.int .i64 x.k, .int .i64 x.f, .int .i64 x.t, .int .i64 x.i, .int .i64 x.l, .int .i64 x.p, .int .i64 x.s, .bool x.fl, .slice a3 n3 c3] 26)).cell? ⟨w1.heap.size, 0, none⟩ = some (.pointer (some ⟨G (pr q), 0, none⟩)) := (hbl.cell (p := ⟨w1.heap.size, 0, none⟩) (by simp)).trans (by simp)
  have g1 : (w3.alloc (.cells #[.int .i64 x.k, .int .i64 x.f, .int .i64 x.t, .int .i64 x.i, .int .i64 x.l, .int .i64 x.p, .int .i64 x.s, .bool x.fl, .slice a3 n3 c3] 26)).cell? ⟨w1.heap.size, 1, none⟩ = some (.pointer (some ⟨G (pr q + 2), 0, none⟩)) := (hbl.cell (p := ⟨w1.heap.size, 1, none⟩) (by simp)).trans (by simp)
  have z1 : w1.heap.size < (w3.alloc (.cells #[.int .i64 x.k, .int .i64 x.f, .int .i64 x.t, .int .i64 x.i, .int .i64 x.l, .int .i64 x.p, .int .i64 x.s, .bool x.fl, .slice a3 n3 c3] 26)).heap.size := Nat.lt_of_lt_of_le (by simp) hbl.size
  have z0 : w.heap.size ≤ w1.heap.size := hb1.size
  have hs4 := hs3.below (ba (o := .cells #[.int .i64 x.k, .int .i64 x.f, .int .i64 x.t, .int .i64 x.i, .int .i64 x.l, .int .i64 x.p, .int .i64 x.s, .bool x.fl, .slice a3 n3 c3] 26) (Below.refl _ _))
  have hn3 : n3 ≤ 1000 := by have := hs3.len; have := ((Pk.right_iff x).1 HG.out.r).z; omega
  clear hbl hb1 hb2 hb3 hs3 lo3 ho2 hs2
  generalize w3.alloc (.cells #[.int .i64 x.k, .int .i64 x.f, .int .i64 x.t, .int .i64 x.i, .int .i64 x.l, .int .i64 x.p, .int .i64 x.s, .bool x.fl, .slice a3 n3 c3] 26) = W4 at *
  generalize w3.heap.size = g3 at *
  generalize w1.heap.size = gl1 at *
  have HN3 : Hid (n3 ≤ 1000) := hn3
  clear hn3
  have h1 := h.below hB0
  have hin1 := hin.below hB0
  obtain ⟨q0, q1, q2, q3, q4, q5, q6, q7, q8, qf, ql⟩ := bxd
  have uc := @Up.cell
  have uf := @Up.frozen
  clear g0 g1
  refine wp_region_up (by kernel_rfl) (by kernel_rfl) ?_
  repeat (go_big_quiet_step ((first
    | (go_at_call 34; exact Calls.up_same (request_any x.k _))
    | (go_at_call 33; exact Calls.up_of (lane_of _ (h1.below (Subtype.property _)) x _ HTN.out _ HT.out))
    | (go_at_call 39; exact Calls.up_of (laneArrive_full _ (hin1.below (Subtype.property _)) x a3 n3 c3 HO.out.1 HO.out.2 HL.out)))))
  refine wpQuiet_nil ?_
  rintro _ ⟨u, rfl⟩
  clear uc uf
  go_wp2
  go_ret
  exact ⟨rfl, next hB0 u.2⟩
set_option maxHeartbeats 1000000 in
theorem deliver_ok (h : Fb w gf nn out inn F B) (a bit mask : Int) (hm0 : 0 ≤ mask) (hm1 : mask < 65536) (q k : Nat) (x : Pk) (hq : q < 2 * nn) (hx : (F (pr q))[k]? = some x) (ha : a = ((laneL F q).length : Int) + k) (hw : wireB x bit mask = true) (hl : ((F (pr (toQ x) + 2)).length : Int) < Rm out inn (pr (toQ x) + 2)) :
    Calls Try.prog 13 #[.pointer (some ⟨gf, 0, none⟩), .int .i64 a, .int .i64 bit, .int .u16 mask] w fun e w' => e = .returned (.int .i64 0) ∧ FThen w w' gf nn out inn (upd (upd F (pr (toQ x) + 2) (F (pr (toQ x) + 2) ++ [x])) (pr q) ((F (pr q)).eraseIdx k)) B := by
  obtain ⟨gl, go, cap, G, M, D, h⟩ := h
  have hk : k < (F (pr q)).length := (List.getElem?_eq_some_iff.1 hx).1
  have hpl : pr q < 4 * nn := by have := pr_lt hq; omega
  have hg : Good nn x := h.good _ hpl x (List.mem_of_getElem? hx)
  have HG : Hid (Good nn x) := hg
  have HA : Hid (a = ((laneL F q).length : Int) + k) := ha
  have HX : Hid ((F (pr q))[k]? = some x) := hx
  have HM : Hid (0 ≤ mask ∧ mask < 65536) := ⟨hm0, hm1⟩
  have HW : Hid (wireB x bit mask = true) := hw
  have HT : Hid (x.t = (x.t.toNat : Int)) := hg.tq.2.1.symm
  have HTN : Hid (x.t.toNat < nn) := hg.tq.2.2
  have hin := h.many.qu (pr (toQ x) + 2) (pr_lt hg.tq.1)
  have HO : Hid (0 ≤ Rm out inn (pr (toQ x) + 2) ∧ Rm out inn (pr (toQ x) + 2) ≤ 1000) := by
    have i0 := h.i0; have i1 := h.i1; have o0 := h.o0; have o1 := h.o1
    show _ ∧ _
    unfold Rm; repeat (first | omega | split)
  have HL : Hid (((F (pr (toQ x) + 2)).length : Int) < Rm out inn (pr (toQ x) + 2)) := hl
  have HSTEP : Hid (∀ (w1 w2 w3 : World) (M' D' : Nat → Prop), Below w.heap.size w w1 → Keep (M (pr (toQ x) + 2)) w1 w2 → Qu w2 (G (pr (toQ x) + 2)) M' D' (Rm out inn (pr (toQ x) + 2)) (F (pr (toQ x) + 2) ++ [x]) → (∀ k, M' k → M (pr (toQ x) + 2) k ∨ w1.heap.size ≤ k) → (∀ k, D' k → D (pr (toQ x) + 2) k ∨ w1.heap.size ≤ k) →
      Qu w2 (G (pr q)) (M (pr q)) (D (pr q)) (Rm out inn (pr q)) (F (pr q)) ∧ (Keep (M (pr q)) w2 w3 → Qu w3 (G (pr q)) (M (pr q)) (D (pr q)) (Rm out inn (pr q)) ((F (pr q)).eraseIdx k) → FThen w w3 gf nn out inn (upd (upd F (pr (toQ x) + 2) (F (pr (toQ x) + 2) ++ [x])) (pr q) ((F (pr q)).eraseIdx k)) B)) := by
    intro w1 w2 w3 M' D' hb hk1 hq1 hM hD
    have hne : pr q ≠ pr (toQ x) + 2 := pr_ne
    obtain ⟨hk', hf'⟩ := (h.below hb).step (pr_lt hg.tq.1) hk1 hq1 hM hD (fun y hy => by
      rcases List.mem_append.1 hy with hy | hy
      · exact h.good _ (pr_lt hg.tq.1) y hy
      · rw [List.mem_singleton] at hy; subst hy; exact hg) (by rw [List.length_append]; simp; omega)
    have hqp := hf'.many.qu (pr q) hpl
    rw [upd_other _ _ hne, upd_other _ _ hne, upd_other _ _ hne] at hqp
    refine ⟨hqp, fun hk2 hq2 => ?_⟩
    have eM : upd M (pr (toQ x) + 2) M' (pr q) = M (pr q) := upd_other _ _ hne
    have eD : upd D (pr (toQ x) + 2) D' (pr q) = D (pr q) := upd_other _ _ hne
    obtain ⟨hk'', hf''⟩ := hf'.step (q := pr q) hpl (by rw [eM]; exact hk2) hq2 (fun k hk => .inl (by rw [eM]; exact hk)) (fun k hk => .inl (by rw [eD]; exact hk)) (fun y hy => h.good _ hpl y (List.mem_of_mem_eraseIdx hy)) (by have := h.rooms _ hpl; rw [List.length_eraseIdx_of_lt hk]; omega)
    refine ⟨(Keep.pre hb hk').trans hk'' (fun k hk hB => ?_), _, ⟨_, _, _, _, _, _, hf''⟩, fun k hk => ?_⟩
    · rcases hB with hB | hB
      · exact hB
      · have := hb.size; omega
    · have h1 := hb.size
      have h2 := hk1.size
      rcases hk with (hk | hk) | hk
      · exact .inl hk
      · exact .inr (by omega)
      · exact .inr (by omega)
  have HOLD : Hid (∀ k, M (pr (toQ x) + 2) k → k < w.heap.size) := fun k hk => h.many.old (pr_lt hg.tq.1) (.inl hk)
  clear ha hx hm0 hm1 hw hg hl
  unfold toQ at hin HO HL HSTEP HOLD ⊢
  have hqu := h.many.qu (pr q) hpl
  have hfd := lane_p
  go_enter Try.func13, Try.ntmps13
  go_wp2_with (first
    | (go_at_call 36; refine (find_yes _ h hq hk a HA.out).mono ?_; rintro e w1 ⟨rfl, hb1⟩; unfold laneV)
    | (go_at_call 37; refine (P.get_some _ (hqu.below (next hb1 (ba (Below.refl _ _)))) k x HX.out _ rfl).mono ?_; rintro e w2 ⟨d, rfl, hb2, ho2⟩; obtain ⟨a2, c2, rfl, hs2⟩ := ho2.sl' rfl)
    | (go_at_call 38; refine (over_yes _ x a2 x.z.length c2 bit mask (hs2.below (ba (Below.refl _ _))) HG.out.z HG.out.r HM.out.1 HM.out.2 HW.out).mono ?_; rintro e w3 ⟨a3, n3, c3, rfl, hs3, lo3, hb3⟩))
  have hB0 : Below w.heap.size w (w3.alloc (.cells #[.int .i64 x.k, .int .i64 x.f, .int .i64 x.t, .int .i64 x.i, .int .i64 x.l, .int .i64 x.p, .int .i64 x.s, .bool x.fl, .slice a3 n3 c3] 26)) := ba (next (next (next (next hb1 (ba (Below.refl _ _))) hb2) (ba (Below.refl _ _))) hb3)
  have bxd := Bx.made w3 x (.slice a3 n3 c3)
  have hbl := ba (o := .cells #[.int .i64 x.k, .int .i64 x.f, .int .i64 x.t, .int .i64 x.i, .int .i64 x.l, .int .i64 x.p, .int .i64 x.s, .bool x.fl, .slice a3 n3 c3] 26) (next (next hb2 (ba (Below.refl _ _))) hb3)
  have g0 : (w3.alloc (.cells #[.int .i64 x.k, .int .i64 x.f, .int .i64 x.t, .int .i64 x.i, .int .i64 x.l, .int .i64 x.p, .int .i64 x.s, .bool x.fl, .slice a3 n3 c3] 26)).cell? ⟨w1.heap.size, 0, none⟩ = some (.pointer (some ⟨G (pr q), 0, none⟩)) := (hbl.cell (p := ⟨w1.heap.size, 0, none⟩) (by simp)).trans (by simp)
  have g1 : (w3.alloc (.cells #[.int .i64 x.k, .int .i64 x.f, .int .i64 x.t, .int .i64 x.i, .int .i64 x.l, .int .i64 x.p, .int .i64 x.s, .bool x.fl, .slice a3 n3 c3] 26)).cell? ⟨w1.heap.size, 1, none⟩ = some (.pointer (some ⟨G (pr q + 2), 0, none⟩)) := (hbl.cell (p := ⟨w1.heap.size, 1, none⟩) (by simp)).trans (by simp)
  have z1 : w1.heap.size < (w3.alloc (.cells #[.int .i64 x.k, .int .i64 x.f, .int .i64 x.t, .int .i64 x.i, .int .i64 x.l, .int .i64 x.p, .int .i64 x.s, .bool x.fl, .slice a3 n3 c3] 26)).heap.size := Nat.lt_of_lt_of_le (by simp) hbl.size
  have z0 : w.heap.size ≤ w1.heap.size := hb1.size
  have hs4 := hs3.below (ba (o := .cells #[.int .i64 x.k, .int .i64 x.f, .int .i64 x.t, .int .i64 x.i, .int .i64 x.l, .int .i64 x.p, .int .i64 x.s, .bool x.fl, .slice a3 n3 c3] 26) (Below.refl _ _))
  have hn3 : n3 ≤ 1000 := by have := hs3.len; have := ((Pk.right_iff x).1 HG.out.r).z; omega
  clear hbl hb1 hb2 hb3 hs3 lo3 ho2 hs2
  generalize w3.alloc (.cells #[.int .i64 x.k, .int .i64 x.f, .int .i64 x.t, .int .i64 x.i, .int .i64 x.l, .int .i64 x.p, .int .i64 x.s, .bool x.fl, .slice a3 n3 c3] 26) = W4 at *
  generalize w3.heap.size = g3 at *
  generalize w1.heap.size = gl1 at *
  have HN3 : Hid (n3 ≤ 1000) := hn3
  clear hn3
  refine wp_region_orders 10 rfl (by kernel_rfl) ?_
  have hdr : Below W4.heap.size W4 W4.drew := (Below.refl _ _).drew
  replace hB0 := next hB0 hdr
  replace bxd := bxd.next hdr
  replace g0 := ((bcell hdr).1 _ 0 z1).trans g0
  replace g1 := ((bcell hdr).1 _ 1 z1).trans g1
  replace z1 := Nat.lt_of_lt_of_le z1 hdr.size
  replace hs4 := hs4.below hdr
  clear hdr
  generalize W4.drew = wd at *
  obtain ⟨q0, q1, q2, q3, q4, q5, q6, q7, q8, qf, ql⟩ := bxd
  have uc := @Up.cell2
  have uf := @Up.frozen2
  have hd := h.below hB0
  refine any_take 0 (.pointer (some ⟨gf, 0, none⟩)) rfl (by kernel_rfl) (by kernel_rfl) (by kernel_rfl) (fun _ _ _ h => h) (by kernel_rfl) (fun w => by go_simp) ?_
  simp only [Act.put, List.setIfInBounds_toArray, List.set_cons_zero, List.set_cons_succ]
  refine any_take 1 (.pointer (some ⟨g3, 2, none⟩)) rfl (by kernel_rfl) (by kernel_rfl) (by kernel_rfl) (fun _ _ _ h => h) (by kernel_rfl) (fun w => by go_simp) ?_
  simp only [Act.put, List.setIfInBounds_toArray, List.set_cons_zero, List.set_cons_succ]
  refine any_take 3 (.pointer (some ⟨g3, 0, none⟩)) rfl (by kernel_rfl) (by kernel_rfl) (by kernel_rfl) (fun _ _ _ h => h) (by kernel_rfl) (fun w => by go_simp) ?_
  simp only [Act.put, List.setIfInBounds_toArray, List.set_cons_zero, List.set_cons_succ]
  refine any_mildx [8, 9] ?_
  refine mildy_take (v := ?v1) [6, 8, 9] 2 rfl (by kernel_rfl) (by kernel_rfl) (by kernel_rfl) (by kernel_rfl) (by kernel_rfl) (fun _ _ _ h => h) (by kernel_rfl) (fun Wu K hK => ?hy1) ?go1
  case hy1 =>
    go_big_quiet_op
    simp only [Act.put, List.setIfInBounds_toArray, List.set_cons_zero, List.set_cons_succ] at hK
    exact hK
  simp only [Act.put, List.setIfInBounds_toArray, List.set_cons_zero, List.set_cons_succ]
  refine mildy_take (v := ?v2) [5, 6, 8, 9] 4 rfl (by kernel_rfl) (by kernel_rfl) (by kernel_rfl) (by kernel_rfl) (by kernel_rfl) (fun _ _ _ h => h) (by kernel_rfl) (fun Wu K hK => ?hy2) ?go2
  case hy2 =>
    go_big_quiet_op
    simp only [Act.put, List.setIfInBounds_toArray, List.set_cons_zero, List.set_cons_succ] at hK
    exact hK
  simp only [Act.put, List.setIfInBounds_toArray, List.set_cons_zero, List.set_cons_succ]
  refine mildy_take (v := ?v3) [6, 8, 9] 5 rfl (by kernel_rfl) (by kernel_rfl) (by kernel_rfl) (by kernel_rfl) (by kernel_rfl) (fun _ _ _ h => h) (by kernel_rfl) (fun Wu K hK => ?hy3) ?go3
  case hy3 =>
    go_big_quiet_op
    simp only [Act.put, List.setIfInBounds_toArray, List.set_cons_zero, List.set_cons_succ] at hK
    refine ⟨_, fun u => Calls.up_same (request_any x.k u.1), ?_⟩
    exact hK
  simp only [Act.put, List.setIfInBounds_toArray, List.set_cons_zero, List.set_cons_succ]
  refine mildy_take (v := ?v4) [8, 9] 7 rfl (by kernel_rfl) (by kernel_rfl) (by kernel_rfl) (by kernel_rfl) (by kernel_rfl) (fun _ _ _ h => h) (by kernel_rfl) (fun Wu K hK => ?hy4) ?go4
  case hy4 =>
    go_big_quiet_op
    simp only [Act.put, List.setIfInBounds_toArray, List.set_cons_zero, List.set_cons_succ] at hK
    exact hK
  simp only [Act.put, List.setIfInBounds_toArray, List.set_cons_zero, List.set_cons_succ]
  refine mildy_take (v := ?v5) [8, 9] 6 rfl (by kernel_rfl) (by kernel_rfl) (by kernel_rfl) (by kernel_rfl) (by kernel_rfl) (fun _ _ _ h => h) (by kernel_rfl) (fun Wu K hK => ?hy5) ?go5
  case hy5 =>
    go_big_quiet_op
    simp only [Act.put, List.setIfInBounds_toArray, List.set_cons_zero, List.set_cons_succ] at hK
    refine ⟨_, fun u => Calls.up_of (lane_of u.1 ((hd.below Wu.2).below u.2) x _ HTN.out _ HT.out), ?_⟩
    exact hK
  simp only [Act.put, List.setIfInBounds_toArray, List.set_cons_zero, List.set_cons_succ]
  intro W
  clear uc uf
  have hBW := next hB0 W.2
  replace g0 := ((bcell W.2).1 _ 0 z1).trans g0
  replace g1 := ((bcell W.2).1 _ 1 z1).trans g1
  replace z1 := Nat.lt_of_lt_of_le z1 W.2.size
  replace hs4 := hs4.below W.2
  clear q0 q1 q2 q3 q4 q5 q6 q7 q8 qf ql hd
  generalize W.1 = wa at *
  refine upx_write 8 (by kernel_rfl) (by kernel_rfl) rfl ?_
  go_wp2_with (go_at_call 39; refine (laneArrive_ok _ (hin.below hBW) x a3 n3 c3 hs4 HN3.out HO.out.1 HO.out.2 HL.out).mono ?_; rintro e w5 ⟨rfl, hk5, M', D', hq5, hM5, hD5⟩)
  have nm : ¬ M (pr (2 * x.t.toNat + sortN x) + 2) gl1 := fun hm => by have := HOLD.out _ hm; omega
  replace g0 := (hk5.cell 0 z1 nm).trans g0
  replace g1 := (hk5.cell 1 z1 nm).trans g1
  replace z1 := Nat.lt_of_lt_of_le z1 hk5.size
  have hst := fun w3 => HSTEP.out wa w5 w3 M' D' hBW hk5 hq5 hM5 hD5
  clear hq5 hM5 hD5 hk5 hs4 hin hqu
  refine then_n ?_
  refine any_list 9 (by kernel_rfl) rfl ?_
  go_wp2
  refine then_n ?_
  refine any_done (by kernel_rfl) ?_
  have hq6 := (hst w5).1
  go_wp2_with (go_at_call 40; refine (P.remove_some _ hq6 k x HX.out _ rfl).mono ?_; rintro e w6 ⟨d6, rfl, hk6, hd6, hq7⟩)
  go_ret
  exact ⟨rfl, (hst w6).2 hk6 hq7⟩
theorem deliver_any {F' : Nat → List Pk} {e : Int} (h : Fb w gf nn out inn F B) (a bit mask : Int) (h63 : a < 9223372036854775808) (hm0 : 0 ≤ mask) (hm1 : mask < 65536) (hd : DelTo nn out inn F a bit mask e F') :
    Calls Try.prog 13 #[.pointer (some ⟨gf, 0, none⟩), .int .i64 a, .int .i64 bit, .int .u16 mask] w fun en w' => en = .returned (.int .i64 e) ∧ FThen w w' gf nn out inn F' B := by
  cases hd with
  | none ha => exact (deliver_none w h a bit mask ha h63).mono fun _ _ ⟨he, hb⟩ => ⟨he, then_below h hb⟩
  | form q k x hq hx ha hw => exact (deliver_form w h a bit mask hm0 hm1 q k x hq hx ha hw).mono fun _ _ ⟨he, hb⟩ => ⟨he, then_below h hb⟩
  | full q k x hq hx ha hw hl => exact (deliver_full w h a bit mask hm0 hm1 q k x hq hx ha hw hl).mono fun _ _ ⟨he, hb⟩ => ⟨he, then_below h hb⟩
  | ok q k x hq hx ha hw hl => exact deliver_ok w h a bit mask hm0 hm1 q k x hq hx ha hw hl
end
end Go.Proofs.Ytjdbjmfkheffdaa
end
