/- The contract of the document's Set of a row, when it sets. Conditions: as each theorem states them. -/
import Derived.Test.YtgeiagndpfdnlaaDh2
namespace Go.Proofs.Ytgeiagndpfdnlaa
open Go.RowKit Go.Maps
set_option linter.unusedVariables false
set_option maxRecDepth 20000

section
variable {w : World} {g : Nat} {M D : Nat → Prop} {N L K : Nat} {node : Int} {R : List (Hr × Value)} {a : Option Addr} {cap : Nat}
set_option maxHeartbeats 1000000 in
theorem dset_keep (h : DH w g M D N L K node R a L cap) (hN : 1 ≤ N) {l : Nat} (hl : l < L) (hL : L ≤ 8) (hh : hereI N L node l = true) (s hd : Int) (ax : Option Addr) (n cx : Nat) (h0 : n = 0) (ho : setOk N K s hd n = true) :
    Calls Try.prog 43 #[.pointer (some ⟨g, 0, none⟩), .int .i64 l, .int .i64 s, .int .i64 hd, .slice ax n cx] w fun e w' => e = .returned (.int .i64 0) ∧ Keep M w w' ∧ ∃ D' d x v, (∀ j, D' j → D j ∨ w.heap.size ≤ j) ∧ R[l]? = some (x, v) ∧ DH w' g M D' N L K node (R.set l ((⟨(l : Int), s, hd, x.z⟩ : Hr), d)) a L cap := by
  have HH : Hid (hereI N L node l = true) := hh
  have hx : (0 ≤ s ∧ s ≤ 2) ∧ (-1 ≤ hd ∧ hd < (N : Int)) ∧ (s = 0 ∧ hd = -1 ∨ s ≠ 0 ∧ hd ≠ -1) ∧ (n = 0 ∨ (n : Int) = K) := by
    unfold setOk at ho
    simp only [Bool.and_eq_true] at ho
    refine ⟨of_decide_eq_true ho.1.1.1, of_decide_eq_true ho.1.1.2, ?_, of_decide_eq_true ho.2⟩
    have h3 := ho.1.2
    by_cases e1 : s = 0 <;> by_cases e2 : hd = -1 <;> simp [e1, e2] at h3 ⊢
  obtain ⟨⟨x1, x2⟩, ⟨x3, x4⟩, x5, xK⟩ := hx
  have hn1 : (n : Int) ≤ 0 := by omega
  skip
  clear ho h0 xK
  have c0 := h.c0
  have c2 := h.c2
  have lt := h.lt
  rcases x5 with ⟨x5, x6⟩ | ⟨x5, x6⟩
  · subst x5 x6
    go_enter Try.func43, Try.ntmps43
    go_upto_region 5 with (go_at_call 41; refine (dhere_any h hN l).mono ?_; rintro e w1 ⟨rfl, b1⟩; rw [HH.out]; obtain ⟨k1, k2⟩ := bcell b1)
    clear k1 k2 c0 c2 lt
    have H1 := h.below b1
    obtain ⟨x, d, b, o, hR, hd0, hxn, ea, hMb, hblt, q0, q1, q2, qf⟩ := H1.get hl
    subst ea
    obtain ⟨a0, n0, k0, ed, sd0, _⟩ := hd0
    subst ed
    have HR : Hid (R[l]? = some (x, Value.slice a0 n0 k0)) := hR
    have HD0 : Hid (DatZ w1 D x.z (.slice a0 n0 k0)) := H1.dat _ (List.mem_of_getElem? hR)
    have HMB : Hid (M b) := hMb
    have c9 := H1.c9
    have lt := H1.lt
    have hll : (l : Int) < (L : Int) := by omega
    clear sd0 hR hMb hxn
    go_upto_region 6 with fail
    have r0 : (w1.alloc (.cells #[.int .i64 0, .int .i64 (-1), .slice a0 n0 k0] 82)).cell? ⟨w1.heap.size, 0, none⟩ = some (.int .i64 0) := by simp
    have r1 : (w1.alloc (.cells #[.int .i64 0, .int .i64 (-1), .slice a0 n0 k0] 82)).cell? ⟨w1.heap.size, 1, none⟩ = some (.int .i64 (-1)) := by simp
    have r2 : (w1.alloc (.cells #[.int .i64 0, .int .i64 (-1), .slice a0 n0 k0] 82)).cell? ⟨w1.heap.size, 2, none⟩ = some (.slice a0 n0 k0) := by simp
    have f2 : (w1.alloc (.cells #[.int .i64 0, .int .i64 (-1), .slice a0 n0 k0] 82)).frozen? ⟨w1.heap.size, 2, none⟩ = false := by simp
    have b2 : Below w1.heap.size w1 (w1.alloc (.cells #[.int .i64 0, .int .i64 (-1), .slice a0 n0 k0] 82)) := ba (Below.refl _ _)
    have rlt : w1.heap.size < (w1.alloc (.cells #[.int .i64 0, .int .i64 (-1), .slice a0 n0 k0] 82)).heap.size := by simp
    have H2 := H1.below b2
    have hb2 := next b1 b2
    have HVM : Hid (∀ j, M j ∨ D j → j < w1.heap.size) := H1.old
    have HVG : Hid (g < w1.heap.size ∧ w.heap.size ≤ w1.heap.size) := ⟨H1.lt, b1.size⟩
    have HD2 : Hid (DatZ (w1.alloc (.cells #[.int .i64 0, .int .i64 (-1), .slice a0 n0 k0] 82)) D x.z (.slice a0 n0 k0)) := HD0.out.below b2
    clear HD0 H1 c9 lt q0 q1 q2 qf hblt b2
    generalize w1.heap.size = gv at *
    generalize w1.alloc _ = w2 at *
    clear b1
    clear w1
    go_upto_region 8 with fail
    have HV := H2
    have hbV := hb2
    have p0 := r0
    have p1 := r1
    have p2 := r2
    have hgv := rlt
    obtain ⟨E, hEE⟩ : ∃ E : Nat → Prop, E = D := ⟨_, rfl⟩
    have hE : ∀ k, E k → k < w2.heap.size ∧ ¬ M k ∧ k ≠ g := fun k hk => by
      subst hEE
      exact ⟨H2.old k (.inr hk), fun hm => H2.dj k hm hk, fun e => H2.ng.2 (e ▸ hk)⟩
    have HDV : Hid (DatZ w2 E x.z (.slice a0 n0 k0)) := hEE ▸ HD2
    have HNEW : Hid (∀ j, E j → D j ∨ w.heap.size ≤ j) := fun j hj => .inl (hEE ▸ hj)
    clear hEE H2 hb2 r0 r1 r2 f2 rlt HD2
    generalize w2 = V5 at *
    have HVM4 : Hid (∀ k, E k → k < V5.heap.size ∧ ¬ M k ∧ k ≠ g) := hE
    clear hE
    refine wp_region_orders 8 rfl (by kernel_rfl) ?_
    have Bd : Below V5.heap.size V5 V5.drew := (Below.refl _ _).drew
    have H6 := HV.below Bd
    have hb6 := next hbV Bd
    have y0 := (Bd.cell (p := ⟨gv, 0, none⟩) hgv).trans p0
    have y1 := (Bd.cell (p := ⟨gv, 1, none⟩) hgv).trans p1
    have y2 := (Bd.cell (p := ⟨gv, 2, none⟩) hgv).trans p2
    have HD6 : Hid (DatZ V5.drew E x.z (.slice a0 n0 k0)) := HDV.out.below Bd
    have HE6 : Hid (∀ k, E k → k < V5.drew.heap.size ∧ ¬ M k ∧ k ≠ g) := fun k hk => ⟨Nat.lt_of_lt_of_le (HVM4.out k hk).1 Bd.size, (HVM4.out k hk).2⟩
    clear HV hbV p0 p1 p2 HDV HVM4 Bd hgv
    generalize V5.drew = V6 at *
    clear V5
    have hI : (fun V => V.cell? ⟨g, 9, none⟩ = some (.slice (some ⟨b, o, none⟩) L cap) ∧ V.cell? ⟨gv, 0, none⟩ = some (.int .i64 0) ∧ V.cell? ⟨gv, 1, none⟩ = some (.int .i64 (-1)) ∧ V.cell? ⟨gv, 2, none⟩ = some (.slice a0 n0 k0)) V6 := ⟨H6.c9, y0, y1, y2⟩
    clear y0 y1 y2
    refine any_inv (fun V => V.cell? ⟨g, 9, none⟩ = some (.slice (some ⟨b, o, none⟩) L cap) ∧ V.cell? ⟨gv, 0, none⟩ = some (.int .i64 0) ∧ V.cell? ⟨gv, 1, none⟩ = some (.int .i64 (-1)) ∧ V.cell? ⟨gv, 2, none⟩ = some (.slice a0 n0 k0)) [7] hI ?_
    refine inv_take (v := ?v1) [1, 2, 3, 6, 7] 0 hI rfl (by kernel_rfl) (by kernel_rfl) (by kernel_rfl) (by kernel_rfl) (by kernel_rfl) (fun _ _ _ h => h) (by kernel_rfl) (fun V hV => ?hy1) ?go1
    case hy1 => (obtain ⟨i0, i1, i2, i3⟩ := hV; go_simp <;> rfl)
    simp only [Act.put, List.setIfInBounds_toArray, List.set_cons_zero, List.set_cons_succ]
    refine inv_take (v := ?v2) [2, 3, 6, 7] 1 hI rfl (by kernel_rfl) (by kernel_rfl) (by kernel_rfl) (by kernel_rfl) (by kernel_rfl) (fun _ _ _ h => h) (by kernel_rfl) (fun V hV => ?hy2) ?go2
    case hy2 => (obtain ⟨i0, i1, i2, i3⟩ := hV; go_simp <;> rfl)
    simp only [Act.put, List.setIfInBounds_toArray, List.set_cons_zero, List.set_cons_succ]
    refine inv_take (v := ?v3) [3, 6, 7] 2 hI rfl (by kernel_rfl) (by kernel_rfl) (by kernel_rfl) (by kernel_rfl) (by kernel_rfl) (fun _ _ _ h => h) (by kernel_rfl) (fun V hV => ?hy3) ?go3
    case hy3 => (obtain ⟨i0, i1, i2, i3⟩ := hV; go_simp <;> rfl)
    simp only [Act.put, List.setIfInBounds_toArray, List.set_cons_zero, List.set_cons_succ]
    refine inv_take (v := ?v4) [6, 7] 3 hI rfl (by kernel_rfl) (by kernel_rfl) (by kernel_rfl) (by kernel_rfl) (by kernel_rfl) (fun _ _ _ h => h) (by kernel_rfl) (fun V hV => ?hy4) ?go4
    case hy4 => (obtain ⟨i0, i1, i2, i3⟩ := hV; go_simp <;> rfl)
    simp only [Act.put, List.setIfInBounds_toArray, List.set_cons_zero, List.set_cons_succ]
    refine inv_take (v := ?v5) [6, 7] 4 hI rfl (by kernel_rfl) (by kernel_rfl) (by kernel_rfl) (by kernel_rfl) (by kernel_rfl) (fun _ _ _ h => h) (by kernel_rfl) (fun V hV => ?hy5) ?go5
    case hy5 => (obtain ⟨i0, i1, i2, i3⟩ := hV; go_simp <;> rfl)
    simp only [Act.put, List.setIfInBounds_toArray, List.set_cons_zero, List.set_cons_succ]
    refine inv_take (v := ?v6) [6, 7] 5 hI rfl (by kernel_rfl) (by kernel_rfl) (by kernel_rfl) (by kernel_rfl) (by kernel_rfl) (fun _ _ _ h => h) (by kernel_rfl) (fun V hV => ?hy6) ?go6
    case hy6 => (obtain ⟨i0, i1, i2, i3⟩ := hV; go_simp <;> rfl)
    simp only [Act.put, List.setIfInBounds_toArray, List.set_cons_zero, List.set_cons_succ]
    refine inv_take (v := ?v7) [7] 6 hI rfl (by kernel_rfl) (by kernel_rfl) (by kernel_rfl) (by kernel_rfl) (by kernel_rfl) (fun _ _ _ h => h) (by kernel_rfl) (fun V hV => ?hy7) ?go7
    case hy7 => (obtain ⟨i0, i1, i2, i3⟩ := hV; go_simp <;> rfl)
    simp only [Act.put, List.setIfInBounds_toArray, List.set_cons_zero, List.set_cons_succ]
    clear hI
    obtain ⟨xq, dq, b', o', _, _, _, eb, _, hblt, q0, q1, q2, qf⟩ := H6.get hl
    injection eb with eb
    injection eb with eb1 eb2
    subst eb1 eb2
    have g0 : V6.frozen? ⟨b, o + l * 3, none⟩ = false := qf 0 (by omega)
    have g1 := qf 1 (by omega)
    have g2 := qf 2 (by omega)
    obtain ⟨HP, KP⟩ := H6.put (E := E) (y := ⟨(l : Int), 0, (-1), x.z⟩) (v := .slice a0 n0 k0) hl rfl HD6.out HE6.out
    have KN := (Keep.of_below (F := M) hb6).trans KP (fun j _ e => e ▸ HMB.out)
    clear qf KP hb6
    refine inv_write 7 (by kernel_rfl) (by kernel_rfl) rfl ?_
    go_wp2_with fail
    refine then_n ?_
    refine any_done (by kernel_rfl) ?_
    go_wp2_with fail
    go_ret
    exact ⟨rfl, KN, _, _, x, _, fun j hj => hj.elim .inl (HNEW.out j), HR.out, HP⟩
  · have x5' : (s == 0) = false := by simp [x5]
    have x6' : (hd == -1) = false := by simp [x6]
    go_enter Try.func43, Try.ntmps43
    go_upto_region 5 with (go_at_call 41; refine (dhere_any h hN l).mono ?_; rintro e w1 ⟨rfl, b1⟩; rw [HH.out]; obtain ⟨k1, k2⟩ := bcell b1)
    clear k1 k2 c0 c2 lt
    have H1 := h.below b1
    obtain ⟨x, d, b, o, hR, hd0, hxn, ea, hMb, hblt, q0, q1, q2, qf⟩ := H1.get hl
    subst ea
    obtain ⟨a0, n0, k0, ed, sd0, _⟩ := hd0
    subst ed
    have HR : Hid (R[l]? = some (x, Value.slice a0 n0 k0)) := hR
    have HD0 : Hid (DatZ w1 D x.z (.slice a0 n0 k0)) := H1.dat _ (List.mem_of_getElem? hR)
    have HMB : Hid (M b) := hMb
    have c9 := H1.c9
    have lt := H1.lt
    have hll : (l : Int) < (L : Int) := by omega
    clear sd0 hR hMb hxn
    go_upto_region 6 with fail
    have r0 : (w1.alloc (.cells #[.int .i64 s, .int .i64 hd, .slice a0 n0 k0] 82)).cell? ⟨w1.heap.size, 0, none⟩ = some (.int .i64 s) := by simp
    have r1 : (w1.alloc (.cells #[.int .i64 s, .int .i64 hd, .slice a0 n0 k0] 82)).cell? ⟨w1.heap.size, 1, none⟩ = some (.int .i64 hd) := by simp
    have r2 : (w1.alloc (.cells #[.int .i64 s, .int .i64 hd, .slice a0 n0 k0] 82)).cell? ⟨w1.heap.size, 2, none⟩ = some (.slice a0 n0 k0) := by simp
    have f2 : (w1.alloc (.cells #[.int .i64 s, .int .i64 hd, .slice a0 n0 k0] 82)).frozen? ⟨w1.heap.size, 2, none⟩ = false := by simp
    have b2 : Below w1.heap.size w1 (w1.alloc (.cells #[.int .i64 s, .int .i64 hd, .slice a0 n0 k0] 82)) := ba (Below.refl _ _)
    have rlt : w1.heap.size < (w1.alloc (.cells #[.int .i64 s, .int .i64 hd, .slice a0 n0 k0] 82)).heap.size := by simp
    have H2 := H1.below b2
    have hb2 := next b1 b2
    have HVM : Hid (∀ j, M j ∨ D j → j < w1.heap.size) := H1.old
    have HVG : Hid (g < w1.heap.size ∧ w.heap.size ≤ w1.heap.size) := ⟨H1.lt, b1.size⟩
    have HD2 : Hid (DatZ (w1.alloc (.cells #[.int .i64 s, .int .i64 hd, .slice a0 n0 k0] 82)) D x.z (.slice a0 n0 k0)) := HD0.out.below b2
    clear HD0 H1 c9 lt q0 q1 q2 qf hblt b2
    generalize w1.heap.size = gv at *
    generalize w1.alloc _ = w2 at *
    clear b1
    clear w1
    go_upto_region 8 with fail
    have HV := H2
    have hbV := hb2
    have p0 := r0
    have p1 := r1
    have p2 := r2
    have hgv := rlt
    obtain ⟨E, hEE⟩ : ∃ E : Nat → Prop, E = D := ⟨_, rfl⟩
    have hE : ∀ k, E k → k < w2.heap.size ∧ ¬ M k ∧ k ≠ g := fun k hk => by
      subst hEE
      exact ⟨H2.old k (.inr hk), fun hm => H2.dj k hm hk, fun e => H2.ng.2 (e ▸ hk)⟩
    have HDV : Hid (DatZ w2 E x.z (.slice a0 n0 k0)) := hEE ▸ HD2
    have HNEW : Hid (∀ j, E j → D j ∨ w.heap.size ≤ j) := fun j hj => .inl (hEE ▸ hj)
    clear hEE H2 hb2 r0 r1 r2 f2 rlt HD2
    generalize w2 = V5 at *
    have HVM4 : Hid (∀ k, E k → k < V5.heap.size ∧ ¬ M k ∧ k ≠ g) := hE
    clear hE
    refine wp_region_orders 8 rfl (by kernel_rfl) ?_
    have Bd : Below V5.heap.size V5 V5.drew := (Below.refl _ _).drew
    have H6 := HV.below Bd
    have hb6 := next hbV Bd
    have y0 := (Bd.cell (p := ⟨gv, 0, none⟩) hgv).trans p0
    have y1 := (Bd.cell (p := ⟨gv, 1, none⟩) hgv).trans p1
    have y2 := (Bd.cell (p := ⟨gv, 2, none⟩) hgv).trans p2
    have HD6 : Hid (DatZ V5.drew E x.z (.slice a0 n0 k0)) := HDV.out.below Bd
    have HE6 : Hid (∀ k, E k → k < V5.drew.heap.size ∧ ¬ M k ∧ k ≠ g) := fun k hk => ⟨Nat.lt_of_lt_of_le (HVM4.out k hk).1 Bd.size, (HVM4.out k hk).2⟩
    clear HV hbV p0 p1 p2 HDV HVM4 Bd hgv
    generalize V5.drew = V6 at *
    clear V5
    have hI : (fun V => V.cell? ⟨g, 9, none⟩ = some (.slice (some ⟨b, o, none⟩) L cap) ∧ V.cell? ⟨gv, 0, none⟩ = some (.int .i64 s) ∧ V.cell? ⟨gv, 1, none⟩ = some (.int .i64 hd) ∧ V.cell? ⟨gv, 2, none⟩ = some (.slice a0 n0 k0)) V6 := ⟨H6.c9, y0, y1, y2⟩
    clear y0 y1 y2
    refine any_inv (fun V => V.cell? ⟨g, 9, none⟩ = some (.slice (some ⟨b, o, none⟩) L cap) ∧ V.cell? ⟨gv, 0, none⟩ = some (.int .i64 s) ∧ V.cell? ⟨gv, 1, none⟩ = some (.int .i64 hd) ∧ V.cell? ⟨gv, 2, none⟩ = some (.slice a0 n0 k0)) [7] hI ?_
    refine inv_take (v := ?v8) [1, 2, 3, 6, 7] 0 hI rfl (by kernel_rfl) (by kernel_rfl) (by kernel_rfl) (by kernel_rfl) (by kernel_rfl) (fun _ _ _ h => h) (by kernel_rfl) (fun V hV => ?hy8) ?go8
    case hy8 => (obtain ⟨i0, i1, i2, i3⟩ := hV; go_simp <;> rfl)
    simp only [Act.put, List.setIfInBounds_toArray, List.set_cons_zero, List.set_cons_succ]
    refine inv_take (v := ?v9) [2, 3, 6, 7] 1 hI rfl (by kernel_rfl) (by kernel_rfl) (by kernel_rfl) (by kernel_rfl) (by kernel_rfl) (fun _ _ _ h => h) (by kernel_rfl) (fun V hV => ?hy9) ?go9
    case hy9 => (obtain ⟨i0, i1, i2, i3⟩ := hV; go_simp <;> rfl)
    simp only [Act.put, List.setIfInBounds_toArray, List.set_cons_zero, List.set_cons_succ]
    refine inv_take (v := ?v10) [3, 6, 7] 2 hI rfl (by kernel_rfl) (by kernel_rfl) (by kernel_rfl) (by kernel_rfl) (by kernel_rfl) (fun _ _ _ h => h) (by kernel_rfl) (fun V hV => ?hy10) ?go10
    case hy10 => (obtain ⟨i0, i1, i2, i3⟩ := hV; go_simp <;> rfl)
    simp only [Act.put, List.setIfInBounds_toArray, List.set_cons_zero, List.set_cons_succ]
    refine inv_take (v := ?v11) [6, 7] 3 hI rfl (by kernel_rfl) (by kernel_rfl) (by kernel_rfl) (by kernel_rfl) (by kernel_rfl) (fun _ _ _ h => h) (by kernel_rfl) (fun V hV => ?hy11) ?go11
    case hy11 => (obtain ⟨i0, i1, i2, i3⟩ := hV; go_simp <;> rfl)
    simp only [Act.put, List.setIfInBounds_toArray, List.set_cons_zero, List.set_cons_succ]
    refine inv_take (v := ?v12) [6, 7] 4 hI rfl (by kernel_rfl) (by kernel_rfl) (by kernel_rfl) (by kernel_rfl) (by kernel_rfl) (fun _ _ _ h => h) (by kernel_rfl) (fun V hV => ?hy12) ?go12
    case hy12 => (obtain ⟨i0, i1, i2, i3⟩ := hV; go_simp <;> rfl)
    simp only [Act.put, List.setIfInBounds_toArray, List.set_cons_zero, List.set_cons_succ]
    refine inv_take (v := ?v13) [6, 7] 5 hI rfl (by kernel_rfl) (by kernel_rfl) (by kernel_rfl) (by kernel_rfl) (by kernel_rfl) (fun _ _ _ h => h) (by kernel_rfl) (fun V hV => ?hy13) ?go13
    case hy13 => (obtain ⟨i0, i1, i2, i3⟩ := hV; go_simp <;> rfl)
    simp only [Act.put, List.setIfInBounds_toArray, List.set_cons_zero, List.set_cons_succ]
    refine inv_take (v := ?v14) [7] 6 hI rfl (by kernel_rfl) (by kernel_rfl) (by kernel_rfl) (by kernel_rfl) (by kernel_rfl) (fun _ _ _ h => h) (by kernel_rfl) (fun V hV => ?hy14) ?go14
    case hy14 => (obtain ⟨i0, i1, i2, i3⟩ := hV; go_simp <;> rfl)
    simp only [Act.put, List.setIfInBounds_toArray, List.set_cons_zero, List.set_cons_succ]
    clear hI
    obtain ⟨xq, dq, b', o', _, _, _, eb, _, hblt, q0, q1, q2, qf⟩ := H6.get hl
    injection eb with eb
    injection eb with eb1 eb2
    subst eb1 eb2
    have g0 : V6.frozen? ⟨b, o + l * 3, none⟩ = false := qf 0 (by omega)
    have g1 := qf 1 (by omega)
    have g2 := qf 2 (by omega)
    obtain ⟨HP, KP⟩ := H6.put (E := E) (y := ⟨(l : Int), s, hd, x.z⟩) (v := .slice a0 n0 k0) hl rfl HD6.out HE6.out
    have KN := (Keep.of_below (F := M) hb6).trans KP (fun j _ e => e ▸ HMB.out)
    clear qf KP hb6
    refine inv_write 7 (by kernel_rfl) (by kernel_rfl) rfl ?_
    go_wp2_with fail
    refine then_n ?_
    refine any_done (by kernel_rfl) ?_
    go_wp2_with fail
    go_ret
    exact ⟨rfl, KN, _, _, x, _, fun j hj => hj.elim .inl (HNEW.out j), HR.out, HP⟩
set_option maxHeartbeats 1000000 in
theorem dset_full (h : DH w g M D N L K node R a L cap) (hN : 1 ≤ N) {l : Nat} (hl : l < L) (hL : L ≤ 8) (hh : hereI N L node l = true) (s hd : Int) (ax : Option Addr) (n cx : Nat) (z : List Int) (hs : Sl w ax n cx z) (hn0 : 0 < n) (hb : n ≤ 17592186044416) (ho : setOk N K s hd n = true) :
    Calls Try.prog 43 #[.pointer (some ⟨g, 0, none⟩), .int .i64 l, .int .i64 s, .int .i64 hd, .slice ax n cx] w fun e w' => e = .returned (.int .i64 0) ∧ Keep M w w' ∧ ∃ D' d x v, (∀ j, D' j → D j ∨ w.heap.size ≤ j) ∧ R[l]? = some (x, v) ∧ DH w' g M D' N L K node (R.set l ((⟨(l : Int), s, hd, z⟩ : Hr), d)) a L cap := by
  have HH : Hid (hereI N L node l = true) := hh
  have hx : (0 ≤ s ∧ s ≤ 2) ∧ (-1 ≤ hd ∧ hd < (N : Int)) ∧ (s = 0 ∧ hd = -1 ∨ s ≠ 0 ∧ hd ≠ -1) ∧ (n = 0 ∨ (n : Int) = K) := by
    unfold setOk at ho
    simp only [Bool.and_eq_true] at ho
    refine ⟨of_decide_eq_true ho.1.1.1, of_decide_eq_true ho.1.1.2, ?_, of_decide_eq_true ho.2⟩
    have h3 := ho.1.2
    by_cases e1 : s = 0 <;> by_cases e2 : hd = -1 <;> simp [e1, e2] at h3 ⊢
  obtain ⟨⟨x1, x2⟩, ⟨x3, x4⟩, x5, xK⟩ := hx
  have hn1 : (0 : Int) < (n : Int) := by omega
  have hnK : ((n : Int) != (K : Int)) = false := by simp; omega
  clear ho xK
  have c0 := h.c0
  have c2 := h.c2
  have lt := h.lt
  rcases x5 with ⟨x5, x6⟩ | ⟨x5, x6⟩
  · subst x5 x6
    go_enter Try.func43, Try.ntmps43
    go_upto_region 5 with (go_at_call 41; refine (dhere_any h hN l).mono ?_; rintro e w1 ⟨rfl, b1⟩; rw [HH.out]; obtain ⟨k1, k2⟩ := bcell b1)
    clear k1 k2 c0 c2 lt
    have H1 := h.below b1
    obtain ⟨x, d, b, o, hR, hd0, hxn, ea, hMb, hblt, q0, q1, q2, qf⟩ := H1.get hl
    subst ea
    obtain ⟨a0, n0, k0, ed, sd0, _⟩ := hd0
    subst ed
    have HR : Hid (R[l]? = some (x, Value.slice a0 n0 k0)) := hR
    have HD0 : Hid (DatZ w1 D x.z (.slice a0 n0 k0)) := H1.dat _ (List.mem_of_getElem? hR)
    have HMB : Hid (M b) := hMb
    have c9 := H1.c9
    have lt := H1.lt
    have hll : (l : Int) < (L : Int) := by omega
    clear sd0 hR hMb hxn
    go_upto_region 6 with fail
    have r0 : (w1.alloc (.cells #[.int .i64 0, .int .i64 (-1), .slice a0 n0 k0] 82)).cell? ⟨w1.heap.size, 0, none⟩ = some (.int .i64 0) := by simp
    have r1 : (w1.alloc (.cells #[.int .i64 0, .int .i64 (-1), .slice a0 n0 k0] 82)).cell? ⟨w1.heap.size, 1, none⟩ = some (.int .i64 (-1)) := by simp
    have r2 : (w1.alloc (.cells #[.int .i64 0, .int .i64 (-1), .slice a0 n0 k0] 82)).cell? ⟨w1.heap.size, 2, none⟩ = some (.slice a0 n0 k0) := by simp
    have f2 : (w1.alloc (.cells #[.int .i64 0, .int .i64 (-1), .slice a0 n0 k0] 82)).frozen? ⟨w1.heap.size, 2, none⟩ = false := by simp
    have b2 : Below w1.heap.size w1 (w1.alloc (.cells #[.int .i64 0, .int .i64 (-1), .slice a0 n0 k0] 82)) := ba (Below.refl _ _)
    have rlt : w1.heap.size < (w1.alloc (.cells #[.int .i64 0, .int .i64 (-1), .slice a0 n0 k0] 82)).heap.size := by simp
    have H2 := H1.below b2
    have hb2 := next b1 b2
    have HVM : Hid (∀ j, M j ∨ D j → j < w1.heap.size) := H1.old
    have HVG : Hid (g < w1.heap.size ∧ w.heap.size ≤ w1.heap.size) := ⟨H1.lt, b1.size⟩
    have HD2 : Hid (DatZ (w1.alloc (.cells #[.int .i64 0, .int .i64 (-1), .slice a0 n0 k0] 82)) D x.z (.slice a0 n0 k0)) := HD0.out.below b2
    clear HD0 H1 c9 lt q0 q1 q2 qf hblt b2
    generalize w1.heap.size = gv at *
    generalize w1.alloc _ = w2 at *
    clear b1
    clear w1
    obtain ⟨i0, hi, hz0, hz1, hz2⟩ := info_parts Try.infoInt
    have hsx := hs.below hb2
    obtain ⟨hn, hle, hmx, hnil, hr⟩ := hsx
    have hm : n ≤ maxLen := Nat.le_trans hle hmx
    obtain ⟨xb, xo, eax, _⟩ := (hs.below hb2).at hn0
    subst eax
    go_upto_region 7 with fail
    go_upto_region 8 with (at_builtin; refine wpList_append_grows _ rfl _ _ 22 rfl 3 i0 (.int .i64 0) 1 8 Try.underlying22 hi hz0 hz1 hz2 rfl (by decide) none 0 0 [] rfl (fun _ => ⟨rfl, rfl⟩) rfl (fun _ e => by cases e) ⟨xb, xo, none⟩ n cx (cells z) rfl (by simp [cells, hn]) hr.cellsAt (cells_one z) (by omega) (by omega) (by omega) ?_; intro v4 w4 hown4 hgrow4; have own4 : Own w4 w2.heap.size v4 z := (by simpa [Own, hn] using hown4); obtain ⟨a4, k4, ev4, _⟩ := own4.sl' hn; subst ev4; have b4 : Below w2.heap.size w2 w4 := (Below.refl _ _).grown hgrow4 (Nat.le_refl _) (by intro k hk; simp at hk); have r04 := (b4.cell (p := ⟨gv, 0, none⟩) rlt).trans r0; have r14 := (b4.cell (p := ⟨gv, 1, none⟩) rlt).trans r1; have r24 := (b4.cell (p := ⟨gv, 2, none⟩) rlt).trans r2; have f24 := (b4.frozen (p := ⟨gv, 2, none⟩) rlt).trans f2)
    have hlo4 := own4.lo
    have kk4 := Keep.one w4 gv 2 (.slice a4 n k4)
    have HV := (H2.below b4).keep kk4 (fun e => by have := HVG.out.1; omega) (fun j hj e => by have := HVM.out j hj; omega)
    have hbV : Below w.heap.size w (w4.setCell ⟨gv, 2, none⟩ (.slice a4 n k4)) := kk4.after (next hb2 b4) (fun j hj => by have := HVG.out.2; omega)
    have p0 : (w4.setCell ⟨gv, 2, none⟩ (.slice a4 n k4)).cell? ⟨gv, 0, none⟩ = some (.int .i64 0) := by go_simp
    have p1 : (w4.setCell ⟨gv, 2, none⟩ (.slice a4 n k4)).cell? ⟨gv, 1, none⟩ = some (.int .i64 (-1)) := by go_simp
    have p2 : (w4.setCell ⟨gv, 2, none⟩ (.slice a4 n k4)).cell? ⟨gv, 2, none⟩ = some (.slice a4 n k4) := by go_simp
    have hgv : gv < (w4.setCell ⟨gv, 2, none⟩ (.slice a4 n k4)).heap.size := Nat.lt_of_lt_of_le (Nat.lt_of_lt_of_le rlt b4.size) kk4.size
    have own5 := own4.keep kk4 (fun j hj e => by have := (own4.base j hj).1; omega)
    have hE : ∀ k, (∃ y : Addr, a4 = some y ∧ k = y.block) → k < (w4.setCell ⟨gv, 2, none⟩ (.slice a4 n k4)).heap.size ∧ ¬ M k ∧ k ≠ g := fun k hk => by
      obtain ⟨y, hy, rfl⟩ := hk
      have h1 := hlo4 y hy
      have h2 := HVG.out.1
      exact ⟨Nat.lt_of_lt_of_le h1.2 kk4.size, fun hm => by have := HVM.out _ (.inl hm); omega, by omega⟩
    have HDV : Hid (DatZ (w4.setCell ⟨gv, 2, none⟩ (.slice a4 n k4)) (fun k => ∃ y : Addr, a4 = some y ∧ k = y.block) z (.slice a4 n k4)) := ⟨a4, n, k4, rfl, own_sl own5, hb, fun _ y hy => ⟨y, hy, rfl⟩⟩
    have HNEW : Hid (∀ j, (∃ y : Addr, a4 = some y ∧ j = y.block) → D j ∨ w.heap.size ≤ j) := fun j hj => by obtain ⟨y, hy, rfl⟩ := hj; exact .inr (by have := (hlo4 y hy).1; have := HVG.out.2; omega)
    obtain ⟨E, hEE⟩ : ∃ E : Nat → Prop, (fun k => ∃ y : Addr, a4 = some y ∧ k = y.block) = E := ⟨_, rfl⟩
    replace hE : ∀ k, E k → k < (w4.setCell ⟨gv, 2, none⟩ (.slice a4 n k4)).heap.size ∧ ¬ M k ∧ k ≠ g := hEE ▸ hE
    replace HNEW : Hid (∀ j, E j → D j ∨ w.heap.size ≤ j) := hEE ▸ HNEW
    rw [hEE] at HDV
    clear hEE own4 own5 kk4 hlo4 b4 H2 hb2 r0 r1 r2 f2 rlt r04 r14 r24 f24 hgrow4 HD2 hnil hr
    generalize w4.setCell ⟨gv, 2, none⟩ (.slice a4 n k4) = V5 at *
    have HVM4 : Hid (∀ k, E k → k < V5.heap.size ∧ ¬ M k ∧ k ≠ g) := hE
    clear hE
    refine wp_region_orders 8 rfl (by kernel_rfl) ?_
    have Bd : Below V5.heap.size V5 V5.drew := (Below.refl _ _).drew
    have H6 := HV.below Bd
    have hb6 := next hbV Bd
    have y0 := (Bd.cell (p := ⟨gv, 0, none⟩) hgv).trans p0
    have y1 := (Bd.cell (p := ⟨gv, 1, none⟩) hgv).trans p1
    have y2 := (Bd.cell (p := ⟨gv, 2, none⟩) hgv).trans p2
    have HD6 : Hid (DatZ V5.drew E z (.slice a4 n k4)) := HDV.out.below Bd
    have HE6 : Hid (∀ k, E k → k < V5.drew.heap.size ∧ ¬ M k ∧ k ≠ g) := fun k hk => ⟨Nat.lt_of_lt_of_le (HVM4.out k hk).1 Bd.size, (HVM4.out k hk).2⟩
    clear HV hbV p0 p1 p2 HDV HVM4 Bd hgv
    generalize V5.drew = V6 at *
    clear V5
    have hI : (fun V => V.cell? ⟨g, 9, none⟩ = some (.slice (some ⟨b, o, none⟩) L cap) ∧ V.cell? ⟨gv, 0, none⟩ = some (.int .i64 0) ∧ V.cell? ⟨gv, 1, none⟩ = some (.int .i64 (-1)) ∧ V.cell? ⟨gv, 2, none⟩ = some (.slice a4 n k4)) V6 := ⟨H6.c9, y0, y1, y2⟩
    clear y0 y1 y2
    refine any_inv (fun V => V.cell? ⟨g, 9, none⟩ = some (.slice (some ⟨b, o, none⟩) L cap) ∧ V.cell? ⟨gv, 0, none⟩ = some (.int .i64 0) ∧ V.cell? ⟨gv, 1, none⟩ = some (.int .i64 (-1)) ∧ V.cell? ⟨gv, 2, none⟩ = some (.slice a4 n k4)) [7] hI ?_
    refine inv_take (v := ?v15) [1, 2, 3, 6, 7] 0 hI rfl (by kernel_rfl) (by kernel_rfl) (by kernel_rfl) (by kernel_rfl) (by kernel_rfl) (fun _ _ _ h => h) (by kernel_rfl) (fun V hV => ?hy15) ?go15
    case hy15 => (obtain ⟨i0, i1, i2, i3⟩ := hV; go_simp <;> rfl)
    simp only [Act.put, List.setIfInBounds_toArray, List.set_cons_zero, List.set_cons_succ]
    refine inv_take (v := ?v16) [2, 3, 6, 7] 1 hI rfl (by kernel_rfl) (by kernel_rfl) (by kernel_rfl) (by kernel_rfl) (by kernel_rfl) (fun _ _ _ h => h) (by kernel_rfl) (fun V hV => ?hy16) ?go16
    case hy16 => (obtain ⟨i0, i1, i2, i3⟩ := hV; go_simp <;> rfl)
    simp only [Act.put, List.setIfInBounds_toArray, List.set_cons_zero, List.set_cons_succ]
    refine inv_take (v := ?v17) [3, 6, 7] 2 hI rfl (by kernel_rfl) (by kernel_rfl) (by kernel_rfl) (by kernel_rfl) (by kernel_rfl) (fun _ _ _ h => h) (by kernel_rfl) (fun V hV => ?hy17) ?go17
    case hy17 => (obtain ⟨i0, i1, i2, i3⟩ := hV; go_simp <;> rfl)
    simp only [Act.put, List.setIfInBounds_toArray, List.set_cons_zero, List.set_cons_succ]
    refine inv_take (v := ?v18) [6, 7] 3 hI rfl (by kernel_rfl) (by kernel_rfl) (by kernel_rfl) (by kernel_rfl) (by kernel_rfl) (fun _ _ _ h => h) (by kernel_rfl) (fun V hV => ?hy18) ?go18
    case hy18 => (obtain ⟨i0, i1, i2, i3⟩ := hV; go_simp <;> rfl)
    simp only [Act.put, List.setIfInBounds_toArray, List.set_cons_zero, List.set_cons_succ]
    refine inv_take (v := ?v19) [6, 7] 4 hI rfl (by kernel_rfl) (by kernel_rfl) (by kernel_rfl) (by kernel_rfl) (by kernel_rfl) (fun _ _ _ h => h) (by kernel_rfl) (fun V hV => ?hy19) ?go19
    case hy19 => (obtain ⟨i0, i1, i2, i3⟩ := hV; go_simp <;> rfl)
    simp only [Act.put, List.setIfInBounds_toArray, List.set_cons_zero, List.set_cons_succ]
    refine inv_take (v := ?v20) [6, 7] 5 hI rfl (by kernel_rfl) (by kernel_rfl) (by kernel_rfl) (by kernel_rfl) (by kernel_rfl) (fun _ _ _ h => h) (by kernel_rfl) (fun V hV => ?hy20) ?go20
    case hy20 => (obtain ⟨i0, i1, i2, i3⟩ := hV; go_simp <;> rfl)
    simp only [Act.put, List.setIfInBounds_toArray, List.set_cons_zero, List.set_cons_succ]
    refine inv_take (v := ?v21) [7] 6 hI rfl (by kernel_rfl) (by kernel_rfl) (by kernel_rfl) (by kernel_rfl) (by kernel_rfl) (fun _ _ _ h => h) (by kernel_rfl) (fun V hV => ?hy21) ?go21
    case hy21 => (obtain ⟨i0, i1, i2, i3⟩ := hV; go_simp <;> rfl)
    simp only [Act.put, List.setIfInBounds_toArray, List.set_cons_zero, List.set_cons_succ]
    clear hI
    obtain ⟨xq, dq, b', o', _, _, _, eb, _, hblt, q0, q1, q2, qf⟩ := H6.get hl
    injection eb with eb
    injection eb with eb1 eb2
    subst eb1 eb2
    have g0 : V6.frozen? ⟨b, o + l * 3, none⟩ = false := qf 0 (by omega)
    have g1 := qf 1 (by omega)
    have g2 := qf 2 (by omega)
    obtain ⟨HP, KP⟩ := H6.put (E := E) (y := ⟨(l : Int), 0, (-1), z⟩) (v := .slice a4 n k4) hl rfl HD6.out HE6.out
    have KN := (Keep.of_below (F := M) hb6).trans KP (fun j _ e => e ▸ HMB.out)
    clear qf KP hb6
    refine inv_write 7 (by kernel_rfl) (by kernel_rfl) rfl ?_
    go_wp2_with fail
    refine then_n ?_
    refine any_done (by kernel_rfl) ?_
    go_wp2_with fail
    go_ret
    exact ⟨rfl, KN, _, _, x, _, fun j hj => hj.elim .inl (HNEW.out j), HR.out, HP⟩
  · have x5' : (s == 0) = false := by simp [x5]
    have x6' : (hd == -1) = false := by simp [x6]
    go_enter Try.func43, Try.ntmps43
    go_upto_region 5 with (go_at_call 41; refine (dhere_any h hN l).mono ?_; rintro e w1 ⟨rfl, b1⟩; rw [HH.out]; obtain ⟨k1, k2⟩ := bcell b1)
    clear k1 k2 c0 c2 lt
    have H1 := h.below b1
    obtain ⟨x, d, b, o, hR, hd0, hxn, ea, hMb, hblt, q0, q1, q2, qf⟩ := H1.get hl
    subst ea
    obtain ⟨a0, n0, k0, ed, sd0, _⟩ := hd0
    subst ed
    have HR : Hid (R[l]? = some (x, Value.slice a0 n0 k0)) := hR
    have HD0 : Hid (DatZ w1 D x.z (.slice a0 n0 k0)) := H1.dat _ (List.mem_of_getElem? hR)
    have HMB : Hid (M b) := hMb
    have c9 := H1.c9
    have lt := H1.lt
    have hll : (l : Int) < (L : Int) := by omega
    clear sd0 hR hMb hxn
    go_upto_region 6 with fail
    have r0 : (w1.alloc (.cells #[.int .i64 s, .int .i64 hd, .slice a0 n0 k0] 82)).cell? ⟨w1.heap.size, 0, none⟩ = some (.int .i64 s) := by simp
    have r1 : (w1.alloc (.cells #[.int .i64 s, .int .i64 hd, .slice a0 n0 k0] 82)).cell? ⟨w1.heap.size, 1, none⟩ = some (.int .i64 hd) := by simp
    have r2 : (w1.alloc (.cells #[.int .i64 s, .int .i64 hd, .slice a0 n0 k0] 82)).cell? ⟨w1.heap.size, 2, none⟩ = some (.slice a0 n0 k0) := by simp
    have f2 : (w1.alloc (.cells #[.int .i64 s, .int .i64 hd, .slice a0 n0 k0] 82)).frozen? ⟨w1.heap.size, 2, none⟩ = false := by simp
    have b2 : Below w1.heap.size w1 (w1.alloc (.cells #[.int .i64 s, .int .i64 hd, .slice a0 n0 k0] 82)) := ba (Below.refl _ _)
    have rlt : w1.heap.size < (w1.alloc (.cells #[.int .i64 s, .int .i64 hd, .slice a0 n0 k0] 82)).heap.size := by simp
    have H2 := H1.below b2
    have hb2 := next b1 b2
    have HVM : Hid (∀ j, M j ∨ D j → j < w1.heap.size) := H1.old
    have HVG : Hid (g < w1.heap.size ∧ w.heap.size ≤ w1.heap.size) := ⟨H1.lt, b1.size⟩
    have HD2 : Hid (DatZ (w1.alloc (.cells #[.int .i64 s, .int .i64 hd, .slice a0 n0 k0] 82)) D x.z (.slice a0 n0 k0)) := HD0.out.below b2
    clear HD0 H1 c9 lt q0 q1 q2 qf hblt b2
    generalize w1.heap.size = gv at *
    generalize w1.alloc _ = w2 at *
    clear b1
    clear w1
    obtain ⟨i0, hi, hz0, hz1, hz2⟩ := info_parts Try.infoInt
    have hsx := hs.below hb2
    obtain ⟨hn, hle, hmx, hnil, hr⟩ := hsx
    have hm : n ≤ maxLen := Nat.le_trans hle hmx
    obtain ⟨xb, xo, eax, _⟩ := (hs.below hb2).at hn0
    subst eax
    go_upto_region 7 with fail
    go_upto_region 8 with (at_builtin; refine wpList_append_grows _ rfl _ _ 22 rfl 3 i0 (.int .i64 0) 1 8 Try.underlying22 hi hz0 hz1 hz2 rfl (by decide) none 0 0 [] rfl (fun _ => ⟨rfl, rfl⟩) rfl (fun _ e => by cases e) ⟨xb, xo, none⟩ n cx (cells z) rfl (by simp [cells, hn]) hr.cellsAt (cells_one z) (by omega) (by omega) (by omega) ?_; intro v4 w4 hown4 hgrow4; have own4 : Own w4 w2.heap.size v4 z := (by simpa [Own, hn] using hown4); obtain ⟨a4, k4, ev4, _⟩ := own4.sl' hn; subst ev4; have b4 : Below w2.heap.size w2 w4 := (Below.refl _ _).grown hgrow4 (Nat.le_refl _) (by intro k hk; simp at hk); have r04 := (b4.cell (p := ⟨gv, 0, none⟩) rlt).trans r0; have r14 := (b4.cell (p := ⟨gv, 1, none⟩) rlt).trans r1; have r24 := (b4.cell (p := ⟨gv, 2, none⟩) rlt).trans r2; have f24 := (b4.frozen (p := ⟨gv, 2, none⟩) rlt).trans f2)
    have hlo4 := own4.lo
    have kk4 := Keep.one w4 gv 2 (.slice a4 n k4)
    have HV := (H2.below b4).keep kk4 (fun e => by have := HVG.out.1; omega) (fun j hj e => by have := HVM.out j hj; omega)
    have hbV : Below w.heap.size w (w4.setCell ⟨gv, 2, none⟩ (.slice a4 n k4)) := kk4.after (next hb2 b4) (fun j hj => by have := HVG.out.2; omega)
    have p0 : (w4.setCell ⟨gv, 2, none⟩ (.slice a4 n k4)).cell? ⟨gv, 0, none⟩ = some (.int .i64 s) := by go_simp
    have p1 : (w4.setCell ⟨gv, 2, none⟩ (.slice a4 n k4)).cell? ⟨gv, 1, none⟩ = some (.int .i64 hd) := by go_simp
    have p2 : (w4.setCell ⟨gv, 2, none⟩ (.slice a4 n k4)).cell? ⟨gv, 2, none⟩ = some (.slice a4 n k4) := by go_simp
    have hgv : gv < (w4.setCell ⟨gv, 2, none⟩ (.slice a4 n k4)).heap.size := Nat.lt_of_lt_of_le (Nat.lt_of_lt_of_le rlt b4.size) kk4.size
    have own5 := own4.keep kk4 (fun j hj e => by have := (own4.base j hj).1; omega)
    have hE : ∀ k, (∃ y : Addr, a4 = some y ∧ k = y.block) → k < (w4.setCell ⟨gv, 2, none⟩ (.slice a4 n k4)).heap.size ∧ ¬ M k ∧ k ≠ g := fun k hk => by
      obtain ⟨y, hy, rfl⟩ := hk
      have h1 := hlo4 y hy
      have h2 := HVG.out.1
      exact ⟨Nat.lt_of_lt_of_le h1.2 kk4.size, fun hm => by have := HVM.out _ (.inl hm); omega, by omega⟩
    have HDV : Hid (DatZ (w4.setCell ⟨gv, 2, none⟩ (.slice a4 n k4)) (fun k => ∃ y : Addr, a4 = some y ∧ k = y.block) z (.slice a4 n k4)) := ⟨a4, n, k4, rfl, own_sl own5, hb, fun _ y hy => ⟨y, hy, rfl⟩⟩
    have HNEW : Hid (∀ j, (∃ y : Addr, a4 = some y ∧ j = y.block) → D j ∨ w.heap.size ≤ j) := fun j hj => by obtain ⟨y, hy, rfl⟩ := hj; exact .inr (by have := (hlo4 y hy).1; have := HVG.out.2; omega)
    obtain ⟨E, hEE⟩ : ∃ E : Nat → Prop, (fun k => ∃ y : Addr, a4 = some y ∧ k = y.block) = E := ⟨_, rfl⟩
    replace hE : ∀ k, E k → k < (w4.setCell ⟨gv, 2, none⟩ (.slice a4 n k4)).heap.size ∧ ¬ M k ∧ k ≠ g := hEE ▸ hE
    replace HNEW : Hid (∀ j, E j → D j ∨ w.heap.size ≤ j) := hEE ▸ HNEW
    rw [hEE] at HDV
    clear hEE own4 own5 kk4 hlo4 b4 H2 hb2 r0 r1 r2 f2 rlt r04 r14 r24 f24 hgrow4 HD2 hnil hr
    generalize w4.setCell ⟨gv, 2, none⟩ (.slice a4 n k4) = V5 at *
    have HVM4 : Hid (∀ k, E k → k < V5.heap.size ∧ ¬ M k ∧ k ≠ g) := hE
    clear hE
    refine wp_region_orders 8 rfl (by kernel_rfl) ?_
    have Bd : Below V5.heap.size V5 V5.drew := (Below.refl _ _).drew
    have H6 := HV.below Bd
    have hb6 := next hbV Bd
    have y0 := (Bd.cell (p := ⟨gv, 0, none⟩) hgv).trans p0
    have y1 := (Bd.cell (p := ⟨gv, 1, none⟩) hgv).trans p1
    have y2 := (Bd.cell (p := ⟨gv, 2, none⟩) hgv).trans p2
    have HD6 : Hid (DatZ V5.drew E z (.slice a4 n k4)) := HDV.out.below Bd
    have HE6 : Hid (∀ k, E k → k < V5.drew.heap.size ∧ ¬ M k ∧ k ≠ g) := fun k hk => ⟨Nat.lt_of_lt_of_le (HVM4.out k hk).1 Bd.size, (HVM4.out k hk).2⟩
    clear HV hbV p0 p1 p2 HDV HVM4 Bd hgv
    generalize V5.drew = V6 at *
    clear V5
    have hI : (fun V => V.cell? ⟨g, 9, none⟩ = some (.slice (some ⟨b, o, none⟩) L cap) ∧ V.cell? ⟨gv, 0, none⟩ = some (.int .i64 s) ∧ V.cell? ⟨gv, 1, none⟩ = some (.int .i64 hd) ∧ V.cell? ⟨gv, 2, none⟩ = some (.slice a4 n k4)) V6 := ⟨H6.c9, y0, y1, y2⟩
    clear y0 y1 y2
    refine any_inv (fun V => V.cell? ⟨g, 9, none⟩ = some (.slice (some ⟨b, o, none⟩) L cap) ∧ V.cell? ⟨gv, 0, none⟩ = some (.int .i64 s) ∧ V.cell? ⟨gv, 1, none⟩ = some (.int .i64 hd) ∧ V.cell? ⟨gv, 2, none⟩ = some (.slice a4 n k4)) [7] hI ?_
    refine inv_take (v := ?v22) [1, 2, 3, 6, 7] 0 hI rfl (by kernel_rfl) (by kernel_rfl) (by kernel_rfl) (by kernel_rfl) (by kernel_rfl) (fun _ _ _ h => h) (by kernel_rfl) (fun V hV => ?hy22) ?go22
    case hy22 => (obtain ⟨i0, i1, i2, i3⟩ := hV; go_simp <;> rfl)
    simp only [Act.put, List.setIfInBounds_toArray, List.set_cons_zero, List.set_cons_succ]
    refine inv_take (v := ?v23) [2, 3, 6, 7] 1 hI rfl (by kernel_rfl) (by kernel_rfl) (by kernel_rfl) (by kernel_rfl) (by kernel_rfl) (fun _ _ _ h => h) (by kernel_rfl) (fun V hV => ?hy23) ?go23
    case hy23 => (obtain ⟨i0, i1, i2, i3⟩ := hV; go_simp <;> rfl)
    simp only [Act.put, List.setIfInBounds_toArray, List.set_cons_zero, List.set_cons_succ]
    refine inv_take (v := ?v24) [3, 6, 7] 2 hI rfl (by kernel_rfl) (by kernel_rfl) (by kernel_rfl) (by kernel_rfl) (by kernel_rfl) (fun _ _ _ h => h) (by kernel_rfl) (fun V hV => ?hy24) ?go24
    case hy24 => (obtain ⟨i0, i1, i2, i3⟩ := hV; go_simp <;> rfl)
    simp only [Act.put, List.setIfInBounds_toArray, List.set_cons_zero, List.set_cons_succ]
    refine inv_take (v := ?v25) [6, 7] 3 hI rfl (by kernel_rfl) (by kernel_rfl) (by kernel_rfl) (by kernel_rfl) (by kernel_rfl) (fun _ _ _ h => h) (by kernel_rfl) (fun V hV => ?hy25) ?go25
    case hy25 => (obtain ⟨i0, i1, i2, i3⟩ := hV; go_simp <;> rfl)
    simp only [Act.put, List.setIfInBounds_toArray, List.set_cons_zero, List.set_cons_succ]
    refine inv_take (v := ?v26) [6, 7] 4 hI rfl (by kernel_rfl) (by kernel_rfl) (by kernel_rfl) (by kernel_rfl) (by kernel_rfl) (fun _ _ _ h => h) (by kernel_rfl) (fun V hV => ?hy26) ?go26
    case hy26 => (obtain ⟨i0, i1, i2, i3⟩ := hV; go_simp <;> rfl)
    simp only [Act.put, List.setIfInBounds_toArray, List.set_cons_zero, List.set_cons_succ]
    refine inv_take (v := ?v27) [6, 7] 5 hI rfl (by kernel_rfl) (by kernel_rfl) (by kernel_rfl) (by kernel_rfl) (by kernel_rfl) (fun _ _ _ h => h) (by kernel_rfl) (fun V hV => ?hy27) ?go27
    case hy27 => (obtain ⟨i0, i1, i2, i3⟩ := hV; go_simp <;> rfl)
    simp only [Act.put, List.setIfInBounds_toArray, List.set_cons_zero, List.set_cons_succ]
    refine inv_take (v := ?v28) [7] 6 hI rfl (by kernel_rfl) (by kernel_rfl) (by kernel_rfl) (by kernel_rfl) (by kernel_rfl) (fun _ _ _ h => h) (by kernel_rfl) (fun V hV => ?hy28) ?go28
    case hy28 => (obtain ⟨i0, i1, i2, i3⟩ := hV; go_simp <;> rfl)
    simp only [Act.put, List.setIfInBounds_toArray, List.set_cons_zero, List.set_cons_succ]
    clear hI
    obtain ⟨xq, dq, b', o', _, _, _, eb, _, hblt, q0, q1, q2, qf⟩ := H6.get hl
    injection eb with eb
    injection eb with eb1 eb2
    subst eb1 eb2
    have g0 : V6.frozen? ⟨b, o + l * 3, none⟩ = false := qf 0 (by omega)
    have g1 := qf 1 (by omega)
    have g2 := qf 2 (by omega)
    obtain ⟨HP, KP⟩ := H6.put (E := E) (y := ⟨(l : Int), s, hd, z⟩) (v := .slice a4 n k4) hl rfl HD6.out HE6.out
    have KN := (Keep.of_below (F := M) hb6).trans KP (fun j _ e => e ▸ HMB.out)
    clear qf KP hb6
    refine inv_write 7 (by kernel_rfl) (by kernel_rfl) rfl ?_
    go_wp2_with fail
    refine then_n ?_
    refine any_done (by kernel_rfl) ?_
    go_wp2_with fail
    go_ret
    exact ⟨rfl, KN, _, _, x, _, fun j hj => hj.elim .inl (HNEW.out j), HR.out, HP⟩
end
end Go.Proofs.Ytgeiagndpfdnlaa
