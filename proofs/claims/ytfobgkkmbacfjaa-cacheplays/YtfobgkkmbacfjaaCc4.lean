/- The program's cache: Touch, Drop. Conditions: as each theorem states them. -/
import Derived.Test.YtfobgkkmbacfjaaCc3
namespace Go.Proofs.Ytfobgkkmbacfjaa
open Go.RowKit Go.Maps
set_option linter.unusedVariables false
set_option maxRecDepth 20000

section
variable {w : World} {g be bo : Nat} {M D : Nat → Prop} {S W k : Int} {R : List (En × Value)} {O : List OE}
theorem CW.del (h : CW w g be bo M D S W k R O) {n : Int} (hn : In64 n) (ty : TypeId) :
    ∃ w', (Builtin.delete_ #[88, 3] ty #[.map (some be), .int .i64 n]).run Try.prog w = .ok (.tuple #[]) w' ∧ CW w' g be bo M D S W k (delK eKey n R) O ∧ Keep (fun j => j = be) w w' ∧ w'.heap.size = w.heap.size := by
  obtain ⟨w', hrun, im, ht⟩ := h.ents.drop Try.underlying88 hn ty
  refine ⟨w', hrun, h.newents ht (by rw [← kv_del]; exact im) (rise_del h.rise) (fun r hr => h.dat r (mem_delK.1 hr).1) (fun r hr => h.inn r (mem_delK.1 hr).1) (fun j hj => h.old j (.inr hj)) h.dj, turned_keep ht, turned_size ht⟩
theorem CC.touch_no (h : CW w g be bo M D S W k R O) {n : Int} (hn : In64 n) (hh : hasE R n = false) :
    Calls Try.prog 19 #[.pointer (some ⟨g, 0, none⟩), .int .i64 n] w fun e w' => e = .returned (.bool false) ∧ Below w.heap.size w w' := by
  have H : Hid (CW w g be bo M D S W k R O) := h
  have lt := h.lt
  have HBE : Hid (be < w.heap.size) := h.ents.lt
  have c3 := h.c3
  have hlk := fun V (hV : Below w.heap.size w V) => h.look hn hV
  obtain ⟨ya, yn, yc, ey, hys, hyb, hyd⟩ := h.entDat n
  have HYE : Hid (entAt R n = ((entAt R n).1, .slice ya yn yc)) := by
    show _ = _
    rw [← ey]
  obtain ⟨y, hy⟩ : ∃ y, (entAt R n).1 = y := ⟨_, rfl⟩
  rw [HYE.out, hy, hh] at hlk
  unfold eVal at hlk
  simp only at hlk
  have HY : Hid (entAt R n = (y, .slice ya yn yc)) := by rw [← hy]; exact HYE
  have hl := hlk w (Below.refl _ _)
  clear HYE ey hys hyb hyd hy h hh hlk
  go_enter Try.func19, Try.ntmps19
  go_wp2_with fail
  go_ret
  exact ⟨rfl, ba (Below.refl _ _)⟩
theorem CC.touch_ok (h : CW w g be bo M D S W k R O) {n : Int} (hn : In64 n) (hh : hasE R n = true) (hR : R.length ≤ 1000000) (hk : 0 ≤ k ∧ k < 1000000000) (hO : O.length ≤ 1000000)
    {p : OE} {i : Nat} (hp : getK OE.s (setI S n) O = some p) (hL : p.l.length ≤ 1000000) (hx : p.l[i]? = some n) (hi : ∀ j, j < i → p.l[j]? ≠ some n)
    (hO2 : (leaveO p i O).length ≤ 1000000) (hL2 : (ordL (leaveO p i O) (setI S n)).length ≤ 1000000) :
    Calls Try.prog 19 #[.pointer (some ⟨g, 0, none⟩), .int .i64 n] w fun e w' => e = .returned (.bool true) ∧ Keep M w w' ∧
      ∃ M', ∃ q : OE, (∀ j, M' j → M j ∨ w.heap.size ≤ j) ∧ q.s = setI S n ∧ q.l = ordL (leaveO p i O) (setI S n) ++ [n] ∧
        CW w' g be bo M' D S W (k + 1) (putK eKey ({ (entAt R n).1 with u := k + 1 }, (entAt R n).2) R) (putK OE.s q (leaveO p i O)) := by
  have H : Hid (CW w g be bo M D S W k R O) := h
  have lt := h.lt
  have HBE : Hid (be < w.heap.size) := h.ents.lt
  have c3 := h.c3
  have hlk := fun V (hV : Below w.heap.size w V) => h.look hn hV
  obtain ⟨ya, yn, yc, ey, hys, hyb, hyd⟩ := h.entDat n
  have HYE : Hid (entAt R n = ((entAt R n).1, .slice ya yn yc)) := by
    show _ = _
    rw [← ey]
  obtain ⟨y, hy⟩ : ∃ y, (entAt R n).1 = y := ⟨_, rfl⟩
  rw [HYE.out, hy, hh] at hlk
  unfold eVal at hlk
  simp only at hlk
  have HY : Hid (entAt R n = (y, .slice ya yn yc)) := by rw [← hy]; exact HYE
  have hl := hlk w (Below.refl _ _)
  have HD : Hid (DatZ w D y.z (.slice ya yn yc)) := by
    have := H.out.entDat n
    rw [HY.out] at this
    exact this
  have HN : Hid (y.n = n ∧ In64 y.n ∧ 0 ≤ y.n) := by
    have e : (getK eKey n R).isSome = true := hh
    cases hg : getK eKey n R with
    | none => rw [hg] at e; cases e
    | some r =>
      obtain ⟨h1, h2⟩ := getK_some hg
      have h3 : entAt R n = r := by unfold entAt; rw [hg]; rfl
      have h4 : r = (y, .slice ya yn yc) := h3.symm.trans HY.out
      subst h4
      exact ⟨h2, H.out.inn _ h1⟩
  rw [HY.out]
  clear HYE ey hys hyb hyd hy h hh hlk
  go_enter Try.func19, Try.ntmps19
  go_upto_region 6 with (first
    | (go_at_call 42; refine (CC.use_any C7 n hk hO2 hL2).mono ?_; rintro e w8 ⟨rfl, k8, q, hq1, hq2, C8⟩; have kb8 := kb7.keep k8 (fun hm => by have := H.out.old _ (.inl hm); omega); obtain ⟨r0, r1, r2, r3, r4, r5⟩ := kb8.lit; obtain ⟨s0, s1, s2, s3, s4, s5⟩ := kb8.lit')
    | (go_at_call 46; have B1 : Below w.heap.size w (w.alloc (.cells #[.int .i64 y.f, .int .i64 y.b, .int .i64 y.n, .int .i64 y.u, .bool y.q, .slice ya yn yc] 35)) := ba (Below.refl _ _); have E1 := Eb.made w y (.slice ya yn yc); refine (CC.leave_any (H.out.below B1) n hO hp hL hx hi).mono ?_; rintro e w7 ⟨rfl, k7, z7, C7⟩; have kb7 := E1.keep k7 (fun hm => by have := H.out.old _ (.inl hm); omega); obtain ⟨t0, t1, t2, t3, t4, t5⟩ := kb7.lit))
  have hz1 : (w.alloc (.cells #[.int .i64 y.f, .int .i64 y.b, .int .i64 y.n, .int .i64 y.u, .bool y.q, .slice ya yn yc] 35)).heap.size = w.heap.size + 1 := by simp
  have K2 : Keep (fun j => j = w.heap.size) w8 (w8.setCell ⟨w.heap.size, 3, none⟩ (.int .i64 (k + 1))) := Keep.one _ _ _ _
  have CV := C8.keep K2 (fun j hj e => by
    subst e
    rcases hj with (hj | hj) | hj
    · have := H.out.old _ (.inl hj); omega
    · omega
    · have := H.out.old _ (.inr hj); omega)
  have KV : Keep M w (w8.setCell ⟨w.heap.size, 3, none⟩ (.int .i64 (k + 1))) := (((Keep.of_below (F := M) B1).trans k7 (fun j _ h => h)).trans k8 (fun j _ h => h)).trans (G := fun j => j = w.heap.size) K2 (fun j hj e => by omega)
  have EV := kb8.setU (k + 1)
  change Eb _ w.heap.size 0 { y with u := k + 1 } (.slice ya yn yc) at EV
  have HDV : Hid (DatZ (w8.setCell ⟨w.heap.size, 3, none⟩ (.int .i64 (k + 1))) D y.z (.slice ya yn yc)) := HD.out.keep KV (fun j hd hm => H.out.dj j hm hd)
  have HMM : Hid (∀ j, (M j ∨ (w7.heap.size ≤ j ∧ j < w8.heap.size)) → M j ∨ w.heap.size ≤ j) := fun j hj => hj.imp id (fun h => by omega)
  clear r0 r1 r2 r3 r4 r5 s0 s1 s2 s3 s4 s5 t0 t1 t2 t3 t4 t5 kb7 kb8 E1 K2 B1 C8 k8 k7 C7 z7 hz1 hl
  generalize w8.setCell ⟨w.heap.size, 3, none⟩ (.int .i64 (k + 1)) = V2 at *
  generalize w7.heap.size = z7 at *
  generalize w8.heap.size = z8 at *
  obtain ⟨y2, hy2⟩ : ∃ y2 : En, y2 = { y with u := k + 1 } := ⟨_, rfl⟩
  have HY2 : Hid (y2.n = n) := by show y2.n = n; rw [hy2]; exact HN.out.1
  have HY3 : Hid (y2 = { y with u := k + 1 }) := hy2
  rw [← hy2] at EV
  clear hy2
  refine wp_region_orders 7 rfl (by kernel_rfl) ?_
  have Bd : Below V2.heap.size V2 V2.drew := (Below.refl _ _).drew
  have CV1 := CV.below Bd
  have KV1 := KV.next Bd
  have EV1 := EV.next Bd
  have HDV1 := HDV.out.below Bd
  clear CV KV EV HDV Bd
  generalize V2.drew = V3 at *
  obtain ⟨p0, p1, p2, p3, p4, p5⟩ := EV1.lit
  have hI : (fun V : World => V.cell? ⟨g, 3, none⟩ = some (.map (some be)) ∧ V.cell? ⟨w.heap.size, 0, none⟩ = some (.int .i64 y2.f) ∧ V.cell? ⟨w.heap.size, 1, none⟩ = some (.int .i64 y2.b) ∧ V.cell? ⟨w.heap.size, 2, none⟩ = some (.int .i64 y2.n) ∧ V.cell? ⟨w.heap.size, 3, none⟩ = some (.int .i64 y2.u) ∧ V.cell? ⟨w.heap.size, 4, none⟩ = some (.bool y2.q) ∧ V.cell? ⟨w.heap.size, 5, none⟩ = some (.slice ya yn yc)) V3 := ⟨CV1.c3, p0, p1, p2, p3, p4, p5⟩
  clear p0 p1 p2 p3 p4 p5
  refine any_inv (fun V : World => V.cell? ⟨g, 3, none⟩ = some (.map (some be)) ∧ V.cell? ⟨w.heap.size, 0, none⟩ = some (.int .i64 y2.f) ∧ V.cell? ⟨w.heap.size, 1, none⟩ = some (.int .i64 y2.b) ∧ V.cell? ⟨w.heap.size, 2, none⟩ = some (.int .i64 y2.n) ∧ V.cell? ⟨w.heap.size, 3, none⟩ = some (.int .i64 y2.u) ∧ V.cell? ⟨w.heap.size, 4, none⟩ = some (.bool y2.q) ∧ V.cell? ⟨w.heap.size, 5, none⟩ = some (.slice ya yn yc)) [6] hI ?_
  refine inv_take (v := ?v1) [1, 2, 3, 6] 0 hI rfl (by kernel_rfl) (by kernel_rfl) (by kernel_rfl) (by kernel_rfl) (by kernel_rfl) (fun _ _ _ h => h) (by kernel_rfl) (fun V hV => ?hy1) ?go1
  case hy1 => (obtain ⟨i1, q0, q1, q2, q3, q4, q5⟩ := hV; go_simp <;> rfl)
  simp only [Act.put, List.setIfInBounds_toArray, List.set_cons_zero, List.set_cons_succ]
  refine inv_take (v := ?v2) [2, 3, 6] 1 hI rfl (by kernel_rfl) (by kernel_rfl) (by kernel_rfl) (by kernel_rfl) (by kernel_rfl) (fun _ _ _ h => h) (by kernel_rfl) (fun V hV => ?hy2) ?go2
  case hy2 => (obtain ⟨i1, q0, q1, q2, q3, q4, q5⟩ := hV; go_simp <;> rfl)
  simp only [Act.put, List.setIfInBounds_toArray, List.set_cons_zero, List.set_cons_succ]
  refine inv_take (v := ?v3) [3, 6] 2 hI rfl (by kernel_rfl) (by kernel_rfl) (by kernel_rfl) (by kernel_rfl) (by kernel_rfl) (fun _ _ _ h => h) (by kernel_rfl) (fun V hV => ?hy3) ?go3
  case hy3 => (obtain ⟨i1, q0, q1, q2, q3, q4, q5⟩ := hV; go_simp <;> rfl)
  simp only [Act.put, List.setIfInBounds_toArray, List.set_cons_zero, List.set_cons_succ]
  refine inv_take (v := ?v4) [6] 3 hI rfl (by kernel_rfl) (by kernel_rfl) (by kernel_rfl) (by kernel_rfl) (by kernel_rfl) (fun _ _ _ h => h) (by kernel_rfl) (fun V hV => ?hy4) ?go4
  case hy4 => (obtain ⟨i1, q0, q1, q2, q3, q4, q5⟩ := hV; go_simp <;> rfl)
  simp only [Act.put, List.setIfInBounds_toArray, List.set_cons_zero, List.set_cons_succ]
  refine inv_take (v := ?v5) [6] 4 hI rfl (by kernel_rfl) (by kernel_rfl) (by kernel_rfl) (by kernel_rfl) (by kernel_rfl) (fun _ _ _ h => h) (by kernel_rfl) (fun V hV => ?hy5) ?go5
  case hy5 => (obtain ⟨i1, q0, q1, q2, q3, q4, q5⟩ := hV; go_simp <;> rfl)
  simp only [Act.put, List.setIfInBounds_toArray, List.set_cons_zero, List.set_cons_succ]
  refine inv_take (v := ?v6) [6] 5 hI rfl (by kernel_rfl) (by kernel_rfl) (by kernel_rfl) (by kernel_rfl) (by kernel_rfl) (fun _ _ _ h => h) (by kernel_rfl) (fun V hV => ?hy6) ?go6
  case hy6 => (obtain ⟨i1, q0, q1, q2, q3, q4, q5⟩ := hV; go_simp <;> rfl)
  simp only [Act.put, List.setIfInBounds_toArray, List.set_cons_zero, List.set_cons_succ]
  obtain ⟨w9, hrun9, CN, K9, s9⟩ := CV1.store (D' := D) (x := y2) (d := .slice ya yn yc) hR ⟨by rw [HY2.out]; exact hn, by rw [HY2.out, ← HN.out.1]; exact HN.out.2.2⟩ (by rw [HY3.out]; exact HDV1) (fun j hj => hj) (fun j hj => ⟨CV1.old j (.inr hj), fun hm => CV1.dj j hm hj⟩)
  rw [HY2.out] at hrun9
  have KN : Keep M w w9 := KV1.trans K9 (fun j hj e => by
    subst e
    exact H.out.mg.2.1)
  refine inv_write 6 (by kernel_rfl) (by kernel_rfl) rfl ?_
  clear K9 s9 CV1 KV1 EV1 HDV1 hI
  go_wp2_with fail
  refine then_n ?_
  refine any_done (by kernel_rfl) ?_
  clear hrun9
  go_wp2_with fail
  go_ret
  rw [HY3.out] at CN
  exact ⟨rfl, KN, _, q, HMM.out, hq1, hq2, CN⟩
theorem CC.drop_no (h : CW w g be bo M D S W k R O) {n : Int} (hn : In64 n) (hh : hasE R n = false) :
    Calls Try.prog 16 #[.pointer (some ⟨g, 0, none⟩), .int .i64 n] w fun e w' => e = .returned (.tuple #[zeroEn.val (.slice none 0 0), .bool false]) ∧ Below w.heap.size w w' := by
  have H : Hid (CW w g be bo M D S W k R O) := h
  have lt := h.lt
  have HBE : Hid (be < w.heap.size) := h.ents.lt
  have c3 := h.c3
  have hlk := fun V (hV : Below w.heap.size w V) => h.look hn hV
  obtain ⟨ya, yn, yc, ey, hys, hyb, hyd⟩ := h.entDat n
  have HYE : Hid (entAt R n = ((entAt R n).1, .slice ya yn yc)) := by
    show _ = _
    rw [← ey]
  obtain ⟨y, hy⟩ : ∃ y, (entAt R n).1 = y := ⟨_, rfl⟩
  rw [HYE.out, hy, hh] at hlk
  unfold eVal at hlk
  simp only at hlk
  have HY : Hid (entAt R n = (y, .slice ya yn yc)) := by rw [← hy]; exact HYE
  have hl := hlk (w.alloc (.cells #[.int .i64 0, .int .i64 0, .int .i64 0, .int .i64 0, .bool false, .slice none 0 0] 35)) (ba (Below.refl _ _))
  clear HYE ey hys hyb hyd hy h hh hlk
  go_enter Try.func16, Try.ntmps16
  go_wp2_with fail
  refine bodyPost_ret (v := .tuple #[zeroEn.val (.slice none 0 0), .bool false]) (by simp [results, Try.results16, go_sem, zeroEn, *]) rfl ⟨rfl, ba (ba (Below.refl _ _))⟩
theorem CC.drop_ok (h : CW w g be bo M D S W k R O) {n : Int} (hn : In64 n) (hh : hasE R n = true) (hO : O.length ≤ 1000000)
    {p : OE} {i : Nat} (hp : getK OE.s (setI S n) O = some p) (hL : p.l.length ≤ 1000000) (hx : p.l[i]? = some n) (hi : ∀ j, j < i → p.l[j]? ≠ some n) :
    Calls Try.prog 16 #[.pointer (some ⟨g, 0, none⟩), .int .i64 n] w fun e w' => e = .returned (.tuple #[(entAt R n).1.val (entAt R n).2, .bool true]) ∧ Keep M w w' ∧ DatZ w' D (entAt R n).1.z (entAt R n).2 ∧
      CW w' g be bo M D S W k (delK eKey n R) (leaveO p i O) := by
  have H : Hid (CW w g be bo M D S W k R O) := h
  have lt := h.lt
  have HBE : Hid (be < w.heap.size) := h.ents.lt
  have c3 := h.c3
  have hlk := fun V (hV : Below w.heap.size w V) => h.look hn hV
  obtain ⟨ya, yn, yc, ey, hys, hyb, hyd⟩ := h.entDat n
  have HYE : Hid (entAt R n = ((entAt R n).1, .slice ya yn yc)) := by
    show _ = _
    rw [← ey]
  obtain ⟨y, hy⟩ : ∃ y, (entAt R n).1 = y := ⟨_, rfl⟩
  rw [HYE.out, hy, hh] at hlk
  unfold eVal at hlk
  simp only at hlk
  have HY : Hid (entAt R n = (y, .slice ya yn yc)) := by rw [← hy]; exact HYE
  have hl := hlk (w.alloc (.cells #[.int .i64 0, .int .i64 0, .int .i64 0, .int .i64 0, .bool false, .slice none 0 0] 35)) (ba (Below.refl _ _))
  have HD : Hid (DatZ w D y.z (.slice ya yn yc)) := by
    have := H.out.entDat n
    rw [HY.out] at this
    exact this
  rw [HY.out]
  clear HYE ey hys hyb hyd hy h hh hlk
  go_enter Try.func16, Try.ntmps16
  go_upto_region 5 with (go_at_call 46; have B1 : Below w.heap.size w ((w.alloc (.cells #[.int .i64 0, .int .i64 0, .int .i64 0, .int .i64 0, .bool false, .slice none 0 0] 35)).alloc (.cells #[.int .i64 y.f, .int .i64 y.b, .int .i64 y.n, .int .i64 y.u, .bool y.q, .slice ya yn yc] 35)) := ba (ba (Below.refl _ _)); have E0 := (Eb.made w zeroEn (.slice none 0 0)).next (ba (o := (.cells #[.int .i64 y.f, .int .i64 y.b, .int .i64 y.n, .int .i64 y.u, .bool y.q, .slice ya yn yc] 35)) (Below.refl _ _)); have E1 := Eb.made' (w.alloc (.cells #[.int .i64 0, .int .i64 0, .int .i64 0, .int .i64 0, .bool false, .slice none 0 0] 35)) y (.slice ya yn yc) (w.heap.size + 1) (by simp); refine (CC.leave_any (H.out.below B1) n hO hp hL hx hi).mono ?_; rintro e w7 ⟨rfl, k7, z7, C7⟩; have kb7 := E1.keep k7 (fun hm => by have := H.out.old _ (.inl hm); omega); have ka7 := E0.keep k7 (fun hm => by have := H.out.old _ (.inl hm); omega))
  obtain ⟨w9, hrun9, CN, K9, s9⟩ := C7.del hn 0
  have c37 := C7.c3
  have KN : Keep M w w9 := ((Keep.of_below (F := M) B1).trans k7 (fun j _ h => h)).trans K9 (fun j hj e => by
    subst e
    exact H.out.mg.2.1)
  have HDN : DatZ w9 D y.z (.slice ya yn yc) := HD.out.keep KN (fun j hd hm => H.out.dj j hm hd)
  have e9 := kb7.keep K9 (fun e => by have := HBE.out; omega)
  have a9 := ka7.keep K9 (fun e => by have := HBE.out; omega)
  obtain ⟨p0, p1, p2, p3, p4, p5⟩ := e9.lit
  obtain ⟨q0, q1, q2, q3, q4, q5⟩ := a9.lit
  obtain ⟨f0, f1, f2, f3, f4, f5⟩ := a9.lit'
  have l9 := a9.lt
  clear kb7 ka7 E0 E1 B1 k7 K9 e9 a9 hl z7 C7
  go_wp2_with fail
  have K := Eb.six (x := y) (d := .slice ya yn yc) (g := w.heap.size) (o := 0) (V := w9) (F := fun k => k = w.heap.size) (.inl rfl) (Keep.refl _ w9)
  refine bodyPost_ret (v := .tuple #[y.val (.slice ya yn yc), .bool true]) (by simp [results, Try.results16, go_sem, *]) rfl ⟨rfl, KN.trans K (fun j hj e => by omega), HDN.keep K (fun j hj e => by have := H.out.old j (.inr hj); omega), CN.keep K (fun j hj e => by have := H.out.old j hj; omega)⟩
end
end Go.Proofs.Ytfobgkkmbacfjaa
