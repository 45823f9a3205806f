/- The walk of CacheMemory: it answers true and writes nothing that was there. No condition but that the arguments are such as can come in. -/
import Derived.Test.YteikapeleagedaaCcOn
import Derived.Test.YteikapeleagedaaIntsSame
namespace Go.Proofs.Yteikapeleagedaa
open Go.RowKit Go.Maps
set_option linter.unusedVariables false
set_option maxRecDepth 20000

section
variable {e x : En} {l k : Int}
theorem one_get (h : e.n = l) : getK nOf l [e] = some e := by simp [getK, nOf, h]
theorem one_has (h : e.n = l) : hasL [e] l = true := by unfold hasL; rw [one_get h]; rfl
theorem one_ent (h : e.n = l) : entL [e] l = e := by unfold entL; rw [one_get h]; rfl
theorem one_put (h : e.n = x.n) : putK nOf x [e] = [x] := by simp [putK, insK, nOf, h]
theorem one_touch (h : e.n = l) : touchR k [e] l = (k + 1, [{ e with u := k + 1 }]) := by
  unfold touchR
  rw [one_has h, one_ent h, if_pos rfl]
  exact congrArg (fun z => (k + 1, z)) (one_put (x := { e with u := k + 1 }) rfl)
theorem one_putR (h : e.n = x.n) (hx : 0 ≤ x.n) : putR 1 1 k [e] x = (0, k, [{ x with u := e.u }]) := by
  unfold putR
  rw [if_neg (by omega), one_has h, one_ent h, if_pos rfl]
  exact congrArg (fun z => (0, k, z)) (one_put (x := { x with u := e.u }) h)
theorem one_del (h : e.n = l) : delK nOf l [e] = [] := by simp [delK, nOf, h]
theorem nil_putR (hx : 0 ≤ x.n) : putR 1 1 k [] x = (0, k + 1, [{ x with u := k + 1 }]) := by
  unfold putR
  rw [if_neg (by omega)]
  simp [hasL, getK, fullL, inSet, putK, insK]
theorem nil_has : hasL [] l = false := rfl
end
set_option maxHeartbeats 600000 in
theorem cacheMemory_walk (a : Option Addr) (n1 c1 : Nat) (l1 : List Int) (v : Int) (w : World) (h1 : Sl w a n1 c1 l1) :
    Calls Try.prog 4 #[.slice a n1 c1, .int .i64 v] w fun e w' => e = .returned (.bool true) ∧ Below w.heap.size w w' := by
  obtain ⟨z0, hz0⟩ : ∃ z0, l1.take 3 = z0 := ⟨_, rfl⟩
  obtain ⟨m, hm⟩ : ∃ m, z0.length = m := ⟨_, rfl⟩
  have hm3 : m ≤ 3 := by rw [← hm, ← hz0]; simp; omega
  have HM : Hid (z0.length = m) := hm
  have HZ : Hid (l1.take 3 = z0) := hz0
  clear hm hz0
  obtain ⟨i0, hi, hp0, hp1, hp2⟩ := info_parts Try.infoInt
  have hzl : Hid ((z0 ++ [1]).length = m + 1) := by show _ = _; simp [HM.out]
  have hN := co_new (X := fun _ => False) 1 1 (⟨by decide, by decide⟩ : In64 1) (Below.refl w.heap.size w) (fun _ h => h.elim)
  rw [show max (1 : Int) 1 = 1 by omega] at hN
  obtain ⟨V1, hV1⟩ : ∃ V1, wrap64 (v + 1) = V1 := ⟨_, rfl⟩
  obtain ⟨V2, hV2⟩ : ∃ V2, wrap64 (v + 2) = V2 := ⟨_, rfl⟩
  go_enter Try.func4, Try.ntmps4
  go_upto_region 5 with (first
    | (go_at_call 17; refine (cut_any a l1 n1 c1 3 _ (h1.below b1) (by omega)).mono ?_; rintro e w2 ⟨v1, rfl, own1, hb1⟩; rw [HZ.out] at own1; obtain ⟨ad, cd, rfl, sd⟩ := own1.sl' HM.out)
    | (at_builtin; refine wpList_append_own _ rfl _ _ 22 rfl w1.heap.size 3 i0 (.int .i64 0) 1 8 Try.underlying22 hi hp0 hp1 hp2 rfl (by decide) _ m (cells z0) rfl (World.ownsRow.alloc (by have h := own1; unfold Own at h; rw [HM.out] at h; exact h) _) ⟨_, 0, none⟩ 1 1 (cells [1]) rfl rfl (cell_1i _ _) (cells_one _) (by unfold maxLen; omega) (by omega) (by have := hb1.size; simp; omega) ?_; intro v3 w3 hown3 hg3 hiff; clear hiff; have own3 : Own w3 w1.heap.size v3 (z0 ++ [1]) := (by unfold Own; rw [hzl.out]; simpa [cells] using hown3); clear hown3; obtain ⟨bd, cd2, rfl, bd1, bd2, bds, own3⟩ := own3.row1 hzl.out (by omega))
    | (go_at_call 9; refine hN.mono ?_; rintro e w1 ⟨g, rfl, b1, C1⟩))
  have hr : ∀ k, some k = (Value.slice ad m cd).ownBlock → w1.heap.size ≤ k := by
    intro k hk
    cases ad with
    | none => simp [Value.ownBlock] at hk
    | some x => simp [Value.ownBlock] at hk; subst hk; exact (own1.lo x rfl).1
  have B3 : Below w1.heap.size w1 w3 := ((Keep.of_below (F := fun k => w1.heap.size ≤ k) (next hb1 (ba (Below.refl _ _)))).trans (Keep.grown hg3) (fun k _ h => hr k h)).below (fun k h => h) (Nat.le_refl _)
  clear hr hg3 own1 hb1 sd h1 HZ hi hp0 hp1 hp2 hN b1
  have hle := bds.le
  have hmx := bds.max
  generalize z0 ++ [1] = z at *
  generalize hMM : m + 1 = M at *
  have hM1 : 1 ≤ M ∧ M ≤ 4 := by omega
  clear HM hMM
  unfold maxLen at hmx
  obtain ⟨x0, hx0⟩ : ∃ x0 : En, x0 = ⟨0, 1, 2, 0, true, z⟩ := ⟨_, rfl⟩
  have HX0 : Hid _ := hx0
  clear hx0
  go_upto_region 6 with (first
    | (go_at_call 12; refine (enew_any 2 0 1 true _ z M cd2 _ bds (by omega)).mono ?_; rintro e w4 ⟨a4, c4, rfl, own4, hb4⟩; obtain ⟨b4, c4', e4, b41, b42, b4s, own4⟩ := own4.row1 hzl.out (by omega); injection e4 with e41 e42 e43; subst e41 e43))
  have HN0 : Hid (x0.n = 2) := by show _ = _; rw [HX0.out]
  have HZ0 : Hid (x0.z = z) := by show _ = _; rw [HX0.out]
  have hz3 := B3.size
  have C5 : CO w (w4.alloc (.cells #[.int .i64 0, .int .i64 1, .int .i64 2, .int .i64 0, .bool true, .slice (some ⟨b4, 0, none⟩) M c4] 33)) g (fun j => j = bd ∨ j = b4 ∨ j = w4.heap.size) 1 1 0 [] :=
    C1.grow (next (next B3 hb4) (ba (Below.refl _ _))) (fun j hj => by have := hb4.size; simp; rcases hj with rfl | rfl | rfl <;> omega)
  have E5 : Eb (w4.alloc (.cells #[.int .i64 0, .int .i64 1, .int .i64 2, .int .i64 0, .bool true, .slice (some ⟨b4, 0, none⟩) M c4] 33)) w4.heap.size 0 x0 (.slice (some ⟨b4, 0, none⟩) M c4) := by rw [HX0.out]; exact Eb.made w4 ⟨0, 1, 2, 0, true, z⟩ _
  have d5 := (own3.below hb4).below (ba (o := .cells #[.int .i64 0, .int .i64 1, .int .i64 2, .int .i64 0, .bool true, .slice (some ⟨b4, 0, none⟩) M c4] 33) (Below.refl _ _))
  have p5 := own4.below (ba (o := .cells #[.int .i64 0, .int .i64 1, .int .i64 2, .int .i64 0, .bool true, .slice (some ⟨b4, 0, none⟩) M c4] 33) (Below.refl _ _))
  have hne : bd ≠ b4 ∧ b4 ≠ w4.heap.size ∧ w.heap.size ≤ b4 := by have := hb4.size; have := C1.bel.size; omega
  have hl4 := b4s.le
  have hm4 := b4s.max
  clear bds own3 own4 b4s hb4 bd1 bd2 b41 b42 B3 C1 hz3 e42
  generalize w4.heap.size = ge at *
  generalize w4.alloc _ = W5 at *
  have HC : Hid _ := E5
  obtain ⟨q0, q1, q2, q3, q4, q5⟩ := E5.lit
  go_upto_region 8 with (go_at_call 11; refine (co_put C5 (by omega) x0 (some ⟨b4, 0, none⟩) M c4 (by rw [HZ0.out]; exact p5.slice1 hzl.out) (fun y hy => by obtain rfl := Option.some.inj hy; exact .inl (.inr (.inl rfl))) (by omega) (by rw [HN0.out]; exact ⟨by decide, by decide⟩)).mono ?_; rw [nil_putR (by rw [HN0.out]; omega)]; rintro e w6 ⟨rfl, k6, C6⟩)
  have d6 := d5.keep1 k6 (fun h => h.2 (.inl rfl))
  have p6 := p5.keep1 k6 (fun h => h.2 (.inr (.inl rfl)))
  have E6 := E5.keep k6 (fun h => h.2 (.inr (.inr rfl)))
  obtain ⟨x1, hx1⟩ : ∃ x1 : En, x1 = { x0 with u := 0 + 1 } := ⟨_, rfl⟩
  rw [← hx1, show (0 : Int) + 1 = 1 by omega] at C6
  have H1 : Hid (x1.n = 2 ∧ x1.z = z ∧ x1.u = 1 ∧ x1.q = true) := by rw [hx1]; exact ⟨HN0.out, HZ0.out, by simp, by rw [HX0.out]⟩
  have HQ0 : Hid (x0.q = true) := by show _ = _; rw [HX0.out]
  clear k6 C5 p5 d5 E5 HC q0 q1 q2 q3 q4 q5 HX0 HN0 HZ0 hx1
  obtain ⟨⟨ya, hya⟩, fa⟩ := p6.cell1 hzl.out (k := 0) (by omega)
  go_upto_region 9 with (go_at_call 18; refine (write_ok ge 0 b4 0 x0 M c4 0 0 V1 _ E6 hl4 hm4 HQ0.out rfl (by omega) (by rw [Nat.zero_add, hya]; rfl) (by rw [Nat.zero_add]; exact fa)).mono ?_; rintro e wz ⟨rfl, w7, hb7, rfl⟩; rw [Nat.zero_add])
  have C8 : CO w (w7.setCell ⟨b4, 0, none⟩ (.int .i64 V1)) g (fun j => j = bd) 1 1 1 [x1] := ((C6.below hb7).write (Keep.one w7 b4 0 _) (fun j hj => by subst hj; exact ⟨hne.2.2, .inl (.inr (.inl rfl))⟩)).less (fun j hj => .inl hj)
  have d8 : Own (w7.setCell ⟨b4, 0, none⟩ (.int .i64 V1)) w1.heap.size (.slice (some ⟨bd, 0, none⟩) M cd2) z := (d6.below hb7).far1 hne.1
  clear d6 p6 E6 C6 hya fa hb7 HQ0 hne hl4 hm4
  generalize w7.setCell ⟨b4, 0, none⟩ (.int .i64 V1) = W8 at *
  have F8 := co_find C8 (n := 2) ⟨by decide, by decide⟩
  rw [one_ent H1.out.1, one_has H1.out.1, H1.out.2.1, hzl.out] at F8
  go_upto_region 10 with (go_at_call 13; refine F8.mono ?_; rintro e w9 ⟨a5, c5, rfl, own5, b5⟩)
  obtain ⟨bx, c5', e5, bx1, bx2, bxs, own5⟩ := own5.row1 hzl.out (by omega)
  injection e5 with e51 e52 e53
  subst e51 e53
  have hl5 := bxs.le
  have hm5 := bxs.max
  have hlt := d8.lt1
  have hlw := C8.bel.size
  have C10 : CO w (w9.alloc (.cells #[.int .i64 x1.f, .int .i64 x1.b, .int .i64 x1.n, .int .i64 x1.u, .bool x1.q, .slice (some ⟨bx, 0, none⟩) M c5] 33)) g (fun j => j = bd ∨ j = bx ∨ j = w9.heap.size) 1 1 1 [x1] :=
    C8.grow (next b5 (ba (Below.refl _ _))) (fun j hj => by have := b5.size; simp; rcases hj with rfl | rfl | rfl <;> omega)
  have E10 := Eb.made w9 x1 (.slice (some ⟨bx, 0, none⟩) M c5)
  have d10 := (d8.below b5).below (ba (o := (.cells #[.int .i64 x1.f, .int .i64 x1.b, .int .i64 x1.n, .int .i64 x1.u, .bool x1.q, .slice (some ⟨bx, 0, none⟩) M c5] 33)) (Below.refl _ _))
  have p10 := own5.below (ba (o := (.cells #[.int .i64 x1.f, .int .i64 x1.b, .int .i64 x1.n, .int .i64 x1.u, .bool x1.q, .slice (some ⟨bx, 0, none⟩) M c5] 33)) (Below.refl _ _))
  have hnx : bd ≠ bx ∧ bx ≠ w9.heap.size ∧ w.heap.size ≤ bx ∧ bd ≠ w9.heap.size := by have := b5.size; omega
  clear own5 bxs b5 bx1 bx2 d8 C8 F8 e52 hlt hlw
  generalize w9.heap.size = gx at *
  generalize w9.alloc _ = W10 at *
  have q5 := E10.lit.2.2.2.2.2
  go_upto_region 12 with (go_at_call 19; refine (same_any _ _ z z M M c5 cd2 _ (p10.slice1 hzl.out) (d10.slice1 hzl.out)).mono ?_; rintro e wz ⟨rfl, kk, rfl⟩; rw [decide_eq_true rfl])
  have C11 := C10.below (below_dn W10 kk)
  have E11 := E10.next (below_dn W10 kk)
  have d11 := d10.below (below_dn W10 kk)
  have p11 := p10.below (below_dn W10 kk)
  clear C10 E10 d10 p10 q5
  generalize W10.drewN kk = W11 at *
  obtain ⟨⟨ya, hya⟩, fa⟩ := p11.cell1 hzl.out (k := 0) (by omega)
  go_upto_region 13 with (go_at_call 18; refine (write_ok gx 0 bx 0 x1 M c5 0 0 V2 _ E11 hl5 hm5 H1.out.2.2.2 rfl (by omega) (by rw [Nat.zero_add, hya]; rfl) (by rw [Nat.zero_add]; exact fa)).mono ?_; rintro e wz ⟨rfl, w12, hb12, rfl⟩; rw [Nat.zero_add])
  have K13 := Keep.one w12 bx 0 (.int .i64 V2)
  have C13 := (C11.below hb12).write K13 (fun j hj => by subst hj; exact ⟨hnx.2.2.1, .inl (.inr (.inl rfl))⟩)
  have d13 := (d11.below hb12).keep1 K13 (fun e => hnx.1 e)
  have p13 := (p11.below hb12).set1 hzl.out (k := 0) (by omega) V2
  have E13 := (E11.next hb12).keep K13 (fun e => hnx.2.1 e.symm)
  clear C11 E11 d11 p11 hya fa hb12 K13
  generalize w12.setCell ⟨bx, 0, none⟩ (.int .i64 V2) = W13 at *
  have F13 := co_find C13 (n := 2) ⟨by decide, by decide⟩
  rw [one_ent H1.out.1, one_has H1.out.1, H1.out.2.1, hzl.out] at F13
  go_upto_region 14 with (go_at_call 13; refine F13.mono ?_; rintro e w14 ⟨a6, c6, rfl, own6, b6⟩)
  obtain ⟨by6, c6', e6, by1, by2, bys, own6⟩ := own6.row1 hzl.out (by omega)
  injection e6 with e61 e62 e63
  subst e61 e63
  have C15 := C13.below (next b6 (ba (o := (.cells #[.int .i64 x1.f, .int .i64 x1.b, .int .i64 x1.n, .int .i64 x1.u, .bool x1.q, .slice (some ⟨by6, 0, none⟩) M c6] 33)) (Below.refl _ _)))
  have E15 := Eb.made w14 x1 (.slice (some ⟨by6, 0, none⟩) M c6)
  have EX15 := E13.next (next b6 (ba (o := (.cells #[.int .i64 x1.f, .int .i64 x1.b, .int .i64 x1.n, .int .i64 x1.u, .bool x1.q, .slice (some ⟨by6, 0, none⟩) M c6] 33)) (Below.refl _ _)))
  have d15 := d13.below (next b6 (ba (o := (.cells #[.int .i64 x1.f, .int .i64 x1.b, .int .i64 x1.n, .int .i64 x1.u, .bool x1.q, .slice (some ⟨by6, 0, none⟩) M c6] 33)) (Below.refl _ _)))
  have px15 := p13.below (next b6 (ba (o := (.cells #[.int .i64 x1.f, .int .i64 x1.b, .int .i64 x1.n, .int .i64 x1.u, .bool x1.q, .slice (some ⟨by6, 0, none⟩) M c6] 33)) (Below.refl _ _)))
  have p15 := own6.below (ba (o := (.cells #[.int .i64 x1.f, .int .i64 x1.b, .int .i64 x1.n, .int .i64 x1.u, .bool x1.q, .slice (some ⟨by6, 0, none⟩) M c6] 33)) (Below.refl _ _))
  clear own6 bys b6 by1 by2 d13 C13 F13 E13 p13 e62
  generalize w14.heap.size = gy at *
  generalize w14.alloc _ = W15 at *
  obtain ⟨q0, q1, q2, q3, q4, q5⟩ := E15.lit
  rw [H1.out.2.2.1] at q3
  clear q0 q1 q2 q4
  obtain ⟨x2, hx2⟩ : ∃ x2 : En, x2 = { x1 with z := z.set 0 V2 } := ⟨_, rfl⟩
  have H2 : Hid (x2.n = 2 ∧ x2.z = z.set 0 V2) := by rw [hx2]; exact ⟨H1.out.1, rfl⟩
  have EX15 : Eb W15 gx 0 x2 (.slice (some ⟨bx, 0, none⟩) M c5) := by rw [hx2]; exact ⟨EX15.c0, EX15.c1, EX15.c2, EX15.c3, EX15.c4, EX15.c5, EX15.fz, EX15.lt⟩
  have px15 : Own W15 W8.heap.size (.slice (some ⟨bx, 0, none⟩) M c5) x2.z := by rw [H2.out.2]; exact px15
  have HL2 : Hid (x2.z.length = M) := by show _ = _; rw [H2.out.2, List.length_set]; exact hzl.out
  clear hx2
  go_upto_region 16 with (first
    | (go_at_call 11; go_loud (refine (co_put C17 (by omega) x2 (some ⟨bx, 0, none⟩) M c5 px17s (fun y hy => by obtain rfl := Option.some.inj hy; exact .inl (.inr (.inl rfl))) (by omega) (by rw [H2.out.1]; exact ⟨by decide, by decide⟩)).mono ?_; rw [one_putR (e := ⟨x1.f, x1.b, x1.n, 1 + 1, x1.q, x1.z⟩) (x := x2) (H1.out.1.trans H2.out.1.symm) (by rw [H2.out.1]; omega)]; rintro e w18 ⟨rfl, k18, C18⟩))
    | (go_at_call 20; refine (co_touch C16 (by omega) (n := 2) ⟨by decide, by decide⟩).mono ?_; rw [one_has H1.out.1, one_touch H1.out.1]; rintro e w17 ⟨rfl, k17, C17⟩; have EX17 := EX16.keep k17 (fun h => h.2 (.inr (.inr rfl))); have px17 := px16.keep1 k17 (fun h => h.2 (.inr (.inl rfl))); have px17s := px17.slice1 HL2.out; obtain ⟨s0, s1, s2, s3, s4, s5⟩ := EX17.lit)
    | (go_at_call 19; refine (same_any _ _ z z M M c6 cd2 _ (p15.slice1 hzl.out) (d15.slice1 hzl.out)).mono ?_; rintro e wz ⟨rfl, kk, rfl⟩; rw [decide_eq_true rfl]; have C16 := C15.below (below_dn W15 kk); have EX16 := EX15.next (below_dn W15 kk); have px16 := px15.below (below_dn W15 kk); have r3 := (E15.next (below_dn W15 kk)).lit.2.2.2.1; rw [H1.out.2.2.1] at r3))
  obtain ⟨x3, hx3⟩ : ∃ x3 : En, x3 = { x2 with u := 1 + 1 } := ⟨_, rfl⟩
  have H3 : Hid (x3.n = 2 ∧ x3.z = z.set 0 V2 ∧ x3.u = 2) := by rw [hx3]; exact ⟨H2.out.1, H2.out.2, by simp⟩
  rw [show (1 : Int) + 1 = 2 by omega] at C18
  have C18 : CO w w18 g (fun _ => False) 1 1 2 [x3] := by rw [hx3]; exact C18.less (fun j h => h.elim)
  have HL3 : Hid (x3.z.length = M) := by show _ = _; rw [H3.out.2.1, List.length_set]; exact hzl.out
  clear hx3 k17 k18 C16 C17 EX15 EX16 EX17 px15 px16 px17 px17s s0 s1 s2 s3 s4 s5 r3 q3 q5 d15 p15 E15 C15 HL2 H2 H1
  have F18 := co_find C18 (n := 2) ⟨by decide, by decide⟩
  rw [one_ent H3.out.1, one_has H3.out.1, HL3.out] at F18
  go_upto_region 17 with (go_at_call 13; refine F18.mono ?_; rintro e w19 ⟨a7, c7, rfl, own7, b7⟩)
  obtain ⟨f3, b3, n3, u3, q3, z3⟩ := x3
  obtain ⟨h3n, h3z, h3u⟩ := H3.out
  simp only at h3n h3z h3u
  subst h3u
  have HN3 : Hid (n3 = 2) := h3n
  have HW : Hid (wordI z3 0 = V2) := by
    show _ = _
    rw [h3z]
    have := hzl.out
    cases z with
    | nil => simp at this; omega
    | cons y z => simp [wordI]
  clear h3n h3z H3 F18
  obtain ⟨bz, c7', e7, bz1, bz2, bzs, own7⟩ := own7.row1 HL3.out (by omega)
  injection e7 with e71 e72 e73
  subst e71 e73
  have C20 : CO w (w19.alloc (.cells #[.int .i64 f3, .int .i64 b3, .int .i64 n3, .int .i64 2, .bool q3, .slice (some ⟨bz, 0, none⟩) M c7] 33)) g (fun j => j = bz ∨ j = w19.heap.size) 1 1 2 [⟨f3, b3, n3, 2, q3, z3⟩] :=
    C18.grow (next b7 (ba (Below.refl _ _))) (fun j hj => by have := b7.size; simp; rcases hj with rfl | rfl <;> omega)
  have E20 := Eb.made w19 ⟨f3, b3, n3, 2, q3, z3⟩ (.slice (some ⟨bz, 0, none⟩) M c7)
  have p20 := own7.below (ba (o := (.cells #[.int .i64 f3, .int .i64 b3, .int .i64 n3, .int .i64 2, .bool q3, .slice (some ⟨bz, 0, none⟩) M c7] 33)) (Below.refl _ _))
  clear own7 bzs b7 bz1 bz2 C18 e72
  generalize w19.heap.size = gz at *
  simp only at E20
  generalize w19.alloc _ = W20 at *
  have F20 := co_drop C20 (by omega) (n := 2) ⟨by decide, by decide⟩ (one_has HN3.out)
  rw [one_ent HN3.out, one_del HN3.out] at F20
  go_upto_region 18 with (go_at_call 21; refine F20.mono ?_; rintro e w21 ⟨d, rfl, k21, hd21, C21⟩; obtain ⟨da, dn, dc, rfl, ds, _, _⟩ := hd21)
  have E21 := E20.keep k21 (fun h => h.2 (.inr rfl))
  have p21 := p20.keep1 k21 (fun h => h.2 (.inl rfl))
  have BA : Below w21.heap.size w21 (w21.alloc (.cells #[.int .i64 f3, .int .i64 b3, .int .i64 n3, .int .i64 2, .bool q3, .slice da dn dc] 33)) := ba (Below.refl _ _)
  have C22 := C21.below BA
  have E22 := E21.next BA
  have p22 := p21.below BA
  have ds22 := ds.below BA
  have D22 := Eb.made w21 ⟨f3, b3, n3, 2, q3, z3⟩ (.slice da dn dc)
  simp only at D22
  clear E21 p21 ds C21 k21 E20 p20 C20 F20 BA
  generalize w21.heap.size = gd at *
  generalize w21.alloc _ = W22 at *
  go_upto_region 19 with (go_at_call 21; refine (co_drop_no C22 (n := 2) ⟨by decide, by decide⟩ nil_has).mono ?_; rintro e w23 ⟨rfl, b23⟩)
  have B24 := next b23 (ba (o := .cells #[.int .i64 zeroEn.f, .int .i64 zeroEn.b, .int .i64 zeroEn.n, .int .i64 zeroEn.u, .bool zeroEn.q, .slice none 0 0] 33) (Below.refl _ _))
  have C24 := C22.below B24
  have E24 := E22.next B24
  have p24 := p22.below B24
  have ds24 := ds22.below B24
  have D24 := D22.next B24
  clear C22 E22 p22 ds22 D22 B24 b23
  generalize World.alloc w23 _ = W24 at *
  obtain ⟨q0, q1, q2, r3, q4, q5⟩ := E24.lit
  simp only at q0 q1 q2 r3 q4 q5
  go_wp2_with (first
    | (go_at_call 16; refine (cwakes_any _).mono ?_; rintro e w27 ⟨rfl, b27⟩)
    | (go_at_call 15; refine (co_len C26).mono ?_; rintro e w7 ⟨rfl, rfl⟩; simp only [List.length_nil])
    | (go_at_call 22; have mk := D25; clear mk; refine (word_any ⟨f3, b3, n3, 2, q3, z3⟩ da dn dc 0 _ (ds24.below b25)).mono ?_; rintro e w26 ⟨rfl, b26⟩; rw [HW.out]; have C26 := C24.below (next b25 b26); obtain ⟨y0, y1, y2, y3, y4, y5⟩ := (D25.next b26).lit; simp only at y0 y1 y2 y3 y4 y5)
    | (go_at_call 22; refine (word_any ⟨f3, b3, n3, 2, q3, z3⟩ (some ⟨bz, 0, none⟩) M c7 0 _ (p24.slice1 HL3.out)).mono ?_; rintro e w25 ⟨rfl, b25⟩; rw [HW.out]; have D25 := D24.next b25; obtain ⟨s0, s1, s2, s3, s4, s5⟩ := D25.lit; obtain ⟨t0, t1, t2, t3, t4, t5⟩ := (E24.next b25).lit; simp only at s0 s1 s2 s3 s4 s5 t0 t1 t2 t3 t4 t5))
  go_ret
  exact ⟨rfl, next C26.bel b27⟩
end Go.Proofs.Yteikapeleagedaa
