/- The program's home: lock. Conditions: as each theorem states them. -/
import Derived.Test.YtgeiagndpfdnlaaHm2
namespace Go.Proofs.Ytgeiagndpfdnlaa
open Go.RowKit Go.Maps
set_option linter.unusedVariables false
set_option maxRecDepth 20000

section
variable {w wx wy : World} {g g1 g2 n N : Nat} {X Y : Nat → Prop} {K node : Int} {L : List Hr} {o : List (Int × Int)} {q : List Wr}
/-- What is new is the test's own. -/
theorem PH.own (h : PH w wx g g1 g2 X N K node L n o q) (hb : Below wx.heap.size wx wy) : PH w wy g g1 g2 (fun j => X j ∨ (wx.heap.size ≤ j ∧ j < wy.heap.size)) N K node L n o q :=
  h.step (F := fun _ => False) (Keep.of_below hb) (fun _ h => h.elim) (fun j hj => by
    rcases hj with hj | hj
    · exact ⟨.inl hj, Nat.lt_of_lt_of_le (h.xl j hj) hb.size⟩
    · exact ⟨.inr hj.1, hj.2⟩)
/-- Less is the test's own. -/
theorem PH.off (h : PH w wx g g1 g2 Y N K node L n o q) (hX : ∀ j, X j → Y j) : PH w wx g g1 g2 X N K node L n o q :=
  h.step (F := fun _ => False) (Keep.refl _ _) (fun _ h => h.elim) (fun j hj => ⟨.inl (hX j hj), h.xl j (hX j hj)⟩)
theorem nx_less (hX : ∀ j, X j → Y j) {j : Nat} (h : NX w Y j) : NX w X j := ⟨h.1, fun hx => h.2 (hX j hx)⟩
set_option maxHeartbeats 1600000 in
theorem hlock_no (h : PH w wx g g1 g2 X N K node L n o q) (x : Pk) (a : Option Addr) (m c : Nat) (hl : In64 x.l) (h1 : 0 ≤ x.l) (h2 : 0 ≤ x.f) (hn : n ≤ 1000) (hb : askB o q x.l = false) :
    Calls Try.prog 29 #[.pointer (some ⟨g, 0, none⟩), x.val (.slice a m c)] wx fun e w' => e = .returned (.tuple #[zeroPk.val (.slice none 0 0), .bool false]) ∧ Keep (NX w X) wx w' ∧ PH w w' g g1 g2 X N K node L (n + 1) (askO o q x.l x.f) (askQ o q x.l x.f x.i) := by
  have HH : Hid (In64 x.l ∧ 0 ≤ x.l ∧ 0 ≤ x.f ∧ n ≤ 1000) := ⟨hl, h1, h2, hn⟩
  have HBB : Hid (askB o q x.l = false) := hb
  clear hl h1 h2 hn hb
  unfold Pk.val
  go_enter Try.func29, Try.ntmps29
  go_upto_region 1 with fail
  have hB : Below wx.heap.size wx ((wx.alloc (.cells #[.int .i64 x.k, .int .i64 x.f, .int .i64 x.t, .int .i64 x.i, .int .i64 x.l, .int .i64 x.p, .int .i64 x.s, .bool x.fl, .slice a m c] 32)).alloc (.cells #[.int .i64 0, .int .i64 0, .int .i64 0, .int .i64 0, .int .i64 0, .int .i64 0, .int .i64 0, .bool false, .slice none 0 0] 32)) := ba (ba (Below.refl _ _))
  have bxp : Bx ((wx.alloc (.cells #[.int .i64 x.k, .int .i64 x.f, .int .i64 x.t, .int .i64 x.i, .int .i64 x.l, .int .i64 x.p, .int .i64 x.s, .bool x.fl, .slice a m c] 32)).alloc (.cells #[.int .i64 0, .int .i64 0, .int .i64 0, .int .i64 0, .int .i64 0, .int .i64 0, .int .i64 0, .bool false, .slice none 0 0] 32)) wx.heap.size x (.slice a m c) := (Bx.made wx x (.slice a m c)).next (ba (Below.refl _ _))
  have bxr : Bx ((wx.alloc (.cells #[.int .i64 x.k, .int .i64 x.f, .int .i64 x.t, .int .i64 x.i, .int .i64 x.l, .int .i64 x.p, .int .i64 x.s, .bool x.fl, .slice a m c] 32)).alloc (.cells #[.int .i64 0, .int .i64 0, .int .i64 0, .int .i64 0, .int .i64 0, .int .i64 0, .int .i64 0, .bool false, .slice none 0 0] 32)) (wx.heap.size + 1) zeroPk (.slice none 0 0) := Bx.made' (wx.alloc (.cells #[.int .i64 x.k, .int .i64 x.f, .int .i64 x.t, .int .i64 x.i, .int .i64 x.l, .int .i64 x.p, .int .i64 x.s, .bool x.fl, .slice a m c] 32)) zeroPk (.slice none 0 0) _ (by simp)
  have h1 := h.own hB
  have HX : Hid (∀ j, X j → j < wx.heap.size) := h.xl
  have HWS : Hid (w.heap.size ≤ wx.heap.size) := h.bel.size
  clear h
  generalize World.alloc _ (.cells #[.int .i64 0, .int .i64 0, .int .i64 0, .int .i64 0, .int .i64 0, .int .i64 0, .int .i64 0, .bool false, .slice none 0 0] 32) = W at *
  obtain ⟨q0, q1, q2, q3, q4, q5, q6, q7, q8, qf, ql⟩ := id bxp
  have c0 := h1.c0
  have c1 := h1.c1
  have c2 := h1.c2
  have c3 := h1.c3
  have lt := h1.lt
  refine wp_region_orders 12 rfl (by kernel_rfl) ?_
  have Bd : Below W.heap.size W W.drew := (Below.refl _ _).drew
  replace c1 := (Bd.cell (p := ⟨g, 1, none⟩) lt).trans c1
  replace q1 := (Bd.cell (p := ⟨wx.heap.size, 1, none⟩) ql).trans q1
  replace q3 := (Bd.cell (p := ⟨wx.heap.size, 3, none⟩) ql).trans q3
  replace q4 := (Bd.cell (p := ⟨wx.heap.size, 4, none⟩) ql).trans q4
  have h2 := h1.below Bd
  have bp2 := bxp.next Bd
  have br2 := bxr.next Bd
  have hB2 := next hB Bd
  have HSZ : Hid (wx.heap.size + 1 < W.heap.size) := bxr.lt
  have HXW : Hid (∀ j, wx.heap.size ≤ j → j < W.heap.size → (X j ∨ wx.heap.size ≤ j ∧ j < W.heap.size)) := fun j h1 h2 => .inr ⟨h1, h2⟩
  obtain ⟨zw, ezw⟩ : ∃ zw, W.heap.size = zw := ⟨_, rfl⟩
  rw [ezw] at h2 HSZ HXW
  clear ezw q0 q2 q5 q6 q7 q8 qf bxp bxr h1 hB c0 c2 c3 lt ql
  clear Bd
  generalize W.drew = Wd at *
  clear W
  have hI : (fun V => V.cell? ⟨g, 1, none⟩ = some (.pointer (some ⟨g2, 0, none⟩)) ∧ V.cell? ⟨wx.heap.size, 1, none⟩ = some (.int .i64 x.f) ∧ V.cell? ⟨wx.heap.size, 3, none⟩ = some (.int .i64 x.i) ∧ V.cell? ⟨wx.heap.size, 4, none⟩ = some (.int .i64 x.l)) Wd := ⟨c1, q1, q3, q4⟩
  refine any_inv (fun V => V.cell? ⟨g, 1, none⟩ = some (.pointer (some ⟨g2, 0, none⟩)) ∧ V.cell? ⟨wx.heap.size, 1, none⟩ = some (.int .i64 x.f) ∧ V.cell? ⟨wx.heap.size, 3, none⟩ = some (.int .i64 x.i) ∧ V.cell? ⟨wx.heap.size, 4, none⟩ = some (.int .i64 x.l)) [10] hI ?_
  refine inv_take (v := ?v1) [1, 2, 3, 10, 11] 0 hI rfl (by kernel_rfl) (by kernel_rfl) (by kernel_rfl) (by kernel_rfl) (by kernel_rfl) (fun _ _ _ h => h) (by kernel_rfl) (fun V hV => ?hy1) ?go1
  case hy1 => (obtain ⟨i0, i1, i2, i3⟩ := hV; go_simp <;> rfl)
  simp only [Act.put, List.setIfInBounds_toArray, List.set_cons_zero, List.set_cons_succ]
  refine inv_take (v := ?v2) [2, 3, 10, 11] 1 hI rfl (by kernel_rfl) (by kernel_rfl) (by kernel_rfl) (by kernel_rfl) (by kernel_rfl) (fun _ _ _ h => h) (by kernel_rfl) (fun V hV => ?hy2) ?go2
  case hy2 => (obtain ⟨i0, i1, i2, i3⟩ := hV; go_simp <;> rfl)
  simp only [Act.put, List.setIfInBounds_toArray, List.set_cons_zero, List.set_cons_succ]
  refine inv_take (v := ?v3) [3, 10, 11] 2 hI rfl (by kernel_rfl) (by kernel_rfl) (by kernel_rfl) (by kernel_rfl) (by kernel_rfl) (fun _ _ _ h => h) (by kernel_rfl) (fun V hV => ?hy3) ?go3
  case hy3 => (obtain ⟨i0, i1, i2, i3⟩ := hV; go_simp <;> rfl)
  simp only [Act.put, List.setIfInBounds_toArray, List.set_cons_zero, List.set_cons_succ]
  refine inv_take (v := ?v4) [10, 11] 3 hI rfl (by kernel_rfl) (by kernel_rfl) (by kernel_rfl) (by kernel_rfl) (by kernel_rfl) (fun _ _ _ h => h) (by kernel_rfl) (fun V hV => ?hy4) ?go4
  case hy4 => (obtain ⟨i0, i1, i2, i3⟩ := hV; go_simp <;> rfl)
  simp only [Act.put, List.setIfInBounds_toArray, List.set_cons_zero, List.set_cons_succ]
  refine inv_take (v := ?v5) [5, 10, 11] 4 hI rfl (by kernel_rfl) (by kernel_rfl) (by kernel_rfl) (by kernel_rfl) (by kernel_rfl) (fun _ _ _ h => h) (by kernel_rfl) (fun V hV => ?hy5) ?go5
  case hy5 => (obtain ⟨i0, i1, i2, i3⟩ := hV; go_simp <;> rfl)
  simp only [Act.put, List.setIfInBounds_toArray, List.set_cons_zero, List.set_cons_succ]
  refine inv_take (v := ?v6) [10, 11] 5 hI rfl (by kernel_rfl) (by kernel_rfl) (by kernel_rfl) (by kernel_rfl) (by kernel_rfl) (fun _ _ _ h => h) (by kernel_rfl) (fun V hV => ?hy6) ?go6
  case hy6 => (obtain ⟨i0, i1, i2, i3⟩ := hV; go_simp <;> rfl)
  simp only [Act.put, List.setIfInBounds_toArray, List.set_cons_zero, List.set_cons_succ]
  refine inv_take (v := ?v7) [7, 10, 11] 6 hI rfl (by kernel_rfl) (by kernel_rfl) (by kernel_rfl) (by kernel_rfl) (by kernel_rfl) (fun _ _ _ h => h) (by kernel_rfl) (fun V hV => ?hy7) ?go7
  case hy7 => (obtain ⟨i0, i1, i2, i3⟩ := hV; go_simp <;> rfl)
  simp only [Act.put, List.setIfInBounds_toArray, List.set_cons_zero, List.set_cons_succ]
  refine inv_take (v := ?v8) [10, 11] 7 hI rfl (by kernel_rfl) (by kernel_rfl) (by kernel_rfl) (by kernel_rfl) (by kernel_rfl) (fun _ _ _ h => h) (by kernel_rfl) (fun V hV => ?hy8) ?go8
  case hy8 => (obtain ⟨i0, i1, i2, i3⟩ := hV; go_simp <;> rfl)
  simp only [Act.put, List.setIfInBounds_toArray, List.set_cons_zero, List.set_cons_succ]
  refine inv_take (v := ?v9) [9, 10, 11] 8 hI rfl (by kernel_rfl) (by kernel_rfl) (by kernel_rfl) (by kernel_rfl) (by kernel_rfl) (fun _ _ _ h => h) (by kernel_rfl) (fun V hV => ?hy9) ?go9
  case hy9 => (obtain ⟨i0, i1, i2, i3⟩ := hV; go_simp <;> rfl)
  simp only [Act.put, List.setIfInBounds_toArray, List.set_cons_zero, List.set_cons_succ]
  refine inv_take (v := ?v10) [10, 11] 9 hI rfl (by kernel_rfl) (by kernel_rfl) (by kernel_rfl) (by kernel_rfl) (by kernel_rfl) (fun _ _ _ h => h) (by kernel_rfl) (fun V hV => ?hy10) ?go10
  case hy10 => (obtain ⟨i0, i1, i2, i3⟩ := hV; go_simp <;> rfl)
  simp only [Act.put, List.setIfInBounds_toArray, List.set_cons_zero, List.set_cons_succ]
  refine inv_write 10 (by kernel_rfl) (by kernel_rfl) rfl ?_
  go_wp2_with (go_at_call 54; refine (hp_ask h2.hp x.i HH.out.1 HH.out.2.1 HH.out.2.2.1 HH.out.2.2.2).mono ?_; rw [HBB.out]; rintro e V2 ⟨rfl, hk2, p2⟩; obtain ⟨hk3, h3⟩ := h2.call hk2 p2)
  refine then_n ?_
  refine any_list 11 (by kernel_rfl) rfl ?_
  go_wp2_with fail
  refine then_n ?_
  clear hI c1 q1 q3 q4
  refine any_done (by kernel_rfl) ?_
  have br3 := br2.keep hk2 (fun hf => hf.2 (.inl (HXW.out _ (by omega) HSZ.out)))
  have hK := Keep.pre hB2 (hk3.mono (G := NX w X) (fun j _ hj => nx_less (fun j hx => .inl hx) hj))
  clear hk2 hk3 p2 br2 bp2 h2 hB2
  obtain ⟨r0, r1, r2, r3, r4, r5, r6, r7, r8, rf, rl⟩ := id br3
  have f0 := rf 0
  go_wp2_with fail
  have hkk : Keep (fun k => k = wx.heap.size + 1) V2 _ := far9 (g := wx.heap.size + 1) (y := zeroPk) (v := .slice none 0 0) (W := V2) (P := fun V => Keep (fun k => k = wx.heap.size + 1) V2 V) (fun V o u h => h.setCell (.inl rfl) u) (Keep.refl _ _)
  refine bodyPost_ret (v := .tuple #[Pk.val zeroPk (.slice none 0 0), .bool false]) (by simp [results, Try.results29, go_sem, *, zeroPk]) rfl ⟨rfl, hK.trans hkk (fun j hj e => by omega), h3.step hkk (fun j hj => ?_) (fun j hj => ⟨.inl (.inl hj), ?_⟩)⟩
  · subst hj
    have h1 := HWS.out
    exact ⟨by omega, .inl (HXW.out _ (by omega) HSZ.out)⟩
  · have h1 := h3.xl j (.inl hj)
    exact Nat.lt_of_lt_of_le h1 hkk.size
set_option maxHeartbeats 1600000 in
theorem hlock_yes (h : PH w wx g g1 g2 X N K node L n o q) (x : Pk) (a : Option Addr) (m c : Nat) (hl : In64 x.l) (h1 : 0 ≤ x.l) (h2 : 0 ≤ x.f) (hn : n ≤ 1000) (hb : askB o q x.l = true) :
    Calls Try.prog 29 #[.pointer (some ⟨g, 0, none⟩), x.val (.slice a m c)] wx fun e w' => ∃ d, e = .returned (.tuple #[(grantR node x.f x.i x.l L).val d, .bool true]) ∧ DatZ w' (fun k => wx.heap.size ≤ k) (grantR node x.f x.i x.l L).z d ∧ Keep (NX w X) wx w' ∧ PH w w' g g1 g2 X N K node L (n + 1) (askO o q x.l x.f) (askQ o q x.l x.f x.i) := by
  have HH : Hid (In64 x.l ∧ 0 ≤ x.l ∧ 0 ≤ x.f ∧ n ≤ 1000) := ⟨hl, h1, h2, hn⟩
  have HBB : Hid (askB o q x.l = true) := hb
  clear hl h1 h2 hn hb
  unfold Pk.val
  go_enter Try.func29, Try.ntmps29
  go_upto_region 1 with fail
  have hB : Below wx.heap.size wx ((wx.alloc (.cells #[.int .i64 x.k, .int .i64 x.f, .int .i64 x.t, .int .i64 x.i, .int .i64 x.l, .int .i64 x.p, .int .i64 x.s, .bool x.fl, .slice a m c] 32)).alloc (.cells #[.int .i64 0, .int .i64 0, .int .i64 0, .int .i64 0, .int .i64 0, .int .i64 0, .int .i64 0, .bool false, .slice none 0 0] 32)) := ba (ba (Below.refl _ _))
  have bxp : Bx ((wx.alloc (.cells #[.int .i64 x.k, .int .i64 x.f, .int .i64 x.t, .int .i64 x.i, .int .i64 x.l, .int .i64 x.p, .int .i64 x.s, .bool x.fl, .slice a m c] 32)).alloc (.cells #[.int .i64 0, .int .i64 0, .int .i64 0, .int .i64 0, .int .i64 0, .int .i64 0, .int .i64 0, .bool false, .slice none 0 0] 32)) wx.heap.size x (.slice a m c) := (Bx.made wx x (.slice a m c)).next (ba (Below.refl _ _))
  have bxr : Bx ((wx.alloc (.cells #[.int .i64 x.k, .int .i64 x.f, .int .i64 x.t, .int .i64 x.i, .int .i64 x.l, .int .i64 x.p, .int .i64 x.s, .bool x.fl, .slice a m c] 32)).alloc (.cells #[.int .i64 0, .int .i64 0, .int .i64 0, .int .i64 0, .int .i64 0, .int .i64 0, .int .i64 0, .bool false, .slice none 0 0] 32)) (wx.heap.size + 1) zeroPk (.slice none 0 0) := Bx.made' (wx.alloc (.cells #[.int .i64 x.k, .int .i64 x.f, .int .i64 x.t, .int .i64 x.i, .int .i64 x.l, .int .i64 x.p, .int .i64 x.s, .bool x.fl, .slice a m c] 32)) zeroPk (.slice none 0 0) _ (by simp)
  have h1 := h.own hB
  have HX : Hid (∀ j, X j → j < wx.heap.size) := h.xl
  have HWS : Hid (w.heap.size ≤ wx.heap.size) := h.bel.size
  clear h
  generalize World.alloc _ (.cells #[.int .i64 0, .int .i64 0, .int .i64 0, .int .i64 0, .int .i64 0, .int .i64 0, .int .i64 0, .bool false, .slice none 0 0] 32) = W at *
  obtain ⟨q0, q1, q2, q3, q4, q5, q6, q7, q8, qf, ql⟩ := id bxp
  have c0 := h1.c0
  have c1 := h1.c1
  have c2 := h1.c2
  have c3 := h1.c3
  have lt := h1.lt
  refine wp_region_orders 12 rfl (by kernel_rfl) ?_
  have Bd : Below W.heap.size W W.drew := (Below.refl _ _).drew
  replace c1 := (Bd.cell (p := ⟨g, 1, none⟩) lt).trans c1
  replace q1 := (Bd.cell (p := ⟨wx.heap.size, 1, none⟩) ql).trans q1
  replace q3 := (Bd.cell (p := ⟨wx.heap.size, 3, none⟩) ql).trans q3
  replace q4 := (Bd.cell (p := ⟨wx.heap.size, 4, none⟩) ql).trans q4
  have h2 := h1.below Bd
  have bp2 := bxp.next Bd
  have br2 := bxr.next Bd
  have hB2 := next hB Bd
  have HSZ : Hid (wx.heap.size + 1 < W.heap.size) := bxr.lt
  have HXW : Hid (∀ j, wx.heap.size ≤ j → j < W.heap.size → (X j ∨ wx.heap.size ≤ j ∧ j < W.heap.size)) := fun j h1 h2 => .inr ⟨h1, h2⟩
  obtain ⟨zw, ezw⟩ : ∃ zw, W.heap.size = zw := ⟨_, rfl⟩
  rw [ezw] at h2 HSZ HXW
  clear ezw q0 q2 q5 q6 q7 q8 qf bxp bxr h1 hB c0 c2 c3 lt ql
  clear Bd
  generalize W.drew = Wd at *
  clear W
  have hI : (fun V => V.cell? ⟨g, 1, none⟩ = some (.pointer (some ⟨g2, 0, none⟩)) ∧ V.cell? ⟨wx.heap.size, 1, none⟩ = some (.int .i64 x.f) ∧ V.cell? ⟨wx.heap.size, 3, none⟩ = some (.int .i64 x.i) ∧ V.cell? ⟨wx.heap.size, 4, none⟩ = some (.int .i64 x.l)) Wd := ⟨c1, q1, q3, q4⟩
  refine any_inv (fun V => V.cell? ⟨g, 1, none⟩ = some (.pointer (some ⟨g2, 0, none⟩)) ∧ V.cell? ⟨wx.heap.size, 1, none⟩ = some (.int .i64 x.f) ∧ V.cell? ⟨wx.heap.size, 3, none⟩ = some (.int .i64 x.i) ∧ V.cell? ⟨wx.heap.size, 4, none⟩ = some (.int .i64 x.l)) [10] hI ?_
  refine inv_take (v := ?v1) [1, 2, 3, 10, 11] 0 hI rfl (by kernel_rfl) (by kernel_rfl) (by kernel_rfl) (by kernel_rfl) (by kernel_rfl) (fun _ _ _ h => h) (by kernel_rfl) (fun V hV => ?hy1) ?go1
  case hy1 => (obtain ⟨i0, i1, i2, i3⟩ := hV; go_simp <;> rfl)
  simp only [Act.put, List.setIfInBounds_toArray, List.set_cons_zero, List.set_cons_succ]
  refine inv_take (v := ?v2) [2, 3, 10, 11] 1 hI rfl (by kernel_rfl) (by kernel_rfl) (by kernel_rfl) (by kernel_rfl) (by kernel_rfl) (fun _ _ _ h => h) (by kernel_rfl) (fun V hV => ?hy2) ?go2
  case hy2 => (obtain ⟨i0, i1, i2, i3⟩ := hV; go_simp <;> rfl)
  simp only [Act.put, List.setIfInBounds_toArray, List.set_cons_zero, List.set_cons_succ]
  refine inv_take (v := ?v3) [3, 10, 11] 2 hI rfl (by kernel_rfl) (by kernel_rfl) (by kernel_rfl) (by kernel_rfl) (by kernel_rfl) (fun _ _ _ h => h) (by kernel_rfl) (fun V hV => ?hy3) ?go3
  case hy3 => (obtain ⟨i0, i1, i2, i3⟩ := hV; go_simp <;> rfl)
  simp only [Act.put, List.setIfInBounds_toArray, List.set_cons_zero, List.set_cons_succ]
  refine inv_take (v := ?v4) [10, 11] 3 hI rfl (by kernel_rfl) (by kernel_rfl) (by kernel_rfl) (by kernel_rfl) (by kernel_rfl) (fun _ _ _ h => h) (by kernel_rfl) (fun V hV => ?hy4) ?go4
  case hy4 => (obtain ⟨i0, i1, i2, i3⟩ := hV; go_simp <;> rfl)
  simp only [Act.put, List.setIfInBounds_toArray, List.set_cons_zero, List.set_cons_succ]
  refine inv_take (v := ?v5) [5, 10, 11] 4 hI rfl (by kernel_rfl) (by kernel_rfl) (by kernel_rfl) (by kernel_rfl) (by kernel_rfl) (fun _ _ _ h => h) (by kernel_rfl) (fun V hV => ?hy5) ?go5
  case hy5 => (obtain ⟨i0, i1, i2, i3⟩ := hV; go_simp <;> rfl)
  simp only [Act.put, List.setIfInBounds_toArray, List.set_cons_zero, List.set_cons_succ]
  refine inv_take (v := ?v6) [10, 11] 5 hI rfl (by kernel_rfl) (by kernel_rfl) (by kernel_rfl) (by kernel_rfl) (by kernel_rfl) (fun _ _ _ h => h) (by kernel_rfl) (fun V hV => ?hy6) ?go6
  case hy6 => (obtain ⟨i0, i1, i2, i3⟩ := hV; go_simp <;> rfl)
  simp only [Act.put, List.setIfInBounds_toArray, List.set_cons_zero, List.set_cons_succ]
  refine inv_take (v := ?v7) [7, 10, 11] 6 hI rfl (by kernel_rfl) (by kernel_rfl) (by kernel_rfl) (by kernel_rfl) (by kernel_rfl) (fun _ _ _ h => h) (by kernel_rfl) (fun V hV => ?hy7) ?go7
  case hy7 => (obtain ⟨i0, i1, i2, i3⟩ := hV; go_simp <;> rfl)
  simp only [Act.put, List.setIfInBounds_toArray, List.set_cons_zero, List.set_cons_succ]
  refine inv_take (v := ?v8) [10, 11] 7 hI rfl (by kernel_rfl) (by kernel_rfl) (by kernel_rfl) (by kernel_rfl) (by kernel_rfl) (fun _ _ _ h => h) (by kernel_rfl) (fun V hV => ?hy8) ?go8
  case hy8 => (obtain ⟨i0, i1, i2, i3⟩ := hV; go_simp <;> rfl)
  simp only [Act.put, List.setIfInBounds_toArray, List.set_cons_zero, List.set_cons_succ]
  refine inv_take (v := ?v9) [9, 10, 11] 8 hI rfl (by kernel_rfl) (by kernel_rfl) (by kernel_rfl) (by kernel_rfl) (by kernel_rfl) (fun _ _ _ h => h) (by kernel_rfl) (fun V hV => ?hy9) ?go9
  case hy9 => (obtain ⟨i0, i1, i2, i3⟩ := hV; go_simp <;> rfl)
  simp only [Act.put, List.setIfInBounds_toArray, List.set_cons_zero, List.set_cons_succ]
  refine inv_take (v := ?v10) [10, 11] 9 hI rfl (by kernel_rfl) (by kernel_rfl) (by kernel_rfl) (by kernel_rfl) (by kernel_rfl) (fun _ _ _ h => h) (by kernel_rfl) (fun V hV => ?hy10) ?go10
  case hy10 => (obtain ⟨i0, i1, i2, i3⟩ := hV; go_simp <;> rfl)
  simp only [Act.put, List.setIfInBounds_toArray, List.set_cons_zero, List.set_cons_succ]
  refine inv_write 10 (by kernel_rfl) (by kernel_rfl) rfl ?_
  go_wp2_with (go_at_call 54; refine (hp_ask h2.hp x.i HH.out.1 HH.out.2.1 HH.out.2.2.1 HH.out.2.2.2).mono ?_; rw [HBB.out]; rintro e V2 ⟨rfl, hk2, p2⟩; obtain ⟨hk3, h3⟩ := h2.call hk2 p2)
  refine then_n ?_
  refine any_list 11 (by kernel_rfl) rfl ?_
  go_wp2_with fail
  refine then_n ?_
  clear hI c1 q1 q3 q4
  have bp3 := bp2.keep hk2 (fun hf => hf.2 (.inl (HXW.out _ (Nat.le_refl _) (by have := HSZ.out; omega))))
  refine any_done (by kernel_rfl) ?_
  have br3 := br2.keep hk2 (fun hf => hf.2 (.inl (HXW.out _ (by omega) HSZ.out)))
  have hK := Keep.pre hB2 (hk3.mono (G := NX w X) (fun j _ hj => nx_less (fun j hx => .inl hx) hj))
  have hz2 : Hid (wx.heap.size + 1 < V2.heap.size) := br3.lt
  have hzz : wx.heap.size ≤ V2.heap.size := hK.size
  clear hk2 hk3 p2 br2 bp2 h2 hB2
  obtain ⟨q0, q1, q2, q3, q4, q5, q6, q7, q8, qf, ql⟩ := id bp3
  obtain ⟨P, hP⟩ : ∃ P, grantR node x.f x.i x.l L = P := ⟨_, rfl⟩
  go_wp2_with (go_at_call 35; refine (hgranted_any h3 HH.out.1 x.f x.i).mono ?_; rw [hP]; rintro e V5 ⟨dd, rfl, hd5, b5⟩; obtain ⟨a5, n5, c5, ed, _⟩ := id hd5; subst ed; have br6 := br3.next b5; obtain ⟨r0, r1, r2, r3, r4, r5, r6, r7, r8, rf, rl⟩ := id br6; have f0 := rf 0)
  have hkk : Keep (fun k => k = wx.heap.size + 1) V5 _ := far9 (g := wx.heap.size + 1) (y := P) (v := .slice a5 n5 c5) (W := V5) (P := fun V => Keep (fun k => k = wx.heap.size + 1) V5 V) (fun V o u h => h.setCell (.inl rfl) u) (Keep.refl _ _)
  refine bodyPost_ret (v := .tuple #[Pk.val P (.slice a5 n5 c5), .bool true]) (by simp [results, Try.results29, go_sem, *]) rfl ⟨_, by rw [hP], by rw [hP]; exact (hd5.keep hkk (fun j hj e => by have := hz2.out; omega)).imp (fun j _ hj => by omega), (hK.trans (Keep.of_below (F := fun _ => False) b5) (fun j _ h => h.elim)).trans hkk (fun j hj e => by omega), (h3.below b5).step hkk (fun j hj => ?_) (fun j hj => ⟨.inl (.inl hj), ?_⟩)⟩
  · subst hj
    have h1 := HWS.out
    exact ⟨by omega, .inl (HXW.out _ (by omega) HSZ.out)⟩
  · have h1 := h3.xl j (.inl hj)
    have h2 := b5.size
    have h4 := hkk.size
    omega
end
end Go.Proofs.Ytgeiagndpfdnlaa
