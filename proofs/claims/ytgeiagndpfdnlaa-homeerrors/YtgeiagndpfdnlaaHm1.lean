/- The program's home: answer, newData, granted. Conditions: as each theorem states them. -/
import Derived.Test.YtgeiagndpfdnlaaHm0
import Derived.Test.YtgeiagndpfdnlaaTake8
namespace Go.Proofs.Ytgeiagndpfdnlaa
open Go.RowKit Go.Maps
set_option linter.unusedVariables false
set_option maxRecDepth 20000

section
variable {w wx : World} {g g1 g2 n N : Nat} {X : Nat → Prop} {K node : Int} {L : List Hr} {o : List (Int × Int)} {q : List Wr}
set_option maxHeartbeats 800000 in
theorem hans_any (h : PH w wx g g1 g2 X N K node L n o q) (rq line who idn : Int) :
    Calls Try.prog 31 #[.pointer (some ⟨g, 0, none⟩), .int .i64 rq, .int .i64 line, .int .i64 who, .int .i64 idn] wx fun e w' => e = .returned ((⟨ansI rq, node, who, idn, line, 0, 0, false, []⟩ : Pk).val (.slice none 0 0)) ∧ Below wx.heap.size wx w' := by
  have c2 := h.c2
  have hg := h.lt
  clear h
  go_enter Try.func31, Try.ntmps31
  go_upto_region 1 with fail
  have hB : Below wx.heap.size wx (wx.alloc (.cells #[.int .i64 0, .int .i64 0, .int .i64 0, .int .i64 0, .int .i64 0, .int .i64 0, .int .i64 0, .bool false, .slice none 0 0] 32)) := ba (Below.refl _ _)
  have bxr : Bx (wx.alloc (.cells #[.int .i64 0, .int .i64 0, .int .i64 0, .int .i64 0, .int .i64 0, .int .i64 0, .int .i64 0, .bool false, .slice none 0 0] 32)) wx.heap.size zeroPk (.slice none 0 0) := Bx.made wx zeroPk (.slice none 0 0)
  replace c2 := (hB.cell (p := ⟨g, 2, none⟩) hg).trans c2
  replace hg := Nat.lt_of_lt_of_le hg hB.size
  generalize World.alloc _ (.cells #[.int .i64 0, .int .i64 0, .int .i64 0, .int .i64 0, .int .i64 0, .int .i64 0, .int .i64 0, .bool false, .slice none 0 0] 32) = W at *
  refine wp_region_orders 11 rfl (by kernel_rfl) ?_
  have Bd : Below W.heap.size W W.drew := (Below.refl _ _).drew
  have hI : (fun V => V.cell? ⟨g, 2, none⟩ = some (.int .i64 node)) W.drew := (Bd.cell (p := ⟨g, 2, none⟩) hg).trans c2
  have br := bxr.next Bd
  have hB2 := next hB Bd
  clear c2 hg hB bxr Bd
  generalize W.drew = V at *
  refine any_inv (fun V => V.cell? ⟨g, 2, none⟩ = some (.int .i64 node)) [10] hI ?_
  refine inv_take (v := ?v1) [1, 9, 10] 0 hI rfl (by kernel_rfl) (by kernel_rfl) (by kernel_rfl) (by kernel_rfl) (by kernel_rfl) (fun _ _ _ h => h) (by kernel_rfl) (fun V hV => ?hy1) ?go1
  case hy1 => (have i0 := hV; go_simp <;> rfl)
  simp only [Act.put, List.setIfInBounds_toArray, List.set_cons_zero, List.set_cons_succ]
  refine inv_take (v := ?v2) [3, 4, 5, 9, 10] 2 hI rfl (by kernel_rfl) (by kernel_rfl) (by kernel_rfl) (by kernel_rfl) (by kernel_rfl) (fun _ _ _ h => h) (by kernel_rfl) (fun V hV => ?hy2) ?go2
  case hy2 => (have i0 := hV; go_simp <;> rfl)
  simp only [Act.put, List.setIfInBounds_toArray, List.set_cons_zero, List.set_cons_succ]
  refine inv_take (v := ?v3) [4, 5, 9, 10] 3 hI rfl (by kernel_rfl) (by kernel_rfl) (by kernel_rfl) (by kernel_rfl) (by kernel_rfl) (fun _ _ _ h => h) (by kernel_rfl) (fun V hV => ?hy3) ?go3
  case hy3 => (have i0 := hV; go_simp <;> rfl)
  simp only [Act.put, List.setIfInBounds_toArray, List.set_cons_zero, List.set_cons_succ]
  refine inv_take (v := ?v4) [5, 9, 10] 4 hI rfl (by kernel_rfl) (by kernel_rfl) (by kernel_rfl) (by kernel_rfl) (by kernel_rfl) (fun _ _ _ h => h) (by kernel_rfl) (fun V hV => ?hy4) ?go4
  case hy4 => (have i0 := hV; go_simp <;> rfl)
  simp only [Act.put, List.setIfInBounds_toArray, List.set_cons_zero, List.set_cons_succ]
  refine inv_take (v := ?v5) [9, 10] 5 hI rfl (by kernel_rfl) (by kernel_rfl) (by kernel_rfl) (by kernel_rfl) (by kernel_rfl) (fun _ _ _ h => h) (by kernel_rfl) (fun V hV => ?hy5) ?go5
  case hy5 => (have i0 := hV; go_simp <;> rfl)
  simp only [Act.put, List.setIfInBounds_toArray, List.set_cons_zero, List.set_cons_succ]
  refine inv_take (v := ?v6) [9, 10] 6 hI rfl (by kernel_rfl) (by kernel_rfl) (by kernel_rfl) (by kernel_rfl) (by kernel_rfl) (fun _ _ _ h => h) (by kernel_rfl) (fun V hV => ?hy6) ?go6
  case hy6 => (have i0 := hV; go_simp <;> rfl)
  simp only [Act.put, List.setIfInBounds_toArray, List.set_cons_zero, List.set_cons_succ]
  refine inv_take (v := ?v7) [9, 10] 7 hI rfl (by kernel_rfl) (by kernel_rfl) (by kernel_rfl) (by kernel_rfl) (by kernel_rfl) (fun _ _ _ h => h) (by kernel_rfl) (fun V hV => ?hy7) ?go7
  case hy7 => (have i0 := hV; go_simp <;> rfl)
  simp only [Act.put, List.setIfInBounds_toArray, List.set_cons_zero, List.set_cons_succ]
  refine inv_take (v := ?v8) [9, 10] 8 hI rfl (by kernel_rfl) (by kernel_rfl) (by kernel_rfl) (by kernel_rfl) (by kernel_rfl) (fun _ _ _ h => h) (by kernel_rfl) (fun V hV => ?hy8) ?go8
  case hy8 => (have i0 := hV; go_simp <;> rfl)
  simp only [Act.put, List.setIfInBounds_toArray, List.set_cons_zero, List.set_cons_succ]
  refine inv_list 1 (by kernel_rfl) rfl ?_
  go_wp2_with (go_at_call 58; refine (answer_any _ _).mono ?_; rintro e w1 ⟨rfl, rfl⟩)
  refine then_n ⟨hI, ?_⟩
  try simp only [Act.put, List.setIfInBounds_toArray, List.set_cons_zero, List.set_cons_succ]
  refine inv_take (v := ?v9) [10] 9 hI rfl (by kernel_rfl) (by kernel_rfl) (by kernel_rfl) (by kernel_rfl) (by kernel_rfl) (fun _ _ _ h => h) (by kernel_rfl) (fun V hV => ?hy9) ?go9
  case hy9 => (have i0 := hV; go_simp <;> rfl)
  simp only [Act.put, List.setIfInBounds_toArray, List.set_cons_zero, List.set_cons_succ]
  refine inv_write 10 (by kernel_rfl) (by kernel_rfl) rfl ?_
  obtain ⟨r0, r1, r2, r3, r4, r5, r6, r7, r8, rf, rl⟩ := id br
  have f0 := rf 0
  go_wp2_with fail
  refine then_n ?_
  refine any_done (by kernel_rfl) ?_
  go_wp2_with fail
  refine bodyPost_ret (v := Pk.val ⟨ansI rq, node, who, idn, line, 0, 0, false, []⟩ (.slice none 0 0)) (by simp [results, Try.results31, go_sem, *]) rfl ⟨rfl, far9 (g := wx.heap.size) (y := ⟨ansI rq, node, who, idn, line, 0, 0, false, []⟩) (v := .slice none 0 0) (W := V) (P := fun V => Below wx.heap.size wx V) (fun V o u h => h.setCell (by simp) u) hB2⟩
theorem hnewData_yes (x : Pk) (d : Value) (h : x.fl = true) (w : World) : Calls Try.prog 56 #[x.val d] w fun e w' => e = .returned d ∧ Below w.heap.size w w' := by
  unfold Pk.val
  go_enter Try.func56, Try.ntmps56
  go_wp2_with fail
  go_ret
  exact ⟨rfl, ba (Below.refl _ _)⟩
theorem hnewData_no (x : Pk) (d : Value) (h : x.fl = false) (w : World) : Calls Try.prog 56 #[x.val d] w fun e w' => e = .returned (.slice none 0 0) ∧ Below w.heap.size w w' := by
  unfold Pk.val
  go_enter Try.func56, Try.ntmps56
  go_wp2_with fail
  go_ret
  exact ⟨rfl, ba (Below.refl _ _)⟩
set_option maxHeartbeats 800000 in
theorem hgranted_any (h : PH w wx g g1 g2 X N K node L n o q) {l : Int} (hl : In64 l) (who idn : Int) :
    Calls Try.prog 35 #[.pointer (some ⟨g, 0, none⟩), .int .i64 l, .int .i64 who, .int .i64 idn] wx fun e w' => ∃ d, e = .returned ((grantR node who idn l L).val d) ∧ DatZ w' (fun k => wx.heap.size ≤ k) (grantR node who idn l L).z d ∧ Below wx.heap.size wx w' := by
  have c0 := h.c0
  have hg := h.lt
  go_enter Try.func35, Try.ntmps35
  go_upto_region 1 with fail
  have hB : Below wx.heap.size wx (wx.alloc (.cells #[.int .i64 0, .int .i64 0, .int .i64 0, .int .i64 0, .int .i64 0, .int .i64 0, .int .i64 0, .bool false, .slice none 0 0] 32)) := ba (Below.refl _ _)
  have bxr : Bx (wx.alloc (.cells #[.int .i64 0, .int .i64 0, .int .i64 0, .int .i64 0, .int .i64 0, .int .i64 0, .int .i64 0, .bool false, .slice none 0 0] 32)) wx.heap.size zeroPk (.slice none 0 0) := Bx.made wx zeroPk (.slice none 0 0)
  have h1 := h.below hB
  clear h
  replace c0 := (hB.cell (p := ⟨g, 0, none⟩) hg).trans c0
  replace hg := Nat.lt_of_lt_of_le hg hB.size
  generalize World.alloc _ (.cells #[.int .i64 0, .int .i64 0, .int .i64 0, .int .i64 0, .int .i64 0, .int .i64 0, .int .i64 0, .bool false, .slice none 0 0] 32) = W at *
  go_upto_region 2 with (go_at_call 31; refine (hans_any h1 1 l who idn).mono ?_; rintro e w1 ⟨rfl, b1⟩; rw [show ansI 1 = 7 from rfl])
  have hB1 := next hB b1
  have h2 := h1.below b1
  have br1 := bxr.next b1
  have hB2 := ba (o := .cells #[.int .i64 7, .int .i64 node, .int .i64 who, .int .i64 idn, .int .i64 l, .int .i64 0, .int .i64 0, .bool false, .slice none 0 0] 32) b1
  have bp2 : Bx (w1.alloc (.cells #[.int .i64 7, .int .i64 node, .int .i64 who, .int .i64 idn, .int .i64 l, .int .i64 0, .int .i64 0, .bool false, .slice none 0 0] 32)) w1.heap.size ⟨7, node, who, idn, l, 0, 0, false, []⟩ (.slice none 0 0) := Bx.made w1 ⟨7, node, who, idn, l, 0, 0, false, []⟩ (.slice none 0 0)
  have hB3 : Below w1.heap.size w1 (w1.alloc (.cells #[.int .i64 7, .int .i64 node, .int .i64 who, .int .i64 idn, .int .i64 l, .int .i64 0, .int .i64 0, .bool false, .slice none 0 0] 32)) := ba (Below.refl _ _)
  replace c0 := ((hB2.cell (p := ⟨g, 0, none⟩) hg)).trans c0
  have br2 := br1.next hB3
  have h3 := h2.below hB3
  have hB4 := next hB1 hB3
  have HLo : Hid (wx.heap.size < w1.heap.size) := br1.lt
  clear hg hB b1 h1 h2 bxr br1 hB1 hB2 hB3
  have hg := h3.lt
  generalize World.alloc _ (.cells #[.int .i64 7, .int .i64 node, .int .i64 who, .int .i64 idn, .int .i64 l, .int .i64 0, .int .i64 0, .bool false, .slice none 0 0] 32) = W2 at *
  generalize w1.heap.size = gp at *
  obtain ⟨hp, _⟩ := id h3
  go_upto_region 3 with (go_at_call 45; refine (hp_row hp hl).mono ?_; rintro e w2 ⟨a, c, rfl, own, b2⟩)
  obtain ⟨rr, hrr⟩ : ∃ rr, rowL L l = rr := ⟨_, rfl⟩
  have HRR : Hid (rowL L l = rr) := hrr
  have hrl := h3.rlen l
  rw [hrr] at own hrl ⊢
  clear hrr
  have hb3 : Below w2.heap.size w2 (w2.alloc (.cells #[.int .i64 rr.s, .int .i64 rr.h, .slice a rr.z.length c] 94)) := ba (Below.refl _ _)
  have i0 : (w2.alloc (.cells #[.int .i64 rr.s, .int .i64 rr.h, .slice a rr.z.length c] 94)).cell? ⟨w2.heap.size, 0, none⟩ = some (.int .i64 rr.s) := by simp
  have i1 : (w2.alloc (.cells #[.int .i64 rr.s, .int .i64 rr.h, .slice a rr.z.length c] 94)).cell? ⟨w2.heap.size, 1, none⟩ = some (.int .i64 rr.h) := by simp
  have i2 : (w2.alloc (.cells #[.int .i64 rr.s, .int .i64 rr.h, .slice a rr.z.length c] 94)).cell? ⟨w2.heap.size, 2, none⟩ = some (.slice a rr.z.length c) := by simp
  have il : w2.heap.size < (w2.alloc (.cells #[.int .i64 rr.s, .int .i64 rr.h, .slice a rr.z.length c] 94)).heap.size := by simp
  have bp3 := (bp2.next b2).next hb3
  have br3 := (br2.next b2).next hb3
  have hlo := own.lo
  have dz : DatZ (w2.alloc (.cells #[.int .i64 rr.s, .int .i64 rr.h, .slice a rr.z.length c] 94)) (fun k => W2.heap.size ≤ k ∧ k < w2.heap.size) rr.z (.slice a rr.z.length c) := (((datz_own own (by omega)).imp (fun j hj h => ⟨h, hj⟩)).below hb3)
  have hne : w2.heap.size ≠ gp := by have := bp2.lt; have := b2.size; omega
  have hnr : wx.heap.size ≠ gp := by have := HLo.out; omega
  have hB6 : Below wx.heap.size wx (w2.alloc (.cells #[.int .i64 rr.s, .int .i64 rr.h, .slice a rr.z.length c] 94)) := next (next hB4 b2) hb3
  have hgp : gp < W2.heap.size := bp2.lt
  clear bp2 br2 hb3 b2 own hlo hp c0 hg hB4 h3
  generalize w2.alloc (.cells #[.int .i64 rr.s, .int .i64 rr.h, .slice a rr.z.length c] 94) = V0 at *
  generalize w2.heap.size = gr at *
  refine wp_region_orders 12 rfl (by kernel_rfl) ?_
  have Bd : Below V0.heap.size V0 V0.drew := (Below.refl _ _).drew
  have hI : (fun V => V.cell? ⟨gr, 0, none⟩ = some (.int .i64 rr.s) ∧ V.cell? ⟨gr, 1, none⟩ = some (.int .i64 rr.h) ∧ V.cell? ⟨gr, 2, none⟩ = some (.slice a rr.z.length c)) V0.drew := ⟨(Bd.cell (p := ⟨gr, 0, none⟩) il).trans i0, (Bd.cell (p := ⟨gr, 1, none⟩) il).trans i1, (Bd.cell (p := ⟨gr, 2, none⟩) il).trans i2⟩
  have bp4 := bp3.next Bd
  have br4 := br3.next Bd
  have dz4 := dz.below Bd
  have hB7 := next hB6 Bd
  clear bp3 br3 dz hB6 i0 i1 i2 il Bd
  generalize V0.drew = V at *
  clear V0
  refine any_inv (fun V => V.cell? ⟨gr, 0, none⟩ = some (.int .i64 rr.s) ∧ V.cell? ⟨gr, 1, none⟩ = some (.int .i64 rr.h) ∧ V.cell? ⟨gr, 2, none⟩ = some (.slice a rr.z.length c)) [] hI ?_
  refine inv_take (v := ?v10) [] 0 hI rfl (by kernel_rfl) (by kernel_rfl) (by kernel_rfl) (by kernel_rfl) (by kernel_rfl) (fun _ _ _ h => h) (by kernel_rfl) (fun V hV => ?hy10) ?go10
  case hy10 => (obtain ⟨i0, i1, i2⟩ := hV; go_simp <;> rfl)
  simp only [Act.put, List.setIfInBounds_toArray, List.set_cons_zero, List.set_cons_succ]
  refine inv_take (v := ?v11) [] 1 hI rfl (by kernel_rfl) (by kernel_rfl) (by kernel_rfl) (by kernel_rfl) (by kernel_rfl) (fun _ _ _ h => h) (by kernel_rfl) (fun V hV => ?hy11) ?go11
  case hy11 => (obtain ⟨i0, i1, i2⟩ := hV; go_simp <;> rfl)
  simp only [Act.put, List.setIfInBounds_toArray, List.set_cons_zero, List.set_cons_succ]
  refine inv_take (v := ?v12) [] 2 hI rfl (by kernel_rfl) (by kernel_rfl) (by kernel_rfl) (by kernel_rfl) (by kernel_rfl) (fun _ _ _ h => h) (by kernel_rfl) (fun V hV => ?hy12) ?go12
  case hy12 => (obtain ⟨i0, i1, i2⟩ := hV; go_simp <;> rfl)
  simp only [Act.put, List.setIfInBounds_toArray, List.set_cons_zero, List.set_cons_succ]
  refine inv_take (v := ?v13) [] 3 hI rfl (by kernel_rfl) (by kernel_rfl) (by kernel_rfl) (by kernel_rfl) (by kernel_rfl) (fun _ _ _ h => h) (by kernel_rfl) (fun V hV => ?hy13) ?go13
  case hy13 => (obtain ⟨i0, i1, i2⟩ := hV; go_simp <;> rfl)
  simp only [Act.put, List.setIfInBounds_toArray, List.set_cons_zero, List.set_cons_succ]
  refine inv_take (v := ?v14) [] 4 hI rfl (by kernel_rfl) (by kernel_rfl) (by kernel_rfl) (by kernel_rfl) (by kernel_rfl) (fun _ _ _ h => h) (by kernel_rfl) (fun V hV => ?hy14) ?go14
  case hy14 => (obtain ⟨i0, i1, i2⟩ := hV; go_simp <;> rfl)
  simp only [Act.put, List.setIfInBounds_toArray, List.set_cons_zero, List.set_cons_succ]
  refine inv_take (v := ?v15) [] 5 hI rfl (by kernel_rfl) (by kernel_rfl) (by kernel_rfl) (by kernel_rfl) (by kernel_rfl) (fun _ _ _ h => h) (by kernel_rfl) (fun V hV => ?hy15) ?go15
  case hy15 => (obtain ⟨i0, i1, i2⟩ := hV; go_simp <;> rfl)
  simp only [Act.put, List.setIfInBounds_toArray, List.set_cons_zero, List.set_cons_succ]
  refine inv_take (v := ?v16) [] 6 hI rfl (by kernel_rfl) (by kernel_rfl) (by kernel_rfl) (by kernel_rfl) (by kernel_rfl) (fun _ _ _ h => h) (by kernel_rfl) (fun V hV => ?hy16) ?go16
  case hy16 => (obtain ⟨i0, i1, i2⟩ := hV; go_simp <;> rfl)
  simp only [Act.put, List.setIfInBounds_toArray, List.set_cons_zero, List.set_cons_succ]
  obtain ⟨p0, p1, p2, p3, p4, p5, p6, p7, p8, pf, pl⟩ := id bp4
  have f6 := pf 6
  have f5 := pf 5
  have f8 := pf 8
  refine inv_list 7 (by kernel_rfl) rfl ?_
  go_wp2_with fail
  have far := fun (V : World) (oo : Nat) (u : Value) (h : (fun V => V.cell? ⟨gr, 0, none⟩ = some (.int .i64 rr.s) ∧ V.cell? ⟨gr, 1, none⟩ = some (.int .i64 rr.h) ∧ V.cell? ⟨gr, 2, none⟩ = some (.slice a rr.z.length c)) V) => (⟨(cell_far (w := V) (p := ⟨gp, oo, none⟩) (v := u) gr 0 hne).trans h.1, (cell_far (w := V) (p := ⟨gp, oo, none⟩) (v := u) gr 1 hne).trans h.2.1, (cell_far (w := V) (p := ⟨gp, oo, none⟩) (v := u) gr 2 hne).trans h.2.2⟩ : (fun V => V.cell? ⟨gr, 0, none⟩ = some (.int .i64 rr.s) ∧ V.cell? ⟨gr, 1, none⟩ = some (.int .i64 rr.h) ∧ V.cell? ⟨gr, 2, none⟩ = some (.slice a rr.z.length c)) (V.setCell ⟨gp, oo, none⟩ u))
  refine then_n ⟨far _ _ _ hI, ?_⟩
  try simp only [Act.put, List.setIfInBounds_toArray, List.set_cons_zero, List.set_cons_succ]
  refine inv_take (v := ?v17) [] 8 (far _ _ _ hI) rfl (by kernel_rfl) (by kernel_rfl) (by kernel_rfl) (by kernel_rfl) (by kernel_rfl) (fun _ _ _ h => h) (by kernel_rfl) (fun V hV => ?hy17) ?go17
  case hy17 => (obtain ⟨i0, i1, i2⟩ := hV; go_simp <;> rfl)
  simp only [Act.put, List.setIfInBounds_toArray, List.set_cons_zero, List.set_cons_succ]
  refine inv_list 9 (by kernel_rfl) rfl ?_
  go_wp2_with fail
  refine then_n ⟨far _ _ _ (far _ _ _ hI), ?_⟩
  try simp only [Act.put, List.setIfInBounds_toArray, List.set_cons_zero, List.set_cons_succ]
  refine inv_take (v := ?v18) [] 10 (far _ _ _ (far _ _ _ hI)) rfl (by kernel_rfl) (by kernel_rfl) (by kernel_rfl) (by kernel_rfl) (by kernel_rfl) (fun _ _ _ h => h) (by kernel_rfl) (fun V hV => ?hy18) ?go18
  case hy18 => (obtain ⟨i0, i1, i2⟩ := hV; go_simp <;> rfl)
  simp only [Act.put, List.setIfInBounds_toArray, List.set_cons_zero, List.set_cons_succ]
  refine inv_list 11 (by kernel_rfl) rfl ?_
  go_wp2_with fail
  refine then_n ⟨far _ _ _ (far _ _ _ (far _ _ _ hI)), ?_⟩
  try simp only [Act.put, List.setIfInBounds_toArray, List.set_cons_zero, List.set_cons_succ]
  refine inv_done (by kernel_rfl) ?_
  have bp5 : Bx (((V.setCell ⟨gp, 6, none⟩ (.int .i64 rr.s)).setCell ⟨gp, 5, none⟩ (.int .i64 rr.h)).setCell ⟨gp, 8, none⟩ (.slice a rr.z.length c)) gp ⟨7, node, who, idn, l, rr.h, rr.s, false, rr.z⟩ (.slice a rr.z.length c) := ((bp4.setS rr.s).setP rr.h).setZ rr.z (.slice a rr.z.length c)
  have hK : Keep (fun j => j = gp) V (((V.setCell ⟨gp, 6, none⟩ (.int .i64 rr.s)).setCell ⟨gp, 5, none⟩ (.int .i64 rr.h)).setCell ⟨gp, 8, none⟩ (.slice a rr.z.length c)) := (((Keep.refl (fun j => j = gp) V).setCell (p := ⟨gp, 6, none⟩) (.inl rfl) _).setCell (p := ⟨gp, 5, none⟩) (.inl rfl) _).setCell (p := ⟨gp, 8, none⟩) (.inl rfl) _
  have hlo2 := HLo.out
  have br5 := br4.keep hK hnr
  have dz5 := dz4.keep hK (fun j hj e => by omega)
  have hB8 := hB7.trans (hK.below (base := wx.heap.size) (fun j hj => by rw [hj]; omega) hB7.size)
  clear bp4 br4 dz4 hB7 far p0 p1 p2 p3 p4 p5 p6 p7 p8 pf pl f6 f5 f8 hI hK
  generalize World.setCell _ _ (Value.slice a rr.z.length c) = V5 at *
  obtain ⟨p0, p1, p2, p3, p4, p5, p6, p7, p8, pf, pl⟩ := id bp5
  obtain ⟨r0, r1, r2, r3, r4, r5, r6, r7, r8, rf, rl⟩ := id br5
  have f0 := rf 0
  go_wp2_with fail
  have hkk : Keep (fun k => k = wx.heap.size) V5 _ := far9 (g := wx.heap.size) (y := ⟨7, node, who, idn, l, rr.h, rr.s, false, rr.z⟩) (v := .slice a rr.z.length c) (W := V5) (P := fun V => Keep (fun k => k = wx.heap.size) V5 V) (fun V o u h => h.setCell (.inl rfl) u) (Keep.refl _ _)
  refine bodyPost_ret (v := Pk.val ⟨7, node, who, idn, l, rr.h, rr.s, false, rr.z⟩ (.slice a rr.z.length c)) (by simp [results, Try.results35, go_sem, *]) rfl ⟨_, by unfold grantR; rw [HRR.out], ?_, ?_⟩
  · unfold grantR
    rw [HRR.out]
    exact (dz5.keep hkk (fun j hj e => by omega)).imp (fun j _ hj => by omega)
  · exact far9 (g := wx.heap.size) (y := ⟨7, node, who, idn, l, rr.h, rr.s, false, rr.z⟩) (v := .slice a rr.z.length c) (W := V5) (P := fun V => Below wx.heap.size wx V) (fun V o u h => h.setCell (by simp) u) hB8
end
end Go.Proofs.Ytgeiagndpfdnlaa
