/- The program's home: answer, newData, granted. Conditions: as each theorem states them.
Regions that draw their order, once more: two operations that may come in either order. Nothing of the program is named here.
The program's home: check. Conditions: as each theorem states them.
The program's home: lock. Conditions: as each theorem states them.
The program's home: unlock. Conditions: as each theorem states them.
The program's home: Handle. Conditions: as each theorem states them. -/
import Derived.Test.YtgeiagndpfdnlaaPart7
import Derived.Test.YtgeiagndpfdnlaaPart3
section
namespace Go.Proofs.Ytgeiagndpfdnlaa
open Go.RowKit Go.Maps
set_option linter.unusedVariables false
set_option maxRecDepth 20000

section
variable {w wx : World} {g g1 g2 n N : Nat} {X : Nat → Prop} {K node : Int} {L : List Hr} {o : List (Int × Int)} {q : List Wr}
set_option maxHeartbeats 800000 in
theorem hans_any (h : PH w wx g g1 g2 X N K node L n o q) (rq line who idn : Int) :
    Calls Try.prog 31 #[.pointer (some ⟨g, 0, none⟩), .int .i64 rq, .int .i64 line, .int .i64 who, .int .i64 idn] wx fun e w' => e = .returned ((⟨ansI rq, node, who, idn, line, 0, 0, false, []⟩ : Pk).val (.slice none 0 0)) ∧ Below wx.heap.size wx w' := by
  have c2 := h.c2
  have hg := h.lt
  clear h
  go_enter Try.func31, Try.ntmps31
  go_upto_region 1 with fail
  have hB : Below wx.heap.size wx (wx.alloc (.cells #[.int .i64 0, .int .i64 0, .int .i64 0, .int .i64 0, .int .i64 0, .int .i64 0, .int .i64 0, .bool false, .slice none 0 0] 32)) := ba (Below.refl _ _)
  have bxr : Bx (wx.alloc (.cells #[.int .i64 0, .int .i64 0, .int .i64 0, .int .i64 0, .int .i64 0, .int .i64 0, .int .i64 0, .bool false, .slice none 0 0] 32)) wx.heap.size zeroPk (.slice none 0 0) := Bx.made wx zeroPk (.slice none 0 0)
  replace c2 := (hB.cell (p := ⟨g, 2, none⟩) hg).trans c2
  replace hg := Nat.lt_of_lt_of_le hg hB.size
  generalize World.alloc _ (.cells #[.int .i64 0, .int .i64 0, .int .i64 0, .int .i64 0, .int .i64 0, .int .i64 0, .int .i64 0, .bool false, .slice none 0 0] 32) = W at *
  refine wp_region_orders 11 rfl (by kernel_rfl) ?_
  have Bd : Below W.heap.size W W.drew := (Below.refl _ _).drew
  have hI : (fun V => V.cell? ⟨g, 2, none⟩ = some (.int .i64 node)) W.drew := (Bd.cell (p := ⟨g, 2, none⟩) hg).trans c2
  have br := bxr.next Bd
  have hB2 := next hB Bd
  clear c2 hg hB bxr Bd
  generalize W.drew = V at *
  refine any_inv (fun V => V.cell? ⟨g, 2, none⟩ = some (.int .i64 node)) [10] hI ?_
  refine inv_take (v := ?v1) [1, 9, 10] 0 hI rfl (by kernel_rfl) (by kernel_rfl) (by kernel_rfl) (by kernel_rfl) (by kernel_rfl) (fun _ _ _ h => h) (by kernel_rfl) (fun V hV => ?hy1) ?go1
  case hy1 => (have i0 := hV; go_simp <;> rfl)
  simp only [Act.put, List.setIfInBounds_toArray, List.set_cons_zero, List.set_cons_succ]
  refine inv_take (v := ?v2) [3, 4, 5, 9, 10] 2 hI rfl (by kernel_rfl) (by kernel_rfl) (by kernel_rfl) (by kernel_rfl) (by kernel_rfl) (fun _ _ _ h => h) (by kernel_rfl) (fun V hV => ?hy2) ?go2
  case hy2 => (have i0 := hV; go_simp <;> rfl)
  simp only [Act.put, List.setIfInBounds_toArray, List.set_cons_zero, List.set_cons_succ]
  refine inv_take (v := ?v3) [4, 5, 9, 10] 3 hI rfl (by kernel_rfl) (by kernel_rfl) (by kernel_rfl) (by kernel_rfl) (by kernel_rfl) (fun _ _ _ h => h) (by kernel_rfl) (fun V hV => ?hy3) ?go3
  case hy3 => (have i0 := hV; go_simp <;> rfl)
  simp only [Act.put, List.setIfInBounds_toArray, List.set_cons_zero, List.set_cons_succ]
  refine inv_take (v := ?v4) [5, 9, 10] 4 hI rfl (by kernel_rfl) (by kernel_rfl) (by kernel_rfl) (by kernel_rfl) (by kernel_rfl) (fun _ _ _ h => h) (by kernel_rfl) (fun V hV => ?hy4) ?go4
  case hy4 => (have i0 := hV; go_simp <;> rfl)
  simp only [Act.put, List.setIfInBounds_toArray, List.set_cons_zero, List.set_cons_succ]
  refine inv_take (v := ?v5) [9, 10] 5 hI rfl (by kernel_rfl) (by kernel_rfl) (by kernel_rfl) (by kernel_rfl) (by kernel_rfl) (fun _ _ _ h => h) (by kernel_rfl) (fun V hV => ?hy5) ?go5
  case hy5 => (have i0 := hV; go_simp <;> rfl)
  simp only [Act.put, List.setIfInBounds_toArray, List.set_cons_zero, List.set_cons_succ]
  refine inv_take (v := ?v6) [9, 10] 6 hI rfl (by kernel_rfl) (by kernel_rfl) (by kernel_rfl) (by kernel_rfl) (by kernel_rfl) (fun _ _ _ h => h) (by kernel_rfl) (fun V hV => ?hy6) ?go6
  case hy6 => (have i0 := hV; go_simp <;> rfl)
  simp only [Act.put, List.setIfInBounds_toArray, List.set_cons_zero, List.set_cons_succ]
  refine inv_take (v := ?v7) [9, 10] 7 hI rfl (by kernel_rfl) (by kernel_rfl) (by kernel_rfl) (by kernel_rfl) (by kernel_rfl) (fun _ _ _ h => h) (by kernel_rfl) (fun V hV => ?hy7) ?go7
  case hy7 => (have i0 := hV; go_simp <;> rfl)
  simp only [Act.put, List.setIfInBounds_toArray, List.set_cons_zero, List.set_cons_succ]
  refine inv_take (v := ?v8) [9, 10] 8 hI rfl (by kernel_rfl) (by kernel_rfl) (by kernel_rfl) (by kernel_rfl) (by kernel_rfl) (fun _ _ _ h => h) (by kernel_rfl) (fun V hV => ?hy8) ?go8
  case hy8 => (have i0 := hV; go_simp <;> rfl)
  simp only [Act.put, List.setIfInBounds_toArray, List.set_cons_zero, List.set_cons_succ]
  refine inv_list 1 (by kernel_rfl) rfl ?_
  go_wp2_with (go_at_call 58; refine (answer_any _ _).mono ?_; rintro e w1 ⟨rfl, rfl⟩)
  refine then_n ⟨hI, ?_⟩
  try simp only [Act.put, List.setIfInBounds_toArray, List.set_cons_zero, List.set_cons_succ]
  refine inv_take (v := ?v9) [10] 9 hI rfl (by kernel_rfl) (by kernel_rfl) (by kernel_rfl) (by kernel_rfl) (by kernel_rfl) (fun _ _ _ h => h) (by kernel_rfl) (fun V hV => ?hy9) ?go9
  case hy9 => (have i0 := hV; go_simp <;> rfl)
  simp only [Act.put, List.setIfInBounds_toArray, List.set_cons_zero, List.set_cons_succ]
  refine inv_write 10 (by kernel_rfl) (by kernel_rfl) rfl ?_
  obtain ⟨r0, r1, r2, r3, r4, r5, r6, r7, r8, rf, rl⟩ := id br
  have f0 := rf 0
  go_wp2_with fail
  refine then_n ?_
  refine any_done (by kernel_rfl) ?_
  go_wp2_with fail
  refine bodyPost_ret (v := Pk.val ⟨ansI rq, node, who, idn, line, 0, 0, false, []⟩ (.slice none 0 0)) (by simp [results, Try.results31, go_sem, *]) rfl ⟨rfl, far9 (g := wx.heap.size) (y := ⟨ansI rq, node, who, idn, line, 0, 0, false, []⟩) (v := .slice none 0 0) (W := V) (P := fun V => Below wx.heap.size wx V) (fun V o u h => h.setCell (by simp) u) hB2⟩
theorem hnewData_yes (x : Pk) (d : Value) (h : x.fl = true) (w : World) : Calls Try.prog 56 #[x.val d] w fun e w' => e = .returned d ∧ Below w.heap.size w w' := by
  unfold Pk.val
  go_enter Try.func56, Try.ntmps56
  go_wp2_with fail
  go_ret
  exact ⟨rfl, ba (Below.refl _ _)⟩
theorem hnewData_no (x : Pk) (d : Value) (h : x.fl = false) (w : World) : Calls Try.prog 56 #[x.val d] w fun e w' => e = .returned (.slice none 0 0) ∧ Below w.heap.size w w' := by
  unfold Pk.val
  go_enter Try.func56, Try.ntmps56
  go_wp2_with fail
  go_ret
  exact ⟨rfl, ba (Below.refl _ _)⟩
set_option maxHeartbeats 800000 in
theorem hgranted_any (h : PH w wx g g1 g2 X N K node L n o q) {l : Int} (hl : In64 l) (who idn : Int) :
    Calls Try.prog 35 #[.pointer (some ⟨g, 0, none⟩), .int .i64 l, .int .i64 who, .int .i64 idn] wx fun e w' => ∃ d, e = .returned ((grantR node who idn l L).val d) ∧ DatZ w' (fun k => wx.heap.size ≤ k) (grantR node who idn l L).z d ∧ Below wx.heap.size wx w' := by
  have c0 := h.c0
  have hg := h.lt
  go_enter Try.func35, Try.ntmps35
  go_upto_region 1 with fail
  have hB : Below wx.heap.size wx (wx.alloc (.cells #[.int .i64 0, .int .i64 0, .int .i64 0, .int .i64 0, .int .i64 0, .int .i64 0, .int .i64 0, .bool false, .slice none 0 0] 32)) := ba (Below.refl _ _)
  have bxr : Bx (wx.alloc (.cells #[.int .i64 0, .int .i64 0, .int .i64 0, .int .i64 0, .int .i64 0, .int .i64 0, .int .i64 0, .bool false, .slice none 0 0] 32)) wx.heap.size zeroPk (.slice none 0 0) := Bx.made wx zeroPk (.slice none 0 0)
  have h1 := h.below hB
  clear h
  replace c0 := (hB.cell (p := ⟨g, 0, none⟩) hg).trans c0
  replace hg := Nat.lt_of_lt_of_le hg hB.size
  generalize World.alloc _ (.cells #[.int .i64 0, .int .i64 0, .int .i64 0, .int .i64 0, .int .i64 0, .int .i64 0, .int .i64 0, .bool false, .slice none 0 0] 32) = W at *
  go_upto_region 2 with (go_at_call 31; refine (hans_any h1 1 l who idn).mono ?_; rintro e w1 ⟨rfl, b1⟩; rw [show ansI 1 = 7 from rfl])
  have hB1 := next hB b1
  have h2 := h1.below b1
  have br1 := bxr.next b1
  have hB2 := ba (o := .cells #[.int .i64 7, .int .i64 node, .int .i64 who, .int .i64 idn, .int .i64 l, .int .i64 0, .int .i64 0, .bool false, .slice none 0 0] 32) b1
  have bp2 : Bx (w1.alloc (.cells #[.int .i64 7, .int .i64 node, .int .i64 who, .int .i64 idn, .int .i64 l, .int .i64 0, .int .i64 0, .bool false, .slice none 0 0] 32)) w1.heap.size ⟨7, node, who, idn, l, 0, 0, false, []⟩ (.slice none 0 0) := Bx.made w1 ⟨7, node, who, idn, l, 0, 0, false, []⟩ (.slice none 0 0)
  have hB3 : Below w1.heap.size w1 (w1.alloc (.cells #[.int .i64 7, .int .i64 node, .int .i64 who, .int .i64 idn, .int .i64 l, .int .i64 0, .int .i64 0, .bool false, .slice none 0 0] 32)) := ba (Below.refl _ _)
  replace c0 := ((hB2.cell (p := ⟨g, 0, none⟩) hg)).trans c0
  have br2 := br1.next hB3
  have h3 := h2.below hB3
  have hB4 := next hB1 hB3
  have HLo : Hid (wx.heap.size < w1.heap.size) := br1.lt
  clear hg hB b1 h1 h2 bxr br1 hB1 hB2 hB3
  have hg := h3.lt
  generalize World.alloc _ (.cells #[.int .i64 7, .int .i64 node, .int .i64 who, .int .i64 idn, .int .i64 l, .int .i64 0, .int .i64 0, .bool false, .slice none 0 0] 32) = W2 at *
  generalize w1.heap.size = gp at *
  obtain ⟨hp, _⟩ := id h3
  go_upto_region 3 with (go_at_call 45; refine (hp_row hp hl).mono ?_; rintro e w2 ⟨a, c, rfl, own, b2⟩)
  obtain ⟨rr, hrr⟩ : ∃ rr, rowL L l = rr := ⟨_, rfl⟩
  have HRR : Hid (rowL L l = rr) := hrr
  have hrl := h3.rlen l
  rw [hrr] at own hrl ⊢
  clear hrr
  have hb3 : Below w2.heap.size w2 (w2.alloc (.cells #[.int .i64 rr.s, .int .i64 rr.h, .slice a rr.z.length c] 94)) := ba (Below.refl _ _)
  have i0 : (w2.alloc (.cells #[.int .i64 rr.s, .int .i64 rr.h, .slice a rr.z.length c] 94)).cell? ⟨w2.heap.size, 0, none⟩ = some (.int .i64 rr.s) := by simp
  have i1 : (w2.alloc (.cells #[.int .i64 rr.s, .int .i64 rr.h, .slice a rr.z.length c] 94)).cell? ⟨w2.heap.size, 1, none⟩ = some (.int .i64 rr.h) := by simp
  have i2 : (w2.alloc (.cells #[.int .i64 rr.s, .int .i64 rr.h, .slice a rr.z.length c] 94)).cell? ⟨w2.heap.size, 2, none⟩ = some (.slice a rr.z.length c) := by simp
  have il : w2.heap.size < (w2.alloc (.cells #[.int .i64 rr.s, .int .i64 rr.h, .slice a rr.z.length c] 94)).heap.size := by simp
  have bp3 := (bp2.next b2).next hb3
  have br3 := (br2.next b2).next hb3
  have hlo := own.lo
  have dz : DatZ (w2.alloc (.cells #[.int .i64 rr.s, .int .i64 rr.h, .slice a rr.z.length c] 94)) (fun k => W2.heap.size ≤ k ∧ k < w2.heap.size) rr.z (.slice a rr.z.length c) := (((datz_own own (by omega)).imp (fun j hj h => ⟨h, hj⟩)).below hb3)
  have hne : w2.heap.size ≠ gp := by have := bp2.lt; have := b2.size; omega
  have hnr : wx.heap.size ≠ gp := by have := HLo.out; omega
  have hB6 : Below wx.heap.size wx (w2.alloc (.cells #[.int .i64 rr.s, .int .i64 rr.h, .slice a rr.z.length c] 94)) := next (next hB4 b2) hb3
  have hgp : gp < W2.heap.size := bp2.lt
  clear bp2 br2 hb3 b2 own hlo hp c0 hg hB4 h3
  generalize w2.alloc (.cells #[.int .i64 rr.s, .int .i64 rr.h, .slice a rr.z.length c] 94) = V0 at *
  generalize w2.heap.size = gr at *
  refine wp_region_orders 12 rfl (by kernel_rfl) ?_
  have Bd : Below V0.heap.size V0 V0.drew := (Below.refl _ _).drew
  have hI : (fun V => V.cell? ⟨gr, 0, none⟩ = some (.int .i64 rr.s) ∧ V.cell? ⟨gr, 1, none⟩ = some (.int .i64 rr.h) ∧ V.cell? ⟨gr, 2, none⟩ = some (.slice a rr.z.length c)) V0.drew := ⟨(Bd.cell (p := ⟨gr, 0, none⟩) il).trans i0, (Bd.cell (p := ⟨gr, 1, none⟩) il).trans i1, (Bd.cell (p := ⟨gr, 2, none⟩) il).trans i2⟩
  have bp4 := bp3.next Bd
  have br4 := br3.next Bd
  have dz4 := dz.below Bd
  have hB7 := next hB6 Bd
  clear bp3 br3 dz hB6 i0 i1 i2 il Bd
  generalize V0.drew = V at *
  clear V0
  refine any_inv (fun V => V.cell? ⟨gr, 0, none⟩ = some (.int .i64 rr.s) ∧ V.cell? ⟨gr, 1, none⟩ = some (.int .i64 rr.h) ∧ V.cell? ⟨gr, 2, none⟩ = some (.slice a rr.z.length c)) [] hI ?_
  refine inv_take (v := ?v10) [] 0 hI rfl (by kernel_rfl) (by kernel_rfl) (by kernel_rfl) (by kernel_rfl) (by kernel_rfl) (fun _ _ _ h => h) (by kernel_rfl) (fun V hV => ?hy10) ?go10
  case hy10 => (obtain ⟨i0, i1, i2⟩ := hV; go_simp <;> rfl)
  simp only [Act.put, List.setIfInBounds_toArray, List.set_cons_zero, List.set_cons_succ]
  refine inv_take (v := ?v11) [] 1 hI rfl (by kernel_rfl) (by kernel_rfl) (by kernel_rfl) (by kernel_rfl) (by kernel_rfl) (fun _ _ _ h => h) (by kernel_rfl) (fun V hV => ?hy11) ?go11
  case hy11 => (obtain ⟨i0, i1, i2⟩ := hV; go_simp <;> rfl)
  simp only [Act.put, List.setIfInBounds_toArray, List.set_cons_zero, List.set_cons_succ]
  refine inv_take (v := ?v12) [] 2 hI rfl (by kernel_rfl) (by kernel_rfl) (by kernel_rfl) (by kernel_rfl) (by kernel_rfl) (fun _ _ _ h => h) (by kernel_rfl) (fun V hV => ?hy12) ?go12
  case hy12 => (obtain ⟨i0, i1, i2⟩ := hV; go_simp <;> rfl)
  simp only [Act.put, List.setIfInBounds_toArray, List.set_cons_zero, List.set_cons_succ]
  refine inv_take (v := ?v13) [] 3 hI rfl (by kernel_rfl) (by kernel_rfl) (by kernel_rfl) (by kernel_rfl) (by kernel_rfl) (fun _ _ _ h => h) (by kernel_rfl) (fun V hV => ?hy13) ?go13
  case hy13 => (obtain ⟨i0, i1, i2⟩ := hV; go_simp <;> rfl)
  simp only [Act.put, List.setIfInBounds_toArray, List.set_cons_zero, List.set_cons_succ]
  refine inv_take (v := ?v14) [] 4 hI rfl (by kernel_rfl) (by kernel_rfl) (by kernel_rfl) (by kernel_rfl) (by kernel_rfl) (fun _ _ _ h => h) (by kernel_rfl) (fun V hV => ?hy14) ?go14
  case hy14 => (obtain ⟨i0, i1, i2⟩ := hV; go_simp <;> rfl)
  simp only [Act.put, List.setIfInBounds_toArray, List.set_cons_zero, List.set_cons_succ]
  refine inv_take (v := ?v15) [] 5 hI rfl (by kernel_rfl) (by kernel_rfl) (by kernel_rfl) (by kernel_rfl) (by kernel_rfl) (fun _ _ _ h => h) (by kernel_rfl) (fun V hV => ?hy15) ?go15
  case hy15 => (obtain ⟨i0, i1, i2⟩ := hV; go_simp <;> rfl)
  simp only [Act.put, List.setIfInBounds_toArray, List.set_cons_zero, List.set_cons_succ]
  refine inv_take (v := ?v16) [] 6 hI rfl (by kernel_rfl) (by kernel_rfl) (by kernel_rfl) (by kernel_rfl) (by kernel_rfl) (fun _ _ _ h => h) (by kernel_rfl) (fun V hV => ?hy16) ?go16
  case hy16 => (obtain ⟨i0, i1, i2⟩ := hV; go_simp <;> rfl)
  simp only [Act.put, List.setIfInBounds_toArray, List.set_cons_zero, List.set_cons_succ]
  obtain ⟨p0, p1, p2, p3, p4, p5, p6, p7, p8, pf, pl⟩ := id bp4
  have f6 := pf 6
  have f5 := pf 5
  have f8 := pf 8
  refine inv_list 7 (by kernel_rfl) rfl ?_
  go_wp2_with fail
  have far := fun (V : World) (oo : Nat) (u : Value) (h : (fun V => V.cell? ⟨gr, 0, none⟩ = some (.int .i64 rr.s) ∧ V.cell? ⟨gr, 1, none⟩ = some (.int .i64 rr.h) ∧ V.cell? ⟨gr, 2, none⟩ = some (.slice a rr.z.length c)) V) => (⟨(cell_far (w := V) (p := ⟨gp, oo, none⟩) (v := u) gr 0 hne).trans h.1, (cell_far (w := V) (p := ⟨gp, oo, none⟩) (v := u) gr 1 hne).trans h.2.1, (cell_far (w := V) (p := ⟨gp, oo, none⟩) (v := u) gr 2 hne).trans h.2.2⟩ : (fun V => V.cell? ⟨gr, 0, none⟩ = some (.int .i64 rr.s) ∧ V.cell? ⟨gr, 1, none⟩ = some (.int .i64 rr.h) ∧ V.cell? ⟨gr, 2, none⟩ = some (.slice a rr.z.length c)) (V.setCell ⟨gp, oo, none⟩ u))
  refine then_n ⟨far _ _ _ hI, ?_⟩
  try simp only [Act.put, List.setIfInBounds_toArray, List.set_cons_zero, List.set_cons_succ]
  refine inv_take (v := ?v17) [] 8 (far _ _ _ hI) rfl (by kernel_rfl) (by kernel_rfl) (by kernel_rfl) (by kernel_rfl) (by kernel_rfl) (fun _ _ _ h => h) (by kernel_rfl) (fun V hV => ?hy17) ?go17
  case hy17 => (obtain ⟨i0, i1, i2⟩ := hV; go_simp <;> rfl)
  simp only [Act.put, List.setIfInBounds_toArray, List.set_cons_zero, List.set_cons_succ]
  refine inv_list 9 (by kernel_rfl) rfl ?_
  go_wp2_with fail
  refine then_n ⟨far _ _ _ (far _ _ _ hI), ?_⟩
  try simp only [Act.put, List.setIfInBounds_toArray, List.set_cons_zero, List.set_cons_succ]
  refine inv_take (v := ?v18) [] 10 (far _ _ _ (far _ _ _ hI)) rfl (by kernel_rfl) (by kernel_rfl) (by kernel_rfl) (by kernel_rfl) (by kernel_rfl) (fun _ _ _ h => h) (by kernel_rfl) (fun V hV => ?hy18) ?go18
  case hy18 => (obtain ⟨i0, i1, i2⟩ := hV; go_simp <;> rfl)
  simp only [Act.put, List.setIfInBounds_toArray, List.set_cons_zero, List.set_cons_succ]
  refine inv_list 11 (by kernel_rfl) rfl ?_
  go_wp2_with fail
  refine then_n ⟨far _ _ _ (far _ _ _ (far _ _ _ hI)), ?_⟩
  try simp only [Act.put, List.setIfInBounds_toArray, List.set_cons_zero, List.set_cons_succ]
  refine inv_done (by kernel_rfl) ?_
  have bp5 : Bx (((V.setCell ⟨gp, 6, none⟩ (.int .i64 rr.s)).setCell ⟨gp, 5, none⟩ (.int .i64 rr.h)).setCell ⟨gp, 8, none⟩ (.slice a rr.z.length c)) gp ⟨7, node, who, idn, l, rr.h, rr.s, false, rr.z⟩ (.slice a rr.z.length c) := ((bp4.setS rr.s).setP rr.h).setZ rr.z (.slice a rr.z.length c)
  have hK : Keep (fun j => j = gp) V (((V.setCell ⟨gp, 6, none⟩ (.int .i64 rr.s)).setCell ⟨gp, 5, none⟩ (.int .i64 rr.h)).setCell ⟨gp, 8, none⟩ (.slice a rr.z.length c)) := (((Keep.refl (fun j => j = gp) V).setCell (p := ⟨gp, 6, none⟩) (.inl rfl) _).setCell (p := ⟨gp, 5, none⟩) (.inl rfl) _).setCell (p := ⟨gp, 8, none⟩) (.inl rfl) _
  have hlo2 := HLo.out
  have br5 := br4.keep hK hnr
  have dz5 := dz4.keep hK (fun j hj e => by omega)
  have hB8 := hB7.trans (hK.below (base := wx.heap.size) (fun j hj => by rw [hj]; omega) hB7.size)
  clear bp4 br4 dz4 hB7 far p0 p1 p2 p3 p4 p5 p6 p7 p8 pf pl f6 f5 f8 hI hK
  generalize World.setCell _ _ (Value.slice a rr.z.length c) = V5 at *
  obtain ⟨p0, p1, p2, p3, p4, p5, p6, p7, p8, pf, pl⟩ := id bp5
  obtain ⟨r0, r1, r2, r3, r4, r5, r6, r7, r8, rf, rl⟩ := id br5
  have f0 := rf 0
  go_wp2_with fail
  have hkk : Keep (fun k => k = wx.heap.size) V5 _ := far9 (g := wx.heap.size) (y := ⟨7, node, who, idn, l, rr.h, rr.s, false, rr.z⟩) (v := .slice a rr.z.length c) (W := V5) (P := fun V => Keep (fun k => k = wx.heap.size) V5 V) (fun V o u h => h.setCell (.inl rfl) u) (Keep.refl _ _)
  refine bodyPost_ret (v := Pk.val ⟨7, node, who, idn, l, rr.h, rr.s, false, rr.z⟩ (.slice a rr.z.length c)) (by simp [results, Try.results35, go_sem, *]) rfl ⟨_, by unfold grantR; rw [HRR.out], ?_, ?_⟩
  · unfold grantR
    rw [HRR.out]
    exact (dz5.keep hkk (fun j hj e => by omega)).imp (fun j _ hj => by omega)
  · exact far9 (g := wx.heap.size) (y := ⟨7, node, who, idn, l, rr.h, rr.s, false, rr.z⟩) (v := .slice a rr.z.length c) (W := V5) (P := fun V => Below wx.heap.size wx V) (fun V o u h => h.setCell (by simp) u) hB8
end
end Go.Proofs.Ytgeiagndpfdnlaa
end
section
namespace Go.Proofs.Ytgeiagndpfdnlaa
open Go.RowKit
set_option linter.unusedVariables false

section
variable {P : Program} {Q : Exit → Act → World → Prop} {I : World → Prop} {X : List Nat}
theorem inv_two (i j : Nat) {l ri rj : List Oper} {oi oj : Oper} {fuel : Nat} {listed : Array Bool} {a : Act} {w : World} (hr : Region.ready .any l.toArray listed = [i, j]) (hdi : l.drop i = oi :: ri) (hdj : l.drop j = oj :: rj)
    (hi : wpList P l.toArray (Then (fun a' w' => I w' ∧ wpAnyJ P l.toArray Q I X fuel (listed.setIfInBounds i true) a' w') Q) [oi] a w)
    (hj : wpList P l.toArray (Then (fun a' w' => I w' ∧ wpAnyJ P l.toArray Q I X fuel (listed.setIfInBounds j true) a' w') Q) [oj] a w) : wpAnyJ P l.toArray Q I X (fuel + 1) listed a w :=
  ⟨fun h0 => (by rw [hr] at h0; cases h0), (by
    rw [hr]
    intro k hk
    simp only [List.mem_cons, List.not_mem_nil, or_false] at hk
    rcases hk with rfl | rfl
    · exact wpOp_mono (fun _ _ h => .inr h) (op_list k hdi hi)
    · exact wpOp_mono (fun _ _ h => .inr h) (op_list k hdj hj))⟩
end
end Go.Proofs.Ytgeiagndpfdnlaa
end
section
namespace Go.Proofs.Ytgeiagndpfdnlaa
open Go.RowKit Go.Maps
set_option linter.unusedVariables false
set_option maxRecDepth 20000

theorem isHome_any (k : Int) (w : World) : Calls Try.prog 53 #[.int .i64 k] w fun e w' => e = .returned (.bool (decide (k = 1 ∨ k = 2))) ∧ w = w' := by
  by_cases h1 : k = 1
  · subst h1
    go_enter Try.func53, Try.ntmps53
    go_wp2
    go_ret
    exact ⟨by simp, rfl⟩
  · have h1b : (k == 1) = false := by simp [h1]
    go_enter Try.func53, Try.ntmps53
    go_wp2
    go_ret
    exact ⟨ret_bool (by by_cases h2 : k = 2 <;> simp [h1, h2]), rfl⟩
theorem isHome_is (k : Int) (b : Bool) (hb : decide (k = 1 ∨ k = 2) = b) (w : World) : Calls Try.prog 53 #[.int .i64 k] w fun e w' => e = .returned (.bool b) ∧ Below w.heap.size w w' := by
  subst hb
  refine (isHome_any k w).mono ?_
  rintro e w' ⟨rfl, rfl⟩
  exact ⟨rfl, Below.refl _ _⟩
/-- Is a request taken? -/
def tknP (N : Nat) (node : Int) (x : Pk) : Bool := x.right && decide (x.t = node ∧ x.f < (N : Int) ∧ (x.k = 1 ∨ x.k = 2))
def ckE (N : Nat) (node : Int) (L : List Hr) (x : Pk) : Int := if tknP N node x = true then (if hasH L x.l = true then 0 else 3) else 1
section
variable {w wx : World} {g g1 g2 n N : Nat} {X : Nat → Prop} {K node : Int} {L : List Hr} {o : List (Int × Int)} {q : List Wr}
set_option maxHeartbeats 1600000 in
theorem hcheck_any (h : PH w wx g g1 g2 X N K node L n o q) (x : Pk) (a : Option Addr) (m c : Nat) (hsl : Sl wx a m c x.z) (hl : In64 x.l) :
    Calls Try.prog 28 #[.pointer (some ⟨g, 0, none⟩), x.val (.slice a m c)] wx fun e w' => e = .returned (.int .i64 (ckE N node L x)) ∧ Below wx.heap.size wx w' := by
  unfold Pk.val
  go_enter Try.func28, Try.ntmps28
  go_upto_region 1 with fail
  have hB : Below wx.heap.size wx (wx.alloc (.cells #[.int .i64 x.k, .int .i64 x.f, .int .i64 x.t, .int .i64 x.i, .int .i64 x.l, .int .i64 x.p, .int .i64 x.s, .bool x.fl, .slice a m c] 32)) := ba (Below.refl _ _)
  have bxp : Bx (wx.alloc (.cells #[.int .i64 x.k, .int .i64 x.f, .int .i64 x.t, .int .i64 x.i, .int .i64 x.l, .int .i64 x.p, .int .i64 x.s, .bool x.fl, .slice a m c] 32)) wx.heap.size x (.slice a m c) := Bx.made wx x (.slice a m c)
  have h1 := h.below hB
  have hs1 := hsl.below hB
  clear hsl h
  generalize World.alloc _ (.cells #[.int .i64 x.k, .int .i64 x.f, .int .i64 x.t, .int .i64 x.i, .int .i64 x.l, .int .i64 x.p, .int .i64 x.s, .bool x.fl, .slice a m c] 32) = W at *
  obtain ⟨q0, q1, q2, q3, q4, q5, q6, q7, q8, qf, ql⟩ := id bxp
  cases hr : x.right with
  | false =>
    have HE : Hid (x.err = 1) := Pk.err_f hr
    have HR : Hid (ckE N node L x = 1) := by show _ = _; unfold ckE tknP; rw [hr]; rfl
    clear hr
    go_wp2_with (go_at_call 52; refine (pkCheck_any x a m c W hs1).mono ?_; rw [HE.out]; rintro e w1 ⟨rfl, b1⟩)
    go_ret
    exact ⟨by rw [HR.out]; rfl, next hB b1⟩
  | true =>
    have HE : Hid (x.err = 0) := Pk.err_t hr
    have HR : Hid (x.right = true) := hr
    clear hr
    go_upto_region 2 with (go_at_call 52; refine (pkCheck_any x a m c W hs1).mono ?_; rw [HE.out]; rintro e w1 ⟨rfl, b1⟩)
    have hB1 := next hB b1
    have bp1 := bxp.next b1
    have h2 := h1.below b1
    obtain ⟨_, _, _, c2, c3, lt, _, _⟩ := id h2
    clear q0 q1 q2 q3 q4 q5 q6 q7 q8 qf ql bxp h1 hs1 hB b1
    obtain ⟨q0, q1, q2, q3, q4, q5, q6, q7, q8, qf, ql⟩ := id bp1
    by_cases e1 : x.t = node
    · have h1b : (x.t != node) = false := by simp [e1]
      by_cases e2 : x.f < (N : Int)
      · have h2b : decide ((N : Int) ≤ x.f) = false := decide_eq_false (by omega)
        by_cases e3 : x.k = 1 ∨ x.k = 2
        · have HK : Hid (decide (x.k = 1 ∨ x.k = 2) = true) := decide_eq_true e3
          have HT : Hid (tknP N node x = true) := by show _ = _; unfold tknP; rw [HR.out, decide_eq_true (⟨e1, e2, e3⟩ : x.t = node ∧ x.f < (N : Int) ∧ (x.k = 1 ∨ x.k = 2))]; rfl
          clear e1 e2 e3
          go_upto_region 4 with fail
          have uc := @Up.cell
          have uf := @Up.frozen
          refine wp_region_up (by kernel_rfl) (by kernel_rfl) ?_
          repeat (go_big_quiet_step ((go_at_call 53; exact Calls.up_of (isHome_is x.k true HK.out _))))
          refine wpQuiet_nil ?_
          rintro _ ⟨u, rfl⟩
          clear uc uf
          have hB2 := next hB1 u.2
          have h3 := h2.below u.2
          have bp2 := bp1.next u.2
          clear q0 q1 q2 q3 q4 q5 q6 q7 q8 qf ql bp1 h2 hB1 c2 c3 lt
          generalize u.val = V at *
          obtain ⟨hp, c0, _, _, _, lt, _, _⟩ := id h3
          obtain ⟨q0, q1, q2, q3, q4, q5, q6, q7, q8, qf, ql⟩ := id bp2
          have HH : Hid (ckE N node L x = if hasH L x.l = true then 0 else 3) := by show _ = _; unfold ckE; rw [if_pos HT.out]
          obtain ⟨B, hh⟩ : ∃ B, hasH L x.l = B := ⟨_, rfl⟩
          rw [hh] at HH
          have HhB : Hid (hasH L x.l = B) := hh
          clear hh
          go_upto_region 6 with fail
          refine wp_region_orders 13 rfl (by kernel_rfl) ?_
          have Bd : Below V.heap.size V V.drew := (Below.refl _ _).drew
          replace c0 := (Bd.cell (p := ⟨g, 0, none⟩) lt).trans c0
          replace q4 := (Bd.cell (p := ⟨wx.heap.size, 4, none⟩) ql).trans q4
          replace lt := Nat.lt_of_lt_of_le lt Bd.size
          replace ql := Nat.lt_of_lt_of_le ql Bd.size
          replace hp := hp.below Bd
          replace hB2 := next hB2 Bd
          clear q0 q1 q2 q3 q5 q6 q7 q8 qf bp2 h3 Bd
          generalize V.drew = V3 at *
          have HIB : Hid (∀ V', Below V3.heap.size V3 V' → (fun V => V.cell? ⟨g, 0, none⟩ = some (.pointer (some ⟨g1, 0, none⟩)) ∧ V.cell? ⟨wx.heap.size, 4, none⟩ = some (.int .i64 x.l)) V') := fun V' b => ⟨(b.cell (p := ⟨g, 0, none⟩) lt).trans c0, (b.cell (p := ⟨wx.heap.size, 4, none⟩) ql).trans q4⟩
          have hI : (fun V => V.cell? ⟨g, 0, none⟩ = some (.pointer (some ⟨g1, 0, none⟩)) ∧ V.cell? ⟨wx.heap.size, 4, none⟩ = some (.int .i64 x.l)) V3 := HIB.out _ (Below.refl _ _)
          refine any_inv (fun V => V.cell? ⟨g, 0, none⟩ = some (.pointer (some ⟨g1, 0, none⟩)) ∧ V.cell? ⟨wx.heap.size, 4, none⟩ = some (.int .i64 x.l)) [] hI ?_
          refine inv_take (v := ?v1) [] 0 hI rfl (by kernel_rfl) (by kernel_rfl) (by kernel_rfl) (by kernel_rfl) (by kernel_rfl) (fun _ _ _ h => h) (by kernel_rfl) (fun V hV => ?hy1) ?go1
          case hy1 => (obtain ⟨i0, i1⟩ := hV; go_simp <;> rfl)
          simp only [Act.put, List.setIfInBounds_toArray, List.set_cons_zero, List.set_cons_succ]
          refine inv_take (v := ?v2) [] 1 hI rfl (by kernel_rfl) (by kernel_rfl) (by kernel_rfl) (by kernel_rfl) (by kernel_rfl) (fun _ _ _ h => h) (by kernel_rfl) (fun V hV => ?hy2) ?go2
          case hy2 => (obtain ⟨i0, i1⟩ := hV; go_simp <;> rfl)
          simp only [Act.put, List.setIfInBounds_toArray, List.set_cons_zero, List.set_cons_succ]
          refine inv_take (v := ?v3) [] 2 hI rfl (by kernel_rfl) (by kernel_rfl) (by kernel_rfl) (by kernel_rfl) (by kernel_rfl) (fun _ _ _ h => h) (by kernel_rfl) (fun V hV => ?hy3) ?go3
          case hy3 => (obtain ⟨i0, i1⟩ := hV; go_simp <;> rfl)
          simp only [Act.put, List.setIfInBounds_toArray, List.set_cons_zero, List.set_cons_succ]
          refine inv_take (v := ?v4) [] 3 hI rfl (by kernel_rfl) (by kernel_rfl) (by kernel_rfl) (by kernel_rfl) (by kernel_rfl) (fun _ _ _ h => h) (by kernel_rfl) (fun V hV => ?hy4) ?go4
          case hy4 => (obtain ⟨i0, i1⟩ := hV; go_simp <;> rfl)
          simp only [Act.put, List.setIfInBounds_toArray, List.set_cons_zero, List.set_cons_succ]
          refine inv_take (v := ?v5) [] 4 hI rfl (by kernel_rfl) (by kernel_rfl) (by kernel_rfl) (by kernel_rfl) (by kernel_rfl) (fun _ _ _ h => h) (by kernel_rfl) (fun V hV => ?hy5) ?go5
          case hy5 => (obtain ⟨i0, i1⟩ := hV; go_simp <;> rfl)
          simp only [Act.put, List.setIfInBounds_toArray, List.set_cons_zero, List.set_cons_succ]
          refine inv_take (v := ?v6) [] 5 hI rfl (by kernel_rfl) (by kernel_rfl) (by kernel_rfl) (by kernel_rfl) (by kernel_rfl) (fun _ _ _ h => h) (by kernel_rfl) (fun V hV => ?hy6) ?go6
          case hy6 => (obtain ⟨i0, i1⟩ := hV; go_simp <;> rfl)
          simp only [Act.put, List.setIfInBounds_toArray, List.set_cons_zero, List.set_cons_succ]
          refine inv_two 6 10 (by kernel_rfl) rfl rfl ?_ ?_
          · go_wp2_with (go_at_call 45; refine (hp_row hp hl).mono ?_; rw [HhB.out]; rintro e V4 ⟨a2, k2, rfl, own, b2⟩)
            refine then_n ⟨HIB.out _ b2, ?_⟩
            try simp only [Act.put, List.setIfInBounds_toArray, List.set_cons_zero, List.set_cons_succ]
            refine inv_take (v := ?v7) [] 7 (HIB.out _ b2) rfl (by kernel_rfl) (by kernel_rfl) (by kernel_rfl) (by kernel_rfl) (by kernel_rfl) (fun _ _ _ h => h) (by kernel_rfl) (fun V hV => ?hy7) ?go7
            case hy7 => (obtain ⟨i0, i1⟩ := hV; go_simp <;> rfl)
            simp only [Act.put, List.setIfInBounds_toArray, List.set_cons_zero, List.set_cons_succ]
            refine inv_take (v := ?v8) [] 8 (HIB.out _ b2) rfl (by kernel_rfl) (by kernel_rfl) (by kernel_rfl) (by kernel_rfl) (by kernel_rfl) (fun _ _ _ h => h) (by kernel_rfl) (fun V hV => ?hy8) ?go8
            case hy8 => (obtain ⟨i0, i1⟩ := hV; go_simp <;> rfl)
            simp only [Act.put, List.setIfInBounds_toArray, List.set_cons_zero, List.set_cons_succ]
            refine inv_take (v := ?v9) [] 9 (HIB.out _ b2) rfl (by kernel_rfl) (by kernel_rfl) (by kernel_rfl) (by kernel_rfl) (by kernel_rfl) (fun _ _ _ h => h) (by kernel_rfl) (fun V hV => ?hy9) ?go9
            case hy9 => (obtain ⟨i0, i1⟩ := hV; go_simp <;> rfl)
            simp only [Act.put, List.setIfInBounds_toArray, List.set_cons_zero, List.set_cons_succ]
            refine inv_list 10 (by kernel_rfl) rfl ?_
            go_wp2_with fail
            refine then_n ⟨HIB.out _ (ba b2), ?_⟩
            try simp only [Act.put, List.setIfInBounds_toArray, List.set_cons_zero, List.set_cons_succ]
            refine inv_list 11 (by kernel_rfl) rfl ?_
            go_wp2_with fail
            refine then_n ⟨HIB.out _ (ba b2), ?_⟩
            try simp only [Act.put, List.setIfInBounds_toArray, List.set_cons_zero, List.set_cons_succ]
            refine inv_list 12 (by kernel_rfl) rfl ?_
            go_wp2_with fail
            refine then_n ⟨HIB.out _ (ba b2), ?_⟩
            try simp only [Act.put, List.setIfInBounds_toArray, List.set_cons_zero, List.set_cons_succ]
            refine inv_done (by kernel_rfl) ?_
            clear HhB
            cases B
            all_goals
              go_wp2_with fail
              go_ret
              exact ⟨by rw [HH.out]; rfl, next hB2 (ba b2)⟩
          · go_wp2_with fail
            refine then_n ⟨HIB.out _ (ba (Below.refl _ _)), ?_⟩
            try simp only [Act.put, List.setIfInBounds_toArray, List.set_cons_zero, List.set_cons_succ]
            refine inv_list 6 (by kernel_rfl) rfl ?_
            go_wp2_with (go_at_call 45; refine (hp_row (hp.below (by exact ba (Below.refl _ _))) hl).mono ?_; rw [HhB.out]; rintro e V4 ⟨a2, k2, rfl, own, b2⟩)
            have b3 : Below V3.heap.size V3 V4 := (ba (Below.refl _ _)).trans (b2.mono (by simp))
            have gz : (V3.alloc (.cells #[.int .i64 0, .int .i64 0, .slice none 0 0] 94)).cell? ⟨V3.heap.size, 0, none⟩ = some (.int .i64 0) := by simp
            have y0 := (b2.cell (p := ⟨V3.heap.size, 0, none⟩) (by simp)).trans gz
            have y1 := (b2.cell (p := ⟨V3.heap.size, 1, none⟩) (by simp)).trans (show (V3.alloc (.cells #[.int .i64 0, .int .i64 0, .slice none 0 0] 94)).cell? ⟨V3.heap.size, 1, none⟩ = some (.int .i64 0) by simp)
            have y2 := (b2.cell (p := ⟨V3.heap.size, 2, none⟩) (by simp)).trans (show (V3.alloc (.cells #[.int .i64 0, .int .i64 0, .slice none 0 0] 94)).cell? ⟨V3.heap.size, 2, none⟩ = some (.slice none 0 0) by simp)
            have z0 := (b2.frozen (p := ⟨V3.heap.size, 0, none⟩) (by simp)).trans (show (V3.alloc (.cells #[.int .i64 0, .int .i64 0, .slice none 0 0] 94)).frozen? ⟨V3.heap.size, 0, none⟩ = false by simp)
            have z1 := (b2.frozen (p := ⟨V3.heap.size, 1, none⟩) (by simp)).trans (show (V3.alloc (.cells #[.int .i64 0, .int .i64 0, .slice none 0 0] 94)).frozen? ⟨V3.heap.size, 1, none⟩ = false by simp)
            have z2 := (b2.frozen (p := ⟨V3.heap.size, 2, none⟩) (by simp)).trans (show (V3.alloc (.cells #[.int .i64 0, .int .i64 0, .slice none 0 0] 94)).frozen? ⟨V3.heap.size, 2, none⟩ = false by simp)
            refine then_n ⟨HIB.out _ b3, ?_⟩
            try simp only [Act.put, List.setIfInBounds_toArray, List.set_cons_zero, List.set_cons_succ]
            refine inv_take (v := ?v10) [] 7 (HIB.out _ b3) rfl (by kernel_rfl) (by kernel_rfl) (by kernel_rfl) (by kernel_rfl) (by kernel_rfl) (fun _ _ _ h => h) (by kernel_rfl) (fun V hV => ?hy10) ?go10
            case hy10 => (obtain ⟨i0, i1⟩ := hV; go_simp <;> rfl)
            simp only [Act.put, List.setIfInBounds_toArray, List.set_cons_zero, List.set_cons_succ]
            refine inv_take (v := ?v11) [] 8 (HIB.out _ b3) rfl (by kernel_rfl) (by kernel_rfl) (by kernel_rfl) (by kernel_rfl) (by kernel_rfl) (fun _ _ _ h => h) (by kernel_rfl) (fun V hV => ?hy11) ?go11
            case hy11 => (obtain ⟨i0, i1⟩ := hV; go_simp <;> rfl)
            simp only [Act.put, List.setIfInBounds_toArray, List.set_cons_zero, List.set_cons_succ]
            refine inv_take (v := ?v12) [] 9 (HIB.out _ b3) rfl (by kernel_rfl) (by kernel_rfl) (by kernel_rfl) (by kernel_rfl) (by kernel_rfl) (fun _ _ _ h => h) (by kernel_rfl) (fun V hV => ?hy12) ?go12
            case hy12 => (obtain ⟨i0, i1⟩ := hV; go_simp <;> rfl)
            simp only [Act.put, List.setIfInBounds_toArray, List.set_cons_zero, List.set_cons_succ]
            have bs : ∀ (V0 : World) (u v t : Value), Below V3.heap.size V3 V0 → Below V3.heap.size V3 (((V0.setCell ⟨V3.heap.size, 0, none⟩ u).setCell ⟨V3.heap.size, 1, none⟩ v).setCell ⟨V3.heap.size, 2, none⟩ t) := fun V0 u v t h => ((h.setCell (Nat.le_refl _) u).setCell (Nat.le_refl _) v).setCell (Nat.le_refl _) t
            refine inv_list 11 (by kernel_rfl) rfl ?_
            go_wp2_with fail
            refine then_n ⟨HIB.out _ (bs _ _ _ _ b3), ?_⟩
            try simp only [Act.put, List.setIfInBounds_toArray, List.set_cons_zero, List.set_cons_succ]
            refine inv_list 12 (by kernel_rfl) rfl ?_
            go_wp2_with fail
            refine then_n ⟨HIB.out _ (bs _ _ _ _ b3), ?_⟩
            try simp only [Act.put, List.setIfInBounds_toArray, List.set_cons_zero, List.set_cons_succ]
            refine inv_done (by kernel_rfl) ?_
            clear HhB
            cases B
            all_goals
              go_wp2_with fail
              go_ret
              exact ⟨by rw [HH.out]; rfl, next hB2 (bs _ _ _ _ b3)⟩
        · have HK : Hid (decide (x.k = 1 ∨ x.k = 2) = false) := decide_eq_false e3
          have HC : Hid (ckE N node L x = 1) := by
            show _ = _
            unfold ckE tknP
            rw [HR.out]
            rw [decide_eq_false (fun e => e3 e.2.2)]; rfl
          go_upto_region 4 with fail
          have uc := @Up.cell
          have uf := @Up.frozen
          refine wp_region_up (by kernel_rfl) (by kernel_rfl) ?_
          repeat (go_big_quiet_step ((go_at_call 53; exact Calls.up_of (isHome_is x.k false HK.out _))))
          refine wpQuiet_nil ?_
          rintro _ ⟨u, rfl⟩
          clear uc uf
          go_wp2_with fail
          go_ret
          exact ⟨by rw [HC.out]; rfl, next hB1 u.2⟩
      · have h2b : decide ((N : Int) ≤ x.f) = true := decide_eq_true (by omega)
        have HK : Hid (decide (x.k = 1 ∨ x.k = 2) = decide (x.k = 1 ∨ x.k = 2)) := rfl
        have HC : Hid (ckE N node L x = 1) := by
          show _ = _
          unfold ckE tknP
          rw [HR.out]
          rw [decide_eq_false (fun e => e2 e.2.1)]; rfl
        go_upto_region 4 with fail
        have uc := @Up.cell
        have uf := @Up.frozen
        refine wp_region_up (by kernel_rfl) (by kernel_rfl) ?_
        repeat (go_big_quiet_step ((go_at_call 53; exact Calls.up_of (isHome_is x.k _ HK.out _))))
        refine wpQuiet_nil ?_
        rintro _ ⟨u, rfl⟩
        clear uc uf
        go_wp2_with fail
        go_ret
        exact ⟨by rw [HC.out]; rfl, next hB1 u.2⟩
    · have h1b : (x.t != node) = true := by simp [e1]
      have HK : Hid (decide (x.k = 1 ∨ x.k = 2) = decide (x.k = 1 ∨ x.k = 2)) := rfl
      have HC : Hid (ckE N node L x = 1) := by
        show _ = _
        unfold ckE tknP
        rw [HR.out]
        rw [decide_eq_false (fun e => e1 e.1)]; rfl
      go_upto_region 4 with fail
      have uc := @Up.cell
      have uf := @Up.frozen
      refine wp_region_up (by kernel_rfl) (by kernel_rfl) ?_
      repeat (go_big_quiet_step ((go_at_call 53; exact Calls.up_of (isHome_is x.k _ HK.out _))))
      refine wpQuiet_nil ?_
      rintro _ ⟨u, rfl⟩
      clear uc uf
      go_wp2_with fail
      go_ret
      exact ⟨by rw [HC.out]; rfl, next hB1 u.2⟩
end
end Go.Proofs.Ytgeiagndpfdnlaa
end
section
namespace Go.Proofs.Ytgeiagndpfdnlaa
open Go.RowKit Go.Maps
set_option linter.unusedVariables false
set_option maxRecDepth 20000

section
variable {w wx wy : World} {g g1 g2 n N : Nat} {X Y : Nat → Prop} {K node : Int} {L : List Hr} {o : List (Int × Int)} {q : List Wr}
/-- What is new is the test's own. -/
theorem PH.own (h : PH w wx g g1 g2 X N K node L n o q) (hb : Below wx.heap.size wx wy) : PH w wy g g1 g2 (fun j => X j ∨ (wx.heap.size ≤ j ∧ j < wy.heap.size)) N K node L n o q :=
  h.step (F := fun _ => False) (Keep.of_below hb) (fun _ h => h.elim) (fun j hj => by
    rcases hj with hj | hj
    · exact ⟨.inl hj, Nat.lt_of_lt_of_le (h.xl j hj) hb.size⟩
    · exact ⟨.inr hj.1, hj.2⟩)
/-- Less is the test's own. -/
theorem PH.off (h : PH w wx g g1 g2 Y N K node L n o q) (hX : ∀ j, X j → Y j) : PH w wx g g1 g2 X N K node L n o q :=
  h.step (F := fun _ => False) (Keep.refl _ _) (fun _ h => h.elim) (fun j hj => ⟨.inl (hX j hj), h.xl j (hX j hj)⟩)
theorem nx_less (hX : ∀ j, X j → Y j) {j : Nat} (h : NX w Y j) : NX w X j := ⟨h.1, fun hx => h.2 (hX j hx)⟩
set_option maxHeartbeats 1600000 in
theorem hlock_no (h : PH w wx g g1 g2 X N K node L n o q) (x : Pk) (a : Option Addr) (m c : Nat) (hl : In64 x.l) (h1 : 0 ≤ x.l) (h2 : 0 ≤ x.f) (hn : n ≤ 1000) (hb : askB o q x.l = false) :
    Calls Try.prog 29 #[.pointer (some ⟨g, 0, none⟩), x.val (.slice a m c)] wx fun e w' => e = .returned (.tuple #[zeroPk.val (.slice none 0 0), .bool false]) ∧ Keep (NX w X) wx w' ∧ PH w w' g g1 g2 X N K node L (n + 1) (askO o q x.l x.f) (askQ o q x.l x.f x.i) := by
  have HH : Hid (In64 x.l ∧ 0 ≤ x.l ∧ 0 ≤ x.f ∧ n ≤ 1000) := ⟨hl, h1, h2, hn⟩
  have HBB : Hid (askB o q x.l = false) := hb
  clear hl h1 h2 hn hb
  unfold Pk.val
  go_enter Try.func29, Try.ntmps29
  go_upto_region 1 with fail
  have hB : Below wx.heap.size wx ((wx.alloc (.cells #[.int .i64 x.k, .int .i64 x.f, .int .i64 x.t, .int .i64 x.i, .int .i64 x.l, .int .i64 x.p, .int .i64 x.s, .bool x.fl, .slice a m c] 32)).alloc (.cells #[.int .i64 0, .int .i64 0, .int .i64 0, .int .i64 0, .int .i64 0, .int .i64 0, .int .i64 0, .bool false, .slice none 0 0] 32)) := ba (ba (Below.refl _ _))
  have bxp : Bx ((wx.alloc (.cells #[.int .i64 x.k, .int .i64 x.f, .int .i64 x.t, .int .i64 x.i, .int .i64 x.l, .int .i64 x.p, .int .i64 x.s, .bool x.fl, .slice a m c] 32)).alloc (.cells #[.int .i64 0, .int .i64 0, .int .i64 0, .int .i64 0, .int .i64 0, .int .i64 0, .int .i64 0, .bool false, .slice none 0 0] 32)) wx.heap.size x (.slice a m c) := (Bx.made wx x (.slice a m c)).next (ba (Below.refl _ _))
  have bxr : Bx ((wx.alloc (.cells #[.int .i64 x.k, .int .i64 x.f, .int .i64 x.t, .int .i64 x.i, .int .i64 x.l, .int .i64 x.p, .int .i64 x.s, .bool x.fl, .slice a m c] 32)).alloc (.cells #[.int .i64 0, .int .i64 0, .int .i64 0, .int .i64 0, .int .i64 0, .int .i64 0, .int .i64 0, .bool false, .slice none 0 0] 32)) (wx.heap.size + 1) zeroPk (.slice none 0 0) := Bx.made' (wx.alloc (.cells #[.int .i64 x.k, .int .i64 x.f, .int .i64 x.t, .int .i64 x.i, .int .i64 x.l, .int .i64 x.p, .int .i64 x.s, .bool x.fl, .slice a m c] 32)) zeroPk (.slice none 0 0) _ (by simp)
  have h1 := h.own hB
  have HX : Hid (∀ j, X j → j < wx.heap.size) := h.xl
  have HWS : Hid (w.heap.size ≤ wx.heap.size) := h.bel.size
  clear h
  generalize World.alloc _ (.cells #[.int .i64 0, .int .i64 0, .int .i64 0, .int .i64 0, .int .i64 0, .int .i64 0, .int .i64 0, .bool false, .slice none 0 0] 32) = W at *
  obtain ⟨q0, q1, q2, q3, q4, q5, q6, q7, q8, qf, ql⟩ := id bxp
  have c0 := h1.c0
  have c1 := h1.c1
  have c2 := h1.c2
  have c3 := h1.c3
  have lt := h1.lt
  refine wp_region_orders 12 rfl (by kernel_rfl) ?_
  have Bd : Below W.heap.size W W.drew := (Below.refl _ _).drew
  replace c1 := (Bd.cell (p := ⟨g, 1, none⟩) lt).trans c1
  replace q1 := (Bd.cell (p := ⟨wx.heap.size, 1, none⟩) ql).trans q1
  replace q3 := (Bd.cell (p := ⟨wx.heap.size, 3, none⟩) ql).trans q3
  replace q4 := (Bd.cell (p := ⟨wx.heap.size, 4, none⟩) ql).trans q4
  have h2 := h1.below Bd
  have bp2 := bxp.next Bd
  have br2 := bxr.next Bd
  have hB2 := next hB Bd
  have HSZ : Hid (wx.heap.size + 1 < W.heap.size) := bxr.lt
  have HXW : Hid (∀ j, wx.heap.size ≤ j → j < W.heap.size → (X j ∨ wx.heap.size ≤ j ∧ j < W.heap.size)) := fun j h1 h2 => .inr ⟨h1, h2⟩
  obtain ⟨zw, ezw⟩ : ∃ zw, W.heap.size = zw := ⟨_, rfl⟩
  rw [ezw] at h2 HSZ HXW
  clear ezw q0 q2 q5 q6 q7 q8 qf bxp bxr h1 hB c0 c2 c3 lt ql
  clear Bd
  generalize W.drew = Wd at *
  clear W
  have hI : (fun V => V.cell? ⟨g, 1, none⟩ = some (.pointer (some ⟨g2, 0, none⟩)) ∧ V.cell? ⟨wx.heap.size, 1, none⟩ = some (.int .i64 x.f) ∧ V.cell? ⟨wx.heap.size, 3, none⟩ = some (.int .i64 x.i) ∧ V.cell? ⟨wx.heap.size, 4, none⟩ = some (.int .i64 x.l)) Wd := ⟨c1, q1, q3, q4⟩
  refine any_inv (fun V => V.cell? ⟨g, 1, none⟩ = some (.pointer (some ⟨g2, 0, none⟩)) ∧ V.cell? ⟨wx.heap.size, 1, none⟩ = some (.int .i64 x.f) ∧ V.cell? ⟨wx.heap.size, 3, none⟩ = some (.int .i64 x.i) ∧ V.cell? ⟨wx.heap.size, 4, none⟩ = some (.int .i64 x.l)) [10] hI ?_
  refine inv_take (v := ?v1) [1, 2, 3, 10, 11] 0 hI rfl (by kernel_rfl) (by kernel_rfl) (by kernel_rfl) (by kernel_rfl) (by kernel_rfl) (fun _ _ _ h => h) (by kernel_rfl) (fun V hV => ?hy1) ?go1
  case hy1 => (obtain ⟨i0, i1, i2, i3⟩ := hV; go_simp <;> rfl)
  simp only [Act.put, List.setIfInBounds_toArray, List.set_cons_zero, List.set_cons_succ]
  refine inv_take (v := ?v2) [2, 3, 10, 11] 1 hI rfl (by kernel_rfl) (by kernel_rfl) (by kernel_rfl) (by kernel_rfl) (by kernel_rfl) (fun _ _ _ h => h) (by kernel_rfl) (fun V hV => ?hy2) ?go2
  case hy2 => (obtain ⟨i0, i1, i2, i3⟩ := hV; go_simp <;> rfl)
  simp only [Act.put, List.setIfInBounds_toArray, List.set_cons_zero, List.set_cons_succ]
  refine inv_take (v := ?v3) [3, 10, 11] 2 hI rfl (by kernel_rfl) (by kernel_rfl) (by kernel_rfl) (by kernel_rfl) (by kernel_rfl) (fun _ _ _ h => h) (by kernel_rfl) (fun V hV => ?hy3) ?go3
  case hy3 => (obtain ⟨i0, i1, i2, i3⟩ := hV; go_simp <;> rfl)
  simp only [Act.put, List.setIfInBounds_toArray, List.set_cons_zero, List.set_cons_succ]
  refine inv_take (v := ?v4) [10, 11] 3 hI rfl (by kernel_rfl) (by kernel_rfl) (by kernel_rfl) (by kernel_rfl) (by kernel_rfl) (fun _ _ _ h => h) (by kernel_rfl) (fun V hV => ?hy4) ?go4
  case hy4 => (obtain ⟨i0, i1, i2, i3⟩ := hV; go_simp <;> rfl)
  simp only [Act.put, List.setIfInBounds_toArray, List.set_cons_zero, List.set_cons_succ]
  refine inv_take (v := ?v5) [5, 10, 11] 4 hI rfl (by kernel_rfl) (by kernel_rfl) (by kernel_rfl) (by kernel_rfl) (by kernel_rfl) (fun _ _ _ h => h) (by kernel_rfl) (fun V hV => ?hy5) ?go5
  case hy5 => (obtain ⟨i0, i1, i2, i3⟩ := hV; go_simp <;> rfl)
  simp only [Act.put, List.setIfInBounds_toArray, List.set_cons_zero, List.set_cons_succ]
  refine inv_take (v := ?v6) [10, 11] 5 hI rfl (by kernel_rfl) (by kernel_rfl) (by kernel_rfl) (by kernel_rfl) (by kernel_rfl) (fun _ _ _ h => h) (by kernel_rfl) (fun V hV => ?hy6) ?go6
  case hy6 => (obtain ⟨i0, i1, i2, i3⟩ := hV; go_simp <;> rfl)
  simp only [Act.put, List.setIfInBounds_toArray, List.set_cons_zero, List.set_cons_succ]
  refine inv_take (v := ?v7) [7, 10, 11] 6 hI rfl (by kernel_rfl) (by kernel_rfl) (by kernel_rfl) (by kernel_rfl) (by kernel_rfl) (fun _ _ _ h => h) (by kernel_rfl) (fun V hV => ?hy7) ?go7
  case hy7 => (obtain ⟨i0, i1, i2, i3⟩ := hV; go_simp <;> rfl)
  simp only [Act.put, List.setIfInBounds_toArray, List.set_cons_zero, List.set_cons_succ]
  refine inv_take (v := ?v8) [10, 11] 7 hI rfl (by kernel_rfl) (by kernel_rfl) (by kernel_rfl) (by kernel_rfl) (by kernel_rfl) (fun _ _ _ h => h) (by kernel_rfl) (fun V hV => ?hy8) ?go8
  case hy8 => (obtain ⟨i0, i1, i2, i3⟩ := hV; go_simp <;> rfl)
  simp only [Act.put, List.setIfInBounds_toArray, List.set_cons_zero, List.set_cons_succ]
  refine inv_take (v := ?v9) [9, 10, 11] 8 hI rfl (by kernel_rfl) (by kernel_rfl) (by kernel_rfl) (by kernel_rfl) (by kernel_rfl) (fun _ _ _ h => h) (by kernel_rfl) (fun V hV => ?hy9) ?go9
  case hy9 => (obtain ⟨i0, i1, i2, i3⟩ := hV; go_simp <;> rfl)
  simp only [Act.put, List.setIfInBounds_toArray, List.set_cons_zero, List.set_cons_succ]
  refine inv_take (v := ?v10) [10, 11] 9 hI rfl (by kernel_rfl) (by kernel_rfl) (by kernel_rfl) (by kernel_rfl) (by kernel_rfl) (fun _ _ _ h => h) (by kernel_rfl) (fun V hV => ?hy10) ?go10
  case hy10 => (obtain ⟨i0, i1, i2, i3⟩ := hV; go_simp <;> rfl)
  simp only [Act.put, List.setIfInBounds_toArray, List.set_cons_zero, List.set_cons_succ]
  refine inv_write 10 (by kernel_rfl) (by kernel_rfl) rfl ?_
  go_wp2_with (go_at_call 54; refine (hp_ask h2.hp x.i HH.out.1 HH.out.2.1 HH.out.2.2.1 HH.out.2.2.2).mono ?_; rw [HBB.out]; rintro e V2 ⟨rfl, hk2, p2⟩; obtain ⟨hk3, h3⟩ := h2.call hk2 p2)
  refine then_n ?_
  refine any_list 11 (by kernel_rfl) rfl ?_
  go_wp2_with fail
  refine then_n ?_
  clear hI c1 q1 q3 q4
  refine any_done (by kernel_rfl) ?_
  have br3 := br2.keep hk2 (fun hf => hf.2 (.inl (HXW.out _ (by omega) HSZ.out)))
  have hK := Keep.pre hB2 (hk3.mono (G := NX w X) (fun j _ hj => nx_less (fun j hx => .inl hx) hj))
  clear hk2 hk3 p2 br2 bp2 h2 hB2
  obtain ⟨r0, r1, r2, r3, r4, r5, r6, r7, r8, rf, rl⟩ := id br3
  have f0 := rf 0
  go_wp2_with fail
  have hkk : Keep (fun k => k = wx.heap.size + 1) V2 _ := far9 (g := wx.heap.size + 1) (y := zeroPk) (v := .slice none 0 0) (W := V2) (P := fun V => Keep (fun k => k = wx.heap.size + 1) V2 V) (fun V o u h => h.setCell (.inl rfl) u) (Keep.refl _ _)
  refine bodyPost_ret (v := .tuple #[Pk.val zeroPk (.slice none 0 0), .bool false]) (by simp [results, Try.results29, go_sem, *, zeroPk]) rfl ⟨rfl, hK.trans hkk (fun j hj e => by omega), h3.step hkk (fun j hj => ?_) (fun j hj => ⟨.inl (.inl hj), ?_⟩)⟩
  · subst hj
    have h1 := HWS.out
    exact ⟨by omega, .inl (HXW.out _ (by omega) HSZ.out)⟩
  · have h1 := h3.xl j (.inl hj)
    exact Nat.lt_of_lt_of_le h1 hkk.size
set_option maxHeartbeats 1600000 in
theorem hlock_yes (h : PH w wx g g1 g2 X N K node L n o q) (x : Pk) (a : Option Addr) (m c : Nat) (hl : In64 x.l) (h1 : 0 ≤ x.l) (h2 : 0 ≤ x.f) (hn : n ≤ 1000) (hb : askB o q x.l = true) :
    Calls Try.prog 29 #[.pointer (some ⟨g, 0, none⟩), x.val (.slice a m c)] wx fun e w' => ∃ d, e = .returned (.tuple #[(grantR node x.f x.i x.l L).val d, .bool true]) ∧ DatZ w' (fun k => wx.heap.size ≤ k) (grantR node x.f x.i x.l L).z d ∧ Keep (NX w X) wx w' ∧ PH w w' g g1 g2 X N K node L (n + 1) (askO o q x.l x.f) (askQ o q x.l x.f x.i) := by
  have HH : Hid (In64 x.l ∧ 0 ≤ x.l ∧ 0 ≤ x.f ∧ n ≤ 1000) := ⟨hl, h1, h2, hn⟩
  have HBB : Hid (askB o q x.l = true) := hb
  clear hl h1 h2 hn hb
  unfold Pk.val
  go_enter Try.func29, Try.ntmps29
  go_upto_region 1 with fail
  have hB : Below wx.heap.size wx ((wx.alloc (.cells #[.int .i64 x.k, .int .i64 x.f, .int .i64 x.t, .int .i64 x.i, .int .i64 x.l, .int .i64 x.p, .int .i64 x.s, .bool x.fl, .slice a m c] 32)).alloc (.cells #[.int .i64 0, .int .i64 0, .int .i64 0, .int .i64 0, .int .i64 0, .int .i64 0, .int .i64 0, .bool false, .slice none 0 0] 32)) := ba (ba (Below.refl _ _))
  have bxp : Bx ((wx.alloc (.cells #[.int .i64 x.k, .int .i64 x.f, .int .i64 x.t, .int .i64 x.i, .int .i64 x.l, .int .i64 x.p, .int .i64 x.s, .bool x.fl, .slice a m c] 32)).alloc (.cells #[.int .i64 0, .int .i64 0, .int .i64 0, .int .i64 0, .int .i64 0, .int .i64 0, .int .i64 0, .bool false, .slice none 0 0] 32)) wx.heap.size x (.slice a m c) := (Bx.made wx x (.slice a m c)).next (ba (Below.refl _ _))
  have bxr : Bx ((wx.alloc (.cells #[.int .i64 x.k, .int .i64 x.f, .int .i64 x.t, .int .i64 x.i, .int .i64 x.l, .int .i64 x.p, .int .i64 x.s, .bool x.fl, .slice a m c] 32)).alloc (.cells #[.int .i64 0, .int .i64 0, .int .i64 0, .int .i64 0, .int .i64 0, .int .i64 0, .int .i64 0, .bool false, .slice none 0 0] 32)) (wx.heap.size + 1) zeroPk (.slice none 0 0) := Bx.made' (wx.alloc (.cells #[.int .i64 x.k, .int .i64 x.f, .int .i64 x.t, .int .i64 x.i, .int .i64 x.l, .int .i64 x.p, .int .i64 x.s, .bool x.fl, .slice a m c] 32)) zeroPk (.slice none 0 0) _ (by simp)
  have h1 := h.own hB
  have HX : Hid (∀ j, X j → j < wx.heap.size) := h.xl
  have HWS : Hid (w.heap.size ≤ wx.heap.size) := h.bel.size
  clear h
  generalize World.alloc _ (.cells #[.int .i64 0, .int .i64 0, .int .i64 0, .int .i64 0, .int .i64 0, .int .i64 0, .int .i64 0, .bool false, .slice none 0 0] 32) = W at *
  obtain ⟨q0, q1, q2, q3, q4, q5, q6, q7, q8, qf, ql⟩ := id bxp
  have c0 := h1.c0
  have c1 := h1.c1
  have c2 := h1.c2
  have c3 := h1.c3
  have lt := h1.lt
  refine wp_region_orders 12 rfl (by kernel_rfl) ?_
  have Bd : Below W.heap.size W W.drew := (Below.refl _ _).drew
  replace c1 := (Bd.cell (p := ⟨g, 1, none⟩) lt).trans c1
  replace q1 := (Bd.cell (p := ⟨wx.heap.size, 1, none⟩) ql).trans q1
  replace q3 := (Bd.cell (p := ⟨wx.heap.size, 3, none⟩) ql).trans q3
  replace q4 := (Bd.cell (p := ⟨wx.heap.size, 4, none⟩) ql).trans q4
  have h2 := h1.below Bd
  have bp2 := bxp.next Bd
  have br2 := bxr.next Bd
  have hB2 := next hB Bd
  have HSZ : Hid (wx.heap.size + 1 < W.heap.size) := bxr.lt
  have HXW : Hid (∀ j, wx.heap.size ≤ j → j < W.heap.size → (X j ∨ wx.heap.size ≤ j ∧ j < W.heap.size)) := fun j h1 h2 => .inr ⟨h1, h2⟩
  obtain ⟨zw, ezw⟩ : ∃ zw, W.heap.size = zw := ⟨_, rfl⟩
  rw [ezw] at h2 HSZ HXW
  clear ezw q0 q2 q5 q6 q7 q8 qf bxp bxr h1 hB c0 c2 c3 lt ql
  clear Bd
  generalize W.drew = Wd at *
  clear W
  have hI : (fun V => V.cell? ⟨g, 1, none⟩ = some (.pointer (some ⟨g2, 0, none⟩)) ∧ V.cell? ⟨wx.heap.size, 1, none⟩ = some (.int .i64 x.f) ∧ V.cell? ⟨wx.heap.size, 3, none⟩ = some (.int .i64 x.i) ∧ V.cell? ⟨wx.heap.size, 4, none⟩ = some (.int .i64 x.l)) Wd := ⟨c1, q1, q3, q4⟩
  refine any_inv (fun V => V.cell? ⟨g, 1, none⟩ = some (.pointer (some ⟨g2, 0, none⟩)) ∧ V.cell? ⟨wx.heap.size, 1, none⟩ = some (.int .i64 x.f) ∧ V.cell? ⟨wx.heap.size, 3, none⟩ = some (.int .i64 x.i) ∧ V.cell? ⟨wx.heap.size, 4, none⟩ = some (.int .i64 x.l)) [10] hI ?_
  refine inv_take (v := ?v1) [1, 2, 3, 10, 11] 0 hI rfl (by kernel_rfl) (by kernel_rfl) (by kernel_rfl) (by kernel_rfl) (by kernel_rfl) (fun _ _ _ h => h) (by kernel_rfl) (fun V hV => ?hy1) ?go1
  case hy1 => (obtain ⟨i0, i1, i2, i3⟩ := hV; go_simp <;> rfl)
  simp only [Act.put, List.setIfInBounds_toArray, List.set_cons_zero, List.set_cons_succ]
  refine inv_take (v := ?v2) [2, 3, 10, 11] 1 hI rfl (by kernel_rfl) (by kernel_rfl) (by kernel_rfl) (by kernel_rfl) (by kernel_rfl) (fun _ _ _ h => h) (by kernel_rfl) (fun V hV => ?hy2) ?go2
  case hy2 => (obtain ⟨i0, i1, i2, i3⟩ := hV; go_simp <;> rfl)
  simp only [Act.put, List.setIfInBounds_toArray, List.set_cons_zero, List.set_cons_succ]
  refine inv_take (v := ?v3) [3, 10, 11] 2 hI rfl (by kernel_rfl) (by kernel_rfl) (by kernel_rfl) (by kernel_rfl) (by kernel_rfl) (fun _ _ _ h => h) (by kernel_rfl) (fun V hV => ?hy3) ?go3
  case hy3 => (obtain ⟨i0, i1, i2, i3⟩ := hV; go_simp <;> rfl)
  simp only [Act.put, List.setIfInBounds_toArray, List.set_cons_zero, List.set_cons_succ]
  refine inv_take (v := ?v4) [10, 11] 3 hI rfl (by kernel_rfl) (by kernel_rfl) (by kernel_rfl) (by kernel_rfl) (by kernel_rfl) (fun _ _ _ h => h) (by kernel_rfl) (fun V hV => ?hy4) ?go4
  case hy4 => (obtain ⟨i0, i1, i2, i3⟩ := hV; go_simp <;> rfl)
  simp only [Act.put, List.setIfInBounds_toArray, List.set_cons_zero, List.set_cons_succ]
  refine inv_take (v := ?v5) [5, 10, 11] 4 hI rfl (by kernel_rfl) (by kernel_rfl) (by kernel_rfl) (by kernel_rfl) (by kernel_rfl) (fun _ _ _ h => h) (by kernel_rfl) (fun V hV => ?hy5) ?go5
  case hy5 => (obtain ⟨i0, i1, i2, i3⟩ := hV; go_simp <;> rfl)
  simp only [Act.put, List.setIfInBounds_toArray, List.set_cons_zero, List.set_cons_succ]
  refine inv_take (v := ?v6) [10, 11] 5 hI rfl (by kernel_rfl) (by kernel_rfl) (by kernel_rfl) (by kernel_rfl) (by kernel_rfl) (fun _ _ _ h => h) (by kernel_rfl) (fun V hV => ?hy6) ?go6
  case hy6 => (obtain ⟨i0, i1, i2, i3⟩ := hV; go_simp <;> rfl)
  simp only [Act.put, List.setIfInBounds_toArray, List.set_cons_zero, List.set_cons_succ]
  refine inv_take (v := ?v7) [7, 10, 11] 6 hI rfl (by kernel_rfl) (by kernel_rfl) (by kernel_rfl) (by kernel_rfl) (by kernel_rfl) (fun _ _ _ h => h) (by kernel_rfl) (fun V hV => ?hy7) ?go7
  case hy7 => (obtain ⟨i0, i1, i2, i3⟩ := hV; go_simp <;> rfl)
  simp only [Act.put, List.setIfInBounds_toArray, List.set_cons_zero, List.set_cons_succ]
  refine inv_take (v := ?v8) [10, 11] 7 hI rfl (by kernel_rfl) (by kernel_rfl) (by kernel_rfl) (by kernel_rfl) (by kernel_rfl) (fun _ _ _ h => h) (by kernel_rfl) (fun V hV => ?hy8) ?go8
  case hy8 => (obtain ⟨i0, i1, i2, i3⟩ := hV; go_simp <;> rfl)
  simp only [Act.put, List.setIfInBounds_toArray, List.set_cons_zero, List.set_cons_succ]
  refine inv_take (v := ?v9) [9, 10, 11] 8 hI rfl (by kernel_rfl) (by kernel_rfl) (by kernel_rfl) (by kernel_rfl) (by kernel_rfl) (fun _ _ _ h => h) (by kernel_rfl) (fun V hV => ?hy9) ?go9
  case hy9 => (obtain ⟨i0, i1, i2, i3⟩ := hV; go_simp <;> rfl)
  simp only [Act.put, List.setIfInBounds_toArray, List.set_cons_zero, List.set_cons_succ]
  refine inv_take (v := ?v10) [10, 11] 9 hI rfl (by kernel_rfl) (by kernel_rfl) (by kernel_rfl) (by kernel_rfl) (by kernel_rfl) (fun _ _ _ h => h) (by kernel_rfl) (fun V hV => ?hy10) ?go10
  case hy10 => (obtain ⟨i0, i1, i2, i3⟩ := hV; go_simp <;> rfl)
  simp only [Act.put, List.setIfInBounds_toArray, List.set_cons_zero, List.set_cons_succ]
  refine inv_write 10 (by kernel_rfl) (by kernel_rfl) rfl ?_
  go_wp2_with (go_at_call 54; refine (hp_ask h2.hp x.i HH.out.1 HH.out.2.1 HH.out.2.2.1 HH.out.2.2.2).mono ?_; rw [HBB.out]; rintro e V2 ⟨rfl, hk2, p2⟩; obtain ⟨hk3, h3⟩ := h2.call hk2 p2)
  refine then_n ?_
  refine any_list 11 (by kernel_rfl) rfl ?_
  go_wp2_with fail
  refine then_n ?_
  clear hI c1 q1 q3 q4
  have bp3 := bp2.keep hk2 (fun hf => hf.2 (.inl (HXW.out _ (Nat.le_refl _) (by have := HSZ.out; omega))))
  refine any_done (by kernel_rfl) ?_
  have br3 := br2.keep hk2 (fun hf => hf.2 (.inl (HXW.out _ (by omega) HSZ.out)))
  have hK := Keep.pre hB2 (hk3.mono (G := NX w X) (fun j _ hj => nx_less (fun j hx => .inl hx) hj))
  have hz2 : Hid (wx.heap.size + 1 < V2.heap.size) := br3.lt
  have hzz : wx.heap.size ≤ V2.heap.size := hK.size
  clear hk2 hk3 p2 br2 bp2 h2 hB2
  obtain ⟨q0, q1, q2, q3, q4, q5, q6, q7, q8, qf, ql⟩ := id bp3
  obtain ⟨P, hP⟩ : ∃ P, grantR node x.f x.i x.l L = P := ⟨_, rfl⟩
  go_wp2_with (go_at_call 35; refine (hgranted_any h3 HH.out.1 x.f x.i).mono ?_; rw [hP]; rintro e V5 ⟨dd, rfl, hd5, b5⟩; obtain ⟨a5, n5, c5, ed, _⟩ := id hd5; subst ed; have br6 := br3.next b5; obtain ⟨r0, r1, r2, r3, r4, r5, r6, r7, r8, rf, rl⟩ := id br6; have f0 := rf 0)
  have hkk : Keep (fun k => k = wx.heap.size + 1) V5 _ := far9 (g := wx.heap.size + 1) (y := P) (v := .slice a5 n5 c5) (W := V5) (P := fun V => Keep (fun k => k = wx.heap.size + 1) V5 V) (fun V o u h => h.setCell (.inl rfl) u) (Keep.refl _ _)
  refine bodyPost_ret (v := .tuple #[Pk.val P (.slice a5 n5 c5), .bool true]) (by simp [results, Try.results29, go_sem, *]) rfl ⟨_, by rw [hP], by rw [hP]; exact (hd5.keep hkk (fun j hj e => by have := hz2.out; omega)).imp (fun j _ hj => by omega), (hK.trans (Keep.of_below (F := fun _ => False) b5) (fun j _ h => h.elim)).trans hkk (fun j hj e => by omega), (h3.below b5).step hkk (fun j hj => ?_) (fun j hj => ⟨.inl (.inl hj), ?_⟩)⟩
  · subst hj
    have h1 := HWS.out
    exact ⟨by omega, .inl (HXW.out _ (by omega) HSZ.out)⟩
  · have h1 := h3.xl j (.inl hj)
    have h2 := b5.size
    have h4 := hkk.size
    omega
end
end Go.Proofs.Ytgeiagndpfdnlaa
end
section
namespace Go.Proofs.Ytgeiagndpfdnlaa
open Go.RowKit Go.Maps
set_option linter.unusedVariables false
set_option maxRecDepth 20000

/-- The data that an Unlock sets. -/
def unlD (x : Pk) : List Int := if x.fl = true then x.z else []
theorem newData_any (x : Pk) (a : Option Addr) (m c : Nat) (w : World) (hsl : Sl w a m c x.z) : Calls Try.prog 56 #[x.val (.slice a m c)] w fun e w' => ∃ a' m' c', e = .returned (.slice a' m' c') ∧ Sl w' a' m' c' (unlD x) ∧ Below w.heap.size w w' := by
  unfold unlD
  cases hf : x.fl with
  | true =>
    refine (hnewData_yes x _ hf w).mono ?_
    rintro e w' ⟨rfl, hb⟩
    exact ⟨a, m, c, rfl, by rw [if_pos rfl]; exact hsl.below hb, hb⟩
  | false =>
    refine (hnewData_no x (.slice a m c) hf w).mono ?_
    rintro e w' ⟨rfl, hb⟩
    exact ⟨none, 0, 0, rfl, by rw [if_neg (by simp)]; exact sl_nil _, hb⟩
section
variable {w wx wy : World} {g g1 g2 n N : Nat} {X Y : Nat → Prop} {K node : Int} {L : List Hr} {o : List (Int × Int)} {q : List Wr}
theorem owner_is (h : PH w wx g g1 g2 X N K node L n o q) {l : Int} (hl : In64 l) : Calls Try.prog 11 #[.pointer (some ⟨g2, 0, none⟩), .int .i64 l] wx fun e w' => e = .returned (.int .i64 (ownT o l)) ∧ Below wx.heap.size wx w' := by
  refine (hp_owner h.hp hl).mono ?_
  rintro e w' ⟨rfl, rfl⟩
  exact ⟨rfl, Below.refl _ _⟩
set_option maxHeartbeats 1600000 in
theorem hunlock_state (h : PH w wx g g1 g2 X N K node L n o q) (x : Pk) (a : Option Addr) (m c : Nat) (hsl : Sl wx a m c x.z) (hl : In64 x.l) (ho : ownT o x.l ≠ x.f) :
    Calls Try.prog 30 #[.pointer (some ⟨g, 0, none⟩), x.val (.slice a m c)] wx fun e w' => e = .returned (.int .i64 6) ∧ Below wx.heap.size wx w' := by
  have hob : (ownT o x.l != x.f) = true := by simp [ho]
  have HL : Hid (In64 x.l) := hl
  clear hl ho
  unfold Pk.val
  go_enter Try.func30, Try.ntmps30
  go_upto_region 1 with fail
  have hB : Below wx.heap.size wx (wx.alloc (.cells #[.int .i64 x.k, .int .i64 x.f, .int .i64 x.t, .int .i64 x.i, .int .i64 x.l, .int .i64 x.p, .int .i64 x.s, .bool x.fl, .slice a m c] 32)) := ba (Below.refl _ _)
  have bxp : Bx (wx.alloc (.cells #[.int .i64 x.k, .int .i64 x.f, .int .i64 x.t, .int .i64 x.i, .int .i64 x.l, .int .i64 x.p, .int .i64 x.s, .bool x.fl, .slice a m c] 32)) wx.heap.size x (.slice a m c) := Bx.made wx x (.slice a m c)
  have h1 := h.own hB
  have hs1 := hsl.below hB
  have HX : Hid (∀ j, X j → j < wx.heap.size) := h.xl
  have HWS : Hid (w.heap.size ≤ wx.heap.size) := h.bel.size
  clear h hsl
  generalize World.alloc _ (.cells #[.int .i64 x.k, .int .i64 x.f, .int .i64 x.t, .int .i64 x.i, .int .i64 x.l, .int .i64 x.p, .int .i64 x.s, .bool x.fl, .slice a m c] 32) = W at *
  obtain ⟨q0, q1, q2, q3, q4, q5, q6, q7, q8, qf, ql⟩ := id bxp
  have c0 := h1.c0
  have c1 := h1.c1
  have lt := h1.lt
  have uc := @Up.cell
  have uf := @Up.frozen
  refine wp_region_up (by kernel_rfl) (by kernel_rfl) ?_
  repeat (go_big_quiet_step ((go_at_call 11; exact Calls.up_of (owner_is (h1.below (Subtype.property _)) HL.out))))
  refine wpQuiet_nil ?_
  rintro _ ⟨u, rfl⟩
  clear uc uf
  have h2 := h1.below u.2
  have hs2 := hs1.below u.2
  have bp2 := bxp.next u.2
  have hB2 := next hB u.2
  clear q0 q1 q2 q3 q4 q5 q6 q7 q8 qf ql c0 c1 lt bxp h1 hs1
  go_wp2_with fail
  go_ret
  exact ⟨rfl, hB2⟩
set_option maxHeartbeats 1600000 in
theorem hunlock_err (h : PH w wx g g1 g2 X N K node L n o q) (x : Pk) (a : Option Addr) (m c : Nat) (hsl : Sl wx a m c x.z) (hl : In64 x.l) (ho : ownT o x.l = x.f) (hf : 0 ≤ x.f) (hz : x.z.length ≤ 1000) (he : (setR N K L x.l x.s x.p (unlD x)).1 ≠ 0) :
    Calls Try.prog 30 #[.pointer (some ⟨g, 0, none⟩), x.val (.slice a m c)] wx fun e w' => e = .returned (.int .i64 (setR N K L x.l x.s x.p (unlD x)).1) ∧ Keep (NX w X) wx w' ∧ PH w w' g g1 g2 X N K node L n o q := by
  have hob : (ownT o x.l != x.f) = false := by simp [ho]
  have HL : Hid (In64 x.l) := hl
  have HO : Hid (ownT o x.l = x.f ∧ 0 ≤ x.f) := ⟨ho, hf⟩
  clear hl ho hf
  unfold Pk.val
  go_enter Try.func30, Try.ntmps30
  go_upto_region 1 with fail
  have hB : Below wx.heap.size wx (wx.alloc (.cells #[.int .i64 x.k, .int .i64 x.f, .int .i64 x.t, .int .i64 x.i, .int .i64 x.l, .int .i64 x.p, .int .i64 x.s, .bool x.fl, .slice a m c] 32)) := ba (Below.refl _ _)
  have bxp : Bx (wx.alloc (.cells #[.int .i64 x.k, .int .i64 x.f, .int .i64 x.t, .int .i64 x.i, .int .i64 x.l, .int .i64 x.p, .int .i64 x.s, .bool x.fl, .slice a m c] 32)) wx.heap.size x (.slice a m c) := Bx.made wx x (.slice a m c)
  have h1 := h.own hB
  have hs1 := hsl.below hB
  have HX : Hid (∀ j, X j → j < wx.heap.size) := h.xl
  have HWS : Hid (w.heap.size ≤ wx.heap.size) := h.bel.size
  clear h hsl
  generalize World.alloc _ (.cells #[.int .i64 x.k, .int .i64 x.f, .int .i64 x.t, .int .i64 x.i, .int .i64 x.l, .int .i64 x.p, .int .i64 x.s, .bool x.fl, .slice a m c] 32) = W at *
  obtain ⟨q0, q1, q2, q3, q4, q5, q6, q7, q8, qf, ql⟩ := id bxp
  have c0 := h1.c0
  have c1 := h1.c1
  have lt := h1.lt
  have HSZ : Hid (wx.heap.size < W.heap.size) := bxp.lt
  have uc := @Up.cell
  have uf := @Up.frozen
  refine wp_region_up (by kernel_rfl) (by kernel_rfl) ?_
  repeat (go_big_quiet_step ((go_at_call 11; exact Calls.up_of (owner_is (h1.below (Subtype.property _)) HL.out))))
  refine wpQuiet_nil ?_
  rintro _ ⟨u, rfl⟩
  clear uc uf
  have h2 := h1.below u.2
  have hs2 := hs1.below u.2
  have bp2 := bxp.next u.2
  have hB2 := next hB u.2
  clear q0 q1 q2 q3 q4 q5 q6 q7 q8 qf ql c0 c1 lt bxp h1 hs1
  generalize u.val = V at *
  obtain ⟨q0, q1, q2, q3, q4, q5, q6, q7, q8, qf, ql⟩ := id bp2
  have c0 := h2.c0
  have lt := h2.lt
  go_upto_region 3 with fail
  refine wp_region_orders 14 rfl (by kernel_rfl) ?_
  have Bd : Below V.heap.size V V.drew := (Below.refl _ _).drew
  have hIB : ∀ V', Below V.heap.size V V' → (fun V => V.cell? ⟨g, 0, none⟩ = some (.pointer (some ⟨g1, 0, none⟩)) ∧ V.cell? ⟨wx.heap.size, 0, none⟩ = some (.int .i64 x.k) ∧ V.cell? ⟨wx.heap.size, 1, none⟩ = some (.int .i64 x.f) ∧ V.cell? ⟨wx.heap.size, 2, none⟩ = some (.int .i64 x.t) ∧ V.cell? ⟨wx.heap.size, 3, none⟩ = some (.int .i64 x.i) ∧ V.cell? ⟨wx.heap.size, 4, none⟩ = some (.int .i64 x.l) ∧ V.cell? ⟨wx.heap.size, 5, none⟩ = some (.int .i64 x.p) ∧ V.cell? ⟨wx.heap.size, 6, none⟩ = some (.int .i64 x.s) ∧ V.cell? ⟨wx.heap.size, 7, none⟩ = some (.bool x.fl) ∧ V.cell? ⟨wx.heap.size, 8, none⟩ = some (.slice a m c)) V' := fun V' b => ⟨(b.cell (p := ⟨g, 0, none⟩) lt).trans c0, (b.cell (p := ⟨wx.heap.size, 0, none⟩) ql).trans q0, (b.cell (p := ⟨wx.heap.size, 1, none⟩) ql).trans q1, (b.cell (p := ⟨wx.heap.size, 2, none⟩) ql).trans q2, (b.cell (p := ⟨wx.heap.size, 3, none⟩) ql).trans q3, (b.cell (p := ⟨wx.heap.size, 4, none⟩) ql).trans q4, (b.cell (p := ⟨wx.heap.size, 5, none⟩) ql).trans q5, (b.cell (p := ⟨wx.heap.size, 6, none⟩) ql).trans q6, (b.cell (p := ⟨wx.heap.size, 7, none⟩) ql).trans q7, (b.cell (p := ⟨wx.heap.size, 8, none⟩) ql).trans q8⟩
  have HIB : Hid (∀ V', Below V.heap.size V V' → (fun V => V.cell? ⟨g, 0, none⟩ = some (.pointer (some ⟨g1, 0, none⟩)) ∧ V.cell? ⟨wx.heap.size, 0, none⟩ = some (.int .i64 x.k) ∧ V.cell? ⟨wx.heap.size, 1, none⟩ = some (.int .i64 x.f) ∧ V.cell? ⟨wx.heap.size, 2, none⟩ = some (.int .i64 x.t) ∧ V.cell? ⟨wx.heap.size, 3, none⟩ = some (.int .i64 x.i) ∧ V.cell? ⟨wx.heap.size, 4, none⟩ = some (.int .i64 x.l) ∧ V.cell? ⟨wx.heap.size, 5, none⟩ = some (.int .i64 x.p) ∧ V.cell? ⟨wx.heap.size, 6, none⟩ = some (.int .i64 x.s) ∧ V.cell? ⟨wx.heap.size, 7, none⟩ = some (.bool x.fl) ∧ V.cell? ⟨wx.heap.size, 8, none⟩ = some (.slice a m c)) V') := hIB
  have hI : (fun V => V.cell? ⟨g, 0, none⟩ = some (.pointer (some ⟨g1, 0, none⟩)) ∧ V.cell? ⟨wx.heap.size, 0, none⟩ = some (.int .i64 x.k) ∧ V.cell? ⟨wx.heap.size, 1, none⟩ = some (.int .i64 x.f) ∧ V.cell? ⟨wx.heap.size, 2, none⟩ = some (.int .i64 x.t) ∧ V.cell? ⟨wx.heap.size, 3, none⟩ = some (.int .i64 x.i) ∧ V.cell? ⟨wx.heap.size, 4, none⟩ = some (.int .i64 x.l) ∧ V.cell? ⟨wx.heap.size, 5, none⟩ = some (.int .i64 x.p) ∧ V.cell? ⟨wx.heap.size, 6, none⟩ = some (.int .i64 x.s) ∧ V.cell? ⟨wx.heap.size, 7, none⟩ = some (.bool x.fl) ∧ V.cell? ⟨wx.heap.size, 8, none⟩ = some (.slice a m c)) V.drew := hIB _ Bd
  have h3 := h2.below Bd
  have hs3 := hs2.below Bd
  have bp3 := bp2.next Bd
  have hB3 := next hB2 Bd
  clear hIB q0 q1 q2 q3 q4 q5 q6 q7 q8 qf ql c0 lt bp2 h2 hs2 hB2
  generalize V.drew = Vd at *
  refine any_inv (fun V => V.cell? ⟨g, 0, none⟩ = some (.pointer (some ⟨g1, 0, none⟩)) ∧ V.cell? ⟨wx.heap.size, 0, none⟩ = some (.int .i64 x.k) ∧ V.cell? ⟨wx.heap.size, 1, none⟩ = some (.int .i64 x.f) ∧ V.cell? ⟨wx.heap.size, 2, none⟩ = some (.int .i64 x.t) ∧ V.cell? ⟨wx.heap.size, 3, none⟩ = some (.int .i64 x.i) ∧ V.cell? ⟨wx.heap.size, 4, none⟩ = some (.int .i64 x.l) ∧ V.cell? ⟨wx.heap.size, 5, none⟩ = some (.int .i64 x.p) ∧ V.cell? ⟨wx.heap.size, 6, none⟩ = some (.int .i64 x.s) ∧ V.cell? ⟨wx.heap.size, 7, none⟩ = some (.bool x.fl) ∧ V.cell? ⟨wx.heap.size, 8, none⟩ = some (.slice a m c)) [12] hI ?_
  refine inv_take (v := ?v1) [1, 2, 3, 12, 13] 0 hI rfl (by kernel_rfl) (by kernel_rfl) (by kernel_rfl) (by kernel_rfl) (by kernel_rfl) (fun _ _ _ h => h) (by kernel_rfl) (fun V hV => ?hy1) ?go1
  case hy1 => (obtain ⟨i0, i1, i2, i3, i4, i5, i6, i7, i8, i9⟩ := hV; go_simp <;> rfl)
  simp only [Act.put, List.setIfInBounds_toArray, List.set_cons_zero, List.set_cons_succ]
  refine inv_take (v := ?v2) [2, 3, 12, 13] 1 hI rfl (by kernel_rfl) (by kernel_rfl) (by kernel_rfl) (by kernel_rfl) (by kernel_rfl) (fun _ _ _ h => h) (by kernel_rfl) (fun V hV => ?hy2) ?go2
  case hy2 => (obtain ⟨i0, i1, i2, i3, i4, i5, i6, i7, i8, i9⟩ := hV; go_simp <;> rfl)
  simp only [Act.put, List.setIfInBounds_toArray, List.set_cons_zero, List.set_cons_succ]
  refine inv_take (v := ?v3) [3, 12, 13] 2 hI rfl (by kernel_rfl) (by kernel_rfl) (by kernel_rfl) (by kernel_rfl) (by kernel_rfl) (fun _ _ _ h => h) (by kernel_rfl) (fun V hV => ?hy3) ?go3
  case hy3 => (obtain ⟨i0, i1, i2, i3, i4, i5, i6, i7, i8, i9⟩ := hV; go_simp <;> rfl)
  simp only [Act.put, List.setIfInBounds_toArray, List.set_cons_zero, List.set_cons_succ]
  refine inv_take (v := ?v4) [12, 13] 3 hI rfl (by kernel_rfl) (by kernel_rfl) (by kernel_rfl) (by kernel_rfl) (by kernel_rfl) (fun _ _ _ h => h) (by kernel_rfl) (fun V hV => ?hy4) ?go4
  case hy4 => (obtain ⟨i0, i1, i2, i3, i4, i5, i6, i7, i8, i9⟩ := hV; go_simp <;> rfl)
  simp only [Act.put, List.setIfInBounds_toArray, List.set_cons_zero, List.set_cons_succ]
  refine inv_take (v := ?v5) [5, 12, 13] 4 hI rfl (by kernel_rfl) (by kernel_rfl) (by kernel_rfl) (by kernel_rfl) (by kernel_rfl) (fun _ _ _ h => h) (by kernel_rfl) (fun V hV => ?hy5) ?go5
  case hy5 => (obtain ⟨i0, i1, i2, i3, i4, i5, i6, i7, i8, i9⟩ := hV; go_simp <;> rfl)
  simp only [Act.put, List.setIfInBounds_toArray, List.set_cons_zero, List.set_cons_succ]
  refine inv_take (v := ?v6) [12, 13] 5 hI rfl (by kernel_rfl) (by kernel_rfl) (by kernel_rfl) (by kernel_rfl) (by kernel_rfl) (fun _ _ _ h => h) (by kernel_rfl) (fun V hV => ?hy6) ?go6
  case hy6 => (obtain ⟨i0, i1, i2, i3, i4, i5, i6, i7, i8, i9⟩ := hV; go_simp <;> rfl)
  simp only [Act.put, List.setIfInBounds_toArray, List.set_cons_zero, List.set_cons_succ]
  refine inv_take (v := ?v7) [7, 12, 13] 6 hI rfl (by kernel_rfl) (by kernel_rfl) (by kernel_rfl) (by kernel_rfl) (by kernel_rfl) (fun _ _ _ h => h) (by kernel_rfl) (fun V hV => ?hy7) ?go7
  case hy7 => (obtain ⟨i0, i1, i2, i3, i4, i5, i6, i7, i8, i9⟩ := hV; go_simp <;> rfl)
  simp only [Act.put, List.setIfInBounds_toArray, List.set_cons_zero, List.set_cons_succ]
  refine inv_take (v := ?v8) [12, 13] 7 hI rfl (by kernel_rfl) (by kernel_rfl) (by kernel_rfl) (by kernel_rfl) (by kernel_rfl) (fun _ _ _ h => h) (by kernel_rfl) (fun V hV => ?hy8) ?go8
  case hy8 => (obtain ⟨i0, i1, i2, i3, i4, i5, i6, i7, i8, i9⟩ := hV; go_simp <;> rfl)
  simp only [Act.put, List.setIfInBounds_toArray, List.set_cons_zero, List.set_cons_succ]
  refine inv_take (v := ?v9) [9, 12, 13] 8 hI rfl (by kernel_rfl) (by kernel_rfl) (by kernel_rfl) (by kernel_rfl) (by kernel_rfl) (fun _ _ _ h => h) (by kernel_rfl) (fun V hV => ?hy9) ?go9
  case hy9 => (obtain ⟨i0, i1, i2, i3, i4, i5, i6, i7, i8, i9⟩ := hV; go_simp <;> rfl)
  simp only [Act.put, List.setIfInBounds_toArray, List.set_cons_zero, List.set_cons_succ]
  refine inv_take (v := ?v10) [12, 13] 9 hI rfl (by kernel_rfl) (by kernel_rfl) (by kernel_rfl) (by kernel_rfl) (by kernel_rfl) (fun _ _ _ h => h) (by kernel_rfl) (fun V hV => ?hy10) ?go10
  case hy10 => (obtain ⟨i0, i1, i2, i3, i4, i5, i6, i7, i8, i9⟩ := hV; go_simp <;> rfl)
  simp only [Act.put, List.setIfInBounds_toArray, List.set_cons_zero, List.set_cons_succ]
  refine inv_take (v := ?v11) [11, 12, 13] 10 hI rfl (by kernel_rfl) (by kernel_rfl) (by kernel_rfl) (by kernel_rfl) (by kernel_rfl) (fun _ _ _ h => h) (by kernel_rfl) (fun V hV => ?hy11) ?go11
  case hy11 => (obtain ⟨i0, i1, i2, i3, i4, i5, i6, i7, i8, i9⟩ := hV; go_simp <;> rfl)
  simp only [Act.put, List.setIfInBounds_toArray, List.set_cons_zero, List.set_cons_succ]
  refine inv_list 11 (by kernel_rfl) rfl ?_
  go_wp2_with (go_at_call 56; refine (newData_any x a m c Vd hs3).mono ?_; rintro e V1 ⟨a1, m1, c1, rfl, hs4, b1⟩)
  refine then_n ⟨HIB.out _ (next Bd b1), ?_⟩
  have h4 := h3.below b1
  have bp4 := bp3.next b1
  have hB4 := next hB3 b1
  have hm1 : m1 ≤ 17592186044416 := by have h1 := hs4.len; have h5 : (unlD x).length ≤ 1000 := (by unfold unlD; split; exact hz; simp); omega
  have hset := hp_set h4.hp HL.out x.s x.p a1 m1 c1 (unlD x) hs4 hm1
  clear h3 bp3 hB3 hs3 b1 Bd HIB hI hm1 hs4
  try simp only [Act.put, List.setIfInBounds_toArray, List.set_cons_zero, List.set_cons_succ]
  refine inv_write 12 (by kernel_rfl) (by kernel_rfl) rfl ?_
  obtain ⟨E, hE⟩ : ∃ E, (setR N K L x.l x.s x.p (unlD x)).1 = E := ⟨_, rfl⟩
  rw [hE] at hset he
  have HEE : Hid ((setR N K L x.l x.s x.p (unlD x)).1 = E) := hE
  clear hE
  have heb : (E != 0) = true := by simp [he]
  have hLL : (setR N K L x.l x.s x.p (unlD x)).2 = L := by
    have h1 := HEE.out
    unfold setR at h1 ⊢
    split at h1
    · split at h1
      · exact absurd h1.symm he
      · rename_i hh1 hh2
        rw [if_pos hh1, if_neg hh2]
    · rename_i hh1
      rw [if_neg hh1]
  rw [hLL] at hset
  clear hLL he
  go_wp2_with (go_at_call 55; refine hset.mono ?_; rintro e V2 ⟨rfl, hk2, p2⟩)
  refine then_n ?_
  obtain ⟨hk3, h5⟩ := h4.call hk2 p2
  have hK := Keep.pre hB4 (hk3.mono (G := NX w X) (fun j _ hj => nx_less (fun j hx => .inl hx) hj))
  clear hk2 hk3 p2 bp4 h4 hB4 hset
  refine any_list 13 (by kernel_rfl) rfl ?_
  go_wp2_with fail
  refine then_n ?_
  refine any_done (by kernel_rfl) ?_
  go_wp2_with fail
  go_ret
  exact ⟨by rw [HEE.out]; rfl, hK, h5.off (fun j hj => .inl hj)⟩
set_option maxHeartbeats 1600000 in
theorem hunlock_ok (h : PH w wx g g1 g2 X N K node L n o q) (x : Pk) (a : Option Addr) (m c : Nat) (hsl : Sl wx a m c x.z) (hl : In64 x.l) (ho : ownT o x.l = x.f) (hf : 0 ≤ x.f) (hz : x.z.length ≤ 1000) (he : (setR N K L x.l x.s x.p (unlD x)).1 = 0) :
    Calls Try.prog 30 #[.pointer (some ⟨g, 0, none⟩), x.val (.slice a m c)] wx fun e w' => e = .returned (.int .i64 0) ∧ Keep (NX w X) wx w' ∧ PH w w' g g1 g2 X N K node (setR N K L x.l x.s x.p (unlD x)).2 n (relO o x.l) q := by
  have hob : (ownT o x.l != x.f) = false := by simp [ho]
  have HL : Hid (In64 x.l) := hl
  have HO : Hid (ownT o x.l = x.f ∧ 0 ≤ x.f) := ⟨ho, hf⟩
  clear hl ho hf
  unfold Pk.val
  go_enter Try.func30, Try.ntmps30
  go_upto_region 1 with fail
  have hB : Below wx.heap.size wx (wx.alloc (.cells #[.int .i64 x.k, .int .i64 x.f, .int .i64 x.t, .int .i64 x.i, .int .i64 x.l, .int .i64 x.p, .int .i64 x.s, .bool x.fl, .slice a m c] 32)) := ba (Below.refl _ _)
  have bxp : Bx (wx.alloc (.cells #[.int .i64 x.k, .int .i64 x.f, .int .i64 x.t, .int .i64 x.i, .int .i64 x.l, .int .i64 x.p, .int .i64 x.s, .bool x.fl, .slice a m c] 32)) wx.heap.size x (.slice a m c) := Bx.made wx x (.slice a m c)
  have h1 := h.own hB
  have hs1 := hsl.below hB
  have HX : Hid (∀ j, X j → j < wx.heap.size) := h.xl
  have HWS : Hid (w.heap.size ≤ wx.heap.size) := h.bel.size
  clear h hsl
  generalize World.alloc _ (.cells #[.int .i64 x.k, .int .i64 x.f, .int .i64 x.t, .int .i64 x.i, .int .i64 x.l, .int .i64 x.p, .int .i64 x.s, .bool x.fl, .slice a m c] 32) = W at *
  obtain ⟨q0, q1, q2, q3, q4, q5, q6, q7, q8, qf, ql⟩ := id bxp
  have c0 := h1.c0
  have c1 := h1.c1
  have lt := h1.lt
  have HSZ : Hid (wx.heap.size < W.heap.size) := bxp.lt
  have uc := @Up.cell
  have uf := @Up.frozen
  refine wp_region_up (by kernel_rfl) (by kernel_rfl) ?_
  repeat (go_big_quiet_step ((go_at_call 11; exact Calls.up_of (owner_is (h1.below (Subtype.property _)) HL.out))))
  refine wpQuiet_nil ?_
  rintro _ ⟨u, rfl⟩
  clear uc uf
  have h2 := h1.below u.2
  have hs2 := hs1.below u.2
  have bp2 := bxp.next u.2
  have hB2 := next hB u.2
  clear q0 q1 q2 q3 q4 q5 q6 q7 q8 qf ql c0 c1 lt bxp h1 hs1
  generalize u.val = V at *
  obtain ⟨q0, q1, q2, q3, q4, q5, q6, q7, q8, qf, ql⟩ := id bp2
  have c0 := h2.c0
  have lt := h2.lt
  go_upto_region 3 with fail
  refine wp_region_orders 14 rfl (by kernel_rfl) ?_
  have Bd : Below V.heap.size V V.drew := (Below.refl _ _).drew
  have hIB : ∀ V', Below V.heap.size V V' → (fun V => V.cell? ⟨g, 0, none⟩ = some (.pointer (some ⟨g1, 0, none⟩)) ∧ V.cell? ⟨wx.heap.size, 0, none⟩ = some (.int .i64 x.k) ∧ V.cell? ⟨wx.heap.size, 1, none⟩ = some (.int .i64 x.f) ∧ V.cell? ⟨wx.heap.size, 2, none⟩ = some (.int .i64 x.t) ∧ V.cell? ⟨wx.heap.size, 3, none⟩ = some (.int .i64 x.i) ∧ V.cell? ⟨wx.heap.size, 4, none⟩ = some (.int .i64 x.l) ∧ V.cell? ⟨wx.heap.size, 5, none⟩ = some (.int .i64 x.p) ∧ V.cell? ⟨wx.heap.size, 6, none⟩ = some (.int .i64 x.s) ∧ V.cell? ⟨wx.heap.size, 7, none⟩ = some (.bool x.fl) ∧ V.cell? ⟨wx.heap.size, 8, none⟩ = some (.slice a m c)) V' := fun V' b => ⟨(b.cell (p := ⟨g, 0, none⟩) lt).trans c0, (b.cell (p := ⟨wx.heap.size, 0, none⟩) ql).trans q0, (b.cell (p := ⟨wx.heap.size, 1, none⟩) ql).trans q1, (b.cell (p := ⟨wx.heap.size, 2, none⟩) ql).trans q2, (b.cell (p := ⟨wx.heap.size, 3, none⟩) ql).trans q3, (b.cell (p := ⟨wx.heap.size, 4, none⟩) ql).trans q4, (b.cell (p := ⟨wx.heap.size, 5, none⟩) ql).trans q5, (b.cell (p := ⟨wx.heap.size, 6, none⟩) ql).trans q6, (b.cell (p := ⟨wx.heap.size, 7, none⟩) ql).trans q7, (b.cell (p := ⟨wx.heap.size, 8, none⟩) ql).trans q8⟩
  have HIB : Hid (∀ V', Below V.heap.size V V' → (fun V => V.cell? ⟨g, 0, none⟩ = some (.pointer (some ⟨g1, 0, none⟩)) ∧ V.cell? ⟨wx.heap.size, 0, none⟩ = some (.int .i64 x.k) ∧ V.cell? ⟨wx.heap.size, 1, none⟩ = some (.int .i64 x.f) ∧ V.cell? ⟨wx.heap.size, 2, none⟩ = some (.int .i64 x.t) ∧ V.cell? ⟨wx.heap.size, 3, none⟩ = some (.int .i64 x.i) ∧ V.cell? ⟨wx.heap.size, 4, none⟩ = some (.int .i64 x.l) ∧ V.cell? ⟨wx.heap.size, 5, none⟩ = some (.int .i64 x.p) ∧ V.cell? ⟨wx.heap.size, 6, none⟩ = some (.int .i64 x.s) ∧ V.cell? ⟨wx.heap.size, 7, none⟩ = some (.bool x.fl) ∧ V.cell? ⟨wx.heap.size, 8, none⟩ = some (.slice a m c)) V') := hIB
  have hI : (fun V => V.cell? ⟨g, 0, none⟩ = some (.pointer (some ⟨g1, 0, none⟩)) ∧ V.cell? ⟨wx.heap.size, 0, none⟩ = some (.int .i64 x.k) ∧ V.cell? ⟨wx.heap.size, 1, none⟩ = some (.int .i64 x.f) ∧ V.cell? ⟨wx.heap.size, 2, none⟩ = some (.int .i64 x.t) ∧ V.cell? ⟨wx.heap.size, 3, none⟩ = some (.int .i64 x.i) ∧ V.cell? ⟨wx.heap.size, 4, none⟩ = some (.int .i64 x.l) ∧ V.cell? ⟨wx.heap.size, 5, none⟩ = some (.int .i64 x.p) ∧ V.cell? ⟨wx.heap.size, 6, none⟩ = some (.int .i64 x.s) ∧ V.cell? ⟨wx.heap.size, 7, none⟩ = some (.bool x.fl) ∧ V.cell? ⟨wx.heap.size, 8, none⟩ = some (.slice a m c)) V.drew := hIB _ Bd
  have h3 := h2.below Bd
  have hs3 := hs2.below Bd
  have bp3 := bp2.next Bd
  have hB3 := next hB2 Bd
  clear hIB q0 q1 q2 q3 q4 q5 q6 q7 q8 qf ql c0 lt bp2 h2 hs2 hB2
  generalize V.drew = Vd at *
  refine any_inv (fun V => V.cell? ⟨g, 0, none⟩ = some (.pointer (some ⟨g1, 0, none⟩)) ∧ V.cell? ⟨wx.heap.size, 0, none⟩ = some (.int .i64 x.k) ∧ V.cell? ⟨wx.heap.size, 1, none⟩ = some (.int .i64 x.f) ∧ V.cell? ⟨wx.heap.size, 2, none⟩ = some (.int .i64 x.t) ∧ V.cell? ⟨wx.heap.size, 3, none⟩ = some (.int .i64 x.i) ∧ V.cell? ⟨wx.heap.size, 4, none⟩ = some (.int .i64 x.l) ∧ V.cell? ⟨wx.heap.size, 5, none⟩ = some (.int .i64 x.p) ∧ V.cell? ⟨wx.heap.size, 6, none⟩ = some (.int .i64 x.s) ∧ V.cell? ⟨wx.heap.size, 7, none⟩ = some (.bool x.fl) ∧ V.cell? ⟨wx.heap.size, 8, none⟩ = some (.slice a m c)) [12] hI ?_
  refine inv_take (v := ?v1) [1, 2, 3, 12, 13] 0 hI rfl (by kernel_rfl) (by kernel_rfl) (by kernel_rfl) (by kernel_rfl) (by kernel_rfl) (fun _ _ _ h => h) (by kernel_rfl) (fun V hV => ?hy1) ?go1
  case hy1 => (obtain ⟨i0, i1, i2, i3, i4, i5, i6, i7, i8, i9⟩ := hV; go_simp <;> rfl)
  simp only [Act.put, List.setIfInBounds_toArray, List.set_cons_zero, List.set_cons_succ]
  refine inv_take (v := ?v2) [2, 3, 12, 13] 1 hI rfl (by kernel_rfl) (by kernel_rfl) (by kernel_rfl) (by kernel_rfl) (by kernel_rfl) (fun _ _ _ h => h) (by kernel_rfl) (fun V hV => ?hy2) ?go2
  case hy2 => (obtain ⟨i0, i1, i2, i3, i4, i5, i6, i7, i8, i9⟩ := hV; go_simp <;> rfl)
  simp only [Act.put, List.setIfInBounds_toArray, List.set_cons_zero, List.set_cons_succ]
  refine inv_take (v := ?v3) [3, 12, 13] 2 hI rfl (by kernel_rfl) (by kernel_rfl) (by kernel_rfl) (by kernel_rfl) (by kernel_rfl) (fun _ _ _ h => h) (by kernel_rfl) (fun V hV => ?hy3) ?go3
  case hy3 => (obtain ⟨i0, i1, i2, i3, i4, i5, i6, i7, i8, i9⟩ := hV; go_simp <;> rfl)
  simp only [Act.put, List.setIfInBounds_toArray, List.set_cons_zero, List.set_cons_succ]
  refine inv_take (v := ?v4) [12, 13] 3 hI rfl (by kernel_rfl) (by kernel_rfl) (by kernel_rfl) (by kernel_rfl) (by kernel_rfl) (fun _ _ _ h => h) (by kernel_rfl) (fun V hV => ?hy4) ?go4
  case hy4 => (obtain ⟨i0, i1, i2, i3, i4, i5, i6, i7, i8, i9⟩ := hV; go_simp <;> rfl)
  simp only [Act.put, List.setIfInBounds_toArray, List.set_cons_zero, List.set_cons_succ]
  refine inv_take (v := ?v5) [5, 12, 13] 4 hI rfl (by kernel_rfl) (by kernel_rfl) (by kernel_rfl) (by kernel_rfl) (by kernel_rfl) (fun _ _ _ h => h) (by kernel_rfl) (fun V hV => ?hy5) ?go5
  case hy5 => (obtain ⟨i0, i1, i2, i3, i4, i5, i6, i7, i8, i9⟩ := hV; go_simp <;> rfl)
  simp only [Act.put, List.setIfInBounds_toArray, List.set_cons_zero, List.set_cons_succ]
  refine inv_take (v := ?v6) [12, 13] 5 hI rfl (by kernel_rfl) (by kernel_rfl) (by kernel_rfl) (by kernel_rfl) (by kernel_rfl) (fun _ _ _ h => h) (by kernel_rfl) (fun V hV => ?hy6) ?go6
  case hy6 => (obtain ⟨i0, i1, i2, i3, i4, i5, i6, i7, i8, i9⟩ := hV; go_simp <;> rfl)
  simp only [Act.put, List.setIfInBounds_toArray, List.set_cons_zero, List.set_cons_succ]
  refine inv_take (v := ?v7) [7, 12, 13] 6 hI rfl (by kernel_rfl) (by kernel_rfl) (by kernel_rfl) (by kernel_rfl) (by kernel_rfl) (fun _ _ _ h => h) (by kernel_rfl) (fun V hV => ?hy7) ?go7
  case hy7 => (obtain ⟨i0, i1, i2, i3, i4, i5, i6, i7, i8, i9⟩ := hV; go_simp <;> rfl)
  simp only [Act.put, List.setIfInBounds_toArray, List.set_cons_zero, List.set_cons_succ]
  refine inv_take (v := ?v8) [12, 13] 7 hI rfl (by kernel_rfl) (by kernel_rfl) (by kernel_rfl) (by kernel_rfl) (by kernel_rfl) (fun _ _ _ h => h) (by kernel_rfl) (fun V hV => ?hy8) ?go8
  case hy8 => (obtain ⟨i0, i1, i2, i3, i4, i5, i6, i7, i8, i9⟩ := hV; go_simp <;> rfl)
  simp only [Act.put, List.setIfInBounds_toArray, List.set_cons_zero, List.set_cons_succ]
  refine inv_take (v := ?v9) [9, 12, 13] 8 hI rfl (by kernel_rfl) (by kernel_rfl) (by kernel_rfl) (by kernel_rfl) (by kernel_rfl) (fun _ _ _ h => h) (by kernel_rfl) (fun V hV => ?hy9) ?go9
  case hy9 => (obtain ⟨i0, i1, i2, i3, i4, i5, i6, i7, i8, i9⟩ := hV; go_simp <;> rfl)
  simp only [Act.put, List.setIfInBounds_toArray, List.set_cons_zero, List.set_cons_succ]
  refine inv_take (v := ?v10) [12, 13] 9 hI rfl (by kernel_rfl) (by kernel_rfl) (by kernel_rfl) (by kernel_rfl) (by kernel_rfl) (fun _ _ _ h => h) (by kernel_rfl) (fun V hV => ?hy10) ?go10
  case hy10 => (obtain ⟨i0, i1, i2, i3, i4, i5, i6, i7, i8, i9⟩ := hV; go_simp <;> rfl)
  simp only [Act.put, List.setIfInBounds_toArray, List.set_cons_zero, List.set_cons_succ]
  refine inv_take (v := ?v11) [11, 12, 13] 10 hI rfl (by kernel_rfl) (by kernel_rfl) (by kernel_rfl) (by kernel_rfl) (by kernel_rfl) (fun _ _ _ h => h) (by kernel_rfl) (fun V hV => ?hy11) ?go11
  case hy11 => (obtain ⟨i0, i1, i2, i3, i4, i5, i6, i7, i8, i9⟩ := hV; go_simp <;> rfl)
  simp only [Act.put, List.setIfInBounds_toArray, List.set_cons_zero, List.set_cons_succ]
  refine inv_list 11 (by kernel_rfl) rfl ?_
  go_wp2_with (go_at_call 56; refine (newData_any x a m c Vd hs3).mono ?_; rintro e V1 ⟨a1, m1, c1, rfl, hs4, b1⟩)
  refine then_n ⟨HIB.out _ (next Bd b1), ?_⟩
  have h4 := h3.below b1
  have bp4 := bp3.next b1
  have hB4 := next hB3 b1
  have hm1 : m1 ≤ 17592186044416 := by have h1 := hs4.len; have h5 : (unlD x).length ≤ 1000 := (by unfold unlD; split; exact hz; simp); omega
  have hset := hp_set h4.hp HL.out x.s x.p a1 m1 c1 (unlD x) hs4 hm1
  clear h3 bp3 hB3 hs3 b1 Bd HIB hI hm1 hs4
  try simp only [Act.put, List.setIfInBounds_toArray, List.set_cons_zero, List.set_cons_succ]
  refine inv_write 12 (by kernel_rfl) (by kernel_rfl) rfl ?_
  obtain ⟨E, hE⟩ : ∃ E, (setR N K L x.l x.s x.p (unlD x)).1 = E := ⟨_, rfl⟩
  rw [hE] at hset he
  have HEE : Hid ((setR N K L x.l x.s x.p (unlD x)).1 = E) := hE
  clear hE
  subst he
  go_wp2_with (go_at_call 55; refine hset.mono ?_; rintro e V2 ⟨rfl, hk2, p2⟩)
  refine then_n ?_
  obtain ⟨hk3, h5⟩ := h4.call hk2 p2
  have bp5 := bp4.keep hk2 (fun hf => hf.2 (.inl (.inr ⟨Nat.le_refl _, HSZ.out⟩)))
  have hK := Keep.pre hB4 (hk3.mono (G := NX w X) (fun j _ hj => nx_less (fun j hx => .inl hx) hj))
  clear hk2 hk3 p2 bp4 h4 hB4 hset
  refine any_list 13 (by kernel_rfl) rfl ?_
  go_wp2_with fail
  refine then_n ?_
  refine any_done (by kernel_rfl) ?_
  obtain ⟨q0, q1, q2, q3, q4, q5, q6, q7, q8, qf, ql⟩ := id bp5
  have c1 := h5.c1
  have lt := h5.lt
  go_upto_region 6 with fail
  refine wp_region_orders 10 rfl (by kernel_rfl) ?_
  have Bd : Below V2.heap.size V2 V2.drew := (Below.refl _ _).drew
  replace c1 := (Bd.cell (p := ⟨g, 1, none⟩) lt).trans c1
  replace q1 := (Bd.cell (p := ⟨wx.heap.size, 1, none⟩) ql).trans q1
  replace q4 := (Bd.cell (p := ⟨wx.heap.size, 4, none⟩) ql).trans q4
  have h6 := h5.below Bd
  have hK6 := hK.trans (Keep.of_below (F := fun _ => False) Bd) (fun _ _ h => h.elim)
  clear q0 q2 q3 q5 q6 q7 q8 qf bp5 h5 hK lt ql
  clear Bd
  generalize V2.drew = V2d at *
  clear V2
  have hI : (fun V => V.cell? ⟨g, 1, none⟩ = some (.pointer (some ⟨g2, 0, none⟩)) ∧ V.cell? ⟨wx.heap.size, 1, none⟩ = some (.int .i64 x.f) ∧ V.cell? ⟨wx.heap.size, 4, none⟩ = some (.int .i64 x.l)) V2d := ⟨c1, q1, q4⟩
  refine any_inv (fun V => V.cell? ⟨g, 1, none⟩ = some (.pointer (some ⟨g2, 0, none⟩)) ∧ V.cell? ⟨wx.heap.size, 1, none⟩ = some (.int .i64 x.f) ∧ V.cell? ⟨wx.heap.size, 4, none⟩ = some (.int .i64 x.l)) [8] hI ?_
  refine inv_take (v := ?v12) [1, 2, 3, 8, 9] 0 hI rfl (by kernel_rfl) (by kernel_rfl) (by kernel_rfl) (by kernel_rfl) (by kernel_rfl) (fun _ _ _ h => h) (by kernel_rfl) (fun V hV => ?hy12) ?go12
  case hy12 => (obtain ⟨i0, i1, i2⟩ := hV; go_simp <;> rfl)
  simp only [Act.put, List.setIfInBounds_toArray, List.set_cons_zero, List.set_cons_succ]
  refine inv_take (v := ?v13) [2, 3, 8, 9] 1 hI rfl (by kernel_rfl) (by kernel_rfl) (by kernel_rfl) (by kernel_rfl) (by kernel_rfl) (fun _ _ _ h => h) (by kernel_rfl) (fun V hV => ?hy13) ?go13
  case hy13 => (obtain ⟨i0, i1, i2⟩ := hV; go_simp <;> rfl)
  simp only [Act.put, List.setIfInBounds_toArray, List.set_cons_zero, List.set_cons_succ]
  refine inv_take (v := ?v14) [3, 8, 9] 2 hI rfl (by kernel_rfl) (by kernel_rfl) (by kernel_rfl) (by kernel_rfl) (by kernel_rfl) (fun _ _ _ h => h) (by kernel_rfl) (fun V hV => ?hy14) ?go14
  case hy14 => (obtain ⟨i0, i1, i2⟩ := hV; go_simp <;> rfl)
  simp only [Act.put, List.setIfInBounds_toArray, List.set_cons_zero, List.set_cons_succ]
  refine inv_take (v := ?v15) [8, 9] 3 hI rfl (by kernel_rfl) (by kernel_rfl) (by kernel_rfl) (by kernel_rfl) (by kernel_rfl) (fun _ _ _ h => h) (by kernel_rfl) (fun V hV => ?hy15) ?go15
  case hy15 => (obtain ⟨i0, i1, i2⟩ := hV; go_simp <;> rfl)
  simp only [Act.put, List.setIfInBounds_toArray, List.set_cons_zero, List.set_cons_succ]
  refine inv_take (v := ?v16) [5, 8, 9] 4 hI rfl (by kernel_rfl) (by kernel_rfl) (by kernel_rfl) (by kernel_rfl) (by kernel_rfl) (fun _ _ _ h => h) (by kernel_rfl) (fun V hV => ?hy16) ?go16
  case hy16 => (obtain ⟨i0, i1, i2⟩ := hV; go_simp <;> rfl)
  simp only [Act.put, List.setIfInBounds_toArray, List.set_cons_zero, List.set_cons_succ]
  refine inv_take (v := ?v17) [8, 9] 5 hI rfl (by kernel_rfl) (by kernel_rfl) (by kernel_rfl) (by kernel_rfl) (by kernel_rfl) (fun _ _ _ h => h) (by kernel_rfl) (fun V hV => ?hy17) ?go17
  case hy17 => (obtain ⟨i0, i1, i2⟩ := hV; go_simp <;> rfl)
  simp only [Act.put, List.setIfInBounds_toArray, List.set_cons_zero, List.set_cons_succ]
  refine inv_take (v := ?v18) [7, 8, 9] 6 hI rfl (by kernel_rfl) (by kernel_rfl) (by kernel_rfl) (by kernel_rfl) (by kernel_rfl) (fun _ _ _ h => h) (by kernel_rfl) (fun V hV => ?hy18) ?go18
  case hy18 => (obtain ⟨i0, i1, i2⟩ := hV; go_simp <;> rfl)
  simp only [Act.put, List.setIfInBounds_toArray, List.set_cons_zero, List.set_cons_succ]
  refine inv_take (v := ?v19) [8, 9] 7 hI rfl (by kernel_rfl) (by kernel_rfl) (by kernel_rfl) (by kernel_rfl) (by kernel_rfl) (fun _ _ _ h => h) (by kernel_rfl) (fun V hV => ?hy19) ?go19
  case hy19 => (obtain ⟨i0, i1, i2⟩ := hV; go_simp <;> rfl)
  simp only [Act.put, List.setIfInBounds_toArray, List.set_cons_zero, List.set_cons_succ]
  refine inv_write 8 (by kernel_rfl) (by kernel_rfl) rfl ?_
  go_wp2_with (go_at_call 57; refine (hp_release h6.hp HL.out HO.out.2 HO.out.1).mono ?_; rintro e V3 ⟨rfl, hk2, p2⟩)
  refine then_n ?_
  refine any_list 9 (by kernel_rfl) rfl ?_
  go_wp2_with fail
  refine then_n ?_
  refine any_done (by kernel_rfl) ?_
  obtain ⟨hk3, h7⟩ := h6.call hk2 p2
  have hK7 := hK6.trans (hk3.mono (G := NX w X) (fun j _ hj => nx_less (fun j hx => .inl hx) hj)) (fun j _ h => h)
  go_wp2_with fail
  go_ret
  exact ⟨rfl, hK7, h7.off (fun j hj => .inl hj)⟩
end
end Go.Proofs.Ytgeiagndpfdnlaa
end
section
namespace Go.Proofs.Ytgeiagndpfdnlaa
open Go.RowKit Go.Maps
set_option linter.unusedVariables false
set_option maxRecDepth 20000

section
variable {w wx wy : World} {g g1 g2 n N : Nat} {X Y : Nat → Prop} {K node : Int} {L : List Hr} {o : List (Int × Int)} {q : List Wr}
set_option maxHeartbeats 1600000 in
theorem hh_bad (h : PH w wx g g1 g2 X N K node L n o q) (x : Pk) (a : Option Addr) (m c : Nat) (hsl : Sl wx a m c x.z) (hl : In64 x.l) (he : ckE N node L x ≠ 0) :
    Calls Try.prog 10 #[.pointer (some ⟨g, 0, none⟩), x.val (.slice a m c)] wx fun e w' => e = .returned (.tuple #[zeroPk.val (.slice none 0 0), .bool false, .int .i64 (ckE N node L x)]) ∧ Below wx.heap.size wx w' := by
  obtain ⟨E, hE⟩ : ∃ E, ckE N node L x = E := ⟨_, rfl⟩
  have HC : Hid (ckE N node L x = E) := hE
  rw [hE] at he
  have heb : (E != 0) = true := by simp [he]
  have HL : Hid (In64 x.l) := hl
  clear he hE hl
  unfold Pk.val
  go_enter Try.func10, Try.ntmps10
  go_upto_region 1 with fail
  have hB : Below wx.heap.size wx ((wx.alloc (.cells #[.int .i64 x.k, .int .i64 x.f, .int .i64 x.t, .int .i64 x.i, .int .i64 x.l, .int .i64 x.p, .int .i64 x.s, .bool x.fl, .slice a m c] 32)).alloc (.cells #[.int .i64 0, .int .i64 0, .int .i64 0, .int .i64 0, .int .i64 0, .int .i64 0, .int .i64 0, .bool false, .slice none 0 0] 32)) := ba (ba (Below.refl _ _))
  have bxp : Bx ((wx.alloc (.cells #[.int .i64 x.k, .int .i64 x.f, .int .i64 x.t, .int .i64 x.i, .int .i64 x.l, .int .i64 x.p, .int .i64 x.s, .bool x.fl, .slice a m c] 32)).alloc (.cells #[.int .i64 0, .int .i64 0, .int .i64 0, .int .i64 0, .int .i64 0, .int .i64 0, .int .i64 0, .bool false, .slice none 0 0] 32)) wx.heap.size x (.slice a m c) := (Bx.made wx x (.slice a m c)).next (ba (Below.refl _ _))
  have bxr : Bx ((wx.alloc (.cells #[.int .i64 x.k, .int .i64 x.f, .int .i64 x.t, .int .i64 x.i, .int .i64 x.l, .int .i64 x.p, .int .i64 x.s, .bool x.fl, .slice a m c] 32)).alloc (.cells #[.int .i64 0, .int .i64 0, .int .i64 0, .int .i64 0, .int .i64 0, .int .i64 0, .int .i64 0, .bool false, .slice none 0 0] 32)) (wx.heap.size + 1) zeroPk (.slice none 0 0) := Bx.made' (wx.alloc (.cells #[.int .i64 x.k, .int .i64 x.f, .int .i64 x.t, .int .i64 x.i, .int .i64 x.l, .int .i64 x.p, .int .i64 x.s, .bool x.fl, .slice a m c] 32)) zeroPk (.slice none 0 0) _ (by simp)
  have h1 := h.own hB
  have hs1 := hsl.below hB
  have HX : Hid (∀ j, X j → j < wx.heap.size) := h.xl
  have HWS : Hid (w.heap.size ≤ wx.heap.size) := h.bel.size
  clear h hsl
  generalize World.alloc _ (.cells #[.int .i64 0, .int .i64 0, .int .i64 0, .int .i64 0, .int .i64 0, .int .i64 0, .int .i64 0, .bool false, .slice none 0 0] 32) = W at *
  have HSZ : Hid (wx.heap.size + 1 < W.heap.size) := bxr.lt
  have HXW : Hid (∀ j, wx.heap.size ≤ j → j < W.heap.size → (X j ∨ wx.heap.size ≤ j ∧ j < W.heap.size)) := fun j h1 h2 => .inr ⟨h1, h2⟩
  obtain ⟨zw, ezw⟩ : ∃ zw, W.heap.size = zw := ⟨_, rfl⟩
  have EZW : Hid (W.heap.size = zw) := ezw
  rw [ezw] at HSZ HXW h1
  clear ezw
  obtain ⟨q0, q1, q2, q3, q4, q5, q6, q7, q8, qf, ql⟩ := id bxp
  go_upto_region 2 with (go_at_call 28; refine (hcheck_any h1 x a m c hs1 HL.out).mono ?_; rw [HC.out]; rintro e V ⟨rfl, b1⟩)
  obtain ⟨r0, r1, r2, r3, r4, r5, r6, r7, r8, rf, rl⟩ := bxr.next b1
  have f0 := rf 0
  have hB2 := next hB b1
  clear q0 q1 q2 q3 q4 q5 q6 q7 q8 qf ql bxp bxr h1 hs1 hB b1
  go_wp2_with fail
  refine bodyPost_ret (v := .tuple #[Pk.val zeroPk (.slice none 0 0), .bool false, .int .i64 E]) (by simp [results, Try.results10, go_sem, *, zeroPk]) rfl ⟨by rw [HC.out], far9 (g := wx.heap.size + 1) (y := zeroPk) (v := .slice none 0 0) (W := V) (P := fun V => Below wx.heap.size wx V) (fun V o u h => h.setCell (by simp) u) hB2⟩
theorem ck_facts {x : Pk} (h : ckE N node L x = 0) : 0 ≤ x.l ∧ 0 ≤ x.f ∧ x.z.length ≤ 1000 := by
  have hr : x.right = true := by
    unfold ckE at h
    split at h
    · rename_i ht
      unfold tknP at ht
      rw [Bool.and_eq_true] at ht
      exact ht.1
    · cases h
  obtain ⟨_, r1, _, _, r4, _, _, r7⟩ := (Pk.right_iff x).1 hr
  exact ⟨r4.1, r1.1, by omega⟩
set_option maxHeartbeats 1600000 in
theorem hh_wait (h : PH w wx g g1 g2 X N K node L n o q) (x : Pk) (a : Option Addr) (m c : Nat) (hsl : Sl wx a m c x.z) (hl : In64 x.l) (he : ckE N node L x = 0) (hk : x.k = 1) (hb : askB o q x.l = false) (hn : n ≤ 1000) :
    Calls Try.prog 10 #[.pointer (some ⟨g, 0, none⟩), x.val (.slice a m c)] wx fun e w' => e = .returned (.tuple #[zeroPk.val (.slice none 0 0), .bool false, .int .i64 0]) ∧ Keep (NX w X) wx w' ∧ PH w w' g g1 g2 X N K node L (n + 1) (askO o q x.l x.f) (askQ o q x.l x.f x.i) := by
  have hkb : (x.k == 1) = true := by simp [hk]
  have HB : Hid (askB o q x.l = false) := hb
  have HN : Hid (n ≤ 1000) := hn
  clear hk hb hn
  have HL : Hid (In64 x.l) := hl
  have HC : Hid (ckE N node L x = 0) := he
  have HF : Hid (0 ≤ x.l ∧ 0 ≤ x.f ∧ x.z.length ≤ 1000) := ck_facts he
  clear he hl
  unfold Pk.val
  go_enter Try.func10, Try.ntmps10
  go_upto_region 1 with fail
  have hB : Below wx.heap.size wx ((wx.alloc (.cells #[.int .i64 x.k, .int .i64 x.f, .int .i64 x.t, .int .i64 x.i, .int .i64 x.l, .int .i64 x.p, .int .i64 x.s, .bool x.fl, .slice a m c] 32)).alloc (.cells #[.int .i64 0, .int .i64 0, .int .i64 0, .int .i64 0, .int .i64 0, .int .i64 0, .int .i64 0, .bool false, .slice none 0 0] 32)) := ba (ba (Below.refl _ _))
  have bxp : Bx ((wx.alloc (.cells #[.int .i64 x.k, .int .i64 x.f, .int .i64 x.t, .int .i64 x.i, .int .i64 x.l, .int .i64 x.p, .int .i64 x.s, .bool x.fl, .slice a m c] 32)).alloc (.cells #[.int .i64 0, .int .i64 0, .int .i64 0, .int .i64 0, .int .i64 0, .int .i64 0, .int .i64 0, .bool false, .slice none 0 0] 32)) wx.heap.size x (.slice a m c) := (Bx.made wx x (.slice a m c)).next (ba (Below.refl _ _))
  have bxr : Bx ((wx.alloc (.cells #[.int .i64 x.k, .int .i64 x.f, .int .i64 x.t, .int .i64 x.i, .int .i64 x.l, .int .i64 x.p, .int .i64 x.s, .bool x.fl, .slice a m c] 32)).alloc (.cells #[.int .i64 0, .int .i64 0, .int .i64 0, .int .i64 0, .int .i64 0, .int .i64 0, .int .i64 0, .bool false, .slice none 0 0] 32)) (wx.heap.size + 1) zeroPk (.slice none 0 0) := Bx.made' (wx.alloc (.cells #[.int .i64 x.k, .int .i64 x.f, .int .i64 x.t, .int .i64 x.i, .int .i64 x.l, .int .i64 x.p, .int .i64 x.s, .bool x.fl, .slice a m c] 32)) zeroPk (.slice none 0 0) _ (by simp)
  have h1 := h.own hB
  have hs1 := hsl.below hB
  have HX : Hid (∀ j, X j → j < wx.heap.size) := h.xl
  have HWS : Hid (w.heap.size ≤ wx.heap.size) := h.bel.size
  clear h hsl
  generalize World.alloc _ (.cells #[.int .i64 0, .int .i64 0, .int .i64 0, .int .i64 0, .int .i64 0, .int .i64 0, .int .i64 0, .bool false, .slice none 0 0] 32) = W at *
  have HSZ : Hid (wx.heap.size + 1 < W.heap.size) := bxr.lt
  have HXW : Hid (∀ j, wx.heap.size ≤ j → j < W.heap.size → (X j ∨ wx.heap.size ≤ j ∧ j < W.heap.size)) := fun j h1 h2 => .inr ⟨h1, h2⟩
  obtain ⟨zw, ezw⟩ : ∃ zw, W.heap.size = zw := ⟨_, rfl⟩
  have EZW : Hid (W.heap.size = zw) := ezw
  rw [ezw] at HSZ HXW h1
  clear ezw
  obtain ⟨q0, q1, q2, q3, q4, q5, q6, q7, q8, qf, ql⟩ := id bxp
  go_upto_region 2 with (go_at_call 28; refine (hcheck_any h1 x a m c hs1 HL.out).mono ?_; rw [HC.out]; rintro e V ⟨rfl, b1⟩)
  have h2 := h1.below b1
  have hs2 := hs1.below b1
  have bp2 := bxp.next b1
  have br2 := bxr.next b1
  have hB2 := next hB b1
  clear q0 q1 q2 q3 q4 q5 q6 q7 q8 qf ql bxp bxr h1 hs1 hB b1 EZW
  clear W
  obtain ⟨q0, q1, q2, q3, q4, q5, q6, q7, q8, qf, ql⟩ := id bp2
  obtain ⟨P, hP⟩ : ∃ P, zeroPk = P := ⟨_, rfl⟩
  go_upto_region 6 with (go_at_call 29; refine (hlock_no h2 x a m c HL.out HF.out.1 HF.out.2.1 HN.out HB.out).mono ?_; rw [hP]; rintro e V2 ⟨rfl, hk2, h3⟩)
  have b3 : Below V2.heap.size V2 (V2.alloc (.cells #[.int .i64 (P).k, .int .i64 (P).f, .int .i64 (P).t, .int .i64 (P).i, .int .i64 (P).l, .int .i64 (P).p, .int .i64 (P).s, .bool (P).fl, .slice none 0 0] 32)) := ba (Below.refl _ _)
  have bxa : Bx (V2.alloc (.cells #[.int .i64 (P).k, .int .i64 (P).f, .int .i64 (P).t, .int .i64 (P).i, .int .i64 (P).l, .int .i64 (P).p, .int .i64 (P).s, .bool (P).fl, .slice none 0 0] 32)) V2.heap.size P (.slice none 0 0) := Bx.made V2 P (.slice none 0 0)
  have br3 := (br2.keep hk2 (fun hf => hf.2 (HXW.out _ (by omega) HSZ.out))).next b3
  have h4 := h3.below b3
  have hK := (Keep.pre hB2 (hk2.mono (G := NX w X) (fun j _ hj => nx_less (fun j hx => .inl hx) hj))).trans (Keep.of_below (F := fun _ => False) b3) (fun j _ h => h.elim)
  clear hk2 h3 br2 bp2 h2 hB2 hs2 q0 q1 q2 q3 q4 q5 q6 q7 q8 qf ql b3
  generalize V2.alloc _ = V3 at *
  generalize V2.heap.size = ga at *
  obtain ⟨y0, y1, y2, y3, y4, y5, y6, y7, y8, yf, yl⟩ := id bxa
  obtain ⟨r0, r1, r2, r3, r4, r5, r6, r7, r8, rf, rl⟩ := id br3
  have f0 := rf 0
  go_wp2_with fail
  have hkk : Keep (fun k => k = wx.heap.size + 1) V3 _ := far9 (g := wx.heap.size + 1) (y := P) (v := .slice none 0 0) (W := V3) (P := fun V => Keep (fun k => k = wx.heap.size + 1) V3 V) (fun V o u h => h.setCell (.inl rfl) u) (Keep.refl _ _)
  refine bodyPost_ret (v := .tuple #[Pk.val P (.slice none 0 0), .bool false, .int .i64 0]) (by simp [results, Try.results10, go_sem, *]) rfl ⟨by rw [hP], hK.trans hkk (fun j hj e => by omega), h4.step hkk (fun j hj => ?_) (fun j hj => ⟨.inl (.inl hj), ?_⟩)⟩
  · subst hj
    have h1 := HWS.out
    exact ⟨by omega, .inl (HXW.out _ (by omega) HSZ.out)⟩
  · have h1 := h4.xl j (.inl hj)
    have h5 := hkk.size
    omega
set_option maxHeartbeats 1600000 in
theorem hh_grant (h : PH w wx g g1 g2 X N K node L n o q) (x : Pk) (a : Option Addr) (m c : Nat) (hsl : Sl wx a m c x.z) (hl : In64 x.l) (he : ckE N node L x = 0) (hk : x.k = 1) (hb : askB o q x.l = true) (hn : n ≤ 1000) :
    Calls Try.prog 10 #[.pointer (some ⟨g, 0, none⟩), x.val (.slice a m c)] wx fun e w' => ∃ d, e = .returned (.tuple #[(grantR node x.f x.i x.l L).val d, .bool true, .int .i64 0]) ∧ DatZ w' (fun k => wx.heap.size ≤ k) (grantR node x.f x.i x.l L).z d ∧ Keep (NX w X) wx w' ∧ PH w w' g g1 g2 X N K node L (n + 1) (askO o q x.l x.f) (askQ o q x.l x.f x.i) := by
  have hkb : (x.k == 1) = true := by simp [hk]
  have HB : Hid (askB o q x.l = true) := hb
  have HN : Hid (n ≤ 1000) := hn
  clear hk hb hn
  have HL : Hid (In64 x.l) := hl
  have HC : Hid (ckE N node L x = 0) := he
  have HF : Hid (0 ≤ x.l ∧ 0 ≤ x.f ∧ x.z.length ≤ 1000) := ck_facts he
  clear he hl
  unfold Pk.val
  go_enter Try.func10, Try.ntmps10
  go_upto_region 1 with fail
  have hB : Below wx.heap.size wx ((wx.alloc (.cells #[.int .i64 x.k, .int .i64 x.f, .int .i64 x.t, .int .i64 x.i, .int .i64 x.l, .int .i64 x.p, .int .i64 x.s, .bool x.fl, .slice a m c] 32)).alloc (.cells #[.int .i64 0, .int .i64 0, .int .i64 0, .int .i64 0, .int .i64 0, .int .i64 0, .int .i64 0, .bool false, .slice none 0 0] 32)) := ba (ba (Below.refl _ _))
  have bxp : Bx ((wx.alloc (.cells #[.int .i64 x.k, .int .i64 x.f, .int .i64 x.t, .int .i64 x.i, .int .i64 x.l, .int .i64 x.p, .int .i64 x.s, .bool x.fl, .slice a m c] 32)).alloc (.cells #[.int .i64 0, .int .i64 0, .int .i64 0, .int .i64 0, .int .i64 0, .int .i64 0, .int .i64 0, .bool false, .slice none 0 0] 32)) wx.heap.size x (.slice a m c) := (Bx.made wx x (.slice a m c)).next (ba (Below.refl _ _))
  have bxr : Bx ((wx.alloc (.cells #[.int .i64 x.k, .int .i64 x.f, .int .i64 x.t, .int .i64 x.i, .int .i64 x.l, .int .i64 x.p, .int .i64 x.s, .bool x.fl, .slice a m c] 32)).alloc (.cells #[.int .i64 0, .int .i64 0, .int .i64 0, .int .i64 0, .int .i64 0, .int .i64 0, .int .i64 0, .bool false, .slice none 0 0] 32)) (wx.heap.size + 1) zeroPk (.slice none 0 0) := Bx.made' (wx.alloc (.cells #[.int .i64 x.k, .int .i64 x.f, .int .i64 x.t, .int .i64 x.i, .int .i64 x.l, .int .i64 x.p, .int .i64 x.s, .bool x.fl, .slice a m c] 32)) zeroPk (.slice none 0 0) _ (by simp)
  have h1 := h.own hB
  have hs1 := hsl.below hB
  have HX : Hid (∀ j, X j → j < wx.heap.size) := h.xl
  have HWS : Hid (w.heap.size ≤ wx.heap.size) := h.bel.size
  clear h hsl
  generalize World.alloc _ (.cells #[.int .i64 0, .int .i64 0, .int .i64 0, .int .i64 0, .int .i64 0, .int .i64 0, .int .i64 0, .bool false, .slice none 0 0] 32) = W at *
  have HSZ : Hid (wx.heap.size + 1 < W.heap.size) := bxr.lt
  have HXW : Hid (∀ j, wx.heap.size ≤ j → j < W.heap.size → (X j ∨ wx.heap.size ≤ j ∧ j < W.heap.size)) := fun j h1 h2 => .inr ⟨h1, h2⟩
  obtain ⟨zw, ezw⟩ : ∃ zw, W.heap.size = zw := ⟨_, rfl⟩
  have EZW : Hid (W.heap.size = zw) := ezw
  rw [ezw] at HSZ HXW h1
  clear ezw
  obtain ⟨q0, q1, q2, q3, q4, q5, q6, q7, q8, qf, ql⟩ := id bxp
  go_upto_region 2 with (go_at_call 28; refine (hcheck_any h1 x a m c hs1 HL.out).mono ?_; rw [HC.out]; rintro e V ⟨rfl, b1⟩)
  have h2 := h1.below b1
  have hs2 := hs1.below b1
  have bp2 := bxp.next b1
  have br2 := bxr.next b1
  have hB2 := next hB b1
  clear q0 q1 q2 q3 q4 q5 q6 q7 q8 qf ql bxp bxr h1 hs1 hB b1 EZW
  clear W
  obtain ⟨q0, q1, q2, q3, q4, q5, q6, q7, q8, qf, ql⟩ := id bp2
  obtain ⟨P, hP⟩ : ∃ P, grantR node x.f x.i x.l L = P := ⟨_, rfl⟩
  go_upto_region 6 with (go_at_call 29; refine (hlock_yes h2 x a m c HL.out HF.out.1 HF.out.2.1 HN.out HB.out).mono ?_; rw [hP]; rintro e V2 ⟨dd, rfl, hd5, hk2, h3⟩; obtain ⟨a5, n5, c5, ed, _⟩ := id hd5; subst ed)
  have b3 : Below V2.heap.size V2 (V2.alloc (.cells #[.int .i64 (P).k, .int .i64 (P).f, .int .i64 (P).t, .int .i64 (P).i, .int .i64 (P).l, .int .i64 (P).p, .int .i64 (P).s, .bool (P).fl, .slice a5 n5 c5] 32)) := ba (Below.refl _ _)
  have bxa : Bx (V2.alloc (.cells #[.int .i64 (P).k, .int .i64 (P).f, .int .i64 (P).t, .int .i64 (P).i, .int .i64 (P).l, .int .i64 (P).p, .int .i64 (P).s, .bool (P).fl, .slice a5 n5 c5] 32)) V2.heap.size P (.slice a5 n5 c5) := Bx.made V2 P (.slice a5 n5 c5)
  have br3 := (br2.keep hk2 (fun hf => hf.2 (HXW.out _ (by omega) HSZ.out))).next b3
  have h4 := h3.below b3
  have hK := (Keep.pre hB2 (hk2.mono (G := NX w X) (fun j _ hj => nx_less (fun j hx => .inl hx) hj))).trans (Keep.of_below (F := fun _ => False) b3) (fun j _ h => h.elim)
  have hd6 := hd5.below b3
  have hzv : Hid (wx.heap.size + 1 < V.heap.size) := br2.lt
  clear hd5
  clear hk2 h3 br2 bp2 h2 hB2 hs2 q0 q1 q2 q3 q4 q5 q6 q7 q8 qf ql b3
  generalize V2.alloc _ = V3 at *
  generalize V2.heap.size = ga at *
  obtain ⟨y0, y1, y2, y3, y4, y5, y6, y7, y8, yf, yl⟩ := id bxa
  obtain ⟨r0, r1, r2, r3, r4, r5, r6, r7, r8, rf, rl⟩ := id br3
  have f0 := rf 0
  go_wp2_with fail
  have hkk : Keep (fun k => k = wx.heap.size + 1) V3 _ := far9 (g := wx.heap.size + 1) (y := P) (v := .slice a5 n5 c5) (W := V3) (P := fun V => Keep (fun k => k = wx.heap.size + 1) V3 V) (fun V o u h => h.setCell (.inl rfl) u) (Keep.refl _ _)
  refine bodyPost_ret (v := .tuple #[Pk.val P (.slice a5 n5 c5), .bool true, .int .i64 0]) (by simp [results, Try.results10, go_sem, *]) rfl ⟨_, by rw [hP], by rw [hP]; exact (hd6.keep hkk (fun j hj e => by have := hzv.out; omega)).imp (fun j _ hj => by have := hzv.out; omega), hK.trans hkk (fun j hj e => by omega), h4.step hkk (fun j hj => ?_) (fun j hj => ⟨.inl (.inl hj), ?_⟩)⟩
  · subst hj
    have h1 := HWS.out
    exact ⟨by omega, .inl (HXW.out _ (by omega) HSZ.out)⟩
  · have h1 := h4.xl j (.inl hj)
    have h5 := hkk.size
    omega
end
end Go.Proofs.Ytgeiagndpfdnlaa
end
