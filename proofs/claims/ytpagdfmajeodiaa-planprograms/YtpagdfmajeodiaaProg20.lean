/- The statements of PlanPrograms that draw their order, each as a theorem of its own: the third. Conditions: as each theorem states them. -/
import Derived.Test.YtpagdfmajeodiaaProg11
namespace Go.Proofs.Ytpagdfmajeodiaa
open Go.RowKit
set_option linter.unusedVariables false

noncomputable def progR20 : Code := ((Try.f4.body.bind (findRegion 20)).getD .skip)
theorem flat_set (q : List OpI) (j : Nat) (x : OpI) (hj : j < q.length) : (((flat q).set (j * 3) (.int .i64 x.k)).set (j * 3 + 1) (.int .i64 x.a)).set (j * 3 + 2) (.int .i64 x.v) = flat (q.set j x) := by
  induction q generalizing j with
  | nil => simp at hj
  | cons y q ih =>
    have e : ∀ z : OpI, ∀ r : List OpI, flat (z :: r) = .int .i64 z.k :: .int .i64 z.a :: .int .i64 z.v :: flat r := fun z r => by simp [flat]
    cases j with
    | zero => simp [e]
    | succ j =>
      have := ih j (by simpa using hj)
      rw [e, List.set_cons_succ, e, ← this, show (j + 1) * 3 = j * 3 + 1 + 1 + 1 by omega]
      simp [List.set_cons_succ]

set_option maxRecDepth 1000000 in
set_option maxHeartbeats 600000 in
theorem prog20 (N kx gx cx gm j : Nat) (mm nn : Int) (q : List OpI) (wq : World) (Q0 : Exit → Act → World → Prop)
    (hcell : wq.cell? ⟨gx, kx, none⟩ = some (.slice (some ⟨gm, 0, none⟩) 24 24)) (gxlt : gx < wq.heap.size) (hrow : wq.heap[gm]? = some (.cells (flat q).toArray 38 (0, 0))) (hq : q.length = 24) (hj : j < 24) (hm0 : 1 ≤ mm) (hm1 : mm ≤ 32) (hk : kx < N) (hN : N ≤ 4)
    (t0 t2 t3 t4 t5 t6 t9 t10 t11 t14 t15 t16 t17 t18 t19 t20 t21 t22 t23 t24 t25 t26 t27 t28 t29 t30 t31 t32 t33 t34 t35 t36 t37 t38 t39 t40 t41 t42 t43 t44 t45 t46 t47 t48 t49 t50 t51 t52 t53 t54 t55 t56 t57 t58 t59 t60 t61 t62 t63 t64 t65 t66 t67 t68 t69 t70 t71 t72 t73 t74 t75 t76 t77 t78 t79 t80 t81 t82 t83 t84 t85 t86 t87 t88 t89 t90 t91 t92 t93 t94 t95 t96 t97 t98 t99 t100 t101 t102 t103 t104 t105 t106 t107 t108 t109 t110 t111 t112 t113 t114 t115 t116 t117 t118 t119 : Value)
    (hP : ∀ c (a : Act) dst v w, Q0 (.panic c) (a.put dst v) w → Q0 (.panic c) a w)
    (hQ : ∀ (r87 r88 r89 r90 r91 r92 r93 r94 r95 r96 r97 : Value) (w' : World), w'.heap[gm]? = some (.cells (flat (q.set j ⟨3, (j : Int) % mm, nn⟩)).toArray 38 (0, 0)) → wq.grownBy w' (some gm) → Q0 .normal ⟨(List.toArray (t0 :: (.int .i64 nn : Value) :: t2 :: t3 :: t4 :: t5 :: t6 :: (.int .i64 mm : Value) :: (.int .i64 (kx : Int) : Value) :: t9 :: t10 :: t11 :: (.slice (some ⟨gx, 0, none⟩) N cx : Value) :: (.int .i64 (j : Int) : Value) :: t14 :: t15 :: t16 :: t17 :: t18 :: t19 :: t20 :: t21 :: t22 :: t23 :: t24 :: t25 :: t26 :: t27 :: t28 :: t29 :: t30 :: t31 :: t32 :: t33 :: t34 :: t35 :: t36 :: t37 :: t38 :: t39 :: t40 :: t41 :: t42 :: t43 :: t44 :: t45 :: t46 :: t47 :: t48 :: t49 :: t50 :: t51 :: t52 :: t53 :: t54 :: t55 :: t56 :: t57 :: t58 :: t59 :: t60 :: t61 :: t62 :: t63 :: t64 :: t65 :: t66 :: t67 :: t68 :: t69 :: t70 :: t71 :: t72 :: t73 :: t74 :: t75 :: t76 :: t77 :: t78 :: t79 :: t80 :: t81 :: t82 :: t83 :: t84 :: t85 :: t86 :: r87 :: r88 :: r89 :: r90 :: r91 :: r92 :: r93 :: r94 :: r95 :: r96 :: r97 :: t98 :: t99 :: t100 :: t101 :: t102 :: t103 :: t104 :: t105 :: t106 :: t107 :: t108 :: t109 :: t110 :: t111 :: t112 :: t113 :: t114 :: t115 :: t116 :: t117 :: t118 :: t119 :: [])), []⟩ w') :
    Code.wp Try.prog progR20 Q0 ⟨(List.toArray (t0 :: (.int .i64 nn : Value) :: t2 :: t3 :: t4 :: t5 :: t6 :: (.int .i64 mm : Value) :: (.int .i64 (kx : Int) : Value) :: t9 :: t10 :: t11 :: (.slice (some ⟨gx, 0, none⟩) N cx : Value) :: (.int .i64 (j : Int) : Value) :: t14 :: t15 :: t16 :: t17 :: t18 :: t19 :: t20 :: t21 :: t22 :: t23 :: t24 :: t25 :: t26 :: t27 :: t28 :: t29 :: t30 :: t31 :: t32 :: t33 :: t34 :: t35 :: t36 :: t37 :: t38 :: t39 :: t40 :: t41 :: t42 :: t43 :: t44 :: t45 :: t46 :: t47 :: t48 :: t49 :: t50 :: t51 :: t52 :: t53 :: t54 :: t55 :: t56 :: t57 :: t58 :: t59 :: t60 :: t61 :: t62 :: t63 :: t64 :: t65 :: t66 :: t67 :: t68 :: t69 :: t70 :: t71 :: t72 :: t73 :: t74 :: t75 :: t76 :: t77 :: t78 :: t79 :: t80 :: t81 :: t82 :: t83 :: t84 :: t85 :: t86 :: t87 :: t88 :: t89 :: t90 :: t91 :: t92 :: t93 :: t94 :: t95 :: t96 :: t97 :: t98 :: t99 :: t100 :: t101 :: t102 :: t103 :: t104 :: t105 :: t106 :: t107 :: t108 :: t109 :: t110 :: t111 :: t112 :: t113 :: t114 :: t115 :: t116 :: t117 :: t118 :: t119 :: [])), []⟩ wq := by
  conv => arg 2; whnf
  have hk' : (kx : Int) < (N : Int) := by omega
  have hj' : (j : Int) < 24 := by omega
  have uc := @Up.cell2
  have uf := @Up.frozen2
  refine wp_region_mildv 12 11 rfl (by kernel_rfl) ?_
  refine mildv_take (v := ?v701) 0 rfl (by kernel_rfl) (by kernel_rfl) (by kernel_rfl) (by kernel_rfl) (fun _ _ _ h => hP _ _ _ _ _ h) (by kernel_rfl) (fun Wu K hK => ?hy701) ?go701
  case hy701 =>
    go_big_quiet_op
    simp only [Act.put, List.setIfInBounds_toArray, List.set_cons_zero, List.set_cons_succ] at hK
    exact hK
  simp only [Act.put, List.setIfInBounds_toArray, List.set_cons_zero, List.set_cons_succ]
  refine mildv_take (v := ?v702) 1 rfl (by kernel_rfl) (by kernel_rfl) (by kernel_rfl) (by kernel_rfl) (fun _ _ _ h => hP _ _ _ _ _ h) (by kernel_rfl) (fun Wu K hK => ?hy702) ?go702
  case hy702 =>
    go_big_quiet_op
    simp only [Act.put, List.setIfInBounds_toArray, List.set_cons_zero, List.set_cons_succ] at hK
    exact hK
  simp only [Act.put, List.setIfInBounds_toArray, List.set_cons_zero, List.set_cons_succ]
  refine mildv_take (v := ?v703) 2 rfl (by kernel_rfl) (by kernel_rfl) (by kernel_rfl) (by kernel_rfl) (fun _ _ _ h => hP _ _ _ _ _ h) (by kernel_rfl) (fun Wu K hK => ?hy703) ?go703
  case hy703 =>
    go_big_quiet_op
    simp only [Act.put, List.setIfInBounds_toArray, List.set_cons_zero, List.set_cons_succ] at hK
    exact hK
  simp only [Act.put, List.setIfInBounds_toArray, List.set_cons_zero, List.set_cons_succ]
  refine mildv_take (v := ?v704) 3 rfl (by kernel_rfl) (by kernel_rfl) (by kernel_rfl) (by kernel_rfl) (fun _ _ _ h => hP _ _ _ _ _ h) (by kernel_rfl) (fun Wu K hK => ?hy704) ?go704
  case hy704 =>
    go_big_quiet_op
    simp only [Act.put, List.setIfInBounds_toArray, List.set_cons_zero, List.set_cons_succ] at hK
    exact hK
  simp only [Act.put, List.setIfInBounds_toArray, List.set_cons_zero, List.set_cons_succ]
  refine mildv_take (v := ?v705) 4 rfl (by kernel_rfl) (by kernel_rfl) (by kernel_rfl) (by kernel_rfl) (fun _ _ _ h => hP _ _ _ _ _ h) (by kernel_rfl) (fun Wu K hK => ?hy705) ?go705
  case hy705 =>
    go_big_quiet_op
    simp only [Act.put, List.setIfInBounds_toArray, List.set_cons_zero, List.set_cons_succ] at hK
    exact hK
  simp only [Act.put, List.setIfInBounds_toArray, List.set_cons_zero, List.set_cons_succ]
  refine mildv_take (v := ?v706) 5 rfl (by kernel_rfl) (by kernel_rfl) (by kernel_rfl) (by kernel_rfl) (fun _ _ _ h => hP _ _ _ _ _ h) (by kernel_rfl) (fun Wu K hK => ?hy706) ?go706
  case hy706 =>
    go_big_quiet_op
    simp only [Act.put, List.setIfInBounds_toArray, List.set_cons_zero, List.set_cons_succ] at hK
    exact hK
  simp only [Act.put, List.setIfInBounds_toArray, List.set_cons_zero, List.set_cons_succ]
  refine mildv_take (v := ?v707) 6 rfl (by kernel_rfl) (by kernel_rfl) (by kernel_rfl) (by kernel_rfl) (fun _ _ _ h => hP _ _ _ _ _ h) (by kernel_rfl) (fun Wu K hK => ?hy707) ?go707
  case hy707 =>
    go_big_quiet_op
    simp only [Act.put, List.setIfInBounds_toArray, List.set_cons_zero, List.set_cons_succ] at hK
    exact hK
  simp only [Act.put, List.setIfInBounds_toArray, List.set_cons_zero, List.set_cons_succ]
  refine mildv_take (v := ?v708) 7 rfl (by kernel_rfl) (by kernel_rfl) (by kernel_rfl) (by kernel_rfl) (fun _ _ _ h => hP _ _ _ _ _ h) (by kernel_rfl) (fun Wu K hK => ?hy708) ?go708
  case hy708 =>
    go_big_quiet_op
    simp only [Act.put, List.setIfInBounds_toArray, List.set_cons_zero, List.set_cons_succ] at hK
    exact hK
  simp only [Act.put, List.setIfInBounds_toArray, List.set_cons_zero, List.set_cons_succ]
  refine mildv_take (v := ?v709) 8 rfl (by kernel_rfl) (by kernel_rfl) (by kernel_rfl) (by kernel_rfl) (fun _ _ _ h => hP _ _ _ _ _ h) (by kernel_rfl) (fun Wu K hK => ?hy709) ?go709
  case hy709 =>
    go_big_quiet_op
    simp only [Act.put, List.setIfInBounds_toArray, List.set_cons_zero, List.set_cons_succ] at hK
    exact hK
  simp only [Act.put, List.setIfInBounds_toArray, List.set_cons_zero, List.set_cons_succ]
  refine mildv_take (v := ?v710) 9 rfl (by kernel_rfl) (by kernel_rfl) (by kernel_rfl) (by kernel_rfl) (fun _ _ _ h => hP _ _ _ _ _ h) (by kernel_rfl) (fun Wu K hK => ?hy710) ?go710
  case hy710 =>
    go_big_quiet_op
    simp only [Act.put, List.setIfInBounds_toArray, List.set_cons_zero, List.set_cons_succ] at hK
    exact hK
  simp only [Act.put, List.setIfInBounds_toArray, List.set_cons_zero, List.set_cons_succ]
  refine mildv_take (v := ?v711) 10 rfl (by kernel_rfl) (by kernel_rfl) (by kernel_rfl) (by kernel_rfl) (fun _ _ _ h => hP _ _ _ _ _ h) (by kernel_rfl) (fun Wu K hK => ?hy711) ?go711
  case hy711 =>
    go_big_quiet_op
    simp only [Act.put, List.setIfInBounds_toArray, List.set_cons_zero, List.set_cons_succ] at hK
    exact hK
  simp only [Act.put, List.setIfInBounds_toArray, List.set_cons_zero, List.set_cons_succ]
  intro Wu
  have hWu := Wu.2
  generalize Wu.1 = wu at *
  clear uc uf Wu
  have gmlt : gm < wq.heap.size := (Array.getElem?_eq_some_iff.1 hrow).1
  have hru : wu.heap[gm]? = some (.cells (flat q).toArray 38 (0, 0)) := by rw [hWu.block gm gmlt]; exact hrow
  obtain ⟨x, hx⟩ : ∃ x, q[j]? = some x := ⟨q[j]'(by omega), by simp⟩
  obtain ⟨g0, g1, g2⟩ := op_cells (w := wu) (b := gm) (of := 0) (p := q) (fun i u hu => by rw [Nat.zero_add, cell_of_row wu gm i _ _ _ hru]; simpa using hu) hx
  rw [Nat.zero_add] at g0 g1 g2
  have hfz : ∀ k, wu.frozen? ⟨gm, k, none⟩ = false := by intro k; simp [World.frozen?, hru]
  refine upv_list 11 (by kernel_rfl) rfl ?_
  go_wp2
  refine ⟨(by first | trivial | exact fun h => absurd rfl h), fun u => ?_⟩
  refine upv_done (by kernel_rfl) ?_
  have e0 := heap_setCell_same wu gm (j * 3) _ 38 (.int .i64 3) hru
  have e1 := heap_setCell_same _ gm (j * 3 + 1) _ 38 (.int .i64 ((j : Int) % mm)) e0
  have e2 := heap_setCell_same _ gm (j * 3 + 2) _ 38 (.int .i64 nn) e1
  refine hQ _ _ _ _ _ _ _ _ _ _ _ u.1 ?_ ?_
  · rw [u.2.block gm (by simp; exact Nat.lt_of_lt_of_le gmlt hWu.size), e2]
    rw [← flat_set q j ⟨3, (j : Int) % mm, nn⟩ (by omega)]
    simp
  · have hs := hWu.size
    have h2 := u.2.size
    simp at h2
    refine ⟨?_, ?_, ?_, by omega, fun k hk hne => ?_⟩
    · rw [u.2.os]; exact hWu.os
    · rw [u.2.tape]; exact hWu.tape
    · rw [u.2.output]; exact hWu.output
    · have hkg : k ≠ gm := fun e => hne (by rw [e])
      rw [u.2.block k (by simp; omega), Below.heap_setCell _ _ _ _ hkg, Below.heap_setCell _ _ _ _ hkg, Below.heap_setCell _ _ _ _ hkg]
      exact hWu.block k hk
end Go.Proofs.Ytpagdfmajeodiaa
