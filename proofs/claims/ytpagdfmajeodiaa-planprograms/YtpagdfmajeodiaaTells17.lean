/- Two statements of PlanTells that draw their order, each as a theorem of its own: the second. Conditions: as each theorem states them. -/
import Derived.Test.YtpagdfmajeodiaaTells13
namespace Go.Proofs.Ytpagdfmajeodiaa
open Go.RowKit
set_option linter.unusedVariables false

noncomputable def tellsR17 : Code := ((Try.f6.body.bind (findRegion 17)).getD .skip)

set_option maxRecDepth 1000000 in
set_option maxHeartbeats 2000000 in
theorem tells17 (N gO : Nat) (l k : Int) (b0 : Option Addr) (m0 e0 : Nat) (y0 : List Int) (b1 : Option Addr) (m1 e1 : Nat) (y1 : List Int) (b2 : Option Addr) (m2 e2 : Nat) (y2 : List Int) (w W w6 : World) (rows : List Value) (ps : List (List OpI)) (Q0 : Exit → Act → World → Prop)
    (g0 : Sl w b0 m0 e0 y0) (g1 : Sl w b1 m1 e1 y1) (g2 : Sl w b2 m2 e2 y2) (hbw : Below w.heap.size w W) (hB6 : Below W.heap.size W w6) (N0 : 1 ≤ N) (N1 : N ≤ 4) (hgrid : Grid w6 gO rows ps) (hpl : ps.length = N) (hfine : Fine l k 12 ps) (hgW : W.heap.size ≤ gO)
    (t0 t1 t2 t6 t7 t8 t9 t10 t11 t12 t13 t14 t15 t16 t17 t18 t19 t20 t21 t23 t24 t25 t26 t27 t28 t29 t30 t31 t32 t33 t34 t35 t36 t37 t38 t39 t40 t41 t42 t43 t44 t45 t46 t47 t48 t49 t50 t51 t52 t53 t54 t55 t56 t57 t58 t59 t60 t61 t62 t63 t64 t65 t66 t67 t68 t69 t70 t71 t72 t73 t74 t75 t76 t77 t78 t79 t80 t81 t82 t83 t84 t85 t86 t87 t88 t89 t90 t91 t92 t93 t94 t95 t96 t97 t98 t99 t100 t101 t102 t103 t104 t105 t106 t107 t108 t109 t110 t111 t112 t113 t114 t115 t116 t117 t118 t119 t120 t121 t122 t123 t124 t125 t126 t127 t128 t129 t130 t131 t132 t133 t134 t135 t136 t137 t138 t139 t140 t141 t142 t143 t144 t145 t146 t147 t148 t149 t150 t151 t152 t153 : Value)
    (hP : ∀ c (a : Act) dst v w, Q0 (.panic c) (a.put dst v) w → Q0 (.panic c) a w)
    (hQ : ∀ (r128 r129 r130 r131 r132 r133 r134 r135 r136 r137 : Value) (w' : World), (∃ rows ps, Grid w' gO rows ps ∧ ps.length = N ∧ Below W.heap.size W w') → Q0 .normal ⟨(List.toArray (t0 :: t1 :: t2 :: (.slice b0 m0 e0 : Value) :: (.slice b1 m1 e1 : Value) :: (.slice b2 m2 e2 : Value) :: t6 :: t7 :: t8 :: t9 :: t10 :: t11 :: t12 :: t13 :: t14 :: t15 :: t16 :: t17 :: t18 :: t19 :: t20 :: t21 :: (.slice (some ⟨gO, 0, none⟩) N N : Value) :: t23 :: t24 :: t25 :: t26 :: t27 :: t28 :: t29 :: t30 :: t31 :: t32 :: t33 :: t34 :: t35 :: t36 :: t37 :: t38 :: t39 :: t40 :: t41 :: t42 :: t43 :: t44 :: t45 :: t46 :: t47 :: t48 :: t49 :: t50 :: t51 :: t52 :: t53 :: t54 :: t55 :: t56 :: t57 :: t58 :: t59 :: t60 :: t61 :: t62 :: t63 :: t64 :: t65 :: t66 :: t67 :: t68 :: t69 :: t70 :: t71 :: t72 :: t73 :: t74 :: t75 :: t76 :: t77 :: t78 :: t79 :: t80 :: t81 :: t82 :: t83 :: t84 :: t85 :: t86 :: t87 :: t88 :: t89 :: t90 :: t91 :: t92 :: t93 :: t94 :: t95 :: t96 :: t97 :: t98 :: t99 :: t100 :: t101 :: t102 :: t103 :: t104 :: t105 :: t106 :: t107 :: t108 :: t109 :: t110 :: t111 :: t112 :: t113 :: t114 :: t115 :: t116 :: t117 :: t118 :: t119 :: t120 :: t121 :: t122 :: t123 :: t124 :: t125 :: t126 :: t127 :: r128 :: r129 :: r130 :: r131 :: r132 :: r133 :: r134 :: r135 :: r136 :: r137 :: t138 :: t139 :: t140 :: t141 :: t142 :: t143 :: t144 :: t145 :: t146 :: t147 :: t148 :: t149 :: t150 :: t151 :: t152 :: t153 :: [])), []⟩ w') :
    Code.wp Try.prog tellsR17 Q0 ⟨(List.toArray (t0 :: t1 :: t2 :: (.slice b0 m0 e0 : Value) :: (.slice b1 m1 e1 : Value) :: (.slice b2 m2 e2 : Value) :: t6 :: t7 :: t8 :: t9 :: t10 :: t11 :: t12 :: t13 :: t14 :: t15 :: t16 :: t17 :: t18 :: t19 :: t20 :: t21 :: (.slice (some ⟨gO, 0, none⟩) N N : Value) :: t23 :: t24 :: t25 :: t26 :: t27 :: t28 :: t29 :: t30 :: t31 :: t32 :: t33 :: t34 :: t35 :: t36 :: t37 :: t38 :: t39 :: t40 :: t41 :: t42 :: t43 :: t44 :: t45 :: t46 :: t47 :: t48 :: t49 :: t50 :: t51 :: t52 :: t53 :: t54 :: t55 :: t56 :: t57 :: t58 :: t59 :: t60 :: t61 :: t62 :: t63 :: t64 :: t65 :: t66 :: t67 :: t68 :: t69 :: t70 :: t71 :: t72 :: t73 :: t74 :: t75 :: t76 :: t77 :: t78 :: t79 :: t80 :: t81 :: t82 :: t83 :: t84 :: t85 :: t86 :: t87 :: t88 :: t89 :: t90 :: t91 :: t92 :: t93 :: t94 :: t95 :: t96 :: t97 :: t98 :: t99 :: t100 :: t101 :: t102 :: t103 :: t104 :: t105 :: t106 :: t107 :: t108 :: t109 :: t110 :: t111 :: t112 :: t113 :: t114 :: t115 :: t116 :: t117 :: t118 :: t119 :: t120 :: t121 :: t122 :: t123 :: t124 :: t125 :: t126 :: t127 :: t128 :: t129 :: t130 :: t131 :: t132 :: t133 :: t134 :: t135 :: t136 :: t137 :: t138 :: t139 :: t140 :: t141 :: t142 :: t143 :: t144 :: t145 :: t146 :: t147 :: t148 :: t149 :: t150 :: t151 :: t152 :: t153 :: [])), []⟩ w6 := by
  conv => arg 2; whnf
  obtain ⟨r0, hr0⟩ : ∃ r, rows[0]? = some r := ⟨rows[0]'(by rw [hgrid.len, hpl]; omega), by simp⟩
  obtain ⟨pp, hp0⟩ : ∃ p, ps[0]? = some p := ⟨ps[0]'(by rw [hpl]; omega), by simp⟩
  have hownr := hgrid.own 0 r0 pp hr0 hp0
  obtain ⟨ar, cr, er, hsr⟩ := slv_own hownr
  subst er
  have HR0 : Hid (rows[0]? = some (.slice ar pp.length cr)) := hr0
  have HP0 : Hid (ps[0]? = some pp) := hp0
  have hp12 := (hfine pp (List.mem_of_getElem? hp0)).1
  have HPL : Hid (ps.length = N) := hpl
  clear hr0 hp0 hsr hpl
  have hN' : (0 : Int) < (N : Int) := by omega
  refine wp_region_orders 11 rfl (by kernel_rfl) ?_
  refine any_take 0 (.slice (some ⟨gO, 0, none⟩) N N) rfl (by kernel_rfl) (by kernel_rfl) (by kernel_rfl) (fun _ _ _ h => hP _ _ _ _ _ h) (by kernel_rfl) (fun w => by go_simp) ?_
  simp only [Act.put, List.setIfInBounds_toArray, List.set_cons_zero, List.set_cons_succ]
  refine any_take 1 (.slice (some ⟨gO, 0, none⟩) N N) rfl (by kernel_rfl) (by kernel_rfl) (by kernel_rfl) (fun _ _ _ h => hP _ _ _ _ _ h) (by kernel_rfl) (fun w => by go_simp) ?_
  simp only [Act.put, List.setIfInBounds_toArray, List.set_cons_zero, List.set_cons_succ]
  refine any_take 2 (.pointer (some ⟨gO, 0, none⟩)) rfl (by kernel_rfl) (by kernel_rfl) (by kernel_rfl) (fun _ _ _ h => hP _ _ _ _ _ h) (by kernel_rfl) (fun w => by go_simp; intro hN0; omega) ?_
  simp only [Act.put, List.setIfInBounds_toArray, List.set_cons_zero, List.set_cons_succ]
  refine any_take 4 (.slice b0 m0 e0) rfl (by kernel_rfl) (by kernel_rfl) (by kernel_rfl) (fun _ _ _ h => hP _ _ _ _ _ h) (by kernel_rfl) (fun w => by go_simp) ?_
  simp only [Act.put, List.setIfInBounds_toArray, List.set_cons_zero, List.set_cons_succ]
  refine any_take 5 (.slice b1 m1 e1) rfl (by kernel_rfl) (by kernel_rfl) (by kernel_rfl) (fun _ _ _ h => hP _ _ _ _ _ h) (by kernel_rfl) (fun w => by go_simp) ?_
  simp only [Act.put, List.setIfInBounds_toArray, List.set_cons_zero, List.set_cons_succ]
  refine any_take 6 (.slice b2 m2 e2) rfl (by kernel_rfl) (by kernel_rfl) (by kernel_rfl) (fun _ _ _ h => hP _ _ _ _ _ h) (by kernel_rfl) (fun w => by go_simp) ?_
  simp only [Act.put, List.setIfInBounds_toArray, List.set_cons_zero, List.set_cons_succ]
  have hbd : Below w6.heap.size w6 w6.drew := (Below.refl _ _).drew
  have hgd := hgrid.below hbd
  have hownd := ownsRow_below hownr hbd
  have hBd := next hB6 hbd
  have hBwd := next hbw hBd
  have houtd := hgd.cell HR0.out
  generalize w6.drew = wd at *
  clear hbd
  refine any_two 3 7 (by kernel_rfl) rfl rfl ?_ ?_
  · go_wp2
    refine then_n ?_
    refine any_list 7 (by kernel_rfl) rfl ?_
    go_wp2_with (go_at_call 24; refine (playOps_any b0 m0 e0 y0 b1 m1 e1 y1 b2 m2 e2 y2 _ (g0.below (by exact hBwd)) (g1.below (by exact hBwd)) (g2.below (by exact hBwd))).mono ?_; rintro e w7 ⟨v7, qq, rfl, hown7, hq7, hb7⟩)
    refine then_n ?_
    have hgr7 := hgd.below hb7
    have hown7r := ownsRow_below hownd hb7
    have hB7 := next hBd hb7
    obtain ⟨i0, hi, hz0, hz1, hz2⟩ := info_parts Try.infoOp
    have hcellr := hgr7.cell HR0.out
    have hfzr := hgr7.fz
    rcases hown7.2 with ⟨ev7, hq0⟩ | ⟨g7, cap7, cur7, ev7, _⟩
    · subst ev7
      obtain rfl : qq = [] := List.eq_nil_of_length_eq_zero hq0
      refine any_list 8 (by kernel_rfl) rfl ?_
      go_wp2_with (at_builtin; refine wpList_append_own_none rfl _ _ 39 rfl gO 38 i0 3 Try.underlying39 hi _ pp.length (flat pp) rfl hown7r rfl ?_)
      refine then_n ?_
      refine any_list 9 (by kernel_rfl) rfl ?_
      go_wp2
      refine then_n ?_
      refine any_list 10 (by kernel_rfl) rfl ?_
      go_wp2
      refine then_n ?_
      refine any_done (by kernel_rfl) ?_
      have hnew := Grid.push (q := []) (m := 0) (w1 := w7) hgr7 HR0.out HP0.out (by simpa [flat] using hown7r) ⟨rfl, rfl, rfl, Nat.le_refl _, fun _ _ _ => rfl⟩ (.inl rfl) (Below.refl _ _)
      have hBn := hB7.setCell (p := ⟨gO, 0, none⟩) hgW (.slice ar pp.length cr)
      exact hQ _ _ _ _ _ _ _ _ _ _ _ ⟨_, _, hnew, by rw [List.length_set]; exact HPL.out, hBn⟩
    · subst ev7
      have hn7 := hown7.cells (g := g7) rfl
      refine any_list 8 (by kernel_rfl) rfl ?_
      go_wp2_with (at_builtin; refine wpList_append_own_at _ rfl _ _ 39 rfl gO 38 i0 (.agg #[.int .i64 0, .int .i64 0, .int .i64 0]) 3 24 Try.underlying39 hi hz0 hz1 hz2 rfl (by decide) (.slice ar pp.length cr) pp.length (flat pp) rfl hown7r ⟨g7, 0, none⟩ qq.length cap7 (flat qq) rfl (flat_len qq) hn7 (flat_one _) (by unfold maxLen; omega) (by omega) (Nat.le_of_lt hgr7.lt) ?_; intro r8 w8 hown8 hg8 hnil8 hloc8; obtain ⟨a8, c8, e8, _⟩ := slv_own hown8; subst e8)
      refine then_n ?_
      have hrow8 : w8.heap[gO]? = some (.cells rows.toArray 39 (0, 0)) := by
        rw [hg8.block gO hgr7.lt (fun e => hgr7.out 0 _ HR0.out e.symm)]; exact hgr7.outer
      have hcell8 : w8.cell? ⟨gO, 0, none⟩ = some (.slice ar pp.length cr) := by
        rw [cell_of_row w8 gO 0 _ _ _ hrow8]; simpa using HR0.out
      have hfz8 : ∀ q, w8.frozen? ⟨gO, q, none⟩ = false := by intro q; simp [World.frozen?, hrow8]
      refine any_list 9 (by kernel_rfl) rfl ?_
      go_wp2
      refine then_n ?_
      refine any_list 10 (by kernel_rfl) rfl ?_
      go_wp2
      refine then_n ?_
      refine any_done (by kernel_rfl) ?_
      have hnew := Grid.push (q := qq) (m := 0) hgr7 HR0.out HP0.out hown8 hg8 hloc8 (Below.refl _ _)
      have hBn := (hB7.grown hg8 hB7.size (fun q hq => Nat.le_trans hgW (hown7r.lt q hq).1)).setCell (p := ⟨gO, 0, none⟩) hgW (.slice a8 (pp.length + qq.length) c8)
      exact hQ _ _ _ _ _ _ _ _ _ _ _ ⟨_, _, hnew, by rw [List.length_set]; exact HPL.out, hBn⟩
  · go_wp2_with (go_at_call 24; refine (playOps_any b0 m0 e0 y0 b1 m1 e1 y1 b2 m2 e2 y2 _ (g0.below (by exact hBwd)) (g1.below (by exact hBwd)) (g2.below (by exact hBwd))).mono ?_; rintro e w7 ⟨v7, qq, rfl, hown7, hq7, hb7⟩)
    refine then_n ?_
    have hgr7 := hgd.below hb7
    have hown7r := ownsRow_below hownd hb7
    have hB7 := next hBd hb7
    have hout7 := hgr7.cell HR0.out
    refine any_list 3 (by kernel_rfl) rfl ?_
    go_wp2
    refine then_n ?_
    obtain ⟨i0, hi, hz0, hz1, hz2⟩ := info_parts Try.infoOp
    have hcellr := hgr7.cell HR0.out
    have hfzr := hgr7.fz
    rcases hown7.2 with ⟨ev7, hq0⟩ | ⟨g7, cap7, cur7, ev7, _⟩
    · subst ev7
      obtain rfl : qq = [] := List.eq_nil_of_length_eq_zero hq0
      refine any_list 8 (by kernel_rfl) rfl ?_
      go_wp2_with (at_builtin; refine wpList_append_own_none rfl _ _ 39 rfl gO 38 i0 3 Try.underlying39 hi _ pp.length (flat pp) rfl hown7r rfl ?_)
      refine then_n ?_
      refine any_list 9 (by kernel_rfl) rfl ?_
      go_wp2
      refine then_n ?_
      refine any_list 10 (by kernel_rfl) rfl ?_
      go_wp2
      refine then_n ?_
      refine any_done (by kernel_rfl) ?_
      have hnew := Grid.push (q := []) (m := 0) (w1 := w7) hgr7 HR0.out HP0.out (by simpa [flat] using hown7r) ⟨rfl, rfl, rfl, Nat.le_refl _, fun _ _ _ => rfl⟩ (.inl rfl) (Below.refl _ _)
      have hBn := hB7.setCell (p := ⟨gO, 0, none⟩) hgW (.slice ar pp.length cr)
      exact hQ _ _ _ _ _ _ _ _ _ _ _ ⟨_, _, hnew, by rw [List.length_set]; exact HPL.out, hBn⟩
    · subst ev7
      have hn7 := hown7.cells (g := g7) rfl
      refine any_list 8 (by kernel_rfl) rfl ?_
      go_wp2_with (at_builtin; refine wpList_append_own_at _ rfl _ _ 39 rfl gO 38 i0 (.agg #[.int .i64 0, .int .i64 0, .int .i64 0]) 3 24 Try.underlying39 hi hz0 hz1 hz2 rfl (by decide) (.slice ar pp.length cr) pp.length (flat pp) rfl hown7r ⟨g7, 0, none⟩ qq.length cap7 (flat qq) rfl (flat_len qq) hn7 (flat_one _) (by unfold maxLen; omega) (by omega) (Nat.le_of_lt hgr7.lt) ?_; intro r8 w8 hown8 hg8 hnil8 hloc8; obtain ⟨a8, c8, e8, _⟩ := slv_own hown8; subst e8)
      refine then_n ?_
      have hrow8 : w8.heap[gO]? = some (.cells rows.toArray 39 (0, 0)) := by
        rw [hg8.block gO hgr7.lt (fun e => hgr7.out 0 _ HR0.out e.symm)]; exact hgr7.outer
      have hcell8 : w8.cell? ⟨gO, 0, none⟩ = some (.slice ar pp.length cr) := by
        rw [cell_of_row w8 gO 0 _ _ _ hrow8]; simpa using HR0.out
      have hfz8 : ∀ q, w8.frozen? ⟨gO, q, none⟩ = false := by intro q; simp [World.frozen?, hrow8]
      refine any_list 9 (by kernel_rfl) rfl ?_
      go_wp2
      refine then_n ?_
      refine any_list 10 (by kernel_rfl) rfl ?_
      go_wp2
      refine then_n ?_
      refine any_done (by kernel_rfl) ?_
      have hnew := Grid.push (q := qq) (m := 0) hgr7 HR0.out HP0.out hown8 hg8 hloc8 (Below.refl _ _)
      have hBn := (hB7.grown hg8 hB7.size (fun q hq => Nat.le_trans hgW (hown7r.lt q hq).1)).setCell (p := ⟨gO, 0, none⟩) hgW (.slice a8 (pp.length + qq.length) c8)
      exact hQ _ _ _ _ _ _ _ _ _ _ _ ⟨_, _, hnew, by rw [List.length_set]; exact HPL.out, hBn⟩

end Go.Proofs.Ytpagdfmajeodiaa
