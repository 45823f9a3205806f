/- The statements of PlanPrograms that draw their order, each as a theorem of its own: the first. Conditions: as each theorem states them. -/
import Derived.Test.YtpagdfmajeodiaaPlanTellsWalk
import Derived.Test.YtpagdfmajeodiaaTake4
namespace Go.Proofs.Ytpagdfmajeodiaa
open Go.RowKit
set_option linter.unusedVariables false

theorem errI_t : errI true = 0 := rfl
theorem errI_f : errI false = 1 := rfl
noncomputable def progR3 : Code := ((Try.f4.body.bind (findRegion 3)).getD .skip)
/-- Rows that are a call's own, as programs. -/
theorem progs_own {w : World} {base n : Nat} {v : Value} {rows : List Value} {qs : List (List OpI)} (h : w.ownsRow base 39 1 v n rows) (hn : qs.length = n)
    (hr : ∀ (i : Nat) (p : List OpI), qs[i]? = some p → ∃ ai ci, rows[i]? = some (Value.slice ai p.length ci) ∧ SlV w ai p.length ci 3 (flat p)) : ∃ a cap, v = .slice a qs.length cap ∧ Progs w a cap qs := by
  subst hn
  obtain ⟨a, cap, rfl, hs⟩ := slv_own h
  exact ⟨a, cap, rfl, rows, hs, hr⟩
theorem Grid.rowAt {w : World} {gO : Nat} {rows : List Value} {ps : List (List OpI)} (h : Grid w gO rows ps) (i : Nat) (p : List OpI) (hp : ps[i]? = some p) : ∃ ai ci, rows[i]? = some (Value.slice ai p.length ci) ∧ SlV w ai p.length ci 3 (flat p) := by
  obtain ⟨r, hr⟩ : ∃ r, rows[i]? = some r := ⟨rows[i]'(by rw [h.len]; exact (List.getElem?_eq_some_iff.1 hp).1), by simp⟩
  obtain ⟨a, c, rfl, hs⟩ := slv_own (h.own i r p hr hp)
  exact ⟨a, c, hr, hs⟩
theorem rows_one {w : World} {gO : Nat} {rows : List Value} {ps : List (List OpI)} (h : Grid w gO rows ps) : ∀ u ∈ rows, u.oneCell' = true := by
  intro u hu
  obtain ⟨i, hi, rfl⟩ := List.getElem_of_mem hu
  obtain ⟨p, hp⟩ : ∃ p, ps[i]? = some p := ⟨ps[i]'(by rw [← h.len]; exact hi), by simp⟩
  obtain ⟨a, c, e, _⟩ := slv_own (h.own i rows[i] p (by simp [hi]) hp)
  rw [e]; rfl
theorem news_row (w : World) (v : Value) : ∀ j u, ([v])[j]? = some u → (w.alloc (.cells #[v] 39)).cell? ((⟨w.heap.size, 0, none⟩ : Addr).add j) = some u := by
  intro j u hu
  rw [Addr.add_lit, Nat.zero_add]
  have hj : j < 1 := by have := (List.getElem?_eq_some_iff.1 hu).1; simpa using this
  obtain rfl : j = 0 := by omega
  simpa using hu

set_option maxRecDepth 1000000 in
set_option maxHeartbeats 600000 in
theorem prog3 (N L K S Y O I g gO : Nat) (tt : Value) (wq : World) (rows : List Value) (ps : List (List OpI)) (Q0 : Exit → Act → World → Prop)
    (hcb : CB wq g N L K S Y O I tt) (hgrid : Grid wq gO rows ps) (hpl : ps.length = N) (hok : opsOk N L K ps = true) (N0 : 1 ≤ N) (N1 : N ≤ 4) (L0 : 1 ≤ L) (L1 : L ≤ 4) (K0 : 1 ≤ K) (K1 : K ≤ 2)
    (t0 t1 t2 t3 t4 t7 t8 t9 t10 t11 t12 t13 t14 t15 t16 t17 t18 t19 t20 t21 t22 t23 t24 t25 t26 t27 t28 t29 t30 t31 t32 t33 t34 t35 t36 t37 t38 t39 t40 t41 t42 t43 t44 t45 t46 t47 t48 t49 t50 t51 t52 t53 t54 t55 t56 t57 t58 t59 t60 t61 t62 t63 t64 t65 t66 t67 t68 t69 t70 t71 t72 t73 t74 t75 t76 t77 t78 t79 t80 t81 t82 t83 t84 t85 t86 t87 t88 t89 t90 t91 t92 t93 t94 t95 t96 t97 t98 t99 t100 t101 t102 t103 t104 t105 t106 t107 t108 t109 t110 t111 t112 t113 t114 t115 t116 t117 t118 t119 : Value)
    (hP : ∀ c (a : Act) dst v w, Q0 (.panic c) (a.put dst v) w → Q0 (.panic c) a w)
    (hQ : ∀ (r18 r19 r20 r21 r22 r23 r24 r25 r26 r27 r28 r29 r30 r31 r32 r33 : Value) (w' : World), Below wq.heap.size wq w' → Q0 .normal ⟨(List.toArray (t0 :: t1 :: t2 :: t3 :: t4 :: (.pointer (some ⟨g, 0, none⟩) : Value) :: (.slice (some ⟨gO, 0, none⟩) N N : Value) :: t7 :: t8 :: t9 :: t10 :: t11 :: t12 :: t13 :: t14 :: t15 :: t16 :: t17 :: r18 :: r19 :: r20 :: r21 :: r22 :: r23 :: r24 :: r25 :: r26 :: r27 :: r28 :: r29 :: r30 :: r31 :: r32 :: r33 :: (.bool false : Value) :: t35 :: t36 :: t37 :: t38 :: t39 :: t40 :: t41 :: t42 :: t43 :: t44 :: t45 :: t46 :: t47 :: t48 :: t49 :: t50 :: t51 :: t52 :: t53 :: t54 :: t55 :: t56 :: t57 :: t58 :: t59 :: t60 :: t61 :: t62 :: t63 :: t64 :: t65 :: t66 :: t67 :: t68 :: t69 :: t70 :: t71 :: t72 :: t73 :: t74 :: t75 :: t76 :: t77 :: t78 :: t79 :: t80 :: t81 :: t82 :: t83 :: t84 :: t85 :: t86 :: t87 :: t88 :: t89 :: t90 :: t91 :: t92 :: t93 :: t94 :: t95 :: t96 :: t97 :: t98 :: t99 :: t100 :: t101 :: t102 :: t103 :: t104 :: t105 :: t106 :: t107 :: t108 :: t109 :: t110 :: t111 :: t112 :: t113 :: t114 :: t115 :: t116 :: t117 :: t118 :: t119 :: [])), []⟩ w') :
    Code.wp Try.prog progR3 Q0 ⟨(List.toArray (t0 :: t1 :: t2 :: t3 :: t4 :: (.pointer (some ⟨g, 0, none⟩) : Value) :: (.slice (some ⟨gO, 0, none⟩) N N : Value) :: t7 :: t8 :: t9 :: t10 :: t11 :: t12 :: t13 :: t14 :: t15 :: t16 :: t17 :: t18 :: t19 :: t20 :: t21 :: t22 :: t23 :: t24 :: t25 :: t26 :: t27 :: t28 :: t29 :: t30 :: t31 :: t32 :: t33 :: t34 :: t35 :: t36 :: t37 :: t38 :: t39 :: t40 :: t41 :: t42 :: t43 :: t44 :: t45 :: t46 :: t47 :: t48 :: t49 :: t50 :: t51 :: t52 :: t53 :: t54 :: t55 :: t56 :: t57 :: t58 :: t59 :: t60 :: t61 :: t62 :: t63 :: t64 :: t65 :: t66 :: t67 :: t68 :: t69 :: t70 :: t71 :: t72 :: t73 :: t74 :: t75 :: t76 :: t77 :: t78 :: t79 :: t80 :: t81 :: t82 :: t83 :: t84 :: t85 :: t86 :: t87 :: t88 :: t89 :: t90 :: t91 :: t92 :: t93 :: t94 :: t95 :: t96 :: t97 :: t98 :: t99 :: t100 :: t101 :: t102 :: t103 :: t104 :: t105 :: t106 :: t107 :: t108 :: t109 :: t110 :: t111 :: t112 :: t113 :: t114 :: t115 :: t116 :: t117 :: t118 :: t119 :: [])), []⟩ wq := by
  subst hpl
  conv => arg 2; whnf
  obtain ⟨c0, c1, c2, c3, c4, c5, c6, c7, clt⟩ := hcb
  have hprN := hgrid.progs (by omega)
  have hno : opsOk ps.length L K [] = false := by unfold opsOk; rw [decide_eq_false (by simp; omega)]; rfl
  have hno2 : opsOk ps.length L K (ps ++ [[]]) = false := by unfold opsOk; rw [decide_eq_false (by simp; omega)]; rfl
  have uc := @Up.cell2
  have uf := @Up.frozen2
  refine wp_region_mild 17 rfl (by kernel_rfl) ?_
  refine mild_take (v := ?v301) 0 rfl (by kernel_rfl) (by kernel_rfl) (by kernel_rfl) (fun _ _ _ h => hP _ _ _ _ _ h) (by kernel_rfl) (fun Wu K hK => ?hy301) ?go301
  case hy301 =>
    go_big_quiet_op
    simp only [Act.put, List.setIfInBounds_toArray, List.set_cons_zero, List.set_cons_succ] at hK
    exact hK
  simp only [Act.put, List.setIfInBounds_toArray, List.set_cons_zero, List.set_cons_succ]
  refine mild_take (v := ?v302) 1 rfl (by kernel_rfl) (by kernel_rfl) (by kernel_rfl) (fun _ _ _ h => hP _ _ _ _ _ h) (by kernel_rfl) (fun Wu K hK => ?hy302) ?go302
  case hy302 =>
    go_big_quiet_op
    simp only [Act.put, List.setIfInBounds_toArray, List.set_cons_zero, List.set_cons_succ] at hK
    exact hK
  simp only [Act.put, List.setIfInBounds_toArray, List.set_cons_zero, List.set_cons_succ]
  refine mild_take (v := ?v303) 2 rfl (by kernel_rfl) (by kernel_rfl) (by kernel_rfl) (fun _ _ _ h => hP _ _ _ _ _ h) (by kernel_rfl) (fun Wu K hK => ?hy303) ?go303
  case hy303 =>
    go_big_quiet_op
    simp only [Act.put, List.setIfInBounds_toArray, List.set_cons_zero, List.set_cons_succ] at hK
    refine ⟨_, fun u => Calls.up_of (ops_e (ps := ps) (hprN.below (next Wu.2 u.2)) (by omega) (by omega) (by omega) (by omega) hok errI_t), ?_⟩
    exact hK
  simp only [Act.put, List.setIfInBounds_toArray, List.set_cons_zero, List.set_cons_succ]
  refine mild_take (v := ?v304) 3 rfl (by kernel_rfl) (by kernel_rfl) (by kernel_rfl) (fun _ _ _ h => hP _ _ _ _ _ h) (by kernel_rfl) (fun Wu K hK => ?hy304) ?go304
  case hy304 =>
    go_big_quiet_op
    simp only [Act.put, List.setIfInBounds_toArray, List.set_cons_zero, List.set_cons_succ] at hK
    exact hK
  simp only [Act.put, List.setIfInBounds_toArray, List.set_cons_zero, List.set_cons_succ]
  refine mild_take (v := ?v305) 4 rfl (by kernel_rfl) (by kernel_rfl) (by kernel_rfl) (fun _ _ _ h => hP _ _ _ _ _ h) (by kernel_rfl) (fun Wu K hK => ?hy305) ?go305
  case hy305 =>
    go_big_quiet_op
    simp only [Act.put, List.setIfInBounds_toArray, List.set_cons_zero, List.set_cons_succ] at hK
    exact hK
  simp only [Act.put, List.setIfInBounds_toArray, List.set_cons_zero, List.set_cons_succ]
  refine mild_take (v := ?v306) 5 rfl (by kernel_rfl) (by kernel_rfl) (by kernel_rfl) (fun _ _ _ h => hP _ _ _ _ _ h) (by kernel_rfl) (fun Wu K hK => ?hy306) ?go306
  case hy306 =>
    go_big_quiet_op
    simp only [Act.put, List.setIfInBounds_toArray, List.set_cons_zero, List.set_cons_succ] at hK
    exact hK
  simp only [Act.put, List.setIfInBounds_toArray, List.set_cons_zero, List.set_cons_succ]
  refine mild_take (v := ?v307) 6 rfl (by kernel_rfl) (by kernel_rfl) (by kernel_rfl) (fun _ _ _ h => hP _ _ _ _ _ h) (by kernel_rfl) (fun Wu K hK => ?hy307) ?go307
  case hy307 =>
    go_big_quiet_op
    simp only [Act.put, List.setIfInBounds_toArray, List.set_cons_zero, List.set_cons_succ] at hK
    refine ⟨_, fun u => Calls.up_of (ops_e (ps := []) (progs_nil _) (by omega) (by omega) (by omega) (by omega) hno errI_f), ?_⟩
    exact hK
  simp only [Act.put, List.setIfInBounds_toArray, List.set_cons_zero, List.set_cons_succ]
  refine mild_take (v := ?v308) 7 rfl (by kernel_rfl) (by kernel_rfl) (by kernel_rfl) (fun _ _ _ h => hP _ _ _ _ _ h) (by kernel_rfl) (fun Wu K hK => ?hy308) ?go308
  case hy308 =>
    go_big_quiet_op
    simp only [Act.put, List.setIfInBounds_toArray, List.set_cons_zero, List.set_cons_succ] at hK
    exact hK
  simp only [Act.put, List.setIfInBounds_toArray, List.set_cons_zero, List.set_cons_succ]
  refine mild_take (v := ?v309) 8 rfl (by kernel_rfl) (by kernel_rfl) (by kernel_rfl) (fun _ _ _ h => hP _ _ _ _ _ h) (by kernel_rfl) (fun Wu K hK => ?hy309) ?go309
  case hy309 =>
    go_big_quiet_op
    simp only [Act.put, List.setIfInBounds_toArray, List.set_cons_zero, List.set_cons_succ] at hK
    exact hK
  simp only [Act.put, List.setIfInBounds_toArray, List.set_cons_zero, List.set_cons_succ]
  refine mild_take (v := ?v310) 9 rfl (by kernel_rfl) (by kernel_rfl) (by kernel_rfl) (fun _ _ _ h => hP _ _ _ _ _ h) (by kernel_rfl) (fun Wu K hK => ?hy310) ?go310
  case hy310 =>
    go_big_quiet_op
    simp only [Act.put, List.setIfInBounds_toArray, List.set_cons_zero, List.set_cons_succ] at hK
    exact hK
  simp only [Act.put, List.setIfInBounds_toArray, List.set_cons_zero, List.set_cons_succ]
  refine mild_take (v := ?v311) 10 rfl (by kernel_rfl) (by kernel_rfl) (by kernel_rfl) (fun _ _ _ h => hP _ _ _ _ _ h) (by kernel_rfl) (fun Wu K hK => ?hy311) ?go311
  case hy311 =>
    go_big_quiet_op
    simp only [Act.put, List.setIfInBounds_toArray, List.set_cons_zero, List.set_cons_succ] at hK
    exact hK
  simp only [Act.put, List.setIfInBounds_toArray, List.set_cons_zero, List.set_cons_succ]
  refine mild_take (v := ?v312) 11 rfl (by kernel_rfl) (by kernel_rfl) (by kernel_rfl) (fun _ _ _ h => hP _ _ _ _ _ h) (by kernel_rfl) (fun Wu K hK => ?hy312) ?go312
  case hy312 =>
    go_big_quiet_op
    simp only [Act.put, List.setIfInBounds_toArray, List.set_cons_zero, List.set_cons_succ] at hK
    exact hK
  simp only [Act.put, List.setIfInBounds_toArray, List.set_cons_zero, List.set_cons_succ]
  intro Wu
  have hWu := Wu.2
  generalize Wu.1 = wu at *
  clear uc uf Wu
  have hgu := hgrid.below hWu
  refine up_list 12 (by kernel_rfl) rfl ?_
  go_wp2
  refine ⟨ba hWu, fun u => ?_⟩
  have hnews : ∀ j x, ([Value.slice none 0 0])[j]? = some x → u.1.cell? ((⟨wu.heap.size, 0, none⟩ : Addr).add j) = some x := by
    intro j x hx
    have := news_row wu (.slice none 0 0) j x hx
    rw [u.2.cell (p := (⟨wu.heap.size, 0, none⟩ : Addr).add j) (by rw [Addr.add_lit]; simp)]
    exact this
  have hgv := hgu.below (next (ba (Below.refl _ _)) u.2)
  have hBv := next (ba hWu) u.2
  generalize u.1 = wv at *
  clear u
  obtain ⟨i0, hi, hz0, hz1, hz2⟩ := info_parts Try.infoRow
  refine up_list 13 (by kernel_rfl) rfl ?_
  refine wpList_grows_w wv (by kernel_rfl) (.tmp 29) (.tmp 30) 33 rfl 39 i0 (.slice none 0 0) 1 24 Try.underlying33 hi hz0 hz1 hz2 rfl (by decide) ⟨gO, 0, none⟩ ps.length ps.length rows rfl (by rw [hgv.len]; simp) (fun j x hx => by rw [Addr.add_lit, Nat.zero_add]; exact hgv.cell hx) ⟨wu.heap.size, 0, none⟩ 1 1 [.slice none 0 0] rfl rfl hnews (by omega) (by unfold maxLen; omega) (by omega) ?_
  intro vx wx hownx hgx
  have hBx := below_new hgx
  have key : ∃ qs : List (List OpI), opsOk ps.length L K qs = false ∧ ∃ a cap, vx = .slice a qs.length cap ∧ Progs wx a cap qs := ⟨ps ++ [[]], hno2, progs_own (qs := ps ++ [[]]) hownx (by simp) (by
    intro i p hp
    rcases Nat.lt_or_ge i ps.length with hlt | hge
    · rw [List.getElem?_append_left hlt] at hp
      obtain ⟨ai, ci, e, hs⟩ := hgv.rowAt i p hp
      exact ⟨ai, ci, by rw [List.getElem?_append_left (by rw [hgv.len]; exact hlt)]; exact e, hs.below hBx⟩
    · have hi' : i = ps.length := by have := (List.getElem?_eq_some_iff.1 hp).1; simp at this; omega
      subst hi'
      simp at hp
      subst hp
      exact ⟨none, 0, by rw [← hgv.len]; simp, slv_nil _ _⟩)⟩
  obtain ⟨qs, hno3, ax, cx, ex, hprx⟩ := key
  subst ex
  refine ⟨next hBv hBx, fun u => ?_⟩
  have hprV := hprx.below u.2
  have hBu := next hBv (next hBx u.2)
  generalize u.1 = wy at *
  clear u
  have d0 : wy.cell? ⟨g, 0, none⟩ = some (.int .i64 (ps.length : Int)) := by rw [hBu.cell (p := ⟨g, 0, none⟩) clt]; exact c0
  refine up_raise hBu ?_
  have uc := @Up.cell2
  have uf := @Up.frozen2
  simp only [Act.put, List.setIfInBounds_toArray, List.set_cons_zero, List.set_cons_succ]
  refine mild_take (v := ?v401) 14 rfl (by kernel_rfl) (by kernel_rfl) (by kernel_rfl) (fun _ _ _ h => hP _ _ _ _ _ h) (by kernel_rfl) (fun Wu K hK => ?hy401) ?go401
  case hy401 =>
    go_big_quiet_op
    simp only [Act.put, List.setIfInBounds_toArray, List.set_cons_zero, List.set_cons_succ] at hK
    refine ⟨_, fun u => Calls.up_of (ops_e (ps := qs) (hprV.below (next Wu.2 u.2)) (by omega) (by omega) (by omega) (by omega) hno3 errI_f), ?_⟩
    exact hK
  simp only [Act.put, List.setIfInBounds_toArray, List.set_cons_zero, List.set_cons_succ]
  refine mild_take (v := ?v402) 15 rfl (by kernel_rfl) (by kernel_rfl) (by kernel_rfl) (fun _ _ _ h => hP _ _ _ _ _ h) (by kernel_rfl) (fun Wu K hK => ?hy402) ?go402
  case hy402 =>
    go_big_quiet_op
    simp only [Act.put, List.setIfInBounds_toArray, List.set_cons_zero, List.set_cons_succ] at hK
    exact hK
  simp only [Act.put, List.setIfInBounds_toArray, List.set_cons_zero, List.set_cons_succ]
  refine mild_take (v := ?v403) 16 rfl (by kernel_rfl) (by kernel_rfl) (by kernel_rfl) (fun _ _ _ h => hP _ _ _ _ _ h) (by kernel_rfl) (fun Wu K hK => ?hy403) ?go403
  case hy403 =>
    go_big_quiet_op
    simp only [Act.put, List.setIfInBounds_toArray, List.set_cons_zero, List.set_cons_succ] at hK
    exact hK
  simp only [Act.put, List.setIfInBounds_toArray, List.set_cons_zero, List.set_cons_succ]
  intro Wz
  refine up_done (by kernel_rfl) ?_
  exact hQ _ _ _ _ _ _ _ _ _ _ _ _ _ _ _ _ _ (next hBu Wz.2)
end Go.Proofs.Ytpagdfmajeodiaa
