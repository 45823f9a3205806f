/- The statements of PlanPrograms that draw their order, each as a theorem of its own: the second. Conditions: as each theorem states them. -/
import Derived.Test.YtpagdfmajeodiaaProg3
namespace Go.Proofs.Ytpagdfmajeodiaa
open Go.RowKit
set_option linter.unusedVariables false

noncomputable def progR11 : Code := ((Try.f4.body.bind (findRegion 11)).getD .skip)
/-- A row, copied behind nothing. -/
theorem wpList_copyOps (w : World) {ops : Array Oper} {rest : List Oper} {o : Oper} {a : Act} {Q : Exit → Act → World → Prop} (hg : o.guard = none) (s x : Operand)
    (hop : o.op = .call { callee := .builtin .append, args := #[s, x], argTypes := #[39, 39] }) (hs : a.eval s = .slice none 0 0) (ar : Option Addr) (cr : Nat) (p : List OpI) (hx : a.eval x = .slice ar p.length cr)
    (hsl : SlV w ar p.length cr 3 (flat p)) (hp : p.length ≤ 1000) (base : Nat) (hb : base ≤ w.heap.size)
    (hK : ∀ v1 w1, w1.ownsRow base 38 3 v1 p.length (flat p) → w.grownBy w1 none → wpList Try.prog ops Q rest (a.put o.dst v1) w1) : wpList Try.prog ops Q (o :: rest) a w := by
  obtain ⟨i0, hi, hz0, hz1, hz2⟩ := info_parts Try.infoOp
  cases ar with
  | none =>
    have h0 : p.length = 0 := by have := hsl.nil rfl; have := hsl.le; omega
    have hc0 : cr = 0 := hsl.nil rfl
    obtain rfl : p = [] := List.eq_nil_of_length_eq_zero h0
    subst hc0
    refine wpList_append_own_none hg s x 39 hop base 38 i0 3 Try.underlying39 hi (.slice none 0 0) 0 [] hs (World.ownsRow_nil _ _ _ _) hx ?_
    exact hK _ w (World.ownsRow_nil _ _ _ _) ⟨rfl, rfl, rfl, Nat.le_refl _, fun _ _ _ => rfl⟩
  | some ad =>
    refine wpList_append_own w hg s x 39 hop base 38 i0 (.agg #[.int .i64 0, .int .i64 0, .int .i64 0]) 3 24 Try.underlying39 hi hz0 hz1 hz2 rfl (by decide) (.slice none 0 0) 0 [] hs (World.ownsRow_nil _ _ _ _) ad p.length cr (flat p) hx (flat_len p) ?_ (flat_one _) (by unfold maxLen; omega) (by omega) hb ?_
    · intro j u hu
      rcases hsl.row with e | ⟨b, o', e, hc⟩
      · rw [e] at hu; simp at hu
      · simp at e
        subst e
        rw [Addr.add_lit]
        exact hc j u hu
    · intro v' w' h1 h2 _
      exact hK v' w' (by simpa using h1) (by simpa [Value.ownBlock] using h2)

set_option maxRecDepth 1000000 in
set_option maxHeartbeats 600000 in
theorem prog11 (N kx b gx cx cr : Nat) (ar : Option Addr) (kk aa vv : Int) (p : List OpI) (wq : World) (Q0 : Exit → Act → World → Prop)
    (hcell : wq.cell? ⟨gx, kx, none⟩ = some (.slice ar p.length cr)) (hfz : ∀ q, wq.frozen? ⟨gx, q, none⟩ = false) (gxlt : gx < wq.heap.size) (hob : OB wq b kk aa vv) (hs : SlV wq ar p.length cr 3 (flat p)) (hk : kx < N) (hN : N ≤ 4) (hp : p.length ≤ 24)
    (t0 t1 t2 t3 t4 t5 t6 t7 t9 t12 t13 t14 t15 t16 t17 t18 t19 t20 t21 t22 t23 t24 t25 t26 t27 t28 t29 t30 t31 t32 t33 t34 t35 t36 t37 t38 t39 t40 t41 t42 t43 t44 t45 t46 t47 t48 t49 t50 t51 t52 t53 t54 t55 t56 t57 t58 t59 t60 t61 t62 t63 t64 t65 t66 t67 t68 t69 t70 t71 t72 t73 t74 t75 t76 t77 t78 t79 t80 t81 t82 t83 t84 t85 t86 t87 t88 t89 t90 t91 t92 t93 t94 t95 t96 t97 t98 t99 t100 t101 t102 t103 t104 t105 t106 t107 t108 t109 t110 t111 t112 t113 t114 t115 t116 t117 t118 t119 : Value)
    (hP : ∀ c (a : Act) dst v w, Q0 (.panic c) (a.put dst v) w → Q0 (.panic c) a w)
    (hQ : ∀ (r57 r58 r59 r60 r61 r62 r63 r64 r65 r66 r67 : Value) (w2 : World) (a2 : Option Addr) (c2 : Nat) (w' : World), SlV w2 a2 (p.length + 1) c2 3 (flat (p ++ [⟨kk, aa, vv⟩])) → Below wq.heap.size wq w2 → (∀ ad : Addr, a2 = some ad → wq.heap.size ≤ ad.block) →
      Below (w2.setCell ⟨gx, kx, none⟩ (.slice a2 (p.length + 1) c2)).heap.size (w2.setCell ⟨gx, kx, none⟩ (.slice a2 (p.length + 1) c2)) w' → Q0 .normal ⟨(List.toArray (t0 :: t1 :: t2 :: t3 :: t4 :: t5 :: t6 :: t7 :: (.int .i64 (kx : Int) : Value) :: t9 :: (.pointer (some ⟨b, 0, none⟩) : Value) :: (.slice (some ⟨gx, 0, none⟩) N cx : Value) :: t12 :: t13 :: t14 :: t15 :: t16 :: t17 :: t18 :: t19 :: t20 :: t21 :: t22 :: t23 :: t24 :: t25 :: t26 :: t27 :: t28 :: t29 :: t30 :: t31 :: t32 :: t33 :: t34 :: t35 :: t36 :: t37 :: t38 :: t39 :: t40 :: t41 :: t42 :: t43 :: t44 :: t45 :: t46 :: t47 :: t48 :: t49 :: t50 :: t51 :: t52 :: t53 :: t54 :: t55 :: t56 :: r57 :: r58 :: r59 :: r60 :: r61 :: r62 :: r63 :: r64 :: r65 :: r66 :: r67 :: t68 :: t69 :: t70 :: t71 :: t72 :: t73 :: t74 :: t75 :: t76 :: t77 :: t78 :: t79 :: t80 :: t81 :: t82 :: t83 :: t84 :: t85 :: t86 :: t87 :: t88 :: t89 :: t90 :: t91 :: t92 :: t93 :: t94 :: t95 :: t96 :: t97 :: t98 :: t99 :: t100 :: t101 :: t102 :: t103 :: t104 :: t105 :: t106 :: t107 :: t108 :: t109 :: t110 :: t111 :: t112 :: t113 :: t114 :: t115 :: t116 :: t117 :: t118 :: t119 :: [])), []⟩ w') :
    Code.wp Try.prog progR11 Q0 ⟨(List.toArray (t0 :: t1 :: t2 :: t3 :: t4 :: t5 :: t6 :: t7 :: (.int .i64 (kx : Int) : Value) :: t9 :: (.pointer (some ⟨b, 0, none⟩) : Value) :: (.slice (some ⟨gx, 0, none⟩) N cx : Value) :: t12 :: t13 :: t14 :: t15 :: t16 :: t17 :: t18 :: t19 :: t20 :: t21 :: t22 :: t23 :: t24 :: t25 :: t26 :: t27 :: t28 :: t29 :: t30 :: t31 :: t32 :: t33 :: t34 :: t35 :: t36 :: t37 :: t38 :: t39 :: t40 :: t41 :: t42 :: t43 :: t44 :: t45 :: t46 :: t47 :: t48 :: t49 :: t50 :: t51 :: t52 :: t53 :: t54 :: t55 :: t56 :: t57 :: t58 :: t59 :: t60 :: t61 :: t62 :: t63 :: t64 :: t65 :: t66 :: t67 :: t68 :: t69 :: t70 :: t71 :: t72 :: t73 :: t74 :: t75 :: t76 :: t77 :: t78 :: t79 :: t80 :: t81 :: t82 :: t83 :: t84 :: t85 :: t86 :: t87 :: t88 :: t89 :: t90 :: t91 :: t92 :: t93 :: t94 :: t95 :: t96 :: t97 :: t98 :: t99 :: t100 :: t101 :: t102 :: t103 :: t104 :: t105 :: t106 :: t107 :: t108 :: t109 :: t110 :: t111 :: t112 :: t113 :: t114 :: t115 :: t116 :: t117 :: t118 :: t119 :: [])), []⟩ wq := by
  conv => arg 2; whnf
  have t0 := hob.c0
  have t1 := hob.c1
  have t2 := hob.c2
  have blt := hob.lt
  have hk' : (kx : Int) < (N : Int) := by omega
  obtain ⟨i0, hi, hz0, hz1, hz2⟩ := info_parts Try.infoOp
  have uc := @Up.cell2
  have uf := @Up.frozen2
  refine wp_region_mildv 12 11 rfl (by kernel_rfl) ?_
  refine mildv_take (v := ?v501) 0 rfl (by kernel_rfl) (by kernel_rfl) (by kernel_rfl) (by kernel_rfl) (fun _ _ _ h => hP _ _ _ _ _ h) (by kernel_rfl) (fun Wu K hK => ?hy501) ?go501
  case hy501 =>
    go_big_quiet_op
    simp only [Act.put, List.setIfInBounds_toArray, List.set_cons_zero, List.set_cons_succ] at hK
    exact hK
  simp only [Act.put, List.setIfInBounds_toArray, List.set_cons_zero, List.set_cons_succ]
  refine mildv_take (v := ?v502) 1 rfl (by kernel_rfl) (by kernel_rfl) (by kernel_rfl) (by kernel_rfl) (fun _ _ _ h => hP _ _ _ _ _ h) (by kernel_rfl) (fun Wu K hK => ?hy502) ?go502
  case hy502 =>
    go_big_quiet_op
    simp only [Act.put, List.setIfInBounds_toArray, List.set_cons_zero, List.set_cons_succ] at hK
    exact hK
  simp only [Act.put, List.setIfInBounds_toArray, List.set_cons_zero, List.set_cons_succ]
  refine mildv_take (v := ?v503) 2 rfl (by kernel_rfl) (by kernel_rfl) (by kernel_rfl) (by kernel_rfl) (fun _ _ _ h => hP _ _ _ _ _ h) (by kernel_rfl) (fun Wu K hK => ?hy503) ?go503
  case hy503 =>
    go_big_quiet_op
    simp only [Act.put, List.setIfInBounds_toArray, List.set_cons_zero, List.set_cons_succ] at hK
    exact hK
  simp only [Act.put, List.setIfInBounds_toArray, List.set_cons_zero, List.set_cons_succ]
  refine mildv_take (v := ?v504) 3 rfl (by kernel_rfl) (by kernel_rfl) (by kernel_rfl) (by kernel_rfl) (fun _ _ _ h => hP _ _ _ _ _ h) (by kernel_rfl) (fun Wu K hK => ?hy504) ?go504
  case hy504 =>
    go_big_quiet_op
    simp only [Act.put, List.setIfInBounds_toArray, List.set_cons_zero, List.set_cons_succ] at hK
    exact hK
  simp only [Act.put, List.setIfInBounds_toArray, List.set_cons_zero, List.set_cons_succ]
  refine mildv_take (v := ?v505) 4 rfl (by kernel_rfl) (by kernel_rfl) (by kernel_rfl) (by kernel_rfl) (fun _ _ _ h => hP _ _ _ _ _ h) (by kernel_rfl) (fun Wu K hK => ?hy505) ?go505
  case hy505 =>
    go_big_quiet_op
    simp only [Act.put, List.setIfInBounds_toArray, List.set_cons_zero, List.set_cons_succ] at hK
    exact hK
  simp only [Act.put, List.setIfInBounds_toArray, List.set_cons_zero, List.set_cons_succ]
  refine mildv_take (v := ?v506) 5 rfl (by kernel_rfl) (by kernel_rfl) (by kernel_rfl) (by kernel_rfl) (fun _ _ _ h => hP _ _ _ _ _ h) (by kernel_rfl) (fun Wu K hK => ?hy506) ?go506
  case hy506 =>
    go_big_quiet_op
    simp only [Act.put, List.setIfInBounds_toArray, List.set_cons_zero, List.set_cons_succ] at hK
    exact hK
  simp only [Act.put, List.setIfInBounds_toArray, List.set_cons_zero, List.set_cons_succ]
  refine mildv_take (v := ?v507) 7 rfl (by kernel_rfl) (by kernel_rfl) (by kernel_rfl) (by kernel_rfl) (fun _ _ _ h => hP _ _ _ _ _ h) (by kernel_rfl) (fun Wu K hK => ?hy507) ?go507
  case hy507 =>
    go_big_quiet_op
    simp only [Act.put, List.setIfInBounds_toArray, List.set_cons_zero, List.set_cons_succ] at hK
    exact hK
  simp only [Act.put, List.setIfInBounds_toArray, List.set_cons_zero, List.set_cons_succ]
  intro Wu
  have hWu := Wu.2
  generalize Wu.1 = wu at *
  clear uc uf Wu
  refine upv_two 6 8 (by kernel_rfl) rfl rfl ?_ ?_
  · refine wpList_copyOps wu rfl _ _ rfl rfl ar cr p rfl (hs.below hWu) (by omega) wq.heap.size hWu.size ?_
    intro v1 w1 hown1 hg1
    obtain ⟨a1, c1, e1, _⟩ := slv_own hown1
    subst e1
    have hB1 := next hWu (below_new hg1)
    refine ⟨(by first | exact hB1 | exact fun _ => hB1), fun u => ?_⟩
    have hown2 := ownsRow_below hown1 u.2
    have hB2 := next hB1 u.2
    generalize u.1 = wv at *
    clear u
    simp only [Act.put, List.setIfInBounds_toArray, List.set_cons_zero, List.set_cons_succ]
    refine upv_list 8 (by kernel_rfl) rfl ?_
    go_wp2
    refine ⟨(by first | exact ba hB2 | exact fun _ => ba hB2), fun u => ?_⟩
    have hnews := news_up (x := ⟨kk, aa, vv⟩) u.2
    have hownZ := ownsRow_below hown2 (next (ba (Below.refl _ _)) u.2)
    have hBz := next (ba hB2) u.2
    obtain ⟨gs, hgs⟩ : ∃ gs, gs = wv.heap.size := ⟨_, rfl⟩
    rw [← hgs] at hnews ⊢
    generalize u.1 = wz at *
    clear u hgs
    refine upv_list 9 (by kernel_rfl) rfl ?_
    go_wp2_with (at_builtin; refine wpList_append_own _ rfl _ _ 39 rfl wq.heap.size 38 i0 (.agg #[.int .i64 0, .int .i64 0, .int .i64 0]) 3 24 Try.underlying39 hi hz0 hz1 hz2 rfl (by decide) _ p.length (flat p) rfl hownZ ⟨gs, 0, none⟩ 1 1 (flat [⟨kk, aa, vv⟩]) rfl rfl hnews (flat_one _) (by unfold maxLen; omega) (by omega) (by have := hBz.size; omega) ?_; intro v9 w9 hown9 hg9 hn9; obtain ⟨a9, c9, e9, hs9⟩ := slv_own hown9; subst e9)
    have hB9 : Below wq.heap.size wq w9 := hBz.grown hg9 hBz.size (fun x hx => (hownZ.lt x hx).1)
    have hlo9 : ∀ ad : Addr, a9 = some ad → wq.heap.size ≤ ad.block := by
      intro ad e
      subst e
      exact (hown9.lt ad.block rfl).1
    refine ⟨(by first | exact hB9 | exact fun _ => hB9), fun u => ?_⟩
    have hBa := next hB9 u.2
    have hs9a := hs9.below u.2
    generalize u.1 = wa at *
    clear u
    refine upv_list 10 (by kernel_rfl) rfl ?_
    go_wp2
    refine ⟨(by first | exact hBa | exact fun _ => hBa), fun u => ?_⟩
    have hBb := next hBa u.2
    have hs9b := hs9a.below u.2
    generalize u.1 = wb at *
    clear u
    have hcb : wb.cell? ⟨gx, kx, none⟩ = some (.slice ar p.length cr) := by rw [hBb.cell (p := ⟨gx, kx, none⟩) gxlt]; exact hcell
    have hfb : ∀ q, wb.frozen? ⟨gx, q, none⟩ = false := by intro q; rw [hBb.frozen (p := ⟨gx, q, none⟩) gxlt]; exact hfz q
    refine upv_list 11 (by kernel_rfl) rfl ?_
    go_wp2
    refine ⟨(by first | trivial | exact fun h => absurd rfl h), fun u => ?_⟩
    refine upv_done (by kernel_rfl) ?_
    rw [← flat_append] at hs9b
    exact hQ _ _ _ _ _ _ _ _ _ _ _ wb a9 c9 u.1 hs9b hBb hlo9 u.2
  · go_wp2
    refine ⟨(by first | exact ba hWu | exact fun _ => ba hWu), fun u => ?_⟩
    have hnews0 := news_up (x := ⟨kk, aa, vv⟩) u.2
    have hB1 := next (ba hWu) u.2
    obtain ⟨gs, hgs⟩ : ∃ gs, gs = wu.heap.size := ⟨_, rfl⟩
    have hgl : gs < u.1.heap.size := by rw [hgs]; have := u.2.size; simp at this; omega
    rw [← hgs] at hnews0 ⊢
    generalize u.1 = wv at *
    clear u hgs
    refine upv_list 6 (by kernel_rfl) rfl ?_
    refine wpList_copyOps wv rfl _ _ rfl rfl ar cr p rfl (hs.below hB1) (by omega) wq.heap.size hB1.size ?_
    intro v1 w1 hown1 hg1
    obtain ⟨a1, c1, e1, _⟩ := slv_own hown1
    subst e1
    have hB2 := next hB1 (below_new hg1)
    refine ⟨(by first | exact hB2 | exact fun _ => hB2), fun u => ?_⟩
    have hownZ := ownsRow_below hown1 u.2
    have hBz := next hB2 u.2
    have hnews : ∀ j x, (flat [(⟨kk, aa, vv⟩ : OpI)])[j]? = some x → u.1.cell? ((⟨gs, 0, none⟩ : Addr).add j) = some x := by
      intro j x hx
      rw [(next (below_new hg1) u.2).cell (p := (⟨gs, 0, none⟩ : Addr).add j) (by rw [Addr.add_lit]; exact hgl)]
      exact hnews0 j x hx
    generalize u.1 = wz at *
    clear u
    simp only [Act.put, List.setIfInBounds_toArray, List.set_cons_zero, List.set_cons_succ]
    refine upv_list 9 (by kernel_rfl) rfl ?_
    go_wp2_with (at_builtin; refine wpList_append_own _ rfl _ _ 39 rfl wq.heap.size 38 i0 (.agg #[.int .i64 0, .int .i64 0, .int .i64 0]) 3 24 Try.underlying39 hi hz0 hz1 hz2 rfl (by decide) _ p.length (flat p) rfl hownZ ⟨gs, 0, none⟩ 1 1 (flat [⟨kk, aa, vv⟩]) rfl rfl hnews (flat_one _) (by unfold maxLen; omega) (by omega) (by have := hBz.size; omega) ?_; intro v9 w9 hown9 hg9 hn9; obtain ⟨a9, c9, e9, hs9⟩ := slv_own hown9; subst e9)
    have hB9 : Below wq.heap.size wq w9 := hBz.grown hg9 hBz.size (fun x hx => (hownZ.lt x hx).1)
    have hlo9 : ∀ ad : Addr, a9 = some ad → wq.heap.size ≤ ad.block := by
      intro ad e
      subst e
      exact (hown9.lt ad.block rfl).1
    refine ⟨(by first | exact hB9 | exact fun _ => hB9), fun u => ?_⟩
    have hBa := next hB9 u.2
    have hs9a := hs9.below u.2
    generalize u.1 = wa at *
    clear u
    refine upv_list 10 (by kernel_rfl) rfl ?_
    go_wp2
    refine ⟨(by first | exact hBa | exact fun _ => hBa), fun u => ?_⟩
    have hBb := next hBa u.2
    have hs9b := hs9a.below u.2
    generalize u.1 = wb at *
    clear u
    have hcb : wb.cell? ⟨gx, kx, none⟩ = some (.slice ar p.length cr) := by rw [hBb.cell (p := ⟨gx, kx, none⟩) gxlt]; exact hcell
    have hfb : ∀ q, wb.frozen? ⟨gx, q, none⟩ = false := by intro q; rw [hBb.frozen (p := ⟨gx, q, none⟩) gxlt]; exact hfz q
    refine upv_list 11 (by kernel_rfl) rfl ?_
    go_wp2
    refine ⟨(by first | trivial | exact fun h => absurd rfl h), fun u => ?_⟩
    refine upv_done (by kernel_rfl) ?_
    rw [← flat_append] at hs9b
    exact hQ _ _ _ _ _ _ _ _ _ _ _ wb a9 c9 u.1 hs9b hBb hlo9 u.2
end Go.Proofs.Ytpagdfmajeodiaa
