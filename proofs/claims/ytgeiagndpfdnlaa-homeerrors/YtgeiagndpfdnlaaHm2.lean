/- The program's home: check. Conditions: as each theorem states them. -/
import Derived.Test.YtgeiagndpfdnlaaHm1
import Derived.Test.YtgeiagndpfdnlaaTake9
namespace Go.Proofs.Ytgeiagndpfdnlaa
open Go.RowKit Go.Maps
set_option linter.unusedVariables false
set_option maxRecDepth 20000

theorem isHome_any (k : Int) (w : World) : Calls Try.prog 53 #[.int .i64 k] w fun e w' => e = .returned (.bool (decide (k = 1 ∨ k = 2))) ∧ w = w' := by
  by_cases h1 : k = 1
  · subst h1
    go_enter Try.func53, Try.ntmps53
    go_wp2
    go_ret
    exact ⟨by simp, rfl⟩
  · have h1b : (k == 1) = false := by simp [h1]
    go_enter Try.func53, Try.ntmps53
    go_wp2
    go_ret
    exact ⟨ret_bool (by by_cases h2 : k = 2 <;> simp [h1, h2]), rfl⟩
theorem isHome_is (k : Int) (b : Bool) (hb : decide (k = 1 ∨ k = 2) = b) (w : World) : Calls Try.prog 53 #[.int .i64 k] w fun e w' => e = .returned (.bool b) ∧ Below w.heap.size w w' := by
  subst hb
  refine (isHome_any k w).mono ?_
  rintro e w' ⟨rfl, rfl⟩
  exact ⟨rfl, Below.refl _ _⟩
/-- Is a request taken? -/
def tknP (N : Nat) (node : Int) (x : Pk) : Bool := x.right && decide (x.t = node ∧ x.f < (N : Int) ∧ (x.k = 1 ∨ x.k = 2))
def ckE (N : Nat) (node : Int) (L : List Hr) (x : Pk) : Int := if tknP N node x = true then (if hasH L x.l = true then 0 else 3) else 1
section
variable {w wx : World} {g g1 g2 n N : Nat} {X : Nat → Prop} {K node : Int} {L : List Hr} {o : List (Int × Int)} {q : List Wr}
set_option maxHeartbeats 1600000 in
theorem hcheck_any (h : PH w wx g g1 g2 X N K node L n o q) (x : Pk) (a : Option Addr) (m c : Nat) (hsl : Sl wx a m c x.z) (hl : In64 x.l) :
    Calls Try.prog 28 #[.pointer (some ⟨g, 0, none⟩), x.val (.slice a m c)] wx fun e w' => e = .returned (.int .i64 (ckE N node L x)) ∧ Below wx.heap.size wx w' := by
  unfold Pk.val
  go_enter Try.func28, Try.ntmps28
  go_upto_region 1 with fail
  have hB : Below wx.heap.size wx (wx.alloc (.cells #[.int .i64 x.k, .int .i64 x.f, .int .i64 x.t, .int .i64 x.i, .int .i64 x.l, .int .i64 x.p, .int .i64 x.s, .bool x.fl, .slice a m c] 32)) := ba (Below.refl _ _)
  have bxp : Bx (wx.alloc (.cells #[.int .i64 x.k, .int .i64 x.f, .int .i64 x.t, .int .i64 x.i, .int .i64 x.l, .int .i64 x.p, .int .i64 x.s, .bool x.fl, .slice a m c] 32)) wx.heap.size x (.slice a m c) := Bx.made wx x (.slice a m c)
  have h1 := h.below hB
  have hs1 := hsl.below hB
  clear hsl h
  generalize World.alloc _ (.cells #[.int .i64 x.k, .int .i64 x.f, .int .i64 x.t, .int .i64 x.i, .int .i64 x.l, .int .i64 x.p, .int .i64 x.s, .bool x.fl, .slice a m c] 32) = W at *
  obtain ⟨q0, q1, q2, q3, q4, q5, q6, q7, q8, qf, ql⟩ := id bxp
  cases hr : x.right with
  | false =>
    have HE : Hid (x.err = 1) := Pk.err_f hr
    have HR : Hid (ckE N node L x = 1) := by show _ = _; unfold ckE tknP; rw [hr]; rfl
    clear hr
    go_wp2_with (go_at_call 52; refine (pkCheck_any x a m c W hs1).mono ?_; rw [HE.out]; rintro e w1 ⟨rfl, b1⟩)
    go_ret
    exact ⟨by rw [HR.out]; rfl, next hB b1⟩
  | true =>
    have HE : Hid (x.err = 0) := Pk.err_t hr
    have HR : Hid (x.right = true) := hr
    clear hr
    go_upto_region 2 with (go_at_call 52; refine (pkCheck_any x a m c W hs1).mono ?_; rw [HE.out]; rintro e w1 ⟨rfl, b1⟩)
    have hB1 := next hB b1
    have bp1 := bxp.next b1
    have h2 := h1.below b1
    obtain ⟨_, _, _, c2, c3, lt, _, _⟩ := id h2
    clear q0 q1 q2 q3 q4 q5 q6 q7 q8 qf ql bxp h1 hs1 hB b1
    obtain ⟨q0, q1, q2, q3, q4, q5, q6, q7, q8, qf, ql⟩ := id bp1
    by_cases e1 : x.t = node
    · have h1b : (x.t != node) = false := by simp [e1]
      by_cases e2 : x.f < (N : Int)
      · have h2b : decide ((N : Int) ≤ x.f) = false := decide_eq_false (by omega)
        by_cases e3 : x.k = 1 ∨ x.k = 2
        · have HK : Hid (decide (x.k = 1 ∨ x.k = 2) = true) := decide_eq_true e3
          have HT : Hid (tknP N node x = true) := by show _ = _; unfold tknP; rw [HR.out, decide_eq_true (⟨e1, e2, e3⟩ : x.t = node ∧ x.f < (N : Int) ∧ (x.k = 1 ∨ x.k = 2))]; rfl
          clear e1 e2 e3
          go_upto_region 4 with fail
          have uc := @Up.cell
          have uf := @Up.frozen
          refine wp_region_up (by kernel_rfl) (by kernel_rfl) ?_
          repeat (go_big_quiet_step ((go_at_call 53; exact Calls.up_of (isHome_is x.k true HK.out _))))
          refine wpQuiet_nil ?_
          rintro _ ⟨u, rfl⟩
          clear uc uf
          have hB2 := next hB1 u.2
          have h3 := h2.below u.2
          have bp2 := bp1.next u.2
          clear q0 q1 q2 q3 q4 q5 q6 q7 q8 qf ql bp1 h2 hB1 c2 c3 lt
          generalize u.val = V at *
          obtain ⟨hp, c0, _, _, _, lt, _, _⟩ := id h3
          obtain ⟨q0, q1, q2, q3, q4, q5, q6, q7, q8, qf, ql⟩ := id bp2
          have HH : Hid (ckE N node L x = if hasH L x.l = true then 0 else 3) := by show _ = _; unfold ckE; rw [if_pos HT.out]
          obtain ⟨B, hh⟩ : ∃ B, hasH L x.l = B := ⟨_, rfl⟩
          rw [hh] at HH
          have HhB : Hid (hasH L x.l = B) := hh
          clear hh
          go_upto_region 6 with fail
          refine wp_region_orders 13 rfl (by kernel_rfl) ?_
          have Bd : Below V.heap.size V V.drew := (Below.refl _ _).drew
          replace c0 := (Bd.cell (p := ⟨g, 0, none⟩) lt).trans c0
          replace q4 := (Bd.cell (p := ⟨wx.heap.size, 4, none⟩) ql).trans q4
          replace lt := Nat.lt_of_lt_of_le lt Bd.size
          replace ql := Nat.lt_of_lt_of_le ql Bd.size
          replace hp := hp.below Bd
          replace hB2 := next hB2 Bd
          clear q0 q1 q2 q3 q5 q6 q7 q8 qf bp2 h3 Bd
          generalize V.drew = V3 at *
          have HIB : Hid (∀ V', Below V3.heap.size V3 V' → (fun V => V.cell? ⟨g, 0, none⟩ = some (.pointer (some ⟨g1, 0, none⟩)) ∧ V.cell? ⟨wx.heap.size, 4, none⟩ = some (.int .i64 x.l)) V') := fun V' b => ⟨(b.cell (p := ⟨g, 0, none⟩) lt).trans c0, (b.cell (p := ⟨wx.heap.size, 4, none⟩) ql).trans q4⟩
          have hI : (fun V => V.cell? ⟨g, 0, none⟩ = some (.pointer (some ⟨g1, 0, none⟩)) ∧ V.cell? ⟨wx.heap.size, 4, none⟩ = some (.int .i64 x.l)) V3 := HIB.out _ (Below.refl _ _)
          refine any_inv (fun V => V.cell? ⟨g, 0, none⟩ = some (.pointer (some ⟨g1, 0, none⟩)) ∧ V.cell? ⟨wx.heap.size, 4, none⟩ = some (.int .i64 x.l)) [] hI ?_
          refine inv_take (v := ?v1) [] 0 hI rfl (by kernel_rfl) (by kernel_rfl) (by kernel_rfl) (by kernel_rfl) (by kernel_rfl) (fun _ _ _ h => h) (by kernel_rfl) (fun V hV => ?hy1) ?go1
          case hy1 => (obtain ⟨i0, i1⟩ := hV; go_simp <;> rfl)
          simp only [Act.put, List.setIfInBounds_toArray, List.set_cons_zero, List.set_cons_succ]
          refine inv_take (v := ?v2) [] 1 hI rfl (by kernel_rfl) (by kernel_rfl) (by kernel_rfl) (by kernel_rfl) (by kernel_rfl) (fun _ _ _ h => h) (by kernel_rfl) (fun V hV => ?hy2) ?go2
          case hy2 => (obtain ⟨i0, i1⟩ := hV; go_simp <;> rfl)
          simp only [Act.put, List.setIfInBounds_toArray, List.set_cons_zero, List.set_cons_succ]
          refine inv_take (v := ?v3) [] 2 hI rfl (by kernel_rfl) (by kernel_rfl) (by kernel_rfl) (by kernel_rfl) (by kernel_rfl) (fun _ _ _ h => h) (by kernel_rfl) (fun V hV => ?hy3) ?go3
          case hy3 => (obtain ⟨i0, i1⟩ := hV; go_simp <;> rfl)
          simp only [Act.put, List.setIfInBounds_toArray, List.set_cons_zero, List.set_cons_succ]
          refine inv_take (v := ?v4) [] 3 hI rfl (by kernel_rfl) (by kernel_rfl) (by kernel_rfl) (by kernel_rfl) (by kernel_rfl) (fun _ _ _ h => h) (by kernel_rfl) (fun V hV => ?hy4) ?go4
          case hy4 => (obtain ⟨i0, i1⟩ := hV; go_simp <;> rfl)
          simp only [Act.put, List.setIfInBounds_toArray, List.set_cons_zero, List.set_cons_succ]
          refine inv_take (v := ?v5) [] 4 hI rfl (by kernel_rfl) (by kernel_rfl) (by kernel_rfl) (by kernel_rfl) (by kernel_rfl) (fun _ _ _ h => h) (by kernel_rfl) (fun V hV => ?hy5) ?go5
          case hy5 => (obtain ⟨i0, i1⟩ := hV; go_simp <;> rfl)
          simp only [Act.put, List.setIfInBounds_toArray, List.set_cons_zero, List.set_cons_succ]
          refine inv_take (v := ?v6) [] 5 hI rfl (by kernel_rfl) (by kernel_rfl) (by kernel_rfl) (by kernel_rfl) (by kernel_rfl) (fun _ _ _ h => h) (by kernel_rfl) (fun V hV => ?hy6) ?go6
          case hy6 => (obtain ⟨i0, i1⟩ := hV; go_simp <;> rfl)
          simp only [Act.put, List.setIfInBounds_toArray, List.set_cons_zero, List.set_cons_succ]
          refine inv_two 6 10 (by kernel_rfl) rfl rfl ?_ ?_
          · go_wp2_with (go_at_call 45; refine (hp_row hp hl).mono ?_; rw [HhB.out]; rintro e V4 ⟨a2, k2, rfl, own, b2⟩)
            refine then_n ⟨HIB.out _ b2, ?_⟩
            try simp only [Act.put, List.setIfInBounds_toArray, List.set_cons_zero, List.set_cons_succ]
            refine inv_take (v := ?v7) [] 7 (HIB.out _ b2) rfl (by kernel_rfl) (by kernel_rfl) (by kernel_rfl) (by kernel_rfl) (by kernel_rfl) (fun _ _ _ h => h) (by kernel_rfl) (fun V hV => ?hy7) ?go7
            case hy7 => (obtain ⟨i0, i1⟩ := hV; go_simp <;> rfl)
            simp only [Act.put, List.setIfInBounds_toArray, List.set_cons_zero, List.set_cons_succ]
            refine inv_take (v := ?v8) [] 8 (HIB.out _ b2) rfl (by kernel_rfl) (by kernel_rfl) (by kernel_rfl) (by kernel_rfl) (by kernel_rfl) (fun _ _ _ h => h) (by kernel_rfl) (fun V hV => ?hy8) ?go8
            case hy8 => (obtain ⟨i0, i1⟩ := hV; go_simp <;> rfl)
            simp only [Act.put, List.setIfInBounds_toArray, List.set_cons_zero, List.set_cons_succ]
            refine inv_take (v := ?v9) [] 9 (HIB.out _ b2) rfl (by kernel_rfl) (by kernel_rfl) (by kernel_rfl) (by kernel_rfl) (by kernel_rfl) (fun _ _ _ h => h) (by kernel_rfl) (fun V hV => ?hy9) ?go9
            case hy9 => (obtain ⟨i0, i1⟩ := hV; go_simp <;> rfl)
            simp only [Act.put, List.setIfInBounds_toArray, List.set_cons_zero, List.set_cons_succ]
            refine inv_list 10 (by kernel_rfl) rfl ?_
            go_wp2_with fail
            refine then_n ⟨HIB.out _ (ba b2), ?_⟩
            try simp only [Act.put, List.setIfInBounds_toArray, List.set_cons_zero, List.set_cons_succ]
            refine inv_list 11 (by kernel_rfl) rfl ?_
            go_wp2_with fail
            refine then_n ⟨HIB.out _ (ba b2), ?_⟩
            try simp only [Act.put, List.setIfInBounds_toArray, List.set_cons_zero, List.set_cons_succ]
            refine inv_list 12 (by kernel_rfl) rfl ?_
            go_wp2_with fail
            refine then_n ⟨HIB.out _ (ba b2), ?_⟩
            try simp only [Act.put, List.setIfInBounds_toArray, List.set_cons_zero, List.set_cons_succ]
            refine inv_done (by kernel_rfl) ?_
            clear HhB
            cases B
            all_goals
              go_wp2_with fail
              go_ret
              exact ⟨by rw [HH.out]; rfl, next hB2 (ba b2)⟩
          · go_wp2_with fail
            refine then_n ⟨HIB.out _ (ba (Below.refl _ _)), ?_⟩
            try simp only [Act.put, List.setIfInBounds_toArray, List.set_cons_zero, List.set_cons_succ]
            refine inv_list 6 (by kernel_rfl) rfl ?_
            go_wp2_with (go_at_call 45; refine (hp_row (hp.below (by exact ba (Below.refl _ _))) hl).mono ?_; rw [HhB.out]; rintro e V4 ⟨a2, k2, rfl, own, b2⟩)
            have b3 : Below V3.heap.size V3 V4 := (ba (Below.refl _ _)).trans (b2.mono (by simp))
            have gz : (V3.alloc (.cells #[.int .i64 0, .int .i64 0, .slice none 0 0] 94)).cell? ⟨V3.heap.size, 0, none⟩ = some (.int .i64 0) := by simp
            have y0 := (b2.cell (p := ⟨V3.heap.size, 0, none⟩) (by simp)).trans gz
            have y1 := (b2.cell (p := ⟨V3.heap.size, 1, none⟩) (by simp)).trans (show (V3.alloc (.cells #[.int .i64 0, .int .i64 0, .slice none 0 0] 94)).cell? ⟨V3.heap.size, 1, none⟩ = some (.int .i64 0) by simp)
            have y2 := (b2.cell (p := ⟨V3.heap.size, 2, none⟩) (by simp)).trans (show (V3.alloc (.cells #[.int .i64 0, .int .i64 0, .slice none 0 0] 94)).cell? ⟨V3.heap.size, 2, none⟩ = some (.slice none 0 0) by simp)
            have z0 := (b2.frozen (p := ⟨V3.heap.size, 0, none⟩) (by simp)).trans (show (V3.alloc (.cells #[.int .i64 0, .int .i64 0, .slice none 0 0] 94)).frozen? ⟨V3.heap.size, 0, none⟩ = false by simp)
            have z1 := (b2.frozen (p := ⟨V3.heap.size, 1, none⟩) (by simp)).trans (show (V3.alloc (.cells #[.int .i64 0, .int .i64 0, .slice none 0 0] 94)).frozen? ⟨V3.heap.size, 1, none⟩ = false by simp)
            have z2 := (b2.frozen (p := ⟨V3.heap.size, 2, none⟩) (by simp)).trans (show (V3.alloc (.cells #[.int .i64 0, .int .i64 0, .slice none 0 0] 94)).frozen? ⟨V3.heap.size, 2, none⟩ = false by simp)
            refine then_n ⟨HIB.out _ b3, ?_⟩
            try simp only [Act.put, List.setIfInBounds_toArray, List.set_cons_zero, List.set_cons_succ]
            refine inv_take (v := ?v10) [] 7 (HIB.out _ b3) rfl (by kernel_rfl) (by kernel_rfl) (by kernel_rfl) (by kernel_rfl) (by kernel_rfl) (fun _ _ _ h => h) (by kernel_rfl) (fun V hV => ?hy10) ?go10
            case hy10 => (obtain ⟨i0, i1⟩ := hV; go_simp <;> rfl)
            simp only [Act.put, List.setIfInBounds_toArray, List.set_cons_zero, List.set_cons_succ]
            refine inv_take (v := ?v11) [] 8 (HIB.out _ b3) rfl (by kernel_rfl) (by kernel_rfl) (by kernel_rfl) (by kernel_rfl) (by kernel_rfl) (fun _ _ _ h => h) (by kernel_rfl) (fun V hV => ?hy11) ?go11
            case hy11 => (obtain ⟨i0, i1⟩ := hV; go_simp <;> rfl)
            simp only [Act.put, List.setIfInBounds_toArray, List.set_cons_zero, List.set_cons_succ]
            refine inv_take (v := ?v12) [] 9 (HIB.out _ b3) rfl (by kernel_rfl) (by kernel_rfl) (by kernel_rfl) (by kernel_rfl) (by kernel_rfl) (fun _ _ _ h => h) (by kernel_rfl) (fun V hV => ?hy12) ?go12
            case hy12 => (obtain ⟨i0, i1⟩ := hV; go_simp <;> rfl)
            simp only [Act.put, List.setIfInBounds_toArray, List.set_cons_zero, List.set_cons_succ]
            have bs : ∀ (V0 : World) (u v t : Value), Below V3.heap.size V3 V0 → Below V3.heap.size V3 (((V0.setCell ⟨V3.heap.size, 0, none⟩ u).setCell ⟨V3.heap.size, 1, none⟩ v).setCell ⟨V3.heap.size, 2, none⟩ t) := fun V0 u v t h => ((h.setCell (Nat.le_refl _) u).setCell (Nat.le_refl _) v).setCell (Nat.le_refl _) t
            refine inv_list 11 (by kernel_rfl) rfl ?_
            go_wp2_with fail
            refine then_n ⟨HIB.out _ (bs _ _ _ _ b3), ?_⟩
            try simp only [Act.put, List.setIfInBounds_toArray, List.set_cons_zero, List.set_cons_succ]
            refine inv_list 12 (by kernel_rfl) rfl ?_
            go_wp2_with fail
            refine then_n ⟨HIB.out _ (bs _ _ _ _ b3), ?_⟩
            try simp only [Act.put, List.setIfInBounds_toArray, List.set_cons_zero, List.set_cons_succ]
            refine inv_done (by kernel_rfl) ?_
            clear HhB
            cases B
            all_goals
              go_wp2_with fail
              go_ret
              exact ⟨by rw [HH.out]; rfl, next hB2 (bs _ _ _ _ b3)⟩
        · have HK : Hid (decide (x.k = 1 ∨ x.k = 2) = false) := decide_eq_false e3
          have HC : Hid (ckE N node L x = 1) := by
            show _ = _
            unfold ckE tknP
            rw [HR.out]
            rw [decide_eq_false (fun e => e3 e.2.2)]; rfl
          go_upto_region 4 with fail
          have uc := @Up.cell
          have uf := @Up.frozen
          refine wp_region_up (by kernel_rfl) (by kernel_rfl) ?_
          repeat (go_big_quiet_step ((go_at_call 53; exact Calls.up_of (isHome_is x.k false HK.out _))))
          refine wpQuiet_nil ?_
          rintro _ ⟨u, rfl⟩
          clear uc uf
          go_wp2_with fail
          go_ret
          exact ⟨by rw [HC.out]; rfl, next hB1 u.2⟩
      · have h2b : decide ((N : Int) ≤ x.f) = true := decide_eq_true (by omega)
        have HK : Hid (decide (x.k = 1 ∨ x.k = 2) = decide (x.k = 1 ∨ x.k = 2)) := rfl
        have HC : Hid (ckE N node L x = 1) := by
          show _ = _
          unfold ckE tknP
          rw [HR.out]
          rw [decide_eq_false (fun e => e2 e.2.1)]; rfl
        go_upto_region 4 with fail
        have uc := @Up.cell
        have uf := @Up.frozen
        refine wp_region_up (by kernel_rfl) (by kernel_rfl) ?_
        repeat (go_big_quiet_step ((go_at_call 53; exact Calls.up_of (isHome_is x.k _ HK.out _))))
        refine wpQuiet_nil ?_
        rintro _ ⟨u, rfl⟩
        clear uc uf
        go_wp2_with fail
        go_ret
        exact ⟨by rw [HC.out]; rfl, next hB1 u.2⟩
    · have h1b : (x.t != node) = true := by simp [e1]
      have HK : Hid (decide (x.k = 1 ∨ x.k = 2) = decide (x.k = 1 ∨ x.k = 2)) := rfl
      have HC : Hid (ckE N node L x = 1) := by
        show _ = _
        unfold ckE tknP
        rw [HR.out]
        rw [decide_eq_false (fun e => e1 e.1)]; rfl
      go_upto_region 4 with fail
      have uc := @Up.cell
      have uf := @Up.frozen
      refine wp_region_up (by kernel_rfl) (by kernel_rfl) ?_
      repeat (go_big_quiet_step ((go_at_call 53; exact Calls.up_of (isHome_is x.k _ HK.out _))))
      refine wpQuiet_nil ?_
      rintro _ ⟨u, rfl⟩
      clear uc uf
      go_wp2_with fail
      go_ret
      exact ⟨by rw [HC.out]; rfl, next hB1 u.2⟩
end
end Go.Proofs.Ytgeiagndpfdnlaa
