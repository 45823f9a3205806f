/- The document's cache: NewCache, Full, Touch, an entry's Copy. Conditions: as each theorem states them. -/
import Derived.Test.YtfobgkkmbacfjaaCaRef1
import Derived.Test.YtfobgkkmbacfjaaTake8
namespace Go.Proofs.Ytfobgkkmbacfjaa
open Go.RowKit
set_option linter.unusedVariables false
set_option maxRecDepth 20000
namespace CR

theorem ca_new (w : World) (S W : Int) (t : TypeId) : Ca (w.alloc (.cells #[.int .i64 S, .int .i64 W, .int .i64 0, .slice none 0 0] t)) w.heap.size (fun k => k = w.heap.size) (fun _ => False) S W 0 [] :=
  ⟨[], none, 0, by simp, by simp, by simp, by simp, fun o => (by simp), by simp, rfl,
    ⟨rfl, rfl, rw_nil _ _ _, fun r hr => (by cases hr), fun k hk => (hk.2 hk.1).elim, fun k _ h => h⟩, fun k hk => (by rcases hk with rfl | h <;> simp_all), fun h => h⟩
theorem newCache_any (sets ways : Int) (w : World) :
    Calls Try.prog 10 #[.int .i64 sets, .int .i64 ways] w fun e w' => e = .returned (.pointer (some ⟨w.heap.size, 0, none⟩)) ∧ Below w.heap.size w w' ∧ Ca w' w.heap.size (fun k => k = w.heap.size) (fun _ => False) (max sets 1) (max ways 1) 0 [] := by
  obtain ⟨S, hS⟩ : ∃ S, max sets 1 = S := ⟨_, rfl⟩
  obtain ⟨W, hW⟩ : ∃ W, max ways 1 = W := ⟨_, rfl⟩
  rw [hS, hW]
  go_enter Try.func10, Try.ntmps10
  go_wp2
  all_goals go_ret
  all_goals refine ⟨rfl, ba (Below.refl _ _), ?_⟩
  · rw [show S = 1 by omega, show W = 1 by omega]; exact ca_new _ _ _ _
  · rw [show S = 1 by omega, show W = ways by omega]; exact ca_new _ _ _ _
  · rw [show S = sets by omega, show W = 1 by omega]; exact ca_new _ _ _ _
  · rw [show S = sets by omega, show W = ways by omega]; exact ca_new _ _ _ _
theorem at_b {w : World} {g : Nat} {M D : Nat → Prop} {S W k : Int} {L : List En} {line p : Int} (hp : atL L line = p) (h : Ca w g M D S W k L) :
    Calls Try.prog 22 #[.pointer (some ⟨g, 0, none⟩), .int .i64 line] w fun e w' => e = .returned (.int .i64 p) ∧ Below w.heap.size w w' := by
  subst hp
  refine (at_any h line).mono ?_
  rintro e w' ⟨rfl, rfl⟩
  exact ⟨rfl, Below.refl _ _⟩
theorem in_b {w : World} {g : Nat} {M D : Nat → Prop} {S W k : Int} {L : List En} {line : Int} {n : Nat} (hn : inL S L line = n) (hS : 1 ≤ S) (h : Ca w g M D S W k L) :
    Calls Try.prog 45 #[.pointer (some ⟨g, 0, none⟩), .int .i64 line] w fun e w' => e = .returned (.int .i64 n) ∧ Below w.heap.size w w' := hn ▸ in_any h line hS
theorem full_any {w : World} {g : Nat} {M D : Nat → Prop} {S W k : Int} {L : List En} (h : Ca w g M D S W k L) (line : Int) (hS : 1 ≤ S) :
    Calls Try.prog 26 #[.pointer (some ⟨g, 0, none⟩), .int .i64 line] w fun e w' => e = .returned (.bool (decide (0 ≤ line ∧ atL L line = -1 ∧ W ≤ inL S L line))) ∧ Below w.heap.size w w' := by
  have h' := h
  obtain ⟨R, a, cap, h⟩ := h
  obtain ⟨c0, c1, c2, c3, fz, lt, _, row, _, _⟩ := h
  clear fz row
  have hb : ∀ u : Up w, Ca u.1 g M D S W k L := fun u => h'.below u.2
  obtain ⟨p, hp⟩ : ∃ p, atL L line = p := ⟨_, rfl⟩
  have HP : Hid (atL L line = p) := hp
  have hpc : p = -1 ∨ 0 ≤ p := by
    rcases atL_cases L line with ⟨k, x, _, _, _, e, _⟩ | ⟨e, _⟩
    · exact .inr (by rw [← hp, e]; omega)
    · exact .inl (by rw [← hp, e])
  clear hp
  obtain ⟨n, hn⟩ : ∃ n, inL S L line = n := ⟨_, rfl⟩
  have HN : Hid (inL S L line = n) := hn
  clear hn h'
  rw [HP.out, HN.out]
  go_enter Try.func26, Try.ntmps26
  go_wp2_with fail
  have uc := @Up.cell
  by_cases hl : 0 ≤ line
  · rcases hpc with rfl | hp0
    · refine wp_region_up (by kernel_rfl) (by kernel_rfl) ?_
      repeat (go_big_quiet_step (first | (go_at_call 22; exact Calls.up_of (at_b HP.out (hb _))) | (go_at_call 45; exact Calls.up_of (in_b HN.out hS (hb _)))))
      refine wpQuiet_nil ?_
      rintro _ ⟨u, rfl⟩
      have hB := u.2
      clear uc hb c0 c1 c2 c3 lt
      generalize u.1 = wu at *
      clear u
      go_wp2_with fail
      go_ret
      exact ⟨ret_bool (decide_eq_decide.2 (by omega)), hB⟩
    · have hp1 : ¬ p < 0 := by omega
      have hp2 : ¬ p = -1 := by omega
      refine wp_region_up (by kernel_rfl) (by kernel_rfl) ?_
      repeat (go_big_quiet_step (first | (go_at_call 22; exact Calls.up_of (at_b HP.out (hb _))) | (go_at_call 45; exact Calls.up_of (in_b HN.out hS (hb _)))))
      refine wpQuiet_nil ?_
      rintro _ ⟨u, rfl⟩
      have hB := u.2
      clear uc hb c0 c1 c2 c3 lt
      generalize u.1 = wu at *
      clear u
      go_wp2_with fail
      go_ret
      exact ⟨ret_bool (by rfl), hB⟩
  · refine wp_region_up (by kernel_rfl) (by kernel_rfl) ?_
    repeat (go_big_quiet_step (fail))
    refine wpQuiet_nil ?_
    rintro _ ⟨u, rfl⟩
    have hB := u.2
    clear uc hb c0 c1 c2 c3 lt
    generalize u.1 = wu at *
    clear u
    go_wp2_with fail
    go_ret
    exact ⟨ret_bool (by rw [decide_eq_false (p := 0 ≤ line) (by omega)]; rfl), hB⟩
/-- The clock goes on, and an element's Used with it. -/
theorem used {w : World} {g : Nat} {M D : Nat → Prop} {S W k : Int} {L : List En} {R : List (En × Value)} {b o cap : Nat} (h : CaI w g M D S W k L R (some ⟨b, o, none⟩) cap) {i : Nat} {x : En} {d : Value} (hi : i < L.length) (hr : R[i]? = some (x, d)) (u : Int) :
    CaI ((w.setCell ⟨g, 2, none⟩ (.int .i64 u)).setCell ⟨b, o + i * 6 + 3, none⟩ (.int .i64 u)) g M D S W u (L.set i { x with u := u }) (R.set i ({ x with u := u }, d)) (some ⟨b, o, none⟩) cap ∧
    Keep M w ((w.setCell ⟨g, 2, none⟩ (.int .i64 u)).setCell ⟨b, o + i * 6 + 3, none⟩ (.int .i64 u)) := by
  obtain ⟨_, _, b', o', _, _, _, e, hmb, hb, _⟩ := h.row.get hi
  simp at e
  obtain ⟨rfl, rfl⟩ := e
  have hbg : b ≠ g := hmb.2
  have row := (h.row.keep (Keep.one w g 2 (.int .i64 u)) (fun k hk e => hk.elim (fun h => h.2 e) (fun hd => h.ng (e ▸ hd)))).setU hi hr u
  have far : ∀ j, ((w.setCell ⟨g, 2, none⟩ (.int .i64 u)).setCell ⟨b, o + i * 6 + 3, none⟩ (.int .i64 u)).cell? ⟨g, j, none⟩ = (w.setCell ⟨g, 2, none⟩ (.int .i64 u)).cell? ⟨g, j, none⟩ := fun j => cell_far _ _ (fun e => hbg e.symm)
  have near : ∀ j, j ≠ 2 → (w.setCell ⟨g, 2, none⟩ (.int .i64 u)).cell? ⟨g, j, none⟩ = w.cell? ⟨g, j, none⟩ := fun j hj => World.cell?_setCell_other _ _ _ _ (by simp <;> omega)
  have kk : Keep M w ((w.setCell ⟨g, 2, none⟩ (.int .i64 u)).setCell ⟨b, o + i * 6 + 3, none⟩ (.int .i64 u)) := ((Keep.refl M w).setCell (p := ⟨g, 2, none⟩) (.inl h.mg) _).setCell (p := ⟨b, o + i * 6 + 3, none⟩) (.inl hmb.1) _
  refine ⟨⟨by rw [far, near 0 (by omega)]; exact h.c0, by rw [far, near 1 (by omega)]; exact h.c1, by rw [far]; exact World.cell?_setCell_same' _ _ _ (by rw [h.c2]; rfl), by rw [far, near 3 (by omega), List.length_set]; exact h.c3,
    fun o => by rw [World.frozen?_setCell, World.frozen?_setCell]; exact h.fz o, by simpa using h.lt, h.mg, by rw [List.length_set]; exact row, fun k hk => by simpa using h.old k hk, h.ng⟩, kk⟩
set_option maxHeartbeats 400000 in
theorem touch_no {w : World} {g : Nat} {M D : Nat → Prop} {S W k : Int} {L : List En} (h : Ca w g M D S W k L) {line : Int} (hp : atL L line = -1) :
    Calls Try.prog 20 #[.pointer (some ⟨g, 0, none⟩), .int .i64 line] w fun e w' => e = .returned (.bool false) ∧ Below w.heap.size w w' := by
  go_enter Try.func20, Try.ntmps20
  go_wp2_with (go_at_call 22; refine (at_b hp h).mono ?_; rintro e w1 ⟨rfl, hb1⟩)
  go_ret
  exact ⟨rfl, hb1⟩
set_option maxHeartbeats 400000 in
theorem touch_ok {w : World} {g : Nat} {M D : Nat → Prop} {S W k : Int} {L : List En} (h : Ca w g M D S W k L) {line : Int} {i : Nat} {x : En} (hp : atL L line = i) (hx : L[i]? = some x) (hk : 0 ≤ k ∧ k < 1000000000000) :
    Calls Try.prog 20 #[.pointer (some ⟨g, 0, none⟩), .int .i64 line] w fun e w' => e = .returned (.bool true) ∧ Ca w' g M D S W (k + 1) (L.set i { x with u := k + 1 }) ∧ Keep M w w' := by
  have h0 := h
  obtain ⟨R, a, cap, h⟩ := h
  have h1 := h
  obtain ⟨c0, c1, c2, c3, fz, lt, mg, row, old, ng⟩ := h
  obtain ⟨n, hn⟩ : ∃ n, L.length = n := ⟨_, rfl⟩
  have hin : i < n := by rw [← hn]; exact (List.getElem?_eq_some_iff.1 hx).1
  rw [hn] at c3 row
  obtain ⟨x', d, b, o, hx', hr, hd, rfl, hmb, hb, ⟨x0, x1, x2, x3, x4, x5⟩, xf⟩ := row.get hin
  obtain rfl : x' = x := Option.some.inj (hx'.symm.trans hx)
  have hle := row.row.le
  have hmx := row.row.max
  unfold maxLen at hmx
  have hbg : b ≠ g := hmb.2
  have xf3 := xf 3 (by omega)
  have g2 := fz 2
  have hki : ¬ (i : Int) < 0 := by omega
  have HX : Hid (L[i]? = some x') := hx
  have HP : Hid (atL L line = i) := hp
  clear x0 x1 x2 x4 x5 xf hx hx' hp
  go_enter Try.func20, Try.ntmps20
  go_wp2_with (go_at_call 22; refine (at_any h0 line).mono ?_; rintro e w1 ⟨rfl, rfl⟩; rw [HP.out])
  have e3 : (w.setCell ⟨g, 2, none⟩ (.int .i64 (k + 1))).cell? ⟨g, 3, none⟩ = some (.slice (some ⟨b, o, none⟩) n cap) := by rw [World.cell?_setCell_other _ _ _ _ (by simp)]; exact c3
  have e2 : (w.setCell ⟨g, 2, none⟩ (.int .i64 (k + 1))).cell? ⟨g, 2, none⟩ = some (.int .i64 (k + 1)) := World.cell?_setCell_same' _ _ _ (by rw [c2]; rfl)
  have eb : (w.setCell ⟨g, 2, none⟩ (.int .i64 (k + 1))).cell? ⟨b, o + i * 6 + 3, none⟩ = some (.int .i64 x'.u) := by rw [cell_far _ _ hbg]; exact x3
  have ef : (w.setCell ⟨g, 2, none⟩ (.int .i64 (k + 1))).frozen? ⟨b, o + i * 6 + 3, none⟩ = false := by rw [World.frozen?_setCell]; exact xf3
  obtain ⟨W1, hW1⟩ : ∃ W1, w.setCell ⟨g, 2, none⟩ (.int .i64 (k + 1)) = W1 := ⟨_, rfl⟩
  have HW : Hid (w.setCell ⟨g, 2, none⟩ (.int .i64 (k + 1)) = W1) := hW1
  rw [hW1] at e3 e2 eb ef
  refine wp_world hW1 ?_
  clear hW1
  refine wp_region_orders 12 rfl (by kernel_rfl) ?_
  refine any_inv (fun V => V = W1.drew) [11] rfl ?_
  refine inv_take (v := ?v1) [11] 0 rfl rfl (by kernel_rfl) (by kernel_rfl) (by kernel_rfl) (by kernel_rfl) (by kernel_rfl) (fun _ _ _ h => h) (by kernel_rfl) (fun V hV => ?hy1) ?go1
  case hy1 => (subst hV; go_simp <;> rfl)
  simp only [Act.put, List.setIfInBounds_toArray, List.set_cons_zero, List.set_cons_succ]
  refine inv_take (v := ?v2) [11] 1 rfl rfl (by kernel_rfl) (by kernel_rfl) (by kernel_rfl) (by kernel_rfl) (by kernel_rfl) (fun _ _ _ h => h) (by kernel_rfl) (fun V hV => ?hy2) ?go2
  case hy2 => (subst hV; go_simp <;> rfl)
  simp only [Act.put, List.setIfInBounds_toArray, List.set_cons_zero, List.set_cons_succ]
  refine inv_take (v := ?v3) [11] 2 rfl rfl (by kernel_rfl) (by kernel_rfl) (by kernel_rfl) (by kernel_rfl) (by kernel_rfl) (fun _ _ _ h => h) (by kernel_rfl) (fun V hV => ?hy3) ?go3
  case hy3 => (subst hV; go_simp <;> rfl)
  simp only [Act.put, List.setIfInBounds_toArray, List.set_cons_zero, List.set_cons_succ]
  refine inv_take (v := ?v4) [11] 3 rfl rfl (by kernel_rfl) (by kernel_rfl) (by kernel_rfl) (by kernel_rfl) (by kernel_rfl) (fun _ _ _ h => h) (by kernel_rfl) (fun V hV => ?hy4) ?go4
  case hy4 => (subst hV; go_simp <;> rfl)
  simp only [Act.put, List.setIfInBounds_toArray, List.set_cons_zero, List.set_cons_succ]
  refine inv_take (v := ?v5) [11] 4 rfl rfl (by kernel_rfl) (by kernel_rfl) (by kernel_rfl) (by kernel_rfl) (by kernel_rfl) (fun _ _ _ h => h) (by kernel_rfl) (fun V hV => ?hy5) ?go5
  case hy5 => (subst hV; go_simp <;> rfl)
  simp only [Act.put, List.setIfInBounds_toArray, List.set_cons_zero, List.set_cons_succ]
  refine inv_take (v := ?v6) [11] 5 rfl rfl (by kernel_rfl) (by kernel_rfl) (by kernel_rfl) (by kernel_rfl) (by kernel_rfl) (fun _ _ _ h => h) (by kernel_rfl) (fun V hV => ?hy6) ?go6
  case hy6 => (subst hV; go_simp <;> rfl)
  simp only [Act.put, List.setIfInBounds_toArray, List.set_cons_zero, List.set_cons_succ]
  refine inv_take (v := ?v7) [11] 6 rfl rfl (by kernel_rfl) (by kernel_rfl) (by kernel_rfl) (by kernel_rfl) (by kernel_rfl) (fun _ _ _ h => h) (by kernel_rfl) (fun V hV => ?hy7) ?go7
  case hy7 => (subst hV; go_simp <;> rfl)
  simp only [Act.put, List.setIfInBounds_toArray, List.set_cons_zero, List.set_cons_succ]
  refine inv_take (v := ?v8) [11] 7 rfl rfl (by kernel_rfl) (by kernel_rfl) (by kernel_rfl) (by kernel_rfl) (by kernel_rfl) (fun _ _ _ h => h) (by kernel_rfl) (fun V hV => ?hy8) ?go8
  case hy8 => (subst hV; go_simp <;> rfl)
  simp only [Act.put, List.setIfInBounds_toArray, List.set_cons_zero, List.set_cons_succ]
  refine inv_take (v := ?v9) [11] 8 rfl rfl (by kernel_rfl) (by kernel_rfl) (by kernel_rfl) (by kernel_rfl) (by kernel_rfl) (fun _ _ _ h => h) (by kernel_rfl) (fun V hV => ?hy9) ?go9
  case hy9 => (subst hV; go_simp <;> rfl)
  simp only [Act.put, List.setIfInBounds_toArray, List.set_cons_zero, List.set_cons_succ]
  refine inv_take (v := ?v10) [10, 11] 9 rfl rfl (by kernel_rfl) (by kernel_rfl) (by kernel_rfl) (by kernel_rfl) (by kernel_rfl) (fun _ _ _ h => h) (by kernel_rfl) (fun V hV => ?hy10) ?go10
  case hy10 => (subst hV; go_simp <;> rfl)
  simp only [Act.put, List.setIfInBounds_toArray, List.set_cons_zero, List.set_cons_succ]
  refine inv_take (v := ?v11) [11] 10 rfl rfl (by kernel_rfl) (by kernel_rfl) (by kernel_rfl) (by kernel_rfl) (by kernel_rfl) (fun _ _ _ h => h) (by kernel_rfl) (fun V hV => ?hy11) ?go11
  case hy11 => (subst hV; go_simp <;> rfl)
  simp only [Act.put, List.setIfInBounds_toArray, List.set_cons_zero, List.set_cons_succ]
  refine inv_write 11 (by kernel_rfl) (by kernel_rfl) rfl ?_
  go_wp2
  refine then_n ?_
  refine any_done (by kernel_rfl) ?_
  go_wp2
  go_ret
  obtain ⟨hca, hkk⟩ := used h1 (by rw [hn]; exact hin) hr (k + 1)
  have hd0 : ∀ V : World, Below V.heap.size V V.drew := fun V => (Below.refl _ _).drew
  rw [← HW.out]
  exact ⟨rfl, ⟨_, _, _, hca.below (hd0 _)⟩, hkk.next (hd0 _)⟩
end CR
end Go.Proofs.Ytfobgkkmbacfjaa
