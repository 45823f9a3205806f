/- The document's turns: Release. Conditions: as each theorem states them. -/
import Derived.Test.YtgeiagndpfdnlaaTuD2
import Derived.Test.YtgeiagndpfdnlaaTake8
namespace Go.Proofs.Ytgeiagndpfdnlaa
open Go.RowKit
set_option linter.unusedVariables false
set_option maxRecDepth 20000
theorem flat_erase2 {α : Type} {c : α → List Value} {k : Nat} (hc : ∀ x, (c x).length = k) {R : List α} {i : Nat} : [] ++ (flat c R).take (i * k) ++ (flat c R).drop ((i + 1) * k) = flat c (R.eraseIdx i) := by
  rw [List.nil_append, flat_take hc, flat_drop hc, ← flat_append, List.eraseIdx_eq_take_drop_succ]
section
variable {w w8 : World} {g t0 : Nat} {M N M' : Nat → Prop} {o o' : List (Int × Int)} {q q' : List Wr} {ao aq a' : Option Addr} {no co nq cq n' c' : Nat}
/-- The owners are others, in new memory. -/
theorem DT.newO (h : DT w g t0 M N o q ao no co aq nq cq) (hb : Below w.heap.size w w8) (hr : Rw w8 M' a' n' c' 2 (flat dcells o')) (hM : ∀ j, M' j → w.heap.size ≤ j) (ok' : OkT o') : DT (w8.setCell ⟨g, t0, none⟩ (.slice a' n' c')) g t0 (fun j => M' j ∧ j < w8.heap.size) N o' q a' n' c' aq nq cq := by
  have h8 := h.below hb
  have kk := Keep.one w8 g t0 (.slice a' n' c')
  have hlt := h.lt
  refine ⟨World.cell?_setCell_same' _ _ _ (by rw [h8.c0]; rfl), by rw [World.cell?_setCell_other _ _ _ _ (by simp)]; exact h8.c1, by rw [World.frozen?_setCell]; exact h8.f0, by rw [World.frozen?_setCell]; exact h8.f1, by simpa using h8.lt,
    (hr.imp (fun j hj hm => ⟨hm, hj⟩)).keep kk (fun j hj e => by have := hM j hj.1; omega), h8.rq.keep kk (fun j hj e => h8.no.2 (e ▸ hj)), ⟨fun hj => by have := hM g hj.1; omega, h.no.2⟩, fun j hj hn => by have := hM j hj.1; have := h.old j (.inr hn); omega, fun j hj => ?_, ok'⟩
  rw [show (w8.setCell ⟨g, t0, none⟩ (.slice a' n' c')).heap.size = w8.heap.size by simp]
  rcases hj with hj | hj
  · exact hj.2
  · exact h8.old j (.inr hj)
/-- Those who wait are others, in new memory. -/
theorem DT.newQ (h : DT w g t0 M N o q ao no co aq nq cq) (hb : Below w.heap.size w w8) (hr : Rw w8 M' a' n' c' 3 (flat wcells q')) (hM : ∀ j, M' j → w.heap.size ≤ j) : DT (w8.setCell ⟨g, t0 + 1, none⟩ (.slice a' n' c')) g t0 M (fun j => M' j ∧ j < w8.heap.size) o q' ao no co a' n' c' := by
  have h8 := h.below hb
  have kk := Keep.one w8 g (t0 + 1) (.slice a' n' c')
  have hlt := h.lt
  refine ⟨by rw [World.cell?_setCell_other _ _ _ _ (by simp)]; exact h8.c0, World.cell?_setCell_same' _ _ _ (by rw [h8.c1]; rfl), by rw [World.frozen?_setCell]; exact h8.f0, by rw [World.frozen?_setCell]; exact h8.f1, by simpa using h8.lt,
    h8.ro.keep kk (fun j hj e => h8.no.1 (e ▸ hj)), (hr.imp (fun j hj hm => ⟨hm, hj⟩)).keep kk (fun j hj e => by have := hM j hj.1; omega), ⟨h.no.1, fun hj => by have := hM g hj.1; omega⟩, fun j hj hn => by have := hM j hn.1; have := h.old j (.inl hj); omega, fun j hj => ?_, h8.ok⟩
  rw [show (w8.setCell ⟨g, t0 + 1, none⟩ (.slice a' n' c')).heap.size = w8.heap.size by simp]
  rcases hj with hj | hj
  · exact h8.old j (.inl hj)
  · exact hj.2
end
/-- Wider sets of blocks. -/
theorem DT.wide {w : World} {g t0 : Nat} {M N M' N' : Nat → Prop} {o : List (Int × Int)} {q : List Wr} {ao aq : Option Addr} {no co nq cq : Nat} (h : DT w g t0 M N o q ao no co aq nq cq) (hM : ∀ j, M j → M' j) (hN : ∀ j, N j → N' j) (hap : ∀ j, M' j → ¬ N' j) (hg : ¬ M' g ∧ ¬ N' g) (hold : ∀ j, M' j ∨ N' j → j < w.heap.size) : DT w g t0 M' N' o q ao no co aq nq cq :=
  ⟨h.c0, h.c1, h.f0, h.f1, h.lt, h.ro.imp (fun j _ => hM j), h.rq.imp (fun j _ => hN j), hg, hap, hold, h.ok⟩
namespace TR
set_option maxHeartbeats 400000 in
theorem release_no {w : World} {g t0 : Nat} {M N : Nat → Prop} {o : List (Int × Int)} {q : List Wr} {ao aq : Option Addr} {no co nq cq : Nat} (h : DT w g t0 M N o q ao no co aq nq cq) (line who : Int) (hno : ∀ p ∈ o, ¬ (p.1 = line ∧ p.2 = who)) :
    Calls Try.prog 44 #[.pointer (some ⟨g, t0, none⟩), .int .i64 line, .int .i64 who] w fun e w' => e = .returned (.bool false) ∧ Below w.heap.size w w' := by
  have HNO : Hid (∀ p ∈ o, ¬ (p.1 = line ∧ p.2 = who)) := hno
  clear hno
  have c0 := h.c0
  have lt := h.lt
  have row := h.ro
  have HL : Hid (o.length = no) := row.lenF dcells_len (by omega)
  have H : Hid (DT w g t0 M N o q ao no co aq nq cq) := h
  have hle := row.le
  have hmx := row.max
  unfold maxLen at hmx
  clear h
  go_enter Try.func44, Try.ntmps44
  go_wp2_with fail
  go_loopw [14] (fun vi wr => ∃ i : Nat, vi = .int .i64 (i : Int) ∧ i ≤ no ∧ Below w.heap.size w wr) (fun vi _ => no - (intOf vi).toNat)
  case atStart => exact ⟨0, rfl, by omega, Below.refl _ _⟩
  case round =>
    obtain ⟨i, rfl, hi, hB⟩ := hrel
    by_cases hlt : i < no
    · skip
      obtain ⟨x, hx⟩ : ∃ x, o[i]? = some x := ⟨o[i]'(by have := HL.out; omega), List.getElem?_eq_getElem (by have := HL.out; omega)⟩
      obtain ⟨b, o1, rfl, _, hb, hc⟩ := (row.below hB).getF dcells_len hx (by omega)
      have HX : Hid (o[i]? = some x) := hx
      obtain ⟨xl, xw⟩ := x
      have x0 : wr.cell? ⟨b, o1 + i * 2, none⟩ = some (.int .i64 xl) := hc 0 _ (by omega) rfl
      have x1 : wr.cell? ⟨b, o1 + i * 2 + 1, none⟩ = some (.int .i64 xw) := hc 1 _ (by omega) rfl
      have hB2 := hB.trans ((ba (o := .cells #[.int .i64 xl, .int .i64 xw] 87) (Below.refl wr.heap.size wr)).mono hB.size)
      have y0 : (wr.alloc (.cells #[.int .i64 xl, .int .i64 xw] 87)).cell? ⟨wr.heap.size, 0, none⟩ = some (.int .i64 xl) := by simp
      have y1 : (wr.alloc (.cells #[.int .i64 xl, .int .i64 xw] 87)).cell? ⟨wr.heap.size, 1, none⟩ = some (.int .i64 xw) := by simp
      clear hx hc row c0 lt
      go_upto_region 4 with fail
      clear x0 x1 hb hB
      generalize wr.heap.size = ge at *
      generalize wr.alloc _ = w2 at *
      have hn := HNO.out _ (List.mem_of_getElem? HX.out)
      simp only at hn
      by_cases he : xl = line
      · have hew : xw ≠ who := fun e => hn ⟨he, e⟩
        have hb2 : (xw == who) = false := by simpa using hew
        rw [he] at y0
        clear he hn hew
        go_wp2_with fail
        go_roundw
        case rel => exact ⟨i + 1, by go_num, by omega, hB2⟩
        case measure => simp [intOf]; omega
      · have hb2 : (xl == line) = false := by simpa using he
        clear he hn
        go_wp2_with fail
        go_roundw
        case rel => exact ⟨i + 1, by go_num, by omega, hB2⟩
        case measure => simp [intOf]; omega
    · go_wp2_with fail
      go_ret
      exact ⟨rfl, hB⟩
set_option maxHeartbeats 800000 in
theorem release_ok {w : World} {g t0 : Nat} {M N : Nat → Prop} {o : List (Int × Int)} {q : List Wr} {ao aq : Option Addr} {no co nq cq : Nat} (h : DT w g t0 M N o q ao no co aq nq cq) (line who : Int) {k : Nat} (hk : o[k]? = some (line, who)) (hno : ∀ j y, j < k → o[j]? = some y → ¬ (y.1 = line ∧ y.2 = who)) (hn : no ≤ 1000) :
    Calls Try.prog 44 #[.pointer (some ⟨g, t0, none⟩), .int .i64 line, .int .i64 who] w fun e w' => e = .returned (.bool true) ∧ Keep (fun j => j = g) w w' ∧ Rest g t0 w w' ∧ ∃ ao' co', DT w' g t0 (fun j => w.heap.size ≤ j ∧ j < w'.heap.size) N (o.eraseIdx k) q ao' (no - 1) co' aq nq cq := by
  have HNO : Hid (∀ j y, j < k → o[j]? = some y → ¬ (y.1 = line ∧ y.2 = who)) := hno
  have HK : Hid (o[k]? = some (line, who)) := hk
  clear hno
  have c0 := h.c0
  have lt := h.lt
  have row := h.ro
  have HL : Hid (o.length = no) := row.lenF dcells_len (by omega)
  have H : Hid (DT w g t0 M N o q ao no co aq nq cq) := h
  have hle := row.le
  have hmx := row.max
  unfold maxLen at hmx
  clear h
  have hkn : k < no := by rw [← HL.out]; exact (List.getElem?_eq_some_iff.1 hk).1
  clear hk
  go_enter Try.func44, Try.ntmps44
  go_wp2_with fail
  go_loopw [14] (fun vi wr => ∃ i : Nat, vi = .int .i64 (i : Int) ∧ i ≤ k ∧ Below w.heap.size w wr) (fun vi _ => no - (intOf vi).toNat)
  case atStart => exact ⟨0, rfl, by omega, Below.refl _ _⟩
  case round =>
    obtain ⟨i, rfl, hi, hB⟩ := hrel
    obtain ⟨x, hx⟩ : ∃ x, o[i]? = some x := ⟨o[i]'(by have := HL.out; omega), List.getElem?_eq_getElem (by have := HL.out; omega)⟩
    obtain ⟨b, o1, rfl, _, hb, hc⟩ := (row.below hB).getF dcells_len hx (by omega)
    have HX : Hid (o[i]? = some x) := hx
    obtain ⟨xl, xw⟩ := x
    have x0 : wr.cell? ⟨b, o1 + i * 2, none⟩ = some (.int .i64 xl) := hc 0 _ (by omega) rfl
    have x1 : wr.cell? ⟨b, o1 + i * 2 + 1, none⟩ = some (.int .i64 xw) := hc 1 _ (by omega) rfl
    have hB2 := hB.trans ((ba (o := .cells #[.int .i64 xl, .int .i64 xw] 87) (Below.refl wr.heap.size wr)).mono hB.size)
    have y0 : (wr.alloc (.cells #[.int .i64 xl, .int .i64 xw] 87)).cell? ⟨wr.heap.size, 0, none⟩ = some (.int .i64 xl) := by simp
    have y1 : (wr.alloc (.cells #[.int .i64 xl, .int .i64 xw] 87)).cell? ⟨wr.heap.size, 1, none⟩ = some (.int .i64 xw) := by simp
    clear hx hc row c0 lt
    go_upto_region 4 with fail
    clear x0 x1 hb hB
    generalize wr.heap.size = ge at *
    generalize wr.alloc _ = w2 at *
    by_cases hik : i < k
    · have hn := HNO.out i _ hik HX.out
      simp only at hn
      by_cases he : xl = line
      · have hew : xw ≠ who := fun e => hn ⟨he, e⟩
        have hb2 : (xw == who) = false := by simpa using hew
        rw [he] at y0
        clear he hn hew
        go_wp2_with fail
        go_roundw
        case rel => exact ⟨i + 1, by go_num, by omega, hB2⟩
        case measure => simp [intOf]; omega
      · have hb2 : (xl == line) = false := by simpa using he
        clear he hn
        go_wp2_with fail
        go_roundw
        case rel => exact ⟨i + 1, by go_num, by omega, hB2⟩
        case measure => simp [intOf]; omega
    · obtain rfl : i = k := by omega
      have hxe := HK.out
      rw [HX.out] at hxe
      injection hxe with hxe
      injection hxe with e1 e2
      subst e1 e2
      have hin : i < no := hkn
      go_upto_region 5 with fail
      refine wp_region_orders 19 rfl (by kernel_rfl) ?_
      have hBd : Below w2.heap.size w2 w2.drew := (Below.refl _ _).drew
      have hBV : Below w.heap.size w w2.drew := next hB2 hBd
      have D := H.out.below hBV
      clear hB2 hBd y0 y1
      generalize w2.drew = V0 at *
      have hI : (fun V : World => V.cell? ⟨g, t0, none⟩ = some (.slice (some ⟨b, o1, none⟩) no co) ∧ V.frozen? ⟨g, t0, none⟩ = false) V0 := ⟨D.c0, D.f0⟩
      obtain ⟨A, hA⟩ : ∃ A : Addr, (if co = i + 1 then some (⟨b, o1, none⟩ : Addr) else some ⟨b, o1 + (i + 1) * 2, none⟩) = some A := by
        by_cases e : co = i + 1
        · exact ⟨_, if_pos e⟩
        · exact ⟨_, if_neg e⟩
      have hle0 := D.ro.le
      have hmx0 := D.ro.max
      unfold maxLen at hmx0
      have hic : i ≤ co := by omega
      have hjc : i + 1 ≤ co := by omega
      have hwr : IntKind.i64.wrap ((i : Int) + 1) = (i : Int) + 1 := (IntWalk.i64_left _).trans (IntWalk.wrap64_in _ (by omega))
      have hi1 : 0 ≤ (i : Int) ∧ (i : Int) ≤ no ∧ 0 ≤ (i : Int) + 1 ∧ (i : Int) + 1 ≤ no := by omega
      refine any_inv (fun V : World => V.cell? ⟨g, t0, none⟩ = some (.slice (some ⟨b, o1, none⟩) no co) ∧ V.frozen? ⟨g, t0, none⟩ = false) [18] hI ?_
      refine inv_take (v := ?v1) [16, 17, 18] 0 hI rfl (by kernel_rfl) (by kernel_rfl) (by kernel_rfl) (by kernel_rfl) (by kernel_rfl) (fun _ _ _ h => h) (by kernel_rfl) (fun V hV => ?hy1) ?go1
      case hy1 => (obtain ⟨i1, i2⟩ := hV; go_simp <;> rfl)
      simp only [Act.put, List.setIfInBounds_toArray, List.set_cons_zero, List.set_cons_succ]
      refine inv_take (v := ?v2) [2, 3, 4, 6, 7, 15, 16, 17, 18] 1 hI rfl (by kernel_rfl) (by kernel_rfl) (by kernel_rfl) (by kernel_rfl) (by kernel_rfl) (fun _ _ _ h => h) (by kernel_rfl) (fun V hV => ?hy2) ?go2
      case hy2 => (obtain ⟨i1, i2⟩ := hV; go_simp <;> rfl)
      simp only [Act.put, List.setIfInBounds_toArray, List.set_cons_zero, List.set_cons_succ]
      refine inv_take (v := ?v3) [3, 4, 6, 7, 15, 16, 17, 18] 2 hI rfl (by kernel_rfl) (by kernel_rfl) (by kernel_rfl) (by kernel_rfl) (by kernel_rfl) (fun _ _ _ h => h) (by kernel_rfl) (fun V hV => ?hy3) ?go3
      case hy3 => (obtain ⟨i1, i2⟩ := hV; go_simp <;> rfl)
      simp only [Act.put, List.setIfInBounds_toArray, List.set_cons_zero, List.set_cons_succ]
      refine inv_take (v := ?v4) [4, 6, 7, 15, 16, 17, 18] 3 hI rfl (by kernel_rfl) (by kernel_rfl) (by kernel_rfl) (by kernel_rfl) (by kernel_rfl) (fun _ _ _ h => h) (by kernel_rfl) (fun V hV => ?hy4) ?go4
      case hy4 => (obtain ⟨i1, i2⟩ := hV; go_simp <;> rfl)
      simp only [Act.put, List.setIfInBounds_toArray, List.set_cons_zero, List.set_cons_succ]
      refine inv_take (v := ?v5) [6, 7, 15, 16, 17, 18] 4 hI rfl (by kernel_rfl) (by kernel_rfl) (by kernel_rfl) (by kernel_rfl) (by kernel_rfl) (fun _ _ _ h => h) (by kernel_rfl) (fun V hV => ?hy5) ?go5
      case hy5 => (obtain ⟨i1, i2⟩ := hV; go_simp <;> rfl)
      simp only [Act.put, List.setIfInBounds_toArray, List.set_cons_zero, List.set_cons_succ]
      refine inv_take (v := ?v6) [6, 7, 15, 16, 17, 18] 5 hI rfl (by kernel_rfl) (by kernel_rfl) (by kernel_rfl) (by kernel_rfl) (by kernel_rfl) (fun _ _ _ h => h) (by kernel_rfl) (fun V hV => ?hy6) ?go6
      case hy6 => (obtain ⟨i1, i2⟩ := hV; go_simp <;> rfl)
      simp only [Act.put, List.setIfInBounds_toArray, List.set_cons_zero, List.set_cons_succ]
      refine inv_take (v := ?v7) [7, 15, 16, 17, 18] 6 hI rfl (by kernel_rfl) (by kernel_rfl) (by kernel_rfl) (by kernel_rfl) (by kernel_rfl) (fun _ _ _ h => h) (by kernel_rfl) (fun V hV => ?hy7) ?go7
      case hy7 => (obtain ⟨i1, i2⟩ := hV; go_simp <;> rfl)
      simp only [Act.put, List.setIfInBounds_toArray, List.set_cons_zero, List.set_cons_succ]
      refine inv_take (v := ?v8) [9, 10, 11, 14, 15, 16, 17, 18] 8 hI rfl (by kernel_rfl) (by kernel_rfl) (by kernel_rfl) (by kernel_rfl) (by kernel_rfl) (fun _ _ _ h => h) (by kernel_rfl) (fun V hV => ?hy8) ?go8
      case hy8 => (obtain ⟨i1, i2⟩ := hV; go_simp <;> rfl)
      simp only [Act.put, List.setIfInBounds_toArray, List.set_cons_zero, List.set_cons_succ]
      refine inv_take (v := ?v9) [10, 11, 14, 15, 16, 17, 18] 9 hI rfl (by kernel_rfl) (by kernel_rfl) (by kernel_rfl) (by kernel_rfl) (by kernel_rfl) (fun _ _ _ h => h) (by kernel_rfl) (fun V hV => ?hy9) ?go9
      case hy9 => (obtain ⟨i1, i2⟩ := hV; go_simp <;> rfl)
      simp only [Act.put, List.setIfInBounds_toArray, List.set_cons_zero, List.set_cons_succ]
      refine inv_take (v := ?v10) [11, 14, 15, 16, 17, 18] 10 hI rfl (by kernel_rfl) (by kernel_rfl) (by kernel_rfl) (by kernel_rfl) (by kernel_rfl) (fun _ _ _ h => h) (by kernel_rfl) (fun V hV => ?hy10) ?go10
      case hy10 => (obtain ⟨i1, i2⟩ := hV; go_simp <;> rfl)
      simp only [Act.put, List.setIfInBounds_toArray, List.set_cons_zero, List.set_cons_succ]
      refine inv_take (v := ?v11) [14, 15, 16, 17, 18] 11 hI rfl (by kernel_rfl) (by kernel_rfl) (by kernel_rfl) (by kernel_rfl) (by kernel_rfl) (fun _ _ _ h => h) (by kernel_rfl) (fun V hV => ?hy11) ?go11
      case hy11 => (obtain ⟨i1, i2⟩ := hV; go_simp <;> rfl)
      simp only [Act.put, List.setIfInBounds_toArray, List.set_cons_zero, List.set_cons_succ]
      refine inv_take (v := ?v12) [13, 14, 15, 16, 17, 18] 12 hI rfl (by kernel_rfl) (by kernel_rfl) (by kernel_rfl) (by kernel_rfl) (by kernel_rfl) (fun _ _ _ h => h) (by kernel_rfl) (fun V hV => ?hy12) ?go12
      case hy12 => (obtain ⟨i1, i2⟩ := hV; go_simp <;> rfl)
      simp only [Act.put, List.setIfInBounds_toArray, List.set_cons_zero, List.set_cons_succ]
      refine inv_take (v := ?v13) [14, 15, 16, 17, 18] 13 hI rfl (by kernel_rfl) (by kernel_rfl) (by kernel_rfl) (by kernel_rfl) (by kernel_rfl) (fun _ _ _ h => h) (by kernel_rfl) (fun V hV => ?hy13) ?go13
      case hy13 => (obtain ⟨i1, i2⟩ := hV; go_simp <;> rfl)
      simp only [Act.put, List.setIfInBounds_toArray, List.set_cons_zero, List.set_cons_succ]
      refine inv_take (v := ?v14) [15, 16, 17, 18] 14 hI rfl (by kernel_rfl) (by kernel_rfl) (by kernel_rfl) (by kernel_rfl) (by kernel_rfl) (fun _ _ _ h => h) (by kernel_rfl) (fun V hV => ?hy14) ?go14
      case hy14 => (obtain ⟨i1, i2⟩ := hV; go_simp <;> rfl)
      simp only [Act.put, List.setIfInBounds_toArray, List.set_cons_zero, List.set_cons_succ]
      obtain ⟨f0, hfi, hp0, hp1, hp2⟩ := info_parts Try.infoP2
      have HA : Hid (∀ V, SlV V (some ⟨b, o1, none⟩) no co 2 (flat dcells o) → SlV V (some A) (no - (i + 1)) (co - (i + 1)) 2 ((flat dcells o).drop ((i + 1) * 2))) := by
        intro V hV
        exact hV.rear (by omega) hA
      clear hA
      refine inv_list 7 (by kernel_rfl) rfl ?_
      refine wpList_append_slv V0 (fun _ => False) (by kernel_rfl) (.const (.slice none 0 0)) (.tmp 35) 55 rfl 87 f0 _ 2 16 Try.underlying55 hfi hp0 hp1 hp2 rfl (by decide) none 0 0 [] rfl (rw_nil _ _ _) (some ⟨b, o1, none⟩) i co ((flat dcells o).take (i * 2)) rfl (D.ro.slv.front (by omega)) (fun u hu => dcells_one _ u (List.mem_of_mem_take hu)) (by unfold maxLen; omega) (by omega) ?_
      intro a7 c7 w7 hrw7 hk7
      have hb7 : Below V0.heap.size V0 w7 := hk7.below (fun _ h => h.elim) (Nat.le_refl _)
      have hI7 : (fun V : World => V.cell? ⟨g, t0, none⟩ = some (.slice (some ⟨b, o1, none⟩) no co) ∧ V.frozen? ⟨g, t0, none⟩ = false) w7 := ⟨(hb7.cell (p := ⟨g, t0, none⟩) D.lt).trans hI.1, (hb7.frozen (p := ⟨g, t0, none⟩) D.lt).trans hI.2⟩
      refine then_n ⟨hI7, ?_⟩
      simp only [Act.put, List.setIfInBounds_toArray, List.set_cons_zero, List.set_cons_succ]
      refine inv_list 15 (by kernel_rfl) rfl ?_
      refine wpList_append_slv w7 (fun k => False ∨ V0.heap.size ≤ k) (by kernel_rfl) (.tmp 36) (.tmp 43) 55 rfl 87 f0 _ 2 16 Try.underlying55 hfi hp0 hp1 hp2 rfl (by decide) a7 (0 + i) c7 ([] ++ (flat dcells o).take (i * 2)) rfl hrw7 _ (no - (i + 1)) (co - (i + 1)) ((flat dcells o).drop ((i + 1) * 2)) rfl (HA.out _ (D.below hb7).ro.slv) (fun u hu => dcells_one _ u (List.mem_of_mem_drop hu)) (by unfold maxLen; omega) (by omega) ?_
      intro a8 c8 w8 hrw8 hk8
      have em : 0 + i + (no - (i + 1)) = no - 1 := by omega
      rw [em] at hrw8
      rw [em]
      rw [flat_erase2 dcells_len] at hrw8
      have hb8 : Below V0.heap.size V0 w8 := hb7.trans (hk8.below (fun k h => h.elim (fun h => h.elim) id) hb7.size)
      have hI8 : (fun V : World => V.cell? ⟨g, t0, none⟩ = some (.slice (some ⟨b, o1, none⟩) no co) ∧ V.frozen? ⟨g, t0, none⟩ = false) w8 := ⟨(hb8.cell (p := ⟨g, t0, none⟩) D.lt).trans hI.1, (hb8.frozen (p := ⟨g, t0, none⟩) D.lt).trans hI.2⟩
      refine then_n ⟨hI8, ?_⟩
      simp only [Act.put, List.setIfInBounds_toArray, List.set_cons_zero, List.set_cons_succ]
      refine inv_take (v := ?v15) [17, 18] 16 hI8 rfl (by kernel_rfl) (by kernel_rfl) (by kernel_rfl) (by kernel_rfl) (by kernel_rfl) (fun _ _ _ h => h) (by kernel_rfl) (fun V hV => ?hy15) ?go15
      case hy15 => (obtain ⟨i1, i2⟩ := hV; go_simp <;> rfl)
      simp only [Act.put, List.setIfInBounds_toArray, List.set_cons_zero, List.set_cons_succ]
      refine inv_take (v := ?v16) [18] 17 hI8 rfl (by kernel_rfl) (by kernel_rfl) (by kernel_rfl) (by kernel_rfl) (by kernel_rfl) (fun _ _ _ h => h) (by kernel_rfl) (fun V hV => ?hy16) ?go16
      case hy16 => (obtain ⟨i1, i2⟩ := hV; go_simp <;> rfl)
      simp only [Act.put, List.setIfInBounds_toArray, List.set_cons_zero, List.set_cons_succ]
      have row8 : Rw w8 (fun k => V0.heap.size ≤ k) a8 (no - 1) c8 2 (flat dcells (o.eraseIdx i)) := hrw8.imp (fun j _ h => by
        rcases h with (h | h) | h
        · exact h.elim
        · exact h
        · exact Nat.le_trans hb7.size h)
      obtain ⟨i1, i2⟩ := hI8
      have D9 := D.newO hb8 row8 (fun j hj => hj) (ok_erase D.ok i)
      have hgs := D.lt
      clear hI7 hI hrw7 hrw8 hk7 hk8 hb7 HA hwr hi1 hic hjc hfi hp0 hp1 hp2 row8
      refine inv_write 18 (by kernel_rfl) (by kernel_rfl) rfl ?_
      go_wp2
      refine then_n ?_
      refine any_done (by kernel_rfl) ?_
      go_wp2_with fail
      go_ret
      have hz8 := hb8.size
      have hzV := hBV.size
      refine ⟨rfl, (Keep.of_below (F := fun j => j = g) (next hBV hb8)).setCell (p := ⟨g, t0, none⟩) (.inl rfl) _, (Rest.below (next hBV hb8) H.out.lt).trans (Rest.set (.inl rfl) _), a8, c8, ?_⟩
      rw [show (w8.setCell ⟨g, t0, none⟩ (.slice a8 (no - 1) c8)).heap.size = w8.heap.size by simp]
      exact D9.wide (fun j hj => ⟨by omega, hj.2⟩) (fun j hj => hj) (fun j h1 h2 => by have := H.out.old j (.inr h2); omega) ⟨by have := H.out.lt; omega, H.out.no.2⟩ (fun j hj => by rcases hj with hj | hj; (simp; exact hj.2); (have := D9.old j (.inr hj); exact this))
end TR
end Go.Proofs.Ytgeiagndpfdnlaa
