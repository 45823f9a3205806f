/- The document's turns: Next. Conditions: as each theorem states them. -/
import Derived.Test.YtgeiagndpfdnlaaTuD3
import Derived.Test.YtgeiagndpfdnlaaTake8
namespace Go.Proofs.Ytgeiagndpfdnlaa
open Go.RowKit
set_option linter.unusedVariables false
set_option maxRecDepth 20000
/-- One more owner, behind the others: in place, or in new memory. -/
theorem DT.snocO {w w5 : World} {g t0 : Nat} {M N : Nat → Prop} {o : List (Int × Int)} {q : List Wr} {ao aq a5 : Option Addr} {no co nq cq k5 : Nat} {line who : Int} (h3 : DT w g t0 M N o q ao no co aq nq cq) (kk5 : Keep M w w5) (r5 : Rw w5 (fun j => M j ∨ w.heap.size ≤ j) a5 (no + 1) k5 2 (flat dcells (o ++ [(line, who)]))) (ho : ownT o line = -1) (hw : 0 ≤ who) :
    DT (w5.setCell ⟨g, t0, none⟩ (.slice a5 (no + 1) k5)) g t0 (fun k => M k ∨ (w.heap.size ≤ k ∧ k < w5.heap.size)) N (o ++ [(line, who)]) q a5 (no + 1) k5 aq nq cq := by
  have h5 := (kk5.cell (b := g) t0 h3.lt h3.no.1).trans h3.c0
  have f5 := (kk5.frozen (b := g) t0 h3.lt h3.no.1).trans h3.f0
  have lt5 := Nat.lt_of_lt_of_le h3.lt kk5.size
  have kg := Keep.one w5 g t0 (.slice a5 (no + 1) k5)
  have c1 := (kk5.cell (b := g) (t0 + 1) h3.lt h3.no.1).trans h3.c1
  have f1 := (kk5.frozen (b := g) (t0 + 1) h3.lt h3.no.1).trans h3.f1
  have hlt := h3.lt
  refine ⟨World.cell?_setCell_same' _ _ _ (by rw [h5]; rfl), ?_, by rw [World.frozen?_setCell]; exact f5, by rw [World.frozen?_setCell]; exact f1, by simpa using lt5, ?_, ?_, ⟨fun e => ?_, h3.no.2⟩, fun k hm hN => ?_, fun k hm => ?_, ok_snoc h3.ok ho hw⟩
  · rw [World.cell?_setCell_other _ _ _ _ (by simp)]; exact c1
  · exact (r5.keep kg (fun k hm e => by subst e; rcases hm with hm | hm; exact h3.no.1 hm; exact absurd h3.lt (by omega))).imp (fun k hk hm => hm.imp (fun x => x) (fun hm => ⟨hm, by simpa using hk⟩))
  · exact (h3.rq.keep kk5 (fun k hN hm => h3.ap k hm hN)).keep kg (fun k hN e => h3.no.2 (by rw [← e]; exact hN))
  · rcases e with e | e
    · exact h3.no.1 e
    · omega
  · rcases hm with hm | hm
    · exact h3.ap k hm hN
    · have := h3.old k (.inr hN); omega
  · rw [show (w5.setCell ⟨g, t0, none⟩ (.slice a5 (no + 1) k5)).heap.size = w5.heap.size by simp]
    rcases hm with (hm | hm) | hN
    · exact Nat.lt_of_lt_of_le (h3.old k (.inl hm)) kk5.size
    · exact hm.2
    · exact Nat.lt_of_lt_of_le (h3.old k (.inr hN)) kk5.size
namespace TR
theorem next_no1 {w : World} {g t0 : Nat} {M N : Nat → Prop} {o : List (Int × Int)} {q : List Wr} {ao aq : Option Addr} {no co nq cq : Nat} (h : DT w g t0 M N o q ao no co aq nq cq) (line : Int) (ho : ownT o line ≠ -1) :
    Calls Try.prog 37 #[.pointer (some ⟨g, t0, none⟩), .int .i64 line] w fun e w' => e = .returned (.tuple #[.int .i64 0, .int .i64 0, .bool false]) ∧ Below w.heap.size w w' := by
  obtain ⟨v, hv⟩ : ∃ v, ownT o line = v := ⟨_, rfl⟩
  have HV : Hid (ownT o line = v) := hv
  have hb : (v != -1) = true := by rw [← hv]; simp [ho]
  clear hv ho
  go_enter Try.func37, Try.ntmps37
  go_wp2_with (go_at_call 20; refine (owner_any h line).mono ?_; rintro e w1 ⟨rfl, b1⟩; rw [HV.out])
  exact bodyPost_ret (v := .tuple #[.int .i64 0, .int .i64 0, .bool false]) (by simp [results, Try.results37, go_sem]) rfl ⟨rfl, b1⟩
set_option maxHeartbeats 400000 in
theorem next_no2 {w : World} {g t0 : Nat} {M N : Nat → Prop} {o : List (Int × Int)} {q : List Wr} {ao aq : Option Addr} {no co nq cq : Nat} (h : DT w g t0 M N o q ao no co aq nq cq) (line : Int) (ho : ownT o line = -1) (hno : ∀ y ∈ q, y.l ≠ line) :
    Calls Try.prog 37 #[.pointer (some ⟨g, t0, none⟩), .int .i64 line] w fun e w' => e = .returned (.tuple #[.int .i64 0, .int .i64 0, .bool false]) ∧ Below w.heap.size w w' := by
  have HNO : Hid (∀ y ∈ q, y.l ≠ line) := hno
  clear hno
  have row := h.rq
  have HL : Hid (q.length = nq) := row.lenF wcells_len (by omega)
  have H : Hid (DT w g t0 M N o q ao no co aq nq cq) := h
  have HO : Hid (ownT o line = -1) := ho
  have hle := row.le
  have hmx := row.max
  unfold maxLen at hmx
  clear ho h
  go_enter Try.func37, Try.ntmps37
  go_upto_region 3 with (go_at_call 20; refine (owner_any H.out line).mono ?_; rintro e w1 ⟨rfl, b1⟩; rw [HO.out])
  have h1 := H.out.below b1
  have c1 := h1.c1
  have lt := h1.lt
  go_wp2_with fail
  clear c1 lt h1
  go_loopw [18] (fun vi wr => ∃ i : Nat, vi = .int .i64 (i : Int) ∧ i ≤ nq ∧ Below w.heap.size w wr) (fun vi _ => nq - (intOf vi).toNat)
  case atStart => exact ⟨0, rfl, by omega, b1⟩
  case round =>
    clear b1
    clear w1
    obtain ⟨i, rfl, hi, hB⟩ := hrel
    by_cases hlt : i < nq
    · skip
      obtain ⟨x, hx⟩ : ∃ x, q[i]? = some x := ⟨q[i]'(by have := HL.out; omega), List.getElem?_eq_getElem (by have := HL.out; omega)⟩
      obtain ⟨b, o1, rfl, _, hb, hc⟩ := (row.below hB).getF wcells_len hx (by omega)
      have HX : Hid (q[i]? = some x) := hx
      obtain ⟨xl, xw, xd⟩ := x
      have x0 : wr.cell? ⟨b, o1 + i * 3, none⟩ = some (.int .i64 xl) := hc 0 _ (by omega) rfl
      have x1 : wr.cell? ⟨b, o1 + i * 3 + 1, none⟩ = some (.int .i64 xw) := hc 1 _ (by omega) rfl
      have x2 : wr.cell? ⟨b, o1 + i * 3 + 2, none⟩ = some (.int .i64 xd) := hc 2 _ (by omega) rfl
      have hB2 := hB.trans ((ba (o := .cells #[.int .i64 xl, .int .i64 xw, .int .i64 xd] 111) (Below.refl wr.heap.size wr)).mono hB.size)
      have y0 : (wr.alloc (.cells #[.int .i64 xl, .int .i64 xw, .int .i64 xd] 111)).cell? ⟨wr.heap.size, 0, none⟩ = some (.int .i64 xl) := by simp
      have y1 : (wr.alloc (.cells #[.int .i64 xl, .int .i64 xw, .int .i64 xd] 111)).cell? ⟨wr.heap.size, 1, none⟩ = some (.int .i64 xw) := by simp
      have y2 : (wr.alloc (.cells #[.int .i64 xl, .int .i64 xw, .int .i64 xd] 111)).cell? ⟨wr.heap.size, 2, none⟩ = some (.int .i64 xd) := by simp
      have gw : w.heap.size ≤ wr.heap.size := hB.size
      have g2 : wr.heap.size < (wr.alloc (.cells #[.int .i64 xl, .int .i64 xw, .int .i64 xd] 111)).heap.size := by simp
      clear hx hc row
      go_upto_region 6 with fail
      clear x0 x1 x2 hb hB
      generalize wr.heap.size = ge at *
      generalize wr.alloc _ = w2 at *
      have hn := HNO.out _ (List.mem_of_getElem? HX.out)
      have hb2 : (xl == line) = false := by simpa using hn
      clear hn
      go_wp2_with fail
      go_roundw
      case rel => exact ⟨i + 1, by go_num, by omega, hB2⟩
      case measure => simp [intOf]; omega
    · go_wp2_with fail
      exact bodyPost_ret (v := .tuple #[.int .i64 0, .int .i64 0, .bool false]) (by simp [results, Try.results37, go_sem]) rfl ⟨rfl, hB⟩
set_option maxHeartbeats 1000000 in
theorem next_ok {w : World} {g t0 : Nat} {M N : Nat → Prop} {o : List (Int × Int)} {q : List Wr} {ao aq : Option Addr} {no co nq cq : Nat} (h : DT w g t0 M N o q ao no co aq nq cq) (line who id : Int) {k : Nat} (ho : ownT o line = -1) (hw : 0 ≤ who) (hk : q[k]? = some ⟨line, who, id⟩) (hno : ∀ j y, j < k → q[j]? = some y → y.l ≠ line) (hn : nq ≤ 1000) (hn2 : no ≤ 1000) :
    Calls Try.prog 37 #[.pointer (some ⟨g, t0, none⟩), .int .i64 line] w fun e w' => e = .returned (.tuple #[.int .i64 who, .int .i64 id, .bool true]) ∧ Keep (fun j => j = g ∨ M j) w w' ∧ Rest g t0 w w' ∧ ∃ M' N' ao' co' aq' cq', (∀ j, M' j → M j ∨ w.heap.size ≤ j) ∧ (∀ j, N' j → w.heap.size ≤ j) ∧ DT w' g t0 M' N' (o ++ [(line, who)]) (q.eraseIdx k) ao' (no + 1) co' aq' (nq - 1) cq' := by
  have HNO : Hid (∀ j y, j < k → q[j]? = some y → y.l ≠ line) := hno
  have HK : Hid (q[k]? = some ⟨line, who, id⟩) := hk
  have HW : Hid (0 ≤ who) := hw
  clear hno hw
  have row := h.rq
  have HL : Hid (q.length = nq) := row.lenF wcells_len (by omega)
  have H : Hid (DT w g t0 M N o q ao no co aq nq cq) := h
  have HO : Hid (ownT o line = -1) := ho
  have hle := row.le
  have hmx := row.max
  unfold maxLen at hmx
  clear ho h
  have hkn : k < nq := by rw [← HL.out]; exact (List.getElem?_eq_some_iff.1 hk).1
  clear hk
  go_enter Try.func37, Try.ntmps37
  go_upto_region 3 with (go_at_call 20; refine (owner_any H.out line).mono ?_; rintro e w1 ⟨rfl, b1⟩; rw [HO.out])
  have h1 := H.out.below b1
  have c1 := h1.c1
  have lt := h1.lt
  go_wp2_with fail
  clear c1 lt h1
  go_loopw [18] (fun vi wr => ∃ i : Nat, vi = .int .i64 (i : Int) ∧ i ≤ k ∧ Below w.heap.size w wr) (fun vi _ => nq - (intOf vi).toNat)
  case atStart => exact ⟨0, rfl, by omega, b1⟩
  case round =>
    clear b1
    clear w1
    obtain ⟨i, rfl, hi, hB⟩ := hrel
    obtain ⟨x, hx⟩ : ∃ x, q[i]? = some x := ⟨q[i]'(by have := HL.out; omega), List.getElem?_eq_getElem (by have := HL.out; omega)⟩
    obtain ⟨b, o1, rfl, _, hb, hc⟩ := (row.below hB).getF wcells_len hx (by omega)
    have HX : Hid (q[i]? = some x) := hx
    obtain ⟨xl, xw, xd⟩ := x
    have x0 : wr.cell? ⟨b, o1 + i * 3, none⟩ = some (.int .i64 xl) := hc 0 _ (by omega) rfl
    have x1 : wr.cell? ⟨b, o1 + i * 3 + 1, none⟩ = some (.int .i64 xw) := hc 1 _ (by omega) rfl
    have x2 : wr.cell? ⟨b, o1 + i * 3 + 2, none⟩ = some (.int .i64 xd) := hc 2 _ (by omega) rfl
    have hB2 := hB.trans ((ba (o := .cells #[.int .i64 xl, .int .i64 xw, .int .i64 xd] 111) (Below.refl wr.heap.size wr)).mono hB.size)
    have y0 : (wr.alloc (.cells #[.int .i64 xl, .int .i64 xw, .int .i64 xd] 111)).cell? ⟨wr.heap.size, 0, none⟩ = some (.int .i64 xl) := by simp
    have y1 : (wr.alloc (.cells #[.int .i64 xl, .int .i64 xw, .int .i64 xd] 111)).cell? ⟨wr.heap.size, 1, none⟩ = some (.int .i64 xw) := by simp
    have y2 : (wr.alloc (.cells #[.int .i64 xl, .int .i64 xw, .int .i64 xd] 111)).cell? ⟨wr.heap.size, 2, none⟩ = some (.int .i64 xd) := by simp
    have gw : w.heap.size ≤ wr.heap.size := hB.size
    have g2 : wr.heap.size < (wr.alloc (.cells #[.int .i64 xl, .int .i64 xw, .int .i64 xd] 111)).heap.size := by simp
    clear hx hc row
    go_upto_region 6 with fail
    clear x0 x1 x2 hb hB
    generalize wr.heap.size = ge at *
    generalize wr.alloc _ = w2 at *
    by_cases hik : i < k
    · have hn := HNO.out i _ hik HX.out
      have hb2 : (xl == line) = false := by simpa using hn
      clear hn
      go_wp2_with fail
      go_roundw
      case rel => exact ⟨i + 1, by go_num, by omega, hB2⟩
      case measure => simp [intOf]; omega
    · obtain rfl : i = k := by omega
      have hxe := HK.out
      rw [HX.out] at hxe
      injection hxe with hxe
      injection hxe with e1 e2 e3
      subst e1 e2 e3
      have hin : i < nq := hkn
      go_upto_region 7 with fail
      refine wp_region_orders 19 rfl (by kernel_rfl) ?_
      have hBd : Below w2.heap.size w2 w2.drew := (Below.refl _ _).drew
      have hBV : Below w.heap.size w w2.drew := next hB2 hBd
      have D := H.out.below hBV
      have z1 : w2.drew.cell? ⟨ge, 1, none⟩ = some (.int .i64 xw) := y1
      have z2 : w2.drew.cell? ⟨ge, 2, none⟩ = some (.int .i64 xd) := y2
      have hgV : ge < w2.drew.heap.size := g2
      clear hB2 hBd y0 y1 y2 g2
      generalize w2.drew = V0 at *
      have hI : (fun V : World => V.cell? ⟨g, t0 + 1, none⟩ = some (.slice (some ⟨b, o1, none⟩) nq cq) ∧ V.frozen? ⟨g, t0 + 1, none⟩ = false) V0 := ⟨D.c1, D.f1⟩
      obtain ⟨A, hA⟩ : ∃ A : Addr, (if cq = i + 1 then some (⟨b, o1, none⟩ : Addr) else some ⟨b, o1 + (i + 1) * 3, none⟩) = some A := by
        by_cases e : cq = i + 1
        · exact ⟨_, if_pos e⟩
        · exact ⟨_, if_neg e⟩
      have hle0 := D.rq.le
      have hmx0 := D.rq.max
      unfold maxLen at hmx0
      have hic : i ≤ cq := by omega
      have hjc : i + 1 ≤ cq := by omega
      have hwr : IntKind.i64.wrap ((i : Int) + 1) = (i : Int) + 1 := (IntWalk.i64_left _).trans (IntWalk.wrap64_in _ (by omega))
      have hi1 : 0 ≤ (i : Int) ∧ (i : Int) ≤ nq ∧ 0 ≤ (i : Int) + 1 ∧ (i : Int) + 1 ≤ nq := by omega
      refine any_inv (fun V : World => V.cell? ⟨g, t0 + 1, none⟩ = some (.slice (some ⟨b, o1, none⟩) nq cq) ∧ V.frozen? ⟨g, t0 + 1, none⟩ = false) [18] hI ?_
      refine inv_take (v := ?v17) [16, 17, 18] 0 hI rfl (by kernel_rfl) (by kernel_rfl) (by kernel_rfl) (by kernel_rfl) (by kernel_rfl) (fun _ _ _ h => h) (by kernel_rfl) (fun V hV => ?hy17) ?go17
      case hy17 => (obtain ⟨i1, i2⟩ := hV; go_simp <;> rfl)
      simp only [Act.put, List.setIfInBounds_toArray, List.set_cons_zero, List.set_cons_succ]
      refine inv_take (v := ?v18) [2, 3, 4, 6, 7, 15, 16, 17, 18] 1 hI rfl (by kernel_rfl) (by kernel_rfl) (by kernel_rfl) (by kernel_rfl) (by kernel_rfl) (fun _ _ _ h => h) (by kernel_rfl) (fun V hV => ?hy18) ?go18
      case hy18 => (obtain ⟨i1, i2⟩ := hV; go_simp <;> rfl)
      simp only [Act.put, List.setIfInBounds_toArray, List.set_cons_zero, List.set_cons_succ]
      refine inv_take (v := ?v19) [3, 4, 6, 7, 15, 16, 17, 18] 2 hI rfl (by kernel_rfl) (by kernel_rfl) (by kernel_rfl) (by kernel_rfl) (by kernel_rfl) (fun _ _ _ h => h) (by kernel_rfl) (fun V hV => ?hy19) ?go19
      case hy19 => (obtain ⟨i1, i2⟩ := hV; go_simp <;> rfl)
      simp only [Act.put, List.setIfInBounds_toArray, List.set_cons_zero, List.set_cons_succ]
      refine inv_take (v := ?v20) [4, 6, 7, 15, 16, 17, 18] 3 hI rfl (by kernel_rfl) (by kernel_rfl) (by kernel_rfl) (by kernel_rfl) (by kernel_rfl) (fun _ _ _ h => h) (by kernel_rfl) (fun V hV => ?hy20) ?go20
      case hy20 => (obtain ⟨i1, i2⟩ := hV; go_simp <;> rfl)
      simp only [Act.put, List.setIfInBounds_toArray, List.set_cons_zero, List.set_cons_succ]
      refine inv_take (v := ?v21) [6, 7, 15, 16, 17, 18] 4 hI rfl (by kernel_rfl) (by kernel_rfl) (by kernel_rfl) (by kernel_rfl) (by kernel_rfl) (fun _ _ _ h => h) (by kernel_rfl) (fun V hV => ?hy21) ?go21
      case hy21 => (obtain ⟨i1, i2⟩ := hV; go_simp <;> rfl)
      simp only [Act.put, List.setIfInBounds_toArray, List.set_cons_zero, List.set_cons_succ]
      refine inv_take (v := ?v22) [6, 7, 15, 16, 17, 18] 5 hI rfl (by kernel_rfl) (by kernel_rfl) (by kernel_rfl) (by kernel_rfl) (by kernel_rfl) (fun _ _ _ h => h) (by kernel_rfl) (fun V hV => ?hy22) ?go22
      case hy22 => (obtain ⟨i1, i2⟩ := hV; go_simp <;> rfl)
      simp only [Act.put, List.setIfInBounds_toArray, List.set_cons_zero, List.set_cons_succ]
      refine inv_take (v := ?v23) [7, 15, 16, 17, 18] 6 hI rfl (by kernel_rfl) (by kernel_rfl) (by kernel_rfl) (by kernel_rfl) (by kernel_rfl) (fun _ _ _ h => h) (by kernel_rfl) (fun V hV => ?hy23) ?go23
      case hy23 => (obtain ⟨i1, i2⟩ := hV; go_simp <;> rfl)
      simp only [Act.put, List.setIfInBounds_toArray, List.set_cons_zero, List.set_cons_succ]
      refine inv_take (v := ?v24) [9, 10, 11, 14, 15, 16, 17, 18] 8 hI rfl (by kernel_rfl) (by kernel_rfl) (by kernel_rfl) (by kernel_rfl) (by kernel_rfl) (fun _ _ _ h => h) (by kernel_rfl) (fun V hV => ?hy24) ?go24
      case hy24 => (obtain ⟨i1, i2⟩ := hV; go_simp <;> rfl)
      simp only [Act.put, List.setIfInBounds_toArray, List.set_cons_zero, List.set_cons_succ]
      refine inv_take (v := ?v25) [10, 11, 14, 15, 16, 17, 18] 9 hI rfl (by kernel_rfl) (by kernel_rfl) (by kernel_rfl) (by kernel_rfl) (by kernel_rfl) (fun _ _ _ h => h) (by kernel_rfl) (fun V hV => ?hy25) ?go25
      case hy25 => (obtain ⟨i1, i2⟩ := hV; go_simp <;> rfl)
      simp only [Act.put, List.setIfInBounds_toArray, List.set_cons_zero, List.set_cons_succ]
      refine inv_take (v := ?v26) [11, 14, 15, 16, 17, 18] 10 hI rfl (by kernel_rfl) (by kernel_rfl) (by kernel_rfl) (by kernel_rfl) (by kernel_rfl) (fun _ _ _ h => h) (by kernel_rfl) (fun V hV => ?hy26) ?go26
      case hy26 => (obtain ⟨i1, i2⟩ := hV; go_simp <;> rfl)
      simp only [Act.put, List.setIfInBounds_toArray, List.set_cons_zero, List.set_cons_succ]
      refine inv_take (v := ?v27) [14, 15, 16, 17, 18] 11 hI rfl (by kernel_rfl) (by kernel_rfl) (by kernel_rfl) (by kernel_rfl) (by kernel_rfl) (fun _ _ _ h => h) (by kernel_rfl) (fun V hV => ?hy27) ?go27
      case hy27 => (obtain ⟨i1, i2⟩ := hV; go_simp <;> rfl)
      simp only [Act.put, List.setIfInBounds_toArray, List.set_cons_zero, List.set_cons_succ]
      refine inv_take (v := ?v28) [13, 14, 15, 16, 17, 18] 12 hI rfl (by kernel_rfl) (by kernel_rfl) (by kernel_rfl) (by kernel_rfl) (by kernel_rfl) (fun _ _ _ h => h) (by kernel_rfl) (fun V hV => ?hy28) ?go28
      case hy28 => (obtain ⟨i1, i2⟩ := hV; go_simp <;> rfl)
      simp only [Act.put, List.setIfInBounds_toArray, List.set_cons_zero, List.set_cons_succ]
      refine inv_take (v := ?v29) [14, 15, 16, 17, 18] 13 hI rfl (by kernel_rfl) (by kernel_rfl) (by kernel_rfl) (by kernel_rfl) (by kernel_rfl) (fun _ _ _ h => h) (by kernel_rfl) (fun V hV => ?hy29) ?go29
      case hy29 => (obtain ⟨i1, i2⟩ := hV; go_simp <;> rfl)
      simp only [Act.put, List.setIfInBounds_toArray, List.set_cons_zero, List.set_cons_succ]
      refine inv_take (v := ?v30) [15, 16, 17, 18] 14 hI rfl (by kernel_rfl) (by kernel_rfl) (by kernel_rfl) (by kernel_rfl) (by kernel_rfl) (fun _ _ _ h => h) (by kernel_rfl) (fun V hV => ?hy30) ?go30
      case hy30 => (obtain ⟨i1, i2⟩ := hV; go_simp <;> rfl)
      simp only [Act.put, List.setIfInBounds_toArray, List.set_cons_zero, List.set_cons_succ]
      obtain ⟨f0, hfi, hp0, hp1, hp2⟩ := info_parts Try.infoW3
      have HA : Hid (∀ V, SlV V (some ⟨b, o1, none⟩) nq cq 3 (flat wcells q) → SlV V (some A) (nq - (i + 1)) (cq - (i + 1)) 3 ((flat wcells q).drop ((i + 1) * 3))) := by
        intro V hV
        exact hV.rear (by omega) hA
      clear hA
      refine inv_list 7 (by kernel_rfl) rfl ?_
      refine wpList_append_slv V0 (fun _ => False) (by kernel_rfl) (.const (.slice none 0 0)) (.tmp 33) 56 rfl 111 f0 _ 3 24 Try.underlying56 hfi hp0 hp1 hp2 rfl (by decide) none 0 0 [] rfl (rw_nil _ _ _) (some ⟨b, o1, none⟩) i cq ((flat wcells q).take (i * 3)) rfl (D.rq.slv.front (by omega)) (fun u hu => wcells_one _ u (List.mem_of_mem_take hu)) (by unfold maxLen; omega) (by omega) ?_
      intro a7 c7 w7 hrw7 hk7
      have hb7 : Below V0.heap.size V0 w7 := hk7.below (fun _ h => h.elim) (Nat.le_refl _)
      have hI7 : (fun V : World => V.cell? ⟨g, t0 + 1, none⟩ = some (.slice (some ⟨b, o1, none⟩) nq cq) ∧ V.frozen? ⟨g, t0 + 1, none⟩ = false) w7 := ⟨(hb7.cell (p := ⟨g, t0 + 1, none⟩) D.lt).trans hI.1, (hb7.frozen (p := ⟨g, t0 + 1, none⟩) D.lt).trans hI.2⟩
      refine then_n ⟨hI7, ?_⟩
      simp only [Act.put, List.setIfInBounds_toArray, List.set_cons_zero, List.set_cons_succ]
      refine inv_list 15 (by kernel_rfl) rfl ?_
      refine wpList_append_slv w7 (fun k => False ∨ V0.heap.size ≤ k) (by kernel_rfl) (.tmp 34) (.tmp 41) 56 rfl 111 f0 _ 3 24 Try.underlying56 hfi hp0 hp1 hp2 rfl (by decide) a7 (0 + i) c7 ([] ++ (flat wcells q).take (i * 3)) rfl hrw7 _ (nq - (i + 1)) (cq - (i + 1)) ((flat wcells q).drop ((i + 1) * 3)) rfl (HA.out _ (D.below hb7).rq.slv) (fun u hu => wcells_one _ u (List.mem_of_mem_drop hu)) (by unfold maxLen; omega) (by omega) ?_
      intro a8 c8 w8 hrw8 hk8
      have em : 0 + i + (nq - (i + 1)) = nq - 1 := by omega
      rw [em] at hrw8
      rw [em]
      rw [flat_erase2 wcells_len] at hrw8
      have hb8 : Below V0.heap.size V0 w8 := hb7.trans (hk8.below (fun k h => h.elim (fun h => h.elim) id) hb7.size)
      have hI8 : (fun V : World => V.cell? ⟨g, t0 + 1, none⟩ = some (.slice (some ⟨b, o1, none⟩) nq cq) ∧ V.frozen? ⟨g, t0 + 1, none⟩ = false) w8 := ⟨(hb8.cell (p := ⟨g, t0 + 1, none⟩) D.lt).trans hI.1, (hb8.frozen (p := ⟨g, t0 + 1, none⟩) D.lt).trans hI.2⟩
      refine then_n ⟨hI8, ?_⟩
      simp only [Act.put, List.setIfInBounds_toArray, List.set_cons_zero, List.set_cons_succ]
      refine inv_take (v := ?v31) [17, 18] 16 hI8 rfl (by kernel_rfl) (by kernel_rfl) (by kernel_rfl) (by kernel_rfl) (by kernel_rfl) (fun _ _ _ h => h) (by kernel_rfl) (fun V hV => ?hy31) ?go31
      case hy31 => (obtain ⟨i1, i2⟩ := hV; go_simp <;> rfl)
      simp only [Act.put, List.setIfInBounds_toArray, List.set_cons_zero, List.set_cons_succ]
      refine inv_take (v := ?v32) [18] 17 hI8 rfl (by kernel_rfl) (by kernel_rfl) (by kernel_rfl) (by kernel_rfl) (by kernel_rfl) (fun _ _ _ h => h) (by kernel_rfl) (fun V hV => ?hy32) ?go32
      case hy32 => (obtain ⟨i1, i2⟩ := hV; go_simp <;> rfl)
      simp only [Act.put, List.setIfInBounds_toArray, List.set_cons_zero, List.set_cons_succ]
      have row8 : Rw w8 (fun k => V0.heap.size ≤ k) a8 (nq - 1) c8 3 (flat wcells (q.eraseIdx i)) := hrw8.imp (fun j _ h => by
        rcases h with (h | h) | h
        · exact h.elim
        · exact h
        · exact Nat.le_trans hb7.size h)
      obtain ⟨i1, i2⟩ := hI8
      have D9 := D.newQ hb8 row8 (fun j hj => hj)
      have hgs := D.lt
      clear hI7 hI hrw7 hrw8 hk7 hk8 hb7 HA hwr hi1 hic hjc hfi hp0 hp1 hp2 row8
      refine inv_write 18 (by kernel_rfl) (by kernel_rfl) rfl ?_
      go_wp2
      refine then_n ?_
      refine any_done (by kernel_rfl) ?_
      have hge : ge ≠ g := fun e => by have := H.out.lt; omega
      have u1 : (w8.setCell ⟨g, t0 + 1, none⟩ (.slice a8 (nq - 1) c8)).cell? ⟨ge, 1, none⟩ = some (.int .i64 xw) := by rw [World.cell?_setCell_other _ _ _ _ (by simp)]; exact (hb8.cell (p := ⟨ge, 1, none⟩) hgV).trans z1
      have u2 : (w8.setCell ⟨g, t0 + 1, none⟩ (.slice a8 (nq - 1) c8)).cell? ⟨ge, 2, none⟩ = some (.int .i64 xd) := by rw [World.cell?_setCell_other _ _ _ _ (by simp)]; exact (hb8.cell (p := ⟨ge, 2, none⟩) hgV).trans z2
      have hg9 : ge < (w8.setCell ⟨g, t0 + 1, none⟩ (.slice a8 (nq - 1) c8)).heap.size := by simp; exact Nat.lt_of_lt_of_le hgV hb8.size
      have K9 : Keep (fun j => j = g) w (w8.setCell ⟨g, t0 + 1, none⟩ (.slice a8 (nq - 1) c8)) := (Keep.of_below (F := fun j => j = g) (next hBV hb8)).setCell (p := ⟨g, t0 + 1, none⟩) (.inl rfl) _
      have hzV : Hid (w.heap.size ≤ V0.heap.size) := hBV.size
      have R9 : Rest g t0 w (w8.setCell ⟨g, t0 + 1, none⟩ (.slice a8 (nq - 1) c8)) := (Rest.below (next hBV hb8) H.out.lt).trans (Rest.set (.inr rfl) _)
      have HR9 : Hid (Rest g t0 w (w8.setCell ⟨g, t0 + 1, none⟩ (.slice a8 (nq - 1) c8))) := R9
      clear R9
      clear i1 i2 hgs D hb8 z1 z2 hgV hBV
      go_upto_region 8 with fail
      generalize w8.setCell ⟨g, t0 + 1, none⟩ (.slice a8 (nq - 1) c8) = w9 at *
      refine wp_region_orders 14 rfl (by kernel_rfl) ?_
      have hBd : Below w9.heap.size w9 w9.drew := (Below.refl _ _).drew
      have D := D9.below hBd
      have K := K9.next hBd
      have HRV : Hid (Rest g t0 w w9.drew) := HR9.out.trans (Rest.below hBd D9.lt)
      have z1 : w9.drew.cell? ⟨ge, 1, none⟩ = some (.int .i64 xw) := u1
      have z2 : w9.drew.cell? ⟨ge, 2, none⟩ = some (.int .i64 xd) := u2
      have hgV : ge < w9.drew.heap.size := hg9
      clear u1 u2 hg9 D9 K9 hBd
      generalize w9.drew = V9 at *
      have hI : (fun V : World => V.cell? ⟨g, t0, none⟩ = some (.slice ao no co) ∧ V.frozen? ⟨g, t0, none⟩ = false ∧ V.cell? ⟨ge, 1, none⟩ = some (.int .i64 xw)) V9 := ⟨D.c0, D.f0, z1⟩
      refine any_inv (fun V : World => V.cell? ⟨g, t0, none⟩ = some (.slice ao no co) ∧ V.frozen? ⟨g, t0, none⟩ = false ∧ V.cell? ⟨ge, 1, none⟩ = some (.int .i64 xw)) [13] hI ?_
      refine inv_take (v := ?v33) [11, 12, 13] 0 hI rfl (by kernel_rfl) (by kernel_rfl) (by kernel_rfl) (by kernel_rfl) (by kernel_rfl) (fun _ _ _ h => h) (by kernel_rfl) (fun V hV => ?hy33) ?go33
      case hy33 => (obtain ⟨i1, i2, i3⟩ := hV; go_simp <;> rfl)
      simp only [Act.put, List.setIfInBounds_toArray, List.set_cons_zero, List.set_cons_succ]
      refine inv_take (v := ?v34) [2, 3, 4, 10, 11, 12, 13] 1 hI rfl (by kernel_rfl) (by kernel_rfl) (by kernel_rfl) (by kernel_rfl) (by kernel_rfl) (fun _ _ _ h => h) (by kernel_rfl) (fun V hV => ?hy34) ?go34
      case hy34 => (obtain ⟨i1, i2, i3⟩ := hV; go_simp <;> rfl)
      simp only [Act.put, List.setIfInBounds_toArray, List.set_cons_zero, List.set_cons_succ]
      refine inv_take (v := ?v35) [3, 4, 10, 11, 12, 13] 2 hI rfl (by kernel_rfl) (by kernel_rfl) (by kernel_rfl) (by kernel_rfl) (by kernel_rfl) (fun _ _ _ h => h) (by kernel_rfl) (fun V hV => ?hy35) ?go35
      case hy35 => (obtain ⟨i1, i2, i3⟩ := hV; go_simp <;> rfl)
      simp only [Act.put, List.setIfInBounds_toArray, List.set_cons_zero, List.set_cons_succ]
      refine inv_take (v := ?v36) [4, 10, 11, 12, 13] 3 hI rfl (by kernel_rfl) (by kernel_rfl) (by kernel_rfl) (by kernel_rfl) (by kernel_rfl) (fun _ _ _ h => h) (by kernel_rfl) (fun V hV => ?hy36) ?go36
      case hy36 => (obtain ⟨i1, i2, i3⟩ := hV; go_simp <;> rfl)
      simp only [Act.put, List.setIfInBounds_toArray, List.set_cons_zero, List.set_cons_succ]
      refine inv_take (v := ?v37) [10, 11, 12, 13] 4 hI rfl (by kernel_rfl) (by kernel_rfl) (by kernel_rfl) (by kernel_rfl) (by kernel_rfl) (fun _ _ _ h => h) (by kernel_rfl) (fun V hV => ?hy37) ?go37
      case hy37 => (obtain ⟨i1, i2, i3⟩ := hV; go_simp <;> rfl)
      simp only [Act.put, List.setIfInBounds_toArray, List.set_cons_zero, List.set_cons_succ]
      refine inv_take (v := ?v38) [8, 9, 10, 11, 12, 13] 5 hI rfl (by kernel_rfl) (by kernel_rfl) (by kernel_rfl) (by kernel_rfl) (by kernel_rfl) (fun _ _ _ h => h) (by kernel_rfl) (fun V hV => ?hy38) ?go38
      case hy38 => (obtain ⟨i1, i2, i3⟩ := hV; go_simp <;> rfl)
      simp only [Act.put, List.setIfInBounds_toArray, List.set_cons_zero, List.set_cons_succ]
      refine inv_take (v := ?v39) [7, 8, 9, 10, 11, 12, 13] 6 hI rfl (by kernel_rfl) (by kernel_rfl) (by kernel_rfl) (by kernel_rfl) (by kernel_rfl) (fun _ _ _ h => h) (by kernel_rfl) (fun V hV => ?hy39) ?go39
      case hy39 => (obtain ⟨i1, i2, i3⟩ := hV; go_simp <;> rfl)
      simp only [Act.put, List.setIfInBounds_toArray, List.set_cons_zero, List.set_cons_succ]
      refine inv_take (v := ?v40) [8, 9, 10, 11, 12, 13] 7 hI rfl (by kernel_rfl) (by kernel_rfl) (by kernel_rfl) (by kernel_rfl) (by kernel_rfl) (fun _ _ _ h => h) (by kernel_rfl) (fun V hV => ?hy40) ?go40
      case hy40 => (obtain ⟨i1, i2, i3⟩ := hV; go_simp <;> rfl)
      simp only [Act.put, List.setIfInBounds_toArray, List.set_cons_zero, List.set_cons_succ]
      refine inv_take (v := ?v41) [9, 10, 11, 12, 13] 8 hI rfl (by kernel_rfl) (by kernel_rfl) (by kernel_rfl) (by kernel_rfl) (by kernel_rfl) (fun _ _ _ h => h) (by kernel_rfl) (fun V hV => ?hy41) ?go41
      case hy41 => (obtain ⟨i1, i2, i3⟩ := hV; go_simp <;> rfl)
      simp only [Act.put, List.setIfInBounds_toArray, List.set_cons_zero, List.set_cons_succ]
      refine inv_list 9 (by kernel_rfl) rfl ?_
      clear hI
      go_wp2_with fail
      have b4 : Below V9.heap.size V9 (V9.alloc (.cells #[.int .i64 xl, .int .i64 xw] 87)) := ba (Below.refl _ _)
      have D4 := D.below b4
      have hI : (fun V : World => V.cell? ⟨g, t0, none⟩ = some (.slice ao no co) ∧ V.frozen? ⟨g, t0, none⟩ = false ∧ V.cell? ⟨ge, 1, none⟩ = some (.int .i64 xw)) (V9.alloc (.cells #[.int .i64 xl, .int .i64 xw] 87)) := ⟨D4.c0, D4.f0, (b4.cell (p := ⟨ge, 1, none⟩) hgV).trans z1⟩
      refine then_n ⟨hI, ?_⟩
      refine inv_list 10 (by kernel_rfl) rfl ?_
      have hsv : SlV (V9.alloc (.cells #[.int .i64 xl, .int .i64 xw] 87)) (some ⟨V9.heap.size, 0, none⟩) 1 1 2 (dcells (xl, xw)) := by
        refine ⟨rfl, Nat.le_refl _, by unfold maxLen; omega, fun h => (by cases h), .inr ⟨_, _, rfl, fun j u hu => ?_⟩⟩
        have h4 := (List.getElem?_eq_some_iff.1 hu).1
        simp [dcells] at h4
        rcases (by omega : j = 0 ∨ j = 1) with rfl | rfl <;> simp [dcells] at hu <;> subst hu <;> simp
      obtain ⟨e0, hei, he0, he1, he2⟩ := info_parts Try.infoP2
      refine wpList_append_slv (V9.alloc (.cells #[.int .i64 xl, .int .i64 xw] 87)) M (by kernel_rfl) (.tmp 49) (.tmp 54) 55 rfl 87 e0 _ 2 16 Try.underlying55 hei he0 he1 he2 rfl (by decide) ao no co (flat dcells o) rfl D4.ro (some ⟨V9.heap.size, 0, none⟩) 1 1 (dcells (xl, xw)) rfl hsv (fun u hu => by simp [dcells] at hu; rcases hu with rfl | rfl <;> rfl) (by unfold maxLen; omega) (by omega) ?_
      intro a5 k5 w5 r5 kk5
      have el : flat dcells o ++ dcells (xl, xw) = flat dcells (o ++ [(xl, xw)]) := by rw [flat_append, flat_one]
      rw [el] at r5
      have hgM : ¬ M ge := fun hm => by have := H.out.old ge (.inl hm); omega
      have hg4 : ge < (V9.alloc (.cells #[.int .i64 xl, .int .i64 xw] 87)).heap.size := Nat.lt_of_lt_of_le hgV b4.size
      have t1 := (kk5.cell 1 hg4 hgM).trans ((b4.cell (p := ⟨ge, 1, none⟩) hgV).trans z1)
      have t2 := (kk5.cell 2 hg4 hgM).trans ((b4.cell (p := ⟨ge, 2, none⟩) hgV).trans z2)
      have s0 := (kk5.cell (b := g) t0 D4.lt D4.no.1).trans D4.c0
      have s1 := (kk5.frozen (b := g) t0 D4.lt D4.no.1).trans D4.f0
      have hI5 : (fun V : World => V.cell? ⟨g, t0, none⟩ = some (.slice ao no co) ∧ V.frozen? ⟨g, t0, none⟩ = false ∧ V.cell? ⟨ge, 1, none⟩ = some (.int .i64 xw)) w5 := ⟨s0, s1, t1⟩
      refine then_n ⟨hI5, ?_⟩
      simp only [Act.put, List.setIfInBounds_toArray, List.set_cons_zero, List.set_cons_succ]
      refine inv_take (v := ?v42) [12, 13] 11 hI5 rfl (by kernel_rfl) (by kernel_rfl) (by kernel_rfl) (by kernel_rfl) (by kernel_rfl) (fun _ _ _ h => h) (by kernel_rfl) (fun V hV => ?hy42) ?go42
      case hy42 => (obtain ⟨i1, i2, i3⟩ := hV; go_simp <;> rfl)
      simp only [Act.put, List.setIfInBounds_toArray, List.set_cons_zero, List.set_cons_succ]
      refine inv_take (v := ?v43) [13] 12 hI5 rfl (by kernel_rfl) (by kernel_rfl) (by kernel_rfl) (by kernel_rfl) (by kernel_rfl) (fun _ _ _ h => h) (by kernel_rfl) (fun V hV => ?hy43) ?go43
      case hy43 => (obtain ⟨i1, i2, i3⟩ := hV; go_simp <;> rfl)
      simp only [Act.put, List.setIfInBounds_toArray, List.set_cons_zero, List.set_cons_succ]
      have D5 := D4.snocO kk5 r5 HO.out HW.out
      have K5 : Keep (fun j => j = g ∨ M j) w w5 := ((K.mono (G := fun j => j = g ∨ M j) (fun j _ hj => .inl hj)).next b4).trans (kk5.mono (G := fun j => j = g ∨ M j) (fun j _ hj => .inr hj)) (fun j _ hj => hj)
      have R5 : Hid (Rest g t0 w (w5.setCell ⟨g, t0, none⟩ (.slice a5 (no + 1) k5))) := HRV.out.trans ((Rest.below b4 D.lt).trans ((Rest.keep kk5 D4.lt D4.no.1).trans (Rest.set (.inl rfl) _)))
      have hgw5 : ge < w5.heap.size := Nat.lt_of_lt_of_le hg4 kk5.size
      have h9V : Hid (w.heap.size ≤ (V9.alloc (.cells #[.int .i64 xl, .int .i64 xw] 87)).heap.size) := Nat.le_trans K.size b4.size
      obtain ⟨i1, i2, i3⟩ := hI5
      have hgs := D4.lt
      clear hI hsv r5 kk5 b4 D4 D z1 z2 s0 s1 K
      refine inv_write 13 (by kernel_rfl) (by kernel_rfl) rfl ?_
      go_wp2
      refine then_n ?_
      refine any_done (by kernel_rfl) ?_
      go_upto_region 9 with fail
      have v1 : (w5.setCell ⟨g, t0, none⟩ (.slice a5 (no + 1) k5)).cell? ⟨ge, 1, none⟩ = some (.int .i64 xw) := by rw [World.cell?_setCell_other _ _ _ _ (by simp)]; exact t1
      have v2 : (w5.setCell ⟨g, t0, none⟩ (.slice a5 (no + 1) k5)).cell? ⟨ge, 2, none⟩ = some (.int .i64 xd) := by rw [World.cell?_setCell_other _ _ _ _ (by simp)]; exact t2
      have hg6 : ge < (w5.setCell ⟨g, t0, none⟩ (.slice a5 (no + 1) k5)).heap.size := by simpa using hgw5
      have K6 := K5.setCell (p := ⟨g, t0, none⟩) (.inl (.inl rfl)) (.slice a5 (no + 1) k5)
      clear t1 t2 i1 i2 i3 hgw5 K5
      generalize w5.setCell ⟨g, t0, none⟩ (.slice a5 (no + 1) k5) = w6 at *
      go_quiet (fail)
      go_wp2_with fail
      refine bodyPost_ret (v := .tuple #[.int .i64 xw, .int .i64 xd, .bool true]) (by simp [results, Try.results37, go_sem]) rfl ⟨rfl, K6.next (below_dn _ _), R5.out.trans (Rest.below (below_dn _ _) D5.lt), _, _, a5, k5, a8, c8, ?_, ?_, D5.below (below_dn _ _)⟩
      · intro j hj
        rcases hj with hj | hj
        · exact .inl hj
        · exact .inr (by have := h9V.out; omega)
      · intro j hj
        have := hzV.out
        omega
end TR
end Go.Proofs.Ytgeiagndpfdnlaa
