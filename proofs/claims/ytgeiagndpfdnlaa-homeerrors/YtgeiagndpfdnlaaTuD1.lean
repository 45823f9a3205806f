/- The document's turns: Owner, Waiting. Conditions: as each theorem states them. -/
import Derived.Test.YtgeiagndpfdnlaaTuD
namespace Go.Proofs.Ytgeiagndpfdnlaa
open Go.RowKit
set_option linter.unusedVariables false
set_option maxRecDepth 20000
namespace TR

set_option maxHeartbeats 400000 in
theorem owner_any {w : World} {g t0 : Nat} {M N : Nat → Prop} {o : List (Int × Int)} {q : List Wr} {ao aq : Option Addr} {no co nq cq : Nat} (h : DT w g t0 M N o q ao no co aq nq cq) (line : Int) :
    Calls Try.prog 20 #[.pointer (some ⟨g, t0, none⟩), .int .i64 line] w fun e w' => e = .returned (.int .i64 (ownT o line)) ∧ Below w.heap.size w w' := by
  have c0 := h.c0
  have lt := h.lt
  have row := h.ro
  have HL : Hid (o.length = no) := row.lenF dcells_len (by omega)
  have HO : Hid (OkT o) := h.ok
  have hle := row.le
  have hmx := row.max
  unfold maxLen at hmx
  clear h
  go_enter Try.func20, Try.ntmps20
  go_wp2_with fail
  go_loopw [12] (fun vi wr => ∃ i : Nat, vi = .int .i64 (i : Int) ∧ i ≤ no ∧ Below w.heap.size w wr ∧ Hid (∀ j y, j < i → o[j]? = some y → y.1 ≠ line)) (fun vi _ => no - (intOf vi).toNat)
  case atStart => exact ⟨0, rfl, by omega, Below.refl _ _, fun j y hj => by omega⟩
  case round =>
    obtain ⟨i, rfl, hi, hB, HJ⟩ := hrel
    by_cases hlt : i < no
    · obtain ⟨x, hx⟩ : ∃ x, o[i]? = some x := ⟨o[i]'(by have := HL.out; omega), List.getElem?_eq_getElem (by have := HL.out; omega)⟩
      obtain ⟨b, o1, rfl, _, hb, hc⟩ := (row.below hB).getF dcells_len hx hlt
      have HX : Hid (o[i]? = some x) := hx
      obtain ⟨xl, xw⟩ := x
      have x0 : wr.cell? ⟨b, o1 + i * 2, none⟩ = some (.int .i64 xl) := hc 0 _ (by omega) rfl
      have x1 : wr.cell? ⟨b, o1 + i * 2 + 1, none⟩ = some (.int .i64 xw) := hc 1 _ (by omega) rfl
      have hB2 := hB.trans ((ba (o := .cells #[.int .i64 xl, .int .i64 xw] 87) (Below.refl wr.heap.size wr)).mono hB.size)
      have y0 : (wr.alloc (.cells #[.int .i64 xl, .int .i64 xw] 87)).cell? ⟨wr.heap.size, 0, none⟩ = some (.int .i64 xl) := by simp
      have y1 : (wr.alloc (.cells #[.int .i64 xl, .int .i64 xw] 87)).cell? ⟨wr.heap.size, 1, none⟩ = some (.int .i64 xw) := by simp
      clear hx hc row c0 lt
      go_upto_region 4 with fail
      clear x0 x1 hb hB
      generalize wr.heap.size = ge at *
      generalize wr.alloc _ = w2 at *
      by_cases he : xl = line
      · have HE : Hid (xl = line) := he
        rw [he] at y0
        clear he
        go_wp2_with fail
        go_ret
        exact ⟨ret_int (by have := own_at HO.out (List.mem_of_getElem? HX.out); rw [HE.out] at this; exact this.symm), hB2⟩
      · have hb2 : (xl == line) = false := by simpa using he
        have HE : Hid (xl ≠ line) := he
        clear he
        go_wp2_with fail
        go_roundw
        case rel =>
          refine ⟨i + 1, by go_num, by omega, hB2, fun j y hj hy => ?_⟩
          by_cases hji : j = i
          · subst hji
            rw [HX.out] at hy
            obtain rfl := Option.some.inj hy
            exact HE.out
          · exact HJ.out j y (by omega) hy
        case measure => simp [intOf]; omega
    · go_wp2_with fail
      go_ret
      refine ⟨ret_int (own_none (fun y hy => ?_)).symm, hB⟩
      obtain ⟨j, hj⟩ := List.mem_iff_getElem?.1 hy
      exact HJ.out j y (by have := (List.getElem?_eq_some_iff.1 hj).1; have := HL.out; omega) hj
set_option maxHeartbeats 400000 in
theorem waiting_any {w : World} {g t0 : Nat} {M N : Nat → Prop} {o : List (Int × Int)} {q : List Wr} {ao aq : Option Addr} {no co nq cq : Nat} (h : DT w g t0 M N o q ao no co aq nq cq) (line : Int) :
    Calls Try.prog 47 #[.pointer (some ⟨g, t0, none⟩), .int .i64 line] w fun e w' => e = .returned (.int .i64 ((waitT q line).length : Int)) ∧ Below w.heap.size w w' := by
  have c1 := h.c1
  have lt := h.lt
  have row := h.rq
  have HL : Hid (q.length = nq) := row.lenF wcells_len (by omega)
  have hle := row.le
  have hmx := row.max
  unfold maxLen at hmx
  clear h
  go_enter Try.func47, Try.ntmps47
  go_wp2_with fail
  go_loopw [5, 13] (fun vm vi wr => ∃ (i m : Nat), vm = .int .i64 (m : Int) ∧ vi = .int .i64 (i : Int) ∧ i ≤ nq ∧ m ≤ i ∧ Below w.heap.size w wr ∧ Hid ((waitT (q.take i) line).length = m)) (fun _ vi _ => nq - (intOf vi).toNat)
  case atStart => exact ⟨0, 0, rfl, rfl, by omega, by omega, Below.refl _ _, by show _ = _; simp [waitT]⟩
  case round =>
    obtain ⟨i, m, rfl, rfl, hi, hmi, hB, HJ⟩ := hrel
    by_cases hlt : i < nq
    · obtain ⟨x, hx⟩ : ∃ x, q[i]? = some x := ⟨q[i]'(by have := HL.out; omega), List.getElem?_eq_getElem (by have := HL.out; omega)⟩
      obtain ⟨b, o1, rfl, _, hb, hc⟩ := (row.below hB).getF wcells_len hx hlt
      have HX : Hid (q[i]? = some x) := hx
      obtain ⟨xl, xw, xd⟩ := x
      have x0 : wr.cell? ⟨b, o1 + i * 3, none⟩ = some (.int .i64 xl) := hc 0 _ (by omega) rfl
      have x1 : wr.cell? ⟨b, o1 + i * 3 + 1, none⟩ = some (.int .i64 xw) := hc 1 _ (by omega) rfl
      have x2 : wr.cell? ⟨b, o1 + i * 3 + 2, none⟩ = some (.int .i64 xd) := hc 2 _ (by omega) rfl
      have hB2 := hB.trans ((ba (o := .cells #[.int .i64 xl, .int .i64 xw, .int .i64 xd] 111) (Below.refl wr.heap.size wr)).mono hB.size)
      have y0 : (wr.alloc (.cells #[.int .i64 xl, .int .i64 xw, .int .i64 xd] 111)).cell? ⟨wr.heap.size, 0, none⟩ = some (.int .i64 xl) := by simp
      clear hx hc row c1 lt
      go_upto_region 5 with fail
      clear x0 x1 x2 hb hB
      generalize wr.heap.size = ge at *
      generalize wr.alloc _ = w2 at *
      have ht := wait_take HX.out line
      rw [HJ.out] at ht
      by_cases he : xl = line
      · rw [if_pos he] at ht
        have HT : Hid ((waitT (q.take (i + 1)) line).length = m + 1) := ht
        rw [he] at y0
        clear he ht
        go_wp2_with fail
        go_roundw
        case rel => exact ⟨i + 1, m + 1, by go_num, by go_num, by omega, by omega, hB2, HT⟩
        case measure => simp [intOf]; omega
      · have hb2 : (xl == line) = false := by simpa using he
        rw [if_neg he] at ht
        have HT : Hid ((waitT (q.take (i + 1)) line).length = m) := ht
        clear he ht
        go_wp2_with fail
        go_roundw
        case rel => exact ⟨i + 1, m, rfl, by go_num, by omega, by omega, hB2, HT⟩
        case measure => simp [intOf]; omega
    · go_wp2_with fail
      go_ret
      refine ⟨ret_int ?_, hB⟩
      have e : q.take i = q := List.take_of_length_le (by have := HL.out; omega)
      have h1 := HJ.out
      rw [e] at h1
      rw [h1]
end TR
end Go.Proofs.Ytgeiagndpfdnlaa
