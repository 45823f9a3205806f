/- Rows of programs with one row laid anew. Conditions: as each theorem states them. -/
import Derived.Test.YtpagdfmajeodiaaProg20
namespace Go.Proofs.Ytpagdfmajeodiaa
open Go.RowKit
set_option linter.unusedVariables false

theorem progs_set {w : World} {gx kx N cx c2 : Nat} {a2 : Option Addr} {cur : Array Value} {rows : List Value} {ps : List (List OpI)} {p2 : List OpI}
    (hh : w.heap[gx]? = some (.cells cur 39 (0, 0))) (hcur : cur.toList.take N = rows.set kx (.slice a2 p2.length c2)) (hN : ps.length = N) (hrl : rows.length = N) (hcx : N ≤ cx) (hmx : cx ≤ maxLen)
    (hin : ∀ (i : Nat) (p : List OpI), i ≠ kx → ps[i]? = some p → ∃ ai ci, rows[i]? = some (Value.slice ai p.length ci) ∧ SlV w ai p.length ci 3 (flat p)) (hk : SlV w a2 p2.length c2 3 (flat p2)) (hkx : kx < N) :
    Progs w (some ⟨gx, 0, none⟩) cx (ps.set kx p2) := by
  refine ⟨rows.set kx (.slice a2 p2.length c2), ⟨by simp [hrl, hN], by simp [hN]; exact hcx, hmx, fun e => (by cases e), .inr ⟨gx, 0, rfl, fun i u hu => ?_⟩⟩, fun i p hp => ?_⟩
  · rw [Nat.zero_add, cell_of_row w gx i _ _ _ hh]
    rw [← hcur, List.getElem?_take] at hu
    split at hu
    · simpa using hu
    · cases hu
  · rw [List.getElem?_set] at hp ⊢
    by_cases hik : kx = i
    · subst hik
      rw [if_pos rfl, if_pos (by omega)] at hp
      rw [if_pos rfl, if_pos (by omega)]
      simp at hp
      subst hp
      exact ⟨a2, c2, rfl, hk⟩
    · rw [if_neg hik] at hp ⊢
      exact hin i p (Ne.symm hik) hp
theorem take_lay {cur : Array Value} {rows : List Value} {N kx : Nat} (h : cur.toList.take N = rows) (v : Value) (hk : kx < N) : (cur.setIfInBounds kx v).toList.take N = rows.set kx v := by
  rw [← h, Array.toList_setIfInBounds, List.take_set]
theorem SlV.far {w : World} {a : Option Addr} {n cap es gx k : Nat} {vs : List Value} {v : Value} (h : SlV w a n cap es vs) (hb : ∀ ad : Addr, a = some ad → ad.block ≠ gx) : SlV (w.setCell ⟨gx, k, none⟩ v) a n cap es vs := by
  refine ⟨h.len, h.le, h.max, h.nil, h.row.imp id ?_⟩
  rintro ⟨b, o, rfl, hc⟩
  refine ⟨b, o, rfl, fun i u hu => ?_⟩
  rw [cell_far b (o + i) (hb _ rfl)]
  exact hc i u hu
theorem fine_ok {L K N : Nat} {ps : List (List OpI)} (h : Fine L K 10 ps) (hl : ps.length = N) : opsOk N L K ps = true := by
  unfold opsOk
  rw [decide_eq_true (by omega), Bool.true_and, List.all_eq_true]
  intro p hp
  have := h p hp
  unfold progOk
  rw [decide_eq_true (by omega), this.2]; rfl
theorem ops_bad {L K N kx : Nat} {ps : List (List OpI)} {q : List OpI} (hk : kx < ps.length) (hq : progOk L K q = false) : opsOk N L K (ps.set kx q) = false := by
  unfold opsOk
  rw [Bool.and_eq_false_iff]
  right
  exact all_not (k := kx) (x := q) (by simp [hk]) hq
theorem ops_good {L K N kx : Nat} {ps : List (List OpI)} {q : List OpI} (h : Fine L K 10 ps) (hl : ps.length = N) (hq : progOk L K q = true) : opsOk N L K (ps.set kx q) = true := by
  unfold opsOk
  rw [decide_eq_true (by simp [hl]), Bool.true_and, List.all_eq_true]
  intro p hp
  rcases List.mem_or_eq_of_mem_set hp with h1 | h1
  · have := h p h1
    unfold progOk
    rw [decide_eq_true (by omega), this.2]; rfl
  · rw [h1]; exact hq
theorem prog_bad {l k : Int} {p : List OpI} {x : OpI} (hx : opOk l k x = false) : progOk l k (p ++ [x]) = false := by
  unfold progOk
  rw [Bool.and_eq_false_iff]; right
  rw [List.all_append]; simp [hx]
theorem prog_long {l k : Int} {p : List OpI} (h : 24 < p.length) : progOk l k p = false := by unfold progOk; rw [decide_eq_false (by omega)]; rfl
theorem ops_n {n l k s y o i : Int} {t : Value} {a : Option Addr} {cap m : Nat} {qs : List (List OpI)} {w : World} {b : Bool} {x : Int} (hp : Progs w a cap qs) (hm : qs.length = m) (hl0 : 1 ≤ l) (hl1 : l ≤ 8) (hk0 : 1 ≤ k) (hk1 : k ≤ 4) (hb : opsOk n l k qs = b) (hx : errI b = x) :
    Calls Try.prog 14 #[cfg n l k s y o i t, .slice a m cap] w fun e w' => e = .returned (.int .i64 x) ∧ Below w.heap.size w w' := by
  subst hm; exact ops_e hp hl0 hl1 hk0 hk1 hb hx
/-- Operations that may not be. -/
def bads (m : Int) : List OpI := [⟨0, 0, 0⟩, ⟨5, 0, 0⟩, ⟨-1, 0, 0⟩, ⟨1, -1, 0⟩, ⟨2, m, 0⟩, ⟨1, 0, 1⟩, ⟨4, 0, -1⟩]
theorem bads_no {l k : Int} : ∀ x ∈ bads (l * k), opOk l k x = false := by
  intro x hx
  simp [bads] at hx
  rcases hx with rfl | rfl | rfl | rfl | rfl | rfl | rfl <;> simp [opOk, isA]
def zeroOps : List OpI := List.replicate 24 ⟨0, 0, 0⟩
theorem zeroOps_len : zeroOps.length = 24 := rfl
theorem zeros24 : madeCells (Value.agg #[.int .i64 0, .int .i64 0, .int .i64 0]).cells 72 = (flat zeroOps).toArray := by kernel_rfl
theorem make_ops (w : World) : (Instr.makeSlice 39 (.int .i64 24) (.int .i64 24)).run Try.prog w = .ok (.slice (some ⟨w.heap.size, 0, none⟩) 24 24) (w.alloc (.cells (flat zeroOps).toArray 38)) := by
  obtain ⟨i0, hi, hz0, hz1, hz2⟩ := info_parts Try.infoOp
  have hr := run_make (P := Try.prog) w 39 38 i0 _ Try.underlying39 hi hz0 .i64 .i64 24 24 (by omega) (Int.le_refl _) (by rw [hz2]; omega) (by omega)
  rw [hz1] at hr
  rw [← zeros24]
  simpa using hr
theorem fill_step {l k : Int} {q : List OpI} {j : Nat} {x : OpI} (hj : j < q.length) (h : (q.take j).all (opOk l k) = true) (hx : opOk l k x = true) : ((q.set j x).take (j + 1)).all (opOk l k) = true := by
  rw [List.take_succ_eq_append_getElem (by simpa using hj), List.all_append, List.take_set_of_le (Nat.le_refl _), h]
  simp [hx]
end Go.Proofs.Ytpagdfmajeodiaa
