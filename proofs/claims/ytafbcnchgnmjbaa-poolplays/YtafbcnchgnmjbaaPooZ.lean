/- A pool beside a list of whole numbers (PZ). Conditions: as each theorem states them. -/
import Derived.Test.YtafbcnchgnmjbaaPooPut
import Derived.Test.YtafbcnchgnmjbaaPooRem
import Derived.Test.YtafbcnchgnmjbaaPooAll
import Derived.Test.YtafbcnchgnmjbaaApp
namespace Go.Proofs.Ytafbcnchgnmjbaa
open Go.RowKit
set_option linter.unusedVariables false

/-- A packet of which the ID alone is told. -/
def idPk (i : Int) : Pk := ⟨0, 0, 0, i, 0, 0, 0, false, []⟩
set_option maxHeartbeats 600000 in
theorem wakes_any (w : World) :
    Calls Try.prog 14 #[] w fun e w' => e = .returned (.bool true) ∧ Below w.heap.size w w' := by
  go_enter Try.func14, Try.ntmps14
  go_wp2_with (first
    | (go_at_call 8; refine (P.new_any 1 _).mono ?_; rintro e w1 ⟨rfl, hb1, hq1⟩; rw [show max (1 : Int) 0 = 1 from rfl] at hq1)
    | (go_at_call 10; refine (P.get_none _ hq1 0 (by simp)).mono ?_; rintro e w2 ⟨rfl, hb2⟩; unfold zeroPk Pk.val)
    | (go_at_call 9; have mk := hk4; clear mk; refine (P.put_full _ hq4 (idPk 0) none 0 0 (by omega) (by omega) (by rfl)).mono ?_; rintro e w5 ⟨rfl, hb5⟩)
    | (go_at_call 9; refine (P.put_ok _ (hq1.below (next hb2 (ba (Below.refl _ _)))) (idPk 5) none 0 0 (sl_nil _) (by omega) (by omega) (by omega) (by decide)).mono ?_; rintro e w4 ⟨rfl, hk4, M4, D4, hq4, hM4, hD4⟩)
    | (go_at_call 12; refine (P.len_n _ (hq4.below hb5) 1 rfl).mono ?_; rintro e w6 ⟨rfl, rfl⟩))
  go_ret
  exact ⟨rfl, next (hk4.after (next hb1 (next hb2 (ba (Below.refl _ _)))) (fun k e => by omega)) hb5⟩

/-- The pool has the packets L, the list the numbers z; both are newer than w. -/
def PZ (w wr : World) (g : Nat) (Q : Int) (L : List Pk) (z : List Int) (v : Value) : Prop :=
  ∃ M D S a cap, v = .slice a z.length cap ∧ Qu wr g M D Q L ∧ Rw wr S a z.length cap 1 (cells z) ∧ (∀ k, M k ∨ D k ∨ S k → w.heap.size ≤ k ∧ k < wr.heap.size) ∧ (∀ k, S k → ¬ (M k ∨ D k)) ∧ Below w.heap.size w wr
theorem PZ.below {w wr wr' : World} {g : Nat} {Q : Int} {L : List Pk} {z : List Int} {v : Value} (h : PZ w wr g Q L z v) (hb : Below wr.heap.size wr wr') : PZ w wr' g Q L z v := by
  obtain ⟨M, D, S, a, cap, e, hq, hr, hlo, hs, hb0⟩ := h
  exact ⟨M, D, S, a, cap, e, hq.below hb, hr.below hb, fun k h => ⟨(hlo k h).1, Nat.lt_of_lt_of_le (hlo k h).2 hb.size⟩, hs, next hb0 hb⟩
theorem PZ.wb {w wr : World} {g : Nat} {Q : Int} {L : List Pk} {z : List Int} {v : Value} (h : PZ w wr g Q L z v) : Below w.heap.size w wr := by
  obtain ⟨M, D, S, a, cap, e, hq, hr, hlo, hs, hb0⟩ := h
  exact hb0
theorem PZ.sl {w wr : World} {g : Nat} {Q : Int} {L : List Pk} {z : List Int} {v : Value} (h : PZ w wr g Q L z v) : ∃ a cap, v = .slice a z.length cap ∧ Sl wr a z.length cap z := by
  obtain ⟨M, D, S, a, cap, e, hq, hr, hlo, hs, hb0⟩ := h
  exact ⟨a, cap, e, slv_cells hr.slv⟩
theorem PZ.slice {w wr : World} {g n : Nat} {Q : Int} {L : List Pk} {z : List Int} {v : Value} (h : PZ w wr g Q L z v) (hn : z.length = n) : ∃ a cap, v = .slice a n cap ∧ Sl wr a n cap z := by
  subst hn; exact h.sl
theorem PZ.qu {w wr : World} {g : Nat} {Q : Int} {L : List Pk} {z : List Int} {v : Value} (h : PZ w wr g Q L z v) : ∃ M D, Qu wr g M D Q L := by
  obtain ⟨M, D, S, a, cap, e, hq, hr, hlo, hs, hb0⟩ := h
  exact ⟨M, D, hq⟩
theorem pz_new {w w1 : World} {Q r : Int} (hb : Below w.heap.size w w1) (hq : Qu w1 w.heap.size (fun k => k = w.heap.size) (fun _ => False) r []) (hr : r = Q) : PZ w w1 w.heap.size Q [] [] (.slice none 0 0) := by
  subst hr
  exact ⟨fun k => k = w.heap.size, fun _ => False, fun _ => False, none, 0, rfl, hq, rw_nil _ _ _, fun k h => (by
    rcases h with h | h | h
    · have := hq.old k (.inl h); exact ⟨by omega, this⟩
    · exact h.elim
    · exact h.elim), fun k h => h.elim, hb⟩
theorem pz_full (w wr : World) {g : Nat} {Q : Int} {L : List Pk} {z : List Int} {v : Value} (h : PZ w wr g Q L z v) (x : Pk) (a : Option Addr) (n cap : Nat) (h0 : 0 ≤ Q) (h1 : Q ≤ 30) (hf : (L.length : Int) = Q) :
    Calls Try.prog 9 #[.pointer (some ⟨g, 0, none⟩), x.val (.slice a n cap)] wr fun e w' => e = .returned (.int .i64 5) ∧ Below wr.heap.size wr w' := by
  obtain ⟨M, D, hq⟩ := h.qu
  exact P.put_full wr hq x a n cap h0 (by omega) hf
theorem pz_put (w wr : World) {g : Nat} {Q : Int} {L : List Pk} {z : List Int} {v : Value} (h : PZ w wr g Q L z v) (x : Pk) (hx : x.z = []) (h0 : 0 ≤ Q) (h1 : Q ≤ 30) (hf : (L.length : Int) < Q) :
    Calls Try.prog 9 #[.pointer (some ⟨g, 0, none⟩), x.val (.slice none 0 0)] wr fun e w' => e = .returned (.int .i64 0) ∧ PZ w w' g Q (L ++ [x]) z v := by
  obtain ⟨M, D, S, a, cap, e, hq, hr, hlo, hs, hb0⟩ := h
  refine (P.put_ok wr hq x none 0 0 (by rw [hx]; exact sl_nil _) (by omega) h0 (by omega) hf).mono ?_
  rintro e w' ⟨rfl, hk, M', D', hq', hM, hD⟩
  have hz := hb0.size
  have hzk := hk.size
  have old := hq'.old
  have lo' : ∀ k, M' k ∨ D' k → (M k ∨ D k) ∨ wr.heap.size ≤ k := fun k h => by
    rcases h with h | h
    · exact (hM k h).imp .inl id
    · exact (hD k h).imp .inr id
  refine ⟨rfl, M', D', S, a, cap, ‹_›, hq', hr.keep hk (fun k h hm => hs k h (.inl hm)), fun k h => ?_, fun k h h' => ?_, hk.after hb0 (fun k hm => (hlo k (.inl hm)).1)⟩
  · have h3 : (M' k ∨ D' k) ∨ S k := by rcases h with h | h | h <;> simp [h]
    rcases h3 with h3 | h3
    · refine ⟨?_, old k h3⟩
      rcases lo' k h3 with h4 | h4
      · exact (hlo k (by rcases h4 with h4 | h4 <;> simp [h4])).1
      · omega
    · have := hlo k (.inr (.inr h3))
      omega
  · rcases lo' k h' with h4 | h4
    · exact hs k h h4
    · have := hlo k (.inr (.inr h))
      omega
theorem pz_get (w wr : World) {g : Nat} {Q : Int} {L : List Pk} {z : List Int} {v : Value} (h : PZ w wr g Q L z v) (k : Nat) (x : Pk) (hx : L[k]? = some x) (at' : Int) (hat : at' = (k : Int)) :
    Calls Try.prog 10 #[.pointer (some ⟨g, 0, none⟩), .int .i64 at'] wr fun e w' => ∃ a n c, e = .returned (.tuple #[x.val (.slice a n c), .bool true]) ∧ Below wr.heap.size wr w' := by
  obtain ⟨M, D, hq⟩ := h.qu
  refine (P.get_some wr hq k x hx at' hat).mono ?_
  rintro e w' ⟨d, rfl, hb, hown⟩
  obtain ⟨a, c, rfl, _⟩ := hown.sl
  exact ⟨a, _, c, rfl, hb⟩
theorem pz_remove (w wr w1 : World) {g : Nat} {Q : Int} {L : List Pk} {z : List Int} {v : Value} (h : PZ w wr g Q L z v) (hb : Below wr.heap.size wr w1) (k : Nat) (x : Pk) (hx : L[k]? = some x) (at' : Int) (hat : at' = (k : Int)) :
    Calls Try.prog 11 #[.pointer (some ⟨g, 0, none⟩), .int .i64 at'] w1 fun e w' => ∃ a n c, e = .returned (.tuple #[x.val (.slice a n c), .bool true]) ∧ PZ w w' g Q (L.eraseIdx k) z v ∧ Keep (fun k => k < wr.heap.size) w1 w' := by
  have h1 := h.below hb
  obtain ⟨M, D, S, a, cap, e, hq, hr, hlo, hs, hb0⟩ := h
  have hr1 := hr.below hb
  refine (P.remove_some w1 (hq.below hb) k x hx at' hat).mono ?_
  rintro e w' ⟨d, rfl, hk, ⟨a2, n2, c2, rfl, _⟩, hq'⟩
  exact ⟨a2, n2, c2, rfl, ⟨M, D, S, a, cap, ‹_›, hq', hr1.keep hk (fun k h hm => hs k h (.inl hm)), fun k h => ⟨(hlo k h).1, Nat.lt_of_lt_of_le (hlo k h).2 (Nat.le_trans hb.size hk.size)⟩, hs, hk.after (next hb0 hb) (fun k hm => (hlo k (.inl hm)).1)⟩, hk.mono (fun k _ hm => (hlo k (.inl hm)).2)⟩
theorem pz_none (w wr : World) {g : Nat} {Q : Int} {L : List Pk} {z : List Int} {v : Value} (h : PZ w wr g Q L z v) (at' : Int) (hat : ¬ (0 ≤ at' ∧ at' < L.length)) :
    Calls Try.prog 11 #[.pointer (some ⟨g, 0, none⟩), .int .i64 at'] wr fun e w' => e = .returned (.tuple #[zeroPk.val (.slice none 0 0), .bool false]) ∧ Below wr.heap.size wr w' := by
  obtain ⟨M, D, hq⟩ := h.qu
  exact P.remove_none wr hq at' hat
theorem PZ.open {w wr : World} {g n cap : Nat} {Q : Int} {L : List Pk} {z : List Int} {a : Option Addr} (h : PZ w wr g Q L z (.slice a n cap)) : z.length = n ∧ ∃ M D S, Qu wr g M D Q L ∧ Rw wr S a n cap 1 (cells z) ∧ (∀ k, M k ∨ D k ∨ S k → w.heap.size ≤ k ∧ k < wr.heap.size) ∧ (∀ k, S k → ¬ (M k ∨ D k)) ∧ Below w.heap.size w wr := by
  obtain ⟨M, D, S, a', cap', e, hq, hr, hlo, hs, hb0⟩ := h
  injection e with e1 e2 e3
  subst e1 e2 e3
  exact ⟨rfl, M, D, S, hq, hr, hlo, hs, hb0⟩
/-- A number more at the list's end. -/
theorem pz_snoc {w wr w' : World} {g n : Nat} {Q : Int} {L : List Pk} {z : List Int} {S M D : Nat → Prop} {a' : Option Addr} {cap' : Nat} {X : Int} (hn : z.length = n) (hq : Qu wr g M D Q L) (hlo : ∀ k, M k ∨ D k ∨ S k → w.heap.size ≤ k ∧ k < wr.heap.size) (hs : ∀ k, S k → ¬ (M k ∨ D k)) (hb : Below w.heap.size w wr)
    (hr : Rw w' (fun k => S k ∨ wr.heap.size ≤ k) a' (n + 1) cap' 1 (cells z ++ cells [X])) (hk : Keep S wr w') : PZ w w' g Q L (z ++ [X]) (.slice a' (n + 1) cap') := by
  subst hn
  have hz := hb.size
  have hzk := hk.size
  refine ⟨M, D, fun k => S k ∨ (wr.heap.size ≤ k ∧ k < w'.heap.size), a', cap', by simp, hq.keep hk (fun k h hs' => hs k hs' h), ?_, fun k h => ?_, fun k h h' => ?_, hk.after hb (fun k h => (hlo k (.inr (.inr h))).1)⟩
  · have e : cells (z ++ [X]) = cells z ++ cells [X] := by simp [cells]
    rw [e, List.length_append]
    exact hr.imp (fun k hk h => h.imp id (fun h => ⟨h, hk⟩))
  · rcases h with h | h | h | h
    · have := hlo k (.inl h); omega
    · have := hlo k (.inr (.inl h)); omega
    · have := hlo k (.inr (.inr h)); omega
    · omega
  · rcases h with h | h
    · exact hs k h h'
    · have := hlo k (by rcases h' with h' | h' <;> simp [h'])
      omega
theorem cell_i1 (w : World) (x : Int) : ∀ j u, (cells [x])[j]? = some u → (w.alloc (.cells #[.int .i64 x] 3)).cell? ((⟨w.heap.size, 0, none⟩ : Addr).add j) = some u := by
  intro j u hu
  obtain ⟨hj, rfl⟩ := cells_get hu
  rw [Addr.add_lit, Nat.zero_add, cell_of_row _ _ _ _ 3 (0, 0) (heap_alloc_new w _)]
  simp at hj
  match j, hj with
  | 0, _ => rfl
theorem idPk_get {z : List Int} {k : Nat} (hk : k < z.length) : (z.map idPk)[k]? = some (idPk (z[k]?.getD 0)) := by simp [hk]
theorem cells_erase (z : List Int) (k : Nat) : (cells z).take (k * 1) ++ (cells z).drop ((k + 1) * 1) = cells (z.eraseIdx k) := by
  rw [Nat.mul_one, Nat.mul_one, List.eraseIdx_eq_take_drop_succ]
  simp [cells, List.map_take, List.map_drop]
/-- Another list, in new memory. -/
theorem pz_other {w wr w' : World} {g n : Nat} {Q : Int} {L : List Pk} {z z' : List Int} {v : Value} {a' : Option Addr} {cap' : Nat} (h : PZ w wr g Q L z v) (hb : Below wr.heap.size wr w') (hn : z'.length = n)
    (hr : Rw w' (fun k => wr.heap.size ≤ k) a' n cap' 1 (cells z')) : PZ w w' g Q L z' (.slice a' n cap') := by
  subst hn
  obtain ⟨M, D, S, a, cap, e, hq, _, hlo, hs, hb0⟩ := h
  have hz := hb0.size
  have hz' := hb.size
  refine ⟨M, D, fun k => wr.heap.size ≤ k ∧ k < w'.heap.size, a', cap', rfl, hq.below hb, hr.imp (fun k hk h => ⟨h, hk⟩), fun k h => ?_, fun k h h' => ?_, next hb0 hb⟩
  · rcases h with h | h | h
    · have := hlo k (.inl h); omega
    · have := hlo k (.inr (.inl h)); omega
    · omega
  · have := hlo k (by rcases h' with h' | h' <;> simp [h'])
    omega
end Go.Proofs.Ytafbcnchgnmjbaa
