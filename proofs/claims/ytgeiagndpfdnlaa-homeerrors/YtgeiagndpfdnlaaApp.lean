/- append of a slice that can be read onto a row that may be written, whichever is empty; pieces of slices. Nothing of the program is named here. -/
import Derived.Test.YtgeiagndpfdnlaaKeep
namespace Go.Proofs.Ytgeiagndpfdnlaa
open Go.RowKit
set_option linter.unusedVariables false
set_option maxRecDepth 20000

theorem run_append_zero {P : Program} (w : World) (t ty e : TypeId) (i : TypeInfo) (ht : P.underlying t = some (.slice e)) (hi : P.info? e = some i) (a : Option Addr) (n cap : Nat) (hn : n ≤ cap) (b : Option Addr) (c : Nat) :
    (Builtin.append_ #[t, t] ty #[.slice a n cap, .slice b 0 c]).run P w = .ok (.slice a n cap) w := by
  have hf : (Builtin.firstCells i.size 0 (.slice b 0 c)).run P w = .ok #[] w := by
    cases b with
    | none => simp [Builtin.firstCells]
    | some x => exact run_firstCells_some (P := P) w i.size 0 x 0 c [] (by simp) (by simp)
  cases a with
  | none => simp [Builtin.append_, run_underlying ht, sizeOf, typeInfo, hi, Builtin.lenOf, hn, hf]
  | some x => simp [Builtin.append_, run_underlying ht, sizeOf, typeInfo, hi, Builtin.lenOf, hn, hf, storeCells]
theorem run_append_slv {P : Program} (w : World) (S : Nat → Prop) (t ty e : TypeId) (i : TypeInfo) (z : Value) (size bytes : Nat) (ht : P.underlying t = some (.slice e)) (hi : P.info? e = some i) (hz : i.zero = some z)
    (hsize : i.size = size) (hby : i.bytes = bytes) (hzs : z.cells.size = size) (hsz : 0 < size)
    (a : Option Addr) (n cap : Nat) (vs : List Value) (hr : Rw w S a n cap size vs)
    (b : Option Addr) (m c : Nat) (news : List Value) (hs : SlV w b m c size news) (h1 : ∀ u ∈ news, u.oneCell' = true)
    (h63 : n + m ≤ maxLen) (hbytes : (n + m) * bytes ≤ 140737488355328) :
    ∃ a' cap' w', (Builtin.append_ #[t, t] ty #[.slice a n cap, .slice b m c]).run P w = .ok (.slice a' (n + m) cap') w' ∧
      Rw w' (fun k => S k ∨ w.heap.size ≤ k) a' (n + m) cap' size (vs ++ news) ∧ Keep S w w' := by
  have hl := hs.len
  by_cases hm : m = 0
  · subst hm
    obtain rfl : news = [] := List.eq_nil_of_length_eq_zero (by simpa using hl)
    refine ⟨a, cap, w, run_append_zero w t ty e i ht hi a n cap hr.le b c, ?_, Keep.refl _ _⟩
    rw [List.append_nil]
    exact hr.imp (fun k _ h => .inl h)
  · have hpos : 0 < m * size := Nat.mul_pos (by omega) hsz
    rcases hs.row with h0 | ⟨blk, o, rfl, hc⟩
    · rw [h0] at hl; simp at hl; omega
    · exact run_append_rw w S t ty e i z size bytes ht hi hz hsize hby hzs hsz a n cap vs hr ⟨blk, o, none⟩ m c news (by omega) hl (fun j u hu => by rw [Addr.add_lit]; exact hc j u hu) h1 h63 hbytes
theorem wpList_append_slv {P : Program} (w : World) {ops : Array Oper} {rest : List Oper} {o : Oper} {act : Act} {Q : Exit → Act → World → Prop} (S : Nat → Prop)
    (hw : Region.wanted o (yielded ops act.tmps) = true) (s x : Operand) (t : TypeId) (hop : o.op = Op.call { callee := Callee.builtin Builtin.append, args := #[s, x], argTypes := #[t, t] })
    (e : TypeId) (i : TypeInfo) (z : Value) (size bytes : Nat) (ht : P.underlying t = some (.slice e)) (hi : P.info? e = some i) (hz : i.zero = some z)
    (hsize : i.size = size) (hby : i.bytes = bytes) (hzs : z.cells.size = size) (hsz : 0 < size)
    (a : Option Addr) (n cap : Nat) (vs : List Value) (hs : act.eval s = .slice a n cap) (hr : Rw w S a n cap size vs)
    (b : Option Addr) (m c : Nat) (news : List Value) (hx : act.eval x = .slice b m c) (hsv : SlV w b m c size news) (h1 : ∀ u ∈ news, u.oneCell' = true)
    (h63 : n + m ≤ maxLen) (hbytes : (n + m) * bytes ≤ 140737488355328)
    (hK : ∀ a' cap' w', Rw w' (fun k => S k ∨ w.heap.size ≤ k) a' (n + m) cap' size (vs ++ news) → Keep S w w' → wpList P ops Q rest (act.put o.dst (.slice a' (n + m) cap')) w') :
    wpList P ops Q (o :: rest) act w := by
  unfold wpList
  rw [if_pos hw]
  left
  obtain ⟨a', cap', w', hrun, r1, r2⟩ := run_append_slv (P := P) w S t o.type e i z size bytes ht hi hz hsize hby hzs hsz a n cap vs hr b m c news hsv h1 h63 hbytes
  unfold Oper.wp
  simp [execOp, hop, resolve, invoke, builtin, hs, hx, hrun, Result.andThen]
  exact hK a' cap' w' r1 r2
/-- One operation of a region in its order, by its run. -/
theorem list_take {P : Program} {ops : Array Oper} {rest : List Oper} {o : Oper} {a : Act} {w : World} {Q : Exit → Act → World → Prop} (v : Value) (w' : World) (hw : Region.wanted o (yielded ops a.tmps) = true)
    (hrun : (execOp a.eval o).run P w = .ok (.value v) w') (h : wpList P ops Q rest (a.put o.dst v) w') : wpList P ops Q (o :: rest) a w := by
  unfold wpList
  rw [if_pos hw]
  left
  unfold Oper.wp
  rw [hrun]
  exact h
theorem SlV.front {w : World} {a : Option Addr} {n cap es : Nat} {vs : List Value} (h : SlV w a n cap es vs) {k : Nat} (hk : k ≤ n) : SlV w a k cap es (vs.take (k * es)) := by
  have hl := h.len
  have hm : k * es ≤ n * es := Nat.mul_le_mul_right _ hk
  refine ⟨by rw [List.length_take]; omega, Nat.le_trans hk h.le, h.max, h.nil, ?_⟩
  rcases h.row with h0 | ⟨b, o, e, hc⟩
  · exact .inl (by rw [h0]; simp)
  · refine .inr ⟨b, o, e, fun i u hu => hc i u ?_⟩
    rw [List.getElem?_take] at hu
    split at hu
    · exact hu
    · cases hu
theorem SlV.rear {w : World} {b o n cap es : Nat} {vs : List Value} (h : SlV w (some ⟨b, o, none⟩) n cap es vs) {k : Nat} (hk : k ≤ n) {A : Addr} (hA : (if cap = k then some (⟨b, o, none⟩ : Addr) else some ⟨b, o + k * es, none⟩) = some A) : SlV w (some A) (n - k) (cap - k) es (vs.drop (k * es)) := by
  have hl := h.len
  have hle := h.le
  have hm : (n - k) * es = n * es - k * es := Nat.sub_mul _ _ _
  have hmx := h.max
  refine ⟨by rw [List.length_drop]; omega, by omega, by omega, fun h => (by cases h), ?_⟩
  by_cases hc : cap = k
  · left
    apply List.eq_nil_of_length_eq_zero
    rw [List.length_drop]
    have : n = k := by omega
    subst this
    omega
  · rw [if_neg hc] at hA
    obtain rfl := Option.some.inj hA
    rcases h.row with h0 | ⟨b', o', e, hcc⟩
    · exact .inl (by rw [h0]; simp)
    · simp at e
      obtain ⟨rfl, rfl⟩ := e
      refine .inr ⟨b, o + k * es, rfl, fun i u hu => ?_⟩
      rw [List.getElem?_drop] at hu
      rw [Nat.add_assoc]
      exact hcc _ u hu
/-- The two pieces, one behind the other, in new memory: one element is left out. -/
theorem slv_cells {w : World} {a : Option Addr} {n cap : Nat} {z : List Int} : SlV w a n cap 1 (cells z) → Sl w a n cap z := by
  intro h
  have hl := h.len
  refine ⟨by simpa [cells] using hl, h.le, h.max, h.nil, ?_⟩
  rcases h.row with h0 | ⟨b, o, e, hc⟩
  · exact .inl (by simpa [cells] using h0)
  · exact .inr ⟨b, o, e, fun i hi => hc i _ (by simp [cells, hi])⟩
theorem cells_slv {w : World} {a : Option Addr} {n cap : Nat} {z : List Int} (h : Sl w a n cap z) : SlV w a n cap 1 (cells z) := by
  have hl := h.len
  refine ⟨by simpa [cells] using hl, h.le, h.max, h.nil, ?_⟩
  rcases h.row with h0 | ⟨b, o, e, hc⟩
  · exact .inl (by simp [cells, h0])
  · refine .inr ⟨b, o, e, fun i u hu => ?_⟩
    obtain ⟨hi, rfl⟩ := cells_get hu
    exact hc i hi
end Go.Proofs.Ytgeiagndpfdnlaa
