/- What a step leaves alone (Keep); rows of values that can be read (SlV), and that may be written, with the room behind them (Rw); append onto such a row. Nothing of the program is named here. -/
import Derived.Test.YtgeiagndpfdnlaaInts
import Derived.ArgAppend
namespace Go.Proofs.Ytgeiagndpfdnlaa
open Go.RowKit
set_option linter.unusedVariables false

/-- But for the blocks of F, what was there is as it was. -/
structure Keep (F : Nat → Prop) (w w' : World) : Prop where
  os : w'.os = w.os
  tape : w'.tape = w.tape
  output : w'.output = w.output
  size : w.heap.size ≤ w'.heap.size
  block : ∀ k, k < w.heap.size → ¬ F k → w'.heap[k]? = w.heap[k]?
theorem Keep.refl (F : Nat → Prop) (w : World) : Keep F w w := ⟨rfl, rfl, rfl, Nat.le_refl _, fun _ _ _ => rfl⟩
theorem Keep.of_below {F : Nat → Prop} {w w' : World} (h : Below w.heap.size w w') : Keep F w w' := ⟨h.os, h.tape, h.output, h.size, fun k hk _ => h.block k hk⟩
theorem Keep.trans {F G : Nat → Prop} {w w1 w2 : World} (h : Keep F w w1) (h2 : Keep G w1 w2) (hG : ∀ k, k < w.heap.size → G k → F k) : Keep F w w2 :=
  ⟨h2.os.trans h.os, h2.tape.trans h.tape, h2.output.trans h.output, Nat.le_trans h.size h2.size, fun k hk hF => (h2.block k (Nat.lt_of_lt_of_le hk h.size) (fun g => hF (hG k hk g))).trans (h.block k hk hF)⟩
theorem Keep.next {F : Nat → Prop} {w w1 w2 : World} (h : Keep F w w1) (h2 : Below w1.heap.size w1 w2) : Keep F w w2 := h.trans (Keep.of_below (F := fun _ => False) h2) (fun _ _ h => h.elim)
theorem Keep.mono {F G : Nat → Prop} {w w' : World} (h : Keep F w w') (hF : ∀ k, k < w.heap.size → F k → G k) : Keep G w w' := ⟨h.os, h.tape, h.output, h.size, fun k hk hG => h.block k hk (fun f => hG (hF k hk f))⟩
theorem Keep.pre {F : Nat → Prop} {w w1 w2 : World} (h : Below w.heap.size w w1) (h2 : Keep F w1 w2) : Keep F w w2 := (Keep.of_below h).trans h2 (fun _ _ h => h)
theorem Keep.setCell {F : Nat → Prop} {w w1 : World} (h : Keep F w w1) {p : Addr} (hp : F p.block ∨ w.heap.size ≤ p.block) (u : Value) : Keep F w (w1.setCell p u) :=
  ⟨h.os, h.tape, h.output, by simpa [World.setCell] using h.size, fun k hk hF => (Below.heap_setCell _ _ _ _ (by rintro rfl; rcases hp with hp | hp; exact hF hp; omega)).trans (h.block k hk hF)⟩
theorem Keep.setCells {F : Nat → Prop} {w : World} {b : Nat} (hp : F b ∨ w.heap.size ≤ b) : ∀ (vs : List Value) (o : Nat) (w1 : World), Keep F w w1 → Keep F w (w1.setCells b o vs)
  | [], _, _, h => h
  | v :: r, o, w1, h => Keep.setCells hp r (o + 1) _ (h.setCell (p := ⟨b, o, none⟩) hp v)
theorem Keep.below {F : Nat → Prop} {w w' : World} {base : Nat} (h : Keep F w w') (hF : ∀ k, F k → base ≤ k) (hb : base ≤ w.heap.size) : Below base w w' :=
  ⟨h.os, h.tape, h.output, h.size, fun k hk => h.block k (Nat.lt_of_lt_of_le hk hb) (fun f => by have := hF k f; omega)⟩
theorem Keep.cell {F : Nat → Prop} {w w' : World} (h : Keep F w w') {b : Nat} (o : Nat) (hb : b < w.heap.size) (hF : ¬ F b) : w'.cell? ⟨b, o, none⟩ = w.cell? ⟨b, o, none⟩ := World.cell?_of_block (w := w) (h.block b hb hF)
theorem Keep.frozen {F : Nat → Prop} {w w' : World} (h : Keep F w w') {b : Nat} (o : Nat) (hb : b < w.heap.size) (hF : ¬ F b) : w'.frozen? ⟨b, o, none⟩ = w.frozen? ⟨b, o, none⟩ := World.frozen?_of_block (w := w) (h.block b hb hF)
theorem Keep.after {F : Nat → Prop} {w V V' : World} (hk : Keep F V V') (h : Below w.heap.size w V) (hF : ∀ k, F k → w.heap.size ≤ k) : Below w.heap.size w V' := h.trans (hk.below hF h.size)
theorem Keep.afterN {F : Nat → Prop} {w V V' : World} {g : Nat} (hk : Keep F V V') (h : Below g w V) (hg : g ≤ V.heap.size) (hF : ∀ k, F k → g ≤ k) : Below g w V' := h.trans (hk.below hF hg)
theorem Keep.one (w : World) (b o : Nat) (v : Value) : Keep (fun k => k = b) w (w.setCell ⟨b, o, none⟩ v) := (Keep.refl (fun k => k = b) w).setCell (p := ⟨b, o, none⟩) (.inl rfl) v
theorem Keep.grown {w w' : World} {row : Option Nat} (hg : w.grownBy w' row) : Keep (fun k => some k = row) w w' := ⟨hg.os, hg.tape, hg.output, hg.size, fun k hk h => hg.block k hk h⟩
theorem Sl.keep {F : Nat → Prop} {w w' : World} {a : Option Addr} {n cap : Nat} {l : List Int} (h : Sl w a n cap l) (hk : Keep F w w') (hF : l ≠ [] → ∀ x : Addr, a = some x → ¬ F x.block) : Sl w' a n cap l := by
  refine ⟨h.len, h.le, h.max, h.nil, ?_⟩
  rcases h.row with h0 | ⟨b, o, rfl, hc⟩
  · exact .inl h0
  · by_cases hl : l = []
    · exact .inl hl
    · refine .inr ⟨b, o, rfl, fun i hi => ?_⟩
      have hi' := hc i hi
      rw [hk.cell _ (World.block_lt_of_cell? w _ hi') (hF hl ⟨b, o, none⟩ rfl)]; exact hi'

/-- A slice of n elements of es cells each whose cells can be read: they are vs. -/
structure SlV (w : World) (a : Option Addr) (n cap es : Nat) (vs : List Value) : Prop where
  len : vs.length = n * es
  le : n ≤ cap
  max : cap ≤ maxLen
  nil : a = none → cap = 0
  row : vs = [] ∨ ∃ b o, a = some ⟨b, o, none⟩ ∧ ∀ i u, vs[i]? = some u → w.cell? ⟨b, o + i, none⟩ = some u
theorem SlV.below {w w' : World} {a : Option Addr} {n cap es : Nat} {vs : List Value} (h : SlV w a n cap es vs) (hb : Below w.heap.size w w') : SlV w' a n cap es vs := by
  refine ⟨h.len, h.le, h.max, h.nil, h.row.imp id ?_⟩
  rintro ⟨b, o, rfl, hc⟩
  refine ⟨b, o, rfl, fun i u hu => ?_⟩
  have hi := hc i u hu
  rw [hb.cell (p := ⟨b, o + i, none⟩) (World.block_lt_of_cell? w _ hi)]
  exact hi
theorem SlV.same {w w' : World} {a : Option Addr} {n cap es : Nat} {vs : List Value} (h : SlV w a n cap es vs) (hh : w'.heap = w.heap) : SlV w' a n cap es vs := by
  refine ⟨h.len, h.le, h.max, h.nil, h.row.imp id ?_⟩
  rintro ⟨b, o, rfl, hc⟩
  exact ⟨b, o, rfl, fun i u hu => by rw [← hc i u hu]; simp [World.cell?, hh]⟩
theorem slv_nil (w : World) (es : Nat) : SlV w none 0 0 es [] := ⟨by simp, Nat.le_refl _, Nat.zero_le _, fun _ => rfl, .inl rfl⟩
theorem slv_own {w : World} {base e es n : Nat} {v : Value} {xs : List Value} (h : w.ownsRow base e es v n xs) : ∃ a cap, v = .slice a n cap ∧ SlV w a n cap es xs := by
  obtain ⟨h1, h2⟩ := h
  rcases h2 with ⟨rfl, rfl⟩ | ⟨g, cap, cur, rfl, hb, hg, hle, hm, hsz, ht⟩
  · obtain rfl : xs = [] := List.eq_nil_of_length_eq_zero (by simpa using h1)
    exact ⟨none, 0, rfl, slv_nil w es⟩
  · refine ⟨some ⟨g, 0, none⟩, cap, rfl, h1, hle, hm, fun h => (by cases h), .inr ⟨g, 0, rfl, fun i u hu => ?_⟩⟩
    rw [Nat.zero_add, cell_of_row w g i cur e (0, 0) hg]
    rw [← ht, List.getElem?_take] at hu
    split at hu
    · simpa using hu
    · cases hu

/-- A slice of n elements of es cells each, in a block of S, that may be written up to its capacity: its cells are vs. -/
structure Rw (w : World) (S : Nat → Prop) (a : Option Addr) (n cap es : Nat) (vs : List Value) : Prop where
  len : vs.length = n * es
  le : n ≤ cap
  max : cap ≤ maxLen
  nil : a = none → cap = 0
  row : cap = 0 ∨ ∃ b o, a = some ⟨b, o, none⟩ ∧ S b ∧ b < w.heap.size ∧ (∀ i u, vs[i]? = some u → w.cell? ⟨b, o + i, none⟩ = some u) ∧ (∀ i, i < cap * es → (w.cell? ⟨b, o + i, none⟩).isSome = true ∧ w.frozen? ⟨b, o + i, none⟩ = false)
theorem rw_nil (w : World) (S : Nat → Prop) (es : Nat) : Rw w S none 0 0 es [] := ⟨by simp, Nat.le_refl _, Nat.zero_le _, fun _ => rfl, .inl rfl⟩
theorem Rw.imp {w : World} {S T : Nat → Prop} {a : Option Addr} {n cap es : Nat} {vs : List Value} (h : Rw w S a n cap es vs) (hS : ∀ k, k < w.heap.size → S k → T k) : Rw w T a n cap es vs :=
  ⟨h.len, h.le, h.max, h.nil, h.row.imp id fun ⟨b, o, e, hs, hb, r⟩ => ⟨b, o, e, hS b hb hs, hb, r⟩⟩
theorem Rw.keep {w w' : World} {S F : Nat → Prop} {a : Option Addr} {n cap es : Nat} {vs : List Value} (h : Rw w S a n cap es vs) (hk : Keep F w w') (hF : ∀ k, S k → ¬ F k) : Rw w' S a n cap es vs :=
  ⟨h.len, h.le, h.max, h.nil, h.row.imp id fun ⟨b, o, e, hs, hb, r, f⟩ => ⟨b, o, e, hs, Nat.lt_of_lt_of_le hb hk.size, fun i u hu => by rw [hk.cell _ hb (hF b hs)]; exact r i u hu, fun i hi => by rw [hk.cell _ hb (hF b hs), hk.frozen _ hb (hF b hs)]; exact f i hi⟩⟩
theorem Rw.below {w w' : World} {S : Nat → Prop} {a : Option Addr} {n cap es : Nat} {vs : List Value} (h : Rw w S a n cap es vs) (hb : Below w.heap.size w w') : Rw w' S a n cap es vs :=
  h.keep (F := fun _ => False) (Keep.of_below hb) (fun _ _ h => h)
theorem Rw.slv {w : World} {S : Nat → Prop} {a : Option Addr} {n cap es : Nat} {vs : List Value} (h : Rw w S a n cap es vs) : SlV w a n cap es vs := by
  refine ⟨h.len, h.le, h.max, h.nil, ?_⟩
  rcases h.row with h0 | ⟨b, o, e, _, _, r, _⟩
  · left
    have h1 := h.len
    have h2 := h.le
    have : n = 0 := by omega
    subst this
    exact List.eq_nil_of_length_eq_zero (by simpa using h1)
  · exact .inr ⟨b, o, e, r⟩
theorem rw_own {w : World} {base e es n : Nat} {v : Value} {xs : List Value} (h : w.ownsRow base e es v n xs) : ∃ a cap, v = .slice a n cap ∧ Rw w (fun k => base ≤ k) a n cap es xs := by
  obtain ⟨h1, h2⟩ := h
  rcases h2 with ⟨rfl, rfl⟩ | ⟨g, cap, cur, rfl, hb, hg, hle, hm, hsz, ht⟩
  · obtain rfl : xs = [] := List.eq_nil_of_length_eq_zero (by simpa using h1)
    exact ⟨none, 0, rfl, rw_nil w _ es⟩
  · refine ⟨some ⟨g, 0, none⟩, cap, rfl, h1, hle, hm, fun h => (by cases h), .inr ⟨g, 0, rfl, hb, (Array.getElem?_eq_some_iff.1 hg).1, fun i u hu => ?_, fun i hi => ?_⟩⟩
    · rw [Nat.zero_add, cell_of_row w g i cur e (0, 0) hg]
      rw [← ht, List.getElem?_take] at hu
      split at hu
      · simpa using hu
      · cases hu
    · rw [Nat.zero_add, cell_of_row w g i cur e (0, 0) hg]
      refine ⟨?_, by simp [World.frozen?, hg]⟩
      rw [Array.getElem?_eq_getElem (by omega)]
      rfl
theorem rwN_some {w : World} {X : Nat → Prop} {a : Option Addr} {n cap es : Nat} {l : List Value} (h : Rw w X a n cap es l) (hn : 0 < n) : ∃ b o, a = some ⟨b, o, none⟩ ∧ X b ∧ b < w.heap.size ∧ Rw w (fun j => j = b) (some ⟨b, o, none⟩) n cap es l := by
  have hle := h.le
  rcases h.row with h0 | ⟨b, o, rfl, hx, hb, hc, hf⟩
  · omega
  · exact ⟨b, o, rfl, hx, hb, h.len, h.le, h.max, h.nil, .inr ⟨b, o, rfl, rfl, hb, hc, hf⟩⟩
/-- One element, or more, onto such a row: in place, or in a new block. -/
theorem run_append_rw {P : Program} (w : World) (S : Nat → Prop) (t ty e : TypeId) (i : TypeInfo) (z : Value) (size bytes : Nat) (ht : P.underlying t = some (.slice e)) (hi : P.info? e = some i) (hz : i.zero = some z)
    (hsize : i.size = size) (hby : i.bytes = bytes) (hzs : z.cells.size = size) (hsz : 0 < size)
    (a : Option Addr) (n cap : Nat) (vs : List Value) (hr : Rw w S a n cap size vs)
    (ad : Addr) (m c : Nat) (news : List Value) (hm : 0 < m) (hl : news.length = m * size) (hnews : ∀ j u, news[j]? = some u → w.cell? (ad.add j) = some u) (h1 : ∀ u ∈ news, u.oneCell' = true)
    (h63 : n + m ≤ maxLen) (hbytes : (n + m) * bytes ≤ 140737488355328) :
    ∃ a' cap' w', (Builtin.append_ #[t, t] ty #[.slice a n cap, .slice (some ad) m c]).run P w = .ok (.slice a' (n + m) cap') w' ∧
      Rw w' (fun k => S k ∨ w.heap.size ≤ k) a' (n + m) cap' size (vs ++ news) ∧ Keep S w w' := by
  have hlen : (vs ++ news).length = (n + m) * size := by rw [List.length_append, hr.len, hl, Nat.add_mul]
  by_cases hroom : n + m ≤ cap
  · rcases hr.row with h0 | ⟨b, o, rfl, hs, hb, hc, hf⟩
    · omega
    · subst hsize
      have hin : ∀ j, j < news.length → n * i.size + j < cap * i.size := fun j hj => by
        have : (n + m) * i.size ≤ cap * i.size := Nat.mul_le_mul_right _ hroom
        rw [Nat.add_mul] at this
        omega
      have hrun := run_append_room_cells (P := P) w t ty e i ht hi b o n cap ad m c news hl hnews h1 hroom
        (fun j hj => by rw [Nat.add_assoc]; exact (hf _ (hin j hj)).1) (fun j hj => by rw [Nat.add_assoc]; exact (hf _ (hin j hj)).2)
      have hsome : ∀ j, j < news.length → (w.cell? ⟨b, o + n * i.size + j, none⟩).isSome = true := fun j hj => by rw [Nat.add_assoc]; exact (hf _ (hin j hj)).1
      refine ⟨_, _, _, hrun, ⟨hlen, hroom, hr.max, fun h => (by cases h), .inr ⟨b, o, rfl, .inl hs, ?_, fun j u hu => ?_, fun j hj => ?_⟩⟩, Keep.setCells (.inl hs) _ _ _ (Keep.refl _ _)⟩
      · exact Nat.lt_of_lt_of_le hb (Keep.setCells (F := S) (.inl hs) news _ _ (Keep.refl S w)).size
      · by_cases hj : j < vs.length
        · rw [List.getElem?_append_left hj] at hu
          rw [World.cell?_setCells_out b news _ w ⟨b, o + j, none⟩ (fun _ _ => .inl (by have := hr.len; simp only; omega))]
          exact hc j u hu
        · rw [List.getElem?_append_right (by omega)] at hu
          have hj2 : j - vs.length < news.length := (List.getElem?_eq_some_iff.1 hu).1
          have := World.cell?_setCells_in b news (o + n * i.size) w hsome (j - vs.length) hj2
          rw [show o + j = o + n * i.size + (j - vs.length) by have := hr.len; omega, this, ← List.getElem?_eq_getElem hj2]
          exact hu
      · rw [World.frozen?_setCells]
        refine ⟨?_, (hf j hj).2⟩
        by_cases hj1 : n * i.size ≤ j ∧ j < n * i.size + news.length
        · have := World.cell?_setCells_in b news (o + n * i.size) w hsome (j - n * i.size) (by omega)
          rw [show o + j = o + n * i.size + (j - n * i.size) by omega, this]
          rfl
        · rw [World.cell?_setCells_out b news _ w ⟨b, o + j, none⟩ (fun _ _ => by simp only; omega)]
          exact (hf j hj).1
  · have done : ∀ v' w', w'.ownsRow w.heap.size e size v' (n + m) (vs ++ news) → w.grownBy w' none →
        ∃ a' cap', v' = .slice a' (n + m) cap' ∧ Rw w' (fun k => S k ∨ w.heap.size ≤ k) a' (n + m) cap' size (vs ++ news) ∧ Keep S w w' := by
      intro v' w' r1 r2
      obtain ⟨a', cap', e', hrw⟩ := rw_own r1
      exact ⟨a', cap', e', hrw.imp (fun k _ h => .inr h), Keep.of_below (below_new r2)⟩
    cases a with
    | some x =>
      have hc : ∀ j u, vs[j]? = some u → w.cell? (x.add j) = some u := fun j u hu => by
        rcases hr.row with h0 | ⟨b, o, e, _, _, hc, _⟩
        · have h2 := hr.le
          have h3 := hr.len
          have : n = 0 := by omega
          subst this
          have : vs = [] := List.eq_nil_of_length_eq_zero (by simpa using h3)
          subst this
          simp at hu
        · obtain rfl := Option.some.inj e
          rw [Addr.add_lit]; exact hc j u hu
      obtain ⟨v', w', hrun, r1, r2⟩ := run_append_arg_grows (P := P) w t ty e i z size bytes ht hi hz hsize hby hzs hsz x n cap vs hr.len hc ad m c news hl hnews (by omega) h63 hbytes
      obtain ⟨a', cap', rfl, h2, h3⟩ := done v' w' r1 r2
      exact ⟨a', cap', w', hrun, h2, h3⟩
    | none =>
      obtain rfl : cap = 0 := hr.nil rfl
      obtain rfl : n = 0 := by have := hr.le; omega
      obtain rfl : vs = [] := List.eq_nil_of_length_eq_zero (by simpa using hr.len)
      obtain ⟨v', w', hrun, r1, r2, _⟩ := run_append_own (P := P) w w.heap.size t ty e i z size bytes ht hi hz hsize hby hzs hsz (.slice none 0 0) 0 [] (World.ownsRow_nil w _ e size) ad m c news hl hnews h1 h63 hbytes (Nat.le_refl _)
      obtain ⟨a', cap', rfl, h2, h3⟩ := done v' w' r1 r2
      exact ⟨a', cap', w', hrun, h2, h3⟩
theorem wpList_append_rw {P : Program} (w : World) {ops : Array Oper} {rest : List Oper} {o : Oper} {act : Act} {Q : Exit → Act → World → Prop} (S : Nat → Prop)
    (hw : Region.wanted o (yielded ops act.tmps) = true) (s x : Operand) (t : TypeId) (hop : o.op = Op.call { callee := Callee.builtin Builtin.append, args := #[s, x], argTypes := #[t, t] })
    (e : TypeId) (i : TypeInfo) (z : Value) (size bytes : Nat) (ht : P.underlying t = some (.slice e)) (hi : P.info? e = some i) (hz : i.zero = some z)
    (hsize : i.size = size) (hby : i.bytes = bytes) (hzs : z.cells.size = size) (hsz : 0 < size)
    (a : Option Addr) (n cap : Nat) (vs : List Value) (hs : act.eval s = .slice a n cap) (hr : Rw w S a n cap size vs)
    (ad : Addr) (m c : Nat) (news : List Value) (hx : act.eval x = .slice (some ad) m c) (hm : 0 < m) (hl : news.length = m * size) (hnews : ∀ j u, news[j]? = some u → w.cell? (ad.add j) = some u) (h1 : ∀ u ∈ news, u.oneCell' = true)
    (h63 : n + m ≤ maxLen) (hbytes : (n + m) * bytes ≤ 140737488355328)
    (hK : ∀ a' cap' w', Rw w' (fun k => S k ∨ w.heap.size ≤ k) a' (n + m) cap' size (vs ++ news) → Keep S w w' → wpList P ops Q rest (act.put o.dst (.slice a' (n + m) cap')) w') :
    wpList P ops Q (o :: rest) act w := by
  unfold wpList
  rw [if_pos hw]
  left
  obtain ⟨a', cap', w', hrun, r1, r2⟩ := run_append_rw (P := P) w S t o.type e i z size bytes ht hi hz hsize hby hzs hsz a n cap vs hr ad m c news hm hl hnews h1 h63 hbytes
  unfold Oper.wp
  simp [execOp, hop, resolve, invoke, builtin, hs, hx, hrun, Result.andThen]
  exact hK a' cap' w' r1 r2
/-- New since w, and none of X. -/
@[reducible] def NX (w : World) (X : Nat → Prop) (j : Nat) : Prop := w.heap.size ≤ j ∧ ¬ X j
end Go.Proofs.Ytgeiagndpfdnlaa
