/- Regions that draw their order, order by order: what looks at no memory is taken first. Nothing of the program is named here.
What a step leaves alone (Keep); rows of values that can be read (SlV), and that may be written, with the room behind them (Rw); append onto such a row. Nothing of the program is named here.
Packets as plain data; a packet's variable in memory; rows of packets, their words. Conditions: as each theorem states them.
Packets as plain data: what may be, and their bytes. No condition.
Packets as they come in: the value written out, its words readable.
Lists of structs as they come in: each element's cells, with the reading of each field. Nothing of the program is named here.
Maps from whole numbers, as lists of pairs: what is there (IM); what a look-up, a store, a delete make of them. Lists with a key (putK, delK). Conditions: as each theorem states them.
Chapter 11's lists of acts as they come in: each act's cells: what, a packet (its words where av says), how.
append of a slice that can be read onto a row that may be written, whichever is empty; pieces of slices. Nothing of the program is named here.
Rows of structs, cell by cell (flat); rows that are written in place. Nothing of the program is named here.
A line in a cache as plain data (En), and its variable in memory (Eb). Nothing of the program is named here but its type.
Rows of entries in memory that may be written, their words elsewhere (ERow). Nothing of the program is named here but the entries' type.
What a home knows of its lines, in memory: a map of rows by line (MW). Nothing of the program is named here but its types.
A directory beside what a test has of its own (MO): its memory is new, and none of X. Conditions: as each theorem states them. -/
import Derived.Test.YtgeiagndpfdnlaaPart1
import Derived.ArgAppend
import Derived.Deep.CutBlock
import Derived.Deep.Slices
import Derived.Maps.OwnSet
import Derived.Maps.OwnOps
section
namespace Go.Proofs.Ytgeiagndpfdnlaa
open Go.RowKit
set_option linter.unusedVariables false

section
variable {P : Program} {Q : Exit → Act → World → Prop}

theorem wp_region_orders {id : Nat} {a : Act} {w : World} {l : List Oper} (n : Nat) (hn : l.length = n) (hm : P.follows .mixedOrders = true) (h : wpAny P .any l.toArray Q n (Array.replicate n false) a w.drew) : (Code.region id l.toArray true).wp P Q a w := by
  subst hn
  refine wp_region_any hm ?_
  simpa using h
theorem any_take (i : Nat) (v : Value) {l rest : List Oper} {oi : Oper} {fuel : Nat} {listed : Array Bool} {a : Act} {w : World} (hd : l.drop i = oi :: rest) (hs : Region.noSelect l.toArray = true)
    (hf : Region.free .any l.toArray listed i = true) (hr : (Region.ready .any l.toArray listed).contains i = true) (hQ : ∀ c a w, Q (.panic c) (a.put oi.dst v) w → Q (.panic c) a w)
    (hw : Region.wanted oi (yielded l.toArray a.tmps) = true) (hy : ∀ w, (execOp a.eval oi).run P w = .ok (.value v) w)
    (h : wpAny P .any l.toArray Q fuel (listed.setIfInBounds i true) (a.put oi.dst v) w) : wpAny P .any l.toArray Q (fuel + 1) listed a w :=
  wpAny_take (of_drop hd) hs hf hr hQ (.inl ⟨hw, hy⟩) h
theorem op_list (q : Nat) {l rq : List Oper} {oq : Oper} {K : Act → World → Prop} {a : Act} {w : World} (hd : l.drop q = oq :: rq) (h : wpList P l.toArray (Then K Q) [oq] a w) : wpOp P l.toArray Q q K a w := by
  have hi := of_drop hd
  unfold wpOp
  simp only [hi]
  unfold wpList at h
  by_cases hw : Region.wanted oq (yielded l.toArray a.tmps) = true
  · rw [if_pos hw] at h ⊢
    refine h.imp (fun h => ?_) id
    unfold Oper.wp at *
    revert h
    generalize (execOp a.eval oq).run P w = r
    intro h
    rcases r with ⟨n, w'⟩ | ⟨x, w'⟩
    · cases n with
      | enter f args =>
        exact Calls.mono h fun e w'' he => by
          cases e <;> exact he
      | _ => exact h
    · cases x <;> exact h
  · rw [if_neg hw] at h ⊢
    exact h
theorem any_list (i : Nat) {l rest : List Oper} {oi : Oper} {fuel : Nat} {listed : Array Bool} {a : Act} {w : World} (hr : Region.ready .any l.toArray listed = [i]) (hd : l.drop i = oi :: rest)
    (h : wpList P l.toArray (Then (fun a' w' => wpAny P .any l.toArray Q fuel (listed.setIfInBounds i true) a' w') Q) [oi] a w) : wpAny P .any l.toArray Q (fuel + 1) listed a w :=
  wpAny_all hr (by simp) fun q hq => by
    rw [List.mem_singleton] at hq
    subst hq
    exact op_list q hd h
theorem any_two (i j : Nat) {l ri rj : List Oper} {oi oj : Oper} {fuel : Nat} {listed : Array Bool} {a : Act} {w : World} (hr : Region.ready .any l.toArray listed = [i, j]) (hdi : l.drop i = oi :: ri) (hdj : l.drop j = oj :: rj)
    (hi : wpList P l.toArray (Then (fun a' w' => wpAny P .any l.toArray Q fuel (listed.setIfInBounds i true) a' w') Q) [oi] a w)
    (hj : wpList P l.toArray (Then (fun a' w' => wpAny P .any l.toArray Q fuel (listed.setIfInBounds j true) a' w') Q) [oj] a w) : wpAny P .any l.toArray Q (fuel + 1) listed a w :=
  wpAny_all hr (by simp) fun q hq => by
    simp at hq
    rcases hq with rfl | rfl
    · exact op_list q hdi hi
    · exact op_list q hdj hj
theorem any_done {fuel : Nat} {l : List Oper} {listed : Array Bool} {a : Act} {w : World} (hr : Region.ready .any l.toArray listed = []) (h : Q .normal a w) : wpAny P .any l.toArray Q fuel listed a w := wpAny_done hr h fuel
theorem then_n {K : Act → World → Prop} {a : Act} {w : World} (h : K a w) : Then K Q .normal a w := h
end
end Go.Proofs.Ytgeiagndpfdnlaa
end
section
namespace Go.Proofs.Ytgeiagndpfdnlaa
open Go.RowKit
set_option linter.unusedVariables false

/-- But for the blocks of F, what was there is as it was. -/
structure Keep (F : Nat → Prop) (w w' : World) : Prop where
  os : w'.os = w.os
  tape : w'.tape = w.tape
  output : w'.output = w.output
  size : w.heap.size ≤ w'.heap.size
  block : ∀ k, k < w.heap.size → ¬ F k → w'.heap[k]? = w.heap[k]?
theorem Keep.refl (F : Nat → Prop) (w : World) : Keep F w w := ⟨rfl, rfl, rfl, Nat.le_refl _, fun _ _ _ => rfl⟩
theorem Keep.of_below {F : Nat → Prop} {w w' : World} (h : Below w.heap.size w w') : Keep F w w' := ⟨h.os, h.tape, h.output, h.size, fun k hk _ => h.block k hk⟩
theorem Keep.trans {F G : Nat → Prop} {w w1 w2 : World} (h : Keep F w w1) (h2 : Keep G w1 w2) (hG : ∀ k, k < w.heap.size → G k → F k) : Keep F w w2 :=
  ⟨h2.os.trans h.os, h2.tape.trans h.tape, h2.output.trans h.output, Nat.le_trans h.size h2.size, fun k hk hF => (h2.block k (Nat.lt_of_lt_of_le hk h.size) (fun g => hF (hG k hk g))).trans (h.block k hk hF)⟩
theorem Keep.next {F : Nat → Prop} {w w1 w2 : World} (h : Keep F w w1) (h2 : Below w1.heap.size w1 w2) : Keep F w w2 := h.trans (Keep.of_below (F := fun _ => False) h2) (fun _ _ h => h.elim)
theorem Keep.mono {F G : Nat → Prop} {w w' : World} (h : Keep F w w') (hF : ∀ k, k < w.heap.size → F k → G k) : Keep G w w' := ⟨h.os, h.tape, h.output, h.size, fun k hk hG => h.block k hk (fun f => hG (hF k hk f))⟩
theorem Keep.pre {F : Nat → Prop} {w w1 w2 : World} (h : Below w.heap.size w w1) (h2 : Keep F w1 w2) : Keep F w w2 := (Keep.of_below h).trans h2 (fun _ _ h => h)
theorem Keep.setCell {F : Nat → Prop} {w w1 : World} (h : Keep F w w1) {p : Addr} (hp : F p.block ∨ w.heap.size ≤ p.block) (u : Value) : Keep F w (w1.setCell p u) :=
  ⟨h.os, h.tape, h.output, by simpa [World.setCell] using h.size, fun k hk hF => (Below.heap_setCell _ _ _ _ (by rintro rfl; rcases hp with hp | hp; exact hF hp; omega)).trans (h.block k hk hF)⟩
theorem Keep.setCells {F : Nat → Prop} {w : World} {b : Nat} (hp : F b ∨ w.heap.size ≤ b) : ∀ (vs : List Value) (o : Nat) (w1 : World), Keep F w w1 → Keep F w (w1.setCells b o vs)
  | [], _, _, h => h
  | v :: r, o, w1, h => Keep.setCells hp r (o + 1) _ (h.setCell (p := ⟨b, o, none⟩) hp v)
theorem Keep.below {F : Nat → Prop} {w w' : World} {base : Nat} (h : Keep F w w') (hF : ∀ k, F k → base ≤ k) (hb : base ≤ w.heap.size) : Below base w w' :=
  ⟨h.os, h.tape, h.output, h.size, fun k hk => h.block k (Nat.lt_of_lt_of_le hk hb) (fun f => by have := hF k f; omega)⟩
theorem Keep.cell {F : Nat → Prop} {w w' : World} (h : Keep F w w') {b : Nat} (o : Nat) (hb : b < w.heap.size) (hF : ¬ F b) : w'.cell? ⟨b, o, none⟩ = w.cell? ⟨b, o, none⟩ := World.cell?_of_block (w := w) (h.block b hb hF)
theorem Keep.frozen {F : Nat → Prop} {w w' : World} (h : Keep F w w') {b : Nat} (o : Nat) (hb : b < w.heap.size) (hF : ¬ F b) : w'.frozen? ⟨b, o, none⟩ = w.frozen? ⟨b, o, none⟩ := World.frozen?_of_block (w := w) (h.block b hb hF)
theorem Keep.after {F : Nat → Prop} {w V V' : World} (hk : Keep F V V') (h : Below w.heap.size w V) (hF : ∀ k, F k → w.heap.size ≤ k) : Below w.heap.size w V' := h.trans (hk.below hF h.size)
theorem Keep.afterN {F : Nat → Prop} {w V V' : World} {g : Nat} (hk : Keep F V V') (h : Below g w V) (hg : g ≤ V.heap.size) (hF : ∀ k, F k → g ≤ k) : Below g w V' := h.trans (hk.below hF hg)
theorem Keep.one (w : World) (b o : Nat) (v : Value) : Keep (fun k => k = b) w (w.setCell ⟨b, o, none⟩ v) := (Keep.refl (fun k => k = b) w).setCell (p := ⟨b, o, none⟩) (.inl rfl) v
theorem Keep.grown {w w' : World} {row : Option Nat} (hg : w.grownBy w' row) : Keep (fun k => some k = row) w w' := ⟨hg.os, hg.tape, hg.output, hg.size, fun k hk h => hg.block k hk h⟩
theorem Sl.keep {F : Nat → Prop} {w w' : World} {a : Option Addr} {n cap : Nat} {l : List Int} (h : Sl w a n cap l) (hk : Keep F w w') (hF : l ≠ [] → ∀ x : Addr, a = some x → ¬ F x.block) : Sl w' a n cap l := by
  refine ⟨h.len, h.le, h.max, h.nil, ?_⟩
  rcases h.row with h0 | ⟨b, o, rfl, hc⟩
  · exact .inl h0
  · by_cases hl : l = []
    · exact .inl hl
    · refine .inr ⟨b, o, rfl, fun i hi => ?_⟩
      have hi' := hc i hi
      rw [hk.cell _ (World.block_lt_of_cell? w _ hi') (hF hl ⟨b, o, none⟩ rfl)]; exact hi'

/-- A slice of n elements of es cells each whose cells can be read: they are vs. -/
structure SlV (w : World) (a : Option Addr) (n cap es : Nat) (vs : List Value) : Prop where
  len : vs.length = n * es
  le : n ≤ cap
  max : cap ≤ maxLen
  nil : a = none → cap = 0
  row : vs = [] ∨ ∃ b o, a = some ⟨b, o, none⟩ ∧ ∀ i u, vs[i]? = some u → w.cell? ⟨b, o + i, none⟩ = some u
theorem SlV.below {w w' : World} {a : Option Addr} {n cap es : Nat} {vs : List Value} (h : SlV w a n cap es vs) (hb : Below w.heap.size w w') : SlV w' a n cap es vs := by
  refine ⟨h.len, h.le, h.max, h.nil, h.row.imp id ?_⟩
  rintro ⟨b, o, rfl, hc⟩
  refine ⟨b, o, rfl, fun i u hu => ?_⟩
  have hi := hc i u hu
  rw [hb.cell (p := ⟨b, o + i, none⟩) (World.block_lt_of_cell? w _ hi)]
  exact hi
theorem SlV.same {w w' : World} {a : Option Addr} {n cap es : Nat} {vs : List Value} (h : SlV w a n cap es vs) (hh : w'.heap = w.heap) : SlV w' a n cap es vs := by
  refine ⟨h.len, h.le, h.max, h.nil, h.row.imp id ?_⟩
  rintro ⟨b, o, rfl, hc⟩
  exact ⟨b, o, rfl, fun i u hu => by rw [← hc i u hu]; simp [World.cell?, hh]⟩
theorem slv_nil (w : World) (es : Nat) : SlV w none 0 0 es [] := ⟨by simp, Nat.le_refl _, Nat.zero_le _, fun _ => rfl, .inl rfl⟩
theorem slv_own {w : World} {base e es n : Nat} {v : Value} {xs : List Value} (h : w.ownsRow base e es v n xs) : ∃ a cap, v = .slice a n cap ∧ SlV w a n cap es xs := by
  obtain ⟨h1, h2⟩ := h
  rcases h2 with ⟨rfl, rfl⟩ | ⟨g, cap, cur, rfl, hb, hg, hle, hm, hsz, ht⟩
  · obtain rfl : xs = [] := List.eq_nil_of_length_eq_zero (by simpa using h1)
    exact ⟨none, 0, rfl, slv_nil w es⟩
  · refine ⟨some ⟨g, 0, none⟩, cap, rfl, h1, hle, hm, fun h => (by cases h), .inr ⟨g, 0, rfl, fun i u hu => ?_⟩⟩
    rw [Nat.zero_add, cell_of_row w g i cur e (0, 0) hg]
    rw [← ht, List.getElem?_take] at hu
    split at hu
    · simpa using hu
    · cases hu

/-- A slice of n elements of es cells each, in a block of S, that may be written up to its capacity: its cells are vs. -/
structure Rw (w : World) (S : Nat → Prop) (a : Option Addr) (n cap es : Nat) (vs : List Value) : Prop where
  len : vs.length = n * es
  le : n ≤ cap
  max : cap ≤ maxLen
  nil : a = none → cap = 0
  row : cap = 0 ∨ ∃ b o, a = some ⟨b, o, none⟩ ∧ S b ∧ b < w.heap.size ∧ (∀ i u, vs[i]? = some u → w.cell? ⟨b, o + i, none⟩ = some u) ∧ (∀ i, i < cap * es → (w.cell? ⟨b, o + i, none⟩).isSome = true ∧ w.frozen? ⟨b, o + i, none⟩ = false)
theorem rw_nil (w : World) (S : Nat → Prop) (es : Nat) : Rw w S none 0 0 es [] := ⟨by simp, Nat.le_refl _, Nat.zero_le _, fun _ => rfl, .inl rfl⟩
theorem Rw.imp {w : World} {S T : Nat → Prop} {a : Option Addr} {n cap es : Nat} {vs : List Value} (h : Rw w S a n cap es vs) (hS : ∀ k, k < w.heap.size → S k → T k) : Rw w T a n cap es vs :=
  ⟨h.len, h.le, h.max, h.nil, h.row.imp id fun ⟨b, o, e, hs, hb, r⟩ => ⟨b, o, e, hS b hb hs, hb, r⟩⟩
theorem Rw.keep {w w' : World} {S F : Nat → Prop} {a : Option Addr} {n cap es : Nat} {vs : List Value} (h : Rw w S a n cap es vs) (hk : Keep F w w') (hF : ∀ k, S k → ¬ F k) : Rw w' S a n cap es vs :=
  ⟨h.len, h.le, h.max, h.nil, h.row.imp id fun ⟨b, o, e, hs, hb, r, f⟩ => ⟨b, o, e, hs, Nat.lt_of_lt_of_le hb hk.size, fun i u hu => by rw [hk.cell _ hb (hF b hs)]; exact r i u hu, fun i hi => by rw [hk.cell _ hb (hF b hs), hk.frozen _ hb (hF b hs)]; exact f i hi⟩⟩
theorem Rw.below {w w' : World} {S : Nat → Prop} {a : Option Addr} {n cap es : Nat} {vs : List Value} (h : Rw w S a n cap es vs) (hb : Below w.heap.size w w') : Rw w' S a n cap es vs :=
  h.keep (F := fun _ => False) (Keep.of_below hb) (fun _ _ h => h)
theorem Rw.slv {w : World} {S : Nat → Prop} {a : Option Addr} {n cap es : Nat} {vs : List Value} (h : Rw w S a n cap es vs) : SlV w a n cap es vs := by
  refine ⟨h.len, h.le, h.max, h.nil, ?_⟩
  rcases h.row with h0 | ⟨b, o, e, _, _, r, _⟩
  · left
    have h1 := h.len
    have h2 := h.le
    have : n = 0 := by omega
    subst this
    exact List.eq_nil_of_length_eq_zero (by simpa using h1)
  · exact .inr ⟨b, o, e, r⟩
theorem rw_own {w : World} {base e es n : Nat} {v : Value} {xs : List Value} (h : w.ownsRow base e es v n xs) : ∃ a cap, v = .slice a n cap ∧ Rw w (fun k => base ≤ k) a n cap es xs := by
  obtain ⟨h1, h2⟩ := h
  rcases h2 with ⟨rfl, rfl⟩ | ⟨g, cap, cur, rfl, hb, hg, hle, hm, hsz, ht⟩
  · obtain rfl : xs = [] := List.eq_nil_of_length_eq_zero (by simpa using h1)
    exact ⟨none, 0, rfl, rw_nil w _ es⟩
  · refine ⟨some ⟨g, 0, none⟩, cap, rfl, h1, hle, hm, fun h => (by cases h), .inr ⟨g, 0, rfl, hb, (Array.getElem?_eq_some_iff.1 hg).1, fun i u hu => ?_, fun i hi => ?_⟩⟩
    · rw [Nat.zero_add, cell_of_row w g i cur e (0, 0) hg]
      rw [← ht, List.getElem?_take] at hu
      split at hu
      · simpa using hu
      · cases hu
    · rw [Nat.zero_add, cell_of_row w g i cur e (0, 0) hg]
      refine ⟨?_, by simp [World.frozen?, hg]⟩
      rw [Array.getElem?_eq_getElem (by omega)]
      rfl
theorem rwN_some {w : World} {X : Nat → Prop} {a : Option Addr} {n cap es : Nat} {l : List Value} (h : Rw w X a n cap es l) (hn : 0 < n) : ∃ b o, a = some ⟨b, o, none⟩ ∧ X b ∧ b < w.heap.size ∧ Rw w (fun j => j = b) (some ⟨b, o, none⟩) n cap es l := by
  have hle := h.le
  rcases h.row with h0 | ⟨b, o, rfl, hx, hb, hc, hf⟩
  · omega
  · exact ⟨b, o, rfl, hx, hb, h.len, h.le, h.max, h.nil, .inr ⟨b, o, rfl, rfl, hb, hc, hf⟩⟩
/-- One element, or more, onto such a row: in place, or in a new block. -/
theorem run_append_rw {P : Program} (w : World) (S : Nat → Prop) (t ty e : TypeId) (i : TypeInfo) (z : Value) (size bytes : Nat) (ht : P.underlying t = some (.slice e)) (hi : P.info? e = some i) (hz : i.zero = some z)
    (hsize : i.size = size) (hby : i.bytes = bytes) (hzs : z.cells.size = size) (hsz : 0 < size)
    (a : Option Addr) (n cap : Nat) (vs : List Value) (hr : Rw w S a n cap size vs)
    (ad : Addr) (m c : Nat) (news : List Value) (hm : 0 < m) (hl : news.length = m * size) (hnews : ∀ j u, news[j]? = some u → w.cell? (ad.add j) = some u) (h1 : ∀ u ∈ news, u.oneCell' = true)
    (h63 : n + m ≤ maxLen) (hbytes : (n + m) * bytes ≤ 140737488355328) :
    ∃ a' cap' w', (Builtin.append_ #[t, t] ty #[.slice a n cap, .slice (some ad) m c]).run P w = .ok (.slice a' (n + m) cap') w' ∧
      Rw w' (fun k => S k ∨ w.heap.size ≤ k) a' (n + m) cap' size (vs ++ news) ∧ Keep S w w' := by
  have hlen : (vs ++ news).length = (n + m) * size := by rw [List.length_append, hr.len, hl, Nat.add_mul]
  by_cases hroom : n + m ≤ cap
  · rcases hr.row with h0 | ⟨b, o, rfl, hs, hb, hc, hf⟩
    · omega
    · subst hsize
      have hin : ∀ j, j < news.length → n * i.size + j < cap * i.size := fun j hj => by
        have : (n + m) * i.size ≤ cap * i.size := Nat.mul_le_mul_right _ hroom
        rw [Nat.add_mul] at this
        omega
      have hrun := run_append_room_cells (P := P) w t ty e i ht hi b o n cap ad m c news hl hnews h1 hroom
        (fun j hj => by rw [Nat.add_assoc]; exact (hf _ (hin j hj)).1) (fun j hj => by rw [Nat.add_assoc]; exact (hf _ (hin j hj)).2)
      have hsome : ∀ j, j < news.length → (w.cell? ⟨b, o + n * i.size + j, none⟩).isSome = true := fun j hj => by rw [Nat.add_assoc]; exact (hf _ (hin j hj)).1
      refine ⟨_, _, _, hrun, ⟨hlen, hroom, hr.max, fun h => (by cases h), .inr ⟨b, o, rfl, .inl hs, ?_, fun j u hu => ?_, fun j hj => ?_⟩⟩, Keep.setCells (.inl hs) _ _ _ (Keep.refl _ _)⟩
      · exact Nat.lt_of_lt_of_le hb (Keep.setCells (F := S) (.inl hs) news _ _ (Keep.refl S w)).size
      · by_cases hj : j < vs.length
        · rw [List.getElem?_append_left hj] at hu
          rw [World.cell?_setCells_out b news _ w ⟨b, o + j, none⟩ (fun _ _ => .inl (by have := hr.len; simp only; omega))]
          exact hc j u hu
        · rw [List.getElem?_append_right (by omega)] at hu
          have hj2 : j - vs.length < news.length := (List.getElem?_eq_some_iff.1 hu).1
          have := World.cell?_setCells_in b news (o + n * i.size) w hsome (j - vs.length) hj2
          rw [show o + j = o + n * i.size + (j - vs.length) by have := hr.len; omega, this, ← List.getElem?_eq_getElem hj2]
          exact hu
      · rw [World.frozen?_setCells]
        refine ⟨?_, (hf j hj).2⟩
        by_cases hj1 : n * i.size ≤ j ∧ j < n * i.size + news.length
        · have := World.cell?_setCells_in b news (o + n * i.size) w hsome (j - n * i.size) (by omega)
          rw [show o + j = o + n * i.size + (j - n * i.size) by omega, this]
          rfl
        · rw [World.cell?_setCells_out b news _ w ⟨b, o + j, none⟩ (fun _ _ => by simp only; omega)]
          exact (hf j hj).1
  · have done : ∀ v' w', w'.ownsRow w.heap.size e size v' (n + m) (vs ++ news) → w.grownBy w' none →
        ∃ a' cap', v' = .slice a' (n + m) cap' ∧ Rw w' (fun k => S k ∨ w.heap.size ≤ k) a' (n + m) cap' size (vs ++ news) ∧ Keep S w w' := by
      intro v' w' r1 r2
      obtain ⟨a', cap', e', hrw⟩ := rw_own r1
      exact ⟨a', cap', e', hrw.imp (fun k _ h => .inr h), Keep.of_below (below_new r2)⟩
    cases a with
    | some x =>
      have hc : ∀ j u, vs[j]? = some u → w.cell? (x.add j) = some u := fun j u hu => by
        rcases hr.row with h0 | ⟨b, o, e, _, _, hc, _⟩
        · have h2 := hr.le
          have h3 := hr.len
          have : n = 0 := by omega
          subst this
          have : vs = [] := List.eq_nil_of_length_eq_zero (by simpa using h3)
          subst this
          simp at hu
        · obtain rfl := Option.some.inj e
          rw [Addr.add_lit]; exact hc j u hu
      obtain ⟨v', w', hrun, r1, r2⟩ := run_append_arg_grows (P := P) w t ty e i z size bytes ht hi hz hsize hby hzs hsz x n cap vs hr.len hc ad m c news hl hnews (by omega) h63 hbytes
      obtain ⟨a', cap', rfl, h2, h3⟩ := done v' w' r1 r2
      exact ⟨a', cap', w', hrun, h2, h3⟩
    | none =>
      obtain rfl : cap = 0 := hr.nil rfl
      obtain rfl : n = 0 := by have := hr.le; omega
      obtain rfl : vs = [] := List.eq_nil_of_length_eq_zero (by simpa using hr.len)
      obtain ⟨v', w', hrun, r1, r2, _⟩ := run_append_own (P := P) w w.heap.size t ty e i z size bytes ht hi hz hsize hby hzs hsz (.slice none 0 0) 0 [] (World.ownsRow_nil w _ e size) ad m c news hl hnews h1 h63 hbytes (Nat.le_refl _)
      obtain ⟨a', cap', rfl, h2, h3⟩ := done v' w' r1 r2
      exact ⟨a', cap', w', hrun, h2, h3⟩
theorem wpList_append_rw {P : Program} (w : World) {ops : Array Oper} {rest : List Oper} {o : Oper} {act : Act} {Q : Exit → Act → World → Prop} (S : Nat → Prop)
    (hw : Region.wanted o (yielded ops act.tmps) = true) (s x : Operand) (t : TypeId) (hop : o.op = Op.call { callee := Callee.builtin Builtin.append, args := #[s, x], argTypes := #[t, t] })
    (e : TypeId) (i : TypeInfo) (z : Value) (size bytes : Nat) (ht : P.underlying t = some (.slice e)) (hi : P.info? e = some i) (hz : i.zero = some z)
    (hsize : i.size = size) (hby : i.bytes = bytes) (hzs : z.cells.size = size) (hsz : 0 < size)
    (a : Option Addr) (n cap : Nat) (vs : List Value) (hs : act.eval s = .slice a n cap) (hr : Rw w S a n cap size vs)
    (ad : Addr) (m c : Nat) (news : List Value) (hx : act.eval x = .slice (some ad) m c) (hm : 0 < m) (hl : news.length = m * size) (hnews : ∀ j u, news[j]? = some u → w.cell? (ad.add j) = some u) (h1 : ∀ u ∈ news, u.oneCell' = true)
    (h63 : n + m ≤ maxLen) (hbytes : (n + m) * bytes ≤ 140737488355328)
    (hK : ∀ a' cap' w', Rw w' (fun k => S k ∨ w.heap.size ≤ k) a' (n + m) cap' size (vs ++ news) → Keep S w w' → wpList P ops Q rest (act.put o.dst (.slice a' (n + m) cap')) w') :
    wpList P ops Q (o :: rest) act w := by
  unfold wpList
  rw [if_pos hw]
  left
  obtain ⟨a', cap', w', hrun, r1, r2⟩ := run_append_rw (P := P) w S t o.type e i z size bytes ht hi hz hsize hby hzs hsz a n cap vs hr ad m c news hm hl hnews h1 h63 hbytes
  unfold Oper.wp
  simp [execOp, hop, resolve, invoke, builtin, hs, hx, hrun, Result.andThen]
  exact hK a' cap' w' r1 r2
/-- New since w, and none of X. -/
@[reducible] def NX (w : World) (X : Nat → Prop) (j : Nat) : Prop := w.heap.size ≤ j ∧ ¬ X j
end Go.Proofs.Ytgeiagndpfdnlaa
end
section
namespace Go.Proofs.Ytgeiagndpfdnlaa
open Go.RowKit
set_option linter.unusedVariables false

/-- A packet: its numbers, its flag, its words. -/
structure Pk where
  k : Int
  f : Int
  t : Int
  i : Int
  l : Int
  p : Int
  s : Int
  fl : Bool
  z : List Int
/-- The packet as a value, its words where d says. -/
@[reducible] def Pk.val (x : Pk) (d : Value) : Value := .agg #[.int .i64 x.k, .int .i64 x.f, .int .i64 x.t, .int .i64 x.i, .int .i64 x.l, .int .i64 x.p, .int .i64 x.s, .bool x.fl, d]
def sameP (x y : Pk) : Bool := decide (x.k = y.k ∧ x.f = y.f ∧ x.t = y.t ∧ x.i = y.i ∧ x.l = y.l ∧ x.p = y.p ∧ x.s = y.s ∧ x.fl = y.fl ∧ x.z = y.z)
theorem sameP_self (x : Pk) : sameP x x = true := decide_eq_true ⟨rfl, rfl, rfl, rfl, rfl, rfl, rfl, rfl, rfl⟩
theorem wp_world {P : Program} {c : Code} {Q : Exit → Act → World → Prop} {a : Act} {w1 w2 : World} (h : w1 = w2) (hw : c.wp P Q a w2) : c.wp P Q a w1 := h ▸ hw
/-- A packet in memory, in a block that may be written. -/
structure Bx (W : World) (g : Nat) (x : Pk) (d : Value) : Prop where
  c0 : W.cell? ⟨g, 0, none⟩ = some (.int .i64 x.k)
  c1 : W.cell? ⟨g, 1, none⟩ = some (.int .i64 x.f)
  c2 : W.cell? ⟨g, 2, none⟩ = some (.int .i64 x.t)
  c3 : W.cell? ⟨g, 3, none⟩ = some (.int .i64 x.i)
  c4 : W.cell? ⟨g, 4, none⟩ = some (.int .i64 x.l)
  c5 : W.cell? ⟨g, 5, none⟩ = some (.int .i64 x.p)
  c6 : W.cell? ⟨g, 6, none⟩ = some (.int .i64 x.s)
  c7 : W.cell? ⟨g, 7, none⟩ = some (.bool x.fl)
  c8 : W.cell? ⟨g, 8, none⟩ = some d
  fz : ∀ o, W.frozen? ⟨g, o, none⟩ = false
  lt : g < W.heap.size
theorem Bx.made (w : World) (x : Pk) (d : Value) : Bx (w.alloc (.cells #[.int .i64 x.k, .int .i64 x.f, .int .i64 x.t, .int .i64 x.i, .int .i64 x.l, .int .i64 x.p, .int .i64 x.s, .bool x.fl, d] 32)) w.heap.size x d := by
  constructor <;> simp
theorem Bx.below {W W' : World} {g base : Nat} {x : Pk} {d : Value} (h : Bx W g x d) (hb : Below base W W') (hg : g < base) : Bx W' g x d :=
  have e := fun o => hb.cell (p := ⟨g, o, none⟩) hg
  ⟨(e 0).trans h.c0, (e 1).trans h.c1, (e 2).trans h.c2, (e 3).trans h.c3, (e 4).trans h.c4, (e 5).trans h.c5, (e 6).trans h.c6, (e 7).trans h.c7, (e 8).trans h.c8, fun o => (hb.frozen (p := ⟨g, o, none⟩) hg).trans (h.fz o), Nat.lt_of_lt_of_le h.lt hb.size⟩
theorem Bx.next {W W' : World} {g : Nat} {x : Pk} {d : Value} (h : Bx W g x d) (hb : Below W.heap.size W W') : Bx W' g x d := h.below hb h.lt
theorem Bx.far {W : World} {g : Nat} {x : Pk} {d u : Value} {p : Addr} (h : Bx W g x d) (hp : g ≠ p.block) : Bx (W.setCell p u) g x d :=
  have e := fun o => cell_far (w := W) (p := p) (v := u) g o hp
  ⟨(e 0).trans h.c0, (e 1).trans h.c1, (e 2).trans h.c2, (e 3).trans h.c3, (e 4).trans h.c4, (e 5).trans h.c5, (e 6).trans h.c6, (e 7).trans h.c7, (e 8).trans h.c8, fun o => by rw [World.frozen?_setCell]; exact h.fz o, by simpa using h.lt⟩
theorem Sl.far {W : World} {a : Option Addr} {n cap : Nat} {l : List Int} {p : Addr} {u : Value} (h : Sl W a n cap l) (hp : ∀ x : Addr, a = some x → x.block ≠ p.block) : Sl (W.setCell p u) a n cap l := by
  refine ⟨h.len, h.le, h.max, h.nil, h.row.imp id ?_⟩
  rintro ⟨b, o, rfl, hc⟩
  exact ⟨b, o, rfl, fun i hi => by rw [cell_far _ _ (hp _ rfl)]; exact hc i hi⟩
section
variable {W : World} {g : Nat} {x : Pk} {d : Value}
theorem Bx.setK (h : Bx W g x d) (v : Int) : Bx (W.setCell ⟨g, 0, none⟩ (.int .i64 v)) g { x with k := v } d := by
  obtain ⟨c0, c1, c2, c3, c4, c5, c6, c7, c8, fz, lt⟩ := h
  constructor <;> (try intro o) <;> go_simp
theorem Bx.setF (h : Bx W g x d) (v : Int) : Bx (W.setCell ⟨g, 1, none⟩ (.int .i64 v)) g { x with f := v } d := by
  obtain ⟨c0, c1, c2, c3, c4, c5, c6, c7, c8, fz, lt⟩ := h
  constructor <;> (try intro o) <;> go_simp
theorem Bx.setT (h : Bx W g x d) (v : Int) : Bx (W.setCell ⟨g, 2, none⟩ (.int .i64 v)) g { x with t := v } d := by
  obtain ⟨c0, c1, c2, c3, c4, c5, c6, c7, c8, fz, lt⟩ := h
  constructor <;> (try intro o) <;> go_simp
theorem Bx.setI (h : Bx W g x d) (v : Int) : Bx (W.setCell ⟨g, 3, none⟩ (.int .i64 v)) g { x with i := v } d := by
  obtain ⟨c0, c1, c2, c3, c4, c5, c6, c7, c8, fz, lt⟩ := h
  constructor <;> (try intro o) <;> go_simp
theorem Bx.setL (h : Bx W g x d) (v : Int) : Bx (W.setCell ⟨g, 4, none⟩ (.int .i64 v)) g { x with l := v } d := by
  obtain ⟨c0, c1, c2, c3, c4, c5, c6, c7, c8, fz, lt⟩ := h
  constructor <;> (try intro o) <;> go_simp
theorem Bx.setP (h : Bx W g x d) (v : Int) : Bx (W.setCell ⟨g, 5, none⟩ (.int .i64 v)) g { x with p := v } d := by
  obtain ⟨c0, c1, c2, c3, c4, c5, c6, c7, c8, fz, lt⟩ := h
  constructor <;> (try intro o) <;> go_simp
theorem Bx.setS (h : Bx W g x d) (v : Int) : Bx (W.setCell ⟨g, 6, none⟩ (.int .i64 v)) g { x with s := v } d := by
  obtain ⟨c0, c1, c2, c3, c4, c5, c6, c7, c8, fz, lt⟩ := h
  constructor <;> (try intro o) <;> go_simp
theorem Bx.setFl (h : Bx W g x d) (v : Bool) : Bx (W.setCell ⟨g, 7, none⟩ (.bool v)) g { x with fl := v } d := by
  obtain ⟨c0, c1, c2, c3, c4, c5, c6, c7, c8, fz, lt⟩ := h
  constructor <;> (try intro o) <;> go_simp
theorem Bx.setZ (h : Bx W g x d) (z : List Int) (v : Value) : Bx (W.setCell ⟨g, 8, none⟩ v) g { x with z := z } v := by
  obtain ⟨c0, c1, c2, c3, c4, c5, c6, c7, c8, fz, lt⟩ := h
  constructor <;> (try intro o) <;> go_simp
end
/-- All nine are written. -/
theorem Bx.put {W : World} {g : Nat} {x : Pk} {d : Value} (h : Bx W g x d) (y : Pk) (v : Value) :
    Bx (((((((((W.setCell ⟨g, 0, none⟩ (.int .i64 y.k)).setCell ⟨g, 1, none⟩ (.int .i64 y.f)).setCell ⟨g, 2, none⟩ (.int .i64 y.t)).setCell ⟨g, 3, none⟩ (.int .i64 y.i)).setCell ⟨g, 4, none⟩ (.int .i64 y.l)).setCell ⟨g, 5, none⟩ (.int .i64 y.p)).setCell ⟨g, 6, none⟩ (.int .i64 y.s)).setCell ⟨g, 7, none⟩ (.bool y.fl)).setCell ⟨g, 8, none⟩ v) g y v := by
  obtain ⟨c0, c1, c2, c3, c4, c5, c6, c7, c8, fz, lt⟩ := h
  constructor <;> (try intro o) <;> go_simp
/-- A block into which a packet is written, cell by cell. -/
theorem far9 {W : World} {g : Nat} {y : Pk} {v : Value} {P : World → Prop} (hP : ∀ (V : World) (o : Nat) (u : Value), P V → P (V.setCell ⟨g, o, none⟩ u)) (h : P W) :
    P (((((((((W.setCell ⟨g, 0, none⟩ (.int .i64 y.k)).setCell ⟨g, 1, none⟩ (.int .i64 y.f)).setCell ⟨g, 2, none⟩ (.int .i64 y.t)).setCell ⟨g, 3, none⟩ (.int .i64 y.i)).setCell ⟨g, 4, none⟩ (.int .i64 y.l)).setCell ⟨g, 5, none⟩ (.int .i64 y.p)).setCell ⟨g, 6, none⟩ (.int .i64 y.s)).setCell ⟨g, 7, none⟩ (.bool y.fl)).setCell ⟨g, 8, none⟩ v) :=
  hP _ _ _ (hP _ _ _ (hP _ _ _ (hP _ _ _ (hP _ _ _ (hP _ _ _ (hP _ _ _ (hP _ _ _ (hP _ _ _ h))))))))
def zeroPk : Pk := ⟨0, 0, 0, 0, 0, 0, 0, false, []⟩
theorem Bx.made' (w : World) (x : Pk) (d : Value) (g : Nat) (hg : g = w.heap.size) : Bx (w.alloc (.cells #[.int .i64 x.k, .int .i64 x.f, .int .i64 x.t, .int .i64 x.i, .int .i64 x.l, .int .i64 x.p, .int .i64 x.s, .bool x.fl, d] 32)) g x d := hg ▸ Bx.made w x d
theorem Own.lo {w : World} {base n cap : Nat} {a : Option Addr} {l : List Int} (h : Own w base (.slice a n cap) l) : ∀ x : Addr, a = some x → base ≤ x.block ∧ x.block < w.heap.size := by
  intro x e
  subst e
  rcases h.2 with ⟨h1, _⟩ | ⟨g, c, cur, h1, hb, hg, _⟩
  · cases h1
  · simp at h1
    obtain ⟨rfl, _⟩ := h1
    exact ⟨hb, (Array.getElem?_eq_some_iff.1 hg).1⟩
theorem Sl.at {w : World} {a : Option Addr} {n cap : Nat} {l : List Int} (h : Sl w a n cap l) {k : Nat} (hk : k < n) : ∃ b o, a = some ⟨b, o, none⟩ ∧ b < w.heap.size ∧ w.cell? ⟨b, o + k, none⟩ = some (.int .i64 (l[k]?.getD 0)) := by
  have hl := h.len
  rcases h.row with rfl | ⟨b, o, e, hc⟩
  · simp at hl; omega
  · exact ⟨b, o, e, World.block_lt_of_cell? w _ (hc k (by omega)), hc k (by omega)⟩
theorem sameP_eq {x y : Pk} (h : sameP x y = true) : x = y := by
  obtain ⟨h1, h2, h3, h4, h5, h6, h7, h8, h9⟩ := of_decide_eq_true h
  cases x; cases y; simp_all
instance Pk.dec : DecidableEq Pk := fun x y => decidable_of_iff (sameP x y = true) ⟨sameP_eq, fun h => by subst h; exact sameP_self x⟩
theorem sameP_iff (x y : Pk) : sameP x y = decide (x = y) := by
  by_cases h : x = y
  · subst h; rw [sameP_self]; simp
  · rw [decide_eq_false h]
    cases hs : sameP x y
    · rfl
    · exact absurd (sameP_eq hs) h

/-- The nine cells of a packet. -/
def pcells (x : Pk) (d : Value) : List Value := [.int .i64 x.k, .int .i64 x.f, .int .i64 x.t, .int .i64 x.i, .int .i64 x.l, .int .i64 x.p, .int .i64 x.s, .bool x.fl, d]
theorem pcells_len (x : Pk) (d : Value) : (pcells x d).length = 9 := rfl
/-- A row of packets, cell by cell. -/
def pflat (R : List (Pk × Value)) : List Value := R.flatMap fun r => pcells r.1 r.2
theorem pflat_len (R : List (Pk × Value)) : (pflat R).length = R.length * 9 := by
  induction R with
  | nil => rfl
  | cons o p ih => simp [pflat, pcells] at ih ⊢; omega
theorem pflat_cons (r : Pk × Value) (R : List (Pk × Value)) : pflat (r :: R) = pcells r.1 r.2 ++ pflat R := rfl
theorem pflat_append (R T : List (Pk × Value)) : pflat (R ++ T) = pflat R ++ pflat T := by simp [pflat]
theorem pflat_one (x : Pk) (d : Value) : pflat [(x, d)] = pcells x d := by simp [pflat]
theorem pflat_get {R : List (Pk × Value)} {i : Nat} {r : Pk × Value} (h : R[i]? = some r) (j : Nat) (hj : j < 9) : (pflat R)[i * 9 + j]? = (pcells r.1 r.2)[j]? := by
  induction R generalizing i with
  | nil => simp at h
  | cons x R ih =>
    rw [pflat_cons]
    cases i with
    | zero => simp at h; subst h; rw [Nat.zero_mul, Nat.zero_add, List.getElem?_append_left (by rw [pcells_len]; exact hj)]
    | succ i =>
      have h' : R[i]? = some r := by simpa using h
      rw [List.getElem?_append_right (by rw [pcells_len]; omega), pcells_len, ← ih h']
      congr 1
      omega
theorem pcells_one {x : Pk} {d : Value} (hd : d.oneCell' = true) : ∀ u ∈ pcells x d, u.oneCell' = true := by
  intro u hu
  simp [pcells] at hu
  rcases hu with h | h | h | h | h | h | h | h | h <;> subst h <;> first | rfl | exact hd
/-- The nine cells of element i of a row that lies from o on. -/
theorem pk_at {w : World} {b o i : Nat} {R : List (Pk × Value)} {x : Pk} {d : Value} (hc : ∀ i u, (pflat R)[i]? = some u → w.cell? ⟨b, o + i, none⟩ = some u) (h : R[i]? = some (x, d)) :
    w.cell? ⟨b, o + i * 9, none⟩ = some (.int .i64 x.k) ∧ w.cell? ⟨b, o + i * 9 + 1, none⟩ = some (.int .i64 x.f) ∧ w.cell? ⟨b, o + i * 9 + 2, none⟩ = some (.int .i64 x.t) ∧ w.cell? ⟨b, o + i * 9 + 3, none⟩ = some (.int .i64 x.i) ∧
    w.cell? ⟨b, o + i * 9 + 4, none⟩ = some (.int .i64 x.l) ∧ w.cell? ⟨b, o + i * 9 + 5, none⟩ = some (.int .i64 x.p) ∧ w.cell? ⟨b, o + i * 9 + 6, none⟩ = some (.int .i64 x.s) ∧ w.cell? ⟨b, o + i * 9 + 7, none⟩ = some (.bool x.fl) ∧ w.cell? ⟨b, o + i * 9 + 8, none⟩ = some d := by
  have g : ∀ j u, j < 9 → (pcells x d)[j]? = some u → w.cell? ⟨b, o + i * 9 + j, none⟩ = some u := fun j u hj hu => by rw [Nat.add_assoc]; exact hc _ u (by rw [pflat_get h j hj]; exact hu)
  exact ⟨g 0 _ (by omega) rfl, g 1 _ (by omega) rfl, g 2 _ (by omega) rfl, g 3 _ (by omega) rfl, g 4 _ (by omega) rfl, g 5 _ (by omega) rfl, g 6 _ (by omega) rfl, g 7 _ (by omega) rfl, g 8 _ (by omega) rfl⟩
/-- A packet's words, in a block of D if there are any. -/
def Dat (w : World) (D : Nat → Prop) (x : Pk) (d : Value) : Prop := ∃ a n c, d = .slice a n c ∧ Sl w a n c x.z ∧ n ≤ 17592186044416 ∧ (x.z ≠ [] → ∀ y : Addr, a = some y → D y.block)
theorem Dat.keep {w w' : World} {D F : Nat → Prop} {x : Pk} {d : Value} (h : Dat w D x d) (hk : Keep F w w') (hF : ∀ k, D k → ¬ F k) : Dat w' D x d := by
  obtain ⟨a, n, c, e, hs, hn, hd⟩ := h
  exact ⟨a, n, c, e, hs.keep hk (fun hz y hy => hF _ (hd hz y hy)), hn, hd⟩
theorem Dat.below {w w' : World} {D : Nat → Prop} {x : Pk} {d : Value} (h : Dat w D x d) (hb : Below w.heap.size w w') : Dat w' D x d := h.keep (F := fun _ => False) (Keep.of_below hb) (fun _ _ h => h)
theorem Dat.imp {w : World} {D E : Nat → Prop} {x : Pk} {d : Value} (h : Dat w D x d) (hD : ∀ k, k < w.heap.size → D k → E k) : Dat w E x d := by
  obtain ⟨a, n, c, e, hs, hn, hd⟩ := h
  refine ⟨a, n, c, e, hs, hn, fun hz y hy => hD _ ?_ (hd hz y hy)⟩
  rcases hs.row with h0 | ⟨b, o, rfl, hc⟩
  · exact absurd h0 hz
  · obtain rfl := Option.some.inj hy
    have h1 := hc 0 (by cases hh : x.z with | nil => exact absurd hh hz | cons => simp)
    exact World.block_lt_of_cell? w _ h1
theorem Dat.one {w : World} {D : Nat → Prop} {x : Pk} {d : Value} (h : Dat w D x d) : d.oneCell' = true := by
  obtain ⟨a, n, c, rfl, _⟩ := h
  rfl
theorem dat_own {w : World} {base : Nat} {v : Value} {x : Pk} (h : Own w base v x.z) (hn : x.z.length ≤ 17592186044416) : Dat w (fun k => base ≤ k) x v := by
  obtain ⟨a, c, rfl, hs⟩ := h.sl
  exact ⟨a, _, c, rfl, hs, hn, fun _ y hy => (h.lo y hy).1⟩
theorem dat_nil (w : World) (D : Nat → Prop) {x : Pk} (h : x.z = []) : Dat w D x (.slice none 0 0) := ⟨none, 0, 0, rfl, by rw [h]; exact sl_nil w, by omega, fun hz => absurd h hz⟩
/-- A packet's words, if there are any, may be written. -/
def Soft (w : World) (x : Pk) (d : Value) : Prop := x.z ≠ [] → ∀ a n c, d = .slice (some a) n c → ∀ o, w.frozen? ⟨a.block, o, none⟩ = false
theorem Soft.keep {w w' : World} {D F : Nat → Prop} {x : Pk} {d : Value} (h : Soft w x d) (hd : Dat w D x d) (hk : Keep F w w') (hF : ∀ k, D k → ¬ F k) : Soft w' x d := by
  intro hz a n c e o
  obtain ⟨a1, n1, c1, e1, hs, _, hD⟩ := hd
  rw [e1] at e
  injection e with e2 e3 e4
  subst e2
  have hlt : a.block < w.heap.size := by
    rcases hs.row with h0 | ⟨b, of, e5, hc⟩
    · exact absurd h0 hz
    · obtain rfl := Option.some.inj e5
      exact World.block_lt_of_cell? w _ (hc 0 (by cases hh : x.z with | nil => exact absurd hh hz | cons => simp))
  rw [hk.frozen o hlt (hF _ (hD hz a rfl))]
  exact h hz a n1 c1 e1 o
theorem soft_own {w : World} {base : Nat} {v : Value} {x : Pk} (h : Own w base v x.z) : Soft w x v := by
  intro _ a n c e o
  rcases h.2 with ⟨e', _⟩ | ⟨b, cap', cur, e', hb, hg, r⟩
  · rw [e] at e'; cases e'
  · rw [e] at e'
    injection e' with e1 e2 e3
    obtain rfl := Option.some.inj e1
    simp [World.frozen?, hg]
theorem Own.base {w : World} {base : Nat} {v : Value} {l : List Int} (h : Own w base v l) : ∀ k, v.ownBlock = some k → base ≤ k ∧ k < w.heap.size := by
  intro k hk
  rcases h.2 with ⟨rfl, _⟩ | ⟨g, c, cur, rfl, hb, hg, _⟩
  · simp [Value.ownBlock] at hk
  · simp [Value.ownBlock] at hk
    subst hk
    exact ⟨hb, (Array.getElem?_eq_some_iff.1 hg).1⟩
theorem cell_i1 (w : World) (x : Int) : ∀ j u, (cells [x])[j]? = some u → (w.alloc (.cells #[.int .i64 x] 3)).cell? ((⟨w.heap.size, 0, none⟩ : Addr).add j) = some u := by
  intro j u hu
  obtain ⟨hj, rfl⟩ := cells_get hu
  rw [Addr.add_lit, Nat.zero_add, cell_of_row _ _ _ _ 3 (0, 0) (heap_alloc_new w _)]
  simp at hj
  match j, hj with
  | 0, _ => rfl
theorem Own.keep {w w' : World} {F : Nat → Prop} {base : Nat} {v : Value} {l : List Int} (h : Own w base v l) (hk : Keep F w w') (hF : ∀ k, v.ownBlock = some k → ¬ F k) : Own w' base v l := by
  refine ⟨h.1, h.2.imp id ?_⟩
  rintro ⟨g, cap, cur, rfl, hg, hh, rest⟩
  exact ⟨g, cap, cur, rfl, hg, by rw [hk.block g (Array.getElem?_eq_some_iff.1 hh).1 (hF g rfl)]; exact hh, rest⟩
theorem Bx.keep {W W' : World} {F : Nat → Prop} {g : Nat} {x : Pk} {d : Value} (h : Bx W g x d) (hk : Keep F W W') (hF : ¬ F g) : Bx W' g x d :=
  have e := fun o => hk.cell (b := g) o h.lt hF
  ⟨(e 0).trans h.c0, (e 1).trans h.c1, (e 2).trans h.c2, (e 3).trans h.c3, (e 4).trans h.c4, (e 5).trans h.c5, (e 6).trans h.c6, (e 7).trans h.c7, (e 8).trans h.c8, fun o => (hk.frozen (b := g) o h.lt hF).trans (h.fz o), Nat.lt_of_lt_of_le h.lt hk.size⟩
/-- Writing into a list of its own. -/
theorem Own.poke {w : World} {base n c k : Nat} {a : Option Addr} {l : List Int} (h : Own w base (.slice a n c) l) (hn : l.length = n) (hk : k < n) : ∃ b y, a = some ⟨b, 0, none⟩ ∧ base ≤ b ∧ b < w.heap.size ∧ w.cell? ⟨b, k, none⟩ = some (.int .i64 y) ∧ w.frozen? ⟨b, k, none⟩ = false ∧
    ∀ v, Own (w.setCell ⟨b, k, none⟩ (.int .i64 v)) base (.slice a n c) (l.set k v) := by
  subst hn
  obtain ⟨a', c', e, hs⟩ := h.sl
  injection e with e1 e2 e3
  subst e1 e3
  rcases h.2 with ⟨e', h1⟩ | ⟨b, cap', cur, e', hb, hg, r⟩
  · omega
  · injection e' with e1 e2 e3
    subst e1 e3
    obtain ⟨b', o', e4, hlt, hc⟩ := hs.at hk
    simp at e4
    obtain ⟨rfl, rfl⟩ := e4
    rw [Nat.zero_add] at hc
    refine ⟨b, _, rfl, hb, hlt, hc, by simp [World.frozen?, hg], fun v => ?_⟩
    have := (World.ownsRow.stored h k (.int .i64 v)).1
    have e : (cells l).set k (.int .i64 v) = cells (l.set k v) := by simp [cells, List.map_set]
    rw [e] at this
    unfold Own
    rw [List.length_set]
    exact this
theorem Try.infoPk : (Try.prog.info? 32).map (fun i => (i.zero, i.size, i.bytes)) = some (some (zeroPk.val (.slice none 0 0)), 9, 88) := by kernel_rfl
end Go.Proofs.Ytgeiagndpfdnlaa
end
section
namespace Go.Proofs.Ytgeiagndpfdnlaa
open Go.RowKit
set_option linter.unusedVariables false

def pkInB (a n b : Int) : Bool := decide (a ≤ n ∧ n ≤ b)
theorem inB_t {a n b : Int} (h1 : a ≤ n) (h2 : n ≤ b) : pkInB a n b = true := decide_eq_true ⟨h1, h2⟩
theorem inB_f {a n b : Int} (h : n < a ∨ b < n) : pkInB a n b = false := decide_eq_false (by omega)
theorem inB_out {a n b : Int} (h : pkInB a n b = true) : a ≤ n ∧ n ≤ b := of_decide_eq_true h
/-- May the packet be? -/
def Pk.right (x : Pk) : Bool := pkInB 1 x.k 9 && pkInB 0 x.f 5 && pkInB 0 x.t 5 && pkInB 0 x.i 4095 && pkInB 0 x.l 7 && pkInB (-1) x.p 5 && pkInB 0 x.s 2 && decide (x.z.length ≤ 4)
def Pk.err (x : Pk) : Int := if x.right = true then 0 else 1
theorem Pk.err_t {x : Pk} (h : x.right = true) : x.err = 0 := if_pos h
theorem Pk.err_f {x : Pk} (h : x.right = false) : x.err = 1 := if_neg (by rw [h]; exact Bool.false_ne_true)
structure Pk.Right (x : Pk) : Prop where
  k : 1 ≤ x.k ∧ x.k ≤ 9
  f : 0 ≤ x.f ∧ x.f ≤ 5
  t : 0 ≤ x.t ∧ x.t ≤ 5
  i : 0 ≤ x.i ∧ x.i ≤ 4095
  l : 0 ≤ x.l ∧ x.l ≤ 7
  p : -1 ≤ x.p ∧ x.p ≤ 5
  s : 0 ≤ x.s ∧ x.s ≤ 2
  z : x.z.length ≤ 4
theorem Pk.right_iff (x : Pk) : x.right = true ↔ x.Right := by
  unfold Pk.right pkInB
  simp only [Bool.and_eq_true, decide_eq_true_eq]
  constructor
  · rintro ⟨⟨⟨⟨⟨⟨⟨a, b⟩, c⟩, d⟩, e⟩, f⟩, g⟩, h⟩; exact ⟨a, b, c, d, e, f, g, h⟩
  · rintro ⟨a, b, c, d, e, f, g, h⟩; exact ⟨⟨⟨⟨⟨⟨⟨a, b⟩, c⟩, d⟩, e⟩, f⟩, g⟩, h⟩

/-- The byte that stands for a flag. -/
def flI (b : Bool) : Int := if b = true then 1 else 0
theorem flI_bd (b : Bool) : 0 ≤ flI b ∧ flI b ≤ 1 := by unfold flI; split <;> omega
/-- The byte i of a word, the greatest first. -/
def wbyte (v : Int) (i : Nat) : Int := IntKind.u64.wrap v / 2 ^ (8 * (7 - i)) % 256
def wordN (v : Int) (k : Nat) : List Int := (List.range k).map (wbyte v)
def pkWordI (v : Int) : List Int := wordN v 8
def headI (x : Pk) : List Int := [x.k % 256, x.f % 256, x.t % 256, x.i / 256 % 256, x.i % 256, x.l % 256, (x.p + 1) % 256, x.s % 256, flI x.fl, (x.z.length : Int) % 256]
def bodyI (z : List Int) : List Int := z.flatMap pkWordI
def packI (x : Pk) : List Int := headI x ++ bodyI x.z
theorem wordN_succ (v : Int) (k : Nat) : wordN v (k + 1) = wordN v k ++ [wbyte v k] := by unfold wordN; rw [List.range_succ, List.map_append]; rfl
theorem wordN_len (v : Int) (k : Nat) : (wordN v k).length = k := by simp [wordN]
theorem wordI_len (v : Int) : (pkWordI v).length = 8 := wordN_len v 8
theorem wbyte_bd (v : Int) (i : Nat) : 0 ≤ wbyte v i ∧ wbyte v i < 256 := by unfold wbyte; omega
theorem wordN_b8 (v : Int) (k : Nat) : B.B8 (wordN v k) := by
  intro y hy
  obtain ⟨j, _, rfl⟩ := List.mem_map.1 hy
  exact wbyte_bd v j
theorem bodyI_snoc (z : List Int) (v : Int) : bodyI (z ++ [v]) = bodyI z ++ pkWordI v := by simp [bodyI]
theorem bodyI_take (z : List Int) (k : Nat) (h : k < z.length) : bodyI (z.take (k + 1)) = bodyI (z.take k) ++ pkWordI (z[k]?.getD 0) := by
  rw [List.take_succ_eq_append_getElem h, bodyI_snoc]; simp [h]
theorem bodyI_len : ∀ z : List Int, (bodyI z).length = 8 * z.length
  | [] => rfl
  | v :: z => by
    have : bodyI (v :: z) = pkWordI v ++ bodyI z := by simp [bodyI]
    rw [this, List.length_append, wordI_len, bodyI_len z]; simp; omega
theorem bodyI_b8 (z : List Int) : B.B8 (bodyI z) := by
  intro y hy
  obtain ⟨v, _, h⟩ := List.mem_flatMap.1 hy
  exact wordN_b8 v 8 y h
theorem headI_b8 (x : Pk) : B.B8 (headI x) := by
  intro y hy
  simp only [headI, List.mem_cons, List.not_mem_nil, or_false] at hy
  rcases hy with rfl | rfl | rfl | rfl | rfl | rfl | rfl | rfl | rfl | rfl
  case inr.inr.inr.inr.inr.inr.inr.inr.inl => have := flI_bd x.fl; omega
  all_goals omega
theorem headI_len (x : Pk) : (headI x).length = 10 := rfl
theorem packI_b8 (x : Pk) : B.B8 (packI x) := B.B8_append (headI_b8 x) (bodyI_b8 x.z)
theorem packI_len (x : Pk) : (packI x).length = 10 + 8 * x.z.length := by rw [packI, List.length_append, headI_len, bodyI_len]
end Go.Proofs.Ytgeiagndpfdnlaa
end
section
namespace Go.Proofs.Ytgeiagndpfdnlaa
open Go.ChangeShapes Go.WideShapes Go.ChangeAt Go.RowKit Go.Joins
set_option linter.unusedVariables false
set_option maxRecDepth 20000

/-- A packet that came in. -/
def IsPk (w : World) (v : Value) : Prop := ∃ (x : Pk) (a : Option Addr) (n cap : Nat), v = x.val (.slice a n cap) ∧ Sl w a n cap x.z ∧ R64 x.z
theorem array9 {α : Type} {cs : Array α} (h : cs.size = 9) : ∃ c0 c1 c2 c3 c4 c5 c6 c7 c8, cs = #[c0, c1, c2, c3, c4, c5, c6, c7, c8] := by
  obtain ⟨l⟩ := cs
  match l, h with
  | [c0, c1, c2, c3, c4, c5, c6, c7, c8], _ => exact ⟨c0, c1, c2, c3, c4, c5, c6, c7, c8, rfl⟩
theorem pkt_of {H : Type} {enc : TypeId × Value → H} {w : World} {base b0 : Nat} {held : Bool} {r : Reach} {v : Value} {d : DataW H} {p : List MemPlace}
    (hv : Value.okWide Try.prog w r b0 32 v) (h : DataW.Trod enc Try.prog w base (fun _ => true) held 32 v d p) : IsPk w v := by
  obtain ⟨cs, rfl, hsz, hf⟩ := agg_cells Try.underlying32 (by kernel_rfl) (by kernel_rfl) hv h
  obtain ⟨c0, c1, c2, c3, c4, c5, c6, c7, c8, rfl⟩ := array9 hsz
  obtain ⟨_, _, _, e0, t0⟩ := hf 0 _ rfl
  obtain ⟨_, _, _, e1, t1⟩ := hf 1 _ rfl
  obtain ⟨_, _, _, e2, t2⟩ := hf 2 _ rfl
  obtain ⟨_, _, _, e3, t3⟩ := hf 3 _ rfl
  obtain ⟨_, _, _, e4, t4⟩ := hf 4 _ rfl
  obtain ⟨_, _, _, e5, t5⟩ := hf 5 _ rfl
  obtain ⟨_, _, _, e6, t6⟩ := hf 6 _ rfl
  obtain ⟨_, _, _, e7, t7⟩ := hf 7 _ rfl
  obtain ⟨_, _, _, e8, t8⟩ := hf 8 _ rfl
  simp at e0 e1 e2 e3 e4 e5 e6 e7 e8
  subst e0 e1 e2 e3 e4 e5 e6 e7 e8
  obtain ⟨x0, rfl⟩ := int_cell t0
  obtain ⟨x1, rfl⟩ := int_cell t1
  obtain ⟨x2, rfl⟩ := int_cell t2
  obtain ⟨x3, rfl⟩ := int_cell t3
  obtain ⟨x4, rfl⟩ := int_cell t4
  obtain ⟨x5, rfl⟩ := int_cell t5
  obtain ⟨x6, rfl⟩ := int_cell t6
  obtain ⟨x7, rfl⟩ := bool_cell t7
  obtain ⟨a8, l8, p8, z8, rfl, s8, r8⟩ := ints_cell t8
  exact ⟨⟨x0, x1, x2, x3, x4, x5, x6, x7, z8⟩, a8, l8, p8, rfl, s8, r8⟩
end Go.Proofs.Ytgeiagndpfdnlaa
end
section
namespace Go.Proofs.Ytgeiagndpfdnlaa
open Go.ChangeShapes Go.WideShapes Go.ChangeAt Go.RowKit Go.Deep
set_option linter.unusedVariables false
set_option maxRecDepth 20000

section
variable {H : Type} {enc : TypeId × Value → H} {P : Program} {w : World} {base : Nat} {held : Bool}
/-- A field of a struct, with its reading. -/
theorem fieldOf {n : Nat} {t : TypeId} {fs : Array Field} {cs : List Value} {x : DataW H × List MemPlace} (ht : P.underlying t = some (.struct fs)) (h : DataW.trod enc P w base (fun _ => true) held n t cs = some x) (i : Nat) (ty : TypeId) (off c : Nat) (ds : List Value)
    (hf : (fs[i]?).map (fun f => (f.type, f.offset)) = some (ty, off)) (hc : P.cellsOf ty = c) (hd : (cs.drop off).take c = ds) : ∃ k y, DataW.trod enc P w base (fun _ => true) held k ty ds = some y := by
  obtain ⟨xs, k, _, _, _, hl, hfs⟩ := DataW.trod_struct ht h
  obtain ⟨f, hf', e⟩ := Option.map_eq_some_iff.1 hf
  simp at e
  obtain ⟨rfl, rfl⟩ := e
  subst hc hd
  have hi : i < fs.size := (Array.getElem?_eq_some_iff.1 hf').1
  refine ⟨k, xs[i]'(by omega), ?_⟩
  rw [hfs i f hf']
  exact List.getElem?_eq_getElem (by omega)
/-- A list of structs of C cells each: the cells of every element, and that they can be read. -/
theorem structs_of {n S T C : Nat} {c : Value} {y : DataW H × List MemPlace} (hS : P.underlying S = some (.slice T)) (hC : P.cellsOf T = C) (hC0 : 0 < C) (h : DataW.trod enc P w base (fun _ => true) held n S [c] = some y) :
    ∃ a len cap, c = .slice a len cap ∧ len ≤ cap ∧ cap ≤ maxLen ∧ ∀ i, i < len → ∃ (bl off : Nat) (cs : List Value) (k : Nat) (y : DataW H × List MemPlace), a = some ⟨bl, off, none⟩ ∧ cs.length = C ∧ (∀ j, j < C → w.cell? ⟨bl, off + i * C + j, none⟩ = cs[j]?) ∧ DataW.trod enc P w base (fun _ => true) held k T cs = some y := by
  rcases open_slice hS h with ⟨hcs, _⟩ | ⟨a, len, cap, m, k, D, Pl, hcs, hb, hl, hm, hmm, _, hx⟩
  · simp at hcs
    exact ⟨none, 0, 0, hcs, Nat.le_refl _, Nat.zero_le _, fun i hi => by omega⟩
  · simp at hcs
    have hlm : len ≤ m := by rw [hmm]; split <;> omega
    refine ⟨some a, len, cap, hcs, hl, hm, fun i hi => ?_⟩
    obtain ⟨cs, hc, ht⟩ := hx i (by omega)
    rw [hC] at hc
    obtain ⟨_, hlen, hcell⟩ := World.cells?_some hc
    obtain ⟨bl, off, spot⟩ := a
    have hspot : spot = none := by
      obtain ⟨cs0, hc0, ht0⟩ := hx 0 (by omega)
      rw [hC] at hc0
      obtain ⟨_, hlen0, hcell0⟩ := World.cells?_some hc0
      have h0 := hcell0 0 (by omega)
      rw [List.getElem?_eq_getElem (by omega)] at h0
      have := World.cell?_spot h0
      simpa [Addr.add] using this
    subst hspot
    exact ⟨bl, off, cs, _, _, rfl, hlen, fun j hj => by
      have := hcell j hj
      rw [Addr.add_lit, Addr.add_lit] at this
      exact this, ht⟩
end
end Go.Proofs.Ytgeiagndpfdnlaa
end
section
namespace Go.Proofs.Ytgeiagndpfdnlaa
open Go.RowKit Go.Maps
set_option linter.unusedVariables false

section
variable {α : Type} (key : α → Int)
def insK (r : α) : List α → List α
  | [] => [r]
  | q :: l => if key r < key q then r :: q :: l else q :: insK r l
/-- The list with r in the place of what had its key. -/
def putK (r : α) (l : List α) : List α := insK key r (l.filter (fun q => decide (key q ≠ key r)))
/-- The list without what has the key x. -/
def delK (x : Int) (l : List α) : List α := l.filter (fun q => decide (key q ≠ x))
def getK (x : Int) (l : List α) : Option α := l.find? (fun q => decide (key q = x))
/-- The keys rise. -/
def RiseK (l : List α) : Prop := l.Pairwise (fun a b => key a < key b)
variable {key}
theorem insK_perm (r : α) (l : List α) : (insK key r l).Perm (r :: l) := by
  induction l with
  | nil => exact List.Perm.refl _
  | cons q l ih =>
    unfold insK
    split
    · exact List.Perm.refl _
    · exact (List.Perm.cons q ih).trans (List.Perm.swap r q l)
theorem putK_perm (r : α) (l : List α) : (putK key r l).Perm (r :: delK key (key r) l) := insK_perm _ _
theorem mem_putK {r a : α} {l : List α} : a ∈ putK key r l ↔ a = r ∨ (a ∈ l ∧ key a ≠ key r) := by
  rw [(putK_perm r l).mem_iff]
  simp [delK]
theorem mem_delK {x : Int} {a : α} {l : List α} : a ∈ delK key x l ↔ a ∈ l ∧ key a ≠ x := by simp [delK]
theorem rise_ins {r : α} {l : List α} (h : RiseK key l) (hr : ∀ q ∈ l, key q ≠ key r) : RiseK key (insK key r l) := by
  induction l with
  | nil => exact List.pairwise_singleton _ _
  | cons q l ih =>
    have hl : RiseK key l := List.Pairwise.of_cons h
    have hq : ∀ u ∈ l, key q < key u := fun u hu => List.rel_of_pairwise_cons h hu
    unfold insK
    split
    · refine List.pairwise_cons.2 ⟨fun u hu => ?_, h⟩
      rcases List.mem_cons.1 hu with rfl | hu
      · assumption
      · have := hq u hu; omega
    · refine List.pairwise_cons.2 ⟨fun u hu => ?_, ih hl (fun u hu => hr u (List.mem_cons_of_mem _ hu))⟩
      rcases List.mem_cons.1 ((insK_perm r l).mem_iff.1 hu) with rfl | hu
      · have := hr q (List.mem_cons_self ..); omega
      · exact hq u hu
theorem rise_put {r : α} {l : List α} (h : RiseK key l) : RiseK key (putK key r l) := rise_ins (List.Pairwise.sublist List.filter_sublist h) (fun q hq => by simpa using (List.mem_filter.1 hq).2)
theorem rise_del {x : Int} {l : List α} (h : RiseK key l) : RiseK key (delK key x l) := List.Pairwise.sublist List.filter_sublist h
theorem delK_none {x : Int} {l : List α} (h : ∀ q ∈ l, key q ≠ x) : delK key x l = l := List.filter_eq_self.2 (fun q hq => decide_eq_true (h q hq))
theorem rise_ext {l m : List α} (hl : RiseK key l) (hm : RiseK key m) (h : ∀ a, a ∈ l ↔ a ∈ m) : l = m := by
  induction l generalizing m with
  | nil =>
    cases m with
    | nil => rfl
    | cons y m => exact absurd ((h y).2 (List.mem_cons_self ..)) List.not_mem_nil
  | cons x l ih =>
    cases m with
    | nil => exact absurd ((h x).1 (List.mem_cons_self ..)) List.not_mem_nil
    | cons y m =>
      have hx : ∀ u ∈ l, key x < key u := fun u hu => List.rel_of_pairwise_cons hl hu
      have hy : ∀ u ∈ m, key y < key u := fun u hu => List.rel_of_pairwise_cons hm hu
      have e : x = y := by
        rcases List.mem_cons.1 ((h x).1 (List.mem_cons_self ..)) with e | e
        · exact e
        · rcases List.mem_cons.1 ((h y).2 (List.mem_cons_self ..)) with e' | e'
          · exact e'.symm
          · have := hx y e'; have := hy x e; omega
      subst e
      congr 1
      refine ih (List.Pairwise.of_cons hl) (List.Pairwise.of_cons hm) (fun a => ⟨fun ha => ?_, fun ha => ?_⟩)
      · rcases List.mem_cons.1 ((h a).1 (List.mem_cons_of_mem _ ha)) with e | e
        · have := hx a ha; rw [e] at this; omega
        · exact e
      · rcases List.mem_cons.1 ((h a).2 (List.mem_cons_of_mem _ ha)) with e | e
        · have := hy a ha; rw [e] at this; omega
        · exact e
theorem rise_inj {l : List α} (h : RiseK key l) {a b : α} (ha : a ∈ l) (hb : b ∈ l) (e : key a = key b) : a = b := by
  induction l with
  | nil => cases ha
  | cons x l ih =>
    have hx : ∀ u ∈ l, key x < key u := fun u hu => List.rel_of_pairwise_cons h hu
    rcases List.mem_cons.1 ha with ea | ha <;> rcases List.mem_cons.1 hb with eb | hb
    · rw [ea, eb]
    · have := hx b hb; rw [ea] at e; omega
    · have := hx a ha; rw [eb] at e; omega
    · exact ih (List.Pairwise.of_cons h) ha hb
theorem getK_mem {l : List α} (h : RiseK key l) {a : α} (ha : a ∈ l) : getK key (key a) l = some a := by
  unfold getK
  cases e : l.find? (fun q => decide (key q = key a)) with
  | none =>
    rw [List.find?_eq_none] at e
    have := e a ha
    simp at this
  | some b =>
    have hb := List.mem_of_find?_eq_some e
    have hk := List.find?_some e
    rw [rise_inj h hb ha (of_decide_eq_true hk)]
theorem getK_some {l : List α} {x : Int} {a : α} (h : getK key x l = some a) : a ∈ l ∧ key a = x := ⟨List.mem_of_find?_eq_some h, of_decide_eq_true (List.find?_some (p := fun q => decide (key q = x)) h)⟩
theorem getK_none {l : List α} {x : Int} : getK key x l = none ↔ ∀ q ∈ l, key q ≠ x := by unfold getK; rw [List.find?_eq_none]; simp
theorem nodup_rise {l : List α} (h : RiseK key l) : l.Nodup := List.Pairwise.imp (fun h e => by rw [e] at h; omega) h
theorem delK_one {l : List α} (h : RiseK key l) {a : α} (ha : a ∈ l) : (a :: delK key (key a) l).Perm l := by
  induction l with
  | nil => cases ha
  | cons y l ih =>
    have hy : ∀ u ∈ l, key y < key u := fun u hu => List.rel_of_pairwise_cons h hu
    rcases List.mem_cons.1 ha with rfl | ha
    · have e : delK key (key a) (a :: l) = l := by
        unfold delK
        rw [List.filter_cons_of_neg (by simp)]
        exact delK_none (fun q hq => by have := hy q hq; omega)
      rw [e]
    · have e : delK key (key a) (y :: l) = y :: delK key (key a) l := by
        unfold delK
        rw [List.filter_cons_of_pos (by have := hy a ha; simp; omega)]
      rw [e]
      exact (List.Perm.swap y a _).trans (List.Perm.cons y (ih (List.Pairwise.of_cons h) ha))
end
/-- Values, as they are. -/
def asIs (v : Value) : Option (DataW Value × List MemPlace) := some (.held v, [])
def pairsD (l : List (Int × Value)) : List (Lit × DataW Value) := l.map fun p => (Lit.int .i64 p.1, .held p.2)
/-- Block b is a map from whole numbers, with just these pairs. -/
def IM (w : World) (b : Nat) (l : List (Int × Value)) : Prop := w.ownsMap Try.prog 3 asIs b l.length (.map (pairsD l))
def In64 (x : Int) : Prop := -9223372036854775808 ≤ x ∧ x ≤ 9223372036854775807
theorem In64.wf {x : Int} (h : In64 x) : (Lit.int .i64 x).wf = true := by
  unfold In64 at h
  simp [Lit.wf, IntKind.min, IntKind.max, IntKind.signed, IntKind.bits]
  omega
theorem keyI {x : Int} (h : In64 x) : keyOf Try.prog 3 (.int .i64 x) = some (.int .i64 x) := Maps.keyOf_int_mk Try.underlying3 h.wf
theorem keyedI : Keyed Try.prog 3 := Maps.int_keyed Try.underlying3
section
variable {w w' : World} {b n : Nat} {l : List (Int × Value)} {D : DataW Value}
theorem im_of (h : w.ownsMap Try.prog 3 asIs b n (.map (pairsD l))) : IM w b l := by
  obtain ⟨es, clock, hb, F, hs, hD⟩ := h
  refine ⟨es, clock, hb, F, ?_, hD⟩
  have e : pairsD l = (es.toList.map (WideElems.rg Try.prog 3 asIs)).foldr DataW.insert [] := by injection hD
  have := congrArg List.length e
  rw [length_read] at this
  simp [pairsD] at this
  omega
theorem im_made (w : World) : IM (w.alloc (.map #[] 0)) w.heap.size [] := World.ownsMap_made w _ _ _
theorem IM.lt (h : IM w b l) : b < w.heap.size := World.ownsMap.lt h
theorem IM.keep {F : Nat → Prop} (h : IM w b l) (hk : Keep F w w') (hF : ¬ F b) : IM w' b l := by
  have hlt := h.lt
  obtain ⟨es, clock, hb, F1, hs, hD⟩ := h
  exact ⟨es, clock, (hk.block b hlt hF).trans hb, F1, hs, hD⟩
theorem IM.below (h : IM w b l) (hb : Below w.heap.size w w') : IM w' b l := h.keep (F := fun _ => False) (Keep.of_below hb) id
theorem turned_keep (h : w.mapTurned w' b) : Keep (fun j => j = b) w w' := (Keep.grown h.grown).mono (fun k _ h => by simpa using h)
theorem turned_size (h : w.mapTurned w' b) : w'.heap.size = w.heap.size := by
  obtain ⟨es, c, es', c', _, rfl⟩ := h
  simp [ChangeMaps.setBlock]
theorem pairs_get (x : Int) (zd : DataW Value) (l : List (Int × Value)) : (DataW.map (pairsD l)).atKey (.int .i64 x) zd = match getK Prod.fst x l with | some p => .held p.2 | none => zd := by
  simp only [DataW.atKey]
  unfold getK pairsD
  rw [List.find?_map]
  have e : ((fun p : Lit × DataW Value => p.1.sameKey (.int .i64 x)) ∘ fun p : Int × Value => (Lit.int .i64 p.1, DataW.held p.2)) = (fun q : Int × Value => decide (q.1 = x)) := by
    funext q
    simp [Lit.sameKey]
  simp only [e]
  cases List.find? (fun q : Int × Value => decide (q.1 = x)) l <;> rfl
theorem pairs_has (x : Int) (l : List (Int × Value)) : Maps.has (DataW.map (pairsD l)) (.int .i64 x) = (getK Prod.fst x l).isSome := by
  show (pairsD l).any (fun p => p.1.sameKey (.int .i64 x)) = _
  unfold pairsD getK
  rw [List.any_map, Bool.eq_iff_iff, List.any_eq_true, List.find?_isSome]
  constructor
  · rintro ⟨q, hq, h⟩
    exact ⟨q, hq, by simpa [Lit.sameKey] using h⟩
  · rintro ⟨q, hq, h⟩
    exact ⟨q, hq, by simpa [Lit.sameKey] using h⟩
theorem pairs_filter (x : Int) (l : List (Int × Value)) : (pairsD l).filter (fun p => !p.1.sameKey (.int .i64 x)) = pairsD (delK Prod.fst x l) := by
  unfold pairsD delK
  rw [List.filter_map]
  congr 1
  apply List.filter_congr
  intro q _
  simp [Lit.sameKey]
theorem pairs_ins (x : Int) (v : Value) (l : List (Int × Value)) : DataW.insert (.int .i64 x, .held v) (pairsD l) = pairsD (insK Prod.fst (x, v) l) := by
  induction l with
  | nil => rfl
  | cons q l ih =>
    have e : pairsD (q :: l) = (Lit.int .i64 q.1, DataW.held q.2) :: pairsD l := rfl
    rw [e, DataW.insert.eq_2]
    unfold insK
    by_cases h : x < q.1
    · rw [if_pos (by simp [Lit.before, h]), if_pos h]; rfl
    · rw [if_neg (by simp [Lit.before, h]), if_neg h, ih]; rfl
theorem pairs_put (x : Int) (v : Value) (l : List (Int × Value)) : (DataW.map (pairsD l)).put (.int .i64 x) (.held v) = .map (pairsD (putK Prod.fst (x, v) l)) := by
  unfold DataW.put
  simp only [pairs_filter, pairs_ins]
  rfl
theorem pairs_del (x : Int) (l : List (Int × Value)) : (DataW.map (pairsD l)).del (.int .i64 x) = .map (pairsD (delK Prod.fst x l)) := by
  unfold DataW.del
  simp only [pairs_filter]
/-- What stands at x, or the zero value. -/
def atI (x : Int) (z : Value) (l : List (Int × Value)) : Value := match getK Prod.fst x l with | some p => p.2 | none => z
theorem IM.look_ok {t e : TypeId} (h : IM w b l) (ht : Try.prog.underlying t = some (.map 3 e)) {z : Value} (hz : (zeroValue e).run Try.prog w = .ok z w) {x : Int} (hx : In64 x) :
    (Instr.lookup t (.map (some b)) (.int .i64 x) true).run Try.prog w = .ok (.tuple #[atI x z l, .bool (getK Prod.fst x l).isSome]) w := by
  obtain ⟨v, ps, hrun, hv⟩ := World.ownsMap.look_ok h keyedI ht hz (zd := .held z) (zp := []) rfl (keyI hx)
  rw [pairs_get, pairs_has] at *
  unfold asIs at hv
  unfold atI
  cases hg : getK Prod.fst x l with
  | none => rw [hg] at hv hrun; simp at hv; rw [hrun, hv.1]
  | some p => rw [hg] at hv hrun; simp at hv; rw [hrun, hv.1]
theorem IM.look {t e : TypeId} (h : IM w b l) (ht : Try.prog.underlying t = some (.map 3 e)) {z : Value} (hz : (zeroValue e).run Try.prog w = .ok z w) {x : Int} (hx : In64 x) :
    (Instr.lookup t (.map (some b)) (.int .i64 x) false).run Try.prog w = .ok (atI x z l) w := by
  obtain ⟨v, ps, hrun, hv⟩ := World.ownsMap.lookup h keyedI ht hz (zd := .held z) (zp := []) rfl (keyI hx)
  rw [pairs_get] at hv
  unfold asIs at hv
  unfold atI
  cases hg : getK Prod.fst x l with
  | none => rw [hg] at hv; simp at hv; rw [hrun, hv.1]
  | some p => rw [hg] at hv; simp at hv; rw [hrun, hv.1]
theorem IM.len {t e : TypeId} (h : IM w b l) (ht : Try.prog.underlying t = some (.map 3 e)) (ty : TypeId) : (Builtin.len_ #[t] ty #[.map (some b)]).run Try.prog w = .ok (.int .i64 l.length) w := by
  have := World.ownsMap.len h ht ty
  simpa [Maps.size, pairsD] using this
theorem IM.store {t e : TypeId} (h : IM w b l) (ht : Try.prog.underlying t = some (.map 3 e)) (hn : l.length < maxLen) {x : Int} (hx : In64 x) (v : Value) :
    ∃ w', (Instr.mapUpdate t (.map (some b)) (.int .i64 x) v).run Try.prog w = .ok () w' ∧ IM w' b (putK Prod.fst (x, v) l) ∧ w.mapTurned w' b := by
  obtain ⟨w', hrun, ho, ht'⟩ := World.ownsMap.store h keyedI ht hn (keyI hx) (d := .held v) (ps := []) rfl
  rw [pairs_put] at ho
  exact ⟨w', hrun, im_of ho, ht'⟩
theorem IM.drop {t e : TypeId} (h : IM w b l) (ht : Try.prog.underlying t = some (.map 3 e)) {x : Int} (hx : In64 x) (ty : TypeId) :
    ∃ w', (Builtin.delete_ #[t, 3] ty #[.map (some b), .int .i64 x]).run Try.prog w = .ok (.tuple #[]) w' ∧ IM w' b (delK Prod.fst x l) ∧ w.mapTurned w' b := by
  obtain ⟨w', hrun, ho, ht'⟩ := World.ownsMap.drop h keyedI ht (keyI hx) ty
  rw [pairs_del] at ho
  exact ⟨w', hrun, im_of ho, ht'⟩
end
/-- Pairs of a list with a key. -/
def kv {α : Type} (key : α → Int) (val : α → Value) (l : List α) : List (Int × Value) := l.map fun a => (key a, val a)
section
variable {α : Type} {key : α → Int} {val : α → Value}
theorem kv_del (x : Int) (l : List α) : delK Prod.fst x (kv key val l) = kv key val (delK key x l) := by
  unfold delK kv
  rw [List.filter_map]
  rfl
theorem kv_ins (r : α) (l : List α) : insK Prod.fst (key r, val r) (kv key val l) = kv key val (insK key r l) := by
  induction l with
  | nil => rfl
  | cons q l ih =>
    have e : kv key val (q :: l) = (key q, val q) :: kv key val l := rfl
    rw [e]
    unfold insK
    by_cases h : key r < key q
    · rw [if_pos h, if_pos h]; rfl
    · rw [if_neg h, if_neg h, ih]; rfl
theorem kv_put (r : α) (l : List α) : putK Prod.fst (key r, val r) (kv key val l) = kv key val (putK key r l) := by
  have := kv_del (key := key) (val := val) (key r) l
  unfold putK
  unfold delK at this
  rw [this, kv_ins]
theorem kv_get (x : Int) (l : List α) : getK Prod.fst x (kv key val l) = (getK key x l).map (fun a => (key a, val a)) := by
  unfold getK kv
  rw [List.find?_map]
  rfl
theorem kv_len (l : List α) : (kv key val l).length = l.length := by simp [kv]
theorem kv_at (x : Int) (z : Value) (l : List α) : atI x z (kv key val l) = match getK key x l with | some a => val a | none => z := by
  unfold atI
  rw [kv_get]
  cases getK key x l <;> rfl
end
section
variable {α β : Type} {key : α → Int} {key' : β → Int} {f : α → β}
theorem map_delK (h : ∀ a, key' (f a) = key a) (x : Int) (l : List α) : (delK key x l).map f = delK key' x (l.map f) := by
  unfold delK
  rw [List.filter_map]
  congr 1
  apply List.filter_congr
  intro q _
  simp [h]
theorem map_insK (h : ∀ a, key' (f a) = key a) (r : α) (l : List α) : (insK key r l).map f = insK key' (f r) (l.map f) := by
  induction l with
  | nil => rfl
  | cons q l ih =>
    rw [List.map_cons]
    unfold insK
    rw [h, h]
    split
    · rfl
    · rw [List.map_cons, ih]
theorem map_putK (h : ∀ a, key' (f a) = key a) (r : α) (l : List α) : (putK key r l).map f = putK key' (f r) (l.map f) := by
  have e := map_delK h (key r) l
  unfold putK
  unfold delK at e
  rw [map_insK h, e, h]
theorem map_getK (h : ∀ a, key' (f a) = key a) (x : Int) (l : List α) : getK key' x (l.map f) = (getK key x l).map f := by
  unfold getK
  rw [List.find?_map]
  congr 2
  funext q
  simp [h]
theorem putK_delK (r : α) (l : List α) : putK key r (delK key (key r) l) = putK key r l := by
  unfold putK delK
  rw [List.filter_filter]
  simp
theorem putK_len (r : α) (l : List α) : (putK key r l).length ≤ l.length + 1 := by
  rw [(putK_perm r l).length_eq, List.length_cons]
  have := List.length_filter_le (fun q => decide (key q ≠ key r)) l
  unfold delK
  omega
theorem putK_len_at {l : List α} (hl : RiseK key l) {a r : α} (ha : a ∈ l) (he : key r = key a) : (putK key r l).length = l.length := by
  rw [(putK_perm r l).length_eq, List.length_cons, he, ← (delK_one hl ha).length_eq, List.length_cons]
theorem delK_len (x : Int) (l : List α) : (delK key x l).length ≤ l.length := List.length_filter_le _ _
end
/-- A list whose keys are all less: the new one stands last. -/
theorem putK_last {α : Type} {key : α → Int} {r : α} {l : List α} (h : ∀ q ∈ l, key q < key r) : putK key r l = l ++ [r] := by
  have e : l.filter (fun q => decide (key q ≠ key r)) = l := List.filter_eq_self.2 (fun q hq => decide_eq_true (by have := h q hq; omega))
  unfold putK
  rw [e]
  clear e
  induction l with
  | nil => rfl
  | cons q l ih =>
    have := h q (List.mem_cons_self ..)
    unfold insK
    rw [if_neg (by omega), ih (fun u hu => h u (List.mem_cons_of_mem _ hu))]
    rfl
/-- What is there is put there again: nothing else is. -/
theorem putK_same {α : Type} {key : α → Int} {l : List α} (h : RiseK key l) {a : α} (ha : a ∈ l) : putK key a l = l := by
  refine rise_ext (rise_put h) h (fun q => ?_)
  rw [mem_putK]
  constructor
  · rintro (rfl | ⟨hq, _⟩)
    · exact ha
    · exact hq
  · intro hq
    by_cases e : key q = key a
    · exact .inl (rise_inj h hq ha e)
    · exact .inr ⟨hq, e⟩
end Go.Proofs.Ytgeiagndpfdnlaa
end
section
namespace Go.Proofs.Ytgeiagndpfdnlaa
open Go.ChangeShapes Go.WideShapes Go.ChangeAt Go.RowKit Go.Deep
set_option linter.unusedVariables false
set_option maxRecDepth 20000

theorem in64_ofL {x : Int} (h : (Lit.int .i64 x).wf = true) : In64 x := by
  simp [Lit.wf, IntKind.min, IntKind.max, IntKind.signed, IntKind.bits] at h
  unfold In64
  omega
/-- An act's eleven cells. -/
def acells (d h : Int) (x : Pk) (v : Value) : List Value := [.int .i64 d, .int .i64 x.k, .int .i64 x.f, .int .i64 x.t, .int .i64 x.i, .int .i64 x.l, .int .i64 x.p, .int .i64 x.s, .bool x.fl, v, .int .i64 h]
/-- Its numbers are numbers of the language. -/
structure Nums64 (x : Pk) : Prop where
  k : In64 x.k
  f : In64 x.f
  t : In64 x.t
  i : In64 x.i
  l : In64 x.l
  p : In64 x.p
  s : In64 x.s
/-- n acts, from address a on. -/
def IsActs11 (w : World) (a : Option Addr) (n : Nat) : Prop := ∀ i, i < n → ∃ (bl o : Nat) (d h : Int) (x : Pk) (av : Option Addr) (nv cv : Nat),
  a = some ⟨bl, o, none⟩ ∧ (∀ j, j < 11 → w.cell? ⟨bl, o + i * 11 + j, none⟩ = (acells d h x (.slice av nv cv))[j]?) ∧ Sl w av nv cv x.z ∧ bl < w.heap.size ∧ R64 x.z ∧ Nums64 x ∧ In64 d ∧ In64 h
theorem IsActs11.below {w w' : World} {a : Option Addr} {n : Nat} (h : IsActs11 w a n) (hb : Below w.heap.size w w') : IsActs11 w' a n := fun i hi => by
  obtain ⟨bl, o, d, hh, x, av, nv, cv, e, hc, hs, hlt, hr⟩ := h i hi
  exact ⟨bl, o, d, hh, x, av, nv, cv, e, fun j hj => by rw [hb.cell (p := ⟨bl, o + i * 11 + j, none⟩) hlt]; exact hc j hj, hs.below hb, Nat.lt_of_lt_of_le hlt hb.size, hr⟩
theorem list11 {α : Type} {l : List α} (h : l.length = 11) : ∃ c0 c1 c2 c3 c4 c5 c6 c7 c8 c9 c10, l = [c0, c1, c2, c3, c4, c5, c6, c7, c8, c9, c10] := by
  match l, h with
  | [c0, c1, c2, c3, c4, c5, c6, c7, c8, c9, c10], _ => exact ⟨c0, c1, c2, c3, c4, c5, c6, c7, c8, c9, c10, rfl⟩
section
variable {H : Type} {enc : TypeId × Value → H} {w : World} {base : Nat} {held : Bool}
theorem acts11_of {n : Nat} {c : Value} {y : DataW H × List MemPlace} (h : DataW.trod enc Try.prog w base (fun _ => true) held n 45 [c] = some y) : ∃ a len cap, c = .slice a len cap ∧ len ≤ cap ∧ cap ≤ maxLen ∧ IsActs11 w a len := by
  obtain ⟨a, len, cap, rfl, hl, hm, hx⟩ := structs_of Try.underlying45 (C := 11) (by kernel_rfl) (by omega) h
  refine ⟨a, len, cap, rfl, hl, hm, fun i hi => ?_⟩
  obtain ⟨bl, off, cs, k, y', rfl, hlen, hc, ht⟩ := hx i hi
  obtain ⟨c0, c1, c2, c3, c4, c5, c6, c7, c8, c9, c10, rfl⟩ := list11 hlen
  have g := fieldOf Try.underlying49 ht
  have k1 : Try.prog.cellsOf 3 = 1 := by kernel_rfl
  have k3 : Try.prog.cellsOf 32 = 9 := by kernel_rfl
  have k4 : Try.prog.cellsOf 4 = 1 := by kernel_rfl
  have k5 : Try.prog.cellsOf 22 = 1 := by kernel_rfl
  obtain ⟨_, _, t0⟩ := g 0 3 0 1 [c0] rfl k1 rfl
  obtain ⟨_, _, t1⟩ := g 1 32 1 9 [c1, c2, c3, c4, c5, c6, c7, c8, c9] rfl k3 rfl
  obtain ⟨_, _, t2⟩ := g 2 3 10 1 [c10] rfl k1 rfl
  have gp := fieldOf Try.underlying32 t1
  obtain ⟨_, _, p0⟩ := gp 0 3 0 1 [c1] rfl k1 rfl
  obtain ⟨_, _, p1⟩ := gp 1 3 1 1 [c2] rfl k1 rfl
  obtain ⟨_, _, p2⟩ := gp 2 3 2 1 [c3] rfl k1 rfl
  obtain ⟨_, _, p3⟩ := gp 3 3 3 1 [c4] rfl k1 rfl
  obtain ⟨_, _, p4⟩ := gp 4 3 4 1 [c5] rfl k1 rfl
  obtain ⟨_, _, p5⟩ := gp 5 3 5 1 [c6] rfl k1 rfl
  obtain ⟨_, _, p6⟩ := gp 6 3 6 1 [c7] rfl k1 rfl
  obtain ⟨_, _, p7⟩ := gp 7 4 7 1 [c8] rfl k4 rfl
  obtain ⟨_, _, p8⟩ := gp 8 22 8 1 [c9] rfl k5 rfl
  obtain ⟨d, e, _, w0⟩ := DataW.trod_int Try.underlying3 t0
  obtain rfl := (List.cons.inj e).1
  obtain ⟨hh, e, _, w1⟩ := DataW.trod_int Try.underlying3 t2
  obtain rfl := (List.cons.inj e).1
  obtain ⟨x0, e, _, u0⟩ := DataW.trod_int Try.underlying3 p0
  obtain rfl := (List.cons.inj e).1
  obtain ⟨x1, e, _, u1⟩ := DataW.trod_int Try.underlying3 p1
  obtain rfl := (List.cons.inj e).1
  obtain ⟨x2, e, _, u2⟩ := DataW.trod_int Try.underlying3 p2
  obtain rfl := (List.cons.inj e).1
  obtain ⟨x3, e, _, u3⟩ := DataW.trod_int Try.underlying3 p3
  obtain rfl := (List.cons.inj e).1
  obtain ⟨x4, e, _, u4⟩ := DataW.trod_int Try.underlying3 p4
  obtain rfl := (List.cons.inj e).1
  obtain ⟨x5, e, _, u5⟩ := DataW.trod_int Try.underlying3 p5
  obtain rfl := (List.cons.inj e).1
  obtain ⟨x6, e, _, u6⟩ := DataW.trod_int Try.underlying3 p6
  obtain rfl := (List.cons.inj e).1
  obtain ⟨x7, rfl⟩ := bool_cell p7
  obtain ⟨av, nv, cv, z, rfl, hs, hz⟩ := ints_cell p8
  exact ⟨bl, off, d, hh, ⟨x0, x1, x2, x3, x4, x5, x6, x7, z⟩, av, nv, cv, rfl, hc, hs, World.block_lt_of_cell? _ _ (hc 0 (by omega)), hz, ⟨in64_ofL u0, in64_ofL u1, in64_ofL u2, in64_ofL u3, in64_ofL u4, in64_ofL u5, in64_ofL u6⟩, in64_ofL w0, in64_ofL w1⟩
end
end Go.Proofs.Ytgeiagndpfdnlaa
end
section
namespace Go.Proofs.Ytgeiagndpfdnlaa
open Go.RowKit
set_option linter.unusedVariables false
set_option maxRecDepth 20000

theorem run_append_zero {P : Program} (w : World) (t ty e : TypeId) (i : TypeInfo) (ht : P.underlying t = some (.slice e)) (hi : P.info? e = some i) (a : Option Addr) (n cap : Nat) (hn : n ≤ cap) (b : Option Addr) (c : Nat) :
    (Builtin.append_ #[t, t] ty #[.slice a n cap, .slice b 0 c]).run P w = .ok (.slice a n cap) w := by
  have hf : (Builtin.firstCells i.size 0 (.slice b 0 c)).run P w = .ok #[] w := by
    cases b with
    | none => simp [Builtin.firstCells]
    | some x => exact run_firstCells_some (P := P) w i.size 0 x 0 c [] (by simp) (by simp)
  cases a with
  | none => simp [Builtin.append_, run_underlying ht, sizeOf, typeInfo, hi, Builtin.lenOf, hn, hf]
  | some x => simp [Builtin.append_, run_underlying ht, sizeOf, typeInfo, hi, Builtin.lenOf, hn, hf, storeCells]
theorem run_append_slv {P : Program} (w : World) (S : Nat → Prop) (t ty e : TypeId) (i : TypeInfo) (z : Value) (size bytes : Nat) (ht : P.underlying t = some (.slice e)) (hi : P.info? e = some i) (hz : i.zero = some z)
    (hsize : i.size = size) (hby : i.bytes = bytes) (hzs : z.cells.size = size) (hsz : 0 < size)
    (a : Option Addr) (n cap : Nat) (vs : List Value) (hr : Rw w S a n cap size vs)
    (b : Option Addr) (m c : Nat) (news : List Value) (hs : SlV w b m c size news) (h1 : ∀ u ∈ news, u.oneCell' = true)
    (h63 : n + m ≤ maxLen) (hbytes : (n + m) * bytes ≤ 140737488355328) :
    ∃ a' cap' w', (Builtin.append_ #[t, t] ty #[.slice a n cap, .slice b m c]).run P w = .ok (.slice a' (n + m) cap') w' ∧
      Rw w' (fun k => S k ∨ w.heap.size ≤ k) a' (n + m) cap' size (vs ++ news) ∧ Keep S w w' := by
  have hl := hs.len
  by_cases hm : m = 0
  · subst hm
    obtain rfl : news = [] := List.eq_nil_of_length_eq_zero (by simpa using hl)
    refine ⟨a, cap, w, run_append_zero w t ty e i ht hi a n cap hr.le b c, ?_, Keep.refl _ _⟩
    rw [List.append_nil]
    exact hr.imp (fun k _ h => .inl h)
  · have hpos : 0 < m * size := Nat.mul_pos (by omega) hsz
    rcases hs.row with h0 | ⟨blk, o, rfl, hc⟩
    · rw [h0] at hl; simp at hl; omega
    · exact run_append_rw w S t ty e i z size bytes ht hi hz hsize hby hzs hsz a n cap vs hr ⟨blk, o, none⟩ m c news (by omega) hl (fun j u hu => by rw [Addr.add_lit]; exact hc j u hu) h1 h63 hbytes
theorem wpList_append_slv {P : Program} (w : World) {ops : Array Oper} {rest : List Oper} {o : Oper} {act : Act} {Q : Exit → Act → World → Prop} (S : Nat → Prop)
    (hw : Region.wanted o (yielded ops act.tmps) = true) (s x : Operand) (t : TypeId) (hop : o.op = Op.call { callee := Callee.builtin Builtin.append, args := #[s, x], argTypes := #[t, t] })
    (e : TypeId) (i : TypeInfo) (z : Value) (size bytes : Nat) (ht : P.underlying t = some (.slice e)) (hi : P.info? e = some i) (hz : i.zero = some z)
    (hsize : i.size = size) (hby : i.bytes = bytes) (hzs : z.cells.size = size) (hsz : 0 < size)
    (a : Option Addr) (n cap : Nat) (vs : List Value) (hs : act.eval s = .slice a n cap) (hr : Rw w S a n cap size vs)
    (b : Option Addr) (m c : Nat) (news : List Value) (hx : act.eval x = .slice b m c) (hsv : SlV w b m c size news) (h1 : ∀ u ∈ news, u.oneCell' = true)
    (h63 : n + m ≤ maxLen) (hbytes : (n + m) * bytes ≤ 140737488355328)
    (hK : ∀ a' cap' w', Rw w' (fun k => S k ∨ w.heap.size ≤ k) a' (n + m) cap' size (vs ++ news) → Keep S w w' → wpList P ops Q rest (act.put o.dst (.slice a' (n + m) cap')) w') :
    wpList P ops Q (o :: rest) act w := by
  unfold wpList
  rw [if_pos hw]
  left
  obtain ⟨a', cap', w', hrun, r1, r2⟩ := run_append_slv (P := P) w S t o.type e i z size bytes ht hi hz hsize hby hzs hsz a n cap vs hr b m c news hsv h1 h63 hbytes
  unfold Oper.wp
  simp [execOp, hop, resolve, invoke, builtin, hs, hx, hrun, Result.andThen]
  exact hK a' cap' w' r1 r2
/-- One operation of a region in its order, by its run. -/
theorem list_take {P : Program} {ops : Array Oper} {rest : List Oper} {o : Oper} {a : Act} {w : World} {Q : Exit → Act → World → Prop} (v : Value) (w' : World) (hw : Region.wanted o (yielded ops a.tmps) = true)
    (hrun : (execOp a.eval o).run P w = .ok (.value v) w') (h : wpList P ops Q rest (a.put o.dst v) w') : wpList P ops Q (o :: rest) a w := by
  unfold wpList
  rw [if_pos hw]
  left
  unfold Oper.wp
  rw [hrun]
  exact h
theorem SlV.front {w : World} {a : Option Addr} {n cap es : Nat} {vs : List Value} (h : SlV w a n cap es vs) {k : Nat} (hk : k ≤ n) : SlV w a k cap es (vs.take (k * es)) := by
  have hl := h.len
  have hm : k * es ≤ n * es := Nat.mul_le_mul_right _ hk
  refine ⟨by rw [List.length_take]; omega, Nat.le_trans hk h.le, h.max, h.nil, ?_⟩
  rcases h.row with h0 | ⟨b, o, e, hc⟩
  · exact .inl (by rw [h0]; simp)
  · refine .inr ⟨b, o, e, fun i u hu => hc i u ?_⟩
    rw [List.getElem?_take] at hu
    split at hu
    · exact hu
    · cases hu
theorem SlV.rear {w : World} {b o n cap es : Nat} {vs : List Value} (h : SlV w (some ⟨b, o, none⟩) n cap es vs) {k : Nat} (hk : k ≤ n) {A : Addr} (hA : (if cap = k then some (⟨b, o, none⟩ : Addr) else some ⟨b, o + k * es, none⟩) = some A) : SlV w (some A) (n - k) (cap - k) es (vs.drop (k * es)) := by
  have hl := h.len
  have hle := h.le
  have hm : (n - k) * es = n * es - k * es := Nat.sub_mul _ _ _
  have hmx := h.max
  refine ⟨by rw [List.length_drop]; omega, by omega, by omega, fun h => (by cases h), ?_⟩
  by_cases hc : cap = k
  · left
    apply List.eq_nil_of_length_eq_zero
    rw [List.length_drop]
    have : n = k := by omega
    subst this
    omega
  · rw [if_neg hc] at hA
    obtain rfl := Option.some.inj hA
    rcases h.row with h0 | ⟨b', o', e, hcc⟩
    · exact .inl (by rw [h0]; simp)
    · simp at e
      obtain ⟨rfl, rfl⟩ := e
      refine .inr ⟨b, o + k * es, rfl, fun i u hu => ?_⟩
      rw [List.getElem?_drop] at hu
      rw [Nat.add_assoc]
      exact hcc _ u hu
/-- The two pieces, one behind the other, in new memory: one element is left out. -/
theorem slv_cells {w : World} {a : Option Addr} {n cap : Nat} {z : List Int} : SlV w a n cap 1 (cells z) → Sl w a n cap z := by
  intro h
  have hl := h.len
  refine ⟨by simpa [cells] using hl, h.le, h.max, h.nil, ?_⟩
  rcases h.row with h0 | ⟨b, o, e, hc⟩
  · exact .inl (by simpa [cells] using h0)
  · exact .inr ⟨b, o, e, fun i hi => hc i _ (by simp [cells, hi])⟩
theorem cells_slv {w : World} {a : Option Addr} {n cap : Nat} {z : List Int} (h : Sl w a n cap z) : SlV w a n cap 1 (cells z) := by
  have hl := h.len
  refine ⟨by simpa [cells] using hl, h.le, h.max, h.nil, ?_⟩
  rcases h.row with h0 | ⟨b, o, e, hc⟩
  · exact .inl (by simp [cells, h0])
  · refine .inr ⟨b, o, e, fun i u hu => ?_⟩
    obtain ⟨hi, rfl⟩ := cells_get hu
    exact hc i hi
end Go.Proofs.Ytgeiagndpfdnlaa
end
section
namespace Go.Proofs.Ytgeiagndpfdnlaa
open Go.RowKit
set_option linter.unusedVariables false

/-- A row of structs, cell by cell. -/
def flat {α : Type} (c : α → List Value) (R : List α) : List Value := R.flatMap c
section
variable {α : Type} {c : α → List Value} {k : Nat}
theorem flat_nil : flat c [] = [] := rfl
theorem flat_cons (r : α) (R : List α) : flat c (r :: R) = c r ++ flat c R := rfl
theorem flat_append (R T : List α) : flat c (R ++ T) = flat c R ++ flat c T := by simp [flat]
theorem flat_one (r : α) : flat c [r] = c r := by simp [flat]
theorem flat_len (hc : ∀ x, (c x).length = k) (R : List α) : (flat c R).length = R.length * k := by
  induction R with
  | nil => simp [flat]
  | cons o p ih => rw [flat_cons, List.length_append, hc, ih, List.length_cons, Nat.add_mul]; omega
theorem flat_get (hc : ∀ x, (c x).length = k) {R : List α} {i : Nat} {r : α} (h : R[i]? = some r) (j : Nat) (hj : j < k) : (flat c R)[i * k + j]? = (c r)[j]? := by
  induction R generalizing i with
  | nil => simp at h
  | cons x R ih =>
    rw [flat_cons]
    cases i with
    | zero => simp at h; subst h; rw [Nat.zero_mul, Nat.zero_add, List.getElem?_append_left (by rw [hc]; exact hj)]
    | succ i =>
      have h' : R[i]? = some r := by simpa using h
      have e : (i + 1) * k = i * k + k := by rw [Nat.add_mul, Nat.one_mul]
      rw [List.getElem?_append_right (by rw [hc]; omega), hc, ← ih h']
      congr 1
      omega
theorem flat_take (hc : ∀ x, (c x).length = k) (R : List α) (i : Nat) : (flat c R).take (i * k) = flat c (R.take i) := by
  induction R generalizing i with
  | nil => simp [flat]
  | cons x R ih =>
    cases i with
    | zero => simp [flat]
    | succ i =>
      rw [List.take_succ_cons, flat_cons, flat_cons, ← ih i, List.take_append, hc, List.take_of_length_le (by rw [hc, Nat.add_mul, Nat.one_mul]; omega)]
      congr 2
      rw [Nat.add_mul, Nat.one_mul]; omega
theorem flat_drop (hc : ∀ x, (c x).length = k) (R : List α) (i : Nat) : (flat c R).drop (i * k) = flat c (R.drop i) := by
  induction R generalizing i with
  | nil => simp [flat]
  | cons x R ih =>
    cases i with
    | zero => simp
    | succ i =>
      rw [List.drop_succ_cons, flat_cons, ← ih i, List.drop_append, hc, List.drop_eq_nil_of_le (by rw [hc, Nat.add_mul, Nat.one_mul]; omega), List.nil_append]
      congr 1
      rw [Nat.add_mul, Nat.one_mul]; omega
theorem flat_onecell {R : List α} (h : ∀ r ∈ R, ∀ u ∈ c r, u.oneCell' = true) : ∀ u ∈ flat c R, u.oneCell' = true := by
  intro u hu
  obtain ⟨r, hr, hu'⟩ := List.mem_flatMap.1 hu
  exact h r hr u hu'
/-- One cell of one element is another one. -/
theorem flat_set (hc : ∀ x, (c x).length = k) {R : List α} {i j : Nat} {r r' : α} {u : Value} (h : R[i]? = some r) (hj : j < k) (hr : c r' = (c r).set j u) : (flat c R).set (i * k + j) u = flat c (R.set i r') := by
  induction R generalizing i with
  | nil => simp at h
  | cons x R ih =>
    cases i with
    | zero =>
      simp at h
      subst h
      rw [Nat.zero_mul, Nat.zero_add, List.set_cons_zero, flat_cons, flat_cons, hr, List.set_append_left _ _ (by rw [hc]; exact hj)]
    | succ i =>
      have h' : R[i]? = some r := by simpa using h
      have e : (i + 1) * k + j = k + (i * k + j) := by rw [Nat.add_mul, Nat.one_mul]; omega
      rw [List.set_cons_succ, flat_cons, flat_cons, ← ih h', e, List.set_append_right _ _ (by rw [hc]; omega), hc]
      congr 2
      omega
end
/-- One cell of a row is written. -/
theorem Rw.set {w : World} {S : Nat → Prop} {b o n cap es i : Nat} {vs : List Value} (h : Rw w S (some ⟨b, o, none⟩) n cap es vs) (hi : i < n * es) (u : Value) : Rw (w.setCell ⟨b, o + i, none⟩ u) S (some ⟨b, o, none⟩) n cap es (vs.set i u) := by
  refine ⟨by rw [List.length_set]; exact h.len, h.le, h.max, fun e => (by cases e), ?_⟩
  rcases h.row with h0 | ⟨b', o', e, hs, hb, hc, hf⟩
  · exact .inl h0
  · simp at e
    obtain ⟨rfl, rfl⟩ := e
    have hcap : i < cap * es := Nat.lt_of_lt_of_le hi (Nat.mul_le_mul_right _ h.le)
    refine .inr ⟨b, o, rfl, hs, by simpa using hb, fun j v hj => ?_, fun j hj => ?_⟩
    · rw [List.getElem?_set] at hj
      by_cases e : i = j
      · subst e
        rw [if_pos rfl] at hj
        split at hj
        · obtain rfl := Option.some.inj hj
          exact World.cell?_setCell_same' _ _ _ (hf i hcap).1
        · cases hj
      · rw [if_neg e] at hj
        rw [World.cell?_setCell_other _ _ _ _ (by simp <;> omega)]
        exact hc j v hj
    · rw [World.frozen?_setCell]
      refine ⟨?_, (hf j hj).2⟩
      by_cases e : i = j
      · subst e
        rw [World.cell?_setCell_same' _ _ _ (hf i hcap).1]
        rfl
      · rw [World.cell?_setCell_other _ _ _ _ (by simp <;> omega)]
        exact (hf j hj).1
end Go.Proofs.Ytgeiagndpfdnlaa
end
section
namespace Go.Proofs.Ytgeiagndpfdnlaa
open Go.RowKit
set_option linter.unusedVariables false
set_option maxRecDepth 20000

/-- A line in a cache: who is behind it, who is ahead, its number, when it was used, its state, its words. -/
structure En where
  f : Int
  b : Int
  n : Int
  u : Int
  q : Bool
  z : List Int
/-- The entry as a value, its words where d says. -/
@[reducible] def En.val (x : En) (d : Value) : Value := .agg #[.int .i64 x.f, .int .i64 x.b, .int .i64 x.n, .int .i64 x.u, .bool x.q, d]
/-- An entry in memory, in a block that may be written. -/
structure Eb (W : World) (g o : Nat) (x : En) (d : Value) : Prop where
  c0 : W.cell? ⟨g, o, none⟩ = some (.int .i64 x.f)
  c1 : W.cell? ⟨g, o + 1, none⟩ = some (.int .i64 x.b)
  c2 : W.cell? ⟨g, o + 2, none⟩ = some (.int .i64 x.n)
  c3 : W.cell? ⟨g, o + 3, none⟩ = some (.int .i64 x.u)
  c4 : W.cell? ⟨g, o + 4, none⟩ = some (.bool x.q)
  c5 : W.cell? ⟨g, o + 5, none⟩ = some d
  fz : ∀ k, k < 6 → W.frozen? ⟨g, o + k, none⟩ = false
  lt : g < W.heap.size
theorem Eb.keep {F : Nat → Prop} {W W' : World} {g o : Nat} {x : En} {d : Value} (h : Eb W g o x d) (hk : Keep F W W') (hF : ¬ F g) : Eb W' g o x d :=
  have e := fun o => hk.cell (b := g) o h.lt hF
  ⟨(e _).trans h.c0, (e _).trans h.c1, (e _).trans h.c2, (e _).trans h.c3, (e _).trans h.c4, (e _).trans h.c5, fun k hk' => (hk.frozen (b := g) _ h.lt hF).trans (h.fz k hk'), Nat.lt_of_lt_of_le h.lt hk.size⟩
theorem Eb.next {W W' : World} {g o : Nat} {x : En} {d : Value} (h : Eb W g o x d) (hb : Below W.heap.size W W') : Eb W' g o x d := h.keep (F := fun _ => False) (Keep.of_below hb) (fun h => h)
theorem Eb.below {W W' : World} {g o base : Nat} {x : En} {d : Value} (h : Eb W g o x d) (hb : Below base W W') (hg : g < base) : Eb W' g o x d :=
  h.keep (F := fun k => base ≤ k) ⟨hb.os, hb.tape, hb.output, hb.size, fun k _ hF => hb.block k (by omega)⟩ (by omega)
theorem Eb.far {W : World} {g o : Nat} {x : En} {d u : Value} {p : Addr} (h : Eb W g o x d) (hp : g ≠ p.block) : Eb (W.setCell p u) g o x d :=
  h.keep (F := fun k => k = p.block) ((Keep.refl (fun k => k = p.block) W).setCell (p := p) (.inl rfl) u) hp
section
variable {W : World} {g o : Nat} {x : En} {d : Value}
theorem Eb.setF (h : Eb W g o x d) (v : Int) : Eb (W.setCell ⟨g, o, none⟩ (.int .i64 v)) g o { x with f := v } d := by
  obtain ⟨c0, c1, c2, c3, c4, c5, fz, lt⟩ := h
  constructor <;> (try intro k hk) <;> go_simp
theorem Eb.setB (h : Eb W g o x d) (v : Int) : Eb (W.setCell ⟨g, o + 1, none⟩ (.int .i64 v)) g o { x with b := v } d := by
  obtain ⟨c0, c1, c2, c3, c4, c5, fz, lt⟩ := h
  constructor <;> (try intro k hk) <;> go_simp
theorem Eb.setN (h : Eb W g o x d) (v : Int) : Eb (W.setCell ⟨g, o + 2, none⟩ (.int .i64 v)) g o { x with n := v } d := by
  obtain ⟨c0, c1, c2, c3, c4, c5, fz, lt⟩ := h
  constructor <;> (try intro k hk) <;> go_simp
theorem Eb.setU (h : Eb W g o x d) (v : Int) : Eb (W.setCell ⟨g, o + 3, none⟩ (.int .i64 v)) g o { x with u := v } d := by
  obtain ⟨c0, c1, c2, c3, c4, c5, fz, lt⟩ := h
  constructor <;> (try intro k hk) <;> go_simp
theorem Eb.setQ (h : Eb W g o x d) (v : Bool) : Eb (W.setCell ⟨g, o + 4, none⟩ (.bool v)) g o { x with q := v } d := by
  obtain ⟨c0, c1, c2, c3, c4, c5, fz, lt⟩ := h
  constructor <;> (try intro k hk) <;> go_simp
theorem Eb.setZ (h : Eb W g o x d) (z : List Int) (v : Value) : Eb (W.setCell ⟨g, o + 5, none⟩ v) g o { x with z := z } v := by
  obtain ⟨c0, c1, c2, c3, c4, c5, fz, lt⟩ := h
  constructor <;> (try intro k hk) <;> go_simp
end
def zeroEn : En := ⟨0, 0, 0, 0, false, []⟩
/-- All six are written. -/
theorem Eb.six {F : Nat → Prop} {W V : World} {g o : Nat} {x : En} {d : Value} (hF : F g ∨ W.heap.size ≤ g) (h : Keep F W V) :
    Keep F W ((((((V.setCell ⟨g, o, none⟩ (.int .i64 x.f)).setCell ⟨g, o + 1, none⟩ (.int .i64 x.b)).setCell ⟨g, o + 2, none⟩ (.int .i64 x.n)).setCell ⟨g, o + 3, none⟩ (.int .i64 x.u)).setCell ⟨g, o + 4, none⟩ (.bool x.q)).setCell ⟨g, o + 5, none⟩ d) := by
  have k : ∀ (V : World) (o : Nat) (u : Value), Keep F W V → Keep F W (V.setCell ⟨g, o, none⟩ u) := fun V o u h => h.setCell (p := ⟨g, o, none⟩) hF u
  exact k _ _ _ (k _ _ _ (k _ _ _ (k _ _ _ (k _ _ _ (k _ _ _ h)))))
theorem Eb.put {W : World} {g o : Nat} {x : En} {d : Value} (h : Eb W g o x d) (y : En) (v : Value) :
    Eb ((((((W.setCell ⟨g, o, none⟩ (.int .i64 y.f)).setCell ⟨g, o + 1, none⟩ (.int .i64 y.b)).setCell ⟨g, o + 2, none⟩ (.int .i64 y.n)).setCell ⟨g, o + 3, none⟩ (.int .i64 y.u)).setCell ⟨g, o + 4, none⟩ (.bool y.q)).setCell ⟨g, o + 5, none⟩ v) g o y v := by
  obtain ⟨c0, c1, c2, c3, c4, c5, fz, lt⟩ := h
  constructor <;> (try intro k hk) <;> go_simp
/-- What a fresh variable's cells are, written out. -/
theorem Eb.lit {W : World} {g : Nat} {x : En} {d : Value} (h : Eb W g 0 x d) : W.cell? ⟨g, 0, none⟩ = some (.int .i64 x.f) ∧ W.cell? ⟨g, 1, none⟩ = some (.int .i64 x.b) ∧ W.cell? ⟨g, 2, none⟩ = some (.int .i64 x.n) ∧ W.cell? ⟨g, 3, none⟩ = some (.int .i64 x.u) ∧ W.cell? ⟨g, 4, none⟩ = some (.bool x.q) ∧ W.cell? ⟨g, 5, none⟩ = some d :=
  ⟨h.c0, by simpa using h.c1, by simpa using h.c2, by simpa using h.c3, by simpa using h.c4, by simpa using h.c5⟩
theorem Eb.lit' {W : World} {g : Nat} {x : En} {d : Value} (h : Eb W g 0 x d) : W.frozen? ⟨g, 0, none⟩ = false ∧ W.frozen? ⟨g, 1, none⟩ = false ∧ W.frozen? ⟨g, 2, none⟩ = false ∧ W.frozen? ⟨g, 3, none⟩ = false ∧ W.frozen? ⟨g, 4, none⟩ = false ∧ W.frozen? ⟨g, 5, none⟩ = false :=
  ⟨by simpa using h.fz 0 (by omega), by simpa using h.fz 1 (by omega), by simpa using h.fz 2 (by omega), by simpa using h.fz 3 (by omega), by simpa using h.fz 4 (by omega), by simpa using h.fz 5 (by omega)⟩
end Go.Proofs.Ytgeiagndpfdnlaa
end
section
namespace Go.Proofs.Ytgeiagndpfdnlaa
open Go.RowKit
set_option linter.unusedVariables false

/-- The six cells of an entry. -/
def ecells (r : En × Value) : List Value := [.int .i64 r.1.f, .int .i64 r.1.b, .int .i64 r.1.n, .int .i64 r.1.u, .bool r.1.q, r.2]
theorem ecells_len (r : En × Value) : (ecells r).length = 6 := rfl
theorem ecells_one {r : En × Value} (hd : r.2.oneCell' = true) : ∀ u ∈ ecells r, u.oneCell' = true := by
  intro u hu
  simp [ecells] at hu
  rcases hu with h | h | h | h | h | h <;> subst h <;> first | rfl | exact hd
/-- Words, in a block of D if there are any. -/
def pz (z : List Int) : Pk := ⟨0, 0, 0, 0, 0, 0, 0, false, z⟩
@[reducible] def DatZ (w : World) (D : Nat → Prop) (z : List Int) (d : Value) : Prop := Dat w D (pz z) d
theorem datz_own {w : World} {base : Nat} {v : Value} {z : List Int} (h : Own w base v z) (hn : z.length ≤ 17592186044416) : DatZ w (fun k => base ≤ k) z v := dat_own (x := pz z) h hn
/-- A row of the entries L, in a block of M; their words lie in blocks of D. -/
structure ERow (w : World) (M D : Nat → Prop) (L : List En) (R : List (En × Value)) (a : Option Addr) (n cap : Nat) : Prop where
  eq : R.map Prod.fst = L
  len : L.length = n
  row : Rw w M a n cap 6 (flat ecells R)
  dat : ∀ r ∈ R, DatZ w D r.1.z r.2
  old : ∀ k, M k → k < w.heap.size
  dj : ∀ k, M k → ¬ D k
section
variable {w w' : World} {M D F : Nat → Prop} {L : List En} {R : List (En × Value)} {a : Option Addr} {n cap : Nat}
theorem ERow.rlen (h : ERow w M D L R a n cap) : R.length = n := by have := congrArg List.length h.eq; simp at this; rw [this, h.len]
theorem ERow.keep (h : ERow w M D L R a n cap) (hk : Keep F w w') (hF : ∀ k, M k ∨ D k → ¬ F k) : ERow w' M D L R a n cap :=
  ⟨h.eq, h.len, h.row.keep hk (fun k hm => hF k (.inl hm)), fun r hr => (h.dat r hr).keep hk (fun k hd => hF k (.inr hd)), fun k hm => Nat.lt_of_lt_of_le (h.old k hm) hk.size, h.dj⟩
theorem ERow.below (h : ERow w M D L R a n cap) (hb : Below w.heap.size w w') : ERow w' M D L R a n cap := h.keep (F := fun _ => False) (Keep.of_below hb) (fun _ _ h => h)
theorem erow_nil (w : World) (D : Nat → Prop) : ERow w (fun _ => False) D [] [] none 0 0 := ⟨rfl, rfl, rw_nil _ _ _, fun r hr => (by cases hr), fun k h => h.elim, fun k h => h.elim⟩
theorem ERow.onecell (h : ERow w M D L R a n cap) : ∀ u ∈ flat ecells R, u.oneCell' = true := flat_onecell (fun r hr => ecells_one (h.dat r hr).one)
/-- Element i, cell by cell. -/
theorem ERow.get (h : ERow w M D L R a n cap) {i : Nat} (hi : i < n) : ∃ x d b o, L[i]? = some x ∧ R[i]? = some (x, d) ∧ DatZ w D x.z d ∧ a = some ⟨b, o, none⟩ ∧ M b ∧ b < w.heap.size ∧
    (w.cell? ⟨b, o + i * 6, none⟩ = some (.int .i64 x.f) ∧ w.cell? ⟨b, o + i * 6 + 1, none⟩ = some (.int .i64 x.b) ∧ w.cell? ⟨b, o + i * 6 + 2, none⟩ = some (.int .i64 x.n) ∧ w.cell? ⟨b, o + i * 6 + 3, none⟩ = some (.int .i64 x.u) ∧
    w.cell? ⟨b, o + i * 6 + 4, none⟩ = some (.bool x.q) ∧ w.cell? ⟨b, o + i * 6 + 5, none⟩ = some d) ∧
    (∀ j, j < 6 → w.frozen? ⟨b, o + i * 6 + j, none⟩ = false) := by
  have hl := h.rlen
  obtain ⟨⟨x, d⟩, hR'⟩ : ∃ r, R[i]? = some r := ⟨R[i]'(by omega), List.getElem?_eq_getElem (by omega)⟩
  rcases h.row.row with h0 | ⟨b, o, rfl, hm, hb, hc, hf⟩
  · have := h.row.le; omega
  · have g : ∀ j u, j < 6 → (ecells (x, d))[j]? = some u → w.cell? ⟨b, o + i * 6 + j, none⟩ = some u := fun j u hj hu => by
      rw [Nat.add_assoc]; exact hc _ u (by rw [flat_get ecells_len hR' j hj]; exact hu)
    refine ⟨x, d, b, o, ?_, hR', h.dat (x, d) (List.mem_of_getElem? hR'), rfl, hm, hb, ⟨g 0 _ (by omega) rfl, g 1 _ (by omega) rfl, g 2 _ (by omega) rfl, g 3 _ (by omega) rfl, g 4 _ (by omega) rfl, g 5 _ (by omega) rfl⟩, fun j hj => ?_⟩
    · rw [← h.eq, List.getElem?_map, hR']; rfl
    · rw [Nat.add_assoc]
      have h1 := h.row.le
      have : (i + 1) * 6 ≤ cap * 6 := Nat.mul_le_mul_right _ (by omega)
      exact (hf (i * 6 + j) (by omega)).2
theorem map_set' {α β : Type} (f : α → β) (l : List α) (i : Nat) (x : α) : (l.set i x).map f = (l.map f).set i (f x) := by simp [List.map_set]
/-- The Used of one element is another one. -/
theorem ERow.setU {b o : Nat} (h : ERow w M D L R (some ⟨b, o, none⟩) n cap) {i : Nat} {x : En} {d : Value} (hi : i < n) (hr : R[i]? = some (x, d)) (u : Int) :
    ERow (w.setCell ⟨b, o + i * 6 + 3, none⟩ (.int .i64 u)) M D (L.set i { x with u := u }) (R.set i ({ x with u := u }, d)) (some ⟨b, o, none⟩) n cap := by
  obtain ⟨x', d', b', o', _, _, _, e, hm, hb, _⟩ := h.get hi
  simp at e
  obtain ⟨rfl, rfl⟩ := e
  have kk := Keep.one w b (o + (i * 6 + 3)) (.int .i64 u)
  have row := h.row.set (i := i * 6 + 3) (by omega) (.int .i64 u)
  rw [flat_set ecells_len hr (r' := ({ x with u := u }, d)) (by omega) rfl] at row
  rw [Nat.add_assoc]
  refine ⟨by rw [map_set', h.eq], by rw [List.length_set]; exact h.len, row, fun r hr' => ?_, fun k hk => by simpa using h.old k hk, h.dj⟩
  rcases List.mem_or_eq_of_mem_set hr' with hr' | rfl
  · exact (h.dat r hr').keep kk (fun k hd e => h.dj b hm (e ▸ hd))
  · exact (h.dat (x, d) (List.mem_of_getElem? hr)).keep kk (fun k hd e => h.dj b hm (e ▸ hd))
/-- One element is another one, its words elsewhere. -/
theorem ERow.put {b o : Nat} (h : ERow w M D L R (some ⟨b, o, none⟩) n cap) {i : Nat} (hi : i < n) {E : Nat → Prop} {y : En} {v : Value} (hd : DatZ w E y.z v) (hE : ∀ k, E k → ¬ M k) :
    ERow ((((((w.setCell ⟨b, o + i * 6, none⟩ (.int .i64 y.f)).setCell ⟨b, o + i * 6 + 1, none⟩ (.int .i64 y.b)).setCell ⟨b, o + i * 6 + 2, none⟩ (.int .i64 y.n)).setCell ⟨b, o + i * 6 + 3, none⟩ (.int .i64 y.u)).setCell ⟨b, o + i * 6 + 4, none⟩ (.bool y.q)).setCell ⟨b, o + i * 6 + 5, none⟩ v) M (fun k => D k ∨ E k) (L.set i y) (R.set i (y, v)) (some ⟨b, o, none⟩) n cap := by
  obtain ⟨x, d, b', o', _, hr, _, e, hm, hb, _⟩ := h.get hi
  simp at e
  obtain ⟨rfl, rfl⟩ := e
  have hl := h.rlen
  have k1 : ∀ (V : World) (o : Nat) (u : Value), Keep (fun k => k = b) w V → Keep (fun k => k = b) w (V.setCell ⟨b, o, none⟩ u) := fun V o u h => h.setCell (p := ⟨b, o, none⟩) (.inl rfl) u
  have kk := k1 _ (o + i * 6 + 5) v (k1 _ (o + i * 6 + 4) (.bool y.q) (k1 _ (o + i * 6 + 3) (.int .i64 y.u) (k1 _ (o + i * 6 + 2) (.int .i64 y.n) (k1 _ (o + i * 6 + 1) (.int .i64 y.b) (k1 _ (o + i * 6) (.int .i64 y.f) (Keep.refl _ w))))))
  have row := (((((h.row.set (i := i * 6 + 0) (by omega) (.int .i64 y.f)).set (i := i * 6 + 1) (by omega) (.int .i64 y.b)).set (i := i * 6 + 2) (by omega) (.int .i64 y.n)).set (i := i * 6 + 3) (by omega) (.int .i64 y.u)).set (i := i * 6 + 4) (by omega) (.bool y.q)).set (i := i * 6 + 5) (by omega) v
  have hi' : i < R.length := by omega
  have e0 := flat_set ecells_len (R := R) (i := i) (j := 0) (r' := ({ x with f := y.f }, d)) (u := .int .i64 y.f) hr (by omega) rfl
  have e1 := flat_set ecells_len (R := (R).set i ({ x with f := y.f }, d)) (i := i) (j := 1) (r' := ({ x with f := y.f, b := y.b }, d)) (u := .int .i64 y.b) (List.getElem?_set_self (a := (({ x with f := y.f }, d) : En × Value)) (by simpa using hi')) (by omega) rfl
  have e2 := flat_set ecells_len (R := ((R).set i ({ x with f := y.f }, d)).set i ({ x with f := y.f, b := y.b }, d)) (i := i) (j := 2) (r' := ({ x with f := y.f, b := y.b, n := y.n }, d)) (u := .int .i64 y.n) (List.getElem?_set_self (a := (({ x with f := y.f, b := y.b }, d) : En × Value)) (by simpa using hi')) (by omega) rfl
  have e3 := flat_set ecells_len (R := (((R).set i ({ x with f := y.f }, d)).set i ({ x with f := y.f, b := y.b }, d)).set i ({ x with f := y.f, b := y.b, n := y.n }, d)) (i := i) (j := 3) (r' := ({ x with f := y.f, b := y.b, n := y.n, u := y.u }, d)) (u := .int .i64 y.u) (List.getElem?_set_self (a := (({ x with f := y.f, b := y.b, n := y.n }, d) : En × Value)) (by simpa using hi')) (by omega) rfl
  have e4 := flat_set ecells_len (R := ((((R).set i ({ x with f := y.f }, d)).set i ({ x with f := y.f, b := y.b }, d)).set i ({ x with f := y.f, b := y.b, n := y.n }, d)).set i ({ x with f := y.f, b := y.b, n := y.n, u := y.u }, d)) (i := i) (j := 4) (r' := ({ x with f := y.f, b := y.b, n := y.n, u := y.u, q := y.q }, d)) (u := .bool y.q) (List.getElem?_set_self (a := (({ x with f := y.f, b := y.b, n := y.n, u := y.u }, d) : En × Value)) (by simpa using hi')) (by omega) rfl
  have e5 := flat_set ecells_len (R := (((((R).set i ({ x with f := y.f }, d)).set i ({ x with f := y.f, b := y.b }, d)).set i ({ x with f := y.f, b := y.b, n := y.n }, d)).set i ({ x with f := y.f, b := y.b, n := y.n, u := y.u }, d)).set i ({ x with f := y.f, b := y.b, n := y.n, u := y.u, q := y.q }, d)) (i := i) (j := 5) (r' := (y, v)) (u := v) (List.getElem?_set_self (a := (({ x with f := y.f, b := y.b, n := y.n, u := y.u, q := y.q }, d) : En × Value)) (by simpa using hi')) (by omega) rfl
  rw [e0, e1, e2, e3, e4, e5] at row
  simp only [List.set_set, Nat.add_zero, ← Nat.add_assoc] at row
  refine ⟨by rw [map_set', h.eq], by rw [List.length_set]; exact h.len, row, fun r hr' => ?_, fun k hk => by simpa using h.old k hk, ?_⟩
  · rcases List.mem_or_eq_of_mem_set hr' with hr' | rfl
    · exact ((h.dat r hr').keep kk (fun k hd e => h.dj b hm (e ▸ hd))).imp (fun k _ h => .inl h)
    · exact (hd.keep kk (fun k he e => hE b (e ▸ he) hm)).imp (fun k _ h => .inr h)
  · intro k hk hd
    rcases hd with hd | hd
    · exact h.dj k hk hd
    · exact hE k hd hk
end
end Go.Proofs.Ytgeiagndpfdnlaa
end
section
namespace Go.Proofs.Ytgeiagndpfdnlaa
open Go.RowKit Go.Maps
set_option linter.unusedVariables false

/-- What a home knows of a line: its number, its state, its head, its words. -/
structure Hr where
  n : Int
  s : Int
  h : Int
  z : List Int
@[reducible] def Hr.val (x : Hr) (d : Value) : Value := .agg #[.int .i64 x.s, .int .i64 x.h, d]
@[reducible] def hOf (x : Hr) : Int := x.n
@[reducible] def hKey (r : Hr × Value) : Int := r.1.n
@[reducible] def hVal (r : Hr × Value) : Value := r.1.val r.2
def zeroHr : Hr := ⟨0, 0, 0, []⟩
structure MW (w : World) (g b : Nat) (D : Nat → Prop) (N K : Int) (R : List (Hr × Value)) : Prop where
  c0 : w.cell? ⟨g, 0, none⟩ = some (.int .i64 N)
  c1 : w.cell? ⟨g, 1, none⟩ = some (.int .i64 K)
  c2 : w.cell? ⟨g, 2, none⟩ = some (.map (some b))
  lt : g < w.heap.size
  ne : b ≠ g
  rows : IM w b (kv hKey hVal R)
  dat : ∀ r ∈ R, DatZ w D r.1.z r.2
  rise : RiseK hKey R
  len : R.length ≤ 1000
  old : ∀ j, D j → j < w.heap.size
  dj : ¬ D g ∧ ¬ D b
section
variable {w w' : World} {g b : Nat} {D F : Nat → Prop} {N K : Int} {R : List (Hr × Value)}
theorem MW.keep (h : MW w g b D N K R) (hk : Keep F w w') (hF : ¬ F g ∧ ¬ F b ∧ ∀ k, D k → ¬ F k) : MW w' g b D N K R :=
  have e := fun o => hk.cell (b := g) o h.lt hF.1
  ⟨(e _).trans h.c0, (e _).trans h.c1, (e _).trans h.c2, Nat.lt_of_lt_of_le h.lt hk.size, h.ne, h.rows.keep hk hF.2.1, fun r hr => (h.dat r hr).keep hk hF.2.2, h.rise, h.len, fun j hj => Nat.lt_of_lt_of_le (h.old j hj) hk.size, h.dj⟩
theorem MW.below (h : MW w g b D N K R) (hb : Below w.heap.size w w') : MW w' g b D N K R := h.keep (F := fun _ => False) (Keep.of_below hb) ⟨id, id, fun _ _ h => h⟩
/-- The row of a line, or nothing. -/
def rowAt (R : List (Hr × Value)) (n : Int) : Hr × Value := (getK hKey n R).getD (zeroHr, .slice none 0 0)
def hasR (R : List (Hr × Value)) (n : Int) : Bool := (getK hKey n R).isSome
theorem row_at (R : List (Hr × Value)) (n : Int) : atI n (zeroHr.val (.slice none 0 0)) (kv hKey hVal R) = hVal (rowAt R n) := by
  rw [kv_at]
  unfold rowAt
  cases getK hKey n R <;> rfl
theorem row_has (R : List (Hr × Value)) (n : Int) : (getK Prod.fst n (kv hKey hVal R)).isSome = hasR R n := by
  rw [kv_get]
  unfold hasR
  cases getK hKey n R <;> rfl
theorem MW.rowDat (h : MW w g b D N K R) (n : Int) : DatZ w D (rowAt R n).1.z (rowAt R n).2 := by
  unfold rowAt
  cases hg : getK hKey n R with
  | none => exact ⟨none, 0, 0, rfl, sl_nil w, by omega, fun hz => absurd rfl hz⟩
  | some r => exact h.dat r (getK_some hg).1
/-- One row more, or another one; its words lie in E. -/
theorem MW.store {E : Nat → Prop} {r : Hr × Value} (h : MW w g b D N K R) (hl : (putK hKey r R).length ≤ 1000) (hx : In64 r.1.n) (hd : DatZ w E r.1.z r.2) (hE : ∀ j, E j → j < w.heap.size ∧ j ≠ g ∧ j ≠ b) :
    ∃ w', (Instr.mapUpdate 99 (.map (some b)) (.int .i64 r.1.n) (hVal r)).run Try.prog w = .ok () w' ∧ MW w' g b (fun j => D j ∨ E j) N K (putK hKey r R) ∧ Keep (fun j => j = b) w w' ∧ w'.heap.size = w.heap.size := by
  obtain ⟨w', hrun, im, ht⟩ := h.rows.store Try.underlying99 (by rw [kv_len]; have := h.len; unfold maxLen; omega) hx (hVal r)
  have hk := turned_keep ht
  have e := fun o => hk.cell (b := g) o h.lt (Ne.symm h.ne)
  refine ⟨w', hrun, ⟨(e _).trans h.c0, (e _).trans h.c1, (e _).trans h.c2, Nat.lt_of_lt_of_le h.lt hk.size, h.ne, kv_put (key := hKey) (val := hVal) r R ▸ im, fun q hq => ?_, rise_put h.rise, hl, fun j hj => ?_, ?_⟩, hk, turned_size ht⟩
  · rcases mem_putK.1 hq with rfl | ⟨hq, _⟩
    · exact (hd.keep hk (fun j hj e => (hE j hj).2.2 e)).imp (fun j _ hj => .inr hj)
    · exact ((h.dat q hq).keep hk (fun j hj e => h.dj.2 (e ▸ hj))).imp (fun j _ hj => .inl hj)
  · rcases hj with hj | hj
    · exact Nat.lt_of_lt_of_le (h.old j hj) hk.size
    · exact Nat.lt_of_lt_of_le (hE j hj).1 hk.size
  · exact ⟨fun hj => hj.elim h.dj.1 (fun he => (hE _ he).2.1 rfl), fun hj => hj.elim h.dj.2 (fun he => (hE _ he).2.2 rfl)⟩
end
end Go.Proofs.Ytgeiagndpfdnlaa
end
section
namespace Go.Proofs.Ytgeiagndpfdnlaa
open Go.RowKit Go.Maps
set_option linter.unusedVariables false

def rowL (L : List Hr) (n : Int) : Hr := (getK hOf n L).getD zeroHr
def hasH (L : List Hr) (n : Int) : Bool := (getK hOf n L).isSome
structure MO (w wx : World) (g : Nat) (X : Nat → Prop) (N K : Int) (L : List Hr) : Prop where
  bel : Below w.heap.size w wx
  c : ∃ b D R, MW wx g b D N K R ∧ R.map Prod.fst = L ∧ NX w X g ∧ NX w X b ∧ ∀ j, D j → NX w X j
  xl : ∀ j, X j → j < wx.heap.size
  zl : ∀ x ∈ L, (x.z.length : Int) = K
  k1 : 1 ≤ K
section
variable {w wx wy : World} {g : Nat} {X Y F : Nat → Prop} {N K : Int} {L : List Hr}
theorem MO.below (h : MO w wx g X N K L) (hb : Below wx.heap.size wx wy) : MO w wy g X N K L := by
  obtain ⟨b, D, R, c, hc⟩ := h.c
  exact ⟨next h.bel hb, ⟨b, D, R, c.below hb, hc⟩, fun j hj => Nat.lt_of_lt_of_le (h.xl j hj) hb.size, h.zl, h.k1⟩
/-- Another X: what was there of it, and what is new. -/
theorem MO.grow (h : MO w wx g X N K L) (hb : Below wx.heap.size wx wy) (hY : ∀ j, Y j → (X j ∨ wx.heap.size ≤ j) ∧ j < wy.heap.size) : MO w wy g Y N K L := by
  obtain ⟨b, D, R, c, e, hg, hb', hD⟩ := h.c
  have n : ∀ j, j < wx.heap.size → NX w X j → NX w Y j := fun j hj hn => ⟨hn.1, fun hy => by
    rcases (hY j hy).1 with hx | hx
    · exact hn.2 hx
    · omega⟩
  exact ⟨next h.bel hb, ⟨b, D, R, c.below hb, e, n g c.lt hg, n b c.rows.lt hb', fun j hj => n j (c.old j hj) (hD j hj)⟩, fun j hj => (hY j hj).2, h.zl, h.k1⟩
/-- The test writes what is its own. -/
theorem MO.write (h : MO w wx g X N K L) (hk : Keep F wx wy) (hF : ∀ j, F j → w.heap.size ≤ j ∧ (X j ∨ wx.heap.size ≤ j)) : MO w wy g X N K L := by
  obtain ⟨b, D, R, c, e, hg, hb', hD⟩ := h.c
  have n : ∀ j, j < wx.heap.size → NX w X j → ¬ F j := fun j hj hn hf => by
    rcases (hF j hf).2 with hx | hx
    · exact hn.2 hx
    · omega
  exact ⟨h.bel.trans (hk.below (fun j hj => (hF j hj).1) h.bel.size), ⟨b, D, R, c.keep hk ⟨n g c.lt hg, n b c.rows.lt hb', fun j hj => n j (c.old j hj) (hD j hj)⟩, e, hg, hb', hD⟩, fun j hj => Nat.lt_of_lt_of_le (h.xl j hj) hk.size, h.zl, h.k1⟩
theorem MO.rise (h : MO w wx g X N K L) : RiseK hOf L := by
  obtain ⟨b, D, R, c, rfl, _⟩ := h.c
  have := c.rise
  unfold RiseK at *
  rw [List.pairwise_map]
  exact this
theorem MO.len (h : MO w wx g X N K L) : L.length ≤ 1000 := by
  obtain ⟨b, D, R, c, rfl, _⟩ := h.c
  rw [List.length_map]
  exact c.len
end
theorem rowL_eq (R : List (Hr × Value)) (n : Int) : (rowAt R n).1 = rowL (R.map Prod.fst) n := by
  unfold rowAt rowL
  rw [map_getK (key := hKey) (key' := hOf) (fun _ => rfl)]
  cases getK hKey n R <;> rfl
theorem hasH_eq (R : List (Hr × Value)) (n : Int) : hasR R n = hasH (R.map Prod.fst) n := by
  unfold hasR hasH
  rw [map_getK (key := hKey) (key' := hOf) (fun _ => rfl)]
  cases getK hKey n R <;> rfl
end Go.Proofs.Ytgeiagndpfdnlaa
end
