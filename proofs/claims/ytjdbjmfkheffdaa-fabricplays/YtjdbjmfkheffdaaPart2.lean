/- More of regions that draw their order: two that may come up; what was made on the way is there from then on. Nothing of the program is named here.
Regions that draw their order, order by order: what looks at no memory is taken first. Nothing of the program is named here.
What a step leaves alone (Keep); rows of values that can be read (SlV), and that may be written, with the room behind them (Rw); append onto such a row. Nothing of the program is named here.
Packets as plain data; a packet's variable in memory; rows of packets, their words. Conditions: as each theorem states them.
Packets as plain data: what may be, and their bytes. No condition.
Packets as they come in: the value written out, its words readable.
Lists of acts as they come in: each act's cells, its packet's words readable.
A configuration as a value.
The contracts of the configurations that setups make: Config, at. Conditions: as each theorem states them.
Setups as they come in: the value written out, its lists readable.
Rows of packets in memory that may be written, their words elsewhere (PRow). Nothing of the program but packets is named here.
A queue, or a pool, in memory (Qu): its room, its packets; rows of packets out of it (NewRow). Nothing of the program but packets is named here. -/
import Derived.Test.YtjdbjmfkheffdaaPart1
import Derived.ArgAppend
import Derived.Deep.CutBlock
import Derived.Deep.Slices
import Derived.ProofKit
import Derived.OpenShut
import Derived.ChangeOld
import Derived.Below
import Derived.Lib.SmallJoins
section
namespace Go.Proofs.Ytjdbjmfkheffdaa
open Go.RowKit
set_option linter.unusedVariables false

section
variable {P : Program} {ops : Array Oper} {Q : Exit → Act → World → Prop} {w0 : World}

theorem wpAnyU_low {w1 : World} (hb : Below w0.heap.size w0 w1) : ∀ (fuel : Nat) (listed : Array Bool) (a : Act) (w : World), wpAnyU P .any ops Q w1 fuel listed a w → wpAnyU P .any ops Q w0 fuel listed a w
  | 0, _, _, _, h => h
  | fuel + 1, _, _, _, h => ⟨h.1, fun i hi => wpOp_mono (fun a' w' h' => ⟨next hb h'.1, fun u => wpAnyU_low hb fuel _ a' u.1 (h'.2 u)⟩) (h.2 i hi)⟩
/-- From here on, all that is there now stays. -/
theorem up_raise {fuel : Nat} {listed : Array Bool} {a : Act} {w : World} (hb : Below w0.heap.size w0 w) (h : MildOn P ops Q w fuel listed a) : wpAnyU P .any ops Q w0 fuel listed a w :=
  wpAnyU_low hb fuel listed a w (h (Up.self w))
/-- Two may come up. -/
theorem up_two (i j : Nat) {l ri rj : List Oper} {oi oj : Oper} {fuel : Nat} {listed : Array Bool} {a : Act} {w : World} (hr : Region.ready .any l.toArray listed = [i, j]) (hdi : l.drop i = oi :: ri) (hdj : l.drop j = oj :: rj)
    (hi : wpList P l.toArray (Then (fun a' w' => Below w0.heap.size w0 w' ∧ ∀ u : Up w', wpAnyU P .any l.toArray Q w0 fuel (listed.setIfInBounds i true) a' u.1) Q) [oi] a w)
    (hj : wpList P l.toArray (Then (fun a' w' => Below w0.heap.size w0 w' ∧ ∀ u : Up w', wpAnyU P .any l.toArray Q w0 fuel (listed.setIfInBounds j true) a' u.1) Q) [oj] a w) : wpAnyU P .any l.toArray Q w0 (fuel + 1) listed a w := by
  have step : ∀ (q : Nat) {oq : Oper} {rq : List Oper}, l.drop q = oq :: rq →
      wpList P l.toArray (Then (fun a' w' => Below w0.heap.size w0 w' ∧ ∀ u : Up w', wpAnyU P .any l.toArray Q w0 fuel (listed.setIfInBounds q true) a' u.1) Q) [oq] a w →
      wpOp P l.toArray Q q (fun a' w' => Below w0.heap.size w0 w' ∧ ∀ u : Up w', wpAnyU P .any l.toArray Q w0 fuel (listed.setIfInBounds q true) a' u.1) a w := by
    intro q oq rq hd h
    have hi := of_drop hd
    unfold wpOp
    simp only [hi]
    unfold wpList at h
    by_cases hw : Region.wanted oq (yielded l.toArray a.tmps) = true
    · rw [if_pos hw] at h ⊢
      refine h.imp (fun h => ?_) id
      unfold Oper.wp at *
      revert h
      generalize (execOp a.eval oq).run P w = r
      intro h
      rcases r with ⟨n, w'⟩ | ⟨x, w'⟩
      · cases n with
        | enter f args =>
          exact Calls.mono h fun e w'' he => by
            cases e <;> exact he
        | _ => exact h
      · cases x <;> exact h
    · rw [if_neg hw] at h ⊢
      exact h
  refine ⟨fun h0 => (by rw [hr] at h0; cases h0), ?_⟩
  rw [hr]
  intro q hq
  simp at hq
  rcases hq with rfl | rfl
  · exact step q hdi hi
  · exact step q hdj hj
end
end Go.Proofs.Ytjdbjmfkheffdaa
end
section
namespace Go.Proofs.Ytjdbjmfkheffdaa
open Go.RowKit
set_option linter.unusedVariables false

section
variable {P : Program} {Q : Exit → Act → World → Prop}

theorem wp_region_orders {id : Nat} {a : Act} {w : World} {l : List Oper} (n : Nat) (hn : l.length = n) (hm : P.follows .mixedOrders = true) (h : wpAny P .any l.toArray Q n (Array.replicate n false) a w.drew) : (Code.region id l.toArray true).wp P Q a w := by
  subst hn
  refine wp_region_any hm ?_
  simpa using h
theorem any_take (i : Nat) (v : Value) {l rest : List Oper} {oi : Oper} {fuel : Nat} {listed : Array Bool} {a : Act} {w : World} (hd : l.drop i = oi :: rest) (hs : Region.noSelect l.toArray = true)
    (hf : Region.free .any l.toArray listed i = true) (hr : (Region.ready .any l.toArray listed).contains i = true) (hQ : ∀ c a w, Q (.panic c) (a.put oi.dst v) w → Q (.panic c) a w)
    (hw : Region.wanted oi (yielded l.toArray a.tmps) = true) (hy : ∀ w, (execOp a.eval oi).run P w = .ok (.value v) w)
    (h : wpAny P .any l.toArray Q fuel (listed.setIfInBounds i true) (a.put oi.dst v) w) : wpAny P .any l.toArray Q (fuel + 1) listed a w :=
  wpAny_take (of_drop hd) hs hf hr hQ (.inl ⟨hw, hy⟩) h
theorem op_list (q : Nat) {l rq : List Oper} {oq : Oper} {K : Act → World → Prop} {a : Act} {w : World} (hd : l.drop q = oq :: rq) (h : wpList P l.toArray (Then K Q) [oq] a w) : wpOp P l.toArray Q q K a w := by
  have hi := of_drop hd
  unfold wpOp
  simp only [hi]
  unfold wpList at h
  by_cases hw : Region.wanted oq (yielded l.toArray a.tmps) = true
  · rw [if_pos hw] at h ⊢
    refine h.imp (fun h => ?_) id
    unfold Oper.wp at *
    revert h
    generalize (execOp a.eval oq).run P w = r
    intro h
    rcases r with ⟨n, w'⟩ | ⟨x, w'⟩
    · cases n with
      | enter f args =>
        exact Calls.mono h fun e w'' he => by
          cases e <;> exact he
      | _ => exact h
    · cases x <;> exact h
  · rw [if_neg hw] at h ⊢
    exact h
theorem any_list (i : Nat) {l rest : List Oper} {oi : Oper} {fuel : Nat} {listed : Array Bool} {a : Act} {w : World} (hr : Region.ready .any l.toArray listed = [i]) (hd : l.drop i = oi :: rest)
    (h : wpList P l.toArray (Then (fun a' w' => wpAny P .any l.toArray Q fuel (listed.setIfInBounds i true) a' w') Q) [oi] a w) : wpAny P .any l.toArray Q (fuel + 1) listed a w :=
  wpAny_all hr (by simp) fun q hq => by
    rw [List.mem_singleton] at hq
    subst hq
    exact op_list q hd h
theorem any_two (i j : Nat) {l ri rj : List Oper} {oi oj : Oper} {fuel : Nat} {listed : Array Bool} {a : Act} {w : World} (hr : Region.ready .any l.toArray listed = [i, j]) (hdi : l.drop i = oi :: ri) (hdj : l.drop j = oj :: rj)
    (hi : wpList P l.toArray (Then (fun a' w' => wpAny P .any l.toArray Q fuel (listed.setIfInBounds i true) a' w') Q) [oi] a w)
    (hj : wpList P l.toArray (Then (fun a' w' => wpAny P .any l.toArray Q fuel (listed.setIfInBounds j true) a' w') Q) [oj] a w) : wpAny P .any l.toArray Q (fuel + 1) listed a w :=
  wpAny_all hr (by simp) fun q hq => by
    simp at hq
    rcases hq with rfl | rfl
    · exact op_list q hdi hi
    · exact op_list q hdj hj
theorem any_done {fuel : Nat} {l : List Oper} {listed : Array Bool} {a : Act} {w : World} (hr : Region.ready .any l.toArray listed = []) (h : Q .normal a w) : wpAny P .any l.toArray Q fuel listed a w := wpAny_done hr h fuel
theorem then_n {K : Act → World → Prop} {a : Act} {w : World} (h : K a w) : Then K Q .normal a w := h
end
end Go.Proofs.Ytjdbjmfkheffdaa
end
section
namespace Go.Proofs.Ytjdbjmfkheffdaa
open Go.RowKit
set_option linter.unusedVariables false

/-- But for the blocks of F, what was there is as it was. -/
structure Keep (F : Nat → Prop) (w w' : World) : Prop where
  os : w'.os = w.os
  tape : w'.tape = w.tape
  output : w'.output = w.output
  size : w.heap.size ≤ w'.heap.size
  block : ∀ k, k < w.heap.size → ¬ F k → w'.heap[k]? = w.heap[k]?
theorem Keep.refl (F : Nat → Prop) (w : World) : Keep F w w := ⟨rfl, rfl, rfl, Nat.le_refl _, fun _ _ _ => rfl⟩
theorem Keep.of_below {F : Nat → Prop} {w w' : World} (h : Below w.heap.size w w') : Keep F w w' := ⟨h.os, h.tape, h.output, h.size, fun k hk _ => h.block k hk⟩
theorem Keep.trans {F G : Nat → Prop} {w w1 w2 : World} (h : Keep F w w1) (h2 : Keep G w1 w2) (hG : ∀ k, k < w.heap.size → G k → F k) : Keep F w w2 :=
  ⟨h2.os.trans h.os, h2.tape.trans h.tape, h2.output.trans h.output, Nat.le_trans h.size h2.size, fun k hk hF => (h2.block k (Nat.lt_of_lt_of_le hk h.size) (fun g => hF (hG k hk g))).trans (h.block k hk hF)⟩
theorem Keep.next {F : Nat → Prop} {w w1 w2 : World} (h : Keep F w w1) (h2 : Below w1.heap.size w1 w2) : Keep F w w2 := h.trans (Keep.of_below (F := fun _ => False) h2) (fun _ _ h => h.elim)
theorem Keep.mono {F G : Nat → Prop} {w w' : World} (h : Keep F w w') (hF : ∀ k, k < w.heap.size → F k → G k) : Keep G w w' := ⟨h.os, h.tape, h.output, h.size, fun k hk hG => h.block k hk (fun f => hG (hF k hk f))⟩
theorem Keep.pre {F : Nat → Prop} {w w1 w2 : World} (h : Below w.heap.size w w1) (h2 : Keep F w1 w2) : Keep F w w2 := (Keep.of_below h).trans h2 (fun _ _ h => h)
theorem Keep.setCell {F : Nat → Prop} {w w1 : World} (h : Keep F w w1) {p : Addr} (hp : F p.block ∨ w.heap.size ≤ p.block) (u : Value) : Keep F w (w1.setCell p u) :=
  ⟨h.os, h.tape, h.output, by simpa [World.setCell] using h.size, fun k hk hF => (Below.heap_setCell _ _ _ _ (by rintro rfl; rcases hp with hp | hp; exact hF hp; omega)).trans (h.block k hk hF)⟩
theorem Keep.setCells {F : Nat → Prop} {w : World} {b : Nat} (hp : F b ∨ w.heap.size ≤ b) : ∀ (vs : List Value) (o : Nat) (w1 : World), Keep F w w1 → Keep F w (w1.setCells b o vs)
  | [], _, _, h => h
  | v :: r, o, w1, h => Keep.setCells hp r (o + 1) _ (h.setCell (p := ⟨b, o, none⟩) hp v)
theorem Keep.below {F : Nat → Prop} {w w' : World} {base : Nat} (h : Keep F w w') (hF : ∀ k, F k → base ≤ k) (hb : base ≤ w.heap.size) : Below base w w' :=
  ⟨h.os, h.tape, h.output, h.size, fun k hk => h.block k (Nat.lt_of_lt_of_le hk hb) (fun f => by have := hF k f; omega)⟩
theorem Keep.cell {F : Nat → Prop} {w w' : World} (h : Keep F w w') {b : Nat} (o : Nat) (hb : b < w.heap.size) (hF : ¬ F b) : w'.cell? ⟨b, o, none⟩ = w.cell? ⟨b, o, none⟩ := World.cell?_of_block (w := w) (h.block b hb hF)
theorem Keep.frozen {F : Nat → Prop} {w w' : World} (h : Keep F w w') {b : Nat} (o : Nat) (hb : b < w.heap.size) (hF : ¬ F b) : w'.frozen? ⟨b, o, none⟩ = w.frozen? ⟨b, o, none⟩ := World.frozen?_of_block (w := w) (h.block b hb hF)
theorem Keep.after {F : Nat → Prop} {w V V' : World} (hk : Keep F V V') (h : Below w.heap.size w V) (hF : ∀ k, F k → w.heap.size ≤ k) : Below w.heap.size w V' := h.trans (hk.below hF h.size)
theorem Keep.afterN {F : Nat → Prop} {w V V' : World} {g : Nat} (hk : Keep F V V') (h : Below g w V) (hg : g ≤ V.heap.size) (hF : ∀ k, F k → g ≤ k) : Below g w V' := h.trans (hk.below hF hg)
theorem Keep.one (w : World) (b o : Nat) (v : Value) : Keep (fun k => k = b) w (w.setCell ⟨b, o, none⟩ v) := (Keep.refl (fun k => k = b) w).setCell (p := ⟨b, o, none⟩) (.inl rfl) v
theorem Keep.grown {w w' : World} {row : Option Nat} (hg : w.grownBy w' row) : Keep (fun k => some k = row) w w' := ⟨hg.os, hg.tape, hg.output, hg.size, fun k hk h => hg.block k hk h⟩
theorem Sl.keep {F : Nat → Prop} {w w' : World} {a : Option Addr} {n cap : Nat} {l : List Int} (h : Sl w a n cap l) (hk : Keep F w w') (hF : l ≠ [] → ∀ x : Addr, a = some x → ¬ F x.block) : Sl w' a n cap l := by
  refine ⟨h.len, h.le, h.max, h.nil, ?_⟩
  rcases h.row with h0 | ⟨b, o, rfl, hc⟩
  · exact .inl h0
  · by_cases hl : l = []
    · exact .inl hl
    · refine .inr ⟨b, o, rfl, fun i hi => ?_⟩
      have hi' := hc i hi
      rw [hk.cell _ (World.block_lt_of_cell? w _ hi') (hF hl ⟨b, o, none⟩ rfl)]; exact hi'

/-- A slice of n elements of es cells each whose cells can be read: they are vs. -/
structure SlV (w : World) (a : Option Addr) (n cap es : Nat) (vs : List Value) : Prop where
  len : vs.length = n * es
  le : n ≤ cap
  max : cap ≤ maxLen
  nil : a = none → cap = 0
  row : vs = [] ∨ ∃ b o, a = some ⟨b, o, none⟩ ∧ ∀ i u, vs[i]? = some u → w.cell? ⟨b, o + i, none⟩ = some u
theorem SlV.below {w w' : World} {a : Option Addr} {n cap es : Nat} {vs : List Value} (h : SlV w a n cap es vs) (hb : Below w.heap.size w w') : SlV w' a n cap es vs := by
  refine ⟨h.len, h.le, h.max, h.nil, h.row.imp id ?_⟩
  rintro ⟨b, o, rfl, hc⟩
  refine ⟨b, o, rfl, fun i u hu => ?_⟩
  have hi := hc i u hu
  rw [hb.cell (p := ⟨b, o + i, none⟩) (World.block_lt_of_cell? w _ hi)]
  exact hi
theorem SlV.same {w w' : World} {a : Option Addr} {n cap es : Nat} {vs : List Value} (h : SlV w a n cap es vs) (hh : w'.heap = w.heap) : SlV w' a n cap es vs := by
  refine ⟨h.len, h.le, h.max, h.nil, h.row.imp id ?_⟩
  rintro ⟨b, o, rfl, hc⟩
  exact ⟨b, o, rfl, fun i u hu => by rw [← hc i u hu]; simp [World.cell?, hh]⟩
theorem slv_nil (w : World) (es : Nat) : SlV w none 0 0 es [] := ⟨by simp, Nat.le_refl _, Nat.zero_le _, fun _ => rfl, .inl rfl⟩
theorem slv_own {w : World} {base e es n : Nat} {v : Value} {xs : List Value} (h : w.ownsRow base e es v n xs) : ∃ a cap, v = .slice a n cap ∧ SlV w a n cap es xs := by
  obtain ⟨h1, h2⟩ := h
  rcases h2 with ⟨rfl, rfl⟩ | ⟨g, cap, cur, rfl, hb, hg, hle, hm, hsz, ht⟩
  · obtain rfl : xs = [] := List.eq_nil_of_length_eq_zero (by simpa using h1)
    exact ⟨none, 0, rfl, slv_nil w es⟩
  · refine ⟨some ⟨g, 0, none⟩, cap, rfl, h1, hle, hm, fun h => (by cases h), .inr ⟨g, 0, rfl, fun i u hu => ?_⟩⟩
    rw [Nat.zero_add, cell_of_row w g i cur e (0, 0) hg]
    rw [← ht, List.getElem?_take] at hu
    split at hu
    · simpa using hu
    · cases hu

/-- A slice of n elements of es cells each, in a block of S, that may be written up to its capacity: its cells are vs. -/
structure Rw (w : World) (S : Nat → Prop) (a : Option Addr) (n cap es : Nat) (vs : List Value) : Prop where
  len : vs.length = n * es
  le : n ≤ cap
  max : cap ≤ maxLen
  nil : a = none → cap = 0
  row : cap = 0 ∨ ∃ b o, a = some ⟨b, o, none⟩ ∧ S b ∧ b < w.heap.size ∧ (∀ i u, vs[i]? = some u → w.cell? ⟨b, o + i, none⟩ = some u) ∧ (∀ i, i < cap * es → (w.cell? ⟨b, o + i, none⟩).isSome = true ∧ w.frozen? ⟨b, o + i, none⟩ = false)
theorem rw_nil (w : World) (S : Nat → Prop) (es : Nat) : Rw w S none 0 0 es [] := ⟨by simp, Nat.le_refl _, Nat.zero_le _, fun _ => rfl, .inl rfl⟩
theorem Rw.imp {w : World} {S T : Nat → Prop} {a : Option Addr} {n cap es : Nat} {vs : List Value} (h : Rw w S a n cap es vs) (hS : ∀ k, k < w.heap.size → S k → T k) : Rw w T a n cap es vs :=
  ⟨h.len, h.le, h.max, h.nil, h.row.imp id fun ⟨b, o, e, hs, hb, r⟩ => ⟨b, o, e, hS b hb hs, hb, r⟩⟩
theorem Rw.keep {w w' : World} {S F : Nat → Prop} {a : Option Addr} {n cap es : Nat} {vs : List Value} (h : Rw w S a n cap es vs) (hk : Keep F w w') (hF : ∀ k, S k → ¬ F k) : Rw w' S a n cap es vs :=
  ⟨h.len, h.le, h.max, h.nil, h.row.imp id fun ⟨b, o, e, hs, hb, r, f⟩ => ⟨b, o, e, hs, Nat.lt_of_lt_of_le hb hk.size, fun i u hu => by rw [hk.cell _ hb (hF b hs)]; exact r i u hu, fun i hi => by rw [hk.cell _ hb (hF b hs), hk.frozen _ hb (hF b hs)]; exact f i hi⟩⟩
theorem Rw.below {w w' : World} {S : Nat → Prop} {a : Option Addr} {n cap es : Nat} {vs : List Value} (h : Rw w S a n cap es vs) (hb : Below w.heap.size w w') : Rw w' S a n cap es vs :=
  h.keep (F := fun _ => False) (Keep.of_below hb) (fun _ _ h => h)
theorem Rw.slv {w : World} {S : Nat → Prop} {a : Option Addr} {n cap es : Nat} {vs : List Value} (h : Rw w S a n cap es vs) : SlV w a n cap es vs := by
  refine ⟨h.len, h.le, h.max, h.nil, ?_⟩
  rcases h.row with h0 | ⟨b, o, e, _, _, r, _⟩
  · left
    have h1 := h.len
    have h2 := h.le
    have : n = 0 := by omega
    subst this
    exact List.eq_nil_of_length_eq_zero (by simpa using h1)
  · exact .inr ⟨b, o, e, r⟩
theorem rw_own {w : World} {base e es n : Nat} {v : Value} {xs : List Value} (h : w.ownsRow base e es v n xs) : ∃ a cap, v = .slice a n cap ∧ Rw w (fun k => base ≤ k) a n cap es xs := by
  obtain ⟨h1, h2⟩ := h
  rcases h2 with ⟨rfl, rfl⟩ | ⟨g, cap, cur, rfl, hb, hg, hle, hm, hsz, ht⟩
  · obtain rfl : xs = [] := List.eq_nil_of_length_eq_zero (by simpa using h1)
    exact ⟨none, 0, rfl, rw_nil w _ es⟩
  · refine ⟨some ⟨g, 0, none⟩, cap, rfl, h1, hle, hm, fun h => (by cases h), .inr ⟨g, 0, rfl, hb, (Array.getElem?_eq_some_iff.1 hg).1, fun i u hu => ?_, fun i hi => ?_⟩⟩
    · rw [Nat.zero_add, cell_of_row w g i cur e (0, 0) hg]
      rw [← ht, List.getElem?_take] at hu
      split at hu
      · simpa using hu
      · cases hu
    · rw [Nat.zero_add, cell_of_row w g i cur e (0, 0) hg]
      refine ⟨?_, by simp [World.frozen?, hg]⟩
      rw [Array.getElem?_eq_getElem (by omega)]
      rfl
/-- One element, or more, onto such a row: in place, or in a new block. -/
theorem run_append_rw {P : Program} (w : World) (S : Nat → Prop) (t ty e : TypeId) (i : TypeInfo) (z : Value) (size bytes : Nat) (ht : P.underlying t = some (.slice e)) (hi : P.info? e = some i) (hz : i.zero = some z)
    (hsize : i.size = size) (hby : i.bytes = bytes) (hzs : z.cells.size = size) (hsz : 0 < size)
    (a : Option Addr) (n cap : Nat) (vs : List Value) (hr : Rw w S a n cap size vs)
    (ad : Addr) (m c : Nat) (news : List Value) (hm : 0 < m) (hl : news.length = m * size) (hnews : ∀ j u, news[j]? = some u → w.cell? (ad.add j) = some u) (h1 : ∀ u ∈ news, u.oneCell' = true)
    (h63 : n + m ≤ maxLen) (hbytes : (n + m) * bytes ≤ 140737488355328) :
    ∃ a' cap' w', (Builtin.append_ #[t, t] ty #[.slice a n cap, .slice (some ad) m c]).run P w = .ok (.slice a' (n + m) cap') w' ∧
      Rw w' (fun k => S k ∨ w.heap.size ≤ k) a' (n + m) cap' size (vs ++ news) ∧ Keep S w w' := by
  have hlen : (vs ++ news).length = (n + m) * size := by rw [List.length_append, hr.len, hl, Nat.add_mul]
  by_cases hroom : n + m ≤ cap
  · rcases hr.row with h0 | ⟨b, o, rfl, hs, hb, hc, hf⟩
    · omega
    · subst hsize
      have hin : ∀ j, j < news.length → n * i.size + j < cap * i.size := fun j hj => by
        have : (n + m) * i.size ≤ cap * i.size := Nat.mul_le_mul_right _ hroom
        rw [Nat.add_mul] at this
        omega
      have hrun := run_append_room_cells (P := P) w t ty e i ht hi b o n cap ad m c news hl hnews h1 hroom
        (fun j hj => by rw [Nat.add_assoc]; exact (hf _ (hin j hj)).1) (fun j hj => by rw [Nat.add_assoc]; exact (hf _ (hin j hj)).2)
      have hsome : ∀ j, j < news.length → (w.cell? ⟨b, o + n * i.size + j, none⟩).isSome = true := fun j hj => by rw [Nat.add_assoc]; exact (hf _ (hin j hj)).1
      refine ⟨_, _, _, hrun, ⟨hlen, hroom, hr.max, fun h => (by cases h), .inr ⟨b, o, rfl, .inl hs, ?_, fun j u hu => ?_, fun j hj => ?_⟩⟩, Keep.setCells (.inl hs) _ _ _ (Keep.refl _ _)⟩
      · exact Nat.lt_of_lt_of_le hb (Keep.setCells (F := S) (.inl hs) news _ _ (Keep.refl S w)).size
      · by_cases hj : j < vs.length
        · rw [List.getElem?_append_left hj] at hu
          rw [World.cell?_setCells_out b news _ w ⟨b, o + j, none⟩ (fun _ _ => .inl (by have := hr.len; simp only; omega))]
          exact hc j u hu
        · rw [List.getElem?_append_right (by omega)] at hu
          have hj2 : j - vs.length < news.length := (List.getElem?_eq_some_iff.1 hu).1
          have := World.cell?_setCells_in b news (o + n * i.size) w hsome (j - vs.length) hj2
          rw [show o + j = o + n * i.size + (j - vs.length) by have := hr.len; omega, this, ← List.getElem?_eq_getElem hj2]
          exact hu
      · rw [World.frozen?_setCells]
        refine ⟨?_, (hf j hj).2⟩
        by_cases hj1 : n * i.size ≤ j ∧ j < n * i.size + news.length
        · have := World.cell?_setCells_in b news (o + n * i.size) w hsome (j - n * i.size) (by omega)
          rw [show o + j = o + n * i.size + (j - n * i.size) by omega, this]
          rfl
        · rw [World.cell?_setCells_out b news _ w ⟨b, o + j, none⟩ (fun _ _ => by simp only; omega)]
          exact (hf j hj).1
  · have done : ∀ v' w', w'.ownsRow w.heap.size e size v' (n + m) (vs ++ news) → w.grownBy w' none →
        ∃ a' cap', v' = .slice a' (n + m) cap' ∧ Rw w' (fun k => S k ∨ w.heap.size ≤ k) a' (n + m) cap' size (vs ++ news) ∧ Keep S w w' := by
      intro v' w' r1 r2
      obtain ⟨a', cap', e', hrw⟩ := rw_own r1
      exact ⟨a', cap', e', hrw.imp (fun k _ h => .inr h), Keep.of_below (below_new r2)⟩
    cases a with
    | some x =>
      have hc : ∀ j u, vs[j]? = some u → w.cell? (x.add j) = some u := fun j u hu => by
        rcases hr.row with h0 | ⟨b, o, e, _, _, hc, _⟩
        · have h2 := hr.le
          have h3 := hr.len
          have : n = 0 := by omega
          subst this
          have : vs = [] := List.eq_nil_of_length_eq_zero (by simpa using h3)
          subst this
          simp at hu
        · obtain rfl := Option.some.inj e
          rw [Addr.add_lit]; exact hc j u hu
      obtain ⟨v', w', hrun, r1, r2⟩ := run_append_arg_grows (P := P) w t ty e i z size bytes ht hi hz hsize hby hzs hsz x n cap vs hr.len hc ad m c news hl hnews (by omega) h63 hbytes
      obtain ⟨a', cap', rfl, h2, h3⟩ := done v' w' r1 r2
      exact ⟨a', cap', w', hrun, h2, h3⟩
    | none =>
      obtain rfl : cap = 0 := hr.nil rfl
      obtain rfl : n = 0 := by have := hr.le; omega
      obtain rfl : vs = [] := List.eq_nil_of_length_eq_zero (by simpa using hr.len)
      obtain ⟨v', w', hrun, r1, r2, _⟩ := run_append_own (P := P) w w.heap.size t ty e i z size bytes ht hi hz hsize hby hzs hsz (.slice none 0 0) 0 [] (World.ownsRow_nil w _ e size) ad m c news hl hnews h1 h63 hbytes (Nat.le_refl _)
      obtain ⟨a', cap', rfl, h2, h3⟩ := done v' w' r1 r2
      exact ⟨a', cap', w', hrun, h2, h3⟩
theorem wpList_append_rw {P : Program} (w : World) {ops : Array Oper} {rest : List Oper} {o : Oper} {act : Act} {Q : Exit → Act → World → Prop} (S : Nat → Prop)
    (hw : Region.wanted o (yielded ops act.tmps) = true) (s x : Operand) (t : TypeId) (hop : o.op = Op.call { callee := Callee.builtin Builtin.append, args := #[s, x], argTypes := #[t, t] })
    (e : TypeId) (i : TypeInfo) (z : Value) (size bytes : Nat) (ht : P.underlying t = some (.slice e)) (hi : P.info? e = some i) (hz : i.zero = some z)
    (hsize : i.size = size) (hby : i.bytes = bytes) (hzs : z.cells.size = size) (hsz : 0 < size)
    (a : Option Addr) (n cap : Nat) (vs : List Value) (hs : act.eval s = .slice a n cap) (hr : Rw w S a n cap size vs)
    (ad : Addr) (m c : Nat) (news : List Value) (hx : act.eval x = .slice (some ad) m c) (hm : 0 < m) (hl : news.length = m * size) (hnews : ∀ j u, news[j]? = some u → w.cell? (ad.add j) = some u) (h1 : ∀ u ∈ news, u.oneCell' = true)
    (h63 : n + m ≤ maxLen) (hbytes : (n + m) * bytes ≤ 140737488355328)
    (hK : ∀ a' cap' w', Rw w' (fun k => S k ∨ w.heap.size ≤ k) a' (n + m) cap' size (vs ++ news) → Keep S w w' → wpList P ops Q rest (act.put o.dst (.slice a' (n + m) cap')) w') :
    wpList P ops Q (o :: rest) act w := by
  unfold wpList
  rw [if_pos hw]
  left
  obtain ⟨a', cap', w', hrun, r1, r2⟩ := run_append_rw (P := P) w S t o.type e i z size bytes ht hi hz hsize hby hzs hsz a n cap vs hr ad m c news hm hl hnews h1 h63 hbytes
  unfold Oper.wp
  simp [execOp, hop, resolve, invoke, builtin, hs, hx, hrun, Result.andThen]
  exact hK a' cap' w' r1 r2
end Go.Proofs.Ytjdbjmfkheffdaa
end
section
namespace Go.Proofs.Ytjdbjmfkheffdaa
open Go.RowKit
set_option linter.unusedVariables false

/-- A packet: its numbers, its flag, its words. -/
structure Pk where
  k : Int
  f : Int
  t : Int
  i : Int
  l : Int
  p : Int
  s : Int
  fl : Bool
  z : List Int
/-- The packet as a value, its words where d says. -/
@[reducible] def Pk.val (x : Pk) (d : Value) : Value := .agg #[.int .i64 x.k, .int .i64 x.f, .int .i64 x.t, .int .i64 x.i, .int .i64 x.l, .int .i64 x.p, .int .i64 x.s, .bool x.fl, d]
def sameP (x y : Pk) : Bool := decide (x.k = y.k ∧ x.f = y.f ∧ x.t = y.t ∧ x.i = y.i ∧ x.l = y.l ∧ x.p = y.p ∧ x.s = y.s ∧ x.fl = y.fl ∧ x.z = y.z)
theorem sameP_self (x : Pk) : sameP x x = true := decide_eq_true ⟨rfl, rfl, rfl, rfl, rfl, rfl, rfl, rfl, rfl⟩
theorem wp_world {P : Program} {c : Code} {Q : Exit → Act → World → Prop} {a : Act} {w1 w2 : World} (h : w1 = w2) (hw : c.wp P Q a w2) : c.wp P Q a w1 := h ▸ hw
/-- A packet in memory, in a block that may be written. -/
structure Bx (W : World) (g : Nat) (x : Pk) (d : Value) : Prop where
  c0 : W.cell? ⟨g, 0, none⟩ = some (.int .i64 x.k)
  c1 : W.cell? ⟨g, 1, none⟩ = some (.int .i64 x.f)
  c2 : W.cell? ⟨g, 2, none⟩ = some (.int .i64 x.t)
  c3 : W.cell? ⟨g, 3, none⟩ = some (.int .i64 x.i)
  c4 : W.cell? ⟨g, 4, none⟩ = some (.int .i64 x.l)
  c5 : W.cell? ⟨g, 5, none⟩ = some (.int .i64 x.p)
  c6 : W.cell? ⟨g, 6, none⟩ = some (.int .i64 x.s)
  c7 : W.cell? ⟨g, 7, none⟩ = some (.bool x.fl)
  c8 : W.cell? ⟨g, 8, none⟩ = some d
  fz : ∀ o, W.frozen? ⟨g, o, none⟩ = false
  lt : g < W.heap.size
theorem Bx.made (w : World) (x : Pk) (d : Value) : Bx (w.alloc (.cells #[.int .i64 x.k, .int .i64 x.f, .int .i64 x.t, .int .i64 x.i, .int .i64 x.l, .int .i64 x.p, .int .i64 x.s, .bool x.fl, d] 26)) w.heap.size x d := by
  constructor <;> simp
theorem Bx.below {W W' : World} {g base : Nat} {x : Pk} {d : Value} (h : Bx W g x d) (hb : Below base W W') (hg : g < base) : Bx W' g x d :=
  have e := fun o => hb.cell (p := ⟨g, o, none⟩) hg
  ⟨(e 0).trans h.c0, (e 1).trans h.c1, (e 2).trans h.c2, (e 3).trans h.c3, (e 4).trans h.c4, (e 5).trans h.c5, (e 6).trans h.c6, (e 7).trans h.c7, (e 8).trans h.c8, fun o => (hb.frozen (p := ⟨g, o, none⟩) hg).trans (h.fz o), Nat.lt_of_lt_of_le h.lt hb.size⟩
theorem Bx.next {W W' : World} {g : Nat} {x : Pk} {d : Value} (h : Bx W g x d) (hb : Below W.heap.size W W') : Bx W' g x d := h.below hb h.lt
theorem Bx.far {W : World} {g : Nat} {x : Pk} {d u : Value} {p : Addr} (h : Bx W g x d) (hp : g ≠ p.block) : Bx (W.setCell p u) g x d :=
  have e := fun o => cell_far (w := W) (p := p) (v := u) g o hp
  ⟨(e 0).trans h.c0, (e 1).trans h.c1, (e 2).trans h.c2, (e 3).trans h.c3, (e 4).trans h.c4, (e 5).trans h.c5, (e 6).trans h.c6, (e 7).trans h.c7, (e 8).trans h.c8, fun o => by rw [World.frozen?_setCell]; exact h.fz o, by simpa using h.lt⟩
theorem Sl.far {W : World} {a : Option Addr} {n cap : Nat} {l : List Int} {p : Addr} {u : Value} (h : Sl W a n cap l) (hp : ∀ x : Addr, a = some x → x.block ≠ p.block) : Sl (W.setCell p u) a n cap l := by
  refine ⟨h.len, h.le, h.max, h.nil, h.row.imp id ?_⟩
  rintro ⟨b, o, rfl, hc⟩
  exact ⟨b, o, rfl, fun i hi => by rw [cell_far _ _ (hp _ rfl)]; exact hc i hi⟩
section
variable {W : World} {g : Nat} {x : Pk} {d : Value}
theorem Bx.setK (h : Bx W g x d) (v : Int) : Bx (W.setCell ⟨g, 0, none⟩ (.int .i64 v)) g { x with k := v } d := by
  obtain ⟨c0, c1, c2, c3, c4, c5, c6, c7, c8, fz, lt⟩ := h
  constructor <;> (try intro o) <;> go_simp
theorem Bx.setF (h : Bx W g x d) (v : Int) : Bx (W.setCell ⟨g, 1, none⟩ (.int .i64 v)) g { x with f := v } d := by
  obtain ⟨c0, c1, c2, c3, c4, c5, c6, c7, c8, fz, lt⟩ := h
  constructor <;> (try intro o) <;> go_simp
theorem Bx.setT (h : Bx W g x d) (v : Int) : Bx (W.setCell ⟨g, 2, none⟩ (.int .i64 v)) g { x with t := v } d := by
  obtain ⟨c0, c1, c2, c3, c4, c5, c6, c7, c8, fz, lt⟩ := h
  constructor <;> (try intro o) <;> go_simp
theorem Bx.setI (h : Bx W g x d) (v : Int) : Bx (W.setCell ⟨g, 3, none⟩ (.int .i64 v)) g { x with i := v } d := by
  obtain ⟨c0, c1, c2, c3, c4, c5, c6, c7, c8, fz, lt⟩ := h
  constructor <;> (try intro o) <;> go_simp
theorem Bx.setL (h : Bx W g x d) (v : Int) : Bx (W.setCell ⟨g, 4, none⟩ (.int .i64 v)) g { x with l := v } d := by
  obtain ⟨c0, c1, c2, c3, c4, c5, c6, c7, c8, fz, lt⟩ := h
  constructor <;> (try intro o) <;> go_simp
theorem Bx.setP (h : Bx W g x d) (v : Int) : Bx (W.setCell ⟨g, 5, none⟩ (.int .i64 v)) g { x with p := v } d := by
  obtain ⟨c0, c1, c2, c3, c4, c5, c6, c7, c8, fz, lt⟩ := h
  constructor <;> (try intro o) <;> go_simp
theorem Bx.setS (h : Bx W g x d) (v : Int) : Bx (W.setCell ⟨g, 6, none⟩ (.int .i64 v)) g { x with s := v } d := by
  obtain ⟨c0, c1, c2, c3, c4, c5, c6, c7, c8, fz, lt⟩ := h
  constructor <;> (try intro o) <;> go_simp
theorem Bx.setFl (h : Bx W g x d) (v : Bool) : Bx (W.setCell ⟨g, 7, none⟩ (.bool v)) g { x with fl := v } d := by
  obtain ⟨c0, c1, c2, c3, c4, c5, c6, c7, c8, fz, lt⟩ := h
  constructor <;> (try intro o) <;> go_simp
theorem Bx.setZ (h : Bx W g x d) (z : List Int) (v : Value) : Bx (W.setCell ⟨g, 8, none⟩ v) g { x with z := z } v := by
  obtain ⟨c0, c1, c2, c3, c4, c5, c6, c7, c8, fz, lt⟩ := h
  constructor <;> (try intro o) <;> go_simp
end
/-- All nine are written. -/
theorem Bx.put {W : World} {g : Nat} {x : Pk} {d : Value} (h : Bx W g x d) (y : Pk) (v : Value) :
    Bx (((((((((W.setCell ⟨g, 0, none⟩ (.int .i64 y.k)).setCell ⟨g, 1, none⟩ (.int .i64 y.f)).setCell ⟨g, 2, none⟩ (.int .i64 y.t)).setCell ⟨g, 3, none⟩ (.int .i64 y.i)).setCell ⟨g, 4, none⟩ (.int .i64 y.l)).setCell ⟨g, 5, none⟩ (.int .i64 y.p)).setCell ⟨g, 6, none⟩ (.int .i64 y.s)).setCell ⟨g, 7, none⟩ (.bool y.fl)).setCell ⟨g, 8, none⟩ v) g y v := by
  obtain ⟨c0, c1, c2, c3, c4, c5, c6, c7, c8, fz, lt⟩ := h
  constructor <;> (try intro o) <;> go_simp
/-- A block into which a packet is written, cell by cell. -/
theorem far9 {W : World} {g : Nat} {y : Pk} {v : Value} {P : World → Prop} (hP : ∀ (V : World) (o : Nat) (u : Value), P V → P (V.setCell ⟨g, o, none⟩ u)) (h : P W) :
    P (((((((((W.setCell ⟨g, 0, none⟩ (.int .i64 y.k)).setCell ⟨g, 1, none⟩ (.int .i64 y.f)).setCell ⟨g, 2, none⟩ (.int .i64 y.t)).setCell ⟨g, 3, none⟩ (.int .i64 y.i)).setCell ⟨g, 4, none⟩ (.int .i64 y.l)).setCell ⟨g, 5, none⟩ (.int .i64 y.p)).setCell ⟨g, 6, none⟩ (.int .i64 y.s)).setCell ⟨g, 7, none⟩ (.bool y.fl)).setCell ⟨g, 8, none⟩ v) :=
  hP _ _ _ (hP _ _ _ (hP _ _ _ (hP _ _ _ (hP _ _ _ (hP _ _ _ (hP _ _ _ (hP _ _ _ (hP _ _ _ h))))))))
def zeroPk : Pk := ⟨0, 0, 0, 0, 0, 0, 0, false, []⟩
theorem Bx.made' (w : World) (x : Pk) (d : Value) (g : Nat) (hg : g = w.heap.size) : Bx (w.alloc (.cells #[.int .i64 x.k, .int .i64 x.f, .int .i64 x.t, .int .i64 x.i, .int .i64 x.l, .int .i64 x.p, .int .i64 x.s, .bool x.fl, d] 26)) g x d := hg ▸ Bx.made w x d
theorem Own.lo {w : World} {base n cap : Nat} {a : Option Addr} {l : List Int} (h : Own w base (.slice a n cap) l) : ∀ x : Addr, a = some x → base ≤ x.block ∧ x.block < w.heap.size := by
  intro x e
  subst e
  rcases h.2 with ⟨h1, _⟩ | ⟨g, c, cur, h1, hb, hg, _⟩
  · cases h1
  · simp at h1
    obtain ⟨rfl, _⟩ := h1
    exact ⟨hb, (Array.getElem?_eq_some_iff.1 hg).1⟩
theorem Sl.at {w : World} {a : Option Addr} {n cap : Nat} {l : List Int} (h : Sl w a n cap l) {k : Nat} (hk : k < n) : ∃ b o, a = some ⟨b, o, none⟩ ∧ b < w.heap.size ∧ w.cell? ⟨b, o + k, none⟩ = some (.int .i64 (l[k]?.getD 0)) := by
  have hl := h.len
  rcases h.row with rfl | ⟨b, o, e, hc⟩
  · simp at hl; omega
  · exact ⟨b, o, e, World.block_lt_of_cell? w _ (hc k (by omega)), hc k (by omega)⟩
theorem sameP_eq {x y : Pk} (h : sameP x y = true) : x = y := by
  obtain ⟨h1, h2, h3, h4, h5, h6, h7, h8, h9⟩ := of_decide_eq_true h
  cases x; cases y; simp_all
instance Pk.dec : DecidableEq Pk := fun x y => decidable_of_iff (sameP x y = true) ⟨sameP_eq, fun h => by subst h; exact sameP_self x⟩
theorem sameP_iff (x y : Pk) : sameP x y = decide (x = y) := by
  by_cases h : x = y
  · subst h; rw [sameP_self]; simp
  · rw [decide_eq_false h]
    cases hs : sameP x y
    · rfl
    · exact absurd (sameP_eq hs) h

/-- The nine cells of a packet. -/
def pcells (x : Pk) (d : Value) : List Value := [.int .i64 x.k, .int .i64 x.f, .int .i64 x.t, .int .i64 x.i, .int .i64 x.l, .int .i64 x.p, .int .i64 x.s, .bool x.fl, d]
theorem pcells_len (x : Pk) (d : Value) : (pcells x d).length = 9 := rfl
/-- A row of packets, cell by cell. -/
def pflat (R : List (Pk × Value)) : List Value := R.flatMap fun r => pcells r.1 r.2
theorem pflat_len (R : List (Pk × Value)) : (pflat R).length = R.length * 9 := by
  induction R with
  | nil => rfl
  | cons o p ih => simp [pflat, pcells] at ih ⊢; omega
theorem pflat_cons (r : Pk × Value) (R : List (Pk × Value)) : pflat (r :: R) = pcells r.1 r.2 ++ pflat R := rfl
theorem pflat_append (R T : List (Pk × Value)) : pflat (R ++ T) = pflat R ++ pflat T := by simp [pflat]
theorem pflat_one (x : Pk) (d : Value) : pflat [(x, d)] = pcells x d := by simp [pflat]
theorem pflat_get {R : List (Pk × Value)} {i : Nat} {r : Pk × Value} (h : R[i]? = some r) (j : Nat) (hj : j < 9) : (pflat R)[i * 9 + j]? = (pcells r.1 r.2)[j]? := by
  induction R generalizing i with
  | nil => simp at h
  | cons x R ih =>
    rw [pflat_cons]
    cases i with
    | zero => simp at h; subst h; rw [Nat.zero_mul, Nat.zero_add, List.getElem?_append_left (by rw [pcells_len]; exact hj)]
    | succ i =>
      have h' : R[i]? = some r := by simpa using h
      rw [List.getElem?_append_right (by rw [pcells_len]; omega), pcells_len, ← ih h']
      congr 1
      omega
theorem pcells_one {x : Pk} {d : Value} (hd : d.oneCell' = true) : ∀ u ∈ pcells x d, u.oneCell' = true := by
  intro u hu
  simp [pcells] at hu
  rcases hu with h | h | h | h | h | h | h | h | h <;> subst h <;> first | rfl | exact hd
/-- The nine cells of element i of a row that lies from o on. -/
theorem pk_at {w : World} {b o i : Nat} {R : List (Pk × Value)} {x : Pk} {d : Value} (hc : ∀ i u, (pflat R)[i]? = some u → w.cell? ⟨b, o + i, none⟩ = some u) (h : R[i]? = some (x, d)) :
    w.cell? ⟨b, o + i * 9, none⟩ = some (.int .i64 x.k) ∧ w.cell? ⟨b, o + i * 9 + 1, none⟩ = some (.int .i64 x.f) ∧ w.cell? ⟨b, o + i * 9 + 2, none⟩ = some (.int .i64 x.t) ∧ w.cell? ⟨b, o + i * 9 + 3, none⟩ = some (.int .i64 x.i) ∧
    w.cell? ⟨b, o + i * 9 + 4, none⟩ = some (.int .i64 x.l) ∧ w.cell? ⟨b, o + i * 9 + 5, none⟩ = some (.int .i64 x.p) ∧ w.cell? ⟨b, o + i * 9 + 6, none⟩ = some (.int .i64 x.s) ∧ w.cell? ⟨b, o + i * 9 + 7, none⟩ = some (.bool x.fl) ∧ w.cell? ⟨b, o + i * 9 + 8, none⟩ = some d := by
  have g : ∀ j u, j < 9 → (pcells x d)[j]? = some u → w.cell? ⟨b, o + i * 9 + j, none⟩ = some u := fun j u hj hu => by rw [Nat.add_assoc]; exact hc _ u (by rw [pflat_get h j hj]; exact hu)
  exact ⟨g 0 _ (by omega) rfl, g 1 _ (by omega) rfl, g 2 _ (by omega) rfl, g 3 _ (by omega) rfl, g 4 _ (by omega) rfl, g 5 _ (by omega) rfl, g 6 _ (by omega) rfl, g 7 _ (by omega) rfl, g 8 _ (by omega) rfl⟩
/-- A packet's words, in a block of D if there are any. -/
def Dat (w : World) (D : Nat → Prop) (x : Pk) (d : Value) : Prop := ∃ a n c, d = .slice a n c ∧ Sl w a n c x.z ∧ n ≤ 17592186044416 ∧ (x.z ≠ [] → ∀ y : Addr, a = some y → D y.block)
theorem Dat.keep {w w' : World} {D F : Nat → Prop} {x : Pk} {d : Value} (h : Dat w D x d) (hk : Keep F w w') (hF : ∀ k, D k → ¬ F k) : Dat w' D x d := by
  obtain ⟨a, n, c, e, hs, hn, hd⟩ := h
  exact ⟨a, n, c, e, hs.keep hk (fun hz y hy => hF _ (hd hz y hy)), hn, hd⟩
theorem Dat.below {w w' : World} {D : Nat → Prop} {x : Pk} {d : Value} (h : Dat w D x d) (hb : Below w.heap.size w w') : Dat w' D x d := h.keep (F := fun _ => False) (Keep.of_below hb) (fun _ _ h => h)
theorem Dat.imp {w : World} {D E : Nat → Prop} {x : Pk} {d : Value} (h : Dat w D x d) (hD : ∀ k, k < w.heap.size → D k → E k) : Dat w E x d := by
  obtain ⟨a, n, c, e, hs, hn, hd⟩ := h
  refine ⟨a, n, c, e, hs, hn, fun hz y hy => hD _ ?_ (hd hz y hy)⟩
  rcases hs.row with h0 | ⟨b, o, rfl, hc⟩
  · exact absurd h0 hz
  · obtain rfl := Option.some.inj hy
    have h1 := hc 0 (by cases hh : x.z with | nil => exact absurd hh hz | cons => simp)
    exact World.block_lt_of_cell? w _ h1
theorem Dat.one {w : World} {D : Nat → Prop} {x : Pk} {d : Value} (h : Dat w D x d) : d.oneCell' = true := by
  obtain ⟨a, n, c, rfl, _⟩ := h
  rfl
theorem dat_own {w : World} {base : Nat} {v : Value} {x : Pk} (h : Own w base v x.z) (hn : x.z.length ≤ 17592186044416) : Dat w (fun k => base ≤ k) x v := by
  obtain ⟨a, c, rfl, hs⟩ := h.sl
  exact ⟨a, _, c, rfl, hs, hn, fun _ y hy => (h.lo y hy).1⟩
theorem dat_nil (w : World) (D : Nat → Prop) {x : Pk} (h : x.z = []) : Dat w D x (.slice none 0 0) := ⟨none, 0, 0, rfl, by rw [h]; exact sl_nil w, by omega, fun hz => absurd h hz⟩
/-- A packet's words, if there are any, may be written. -/
def Soft (w : World) (x : Pk) (d : Value) : Prop := x.z ≠ [] → ∀ a n c, d = .slice (some a) n c → ∀ o, w.frozen? ⟨a.block, o, none⟩ = false
theorem Soft.keep {w w' : World} {D F : Nat → Prop} {x : Pk} {d : Value} (h : Soft w x d) (hd : Dat w D x d) (hk : Keep F w w') (hF : ∀ k, D k → ¬ F k) : Soft w' x d := by
  intro hz a n c e o
  obtain ⟨a1, n1, c1, e1, hs, _, hD⟩ := hd
  rw [e1] at e
  injection e with e2 e3 e4
  subst e2
  have hlt : a.block < w.heap.size := by
    rcases hs.row with h0 | ⟨b, of, e5, hc⟩
    · exact absurd h0 hz
    · obtain rfl := Option.some.inj e5
      exact World.block_lt_of_cell? w _ (hc 0 (by cases hh : x.z with | nil => exact absurd hh hz | cons => simp))
  rw [hk.frozen o hlt (hF _ (hD hz a rfl))]
  exact h hz a n1 c1 e1 o
theorem soft_own {w : World} {base : Nat} {v : Value} {x : Pk} (h : Own w base v x.z) : Soft w x v := by
  intro _ a n c e o
  rcases h.2 with ⟨e', _⟩ | ⟨b, cap', cur, e', hb, hg, r⟩
  · rw [e] at e'; cases e'
  · rw [e] at e'
    injection e' with e1 e2 e3
    obtain rfl := Option.some.inj e1
    simp [World.frozen?, hg]
theorem Own.keep {w w' : World} {F : Nat → Prop} {base : Nat} {v : Value} {l : List Int} (h : Own w base v l) (hk : Keep F w w') (hF : ∀ k, v.ownBlock = some k → ¬ F k) : Own w' base v l := by
  refine ⟨h.1, h.2.imp id ?_⟩
  rintro ⟨g, cap, cur, rfl, hg, hh, rest⟩
  exact ⟨g, cap, cur, rfl, hg, by rw [hk.block g (Array.getElem?_eq_some_iff.1 hh).1 (hF g rfl)]; exact hh, rest⟩
theorem Bx.keep {W W' : World} {F : Nat → Prop} {g : Nat} {x : Pk} {d : Value} (h : Bx W g x d) (hk : Keep F W W') (hF : ¬ F g) : Bx W' g x d :=
  have e := fun o => hk.cell (b := g) o h.lt hF
  ⟨(e 0).trans h.c0, (e 1).trans h.c1, (e 2).trans h.c2, (e 3).trans h.c3, (e 4).trans h.c4, (e 5).trans h.c5, (e 6).trans h.c6, (e 7).trans h.c7, (e 8).trans h.c8, fun o => (hk.frozen (b := g) o h.lt hF).trans (h.fz o), Nat.lt_of_lt_of_le h.lt hk.size⟩
/-- Writing into a list of its own. -/
theorem Own.poke {w : World} {base n c k : Nat} {a : Option Addr} {l : List Int} (h : Own w base (.slice a n c) l) (hn : l.length = n) (hk : k < n) : ∃ b y, a = some ⟨b, 0, none⟩ ∧ base ≤ b ∧ b < w.heap.size ∧ w.cell? ⟨b, k, none⟩ = some (.int .i64 y) ∧ w.frozen? ⟨b, k, none⟩ = false ∧
    ∀ v, Own (w.setCell ⟨b, k, none⟩ (.int .i64 v)) base (.slice a n c) (l.set k v) := by
  subst hn
  obtain ⟨a', c', e, hs⟩ := h.sl
  injection e with e1 e2 e3
  subst e1 e3
  rcases h.2 with ⟨e', h1⟩ | ⟨b, cap', cur, e', hb, hg, r⟩
  · omega
  · injection e' with e1 e2 e3
    subst e1 e3
    obtain ⟨b', o', e4, hlt, hc⟩ := hs.at hk
    simp at e4
    obtain ⟨rfl, rfl⟩ := e4
    rw [Nat.zero_add] at hc
    refine ⟨b, _, rfl, hb, hlt, hc, by simp [World.frozen?, hg], fun v => ?_⟩
    have := (World.ownsRow.stored h k (.int .i64 v)).1
    have e : (cells l).set k (.int .i64 v) = cells (l.set k v) := by simp [cells, List.map_set]
    rw [e] at this
    unfold Own
    rw [List.length_set]
    exact this
theorem Try.infoPk : (Try.prog.info? 26).map (fun i => (i.zero, i.size, i.bytes)) = some (some (zeroPk.val (.slice none 0 0)), 9, 88) := by kernel_rfl
end Go.Proofs.Ytjdbjmfkheffdaa
end
section
namespace Go.Proofs.Ytjdbjmfkheffdaa
open Go.RowKit
set_option linter.unusedVariables false

def inB (a n b : Int) : Bool := decide (a ≤ n ∧ n ≤ b)
theorem inB_t {a n b : Int} (h1 : a ≤ n) (h2 : n ≤ b) : inB a n b = true := decide_eq_true ⟨h1, h2⟩
theorem inB_f {a n b : Int} (h : n < a ∨ b < n) : inB a n b = false := decide_eq_false (by omega)
theorem inB_out {a n b : Int} (h : inB a n b = true) : a ≤ n ∧ n ≤ b := of_decide_eq_true h
/-- May the packet be? -/
def Pk.right (x : Pk) : Bool := inB 1 x.k 9 && inB 0 x.f 5 && inB 0 x.t 5 && inB 0 x.i 4095 && inB 0 x.l 7 && inB (-1) x.p 5 && inB 0 x.s 2 && decide (x.z.length ≤ 4)
def Pk.err (x : Pk) : Int := if x.right = true then 0 else 1
theorem Pk.err_t {x : Pk} (h : x.right = true) : x.err = 0 := if_pos h
theorem Pk.err_f {x : Pk} (h : x.right = false) : x.err = 1 := if_neg (by rw [h]; exact Bool.false_ne_true)
structure Pk.Right (x : Pk) : Prop where
  k : 1 ≤ x.k ∧ x.k ≤ 9
  f : 0 ≤ x.f ∧ x.f ≤ 5
  t : 0 ≤ x.t ∧ x.t ≤ 5
  i : 0 ≤ x.i ∧ x.i ≤ 4095
  l : 0 ≤ x.l ∧ x.l ≤ 7
  p : -1 ≤ x.p ∧ x.p ≤ 5
  s : 0 ≤ x.s ∧ x.s ≤ 2
  z : x.z.length ≤ 4
theorem Pk.right_iff (x : Pk) : x.right = true ↔ x.Right := by
  unfold Pk.right inB
  simp only [Bool.and_eq_true, decide_eq_true_eq]
  constructor
  · rintro ⟨⟨⟨⟨⟨⟨⟨a, b⟩, c⟩, d⟩, e⟩, f⟩, g⟩, h⟩; exact ⟨a, b, c, d, e, f, g, h⟩
  · rintro ⟨a, b, c, d, e, f, g, h⟩; exact ⟨⟨⟨⟨⟨⟨⟨a, b⟩, c⟩, d⟩, e⟩, f⟩, g⟩, h⟩

/-- The byte that stands for a flag. -/
def flI (b : Bool) : Int := if b = true then 1 else 0
theorem flI_bd (b : Bool) : 0 ≤ flI b ∧ flI b ≤ 1 := by unfold flI; split <;> omega
/-- The byte i of a word, the greatest first. -/
def wbyte (v : Int) (i : Nat) : Int := IntKind.u64.wrap v / 2 ^ (8 * (7 - i)) % 256
def wordN (v : Int) (k : Nat) : List Int := (List.range k).map (wbyte v)
def wordI (v : Int) : List Int := wordN v 8
def headI (x : Pk) : List Int := [x.k % 256, x.f % 256, x.t % 256, x.i / 256 % 256, x.i % 256, x.l % 256, (x.p + 1) % 256, x.s % 256, flI x.fl, (x.z.length : Int) % 256]
def bodyI (z : List Int) : List Int := z.flatMap wordI
def packI (x : Pk) : List Int := headI x ++ bodyI x.z
theorem wordN_succ (v : Int) (k : Nat) : wordN v (k + 1) = wordN v k ++ [wbyte v k] := by unfold wordN; rw [List.range_succ, List.map_append]; rfl
theorem wordN_len (v : Int) (k : Nat) : (wordN v k).length = k := by simp [wordN]
theorem wordI_len (v : Int) : (wordI v).length = 8 := wordN_len v 8
theorem wbyte_bd (v : Int) (i : Nat) : 0 ≤ wbyte v i ∧ wbyte v i < 256 := by unfold wbyte; omega
theorem wordN_b8 (v : Int) (k : Nat) : B.B8 (wordN v k) := by
  intro y hy
  obtain ⟨j, _, rfl⟩ := List.mem_map.1 hy
  exact wbyte_bd v j
theorem bodyI_snoc (z : List Int) (v : Int) : bodyI (z ++ [v]) = bodyI z ++ wordI v := by simp [bodyI]
theorem bodyI_take (z : List Int) (k : Nat) (h : k < z.length) : bodyI (z.take (k + 1)) = bodyI (z.take k) ++ wordI (z[k]?.getD 0) := by
  rw [List.take_succ_eq_append_getElem h, bodyI_snoc]; simp [h]
theorem bodyI_len : ∀ z : List Int, (bodyI z).length = 8 * z.length
  | [] => rfl
  | v :: z => by
    have : bodyI (v :: z) = wordI v ++ bodyI z := by simp [bodyI]
    rw [this, List.length_append, wordI_len, bodyI_len z]; simp; omega
theorem bodyI_b8 (z : List Int) : B.B8 (bodyI z) := by
  intro y hy
  obtain ⟨v, _, h⟩ := List.mem_flatMap.1 hy
  exact wordN_b8 v 8 y h
theorem headI_b8 (x : Pk) : B.B8 (headI x) := by
  intro y hy
  simp only [headI, List.mem_cons, List.not_mem_nil, or_false] at hy
  rcases hy with rfl | rfl | rfl | rfl | rfl | rfl | rfl | rfl | rfl | rfl
  case inr.inr.inr.inr.inr.inr.inr.inr.inl => have := flI_bd x.fl; omega
  all_goals omega
theorem headI_len (x : Pk) : (headI x).length = 10 := rfl
theorem packI_b8 (x : Pk) : B.B8 (packI x) := B.B8_append (headI_b8 x) (bodyI_b8 x.z)
theorem packI_len (x : Pk) : (packI x).length = 10 + 8 * x.z.length := by rw [packI, List.length_append, headI_len, bodyI_len]
end Go.Proofs.Ytjdbjmfkheffdaa
end
section
namespace Go.Proofs.Ytjdbjmfkheffdaa
open Go.ChangeShapes Go.WideShapes Go.ChangeAt Go.RowKit Go.Joins
set_option linter.unusedVariables false
set_option maxRecDepth 20000

/-- A packet that came in. -/
def IsPk (w : World) (v : Value) : Prop := ∃ (x : Pk) (a : Option Addr) (n cap : Nat), v = x.val (.slice a n cap) ∧ Sl w a n cap x.z ∧ R64 x.z
theorem array9 {α : Type} {cs : Array α} (h : cs.size = 9) : ∃ c0 c1 c2 c3 c4 c5 c6 c7 c8, cs = #[c0, c1, c2, c3, c4, c5, c6, c7, c8] := by
  obtain ⟨l⟩ := cs
  match l, h with
  | [c0, c1, c2, c3, c4, c5, c6, c7, c8], _ => exact ⟨c0, c1, c2, c3, c4, c5, c6, c7, c8, rfl⟩
theorem pkt_of {H : Type} {enc : TypeId × Value → H} {w : World} {base b0 : Nat} {held : Bool} {r : Reach} {v : Value} {d : DataW H} {p : List MemPlace}
    (hv : Value.okWide Try.prog w r b0 26 v) (h : DataW.Trod enc Try.prog w base (fun _ => true) held 26 v d p) : IsPk w v := by
  obtain ⟨cs, rfl, hsz, hf⟩ := agg_cells Try.underlying26 (by kernel_rfl) (by kernel_rfl) hv h
  obtain ⟨c0, c1, c2, c3, c4, c5, c6, c7, c8, rfl⟩ := array9 hsz
  obtain ⟨_, _, _, e0, t0⟩ := hf 0 _ rfl
  obtain ⟨_, _, _, e1, t1⟩ := hf 1 _ rfl
  obtain ⟨_, _, _, e2, t2⟩ := hf 2 _ rfl
  obtain ⟨_, _, _, e3, t3⟩ := hf 3 _ rfl
  obtain ⟨_, _, _, e4, t4⟩ := hf 4 _ rfl
  obtain ⟨_, _, _, e5, t5⟩ := hf 5 _ rfl
  obtain ⟨_, _, _, e6, t6⟩ := hf 6 _ rfl
  obtain ⟨_, _, _, e7, t7⟩ := hf 7 _ rfl
  obtain ⟨_, _, _, e8, t8⟩ := hf 8 _ rfl
  simp at e0 e1 e2 e3 e4 e5 e6 e7 e8
  subst e0 e1 e2 e3 e4 e5 e6 e7 e8
  obtain ⟨x0, rfl⟩ := int_cell t0
  obtain ⟨x1, rfl⟩ := int_cell t1
  obtain ⟨x2, rfl⟩ := int_cell t2
  obtain ⟨x3, rfl⟩ := int_cell t3
  obtain ⟨x4, rfl⟩ := int_cell t4
  obtain ⟨x5, rfl⟩ := int_cell t5
  obtain ⟨x6, rfl⟩ := int_cell t6
  obtain ⟨x7, rfl⟩ := bool_cell t7
  obtain ⟨a8, l8, p8, z8, rfl, s8, r8⟩ := ints_cell t8
  exact ⟨⟨x0, x1, x2, x3, x4, x5, x6, x7, z8⟩, a8, l8, p8, rfl, s8, r8⟩
end Go.Proofs.Ytjdbjmfkheffdaa
end
section
namespace Go.Proofs.Ytjdbjmfkheffdaa
open Go.ChangeShapes Go.WideShapes Go.ChangeAt Go.RowKit Go.Deep
set_option linter.unusedVariables false
set_option maxRecDepth 20000

/-- An act in memory: what, where, which digit, the mask, the packet (its words where v says), how. -/
structure ActAt (w : World) (bl o : Nat) (d t b m h : Int) (x : Pk) (v : Value) : Prop where
  c0 : w.cell? ⟨bl, o, none⟩ = some (.int .i64 d)
  c1 : w.cell? ⟨bl, o + 1, none⟩ = some (.int .i64 t)
  c2 : w.cell? ⟨bl, o + 2, none⟩ = some (.int .i64 b)
  c3 : w.cell? ⟨bl, o + 3, none⟩ = some (.int .u16 m)
  c4 : w.cell? ⟨bl, o + 4, none⟩ = some (.int .i64 x.k)
  c5 : w.cell? ⟨bl, o + 5, none⟩ = some (.int .i64 x.f)
  c6 : w.cell? ⟨bl, o + 6, none⟩ = some (.int .i64 x.t)
  c7 : w.cell? ⟨bl, o + 7, none⟩ = some (.int .i64 x.i)
  c8 : w.cell? ⟨bl, o + 8, none⟩ = some (.int .i64 x.l)
  c9 : w.cell? ⟨bl, o + 9, none⟩ = some (.int .i64 x.p)
  c10 : w.cell? ⟨bl, o + 10, none⟩ = some (.int .i64 x.s)
  c11 : w.cell? ⟨bl, o + 11, none⟩ = some (.bool x.fl)
  c12 : w.cell? ⟨bl, o + 12, none⟩ = some v
  c13 : w.cell? ⟨bl, o + 13, none⟩ = some (.int .i64 h)
  lt : bl < w.heap.size
theorem ActAt.below {w w' : World} {bl o : Nat} {d t b m h : Int} {x : Pk} {v : Value} (a : ActAt w bl o d t b m h x v) (hb : Below w.heap.size w w') : ActAt w' bl o d t b m h x v :=
  have e := fun j => (bcell hb).1 bl j a.lt
  ⟨(e _).trans a.c0, (e _).trans a.c1, (e _).trans a.c2, (e _).trans a.c3, (e _).trans a.c4, (e _).trans a.c5, (e _).trans a.c6, (e _).trans a.c7, (e _).trans a.c8, (e _).trans a.c9, (e _).trans a.c10, (e _).trans a.c11, (e _).trans a.c12, (e _).trans a.c13, Nat.lt_of_lt_of_le a.lt hb.size⟩
/-- n acts, from address a on. -/
def IsActs (w : World) (a : Option Addr) (n : Nat) : Prop := ∀ i, i < n → ∃ (bl o : Nat) (d t b m h : Int) (x : Pk) (av : Option Addr) (nv cv : Nat),
  a = some ⟨bl, o, none⟩ ∧ ActAt w bl (o + i * 14) d t b m h x (.slice av nv cv) ∧ Sl w av nv cv x.z ∧ R64 x.z ∧ 0 ≤ m ∧ m < 65536 ∧ t < 9223372036854775808
theorem IsActs.below {w w' : World} {a : Option Addr} {n : Nat} (h : IsActs w a n) (hb : Below w.heap.size w w') : IsActs w' a n := fun i hi => by
  obtain ⟨bl, o, d, t, b, m, hh, x, av, nv, cv, e, ha, hs, hr⟩ := h i hi
  exact ⟨bl, o, d, t, b, m, hh, x, av, nv, cv, e, ha.below hb, hs.below hb, hr⟩
theorem wf_u16' {n : Int} (h : (Lit.int .u16 n).wf = true) : 0 ≤ n ∧ n < 65536 := by
  simp [Lit.wf, IntKind.min, IntKind.max, IntKind.signed, IntKind.bits] at h; omega
theorem list14 {α : Type} {l : List α} (h : l.length = 14) : ∃ c0 c1 c2 c3 c4 c5 c6 c7 c8 c9 c10 c11 c12 c13, l = [c0, c1, c2, c3, c4, c5, c6, c7, c8, c9, c10, c11, c12, c13] := by
  match l, h with
  | [c0, c1, c2, c3, c4, c5, c6, c7, c8, c9, c10, c11, c12, c13], _ => exact ⟨c0, c1, c2, c3, c4, c5, c6, c7, c8, c9, c10, c11, c12, c13, rfl⟩
section
variable {H : Type} {enc : TypeId × Value → H} {w : World} {base : Nat} {held : Bool}
theorem field_of {n : Nat} {t : TypeId} {fs : Array Field} {cs : List Value} {x : DataW H × List MemPlace} (ht : Try.prog.underlying t = some (.struct fs)) (h : DataW.trod enc Try.prog w base (fun _ => true) held n t cs = some x) (i : Nat) (ty : TypeId) (off c : Nat) (ds : List Value)
    (hf : (fs[i]?).map (fun f => (f.type, f.offset)) = some (ty, off)) (hc : Try.prog.cellsOf ty = c) (hd : (cs.drop off).take c = ds) : ∃ k y, DataW.trod enc Try.prog w base (fun _ => true) held k ty ds = some y := by
  obtain ⟨xs, k, _, _, _, hl, hfs⟩ := DataW.trod_struct ht h
  obtain ⟨f, hf', e⟩ := Option.map_eq_some_iff.1 hf
  simp at e
  obtain ⟨rfl, rfl⟩ := e
  subst hc hd
  have hi : i < fs.size := (Array.getElem?_eq_some_iff.1 hf').1
  refine ⟨k, xs[i]'(by omega), ?_⟩
  rw [hfs i f hf']
  exact List.getElem?_eq_getElem (by omega)
theorem acts_of {n : Nat} {c : Value} {y : DataW H × List MemPlace} (h : DataW.trod enc Try.prog w base (fun _ => true) held n 48 [c] = some y) : ∃ a len cap, c = .slice a len cap ∧ len ≤ cap ∧ cap ≤ maxLen ∧ IsActs w a len := by
  rcases open_slice Try.underlying48 h with ⟨hcs, _⟩ | ⟨a, len, cap, m, k, D, Pl, hcs, hb, hl, hm, hmm, _, hx⟩
  · simp at hcs
    exact ⟨none, 0, 0, hcs, Nat.le_refl _, Nat.zero_le _, fun i hi => by omega⟩
  · simp at hcs
    have hlm : len ≤ m := by rw [hmm]; split <;> omega
    refine ⟨some a, len, cap, hcs, hl, hm, fun i hi => ?_⟩
    obtain ⟨cs, hc, ht⟩ := hx i (by omega)
    have hC : Try.prog.cellsOf 52 = 14 := by kernel_rfl
    rw [hC] at hc
    obtain ⟨_, hlen, hcell⟩ := World.cells?_some hc
    obtain ⟨bl, off, spot⟩ := a
    have hspot : spot = none := by
      obtain ⟨cs0, hc0, ht0⟩ := hx 0 (by omega)
      rw [hC] at hc0
      obtain ⟨_, hlen0, hcell0⟩ := World.cells?_some hc0
      have h0 := hcell0 0 (by omega)
      rw [List.getElem?_eq_getElem (by omega)] at h0
      have := World.cell?_spot h0
      simpa [Addr.add] using this
    subst hspot
    have hc' : ∀ j, j < 14 → w.cell? ⟨bl, off + i * 14 + j, none⟩ = cs[j]? := fun j hj => by
      have := hcell j hj
      rw [Addr.add_lit, Addr.add_lit] at this
      exact this
    obtain ⟨c0, c1, c2, c3, c4, c5, c6, c7, c8, c9, c10, c11, c12, c13, rfl⟩ := list14 hlen
    have g := field_of Try.underlying52 ht
    have k1 : Try.prog.cellsOf 3 = 1 := by kernel_rfl
    have k2 : Try.prog.cellsOf 27 = 1 := by kernel_rfl
    have k3 : Try.prog.cellsOf 26 = 9 := by kernel_rfl
    have k4 : Try.prog.cellsOf 4 = 1 := by kernel_rfl
    have k5 : Try.prog.cellsOf 22 = 1 := by kernel_rfl
    obtain ⟨_, _, t0⟩ := g 0 3 0 1 [c0] rfl k1 rfl
    obtain ⟨_, _, t1⟩ := g 1 3 1 1 [c1] rfl k1 rfl
    obtain ⟨_, _, t2⟩ := g 2 3 2 1 [c2] rfl k1 rfl
    obtain ⟨_, _, t3⟩ := g 3 27 3 1 [c3] rfl k2 rfl
    obtain ⟨_, _, t4⟩ := g 4 26 4 9 [c4, c5, c6, c7, c8, c9, c10, c11, c12] rfl k3 rfl
    obtain ⟨_, _, t5⟩ := g 5 3 13 1 [c13] rfl k1 rfl
    obtain ⟨d, e0, _, _⟩ := DataW.trod_int Try.underlying3 t0
    obtain ⟨t, e1, _, w1⟩ := DataW.trod_int Try.underlying3 t1
    obtain ⟨b, e2, _, _⟩ := DataW.trod_int Try.underlying3 t2
    obtain ⟨m, e3, _, w3⟩ := DataW.trod_int Try.underlying27 t3
    obtain ⟨hh, e5, _, _⟩ := DataW.trod_int Try.underlying3 t5
    have gp := field_of Try.underlying26 t4
    obtain ⟨_, _, p0⟩ := gp 0 3 0 1 [c4] rfl k1 rfl
    obtain ⟨_, _, p1⟩ := gp 1 3 1 1 [c5] rfl k1 rfl
    obtain ⟨_, _, p2⟩ := gp 2 3 2 1 [c6] rfl k1 rfl
    obtain ⟨_, _, p3⟩ := gp 3 3 3 1 [c7] rfl k1 rfl
    obtain ⟨_, _, p4⟩ := gp 4 3 4 1 [c8] rfl k1 rfl
    obtain ⟨_, _, p5⟩ := gp 5 3 5 1 [c9] rfl k1 rfl
    obtain ⟨_, _, p6⟩ := gp 6 3 6 1 [c10] rfl k1 rfl
    obtain ⟨_, _, p7⟩ := gp 7 4 7 1 [c11] rfl k4 rfl
    obtain ⟨_, _, p8⟩ := gp 8 22 8 1 [c12] rfl k5 rfl
    obtain ⟨x0, rfl⟩ := int_cell p0
    obtain ⟨x1, rfl⟩ := int_cell p1
    obtain ⟨x2, rfl⟩ := int_cell p2
    obtain ⟨x3, rfl⟩ := int_cell p3
    obtain ⟨x4, rfl⟩ := int_cell p4
    obtain ⟨x5, rfl⟩ := int_cell p5
    obtain ⟨x6, rfl⟩ := int_cell p6
    obtain ⟨x7, rfl⟩ := bool_cell p7
    obtain ⟨av, nv, cv, z, rfl, hs, hz⟩ := ints_cell p8
    simp at e0 e1 e2 e3 e5
    subst e0 e1 e2 e3 e5
    refine ⟨bl, off, d, t, b, m, hh, ⟨x0, x1, x2, x3, x4, x5, x6, x7, z⟩, av, nv, cv, rfl, ⟨hc' 0 (by omega), hc' 1 (by omega), hc' 2 (by omega), hc' 3 (by omega), hc' 4 (by omega), hc' 5 (by omega), hc' 6 (by omega), hc' 7 (by omega), hc' 8 (by omega), hc' 9 (by omega), hc' 10 (by omega), hc' 11 (by omega), hc' 12 (by omega), hc' 13 (by omega), ?_⟩, hs, hz, (wf_u16' w3).1, (wf_u16' w3).2, by have := (wf_i64 w1).2; omega⟩
    exact World.block_lt_of_cell? _ _ (hc' 0 (by omega))
end
end Go.Proofs.Ytjdbjmfkheffdaa
end
section
namespace Go.Proofs.Ytjdbjmfkheffdaa
open Go.RowKit

/-- A configuration, as a value. -/
@[reducible] def cfg (n l k s y o i : Int) (t : Value) : Value := .agg #[.int .i64 n, .int .i64 l, .int .i64 k, .int .i64 s, .int .i64 y, .int .i64 o, .int .i64 i, t]
end Go.Proofs.Ytjdbjmfkheffdaa
end
section
namespace Go.Proofs.Ytjdbjmfkheffdaa
open Go.RowKit
set_option linter.unusedVariables false
set_option maxRecDepth 20000

/-- A setup, as a value. -/
@[reducible] def setup (n l k s y o i : Int) (t wh ki ad va : Value) : Value := .agg #[.int .i64 n, .int .i64 l, .int .i64 k, .int .i64 s, .int .i64 y, .int .i64 o, .int .i64 i, t, wh, ki, ad, va]
/-- One more than the remainder. -/
def nd (x : Int) (m : Nat) : Nat := (1 + x % (m : Int)).toNat
theorem nd_lo (x : Int) (m : Nat) : 1 ≤ nd x m ∨ m = 0 := by
  by_cases h : m = 0
  · exact .inr h
  · left; have := Int.emod_nonneg x (b := (m : Int)) (by omega); unfold nd; omega
theorem nd_hi (x : Int) (m : Nat) (h : 0 < m) : nd x m ≤ m := by
  have := Int.emod_lt_of_pos x (b := (m : Int)) (by omega); unfold nd; omega
theorem nd_cast (x : Int) (m : Nat) (h : 0 < m) : (nd x m : Int) = 1 + x % (m : Int) := by
  have := Int.emod_nonneg x (b := (m : Int)) (by omega); unfold nd; omega

set_option maxHeartbeats 1000000 in
theorem config_any (n l k s y o i : Int) (a : Option Addr) (len cap : Nat) (wh ki ad va : Value) (z : List Int) (w : World) (hsl : Sl w a len cap z) :
    Calls Try.prog 8 #[setup n l k s y o i (.slice a len cap) wh ki ad va] w fun e w' => ∃ v, e = .returned (cfg (nd n 4) (nd l 4) (nd k 2) (nd s 2) (nd y 2) (nd o 3) (nd i 3) v) ∧ Own w' w.heap.size v (z.take (nd l 4 * nd k 2)) ∧ Below w.heap.size w w' := by
  unfold setup cfg
  have n0 : 0 ≤ n % 4 := Int.emod_nonneg _ (by omega)
  have n1 : n % 4 < 4 := Int.emod_lt_of_pos _ (by omega)
  have l0 : 0 ≤ l % 4 := Int.emod_nonneg _ (by omega)
  have l1 : l % 4 < 4 := Int.emod_lt_of_pos _ (by omega)
  have k0 : 0 ≤ k % 2 := Int.emod_nonneg _ (by omega)
  have k1 : k % 2 < 2 := Int.emod_lt_of_pos _ (by omega)
  have s0 : 0 ≤ s % 2 := Int.emod_nonneg _ (by omega)
  have s1 : s % 2 < 2 := Int.emod_lt_of_pos _ (by omega)
  have y0 : 0 ≤ y % 2 := Int.emod_nonneg _ (by omega)
  have y1 : y % 2 < 2 := Int.emod_lt_of_pos _ (by omega)
  have o0 : 0 ≤ o % 3 := Int.emod_nonneg _ (by omega)
  have o1 : o % 3 < 3 := Int.emod_lt_of_pos _ (by omega)
  have i0 : 0 ≤ i % 3 := Int.emod_nonneg _ (by omega)
  have i1 : i % 3 < 3 := Int.emod_lt_of_pos _ (by omega)
  go_enter Try.func8, Try.ntmps8
  go_wp2_with fail
  have uc := @Up.cell2
  have uf := @Up.frozen2
  refine wp_region_mild 31 rfl (by kernel_rfl) ?_
  refine mild_take (v := ?v1) 0 rfl (by kernel_rfl) (by kernel_rfl) (by kernel_rfl) (fun _ _ _ h => h) (by kernel_rfl) (fun W K hK => ?hy1) ?go1
  case hy1 =>
    go_big_quiet_op
    simp only [Act.put, List.setIfInBounds_toArray, List.set_cons_zero, List.set_cons_succ] at hK
    exact hK
  simp only [Act.put, List.setIfInBounds_toArray, List.set_cons_zero, List.set_cons_succ]
  refine mild_take (v := ?v2) 1 rfl (by kernel_rfl) (by kernel_rfl) (by kernel_rfl) (fun _ _ _ h => h) (by kernel_rfl) (fun W K hK => ?hy2) ?go2
  case hy2 =>
    go_big_quiet_op
    simp only [Act.put, List.setIfInBounds_toArray, List.set_cons_zero, List.set_cons_succ] at hK
    exact hK
  simp only [Act.put, List.setIfInBounds_toArray, List.set_cons_zero, List.set_cons_succ]
  refine mild_take (v := ?v3) 2 rfl (by kernel_rfl) (by kernel_rfl) (by kernel_rfl) (fun _ _ _ h => h) (by kernel_rfl) (fun W K hK => ?hy3) ?go3
  case hy3 =>
    go_big_quiet_op
    simp only [Act.put, List.setIfInBounds_toArray, List.set_cons_zero, List.set_cons_succ] at hK
    refine ⟨_, fun u => Calls.up_same (within_any _ _ _ (by omega) (by omega)), ?_⟩
    exact hK
  simp only [Act.put, List.setIfInBounds_toArray, List.set_cons_zero, List.set_cons_succ]
  refine mild_take (v := ?v4) 3 rfl (by kernel_rfl) (by kernel_rfl) (by kernel_rfl) (fun _ _ _ h => h) (by kernel_rfl) (fun W K hK => ?hy4) ?go4
  case hy4 =>
    go_big_quiet_op
    simp only [Act.put, List.setIfInBounds_toArray, List.set_cons_zero, List.set_cons_succ] at hK
    exact hK
  simp only [Act.put, List.setIfInBounds_toArray, List.set_cons_zero, List.set_cons_succ]
  refine mild_take (v := ?v5) 4 rfl (by kernel_rfl) (by kernel_rfl) (by kernel_rfl) (fun _ _ _ h => h) (by kernel_rfl) (fun W K hK => ?hy5) ?go5
  case hy5 =>
    go_big_quiet_op
    simp only [Act.put, List.setIfInBounds_toArray, List.set_cons_zero, List.set_cons_succ] at hK
    exact hK
  simp only [Act.put, List.setIfInBounds_toArray, List.set_cons_zero, List.set_cons_succ]
  refine mild_take (v := ?v6) 5 rfl (by kernel_rfl) (by kernel_rfl) (by kernel_rfl) (fun _ _ _ h => h) (by kernel_rfl) (fun W K hK => ?hy6) ?go6
  case hy6 =>
    go_big_quiet_op
    simp only [Act.put, List.setIfInBounds_toArray, List.set_cons_zero, List.set_cons_succ] at hK
    exact hK
  simp only [Act.put, List.setIfInBounds_toArray, List.set_cons_zero, List.set_cons_succ]
  refine mild_take (v := ?v7) 6 rfl (by kernel_rfl) (by kernel_rfl) (by kernel_rfl) (fun _ _ _ h => h) (by kernel_rfl) (fun W K hK => ?hy7) ?go7
  case hy7 =>
    go_big_quiet_op
    simp only [Act.put, List.setIfInBounds_toArray, List.set_cons_zero, List.set_cons_succ] at hK
    refine ⟨_, fun u => Calls.up_same (within_any _ _ _ (by omega) (by omega)), ?_⟩
    exact hK
  simp only [Act.put, List.setIfInBounds_toArray, List.set_cons_zero, List.set_cons_succ]
  refine mild_take (v := ?v8) 7 rfl (by kernel_rfl) (by kernel_rfl) (by kernel_rfl) (fun _ _ _ h => h) (by kernel_rfl) (fun W K hK => ?hy8) ?go8
  case hy8 =>
    go_big_quiet_op
    simp only [Act.put, List.setIfInBounds_toArray, List.set_cons_zero, List.set_cons_succ] at hK
    exact hK
  simp only [Act.put, List.setIfInBounds_toArray, List.set_cons_zero, List.set_cons_succ]
  refine mild_take (v := ?v9) 8 rfl (by kernel_rfl) (by kernel_rfl) (by kernel_rfl) (fun _ _ _ h => h) (by kernel_rfl) (fun W K hK => ?hy9) ?go9
  case hy9 =>
    go_big_quiet_op
    simp only [Act.put, List.setIfInBounds_toArray, List.set_cons_zero, List.set_cons_succ] at hK
    exact hK
  simp only [Act.put, List.setIfInBounds_toArray, List.set_cons_zero, List.set_cons_succ]
  refine mild_take (v := ?v10) 9 rfl (by kernel_rfl) (by kernel_rfl) (by kernel_rfl) (fun _ _ _ h => h) (by kernel_rfl) (fun W K hK => ?hy10) ?go10
  case hy10 =>
    go_big_quiet_op
    simp only [Act.put, List.setIfInBounds_toArray, List.set_cons_zero, List.set_cons_succ] at hK
    exact hK
  simp only [Act.put, List.setIfInBounds_toArray, List.set_cons_zero, List.set_cons_succ]
  refine mild_take (v := ?v11) 10 rfl (by kernel_rfl) (by kernel_rfl) (by kernel_rfl) (fun _ _ _ h => h) (by kernel_rfl) (fun W K hK => ?hy11) ?go11
  case hy11 =>
    go_big_quiet_op
    simp only [Act.put, List.setIfInBounds_toArray, List.set_cons_zero, List.set_cons_succ] at hK
    refine ⟨_, fun u => Calls.up_same (within_any _ _ _ (by omega) (by omega)), ?_⟩
    exact hK
  simp only [Act.put, List.setIfInBounds_toArray, List.set_cons_zero, List.set_cons_succ]
  refine mild_take (v := ?v12) 11 rfl (by kernel_rfl) (by kernel_rfl) (by kernel_rfl) (fun _ _ _ h => h) (by kernel_rfl) (fun W K hK => ?hy12) ?go12
  case hy12 =>
    go_big_quiet_op
    simp only [Act.put, List.setIfInBounds_toArray, List.set_cons_zero, List.set_cons_succ] at hK
    exact hK
  simp only [Act.put, List.setIfInBounds_toArray, List.set_cons_zero, List.set_cons_succ]
  refine mild_take (v := ?v13) 12 rfl (by kernel_rfl) (by kernel_rfl) (by kernel_rfl) (fun _ _ _ h => h) (by kernel_rfl) (fun W K hK => ?hy13) ?go13
  case hy13 =>
    go_big_quiet_op
    simp only [Act.put, List.setIfInBounds_toArray, List.set_cons_zero, List.set_cons_succ] at hK
    exact hK
  simp only [Act.put, List.setIfInBounds_toArray, List.set_cons_zero, List.set_cons_succ]
  refine mild_take (v := ?v14) 13 rfl (by kernel_rfl) (by kernel_rfl) (by kernel_rfl) (fun _ _ _ h => h) (by kernel_rfl) (fun W K hK => ?hy14) ?go14
  case hy14 =>
    go_big_quiet_op
    simp only [Act.put, List.setIfInBounds_toArray, List.set_cons_zero, List.set_cons_succ] at hK
    exact hK
  simp only [Act.put, List.setIfInBounds_toArray, List.set_cons_zero, List.set_cons_succ]
  refine mild_take (v := ?v15) 14 rfl (by kernel_rfl) (by kernel_rfl) (by kernel_rfl) (fun _ _ _ h => h) (by kernel_rfl) (fun W K hK => ?hy15) ?go15
  case hy15 =>
    go_big_quiet_op
    simp only [Act.put, List.setIfInBounds_toArray, List.set_cons_zero, List.set_cons_succ] at hK
    refine ⟨_, fun u => Calls.up_same (within_any _ _ _ (by omega) (by omega)), ?_⟩
    exact hK
  simp only [Act.put, List.setIfInBounds_toArray, List.set_cons_zero, List.set_cons_succ]
  refine mild_take (v := ?v16) 15 rfl (by kernel_rfl) (by kernel_rfl) (by kernel_rfl) (fun _ _ _ h => h) (by kernel_rfl) (fun W K hK => ?hy16) ?go16
  case hy16 =>
    go_big_quiet_op
    simp only [Act.put, List.setIfInBounds_toArray, List.set_cons_zero, List.set_cons_succ] at hK
    exact hK
  simp only [Act.put, List.setIfInBounds_toArray, List.set_cons_zero, List.set_cons_succ]
  refine mild_take (v := ?v17) 16 rfl (by kernel_rfl) (by kernel_rfl) (by kernel_rfl) (fun _ _ _ h => h) (by kernel_rfl) (fun W K hK => ?hy17) ?go17
  case hy17 =>
    go_big_quiet_op
    simp only [Act.put, List.setIfInBounds_toArray, List.set_cons_zero, List.set_cons_succ] at hK
    exact hK
  simp only [Act.put, List.setIfInBounds_toArray, List.set_cons_zero, List.set_cons_succ]
  refine mild_take (v := ?v18) 17 rfl (by kernel_rfl) (by kernel_rfl) (by kernel_rfl) (fun _ _ _ h => h) (by kernel_rfl) (fun W K hK => ?hy18) ?go18
  case hy18 =>
    go_big_quiet_op
    simp only [Act.put, List.setIfInBounds_toArray, List.set_cons_zero, List.set_cons_succ] at hK
    exact hK
  simp only [Act.put, List.setIfInBounds_toArray, List.set_cons_zero, List.set_cons_succ]
  refine mild_take (v := ?v19) 18 rfl (by kernel_rfl) (by kernel_rfl) (by kernel_rfl) (fun _ _ _ h => h) (by kernel_rfl) (fun W K hK => ?hy19) ?go19
  case hy19 =>
    go_big_quiet_op
    simp only [Act.put, List.setIfInBounds_toArray, List.set_cons_zero, List.set_cons_succ] at hK
    refine ⟨_, fun u => Calls.up_same (within_any _ _ _ (by omega) (by omega)), ?_⟩
    exact hK
  simp only [Act.put, List.setIfInBounds_toArray, List.set_cons_zero, List.set_cons_succ]
  refine mild_take (v := ?v20) 19 rfl (by kernel_rfl) (by kernel_rfl) (by kernel_rfl) (fun _ _ _ h => h) (by kernel_rfl) (fun W K hK => ?hy20) ?go20
  case hy20 =>
    go_big_quiet_op
    simp only [Act.put, List.setIfInBounds_toArray, List.set_cons_zero, List.set_cons_succ] at hK
    exact hK
  simp only [Act.put, List.setIfInBounds_toArray, List.set_cons_zero, List.set_cons_succ]
  refine mild_take (v := ?v21) 20 rfl (by kernel_rfl) (by kernel_rfl) (by kernel_rfl) (fun _ _ _ h => h) (by kernel_rfl) (fun W K hK => ?hy21) ?go21
  case hy21 =>
    go_big_quiet_op
    simp only [Act.put, List.setIfInBounds_toArray, List.set_cons_zero, List.set_cons_succ] at hK
    exact hK
  simp only [Act.put, List.setIfInBounds_toArray, List.set_cons_zero, List.set_cons_succ]
  refine mild_take (v := ?v22) 21 rfl (by kernel_rfl) (by kernel_rfl) (by kernel_rfl) (fun _ _ _ h => h) (by kernel_rfl) (fun W K hK => ?hy22) ?go22
  case hy22 =>
    go_big_quiet_op
    simp only [Act.put, List.setIfInBounds_toArray, List.set_cons_zero, List.set_cons_succ] at hK
    exact hK
  simp only [Act.put, List.setIfInBounds_toArray, List.set_cons_zero, List.set_cons_succ]
  refine mild_take (v := ?v23) 22 rfl (by kernel_rfl) (by kernel_rfl) (by kernel_rfl) (fun _ _ _ h => h) (by kernel_rfl) (fun W K hK => ?hy23) ?go23
  case hy23 =>
    go_big_quiet_op
    simp only [Act.put, List.setIfInBounds_toArray, List.set_cons_zero, List.set_cons_succ] at hK
    refine ⟨_, fun u => Calls.up_same (within_any _ _ _ (by omega) (by omega)), ?_⟩
    exact hK
  simp only [Act.put, List.setIfInBounds_toArray, List.set_cons_zero, List.set_cons_succ]
  refine mild_take (v := ?v24) 23 rfl (by kernel_rfl) (by kernel_rfl) (by kernel_rfl) (fun _ _ _ h => h) (by kernel_rfl) (fun W K hK => ?hy24) ?go24
  case hy24 =>
    go_big_quiet_op
    simp only [Act.put, List.setIfInBounds_toArray, List.set_cons_zero, List.set_cons_succ] at hK
    exact hK
  simp only [Act.put, List.setIfInBounds_toArray, List.set_cons_zero, List.set_cons_succ]
  refine mild_take (v := ?v25) 24 rfl (by kernel_rfl) (by kernel_rfl) (by kernel_rfl) (fun _ _ _ h => h) (by kernel_rfl) (fun W K hK => ?hy25) ?go25
  case hy25 =>
    go_big_quiet_op
    simp only [Act.put, List.setIfInBounds_toArray, List.set_cons_zero, List.set_cons_succ] at hK
    exact hK
  simp only [Act.put, List.setIfInBounds_toArray, List.set_cons_zero, List.set_cons_succ]
  refine mild_take (v := ?v26) 25 rfl (by kernel_rfl) (by kernel_rfl) (by kernel_rfl) (fun _ _ _ h => h) (by kernel_rfl) (fun W K hK => ?hy26) ?go26
  case hy26 =>
    go_big_quiet_op
    simp only [Act.put, List.setIfInBounds_toArray, List.set_cons_zero, List.set_cons_succ] at hK
    exact hK
  simp only [Act.put, List.setIfInBounds_toArray, List.set_cons_zero, List.set_cons_succ]
  refine mild_take (v := ?v27) 26 rfl (by kernel_rfl) (by kernel_rfl) (by kernel_rfl) (fun _ _ _ h => h) (by kernel_rfl) (fun W K hK => ?hy27) ?go27
  case hy27 =>
    go_big_quiet_op
    simp only [Act.put, List.setIfInBounds_toArray, List.set_cons_zero, List.set_cons_succ] at hK
    refine ⟨_, fun u => Calls.up_same (within_any _ _ _ (by omega) (by omega)), ?_⟩
    exact hK
  simp only [Act.put, List.setIfInBounds_toArray, List.set_cons_zero, List.set_cons_succ]
  refine mild_take (v := ?v28) 27 rfl (by kernel_rfl) (by kernel_rfl) (by kernel_rfl) (fun _ _ _ h => h) (by kernel_rfl) (fun W K hK => ?hy28) ?go28
  case hy28 =>
    go_big_quiet_op
    simp only [Act.put, List.setIfInBounds_toArray, List.set_cons_zero, List.set_cons_succ] at hK
    exact hK
  simp only [Act.put, List.setIfInBounds_toArray, List.set_cons_zero, List.set_cons_succ]
  refine mild_take (v := ?v29) 28 rfl (by kernel_rfl) (by kernel_rfl) (by kernel_rfl) (fun _ _ _ h => h) (by kernel_rfl) (fun W K hK => ?hy29) ?go29
  case hy29 =>
    go_big_quiet_op
    simp only [Act.put, List.setIfInBounds_toArray, List.set_cons_zero, List.set_cons_succ] at hK
    exact hK
  simp only [Act.put, List.setIfInBounds_toArray, List.set_cons_zero, List.set_cons_succ]
  intro W
  clear uc uf
  obtain ⟨hc, hf⟩ := bcell W.2
  refine up_list 29 (by kernel_rfl) rfl ?_
  go_wp2
  refine ⟨ba W.2, fun u => ?_⟩
  have hbu := u.2
  obtain ⟨hc2, hf2⟩ := bcell hbu
  refine up_list 30 (by kernel_rfl) rfl ?_
  go_wp2
  have e1 : w.heap.size < W.1.heap.size := by have := W.2.size; simp at this; omega
  have e2 : w.heap.size + 1 < W.1.heap.size := by have := W.2.size; simp at this; omega
  have e3 : W.1.heap.size < u.1.heap.size := by have := hbu.size; simp at this; omega
  have hw : Below w.heap.size w u.1 := next (next (ba (ba (Below.refl _ _))) W.2) (next (ba (Below.refl _ _)) hbu)
  refine ⟨?_, fun u2 => ?_⟩
  · repeat (refine Below.setCell ?_ (by have := W.2.size; simpa using this) _)
    exact next (ba W.2) hbu
  have hb3 := u2.2
  have x1 : w.heap.size < u.1.heap.size := by omega
  have x2 : w.heap.size + 1 < u.1.heap.size := by omega
  have hbw : Below w.heap.size w u2.1 := by
    refine Below.trans ?_ (hb3.mono (by simp; omega))
    repeat (refine Below.setCell ?_ (by simp <;> omega) _)
    exact hw
  refine up_done (by kernel_rfl) ?_
  obtain ⟨hc3, hf3⟩ := bcell hb3
  have n1 : w.heap.size ≠ W.1.heap.size := by omega
  have n2 : w.heap.size + 1 ≠ W.1.heap.size := by omega
  have far : ∀ b o, b < W.1.heap.size → u2.1.cell? ⟨b, o, none⟩ = W.1.cell? ⟨b, o, none⟩ := by
    intro b o hb
    rw [hc3 _ _ (by simp; omega)]
    repeat rw [cell_far _ _ (by simp; omega)]
    rw [hc2 _ _ (by simp; omega)]
    apply World.cell?_alloc_lt; exact hb
  have near : ∀ j v, (#[.int .i64 (1 + n % 4), .int .i64 (1 + l % 4), .int .i64 (1 + k % 2), .int .i64 (1 + s % 2), .int .i64 (1 + y % 2), .int .i64 (1 + o % 3), .int .i64 (1 + i % 3), .slice none 0 0] : Array Value)[j]? = some v → u2.1.cell? ⟨W.1.heap.size, j, none⟩ = some v := by
    intro j v hv
    rw [hc3 _ _ (by simpa using e3)]
    have hj : j < 8 := by have := (Array.getElem?_eq_some_iff.1 hv).1; simpa using this
    match j, hj, hv with
    | 0, _, hv | 1, _, hv | 2, _, hv | 3, _, hv | 4, _, hv | 5, _, hv | 6, _, hv | 7, _, hv =>
      simp at hv
      subst hv
      go_simp
  have fz : ∀ b o, b < u.1.heap.size → u2.1.frozen? ⟨b, o, none⟩ = u.1.frozen? ⟨b, o, none⟩ := by
    intro b o hb
    rw [hf3 _ _ (by simpa using hb)]
    simp
  have hn : ((nd n 4 : Nat) : Int) = 1 + n % 4 := nd_cast n 4 (by decide)
  have c0 : u2.1.cell? ⟨W.1.heap.size, 0, none⟩ = some (.int .i64 ((nd n 4 : Nat) : Int)) := by rw [hn]; exact near 0 _ rfl
  have hl : ((nd l 4 : Nat) : Int) = 1 + l % 4 := nd_cast l 4 (by decide)
  have c1 : u2.1.cell? ⟨W.1.heap.size, 1, none⟩ = some (.int .i64 ((nd l 4 : Nat) : Int)) := by rw [hl]; exact near 1 _ rfl
  have hk : ((nd k 2 : Nat) : Int) = 1 + k % 2 := nd_cast k 2 (by decide)
  have c2 : u2.1.cell? ⟨W.1.heap.size, 2, none⟩ = some (.int .i64 ((nd k 2 : Nat) : Int)) := by rw [hk]; exact near 2 _ rfl
  have hs : ((nd s 2 : Nat) : Int) = 1 + s % 2 := nd_cast s 2 (by decide)
  have c3 : u2.1.cell? ⟨W.1.heap.size, 3, none⟩ = some (.int .i64 ((nd s 2 : Nat) : Int)) := by rw [hs]; exact near 3 _ rfl
  have hy : ((nd y 2 : Nat) : Int) = 1 + y % 2 := nd_cast y 2 (by decide)
  have c4 : u2.1.cell? ⟨W.1.heap.size, 4, none⟩ = some (.int .i64 ((nd y 2 : Nat) : Int)) := by rw [hy]; exact near 4 _ rfl
  have ho : ((nd o 3 : Nat) : Int) = 1 + o % 3 := nd_cast o 3 (by decide)
  have c5 : u2.1.cell? ⟨W.1.heap.size, 5, none⟩ = some (.int .i64 ((nd o 3 : Nat) : Int)) := by rw [ho]; exact near 5 _ rfl
  have hi : ((nd i 3 : Nat) : Int) = 1 + i % 3 := nd_cast i 3 (by decide)
  have c6 : u2.1.cell? ⟨W.1.heap.size, 6, none⟩ = some (.int .i64 ((nd i 3 : Nat) : Int)) := by rw [hi]; exact near 6 _ rfl
  have c7 : u2.1.cell? ⟨W.1.heap.size, 7, none⟩ = some (.slice none 0 0) := near 7 _ rfl
  have cf : ∀ j, u2.1.frozen? ⟨W.1.heap.size, j, none⟩ = false := by
    intro j
    rw [fz _ _ e3, hf2 _ _ (by simp)]
    go_simp
  have s7 : u2.1.cell? ⟨w.heap.size, 7, none⟩ = some (.slice a len cap) := by
    rw [far _ _ e1, hc _ _ (by simp; omega)]
    go_simp
  have r0 : u2.1.cell? ⟨w.heap.size + 1, 0, none⟩ = some (.int .i64 0) := by
    rw [far _ _ e2, hc _ _ (by simp)]
    go_simp
  have r1 : u2.1.cell? ⟨w.heap.size + 1, 1, none⟩ = some (.int .i64 0) := by
    rw [far _ _ e2, hc _ _ (by simp)]
    go_simp
  have r2 : u2.1.cell? ⟨w.heap.size + 1, 2, none⟩ = some (.int .i64 0) := by
    rw [far _ _ e2, hc _ _ (by simp)]
    go_simp
  have r3 : u2.1.cell? ⟨w.heap.size + 1, 3, none⟩ = some (.int .i64 0) := by
    rw [far _ _ e2, hc _ _ (by simp)]
    go_simp
  have r4 : u2.1.cell? ⟨w.heap.size + 1, 4, none⟩ = some (.int .i64 0) := by
    rw [far _ _ e2, hc _ _ (by simp)]
    go_simp
  have r5 : u2.1.cell? ⟨w.heap.size + 1, 5, none⟩ = some (.int .i64 0) := by
    rw [far _ _ e2, hc _ _ (by simp)]
    go_simp
  have r6 : u2.1.cell? ⟨w.heap.size + 1, 6, none⟩ = some (.int .i64 0) := by
    rw [far _ _ e2, hc _ _ (by simp)]
    go_simp
  have r7 : u2.1.cell? ⟨w.heap.size + 1, 7, none⟩ = some (.slice none 0 0) := by
    rw [far _ _ e2, hc _ _ (by simp)]
    go_simp
  have rf : ∀ j, u2.1.frozen? ⟨w.heap.size + 1, j, none⟩ = false := by
    intro j
    rw [fz _ _ x2, hf2 _ _ (by simp; omega)]
    go_simp
  have z3 : W.1.heap.size < u2.1.heap.size := by have := hb3.size; simp at this; omega
  have l2 := nd_lo l 4
  have l3 := nd_hi l 4 (by decide)
  have k2 := nd_lo k 2
  have k3 := nd_hi k 2 (by decide)
  have z4 : w.heap.size < u2.1.heap.size := by omega
  have z5 : w.heap.size + 1 < u2.1.heap.size := by omega
  clear near far fz hc3 hf3 hc2 hf2 hc hf hb3 x1 x2 e3 hbu hn hl hk hs hy ho hi hw
  generalize W.1.heap.size = g at *
  generalize u2.1 = w3 at *
  clear u2 u W
  generalize GN : nd n 4 = N at *
  have HN : Hid (nd n 4 = N) := GN
  clear GN
  generalize GL : nd l 4 = L at *
  have HL : Hid (nd l 4 = L) := GL
  clear GL
  generalize GK : nd k 2 = K at *
  have HK : Hid (nd k 2 = K) := GK
  clear GK
  generalize GS : nd s 2 = S at *
  have HS : Hid (nd s 2 = S) := GS
  clear GS
  generalize GY : nd y 2 = Y at *
  have HY : Hid (nd y 2 = Y) := GY
  clear GY
  generalize GO : nd o 3 = O at *
  have HO : Hid (nd o 3 = O) := GO
  clear GO
  generalize GI : nd i 3 = I at *
  have HI : Hid (nd i 3 = I) := GI
  clear GI
  have p1 : (0 : Int) ≤ (L : Int) * (K : Int) := Int.mul_nonneg (by omega) (by omega)
  have p2 : (L : Int) * (K : Int) ≤ 8 := by have := Int.mul_le_mul (show (L : Int) ≤ 4 by omega) (show (K : Int) ≤ 2 by omega) (by omega) (by omega); simpa using this
  have p3 : L * K ≤ 8 := by have := Nat.mul_le_mul (show L ≤ 4 by omega) (show K ≤ 2 by omega); simpa using this
  go_wp2_with (go_at_call 28; refine (cut_x a z len cap (L * K) _ _ (hsl.below hbw) (by omega) (Int.natCast_mul L K).symm).mono ?_; rintro e w4 ⟨v, rfl, hown, hb4⟩; obtain ⟨hc4, hf4⟩ := bcell hb4; obtain ⟨av, cv, ev, hslv⟩ := hown.sl; subst ev)
  rw [List.length_take] at hown
  have q1 : g < w4.heap.size := by have := hb4.size; omega
  have q2 : w.heap.size + 1 < w4.heap.size := by have := hb4.size; omega
  refine bodyPost_ret (v := .agg #[.int .i64 N, .int .i64 L, .int .i64 K, .int .i64 S, .int .i64 Y, .int .i64 O, .int .i64 I, .slice av (min (L * K) z.length) cv]) (by simp [results, Try.results8, go_sem, *]) rfl ⟨_, by rw [HN.out, HL.out, HK.out, HS.out, HY.out, HO.out, HI.out], ?_, ?_⟩
  · refine Own.low ?_ (show w.heap.size ≤ w3.heap.size by omega)
    repeat (refine Own.set ?_ (by simp <;> omega) _)
    rw [HL.out, HK.out]
    exact hown
  · repeat (refine Below.setCell ?_ (by simp <;> omega) _)
    exact next hbw hb4
end Go.Proofs.Ytjdbjmfkheffdaa
end
section
namespace Go.Proofs.Ytjdbjmfkheffdaa
open Go.ChangeShapes Go.WideShapes Go.ChangeAt Go.RowKit Go.Joins
set_option linter.unusedVariables false
set_option maxRecDepth 20000

/-- A setup that came in. -/
def IsSetup (w : World) (v : Value) : Prop :=
  ∃ (n l k s y o i : Int) (a0 : Option Addr) (n0 c0 : Nat) (z0 : List Int) (a1 : Option Addr) (n1 c1 : Nat) (z1 : List Int) (a2 : Option Addr) (n2 c2 : Nat) (z2 : List Int) (a3 : Option Addr) (n3 c3 : Nat) (z3 : List Int) (a4 : Option Addr) (n4 c4 : Nat) (z4 : List Int),
    v = setup n l k s y o i (.slice a0 n0 c0) (.slice a1 n1 c1) (.slice a2 n2 c2) (.slice a3 n3 c3) (.slice a4 n4 c4) ∧ Sl w a0 n0 c0 z0 ∧ Sl w a1 n1 c1 z1 ∧ Sl w a2 n2 c2 z2 ∧ Sl w a3 n3 c3 z3 ∧ Sl w a4 n4 c4 z4

theorem array12 {α : Type} {cs : Array α} (h : cs.size = 12) : ∃ c0 c1 c2 c3 c4 c5 c6 c7 c8 c9 c10 c11, cs = #[c0, c1, c2, c3, c4, c5, c6, c7, c8, c9, c10, c11] := by
  obtain ⟨l⟩ := cs
  match l, h with
  | [c0, c1, c2, c3, c4, c5, c6, c7, c8, c9, c10, c11], _ => exact ⟨c0, c1, c2, c3, c4, c5, c6, c7, c8, c9, c10, c11, rfl⟩
theorem setup_of {H : Type} {enc : TypeId × Value → H} {w : World} {base b0 : Nat} {held : Bool} {r : Reach} {v : Value} {d : DataW H} {p : List MemPlace}
    (hv : Value.okWide Try.prog w r b0 24 v) (h : DataW.Trod enc Try.prog w base (fun _ => true) held 24 v d p) : IsSetup w v := by
  obtain ⟨cs, rfl, hsz, hf⟩ := agg_cells Try.underlying24 (by kernel_rfl) (by kernel_rfl) hv h
  obtain ⟨c0, c1, c2, c3, c4, c5, c6, c7, c8, c9, c10, c11, rfl⟩ := array12 hsz
  obtain ⟨_, _, _, e0, t0⟩ := hf 0 _ rfl
  obtain ⟨_, _, _, e1, t1⟩ := hf 1 _ rfl
  obtain ⟨_, _, _, e2, t2⟩ := hf 2 _ rfl
  obtain ⟨_, _, _, e3, t3⟩ := hf 3 _ rfl
  obtain ⟨_, _, _, e4, t4⟩ := hf 4 _ rfl
  obtain ⟨_, _, _, e5, t5⟩ := hf 5 _ rfl
  obtain ⟨_, _, _, e6, t6⟩ := hf 6 _ rfl
  obtain ⟨_, _, _, e7, t7⟩ := hf 7 _ rfl
  obtain ⟨_, _, _, e8, t8⟩ := hf 8 _ rfl
  obtain ⟨_, _, _, e9, t9⟩ := hf 9 _ rfl
  obtain ⟨_, _, _, e10, t10⟩ := hf 10 _ rfl
  obtain ⟨_, _, _, e11, t11⟩ := hf 11 _ rfl
  simp at e0 e1 e2 e3 e4 e5 e6 e7 e8 e9 e10 e11
  subst e0 e1 e2 e3 e4 e5 e6 e7 e8 e9 e10 e11
  obtain ⟨x0, rfl⟩ := int_cell t0
  obtain ⟨x1, rfl⟩ := int_cell t1
  obtain ⟨x2, rfl⟩ := int_cell t2
  obtain ⟨x3, rfl⟩ := int_cell t3
  obtain ⟨x4, rfl⟩ := int_cell t4
  obtain ⟨x5, rfl⟩ := int_cell t5
  obtain ⟨x6, rfl⟩ := int_cell t6
  obtain ⟨a7, l7, p7, z7, rfl, s7, _⟩ := ints_cell t7
  obtain ⟨a8, l8, p8, z8, rfl, s8, _⟩ := ints_cell t8
  obtain ⟨a9, l9, p9, z9, rfl, s9, _⟩ := ints_cell t9
  obtain ⟨a10, l10, p10, z10, rfl, s10, _⟩ := ints_cell t10
  obtain ⟨a11, l11, p11, z11, rfl, s11, _⟩ := ints_cell t11
  exact ⟨x0, x1, x2, x3, x4, x5, x6, a7, l7, p7, z7, a8, l8, p8, z8, a9, l9, p9, z9, a10, l10, p10, z10, a11, l11, p11, z11, rfl, s7, s8, s9, s10, s11⟩
end Go.Proofs.Ytjdbjmfkheffdaa
end
section
namespace Go.Proofs.Ytjdbjmfkheffdaa
open Go.RowKit
set_option linter.unusedVariables false

/-- A packet in a block of its own, cell by cell. -/
theorem Bx.news {w : World} {bs : Nat} {x : Pk} {d : Value} (bx : Bx w bs x d) : ∀ j u, (pcells x d)[j]? = some u → w.cell? ((⟨bs, 0, none⟩ : Addr).add j) = some u := by
  intro j u hu
  rw [Addr.add_lit, Nat.zero_add]
  have hj : j < 9 := (List.getElem?_eq_some_iff.1 hu).1
  obtain ⟨b0, b1, b2, b3, b4, b5, b6, b7, b8, _, _⟩ := bx
  match j, hj with
  | 0, _ => rw [b0]; exact hu
  | 1, _ => rw [b1]; exact hu
  | 2, _ => rw [b2]; exact hu
  | 3, _ => rw [b3]; exact hu
  | 4, _ => rw [b4]; exact hu
  | 5, _ => rw [b5]; exact hu
  | 6, _ => rw [b6]; exact hu
  | 7, _ => rw [b7]; exact hu
  | 8, _ => rw [b8]; exact hu
/-- A row of the packets L, in a block of M; their words lie in blocks of D. -/
structure PRow (w : World) (M D : Nat → Prop) (L : List Pk) (R : List (Pk × Value)) (a : Option Addr) (n cap : Nat) : Prop where
  eq : R.map Prod.fst = L
  len : L.length = n
  row : Rw w M a n cap 9 (pflat R)
  dat : ∀ r ∈ R, Dat w D r.1 r.2
  old : ∀ k, M k → k < w.heap.size
  dj : ∀ k, M k → ¬ D k
theorem PRow.keep {w w' : World} {M D F : Nat → Prop} {L : List Pk} {R : List (Pk × Value)} {a : Option Addr} {n cap : Nat} (h : PRow w M D L R a n cap) (hk : Keep F w w') (hF : ∀ k, M k ∨ D k → ¬ F k) : PRow w' M D L R a n cap :=
  ⟨h.eq, h.len, h.row.keep hk (fun k hm => hF k (.inl hm)), fun r hr => (h.dat r hr).keep hk (fun k hd => hF k (.inr hd)), fun k hm => Nat.lt_of_lt_of_le (h.old k hm) hk.size, h.dj⟩
theorem PRow.below {w w' : World} {M D : Nat → Prop} {L : List Pk} {R : List (Pk × Value)} {a : Option Addr} {n cap : Nat} (h : PRow w M D L R a n cap) (hb : Below w.heap.size w w') : PRow w' M D L R a n cap := h.keep (F := fun _ => False) (Keep.of_below hb) (fun _ _ h => h)
theorem prow_nil (w : World) (D : Nat → Prop) : PRow w (fun _ => False) D [] [] none 0 0 := ⟨rfl, rfl, rw_nil _ _ _, fun r hr => (by cases hr), fun k h => h.elim, fun k h => h.elim⟩
/-- One more. -/
theorem PRow.snoc {w w' : World} {M D E : Nat → Prop} {L : List Pk} {R : List (Pk × Value)} {a a' : Option Addr} {n cap cap' : Nat} {x : Pk} {d : Value} (h : PRow w M D L R a n cap) (hd : Dat w E x d) (hE : ∀ k, E k → ¬ M k) (hD : ∀ k, D k → k < w.heap.size) (hE' : ∀ k, E k → k < w.heap.size)
    (hr : Rw w' (fun k => M k ∨ w.heap.size ≤ k) a' (n + 1) cap' 9 (pflat R ++ pcells x d)) (hk : Keep M w w') :
    PRow w' (fun k => M k ∨ (w.heap.size ≤ k ∧ k < w'.heap.size)) (fun k => D k ∨ E k) (L ++ [x]) (R ++ [(x, d)]) a' (n + 1) cap' := by
  refine ⟨by rw [List.map_append, h.eq]; rfl, by rw [List.length_append, h.len]; rfl, ?_, ?_, ?_, ?_⟩
  · rw [pflat_append, pflat_one]
    exact hr.imp (fun k hk h => h.imp id (fun h => ⟨h, hk⟩))
  · intro r hr
    rcases List.mem_append.1 hr with hr | hr
    · exact ((h.dat r hr).keep hk (fun k hd hm => h.dj k hm hd)).imp (fun k _ h => .inl h)
    · rw [List.mem_singleton] at hr
      subst hr
      exact (hd.keep hk (fun k he hm => hE k he hm)).imp (fun k _ h => .inr h)
  · intro k hm
    rcases hm with hm | hm
    · exact Nat.lt_of_lt_of_le (h.old k hm) hk.size
    · exact hm.2
  · intro k hm hd
    rcases hm with hm | hm <;> rcases hd with hd | hd
    · exact h.dj k hm hd
    · exact hE k hd hm
    · have := hD k hd; omega
    · have := hE' k hd; omega
theorem PRow.get {w : World} {M D : Nat → Prop} {L : List Pk} {R : List (Pk × Value)} {a : Option Addr} {n cap : Nat} (h : PRow w M D L R a n cap) {i : Nat} (hi : i < n) : ∃ x d b o, L[i]? = some x ∧ R[i]? = some (x, d) ∧ Dat w D x d ∧ a = some ⟨b, o, none⟩ ∧ M b ∧ b < w.heap.size ∧
    (w.cell? ⟨b, o + i * 9, none⟩ = some (.int .i64 x.k) ∧ w.cell? ⟨b, o + i * 9 + 1, none⟩ = some (.int .i64 x.f) ∧ w.cell? ⟨b, o + i * 9 + 2, none⟩ = some (.int .i64 x.t) ∧ w.cell? ⟨b, o + i * 9 + 3, none⟩ = some (.int .i64 x.i) ∧
    w.cell? ⟨b, o + i * 9 + 4, none⟩ = some (.int .i64 x.l) ∧ w.cell? ⟨b, o + i * 9 + 5, none⟩ = some (.int .i64 x.p) ∧ w.cell? ⟨b, o + i * 9 + 6, none⟩ = some (.int .i64 x.s) ∧ w.cell? ⟨b, o + i * 9 + 7, none⟩ = some (.bool x.fl) ∧ w.cell? ⟨b, o + i * 9 + 8, none⟩ = some d) ∧
    (∀ j, j < 9 → w.frozen? ⟨b, o + i * 9 + j, none⟩ = false) := by
  have hl : R.length = n := by have := congrArg List.length h.eq; simp at this; rw [this, h.len]
  obtain ⟨⟨x, d⟩, hR'⟩ : ∃ r, R[i]? = some r := ⟨R[i]'(by omega), List.getElem?_eq_getElem (by omega)⟩
  rcases h.row.row with h0 | ⟨b, o, rfl, hm, hb, hc, hf⟩
  · have := h.row.le; omega
  · refine ⟨x, d, b, o, ?_, hR', h.dat (x, d) (List.mem_of_getElem? hR'), rfl, hm, hb, pk_at hc hR', fun j hj => ?_⟩
    · rw [← h.eq, List.getElem?_map, hR']; rfl
    · rw [Nat.add_assoc]
      have h1 := h.row.le
      have : (i + 1) * 9 ≤ cap * 9 := Nat.mul_le_mul_right _ (by omega)
      exact (hf (i * 9 + j) (by omega)).2
end Go.Proofs.Ytjdbjmfkheffdaa
end
section
namespace Go.Proofs.Ytjdbjmfkheffdaa
open Go.RowKit
set_option linter.unusedVariables false

/-- A queue at block g: its room, the packets L. It may write the blocks of M; its packets' words lie in those of D. -/
structure QuI (w : World) (g : Nat) (M D : Nat → Prop) (room : Int) (L : List Pk) (R : List (Pk × Value)) (a : Option Addr) (cap : Nat) : Prop where
  c0 : w.cell? ⟨g, 0, none⟩ = some (.int .i64 room)
  c1 : w.cell? ⟨g, 1, none⟩ = some (.slice a L.length cap)
  fz : ∀ o, w.frozen? ⟨g, o, none⟩ = false
  lt : g < w.heap.size
  mg : M g
  eq : R.map Prod.fst = L
  row : Rw w (fun k => M k ∧ k ≠ g) a L.length cap 9 (pflat R)
  dat : ∀ r ∈ R, Dat w D r.1 r.2
  old : ∀ k, M k ∨ D k → k < w.heap.size
  dj : ∀ k, M k → ¬ D k
def Qu (w : World) (g : Nat) (M D : Nat → Prop) (room : Int) (L : List Pk) : Prop := ∃ R a cap, QuI w g M D room L R a cap
theorem QuI.keep {w w' : World} {g : Nat} {M D F : Nat → Prop} {room : Int} {L : List Pk} {R : List (Pk × Value)} {a : Option Addr} {cap : Nat} (h : QuI w g M D room L R a cap) (hk : Keep F w w') (hF : ∀ k, M k ∨ D k → ¬ F k) : QuI w' g M D room L R a cap :=
  ⟨by rw [hk.cell _ h.lt (hF g (.inl h.mg))]; exact h.c0, by rw [hk.cell _ h.lt (hF g (.inl h.mg))]; exact h.c1, fun o => by rw [hk.frozen _ h.lt (hF g (.inl h.mg))]; exact h.fz o, Nat.lt_of_lt_of_le h.lt hk.size, h.mg, h.eq,
    h.row.keep hk (fun k hm => hF k (.inl hm.1)), fun r hr => (h.dat r hr).keep hk (fun k hd => hF k (.inr hd)), fun k hm => Nat.lt_of_lt_of_le (h.old k hm) hk.size, h.dj⟩
theorem Qu.keep {w w' : World} {g : Nat} {M D F : Nat → Prop} {room : Int} {L : List Pk} (h : Qu w g M D room L) (hk : Keep F w w') (hF : ∀ k, M k ∨ D k → ¬ F k) : Qu w' g M D room L := by
  obtain ⟨R, a, cap, h⟩ := h
  exact ⟨R, a, cap, h.keep hk hF⟩
theorem Qu.below {w w' : World} {g : Nat} {M D : Nat → Prop} {room : Int} {L : List Pk} (h : Qu w g M D room L) (hb : Below w.heap.size w w') : Qu w' g M D room L := h.keep (F := fun _ => False) (Keep.of_below hb) (fun _ _ h => h)
theorem Qu.old {w : World} {g : Nat} {M D : Nat → Prop} {room : Int} {L : List Pk} (h : Qu w g M D room L) : ∀ k, M k ∨ D k → k < w.heap.size := by
  obtain ⟨R, a, cap, h⟩ := h
  exact h.old

theorem QuI.prow {w : World} {g : Nat} {M D : Nat → Prop} {room : Int} {L : List Pk} {R : List (Pk × Value)} {a : Option Addr} {cap : Nat} (h : QuI w g M D room L R a cap) : PRow w (fun k => M k ∧ k ≠ g) D L R a L.length cap :=
  ⟨h.eq, rfl, h.row, h.dat, fun k hm => h.old k (.inl hm.1), fun k hm => h.dj k hm.1⟩
theorem map_eraseIdx' {α β : Type} (f : α → β) : ∀ (l : List α) (k : Nat), (l.eraseIdx k).map f = (l.map f).eraseIdx k
  | [], _ => rfl
  | _ :: _, 0 => rfl
  | a :: l, k + 1 => by simp only [List.eraseIdx_cons_succ, List.map_cons, map_eraseIdx' f l k]
theorem take_snoc {α : Type} {l : List α} {k : Nat} {x : α} (h : l[k]? = some x) : l.take (k + 1) = l.take k ++ [x] := by
  rw [List.take_add_one, h]; rfl
/-- A new row of the packets L, in memory from base on. -/
def NewRow (w : World) (base : Nat) (L : List Pk) (n : Nat) (v : Value) : Prop := ∃ M D R a cap, v = .slice a n cap ∧ PRow w M D L R a n cap ∧ (∀ k, M k ∨ D k → base ≤ k ∧ k < w.heap.size) ∧ ∀ r ∈ R, Soft w r.1 r.2
theorem newrow_made {w : World} {base n : Nat} {a : Option Addr} {cap : Nat} (h : w.ownsRow base 26 9 (.slice a n cap) n []) (hn : n = 0) : NewRow w base [] 0 (.slice a 0 cap) := by
  subst hn
  obtain ⟨a', cap', e, hr⟩ := rw_own h
  simp at e
  obtain ⟨rfl, rfl⟩ := e
  exact ⟨fun k => base ≤ k ∧ k < w.heap.size, fun _ => False, [], a, cap, rfl, ⟨rfl, rfl, hr.imp (fun k hk h => ⟨h, hk⟩), fun r hr => (by cases hr), fun k h => h.2, fun k _ h => h⟩, fun k h => h.elim id (fun h => h.elim), fun r hr => (by cases hr)⟩
end Go.Proofs.Ytjdbjmfkheffdaa
end
