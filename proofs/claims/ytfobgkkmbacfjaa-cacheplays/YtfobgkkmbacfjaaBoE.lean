/- Both caches beside each other (BO): the program's, the document's, and what the test has of its own; what each call makes of one of them. Conditions: as each theorem states them. -/
import Derived.Test.YtfobgkkmbacfjaaBoSame
namespace Go.Proofs.Ytfobgkkmbacfjaa
open Go.RowKit Go.Maps CR
set_option linter.unusedVariables false
set_option maxRecDepth 20000

/-- X: the blocks that the program's cache may not write: the document's cache, and Z, the test's own. -/
structure BO (w wr : World) (g g2 : Nat) (X Z : Nat → Prop) (S W k k2 : Int) (L L2 : List En) : Prop where
  c : CO w wr g X S W k L
  d : ∃ M D, Ca wr g2 M D S W k2 L2 ∧ ∀ j, M j ∨ D j → X j ∧ w.heap.size ≤ j ∧ ¬ Z j
  z : ∀ j, Z j → X j
  d1 : Dc S W k L
  d2 : Dc S W k2 L2
/-- What a call on the document's cache may write. -/
@[reducible] def XZ (w : World) (X Z : Nat → Prop) (j : Nat) : Prop := X j ∧ w.heap.size ≤ j ∧ ¬ Z j
section
variable {w wr wy : World} {g g2 : Nat} {X Y Z F : Nat → Prop} {S W k k2 : Int} {L L2 : List En}
theorem BO.below (h : BO w wr g g2 X Z S W k k2 L L2) (hb : Below wr.heap.size wr wy) : BO w wy g g2 X Z S W k k2 L L2 := by
  obtain ⟨M, D, c, hc⟩ := h.d
  exact ⟨h.c.below hb, ⟨M, D, c.below hb, hc⟩, h.z, h.d1, h.d2⟩
/-- The test has more (or less) of its own, all new. -/
theorem BO.grow (h : BO w wr g g2 X Z S W k k2 L L2) (hb : Below wr.heap.size wr wy) (hY : ∀ j, Y j → Z j ∨ wr.heap.size ≤ j ∧ j < wy.heap.size) : BO w wy g g2 (fun j => X j ∨ Y j) Y S W k k2 L L2 := by
  obtain ⟨M, D, c, hc⟩ := h.d
  refine ⟨h.c.grow hb (fun j hj => ?_), ⟨M, D, c.below hb, fun j hj => ?_⟩, fun j hj => .inr hj, h.d1, h.d2⟩
  · rcases hj with hj | hj
    · exact ⟨.inl hj, Nat.lt_of_lt_of_le (h.c.xl j hj) hb.size⟩
    · rcases hY j hj with hz | hn
      · exact ⟨.inl (h.z j hz), Nat.lt_of_lt_of_le (h.c.xl j (h.z j hz)) hb.size⟩
      · exact ⟨.inr hn.1, hn.2⟩
  · obtain ⟨h1, h2, h3⟩ := hc j hj
    refine ⟨.inl h1, h2, fun hy => ?_⟩
    rcases hY j hy with hz | hn
    · exact h3 hz
    · have := c.old j hj; omega
/-- The test writes what is its own. -/
theorem BO.write (h : BO w wr g g2 X Z S W k k2 L L2) (hk : Keep F wr wy) (hF : ∀ j, F j → w.heap.size ≤ j ∧ (Z j ∨ wr.heap.size ≤ j)) : BO w wy g g2 X Z S W k k2 L L2 := by
  obtain ⟨M, D, c, hc⟩ := h.d
  refine ⟨h.c.write hk (fun j hj => ⟨(hF j hj).1, (hF j hj).2.imp (h.z j) id⟩), ⟨M, D, c.keep hk (fun j hj hf => ?_), hc⟩, h.z, h.d1, h.d2⟩
  rcases (hF j hf).2 with hz | hn
  · exact (hc j hj).2.2 hz
  · have := c.old j hj; omega
theorem BO.bel (h : BO w wr g g2 X Z S W k k2 L L2) : Below w.heap.size w wr := h.c.bel
theorem bo_new {sets ways : Int} {g : Nat} (hb : CO w wr g X S W 0 []) (hX : ∀ j, ¬ X j) (hS : 1 ≤ S) (hW : 1 ≤ W) (hs : max sets 1 = S) (hw : max ways 1 = W) :
    Calls Try.prog 10 #[.int .i64 sets, .int .i64 ways] wr fun e w' => ∃ g2 X', e = .returned (.pointer (some ⟨g2, 0, none⟩)) ∧ BO w w' g g2 X' (fun _ => False) S W 0 0 [] [] := by
  refine (newCache_any sets ways wr).mono ?_
  rintro e w' ⟨rfl, b, c⟩
  rw [hs, hw] at c
  refine ⟨_, fun j => j = wr.heap.size, rfl, hb.grow b (fun j hj => ?_), ⟨_, _, c, fun j hj => ?_⟩, fun j h => h.elim, dc_new _ _ hS hW, dc_new _ _ hS hW⟩
  · have := c.old j (.inl hj); exact ⟨.inr (by omega), this⟩
  · have h1 := hb.bel.size
    rcases hj with hj | hj
    · exact ⟨hj, by omega, id⟩
    · exact hj.elim
/-- After a call on the program's cache. -/
theorem bo_prog {k' : Int} {L' : List En} (h : BO w wr g g2 X Z S W k k2 L L2) (hk : Keep (NX w X) wr wy) (c : CO w wy g X S W k' L') (d : Dc S W k' L') : BO w wy g g2 X Z S W k' k2 L' L2 := by
  obtain ⟨M, D, c2, hc⟩ := h.d
  exact ⟨c, ⟨M, D, c2.keep hk (fun j hj hf => hf.2 (hc j hj).1), hc⟩, h.z, d, h.d2⟩
/-- After a call on the document's. -/
theorem bo_doc {k' : Int} {L' : List En} {M M' D D' : Nat → Prop} (h : BO w wr g g2 X Z S W k k2 L L2) (hc : ∀ j, M j ∨ D j → X j ∧ w.heap.size ≤ j ∧ ¬ Z j) (hk : Keep M wr wy) (hM : ∀ j, M' j → M j ∨ wr.heap.size ≤ j) (hD : ∀ j, D' j → D j ∨ wr.heap.size ≤ j) (c : Ca wy g2 M' D' S W k' L') (d : Dc S W k' L') :
    Keep (XZ w X Z) wr wy ∧ ∃ X', (∀ j, X j → X' j) ∧ (∀ j, X' j → X j ∨ wr.heap.size ≤ j) ∧ BO w wy g g2 X' Z S W k k' L L' := by
  refine ⟨hk.mono (fun j _ hj => hc j (.inl hj)), fun j => X j ∨ M' j ∨ D' j, fun j hj => .inl hj, ?_, ?_⟩
  · have hn : ∀ j, M' j ∨ D' j → X j ∨ wr.heap.size ≤ j := fun j hj => by
      rcases hj with hj | hj
      · exact (hM j hj).imp (fun h => (hc j (.inl h)).1) id
      · exact (hD j hj).imp (fun h => (hc j (.inr h)).1) id
    exact fun j hj => hj.elim .inl (hn j)
  · have hn : ∀ j, M' j ∨ D' j → X j ∧ w.heap.size ≤ j ∧ ¬ Z j ∨ wr.heap.size ≤ j := fun j hj => by
      rcases hj with hj | hj
      · exact (hM j hj).imp (fun h => hc j (.inl h)) id
      · exact (hD j hj).imp (fun h => hc j (.inr h)) id
    refine ⟨h.c.step hk (fun j hj => ⟨(hc j (.inl hj)).2.1, .inl (hc j (.inl hj)).1⟩) (fun j hj => ?_), ⟨M', D', c, fun j hj => ⟨.inr hj, ?_⟩⟩, fun j hj => .inl (h.z j hj), h.d1, d⟩
    · rcases hj with hj | hj
      · exact ⟨.inl hj, Nat.lt_of_lt_of_le (h.c.xl j hj) hk.size⟩
      · exact ⟨(hn j hj).imp (fun h => h.1) id, c.old j hj⟩
    · rcases hn j hj with h1 | h1
      · exact h1.2
      · exact ⟨Nat.le_trans h.c.bel.size h1, fun hz => by have := h.c.xl j (h.z j hz); omega⟩
theorem bo_put1 (h : BO w wr g g2 X Z S W k k2 L L2) (hk : k < 1000000) (x : En) (a : Option Addr) (n cap : Nat) (hs : Sl wr a n cap x.z) (ha : ∀ y : Addr, a = some y → Z y.block ∨ y.block < w.heap.size) (hb : n ≤ 17592186044416) (hx : In64 x.n) :
    Calls Try.prog 13 #[.pointer (some ⟨g, 0, none⟩), x.val (.slice a n cap)] wr fun e w' => e = .returned (.int .i64 (putR S W k L x).1) ∧ Keep (NX w X) wr w' ∧ BO w w' g g2 X Z S W (putR S W k L x).2.1 k2 (putR S W k L x).2.2 L2 := by
  refine (co_put h.c hk x a n cap hs (fun y hy => (ha y hy).imp (h.z _) id) hb hx).mono ?_
  rintro e w' ⟨rfl, hK, c⟩
  exact ⟨rfl, hK, bo_prog h hK c (h.d1.put x)⟩
theorem bo_put2 (h : BO w wr g g2 X Z S W k k2 L L2) (hk : k2 < 1000000) (x : En) (a : Option Addr) (n cap : Nat) (hs : Sl wr a n cap x.z) (hn : n ≤ 1000000) :
    Calls Try.prog 14 #[.pointer (some ⟨g2, 0, none⟩), x.val (.slice a n cap)] wr fun e w' => e = .returned (.int .i64 (putR S W k2 L2 x).1) ∧ Keep (XZ w X Z) wr w' ∧ ∃ X', (∀ j, X j → X' j) ∧ (∀ j, X' j → X j ∨ wr.heap.size ≤ j) ∧ BO w w' g g2 X' Z S W k (putR S W k2 L2 x).2.1 L (putR S W k2 L2 x).2.2 := by
  obtain ⟨M, D, c, hc⟩ := h.d
  refine (doc_put c h.d2 hk x a n cap hs hn).mono ?_
  rintro e w' ⟨rfl, ⟨M', D', hM, hD, c'⟩, hK⟩
  exact ⟨rfl, bo_doc h hc hK hM hD c' (h.d2.put x)⟩
theorem bo_touch1 (h : BO w wr g g2 X Z S W k k2 L L2) (hk : k < 1000000) {n : Int} (hn : In64 n) :
    Calls Try.prog 19 #[.pointer (some ⟨g, 0, none⟩), .int .i64 n] wr fun e w' => e = .returned (.bool (hasL L n)) ∧ Keep (NX w X) wr w' ∧ BO w w' g g2 X Z S W (touchR k L n).1 k2 (touchR k L n).2 L2 := by
  refine (co_touch h.c hk hn).mono ?_
  rintro e w' ⟨rfl, hK, c⟩
  exact ⟨rfl, hK, bo_prog h hK c (h.d1.touch n)⟩
theorem bo_touch2 (h : BO w wr g g2 X Z S W k k2 L L2) (hk : k2 < 1000000) (n : Int) :
    Calls Try.prog 20 #[.pointer (some ⟨g2, 0, none⟩), .int .i64 n] wr fun e w' => e = .returned (.bool (hasL L2 n)) ∧ Keep (XZ w X Z) wr w' ∧ ∃ X', (∀ j, X j → X' j) ∧ (∀ j, X' j → X j ∨ wr.heap.size ≤ j) ∧ BO w w' g g2 X' Z S W k (touchR k2 L2 n).1 L (touchR k2 L2 n).2 := by
  obtain ⟨M, D, c, hc⟩ := h.d
  refine (doc_touch c h.d2 hk n).mono ?_
  rintro e w' ⟨rfl, c', hK⟩
  exact ⟨rfl, bo_doc h hc hK (fun j hj => .inl hj) (fun j hj => .inl hj) c' (h.d2.touch n)⟩
theorem touch_le {k m : Int} (h : k ≤ m) (L : List En) (n : Int) : (touchR k L n).1 ≤ m + 1 := by
  unfold touchR
  split
  · show k + 1 ≤ m + 1; omega
  · show k ≤ m + 1; omega
theorem put_le {S W k m : Int} (h : k ≤ m) (L : List En) (x : En) : (putR S W k L x).2.1 ≤ m + 1 := by
  unfold putR
  split
  · show k ≤ m + 1; omega
  split
  · show k ≤ m + 1; omega
  split
  · show k ≤ m + 1; omega
  · show k + 1 ≤ m + 1; omega
theorem bo_drop1 (h : BO w wr g g2 X Z S W k k2 L L2) (hk : k < 1000000) {n : Int} (hn : In64 n) (hh : hasL L n = true) :
    Calls Try.prog 16 #[.pointer (some ⟨g, 0, none⟩), .int .i64 n] wr fun e w' => ∃ d, e = .returned (.tuple #[(entL L n).val d, .bool true]) ∧ Keep (NX w X) wr w' ∧ DatZ w' (NX w X) (entL L n).z d ∧ BO w w' g g2 X Z S W k k2 (delK nOf n L) L2 := by
  refine (co_drop h.c hk hn hh).mono ?_
  rintro e w' ⟨d, rfl, hK, hd, c⟩
  exact ⟨d, rfl, hK, hd, bo_prog h hK c (h.d1.del n)⟩
theorem bo_drop2 (h : BO w wr g g2 X Z S W k k2 L L2) (hk : k2 < 1000000) {n : Int} (hh : hasL L2 n = true) :
    Calls Try.prog 17 #[.pointer (some ⟨g2, 0, none⟩), .int .i64 n] wr fun e w' => ∃ d, e = .returned (.tuple #[(entL L2 n).val d, .bool true]) ∧ Keep (XZ w X Z) wr w' ∧ DatZ w' (fun j => j < w'.heap.size) (entL L2 n).z d ∧ ∃ X', (∀ j, X j → X' j) ∧ (∀ j, X' j → X j ∨ wr.heap.size ≤ j) ∧ BO w w' g g2 X' Z S W k k2 L (delK nOf n L2) := by
  obtain ⟨M, D, c, hc⟩ := h.d
  refine (doc_drop c h.d2 hk hh).mono ?_
  rintro e w' ⟨d, rfl, hd, ⟨M', hM, c'⟩, hK⟩
  exact ⟨d, rfl, (bo_doc h hc hK hM (fun j hj => .inl hj) c' (h.d2.del n)).1, hd.imp (fun j hj _ => hj), (bo_doc h hc hK hM (fun j hj => .inl hj) c' (h.d2.del n)).2⟩
theorem bo_drop1_no (h : BO w wr g g2 X Z S W k k2 L L2) {n : Int} (hn : In64 n) (hh : hasL L n = false) :
    Calls Try.prog 16 #[.pointer (some ⟨g, 0, none⟩), .int .i64 n] wr fun e w' => e = .returned (.tuple #[zeroEn.val (.slice none 0 0), .bool false]) ∧ Below wr.heap.size wr w' := co_drop_no h.c hn hh
theorem bo_drop2_no (h : BO w wr g g2 X Z S W k k2 L L2) {n : Int} (hh : hasL L2 n = false) :
    Calls Try.prog 17 #[.pointer (some ⟨g2, 0, none⟩), .int .i64 n] wr fun e w' => e = .returned (.tuple #[zeroEn.val (.slice none 0 0), .bool false]) ∧ Below wr.heap.size wr w' := by
  obtain ⟨M, D, c, hc⟩ := h.d
  exact doc_drop_no c hh
theorem bo_full2 (h : BO w wr g g2 X Z S W k k2 L L2) (n : Int) {f : Bool} (hf : fullL S W L2 n = f) :
    Calls Try.prog 26 #[.pointer (some ⟨g2, 0, none⟩), .int .i64 n] wr fun e w' => e = .returned (.bool f) ∧ Below wr.heap.size wr w' := by
  obtain ⟨M, D, c, hc⟩ := h.d
  exact hf ▸ doc_full c h.d2 n
theorem bo_victim2 (h : BO w wr g g2 X Z S W k k2 L L2) (n : Int) :
    Calls Try.prog 24 #[.pointer (some ⟨g2, 0, none⟩), .int .i64 n] wr fun e w' => e = .returned (.int .i64 (vicL S L2 n).1) ∧ Below wr.heap.size wr w' := by
  obtain ⟨M, D, c, hc⟩ := h.d
  exact doc_victim c h.d2 n
theorem bo_at2 (h : BO w wr g g2 X Z S W k k2 L L2) (n : Int) :
    Calls Try.prog 22 #[.pointer (some ⟨g2, 0, none⟩), .int .i64 n] wr fun e w' => ∃ p : Int, e = .returned (.int .i64 p) ∧ decide (0 ≤ p) = hasL L2 n ∧ wr = w' := by
  obtain ⟨M, D, c, hc⟩ := h.d
  refine (at_any c n).mono ?_
  rintro e w' ⟨rfl, rfl⟩
  refine ⟨_, rfl, ?_, rfl⟩
  rcases atL_has L2 n with ⟨a1, a2⟩ | ⟨i, a1, a3, a2, a4⟩
  · rw [a1, a2]; rfl
  · rw [a1, a2]; exact decide_eq_true (by omega)
theorem bo_same (h : BO w wr g g2 X Z S W k k2 L L) (hk : k < 1000000) :
    Calls Try.prog 27 #[.pointer (some ⟨g, 0, none⟩), .pointer (some ⟨g2, 0, none⟩)] wr fun e w' => e = .returned (.bool true) ∧ Below wr.heap.size wr w' := by
  obtain ⟨M, D, c, hc⟩ := h.d
  exact cSame_any h.c hk c
end
end Go.Proofs.Ytfobgkkmbacfjaa
