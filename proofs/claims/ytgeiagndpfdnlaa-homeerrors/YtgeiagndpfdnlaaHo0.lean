/- A directory and turns beside each other (HO), as a home has them, and the test's own memory X: no block of the one is one of the other. Conditions: as each theorem states them. -/
import Derived.Test.YtgeiagndpfdnlaaMdP0
import Derived.Test.YtgeiagndpfdnlaaTuP0
namespace Go.Proofs.Ytgeiagndpfdnlaa
open Go.RowKit Go.Maps
set_option linter.unusedVariables false
set_option maxRecDepth 20000

def HO (w wx : World) (g1 g2 : Nat) (X : Nat → Prop) (N K : Int) (L : List Hr) (n : Nat) (own : Int → Int) (wt : Int → List (Int × Int)) : Prop :=
  ∃ B1 B2 : Nat → Prop, MO w wx g1 (fun j => j < wx.heap.size ∧ ¬ B1 j) N K L ∧ TO w wx g2 (fun j => j < wx.heap.size ∧ ¬ B2 j) n own wt ∧ (∀ j, B1 j → ¬ B2 j) ∧ (∀ j, B1 j ∨ B2 j → w.heap.size ≤ j ∧ j < wx.heap.size ∧ ¬ X j) ∧ ∀ j, X j → j < wx.heap.size
section
variable {w wx wy : World} {g1 g2 n : Nat} {X Y F : Nat → Prop} {N K : Int} {L L' : List Hr} {own own' : Int → Int} {wt wt' : Int → List (Int × Int)}
/-- The test writes its own, or has more. -/
theorem HO.step (h : HO w wx g1 g2 X N K L n own wt) (hk : Keep F wx wy) (hF : ∀ j, F j → w.heap.size ≤ j ∧ (X j ∨ wx.heap.size ≤ j)) (hY : ∀ j, Y j → (X j ∨ wx.heap.size ≤ j) ∧ j < wy.heap.size) : HO w wy g1 g2 Y N K L n own wt := by
  obtain ⟨B1, B2, m, t, h1, h2, h3⟩ := h
  have hs := hk.size
  have f : ∀ B : Nat → Prop, (∀ j, B j → w.heap.size ≤ j ∧ j < wx.heap.size ∧ ¬ X j) → ∀ j, F j → w.heap.size ≤ j ∧ ((j < wx.heap.size ∧ ¬ B j) ∨ wx.heap.size ≤ j) := fun B hB j hj => by
    obtain ⟨a, b⟩ := hF j hj
    exact ⟨a, b.imp (fun hx => ⟨h3 j hx, fun hb => (hB j hb).2.2 hx⟩) id⟩
  have y : ∀ B : Nat → Prop, ∀ j, (j < wy.heap.size ∧ ¬ B j) → ((j < wx.heap.size ∧ ¬ B j) ∨ wx.heap.size ≤ j) ∧ j < wy.heap.size := fun B j hj => by
    refine ⟨?_, hj.1⟩
    by_cases hlt : j < wx.heap.size
    · exact .inl ⟨hlt, hj.2⟩
    · exact .inr (by omega)
  refine ⟨B1, B2, m.step hk (f B1 (fun j hj => h2 j (.inl hj))) (y B1), t.wrgrow hk (f B2 (fun j hj => h2 j (.inr hj))) (y B2), h1, fun j hj => ?_, fun j hj => (hY j hj).2⟩
  obtain ⟨a, b, c⟩ := h2 j hj
  exact ⟨a, by omega, fun hy => (hY j hy).1.elim c (fun e => by omega)⟩
theorem HO.below (h : HO w wx g1 g2 X N K L n own wt) (hb : Below wx.heap.size wx wy) : HO w wy g1 g2 X N K L n own wt := by
  have hX : ∀ j, X j → j < wx.heap.size := by obtain ⟨B1, B2, m, t, h1, h2, h3⟩ := h; exact h3
  exact h.step (F := fun _ => False) (Keep.of_below hb) (fun _ h => h.elim) (fun j hj => ⟨.inl hj, Nat.lt_of_lt_of_le (hX j hj) hb.size⟩)
/-- After a call on the directory. -/
theorem ho_dir {B1 B2 : Nat → Prop} (t : TO w wx g2 (fun j => j < wx.heap.size ∧ ¬ B2 j) n own wt) (h1 : ∀ j, B1 j → ¬ B2 j) (h2 : ∀ j, B1 j ∨ B2 j → w.heap.size ≤ j ∧ j < wx.heap.size ∧ ¬ X j) (h3 : ∀ j, X j → j < wx.heap.size)
    (hk : Keep (NX w (fun j => j < wx.heap.size ∧ ¬ B1 j)) wx wy) (m : MO w wy g1 (fun j => j < wx.heap.size ∧ ¬ B1 j) N K L') : Keep (NX w X) wx wy ∧ HO w wy g1 g2 X N K L' n own wt := by
  have hs := hk.size
  have hw := t.bel.size
  have hB : ∀ j, ¬ (j < wx.heap.size ∧ ¬ B1 j) → B1 j ∨ wx.heap.size ≤ j := fun j hj => by
    by_cases hb : B1 j
    · exact .inl hb
    · exact .inr (Nat.le_of_not_lt (fun hlt => hj ⟨hlt, hb⟩))
  refine ⟨hk.mono (fun j hj hn => ⟨hn.1, fun hx => ?_⟩), fun j => B1 j ∨ (wx.heap.size ≤ j ∧ j < wy.heap.size), B2, m.grow (Below.refl _ _) (fun j hj => ⟨.inl ?_, hj.1⟩), t.wrgrow hk (fun j hj => ⟨hj.1, ?_⟩) (fun j hj => ⟨?_, hj.1⟩), fun j hj hb => ?_, fun j hj => ?_, fun j hj => Nat.lt_of_lt_of_le (h3 j hj) hs⟩
  · rcases hB j hn.2 with hb | hge
    · exact (h2 j (.inl hb)).2.2 hx
    · omega
  · by_cases hlt : j < wx.heap.size
    · exact ⟨hlt, fun hb => hj.2 (.inl hb)⟩
    · exact absurd (.inr ⟨by omega, hj.1⟩) hj.2
  · rcases hB j hj.2 with hb | hge
    · exact .inl ⟨(h2 j (.inl hb)).2.1, h1 j hb⟩
    · exact .inr hge
  · by_cases hlt : j < wx.heap.size
    · exact .inl ⟨hlt, hj.2⟩
    · exact .inr (by omega)
  · rcases hj with hj | hj
    · exact h1 j hj hb
    · have := (h2 j (.inr hb)).2.1
      omega
  · rcases hj with (hj | hj) | hj
    · obtain ⟨a, b, c⟩ := h2 j (.inl hj)
      exact ⟨a, by omega, c⟩
    · exact ⟨by omega, hj.2, fun hx => by have := h3 j hx; omega⟩
    · obtain ⟨a, b, c⟩ := h2 j (.inr hj)
      exact ⟨a, by omega, c⟩
/-- After a call on the turns. -/
theorem ho_turn {B1 B2 : Nat → Prop} {n' : Nat} (m : MO w wx g1 (fun j => j < wx.heap.size ∧ ¬ B1 j) N K L) (h1 : ∀ j, B1 j → ¬ B2 j) (h2 : ∀ j, B1 j ∨ B2 j → w.heap.size ≤ j ∧ j < wx.heap.size ∧ ¬ X j) (h3 : ∀ j, X j → j < wx.heap.size)
    (hk : Keep (NX w (fun j => j < wx.heap.size ∧ ¬ B2 j)) wx wy) (t : TO w wy g2 (fun j => j < wx.heap.size ∧ ¬ B2 j) n' own' wt') : Keep (NX w X) wx wy ∧ HO w wy g1 g2 X N K L n' own' wt' := by
  have hs := hk.size
  have hw := m.bel.size
  have hB : ∀ j, ¬ (j < wx.heap.size ∧ ¬ B2 j) → B2 j ∨ wx.heap.size ≤ j := fun j hj => by
    by_cases hb : B2 j
    · exact .inl hb
    · exact .inr (Nat.le_of_not_lt (fun hlt => hj ⟨hlt, hb⟩))
  refine ⟨hk.mono (fun j hj hn => ⟨hn.1, fun hx => ?_⟩), B1, fun j => B2 j ∨ (wx.heap.size ≤ j ∧ j < wy.heap.size), m.step hk (fun j hj => ⟨hj.1, ?_⟩) (fun j hj => ⟨?_, hj.1⟩), t.grow (Below.refl _ _) (fun j hj => ⟨.inl ?_, hj.1⟩), fun j hb hj => ?_, fun j hj => ?_, fun j hj => Nat.lt_of_lt_of_le (h3 j hj) hs⟩
  · rcases hB j hn.2 with hb | hge
    · exact (h2 j (.inr hb)).2.2 hx
    · omega
  · rcases hB j hj.2 with hb | hge
    · exact .inl ⟨(h2 j (.inr hb)).2.1, fun hb1 => h1 j hb1 hb⟩
    · exact .inr hge
  · by_cases hlt : j < wx.heap.size
    · exact .inl ⟨hlt, hj.2⟩
    · exact .inr (by omega)
  · by_cases hlt : j < wx.heap.size
    · exact ⟨hlt, fun hb => hj.2 (.inl hb)⟩
    · exact absurd (.inr ⟨by omega, hj.1⟩) hj.2
  · rcases hj with hj | hj
    · exact h1 j hb hj
    · have := (h2 j (.inl hb)).2.1
      omega
  · rcases hj with hj | (hj | hj)
    · obtain ⟨a, b, c⟩ := h2 j (.inl hj)
      exact ⟨a, by omega, c⟩
    · obtain ⟨a, b, c⟩ := h2 j (.inr hj)
      exact ⟨a, by omega, c⟩
    · exact ⟨by omega, hj.2, fun hx => by have := h3 j hx; omega⟩
end
end Go.Proofs.Ytgeiagndpfdnlaa
