/- The program's home (PH): its struct, its directory and turns, on plain data. Conditions: as each theorem states them. -/
import Derived.Test.YtgeiagndpfdnlaaHo1
import Derived.Test.YtgeiagndpfdnlaaPktKinds
import Derived.Test.YtgeiagndpfdnlaaPlanWalks
import Derived.Test.YtgeiagndpfdnlaaPktBox
import Derived.Test.YtgeiagndpfdnlaaMdWk
namespace Go.Proofs.Ytgeiagndpfdnlaa
open Go.RowKit Go.Maps
set_option linter.unusedVariables false
set_option maxRecDepth 20000

structure PH (w wx : World) (g g1 g2 : Nat) (X : Nat → Prop) (N : Nat) (K node : Int) (L : List Hr) (n : Nat) (o : List (Int × Int)) (q : List Wr) : Prop where
  hp : HP w wx g1 g2 (fun j => X j ∨ j = g) N K L n o q
  c0 : wx.cell? ⟨g, 0, none⟩ = some (.pointer (some ⟨g1, 0, none⟩))
  c1 : wx.cell? ⟨g, 1, none⟩ = some (.pointer (some ⟨g2, 0, none⟩))
  c2 : wx.cell? ⟨g, 2, none⟩ = some (.int .i64 node)
  c3 : wx.cell? ⟨g, 3, none⟩ = some (.int .i64 (N : Int))
  lt : g < wx.heap.size
  nx : NX w X g
  kb : K ≤ 1000
section
variable {w wx wy : World} {g g1 g2 n N : Nat} {X Y F : Nat → Prop} {K node : Int} {L L' : List Hr} {o o' : List (Int × Int)} {q q' : List Wr}
theorem PH.step (h : PH w wx g g1 g2 X N K node L n o q) (hk : Keep F wx wy) (hF : ∀ j, F j → w.heap.size ≤ j ∧ (X j ∨ wx.heap.size ≤ j)) (hY : ∀ j, Y j → (X j ∨ wx.heap.size ≤ j) ∧ j < wy.heap.size) : PH w wy g g1 g2 Y N K node L n o q := by
  have hf : ¬ F g := fun hf => (hF g hf).2.elim h.nx.2 (fun e => by have := h.lt; omega)
  have ec := fun i => hk.cell (b := g) i h.lt hf
  refine ⟨h.hp.step hk (fun j hj => ⟨(hF j hj).1, (hF j hj).2.imp .inl id⟩) (fun j hj => ?_), (ec _).trans h.c0, (ec _).trans h.c1, (ec _).trans h.c2, (ec _).trans h.c3, Nat.lt_of_lt_of_le h.lt hk.size, ⟨h.nx.1, fun hy => (hY g hy).1.elim h.nx.2 (fun e => by have := h.lt; omega)⟩, h.kb⟩
  rcases hj with hj | rfl
  · exact ⟨(hY j hj).1.imp .inl id, (hY j hj).2⟩
  · exact ⟨.inl (.inr rfl), Nat.lt_of_lt_of_le h.lt hk.size⟩
theorem PH.below (h : PH w wx g g1 g2 X N K node L n o q) (hb : Below wx.heap.size wx wy) : PH w wy g g1 g2 X N K node L n o q :=
  h.step (F := fun _ => False) (Keep.of_below hb) (fun _ h => h.elim) (fun j hj => ⟨.inl hj, Nat.lt_of_lt_of_le (h.hp.xl j (.inl hj)) hb.size⟩)
theorem PH.bel (h : PH w wx g g1 g2 X N K node L n o q) : Below w.heap.size w wx := h.hp.bel
theorem PH.xl (h : PH w wx g g1 g2 X N K node L n o q) : ∀ j, X j → j < wx.heap.size := fun j hj => h.hp.xl j (.inl hj)
/-- After a call on its directory, or its turns. -/
theorem PH.call (h : PH w wx g g1 g2 X N K node L n o q) {n' : Nat} (hk : Keep (NX w (fun j => X j ∨ j = g)) wx wy) (p : HP w wy g1 g2 (fun j => X j ∨ j = g) N K L' n' o' q') : Keep (NX w X) wx wy ∧ PH w wy g g1 g2 X N K node L' n' o' q' := by
  have ec := fun i => hk.cell (b := g) i h.lt (fun hf => hf.2 (.inr rfl))
  exact ⟨hk.mono (fun j _ hj => ⟨hj.1, fun hx => hj.2 (.inl hx)⟩), p, (ec _).trans h.c0, (ec _).trans h.c1, (ec _).trans h.c2, (ec _).trans h.c3, Nat.lt_of_lt_of_le h.lt hk.size, h.nx, h.kb⟩
theorem PH.setN (h : PH w wx g g1 g2 X N K node L n o q) {m : Nat} (hm : n ≤ m) : PH w wx g g1 g2 X N K node L m o q := by
  obtain ⟨⟨⟨B1, B2, m1, t, h1⟩, ok⟩, c0, c1, c2, c3, lt, nx, kb⟩ := h
  exact ⟨⟨⟨B1, B2, m1, t.more hm, h1⟩, ok⟩, c0, c1, c2, c3, lt, nx, kb⟩
theorem PH.rlen (h : PH w wx g g1 g2 X N K node L n o q) (l : Int) : (rowL L l).z.length ≤ 1000 := by
  obtain ⟨⟨B1, B2, m1, t, h1⟩, ok⟩ := h.hp
  have kb := h.kb
  cases hh : hasH L l with
  | true => have := m1.zl _ (hasH_mem hh).1; omega
  | false =>
    have hr : rowL L l = zeroHr := by
      unfold hasH at hh
      unfold rowL
      cases hg : getK hOf l L with
      | none => rfl
      | some e => rw [hg] at hh; cases hh
    rw [hr]
    show 0 ≤ 1000
    omega
end
theorem chk_true {N L K S Y O I nv : Nat} (h : CfgB N L K S Y O I) (hl : nv ≤ L * K) : chk N L K S Y O I nv = true := by
  obtain ⟨N0, N1, L0, L1, K0, K1, S0, S1, Y0, Y1, O0, O1, I0, I1⟩ := h
  have e : ((L : Int) * (K : Int)) = ((L * K : Nat) : Int) := by simp
  unfold chk inB
  rw [e]
  simp only [Bool.and_eq_true, decide_eq_true_eq]
  omega
/-- What is granted. -/
def grantR (node who id l : Int) (L : List Hr) : Pk := ⟨7, node, who, id, l, (rowL L l).h, (rowL L l).s, false, (rowL L l).z⟩
end Go.Proofs.Ytgeiagndpfdnlaa
