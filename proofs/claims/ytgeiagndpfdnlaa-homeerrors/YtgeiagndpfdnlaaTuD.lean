/- The document's turns in memory: two rows (line and who; line, who and number), cell by cell. Nothing of the program is named here. -/
import Derived.Test.YtgeiagndpfdnlaaTuMath
import Derived.Test.YtgeiagndpfdnlaaFlat
namespace Go.Proofs.Ytgeiagndpfdnlaa
open Go.RowKit
set_option linter.unusedVariables false

def dcells (p : Int × Int) : List Value := [.int .i64 p.1, .int .i64 p.2]
def wcells (x : Wr) : List Value := [.int .i64 x.l, .int .i64 x.w, .int .i64 x.d]
theorem dcells_len (p : Int × Int) : (dcells p).length = 2 := rfl
theorem wcells_len (x : Wr) : (wcells x).length = 3 := rfl
theorem dcells_one (R : List (Int × Int)) : ∀ u ∈ flat dcells R, u.oneCell' = true := flat_onecell (fun r _ u hu => by simp [dcells] at hu; rcases hu with rfl | rfl <;> rfl)
theorem wcells_one (R : List Wr) : ∀ u ∈ flat wcells R, u.oneCell' = true := flat_onecell (fun r _ u hu => by simp [wcells] at hu; rcases hu with rfl | rfl | rfl <;> rfl)
/-- An element of a row of structs, cell by cell. -/
theorem Rw.getF {α : Type} {c : α → List Value} {k : Nat} {w : World} {M : Nat → Prop} {a : Option Addr} {n cap : Nat} {R : List α} (h : Rw w M a n cap k (flat c R)) (hc : ∀ x, (c x).length = k) {i : Nat} {r : α} (hr : R[i]? = some r) (hi : i < n) :
    ∃ b o, a = some ⟨b, o, none⟩ ∧ M b ∧ b < w.heap.size ∧ ∀ j u, j < k → (c r)[j]? = some u → w.cell? ⟨b, o + i * k + j, none⟩ = some u := by
  rcases h.row with h0 | ⟨b, o, rfl, hm, hb, hcell, hf⟩
  · have := h.le; omega
  · exact ⟨b, o, rfl, hm, hb, fun j u hj hu => by rw [Nat.add_assoc]; exact hcell _ u (by rw [flat_get hc hr j hj]; exact hu)⟩
theorem Rw.lenF {α : Type} {c : α → List Value} {k : Nat} {w : World} {M : Nat → Prop} {a : Option Addr} {n cap : Nat} {R : List α} (h : Rw w M a n cap k (flat c R)) (hc : ∀ x, (c x).length = k) (hk : 0 < k) : R.length = n := by
  have h1 := h.len
  rw [flat_len hc] at h1
  exact Nat.eq_of_mul_eq_mul_right hk h1
/-- The document's turns at block g. -/
structure DT (w : World) (g t0 : Nat) (M N : Nat → Prop) (o : List (Int × Int)) (q : List Wr) (ao : Option Addr) (no co : Nat) (aq : Option Addr) (nq cq : Nat) : Prop where
  c0 : w.cell? ⟨g, t0, none⟩ = some (.slice ao no co)
  c1 : w.cell? ⟨g, t0 + 1, none⟩ = some (.slice aq nq cq)
  f0 : w.frozen? ⟨g, t0, none⟩ = false
  f1 : w.frozen? ⟨g, t0 + 1, none⟩ = false
  lt : g < w.heap.size
  ro : Rw w M ao no co 2 (flat dcells o)
  rq : Rw w N aq nq cq 3 (flat wcells q)
  no : ¬ M g ∧ ¬ N g
  ap : ∀ k, M k → ¬ N k
  old : ∀ k, M k ∨ N k → k < w.heap.size
  ok : OkT o
variable {w w' : World} {g t0 : Nat} {M N : Nat → Prop} {o : List (Int × Int)} {q : List Wr} {ao aq : Option Addr} {no co nq cq : Nat}
theorem DT.keep {F : Nat → Prop} (h : DT w g t0 M N o q ao no co aq nq cq) (hk : Keep F w w') (hg : ¬ F g) (hF : ∀ k, M k ∨ N k → ¬ F k) : DT w' g t0 M N o q ao no co aq nq cq :=
  ⟨by rw [hk.cell _ h.lt hg]; exact h.c0, by rw [hk.cell _ h.lt hg]; exact h.c1, by rw [hk.frozen _ h.lt hg]; exact h.f0, by rw [hk.frozen _ h.lt hg]; exact h.f1, Nat.lt_of_lt_of_le h.lt hk.size, h.ro.keep hk (fun k hm => hF k (.inl hm)), h.rq.keep hk (fun k hm => hF k (.inr hm)), h.no, h.ap, fun k hm => Nat.lt_of_lt_of_le (h.old k hm) hk.size, h.ok⟩
theorem DT.below (h : DT w g t0 M N o q ao no co aq nq cq) (hb : Below w.heap.size w w') : DT w' g t0 M N o q ao no co aq nq cq := h.keep (F := fun _ => False) (Keep.of_below hb) id (fun _ _ h => h)
/-- But for two cells of block g it is as it was. -/
def Rest (g t0 : Nat) (w w' : World) : Prop := ∀ j, j ≠ t0 → j ≠ t0 + 1 → w'.cell? ⟨g, j, none⟩ = w.cell? ⟨g, j, none⟩ ∧ w'.frozen? ⟨g, j, none⟩ = w.frozen? ⟨g, j, none⟩
theorem Rest.keep {F : Nat → Prop} (hk : Keep F w w') (hg : g < w.heap.size) (hF : ¬ F g) : Rest g t0 w w' := fun j _ _ => ⟨hk.cell j hg hF, hk.frozen j hg hF⟩
theorem Rest.below (hb : Below w.heap.size w w') (hg : g < w.heap.size) : Rest g t0 w w' := Rest.keep (F := fun _ => False) (Keep.of_below hb) hg id
theorem Rest.trans {w2 : World} (h : Rest g t0 w w') (h2 : Rest g t0 w' w2) : Rest g t0 w w2 := fun j h1 h3 => ⟨(h2 j h1 h3).1.trans (h j h1 h3).1, (h2 j h1 h3).2.trans (h j h1 h3).2⟩
theorem Rest.set {f : Nat} (hf : f = t0 ∨ f = t0 + 1) (v : Value) : Rest g t0 w (w.setCell ⟨g, f, none⟩ v) := fun j h1 h2 => ⟨World.cell?_setCell_other _ _ _ _ (by simp <;> omega), by rw [World.frozen?_setCell]⟩
theorem wait_take {q : List Wr} {i : Nat} {x : Wr} (h : q[i]? = some x) (l : Int) : (waitT (q.take (i + 1)) l).length = (waitT (q.take i) l).length + (if x.l = l then 1 else 0) := by
  have e : q.take (i + 1) = q.take i ++ [x] := by rw [List.take_add_one, h]; rfl
  rw [e, wait_snoc]
  by_cases e2 : x.l = l
  · rw [if_pos e2, if_pos e2.symm]; simp
  · rw [if_neg e2, if_neg (fun e3 => e2 e3.symm)]; simp
end Go.Proofs.Ytgeiagndpfdnlaa
