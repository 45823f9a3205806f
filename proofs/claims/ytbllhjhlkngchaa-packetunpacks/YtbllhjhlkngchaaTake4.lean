/- Regions that draw their order and end in a store into memory that was there: as Take, but of the world behind the last operation nothing is asked. Nothing of the program is named here. -/
import Derived.Test.YtbllhjhlkngchaaTake3
import Derived.ArgAppend
namespace Go.Proofs.Ytbllhjhlkngchaa
open Go.RowKit
set_option linter.unusedVariables false

section
variable {P : Program} {ops : Array Oper} {Q : Exit → Act → World → Prop} {w0 : World} {q : Nat}

/-- Whatever order is picked from here on; behind each operation but the last the world is above w0, and may grow. -/
def wpAnyV (P : Program) (ops : Array Oper) (Q : Exit → Act → World → Prop) (w0 : World) (q : Nat) : Nat → Array Bool → Act → World → Prop
  | 0, listed, a, w => Region.ready .any ops listed = [] ∧ Q .normal a w
  | fuel + 1, listed, a, w =>
    (Region.ready .any ops listed = [] → Q .normal a w) ∧
    ∀ i ∈ Region.ready .any ops listed, wpOp P ops Q i (fun a' w' => (i ≠ q → Below w0.heap.size w0 w') ∧ ∀ u : Up w', wpAnyV P ops Q w0 q fuel (listed.setIfInBounds i true) a' u.1) a w
theorem wpAny_of_v : ∀ (fuel : Nat) (listed : Array Bool) (a : Act) (w : World), wpAnyV P ops Q w0 q fuel listed a w → wpAny P .any ops Q fuel listed a w
  | 0, _, _, _, h => h
  | fuel + 1, _, _, _, h => ⟨h.1, fun i hi => wpOp_mono (fun a' w' h' => wpAny_of_v fuel _ a' w' (h'.2 (Up.self _))) (h.2 i hi)⟩
theorem wpAnyV_low {w1 : World} (hb : Below w0.heap.size w0 w1) : ∀ (fuel : Nat) (listed : Array Bool) (a : Act) (w : World), wpAnyV P ops Q w1 q fuel listed a w → wpAnyV P ops Q w0 q fuel listed a w
  | 0, _, _, _, h => h
  | fuel + 1, _, _, _, h => ⟨h.1, fun i hi => wpOp_mono (fun a' w' h' => ⟨fun hr => next hb (h'.1 hr), fun u => wpAnyV_low hb fuel _ a' u.1 (h'.2 u)⟩) (h.2 i hi)⟩
/-- Operation q waits for all others. -/
def waitsAll (ops : Array Oper) (q : Nat) : Bool := (List.range ops.size).all fun i => i == q || ((ops[q]?).map fun o => o.after.any fun e => Region.binds .any e && e.on == i).getD false
theorem waitsAll_spec (h : waitsAll ops q = true) {i : Nat} (hi : i < ops.size) (hne : i ≠ q) {oq : Oper} (hq : ops[q]? = some oq) : ∃ e ∈ oq.after, Region.binds .any e = true ∧ e.on = i := by
  unfold waitsAll at h
  have h1 := List.all_eq_true.1 h i (List.mem_range.2 hi)
  rw [hq] at h1
  simp at h1
  rcases h1 with h1 | ⟨k, hk, h2, h3⟩
  · exact absurd h1 hne
  · exact ⟨oq.after[k], Array.getElem_mem hk, h2, h3⟩
theorem wpAnyV_first (hwa : waitsAll ops q = true) {i : Nat} {oi : Oper} {v : Value} (hi : ops[i]? = some oi) (hsel : ∀ (j : Nat) (o : Oper) cs b, ops[j]? = some o → o.op ≠ .select cs b)
    (hQ : ∀ c a w, Q (.panic c) (a.put oi.dst v) w → Q (.panic c) a w) :
    ∀ (fuel : Nat) (listed : Array Bool) (a : Act) (W : Up w0),
      (∀ j oj, ops[j]? = some oj → j ≠ i → listed.getD j true = false → (∀ e ∈ oj.after, Region.binds .any e = true → e.on ≠ i) → oi.apart ops oj = true) →
      i ∈ Region.ready .any ops listed → Mild P ops w0 oi v a →
      (∀ u : Up W.1, wpAnyV P ops Q w0 q fuel (listed.setIfInBounds i true) (a.put oi.dst v) u.1) → wpAnyV P ops Q w0 q (fuel + 1) listed a W.1 := by
  intro fuel
  induction fuel with
  | zero =>
    intro listed a W _ hr hy H
    refine ⟨fun h => (by rw [h] at hr; cases hr), fun j hj => ?_⟩
    by_cases hji : j = i
    · subst hji; exact hy.wpOp hi W fun u => ⟨fun _ => (W.trans u).2, fun u' => H (u.trans u')⟩
    · have := ready_mono hj hji
      rw [(H (Up.self _)).1] at this
      cases this
  | succ fuel ih =>
    intro listed a W hfree hr hy H
    refine ⟨fun h => (by rw [h] at hr; cases hr), fun j hj => ?_⟩
    by_cases hji : j = i
    · subst hji; exact hy.wpOp hi W fun u => ⟨fun _ => (W.trans u).2, fun u' => H (u.trans u')⟩
    · have h1 := (H (Up.self _)).2 j (ready_mono hj hji)
      obtain ⟨hjun, oj, hoj, hall⟩ := mem_ready.1 hj
      have hnot : ∀ e ∈ oj.after, Region.binds .any e = true → e.on ≠ i := fun e he hb heq => by
        have g1 := hall e he hb
        have g0 := (mem_ready.1 hr).1
        rw [heq] at g1
        rcases Nat.lt_or_ge i listed.size with h' | h'
        · simp [h'] at g0 g1; rw [g0] at g1; cases g1
        · simp [Array.getElem?_eq_none h'] at g1
      have h2 := wpOp_mild hoj (hfree j oj hoj hji hjun hnot) (fun cs b => hsel i oi cs b hi) (fun cs b => hsel j oj cs b hoj) hQ hy h1
      have hfree' : ∀ k ok, ops[k]? = some ok → k ≠ i → (listed.setIfInBounds j true).getD k true = false →
          (∀ e ∈ ok.after, Region.binds .any e = true → e.on ≠ i) → oi.apart ops ok = true := fun k ok hk hki hun hno => by
        refine hfree k ok hk hki ?_ hno
        by_cases hjk : j = k
        · subst hjk; exact hjun
        · rw [getD_set_ne true hjk] at hun; exact hun
      have hri : i ∈ Region.ready .any ops (listed.setIfInBounds j true) := ready_mono hr (Ne.symm hji)
      have hjq : j ≠ q := by
        intro e
        subst e
        have hlt : i < ops.size := (Array.getElem?_eq_some_iff.1 hi).1
        obtain ⟨e, he, hb, hon⟩ := waitsAll_spec hwa hlt (Ne.symm hji) hoj
        exact hnot e he hb hon
      refine wpOp_mono (fun a' w' h3 => ?_) h2
      have hB := h3.2.1 hjq
      refine ⟨fun _ => hB, fun u => ?_⟩
      refine ih (listed.setIfInBounds j true) a' ⟨u.1, next hB u.2⟩ hfree' hri h3.1 fun u' => ?_
      rw [Array.setIfInBounds_comm _ _ hji]
      exact h3.2.2 (u.trans u')

/-- The region, from here on, in every world above w0. -/
def MildV (P : Program) (ops : Array Oper) (Q : Exit → Act → World → Prop) (w0 : World) (q fuel : Nat) (listed : Array Bool) (a : Act) : Prop :=
  ∀ W : Up w0, wpAnyV P ops Q w0 q fuel listed a W.1
theorem wp_region_mildv {id : Nat} {a : Act} {w : World} {l : List Oper} (n q : Nat) (hn : l.length = n) (hm : P.follows .mixedOrders = true) (h : MildV P l.toArray Q w q n (Array.replicate n false) a) : (Code.region id l.toArray true).wp P Q a w := by
  subst hn
  refine wp_region_any hm (wpAny_of_v (w0 := w) (q := q) _ _ _ _ ?_)
  have := h ⟨w.drew, (Below.refl _ _).drew⟩
  simpa using this
theorem mildv_take (i : Nat) {l rest : List Oper} {oi : Oper} {v : Value} {fuel : Nat} {listed : Array Bool} {a : Act} (hd : l.drop i = oi :: rest) (hs : Region.noSelect l.toArray = true) (hwa : waitsAll l.toArray q = true)
    (hf : Region.free .any l.toArray listed i = true) (hr : (Region.ready .any l.toArray listed).contains i = true) (hQ : ∀ c a w, Q (.panic c) (a.put oi.dst v) w → Q (.panic c) a w)
    (hw : Region.wanted oi (yielded l.toArray a.tmps) = true) (hy : ∀ (W : Up w0) (K : Act → Prop), K (a.put oi.dst v) → oi.quiet P a (fun w' => ∃ u : Up W.1, w' = u.1) K)
    (h : MildV P l.toArray Q w0 q fuel (listed.setIfInBounds i true) (a.put oi.dst v)) : MildV P l.toArray Q w0 q (fuel + 1) listed a := fun W =>
  wpAnyV_first hwa (of_drop hd) (Region.noSelect_spec hs) hQ fuel listed a W (Region.free_spec (of_drop hd) hf) (by simpa using hr) (.inl ⟨hw, hy⟩) fun u => h (W.trans u)
theorem upv_raise {fuel : Nat} {listed : Array Bool} {a : Act} {w : World} (hb : Below w0.heap.size w0 w) (h : MildV P ops Q w q fuel listed a) : wpAnyV P ops Q w0 q fuel listed a w :=
  wpAnyV_low hb fuel listed a w (h (Up.self w))
theorem upv_list (i : Nat) {l rest : List Oper} {oi : Oper} {fuel : Nat} {listed : Array Bool} {a : Act} {w : World} (hr : Region.ready .any l.toArray listed = [i]) (hd : l.drop i = oi :: rest)
    (h : wpList P l.toArray (Then (fun a' w' => (i ≠ q → Below w0.heap.size w0 w') ∧ ∀ u : Up w', wpAnyV P l.toArray Q w0 q fuel (listed.setIfInBounds i true) a' u.1) Q) [oi] a w) : wpAnyV P l.toArray Q w0 q (fuel + 1) listed a w :=
  ⟨fun h0 => (by rw [hr] at h0; cases h0), (by rw [hr]; intro j hj; rw [List.mem_singleton] at hj; subst hj; exact op_list j hd h)⟩
theorem upv_two (i j : Nat) {l ri rj : List Oper} {oi oj : Oper} {fuel : Nat} {listed : Array Bool} {a : Act} {w : World} (hr : Region.ready .any l.toArray listed = [i, j]) (hdi : l.drop i = oi :: ri) (hdj : l.drop j = oj :: rj)
    (hi : wpList P l.toArray (Then (fun a' w' => (i ≠ q → Below w0.heap.size w0 w') ∧ ∀ u : Up w', wpAnyV P l.toArray Q w0 q fuel (listed.setIfInBounds i true) a' u.1) Q) [oi] a w)
    (hj : wpList P l.toArray (Then (fun a' w' => (j ≠ q → Below w0.heap.size w0 w') ∧ ∀ u : Up w', wpAnyV P l.toArray Q w0 q fuel (listed.setIfInBounds j true) a' u.1) Q) [oj] a w) : wpAnyV P l.toArray Q w0 q (fuel + 1) listed a w :=
  ⟨fun h0 => (by rw [hr] at h0; cases h0), (by
    rw [hr]
    intro x hx
    simp at hx
    rcases hx with rfl | rfl
    · exact op_list x hdi hi
    · exact op_list x hdj hj)⟩
theorem upv_done {fuel : Nat} {listed : Array Bool} {a : Act} {w : World} (hr : Region.ready .any ops listed = []) (h : Q .normal a w) : wpAnyV P ops Q w0 q fuel listed a w := by
  cases fuel with
  | zero => exact ⟨hr, h⟩
  | succ n => exact ⟨fun _ => h, by rw [hr]; simp⟩
/-- An append without room, whether or not it hangs on a test. -/
theorem wpList_grows_w (w : World) {ops : Array Oper} {rest : List Oper} {o : Oper} {a : Act}
    (hw : Region.wanted o (yielded ops a.tmps) = true) (s x : Operand) (t : TypeId) (hop : o.op = Op.call { callee := Callee.builtin Builtin.append, args := #[s, x], argTypes := #[t, t] })
    (e : TypeId) (i : TypeInfo) (z : Value) (size bytes : Nat) (h1 : P.underlying t = some (.slice e)) (h2 : P.info? e = some i) (h3 : i.zero = some z) (h4 : i.size = size) (h5 : i.bytes = bytes) (h6 : z.cells.size = size) (h7 : 0 < size)
    (b : Addr) (n cap : Nat) (olds : List Value) (hs : a.eval s = .slice (some b) n cap) (hlo : olds.length = n * size) (holds : ∀ j u, olds[j]? = some u → w.cell? (b.add j) = some u)
    (ad : Addr) (m c : Nat) (news : List Value) (hx : a.eval x = .slice (some ad) m c) (hn : news.length = m * size) (hc : ∀ j u, news[j]? = some u → w.cell? (ad.add j) = some u)
    (hfull : cap < n + m) (b1 : n + m ≤ maxLen) (b2 : (n + m) * bytes ≤ 140737488355328)
    (hK : ∀ v' w', w'.ownsRow w.heap.size e size v' (n + m) (olds ++ news) → w.grownBy w' none → wpList P ops Q rest (a.put o.dst v') w') :
    wpList P ops Q (o :: rest) a w := by
  unfold wpList
  rw [if_pos hw]
  left
  obtain ⟨v', w', hrun, r1, r2⟩ := run_append_arg_grows (P := P) w t o.type e i z size bytes h1 h2 h3 h4 h5 h6 h7 b n cap olds hlo holds ad m c news hn hc hfull b1 b2
  unfold Oper.wp
  simp [execOp, hop, resolve, invoke, builtin, hs, hx, hrun, Result.andThen]
  exact hK v' w' r1 r2
end
end Go.Proofs.Ytbllhjhlkngchaa
