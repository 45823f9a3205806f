/- Regions that draw their order and also make or write memory: an operation that yields one value in every world that has only grown, and lets the world only grow, may be taken first, calls among them; what is left is walked in the orders that remain. Nothing of the program is named here. -/
import Derived.Test.YtgeiagndpfdnlaaInts
import Derived.OrdersHeld
namespace Go.Proofs.Ytgeiagndpfdnlaa
open Go.RowKit
set_option linter.unusedVariables false

section
variable {P : Program} {ops : Array Oper} {Q : Exit → Act → World → Prop} {md : Region.Mode} {w0 : World}

@[reducible] def UpC (w : World) : World → Prop := fun w' => ∃ u : Up w, w' = u.1
def Up.trans {w : World} (W : Up w) (u : Up W.1) : Up w := ⟨u.1, next W.2 u.2⟩
theorem cell_far {w : World} {p : Addr} {v : Value} (b o : Nat) (h : b ≠ p.block) : (w.setCell p v).cell? ⟨b, o, none⟩ = w.cell? ⟨b, o, none⟩ := by
  apply World.cell?_setCell_other
  intro e
  exact h (by rw [e])
theorem Up.cell2 {w : World} (W : Up w) (u : Up W.1) (b o : Nat) (h : b < w.heap.size) : u.1.cell? ⟨b, o, none⟩ = w.cell? ⟨b, o, none⟩ := (W.trans u).2.cell (p := ⟨b, o, none⟩) h
theorem Up.frozen2 {w : World} (W : Up w) (u : Up W.1) (b o : Nat) (h : b < w.heap.size) : u.1.frozen? ⟨b, o, none⟩ = w.frozen? ⟨b, o, none⟩ := (W.trans u).2.frozen (p := ⟨b, o, none⟩) h
def Up.self (w : World) : Up w := ⟨w, Below.refl _ _⟩

/-- In state a, in every world above w0, operation o leaves v and lets the world only grow. -/
def Mild (P : Program) (ops : Array Oper) (w0 : World) (o : Oper) (v : Value) (a : Act) : Prop :=
  (Region.wanted o (yielded ops a.tmps) = true ∧ ∀ (W : Up w0) (K : Act → Prop), K (a.put o.dst v) → o.quiet P a (UpC W.1) K) ∨
  (Region.wanted o (yielded ops a.tmps) = false ∧ v = undef)

theorem Mild.wpOp {i : Nat} {o : Oper} {v : Value} {a : Act} (hi : ops[i]? = some o) (hy : Mild P ops w0 o v a) (W : Up w0) {K : Act → World → Prop}
    (h : ∀ u : Up W.1, K (a.put o.dst v) u.1) : wpOp P ops Q i K a W.1 := by
  unfold Go.wpOp
  simp only [hi]
  rcases hy with ⟨hw, hv⟩ | ⟨hw, rfl⟩
  · rw [if_pos hw]
    refine .inl (Oper.wp_of_quiet (C := UpC W.1) (K := fun x => x = a.put o.dst v) ⟨Up.self _, rfl⟩ ?_ (hv W _ rfl))
    rintro a' w' ⟨u, rfl⟩ rfl
    exact h u
  · rw [if_neg (by rw [hw]; exact Bool.false_ne_true)]
    exact h (Up.self _)

theorem Mild.put {oi oj : Oper} {v : Value} {a : Act} (u : Value) (hsi : ∀ cs b, oi.op ≠ .select cs b) (h2 : ∀ d, oi.dst = some d → oj.dst ≠ some d) (h3 : ∀ d, oj.dst = some d → d ∉ oi.looksAt ops)
    (hy : Mild P ops w0 oi v a) : Mild P ops w0 oi v (a.put oj.dst u) := by
  unfold Mild at *
  rw [wanted_put oi a oj.dst u h3]
  refine hy.imp (fun ⟨hw, hv⟩ => ⟨hw, fun W K hK => ?_⟩) id
  obtain ⟨v', q1, q2⟩ := hv W (fun x => x = a.put oi.dst v) rfl
  refine ⟨v', fun w hw => ?_, ?_⟩
  · have := q1 w hw
    unfold Oper.quietAt at *
    rwa [execOp_put oi hsi a oj.dst u h3]
  · rw [← Act.put_comm a v' u h2, q2, Act.put_comm a v u h2]; exact hK

theorem Mild.defers {oi : Oper} {v : Value} {a : Act} (d : Deferred) (hy : Mild P ops w0 oi v a) : Mild P ops w0 oi v { a with defers := d :: a.defers } := by
  unfold Mild at *
  refine hy.imp (fun ⟨hw, hv⟩ => ⟨hw, fun W K hK => ?_⟩) id
  obtain ⟨v', q1, q2⟩ := hv W (fun x => x = a.put oi.dst v) rfl
  refine ⟨v', q1, ?_⟩
  rw [← Act.put_defers, q2, Act.put_defers]; exact hK

/-- Whether a mild operation's value is already there makes no difference to an operation apart from it. -/
theorem wpOp_mild {j : Nat} {oi oj : Oper} {v : Value} (hj : ops[j]? = some oj) (hap : oi.apart ops oj = true)
    (hsi : ∀ cs b, oi.op ≠ .select cs b) (hsj : ∀ cs b, oj.op ≠ .select cs b)
    (hQ : ∀ c a w, Q (.panic c) (a.put oi.dst v) w → Q (.panic c) a w) {K : Act → World → Prop} {a : Act} {w : World}
    (hy : Mild P ops w0 oi v a) (h : wpOp P ops Q j K (a.put oi.dst v) w) :
    wpOp P ops Q j (fun a' w' => Mild P ops w0 oi v a' ∧ K (a'.put oi.dst v) w') a w := by
  obtain ⟨h1, h2, h3⟩ := Oper.apart_spec hap
  have hx : execOp (a.put oi.dst v).eval oj = execOp a.eval oj := execOp_put oj hsj a oi.dst v h1
  have go : ∀ u w', K ((a.put oi.dst v).put oj.dst u) w' → Mild P ops w0 oi v (a.put oj.dst u) ∧ K ((a.put oj.dst u).put oi.dst v) w' := fun u w' hk =>
    ⟨hy.put u hsi h2 h3, by rwa [Act.put_comm a v u h2] at hk⟩
  unfold wpOp at *
  simp only [hj] at *
  rw [wanted_put oj a oi.dst v h1] at h
  by_cases hw : Region.wanted oj (yielded ops a.tmps) = true
  · rw [if_pos hw] at h ⊢
    rcases h with h | ⟨hasks, hlets⟩
    · left
      unfold Oper.wp at *
      rw [hx] at h
      revert h
      generalize (execOp a.eval oj).run P w = r
      intro h
      rcases r with ⟨n, w'⟩ | ⟨x, w'⟩
      · cases n with
        | value u => exact go u w' h
        | skip => exact go undef w' h
        | «defer» d =>
          simp only [Oper.upon] at h ⊢
          refine ⟨(hy.defers d).put undef hsi h2 h3, ?_⟩
          rwa [← Act.put_comm _ v undef h2, ← Act.put_defers]
        | enter f args =>
          exact Calls.mono h fun e w'' he => by
            cases e with
            | returned u => exact go u w'' he
            | panicked c => exact hQ _ _ _ he
            | outgrown => exact he
        | row r args => exact Rows.mono h fun u w'' he => go u w'' he
        | _ => exact h
      · cases x with
        | panic u => exact hQ _ _ _ h
        | _ => exact h
    · right
      exact ⟨by unfold Oper.asks at *; rwa [hx] at hasks, hlets⟩
  · rw [if_neg hw] at h ⊢
    exact go undef w h

/-- Whatever order is picked from here on; behind each operation the world is above w0, and may grow. -/
def wpAnyU (P : Program) (md : Region.Mode) (ops : Array Oper) (Q : Exit → Act → World → Prop) (w0 : World) : Nat → Array Bool → Act → World → Prop
  | 0, listed, a, w => Region.ready md ops listed = [] ∧ Q .normal a w
  | fuel + 1, listed, a, w =>
    (Region.ready md ops listed = [] → Q .normal a w) ∧
    ∀ i ∈ Region.ready md ops listed, wpOp P ops Q i (fun a' w' => Below w0.heap.size w0 w' ∧ ∀ u : Up w', wpAnyU P md ops Q w0 fuel (listed.setIfInBounds i true) a' u.1) a w

theorem wpAny_of_up : ∀ (fuel : Nat) (listed : Array Bool) (a : Act) (w : World), wpAnyU P md ops Q w0 fuel listed a w → wpAny P md ops Q fuel listed a w
  | 0, _, _, _, h => h
  | fuel + 1, _, _, _, h => ⟨h.1, fun i hi => wpOp_mono (fun a' w' h' => wpAny_of_up fuel _ a' w' (h'.2 (Up.self _))) (h.2 i hi)⟩

theorem wpAnyU_first {i : Nat} {oi : Oper} {v : Value} (hi : ops[i]? = some oi) (hsel : ∀ (j : Nat) (o : Oper) cs b, ops[j]? = some o → o.op ≠ .select cs b)
    (hQ : ∀ c a w, Q (.panic c) (a.put oi.dst v) w → Q (.panic c) a w) :
    ∀ (fuel : Nat) (listed : Array Bool) (a : Act) (W : Up w0),
      (∀ j oj, ops[j]? = some oj → j ≠ i → listed.getD j true = false → (∀ e ∈ oj.after, Region.binds md e = true → e.on ≠ i) → oi.apart ops oj = true) →
      i ∈ Region.ready md ops listed → Mild P ops w0 oi v a →
      (∀ u : Up W.1, wpAnyU P md ops Q w0 fuel (listed.setIfInBounds i true) (a.put oi.dst v) u.1) → wpAnyU P md ops Q w0 (fuel + 1) listed a W.1 := by
  intro fuel
  induction fuel with
  | zero =>
    intro listed a W _ hr hy H
    refine ⟨fun h => (by rw [h] at hr; cases hr), fun j hj => ?_⟩
    by_cases hji : j = i
    · subst hji; exact hy.wpOp hi W fun u => ⟨(W.trans u).2, fun u' => H (u.trans u')⟩
    · have := ready_mono hj hji
      rw [(H (Up.self _)).1] at this
      cases this
  | succ fuel ih =>
    intro listed a W hfree hr hy H
    refine ⟨fun h => (by rw [h] at hr; cases hr), fun j hj => ?_⟩
    by_cases hji : j = i
    · subst hji; exact hy.wpOp hi W fun u => ⟨(W.trans u).2, fun u' => H (u.trans u')⟩
    · have h1 := (H (Up.self _)).2 j (ready_mono hj hji)
      obtain ⟨hjun, oj, hoj, hall⟩ := mem_ready.1 hj
      have hnot : ∀ e ∈ oj.after, Region.binds md e = true → e.on ≠ i := fun e he hb heq => by
        have g1 := hall e he hb
        have g0 := (mem_ready.1 hr).1
        rw [heq] at g1
        rcases Nat.lt_or_ge i listed.size with h' | h'
        · simp [h'] at g0 g1; rw [g0] at g1; cases g1
        · simp [Array.getElem?_eq_none h'] at g1
      have h2 := wpOp_mild hoj (hfree j oj hoj hji hjun hnot) (fun cs b => hsel i oi cs b hi) (fun cs b => hsel j oj cs b hoj) hQ hy h1
      have hfree' : ∀ k ok, ops[k]? = some ok → k ≠ i → (listed.setIfInBounds j true).getD k true = false →
          (∀ e ∈ ok.after, Region.binds md e = true → e.on ≠ i) → oi.apart ops ok = true := fun k ok hk hki hun hno => by
        refine hfree k ok hk hki ?_ hno
        by_cases hjk : j = k
        · subst hjk; exact hjun
        · rw [getD_set_ne true hjk] at hun; exact hun
      refine wpOp_mono (fun a' w' h3 => ⟨h3.2.1, fun u => ?_⟩) h2
      refine ih (listed.setIfInBounds j true) a' ⟨u.1, next h3.2.1 u.2⟩ hfree' (ready_mono hr (Ne.symm hji)) h3.1 fun u' => ?_
      rw [Array.setIfInBounds_comm _ _ hji]
      exact h3.2.2 (u.trans u')

/-- The region, from here on, in every world above w0. -/
def MildOn (P : Program) (ops : Array Oper) (Q : Exit → Act → World → Prop) (w0 : World) (fuel : Nat) (listed : Array Bool) (a : Act) : Prop :=
  ∀ W : Up w0, wpAnyU P .any ops Q w0 fuel listed a W.1

theorem wp_region_mild {id : Nat} {a : Act} {w : World} {l : List Oper} (n : Nat) (hn : l.length = n) (hm : P.follows .mixedOrders = true) (h : MildOn P l.toArray Q w n (Array.replicate n false) a) : (Code.region id l.toArray true).wp P Q a w := by
  refine wp_region_any hm (wpAny_of_up (w0 := w) _ _ _ _ ?_)
  subst hn
  have := h ⟨w.drew, (Below.refl _ _).drew⟩
  simpa using this

theorem of_drop {l rest : List Oper} {oi : Oper} {i : Nat} (h : l.drop i = oi :: rest) : l.toArray[i]? = some oi := by
  have : (l.drop i)[0]? = some oi := by rw [h]; rfl
  simpa using this
theorem mild_take (i : Nat) {l rest : List Oper} {oi : Oper} {v : Value} {fuel : Nat} {listed : Array Bool} {a : Act} (hd : l.drop i = oi :: rest) (hs : Region.noSelect l.toArray = true)
    (hf : Region.free .any l.toArray listed i = true) (hr : (Region.ready .any l.toArray listed).contains i = true) (hQ : ∀ c a w, Q (.panic c) (a.put oi.dst v) w → Q (.panic c) a w)
    (hw : Region.wanted oi (yielded l.toArray a.tmps) = true) (hy : ∀ (W : Up w0) (K : Act → Prop), K (a.put oi.dst v) → oi.quiet P a (fun w' => ∃ u : Up W.1, w' = u.1) K)
    (h : MildOn P l.toArray Q w0 fuel (listed.setIfInBounds i true) (a.put oi.dst v)) : MildOn P l.toArray Q w0 (fuel + 1) listed a := fun W =>
  wpAnyU_first (of_drop hd) (Region.noSelect_spec hs) hQ fuel listed a W (Region.free_spec (of_drop hd) hf) (by simpa using hr) (.inl ⟨hw, hy⟩) fun u => h (W.trans u)
theorem mild_skip (i : Nat) {l rest : List Oper} {oi : Oper} {fuel : Nat} {listed : Array Bool} {a : Act} (hd : l.drop i = oi :: rest) (hs : Region.noSelect l.toArray = true)
    (hf : Region.free .any l.toArray listed i = true) (hr : (Region.ready .any l.toArray listed).contains i = true) (hQ : ∀ c a w, Q (.panic c) (a.put oi.dst undef) w → Q (.panic c) a w)
    (hw : Region.wanted oi (yielded l.toArray a.tmps) = false)
    (h : MildOn P l.toArray Q w0 fuel (listed.setIfInBounds i true) (a.put oi.dst undef)) : MildOn P l.toArray Q w0 (fuel + 1) listed a := fun W =>
  wpAnyU_first (of_drop hd) (Region.noSelect_spec hs) hQ fuel listed a W (Region.free_spec (of_drop hd) hf) (by simpa using hr) (.inr ⟨hw, rfl⟩) fun u => h (W.trans u)

/-- What stands behind one operation of the tail. -/
def Then (K : Act → World → Prop) (Q : Exit → Act → World → Prop) : Exit → Act → World → Prop
  | .normal, a, w => K a w
  | e, a, w => Q e a w
/-- One operation alone may come up: it is walked as a list of its own; behind it the world may grow. -/
theorem up_one (i : Nat) {oi : Oper} {fuel : Nat} {listed : Array Bool} {a : Act} {w : World} (hr : Region.ready .any ops listed = [i]) (hi : ops[i]? = some oi)
    (h : wpOp P ops Q i (fun a' w' => Below w0.heap.size w0 w' ∧ ∀ u : Up w', wpAnyU P .any ops Q w0 fuel (listed.setIfInBounds i true) a' u.1) a w) : wpAnyU P .any ops Q w0 (fuel + 1) listed a w :=
  ⟨fun h0 => (by rw [hr] at h0; cases h0), (by rw [hr]; intro j hj; rw [List.mem_singleton] at hj; subst hj; exact h)⟩
theorem up_list (i : Nat) {l rest : List Oper} {oi : Oper} {fuel : Nat} {listed : Array Bool} {a : Act} {w : World} (hr : Region.ready .any l.toArray listed = [i]) (hd : l.drop i = oi :: rest)
    (h : wpList P l.toArray (Then (fun a' w' => Below w0.heap.size w0 w' ∧ ∀ u : Up w', wpAnyU P .any l.toArray Q w0 fuel (listed.setIfInBounds i true) a' u.1) Q) [oi] a w) : wpAnyU P .any l.toArray Q w0 (fuel + 1) listed a w := by
  have hi := of_drop hd
  refine up_one i hr hi ?_
  unfold wpOp
  simp only [hi]
  unfold wpList at h
  by_cases hw : Region.wanted oi (yielded l.toArray a.tmps) = true
  · rw [if_pos hw] at h ⊢
    refine h.imp (fun h => ?_) id
    unfold Oper.wp at *
    revert h
    generalize (execOp a.eval oi).run P w = r
    intro h
    rcases r with ⟨n, w'⟩ | ⟨x, w'⟩
    · cases n with
      | enter f args =>
        exact Calls.mono h fun e w'' he => by
          cases e <;> exact he
      | _ => exact h
    · cases x <;> exact h
  · rw [if_neg hw] at h ⊢
    exact h
theorem then_mk {K : World → Act → World → Prop} {a : Act} {w : World} (h0 : Below w0.heap.size w0 w) (h : ∀ u : Up w, K u.1 a u.1) : Then (fun a' w' => Below w0.heap.size w0 w' ∧ ∀ u : Up w', K u.1 a' u.1) Q .normal a w := ⟨h0, h⟩
theorem up_done {fuel : Nat} {listed : Array Bool} {a : Act} {w : World} (hr : Region.ready .any ops listed = []) (h : Q .normal a w) : wpAnyU P .any ops Q w0 fuel listed a w := by
  cases fuel with
  | zero => exact ⟨hr, h⟩
  | succ n => exact ⟨fun _ => h, by rw [hr]; simp⟩
end
end Go.Proofs.Ytgeiagndpfdnlaa
