/- Turns on plain data, as functions: who has lines when one is let go (relO), the next one for a line (nextW), who waits then (nextQ). Nothing of the program is named here.
The program's turns and the document's, beside each other (TP), on plain data: who has which line (o), who waits (q). Conditions: as each theorem states them.
A directory and turns beside each other (HO), as a home has them, and the test's own memory X: no block of the one is one of the other. Conditions: as each theorem states them.
A home's directory and turns (HP), on plain data: its rows, who has which line, who waits. Conditions: as each theorem states them.
The contracts of packet's within, Check and flagByte. Conditions: as each theorem states them.
The contract of packet.head: a packet's first ten bytes, in new memory. Conditions: as stated.
The contracts of packet.appendWord, Pack and of the statements' wakes. Conditions: as each theorem states them.
The contracts of packet.Request and Answer, and the walk of PacketKinds: it answers true and writes nothing that was there. No condition.
The contracts of slices.Equal over whole numbers and of packet.Same. Conditions: as each theorem states them.
(What stood here stands in Pk0.)
The program's home (PH): its struct, its directory and turns, on plain data. Conditions: as each theorem states them.
The program's home: answer, newData, granted. Conditions: as each theorem states them.
Regions that draw their order, once more: two operations that may come in either order. Nothing of the program is named here.
The program's home: check. Conditions: as each theorem states them.
The program's home: lock. Conditions: as each theorem states them. -/
import Derived.Test.YtgeiagndpfdnlaaPart4
import Derived.Test.YtgeiagndpfdnlaaPart5
import Derived.Test.YtgeiagndpfdnlaaPart6
import Derived.Test.YtgeiagndpfdnlaaPart3
import Derived.Test.YtgeiagndpfdnlaaPart2
import Derived.Deep.CutBlock
section
namespace Go.Proofs.Ytgeiagndpfdnlaa
open Go.RowKit Go.Maps
set_option linter.unusedVariables false

/-- Ask: whether the line is free; who has which line, who waits then. -/
def askB (o : List (Int × Int)) (q : List Wr) (l : Int) : Bool := decide (ownT o l = -1 ∧ waitT q l = [])
def askO (o : List (Int × Int)) (q : List Wr) (l w : Int) : List (Int × Int) := if askB o q l = true then o ++ [(l, w)] else o
def askQ (o : List (Int × Int)) (q : List Wr) (l w d : Int) : List Wr := if askB o q l = true then q else q ++ [⟨l, w, d⟩]
/-- A line is let go. -/
def relO (o : List (Int × Int)) (l : Int) : List (Int × Int) := o.filter (fun p => decide (p.1 ≠ l))
theorem erase_rel {o : List (Int × Int)} (h : OkT o) {k : Nat} {l v : Int} (hk : o[k]? = some (l, v)) : o.eraseIdx k = relO o l := by
  replace h := h.1
  unfold relO
  induction o generalizing k with
  | nil => simp at hk
  | cons a o ih =>
    have ha : ∀ b ∈ o, a.1 ≠ b.1 := fun b hb => List.rel_of_pairwise_cons h hb
    cases k with
    | zero =>
      simp at hk
      subst hk
      rw [List.eraseIdx_cons_zero, List.filter_cons_of_neg (by simp)]
      exact (List.filter_eq_self.2 (fun b hb => by have := ha b hb; simp; exact fun e => this e.symm)).symm
    | succ k =>
      have hk' : o[k]? = some (l, v) := by simpa using hk
      have hal : a.1 ≠ l := ha _ (List.mem_of_getElem? hk')
      rw [List.eraseIdx_cons_succ, List.filter_cons_of_pos (by simpa using hal), ih hk' (List.Pairwise.of_cons h)]
/-- Where the owner of a line stands. -/
theorem own_place {o : List (Int × Int)} (h : OkT o) {l v : Int} (hv : 0 ≤ v) (hl : ownT o l = v) : ∃ k : Nat, o[k]? = some (l, v) ∧ ∀ (j : Nat) y, j < k → o[j]? = some y → ¬ (y.1 = l ∧ y.2 = v) := by
  have hm := own_some (o := o) (l := l) (by omega)
  rw [hl] at hm
  obtain ⟨k, hk⟩ := List.mem_iff_getElem?.1 hm
  refine ⟨k, hk, fun j y hj hy hye => ?_⟩
  obtain ⟨hj', rfl⟩ := List.getElem?_eq_some_iff.1 hy
  obtain ⟨hk', hke⟩ := List.getElem?_eq_some_iff.1 hk
  exact List.pairwise_iff_getElem.1 h.1 j k hj' hk' hj (by rw [hke]; exact hye.1)
/-- The first one who waits for a line. -/
theorem wait_place {q : List Wr} {l : Int} (h : waitT q l ≠ []) : ∃ (k : Nat) (v d : Int), q[k]? = some ⟨l, v, d⟩ ∧ ∀ (j : Nat) y, j < k → q[j]? = some y → y.l ≠ l := by
  induction q with
  | nil => exact absurd rfl h
  | cons x q ih =>
    by_cases e : x.l = l
    · obtain ⟨xl, xw, xd⟩ := x
      simp only at e
      subst e
      exact ⟨0, xw, xd, rfl, fun j y hj => by omega⟩
    · have h2 : waitT q l ≠ [] := by
        unfold waitT at h ⊢
        rw [List.filter_cons_of_neg (by simpa using e)] at h
        exact h
      obtain ⟨k, v, d, hk, hno⟩ := ih h2
      refine ⟨k + 1, v, d, by simpa using hk, fun j y hj hy => ?_⟩
      cases j with
      | zero => simp at hy; subst hy; exact e
      | succ j => exact hno j y (by omega) (by simpa using hy)
/-- The next one for a line; who waits when it has gone. -/
def nextW (q : List Wr) (l : Int) : Option Wr := q.find? (fun x => decide (x.l = l))
def nextQ : List Wr → Int → List Wr
  | [], _ => []
  | x :: q, l => if x.l = l then q else x :: nextQ q l
theorem next_place {q : List Wr} {l : Int} {x : Wr} (h : nextW q l = some x) : ∃ k : Nat, q[k]? = some x ∧ (∀ (j : Nat) y, j < k → q[j]? = some y → y.l ≠ l) ∧ nextQ q l = q.eraseIdx k := by
  unfold nextW at h
  induction q with
  | nil => cases h
  | cons a q ih =>
    rw [List.find?_cons] at h
    unfold nextQ
    by_cases e : a.l = l
    · rw [decide_eq_true e] at h
      obtain rfl := Option.some.inj h
      exact ⟨0, rfl, fun j y hj => by omega, by rw [if_pos e]; rfl⟩
    · rw [decide_eq_false e] at h
      obtain ⟨k, hk, hno, hq⟩ := ih h
      refine ⟨k + 1, by simpa using hk, fun j y hj hy => ?_, by rw [if_neg e, hq]; rfl⟩
      cases j with
      | zero => simp at hy; subst hy; exact e
      | succ j => exact hno j y (by omega) (by simpa using hy)
theorem next_some {q : List Wr} {l : Int} (h : waitT q l ≠ []) : ∃ v d, nextW q l = some ⟨l, v, d⟩ := by
  unfold nextW
  cases hf : q.find? (fun x => decide (x.l = l)) with
  | none =>
    rw [List.find?_eq_none] at hf
    exact absurd (List.filter_eq_nil_iff.2 hf) h
  | some x =>
    have h2 := of_decide_eq_true (List.find?_some (p := fun x : Wr => decide (x.l = l)) hf)
    obtain ⟨xl, xw, xd⟩ := x
    simp only at h2
    subst h2
    exact ⟨xw, xd, rfl⟩
end Go.Proofs.Ytgeiagndpfdnlaa
end
section
namespace Go.Proofs.Ytgeiagndpfdnlaa
open Go.RowKit Go.Maps
set_option linter.unusedVariables false
set_option maxRecDepth 20000

/-- Who waits for a line, and with what numbers. -/
def wtD (q : List Wr) (k : Int) : List (Int × Int) := (waitT q k).map fun x => (x.w, x.d)
theorem wtD_nil {q : List Wr} {k : Int} : wtD q k = [] ↔ waitT q k = [] := by unfold wtD; rw [List.map_eq_nil_iff]
theorem own_upd {o : List (Int × Int)} (h : OkT o) {l w : Int} (hl : ownT o l = -1) (hw : 0 ≤ w) : upd (ownT o) l w = ownT (o ++ [(l, w)]) := by
  funext k
  rw [own_snoc h hl hw]
  rfl
theorem wt_upd (q : List Wr) (l w d : Int) : upd (wtD q) l (wtD q l ++ [(w, d)]) = wtD (q ++ [⟨l, w, d⟩]) := by
  funext k
  unfold upd wtD
  rw [wait_snoc]
  by_cases e : k = l
  · subst e; rw [if_pos rfl, if_pos rfl]; simp
  · rw [if_neg e, if_neg (by simpa using e)]
theorem own_erase_upd {o : List (Int × Int)} (h : OkT o) {i : Nat} {l v : Int} (hp : o[i]? = some (l, v)) : upd (ownT o) l (-1) = ownT (o.eraseIdx i) := by
  funext k
  rw [own_erase h hp]
  rfl
theorem wt_erase_upd {q : List Wr} {i : Nat} {l w d : Int} (hx : q[i]? = some ⟨l, w, d⟩) (hno : ∀ j y, j < i → q[j]? = some y → y.l ≠ l) : wtD q l = (w, d) :: (wtD q l).tail ∧ upd (wtD q) l (wtD q l).tail = wtD (q.eraseIdx i) := by
  have h1 := wait_first hx hno
  simp only at h1
  constructor
  · unfold wtD
    cases hw : waitT q l with
    | nil => rw [hw] at h1; cases h1
    | cons y r =>
      rw [hw] at h1
      obtain rfl := Option.some.inj h1
      rfl
  · funext k
    unfold upd wtD
    rw [wait_erase hx hno]
    by_cases e : k = l
    · subst e; rw [if_pos rfl, if_pos rfl, List.map_tail]
    · rw [if_neg e, if_neg (by simpa using e)]
/-- The document's turns: in blocks of X, none of Z. -/
def DX (wx : World) (g2 : Nat) (X Z : Nat → Prop) (m : Nat) (o : List (Int × Int)) (q : List Wr) : Prop :=
  ∃ M N ao no co aq nq cq, DT wx g2 0 M N o q ao no co aq nq cq ∧ no ≤ m ∧ nq ≤ m ∧ (X g2 ∧ ¬ Z g2) ∧ ∀ j, M j ∨ N j → X j ∧ ¬ Z j
structure TP (w wx : World) (g g2 : Nat) (X Z : Nat → Prop) (n m : Nat) (o : List (Int × Int)) (q : List Wr) (o2 : List (Int × Int)) (q2 : List Wr) : Prop where
  p : TO w wx g X n (ownT o) (wtD q)
  d : DX wx g2 X Z m o2 q2
  z : ∀ j, Z j → X j
  lo : ∀ j, X j → w.heap.size ≤ j
section
variable {w wx wy : World} {g g2 n m : Nat} {X Z F Y : Nat → Prop} {o o2 : List (Int × Int)} {q q2 : List Wr}
theorem DX.keep (h : DX wx g2 X Z m o q) (hk : Keep F wx wy) (hF : ∀ j, X j → ¬ Z j → ¬ F j) : DX wy g2 X Z m o q := by
  obtain ⟨M, N, ao, no, co, aq, nq, cq, d, h1, h2, h3, h4⟩ := h
  exact ⟨M, N, ao, no, co, aq, nq, cq, d.keep hk (hF g2 h3.1 h3.2) (fun j hj => hF j (h4 j hj).1 (h4 j hj).2), h1, h2, h3, h4⟩
theorem DX.ok (h : DX wx g2 X Z m o q) : OkT o := by
  obtain ⟨M, N, ao, no, co, aq, nq, cq, d, h1, h2, h3, h4⟩ := h
  exact d.ok
theorem TP.below (h : TP w wx g g2 X Z n m o q o2 q2) (hb : Below wx.heap.size wx wy) : TP w wy g g2 X Z n m o q o2 q2 :=
  ⟨h.p.below hb, h.d.keep (F := fun _ => False) (Keep.of_below hb) (fun _ _ _ h => h), h.z, h.lo⟩
/-- Another block of the test's own, new; the one that it had is let go. -/
theorem TP.own (h : TP w wx g g2 X Z n m o q o2 q2) (hb : Below wx.heap.size wx wy) (hY : ∀ j, Y j → wx.heap.size ≤ j ∧ j < wy.heap.size) : TP w wy g g2 (fun j => X j ∨ Y j) Y n m o q o2 q2 := by
  obtain ⟨M, N, ao, no, co, aq, nq, cq, d, h1, h2, h3, h4⟩ := h.d
  have hs := h.p.bel.size
  refine ⟨h.p.grow hb (fun j hj => ?_), ⟨M, N, ao, no, co, aq, nq, cq, d.below hb, h1, h2, ⟨.inl h3.1, fun hy => by have := hY _ hy; have := d.lt; omega⟩, fun j hj => ⟨.inl (h4 j hj).1, fun hy => by have := hY _ hy; have := d.old j hj; omega⟩⟩, fun j hj => .inr hj, fun j hj => ?_⟩
  · rcases hj with hj | hj
    · exact ⟨.inl hj, Nat.lt_of_lt_of_le (h.p.xl j hj) hb.size⟩
    · exact ⟨.inr (hY j hj).1, (hY j hj).2⟩
  · rcases hj with hj | hj
    · exact h.lo j hj
    · exact Nat.le_trans hs (hY j hj).1
/-- After a call on the program's turns. -/
theorem TP.prog {n' : Nat} {own' : Int → Int} {wt' : Int → List (Int × Int)} {o' : List (Int × Int)} {q' : List Wr} (h : TP w wx g g2 X Z n m o q o2 q2) (hk : Keep (NX w X) wx wy) (p : TO w wy g X n' own' wt') (e1 : own' = ownT o') (e2 : wt' = wtD q') : TP w wy g g2 X Z n' m o' q' o2 q2 := by
  subst e1 e2
  exact ⟨p, h.d.keep hk (fun j hj _ hf => hf.2 hj), h.z, h.lo⟩
/-- After a call on the document's. -/
theorem TP.doc {M N M' N' : Nat → Prop} {o' : List (Int × Int)} {q' : List Wr} {ao aq : Option Addr} {no co nq cq m' : Nat} (h : TP w wx g g2 X Z n m o q o2 q2) (hF : ∀ j, F j → X j ∧ ¬ Z j) (hk : Keep F wx wy) (d : DT wy g2 0 M' N' o' q' ao no co aq nq cq) (hM : ∀ j, M' j ∨ N' j → (X j ∧ ¬ Z j) ∨ wx.heap.size ≤ j) (h1 : no ≤ m') (h2 : nq ≤ m') :
    ∃ X', (∀ j, X j → X' j) ∧ Keep (fun j => X j ∧ ¬ Z j) wx wy ∧ TP w wy g g2 X' Z n m' o q o' q' := by
  obtain ⟨_, _, _, _, _, _, _, _, _, _, _, h3, _⟩ := h.d
  have hs := h.p.bel.size
  refine ⟨fun j => X j ∨ (wx.heap.size ≤ j ∧ j < wy.heap.size), fun j hj => .inl hj, hk.mono (fun j _ hj => hF j hj), h.p.wrgrow hk (fun j hj => ⟨h.lo j (hF j hj).1, .inl (hF j hj).1⟩) (fun j hj => ?_), ⟨M', N', ao, no, co, aq, nq, cq, d, h1, h2, ⟨.inl h3.1, h3.2⟩, fun j hj => ?_⟩, fun j hj => .inl (h.z j hj), fun j hj => ?_⟩
  · rcases hj with hj | hj
    · exact ⟨.inl hj, Nat.lt_of_lt_of_le (h.p.xl j hj) hk.size⟩
    · exact ⟨.inr hj.1, hj.2⟩
  · rcases hM j hj with h5 | h5
    · exact ⟨.inl h5.1, h5.2⟩
    · exact ⟨.inr ⟨h5, d.old j hj⟩, fun hz => by have := h.p.xl j (h.z j hz); omega⟩
  · rcases hj with hj | hj
    · exact h.lo j hj
    · exact Nat.le_trans hs hj.1
theorem tp_ask1 (h : TP w wx g g2 X Z n m o q o2 q2) (ho : OkT o) {l v : Int} (d : Int) (hl : In64 l) (h1 : 0 ≤ l) (h2 : 0 ≤ v) (hn : n ≤ 1000) :
    Calls Try.prog 54 #[.pointer (some ⟨g, 0, none⟩), .int .i64 l, .int .i64 v, .int .i64 d] wx fun e w' => e = .returned (.bool (askB o q l)) ∧ Keep (NX w X) wx w' ∧ TP w w' g g2 X Z (n + 1) m (askO o q l v) (askQ o q l v d) o2 q2 := by
  unfold askO askQ
  by_cases hb : ownT o l = -1 ∧ waitT q l = []
  · have e : askB o q l = true := decide_eq_true hb
    rw [e, if_pos rfl, if_pos rfl]
    refine (to_ask_own h.p d hl h1 h2 hb.1 (wtD_nil.2 hb.2) (by omega)).mono ?_
    rintro e w' ⟨rfl, hk, p⟩
    exact ⟨rfl, hk, h.prog hk p (own_upd ho hb.1 h2) rfl⟩
  · have e : askB o q l = false := decide_eq_false hb
    rw [e, if_neg (by simp), if_neg (by simp)]
    refine (to_ask_wait h.p d hl h1 h2 ?_ (by omega)).mono ?_
    · by_cases e1 : ownT o l = -1
      · exact .inr (fun e2 => hb ⟨e1, wtD_nil.1 e2⟩)
      · exact .inl e1
    · rintro e w' ⟨rfl, hk, p⟩
      exact ⟨rfl, hk, h.prog hk p rfl (wt_upd q l v d)⟩
theorem tp_ask2 (h : TP w wx g g2 X Z n m o q o2 q2) {l v : Int} (d : Int) (h2 : 0 ≤ v) (hm : m < 1000) :
    Calls Try.prog 42 #[.pointer (some ⟨g2, 0, none⟩), .int .i64 l, .int .i64 v, .int .i64 d] wx fun e w' => e = .returned (.bool (askB o2 q2 l)) ∧
      ∃ X', (∀ j, X j → X' j) ∧ Keep (fun j => X j ∧ ¬ Z j) wx w' ∧ TP w w' g g2 X' Z n (m + 1) o q (askO o2 q2 l v) (askQ o2 q2 l v d) := by
  obtain ⟨M, N, ao, no, co, aq, nq, cq, dt, k1, k2, k3, k4⟩ := h.d
  unfold askO askQ
  by_cases hb : ownT o2 l = -1 ∧ waitT q2 l = []
  · have e : askB o2 q2 l = true := decide_eq_true hb
    rw [e, if_pos rfl, if_pos rfl]
    refine (TR.ask_own dt l v d h2 hb.1 hb.2 (by omega)).mono ?_
    rintro e w' ⟨rfl, hk, _, ao', co', d'⟩
    refine ⟨rfl, h.doc (M := M) (N := N) (fun j hj => ?_) hk d' (fun j hj => ?_) (by omega) (by omega)⟩
    · rcases hj with rfl | hj
      · exact k3
      · exact k4 j (.inl hj)
    · rcases hj with (hj | hj) | hj
      · exact .inl (k4 j (.inl hj))
      · exact .inr hj.1
      · exact .inl (k4 j (.inr hj))
  · have e : askB o2 q2 l = false := decide_eq_false hb
    rw [e, if_neg (by simp), if_neg (by simp)]
    have fin : ∀ w', Keep (fun k => k = g2 ∨ N k) wx w' → (∃ aq' cq', DT w' g2 0 M (fun k => N k ∨ (wx.heap.size ≤ k ∧ k < w'.heap.size)) o2 (q2 ++ [⟨l, v, d⟩]) ao no co aq' (nq + 1) cq') → ∃ X', (∀ j, X j → X' j) ∧ Keep (fun j => X j ∧ ¬ Z j) wx w' ∧ TP w w' g g2 X' Z n (m + 1) o q o2 (q2 ++ [⟨l, v, d⟩]) := by
      rintro w' hk ⟨aq', cq', d'⟩
      refine h.doc (M := M) (N := N) (fun j hj => ?_) hk d' (fun j hj => ?_) (by omega) (by omega)
      · rcases hj with rfl | hj
        · exact k3
        · exact k4 j (.inr hj)
      · rcases hj with hj | hj | hj
        · exact .inl (k4 j (.inl hj))
        · exact .inl (k4 j (.inr hj))
        · exact .inr hj.1
    by_cases e1 : ownT o2 l = -1
    · refine (TR.ask_wait2 dt l v d h2 e1 (fun e2 => hb ⟨e1, e2⟩) (by omega)).mono ?_
      rintro e w' ⟨rfl, hk, _, hx⟩
      exact ⟨rfl, fin w' hk hx⟩
    · refine (TR.ask_wait1 dt l v d h2 e1 (by omega)).mono ?_
      rintro e w' ⟨rfl, hk, _, hx⟩
      exact ⟨rfl, fin w' hk hx⟩
theorem tp_owner1 (h : TP w wx g g2 X Z n m o q o2 q2) {l : Int} (hl : In64 l) : Calls Try.prog 11 #[.pointer (some ⟨g, 0, none⟩), .int .i64 l] wx fun e w' => e = .returned (.int .i64 (ownT o l)) ∧ wx = w' := to_owner h.p hl
theorem tp_owner2 (h : TP w wx g g2 X Z n m o q o2 q2) (l : Int) : Calls Try.prog 20 #[.pointer (some ⟨g2, 0, none⟩), .int .i64 l] wx fun e w' => e = .returned (.int .i64 (ownT o2 l)) ∧ Below wx.heap.size wx w' := by
  obtain ⟨M, N, ao, no, co, aq, nq, cq, dt, k1, k2, k3, k4⟩ := h.d
  exact TR.owner_any dt l
theorem tp_waiting1 (h : TP w wx g g2 X Z n m o q o2 q2) {l : Int} (hl : In64 l) : Calls Try.prog 12 #[.pointer (some ⟨g, 0, none⟩), .int .i64 l] wx fun e w' => e = .returned (.int .i64 (waitT q l).length) ∧ wx = w' := by
  have := to_waiting h.p hl
  unfold wtD at this
  rw [List.length_map] at this
  exact this
theorem tp_waiting2 (h : TP w wx g g2 X Z n m o q o2 q2) (l : Int) : Calls Try.prog 47 #[.pointer (some ⟨g2, 0, none⟩), .int .i64 l] wx fun e w' => e = .returned (.int .i64 (waitT q2 l).length) ∧ Below wx.heap.size wx w' := by
  obtain ⟨M, N, ao, no, co, aq, nq, cq, dt, k1, k2, k3, k4⟩ := h.d
  exact TR.waiting_any dt l
theorem tp_ready1 (h : TP w wx g g2 X Z n m o q o2 q2) (hn : n ≤ 1000) : Calls Try.prog 32 #[.pointer (some ⟨g, 0, none⟩)] wx fun e w' => ∃ a k cap, e = .returned (.slice a k cap) ∧ Sl w' a k cap (readyT o q) ∧ Below wx.heap.size wx w' := by
  refine (to_ready h.p (by omega)).mono ?_
  rintro e w' ⟨v, l, rfl, own, b, hr, hm⟩
  have e : readyT o q = l := ready_eq hr (fun k => (hm k).trans (by rw [Ne, wtD_nil]))
  rw [e]
  obtain ⟨a, cap, rfl, s⟩ := own.sl
  exact ⟨a, _, cap, rfl, s, b⟩
theorem tp_ready2 (h : TP w wx g g2 X Z n m o q o2 q2) (hm : m ≤ 1000) : Calls Try.prog 36 #[.pointer (some ⟨g2, 0, none⟩)] wx fun e w' => ∃ a k cap, e = .returned (.slice a k cap) ∧ Sl w' a k cap (readyT o2 q2) ∧ Below wx.heap.size wx w' := by
  obtain ⟨M, N, ao, no, co, aq, nq, cq, dt, k1, k2, k3, k4⟩ := h.d
  exact TR.ready_any dt (by omega)
theorem tp_release1_no (h : TP w wx g g2 X Z n m o q o2 q2) {l v : Int} (hl : In64 l) (ho : ownT o l = -1 ∨ ownT o l ≠ v) :
    Calls Try.prog 57 #[.pointer (some ⟨g, 0, none⟩), .int .i64 l, .int .i64 v] wx fun e w' => e = .returned (.int .i64 6) ∧ wx = w' := to_release_no h.p hl ho
theorem tp_release2_no (h : TP w wx g g2 X Z n m o q o2 q2) {l v : Int} (h0 : 0 ≤ v) (ho : ownT o2 l ≠ v) :
    Calls Try.prog 44 #[.pointer (some ⟨g2, 0, none⟩), .int .i64 l, .int .i64 v] wx fun e w' => e = .returned (.bool false) ∧ Below wx.heap.size wx w' := by
  obtain ⟨M, N, ao, no, co, aq, nq, cq, dt, k1, k2, k3, k4⟩ := h.d
  refine TR.release_no dt l v (fun p hp hpe => ho ?_)
  have := own_at dt.ok hp
  rw [hpe.1, hpe.2] at this
  exact this
theorem tp_release1_ok (h : TP w wx g g2 X Z n m o q o2 q2) (ho : OkT o) {l v : Int} (hl : In64 l) (h0 : 0 ≤ v) {k : Nat} (hk : o[k]? = some (l, v)) :
    Calls Try.prog 57 #[.pointer (some ⟨g, 0, none⟩), .int .i64 l, .int .i64 v] wx fun e w' => e = .returned (.int .i64 0) ∧ Keep (NX w X) wx w' ∧ TP w w' g g2 X Z n m (o.eraseIdx k) q o2 q2 := by
  have e := own_at ho (List.mem_of_getElem? hk)
  simp only at e
  refine (to_release_ok h.p hl (by rw [e]; omega) e).mono ?_
  rintro e w' ⟨rfl, hK, p⟩
  exact ⟨rfl, hK, h.prog hK p (own_erase_upd ho hk) rfl⟩
theorem tp_release2_ok (h : TP w wx g g2 X Z n m o q o2 q2) {l v : Int} {k : Nat} (hk : o2[k]? = some (l, v)) (hno : ∀ (j : Nat) y, j < k → o2[j]? = some y → ¬ (y.1 = l ∧ y.2 = v)) (hm : m ≤ 1000) :
    Calls Try.prog 44 #[.pointer (some ⟨g2, 0, none⟩), .int .i64 l, .int .i64 v] wx fun e w' => e = .returned (.bool true) ∧
      ∃ X', (∀ j, X j → X' j) ∧ Keep (fun j => X j ∧ ¬ Z j) wx w' ∧ TP w w' g g2 X' Z n m o q (o2.eraseIdx k) q2 := by
  obtain ⟨M, N, ao, no, co, aq, nq, cq, dt, k1, k2, k3, k4⟩ := h.d
  refine (TR.release_ok dt l v hk hno (by omega)).mono ?_
  rintro e w' ⟨rfl, hK, _, ao', co', d'⟩
  refine ⟨rfl, h.doc (F := fun j => j = g2) (M := M) (N := N) (fun j hj => hj ▸ k3) hK d' (fun j hj => ?_) (by omega) (by omega)⟩
  rcases hj with hj | hj
  · exact .inr hj.1
  · exact .inl (k4 j (.inr hj))
theorem tp_next1_no (h : TP w wx g g2 X Z n m o q o2 q2) {l : Int} (hl : In64 l) (hn : ¬ (ownT o l = -1 ∧ waitT q l ≠ [])) :
    Calls Try.prog 34 #[.pointer (some ⟨g, 0, none⟩), .int .i64 l] wx fun e w' => e = .returned (.tuple #[.int .i64 0, .int .i64 0, .bool false]) ∧ wx = w' :=
  to_next_no h.p hl (fun hc => hn ⟨hc.1, fun e => hc.2 (wtD_nil.2 e)⟩)
theorem tp_next2_no (h : TP w wx g g2 X Z n m o q o2 q2) (l : Int) (hn : ¬ (ownT o2 l = -1 ∧ waitT q2 l ≠ [])) :
    Calls Try.prog 37 #[.pointer (some ⟨g2, 0, none⟩), .int .i64 l] wx fun e w' => e = .returned (.tuple #[.int .i64 0, .int .i64 0, .bool false]) ∧ Below wx.heap.size wx w' := by
  obtain ⟨M, N, ao, no, co, aq, nq, cq, dt, k1, k2, k3, k4⟩ := h.d
  by_cases e1 : ownT o2 l = -1
  · have e2 : waitT q2 l = [] := Classical.not_not.1 (fun e => hn ⟨e1, e⟩)
    refine TR.next_no2 dt l e1 (fun y hy e => ?_)
    unfold waitT at e2
    rw [List.filter_eq_nil_iff] at e2
    exact e2 y hy (decide_eq_true e)
  · exact TR.next_no1 dt l e1
theorem tp_next1_ok (h : TP w wx g g2 X Z n m o q o2 q2) (ho : OkT o) {l v d : Int} (hl : In64 l) (h1 : ownT o l = -1) (h0 : 0 ≤ v) {k : Nat} (hk : q[k]? = some ⟨l, v, d⟩) (hno : ∀ (j : Nat) y, j < k → q[j]? = some y → y.l ≠ l) (hn : n ≤ 1000) :
    Calls Try.prog 34 #[.pointer (some ⟨g, 0, none⟩), .int .i64 l] wx fun e w' => e = .returned (.tuple #[.int .i64 v, .int .i64 d, .bool true]) ∧ Keep (NX w X) wx w' ∧ TP w w' g g2 X Z (n + 1) m (o ++ [(l, v)]) (q.eraseIdx k) o2 q2 := by
  obtain ⟨e1, e2⟩ := wt_erase_upd hk hno
  refine (to_next_ok h.p hl h1 e1 (by omega)).mono ?_
  rintro e w' ⟨rfl, hK, p⟩
  exact ⟨rfl, hK, h.prog hK p (own_upd ho h1 h0) e2⟩
theorem tp_next2_ok (h : TP w wx g g2 X Z n m o q o2 q2) {l v d : Int} (h1 : ownT o2 l = -1) (h0 : 0 ≤ v) {k : Nat} (hk : q2[k]? = some ⟨l, v, d⟩) (hno : ∀ (j : Nat) y, j < k → q2[j]? = some y → y.l ≠ l) (hm : m ≤ 1000) :
    Calls Try.prog 37 #[.pointer (some ⟨g2, 0, none⟩), .int .i64 l] wx fun e w' => e = .returned (.tuple #[.int .i64 v, .int .i64 d, .bool true]) ∧
      ∃ X', (∀ j, X j → X' j) ∧ Keep (fun j => X j ∧ ¬ Z j) wx w' ∧ TP w w' g g2 X' Z n (m + 1) o q (o2 ++ [(l, v)]) (q2.eraseIdx k) := by
  obtain ⟨M, N, ao, no, co, aq, nq, cq, dt, k1, k2, k3, k4⟩ := h.d
  refine (TR.next_ok dt l v d h1 h0 hk hno (by omega) (by omega)).mono ?_
  rintro e w' ⟨rfl, hK, _, M', N', ao', co', aq', cq', hM, hN, d'⟩
  refine ⟨rfl, h.doc (M := M) (N := N) (fun j hj => ?_) hK d' (fun j hj => ?_) (by omega) (by omega)⟩
  · rcases hj with rfl | hj
    · exact k3
    · exact k4 j (.inl hj)
  · rcases hj with hj | hj
    · exact (hM j hj).imp (fun h => k4 j (.inl h)) (fun h => h)
    · exact .inr (hN j hj)
end
end Go.Proofs.Ytgeiagndpfdnlaa
end
section
namespace Go.Proofs.Ytgeiagndpfdnlaa
open Go.RowKit Go.Maps
set_option linter.unusedVariables false
set_option maxRecDepth 20000

def HO (w wx : World) (g1 g2 : Nat) (X : Nat → Prop) (N K : Int) (L : List Hr) (n : Nat) (own : Int → Int) (wt : Int → List (Int × Int)) : Prop :=
  ∃ B1 B2 : Nat → Prop, MO w wx g1 (fun j => j < wx.heap.size ∧ ¬ B1 j) N K L ∧ TO w wx g2 (fun j => j < wx.heap.size ∧ ¬ B2 j) n own wt ∧ (∀ j, B1 j → ¬ B2 j) ∧ (∀ j, B1 j ∨ B2 j → w.heap.size ≤ j ∧ j < wx.heap.size ∧ ¬ X j) ∧ ∀ j, X j → j < wx.heap.size
section
variable {w wx wy : World} {g1 g2 n : Nat} {X Y F : Nat → Prop} {N K : Int} {L L' : List Hr} {own own' : Int → Int} {wt wt' : Int → List (Int × Int)}
/-- The test writes its own, or has more. -/
theorem HO.step (h : HO w wx g1 g2 X N K L n own wt) (hk : Keep F wx wy) (hF : ∀ j, F j → w.heap.size ≤ j ∧ (X j ∨ wx.heap.size ≤ j)) (hY : ∀ j, Y j → (X j ∨ wx.heap.size ≤ j) ∧ j < wy.heap.size) : HO w wy g1 g2 Y N K L n own wt := by
  obtain ⟨B1, B2, m, t, h1, h2, h3⟩ := h
  have hs := hk.size
  have f : ∀ B : Nat → Prop, (∀ j, B j → w.heap.size ≤ j ∧ j < wx.heap.size ∧ ¬ X j) → ∀ j, F j → w.heap.size ≤ j ∧ ((j < wx.heap.size ∧ ¬ B j) ∨ wx.heap.size ≤ j) := fun B hB j hj => by
    obtain ⟨a, b⟩ := hF j hj
    exact ⟨a, b.imp (fun hx => ⟨h3 j hx, fun hb => (hB j hb).2.2 hx⟩) id⟩
  have y : ∀ B : Nat → Prop, ∀ j, (j < wy.heap.size ∧ ¬ B j) → ((j < wx.heap.size ∧ ¬ B j) ∨ wx.heap.size ≤ j) ∧ j < wy.heap.size := fun B j hj => by
    refine ⟨?_, hj.1⟩
    by_cases hlt : j < wx.heap.size
    · exact .inl ⟨hlt, hj.2⟩
    · exact .inr (by omega)
  refine ⟨B1, B2, m.step hk (f B1 (fun j hj => h2 j (.inl hj))) (y B1), t.wrgrow hk (f B2 (fun j hj => h2 j (.inr hj))) (y B2), h1, fun j hj => ?_, fun j hj => (hY j hj).2⟩
  obtain ⟨a, b, c⟩ := h2 j hj
  exact ⟨a, by omega, fun hy => (hY j hy).1.elim c (fun e => by omega)⟩
theorem HO.below (h : HO w wx g1 g2 X N K L n own wt) (hb : Below wx.heap.size wx wy) : HO w wy g1 g2 X N K L n own wt := by
  have hX : ∀ j, X j → j < wx.heap.size := by obtain ⟨B1, B2, m, t, h1, h2, h3⟩ := h; exact h3
  exact h.step (F := fun _ => False) (Keep.of_below hb) (fun _ h => h.elim) (fun j hj => ⟨.inl hj, Nat.lt_of_lt_of_le (hX j hj) hb.size⟩)
/-- After a call on the directory. -/
theorem ho_dir {B1 B2 : Nat → Prop} (t : TO w wx g2 (fun j => j < wx.heap.size ∧ ¬ B2 j) n own wt) (h1 : ∀ j, B1 j → ¬ B2 j) (h2 : ∀ j, B1 j ∨ B2 j → w.heap.size ≤ j ∧ j < wx.heap.size ∧ ¬ X j) (h3 : ∀ j, X j → j < wx.heap.size)
    (hk : Keep (NX w (fun j => j < wx.heap.size ∧ ¬ B1 j)) wx wy) (m : MO w wy g1 (fun j => j < wx.heap.size ∧ ¬ B1 j) N K L') : Keep (NX w X) wx wy ∧ HO w wy g1 g2 X N K L' n own wt := by
  have hs := hk.size
  have hw := t.bel.size
  have hB : ∀ j, ¬ (j < wx.heap.size ∧ ¬ B1 j) → B1 j ∨ wx.heap.size ≤ j := fun j hj => by
    by_cases hb : B1 j
    · exact .inl hb
    · exact .inr (Nat.le_of_not_lt (fun hlt => hj ⟨hlt, hb⟩))
  refine ⟨hk.mono (fun j hj hn => ⟨hn.1, fun hx => ?_⟩), fun j => B1 j ∨ (wx.heap.size ≤ j ∧ j < wy.heap.size), B2, m.grow (Below.refl _ _) (fun j hj => ⟨.inl ?_, hj.1⟩), t.wrgrow hk (fun j hj => ⟨hj.1, ?_⟩) (fun j hj => ⟨?_, hj.1⟩), fun j hj hb => ?_, fun j hj => ?_, fun j hj => Nat.lt_of_lt_of_le (h3 j hj) hs⟩
  · rcases hB j hn.2 with hb | hge
    · exact (h2 j (.inl hb)).2.2 hx
    · omega
  · by_cases hlt : j < wx.heap.size
    · exact ⟨hlt, fun hb => hj.2 (.inl hb)⟩
    · exact absurd (.inr ⟨by omega, hj.1⟩) hj.2
  · rcases hB j hj.2 with hb | hge
    · exact .inl ⟨(h2 j (.inl hb)).2.1, h1 j hb⟩
    · exact .inr hge
  · by_cases hlt : j < wx.heap.size
    · exact .inl ⟨hlt, hj.2⟩
    · exact .inr (by omega)
  · rcases hj with hj | hj
    · exact h1 j hj hb
    · have := (h2 j (.inr hb)).2.1
      omega
  · rcases hj with (hj | hj) | hj
    · obtain ⟨a, b, c⟩ := h2 j (.inl hj)
      exact ⟨a, by omega, c⟩
    · exact ⟨by omega, hj.2, fun hx => by have := h3 j hx; omega⟩
    · obtain ⟨a, b, c⟩ := h2 j (.inr hj)
      exact ⟨a, by omega, c⟩
/-- After a call on the turns. -/
theorem ho_turn {B1 B2 : Nat → Prop} {n' : Nat} (m : MO w wx g1 (fun j => j < wx.heap.size ∧ ¬ B1 j) N K L) (h1 : ∀ j, B1 j → ¬ B2 j) (h2 : ∀ j, B1 j ∨ B2 j → w.heap.size ≤ j ∧ j < wx.heap.size ∧ ¬ X j) (h3 : ∀ j, X j → j < wx.heap.size)
    (hk : Keep (NX w (fun j => j < wx.heap.size ∧ ¬ B2 j)) wx wy) (t : TO w wy g2 (fun j => j < wx.heap.size ∧ ¬ B2 j) n' own' wt') : Keep (NX w X) wx wy ∧ HO w wy g1 g2 X N K L n' own' wt' := by
  have hs := hk.size
  have hw := m.bel.size
  have hB : ∀ j, ¬ (j < wx.heap.size ∧ ¬ B2 j) → B2 j ∨ wx.heap.size ≤ j := fun j hj => by
    by_cases hb : B2 j
    · exact .inl hb
    · exact .inr (Nat.le_of_not_lt (fun hlt => hj ⟨hlt, hb⟩))
  refine ⟨hk.mono (fun j hj hn => ⟨hn.1, fun hx => ?_⟩), B1, fun j => B2 j ∨ (wx.heap.size ≤ j ∧ j < wy.heap.size), m.step hk (fun j hj => ⟨hj.1, ?_⟩) (fun j hj => ⟨?_, hj.1⟩), t.grow (Below.refl _ _) (fun j hj => ⟨.inl ?_, hj.1⟩), fun j hb hj => ?_, fun j hj => ?_, fun j hj => Nat.lt_of_lt_of_le (h3 j hj) hs⟩
  · rcases hB j hn.2 with hb | hge
    · exact (h2 j (.inr hb)).2.2 hx
    · omega
  · rcases hB j hj.2 with hb | hge
    · exact .inl ⟨(h2 j (.inr hb)).2.1, fun hb1 => h1 j hb1 hb⟩
    · exact .inr hge
  · by_cases hlt : j < wx.heap.size
    · exact .inl ⟨hlt, hj.2⟩
    · exact .inr (by omega)
  · by_cases hlt : j < wx.heap.size
    · exact ⟨hlt, fun hb => hj.2 (.inl hb)⟩
    · exact absurd (.inr ⟨by omega, hj.1⟩) hj.2
  · rcases hj with hj | hj
    · exact h1 j hb hj
    · have := (h2 j (.inl hb)).2.1
      omega
  · rcases hj with hj | (hj | hj)
    · obtain ⟨a, b, c⟩ := h2 j (.inl hj)
      exact ⟨a, by omega, c⟩
    · obtain ⟨a, b, c⟩ := h2 j (.inr hj)
      exact ⟨a, by omega, c⟩
    · exact ⟨by omega, hj.2, fun hx => by have := h3 j hx; omega⟩
end
end Go.Proofs.Ytgeiagndpfdnlaa
end
section
namespace Go.Proofs.Ytgeiagndpfdnlaa
open Go.RowKit Go.Maps
set_option linter.unusedVariables false
set_option maxRecDepth 20000

def HP (w wx : World) (g1 g2 : Nat) (X : Nat → Prop) (N K : Int) (L : List Hr) (n : Nat) (o : List (Int × Int)) (q : List Wr) : Prop := HO w wx g1 g2 X N K L n (ownT o) (wtD q) ∧ OkT o
section
variable {w wx wy : World} {g1 g2 n : Nat} {X Y F : Nat → Prop} {N K : Int} {L L' : List Hr} {o : List (Int × Int)} {q : List Wr}
theorem HP.step (h : HP w wx g1 g2 X N K L n o q) (hk : Keep F wx wy) (hF : ∀ j, F j → w.heap.size ≤ j ∧ (X j ∨ wx.heap.size ≤ j)) (hY : ∀ j, Y j → (X j ∨ wx.heap.size ≤ j) ∧ j < wy.heap.size) : HP w wy g1 g2 Y N K L n o q := ⟨h.1.step hk hF hY, h.2⟩
theorem HP.below (h : HP w wx g1 g2 X N K L n o q) (hb : Below wx.heap.size wx wy) : HP w wy g1 g2 X N K L n o q := ⟨h.1.below hb, h.2⟩
theorem HP.xl (h : HP w wx g1 g2 X N K L n o q) : ∀ j, X j → j < wx.heap.size := by
  obtain ⟨⟨B1, B2, m, t, h1, h2, h3⟩, ok⟩ := h
  exact h3
theorem HP.bel (h : HP w wx g1 g2 X N K L n o q) : Below w.heap.size w wx := by
  obtain ⟨⟨B1, B2, m, t, h1, h2, h3⟩, ok⟩ := h
  exact m.bel
/-- A directory that was made between two moments. -/
theorem mo_span {wa : World} {a0 : Nat} (m : MO w wa g1 (fun j => j < a0) N K L) (hb : Below wa.heap.size wa wy) : MO w wy g1 (fun j => j < wy.heap.size ∧ ¬ (a0 ≤ j ∧ j < wa.heap.size)) N K L :=
  m.grow hb (fun j hj => ⟨by
    by_cases h : j < a0
    · exact .inl h
    · exact .inr (Nat.le_of_not_lt (fun hlt => hj.2 ⟨by omega, hlt⟩)), hj.1⟩)
theorem to_span {wa : World} {a0 : Nat} {own : Int → Int} {wt : Int → List (Int × Int)} (t : TO w wa g2 (fun j => j < a0) n own wt) (hb : Below wa.heap.size wa wy) : TO w wy g2 (fun j => j < wy.heap.size ∧ ¬ (a0 ≤ j ∧ j < wa.heap.size)) n own wt :=
  t.grow hb (fun j hj => ⟨by
    by_cases h : j < a0
    · exact .inl h
    · exact .inr (Nat.le_of_not_lt (fun hlt => hj.2 ⟨by omega, hlt⟩)), hj.1⟩)
/-- Both, new: made one behind the other. -/
theorem hp_make {wa wb : World} {a0 b0 : Nat} (hw : w.heap.size ≤ a0) (hw2 : w.heap.size ≤ b0) (hX : ∀ j, X j → j < a0 ∧ j < b0) (m : MO w wa g1 (fun j => j < a0) N K L) (t : TO w wb g2 (fun j => j < b0) n (fun _ => -1) (fun _ => [])) (h : wa.heap.size ≤ b0 ∨ wb.heap.size ≤ a0) (ha : Below wa.heap.size wa wy) (hb : Below wb.heap.size wb wy) :
    HP w wy g1 g2 X N K L n [] [] := by
  have e1 : ownT [] = fun _ => -1 := rfl
  have e2 : wtD [] = fun _ => [] := rfl
  have s1 := ha.size
  have s2 := hb.size
  have a1 : a0 ≤ wa.heap.size := by
    rcases Nat.lt_or_ge wa.heap.size a0 with hlt | hge
    · have := m.xl _ hlt; omega
    · exact hge
  refine ⟨⟨fun j => a0 ≤ j ∧ j < wa.heap.size, fun j => b0 ≤ j ∧ j < wb.heap.size, mo_span m ha, by rw [e1, e2]; exact to_span t hb, fun j h1 h2 => by omega, fun j hj => ?_, fun j hj => by have := hX j hj; omega⟩, ok_nil⟩
  rcases hj with hj | hj
  · exact ⟨by omega, by omega, fun hx => by have := hX j hx; omega⟩
  · exact ⟨by omega, by omega, fun hx => by have := hX j hx; omega⟩
theorem hp_row (h : HP w wx g1 g2 X N K L n o q) {l : Int} (hl : In64 l) : Calls Try.prog 45 #[.pointer (some ⟨g1, 0, none⟩), .int .i64 l] wx fun e w' =>
    ∃ a cap, e = .returned (.tuple #[(rowL L l).val (.slice a (rowL L l).z.length cap), .bool (hasH L l)]) ∧ Own w' wx.heap.size (.slice a (rowL L l).z.length cap) (rowL L l).z ∧ Below wx.heap.size wx w' := by
  obtain ⟨⟨B1, B2, m, t, h1, h2, h3⟩, ok⟩ := h
  exact mo_row m hl
theorem hp_set (h : HP w wx g1 g2 X N K L n o q) {l : Int} (hl : In64 l) (s hd : Int) (a : Option Addr) (nz cap : Nat) (z : List Int) (hs : Sl wx a nz cap z) (hb : nz ≤ 17592186044416) :
    Calls Try.prog 55 #[.pointer (some ⟨g1, 0, none⟩), .int .i64 l, .int .i64 s, .int .i64 hd, .slice a nz cap] wx fun e w' => e = .returned (.int .i64 (setR N K L l s hd z).1) ∧ Keep (NX w X) wx w' ∧ HP w w' g1 g2 X N K (setR N K L l s hd z).2 n o q := by
  obtain ⟨⟨B1, B2, m, t, h1, h2, h3⟩, ok⟩ := h
  refine (mo_set m hl s hd a nz cap z hs hb).mono ?_
  rintro e w' ⟨rfl, hk, m'⟩
  obtain ⟨k, r⟩ := ho_dir t h1 h2 h3 hk m'
  exact ⟨rfl, k, r, ok⟩
theorem hp_owner (h : HP w wx g1 g2 X N K L n o q) {l : Int} (hl : In64 l) : Calls Try.prog 11 #[.pointer (some ⟨g2, 0, none⟩), .int .i64 l] wx fun e w' => e = .returned (.int .i64 (ownT o l)) ∧ wx = w' := by
  obtain ⟨⟨B1, B2, m, t, h1, h2, h3⟩, ok⟩ := h
  exact to_owner t hl
theorem hp_waiting (h : HP w wx g1 g2 X N K L n o q) {l : Int} (hl : In64 l) : Calls Try.prog 12 #[.pointer (some ⟨g2, 0, none⟩), .int .i64 l] wx fun e w' => e = .returned (.int .i64 ((waitT q l).length : Int)) ∧ wx = w' := by
  obtain ⟨⟨B1, B2, m, t, h1, h2, h3⟩, ok⟩ := h
  refine (to_waiting t hl).mono ?_
  rintro e w' ⟨rfl, k⟩
  exact ⟨by unfold wtD; rw [List.length_map], k⟩
theorem hp_ready (h : HP w wx g1 g2 X N K L n o q) (hn : n ≤ 1000) : Calls Try.prog 32 #[.pointer (some ⟨g2, 0, none⟩)] wx fun e w' => ∃ v, e = .returned v ∧ Own w' wx.heap.size v (readyT o q) ∧ Below wx.heap.size wx w' := by
  obtain ⟨⟨B1, B2, m, t, h1, h2, h3⟩, ok⟩ := h
  refine (to_ready t (by omega)).mono ?_
  rintro e w' ⟨v, l, rfl, own, b, hr, hm⟩
  have e : readyT o q = l := ready_eq hr (fun k => (hm k).trans (by rw [Ne, wtD_nil]))
  rw [e]
  exact ⟨v, rfl, own, b⟩
theorem ok_ask (ok : OkT o) {l v : Int} (h2 : 0 ≤ v) : OkT (askO o q l v) := by
  unfold askO
  split
  · rename_i hb
    have hb : ownT o l = -1 ∧ waitT q l = [] := of_decide_eq_true hb
    exact ok_snoc ok hb.1 h2
  · exact ok
theorem hp_ask (h : HP w wx g1 g2 X N K L n o q) {l v : Int} (d : Int) (hl : In64 l) (h1 : 0 ≤ l) (h2 : 0 ≤ v) (hn : n ≤ 1000) :
    Calls Try.prog 54 #[.pointer (some ⟨g2, 0, none⟩), .int .i64 l, .int .i64 v, .int .i64 d] wx fun e w' => e = .returned (.bool (askB o q l)) ∧ Keep (NX w X) wx w' ∧ HP w w' g1 g2 X N K L (n + 1) (askO o q l v) (askQ o q l v d) := by
  have ok' := ok_ask (q := q) (l := l) h.2 h2
  obtain ⟨⟨B1, B2, m, t, k1, k2, k3⟩, ok⟩ := h
  unfold HP
  refine Calls.mono (?_ : Calls _ _ _ _ (fun e w' => e = .returned (.bool (askB o q l)) ∧ Keep (NX w X) wx w' ∧ HO w w' g1 g2 X N K L (n + 1) (ownT (askO o q l v)) (wtD (askQ o q l v d)))) (fun e w' hh => ⟨hh.1, hh.2.1, hh.2.2, ok'⟩)
  unfold askO askQ
  by_cases hb : ownT o l = -1 ∧ waitT q l = []
  · have e : askB o q l = true := decide_eq_true hb
    rw [e, if_pos rfl, if_pos rfl]
    refine (to_ask_own t d hl h1 h2 hb.1 (wtD_nil.2 hb.2) (by omega)).mono ?_
    rintro e w' ⟨rfl, hk, p⟩
    rw [own_upd ok hb.1 h2] at p
    exact ⟨rfl, ho_turn m k1 k2 k3 hk p⟩
  · have e : askB o q l = false := decide_eq_false hb
    rw [e, if_neg (by simp), if_neg (by simp)]
    refine (to_ask_wait t d hl h1 h2 ?_ (by omega)).mono ?_
    · by_cases e1 : ownT o l = -1
      · exact .inr (fun e2 => hb ⟨e1, wtD_nil.1 e2⟩)
      · exact .inl e1
    · rintro e w' ⟨rfl, hk, p⟩
      rw [wt_upd q l v d] at p
      exact ⟨rfl, ho_turn m k1 k2 k3 hk p⟩
theorem hp_release (h : HP w wx g1 g2 X N K L n o q) {l v : Int} (hl : In64 l) (h0 : 0 ≤ v) (ho : ownT o l = v) :
    Calls Try.prog 57 #[.pointer (some ⟨g2, 0, none⟩), .int .i64 l, .int .i64 v] wx fun e w' => e = .returned (.int .i64 0) ∧ Keep (NX w X) wx w' ∧ HP w w' g1 g2 X N K L n (relO o l) q := by
  obtain ⟨⟨B1, B2, m, t, k1, k2, k3⟩, ok⟩ := h
  obtain ⟨k, hk, hno⟩ := own_place ok h0 ho
  rw [← erase_rel ok hk]
  refine (to_release_ok t hl (by omega) ho).mono ?_
  rintro e w' ⟨rfl, hK, p⟩
  rw [own_erase_upd ok hk] at p
  obtain ⟨a, b⟩ := ho_turn m k1 k2 k3 hK p
  exact ⟨rfl, a, b, ok_erase ok k⟩
theorem hp_next (h : HP w wx g1 g2 X N K L n o q) {l v d : Int} (hl : In64 l) (h1 : ownT o l = -1) (h0 : 0 ≤ v) (hk : nextW q l = some ⟨l, v, d⟩) (hn : n ≤ 1000) :
    Calls Try.prog 34 #[.pointer (some ⟨g2, 0, none⟩), .int .i64 l] wx fun e w' => e = .returned (.tuple #[.int .i64 v, .int .i64 d, .bool true]) ∧ Keep (NX w X) wx w' ∧ HP w w' g1 g2 X N K L (n + 1) (o ++ [(l, v)]) (nextQ q l) := by
  obtain ⟨⟨B1, B2, m, t, k1, k2, k3⟩, ok⟩ := h
  obtain ⟨k, hk, hno, hq⟩ := next_place hk
  rw [hq]
  obtain ⟨e1, e2⟩ := wt_erase_upd hk hno
  refine (to_next_ok t hl h1 e1 (by omega)).mono ?_
  rintro e w' ⟨rfl, hK, p⟩
  rw [own_upd ok h1 h0, e2] at p
  obtain ⟨a, b⟩ := ho_turn m k1 k2 k3 hK p
  exact ⟨rfl, a, b, ok_snoc ok h1 h0⟩
end
end Go.Proofs.Ytgeiagndpfdnlaa
end
section
namespace Go.Proofs.Ytgeiagndpfdnlaa
open Go.RowKit
set_option linter.unusedVariables false

theorem pw_any (a n b : Int) (w : World) :
    Calls Try.prog 64 #[.int .i64 a, .int .i64 n, .int .i64 b] w fun e w' => e = .returned (.bool (pkInB a n b)) ∧ w = w' := by
  by_cases h : a ≤ n
  · have h' : decide (a ≤ n) = true := decide_eq_true h
    go_enter Try.func64, Try.ntmps64
    go_wp2
    go_ret
    exact ⟨ret_bool (by unfold pkInB; simp [h]), rfl⟩
  · have h' : decide (a ≤ n) = false := decide_eq_false h
    go_enter Try.func64, Try.ntmps64
    go_wp2
    go_ret
    exact ⟨ret_bool (inB_f (by omega)).symm, rfl⟩
theorem inB_not {a n b : Int} (h : (!pkInB a n b) = true) : pkInB a n b = false := by simpa using h

set_option maxHeartbeats 1000000 in
theorem pkCheck_any (x : Pk) (a : Option Addr) (n cap : Nat) (w : World) (hsl : Sl w a n cap x.z) :
    Calls Try.prog 52 #[x.val (.slice a n cap)] w fun e w' => e = .returned (.int .i64 x.err) ∧ Below w.heap.size w w' := by
  have hl := hsl.len
  have hle := hsl.le
  have hmx := hsl.max
  unfold maxLen at hmx
  obtain ⟨k, f, t, i, l, p, s, fl, z⟩ := x
  simp only at hl
  have HE : ∀ v : Int, Pk.err ⟨k, f, t, i, l, p, s, fl, z⟩ = v → Ending.returned (.int .i64 v) = Ending.returned (.int .i64 (Pk.err ⟨k, f, t, i, l, p, s, fl, z⟩)) := fun v h => by rw [h]
  have H1 : Hid (pkInB 1 k 9 = false ∨ pkInB 0 f 5 = false ∨ pkInB 0 t 5 = false ∨ pkInB 0 i 4095 = false ∨ pkInB 0 l 7 = false ∨ pkInB (-1) p 5 = false ∨ pkInB 0 s 2 = false ∨ 4 < (n : Int) → Pk.err ⟨k, f, t, i, l, p, s, fl, z⟩ = 1) := fun h => Pk.err_f (by unfold Pk.right; rcases h with h | h | h | h | h | h | h | h <;> simp [h]; omega)
  have H0 : Hid (pkInB 1 k 9 = true → pkInB 0 f 5 = true → pkInB 0 t 5 = true → pkInB 0 i 4095 = true → pkInB 0 l 7 = true → pkInB (-1) p 5 = true → pkInB 0 s 2 = true → (n : Int) ≤ 4 → Pk.err ⟨k, f, t, i, l, p, s, fl, z⟩ = 0) := fun h1 h2 h3 h4 h5 h6 h7 h8 => Pk.err_t (by unfold Pk.right; simp [h1, h2, h3, h4, h5, h6, h7]; omega)
  unfold Pk.val
  go_enter Try.func52, Try.ntmps52
  go_wp2_with (go_at_call 64; refine (pw_any _ _ _ _).mono ?_; rintro e w1 ⟨rfl, rfl⟩)
  all_goals go_ret
  all_goals refine ⟨HE _ ?_, (Below.refl _ _).alloc (Nat.le_refl _) _⟩
  all_goals clear HE
  all_goals simp only [Bool.not_eq_true', Bool.not_eq_false'] at *
  all_goals first
    | exact H0.out (by assumption) (by assumption) (by assumption) (by assumption) (by assumption) (by assumption) (by assumption) (by assumption)
    | exact H1.out (.inl (by assumption))
    | exact H1.out (.inr (.inl (by assumption)))
    | exact H1.out (.inr (.inr (.inl (by assumption))))
    | exact H1.out (.inr (.inr (.inr (.inl (by assumption)))))
    | exact H1.out (.inr (.inr (.inr (.inr (.inl (by assumption))))))
    | exact H1.out (.inr (.inr (.inr (.inr (.inr (.inl (by assumption)))))))
    | exact H1.out (.inr (.inr (.inr (.inr (.inr (.inr (.inl (by assumption))))))))
    | exact H1.out (.inr (.inr (.inr (.inr (.inr (.inr (.inr (by assumption))))))))
    | (exfalso; clear H0 H1; simp_all; done)
end Go.Proofs.Ytgeiagndpfdnlaa
end
section
namespace Go.Proofs.Ytgeiagndpfdnlaa
open Go.RowKit
set_option linter.unusedVariables false

theorem hd_own {w : World} {base : Nat} (m : List Int) (h8 : B.B8 m) (hm : m.length ≤ maxLen) (g : Nat) (hb : base ≤ g) (h : w.heap[g]? = some (.cells (B.cells m).toArray 5 (0, 0))) : B.Own w base (.slice (some ⟨g, 0, none⟩) m.length m.length) m :=
  ⟨⟨by simp [B.cells], Or.inr ⟨g, m.length, (B.cells m).toArray, rfl, hb, h, Nat.le_refl _, hm, by simp [B.cells], by rw [Nat.mul_one]; exact List.take_of_length_le (by simp [B.cells])⟩⟩, h8⟩

end Go.Proofs.Ytgeiagndpfdnlaa
end
section
namespace Go.Proofs.Ytgeiagndpfdnlaa
open Go.RowKit
set_option linter.unusedVariables false
set_option maxRecDepth 20000

theorem cell_one' (w : World) (x : Int) : ∀ j u, (B.cells [x])[j]? = some u → (w.alloc (.cells #[.int .u8 x] 5)).cell? ((⟨w.heap.size, 0, none⟩ : Addr).add j) = some u := by
  intro j u hu
  obtain ⟨hj, rfl⟩ := B.cells_get hu
  rw [Addr.add_lit, Nat.zero_add, cell_of_row _ _ _ _ 5 (0, 0) (heap_alloc_new w _)]
  simp at hj
  match j, hj with
  | 0, _ => rfl

theorem sealI_len (l : List Int) : (B.sealI l).length = l.length + 2 := by simp [B.sealI]
theorem B.Own.low {w : World} {base base' : Nat} {v : Value} {l : List Int} (h : B.Own w base v l) (hb : base' ≤ base) : B.Own w base' v l := by
  refine ⟨⟨h.1.1, h.1.2.imp id ?_⟩, h.2⟩
  rintro ⟨g, cap, cur, e, hg, rest⟩
  exact ⟨g, cap, cur, e, Nat.le_trans hb hg, rest⟩

def lockPk : Pk := ⟨1, 0, 0, 0, 0, 0, 0, false, []⟩
theorem lock_right : lockPk.right = true := by decide
end Go.Proofs.Ytgeiagndpfdnlaa
end
section
namespace Go.Proofs.Ytgeiagndpfdnlaa
open Go.RowKit
set_option linter.unusedVariables false
set_option maxRecDepth 20000

def ansI (k : Int) : Int := if k = 1 then 7 else if k = 2 ∨ k = 4 ∨ k = 5 then 8 else if k = 3 ∨ k = 6 then 9 else 0
set_option maxHeartbeats 400000 in
theorem answer_any (k : Int) (w : World) :
    Calls Try.prog 58 #[.int .i64 k] w fun e w' => e = .returned (.int .i64 (ansI k)) ∧ w = w' := by
  have HE : Hid (∀ v : Int, ansI k = v → Ending.returned (.int .i64 v) = Ending.returned (.int .i64 (ansI k))) := fun v h => by rw [h]
  go_enter Try.func58, Try.ntmps58
  go_wp2
  all_goals go_ret
  all_goals refine ⟨HE.out _ ?_, rfl⟩
  all_goals clear HE
  all_goals unfold ansI
  all_goals simp only [beq_iff_eq, beq_eq_false_iff_ne, ne_eq] at *
  all_goals first | (exfalso; simp_all; done) | (repeat (first | rw [if_pos (by omega)] | rw [if_neg (by omega)]))
theorem ans_no {k : Int} (h : k < 1 ∨ 6 < k) : ansI k = 0 := by unfold ansI; rw [if_neg (by omega), if_neg (by omega), if_neg (by omega)]
theorem ans_yes {k : Int} (h : 1 ≤ k ∧ k ≤ 6) : 7 ≤ ansI k ∧ ansI k ≤ 9 := by unfold ansI; repeat (first | omega | split)
end Go.Proofs.Ytgeiagndpfdnlaa
end
section
namespace Go.Proofs.Ytgeiagndpfdnlaa
open Go.RowKit
set_option linter.unusedVariables false
set_option maxRecDepth 20000

end Go.Proofs.Ytgeiagndpfdnlaa
end
section
namespace Go.Proofs.Ytgeiagndpfdnlaa
open Go.RowKit
set_option linter.unusedVariables false
set_option maxRecDepth 20000

end Go.Proofs.Ytgeiagndpfdnlaa
end
section
namespace Go.Proofs.Ytgeiagndpfdnlaa
open Go.RowKit Go.Maps
set_option linter.unusedVariables false
set_option maxRecDepth 20000

structure PH (w wx : World) (g g1 g2 : Nat) (X : Nat → Prop) (N : Nat) (K node : Int) (L : List Hr) (n : Nat) (o : List (Int × Int)) (q : List Wr) : Prop where
  hp : HP w wx g1 g2 (fun j => X j ∨ j = g) N K L n o q
  c0 : wx.cell? ⟨g, 0, none⟩ = some (.pointer (some ⟨g1, 0, none⟩))
  c1 : wx.cell? ⟨g, 1, none⟩ = some (.pointer (some ⟨g2, 0, none⟩))
  c2 : wx.cell? ⟨g, 2, none⟩ = some (.int .i64 node)
  c3 : wx.cell? ⟨g, 3, none⟩ = some (.int .i64 (N : Int))
  lt : g < wx.heap.size
  nx : NX w X g
  kb : K ≤ 1000
section
variable {w wx wy : World} {g g1 g2 n N : Nat} {X Y F : Nat → Prop} {K node : Int} {L L' : List Hr} {o o' : List (Int × Int)} {q q' : List Wr}
theorem PH.step (h : PH w wx g g1 g2 X N K node L n o q) (hk : Keep F wx wy) (hF : ∀ j, F j → w.heap.size ≤ j ∧ (X j ∨ wx.heap.size ≤ j)) (hY : ∀ j, Y j → (X j ∨ wx.heap.size ≤ j) ∧ j < wy.heap.size) : PH w wy g g1 g2 Y N K node L n o q := by
  have hf : ¬ F g := fun hf => (hF g hf).2.elim h.nx.2 (fun e => by have := h.lt; omega)
  have ec := fun i => hk.cell (b := g) i h.lt hf
  refine ⟨h.hp.step hk (fun j hj => ⟨(hF j hj).1, (hF j hj).2.imp .inl id⟩) (fun j hj => ?_), (ec _).trans h.c0, (ec _).trans h.c1, (ec _).trans h.c2, (ec _).trans h.c3, Nat.lt_of_lt_of_le h.lt hk.size, ⟨h.nx.1, fun hy => (hY g hy).1.elim h.nx.2 (fun e => by have := h.lt; omega)⟩, h.kb⟩
  rcases hj with hj | rfl
  · exact ⟨(hY j hj).1.imp .inl id, (hY j hj).2⟩
  · exact ⟨.inl (.inr rfl), Nat.lt_of_lt_of_le h.lt hk.size⟩
theorem PH.below (h : PH w wx g g1 g2 X N K node L n o q) (hb : Below wx.heap.size wx wy) : PH w wy g g1 g2 X N K node L n o q :=
  h.step (F := fun _ => False) (Keep.of_below hb) (fun _ h => h.elim) (fun j hj => ⟨.inl hj, Nat.lt_of_lt_of_le (h.hp.xl j (.inl hj)) hb.size⟩)
theorem PH.bel (h : PH w wx g g1 g2 X N K node L n o q) : Below w.heap.size w wx := h.hp.bel
theorem PH.xl (h : PH w wx g g1 g2 X N K node L n o q) : ∀ j, X j → j < wx.heap.size := fun j hj => h.hp.xl j (.inl hj)
/-- After a call on its directory, or its turns. -/
theorem PH.call (h : PH w wx g g1 g2 X N K node L n o q) {n' : Nat} (hk : Keep (NX w (fun j => X j ∨ j = g)) wx wy) (p : HP w wy g1 g2 (fun j => X j ∨ j = g) N K L' n' o' q') : Keep (NX w X) wx wy ∧ PH w wy g g1 g2 X N K node L' n' o' q' := by
  have ec := fun i => hk.cell (b := g) i h.lt (fun hf => hf.2 (.inr rfl))
  exact ⟨hk.mono (fun j _ hj => ⟨hj.1, fun hx => hj.2 (.inl hx)⟩), p, (ec _).trans h.c0, (ec _).trans h.c1, (ec _).trans h.c2, (ec _).trans h.c3, Nat.lt_of_lt_of_le h.lt hk.size, h.nx, h.kb⟩
theorem PH.setN (h : PH w wx g g1 g2 X N K node L n o q) {m : Nat} (hm : n ≤ m) : PH w wx g g1 g2 X N K node L m o q := by
  obtain ⟨⟨⟨B1, B2, m1, t, h1⟩, ok⟩, c0, c1, c2, c3, lt, nx, kb⟩ := h
  exact ⟨⟨⟨B1, B2, m1, t.more hm, h1⟩, ok⟩, c0, c1, c2, c3, lt, nx, kb⟩
theorem PH.rlen (h : PH w wx g g1 g2 X N K node L n o q) (l : Int) : (rowL L l).z.length ≤ 1000 := by
  obtain ⟨⟨B1, B2, m1, t, h1⟩, ok⟩ := h.hp
  have kb := h.kb
  cases hh : hasH L l with
  | true => have := m1.zl _ (hasH_mem hh).1; omega
  | false =>
    have hr : rowL L l = zeroHr := by
      unfold hasH at hh
      unfold rowL
      cases hg : getK hOf l L with
      | none => rfl
      | some e => rw [hg] at hh; cases hh
    rw [hr]
    show 0 ≤ 1000
    omega
end
theorem chk_true {N L K S Y O I nv : Nat} (h : CfgB N L K S Y O I) (hl : nv ≤ L * K) : chk N L K S Y O I nv = true := by
  obtain ⟨N0, N1, L0, L1, K0, K1, S0, S1, Y0, Y1, O0, O1, I0, I1⟩ := h
  have e : ((L : Int) * (K : Int)) = ((L * K : Nat) : Int) := by simp
  unfold chk inB
  rw [e]
  simp only [Bool.and_eq_true, decide_eq_true_eq]
  omega
/-- What is granted. -/
def grantR (node who id l : Int) (L : List Hr) : Pk := ⟨7, node, who, id, l, (rowL L l).h, (rowL L l).s, false, (rowL L l).z⟩
end Go.Proofs.Ytgeiagndpfdnlaa
end
section
namespace Go.Proofs.Ytgeiagndpfdnlaa
open Go.RowKit Go.Maps
set_option linter.unusedVariables false
set_option maxRecDepth 20000

section
variable {w wx : World} {g g1 g2 n N : Nat} {X : Nat → Prop} {K node : Int} {L : List Hr} {o : List (Int × Int)} {q : List Wr}
set_option maxHeartbeats 800000 in
theorem hans_any (h : PH w wx g g1 g2 X N K node L n o q) (rq line who idn : Int) :
    Calls Try.prog 31 #[.pointer (some ⟨g, 0, none⟩), .int .i64 rq, .int .i64 line, .int .i64 who, .int .i64 idn] wx fun e w' => e = .returned ((⟨ansI rq, node, who, idn, line, 0, 0, false, []⟩ : Pk).val (.slice none 0 0)) ∧ Below wx.heap.size wx w' := by
  have c2 := h.c2
  have hg := h.lt
  clear h
  go_enter Try.func31, Try.ntmps31
  go_upto_region 1 with fail
  have hB : Below wx.heap.size wx (wx.alloc (.cells #[.int .i64 0, .int .i64 0, .int .i64 0, .int .i64 0, .int .i64 0, .int .i64 0, .int .i64 0, .bool false, .slice none 0 0] 32)) := ba (Below.refl _ _)
  have bxr : Bx (wx.alloc (.cells #[.int .i64 0, .int .i64 0, .int .i64 0, .int .i64 0, .int .i64 0, .int .i64 0, .int .i64 0, .bool false, .slice none 0 0] 32)) wx.heap.size zeroPk (.slice none 0 0) := Bx.made wx zeroPk (.slice none 0 0)
  replace c2 := (hB.cell (p := ⟨g, 2, none⟩) hg).trans c2
  replace hg := Nat.lt_of_lt_of_le hg hB.size
  generalize World.alloc _ (.cells #[.int .i64 0, .int .i64 0, .int .i64 0, .int .i64 0, .int .i64 0, .int .i64 0, .int .i64 0, .bool false, .slice none 0 0] 32) = W at *
  refine wp_region_orders 11 rfl (by kernel_rfl) ?_
  have Bd : Below W.heap.size W W.drew := (Below.refl _ _).drew
  have hI : (fun V => V.cell? ⟨g, 2, none⟩ = some (.int .i64 node)) W.drew := (Bd.cell (p := ⟨g, 2, none⟩) hg).trans c2
  have br := bxr.next Bd
  have hB2 := next hB Bd
  clear c2 hg hB bxr Bd
  generalize W.drew = V at *
  refine any_inv (fun V => V.cell? ⟨g, 2, none⟩ = some (.int .i64 node)) [10] hI ?_
  refine inv_take (v := ?v1) [1, 9, 10] 0 hI rfl (by kernel_rfl) (by kernel_rfl) (by kernel_rfl) (by kernel_rfl) (by kernel_rfl) (fun _ _ _ h => h) (by kernel_rfl) (fun V hV => ?hy1) ?go1
  case hy1 => (have i0 := hV; go_simp <;> rfl)
  simp only [Act.put, List.setIfInBounds_toArray, List.set_cons_zero, List.set_cons_succ]
  refine inv_take (v := ?v2) [3, 4, 5, 9, 10] 2 hI rfl (by kernel_rfl) (by kernel_rfl) (by kernel_rfl) (by kernel_rfl) (by kernel_rfl) (fun _ _ _ h => h) (by kernel_rfl) (fun V hV => ?hy2) ?go2
  case hy2 => (have i0 := hV; go_simp <;> rfl)
  simp only [Act.put, List.setIfInBounds_toArray, List.set_cons_zero, List.set_cons_succ]
  refine inv_take (v := ?v3) [4, 5, 9, 10] 3 hI rfl (by kernel_rfl) (by kernel_rfl) (by kernel_rfl) (by kernel_rfl) (by kernel_rfl) (fun _ _ _ h => h) (by kernel_rfl) (fun V hV => ?hy3) ?go3
  case hy3 => (have i0 := hV; go_simp <;> rfl)
  simp only [Act.put, List.setIfInBounds_toArray, List.set_cons_zero, List.set_cons_succ]
  refine inv_take (v := ?v4) [5, 9, 10] 4 hI rfl (by kernel_rfl) (by kernel_rfl) (by kernel_rfl) (by kernel_rfl) (by kernel_rfl) (fun _ _ _ h => h) (by kernel_rfl) (fun V hV => ?hy4) ?go4
  case hy4 => (have i0 := hV; go_simp <;> rfl)
  simp only [Act.put, List.setIfInBounds_toArray, List.set_cons_zero, List.set_cons_succ]
  refine inv_take (v := ?v5) [9, 10] 5 hI rfl (by kernel_rfl) (by kernel_rfl) (by kernel_rfl) (by kernel_rfl) (by kernel_rfl) (fun _ _ _ h => h) (by kernel_rfl) (fun V hV => ?hy5) ?go5
  case hy5 => (have i0 := hV; go_simp <;> rfl)
  simp only [Act.put, List.setIfInBounds_toArray, List.set_cons_zero, List.set_cons_succ]
  refine inv_take (v := ?v6) [9, 10] 6 hI rfl (by kernel_rfl) (by kernel_rfl) (by kernel_rfl) (by kernel_rfl) (by kernel_rfl) (fun _ _ _ h => h) (by kernel_rfl) (fun V hV => ?hy6) ?go6
  case hy6 => (have i0 := hV; go_simp <;> rfl)
  simp only [Act.put, List.setIfInBounds_toArray, List.set_cons_zero, List.set_cons_succ]
  refine inv_take (v := ?v7) [9, 10] 7 hI rfl (by kernel_rfl) (by kernel_rfl) (by kernel_rfl) (by kernel_rfl) (by kernel_rfl) (fun _ _ _ h => h) (by kernel_rfl) (fun V hV => ?hy7) ?go7
  case hy7 => (have i0 := hV; go_simp <;> rfl)
  simp only [Act.put, List.setIfInBounds_toArray, List.set_cons_zero, List.set_cons_succ]
  refine inv_take (v := ?v8) [9, 10] 8 hI rfl (by kernel_rfl) (by kernel_rfl) (by kernel_rfl) (by kernel_rfl) (by kernel_rfl) (fun _ _ _ h => h) (by kernel_rfl) (fun V hV => ?hy8) ?go8
  case hy8 => (have i0 := hV; go_simp <;> rfl)
  simp only [Act.put, List.setIfInBounds_toArray, List.set_cons_zero, List.set_cons_succ]
  refine inv_list 1 (by kernel_rfl) rfl ?_
  go_wp2_with (go_at_call 58; refine (answer_any _ _).mono ?_; rintro e w1 ⟨rfl, rfl⟩)
  refine then_n ⟨hI, ?_⟩
  try simp only [Act.put, List.setIfInBounds_toArray, List.set_cons_zero, List.set_cons_succ]
  refine inv_take (v := ?v9) [10] 9 hI rfl (by kernel_rfl) (by kernel_rfl) (by kernel_rfl) (by kernel_rfl) (by kernel_rfl) (fun _ _ _ h => h) (by kernel_rfl) (fun V hV => ?hy9) ?go9
  case hy9 => (have i0 := hV; go_simp <;> rfl)
  simp only [Act.put, List.setIfInBounds_toArray, List.set_cons_zero, List.set_cons_succ]
  refine inv_write 10 (by kernel_rfl) (by kernel_rfl) rfl ?_
  obtain ⟨r0, r1, r2, r3, r4, r5, r6, r7, r8, rf, rl⟩ := id br
  have f0 := rf 0
  go_wp2_with fail
  refine then_n ?_
  refine any_done (by kernel_rfl) ?_
  go_wp2_with fail
  refine bodyPost_ret (v := Pk.val ⟨ansI rq, node, who, idn, line, 0, 0, false, []⟩ (.slice none 0 0)) (by simp [results, Try.results31, go_sem, *]) rfl ⟨rfl, far9 (g := wx.heap.size) (y := ⟨ansI rq, node, who, idn, line, 0, 0, false, []⟩) (v := .slice none 0 0) (W := V) (P := fun V => Below wx.heap.size wx V) (fun V o u h => h.setCell (by simp) u) hB2⟩
theorem hnewData_yes (x : Pk) (d : Value) (h : x.fl = true) (w : World) : Calls Try.prog 56 #[x.val d] w fun e w' => e = .returned d ∧ Below w.heap.size w w' := by
  unfold Pk.val
  go_enter Try.func56, Try.ntmps56
  go_wp2_with fail
  go_ret
  exact ⟨rfl, ba (Below.refl _ _)⟩
theorem hnewData_no (x : Pk) (d : Value) (h : x.fl = false) (w : World) : Calls Try.prog 56 #[x.val d] w fun e w' => e = .returned (.slice none 0 0) ∧ Below w.heap.size w w' := by
  unfold Pk.val
  go_enter Try.func56, Try.ntmps56
  go_wp2_with fail
  go_ret
  exact ⟨rfl, ba (Below.refl _ _)⟩
set_option maxHeartbeats 800000 in
theorem hgranted_any (h : PH w wx g g1 g2 X N K node L n o q) {l : Int} (hl : In64 l) (who idn : Int) :
    Calls Try.prog 35 #[.pointer (some ⟨g, 0, none⟩), .int .i64 l, .int .i64 who, .int .i64 idn] wx fun e w' => ∃ d, e = .returned ((grantR node who idn l L).val d) ∧ DatZ w' (fun k => wx.heap.size ≤ k) (grantR node who idn l L).z d ∧ Below wx.heap.size wx w' := by
  have c0 := h.c0
  have hg := h.lt
  go_enter Try.func35, Try.ntmps35
  go_upto_region 1 with fail
  have hB : Below wx.heap.size wx (wx.alloc (.cells #[.int .i64 0, .int .i64 0, .int .i64 0, .int .i64 0, .int .i64 0, .int .i64 0, .int .i64 0, .bool false, .slice none 0 0] 32)) := ba (Below.refl _ _)
  have bxr : Bx (wx.alloc (.cells #[.int .i64 0, .int .i64 0, .int .i64 0, .int .i64 0, .int .i64 0, .int .i64 0, .int .i64 0, .bool false, .slice none 0 0] 32)) wx.heap.size zeroPk (.slice none 0 0) := Bx.made wx zeroPk (.slice none 0 0)
  have h1 := h.below hB
  clear h
  replace c0 := (hB.cell (p := ⟨g, 0, none⟩) hg).trans c0
  replace hg := Nat.lt_of_lt_of_le hg hB.size
  generalize World.alloc _ (.cells #[.int .i64 0, .int .i64 0, .int .i64 0, .int .i64 0, .int .i64 0, .int .i64 0, .int .i64 0, .bool false, .slice none 0 0] 32) = W at *
  go_upto_region 2 with (go_at_call 31; refine (hans_any h1 1 l who idn).mono ?_; rintro e w1 ⟨rfl, b1⟩; rw [show ansI 1 = 7 from rfl])
  have hB1 := next hB b1
  have h2 := h1.below b1
  have br1 := bxr.next b1
  have hB2 := ba (o := .cells #[.int .i64 7, .int .i64 node, .int .i64 who, .int .i64 idn, .int .i64 l, .int .i64 0, .int .i64 0, .bool false, .slice none 0 0] 32) b1
  have bp2 : Bx (w1.alloc (.cells #[.int .i64 7, .int .i64 node, .int .i64 who, .int .i64 idn, .int .i64 l, .int .i64 0, .int .i64 0, .bool false, .slice none 0 0] 32)) w1.heap.size ⟨7, node, who, idn, l, 0, 0, false, []⟩ (.slice none 0 0) := Bx.made w1 ⟨7, node, who, idn, l, 0, 0, false, []⟩ (.slice none 0 0)
  have hB3 : Below w1.heap.size w1 (w1.alloc (.cells #[.int .i64 7, .int .i64 node, .int .i64 who, .int .i64 idn, .int .i64 l, .int .i64 0, .int .i64 0, .bool false, .slice none 0 0] 32)) := ba (Below.refl _ _)
  replace c0 := ((hB2.cell (p := ⟨g, 0, none⟩) hg)).trans c0
  have br2 := br1.next hB3
  have h3 := h2.below hB3
  have hB4 := next hB1 hB3
  have HLo : Hid (wx.heap.size < w1.heap.size) := br1.lt
  clear hg hB b1 h1 h2 bxr br1 hB1 hB2 hB3
  have hg := h3.lt
  generalize World.alloc _ (.cells #[.int .i64 7, .int .i64 node, .int .i64 who, .int .i64 idn, .int .i64 l, .int .i64 0, .int .i64 0, .bool false, .slice none 0 0] 32) = W2 at *
  generalize w1.heap.size = gp at *
  obtain ⟨hp, _⟩ := id h3
  go_upto_region 3 with (go_at_call 45; refine (hp_row hp hl).mono ?_; rintro e w2 ⟨a, c, rfl, own, b2⟩)
  obtain ⟨rr, hrr⟩ : ∃ rr, rowL L l = rr := ⟨_, rfl⟩
  have HRR : Hid (rowL L l = rr) := hrr
  have hrl := h3.rlen l
  rw [hrr] at own hrl ⊢
  clear hrr
  have hb3 : Below w2.heap.size w2 (w2.alloc (.cells #[.int .i64 rr.s, .int .i64 rr.h, .slice a rr.z.length c] 94)) := ba (Below.refl _ _)
  have i0 : (w2.alloc (.cells #[.int .i64 rr.s, .int .i64 rr.h, .slice a rr.z.length c] 94)).cell? ⟨w2.heap.size, 0, none⟩ = some (.int .i64 rr.s) := by simp
  have i1 : (w2.alloc (.cells #[.int .i64 rr.s, .int .i64 rr.h, .slice a rr.z.length c] 94)).cell? ⟨w2.heap.size, 1, none⟩ = some (.int .i64 rr.h) := by simp
  have i2 : (w2.alloc (.cells #[.int .i64 rr.s, .int .i64 rr.h, .slice a rr.z.length c] 94)).cell? ⟨w2.heap.size, 2, none⟩ = some (.slice a rr.z.length c) := by simp
  have il : w2.heap.size < (w2.alloc (.cells #[.int .i64 rr.s, .int .i64 rr.h, .slice a rr.z.length c] 94)).heap.size := by simp
  have bp3 := (bp2.next b2).next hb3
  have br3 := (br2.next b2).next hb3
  have hlo := own.lo
  have dz : DatZ (w2.alloc (.cells #[.int .i64 rr.s, .int .i64 rr.h, .slice a rr.z.length c] 94)) (fun k => W2.heap.size ≤ k ∧ k < w2.heap.size) rr.z (.slice a rr.z.length c) := (((datz_own own (by omega)).imp (fun j hj h => ⟨h, hj⟩)).below hb3)
  have hne : w2.heap.size ≠ gp := by have := bp2.lt; have := b2.size; omega
  have hnr : wx.heap.size ≠ gp := by have := HLo.out; omega
  have hB6 : Below wx.heap.size wx (w2.alloc (.cells #[.int .i64 rr.s, .int .i64 rr.h, .slice a rr.z.length c] 94)) := next (next hB4 b2) hb3
  have hgp : gp < W2.heap.size := bp2.lt
  clear bp2 br2 hb3 b2 own hlo hp c0 hg hB4 h3
  generalize w2.alloc (.cells #[.int .i64 rr.s, .int .i64 rr.h, .slice a rr.z.length c] 94) = V0 at *
  generalize w2.heap.size = gr at *
  refine wp_region_orders 12 rfl (by kernel_rfl) ?_
  have Bd : Below V0.heap.size V0 V0.drew := (Below.refl _ _).drew
  have hI : (fun V => V.cell? ⟨gr, 0, none⟩ = some (.int .i64 rr.s) ∧ V.cell? ⟨gr, 1, none⟩ = some (.int .i64 rr.h) ∧ V.cell? ⟨gr, 2, none⟩ = some (.slice a rr.z.length c)) V0.drew := ⟨(Bd.cell (p := ⟨gr, 0, none⟩) il).trans i0, (Bd.cell (p := ⟨gr, 1, none⟩) il).trans i1, (Bd.cell (p := ⟨gr, 2, none⟩) il).trans i2⟩
  have bp4 := bp3.next Bd
  have br4 := br3.next Bd
  have dz4 := dz.below Bd
  have hB7 := next hB6 Bd
  clear bp3 br3 dz hB6 i0 i1 i2 il Bd
  generalize V0.drew = V at *
  clear V0
  refine any_inv (fun V => V.cell? ⟨gr, 0, none⟩ = some (.int .i64 rr.s) ∧ V.cell? ⟨gr, 1, none⟩ = some (.int .i64 rr.h) ∧ V.cell? ⟨gr, 2, none⟩ = some (.slice a rr.z.length c)) [] hI ?_
  refine inv_take (v := ?v10) [] 0 hI rfl (by kernel_rfl) (by kernel_rfl) (by kernel_rfl) (by kernel_rfl) (by kernel_rfl) (fun _ _ _ h => h) (by kernel_rfl) (fun V hV => ?hy10) ?go10
  case hy10 => (obtain ⟨i0, i1, i2⟩ := hV; go_simp <;> rfl)
  simp only [Act.put, List.setIfInBounds_toArray, List.set_cons_zero, List.set_cons_succ]
  refine inv_take (v := ?v11) [] 1 hI rfl (by kernel_rfl) (by kernel_rfl) (by kernel_rfl) (by kernel_rfl) (by kernel_rfl) (fun _ _ _ h => h) (by kernel_rfl) (fun V hV => ?hy11) ?go11
  case hy11 => (obtain ⟨i0, i1, i2⟩ := hV; go_simp <;> rfl)
  simp only [Act.put, List.setIfInBounds_toArray, List.set_cons_zero, List.set_cons_succ]
  refine inv_take (v := ?v12) [] 2 hI rfl (by kernel_rfl) (by kernel_rfl) (by kernel_rfl) (by kernel_rfl) (by kernel_rfl) (fun _ _ _ h => h) (by kernel_rfl) (fun V hV => ?hy12) ?go12
  case hy12 => (obtain ⟨i0, i1, i2⟩ := hV; go_simp <;> rfl)
  simp only [Act.put, List.setIfInBounds_toArray, List.set_cons_zero, List.set_cons_succ]
  refine inv_take (v := ?v13) [] 3 hI rfl (by kernel_rfl) (by kernel_rfl) (by kernel_rfl) (by kernel_rfl) (by kernel_rfl) (fun _ _ _ h => h) (by kernel_rfl) (fun V hV => ?hy13) ?go13
  case hy13 => (obtain ⟨i0, i1, i2⟩ := hV; go_simp <;> rfl)
  simp only [Act.put, List.setIfInBounds_toArray, List.set_cons_zero, List.set_cons_succ]
  refine inv_take (v := ?v14) [] 4 hI rfl (by kernel_rfl) (by kernel_rfl) (by kernel_rfl) (by kernel_rfl) (by kernel_rfl) (fun _ _ _ h => h) (by kernel_rfl) (fun V hV => ?hy14) ?go14
  case hy14 => (obtain ⟨i0, i1, i2⟩ := hV; go_simp <;> rfl)
  simp only [Act.put, List.setIfInBounds_toArray, List.set_cons_zero, List.set_cons_succ]
  refine inv_take (v := ?v15) [] 5 hI rfl (by kernel_rfl) (by kernel_rfl) (by kernel_rfl) (by kernel_rfl) (by kernel_rfl) (fun _ _ _ h => h) (by kernel_rfl) (fun V hV => ?hy15) ?go15
  case hy15 => (obtain ⟨i0, i1, i2⟩ := hV; go_simp <;> rfl)
  simp only [Act.put, List.setIfInBounds_toArray, List.set_cons_zero, List.set_cons_succ]
  refine inv_take (v := ?v16) [] 6 hI rfl (by kernel_rfl) (by kernel_rfl) (by kernel_rfl) (by kernel_rfl) (by kernel_rfl) (fun _ _ _ h => h) (by kernel_rfl) (fun V hV => ?hy16) ?go16
  case hy16 => (obtain ⟨i0, i1, i2⟩ := hV; go_simp <;> rfl)
  simp only [Act.put, List.setIfInBounds_toArray, List.set_cons_zero, List.set_cons_succ]
  obtain ⟨p0, p1, p2, p3, p4, p5, p6, p7, p8, pf, pl⟩ := id bp4
  have f6 := pf 6
  have f5 := pf 5
  have f8 := pf 8
  refine inv_list 7 (by kernel_rfl) rfl ?_
  go_wp2_with fail
  have far := fun (V : World) (oo : Nat) (u : Value) (h : (fun V => V.cell? ⟨gr, 0, none⟩ = some (.int .i64 rr.s) ∧ V.cell? ⟨gr, 1, none⟩ = some (.int .i64 rr.h) ∧ V.cell? ⟨gr, 2, none⟩ = some (.slice a rr.z.length c)) V) => (⟨(cell_far (w := V) (p := ⟨gp, oo, none⟩) (v := u) gr 0 hne).trans h.1, (cell_far (w := V) (p := ⟨gp, oo, none⟩) (v := u) gr 1 hne).trans h.2.1, (cell_far (w := V) (p := ⟨gp, oo, none⟩) (v := u) gr 2 hne).trans h.2.2⟩ : (fun V => V.cell? ⟨gr, 0, none⟩ = some (.int .i64 rr.s) ∧ V.cell? ⟨gr, 1, none⟩ = some (.int .i64 rr.h) ∧ V.cell? ⟨gr, 2, none⟩ = some (.slice a rr.z.length c)) (V.setCell ⟨gp, oo, none⟩ u))
  refine then_n ⟨far _ _ _ hI, ?_⟩
  try simp only [Act.put, List.setIfInBounds_toArray, List.set_cons_zero, List.set_cons_succ]
  refine inv_take (v := ?v17) [] 8 (far _ _ _ hI) rfl (by kernel_rfl) (by kernel_rfl) (by kernel_rfl) (by kernel_rfl) (by kernel_rfl) (fun _ _ _ h => h) (by kernel_rfl) (fun V hV => ?hy17) ?go17
  case hy17 => (obtain ⟨i0, i1, i2⟩ := hV; go_simp <;> rfl)
  simp only [Act.put, List.setIfInBounds_toArray, List.set_cons_zero, List.set_cons_succ]
  refine inv_list 9 (by kernel_rfl) rfl ?_
  go_wp2_with fail
  refine then_n ⟨far _ _ _ (far _ _ _ hI), ?_⟩
  try simp only [Act.put, List.setIfInBounds_toArray, List.set_cons_zero, List.set_cons_succ]
  refine inv_take (v := ?v18) [] 10 (far _ _ _ (far _ _ _ hI)) rfl (by kernel_rfl) (by kernel_rfl) (by kernel_rfl) (by kernel_rfl) (by kernel_rfl) (fun _ _ _ h => h) (by kernel_rfl) (fun V hV => ?hy18) ?go18
  case hy18 => (obtain ⟨i0, i1, i2⟩ := hV; go_simp <;> rfl)
  simp only [Act.put, List.setIfInBounds_toArray, List.set_cons_zero, List.set_cons_succ]
  refine inv_list 11 (by kernel_rfl) rfl ?_
  go_wp2_with fail
  refine then_n ⟨far _ _ _ (far _ _ _ (far _ _ _ hI)), ?_⟩
  try simp only [Act.put, List.setIfInBounds_toArray, List.set_cons_zero, List.set_cons_succ]
  refine inv_done (by kernel_rfl) ?_
  have bp5 : Bx (((V.setCell ⟨gp, 6, none⟩ (.int .i64 rr.s)).setCell ⟨gp, 5, none⟩ (.int .i64 rr.h)).setCell ⟨gp, 8, none⟩ (.slice a rr.z.length c)) gp ⟨7, node, who, idn, l, rr.h, rr.s, false, rr.z⟩ (.slice a rr.z.length c) := ((bp4.setS rr.s).setP rr.h).setZ rr.z (.slice a rr.z.length c)
  have hK : Keep (fun j => j = gp) V (((V.setCell ⟨gp, 6, none⟩ (.int .i64 rr.s)).setCell ⟨gp, 5, none⟩ (.int .i64 rr.h)).setCell ⟨gp, 8, none⟩ (.slice a rr.z.length c)) := (((Keep.refl (fun j => j = gp) V).setCell (p := ⟨gp, 6, none⟩) (.inl rfl) _).setCell (p := ⟨gp, 5, none⟩) (.inl rfl) _).setCell (p := ⟨gp, 8, none⟩) (.inl rfl) _
  have hlo2 := HLo.out
  have br5 := br4.keep hK hnr
  have dz5 := dz4.keep hK (fun j hj e => by omega)
  have hB8 := hB7.trans (hK.below (base := wx.heap.size) (fun j hj => by rw [hj]; omega) hB7.size)
  clear bp4 br4 dz4 hB7 far p0 p1 p2 p3 p4 p5 p6 p7 p8 pf pl f6 f5 f8 hI hK
  generalize World.setCell _ _ (Value.slice a rr.z.length c) = V5 at *
  obtain ⟨p0, p1, p2, p3, p4, p5, p6, p7, p8, pf, pl⟩ := id bp5
  obtain ⟨r0, r1, r2, r3, r4, r5, r6, r7, r8, rf, rl⟩ := id br5
  have f0 := rf 0
  go_wp2_with fail
  have hkk : Keep (fun k => k = wx.heap.size) V5 _ := far9 (g := wx.heap.size) (y := ⟨7, node, who, idn, l, rr.h, rr.s, false, rr.z⟩) (v := .slice a rr.z.length c) (W := V5) (P := fun V => Keep (fun k => k = wx.heap.size) V5 V) (fun V o u h => h.setCell (.inl rfl) u) (Keep.refl _ _)
  refine bodyPost_ret (v := Pk.val ⟨7, node, who, idn, l, rr.h, rr.s, false, rr.z⟩ (.slice a rr.z.length c)) (by simp [results, Try.results35, go_sem, *]) rfl ⟨_, by unfold grantR; rw [HRR.out], ?_, ?_⟩
  · unfold grantR
    rw [HRR.out]
    exact (dz5.keep hkk (fun j hj e => by omega)).imp (fun j _ hj => by omega)
  · exact far9 (g := wx.heap.size) (y := ⟨7, node, who, idn, l, rr.h, rr.s, false, rr.z⟩) (v := .slice a rr.z.length c) (W := V5) (P := fun V => Below wx.heap.size wx V) (fun V o u h => h.setCell (by simp) u) hB8
end
end Go.Proofs.Ytgeiagndpfdnlaa
end
section
namespace Go.Proofs.Ytgeiagndpfdnlaa
open Go.RowKit
set_option linter.unusedVariables false

section
variable {P : Program} {Q : Exit → Act → World → Prop} {I : World → Prop} {X : List Nat}
theorem inv_two (i j : Nat) {l ri rj : List Oper} {oi oj : Oper} {fuel : Nat} {listed : Array Bool} {a : Act} {w : World} (hr : Region.ready .any l.toArray listed = [i, j]) (hdi : l.drop i = oi :: ri) (hdj : l.drop j = oj :: rj)
    (hi : wpList P l.toArray (Then (fun a' w' => I w' ∧ wpAnyJ P l.toArray Q I X fuel (listed.setIfInBounds i true) a' w') Q) [oi] a w)
    (hj : wpList P l.toArray (Then (fun a' w' => I w' ∧ wpAnyJ P l.toArray Q I X fuel (listed.setIfInBounds j true) a' w') Q) [oj] a w) : wpAnyJ P l.toArray Q I X (fuel + 1) listed a w :=
  ⟨fun h0 => (by rw [hr] at h0; cases h0), (by
    rw [hr]
    intro k hk
    simp only [List.mem_cons, List.not_mem_nil, or_false] at hk
    rcases hk with rfl | rfl
    · exact wpOp_mono (fun _ _ h => .inr h) (op_list k hdi hi)
    · exact wpOp_mono (fun _ _ h => .inr h) (op_list k hdj hj))⟩
end
end Go.Proofs.Ytgeiagndpfdnlaa
end
section
namespace Go.Proofs.Ytgeiagndpfdnlaa
open Go.RowKit Go.Maps
set_option linter.unusedVariables false
set_option maxRecDepth 20000

theorem isHome_any (k : Int) (w : World) : Calls Try.prog 53 #[.int .i64 k] w fun e w' => e = .returned (.bool (decide (k = 1 ∨ k = 2))) ∧ w = w' := by
  by_cases h1 : k = 1
  · subst h1
    go_enter Try.func53, Try.ntmps53
    go_wp2
    go_ret
    exact ⟨by simp, rfl⟩
  · have h1b : (k == 1) = false := by simp [h1]
    go_enter Try.func53, Try.ntmps53
    go_wp2
    go_ret
    exact ⟨ret_bool (by by_cases h2 : k = 2 <;> simp [h1, h2]), rfl⟩
theorem isHome_is (k : Int) (b : Bool) (hb : decide (k = 1 ∨ k = 2) = b) (w : World) : Calls Try.prog 53 #[.int .i64 k] w fun e w' => e = .returned (.bool b) ∧ Below w.heap.size w w' := by
  subst hb
  refine (isHome_any k w).mono ?_
  rintro e w' ⟨rfl, rfl⟩
  exact ⟨rfl, Below.refl _ _⟩
/-- Is a request taken? -/
def tknP (N : Nat) (node : Int) (x : Pk) : Bool := x.right && decide (x.t = node ∧ x.f < (N : Int) ∧ (x.k = 1 ∨ x.k = 2))
def ckE (N : Nat) (node : Int) (L : List Hr) (x : Pk) : Int := if tknP N node x = true then (if hasH L x.l = true then 0 else 3) else 1
section
variable {w wx : World} {g g1 g2 n N : Nat} {X : Nat → Prop} {K node : Int} {L : List Hr} {o : List (Int × Int)} {q : List Wr}
set_option maxHeartbeats 1600000 in
theorem hcheck_any (h : PH w wx g g1 g2 X N K node L n o q) (x : Pk) (a : Option Addr) (m c : Nat) (hsl : Sl wx a m c x.z) (hl : In64 x.l) :
    Calls Try.prog 28 #[.pointer (some ⟨g, 0, none⟩), x.val (.slice a m c)] wx fun e w' => e = .returned (.int .i64 (ckE N node L x)) ∧ Below wx.heap.size wx w' := by
  unfold Pk.val
  go_enter Try.func28, Try.ntmps28
  go_upto_region 1 with fail
  have hB : Below wx.heap.size wx (wx.alloc (.cells #[.int .i64 x.k, .int .i64 x.f, .int .i64 x.t, .int .i64 x.i, .int .i64 x.l, .int .i64 x.p, .int .i64 x.s, .bool x.fl, .slice a m c] 32)) := ba (Below.refl _ _)
  have bxp : Bx (wx.alloc (.cells #[.int .i64 x.k, .int .i64 x.f, .int .i64 x.t, .int .i64 x.i, .int .i64 x.l, .int .i64 x.p, .int .i64 x.s, .bool x.fl, .slice a m c] 32)) wx.heap.size x (.slice a m c) := Bx.made wx x (.slice a m c)
  have h1 := h.below hB
  have hs1 := hsl.below hB
  clear hsl h
  generalize World.alloc _ (.cells #[.int .i64 x.k, .int .i64 x.f, .int .i64 x.t, .int .i64 x.i, .int .i64 x.l, .int .i64 x.p, .int .i64 x.s, .bool x.fl, .slice a m c] 32) = W at *
  obtain ⟨q0, q1, q2, q3, q4, q5, q6, q7, q8, qf, ql⟩ := id bxp
  cases hr : x.right with
  | false =>
    have HE : Hid (x.err = 1) := Pk.err_f hr
    have HR : Hid (ckE N node L x = 1) := by show _ = _; unfold ckE tknP; rw [hr]; rfl
    clear hr
    go_wp2_with (go_at_call 52; refine (pkCheck_any x a m c W hs1).mono ?_; rw [HE.out]; rintro e w1 ⟨rfl, b1⟩)
    go_ret
    exact ⟨by rw [HR.out]; rfl, next hB b1⟩
  | true =>
    have HE : Hid (x.err = 0) := Pk.err_t hr
    have HR : Hid (x.right = true) := hr
    clear hr
    go_upto_region 2 with (go_at_call 52; refine (pkCheck_any x a m c W hs1).mono ?_; rw [HE.out]; rintro e w1 ⟨rfl, b1⟩)
    have hB1 := next hB b1
    have bp1 := bxp.next b1
    have h2 := h1.below b1
    obtain ⟨_, _, _, c2, c3, lt, _, _⟩ := id h2
    clear q0 q1 q2 q3 q4 q5 q6 q7 q8 qf ql bxp h1 hs1 hB b1
    obtain ⟨q0, q1, q2, q3, q4, q5, q6, q7, q8, qf, ql⟩ := id bp1
    by_cases e1 : x.t = node
    · have h1b : (x.t != node) = false := by simp [e1]
      by_cases e2 : x.f < (N : Int)
      · have h2b : decide ((N : Int) ≤ x.f) = false := decide_eq_false (by omega)
        by_cases e3 : x.k = 1 ∨ x.k = 2
        · have HK : Hid (decide (x.k = 1 ∨ x.k = 2) = true) := decide_eq_true e3
          have HT : Hid (tknP N node x = true) := by show _ = _; unfold tknP; rw [HR.out, decide_eq_true (⟨e1, e2, e3⟩ : x.t = node ∧ x.f < (N : Int) ∧ (x.k = 1 ∨ x.k = 2))]; rfl
          clear e1 e2 e3
          go_upto_region 4 with fail
          have uc := @Up.cell
          have uf := @Up.frozen
          refine wp_region_up (by kernel_rfl) (by kernel_rfl) ?_
          repeat (go_big_quiet_step ((go_at_call 53; exact Calls.up_of (isHome_is x.k true HK.out _))))
          refine wpQuiet_nil ?_
          rintro _ ⟨u, rfl⟩
          clear uc uf
          have hB2 := next hB1 u.2
          have h3 := h2.below u.2
          have bp2 := bp1.next u.2
          clear q0 q1 q2 q3 q4 q5 q6 q7 q8 qf ql bp1 h2 hB1 c2 c3 lt
          generalize u.val = V at *
          obtain ⟨hp, c0, _, _, _, lt, _, _⟩ := id h3
          obtain ⟨q0, q1, q2, q3, q4, q5, q6, q7, q8, qf, ql⟩ := id bp2
          have HH : Hid (ckE N node L x = if hasH L x.l = true then 0 else 3) := by show _ = _; unfold ckE; rw [if_pos HT.out]
          obtain ⟨B, hh⟩ : ∃ B, hasH L x.l = B := ⟨_, rfl⟩
          rw [hh] at HH
          have HhB : Hid (hasH L x.l = B) := hh
          clear hh
          go_upto_region 6 with fail
          refine wp_region_orders 13 rfl (by kernel_rfl) ?_
          have Bd : Below V.heap.size V V.drew := (Below.refl _ _).drew
          replace c0 := (Bd.cell (p := ⟨g, 0, none⟩) lt).trans c0
          replace q4 := (Bd.cell (p := ⟨wx.heap.size, 4, none⟩) ql).trans q4
          replace lt := Nat.lt_of_lt_of_le lt Bd.size
          replace ql := Nat.lt_of_lt_of_le ql Bd.size
          replace hp := hp.below Bd
          replace hB2 := next hB2 Bd
          clear q0 q1 q2 q3 q5 q6 q7 q8 qf bp2 h3 Bd
          generalize V.drew = V3 at *
          have HIB : Hid (∀ V', Below V3.heap.size V3 V' → (fun V => V.cell? ⟨g, 0, none⟩ = some (.pointer (some ⟨g1, 0, none⟩)) ∧ V.cell? ⟨wx.heap.size, 4, none⟩ = some (.int .i64 x.l)) V') := fun V' b => ⟨(b.cell (p := ⟨g, 0, none⟩) lt).trans c0, (b.cell (p := ⟨wx.heap.size, 4, none⟩) ql).trans q4⟩
          have hI : (fun V => V.cell? ⟨g, 0, none⟩ = some (.pointer (some ⟨g1, 0, none⟩)) ∧ V.cell? ⟨wx.heap.size, 4, none⟩ = some (.int .i64 x.l)) V3 := HIB.out _ (Below.refl _ _)
          refine any_inv (fun V => V.cell? ⟨g, 0, none⟩ = some (.pointer (some ⟨g1, 0, none⟩)) ∧ V.cell? ⟨wx.heap.size, 4, none⟩ = some (.int .i64 x.l)) [] hI ?_
          refine inv_take (v := ?v1) [] 0 hI rfl (by kernel_rfl) (by kernel_rfl) (by kernel_rfl) (by kernel_rfl) (by kernel_rfl) (fun _ _ _ h => h) (by kernel_rfl) (fun V hV => ?hy1) ?go1
          case hy1 => (obtain ⟨i0, i1⟩ := hV; go_simp <;> rfl)
          simp only [Act.put, List.setIfInBounds_toArray, List.set_cons_zero, List.set_cons_succ]
          refine inv_take (v := ?v2) [] 1 hI rfl (by kernel_rfl) (by kernel_rfl) (by kernel_rfl) (by kernel_rfl) (by kernel_rfl) (fun _ _ _ h => h) (by kernel_rfl) (fun V hV => ?hy2) ?go2
          case hy2 => (obtain ⟨i0, i1⟩ := hV; go_simp <;> rfl)
          simp only [Act.put, List.setIfInBounds_toArray, List.set_cons_zero, List.set_cons_succ]
          refine inv_take (v := ?v3) [] 2 hI rfl (by kernel_rfl) (by kernel_rfl) (by kernel_rfl) (by kernel_rfl) (by kernel_rfl) (fun _ _ _ h => h) (by kernel_rfl) (fun V hV => ?hy3) ?go3
          case hy3 => (obtain ⟨i0, i1⟩ := hV; go_simp <;> rfl)
          simp only [Act.put, List.setIfInBounds_toArray, List.set_cons_zero, List.set_cons_succ]
          refine inv_take (v := ?v4) [] 3 hI rfl (by kernel_rfl) (by kernel_rfl) (by kernel_rfl) (by kernel_rfl) (by kernel_rfl) (fun _ _ _ h => h) (by kernel_rfl) (fun V hV => ?hy4) ?go4
          case hy4 => (obtain ⟨i0, i1⟩ := hV; go_simp <;> rfl)
          simp only [Act.put, List.setIfInBounds_toArray, List.set_cons_zero, List.set_cons_succ]
          refine inv_take (v := ?v5) [] 4 hI rfl (by kernel_rfl) (by kernel_rfl) (by kernel_rfl) (by kernel_rfl) (by kernel_rfl) (fun _ _ _ h => h) (by kernel_rfl) (fun V hV => ?hy5) ?go5
          case hy5 => (obtain ⟨i0, i1⟩ := hV; go_simp <;> rfl)
          simp only [Act.put, List.setIfInBounds_toArray, List.set_cons_zero, List.set_cons_succ]
          refine inv_take (v := ?v6) [] 5 hI rfl (by kernel_rfl) (by kernel_rfl) (by kernel_rfl) (by kernel_rfl) (by kernel_rfl) (fun _ _ _ h => h) (by kernel_rfl) (fun V hV => ?hy6) ?go6
          case hy6 => (obtain ⟨i0, i1⟩ := hV; go_simp <;> rfl)
          simp only [Act.put, List.setIfInBounds_toArray, List.set_cons_zero, List.set_cons_succ]
          refine inv_two 6 10 (by kernel_rfl) rfl rfl ?_ ?_
          · go_wp2_with (go_at_call 45; refine (hp_row hp hl).mono ?_; rw [HhB.out]; rintro e V4 ⟨a2, k2, rfl, own, b2⟩)
            refine then_n ⟨HIB.out _ b2, ?_⟩
            try simp only [Act.put, List.setIfInBounds_toArray, List.set_cons_zero, List.set_cons_succ]
            refine inv_take (v := ?v7) [] 7 (HIB.out _ b2) rfl (by kernel_rfl) (by kernel_rfl) (by kernel_rfl) (by kernel_rfl) (by kernel_rfl) (fun _ _ _ h => h) (by kernel_rfl) (fun V hV => ?hy7) ?go7
            case hy7 => (obtain ⟨i0, i1⟩ := hV; go_simp <;> rfl)
            simp only [Act.put, List.setIfInBounds_toArray, List.set_cons_zero, List.set_cons_succ]
            refine inv_take (v := ?v8) [] 8 (HIB.out _ b2) rfl (by kernel_rfl) (by kernel_rfl) (by kernel_rfl) (by kernel_rfl) (by kernel_rfl) (fun _ _ _ h => h) (by kernel_rfl) (fun V hV => ?hy8) ?go8
            case hy8 => (obtain ⟨i0, i1⟩ := hV; go_simp <;> rfl)
            simp only [Act.put, List.setIfInBounds_toArray, List.set_cons_zero, List.set_cons_succ]
            refine inv_take (v := ?v9) [] 9 (HIB.out _ b2) rfl (by kernel_rfl) (by kernel_rfl) (by kernel_rfl) (by kernel_rfl) (by kernel_rfl) (fun _ _ _ h => h) (by kernel_rfl) (fun V hV => ?hy9) ?go9
            case hy9 => (obtain ⟨i0, i1⟩ := hV; go_simp <;> rfl)
            simp only [Act.put, List.setIfInBounds_toArray, List.set_cons_zero, List.set_cons_succ]
            refine inv_list 10 (by kernel_rfl) rfl ?_
            go_wp2_with fail
            refine then_n ⟨HIB.out _ (ba b2), ?_⟩
            try simp only [Act.put, List.setIfInBounds_toArray, List.set_cons_zero, List.set_cons_succ]
            refine inv_list 11 (by kernel_rfl) rfl ?_
            go_wp2_with fail
            refine then_n ⟨HIB.out _ (ba b2), ?_⟩
            try simp only [Act.put, List.setIfInBounds_toArray, List.set_cons_zero, List.set_cons_succ]
            refine inv_list 12 (by kernel_rfl) rfl ?_
            go_wp2_with fail
            refine then_n ⟨HIB.out _ (ba b2), ?_⟩
            try simp only [Act.put, List.setIfInBounds_toArray, List.set_cons_zero, List.set_cons_succ]
            refine inv_done (by kernel_rfl) ?_
            clear HhB
            cases B
            all_goals
              go_wp2_with fail
              go_ret
              exact ⟨by rw [HH.out]; rfl, next hB2 (ba b2)⟩
          · go_wp2_with fail
            refine then_n ⟨HIB.out _ (ba (Below.refl _ _)), ?_⟩
            try simp only [Act.put, List.setIfInBounds_toArray, List.set_cons_zero, List.set_cons_succ]
            refine inv_list 6 (by kernel_rfl) rfl ?_
            go_wp2_with (go_at_call 45; refine (hp_row (hp.below (by exact ba (Below.refl _ _))) hl).mono ?_; rw [HhB.out]; rintro e V4 ⟨a2, k2, rfl, own, b2⟩)
            have b3 : Below V3.heap.size V3 V4 := (ba (Below.refl _ _)).trans (b2.mono (by simp))
            have gz : (V3.alloc (.cells #[.int .i64 0, .int .i64 0, .slice none 0 0] 94)).cell? ⟨V3.heap.size, 0, none⟩ = some (.int .i64 0) := by simp
            have y0 := (b2.cell (p := ⟨V3.heap.size, 0, none⟩) (by simp)).trans gz
            have y1 := (b2.cell (p := ⟨V3.heap.size, 1, none⟩) (by simp)).trans (show (V3.alloc (.cells #[.int .i64 0, .int .i64 0, .slice none 0 0] 94)).cell? ⟨V3.heap.size, 1, none⟩ = some (.int .i64 0) by simp)
            have y2 := (b2.cell (p := ⟨V3.heap.size, 2, none⟩) (by simp)).trans (show (V3.alloc (.cells #[.int .i64 0, .int .i64 0, .slice none 0 0] 94)).cell? ⟨V3.heap.size, 2, none⟩ = some (.slice none 0 0) by simp)
            have z0 := (b2.frozen (p := ⟨V3.heap.size, 0, none⟩) (by simp)).trans (show (V3.alloc (.cells #[.int .i64 0, .int .i64 0, .slice none 0 0] 94)).frozen? ⟨V3.heap.size, 0, none⟩ = false by simp)
            have z1 := (b2.frozen (p := ⟨V3.heap.size, 1, none⟩) (by simp)).trans (show (V3.alloc (.cells #[.int .i64 0, .int .i64 0, .slice none 0 0] 94)).frozen? ⟨V3.heap.size, 1, none⟩ = false by simp)
            have z2 := (b2.frozen (p := ⟨V3.heap.size, 2, none⟩) (by simp)).trans (show (V3.alloc (.cells #[.int .i64 0, .int .i64 0, .slice none 0 0] 94)).frozen? ⟨V3.heap.size, 2, none⟩ = false by simp)
            refine then_n ⟨HIB.out _ b3, ?_⟩
            try simp only [Act.put, List.setIfInBounds_toArray, List.set_cons_zero, List.set_cons_succ]
            refine inv_take (v := ?v10) [] 7 (HIB.out _ b3) rfl (by kernel_rfl) (by kernel_rfl) (by kernel_rfl) (by kernel_rfl) (by kernel_rfl) (fun _ _ _ h => h) (by kernel_rfl) (fun V hV => ?hy10) ?go10
            case hy10 => (obtain ⟨i0, i1⟩ := hV; go_simp <;> rfl)
            simp only [Act.put, List.setIfInBounds_toArray, List.set_cons_zero, List.set_cons_succ]
            refine inv_take (v := ?v11) [] 8 (HIB.out _ b3) rfl (by kernel_rfl) (by kernel_rfl) (by kernel_rfl) (by kernel_rfl) (by kernel_rfl) (fun _ _ _ h => h) (by kernel_rfl) (fun V hV => ?hy11) ?go11
            case hy11 => (obtain ⟨i0, i1⟩ := hV; go_simp <;> rfl)
            simp only [Act.put, List.setIfInBounds_toArray, List.set_cons_zero, List.set_cons_succ]
            refine inv_take (v := ?v12) [] 9 (HIB.out _ b3) rfl (by kernel_rfl) (by kernel_rfl) (by kernel_rfl) (by kernel_rfl) (by kernel_rfl) (fun _ _ _ h => h) (by kernel_rfl) (fun V hV => ?hy12) ?go12
            case hy12 => (obtain ⟨i0, i1⟩ := hV; go_simp <;> rfl)
            simp only [Act.put, List.setIfInBounds_toArray, List.set_cons_zero, List.set_cons_succ]
            have bs : ∀ (V0 : World) (u v t : Value), Below V3.heap.size V3 V0 → Below V3.heap.size V3 (((V0.setCell ⟨V3.heap.size, 0, none⟩ u).setCell ⟨V3.heap.size, 1, none⟩ v).setCell ⟨V3.heap.size, 2, none⟩ t) := fun V0 u v t h => ((h.setCell (Nat.le_refl _) u).setCell (Nat.le_refl _) v).setCell (Nat.le_refl _) t
            refine inv_list 11 (by kernel_rfl) rfl ?_
            go_wp2_with fail
            refine then_n ⟨HIB.out _ (bs _ _ _ _ b3), ?_⟩
            try simp only [Act.put, List.setIfInBounds_toArray, List.set_cons_zero, List.set_cons_succ]
            refine inv_list 12 (by kernel_rfl) rfl ?_
            go_wp2_with fail
            refine then_n ⟨HIB.out _ (bs _ _ _ _ b3), ?_⟩
            try simp only [Act.put, List.setIfInBounds_toArray, List.set_cons_zero, List.set_cons_succ]
            refine inv_done (by kernel_rfl) ?_
            clear HhB
            cases B
            all_goals
              go_wp2_with fail
              go_ret
              exact ⟨by rw [HH.out]; rfl, next hB2 (bs _ _ _ _ b3)⟩
        · have HK : Hid (decide (x.k = 1 ∨ x.k = 2) = false) := decide_eq_false e3
          have HC : Hid (ckE N node L x = 1) := by
            show _ = _
            unfold ckE tknP
            rw [HR.out]
            rw [decide_eq_false (fun e => e3 e.2.2)]; rfl
          go_upto_region 4 with fail
          have uc := @Up.cell
          have uf := @Up.frozen
          refine wp_region_up (by kernel_rfl) (by kernel_rfl) ?_
          repeat (go_big_quiet_step ((go_at_call 53; exact Calls.up_of (isHome_is x.k false HK.out _))))
          refine wpQuiet_nil ?_
          rintro _ ⟨u, rfl⟩
          clear uc uf
          go_wp2_with fail
          go_ret
          exact ⟨by rw [HC.out]; rfl, next hB1 u.2⟩
      · have h2b : decide ((N : Int) ≤ x.f) = true := decide_eq_true (by omega)
        have HK : Hid (decide (x.k = 1 ∨ x.k = 2) = decide (x.k = 1 ∨ x.k = 2)) := rfl
        have HC : Hid (ckE N node L x = 1) := by
          show _ = _
          unfold ckE tknP
          rw [HR.out]
          rw [decide_eq_false (fun e => e2 e.2.1)]; rfl
        go_upto_region 4 with fail
        have uc := @Up.cell
        have uf := @Up.frozen
        refine wp_region_up (by kernel_rfl) (by kernel_rfl) ?_
        repeat (go_big_quiet_step ((go_at_call 53; exact Calls.up_of (isHome_is x.k _ HK.out _))))
        refine wpQuiet_nil ?_
        rintro _ ⟨u, rfl⟩
        clear uc uf
        go_wp2_with fail
        go_ret
        exact ⟨by rw [HC.out]; rfl, next hB1 u.2⟩
    · have h1b : (x.t != node) = true := by simp [e1]
      have HK : Hid (decide (x.k = 1 ∨ x.k = 2) = decide (x.k = 1 ∨ x.k = 2)) := rfl
      have HC : Hid (ckE N node L x = 1) := by
        show _ = _
        unfold ckE tknP
        rw [HR.out]
        rw [decide_eq_false (fun e => e1 e.1)]; rfl
      go_upto_region 4 with fail
      have uc := @Up.cell
      have uf := @Up.frozen
      refine wp_region_up (by kernel_rfl) (by kernel_rfl) ?_
      repeat (go_big_quiet_step ((go_at_call 53; exact Calls.up_of (isHome_is x.k _ HK.out _))))
      refine wpQuiet_nil ?_
      rintro _ ⟨u, rfl⟩
      clear uc uf
      go_wp2_with fail
      go_ret
      exact ⟨by rw [HC.out]; rfl, next hB1 u.2⟩
end
end Go.Proofs.Ytgeiagndpfdnlaa
end
section
namespace Go.Proofs.Ytgeiagndpfdnlaa
open Go.RowKit Go.Maps
set_option linter.unusedVariables false
set_option maxRecDepth 20000

section
variable {w wx wy : World} {g g1 g2 n N : Nat} {X Y : Nat → Prop} {K node : Int} {L : List Hr} {o : List (Int × Int)} {q : List Wr}
/-- What is new is the test's own. -/
theorem PH.own (h : PH w wx g g1 g2 X N K node L n o q) (hb : Below wx.heap.size wx wy) : PH w wy g g1 g2 (fun j => X j ∨ (wx.heap.size ≤ j ∧ j < wy.heap.size)) N K node L n o q :=
  h.step (F := fun _ => False) (Keep.of_below hb) (fun _ h => h.elim) (fun j hj => by
    rcases hj with hj | hj
    · exact ⟨.inl hj, Nat.lt_of_lt_of_le (h.xl j hj) hb.size⟩
    · exact ⟨.inr hj.1, hj.2⟩)
/-- Less is the test's own. -/
theorem PH.off (h : PH w wx g g1 g2 Y N K node L n o q) (hX : ∀ j, X j → Y j) : PH w wx g g1 g2 X N K node L n o q :=
  h.step (F := fun _ => False) (Keep.refl _ _) (fun _ h => h.elim) (fun j hj => ⟨.inl (hX j hj), h.xl j (hX j hj)⟩)
theorem nx_less (hX : ∀ j, X j → Y j) {j : Nat} (h : NX w Y j) : NX w X j := ⟨h.1, fun hx => h.2 (hX j hx)⟩
set_option maxHeartbeats 1600000 in
theorem hlock_no (h : PH w wx g g1 g2 X N K node L n o q) (x : Pk) (a : Option Addr) (m c : Nat) (hl : In64 x.l) (h1 : 0 ≤ x.l) (h2 : 0 ≤ x.f) (hn : n ≤ 1000) (hb : askB o q x.l = false) :
    Calls Try.prog 29 #[.pointer (some ⟨g, 0, none⟩), x.val (.slice a m c)] wx fun e w' => e = .returned (.tuple #[zeroPk.val (.slice none 0 0), .bool false]) ∧ Keep (NX w X) wx w' ∧ PH w w' g g1 g2 X N K node L (n + 1) (askO o q x.l x.f) (askQ o q x.l x.f x.i) := by
  have HH : Hid (In64 x.l ∧ 0 ≤ x.l ∧ 0 ≤ x.f ∧ n ≤ 1000) := ⟨hl, h1, h2, hn⟩
  have HBB : Hid (askB o q x.l = false) := hb
  clear hl h1 h2 hn hb
  unfold Pk.val
  go_enter Try.func29, Try.ntmps29
  go_upto_region 1 with fail
  have hB : Below wx.heap.size wx ((wx.alloc (.cells #[.int .i64 x.k, .int .i64 x.f, .int .i64 x.t, .int .i64 x.i, .int .i64 x.l, .int .i64 x.p, .int .i64 x.s, .bool x.fl, .slice a m c] 32)).alloc (.cells #[.int .i64 0, .int .i64 0, .int .i64 0, .int .i64 0, .int .i64 0, .int .i64 0, .int .i64 0, .bool false, .slice none 0 0] 32)) := ba (ba (Below.refl _ _))
  have bxp : Bx ((wx.alloc (.cells #[.int .i64 x.k, .int .i64 x.f, .int .i64 x.t, .int .i64 x.i, .int .i64 x.l, .int .i64 x.p, .int .i64 x.s, .bool x.fl, .slice a m c] 32)).alloc (.cells #[.int .i64 0, .int .i64 0, .int .i64 0, .int .i64 0, .int .i64 0, .int .i64 0, .int .i64 0, .bool false, .slice none 0 0] 32)) wx.heap.size x (.slice a m c) := (Bx.made wx x (.slice a m c)).next (ba (Below.refl _ _))
  have bxr : Bx ((wx.alloc (.cells #[.int .i64 x.k, .int .i64 x.f, .int .i64 x.t, .int .i64 x.i, .int .i64 x.l, .int .i64 x.p, .int .i64 x.s, .bool x.fl, .slice a m c] 32)).alloc (.cells #[.int .i64 0, .int .i64 0, .int .i64 0, .int .i64 0, .int .i64 0, .int .i64 0, .int .i64 0, .bool false, .slice none 0 0] 32)) (wx.heap.size + 1) zeroPk (.slice none 0 0) := Bx.made' (wx.alloc (.cells #[.int .i64 x.k, .int .i64 x.f, .int .i64 x.t, .int .i64 x.i, .int .i64 x.l, .int .i64 x.p, .int .i64 x.s, .bool x.fl, .slice a m c] 32)) zeroPk (.slice none 0 0) _ (by simp)
  have h1 := h.own hB
  have HX : Hid (∀ j, X j → j < wx.heap.size) := h.xl
  have HWS : Hid (w.heap.size ≤ wx.heap.size) := h.bel.size
  clear h
  generalize World.alloc _ (.cells #[.int .i64 0, .int .i64 0, .int .i64 0, .int .i64 0, .int .i64 0, .int .i64 0, .int .i64 0, .bool false, .slice none 0 0] 32) = W at *
  obtain ⟨q0, q1, q2, q3, q4, q5, q6, q7, q8, qf, ql⟩ := id bxp
  have c0 := h1.c0
  have c1 := h1.c1
  have c2 := h1.c2
  have c3 := h1.c3
  have lt := h1.lt
  refine wp_region_orders 12 rfl (by kernel_rfl) ?_
  have Bd : Below W.heap.size W W.drew := (Below.refl _ _).drew
  replace c1 := (Bd.cell (p := ⟨g, 1, none⟩) lt).trans c1
  replace q1 := (Bd.cell (p := ⟨wx.heap.size, 1, none⟩) ql).trans q1
  replace q3 := (Bd.cell (p := ⟨wx.heap.size, 3, none⟩) ql).trans q3
  replace q4 := (Bd.cell (p := ⟨wx.heap.size, 4, none⟩) ql).trans q4
  have h2 := h1.below Bd
  have bp2 := bxp.next Bd
  have br2 := bxr.next Bd
  have hB2 := next hB Bd
  have HSZ : Hid (wx.heap.size + 1 < W.heap.size) := bxr.lt
  have HXW : Hid (∀ j, wx.heap.size ≤ j → j < W.heap.size → (X j ∨ wx.heap.size ≤ j ∧ j < W.heap.size)) := fun j h1 h2 => .inr ⟨h1, h2⟩
  obtain ⟨zw, ezw⟩ : ∃ zw, W.heap.size = zw := ⟨_, rfl⟩
  rw [ezw] at h2 HSZ HXW
  clear ezw q0 q2 q5 q6 q7 q8 qf bxp bxr h1 hB c0 c2 c3 lt ql
  clear Bd
  generalize W.drew = Wd at *
  clear W
  have hI : (fun V => V.cell? ⟨g, 1, none⟩ = some (.pointer (some ⟨g2, 0, none⟩)) ∧ V.cell? ⟨wx.heap.size, 1, none⟩ = some (.int .i64 x.f) ∧ V.cell? ⟨wx.heap.size, 3, none⟩ = some (.int .i64 x.i) ∧ V.cell? ⟨wx.heap.size, 4, none⟩ = some (.int .i64 x.l)) Wd := ⟨c1, q1, q3, q4⟩
  refine any_inv (fun V => V.cell? ⟨g, 1, none⟩ = some (.pointer (some ⟨g2, 0, none⟩)) ∧ V.cell? ⟨wx.heap.size, 1, none⟩ = some (.int .i64 x.f) ∧ V.cell? ⟨wx.heap.size, 3, none⟩ = some (.int .i64 x.i) ∧ V.cell? ⟨wx.heap.size, 4, none⟩ = some (.int .i64 x.l)) [10] hI ?_
  refine inv_take (v := ?v1) [1, 2, 3, 10, 11] 0 hI rfl (by kernel_rfl) (by kernel_rfl) (by kernel_rfl) (by kernel_rfl) (by kernel_rfl) (fun _ _ _ h => h) (by kernel_rfl) (fun V hV => ?hy1) ?go1
  case hy1 => (obtain ⟨i0, i1, i2, i3⟩ := hV; go_simp <;> rfl)
  simp only [Act.put, List.setIfInBounds_toArray, List.set_cons_zero, List.set_cons_succ]
  refine inv_take (v := ?v2) [2, 3, 10, 11] 1 hI rfl (by kernel_rfl) (by kernel_rfl) (by kernel_rfl) (by kernel_rfl) (by kernel_rfl) (fun _ _ _ h => h) (by kernel_rfl) (fun V hV => ?hy2) ?go2
  case hy2 => (obtain ⟨i0, i1, i2, i3⟩ := hV; go_simp <;> rfl)
  simp only [Act.put, List.setIfInBounds_toArray, List.set_cons_zero, List.set_cons_succ]
  refine inv_take (v := ?v3) [3, 10, 11] 2 hI rfl (by kernel_rfl) (by kernel_rfl) (by kernel_rfl) (by kernel_rfl) (by kernel_rfl) (fun _ _ _ h => h) (by kernel_rfl) (fun V hV => ?hy3) ?go3
  case hy3 => (obtain ⟨i0, i1, i2, i3⟩ := hV; go_simp <;> rfl)
  simp only [Act.put, List.setIfInBounds_toArray, List.set_cons_zero, List.set_cons_succ]
  refine inv_take (v := ?v4) [10, 11] 3 hI rfl (by kernel_rfl) (by kernel_rfl) (by kernel_rfl) (by kernel_rfl) (by kernel_rfl) (fun _ _ _ h => h) (by kernel_rfl) (fun V hV => ?hy4) ?go4
  case hy4 => (obtain ⟨i0, i1, i2, i3⟩ := hV; go_simp <;> rfl)
  simp only [Act.put, List.setIfInBounds_toArray, List.set_cons_zero, List.set_cons_succ]
  refine inv_take (v := ?v5) [5, 10, 11] 4 hI rfl (by kernel_rfl) (by kernel_rfl) (by kernel_rfl) (by kernel_rfl) (by kernel_rfl) (fun _ _ _ h => h) (by kernel_rfl) (fun V hV => ?hy5) ?go5
  case hy5 => (obtain ⟨i0, i1, i2, i3⟩ := hV; go_simp <;> rfl)
  simp only [Act.put, List.setIfInBounds_toArray, List.set_cons_zero, List.set_cons_succ]
  refine inv_take (v := ?v6) [10, 11] 5 hI rfl (by kernel_rfl) (by kernel_rfl) (by kernel_rfl) (by kernel_rfl) (by kernel_rfl) (fun _ _ _ h => h) (by kernel_rfl) (fun V hV => ?hy6) ?go6
  case hy6 => (obtain ⟨i0, i1, i2, i3⟩ := hV; go_simp <;> rfl)
  simp only [Act.put, List.setIfInBounds_toArray, List.set_cons_zero, List.set_cons_succ]
  refine inv_take (v := ?v7) [7, 10, 11] 6 hI rfl (by kernel_rfl) (by kernel_rfl) (by kernel_rfl) (by kernel_rfl) (by kernel_rfl) (fun _ _ _ h => h) (by kernel_rfl) (fun V hV => ?hy7) ?go7
  case hy7 => (obtain ⟨i0, i1, i2, i3⟩ := hV; go_simp <;> rfl)
  simp only [Act.put, List.setIfInBounds_toArray, List.set_cons_zero, List.set_cons_succ]
  refine inv_take (v := ?v8) [10, 11] 7 hI rfl (by kernel_rfl) (by kernel_rfl) (by kernel_rfl) (by kernel_rfl) (by kernel_rfl) (fun _ _ _ h => h) (by kernel_rfl) (fun V hV => ?hy8) ?go8
  case hy8 => (obtain ⟨i0, i1, i2, i3⟩ := hV; go_simp <;> rfl)
  simp only [Act.put, List.setIfInBounds_toArray, List.set_cons_zero, List.set_cons_succ]
  refine inv_take (v := ?v9) [9, 10, 11] 8 hI rfl (by kernel_rfl) (by kernel_rfl) (by kernel_rfl) (by kernel_rfl) (by kernel_rfl) (fun _ _ _ h => h) (by kernel_rfl) (fun V hV => ?hy9) ?go9
  case hy9 => (obtain ⟨i0, i1, i2, i3⟩ := hV; go_simp <;> rfl)
  simp only [Act.put, List.setIfInBounds_toArray, List.set_cons_zero, List.set_cons_succ]
  refine inv_take (v := ?v10) [10, 11] 9 hI rfl (by kernel_rfl) (by kernel_rfl) (by kernel_rfl) (by kernel_rfl) (by kernel_rfl) (fun _ _ _ h => h) (by kernel_rfl) (fun V hV => ?hy10) ?go10
  case hy10 => (obtain ⟨i0, i1, i2, i3⟩ := hV; go_simp <;> rfl)
  simp only [Act.put, List.setIfInBounds_toArray, List.set_cons_zero, List.set_cons_succ]
  refine inv_write 10 (by kernel_rfl) (by kernel_rfl) rfl ?_
  go_wp2_with (go_at_call 54; refine (hp_ask h2.hp x.i HH.out.1 HH.out.2.1 HH.out.2.2.1 HH.out.2.2.2).mono ?_; rw [HBB.out]; rintro e V2 ⟨rfl, hk2, p2⟩; obtain ⟨hk3, h3⟩ := h2.call hk2 p2)
  refine then_n ?_
  refine any_list 11 (by kernel_rfl) rfl ?_
  go_wp2_with fail
  refine then_n ?_
  clear hI c1 q1 q3 q4
  refine any_done (by kernel_rfl) ?_
  have br3 := br2.keep hk2 (fun hf => hf.2 (.inl (HXW.out _ (by omega) HSZ.out)))
  have hK := Keep.pre hB2 (hk3.mono (G := NX w X) (fun j _ hj => nx_less (fun j hx => .inl hx) hj))
  clear hk2 hk3 p2 br2 bp2 h2 hB2
  obtain ⟨r0, r1, r2, r3, r4, r5, r6, r7, r8, rf, rl⟩ := id br3
  have f0 := rf 0
  go_wp2_with fail
  have hkk : Keep (fun k => k = wx.heap.size + 1) V2 _ := far9 (g := wx.heap.size + 1) (y := zeroPk) (v := .slice none 0 0) (W := V2) (P := fun V => Keep (fun k => k = wx.heap.size + 1) V2 V) (fun V o u h => h.setCell (.inl rfl) u) (Keep.refl _ _)
  refine bodyPost_ret (v := .tuple #[Pk.val zeroPk (.slice none 0 0), .bool false]) (by simp [results, Try.results29, go_sem, *, zeroPk]) rfl ⟨rfl, hK.trans hkk (fun j hj e => by omega), h3.step hkk (fun j hj => ?_) (fun j hj => ⟨.inl (.inl hj), ?_⟩)⟩
  · subst hj
    have h1 := HWS.out
    exact ⟨by omega, .inl (HXW.out _ (by omega) HSZ.out)⟩
  · have h1 := h3.xl j (.inl hj)
    exact Nat.lt_of_lt_of_le h1 hkk.size
set_option maxHeartbeats 1600000 in
theorem hlock_yes (h : PH w wx g g1 g2 X N K node L n o q) (x : Pk) (a : Option Addr) (m c : Nat) (hl : In64 x.l) (h1 : 0 ≤ x.l) (h2 : 0 ≤ x.f) (hn : n ≤ 1000) (hb : askB o q x.l = true) :
    Calls Try.prog 29 #[.pointer (some ⟨g, 0, none⟩), x.val (.slice a m c)] wx fun e w' => ∃ d, e = .returned (.tuple #[(grantR node x.f x.i x.l L).val d, .bool true]) ∧ DatZ w' (fun k => wx.heap.size ≤ k) (grantR node x.f x.i x.l L).z d ∧ Keep (NX w X) wx w' ∧ PH w w' g g1 g2 X N K node L (n + 1) (askO o q x.l x.f) (askQ o q x.l x.f x.i) := by
  have HH : Hid (In64 x.l ∧ 0 ≤ x.l ∧ 0 ≤ x.f ∧ n ≤ 1000) := ⟨hl, h1, h2, hn⟩
  have HBB : Hid (askB o q x.l = true) := hb
  clear hl h1 h2 hn hb
  unfold Pk.val
  go_enter Try.func29, Try.ntmps29
  go_upto_region 1 with fail
  have hB : Below wx.heap.size wx ((wx.alloc (.cells #[.int .i64 x.k, .int .i64 x.f, .int .i64 x.t, .int .i64 x.i, .int .i64 x.l, .int .i64 x.p, .int .i64 x.s, .bool x.fl, .slice a m c] 32)).alloc (.cells #[.int .i64 0, .int .i64 0, .int .i64 0, .int .i64 0, .int .i64 0, .int .i64 0, .int .i64 0, .bool false, .slice none 0 0] 32)) := ba (ba (Below.refl _ _))
  have bxp : Bx ((wx.alloc (.cells #[.int .i64 x.k, .int .i64 x.f, .int .i64 x.t, .int .i64 x.i, .int .i64 x.l, .int .i64 x.p, .int .i64 x.s, .bool x.fl, .slice a m c] 32)).alloc (.cells #[.int .i64 0, .int .i64 0, .int .i64 0, .int .i64 0, .int .i64 0, .int .i64 0, .int .i64 0, .bool false, .slice none 0 0] 32)) wx.heap.size x (.slice a m c) := (Bx.made wx x (.slice a m c)).next (ba (Below.refl _ _))
  have bxr : Bx ((wx.alloc (.cells #[.int .i64 x.k, .int .i64 x.f, .int .i64 x.t, .int .i64 x.i, .int .i64 x.l, .int .i64 x.p, .int .i64 x.s, .bool x.fl, .slice a m c] 32)).alloc (.cells #[.int .i64 0, .int .i64 0, .int .i64 0, .int .i64 0, .int .i64 0, .int .i64 0, .int .i64 0, .bool false, .slice none 0 0] 32)) (wx.heap.size + 1) zeroPk (.slice none 0 0) := Bx.made' (wx.alloc (.cells #[.int .i64 x.k, .int .i64 x.f, .int .i64 x.t, .int .i64 x.i, .int .i64 x.l, .int .i64 x.p, .int .i64 x.s, .bool x.fl, .slice a m c] 32)) zeroPk (.slice none 0 0) _ (by simp)
  have h1 := h.own hB
  have HX : Hid (∀ j, X j → j < wx.heap.size) := h.xl
  have HWS : Hid (w.heap.size ≤ wx.heap.size) := h.bel.size
  clear h
  generalize World.alloc _ (.cells #[.int .i64 0, .int .i64 0, .int .i64 0, .int .i64 0, .int .i64 0, .int .i64 0, .int .i64 0, .bool false, .slice none 0 0] 32) = W at *
  obtain ⟨q0, q1, q2, q3, q4, q5, q6, q7, q8, qf, ql⟩ := id bxp
  have c0 := h1.c0
  have c1 := h1.c1
  have c2 := h1.c2
  have c3 := h1.c3
  have lt := h1.lt
  refine wp_region_orders 12 rfl (by kernel_rfl) ?_
  have Bd : Below W.heap.size W W.drew := (Below.refl _ _).drew
  replace c1 := (Bd.cell (p := ⟨g, 1, none⟩) lt).trans c1
  replace q1 := (Bd.cell (p := ⟨wx.heap.size, 1, none⟩) ql).trans q1
  replace q3 := (Bd.cell (p := ⟨wx.heap.size, 3, none⟩) ql).trans q3
  replace q4 := (Bd.cell (p := ⟨wx.heap.size, 4, none⟩) ql).trans q4
  have h2 := h1.below Bd
  have bp2 := bxp.next Bd
  have br2 := bxr.next Bd
  have hB2 := next hB Bd
  have HSZ : Hid (wx.heap.size + 1 < W.heap.size) := bxr.lt
  have HXW : Hid (∀ j, wx.heap.size ≤ j → j < W.heap.size → (X j ∨ wx.heap.size ≤ j ∧ j < W.heap.size)) := fun j h1 h2 => .inr ⟨h1, h2⟩
  obtain ⟨zw, ezw⟩ : ∃ zw, W.heap.size = zw := ⟨_, rfl⟩
  rw [ezw] at h2 HSZ HXW
  clear ezw q0 q2 q5 q6 q7 q8 qf bxp bxr h1 hB c0 c2 c3 lt ql
  clear Bd
  generalize W.drew = Wd at *
  clear W
  have hI : (fun V => V.cell? ⟨g, 1, none⟩ = some (.pointer (some ⟨g2, 0, none⟩)) ∧ V.cell? ⟨wx.heap.size, 1, none⟩ = some (.int .i64 x.f) ∧ V.cell? ⟨wx.heap.size, 3, none⟩ = some (.int .i64 x.i) ∧ V.cell? ⟨wx.heap.size, 4, none⟩ = some (.int .i64 x.l)) Wd := ⟨c1, q1, q3, q4⟩
  refine any_inv (fun V => V.cell? ⟨g, 1, none⟩ = some (.pointer (some ⟨g2, 0, none⟩)) ∧ V.cell? ⟨wx.heap.size, 1, none⟩ = some (.int .i64 x.f) ∧ V.cell? ⟨wx.heap.size, 3, none⟩ = some (.int .i64 x.i) ∧ V.cell? ⟨wx.heap.size, 4, none⟩ = some (.int .i64 x.l)) [10] hI ?_
  refine inv_take (v := ?v1) [1, 2, 3, 10, 11] 0 hI rfl (by kernel_rfl) (by kernel_rfl) (by kernel_rfl) (by kernel_rfl) (by kernel_rfl) (fun _ _ _ h => h) (by kernel_rfl) (fun V hV => ?hy1) ?go1
  case hy1 => (obtain ⟨i0, i1, i2, i3⟩ := hV; go_simp <;> rfl)
  simp only [Act.put, List.setIfInBounds_toArray, List.set_cons_zero, List.set_cons_succ]
  refine inv_take (v := ?v2) [2, 3, 10, 11] 1 hI rfl (by kernel_rfl) (by kernel_rfl) (by kernel_rfl) (by kernel_rfl) (by kernel_rfl) (fun _ _ _ h => h) (by kernel_rfl) (fun V hV => ?hy2) ?go2
  case hy2 => (obtain ⟨i0, i1, i2, i3⟩ := hV; go_simp <;> rfl)
  simp only [Act.put, List.setIfInBounds_toArray, List.set_cons_zero, List.set_cons_succ]
  refine inv_take (v := ?v3) [3, 10, 11] 2 hI rfl (by kernel_rfl) (by kernel_rfl) (by kernel_rfl) (by kernel_rfl) (by kernel_rfl) (fun _ _ _ h => h) (by kernel_rfl) (fun V hV => ?hy3) ?go3
  case hy3 => (obtain ⟨i0, i1, i2, i3⟩ := hV; go_simp <;> rfl)
  simp only [Act.put, List.setIfInBounds_toArray, List.set_cons_zero, List.set_cons_succ]
  refine inv_take (v := ?v4) [10, 11] 3 hI rfl (by kernel_rfl) (by kernel_rfl) (by kernel_rfl) (by kernel_rfl) (by kernel_rfl) (fun _ _ _ h => h) (by kernel_rfl) (fun V hV => ?hy4) ?go4
  case hy4 => (obtain ⟨i0, i1, i2, i3⟩ := hV; go_simp <;> rfl)
  simp only [Act.put, List.setIfInBounds_toArray, List.set_cons_zero, List.set_cons_succ]
  refine inv_take (v := ?v5) [5, 10, 11] 4 hI rfl (by kernel_rfl) (by kernel_rfl) (by kernel_rfl) (by kernel_rfl) (by kernel_rfl) (fun _ _ _ h => h) (by kernel_rfl) (fun V hV => ?hy5) ?go5
  case hy5 => (obtain ⟨i0, i1, i2, i3⟩ := hV; go_simp <;> rfl)
  simp only [Act.put, List.setIfInBounds_toArray, List.set_cons_zero, List.set_cons_succ]
  refine inv_take (v := ?v6) [10, 11] 5 hI rfl (by kernel_rfl) (by kernel_rfl) (by kernel_rfl) (by kernel_rfl) (by kernel_rfl) (fun _ _ _ h => h) (by kernel_rfl) (fun V hV => ?hy6) ?go6
  case hy6 => (obtain ⟨i0, i1, i2, i3⟩ := hV; go_simp <;> rfl)
  simp only [Act.put, List.setIfInBounds_toArray, List.set_cons_zero, List.set_cons_succ]
  refine inv_take (v := ?v7) [7, 10, 11] 6 hI rfl (by kernel_rfl) (by kernel_rfl) (by kernel_rfl) (by kernel_rfl) (by kernel_rfl) (fun _ _ _ h => h) (by kernel_rfl) (fun V hV => ?hy7) ?go7
  case hy7 => (obtain ⟨i0, i1, i2, i3⟩ := hV; go_simp <;> rfl)
  simp only [Act.put, List.setIfInBounds_toArray, List.set_cons_zero, List.set_cons_succ]
  refine inv_take (v := ?v8) [10, 11] 7 hI rfl (by kernel_rfl) (by kernel_rfl) (by kernel_rfl) (by kernel_rfl) (by kernel_rfl) (fun _ _ _ h => h) (by kernel_rfl) (fun V hV => ?hy8) ?go8
  case hy8 => (obtain ⟨i0, i1, i2, i3⟩ := hV; go_simp <;> rfl)
  simp only [Act.put, List.setIfInBounds_toArray, List.set_cons_zero, List.set_cons_succ]
  refine inv_take (v := ?v9) [9, 10, 11] 8 hI rfl (by kernel_rfl) (by kernel_rfl) (by kernel_rfl) (by kernel_rfl) (by kernel_rfl) (fun _ _ _ h => h) (by kernel_rfl) (fun V hV => ?hy9) ?go9
  case hy9 => (obtain ⟨i0, i1, i2, i3⟩ := hV; go_simp <;> rfl)
  simp only [Act.put, List.setIfInBounds_toArray, List.set_cons_zero, List.set_cons_succ]
  refine inv_take (v := ?v10) [10, 11] 9 hI rfl (by kernel_rfl) (by kernel_rfl) (by kernel_rfl) (by kernel_rfl) (by kernel_rfl) (fun _ _ _ h => h) (by kernel_rfl) (fun V hV => ?hy10) ?go10
  case hy10 => (obtain ⟨i0, i1, i2, i3⟩ := hV; go_simp <;> rfl)
  simp only [Act.put, List.setIfInBounds_toArray, List.set_cons_zero, List.set_cons_succ]
  refine inv_write 10 (by kernel_rfl) (by kernel_rfl) rfl ?_
  go_wp2_with (go_at_call 54; refine (hp_ask h2.hp x.i HH.out.1 HH.out.2.1 HH.out.2.2.1 HH.out.2.2.2).mono ?_; rw [HBB.out]; rintro e V2 ⟨rfl, hk2, p2⟩; obtain ⟨hk3, h3⟩ := h2.call hk2 p2)
  refine then_n ?_
  refine any_list 11 (by kernel_rfl) rfl ?_
  go_wp2_with fail
  refine then_n ?_
  clear hI c1 q1 q3 q4
  have bp3 := bp2.keep hk2 (fun hf => hf.2 (.inl (HXW.out _ (Nat.le_refl _) (by have := HSZ.out; omega))))
  refine any_done (by kernel_rfl) ?_
  have br3 := br2.keep hk2 (fun hf => hf.2 (.inl (HXW.out _ (by omega) HSZ.out)))
  have hK := Keep.pre hB2 (hk3.mono (G := NX w X) (fun j _ hj => nx_less (fun j hx => .inl hx) hj))
  have hz2 : Hid (wx.heap.size + 1 < V2.heap.size) := br3.lt
  have hzz : wx.heap.size ≤ V2.heap.size := hK.size
  clear hk2 hk3 p2 br2 bp2 h2 hB2
  obtain ⟨q0, q1, q2, q3, q4, q5, q6, q7, q8, qf, ql⟩ := id bp3
  obtain ⟨P, hP⟩ : ∃ P, grantR node x.f x.i x.l L = P := ⟨_, rfl⟩
  go_wp2_with (go_at_call 35; refine (hgranted_any h3 HH.out.1 x.f x.i).mono ?_; rw [hP]; rintro e V5 ⟨dd, rfl, hd5, b5⟩; obtain ⟨a5, n5, c5, ed, _⟩ := id hd5; subst ed; have br6 := br3.next b5; obtain ⟨r0, r1, r2, r3, r4, r5, r6, r7, r8, rf, rl⟩ := id br6; have f0 := rf 0)
  have hkk : Keep (fun k => k = wx.heap.size + 1) V5 _ := far9 (g := wx.heap.size + 1) (y := P) (v := .slice a5 n5 c5) (W := V5) (P := fun V => Keep (fun k => k = wx.heap.size + 1) V5 V) (fun V o u h => h.setCell (.inl rfl) u) (Keep.refl _ _)
  refine bodyPost_ret (v := .tuple #[Pk.val P (.slice a5 n5 c5), .bool true]) (by simp [results, Try.results29, go_sem, *]) rfl ⟨_, by rw [hP], by rw [hP]; exact (hd5.keep hkk (fun j hj e => by have := hz2.out; omega)).imp (fun j _ hj => by omega), (hK.trans (Keep.of_below (F := fun _ => False) b5) (fun j _ h => h.elim)).trans hkk (fun j hj e => by omega), (h3.below b5).step hkk (fun j hj => ?_) (fun j hj => ⟨.inl (.inl hj), ?_⟩)⟩
  · subst hj
    have h1 := HWS.out
    exact ⟨by omega, .inl (HXW.out _ (by omega) HSZ.out)⟩
  · have h1 := h3.xl j (.inl hj)
    have h2 := b5.size
    have h4 := hkk.size
    omega
end
end Go.Proofs.Ytgeiagndpfdnlaa
end
