/- The document's turns in memory: two rows (line and who; line, who and number), cell by cell. Nothing of the program is named here.
The program's turns in memory: two maps, one of owners by line, one of those who wait by line (TW). Nothing of the program is named here but its types.
The program's turns, what only reads or begins: New, owned, Owner, Waiting, isReady. Conditions: as each theorem states them.
The program's turns: Ask, Release. Conditions: as each theorem states them.
The program's turns: takeFirst, Next. Conditions: as each theorem states them.
The program's turns: Ready; slices.Sort of what a call made. Conditions: as each theorem states them.
Turns beside what a test has of its own (TO), on plain data: who has each line, who waits for it. Conditions: as each theorem states them.
The example that each of chapter 10's laws looks at. Conditions: as each theorem states them.
The document's turns: Owner, Waiting. Conditions: as each theorem states them. -/
import Derived.Test.YtgeiagndpfdnlaaPart4
import Derived.Test.YtgeiagndpfdnlaaPart2
import Derived.Carry
import Derived.Test.YtgeiagndpfdnlaaPart3
import Derived.Sort.OwnSortedInts
import Derived.Maps.RangeWalk
section
namespace Go.Proofs.Ytgeiagndpfdnlaa
open Go.RowKit
set_option linter.unusedVariables false

def dcells (p : Int × Int) : List Value := [.int .i64 p.1, .int .i64 p.2]
def wcells (x : Wr) : List Value := [.int .i64 x.l, .int .i64 x.w, .int .i64 x.d]
theorem dcells_len (p : Int × Int) : (dcells p).length = 2 := rfl
theorem wcells_len (x : Wr) : (wcells x).length = 3 := rfl
theorem dcells_one (R : List (Int × Int)) : ∀ u ∈ flat dcells R, u.oneCell' = true := flat_onecell (fun r _ u hu => by simp [dcells] at hu; rcases hu with rfl | rfl <;> rfl)
theorem wcells_one (R : List Wr) : ∀ u ∈ flat wcells R, u.oneCell' = true := flat_onecell (fun r _ u hu => by simp [wcells] at hu; rcases hu with rfl | rfl | rfl <;> rfl)
/-- An element of a row of structs, cell by cell. -/
theorem Rw.getF {α : Type} {c : α → List Value} {k : Nat} {w : World} {M : Nat → Prop} {a : Option Addr} {n cap : Nat} {R : List α} (h : Rw w M a n cap k (flat c R)) (hc : ∀ x, (c x).length = k) {i : Nat} {r : α} (hr : R[i]? = some r) (hi : i < n) :
    ∃ b o, a = some ⟨b, o, none⟩ ∧ M b ∧ b < w.heap.size ∧ ∀ j u, j < k → (c r)[j]? = some u → w.cell? ⟨b, o + i * k + j, none⟩ = some u := by
  rcases h.row with h0 | ⟨b, o, rfl, hm, hb, hcell, hf⟩
  · have := h.le; omega
  · exact ⟨b, o, rfl, hm, hb, fun j u hj hu => by rw [Nat.add_assoc]; exact hcell _ u (by rw [flat_get hc hr j hj]; exact hu)⟩
theorem Rw.lenF {α : Type} {c : α → List Value} {k : Nat} {w : World} {M : Nat → Prop} {a : Option Addr} {n cap : Nat} {R : List α} (h : Rw w M a n cap k (flat c R)) (hc : ∀ x, (c x).length = k) (hk : 0 < k) : R.length = n := by
  have h1 := h.len
  rw [flat_len hc] at h1
  exact Nat.eq_of_mul_eq_mul_right hk h1
/-- The document's turns at block g. -/
structure DT (w : World) (g t0 : Nat) (M N : Nat → Prop) (o : List (Int × Int)) (q : List Wr) (ao : Option Addr) (no co : Nat) (aq : Option Addr) (nq cq : Nat) : Prop where
  c0 : w.cell? ⟨g, t0, none⟩ = some (.slice ao no co)
  c1 : w.cell? ⟨g, t0 + 1, none⟩ = some (.slice aq nq cq)
  f0 : w.frozen? ⟨g, t0, none⟩ = false
  f1 : w.frozen? ⟨g, t0 + 1, none⟩ = false
  lt : g < w.heap.size
  ro : Rw w M ao no co 2 (flat dcells o)
  rq : Rw w N aq nq cq 3 (flat wcells q)
  no : ¬ M g ∧ ¬ N g
  ap : ∀ k, M k → ¬ N k
  old : ∀ k, M k ∨ N k → k < w.heap.size
  ok : OkT o
variable {w w' : World} {g t0 : Nat} {M N : Nat → Prop} {o : List (Int × Int)} {q : List Wr} {ao aq : Option Addr} {no co nq cq : Nat}
theorem DT.keep {F : Nat → Prop} (h : DT w g t0 M N o q ao no co aq nq cq) (hk : Keep F w w') (hg : ¬ F g) (hF : ∀ k, M k ∨ N k → ¬ F k) : DT w' g t0 M N o q ao no co aq nq cq :=
  ⟨by rw [hk.cell _ h.lt hg]; exact h.c0, by rw [hk.cell _ h.lt hg]; exact h.c1, by rw [hk.frozen _ h.lt hg]; exact h.f0, by rw [hk.frozen _ h.lt hg]; exact h.f1, Nat.lt_of_lt_of_le h.lt hk.size, h.ro.keep hk (fun k hm => hF k (.inl hm)), h.rq.keep hk (fun k hm => hF k (.inr hm)), h.no, h.ap, fun k hm => Nat.lt_of_lt_of_le (h.old k hm) hk.size, h.ok⟩
theorem DT.below (h : DT w g t0 M N o q ao no co aq nq cq) (hb : Below w.heap.size w w') : DT w' g t0 M N o q ao no co aq nq cq := h.keep (F := fun _ => False) (Keep.of_below hb) id (fun _ _ h => h)
/-- But for two cells of block g it is as it was. -/
def Rest (g t0 : Nat) (w w' : World) : Prop := ∀ j, j ≠ t0 → j ≠ t0 + 1 → w'.cell? ⟨g, j, none⟩ = w.cell? ⟨g, j, none⟩ ∧ w'.frozen? ⟨g, j, none⟩ = w.frozen? ⟨g, j, none⟩
theorem Rest.keep {F : Nat → Prop} (hk : Keep F w w') (hg : g < w.heap.size) (hF : ¬ F g) : Rest g t0 w w' := fun j _ _ => ⟨hk.cell j hg hF, hk.frozen j hg hF⟩
theorem Rest.below (hb : Below w.heap.size w w') (hg : g < w.heap.size) : Rest g t0 w w' := Rest.keep (F := fun _ => False) (Keep.of_below hb) hg id
theorem Rest.trans {w2 : World} (h : Rest g t0 w w') (h2 : Rest g t0 w' w2) : Rest g t0 w w2 := fun j h1 h3 => ⟨(h2 j h1 h3).1.trans (h j h1 h3).1, (h2 j h1 h3).2.trans (h j h1 h3).2⟩
theorem Rest.set {f : Nat} (hf : f = t0 ∨ f = t0 + 1) (v : Value) : Rest g t0 w (w.setCell ⟨g, f, none⟩ v) := fun j h1 h2 => ⟨World.cell?_setCell_other _ _ _ _ (by simp <;> omega), by rw [World.frozen?_setCell]⟩
theorem wait_take {q : List Wr} {i : Nat} {x : Wr} (h : q[i]? = some x) (l : Int) : (waitT (q.take (i + 1)) l).length = (waitT (q.take i) l).length + (if x.l = l then 1 else 0) := by
  have e : q.take (i + 1) = q.take i ++ [x] := by rw [List.take_add_one, h]; rfl
  rw [e, wait_snoc]
  by_cases e2 : x.l = l
  · rw [if_pos e2, if_pos e2.symm]; simp
  · rw [if_neg e2, if_neg (fun e3 => e2 e3.symm)]; simp
end Go.Proofs.Ytgeiagndpfdnlaa
end
section
namespace Go.Proofs.Ytgeiagndpfdnlaa
open Go.RowKit Go.Maps
set_option linter.unusedVariables false

/-- Those who wait for a line in memory: which line, who and number, where. -/
structure TE where
  s : Int
  l : List (Int × Int)
  b : Nat
  o : Nat
  cap : Nat
@[reducible] def TE.val (p : TE) : Value := .slice (some ⟨p.b, p.o, none⟩) p.l.length p.cap
@[reducible] def oVal (p : Int × Int) : Value := .int .i64 p.2
structure TW (w : World) (g bo bw : Nat) (M : Nat → Prop) (R : List (Int × Int)) (O : List TE) : Prop where
  c0 : w.cell? ⟨g, 0, none⟩ = some (.map (some bo))
  c1 : w.cell? ⟨g, 1, none⟩ = some (.map (some bw))
  lt : g < w.heap.size
  mg : M g ∧ M bo ∧ M bw
  ne : bo ≠ g ∧ bw ≠ g ∧ bo ≠ bw
  own : IM w bo (kv Prod.fst oVal R)
  wts : IM w bw (kv TE.s TE.val O)
  rows : ∀ p ∈ O, Rw w (fun j => j = p.b) (some ⟨p.b, p.o, none⟩) p.l.length p.cap 2 (flat dcells p.l) ∧ M p.b ∧ p.b ≠ g ∧ p.b ≠ bo ∧ p.b ≠ bw
  ap : ∀ p ∈ O, ∀ q ∈ O, p.s ≠ q.s → p.b ≠ q.b
  rise : RiseK Prod.fst R
  riseO : RiseK TE.s O
  full : ∀ p ∈ O, p.l ≠ []
  pos : ∀ p ∈ R, 0 ≤ p.2
  old : ∀ j, M j → j < w.heap.size
section
variable {w w' : World} {g bo bw : Nat} {M F : Nat → Prop} {R : List (Int × Int)} {O : List TE}
theorem TW.keep (h : TW w g bo bw M R O) (hk : Keep F w w') (hF : ∀ k, M k → ¬ F k) : TW w' g bo bw M R O :=
  have e := fun o => hk.cell (b := g) o h.lt (hF g h.mg.1)
  ⟨(e _).trans h.c0, (e _).trans h.c1, Nat.lt_of_lt_of_le h.lt hk.size, h.mg, h.ne, h.own.keep hk (hF bo h.mg.2.1), h.wts.keep hk (hF bw h.mg.2.2),
    fun p hp => ⟨(h.rows p hp).1.keep hk (fun j hj => hj ▸ hF p.b (h.rows p hp).2.1), (h.rows p hp).2⟩, h.ap, h.rise, h.riseO, h.full, h.pos, fun j hj => Nat.lt_of_lt_of_le (h.old j hj) hk.size⟩
theorem TW.below (h : TW w g bo bw M R O) (hb : Below w.heap.size w w') : TW w' g bo bw M R O := h.keep (F := fun _ => False) (Keep.of_below hb) (fun _ _ h => h)
/-- The owners are others. -/
theorem TW.newown {R' : List (Int × Int)} (h : TW w g bo bw M R O) (ht : w.mapTurned w' bo) (hi : IM w' bo (kv Prod.fst oVal R')) (hr : RiseK Prod.fst R') (hp : ∀ p ∈ R', 0 ≤ p.2) : TW w' g bo bw M R' O := by
  have kk := turned_keep ht
  have e := fun o => kk.cell (b := g) o h.lt (Ne.symm h.ne.1)
  exact ⟨(e _).trans h.c0, (e _).trans h.c1, by rw [turned_size ht]; exact h.lt, h.mg, h.ne, hi, h.wts.keep kk (Ne.symm h.ne.2.2),
    fun p hp => ⟨(h.rows p hp).1.keep kk (fun j hj e => (h.rows p hp).2.2.2.1 (hj ▸ e)), (h.rows p hp).2⟩, h.ap, hr, h.riseO, h.full, hp, fun j hj => by rw [turned_size ht]; exact h.old j hj⟩
/-- Those who wait are others. -/
theorem TW.newwt {s : Int} {O' : List TE} (h : TW w g bo bw M R O) (hk : Keep F w w') (hF : ∀ j, F j → M j ∧ j ≠ g ∧ j ≠ bo ∧ (∀ q ∈ O, q.s ≠ s → q.b ≠ j)) (him : IM w' bw (kv TE.s TE.val O')) (hr : RiseK TE.s O') (hne : ∀ q ∈ O', q.l ≠ [])
    (hO : ∀ q ∈ O', (q ∈ O ∧ q.s ≠ s) ∨ (q.s = s ∧ Rw w' (fun j => j = q.b) (some ⟨q.b, q.o, none⟩) q.l.length q.cap 2 (flat dcells q.l) ∧
      ((M q.b ∧ q.b ≠ g ∧ q.b ≠ bo ∧ q.b ≠ bw ∧ ∀ q' ∈ O, q'.s ≠ s → q'.b ≠ q.b) ∨ (w.heap.size ≤ q.b ∧ q.b < w'.heap.size)))) :
    TW w' g bo bw (fun j => M j ∨ (w.heap.size ≤ j ∧ j < w'.heap.size)) R O' := by
  have e := fun o => hk.cell (b := g) o h.lt (fun f => (hF g f).2.1 rfl)
  have ole : ∀ q ∈ O, q.b < w.heap.size := fun q hq => h.old q.b (h.rows q hq).2.1
  refine ⟨(e _).trans h.c0, (e _).trans h.c1, Nat.lt_of_lt_of_le h.lt hk.size, ⟨.inl h.mg.1, .inl h.mg.2.1, .inl h.mg.2.2⟩, h.ne,
    h.own.keep hk (fun f => (hF bo f).2.2.1 rfl), him, fun p hp => ?_, fun p hp q hq hs => ?_, h.rise, hr, hne, h.pos, fun j hj => ?_⟩
  · rcases hO p hp with ⟨h1, h2⟩ | ⟨h1, h2, h3⟩
    · obtain ⟨r1, r2, r3⟩ := h.rows p h1
      exact ⟨r1.keep hk (fun j hj f => (hF j f).2.2.2 p h1 h2 hj.symm), .inl r2, r3⟩
    · refine ⟨h2, ?_⟩
      rcases h3 with ⟨a, b, c, d, _⟩ | ⟨a, b⟩
      · exact ⟨.inl a, b, c, d⟩
      · have := h.old g h.mg.1
        have := h.old bo h.mg.2.1
        have := h.old bw h.mg.2.2
        exact ⟨.inr ⟨a, b⟩, by omega, by omega, by omega⟩
  · rcases hO p hp with ⟨h1, h2⟩ | ⟨h1, h2, h3⟩ <;> rcases hO q hq with ⟨k1, k2⟩ | ⟨k1, k2, k3⟩
    · exact h.ap p h1 q k1 hs
    · rcases k3 with ⟨_, _, _, _, d⟩ | ⟨a, b⟩
      · exact d p h1 h2
      · have := ole p h1; omega
    · rcases h3 with ⟨_, _, _, _, d⟩ | ⟨a, b⟩
      · exact fun e => d q k1 k2 e.symm
      · have := ole q k1; omega
    · exact absurd (h1.trans k1.symm) hs
  · rcases hj with hj | hj
    · exact Nat.lt_of_lt_of_le (h.old j hj) hk.size
    · exact hj.2
/-- Who has a line (-1: nobody); who waits for one. -/
def ownR (R : List (Int × Int)) (l : Int) : Int := match getK Prod.fst l R with | some p => p.2 | none => -1
def hasT (R : List (Int × Int)) (l : Int) : Bool := (getK Prod.fst l R).isSome
def wtO (O : List TE) (l : Int) : List (Int × Int) := match getK TE.s l O with | some p => p.l | none => []
def wtAt (O : List TE) (s : Int) : Value := match getK TE.s s O with | some p => p.val | none => .slice none 0 0
theorem TW.has_eq (h : TW w g bo bw M R O) (l : Int) : hasT R l = decide (ownR R l ≠ -1) := by
  unfold hasT ownR
  cases hg : getK Prod.fst l R with
  | none => simp
  | some p => have := h.pos p (getK_some hg).1; simp; omega
theorem TW.wtRw (h : TW w g bo bw M R O) (s : Int) : ∃ (X : Nat → Prop) (a : Option Addr) (cap : Nat), wtAt O s = .slice a (wtO O s).length cap ∧ Rw w X a (wtO O s).length cap 2 (flat dcells (wtO O s)) ∧
    ∀ j, X j → M j ∧ j ≠ g ∧ j ≠ bo ∧ j ≠ bw ∧ ∀ q ∈ O, q.s ≠ s → q.b ≠ j := by
  unfold wtAt wtO
  cases hg : getK TE.s s O with
  | none => exact ⟨fun _ => False, none, 0, rfl, rw_nil _ _ _, fun j hj => hj.elim⟩
  | some p =>
    obtain ⟨hp, hps⟩ := getK_some hg
    obtain ⟨r1, r2, r3, r4, r5⟩ := h.rows p hp
    exact ⟨fun j => j = p.b, _, _, rfl, r1, fun j hj => by subst hj; exact ⟨r2, r3, r4, r5, fun q hq hs => h.ap q hq p hp (fun e => hs (e.trans hps))⟩⟩
theorem ownR_put (R : List (Int × Int)) (hr : RiseK Prod.fst R) (l v k : Int) : ownR (putK Prod.fst (l, v) R) k = if k = l then v else ownR R k := by
  unfold ownR
  by_cases e : k = l
  · subst e
    rw [if_pos rfl, show getK Prod.fst k (putK Prod.fst (k, v) R) = some (k, v) from getK_mem (rise_put hr) (a := (k, v)) (mem_putK.2 (.inl rfl))]
  · rw [if_neg e]
    cases hg : getK Prod.fst k R with
    | none =>
      rw [getK_none.2 (fun q hq e2 => ?_)]
      rcases mem_putK.1 hq with rfl | ⟨hq, _⟩
      · exact e e2.symm
      · exact getK_none.1 hg q hq e2
    | some p =>
      obtain ⟨h1, h2⟩ := getK_some hg
      have := getK_mem (rise_put (r := (l, v)) hr) (a := p) (mem_putK.2 (.inr ⟨h1, fun e3 => e (h2.symm.trans e3)⟩))
      rw [h2] at this
      rw [this]
theorem ownR_del (R : List (Int × Int)) (hr : RiseK Prod.fst R) (l k : Int) : ownR (delK Prod.fst l R) k = if k = l then -1 else ownR R k := by
  unfold ownR
  by_cases e : k = l
  · subst e
    rw [if_pos rfl, getK_none.2 (fun q hq e2 => (mem_delK.1 hq).2 e2)]
  · rw [if_neg e]
    cases hg : getK Prod.fst k R with
    | none => rw [getK_none.2 (fun q hq e2 => getK_none.1 hg q (mem_delK.1 hq).1 e2)]
    | some p =>
      obtain ⟨h1, h2⟩ := getK_some hg
      have := getK_mem (rise_del (x := l) hr) (a := p) (mem_delK.2 ⟨h1, fun e3 => e (h2.symm.trans e3)⟩)
      rw [h2] at this
      rw [this]
theorem wtO_put {O : List TE} (hr : RiseK TE.s O) (p : TE) (k : Int) : wtO (putK TE.s p O) k = if k = p.s then p.l else wtO O k := by
  unfold wtO
  by_cases e : k = p.s
  · subst e
    rw [if_pos rfl, getK_mem (rise_put hr) (a := p) (mem_putK.2 (.inl rfl))]
  · rw [if_neg e]
    cases hg : getK TE.s k O with
    | none =>
      rw [getK_none.2 (fun q hq e2 => ?_)]
      rcases mem_putK.1 hq with rfl | ⟨hq, _⟩
      · exact e e2.symm
      · exact getK_none.1 hg q hq e2
    | some q =>
      obtain ⟨h1, h2⟩ := getK_some hg
      have := getK_mem (rise_put (r := p) hr) (a := q) (mem_putK.2 (.inr ⟨h1, fun e3 => e (h2.symm.trans e3)⟩))
      rw [h2] at this
      rw [this]
theorem wtO_del {O : List TE} (hr : RiseK TE.s O) (l k : Int) : wtO (delK TE.s l O) k = if k = l then [] else wtO O k := by
  unfold wtO
  by_cases e : k = l
  · subst e
    rw [if_pos rfl, getK_none.2 (fun q hq e2 => (mem_delK.1 hq).2 e2)]
  · rw [if_neg e]
    cases hg : getK TE.s k O with
    | none => rw [getK_none.2 (fun q hq e2 => getK_none.1 hg q (mem_delK.1 hq).1 e2)]
    | some p =>
      obtain ⟨h1, h2⟩ := getK_some hg
      have := getK_mem (rise_del (x := l) hr) (a := p) (mem_delK.2 ⟨h1, fun e3 => e (h2.symm.trans e3)⟩)
      rw [h2] at this
      rw [this]
end
end Go.Proofs.Ytgeiagndpfdnlaa
end
section
namespace Go.Proofs.Ytgeiagndpfdnlaa
open Go.RowKit Go.Maps
set_option linter.unusedVariables false
set_option maxRecDepth 20000

section
variable {w : World} {g bo bw : Nat} {M : Nat → Prop} {R : List (Int × Int)} {O : List TE}
theorem TW.lookO (h : TW w g bo bw M R O) {l : Int} (hl : In64 l) {V : World} (hV : Below w.heap.size w V) :
    ∃ v, (Instr.lookup 74 (.map (some bo)) (.int .i64 l) true).run Try.prog V = .ok (.tuple #[.int .i64 v, .bool (decide (ownR R l ≠ -1))]) V ∧ (ownR R l ≠ -1 → v = ownR R l) := by
  have h1 := (h.own.below hV).look_ok Try.underlying74 (Try.zeroValue3 V) hl
  have h2 := h.has_eq l
  have e : (getK Prod.fst l (kv Prod.fst oVal R)).isSome = hasT R l := by
    rw [kv_get]
    unfold hasT
    cases getK Prod.fst l R <;> rfl
  rw [e, h2, kv_at] at h1
  cases hg : getK Prod.fst l R with
  | none =>
    rw [hg] at h1
    exact ⟨0, h1, fun hn => absurd (by unfold ownR; rw [hg]) hn⟩
  | some p =>
    rw [hg] at h1
    exact ⟨p.2, h1, fun _ => by unfold ownR; rw [hg]⟩
theorem im_lookW {V : World} (h : IM V bw (kv TE.s TE.val O)) {s : Int} (hs : In64 s) :
    (Instr.lookup 75 (.map (some bw)) (.int .i64 s) false).run Try.prog V = .ok (wtAt O s) V := by
  have := h.look Try.underlying75 (Try.zeroValue78 V) hs
  rw [kv_at] at this
  unfold wtAt
  cases hg : getK TE.s s O with
  | none => rw [hg] at this; exact this
  | some p => rw [hg] at this; exact this
theorem TU.owned_any (h : TW w g bo bw M R O) {l : Int} (hl : In64 l) : Calls Try.prog 65 #[.pointer (some ⟨g, 0, none⟩), .int .i64 l] w fun e w' => e = .returned (.bool (decide (ownR R l ≠ -1))) ∧ w = w' := by
  have c0 := h.c0
  obtain ⟨v, hk, _⟩ := h.lookO hl (Below.refl _ _)
  generalize decide (ownR R l ≠ -1) = ok at *
  go_enter Try.func65, Try.ntmps65
  go_wp2_with fail
  go_ret
  exact ⟨rfl, rfl⟩
theorem TU.owner_any (h : TW w g bo bw M R O) {l : Int} (hl : In64 l) : Calls Try.prog 11 #[.pointer (some ⟨g, 0, none⟩), .int .i64 l] w fun e w' => e = .returned (.int .i64 (ownR R l)) ∧ w = w' := by
  have c0 := h.c0
  obtain ⟨v, hk, hv⟩ := h.lookO hl (Below.refl _ _)
  by_cases hn : ownR R l = -1
  · rw [hn] at hk ⊢
    rw [show decide ((-1 : Int) ≠ -1) = false from by decide] at hk
    clear hv hn
    go_enter Try.func11, Try.ntmps11
    go_wp2_with fail
    go_ret
    exact ⟨rfl, rfl⟩
  · rw [decide_eq_true hn] at hk
    obtain rfl := hv hn
    generalize ownR R l = v at *
    clear hv hn
    go_enter Try.func11, Try.ntmps11
    go_wp2_with fail
    go_ret
    exact ⟨rfl, rfl⟩
theorem wtAt_slice (O : List TE) (s : Int) : ∃ a cap, wtAt O s = .slice a (wtO O s).length cap := by
  unfold wtAt wtO
  cases getK TE.s s O with
  | none => exact ⟨_, _, rfl⟩
  | some p => exact ⟨_, _, rfl⟩
theorem TU.waiting_any (h : TW w g bo bw M R O) {l : Int} (hl : In64 l) : Calls Try.prog 12 #[.pointer (some ⟨g, 0, none⟩), .int .i64 l] w fun e w' => e = .returned (.int .i64 (wtO O l).length) ∧ w = w' := by
  have c1 := h.c1
  have hk := im_lookW h.wts hl
  obtain ⟨a, cap, e⟩ := wtAt_slice O l
  rw [e] at hk
  generalize (wtO O l).length = n at *
  clear e
  go_enter Try.func12, Try.ntmps12
  go_wp2_with fail
  go_ret
  exact ⟨rfl, rfl⟩
theorem TU.isReady_any (h : TW w g bo bw M R O) {l : Int} (hl : In64 l) : Calls Try.prog 59 #[.pointer (some ⟨g, 0, none⟩), .int .i64 l] w fun e w' => e = .returned (.bool (decide (ownR R l = -1 ∧ wtO O l ≠ []))) ∧ w = w' := by
  obtain ⟨n, hn⟩ : ∃ n, (wtO O l).length = n := ⟨_, rfl⟩
  have hw : wtO O l ≠ [] ↔ 0 < n := by rw [← hn]; exact List.length_pos_iff.symm
  have e : decide (ownR R l = -1 ∧ wtO O l ≠ []) = (!decide (ownR R l ≠ -1) && decide (0 < n)) := by
    by_cases h1 : ownR R l = -1 <;> by_cases h2 : 0 < n <;> simp [h1, h2, hw]
  rw [e]
  have HN : Hid ((wtO O l).length = n) := hn
  clear hw e hn
  obtain ⟨ok, hok⟩ : ∃ ok, decide (ownR R l ≠ -1) = ok := ⟨_, rfl⟩
  have HO : Hid (decide (ownR R l ≠ -1) = ok) := hok
  rw [hok]
  clear hok
  cases ok with
  | true =>
    go_enter Try.func59, Try.ntmps59
    go_wp2_with (go_at_call 65; refine (TU.owned_any h hl).mono ?_; rintro e w1 ⟨rfl, rfl⟩; rw [HO.out])
    go_ret
    exact ⟨by simp, rfl⟩
  | false =>
    go_enter Try.func59, Try.ntmps59
    go_wp2_with (first
      | (go_at_call 12; refine (TU.waiting_any h hl).mono ?_; rintro e w1 ⟨rfl, rfl⟩; rw [HN.out])
      | (go_at_call 65; refine (TU.owned_any h hl).mono ?_; rintro e w1 ⟨rfl, rfl⟩; rw [HO.out]))
    all_goals go_ret
    all_goals exact ⟨by simp [*], rfl⟩
end
theorem tw_new {V : World} {base bo bw : Nat} (t : TypeId) (h1 : IM V bo []) (h2 : IM V bw []) (hne : bo ≠ bw) (hb : base ≤ bo ∧ base ≤ bw ∧ base ≤ V.heap.size) :
    TW (V.alloc (.cells #[.map (some bo), .map (some bw)] t)) V.heap.size bo bw (fun j => base ≤ j ∧ j < (V.alloc (.cells #[.map (some bo), .map (some bw)] t)).heap.size) [] [] := by
  have a1 := h1.lt
  have a2 := h2.lt
  exact ⟨by simp, by simp, by simp, ⟨⟨by omega, by simp⟩, ⟨by omega, by simp; omega⟩, ⟨by omega, by simp; omega⟩⟩, by omega, h1.below (ba (Below.refl _ _)), h2.below (ba (Below.refl _ _)), fun p hp => (by cases hp), fun p hp => (by cases hp),
    List.Pairwise.nil, List.Pairwise.nil, fun p hp => (by cases hp), fun p hp => (by cases hp), fun j hj => hj.2⟩
theorem TU.new_any (w : World) : Calls Try.prog 27 #[] w fun e w' => ∃ g bo bw, e = .returned (.pointer (some ⟨g, 0, none⟩)) ∧ Below w.heap.size w w' ∧ TW w' g bo bw (fun j => w.heap.size ≤ j ∧ j < w'.heap.size) [] [] := by
  have i1 : IM ((w.alloc (.map #[] 0)).alloc (.map #[] 0)) w.heap.size [] := (im_made w).below (ba (Below.refl _ _))
  have i2 : IM ((w.alloc (.map #[] 0)).alloc (.map #[] 0)) (w.heap.size + 1) [] := by
    have := im_made (w.alloc (.map #[] 0))
    rwa [show (w.alloc (.map #[] 0)).heap.size = w.heap.size + 1 by simp] at this
  have fin := tw_new (base := w.heap.size) 77 i1 i2 (by omega) (by simp; omega)
  clear i1 i2
  have hmm := @run_makeMap Try.prog
  go_enter Try.func27, Try.ntmps27
  go_wp2
  go_ret
  refine ⟨w.heap.size + 2, w.heap.size, w.heap.size + 1, rfl, ba (ba (ba (Below.refl _ _))), ?_⟩
  simpa using fin
end Go.Proofs.Ytgeiagndpfdnlaa
end
section
namespace Go.Proofs.Ytgeiagndpfdnlaa
open Go.RowKit Go.Maps
set_option linter.unusedVariables false
set_option maxRecDepth 20000

theorem Try.infoAsk : (Try.prog.info? 108).map (fun i => (i.zero, i.size, i.bytes)) = some (some (.agg #[.int .i64 0, .int .i64 0]), 2, 16) := by kernel_rfl
section
variable {w : World} {g bo bw : Nat} {M : Nat → Prop} {R : List (Int × Int)} {O : List TE}
theorem TU.ask_neg (line who id : Int) (hn : line < 0 ∨ who < 0) : Calls Try.prog 54 #[.pointer (some ⟨g, 0, none⟩), .int .i64 line, .int .i64 who, .int .i64 id] w fun e w' => e = .returned (.bool false) ∧ w = w' := by
  by_cases h1 : line < 0
  · clear hn
    go_enter Try.func54, Try.ntmps54
    go_wp2_with fail
    go_ret
    exact ⟨rfl, rfl⟩
  · have h2 := hn.resolve_left h1
    clear hn
    go_enter Try.func54, Try.ntmps54
    go_wp2_with fail
    go_ret
    exact ⟨rfl, rfl⟩
theorem TU.ask_own (h : TW w g bo bw M R O) {line who : Int} (id : Int) (hl : In64 line) (h1 : 0 ≤ line) (h2 : 0 ≤ who) (ho : ownR R line = -1) (hw : wtO O line = []) (hR : R.length ≤ 1000000) :
    Calls Try.prog 54 #[.pointer (some ⟨g, 0, none⟩), .int .i64 line, .int .i64 who, .int .i64 id] w fun e w' => e = .returned (.bool true) ∧ Keep M w w' ∧ w'.heap.size = w.heap.size ∧ TW w' g bo bw M (putK Prod.fst (line, who) R) O := by
  have HO : Hid (decide (ownR R line ≠ -1) = false) := by show _ = _; rw [ho]; decide
  have HW : Hid ((wtO O line).length = 0) := by show _ = _; rw [hw]; rfl
  have h1' : ¬ line < 0 := by omega
  have h2' : ¬ who < 0 := by omega
  have c0 := h.c0
  have H : Hid (TW w g bo bw M R O) := h
  have HL : Hid (In64 line) := hl
  have HP : Hid (0 ≤ who) := h2
  obtain ⟨w9, hrun9, im9, ht9⟩ := h.own.store Try.underlying74 (by rw [kv_len]; unfold maxLen; omega) hl (.int .i64 who)
  have im9' : IM w9 bo (kv Prod.fst oVal (putK Prod.fst (line, who) R)) := by
    rw [← kv_put]; exact im9
  have CN := h.newown ht9 im9' (rise_put h.rise) (fun p hp => by
    rcases mem_putK.1 hp with rfl | ⟨hp, _⟩
    · exact h2
    · exact h.pos p hp)
  have hk := (turned_keep ht9).mono (G := M) (fun j _ hj => hj ▸ h.mg.2.1)
  have hs := turned_size ht9
  clear im9 im9' ht9 ho hw h hl h1 h2 hR
  go_enter Try.func54, Try.ntmps54
  go_wp2_with (first
    | (go_at_call 12; refine (TU.waiting_any H.out HL.out).mono ?_; rintro e w1 ⟨rfl, rfl⟩; rw [HW.out])
    | (go_at_call 65; refine (TU.owned_any H.out HL.out).mono ?_; rintro e w1 ⟨rfl, rfl⟩; rw [HO.out]))
  go_ret
  exact ⟨rfl, hk, hs, CN⟩
set_option maxHeartbeats 600000 in
theorem TU.ask_wait1 (h : TW w g bo bw M R O) {line who : Int} (id : Int) (hl : In64 line) (h1 : 0 ≤ line) (h2 : 0 ≤ who) (ho : ownR R line ≠ -1) (hO : O.length ≤ 1000000) (hL : (wtO O line).length ≤ 1000000) :
    Calls Try.prog 54 #[.pointer (some ⟨g, 0, none⟩), .int .i64 line, .int .i64 who, .int .i64 id] w fun e w' => e = .returned (.bool false) ∧ Keep M w w' ∧
      ∃ p : TE, p.s = line ∧ p.l = wtO O line ++ [(who, id)] ∧ TW w' g bo bw (fun j => M j ∨ (w.heap.size ≤ j ∧ j < w'.heap.size)) R (putK TE.s p O) := by
  have HO : Hid (decide (ownR R line ≠ -1) = true) := decide_eq_true ho
  have h1' : ¬ line < 0 := by omega
  have h2' : ¬ who < 0 := by omega
  have H : Hid (TW w g bo bw M R O) := h
  have HIL : Hid (In64 line) := hl
  obtain ⟨X, a, cap, hoa, hrw, hX⟩ := h.wtRw line
  have hlo := fun V (hV : IM V bw (kv TE.s TE.val O)) => im_lookW hV hl
  rw [hoa] at hlo
  obtain ⟨l, hwl⟩ : ∃ l, wtO O line = l := ⟨_, rfl⟩
  rw [hwl] at hlo hrw hL ⊢
  obtain ⟨n, hn⟩ : ∃ n, l.length = n := ⟨_, rfl⟩
  rw [hn] at hlo hrw hL
  have HN : Hid (l.length = n) := hn
  have HWL : Hid (wtO O line = l) := hwl

  have HWN : Hid ((wtO O line).length = n) := by show _ = _; rw [hwl]; exact hn
  have lt := h.lt
  clear hn hwl h h1 h2 hoa ho 
  have HHL : Hid (In64 line) := hl
  clear hl
  go_enter Try.func54, Try.ntmps54
  go_upto_region 4 with (go_at_call 65; refine (TU.owned_any H.out HIL.out).mono ?_; rintro e w1 ⟨rfl, rfl⟩; rw [HO.out])
  skip
  refine wp_region_orders 17 rfl (by kernel_rfl) ?_
  have hBd : Below w.heap.size w w.drew := (Below.refl _ _).drew
  have HLO : Hid _ := hlo
  have hlV := hlo _ (H.out.wts.below hBd)
  have rwV := hrw.below hBd
  have HV : Hid (TW w.drew g bo bw M R O) := H.out.below hBd
  have hsz : w.drew.heap.size = w.heap.size := rfl
  have HSZ : Hid _ := hsz
  have ltV : g < w.drew.heap.size := lt
  clear hlo hrw lt hsz
  generalize w.drew = V0 at *
  have hI : (fun V : World => V.cell? ⟨g, 1, none⟩ = some (.map (some bw)) ∧ (Instr.lookup 75 (.map (some bw)) (.int .i64 line) false).run Try.prog V = .ok (.slice a n cap) V) V0 := ⟨HV.out.c1, hlV⟩
  clear hlV
  refine any_inv (fun V : World => V.cell? ⟨g, 1, none⟩ = some (.map (some bw)) ∧ (Instr.lookup 75 (.map (some bw)) (.int .i64 line) false).run Try.prog V = .ok (.slice a n cap) V) [16] hI ?_
  refine inv_take (v := ?v1) [1, 2, 3, 16] 0 hI rfl (by kernel_rfl) (by kernel_rfl) (by kernel_rfl) (by kernel_rfl) (by kernel_rfl) (fun _ _ _ h => h) (by kernel_rfl) (fun V hV => ?hy1) ?go1
  case hy1 => (obtain ⟨i1, i2⟩ := hV; go_simp <;> rfl)
  simp only [Act.put, List.setIfInBounds_toArray, List.set_cons_zero, List.set_cons_succ]
  refine inv_take (v := ?v2) [2, 3, 16] 1 hI rfl (by kernel_rfl) (by kernel_rfl) (by kernel_rfl) (by kernel_rfl) (by kernel_rfl) (fun _ _ _ h => h) (by kernel_rfl) (fun V hV => ?hy2) ?go2
  case hy2 => (obtain ⟨i1, i2⟩ := hV; go_simp <;> rfl)
  simp only [Act.put, List.setIfInBounds_toArray, List.set_cons_zero, List.set_cons_succ]
  refine inv_take (v := ?v3) [3, 16] 2 hI rfl (by kernel_rfl) (by kernel_rfl) (by kernel_rfl) (by kernel_rfl) (by kernel_rfl) (fun _ _ _ h => h) (by kernel_rfl) (fun V hV => ?hy3) ?go3
  case hy3 => (obtain ⟨i1, i2⟩ := hV; go_simp <;> rfl)
  simp only [Act.put, List.setIfInBounds_toArray, List.set_cons_zero, List.set_cons_succ]
  refine inv_take (v := ?v4) [16] 3 hI rfl (by kernel_rfl) (by kernel_rfl) (by kernel_rfl) (by kernel_rfl) (by kernel_rfl) (fun _ _ _ h => h) (by kernel_rfl) (fun V hV => ?hy4) ?go4
  case hy4 => (obtain ⟨i1, i2⟩ := hV; go_simp <;> rfl)
  simp only [Act.put, List.setIfInBounds_toArray, List.set_cons_zero, List.set_cons_succ]
  refine inv_take (v := ?v5) [16] 4 hI rfl (by kernel_rfl) (by kernel_rfl) (by kernel_rfl) (by kernel_rfl) (by kernel_rfl) (fun _ _ _ h => h) (by kernel_rfl) (fun V hV => ?hy5) ?go5
  case hy5 => (obtain ⟨i1, i2⟩ := hV; go_simp <;> rfl)
  simp only [Act.put, List.setIfInBounds_toArray, List.set_cons_zero, List.set_cons_succ]
  refine inv_take (v := ?v6) [6, 7, 8, 10, 15, 16] 5 hI rfl (by kernel_rfl) (by kernel_rfl) (by kernel_rfl) (by kernel_rfl) (by kernel_rfl) (fun _ _ _ h => h) (by kernel_rfl) (fun V hV => ?hy6) ?go6
  case hy6 => (obtain ⟨i1, i2⟩ := hV; go_simp <;> rfl)
  simp only [Act.put, List.setIfInBounds_toArray, List.set_cons_zero, List.set_cons_succ]
  refine inv_take (v := ?v7) [7, 8, 10, 15, 16] 6 hI rfl (by kernel_rfl) (by kernel_rfl) (by kernel_rfl) (by kernel_rfl) (by kernel_rfl) (fun _ _ _ h => h) (by kernel_rfl) (fun V hV => ?hy7) ?go7
  case hy7 => (obtain ⟨i1, i2⟩ := hV; go_simp <;> rfl)
  simp only [Act.put, List.setIfInBounds_toArray, List.set_cons_zero, List.set_cons_succ]
  refine inv_take (v := ?v8) [8, 10, 15, 16] 7 hI rfl (by kernel_rfl) (by kernel_rfl) (by kernel_rfl) (by kernel_rfl) (by kernel_rfl) (fun _ _ _ h => h) (by kernel_rfl) (fun V hV => ?hy8) ?go8
  case hy8 => (obtain ⟨i1, i2⟩ := hV; go_simp <;> rfl)
  simp only [Act.put, List.setIfInBounds_toArray, List.set_cons_zero, List.set_cons_succ]
  refine inv_take (v := ?v9) [10, 15, 16] 8 hI rfl (by kernel_rfl) (by kernel_rfl) (by kernel_rfl) (by kernel_rfl) (by kernel_rfl) (fun _ _ _ h => h) (by kernel_rfl) (fun V hV => ?hy9) ?go9
  case hy9 => (obtain ⟨i1, i2⟩ := hV; go_simp <;> rfl)
  simp only [Act.put, List.setIfInBounds_toArray, List.set_cons_zero, List.set_cons_succ]
  refine inv_take (v := ?v10) [10, 15, 16] 9 hI rfl (by kernel_rfl) (by kernel_rfl) (by kernel_rfl) (by kernel_rfl) (by kernel_rfl) (fun _ _ _ h => h) (by kernel_rfl) (fun V hV => ?hy10) ?go10
  case hy10 => (obtain ⟨i1, i2⟩ := hV; go_simp <;> rfl)
  simp only [Act.put, List.setIfInBounds_toArray, List.set_cons_zero, List.set_cons_succ]
  refine inv_take (v := ?v11) [15, 16] 10 hI rfl (by kernel_rfl) (by kernel_rfl) (by kernel_rfl) (by kernel_rfl) (by kernel_rfl) (fun _ _ _ h => h) (by kernel_rfl) (fun V hV => ?hy11) ?go11
  case hy11 => (obtain ⟨i1, i2⟩ := hV; go_simp <;> rfl)
  simp only [Act.put, List.setIfInBounds_toArray, List.set_cons_zero, List.set_cons_succ]
  refine inv_take (v := ?v12) [13, 14, 15, 16] 11 hI rfl (by kernel_rfl) (by kernel_rfl) (by kernel_rfl) (by kernel_rfl) (by kernel_rfl) (fun _ _ _ h => h) (by kernel_rfl) (fun V hV => ?hy12) ?go12
  case hy12 => (obtain ⟨i1, i2⟩ := hV; go_simp <;> rfl)
  simp only [Act.put, List.setIfInBounds_toArray, List.set_cons_zero, List.set_cons_succ]
  refine inv_take (v := ?v13) [13, 14, 15, 16] 12 hI rfl (by kernel_rfl) (by kernel_rfl) (by kernel_rfl) (by kernel_rfl) (by kernel_rfl) (fun _ _ _ h => h) (by kernel_rfl) (fun V hV => ?hy13) ?go13
  case hy13 => (obtain ⟨i1, i2⟩ := hV; go_simp <;> rfl)
  simp only [Act.put, List.setIfInBounds_toArray, List.set_cons_zero, List.set_cons_succ]
  refine inv_take (v := ?v14) [14, 15, 16] 13 hI rfl (by kernel_rfl) (by kernel_rfl) (by kernel_rfl) (by kernel_rfl) (by kernel_rfl) (fun _ _ _ h => h) (by kernel_rfl) (fun V hV => ?hy14) ?go14
  case hy14 => (obtain ⟨i1, i2⟩ := hV; go_simp <;> rfl)
  simp only [Act.put, List.setIfInBounds_toArray, List.set_cons_zero, List.set_cons_succ]
  obtain ⟨i0, hfi, hp0, hp1, hp2⟩ := info_parts Try.infoAsk
  refine inv_list 14 (by kernel_rfl) rfl ?_
  clear hI
  go_wp2_with fail
  have b4 : Below V0.heap.size V0 (V0.alloc (.cells #[.int .i64 who, .int .i64 id] 108)) := ba (Below.refl _ _)
  have hI : (fun V : World => V.cell? ⟨g, 1, none⟩ = some (.map (some bw)) ∧ (Instr.lookup 75 (.map (some bw)) (.int .i64 line) false).run Try.prog V = .ok (.slice a n cap) V) (V0.alloc (.cells #[.int .i64 who, .int .i64 id] 108)) := ⟨(HV.out.below b4).c1, HLO.out _ (HV.out.wts.below b4)⟩
  refine then_n ⟨hI, ?_⟩
  refine inv_list 15 (by kernel_rfl) rfl ?_
  have hsv : SlV (V0.alloc (.cells #[.int .i64 who, .int .i64 id] 108)) (some ⟨V0.heap.size, 0, none⟩) 1 1 2 (dcells (who, id)) := by
    refine ⟨rfl, Nat.le_refl _, by unfold maxLen; omega, fun h => (by cases h), .inr ⟨_, _, rfl, fun j u hu => ?_⟩⟩
    have h4 := (List.getElem?_eq_some_iff.1 hu).1
    simp [dcells] at h4
    rcases (by omega : j = 0 ∨ j = 1) with rfl | rfl <;> simp [dcells] at hu <;> subst hu <;> simp
  refine wpList_append_slv (V0.alloc (.cells #[.int .i64 who, .int .i64 id] 108)) X (by kernel_rfl) (.tmp 34) (.tmp 38) 78 rfl 108 i0 (.agg #[.int .i64 0, .int .i64 0]) 2 16 Try.underlying78 hfi hp0 hp1 hp2 rfl (by decide) a n cap (flat dcells l) rfl (rwV.below b4) (some ⟨V0.heap.size, 0, none⟩) 1 1 (dcells (who, id)) rfl hsv (fun u hu => by simp [dcells] at hu; rcases hu with rfl | rfl <;> rfl) (by unfold maxLen; omega) (by omega) ?_
  intro a8 c8 w8 hrw8 hk8
  have e8 : flat dcells l ++ dcells (who, id) = flat dcells (l ++ [(who, id)]) := by rw [flat_append, flat_one]
  rw [e8] at hrw8
  obtain ⟨b8, o8, rfl, hx8, hb8, hr8⟩ := rwN_some hrw8 (by omega)
  have K8 : Keep X V0 w8 := (Keep.of_below (F := X) b4).trans hk8 (fun j _ h => h)
  have hXbw : ¬ X bw := fun f => (hX bw f).2.2.2.1 rfl
  have im8 : IM w8 bw (kv TE.s TE.val O) := HV.out.wts.keep K8 hXbw
  have c4 : w8.cell? ⟨g, 1, none⟩ = some (.map (some bw)) := (K8.cell 1 ltV (fun f => (hX g f).2.1 rfl)).trans HV.out.c1
  have hI8 : (fun V : World => V.cell? ⟨g, 1, none⟩ = some (.map (some bw)) ∧ (Instr.lookup 75 (.map (some bw)) (.int .i64 line) false).run Try.prog V = .ok (.slice a n cap) V) w8 := ⟨c4, HLO.out _ im8⟩
  refine then_n ⟨hI8, ?_⟩
  simp only [Act.put, List.setIfInBounds_toArray, List.set_cons_zero, List.set_cons_succ]
  obtain ⟨w9, hrun9, im9, ht9⟩ := im8.store Try.underlying75 (by rw [kv_len]; unfold maxLen; omega) HHL.out (.slice (some ⟨b8, o8, none⟩) (n + 1) c8)
  clear hI hI8
  refine inv_write 16 (by kernel_rfl) (by kernel_rfl) rfl ?_
  have HS8 := K8.size
  obtain ⟨p, hp⟩ : ∃ p : TE, p = ⟨line, l ++ [(who, id)], b8, o8, c8⟩ := ⟨_, rfl⟩
  have hpv : Value.slice (some ⟨b8, o8, none⟩) (n + 1) c8 = TE.val p := by rw [hp]; unfold TE.val; simp [HN.out]
  have hps : line = TE.s p := by rw [hp]
  have hpl : p.l = l ++ [(who, id)] := by rw [hp]
  have im9' : IM w9 bw (kv TE.s TE.val (putK TE.s p O)) := by
    rw [← kv_put, ← hpv, ← hps]; exact im9
  have kt := turned_keep ht9
  have hb8o : b8 ≠ bw := fun e => by
    rcases hx8 with hx8 | hx8
    · exact (hX b8 hx8).2.2.2.1 e
    · have := HV.out.wts.lt; simp at hx8; omega
  have hr9 := hr8.keep kt (fun j hj e => hb8o (hj.symm.trans e))
  have hs9 := turned_size ht9
  have K9 : Keep (fun j => X j ∨ j = bw) V0 w9 := (K8.mono (G := fun j => X j ∨ j = bw) (fun j _ h => .inl h)).trans kt (fun j _ h => .inr h)
  have hpb : p.b = b8 := by rw [hp]
  have CN := HV.out.newwt (s := line) (O' := putK TE.s p O) (F := fun j => X j ∨ j = bw) (w' := w9) K9 (fun j hj => by
      rcases hj with hj | rfl
      · obtain ⟨a1, a2, a3, a4, a5⟩ := hX j hj
        exact ⟨a1, a2, a3, a5⟩
      · exact ⟨HV.out.mg.2.2, HV.out.ne.2.1, Ne.symm HV.out.ne.2.2, fun q hq _ => (HV.out.rows q hq).2.2.2.2⟩) im9' (rise_put HV.out.riseO) (fun q hq => by
      rcases mem_putK.1 hq with rfl | ⟨hq, _⟩
      · rw [hpl]; simp
      · exact HV.out.full q hq) (fun q hq => by
      rcases mem_putK.1 hq with rfl | ⟨h1, h2⟩
      · refine .inr ⟨hps.symm, ?_, ?_⟩
        · rw [hp]
          simp only
          have : (l ++ [(who, id)]).length = n + 1 := by simp [HN.out]
          rw [this]
          exact hr9
        · rw [hpb]
          rcases hx8 with hx8 | hx8
          · obtain ⟨a1, a2, a3, a4, a5⟩ := hX b8 hx8
            exact .inl ⟨a1, a2, a3, a4, a5⟩
          · refine .inr ⟨by simp at hx8; omega, by rw [hs9]; exact hb8⟩
      · exact .inl ⟨h1, fun e => h2 (e.trans hps)⟩)
  have KN : Keep M w w9 := Keep.pre hBd (K9.mono (fun j _ h => by
      rcases h with h | rfl
      · exact (hX j h).1
      · exact HV.out.mg.2.2))
  have HP : Hid (p.s = line ∧ p.l = l ++ [(who, id)]) := ⟨hps.symm, hpl⟩
  clear im8 im9 im9' hr8 hr9 kt hrw8 hk8 K8 K9 hp hpb hpv hps hpl hsv b4
  go_wp2_with fail
  refine then_n ?_
  refine any_done (by kernel_rfl) ?_
  clear hrun9 ht9 c4
  go_wp2_with fail
  go_ret
  refine ⟨rfl, KN, p, HP.out.1, HP.out.2, ?_⟩
  rw [← HSZ.out]
  exact CN
set_option maxHeartbeats 600000 in
theorem TU.ask_wait2 (h : TW w g bo bw M R O) {line who : Int} (id : Int) (hl : In64 line) (h1 : 0 ≤ line) (h2 : 0 ≤ who) (ho : ownR R line = -1) (hw : wtO O line ≠ []) (hO : O.length ≤ 1000000) (hL : (wtO O line).length ≤ 1000000) :
    Calls Try.prog 54 #[.pointer (some ⟨g, 0, none⟩), .int .i64 line, .int .i64 who, .int .i64 id] w fun e w' => e = .returned (.bool false) ∧ Keep M w w' ∧
      ∃ p : TE, p.s = line ∧ p.l = wtO O line ++ [(who, id)] ∧ TW w' g bo bw (fun j => M j ∨ (w.heap.size ≤ j ∧ j < w'.heap.size)) R (putK TE.s p O) := by
  have HO : Hid (decide (ownR R line ≠ -1) = false) := by show _ = _; rw [ho]; decide
  have h1' : ¬ line < 0 := by omega
  have h2' : ¬ who < 0 := by omega
  have H : Hid (TW w g bo bw M R O) := h
  have HIL : Hid (In64 line) := hl
  obtain ⟨X, a, cap, hoa, hrw, hX⟩ := h.wtRw line
  have hlo := fun V (hV : IM V bw (kv TE.s TE.val O)) => im_lookW hV hl
  rw [hoa] at hlo
  obtain ⟨l, hwl⟩ : ∃ l, wtO O line = l := ⟨_, rfl⟩
  rw [hwl] at hlo hrw hL ⊢
  obtain ⟨n, hn⟩ : ∃ n, l.length = n := ⟨_, rfl⟩
  rw [hn] at hlo hrw hL
  have HN : Hid (l.length = n) := hn
  have HWL : Hid (wtO O line = l) := hwl
  have hn0 : (n : Int) > 0 := by have := List.length_pos_iff.2 hw; rw [hwl, hn] at this; omega
  have HWN : Hid ((wtO O line).length = n) := by show _ = _; rw [hwl]; exact hn
  have lt := h.lt
  clear hn hwl h h1 h2 hoa ho hw
  have HHL : Hid (In64 line) := hl
  clear hl
  go_enter Try.func54, Try.ntmps54
  go_upto_region 4 with (first
    | (go_at_call 12; refine (TU.waiting_any H.out HIL.out).mono ?_; rintro e w1 ⟨rfl, rfl⟩; rw [HWN.out])
    | (go_at_call 65; refine (TU.owned_any H.out HIL.out).mono ?_; rintro e w1 ⟨rfl, rfl⟩; rw [HO.out]))
  clear hn0
  refine wp_region_orders 17 rfl (by kernel_rfl) ?_
  have hBd : Below w.heap.size w w.drew := (Below.refl _ _).drew
  have HLO : Hid _ := hlo
  have hlV := hlo _ (H.out.wts.below hBd)
  have rwV := hrw.below hBd
  have HV : Hid (TW w.drew g bo bw M R O) := H.out.below hBd
  have hsz : w.drew.heap.size = w.heap.size := rfl
  have HSZ : Hid _ := hsz
  have ltV : g < w.drew.heap.size := lt
  clear hlo hrw lt hsz
  generalize w.drew = V0 at *
  have hI : (fun V : World => V.cell? ⟨g, 1, none⟩ = some (.map (some bw)) ∧ (Instr.lookup 75 (.map (some bw)) (.int .i64 line) false).run Try.prog V = .ok (.slice a n cap) V) V0 := ⟨HV.out.c1, hlV⟩
  clear hlV
  refine any_inv (fun V : World => V.cell? ⟨g, 1, none⟩ = some (.map (some bw)) ∧ (Instr.lookup 75 (.map (some bw)) (.int .i64 line) false).run Try.prog V = .ok (.slice a n cap) V) [16] hI ?_
  refine inv_take (v := ?v15) [1, 2, 3, 16] 0 hI rfl (by kernel_rfl) (by kernel_rfl) (by kernel_rfl) (by kernel_rfl) (by kernel_rfl) (fun _ _ _ h => h) (by kernel_rfl) (fun V hV => ?hy15) ?go15
  case hy15 => (obtain ⟨i1, i2⟩ := hV; go_simp <;> rfl)
  simp only [Act.put, List.setIfInBounds_toArray, List.set_cons_zero, List.set_cons_succ]
  refine inv_take (v := ?v16) [2, 3, 16] 1 hI rfl (by kernel_rfl) (by kernel_rfl) (by kernel_rfl) (by kernel_rfl) (by kernel_rfl) (fun _ _ _ h => h) (by kernel_rfl) (fun V hV => ?hy16) ?go16
  case hy16 => (obtain ⟨i1, i2⟩ := hV; go_simp <;> rfl)
  simp only [Act.put, List.setIfInBounds_toArray, List.set_cons_zero, List.set_cons_succ]
  refine inv_take (v := ?v17) [3, 16] 2 hI rfl (by kernel_rfl) (by kernel_rfl) (by kernel_rfl) (by kernel_rfl) (by kernel_rfl) (fun _ _ _ h => h) (by kernel_rfl) (fun V hV => ?hy17) ?go17
  case hy17 => (obtain ⟨i1, i2⟩ := hV; go_simp <;> rfl)
  simp only [Act.put, List.setIfInBounds_toArray, List.set_cons_zero, List.set_cons_succ]
  refine inv_take (v := ?v18) [16] 3 hI rfl (by kernel_rfl) (by kernel_rfl) (by kernel_rfl) (by kernel_rfl) (by kernel_rfl) (fun _ _ _ h => h) (by kernel_rfl) (fun V hV => ?hy18) ?go18
  case hy18 => (obtain ⟨i1, i2⟩ := hV; go_simp <;> rfl)
  simp only [Act.put, List.setIfInBounds_toArray, List.set_cons_zero, List.set_cons_succ]
  refine inv_take (v := ?v19) [16] 4 hI rfl (by kernel_rfl) (by kernel_rfl) (by kernel_rfl) (by kernel_rfl) (by kernel_rfl) (fun _ _ _ h => h) (by kernel_rfl) (fun V hV => ?hy19) ?go19
  case hy19 => (obtain ⟨i1, i2⟩ := hV; go_simp <;> rfl)
  simp only [Act.put, List.setIfInBounds_toArray, List.set_cons_zero, List.set_cons_succ]
  refine inv_take (v := ?v20) [6, 7, 8, 10, 15, 16] 5 hI rfl (by kernel_rfl) (by kernel_rfl) (by kernel_rfl) (by kernel_rfl) (by kernel_rfl) (fun _ _ _ h => h) (by kernel_rfl) (fun V hV => ?hy20) ?go20
  case hy20 => (obtain ⟨i1, i2⟩ := hV; go_simp <;> rfl)
  simp only [Act.put, List.setIfInBounds_toArray, List.set_cons_zero, List.set_cons_succ]
  refine inv_take (v := ?v21) [7, 8, 10, 15, 16] 6 hI rfl (by kernel_rfl) (by kernel_rfl) (by kernel_rfl) (by kernel_rfl) (by kernel_rfl) (fun _ _ _ h => h) (by kernel_rfl) (fun V hV => ?hy21) ?go21
  case hy21 => (obtain ⟨i1, i2⟩ := hV; go_simp <;> rfl)
  simp only [Act.put, List.setIfInBounds_toArray, List.set_cons_zero, List.set_cons_succ]
  refine inv_take (v := ?v22) [8, 10, 15, 16] 7 hI rfl (by kernel_rfl) (by kernel_rfl) (by kernel_rfl) (by kernel_rfl) (by kernel_rfl) (fun _ _ _ h => h) (by kernel_rfl) (fun V hV => ?hy22) ?go22
  case hy22 => (obtain ⟨i1, i2⟩ := hV; go_simp <;> rfl)
  simp only [Act.put, List.setIfInBounds_toArray, List.set_cons_zero, List.set_cons_succ]
  refine inv_take (v := ?v23) [10, 15, 16] 8 hI rfl (by kernel_rfl) (by kernel_rfl) (by kernel_rfl) (by kernel_rfl) (by kernel_rfl) (fun _ _ _ h => h) (by kernel_rfl) (fun V hV => ?hy23) ?go23
  case hy23 => (obtain ⟨i1, i2⟩ := hV; go_simp <;> rfl)
  simp only [Act.put, List.setIfInBounds_toArray, List.set_cons_zero, List.set_cons_succ]
  refine inv_take (v := ?v24) [10, 15, 16] 9 hI rfl (by kernel_rfl) (by kernel_rfl) (by kernel_rfl) (by kernel_rfl) (by kernel_rfl) (fun _ _ _ h => h) (by kernel_rfl) (fun V hV => ?hy24) ?go24
  case hy24 => (obtain ⟨i1, i2⟩ := hV; go_simp <;> rfl)
  simp only [Act.put, List.setIfInBounds_toArray, List.set_cons_zero, List.set_cons_succ]
  refine inv_take (v := ?v25) [15, 16] 10 hI rfl (by kernel_rfl) (by kernel_rfl) (by kernel_rfl) (by kernel_rfl) (by kernel_rfl) (fun _ _ _ h => h) (by kernel_rfl) (fun V hV => ?hy25) ?go25
  case hy25 => (obtain ⟨i1, i2⟩ := hV; go_simp <;> rfl)
  simp only [Act.put, List.setIfInBounds_toArray, List.set_cons_zero, List.set_cons_succ]
  refine inv_take (v := ?v26) [13, 14, 15, 16] 11 hI rfl (by kernel_rfl) (by kernel_rfl) (by kernel_rfl) (by kernel_rfl) (by kernel_rfl) (fun _ _ _ h => h) (by kernel_rfl) (fun V hV => ?hy26) ?go26
  case hy26 => (obtain ⟨i1, i2⟩ := hV; go_simp <;> rfl)
  simp only [Act.put, List.setIfInBounds_toArray, List.set_cons_zero, List.set_cons_succ]
  refine inv_take (v := ?v27) [13, 14, 15, 16] 12 hI rfl (by kernel_rfl) (by kernel_rfl) (by kernel_rfl) (by kernel_rfl) (by kernel_rfl) (fun _ _ _ h => h) (by kernel_rfl) (fun V hV => ?hy27) ?go27
  case hy27 => (obtain ⟨i1, i2⟩ := hV; go_simp <;> rfl)
  simp only [Act.put, List.setIfInBounds_toArray, List.set_cons_zero, List.set_cons_succ]
  refine inv_take (v := ?v28) [14, 15, 16] 13 hI rfl (by kernel_rfl) (by kernel_rfl) (by kernel_rfl) (by kernel_rfl) (by kernel_rfl) (fun _ _ _ h => h) (by kernel_rfl) (fun V hV => ?hy28) ?go28
  case hy28 => (obtain ⟨i1, i2⟩ := hV; go_simp <;> rfl)
  simp only [Act.put, List.setIfInBounds_toArray, List.set_cons_zero, List.set_cons_succ]
  obtain ⟨i0, hfi, hp0, hp1, hp2⟩ := info_parts Try.infoAsk
  refine inv_list 14 (by kernel_rfl) rfl ?_
  clear hI
  go_wp2_with fail
  have b4 : Below V0.heap.size V0 (V0.alloc (.cells #[.int .i64 who, .int .i64 id] 108)) := ba (Below.refl _ _)
  have hI : (fun V : World => V.cell? ⟨g, 1, none⟩ = some (.map (some bw)) ∧ (Instr.lookup 75 (.map (some bw)) (.int .i64 line) false).run Try.prog V = .ok (.slice a n cap) V) (V0.alloc (.cells #[.int .i64 who, .int .i64 id] 108)) := ⟨(HV.out.below b4).c1, HLO.out _ (HV.out.wts.below b4)⟩
  refine then_n ⟨hI, ?_⟩
  refine inv_list 15 (by kernel_rfl) rfl ?_
  have hsv : SlV (V0.alloc (.cells #[.int .i64 who, .int .i64 id] 108)) (some ⟨V0.heap.size, 0, none⟩) 1 1 2 (dcells (who, id)) := by
    refine ⟨rfl, Nat.le_refl _, by unfold maxLen; omega, fun h => (by cases h), .inr ⟨_, _, rfl, fun j u hu => ?_⟩⟩
    have h4 := (List.getElem?_eq_some_iff.1 hu).1
    simp [dcells] at h4
    rcases (by omega : j = 0 ∨ j = 1) with rfl | rfl <;> simp [dcells] at hu <;> subst hu <;> simp
  refine wpList_append_slv (V0.alloc (.cells #[.int .i64 who, .int .i64 id] 108)) X (by kernel_rfl) (.tmp 34) (.tmp 38) 78 rfl 108 i0 (.agg #[.int .i64 0, .int .i64 0]) 2 16 Try.underlying78 hfi hp0 hp1 hp2 rfl (by decide) a n cap (flat dcells l) rfl (rwV.below b4) (some ⟨V0.heap.size, 0, none⟩) 1 1 (dcells (who, id)) rfl hsv (fun u hu => by simp [dcells] at hu; rcases hu with rfl | rfl <;> rfl) (by unfold maxLen; omega) (by omega) ?_
  intro a8 c8 w8 hrw8 hk8
  have e8 : flat dcells l ++ dcells (who, id) = flat dcells (l ++ [(who, id)]) := by rw [flat_append, flat_one]
  rw [e8] at hrw8
  obtain ⟨b8, o8, rfl, hx8, hb8, hr8⟩ := rwN_some hrw8 (by omega)
  have K8 : Keep X V0 w8 := (Keep.of_below (F := X) b4).trans hk8 (fun j _ h => h)
  have hXbw : ¬ X bw := fun f => (hX bw f).2.2.2.1 rfl
  have im8 : IM w8 bw (kv TE.s TE.val O) := HV.out.wts.keep K8 hXbw
  have c4 : w8.cell? ⟨g, 1, none⟩ = some (.map (some bw)) := (K8.cell 1 ltV (fun f => (hX g f).2.1 rfl)).trans HV.out.c1
  have hI8 : (fun V : World => V.cell? ⟨g, 1, none⟩ = some (.map (some bw)) ∧ (Instr.lookup 75 (.map (some bw)) (.int .i64 line) false).run Try.prog V = .ok (.slice a n cap) V) w8 := ⟨c4, HLO.out _ im8⟩
  refine then_n ⟨hI8, ?_⟩
  simp only [Act.put, List.setIfInBounds_toArray, List.set_cons_zero, List.set_cons_succ]
  obtain ⟨w9, hrun9, im9, ht9⟩ := im8.store Try.underlying75 (by rw [kv_len]; unfold maxLen; omega) HHL.out (.slice (some ⟨b8, o8, none⟩) (n + 1) c8)
  clear hI hI8
  refine inv_write 16 (by kernel_rfl) (by kernel_rfl) rfl ?_
  have HS8 := K8.size
  obtain ⟨p, hp⟩ : ∃ p : TE, p = ⟨line, l ++ [(who, id)], b8, o8, c8⟩ := ⟨_, rfl⟩
  have hpv : Value.slice (some ⟨b8, o8, none⟩) (n + 1) c8 = TE.val p := by rw [hp]; unfold TE.val; simp [HN.out]
  have hps : line = TE.s p := by rw [hp]
  have hpl : p.l = l ++ [(who, id)] := by rw [hp]
  have im9' : IM w9 bw (kv TE.s TE.val (putK TE.s p O)) := by
    rw [← kv_put, ← hpv, ← hps]; exact im9
  have kt := turned_keep ht9
  have hb8o : b8 ≠ bw := fun e => by
    rcases hx8 with hx8 | hx8
    · exact (hX b8 hx8).2.2.2.1 e
    · have := HV.out.wts.lt; simp at hx8; omega
  have hr9 := hr8.keep kt (fun j hj e => hb8o (hj.symm.trans e))
  have hs9 := turned_size ht9
  have K9 : Keep (fun j => X j ∨ j = bw) V0 w9 := (K8.mono (G := fun j => X j ∨ j = bw) (fun j _ h => .inl h)).trans kt (fun j _ h => .inr h)
  have hpb : p.b = b8 := by rw [hp]
  have CN := HV.out.newwt (s := line) (O' := putK TE.s p O) (F := fun j => X j ∨ j = bw) (w' := w9) K9 (fun j hj => by
      rcases hj with hj | rfl
      · obtain ⟨a1, a2, a3, a4, a5⟩ := hX j hj
        exact ⟨a1, a2, a3, a5⟩
      · exact ⟨HV.out.mg.2.2, HV.out.ne.2.1, Ne.symm HV.out.ne.2.2, fun q hq _ => (HV.out.rows q hq).2.2.2.2⟩) im9' (rise_put HV.out.riseO) (fun q hq => by
      rcases mem_putK.1 hq with rfl | ⟨hq, _⟩
      · rw [hpl]; simp
      · exact HV.out.full q hq) (fun q hq => by
      rcases mem_putK.1 hq with rfl | ⟨h1, h2⟩
      · refine .inr ⟨hps.symm, ?_, ?_⟩
        · rw [hp]
          simp only
          have : (l ++ [(who, id)]).length = n + 1 := by simp [HN.out]
          rw [this]
          exact hr9
        · rw [hpb]
          rcases hx8 with hx8 | hx8
          · obtain ⟨a1, a2, a3, a4, a5⟩ := hX b8 hx8
            exact .inl ⟨a1, a2, a3, a4, a5⟩
          · refine .inr ⟨by simp at hx8; omega, by rw [hs9]; exact hb8⟩
      · exact .inl ⟨h1, fun e => h2 (e.trans hps)⟩)
  have KN : Keep M w w9 := Keep.pre hBd (K9.mono (fun j _ h => by
      rcases h with h | rfl
      · exact (hX j h).1
      · exact HV.out.mg.2.2))
  have HP : Hid (p.s = line ∧ p.l = l ++ [(who, id)]) := ⟨hps.symm, hpl⟩
  clear im8 im9 im9' hr8 hr9 kt hrw8 hk8 K8 K9 hp hpb hpv hps hpl hsv b4
  go_wp2_with fail
  refine then_n ?_
  refine any_done (by kernel_rfl) ?_
  clear hrun9 ht9 c4
  go_wp2_with fail
  go_ret
  refine ⟨rfl, KN, p, HP.out.1, HP.out.2, ?_⟩
  rw [← HSZ.out]
  exact CN
theorem TU.release_no (h : TW w g bo bw M R O) {line who : Int} (hl : In64 line) (ho : ownR R line = -1 ∨ ownR R line ≠ who) :
    Calls Try.prog 57 #[.pointer (some ⟨g, 0, none⟩), .int .i64 line, .int .i64 who] w fun e w' => e = .returned (.int .i64 6) ∧ w = w' := by
  have HIL : Hid (In64 line) := hl
  have H : Hid (TW w g bo bw M R O) := h
  by_cases h1 : ownR R line = -1
  · have HO : Hid (decide (ownR R line ≠ -1) = false) := by show _ = _; rw [h1]; decide
    clear h hl ho h1
    go_enter Try.func57, Try.ntmps57
    go_wp2_with (go_at_call 65; refine (TU.owned_any H.out HIL.out).mono ?_; rintro e w1 ⟨rfl, rfl⟩; rw [HO.out])
    go_ret
    exact ⟨rfl, rfl⟩
  · have HO : Hid (decide (ownR R line ≠ -1) = true) := decide_eq_true h1
    have h2 := ho.resolve_left h1
    obtain ⟨v, hv⟩ : ∃ v, ownR R line = v := ⟨_, rfl⟩
    have HV : Hid (ownR R line = v) := hv
    have hb : (v != who) = true := by rw [← hv]; simp [h2]
    clear h hl ho h1 h2 hv
    go_enter Try.func57, Try.ntmps57
    go_wp2_with (first
      | (go_at_call 11; refine (TU.owner_any H.out HIL.out).mono ?_; rintro e w1 ⟨rfl, rfl⟩; rw [HV.out])
      | (go_at_call 65; refine (TU.owned_any H.out HIL.out).mono ?_; rintro e w1 ⟨rfl, rfl⟩; rw [HO.out]))
    go_ret
    exact ⟨rfl, rfl⟩
theorem TU.release_ok (h : TW w g bo bw M R O) {line who : Int} (hl : In64 line) (h1 : ownR R line ≠ -1) (h2 : ownR R line = who) :
    Calls Try.prog 57 #[.pointer (some ⟨g, 0, none⟩), .int .i64 line, .int .i64 who] w fun e w' => e = .returned (.int .i64 0) ∧ Keep M w w' ∧ w'.heap.size = w.heap.size ∧ TW w' g bo bw M (delK Prod.fst line R) O := by
  have HIL : Hid (In64 line) := hl
  have H : Hid (TW w g bo bw M R O) := h
  have HO : Hid (decide (ownR R line ≠ -1) = true) := decide_eq_true h1
  have HV : Hid (ownR R line = who) := h2
  have c0 := h.c0
  have hrun := fun ty => (h.own.drop Try.underlying74 hl ty)
  obtain ⟨w9, hrun9, im9, ht9⟩ := hrun 0
  rw [kv_del] at im9
  have CN := h.newown ht9 im9 (rise_del h.rise) (fun p hp => h.pos p (mem_delK.1 hp).1)
  have hk := (turned_keep ht9).mono (G := M) (fun j _ hj => hj ▸ h.mg.2.1)
  have hs := turned_size ht9
  clear im9 ht9 h hl h1 h2 hrun
  go_enter Try.func57, Try.ntmps57
  go_wp2_with (first
    | (go_at_call 11; refine (TU.owner_any H.out HIL.out).mono ?_; rintro e w1 ⟨rfl, rfl⟩; rw [HV.out])
    | (go_at_call 65; refine (TU.owned_any H.out HIL.out).mono ?_; rintro e w1 ⟨rfl, rfl⟩; rw [HO.out]))
  go_ret
  exact ⟨rfl, hk, hs, CN⟩
end
end Go.Proofs.Ytgeiagndpfdnlaa
end
section
namespace Go.Proofs.Ytgeiagndpfdnlaa
open Go.RowKit Go.Maps
set_option linter.unusedVariables false
set_option maxRecDepth 20000

/-- What those who wait are when the first one of a line has gone. -/
def wtNext (p : TE) (O : List TE) : List TE := if p.l.length = 1 then delK TE.s p.s O else putK TE.s ⟨p.s, p.l.tail, p.b, p.o + 2, p.cap - 1⟩ O
theorem wtO_next {O : List TE} (hr : RiseK TE.s O) {p : TE} {l : Int} (hp : getK TE.s l O = some p) (k : Int) : wtO (wtNext p O) k = if k = l then (wtO O k).tail else wtO O k := by
  obtain ⟨hpO, hps⟩ := getK_some hp
  unfold wtNext
  split
  next h1 =>
    rw [hps, wtO_del hr]
    by_cases e : k = l
    · rw [if_pos e, if_pos e, e]
      unfold wtO
      rw [hp]
      have : p.l.tail.length = 0 := by rw [List.length_tail, h1]
      exact (List.eq_nil_of_length_eq_zero this).symm
    · rw [if_neg e, if_neg e]
  next h1 =>
    rw [wtO_put hr]
    simp only [hps]
    by_cases e : k = l
    · rw [if_pos e, if_pos e, e]
      unfold wtO
      rw [hp]
    · rw [if_neg e, if_neg e]
theorem sub_new {V V9 : World} {M : Nat → Prop} (hs : V9.heap.size = V.heap.size) : (fun j => M j ∨ (V.heap.size ≤ j ∧ j < V9.heap.size)) = M := by
  funext j
  apply propext
  constructor
  · rintro (hj | hj)
    · exact hj
    · omega
  · exact .inl
theorem two_cells (W : World) (b : Nat) (u v : Value) (h0 : (W.cell? ⟨b, 0, none⟩).isSome = true) (h1 : (W.cell? ⟨b, 1, none⟩).isSome = true) : ((W.setCell ⟨b, 0, none⟩ u).setCell ⟨b, 1, none⟩ v).cell? ⟨b, 0, none⟩ = some u ∧ ((W.setCell ⟨b, 0, none⟩ u).setCell ⟨b, 1, none⟩ v).cell? ⟨b, 1, none⟩ = some v := by
  refine ⟨?_, World.cell?_setCell_same' _ _ _ ?_⟩
  · rw [World.cell?_setCell_other _ _ _ _ (by simp)]
    exact World.cell?_setCell_same' _ _ _ h0
  · rw [World.cell?_setCell_other _ _ _ _ (by simp)]
    exact h1
section
variable {w : World} {g bo bw : Nat} {M : Nat → Prop} {R : List (Int × Int)} {O : List TE}
set_option maxHeartbeats 400000 in
theorem TU.take_any (h : TW w g bo bw M R O) {line : Int} (hl : In64 line) {p : TE} (hp : getK TE.s line O = some p) {x : Int × Int} {r : List (Int × Int)} (hx : p.l = x :: r) (hO : O.length ≤ 1000000) :
    Calls Try.prog 61 #[.pointer (some ⟨g, 0, none⟩), .int .i64 line] w fun e w' => e = .returned (.agg #[.int .i64 x.1, .int .i64 x.2]) ∧ Keep M w w' ∧ TW w' g bo bw M R (wtNext p O) := by
  obtain ⟨hpO, hps⟩ := getK_some hp
  have hlo : ∀ V, IM V bw (kv TE.s TE.val O) → (Instr.lookup 75 (.map (some bw)) (.int .i64 line) false).run Try.prog V = .ok p.val V := fun V hV => by
    have := im_lookW hV hl
    rw [this]
    unfold wtAt
    rw [hp]
  obtain ⟨hrw, hMb, hbg, hbbo, hbbw⟩ := h.rows p hpO
  have hap : ∀ q ∈ O, q.s ≠ p.s → q.b ≠ p.b := fun q hq hs => h.ap q hq p hpO hs
  obtain ⟨s, l, b, o, cap⟩ := p
  simp only at hrw hMb hbg hbbo hbbw hx hps hap
  subst hx hps
  unfold TE.val at hlo
  simp only at hlo
  have HPO : Hid ((⟨s, x :: r, b, o, cap⟩ : TE) ∈ O) := hpO
  obtain ⟨n, hn⟩ : ∃ n, (x :: r).length = n := ⟨_, rfl⟩
  rw [hn] at hrw hlo
  have HN : Hid ((x :: r).length = n) := hn
  have hle := hrw.le
  have hmx := hrw.max
  have hn1 : 1 ≤ n := by rw [← hn]; simp
  unfold maxLen at hmx
  obtain ⟨hcell, hbl⟩ : (∀ j u, (flat dcells (x :: r))[j]? = some u → w.cell? ⟨b, o + j, none⟩ = some u) ∧ b < w.heap.size := by
    rcases hrw.row with h0 | ⟨b', o', e, _, hb', hc, _⟩
    · omega
    · simp at e
      obtain ⟨rfl, rfl⟩ := e
      exact ⟨hc, hb'⟩
  obtain ⟨xw, xd⟩ := x
  have x0 : w.cell? ⟨b, o, none⟩ = some (.int .i64 xw) := hcell 0 _ rfl
  have x1 : w.cell? ⟨b, o + 1, none⟩ = some (.int .i64 xd) := hcell 1 _ rfl
  have lt := h.lt
  have c1 := h.c1
  have H : Hid (TW w g bo bw M R O) := h
  have B1 : Below w.heap.size w (w.alloc (.cells #[.int .i64 0, .int .i64 0] 108)) := ba (Below.refl _ _)
  have HA : Hid (TW (w.alloc (.cells #[.int .i64 0, .int .i64 0] 108)) g bo bw M R O) := h.below B1
  have HB : Hid (Below w.heap.size w (w.alloc (.cells #[.int .i64 0, .int .i64 0] 108))) := B1
  have hlA := hlo _ HA.out.wts
  have HLO : Hid _ := hlo
  have HR : Hid _ := hrw
  have HAP : Hid _ := hap
  have HIL : Hid (In64 s) := hl
  clear hlo hrw hcell hn hp hpO h hap B1 hl
  by_cases h1 : n = 1
  · subst h1
    have hO' : wtNext ⟨s, (xw, xd) :: r, b, o, cap⟩ O = delK TE.s s O := by unfold wtNext; rw [if_pos HN.out]
    rw [hO']
    have hrun := fun ty => (HA.out.wts.drop Try.underlying75 HIL.out ty)
    obtain ⟨w9, hrun9, im9, ht9⟩ := hrun 0
    rw [kv_del] at im9
    have CN := HA.out.newwt (s := s) (O' := delK TE.s s O) (F := fun j => j = bw) (turned_keep ht9) (fun j hj => by
      subst hj
      exact ⟨HA.out.mg.2.2, HA.out.ne.2.1, Ne.symm HA.out.ne.2.2, fun q hq _ => (HA.out.rows q hq).2.2.2.2⟩) im9 (rise_del HA.out.riseO) (fun q hq => HA.out.full q (mem_delK.1 hq).1) (fun q hq => .inl (mem_delK.1 hq))
    rw [sub_new (turned_size ht9)] at CN
    have hs9 := turned_size ht9
    have KN : Keep M w w9 := Keep.pre HB.out ((turned_keep ht9).mono (fun j _ hj => hj ▸ HA.out.mg.2.2))
    have k9 := turned_keep ht9
    have y0 : w9.cell? ⟨b, o, none⟩ = some (.int .i64 xw) := (k9.cell o (by simp; omega) hbbw).trans ((HB.out.cell (p := ⟨b, o, none⟩) hbl).trans x0)
    have y1 : w9.cell? ⟨b, o + 1, none⟩ = some (.int .i64 xd) := (k9.cell (o + 1) (by simp; omega) hbbw).trans ((HB.out.cell (p := ⟨b, o + 1, none⟩) hbl).trans x1)
    have lbw := H.out.wts.lt
    have z0 : w9.cell? ⟨w.heap.size, 0, none⟩ = some (.int .i64 0) := (k9.cell 0 (by simp) (by omega)).trans (by simp)
    have z1 : w9.cell? ⟨w.heap.size, 1, none⟩ = some (.int .i64 0) := (k9.cell 1 (by simp) (by omega)).trans (by simp)
    have f0 : w9.frozen? ⟨w.heap.size, 0, none⟩ = false := (k9.frozen 0 (by simp) (by omega)).trans (by simp)
    have f1 : w9.frozen? ⟨w.heap.size, 1, none⟩ = false := (k9.frozen 1 (by simp) (by omega)).trans (by simp)
    clear hrun im9 ht9 k9
    go_enter Try.func61, Try.ntmps61
    go_wp2_with fail
    obtain ⟨t0, t1⟩ := two_cells w9 w.heap.size (.int .i64 xw) (.int .i64 xd) (by rw [z0]; rfl) (by rw [z1]; rfl)
    refine bodyPost_ret (v := .agg #[.int .i64 xw, .int .i64 xd]) (by simp [results, Try.results61, go_sem, *]) rfl ⟨rfl, (KN.setCell (p := ⟨w.heap.size, 0, none⟩) (.inr (Nat.le_refl _)) _).setCell (p := ⟨w.heap.size, 1, none⟩) (.inr (Nat.le_refl _)) _, ?_⟩
    have hold := H.out.old
    exact (CN.keep (Keep.one _ _ _ _) (fun j hj e => by have := hold j hj; omega)).keep (Keep.one _ _ _ _) (fun j hj e => by have := hold j hj; omega)
  · have hO' : wtNext ⟨s, (xw, xd) :: r, b, o, cap⟩ O = putK TE.s ⟨s, r, b, o + 2, cap - 1⟩ O := by unfold wtNext; rw [if_neg (by rw [HN.out]; exact h1)]; rfl
    rw [hO']
    have hd1 : ((n : Int) == 1) = false := by simp; omega
    have hn2 : 2 ≤ n := by omega
    have hn3 : (1 : Int) ≤ (n : Int) := by omega
    clear h1
    have hcap : ¬ cap = 1 := by omega
    have y0 : (w.alloc (.cells #[.int .i64 0, .int .i64 0] 108)).cell? ⟨b, o, none⟩ = some (.int .i64 xw) := (HB.out.cell (p := ⟨b, o, none⟩) hbl).trans x0
    have y1 : (w.alloc (.cells #[.int .i64 0, .int .i64 0] 108)).cell? ⟨b, o + 1, none⟩ = some (.int .i64 xd) := (HB.out.cell (p := ⟨b, o + 1, none⟩) hbl).trans x1
    go_enter Try.func61, Try.ntmps61
    go_wp2_with fail
    refine wp_region_orders 8 rfl (by kernel_rfl) ?_
    have hBd : Below (w.alloc (.cells #[.int .i64 0, .int .i64 0] 108)).heap.size (w.alloc (.cells #[.int .i64 0, .int .i64 0] 108)) (w.alloc (.cells #[.int .i64 0, .int .i64 0] 108)).drew := (Below.refl _ _).drew
    have HV : Hid (TW (w.alloc (.cells #[.int .i64 0, .int .i64 0] 108)).drew g bo bw M R O) := HA.out.below hBd
    have HBV : Hid (Below w.heap.size w (w.alloc (.cells #[.int .i64 0, .int .i64 0] 108)).drew) := next HB.out hBd
    have e0 : (w.alloc (.cells #[.int .i64 0, .int .i64 0] 108)).drew.cell? ⟨b, o, none⟩ = some (.int .i64 xw) := y0
    have e1 : (w.alloc (.cells #[.int .i64 0, .int .i64 0] 108)).drew.cell? ⟨b, o + 1, none⟩ = some (.int .i64 xd) := y1
    have z0 : (w.alloc (.cells #[.int .i64 0, .int .i64 0] 108)).drew.cell? ⟨w.heap.size, 0, none⟩ = some (.int .i64 0) := by show (w.alloc (.cells #[.int .i64 0, .int .i64 0] 108)).cell? _ = _; simp
    have z1 : (w.alloc (.cells #[.int .i64 0, .int .i64 0] 108)).drew.cell? ⟨w.heap.size, 1, none⟩ = some (.int .i64 0) := by show (w.alloc (.cells #[.int .i64 0, .int .i64 0] 108)).cell? _ = _; simp
    have f0 : (w.alloc (.cells #[.int .i64 0, .int .i64 0] 108)).drew.frozen? ⟨w.heap.size, 0, none⟩ = false := by show (w.alloc (.cells #[.int .i64 0, .int .i64 0] 108)).frozen? _ = _; simp
    have f1 : (w.alloc (.cells #[.int .i64 0, .int .i64 0] 108)).drew.frozen? ⟨w.heap.size, 1, none⟩ = false := by show (w.alloc (.cells #[.int .i64 0, .int .i64 0] 108)).frozen? _ = _; simp
    have hszV : (w.alloc (.cells #[.int .i64 0, .int .i64 0] 108)).drew.heap.size = w.heap.size + 1 := by show (w.alloc (.cells #[.int .i64 0, .int .i64 0] 108)).heap.size = _; simp
    have HSZ : Hid _ := hszV
    have RV := HR.out.below HBV.out
    clear x0 x1 c1 y0 y1 hlA hBd hszV
    generalize (w.alloc (.cells #[.int .i64 0, .int .i64 0] 108)).drew = V0 at *
    have hI : (fun V : World => V.cell? ⟨g, 1, none⟩ = some (.map (some bw))) V0 := HV.out.c1
    refine any_inv (fun V : World => V.cell? ⟨g, 1, none⟩ = some (.map (some bw))) [7] hI ?_
    refine inv_take (v := ?v29) [1, 2, 3, 7] 0 hI rfl (by kernel_rfl) (by kernel_rfl) (by kernel_rfl) (by kernel_rfl) (by kernel_rfl) (fun _ _ _ h => h) (by kernel_rfl) (fun V hV => ?hy29) ?go29
    case hy29 => (have i1 := hV; go_simp <;> rfl)
    simp only [Act.put, List.setIfInBounds_toArray, List.set_cons_zero, List.set_cons_succ]
    refine inv_take (v := ?v30) [2, 3, 7] 1 hI rfl (by kernel_rfl) (by kernel_rfl) (by kernel_rfl) (by kernel_rfl) (by kernel_rfl) (fun _ _ _ h => h) (by kernel_rfl) (fun V hV => ?hy30) ?go30
    case hy30 => (have i1 := hV; go_simp <;> rfl)
    simp only [Act.put, List.setIfInBounds_toArray, List.set_cons_zero, List.set_cons_succ]
    refine inv_take (v := ?v31) [3, 7] 2 hI rfl (by kernel_rfl) (by kernel_rfl) (by kernel_rfl) (by kernel_rfl) (by kernel_rfl) (fun _ _ _ h => h) (by kernel_rfl) (fun V hV => ?hy31) ?go31
    case hy31 => (have i1 := hV; go_simp <;> rfl)
    simp only [Act.put, List.setIfInBounds_toArray, List.set_cons_zero, List.set_cons_succ]
    refine inv_take (v := ?v32) [7] 3 hI rfl (by kernel_rfl) (by kernel_rfl) (by kernel_rfl) (by kernel_rfl) (by kernel_rfl) (fun _ _ _ h => h) (by kernel_rfl) (fun V hV => ?hy32) ?go32
    case hy32 => (have i1 := hV; go_simp <;> rfl)
    simp only [Act.put, List.setIfInBounds_toArray, List.set_cons_zero, List.set_cons_succ]
    refine inv_take (v := ?v33) [7] 4 hI rfl (by kernel_rfl) (by kernel_rfl) (by kernel_rfl) (by kernel_rfl) (by kernel_rfl) (fun _ _ _ h => h) (by kernel_rfl) (fun V hV => ?hy33) ?go33
    case hy33 => (have i1 := hV; go_simp <;> rfl)
    simp only [Act.put, List.setIfInBounds_toArray, List.set_cons_zero, List.set_cons_succ]
    refine inv_take (v := ?v34) [6, 7] 5 hI rfl (by kernel_rfl) (by kernel_rfl) (by kernel_rfl) (by kernel_rfl) (by kernel_rfl) (fun _ _ _ h => h) (by kernel_rfl) (fun V hV => ?hy34) ?go34
    case hy34 => (have i1 := hV; go_simp <;> rfl)
    simp only [Act.put, List.setIfInBounds_toArray, List.set_cons_zero, List.set_cons_succ]
    refine inv_take (v := ?v35) [7] 6 hI rfl (by kernel_rfl) (by kernel_rfl) (by kernel_rfl) (by kernel_rfl) (by kernel_rfl) (fun _ _ _ h => h) (by kernel_rfl) (fun V hV => ?hy35) ?go35
    case hy35 => (have i1 := hV; go_simp <;> rfl)
    simp only [Act.put, List.setIfInBounds_toArray, List.set_cons_zero, List.set_cons_succ]
    obtain ⟨w9, hrun9, im9, ht9⟩ := HV.out.wts.store Try.underlying75 (by rw [kv_len]; unfold maxLen; omega) HIL.out (.slice (some ⟨b, o + 2, none⟩) (n - 1) (cap - 1))
    clear hI
    have hrl : r.length = n - 1 := by have := HN.out; simp at this; omega
    have im9' : IM w9 bw (kv TE.s TE.val (putK TE.s ⟨s, r, b, o + 2, cap - 1⟩ O)) := by
      rw [← kv_put]
      simp only
      unfold TE.val
      simp only [hrl]
      exact im9
    have k9 := turned_keep ht9
    have hs9 := turned_size ht9
    have R9 : Rw w9 (fun j => j = b) (some ⟨b, o + 2, none⟩) (n - 1) (cap - 1) 2 (flat dcells r) := by
      have hlen := RV.len
      have ec : flat dcells ((xw, xd) :: r) = .int .i64 xw :: .int .i64 xd :: flat dcells r := rfl
      rw [ec] at hlen
      simp at hlen
      refine (show Rw V0 (fun j => j = b) (some ⟨b, o + 2, none⟩) (n - 1) (cap - 1) 2 (flat dcells r) from ⟨by omega, by omega, by unfold maxLen; omega, fun h => (by cases h), ?_⟩).keep k9 (fun j hj e => hbbw (hj.symm.trans e))
      rcases RV.row with h0 | ⟨b', o', e, _, hb', hc, hf⟩
      · omega
      · simp at e
        obtain ⟨rfl, rfl⟩ := e
        refine .inr ⟨_, _, rfl, rfl, hb', fun j u hu => ?_, fun j hj => ?_⟩
        · rw [Nat.add_assoc]
          refine hc (2 + j) u ?_
          rw [ec, show 2 + j = j + 1 + 1 by omega]
          exact hu
        · rw [Nat.add_assoc]
          exact hf (2 + j) (by omega)
    have CN := HV.out.newwt (s := s) (O' := putK TE.s ⟨s, r, b, o + 2, cap - 1⟩ O) (F := fun j => j = bw) k9 (fun j hj => by
      subst hj
      exact ⟨HV.out.mg.2.2, HV.out.ne.2.1, Ne.symm HV.out.ne.2.2, fun q hq _ => (HV.out.rows q hq).2.2.2.2⟩) im9' (rise_put HV.out.riseO) (fun q hq => by
        rcases mem_putK.1 hq with rfl | ⟨hq, _⟩
        · intro e0
          simp only at e0
          rw [e0] at hrl
          simp at hrl
          omega
        · exact HV.out.full q hq) (fun q hq => by
        rcases mem_putK.1 hq with rfl | ⟨hq, hs⟩
        · refine .inr ⟨rfl, ?_, .inl ⟨hMb, hbg, hbbo, hbbw, HAP.out⟩⟩
          simp only
          rw [hrl]
          exact R9
        · exact .inl ⟨hq, hs⟩)
    rw [sub_new hs9] at CN
    have KN : Keep M w w9 := Keep.pre HBV.out (k9.mono (fun j _ hj => hj ▸ HV.out.mg.2.2))
    have hbV : b < V0.heap.size := by have := HBV.out.size; omega
    have lbw := H.out.wts.lt
    have q0 := (k9.cell o hbV hbbw).trans e0
    have q1 := (k9.cell (o + 1) hbV hbbw).trans e1
    have hwV : w.heap.size < V0.heap.size := by rw [HSZ.out]; omega
    have p0 := (k9.cell 0 hwV (by omega)).trans z0
    have p1 := (k9.cell 1 hwV (by omega)).trans z1
    have g0 := (k9.frozen 0 hwV (by omega)).trans f0
    have g1 := (k9.frozen 1 hwV (by omega)).trans f1
    refine inv_write 7 (by kernel_rfl) (by kernel_rfl) rfl ?_
    clear k9 im9 im9' R9 RV hrl e0 e1 z0 z1 f0 f1
    go_wp2_with fail
    refine then_n ?_
    refine any_done (by kernel_rfl) ?_
    clear hrun9 ht9
    go_wp2_with fail
    obtain ⟨t0, t1⟩ := two_cells w9 w.heap.size (.int .i64 xw) (.int .i64 xd) (by rw [p0]; rfl) (by rw [p1]; rfl)
    refine bodyPost_ret (v := .agg #[.int .i64 xw, .int .i64 xd]) (by simp [results, Try.results61, go_sem, *]) rfl ⟨rfl, (KN.setCell (p := ⟨w.heap.size, 0, none⟩) (.inr (Nat.le_refl _)) _).setCell (p := ⟨w.heap.size, 1, none⟩) (.inr (Nat.le_refl _)) _, ?_⟩
    have hold := H.out.old
    exact (CN.keep (Keep.one _ _ _ _) (fun j hj e => by have := hold j hj; omega)).keep (Keep.one _ _ _ _) (fun j hj e => by have := hold j hj; omega)
theorem TU.next_no (h : TW w g bo bw M R O) {line : Int} (hl : In64 line) (hn : ¬ (ownR R line = -1 ∧ wtO O line ≠ [])) :
    Calls Try.prog 34 #[.pointer (some ⟨g, 0, none⟩), .int .i64 line] w fun e w' => e = .returned (.tuple #[.int .i64 0, .int .i64 0, .bool false]) ∧ w = w' := by
  have HO : Hid (decide (ownR R line = -1 ∧ wtO O line ≠ []) = false) := decide_eq_false hn
  clear hn
  go_enter Try.func34, Try.ntmps34
  go_wp2_with (go_at_call 59; refine (TU.isReady_any h hl).mono ?_; rintro e w1 ⟨rfl, rfl⟩; rw [HO.out])
  exact bodyPost_ret (v := .tuple #[.int .i64 0, .int .i64 0, .bool false]) (by simp [results, Try.results34, go_sem]) rfl ⟨rfl, rfl⟩
set_option maxHeartbeats 400000 in
theorem TU.next_ok (h : TW w g bo bw M R O) {line : Int} (hl : In64 line) (h1 : ownR R line = -1) {p : TE} (hp : getK TE.s line O = some p) {x : Int × Int} {r : List (Int × Int)} (hx : p.l = x :: r) (h0 : 0 ≤ x.1) (hO : O.length ≤ 1000000) (hR : R.length ≤ 1000000) :
    Calls Try.prog 34 #[.pointer (some ⟨g, 0, none⟩), .int .i64 line] w fun e w' => e = .returned (.tuple #[.int .i64 x.1, .int .i64 x.2, .bool true]) ∧ Keep M w w' ∧ TW w' g bo bw M (putK Prod.fst (line, x.1) R) (wtNext p O) := by
  have HO : Hid (decide (ownR R line = -1 ∧ wtO O line ≠ []) = true) := decide_eq_true ⟨h1, by unfold wtO; rw [hp]; simp [hx]⟩
  obtain ⟨xw, xd⟩ := x
  have HK := TU.take_any h hl hp hx hO
  have H : Hid (TW w g bo bw M R O) := h
  have HIL : Hid (In64 line) := hl
  have H0 : Hid (0 ≤ xw) := h0
  obtain ⟨O', hO'⟩ : ∃ O', wtNext p O = O' := ⟨_, rfl⟩
  rw [hO'] at HK ⊢
  simp only at HK
  clear hp hx h1 hO' h0 hl h hO
  go_enter Try.func34, Try.ntmps34
  go_upto_region 4 with (first
    | (go_at_call 61; refine HK.mono ?_; rintro e w2 ⟨rfl, k2, T2⟩)
    | (go_at_call 59; refine (TU.isReady_any H.out HIL.out).mono ?_; rintro e w1 ⟨rfl, rfl⟩; rw [HO.out]))
  have B3 : Below w2.heap.size w2 (w2.alloc (.cells #[.int .i64 xw, .int .i64 xd] 108)) := ba (Below.refl _ _)
  have T3 := T2.below B3
  have K3 : Keep M w (w2.alloc (.cells #[.int .i64 xw, .int .i64 xd] 108)) := k2.next B3
  have d0 : (w2.alloc (.cells #[.int .i64 xw, .int .i64 xd] 108)).cell? ⟨w2.heap.size, 0, none⟩ = some (.int .i64 xw) := by simp
  have d1 : (w2.alloc (.cells #[.int .i64 xw, .int .i64 xd] 108)).cell? ⟨w2.heap.size, 1, none⟩ = some (.int .i64 xd) := by simp
  have hgs : w2.heap.size < (w2.alloc (.cells #[.int .i64 xw, .int .i64 xd] 108)).heap.size := by simp
  have HGS : Hid _ := hgs
  have hnb : ∀ j, M j → j ≠ w2.heap.size := fun j hj e => by have := T2.old j hj; omega
  have HNB : Hid _ := hnb
  clear hgs hnb B3 T2 k2
  generalize w2.heap.size = gs at *
  generalize w2.alloc _ = V2 at *
  clear w2
  refine wp_region_orders 8 rfl (by kernel_rfl) ?_
  have hBd : Below V2.heap.size V2 V2.drew := (Below.refl _ _).drew
  have HV : Hid (TW V2.drew g bo bw M R O') := T3.below hBd
  have HKV : Hid (Keep M w V2.drew) := K3.next hBd
  have e0 : V2.drew.cell? ⟨gs, 0, none⟩ = some (.int .i64 xw) := d0
  have e1 : V2.drew.cell? ⟨gs, 1, none⟩ = some (.int .i64 xd) := d1
  have HGS2 : Hid (gs < V2.drew.heap.size) := HGS.out
  clear d0 d1 T3 K3 hBd HGS
  generalize V2.drew = V0 at *
  clear V2
  have hI : (fun V : World => V.cell? ⟨g, 0, none⟩ = some (.map (some bo)) ∧ V.cell? ⟨gs, 0, none⟩ = some (.int .i64 xw)) V0 := ⟨HV.out.c0, e0⟩
  refine any_inv (fun V : World => V.cell? ⟨g, 0, none⟩ = some (.map (some bo)) ∧ V.cell? ⟨gs, 0, none⟩ = some (.int .i64 xw)) [7] hI ?_
  refine inv_take (v := ?v36) [1, 2, 3, 7] 0 hI rfl (by kernel_rfl) (by kernel_rfl) (by kernel_rfl) (by kernel_rfl) (by kernel_rfl) (fun _ _ _ h => h) (by kernel_rfl) (fun V hV => ?hy36) ?go36
  case hy36 => (obtain ⟨i1, i2⟩ := hV; go_simp <;> rfl)
  simp only [Act.put, List.setIfInBounds_toArray, List.set_cons_zero, List.set_cons_succ]
  refine inv_take (v := ?v37) [2, 3, 7] 1 hI rfl (by kernel_rfl) (by kernel_rfl) (by kernel_rfl) (by kernel_rfl) (by kernel_rfl) (fun _ _ _ h => h) (by kernel_rfl) (fun V hV => ?hy37) ?go37
  case hy37 => (obtain ⟨i1, i2⟩ := hV; go_simp <;> rfl)
  simp only [Act.put, List.setIfInBounds_toArray, List.set_cons_zero, List.set_cons_succ]
  refine inv_take (v := ?v38) [3, 7] 2 hI rfl (by kernel_rfl) (by kernel_rfl) (by kernel_rfl) (by kernel_rfl) (by kernel_rfl) (fun _ _ _ h => h) (by kernel_rfl) (fun V hV => ?hy38) ?go38
  case hy38 => (obtain ⟨i1, i2⟩ := hV; go_simp <;> rfl)
  simp only [Act.put, List.setIfInBounds_toArray, List.set_cons_zero, List.set_cons_succ]
  refine inv_take (v := ?v39) [7] 3 hI rfl (by kernel_rfl) (by kernel_rfl) (by kernel_rfl) (by kernel_rfl) (by kernel_rfl) (fun _ _ _ h => h) (by kernel_rfl) (fun V hV => ?hy39) ?go39
  case hy39 => (obtain ⟨i1, i2⟩ := hV; go_simp <;> rfl)
  simp only [Act.put, List.setIfInBounds_toArray, List.set_cons_zero, List.set_cons_succ]
  refine inv_take (v := ?v40) [7] 4 hI rfl (by kernel_rfl) (by kernel_rfl) (by kernel_rfl) (by kernel_rfl) (by kernel_rfl) (fun _ _ _ h => h) (by kernel_rfl) (fun V hV => ?hy40) ?go40
  case hy40 => (obtain ⟨i1, i2⟩ := hV; go_simp <;> rfl)
  simp only [Act.put, List.setIfInBounds_toArray, List.set_cons_zero, List.set_cons_succ]
  refine inv_take (v := ?v41) [6, 7] 5 hI rfl (by kernel_rfl) (by kernel_rfl) (by kernel_rfl) (by kernel_rfl) (by kernel_rfl) (fun _ _ _ h => h) (by kernel_rfl) (fun V hV => ?hy41) ?go41
  case hy41 => (obtain ⟨i1, i2⟩ := hV; go_simp <;> rfl)
  simp only [Act.put, List.setIfInBounds_toArray, List.set_cons_zero, List.set_cons_succ]
  refine inv_take (v := ?v42) [7] 6 hI rfl (by kernel_rfl) (by kernel_rfl) (by kernel_rfl) (by kernel_rfl) (by kernel_rfl) (fun _ _ _ h => h) (by kernel_rfl) (fun V hV => ?hy42) ?go42
  case hy42 => (obtain ⟨i1, i2⟩ := hV; go_simp <;> rfl)
  simp only [Act.put, List.setIfInBounds_toArray, List.set_cons_zero, List.set_cons_succ]
  obtain ⟨w9, hrun9, im9, ht9⟩ := HV.out.own.store Try.underlying74 (by rw [kv_len]; unfold maxLen; omega) HIL.out (.int .i64 xw)
  have im9' : IM w9 bo (kv Prod.fst oVal (putK Prod.fst (line, xw) R)) := by
    rw [← kv_put]; exact im9
  have CN := HV.out.newown ht9 im9' (rise_put HV.out.rise) (fun p hp => by
    rcases mem_putK.1 hp with rfl | ⟨hp, _⟩
    · exact H0.out
    · exact HV.out.pos p hp)
  have k9 := turned_keep ht9
  have KN : Keep M w w9 := HKV.out.trans k9 (fun j _ hj => hj ▸ HV.out.mg.2.1)
  have hne : gs ≠ bo := fun e => HNB.out bo HV.out.mg.2.1 e.symm
  have p0 := (k9.cell 0 HGS2.out hne).trans e0
  have p1 := (k9.cell 1 HGS2.out hne).trans e1
  refine inv_write 7 (by kernel_rfl) (by kernel_rfl) rfl ?_
  clear k9 im9 im9' e0 e1 hI
  go_wp2_with fail
  refine then_n ?_
  refine any_done (by kernel_rfl) ?_
  clear hrun9 ht9
  go_wp2_with fail
  go_quiet (fail)
  go_wp2_with fail
  exact bodyPost_ret (v := .tuple #[.int .i64 xw, .int .i64 xd, .bool true]) (by simp [results, Try.results34, go_sem, *]) rfl ⟨rfl, KN.next (below_dn w9 _), CN.below (below_dn w9 _)⟩
end
end Go.Proofs.Ytgeiagndpfdnlaa
end
section
namespace Go.Proofs.Ytgeiagndpfdnlaa
open Go.RowKit Go.Maps Go.Sort Go.Shelf
set_option linter.unusedVariables false
set_option maxRecDepth 20000

/-- The list, rising. -/
def sortI (l : List Int) : List Int := l.mergeSort (fun x y => decide (x ≤ y))
theorem sortI_mem (l : List Int) (k : Int) : k ∈ sortI l ↔ k ∈ l := (List.mergeSort_perm l _).mem_iff
theorem sortI_len (l : List Int) : (sortI l).length = l.length := (List.mergeSort_perm l _).length_eq
theorem sortI_rise {l : List Int} (h : l.Nodup) : RiseK id (sortI l) := by
  have h1 := List.pairwise_mergeSort (le := fun x y : Int => decide (x ≤ y)) (fun a b c h1 h2 => by simp at *; omega) (fun a b => by simp; omega) l
  have h2 : (sortI l).Nodup := ((List.mergeSort_perm l _).nodup_iff).2 h
  unfold RiseK
  unfold List.Nodup at h2
  refine (h1.and h2).imp (fun {a b} hab => ?_)
  have := of_decide_eq_true hab.1
  have := hab.2
  simp only [id]
  omega
theorem sort_any {w : World} {base : Nat} {v : Value} {l : List Int} (h : Own w base v l) (hl : l.length ≤ 1000000) :
    Calls Try.prog 60 #[v] w fun e w' => e = .returned (.tuple #[]) ∧ Own w' base v (sortI l) ∧ Keep (fun j => base ≤ j) w w' := by
  obtain ⟨h1, h2⟩ := h
  rcases h2 with ⟨rfl, h0⟩ | ⟨g, cap, cur, rfl, hb, hg, hle, hm, hsz, ht⟩
  · obtain rfl : l = [] := List.eq_nil_of_length_eq_zero h0
    refine Calls.mono (AnyM.slices_Sort_int_none Try.sortA none 0 w) ?_
    rintro e w' ⟨rfl, rfl⟩
    exact ⟨rfl, by rw [List.eq_nil_of_length_eq_zero (sortI_len [])]; exact own_nil _ _, Keep.refl _ _⟩
  · have hH := holds_of_blockI hg (by simpa [cells] using ht)
    have hlt : g < w.heap.size := (Array.getElem?_eq_some_iff.1 hg).1
    refine Calls.mono (AnyM.slices_Sort_int Try.sortA g 0 cap l w hH hlt (by omega)) ?_
    rintro e w' ⟨rfl, n, os, rfl⟩
    have hs : (l.mergeSort fun x y => decide (x ≤ y)).length = l.length := sortI_len l
    refine ⟨rfl, ?_, (Keep.grown (grownBy_sortedI _)).mono (fun j _ e => by rw [Option.some.inj e]; exact hb)⟩
    have := ownsRow_sortedI (n := n) (os := os) hs hb hg hle hm hsz
    unfold Own
    rw [sortI_len]
    exact this
theorem own_iter {w : World} {base b r n : Nat} {D : DataW Value} {left : Lit → Bool} {cnt : Nat} {v : Value} {l : List Int} (h : Own w base v l) (hr : w.ranges Try.prog 3 asIs b r n D left cnt) : ∀ k, v.ownBlock = some k → k ≠ r ∧ k ≠ b := by
  intro k hk
  obtain ⟨es, clock, since, seen, c0, e1, _, _, _, e2, _⟩ := hr
  rcases h.2 with ⟨rfl, _⟩ | ⟨g, c, cur, rfl, hb, hg, _⟩
  · simp [Value.ownBlock] at hk
  · simp [Value.ownBlock] at hk
    subst hk
    exact ⟨fun e => (by rw [e, e2] at hg; cases hg), fun e => (by rw [e, e1] at hg; cases hg)⟩
theorem has_line (O : List TE) (k : Int) : Maps.has (DataW.map (pairsD (kv TE.s TE.val O))) (.int .i64 k) = true ↔ ∃ p, getK TE.s k O = some p := by
  rw [pairs_has, kv_get]
  cases getK TE.s k O with
  | none => simp
  | some p => simp
section
variable {w : World} {g bo bw : Nat} {M : Nat → Prop} {R : List (Int × Int)} {O : List TE}
set_option maxHeartbeats 600000 in
theorem TU.ready_any (h : TW w g bo bw M R O) (hO : O.length ≤ 1000000) : Calls Try.prog 32 #[.pointer (some ⟨g, 0, none⟩)] w fun e w' =>
    ∃ v l, e = .returned v ∧ Own w' w.heap.size v l ∧ Below w.heap.size w w' ∧ RiseK id l ∧ ∀ k, k ∈ l ↔ ownR R k = -1 ∧ wtO O k ≠ [] := by
  obtain ⟨i0, hi, hp0, hp1, hp2⟩ := info_parts Try.infoInt
  have c1 := h.c1
  have HO : Hid (O.length ≤ 1000000) := hO
  have lt := h.lt
  clear hO
  go_enter Try.func32, Try.ntmps32
  go_upto_region 2 with fail
  have o1 : Own (w.alloc (.cells #[] 3)) w.heap.size (.slice (some ⟨w.heap.size, 0, none⟩) 0 0) [] := ⟨rfl, .inr ⟨w.heap.size, 0, #[], rfl, Nat.le_refl _, heap_alloc_new w _, Nat.le_refl _, Nat.zero_le _, rfl, rfl⟩⟩
  have b1 : Below w.heap.size w (w.alloc (.cells #[] 3)) := ba (Below.refl _ _)
  have h1 := h.below b1
  have HR : Hid (∀ j, M j → j < w.heap.size) := h.old
  generalize Value.slice (some ⟨w.heap.size, 0, none⟩) 0 0 = v0 at *
  generalize w.alloc (.cells #[] 3) = W1 at *
  clear h c1
  have c1 := h1.c1
  have hown : W1.ownsMap Try.prog 3 asIs bw (kv TE.s TE.val O).length (.map (pairsD (kv TE.s TE.val O))) := h1.wts
  go_wp2_with (first
    | (at_range; refine wpList_range_own _ rfl _ 75 rfl 3 78 keyedI Try.underlying75 asIs bw _ _ rfl hown ?_; intro w0 hrg0 hg0 hs0)
    | go_in)
  go_frame
  have b0 : Below W1.heap.size W1 w0 := (Below.refl _ _).grown hg0 (Nat.le_refl _) (fun j hj => by cases hj)
  have h2 := h1.below b0
  have o2 := o1.below b0
  have b2 := next b1 b0
  have HGI : Hid (W1.heap.size ≠ bw ∧ (∀ j, M j → j ≠ W1.heap.size) ∧ w.heap.size ≤ W1.heap.size) := ⟨fun e => by have := h1.old _ h1.mg.2.2; omega, fun j hj e => by have := h1.old _ hj; omega, b1.size⟩
  have lo2 := Own.base o1
  have hL : Maps.size (DataW.map (pairsD (kv TE.s TE.val O))) = O.length := by simp [Maps.size, pairsD, kv]
  rw [hL] at hrg0
  have ob : ∀ k, v0.ownBlock = some k → k ≠ W1.heap.size := fun k hk e => by have := (lo2 k hk).2; omega
  clear hg0 hs0 b0 h1 hown o1 b1 c1 lo2 hL
  generalize W1.heap.size = gi at *
  clear W1
  go_loopw [3] (fun vl wr => ∃ (l : List Int) (left : Lit → Bool) (cnt : Nat), Own wr w.heap.size vl l ∧ (∀ k, vl.ownBlock = some k → k ≠ gi) ∧ TW wr g bo bw M R O ∧ Below w.heap.size w wr ∧
    wr.ranges Try.prog 3 asIs bw gi (kv TE.s TE.val O).length (.map (pairsD (kv TE.s TE.val O))) left cnt ∧ Hid (l.length + cnt ≤ O.length ∧ l.Nodup ∧ ∀ k, k ∈ l ↔ left (.int .i64 k) = false ∧ ownR R k = -1 ∧ wtO O k ≠ [])) (fun _ wr => wr.rangeLeft bw gi)
  case atStart =>
    refine ⟨[], _, _, o2, ob, h2, b2, hrg0, ⟨by simp, List.nodup_nil, fun k => ⟨fun hk => (by cases hk), fun ⟨h1, _, h3⟩ => ?_⟩⟩⟩
    have : ∃ p, getK TE.s k O = some p := by
      unfold wtO at h3
      cases hg : getK TE.s k O with
      | none => rw [hg] at h3; exact absurd rfl h3
      | some p => exact ⟨p, rfl⟩
    have := (has_line O k).2 this
    rw [this] at h1
    cases h1
  case round =>
    obtain ⟨l, left, cnt, ho, hob, hT, hB, hrg, HJ⟩ := hrel
    clear hrg0 h2 o2 b2 ob
    go_wp2_with (first
      | (at_next; refine wpList_next_ranges _ rfl _ rfl 3 keyedI asIs (Value.int .i64) (fun v => v) (fun key kl h => by obtain ⟨x, rfl, _⟩ := Maps.keyOf_int_inv Try.underlying3 h; exact ⟨x, rfl⟩) (fun v y h => ⟨v, rfl⟩) bw gi _ _ _ _ rfl hrg ?_ ?_)
      | go_in)
    · intro hc0 hl0
      obtain ⟨hj1, hj2, hj3⟩ := HJ.out
      go_wp2_with (go_at_call 60; refine (sort_any ho (by have := HO.out; omega)).mono ?_; rintro e w9 ⟨rfl, o9, k9⟩)
      go_ret
      exact ⟨_, _, rfl, o9, k9.after hB (fun j hj => hj), sortI_rise hj2, fun k => (sortI_mem l k).trans ((hj3 k).trans (by rw [hl0]; simp))⟩
    · intro x c kl y yp w1 cnt1 hkey hlx hv hat hrg1 hlt1 hg1 hs1 hen
      obtain ⟨x', ex, rfl, hwf⟩ := Maps.keyOf_int_inv Try.underlying3 hkey
      injection ex with _ ex
      subst ex
      have k1 : Keep (fun j => j = gi) wr w1 := ⟨hg1.os, hg1.tape, hg1.output, hg1.size, fun j hj hn => hg1.block j hj (fun e => hn (Option.some.inj e))⟩
      have T1 := hT.keep k1 (fun j hj e => HGI.out.2.1 j hj e)
      have o1 := ho.keep k1 hob
      have B1 : Below w.heap.size w w1 := hB.trans (k1.below (fun j hj => hj ▸ HGI.out.2.2) hB.size)
      have HIX : Hid (In64 x) := by
        have h1 := hwf
        simp [Lit.wf, IntKind.min, IntKind.max, IntKind.signed, IntKind.bits] at h1
        unfold Hid In64
        omega
      obtain ⟨m, hm⟩ : ∃ m, l.length = m := ⟨_, rfl⟩
      have HLM : Hid (l.length = m) := hm
      have hm2 : m ≤ 1000000 := by have := HJ.out.1; have := HO.out; omega
      have o1' := o1
      unfold Own at o1'
      rw [hm] at o1'
      have HLX : Hid (left (.int .i64 x) = true) := hlx
      clear k1 hg1 hs1 hkey hv hat hlx hwf hT ho hm
      by_cases hr : ownR R x = -1 ∧ wtO O x ≠ []
      · have HRD : Hid (decide (ownR R x = -1 ∧ wtO O x ≠ []) = true) := decide_eq_true hr
        have HR2 : Hid (ownR R x = -1 ∧ wtO O x ≠ []) := hr
        clear hr
        go_wp2_with (first
          | (go_at_call 59; refine (TU.isReady_any T1 HIX.out).mono ?_; rintro e w2 ⟨rfl, rfl⟩; rw [HRD.out])
          | (at_builtin; refine wpList_append_own _ rfl _ _ 22 rfl w.heap.size 3 i0 (.int .i64 0) 1 8 Try.underlying22 hi hp0 hp1 hp2 rfl (by decide) _ m (cells l) rfl (o1'.alloc _) ⟨_, 0, none⟩ 1 1 (cells [x]) rfl rfl (cell_i1 _ _) (cells_one _) (by unfold maxLen; omega) (by omega) (by have := B1.size; simp; omega) ?_; intro v3 w3 hown3 hg3 hiff; clear hiff))
        replace hg3 : (w1.alloc (.cells #[.int .i64 x] 3)).grownBy w3 u3.ownBlock := hg3
        have e1 : cells l ++ cells [x] = cells (l ++ [x]) := by simp [cells]
        rw [e1] at hown3
        have own3 : Own w3 w.heap.size v3 (l ++ [x]) := by
          unfold Own
          rw [show (l ++ [x]).length = m + 1 by simp [HLM.out]]
          exact hown3
        have hbm : ∀ k, some k = u3.ownBlock → w.heap.size ≤ k := fun k hk => (Own.base o1 k hk.symm).1
        have ba1 : Below w1.heap.size w1 (w1.alloc (.cells #[.int .i64 x] 3)) := ba (Below.refl _ _)
        have k3 : Keep (fun k => some k = u3.ownBlock) (w1.alloc (.cells #[.int .i64 x] 3)) w3 := Keep.grown hg3
        have hb3 := fun k (hk : some k = u3.ownBlock) => own_iter o1 hrg1 k hk.symm
        have hrg3 := (hrg1.alloc (.cells #[.int .i64 x] 3)).kept hg3 (fun e => (hb3 bw e).2 rfl) (fun e => (hb3 gi e).1 rfl)
        have T3 := (T1.below ba1).keep k3 (fun j hj hk => by have := hbm j hk; have := HR.out j hj; omega)
        have B3 : Below w.heap.size w w3 := next B1 ba1 |>.trans (k3.below hbm (by have := B1.size; simp; omega))
        go_roundw
        case rel =>
          refine ⟨l ++ [x], _, cnt1, own3, fun k hk => (own_iter own3 hrg3 k hk).1, T3, B3, hrg3, ⟨by have := HJ.out.1; simp; omega, ?_, fun k => ?_⟩⟩
          · rw [List.nodup_append]
            refine ⟨HJ.out.2.1, by simp, fun a ha b hb e => ?_⟩
            rw [List.mem_singleton.1 hb] at e
            rw [e] at ha
            have := ((HJ.out.2.2 x).1 ha).1
            rw [HLX.out] at this
            cases this
          · rw [List.mem_append, HJ.out.2.2 k]
            by_cases e : k = x
            · subst e
              exact ⟨fun _ => ⟨by simp [Lit.sameKey], HR2.out⟩, fun _ => .inr (by simp)⟩
            · simp [Lit.sameKey, e]
        case measure => rw [hrg3.left_eq, hrg.left_eq]; exact hlt1
      · have HRD : Hid (decide (ownR R x = -1 ∧ wtO O x ≠ []) = false) := decide_eq_false hr
        have HR2 : Hid (¬ (ownR R x = -1 ∧ wtO O x ≠ [])) := hr
        clear hr
        go_wp2_with (go_at_call 59; refine (TU.isReady_any T1 HIX.out).mono ?_; rintro e w2 ⟨rfl, rfl⟩; rw [HRD.out])
        go_roundw
        case rel => 
          refine ⟨l, _, cnt1, o1, hob, T1, B1, hrg1, ⟨by have := HJ.out.1; omega, HJ.out.2.1, fun k => ?_⟩⟩
          rw [HJ.out.2.2 k]
          by_cases e : k = x
          · subst e
            exact ⟨fun h => absurd h.2 HR2.out, fun h => absurd h.2 HR2.out⟩
          · simp [Lit.sameKey, e]
        case measure => rw [hrg1.left_eq, hrg.left_eq]; exact hlt1
end
end Go.Proofs.Ytgeiagndpfdnlaa
end
section
namespace Go.Proofs.Ytgeiagndpfdnlaa
open Go.RowKit Go.Maps
set_option linter.unusedVariables false
set_option maxRecDepth 20000

/-- f, but at l it is v. -/
def upd {α : Type} (f : Int → α) (l : Int) (v : α) (k : Int) : α := if k = l then v else f k
theorem upd_at {α : Type} (f : Int → α) (l : Int) (v : α) : upd f l v l = v := if_pos rfl
theorem upd_ne {α : Type} (f : Int → α) {l k : Int} (v : α) (h : k ≠ l) : upd f l v k = f k := if_neg h
structure TO (w wx : World) (g : Nat) (X : Nat → Prop) (n : Nat) (own : Int → Int) (wt : Int → List (Int × Int)) : Prop where
  bel : Below w.heap.size w wx
  c : ∃ bo bw M R O, TW wx g bo bw M R O ∧ (∀ l, ownR R l = own l) ∧ (∀ l, wtO O l = wt l) ∧ (∀ j, M j → NX w X j) ∧ R.length ≤ n ∧ O.length ≤ n ∧ (∀ p ∈ O, p.l.length ≤ n) ∧ (∀ p ∈ O, ∀ x ∈ p.l, 0 ≤ x.1)
  xl : ∀ j, X j → j < wx.heap.size
section
variable {w wx wy : World} {g n : Nat} {X Y F : Nat → Prop} {own : Int → Int} {wt : Int → List (Int × Int)}
theorem TO.below (h : TO w wx g X n own wt) (hb : Below wx.heap.size wx wy) : TO w wy g X n own wt := by
  obtain ⟨bo, bw, M, R, O, c, hc⟩ := h.c
  exact ⟨next h.bel hb, ⟨bo, bw, M, R, O, c.below hb, hc⟩, fun j hj => Nat.lt_of_lt_of_le (h.xl j hj) hb.size⟩
/-- Another X: what was there of it, and what is new. -/
theorem TO.grow (h : TO w wx g X n own wt) (hb : Below wx.heap.size wx wy) (hY : ∀ j, Y j → (X j ∨ wx.heap.size ≤ j) ∧ j < wy.heap.size) : TO w wy g Y n own wt := by
  obtain ⟨bo, bw, M, R, O, c, h1, h2, h3, h4⟩ := h.c
  refine ⟨next h.bel hb, ⟨bo, bw, M, R, O, c.below hb, h1, h2, fun j hj => ⟨(h3 j hj).1, fun hy => ?_⟩, h4⟩, fun j hj => (hY j hj).2⟩
  rcases (hY j hy).1 with hx | hn
  · exact (h3 j hj).2 hx
  · have := c.old j hj; omega
/-- The test writes what is its own. -/
theorem TO.write (h : TO w wx g X n own wt) (hk : Keep F wx wy) (hF : ∀ j, F j → w.heap.size ≤ j ∧ (X j ∨ wx.heap.size ≤ j)) : TO w wy g X n own wt := by
  obtain ⟨bo, bw, M, R, O, c, h1, h2, h3, h4⟩ := h.c
  refine ⟨h.bel.trans (hk.below (fun j hj => (hF j hj).1) h.bel.size), ⟨bo, bw, M, R, O, c.keep hk (fun j hj hf => ?_), h1, h2, h3, h4⟩, fun j hj => Nat.lt_of_lt_of_le (h.xl j hj) hk.size⟩
  rcases (hF j hf).2 with hx | hn
  · exact (h3 j hj).2 hx
  · have := c.old j hj; omega
/-- The test writes what is its own, and has more. -/
theorem TO.wrgrow (h : TO w wx g X n own wt) (hk : Keep F wx wy) (hF : ∀ j, F j → w.heap.size ≤ j ∧ (X j ∨ wx.heap.size ≤ j)) (hY : ∀ j, Y j → (X j ∨ wx.heap.size ≤ j) ∧ j < wy.heap.size) : TO w wy g Y n own wt := by
  obtain ⟨bo, bw, M, R, O, c, h1, h2, h3, h4⟩ := h.c
  refine ⟨h.bel.trans (hk.below (fun j hj => (hF j hj).1) h.bel.size), ⟨bo, bw, M, R, O, c.keep hk (fun j hj hf => ?_), h1, h2, fun j hj => ⟨(h3 j hj).1, fun hy => ?_⟩, h4⟩, fun j hj => (hY j hj).2⟩
  · rcases (hF j hf).2 with hx | hn
    · exact (h3 j hj).2 hx
    · have := c.old j hj; omega
  · rcases (hY j hy).1 with hx | hn
    · exact (h3 j hj).2 hx
    · have := c.old j hj; omega
theorem TO.more (h : TO w wx g X n own wt) {m : Nat} (hm : n ≤ m) : TO w wx g X m own wt := by
  obtain ⟨bo, bw, M, R, O, c, h1, h2, h3, h4, h5, h6, h7⟩ := h.c
  exact ⟨h.bel, ⟨bo, bw, M, R, O, c, h1, h2, h3, by omega, by omega, fun p hp => by have := h6 p hp; omega, h7⟩, h.xl⟩
theorem TO.own_ge (h : TO w wx g X n own wt) (l : Int) : -1 ≤ own l := by
  obtain ⟨bo, bw, M, R, O, c, h1, h2, h3, h4⟩ := h.c
  rw [← h1 l]
  unfold ownR
  cases hg : getK Prod.fst l R with
  | none => simp
  | some p => have := c.pos p (getK_some hg).1; simp; omega
theorem TO.wt_ge (h : TO w wx g X n own wt) (l : Int) : ∀ x ∈ wt l, 0 ≤ x.1 := by
  obtain ⟨bo, bw, M, R, O, c, h1, h2, h3, h4, h5, h6, h7⟩ := h.c
  rw [← h2 l]
  unfold wtO
  cases hg : getK TE.s l O with
  | none => intro x hx; cases hx
  | some p => exact h7 p (getK_some hg).1
theorem to_done {bo bw : Nat} {M M' : Nat → Prop} {R' : List (Int × Int)} {O' : List TE} {own' : Int → Int} {wt' : Int → List (Int × Int)} {m : Nat} (h : TO w wx g X n own wt) (hk : Keep M wx wy) (hM : ∀ j, M j → NX w X j) (hM' : ∀ j, M' j → M j ∨ wx.heap.size ≤ j)
    (c : TW wy g bo bw M' R' O') (h1 : ∀ l, ownR R' l = own' l) (h2 : ∀ l, wtO O' l = wt' l) (h4 : R'.length ≤ m) (h5 : O'.length ≤ m) (h6 : ∀ p ∈ O', p.l.length ≤ m) (h7 : ∀ p ∈ O', ∀ x ∈ p.l, 0 ≤ x.1) :
    Keep (NX w X) wx wy ∧ TO w wy g X m own' wt' := by
  have hs := h.bel.size
  refine ⟨hk.mono (fun j _ hj => hM j hj), h.bel.trans (hk.below (fun j hj => (hM j hj).1) h.bel.size), ⟨bo, bw, M', R', O', c, h1, h2, fun j hj => ?_, h4, h5, h6, h7⟩, fun j hj => Nat.lt_of_lt_of_le (h.xl j hj) hk.size⟩
  exact (hM' j hj).elim (hM j) (fun hn => ⟨by omega, fun hx => by have := h.xl j hx; omega⟩)
theorem to_new (hb : Below w.heap.size w wx) (hX : ∀ j, X j → j < wx.heap.size) :
    Calls Try.prog 27 #[] wx fun e w' => ∃ g, e = .returned (.pointer (some ⟨g, 0, none⟩)) ∧ Below wx.heap.size wx w' ∧ TO w w' g X 0 (fun _ => -1) (fun _ => []) := by
  refine (TU.new_any wx).mono ?_
  rintro e w' ⟨g, bo, bw, rfl, b, c⟩
  have hs := hb.size
  exact ⟨g, rfl, b, next hb b, ⟨bo, bw, _, [], [], c, fun l => rfl, fun l => rfl, fun j hj => ⟨by omega, fun hx => by have := hX j hx; omega⟩, Nat.le_refl _, Nat.le_refl _, fun p hp => (by cases hp), fun p hp => (by cases hp)⟩, fun j hj => Nat.lt_of_lt_of_le (hX j hj) b.size⟩
theorem to_owner (h : TO w wx g X n own wt) {l : Int} (hl : In64 l) : Calls Try.prog 11 #[.pointer (some ⟨g, 0, none⟩), .int .i64 l] wx fun e w' => e = .returned (.int .i64 (own l)) ∧ wx = w' := by
  obtain ⟨bo, bw, M, R, O, c, h1, h2, h3, h4⟩ := h.c
  have := TU.owner_any c hl
  rw [h1] at this
  exact this
theorem to_waiting (h : TO w wx g X n own wt) {l : Int} (hl : In64 l) : Calls Try.prog 12 #[.pointer (some ⟨g, 0, none⟩), .int .i64 l] wx fun e w' => e = .returned (.int .i64 (wt l).length) ∧ wx = w' := by
  obtain ⟨bo, bw, M, R, O, c, h1, h2, h3, h4⟩ := h.c
  have := TU.waiting_any c hl
  rw [h2] at this
  exact this
theorem to_ready (h : TO w wx g X n own wt) (hn : n ≤ 1000000) : Calls Try.prog 32 #[.pointer (some ⟨g, 0, none⟩)] wx fun e w' => ∃ v l, e = .returned v ∧ Own w' wx.heap.size v l ∧ Below wx.heap.size wx w' ∧ RiseK id l ∧ ∀ k, k ∈ l ↔ own k = -1 ∧ wt k ≠ [] := by
  obtain ⟨bo, bw, M, R, O, c, h1, h2, h3, h4, h5, _⟩ := h.c
  have := TU.ready_any c (by omega)
  simp only [h1, h2] at this
  exact this
theorem to_ask_own (h : TO w wx g X n own wt) {line who : Int} (id : Int) (hl : In64 line) (h1 : 0 ≤ line) (h2 : 0 ≤ who) (ho : own line = -1) (hw : wt line = []) (hn : n ≤ 1000000) :
    Calls Try.prog 54 #[.pointer (some ⟨g, 0, none⟩), .int .i64 line, .int .i64 who, .int .i64 id] wx fun e w' => e = .returned (.bool true) ∧ Keep (NX w X) wx w' ∧ TO w w' g X (n + 1) (upd own line who) wt := by
  obtain ⟨bo, bw, M, R, O, c, k1, k2, k3, k4, k5, k6, k7⟩ := h.c
  refine (TU.ask_own c id hl h1 h2 (by rw [k1, ho]) (by rw [k2, hw]) (by omega)).mono ?_
  rintro e w' ⟨rfl, hk, hs, c'⟩
  exact ⟨rfl, to_done h hk k3 (fun j hj => .inl hj) c' (fun l => by rw [ownR_put R c.rise, k1]; rfl) k2 (by have := putK_len (key := Prod.fst) (line, who) R; omega) (by omega) (fun p hp => by have := k6 p hp; omega) k7⟩
theorem to_wait_done {bo bw : Nat} {M : Nat → Prop} {R : List (Int × Int)} {O : List TE} {p : TE} {line who id : Int} (h : TO w wx g X n own wt) (c : TW wx g bo bw M R O) (k1 : ∀ l, ownR R l = own l) (k2 : ∀ l, wtO O l = wt l) (k3 : ∀ j, M j → NX w X j) (k4 : R.length ≤ n) (k5 : O.length ≤ n) (k6 : ∀ p ∈ O, p.l.length ≤ n) (k7 : ∀ p ∈ O, ∀ x ∈ p.l, 0 ≤ x.1)
    (hw : 0 ≤ who) (hk : Keep M wx wy) (hp1 : p.s = line) (hp2 : p.l = wtO O line ++ [(who, id)]) (c' : TW wy g bo bw (fun j => M j ∨ (wx.heap.size ≤ j ∧ j < wy.heap.size)) R (putK TE.s p O)) :
    Keep (NX w X) wx wy ∧ TO w wy g X (n + 1) own (upd wt line (wt line ++ [(who, id)])) := by
  have hm : ∀ q ∈ O, ∀ x ∈ q.l, 0 ≤ x.1 := k7
  have hpl : p.l.length ≤ n + 1 ∧ ∀ x ∈ p.l, 0 ≤ x.1 := by
    rw [hp2]
    unfold wtO
    cases hg : getK TE.s line O with
    | none => simp; exact hw
    | some q =>
      have h1 := k6 q (getK_some hg).1
      refine ⟨by simp; omega, fun x hx => ?_⟩
      rcases List.mem_append.1 hx with hx | hx
      · exact k7 q (getK_some hg).1 x hx
      · rw [List.mem_singleton.1 hx]; exact hw
  refine to_done h hk k3 (fun j hj => hj.imp (fun h => h) (fun h => h.1)) c' k1 (fun l => ?_) (by omega) (by have := putK_len (key := TE.s) p O; omega) (fun q hq => ?_) (fun q hq => ?_)
  · rw [wtO_put c.riseO, hp1, hp2, k2, k2]
    rfl
  · rcases mem_putK.1 hq with rfl | ⟨hq, _⟩
    · exact hpl.1
    · have := k6 q hq; omega
  · rcases mem_putK.1 hq with rfl | ⟨hq, _⟩
    · exact hpl.2
    · exact k7 q hq
theorem to_ask_wait (h : TO w wx g X n own wt) {line who : Int} (id : Int) (hl : In64 line) (h1 : 0 ≤ line) (h2 : 0 ≤ who) (ho : own line ≠ -1 ∨ wt line ≠ []) (hn : n ≤ 1000000) :
    Calls Try.prog 54 #[.pointer (some ⟨g, 0, none⟩), .int .i64 line, .int .i64 who, .int .i64 id] wx fun e w' => e = .returned (.bool false) ∧ Keep (NX w X) wx w' ∧ TO w w' g X (n + 1) own (upd wt line (wt line ++ [(who, id)])) := by
  obtain ⟨bo, bw, M, R, O, c, k1, k2, k3, k4, k5, k6, k7⟩ := h.c
  have hL : (wtO O line).length ≤ 1000000 := by
    unfold wtO
    cases hg : getK TE.s line O with
    | none => simp
    | some q => have := k6 q (getK_some hg).1; simp only; omega
  by_cases e : own line = -1
  · refine (TU.ask_wait2 c id hl h1 h2 (by rw [k1, e]) (by rw [k2]; exact ho.resolve_left (fun h => h e)) (by omega) hL).mono ?_
    rintro e w' ⟨rfl, hk, p, hp1, hp2, c'⟩
    exact ⟨rfl, to_wait_done h c k1 k2 k3 k4 k5 k6 k7 h2 hk hp1 hp2 c'⟩
  · refine (TU.ask_wait1 c id hl h1 h2 (by rw [k1]; exact e) (by omega) hL).mono ?_
    rintro e w' ⟨rfl, hk, p, hp1, hp2, c'⟩
    exact ⟨rfl, to_wait_done h c k1 k2 k3 k4 k5 k6 k7 h2 hk hp1 hp2 c'⟩
theorem to_release_no (h : TO w wx g X n own wt) {line who : Int} (hl : In64 line) (ho : own line = -1 ∨ own line ≠ who) :
    Calls Try.prog 57 #[.pointer (some ⟨g, 0, none⟩), .int .i64 line, .int .i64 who] wx fun e w' => e = .returned (.int .i64 6) ∧ wx = w' := by
  obtain ⟨bo, bw, M, R, O, c, k1, k2, k3, k4, k5, k6, k7⟩ := h.c
  exact TU.release_no c hl (by rw [k1]; exact ho)
theorem to_release_ok (h : TO w wx g X n own wt) {line who : Int} (hl : In64 line) (h1 : own line ≠ -1) (h2 : own line = who) :
    Calls Try.prog 57 #[.pointer (some ⟨g, 0, none⟩), .int .i64 line, .int .i64 who] wx fun e w' => e = .returned (.int .i64 0) ∧ Keep (NX w X) wx w' ∧ TO w w' g X n (upd own line (-1)) wt := by
  obtain ⟨bo, bw, M, R, O, c, k1, k2, k3, k4, k5, k6, k7⟩ := h.c
  refine (TU.release_ok c hl (by rw [k1]; exact h1) (by rw [k1]; exact h2)).mono ?_
  rintro e w' ⟨rfl, hk, hs, c'⟩
  exact ⟨rfl, to_done h hk k3 (fun j hj => .inl hj) c' (fun l => by rw [ownR_del R c.rise, k1]; rfl) k2 (by have := delK_len (key := Prod.fst) line R; omega) k5 k6 k7⟩
theorem to_next_no (h : TO w wx g X n own wt) {line : Int} (hl : In64 line) (hn : ¬ (own line = -1 ∧ wt line ≠ [])) :
    Calls Try.prog 34 #[.pointer (some ⟨g, 0, none⟩), .int .i64 line] wx fun e w' => e = .returned (.tuple #[.int .i64 0, .int .i64 0, .bool false]) ∧ wx = w' := by
  obtain ⟨bo, bw, M, R, O, c, k1, k2, k3, k4, k5, k6, k7⟩ := h.c
  exact TU.next_no c hl (by rw [k1, k2]; exact hn)
theorem to_next_ok (h : TO w wx g X n own wt) {line : Int} (hl : In64 line) (h1 : own line = -1) {x : Int × Int} {r : List (Int × Int)} (hx : wt line = x :: r) (hn : n ≤ 1000000) :
    Calls Try.prog 34 #[.pointer (some ⟨g, 0, none⟩), .int .i64 line] wx fun e w' => e = .returned (.tuple #[.int .i64 x.1, .int .i64 x.2, .bool true]) ∧ Keep (NX w X) wx w' ∧ TO w w' g X (n + 1) (upd own line x.1) (upd wt line r) := by
  have hx0 := h.wt_ge line x (by rw [hx]; simp)
  obtain ⟨bo, bw, M, R, O, c, k1, k2, k3, k4, k5, k6, k7⟩ := h.c
  obtain ⟨p, hp, hpl⟩ : ∃ p, getK TE.s line O = some p ∧ p.l = x :: r := by
    have := k2 line
    rw [hx] at this
    unfold wtO at this
    cases hg : getK TE.s line O with
    | none => rw [hg] at this; cases this
    | some p => rw [hg] at this; exact ⟨p, rfl, this⟩
  obtain ⟨hpO, hps⟩ := getK_some hp
  refine (TU.next_ok c hl (by rw [k1]; exact h1) hp hpl hx0 (by omega) (by omega)).mono ?_
  rintro e w' ⟨rfl, hk, c'⟩
  have htl : ∀ q ∈ wtNext p O, q ∈ O ∨ q.l = p.l.tail := fun q hq => by
    unfold wtNext at hq
    split at hq
    · exact .inl (mem_delK.1 hq).1
    · rcases mem_putK.1 hq with rfl | ⟨hq, _⟩
      · exact .inr rfl
      · exact .inl hq
  refine ⟨rfl, to_done h hk k3 (fun j hj => .inl hj) c' (fun l => by rw [ownR_put R c.rise, k1]; rfl) (fun l => ?_) (by have := putK_len (key := Prod.fst) (line, x.1) R; omega) ?_ (fun q hq => ?_) (fun q hq => ?_)⟩
  · rw [wtO_next c.riseO hp, k2]
    unfold upd
    by_cases e : l = line
    · rw [if_pos e, if_pos e, e, hx]; rfl
    · rw [if_neg e, if_neg e]
  · unfold wtNext
    split
    · have := delK_len (key := TE.s) p.s O; omega
    · have := putK_len (key := TE.s) ⟨p.s, p.l.tail, p.b, p.o + 2, p.cap - 1⟩ O; omega
  · rcases htl q hq with h1 | h1
    · have := k6 q h1; omega
    · have := k6 p hpO; rw [h1, List.length_tail]; omega
  · rcases htl q hq with h1 | h1
    · exact k7 q h1
    · intro y hy
      rw [h1] at hy
      exact k7 p hpO y (List.mem_of_mem_tail hy)
end
end Go.Proofs.Ytgeiagndpfdnlaa
end
section
namespace Go.Proofs.Ytgeiagndpfdnlaa
open Go.RowKit Go.Maps
set_option linter.unusedVariables false
set_option maxRecDepth 20000

end Go.Proofs.Ytgeiagndpfdnlaa
end
section
namespace Go.Proofs.Ytgeiagndpfdnlaa
open Go.RowKit
set_option linter.unusedVariables false
set_option maxRecDepth 20000
namespace TR

set_option maxHeartbeats 400000 in
theorem owner_any {w : World} {g t0 : Nat} {M N : Nat → Prop} {o : List (Int × Int)} {q : List Wr} {ao aq : Option Addr} {no co nq cq : Nat} (h : DT w g t0 M N o q ao no co aq nq cq) (line : Int) :
    Calls Try.prog 20 #[.pointer (some ⟨g, t0, none⟩), .int .i64 line] w fun e w' => e = .returned (.int .i64 (ownT o line)) ∧ Below w.heap.size w w' := by
  have c0 := h.c0
  have lt := h.lt
  have row := h.ro
  have HL : Hid (o.length = no) := row.lenF dcells_len (by omega)
  have HO : Hid (OkT o) := h.ok
  have hle := row.le
  have hmx := row.max
  unfold maxLen at hmx
  clear h
  go_enter Try.func20, Try.ntmps20
  go_wp2_with fail
  go_loopw [12] (fun vi wr => ∃ i : Nat, vi = .int .i64 (i : Int) ∧ i ≤ no ∧ Below w.heap.size w wr ∧ Hid (∀ j y, j < i → o[j]? = some y → y.1 ≠ line)) (fun vi _ => no - (intOf vi).toNat)
  case atStart => exact ⟨0, rfl, by omega, Below.refl _ _, fun j y hj => by omega⟩
  case round =>
    obtain ⟨i, rfl, hi, hB, HJ⟩ := hrel
    by_cases hlt : i < no
    · obtain ⟨x, hx⟩ : ∃ x, o[i]? = some x := ⟨o[i]'(by have := HL.out; omega), List.getElem?_eq_getElem (by have := HL.out; omega)⟩
      obtain ⟨b, o1, rfl, _, hb, hc⟩ := (row.below hB).getF dcells_len hx hlt
      have HX : Hid (o[i]? = some x) := hx
      obtain ⟨xl, xw⟩ := x
      have x0 : wr.cell? ⟨b, o1 + i * 2, none⟩ = some (.int .i64 xl) := hc 0 _ (by omega) rfl
      have x1 : wr.cell? ⟨b, o1 + i * 2 + 1, none⟩ = some (.int .i64 xw) := hc 1 _ (by omega) rfl
      have hB2 := hB.trans ((ba (o := .cells #[.int .i64 xl, .int .i64 xw] 87) (Below.refl wr.heap.size wr)).mono hB.size)
      have y0 : (wr.alloc (.cells #[.int .i64 xl, .int .i64 xw] 87)).cell? ⟨wr.heap.size, 0, none⟩ = some (.int .i64 xl) := by simp
      have y1 : (wr.alloc (.cells #[.int .i64 xl, .int .i64 xw] 87)).cell? ⟨wr.heap.size, 1, none⟩ = some (.int .i64 xw) := by simp
      clear hx hc row c0 lt
      go_upto_region 4 with fail
      clear x0 x1 hb hB
      generalize wr.heap.size = ge at *
      generalize wr.alloc _ = w2 at *
      by_cases he : xl = line
      · have HE : Hid (xl = line) := he
        rw [he] at y0
        clear he
        go_wp2_with fail
        go_ret
        exact ⟨ret_int (by have := own_at HO.out (List.mem_of_getElem? HX.out); rw [HE.out] at this; exact this.symm), hB2⟩
      · have hb2 : (xl == line) = false := by simpa using he
        have HE : Hid (xl ≠ line) := he
        clear he
        go_wp2_with fail
        go_roundw
        case rel =>
          refine ⟨i + 1, by go_num, by omega, hB2, fun j y hj hy => ?_⟩
          by_cases hji : j = i
          · subst hji
            rw [HX.out] at hy
            obtain rfl := Option.some.inj hy
            exact HE.out
          · exact HJ.out j y (by omega) hy
        case measure => simp [intOf]; omega
    · go_wp2_with fail
      go_ret
      refine ⟨ret_int (own_none (fun y hy => ?_)).symm, hB⟩
      obtain ⟨j, hj⟩ := List.mem_iff_getElem?.1 hy
      exact HJ.out j y (by have := (List.getElem?_eq_some_iff.1 hj).1; have := HL.out; omega) hj
set_option maxHeartbeats 400000 in
theorem waiting_any {w : World} {g t0 : Nat} {M N : Nat → Prop} {o : List (Int × Int)} {q : List Wr} {ao aq : Option Addr} {no co nq cq : Nat} (h : DT w g t0 M N o q ao no co aq nq cq) (line : Int) :
    Calls Try.prog 47 #[.pointer (some ⟨g, t0, none⟩), .int .i64 line] w fun e w' => e = .returned (.int .i64 ((waitT q line).length : Int)) ∧ Below w.heap.size w w' := by
  have c1 := h.c1
  have lt := h.lt
  have row := h.rq
  have HL : Hid (q.length = nq) := row.lenF wcells_len (by omega)
  have hle := row.le
  have hmx := row.max
  unfold maxLen at hmx
  clear h
  go_enter Try.func47, Try.ntmps47
  go_wp2_with fail
  go_loopw [5, 13] (fun vm vi wr => ∃ (i m : Nat), vm = .int .i64 (m : Int) ∧ vi = .int .i64 (i : Int) ∧ i ≤ nq ∧ m ≤ i ∧ Below w.heap.size w wr ∧ Hid ((waitT (q.take i) line).length = m)) (fun _ vi _ => nq - (intOf vi).toNat)
  case atStart => exact ⟨0, 0, rfl, rfl, by omega, by omega, Below.refl _ _, by show _ = _; simp [waitT]⟩
  case round =>
    obtain ⟨i, m, rfl, rfl, hi, hmi, hB, HJ⟩ := hrel
    by_cases hlt : i < nq
    · obtain ⟨x, hx⟩ : ∃ x, q[i]? = some x := ⟨q[i]'(by have := HL.out; omega), List.getElem?_eq_getElem (by have := HL.out; omega)⟩
      obtain ⟨b, o1, rfl, _, hb, hc⟩ := (row.below hB).getF wcells_len hx hlt
      have HX : Hid (q[i]? = some x) := hx
      obtain ⟨xl, xw, xd⟩ := x
      have x0 : wr.cell? ⟨b, o1 + i * 3, none⟩ = some (.int .i64 xl) := hc 0 _ (by omega) rfl
      have x1 : wr.cell? ⟨b, o1 + i * 3 + 1, none⟩ = some (.int .i64 xw) := hc 1 _ (by omega) rfl
      have x2 : wr.cell? ⟨b, o1 + i * 3 + 2, none⟩ = some (.int .i64 xd) := hc 2 _ (by omega) rfl
      have hB2 := hB.trans ((ba (o := .cells #[.int .i64 xl, .int .i64 xw, .int .i64 xd] 111) (Below.refl wr.heap.size wr)).mono hB.size)
      have y0 : (wr.alloc (.cells #[.int .i64 xl, .int .i64 xw, .int .i64 xd] 111)).cell? ⟨wr.heap.size, 0, none⟩ = some (.int .i64 xl) := by simp
      clear hx hc row c1 lt
      go_upto_region 5 with fail
      clear x0 x1 x2 hb hB
      generalize wr.heap.size = ge at *
      generalize wr.alloc _ = w2 at *
      have ht := wait_take HX.out line
      rw [HJ.out] at ht
      by_cases he : xl = line
      · rw [if_pos he] at ht
        have HT : Hid ((waitT (q.take (i + 1)) line).length = m + 1) := ht
        rw [he] at y0
        clear he ht
        go_wp2_with fail
        go_roundw
        case rel => exact ⟨i + 1, m + 1, by go_num, by go_num, by omega, by omega, hB2, HT⟩
        case measure => simp [intOf]; omega
      · have hb2 : (xl == line) = false := by simpa using he
        rw [if_neg he] at ht
        have HT : Hid ((waitT (q.take (i + 1)) line).length = m) := ht
        clear he ht
        go_wp2_with fail
        go_roundw
        case rel => exact ⟨i + 1, m, rfl, by go_num, by omega, by omega, hB2, HT⟩
        case measure => simp [intOf]; omega
    · go_wp2_with fail
      go_ret
      refine ⟨ret_int ?_, hB⟩
      have e : q.take i = q := List.take_of_length_le (by have := HL.out; omega)
      have h1 := HJ.out
      rw [e] at h1
      rw [h1]
end TR
end Go.Proofs.Ytgeiagndpfdnlaa
end
