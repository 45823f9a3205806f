/- The program's turns in memory: two maps, one of owners by line, one of those who wait by line (TW). Nothing of the program is named here but its types. -/
import Derived.Test.YtgeiagndpfdnlaaTuD
namespace Go.Proofs.Ytgeiagndpfdnlaa
open Go.RowKit Go.Maps
set_option linter.unusedVariables false

/-- Those who wait for a line in memory: which line, who and number, where. -/
structure TE where
  s : Int
  l : List (Int × Int)
  b : Nat
  o : Nat
  cap : Nat
@[reducible] def TE.val (p : TE) : Value := .slice (some ⟨p.b, p.o, none⟩) p.l.length p.cap
@[reducible] def oVal (p : Int × Int) : Value := .int .i64 p.2
structure TW (w : World) (g bo bw : Nat) (M : Nat → Prop) (R : List (Int × Int)) (O : List TE) : Prop where
  c0 : w.cell? ⟨g, 0, none⟩ = some (.map (some bo))
  c1 : w.cell? ⟨g, 1, none⟩ = some (.map (some bw))
  lt : g < w.heap.size
  mg : M g ∧ M bo ∧ M bw
  ne : bo ≠ g ∧ bw ≠ g ∧ bo ≠ bw
  own : IM w bo (kv Prod.fst oVal R)
  wts : IM w bw (kv TE.s TE.val O)
  rows : ∀ p ∈ O, Rw w (fun j => j = p.b) (some ⟨p.b, p.o, none⟩) p.l.length p.cap 2 (flat dcells p.l) ∧ M p.b ∧ p.b ≠ g ∧ p.b ≠ bo ∧ p.b ≠ bw
  ap : ∀ p ∈ O, ∀ q ∈ O, p.s ≠ q.s → p.b ≠ q.b
  rise : RiseK Prod.fst R
  riseO : RiseK TE.s O
  full : ∀ p ∈ O, p.l ≠ []
  pos : ∀ p ∈ R, 0 ≤ p.2
  old : ∀ j, M j → j < w.heap.size
section
variable {w w' : World} {g bo bw : Nat} {M F : Nat → Prop} {R : List (Int × Int)} {O : List TE}
theorem TW.keep (h : TW w g bo bw M R O) (hk : Keep F w w') (hF : ∀ k, M k → ¬ F k) : TW w' g bo bw M R O :=
  have e := fun o => hk.cell (b := g) o h.lt (hF g h.mg.1)
  ⟨(e _).trans h.c0, (e _).trans h.c1, Nat.lt_of_lt_of_le h.lt hk.size, h.mg, h.ne, h.own.keep hk (hF bo h.mg.2.1), h.wts.keep hk (hF bw h.mg.2.2),
    fun p hp => ⟨(h.rows p hp).1.keep hk (fun j hj => hj ▸ hF p.b (h.rows p hp).2.1), (h.rows p hp).2⟩, h.ap, h.rise, h.riseO, h.full, h.pos, fun j hj => Nat.lt_of_lt_of_le (h.old j hj) hk.size⟩
theorem TW.below (h : TW w g bo bw M R O) (hb : Below w.heap.size w w') : TW w' g bo bw M R O := h.keep (F := fun _ => False) (Keep.of_below hb) (fun _ _ h => h)
/-- The owners are others. -/
theorem TW.newown {R' : List (Int × Int)} (h : TW w g bo bw M R O) (ht : w.mapTurned w' bo) (hi : IM w' bo (kv Prod.fst oVal R')) (hr : RiseK Prod.fst R') (hp : ∀ p ∈ R', 0 ≤ p.2) : TW w' g bo bw M R' O := by
  have kk := turned_keep ht
  have e := fun o => kk.cell (b := g) o h.lt (Ne.symm h.ne.1)
  exact ⟨(e _).trans h.c0, (e _).trans h.c1, by rw [turned_size ht]; exact h.lt, h.mg, h.ne, hi, h.wts.keep kk (Ne.symm h.ne.2.2),
    fun p hp => ⟨(h.rows p hp).1.keep kk (fun j hj e => (h.rows p hp).2.2.2.1 (hj ▸ e)), (h.rows p hp).2⟩, h.ap, hr, h.riseO, h.full, hp, fun j hj => by rw [turned_size ht]; exact h.old j hj⟩
/-- Those who wait are others. -/
theorem TW.newwt {s : Int} {O' : List TE} (h : TW w g bo bw M R O) (hk : Keep F w w') (hF : ∀ j, F j → M j ∧ j ≠ g ∧ j ≠ bo ∧ (∀ q ∈ O, q.s ≠ s → q.b ≠ j)) (him : IM w' bw (kv TE.s TE.val O')) (hr : RiseK TE.s O') (hne : ∀ q ∈ O', q.l ≠ [])
    (hO : ∀ q ∈ O', (q ∈ O ∧ q.s ≠ s) ∨ (q.s = s ∧ Rw w' (fun j => j = q.b) (some ⟨q.b, q.o, none⟩) q.l.length q.cap 2 (flat dcells q.l) ∧
      ((M q.b ∧ q.b ≠ g ∧ q.b ≠ bo ∧ q.b ≠ bw ∧ ∀ q' ∈ O, q'.s ≠ s → q'.b ≠ q.b) ∨ (w.heap.size ≤ q.b ∧ q.b < w'.heap.size)))) :
    TW w' g bo bw (fun j => M j ∨ (w.heap.size ≤ j ∧ j < w'.heap.size)) R O' := by
  have e := fun o => hk.cell (b := g) o h.lt (fun f => (hF g f).2.1 rfl)
  have ole : ∀ q ∈ O, q.b < w.heap.size := fun q hq => h.old q.b (h.rows q hq).2.1
  refine ⟨(e _).trans h.c0, (e _).trans h.c1, Nat.lt_of_lt_of_le h.lt hk.size, ⟨.inl h.mg.1, .inl h.mg.2.1, .inl h.mg.2.2⟩, h.ne,
    h.own.keep hk (fun f => (hF bo f).2.2.1 rfl), him, fun p hp => ?_, fun p hp q hq hs => ?_, h.rise, hr, hne, h.pos, fun j hj => ?_⟩
  · rcases hO p hp with ⟨h1, h2⟩ | ⟨h1, h2, h3⟩
    · obtain ⟨r1, r2, r3⟩ := h.rows p h1
      exact ⟨r1.keep hk (fun j hj f => (hF j f).2.2.2 p h1 h2 hj.symm), .inl r2, r3⟩
    · refine ⟨h2, ?_⟩
      rcases h3 with ⟨a, b, c, d, _⟩ | ⟨a, b⟩
      · exact ⟨.inl a, b, c, d⟩
      · have := h.old g h.mg.1
        have := h.old bo h.mg.2.1
        have := h.old bw h.mg.2.2
        exact ⟨.inr ⟨a, b⟩, by omega, by omega, by omega⟩
  · rcases hO p hp with ⟨h1, h2⟩ | ⟨h1, h2, h3⟩ <;> rcases hO q hq with ⟨k1, k2⟩ | ⟨k1, k2, k3⟩
    · exact h.ap p h1 q k1 hs
    · rcases k3 with ⟨_, _, _, _, d⟩ | ⟨a, b⟩
      · exact d p h1 h2
      · have := ole p h1; omega
    · rcases h3 with ⟨_, _, _, _, d⟩ | ⟨a, b⟩
      · exact fun e => d q k1 k2 e.symm
      · have := ole q k1; omega
    · exact absurd (h1.trans k1.symm) hs
  · rcases hj with hj | hj
    · exact Nat.lt_of_lt_of_le (h.old j hj) hk.size
    · exact hj.2
/-- Who has a line (-1: nobody); who waits for one. -/
def ownR (R : List (Int × Int)) (l : Int) : Int := match getK Prod.fst l R with | some p => p.2 | none => -1
def hasT (R : List (Int × Int)) (l : Int) : Bool := (getK Prod.fst l R).isSome
def wtO (O : List TE) (l : Int) : List (Int × Int) := match getK TE.s l O with | some p => p.l | none => []
def wtAt (O : List TE) (s : Int) : Value := match getK TE.s s O with | some p => p.val | none => .slice none 0 0
theorem TW.has_eq (h : TW w g bo bw M R O) (l : Int) : hasT R l = decide (ownR R l ≠ -1) := by
  unfold hasT ownR
  cases hg : getK Prod.fst l R with
  | none => simp
  | some p => have := h.pos p (getK_some hg).1; simp; omega
theorem TW.wtRw (h : TW w g bo bw M R O) (s : Int) : ∃ (X : Nat → Prop) (a : Option Addr) (cap : Nat), wtAt O s = .slice a (wtO O s).length cap ∧ Rw w X a (wtO O s).length cap 2 (flat dcells (wtO O s)) ∧
    ∀ j, X j → M j ∧ j ≠ g ∧ j ≠ bo ∧ j ≠ bw ∧ ∀ q ∈ O, q.s ≠ s → q.b ≠ j := by
  unfold wtAt wtO
  cases hg : getK TE.s s O with
  | none => exact ⟨fun _ => False, none, 0, rfl, rw_nil _ _ _, fun j hj => hj.elim⟩
  | some p =>
    obtain ⟨hp, hps⟩ := getK_some hg
    obtain ⟨r1, r2, r3, r4, r5⟩ := h.rows p hp
    exact ⟨fun j => j = p.b, _, _, rfl, r1, fun j hj => by subst hj; exact ⟨r2, r3, r4, r5, fun q hq hs => h.ap q hq p hp (fun e => hs (e.trans hps))⟩⟩
theorem ownR_put (R : List (Int × Int)) (hr : RiseK Prod.fst R) (l v k : Int) : ownR (putK Prod.fst (l, v) R) k = if k = l then v else ownR R k := by
  unfold ownR
  by_cases e : k = l
  · subst e
    rw [if_pos rfl, show getK Prod.fst k (putK Prod.fst (k, v) R) = some (k, v) from getK_mem (rise_put hr) (a := (k, v)) (mem_putK.2 (.inl rfl))]
  · rw [if_neg e]
    cases hg : getK Prod.fst k R with
    | none =>
      rw [getK_none.2 (fun q hq e2 => ?_)]
      rcases mem_putK.1 hq with rfl | ⟨hq, _⟩
      · exact e e2.symm
      · exact getK_none.1 hg q hq e2
    | some p =>
      obtain ⟨h1, h2⟩ := getK_some hg
      have := getK_mem (rise_put (r := (l, v)) hr) (a := p) (mem_putK.2 (.inr ⟨h1, fun e3 => e (h2.symm.trans e3)⟩))
      rw [h2] at this
      rw [this]
theorem ownR_del (R : List (Int × Int)) (hr : RiseK Prod.fst R) (l k : Int) : ownR (delK Prod.fst l R) k = if k = l then -1 else ownR R k := by
  unfold ownR
  by_cases e : k = l
  · subst e
    rw [if_pos rfl, getK_none.2 (fun q hq e2 => (mem_delK.1 hq).2 e2)]
  · rw [if_neg e]
    cases hg : getK Prod.fst k R with
    | none => rw [getK_none.2 (fun q hq e2 => getK_none.1 hg q (mem_delK.1 hq).1 e2)]
    | some p =>
      obtain ⟨h1, h2⟩ := getK_some hg
      have := getK_mem (rise_del (x := l) hr) (a := p) (mem_delK.2 ⟨h1, fun e3 => e (h2.symm.trans e3)⟩)
      rw [h2] at this
      rw [this]
theorem wtO_put {O : List TE} (hr : RiseK TE.s O) (p : TE) (k : Int) : wtO (putK TE.s p O) k = if k = p.s then p.l else wtO O k := by
  unfold wtO
  by_cases e : k = p.s
  · subst e
    rw [if_pos rfl, getK_mem (rise_put hr) (a := p) (mem_putK.2 (.inl rfl))]
  · rw [if_neg e]
    cases hg : getK TE.s k O with
    | none =>
      rw [getK_none.2 (fun q hq e2 => ?_)]
      rcases mem_putK.1 hq with rfl | ⟨hq, _⟩
      · exact e e2.symm
      · exact getK_none.1 hg q hq e2
    | some q =>
      obtain ⟨h1, h2⟩ := getK_some hg
      have := getK_mem (rise_put (r := p) hr) (a := q) (mem_putK.2 (.inr ⟨h1, fun e3 => e (h2.symm.trans e3)⟩))
      rw [h2] at this
      rw [this]
theorem wtO_del {O : List TE} (hr : RiseK TE.s O) (l k : Int) : wtO (delK TE.s l O) k = if k = l then [] else wtO O k := by
  unfold wtO
  by_cases e : k = l
  · subst e
    rw [if_pos rfl, getK_none.2 (fun q hq e2 => (mem_delK.1 hq).2 e2)]
  · rw [if_neg e]
    cases hg : getK TE.s k O with
    | none => rw [getK_none.2 (fun q hq e2 => getK_none.1 hg q (mem_delK.1 hq).1 e2)]
    | some p =>
      obtain ⟨h1, h2⟩ := getK_some hg
      have := getK_mem (rise_del (x := l) hr) (a := p) (mem_delK.2 ⟨h1, fun e3 => e (h2.symm.trans e3)⟩)
      rw [h2] at this
      rw [this]
end
end Go.Proofs.Ytgeiagndpfdnlaa
