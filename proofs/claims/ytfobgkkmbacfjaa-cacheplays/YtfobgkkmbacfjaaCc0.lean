/- The program's own cache in memory: two maps, one of entries by line, one of orders by set (CW). Nothing of the program is named here but its types. -/
import Derived.Test.YtfobgkkmbacfjaaERow
import Derived.Test.YtfobgkkmbacfjaaIMap
namespace Go.Proofs.Ytfobgkkmbacfjaa
open Go.RowKit Go.Maps
set_option linter.unusedVariables false

/-- A set's order in memory: which set, its lines, where. -/
structure OE where
  s : Int
  l : List Int
  b : Nat
  o : Nat
  cap : Nat
@[reducible] def OE.val (p : OE) : Value := .slice (some ⟨p.b, p.o, none⟩) p.l.length p.cap
@[reducible] def eKey (r : En × Value) : Int := r.1.n
@[reducible] def eVal (r : En × Value) : Value := r.1.val r.2
/-- A line's set (-1: the line is none). -/
def setI (S l : Int) : Int := if l < 0 then -1 else l.tmod S
structure CW (w : World) (g be bo : Nat) (M D : Nat → Prop) (S W k : Int) (R : List (En × Value)) (O : List OE) : Prop where
  c0 : w.cell? ⟨g, 0, none⟩ = some (.int .i64 S)
  c1 : w.cell? ⟨g, 1, none⟩ = some (.int .i64 W)
  c2 : w.cell? ⟨g, 2, none⟩ = some (.int .i64 k)
  c3 : w.cell? ⟨g, 3, none⟩ = some (.map (some be))
  c4 : w.cell? ⟨g, 4, none⟩ = some (.map (some bo))
  fz : ∀ o, w.frozen? ⟨g, o, none⟩ = false
  lt : g < w.heap.size
  mg : M g ∧ M be ∧ M bo
  ne : be ≠ g ∧ bo ≠ g ∧ be ≠ bo
  ents : IM w be (kv eKey eVal R)
  ords : IM w bo (kv OE.s OE.val O)
  dat : ∀ r ∈ R, DatZ w D r.1.z r.2
  rows : ∀ p ∈ O, Rw w (fun j => j = p.b) (some ⟨p.b, p.o, none⟩) p.l.length p.cap 1 (cells p.l) ∧ M p.b ∧ p.b ≠ g ∧ p.b ≠ be ∧ p.b ≠ bo
  ap : ∀ p ∈ O, ∀ q ∈ O, p.s ≠ q.s → p.b ≠ q.b
  rise : RiseK eKey R
  riseO : RiseK OE.s O
  pos : 1 ≤ S ∧ In64 S
  inn : ∀ r ∈ R, In64 r.1.n ∧ 0 ≤ r.1.n
  old : ∀ j, M j ∨ D j → j < w.heap.size
  dj : ∀ j, M j → ¬ D j
section
variable {w w' : World} {g be bo : Nat} {M D F : Nat → Prop} {S W k : Int} {R : List (En × Value)} {O : List OE}
theorem CW.keep (h : CW w g be bo M D S W k R O) (hk : Keep F w w') (hF : ∀ k, M k ∨ D k → ¬ F k) : CW w' g be bo M D S W k R O :=
  have e := fun o => hk.cell (b := g) o h.lt (hF g (.inl h.mg.1))
  ⟨(e _).trans h.c0, (e _).trans h.c1, (e _).trans h.c2, (e _).trans h.c3, (e _).trans h.c4, fun o => by rw [hk.frozen _ h.lt (hF g (.inl h.mg.1))]; exact h.fz o, Nat.lt_of_lt_of_le h.lt hk.size, h.mg, h.ne,
    h.ents.keep hk (hF be (.inl h.mg.2.1)), h.ords.keep hk (hF bo (.inl h.mg.2.2)), fun r hr => (h.dat r hr).keep hk (fun k hd => hF k (.inr hd)),
    fun p hp => ⟨(h.rows p hp).1.keep hk (fun j hj => hj ▸ hF p.b (.inl (h.rows p hp).2.1)), (h.rows p hp).2⟩, h.ap, h.rise, h.riseO, h.pos, h.inn, fun j hj => Nat.lt_of_lt_of_le (h.old j hj) hk.size, h.dj⟩
theorem CW.below (h : CW w g be bo M D S W k R O) (hb : Below w.heap.size w w') : CW w' g be bo M D S W k R O := h.keep (F := fun _ => False) (Keep.of_below hb) (fun _ _ h => h)
theorem setI_in (h : CW w g be bo M D S W k R O) (l : Int) : In64 (setI S l) ∧ -1 ≤ setI S l ∧ (0 ≤ l → setI S l = l.tmod S ∧ 0 ≤ setI S l) := by
  obtain ⟨h1, h2⟩ := h.pos
  unfold In64 at *
  unfold setI
  split
  · refine ⟨by omega, by omega, fun h => by omega⟩
  · have a := Int.tmod_nonneg (b := S) (show 0 ≤ l by omega)
    have b := Int.tmod_lt_of_pos l (show 0 < S by omega)
    refine ⟨by omega, by omega, fun _ => ⟨rfl, a⟩⟩
/-- The clock is another one. -/
theorem CW.clock (h : CW w g be bo M D S W k R O) (u : Int) : CW (w.setCell ⟨g, 2, none⟩ (.int .i64 u)) g be bo M D S W u R O :=
  have kk := Keep.one w g 2 (.int .i64 u)
  have near : ∀ j, j ≠ 2 → (w.setCell ⟨g, 2, none⟩ (.int .i64 u)).cell? ⟨g, j, none⟩ = w.cell? ⟨g, j, none⟩ := fun j hj => World.cell?_setCell_other _ _ _ _ (by simp <;> omega)
  ⟨by rw [near 0 (by omega)]; exact h.c0, by rw [near 1 (by omega)]; exact h.c1, World.cell?_setCell_same' _ _ _ (by rw [h.c2]; rfl), by rw [near 3 (by omega)]; exact h.c3, by rw [near 4 (by omega)]; exact h.c4,
    fun o => by rw [World.frozen?_setCell]; exact h.fz o, by simpa using h.lt, h.mg, h.ne, h.ents.keep kk h.ne.1, h.ords.keep kk h.ne.2.1, fun r hr => (h.dat r hr).keep kk (fun k hd e => h.dj g h.mg.1 (e ▸ hd)),
    fun p hp => ⟨(h.rows p hp).1.keep kk (fun j hj e => (h.rows p hp).2.2.1 (hj ▸ e)), (h.rows p hp).2⟩, h.ap, h.rise, h.riseO, h.pos, h.inn, fun j hj => by simpa using h.old j hj, h.dj⟩
/-- The entries are others. -/
theorem CW.newents {D' : Nat → Prop} {R' : List (En × Value)} (h : CW w g be bo M D S W k R O) (ht : w.mapTurned w' be) (hi : IM w' be (kv eKey eVal R')) (hr : RiseK eKey R') (hd : ∀ r ∈ R', DatZ w D' r.1.z r.2)
    (hn : ∀ r ∈ R', In64 r.1.n ∧ 0 ≤ r.1.n) (hD : ∀ j, D' j → j < w.heap.size) (hj : ∀ j, M j → ¬ D' j) : CW w' g be bo M D' S W k R' O := by
  have kk := turned_keep ht
  have e := fun o => kk.cell (b := g) o h.lt (Ne.symm h.ne.1)
  exact ⟨(e _).trans h.c0, (e _).trans h.c1, (e _).trans h.c2, (e _).trans h.c3, (e _).trans h.c4, fun o => by rw [kk.frozen _ h.lt (Ne.symm h.ne.1)]; exact h.fz o, by rw [turned_size ht]; exact h.lt, h.mg, h.ne,
    hi, h.ords.keep kk (Ne.symm h.ne.2.2), fun r hr => (hd r hr).keep kk (fun k hd e => hj be h.mg.2.1 (e ▸ hd)),
    fun p hp => ⟨(h.rows p hp).1.keep kk (fun j hj e => (h.rows p hp).2.2.2.1 (hj ▸ e)), (h.rows p hp).2⟩, h.ap, hr, h.riseO, h.pos, hn, fun j hj' => by rw [turned_size ht]; exact hj'.elim (fun m => h.old j (.inl m)) (hD j), hj⟩
/-- The orders are others. -/
theorem CW.neword {s : Int} {O' : List OE} (h : CW w g be bo M D S W k R O) (hk : Keep F w w') (hF : ∀ j, F j → M j ∧ j ≠ g ∧ j ≠ be ∧ (∀ q ∈ O, q.s ≠ s → q.b ≠ j)) (him : IM w' bo (kv OE.s OE.val O')) (hr : RiseK OE.s O')
    (hO : ∀ q ∈ O', (q ∈ O ∧ q.s ≠ s) ∨ (q.s = s ∧ Rw w' (fun j => j = q.b) (some ⟨q.b, q.o, none⟩) q.l.length q.cap 1 (cells q.l) ∧
      ((M q.b ∧ q.b ≠ g ∧ q.b ≠ be ∧ q.b ≠ bo ∧ ∀ q' ∈ O, q'.s ≠ s → q'.b ≠ q.b) ∨ (w.heap.size ≤ q.b ∧ q.b < w'.heap.size)))) :
    CW w' g be bo (fun j => M j ∨ (w.heap.size ≤ j ∧ j < w'.heap.size)) D S W k R O' := by
  have e := fun o => hk.cell (b := g) o h.lt (fun f => (hF g f).2.1 rfl)
  have ole : ∀ q ∈ O, q.b < w.heap.size := fun q hq => h.old q.b (.inl (h.rows q hq).2.1)
  have ol := fun j (hj : M j) => h.old j (.inl hj)
  refine ⟨(e _).trans h.c0, (e _).trans h.c1, (e _).trans h.c2, (e _).trans h.c3, (e _).trans h.c4, fun o => by rw [hk.frozen _ h.lt (fun f => (hF g f).2.1 rfl)]; exact h.fz o, Nat.lt_of_lt_of_le h.lt hk.size, ⟨.inl h.mg.1, .inl h.mg.2.1, .inl h.mg.2.2⟩, h.ne,
    h.ents.keep hk (fun f => (hF be f).2.2.1 rfl), him, fun r hr => (h.dat r hr).keep hk (fun j hd f => h.dj j (hF j f).1 hd), fun p hp => ?_, fun p hp q hq hs => ?_, h.rise, hr, h.pos, h.inn, fun j hj => ?_, fun j hj hd => ?_⟩
  · rcases hO p hp with ⟨h1, h2⟩ | ⟨h1, h2, h3⟩
    · obtain ⟨r1, r2, r3⟩ := h.rows p h1
      exact ⟨r1.keep hk (fun j hj f => (hF j f).2.2.2 p h1 h2 hj.symm), .inl r2, r3⟩
    · refine ⟨h2, ?_⟩
      rcases h3 with ⟨a, b, c, d, _⟩ | ⟨a, b⟩
      · exact ⟨.inl a, b, c, d⟩
      · have := ol g h.mg.1
        have := ol be h.mg.2.1
        have := ol bo h.mg.2.2
        exact ⟨.inr ⟨a, b⟩, by omega, by omega, by omega⟩
  · rcases hO p hp with ⟨h1, h2⟩ | ⟨h1, h2, h3⟩ <;> rcases hO q hq with ⟨k1, k2⟩ | ⟨k1, k2, k3⟩
    · exact h.ap p h1 q k1 hs
    · rcases k3 with ⟨_, _, _, _, d⟩ | ⟨a, b⟩
      · exact d p h1 h2
      · have := ole p h1; omega
    · rcases h3 with ⟨_, _, _, _, d⟩ | ⟨a, b⟩
      · exact fun e => d q k1 k2 e.symm
      · have := ole q k1; omega
    · exact absurd (h1.trans k1.symm) hs
  · rcases hj with (hj | hj) | hj
    · exact Nat.lt_of_lt_of_le (ol j hj) hk.size
    · exact hj.2
    · exact Nat.lt_of_lt_of_le (h.old j (.inr hj)) hk.size
  · rcases hj with hj | hj
    · exact h.dj j hj hd
    · have := h.old j (.inr hd); omega
/-- A set's lines in their order. -/
def ordL (O : List OE) (s : Int) : List Int := match getK OE.s s O with | some p => p.l | none => []
def ordAt (O : List OE) (s : Int) : Value := match getK OE.s s O with | some p => p.val | none => .slice none 0 0
theorem CW.ordRw (h : CW w g be bo M D S W k R O) (s : Int) : ∃ (X : Nat → Prop) (a : Option Addr) (cap : Nat), ordAt O s = .slice a (ordL O s).length cap ∧ Rw w X a (ordL O s).length cap 1 (cells (ordL O s)) ∧
    ∀ j, X j → M j ∧ j ≠ g ∧ j ≠ be ∧ j ≠ bo ∧ ∀ q ∈ O, q.s ≠ s → q.b ≠ j := by
  unfold ordAt ordL
  cases hg : getK OE.s s O with
  | none => exact ⟨fun _ => False, none, 0, rfl, rw_nil _ _ _, fun j hj => hj.elim⟩
  | some p =>
    obtain ⟨hp, hps⟩ := getK_some hg
    obtain ⟨r1, r2, r3, r4, r5⟩ := h.rows p hp
    exact ⟨fun j => j = p.b, _, _, rfl, r1, fun j hj => by subst hj; exact ⟨r2, r3, r4, r5, fun q hq hs => h.ap q hq p hp (fun e => hs (e.trans hps))⟩⟩
end
end Go.Proofs.Ytfobgkkmbacfjaa
