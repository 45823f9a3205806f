/- What TurnsFair has beside its turns: three lists in an array, who asked for each line (FE); on plain data: who is to come for each line (FQ). Nothing of the program is named here. -/
import Derived.Test.YtnpgpnngpeedhaaTuWk
namespace Go.Proofs.Ytnpgpnngpeedhaa
open Go.RowKit Go.Maps
set_option linter.unusedVariables false

/-- The blocks of the array and its rows. -/
def XA (go : Nat) (Y : Nat → Nat → Prop) (j : Nat) : Prop := j = go ∨ ∃ s, s < 3 ∧ Y s j
structure FE (w wr : World) (g go : Nat) (Y : Nat → Nat → Prop) (n : Nat) (own : Int → Int) (wt : Int → List (Int × Int)) (O : Nat → List Int) (A : Nat → Option Addr) (cp : Nat → Nat) : Prop where
  c : TO w wr g (XA go Y) n own wt
  cell : ∀ s, s < 3 → wr.cell? ⟨go, s, none⟩ = some (.slice (A s) (O s).length (cp s))
  fz : ∀ s, s < 3 → wr.frozen? ⟨go, s, none⟩ = false
  row : ∀ s, s < 3 → Rw wr (Y s) (A s) (O s).length (cp s) 1 (cells (O s))
  dj : ∀ s t j, s < 3 → t < 3 → s ≠ t → Y s j → ¬ Y t j
  ng : ∀ s j, s < 3 → Y s j → j ≠ go
  lo : w.heap.size ≤ go ∧ ∀ s j, s < 3 → Y s j → w.heap.size ≤ j
section
variable {w wr wx wy : World} {g go n n' : Nat} {Y : Nat → Nat → Prop} {own own' : Int → Int} {wt wt' : Int → List (Int × Int)} {O : Nat → List Int} {A : Nat → Option Addr} {cp : Nat → Nat}
theorem FE.below (h : FE w wx g go Y n own wt O A cp) (hb : Below wx.heap.size wx wy) : FE w wy g go Y n own wt O A cp :=
  have hg := h.c.xl go (.inl rfl)
  ⟨h.c.below hb, fun s hs => (hb.cell (p := ⟨go, s, none⟩) hg).trans (h.cell s hs), fun s hs => (hb.frozen (p := ⟨go, s, none⟩) hg).trans (h.fz s hs), fun s hs => (h.row s hs).below hb, h.dj, h.ng, h.lo⟩
/-- The turns have turned. -/
theorem FE.turn (h : FE w wx g go Y n own wt O A cp) (hk : Keep (NX w (XA go Y)) wx wy) (hc : TO w wy g (XA go Y) n' own' wt') : FE w wy g go Y n' own' wt' O A cp :=
  have hg := h.c.xl go (.inl rfl)
  ⟨hc, fun s hs => (hk.cell s hg (fun f => f.2 (.inl rfl))).trans (h.cell s hs), fun s hs => (hk.frozen s hg (fun f => f.2 (.inl rfl))).trans (h.fz s hs), fun s hs => (h.row s hs).keep hk (fun j hj f => f.2 (.inr ⟨s, hs, hj⟩)), h.dj, h.ng, h.lo⟩
/-- One of the three is another one. -/
theorem FE.set (h : FE w wx g go Y n own wt O A cp) {s : Nat} (hs : s < 3) {a' : Option Addr} {n' c' : Nat} {o' : List Int} (hk : Keep (Y s) wx wy) (hr : Rw wy (fun j => Y s j ∨ wx.heap.size ≤ j) a' n' c' 1 (cells o')) (hn : o'.length = n') :
    ∃ Y', FE w (wy.setCell ⟨go, s, none⟩ (.slice a' n' c')) g go Y' n own wt (fun t => if t = s then o' else O t) (fun t => if t = s then a' else A t) (fun t => if t = s then c' else cp t) := by
  subst hn
  have hg := h.c.xl go (.inl rfl)
  have hgy : go < wy.heap.size := Nat.lt_of_lt_of_le hg hk.size
  have hng : ¬ Y s go := fun f => h.ng s go hs f rfl
  have K2 : Keep (fun j => Y s j ∨ j = go) wx (wy.setCell ⟨go, s, none⟩ (.slice a' o'.length c')) := (hk.mono (fun j _ hj => .inl hj)).setCell (p := ⟨go, s, none⟩) (.inl (.inr rfl)) _
  have hws := h.c.bel.size
  have hYl : ∀ t j, t < 3 → Y t j → j < wx.heap.size := fun t j ht hj => h.c.xl j (.inr ⟨t, ht, hj⟩)
  have hsz : (wy.setCell ⟨go, s, none⟩ (.slice a' o'.length c')).heap.size = wy.heap.size := by simp
  have hks := hk.size
  have hrow : ∀ t, t < 3 → t ≠ s → Rw (wy.setCell ⟨go, s, none⟩ (.slice a' o'.length c')) (Y t) (A t) (O t).length (cp t) 1 (cells (O t)) := fun t ht e => (h.row t ht).keep K2 (fun j hj f => by
    rcases f with f | f
    · exact h.dj t s j ht hs e hj f
    · exact h.ng t j ht hj f)
  refine ⟨fun t j => if t = s then (Y s j ∨ (wx.heap.size ≤ j ∧ j < wy.heap.size)) else Y t j, h.c.wrgrow K2 (fun j hj => ?_) (fun j hj => ?_), fun t ht => ?_, fun t ht => ?_, fun t ht => ?_, fun t u j ht hu htu h1 h2 => ?_, fun t j ht hj => ?_, h.lo.1, fun t j ht hj => ?_⟩
  · rcases hj with hj | rfl
    · exact ⟨h.lo.2 s j hs hj, .inl (.inr ⟨s, hs, hj⟩)⟩
    · exact ⟨h.lo.1, .inl (.inl rfl)⟩
  · rw [hsz]
    rcases hj with rfl | ⟨t, ht, hj⟩
    · exact ⟨.inl (.inl rfl), hgy⟩
    · by_cases e : t = s
      · simp only [if_pos e] at hj
        rcases hj with hj | hj
        · have := hYl s j hs hj
          exact ⟨.inl (.inr ⟨s, hs, hj⟩), by omega⟩
        · exact ⟨.inr hj.1, hj.2⟩
      · simp only [if_neg e] at hj
        have := hYl t j ht hj
        exact ⟨.inl (.inr ⟨t, ht, hj⟩), by omega⟩
  · by_cases e : t = s
    · subst e
      simp only [if_pos]
      exact World.cell?_setCell_same' _ _ _ (by rw [hk.cell t hg hng, h.cell t hs]; rfl)
    · simp only [if_neg e]
      rw [World.cell?_setCell_other _ _ _ _ (by simp <;> omega), hk.cell t hg hng]
      exact h.cell t ht
  · rw [World.frozen?_setCell, hk.frozen t hg hng]
    exact h.fz t ht
  · by_cases e : t = s
    · subst e
      simp only [if_pos]
      refine (hr.imp (T := fun j => Y t j ∨ (wx.heap.size ≤ j ∧ j < wy.heap.size)) (fun j hj hh => hh.imp (fun h => h) (fun h => ⟨h, hj⟩))).keep (Keep.one wy go t _) (fun j hj e => ?_)
      rcases hj with hj | hj
      · exact h.ng t j hs hj e
      · omega
    · simp only [if_neg e]
      exact hrow t ht e
  · by_cases e1 : t = s <;> by_cases e2 : u = s
    · exact htu (e1.trans e2.symm)
    · simp only [if_pos e1, if_neg e2] at h1 h2
      rcases h1 with h1 | h1
      · exact h.dj s u j hs hu (fun e => e2 e.symm) h1 h2
      · have := hYl u j hu h2; omega
    · simp only [if_neg e1, if_pos e2] at h1 h2
      rcases h2 with h2 | h2
      · exact h.dj t s j ht hs e1 h1 h2
      · have := hYl t j ht h1; omega
    · simp only [if_neg e1, if_neg e2] at h1 h2
      exact h.dj t u j ht hu htu h1 h2
  · by_cases e : t = s
    · simp only [if_pos e] at hj
      rcases hj with hj | hj
      · exact h.ng s j hs hj
      · omega
    · simp only [if_neg e] at hj
      exact h.ng t j ht hj
  · by_cases e : t = s
    · simp only [if_pos e] at hj
      rcases hj with hj | hj
      · exact h.lo.2 s j hs hj
      · omega
    · simp only [if_neg e] at hj
      exact h.lo.2 t j ht hj
/-- A number of one of the three. -/
theorem FE.read (h : FE w wx g go Y n own wt O A cp) {q i m cq b o : Nat} {y : Int} (hq : q < 3) (hm : (O q).length = m) (ha : A q = some ⟨b, o, none⟩) (hc : cp q = cq) (hi : i < m) (hy : (O q)[i]?.getD 0 = y) : wx.cell? ⟨b, o + i, none⟩ = some (.int .i64 y) ∧ b < wx.heap.size := by
  have rw0 := h.row q hq
  rw [hm, ha, hc] at rw0
  obtain ⟨b', o', e, hb, hcell⟩ := (slv_cells rw0.slv).at hi
  simp at e
  obtain ⟨rfl, rfl⟩ := e
  rw [hy] at hcell
  exact ⟨hcell, hb⟩
end
/-- P s: who has line s, and who waits for it behind. -/
structure FQ (own : Int → Int) (wt : Int → List (Int × Int)) (P : Nat → List Int) : Prop where
  ho : ∀ s : Nat, s < 3 → own s = (P s).headD (-1)
  hw : ∀ s : Nat, s < 3 → (wt s).map Prod.fst = (P s).tail
  hr : ∀ s : Nat, s < 3 → ∀ x ∈ P s, 0 ≤ x ∧ x < 9
  he : ∀ k, ¬ (0 ≤ k ∧ k < 3) → wt k = []
section
variable {own : Int → Int} {wt : Int → List (Int × Int)} {P : Nat → List Int} {l : Nat} {x y d : Int} {r : List Int}
theorem fq_first : FQ (fun _ => -1) (fun _ => []) (fun _ => []) := ⟨fun s _ => rfl, fun s _ => rfl, fun s _ x hx => (by cases hx), fun k _ => rfl⟩
theorem FQ.none (h : FQ own wt P) (hl : l < 3) (hP : P l = []) : own l = -1 ∧ wt l = [] := by
  have h1 := h.ho l hl
  have h2 := h.hw l hl
  rw [hP] at h1 h2
  exact ⟨h1, by simpa using h2⟩
theorem FQ.some (h : FQ own wt P) (hl : l < 3) (hP : P l = x :: r) : own l = x ∧ (wt l).map Prod.fst = r ∧ 0 ≤ x ∧ x < 9 := by
  have h1 := h.ho l hl
  have h2 := h.hw l hl
  rw [hP] at h1 h2
  exact ⟨h1, h2, h.hr l hl x (by rw [hP]; simp)⟩
theorem FQ.new (h : FQ own wt P) (hl : l < 3) (hP : P l = []) (hx : 0 ≤ x ∧ x < 9) : FQ (upd own l x) wt (fun t => if t = l then P l ++ [x] else P t) := by
  refine ⟨fun s hs => ?_, fun s hs => ?_, fun s hs y hy => ?_, h.he⟩
  · unfold upd
    by_cases e : s = l
    · subst e; rw [if_pos rfl, if_pos rfl, hP]; rfl
    · rw [if_neg (by omega), if_neg e]; exact h.ho s hs
  · by_cases e : s = l
    · subst e; rw [if_pos rfl, h.hw s hs, hP]; rfl
    · rw [if_neg e]; exact h.hw s hs
  · by_cases e : s = l
    · subst e
      rw [if_pos rfl, hP] at hy
      simp at hy
      subst hy; exact hx
    · rw [if_neg e] at hy; exact h.hr s hs y hy
theorem FQ.more (h : FQ own wt P) (hl : l < 3) (hP : P l ≠ []) (hx : 0 ≤ x ∧ x < 9) : FQ own (upd wt l (wt l ++ [(x, d)])) (fun t => if t = l then P l ++ [x] else P t) := by
  obtain ⟨y, r, hr⟩ := List.exists_cons_of_ne_nil hP
  refine ⟨fun s hs => ?_, fun s hs => ?_, fun s hs y hy => ?_, fun k hk => ?_⟩
  · rw [h.ho s hs]
    by_cases e : s = l
    · subst e; rw [if_pos rfl, hr]; rfl
    · rw [if_neg e]
  · unfold upd
    by_cases e : s = l
    · subst e; rw [if_pos rfl, if_pos rfl, List.map_append, h.hw s hs, hr]; rfl
    · rw [if_neg (by omega), if_neg e]; exact h.hw s hs
  · by_cases e : s = l
    · subst e
      rw [if_pos rfl] at hy
      rcases List.mem_append.1 hy with hy | hy
      · exact h.hr s hs y hy
      · rw [List.mem_singleton.1 hy]; exact hx
    · rw [if_neg e] at hy; exact h.hr s hs y hy
  · unfold upd
    rw [if_neg (by omega)]
    exact h.he k hk
/-- The last one lets go. -/
theorem FQ.last (h : FQ own wt P) (hl : l < 3) (hP : P l = [x]) : FQ (upd own l (-1)) wt (fun t => if t = l then [] else P t) := by
  refine ⟨fun s hs => ?_, fun s hs => ?_, fun s hs y hy => ?_, h.he⟩
  · unfold upd
    by_cases e : s = l
    · subst e; rw [if_pos rfl, if_pos rfl]; rfl
    · rw [if_neg (by omega), if_neg e]; exact h.ho s hs
  · by_cases e : s = l
    · subst e; rw [if_pos rfl, h.hw s hs, hP]; rfl
    · rw [if_neg e]; exact h.hw s hs
  · by_cases e : s = l
    · rw [if_pos e] at hy; cases hy
    · rw [if_neg e] at hy; exact h.hr s hs y hy
/-- One lets go, and the next one has it. -/
theorem FQ.next (h : FQ own wt P) (hl : l < 3) (hP : P l = x :: y :: r) {t : List (Int × Int)} (ht : wt l = (y, d) :: t) : FQ (upd (upd own l (-1)) l y) (upd wt l t) (fun t => if t = l then y :: r else P t) := by
  refine ⟨fun s hs => ?_, fun s hs => ?_, fun s hs z hz => ?_, fun k hk => ?_⟩
  · unfold upd
    by_cases e : s = l
    · subst e; rw [if_pos rfl, if_pos rfl]; rfl
    · rw [if_neg (by omega), if_neg (by omega), if_neg e]; exact h.ho s hs
  · unfold upd
    by_cases e : s = l
    · subst e
      rw [if_pos rfl, if_pos rfl]
      have := h.hw s hs
      rw [hP, ht] at this
      simpa using this
    · rw [if_neg (by omega), if_neg e]; exact h.hw s hs
  · by_cases e : s = l
    · subst e
      rw [if_pos rfl] at hz
      exact h.hr s hs z (by rw [hP]; exact List.mem_cons_of_mem _ hz)
    · rw [if_neg e] at hz; exact h.hr s hs z hz
  · unfold upd
    rw [if_neg (by omega)]
    exact h.he k hk
end
/-- Ask of a line, whether it is the first one's or not. -/
theorem fe_ask {w wx : World} {g go n l : Nat} {Y : Nat → Nat → Prop} {own : Int → Int} {wt : Int → List (Int × Int)} {O : Nat → List Int} {A : Nat → Option Addr} {cp : Nat → Nat} (F : FE w wx g go Y n own wt O A cp) (Q : FQ own wt O) (hl : l < 3) {u : Int} (hu : 0 ≤ u ∧ u < 9) (d : Int) (hn : n ≤ 1000000) {B : Bool} (hB : (((O l).length : Int) == 0) = B) :
    Calls Try.prog 9 #[.pointer (some ⟨g, 0, none⟩), .int .i64 (l : Int), .int .i64 u, .int .i64 d] wx fun e w' => e = .returned (.bool B) ∧
      ∃ own' wt', FE w w' g go Y (n + 1) own' wt' O A cp ∧ FQ own' wt' (fun t => if t = l then O l ++ [u] else O t) := by
  have hil : In64 (l : Int) := ⟨by omega, by omega⟩
  by_cases h0 : O l = []
  · obtain ⟨h1, h2⟩ := Q.none hl h0
    refine (to_ask_own F.c d hil (by omega) hu.1 h1 h2 hn).mono ?_
    rintro e w' ⟨rfl, hk, T⟩
    rw [h0] at hB
    exact ⟨by rw [← hB]; rfl, _, _, F.turn hk T, Q.new hl h0 hu⟩
  · have h1 : own l ≠ -1 := by
      obtain ⟨y, r, hr⟩ := List.exists_cons_of_ne_nil h0
      have := Q.some hl hr
      omega
    refine (to_ask_wait F.c d hil (by omega) hu.1 (.inl h1) hn).mono ?_
    rintro e w' ⟨rfl, hk, T⟩
    have : 0 < (O l).length := List.length_pos_iff.2 h0
    exact ⟨by rw [← hB, show (((O l).length : Int) == 0) = false by simp; exact h0], _, _, F.turn hk T, Q.more hl h0 hu⟩
/-- Lines below q have had their turns. -/
def restO (q : Nat) (O : Nat → List Int) (t : Nat) : List Int := if t < q then [] else O t
/-- .. and of line q the first i. -/
def midO (q i : Nat) (O : Nat → List Int) (t : Nat) : List Int := if t < q then [] else if t = q then (O q).drop i else O t
theorem restO_zero (O : Nat → List Int) : restO 0 O = O := by funext t; unfold restO; rw [if_neg (by omega)]
theorem midO_zero (q : Nat) (O : Nat → List Int) : midO q 0 O = restO q O := by
  funext t
  unfold midO restO
  by_cases h : t < q
  · rw [if_pos h, if_pos h]
  · rw [if_neg h, if_neg h]
    by_cases e : t = q
    · rw [if_pos e, e]; rfl
    · rw [if_neg e]
theorem midO_at (q i : Nat) (O : Nat → List Int) : midO q i O q = (O q).drop i := by unfold midO; rw [if_neg (by omega), if_pos rfl]
theorem midO_step (q i : Nat) (O : Nat → List Int) {r : List Int} (h : (O q).drop (i + 1) = r) : (fun t => if t = q then r else midO q i O t) = midO q (i + 1) O := by
  subst h
  funext t
  unfold midO
  by_cases e : t = q
  · rw [if_pos e, if_neg (by omega), if_pos e]
  · rw [if_neg e, if_neg e, if_neg e]
theorem midO_end {q i : Nat} {O : Nat → List Int} (h : (O q).length ≤ i) : midO q i O = restO (q + 1) O := by
  funext t
  unfold midO restO
  by_cases e : t = q
  · rw [if_neg (by omega), if_pos e, if_pos (by omega), List.drop_eq_nil_of_le h]
  · by_cases h2 : t < q
    · rw [if_pos h2, if_pos (by omega)]
    · rw [if_neg h2, if_neg e, if_neg (by omega)]
theorem FQ.done {own : Int → Int} {wt : Int → List (Int × Int)} {O : Nat → List Int} (h : FQ own wt (restO 3 O)) (k : Int) : wt k = [] := by
  by_cases hk : 0 ≤ k ∧ k < 3
  · obtain ⟨s, rfl⟩ : ∃ s : Nat, k = s := ⟨k.toNat, by omega⟩
    exact (h.none (l := s) (by omega) (by unfold restO; rw [if_pos (by omega)])).2
  · exact h.he k hk
end Go.Proofs.Ytnpgpnngpeedhaa
