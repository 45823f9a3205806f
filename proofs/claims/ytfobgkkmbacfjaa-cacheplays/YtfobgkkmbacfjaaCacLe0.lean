/- What CacheLeast has beside its cache: two lists in an array, each a set's lines in the order of their use. Nothing of the program is named here. -/
import Derived.Test.YtfobgkkmbacfjaaCacMath
namespace Go.Proofs.Ytfobgkkmbacfjaa
open Go.RowKit Go.Maps
set_option linter.unusedVariables false

theorem CO.u {w wx : World} {g : Nat} {X : Nat → Prop} {S W k : Int} {L : List En} (h : CO w wx g X S W k L) : ∀ e ∈ L, e.u ≤ k := by
  obtain ⟨M, D, ⟨be, bo, R, O, h1, h2, h3⟩, hc⟩ := h.c
  exact h3.u
/-- The test writes what is its own, and has more then. -/
theorem CO.step {w wx wy : World} {g : Nat} {X Y F : Nat → Prop} {S W k : Int} {L : List En} (h : CO w wx g X S W k L) (hk : Keep F wx wy) (hF : ∀ j, F j → w.heap.size ≤ j ∧ (X j ∨ wx.heap.size ≤ j)) (hY : ∀ j, Y j → (X j ∨ wx.heap.size ≤ j) ∧ j < wy.heap.size) : CO w wy g Y S W k L := by
  obtain ⟨M, D, c, hc⟩ := h.c
  refine ⟨h.bel.trans (hk.below (fun j hj => (hF j hj).1) h.bel.size), ⟨M, D, c.keep hk (fun j hj hf => ?_), fun j hj => ⟨(hc j hj).1, fun hy => ?_⟩⟩, fun j hj => (hY j hj).2⟩
  · rcases (hF j hf).2 with hx | hn
    · exact (hc j hj).2 hx
    · have := c.old j hj; omega
  · rcases (hY j hy).1 with hx | hn
    · exact (hc j hj).2 hx
    · have := c.old j hj; omega
section
variable {S s k : Int} {L : List En} {o : List Int} {x : En} {l : Int}
/-- A line goes, out of its set's order. -/
theorem OrdOf.del {t : Nat} (hr : RiseK nOf L) (h : OrdOf S L s o) (ht : o[t]? = some l) : OrdOf S (delK nOf l L) s (o.eraseIdx t) := by
  have hnd := h.nodup hr
  obtain ⟨es, h1, h2, h3⟩ := h
  refine ⟨es.filter (fun a => decide (a.n ≠ l)), ?_, ?_, List.Pairwise.sublist List.filter_sublist h3⟩
  · rw [erase_filter hnd ht, ← h1, List.filter_map]
    rfl
  · have e : inSet S (delK nOf l L) s = (inSet S L s).filter (fun a => decide (a.n ≠ l)) := by
      unfold inSet delK
      rw [List.filter_filter, List.filter_filter]
      apply List.filter_congr
      intro a _
      exact Bool.and_comm _ _
    rw [e]
    exact h2.filter _
/-- .. and the other ones stay. -/
theorem OrdOf.delo (h : OrdOf S L s o) (hs : setI S l ≠ s) : OrdOf S (delK nOf l L) s o := by
  obtain ⟨es, h1, h2, h3⟩ := h
  refine ⟨es, h1, ?_, h3⟩
  have e : inSet S (delK nOf l L) s = inSet S L s := by
    unfold inSet delK
    rw [List.filter_filter]
    apply List.filter_congr
    intro a _
    by_cases e : a.n = l
    · simp [e, hs]
    · simp [e]
  rw [e]
  exact h2
theorem OrdOf.new (h : OrdOf S L s o) (hn : ∀ e ∈ L, e.n ≠ x.n) (hu : ∀ e ∈ L, e.u < x.u) (hs : setI S x.n = s) : OrdOf S (putK nOf x L) s (o ++ [x.n]) := by
  obtain ⟨es, h1, h2, h3⟩ := h
  have hi := inSet_put (S := S) (L := L) x s
  rw [delK_none hn, if_pos hs] at hi
  refine ⟨es ++ [x], by rw [List.map_append, h1]; rfl, ?_, ?_⟩
  · exact (List.perm_append_comm.trans (List.Perm.append_left _ h2)).trans hi.symm
  · rw [List.pairwise_append]
    refine ⟨h3, List.pairwise_singleton _ _, fun a ha b hb => ?_⟩
    rw [List.mem_singleton.1 hb]
    exact hu a (List.mem_filter.1 (h2.mem_iff.1 ha)).1
theorem OrdOf.newo (h : OrdOf S L s o) (hn : ∀ e ∈ L, e.n ≠ x.n) (hs : setI S x.n ≠ s) : OrdOf S (putK nOf x L) s o := by
  obtain ⟨es, h1, h2, h3⟩ := h
  have hi := inSet_put (S := S) (L := L) x s
  rw [delK_none hn, if_neg hs, List.nil_append] at hi
  exact ⟨es, h1, h2.trans hi.symm, h3⟩
theorem OrdOf.mem (h : OrdOf S L s o) : l ∈ o ↔ ∃ e ∈ L, e.n = l ∧ setI S l = s := by
  obtain ⟨es, h1, h2, _⟩ := h
  rw [← h1, List.mem_map]
  constructor
  · rintro ⟨a, ha, rfl⟩
    obtain ⟨m1, m2⟩ := List.mem_filter.1 (h2.mem_iff.1 ha)
    exact ⟨a, m1, rfl, of_decide_eq_true m2⟩
  · rintro ⟨e, he, rfl, hs⟩
    exact ⟨e, h2.mem_iff.2 (List.mem_filter.2 ⟨he, decide_eq_true hs⟩), rfl⟩
theorem OrdOf.has (h : OrdOf S L s o) (hs : setI S l = s) : hasL L l = decide (l ∈ o) := by
  rw [Bool.eq_iff_iff, decide_eq_true_iff, h.mem]
  unfold hasL
  rw [getK_isSome]
  exact ⟨fun ⟨e, h1, h2⟩ => ⟨e, h1, h2, hs⟩, fun ⟨e, h1, h2, _⟩ => ⟨e, h1, h2⟩⟩
/-- Who was used first is the victim. -/
theorem OrdOf.vic {v n : Int} {ok : Bool} (h : OrdOf S L s o) (hs : setI S n = s) (hv : IsVic S L n v ok) (h0 : 0 < o.length) : ok = true ∧ o[0]? = some v := by
  obtain ⟨es, h1, h2, h3⟩ := h
  rw [← hs] at h2
  rcases hv with ⟨_, _, hn⟩ | ⟨hok, e, he, hev, hmin⟩
  · rw [hn] at h2
    rw [← h1, h2.eq_nil] at h0
    simp at h0
  · refine ⟨hok, ?_⟩
    cases es with
    | nil => rw [← h1] at h0; simp at h0
    | cons a es =>
      rw [← h1]
      have ha := h2.mem_iff.1 (List.mem_cons_self ..)
      by_cases e' : a = e
      · rw [e', ← hev]; rfl
      · exfalso
        have g1 := hmin a ha e'
        rcases List.mem_cons.1 (h2.mem_iff.2 he) with rfl | hm
        · exact e' rfl
        · have := List.rel_of_pairwise_cons h3 hm; omega
end
theorem ord_use {S s : Int} {L : List En} {q : List Int} {l : Int} {x : En} {t : Nat} (hr : RiseK nOf L) (h : OrdOf S L s q) (ht : q[t]? = some l) (hx : x.n = l) (hu : ∀ e ∈ L, e.u < x.u) (hs : setI S l = s) : OrdOf S (putK nOf x L) s (q.eraseIdx t ++ [l]) := by
  subst hx
  rw [← putK_delK x L]
  exact (h.del hr ht).new (fun e he => (mem_delK.1 he).2) (fun e he => hu e (mem_delK.1 he).1) hs
theorem ord_use_o {S s : Int} {L : List En} {q : List Int} {l : Int} {x : En} (h : OrdOf S L s q) (hx : x.n = l) (hs : setI S l ≠ s) : OrdOf S (putK nOf x L) s q := by
  subst hx
  rw [← putK_delK x L]
  exact (h.delo hs).newo (fun e he => (mem_delK.1 he).2) hs
theorem co_full_b {w wx : World} {g : Nat} {X : Nat → Prop} {S W k : Int} {L : List En} (h : CO w wx g X S W k L) {n : Int} (hn : In64 n) {fb : Bool} (hf : fullL S W L n = fb) : Calls Try.prog 25 #[.pointer (some ⟨g, 0, none⟩), .int .i64 n] wx fun e w' => e = .returned (.bool fb) ∧ Below wx.heap.size wx w' := hf ▸ co_full h hn
theorem two_sets {L : List En} (h : ∀ e ∈ L, 0 ≤ e.n) : L.length = (inSet 2 L 0).length + (inSet 2 L 1).length := by
  induction L with
  | nil => rfl
  | cons x L ih =>
    have ih := ih (fun e he => h e (List.mem_cons_of_mem _ he))
    have hx := h x (List.mem_cons_self ..)
    have e : setI 2 x.n = x.n % 2 := by
      unfold setI
      rw [if_neg (by omega), Int.tmod_eq_emod_of_nonneg hx]
    unfold inSet at ih ⊢
    have hm : x.n % 2 = 0 ∨ x.n % 2 = 1 := by omega
    rcases hm with hm | hm
    · rw [List.filter_cons_of_pos (by rw [e, hm]; rfl), List.filter_cons_of_neg (by rw [e, hm]; simp)]
      simp only [List.length_cons]
      omega
    · rw [List.filter_cons_of_neg (by rw [e, hm]; simp), List.filter_cons_of_pos (by rw [e, hm]; rfl)]
      simp only [List.length_cons]
      omega
/-- A slice without its first. -/
theorem rw_rest {w : World} {X : Nat → Prop} {b o n cap : Nat} {z : List Int} (h : Rw w X (some ⟨b, o, none⟩) n cap 1 (cells z)) (hn : 0 < n) : Rw w X (if cap = 1 then some ⟨b, o, none⟩ else some ⟨b, o + 1, none⟩) (n - 1) (cap - 1) 1 (cells (z.drop 1)) := by
  have hl := h.len
  have hle := h.le
  have hm := h.max
  have hz : (cells (z.drop 1)).length = (cells z).length - 1 := by simp [cells]
  refine ⟨by omega, by omega, by omega, fun e => (by split at e <;> cases e), ?_⟩
  rcases h.row with h0 | ⟨b', o', e, hs, hb, hc, hf⟩
  · omega
  · simp at e
    obtain ⟨rfl, rfl⟩ := e
    by_cases h1 : cap = 1
    · exact .inl (by omega)
    · rw [if_neg h1]
      refine .inr ⟨b, o + 1, rfl, hs, hb, fun i u hu => ?_, fun i hi => ?_⟩
      · rw [Nat.add_assoc]
        refine hc _ u ?_
        unfold cells at hu ⊢
        rw [List.map_drop, List.getElem?_drop] at hu
        exact hu
      · rw [Nat.add_assoc]
        exact hf _ (by omega)
/-- The array at go: two slices, in blocks of Y 0 and of Y 1. -/
structure LE (w wr : World) (g go : Nat) (Y : Nat → Nat → Prop) (W k : Int) (L : List En) (O : Nat → List Int) (A : Nat → Option Addr) (cp : Nat → Nat) : Prop where
  c : CO w wr g (fun j => j = go ∨ Y 0 j ∨ Y 1 j) 2 W k L
  cell : ∀ s, s < 2 → wr.cell? ⟨go, s, none⟩ = some (.slice (A s) (O s).length (cp s))
  fz : ∀ s, s < 2 → wr.frozen? ⟨go, s, none⟩ = false
  row : ∀ s, s < 2 → Rw wr (Y s) (A s) (O s).length (cp s) 1 (cells (O s))
  dj : ∀ j, Y 0 j → ¬ Y 1 j
  ng : ∀ s j, s < 2 → Y s j → j ≠ go
  lo : w.heap.size ≤ go ∧ ∀ s j, s < 2 → Y s j → w.heap.size ≤ j
theorem two {s : Nat} (h : s < 2) : s = 0 ∨ s = 1 := by omega
section
variable {w wr wx wy : World} {g go : Nat} {Y : Nat → Nat → Prop} {W k k' : Int} {L L' : List En} {O : Nat → List Int} {A : Nat → Option Addr} {cp : Nat → Nat}
theorem LE.inX {s j : Nat} (hs : s < 2) (h : Y s j) : j = go ∨ Y 0 j ∨ Y 1 j := by
  rcases two hs with rfl | rfl
  · exact .inr (.inl h)
  · exact .inr (.inr h)
theorem LE.below (h : LE w wx g go Y W k L O A cp) (hb : Below wx.heap.size wx wy) : LE w wy g go Y W k L O A cp :=
  have hg := h.c.xl go (.inl rfl)
  ⟨h.c.below hb, fun s hs => (hb.cell (p := ⟨go, s, none⟩) hg).trans (h.cell s hs), fun s hs => (hb.frozen (p := ⟨go, s, none⟩) hg).trans (h.fz s hs), fun s hs => (h.row s hs).below hb, h.dj, h.ng, h.lo⟩
/-- The cache has turned. -/
theorem LE.cache (h : LE w wx g go Y W k L O A cp) (hk : Keep (NX w (fun j => j = go ∨ Y 0 j ∨ Y 1 j)) wx wy) (hc : CO w wy g (fun j => j = go ∨ Y 0 j ∨ Y 1 j) 2 W k' L') : LE w wy g go Y W k' L' O A cp :=
  have hg := h.c.xl go (.inl rfl)
  ⟨hc, fun s hs => (hk.cell s hg (fun f => f.2 (.inl rfl))).trans (h.cell s hs), fun s hs => (hk.frozen s hg (fun f => f.2 (.inl rfl))).trans (h.fz s hs), fun s hs => (h.row s hs).keep hk (fun j hj f => f.2 (LE.inX hs hj)), h.dj, h.ng, h.lo⟩
/-- One of the two is another one. -/
theorem LE.set (h : LE w wx g go Y W k L O A cp) {s : Nat} (hs : s < 2) {a' : Option Addr} {n' c' : Nat} {o' : List Int} (hk : Keep (Y s) wx wy) (hr : Rw wy (fun j => Y s j ∨ wx.heap.size ≤ j) a' n' c' 1 (cells o')) (hn : o'.length = n') :
    ∃ Y', LE w (wy.setCell ⟨go, s, none⟩ (.slice a' n' c')) g go Y' W k L (fun t => if t = s then o' else O t) (fun t => if t = s then a' else A t) (fun t => if t = s then c' else cp t) := by
  subst hn
  have hg := h.c.xl go (.inl rfl)
  have hgy : go < wy.heap.size := Nat.lt_of_lt_of_le hg hk.size
  have hng : ¬ Y s go := fun f => h.ng s go hs f rfl
  have K2 : Keep (fun j => Y s j ∨ j = go) wx (wy.setCell ⟨go, s, none⟩ (.slice a' o'.length c')) := (hk.mono (fun j _ hj => .inl hj)).setCell (p := ⟨go, s, none⟩) (.inl (.inr rfl)) _
  have hws := h.c.bel.size
  have hYl : ∀ t j, t < 2 → Y t j → j < wx.heap.size := fun t j ht hj => h.c.xl j (LE.inX ht hj)
  have hcs : ∀ t, t < 2 → (wy.cell? ⟨go, t, none⟩).isSome = true ∧ wy.frozen? ⟨go, t, none⟩ = false := fun t ht => ⟨by rw [hk.cell t hg hng, h.cell t ht]; rfl, (hk.frozen t hg hng).trans (h.fz t ht)⟩
  refine ⟨fun t j => if t = s then (Y s j ∨ (wx.heap.size ≤ j ∧ j < wy.heap.size)) else Y t j, h.c.step K2 (fun j hj => ?_) (fun j hj => ?_), fun t ht => ?_, fun t ht => ?_, fun t ht => ?_, fun j h0 h1 => ?_, fun t j ht hj => ?_, h.lo.1, fun t j ht hj => ?_⟩
  · rcases hj with hj | rfl
    · exact ⟨h.lo.2 s j hs hj, .inl (LE.inX hs hj)⟩
    · exact ⟨h.lo.1, .inl (.inl rfl)⟩
  · have hsz : (wy.setCell ⟨go, s, none⟩ (.slice a' o'.length c')).heap.size = wy.heap.size := by simp
    rw [hsz]
    have aux : ∀ t, t < 2 → (if t = s then (Y s j ∨ (wx.heap.size ≤ j ∧ j < wy.heap.size)) else Y t j) → ((j = go ∨ Y 0 j ∨ Y 1 j) ∨ wx.heap.size ≤ j) ∧ j < wy.heap.size := fun t ht hj => by
      by_cases e : t = s
      · rw [if_pos e] at hj
        rcases hj with hj | hj
        · exact ⟨.inl (LE.inX hs hj), Nat.lt_of_lt_of_le (hYl s j hs hj) hk.size⟩
        · exact ⟨.inr hj.1, hj.2⟩
      · rw [if_neg e] at hj
        exact ⟨.inl (LE.inX ht hj), Nat.lt_of_lt_of_le (hYl t j ht hj) hk.size⟩
    rcases hj with rfl | hj | hj
    · exact ⟨.inl (.inl rfl), hgy⟩
    · exact aux 0 (by omega) hj
    · exact aux 1 (by omega) hj
  · by_cases e : t = s
    · subst e
      simp only [if_pos]
      exact World.cell?_setCell_same' _ _ _ (hcs t ht).1
    · simp only [if_neg e]
      rw [World.cell?_setCell_other _ _ _ _ (by simp <;> omega), hk.cell t hg hng]
      exact h.cell t ht
  · rw [World.frozen?_setCell]
    exact (hcs t ht).2
  · by_cases e : t = s
    · subst e
      simp only [if_pos]
      refine (hr.keep (Keep.one wy go t _) (fun j hj f => ?_)).imp (fun j hl hj => ?_)
      · subst f
        rcases hj with hj | hj
        · exact hng hj
        · omega
      · rcases hj with hj | hj
        · exact .inl hj
        · exact .inr ⟨hj, by simpa using hl⟩
    · simp only [if_neg e]
      have hts : ∀ j, Y t j → ¬ Y s j := fun j hj hs' => by
        rcases two ht with rfl | rfl <;> rcases two hs with rfl | rfl
        · exact e rfl
        · exact h.dj j hj hs'
        · exact h.dj j hs' hj
        · exact e rfl
      exact ((h.row t ht).keep hk hts).keep (Keep.one wy go s _) (fun j hj f => h.ng t j ht hj f)
  · have := hYl 0 j (by omega)
    have := hYl 1 j (by omega)
    have hd := h.dj j
    rcases two hs with rfl | rfl
    · rw [if_pos rfl] at h0
      rw [if_neg (by omega)] at h1
      rcases h0 with h0 | h0
      · exact hd h0 h1
      · have := hYl 1 j (by omega) h1; omega
    · rw [if_neg (by omega)] at h0
      rw [if_pos rfl] at h1
      rcases h1 with h1 | h1
      · exact hd h0 h1
      · have := hYl 0 j (by omega) h0; omega
  · by_cases e : t = s
    · rw [if_pos e] at hj
      rcases hj with hj | hj
      · exact h.ng s j hs hj
      · omega
    · rw [if_neg e] at hj
      exact h.ng t j ht hj
  · by_cases e : t = s
    · rw [if_pos e] at hj
      rcases hj with hj | hj
      · exact h.lo.2 s j hs hj
      · omega
    · rw [if_neg e] at hj
      exact h.lo.2 t j ht hj
end
end Go.Proofs.Ytfobgkkmbacfjaa
