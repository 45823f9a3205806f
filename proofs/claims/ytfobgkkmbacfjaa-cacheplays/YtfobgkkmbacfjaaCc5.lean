/- The program's cache on plain data: its orders are its entries by when they were used (Good); what Put, Touch, Drop make of both. Nothing of the program is named here. -/
import Derived.Test.YtfobgkkmbacfjaaCc2
namespace Go.Proofs.Ytfobgkkmbacfjaa
open Go.RowKit Go.Maps
set_option linter.unusedVariables false

@[reducible] def nOf (e : En) : Int := e.n
/-- The entries of a set. -/
def inSet (S : Int) (L : List En) (s : Int) : List En := L.filter (fun e => decide (setI S e.n = s))
/-- The lines l are those of the set s, by when they were used. -/
def OrdOf (S : Int) (L : List En) (s : Int) (l : List Int) : Prop := ∃ es : List En, es.map nOf = l ∧ es.Perm (inSet S L s) ∧ es.Pairwise (fun a b => a.u < b.u)
structure Good (S k : Int) (L : List En) (O : List OE) : Prop where
  rise : RiseK nOf L
  riseO : RiseK OE.s O
  ne : ∀ p ∈ O, p.l ≠ []
  ord : ∀ p ∈ O, OrdOf S L p.s p.l
  all : ∀ e ∈ L, ∃ p ∈ O, p.s = setI S e.n
  u : ∀ e ∈ L, e.u ≤ k
  k0 : 0 ≤ k
  len : (L.length : Int) ≤ k ∧ (O.length : Int) ≤ k
theorem good_nil (S : Int) : Good S 0 [] [] := ⟨List.Pairwise.nil, List.Pairwise.nil, fun p h => (by cases h), fun p h => (by cases h), fun p h => (by cases h), fun p h => (by cases h), Int.le_refl _, ⟨Int.le_refl _, Int.le_refl _⟩⟩
section
variable {S k : Int} {L : List En} {O : List OE}
theorem Good.ords (h : Good S k L O) (s : Int) : OrdOf S L s (ordL O s) := by
  unfold ordL
  cases hg : getK OE.s s O with
  | none =>
    refine ⟨[], rfl, ?_, List.Pairwise.nil⟩
    have : inSet S L s = [] := by
      unfold inSet
      rw [List.filter_eq_nil_iff]
      intro e he hs
      obtain ⟨p, hp, hps⟩ := h.all e he
      exact getK_none.1 hg p hp (hps.trans (of_decide_eq_true hs))
    rw [this]
  | some p =>
    obtain ⟨hp, hps⟩ := getK_some hg
    have := h.ord p hp
    rw [hps] at this
    exact this
theorem OrdOf.len {s : Int} {l : List Int} (h : OrdOf S L s l) : l.length = (inSet S L s).length := by
  obtain ⟨es, h1, h2, _⟩ := h
  rw [← h1, List.length_map, h2.length_eq]
theorem inSet_le (S : Int) (L : List En) (s : Int) : (inSet S L s).length ≤ L.length := List.length_filter_le _ _
theorem Good.ordsLe (h : Good S k L O) (s : Int) : ((ordL O s).length : Int) ≤ k := by
  have h1 := (h.ords s).len
  have h2 := inSet_le S L s
  have h3 := h.len.1
  omega
theorem inSet_put (x : En) (s : Int) : (inSet S (putK nOf x L) s).Perm ((if setI S x.n = s then [x] else []) ++ inSet S (delK nOf x.n L) s) := by
  have := (putK_perm (key := nOf) x L).filter (fun e => decide (setI S e.n = s))
  unfold inSet
  refine this.trans ?_
  by_cases hs : setI S x.n = s
  · rw [List.filter_cons_of_pos (by simp [hs]), if_pos hs]
    exact List.Perm.refl _
  · rw [List.filter_cons_of_neg (by simp [hs]), if_neg hs]
    exact List.Perm.refl _
/-- An entry is another one, of the same line, used when it was. -/
theorem Good.putAt (h : Good S k L O) {x e : En} (he : e ∈ L) (hn : x.n = e.n) (hu : x.u = e.u) : Good S k (putK nOf x L) O := by
  obtain ⟨f, hf⟩ : ∃ f : En → En, f = fun a => if a.n = x.n then x else a := ⟨_, rfl⟩
  have fn : ∀ a, (f a).n = a.n := fun a => by
    rw [hf]
    simp only
    split
    · exact (Eq.symm (by assumption))
    · rfl
  have fu : ∀ a ∈ L, (f a).u = a.u := fun a ha => by
    rw [hf]
    simp only
    split
    · have : a = e := rise_inj h.rise ha he ((by assumption : a.n = x.n).trans hn)
      rw [this, hu]
    · rfl
  have fe : f e = x := by rw [hf]; simp [hn]
  have hp : (putK nOf x L).Perm (L.map f) := by
    refine (putK_perm x L).trans ?_
    have h1 := (delK_one h.rise he).map f
    rw [List.map_cons, fe] at h1
    have h2 : (delK nOf (nOf e) L).map f = delK nOf (nOf x) L := by
      have e1 : nOf x = nOf e := hn
      rw [e1]
      refine (List.map_congr_left (g := id) fun a ha => ?_).trans (List.map_id _)
      have := (mem_delK.1 ha).2
      rw [hf]
      simp only
      rw [if_neg (fun e' => this (e'.trans hn))]
      rfl
    rw [h2] at h1
    exact h1
  refine ⟨rise_put h.rise, h.riseO, h.ne, fun p hpO => ?_, fun a ha => ?_, fun a ha => ?_, h.k0, ?_⟩
  · obtain ⟨es, h1, h2, h3⟩ := h.ord p hpO
    have hmem : ∀ a ∈ es, a ∈ L := fun a ha => (List.mem_filter.1 (h2.mem_iff.1 ha)).1
    refine ⟨es.map f, ?_, ?_, ?_⟩
    · rw [List.map_map, ← h1]
      exact List.map_congr_left fun a _ => fn a
    · refine (h2.map f).trans (List.Perm.trans ?_ (hp.filter (fun e => decide (setI S e.n = p.s))).symm)
      unfold inSet
      rw [List.filter_map]
      have : ((fun e : En => decide (setI S e.n = p.s)) ∘ f) = fun e => decide (setI S e.n = p.s) := by
        funext a
        simp [fn]
      rw [this]
    · rw [List.pairwise_map]
      exact h3.imp_of_mem fun {a b} ha hb hab => by rw [fu a (hmem a ha), fu b (hmem b hb)]; exact hab
  · rcases mem_putK.1 ha with rfl | ⟨ha, _⟩
    · rw [hn]; exact h.all e he
    · exact h.all a ha
  · rcases mem_putK.1 ha with rfl | ⟨ha, _⟩
    · rw [hu]; exact h.u e he
    · exact h.u a ha
  · rw [putK_len_at h.rise he hn]; exact h.len
/-- A new line, used last. -/
theorem Good.putNew (h : Good S k L O) {x : En} {p : OE} (hn : ∀ e ∈ L, e.n ≠ x.n) (hu : x.u = k + 1) (hs : p.s = setI S x.n) (hl : p.l = ordL O (setI S x.n) ++ [x.n]) : Good S (k + 1) (putK nOf x L) (putK OE.s p O) := by
  have hd : delK nOf x.n L = L := delK_none hn
  refine ⟨rise_put h.rise, rise_put h.riseO, fun q hq => ?_, fun q hq => ?_, fun a ha => ?_, fun a ha => ?_, by have := h.k0; omega, ?_⟩
  · rcases mem_putK.1 hq with rfl | ⟨hq, _⟩
    · rw [hl]; simp
    · exact h.ne q hq
  · have hi := inSet_put (S := S) (L := L) x q.s
    rw [hd] at hi
    rcases mem_putK.1 hq with rfl | ⟨hq, hqs⟩
    · rw [if_pos hs.symm] at hi
      obtain ⟨es, h1, h2, h3⟩ := h.ords q.s
      refine ⟨es ++ [x], by rw [List.map_append, h1, hl, hs]; rfl, ?_, ?_⟩
      · refine List.Perm.trans ?_ hi.symm
        exact (List.perm_append_comm).trans (List.Perm.append_left _ h2)
      · rw [List.pairwise_append]
        refine ⟨h3, List.pairwise_singleton _ _, fun a ha b hb => ?_⟩
        rw [List.mem_singleton.1 hb, hu]
        have := h.u a (List.mem_filter.1 (h2.mem_iff.1 ha)).1
        omega
    · rw [if_neg (fun e => hqs (e.symm.trans hs.symm)), List.nil_append] at hi
      obtain ⟨es, h1, h2, h3⟩ := h.ord q hq
      exact ⟨es, h1, h2.trans hi.symm, h3⟩
  · rcases mem_putK.1 ha with rfl | ⟨ha, _⟩
    · exact ⟨p, mem_putK.2 (.inl rfl), hs⟩
    · obtain ⟨q, hq, hqs⟩ := h.all a ha
      by_cases e : q.s = p.s
      · exact ⟨p, mem_putK.2 (.inl rfl), e.symm.trans hqs⟩
      · exact ⟨q, mem_putK.2 (.inr ⟨hq, e⟩), hqs⟩
  · rcases mem_putK.1 ha with rfl | ⟨ha, _⟩
    · omega
    · have := h.u a ha; omega
  · have h1 := putK_len (key := nOf) x L
    have h2 := putK_len (key := OE.s) p O
    have := h.len
    omega
theorem erase_filter {l : List Int} {x : Int} (hnd : l.Nodup) : ∀ {i : Nat}, l[i]? = some x → l.eraseIdx i = l.filter (fun y => decide (y ≠ x)) := by
  induction l with
  | nil => intro i h; simp at h
  | cons y l ih =>
    intro i h
    have hy := (List.nodup_cons.1 hnd).1
    have hl := (List.nodup_cons.1 hnd).2
    cases i with
    | zero =>
      simp at h
      subst h
      rw [List.eraseIdx_cons_zero, List.filter_cons_of_neg (by simp)]
      exact (List.filter_eq_self.2 (fun a ha => decide_eq_true (by intro e; rw [e] at ha; exact hy ha))).symm
    | succ i =>
      have h' : l[i]? = some x := by simpa using h
      have hxy : y ≠ x := by
        intro e
        rw [e] at hy
        exact hy (List.mem_of_getElem? h')
      rw [List.eraseIdx_cons_succ, List.filter_cons_of_pos (by simp [hxy]), ih hl h']
theorem first_at {l : List Int} {x : Int} (h : x ∈ l) : ∃ i : Nat, l[i]? = some x ∧ ∀ j : Nat, j < i → l[j]? ≠ some x := by
  induction l with
  | nil => cases h
  | cons y l ih =>
    by_cases e : y = x
    · exact ⟨0, by simp [e], fun j hj => by omega⟩
    · obtain ⟨i, h1, h2⟩ := ih ((List.mem_cons.1 h).resolve_left (Ne.symm e))
      refine ⟨i + 1, by simpa using h1, fun j hj => ?_⟩
      cases j with
      | zero => simpa using e
      | succ j => simpa using h2 j (by omega)
theorem OrdOf.nodup {s : Int} {l : List Int} (hL : RiseK nOf L) (h : OrdOf S L s l) : l.Nodup := by
  obtain ⟨es, h1, h2, _⟩ := h
  rw [← h1]
  have : List.Nodup ((inSet S L s).map nOf) := by
    unfold List.Nodup
    rw [List.pairwise_map]
    exact (List.Pairwise.sublist List.filter_sublist hL).imp (fun {a b} h => (by omega : nOf a ≠ nOf b))
  exact ((h2.map nOf).nodup_iff).2 this
/-- Where a line that is there stands. -/
theorem Good.at (h : Good S k L O) {e : En} (he : e ∈ L) : ∃ (p : OE) (i : Nat), getK OE.s (setI S e.n) O = some p ∧ p.l[i]? = some e.n ∧ ∀ j : Nat, j < i → p.l[j]? ≠ some e.n := by
  obtain ⟨p, hp, hps⟩ := h.all e he
  obtain ⟨es, h1, h2, _⟩ := h.ord p hp
  have hm : e.n ∈ p.l := by
    rw [← h1]
    exact List.mem_map.2 ⟨e, h2.mem_iff.2 (List.mem_filter.2 ⟨he, decide_eq_true hps.symm⟩), rfl⟩
  obtain ⟨i, h3, h4⟩ := first_at hm
  exact ⟨p, i, hps ▸ getK_mem h.riseO hp, h3, h4⟩
/-- A line goes. -/
theorem Good.leave (h : Good S k L O) {e : En} (he : e ∈ L) {p : OE} {i : Nat} (hp : getK OE.s (setI S e.n) O = some p) (hi : p.l[i]? = some e.n) : Good S k (delK nOf e.n L) (leaveO p i O) := by
  obtain ⟨hpO, hps⟩ := getK_some hp
  have hord := h.ord p hpO
  have hnd := hord.nodup h.rise
  have her := erase_filter hnd hi
  obtain ⟨es, h1, h2, h3⟩ := hord
  have hfil : ∀ s, inSet S (delK nOf e.n L) s = (inSet S L s).filter (fun a => decide (a.n ≠ e.n)) := fun s => by
    unfold inSet delK
    rw [List.filter_filter, List.filter_filter]
    apply List.filter_congr
    intro a _
    exact Bool.and_comm _ _
  have hoth : ∀ q ∈ O, q.s ≠ p.s → OrdOf S (delK nOf e.n L) q.s q.l := fun q hq hs => by
    obtain ⟨fs, g1, g2, g3⟩ := h.ord q hq
    refine ⟨fs, g1, ?_, g3⟩
    rw [hfil]
    have : (inSet S L q.s).filter (fun a => decide (a.n ≠ e.n)) = inSet S L q.s := List.filter_eq_self.2 (fun a ha => decide_eq_true (fun e' => by
      have := of_decide_eq_true (List.mem_filter.1 ha).2
      rw [e'] at this
      exact hs (this.symm.trans hps.symm)))
    rw [this]
    exact g2
  have hown : OrdOf S (delK nOf e.n L) p.s (p.l.eraseIdx i) := by
    refine ⟨es.filter (fun a => decide (a.n ≠ e.n)), ?_, ?_, List.Pairwise.sublist List.filter_sublist h3⟩
    · rw [her, ← h1, List.filter_map]
      rfl
    · rw [hfil]
      exact h2.filter _
  have hu : ∀ a ∈ delK nOf e.n L, a.u ≤ k := fun a ha => h.u a (mem_delK.1 ha).1
  have hlen : ((delK nOf e.n L).length : Int) ≤ k := by
    have := delK_len (key := nOf) e.n L
    have := h.len.1
    omega
  have hil : i < p.l.length := (List.getElem?_eq_some_iff.1 hi).1
  unfold leaveO
  by_cases hl1 : p.l.length = 1
  · rw [if_pos hl1]
    refine ⟨rise_del h.rise, rise_del h.riseO, fun q hq => h.ne q (mem_delK.1 hq).1, fun q hq => hoth q (mem_delK.1 hq).1 (mem_delK.1 hq).2, fun a ha => ?_, hu, h.k0, hlen, ?_⟩
    · obtain ⟨q, hq, hqs⟩ := h.all a (mem_delK.1 ha).1
      by_cases e' : q.s = p.s
      · exfalso
        obtain ⟨fs, g1, g2, _⟩ := hown
        have : fs = [] := by
          have hz : fs.length = 0 := by rw [← List.length_map (f := nOf), g1, List.length_eraseIdx_of_lt hil, hl1]
          exact List.eq_nil_of_length_eq_zero hz
        rw [this] at g2
        have hm : a ∈ inSet S (delK nOf e.n L) p.s := List.mem_filter.2 ⟨ha, decide_eq_true (hqs.symm.trans e')⟩
        exact List.not_mem_nil (g2.mem_iff.2 hm)
      · exact ⟨q, mem_delK.2 ⟨hq, e'⟩, hqs⟩
    · have := delK_len (key := OE.s) p.s O
      have := h.len.2
      omega
  · rw [if_neg hl1]
    refine ⟨rise_del h.rise, rise_put h.riseO, fun q hq => ?_, fun q hq => ?_, fun a ha => ?_, hu, h.k0, hlen, ?_⟩
    · rcases mem_putK.1 hq with rfl | ⟨hq, _⟩
      · intro h0
        have := congrArg List.length h0
        simp only [List.length_nil] at this
        rw [List.length_eraseIdx_of_lt hil] at this
        omega
      · exact h.ne q hq
    · rcases mem_putK.1 hq with rfl | ⟨hq, hs⟩
      · exact hown
      · exact hoth q hq hs
    · obtain ⟨q, hq, hqs⟩ := h.all a (mem_delK.1 ha).1
      by_cases e' : q.s = p.s
      · exact ⟨_, mem_putK.2 (.inl rfl), e'.symm.trans hqs⟩
      · exact ⟨q, mem_putK.2 (.inr ⟨hq, e'⟩), hqs⟩
    · rw [putK_len_at (r := ⟨p.s, p.l.eraseIdx i, p.b, p.o, p.cap⟩) h.riseO hpO rfl]; exact h.len.2
/-- A line is used. -/
theorem Good.touch (h : Good S k L O) {e : En} (he : e ∈ L) {p q : OE} {i : Nat} (hp : getK OE.s (setI S e.n) O = some p) (hi : p.l[i]? = some e.n) (hq : q.s = setI S e.n) (hl : q.l = ordL (leaveO p i O) (setI S e.n) ++ [e.n]) :
    Good S (k + 1) (putK nOf { e with u := k + 1 } L) (putK OE.s q (leaveO p i O)) := by
  have := (h.leave he hp hi).putNew (x := { e with u := k + 1 }) (p := q) (fun a ha => (mem_delK.1 ha).2) rfl hq hl
  have e1 := putK_delK (key := nOf) { e with u := k + 1 } L
  rw [show nOf { e with u := k + 1 } = e.n from rfl] at e1
  rw [e1] at this
  exact this
end
end Go.Proofs.Ytfobgkkmbacfjaa
