/- The document's cache in the program's words: Put, Touch, Drop, Full, Victim, each by what the program's own cache says of it. Conditions: as each theorem states them. -/
import Derived.Test.YtfobgkkmbacfjaaBoC
namespace Go.Proofs.Ytfobgkkmbacfjaa
open Go.RowKit Go.Maps CR
set_option linter.unusedVariables false
set_option maxRecDepth 20000

theorem keep_b {F : Nat → Prop} {w w' : World} (b : Below w.heap.size w w') : Keep F w w' := (Keep.of_below (F := fun _ => False) b).mono (fun _ _ h => h.elim)
/-- What is always so of a cache's sets, ways, clock and entries. -/
structure Dc (S W k : Int) (L : List En) : Prop where
  rise : RiseK nOf L
  nn : ∀ e ∈ L, 0 ≤ e.n
  s1 : 1 ≤ S
  w1 : 1 ≤ W
  k0 : 0 ≤ k
  len : (L.length : Int) ≤ k
section
variable {S W k l v : Int} {L : List En} {x : En} {ok : Bool}
theorem dc_new (S W : Int) (hS : 1 ≤ S) (hW : 1 ≤ W) : Dc S W 0 [] := ⟨List.Pairwise.nil, fun e he => (by cases he), hS, hW, Int.le_refl _, Int.le_refl _⟩
theorem len_put_has (hr : RiseK nOf L) (hh : hasL L x.n = true) {y : En} (hy : y.n = x.n) : (putK nOf y L).length = L.length := by
  obtain ⟨m1, m2⟩ := hasL_mem hh
  have h1 := (delK_one hr m1).length_eq
  have h2 := (putK_perm (key := nOf) y L).length_eq
  rw [h2]
  have e1 : nOf y = nOf (entL L x.n) := by show y.n = (entL L x.n).n; rw [m2, hy]
  rw [e1]
  exact h1
theorem len_put_no (L : List En) (y : En) : (putK nOf y L).length ≤ L.length + 1 := by
  have h2 := (putK_perm (key := nOf) y L).length_eq
  rw [h2, List.length_cons]
  have : (delK nOf (nOf y) L).length ≤ L.length := List.length_filter_le _ _
  omega
theorem Dc.of_put (h : Dc S W k L) {y : En} (hy : 0 ≤ y.n) (hk : (hasL L y.n = true ∧ k = l) ∨ l = k + 1) : Dc S W l (putK nOf y L) := by
  refine ⟨rise_put h.rise, fun e he => ?_, h.s1, h.w1, ?_, ?_⟩
  · rcases mem_putK.1 he with rfl | h1
    · exact hy
    · exact h.nn e h1.1
  · have := h.k0
    omega
  · have h0 := h.len
    rcases hk with ⟨h1, rfl⟩ | rfl
    · rw [len_put_has h.rise h1 rfl]; exact h0
    · have := len_put_no L y
      omega
theorem Dc.put (h : Dc S W k L) (x : En) : Dc S W (putR S W k L x).2.1 (putR S W k L x).2.2 := by
  unfold putR
  split
  · exact h
  split
  · exact h.of_put (y := { x with u := (entL L x.n).u }) (by show 0 ≤ x.n; omega) (.inl ⟨by assumption, rfl⟩)
  split
  · exact h
  · exact h.of_put (y := { x with u := k + 1 }) (by show 0 ≤ x.n; omega) (.inr rfl)
theorem Dc.touch (h : Dc S W k L) (l : Int) : Dc S W (touchR k L l).1 (touchR k L l).2 := by
  unfold touchR
  split
  · next hh =>
    obtain ⟨m1, m2⟩ := hasL_mem hh
    exact h.of_put (y := { entL L l with u := k + 1 }) (show 0 ≤ (entL L l).n from h.nn _ m1) (.inr rfl)
  · exact h
theorem Dc.del (h : Dc S W k L) (l : Int) : Dc S W k (delK nOf l L) := by
  refine ⟨rise_del h.rise, fun e he => h.nn e (mem_delK.1 he).1, h.s1, h.w1, h.k0, ?_⟩
  have h0 := h.len
  have : (delK nOf l L).length ≤ L.length := List.length_filter_le _ _
  omega
theorem vic_fold (hl : 0 ≤ l) : ∀ k : Nat, k ≤ L.length → (∀ e ∈ L, 0 ≤ e.n) → (vicL S (L.take k) l = (-1, 0) ∧ ∀ e ∈ L.take k, ¬ e.n.tmod S = l.tmod S) ∨ (∃ e ∈ L.take k, e.n.tmod S = l.tmod S ∧ vicL S (L.take k) l = (e.n, e.u) ∧ ∀ y ∈ L.take k, y.n.tmod S = l.tmod S → e.u ≤ y.u)
  | 0, _, _ => .inl ⟨rfl, fun e he => by simp at he⟩
  | k + 1, hk, hn => by
    have hx : L[k]? = some L[k] := List.getElem?_eq_getElem (by omega)
    have ht : L.take (k + 1) = L.take k ++ [L[k]] := by rw [List.take_add_one, hx]; rfl
    have hn' := hn _ (List.getElem_mem (show k < L.length by omega))
    rw [vicL_snoc hx]
    rcases vic_fold hl k (by omega) hn with ⟨h1, h2⟩ | ⟨e, h1, h2, h3, h4⟩
    · rw [h1]
      by_cases c : (L[k]).n.tmod S = l.tmod S
      · refine .inr ⟨L[k], ?_, c, ?_, ?_⟩
        · rw [ht]; exact List.mem_append_right _ (List.mem_singleton.2 rfl)
        · unfold vstep; rw [if_pos ⟨hl, c, .inl (by show (-1 : Int) < 0; omega)⟩]
        · intro y hy hc
          rw [ht, List.mem_append, List.mem_singleton] at hy
          rcases hy with hy | rfl
          · exact absurd hc (h2 y hy)
          · exact Int.le_refl _
      · refine .inl ⟨?_, ?_⟩
        · unfold vstep; rw [if_neg (fun h => c h.2.1)]
        · intro y hy
          rw [ht, List.mem_append, List.mem_singleton] at hy
          rcases hy with hy | rfl
          · exact h2 y hy
          · exact c
    · rw [h3]
      have he0 := hn e (List.mem_of_mem_take h1)
      by_cases c : (L[k]).n.tmod S = l.tmod S ∧ (L[k]).u < e.u
      · refine .inr ⟨L[k], ?_, c.1, ?_, ?_⟩
        · rw [ht]; exact List.mem_append_right _ (List.mem_singleton.2 rfl)
        · unfold vstep; rw [if_pos ⟨hl, c.1, .inr c.2⟩]
        · intro y hy hc
          rw [ht, List.mem_append, List.mem_singleton] at hy
          rcases hy with hy | rfl
          · have := h4 y hy hc; omega
          · exact Int.le_refl _
      · refine .inr ⟨e, ?_, h2, ?_, ?_⟩
        · rw [ht]; exact List.mem_append_left _ h1
        · unfold vstep
          rw [if_neg]
          rintro ⟨_, c1, c2 | c2⟩
          · change e.n < 0 at c2; omega
          · exact c ⟨c1, c2⟩
        · intro y hy hc
          rw [ht, List.mem_append, List.mem_singleton] at hy
          rcases hy with hy | rfl
          · exact h4 y hy hc
          · by_cases c3 : (L[k]).u < e.u
            · exact absurd ⟨hc, c3⟩ c
            · omega
theorem set_neg (h : ∀ e ∈ L, 0 ≤ e.n) (hl : l < 0) : inSet S L (setI S l) = [] := by
  unfold inSet
  rw [List.filter_eq_nil_iff]
  intro e he hs
  have h1 := of_decide_eq_true hs
  have h2 := h e he
  unfold setI at h1
  rw [if_neg (by omega), if_pos (by omega)] at h1
  have := Int.tmod_nonneg (b := S) h2
  omega
theorem mem_set (h : ∀ e ∈ L, 0 ≤ e.n) (hl : 0 ≤ l) {e : En} : e ∈ inSet S L (setI S l) ↔ e ∈ L ∧ e.n.tmod S = l.tmod S := by
  unfold inSet
  rw [List.mem_filter]
  constructor
  · rintro ⟨h1, h2⟩
    have h3 := of_decide_eq_true h2
    have := h e h1
    unfold setI at h3
    rw [if_neg (by omega), if_neg (by omega)] at h3
    exact ⟨h1, h3⟩
  · rintro ⟨h1, h2⟩
    refine ⟨h1, decide_eq_true ?_⟩
    have := h e h1
    unfold setI
    rw [if_neg (by omega), if_neg (by omega)]
    exact h2
/-- Which line goes for another one: what the program says is what the document says. -/
theorem vic_same (h : ∀ e ∈ L, 0 ≤ e.n) (hv : IsVic S L l v ok) : (ok = decide (0 ≤ (vicL S L l).1)) ∧ (ok = true → v = (vicL S L l).1) ∧ (ok = false → v = 0) := by
  by_cases hl : 0 ≤ l
  · have hf := vic_fold (S := S) (L := L) hl L.length (Nat.le_refl _) h
    rw [List.take_length] at hf
    rcases hv with ⟨rfl, rfl, h3⟩ | ⟨rfl, e, h1, h2, h3⟩
    · rcases hf with ⟨f1, f2⟩ | ⟨e, f1, f2, f3, f4⟩
      · rw [f1]; simp
      · have := (mem_set (S := S) h hl).2 ⟨f1, f2⟩
        rw [h3] at this
        cases this
    · have hm := (mem_set (S := S) h hl).1 h1
      rcases hf with ⟨f1, f2⟩ | ⟨e', f1, f2, f3, f4⟩
      · exact absurd hm.2 (f2 e hm.1)
      · have he : e' = e := by
          by_cases c : e' = e
          · exact c
          · have := h3 e' ((mem_set (S := S) h hl).2 ⟨f1, f2⟩) c
            have := f4 e hm.1 hm.2
            omega
        subst he
        rw [f3, h2]
        have := h e' f1
        refine ⟨?_, fun _ => rfl, fun h => by cases h⟩
        rw [decide_eq_true (by omega)]
  · have hvl : (vicL S L l).1 = -1 := by
      have : ∀ (M : List En), M.foldl (vstep S l) (-1, 0) = (-1, 0) := by
        intro M
        induction M with
        | nil => rfl
        | cons a M ih =>
          rw [List.foldl_cons]
          have : vstep S l (-1, 0) a = (-1, 0) := by unfold vstep; rw [if_neg (fun h => hl h.1)]
          rw [this, ih]
      unfold vicL
      rw [this]
    rcases hv with ⟨rfl, rfl, h3⟩ | ⟨rfl, e, h1, h2, h3⟩
    · rw [hvl]; simp
    · rw [set_neg h (by omega)] at h1
      cases h1
end
section
variable {w : World} {g : Nat} {M D : Nat → Prop} {S W k : Int} {L : List En}
theorem doc_full (h : Ca w g M D S W k L) (p : Dc S W k L) (line : Int) :
    Calls Try.prog 26 #[.pointer (some ⟨g, 0, none⟩), .int .i64 line] w fun e w' => e = .returned (.bool (fullL S W L line)) ∧ Below w.heap.size w w' := by
  have := full_any h line p.s1
  rw [full_same p.nn p.w1] at this
  exact this
theorem doc_put (h : Ca w g M D S W k L) (p : Dc S W k L) (hk : k < 1000000) (x : En) (a : Option Addr) (n cap : Nat) (hsl : Sl w a n cap x.z) (hn : n ≤ 1000000) :
    Calls Try.prog 14 #[.pointer (some ⟨g, 0, none⟩), x.val (.slice a n cap)] w fun e w' => e = .returned (.int .i64 (putR S W k L x).1) ∧
      (∃ M' D', (∀ j, M' j → M j ∨ w.heap.size ≤ j) ∧ (∀ j, D' j → D j ∨ w.heap.size ≤ j) ∧ Ca w' g M' D' S W (putR S W k L x).2.1 (putR S W k L x).2.2) ∧ Keep M w w' := by
  have hlen := p.len
  have hk0 := p.k0
  unfold putR
  by_cases hx : x.n < 0
  · rw [if_pos hx]
    refine (put_neg x a n cap hx).mono ?_
    rintro e w' ⟨rfl, b⟩
    exact ⟨rfl, ⟨M, D, fun _ h => .inl h, fun _ h => .inl h, h.below b⟩, keep_b b⟩
  rw [if_neg hx]
  rcases atL_has L x.n with ⟨a1, a2⟩ | ⟨i, a1, a3, a2, a4⟩
  · rw [a2, if_neg (by simp)]
    have hfs := full_same (S := S) (l := x.n) p.nn p.w1
    rw [a1] at hfs
    by_cases hw : W ≤ (inL S L x.n : Int)
    · have : fullL S W L x.n = true := by rw [← hfs]; simp [hw]; omega
      rw [this, if_pos rfl]
      refine (put_full h x a n cap hsl hn (by omega) p.s1 (by omega) a1 hw).mono ?_
      rintro e w' ⟨rfl, b⟩
      exact ⟨rfl, ⟨M, D, fun _ h => .inl h, fun _ h => .inl h, h.below b⟩, keep_b b⟩
    · have : fullL S W L x.n = false := by rw [← hfs]; simp [hw]
      rw [this, if_neg (by simp)]
      refine (put_new h x a n cap hsl hn (by omega) p.s1 (by omega) a1 hw ⟨p.k0, by omega⟩).mono ?_
      rintro e w' ⟨rfl, ⟨q, M', D', q1, q2, q3, q4, q5, c⟩, kp⟩
      rw [ins_put p.rise a2 q1 q2 q3 (z := { x with u := k + 1 }) rfl] at c
      exact ⟨rfl, ⟨M', D', q4, q5, c⟩, kp⟩
  · rw [a2, if_pos rfl]
    refine (put_at h x a n cap hsl hn (by omega) a1 a3).mono ?_
    rintro e w' ⟨rfl, ⟨D', q1, c⟩, kp⟩
    rw [set_put p.rise a3 a2 (y := { x with u := (entL L x.n).u }) rfl] at c
    exact ⟨rfl, ⟨M, D', fun _ h => .inl h, q1, c⟩, kp⟩
theorem doc_touch (h : Ca w g M D S W k L) (p : Dc S W k L) (hk : k < 1000000) (line : Int) :
    Calls Try.prog 20 #[.pointer (some ⟨g, 0, none⟩), .int .i64 line] w fun e w' => e = .returned (.bool (hasL L line)) ∧ Ca w' g M D S W (touchR k L line).1 (touchR k L line).2 ∧ Keep M w w' := by
  have hk0 := p.k0
  unfold touchR
  rcases atL_has L line with ⟨a1, a2⟩ | ⟨i, a1, a3, a2, a4⟩
  · rw [a2, if_neg (by simp)]
    refine (touch_no h a1).mono ?_
    rintro e w' ⟨rfl, b⟩
    exact ⟨rfl, h.below b, keep_b b⟩
  · rw [a2, if_pos rfl]
    refine (touch_ok h a1 a3 ⟨hk0, by omega⟩).mono ?_
    rintro e w' ⟨rfl, c, kp⟩
    have e1 : L.set i { entL L line with u := k + 1 } = putK nOf { entL L line with u := k + 1 } L := by
      have := set_put (x := entL L line) (i := i) p.rise (by rw [a4]; exact a3) (by rw [a4]; exact a2) (y := { entL L line with u := k + 1 }) rfl
      exact this
    rw [e1] at c
    exact ⟨rfl, c, kp⟩
theorem doc_drop_no (h : Ca w g M D S W k L) {line : Int} (hh : hasL L line = false) :
    Calls Try.prog 17 #[.pointer (some ⟨g, 0, none⟩), .int .i64 line] w fun e w' => e = .returned (.tuple #[zeroEn.val (.slice none 0 0), .bool false]) ∧ Below w.heap.size w w' := by
  rcases atL_has L line with ⟨a1, a2⟩ | ⟨i, a1, a3, a2, a4⟩
  · exact drop_no h a1
  · rw [a2] at hh; cases hh
theorem doc_drop (h : Ca w g M D S W k L) (p : Dc S W k L) (hk : k < 1000000) {line : Int} (hh : hasL L line = true) :
    Calls Try.prog 17 #[.pointer (some ⟨g, 0, none⟩), .int .i64 line] w fun e w' => ∃ d, e = .returned (.tuple #[(entL L line).val d, .bool true]) ∧ DatZ w' D (entL L line).z d ∧
      (∃ M', (∀ j, M' j → M j ∨ w.heap.size ≤ j) ∧ Ca w' g M' D S W k (delK nOf line L)) ∧ Keep M w w' := by
  have hlen := p.len
  rcases atL_has L line with ⟨a1, a2⟩ | ⟨i, a1, a3, a2, a4⟩
  · rw [a2] at hh; cases hh
  · refine (drop_ok h a1 a3 (by omega)).mono ?_
    rintro e w' ⟨d, rfl, hd, ⟨M', q1, c⟩, kp⟩
    rw [erase_del p.rise a3 a2] at c
    exact ⟨d, rfl, hd, ⟨M', q1, c⟩, kp.mono (fun j _ hj => by obtain ⟨R, a, cap, hi⟩ := h; rw [hj]; exact hi.mg)⟩
theorem doc_victim (h : Ca w g M D S W k L) (p : Dc S W k L) (line : Int) :
    Calls Try.prog 24 #[.pointer (some ⟨g, 0, none⟩), .int .i64 line] w fun e w' => e = .returned (.int .i64 (vicL S L line).1) ∧ Below w.heap.size w w' := victim_any h line p.s1
end
end Go.Proofs.Ytfobgkkmbacfjaa
