/- The walk of CacheSets: it answers true and writes nothing that was there. No condition but that the arguments are such as can come in. -/
import Derived.Test.YteikapeleagedaaCacMath
import Derived.Laws.OwnMore
namespace Go.Proofs.Yteikapeleagedaa
open Go.RowKit Go.Maps
set_option linter.unusedVariables false
set_option maxRecDepth 20000

section
variable {L : List En} {x : En} {S s : Int}
theorem cnt_put (hr : RiseK nOf L) : (inSet S (putK nOf x L) s).length = (inSet S L s).length + (if hasL L x.n = false ∧ setI S x.n = s then 1 else 0) := by
  rw [(inSet_put x s).length_eq, List.length_append]
  cases hh : hasL L x.n with
  | true =>
    obtain ⟨m1, m2⟩ := hasL_mem hh
    have h1 := (delK_one hr m1).filter (fun e => decide (setI S e.n = s))
    have h2 := h1.length_eq
    rw [List.filter_cons, show nOf (entL L x.n) = x.n from m2] at h2
    unfold inSet
    rw [← h2]
    by_cases e : setI S x.n = s
    · rw [if_pos e, if_pos (by rw [m2]; exact decide_eq_true e)]; simp; omega
    · rw [if_neg e, if_neg (by rw [m2]; simp [e])]; simp
  | false =>
    rw [delK_none (hasL_no hh)]
    by_cases e : setI S x.n = s
    · simp [e]; omega
    · simp [e]
/-- The lines that are there, as a test has them. -/
def seen (L : List En) : List (Int × Value) := kv nOf (fun _ => Value.bool true) L
theorem seen_at (L : List En) (l : Int) : atI l (.bool false) (seen L) = .bool (hasL L l) := by
  unfold seen
  rw [kv_at]
  unfold hasL
  cases getK nOf l L <;> rfl
theorem seen_put (x : En) (L : List En) : putK Prod.fst (x.n, Value.bool true) (seen L) = seen (putK nOf x L) := kv_put (key := nOf) (val := fun _ => Value.bool true) x L
theorem rise_kv {α : Type} {key : α → Int} {val : α → Value} {l : List α} (h : RiseK key l) : RiseK Prod.fst (kv key val l) := by unfold RiseK kv; rw [List.pairwise_map]; exact h
theorem seen_same (hr : RiseK nOf L) (hh : hasL L x.n = true) : seen (putK nOf x L) = seen L := by
  refine rise_ext (rise_kv (rise_put hr)) (rise_kv hr) (fun p => ?_)
  obtain ⟨m1, m2⟩ := hasL_mem hh
  unfold seen kv
  rw [List.mem_map, List.mem_map]
  constructor
  · rintro ⟨a, ha, rfl⟩
    rcases mem_putK.1 ha with rfl | ⟨ha, _⟩
    · exact ⟨_, m1, by rw [show nOf (entL L a.n) = nOf a from m2]⟩
    · exact ⟨a, ha, rfl⟩
  · rintro ⟨a, ha, rfl⟩
    by_cases e : nOf a = nOf x
    · exact ⟨x, mem_putK.2 (.inl rfl), by rw [e]⟩
    · exact ⟨a, mem_putK.2 (.inr ⟨ha, e⟩), rfl⟩
end
theorem zeroB_val (w : World) : (zeroValue 4).run Try.prog w = .ok (.bool false) w := Try.zeroValue4 w
/-- How many lines each set has. -/
def cnts (S : Nat) (L : List En) : List Int := (List.range S).map fun k : Nat => ((inSet S L k).length : Int)
theorem cnts_len (S : Nat) (L : List En) : (cnts S L).length = S := by simp [cnts]
theorem cnts_made (S : Nat) : (madeCells (Value.int IntKind.i64 0).cells (S * 1)).toList = cells (cnts S []) := by
  rw [show (Value.int IntKind.i64 0).cells = #[Value.int IntKind.i64 0] from rfl, toList_madeCells_one, Nat.mul_one]
  unfold cells cnts
  rw [List.map_map]
  have : ((Value.int IntKind.i64) ∘ fun k : Nat => ((inSet S [] k).length : Int)) = fun _ => Value.int .i64 0 := by
    funext k
    simp [inSet]
  rw [this, List.map_const', List.length_range]
theorem cnts_get {S k : Nat} (L : List En) (hk : k < S) : (cnts S L)[k]? = some ((inSet S L (k : Int)).length : Int) := by simp [cnts, hk]
/-- What a test of CacheSets has beside its cache. -/
structure SE (w wr : World) (g bi : Nat) (S : Nat) (W k : Int) (L : List En) : Prop where
  c : CO w wr g (fun j => j = bi ∨ j = bi + 1) S W k L
  m : IM wr bi (seen L)
  n : Own wr w.heap.size (.slice (some ⟨bi + 1, 0, none⟩) S S) (cnts S L)
  lo : w.heap.size ≤ bi
  r : ∀ e ∈ L, e.n < 16
  f : ∀ s, ((inSet S L s).length : Int) ≤ W
theorem SE.below {w wr wy : World} {g bi : Nat} {S : Nat} {W k : Int} {L : List En} (h : SE w wr g bi S W k L) (hb : Below wr.heap.size wr wy) : SE w wy g bi S W k L :=
  ⟨h.c.below hb, h.m.below hb, h.n.below hb, h.lo, h.r, h.f⟩
theorem seen_look {V : World} {bi : Nat} {L : List En} {l : Int} (h : IM V bi (seen L)) (hn : In64 l) : (Instr.lookup 26 (.map (some bi)) (.int .i64 l) false).run Try.prog V = .ok (.bool (hasL L l)) V := by
  have := h.look Try.underlying26 (zeroB_val V) hn
  rw [seen_at] at this
  exact this
theorem cnts_same {S : Nat} {L : List En} {y : En} (hr : RiseK nOf L) (hh : hasL L y.n = true) : cnts S (putK nOf y L) = cnts S L := by
  unfold cnts
  refine List.map_congr_left fun k _ => ?_
  rw [cnt_put hr, if_neg (by simp [hh]), Nat.add_zero]
theorem cnts_set {S s m : Nat} {L : List En} {y : En} (hr : RiseK nOf L) (hh : hasL L y.n = false) (hs : setI S y.n = s) (hsS : s < S) (hm : (inSet S L s).length = m) : cnts S (putK nOf y L) = (cnts S L).set s ((m : Int) + 1) := by
  apply List.ext_getElem?
  intro j
  by_cases hj : j < S
  · rw [cnts_get _ hj, List.getElem?_set]
    rw [cnt_put hr]
    by_cases e : s = j
    · subst e
      rw [if_pos ⟨hh, hs⟩, if_pos rfl, if_pos (by rw [cnts_len]; exact hsS), hm]
      rfl
    · rw [if_neg (by rw [hs]; intro h; exact e (by have := h.2; omega)), if_neg e, cnts_get _ hj, Nat.add_zero]
  · rw [List.getElem?_eq_none (by rw [cnts_len]; omega), List.getElem?_eq_none (by rw [List.length_set, cnts_len]; omega)]
theorem SE.old {w wx wy : World} {g bi : Nat} {S : Nat} {W k k' : Int} {L : List En} {y : En} (h : SE w wx g bi S W k L) (hc : CO w wy g (fun j => j = bi ∨ j = bi + 1) S W k' (putK nOf y L)) (hm : IM wy bi (seen L))
    (hn : Own wy w.heap.size (.slice (some ⟨bi + 1, 0, none⟩) S S) (cnts S L)) (hh : hasL L y.n = true) (hy : y.n < 16) : SE w wy g bi S W k' (putK nOf y L) := by
  have hr := h.c.rise
  refine ⟨hc, by rw [seen_same hr hh]; exact hm, by rw [cnts_same hr hh]; exact hn, h.lo, fun e he => ?_, fun s => ?_⟩
  · rcases mem_putK.1 he with rfl | ⟨he, _⟩
    · exact hy
    · exact h.r e he
  · rw [cnt_put hr, if_neg (by simp [hh]), Nat.add_zero]
    exact h.f s
theorem SE.new {w wx wy : World} {g bi : Nat} {S s m : Nat} {W k k' : Int} {L : List En} {y : En} (h : SE w wx g bi S W k L) (hc : CO w wy g (fun j => j = bi ∨ j = bi + 1) S W k' (putK nOf y L)) (hm : IM wy bi (putK Prod.fst (y.n, Value.bool true) (seen L)))
    (hn : Own wy w.heap.size (.slice (some ⟨bi + 1, 0, none⟩) S S) ((cnts S L).set s ((m : Int) + 1))) (hh : hasL L y.n = false) (hy : y.n < 16) (hs : setI S y.n = s) (hsS : s < S) (hml : (inSet S L s).length = m) (hmW : (m : Int) < W) : SE w wy g bi S W k' (putK nOf y L) := by
  have hr := h.c.rise
  refine ⟨hc, by rw [← seen_put]; exact hm, by rw [cnts_set hr hh hs hsS hml]; exact hn, h.lo, fun e he => ?_, fun s' => ?_⟩
  · rcases mem_putK.1 he with rfl | ⟨he, _⟩
    · exact hy
    · exact h.r e he
  · rw [cnt_put hr]
    by_cases e : setI S y.n = s'
    · rw [if_pos ⟨hh, e⟩, ← e, hs, hml]
      push_cast
      omega
    · rw [if_neg (by simp [e]), Nat.add_zero]
      exact h.f s'
set_option maxHeartbeats 1000000 in
theorem cacheSets_walk (s0 w0 : Int) (a : Option Addr) (n1 c1 : Nat) (l1 : List Int) (w : World) (h1 : Sl w a n1 c1 l1) :
    Calls Try.prog 3 #[.int .i64 s0, .int .i64 w0, .slice a n1 c1] w fun e w' => e = .returned (.bool true) ∧ Below w.heap.size w w' := by
  obtain ⟨q, hq, q0, q3⟩ : ∃ q, s0 % 4 = q ∧ 0 ≤ q ∧ q < 4 := ⟨_, rfl, by omega, by omega⟩
  obtain ⟨p, hp, p0, p2⟩ : ∃ p, w0 % 3 = p ∧ 0 ≤ p ∧ p < 3 := ⟨_, rfl, by omega, by omega⟩
  obtain ⟨S, hS, S1, S4⟩ : ∃ S : Nat, 1 + q = S ∧ 1 ≤ S ∧ S ≤ 4 := ⟨(1 + q).toNat, by omega, by omega, by omega⟩
  obtain ⟨W, hW, W1, W3⟩ : ∃ W : Int, 1 + p = W ∧ 1 ≤ W ∧ W ≤ 3 := ⟨_, rfl, by omega, by omega⟩
  have HQ : Hid (s0 % 4 = q) := hq
  have HP : Hid (w0 % 3 = p) := hp
  clear hq hp
  have hN := co_new (X := fun _ => False) (S : Int) W (⟨by omega, by omega⟩ : In64 (S : Int)) (Below.refl w.heap.size w) (fun _ h => h.elim)
  rw [show max (S : Int) 1 = S by omega, show max W 1 = W by omega] at hN
  obtain ⟨i0, hi, hp0, hp1, hp2⟩ := info_parts Try.infoInt
  have hmm := @run_makeMap Try.prog
  go_enter Try.func3, Try.ntmps3
  go_wp2_with (first
    | (go_at_call 8; refine (within_any _ _ _ (by omega) (by omega)).mono ?_; rintro e wx ⟨rfl, rfl⟩; first | rw [HQ.out] | rw [HP.out])
    | (go_at_call 9; refine hN.mono ?_; rintro e w1 ⟨g, rfl, b1, C1⟩)
    | (at_make; refine wpList_make_full _ rfl _ _ 22 rfl (w1.heap.size + 1) 3 i0 (.int .i64 0) 1 Try.underlying22 hi hp0 hp1 _ _ _ _ S rfl rfl (by omega) (by omega) (by rw [hp2]; omega) (by unfold maxLen; omega) (by simp) ?_; intro w3 hown3 hg3))
  have hz1 := C1.bel.size
  have B2 : Below w1.heap.size w1 w3 := next (ba (Below.refl _ _)) (below_new hg3)
  have own3 : Own w3 w.heap.size (.slice (some ⟨w1.heap.size + 1, 0, none⟩) S S) (cnts S []) := by
    unfold Own
    rw [cnts_len, ← cnts_made S]
    rw [show (w1.alloc (.map #[] 0)).heap.size = w1.heap.size + 1 by simp] at hown3
    exact ownsRow_base_a hown3 (by omega)
  have hz3 := own3.lt1
  have Z3 : SE w w3 g w1.heap.size S W 0 [] := by
    refine ⟨C1.grow B2 (fun j hj => ?_), (im_made w1).below (below_new hg3), own3, hz1, fun e he => (by cases he), fun s => ?_⟩
    · refine ⟨.inr ?_, ?_⟩ <;> rcases hj with hj | hj <;> omega
    · simp [inSet]; omega
  clear C1 B2 hg3 hown3 hz3 own3 hmm hi hp0 hp1 hp2 hN b1
  generalize w1.heap.size = bi at *
  have hle := h1.le
  have hmx := h1.max
  unfold maxLen at hmx
  go_loopw [10] (fun vi wr => ∃ (i : Nat) (k : Int) (L : List En), vi = .int .i64 (i : Int) ∧ i ≤ 30 ∧ 0 ≤ k ∧ k ≤ i ∧ SE w wr g bi S W k L) (fun vi _ => 30 - (intOf vi).toNat)
  case atStart => exact ⟨0, 0, [], rfl, by omega, by omega, by omega, Z3⟩
  case round =>
    clear Z3
    obtain ⟨i, k, L, rfl, hi, hk0, hki, Z⟩ := hrel
    by_cases hlt : (i : Int) < n1 ∧ i < 30
    · obtain ⟨hlt1, hlt2⟩ := hlt
      obtain ⟨b, o, rfl, hblt, hcell⟩ := h1.at (k := i) (by omega)
      have hc := (Z.c.bel.cell (p := ⟨b, o + i, none⟩) hblt).trans hcell
      generalize l1[i]?.getD 0 = v at *
      obtain ⟨l, hl, l0, l5⟩ : ∃ l, v % 16 = l ∧ 0 ≤ l ∧ l < 16 := ⟨_, rfl, by omega, by omega⟩
      have HL : Hid (v % 16 = l) := hl
      have hn : In64 l := ⟨by omega, by omega⟩
      clear hl hcell
      obtain ⟨s, hs, hs1⟩ : ∃ s : Nat, l % (S : Int) = s ∧ s < S := ⟨(l % (S : Int)).toNat, by have := Int.emod_nonneg l (show (S : Int) ≠ 0 by omega); omega, by have := Int.emod_lt_of_pos l (show (0 : Int) < S by omega); omega⟩
      have hst : Hid (setI S l = s) := by
        show _ = _
        unfold setI
        rw [if_neg (by omega), Int.tmod_eq_emod_of_nonneg l0, hs]
      have hSz : ((S : Int) == 0) = false := by simp; omega
      have lk : ∀ V, IM V bi (seen L) → (Instr.lookup 26 (.map (some bi)) (.int .i64 l) false).run Try.prog V = .ok (.bool (hasL L l)) V := fun V hV => by
        have := hV.look Try.underlying26 (zeroB_val V) hn
        rw [seen_at] at this
        exact this
      have HLK : Hid _ := lk
      have lkw := lk wr Z.m
      clear lk
      obtain ⟨ok, ho⟩ : ∃ ok, hasL L l = ok := ⟨_, rfl⟩
      have HO : Hid (hasL L l = ok) := ho
      rw [ho] at lkw
      clear ho
      obtain ⟨m, hm⟩ : ∃ m : Nat, (inSet S L s).length = m := ⟨_, rfl⟩
      have hcn : wr.cell? ⟨bi + 1, s, none⟩ = some (.int .i64 (m : Int)) := by
        obtain ⟨b', o', e, _, hc'⟩ := (Z.n.slice1 (cnts_len S L)).at (k := s) hs1
        simp at e
        obtain ⟨rfl, rfl⟩ := e
        rw [Nat.zero_add, cnts_get L hs1, hm] at hc'
        exact hc'
      have hmW := Z.f s
      rw [hm] at hmW
      have HM : Hid ((inSet S L s).length = m) := hm
      clear hm
      have hful : Hid (fullL S W L l = (!ok && decide (W ≤ (m : Int)))) := by
        show _ = _
        unfold fullL
        rw [HO.out, hst.out, HM.out]
      have hr := Z.c.rise
      cases ok with
      | true =>
        have hf : fullL S W L l = false := by rw [hful.out]; rfl
        have Ff := co_full Z.c hn
        rw [hf] at Ff
        go_upto_region 18 with (first
          | (go_at_call 11; refine (co_fresh (Z.c.below b5) (by omega) ⟨i, -1, l, 0, false, []⟩ a6 0 c6 _ b6 own6 (by omega) rfl (by omega) hn).mono ?_; rw [putR_ok (x := ⟨i, -1, l, 0, false, []⟩) l0 hf]; rintro e w7 ⟨rfl, k7, C7⟩; have m7 := ((Z.m.below b5).below b6).keep k7 (fun h => h.2 (.inl rfl)); have n7 := ((Z.n.below b5).below b6).keep1 k7 (fun h => h.2 (.inr rfl)); have lk7 := HLK.out _ m7; rw [HO.out] at lk7)
          | (go_at_call 12; refine (enew_any l i (-1) false none [] 0 0 _ (sl_nil _) (by omega)).mono ?_; rintro e w6 ⟨a6, c6, rfl, own6, b6⟩)
          | (go_at_call 10; refine Ff.mono ?_; rintro e w5 ⟨rfl, b5⟩)
          | (go_at_call 8; refine (within_any _ _ _ (by omega) (by omega)).mono ?_; rintro e wx ⟨rfl, rfl⟩; rw [HL.out]))
        rw [HO.out, if_pos rfl, if_pos rfl] at C7
        obtain ⟨u, hu⟩ : ∃ u, (entL L l).u = u := ⟨_, rfl⟩
        rw [hu] at C7
        have Z7 := Z.old C7 m7 n7 HO.out l5
        have F7 := co_find C7 hn
        have lk8 := HLK.out
        rw [ent_put hr rfl, has_put hr, decide_eq_true (show (⟨i, -1, l, u, false, []⟩ : En).n = l from rfl), Bool.true_or] at F7
        clear hu C7 n7 own6 b5 b6 k7 Ff lkw hcn hc lk7
        go_wp2_with (go_at_call 13; refine F7.mono ?_; rintro e w9 ⟨a9, c9, rfl, own9, b9⟩; have lk9 := lk8 _ (m7.below (next b9 (ba (o := .cells #[.int .i64 i, .int .i64 (-1), .int .i64 l, .int .i64 u, .bool false, .slice a9 0 c9] 33) (Below.refl _ _)))); rw [HO.out] at lk9)
        go_roundw
        case rel => exact ⟨i + 1, k, _, by go_num, by omega, by omega, by omega, Z7.below (next b9 (ba (Below.refl _ _)))⟩
        case measure => simp [intOf]; omega
      | false =>
        by_cases hmw : (m : Int) = W
        · have hf : fullL S W L l = true := by rw [hful.out]; simp; omega
          have hmw1 : ((m : Int) == W) = true := by simp [hmw]
          have Ff := co_full Z.c hn
          rw [hf] at Ff
          go_upto_region 18 with (first
            | (go_at_call 11; refine (co_fresh (Z.c.below b5) (by omega) ⟨i, -1, l, 0, false, []⟩ a6 0 c6 _ b6 own6 (by omega) rfl (by omega) hn).mono ?_; rw [putR_full (x := ⟨i, -1, l, 0, false, []⟩) l0 hf]; rintro e w7 ⟨rfl, k7, C7⟩; have m7 := ((Z.m.below b5).below b6).keep k7 (fun h => h.2 (.inl rfl)); have n7 := ((Z.n.below b5).below b6).keep1 k7 (fun h => h.2 (.inr rfl)); have lk7 := seen_look m7 hn; rw [HO.out] at lk7)
            | (go_at_call 12; refine (enew_any l i (-1) false none [] 0 0 _ (sl_nil _) (by omega)).mono ?_; rintro e w6 ⟨a6, c6, rfl, own6, b6⟩)
            | (go_at_call 10; refine Ff.mono ?_; rintro e w5 ⟨rfl, b5⟩)
            | (go_at_call 8; refine (within_any _ _ _ (by omega) (by omega)).mono ?_; rintro e wx ⟨rfl, rfl⟩; rw [HL.out]))
          change CO w w7 g _ S W k L at C7
          have Z7 : SE w w7 g bi S W k L := ⟨C7, m7, n7, Z.lo, Z.r, Z.f⟩
          have F7 := co_find C7 hn
          obtain ⟨x, hx⟩ : ∃ x, entL L l = x := ⟨_, rfl⟩
          rw [hx, HO.out] at F7
          clear hx C7 n7 own6 b5 b6 k7 Ff lkw hcn hc lk7
          go_wp2_with (go_at_call 13; refine F7.mono ?_; rintro e w9 ⟨a9, c9, rfl, own9, b9⟩; have lk9 := seen_look (m7.below (next b9 (ba (o := .cells #[.int .i64 x.f, .int .i64 x.b, .int .i64 x.n, .int .i64 x.u, .bool x.q, .slice a9 x.z.length c9] 33) (Below.refl _ _)))) hn; rw [HO.out] at lk9)
          go_roundw
          case rel => exact ⟨i + 1, k, _, by go_num, by omega, by omega, by omega, Z7.below (next b9 (ba (Below.refl _ _)))⟩
          case measure => simp [intOf]; omega
        · have hf : fullL S W L l = false := by rw [hful.out]; simp; omega
          have hmw1 : ((m : Int) == W) = false := by simp [hmw]
          have hmlt : Hid ((m : Int) < W) := by show (m : Int) < W; omega
          have Ff := co_full Z.c hn
          rw [hf] at Ff
          have hkl := Z.c.len
          go_upto_region 16 with (first
            | (go_at_call 11; refine (co_fresh (Z.c.below b5) (by omega) ⟨i, -1, l, 0, false, []⟩ a6 0 c6 _ b6 own6 (by omega) rfl (by omega) hn).mono ?_; rw [putR_ok (x := ⟨i, -1, l, 0, false, []⟩) l0 hf]; rintro e w7 ⟨rfl, k7, C7⟩; have m7 := ((Z.m.below b5).below b6).keep k7 (fun h => h.2 (.inl rfl)); have n7 := ((Z.n.below b5).below b6).keep1 k7 (fun h => h.2 (.inr rfl)); have lk7 := seen_look m7 hn; rw [HO.out] at lk7)
            | (go_at_call 12; refine (enew_any l i (-1) false none [] 0 0 _ (sl_nil _) (by omega)).mono ?_; rintro e w6 ⟨a6, c6, rfl, own6, b6⟩)
            | (go_at_call 10; refine Ff.mono ?_; rintro e w5 ⟨rfl, b5⟩)
            | (go_at_call 8; refine (within_any _ _ _ (by omega) (by omega)).mono ?_; rintro e wx ⟨rfl, rfl⟩; rw [HL.out]))
          rw [HO.out, if_neg (by simp), if_neg (by simp)] at C7
          obtain ⟨w8, hrun8, im8, ht8⟩ := m7.store Try.underlying26 (by unfold seen; rw [kv_len]; unfold maxLen; omega) hn (.bool true)
          have kt := turned_keep ht8
          have C8 := C7.write kt (fun j hj => by subst hj; exact ⟨Z.lo, .inl (.inl rfl)⟩)
          have n8 := n7.keep1 kt (fun e => by omega)
          have hc8 : w8.cell? ⟨bi + 1, s, none⟩ = some (.int .i64 (m : Int)) := by
            obtain ⟨b', o', e, _, hc'⟩ := (n8.slice1 (cnts_len S L)).at (k := s) hs1
            simp at e
            obtain ⟨rfl, rfl⟩ := e
            rw [Nat.zero_add, cnts_get L hs1, HM.out] at hc'
            exact hc'
          have hf8 := (n8.cell1 (cnts_len S L) hs1).2
          clear m7 n7 C7 kt ht8 own6 b5 b6 k7 Ff lkw hcn hc lk7
          have hwm : wrap64 ((m : Int) + 1) = (m : Int) + 1 := IntWalk.wrap64_in _ (by omega)
          go_upto_region 18 with fail
          have k9 := Keep.one w8 (bi + 1) s (.int .i64 ((m : Int) + 1))
          have C9 := C8.write k9 (fun j hj => by subst hj; exact ⟨by have := Z.lo; omega, .inl (.inr rfl)⟩)
          have m9 := im8.keep k9 (fun e => by omega)
          have n9 := n8.set1 (cnts_len S L) hs1 ((m : Int) + 1)
          have Z9 := Z.new C9 m9 n9 HO.out l5 hst.out hs1 HM.out hmlt.out
          clear k9 C8 m9 n9 n8 im8 hrun8 hc8 hf8
          generalize w8.setCell ⟨bi + 1, s, none⟩ (.int .i64 ((m : Int) + 1)) = W9 at *
          have F9 := co_find Z9.c hn
          have HH : Hid (hasL (putK nOf ⟨i, -1, l, k + 1, false, []⟩ L) l = true) := by
            show _ = _
            rw [has_put hr]
            simp
          rw [ent_put hr rfl, HH.out] at F9
          go_wp2_with (go_at_call 13; refine F9.mono ?_; rintro e w10 ⟨a9, c9, rfl, own9, b9⟩; have lk9 := seen_look (Z9.m.below (next b9 (ba (o := .cells #[.int .i64 i, .int .i64 (-1), .int .i64 l, .int .i64 (k + 1), .bool false, .slice a9 0 c9] 33) (Below.refl _ _)))) hn; rw [HH.out] at lk9)
          go_roundw
          case rel => exact ⟨i + 1, k + 1, _, by go_num, by omega, by omega, by omega, Z9.below (next b9 (ba (Below.refl _ _)))⟩
          case measure => simp [intOf]; omega
    · have hB := Z.c.bel
      have hr := Z.c.rise
      have hkl := Z.c.len
      have fin : ∀ wz, Below w.heap.size w wz → Below wz.heap.size wz wz := fun wz _ => Below.refl _ _
      have hge : (n1 : Int) ≤ (i : Int) ∨ ((i : Int) < (n1 : Int) ∧ (30 : Int) ≤ (i : Int)) := by omega
      clear hlt fin
      rcases hge with hge | ⟨hge, hge2⟩
      all_goals go_upto_region 23 with (go_at_call 14; refine (co_lines Z.c (by omega)).mono ?_; rintro e w2 ⟨v2, rfl, own2, b2⟩; obtain ⟨a2, c2, rfl, sl2⟩ := own2.sl; rw [List.length_map])
      all_goals have Z2 := Z.below b2
      all_goals have hB2 := next hB b2
      all_goals (rw [List.length_map] at sl2; have hle2 := sl2.le; have hmx2 := sl2.max; unfold maxLen at hmx2; clear Z own2 b2 hB)
      all_goals go_loopw [118] (fun vi wr => ∃ (j : Nat), vi = .int .i64 (j : Int) ∧ j ≤ L.length ∧ Below w2.heap.size w2 wr) (fun vi _ => L.length - (intOf vi).toNat)
      case atStart => exact ⟨0, rfl, by omega, Below.refl _ _⟩
      case atStart => exact ⟨0, rfl, by omega, Below.refl _ _⟩
      case round =>
        obtain ⟨j, rfl, hj, BV⟩ := hrel
        have ZV := Z2.below BV
        have slV := sl2.below BV
        have hBV := next hB2 BV
        by_cases hjl : j < L.length
        · obtain ⟨bq, oq, rfl, hbq, hcq⟩ := slV.at (k := j) hjl
          have hcell : ∀ t e, L[t]? = some e → wr.cell? ⟨bq, oq + t, none⟩ = some (.int .i64 e.n) := fun t e he => by
            have ht : t < L.length := (List.getElem?_eq_some_iff.1 he).1
            obtain ⟨b', o', e', _, hc'⟩ := slV.at (k := t) ht
            simp at e'
            obtain ⟨rfl, rfl⟩ := e'
            rw [hc', List.getElem?_map, he]
            rfl
          clear hcq
          have hjl' : (j : Int) < (L.length : Int) := by omega
          obtain ⟨e, he⟩ : ∃ e, L[j]? = some e := ⟨_, List.getElem?_eq_getElem hjl⟩
          have hej := hcell j e he
          have hem := List.mem_of_getElem? he
          have hein : In64 e.n := (ZV.c.inn e hem).1
          have heh : hasL L e.n = true := getK_isSome.2 ⟨e, hem, rfl⟩
          have ul : ∀ u : Up wr, (Instr.lookup 26 (.map (some bi)) (.int .i64 e.n) false).run Try.prog u.1 = .ok (.bool true) u.1 := fun u => by
            have := seen_look (ZV.m.below u.2) hein
            rw [heh] at this
            exact this
          have uc := @Up.cell
          cases j with
          | zero =>
            clear hcell
            rw [Nat.add_zero] at hej
            go_upto_region 25 with fail
            refine wp_region_up (by kernel_rfl) (by kernel_rfl) ?_
            repeat (go_big_quiet_step (fail))
            refine wpQuiet_nil ?_
            rintro _ ⟨u, rfl⟩
            go_wp2_with fail
            go_roundw
            case rel => exact ⟨1, by go_num, by omega, next BV u.2⟩
            case measure => simp [intOf]; omega
          | succ j' =>
            obtain ⟨e', he'⟩ : ∃ e', L[j']? = some e' := ⟨_, List.getElem?_eq_getElem (by omega)⟩
            have hej' := hcell j' e' he'
            have hlt : decide (e.n ≤ e'.n) = false := by
              have := List.pairwise_iff_getElem.1 hr j' (j' + 1) (by omega) hjl (by omega)
              have h1 : L[j'] = e' := (List.getElem?_eq_some_iff.1 he').2
              have h2 : L[j' + 1] = e := (List.getElem?_eq_some_iff.1 he).2
              rw [h1, h2] at this
              have : e'.n < e.n := this
              simp
              omega
            have hwj : wrap64 ((j' : Int) + 1 - 1) = j' := by rw [Int.add_sub_cancel]; exact IntWalk.wrap64_in _ (by omega)
            have hpos : decide ((0 : Int) < (j' : Int) + 1) = true := by simp <;> omega
            clear hcell
            go_upto_region 25 with fail
            refine wp_region_up (by kernel_rfl) (by kernel_rfl) ?_
            repeat (go_big_quiet_step (fail))
            refine wpQuiet_nil ?_
            rintro _ ⟨u, rfl⟩
            go_wp2_with fail
            go_roundw
            case rel => exact ⟨j' + 1 + 1, by go_num, by omega, next BV u.2⟩
            case measure => simp [intOf]; omega
        · have hjl' : (L.length : Int) ≤ (j : Int) := by omega
          have hln := fun ty => ZV.m.len Try.underlying26 ty
          rw [show (seen L).length = L.length by unfold seen; rw [kv_len]] at hln
          go_wp2_with (first
            | (go_at_call 16; refine (cwakes_any _).mono ?_; rintro e w27 ⟨rfl, b27⟩)
            | (go_at_call 15; refine (co_len ZV.c).mono ?_; rintro e w7 ⟨rfl, rfl⟩))
          go_ret
          exact ⟨rfl, next hBV b27⟩
      case round =>
        obtain ⟨j, rfl, hj, BV⟩ := hrel
        have ZV := Z2.below BV
        have slV := sl2.below BV
        have hBV := next hB2 BV
        by_cases hjl : j < L.length
        · obtain ⟨bq, oq, rfl, hbq, hcq⟩ := slV.at (k := j) hjl
          have hcell : ∀ t e, L[t]? = some e → wr.cell? ⟨bq, oq + t, none⟩ = some (.int .i64 e.n) := fun t e he => by
            have ht : t < L.length := (List.getElem?_eq_some_iff.1 he).1
            obtain ⟨b', o', e', _, hc'⟩ := slV.at (k := t) ht
            simp at e'
            obtain ⟨rfl, rfl⟩ := e'
            rw [hc', List.getElem?_map, he]
            rfl
          clear hcq
          have hjl' : (j : Int) < (L.length : Int) := by omega
          obtain ⟨e, he⟩ : ∃ e, L[j]? = some e := ⟨_, List.getElem?_eq_getElem hjl⟩
          have hej := hcell j e he
          have hem := List.mem_of_getElem? he
          have hein : In64 e.n := (ZV.c.inn e hem).1
          have heh : hasL L e.n = true := getK_isSome.2 ⟨e, hem, rfl⟩
          have ul : ∀ u : Up wr, (Instr.lookup 26 (.map (some bi)) (.int .i64 e.n) false).run Try.prog u.1 = .ok (.bool true) u.1 := fun u => by
            have := seen_look (ZV.m.below u.2) hein
            rw [heh] at this
            exact this
          have uc := @Up.cell
          cases j with
          | zero =>
            clear hcell
            rw [Nat.add_zero] at hej
            go_upto_region 25 with fail
            refine wp_region_up (by kernel_rfl) (by kernel_rfl) ?_
            repeat (go_big_quiet_step (fail))
            refine wpQuiet_nil ?_
            rintro _ ⟨u, rfl⟩
            go_wp2_with fail
            go_roundw
            case rel => exact ⟨1, by go_num, by omega, next BV u.2⟩
            case measure => simp [intOf]; omega
          | succ j' =>
            obtain ⟨e', he'⟩ : ∃ e', L[j']? = some e' := ⟨_, List.getElem?_eq_getElem (by omega)⟩
            have hej' := hcell j' e' he'
            have hlt : decide (e.n ≤ e'.n) = false := by
              have := List.pairwise_iff_getElem.1 hr j' (j' + 1) (by omega) hjl (by omega)
              have h1 : L[j'] = e' := (List.getElem?_eq_some_iff.1 he').2
              have h2 : L[j' + 1] = e := (List.getElem?_eq_some_iff.1 he).2
              rw [h1, h2] at this
              have : e'.n < e.n := this
              simp
              omega
            have hwj : wrap64 ((j' : Int) + 1 - 1) = j' := by rw [Int.add_sub_cancel]; exact IntWalk.wrap64_in _ (by omega)
            have hpos : decide ((0 : Int) < (j' : Int) + 1) = true := by simp <;> omega
            clear hcell
            go_upto_region 25 with fail
            refine wp_region_up (by kernel_rfl) (by kernel_rfl) ?_
            repeat (go_big_quiet_step (fail))
            refine wpQuiet_nil ?_
            rintro _ ⟨u, rfl⟩
            go_wp2_with fail
            go_roundw
            case rel => exact ⟨j' + 1 + 1, by go_num, by omega, next BV u.2⟩
            case measure => simp [intOf]; omega
        · have hjl' : (L.length : Int) ≤ (j : Int) := by omega
          have hln := fun ty => ZV.m.len Try.underlying26 ty
          rw [show (seen L).length = L.length by unfold seen; rw [kv_len]] at hln
          go_wp2_with (first
            | (go_at_call 16; refine (cwakes_any _).mono ?_; rintro e w27 ⟨rfl, b27⟩)
            | (go_at_call 15; refine (co_len ZV.c).mono ?_; rintro e w7 ⟨rfl, rfl⟩))
          go_ret
          exact ⟨rfl, next hBV b27⟩
end Go.Proofs.Yteikapeleagedaa
