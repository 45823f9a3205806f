/- The contracts of package cache, over plain data (Cc): New, Len, Lines, Find, Full, Victim, Put, Touch, Drop. Conditions: as each theorem states them. -/
import Derived.Test.YtfobgkkmbacfjaaCc4
import Derived.Test.YtfobgkkmbacfjaaCc5
namespace Go.Proofs.Ytfobgkkmbacfjaa
open Go.RowKit Go.Maps
set_option linter.unusedVariables false
set_option maxRecDepth 20000

/-- A cache of the program: it may write the blocks of M; its words lie in those of D. -/
def Cc (w : World) (g : Nat) (M D : Nat → Prop) (S W k : Int) (L : List En) : Prop := ∃ be bo R O, CW w g be bo M D S W k R O ∧ R.map Prod.fst = L ∧ Good S k L O
def hasL (L : List En) (n : Int) : Bool := (getK nOf n L).isSome
def entL (L : List En) (n : Int) : En := (getK nOf n L).getD zeroEn
/-- Whether a line's set has no way left. -/
def fullL (S W : Int) (L : List En) (n : Int) : Bool := !hasL L n && decide (W ≤ (inSet S L (setI S n)).length)
/-- What Put answers; the clock, the entries then. -/
def putR (S W k : Int) (L : List En) (x : En) : Int × Int × List En :=
  if x.n < 0 then (1, k, L) else if hasL L x.n then (0, k, putK nOf { x with u := (entL L x.n).u } L) else if fullL S W L x.n then (5, k, L) else (0, k + 1, putK nOf { x with u := k + 1 } L)
def touchR (k : Int) (L : List En) (n : Int) : Int × List En := if hasL L n then (k + 1, putK nOf { entL L n with u := k + 1 } L) else (k, L)
/-- The line that goes for another one (none: 0, false). -/
def IsVic (S : Int) (L : List En) (n v : Int) (ok : Bool) : Prop :=
  (ok = false ∧ v = 0 ∧ inSet S L (setI S n) = []) ∨ (ok = true ∧ ∃ e ∈ inSet S L (setI S n), e.n = v ∧ ∀ y ∈ inSet S L (setI S n), y ≠ e → e.u < y.u)
theorem getK_isSome {α : Type} {key : α → Int} {l : List α} {n : Int} : (getK key n l).isSome = true ↔ ∃ a ∈ l, key a = n := by
  cases h : getK key n l with
  | none =>
    rw [getK_none] at h
    simp
    exact fun a ha => h a ha
  | some a =>
    obtain ⟨h1, h2⟩ := getK_some h
    simp
    exact ⟨a, h1, h2⟩
section
variable {w w' : World} {g be bo : Nat} {M D F : Nat → Prop} {S W k : Int} {L : List En} {R : List (En × Value)} {O : List OE}
theorem Cc.keep (h : Cc w g M D S W k L) (hk : Keep F w w') (hF : ∀ k, M k ∨ D k → ¬ F k) : Cc w' g M D S W k L := by
  obtain ⟨be, bo, R, O, h1, h2, h3⟩ := h
  exact ⟨be, bo, R, O, h1.keep hk hF, h2, h3⟩
theorem Cc.below (h : Cc w g M D S W k L) (hb : Below w.heap.size w w') : Cc w' g M D S W k L := h.keep (F := fun _ => False) (Keep.of_below hb) (fun _ _ h => h)
theorem Cc.old (h : Cc w g M D S W k L) : ∀ j, M j ∨ D j → j < w.heap.size := by
  obtain ⟨be, bo, R, O, h1, h2, h3⟩ := h
  exact h1.old
theorem Cc.rise (h : Cc w g M D S W k L) : RiseK nOf L := by
  obtain ⟨be, bo, R, O, h1, h2, h3⟩ := h
  exact h3.rise
theorem Cc.len (h : Cc w g M D S W k L) : (L.length : Int) ≤ k := by
  obtain ⟨be, bo, R, O, h1, h2, h3⟩ := h
  exact h3.len.1
theorem Cc.inn (h : Cc w g M D S W k L) : ∀ e ∈ L, In64 e.n ∧ 0 ≤ e.n := by
  obtain ⟨be, bo, R, O, h1, rfl, h3⟩ := h
  intro e he
  obtain ⟨r, hr, rfl⟩ := List.mem_map.1 he
  exact h1.inn r hr
theorem Cc.pos (h : Cc w g M D S W k L) : 1 ≤ S ∧ 0 ≤ k := by
  obtain ⟨be, bo, R, O, h1, rfl, h3⟩ := h
  exact ⟨h1.pos.1, h3.k0⟩
theorem has_map (R : List (En × Value)) (n : Int) : hasE R n = hasL (R.map Prod.fst) n := by
  unfold hasE hasL
  rw [map_getK (key := eKey) (key' := nOf) (fun _ => rfl)]
  cases getK eKey n R <;> rfl
theorem ent_map (R : List (En × Value)) (n : Int) : (entAt R n).1 = entL (R.map Prod.fst) n := by
  unfold entAt entL
  rw [map_getK (key := eKey) (key' := nOf) (fun _ => rfl)]
  cases getK eKey n R <;> rfl
theorem put_map (r : En × Value) (R : List (En × Value)) : (putK eKey r R).map Prod.fst = putK nOf r.1 (R.map Prod.fst) := map_putK (fun _ => rfl) r R
theorem del_map (n : Int) (R : List (En × Value)) : (delK eKey n R).map Prod.fst = delK nOf n (R.map Prod.fst) := map_delK (fun _ => rfl) n R
theorem ordLen_eq (O : List OE) (s : Int) : ordLen O s = (ordL O s).length := by
  unfold ordLen ordL
  cases getK OE.s s O <;> rfl
theorem Good.full (h : Good S k (R.map Prod.fst) O) (n : Int) : fullO W R O (setI S n) n = fullL S W (R.map Prod.fst) n := by
  unfold fullO fullL
  rw [has_map, ordLen_eq, (h.ords (setI S n)).len]
theorem hasL_mem {L : List En} {n : Int} (h : hasL L n = true) : entL L n ∈ L ∧ (entL L n).n = n := by
  unfold hasL at h
  unfold entL
  cases hg : getK nOf n L with
  | none => rw [hg] at h; cases h
  | some e => exact getK_some hg
theorem hasL_no {L : List En} {n : Int} (h : hasL L n = false) : ∀ e ∈ L, e.n ≠ n := by
  unfold hasL at h
  rw [Option.isSome_eq_false_iff, Option.isNone_iff_eq_none] at h
  exact getK_none.1 h
theorem cc_new (sets ways : Int) (w : World) (hs : In64 sets) :
    Calls Try.prog 9 #[.int .i64 sets, .int .i64 ways] w fun e w' => ∃ g, e = .returned (.pointer (some ⟨g, 0, none⟩)) ∧ Below w.heap.size w w' ∧
      Cc w' g (fun j => w.heap.size ≤ j ∧ j < w'.heap.size) (fun _ => False) (max sets 1) (max ways 1) 0 [] := by
  refine (CC.new_any sets ways w hs).mono ?_
  rintro e w' ⟨g, be, bo, rfl, hb, h⟩
  exact ⟨g, rfl, hb, be, bo, [], [], h, rfl, good_nil _⟩
theorem cc_len (h : Cc w g M D S W k L) : Calls Try.prog 48 #[.pointer (some ⟨g, 0, none⟩)] w fun e w' => e = .returned (.int .i64 L.length) ∧ w = w' := by
  obtain ⟨be, bo, R, O, h1, rfl, h3⟩ := h
  rw [List.length_map]
  exact CC.len_any h1
theorem cc_lines (h : Cc w g M D S W k L) (hk : k < 1000000) : Calls Try.prog 49 #[.pointer (some ⟨g, 0, none⟩)] w fun e w' => ∃ v, e = .returned v ∧ Own w' w.heap.size v (L.map nOf) ∧ Below w.heap.size w w' := by
  have hl := h.len
  obtain ⟨be, bo, R, O, h1, rfl, h3⟩ := h
  rw [List.length_map] at hl
  rw [List.map_map]
  exact CC.lines_any h1 (by omega)
theorem cc_find (h : Cc w g M D S W k L) {n : Int} (hn : In64 n) : Calls Try.prog 21 #[.pointer (some ⟨g, 0, none⟩), .int .i64 n] w fun e w' =>
    ∃ a cap, e = .returned (.tuple #[(entL L n).val (.slice a (entL L n).z.length cap), .bool (hasL L n)]) ∧ Own w' w.heap.size (.slice a (entL L n).z.length cap) (entL L n).z ∧ Below w.heap.size w w' := by
  obtain ⟨be, bo, R, O, h1, rfl, h3⟩ := h
  have := CC.find_any h1 hn
  rw [has_map, ent_map] at this
  exact this
theorem cc_full (h : Cc w g M D S W k L) {n : Int} (hn : In64 n) : Calls Try.prog 25 #[.pointer (some ⟨g, 0, none⟩), .int .i64 n] w fun e w' => e = .returned (.bool (fullL S W L n)) ∧ Below w.heap.size w w' := by
  obtain ⟨be, bo, R, O, h1, rfl, h3⟩ := h
  have := CC.full_any h1 hn
  rw [h3.full] at this
  exact this
theorem cc_victim (h : Cc w g M D S W k L) (n : Int) : Calls Try.prog 23 #[.pointer (some ⟨g, 0, none⟩), .int .i64 n] w fun e w' => ∃ v ok, e = .returned (.tuple #[.int .i64 v, .bool ok]) ∧ IsVic S L n v ok ∧ Below w.heap.size w w' := by
  obtain ⟨be, bo, R, O, h1, rfl, h3⟩ := h
  refine (CC.victim_any h1 h3.ne n).mono ?_
  rintro e w' ⟨rfl, hb⟩
  refine ⟨_, _, rfl, ?_, hb⟩
  have hord := h3.ords (setI S n)
  unfold vicO
  unfold ordL at hord
  cases hg : getK OE.s (setI S n) O with
  | none =>
    rw [hg] at hord
    obtain ⟨es, e1, e2, _⟩ := hord
    have : es = [] := List.map_eq_nil_iff.1 e1
    rw [this] at e2
    exact .inl ⟨rfl, rfl, e2.nil_eq.symm⟩
  | some p =>
    rw [hg] at hord
    obtain ⟨hp, hps⟩ := getK_some hg
    obtain ⟨es, e1, e2, e3⟩ := hord
    simp only at e1
    cases es with
    | nil => exact absurd e1.symm (h3.ne p hp)
    | cons e es =>
      refine .inr ⟨rfl, e, e2.mem_iff.1 (List.mem_cons_self ..), by show e.n = p.l[0]?.getD 0; rw [← e1]; rfl, fun y hy hne => ?_⟩
      rcases List.mem_cons.1 (e2.mem_iff.2 hy) with rfl | hy'
      · exact absurd rfl hne
      · exact List.rel_of_pairwise_cons e3 hy'
theorem cc_put (h : Cc w g M D S W k L) (hk : k < 1000000) (x : En) (a : Option Addr) (n cap : Nat) (hs : Sl w a n cap x.z) (hsM : ∀ y : Addr, a = some y → ¬ M y.block) (hb : n ≤ 17592186044416) (hx : In64 x.n) :
    Calls Try.prog 13 #[.pointer (some ⟨g, 0, none⟩), x.val (.slice a n cap)] w fun e w' => e = .returned (.int .i64 (putR S W k L x).1) ∧ Keep M w w' ∧
      ∃ M' D', (∀ j, M' j → M j ∨ w.heap.size ≤ j) ∧ (∀ j, D' j → D j ∨ w.heap.size ≤ j) ∧ Cc w' g M' D' S W (putR S W k L x).2.1 (putR S W k L x).2.2 := by
  have h0 := h
  have hl := h.len
  obtain ⟨be, bo, R, O, h1, rfl, h3⟩ := h
  rw [List.length_map] at hl
  have hk0 := h3.k0
  have hO := h3.len.2
  unfold putR
  by_cases hneg : x.n < 0
  · rw [if_pos hneg]
    refine (CC.put_neg h1 x a n cap hs hb hx hneg).mono ?_
    rintro e w' ⟨rfl, hb⟩
    exact ⟨rfl, Keep.of_below hb, M, D, fun j h => .inl h, fun j h => .inl h, h0.below hb⟩
  · rw [if_neg hneg]
    cases hh : hasL (R.map Prod.fst) x.n with
    | true =>
      rw [if_pos rfl]
      refine (CC.put_at h1 x a n cap hs hb hx (by omega) ((has_map R x.n).trans hh) (by omega)).mono ?_
      rintro e w' ⟨rfl, hK, D', d, hD, hC⟩
      rw [ent_map] at hC
      obtain ⟨m1, m2⟩ := hasL_mem hh
      refine ⟨rfl, hK, M, D', fun j h => .inl h, hD, be, bo, _, O, hC, put_map _ _, h3.putAt m1 m2.symm rfl⟩
    | false =>
      rw [if_neg (by simp)]
      cases hf : fullL S W (R.map Prod.fst) x.n with
      | true =>
        rw [if_pos rfl]
        refine (CC.put_full h1 x a n cap hs hb hx (by omega) ((has_map R x.n).trans hh) ((h3.full x.n).trans hf)).mono ?_
        rintro e w' ⟨rfl, hb⟩
        exact ⟨rfl, Keep.of_below hb, M, D, fun j h => .inl h, fun j h => .inl h, h0.below hb⟩
      | false =>
        rw [if_neg (by simp)]
        have ho := h3.ordsLe (setI S x.n)
        refine (CC.put_new h1 x a n cap hs hsM hb hx (by omega) ((has_map R x.n).trans hh) ((h3.full x.n).trans hf) (by omega) ⟨hk0, by omega⟩ (by omega) (by omega)).mono ?_
        rintro e w' ⟨rfl, hK, M', D', d, p, hM, hD, hp1, hp2, hC⟩
        refine ⟨rfl, hK, M', D', hM, hD, be, bo, _, _, hC, put_map _ _, h3.putNew (x := { x with u := k + 1 }) (hasL_no hh) rfl hp1 hp2⟩
theorem cc_touch (h : Cc w g M D S W k L) (hk : k < 1000000) {n : Int} (hn : In64 n) :
    Calls Try.prog 19 #[.pointer (some ⟨g, 0, none⟩), .int .i64 n] w fun e w' => e = .returned (.bool (hasL L n)) ∧ Keep M w w' ∧
      ∃ M', (∀ j, M' j → M j ∨ w.heap.size ≤ j) ∧ Cc w' g M' D S W (touchR k L n).1 (touchR k L n).2 := by
  have h0 := h
  have hl := h.len
  obtain ⟨be, bo, R, O, h1, rfl, h3⟩ := h
  rw [List.length_map] at hl
  have hk0 := h3.k0
  have hO := h3.len.2
  unfold touchR
  cases hh : hasL (R.map Prod.fst) n with
  | false =>
    rw [if_neg (by simp)]
    refine (CC.touch_no h1 hn ((has_map R n).trans hh)).mono ?_
    rintro e w' ⟨rfl, hb⟩
    exact ⟨rfl, Keep.of_below hb, M, fun j h => .inl h, h0.below hb⟩
  | true =>
    rw [if_pos rfl]
    obtain ⟨m1, m2⟩ := hasL_mem hh
    obtain ⟨p, i, hp, hi, hj⟩ := h3.at m1
    have hlv := h3.leave m1 hp hi
    have hpo : p.l = ordL O (setI S (entL (R.map Prod.fst) n).n) := by unfold ordL; rw [hp]
    have hpl := h3.ordsLe (setI S (entL (R.map Prod.fst) n).n)
    rw [← hpo] at hpl
    have hlo := hlv.ordsLe (setI S (entL (R.map Prod.fst) n).n)
    have hlO := hlv.len.2
    rw [m2] at hp hi hj hlo
    refine (CC.touch_ok h1 hn ((has_map R n).trans hh) (by omega) ⟨hk0, by omega⟩ (by omega) hp (by omega) hi hj (by omega) (by omega)).mono ?_
    rintro e w' ⟨rfl, hK, M', q, hM, hq1, hq2, hC⟩
    rw [ent_map] at hC
    refine ⟨rfl, hK, M', hM, be, bo, _, _, hC, put_map _ _, h3.touch m1 (p := p) (q := q) (i := i) (by rw [m2]; exact hp) (by rw [m2]; exact hi) (by rw [m2]; exact hq1) (by rw [m2]; exact hq2)⟩
theorem cc_drop_no (h : Cc w g M D S W k L) {n : Int} (hn : In64 n) (hh : hasL L n = false) :
    Calls Try.prog 16 #[.pointer (some ⟨g, 0, none⟩), .int .i64 n] w fun e w' => e = .returned (.tuple #[zeroEn.val (.slice none 0 0), .bool false]) ∧ Below w.heap.size w w' := by
  obtain ⟨be, bo, R, O, h1, rfl, h3⟩ := h
  exact CC.drop_no h1 hn ((has_map R n).trans hh)
theorem cc_drop (h : Cc w g M D S W k L) (hk : k < 1000000) {n : Int} (hn : In64 n) (hh : hasL L n = true) :
    Calls Try.prog 16 #[.pointer (some ⟨g, 0, none⟩), .int .i64 n] w fun e w' => ∃ d, e = .returned (.tuple #[(entL L n).val d, .bool true]) ∧ Keep M w w' ∧ DatZ w' D (entL L n).z d ∧ Cc w' g M D S W k (delK nOf n L) := by
  have hl := h.len
  obtain ⟨be, bo, R, O, h1, rfl, h3⟩ := h
  rw [List.length_map] at hl
  have hO := h3.len.2
  obtain ⟨m1, m2⟩ := hasL_mem hh
  obtain ⟨p, i, hp, hi, hj⟩ := h3.at m1
  have hlv := h3.leave m1 hp hi
  have hpo : p.l = ordL O (setI S (entL (R.map Prod.fst) n).n) := by unfold ordL; rw [hp]
  have hpl := h3.ordsLe (setI S (entL (R.map Prod.fst) n).n)
  rw [← hpo] at hpl
  rw [m2] at hp hi hj hlv
  refine (CC.drop_ok h1 hn ((has_map R n).trans hh) (by omega) hp (by omega) hi hj).mono ?_
  rintro e w' ⟨rfl, hK, hD, hC⟩
  rw [ent_map] at hD ⊢
  exact ⟨_, rfl, hK, hD, be, bo, _, _, hC, del_map _ _, hlv⟩
end
end Go.Proofs.Ytfobgkkmbacfjaa
