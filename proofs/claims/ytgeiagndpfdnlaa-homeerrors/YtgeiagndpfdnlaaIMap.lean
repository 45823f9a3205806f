/- Maps from whole numbers, as lists of pairs: what is there (IM); what a look-up, a store, a delete make of them. Lists with a key (putK, delK). Conditions: as each theorem states them. -/
import Derived.Test.YtgeiagndpfdnlaaKeep
import Derived.Maps.OwnSet
import Derived.Maps.OwnOps
namespace Go.Proofs.Ytgeiagndpfdnlaa
open Go.RowKit Go.Maps
set_option linter.unusedVariables false

section
variable {α : Type} (key : α → Int)
def insK (r : α) : List α → List α
  | [] => [r]
  | q :: l => if key r < key q then r :: q :: l else q :: insK r l
/-- The list with r in the place of what had its key. -/
def putK (r : α) (l : List α) : List α := insK key r (l.filter (fun q => decide (key q ≠ key r)))
/-- The list without what has the key x. -/
def delK (x : Int) (l : List α) : List α := l.filter (fun q => decide (key q ≠ x))
def getK (x : Int) (l : List α) : Option α := l.find? (fun q => decide (key q = x))
/-- The keys rise. -/
def RiseK (l : List α) : Prop := l.Pairwise (fun a b => key a < key b)
variable {key}
theorem insK_perm (r : α) (l : List α) : (insK key r l).Perm (r :: l) := by
  induction l with
  | nil => exact List.Perm.refl _
  | cons q l ih =>
    unfold insK
    split
    · exact List.Perm.refl _
    · exact (List.Perm.cons q ih).trans (List.Perm.swap r q l)
theorem putK_perm (r : α) (l : List α) : (putK key r l).Perm (r :: delK key (key r) l) := insK_perm _ _
theorem mem_putK {r a : α} {l : List α} : a ∈ putK key r l ↔ a = r ∨ (a ∈ l ∧ key a ≠ key r) := by
  rw [(putK_perm r l).mem_iff]
  simp [delK]
theorem mem_delK {x : Int} {a : α} {l : List α} : a ∈ delK key x l ↔ a ∈ l ∧ key a ≠ x := by simp [delK]
theorem rise_ins {r : α} {l : List α} (h : RiseK key l) (hr : ∀ q ∈ l, key q ≠ key r) : RiseK key (insK key r l) := by
  induction l with
  | nil => exact List.pairwise_singleton _ _
  | cons q l ih =>
    have hl : RiseK key l := List.Pairwise.of_cons h
    have hq : ∀ u ∈ l, key q < key u := fun u hu => List.rel_of_pairwise_cons h hu
    unfold insK
    split
    · refine List.pairwise_cons.2 ⟨fun u hu => ?_, h⟩
      rcases List.mem_cons.1 hu with rfl | hu
      · assumption
      · have := hq u hu; omega
    · refine List.pairwise_cons.2 ⟨fun u hu => ?_, ih hl (fun u hu => hr u (List.mem_cons_of_mem _ hu))⟩
      rcases List.mem_cons.1 ((insK_perm r l).mem_iff.1 hu) with rfl | hu
      · have := hr q (List.mem_cons_self ..); omega
      · exact hq u hu
theorem rise_put {r : α} {l : List α} (h : RiseK key l) : RiseK key (putK key r l) := rise_ins (List.Pairwise.sublist List.filter_sublist h) (fun q hq => by simpa using (List.mem_filter.1 hq).2)
theorem rise_del {x : Int} {l : List α} (h : RiseK key l) : RiseK key (delK key x l) := List.Pairwise.sublist List.filter_sublist h
theorem delK_none {x : Int} {l : List α} (h : ∀ q ∈ l, key q ≠ x) : delK key x l = l := List.filter_eq_self.2 (fun q hq => decide_eq_true (h q hq))
theorem rise_ext {l m : List α} (hl : RiseK key l) (hm : RiseK key m) (h : ∀ a, a ∈ l ↔ a ∈ m) : l = m := by
  induction l generalizing m with
  | nil =>
    cases m with
    | nil => rfl
    | cons y m => exact absurd ((h y).2 (List.mem_cons_self ..)) List.not_mem_nil
  | cons x l ih =>
    cases m with
    | nil => exact absurd ((h x).1 (List.mem_cons_self ..)) List.not_mem_nil
    | cons y m =>
      have hx : ∀ u ∈ l, key x < key u := fun u hu => List.rel_of_pairwise_cons hl hu
      have hy : ∀ u ∈ m, key y < key u := fun u hu => List.rel_of_pairwise_cons hm hu
      have e : x = y := by
        rcases List.mem_cons.1 ((h x).1 (List.mem_cons_self ..)) with e | e
        · exact e
        · rcases List.mem_cons.1 ((h y).2 (List.mem_cons_self ..)) with e' | e'
          · exact e'.symm
          · have := hx y e'; have := hy x e; omega
      subst e
      congr 1
      refine ih (List.Pairwise.of_cons hl) (List.Pairwise.of_cons hm) (fun a => ⟨fun ha => ?_, fun ha => ?_⟩)
      · rcases List.mem_cons.1 ((h a).1 (List.mem_cons_of_mem _ ha)) with e | e
        · have := hx a ha; rw [e] at this; omega
        · exact e
      · rcases List.mem_cons.1 ((h a).2 (List.mem_cons_of_mem _ ha)) with e | e
        · have := hy a ha; rw [e] at this; omega
        · exact e
theorem rise_inj {l : List α} (h : RiseK key l) {a b : α} (ha : a ∈ l) (hb : b ∈ l) (e : key a = key b) : a = b := by
  induction l with
  | nil => cases ha
  | cons x l ih =>
    have hx : ∀ u ∈ l, key x < key u := fun u hu => List.rel_of_pairwise_cons h hu
    rcases List.mem_cons.1 ha with ea | ha <;> rcases List.mem_cons.1 hb with eb | hb
    · rw [ea, eb]
    · have := hx b hb; rw [ea] at e; omega
    · have := hx a ha; rw [eb] at e; omega
    · exact ih (List.Pairwise.of_cons h) ha hb
theorem getK_mem {l : List α} (h : RiseK key l) {a : α} (ha : a ∈ l) : getK key (key a) l = some a := by
  unfold getK
  cases e : l.find? (fun q => decide (key q = key a)) with
  | none =>
    rw [List.find?_eq_none] at e
    have := e a ha
    simp at this
  | some b =>
    have hb := List.mem_of_find?_eq_some e
    have hk := List.find?_some e
    rw [rise_inj h hb ha (of_decide_eq_true hk)]
theorem getK_some {l : List α} {x : Int} {a : α} (h : getK key x l = some a) : a ∈ l ∧ key a = x := ⟨List.mem_of_find?_eq_some h, of_decide_eq_true (List.find?_some (p := fun q => decide (key q = x)) h)⟩
theorem getK_none {l : List α} {x : Int} : getK key x l = none ↔ ∀ q ∈ l, key q ≠ x := by unfold getK; rw [List.find?_eq_none]; simp
theorem nodup_rise {l : List α} (h : RiseK key l) : l.Nodup := List.Pairwise.imp (fun h e => by rw [e] at h; omega) h
theorem delK_one {l : List α} (h : RiseK key l) {a : α} (ha : a ∈ l) : (a :: delK key (key a) l).Perm l := by
  induction l with
  | nil => cases ha
  | cons y l ih =>
    have hy : ∀ u ∈ l, key y < key u := fun u hu => List.rel_of_pairwise_cons h hu
    rcases List.mem_cons.1 ha with rfl | ha
    · have e : delK key (key a) (a :: l) = l := by
        unfold delK
        rw [List.filter_cons_of_neg (by simp)]
        exact delK_none (fun q hq => by have := hy q hq; omega)
      rw [e]
    · have e : delK key (key a) (y :: l) = y :: delK key (key a) l := by
        unfold delK
        rw [List.filter_cons_of_pos (by have := hy a ha; simp; omega)]
      rw [e]
      exact (List.Perm.swap y a _).trans (List.Perm.cons y (ih (List.Pairwise.of_cons h) ha))
end
/-- Values, as they are. -/
def asIs (v : Value) : Option (DataW Value × List MemPlace) := some (.held v, [])
def pairsD (l : List (Int × Value)) : List (Lit × DataW Value) := l.map fun p => (Lit.int .i64 p.1, .held p.2)
/-- Block b is a map from whole numbers, with just these pairs. -/
def IM (w : World) (b : Nat) (l : List (Int × Value)) : Prop := w.ownsMap Try.prog 3 asIs b l.length (.map (pairsD l))
def In64 (x : Int) : Prop := -9223372036854775808 ≤ x ∧ x ≤ 9223372036854775807
theorem In64.wf {x : Int} (h : In64 x) : (Lit.int .i64 x).wf = true := by
  unfold In64 at h
  simp [Lit.wf, IntKind.min, IntKind.max, IntKind.signed, IntKind.bits]
  omega
theorem keyI {x : Int} (h : In64 x) : keyOf Try.prog 3 (.int .i64 x) = some (.int .i64 x) := Maps.keyOf_int_mk Try.underlying3 h.wf
theorem keyedI : Keyed Try.prog 3 := Maps.int_keyed Try.underlying3
section
variable {w w' : World} {b n : Nat} {l : List (Int × Value)} {D : DataW Value}
theorem im_of (h : w.ownsMap Try.prog 3 asIs b n (.map (pairsD l))) : IM w b l := by
  obtain ⟨es, clock, hb, F, hs, hD⟩ := h
  refine ⟨es, clock, hb, F, ?_, hD⟩
  have e : pairsD l = (es.toList.map (WideElems.rg Try.prog 3 asIs)).foldr DataW.insert [] := by injection hD
  have := congrArg List.length e
  rw [length_read] at this
  simp [pairsD] at this
  omega
theorem im_made (w : World) : IM (w.alloc (.map #[] 0)) w.heap.size [] := World.ownsMap_made w _ _ _
theorem IM.lt (h : IM w b l) : b < w.heap.size := World.ownsMap.lt h
theorem IM.keep {F : Nat → Prop} (h : IM w b l) (hk : Keep F w w') (hF : ¬ F b) : IM w' b l := by
  have hlt := h.lt
  obtain ⟨es, clock, hb, F1, hs, hD⟩ := h
  exact ⟨es, clock, (hk.block b hlt hF).trans hb, F1, hs, hD⟩
theorem IM.below (h : IM w b l) (hb : Below w.heap.size w w') : IM w' b l := h.keep (F := fun _ => False) (Keep.of_below hb) id
theorem turned_keep (h : w.mapTurned w' b) : Keep (fun j => j = b) w w' := (Keep.grown h.grown).mono (fun k _ h => by simpa using h)
theorem turned_size (h : w.mapTurned w' b) : w'.heap.size = w.heap.size := by
  obtain ⟨es, c, es', c', _, rfl⟩ := h
  simp [ChangeMaps.setBlock]
theorem pairs_get (x : Int) (zd : DataW Value) (l : List (Int × Value)) : (DataW.map (pairsD l)).atKey (.int .i64 x) zd = match getK Prod.fst x l with | some p => .held p.2 | none => zd := by
  simp only [DataW.atKey]
  unfold getK pairsD
  rw [List.find?_map]
  have e : ((fun p : Lit × DataW Value => p.1.sameKey (.int .i64 x)) ∘ fun p : Int × Value => (Lit.int .i64 p.1, DataW.held p.2)) = (fun q : Int × Value => decide (q.1 = x)) := by
    funext q
    simp [Lit.sameKey]
  simp only [e]
  cases List.find? (fun q : Int × Value => decide (q.1 = x)) l <;> rfl
theorem pairs_has (x : Int) (l : List (Int × Value)) : Maps.has (DataW.map (pairsD l)) (.int .i64 x) = (getK Prod.fst x l).isSome := by
  show (pairsD l).any (fun p => p.1.sameKey (.int .i64 x)) = _
  unfold pairsD getK
  rw [List.any_map, Bool.eq_iff_iff, List.any_eq_true, List.find?_isSome]
  constructor
  · rintro ⟨q, hq, h⟩
    exact ⟨q, hq, by simpa [Lit.sameKey] using h⟩
  · rintro ⟨q, hq, h⟩
    exact ⟨q, hq, by simpa [Lit.sameKey] using h⟩
theorem pairs_filter (x : Int) (l : List (Int × Value)) : (pairsD l).filter (fun p => !p.1.sameKey (.int .i64 x)) = pairsD (delK Prod.fst x l) := by
  unfold pairsD delK
  rw [List.filter_map]
  congr 1
  apply List.filter_congr
  intro q _
  simp [Lit.sameKey]
theorem pairs_ins (x : Int) (v : Value) (l : List (Int × Value)) : DataW.insert (.int .i64 x, .held v) (pairsD l) = pairsD (insK Prod.fst (x, v) l) := by
  induction l with
  | nil => rfl
  | cons q l ih =>
    have e : pairsD (q :: l) = (Lit.int .i64 q.1, DataW.held q.2) :: pairsD l := rfl
    rw [e, DataW.insert.eq_2]
    unfold insK
    by_cases h : x < q.1
    · rw [if_pos (by simp [Lit.before, h]), if_pos h]; rfl
    · rw [if_neg (by simp [Lit.before, h]), if_neg h, ih]; rfl
theorem pairs_put (x : Int) (v : Value) (l : List (Int × Value)) : (DataW.map (pairsD l)).put (.int .i64 x) (.held v) = .map (pairsD (putK Prod.fst (x, v) l)) := by
  unfold DataW.put
  simp only [pairs_filter, pairs_ins]
  rfl
theorem pairs_del (x : Int) (l : List (Int × Value)) : (DataW.map (pairsD l)).del (.int .i64 x) = .map (pairsD (delK Prod.fst x l)) := by
  unfold DataW.del
  simp only [pairs_filter]
/-- What stands at x, or the zero value. -/
def atI (x : Int) (z : Value) (l : List (Int × Value)) : Value := match getK Prod.fst x l with | some p => p.2 | none => z
theorem IM.look_ok {t e : TypeId} (h : IM w b l) (ht : Try.prog.underlying t = some (.map 3 e)) {z : Value} (hz : (zeroValue e).run Try.prog w = .ok z w) {x : Int} (hx : In64 x) :
    (Instr.lookup t (.map (some b)) (.int .i64 x) true).run Try.prog w = .ok (.tuple #[atI x z l, .bool (getK Prod.fst x l).isSome]) w := by
  obtain ⟨v, ps, hrun, hv⟩ := World.ownsMap.look_ok h keyedI ht hz (zd := .held z) (zp := []) rfl (keyI hx)
  rw [pairs_get, pairs_has] at *
  unfold asIs at hv
  unfold atI
  cases hg : getK Prod.fst x l with
  | none => rw [hg] at hv hrun; simp at hv; rw [hrun, hv.1]
  | some p => rw [hg] at hv hrun; simp at hv; rw [hrun, hv.1]
theorem IM.look {t e : TypeId} (h : IM w b l) (ht : Try.prog.underlying t = some (.map 3 e)) {z : Value} (hz : (zeroValue e).run Try.prog w = .ok z w) {x : Int} (hx : In64 x) :
    (Instr.lookup t (.map (some b)) (.int .i64 x) false).run Try.prog w = .ok (atI x z l) w := by
  obtain ⟨v, ps, hrun, hv⟩ := World.ownsMap.lookup h keyedI ht hz (zd := .held z) (zp := []) rfl (keyI hx)
  rw [pairs_get] at hv
  unfold asIs at hv
  unfold atI
  cases hg : getK Prod.fst x l with
  | none => rw [hg] at hv; simp at hv; rw [hrun, hv.1]
  | some p => rw [hg] at hv; simp at hv; rw [hrun, hv.1]
theorem IM.len {t e : TypeId} (h : IM w b l) (ht : Try.prog.underlying t = some (.map 3 e)) (ty : TypeId) : (Builtin.len_ #[t] ty #[.map (some b)]).run Try.prog w = .ok (.int .i64 l.length) w := by
  have := World.ownsMap.len h ht ty
  simpa [Maps.size, pairsD] using this
theorem IM.store {t e : TypeId} (h : IM w b l) (ht : Try.prog.underlying t = some (.map 3 e)) (hn : l.length < maxLen) {x : Int} (hx : In64 x) (v : Value) :
    ∃ w', (Instr.mapUpdate t (.map (some b)) (.int .i64 x) v).run Try.prog w = .ok () w' ∧ IM w' b (putK Prod.fst (x, v) l) ∧ w.mapTurned w' b := by
  obtain ⟨w', hrun, ho, ht'⟩ := World.ownsMap.store h keyedI ht hn (keyI hx) (d := .held v) (ps := []) rfl
  rw [pairs_put] at ho
  exact ⟨w', hrun, im_of ho, ht'⟩
theorem IM.drop {t e : TypeId} (h : IM w b l) (ht : Try.prog.underlying t = some (.map 3 e)) {x : Int} (hx : In64 x) (ty : TypeId) :
    ∃ w', (Builtin.delete_ #[t, 3] ty #[.map (some b), .int .i64 x]).run Try.prog w = .ok (.tuple #[]) w' ∧ IM w' b (delK Prod.fst x l) ∧ w.mapTurned w' b := by
  obtain ⟨w', hrun, ho, ht'⟩ := World.ownsMap.drop h keyedI ht (keyI hx) ty
  rw [pairs_del] at ho
  exact ⟨w', hrun, im_of ho, ht'⟩
end
/-- Pairs of a list with a key. -/
def kv {α : Type} (key : α → Int) (val : α → Value) (l : List α) : List (Int × Value) := l.map fun a => (key a, val a)
section
variable {α : Type} {key : α → Int} {val : α → Value}
theorem kv_del (x : Int) (l : List α) : delK Prod.fst x (kv key val l) = kv key val (delK key x l) := by
  unfold delK kv
  rw [List.filter_map]
  rfl
theorem kv_ins (r : α) (l : List α) : insK Prod.fst (key r, val r) (kv key val l) = kv key val (insK key r l) := by
  induction l with
  | nil => rfl
  | cons q l ih =>
    have e : kv key val (q :: l) = (key q, val q) :: kv key val l := rfl
    rw [e]
    unfold insK
    by_cases h : key r < key q
    · rw [if_pos h, if_pos h]; rfl
    · rw [if_neg h, if_neg h, ih]; rfl
theorem kv_put (r : α) (l : List α) : putK Prod.fst (key r, val r) (kv key val l) = kv key val (putK key r l) := by
  have := kv_del (key := key) (val := val) (key r) l
  unfold putK
  unfold delK at this
  rw [this, kv_ins]
theorem kv_get (x : Int) (l : List α) : getK Prod.fst x (kv key val l) = (getK key x l).map (fun a => (key a, val a)) := by
  unfold getK kv
  rw [List.find?_map]
  rfl
theorem kv_len (l : List α) : (kv key val l).length = l.length := by simp [kv]
theorem kv_at (x : Int) (z : Value) (l : List α) : atI x z (kv key val l) = match getK key x l with | some a => val a | none => z := by
  unfold atI
  rw [kv_get]
  cases getK key x l <;> rfl
end
section
variable {α β : Type} {key : α → Int} {key' : β → Int} {f : α → β}
theorem map_delK (h : ∀ a, key' (f a) = key a) (x : Int) (l : List α) : (delK key x l).map f = delK key' x (l.map f) := by
  unfold delK
  rw [List.filter_map]
  congr 1
  apply List.filter_congr
  intro q _
  simp [h]
theorem map_insK (h : ∀ a, key' (f a) = key a) (r : α) (l : List α) : (insK key r l).map f = insK key' (f r) (l.map f) := by
  induction l with
  | nil => rfl
  | cons q l ih =>
    rw [List.map_cons]
    unfold insK
    rw [h, h]
    split
    · rfl
    · rw [List.map_cons, ih]
theorem map_putK (h : ∀ a, key' (f a) = key a) (r : α) (l : List α) : (putK key r l).map f = putK key' (f r) (l.map f) := by
  have e := map_delK h (key r) l
  unfold putK
  unfold delK at e
  rw [map_insK h, e, h]
theorem map_getK (h : ∀ a, key' (f a) = key a) (x : Int) (l : List α) : getK key' x (l.map f) = (getK key x l).map f := by
  unfold getK
  rw [List.find?_map]
  congr 2
  funext q
  simp [h]
theorem putK_delK (r : α) (l : List α) : putK key r (delK key (key r) l) = putK key r l := by
  unfold putK delK
  rw [List.filter_filter]
  simp
theorem putK_len (r : α) (l : List α) : (putK key r l).length ≤ l.length + 1 := by
  rw [(putK_perm r l).length_eq, List.length_cons]
  have := List.length_filter_le (fun q => decide (key q ≠ key r)) l
  unfold delK
  omega
theorem putK_len_at {l : List α} (hl : RiseK key l) {a r : α} (ha : a ∈ l) (he : key r = key a) : (putK key r l).length = l.length := by
  rw [(putK_perm r l).length_eq, List.length_cons, he, ← (delK_one hl ha).length_eq, List.length_cons]
theorem delK_len (x : Int) (l : List α) : (delK key x l).length ≤ l.length := List.length_filter_le _ _
end
/-- A list whose keys are all less: the new one stands last. -/
theorem putK_last {α : Type} {key : α → Int} {r : α} {l : List α} (h : ∀ q ∈ l, key q < key r) : putK key r l = l ++ [r] := by
  have e : l.filter (fun q => decide (key q ≠ key r)) = l := List.filter_eq_self.2 (fun q hq => decide_eq_true (by have := h q hq; omega))
  unfold putK
  rw [e]
  clear e
  induction l with
  | nil => rfl
  | cons q l ih =>
    have := h q (List.mem_cons_self ..)
    unfold insK
    rw [if_neg (by omega), ih (fun u hu => h u (List.mem_cons_of_mem _ hu))]
    rfl
/-- What is there is put there again: nothing else is. -/
theorem putK_same {α : Type} {key : α → Int} {l : List α} (h : RiseK key l) {a : α} (ha : a ∈ l) : putK key a l = l := by
  refine rise_ext (rise_put h) h (fun q => ?_)
  rw [mem_putK]
  constructor
  · rintro (rfl | ⟨hq, _⟩)
    · exact ha
    · exact hq
  · intro hq
    by_cases e : key q = key a
    · exact .inl (rise_inj h hq ha e)
    · exact .inr ⟨hq, e⟩
end Go.Proofs.Ytgeiagndpfdnlaa
