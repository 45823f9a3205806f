/- The contract of chapletplay.Programs. Conditions: as each theorem states them. -/
import Derived.Test.YtpagdfmajeodiaaOpsWalks2
import Derived.Test.YtpagdfmajeodiaaTake2
import Derived.Maps.AppendAt
import Derived.Deep.OwnRows
namespace Go.Proofs.Ytpagdfmajeodiaa
open Go.RowKit
set_option linter.unusedVariables false

theorem at_any (a : Option Addr) (l : List Int) (n cap i : Nat) (w : World) (hsl : Sl w a n cap l) (hi : i ≤ 1000000) :
    Calls Try.prog 27 #[.slice a n cap, .int .i64 (i : Int)] w fun e w' => e = .returned (.int .i64 (l[i]?.getD 0)) ∧ w = w' := by
  have hl := hsl.len
  have hle := hsl.le
  have hmx := hsl.max
  unfold maxLen at hmx
  by_cases h : i < n
  · have h' : (i : Int) < (n : Int) := by omega
    rcases hsl.row with e | ⟨b, o, rfl, hc⟩
    · rw [e] at hl; simp at hl; omega
    have hx := hc i (by omega)
    generalize l[i]?.getD 0 = x at *
    clear hc
    go_enter Try.func27, Try.ntmps27
    go_wp2
    go_ret
    exact ⟨rfl, rfl⟩
  · have h' : (n : Int) ≤ (i : Int) := by omega
    have HX : Hid (l[i]?.getD 0 = 0) := by unfold Hid; rw [List.getElem?_eq_none (by omega)]; rfl
    go_enter Try.func27, Try.ntmps27
    go_wp2
    go_ret
    exact ⟨ret_int HX.out.symm, rfl⟩

theorem Try.infoRow : (Try.prog.info? 39).map (fun i => (i.zero, i.size, i.bytes)) = some (some (.slice none 0 0), 1, 24) := by kernel_rfl
theorem Try.infoOp : (Try.prog.info? 38).map (fun i => (i.zero, i.size, i.bytes)) = some (some (.agg #[.int .i64 0, .int .i64 0, .int .i64 0]), 3, 24) := by kernel_rfl

/-- Rows of programs that a call has made, and that are nobody else's. -/
structure Grid (w : World) (gO : Nat) (rows : List Value) (ps : List (List OpI)) : Prop where
  outer : w.heap[gO]? = some (.cells rows.toArray 39 (0, 0))
  len : rows.length = ps.length
  own : ∀ (i : Nat) (r : Value) (p : List OpI), rows[i]? = some r → ps[i]? = some p → w.ownsRow gO 38 3 r p.length (flat p)
  ap : ∀ (i j : Nat) (r s : Value) (b : Nat), i ≠ j → rows[i]? = some r → rows[j]? = some s → r.ownBlock = some b → s.ownBlock ≠ some b
  out : ∀ (i : Nat) (r : Value), rows[i]? = some r → r.ownBlock ≠ some gO
theorem ownsRow_below {w w' : World} {base e es n : Nat} {v : Value} {xs : List Value} (h : w.ownsRow base e es v n xs) (hb : Below w.heap.size w w') : w'.ownsRow base e es v n xs := by
  refine ⟨h.1, h.2.imp id ?_⟩
  rintro ⟨g, cap, cur, ev, hg, hh, rest⟩
  exact ⟨g, cap, cur, ev, hg, by rw [hb.block g (by rcases Nat.lt_or_ge g w.heap.size with h | h; exact h; rw [Array.getElem?_eq_none h] at hh; cases hh)]; exact hh, rest⟩
theorem Grid.lt {w : World} {gO : Nat} {rows : List Value} {ps : List (List OpI)} (h : Grid w gO rows ps) : gO < w.heap.size := (Array.getElem?_eq_some_iff.1 h.outer).1
theorem Grid.below {w w' : World} {gO : Nat} {rows : List Value} {ps : List (List OpI)} (h : Grid w gO rows ps) (hb : Below w.heap.size w w') : Grid w' gO rows ps :=
  ⟨by rw [hb.block gO h.lt]; exact h.outer, h.len, fun i r p hr hp => ownsRow_below (h.own i r p hr hp) hb, h.ap, h.out⟩
theorem Grid.made (w : World) (N : Nat) : Grid (w.alloc (.cells (madeCells #[.slice none 0 0] N) 39)) w.heap.size (List.replicate N (.slice none 0 0)) (List.replicate N []) := by
  refine ⟨?_, by simp, fun i r p hr hp => ?_, fun i j r s b hij hr hs hb => ?_, fun i r hr => ?_⟩
  · have e : madeCells #[Value.slice none 0 0] N = (List.replicate N (Value.slice none 0 0)).toArray := by
      apply Array.ext_getElem?
      intro i
      simp [madeCells]
      by_cases h : i < N <;> simp [h, Nat.mod_one]
    rw [e]; exact heap_alloc_new w _
  · obtain rfl : r = .slice none 0 0 := by simp [List.getElem?_replicate] at hr; exact hr.2.symm
    obtain rfl : p = [] := by simp [List.getElem?_replicate] at hp; exact hp.2
    exact World.ownsRow_nil _ _ _ _
  · obtain rfl : r = .slice none 0 0 := by simp [List.getElem?_replicate] at hr; exact hr.2.symm
    cases hb
  · obtain rfl : r = .slice none 0 0 := by simp [List.getElem?_replicate] at hr; exact hr.2.symm
    intro e; cases e
/-- One row grows, and is laid into its place. -/
theorem Grid.push {w w1 w2 : World} {gO k m : Nat} {rows : List Value} {ps : List (List OpI)} {r r' : Value} {p q : List OpI} (h : Grid w gO rows ps) (hr : rows[k]? = some r) (hp : ps[k]? = some p)
    (hown : w1.ownsRow gO 38 3 r' (p.length + q.length) (flat p ++ flat q)) (hg : w.grownBy w1 r.ownBlock) (hloc : r'.ownBlock = r.ownBlock ∨ r'.ownBlock = some w.heap.size) (hb : Below w1.heap.size w1 w2) :
    Grid (w2.setCell ⟨gO, k, none⟩ r') gO (rows.set k r') (ps.set k (p ++ q)) := by
  have hk : k < rows.length := (List.getElem?_eq_some_iff.1 hr).1
  have hkp : k < ps.length := by rw [← h.len]; exact hk
  have ho1 : w1.heap[gO]? = w.heap[gO]? := hg.block gO h.lt (fun e => h.out k r hr e.symm)
  have lt1 : gO < w1.heap.size := by have := (Array.getElem?_eq_some_iff.1 (ho1.trans h.outer)).1; exact this
  have ho2 : w2.heap[gO]? = some (.cells rows.toArray 39 (0, 0)) := by rw [hb.block gO lt1, ho1]; exact h.outer
  have notO : ∀ (i : Nat) (s : Value), (rows.set k r')[i]? = some s → s.ownBlock ≠ some gO := by
    intro i s hs
    rw [List.getElem?_set] at hs
    by_cases hik : k = i
    · rw [if_pos hik, if_pos hk] at hs
      simp at hs
      subst hs
      rcases hloc with e | e
      · rw [e]; exact h.out k r hr
      · rw [e]; intro e2; have := h.lt; simp at e2; omega
    · rw [if_neg hik] at hs
      exact h.out i s hs
  refine ⟨?_, by simp [h.len], fun i s t hs ht => ?_, fun i j s t b hij hs ht hsb => ?_, notO⟩
  · have e := heap_setCell_same w2 gO k rows.toArray 39 r' ho2
    simpa using e
  · have hs0 := notO i s hs
    rw [List.getElem?_set] at hs ht
    have key : ∀ (s : Value) (n : Nat) (xs : List Value), s.ownBlock ≠ some gO → w2.ownsRow gO 38 3 s n xs → (w2.setCell ⟨gO, k, none⟩ r').ownsRow gO 38 3 s n xs := by
      intro s n xs hne ho
      refine ⟨ho.1, ho.2.imp id ?_⟩
      rintro ⟨g, cap, cur, ev, hgg, hh, rest⟩
      exact ⟨g, cap, cur, ev, hgg, by rw [Below.heap_setCell _ _ _ _ (by intro e; subst ev; apply hne; simp [Value.ownBlock, e])]; exact hh, rest⟩
    by_cases hik : k = i
    · subst hik
      rw [if_pos rfl, if_pos hk] at hs
      rw [if_pos rfl, if_pos hkp] at ht
      simp at hs ht
      subst hs ht
      rw [List.length_append, flat_append]
      exact key _ _ _ hs0 (ownsRow_below hown hb)
    · rw [if_neg hik] at hs ht
      refine key _ _ _ hs0 (ownsRow_below ((h.own i s t hs ht).kept hg ?_) hb)
      by_cases hn : s.ownBlock = none
      · exact .inl hn
      · obtain ⟨b, hb'⟩ := Option.ne_none_iff_exists'.1 hn
        right
        intro e
        exact h.ap k i r s b hik hr hs (by rw [← e, hb']) hb'
  · rw [List.getElem?_set] at hs ht
    have fresh : ∀ (i : Nat) (s : Value), rows[i]? = some s → s.ownBlock ≠ some w.heap.size := by
      intro i s hs e
      obtain ⟨p', hp'⟩ : ∃ p', ps[i]? = some p' := ⟨ps[i]'(by rw [← h.len]; exact (List.getElem?_eq_some_iff.1 hs).1), by simp⟩
      have := (h.own i s p' hs hp').lt _ e
      omega
    by_cases hik : k = i
    · subst hik
      rw [if_pos rfl, if_pos hk] at hs
      rw [if_neg hij] at ht
      simp at hs
      subst hs
      rcases hloc with e | e
      · exact h.ap k j r t b hij hr ht (by rw [← e]; exact hsb)
      · rw [e] at hsb; simp at hsb; subst hsb; exact fresh j t ht
    · rw [if_neg hik] at hs
      by_cases hjk : k = j
      · subst hjk
        rw [if_pos rfl, if_pos hk] at ht
        simp at ht
        subst ht
        rcases hloc with e | e
        · rw [e]; intro e2; exact h.ap k i r s b hik hr hs e2 hsb
        · rw [e]; intro e2; simp at e2; subst e2; exact fresh i s hs hsb
      · rw [if_neg hjk] at ht
        exact h.ap i j s t b hij hs ht hsb
end Go.Proofs.Ytpagdfmajeodiaa
