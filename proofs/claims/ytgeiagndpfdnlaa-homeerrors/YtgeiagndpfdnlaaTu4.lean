/- The program's turns: Ready; slices.Sort of what a call made. Conditions: as each theorem states them. -/
import Derived.Test.YtgeiagndpfdnlaaTu1
import Derived.Test.YtgeiagndpfdnlaaPk0
import Derived.Test.YtgeiagndpfdnlaaSortL
import Derived.Sort.OwnSortedInts
import Derived.Maps.RangeWalk
namespace Go.Proofs.Ytgeiagndpfdnlaa
open Go.RowKit Go.Maps Go.Sort Go.Shelf
set_option linter.unusedVariables false
set_option maxRecDepth 20000

/-- The list, rising. -/
def sortI (l : List Int) : List Int := l.mergeSort (fun x y => decide (x ≤ y))
theorem sortI_mem (l : List Int) (k : Int) : k ∈ sortI l ↔ k ∈ l := (List.mergeSort_perm l _).mem_iff
theorem sortI_len (l : List Int) : (sortI l).length = l.length := (List.mergeSort_perm l _).length_eq
theorem sortI_rise {l : List Int} (h : l.Nodup) : RiseK id (sortI l) := by
  have h1 := List.pairwise_mergeSort (le := fun x y : Int => decide (x ≤ y)) (fun a b c h1 h2 => by simp at *; omega) (fun a b => by simp; omega) l
  have h2 : (sortI l).Nodup := ((List.mergeSort_perm l _).nodup_iff).2 h
  unfold RiseK
  unfold List.Nodup at h2
  refine (h1.and h2).imp (fun {a b} hab => ?_)
  have := of_decide_eq_true hab.1
  have := hab.2
  simp only [id]
  omega
theorem sort_any {w : World} {base : Nat} {v : Value} {l : List Int} (h : Own w base v l) (hl : l.length ≤ 1000000) :
    Calls Try.prog 60 #[v] w fun e w' => e = .returned (.tuple #[]) ∧ Own w' base v (sortI l) ∧ Keep (fun j => base ≤ j) w w' := by
  obtain ⟨h1, h2⟩ := h
  rcases h2 with ⟨rfl, h0⟩ | ⟨g, cap, cur, rfl, hb, hg, hle, hm, hsz, ht⟩
  · obtain rfl : l = [] := List.eq_nil_of_length_eq_zero h0
    refine Calls.mono (AnyM.slices_Sort_int_none Try.sortA none 0 w) ?_
    rintro e w' ⟨rfl, rfl⟩
    exact ⟨rfl, by rw [List.eq_nil_of_length_eq_zero (sortI_len [])]; exact own_nil _ _, Keep.refl _ _⟩
  · have hH := holds_of_blockI hg (by simpa [cells] using ht)
    have hlt : g < w.heap.size := (Array.getElem?_eq_some_iff.1 hg).1
    refine Calls.mono (AnyM.slices_Sort_int Try.sortA g 0 cap l w hH hlt (by omega)) ?_
    rintro e w' ⟨rfl, n, os, rfl⟩
    have hs : (l.mergeSort fun x y => decide (x ≤ y)).length = l.length := sortI_len l
    refine ⟨rfl, ?_, (Keep.grown (grownBy_sortedI _)).mono (fun j _ e => by rw [Option.some.inj e]; exact hb)⟩
    have := ownsRow_sortedI (n := n) (os := os) hs hb hg hle hm hsz
    unfold Own
    rw [sortI_len]
    exact this
theorem own_iter {w : World} {base b r n : Nat} {D : DataW Value} {left : Lit → Bool} {cnt : Nat} {v : Value} {l : List Int} (h : Own w base v l) (hr : w.ranges Try.prog 3 asIs b r n D left cnt) : ∀ k, v.ownBlock = some k → k ≠ r ∧ k ≠ b := by
  intro k hk
  obtain ⟨es, clock, since, seen, c0, e1, _, _, _, e2, _⟩ := hr
  rcases h.2 with ⟨rfl, _⟩ | ⟨g, c, cur, rfl, hb, hg, _⟩
  · simp [Value.ownBlock] at hk
  · simp [Value.ownBlock] at hk
    subst hk
    exact ⟨fun e => (by rw [e, e2] at hg; cases hg), fun e => (by rw [e, e1] at hg; cases hg)⟩
theorem has_line (O : List TE) (k : Int) : Maps.has (DataW.map (pairsD (kv TE.s TE.val O))) (.int .i64 k) = true ↔ ∃ p, getK TE.s k O = some p := by
  rw [pairs_has, kv_get]
  cases getK TE.s k O with
  | none => simp
  | some p => simp
section
variable {w : World} {g bo bw : Nat} {M : Nat → Prop} {R : List (Int × Int)} {O : List TE}
set_option maxHeartbeats 600000 in
theorem TU.ready_any (h : TW w g bo bw M R O) (hO : O.length ≤ 1000000) : Calls Try.prog 32 #[.pointer (some ⟨g, 0, none⟩)] w fun e w' =>
    ∃ v l, e = .returned v ∧ Own w' w.heap.size v l ∧ Below w.heap.size w w' ∧ RiseK id l ∧ ∀ k, k ∈ l ↔ ownR R k = -1 ∧ wtO O k ≠ [] := by
  obtain ⟨i0, hi, hp0, hp1, hp2⟩ := info_parts Try.infoInt
  have c1 := h.c1
  have HO : Hid (O.length ≤ 1000000) := hO
  have lt := h.lt
  clear hO
  go_enter Try.func32, Try.ntmps32
  go_upto_region 2 with fail
  have o1 : Own (w.alloc (.cells #[] 3)) w.heap.size (.slice (some ⟨w.heap.size, 0, none⟩) 0 0) [] := ⟨rfl, .inr ⟨w.heap.size, 0, #[], rfl, Nat.le_refl _, heap_alloc_new w _, Nat.le_refl _, Nat.zero_le _, rfl, rfl⟩⟩
  have b1 : Below w.heap.size w (w.alloc (.cells #[] 3)) := ba (Below.refl _ _)
  have h1 := h.below b1
  have HR : Hid (∀ j, M j → j < w.heap.size) := h.old
  generalize Value.slice (some ⟨w.heap.size, 0, none⟩) 0 0 = v0 at *
  generalize w.alloc (.cells #[] 3) = W1 at *
  clear h c1
  have c1 := h1.c1
  have hown : W1.ownsMap Try.prog 3 asIs bw (kv TE.s TE.val O).length (.map (pairsD (kv TE.s TE.val O))) := h1.wts
  go_wp2_with (first
    | (at_range; refine wpList_range_own _ rfl _ 75 rfl 3 78 keyedI Try.underlying75 asIs bw _ _ rfl hown ?_; intro w0 hrg0 hg0 hs0)
    | go_in)
  go_frame
  have b0 : Below W1.heap.size W1 w0 := (Below.refl _ _).grown hg0 (Nat.le_refl _) (fun j hj => by cases hj)
  have h2 := h1.below b0
  have o2 := o1.below b0
  have b2 := next b1 b0
  have HGI : Hid (W1.heap.size ≠ bw ∧ (∀ j, M j → j ≠ W1.heap.size) ∧ w.heap.size ≤ W1.heap.size) := ⟨fun e => by have := h1.old _ h1.mg.2.2; omega, fun j hj e => by have := h1.old _ hj; omega, b1.size⟩
  have lo2 := Own.base o1
  have hL : Maps.size (DataW.map (pairsD (kv TE.s TE.val O))) = O.length := by simp [Maps.size, pairsD, kv]
  rw [hL] at hrg0
  have ob : ∀ k, v0.ownBlock = some k → k ≠ W1.heap.size := fun k hk e => by have := (lo2 k hk).2; omega
  clear hg0 hs0 b0 h1 hown o1 b1 c1 lo2 hL
  generalize W1.heap.size = gi at *
  clear W1
  go_loopw [3] (fun vl wr => ∃ (l : List Int) (left : Lit → Bool) (cnt : Nat), Own wr w.heap.size vl l ∧ (∀ k, vl.ownBlock = some k → k ≠ gi) ∧ TW wr g bo bw M R O ∧ Below w.heap.size w wr ∧
    wr.ranges Try.prog 3 asIs bw gi (kv TE.s TE.val O).length (.map (pairsD (kv TE.s TE.val O))) left cnt ∧ Hid (l.length + cnt ≤ O.length ∧ l.Nodup ∧ ∀ k, k ∈ l ↔ left (.int .i64 k) = false ∧ ownR R k = -1 ∧ wtO O k ≠ [])) (fun _ wr => wr.rangeLeft bw gi)
  case atStart =>
    refine ⟨[], _, _, o2, ob, h2, b2, hrg0, ⟨by simp, List.nodup_nil, fun k => ⟨fun hk => (by cases hk), fun ⟨h1, _, h3⟩ => ?_⟩⟩⟩
    have : ∃ p, getK TE.s k O = some p := by
      unfold wtO at h3
      cases hg : getK TE.s k O with
      | none => rw [hg] at h3; exact absurd rfl h3
      | some p => exact ⟨p, rfl⟩
    have := (has_line O k).2 this
    rw [this] at h1
    cases h1
  case round =>
    obtain ⟨l, left, cnt, ho, hob, hT, hB, hrg, HJ⟩ := hrel
    clear hrg0 h2 o2 b2 ob
    go_wp2_with (first
      | (at_next; refine wpList_next_ranges _ rfl _ rfl 3 keyedI asIs (Value.int .i64) (fun v => v) (fun key kl h => by obtain ⟨x, rfl, _⟩ := Maps.keyOf_int_inv Try.underlying3 h; exact ⟨x, rfl⟩) (fun v y h => ⟨v, rfl⟩) bw gi _ _ _ _ rfl hrg ?_ ?_)
      | go_in)
    · intro hc0 hl0
      obtain ⟨hj1, hj2, hj3⟩ := HJ.out
      go_wp2_with (go_at_call 60; refine (sort_any ho (by have := HO.out; omega)).mono ?_; rintro e w9 ⟨rfl, o9, k9⟩)
      go_ret
      exact ⟨_, _, rfl, o9, k9.after hB (fun j hj => hj), sortI_rise hj2, fun k => (sortI_mem l k).trans ((hj3 k).trans (by rw [hl0]; simp))⟩
    · intro x c kl y yp w1 cnt1 hkey hlx hv hat hrg1 hlt1 hg1 hs1 hen
      obtain ⟨x', ex, rfl, hwf⟩ := Maps.keyOf_int_inv Try.underlying3 hkey
      injection ex with _ ex
      subst ex
      have k1 : Keep (fun j => j = gi) wr w1 := ⟨hg1.os, hg1.tape, hg1.output, hg1.size, fun j hj hn => hg1.block j hj (fun e => hn (Option.some.inj e))⟩
      have T1 := hT.keep k1 (fun j hj e => HGI.out.2.1 j hj e)
      have o1 := ho.keep k1 hob
      have B1 : Below w.heap.size w w1 := hB.trans (k1.below (fun j hj => hj ▸ HGI.out.2.2) hB.size)
      have HIX : Hid (In64 x) := by
        have h1 := hwf
        simp [Lit.wf, IntKind.min, IntKind.max, IntKind.signed, IntKind.bits] at h1
        unfold Hid In64
        omega
      obtain ⟨m, hm⟩ : ∃ m, l.length = m := ⟨_, rfl⟩
      have HLM : Hid (l.length = m) := hm
      have hm2 : m ≤ 1000000 := by have := HJ.out.1; have := HO.out; omega
      have o1' := o1
      unfold Own at o1'
      rw [hm] at o1'
      have HLX : Hid (left (.int .i64 x) = true) := hlx
      clear k1 hg1 hs1 hkey hv hat hlx hwf hT ho hm
      by_cases hr : ownR R x = -1 ∧ wtO O x ≠ []
      · have HRD : Hid (decide (ownR R x = -1 ∧ wtO O x ≠ []) = true) := decide_eq_true hr
        have HR2 : Hid (ownR R x = -1 ∧ wtO O x ≠ []) := hr
        clear hr
        go_wp2_with (first
          | (go_at_call 59; refine (TU.isReady_any T1 HIX.out).mono ?_; rintro e w2 ⟨rfl, rfl⟩; rw [HRD.out])
          | (at_builtin; refine wpList_append_own _ rfl _ _ 22 rfl w.heap.size 3 i0 (.int .i64 0) 1 8 Try.underlying22 hi hp0 hp1 hp2 rfl (by decide) _ m (cells l) rfl (o1'.alloc _) ⟨_, 0, none⟩ 1 1 (cells [x]) rfl rfl (cell_i1 _ _) (cells_one _) (by unfold maxLen; omega) (by omega) (by have := B1.size; simp; omega) ?_; intro v3 w3 hown3 hg3 hiff; clear hiff))
        replace hg3 : (w1.alloc (.cells #[.int .i64 x] 3)).grownBy w3 u3.ownBlock := hg3
        have e1 : cells l ++ cells [x] = cells (l ++ [x]) := by simp [cells]
        rw [e1] at hown3
        have own3 : Own w3 w.heap.size v3 (l ++ [x]) := by
          unfold Own
          rw [show (l ++ [x]).length = m + 1 by simp [HLM.out]]
          exact hown3
        have hbm : ∀ k, some k = u3.ownBlock → w.heap.size ≤ k := fun k hk => (Own.base o1 k hk.symm).1
        have ba1 : Below w1.heap.size w1 (w1.alloc (.cells #[.int .i64 x] 3)) := ba (Below.refl _ _)
        have k3 : Keep (fun k => some k = u3.ownBlock) (w1.alloc (.cells #[.int .i64 x] 3)) w3 := Keep.grown hg3
        have hb3 := fun k (hk : some k = u3.ownBlock) => own_iter o1 hrg1 k hk.symm
        have hrg3 := (hrg1.alloc (.cells #[.int .i64 x] 3)).kept hg3 (fun e => (hb3 bw e).2 rfl) (fun e => (hb3 gi e).1 rfl)
        have T3 := (T1.below ba1).keep k3 (fun j hj hk => by have := hbm j hk; have := HR.out j hj; omega)
        have B3 : Below w.heap.size w w3 := next B1 ba1 |>.trans (k3.below hbm (by have := B1.size; simp; omega))
        go_roundw
        case rel =>
          refine ⟨l ++ [x], _, cnt1, own3, fun k hk => (own_iter own3 hrg3 k hk).1, T3, B3, hrg3, ⟨by have := HJ.out.1; simp; omega, ?_, fun k => ?_⟩⟩
          · rw [List.nodup_append]
            refine ⟨HJ.out.2.1, by simp, fun a ha b hb e => ?_⟩
            rw [List.mem_singleton.1 hb] at e
            rw [e] at ha
            have := ((HJ.out.2.2 x).1 ha).1
            rw [HLX.out] at this
            cases this
          · rw [List.mem_append, HJ.out.2.2 k]
            by_cases e : k = x
            · subst e
              exact ⟨fun _ => ⟨by simp [Lit.sameKey], HR2.out⟩, fun _ => .inr (by simp)⟩
            · simp [Lit.sameKey, e]
        case measure => rw [hrg3.left_eq, hrg.left_eq]; exact hlt1
      · have HRD : Hid (decide (ownR R x = -1 ∧ wtO O x ≠ []) = false) := decide_eq_false hr
        have HR2 : Hid (¬ (ownR R x = -1 ∧ wtO O x ≠ [])) := hr
        clear hr
        go_wp2_with (go_at_call 59; refine (TU.isReady_any T1 HIX.out).mono ?_; rintro e w2 ⟨rfl, rfl⟩; rw [HRD.out])
        go_roundw
        case rel => 
          refine ⟨l, _, cnt1, o1, hob, T1, B1, hrg1, ⟨by have := HJ.out.1; omega, HJ.out.2.1, fun k => ?_⟩⟩
          rw [HJ.out.2.2 k]
          by_cases e : k = x
          · subst e
            exact ⟨fun h => absurd h.2 HR2.out, fun h => absurd h.2 HR2.out⟩
          · simp [Lit.sameKey, e]
        case measure => rw [hrg1.left_eq, hrg.left_eq]; exact hlt1
end
end Go.Proofs.Ytgeiagndpfdnlaa
