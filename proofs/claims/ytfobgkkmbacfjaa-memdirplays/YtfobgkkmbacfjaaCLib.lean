/- The library's calls on whole numbers that a cache makes: Index, Delete of one, and the keys of a map, sorted (Lines). Conditions: as each theorem states them. -/
import Derived.Test.YtfobgkkmbacfjaaIMap
import Derived.Test.YtfobgkkmbacfjaaSortL
namespace Go.Proofs.Ytfobgkkmbacfjaa
open Go.RowKit Go.Maps Go.Sort Go.Shelf
set_option linter.unusedVariables false
set_option maxRecDepth 20000

theorem idx_from {x : Int} : ∀ (l : List Int) (k j : Nat), l[k]? = some x → (∀ i, i < k → l[i]? ≠ some x) → Lib.idxByFrom (fun a b : Int => a == b) x l j = ((j + k : Nat) : Int)
  | [], k, j, h, _ => by simp at h
  | y :: l, 0, j, h, _ => by
    simp at h
    subst h
    simp [Lib.idxByFrom]
  | y :: l, k + 1, j, h, hn => by
    have h0 : y ≠ x := fun e => hn 0 (by omega) (by simp [e])
    have ih := idx_from l k (j + 1) (by simpa using h) (fun i hi e => hn (i + 1) (by omega) (by simpa using e))
    simp only [Lib.idxByFrom, show (x == y) = false from by simp [Ne.symm h0], ih]
    simp
    omega
theorem index_at {w : World} {S : Nat → Prop} {b o n cap k : Nat} {l : List Int} {x : Int} (hr : Rw w S (some ⟨b, o, none⟩) n cap 1 (cells l)) (hk : l[k]? = some x) (hn : ∀ i, i < k → l[i]? ≠ some x) :
    Calls Try.prog 60 #[.slice (some ⟨b, o, none⟩) n cap, .int .i64 x] w fun e w' => e = .returned (.int .i64 k) ∧ w = w' := by
  have hl : l.length = n := by have := hr.len; simpa [cells] using this
  have hm : n ≤ maxLen := Nat.le_trans hr.le hr.max
  have hkl : k < l.length := (List.getElem?_eq_some_iff.1 hk).1
  unfold maxLen at hm
  have h := AnyE.slices_Index Try.indexA (Value.int .i64) _ (EqlAt.int _ _ .i64) b o n cap l x w (by omega) (by omega) (fun j hj => by
    rcases hr.row with h0 | ⟨b', o', e, _, _, hc, _⟩
    · have := hr.le; omega
    · simp at e
      obtain ⟨rfl, rfl⟩ := e
      refine hc j _ ?_
      simp [cells, hj])
  refine Calls.mono h ?_
  rintro e w' ⟨rfl, rfl⟩
  refine ⟨?_, rfl⟩
  unfold Lib.idxBy
  rw [idx_from (l.take n) k 0 (by rw [List.getElem?_take, if_pos (by omega)]; exact hk) (fun i hi e => hn i hi (by rw [List.getElem?_take, if_pos (by omega)] at e; exact e)), Nat.zero_add]
theorem Try.intI : ∃ i0, Try.prog.info? 3 = some i0 ∧ i0.size = 1 := by
  obtain ⟨i0, hi, hz0, hz1, hz2⟩ := info_parts Try.infoInt
  exact ⟨i0, hi, hz1⟩
theorem deleteI {w : World} {S : Nat → Prop} {b o n cap k : Nat} {l : List Int} {j : Int} (hr : Rw w S (some ⟨b, o, none⟩) n cap 1 (cells l)) (hk : k < n) (hj : j = (k : Int) + 1) :
    Calls Try.prog 61 #[.slice (some ⟨b, o, none⟩) n cap, .int .i64 k, .int .i64 j] w fun e w' => e = .returned (.slice (some ⟨b, o, none⟩) (n - 1) cap) ∧
      Rw w' S (some ⟨b, o, none⟩) (n - 1) cap 1 (cells (l.eraseIdx k)) ∧ Keep (fun i => i = b) w w' ∧ w'.heap.size = w.heap.size := by
  obtain ⟨i0, hi0, hi1⟩ := Try.intI
  have hl : l.length = n := by have := hr.len; simpa [cells] using this
  have hle := hr.le
  have hm := hr.max
  unfold maxLen at hm
  obtain ⟨hs, hb, hc, hf⟩ : S b ∧ b < w.heap.size ∧ (∀ i u, (cells l)[i]? = some u → w.cell? ⟨b, o + i, none⟩ = some u) ∧ (∀ i, i < cap → (w.cell? ⟨b, o + i, none⟩).isSome = true ∧ w.frozen? ⟨b, o + i, none⟩ = false) := by
    rcases hr.row with h0 | ⟨b', o', e, hs, hb, hc, hf⟩
    · omega
    · simp at e
      obtain ⟨rfl, rfl⟩ := e
      exact ⟨hs, hb, hc, by simpa using hf⟩
  have hH : Sort.Holds (Value.int .i64) w b o l.toArray := fun i hi => by
    have hi' : i < l.length := by simpa using hi
    refine ⟨hc i _ ?_, (hf i (by omega)).2⟩
    simp [cells, hi']
  have e1 : ((k + 1 : Nat) : Int) = j := by omega
  have h := AnyE.slices_Delete Try.deleteA (Value.int .i64) (fun _ => rfl) 0 (fun w => Try.zeroValue3 w) i0 hi0 hi1 b o cap k (k + 1) l.toArray w hH (by simp; omega) (by omega) (by omega) (by simp; omega)
  rw [e1, show l.toArray.size = n by simpa using hl] at h
  refine Calls.mono h ?_
  rintro e w' ⟨rfl, q, rfl⟩
  have e2 : n - (k + 1 - k) = n - 1 := by omega
  obtain ⟨d, hd⟩ : ∃ d, d = (l.toArray.toList.take k ++ l.toArray.toList.drop (k + 1) ++ List.replicate (k + 1 - k) (0 : Int)).toArray := ⟨_, rfl⟩
  have hds : d.size = l.toArray.size := by rw [hd]; simp; omega
  have hH' : Sort.Holds (Value.int .i64) (Sort.ahead w q) b o l.toArray := hH
  have kk : Keep (fun i => i = b) w (Sort.putRow (Value.int .i64) (Sort.ahead w q) b o d) := ⟨rfl, rfl, rfl, by simp [Sort.ahead], fun i hi hn => by
    simp only [Sort.putRow, Sort.mapBlock, Sort.ahead]
    rw [Array.getElem?_modify]
    rw [if_neg (fun e => hn e.symm)]⟩
  rw [← hd, e2]
  refine ⟨rfl, ⟨by rw [show (cells (l.eraseIdx k)).length = (l.eraseIdx k).length by simp [cells], List.length_eraseIdx_of_lt (by omega)]; omega, by omega, hr.max, fun h => (by cases h), .inr ⟨b, o, rfl, hs, by simpa [Sort.ahead] using hb, fun i u hu => ?_, fun i hi => ?_⟩⟩, kk, by simp [Sort.ahead]⟩
  · have hi : i < (l.eraseIdx k).length := by have := (List.getElem?_eq_some_iff.1 hu).1; simpa [cells] using this
    have hi2 : i < n - 1 := by rw [List.length_eraseIdx] at hi; split at hi <;> omega
    rw [Sort.cell?_putRow (Value.int .i64) _ b o l.toArray d hH' hds i (by rw [hds]; simp; omega)]
    obtain ⟨hj1, rfl⟩ := cells_get hu
    congr 2
    rw [hd]
    have : (l.toArray.toList.take k ++ l.toArray.toList.drop (k + 1) ++ List.replicate (k + 1 - k) (0 : Int)).toArray[i]! = (l.eraseIdx k)[i]?.getD 0 := by
      rw [List.eraseIdx_eq_take_drop_succ]
      simp only [List.getElem!_toArray, List.getElem!_eq_getElem?_getD]
      rw [List.getElem?_append_left (by simp; omega)]
      rfl
    exact this
  · rw [Sort.frozen?_putRow]
    refine ⟨?_, (hf i (by omega)).2⟩
    by_cases hin : i < n
    · rw [Sort.cell?_putRow (Value.int .i64) _ b o l.toArray d hH' hds i (by rw [hds]; simp; omega)]
      rfl
    · rw [Sort.cell?_putRow_other (Value.int .i64) _ b o d _ (.inr (.inr (by simp only; rw [hds]; simp; omega)))]
      exact (hf i (by omega)).1
theorem merge_rise {ss : List Int} {l : List Int} (hp : ss.Perm l) (hl : l.Pairwise (· < ·)) : ss.mergeSort (fun x y => decide (x ≤ y)) = l := by
  refine List.Perm.eq_of_pairwise (le := fun a b : Int => a ≤ b) (fun a b _ _ h1 h2 => by omega) ?_ (hl.imp (fun h => by omega)) ((List.mergeSort_perm ss _).trans hp)
  have := List.pairwise_mergeSort (le := fun x y : Int => decide (x ≤ y)) (fun a b c h1 h2 => by simp at *; omega) (fun a b => by simp; omega) ss
  exact this.imp (fun h => by simpa using h)
theorem keys_pairs (l : List (Int × Value)) : intKeys (DataW.map (pairsD l)) = l.map Prod.fst := by
  simp only [intKeys, pairsD, List.map_map]
  rfl
theorem Try.sortsA (m : Nat) : AnyZI.SortsIn Try.prog Try.sortedA_ren Fence.wide m :=
  ⟨fun blk off cap ss W hH hblk hsz => callsIn_wide.2 (AnyM.slices_Sort_int Try.sortA blk off cap ss W hH hblk hsz),
   fun p cap W => callsIn_wide.2 (AnyM.slices_Sort_int_none Try.sortA p cap W)⟩
set_option maxHeartbeats 1000000 in
theorem lines_raw (w : World) (g be : Nat) (l : List (Int × Value)) (hc : w.cell? ⟨g, 3, none⟩ = some (.map (some be))) (h : IM w be l) (hr : RiseK Prod.fst l) (hn : l.length ≤ 1000000) :
    Calls Try.prog 49 #[.pointer (some ⟨g, 0, none⟩)] w fun e w' => ∃ v, e = .returned v ∧ Own w' w.heap.size v (l.map Prod.fst) ∧ Below w.heap.size w w' := by
  have hsz : Maps.size (DataW.map (pairsD l)) = l.length := by simp [Maps.size, pairsD]
  refine (callsIn_wide (n := 6)).1 ?_
  have hbl := h.lt
  have hown : w.ownsMap Try.prog 3 asIs be l.length (.map (pairsD l)) := h
  have hseq : SeqGives Fence.wide 2 Try.prog 67 #[.pointer (some ⟨w.heap.size, 0, none⟩)] encZ (fun ss => ss.Perm (intKeys (DataW.map (pairsD l)))) (Maps.size (DataW.map (pairsD l))) (w.alloc (.cells #[.map (some be)] 88)) :=
    AnyZI.keys_gives (ρ := Try.keysA_ren) { Try.keysA with } Fence.wide _ trivial rfl (by omega) w.heap.size be l.length _ _ (by simp) (by simp) (by
      obtain ⟨es, clock, hb, Ft, hs, hD⟩ := hown
      exact ⟨es, clock, (Below.heap_alloc _ _ be hbl).trans hb, Ft, hs, hD⟩)
  have cK : ∀ mb W, CallsIn Fence.wide 5 Try.prog 62 #[.map mb] W fun e w' => e = .returned (.func (.func 67) #[] #[.pointer (some ⟨W.heap.size, 0, none⟩)]) ∧ w' = W.alloc (.cells #[.map mb] 88) := fun mb W => AnyZI.keys_in Try.keysA Fence.wide 5 trivial rfl mb W
  have cS := AnyZI.sorted_in Try.sortedA Fence.wide 5 trivial trivial trivial trivial rfl (by omega) (Try.sortsA _) (enters_of Try.func65 (by kernel_rfl) rfl) 67 #[.pointer (some ⟨w.heap.size, 0, none⟩)] trivial (enters_of Try.func67 (by kernel_rfl) rfl) _ _ (by rw [hsz]; unfold maxLen; omega) (by rw [hsz]; omega) _ hseq
  change CallsIn _ _ Try.prog 58 _ _ _ at cS
  have hfK : Fence.wide.fn 62 := trivial
  have hfS : Fence.wide.fn 58 := trivial
  refine callsIn_of_wp Try.func49 rfl trivial ?_ rfl
  simp only [Try.ntmps49, List.size_toArray, List.length_cons, List.length_nil, Nat.reduceAdd, Nat.reduceSub, Array.replicate_succ, Array.replicate_zero, List.push_toArray, List.append_toArray, List.nil_append, List.cons_append]
  clear hown hseq
  gi_wp2_with (first
    | (gi_at_call 62; refine (cK _ _).mono ?_; rintro e w' ⟨rfl, rfl⟩)
    | (gi_at_call 58; refine cS.mono ?_; rintro e w' ⟨v, ss, rfl, hS, hrow, hnil, hb⟩))
  go_ret
  refine ⟨v, rfl, ?_, ((Below.refl _ w).alloc (Nat.le_refl _) _).trans (hb.mono (by simp))⟩
  rw [keys_pairs] at hS
  rw [merge_rise hS (by rw [List.pairwise_map]; exact hr)] at hrow
  have e : ss.length = (l.map Prod.fst).length := hS.length_eq
  unfold Own
  rw [← e]
  exact ownsRow_base_a hrow (by simp)
end Go.Proofs.Ytfobgkkmbacfjaa
