/- memdir's Lines: the keys of its map, sorted. Conditions: as each theorem states them. -/
import Derived.Test.YtfobgkkmbacfjaaCLib
import Derived.Test.YtfobgkkmbacfjaaMdOn
namespace Go.Proofs.Ytfobgkkmbacfjaa
open Go.RowKit Go.Maps Go.Sort Go.Shelf
set_option linter.unusedVariables false
set_option maxRecDepth 20000

set_option maxHeartbeats 1000000 in
theorem mlines_raw (w : World) (g be : Nat) (l : List (Int × Value)) (hc : w.cell? ⟨g, 2, none⟩ = some (.map (some be))) (h : IM w be l) (hr : RiseK Prod.fst l) (hn : l.length ≤ 1000000) :
    Calls Try.prog 39 #[.pointer (some ⟨g, 0, none⟩)] w fun e w' => ∃ v, e = .returned v ∧ Own w' w.heap.size v (l.map Prod.fst) ∧ Below w.heap.size w w' := by
  have hsz : Maps.size (DataW.map (pairsD l)) = l.length := by simp [Maps.size, pairsD]
  refine (callsIn_wide (n := 6)).1 ?_
  have hbl := h.lt
  have hown : w.ownsMap Try.prog 3 asIs be l.length (.map (pairsD l)) := h
  have hseq : SeqGives Fence.wide 2 Try.prog 66 #[.pointer (some ⟨w.heap.size, 0, none⟩)] encZ (fun ss => ss.Perm (intKeys (DataW.map (pairsD l)))) (Maps.size (DataW.map (pairsD l))) (w.alloc (.cells #[.map (some be)] 98)) :=
    AnyZI.keys_gives (ρ := Try.keysR_ren) { Try.keysR with } Fence.wide _ trivial rfl (by omega) w.heap.size be l.length _ _ (by simp) (by simp) (by
      obtain ⟨es, clock, hb, Ft, hs, hD⟩ := hown
      exact ⟨es, clock, (Below.heap_alloc _ _ be hbl).trans hb, Ft, hs, hD⟩)
  have cK : ∀ mb W, CallsIn Fence.wide 5 Try.prog 59 #[.map mb] W fun e w' => e = .returned (.func (.func 66) #[] #[.pointer (some ⟨W.heap.size, 0, none⟩)]) ∧ w' = W.alloc (.cells #[.map mb] 98) := fun mb W => AnyZI.keys_in Try.keysR Fence.wide 5 trivial rfl mb W
  have cS := AnyZI.sorted_in Try.sortedA Fence.wide 5 trivial trivial trivial trivial rfl (by omega) (Try.sortsA _) (enters_of Try.func65 (by kernel_rfl) rfl) 66 #[.pointer (some ⟨w.heap.size, 0, none⟩)] trivial (enters_of Try.func66 (by kernel_rfl) rfl) _ _ (by rw [hsz]; unfold maxLen; omega) (by rw [hsz]; omega) _ hseq
  change CallsIn _ _ Try.prog 58 _ _ _ at cS
  have hfK : Fence.wide.fn 59 := trivial
  have hfS : Fence.wide.fn 58 := trivial
  refine callsIn_of_wp Try.func39 rfl trivial ?_ rfl
  simp only [Try.ntmps39, List.size_toArray, List.length_cons, List.length_nil, Nat.reduceAdd, Nat.reduceSub, Array.replicate_succ, Array.replicate_zero, List.push_toArray, List.append_toArray, List.nil_append, List.cons_append]
  clear hown hseq
  gi_wp2_with (first
    | (gi_at_call 59; refine (cK _ _).mono ?_; rintro e w' ⟨rfl, rfl⟩)
    | (gi_at_call 58; refine cS.mono ?_; rintro e w' ⟨v, ss, rfl, hS, hrow, hnil, hb⟩))
  go_ret
  refine ⟨v, rfl, ?_, ((Below.refl _ w).alloc (Nat.le_refl _) _).trans (hb.mono (by simp))⟩
  rw [keys_pairs] at hS
  rw [merge_rise hS (by rw [List.pairwise_map]; exact hr)] at hrow
  have e : ss.length = (l.map Prod.fst).length := hS.length_eq
  unfold Own
  rw [← e]
  exact ownsRow_base_a hrow (by simp)
end Go.Proofs.Ytfobgkkmbacfjaa
