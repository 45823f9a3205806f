/- The program's turns, what only reads or begins: New, owned, Owner, Waiting, isReady. Conditions: as each theorem states them. -/
import Derived.Test.YtgeiagndpfdnlaaTu0
import Derived.Carry
namespace Go.Proofs.Ytgeiagndpfdnlaa
open Go.RowKit Go.Maps
set_option linter.unusedVariables false
set_option maxRecDepth 20000

section
variable {w : World} {g bo bw : Nat} {M : Nat → Prop} {R : List (Int × Int)} {O : List TE}
theorem TW.lookO (h : TW w g bo bw M R O) {l : Int} (hl : In64 l) {V : World} (hV : Below w.heap.size w V) :
    ∃ v, (Instr.lookup 74 (.map (some bo)) (.int .i64 l) true).run Try.prog V = .ok (.tuple #[.int .i64 v, .bool (decide (ownR R l ≠ -1))]) V ∧ (ownR R l ≠ -1 → v = ownR R l) := by
  have h1 := (h.own.below hV).look_ok Try.underlying74 (Try.zeroValue3 V) hl
  have h2 := h.has_eq l
  have e : (getK Prod.fst l (kv Prod.fst oVal R)).isSome = hasT R l := by
    rw [kv_get]
    unfold hasT
    cases getK Prod.fst l R <;> rfl
  rw [e, h2, kv_at] at h1
  cases hg : getK Prod.fst l R with
  | none =>
    rw [hg] at h1
    exact ⟨0, h1, fun hn => absurd (by unfold ownR; rw [hg]) hn⟩
  | some p =>
    rw [hg] at h1
    exact ⟨p.2, h1, fun _ => by unfold ownR; rw [hg]⟩
theorem im_lookW {V : World} (h : IM V bw (kv TE.s TE.val O)) {s : Int} (hs : In64 s) :
    (Instr.lookup 75 (.map (some bw)) (.int .i64 s) false).run Try.prog V = .ok (wtAt O s) V := by
  have := h.look Try.underlying75 (Try.zeroValue78 V) hs
  rw [kv_at] at this
  unfold wtAt
  cases hg : getK TE.s s O with
  | none => rw [hg] at this; exact this
  | some p => rw [hg] at this; exact this
theorem TU.owned_any (h : TW w g bo bw M R O) {l : Int} (hl : In64 l) : Calls Try.prog 65 #[.pointer (some ⟨g, 0, none⟩), .int .i64 l] w fun e w' => e = .returned (.bool (decide (ownR R l ≠ -1))) ∧ w = w' := by
  have c0 := h.c0
  obtain ⟨v, hk, _⟩ := h.lookO hl (Below.refl _ _)
  generalize decide (ownR R l ≠ -1) = ok at *
  go_enter Try.func65, Try.ntmps65
  go_wp2_with fail
  go_ret
  exact ⟨rfl, rfl⟩
theorem TU.owner_any (h : TW w g bo bw M R O) {l : Int} (hl : In64 l) : Calls Try.prog 11 #[.pointer (some ⟨g, 0, none⟩), .int .i64 l] w fun e w' => e = .returned (.int .i64 (ownR R l)) ∧ w = w' := by
  have c0 := h.c0
  obtain ⟨v, hk, hv⟩ := h.lookO hl (Below.refl _ _)
  by_cases hn : ownR R l = -1
  · rw [hn] at hk ⊢
    rw [show decide ((-1 : Int) ≠ -1) = false from by decide] at hk
    clear hv hn
    go_enter Try.func11, Try.ntmps11
    go_wp2_with fail
    go_ret
    exact ⟨rfl, rfl⟩
  · rw [decide_eq_true hn] at hk
    obtain rfl := hv hn
    generalize ownR R l = v at *
    clear hv hn
    go_enter Try.func11, Try.ntmps11
    go_wp2_with fail
    go_ret
    exact ⟨rfl, rfl⟩
theorem wtAt_slice (O : List TE) (s : Int) : ∃ a cap, wtAt O s = .slice a (wtO O s).length cap := by
  unfold wtAt wtO
  cases getK TE.s s O with
  | none => exact ⟨_, _, rfl⟩
  | some p => exact ⟨_, _, rfl⟩
theorem TU.waiting_any (h : TW w g bo bw M R O) {l : Int} (hl : In64 l) : Calls Try.prog 12 #[.pointer (some ⟨g, 0, none⟩), .int .i64 l] w fun e w' => e = .returned (.int .i64 (wtO O l).length) ∧ w = w' := by
  have c1 := h.c1
  have hk := im_lookW h.wts hl
  obtain ⟨a, cap, e⟩ := wtAt_slice O l
  rw [e] at hk
  generalize (wtO O l).length = n at *
  clear e
  go_enter Try.func12, Try.ntmps12
  go_wp2_with fail
  go_ret
  exact ⟨rfl, rfl⟩
theorem TU.isReady_any (h : TW w g bo bw M R O) {l : Int} (hl : In64 l) : Calls Try.prog 59 #[.pointer (some ⟨g, 0, none⟩), .int .i64 l] w fun e w' => e = .returned (.bool (decide (ownR R l = -1 ∧ wtO O l ≠ []))) ∧ w = w' := by
  obtain ⟨n, hn⟩ : ∃ n, (wtO O l).length = n := ⟨_, rfl⟩
  have hw : wtO O l ≠ [] ↔ 0 < n := by rw [← hn]; exact List.length_pos_iff.symm
  have e : decide (ownR R l = -1 ∧ wtO O l ≠ []) = (!decide (ownR R l ≠ -1) && decide (0 < n)) := by
    by_cases h1 : ownR R l = -1 <;> by_cases h2 : 0 < n <;> simp [h1, h2, hw]
  rw [e]
  have HN : Hid ((wtO O l).length = n) := hn
  clear hw e hn
  obtain ⟨ok, hok⟩ : ∃ ok, decide (ownR R l ≠ -1) = ok := ⟨_, rfl⟩
  have HO : Hid (decide (ownR R l ≠ -1) = ok) := hok
  rw [hok]
  clear hok
  cases ok with
  | true =>
    go_enter Try.func59, Try.ntmps59
    go_wp2_with (go_at_call 65; refine (TU.owned_any h hl).mono ?_; rintro e w1 ⟨rfl, rfl⟩; rw [HO.out])
    go_ret
    exact ⟨by simp, rfl⟩
  | false =>
    go_enter Try.func59, Try.ntmps59
    go_wp2_with (first
      | (go_at_call 12; refine (TU.waiting_any h hl).mono ?_; rintro e w1 ⟨rfl, rfl⟩; rw [HN.out])
      | (go_at_call 65; refine (TU.owned_any h hl).mono ?_; rintro e w1 ⟨rfl, rfl⟩; rw [HO.out]))
    all_goals go_ret
    all_goals exact ⟨by simp [*], rfl⟩
end
theorem tw_new {V : World} {base bo bw : Nat} (t : TypeId) (h1 : IM V bo []) (h2 : IM V bw []) (hne : bo ≠ bw) (hb : base ≤ bo ∧ base ≤ bw ∧ base ≤ V.heap.size) :
    TW (V.alloc (.cells #[.map (some bo), .map (some bw)] t)) V.heap.size bo bw (fun j => base ≤ j ∧ j < (V.alloc (.cells #[.map (some bo), .map (some bw)] t)).heap.size) [] [] := by
  have a1 := h1.lt
  have a2 := h2.lt
  exact ⟨by simp, by simp, by simp, ⟨⟨by omega, by simp⟩, ⟨by omega, by simp; omega⟩, ⟨by omega, by simp; omega⟩⟩, by omega, h1.below (ba (Below.refl _ _)), h2.below (ba (Below.refl _ _)), fun p hp => (by cases hp), fun p hp => (by cases hp),
    List.Pairwise.nil, List.Pairwise.nil, fun p hp => (by cases hp), fun p hp => (by cases hp), fun j hj => hj.2⟩
theorem TU.new_any (w : World) : Calls Try.prog 27 #[] w fun e w' => ∃ g bo bw, e = .returned (.pointer (some ⟨g, 0, none⟩)) ∧ Below w.heap.size w w' ∧ TW w' g bo bw (fun j => w.heap.size ≤ j ∧ j < w'.heap.size) [] [] := by
  have i1 : IM ((w.alloc (.map #[] 0)).alloc (.map #[] 0)) w.heap.size [] := (im_made w).below (ba (Below.refl _ _))
  have i2 : IM ((w.alloc (.map #[] 0)).alloc (.map #[] 0)) (w.heap.size + 1) [] := by
    have := im_made (w.alloc (.map #[] 0))
    rwa [show (w.alloc (.map #[] 0)).heap.size = w.heap.size + 1 by simp] at this
  have fin := tw_new (base := w.heap.size) 77 i1 i2 (by omega) (by simp; omega)
  clear i1 i2
  have hmm := @run_makeMap Try.prog
  go_enter Try.func27, Try.ntmps27
  go_wp2
  go_ret
  refine ⟨w.heap.size + 2, w.heap.size, w.heap.size + 1, rfl, ba (ba (ba (Below.refl _ _))), ?_⟩
  simpa using fin
end Go.Proofs.Ytgeiagndpfdnlaa
