/- The document's turns: Ask. Conditions: as each theorem states them. -/
import Derived.Test.YtgeiagndpfdnlaaTuD1
import Derived.Test.YtgeiagndpfdnlaaApp
namespace Go.Proofs.Ytgeiagndpfdnlaa
open Go.RowKit
set_option linter.unusedVariables false
set_option maxRecDepth 20000
theorem Try.infoP2 : (Try.prog.info? 87).map (fun i => (i.zero, i.size, i.bytes)) = some (some (.agg #[.int .i64 0, .int .i64 0]), 2, 16) := by kernel_rfl
theorem Try.infoW3 : (Try.prog.info? 111).map (fun i => (i.zero, i.size, i.bytes)) = some (some (.agg #[.int .i64 0, .int .i64 0, .int .i64 0]), 3, 24) := by kernel_rfl
namespace TR

theorem ask_neg {w : World} (g t0 : Nat) (line who id : Int) (hw : who < 0) :
    Calls Try.prog 42 #[.pointer (some ⟨g, t0, none⟩), .int .i64 line, .int .i64 who, .int .i64 id] w fun e w' => e = .returned (.bool false) ∧ w = w' := by
  go_enter Try.func42, Try.ntmps42
  go_wp2_with fail
  go_ret
  trivial
set_option maxHeartbeats 400000 in
theorem ask_own {w : World} {g t0 : Nat} {M N : Nat → Prop} {o : List (Int × Int)} {q : List Wr} {ao aq : Option Addr} {no co nq cq : Nat} (h : DT w g t0 M N o q ao no co aq nq cq) (line who id : Int) (hw : 0 ≤ who) (ho : ownT o line = -1) (hq : waitT q line = []) (hn : no < 1000) :
    Calls Try.prog 42 #[.pointer (some ⟨g, t0, none⟩), .int .i64 line, .int .i64 who, .int .i64 id] w fun e w' => e = .returned (.bool true) ∧ Keep (fun k => k = g ∨ M k) w w' ∧ Rest g t0 w w' ∧ ∃ ao' co', DT w' g t0 (fun k => M k ∨ (w.heap.size ≤ k ∧ k < w'.heap.size)) N (o ++ [(line, who)]) q ao' (no + 1) co' aq nq cq := by
  have HO : Hid (ownT o line = -1) := ho
  have HQ : Hid (waitT q line = []) := hq
  have HW : Hid (0 ≤ who) := hw
  have hw' : ¬ who < 0 := by omega
  clear ho hq
  obtain ⟨i0, hi, hz0, hz1, hz2⟩ := info_parts Try.infoP2
  go_enter Try.func42, Try.ntmps42
  go_upto_region 4 with (first
    | (have mk := h1; clear mk; go_at_call 47; refine (waiting_any h1 line).mono ?_; rintro e w2 ⟨rfl, b2⟩; rw [HQ.out]; have h2 := h1.below b2)
    | (go_at_call 20; refine (owner_any h line).mono ?_; rintro e w1 ⟨rfl, b1⟩; rw [HO.out]; have h1 := h.below b1))
  have b12 := next b1 b2
  have c0 := h2.c0
  have lt := h2.lt
  have b3 : Below w2.heap.size w2 (w2.alloc (.cells #[.int .i64 line, .int .i64 who] 87)) := ba (Below.refl _ _)
  have h3 := h2.below b3
  have b13 := next b12 b3
  have hsv : SlV (w2.alloc (.cells #[.int .i64 line, .int .i64 who] 87)) (some ⟨w2.heap.size, 0, none⟩) 1 1 2 (dcells (line, who)) := by
    refine ⟨rfl, Nat.le_refl _, by unfold maxLen; omega, fun h => (by cases h), .inr ⟨_, _, rfl, fun j u hu => ?_⟩⟩
    have h4 := (List.getElem?_eq_some_iff.1 hu).1
    simp [dcells] at h4
    rcases (by omega : j = 0 ∨ j = 1) with rfl | rfl <;> simp [dcells] at hu <;> subst hu <;> simp
  have hmx := h3.ro.max
  clear h1 b1 b2 h2
  go_upto_region 5 with (at_builtin; refine wpList_append_slv _ M (by kernel_rfl) (.tmp 25) (.tmp 29) 55 rfl 87 i0 (.agg #[.int .i64 0, .int .i64 0]) 2 16 Try.underlying55 hi hz0 hz1 hz2 rfl (by decide) ao no co (flat dcells o) rfl h3.ro (some ⟨w2.heap.size, 0, none⟩) 1 1 (dcells (line, who)) rfl hsv (fun u hu => by simp [dcells] at hu; rcases hu with rfl | rfl <;> rfl) (by unfold maxLen; omega) (by omega) ?_; intro a5 k5 w5 r5 kk5; have lt5 := Nat.lt_of_lt_of_le h3.lt kk5.size; have f5 := (kk5.frozen (b := g) t0 h3.lt h3.no.1).trans h3.f0; have h5 := (kk5.cell (b := g) t0 h3.lt h3.no.1).trans h3.c0)
  clear hw' hi hz0 hz1 hz2 hsv hmx c0 lt
  go_wp2_with fail
  go_ret
  have hz : w.heap.size ≤ (w2.alloc (.cells #[.int .i64 line, .int .i64 who] 87)).heap.size := b13.size
  have kg : ∀ v, Keep (fun k => k = g) w5 (w5.setCell ⟨g, t0, none⟩ v) := fun v => Keep.one w5 g t0 v
  refine ⟨rfl, Keep.pre b13 ((kk5.mono (G := fun k => k = g ∨ M k) (fun k _ hm => .inr hm)).trans (kg _) (fun k _ e => .inl e)), (Rest.below b13 h.lt).trans ((Rest.keep kk5 h3.lt h3.no.1).trans (Rest.set (.inl rfl) _)), a5, k5, ?_⟩
  have e1 : flat dcells o ++ dcells (line, who) = flat dcells (o ++ [(line, who)]) := by rw [flat_append, flat_one]
  rw [e1] at r5
  have c1 := (kk5.cell (b := g) (t0 + 1) h3.lt h3.no.1).trans h3.c1
  have f1 := (kk5.frozen (b := g) (t0 + 1) h3.lt h3.no.1).trans h3.f1
  refine ⟨World.cell?_setCell_same' _ _ _ (by rw [h5]; rfl), ?_, by rw [World.frozen?_setCell]; exact f5, by rw [World.frozen?_setCell]; exact f1, by simpa using lt5, ?_, ?_, ⟨fun e => ?_, h3.no.2⟩, fun k hm hN => ?_, fun k hm => ?_, ok_snoc h3.ok HO.out HW.out⟩
  · rw [World.cell?_setCell_other _ _ _ _ (by simp)]; exact c1
  · exact (r5.keep (kg _) (fun k hm e => by subst e; rcases hm with hm | hm; exact h3.no.1 hm; exact absurd h3.lt (by omega))).imp (fun k hk hm => hm.imp (fun x => x) (fun hm => ⟨by omega, hk⟩))
  · exact (h3.rq.keep kk5 (fun k hN hm => h3.ap k hm hN)).keep (kg _) (fun k hN e => h3.no.2 (by rw [← e]; exact hN))
  · have := h.lt
    rcases e with e | e
    · exact h3.no.1 e
    · omega
  · rcases hm with hm | hm
    · exact h3.ap k hm hN
    · have := h.old k (.inr hN); omega
  · rcases hm with (hm | hm) | hN
    · exact Nat.lt_of_lt_of_le (h3.old k (.inl hm)) (by simpa using kk5.size)
    · exact hm.2
    · exact Nat.lt_of_lt_of_le (h3.old k (.inr hN)) (by simpa using kk5.size)
set_option maxHeartbeats 400000 in
theorem ask_wait1 {w : World} {g t0 : Nat} {M N : Nat → Prop} {o : List (Int × Int)} {q : List Wr} {ao aq : Option Addr} {no co nq cq : Nat} (h : DT w g t0 M N o q ao no co aq nq cq) (line who id : Int) (hw : 0 ≤ who) (ho : ownT o line ≠ -1) (hn : nq < 1000) :
    Calls Try.prog 42 #[.pointer (some ⟨g, t0, none⟩), .int .i64 line, .int .i64 who, .int .i64 id] w fun e w' => e = .returned (.bool false) ∧ Keep (fun k => k = g ∨ N k) w w' ∧ Rest g t0 w w' ∧ ∃ aq' cq', DT w' g t0 M (fun k => N k ∨ (w.heap.size ≤ k ∧ k < w'.heap.size)) o (q ++ [⟨line, who, id⟩]) ao no co aq' (nq + 1) cq' := by
  obtain ⟨ov, hov⟩ : ∃ v, ownT o line = v := ⟨_, rfl⟩
  have HO : Hid (ownT o line = ov) := hov
  have hob : (ov == -1) = false := by rw [← hov]; simpa using ho
  clear ho hov
  have hw' : ¬ who < 0 := by omega
  obtain ⟨i0, hi, hz0, hz1, hz2⟩ := info_parts Try.infoW3
  go_enter Try.func42, Try.ntmps42
  go_upto_region 6 with (go_at_call 20; refine (owner_any h line).mono ?_; rintro e w2 ⟨rfl, b2⟩; rw [HO.out]; have h2 := h.below b2)
  have b12 := b2
  have c1 := h2.c1
  have lt := h2.lt
  have b3 : Below w2.heap.size w2 (w2.alloc (.cells #[.int .i64 line, .int .i64 who, .int .i64 id] 111)) := ba (Below.refl _ _)
  have h3 := h2.below b3
  have b13 := next b12 b3
  have hsv : SlV (w2.alloc (.cells #[.int .i64 line, .int .i64 who, .int .i64 id] 111)) (some ⟨w2.heap.size, 0, none⟩) 1 1 3 (wcells ⟨line, who, id⟩) := by
    refine ⟨rfl, Nat.le_refl _, by unfold maxLen; omega, fun h => (by cases h), .inr ⟨_, _, rfl, fun j u hu => ?_⟩⟩
    have h4 := (List.getElem?_eq_some_iff.1 hu).1
    simp [wcells] at h4
    rcases (by omega : j = 0 ∨ j = 1 ∨ j = 2) with rfl | rfl | rfl <;> simp [wcells] at hu <;> subst hu <;> simp
  have hmx := h3.rq.max
  clear b2 h2 hob
  go_upto_region 7 with (at_builtin; refine wpList_append_slv _ N (by kernel_rfl) (.tmp 37) (.tmp 42) 56 rfl 111 i0 (.agg #[.int .i64 0, .int .i64 0, .int .i64 0]) 3 24 Try.underlying56 hi hz0 hz1 hz2 rfl (by decide) aq nq cq (flat wcells q) rfl h3.rq (some ⟨w2.heap.size, 0, none⟩) 1 1 (wcells ⟨line, who, id⟩) rfl hsv (fun u hu => by simp [wcells] at hu; rcases hu with rfl | rfl | rfl <;> rfl) (by unfold maxLen; omega) (by omega) ?_; intro a5 k5 w5 r5 kk5; have lt5 := Nat.lt_of_lt_of_le h3.lt kk5.size; have f5 := (kk5.frozen (b := g) (t0 + 1) h3.lt h3.no.2).trans h3.f1; have h5 := (kk5.cell (b := g) (t0 + 1) h3.lt h3.no.2).trans h3.c1)
  clear hw' hi hz0 hz1 hz2 hsv hmx c1 lt
  go_wp2_with fail
  go_ret
  have hz : w.heap.size ≤ (w2.alloc (.cells #[.int .i64 line, .int .i64 who, .int .i64 id] 111)).heap.size := b13.size
  have kg : ∀ v, Keep (fun k => k = g) w5 (w5.setCell ⟨g, t0 + 1, none⟩ v) := fun v => Keep.one w5 g (t0 + 1) v
  refine ⟨rfl, Keep.pre b13 ((kk5.mono (G := fun k => k = g ∨ N k) (fun k _ hm => .inr hm)).trans (kg _) (fun k _ e => .inl e)), (Rest.below b13 h.lt).trans ((Rest.keep kk5 h3.lt h3.no.2).trans (Rest.set (.inr rfl) _)), a5, k5, ?_⟩
  have e1 : flat wcells q ++ wcells ⟨line, who, id⟩ = flat wcells (q ++ [⟨line, who, id⟩]) := by rw [flat_append, flat_one]
  rw [e1] at r5
  have c0 := (kk5.cell (b := g) t0 h3.lt h3.no.2).trans h3.c0
  have f0 := (kk5.frozen (b := g) t0 h3.lt h3.no.2).trans h3.f0
  refine ⟨?_, World.cell?_setCell_same' _ _ _ (by rw [h5]; rfl), by rw [World.frozen?_setCell]; exact f0, by rw [World.frozen?_setCell]; exact f5, by simpa using lt5, ?_, ?_, ⟨h3.no.1, fun e => ?_⟩, fun k hm hN => ?_, fun k hm => ?_, h3.ok⟩
  · rw [World.cell?_setCell_other _ _ _ _ (by simp)]; exact c0
  · exact (h3.ro.keep kk5 (fun k hm hN => h3.ap k hm hN)).keep (kg _) (fun k hN e => h3.no.1 (by rw [← e]; exact hN))
  · exact (r5.keep (kg _) (fun k hm e => by subst e; rcases hm with hm | hm; exact h3.no.2 hm; exact absurd h3.lt (by omega))).imp (fun k hk hm => hm.imp (fun x => x) (fun hm => ⟨by omega, hk⟩))
  · have := h.lt
    rcases e with e | e
    · exact h3.no.2 e
    · omega
  · rcases hN with hN | hN
    · exact h3.ap k hm hN
    · have := h.old k (.inl hm); omega
  · rcases hm with hm | (hN | hN)
    · exact Nat.lt_of_lt_of_le (h3.old k (.inl hm)) (by simpa using kk5.size)
    · exact Nat.lt_of_lt_of_le (h3.old k (.inr hN)) (by simpa using kk5.size)
    · exact hN.2
set_option maxHeartbeats 400000 in
theorem ask_wait2 {w : World} {g t0 : Nat} {M N : Nat → Prop} {o : List (Int × Int)} {q : List Wr} {ao aq : Option Addr} {no co nq cq : Nat} (h : DT w g t0 M N o q ao no co aq nq cq) (line who id : Int) (hw : 0 ≤ who) (ho : ownT o line = -1) (hq : waitT q line ≠ []) (hn : nq < 1000) :
    Calls Try.prog 42 #[.pointer (some ⟨g, t0, none⟩), .int .i64 line, .int .i64 who, .int .i64 id] w fun e w' => e = .returned (.bool false) ∧ Keep (fun k => k = g ∨ N k) w w' ∧ Rest g t0 w w' ∧ ∃ aq' cq', DT w' g t0 M (fun k => N k ∨ (w.heap.size ≤ k ∧ k < w'.heap.size)) o (q ++ [⟨line, who, id⟩]) ao no co aq' (nq + 1) cq' := by
  have HO : Hid (ownT o line = -1) := ho
  obtain ⟨qn, hqn⟩ : ∃ n, (waitT q line).length = n := ⟨_, rfl⟩
  have HQ : Hid ((waitT q line).length = qn) := hqn
  have hq0 : ((qn : Int) == 0) = false := by have : qn ≠ 0 := fun e => hq (List.eq_nil_of_length_eq_zero (by omega)); simpa using this
  clear ho hq hqn
  have hw' : ¬ who < 0 := by omega
  obtain ⟨i0, hi, hz0, hz1, hz2⟩ := info_parts Try.infoW3
  go_enter Try.func42, Try.ntmps42
  go_upto_region 6 with (first
    | (have mk := h1; clear mk; go_at_call 47; refine (waiting_any h1 line).mono ?_; rintro e w2 ⟨rfl, b2⟩; rw [HQ.out]; have h2 := h1.below b2)
    | (go_at_call 20; refine (owner_any h line).mono ?_; rintro e w1 ⟨rfl, b1⟩; rw [HO.out]; have h1 := h.below b1))
  have b12 := next b1 b2
  have c1 := h2.c1
  have lt := h2.lt
  have b3 : Below w2.heap.size w2 (w2.alloc (.cells #[.int .i64 line, .int .i64 who, .int .i64 id] 111)) := ba (Below.refl _ _)
  have h3 := h2.below b3
  have b13 := next b12 b3
  have hsv : SlV (w2.alloc (.cells #[.int .i64 line, .int .i64 who, .int .i64 id] 111)) (some ⟨w2.heap.size, 0, none⟩) 1 1 3 (wcells ⟨line, who, id⟩) := by
    refine ⟨rfl, Nat.le_refl _, by unfold maxLen; omega, fun h => (by cases h), .inr ⟨_, _, rfl, fun j u hu => ?_⟩⟩
    have h4 := (List.getElem?_eq_some_iff.1 hu).1
    simp [wcells] at h4
    rcases (by omega : j = 0 ∨ j = 1 ∨ j = 2) with rfl | rfl | rfl <;> simp [wcells] at hu <;> subst hu <;> simp
  have hmx := h3.rq.max
  clear h1 b1 b2 h2 hq0
  go_upto_region 7 with (at_builtin; refine wpList_append_slv _ N (by kernel_rfl) (.tmp 37) (.tmp 42) 56 rfl 111 i0 (.agg #[.int .i64 0, .int .i64 0, .int .i64 0]) 3 24 Try.underlying56 hi hz0 hz1 hz2 rfl (by decide) aq nq cq (flat wcells q) rfl h3.rq (some ⟨w2.heap.size, 0, none⟩) 1 1 (wcells ⟨line, who, id⟩) rfl hsv (fun u hu => by simp [wcells] at hu; rcases hu with rfl | rfl | rfl <;> rfl) (by unfold maxLen; omega) (by omega) ?_; intro a5 k5 w5 r5 kk5; have lt5 := Nat.lt_of_lt_of_le h3.lt kk5.size; have f5 := (kk5.frozen (b := g) (t0 + 1) h3.lt h3.no.2).trans h3.f1; have h5 := (kk5.cell (b := g) (t0 + 1) h3.lt h3.no.2).trans h3.c1)
  clear hw' hi hz0 hz1 hz2 hsv hmx c1 lt
  go_wp2_with fail
  go_ret
  have hz : w.heap.size ≤ (w2.alloc (.cells #[.int .i64 line, .int .i64 who, .int .i64 id] 111)).heap.size := b13.size
  have kg : ∀ v, Keep (fun k => k = g) w5 (w5.setCell ⟨g, t0 + 1, none⟩ v) := fun v => Keep.one w5 g (t0 + 1) v
  refine ⟨rfl, Keep.pre b13 ((kk5.mono (G := fun k => k = g ∨ N k) (fun k _ hm => .inr hm)).trans (kg _) (fun k _ e => .inl e)), (Rest.below b13 h.lt).trans ((Rest.keep kk5 h3.lt h3.no.2).trans (Rest.set (.inr rfl) _)), a5, k5, ?_⟩
  have e1 : flat wcells q ++ wcells ⟨line, who, id⟩ = flat wcells (q ++ [⟨line, who, id⟩]) := by rw [flat_append, flat_one]
  rw [e1] at r5
  have c0 := (kk5.cell (b := g) t0 h3.lt h3.no.2).trans h3.c0
  have f0 := (kk5.frozen (b := g) t0 h3.lt h3.no.2).trans h3.f0
  refine ⟨?_, World.cell?_setCell_same' _ _ _ (by rw [h5]; rfl), by rw [World.frozen?_setCell]; exact f0, by rw [World.frozen?_setCell]; exact f5, by simpa using lt5, ?_, ?_, ⟨h3.no.1, fun e => ?_⟩, fun k hm hN => ?_, fun k hm => ?_, h3.ok⟩
  · rw [World.cell?_setCell_other _ _ _ _ (by simp)]; exact c0
  · exact (h3.ro.keep kk5 (fun k hm hN => h3.ap k hm hN)).keep (kg _) (fun k hN e => h3.no.1 (by rw [← e]; exact hN))
  · exact (r5.keep (kg _) (fun k hm e => by subst e; rcases hm with hm | hm; exact h3.no.2 hm; exact absurd h3.lt (by omega))).imp (fun k hk hm => hm.imp (fun x => x) (fun hm => ⟨by omega, hk⟩))
  · have := h.lt
    rcases e with e | e
    · exact h3.no.2 e
    · omega
  · rcases hN with hN | hN
    · exact h3.ap k hm hN
    · have := h.old k (.inl hm); omega
  · rcases hm with hm | (hN | hN)
    · exact Nat.lt_of_lt_of_le (h3.old k (.inl hm)) (by simpa using kk5.size)
    · exact Nat.lt_of_lt_of_le (h3.old k (.inr hN)) (by simpa using kk5.size)
    · exact hN.2
end TR
end Go.Proofs.Ytgeiagndpfdnlaa
