/- The document's turns: Ask. Conditions: as each theorem states them.
The document's turns: Release. Conditions: as each theorem states them.
The document's turns: Next. Conditions: as each theorem states them.
The document's turns: Ready. Conditions: as each theorem states them. -/
import Derived.Test.YtgeiagndpfdnlaaPart5
import Derived.Test.YtgeiagndpfdnlaaPart2
import Derived.Test.YtgeiagndpfdnlaaPart3
section
namespace Go.Proofs.Ytgeiagndpfdnlaa
open Go.RowKit
set_option linter.unusedVariables false
set_option maxRecDepth 20000
theorem Try.infoP2 : (Try.prog.info? 87).map (fun i => (i.zero, i.size, i.bytes)) = some (some (.agg #[.int .i64 0, .int .i64 0]), 2, 16) := by kernel_rfl
theorem Try.infoW3 : (Try.prog.info? 111).map (fun i => (i.zero, i.size, i.bytes)) = some (some (.agg #[.int .i64 0, .int .i64 0, .int .i64 0]), 3, 24) := by kernel_rfl
namespace TR

theorem ask_neg {w : World} (g t0 : Nat) (line who id : Int) (hw : who < 0) :
    Calls Try.prog 42 #[.pointer (some ⟨g, t0, none⟩), .int .i64 line, .int .i64 who, .int .i64 id] w fun e w' => e = .returned (.bool false) ∧ w = w' := by
  go_enter Try.func42, Try.ntmps42
  go_wp2_with fail
  go_ret
  trivial
set_option maxHeartbeats 400000 in
theorem ask_own {w : World} {g t0 : Nat} {M N : Nat → Prop} {o : List (Int × Int)} {q : List Wr} {ao aq : Option Addr} {no co nq cq : Nat} (h : DT w g t0 M N o q ao no co aq nq cq) (line who id : Int) (hw : 0 ≤ who) (ho : ownT o line = -1) (hq : waitT q line = []) (hn : no < 1000) :
    Calls Try.prog 42 #[.pointer (some ⟨g, t0, none⟩), .int .i64 line, .int .i64 who, .int .i64 id] w fun e w' => e = .returned (.bool true) ∧ Keep (fun k => k = g ∨ M k) w w' ∧ Rest g t0 w w' ∧ ∃ ao' co', DT w' g t0 (fun k => M k ∨ (w.heap.size ≤ k ∧ k < w'.heap.size)) N (o ++ [(line, who)]) q ao' (no + 1) co' aq nq cq := by
  have HO : Hid (ownT o line = -1) := ho
  have HQ : Hid (waitT q line = []) := hq
  have HW : Hid (0 ≤ who) := hw
  have hw' : ¬ who < 0 := by omega
  clear ho hq
  obtain ⟨i0, hi, hz0, hz1, hz2⟩ := info_parts Try.infoP2
  go_enter Try.func42, Try.ntmps42
  go_upto_region 4 with (first
    | (have mk := h1; clear mk; go_at_call 47; refine (waiting_any h1 line).mono ?_; rintro e w2 ⟨rfl, b2⟩; rw [HQ.out]; have h2 := h1.below b2)
    | (go_at_call 20; refine (owner_any h line).mono ?_; rintro e w1 ⟨rfl, b1⟩; rw [HO.out]; have h1 := h.below b1))
  have b12 := next b1 b2
  have c0 := h2.c0
  have lt := h2.lt
  have b3 : Below w2.heap.size w2 (w2.alloc (.cells #[.int .i64 line, .int .i64 who] 87)) := ba (Below.refl _ _)
  have h3 := h2.below b3
  have b13 := next b12 b3
  have hsv : SlV (w2.alloc (.cells #[.int .i64 line, .int .i64 who] 87)) (some ⟨w2.heap.size, 0, none⟩) 1 1 2 (dcells (line, who)) := by
    refine ⟨rfl, Nat.le_refl _, by unfold maxLen; omega, fun h => (by cases h), .inr ⟨_, _, rfl, fun j u hu => ?_⟩⟩
    have h4 := (List.getElem?_eq_some_iff.1 hu).1
    simp [dcells] at h4
    rcases (by omega : j = 0 ∨ j = 1) with rfl | rfl <;> simp [dcells] at hu <;> subst hu <;> simp
  have hmx := h3.ro.max
  clear h1 b1 b2 h2
  go_upto_region 5 with (at_builtin; refine wpList_append_slv _ M (by kernel_rfl) (.tmp 25) (.tmp 29) 55 rfl 87 i0 (.agg #[.int .i64 0, .int .i64 0]) 2 16 Try.underlying55 hi hz0 hz1 hz2 rfl (by decide) ao no co (flat dcells o) rfl h3.ro (some ⟨w2.heap.size, 0, none⟩) 1 1 (dcells (line, who)) rfl hsv (fun u hu => by simp [dcells] at hu; rcases hu with rfl | rfl <;> rfl) (by unfold maxLen; omega) (by omega) ?_; intro a5 k5 w5 r5 kk5; have lt5 := Nat.lt_of_lt_of_le h3.lt kk5.size; have f5 := (kk5.frozen (b := g) t0 h3.lt h3.no.1).trans h3.f0; have h5 := (kk5.cell (b := g) t0 h3.lt h3.no.1).trans h3.c0)
  clear hw' hi hz0 hz1 hz2 hsv hmx c0 lt
  go_wp2_with fail
  go_ret
  have hz : w.heap.size ≤ (w2.alloc (.cells #[.int .i64 line, .int .i64 who] 87)).heap.size := b13.size
  have kg : ∀ v, Keep (fun k => k = g) w5 (w5.setCell ⟨g, t0, none⟩ v) := fun v => Keep.one w5 g t0 v
  refine ⟨rfl, Keep.pre b13 ((kk5.mono (G := fun k => k = g ∨ M k) (fun k _ hm => .inr hm)).trans (kg _) (fun k _ e => .inl e)), (Rest.below b13 h.lt).trans ((Rest.keep kk5 h3.lt h3.no.1).trans (Rest.set (.inl rfl) _)), a5, k5, ?_⟩
  have e1 : flat dcells o ++ dcells (line, who) = flat dcells (o ++ [(line, who)]) := by rw [flat_append, flat_one]
  rw [e1] at r5
  have c1 := (kk5.cell (b := g) (t0 + 1) h3.lt h3.no.1).trans h3.c1
  have f1 := (kk5.frozen (b := g) (t0 + 1) h3.lt h3.no.1).trans h3.f1
  refine ⟨World.cell?_setCell_same' _ _ _ (by rw [h5]; rfl), ?_, by rw [World.frozen?_setCell]; exact f5, by rw [World.frozen?_setCell]; exact f1, by simpa using lt5, ?_, ?_, ⟨fun e => ?_, h3.no.2⟩, fun k hm hN => ?_, fun k hm => ?_, ok_snoc h3.ok HO.out HW.out⟩
  · rw [World.cell?_setCell_other _ _ _ _ (by simp)]; exact c1
  · exact (r5.keep (kg _) (fun k hm e => by subst e; rcases hm with hm | hm; exact h3.no.1 hm; exact absurd h3.lt (by omega))).imp (fun k hk hm => hm.imp (fun x => x) (fun hm => ⟨by omega, hk⟩))
  · exact (h3.rq.keep kk5 (fun k hN hm => h3.ap k hm hN)).keep (kg _) (fun k hN e => h3.no.2 (by rw [← e]; exact hN))
  · have := h.lt
    rcases e with e | e
    · exact h3.no.1 e
    · omega
  · rcases hm with hm | hm
    · exact h3.ap k hm hN
    · have := h.old k (.inr hN); omega
  · rcases hm with (hm | hm) | hN
    · exact Nat.lt_of_lt_of_le (h3.old k (.inl hm)) (by simpa using kk5.size)
    · exact hm.2
    · exact Nat.lt_of_lt_of_le (h3.old k (.inr hN)) (by simpa using kk5.size)
set_option maxHeartbeats 400000 in
theorem ask_wait1 {w : World} {g t0 : Nat} {M N : Nat → Prop} {o : List (Int × Int)} {q : List Wr} {ao aq : Option Addr} {no co nq cq : Nat} (h : DT w g t0 M N o q ao no co aq nq cq) (line who id : Int) (hw : 0 ≤ who) (ho : ownT o line ≠ -1) (hn : nq < 1000) :
    Calls Try.prog 42 #[.pointer (some ⟨g, t0, none⟩), .int .i64 line, .int .i64 who, .int .i64 id] w fun e w' => e = .returned (.bool false) ∧ Keep (fun k => k = g ∨ N k) w w' ∧ Rest g t0 w w' ∧ ∃ aq' cq', DT w' g t0 M (fun k => N k ∨ (w.heap.size ≤ k ∧ k < w'.heap.size)) o (q ++ [⟨line, who, id⟩]) ao no co aq' (nq + 1) cq' := by
  obtain ⟨ov, hov⟩ : ∃ v, ownT o line = v := ⟨_, rfl⟩
  have HO : Hid (ownT o line = ov) := hov
  have hob : (ov == -1) = false := by rw [← hov]; simpa using ho
  clear ho hov
  have hw' : ¬ who < 0 := by omega
  obtain ⟨i0, hi, hz0, hz1, hz2⟩ := info_parts Try.infoW3
  go_enter Try.func42, Try.ntmps42
  go_upto_region 6 with (go_at_call 20; refine (owner_any h line).mono ?_; rintro e w2 ⟨rfl, b2⟩; rw [HO.out]; have h2 := h.below b2)
  have b12 := b2
  have c1 := h2.c1
  have lt := h2.lt
  have b3 : Below w2.heap.size w2 (w2.alloc (.cells #[.int .i64 line, .int .i64 who, .int .i64 id] 111)) := ba (Below.refl _ _)
  have h3 := h2.below b3
  have b13 := next b12 b3
  have hsv : SlV (w2.alloc (.cells #[.int .i64 line, .int .i64 who, .int .i64 id] 111)) (some ⟨w2.heap.size, 0, none⟩) 1 1 3 (wcells ⟨line, who, id⟩) := by
    refine ⟨rfl, Nat.le_refl _, by unfold maxLen; omega, fun h => (by cases h), .inr ⟨_, _, rfl, fun j u hu => ?_⟩⟩
    have h4 := (List.getElem?_eq_some_iff.1 hu).1
    simp [wcells] at h4
    rcases (by omega : j = 0 ∨ j = 1 ∨ j = 2) with rfl | rfl | rfl <;> simp [wcells] at hu <;> subst hu <;> simp
  have hmx := h3.rq.max
  clear b2 h2 hob
  go_upto_region 7 with (at_builtin; refine wpList_append_slv _ N (by kernel_rfl) (.tmp 37) (.tmp 42) 56 rfl 111 i0 (.agg #[.int .i64 0, .int .i64 0, .int .i64 0]) 3 24 Try.underlying56 hi hz0 hz1 hz2 rfl (by decide) aq nq cq (flat wcells q) rfl h3.rq (some ⟨w2.heap.size, 0, none⟩) 1 1 (wcells ⟨line, who, id⟩) rfl hsv (fun u hu => by simp [wcells] at hu; rcases hu with rfl | rfl | rfl <;> rfl) (by unfold maxLen; omega) (by omega) ?_; intro a5 k5 w5 r5 kk5; have lt5 := Nat.lt_of_lt_of_le h3.lt kk5.size; have f5 := (kk5.frozen (b := g) (t0 + 1) h3.lt h3.no.2).trans h3.f1; have h5 := (kk5.cell (b := g) (t0 + 1) h3.lt h3.no.2).trans h3.c1)
  clear hw' hi hz0 hz1 hz2 hsv hmx c1 lt
  go_wp2_with fail
  go_ret
  have hz : w.heap.size ≤ (w2.alloc (.cells #[.int .i64 line, .int .i64 who, .int .i64 id] 111)).heap.size := b13.size
  have kg : ∀ v, Keep (fun k => k = g) w5 (w5.setCell ⟨g, t0 + 1, none⟩ v) := fun v => Keep.one w5 g (t0 + 1) v
  refine ⟨rfl, Keep.pre b13 ((kk5.mono (G := fun k => k = g ∨ N k) (fun k _ hm => .inr hm)).trans (kg _) (fun k _ e => .inl e)), (Rest.below b13 h.lt).trans ((Rest.keep kk5 h3.lt h3.no.2).trans (Rest.set (.inr rfl) _)), a5, k5, ?_⟩
  have e1 : flat wcells q ++ wcells ⟨line, who, id⟩ = flat wcells (q ++ [⟨line, who, id⟩]) := by rw [flat_append, flat_one]
  rw [e1] at r5
  have c0 := (kk5.cell (b := g) t0 h3.lt h3.no.2).trans h3.c0
  have f0 := (kk5.frozen (b := g) t0 h3.lt h3.no.2).trans h3.f0
  refine ⟨?_, World.cell?_setCell_same' _ _ _ (by rw [h5]; rfl), by rw [World.frozen?_setCell]; exact f0, by rw [World.frozen?_setCell]; exact f5, by simpa using lt5, ?_, ?_, ⟨h3.no.1, fun e => ?_⟩, fun k hm hN => ?_, fun k hm => ?_, h3.ok⟩
  · rw [World.cell?_setCell_other _ _ _ _ (by simp)]; exact c0
  · exact (h3.ro.keep kk5 (fun k hm hN => h3.ap k hm hN)).keep (kg _) (fun k hN e => h3.no.1 (by rw [← e]; exact hN))
  · exact (r5.keep (kg _) (fun k hm e => by subst e; rcases hm with hm | hm; exact h3.no.2 hm; exact absurd h3.lt (by omega))).imp (fun k hk hm => hm.imp (fun x => x) (fun hm => ⟨by omega, hk⟩))
  · have := h.lt
    rcases e with e | e
    · exact h3.no.2 e
    · omega
  · rcases hN with hN | hN
    · exact h3.ap k hm hN
    · have := h.old k (.inl hm); omega
  · rcases hm with hm | (hN | hN)
    · exact Nat.lt_of_lt_of_le (h3.old k (.inl hm)) (by simpa using kk5.size)
    · exact Nat.lt_of_lt_of_le (h3.old k (.inr hN)) (by simpa using kk5.size)
    · exact hN.2
set_option maxHeartbeats 400000 in
theorem ask_wait2 {w : World} {g t0 : Nat} {M N : Nat → Prop} {o : List (Int × Int)} {q : List Wr} {ao aq : Option Addr} {no co nq cq : Nat} (h : DT w g t0 M N o q ao no co aq nq cq) (line who id : Int) (hw : 0 ≤ who) (ho : ownT o line = -1) (hq : waitT q line ≠ []) (hn : nq < 1000) :
    Calls Try.prog 42 #[.pointer (some ⟨g, t0, none⟩), .int .i64 line, .int .i64 who, .int .i64 id] w fun e w' => e = .returned (.bool false) ∧ Keep (fun k => k = g ∨ N k) w w' ∧ Rest g t0 w w' ∧ ∃ aq' cq', DT w' g t0 M (fun k => N k ∨ (w.heap.size ≤ k ∧ k < w'.heap.size)) o (q ++ [⟨line, who, id⟩]) ao no co aq' (nq + 1) cq' := by
  have HO : Hid (ownT o line = -1) := ho
  obtain ⟨qn, hqn⟩ : ∃ n, (waitT q line).length = n := ⟨_, rfl⟩
  have HQ : Hid ((waitT q line).length = qn) := hqn
  have hq0 : ((qn : Int) == 0) = false := by have : qn ≠ 0 := fun e => hq (List.eq_nil_of_length_eq_zero (by omega)); simpa using this
  clear ho hq hqn
  have hw' : ¬ who < 0 := by omega
  obtain ⟨i0, hi, hz0, hz1, hz2⟩ := info_parts Try.infoW3
  go_enter Try.func42, Try.ntmps42
  go_upto_region 6 with (first
    | (have mk := h1; clear mk; go_at_call 47; refine (waiting_any h1 line).mono ?_; rintro e w2 ⟨rfl, b2⟩; rw [HQ.out]; have h2 := h1.below b2)
    | (go_at_call 20; refine (owner_any h line).mono ?_; rintro e w1 ⟨rfl, b1⟩; rw [HO.out]; have h1 := h.below b1))
  have b12 := next b1 b2
  have c1 := h2.c1
  have lt := h2.lt
  have b3 : Below w2.heap.size w2 (w2.alloc (.cells #[.int .i64 line, .int .i64 who, .int .i64 id] 111)) := ba (Below.refl _ _)
  have h3 := h2.below b3
  have b13 := next b12 b3
  have hsv : SlV (w2.alloc (.cells #[.int .i64 line, .int .i64 who, .int .i64 id] 111)) (some ⟨w2.heap.size, 0, none⟩) 1 1 3 (wcells ⟨line, who, id⟩) := by
    refine ⟨rfl, Nat.le_refl _, by unfold maxLen; omega, fun h => (by cases h), .inr ⟨_, _, rfl, fun j u hu => ?_⟩⟩
    have h4 := (List.getElem?_eq_some_iff.1 hu).1
    simp [wcells] at h4
    rcases (by omega : j = 0 ∨ j = 1 ∨ j = 2) with rfl | rfl | rfl <;> simp [wcells] at hu <;> subst hu <;> simp
  have hmx := h3.rq.max
  clear h1 b1 b2 h2 hq0
  go_upto_region 7 with (at_builtin; refine wpList_append_slv _ N (by kernel_rfl) (.tmp 37) (.tmp 42) 56 rfl 111 i0 (.agg #[.int .i64 0, .int .i64 0, .int .i64 0]) 3 24 Try.underlying56 hi hz0 hz1 hz2 rfl (by decide) aq nq cq (flat wcells q) rfl h3.rq (some ⟨w2.heap.size, 0, none⟩) 1 1 (wcells ⟨line, who, id⟩) rfl hsv (fun u hu => by simp [wcells] at hu; rcases hu with rfl | rfl | rfl <;> rfl) (by unfold maxLen; omega) (by omega) ?_; intro a5 k5 w5 r5 kk5; have lt5 := Nat.lt_of_lt_of_le h3.lt kk5.size; have f5 := (kk5.frozen (b := g) (t0 + 1) h3.lt h3.no.2).trans h3.f1; have h5 := (kk5.cell (b := g) (t0 + 1) h3.lt h3.no.2).trans h3.c1)
  clear hw' hi hz0 hz1 hz2 hsv hmx c1 lt
  go_wp2_with fail
  go_ret
  have hz : w.heap.size ≤ (w2.alloc (.cells #[.int .i64 line, .int .i64 who, .int .i64 id] 111)).heap.size := b13.size
  have kg : ∀ v, Keep (fun k => k = g) w5 (w5.setCell ⟨g, t0 + 1, none⟩ v) := fun v => Keep.one w5 g (t0 + 1) v
  refine ⟨rfl, Keep.pre b13 ((kk5.mono (G := fun k => k = g ∨ N k) (fun k _ hm => .inr hm)).trans (kg _) (fun k _ e => .inl e)), (Rest.below b13 h.lt).trans ((Rest.keep kk5 h3.lt h3.no.2).trans (Rest.set (.inr rfl) _)), a5, k5, ?_⟩
  have e1 : flat wcells q ++ wcells ⟨line, who, id⟩ = flat wcells (q ++ [⟨line, who, id⟩]) := by rw [flat_append, flat_one]
  rw [e1] at r5
  have c0 := (kk5.cell (b := g) t0 h3.lt h3.no.2).trans h3.c0
  have f0 := (kk5.frozen (b := g) t0 h3.lt h3.no.2).trans h3.f0
  refine ⟨?_, World.cell?_setCell_same' _ _ _ (by rw [h5]; rfl), by rw [World.frozen?_setCell]; exact f0, by rw [World.frozen?_setCell]; exact f5, by simpa using lt5, ?_, ?_, ⟨h3.no.1, fun e => ?_⟩, fun k hm hN => ?_, fun k hm => ?_, h3.ok⟩
  · rw [World.cell?_setCell_other _ _ _ _ (by simp)]; exact c0
  · exact (h3.ro.keep kk5 (fun k hm hN => h3.ap k hm hN)).keep (kg _) (fun k hN e => h3.no.1 (by rw [← e]; exact hN))
  · exact (r5.keep (kg _) (fun k hm e => by subst e; rcases hm with hm | hm; exact h3.no.2 hm; exact absurd h3.lt (by omega))).imp (fun k hk hm => hm.imp (fun x => x) (fun hm => ⟨by omega, hk⟩))
  · have := h.lt
    rcases e with e | e
    · exact h3.no.2 e
    · omega
  · rcases hN with hN | hN
    · exact h3.ap k hm hN
    · have := h.old k (.inl hm); omega
  · rcases hm with hm | (hN | hN)
    · exact Nat.lt_of_lt_of_le (h3.old k (.inl hm)) (by simpa using kk5.size)
    · exact Nat.lt_of_lt_of_le (h3.old k (.inr hN)) (by simpa using kk5.size)
    · exact hN.2
end TR
end Go.Proofs.Ytgeiagndpfdnlaa
end
section
namespace Go.Proofs.Ytgeiagndpfdnlaa
open Go.RowKit
set_option linter.unusedVariables false
set_option maxRecDepth 20000
theorem flat_erase2 {α : Type} {c : α → List Value} {k : Nat} (hc : ∀ x, (c x).length = k) {R : List α} {i : Nat} : [] ++ (flat c R).take (i * k) ++ (flat c R).drop ((i + 1) * k) = flat c (R.eraseIdx i) := by
  rw [List.nil_append, flat_take hc, flat_drop hc, ← flat_append, List.eraseIdx_eq_take_drop_succ]
section
variable {w w8 : World} {g t0 : Nat} {M N M' : Nat → Prop} {o o' : List (Int × Int)} {q q' : List Wr} {ao aq a' : Option Addr} {no co nq cq n' c' : Nat}
/-- The owners are others, in new memory. -/
theorem DT.newO (h : DT w g t0 M N o q ao no co aq nq cq) (hb : Below w.heap.size w w8) (hr : Rw w8 M' a' n' c' 2 (flat dcells o')) (hM : ∀ j, M' j → w.heap.size ≤ j) (ok' : OkT o') : DT (w8.setCell ⟨g, t0, none⟩ (.slice a' n' c')) g t0 (fun j => M' j ∧ j < w8.heap.size) N o' q a' n' c' aq nq cq := by
  have h8 := h.below hb
  have kk := Keep.one w8 g t0 (.slice a' n' c')
  have hlt := h.lt
  refine ⟨World.cell?_setCell_same' _ _ _ (by rw [h8.c0]; rfl), by rw [World.cell?_setCell_other _ _ _ _ (by simp)]; exact h8.c1, by rw [World.frozen?_setCell]; exact h8.f0, by rw [World.frozen?_setCell]; exact h8.f1, by simpa using h8.lt,
    (hr.imp (fun j hj hm => ⟨hm, hj⟩)).keep kk (fun j hj e => by have := hM j hj.1; omega), h8.rq.keep kk (fun j hj e => h8.no.2 (e ▸ hj)), ⟨fun hj => by have := hM g hj.1; omega, h.no.2⟩, fun j hj hn => by have := hM j hj.1; have := h.old j (.inr hn); omega, fun j hj => ?_, ok'⟩
  rw [show (w8.setCell ⟨g, t0, none⟩ (.slice a' n' c')).heap.size = w8.heap.size by simp]
  rcases hj with hj | hj
  · exact hj.2
  · exact h8.old j (.inr hj)
/-- Those who wait are others, in new memory. -/
theorem DT.newQ (h : DT w g t0 M N o q ao no co aq nq cq) (hb : Below w.heap.size w w8) (hr : Rw w8 M' a' n' c' 3 (flat wcells q')) (hM : ∀ j, M' j → w.heap.size ≤ j) : DT (w8.setCell ⟨g, t0 + 1, none⟩ (.slice a' n' c')) g t0 M (fun j => M' j ∧ j < w8.heap.size) o q' ao no co a' n' c' := by
  have h8 := h.below hb
  have kk := Keep.one w8 g (t0 + 1) (.slice a' n' c')
  have hlt := h.lt
  refine ⟨by rw [World.cell?_setCell_other _ _ _ _ (by simp)]; exact h8.c0, World.cell?_setCell_same' _ _ _ (by rw [h8.c1]; rfl), by rw [World.frozen?_setCell]; exact h8.f0, by rw [World.frozen?_setCell]; exact h8.f1, by simpa using h8.lt,
    h8.ro.keep kk (fun j hj e => h8.no.1 (e ▸ hj)), (hr.imp (fun j hj hm => ⟨hm, hj⟩)).keep kk (fun j hj e => by have := hM j hj.1; omega), ⟨h.no.1, fun hj => by have := hM g hj.1; omega⟩, fun j hj hn => by have := hM j hn.1; have := h.old j (.inl hj); omega, fun j hj => ?_, h8.ok⟩
  rw [show (w8.setCell ⟨g, t0 + 1, none⟩ (.slice a' n' c')).heap.size = w8.heap.size by simp]
  rcases hj with hj | hj
  · exact h8.old j (.inl hj)
  · exact hj.2
end
/-- Wider sets of blocks. -/
theorem DT.wide {w : World} {g t0 : Nat} {M N M' N' : Nat → Prop} {o : List (Int × Int)} {q : List Wr} {ao aq : Option Addr} {no co nq cq : Nat} (h : DT w g t0 M N o q ao no co aq nq cq) (hM : ∀ j, M j → M' j) (hN : ∀ j, N j → N' j) (hap : ∀ j, M' j → ¬ N' j) (hg : ¬ M' g ∧ ¬ N' g) (hold : ∀ j, M' j ∨ N' j → j < w.heap.size) : DT w g t0 M' N' o q ao no co aq nq cq :=
  ⟨h.c0, h.c1, h.f0, h.f1, h.lt, h.ro.imp (fun j _ => hM j), h.rq.imp (fun j _ => hN j), hg, hap, hold, h.ok⟩
namespace TR
set_option maxHeartbeats 400000 in
theorem release_no {w : World} {g t0 : Nat} {M N : Nat → Prop} {o : List (Int × Int)} {q : List Wr} {ao aq : Option Addr} {no co nq cq : Nat} (h : DT w g t0 M N o q ao no co aq nq cq) (line who : Int) (hno : ∀ p ∈ o, ¬ (p.1 = line ∧ p.2 = who)) :
    Calls Try.prog 44 #[.pointer (some ⟨g, t0, none⟩), .int .i64 line, .int .i64 who] w fun e w' => e = .returned (.bool false) ∧ Below w.heap.size w w' := by
  have HNO : Hid (∀ p ∈ o, ¬ (p.1 = line ∧ p.2 = who)) := hno
  clear hno
  have c0 := h.c0
  have lt := h.lt
  have row := h.ro
  have HL : Hid (o.length = no) := row.lenF dcells_len (by omega)
  have H : Hid (DT w g t0 M N o q ao no co aq nq cq) := h
  have hle := row.le
  have hmx := row.max
  unfold maxLen at hmx
  clear h
  go_enter Try.func44, Try.ntmps44
  go_wp2_with fail
  go_loopw [14] (fun vi wr => ∃ i : Nat, vi = .int .i64 (i : Int) ∧ i ≤ no ∧ Below w.heap.size w wr) (fun vi _ => no - (intOf vi).toNat)
  case atStart => exact ⟨0, rfl, by omega, Below.refl _ _⟩
  case round =>
    obtain ⟨i, rfl, hi, hB⟩ := hrel
    by_cases hlt : i < no
    · skip
      obtain ⟨x, hx⟩ : ∃ x, o[i]? = some x := ⟨o[i]'(by have := HL.out; omega), List.getElem?_eq_getElem (by have := HL.out; omega)⟩
      obtain ⟨b, o1, rfl, _, hb, hc⟩ := (row.below hB).getF dcells_len hx (by omega)
      have HX : Hid (o[i]? = some x) := hx
      obtain ⟨xl, xw⟩ := x
      have x0 : wr.cell? ⟨b, o1 + i * 2, none⟩ = some (.int .i64 xl) := hc 0 _ (by omega) rfl
      have x1 : wr.cell? ⟨b, o1 + i * 2 + 1, none⟩ = some (.int .i64 xw) := hc 1 _ (by omega) rfl
      have hB2 := hB.trans ((ba (o := .cells #[.int .i64 xl, .int .i64 xw] 87) (Below.refl wr.heap.size wr)).mono hB.size)
      have y0 : (wr.alloc (.cells #[.int .i64 xl, .int .i64 xw] 87)).cell? ⟨wr.heap.size, 0, none⟩ = some (.int .i64 xl) := by simp
      have y1 : (wr.alloc (.cells #[.int .i64 xl, .int .i64 xw] 87)).cell? ⟨wr.heap.size, 1, none⟩ = some (.int .i64 xw) := by simp
      clear hx hc row c0 lt
      go_upto_region 4 with fail
      clear x0 x1 hb hB
      generalize wr.heap.size = ge at *
      generalize wr.alloc _ = w2 at *
      have hn := HNO.out _ (List.mem_of_getElem? HX.out)
      simp only at hn
      by_cases he : xl = line
      · have hew : xw ≠ who := fun e => hn ⟨he, e⟩
        have hb2 : (xw == who) = false := by simpa using hew
        rw [he] at y0
        clear he hn hew
        go_wp2_with fail
        go_roundw
        case rel => exact ⟨i + 1, by go_num, by omega, hB2⟩
        case measure => simp [intOf]; omega
      · have hb2 : (xl == line) = false := by simpa using he
        clear he hn
        go_wp2_with fail
        go_roundw
        case rel => exact ⟨i + 1, by go_num, by omega, hB2⟩
        case measure => simp [intOf]; omega
    · go_wp2_with fail
      go_ret
      exact ⟨rfl, hB⟩
set_option maxHeartbeats 800000 in
theorem release_ok {w : World} {g t0 : Nat} {M N : Nat → Prop} {o : List (Int × Int)} {q : List Wr} {ao aq : Option Addr} {no co nq cq : Nat} (h : DT w g t0 M N o q ao no co aq nq cq) (line who : Int) {k : Nat} (hk : o[k]? = some (line, who)) (hno : ∀ j y, j < k → o[j]? = some y → ¬ (y.1 = line ∧ y.2 = who)) (hn : no ≤ 1000) :
    Calls Try.prog 44 #[.pointer (some ⟨g, t0, none⟩), .int .i64 line, .int .i64 who] w fun e w' => e = .returned (.bool true) ∧ Keep (fun j => j = g) w w' ∧ Rest g t0 w w' ∧ ∃ ao' co', DT w' g t0 (fun j => w.heap.size ≤ j ∧ j < w'.heap.size) N (o.eraseIdx k) q ao' (no - 1) co' aq nq cq := by
  have HNO : Hid (∀ j y, j < k → o[j]? = some y → ¬ (y.1 = line ∧ y.2 = who)) := hno
  have HK : Hid (o[k]? = some (line, who)) := hk
  clear hno
  have c0 := h.c0
  have lt := h.lt
  have row := h.ro
  have HL : Hid (o.length = no) := row.lenF dcells_len (by omega)
  have H : Hid (DT w g t0 M N o q ao no co aq nq cq) := h
  have hle := row.le
  have hmx := row.max
  unfold maxLen at hmx
  clear h
  have hkn : k < no := by rw [← HL.out]; exact (List.getElem?_eq_some_iff.1 hk).1
  clear hk
  go_enter Try.func44, Try.ntmps44
  go_wp2_with fail
  go_loopw [14] (fun vi wr => ∃ i : Nat, vi = .int .i64 (i : Int) ∧ i ≤ k ∧ Below w.heap.size w wr) (fun vi _ => no - (intOf vi).toNat)
  case atStart => exact ⟨0, rfl, by omega, Below.refl _ _⟩
  case round =>
    obtain ⟨i, rfl, hi, hB⟩ := hrel
    obtain ⟨x, hx⟩ : ∃ x, o[i]? = some x := ⟨o[i]'(by have := HL.out; omega), List.getElem?_eq_getElem (by have := HL.out; omega)⟩
    obtain ⟨b, o1, rfl, _, hb, hc⟩ := (row.below hB).getF dcells_len hx (by omega)
    have HX : Hid (o[i]? = some x) := hx
    obtain ⟨xl, xw⟩ := x
    have x0 : wr.cell? ⟨b, o1 + i * 2, none⟩ = some (.int .i64 xl) := hc 0 _ (by omega) rfl
    have x1 : wr.cell? ⟨b, o1 + i * 2 + 1, none⟩ = some (.int .i64 xw) := hc 1 _ (by omega) rfl
    have hB2 := hB.trans ((ba (o := .cells #[.int .i64 xl, .int .i64 xw] 87) (Below.refl wr.heap.size wr)).mono hB.size)
    have y0 : (wr.alloc (.cells #[.int .i64 xl, .int .i64 xw] 87)).cell? ⟨wr.heap.size, 0, none⟩ = some (.int .i64 xl) := by simp
    have y1 : (wr.alloc (.cells #[.int .i64 xl, .int .i64 xw] 87)).cell? ⟨wr.heap.size, 1, none⟩ = some (.int .i64 xw) := by simp
    clear hx hc row c0 lt
    go_upto_region 4 with fail
    clear x0 x1 hb hB
    generalize wr.heap.size = ge at *
    generalize wr.alloc _ = w2 at *
    by_cases hik : i < k
    · have hn := HNO.out i _ hik HX.out
      simp only at hn
      by_cases he : xl = line
      · have hew : xw ≠ who := fun e => hn ⟨he, e⟩
        have hb2 : (xw == who) = false := by simpa using hew
        rw [he] at y0
        clear he hn hew
        go_wp2_with fail
        go_roundw
        case rel => exact ⟨i + 1, by go_num, by omega, hB2⟩
        case measure => simp [intOf]; omega
      · have hb2 : (xl == line) = false := by simpa using he
        clear he hn
        go_wp2_with fail
        go_roundw
        case rel => exact ⟨i + 1, by go_num, by omega, hB2⟩
        case measure => simp [intOf]; omega
    · obtain rfl : i = k := by omega
      have hxe := HK.out
      rw [HX.out] at hxe
      injection hxe with hxe
      injection hxe with e1 e2
      subst e1 e2
      have hin : i < no := hkn
      go_upto_region 5 with fail
      refine wp_region_orders 19 rfl (by kernel_rfl) ?_
      have hBd : Below w2.heap.size w2 w2.drew := (Below.refl _ _).drew
      have hBV : Below w.heap.size w w2.drew := next hB2 hBd
      have D := H.out.below hBV
      clear hB2 hBd y0 y1
      generalize w2.drew = V0 at *
      have hI : (fun V : World => V.cell? ⟨g, t0, none⟩ = some (.slice (some ⟨b, o1, none⟩) no co) ∧ V.frozen? ⟨g, t0, none⟩ = false) V0 := ⟨D.c0, D.f0⟩
      obtain ⟨A, hA⟩ : ∃ A : Addr, (if co = i + 1 then some (⟨b, o1, none⟩ : Addr) else some ⟨b, o1 + (i + 1) * 2, none⟩) = some A := by
        by_cases e : co = i + 1
        · exact ⟨_, if_pos e⟩
        · exact ⟨_, if_neg e⟩
      have hle0 := D.ro.le
      have hmx0 := D.ro.max
      unfold maxLen at hmx0
      have hic : i ≤ co := by omega
      have hjc : i + 1 ≤ co := by omega
      have hwr : IntKind.i64.wrap ((i : Int) + 1) = (i : Int) + 1 := (IntWalk.i64_left _).trans (IntWalk.wrap64_in _ (by omega))
      have hi1 : 0 ≤ (i : Int) ∧ (i : Int) ≤ no ∧ 0 ≤ (i : Int) + 1 ∧ (i : Int) + 1 ≤ no := by omega
      refine any_inv (fun V : World => V.cell? ⟨g, t0, none⟩ = some (.slice (some ⟨b, o1, none⟩) no co) ∧ V.frozen? ⟨g, t0, none⟩ = false) [18] hI ?_
      refine inv_take (v := ?v1) [16, 17, 18] 0 hI rfl (by kernel_rfl) (by kernel_rfl) (by kernel_rfl) (by kernel_rfl) (by kernel_rfl) (fun _ _ _ h => h) (by kernel_rfl) (fun V hV => ?hy1) ?go1
      case hy1 => (obtain ⟨i1, i2⟩ := hV; go_simp <;> rfl)
      simp only [Act.put, List.setIfInBounds_toArray, List.set_cons_zero, List.set_cons_succ]
      refine inv_take (v := ?v2) [2, 3, 4, 6, 7, 15, 16, 17, 18] 1 hI rfl (by kernel_rfl) (by kernel_rfl) (by kernel_rfl) (by kernel_rfl) (by kernel_rfl) (fun _ _ _ h => h) (by kernel_rfl) (fun V hV => ?hy2) ?go2
      case hy2 => (obtain ⟨i1, i2⟩ := hV; go_simp <;> rfl)
      simp only [Act.put, List.setIfInBounds_toArray, List.set_cons_zero, List.set_cons_succ]
      refine inv_take (v := ?v3) [3, 4, 6, 7, 15, 16, 17, 18] 2 hI rfl (by kernel_rfl) (by kernel_rfl) (by kernel_rfl) (by kernel_rfl) (by kernel_rfl) (fun _ _ _ h => h) (by kernel_rfl) (fun V hV => ?hy3) ?go3
      case hy3 => (obtain ⟨i1, i2⟩ := hV; go_simp <;> rfl)
      simp only [Act.put, List.setIfInBounds_toArray, List.set_cons_zero, List.set_cons_succ]
      refine inv_take (v := ?v4) [4, 6, 7, 15, 16, 17, 18] 3 hI rfl (by kernel_rfl) (by kernel_rfl) (by kernel_rfl) (by kernel_rfl) (by kernel_rfl) (fun _ _ _ h => h) (by kernel_rfl) (fun V hV => ?hy4) ?go4
      case hy4 => (obtain ⟨i1, i2⟩ := hV; go_simp <;> rfl)
      simp only [Act.put, List.setIfInBounds_toArray, List.set_cons_zero, List.set_cons_succ]
      refine inv_take (v := ?v5) [6, 7, 15, 16, 17, 18] 4 hI rfl (by kernel_rfl) (by kernel_rfl) (by kernel_rfl) (by kernel_rfl) (by kernel_rfl) (fun _ _ _ h => h) (by kernel_rfl) (fun V hV => ?hy5) ?go5
      case hy5 => (obtain ⟨i1, i2⟩ := hV; go_simp <;> rfl)
      simp only [Act.put, List.setIfInBounds_toArray, List.set_cons_zero, List.set_cons_succ]
      refine inv_take (v := ?v6) [6, 7, 15, 16, 17, 18] 5 hI rfl (by kernel_rfl) (by kernel_rfl) (by kernel_rfl) (by kernel_rfl) (by kernel_rfl) (fun _ _ _ h => h) (by kernel_rfl) (fun V hV => ?hy6) ?go6
      case hy6 => (obtain ⟨i1, i2⟩ := hV; go_simp <;> rfl)
      simp only [Act.put, List.setIfInBounds_toArray, List.set_cons_zero, List.set_cons_succ]
      refine inv_take (v := ?v7) [7, 15, 16, 17, 18] 6 hI rfl (by kernel_rfl) (by kernel_rfl) (by kernel_rfl) (by kernel_rfl) (by kernel_rfl) (fun _ _ _ h => h) (by kernel_rfl) (fun V hV => ?hy7) ?go7
      case hy7 => (obtain ⟨i1, i2⟩ := hV; go_simp <;> rfl)
      simp only [Act.put, List.setIfInBounds_toArray, List.set_cons_zero, List.set_cons_succ]
      refine inv_take (v := ?v8) [9, 10, 11, 14, 15, 16, 17, 18] 8 hI rfl (by kernel_rfl) (by kernel_rfl) (by kernel_rfl) (by kernel_rfl) (by kernel_rfl) (fun _ _ _ h => h) (by kernel_rfl) (fun V hV => ?hy8) ?go8
      case hy8 => (obtain ⟨i1, i2⟩ := hV; go_simp <;> rfl)
      simp only [Act.put, List.setIfInBounds_toArray, List.set_cons_zero, List.set_cons_succ]
      refine inv_take (v := ?v9) [10, 11, 14, 15, 16, 17, 18] 9 hI rfl (by kernel_rfl) (by kernel_rfl) (by kernel_rfl) (by kernel_rfl) (by kernel_rfl) (fun _ _ _ h => h) (by kernel_rfl) (fun V hV => ?hy9) ?go9
      case hy9 => (obtain ⟨i1, i2⟩ := hV; go_simp <;> rfl)
      simp only [Act.put, List.setIfInBounds_toArray, List.set_cons_zero, List.set_cons_succ]
      refine inv_take (v := ?v10) [11, 14, 15, 16, 17, 18] 10 hI rfl (by kernel_rfl) (by kernel_rfl) (by kernel_rfl) (by kernel_rfl) (by kernel_rfl) (fun _ _ _ h => h) (by kernel_rfl) (fun V hV => ?hy10) ?go10
      case hy10 => (obtain ⟨i1, i2⟩ := hV; go_simp <;> rfl)
      simp only [Act.put, List.setIfInBounds_toArray, List.set_cons_zero, List.set_cons_succ]
      refine inv_take (v := ?v11) [14, 15, 16, 17, 18] 11 hI rfl (by kernel_rfl) (by kernel_rfl) (by kernel_rfl) (by kernel_rfl) (by kernel_rfl) (fun _ _ _ h => h) (by kernel_rfl) (fun V hV => ?hy11) ?go11
      case hy11 => (obtain ⟨i1, i2⟩ := hV; go_simp <;> rfl)
      simp only [Act.put, List.setIfInBounds_toArray, List.set_cons_zero, List.set_cons_succ]
      refine inv_take (v := ?v12) [13, 14, 15, 16, 17, 18] 12 hI rfl (by kernel_rfl) (by kernel_rfl) (by kernel_rfl) (by kernel_rfl) (by kernel_rfl) (fun _ _ _ h => h) (by kernel_rfl) (fun V hV => ?hy12) ?go12
      case hy12 => (obtain ⟨i1, i2⟩ := hV; go_simp <;> rfl)
      simp only [Act.put, List.setIfInBounds_toArray, List.set_cons_zero, List.set_cons_succ]
      refine inv_take (v := ?v13) [14, 15, 16, 17, 18] 13 hI rfl (by kernel_rfl) (by kernel_rfl) (by kernel_rfl) (by kernel_rfl) (by kernel_rfl) (fun _ _ _ h => h) (by kernel_rfl) (fun V hV => ?hy13) ?go13
      case hy13 => (obtain ⟨i1, i2⟩ := hV; go_simp <;> rfl)
      simp only [Act.put, List.setIfInBounds_toArray, List.set_cons_zero, List.set_cons_succ]
      refine inv_take (v := ?v14) [15, 16, 17, 18] 14 hI rfl (by kernel_rfl) (by kernel_rfl) (by kernel_rfl) (by kernel_rfl) (by kernel_rfl) (fun _ _ _ h => h) (by kernel_rfl) (fun V hV => ?hy14) ?go14
      case hy14 => (obtain ⟨i1, i2⟩ := hV; go_simp <;> rfl)
      simp only [Act.put, List.setIfInBounds_toArray, List.set_cons_zero, List.set_cons_succ]
      obtain ⟨f0, hfi, hp0, hp1, hp2⟩ := info_parts Try.infoP2
      have HA : Hid (∀ V, SlV V (some ⟨b, o1, none⟩) no co 2 (flat dcells o) → SlV V (some A) (no - (i + 1)) (co - (i + 1)) 2 ((flat dcells o).drop ((i + 1) * 2))) := by
        intro V hV
        exact hV.rear (by omega) hA
      clear hA
      refine inv_list 7 (by kernel_rfl) rfl ?_
      refine wpList_append_slv V0 (fun _ => False) (by kernel_rfl) (.const (.slice none 0 0)) (.tmp 35) 55 rfl 87 f0 _ 2 16 Try.underlying55 hfi hp0 hp1 hp2 rfl (by decide) none 0 0 [] rfl (rw_nil _ _ _) (some ⟨b, o1, none⟩) i co ((flat dcells o).take (i * 2)) rfl (D.ro.slv.front (by omega)) (fun u hu => dcells_one _ u (List.mem_of_mem_take hu)) (by unfold maxLen; omega) (by omega) ?_
      intro a7 c7 w7 hrw7 hk7
      have hb7 : Below V0.heap.size V0 w7 := hk7.below (fun _ h => h.elim) (Nat.le_refl _)
      have hI7 : (fun V : World => V.cell? ⟨g, t0, none⟩ = some (.slice (some ⟨b, o1, none⟩) no co) ∧ V.frozen? ⟨g, t0, none⟩ = false) w7 := ⟨(hb7.cell (p := ⟨g, t0, none⟩) D.lt).trans hI.1, (hb7.frozen (p := ⟨g, t0, none⟩) D.lt).trans hI.2⟩
      refine then_n ⟨hI7, ?_⟩
      simp only [Act.put, List.setIfInBounds_toArray, List.set_cons_zero, List.set_cons_succ]
      refine inv_list 15 (by kernel_rfl) rfl ?_
      refine wpList_append_slv w7 (fun k => False ∨ V0.heap.size ≤ k) (by kernel_rfl) (.tmp 36) (.tmp 43) 55 rfl 87 f0 _ 2 16 Try.underlying55 hfi hp0 hp1 hp2 rfl (by decide) a7 (0 + i) c7 ([] ++ (flat dcells o).take (i * 2)) rfl hrw7 _ (no - (i + 1)) (co - (i + 1)) ((flat dcells o).drop ((i + 1) * 2)) rfl (HA.out _ (D.below hb7).ro.slv) (fun u hu => dcells_one _ u (List.mem_of_mem_drop hu)) (by unfold maxLen; omega) (by omega) ?_
      intro a8 c8 w8 hrw8 hk8
      have em : 0 + i + (no - (i + 1)) = no - 1 := by omega
      rw [em] at hrw8
      rw [em]
      rw [flat_erase2 dcells_len] at hrw8
      have hb8 : Below V0.heap.size V0 w8 := hb7.trans (hk8.below (fun k h => h.elim (fun h => h.elim) id) hb7.size)
      have hI8 : (fun V : World => V.cell? ⟨g, t0, none⟩ = some (.slice (some ⟨b, o1, none⟩) no co) ∧ V.frozen? ⟨g, t0, none⟩ = false) w8 := ⟨(hb8.cell (p := ⟨g, t0, none⟩) D.lt).trans hI.1, (hb8.frozen (p := ⟨g, t0, none⟩) D.lt).trans hI.2⟩
      refine then_n ⟨hI8, ?_⟩
      simp only [Act.put, List.setIfInBounds_toArray, List.set_cons_zero, List.set_cons_succ]
      refine inv_take (v := ?v15) [17, 18] 16 hI8 rfl (by kernel_rfl) (by kernel_rfl) (by kernel_rfl) (by kernel_rfl) (by kernel_rfl) (fun _ _ _ h => h) (by kernel_rfl) (fun V hV => ?hy15) ?go15
      case hy15 => (obtain ⟨i1, i2⟩ := hV; go_simp <;> rfl)
      simp only [Act.put, List.setIfInBounds_toArray, List.set_cons_zero, List.set_cons_succ]
      refine inv_take (v := ?v16) [18] 17 hI8 rfl (by kernel_rfl) (by kernel_rfl) (by kernel_rfl) (by kernel_rfl) (by kernel_rfl) (fun _ _ _ h => h) (by kernel_rfl) (fun V hV => ?hy16) ?go16
      case hy16 => (obtain ⟨i1, i2⟩ := hV; go_simp <;> rfl)
      simp only [Act.put, List.setIfInBounds_toArray, List.set_cons_zero, List.set_cons_succ]
      have row8 : Rw w8 (fun k => V0.heap.size ≤ k) a8 (no - 1) c8 2 (flat dcells (o.eraseIdx i)) := hrw8.imp (fun j _ h => by
        rcases h with (h | h) | h
        · exact h.elim
        · exact h
        · exact Nat.le_trans hb7.size h)
      obtain ⟨i1, i2⟩ := hI8
      have D9 := D.newO hb8 row8 (fun j hj => hj) (ok_erase D.ok i)
      have hgs := D.lt
      clear hI7 hI hrw7 hrw8 hk7 hk8 hb7 HA hwr hi1 hic hjc hfi hp0 hp1 hp2 row8
      refine inv_write 18 (by kernel_rfl) (by kernel_rfl) rfl ?_
      go_wp2
      refine then_n ?_
      refine any_done (by kernel_rfl) ?_
      go_wp2_with fail
      go_ret
      have hz8 := hb8.size
      have hzV := hBV.size
      refine ⟨rfl, (Keep.of_below (F := fun j => j = g) (next hBV hb8)).setCell (p := ⟨g, t0, none⟩) (.inl rfl) _, (Rest.below (next hBV hb8) H.out.lt).trans (Rest.set (.inl rfl) _), a8, c8, ?_⟩
      rw [show (w8.setCell ⟨g, t0, none⟩ (.slice a8 (no - 1) c8)).heap.size = w8.heap.size by simp]
      exact D9.wide (fun j hj => ⟨by omega, hj.2⟩) (fun j hj => hj) (fun j h1 h2 => by have := H.out.old j (.inr h2); omega) ⟨by have := H.out.lt; omega, H.out.no.2⟩ (fun j hj => by rcases hj with hj | hj; (simp; exact hj.2); (have := D9.old j (.inr hj); exact this))
end TR
end Go.Proofs.Ytgeiagndpfdnlaa
end
section
namespace Go.Proofs.Ytgeiagndpfdnlaa
open Go.RowKit
set_option linter.unusedVariables false
set_option maxRecDepth 20000
/-- One more owner, behind the others: in place, or in new memory. -/
theorem DT.snocO {w w5 : World} {g t0 : Nat} {M N : Nat → Prop} {o : List (Int × Int)} {q : List Wr} {ao aq a5 : Option Addr} {no co nq cq k5 : Nat} {line who : Int} (h3 : DT w g t0 M N o q ao no co aq nq cq) (kk5 : Keep M w w5) (r5 : Rw w5 (fun j => M j ∨ w.heap.size ≤ j) a5 (no + 1) k5 2 (flat dcells (o ++ [(line, who)]))) (ho : ownT o line = -1) (hw : 0 ≤ who) :
    DT (w5.setCell ⟨g, t0, none⟩ (.slice a5 (no + 1) k5)) g t0 (fun k => M k ∨ (w.heap.size ≤ k ∧ k < w5.heap.size)) N (o ++ [(line, who)]) q a5 (no + 1) k5 aq nq cq := by
  have h5 := (kk5.cell (b := g) t0 h3.lt h3.no.1).trans h3.c0
  have f5 := (kk5.frozen (b := g) t0 h3.lt h3.no.1).trans h3.f0
  have lt5 := Nat.lt_of_lt_of_le h3.lt kk5.size
  have kg := Keep.one w5 g t0 (.slice a5 (no + 1) k5)
  have c1 := (kk5.cell (b := g) (t0 + 1) h3.lt h3.no.1).trans h3.c1
  have f1 := (kk5.frozen (b := g) (t0 + 1) h3.lt h3.no.1).trans h3.f1
  have hlt := h3.lt
  refine ⟨World.cell?_setCell_same' _ _ _ (by rw [h5]; rfl), ?_, by rw [World.frozen?_setCell]; exact f5, by rw [World.frozen?_setCell]; exact f1, by simpa using lt5, ?_, ?_, ⟨fun e => ?_, h3.no.2⟩, fun k hm hN => ?_, fun k hm => ?_, ok_snoc h3.ok ho hw⟩
  · rw [World.cell?_setCell_other _ _ _ _ (by simp)]; exact c1
  · exact (r5.keep kg (fun k hm e => by subst e; rcases hm with hm | hm; exact h3.no.1 hm; exact absurd h3.lt (by omega))).imp (fun k hk hm => hm.imp (fun x => x) (fun hm => ⟨hm, by simpa using hk⟩))
  · exact (h3.rq.keep kk5 (fun k hN hm => h3.ap k hm hN)).keep kg (fun k hN e => h3.no.2 (by rw [← e]; exact hN))
  · rcases e with e | e
    · exact h3.no.1 e
    · omega
  · rcases hm with hm | hm
    · exact h3.ap k hm hN
    · have := h3.old k (.inr hN); omega
  · rw [show (w5.setCell ⟨g, t0, none⟩ (.slice a5 (no + 1) k5)).heap.size = w5.heap.size by simp]
    rcases hm with (hm | hm) | hN
    · exact Nat.lt_of_lt_of_le (h3.old k (.inl hm)) kk5.size
    · exact hm.2
    · exact Nat.lt_of_lt_of_le (h3.old k (.inr hN)) kk5.size
namespace TR
theorem next_no1 {w : World} {g t0 : Nat} {M N : Nat → Prop} {o : List (Int × Int)} {q : List Wr} {ao aq : Option Addr} {no co nq cq : Nat} (h : DT w g t0 M N o q ao no co aq nq cq) (line : Int) (ho : ownT o line ≠ -1) :
    Calls Try.prog 37 #[.pointer (some ⟨g, t0, none⟩), .int .i64 line] w fun e w' => e = .returned (.tuple #[.int .i64 0, .int .i64 0, .bool false]) ∧ Below w.heap.size w w' := by
  obtain ⟨v, hv⟩ : ∃ v, ownT o line = v := ⟨_, rfl⟩
  have HV : Hid (ownT o line = v) := hv
  have hb : (v != -1) = true := by rw [← hv]; simp [ho]
  clear hv ho
  go_enter Try.func37, Try.ntmps37
  go_wp2_with (go_at_call 20; refine (owner_any h line).mono ?_; rintro e w1 ⟨rfl, b1⟩; rw [HV.out])
  exact bodyPost_ret (v := .tuple #[.int .i64 0, .int .i64 0, .bool false]) (by simp [results, Try.results37, go_sem]) rfl ⟨rfl, b1⟩
set_option maxHeartbeats 400000 in
theorem next_no2 {w : World} {g t0 : Nat} {M N : Nat → Prop} {o : List (Int × Int)} {q : List Wr} {ao aq : Option Addr} {no co nq cq : Nat} (h : DT w g t0 M N o q ao no co aq nq cq) (line : Int) (ho : ownT o line = -1) (hno : ∀ y ∈ q, y.l ≠ line) :
    Calls Try.prog 37 #[.pointer (some ⟨g, t0, none⟩), .int .i64 line] w fun e w' => e = .returned (.tuple #[.int .i64 0, .int .i64 0, .bool false]) ∧ Below w.heap.size w w' := by
  have HNO : Hid (∀ y ∈ q, y.l ≠ line) := hno
  clear hno
  have row := h.rq
  have HL : Hid (q.length = nq) := row.lenF wcells_len (by omega)
  have H : Hid (DT w g t0 M N o q ao no co aq nq cq) := h
  have HO : Hid (ownT o line = -1) := ho
  have hle := row.le
  have hmx := row.max
  unfold maxLen at hmx
  clear ho h
  go_enter Try.func37, Try.ntmps37
  go_upto_region 3 with (go_at_call 20; refine (owner_any H.out line).mono ?_; rintro e w1 ⟨rfl, b1⟩; rw [HO.out])
  have h1 := H.out.below b1
  have c1 := h1.c1
  have lt := h1.lt
  go_wp2_with fail
  clear c1 lt h1
  go_loopw [18] (fun vi wr => ∃ i : Nat, vi = .int .i64 (i : Int) ∧ i ≤ nq ∧ Below w.heap.size w wr) (fun vi _ => nq - (intOf vi).toNat)
  case atStart => exact ⟨0, rfl, by omega, b1⟩
  case round =>
    clear b1
    clear w1
    obtain ⟨i, rfl, hi, hB⟩ := hrel
    by_cases hlt : i < nq
    · skip
      obtain ⟨x, hx⟩ : ∃ x, q[i]? = some x := ⟨q[i]'(by have := HL.out; omega), List.getElem?_eq_getElem (by have := HL.out; omega)⟩
      obtain ⟨b, o1, rfl, _, hb, hc⟩ := (row.below hB).getF wcells_len hx (by omega)
      have HX : Hid (q[i]? = some x) := hx
      obtain ⟨xl, xw, xd⟩ := x
      have x0 : wr.cell? ⟨b, o1 + i * 3, none⟩ = some (.int .i64 xl) := hc 0 _ (by omega) rfl
      have x1 : wr.cell? ⟨b, o1 + i * 3 + 1, none⟩ = some (.int .i64 xw) := hc 1 _ (by omega) rfl
      have x2 : wr.cell? ⟨b, o1 + i * 3 + 2, none⟩ = some (.int .i64 xd) := hc 2 _ (by omega) rfl
      have hB2 := hB.trans ((ba (o := .cells #[.int .i64 xl, .int .i64 xw, .int .i64 xd] 111) (Below.refl wr.heap.size wr)).mono hB.size)
      have y0 : (wr.alloc (.cells #[.int .i64 xl, .int .i64 xw, .int .i64 xd] 111)).cell? ⟨wr.heap.size, 0, none⟩ = some (.int .i64 xl) := by simp
      have y1 : (wr.alloc (.cells #[.int .i64 xl, .int .i64 xw, .int .i64 xd] 111)).cell? ⟨wr.heap.size, 1, none⟩ = some (.int .i64 xw) := by simp
      have y2 : (wr.alloc (.cells #[.int .i64 xl, .int .i64 xw, .int .i64 xd] 111)).cell? ⟨wr.heap.size, 2, none⟩ = some (.int .i64 xd) := by simp
      have gw : w.heap.size ≤ wr.heap.size := hB.size
      have g2 : wr.heap.size < (wr.alloc (.cells #[.int .i64 xl, .int .i64 xw, .int .i64 xd] 111)).heap.size := by simp
      clear hx hc row
      go_upto_region 6 with fail
      clear x0 x1 x2 hb hB
      generalize wr.heap.size = ge at *
      generalize wr.alloc _ = w2 at *
      have hn := HNO.out _ (List.mem_of_getElem? HX.out)
      have hb2 : (xl == line) = false := by simpa using hn
      clear hn
      go_wp2_with fail
      go_roundw
      case rel => exact ⟨i + 1, by go_num, by omega, hB2⟩
      case measure => simp [intOf]; omega
    · go_wp2_with fail
      exact bodyPost_ret (v := .tuple #[.int .i64 0, .int .i64 0, .bool false]) (by simp [results, Try.results37, go_sem]) rfl ⟨rfl, hB⟩
set_option maxHeartbeats 1000000 in
theorem next_ok {w : World} {g t0 : Nat} {M N : Nat → Prop} {o : List (Int × Int)} {q : List Wr} {ao aq : Option Addr} {no co nq cq : Nat} (h : DT w g t0 M N o q ao no co aq nq cq) (line who id : Int) {k : Nat} (ho : ownT o line = -1) (hw : 0 ≤ who) (hk : q[k]? = some ⟨line, who, id⟩) (hno : ∀ j y, j < k → q[j]? = some y → y.l ≠ line) (hn : nq ≤ 1000) (hn2 : no ≤ 1000) :
    Calls Try.prog 37 #[.pointer (some ⟨g, t0, none⟩), .int .i64 line] w fun e w' => e = .returned (.tuple #[.int .i64 who, .int .i64 id, .bool true]) ∧ Keep (fun j => j = g ∨ M j) w w' ∧ Rest g t0 w w' ∧ ∃ M' N' ao' co' aq' cq', (∀ j, M' j → M j ∨ w.heap.size ≤ j) ∧ (∀ j, N' j → w.heap.size ≤ j) ∧ DT w' g t0 M' N' (o ++ [(line, who)]) (q.eraseIdx k) ao' (no + 1) co' aq' (nq - 1) cq' := by
  have HNO : Hid (∀ j y, j < k → q[j]? = some y → y.l ≠ line) := hno
  have HK : Hid (q[k]? = some ⟨line, who, id⟩) := hk
  have HW : Hid (0 ≤ who) := hw
  clear hno hw
  have row := h.rq
  have HL : Hid (q.length = nq) := row.lenF wcells_len (by omega)
  have H : Hid (DT w g t0 M N o q ao no co aq nq cq) := h
  have HO : Hid (ownT o line = -1) := ho
  have hle := row.le
  have hmx := row.max
  unfold maxLen at hmx
  clear ho h
  have hkn : k < nq := by rw [← HL.out]; exact (List.getElem?_eq_some_iff.1 hk).1
  clear hk
  go_enter Try.func37, Try.ntmps37
  go_upto_region 3 with (go_at_call 20; refine (owner_any H.out line).mono ?_; rintro e w1 ⟨rfl, b1⟩; rw [HO.out])
  have h1 := H.out.below b1
  have c1 := h1.c1
  have lt := h1.lt
  go_wp2_with fail
  clear c1 lt h1
  go_loopw [18] (fun vi wr => ∃ i : Nat, vi = .int .i64 (i : Int) ∧ i ≤ k ∧ Below w.heap.size w wr) (fun vi _ => nq - (intOf vi).toNat)
  case atStart => exact ⟨0, rfl, by omega, b1⟩
  case round =>
    clear b1
    clear w1
    obtain ⟨i, rfl, hi, hB⟩ := hrel
    obtain ⟨x, hx⟩ : ∃ x, q[i]? = some x := ⟨q[i]'(by have := HL.out; omega), List.getElem?_eq_getElem (by have := HL.out; omega)⟩
    obtain ⟨b, o1, rfl, _, hb, hc⟩ := (row.below hB).getF wcells_len hx (by omega)
    have HX : Hid (q[i]? = some x) := hx
    obtain ⟨xl, xw, xd⟩ := x
    have x0 : wr.cell? ⟨b, o1 + i * 3, none⟩ = some (.int .i64 xl) := hc 0 _ (by omega) rfl
    have x1 : wr.cell? ⟨b, o1 + i * 3 + 1, none⟩ = some (.int .i64 xw) := hc 1 _ (by omega) rfl
    have x2 : wr.cell? ⟨b, o1 + i * 3 + 2, none⟩ = some (.int .i64 xd) := hc 2 _ (by omega) rfl
    have hB2 := hB.trans ((ba (o := .cells #[.int .i64 xl, .int .i64 xw, .int .i64 xd] 111) (Below.refl wr.heap.size wr)).mono hB.size)
    have y0 : (wr.alloc (.cells #[.int .i64 xl, .int .i64 xw, .int .i64 xd] 111)).cell? ⟨wr.heap.size, 0, none⟩ = some (.int .i64 xl) := by simp
    have y1 : (wr.alloc (.cells #[.int .i64 xl, .int .i64 xw, .int .i64 xd] 111)).cell? ⟨wr.heap.size, 1, none⟩ = some (.int .i64 xw) := by simp
    have y2 : (wr.alloc (.cells #[.int .i64 xl, .int .i64 xw, .int .i64 xd] 111)).cell? ⟨wr.heap.size, 2, none⟩ = some (.int .i64 xd) := by simp
    have gw : w.heap.size ≤ wr.heap.size := hB.size
    have g2 : wr.heap.size < (wr.alloc (.cells #[.int .i64 xl, .int .i64 xw, .int .i64 xd] 111)).heap.size := by simp
    clear hx hc row
    go_upto_region 6 with fail
    clear x0 x1 x2 hb hB
    generalize wr.heap.size = ge at *
    generalize wr.alloc _ = w2 at *
    by_cases hik : i < k
    · have hn := HNO.out i _ hik HX.out
      have hb2 : (xl == line) = false := by simpa using hn
      clear hn
      go_wp2_with fail
      go_roundw
      case rel => exact ⟨i + 1, by go_num, by omega, hB2⟩
      case measure => simp [intOf]; omega
    · obtain rfl : i = k := by omega
      have hxe := HK.out
      rw [HX.out] at hxe
      injection hxe with hxe
      injection hxe with e1 e2 e3
      subst e1 e2 e3
      have hin : i < nq := hkn
      go_upto_region 7 with fail
      refine wp_region_orders 19 rfl (by kernel_rfl) ?_
      have hBd : Below w2.heap.size w2 w2.drew := (Below.refl _ _).drew
      have hBV : Below w.heap.size w w2.drew := next hB2 hBd
      have D := H.out.below hBV
      have z1 : w2.drew.cell? ⟨ge, 1, none⟩ = some (.int .i64 xw) := y1
      have z2 : w2.drew.cell? ⟨ge, 2, none⟩ = some (.int .i64 xd) := y2
      have hgV : ge < w2.drew.heap.size := g2
      clear hB2 hBd y0 y1 y2 g2
      generalize w2.drew = V0 at *
      have hI : (fun V : World => V.cell? ⟨g, t0 + 1, none⟩ = some (.slice (some ⟨b, o1, none⟩) nq cq) ∧ V.frozen? ⟨g, t0 + 1, none⟩ = false) V0 := ⟨D.c1, D.f1⟩
      obtain ⟨A, hA⟩ : ∃ A : Addr, (if cq = i + 1 then some (⟨b, o1, none⟩ : Addr) else some ⟨b, o1 + (i + 1) * 3, none⟩) = some A := by
        by_cases e : cq = i + 1
        · exact ⟨_, if_pos e⟩
        · exact ⟨_, if_neg e⟩
      have hle0 := D.rq.le
      have hmx0 := D.rq.max
      unfold maxLen at hmx0
      have hic : i ≤ cq := by omega
      have hjc : i + 1 ≤ cq := by omega
      have hwr : IntKind.i64.wrap ((i : Int) + 1) = (i : Int) + 1 := (IntWalk.i64_left _).trans (IntWalk.wrap64_in _ (by omega))
      have hi1 : 0 ≤ (i : Int) ∧ (i : Int) ≤ nq ∧ 0 ≤ (i : Int) + 1 ∧ (i : Int) + 1 ≤ nq := by omega
      refine any_inv (fun V : World => V.cell? ⟨g, t0 + 1, none⟩ = some (.slice (some ⟨b, o1, none⟩) nq cq) ∧ V.frozen? ⟨g, t0 + 1, none⟩ = false) [18] hI ?_
      refine inv_take (v := ?v17) [16, 17, 18] 0 hI rfl (by kernel_rfl) (by kernel_rfl) (by kernel_rfl) (by kernel_rfl) (by kernel_rfl) (fun _ _ _ h => h) (by kernel_rfl) (fun V hV => ?hy17) ?go17
      case hy17 => (obtain ⟨i1, i2⟩ := hV; go_simp <;> rfl)
      simp only [Act.put, List.setIfInBounds_toArray, List.set_cons_zero, List.set_cons_succ]
      refine inv_take (v := ?v18) [2, 3, 4, 6, 7, 15, 16, 17, 18] 1 hI rfl (by kernel_rfl) (by kernel_rfl) (by kernel_rfl) (by kernel_rfl) (by kernel_rfl) (fun _ _ _ h => h) (by kernel_rfl) (fun V hV => ?hy18) ?go18
      case hy18 => (obtain ⟨i1, i2⟩ := hV; go_simp <;> rfl)
      simp only [Act.put, List.setIfInBounds_toArray, List.set_cons_zero, List.set_cons_succ]
      refine inv_take (v := ?v19) [3, 4, 6, 7, 15, 16, 17, 18] 2 hI rfl (by kernel_rfl) (by kernel_rfl) (by kernel_rfl) (by kernel_rfl) (by kernel_rfl) (fun _ _ _ h => h) (by kernel_rfl) (fun V hV => ?hy19) ?go19
      case hy19 => (obtain ⟨i1, i2⟩ := hV; go_simp <;> rfl)
      simp only [Act.put, List.setIfInBounds_toArray, List.set_cons_zero, List.set_cons_succ]
      refine inv_take (v := ?v20) [4, 6, 7, 15, 16, 17, 18] 3 hI rfl (by kernel_rfl) (by kernel_rfl) (by kernel_rfl) (by kernel_rfl) (by kernel_rfl) (fun _ _ _ h => h) (by kernel_rfl) (fun V hV => ?hy20) ?go20
      case hy20 => (obtain ⟨i1, i2⟩ := hV; go_simp <;> rfl)
      simp only [Act.put, List.setIfInBounds_toArray, List.set_cons_zero, List.set_cons_succ]
      refine inv_take (v := ?v21) [6, 7, 15, 16, 17, 18] 4 hI rfl (by kernel_rfl) (by kernel_rfl) (by kernel_rfl) (by kernel_rfl) (by kernel_rfl) (fun _ _ _ h => h) (by kernel_rfl) (fun V hV => ?hy21) ?go21
      case hy21 => (obtain ⟨i1, i2⟩ := hV; go_simp <;> rfl)
      simp only [Act.put, List.setIfInBounds_toArray, List.set_cons_zero, List.set_cons_succ]
      refine inv_take (v := ?v22) [6, 7, 15, 16, 17, 18] 5 hI rfl (by kernel_rfl) (by kernel_rfl) (by kernel_rfl) (by kernel_rfl) (by kernel_rfl) (fun _ _ _ h => h) (by kernel_rfl) (fun V hV => ?hy22) ?go22
      case hy22 => (obtain ⟨i1, i2⟩ := hV; go_simp <;> rfl)
      simp only [Act.put, List.setIfInBounds_toArray, List.set_cons_zero, List.set_cons_succ]
      refine inv_take (v := ?v23) [7, 15, 16, 17, 18] 6 hI rfl (by kernel_rfl) (by kernel_rfl) (by kernel_rfl) (by kernel_rfl) (by kernel_rfl) (fun _ _ _ h => h) (by kernel_rfl) (fun V hV => ?hy23) ?go23
      case hy23 => (obtain ⟨i1, i2⟩ := hV; go_simp <;> rfl)
      simp only [Act.put, List.setIfInBounds_toArray, List.set_cons_zero, List.set_cons_succ]
      refine inv_take (v := ?v24) [9, 10, 11, 14, 15, 16, 17, 18] 8 hI rfl (by kernel_rfl) (by kernel_rfl) (by kernel_rfl) (by kernel_rfl) (by kernel_rfl) (fun _ _ _ h => h) (by kernel_rfl) (fun V hV => ?hy24) ?go24
      case hy24 => (obtain ⟨i1, i2⟩ := hV; go_simp <;> rfl)
      simp only [Act.put, List.setIfInBounds_toArray, List.set_cons_zero, List.set_cons_succ]
      refine inv_take (v := ?v25) [10, 11, 14, 15, 16, 17, 18] 9 hI rfl (by kernel_rfl) (by kernel_rfl) (by kernel_rfl) (by kernel_rfl) (by kernel_rfl) (fun _ _ _ h => h) (by kernel_rfl) (fun V hV => ?hy25) ?go25
      case hy25 => (obtain ⟨i1, i2⟩ := hV; go_simp <;> rfl)
      simp only [Act.put, List.setIfInBounds_toArray, List.set_cons_zero, List.set_cons_succ]
      refine inv_take (v := ?v26) [11, 14, 15, 16, 17, 18] 10 hI rfl (by kernel_rfl) (by kernel_rfl) (by kernel_rfl) (by kernel_rfl) (by kernel_rfl) (fun _ _ _ h => h) (by kernel_rfl) (fun V hV => ?hy26) ?go26
      case hy26 => (obtain ⟨i1, i2⟩ := hV; go_simp <;> rfl)
      simp only [Act.put, List.setIfInBounds_toArray, List.set_cons_zero, List.set_cons_succ]
      refine inv_take (v := ?v27) [14, 15, 16, 17, 18] 11 hI rfl (by kernel_rfl) (by kernel_rfl) (by kernel_rfl) (by kernel_rfl) (by kernel_rfl) (fun _ _ _ h => h) (by kernel_rfl) (fun V hV => ?hy27) ?go27
      case hy27 => (obtain ⟨i1, i2⟩ := hV; go_simp <;> rfl)
      simp only [Act.put, List.setIfInBounds_toArray, List.set_cons_zero, List.set_cons_succ]
      refine inv_take (v := ?v28) [13, 14, 15, 16, 17, 18] 12 hI rfl (by kernel_rfl) (by kernel_rfl) (by kernel_rfl) (by kernel_rfl) (by kernel_rfl) (fun _ _ _ h => h) (by kernel_rfl) (fun V hV => ?hy28) ?go28
      case hy28 => (obtain ⟨i1, i2⟩ := hV; go_simp <;> rfl)
      simp only [Act.put, List.setIfInBounds_toArray, List.set_cons_zero, List.set_cons_succ]
      refine inv_take (v := ?v29) [14, 15, 16, 17, 18] 13 hI rfl (by kernel_rfl) (by kernel_rfl) (by kernel_rfl) (by kernel_rfl) (by kernel_rfl) (fun _ _ _ h => h) (by kernel_rfl) (fun V hV => ?hy29) ?go29
      case hy29 => (obtain ⟨i1, i2⟩ := hV; go_simp <;> rfl)
      simp only [Act.put, List.setIfInBounds_toArray, List.set_cons_zero, List.set_cons_succ]
      refine inv_take (v := ?v30) [15, 16, 17, 18] 14 hI rfl (by kernel_rfl) (by kernel_rfl) (by kernel_rfl) (by kernel_rfl) (by kernel_rfl) (fun _ _ _ h => h) (by kernel_rfl) (fun V hV => ?hy30) ?go30
      case hy30 => (obtain ⟨i1, i2⟩ := hV; go_simp <;> rfl)
      simp only [Act.put, List.setIfInBounds_toArray, List.set_cons_zero, List.set_cons_succ]
      obtain ⟨f0, hfi, hp0, hp1, hp2⟩ := info_parts Try.infoW3
      have HA : Hid (∀ V, SlV V (some ⟨b, o1, none⟩) nq cq 3 (flat wcells q) → SlV V (some A) (nq - (i + 1)) (cq - (i + 1)) 3 ((flat wcells q).drop ((i + 1) * 3))) := by
        intro V hV
        exact hV.rear (by omega) hA
      clear hA
      refine inv_list 7 (by kernel_rfl) rfl ?_
      refine wpList_append_slv V0 (fun _ => False) (by kernel_rfl) (.const (.slice none 0 0)) (.tmp 33) 56 rfl 111 f0 _ 3 24 Try.underlying56 hfi hp0 hp1 hp2 rfl (by decide) none 0 0 [] rfl (rw_nil _ _ _) (some ⟨b, o1, none⟩) i cq ((flat wcells q).take (i * 3)) rfl (D.rq.slv.front (by omega)) (fun u hu => wcells_one _ u (List.mem_of_mem_take hu)) (by unfold maxLen; omega) (by omega) ?_
      intro a7 c7 w7 hrw7 hk7
      have hb7 : Below V0.heap.size V0 w7 := hk7.below (fun _ h => h.elim) (Nat.le_refl _)
      have hI7 : (fun V : World => V.cell? ⟨g, t0 + 1, none⟩ = some (.slice (some ⟨b, o1, none⟩) nq cq) ∧ V.frozen? ⟨g, t0 + 1, none⟩ = false) w7 := ⟨(hb7.cell (p := ⟨g, t0 + 1, none⟩) D.lt).trans hI.1, (hb7.frozen (p := ⟨g, t0 + 1, none⟩) D.lt).trans hI.2⟩
      refine then_n ⟨hI7, ?_⟩
      simp only [Act.put, List.setIfInBounds_toArray, List.set_cons_zero, List.set_cons_succ]
      refine inv_list 15 (by kernel_rfl) rfl ?_
      refine wpList_append_slv w7 (fun k => False ∨ V0.heap.size ≤ k) (by kernel_rfl) (.tmp 34) (.tmp 41) 56 rfl 111 f0 _ 3 24 Try.underlying56 hfi hp0 hp1 hp2 rfl (by decide) a7 (0 + i) c7 ([] ++ (flat wcells q).take (i * 3)) rfl hrw7 _ (nq - (i + 1)) (cq - (i + 1)) ((flat wcells q).drop ((i + 1) * 3)) rfl (HA.out _ (D.below hb7).rq.slv) (fun u hu => wcells_one _ u (List.mem_of_mem_drop hu)) (by unfold maxLen; omega) (by omega) ?_
      intro a8 c8 w8 hrw8 hk8
      have em : 0 + i + (nq - (i + 1)) = nq - 1 := by omega
      rw [em] at hrw8
      rw [em]
      rw [flat_erase2 wcells_len] at hrw8
      have hb8 : Below V0.heap.size V0 w8 := hb7.trans (hk8.below (fun k h => h.elim (fun h => h.elim) id) hb7.size)
      have hI8 : (fun V : World => V.cell? ⟨g, t0 + 1, none⟩ = some (.slice (some ⟨b, o1, none⟩) nq cq) ∧ V.frozen? ⟨g, t0 + 1, none⟩ = false) w8 := ⟨(hb8.cell (p := ⟨g, t0 + 1, none⟩) D.lt).trans hI.1, (hb8.frozen (p := ⟨g, t0 + 1, none⟩) D.lt).trans hI.2⟩
      refine then_n ⟨hI8, ?_⟩
      simp only [Act.put, List.setIfInBounds_toArray, List.set_cons_zero, List.set_cons_succ]
      refine inv_take (v := ?v31) [17, 18] 16 hI8 rfl (by kernel_rfl) (by kernel_rfl) (by kernel_rfl) (by kernel_rfl) (by kernel_rfl) (fun _ _ _ h => h) (by kernel_rfl) (fun V hV => ?hy31) ?go31
      case hy31 => (obtain ⟨i1, i2⟩ := hV; go_simp <;> rfl)
      simp only [Act.put, List.setIfInBounds_toArray, List.set_cons_zero, List.set_cons_succ]
      refine inv_take (v := ?v32) [18] 17 hI8 rfl (by kernel_rfl) (by kernel_rfl) (by kernel_rfl) (by kernel_rfl) (by kernel_rfl) (fun _ _ _ h => h) (by kernel_rfl) (fun V hV => ?hy32) ?go32
      case hy32 => (obtain ⟨i1, i2⟩ := hV; go_simp <;> rfl)
      simp only [Act.put, List.setIfInBounds_toArray, List.set_cons_zero, List.set_cons_succ]
      have row8 : Rw w8 (fun k => V0.heap.size ≤ k) a8 (nq - 1) c8 3 (flat wcells (q.eraseIdx i)) := hrw8.imp (fun j _ h => by
        rcases h with (h | h) | h
        · exact h.elim
        · exact h
        · exact Nat.le_trans hb7.size h)
      obtain ⟨i1, i2⟩ := hI8
      have D9 := D.newQ hb8 row8 (fun j hj => hj)
      have hgs := D.lt
      clear hI7 hI hrw7 hrw8 hk7 hk8 hb7 HA hwr hi1 hic hjc hfi hp0 hp1 hp2 row8
      refine inv_write 18 (by kernel_rfl) (by kernel_rfl) rfl ?_
      go_wp2
      refine then_n ?_
      refine any_done (by kernel_rfl) ?_
      have hge : ge ≠ g := fun e => by have := H.out.lt; omega
      have u1 : (w8.setCell ⟨g, t0 + 1, none⟩ (.slice a8 (nq - 1) c8)).cell? ⟨ge, 1, none⟩ = some (.int .i64 xw) := by rw [World.cell?_setCell_other _ _ _ _ (by simp)]; exact (hb8.cell (p := ⟨ge, 1, none⟩) hgV).trans z1
      have u2 : (w8.setCell ⟨g, t0 + 1, none⟩ (.slice a8 (nq - 1) c8)).cell? ⟨ge, 2, none⟩ = some (.int .i64 xd) := by rw [World.cell?_setCell_other _ _ _ _ (by simp)]; exact (hb8.cell (p := ⟨ge, 2, none⟩) hgV).trans z2
      have hg9 : ge < (w8.setCell ⟨g, t0 + 1, none⟩ (.slice a8 (nq - 1) c8)).heap.size := by simp; exact Nat.lt_of_lt_of_le hgV hb8.size
      have K9 : Keep (fun j => j = g) w (w8.setCell ⟨g, t0 + 1, none⟩ (.slice a8 (nq - 1) c8)) := (Keep.of_below (F := fun j => j = g) (next hBV hb8)).setCell (p := ⟨g, t0 + 1, none⟩) (.inl rfl) _
      have hzV : Hid (w.heap.size ≤ V0.heap.size) := hBV.size
      have R9 : Rest g t0 w (w8.setCell ⟨g, t0 + 1, none⟩ (.slice a8 (nq - 1) c8)) := (Rest.below (next hBV hb8) H.out.lt).trans (Rest.set (.inr rfl) _)
      have HR9 : Hid (Rest g t0 w (w8.setCell ⟨g, t0 + 1, none⟩ (.slice a8 (nq - 1) c8))) := R9
      clear R9
      clear i1 i2 hgs D hb8 z1 z2 hgV hBV
      go_upto_region 8 with fail
      generalize w8.setCell ⟨g, t0 + 1, none⟩ (.slice a8 (nq - 1) c8) = w9 at *
      refine wp_region_orders 14 rfl (by kernel_rfl) ?_
      have hBd : Below w9.heap.size w9 w9.drew := (Below.refl _ _).drew
      have D := D9.below hBd
      have K := K9.next hBd
      have HRV : Hid (Rest g t0 w w9.drew) := HR9.out.trans (Rest.below hBd D9.lt)
      have z1 : w9.drew.cell? ⟨ge, 1, none⟩ = some (.int .i64 xw) := u1
      have z2 : w9.drew.cell? ⟨ge, 2, none⟩ = some (.int .i64 xd) := u2
      have hgV : ge < w9.drew.heap.size := hg9
      clear u1 u2 hg9 D9 K9 hBd
      generalize w9.drew = V9 at *
      have hI : (fun V : World => V.cell? ⟨g, t0, none⟩ = some (.slice ao no co) ∧ V.frozen? ⟨g, t0, none⟩ = false ∧ V.cell? ⟨ge, 1, none⟩ = some (.int .i64 xw)) V9 := ⟨D.c0, D.f0, z1⟩
      refine any_inv (fun V : World => V.cell? ⟨g, t0, none⟩ = some (.slice ao no co) ∧ V.frozen? ⟨g, t0, none⟩ = false ∧ V.cell? ⟨ge, 1, none⟩ = some (.int .i64 xw)) [13] hI ?_
      refine inv_take (v := ?v33) [11, 12, 13] 0 hI rfl (by kernel_rfl) (by kernel_rfl) (by kernel_rfl) (by kernel_rfl) (by kernel_rfl) (fun _ _ _ h => h) (by kernel_rfl) (fun V hV => ?hy33) ?go33
      case hy33 => (obtain ⟨i1, i2, i3⟩ := hV; go_simp <;> rfl)
      simp only [Act.put, List.setIfInBounds_toArray, List.set_cons_zero, List.set_cons_succ]
      refine inv_take (v := ?v34) [2, 3, 4, 10, 11, 12, 13] 1 hI rfl (by kernel_rfl) (by kernel_rfl) (by kernel_rfl) (by kernel_rfl) (by kernel_rfl) (fun _ _ _ h => h) (by kernel_rfl) (fun V hV => ?hy34) ?go34
      case hy34 => (obtain ⟨i1, i2, i3⟩ := hV; go_simp <;> rfl)
      simp only [Act.put, List.setIfInBounds_toArray, List.set_cons_zero, List.set_cons_succ]
      refine inv_take (v := ?v35) [3, 4, 10, 11, 12, 13] 2 hI rfl (by kernel_rfl) (by kernel_rfl) (by kernel_rfl) (by kernel_rfl) (by kernel_rfl) (fun _ _ _ h => h) (by kernel_rfl) (fun V hV => ?hy35) ?go35
      case hy35 => (obtain ⟨i1, i2, i3⟩ := hV; go_simp <;> rfl)
      simp only [Act.put, List.setIfInBounds_toArray, List.set_cons_zero, List.set_cons_succ]
      refine inv_take (v := ?v36) [4, 10, 11, 12, 13] 3 hI rfl (by kernel_rfl) (by kernel_rfl) (by kernel_rfl) (by kernel_rfl) (by kernel_rfl) (fun _ _ _ h => h) (by kernel_rfl) (fun V hV => ?hy36) ?go36
      case hy36 => (obtain ⟨i1, i2, i3⟩ := hV; go_simp <;> rfl)
      simp only [Act.put, List.setIfInBounds_toArray, List.set_cons_zero, List.set_cons_succ]
      refine inv_take (v := ?v37) [10, 11, 12, 13] 4 hI rfl (by kernel_rfl) (by kernel_rfl) (by kernel_rfl) (by kernel_rfl) (by kernel_rfl) (fun _ _ _ h => h) (by kernel_rfl) (fun V hV => ?hy37) ?go37
      case hy37 => (obtain ⟨i1, i2, i3⟩ := hV; go_simp <;> rfl)
      simp only [Act.put, List.setIfInBounds_toArray, List.set_cons_zero, List.set_cons_succ]
      refine inv_take (v := ?v38) [8, 9, 10, 11, 12, 13] 5 hI rfl (by kernel_rfl) (by kernel_rfl) (by kernel_rfl) (by kernel_rfl) (by kernel_rfl) (fun _ _ _ h => h) (by kernel_rfl) (fun V hV => ?hy38) ?go38
      case hy38 => (obtain ⟨i1, i2, i3⟩ := hV; go_simp <;> rfl)
      simp only [Act.put, List.setIfInBounds_toArray, List.set_cons_zero, List.set_cons_succ]
      refine inv_take (v := ?v39) [7, 8, 9, 10, 11, 12, 13] 6 hI rfl (by kernel_rfl) (by kernel_rfl) (by kernel_rfl) (by kernel_rfl) (by kernel_rfl) (fun _ _ _ h => h) (by kernel_rfl) (fun V hV => ?hy39) ?go39
      case hy39 => (obtain ⟨i1, i2, i3⟩ := hV; go_simp <;> rfl)
      simp only [Act.put, List.setIfInBounds_toArray, List.set_cons_zero, List.set_cons_succ]
      refine inv_take (v := ?v40) [8, 9, 10, 11, 12, 13] 7 hI rfl (by kernel_rfl) (by kernel_rfl) (by kernel_rfl) (by kernel_rfl) (by kernel_rfl) (fun _ _ _ h => h) (by kernel_rfl) (fun V hV => ?hy40) ?go40
      case hy40 => (obtain ⟨i1, i2, i3⟩ := hV; go_simp <;> rfl)
      simp only [Act.put, List.setIfInBounds_toArray, List.set_cons_zero, List.set_cons_succ]
      refine inv_take (v := ?v41) [9, 10, 11, 12, 13] 8 hI rfl (by kernel_rfl) (by kernel_rfl) (by kernel_rfl) (by kernel_rfl) (by kernel_rfl) (fun _ _ _ h => h) (by kernel_rfl) (fun V hV => ?hy41) ?go41
      case hy41 => (obtain ⟨i1, i2, i3⟩ := hV; go_simp <;> rfl)
      simp only [Act.put, List.setIfInBounds_toArray, List.set_cons_zero, List.set_cons_succ]
      refine inv_list 9 (by kernel_rfl) rfl ?_
      clear hI
      go_wp2_with fail
      have b4 : Below V9.heap.size V9 (V9.alloc (.cells #[.int .i64 xl, .int .i64 xw] 87)) := ba (Below.refl _ _)
      have D4 := D.below b4
      have hI : (fun V : World => V.cell? ⟨g, t0, none⟩ = some (.slice ao no co) ∧ V.frozen? ⟨g, t0, none⟩ = false ∧ V.cell? ⟨ge, 1, none⟩ = some (.int .i64 xw)) (V9.alloc (.cells #[.int .i64 xl, .int .i64 xw] 87)) := ⟨D4.c0, D4.f0, (b4.cell (p := ⟨ge, 1, none⟩) hgV).trans z1⟩
      refine then_n ⟨hI, ?_⟩
      refine inv_list 10 (by kernel_rfl) rfl ?_
      have hsv : SlV (V9.alloc (.cells #[.int .i64 xl, .int .i64 xw] 87)) (some ⟨V9.heap.size, 0, none⟩) 1 1 2 (dcells (xl, xw)) := by
        refine ⟨rfl, Nat.le_refl _, by unfold maxLen; omega, fun h => (by cases h), .inr ⟨_, _, rfl, fun j u hu => ?_⟩⟩
        have h4 := (List.getElem?_eq_some_iff.1 hu).1
        simp [dcells] at h4
        rcases (by omega : j = 0 ∨ j = 1) with rfl | rfl <;> simp [dcells] at hu <;> subst hu <;> simp
      obtain ⟨e0, hei, he0, he1, he2⟩ := info_parts Try.infoP2
      refine wpList_append_slv (V9.alloc (.cells #[.int .i64 xl, .int .i64 xw] 87)) M (by kernel_rfl) (.tmp 49) (.tmp 54) 55 rfl 87 e0 _ 2 16 Try.underlying55 hei he0 he1 he2 rfl (by decide) ao no co (flat dcells o) rfl D4.ro (some ⟨V9.heap.size, 0, none⟩) 1 1 (dcells (xl, xw)) rfl hsv (fun u hu => by simp [dcells] at hu; rcases hu with rfl | rfl <;> rfl) (by unfold maxLen; omega) (by omega) ?_
      intro a5 k5 w5 r5 kk5
      have el : flat dcells o ++ dcells (xl, xw) = flat dcells (o ++ [(xl, xw)]) := by rw [flat_append, flat_one]
      rw [el] at r5
      have hgM : ¬ M ge := fun hm => by have := H.out.old ge (.inl hm); omega
      have hg4 : ge < (V9.alloc (.cells #[.int .i64 xl, .int .i64 xw] 87)).heap.size := Nat.lt_of_lt_of_le hgV b4.size
      have t1 := (kk5.cell 1 hg4 hgM).trans ((b4.cell (p := ⟨ge, 1, none⟩) hgV).trans z1)
      have t2 := (kk5.cell 2 hg4 hgM).trans ((b4.cell (p := ⟨ge, 2, none⟩) hgV).trans z2)
      have s0 := (kk5.cell (b := g) t0 D4.lt D4.no.1).trans D4.c0
      have s1 := (kk5.frozen (b := g) t0 D4.lt D4.no.1).trans D4.f0
      have hI5 : (fun V : World => V.cell? ⟨g, t0, none⟩ = some (.slice ao no co) ∧ V.frozen? ⟨g, t0, none⟩ = false ∧ V.cell? ⟨ge, 1, none⟩ = some (.int .i64 xw)) w5 := ⟨s0, s1, t1⟩
      refine then_n ⟨hI5, ?_⟩
      simp only [Act.put, List.setIfInBounds_toArray, List.set_cons_zero, List.set_cons_succ]
      refine inv_take (v := ?v42) [12, 13] 11 hI5 rfl (by kernel_rfl) (by kernel_rfl) (by kernel_rfl) (by kernel_rfl) (by kernel_rfl) (fun _ _ _ h => h) (by kernel_rfl) (fun V hV => ?hy42) ?go42
      case hy42 => (obtain ⟨i1, i2, i3⟩ := hV; go_simp <;> rfl)
      simp only [Act.put, List.setIfInBounds_toArray, List.set_cons_zero, List.set_cons_succ]
      refine inv_take (v := ?v43) [13] 12 hI5 rfl (by kernel_rfl) (by kernel_rfl) (by kernel_rfl) (by kernel_rfl) (by kernel_rfl) (fun _ _ _ h => h) (by kernel_rfl) (fun V hV => ?hy43) ?go43
      case hy43 => (obtain ⟨i1, i2, i3⟩ := hV; go_simp <;> rfl)
      simp only [Act.put, List.setIfInBounds_toArray, List.set_cons_zero, List.set_cons_succ]
      have D5 := D4.snocO kk5 r5 HO.out HW.out
      have K5 : Keep (fun j => j = g ∨ M j) w w5 := ((K.mono (G := fun j => j = g ∨ M j) (fun j _ hj => .inl hj)).next b4).trans (kk5.mono (G := fun j => j = g ∨ M j) (fun j _ hj => .inr hj)) (fun j _ hj => hj)
      have R5 : Hid (Rest g t0 w (w5.setCell ⟨g, t0, none⟩ (.slice a5 (no + 1) k5))) := HRV.out.trans ((Rest.below b4 D.lt).trans ((Rest.keep kk5 D4.lt D4.no.1).trans (Rest.set (.inl rfl) _)))
      have hgw5 : ge < w5.heap.size := Nat.lt_of_lt_of_le hg4 kk5.size
      have h9V : Hid (w.heap.size ≤ (V9.alloc (.cells #[.int .i64 xl, .int .i64 xw] 87)).heap.size) := Nat.le_trans K.size b4.size
      obtain ⟨i1, i2, i3⟩ := hI5
      have hgs := D4.lt
      clear hI hsv r5 kk5 b4 D4 D z1 z2 s0 s1 K
      refine inv_write 13 (by kernel_rfl) (by kernel_rfl) rfl ?_
      go_wp2
      refine then_n ?_
      refine any_done (by kernel_rfl) ?_
      go_upto_region 9 with fail
      have v1 : (w5.setCell ⟨g, t0, none⟩ (.slice a5 (no + 1) k5)).cell? ⟨ge, 1, none⟩ = some (.int .i64 xw) := by rw [World.cell?_setCell_other _ _ _ _ (by simp)]; exact t1
      have v2 : (w5.setCell ⟨g, t0, none⟩ (.slice a5 (no + 1) k5)).cell? ⟨ge, 2, none⟩ = some (.int .i64 xd) := by rw [World.cell?_setCell_other _ _ _ _ (by simp)]; exact t2
      have hg6 : ge < (w5.setCell ⟨g, t0, none⟩ (.slice a5 (no + 1) k5)).heap.size := by simpa using hgw5
      have K6 := K5.setCell (p := ⟨g, t0, none⟩) (.inl (.inl rfl)) (.slice a5 (no + 1) k5)
      clear t1 t2 i1 i2 i3 hgw5 K5
      generalize w5.setCell ⟨g, t0, none⟩ (.slice a5 (no + 1) k5) = w6 at *
      go_quiet (fail)
      go_wp2_with fail
      refine bodyPost_ret (v := .tuple #[.int .i64 xw, .int .i64 xd, .bool true]) (by simp [results, Try.results37, go_sem]) rfl ⟨rfl, K6.next (below_dn _ _), R5.out.trans (Rest.below (below_dn _ _) D5.lt), _, _, a5, k5, a8, c8, ?_, ?_, D5.below (below_dn _ _)⟩
      · intro j hj
        rcases hj with hj | hj
        · exact .inl hj
        · exact .inr (by have := h9V.out; omega)
      · intro j hj
        have := hzV.out
        omega
end TR
end Go.Proofs.Ytgeiagndpfdnlaa
end
section
namespace Go.Proofs.Ytgeiagndpfdnlaa
open Go.RowKit
set_option linter.unusedVariables false
set_option maxRecDepth 20000
theorem put_at {l : List Int} {x : Int} {k : Nat} (hl : RiseK id l) (h1 : ∀ (j : Nat) (y : Int), j < k → l[j]? = some y → y < x) (h2 : ∀ y : Int, l[k]? = some y → x < y) : putK id x l = l.take k ++ x :: l.drop k := by
  have hlt : ∀ y ∈ l.take k, y < x := fun y hy => by
    obtain ⟨j, hj⟩ := List.mem_iff_getElem?.1 hy
    rw [List.getElem?_take] at hj
    split at hj
    · exact h1 j y (by assumption) hj
    · cases hj
  have hgt : ∀ y ∈ l.drop k, x < y := fun y hy => by
    obtain ⟨j, hj⟩ := List.mem_iff_getElem?.1 hy
    rw [List.getElem?_drop] at hj
    obtain ⟨hj', rfl⟩ := List.getElem?_eq_some_iff.1 hj
    have hk : k < l.length := by omega
    have h3 := h2 l[k] (List.getElem?_eq_getElem hk)
    by_cases e : j = 0
    · subst e; exact h3
    · have := List.pairwise_iff_getElem.1 hl k (k + j) hk hj' (by omega)
      simp only [_root_.id] at this
      omega
  refine rise_ext (rise_put hl) ?_ (fun y => ?_)
  · unfold RiseK
    refine List.pairwise_append.2 ⟨List.Pairwise.sublist (List.take_sublist _ _) hl, List.pairwise_cons.2 ⟨fun y hy => hgt y hy, List.Pairwise.sublist (List.drop_sublist _ _) hl⟩, fun a ha b hb => ?_⟩
    simp only [_root_.id]
    have h3 := hlt a ha
    rcases List.mem_cons.1 hb with rfl | hb
    · exact h3
    · have := hgt b hb; omega
  · rw [mem_putK, List.mem_append, List.mem_cons]
    have hm : y ∈ l ↔ y ∈ l.take k ∨ y ∈ l.drop k := by rw [← List.mem_append, List.take_append_drop]
    simp only [_root_.id]
    constructor
    · rintro (h | ⟨h, _⟩)
      · exact .inr (.inl h)
      · exact (hm.1 h).imp (fun h => h) .inr
    · rintro (h | h | h)
      · exact .inr ⟨hm.2 (.inl h), by have := hlt y h; omega⟩
      · exact .inl h
      · exact .inr ⟨hm.2 (.inr h), by have := hgt y h; omega⟩
theorem Rw.cut {w : World} {S : Nat → Prop} {b o n cap : Nat} {z : List Int} (h : Rw w S (some ⟨b, o, none⟩) n cap 1 (cells z)) {k : Nat} (hk : k ≤ n) : Rw w S (some ⟨b, o, none⟩) k k 1 (cells (z.take k)) := by
  have hl := h.len
  have hle := h.le
  have hm := h.max
  refine ⟨by simp [cells] at hl ⊢; omega, Nat.le_refl _, by omega, fun e => (by cases e), ?_⟩
  rcases h.row with h0 | ⟨b', o', e, hs, hb, hc, hf⟩
  · exact .inl (by omega)
  · refine .inr ⟨b', o', e, hs, hb, fun i u hu => hc i u ?_, fun i hi => hf i (by omega)⟩
    unfold cells at hu ⊢
    rw [List.map_take, List.getElem?_take] at hu
    split at hu
    · exact hu
    · cases hu
theorem sl_rear {w : World} {S : Nat → Prop} {b o n cap : Nat} {z : List Int} (h : Rw w S (some ⟨b, o, none⟩) n cap 1 (cells z)) {k : Nat} (hk : k ≤ n) {A : Addr} (hA : (if cap = k then some (⟨b, o, none⟩ : Addr) else some ⟨b, o + k, none⟩) = some A) : SlV w (some A) (n - k) (cap - k) 1 (cells (z.drop k)) := by
  have := h.slv.rear (k := k) hk (A := A) (by rw [Nat.mul_one]; exact hA)
  rw [Nat.mul_one] at this
  rw [show cells (z.drop k) = (cells z).drop k by simp [cells]]
  exact this
theorem rw_one (W : World) (x : Int) (t : TypeId) : Rw (W.alloc (.cells #[.int .i64 x] t)) (fun j => W.heap.size ≤ j) (some ⟨W.heap.size, 0, none⟩) 1 1 1 (cells [x]) := by
  refine ⟨rfl, Nat.le_refl _, by unfold maxLen; omega, fun e => (by cases e), .inr ⟨_, _, rfl, Nat.le_refl _, by simp, fun i u hu => ?_, fun i hi => ?_⟩⟩
  · obtain ⟨hj, rfl⟩ := cells_get hu
    simp at hj
    subst hj
    simp
  · obtain rfl : i = 0 := by omega
    simp
namespace TR
set_option maxHeartbeats 1000000 in
theorem ready_new {w : World} {g t0 : Nat} {M N : Nat → Prop} {o : List (Int × Int)} {q : List Wr} {ao aq : Option Addr} {no co nq cq : Nat} (h : DT w g t0 M N o q ao no co aq nq cq) (hn : nq ≤ 1000) :
    Calls Try.prog 36 #[.pointer (some ⟨g, t0, none⟩)] w fun e w' => ∃ a n cap, e = .returned (.slice a n cap) ∧ Rw w' (fun j => w.heap.size ≤ j) a n cap 1 (cells (readyT o q)) ∧ Below w.heap.size w w' := by
  have c1 := h.c1
  have lt := h.lt
  have row := h.rq
  have HL : Hid (q.length = nq) := row.lenF wcells_len (by omega)
  have H : Hid (DT w g t0 M N o q ao no co aq nq cq) := h
  have hle := row.le
  have hmx := row.max
  unfold maxLen at hmx
  clear h
  go_enter Try.func36, Try.ntmps36
  go_wp2_with fail
  clear c1 lt
  go_loopw [3, 12] (fun vo vi wr => ∃ (i n : Nat) (a : Option Addr) (cap : Nat) (l : List Int), vo = .slice a n cap ∧ vi = .int .i64 (i : Int) ∧ i ≤ nq ∧ n ≤ i ∧ Below w.heap.size w wr ∧ Rw wr (fun j => w.heap.size ≤ j) a n cap 1 (cells l) ∧ Hid ((q.take i).foldl (rdyF o) [] = l) ∧ ((a = none ∧ n = 0 ∧ cap = 0) ∨ ∃ b o1, a = some ⟨b, o1, none⟩ ∧ 0 < n)) (fun _ vi _ => nq - (intOf vi).toNat)
  case atStart => exact ⟨0, 0, none, 0, [], rfl, rfl, by omega, by omega, Below.refl _ _, rw_nil _ _ _, by show _ = _; rfl, .inl ⟨rfl, rfl, rfl⟩⟩
  case round =>
    obtain ⟨i, n, a, cap, l, rfl, rfl, hi, hni, hB, rwl, HF, hsh⟩ := hrel
    by_cases hlt : i < nq
    · skip
      obtain ⟨x, hx⟩ : ∃ x, q[i]? = some x := ⟨q[i]'(by have := HL.out; omega), List.getElem?_eq_getElem (by have := HL.out; omega)⟩
      obtain ⟨b0, o0, rfl, _, hb, hc⟩ := (row.below hB).getF wcells_len hx (by omega)
      have HTK : Hid ((q.take (i + 1)).foldl (rdyF o) [] = rdyF o l x) := by
        show _ = _
        rw [List.take_add_one, hx, List.foldl_append, HF.out]
        rfl
      obtain ⟨x, xw, xd⟩ := x
      have x0 : wr.cell? ⟨b0, o0 + i * 3, none⟩ = some (.int .i64 x) := hc 0 _ (by omega) rfl
      have x1 : wr.cell? ⟨b0, o0 + i * 3 + 1, none⟩ = some (.int .i64 xw) := hc 1 _ (by omega) rfl
      have x2 : wr.cell? ⟨b0, o0 + i * 3 + 2, none⟩ = some (.int .i64 xd) := hc 2 _ (by omega) rfl
      have bA : Below wr.heap.size wr (wr.alloc (.cells #[.int .i64 x, .int .i64 xw, .int .i64 xd] 111)) := ba (Below.refl _ _)
      have hB2 := next hB bA
      have y0 : (wr.alloc (.cells #[.int .i64 x, .int .i64 xw, .int .i64 xd] 111)).cell? ⟨wr.heap.size, 0, none⟩ = some (.int .i64 x) := by simp
      have gw : w.heap.size ≤ wr.heap.size := hB.size
      have g2 : wr.heap.size < (wr.alloc (.cells #[.int .i64 x, .int .i64 xw, .int .i64 xd] 111)).heap.size := by simp
      have rw2 := rwl.below bA
      clear hx hc row rwl
      go_upto_region 5 with fail
      clear x0 x1 x2 hb hB bA
      generalize wr.heap.size = ge at *
      generalize wr.alloc _ = w2 at *
      obtain ⟨ov, hov⟩ : ∃ ov, ownT o x = ov := ⟨_, rfl⟩
      have HOV : Hid (ownT o x = ov) := hov
      unfold rdyF at HTK
      simp only at HTK
      rw [hov] at HTK
      clear hov
      by_cases ho : ov = -1
      · rw [if_pos ho] at HTK
        subst ho
        go_wp2_with (go_at_call 20; refine (owner_any (H.out.below hB2) x).mono ?_; rintro e w3 ⟨rfl, b3⟩; rw [HOV.out])
        have hB3 := next hB2 b3
        have rw3 := rw2.below b3
        have y3 := (b3.cell (p := ⟨ge, 0, none⟩) g2).trans y0
        have g3 := Nat.lt_of_lt_of_le g2 b3.size
        have hln : l.length = n := by have := rw3.len; simpa [cells] using this
        have HLN : Hid (l.length = n) := hln
        have HRI : Hid (RiseK _root_.id l) := by
          have := ready_rise o (q.take i)
          rw [show readyT o (q.take i) = l from HF.out] at this
          exact this
        clear b3 rw2 y0 g2 hB2 hln
        go_loopw [6] (fun vk wx => ∃ k : Nat, vk = .int .i64 (k : Int) ∧ k ≤ n ∧ Hid (∀ (j : Nat) (y : Int), j < k → l[j]? = some y → y < x) ∧ Below w.heap.size w wx ∧ Rw wx (fun j => w.heap.size ≤ j) a n cap 1 (cells l) ∧ wx.cell? ⟨ge, 0, none⟩ = some (.int .i64 x) ∧ ge < wx.heap.size) (fun vk _ => n - (intOf vk).toNat)
        case atStart => exact ⟨0, rfl, by omega, fun j y hj => by omega, hB3, rw3, y3, g3⟩
        case round =>
          clear hB3 rw3 y3 g3
          clear w3 w2
          obtain ⟨k, rfl, hk, HJ, hBx, rwx, yx, gx⟩ := hrel
          by_cases hkn : k < n
          · obtain ⟨b, o1, rfl, _⟩ := hsh.resolve_left (fun h => by omega)
            obtain ⟨_, _, e1, hbb, hcc⟩ := (slv_cells rwx.slv).at hkn
            simp at e1
            obtain ⟨rfl, rfl⟩ := e1
            have hyk : l[k]? = some (l[k]?.getD 0) := by rw [List.getElem?_eq_getElem (by rw [HLN.out]; exact hkn)]; rfl
            obtain ⟨y, hy⟩ : ∃ y, l[k]?.getD 0 = y := ⟨_, rfl⟩
            rw [hy] at hyk hcc
            have HY : Hid (l[k]? = some y) := hyk
            have hk1 : (k : Int) < (n : Int) := by omega
            have hk2 : decide ((k : Int) < (n : Int)) = true := decide_eq_true hk1
            have hk3 : ((k : Int) == (n : Int)) = false := by simp; omega
            clear hyk hy
            by_cases hyx : y < x
            · have HYX : Hid (y < x) := hyx
              have hyx' : decide (y < x) = true := decide_eq_true hyx
              clear hyx
              go_upto_region 7 with fail
              go_quiet (fail)
              go_wp2_with fail
              go_roundw
              case rel =>
                have bq := below_dn wr (by assumption)
                refine ⟨k + 1, by go_num, by omega, fun j z hj hz => ?_, next hBx (below_dn _ _), rwx.below (below_dn _ _), yx, gx⟩
                by_cases e : j = k
                · subst e
                  rw [HY.out] at hz
                  rw [← Option.some.inj hz]
                  exact HYX.out
                · exact HJ.out j z (by omega) hz
              case measure => simp [intOf]; omega
            · have hyx' : decide (y < x) = false := decide_eq_false hyx
              by_cases hye : y = x
              · skip
                have hneq : (y != x) = false := by simp [hye]
                go_upto_region 7 with fail
                go_quiet (fail)
                have rwy := rwx.below (below_dn wr nq)
                have hBy := next hBx (below_dn wr nq)
                have yy : (wr.drewN nq).cell? ⟨ge, 0, none⟩ = some (.int .i64 x) := yx
                have gy : ge < (wr.drewN nq).heap.size := gx
                have hcc' : (wr.drewN nq).cell? ⟨b, o1 + k, none⟩ = some (.int .i64 y) := hcc
                have hbb' : b < (wr.drewN nq).heap.size := hbb
                clear hcc hbb
                clear hBx rwx yx gx
                generalize wr.drewN nq = wy at *
                go_upto_region 9 with fail
                go_quiet (fail)
                have rwx := rwy.below (below_dn wy nq)
                have hBx := next hBy (below_dn wy nq)
                have yx : (wy.drewN nq).cell? ⟨ge, 0, none⟩ = some (.int .i64 x) := yy
                have gx : ge < (wy.drewN nq).heap.size := gy
                clear hBy rwy yy gy hcc' hbb'
                generalize wy.drewN nq = wx at *
                rw [show putK _root_.id x l = l from putK_same (key := _root_.id) HRI.out (a := x) (List.mem_of_getElem? (hye ▸ HY.out))] at HTK
                go_wp2_with fail
                go_roundw
                case rel => exact ⟨i + 1, n, _, cap, l, rfl, by go_num, by omega, by omega, hBx, rwx, HTK, .inr ⟨_, _, rfl, by omega⟩⟩
                case measure => simp [intOf]; omega
              · skip
                have hneq : (y != x) = true := by simpa using hye
                have HKP : Hid (putK _root_.id x l = l.take k ++ x :: l.drop k) := put_at HRI.out HJ.out (fun z hz => by rw [HY.out] at hz; have := Option.some.inj hz; omega)
                clear hye
                go_upto_region 7 with fail
                go_quiet (fail)
                have rwy := rwx.below (below_dn wr nq)
                have hBy := next hBx (below_dn wr nq)
                have yy : (wr.drewN nq).cell? ⟨ge, 0, none⟩ = some (.int .i64 x) := yx
                have gy : ge < (wr.drewN nq).heap.size := gx
                have hcc' : (wr.drewN nq).cell? ⟨b, o1 + k, none⟩ = some (.int .i64 y) := hcc
                have hbb' : b < (wr.drewN nq).heap.size := hbb
                clear hcc hbb
                clear hBx rwx yx gx
                generalize wr.drewN nq = wy at *
                go_upto_region 9 with fail
                go_quiet (fail)
                have rwx := rwy.below (below_dn wy nq)
                have hBx := next hBy (below_dn wy nq)
                have yx : (wy.drewN nq).cell? ⟨ge, 0, none⟩ = some (.int .i64 x) := yy
                have gx : ge < (wy.drewN nq).heap.size := gy
                clear hBy rwy yy gy hcc' hbb'
                generalize wy.drewN nq = wx at *
                go_upto_region 10 with fail
                obtain ⟨A0, hA⟩ : ∃ A0 : Addr, (if cap = k then some (⟨b, o1, none⟩ : Addr) else some ⟨b, o1 + k, none⟩) = some A0 := by
                  by_cases e : cap = k
                  · exact ⟨_, if_pos e⟩
                  · exact ⟨_, if_neg e⟩
                have hle0 := rwx.le
                have hmx0 := rwx.max
                unfold maxLen at hmx0
                have hkc : k ≤ cap := by omega
                have hi1 : 0 ≤ (k : Int) ∧ (k : Int) ≤ n ∧ (k : Int) ≤ cap := by omega
                refine wp_region_orders 13 rfl (by kernel_rfl) ?_
                have hBd : Below wx.heap.size wx wx.drew := (Below.refl _ _).drew
                have hB0 := next hBx hBd
                have rw0 := rwx.below hBd
                have y0 : wx.drew.cell? ⟨ge, 0, none⟩ = some (.int .i64 x) := yx
                have g0 : ge < wx.drew.heap.size := gx
                clear hBx rwx yx gx hBd
                generalize wx.drew = V0 at *
                have hI : (fun V : World => V.cell? ⟨ge, 0, none⟩ = some (.int .i64 x)) V0 := y0
                refine any_inv (fun V : World => V.cell? ⟨ge, 0, none⟩ = some (.int .i64 x)) [11] hI ?_
                refine inv_take (v := ?v17) [3, 11, 12] 0 hI rfl (by kernel_rfl) (by kernel_rfl) (by kernel_rfl) (by kernel_rfl) (by kernel_rfl) (fun _ _ _ h => h) (by kernel_rfl) (fun V hV => ?hy17) ?go17
                case hy17 => (have i1 := hV; go_simp <;> rfl)
                simp only [Act.put, List.setIfInBounds_toArray, List.set_cons_zero, List.set_cons_succ]
                refine inv_take (v := ?v18) [3, 11, 12] 1 hI rfl (by kernel_rfl) (by kernel_rfl) (by kernel_rfl) (by kernel_rfl) (by kernel_rfl) (fun _ _ _ h => h) (by kernel_rfl) (fun V hV => ?hy18) ?go18
                case hy18 => (have i1 := hV; go_simp <;> rfl)
                simp only [Act.put, List.setIfInBounds_toArray, List.set_cons_zero, List.set_cons_succ]
                refine inv_take (v := ?v19) [3, 11, 12] 2 hI rfl (by kernel_rfl) (by kernel_rfl) (by kernel_rfl) (by kernel_rfl) (by kernel_rfl) (fun _ _ _ h => h) (by kernel_rfl) (fun V hV => ?hy19) ?go19
                case hy19 => (have i1 := hV; go_simp <;> rfl)
                simp only [Act.put, List.setIfInBounds_toArray, List.set_cons_zero, List.set_cons_succ]
                refine inv_take (v := ?v20) [11, 12] 3 hI rfl (by kernel_rfl) (by kernel_rfl) (by kernel_rfl) (by kernel_rfl) (by kernel_rfl) (fun _ _ _ h => h) (by kernel_rfl) (fun V hV => ?hy20) ?go20
                case hy20 => (have i1 := hV; go_simp <;> rfl)
                simp only [Act.put, List.setIfInBounds_toArray, List.set_cons_zero, List.set_cons_succ]
                refine inv_take (v := ?v21) [5, 6, 10, 11, 12] 4 hI rfl (by kernel_rfl) (by kernel_rfl) (by kernel_rfl) (by kernel_rfl) (by kernel_rfl) (fun _ _ _ h => h) (by kernel_rfl) (fun V hV => ?hy21) ?go21
                case hy21 => (have i1 := hV; go_simp <;> rfl)
                simp only [Act.put, List.setIfInBounds_toArray, List.set_cons_zero, List.set_cons_succ]
                refine inv_take (v := ?v22) [6, 10, 11, 12] 5 hI rfl (by kernel_rfl) (by kernel_rfl) (by kernel_rfl) (by kernel_rfl) (by kernel_rfl) (fun _ _ _ h => h) (by kernel_rfl) (fun V hV => ?hy22) ?go22
                case hy22 => (have i1 := hV; go_simp <;> rfl)
                simp only [Act.put, List.setIfInBounds_toArray, List.set_cons_zero, List.set_cons_succ]
                refine inv_take (v := ?v23) [9, 10, 11, 12] 7 hI rfl (by kernel_rfl) (by kernel_rfl) (by kernel_rfl) (by kernel_rfl) (by kernel_rfl) (fun _ _ _ h => h) (by kernel_rfl) (fun V hV => ?hy23) ?go23
                case hy23 => (have i1 := hV; go_simp <;> rfl)
                simp only [Act.put, List.setIfInBounds_toArray, List.set_cons_zero, List.set_cons_succ]
                refine inv_take (v := ?v24) [9, 10, 11, 12] 8 hI rfl (by kernel_rfl) (by kernel_rfl) (by kernel_rfl) (by kernel_rfl) (by kernel_rfl) (fun _ _ _ h => h) (by kernel_rfl) (fun V hV => ?hy24) ?go24
                case hy24 => (have i1 := hV; go_simp <;> rfl)
                simp only [Act.put, List.setIfInBounds_toArray, List.set_cons_zero, List.set_cons_succ]
                refine inv_take (v := ?v25) [10, 11, 12] 9 hI rfl (by kernel_rfl) (by kernel_rfl) (by kernel_rfl) (by kernel_rfl) (by kernel_rfl) (fun _ _ _ h => h) (by kernel_rfl) (fun V hV => ?hy25) ?go25
                case hy25 => (have i1 := hV; go_simp <;> rfl)
                simp only [Act.put, List.setIfInBounds_toArray, List.set_cons_zero, List.set_cons_succ]
                refine inv_list 6 (by kernel_rfl) rfl ?_
                clear hI
                go_wp2_with fail
                have b4 : Below V0.heap.size V0 (V0.alloc (.cells #[.int .i64 x] 3)) := ba (Below.refl _ _)
                have hI : (fun V : World => V.cell? ⟨ge, 0, none⟩ = some (.int .i64 x)) (V0.alloc (.cells #[.int .i64 x] 3)) := (b4.cell (p := ⟨ge, 0, none⟩) g0).trans y0
                refine then_n ⟨hI, ?_⟩
                have r1 := rw_one V0 x 3
                obtain ⟨e0, hei, he0, he1, he2⟩ := info_parts Try.infoInt
                refine inv_list 10 (by kernel_rfl) rfl ?_
                refine wpList_append_slv (V0.alloc (.cells #[.int .i64 x] 3)) (fun j => V0.heap.size ≤ j) (by kernel_rfl) (.tmp 55) (.tmp 58) 22 rfl 3 e0 _ 1 8 Try.underlying22 hei he0 he1 he2 rfl (by decide) (some ⟨V0.heap.size, 0, none⟩) 1 1 (cells [x]) rfl r1 (some A0) (n - k) (cap - k) (cells (l.drop k)) rfl ((sl_rear (rw0.below b4) (by omega) hA)) (cells_one _) (by unfold maxLen; omega) (by omega) ?_
                intro a7 c7 w7 hrw7 hk7
                have hb7 := hk7.below (base := V0.heap.size) (fun j hj => hj) b4.size
                have hI7 : (fun V : World => V.cell? ⟨ge, 0, none⟩ = some (.int .i64 x)) w7 := (hb7.cell (p := ⟨ge, 0, none⟩) g0).trans hI
                refine then_n ⟨hI7, ?_⟩
                simp only [Act.put, List.setIfInBounds_toArray, List.set_cons_zero, List.set_cons_succ]
                refine inv_write 11 (by kernel_rfl) (by kernel_rfl) rfl ?_
                have rf7 : Rw w7 (fun j => w.heap.size ≤ j) (some ⟨b, o1, none⟩) k k 1 (cells (l.take k)) := by
                  have hcut := rw0.cut (k := k) (by omega)
                  exact (((hcut.imp (T := fun j => w.heap.size ≤ j ∧ j < V0.heap.size) (fun j hj h => ⟨h, hj⟩)).below b4).keep hk7 (fun j hj h => by omega)).imp (fun j hj h => h.1)
                refine wpList_append_slv w7 (fun j => w.heap.size ≤ j) (by kernel_rfl) (.tmp 52) (.tmp 59) 22 rfl 3 e0 _ 1 8 Try.underlying22 hei he0 he1 he2 rfl (by decide) (some ⟨b, o1, none⟩) k k (cells (l.take k)) rfl rf7 a7 _ c7 _ rfl hrw7.slv (fun u hu => cells_one ([x] ++ l.drop k) u (by simpa [cells] using hu)) (by unfold maxLen; omega) (by omega) ?_
                intro a8 c8 w8 hrw8 hk8
                have hb8 : Below w.heap.size w w8 := hk8.afterN (next hB0 (b4.trans (hb7.mono (Nat.le_refl _)))) (by have := hB0.size; have := hb7.size; have := b4.size; omega) (fun j hj => hj)
                have rw8 : Rw w8 (fun j => w.heap.size ≤ j) a8 (k + (1 + (n - k))) c8 1 (cells (putK _root_.id x l)) := by
                  have e : cells (l.take k) ++ (cells [x] ++ cells (l.drop k)) = cells (putK _root_.id x l) := by rw [HKP.out]; simp [cells]
                  rw [e] at hrw8
                  have h1 := hB0.size
                  have h2 := hb7.size
                  have h3 := b4.size
                  refine hrw8.imp (fun j hj h => ?_)
                  rcases h with h | h
                  · exact h
                  · omega
                refine then_n ?_
                refine any_list 12 (by kernel_rfl) rfl ?_
                go_wp2_with fail
                refine then_n ?_
                refine any_done (by kernel_rfl) ?_
                clear hk8 hb7 b4 hk7 hrw7 hI hI7 y0 g0 r1
                go_wp2_with fail
                go_roundw
                case rel =>
                  obtain ⟨b8, o8, ea, _, _, _⟩ := rwN_some rw8 (by omega)
                  exact ⟨i + 1, _, a8, c8, _, rfl, by go_num, by omega, by omega, hb8, rw8, HTK, .inr ⟨b8, o8, ea, by omega⟩⟩
                case measure => simp [intOf]; omega
          · have hkn' : k = n := by omega
            have HKN : Hid (k = n) := hkn'
            have hk1 : decide ((k : Int) < (n : Int)) = false := decide_eq_false (by omega)
            have hk3 : ((k : Int) == (n : Int)) = true := by simp; omega
            clear hkn'
            have HKP : Hid (putK _root_.id x l = l.take k ++ x :: l.drop k) := put_at HRI.out HJ.out (fun y hy => by have := (List.getElem?_eq_some_iff.1 hy).1; have := HLN.out; omega)
            rcases hsh with ⟨rfl, rfl, rfl⟩ | ⟨b, o1, rfl, hn0⟩
            · obtain rfl : k = 0 := HKN.out
              obtain rfl : l = [] := List.eq_nil_of_length_eq_zero HLN.out
              go_upto_region 7 with fail
              go_quiet (fail)
              have rwy := rwx.below (below_dn wr nq)
              have hBy := next hBx (below_dn wr nq)
              have yy : (wr.drewN nq).cell? ⟨ge, 0, none⟩ = some (.int .i64 x) := yx
              have gy : ge < (wr.drewN nq).heap.size := gx
              skip
              clear hBx rwx yx gx
              generalize wr.drewN nq = wy at *
              go_upto_region 9 with fail
              go_quiet (fail)
              have rwx := rwy.below (below_dn wy nq)
              have hBx := next hBy (below_dn wy nq)
              have yx : (wy.drewN nq).cell? ⟨ge, 0, none⟩ = some (.int .i64 x) := yy
              have gx : ge < (wy.drewN nq).heap.size := gy
              clear hBy rwy yy gy 
              generalize wy.drewN nq = wx at *
              go_upto_region 10 with fail
              refine wp_region_orders 13 rfl (by kernel_rfl) ?_
              have hBd : Below wx.heap.size wx wx.drew := (Below.refl _ _).drew
              have hB0 := next hBx hBd
              have rw0 := rwx.below hBd
              have y0 : wx.drew.cell? ⟨ge, 0, none⟩ = some (.int .i64 x) := yx
              have g0 : ge < wx.drew.heap.size := gx
              clear hBx rwx yx gx hBd
              generalize wx.drew = V0 at *
              have hI : (fun V : World => V.cell? ⟨ge, 0, none⟩ = some (.int .i64 x)) V0 := y0
              refine any_inv (fun V : World => V.cell? ⟨ge, 0, none⟩ = some (.int .i64 x)) [11] hI ?_
              refine inv_take (v := ?v26) [3, 11, 12] 0 hI rfl (by kernel_rfl) (by kernel_rfl) (by kernel_rfl) (by kernel_rfl) (by kernel_rfl) (fun _ _ _ h => h) (by kernel_rfl) (fun V hV => ?hy26) ?go26
              case hy26 => (have i1 := hV; go_simp <;> rfl)
              simp only [Act.put, List.setIfInBounds_toArray, List.set_cons_zero, List.set_cons_succ]
              refine inv_take (v := ?v27) [3, 11, 12] 1 hI rfl (by kernel_rfl) (by kernel_rfl) (by kernel_rfl) (by kernel_rfl) (by kernel_rfl) (fun _ _ _ h => h) (by kernel_rfl) (fun V hV => ?hy27) ?go27
              case hy27 => (have i1 := hV; go_simp <;> rfl)
              simp only [Act.put, List.setIfInBounds_toArray, List.set_cons_zero, List.set_cons_succ]
              refine inv_take (v := ?v28) [3, 11, 12] 2 hI rfl (by kernel_rfl) (by kernel_rfl) (by kernel_rfl) (by kernel_rfl) (by kernel_rfl) (fun _ _ _ h => h) (by kernel_rfl) (fun V hV => ?hy28) ?go28
              case hy28 => (have i1 := hV; go_simp <;> rfl)
              simp only [Act.put, List.setIfInBounds_toArray, List.set_cons_zero, List.set_cons_succ]
              refine inv_take (v := ?v29) [11, 12] 3 hI rfl (by kernel_rfl) (by kernel_rfl) (by kernel_rfl) (by kernel_rfl) (by kernel_rfl) (fun _ _ _ h => h) (by kernel_rfl) (fun V hV => ?hy29) ?go29
              case hy29 => (have i1 := hV; go_simp <;> rfl)
              simp only [Act.put, List.setIfInBounds_toArray, List.set_cons_zero, List.set_cons_succ]
              refine inv_take (v := ?v30) [5, 6, 10, 11, 12] 4 hI rfl (by kernel_rfl) (by kernel_rfl) (by kernel_rfl) (by kernel_rfl) (by kernel_rfl) (fun _ _ _ h => h) (by kernel_rfl) (fun V hV => ?hy30) ?go30
              case hy30 => (have i1 := hV; go_simp <;> rfl)
              simp only [Act.put, List.setIfInBounds_toArray, List.set_cons_zero, List.set_cons_succ]
              refine inv_take (v := ?v31) [6, 10, 11, 12] 5 hI rfl (by kernel_rfl) (by kernel_rfl) (by kernel_rfl) (by kernel_rfl) (by kernel_rfl) (fun _ _ _ h => h) (by kernel_rfl) (fun V hV => ?hy31) ?go31
              case hy31 => (have i1 := hV; go_simp <;> rfl)
              simp only [Act.put, List.setIfInBounds_toArray, List.set_cons_zero, List.set_cons_succ]
              refine inv_take (v := ?v32) [9, 10, 11, 12] 7 hI rfl (by kernel_rfl) (by kernel_rfl) (by kernel_rfl) (by kernel_rfl) (by kernel_rfl) (fun _ _ _ h => h) (by kernel_rfl) (fun V hV => ?hy32) ?go32
              case hy32 => (have i1 := hV; go_simp <;> rfl)
              simp only [Act.put, List.setIfInBounds_toArray, List.set_cons_zero, List.set_cons_succ]
              refine inv_take (v := ?v33) [9, 10, 11, 12] 8 hI rfl (by kernel_rfl) (by kernel_rfl) (by kernel_rfl) (by kernel_rfl) (by kernel_rfl) (fun _ _ _ h => h) (by kernel_rfl) (fun V hV => ?hy33) ?go33
              case hy33 => (have i1 := hV; go_simp <;> rfl)
              simp only [Act.put, List.setIfInBounds_toArray, List.set_cons_zero, List.set_cons_succ]
              refine inv_take (v := ?v34) [10, 11, 12] 9 hI rfl (by kernel_rfl) (by kernel_rfl) (by kernel_rfl) (by kernel_rfl) (by kernel_rfl) (fun _ _ _ h => h) (by kernel_rfl) (fun V hV => ?hy34) ?go34
              case hy34 => (have i1 := hV; go_simp <;> rfl)
              simp only [Act.put, List.setIfInBounds_toArray, List.set_cons_zero, List.set_cons_succ]
              refine inv_list 6 (by kernel_rfl) rfl ?_
              clear hI
              go_wp2_with fail
              have b4 : Below V0.heap.size V0 (V0.alloc (.cells #[.int .i64 x] 3)) := ba (Below.refl _ _)
              have hI : (fun V : World => V.cell? ⟨ge, 0, none⟩ = some (.int .i64 x)) (V0.alloc (.cells #[.int .i64 x] 3)) := (b4.cell (p := ⟨ge, 0, none⟩) g0).trans y0
              refine then_n ⟨hI, ?_⟩
              have r1 := rw_one V0 x 3
              obtain ⟨e0, hei, he0, he1, he2⟩ := info_parts Try.infoInt
              refine inv_list 10 (by kernel_rfl) rfl ?_
              refine wpList_append_slv (V0.alloc (.cells #[.int .i64 x] 3)) (fun j => V0.heap.size ≤ j) (by kernel_rfl) (.tmp 55) (.tmp 58) 22 rfl 3 e0 _ 1 8 Try.underlying22 hei he0 he1 he2 rfl (by decide) (some ⟨V0.heap.size, 0, none⟩) 1 1 (cells [x]) rfl r1 none 0 0 (cells []) rfl (slv_nil _ _) (cells_one _) (by unfold maxLen; omega) (by omega) ?_
              intro a7 c7 w7 hrw7 hk7
              have hb7 := hk7.below (base := V0.heap.size) (fun j hj => hj) b4.size
              have hI7 : (fun V : World => V.cell? ⟨ge, 0, none⟩ = some (.int .i64 x)) w7 := (hb7.cell (p := ⟨ge, 0, none⟩) g0).trans hI
              refine then_n ⟨hI7, ?_⟩
              simp only [Act.put, List.setIfInBounds_toArray, List.set_cons_zero, List.set_cons_succ]
              refine inv_write 11 (by kernel_rfl) (by kernel_rfl) rfl ?_
              refine wpList_append_slv w7 (fun j => w.heap.size ≤ j) (by kernel_rfl) (.tmp 52) (.tmp 59) 22 rfl 3 e0 _ 1 8 Try.underlying22 hei he0 he1 he2 rfl (by decide) none 0 0 (cells []) rfl (rw_nil _ _ _) a7 _ c7 _ rfl hrw7.slv (fun u hu => cells_one ([x] ++ []) u (by simpa [cells] using hu)) (by unfold maxLen; omega) (by omega) ?_
              intro a8 c8 w8 hrw8 hk8
              have hb8 : Below w.heap.size w w8 := hk8.afterN (next hB0 (b4.trans (hb7.mono (Nat.le_refl _)))) (by have := hB0.size; have := hb7.size; have := b4.size; omega) (fun j hj => hj)
              have rw8 : Rw w8 (fun j => w.heap.size ≤ j) a8 (0 + (1 + 0)) c8 1 (cells (putK _root_.id x [])) := by
                have e : cells [] ++ (cells [x] ++ cells []) = cells (putK _root_.id x []) := by rw [HKP.out]; simp [cells]
                rw [e] at hrw8
                have h1 := hB0.size
                have h2 := hb7.size
                have h3 := b4.size
                refine hrw8.imp (fun j hj h => ?_)
                rcases h with h | h
                · exact h
                · omega
              refine then_n ?_
              refine any_list 12 (by kernel_rfl) rfl ?_
              go_wp2_with fail
              refine then_n ?_
              refine any_done (by kernel_rfl) ?_
              clear hk8 hb7 b4 hk7 hrw7 hI hI7 y0 g0 r1
              go_wp2_with fail
              go_roundw
              case rel =>
                obtain ⟨b8, o8, ea, _, _, _⟩ := rwN_some rw8 (by omega)
                exact ⟨i + 1, _, a8, c8, _, rfl, by go_num, by omega, by omega, hb8, rw8, HTK, .inr ⟨b8, o8, ea, by omega⟩⟩
              case measure => simp [intOf]; omega
            · skip
              go_upto_region 7 with fail
              go_quiet (fail)
              have rwy := rwx.below (below_dn wr nq)
              have hBy := next hBx (below_dn wr nq)
              have yy : (wr.drewN nq).cell? ⟨ge, 0, none⟩ = some (.int .i64 x) := yx
              have gy : ge < (wr.drewN nq).heap.size := gx
              skip
              clear hBx rwx yx gx
              generalize wr.drewN nq = wy at *
              go_upto_region 9 with fail
              go_quiet (fail)
              have rwx := rwy.below (below_dn wy nq)
              have hBx := next hBy (below_dn wy nq)
              have yx : (wy.drewN nq).cell? ⟨ge, 0, none⟩ = some (.int .i64 x) := yy
              have gx : ge < (wy.drewN nq).heap.size := gy
              clear hBy rwy yy gy 
              generalize wy.drewN nq = wx at *
              go_upto_region 10 with fail
              obtain ⟨A0, hA⟩ : ∃ A0 : Addr, (if cap = k then some (⟨b, o1, none⟩ : Addr) else some ⟨b, o1 + k, none⟩) = some A0 := by
                by_cases e : cap = k
                · exact ⟨_, if_pos e⟩
                · exact ⟨_, if_neg e⟩
              have hle0 := rwx.le
              have hmx0 := rwx.max
              unfold maxLen at hmx0
              have hkc : k ≤ cap := by omega
              have hi1 : 0 ≤ (k : Int) ∧ (k : Int) ≤ n ∧ (k : Int) ≤ cap := by omega
              refine wp_region_orders 13 rfl (by kernel_rfl) ?_
              have hBd : Below wx.heap.size wx wx.drew := (Below.refl _ _).drew
              have hB0 := next hBx hBd
              have rw0 := rwx.below hBd
              have y0 : wx.drew.cell? ⟨ge, 0, none⟩ = some (.int .i64 x) := yx
              have g0 : ge < wx.drew.heap.size := gx
              clear hBx rwx yx gx hBd
              generalize wx.drew = V0 at *
              have hI : (fun V : World => V.cell? ⟨ge, 0, none⟩ = some (.int .i64 x)) V0 := y0
              refine any_inv (fun V : World => V.cell? ⟨ge, 0, none⟩ = some (.int .i64 x)) [11] hI ?_
              refine inv_take (v := ?v35) [3, 11, 12] 0 hI rfl (by kernel_rfl) (by kernel_rfl) (by kernel_rfl) (by kernel_rfl) (by kernel_rfl) (fun _ _ _ h => h) (by kernel_rfl) (fun V hV => ?hy35) ?go35
              case hy35 => (have i1 := hV; go_simp <;> rfl)
              simp only [Act.put, List.setIfInBounds_toArray, List.set_cons_zero, List.set_cons_succ]
              refine inv_take (v := ?v36) [3, 11, 12] 1 hI rfl (by kernel_rfl) (by kernel_rfl) (by kernel_rfl) (by kernel_rfl) (by kernel_rfl) (fun _ _ _ h => h) (by kernel_rfl) (fun V hV => ?hy36) ?go36
              case hy36 => (have i1 := hV; go_simp <;> rfl)
              simp only [Act.put, List.setIfInBounds_toArray, List.set_cons_zero, List.set_cons_succ]
              refine inv_take (v := ?v37) [3, 11, 12] 2 hI rfl (by kernel_rfl) (by kernel_rfl) (by kernel_rfl) (by kernel_rfl) (by kernel_rfl) (fun _ _ _ h => h) (by kernel_rfl) (fun V hV => ?hy37) ?go37
              case hy37 => (have i1 := hV; go_simp <;> rfl)
              simp only [Act.put, List.setIfInBounds_toArray, List.set_cons_zero, List.set_cons_succ]
              refine inv_take (v := ?v38) [11, 12] 3 hI rfl (by kernel_rfl) (by kernel_rfl) (by kernel_rfl) (by kernel_rfl) (by kernel_rfl) (fun _ _ _ h => h) (by kernel_rfl) (fun V hV => ?hy38) ?go38
              case hy38 => (have i1 := hV; go_simp <;> rfl)
              simp only [Act.put, List.setIfInBounds_toArray, List.set_cons_zero, List.set_cons_succ]
              refine inv_take (v := ?v39) [5, 6, 10, 11, 12] 4 hI rfl (by kernel_rfl) (by kernel_rfl) (by kernel_rfl) (by kernel_rfl) (by kernel_rfl) (fun _ _ _ h => h) (by kernel_rfl) (fun V hV => ?hy39) ?go39
              case hy39 => (have i1 := hV; go_simp <;> rfl)
              simp only [Act.put, List.setIfInBounds_toArray, List.set_cons_zero, List.set_cons_succ]
              refine inv_take (v := ?v40) [6, 10, 11, 12] 5 hI rfl (by kernel_rfl) (by kernel_rfl) (by kernel_rfl) (by kernel_rfl) (by kernel_rfl) (fun _ _ _ h => h) (by kernel_rfl) (fun V hV => ?hy40) ?go40
              case hy40 => (have i1 := hV; go_simp <;> rfl)
              simp only [Act.put, List.setIfInBounds_toArray, List.set_cons_zero, List.set_cons_succ]
              refine inv_take (v := ?v41) [9, 10, 11, 12] 7 hI rfl (by kernel_rfl) (by kernel_rfl) (by kernel_rfl) (by kernel_rfl) (by kernel_rfl) (fun _ _ _ h => h) (by kernel_rfl) (fun V hV => ?hy41) ?go41
              case hy41 => (have i1 := hV; go_simp <;> rfl)
              simp only [Act.put, List.setIfInBounds_toArray, List.set_cons_zero, List.set_cons_succ]
              refine inv_take (v := ?v42) [9, 10, 11, 12] 8 hI rfl (by kernel_rfl) (by kernel_rfl) (by kernel_rfl) (by kernel_rfl) (by kernel_rfl) (fun _ _ _ h => h) (by kernel_rfl) (fun V hV => ?hy42) ?go42
              case hy42 => (have i1 := hV; go_simp <;> rfl)
              simp only [Act.put, List.setIfInBounds_toArray, List.set_cons_zero, List.set_cons_succ]
              refine inv_take (v := ?v43) [10, 11, 12] 9 hI rfl (by kernel_rfl) (by kernel_rfl) (by kernel_rfl) (by kernel_rfl) (by kernel_rfl) (fun _ _ _ h => h) (by kernel_rfl) (fun V hV => ?hy43) ?go43
              case hy43 => (have i1 := hV; go_simp <;> rfl)
              simp only [Act.put, List.setIfInBounds_toArray, List.set_cons_zero, List.set_cons_succ]
              refine inv_list 6 (by kernel_rfl) rfl ?_
              clear hI
              go_wp2_with fail
              have b4 : Below V0.heap.size V0 (V0.alloc (.cells #[.int .i64 x] 3)) := ba (Below.refl _ _)
              have hI : (fun V : World => V.cell? ⟨ge, 0, none⟩ = some (.int .i64 x)) (V0.alloc (.cells #[.int .i64 x] 3)) := (b4.cell (p := ⟨ge, 0, none⟩) g0).trans y0
              refine then_n ⟨hI, ?_⟩
              have r1 := rw_one V0 x 3
              obtain ⟨e0, hei, he0, he1, he2⟩ := info_parts Try.infoInt
              refine inv_list 10 (by kernel_rfl) rfl ?_
              refine wpList_append_slv (V0.alloc (.cells #[.int .i64 x] 3)) (fun j => V0.heap.size ≤ j) (by kernel_rfl) (.tmp 55) (.tmp 58) 22 rfl 3 e0 _ 1 8 Try.underlying22 hei he0 he1 he2 rfl (by decide) (some ⟨V0.heap.size, 0, none⟩) 1 1 (cells [x]) rfl r1 (some A0) (n - k) (cap - k) (cells (l.drop k)) rfl ((sl_rear (rw0.below b4) (by omega) hA)) (cells_one _) (by unfold maxLen; omega) (by omega) ?_
              intro a7 c7 w7 hrw7 hk7
              have hb7 := hk7.below (base := V0.heap.size) (fun j hj => hj) b4.size
              have hI7 : (fun V : World => V.cell? ⟨ge, 0, none⟩ = some (.int .i64 x)) w7 := (hb7.cell (p := ⟨ge, 0, none⟩) g0).trans hI
              refine then_n ⟨hI7, ?_⟩
              simp only [Act.put, List.setIfInBounds_toArray, List.set_cons_zero, List.set_cons_succ]
              refine inv_write 11 (by kernel_rfl) (by kernel_rfl) rfl ?_
              have rf7 : Rw w7 (fun j => w.heap.size ≤ j) (some ⟨b, o1, none⟩) k k 1 (cells (l.take k)) := by
                have hcut := rw0.cut (k := k) (by omega)
                exact (((hcut.imp (T := fun j => w.heap.size ≤ j ∧ j < V0.heap.size) (fun j hj h => ⟨h, hj⟩)).below b4).keep hk7 (fun j hj h => by omega)).imp (fun j hj h => h.1)
              refine wpList_append_slv w7 (fun j => w.heap.size ≤ j) (by kernel_rfl) (.tmp 52) (.tmp 59) 22 rfl 3 e0 _ 1 8 Try.underlying22 hei he0 he1 he2 rfl (by decide) (some ⟨b, o1, none⟩) k k (cells (l.take k)) rfl rf7 a7 _ c7 _ rfl hrw7.slv (fun u hu => cells_one ([x] ++ l.drop k) u (by simpa [cells] using hu)) (by unfold maxLen; omega) (by omega) ?_
              intro a8 c8 w8 hrw8 hk8
              have hb8 : Below w.heap.size w w8 := hk8.afterN (next hB0 (b4.trans (hb7.mono (Nat.le_refl _)))) (by have := hB0.size; have := hb7.size; have := b4.size; omega) (fun j hj => hj)
              have rw8 : Rw w8 (fun j => w.heap.size ≤ j) a8 (k + (1 + (n - k))) c8 1 (cells (putK _root_.id x l)) := by
                have e : cells (l.take k) ++ (cells [x] ++ cells (l.drop k)) = cells (putK _root_.id x l) := by rw [HKP.out]; simp [cells]
                rw [e] at hrw8
                have h1 := hB0.size
                have h2 := hb7.size
                have h3 := b4.size
                refine hrw8.imp (fun j hj h => ?_)
                rcases h with h | h
                · exact h
                · omega
              refine then_n ?_
              refine any_list 12 (by kernel_rfl) rfl ?_
              go_wp2_with fail
              refine then_n ?_
              refine any_done (by kernel_rfl) ?_
              clear hk8 hb7 b4 hk7 hrw7 hI hI7 y0 g0 r1
              go_wp2_with fail
              go_roundw
              case rel =>
                obtain ⟨b8, o8, ea, _, _, _⟩ := rwN_some rw8 (by omega)
                exact ⟨i + 1, _, a8, c8, _, rfl, by go_num, by omega, by omega, hb8, rw8, HTK, .inr ⟨b8, o8, ea, by omega⟩⟩
              case measure => simp [intOf]; omega
      · rw [if_neg ho] at HTK
        have hob : (ov != -1) = true := by simpa using ho
        clear ho
        go_wp2_with (go_at_call 20; refine (owner_any (H.out.below hB2) x).mono ?_; rintro e w3 ⟨rfl, b3⟩; rw [HOV.out])
        go_roundw
        case rel => exact ⟨i + 1, n, a, cap, l, rfl, by go_num, by omega, by omega, next hB2 b3, rw2.below b3, HTK, hsh⟩
        case measure => simp [intOf]; omega
    · go_wp2_with fail
      go_ret
      refine ⟨a, n, cap, rfl, ?_, hB⟩
      have e : q.take i = q := List.take_of_length_le (by have := HL.out; omega)
      have h1 := HF.out
      rw [e] at h1
      rw [show readyT o q = l from h1]
      exact rwl
theorem ready_any {w : World} {g t0 : Nat} {M N : Nat → Prop} {o : List (Int × Int)} {q : List Wr} {ao aq : Option Addr} {no co nq cq : Nat} (h : DT w g t0 M N o q ao no co aq nq cq) (hn : nq ≤ 1000) :
    Calls Try.prog 36 #[.pointer (some ⟨g, t0, none⟩)] w fun e w' => ∃ a n cap, e = .returned (.slice a n cap) ∧ Sl w' a n cap (readyT o q) ∧ Below w.heap.size w w' := by
  refine (ready_new h hn).mono ?_
  rintro e w' ⟨a, n, cap, h1, h2, h3⟩
  exact ⟨a, n, cap, h1, slv_cells h2.slv, h3⟩
end TR
end Go.Proofs.Ytgeiagndpfdnlaa
end
