/- The program's turns: Ask, Release. Conditions: as each theorem states them. -/
import Derived.Test.YtgeiagndpfdnlaaTu1
import Derived.Test.YtgeiagndpfdnlaaTake8
namespace Go.Proofs.Ytgeiagndpfdnlaa
open Go.RowKit Go.Maps
set_option linter.unusedVariables false
set_option maxRecDepth 20000

theorem Try.infoAsk : (Try.prog.info? 108).map (fun i => (i.zero, i.size, i.bytes)) = some (some (.agg #[.int .i64 0, .int .i64 0]), 2, 16) := by kernel_rfl
section
variable {w : World} {g bo bw : Nat} {M : Nat → Prop} {R : List (Int × Int)} {O : List TE}
theorem TU.ask_neg (line who id : Int) (hn : line < 0 ∨ who < 0) : Calls Try.prog 54 #[.pointer (some ⟨g, 0, none⟩), .int .i64 line, .int .i64 who, .int .i64 id] w fun e w' => e = .returned (.bool false) ∧ w = w' := by
  by_cases h1 : line < 0
  · clear hn
    go_enter Try.func54, Try.ntmps54
    go_wp2_with fail
    go_ret
    exact ⟨rfl, rfl⟩
  · have h2 := hn.resolve_left h1
    clear hn
    go_enter Try.func54, Try.ntmps54
    go_wp2_with fail
    go_ret
    exact ⟨rfl, rfl⟩
theorem TU.ask_own (h : TW w g bo bw M R O) {line who : Int} (id : Int) (hl : In64 line) (h1 : 0 ≤ line) (h2 : 0 ≤ who) (ho : ownR R line = -1) (hw : wtO O line = []) (hR : R.length ≤ 1000000) :
    Calls Try.prog 54 #[.pointer (some ⟨g, 0, none⟩), .int .i64 line, .int .i64 who, .int .i64 id] w fun e w' => e = .returned (.bool true) ∧ Keep M w w' ∧ w'.heap.size = w.heap.size ∧ TW w' g bo bw M (putK Prod.fst (line, who) R) O := by
  have HO : Hid (decide (ownR R line ≠ -1) = false) := by show _ = _; rw [ho]; decide
  have HW : Hid ((wtO O line).length = 0) := by show _ = _; rw [hw]; rfl
  have h1' : ¬ line < 0 := by omega
  have h2' : ¬ who < 0 := by omega
  have c0 := h.c0
  have H : Hid (TW w g bo bw M R O) := h
  have HL : Hid (In64 line) := hl
  have HP : Hid (0 ≤ who) := h2
  obtain ⟨w9, hrun9, im9, ht9⟩ := h.own.store Try.underlying74 (by rw [kv_len]; unfold maxLen; omega) hl (.int .i64 who)
  have im9' : IM w9 bo (kv Prod.fst oVal (putK Prod.fst (line, who) R)) := by
    rw [← kv_put]; exact im9
  have CN := h.newown ht9 im9' (rise_put h.rise) (fun p hp => by
    rcases mem_putK.1 hp with rfl | ⟨hp, _⟩
    · exact h2
    · exact h.pos p hp)
  have hk := (turned_keep ht9).mono (G := M) (fun j _ hj => hj ▸ h.mg.2.1)
  have hs := turned_size ht9
  clear im9 im9' ht9 ho hw h hl h1 h2 hR
  go_enter Try.func54, Try.ntmps54
  go_wp2_with (first
    | (go_at_call 12; refine (TU.waiting_any H.out HL.out).mono ?_; rintro e w1 ⟨rfl, rfl⟩; rw [HW.out])
    | (go_at_call 65; refine (TU.owned_any H.out HL.out).mono ?_; rintro e w1 ⟨rfl, rfl⟩; rw [HO.out]))
  go_ret
  exact ⟨rfl, hk, hs, CN⟩
set_option maxHeartbeats 600000 in
theorem TU.ask_wait1 (h : TW w g bo bw M R O) {line who : Int} (id : Int) (hl : In64 line) (h1 : 0 ≤ line) (h2 : 0 ≤ who) (ho : ownR R line ≠ -1) (hO : O.length ≤ 1000000) (hL : (wtO O line).length ≤ 1000000) :
    Calls Try.prog 54 #[.pointer (some ⟨g, 0, none⟩), .int .i64 line, .int .i64 who, .int .i64 id] w fun e w' => e = .returned (.bool false) ∧ Keep M w w' ∧
      ∃ p : TE, p.s = line ∧ p.l = wtO O line ++ [(who, id)] ∧ TW w' g bo bw (fun j => M j ∨ (w.heap.size ≤ j ∧ j < w'.heap.size)) R (putK TE.s p O) := by
  have HO : Hid (decide (ownR R line ≠ -1) = true) := decide_eq_true ho
  have h1' : ¬ line < 0 := by omega
  have h2' : ¬ who < 0 := by omega
  have H : Hid (TW w g bo bw M R O) := h
  have HIL : Hid (In64 line) := hl
  obtain ⟨X, a, cap, hoa, hrw, hX⟩ := h.wtRw line
  have hlo := fun V (hV : IM V bw (kv TE.s TE.val O)) => im_lookW hV hl
  rw [hoa] at hlo
  obtain ⟨l, hwl⟩ : ∃ l, wtO O line = l := ⟨_, rfl⟩
  rw [hwl] at hlo hrw hL ⊢
  obtain ⟨n, hn⟩ : ∃ n, l.length = n := ⟨_, rfl⟩
  rw [hn] at hlo hrw hL
  have HN : Hid (l.length = n) := hn
  have HWL : Hid (wtO O line = l) := hwl

  have HWN : Hid ((wtO O line).length = n) := by show _ = _; rw [hwl]; exact hn
  have lt := h.lt
  clear hn hwl h h1 h2 hoa ho 
  have HHL : Hid (In64 line) := hl
  clear hl
  go_enter Try.func54, Try.ntmps54
  go_upto_region 4 with (go_at_call 65; refine (TU.owned_any H.out HIL.out).mono ?_; rintro e w1 ⟨rfl, rfl⟩; rw [HO.out])
  skip
  refine wp_region_orders 17 rfl (by kernel_rfl) ?_
  have hBd : Below w.heap.size w w.drew := (Below.refl _ _).drew
  have HLO : Hid _ := hlo
  have hlV := hlo _ (H.out.wts.below hBd)
  have rwV := hrw.below hBd
  have HV : Hid (TW w.drew g bo bw M R O) := H.out.below hBd
  have hsz : w.drew.heap.size = w.heap.size := rfl
  have HSZ : Hid _ := hsz
  have ltV : g < w.drew.heap.size := lt
  clear hlo hrw lt hsz
  generalize w.drew = V0 at *
  have hI : (fun V : World => V.cell? ⟨g, 1, none⟩ = some (.map (some bw)) ∧ (Instr.lookup 75 (.map (some bw)) (.int .i64 line) false).run Try.prog V = .ok (.slice a n cap) V) V0 := ⟨HV.out.c1, hlV⟩
  clear hlV
  refine any_inv (fun V : World => V.cell? ⟨g, 1, none⟩ = some (.map (some bw)) ∧ (Instr.lookup 75 (.map (some bw)) (.int .i64 line) false).run Try.prog V = .ok (.slice a n cap) V) [16] hI ?_
  refine inv_take (v := ?v1) [1, 2, 3, 16] 0 hI rfl (by kernel_rfl) (by kernel_rfl) (by kernel_rfl) (by kernel_rfl) (by kernel_rfl) (fun _ _ _ h => h) (by kernel_rfl) (fun V hV => ?hy1) ?go1
  case hy1 => (obtain ⟨i1, i2⟩ := hV; go_simp <;> rfl)
  simp only [Act.put, List.setIfInBounds_toArray, List.set_cons_zero, List.set_cons_succ]
  refine inv_take (v := ?v2) [2, 3, 16] 1 hI rfl (by kernel_rfl) (by kernel_rfl) (by kernel_rfl) (by kernel_rfl) (by kernel_rfl) (fun _ _ _ h => h) (by kernel_rfl) (fun V hV => ?hy2) ?go2
  case hy2 => (obtain ⟨i1, i2⟩ := hV; go_simp <;> rfl)
  simp only [Act.put, List.setIfInBounds_toArray, List.set_cons_zero, List.set_cons_succ]
  refine inv_take (v := ?v3) [3, 16] 2 hI rfl (by kernel_rfl) (by kernel_rfl) (by kernel_rfl) (by kernel_rfl) (by kernel_rfl) (fun _ _ _ h => h) (by kernel_rfl) (fun V hV => ?hy3) ?go3
  case hy3 => (obtain ⟨i1, i2⟩ := hV; go_simp <;> rfl)
  simp only [Act.put, List.setIfInBounds_toArray, List.set_cons_zero, List.set_cons_succ]
  refine inv_take (v := ?v4) [16] 3 hI rfl (by kernel_rfl) (by kernel_rfl) (by kernel_rfl) (by kernel_rfl) (by kernel_rfl) (fun _ _ _ h => h) (by kernel_rfl) (fun V hV => ?hy4) ?go4
  case hy4 => (obtain ⟨i1, i2⟩ := hV; go_simp <;> rfl)
  simp only [Act.put, List.setIfInBounds_toArray, List.set_cons_zero, List.set_cons_succ]
  refine inv_take (v := ?v5) [16] 4 hI rfl (by kernel_rfl) (by kernel_rfl) (by kernel_rfl) (by kernel_rfl) (by kernel_rfl) (fun _ _ _ h => h) (by kernel_rfl) (fun V hV => ?hy5) ?go5
  case hy5 => (obtain ⟨i1, i2⟩ := hV; go_simp <;> rfl)
  simp only [Act.put, List.setIfInBounds_toArray, List.set_cons_zero, List.set_cons_succ]
  refine inv_take (v := ?v6) [6, 7, 8, 10, 15, 16] 5 hI rfl (by kernel_rfl) (by kernel_rfl) (by kernel_rfl) (by kernel_rfl) (by kernel_rfl) (fun _ _ _ h => h) (by kernel_rfl) (fun V hV => ?hy6) ?go6
  case hy6 => (obtain ⟨i1, i2⟩ := hV; go_simp <;> rfl)
  simp only [Act.put, List.setIfInBounds_toArray, List.set_cons_zero, List.set_cons_succ]
  refine inv_take (v := ?v7) [7, 8, 10, 15, 16] 6 hI rfl (by kernel_rfl) (by kernel_rfl) (by kernel_rfl) (by kernel_rfl) (by kernel_rfl) (fun _ _ _ h => h) (by kernel_rfl) (fun V hV => ?hy7) ?go7
  case hy7 => (obtain ⟨i1, i2⟩ := hV; go_simp <;> rfl)
  simp only [Act.put, List.setIfInBounds_toArray, List.set_cons_zero, List.set_cons_succ]
  refine inv_take (v := ?v8) [8, 10, 15, 16] 7 hI rfl (by kernel_rfl) (by kernel_rfl) (by kernel_rfl) (by kernel_rfl) (by kernel_rfl) (fun _ _ _ h => h) (by kernel_rfl) (fun V hV => ?hy8) ?go8
  case hy8 => (obtain ⟨i1, i2⟩ := hV; go_simp <;> rfl)
  simp only [Act.put, List.setIfInBounds_toArray, List.set_cons_zero, List.set_cons_succ]
  refine inv_take (v := ?v9) [10, 15, 16] 8 hI rfl (by kernel_rfl) (by kernel_rfl) (by kernel_rfl) (by kernel_rfl) (by kernel_rfl) (fun _ _ _ h => h) (by kernel_rfl) (fun V hV => ?hy9) ?go9
  case hy9 => (obtain ⟨i1, i2⟩ := hV; go_simp <;> rfl)
  simp only [Act.put, List.setIfInBounds_toArray, List.set_cons_zero, List.set_cons_succ]
  refine inv_take (v := ?v10) [10, 15, 16] 9 hI rfl (by kernel_rfl) (by kernel_rfl) (by kernel_rfl) (by kernel_rfl) (by kernel_rfl) (fun _ _ _ h => h) (by kernel_rfl) (fun V hV => ?hy10) ?go10
  case hy10 => (obtain ⟨i1, i2⟩ := hV; go_simp <;> rfl)
  simp only [Act.put, List.setIfInBounds_toArray, List.set_cons_zero, List.set_cons_succ]
  refine inv_take (v := ?v11) [15, 16] 10 hI rfl (by kernel_rfl) (by kernel_rfl) (by kernel_rfl) (by kernel_rfl) (by kernel_rfl) (fun _ _ _ h => h) (by kernel_rfl) (fun V hV => ?hy11) ?go11
  case hy11 => (obtain ⟨i1, i2⟩ := hV; go_simp <;> rfl)
  simp only [Act.put, List.setIfInBounds_toArray, List.set_cons_zero, List.set_cons_succ]
  refine inv_take (v := ?v12) [13, 14, 15, 16] 11 hI rfl (by kernel_rfl) (by kernel_rfl) (by kernel_rfl) (by kernel_rfl) (by kernel_rfl) (fun _ _ _ h => h) (by kernel_rfl) (fun V hV => ?hy12) ?go12
  case hy12 => (obtain ⟨i1, i2⟩ := hV; go_simp <;> rfl)
  simp only [Act.put, List.setIfInBounds_toArray, List.set_cons_zero, List.set_cons_succ]
  refine inv_take (v := ?v13) [13, 14, 15, 16] 12 hI rfl (by kernel_rfl) (by kernel_rfl) (by kernel_rfl) (by kernel_rfl) (by kernel_rfl) (fun _ _ _ h => h) (by kernel_rfl) (fun V hV => ?hy13) ?go13
  case hy13 => (obtain ⟨i1, i2⟩ := hV; go_simp <;> rfl)
  simp only [Act.put, List.setIfInBounds_toArray, List.set_cons_zero, List.set_cons_succ]
  refine inv_take (v := ?v14) [14, 15, 16] 13 hI rfl (by kernel_rfl) (by kernel_rfl) (by kernel_rfl) (by kernel_rfl) (by kernel_rfl) (fun _ _ _ h => h) (by kernel_rfl) (fun V hV => ?hy14) ?go14
  case hy14 => (obtain ⟨i1, i2⟩ := hV; go_simp <;> rfl)
  simp only [Act.put, List.setIfInBounds_toArray, List.set_cons_zero, List.set_cons_succ]
  obtain ⟨i0, hfi, hp0, hp1, hp2⟩ := info_parts Try.infoAsk
  refine inv_list 14 (by kernel_rfl) rfl ?_
  clear hI
  go_wp2_with fail
  have b4 : Below V0.heap.size V0 (V0.alloc (.cells #[.int .i64 who, .int .i64 id] 108)) := ba (Below.refl _ _)
  have hI : (fun V : World => V.cell? ⟨g, 1, none⟩ = some (.map (some bw)) ∧ (Instr.lookup 75 (.map (some bw)) (.int .i64 line) false).run Try.prog V = .ok (.slice a n cap) V) (V0.alloc (.cells #[.int .i64 who, .int .i64 id] 108)) := ⟨(HV.out.below b4).c1, HLO.out _ (HV.out.wts.below b4)⟩
  refine then_n ⟨hI, ?_⟩
  refine inv_list 15 (by kernel_rfl) rfl ?_
  have hsv : SlV (V0.alloc (.cells #[.int .i64 who, .int .i64 id] 108)) (some ⟨V0.heap.size, 0, none⟩) 1 1 2 (dcells (who, id)) := by
    refine ⟨rfl, Nat.le_refl _, by unfold maxLen; omega, fun h => (by cases h), .inr ⟨_, _, rfl, fun j u hu => ?_⟩⟩
    have h4 := (List.getElem?_eq_some_iff.1 hu).1
    simp [dcells] at h4
    rcases (by omega : j = 0 ∨ j = 1) with rfl | rfl <;> simp [dcells] at hu <;> subst hu <;> simp
  refine wpList_append_slv (V0.alloc (.cells #[.int .i64 who, .int .i64 id] 108)) X (by kernel_rfl) (.tmp 34) (.tmp 38) 78 rfl 108 i0 (.agg #[.int .i64 0, .int .i64 0]) 2 16 Try.underlying78 hfi hp0 hp1 hp2 rfl (by decide) a n cap (flat dcells l) rfl (rwV.below b4) (some ⟨V0.heap.size, 0, none⟩) 1 1 (dcells (who, id)) rfl hsv (fun u hu => by simp [dcells] at hu; rcases hu with rfl | rfl <;> rfl) (by unfold maxLen; omega) (by omega) ?_
  intro a8 c8 w8 hrw8 hk8
  have e8 : flat dcells l ++ dcells (who, id) = flat dcells (l ++ [(who, id)]) := by rw [flat_append, flat_one]
  rw [e8] at hrw8
  obtain ⟨b8, o8, rfl, hx8, hb8, hr8⟩ := rwN_some hrw8 (by omega)
  have K8 : Keep X V0 w8 := (Keep.of_below (F := X) b4).trans hk8 (fun j _ h => h)
  have hXbw : ¬ X bw := fun f => (hX bw f).2.2.2.1 rfl
  have im8 : IM w8 bw (kv TE.s TE.val O) := HV.out.wts.keep K8 hXbw
  have c4 : w8.cell? ⟨g, 1, none⟩ = some (.map (some bw)) := (K8.cell 1 ltV (fun f => (hX g f).2.1 rfl)).trans HV.out.c1
  have hI8 : (fun V : World => V.cell? ⟨g, 1, none⟩ = some (.map (some bw)) ∧ (Instr.lookup 75 (.map (some bw)) (.int .i64 line) false).run Try.prog V = .ok (.slice a n cap) V) w8 := ⟨c4, HLO.out _ im8⟩
  refine then_n ⟨hI8, ?_⟩
  simp only [Act.put, List.setIfInBounds_toArray, List.set_cons_zero, List.set_cons_succ]
  obtain ⟨w9, hrun9, im9, ht9⟩ := im8.store Try.underlying75 (by rw [kv_len]; unfold maxLen; omega) HHL.out (.slice (some ⟨b8, o8, none⟩) (n + 1) c8)
  clear hI hI8
  refine inv_write 16 (by kernel_rfl) (by kernel_rfl) rfl ?_
  have HS8 := K8.size
  obtain ⟨p, hp⟩ : ∃ p : TE, p = ⟨line, l ++ [(who, id)], b8, o8, c8⟩ := ⟨_, rfl⟩
  have hpv : Value.slice (some ⟨b8, o8, none⟩) (n + 1) c8 = TE.val p := by rw [hp]; unfold TE.val; simp [HN.out]
  have hps : line = TE.s p := by rw [hp]
  have hpl : p.l = l ++ [(who, id)] := by rw [hp]
  have im9' : IM w9 bw (kv TE.s TE.val (putK TE.s p O)) := by
    rw [← kv_put, ← hpv, ← hps]; exact im9
  have kt := turned_keep ht9
  have hb8o : b8 ≠ bw := fun e => by
    rcases hx8 with hx8 | hx8
    · exact (hX b8 hx8).2.2.2.1 e
    · have := HV.out.wts.lt; simp at hx8; omega
  have hr9 := hr8.keep kt (fun j hj e => hb8o (hj.symm.trans e))
  have hs9 := turned_size ht9
  have K9 : Keep (fun j => X j ∨ j = bw) V0 w9 := (K8.mono (G := fun j => X j ∨ j = bw) (fun j _ h => .inl h)).trans kt (fun j _ h => .inr h)
  have hpb : p.b = b8 := by rw [hp]
  have CN := HV.out.newwt (s := line) (O' := putK TE.s p O) (F := fun j => X j ∨ j = bw) (w' := w9) K9 (fun j hj => by
      rcases hj with hj | rfl
      · obtain ⟨a1, a2, a3, a4, a5⟩ := hX j hj
        exact ⟨a1, a2, a3, a5⟩
      · exact ⟨HV.out.mg.2.2, HV.out.ne.2.1, Ne.symm HV.out.ne.2.2, fun q hq _ => (HV.out.rows q hq).2.2.2.2⟩) im9' (rise_put HV.out.riseO) (fun q hq => by
      rcases mem_putK.1 hq with rfl | ⟨hq, _⟩
      · rw [hpl]; simp
      · exact HV.out.full q hq) (fun q hq => by
      rcases mem_putK.1 hq with rfl | ⟨h1, h2⟩
      · refine .inr ⟨hps.symm, ?_, ?_⟩
        · rw [hp]
          simp only
          have : (l ++ [(who, id)]).length = n + 1 := by simp [HN.out]
          rw [this]
          exact hr9
        · rw [hpb]
          rcases hx8 with hx8 | hx8
          · obtain ⟨a1, a2, a3, a4, a5⟩ := hX b8 hx8
            exact .inl ⟨a1, a2, a3, a4, a5⟩
          · refine .inr ⟨by simp at hx8; omega, by rw [hs9]; exact hb8⟩
      · exact .inl ⟨h1, fun e => h2 (e.trans hps)⟩)
  have KN : Keep M w w9 := Keep.pre hBd (K9.mono (fun j _ h => by
      rcases h with h | rfl
      · exact (hX j h).1
      · exact HV.out.mg.2.2))
  have HP : Hid (p.s = line ∧ p.l = l ++ [(who, id)]) := ⟨hps.symm, hpl⟩
  clear im8 im9 im9' hr8 hr9 kt hrw8 hk8 K8 K9 hp hpb hpv hps hpl hsv b4
  go_wp2_with fail
  refine then_n ?_
  refine any_done (by kernel_rfl) ?_
  clear hrun9 ht9 c4
  go_wp2_with fail
  go_ret
  refine ⟨rfl, KN, p, HP.out.1, HP.out.2, ?_⟩
  rw [← HSZ.out]
  exact CN
set_option maxHeartbeats 600000 in
theorem TU.ask_wait2 (h : TW w g bo bw M R O) {line who : Int} (id : Int) (hl : In64 line) (h1 : 0 ≤ line) (h2 : 0 ≤ who) (ho : ownR R line = -1) (hw : wtO O line ≠ []) (hO : O.length ≤ 1000000) (hL : (wtO O line).length ≤ 1000000) :
    Calls Try.prog 54 #[.pointer (some ⟨g, 0, none⟩), .int .i64 line, .int .i64 who, .int .i64 id] w fun e w' => e = .returned (.bool false) ∧ Keep M w w' ∧
      ∃ p : TE, p.s = line ∧ p.l = wtO O line ++ [(who, id)] ∧ TW w' g bo bw (fun j => M j ∨ (w.heap.size ≤ j ∧ j < w'.heap.size)) R (putK TE.s p O) := by
  have HO : Hid (decide (ownR R line ≠ -1) = false) := by show _ = _; rw [ho]; decide
  have h1' : ¬ line < 0 := by omega
  have h2' : ¬ who < 0 := by omega
  have H : Hid (TW w g bo bw M R O) := h
  have HIL : Hid (In64 line) := hl
  obtain ⟨X, a, cap, hoa, hrw, hX⟩ := h.wtRw line
  have hlo := fun V (hV : IM V bw (kv TE.s TE.val O)) => im_lookW hV hl
  rw [hoa] at hlo
  obtain ⟨l, hwl⟩ : ∃ l, wtO O line = l := ⟨_, rfl⟩
  rw [hwl] at hlo hrw hL ⊢
  obtain ⟨n, hn⟩ : ∃ n, l.length = n := ⟨_, rfl⟩
  rw [hn] at hlo hrw hL
  have HN : Hid (l.length = n) := hn
  have HWL : Hid (wtO O line = l) := hwl
  have hn0 : (n : Int) > 0 := by have := List.length_pos_iff.2 hw; rw [hwl, hn] at this; omega
  have HWN : Hid ((wtO O line).length = n) := by show _ = _; rw [hwl]; exact hn
  have lt := h.lt
  clear hn hwl h h1 h2 hoa ho hw
  have HHL : Hid (In64 line) := hl
  clear hl
  go_enter Try.func54, Try.ntmps54
  go_upto_region 4 with (first
    | (go_at_call 12; refine (TU.waiting_any H.out HIL.out).mono ?_; rintro e w1 ⟨rfl, rfl⟩; rw [HWN.out])
    | (go_at_call 65; refine (TU.owned_any H.out HIL.out).mono ?_; rintro e w1 ⟨rfl, rfl⟩; rw [HO.out]))
  clear hn0
  refine wp_region_orders 17 rfl (by kernel_rfl) ?_
  have hBd : Below w.heap.size w w.drew := (Below.refl _ _).drew
  have HLO : Hid _ := hlo
  have hlV := hlo _ (H.out.wts.below hBd)
  have rwV := hrw.below hBd
  have HV : Hid (TW w.drew g bo bw M R O) := H.out.below hBd
  have hsz : w.drew.heap.size = w.heap.size := rfl
  have HSZ : Hid _ := hsz
  have ltV : g < w.drew.heap.size := lt
  clear hlo hrw lt hsz
  generalize w.drew = V0 at *
  have hI : (fun V : World => V.cell? ⟨g, 1, none⟩ = some (.map (some bw)) ∧ (Instr.lookup 75 (.map (some bw)) (.int .i64 line) false).run Try.prog V = .ok (.slice a n cap) V) V0 := ⟨HV.out.c1, hlV⟩
  clear hlV
  refine any_inv (fun V : World => V.cell? ⟨g, 1, none⟩ = some (.map (some bw)) ∧ (Instr.lookup 75 (.map (some bw)) (.int .i64 line) false).run Try.prog V = .ok (.slice a n cap) V) [16] hI ?_
  refine inv_take (v := ?v15) [1, 2, 3, 16] 0 hI rfl (by kernel_rfl) (by kernel_rfl) (by kernel_rfl) (by kernel_rfl) (by kernel_rfl) (fun _ _ _ h => h) (by kernel_rfl) (fun V hV => ?hy15) ?go15
  case hy15 => (obtain ⟨i1, i2⟩ := hV; go_simp <;> rfl)
  simp only [Act.put, List.setIfInBounds_toArray, List.set_cons_zero, List.set_cons_succ]
  refine inv_take (v := ?v16) [2, 3, 16] 1 hI rfl (by kernel_rfl) (by kernel_rfl) (by kernel_rfl) (by kernel_rfl) (by kernel_rfl) (fun _ _ _ h => h) (by kernel_rfl) (fun V hV => ?hy16) ?go16
  case hy16 => (obtain ⟨i1, i2⟩ := hV; go_simp <;> rfl)
  simp only [Act.put, List.setIfInBounds_toArray, List.set_cons_zero, List.set_cons_succ]
  refine inv_take (v := ?v17) [3, 16] 2 hI rfl (by kernel_rfl) (by kernel_rfl) (by kernel_rfl) (by kernel_rfl) (by kernel_rfl) (fun _ _ _ h => h) (by kernel_rfl) (fun V hV => ?hy17) ?go17
  case hy17 => (obtain ⟨i1, i2⟩ := hV; go_simp <;> rfl)
  simp only [Act.put, List.setIfInBounds_toArray, List.set_cons_zero, List.set_cons_succ]
  refine inv_take (v := ?v18) [16] 3 hI rfl (by kernel_rfl) (by kernel_rfl) (by kernel_rfl) (by kernel_rfl) (by kernel_rfl) (fun _ _ _ h => h) (by kernel_rfl) (fun V hV => ?hy18) ?go18
  case hy18 => (obtain ⟨i1, i2⟩ := hV; go_simp <;> rfl)
  simp only [Act.put, List.setIfInBounds_toArray, List.set_cons_zero, List.set_cons_succ]
  refine inv_take (v := ?v19) [16] 4 hI rfl (by kernel_rfl) (by kernel_rfl) (by kernel_rfl) (by kernel_rfl) (by kernel_rfl) (fun _ _ _ h => h) (by kernel_rfl) (fun V hV => ?hy19) ?go19
  case hy19 => (obtain ⟨i1, i2⟩ := hV; go_simp <;> rfl)
  simp only [Act.put, List.setIfInBounds_toArray, List.set_cons_zero, List.set_cons_succ]
  refine inv_take (v := ?v20) [6, 7, 8, 10, 15, 16] 5 hI rfl (by kernel_rfl) (by kernel_rfl) (by kernel_rfl) (by kernel_rfl) (by kernel_rfl) (fun _ _ _ h => h) (by kernel_rfl) (fun V hV => ?hy20) ?go20
  case hy20 => (obtain ⟨i1, i2⟩ := hV; go_simp <;> rfl)
  simp only [Act.put, List.setIfInBounds_toArray, List.set_cons_zero, List.set_cons_succ]
  refine inv_take (v := ?v21) [7, 8, 10, 15, 16] 6 hI rfl (by kernel_rfl) (by kernel_rfl) (by kernel_rfl) (by kernel_rfl) (by kernel_rfl) (fun _ _ _ h => h) (by kernel_rfl) (fun V hV => ?hy21) ?go21
  case hy21 => (obtain ⟨i1, i2⟩ := hV; go_simp <;> rfl)
  simp only [Act.put, List.setIfInBounds_toArray, List.set_cons_zero, List.set_cons_succ]
  refine inv_take (v := ?v22) [8, 10, 15, 16] 7 hI rfl (by kernel_rfl) (by kernel_rfl) (by kernel_rfl) (by kernel_rfl) (by kernel_rfl) (fun _ _ _ h => h) (by kernel_rfl) (fun V hV => ?hy22) ?go22
  case hy22 => (obtain ⟨i1, i2⟩ := hV; go_simp <;> rfl)
  simp only [Act.put, List.setIfInBounds_toArray, List.set_cons_zero, List.set_cons_succ]
  refine inv_take (v := ?v23) [10, 15, 16] 8 hI rfl (by kernel_rfl) (by kernel_rfl) (by kernel_rfl) (by kernel_rfl) (by kernel_rfl) (fun _ _ _ h => h) (by kernel_rfl) (fun V hV => ?hy23) ?go23
  case hy23 => (obtain ⟨i1, i2⟩ := hV; go_simp <;> rfl)
  simp only [Act.put, List.setIfInBounds_toArray, List.set_cons_zero, List.set_cons_succ]
  refine inv_take (v := ?v24) [10, 15, 16] 9 hI rfl (by kernel_rfl) (by kernel_rfl) (by kernel_rfl) (by kernel_rfl) (by kernel_rfl) (fun _ _ _ h => h) (by kernel_rfl) (fun V hV => ?hy24) ?go24
  case hy24 => (obtain ⟨i1, i2⟩ := hV; go_simp <;> rfl)
  simp only [Act.put, List.setIfInBounds_toArray, List.set_cons_zero, List.set_cons_succ]
  refine inv_take (v := ?v25) [15, 16] 10 hI rfl (by kernel_rfl) (by kernel_rfl) (by kernel_rfl) (by kernel_rfl) (by kernel_rfl) (fun _ _ _ h => h) (by kernel_rfl) (fun V hV => ?hy25) ?go25
  case hy25 => (obtain ⟨i1, i2⟩ := hV; go_simp <;> rfl)
  simp only [Act.put, List.setIfInBounds_toArray, List.set_cons_zero, List.set_cons_succ]
  refine inv_take (v := ?v26) [13, 14, 15, 16] 11 hI rfl (by kernel_rfl) (by kernel_rfl) (by kernel_rfl) (by kernel_rfl) (by kernel_rfl) (fun _ _ _ h => h) (by kernel_rfl) (fun V hV => ?hy26) ?go26
  case hy26 => (obtain ⟨i1, i2⟩ := hV; go_simp <;> rfl)
  simp only [Act.put, List.setIfInBounds_toArray, List.set_cons_zero, List.set_cons_succ]
  refine inv_take (v := ?v27) [13, 14, 15, 16] 12 hI rfl (by kernel_rfl) (by kernel_rfl) (by kernel_rfl) (by kernel_rfl) (by kernel_rfl) (fun _ _ _ h => h) (by kernel_rfl) (fun V hV => ?hy27) ?go27
  case hy27 => (obtain ⟨i1, i2⟩ := hV; go_simp <;> rfl)
  simp only [Act.put, List.setIfInBounds_toArray, List.set_cons_zero, List.set_cons_succ]
  refine inv_take (v := ?v28) [14, 15, 16] 13 hI rfl (by kernel_rfl) (by kernel_rfl) (by kernel_rfl) (by kernel_rfl) (by kernel_rfl) (fun _ _ _ h => h) (by kernel_rfl) (fun V hV => ?hy28) ?go28
  case hy28 => (obtain ⟨i1, i2⟩ := hV; go_simp <;> rfl)
  simp only [Act.put, List.setIfInBounds_toArray, List.set_cons_zero, List.set_cons_succ]
  obtain ⟨i0, hfi, hp0, hp1, hp2⟩ := info_parts Try.infoAsk
  refine inv_list 14 (by kernel_rfl) rfl ?_
  clear hI
  go_wp2_with fail
  have b4 : Below V0.heap.size V0 (V0.alloc (.cells #[.int .i64 who, .int .i64 id] 108)) := ba (Below.refl _ _)
  have hI : (fun V : World => V.cell? ⟨g, 1, none⟩ = some (.map (some bw)) ∧ (Instr.lookup 75 (.map (some bw)) (.int .i64 line) false).run Try.prog V = .ok (.slice a n cap) V) (V0.alloc (.cells #[.int .i64 who, .int .i64 id] 108)) := ⟨(HV.out.below b4).c1, HLO.out _ (HV.out.wts.below b4)⟩
  refine then_n ⟨hI, ?_⟩
  refine inv_list 15 (by kernel_rfl) rfl ?_
  have hsv : SlV (V0.alloc (.cells #[.int .i64 who, .int .i64 id] 108)) (some ⟨V0.heap.size, 0, none⟩) 1 1 2 (dcells (who, id)) := by
    refine ⟨rfl, Nat.le_refl _, by unfold maxLen; omega, fun h => (by cases h), .inr ⟨_, _, rfl, fun j u hu => ?_⟩⟩
    have h4 := (List.getElem?_eq_some_iff.1 hu).1
    simp [dcells] at h4
    rcases (by omega : j = 0 ∨ j = 1) with rfl | rfl <;> simp [dcells] at hu <;> subst hu <;> simp
  refine wpList_append_slv (V0.alloc (.cells #[.int .i64 who, .int .i64 id] 108)) X (by kernel_rfl) (.tmp 34) (.tmp 38) 78 rfl 108 i0 (.agg #[.int .i64 0, .int .i64 0]) 2 16 Try.underlying78 hfi hp0 hp1 hp2 rfl (by decide) a n cap (flat dcells l) rfl (rwV.below b4) (some ⟨V0.heap.size, 0, none⟩) 1 1 (dcells (who, id)) rfl hsv (fun u hu => by simp [dcells] at hu; rcases hu with rfl | rfl <;> rfl) (by unfold maxLen; omega) (by omega) ?_
  intro a8 c8 w8 hrw8 hk8
  have e8 : flat dcells l ++ dcells (who, id) = flat dcells (l ++ [(who, id)]) := by rw [flat_append, flat_one]
  rw [e8] at hrw8
  obtain ⟨b8, o8, rfl, hx8, hb8, hr8⟩ := rwN_some hrw8 (by omega)
  have K8 : Keep X V0 w8 := (Keep.of_below (F := X) b4).trans hk8 (fun j _ h => h)
  have hXbw : ¬ X bw := fun f => (hX bw f).2.2.2.1 rfl
  have im8 : IM w8 bw (kv TE.s TE.val O) := HV.out.wts.keep K8 hXbw
  have c4 : w8.cell? ⟨g, 1, none⟩ = some (.map (some bw)) := (K8.cell 1 ltV (fun f => (hX g f).2.1 rfl)).trans HV.out.c1
  have hI8 : (fun V : World => V.cell? ⟨g, 1, none⟩ = some (.map (some bw)) ∧ (Instr.lookup 75 (.map (some bw)) (.int .i64 line) false).run Try.prog V = .ok (.slice a n cap) V) w8 := ⟨c4, HLO.out _ im8⟩
  refine then_n ⟨hI8, ?_⟩
  simp only [Act.put, List.setIfInBounds_toArray, List.set_cons_zero, List.set_cons_succ]
  obtain ⟨w9, hrun9, im9, ht9⟩ := im8.store Try.underlying75 (by rw [kv_len]; unfold maxLen; omega) HHL.out (.slice (some ⟨b8, o8, none⟩) (n + 1) c8)
  clear hI hI8
  refine inv_write 16 (by kernel_rfl) (by kernel_rfl) rfl ?_
  have HS8 := K8.size
  obtain ⟨p, hp⟩ : ∃ p : TE, p = ⟨line, l ++ [(who, id)], b8, o8, c8⟩ := ⟨_, rfl⟩
  have hpv : Value.slice (some ⟨b8, o8, none⟩) (n + 1) c8 = TE.val p := by rw [hp]; unfold TE.val; simp [HN.out]
  have hps : line = TE.s p := by rw [hp]
  have hpl : p.l = l ++ [(who, id)] := by rw [hp]
  have im9' : IM w9 bw (kv TE.s TE.val (putK TE.s p O)) := by
    rw [← kv_put, ← hpv, ← hps]; exact im9
  have kt := turned_keep ht9
  have hb8o : b8 ≠ bw := fun e => by
    rcases hx8 with hx8 | hx8
    · exact (hX b8 hx8).2.2.2.1 e
    · have := HV.out.wts.lt; simp at hx8; omega
  have hr9 := hr8.keep kt (fun j hj e => hb8o (hj.symm.trans e))
  have hs9 := turned_size ht9
  have K9 : Keep (fun j => X j ∨ j = bw) V0 w9 := (K8.mono (G := fun j => X j ∨ j = bw) (fun j _ h => .inl h)).trans kt (fun j _ h => .inr h)
  have hpb : p.b = b8 := by rw [hp]
  have CN := HV.out.newwt (s := line) (O' := putK TE.s p O) (F := fun j => X j ∨ j = bw) (w' := w9) K9 (fun j hj => by
      rcases hj with hj | rfl
      · obtain ⟨a1, a2, a3, a4, a5⟩ := hX j hj
        exact ⟨a1, a2, a3, a5⟩
      · exact ⟨HV.out.mg.2.2, HV.out.ne.2.1, Ne.symm HV.out.ne.2.2, fun q hq _ => (HV.out.rows q hq).2.2.2.2⟩) im9' (rise_put HV.out.riseO) (fun q hq => by
      rcases mem_putK.1 hq with rfl | ⟨hq, _⟩
      · rw [hpl]; simp
      · exact HV.out.full q hq) (fun q hq => by
      rcases mem_putK.1 hq with rfl | ⟨h1, h2⟩
      · refine .inr ⟨hps.symm, ?_, ?_⟩
        · rw [hp]
          simp only
          have : (l ++ [(who, id)]).length = n + 1 := by simp [HN.out]
          rw [this]
          exact hr9
        · rw [hpb]
          rcases hx8 with hx8 | hx8
          · obtain ⟨a1, a2, a3, a4, a5⟩ := hX b8 hx8
            exact .inl ⟨a1, a2, a3, a4, a5⟩
          · refine .inr ⟨by simp at hx8; omega, by rw [hs9]; exact hb8⟩
      · exact .inl ⟨h1, fun e => h2 (e.trans hps)⟩)
  have KN : Keep M w w9 := Keep.pre hBd (K9.mono (fun j _ h => by
      rcases h with h | rfl
      · exact (hX j h).1
      · exact HV.out.mg.2.2))
  have HP : Hid (p.s = line ∧ p.l = l ++ [(who, id)]) := ⟨hps.symm, hpl⟩
  clear im8 im9 im9' hr8 hr9 kt hrw8 hk8 K8 K9 hp hpb hpv hps hpl hsv b4
  go_wp2_with fail
  refine then_n ?_
  refine any_done (by kernel_rfl) ?_
  clear hrun9 ht9 c4
  go_wp2_with fail
  go_ret
  refine ⟨rfl, KN, p, HP.out.1, HP.out.2, ?_⟩
  rw [← HSZ.out]
  exact CN
theorem TU.release_no (h : TW w g bo bw M R O) {line who : Int} (hl : In64 line) (ho : ownR R line = -1 ∨ ownR R line ≠ who) :
    Calls Try.prog 57 #[.pointer (some ⟨g, 0, none⟩), .int .i64 line, .int .i64 who] w fun e w' => e = .returned (.int .i64 6) ∧ w = w' := by
  have HIL : Hid (In64 line) := hl
  have H : Hid (TW w g bo bw M R O) := h
  by_cases h1 : ownR R line = -1
  · have HO : Hid (decide (ownR R line ≠ -1) = false) := by show _ = _; rw [h1]; decide
    clear h hl ho h1
    go_enter Try.func57, Try.ntmps57
    go_wp2_with (go_at_call 65; refine (TU.owned_any H.out HIL.out).mono ?_; rintro e w1 ⟨rfl, rfl⟩; rw [HO.out])
    go_ret
    exact ⟨rfl, rfl⟩
  · have HO : Hid (decide (ownR R line ≠ -1) = true) := decide_eq_true h1
    have h2 := ho.resolve_left h1
    obtain ⟨v, hv⟩ : ∃ v, ownR R line = v := ⟨_, rfl⟩
    have HV : Hid (ownR R line = v) := hv
    have hb : (v != who) = true := by rw [← hv]; simp [h2]
    clear h hl ho h1 h2 hv
    go_enter Try.func57, Try.ntmps57
    go_wp2_with (first
      | (go_at_call 11; refine (TU.owner_any H.out HIL.out).mono ?_; rintro e w1 ⟨rfl, rfl⟩; rw [HV.out])
      | (go_at_call 65; refine (TU.owned_any H.out HIL.out).mono ?_; rintro e w1 ⟨rfl, rfl⟩; rw [HO.out]))
    go_ret
    exact ⟨rfl, rfl⟩
theorem TU.release_ok (h : TW w g bo bw M R O) {line who : Int} (hl : In64 line) (h1 : ownR R line ≠ -1) (h2 : ownR R line = who) :
    Calls Try.prog 57 #[.pointer (some ⟨g, 0, none⟩), .int .i64 line, .int .i64 who] w fun e w' => e = .returned (.int .i64 0) ∧ Keep M w w' ∧ w'.heap.size = w.heap.size ∧ TW w' g bo bw M (delK Prod.fst line R) O := by
  have HIL : Hid (In64 line) := hl
  have H : Hid (TW w g bo bw M R O) := h
  have HO : Hid (decide (ownR R line ≠ -1) = true) := decide_eq_true h1
  have HV : Hid (ownR R line = who) := h2
  have c0 := h.c0
  have hrun := fun ty => (h.own.drop Try.underlying74 hl ty)
  obtain ⟨w9, hrun9, im9, ht9⟩ := hrun 0
  rw [kv_del] at im9
  have CN := h.newown ht9 im9 (rise_del h.rise) (fun p hp => h.pos p (mem_delK.1 hp).1)
  have hk := (turned_keep ht9).mono (G := M) (fun j _ hj => hj ▸ h.mg.2.1)
  have hs := turned_size ht9
  clear im9 ht9 h hl h1 h2 hrun
  go_enter Try.func57, Try.ntmps57
  go_wp2_with (first
    | (go_at_call 11; refine (TU.owner_any H.out HIL.out).mono ?_; rintro e w1 ⟨rfl, rfl⟩; rw [HV.out])
    | (go_at_call 65; refine (TU.owned_any H.out HIL.out).mono ?_; rintro e w1 ⟨rfl, rfl⟩; rw [HO.out]))
  go_ret
  exact ⟨rfl, hk, hs, CN⟩
end
end Go.Proofs.Ytgeiagndpfdnlaa
