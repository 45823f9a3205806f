/- The program's cache: use, leave. Conditions: as each theorem states them. -/
import Derived.Test.YtfobgkkmbacfjaaCc1
import Derived.Test.YtfobgkkmbacfjaaTake8
namespace Go.Proofs.Ytfobgkkmbacfjaa
open Go.RowKit Go.Maps
set_option linter.unusedVariables false
set_option maxRecDepth 20000

theorem cells_app (l m : List Int) : cells l ++ cells m = cells (l ++ m) := by simp [cells]
theorem rw_some {w : World} {X : Nat → Prop} {a : Option Addr} {n cap : Nat} {l : List Value} (h : Rw w X a n cap 1 l) (hn : 0 < n) : ∃ b o, a = some ⟨b, o, none⟩ ∧ X b ∧ b < w.heap.size ∧ Rw w (fun j => j = b) (some ⟨b, o, none⟩) n cap 1 l := by
  have hle := h.le
  rcases h.row with h0 | ⟨b, o, rfl, hx, hb, hc, hf⟩
  · omega
  · exact ⟨b, o, rfl, hx, hb, h.len, h.le, h.max, h.nil, .inr ⟨b, o, rfl, rfl, hb, hc, hf⟩⟩
section
variable {w : World} {g be bo : Nat} {M D : Nat → Prop} {S W k : Int} {R : List (En × Value)} {O : List OE}
theorem CC.use_any (h : CW w g be bo M D S W k R O) (x : Int) (hk : 0 ≤ k ∧ k < 1000000000) (hO : O.length ≤ 1000000) (hL : (ordL O (setI S x)).length ≤ 1000000) :
    Calls Try.prog 42 #[.pointer (some ⟨g, 0, none⟩), .int .i64 x] w fun e w' => e = .returned (.int .i64 (k + 1)) ∧ Keep M w w' ∧
      ∃ p : OE, p.s = setI S x ∧ p.l = ordL O (setI S x) ++ [x] ∧ CW w' g be bo (fun j => M j ∨ (w.heap.size ≤ j ∧ j < w'.heap.size)) D S W (k + 1) R (putK OE.s p O) := by
  have H : Hid (CW w g be bo M D S W k R O) := h
  obtain ⟨X, a, cap, hoa, hrw, hX⟩ := h.ordRw (setI S x)
  have hlo := fun V (hV : IM V bo (kv OE.s OE.val O)) => im_lookO hV (setI_in h x).1
  have hsi := (setI_in h x).1
  obtain ⟨s, hs⟩ : ∃ s, setI S x = s := ⟨_, rfl⟩
  have HS : Hid (setI S x = s) := hs
  rw [hs] at hlo hrw hX hoa hL hsi ⊢
  rw [hoa] at hlo
  clear hs hoa
  obtain ⟨l, hl⟩ : ∃ l, ordL O s = l := ⟨_, rfl⟩
  rw [hl] at hlo hrw hL ⊢
  clear hl
  obtain ⟨n, hn⟩ : ∃ n, l.length = n := ⟨_, rfl⟩
  rw [hn] at hlo hrw hL
  have HN : Hid (l.length = n) := hn
  have c4 := h.c4
  have c2 := h.c2
  have lt := h.lt
  have f2 := h.fz 2
  have HK : Hid (IntKind.i64.wrap (k + 1) = k + 1) := (IntWalk.i64_left _).trans (IntWalk.wrap64_in _ (by omega))
  clear hn h
  go_enter Try.func42, Try.ntmps42
  go_upto_region 2 with (go_at_call 47; refine (CC.setOf_any H.out x).mono ?_; rintro e w1 ⟨rfl, rfl⟩; rw [HS.out])
  refine wp_region_orders 15 rfl (by kernel_rfl) ?_
  have hBd : Below w.heap.size w w.drew := (Below.refl _ _).drew
  have HLO : Hid _ := hlo
  have hlV := hlo _ (H.out.ords.below hBd)
  have rwV := hrw.below hBd
  have HV : Hid (CW w.drew g be bo M D S W k R O) := H.out.below hBd
  have hsz : w.drew.heap.size = w.heap.size := rfl
  have HSZ : Hid _ := hsz
  have ltV : g < w.drew.heap.size := lt
  clear hlo hrw c4 c2 f2 lt hsz
  generalize w.drew = V0 at *
  have hI : (fun V : World => V.cell? ⟨g, 4, none⟩ = some (.map (some bo)) ∧ (Instr.lookup 85 (.map (some bo)) (.int .i64 s) false).run Try.prog V = .ok (.slice a n cap) V) V0 := ⟨HV.out.c4, hlV⟩
  clear hlV
  refine any_inv (fun V : World => V.cell? ⟨g, 4, none⟩ = some (.map (some bo)) ∧ (Instr.lookup 85 (.map (some bo)) (.int .i64 s) false).run Try.prog V = .ok (.slice a n cap) V) [14] hI ?_
  refine inv_take (v := ?v1) [1, 2, 3, 14] 0 hI rfl (by kernel_rfl) (by kernel_rfl) (by kernel_rfl) (by kernel_rfl) (by kernel_rfl) (fun _ _ _ h => h) (by kernel_rfl) (fun V hV => ?hy1) ?go1
  case hy1 => (obtain ⟨i1, i2⟩ := hV; go_simp <;> rfl)
  simp only [Act.put, List.setIfInBounds_toArray, List.set_cons_zero, List.set_cons_succ]
  refine inv_take (v := ?v2) [2, 3, 14] 1 hI rfl (by kernel_rfl) (by kernel_rfl) (by kernel_rfl) (by kernel_rfl) (by kernel_rfl) (fun _ _ _ h => h) (by kernel_rfl) (fun V hV => ?hy2) ?go2
  case hy2 => (obtain ⟨i1, i2⟩ := hV; go_simp <;> rfl)
  simp only [Act.put, List.setIfInBounds_toArray, List.set_cons_zero, List.set_cons_succ]
  refine inv_take (v := ?v3) [3, 14] 2 hI rfl (by kernel_rfl) (by kernel_rfl) (by kernel_rfl) (by kernel_rfl) (by kernel_rfl) (fun _ _ _ h => h) (by kernel_rfl) (fun V hV => ?hy3) ?go3
  case hy3 => (obtain ⟨i1, i2⟩ := hV; go_simp <;> rfl)
  simp only [Act.put, List.setIfInBounds_toArray, List.set_cons_zero, List.set_cons_succ]
  refine inv_take (v := ?v4) [14] 3 hI rfl (by kernel_rfl) (by kernel_rfl) (by kernel_rfl) (by kernel_rfl) (by kernel_rfl) (fun _ _ _ h => h) (by kernel_rfl) (fun V hV => ?hy4) ?go4
  case hy4 => (obtain ⟨i1, i2⟩ := hV; go_simp <;> rfl)
  simp only [Act.put, List.setIfInBounds_toArray, List.set_cons_zero, List.set_cons_succ]
  refine inv_take (v := ?v5) [14] 4 hI rfl (by kernel_rfl) (by kernel_rfl) (by kernel_rfl) (by kernel_rfl) (by kernel_rfl) (fun _ _ _ h => h) (by kernel_rfl) (fun V hV => ?hy5) ?go5
  case hy5 => (obtain ⟨i1, i2⟩ := hV; go_simp <;> rfl)
  simp only [Act.put, List.setIfInBounds_toArray, List.set_cons_zero, List.set_cons_succ]
  refine inv_take (v := ?v6) [6, 7, 8, 10, 13, 14] 5 hI rfl (by kernel_rfl) (by kernel_rfl) (by kernel_rfl) (by kernel_rfl) (by kernel_rfl) (fun _ _ _ h => h) (by kernel_rfl) (fun V hV => ?hy6) ?go6
  case hy6 => (obtain ⟨i1, i2⟩ := hV; go_simp <;> rfl)
  simp only [Act.put, List.setIfInBounds_toArray, List.set_cons_zero, List.set_cons_succ]
  refine inv_take (v := ?v7) [7, 8, 10, 13, 14] 6 hI rfl (by kernel_rfl) (by kernel_rfl) (by kernel_rfl) (by kernel_rfl) (by kernel_rfl) (fun _ _ _ h => h) (by kernel_rfl) (fun V hV => ?hy7) ?go7
  case hy7 => (obtain ⟨i1, i2⟩ := hV; go_simp <;> rfl)
  simp only [Act.put, List.setIfInBounds_toArray, List.set_cons_zero, List.set_cons_succ]
  refine inv_take (v := ?v8) [8, 10, 13, 14] 7 hI rfl (by kernel_rfl) (by kernel_rfl) (by kernel_rfl) (by kernel_rfl) (by kernel_rfl) (fun _ _ _ h => h) (by kernel_rfl) (fun V hV => ?hy8) ?go8
  case hy8 => (obtain ⟨i1, i2⟩ := hV; go_simp <;> rfl)
  simp only [Act.put, List.setIfInBounds_toArray, List.set_cons_zero, List.set_cons_succ]
  refine inv_take (v := ?v9) [10, 13, 14] 8 hI rfl (by kernel_rfl) (by kernel_rfl) (by kernel_rfl) (by kernel_rfl) (by kernel_rfl) (fun _ _ _ h => h) (by kernel_rfl) (fun V hV => ?hy9) ?go9
  case hy9 => (obtain ⟨i1, i2⟩ := hV; go_simp <;> rfl)
  simp only [Act.put, List.setIfInBounds_toArray, List.set_cons_zero, List.set_cons_succ]
  refine inv_take (v := ?v10) [10, 13, 14] 9 hI rfl (by kernel_rfl) (by kernel_rfl) (by kernel_rfl) (by kernel_rfl) (by kernel_rfl) (fun _ _ _ h => h) (by kernel_rfl) (fun V hV => ?hy10) ?go10
  case hy10 => (obtain ⟨i1, i2⟩ := hV; go_simp <;> rfl)
  simp only [Act.put, List.setIfInBounds_toArray, List.set_cons_zero, List.set_cons_succ]
  refine inv_take (v := ?v11) [13, 14] 10 hI rfl (by kernel_rfl) (by kernel_rfl) (by kernel_rfl) (by kernel_rfl) (by kernel_rfl) (fun _ _ _ h => h) (by kernel_rfl) (fun V hV => ?hy11) ?go11
  case hy11 => (obtain ⟨i1, i2⟩ := hV; go_simp <;> rfl)
  simp only [Act.put, List.setIfInBounds_toArray, List.set_cons_zero, List.set_cons_succ]
  refine inv_take (v := ?v12) [12, 13, 14] 11 hI rfl (by kernel_rfl) (by kernel_rfl) (by kernel_rfl) (by kernel_rfl) (by kernel_rfl) (fun _ _ _ h => h) (by kernel_rfl) (fun V hV => ?hy12) ?go12
  case hy12 => (obtain ⟨i1, i2⟩ := hV; go_simp <;> rfl)
  simp only [Act.put, List.setIfInBounds_toArray, List.set_cons_zero, List.set_cons_succ]
  obtain ⟨i0, hfi, hp0, hp1, hp2⟩ := info_parts Try.infoInt
  refine inv_list 12 (by kernel_rfl) rfl ?_
  clear hI
  go_wp2_with fail
  have hI : (fun V : World => V.cell? ⟨g, 4, none⟩ = some (.map (some bo)) ∧ (Instr.lookup 85 (.map (some bo)) (.int .i64 s) false).run Try.prog V = .ok (.slice a n cap) V) (V0.alloc (.cells #[.int .i64 x] 3)) := ⟨(HV.out.below (ba (Below.refl _ _))).c4, HLO.out _ (HV.out.ords.below (ba (Below.refl _ _)))⟩
  refine then_n ⟨hI, ?_⟩
  refine inv_list 13 (by kernel_rfl) rfl ?_
  refine wpList_append_rw (V0.alloc (.cells #[.int .i64 x] 3)) X (by kernel_rfl) (.tmp 19) (.tmp 21) 28 rfl 3 i0 (.int .i64 0) 1 8 Try.underlying28 hfi hp0 hp1 hp2 rfl (by decide) a n cap (cells l) rfl (rwV.below (ba (Below.refl _ _))) ⟨V0.heap.size, 0, none⟩ 1 1 (cells [x]) rfl (by omega) rfl (fun j u hu => by obtain ⟨hj, rfl⟩ := cells_get hu; simp at hj; subst hj; simp [Addr.add]) (cells_one _) (by unfold maxLen; omega) (by omega) ?_
  intro a8 c8 w8 hrw8 hk8
  rw [cells_app] at hrw8
  obtain ⟨b8, o8, rfl, hx8, hb8, hr8⟩ := rw_some hrw8 (by omega)
  have K8 : Keep X V0 w8 := (Keep.of_below (F := X) (ba (Below.refl _ _))).trans hk8 (fun j _ h => h)
  have hXbo : ¬ X bo := fun f => (hX bo f).2.2.2.1 rfl
  have im8 : IM w8 bo (kv OE.s OE.val O) := HV.out.ords.keep K8 hXbo
  have c4 : w8.cell? ⟨g, 4, none⟩ = some (.map (some bo)) := (K8.cell 4 ltV (fun f => (hX g f).2.1 rfl)).trans HV.out.c4
  have hI8 : (fun V : World => V.cell? ⟨g, 4, none⟩ = some (.map (some bo)) ∧ (Instr.lookup 85 (.map (some bo)) (.int .i64 s) false).run Try.prog V = .ok (.slice a n cap) V) w8 := ⟨c4, HLO.out _ im8⟩
  refine then_n ⟨hI8, ?_⟩
  simp only [Act.put, List.setIfInBounds_toArray, List.set_cons_zero, List.set_cons_succ]
  obtain ⟨w9, hrun9, im9, ht9⟩ := im8.store Try.underlying85 (by rw [kv_len]; unfold maxLen; omega) hsi (.slice (some ⟨b8, o8, none⟩) (n + 1) c8)
  clear hI hI8
  refine inv_write 14 (by kernel_rfl) (by kernel_rfl) rfl ?_
  have HS8 := K8.size
  obtain ⟨p, hp⟩ : ∃ p : OE, p = ⟨s, l ++ [x], b8, o8, c8⟩ := ⟨_, rfl⟩
  have hpv : Value.slice (some ⟨b8, o8, none⟩) (n + 1) c8 = OE.val p := by rw [hp]; unfold OE.val; simp [HN.out]
  have hps : s = OE.s p := by rw [hp]
  have im9' : IM w9 bo (kv OE.s OE.val (putK OE.s p O)) := by
    rw [← kv_put, ← hpv, ← hps]; exact im9
  have kt := turned_keep ht9
  have hb8o : b8 ≠ bo := fun e => by
    rcases hx8 with hx8 | hx8
    · exact (hX b8 hx8).2.2.2.1 e
    · have := HV.out.ords.lt; simp at hx8; omega
  have hr9 := hr8.keep kt (fun j hj e => hb8o (hj.symm.trans e))
  have hs9 := turned_size ht9
  have K9 : Keep (fun j => X j ∨ j = bo) V0 w9 := (K8.mono (G := fun j => X j ∨ j = bo) (fun j _ h => .inl h)).trans kt (fun j _ h => .inr h)
  have hpb : p.b = b8 := by rw [hp]
  have CN := HV.out.neword (s := s) (O' := putK OE.s p O) (F := fun j => X j ∨ j = bo) (w' := w9) K9 (fun j hj => by
      rcases hj with hj | rfl
      · obtain ⟨a1, a2, a3, a4, a5⟩ := hX j hj
        exact ⟨a1, a2, a3, a5⟩
      · exact ⟨HV.out.mg.2.2, HV.out.ne.2.1, Ne.symm HV.out.ne.2.2, fun q hq _ => (HV.out.rows q hq).2.2.2.2⟩) im9' (rise_put HV.out.riseO) (fun q hq => by
      rcases mem_putK.1 hq with rfl | ⟨h1, h2⟩
      · refine .inr ⟨hps.symm, ?_, ?_⟩
        · rw [hp]
          simp only
          have : (l ++ [x]).length = n + 1 := by simp [HN.out]
          rw [this]
          exact hr9
        · rw [hpb]
          rcases hx8 with hx8 | hx8
          · obtain ⟨a1, a2, a3, a4, a5⟩ := hX b8 hx8
            exact .inl ⟨a1, a2, a3, a4, a5⟩
          · refine .inr ⟨by simp at hx8; omega, by rw [hs9]; exact hb8⟩
      · exact .inl ⟨h1, fun e => h2 (e.trans hps)⟩)
  have KN : Keep M w w9 := Keep.pre hBd (K9.mono (fun j _ h => by
      rcases h with h | rfl
      · exact (hX j h).1
      · exact HV.out.mg.2.2))
  have HP : Hid (p.s = s ∧ p.l = l ++ [x]) := ⟨hps.symm, by rw [hp]⟩
  clear im8 im9 im9' hr8 hr9 kt hrw8 hk8 K8 K9 hp hpb hpv hps
  go_wp2_with fail
  refine then_n ?_
  refine any_done (by kernel_rfl) ?_
  have c2 := CN.c2
  have f2 := CN.fz 2
  have CC1 := CN.clock (k + 1)
  have hw2 := HK.out
  clear hrun9 ht9 c4
  go_wp2_with fail
  go_ret
  refine ⟨rfl, KN.setCell (p := ⟨g, 2, none⟩) (.inl HV.out.mg.1) _, p, HP.out.1, HP.out.2, ?_⟩
  rw [← HSZ.out, show (w9.setCell ⟨g, 2, none⟩ (.int .i64 (k + 1))).heap.size = w9.heap.size by simp]
  exact CC1
/-- What a set's orders are without a line. -/
def leaveO (p : OE) (i : Nat) (O : List OE) : List OE := if p.l.length = 1 then delK OE.s p.s O else putK OE.s ⟨p.s, p.l.eraseIdx i, p.b, p.o, p.cap⟩ O
theorem CC.leave_any (h : CW w g be bo M D S W k R O) (x : Int) (hO : O.length ≤ 1000000) {p : OE} {i : Nat} (hp : getK OE.s (setI S x) O = some p) (hL : p.l.length ≤ 1000000) (hx : p.l[i]? = some x) (hi : ∀ j, j < i → p.l[j]? ≠ some x) :
    Calls Try.prog 46 #[.pointer (some ⟨g, 0, none⟩), .int .i64 x] w fun e w' => e = .returned (.tuple #[]) ∧ Keep M w w' ∧ w'.heap.size = w.heap.size ∧ CW w' g be bo M D S W k R (leaveO p i O) := by
  have H : Hid (CW w g be bo M D S W k R O) := h
  obtain ⟨hpO, hps⟩ := getK_some hp
  have hsi := (setI_in h x).1
  have hlo : ∀ V, IM V bo (kv OE.s OE.val O) → (Instr.lookup 85 (.map (some bo)) (.int .i64 (setI S x)) false).run Try.prog V = .ok p.val V := fun V hV => by
    have := im_lookO hV hsi
    rw [this]
    unfold ordAt
    rw [hp]
  have HPX : Hid (p.s = setI S x) := hps
  rw [← hps] at hlo hsi
  obtain ⟨hrw, hMb, hbg, hbbe, hbbo⟩ := h.rows p hpO
  have hil : i < p.l.length := (List.getElem?_eq_some_iff.1 hx).1
  obtain ⟨s, l, pb, po, cap⟩ := p
  simp only at hrw hMb hbg hbbe hbbo hil hL hx hi hsi hlo HPX
  have HX : Hid (l[i]? = some x) := hx
  have HI : Hid (∀ j, j < i → l[j]? ≠ some x) := hi
  unfold OE.val at hlo
  simp only at hlo
  have HPO : Hid ((⟨s, l, pb, po, cap⟩ : OE) ∈ O) := hpO
  obtain ⟨n, hn⟩ : ∃ n, l.length = n := ⟨_, rfl⟩
  rw [hn] at hrw hil hL hlo
  have HN : Hid (l.length = n) := hn
  have c4 := h.c4
  have lt := h.lt
  have hle := hrw.le
  have hm := hrw.max
  have hlw := hlo w h.ords
  clear hn h hx hi hp hpO hps
  unfold maxLen at hm
  by_cases h1 : n = 1
  · obtain ⟨w9, hrun9, im9, ht9⟩ := H.out.ords.drop Try.underlying85 hsi 0
    have hrun := fun ty => (H.out.ords.drop Try.underlying85 hsi ty)
    rw [kv_del] at im9
    subst h1
    have hO' : leaveO ⟨s, l, pb, po, cap⟩ i O = delK OE.s s O := by unfold leaveO; rw [if_pos HN.out]
    rw [hO']
    go_enter Try.func46, Try.ntmps46
    go_wp2_with (go_at_call 47; refine (CC.setOf_any H.out x).mono ?_; rintro e w1 ⟨rfl, rfl⟩; rw [← HPX.out])
    have hs9 := turned_size ht9
    have hM : (fun j => M j ∨ (w.heap.size ≤ j ∧ j < w9.heap.size)) = M := by
      funext j
      apply propext
      constructor
      · rintro (hj | hj)
        · exact hj
        · omega
      · exact .inl
    have CN := H.out.neword (s := s) (O' := delK OE.s s O) (F := fun j => j = bo) (turned_keep ht9) (fun j hj => by
      subst hj
      exact ⟨H.out.mg.2.2, H.out.ne.2.1, Ne.symm H.out.ne.2.2, fun q hq _ => (H.out.rows q hq).2.2.2.2⟩) im9 (rise_del H.out.riseO) (fun q hq => .inl (mem_delK.1 hq))
    rw [hM] at CN
    exact bodyPost_ret (v := .tuple #[]) (by simp [results, Try.results46, go_sem]) rfl ⟨rfl, (turned_keep ht9).mono (fun j _ hj => hj ▸ H.out.mg.2.2), hs9, CN⟩
  · have hO' : leaveO ⟨s, l, pb, po, cap⟩ i O = putK OE.s ⟨s, l.eraseIdx i, pb, po, cap⟩ O := by unfold leaveO; rw [if_neg (by rw [HN.out]; exact h1)]
    rw [hO']
    have hd1 : ((n : Int) == 1) = false := by simp; omega
    have HB : Hid (¬ n = 1) := h1
    clear h1
    have hwr : IntKind.i64.wrap ((i : Int) + 1) = (i : Int) + 1 := (IntWalk.i64_left _).trans (IntWalk.wrap64_in _ (by omega))
    go_enter Try.func46, Try.ntmps46
    go_upto_region 5 with (first
      | (go_at_call 47; refine (CC.setOf_any H.out x).mono ?_; rintro e w1 ⟨rfl, rfl⟩; rw [← HPX.out])
      | (go_at_call 60; refine (index_at hrw HX.out HI.out).mono ?_; rintro e w1 ⟨rfl, rfl⟩))
    refine wp_region_orders 11 rfl (by kernel_rfl) ?_
    have hBd : Below w.heap.size w w.drew := (Below.refl _ _).drew
    have rwV := hrw.below hBd
    have HV : Hid (CW w.drew g be bo M D S W k R O) := H.out.below hBd
    have hsz : w.drew.heap.size = w.heap.size := rfl
    have HSZ : Hid _ := hsz
    have ltV : g < w.drew.heap.size := lt
    clear hlo hrw c4 lt hsz hlw
    generalize w.drew = V0 at *
    have hI : (fun V : World => V.cell? ⟨g, 4, none⟩ = some (.map (some bo))) V0 := HV.out.c4
    refine any_inv (fun V : World => V.cell? ⟨g, 4, none⟩ = some (.map (some bo))) [10] hI ?_
    refine inv_take (v := ?v13) [1, 2, 3, 10] 0 hI rfl (by kernel_rfl) (by kernel_rfl) (by kernel_rfl) (by kernel_rfl) (by kernel_rfl) (fun _ _ _ h => h) (by kernel_rfl) (fun V hV => ?hy13) ?go13
    case hy13 => (have i1 := hV; go_simp <;> rfl)
    simp only [Act.put, List.setIfInBounds_toArray, List.set_cons_zero, List.set_cons_succ]
    refine inv_take (v := ?v14) [2, 3, 10] 1 hI rfl (by kernel_rfl) (by kernel_rfl) (by kernel_rfl) (by kernel_rfl) (by kernel_rfl) (fun _ _ _ h => h) (by kernel_rfl) (fun V hV => ?hy14) ?go14
    case hy14 => (have i1 := hV; go_simp <;> rfl)
    simp only [Act.put, List.setIfInBounds_toArray, List.set_cons_zero, List.set_cons_succ]
    refine inv_take (v := ?v15) [3, 10] 2 hI rfl (by kernel_rfl) (by kernel_rfl) (by kernel_rfl) (by kernel_rfl) (by kernel_rfl) (fun _ _ _ h => h) (by kernel_rfl) (fun V hV => ?hy15) ?go15
    case hy15 => (have i1 := hV; go_simp <;> rfl)
    simp only [Act.put, List.setIfInBounds_toArray, List.set_cons_zero, List.set_cons_succ]
    refine inv_take (v := ?v16) [10] 3 hI rfl (by kernel_rfl) (by kernel_rfl) (by kernel_rfl) (by kernel_rfl) (by kernel_rfl) (fun _ _ _ h => h) (by kernel_rfl) (fun V hV => ?hy16) ?go16
    case hy16 => (have i1 := hV; go_simp <;> rfl)
    simp only [Act.put, List.setIfInBounds_toArray, List.set_cons_zero, List.set_cons_succ]
    refine inv_take (v := ?v17) [10] 4 hI rfl (by kernel_rfl) (by kernel_rfl) (by kernel_rfl) (by kernel_rfl) (by kernel_rfl) (fun _ _ _ h => h) (by kernel_rfl) (fun V hV => ?hy17) ?go17
    case hy17 => (have i1 := hV; go_simp <;> rfl)
    simp only [Act.put, List.setIfInBounds_toArray, List.set_cons_zero, List.set_cons_succ]
    refine inv_take (v := ?v18) [9, 10] 5 hI rfl (by kernel_rfl) (by kernel_rfl) (by kernel_rfl) (by kernel_rfl) (by kernel_rfl) (fun _ _ _ h => h) (by kernel_rfl) (fun V hV => ?hy18) ?go18
    case hy18 => (have i1 := hV; go_simp <;> rfl)
    simp only [Act.put, List.setIfInBounds_toArray, List.set_cons_zero, List.set_cons_succ]
    refine inv_take (v := ?v19) [9, 10] 6 hI rfl (by kernel_rfl) (by kernel_rfl) (by kernel_rfl) (by kernel_rfl) (by kernel_rfl) (fun _ _ _ h => h) (by kernel_rfl) (fun V hV => ?hy19) ?go19
    case hy19 => (have i1 := hV; go_simp <;> rfl)
    simp only [Act.put, List.setIfInBounds_toArray, List.set_cons_zero, List.set_cons_succ]
    refine inv_take (v := ?v20) [8, 9, 10] 7 hI rfl (by kernel_rfl) (by kernel_rfl) (by kernel_rfl) (by kernel_rfl) (by kernel_rfl) (fun _ _ _ h => h) (by kernel_rfl) (fun V hV => ?hy20) ?go20
    case hy20 => (have i1 := hV; go_simp <;> rfl)
    simp only [Act.put, List.setIfInBounds_toArray, List.set_cons_zero, List.set_cons_succ]
    refine inv_take (v := ?v21) [9, 10] 8 hI rfl (by kernel_rfl) (by kernel_rfl) (by kernel_rfl) (by kernel_rfl) (by kernel_rfl) (fun _ _ _ h => h) (by kernel_rfl) (fun V hV => ?hy21) ?go21
    case hy21 => (have i1 := hV; go_simp <;> rfl)
    simp only [Act.put, List.setIfInBounds_toArray, List.set_cons_zero, List.set_cons_succ]
    refine inv_list 9 (by kernel_rfl) rfl ?_
    go_wp2_with (go_at_call 61; refine (deleteI rwV hil rfl).mono ?_; rintro e w8 ⟨rfl, rw8, k8, s8⟩)
    have im8 : IM w8 bo (kv OE.s OE.val O) := HV.out.ords.keep k8 (fun e => hbbo e.symm)
    have c4 : w8.cell? ⟨g, 4, none⟩ = some (.map (some bo)) := (k8.cell 4 ltV (fun e => hbg e.symm)).trans HV.out.c4
    refine then_n ⟨c4, ?_⟩
    obtain ⟨w9, hrun9, im9, ht9⟩ := im8.store Try.underlying85 (by rw [kv_len]; unfold maxLen; omega) hsi (.slice (some ⟨pb, po, none⟩) (n - 1) cap)
    clear hI
    refine inv_write 10 (by kernel_rfl) (by kernel_rfl) rfl ?_
    obtain ⟨p, hp⟩ : ∃ p : OE, p = ⟨s, l.eraseIdx i, pb, po, cap⟩ := ⟨_, rfl⟩
    have hel : (l.eraseIdx i).length = n - 1 := by rw [List.length_eraseIdx_of_lt (by rw [HN.out]; exact hil), HN.out]
    have hpv : Value.slice (some ⟨pb, po, none⟩) (n - 1) cap = OE.val p := by rw [hp]; unfold OE.val; simp only; rw [hel]
    have hps : s = OE.s p := by rw [hp]
    have hpb : p.b = pb := by rw [hp]
    have im9' : IM w9 bo (kv OE.s OE.val (putK OE.s p O)) := by
      rw [← kv_put, ← hpv, ← hps]; exact im9
    have kt := turned_keep ht9
    have hr9 := rw8.keep kt (fun j hj e => hbbo (hj.symm.trans e))
    have hs9 := turned_size ht9
    have K9 : Keep (fun j => j = pb ∨ j = bo) V0 w9 := (k8.mono (G := fun j => j = pb ∨ j = bo) (fun j _ h => .inl h)).trans kt (fun j _ h => .inr h)
    have hap : ∀ q ∈ O, q.s ≠ s → q.b ≠ pb := fun q hq hs => HV.out.ap q hq _ HPO.out hs
    have CN := HV.out.neword (s := s) (O' := putK OE.s p O) (F := fun j => j = pb ∨ j = bo) (w' := w9) K9 (fun j hj => by
        rcases hj with rfl | rfl
        · exact ⟨hMb, hbg, hbbe, hap⟩
        · exact ⟨HV.out.mg.2.2, HV.out.ne.2.1, Ne.symm HV.out.ne.2.2, fun q hq _ => (HV.out.rows q hq).2.2.2.2⟩) im9' (rise_put HV.out.riseO) (fun q hq => by
        rcases mem_putK.1 hq with rfl | ⟨h1, h2⟩
        · refine .inr ⟨hps.symm, ?_, .inl ?_⟩
          · rw [hp]
            simp only
            rw [hel]
            exact hr9
          · rw [hpb]
            exact ⟨hMb, hbg, hbbe, hbbo, hap⟩
        · exact .inl ⟨h1, fun e => h2 (e.trans hps)⟩)
    have hM : (fun j => M j ∨ (V0.heap.size ≤ j ∧ j < w9.heap.size)) = M := by
      funext j
      apply propext
      constructor
      · rintro (hj | hj)
        · exact hj
        · omega
      · exact .inl
    rw [hM, hp] at CN
    have KN : Keep M w w9 := Keep.pre hBd (K9.mono (fun j _ h => by
        rcases h with rfl | rfl
        · exact hMb
        · exact HV.out.mg.2.2))
    have hsz9 : Hid (w9.heap.size = w.heap.size) := hs9.trans (s8.trans HSZ.out)
    clear im8 im9 im9' hr9 kt rw8 k8 K9 hp hpb hpv hps hap hM s8 hs9 hel
    go_wp2_with fail
    refine then_n ?_
    refine any_done (by kernel_rfl) ?_
    clear hrun9 ht9 c4
    go_wp2_with fail
    exact bodyPost_end (results_none rfl _ _ _) rfl ⟨rfl, KN, hsz9.out, CN⟩
end
end Go.Proofs.Ytfobgkkmbacfjaa
