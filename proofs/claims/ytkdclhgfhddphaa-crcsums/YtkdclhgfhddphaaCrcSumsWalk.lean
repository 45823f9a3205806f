/- The walk of CrcSums: it answers true and writes nothing that was there. No condition but that the arguments are ones that can come in. -/
import Derived.Test.YtkdclhgfhddphaaCrcRefs3
namespace Go.Proofs.Ytkdclhgfhddphaa
open Go.RowKit
set_option linter.unusedVariables false

theorem Lent.form {w : World} {base n : Nat} {v : Value} {l : List Int} (h : Lent w base v l) (hn : l.length = n) :
    ∃ g, v = .slice (some ⟨g, 0, none⟩) n (n + 3) ∧ Sl w (some ⟨g, 0, none⟩) (n + 3) (n + 3) (l ++ [85, 85, 85]) ∧ Sl w (some ⟨g, 0, none⟩) n (n + 3) l := by
  subst hn
  obtain ⟨g, hv, ho⟩ := h
  have s := own_at ho (by simp)
  refine ⟨g, hv, s, ?_⟩
  have t := s.take l.length (by omega)
  rwa [List.take_left] at t

set_option maxHeartbeats 4000000 in
set_option maxRecDepth 20000 in
theorem crcSums_walk (a0 : Option Addr) (len0 cap0 : Nat) (l0 : List Int) (bit mask cut : Int) (w : World) (w0 : Sl w a0 len0 cap0 l0) (hm0 : 0 ≤ mask) (hm1 : mask < 65536) :
    Calls Try.prog 5 #[.slice a0 len0 cap0, .int .i64 bit, .int .u16 mask, .int .i64 cut] w fun e w' => e = .returned (.bool true) ∧ Below w.heap.size w w' := by
  have hlen : (l0.take 80).length ≤ 80 := by simp; omega
  generalize hl : l0.take 80 = l at *
  have hb8 : B8 l := by rw [← hl]; exact B8_take w0.b8 80
  obtain ⟨n, hn⟩ : ∃ n, l.length = n := ⟨_, rfl⟩
  have HN : Hid (l.length = n) := hn
  have HS : Hid ((sealI l).length = n + 2) := by show _ = _; simp [sealI, hn]
  have hn80 : n ≤ 80 := by omega
  clear hn
  go_enter Try.func5, Try.ntmps5
  go_upto_region 5 with (first
    | (go_at_call 10; refine (cut_any a0 l0 len0 cap0 80 w w0 (by omega)).mono ?_; rintro e w1 ⟨v, rfl, hown, hb1⟩; rw [hl] at hown; obtain ⟨a1, cap1, rfl, hsl⟩ := hown.sl' HN.out; clear hown; have B1 := hb1; clear hb1)
    | (go_at_call 17; refine (lend_any a1 l n cap1 _ hsl (by omega)).mono ?_; rintro e w2 ⟨v2, rfl, hlent, hb2⟩; obtain ⟨g, rfl, hx3, hx⟩ := hlent.form HN.out; clear hlent; have B2 := nextB B1 hb2; have hsl2 := hsl.below hb2; clear hb2 hsl)
    | (go_at_call 11; refine (sum_any _ l n (n + 3) _ hx).mono ?_; rintro e w3 ⟨rfl, rfl⟩)
    | (go_at_call 18; refine (refSum_any _ l n cap1 _ hsl2).mono ?_; rintro e w3 ⟨rfl, rfl⟩)
    | (go_at_call 14; refine (seal_any _ l n (n + 3) _ hx (by omega)).mono ?_; rintro e w3 ⟨v3, rfl, hown3, hb3⟩; obtain ⟨a3, cap3, rfl, hs3⟩ := hown3.sl' HS.out; clear hown3; have B3 := nextB B2 hb3; have hsl3 := hsl2.below hb3; have hx_3 := hx.below hb3; have hx3_3 := hx3.below hb3; clear hb3 hsl2 hx hx3)
    | (go_at_call 19; refine (refSeal_any _ l n cap1 _ hsl3 (by omega)).mono ?_; rintro e w4 ⟨v4, rfl, hown4, hb4⟩; obtain ⟨a4, cap4, rfl, hs4⟩ := hown4.sl' HS.out; clear hown4; have B4 := nextB B3 hb4; have hsl4 := hsl3.below hb4; have hx_4 := hx_3.below hb4; have hx3_4 := hx3_3.below hb4; have hs3_4 := hs3.below hb4; clear hb4 hsl3 hx_3 hx3_3 hs3)
    | (go_at_call 16; refine (same_any a3 a4 (sealI l) (sealI l) _ _ cap3 cap4 _ hs3_4 hs4).mono ?_; rintro e w5 ⟨rfl, k5, rfl⟩; have B5 := nextB B4 (below_dn _ k5); have hsl5 := hsl4.below (below_dn _ k5); have hx_5 := hx_4.below (below_dn _ k5); have hx3_5 := hx3_4.below (below_dn _ k5); clear hs3_4 hs4 hsl4 hx_4 hx3_4)
    | (go_at_call 20; refine (intact_any a1 l g n cap1 _ hx3_5 hsl5 (by omega)).mono ?_; rintro e w6 ⟨rfl, k6, rfl⟩; have B6 := nextB B5 (below_dn _ k6); have hsl6 := hsl5.below (below_dn _ k6); have hx_6 := hx_5.below (below_dn _ k6); have hx3_6 := hx3_5.below (below_dn _ k6); clear hsl5 hx_5 hx3_5))
  go_upto_if 43 with fail
  go_cut [1] (fun v wx => (∃ bt : Int, v = .int .i64 bt) ∧ Sl wx a1 n cap1 l ∧ Sl wx (some ⟨g, 0, none⟩) n (n + 3) l ∧ Sl wx (some ⟨g, 0, none⟩) (n + 3) (n + 3) (l ++ [85, 85, 85]) ∧ Below w.heap.size w wx)
  case first =>
    by_cases hc : (cut.tmod 3 != 0) = true
    · go_wp2_with (go_at_call 21; refine (within_any bit 700 _ (by omega) (by omega)).mono ?_; rintro e w3 ⟨rfl, rfl⟩)
      go_meet
      case rel => exact ⟨⟨_, rfl⟩, hsl6.same rfl, hx_6.same rfl, hx3_6.same rfl, nextB B4 (below_dn w4 (k5 + k6))⟩
    · have hc' : (cut.tmod 3 != 0) = false := by simpa using hc
      clear hc
      go_wp2
      go_meet
      case rel => exact ⟨⟨_, rfl⟩, hsl6.same rfl, hx_6.same rfl, hx3_6.same rfl, nextB B4 (below_dn w4 (k5 + k6))⟩
  case rest =>
    clear hsl6 hx_6 hx3_6 B6 B5 B4 B3 B2 B1
    obtain ⟨⟨bt, rfl⟩, hsl, hx, hx3, BW⟩ := hcut
    have HP : Hid ((spoilI l bt mask).length = n) := by show _ = _; rw [spoilI_len]; exact HN.out
    have HQ : Hid ((spoilI (sealI l) bt mask).length = n + 2) := by show _ = _; rw [spoilI_len]; exact HS.out
    have hN : (1 : Int) ≤ (n : Int) + 2 + 1 ∧ (n : Int) + 2 + 1 ≤ 1000000 := by omega
    obtain ⟨cu, hcu, hcu2⟩ : ∃ cu : Nat, cut % ((n : Int) + 2 + 1) = (cu : Int) ∧ cu ≤ n + 2 := by
      have h0 := Int.emod_nonneg cut (b := (n : Int) + 2 + 1) (by omega)
      have h1 := Int.emod_lt_of_pos cut (b := (n : Int) + 2 + 1) (by omega)
      exact ⟨(cut % ((n : Int) + 2 + 1)).toNat, by omega, by omega⟩
    have q0 : (0 : Int) ≤ (cu : Int) := by omega
    have q1 : (cu : Int) ≤ (n : Int) + 2 := by omega
    go_upto_region 13 with (first
      | (go_at_call 22; refine (spoil_any _ l n (n + 3) bt mask _ hx (by omega) hm0 hm1).mono ?_; rintro e w2 ⟨v2, rfl, hown2, hb2⟩; obtain ⟨aS, capS, rfl, hsS⟩ := hown2.sl' HP.out; clear hown2; have B2 := nextB BW hb2; have hsl2 := hsl.below hb2; have hx_2 := hx.below hb2; have hx3_2 := hx3.below hb2; clear hb2 hsl hx hx3)
      | (go_at_call 23; have mk := hs8; clear mk; refine (refSpoil_any _ (sealI l) _ _ bt mask _ hs8 (by omega) hm0 hm1).mono ?_; rintro e w9 ⟨v9, rfl, hown9, hb9⟩; obtain ⟨a9, cap9, rfl, hs9⟩ := hown9.sl' HQ.out; clear hown9; have B9 := nextB B8x hb9; have hsl9 := hsl8.below hb9; have hsS9 := hsS8.below hb9; have hsC9 := hsC8.below hb9; clear hb9 hsl8 hsS8 hsC8)
      | (go_at_call 23; refine (refSpoil_any _ l n cap1 bt mask _ hsl2 (by omega) hm0 hm1).mono ?_; rintro e w3 ⟨v3, rfl, hown3, hb3⟩; obtain ⟨a3, cap3, rfl, hs3⟩ := hown3.sl' HP.out; clear hown3; have B3 := nextB B2 hb3; have hsl3 := hsl2.below hb3; have hx3_3 := hx3_2.below hb3; have hsS3 := hsS.below hb3; clear hb3 hsl2 hx_2 hx3_2 hsS)
      | (go_at_call 16; refine (same_any aS a3 _ _ n n capS cap3 _ hsS3 hs3).mono ?_; rintro e w5 ⟨he, k5, rfl⟩; rw [decide_eq_true rfl] at he; subst he; have B5 := nextB B3 (below_dn _ k5); have hsl5 := hsl3.below (below_dn _ k5); have hx3_5 := hx3_3.below (below_dn _ k5); have hsS5 := hsS3.below (below_dn _ k5); clear hs3 hsS3 hsl3 hx3_3)
      | (go_at_call 20; refine (intact_any a1 l g n cap1 _ hx3_5 hsl5 (by omega)).mono ?_; rintro e w6 ⟨rfl, k6, rfl⟩; have B6 := nextB B3 (below_dn w3 (k5 + k6)); have hsl6 : Sl (w3.drewN (k5 + k6)) a1 n cap1 l := hsl5.same rfl; have hsS6 : Sl (w3.drewN (k5 + k6)) aS n capS (spoilI l bt mask) := hsS5.same rfl; clear hsl5 hsS5 hx3_5)
      | (go_at_call 19; have mk := hsC7; clear mk; refine (refSeal_any _ l n cap1 _ hsl7 (by omega)).mono ?_; rintro e w8 ⟨v8, rfl, hown8, hb8'⟩; obtain ⟨a8, cap8, rfl, hs8⟩ := hown8.sl' HS.out; clear hown8; have B8x := nextB B7 hb8'; have hsl8 := hsl7.below hb8'; have hsS8 := hsS7.below hb8'; have hsC8 := hsC7.below hb8'; clear hb8' hsl7 hsS7 hsC7)
      | (go_at_call 19; refine (refSeal_any _ l n cap1 _ hsl6 (by omega)).mono ?_; rintro e w7 ⟨v7, rfl, hown7, hb7⟩; obtain ⟨aC, capC, rfl, hsC⟩ := hown7.sl' HS.out; clear hown7; have B7 := nextB B6 hb7; have hsl7 := hsl6.below hb7; have hsS7 := hsS6.below hb7; have hsC7 := hsC.take cu (by omega); have hcc := hsC.le; clear hb7 hsl6 hsS6 hsC)
      | (go_at_call 21; refine (within_any cut _ _ hN.1 hN.2).mono ?_; rintro e w3 ⟨rfl, rfl⟩))
    have hy : ∃ W, W = w9.alloc (.cells #[.slice a1 n cap1, .slice aS n capS, .slice aC cu capC, .slice a9 (n + 2) cap9] 22) ∧ Below w.heap.size w W ∧ w9.heap.size < W.heap.size ∧ ∀ k, k < 4 → ∃ a nn cp, ∃ y : List Int, W.cell? ⟨w9.heap.size, k, none⟩ = some (.slice a nn cp) ∧ Sl W a nn cp y ∧ nn ≤ 1000 := by
      refine ⟨_, rfl, B9.alloc B9.size _, by simp, ?_⟩
      have al : Below w9.heap.size w9 (w9.alloc (.cells #[.slice a1 n cap1, .slice aS n capS, .slice aC cu capC, .slice a9 (n + 2) cap9] 22)) := (Below.refl _ _).alloc (Nat.le_refl _) _
      have cl : ∀ k, (w9.alloc (.cells #[.slice a1 n cap1, .slice aS n capS, .slice aC cu capC, .slice a9 (n + 2) cap9] 22)).cell? ⟨w9.heap.size, k, none⟩ = #[Value.slice a1 n cap1, .slice aS n capS, .slice aC cu capC, .slice a9 (n + 2) cap9][k]? := fun k => cell_of_row _ _ _ _ 22 (0, 0) (heap_alloc_new w9 _)
      intro k hk
      match k, hk with
      | 0, _ => exact ⟨_, _, _, l, cl 0, hsl9.below al, by omega⟩
      | 1, _ => exact ⟨_, _, _, _, cl 1, hsS9.below al, by omega⟩
      | 2, _ => exact ⟨_, _, _, _, cl 2, hsC9.below al, by omega⟩
      | 3, _ => exact ⟨_, _, _, _, cl 3, hs9.below al, by omega⟩
    obtain ⟨W, hW, BX, hz9, hy⟩ := hy
    rw [← hW]
    generalize w9.heap.size = bb at *
    clear hW B9 B8x B7 B6 B5 B3 B2 BW hsl9 hsS9 hsC9 hs9 hcc hcu q0 q1 hN HP HQ hlen hl HN HS w0
    go_loopw [83] (fun i wr => ∃ k : Nat, k ≤ 4 ∧ i = .int .i64 k ∧ Below W.heap.size W wr) (fun i _ => 4 - (intOf i).toNat)
    case atStart => exact ⟨0, by omega, rfl, Below.refl _ _⟩
    case round =>
      obtain ⟨k, hk, rfl, hbr⟩ := hrel
      by_cases hlt : k < 4
      · obtain ⟨ya, yn, yc, y, ycell, ysl, yn1⟩ := hy k hlt
        have ycell' : wr.cell? ⟨bb, k, none⟩ = some (.slice ya yn yc) := by rw [hbr.cell (p := ⟨bb, k, none⟩) hz9]; exact ycell
        have ysl' := ysl.below hbr
        clear hy ycell ysl
        have q0 : (0 : Int) ≤ (k : Int) := by omega
        have q1 : (k : Int) < 4 := by omega
        go_wp2_with (first
          | (go_at_call 15; refine (open_any _ y _ _ _ ysl' (by omega)).mono ?_; rintro e x1 ⟨v1, rfl, hown1, hc1⟩; obtain ⟨b1, e1, rfl, hp1⟩ := hown1.sl; clear hown1; have ysl2 := ysl'.below hc1)
          | (go_at_call 24; refine (refOpen_any _ y _ _ _ ysl2 (by omega)).mono ?_; rintro e x2 ⟨v2, rfl, hown2, hc2⟩; obtain ⟨b2, e2, rfl, hp2⟩ := hown2.sl; clear hown2; have hp1' := hp1.below hc2)
          | (go_at_call 16; refine (same_any b1 b2 _ _ _ _ e1 e2 _ hp1' hp2).mono ?_; rintro e x3 ⟨he, k5, rfl⟩; rw [decide_eq_true rfl] at he; subst he))
        go_roundw
        case rel => exact ⟨k + 1, by omega, by go_num, nextB (nextB (nextB hbr hc1) hc2) (below_dn _ k5)⟩
        case measure => simp [intOf]; omega
      · go_wp2_with (go_at_call 13; refine (wakes_any _).mono ?_; rintro e x6 ⟨rfl, hb6⟩)
        go_ret
        exact ⟨rfl, nextB (nextB BX hbr) hb6⟩
end Go.Proofs.Ytkdclhgfhddphaa
