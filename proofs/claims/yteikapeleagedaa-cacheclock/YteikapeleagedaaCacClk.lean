/- The walk of CacheClock: it answers true and writes nothing that was there. No condition but that the argument is such as can come in. -/
import Derived.Test.YteikapeleagedaaCacMath
namespace Go.Proofs.Yteikapeleagedaa
open Go.RowKit Go.Maps
set_option linter.unusedVariables false
set_option maxRecDepth 20000

/-- Six lines in two sets of three ways: none is ever full. -/
theorem six_full {L : List En} {l : Int} (hr : RiseK nOf L) (h6 : ∀ e ∈ L, 0 ≤ e.n ∧ e.n < 6) (hl : 0 ≤ l ∧ l < 6) : fullL 2 3 L l = false := by
  unfold fullL
  cases hh : hasL L l with
  | true => rfl
  | false =>
    have hno := hasL_no hh
    have hr2 : RiseK nOf (inSet 2 L (setI 2 l)) := List.Pairwise.sublist List.filter_sublist hr
    have hm : ∀ e ∈ inSet 2 L (setI 2 l), 0 ≤ e.n ∧ e.n < 6 ∧ e.n ≠ l ∧ e.n % 2 = l % 2 := fun e he => by
      obtain ⟨h1, h2⟩ := List.mem_filter.1 he
      have h3 := of_decide_eq_true h2
      have h4 := h6 e h1
      unfold setI at h3
      rw [if_neg (by omega), if_neg (by omega), Int.tmod_eq_emod_of_nonneg h4.1, Int.tmod_eq_emod_of_nonneg hl.1] at h3
      exact ⟨h4.1, h4.2, hno e h1, h3⟩
    generalize inSet 2 L (setI 2 l) = T at *
    match T, hr2, hm with
    | [], _, _ => simp
    | [_], _, _ => simp
    | [_, _], _, _ => simp
    | a :: b :: c :: r, hr2, hm =>
      exfalso
      have h1 := hm a (by simp)
      have h2 := hm b (by simp)
      have h3 := hm c (by simp)
      have h4 : a.n < b.n := List.rel_of_pairwise_cons hr2 (by simp)
      have h5 : b.n < c.n := List.rel_of_pairwise_cons (List.Pairwise.of_cons hr2) (by simp)
      omega
set_option maxHeartbeats 1000000 in
theorem cacheClock_walk (a : Option Addr) (n1 c1 : Nat) (l1 : List Int) (w : World) (h1 : Sl w a n1 c1 l1) :
    Calls Try.prog 7 #[.slice a n1 c1] w fun e w' => e = .returned (.bool true) ∧ Below w.heap.size w w' := by
  have hN := co_new (X := fun _ => False) 2 3 (⟨by decide, by decide⟩ : In64 2) (Below.refl w.heap.size w) (fun _ h => h.elim)
  rw [show max (2 : Int) 1 = 2 by omega, show max (3 : Int) 1 = 3 by omega] at hN
  go_enter Try.func7, Try.ntmps7
  go_wp2_with (go_at_call 9; refine hN.mono ?_; rintro e w1 ⟨g, rfl, b1, C1⟩)
  have hle := h1.le
  have hmx := h1.max
  unfold maxLen at hmx
  clear hN
  go_loopw [4, 5] (fun vk vi wr => ∃ (i : Nat) (k : Int) (L : List En), vi = .int .i64 (i : Int) ∧ vk = .int .i64 k ∧ i ≤ 30 ∧ 0 ≤ k ∧ k ≤ i ∧ CO w wr g (fun _ => False) 2 3 k L ∧ ∀ e ∈ L, e.n < 6) (fun _ vi _ => 30 - (intOf vi).toNat)
  case atStart => exact ⟨0, 0, [], rfl, rfl, by omega, by omega, by omega, C1, fun e h => by cases h⟩
  case round =>
    clear C1 b1
    obtain ⟨i, k, L, rfl, rfl, hi, hk0, hki, C, h6⟩ := hrel
    by_cases hlt : (i : Int) < n1 ∧ i < 30
    · obtain ⟨hlt1, hlt2⟩ := hlt
      obtain ⟨b, o, rfl, hblt, hcell⟩ := h1.at (k := i) (by omega)
      have hc := (C.bel.cell (p := ⟨b, o + i, none⟩) hblt).trans hcell
      generalize l1[i]?.getD 0 = v at *
      obtain ⟨l, hl, l0, l5⟩ : ∃ l, wrap64 (v.tdiv 4) % 6 = l ∧ 0 ≤ l ∧ l < 6 := ⟨_, rfl, by omega, by omega⟩
      obtain ⟨d, hd, d0, d3⟩ : ∃ d, v % 4 = d ∧ 0 ≤ d ∧ d < 4 := ⟨_, rfl, by omega, by omega⟩
      have HL : Hid (wrap64 (v.tdiv 4) % 6 = l) := hl
      have HD : Hid (v % 4 = d) := hd
      have hn : In64 l := ⟨by omega, by omega⟩
      clear hl hd
      have F := co_find C hn
      obtain ⟨x, hx⟩ : ∃ x, entL L l = x := ⟨_, rfl⟩
      obtain ⟨ok, hok⟩ : ∃ ok, hasL L l = ok := ⟨_, rfl⟩
      have HX : Hid (entL L l = x) := hx
      have HO : Hid (hasL L l = ok) := hok
      rw [hx, hok] at F
      clear hx hok hcell
      go_upto_region 10 with (first
        | (go_at_call 13; refine F.mono ?_; rintro e w2 ⟨a2, c2, rfl, own2, b2⟩)
        | (go_at_call 8; refine (within_any _ _ _ (by omega) (by omega)).mono ?_; rintro e wx ⟨rfl, rfl⟩; rw [HL.out]))
      have E3 := Eb.made w2 x (.slice a2 x.z.length c2)
      have C3 : CO w (w2.alloc (.cells #[.int .i64 x.f, .int .i64 x.b, .int .i64 x.n, .int .i64 x.u, .bool x.q, .slice a2 x.z.length c2] 33)) g (fun j => j = w2.heap.size) 2 3 k L := C.grow (next b2 (ba (Below.refl _ _))) (fun j hj => by have := b2.size; simp; omega)
      have hc3 := (C3.bel.cell (p := ⟨b, o + i, none⟩) hblt).trans ((C.bel.cell (p := ⟨b, o + i, none⟩) hblt).symm.trans hc)
      have hr := C.rise
      have HF : Hid (fullL 2 3 L l = false) := six_full hr (fun e he => ⟨(C.inn e he).2, h6 e he⟩) ⟨l0, l5⟩
      clear F own2 b2 hc C
      generalize w2.heap.size = gx at *
      generalize w2.alloc _ = W3 at *
      obtain ⟨q0, q1, q2, q3, q4, q5⟩ := E3.lit
      clear q0 q1 q2 q4 q5
      have hd : d = 0 ∨ d = 1 ∨ d = 2 ∨ d = 3 := by omega
      clear d0 d3
      rcases hd with rfl | rfl | rfl | rfl
      · go_upto_region 20 with (first
          | (go_at_call 11; refine (co_fresh C3 (by omega) ⟨i, i, l, 0, false, []⟩ a4 0 c4 _ b4 own4 (by omega) rfl (by omega) hn).mono ?_; rw [putR_ok (x := ⟨i, i, l, 0, false, []⟩) l0 HF.out]; rintro e w6 ⟨rfl, k6, C6⟩)
          | (go_at_call 12; refine (enew_any l i i false none [] 0 0 _ (sl_nil _) (by omega)).mono ?_; rintro e w4 ⟨a4, c4, rfl, own4, b4⟩)
          | (go_at_call 8; refine (within_any _ _ _ (by omega) (by omega)).mono ?_; rintro e wx ⟨rfl, rfl⟩; rw [HD.out]))
        have E6 := (E3.next b4).keep k6 (fun h => h.2 rfl)
        have q6 := E6.lit.2.2.2.1
        rw [HX.out, HO.out] at C6
        clear own4 b4 k6 C3 q3 E3 hc3
        obtain ⟨y, hy⟩ : ∃ y : En, y = ⟨i, i, l, if ok = true then x.u else k + 1, false, []⟩ := ⟨_, rfl⟩
        have hyn : y.n = l := by rw [hy]
        rw [← hy] at C6
        have C7 : CO w w6 g (fun _ => False) 2 3 (if ok = true then k else k + 1) (putK nOf y L) := C6.less (fun j h => h.elim)
        have hy6 : ∀ e ∈ putK nOf y L, e.n < 6 := fun e he => by
          rcases mem_putK.1 he with rfl | ⟨he, _⟩
          · omega
          · exact h6 e he
        have F7 := co_find C7 hn
        rw [ent_put hr hyn] at F7
        have HYU : Hid (y.u = if ok = true then x.u else k + 1) := by rw [hy]; exact rfl
        clear hy C6
        have hwk : wrap64 (k + 1) = k + 1 := IntWalk.wrap64_in _ (by omega)
        cases ok with
        | true =>
          rw [if_pos rfl] at C7 HYU
          have hu : (y.u != x.u) = false := by simp [HYU.out]
          go_wp2_with (go_at_call 13; refine F7.mono ?_; rintro e w8 ⟨a8, c8, rfl, own8, b8⟩)
          clear F7 own8
          go_roundw
          case rel => exact ⟨i + 1, k, _, by go_num, rfl, by omega, by omega, by omega, C7.below (next b8 (ba (Below.refl _ _))), hy6⟩
          case measure => simp [intOf]; omega
        | false =>
          rw [if_neg (by simp)] at C7 HYU
          have hu : (y.u != k + 1) = false := by simp [HYU.out]
          go_wp2_with (go_at_call 13; refine F7.mono ?_; rintro e w8 ⟨a8, c8, rfl, own8, b8⟩)
          clear F7 own8
          go_roundw
          case rel => exact ⟨i + 1, k + 1, _, by go_num, rfl, by omega, by omega, by omega, C7.below (next b8 (ba (Below.refl _ _))), hy6⟩
          case measure => simp [intOf]; omega
      · have T3 := co_touch C3 (by omega) hn
        rw [HO.out] at T3
        unfold touchR at T3
        rw [HX.out, HO.out] at T3
        have hwk : wrap64 (k + 1) = k + 1 := IntWalk.wrap64_in _ (by omega)
        cases ok with
        | true =>
          rw [if_pos rfl] at T3
          obtain ⟨y, hy⟩ : ∃ y : En, y = ⟨x.f, x.b, x.n, k + 1, x.q, x.z⟩ := ⟨_, rfl⟩
          have hyn : Hid (y.n = l) := by show _ = _; rw [hy, ← HX.out]; exact (hasL_mem HO.out).2
          have hyu : y.u = k + 1 := by rw [hy]
          rw [← hy] at T3
          simp only at T3
          have HYN : Hid (∀ e ∈ putK nOf y L, e.n < 6) := fun e he => by
            rcases mem_putK.1 he with rfl | ⟨he, _⟩
            · rw [hyn.out]; omega
            · exact h6 e he
          have hu : (y.u != k + 1) = false := by simp [hyu]
          have EF : ∀ w6, CO w w6 g (fun j => j = gx) 2 3 (k + 1) (putK nOf y L) → _ := fun w6 h => co_find h hn
          rw [ent_put hr hyn.out] at EF
          clear hy hyu
          go_wp2_with (first
            | (go_at_call 13; refine (EF _ C6).mono ?_; rintro e w8 ⟨a8, c8, rfl, own8, b8⟩)
            | (go_at_call 20; refine T3.mono ?_; rintro e w6 ⟨rfl, k6, C6⟩)
            | (go_at_call 8; refine (within_any _ _ _ (by omega) (by omega)).mono ?_; rintro e wx ⟨rfl, rfl⟩; rw [HD.out]))
          go_roundw
          case rel => exact ⟨i + 1, k + 1, _, by go_num, rfl, by omega, by omega, by omega, (C6.less (fun j h => h.elim)).below (next b8 (ba (Below.refl _ _))), HYN.out⟩
          case measure => simp [intOf]; omega
        | false =>
          rw [if_neg (by simp)] at T3
          go_wp2_with (first
            | (go_at_call 20; refine T3.mono ?_; rintro e w6 ⟨rfl, k6, C6⟩)
            | (go_at_call 8; refine (within_any _ _ _ (by omega) (by omega)).mono ?_; rintro e wx ⟨rfl, rfl⟩; rw [HD.out]))
          go_roundw
          case rel => exact ⟨i + 1, k, _, by go_num, rfl, by omega, by omega, by omega, C6.less (fun j h => h.elim), h6⟩
          case measure => simp [intOf]; omega
      · cases ok with
        | true =>
          have T3 := co_drop C3 (by omega) hn HO.out
          rw [HX.out] at T3
          go_wp2_with (first
            | (go_at_call 21; refine T3.mono ?_; rintro e w6 ⟨dd, rfl, k6, hdd, C6⟩; obtain ⟨da, dn, dc, rfl, _, _, _⟩ := hdd; have r3 := (E3.keep k6 (fun h => h.2 rfl)).lit.2.2.2.1; have rl := (E3.keep k6 (fun h => h.2 rfl)).lt)
            | (go_at_call 8; refine (within_any _ _ _ (by omega) (by omega)).mono ?_; rintro e wx ⟨rfl, rfl⟩; rw [HD.out]))
          go_roundw
          case rel => exact ⟨i + 1, k, _, by go_num, rfl, by omega, by omega, by omega, (C6.less (fun j h => h.elim)).below (ba (Below.refl _ _)), fun e he => h6 e (mem_delK.1 he).1⟩
          case measure => simp [intOf]; omega
        | false =>
          have T3 := co_drop_no C3 hn HO.out
          go_wp2_with (first
            | (go_at_call 21; refine T3.mono ?_; rintro e w6 ⟨rfl, b6⟩)
            | (go_at_call 8; refine (within_any _ _ _ (by omega) (by omega)).mono ?_; rintro e wx ⟨rfl, rfl⟩; rw [HD.out]))
          go_roundw
          case rel => exact ⟨i + 1, k, _, by go_num, rfl, by omega, by omega, by omega, (C3.less (fun j h => h.elim)).below (next b6 (ba (Below.refl _ _))), h6⟩
          case measure => simp [intOf]; omega
      · have hu : (x.u != x.u) = false := by simp
        go_wp2_with (first
          | (go_at_call 13; refine (co_find (C3.below (next b4 (next b5 b6))) hn).mono ?_; rw [HX.out, HO.out]; rintro e w7 ⟨a7, c7, rfl, own7, b7⟩; have r3 := (E3.next (next b4 (next b5 (next b6 b7)))).lit.2.2.2.1; have rl := (E3.next (next b4 (next b5 (next b6 b7)))).lt)
          | (go_at_call 14; refine (co_lines (C3.below (next b4 b5)) (by omega)).mono ?_; rintro e w6 ⟨v6, rfl, own6, b6⟩)
          | (go_at_call 10; refine (co_full (C3.below b4) hn).mono ?_; rintro e w5 ⟨rfl, b5⟩)
          | (go_at_call 30; refine (co_victim C3 l).mono ?_; rintro e w4 ⟨vv, vok, rfl, hvic, b4⟩)
          | (go_at_call 8; refine (within_any _ _ _ (by omega) (by omega)).mono ?_; rintro e wx ⟨rfl, rfl⟩; rw [HD.out]))
        all_goals exact ⟨⟨i + 1, k, L, by go_num, rfl, by omega, by omega, by omega, (C3.less (fun j h => h.elim)).below (next b4 (next b5 (next b6 (next b7 (ba (Below.refl _ _)))))), h6⟩, by simp [intOf]; omega⟩
    · have B := C.bel
      by_cases h30 : (i : Int) < n1
      · have hi30 : (30 : Int) ≤ (i : Int) := by omega
        clear hlt
        go_wp2_with (go_at_call 16; refine (cwakes_any _).mono ?_; rintro e w3 ⟨rfl, hb3⟩)
        go_ret
        exact ⟨rfl, next B hb3⟩
      · have hin : (n1 : Int) ≤ (i : Int) := by omega
        clear hlt h30
        go_wp2_with (go_at_call 16; refine (cwakes_any _).mono ?_; rintro e w3 ⟨rfl, hb3⟩)
        go_ret
        exact ⟨rfl, next B hb3⟩
end Go.Proofs.Yteikapeleagedaa
