/- The walk of CacheLeast: it answers true and writes nothing that was there. No condition but that the arguments are such as can come in. -/
import Derived.Test.YteikapeleagedaaCacLe0
import Derived.Test.YteikapeleagedaaEntC0
namespace Go.Proofs.Yteikapeleagedaa
open Go.RowKit Go.Maps
set_option linter.unusedVariables false
set_option maxRecDepth 20000

set_option maxHeartbeats 1000000 in
theorem cacheLeast_walk (w0 : Int) (a : Option Addr) (n1 c1 : Nat) (l1 : List Int) (w : World) (h1 : Sl w a n1 c1 l1) :
    Calls Try.prog 6 #[.int .i64 w0, .slice a n1 c1] w fun e w' => e = .returned (.bool true) ∧ Below w.heap.size w w' := by
  obtain ⟨p, hp, p0, p2⟩ : ∃ p, w0 % 4 = p ∧ 0 ≤ p ∧ p < 4 := ⟨_, rfl, by omega, by omega⟩
  obtain ⟨W, hW, W1, W4⟩ : ∃ W : Int, 1 + p = W ∧ 1 ≤ W ∧ W ≤ 4 := ⟨_, rfl, by omega, by omega⟩
  have HP : Hid (w0 % 4 = p) := hp
  clear hp
  have hN := co_new (X := fun _ => False) 2 W (⟨by omega, by omega⟩ : In64 2) (Below.refl w.heap.size w) (fun _ h => h.elim)
  rw [show max (2 : Int) 1 = 2 by omega, show max W 1 = W by omega] at hN
  go_enter Try.func6, Try.ntmps6
  go_wp2_with (first
    | (go_at_call 8; refine (within_any _ _ _ (by omega) (by omega)).mono ?_; rintro e wx ⟨rfl, rfl⟩; rw [HP.out])
    | (go_at_call 9; refine hN.mono ?_; rintro e w1 ⟨g, rfl, b1, C1⟩))
  have hz1 := C1.bel.size
  have Z1 : LE w (w1.alloc (.cells #[.slice none 0 0, .slice none 0 0] 62)) g w1.heap.size (fun _ _ => False) W 0 [] (fun _ => []) (fun _ => none) (fun _ => 0) := by
    refine ⟨C1.grow (ba (Below.refl _ _)) (fun j hj => ?_), fun s hs => ?_, fun s hs => by simp, fun s hs => rw_nil _ _ _, fun j h => h.elim, fun s j _ h => h.elim, hz1, fun s j _ h => h.elim⟩
    · rcases hj with rfl | hj | hj
      · exact ⟨.inr (Nat.le_refl _), by simp⟩
      · exact hj.elim
      · exact hj.elim
    · rcases two hs with rfl | rfl <;> simp
  clear C1 hN b1
  generalize w1.heap.size = go at *
  generalize w1.alloc _ = W2 at *
  have hle := h1.le
  have hmx := h1.max
  unfold maxLen at hmx
  go_loopw [7] (fun vi wr => ∃ (i : Nat) (k : Int) (L : List En) (Y : Nat → Nat → Prop) (O : Nat → List Int) (A : Nat → Option Addr) (cp : Nat → Nat), vi = .int .i64 (i : Int) ∧ i ≤ 30 ∧ 0 ≤ k ∧ k ≤ i ∧ LE w wr g go Y W k L O A cp ∧ (∀ s : Nat, s < 2 → OrdOf 2 L s (O s) ∧ ((O s).length : Int) ≤ W)) (fun vi _ => 30 - (intOf vi).toNat)
  case atStart => exact ⟨0, 0, [], _, _, _, _, rfl, by omega, by omega, by omega, Z1, fun s hs => ⟨⟨[], rfl, List.Perm.refl _, List.Pairwise.nil⟩, by simp; omega⟩⟩
  case round =>
    clear Z1
    obtain ⟨i, k, L, Y, O, A, cp, rfl, hi, hk0, hki, Z, hO⟩ := hrel
    by_cases hlt : (i : Int) < n1 ∧ i < 30
    · obtain ⟨hlt1, hlt2⟩ := hlt
      obtain ⟨b, o, rfl, hblt, hcell⟩ := h1.at (k := i) (by omega)
      have hc := (Z.c.bel.cell (p := ⟨b, o + i, none⟩) hblt).trans hcell
      generalize l1[i]?.getD 0 = v at *
      obtain ⟨l, hl, l0, l5⟩ : ∃ l, v % 10 = l ∧ 0 ≤ l ∧ l < 10 := ⟨_, rfl, by omega, by omega⟩
      have HL : Hid (v % 10 = l) := hl
      have hn : In64 l := ⟨by omega, by omega⟩
      clear hl hcell
      obtain ⟨s, hs, hs1⟩ : ∃ s : Nat, l % 2 = (s : Int) ∧ s < 2 := ⟨(l % 2).toNat, by omega, by omega⟩
      have hst : Hid (setI 2 l = s) := by
        show _ = _
        unfold setI
        rw [if_neg (by omega), Int.tmod_eq_emod_of_nonneg l0, hs]
      obtain ⟨hos, hoW⟩ := hO s hs1
      have zc := Z.cell s hs1
      have zf := Z.fz s hs1
      have zr := Z.row s hs1
      have hr := Z.c.rise
      have hol := zr.le
      have hom := zr.max
      unfold maxLen at hom
      obtain ⟨q, hq⟩ : ∃ q, O s = q := ⟨_, rfl⟩
      have HQ : Hid (O s = q) := hq
      rw [hq] at zc zr hol hos hoW
      clear hq
      obtain ⟨m, hm⟩ : ∃ m, q.length = m := ⟨_, rfl⟩
      have HM : Hid (q.length = m) := hm
      rw [hm] at zc zr hol hoW
      clear hm
      have hnd := hos.nodup hr
      obtain ⟨sa, has⟩ : ∃ sa, A s = sa := ⟨_, rfl⟩
      obtain ⟨cs, hcs⟩ : ∃ cs, cp s = cs := ⟨_, rfl⟩
      rw [has] at zc zr
      rw [hcs] at zc zr hol hom
      have HAS : Hid (A s = sa ∧ cp s = cs) := ⟨has, hcs⟩
      clear has hcs
      have hin0 : 0 ≤ (s : Int) ∧ (s : Int) < 2 := by omega
      go_upto_region 13 with (first
        | (go_at_call 8; refine (within_any _ _ _ (by omega) (by omega)).mono ?_; rintro e wx ⟨rfl, rfl⟩; rw [HL.out]))
      obtain ⟨W3, hW3⟩ : ∃ W3, W3 = wr := ⟨_, rfl⟩
      subst hW3
      have hcell : ∀ t : Nat, t < m → ∃ bq oq, sa = some ⟨bq, oq, none⟩ ∧ W3.cell? ⟨bq, oq + t, none⟩ = some (.int .i64 (q[t]?.getD 0)) := fun t ht => by
        rcases zr.row with h0 | ⟨bq, oq, e, _, _, hcq, _⟩
        · omega
        · refine ⟨bq, oq, e, hcq t _ ?_⟩
          have := HM.out
          unfold cells
          rw [List.getElem?_map, List.getElem?_eq_getElem (by omega)]
          rfl
      go_loopw [10, 45] (fun vin vj wr => ∃ (j : Nat) (x : Int), vj = .int .i64 (j : Int) ∧ vin = .int .i64 x ∧ j ≤ m ∧ wr = W3 ∧ ((x = -1 ∧ ∀ t : Nat, t < j → q[t]? ≠ some l) ∨ ∃ t : Nat, t < j ∧ x = t ∧ q[t]? = some l)) (fun _ vj _ => m - (intOf vj).toNat)
      case atStart => exact ⟨0, -1, rfl, rfl, by omega, rfl, .inl ⟨rfl, fun t h => by omega⟩⟩
      case round =>
        obtain ⟨j, x, rfl, rfl, hj, rfl, hx⟩ := hrel
        by_cases hjm : j < m
        · obtain ⟨bq, oq, rfl, hcj⟩ := hcell j hjm
          have hjm' : (j : Int) < (m : Int) := by omega
          obtain ⟨y, hy⟩ : ∃ y, q[j]? = some y := ⟨_, List.getElem?_eq_getElem (by have := HM.out; omega)⟩
          rw [hy] at hcj
          simp only [Option.getD_some] at hcj
          have HX : Hid _ := hx
          clear hx hcell
          by_cases hyl : y = l
          · go_wp2_with fail
            go_roundw
            case rel => exact ⟨j + 1, j, by go_num, rfl, by omega, by first | rfl | trivial, .inr ⟨j, by omega, rfl, hyl ▸ hy⟩⟩
            case measure => simp [intOf]; omega
          · have hno : (x = -1 ∧ ∀ t : Nat, t < j + 1 → q[t]? ≠ some l) ∨ ∃ t : Nat, t < j + 1 ∧ x = t ∧ q[t]? = some l := by
              rcases HX.out with ⟨h1, h2⟩ | ⟨t, h1, h2, h3⟩
              · refine .inl ⟨h1, fun t ht => ?_⟩
                by_cases e : t = j
                · rw [e, hy]; exact fun e => hyl (Option.some.inj e)
                · exact h2 t (by omega)
              · exact .inr ⟨t, by omega, h2, h3⟩
            have HNO : Hid _ := hno
            clear hno
            go_wp2_with fail
            go_roundw
            case rel => exact ⟨j + 1, x, by go_num, rfl, by omega, by first | rfl | trivial, HNO.out⟩
            case measure => simp [intOf]; omega
        · have hjm' : (m : Int) ≤ (j : Int) := by omega
          obtain rfl : j = m := by omega
          clear hjm
          have hlen := hos.len
          rw [HM.out] at hlen
          have hul := Z.c.u
          have hhas := hos.has hst.out
          rcases hx with ⟨rfl, hno⟩ | ⟨t, ht, rfl, hqt⟩
          · have hh : hasL L l = false := by
              rw [hhas, decide_eq_false_iff_not]
              intro hm
              obtain ⟨t, ht⟩ := List.mem_iff_getElem?.1 hm
              have := (List.getElem?_eq_some_iff.1 ht).1
              exact hno t (by have := HM.out; omega) ht
            have hful : fullL 2 W L l = decide ((j : Int) = W) := by
              unfold fullL
              rw [hh, hst.out, ← hlen]
              simp
              omega
            have uc := @Up.cell
            have ltg := Z.c.xl go (.inl rfl)
            have Zu : ∀ u : Up wr, LE w u.1 g go Y W k L O A cp := fun u => Z.below u.2
            have HLN : Hid _ := hlen
            have HUL : Hid _ := hul
            clear hc zf hnd hlen hul
            by_cases hmw : (j : Int) = W
            · have HMW : Hid ((j : Int) = W) := hmw
              have hj1 : 1 ≤ j := by omega
              have hfb : fullL 2 W L l = true := by rw [hful]; simp [hmw]
              have hmw1 : ((j : Int) == W) = true := by simp [hmw]
              have Hhh : Hid (hasL L l = false) := hh
              obtain ⟨bq, oq, rfl, hc0⟩ := hcell 0 (by omega)
              have hbq := World.block_lt_of_cell? wr _ hc0
              clear hful hh hhas hno hcell hmw
              go_upto_region 22 with fail
              refine wp_region_up (by kernel_rfl) (by kernel_rfl) ?_
              repeat (go_big_quiet_step ((go_at_call 10; exact Calls.up_of (co_full_b (Zu _).c hn hfb))))
              refine wpQuiet_nil ?_
              rintro _ ⟨u, rfl⟩
              have Z4 := Zu u
              have hc4 := (u.2.cell (p := ⟨bq, oq + 0, none⟩) hbq).trans hc0
              have hb4 : bq < u.1.heap.size := Nat.lt_of_lt_of_le hbq u.2.size
              have zc4 := (u.2.cell (p := ⟨go, s, none⟩) ltg).trans zc
              clear Zu uc zc zr Z hc0
              generalize u.1 = W4 at *
              have lt4 := Z4.c.xl go (.inl rfl)
              have hjpos : (0 : Int) < (j : Int) := by omega
              have hju : (1 : Int) ≤ (j : Int) := by omega
              go_upto_region 26 with (go_at_call 30; refine (co_victim Z4.c l).mono ?_; rintro e w5 ⟨v5, ok5, rfl, hvic, b5⟩; obtain ⟨rfl, hq0⟩ := hos.vic hst.out hvic (by have := HM.out; omega))
              rw [hq0, Nat.add_zero] at hc4
              simp only [Option.getD_some] at hc4
              have hc5 := (b5.cell (p := ⟨bq, oq, none⟩) hb4).trans hc4
              have zc5 := (b5.cell (p := ⟨go, s, none⟩) lt4).trans zc4
              have Z5 := Z4.below b5
              have hv5 : hasL L v5 = true := by
                obtain ⟨e, h1, h2, _⟩ := hos.mem.1 (List.mem_of_getElem? hq0)
                exact getK_isSome.2 ⟨e, h1, h2⟩
              have hv6 : In64 v5 := by
                obtain ⟨e, h1, h2, _⟩ := hos.mem.1 (List.mem_of_getElem? hq0)
                exact h2 ▸ (Z5.c.inn e h1).1
              have F6 := co_drop Z5.c (by omega) hv6 hv5
              obtain ⟨y6, hy6⟩ : ∃ y6, entL L v5 = y6 := ⟨_, rfl⟩
              rw [hy6] at F6
              clear hy6 hc4 zc4 hvic b5
              go_upto_region 31 with (go_at_call 21; refine F6.mono ?_; rintro e w6 ⟨dd, rfl, k6, hdd, C6⟩; obtain ⟨da, dn, dc, rfl, _, _, _⟩ := hdd)
              have Z6 := (Z5.cache k6 C6).below (ba (o := .cells #[.int .i64 y6.f, .int .i64 y6.b, .int .i64 y6.n, .int .i64 y6.u, .bool y6.q, .slice da dn dc] 33) (Below.refl _ _))
              clear Z5 k6 C6 F6 zc5 hc5 Z4
              generalize w6.alloc _ = W7 at *
              have zc7 := Z6.cell s hs1
              have zr7 := Z6.row s hs1
              have zf7 := Z6.fz s hs1
              rw [HQ.out, HM.out, HAS.out.1, HAS.out.2] at zc7 zr7
              have hjc : 1 ≤ cs := by omega
              go_upto_region 32 with fail
              obtain ⟨Y1, Z8⟩ := Z6.set hs1 (Keep.refl (Y s) W7) ((rw_rest zr7 (by omega)).imp (fun j _ h => .inl h)) (o' := q.drop 1) (n' := j - 1) (by rw [List.length_drop, HM.out])
              have hs5 : setI 2 v5 = s := (hos.mem.1 (List.mem_of_getElem? hq0)).choose_spec.2.2
              have hod : OrdOf 2 (delK nOf v5 L) s (q.drop 1) := by
                have := hos.del hr hq0
                rwa [List.eraseIdx_zero, ← List.drop_one] at this
              have hhl : hasL (delK nOf v5 L) l = false := by rw [has_del hr, Hhh.out, Bool.and_false]
              obtain ⟨O1, hO1⟩ : ∃ O1 : Nat → List Int, O1 = fun t => if t = s then q.drop 1 else O t := ⟨_, rfl⟩
              obtain ⟨A1, hA1⟩ : ∃ A1 : Nat → Option Addr, A1 = fun t => if t = s then (if cs = 1 then some ⟨bq, oq, none⟩ else some ⟨bq, oq + 1, none⟩) else A t := ⟨_, rfl⟩
              obtain ⟨cp1, hcp1⟩ : ∃ cp1 : Nat → Nat, cp1 = fun t => if t = s then cs - 1 else cp t := ⟨_, rfl⟩
              rw [← hO1, ← hA1, ← hcp1] at Z8
              obtain ⟨q1, hqq⟩ : ∃ q1, q.drop 1 = q1 := ⟨_, rfl⟩
              obtain ⟨sa1, hsa1⟩ : ∃ sa1 : Option Addr, (if cs = 1 then some (⟨bq, oq, none⟩ : Addr) else some ⟨bq, oq + 1, none⟩) = sa1 := ⟨_, rfl⟩
              obtain ⟨cs1, hcs1⟩ : ∃ cs1, cs - 1 = cs1 := ⟨_, rfl⟩
              obtain ⟨n2, hn2⟩ : ∃ n2, j - 1 = n2 := ⟨_, rfl⟩
              have hq1 : Hid (O1 s = q1 ∧ A1 s = sa1 ∧ cp1 s = cs1) := ⟨by rw [hO1, ← hqq]; simp, by rw [hA1, ← hsa1]; simp, by rw [hcp1, ← hcs1]; simp⟩
              have hn1 : Hid (q1.length = n2) := by show _ = _; rw [← hqq, List.length_drop, HM.out, hn2]
              have hnW : Hid ((n2 : Int) + 1 ≤ W) := by show _ ≤ _; omega
              have hpp : Hid (hasL (delK nOf v5 L) l = false ∧ fullL 2 W (delK nOf v5 L) l = false ∧ (∀ e ∈ delK nOf v5 L, e.u ≤ k) ∧ ∀ t : Nat, t < 2 → OrdOf 2 (delK nOf v5 L) t (O1 t) ∧ ((O1 t).length : Int) ≤ W) := by
                refine ⟨hhl, ?_, fun e he => HUL.out e (mem_delK.1 he).1, fun t ht => ?_⟩
                · unfold fullL
                  rw [hhl, hst.out, ← hod.len, hqq, hn1.out]
                  have := hnW.out
                  simp
                  omega
                · by_cases e : t = s
                  · subst e
                    rw [hq1.out.1, ← hqq]
                    refine ⟨hod, ?_⟩
                    rw [hqq, hn1.out]
                    have := hnW.out
                    omega
                  · rw [hO1]
                    simp only [if_neg e]
                    exact ⟨(hO t ht).1.delo (fun e' => e (by have := hs5.symm.trans e'; omega)), (hO t ht).2⟩
              have hlen1 : j - 1 ≤ cs - 1 := by omega
              rw [hsa1, hcs1, hn2] at Z8
              rw [hsa1, hcs1, hn2]
              obtain ⟨L1, hL1⟩ : ∃ L1, delK nOf v5 L = L1 := ⟨_, rfl⟩
              rw [hL1] at Z8 hpp
              have Zp := Z8
              clear Z8 Z6 zc7 zr7 zf7 hsa1 hcs1 hn2 hO1 hA1 hcp1 hqq hL1 hhl hod hs5 hq0
              generalize W7.setCell ⟨go, s, none⟩ (.slice sa1 n2 cs1) = W4 at *
              go_upto_region 34 with (first
                | (go_at_call 11; refine (co_fresh Zp.c (by omega) ⟨-1, -1, l, 0, false, []⟩ a6 0 c6 _ b6 own6 (by omega) rfl (by omega) hn).mono ?_; rw [putR_ok (x := ⟨-1, -1, l, 0, false, []⟩) l0 hpp.out.2.1]; rintro e w7 ⟨rfl, k7, C7⟩)
                | (go_at_call 12; refine (enew_any l (-1) (-1) false none [] 0 0 _ (sl_nil _) (by omega)).mono ?_; rintro e w6 ⟨a6, c6, rfl, own6, b6⟩))
              rw [hpp.out.1, if_neg (by simp), if_neg (by simp)] at C7
              have Z9 := (Zp.below b6).cache k7 C7
              obtain ⟨L2, hL2⟩ : ∃ L2, putK nOf (⟨-1, -1, l, k + 1, false, []⟩ : En) L1 = L2 := ⟨_, rfl⟩
              have hp9 : Hid (∀ t : Nat, t < 2 → OrdOf 2 L2 t ((fun t => if t = s then q1 ++ [l] else O1 t) t) ∧ ((((fun t => if t = s then q1 ++ [l] else O1 t) t).length : Nat) : Int) ≤ W) := by
                intro t ht
                rw [← hL2]
                by_cases e : t = s
                · subst e
                  simp only [if_pos]
                  refine ⟨?_, by rw [List.length_append, hn1.out]; have := hnW.out; simp; omega⟩
                  rw [← hq1.out.1]
                  exact (hpp.out.2.2.2 t ht).1.new (x := ⟨-1, -1, l, k + 1, false, []⟩) (hasL_no hpp.out.1) (fun e he => by have := hpp.out.2.2.1 e he; show e.u < k + 1; omega) hst.out
                · simp only [if_neg e]
                  exact ⟨(hpp.out.2.2.2 t ht).1.newo (x := ⟨-1, -1, l, k + 1, false, []⟩) (hasL_no hpp.out.1) (fun e' => e (by have := hst.out.symm.trans e'; omega)), (hpp.out.2.2.2 t ht).2⟩
              rw [hL2] at Z9
              obtain ⟨k2, hk2⟩ : ∃ k2, k + 1 = k2 := ⟨_, rfl⟩
              rw [hk2] at Z9
              have hk9 : Hid (0 ≤ k2 ∧ k2 ≤ ((i + 1 : Nat) : Int)) := by show _ ∧ _; omega
              clear C7 k7 own6 b6 Zp hL2 hk2
              generalize w7 = W9 at *
              have zc9 := Z9.cell s hs1
              have zr9 := Z9.row s hs1
              have zf9 := Z9.fz s hs1
              rw [hq1.out.1, hn1.out, hq1.out.2.1, hq1.out.2.2] at zc9 zr9
              have lt9 := Z9.c.xl go (.inl rfl)
              have ng9 : ¬ Y1 s go := fun f => Z9.ng s go hs1 f rfl
              obtain ⟨i0, hi0, hp0, hp1, hp2⟩ := info_parts Try.infoInt
              have hnn := hnW.out
              go_wp2_with (at_builtin; refine wpList_append_rw (W9.alloc (.cells #[.int .i64 l] 3)) (Y1 s) (by kernel_rfl) _ _ 22 rfl 3 i0 (.int .i64 0) 1 8 Try.underlying22 hi0 hp0 hp1 hp2 rfl (by decide) sa1 n2 cs1 (cells q1) rfl (zr9.below (ba (Below.refl _ _))) ⟨W9.heap.size, 0, none⟩ 1 1 (cells [l]) rfl (by omega) rfl (cell_1i _ _) (cells_one _) (by unfold maxLen; omega) (by omega) ?_; intro a8 c8 w8 hrw8 hk8; have kc8 := (hk8.cell (b := go) s (Nat.lt_of_lt_of_le lt9 (ba (Below.refl W9.heap.size W9)).size) ng9).trans (((ba (o := .cells #[.int .i64 l] 3) (Below.refl W9.heap.size W9)).cell (p := ⟨go, s, none⟩) lt9).trans zc9); have kf8 := (hk8.frozen (b := go) s (Nat.lt_of_lt_of_le lt9 (ba (Below.refl W9.heap.size W9)).size) ng9).trans (((ba (o := .cells #[.int .i64 l] 3) (Below.refl W9.heap.size W9)).frozen (p := ⟨go, s, none⟩) lt9).trans zf9))
              rw [cells_app] at hrw8
              obtain ⟨Y2, ZZ⟩ := (Z9.below (ba (o := .cells #[.int .i64 l] 3) (Below.refl _ _))).set hs1 hk8 hrw8 (by rw [List.length_append, hn1.out]; rfl)
              go_roundw
              case rel => exact ⟨i + 1, k2, L2, Y2, _, _, _, by go_num, by omega, hk9.out.1, hk9.out.2, ZZ, hp9.out⟩
              case measure => simp [intOf]; omega
            · obtain ⟨Y1, O1, A1, cp1, L1, q1, sa1, cs1, n2, Zp, hq1, hn1, hnW, hpp⟩ : ∃ Y1 O1 A1 cp1 L1 q1 sa1 cs1, ∃ n2 : Nat, (∀ u : Up wr, LE w u.1 g go Y1 W k L1 O1 A1 cp1) ∧ Hid (O1 s = q1 ∧ A1 s = sa1 ∧ cp1 s = cs1) ∧ Hid (q1.length = n2) ∧ Hid ((n2 : Int) + 1 ≤ W) ∧
                  Hid (hasL L1 l = false ∧ fullL 2 W L1 l = false ∧ (∀ e ∈ L1, e.u ≤ k) ∧ ∀ t : Nat, t < 2 → OrdOf 2 L1 t (O1 t) ∧ ((O1 t).length : Int) ≤ W) :=
                ⟨Y, O, A, cp, L, q, sa, cs, j, Zu, ⟨HQ.out, HAS.out.1, HAS.out.2⟩, HM.out, by show (j : Int) + 1 ≤ W; omega, hh, by rw [hful]; simp [hmw], HUL.out, hO⟩
              have hfb : fullL 2 W L l = false := by rw [hful]; simp [hmw]
              have hmw1 : ((j : Int) == W) = false := by simp [hmw]
              clear hful hh hhas hno hcell hmw
              go_upto_region 22 with fail
              refine wp_region_up (by kernel_rfl) (by kernel_rfl) ?_
              repeat (go_big_quiet_step ((go_at_call 10; exact Calls.up_of (co_full_b (Zu _).c hn hfb))))
              refine wpQuiet_nil ?_
              rintro _ ⟨u, rfl⟩
              have Zp := Zp u
              have zc4 := (u.2.cell (p := ⟨go, s, none⟩) ltg).trans zc
              have lt4 := Zp.c.xl go (.inl rfl)
              clear Zu uc zc zr Z
              generalize u.1 = W4 at *
              go_upto_region 34 with (first
                | (go_at_call 11; refine (co_fresh Zp.c (by omega) ⟨-1, -1, l, 0, false, []⟩ a6 0 c6 _ b6 own6 (by omega) rfl (by omega) hn).mono ?_; rw [putR_ok (x := ⟨-1, -1, l, 0, false, []⟩) l0 hpp.out.2.1]; rintro e w7 ⟨rfl, k7, C7⟩)
                | (go_at_call 12; refine (enew_any l (-1) (-1) false none [] 0 0 _ (sl_nil _) (by omega)).mono ?_; rintro e w6 ⟨a6, c6, rfl, own6, b6⟩))
              rw [hpp.out.1, if_neg (by simp), if_neg (by simp)] at C7
              have Z9 := (Zp.below b6).cache k7 C7
              obtain ⟨L2, hL2⟩ : ∃ L2, putK nOf (⟨-1, -1, l, k + 1, false, []⟩ : En) L1 = L2 := ⟨_, rfl⟩
              have hp9 : Hid (∀ t : Nat, t < 2 → OrdOf 2 L2 t ((fun t => if t = s then q1 ++ [l] else O1 t) t) ∧ ((((fun t => if t = s then q1 ++ [l] else O1 t) t).length : Nat) : Int) ≤ W) := by
                intro t ht
                rw [← hL2]
                by_cases e : t = s
                · subst e
                  simp only [if_pos]
                  refine ⟨?_, by rw [List.length_append, hn1.out]; have := hnW.out; simp; omega⟩
                  rw [← hq1.out.1]
                  exact (hpp.out.2.2.2 t ht).1.new (x := ⟨-1, -1, l, k + 1, false, []⟩) (hasL_no hpp.out.1) (fun e he => by have := hpp.out.2.2.1 e he; show e.u < k + 1; omega) hst.out
                · simp only [if_neg e]
                  exact ⟨(hpp.out.2.2.2 t ht).1.newo (x := ⟨-1, -1, l, k + 1, false, []⟩) (hasL_no hpp.out.1) (fun e' => e (by have := hst.out.symm.trans e'; omega)), (hpp.out.2.2.2 t ht).2⟩
              rw [hL2] at Z9
              obtain ⟨k2, hk2⟩ : ∃ k2, k + 1 = k2 := ⟨_, rfl⟩
              rw [hk2] at Z9
              have hk9 : Hid (0 ≤ k2 ∧ k2 ≤ ((i + 1 : Nat) : Int)) := by show _ ∧ _; omega
              clear C7 k7 own6 b6 Zp hL2 hk2
              generalize w7 = W9 at *
              have zc9 := Z9.cell s hs1
              have zr9 := Z9.row s hs1
              have zf9 := Z9.fz s hs1
              rw [hq1.out.1, hn1.out, hq1.out.2.1, hq1.out.2.2] at zc9 zr9
              have lt9 := Z9.c.xl go (.inl rfl)
              have ng9 : ¬ Y1 s go := fun f => Z9.ng s go hs1 f rfl
              obtain ⟨i0, hi0, hp0, hp1, hp2⟩ := info_parts Try.infoInt
              have hnn := hnW.out
              go_wp2_with (at_builtin; refine wpList_append_rw (W9.alloc (.cells #[.int .i64 l] 3)) (Y1 s) (by kernel_rfl) _ _ 22 rfl 3 i0 (.int .i64 0) 1 8 Try.underlying22 hi0 hp0 hp1 hp2 rfl (by decide) sa1 n2 cs1 (cells q1) rfl (zr9.below (ba (Below.refl _ _))) ⟨W9.heap.size, 0, none⟩ 1 1 (cells [l]) rfl (by omega) rfl (cell_1i _ _) (cells_one _) (by unfold maxLen; omega) (by omega) ?_; intro a8 c8 w8 hrw8 hk8; have kc8 := (hk8.cell (b := go) s (Nat.lt_of_lt_of_le lt9 (ba (Below.refl W9.heap.size W9)).size) ng9).trans (((ba (o := .cells #[.int .i64 l] 3) (Below.refl W9.heap.size W9)).cell (p := ⟨go, s, none⟩) lt9).trans zc9); have kf8 := (hk8.frozen (b := go) s (Nat.lt_of_lt_of_le lt9 (ba (Below.refl W9.heap.size W9)).size) ng9).trans (((ba (o := .cells #[.int .i64 l] 3) (Below.refl W9.heap.size W9)).frozen (p := ⟨go, s, none⟩) lt9).trans zf9))
              rw [cells_app] at hrw8
              obtain ⟨Y2, ZZ⟩ := (Z9.below (ba (o := .cells #[.int .i64 l] 3) (Below.refl _ _))).set hs1 hk8 hrw8 (by rw [List.length_append, hn1.out]; rfl)
              go_roundw
              case rel => exact ⟨i + 1, k2, L2, Y2, _, _, _, by go_num, by omega, hk9.out.1, hk9.out.2, ZZ, hp9.out⟩
              case measure => simp [intOf]; omega
          · have hh : hasL L l = true := by
              rw [hhas, decide_eq_true_iff]
              exact List.mem_of_getElem? hqt
            have HH : Hid (hasL L l = true) := hh
            have HLN : Hid _ := hlen
            have HUL : Hid _ := hul
            have HQT : Hid (q[t]? = some l) := hqt
            have T5 := co_touch Z.c (by omega) hn
            rw [hh] at T5
            unfold touchR at T5
            rw [hh, if_pos rfl] at T5
            obtain ⟨x, hx⟩ : ∃ x : En, x = { entL L l with u := k + 1 } := ⟨_, rfl⟩
            rw [← hx] at T5
            simp only at T5
            have HX : Hid (x.n = l ∧ x.u = k + 1) := by rw [hx]; exact ⟨(hasL_mem HH.out).2, by simp⟩
            obtain ⟨L2, hL2⟩ : ∃ L2, putK nOf x L = L2 := ⟨_, rfl⟩
            rw [hL2] at T5
            have HL2 : Hid (putK nOf x L = L2) := hL2
            have hfb : fullL 2 W L2 l = false := by
              unfold fullL
              rw [← hL2, has_put hr, decide_eq_true HX.out.1]
              rfl
            obtain ⟨bq, oq, rfl, _⟩ := hcell t ht
            have ht0 : (0 : Int) ≤ (t : Int) := by omega
            clear hh hhas hcell hlen hul hqt hx hL2 hc zf hnd hjm'
            go_upto_region 21 with (first
              | (go_at_call 10; refine (co_full_b Z5.c hn hfb).mono ?_; rintro e w6 ⟨rfl, b6⟩)
              | (go_at_call 20; refine T5.mono ?_; rintro e w5 ⟨rfl, k5, C5⟩; have Z5 := Z.cache k5 C5))
            have Z6 := Z5.below b6
            clear Z Z5 T5 k5 C5 b6 zc zr
            generalize w6 = W6 at *
            refine wp_region_orders 16 rfl (by kernel_rfl) ?_
            have Z7 := Z6.below ((Below.refl W6.heap.size W6).drew)
            clear Z6
            generalize W6.drew = V0 at *
            have zcV := Z7.cell s hs1
            have zrV := Z7.row s hs1
            have zfV := Z7.fz s hs1
            rw [HQ.out, HM.out, HAS.out.1, HAS.out.2] at zcV zrV
            have ltV := Z7.c.xl go (.inl rfl)
            have hI : (fun V : World => V.cell? ⟨go, s, none⟩ = some (.slice (some ⟨bq, oq, none⟩) j cs)) V0 := zcV
            obtain ⟨A0, hA⟩ : ∃ A0 : Addr, (if cs = t + 1 then some (⟨bq, oq, none⟩ : Addr) else some ⟨bq, oq + (t + 1), none⟩) = some A0 := by
              by_cases e : cs = t + 1
              · exact ⟨_, if_pos e⟩
              · exact ⟨_, if_neg e⟩
            have hic : t ≤ cs := by omega
            have hjc : t + 1 ≤ cs := by omega
            have hwr : IntKind.i64.wrap ((t : Int) + 1) = (t : Int) + 1 := (IntWalk.i64_left _).trans (IntWalk.wrap64_in _ (by omega))
            have hi1 : 0 ≤ (t : Int) ∧ (t : Int) ≤ j ∧ 0 ≤ (t : Int) + 1 ∧ (t : Int) + 1 ≤ j := by omega
            refine any_inv (fun V : World => V.cell? ⟨go, s, none⟩ = some (.slice (some ⟨bq, oq, none⟩) j cs)) [15] hI ?_
            refine inv_take (v := ?v1) [14, 15] 0 hI rfl (by kernel_rfl) (by kernel_rfl) (by kernel_rfl) (by kernel_rfl) (by kernel_rfl) (fun _ _ _ h => h) (by kernel_rfl) (fun V hV => ?hy1) ?go1
            case hy1 => (have i1 := hV; go_simp <;> rfl)
            simp only [Act.put, List.setIfInBounds_toArray, List.set_cons_zero, List.set_cons_succ]
            refine inv_take (v := ?v2) [2, 3, 5, 6, 13, 14, 15] 1 hI rfl (by kernel_rfl) (by kernel_rfl) (by kernel_rfl) (by kernel_rfl) (by kernel_rfl) (fun _ _ _ h => h) (by kernel_rfl) (fun V hV => ?hy2) ?go2
            case hy2 => (have i1 := hV; go_simp <;> rfl)
            simp only [Act.put, List.setIfInBounds_toArray, List.set_cons_zero, List.set_cons_succ]
            refine inv_take (v := ?v3) [3, 5, 6, 13, 14, 15] 2 hI rfl (by kernel_rfl) (by kernel_rfl) (by kernel_rfl) (by kernel_rfl) (by kernel_rfl) (fun _ _ _ h => h) (by kernel_rfl) (fun V hV => ?hy3) ?go3
            case hy3 => (have i1 := hV; go_simp <;> rfl)
            simp only [Act.put, List.setIfInBounds_toArray, List.set_cons_zero, List.set_cons_succ]
            refine inv_take (v := ?v4) [5, 6, 13, 14, 15] 3 hI rfl (by kernel_rfl) (by kernel_rfl) (by kernel_rfl) (by kernel_rfl) (by kernel_rfl) (fun _ _ _ h => h) (by kernel_rfl) (fun V hV => ?hy4) ?go4
            case hy4 => (have i1 := hV; go_simp <;> rfl)
            simp only [Act.put, List.setIfInBounds_toArray, List.set_cons_zero, List.set_cons_succ]
            refine inv_take (v := ?v5) [5, 6, 13, 14, 15] 4 hI rfl (by kernel_rfl) (by kernel_rfl) (by kernel_rfl) (by kernel_rfl) (by kernel_rfl) (fun _ _ _ h => h) (by kernel_rfl) (fun V hV => ?hy5) ?go5
            case hy5 => (have i1 := hV; go_simp <;> rfl)
            simp only [Act.put, List.setIfInBounds_toArray, List.set_cons_zero, List.set_cons_succ]
            refine inv_take (v := ?v6) [6, 13, 14, 15] 5 hI rfl (by kernel_rfl) (by kernel_rfl) (by kernel_rfl) (by kernel_rfl) (by kernel_rfl) (fun _ _ _ h => h) (by kernel_rfl) (fun V hV => ?hy6) ?go6
            case hy6 => (have i1 := hV; go_simp <;> rfl)
            simp only [Act.put, List.setIfInBounds_toArray, List.set_cons_zero, List.set_cons_succ]
            refine inv_take (v := ?v7) [8, 9, 12, 13, 14, 15] 7 hI rfl (by kernel_rfl) (by kernel_rfl) (by kernel_rfl) (by kernel_rfl) (by kernel_rfl) (fun _ _ _ h => h) (by kernel_rfl) (fun V hV => ?hy7) ?go7
            case hy7 => (have i1 := hV; go_simp <;> rfl)
            simp only [Act.put, List.setIfInBounds_toArray, List.set_cons_zero, List.set_cons_succ]
            refine inv_take (v := ?v8) [9, 12, 13, 14, 15] 8 hI rfl (by kernel_rfl) (by kernel_rfl) (by kernel_rfl) (by kernel_rfl) (by kernel_rfl) (fun _ _ _ h => h) (by kernel_rfl) (fun V hV => ?hy8) ?go8
            case hy8 => (have i1 := hV; go_simp <;> rfl)
            simp only [Act.put, List.setIfInBounds_toArray, List.set_cons_zero, List.set_cons_succ]
            refine inv_take (v := ?v9) [12, 13, 14, 15] 9 hI rfl (by kernel_rfl) (by kernel_rfl) (by kernel_rfl) (by kernel_rfl) (by kernel_rfl) (fun _ _ _ h => h) (by kernel_rfl) (fun V hV => ?hy9) ?go9
            case hy9 => (have i1 := hV; go_simp <;> rfl)
            simp only [Act.put, List.setIfInBounds_toArray, List.set_cons_zero, List.set_cons_succ]
            refine inv_take (v := ?v10) [11, 12, 13, 14, 15] 10 hI rfl (by kernel_rfl) (by kernel_rfl) (by kernel_rfl) (by kernel_rfl) (by kernel_rfl) (fun _ _ _ h => h) (by kernel_rfl) (fun V hV => ?hy10) ?go10
            case hy10 => (have i1 := hV; go_simp <;> rfl)
            simp only [Act.put, List.setIfInBounds_toArray, List.set_cons_zero, List.set_cons_succ]
            refine inv_take (v := ?v11) [12, 13, 14, 15] 11 hI rfl (by kernel_rfl) (by kernel_rfl) (by kernel_rfl) (by kernel_rfl) (by kernel_rfl) (fun _ _ _ h => h) (by kernel_rfl) (fun V hV => ?hy11) ?go11
            case hy11 => (have i1 := hV; go_simp <;> rfl)
            simp only [Act.put, List.setIfInBounds_toArray, List.set_cons_zero, List.set_cons_succ]
            refine inv_take (v := ?v12) [13, 14, 15] 12 hI rfl (by kernel_rfl) (by kernel_rfl) (by kernel_rfl) (by kernel_rfl) (by kernel_rfl) (fun _ _ _ h => h) (by kernel_rfl) (fun V hV => ?hy12) ?go12
            case hy12 => (have i1 := hV; go_simp <;> rfl)
            simp only [Act.put, List.setIfInBounds_toArray, List.set_cons_zero, List.set_cons_succ]
            have HA : Hid (∀ V, SlV V (some ⟨bq, oq, none⟩) j cs 1 (cells q) → SlV V (some A0) (j - (t + 1)) (cs - (t + 1)) 1 ((cells q).drop ((t + 1) * 1))) := by
              intro V hV
              exact hV.rear (by omega) (by rw [Nat.mul_one]; exact hA)
            obtain ⟨i0, hi0, hp0, hp1, hp2⟩ := info_parts Try.infoInt
            clear hA
            refine inv_list 6 (by kernel_rfl) rfl ?_
            refine wpList_append_slv V0 (fun _ => False) (by kernel_rfl) (.const (.slice none 0 0)) (.tmp 71) 22 rfl 3 i0 (.int .i64 0) 1 8 Try.underlying22 hi0 hp0 hp1 hp2 rfl (by decide) none 0 0 [] rfl (rw_nil _ _ _) (some ⟨bq, oq, none⟩) t cs ((cells q).take (t * 1)) rfl (zrV.slv.front (by omega)) (fun u hu => cells_one q u (List.mem_of_mem_take hu)) (by unfold maxLen; omega) (by omega) ?_
            intro a7 c7 w7 hrw7 hk7
            have hb7 : Below V0.heap.size V0 w7 := hk7.below (fun _ h => h.elim) (Nat.le_refl _)
            have hI7 : (fun V : World => V.cell? ⟨go, s, none⟩ = some (.slice (some ⟨bq, oq, none⟩) j cs)) w7 := (hb7.cell (p := ⟨go, s, none⟩) ltV).trans zcV
            refine then_n ⟨hI7, ?_⟩
            simp only [Act.put, List.setIfInBounds_toArray, List.set_cons_zero, List.set_cons_succ]
            refine inv_list 13 (by kernel_rfl) rfl ?_
            refine wpList_append_slv w7 (fun k => False ∨ V0.heap.size ≤ k) (by kernel_rfl) (.tmp 72) (.tmp 78) 22 rfl 3 i0 (.int .i64 0) 1 8 Try.underlying22 hi0 hp0 hp1 hp2 rfl (by decide) a7 (0 + t) c7 ([] ++ (cells q).take (t * 1)) rfl hrw7 (some A0) (j - (t + 1)) (cs - (t + 1)) ((cells q).drop ((t + 1) * 1)) rfl (HA.out _ (zrV.slv.below hb7)) (fun u hu => cells_one q u (List.mem_of_mem_drop hu)) (by unfold maxLen; omega) (by omega) ?_
            intro a8 c8 w8 hrw8 hk8
            have em : 0 + t + (j - (t + 1)) = j - 1 := by omega
            rw [em] at hrw8
            rw [em]
            have eq8 : [] ++ (cells q).take (t * 1) ++ (cells q).drop ((t + 1) * 1) = cells (q.eraseIdx t) := by
              rw [Nat.mul_one, Nat.mul_one, List.nil_append, List.eraseIdx_eq_take_drop_succ]
              simp [cells]
            rw [eq8] at hrw8
            have hb8 : Below V0.heap.size V0 w8 := hb7.trans (hk8.below (fun k h => h.elim (fun h => h.elim) id) hb7.size)
            have hc8 := (hb8.cell (p := ⟨go, s, none⟩) ltV).trans zcV
            have hf8 := (hb8.frozen (p := ⟨go, s, none⟩) ltV).trans zfV
            have hI8 : (fun V : World => V.cell? ⟨go, s, none⟩ = some (.slice (some ⟨bq, oq, none⟩) j cs)) w8 := hc8
            refine then_n ⟨hI8, ?_⟩
            simp only [Act.put, List.setIfInBounds_toArray, List.set_cons_zero, List.set_cons_succ]
            refine inv_take (v := ?v13) [15] 14 hI8 rfl (by kernel_rfl) (by kernel_rfl) (by kernel_rfl) (by kernel_rfl) (by kernel_rfl) (fun _ _ _ h => h) (by kernel_rfl) (fun V hV => ?hy13) ?go13
            case hy13 => (have i1 := hV; go_simp <;> rfl)
            simp only [Act.put, List.setIfInBounds_toArray, List.set_cons_zero, List.set_cons_succ]
            obtain ⟨Y1, Z8⟩ := Z7.set hs1 (Keep.of_below (F := Y s) hb8) (hrw8.imp (fun k _ h => .inr (h.elim (fun h => h.elim (fun h => h.elim) id) (fun h => Nat.le_trans hb7.size h)))) (o' := q.eraseIdx t) (by rw [List.length_eraseIdx_of_lt (by rw [HM.out]; omega), HM.out])
            clear hI7 hI hI8 hrw7 hrw8 hk7 hk8 hb7 zrV zcV zfV hwr hi1 hic hjc hi0 hp0 hp1 hp2 Z7
            refine inv_write 15 (by kernel_rfl) (by kernel_rfl) rfl ?_
            go_wp2_with fail
            refine then_n ?_
            refine any_done (by kernel_rfl) ?_
            clear hc8 hf8 hb8
            obtain ⟨O1, hO1⟩ : ∃ O1 : Nat → List Int, O1 = fun r => if r = s then q.eraseIdx t else O r := ⟨_, rfl⟩
            obtain ⟨A1, hA1⟩ : ∃ A1 : Nat → Option Addr, A1 = fun r => if r = s then a8 else A r := ⟨_, rfl⟩
            obtain ⟨cp1, hcp1⟩ : ∃ cp1 : Nat → Nat, cp1 = fun r => if r = s then c8 else cp r := ⟨_, rfl⟩
            rw [← hO1, ← hA1, ← hcp1] at Z8
            obtain ⟨q1, hqq⟩ : ∃ q1, q.eraseIdx t = q1 := ⟨_, rfl⟩
            obtain ⟨n2, hn2⟩ : ∃ n2, j - 1 = n2 := ⟨_, rfl⟩
            have hq1 : Hid (O1 s = q1 ∧ A1 s = a8 ∧ cp1 s = c8) := ⟨by rw [hO1, ← hqq]; simp, by rw [hA1]; simp, by rw [hcp1]; simp⟩
            have hn1 : Hid (q1.length = n2) := by show _ = _; rw [← hqq, List.length_eraseIdx_of_lt (by rw [HM.out]; omega), HM.out, hn2]
            have hnW : Hid ((n2 : Int) + 1 ≤ W) := by show _ ≤ _; omega
            have hp9 : Hid (∀ r : Nat, r < 2 → OrdOf 2 L2 r ((fun r => if r = s then q1 ++ [l] else O1 r) r) ∧ ((((fun r => if r = s then q1 ++ [l] else O1 r) r).length : Nat) : Int) ≤ W) := by
              intro r hr2
              rw [← HL2.out]
              by_cases e : r = s
              · subst e
                simp only [if_pos]
                refine ⟨?_, by rw [List.length_append, hn1.out]; have := hnW.out; simp; omega⟩
                rw [← hqq]
                exact ord_use hr hos HQT.out HX.out.1 (fun e he => by have := HUL.out e he; rw [HX.out.2]; omega) hst.out
              · simp only [if_neg e]
                rw [hO1]
                simp only [if_neg e]
                exact ⟨ord_use_o (hO r hr2).1 HX.out.1 (fun e' => e (by have := hst.out.symm.trans e'; omega)), (hO r hr2).2⟩
            rw [hn2] at Z8
            rw [hn2]
            have Z9 := Z8
            obtain ⟨k2, hk2⟩ : ∃ k2, k + 1 = k2 := ⟨_, rfl⟩
            rw [hk2] at Z9
            have hk9 : Hid (0 ≤ k2 ∧ k2 ≤ ((i + 1 : Nat) : Int)) := by show _ ∧ _; omega
            clear Z8 hO1 hA1 hcp1 hqq hn2 hk2
            generalize w8.setCell ⟨go, s, none⟩ (.slice a8 n2 c8) = W9 at *
            have zc9 := Z9.cell s hs1
            have zr9 := Z9.row s hs1
            have zf9 := Z9.fz s hs1
            rw [hq1.out.1, hn1.out, hq1.out.2.1, hq1.out.2.2] at zc9 zr9
            have lt9 := Z9.c.xl go (.inl rfl)
            have ng9 : ¬ Y1 s go := fun f => Z9.ng s go hs1 f rfl
            obtain ⟨i0, hi0, hp0, hp1, hp2⟩ := info_parts Try.infoInt
            have hnn := hnW.out
            go_wp2_with (at_builtin; refine wpList_append_rw (W9.alloc (.cells #[.int .i64 l] 3)) (Y1 s) (by kernel_rfl) _ _ 22 rfl 3 i0 (.int .i64 0) 1 8 Try.underlying22 hi0 hp0 hp1 hp2 rfl (by decide) a8 n2 c8 (cells q1) rfl (zr9.below (ba (Below.refl _ _))) ⟨W9.heap.size, 0, none⟩ 1 1 (cells [l]) rfl (by omega) rfl (cell_1i _ _) (cells_one _) (by unfold maxLen; omega) (by omega) ?_; intro a9 c9 w8 hrw8 hk8; have kc8 := (hk8.cell (b := go) s (Nat.lt_of_lt_of_le lt9 (ba (Below.refl W9.heap.size W9)).size) ng9).trans (((ba (o := .cells #[.int .i64 l] 3) (Below.refl W9.heap.size W9)).cell (p := ⟨go, s, none⟩) lt9).trans zc9); have kf8 := (hk8.frozen (b := go) s (Nat.lt_of_lt_of_le lt9 (ba (Below.refl W9.heap.size W9)).size) ng9).trans (((ba (o := .cells #[.int .i64 l] 3) (Below.refl W9.heap.size W9)).frozen (p := ⟨go, s, none⟩) lt9).trans zf9))
            rw [cells_app] at hrw8
            obtain ⟨Y2, ZZ⟩ := (Z9.below (ba (o := .cells #[.int .i64 l] 3) (Below.refl _ _))).set hs1 hk8 hrw8 (by rw [List.length_append, hn1.out]; rfl)
            go_roundw
            case rel => exact ⟨i + 1, k2, L2, Y2, _, _, _, by go_num, by omega, hk9.out.1, hk9.out.2, ZZ, hp9.out⟩
            case measure => simp [intOf]; omega
    · have B := Z.c.bel
      have zc0 := Z.cell 0 (by omega)
      have zc1 := Z.cell 1 (by omega)
      have ltg := Z.c.xl go (.inl rfl)
      have hs2 := two_sets (fun e he => (Z.c.inn e he).2)
      have hW0 := (hO 0 (by omega)).2
      have hW1 := (hO 1 (by omega)).2
      have hl0 := (hO 0 (by omega)).1.len
      have hl1 := (hO 1 (by omega)).1.len
      rw [show ((0 : Nat) : Int) = 0 by rfl] at hl0
      rw [show ((1 : Nat) : Int) = 1 by rfl] at hl1
      rw [← hl0, ← hl1] at hs2
      have hm0 := (Z.row 0 (by omega)).le
      have hm1 := (Z.row 1 (by omega)).le
      generalize (O 0).length = a0 at *
      generalize (O 1).length = a1 at *
      obtain ⟨N, hN⟩ : ∃ N : Nat, L.length = N := ⟨_, rfl⟩
      have HN : Hid (L.length = N) := hN
      have hsum : wrap64 ((a0 : Int) + (a1 : Int)) = (N : Int) := by
        rw [IntWalk.wrap64_in _ (by omega)]
        omega
      have Lu : ∀ u : Up wr, Calls Try.prog 15 #[.pointer (some ⟨g, 0, none⟩)] u.1 fun e w' => e = .returned (.int .i64 (N : Int)) ∧ u.1 = w' := fun u => by
        have := co_len (Z.below u.2).c
        rw [hN] at this
        exact this
      have wu : ∀ u : Up wr, Calls Try.prog 16 #[] u.1 fun e w' => e = .returned (.bool true) ∧ Below u.1.heap.size u.1 w' := fun u => cwakes_any u.1
      have uc := @Up.cell
      have hge : (n1 : Int) ≤ (i : Int) ∨ ((i : Int) < (n1 : Int) ∧ (30 : Int) ≤ (i : Int)) := by omega
      clear hN hs2 hl0 hl1 hW0 hW1 hlt
      rcases hge with hge | ⟨hge, hge2⟩
      all_goals go_upto_region 35 with fail
      all_goals refine wp_region_up (by kernel_rfl) (by kernel_rfl) ?_
      all_goals repeat (go_big_quiet_step ((first | (go_at_call 15; exact Calls.up_same (Lu _)) | (go_at_call 16; exact Calls.up_of (wu _)))))
      all_goals refine wpQuiet_nil ?_
      all_goals rintro _ ⟨u, rfl⟩
      all_goals go_wp2_with fail
      all_goals go_ret
      all_goals exact ⟨rfl, next B u.2⟩
end Go.Proofs.Yteikapeleagedaa
