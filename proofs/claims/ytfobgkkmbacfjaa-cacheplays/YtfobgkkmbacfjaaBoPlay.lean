/- The walk of CachePlays. Conditions: as the theorem states them. -/
import Derived.Test.YtfobgkkmbacfjaaBoE
import Derived.Test.YtfobgkkmbacfjaaActs8In
import Derived.Deep.CutBlock
namespace Go.Proofs.Ytfobgkkmbacfjaa
open Go.RowKit Go.Maps CR
set_option linter.unusedVariables false
set_option maxRecDepth 20000

set_option maxHeartbeats 3000000 in
theorem cachePlays_walk (sets ways : Int) (a : Option Addr) (n cap : Nat) (w : World) (hs : In64 sets) (hl : n ≤ cap) (hc : cap ≤ maxLen) (hA : IsActs8 w a n) :
    Calls Try.prog 3 #[.int .i64 sets, .int .i64 ways, .slice a n cap] w fun e w' => e = .returned (.bool true) ∧ Below w.heap.size w w' := by
  unfold maxLen at hc
  have HS : Hid (In64 sets) := hs
  clear hs
  go_enter Try.func3, Try.ntmps3
  go_upto_if 28 with fail
  go_cut [0] (fun v0 wx => (∃ R : Int, v0 = .int .i64 R ∧ In64 R) ∧ w = wx)
  case first => as_aux_lemma =>
    go_wp2_with (go_at_call 8; refine (within_any _ _ _ (by omega) (by omega)).mono ?_; rintro e wx ⟨rfl, rfl⟩)
    · go_meet
      case rel => exact ⟨⟨_, rfl, by unfold In64; omega⟩, rfl⟩
    · go_meet
      case rel => exact ⟨⟨_, rfl, HS.out⟩, rfl⟩
  case rest => as_aux_lemma =>
    obtain ⟨⟨R, rfl, hR⟩, rfl⟩ := hcut
    have HR : Hid (In64 R) := hR
    clear hR
    go_upto_if 33 with fail
    go_cut [1] (fun v0 wx => (∃ R : Int, v0 = .int .i64 R) ∧ w = wx)
    case first => as_aux_lemma =>
      go_wp2_with (go_at_call 8; refine (within_any _ _ _ (by omega) (by omega)).mono ?_; rintro e wx ⟨rfl, rfl⟩)
      · go_meet
        case rel => exact ⟨⟨_, rfl⟩, rfl⟩
      · go_meet
        case rel => exact ⟨⟨_, rfl⟩, rfl⟩
    case rest => as_aux_lemma =>
      obtain ⟨⟨V, rfl⟩, rfl⟩ := hcut
      go_upto_region 5 with fail
      as_aux_lemma =>
        go_cut [0, 1] (fun v0 v1 wx => (∃ R V : Int, v0 = .int .i64 R ∧ v1 = .int .i64 V ∧ In64 R) ∧ w = wx)
        case first => as_aux_lemma =>
          by_cases h0 : R ≤ 20 <;> by_cases h1 : V ≤ 20
          all_goals (first | have h0' : 20 < R := by omega | skip)
          all_goals (first | have h1' : 20 < V := by omega | skip)
          all_goals (go_wp2; go_meet; case rel => exact ⟨⟨_, _, rfl, rfl, by have := HR.out; unfold In64 at *; omega⟩, rfl⟩)
        case rest => as_aux_lemma =>
          obtain ⟨⟨S0, W0, rfl, rfl, hS0⟩, rfl⟩ := hcut
          clear HR HS
          obtain ⟨S, hS⟩ : ∃ S, max S0 1 = S := ⟨_, rfl⟩
          obtain ⟨W, hW⟩ : ∃ W, max W0 1 = W := ⟨_, rfl⟩
          have hS1 : 1 ≤ S := by omega
          have hW1 : 1 ≤ W := by omega
          have hN := co_new (X := fun _ => False) S0 W0 hS0 (Below.refl w.heap.size w) (fun _ h => h.elim)
          rw [hS, hW] at hN
          have HSW : Hid (max S0 1 = S ∧ max W0 1 = W ∧ 1 ≤ S ∧ 1 ≤ W) := ⟨hS, hW, hS1, hW1⟩
          clear hS hW hS1 hW1 hS0
          go_upto_region 9 with (first
            | (go_at_call 10; refine (bo_new C1 (fun _ h => h) HSW.out.2.2.1 HSW.out.2.2.2 HSW.out.1 HSW.out.2.1).mono ?_; rintro e w2 ⟨g2, X, rfl, B⟩)
            | (go_at_call 9; refine hN.mono ?_; rintro e w1 ⟨g, rfl, b1, C1⟩))
          as_aux_lemma =>
            clear hN C1 b1
            go_wp2_with fail
            go_loopw [9] (fun vi wr => ∃ (i : Nat) (X : Nat → Prop) (k : Int) (L : List En), vi = .int .i64 (i : Int) ∧ i ≤ 24 ∧ k ≤ i ∧ BO w wr g g2 X (fun _ => False) S W k k L L) (fun vi _ => 24 - (intOf vi).toNat)
            case atStart => exact ⟨0, X, 0, [], rfl, by omega, by omega, B⟩
            case round =>
              clear B X
              obtain ⟨i, X, k, L, rfl, hi, hki, B⟩ := hrel
              by_cases hin : (i : Int) < (n : Int)
              · have h1' : decide ((i : Int) < (n : Int)) = true := decide_eq_true hin
                by_cases h24 : (i : Int) < 24
                · skip
                  as_aux_lemma =>
                    have hB := B.bel
                    obtain ⟨bl, o, x, av, nv, cv, rfl, hcell, hsl, hlt, hxb⟩ := hA i (by omega)
                    have cc : ∀ j u, j < 6 → (ecells (x, .slice av nv cv))[j]? = some u → wr.cell? ⟨bl, o + i * 6 + j, none⟩ = some u := fun j u hj hu => by rw [hB.cell (p := ⟨bl, o + i * 6 + j, none⟩) hlt, hcell j hj]; exact hu
                    have x0 : wr.cell? ⟨bl, o + i * 6, none⟩ = some (.int .i64 x.f) := cc 0 _ (by omega) rfl
                    have x1 := cc 1 _ (by omega) rfl
                    have x2 := cc 2 _ (by omega) rfl
                    have x3 := cc 3 _ (by omega) rfl
                    have x4 := cc 4 _ (by omega) rfl
                    have x5 := cc 5 _ (by omega) rfl
                    have HXB : Hid (In64 x.b) := hxb
                    have sl0 := hsl.below hB
                    have bx := Eb.madeT wr x (.slice av nv cv) 30
                    have bel := ba (o := .cells #[.int .i64 x.f, .int .i64 x.b, .int .i64 x.n, .int .i64 x.u, .bool x.q, .slice av nv cv] 30) (Below.refl wr.heap.size wr)
                    have B1 := B.grow (Y := fun j => j = wr.heap.size) bel (fun j hj => .inr (by simp; omega))
                    have sl1 := sl0.below bel
                    clear cc hcell hxb hsl sl0 hB
                    go_upto_region 13 with fail
                    as_aux_lemma =>
                      have hgw : w.heap.size ≤ wr.heap.size := B.bel.size
                      clear x0 x1 x2 x3 x4 x5 B
                      generalize wr.heap.size = ga at *
                      generalize wr.alloc _ = w3 at *
                      clear bel
                      obtain ⟨y0, y1, y2, y3, y4, y5⟩ := bx.lit
                      have hWI : 0 ≤ x.b % 9 ∧ x.b % 9 < 9 := by omega
                      obtain ⟨m9, hm9⟩ : ∃ m, x.b % 9 = m := ⟨_, rfl⟩
                      rw [hm9] at hWI
                      have HM9 : Hid (x.b % 9 = m9) := hm9
                      clear hm9
                      go_upto_if 69 with (go_at_call 8; refine (within_any _ _ _ (by omega) (by omega)).mono ?_; rintro e wx ⟨rfl, rfl⟩; rw [HM9.out])
                      go_cut [11] (fun v wx => (∃ l : Int, v = .int .i64 l ∧ In64 l) ∧ w3 = wx)
                      case first => as_aux_lemma =>
                        by_cases h17 : x.b.tmod 17 = 16
                        · have h17' : (x.b.tmod 17 == 16) = true := by simp [h17]
                          go_wp2_with fail
                          all_goals (go_meet; case rel => exact ⟨⟨_, rfl, HXB.out⟩, rfl⟩)
                        · have h17' : (x.b.tmod 17 == 16) = false := by simp [h17]
                          go_wp2_with fail
                          all_goals (go_meet; case rel => exact ⟨⟨_, rfl, by unfold In64; omega⟩, rfl⟩)
                      case rest => as_aux_lemma =>
                        obtain ⟨⟨l, rfl, hl64⟩, rfl⟩ := hcut
                        have HL64 : Hid (In64 l) := hl64
                        clear hl64 HM9 hWI m9
                        have hd : 0 ≤ x.f % 8 ∧ x.f % 8 < 8 := by omega
                        obtain ⟨d, hd8⟩ : ∃ d, x.f % 8 = d := ⟨_, rfl⟩
                        rw [hd8] at hd
                        have HD : Hid (x.f % 8 = d) := hd8
                        clear hd8
                        go_upto_block 2 with (go_at_call 8; refine (within_any _ _ _ (by omega) (by omega)).mono ?_; rintro e wx ⟨rfl, rfl⟩; rw [HD.out])
                        go_cut [11] (fun v wx => v = .int .i64 l ∧ ∃ X' k' L', k' ≤ (i : Int) + 1 ∧ BO w wx g g2 X' (fun _ => False) S W k' k' L' L')
                        case first => as_aux_lemma =>
                          go_upto_if 117 with fail
                          go_cut [117] (fun v wx => v = .bool (decide (d < 4)) ∧ w3 = wx)
                          case first => as_aux_lemma =>
                            have h0 : d = 0 ∨ d = 1 ∨ d = 2 ∨ d = 3 ∨ d = 4 ∨ d = 5 ∨ d = 6 ∨ d = 7 := by omega
                            rcases h0 with rfl | rfl | rfl | rfl | rfl | rfl | rfl | rfl
                            all_goals (go_wp2_with fail; go_meet; case rel => exact ⟨rfl, rfl⟩)
                          case rest => as_aux_lemma =>
                            obtain ⟨rfl, rfl⟩ := hcut
                            have hd8 : d < 4 ∨ d = 4 ∨ d = 5 ∨ d = 6 ∨ d = 7 := by omega
                            clear hd
                            rcases hd8 with h4 | rfl | rfl | rfl | rfl
                            · rw [decide_eq_true h4]
                              as_aux_lemma =>
                                have HK : Hid (k < 1000000) := by show k < 1000000; omega
                                have HPL : Hid (∀ e : En, (putR S W k L e).2.1 ≤ (i : Int) + 1) := fun e => put_le hki L e
                                have hd4 : d < 4 := h4
                                clear HXB HD hlt hA
                                obtain ⟨z4, hz4⟩ : ∃ z4, x.z.take 4 = z4 := ⟨_, rfl⟩
                                obtain ⟨n4, hn4⟩ : ∃ n4, z4.length = n4 := ⟨_, rfl⟩
                                have hn44 : n4 ≤ 4 := by rw [← hn4, ← hz4, List.length_take]; omega
                                have HZ4 : Hid (x.z.take 4 = z4) := hz4
                                have HN4 : Hid (z4.length = n4) := hn4
                                clear hz4 hn4
                                go_upto_region 31 with (go_at_call 11; refine (cut_any av x.z nv cv 4 _ sl1 (by omega)).mono ?_; rintro e w4 ⟨v4, rfl, own4, b4⟩; rw [HZ4.out] at own4; obtain ⟨a4, c4, rfl, s4⟩ := own4.sl' HN4.out)
                                as_aux_lemma =>
                                  have E4 := bx.next b4
                                  clear own4 sl1 bx y0 y1 y2 y3 y4 y5
                                  obtain ⟨y0, y1, y2, y3, y4, y5⟩ := E4.lit
                                  clear y0 y5
                                  have ylt := E4.lt
                                  go_upto_region 33 with (go_at_call 12; refine (enew_any l x.n x.u x.q a4 z4 n4 c4 _ s4 (by omega)).mono ?_; rintro e w5 ⟨a5, c5, rfl, own5, b5⟩; have E5 := E4.next b5; obtain ⟨q0, q1, q2, q3, q4, q5⟩ := E5.lit; have qlt := E5.lt)
                                  as_aux_lemma =>
                                    obtain ⟨e6, he6⟩ : ∃ e6 : En, e6 = ⟨x.n, x.u, l, x.n, x.q, z4⟩ := ⟨_, rfl⟩
                                    have HE1 : Hid (e6.n = l) := by show _ = _; rw [he6]
                                    have HE2 : Hid (e6.z = z4) := by show _ = _; rw [he6]
                                    have E6 : Eb (w5.alloc (.cells #[.int .i64 x.n, .int .i64 x.u, .int .i64 l, .int .i64 x.n, .bool x.q, .slice a5 n4 c5] 35)) w5.heap.size 0 e6 (.slice a5 n4 c5) := by rw [he6]; exact Eb.made w5 ⟨x.n, x.u, l, x.n, x.q, z4⟩ (.slice a5 n4 c5)
                                    have bel6 := ba (o := .cells #[.int .i64 x.n, .int .i64 x.u, .int .i64 l, .int .i64 x.n, .bool x.q, .slice a5 n4 c5] 35) (Below.refl w5.heap.size w5)
                                    have hlo := own5.lo
                                    have hs3 := b4.size
                                    have hs5 := b5.size
                                    have hs6 := bel6.size
                                    have HWS : Hid (w.heap.size ≤ w3.heap.size) := B1.bel.size
                                    have hsz6 : w5.heap.size < (w5.alloc (.cells #[.int .i64 x.n, .int .i64 x.u, .int .i64 l, .int .i64 x.n, .bool x.q, .slice a5 n4 c5] 35)).heap.size := by simp
                                    have C6 := B1.grow (Y := fun j => j = w5.heap.size ∨ ∃ y : Addr, a5 = some y ∧ j = y.block) (next b4 (next b5 bel6)) (fun j hj => .inr (by
                                      rcases hj with hj | ⟨y, hy, hj⟩
                                      · rw [hj]; omega
                                      · have := hlo y hy; rw [hj]; omega))
                                    have own6 : Own (w5.alloc (.cells #[.int .i64 x.n, .int .i64 x.u, .int .i64 l, .int .i64 x.n, .bool x.q, .slice a5 n4 c5] 35)) w3.heap.size (.slice a5 n4 c5) z4 := (own5.below bel6).low (base' := w3.heap.size) (by omega)
                                    have HLO : Hid (∀ y : Addr, a5 = some y → w.heap.size ≤ y.block ∧ y.block < w5.heap.size) := fun y hy => by have := hlo y hy; have := HWS.out; omega
                                    have HG6 : Hid (w.heap.size ≤ w5.heap.size) := by have := HWS.out; show _ ≤ _; omega
                                    clear qlt
                                    clear b4 b5 B1 hlo hs3 hs5 hs6 hsz6 bel6 s4 own5 E5 q0 q1 q2 q3 q4 q5 y1 y2 y3 y4 ylt E4 he6
                                    generalize w5.heap.size = g6 at *
                                    generalize w5.alloc _ = w6 at *
                                    clear w5 w4
                                    have s6 : Sl w6 a5 n4 c5 e6.z := by rw [HE2.out]; exact own6.slice1 HN4.out
                                    refine wp_region_orders 8 rfl (by kernel_rfl) ?_
                                    have Bd : Below w6.heap.size w6 w6.drew := (Below.refl _ _).drew
                                    have C7 := C6.below Bd
                                    have E7 := E6.next Bd
                                    have own7 := own6.below Bd
                                    have s7 := s6.below Bd
                                    clear C6 E6 own6 s6 Bd
                                    generalize w6.drew = w7 at *
                                    clear w6
                                    have hput1 := bo_put1 C7 HK.out e6 a5 n4 c5 s7 (fun y hy => .inl (.inr ⟨y, hy, rfl⟩)) (by omega) (by rw [HE1.out]; exact HL64.out)
                                    have hput2 : ∀ {wy : World} {pr : Int × Int × List En}, BO w wy g g2 (fun j => (X j ∨ j = ga) ∨ (j = g6 ∨ ∃ y : Addr, a5 = some y ∧ j = y.block)) (fun j => j = g6 ∨ ∃ y : Addr, a5 = some y ∧ j = y.block) S W pr.2.1 k pr.2.2 L → Sl wy a5 n4 c5 e6.z → _ := fun {wy} {pr} c s => bo_put2 c HK.out e6 a5 n4 c5 s (by omega)
                                    have HPE := HPL.out e6
                                    obtain ⟨pr, hpr⟩ : ∃ pr, putR S W k L e6 = pr := ⟨_, rfl⟩
                                    simp only [hpr] at hput1 hput2 HPE
                                    clear hpr HPL
                                    have HPE' : Hid (pr.2.1 ≤ (i : Int) + 1) := HPE
                                    clear HPE
                                    have hI : (fun V : World => Eb V g6 0 e6 (.slice a5 n4 c5)) w7 := E7
                                    refine any_inv (fun V : World => Eb V g6 0 e6 (.slice a5 n4 c5)) [] hI ?_
                                    refine inv_take (v := ?v1) [2, 5, 6, 7] 0 hI rfl (by kernel_rfl) (by kernel_rfl) (by kernel_rfl) (by kernel_rfl) (by kernel_rfl) (fun _ _ _ h => h) (by kernel_rfl) (fun V hV => ?hy1) ?go1
                                    case hy1 => (obtain ⟨i0, i1, i2, i3, i4, i5⟩ := hV.lit; go_simp <;> rfl)
                                    simp only [Act.put, List.setIfInBounds_toArray, List.set_cons_zero, List.set_cons_succ]
                                    refine inv_take (v := ?v2) [2, 5, 6, 7] 1 hI rfl (by kernel_rfl) (by kernel_rfl) (by kernel_rfl) (by kernel_rfl) (by kernel_rfl) (fun _ _ _ h => h) (by kernel_rfl) (fun V hV => ?hy2) ?go2
                                    case hy2 => (obtain ⟨i0, i1, i2, i3, i4, i5⟩ := hV.lit; go_simp <;> rfl)
                                    simp only [Act.put, List.setIfInBounds_toArray, List.set_cons_zero, List.set_cons_succ]
                                    refine inv_take (v := ?v3) [6, 7] 3 hI rfl (by kernel_rfl) (by kernel_rfl) (by kernel_rfl) (by kernel_rfl) (by kernel_rfl) (fun _ _ _ h => h) (by kernel_rfl) (fun V hV => ?hy3) ?go3
                                    case hy3 => (obtain ⟨i0, i1, i2, i3, i4, i5⟩ := hV.lit; go_simp <;> rfl)
                                    simp only [Act.put, List.setIfInBounds_toArray, List.set_cons_zero, List.set_cons_succ]
                                    refine inv_take (v := ?v4) [5, 6, 7] 4 hI rfl (by kernel_rfl) (by kernel_rfl) (by kernel_rfl) (by kernel_rfl) (by kernel_rfl) (fun _ _ _ h => h) (by kernel_rfl) (fun V hV => ?hy4) ?go4
                                    case hy4 => (obtain ⟨i0, i1, i2, i3, i4, i5⟩ := hV.lit; go_simp <;> rfl)
                                    simp only [Act.put, List.setIfInBounds_toArray, List.set_cons_zero, List.set_cons_succ]
                                    refine inv_list 2 (by kernel_rfl) rfl ?_
                                    clear hI
                                    go_wp2_with (go_at_call 13; refine hput1.mono ?_; rintro e w8 ⟨rfl, K8, C8⟩)
                                    have E8 := E7.keep K8 (fun h => h.2 (.inr (.inl rfl)))
                                    have s8 := s7.keep K8 (fun _ y hy h => h.2 (.inr (.inr ⟨y, hy, rfl⟩)))
                                    have own8 := own7.keep K8 (fun j hj h => h.2 (.inr (.inr (by cases a5 with | none => cases hj | some y => exact ⟨y, rfl, (Option.some.inj hj).symm⟩))))
                                    clear hput1 K8 C7 E7 s7 own7
                                    refine then_n ⟨E8, ?_⟩
                                    refine inv_list 5 (by kernel_rfl) rfl ?_
                                    go_wp2_with (go_at_call 15; refine (ref_any e6 a5 n4 c5 _).mono ?_; rintro e w9 ⟨rfl, b9⟩)
                                    have E9 := E8.next b9
                                    have C9 := C8.below b9
                                    have s9 := s8.below b9
                                    have own9 := own8.below b9
                                    clear b9 C8 E8 s8 own8
                                    refine then_n ⟨E9, ?_⟩
                                    refine inv_list 6 (by kernel_rfl) rfl ?_
                                    go_wp2_with (go_at_call 14; refine (hput2 C9 s9).mono ?_; rintro e w10 ⟨rfl, K10, X10, hx1, hx2, C10⟩)
                                    have E10 := E9.keep K10 (fun h => h.2.2 (.inl rfl))
                                    have own10 := own9.keep K10 (fun j hj h => h.2.2 (.inr (by cases a5 with | none => cases hj | some y => exact ⟨y, rfl, (Option.some.inj hj).symm⟩)))
                                    clear hput2 K10 C9 E9 s9 own9 hx1 hx2
                                    refine then_n ⟨E10, ?_⟩
                                    have hne : (pr.1 != pr.1) = false := by simp
                                    refine inv_take [] 7 (.bool false) E10 rfl (by kernel_rfl) (by kernel_rfl) (by kernel_rfl) (by kernel_rfl) (by kernel_rfl) (fun _ _ _ h => h) (by kernel_rfl) (fun w hI => by go_simp) ?_
                                    simp only [Act.put, List.setIfInBounds_toArray, List.set_cons_zero, List.set_cons_succ]
                                    refine inv_done (by kernel_rfl) ?_
                                    clear hne
                                    obtain ⟨y0, y1, y2, y3, y4, y5⟩ := E10.lit
                                    as_aux_lemma =>
                                      go_wp2_with fail
                                      go_loopw [148, 14] (fun vj v14 wx => ∃ (j : Nat) (zz : List Int), vj = .int .i64 (j : Int) ∧ j ≤ n4 ∧ zz.length = n4 ∧ Own wx w3.heap.size (.slice a5 n4 c5) zz ∧ Eb wx g6 0 e6 (.slice a5 n4 c5) ∧ BO w wx g g2 X10 (fun j => j = g6 ∨ ∃ y : Addr, a5 = some y ∧ j = y.block) S W pr.2.1 pr.2.1 pr.2.2 pr.2.2) (fun vj _ _ => n4 - (intOf vj).toNat)
                                      case atStart => exact ⟨0, z4, rfl, by omega, HN4.out, own10, E10, C10⟩
                                      case round =>
                                        clear own10 E10 C10 y0 y1 y2 y3 y4 y5
                                        obtain ⟨j, zz, rfl, hj, hzz, ow, eb, Bj⟩ := hrel
                                        by_cases hlt : j < n4
                                        · have hlt' : (j : Int) < (n4 : Int) := by omega
                                          obtain ⟨b, y, rfl, lo, lt, hc, hf, pk⟩ := ow.poke hzz hlt
                                          have hbg := HLO.out _ rfl
                                          obtain ⟨x0, x1, x2, x3, x4, x5⟩ := eb.lit
                                          go_wp2_with fail
                                          go_roundw
                                          case rel => exact ⟨j + 1, _, by go_num, by omega, by rw [List.length_set]; exact hzz, pk _, eb.far (by have := hbg.2; simp at this ⊢; omega), Bj.write (Keep.one _ _ _ _) (fun q hq => ⟨by rw [hq]; exact hbg.1, .inl (.inr ⟨_, rfl, hq⟩)⟩)⟩
                                          case measure => simp [intOf]; omega
                                        · obtain ⟨x0, x1, x2, x3, x4, x5⟩ := eb.lit
                                          go_wp2_with fail
                                          go_meet
                                          case rel => exact ⟨rfl, _, pr.2.1, pr.2.2, HPE'.out, Bj.grow (Y := fun _ => False) (Below.refl _ _) (fun _ h => h.elim)⟩
                            · rw [decide_eq_false (by decide : ¬ (4 : Int) < 4)]
                              as_aux_lemma =>
                                have B3 := B1.grow (Y := fun _ => False) (Below.refl _ _) (fun j h => h.elim)
                                have HK : Hid (k < 1000000) := by show k < 1000000; omega
                                have HKI : Hid (k ≤ (i : Int) + 1) := by show k ≤ (i : Int) + 1; omega
                                clear sl1 bx y0 y1 y2 y3 y4 y5 B1 HXB HD hlt hA
                                cases hh : hasL L l with
                                | true =>
                                  have HH : Hid (hasL L l = true) := hh
                                  clear hh
                                  have hd1 := bo_drop1 B3 HK.out HL64.out HH.out
                                  have hd2 : ∀ {wy : World}, BO w wy g g2 (fun j => (X j ∨ j = ga) ∨ False) (fun _ => False) S W k k (delK nOf l L) L → _ := fun {wy} c => bo_drop2 c HK.out HH.out
                                  obtain ⟨e4, he4⟩ : ∃ e4, entL L l = e4 := ⟨_, rfl⟩
                                  rw [he4] at hd1
                                  simp only [he4] at hd2
                                  clear he4
                                  go_upto_region 42 with (go_at_call 16; refine hd1.mono ?_; rintro e w4 ⟨d4, rfl, K4, hd4, C4⟩; obtain ⟨a4, n4, c4, rfl, hs4, hn4, hD4⟩ := hd4)
                                  as_aux_lemma =>
                                    have hs4' : Sl w4 a4 n4 c4 e4.z := hs4
                                    have E5 := Eb.made w4 e4 (.slice a4 n4 c4)
                                    have bel5 := ba (o := .cells #[.int .i64 e4.f, .int .i64 e4.b, .int .i64 e4.n, .int .i64 e4.u, .bool e4.q, .slice a4 n4 c4] 35) (Below.refl w4.heap.size w4)
                                    have C5 := C4.below bel5
                                    have s5 := hs4'.below bel5
                                    have hxl : ∀ j, ((X j ∨ j = ga) ∨ False) → j < w4.heap.size := C4.c.xl
                                    have HDX : Hid (e4.z ≠ [] → ∀ y : Addr, a4 = some y → NX w (fun j => (X j ∨ j = ga) ∨ False) y.block) := hD4
                                    clear hs4 hs4' hD4 hd1 K4 C4 B3 hn4
                                    generalize w4.heap.size = g4 at *
                                    generalize w4.alloc _ = w5 at *
                                    clear bel5 w4
                                    go_upto_region 43 with (go_at_call 17; refine (hd2 C5).mono ?_; rintro e w6 ⟨d6, rfl, K6, hd6, X6, hx1, hx2, C6⟩; obtain ⟨a6, n6, c6, rfl, hs6, hn6, hD6⟩ := hd6)
                                    as_aux_lemma =>
                                      have E6 := E5.keep K6 (fun h => by have := hxl _ h.1; omega)
                                      have s6 := s5.keep K6 (fun hz y hy hx => (HDX.out hz y hy).2 hx.1)
                                      have hs6' : Sl w6 a6 n6 c6 e4.z := hs6
                                      have hnn : n6 = n4 := hs6'.len.symm.trans s6.len
                                      subst hnn
                                      have E7 := Eb.madeT w6 e4 (.slice a6 n6 c6) 41
                                      have bel7 := ba (o := .cells #[.int .i64 e4.f, .int .i64 e4.b, .int .i64 e4.n, .int .i64 e4.u, .bool e4.q, .slice a6 n6 c6] 41) (Below.refl w6.heap.size w6)
                                      have C7 := C6.below bel7
                                      have s7 := s6.below bel7
                                      have t7 := hs6'.below bel7
                                      have E67 := E6.next bel7
                                      clear hs6 hs6' hD6 hn6 hd2 K6 C6 hxl HDX E5 E6 s5 s6 C5 hx1 hx2
                                      generalize w6.heap.size = g6 at *
                                      generalize w6.alloc _ = w7 at *
                                      clear bel7 w6 w5
                                      obtain ⟨y0, y1, y2, y3, y4, y5⟩ := E67.lit
                                      obtain ⟨q0, q1, q2, q3, q4, q5⟩ := E7.lit
                                      clear E67 E7
                                      go_wp2_with (first
                                        | (go_at_call 18; refine (sameEntry_any e4 _ _ _ _ _ _ s7 t7).mono ?_; rintro e w8 ⟨rfl, b8⟩))
                                      go_meet
                                      case rel => exact ⟨rfl, X6, k, _, HKI.out, C7.below b8⟩
                                | false =>
                                  have HH : Hid (hasL L l = false) := hh
                                  clear hh
                                  have hz0 : zeroEn.val (.slice none 0 0) = .agg #[.int .i64 0, .int .i64 0, .int .i64 0, .int .i64 0, .bool false, .slice none 0 0] := rfl
                                  have hd1 := bo_drop1_no B3 HL64.out HH.out
                                  have hd2 : ∀ {wy : World}, BO w wy g g2 (fun j => (X j ∨ j = ga) ∨ False) (fun _ => False) S W k k L L → _ := fun {wy} c => bo_drop2_no c HH.out
                                  rw [hz0] at hd1
                                  simp only [hz0] at hd2
                                  clear hz0
                                  go_upto_region 42 with (go_at_call 16; refine hd1.mono ?_; rintro e w4 ⟨rfl, b4⟩)
                                  as_aux_lemma =>
                                    have E5 := Eb.made w4 ⟨0, 0, 0, 0, false, []⟩ (.slice none 0 0)
                                    have bel5 := ba (o := .cells #[.int .i64 0, .int .i64 0, .int .i64 0, .int .i64 0, .bool false, .slice none 0 0] 35) (Below.refl w4.heap.size w4)
                                    have C5 := B3.below (next b4 bel5)
                                    clear hd1 B3 b4
                                    generalize w4.heap.size = g4 at *
                                    generalize w4.alloc _ = w5 at *
                                    clear bel5 w4
                                    go_upto_region 43 with (go_at_call 17; refine (hd2 C5).mono ?_; rintro e w6 ⟨rfl, b6⟩)
                                    as_aux_lemma =>
                                      have bel7 := ba (o := .cells #[.int .i64 0, .int .i64 0, .int .i64 0, .int .i64 0, .bool false, .slice none 0 0] 41) (Below.refl w6.heap.size w6)
                                      have E7 := (E5.next b6).next bel7
                                      have C7 := C5.below (next b6 bel7)
                                      clear hd2 C5 E5 b6
                                      generalize w6.heap.size = g6 at *
                                      generalize w6.alloc _ = w7 at *
                                      clear bel7 w6 w5
                                      obtain ⟨y0, y1, y2, y3, y4, y5⟩ := E7.lit
                                      simp only at y0 y1 y2 y3 y4
                                      clear E7
                                      go_wp2_with fail
                                      go_meet
                                      case rel => exact ⟨rfl, _, k, _, HKI.out, C7⟩
                            · rw [decide_eq_false (by decide : ¬ (5 : Int) < 4)]
                              as_aux_lemma =>
                                have B3 := B1.grow (Y := fun _ => False) (Below.refl _ _) (fun j h => h.elim)
                                have hne : (hasL L l != hasL L l) = false := by simp
                                obtain ⟨hb, hhb⟩ : ∃ hb, hasL L l = hb := ⟨_, rfl⟩
                                have HK : Hid (k < 1000000) := by show k < 1000000; omega
                                have HT : Hid ((touchR k L l).1 ≤ (i : Int) + 1) := touch_le hki L l
                                go_wp2_with (first
                                  | (go_at_call 20; refine (bo_touch2 C4 HK.out l).mono ?_; rintro e w5 ⟨rfl, k5, X5, hx1, hx2, C5⟩)
                                  | (go_at_call 19; refine (bo_touch1 B3 HK.out HL64.out).mono ?_; rintro e w4 ⟨rfl, k4, C4⟩))
                                go_meet
                                case rel => exact ⟨rfl, X5, _, _, HT.out, C5⟩
                            · rw [decide_eq_false (by decide : ¬ (6 : Int) < 4)]
                              as_aux_lemma =>
                                have B3 := B1.grow (Y := fun _ => False) (Below.refl _ _) (fun j h => h.elim)
                                have hne : (hasL L l != hasL L l) = false := by simp
                                obtain ⟨hb, hhb⟩ : ∃ hb, hasL L l = hb := ⟨_, rfl⟩
                                have HK : Hid (k < 1000000) := by show k < 1000000; omega
                                have HT : Hid ((touchR k L l).1 ≤ (i : Int) + 1) := touch_le hki L l
                                go_wp2_with (first
                                  | (go_at_call 20; refine (bo_touch2 C4 HK.out l).mono ?_; rintro e w5 ⟨rfl, k5, X5, hx1, hx2, C5⟩)
                                  | (go_at_call 19; refine (bo_touch1 B3 HK.out HL64.out).mono ?_; rintro e w4 ⟨rfl, k4, C4⟩))
                                go_meet
                                case rel => exact ⟨rfl, X5, _, _, HT.out, C5⟩
                            · rw [decide_eq_false (by decide : ¬ (7 : Int) < 4)]
                              as_aux_lemma =>
                                have HKI : Hid (k ≤ (i : Int) + 1) := by show k ≤ (i : Int) + 1; omega
                                have B3 := B1.grow (Y := fun _ => False) (Below.refl _ _) (fun j h => h.elim)
                                clear sl1 bx y0 y1 y2 y3 y4 y5 B1 HXB HD hlt hA
                                have hd1 := co_find B3.c HL64.out
                                obtain ⟨e4, he4⟩ : ∃ e4, entL L l = e4 := ⟨_, rfl⟩
                                obtain ⟨n4, hn4⟩ : ∃ n4, e4.z.length = n4 := ⟨_, rfl⟩
                                have HN4 : Hid (e4.z.length = n4) := hn4
                                have HE4 : Hid (hasL L l = false → e4 = zeroEn) := fun h => by
                                  rw [← he4]
                                  unfold hasL at h
                                  unfold entL
                                  cases hg : getK nOf l L with
                                  | none => rfl
                                  | some r => rw [hg] at h; cases h
                                obtain ⟨ok, hok⟩ : ∃ ok, hasL L l = ok := ⟨_, rfl⟩
                                have HOK : Hid (hasL L l = ok) := hok
                                rw [he4, hn4, hok] at hd1
                                rw [hok] at HE4
                                clear he4 hn4 hok
                                go_upto_region 18 with (go_at_call 21; refine hd1.mono ?_; rintro e w4 ⟨a4, c4, rfl, own4, b4⟩)
                                as_aux_lemma =>
                                  have E5 := Eb.made w4 e4 (.slice a4 n4 c4)
                                  have bel5 := ba (o := .cells #[.int .i64 e4.f, .int .i64 e4.b, .int .i64 e4.n, .int .i64 e4.u, .bool e4.q, .slice a4 n4 c4] 35) (Below.refl w4.heap.size w4)
                                  have hlo := own4.lo
                                  have hs3 := B3.bel.size
                                  have C5 := B3.grow (Y := fun j => ∃ y : Addr, a4 = some y ∧ j = y.block) (next b4 bel5) (fun j hj => .inr (by obtain ⟨y, hy, rfl⟩ := hj; have := hlo y hy; have := bel5.size; omega))
                                  have own5 := own4.below bel5
                                  have HLO : Hid (∀ y : Addr, a4 = some y → w.heap.size ≤ y.block ∧ y.block < w4.heap.size) := fun y hy => by have := hlo y hy; omega
                                  have hs4 := own4.slice1 HN4.out
                                  have hnm : n4 ≤ 9223372036854775807 := by have h1 := hs4.le; have h2 := hs4.max; unfold maxLen at h2; omega
                                  clear hd1 own4 b4 B3 hlo hs3 hs4
                                  generalize w4.heap.size = g4 at *
                                  generalize w4.alloc _ = w5 at *
                                  clear bel5 w4
                                  obtain ⟨y0, y1, y2, y3, y4, y5⟩ := E5.lit
                                  go_upto_region 19 with (go_at_call 22; refine (bo_at2 C5 l).mono ?_; rintro e w6 ⟨p, rfl, hp, rfl⟩)
                                  as_aux_lemma =>
                                    rw [HOK.out] at hp
                                    cases ok with
                                    | true =>
                                      have hp0 : 0 ≤ p := of_decide_eq_true hp
                                      clear hp
                                      go_wp2_with fail
                                      as_aux_lemma =>
                                        go_loopw [106, 22] (fun vj v22 wx => ∃ (j : Nat) (zz : List Int), vj = .int .i64 (j : Int) ∧ j ≤ n4 ∧ zz.length = n4 ∧ Own wx w3.heap.size (.slice a4 n4 c4) zz ∧ Eb wx g4 0 e4 (.slice a4 n4 c4) ∧ BO w wx g g2 (fun j => ((X j ∨ j = ga) ∨ False) ∨ ∃ y : Addr, a4 = some y ∧ j = y.block) (fun j => ∃ y : Addr, a4 = some y ∧ j = y.block) S W k k L L) (fun vj _ _ => n4 - (intOf vj).toNat)
                                        case atStart => exact ⟨0, e4.z, rfl, by omega, HN4.out, own5, E5, C5⟩
                                        case round =>
                                          obtain ⟨j, zz, rfl, hj, hzz, ow, eb, Bj⟩ := hrel
                                          by_cases hlt : j < n4
                                          · have hlt' : (j : Int) < (n4 : Int) := by omega
                                            obtain ⟨b, y, rfl, lo, lt, hc, hf, pk⟩ := ow.poke hzz hlt
                                            have hbg := HLO.out _ rfl
                                            obtain ⟨x0, x1, x2, x3, x4, x5⟩ := eb.lit
                                            go_wp2_with fail
                                            go_roundw
                                            case rel => exact ⟨j + 1, _, by go_num, by omega, by rw [List.length_set]; exact hzz, pk _, eb.far (by have := hbg.2; simp at this ⊢; omega), Bj.write (Keep.one _ _ _ _) (fun q hq => ⟨by rw [hq]; exact hbg.1, .inl ⟨_, rfl, hq⟩⟩)⟩
                                            case measure => simp [intOf]; omega
                                          · obtain ⟨x0, x1, x2, x3, x4, x5⟩ := eb.lit
                                            go_wp2_with fail
                                            go_meet
                                            case rel => exact ⟨rfl, _, k, L, HKI.out, Bj.grow (Y := fun _ => False) (Below.refl _ _) (fun _ h => h.elim)⟩
                                    | false =>
                                      have hp0 : p < 0 := by have := of_decide_eq_false hp; omega
                                      have e20 : e4.n = 0 := by rw [HE4.out rfl]; rfl
                                      have hn0 : n4 = 0 := by rw [← HN4.out, HE4.out rfl]; rfl
                                      have hnn : ((n4 : Int) != 0) = false := by rw [hn0]; rfl
                                      rw [e20] at y2
                                      clear hp e20 hn0
                                      go_wp2_with fail
                                      as_aux_lemma =>
                                        go_loopw [106, 22] (fun vj v22 wx => ∃ (j : Nat) (zz : List Int), vj = .int .i64 (j : Int) ∧ j ≤ n4 ∧ zz.length = n4 ∧ Own wx w3.heap.size (.slice a4 n4 c4) zz ∧ Eb wx g4 0 e4 (.slice a4 n4 c4) ∧ BO w wx g g2 (fun j => ((X j ∨ j = ga) ∨ False) ∨ ∃ y : Addr, a4 = some y ∧ j = y.block) (fun j => ∃ y : Addr, a4 = some y ∧ j = y.block) S W k k L L) (fun vj _ _ => n4 - (intOf vj).toNat)
                                        case atStart => exact ⟨0, e4.z, rfl, by omega, HN4.out, own5, E5, C5⟩
                                        case round =>
                                          obtain ⟨j, zz, rfl, hj, hzz, ow, eb, Bj⟩ := hrel
                                          by_cases hlt : j < n4
                                          · have hlt' : (j : Int) < (n4 : Int) := by omega
                                            obtain ⟨b, y, rfl, lo, lt, hc, hf, pk⟩ := ow.poke hzz hlt
                                            have hbg := HLO.out _ rfl
                                            obtain ⟨x0, x1, x2, x3, x4, x5⟩ := eb.lit
                                            go_wp2_with fail
                                            go_roundw
                                            case rel => exact ⟨j + 1, _, by go_num, by omega, by rw [List.length_set]; exact hzz, pk _, eb.far (by have := hbg.2; simp at this ⊢; omega), Bj.write (Keep.one _ _ _ _) (fun q hq => ⟨by rw [hq]; exact hbg.1, .inl ⟨_, rfl, hq⟩⟩)⟩
                                            case measure => simp [intOf]; omega
                                          · obtain ⟨x0, x1, x2, x3, x4, x5⟩ := eb.lit
                                            go_wp2_with fail
                                            go_meet
                                            case rel => exact ⟨rfl, _, k, L, HKI.out, Bj.grow (Y := fun _ => False) (Below.refl _ _) (fun _ h => h.elim)⟩
                        case rest => as_aux_lemma =>
                          obtain ⟨rfl, X', k', L', hk', B2⟩ := hcut
                          clear B1 sl1 bx y0 y1 y2 y3 y4 y5 HXB HD hd hlt hA hgw
                          obtain ⟨p, hp⟩ : ∃ p, (vicL S L' l).1 = p := ⟨_, rfl⟩
                          obtain ⟨fb, hf⟩ : ∃ fb, fullL S W L' l = fb := ⟨_, rfl⟩
                          have HP : Hid ((vicL S L' l).1 = p) := hp
                          have HF : Hid (fullL S W L' l = fb) := hf
                          have HK : Hid (k' < 1000000) := by show k' < 1000000; omega
                          clear hp hf
                          have hne : (fb != fb) = false := by simp
                          go_upto_region 51 with (first
                            | (go_at_call 24; refine (bo_victim2 (B2.below b5) l).mono ?_; rw [HP.out]; rintro e w6 ⟨rfl, b6⟩)
                            | (go_at_call 23; refine (co_victim B2.c l).mono ?_; rintro e w5 ⟨v, ok, rfl, hvic, b5⟩))
                          as_aux_lemma =>
                            have B6 := B2.below (next b5 b6)
                            obtain ⟨t1, t2, t3⟩ := vic_same B2.d1.nn hvic
                            rw [HP.out] at t1 t2
                            clear hvic b5 b6
                            by_cases hp0 : 0 ≤ p
                            · rw [decide_eq_true hp0] at t1
                              subst t1
                              obtain rfl := t2 rfl
                              clear t2 t3
                              have hnv : (v != v) = false := by simp
                              go_wp2_with (first
                                | (go_at_call 27; refine (bo_same (B6.below (next b7 b8)) HK.out).mono ?_; rintro e w9 ⟨rfl, b9⟩)
                                | (go_at_call 26; refine (bo_full2 (B6.below b7) l HF.out).mono ?_; rintro e w8 ⟨rfl, b8⟩)
                                | (go_at_call 25; refine (co_full_b B6.c HL64.out HF.out).mono ?_; rintro e w7 ⟨rfl, b7⟩))
                              go_roundw
                              case rel => exact ⟨i + 1, X', k', L', by go_num, by omega, by omega, B6.below (next b7 (next b8 b9))⟩
                              case measure => simp [intOf]; omega
                            · rw [decide_eq_false hp0] at t1
                              subst t1
                              obtain rfl := t3 rfl
                              clear t2 t3
                              go_wp2_with (first
                                | (go_at_call 27; refine (bo_same (B6.below (next b7 b8)) HK.out).mono ?_; rintro e w9 ⟨rfl, b9⟩)
                                | (go_at_call 26; refine (bo_full2 (B6.below b7) l HF.out).mono ?_; rintro e w8 ⟨rfl, b8⟩)
                                | (go_at_call 25; refine (co_full_b B6.c HL64.out HF.out).mono ?_; rintro e w7 ⟨rfl, b7⟩))
                              go_roundw
                              case rel => exact ⟨i + 1, X', k', L', by go_num, by omega, by omega, B6.below (next b7 (next b8 b9))⟩
                              case measure => simp [intOf]; omega
                · skip
                  as_aux_lemma =>
                    have hB := B.bel
                    go_wp2_with (go_at_call 28; refine (cwakes_any wr).mono ?_; rintro e w9 ⟨rfl, b9⟩)
                    go_ret
                    exact ⟨rfl, next hB b9⟩
              · skip
                as_aux_lemma =>
                  have hB := B.bel
                  go_wp2_with (go_at_call 28; refine (cwakes_any wr).mono ?_; rintro e w9 ⟨rfl, b9⟩)
                  go_ret
                  exact ⟨rfl, next hB b9⟩
end Go.Proofs.Ytfobgkkmbacfjaa
