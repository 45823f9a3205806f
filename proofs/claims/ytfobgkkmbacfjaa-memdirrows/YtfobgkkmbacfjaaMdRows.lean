/- The walk of MemdirRows. Conditions: as the theorem states them. -/
import Derived.Test.YtfobgkkmbacfjaaMdRw0
import Derived.Test.YtfobgkkmbacfjaaIntsSame
import Derived.Maps.RangeWalk
namespace Go.Proofs.Ytfobgkkmbacfjaa
open Go.RowKit Go.Maps
set_option linter.unusedVariables false
set_option maxRecDepth 20000

set_option maxHeartbeats 2000000 in
theorem memdirRows_walk (w : World) (v : Value) (hv : IsSetup w v) (ax : Option Addr) (lx cx : Nat) (zx : List Int) (hx : Sl w ax lx cx zx) :
    Calls Try.prog 7 #[v, .slice ax lx cx] w fun e w' => e = .returned (.bool true) ∧ Below w.heap.size w w' := by
  obtain ⟨n, l, k, s, y, o, i, a0, n0, q0, z0, a1, n1, q1, z1, a2, n2, q2, z2, a3, n3, q3, z3, a4, n4, q4, z4, rfl, h0, h1, h2, h3, h4⟩ := hv
  clear h1 h2 h3 h4
  have hmx := hx.max
  have hle := hx.le
  unfold maxLen at hmx
  unfold setup
  go_enter Try.func7, Try.ntmps7
  go_upto_region 2 with (go_at_call 29; refine (config_c _ _ _ _ _ _ _ _ _ _ _ _ _ _ z0 _ (h0.below (by exact ba (Below.refl _ _)))).mono ?_; rintro e w1 ⟨N, L, K, S, Y, O, I, zi, av, nv, cv, rfl, hcf, hnv, hown, hb1⟩; unfold cfg)
  have hB := ba (o := .cells #[.int .i64 (N : Int), .int .i64 (L : Int), .int .i64 (K : Int), .int .i64 (S : Int), .int .i64 (Y : Int), .int .i64 (O : Int), .int .i64 (I : Int), .slice av nv cv] 58) (next (ba (Below.refl _ _)) hb1)
  have hcb := CB.made w1 N L K S Y O I (.slice av nv cv)
  have hsl := (own_sl hown).below (ba (o := .cells #[.int .i64 (N : Int), .int .i64 (L : Int), .int .i64 (K : Int), .int .i64 (S : Int), .int .i64 (Y : Int), .int .i64 (O : Int), .int .i64 (I : Int), .slice av nv cv] 58) (Below.refl _ _))
  have HGC : Hid (w.heap.size ≤ w1.heap.size) := by have := hb1.size; simp at this; show _ ≤ _; omega
  generalize w1.alloc (.cells #[.int .i64 (N : Int), .int .i64 (L : Int), .int .i64 (K : Int), .int .i64 (S : Int), .int .i64 (Y : Int), .int .i64 (O : Int), .int .i64 (I : Int), .slice av nv cv] 58) = W at *
  generalize w1.heap.size = gc at *
  obtain ⟨N0, N1, L0, L1, K0, K1, S0, S1, Y0, Y1, O0, O1, I0, I1⟩ := hcf.bd
  obtain ⟨p0, p2, p3⟩ := mul_bd L0 L1 K0 K1
  have hnl : nv ≤ 8 := by have := hcf.len; have := hnv.out; omega
  have hnew := mo_new (w := w) (X := fun j => j = gc) N L K S Y O I av nv cv zi 0 hB (fun j hj => hj ▸ hcb.lt) hsl N0 (by omega) (by omega) K0 (by omega) (by omega)
  have HRL : Hid ((rows0 zi N L K 0 L).length ≤ L) := rows0_len
  have HRR : Hid (RiseK hOf (rows0 zi N L K 0 L)) := rows0_rise
  have HRI : Hid (∀ x ∈ rows0 zi N L K 0 L, 0 ≤ x.n ∧ x.n < (L : Int)) := rows0_lt
  have HRH : Hid (∀ q : Int, 0 ≤ q → q < (L : Int) → q.tmod (N : Int) = 0 → hasH (rows0 zi N L K 0 L) q = true) := fun q h0 h1 h2 => hasH_some (rows0_in h0 h1 (by unfold remI; rw [if_neg (by omega)]; rw [Int.tmod_eq_emod_of_nonneg h0] at h2; exact h2))
  clear hcf hown hb1 h0 hsl p0 p2 p3 S0 S1 Y0 Y1 O0 O1 I0 I1 hnv hnl hB
  unfold cfg at hnew
  generalize rows0 zi N L K 0 L = R0 at *
  obtain ⟨c0, c1, c2, c3, c4, c5, c6, c7, clt⟩ := hcb
  have hmm := @run_makeMap Try.prog
  go_upto_region 5 with (go_at_call 30; refine hnew.mono ?_; rintro e w2 ⟨g, rfl, b2, M⟩)
  have e := fun o => (b2.cell (p := ⟨gc, o, none⟩) clt)
  replace c0 := (e 0).trans c0
  replace c1 := (e 1).trans c1
  replace c2 := (e 2).trans c2
  replace clt := Nat.lt_of_lt_of_le clt b2.size
  clear e c3 c4 c5 c6 c7 b2 hnew W w1
  go_upto_region 6 with fail
  have T0 : WT w (w2.alloc (.map #[] 0)) g gc w2.heap.size (fun j => j = gc ∨ j = w2.heap.size) (fun _ => False) N L K R0 [] := by
    have b3 : Below w2.heap.size w2 (w2.alloc (.map #[] 0)) := ba (Below.refl _ _)
    have e := fun o => (b3.cell (p := ⟨gc, o, none⟩) clt)
    refine ⟨M.grow b3 (fun j hj => ?_), im_made w2, fun r hr => (by cases hr), fun j hj => hj.elim, .inr rfl, .inl rfl, ⟨id, id, by omega⟩, (e 0).trans c0, (e 1).trans c1, (e 2).trans c2, List.Pairwise.nil, fun j hj => ?_, by simp⟩
    · rcases hj with rfl | rfl
      · exact ⟨.inl rfl, by have := b3.size; omega⟩
      · exact ⟨.inr (Nat.le_refl _), by simp⟩
    · rcases hj with rfl | rfl
      · exact HGC.out
      · exact M.bel.size
  have hbw : w2.heap.size < (w2.alloc (.map #[] 0)).heap.size := by simp
  clear c0 c1 c2 clt M
  generalize w2.heap.size = bw at *
  generalize w2.alloc (.map #[] 0) = w3 at *
  clear w2
  obtain ⟨m, hm⟩ : ∃ m, R0.length = m := ⟨_, rfl⟩
  have HM : Hid ((R0.map hOf).length = m) := by show _ = _; rw [List.length_map]; exact hm
  have HM0 : Hid (R0.length = m) := hm
  have hmL : m ≤ L := by rw [← hm]; exact HRL.out
  clear hm
  go_upto_region 7 with (go_at_call 39; refine (mo_lines T0.mo).mono ?_; rintro e w4 ⟨v4, rfl, own4, b4⟩; obtain ⟨al, cl, rfl, sl⟩ := own4.sl' HM.out)
  have T1 := T0.below b4
  have HAL : Hid (∀ y : Addr, al = some y → y.block ≠ bw) := fun y hy => by have := (own4.lo y hy).1; omega
  clear T0 own4 b4 hbw hmm
  clear w3
  go_loopw [30] (fun v30 wx => ∃ (i : Nat) (X E : Nat → Prop) (Q : List (Hr × Value)), v30 = .int .i64 (i : Int) ∧ i ≤ m ∧ WT w wx g gc bw X E N L K R0 Q ∧ Q.map pzR = (R0.map pzH).take i ∧ Sl wx al m cl (R0.map hOf)) (fun v30 _ => m - (intOf v30).toNat)
  case atStart => exact ⟨0, _, _, [], rfl, by omega, T1, rfl, sl⟩
  case round =>
    clear T1 sl
    clear w4
    obtain ⟨i, X, E, Q, rfl, hi, T, hQ, sl⟩ := hrel
    by_cases hlt : i < m
    · have hlt' : (i : Int) < (m : Int) := by omega
      obtain ⟨x, hxi⟩ : ∃ x, R0[i]? = some x := ⟨_, List.getElem?_eq_getElem (by rw [HM0.out]; exact hlt)⟩
      have hxm := List.mem_of_getElem? hxi
      have HXN := HRI.out x hxm
      have HXG : Hid (getK hOf x.n R0 = some x) := getK_mem (key := hOf) HRR.out hxm
      have HXZ : Hid (x.z.length = K) := by have := T.mo.zl x hxm; show _ = _; omega
      obtain ⟨lb, lo, rfl, llt, lc⟩ := sl.at hlt
      have e1 : (R0.map hOf)[i]?.getD 0 = x.n := by rw [List.getElem?_map, hxi]; rfl
      rw [e1] at lc
      have HXP : Hid (putK Prod.fst (x.n, x.z) ((R0.map pzH).take i) = (R0.map pzH).take (i + 1)) := rise_take (riseH HRR.out) (by rw [List.getElem?_map, hxi]; rfl)
      have HIX : Hid (In64 x.n) := by unfold Hid In64; omega
      have HQL : Hid (Q.length ≤ i) := by have := congrArg List.length hQ; simp at this; show _ ≤ _; omega
      clear e1 hxi hxm HXN
      obtain ⟨xn, xs, xh, xz⟩ := x
      simp only at lc
      go_upto_region 10 with (go_at_call 32; refine (mo_row_at T.mo HIX.out HXG.out HXZ.out).mono ?_; rintro e w5 ⟨ar, cr, rfl, own5, b5⟩)
      have bel := ba (o := .cells #[.int .i64 xs, .int .i64 xh, .slice ar K cr] 65) (Below.refl w5.heap.size w5)
      have r2 : (w5.alloc (.cells #[.int .i64 xs, .int .i64 xh, .slice ar K cr] 65)).cell? ⟨w5.heap.size, 2, none⟩ = some (.slice ar K cr) := by simp
      have rlt : w5.heap.size < (w5.alloc (.cells #[.int .i64 xs, .int .i64 xh, .slice ar K cr] 65)).heap.size := by simp
      have T6 := (T.below b5).below bel
      have s6 := (own_sl own5).below bel
      have sl6 := (sl.below b5).below bel
      clear T sl own5 b5 bel lc llt
      generalize w5.heap.size = gr at *
      generalize w5.alloc _ = w6 at *
      clear w5
      have HLN : Hid (∀ v : Value, (putK hKey ((⟨xn, 0, 0, xz⟩ : Hr), v) Q).length ≤ 1000) := fun v => by have := putK_len (key := hKey) ((⟨xn, 0, 0, xz⟩ : Hr), v) Q; have := HQL.out; omega
      go_wp2_with (go_at_call 40; refine (copy_any ar xz K cr _ s6 (by omega)).mono ?_; rintro e w7 ⟨v7, rfl, own7, b7⟩; obtain ⟨a7, c7, rfl, s7⟩ := own7.sl' HXZ.out; obtain ⟨w8, X8, E8, hrun8, T8, K8, z8, hX8, hE8⟩ := T6.copyIn (n := xn) b7 own7 (by omega) HIX.out (HLN.out _))
      have sl8 := (sl6.below b7).keep K8 (fun _ y hy e => HAL.out y hy e)
      go_roundw
      case rel => exact ⟨i + 1, X8, E8, _, by go_num, by omega, T8, by rw [pz_put, hQ]; exact HXP.out, sl8⟩
      case measure => simp [intOf]; omega
    · obtain rfl : i = m := by omega
      as_aux_lemma =>
        have hQ0 : Q.map pzR = R0.map pzH := by rw [hQ, List.take_of_length_le (by rw [List.length_map]; exact Nat.le_of_eq HM0.out)]
        clear hQ sl HM HAL hi hlt
        go_wp2_with fail
        go_loopw [12] (fun v12 wx => ∃ (i : Nat) (X E : Nat → Prop) (Ld : List Hr) (Q : List (Hr × Value)), v12 = .int .i64 (i : Int) ∧ i ≤ 12 ∧ WT w wx g gc bw X E N L K Ld Q ∧ Q.map pzR = Ld.map pzH ∧ Ld.map hOf = R0.map hOf) (fun v12 _ => 12 - (intOf v12).toNat)
        case atStart => exact ⟨0, X, E, R0, Q, rfl, by omega, T, hQ0, rfl⟩
        case round =>
          clear T hQ0
          clear X E Q
          obtain ⟨i2, X, E, Ld, Q, rfl, hi2, T, hQ, hK⟩ := hrel
          by_cases hin : (i2 : Int) < (lx : Int)
          · have hin' : decide ((i2 : Int) < (lx : Int)) = true := decide_eq_true hin
            by_cases h12 : (i2 : Int) < 12
            · as_aux_lemma =>
                have hil : i2 < lx := by omega
                obtain ⟨xb, xo, rfl, xlt0, xc0⟩ := hx.at hil
                obtain ⟨vi, hvi⟩ : ∃ vi, zx[i2]?.getD 0 = vi := ⟨_, rfl⟩
                rw [hvi] at xc0
                have HXB : Hid (xb < w.heap.size) := xlt0
                have xc := (T.mo.bel.cell (p := ⟨xb, xo + i2, none⟩) xlt0).trans xc0
                have xlt := Nat.lt_of_lt_of_le xlt0 T.mo.bel.size
                have HVI : Hid (w.cell? ⟨xb, xo + i2, none⟩ = some (.int .i64 vi)) := xc0
                have c1 := T.c1
                have clt := T.clt
                clear xc0 xlt0 hvi
                go_upto_region 17 with fail
                have uc := @Up.cell
                refine wp_region_up (by kernel_rfl) (by kernel_rfl) ?_
                repeat (go_big_quiet_step ((go_at_call 8; exact Calls.up_same (within_any _ _ _ (by omega) (by omega)))))
                refine wpQuiet_nil ?_
                rintro _ ⟨u, rfl⟩
                have Tu := T.below u.2
                clear T xc xlt c1 clt uc
                generalize u.1 = wu at *
                clear u
                clear wr
                have hl0 : 0 ≤ vi % (L : Int) ∧ vi % (L : Int) < (L : Int) := ⟨Int.emod_nonneg _ (by omega), Int.emod_lt_of_pos _ (by omega)⟩
                obtain ⟨l, hl⟩ : ∃ l, vi % (L : Int) = l := ⟨_, rfl⟩
                rw [hl] at hl0 ⊢
                clear hl
                have c0 := Tu.c0
                have c2 := Tu.c2
                have clt := Tu.clt
                by_cases hr : l % (N : Int) = 0
                · have hr' : (l % (N : Int) != 0) = false := by simp [hr]
                  have HHL : Hid (hasH Ld l = true) := by show _ = _; rw [hasH_keys hK]; exact HRH.out l hl0.1 hl0.2 (by rw [Int.tmod_eq_emod_of_nonneg hl0.1]; exact hr)
                  have HIL : Hid (In64 l) := by unfold Hid In64; omega
                  have hmk : ∀ w : World, _ := fun w => make_row K (by omega) w
                  go_upto_region 20 with fail
                  have own : Own (wu.alloc (.cells (cells (List.replicate K 0)).toArray 3)) wu.heap.size (.slice (some ⟨wu.heap.size, 0, none⟩) K K) (List.replicate K 0) := own_row (heap_alloc_new _ _) (by simp) (Nat.le_refl _) (by unfold maxLen; omega)
                  have b3 : Below wu.heap.size wu (wu.alloc (.cells (cells (List.replicate K 0)).toArray 3)) := ba (Below.refl _ _)
                  have T3 := Tu.grow (Y := fun j => j = wu.heap.size) b3 (fun j hj => by rw [hj]; exact ⟨Nat.le_refl _, by simp⟩)
                  have HGD : Hid (wu.heap.size ≠ bw ∧ wu.heap.size ≠ gc ∧ ¬ E wu.heap.size ∧ w.heap.size ≤ wu.heap.size) := ⟨fun e => by have := Tu.mo.xl _ Tu.xb; omega, fun e => by have := Tu.mo.xl _ Tu.xc; omega, fun he => by have := Tu.mo.xl _ (Tu.xe _ he); omega, Tu.mo.bel.size⟩
                  clear Tu c0 c2 clt hmk
                  generalize wu.heap.size = gd at *
                  generalize wu.alloc _ = w3 at *
                  clear b3
                  clear wu
                  have xc3 : w3.cell? ⟨xb, xo + i2, none⟩ = some (.int .i64 vi) := (T3.mo.bel.cell (p := ⟨xb, xo + i2, none⟩) HXB.out).trans HVI.out
                  have HX3 : Hid (xb < w3.heap.size ∧ xb ≠ gd) := ⟨Nat.lt_of_lt_of_le HXB.out T3.mo.bel.size, fun e => by have := HXB.out; have := HGD.out.2.2.2; omega⟩
                  go_wp2_with fail
                  go_loopw [75, 15] (fun v75 v15 wx => ∃ (j : Nat) (zz : List Int), v75 = .int .i64 (j : Int) ∧ j ≤ K ∧ zz.length = K ∧ Own wx gd (.slice (some ⟨gd, 0, none⟩) K K) zz ∧ Keep (fun q => q = gd) w3 wx) (fun v75 _ _ => K - (intOf v75).toNat)
                  case atStart => exact ⟨0, _, rfl, by omega, by simp, own, Keep.refl _ _⟩
                  case round =>
                    clear own
                    obtain ⟨j, zz, rfl, hj, hzz, ow, kk⟩ := hrel
                    by_cases hlt3 : j < K
                    · have hlt3' : (j : Int) < (K : Int) := by omega
                      obtain ⟨b, y, e, lo, lt, hc, hf, pk⟩ := ow.poke hzz hlt3
                      injection e with e
                      injection e with e1 e2
                      subst e1
                      have xcj := (kk.cell (b := xb) (xo + i2) HX3.out.1 HX3.out.2).trans xc3
                      have xlj := Nat.lt_of_lt_of_le HX3.out.1 kk.size
                      go_wp2_with fail
                      go_roundw
                      case rel => exact ⟨j + 1, _, by go_num, by omega, by rw [List.length_set]; exact hzz, pk _, kk.setCell (p := ⟨gd, j, none⟩) (.inl rfl) _⟩
                      case measure => simp [intOf]; omega
                    · have T4 := T3.write kk (fun q hq => by rw [hq]; exact ⟨HGD.out.2.2.2, .inl (.inr rfl), HGD.out.1, HGD.out.2.1, HGD.out.2.2.1⟩)
                      clear T3 xc3 kk HX3
                      go_upto_if 90 with fail
                      as_aux_lemma =>
                        go_cut [] (fun wx => ∃ (X E : Nat → Prop) (Ld : List Hr) (Q : List (Hr × Value)), WT w wx g gc bw X E N L K Ld Q ∧ Q.map pzR = Ld.map pzH ∧ Ld.map hOf = R0.map hOf)
                        case first => as_aux_lemma =>
                          have hLL : Ld.length ≤ 4 := by have h1 := congrArg List.length hK; simp at h1; have := HM0.out; omega
                          have hQL : Q.length = Ld.length := by have h1 := congrArg List.length hQ; simpa using h1
                          by_cases h3 : (i2 : Int) % 3 = 0
                          · have h3' : ((i2 : Int) % 3 == 0) = true := by simp [h3]
                            have HO1 : Hid (setOk N K 1 0 0 = true) := by
                              show _ = _
                              unfold setOk
                              rw [decide_eq_true (by omega), decide_eq_true (by omega), decide_eq_true (.inl rfl)]
                              rfl
                            have hset := mo_set_ok T4.mo HIL.out HHL.out 1 0 none 0 0 [] (sl_nil _) (by omega) HO1.out
                            rw [if_pos rfl] at hset
                            go_wp2_with (go_at_call 31; refine hset.mono ?_; rintro e w5 ⟨rfl, K5, M5⟩)
                            go_meet
                            case rel => exact ⟨_, E, _, Q, T4.set K5 M5, by rw [pz_keep T4.mo.rise HHL.out]; exact hQ, by rw [keys_put T4.mo.rise (x := ⟨l, 1, 0, (rowL Ld l).z⟩) HHL.out]; exact hK⟩
                          · have h3' : ((i2 : Int) % 3 == 0) = false := by simp [h3]
                            have HO2 : Hid (setOk N K 2 0 K = true) := by
                              show _ = _
                              unfold setOk
                              rw [decide_eq_true (by omega), decide_eq_true (by omega), decide_eq_true (.inr rfl)]
                              rfl
                            have hzn : zz ≠ [] := fun e => by rw [e] at hzz; simp at hzz; omega
                            have HZN : Hid (zz ≠ []) := hzn
                            have HLN : Hid (∀ v : Value, (putK hKey ((⟨l, 0, 0, zz⟩ : Hr), v) Q).length ≤ 1000) := fun v => by have := putK_len (key := hKey) ((⟨l, 0, 0, zz⟩ : Hr), v) Q; omega
                            have HZ : Hid (zz.length = K) := hzz
                            clear hzz hzn
                            go_wp2_with (first
                              | (have mk := T8; clear mk; go_at_call 31; refine (mo_set_ok T8.mo HIL.out HHL.out 2 0 (some ⟨gd, 0, none⟩) K K zz (own_sl ow8) (by omega) HO2.out).mono ?_; rintro e w9 ⟨rfl, K9, M9⟩; have ow9 := ow8.keep K9 (fun q hq hf => hf.2 (hX8 _ (.inr (Option.some.inj hq).symm))); obtain ⟨b9, y9, e9, lo9, lt9, hc9, hf9, pk9⟩ := ow9.poke HZ.out (k := 0) (by omega); injection e9 with e9; injection e9 with e91 e92; subst e91)
                              | (go_at_call 40; refine (copy_any (some ⟨gd, 0, none⟩) zz K K _ (own_sl ow) (by omega)).mono ?_; rintro e w7 ⟨v7, rfl, own7, b7⟩; obtain ⟨a7, c7, rfl, s7⟩ := own7.sl' HZ.out; obtain ⟨w8, X8, E8, hrun8, T8, K8, z8, hX8, hE8⟩ := T4.copyIn (n := l) b7 own7 (by omega) HIL.out (HLN.out _); have ow8 := (ow.below b7).keep K8 (fun q hq e => HGD.out.1 ((Option.some.inj hq).trans e))))
                            rw [if_neg HZN.out] at M9
                            have T9 := T8.set K9 M9
                            have hgd4 := T4.mo.xl gd (.inr rfl)
                            have T10 := T9.write (Keep.one w9 gd 0 (.int .i64 (wrap64 (y9 + 1)))) (fun q hq => by
                              rw [hq]
                              exact ⟨HGD.out.2.2.2, .inl (hX8 _ (.inr rfl)), HGD.out.1, HGD.out.2.1, fun he => (hE8 _ he).elim HGD.out.2.2.1 (fun hn => by omega)⟩)
                            go_meet
                            case rel => exact ⟨_, E8, _, _, T10, by rw [pz_put, pz_putH, hQ], by rw [keys_put T4.mo.rise (x := ⟨l, 2, 0, zz⟩) HHL.out]; exact hK⟩
                        case rest => as_aux_lemma =>
                          obtain ⟨X5, E5, Ld5, Q5, T5, hQ5, hK5⟩ := hcut
                          go_upto_region 32 with fail
                          have hown : wc.ownsMap Try.prog 3 asIs bw (kv hKey Prod.snd Q5).length (.map (pairsD (kv hKey Prod.snd Q5))) := T5.im
                          go_wp2_with (first
                            | (at_range; refine wpList_range_own _ rfl _ 85 rfl 3 28 keyedI Try.underlying85 asIs bw _ _ rfl hown ?_; intro w0 hrg0 hg0 hs0)
                            | go_in)
                          go_frame
                          have b0 : Below wc.heap.size wc w0 := (Below.refl _ _).grown hg0 (Nat.le_refl _) (fun j hj => by cases hj)
                          have T6 := T5.grow (Y := fun j => j = wc.heap.size) b0 (fun j hj => by rw [hj]; exact ⟨Nat.le_refl _, by omega⟩)
                          have HGI : Hid (wc.heap.size ≠ bw ∧ wc.heap.size ≠ gc ∧ ¬ E5 wc.heap.size ∧ w.heap.size ≤ wc.heap.size) := ⟨fun e => by have := T5.mo.xl _ T5.xb; omega, fun e => by have := T5.mo.xl _ T5.xc; omega, fun he => by have := T5.mo.xl _ (T5.xe _ he); omega, T5.mo.bel.size⟩
                          clear hg0 hs0 b0 T5 hown
                          generalize wc.heap.size = gi at *
                          clear wc
                          go_loopw [16] (fun _ wx => ∃ (left : Lit → Bool) (cnt : Nat), wx.ranges Try.prog 3 asIs bw gi (kv hKey Prod.snd Q5).length (.map (pairsD (kv hKey Prod.snd Q5))) left cnt ∧ WT w wx g gc bw (fun j => X5 j ∨ j = gi) E5 N L K Ld5 Q5) (fun _ wx => wx.rangeLeft bw gi)
                          case atStart => exact ⟨_, _, hrg0, T6⟩
                          case round =>
                            clear hrg0 T6
                            clear w0
                            obtain ⟨left, cnt, hrg, T⟩ := hrel
                            go_wp2_with (first
                              | (at_next; refine wpList_next_ranges _ rfl _ rfl 3 keyedI asIs (Value.int .i64) (fun v => v) (fun key kl h => by obtain ⟨x, rfl, _⟩ := Maps.keyOf_int_inv Try.underlying3 h; exact ⟨x, rfl⟩) (fun v y h => ⟨v, rfl⟩) bw gi _ _ _ _ rfl hrg ?_ ?_)
                              | go_in)
                            · intro hc0 hl0
                              go_wp2_with fail
                              go_roundw
                              case rel => exact ⟨i2 + 1, _, _, _, _, by go_num, by omega, T, hQ5, hK5⟩
                              case measure => simp [intOf]; omega
                            · intro x c kl y yp w1 cnt1 hkey hlx hv hat hrg1 hlt1 hg1 hs1 hen
                              obtain ⟨x', ex, rfl, hwf⟩ := Maps.keyOf_int_inv Try.underlying3 hkey
                              injection ex with _ ex
                              subst ex
                              have hy : y = .held c := (Prod.mk.inj (Option.some.inj hv)).1.symm
                              subst hy
                              obtain ⟨p, hp, hp1, hp2⟩ := im_entry hat
                              obtain ⟨r, hr, rfl⟩ := List.mem_map.1 hp
                              have k1 : Keep (fun j => j = gi) wr w1 := ⟨hg1.os, hg1.tape, hg1.output, hg1.size, fun j hj hn => hg1.block j hj (fun e => hn (Option.some.inj e))⟩
                              have T1 := T.write k1 (fun q hq => by rw [hq]; exact ⟨HGI.out.2.2.2, .inl (.inr rfl), HGI.out.1, HGI.out.2.1, HGI.out.2.2.1⟩)
                              obtain ⟨a8, n8, c8, e8, s8, hn8, _⟩ := T1.dat r hr
                              obtain ⟨q, hq, hqe⟩ := List.mem_map.1 (hQ5 ▸ List.mem_map_of_mem (f := pzR) hr)
                              obtain ⟨hq1, hq2⟩ := Prod.mk.inj hqe
                              have HQG : Hid (getK hOf q.n Ld5 = some q) := getK_mem (key := hOf) T1.mo.rise hq
                              have HQZ : Hid (q.z.length = K) := by have := T1.mo.zl q hq; show _ = _; omega
                              obtain ⟨qn, qs, qh, qz⟩ := q
                              simp only at hq1 hq2 hp1 hp2
                              have hxq : x = qn := by rw [hq1]; exact hp1.symm
                              subst hxq
                              have hce : c = .slice a8 n8 c8 := by rw [← hp2]; exact e8
                              subst hce
                              have s8' : Sl w1 a8 n8 c8 qz := by rw [hq2]; exact s8
                              have hn8K : K = n8 := by rw [← s8'.len]; exact HQZ.out.symm
                              subst hn8K
                              have HIX : Hid (In64 x) := by
                                have h1 := hwf
                                simp [Lit.wf, IntKind.min, IntKind.max, IntKind.signed, IntKind.bits] at h1
                                unfold Hid In64
                                omega
                              clear k1 hg1 hs1 hq1 hq2 hp1 hp2 e8 s8 hn8 hqe hq hr hp hat hv hlx hwf hkey T
                              go_upto_region 36 with (go_at_call 32; refine (mo_row_at T1.mo HIX.out HQG.out HQZ.out).mono ?_; rintro e w5 ⟨ar, cr, rfl, own5, b5⟩)
                              have bel := ba (o := .cells #[.int .i64 qs, .int .i64 qh, .slice ar K cr] 65) (Below.refl w5.heap.size w5)
                              have r2 : (w5.alloc (.cells #[.int .i64 qs, .int .i64 qh, .slice ar K cr] 65)).cell? ⟨w5.heap.size, 2, none⟩ = some (.slice ar K cr) := by simp
                              have rlt : w5.heap.size < (w5.alloc (.cells #[.int .i64 qs, .int .i64 qh, .slice ar K cr] 65)).heap.size := by simp
                              have bw6 := next b5 bel
                              have ow6 := own5.below bel
                              have s6 := own_sl ow6
                              have s8b := s8'.below bw6
                              clear own5 b5 bel s8'
                              generalize w5.heap.size = gr at *
                              generalize w5.alloc _ = w6 at *
                              clear w5
                              go_upto_region 38 with (go_at_call 33; refine (same_any _ _ _ _ _ _ _ _ _ s6 s8b).mono ?_; rintro e w7 ⟨rfl, kk7, rfl⟩; rw [decide_eq_true rfl])
                              have bk : Below w6.heap.size w6 (w6.drewN kk7) := ⟨rfl, rfl, rfl, Nat.le_refl _, fun _ _ => rfl⟩
                              have bw7 := next bw6 bk
                              have ow7 := ow6.below bk
                              have r27 := (bk.cell (p := ⟨gr, 2, none⟩) rlt).trans r2
                              have rlt7 := Nat.lt_of_lt_of_le rlt bk.size
                              clear bk bw6 ow6 r2 s6 s8b rlt
                              generalize w6.drewN kk7 = w7 at *
                              obtain ⟨b9, y9, rfl, lo9, lt9, hc9, hf9, pk9⟩ := ow7.poke HQZ.out (k := 0) (by omega)
                              go_wp2_with fail
                              have K9 := Keep.pre bw7 (Keep.one w7 b9 0 (.int .i64 (wrap64 (y9 + 1))))
                              have T9 := T1.write K9 (fun q hq => by
                                rw [hq]
                                have h1 := T1.mo.bel.size
                                exact ⟨by omega, .inr lo9, fun e => by have := T1.mo.xl _ T1.xb; omega, fun e => by have := T1.mo.xl _ T1.xc; omega, fun he => by have := T1.mo.xl _ (T1.xe _ he); omega⟩)
                              have hrg9 := hrg1.kept (K9.toGrown (fun j hj e => by omega)) (by simp) (by simp)
                              go_roundw
                              case rel => exact ⟨_, cnt1, hrg9, T9⟩
                              case measure => rw [hrg9.left_eq, hrg.left_eq]; exact hlt1
                · have hr' : (l % (N : Int) != 0) = true := by simp [hr]
                  go_wp2_with fail
                  go_roundw
                  case rel => exact ⟨i2 + 1, X, E, Ld, Q, by go_num, by omega, Tu, hQ, hK⟩
                  case measure => simp [intOf]; omega
            · as_aux_lemma =>
                have hlen := fun ty => T.im.len Try.underlying85 ty
                have hQL : (kv hKey Prod.snd Q).length = Ld.length := by have := congrArg List.length hQ; simp at this; simp [kv, this]
                have HL : Hid ((Ld.map hOf).length = Ld.length) := by show _ = _; simp
                rw [hQL] at hlen
                obtain ⟨q, hq⟩ : ∃ q, Ld.length = q := ⟨_, rfl⟩
                rw [hq] at hlen HL
                clear hQL
                go_wp2_with (first
                  | (go_at_call 34; refine (dwakes_any _).mono ?_; rintro e w9 ⟨rfl, b9⟩)
                  | (go_at_call 39; refine (mo_lines T.mo).mono ?_; rintro e w8 ⟨v8, rfl, own8, b8⟩; obtain ⟨a8, c8, rfl, s8⟩ := own8.sl' HL.out))
                go_ret
                exact ⟨rfl, next T.mo.bel (next b8 b9)⟩
          · as_aux_lemma =>
              have hlen := fun ty => T.im.len Try.underlying85 ty
              have hQL : (kv hKey Prod.snd Q).length = Ld.length := by have := congrArg List.length hQ; simp at this; simp [kv, this]
              have HL : Hid ((Ld.map hOf).length = Ld.length) := by show _ = _; simp
              rw [hQL] at hlen
              obtain ⟨q, hq⟩ : ∃ q, Ld.length = q := ⟨_, rfl⟩
              rw [hq] at hlen HL
              clear hQL
              go_wp2_with (first
                | (go_at_call 34; refine (dwakes_any _).mono ?_; rintro e w9 ⟨rfl, b9⟩)
                | (go_at_call 39; refine (mo_lines T.mo).mono ?_; rintro e w8 ⟨v8, rfl, own8, b8⟩; obtain ⟨a8, c8, rfl, s8⟩ := own8.sl' HL.out))
              go_ret
              exact ⟨rfl, next T.mo.bel (next b8 b9)⟩
end Go.Proofs.Ytfobgkkmbacfjaa
