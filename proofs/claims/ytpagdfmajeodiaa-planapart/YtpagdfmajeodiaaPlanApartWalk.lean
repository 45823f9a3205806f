/- The walk of PlanApart. No condition. -/
import Derived.Test.YtpagdfmajeodiaaWords
import Derived.Maps.OwnOps
import Derived.Maps.OwnSet
import Derived.Maps.Views
import Derived.DeepKeys4
namespace Go.Proofs.Ytpagdfmajeodiaa
open Go.RowKit Go.Maps Go.WideMaps
set_option linter.unusedVariables false

theorem pa_laid : laidOutB Try.prog = true := by kernel_rfl
theorem pa_row : (53 : TypeId) < Try.prog.types.size := of_decide_eq_true (by kernel_rfl)
theorem pa_wide : (match Try.prog.underlying 53 with | some (.array _ _) | some (.struct _) => true | _ => false) = true := by rw [Try.underlying53]
theorem pa_law : Keyed Try.prog 53 := Keyed.of_law (deep_law_laid pa_laid (m := 2) (by omega) pa_row (by kernel_rfl) pa_wide)
/-- A line and a word, as a key. -/
@[reducible] def pk (l w : Nat) : Value := .agg #[.int .i64 (l : Int), .int .i64 (w : Int)]
theorem pk_inj {l w l' w' : Nat} (h : pk l w = pk l' w') : l = l' ∧ w = w' := by
  simp [pk] at h; omega
theorem some_of {α : Type} {o : Option α} (h : o.isSome = true) : ∃ x, o = some x := Option.isSome_iff_exists.1 h
theorem pk_some {l w : Nat} (hl : l < 4) (hw : w < 2) : ∃ kl, keyOf Try.prog 53 (pk l w) = some kl := by
  match l, hl, w, hw with
  | 0, _, 0, _ | 0, _, 1, _ | 1, _, 0, _ | 1, _, 1, _ | 2, _, 0, _ | 2, _, 1, _ | 3, _, 0, _ | 3, _, 1, _ => exact some_of (by kernel_rfl)

abbrev PMap (w : World) (gm n : Nat) (D : DataW Unit) : Prop := w.ownsMap Try.prog 53 (plainElem Try.prog 4) gm n D
/-- Which addresses have been seen. -/
structure Seen (K j : Nat) (D : DataW Unit) : Prop where
  size : Maps.size D = j
  no : ∀ a kl, j ≤ a → keyOf Try.prog 53 (pk (a / K) (a % K)) = some kl → has D kl = false
theorem Seen.begin (K : Nat) : Seen K 0 (.map []) := ⟨rfl, fun _ _ _ _ => rfl⟩
theorem Seen.step {w : World} {gm n K j : Nat} {D : DataW Unit} {kl : Lit} (h : Seen K j D) (hm : PMap w gm n D) (hk : keyOf Try.prog 53 (pk (j / K) (j % K)) = some kl) : Seen K (j + 1) (D.put kl (.lit (.bool true))) := by
  have h0 := h.no j kl (Nat.le_refl _) hk
  refine ⟨?_, fun a kl' ha hk' => ?_⟩
  · rw [size_put (hm.tidy pa_law), h0, h.size]; rfl
  · rw [has_put_other]
    · exact h.no a kl' (by omega) hk'
    · intro e
      subst e
      have e2 := pa_law.inj hk hk'
      obtain ⟨e3, e4⟩ := pk_inj e2
      have d1 := Nat.div_add_mod a K
      have d2 := Nat.div_add_mod j K
      rw [e3, e4] at d2
      omega
theorem pa_zero (w : World) : (zeroValue 4).run Try.prog w = .ok (.bool false) w := by kernel_rfl
theorem Seen.look {w : World} {gm n K j : Nat} {D : DataW Unit} {kl : Lit} (h : Seen K j D) (hm : PMap w gm n D) (hk : keyOf Try.prog 53 (pk (j / K) (j % K)) = some kl) :
    (Instr.lookup 52 (.map (some gm)) (pk (j / K) (j % K)) false).run Try.prog w = .ok (.bool false) w := by
  have h0 := h.no j kl (Nat.le_refl _) hk
  obtain ⟨v, ps, hr, hv⟩ := hm.lookup pa_law Try.underlying52 (pa_zero w) (plainElem_bool Try.underlying4 false) hk
  rw [atKey_of_not_has h0] at hv
  rw [hr]
  have : v = .bool false := by
    cases v <;> simp [plainElem, Try.underlying4] at hv
    rw [hv.1]
  rw [this]
theorem pmap_below {w w' : World} {gm n : Nat} {D : DataW Unit} (h : PMap w gm n D) (hb : Below w.heap.size w w') : PMap w' gm n D := by
  have hlt := h.lt
  obtain ⟨es, clock, hh, F, hs, hD⟩ := h
  exact ⟨es, clock, by rw [hb.block gm hlt]; exact hh, F, hs, hD⟩
theorem CB.at {W w : World} {B g N L K S Y O I : Nat} {t : Value} (h : CB W g N L K S Y O I t) (hb : Below B W w) (hg : g < B) (hs : B ≤ w.heap.size) : CB w g N L K S Y O I t := by
  have hc : ∀ o, w.cell? ⟨g, o, none⟩ = W.cell? ⟨g, o, none⟩ := fun o => hb.cell (p := ⟨g, o, none⟩) hg
  exact ⟨by rw [hc]; exact h.c0, by rw [hc]; exact h.c1, by rw [hc]; exact h.c2, by rw [hc]; exact h.c3, by rw [hc]; exact h.c4, by rw [hc]; exact h.c5, by rw [hc]; exact h.c6, by rw [hc]; exact h.c7, by omega⟩
theorem Sl.at {W w : World} {B : Nat} {a : Option Addr} {n cap : Nat} {l : List Int} (h : Sl W a n cap l) (hb : Below B W w) (hB : W.heap.size ≤ B) : Sl w a n cap l := by
  exact h.below (hb.mono hB)
theorem lineOf_n {n l k s y o i addr x z : Int} {t : Value} {w : World} (hl0 : 1 ≤ l) (hl1 : l ≤ 8) (hk0 : 1 ≤ k) (hk1 : k ≤ 4) (hx : lineI l k addr = x) (hz : wordI l k addr = z) :
    Calls Try.prog 18 #[cfg n l k s y o i t, .int .i64 addr] w fun e w' => e = .returned (.tuple #[.int .i64 x, .int .i64 z]) ∧ Below w.heap.size w w' := by
  subst hx hz; exact lineOf_any _ _ _ _ _ _ _ _ _ _ hl0 hl1 hk0 hk1
theorem homeOf_n {n l k s y o i line x : Int} {t : Value} {w : World} (hm0 : 1 ≤ n) (hm1 : n ≤ 1000000) (hx : remI line n = x) :
    Calls Try.prog 19 #[cfg n l k s y o i t, .int .i64 line] w fun e w' => e = .returned (.int .i64 x) ∧ Below w.heap.size w w' := by
  subst hx; exact homeOf_any _ _ _ _ _ _ _ _ _ _ hm0 hm1
theorem setOf_n {n l k s y o i line x : Int} {t : Value} {w : World} (hm0 : 1 ≤ s) (hm1 : s ≤ 1000000) (hx : remI line s = x) :
    Calls Try.prog 20 #[cfg n l k s y o i t, .int .i64 line] w fun e w' => e = .returned (.int .i64 x) ∧ Below w.heap.size w w' := by
  subst hx; exact setOf_any _ _ _ _ _ _ _ _ _ _ hm0 hm1
theorem own_head {w : World} {base n : Nat} {v : Value} {l : List Int} (h : Own w base v l) (hn : l.length = n) (h0 : 0 < n) : ∃ g cap, v = .slice (some ⟨g, 0, none⟩) n cap ∧ ∀ i, i < n → w.cell? ⟨g, i, none⟩ = some (.int .i64 (l[i]?.getD 0)) := by
  have hsl := h.sl
  rcases h.2 with ⟨_, e⟩ | ⟨g, cap, cur, rfl, _⟩
  · omega
  · obtain ⟨a, cap', e, hs⟩ := hsl
    simp at e
    obtain ⟨rfl, rfl⟩ := e
    subst hn
    refine ⟨g, cap, rfl, fun i hi => ?_⟩
    rcases hs.row with e | ⟨b, o, e, hc⟩
    · rw [e] at h0; simp at h0
    · simp at e
      obtain ⟨rfl, rfl⟩ := e
      have := hc i hi
      rwa [Nat.zero_add] at this
theorem rem_bd {x m : Nat} (hm : 1 ≤ m) : ∃ r : Nat, remI (x : Int) (m : Int) = (r : Int) ∧ r < m := by
  refine ⟨x % m, ?_, Nat.mod_lt _ (by omega)⟩
  rw [remI_pos (by omega)]; rfl

theorem pa_look {w : World} {gm n K j l0 w0 : Nat} {D : DataW Unit} {kl : Lit} (h : Seen K j D) (hm : PMap w gm n D) (hl : l0 = j / K) (hw : w0 = j % K) (hk : keyOf Try.prog 53 (pk l0 w0) = some kl) :
    (Instr.lookup 52 (.map (some gm)) (.agg #[.int .i64 (l0 : Int), .int .i64 (w0 : Int)]) false).run Try.prog w = .ok (.bool false) w := by
  subst hl hw; exact h.look hm hk
theorem words_len {zi : List Int} {L K l0 : Nat} (h : l0 < L) : (wordsI zi L K l0).length = K := by rw [wordsI_in h]; simp
theorem words_get {zi : List Int} {L K l0 w0 : Nat} (h : l0 < L) (hw : w0 < K) : (wordsI zi L K l0)[w0]?.getD 0 = zi[l0 * K + w0]?.getD 0 := by
  rw [wordsI_in h]; simp [hw]
theorem line_word {L K j : Nat} (hK : 1 ≤ K) (h : j < L * K) : ∃ l0 w0 : Nat, lineI L K j = (l0 : Int) ∧ wordI L K j = (w0 : Int) ∧ l0 = j / K ∧ w0 = j % K ∧ l0 < L ∧ w0 < K ∧ l0 * K + w0 = j := by
  have hc : ((L * K : Nat) : Int) = (L : Int) * (K : Int) := Int.natCast_mul L K
  have a0 : isA L K (j : Int) = true := isA_mk (by omega) (by omega)
  refine ⟨j / K, j % K, ?_, ?_, rfl, rfl, ?_, Nat.mod_lt _ (by omega), ?_⟩
  · unfold lineI; rw [a0]; simp
  · unfold wordI; rw [a0]; simp
  · exact Nat.div_lt_of_lt_mul (by rw [Nat.mul_comm]; exact h)
  · rw [Nat.mul_comm]; exact Nat.div_add_mod j K

set_option maxRecDepth 20000 in
set_option maxHeartbeats 1000000 in
theorem planApart_walk (w : World) (v : Value) (hv : IsSetup w v) :
    Calls Try.prog 7 #[v] w fun e w' => e = .returned (.bool true) ∧ Below w.heap.size w w' := by
  obtain ⟨n, l, k, s, y, o, i, a0, n0, q0, z0, a1, n1, q1, z1, a2, n2, q2, z2, a3, n3, q3, z3, a4, n4, q4, z4, rfl, h0, h1, h2, h3, h4⟩ := hv
  clear h1 h2 h3 h4
  unfold setup
  go_enter Try.func7, Try.ntmps7
  have hmm := fun w => run_makeMap (P := Try.prog) 52 w
  go_upto_region 3 with (first
    | (go_at_call 12; refine (config_c _ _ _ _ _ _ _ _ _ _ _ _ _ _ z0 _ (h0.below (by exact ba (Below.refl _ _)))).mono ?_; rintro e w1 ⟨N, L, K, S, Y, O, I, zi, av, nv, cv, rfl, hcf, hnv, hown, hb1⟩; unfold cfg))
  have hbw := ba (o := .cells #[.int .i64 (N : Int), .int .i64 (L : Int), .int .i64 (K : Int), .int .i64 (S : Int), .int .i64 (Y : Int), .int .i64 (O : Int), .int .i64 (I : Int), .slice av nv cv] 25) (next (ba (Below.refl _ _)) hb1)
  have hcb := CB.made w1 N L K S Y O I (.slice av nv cv)
  have hsz : (w1.alloc (.cells #[.int .i64 (N : Int), .int .i64 (L : Int), .int .i64 (K : Int), .int .i64 (S : Int), .int .i64 (Y : Int), .int .i64 (O : Int), .int .i64 (I : Int), .slice av nv cv] 25)).heap.size = w1.heap.size + 1 := by simp
  have hsl := (own_sl hown).below (ba (o := .cells #[.int .i64 (N : Int), .int .i64 (L : Int), .int .i64 (K : Int), .int .i64 (S : Int), .int .i64 (Y : Int), .int .i64 (O : Int), .int .i64 (I : Int), .slice av nv cv] 25) (Below.refl _ _))
  generalize w1.alloc (.cells #[.int .i64 (N : Int), .int .i64 (L : Int), .int .i64 (K : Int), .int .i64 (S : Int), .int .i64 (Y : Int), .int .i64 (O : Int), .int .i64 (I : Int), .slice av nv cv] 25) = W at *
  rw [← hsz]
  generalize w1.heap.size = g at *
  clear hsz
  obtain ⟨N0, N1, L0, L1, K0, K1, S0, S1, Y0, Y1, O0, O1, I0, I1⟩ := hcf.bd
  obtain ⟨p0, p2, p3⟩ := mul_bd L0 L1 K0 K1
  have hlen := hcf.len
  have hnv' := hnv.out
  have HP : Hid (((L * K : Nat) : Int) = (L : Int) * (K : Int)) := Int.natCast_mul L K
  have hbm : Below W.heap.size W (W.alloc (.map #[] 0)) := ba (Below.refl _ _)
  have hpm : PMap (W.alloc (.map #[] 0)) W.heap.size 0 (.map []) := World.ownsMap_made W Try.prog _ _
  clear hcf hown hb1 h0 hnv hmm
  obtain ⟨c0, c1, c2, c3, c4, c5, c6, c7, clt⟩ := hcb.below hbm
  go_wp2_with (first
    | (go_at_call 15; refine (addrs_any _ _ _ _ _ _ _ _ _ (by omega) (by omega) (by omega) (by omega)).mono ?_; rintro e w2 ⟨rfl, hb2⟩))
  have hB2 : Below W.heap.size W w2 := next hbm hb2
  have hm2 : PMap w2 W.heap.size 0 (.map []) := pmap_below hpm hb2
  clear hb2 c0 c1 c2 c3 c4 c5 c6 c7 clt hpm hbm
  go_loopw [6] (fun i wr => ∃ (j : Nat) (D : DataW Unit), i = .int .i64 j ∧ j ≤ L * K ∧ Below W.heap.size W wr ∧ PMap wr W.heap.size j D ∧ Seen K j D) (fun i _ => L * K - (intOf i).toNat)
  case atStart => exact ⟨0, _, rfl, by omega, hB2, hm2, Seen.begin K⟩
  case round =>
    obtain ⟨j, D, rfl, hj, hbr, hm, hseen⟩ := hrel
    clear hB2 hm2
    obtain ⟨c0, c1, c2, c3, c4, c5, c6, c7, clt⟩ := hcb.below hbr
    by_cases hlt : j < L * K
    · have hlt' : (j : Int) < (L : Int) * (K : Int) := by have := HP.out; omega
      obtain ⟨l0, w0, e1, e2, e3, e4, hl0, hw0, e5⟩ := line_word K0 hlt
      have E1 : Hid (lineI L K j = (l0 : Int)) := e1
      have E2 : Hid (wordI L K j = (w0 : Int)) := e2
      have E3 : Hid (l0 = j / K) := e3
      have E4 : Hid (w0 = j % K) := e4
      have E5 : Hid (l0 * K + w0 = j) := e5
      obtain ⟨kl, hkl⟩ := pk_some (show l0 < 4 by omega) (show w0 < 2 by omega)
      have HK : Hid (keyOf Try.prog 53 (pk l0 w0) = some kl) := hkl
      obtain ⟨r0, hr0, hr1⟩ := rem_bd (x := l0) N0
      obtain ⟨s0, hs0, hs1⟩ := rem_bd (x := l0) S0
      have R0 : Hid (remI (l0 : Int) (N : Int) = (r0 : Int)) := hr0
      have R1 : Hid (remI (l0 : Int) (S : Int) = (s0 : Int)) := hs0
      obtain ⟨x, hx⟩ : ∃ x, zi[j]?.getD 0 = x := ⟨_, rfl⟩
      have HX : Hid (zi[j]?.getD 0 = x) := hx
      have HL : Hid ((wordsI zi L K l0).length = K) := words_len hl0
      have HG : Hid ((wordsI zi L K l0)[w0]?.getD 0 = x) := by unfold Hid; rw [words_get hl0 hw0, e5, hx]
      clear e1 e2 e3 e4 e5 hkl hr0 hs0 hx
      by_cases hin : j < nv
      · have hin' : (j : Int) < (nv : Int) := by omega
        have hsome : ∃ b o, av = some ⟨b, o, none⟩ ∧ ∀ i, i < zi.length → W.cell? ⟨b, o + i, none⟩ = some (.int .i64 (zi[i]?.getD 0)) := by
          rcases hsl.row with h | h
          · rw [h] at hnv'; simp at hnv'; omega
          · exact h
        obtain ⟨b, o', rfl, hci⟩ := hsome
        have hcj := hci j (by omega)
        rw [HX.out] at hcj
        have hblt : b < W.heap.size := World.block_lt_of_cell? W _ hcj
        clear hci
        go_upto_region 18 with (first
          | (go_at_call 18; refine (lineOf_n (by omega) (by omega) (by omega) (by omega) E1.out E2.out).mono ?_; rintro e w3 ⟨rfl, hb3⟩; obtain ⟨hc3, hf3⟩ := bcell hb3; have hm3 := pmap_below hm hb3; have hB3 := next hbr hb3; have hlk := pa_look hseen hm3 E3.out E4.out HK.out)
          | (at_mapUpdate; refine wpList_mapUpdate_own _ rfl _ _ _ 52 rfl 53 4 pa_law Try.underlying52 _ W.heap.size j D rfl hm3 (by unfold maxLen; omega) _ _ kl rfl rfl HK.out (.lit (.bool true)) [] (plainElem_bool Try.underlying4 true) ?_; intro w4 hm4 hg4; have hB4 := hB3.grown hg4 hB3.size (by intro q hq; simp at hq; omega); obtain ⟨d0, d1, d2, d3, d4, d5, d6, d7, dlt⟩ := hcb.below hB4; clear hlk)
          | (go_at_call 22; refine (words_any N L K S Y O I _ nv cv zi _ _ (hsl.below (by exact hB4)) (by omega) (by omega) (by omega) (by omega)).mono ?_; rintro e w5 ⟨v5, rfl, hown5, hb5⟩; obtain ⟨hc5, hf5⟩ := bcell hb5; obtain ⟨gw, cw, rfl, hcw⟩ := own_head hown5 HL.out (by omega); have hx5 := hcw w0 hw0; rw [HG.out] at hx5; clear hcw hown5; have hi5 : w5.cell? ⟨b, o' + j, none⟩ = some (.int .i64 x) := by rw [(next hB4 hb5).cell (p := ⟨b, o' + j, none⟩) hblt]; exact hcj)
          | (go_at_call 19; refine (homeOf_n (by omega) (by omega) R0.out).mono ?_; rintro e w6 ⟨rfl, hb6⟩))
        have hB6 := next (next hB4 hb5) hb6
        have hm6 := pmap_below (pmap_below hm4 hb5) hb6
        have hse := hseen.step hm3 (kl := kl) (by have := HK.out; rw [E3.out, E4.out] at this; exact this)
        clear c0 c1 c2 c3 c4 c5 c6 c7 clt d0 d1 d2 d3 d4 d5 d6 d7 dlt hb3 hc3 hf3 hm3 hB3 hm4 hg4 hB4 hb5 hc5 hf5 hx5 hb6 hm hseen hbr
        obtain ⟨c0, c1, c2, c3, c4, c5, c6, c7, clt⟩ := hcb.below hB6
        have t1 : decide ((r0 : Int) < 0) = false := by simp
        have t2 : decide (N ≤ r0) = false := by simp; omega
        have t3 : decide ((s0 : Int) < 0) = false := by simp
        have t4 : decide (S ≤ s0) = false := by simp; omega
        have uc := @Up.cell
        have uf := @Up.frozen
        refine wp_region_up (by kernel_rfl) (by kernel_rfl) ?_
        repeat (go_big_quiet_step ((go_at_call 20; exact Calls.up_of (setOf_n (by omega) (by omega) R1.out))))
        refine wpQuiet_nil ?_
        rintro _ ⟨u, rfl⟩
        have hB7 := next hB6 u.2
        have hm7 := pmap_below hm6 u.2
        clear uc uf
        go_wp2
        go_roundw
        case rel => exact ⟨j + 1, _, by go_num, by omega, hB7, hm7, hse⟩
        case measure => simp [intOf]; omega
      · have hx0 : x = 0 := by have := HX.out; rw [← this, List.getElem?_eq_none (by omega)]; rfl
        subst hx0
        go_upto_region 18 with (first
          | (go_at_call 18; refine (lineOf_n (by omega) (by omega) (by omega) (by omega) E1.out E2.out).mono ?_; rintro e w3 ⟨rfl, hb3⟩; obtain ⟨hc3, hf3⟩ := bcell hb3; have hm3 := pmap_below hm hb3; have hB3 := next hbr hb3; have hlk := pa_look hseen hm3 E3.out E4.out HK.out)
          | (at_mapUpdate; refine wpList_mapUpdate_own _ rfl _ _ _ 52 rfl 53 4 pa_law Try.underlying52 _ W.heap.size j D rfl hm3 (by unfold maxLen; omega) _ _ kl rfl rfl HK.out (.lit (.bool true)) [] (plainElem_bool Try.underlying4 true) ?_; intro w4 hm4 hg4; have hB4 := hB3.grown hg4 hB3.size (by intro q hq; simp at hq; omega); obtain ⟨d0, d1, d2, d3, d4, d5, d6, d7, dlt⟩ := hcb.below hB4; clear hlk)
          | (go_at_call 22; refine (words_any N L K S Y O I _ nv cv zi _ _ (hsl.below (by exact hB4)) (by omega) (by omega) (by omega) (by omega)).mono ?_; rintro e w5 ⟨v5, rfl, hown5, hb5⟩; obtain ⟨hc5, hf5⟩ := bcell hb5; obtain ⟨gw, cw, rfl, hcw⟩ := own_head hown5 HL.out (by omega); have hx5 := hcw w0 hw0; rw [HG.out] at hx5; clear hcw hown5)
          | (go_at_call 19; refine (homeOf_n (by omega) (by omega) R0.out).mono ?_; rintro e w6 ⟨rfl, hb6⟩))
        have hB6 := next (next hB4 hb5) hb6
        have hm6 := pmap_below (pmap_below hm4 hb5) hb6
        have hse := hseen.step hm3 (kl := kl) (by have := HK.out; rw [E3.out, E4.out] at this; exact this)
        clear c0 c1 c2 c3 c4 c5 c6 c7 clt d0 d1 d2 d3 d4 d5 d6 d7 dlt hb3 hc3 hf3 hm3 hB3 hm4 hg4 hB4 hb5 hc5 hf5 hx5 hb6 hm hseen hbr
        obtain ⟨c0, c1, c2, c3, c4, c5, c6, c7, clt⟩ := hcb.below hB6
        have t1 : decide ((r0 : Int) < 0) = false := by simp
        have t2 : decide (N ≤ r0) = false := by simp; omega
        have t3 : decide ((s0 : Int) < 0) = false := by simp
        have t4 : decide (S ≤ s0) = false := by simp; omega
        have uc := @Up.cell
        have uf := @Up.frozen
        refine wp_region_up (by kernel_rfl) (by kernel_rfl) ?_
        repeat (go_big_quiet_step ((go_at_call 20; exact Calls.up_of (setOf_n (by omega) (by omega) R1.out))))
        refine wpQuiet_nil ?_
        rintro _ ⟨u, rfl⟩
        have hB7 := next hB6 u.2
        have hm7 := pmap_below hm6 u.2
        clear uc uf
        go_wp2
        go_roundw
        case rel => exact ⟨j + 1, _, by go_num, by omega, hB7, hm7, hse⟩
        case measure => simp [intOf]; omega
    · have hge : (L : Int) * (K : Int) ≤ (j : Int) := by have := HP.out; omega
      have hsz : ((Maps.size D : Nat) : Int) = (L : Int) * (K : Int) := by rw [hseen.size]; have := HP.out; omega
      have F1 : Hid (lineI L K ((L : Int) * (K : Int)) = -1) := by unfold Hid lineI; rw [isA_not (.inr (by omega))]; rfl
      have F2 : Hid (wordI L K ((L : Int) * (K : Int)) = 0) := by unfold Hid wordI; rw [isA_not (.inr (by omega))]; rfl
      have G1 : Hid (wordsI zi L K (L : Int) = []) := wordsI_out (.inr (by omega))
      have G2 : Hid (wordsI zi L K (-1) = []) := wordsI_out (.inl (by omega))
      go_wp2_with (first
        | (go_at_call 18; refine (lineOf_n (by omega) (by omega) (by omega) (by omega) F1.out F2.out).mono ?_; rintro e w3 ⟨rfl, hb3⟩; obtain ⟨hc3, hf3⟩ := bcell hb3; have hm3 := pmap_below hm hb3; have hB3 := next hbr hb3; have hln := fun ty => hm3.len (e := 4) Try.underlying52 ty)
        | (have mk := hb4; clear mk; go_at_call 22; refine (words_any N L K S Y O I av nv cv zi _ _ (hsl.below (by exact hB4)) (by omega) (by omega) (by omega) (by omega)).mono ?_; rintro e w5 ⟨v5, rfl, hown5, hb5⟩; rw [G2.out] at hown5; obtain ⟨a5, q5, rfl, _⟩ := hown5.sl' rfl)
        | (go_at_call 22; refine (words_any N L K S Y O I av nv cv zi _ _ (hsl.below (by exact hB3)) (by omega) (by omega) (by omega) (by omega)).mono ?_; rintro e w4 ⟨v4, rfl, hown4, hb4⟩; have hB4 := next hB3 hb4; obtain ⟨d0, d1, d2, d3, d4, d5, d6, d7, dlt⟩ := hcb.below hB4; rw [G1.out] at hown4; obtain ⟨a4', q4', rfl, _⟩ := hown4.sl' rfl)
        | (go_at_call 11; refine (wakes_any _).mono ?_; rintro e w6 ⟨rfl, hb6⟩))
      go_ret
      exact ⟨rfl, next hbw (next (next hB4 hb5) hb6)⟩
end Go.Proofs.Ytpagdfmajeodiaa
