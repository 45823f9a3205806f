/- The document's cache: Put of a line that is not there. Conditions: as each theorem states them. -/
import Derived.Test.YtfobgkkmbacfjaaCaRef5
namespace Go.Proofs.Ytfobgkkmbacfjaa
open Go.RowKit
set_option linter.unusedVariables false
set_option maxRecDepth 20000
namespace CR

set_option maxHeartbeats 600000 in
theorem put_full {w : World} {g : Nat} {M D : Nat → Prop} {S W k : Int} {L : List En} (h : Ca w g M D S W k L) (x : En) (a : Option Addr) (n cap : Nat) (hsl : Sl w a n cap x.z) (hn : n ≤ 1000000) (hx : 0 ≤ x.n) (hS : 1 ≤ S) (hlen : L.length ≤ 1000000) (hp : atL L x.n = -1) (hw : W ≤ inL S L x.n) :
    Calls Try.prog 14 #[.pointer (some ⟨g, 0, none⟩), x.val (.slice a n cap)] w fun e w' => e = .returned (.int .i64 5) ∧ Below w.heap.size w w' := by
  have H0 : Hid (Ca w g M D S W k L) := h
  have hnn : ¬ x.n < 0 := by omega
  have HP : Hid (atL L x.n = -1) := hp
  have HL : Hid (x.z.length = n) := hsl.len
  obtain ⟨c, hc⟩ : ∃ c, inL S L x.n = c := ⟨_, rfl⟩
  have HC : Hid (inL S L x.n = c) := hc
  rw [hc] at hw
  have hcl : c ≤ 1000000 := by rw [← hc]; have := inL_le S L x.n; omega
  clear hp h hc
  go_enter Try.func14, Try.ntmps14
  go_upto_region 5 with (first
    | (go_at_call 22; have mk := B1; clear mk; have K := Eb.six (x := x) (d := .slice a1 n cap1) (g := w.heap.size) (o := 0) (V := w1) (F := fun k => k = w.heap.size) (.inl rfl) (Keep.refl _ w1); have E2 := b1.put x (.slice a1 n cap1); simp only [Nat.zero_add] at K E2; have B2 := K.after B1 (fun k h => by omega); have own2 := own1.keep K (fun k hk e => by have := (own1.base k hk).1; simp at this; omega); clear p0 p1 p2 p3 p4 p5 f0 f1 f2 f3 f4 f5 b1 own1 K hb1 B1; generalize World.setCell _ _ _ = W2 at *; refine (at_any (H0.out.below B2) x.n).mono ?_; rintro e wz ⟨rfl, rfl⟩; rw [HP.out])
    | (go_at_call 44; refine (copy_any x a n cap _ (hsl.below (ba (Below.refl _ _))) (by omega)).mono ?_; rintro e w1 ⟨a1, cap1, rfl, own1, hb1⟩; have b1 := (Eb.madeT w x (.slice a n cap) 41).next hb1; obtain ⟨p0, p1, p2, p3, p4, p5⟩ := b1.lit; obtain ⟨f0, f1, f2, f3, f4, f5⟩ := b1.lit'; have B1 := next (ba (o := .cells #[.int .i64 x.f, .int .i64 x.b, .int .i64 x.n, .int .i64 x.u, .bool x.q, .slice a n cap] 41) (Below.refl w.heap.size w)) hb1))
  have hbu : ∀ u : Up W2, Ca u.1 g M D S W k L := fun u => (H0.out.below B2).below u.2
  have hold : ∀ j, M j ∨ D j → j < w.heap.size := H0.out.old
  obtain ⟨c1', c2', lt⟩ : W2.cell? ⟨g, 1, none⟩ = some (.int .i64 W) ∧ W2.cell? ⟨g, 2, none⟩ = some (.int .i64 k) ∧ g < W2.heap.size := by
    obtain ⟨_, _, _, C2⟩ := H0.out.below B2
    exact ⟨C2.c1, C2.c2, C2.lt⟩
  have hgw : g < w.heap.size := by obtain ⟨_, _, _, hh⟩ := H0.out; exact hh.lt
  obtain ⟨p0, p1, p2, p3, p4, p5⟩ := E2.lit
  have plt := E2.lt
  go_upto_region 9 with fail
  have uc := @Up.cell
  refine wp_region_up (by kernel_rfl) (by kernel_rfl) ?_
  repeat (go_big_quiet_step ((go_at_call 45; exact Calls.up_of (in_b HC.out hS (hbu _)))))
  refine wpQuiet_nil ?_
  rintro _ ⟨u, rfl⟩
  have B3 := next B2 u.2
  have E3 := E2.next u.2
  have own3 := own2.below u.2
  clear uc hbu c1' c2' lt p0 p1 p2 p3 p4 p5 plt E2 own2 B2
  generalize u.1 = W3 at *
  clear u
  go_wp2_with fail
  go_ret
  exact ⟨rfl, B3⟩
set_option maxHeartbeats 900000 in
theorem put_new {w : World} {g : Nat} {M D : Nat → Prop} {S W k : Int} {L : List En} (h : Ca w g M D S W k L) (x : En) (a : Option Addr) (n cap : Nat) (hsl : Sl w a n cap x.z) (hn : n ≤ 1000000) (hx : 0 ≤ x.n) (hS : 1 ≤ S) (hlen : L.length ≤ 1000000) (hp : atL L x.n = -1) (hw : ¬ W ≤ inL S L x.n) (hk : 0 ≤ k ∧ k < 1000000000000) :
    Calls Try.prog 14 #[.pointer (some ⟨g, 0, none⟩), x.val (.slice a n cap)] w fun e w' => e = .returned (.int .i64 0) ∧
      (∃ p M' D', p ≤ L.length ∧ (∀ j y, p ≤ j → L[j]? = some y → x.n < y.n) ∧ (p ≠ 0 → ∀ y, L[p - 1]? = some y → y.n ≤ x.n) ∧ (∀ j, M' j → M j ∨ w.heap.size ≤ j) ∧ (∀ j, D' j → D j ∨ w.heap.size ≤ j) ∧
        Ca w' g M' D' S W (k + 1) (L.take p ++ { x with u := k + 1 } :: L.drop p)) ∧ Keep M w w' := by
  have H0 : Hid (Ca w g M D S W k L) := h
  have hnn : ¬ x.n < 0 := by omega
  have HP : Hid (atL L x.n = -1) := hp
  have HL : Hid (x.z.length = n) := hsl.len
  obtain ⟨c, hc⟩ : ∃ c, inL S L x.n = c := ⟨_, rfl⟩
  have HC : Hid (inL S L x.n = c) := hc
  rw [hc] at hw
  have hcl : c ≤ 1000000 := by rw [← hc]; have := inL_le S L x.n; omega
  clear hp h hc
  go_enter Try.func14, Try.ntmps14
  go_upto_region 5 with (first
    | (go_at_call 22; have mk := B1; clear mk; have K := Eb.six (x := x) (d := .slice a1 n cap1) (g := w.heap.size) (o := 0) (V := w1) (F := fun k => k = w.heap.size) (.inl rfl) (Keep.refl _ w1); have E2 := b1.put x (.slice a1 n cap1); simp only [Nat.zero_add] at K E2; have B2 := K.after B1 (fun k h => by omega); have own2 := own1.keep K (fun k hk e => by have := (own1.base k hk).1; simp at this; omega); clear p0 p1 p2 p3 p4 p5 f0 f1 f2 f3 f4 f5 b1 own1 K hb1 B1; generalize World.setCell _ _ _ = W2 at *; refine (at_any (H0.out.below B2) x.n).mono ?_; rintro e wz ⟨rfl, rfl⟩; rw [HP.out])
    | (go_at_call 44; refine (copy_any x a n cap _ (hsl.below (ba (Below.refl _ _))) (by omega)).mono ?_; rintro e w1 ⟨a1, cap1, rfl, own1, hb1⟩; have b1 := (Eb.madeT w x (.slice a n cap) 41).next hb1; obtain ⟨p0, p1, p2, p3, p4, p5⟩ := b1.lit; obtain ⟨f0, f1, f2, f3, f4, f5⟩ := b1.lit'; have B1 := next (ba (o := .cells #[.int .i64 x.f, .int .i64 x.b, .int .i64 x.n, .int .i64 x.u, .bool x.q, .slice a n cap] 41) (Below.refl w.heap.size w)) hb1))
  have hbu : ∀ u : Up W2, Ca u.1 g M D S W k L := fun u => (H0.out.below B2).below u.2
  have hold : ∀ j, M j ∨ D j → j < w.heap.size := H0.out.old
  obtain ⟨c1', c2', lt⟩ : W2.cell? ⟨g, 1, none⟩ = some (.int .i64 W) ∧ W2.cell? ⟨g, 2, none⟩ = some (.int .i64 k) ∧ g < W2.heap.size := by
    obtain ⟨_, _, _, C2⟩ := H0.out.below B2
    exact ⟨C2.c1, C2.c2, C2.lt⟩
  have hgw : g < w.heap.size := by obtain ⟨_, _, _, hh⟩ := H0.out; exact hh.lt
  obtain ⟨p0, p1, p2, p3, p4, p5⟩ := E2.lit
  have plt := E2.lt
  go_upto_region 9 with fail
  have uc := @Up.cell
  refine wp_region_up (by kernel_rfl) (by kernel_rfl) ?_
  repeat (go_big_quiet_step ((go_at_call 45; exact Calls.up_of (in_b HC.out hS (hbu _)))))
  refine wpQuiet_nil ?_
  rintro _ ⟨u, rfl⟩
  have B3 := next B2 u.2
  have E3 := E2.next u.2
  have own3 := own2.below u.2
  clear uc hbu c1' c2' lt p0 p1 p2 p3 p4 p5 plt E2 own2 B2
  generalize u.1 = W3 at *
  clear u
  obtain ⟨R, ra, rc, C3⟩ := H0.out.below B3
  obtain ⟨N, hN⟩ : ∃ N, L.length = N := ⟨_, rfl⟩
  have c2 := C3.c2
  have c3 := C3.c3
  have g2 := C3.fz 2
  have hle := C3.row.row.le
  have hmx := C3.row.row.max
  unfold maxLen at hmx
  rw [hN] at c3 hle hlen
  have HN : Hid (L.length = N) := hN
  have HCA : Hid (CaI W3 g M D S W k L R ra rc) := C3
  obtain ⟨p0, p1, p2, p3, p4, p5⟩ := E3.lit
  obtain ⟨f0, f1, f2, f3, f4, f5⟩ := E3.lit'
  have hgg : w.heap.size ≠ g := by omega
  clear hN C3
  go_upto_block 0 with fail
  have C4 := (HCA.out.clock (k + 1)).keep (Keep.one _ w.heap.size 3 (.int .i64 (k + 1))) (fun j hj e => by have := hold j hj; omega)
  have E4 := (E3.far (p := ⟨g, 2, none⟩) (u := .int .i64 (k + 1)) hgg).setU (k + 1)
  simp only [Nat.zero_add] at E4
  have own4 := (own3.keep (Keep.one W3 g 2 (.int .i64 (k + 1))) (fun j hj e => by have := (own3.base j hj).1; simp at this; omega)).keep (Keep.one _ w.heap.size 3 (.int .i64 (k + 1))) (fun j hj e => by have := (own3.base j hj).1; simp at this; omega)
  have K4 := ((Keep.of_below (F := fun j => j = g) B3).setCell (p := ⟨g, 2, none⟩) (.inl rfl) (.int .i64 (k + 1))).setCell (p := ⟨w.heap.size, 3, none⟩) (.inr (Nat.le_refl _)) (.int .i64 (k + 1))
  clear HCA E3 own3 B3 c2 c3 g2 p0 p1 p2 p3 p4 p5 f0 f1 f2 f3 f4 f5
  generalize (W3.setCell ⟨g, 2, none⟩ (.int .i64 (k + 1))).setCell ⟨w.heap.size, 3, none⟩ (.int .i64 (k + 1)) = W4 at *
  have HC4 : Hid (CaI W4 g M D S W (k + 1) L R ra rc) := C4
  have HE4 : Hid (Eb W4 w.heap.size 0 { x with u := k + 1 } (.slice a1 n cap1)) := E4
  clear C4 E4
  go_cut [6] (fun v wx => ∃ p : Nat, v = .int .i64 (p : Int) ∧ p ≤ N ∧ Below W4.heap.size W4 wx ∧ (∀ j y, p ≤ j → L[j]? = some y → x.n < y.n) ∧ (p ≠ 0 → ∀ y, L[p - 1]? = some y → y.n ≤ x.n))
  case first =>
    go_wp2_with fail
    go_loopw [6] (fun vi wr => ∃ p : Nat, vi = .int .i64 (p : Int) ∧ p ≤ N ∧ Below W4.heap.size W4 wr ∧ Hid (∀ j y, p ≤ j → L[j]? = some y → x.n < y.n)) (fun vi _ => (intOf vi).toNat)
    case atStart => exact ⟨N, rfl, Nat.le_refl _, Below.refl _ _, fun j y hj hy => by have := (List.getElem?_eq_some_iff.1 hy).1; have := HN.out; omega⟩
    case round =>
      obtain ⟨p, rfl, hpN, hB, HJ⟩ := hrel
      have C5 := HC4.out.below hB
      have c3 := C5.c3
      rw [HN.out] at c3
      have lt := C5.lt
      have E5 := HE4.out.next hB
      obtain ⟨_, _, p2, _⟩ := E5.lit
      have plt := E5.lt
      simp only at p2
      have uc := @Up.cell
      cases p with
      | zero =>
        clear C5 E5
        go_upto_region 14 with fail
        refine wp_region_up (by kernel_rfl) (by kernel_rfl) ?_
        repeat (go_big_quiet_step (fail))
        refine wpQuiet_nil ?_
        rintro _ ⟨u, rfl⟩
        have hB2 := next hB u.2
        clear uc c3 lt p2 plt hB
        generalize u.1 = wu at *
        clear u
        go_wp2_with fail
        go_meet
        case rel => exact ⟨0, rfl, by omega, hB2, HJ.out, fun h => absurd rfl h⟩
      | succ q =>
        have row := C5.row
        rw [HN.out] at row
        obtain ⟨y, d, b, o, hy, _, _, rfl, _, hb, ⟨y0, y1, y2, y3, y4, y5⟩, _⟩ := row.get (i := q) (by omega)
        have HY : Hid (L[q]? = some y) := hy
        have hqN : 0 ≤ (q : Int) ∧ (q : Int) < N := by omega
        have hq1 : ((q + 1 : Nat) : Int) - 1 = (q : Int) := by omega
        have hq0 : 0 < ((q + 1 : Nat) : Int) := by omega
        clear C5 E5 hy row y0 y1 y3 y4 y5
        obtain ⟨yn, hyn⟩ : ∃ v, y.n = v := ⟨_, rfl⟩
        rw [hyn] at y2
        have HYN : Hid (y.n = yn) := hyn
        clear hyn
        by_cases hgt : x.n < yn
        · go_upto_region 14 with fail
          refine wp_region_up (by kernel_rfl) (by kernel_rfl) ?_
          repeat (go_big_quiet_step (fail))
          refine wpQuiet_nil ?_
          rintro _ ⟨u, rfl⟩
          have hB2 := next hB u.2
          clear uc c3 lt p2 plt hB y2 hb
          generalize u.1 = wu at *
          clear u
          go_wp2_with fail
          go_roundw
          case rel =>
            refine ⟨q, by go_num, by omega, hB2, fun j z hj hz => ?_⟩
            by_cases e : j = q
            · subst e
              rw [HY.out] at hz
              obtain rfl := Option.some.inj hz
              rw [HYN.out]; exact hgt
            · exact HJ.out j z (by omega) hz
          case measure => simp [intOf]
        · go_upto_region 14 with fail
          refine wp_region_up (by kernel_rfl) (by kernel_rfl) ?_
          repeat (go_big_quiet_step (fail))
          refine wpQuiet_nil ?_
          rintro _ ⟨u, rfl⟩
          have hB2 := next hB u.2
          clear uc c3 lt p2 plt hB y2 hb
          generalize u.1 = wu at *
          clear u
          go_wp2_with fail
          go_meet
          case rel =>
            refine ⟨q + 1, by go_num, by omega, hB2, HJ.out, fun _ z hz => ?_⟩
            rw [Nat.add_sub_cancel, HY.out] at hz
            obtain rfl := Option.some.inj hz
            rw [HYN.out]; omega
  case rest =>
    obtain ⟨p, rfl, hpN, hB5, hlo, hhi⟩ := hcut
    have HLO : Hid (∀ j y, p ≤ j → L[j]? = some y → x.n < y.n) := hlo
    have HHI : Hid (p ≠ 0 → ∀ y, L[p - 1]? = some y → y.n ≤ x.n) := hhi
    clear hlo hhi
    go_upto_region 16 with fail
    obtain ⟨f0', hfi, hp0, hp1, hp2⟩ := info_parts Try.infoREn
    have hBd : Below wc.heap.size wc wc.drew := (Below.refl _ _).drew
    have CV := (HC4.out.below hB5).below hBd
    have EV := (HE4.out.next hB5).next hBd
    have ownV := (own4.below hB5).below hBd
    have KV := (K4.next hB5).next hBd
    refine wp_region_orders 21 rfl (by kernel_rfl) ?_
    clear hBd hB5 HC4 HE4 own4 K4
    generalize wc.drew = V0 at *
    have rlen := CV.row.rlen
    have hone := CV.row.onecell
    have hzV := KV.size
    have hI : (fun V : World => V.cell? ⟨g, 3, none⟩ = some (.slice ra N rc) ∧ V.frozen? ⟨g, 3, none⟩ = false ∧ V.cell? ⟨w.heap.size, 0, none⟩ = some (.int .i64 x.f) ∧ V.cell? ⟨w.heap.size, 1, none⟩ = some (.int .i64 x.b) ∧ V.cell? ⟨w.heap.size, 2, none⟩ = some (.int .i64 x.n) ∧ V.cell? ⟨w.heap.size, 3, none⟩ = some (.int .i64 (k + 1)) ∧ V.cell? ⟨w.heap.size, 4, none⟩ = some (.bool x.q) ∧ V.cell? ⟨w.heap.size, 5, none⟩ = some (.slice a1 n cap1)) V0 := ⟨by have := CV.c3; rw [HN.out] at this; exact this, CV.fz 3, EV.lit⟩
    have hpp : 0 ≤ (p : Int) ∧ (p : Int) ≤ N ∧ (p : Int) ≤ rc := by omega
    have hpr : p ≤ rc := by omega
    rcases Nat.eq_zero_or_pos rc with hrc | hrc
    · obtain rfl : rc = 0 := hrc
      obtain rfl : N = 0 := by omega
      obtain rfl : p = 0 := by omega
      have hR : R = [] := List.eq_nil_of_length_eq_zero (by rw [rlen, HN.out])
      refine any_inv (fun V : World => V.cell? ⟨g, 3, none⟩ = some (.slice ra 0 0) ∧ V.frozen? ⟨g, 3, none⟩ = false ∧ V.cell? ⟨w.heap.size, 0, none⟩ = some (.int .i64 x.f) ∧ V.cell? ⟨w.heap.size, 1, none⟩ = some (.int .i64 x.b) ∧ V.cell? ⟨w.heap.size, 2, none⟩ = some (.int .i64 x.n) ∧ V.cell? ⟨w.heap.size, 3, none⟩ = some (.int .i64 (k + 1)) ∧ V.cell? ⟨w.heap.size, 4, none⟩ = some (.bool x.q) ∧ V.cell? ⟨w.heap.size, 5, none⟩ = some (.slice a1 n cap1)) [20] hI ?_
      refine inv_take (v := ?v508) [18, 19, 20] 0 hI rfl (by kernel_rfl) (by kernel_rfl) (by kernel_rfl) (by kernel_rfl) (by kernel_rfl) (fun _ _ _ h => h) (by kernel_rfl) (fun V hV => ?hy508) ?go508
      case hy508 => (obtain ⟨i1, i2, q0, q1, q2, q3, q4, q5⟩ := hV; go_simp <;> rfl)
      simp only [Act.put, List.setIfInBounds_toArray, List.set_cons_zero, List.set_cons_succ]
      refine inv_take (v := ?v509) [2, 3, 4, 7, 17, 18, 19, 20] 1 hI rfl (by kernel_rfl) (by kernel_rfl) (by kernel_rfl) (by kernel_rfl) (by kernel_rfl) (fun _ _ _ h => h) (by kernel_rfl) (fun V hV => ?hy509) ?go509
      case hy509 => (obtain ⟨i1, i2, q0, q1, q2, q3, q4, q5⟩ := hV; go_simp <;> rfl)
      simp only [Act.put, List.setIfInBounds_toArray, List.set_cons_zero, List.set_cons_succ]
      refine inv_take (v := ?v510) [3, 4, 7, 17, 18, 19, 20] 2 hI rfl (by kernel_rfl) (by kernel_rfl) (by kernel_rfl) (by kernel_rfl) (by kernel_rfl) (fun _ _ _ h => h) (by kernel_rfl) (fun V hV => ?hy510) ?go510
      case hy510 => (obtain ⟨i1, i2, q0, q1, q2, q3, q4, q5⟩ := hV; go_simp <;> rfl)
      simp only [Act.put, List.setIfInBounds_toArray, List.set_cons_zero, List.set_cons_succ]
      refine inv_take (v := ?v511) [4, 7, 17, 18, 19, 20] 3 hI rfl (by kernel_rfl) (by kernel_rfl) (by kernel_rfl) (by kernel_rfl) (by kernel_rfl) (fun _ _ _ h => h) (by kernel_rfl) (fun V hV => ?hy511) ?go511
      case hy511 => (obtain ⟨i1, i2, q0, q1, q2, q3, q4, q5⟩ := hV; go_simp <;> rfl)
      simp only [Act.put, List.setIfInBounds_toArray, List.set_cons_zero, List.set_cons_succ]
      refine inv_take (v := ?v512) [7, 17, 18, 19, 20] 4 hI rfl (by kernel_rfl) (by kernel_rfl) (by kernel_rfl) (by kernel_rfl) (by kernel_rfl) (fun _ _ _ h => h) (by kernel_rfl) (fun V hV => ?hy512) ?go512
      case hy512 => (obtain ⟨i1, i2, q0, q1, q2, q3, q4, q5⟩ := hV; go_simp <;> rfl)
      simp only [Act.put, List.setIfInBounds_toArray, List.set_cons_zero, List.set_cons_succ]
      refine inv_take (v := ?v513) [7, 17, 18, 19, 20] 5 hI rfl (by kernel_rfl) (by kernel_rfl) (by kernel_rfl) (by kernel_rfl) (by kernel_rfl) (fun _ _ _ h => h) (by kernel_rfl) (fun V hV => ?hy513) ?go513
      case hy513 => (obtain ⟨i1, i2, q0, q1, q2, q3, q4, q5⟩ := hV; go_simp <;> rfl)
      simp only [Act.put, List.setIfInBounds_toArray, List.set_cons_zero, List.set_cons_succ]
      refine inv_take (v := ?v514) [7, 17, 18, 19, 20] 6 hI rfl (by kernel_rfl) (by kernel_rfl) (by kernel_rfl) (by kernel_rfl) (by kernel_rfl) (fun _ _ _ h => h) (by kernel_rfl) (fun V hV => ?hy514) ?go514
      case hy514 => (obtain ⟨i1, i2, q0, q1, q2, q3, q4, q5⟩ := hV; go_simp <;> rfl)
      simp only [Act.put, List.setIfInBounds_toArray, List.set_cons_zero, List.set_cons_succ]
      refine inv_take (v := ?v515) [17, 18, 19, 20] 7 hI rfl (by kernel_rfl) (by kernel_rfl) (by kernel_rfl) (by kernel_rfl) (by kernel_rfl) (fun _ _ _ h => h) (by kernel_rfl) (fun V hV => ?hy515) ?go515
      case hy515 => (obtain ⟨i1, i2, q0, q1, q2, q3, q4, q5⟩ := hV; go_simp <;> rfl)
      simp only [Act.put, List.setIfInBounds_toArray, List.set_cons_zero, List.set_cons_succ]
      refine inv_take (v := ?v516) [9, 16, 17, 18, 19, 20] 8 hI rfl (by kernel_rfl) (by kernel_rfl) (by kernel_rfl) (by kernel_rfl) (by kernel_rfl) (fun _ _ _ h => h) (by kernel_rfl) (fun V hV => ?hy516) ?go516
      case hy516 => (obtain ⟨i1, i2, q0, q1, q2, q3, q4, q5⟩ := hV; go_simp <;> rfl)
      simp only [Act.put, List.setIfInBounds_toArray, List.set_cons_zero, List.set_cons_succ]
      refine inv_take (v := ?v517) [11, 12, 13, 15, 16, 17, 18, 19, 20] 10 hI rfl (by kernel_rfl) (by kernel_rfl) (by kernel_rfl) (by kernel_rfl) (by kernel_rfl) (fun _ _ _ h => h) (by kernel_rfl) (fun V hV => ?hy517) ?go517
      case hy517 => (obtain ⟨i1, i2, q0, q1, q2, q3, q4, q5⟩ := hV; go_simp <;> rfl)
      simp only [Act.put, List.setIfInBounds_toArray, List.set_cons_zero, List.set_cons_succ]
      refine inv_take (v := ?v518) [12, 13, 15, 16, 17, 18, 19, 20] 11 hI rfl (by kernel_rfl) (by kernel_rfl) (by kernel_rfl) (by kernel_rfl) (by kernel_rfl) (fun _ _ _ h => h) (by kernel_rfl) (fun V hV => ?hy518) ?go518
      case hy518 => (obtain ⟨i1, i2, q0, q1, q2, q3, q4, q5⟩ := hV; go_simp <;> rfl)
      simp only [Act.put, List.setIfInBounds_toArray, List.set_cons_zero, List.set_cons_succ]
      refine inv_take (v := ?v519) [13, 15, 16, 17, 18, 19, 20] 12 hI rfl (by kernel_rfl) (by kernel_rfl) (by kernel_rfl) (by kernel_rfl) (by kernel_rfl) (fun _ _ _ h => h) (by kernel_rfl) (fun V hV => ?hy519) ?go519
      case hy519 => (obtain ⟨i1, i2, q0, q1, q2, q3, q4, q5⟩ := hV; go_simp <;> rfl)
      simp only [Act.put, List.setIfInBounds_toArray, List.set_cons_zero, List.set_cons_succ]
      refine inv_take (v := ?v520) [15, 16, 17, 18, 19, 20] 13 hI rfl (by kernel_rfl) (by kernel_rfl) (by kernel_rfl) (by kernel_rfl) (by kernel_rfl) (fun _ _ _ h => h) (by kernel_rfl) (fun V hV => ?hy520) ?go520
      case hy520 => (obtain ⟨i1, i2, q0, q1, q2, q3, q4, q5⟩ := hV; go_simp <;> rfl)
      simp only [Act.put, List.setIfInBounds_toArray, List.set_cons_zero, List.set_cons_succ]
      refine inv_take (v := ?v521) [15, 16, 17, 18, 19, 20] 14 hI rfl (by kernel_rfl) (by kernel_rfl) (by kernel_rfl) (by kernel_rfl) (by kernel_rfl) (fun _ _ _ h => h) (by kernel_rfl) (fun V hV => ?hy521) ?go521
      case hy521 => (obtain ⟨i1, i2, q0, q1, q2, q3, q4, q5⟩ := hV; go_simp <;> rfl)
      simp only [Act.put, List.setIfInBounds_toArray, List.set_cons_zero, List.set_cons_succ]
      refine inv_take (v := ?v522) [16, 17, 18, 19, 20] 15 hI rfl (by kernel_rfl) (by kernel_rfl) (by kernel_rfl) (by kernel_rfl) (by kernel_rfl) (fun _ _ _ h => h) (by kernel_rfl) (fun V hV => ?hy522) ?go522
      case hy522 => (obtain ⟨i1, i2, q0, q1, q2, q3, q4, q5⟩ := hV; go_simp <;> rfl)
      simp only [Act.put, List.setIfInBounds_toArray, List.set_cons_zero, List.set_cons_succ]
      refine inv_list 9 (by kernel_rfl) rfl ?_
      go_wp2
      have b1 := ba (o := .cells #[.int .i64 x.f, .int .i64 x.b, .int .i64 x.n, .int .i64 (k + 1), .bool x.q, .slice a1 n cap1] 41) (Below.refl V0.heap.size V0)
      have rb := rw_box V0 { x with u := k + 1 } (.slice a1 n cap1) 41
      have hI1 : (fun V : World => V.cell? ⟨g, 3, none⟩ = some (.slice ra 0 0) ∧ V.frozen? ⟨g, 3, none⟩ = false ∧ V.cell? ⟨w.heap.size, 0, none⟩ = some (.int .i64 x.f) ∧ V.cell? ⟨w.heap.size, 1, none⟩ = some (.int .i64 x.b) ∧ V.cell? ⟨w.heap.size, 2, none⟩ = some (.int .i64 x.n) ∧ V.cell? ⟨w.heap.size, 3, none⟩ = some (.int .i64 (k + 1)) ∧ V.cell? ⟨w.heap.size, 4, none⟩ = some (.bool x.q) ∧ V.cell? ⟨w.heap.size, 5, none⟩ = some (.slice a1 n cap1)) (V0.alloc (.cells #[.int .i64 x.f, .int .i64 x.b, .int .i64 x.n, .int .i64 (k + 1), .bool x.q, .slice a1 n cap1] 41)) := by
        have C1 := CV.below b1
        have h3 := C1.c3
        rw [HN.out] at h3
        exact ⟨h3, C1.fz 3, (EV.next b1).lit⟩
      have hz1 : (V0.alloc (.cells #[.int .i64 x.f, .int .i64 x.b, .int .i64 x.n, .int .i64 (k + 1), .bool x.q, .slice a1 n cap1] 41)).heap.size = V0.heap.size + 1 := by simp
      have HZ1 : Hid _ := hz1
      clear hz1
      refine then_n ⟨hI1, ?_⟩
      generalize V0.alloc _ = V1 at *
      refine inv_list 16 (by kernel_rfl) rfl ?_
      refine wpList_append_slv V1 (fun j => j = V0.heap.size) (by kernel_rfl) (.tmp 87) (.tmp 93) 91 rfl 41 f0' (zeroEn.val (.slice none 0 0)) 6 64 Try.underlying91 hfi hp0 hp1 hp2 rfl (by decide) (some ⟨V0.heap.size, 0, none⟩) 1 1 (ecells ({ x with u := k + 1 }, .slice a1 n cap1)) rfl rb ra 0 0 ((flat ecells R).drop (0 * 6)) rfl (by rw [hR]; exact ⟨rfl, Nat.le_refl _, Nat.zero_le _, fun _ => rfl, .inl rfl⟩) (fun u hu => hone u (List.mem_of_mem_drop hu)) (by unfold maxLen; omega) (by omega) ?_
      intro a6 c6 w6 hrw6 hk6
      have hb6 : Below V0.heap.size V0 w6 := b1.trans (hk6.below (fun j h => by omega) b1.size)
      have C6 := CV.below hb6
      have hI6 : (fun V : World => V.cell? ⟨g, 3, none⟩ = some (.slice ra 0 0) ∧ V.frozen? ⟨g, 3, none⟩ = false ∧ V.cell? ⟨w.heap.size, 0, none⟩ = some (.int .i64 x.f) ∧ V.cell? ⟨w.heap.size, 1, none⟩ = some (.int .i64 x.b) ∧ V.cell? ⟨w.heap.size, 2, none⟩ = some (.int .i64 x.n) ∧ V.cell? ⟨w.heap.size, 3, none⟩ = some (.int .i64 (k + 1)) ∧ V.cell? ⟨w.heap.size, 4, none⟩ = some (.bool x.q) ∧ V.cell? ⟨w.heap.size, 5, none⟩ = some (.slice a1 n cap1)) w6 := by
        have h3 := C6.c3
        rw [HN.out] at h3
        exact ⟨h3, C6.fz 3, (EV.next hb6).lit⟩
      refine then_n ⟨hI6, ?_⟩
      simp only [Act.put, List.setIfInBounds_toArray, List.set_cons_zero, List.set_cons_succ]
      have hone6 : ∀ u ∈ ecells ({ x with u := k + 1 }, Value.slice a1 n cap1) ++ (flat ecells R).drop (0 * 6), u.oneCell' = true := by
        intro u hu
        rcases List.mem_append.1 hu with hu | hu
        · exact ecells_one rfl u hu
        · exact hone u (List.mem_of_mem_drop hu)
      have rowF : Rw w6 (fun j => M j ∧ j ≠ g) ra 0 0 6 ((flat ecells R).take (0 * 6)) := by rw [hR]; exact ⟨rfl, Nat.le_refl _, Nat.zero_le _, fun _ => rfl, .inl rfl⟩
      refine inv_list 17 (by kernel_rfl) rfl ?_
      refine wpList_append_slv w6 (fun j => M j ∧ j ≠ g) (by kernel_rfl) (.tmp 85) (.tmp 94) 91 rfl 41 f0' (zeroEn.val (.slice none 0 0)) 6 64 Try.underlying91 hfi hp0 hp1 hp2 rfl (by decide) ra 0 0 ((flat ecells R).take (0 * 6)) rfl rowF a6 (1 + 0) c6 (ecells ({ x with u := k + 1 }, .slice a1 n cap1) ++ (flat ecells R).drop (0 * 6)) rfl hrw6.slv hone6 (by unfold maxLen; omega) (by omega) ?_
      intro a7 c7 w7 hrw7 hk7
      rw [flat_insert] at hrw7
      have hE7 := EV.next hb6
      have E7 := hE7.keep hk7 (fun h => by have := hold _ (.inl h.1); omega)
      have hc7 : ∀ j, w7.cell? ⟨g, j, none⟩ = w6.cell? ⟨g, j, none⟩ := fun j => hk7.cell j C6.lt (fun h => h.2 rfl)
      have hf7 : ∀ j, w7.frozen? ⟨g, j, none⟩ = false := fun j => (hk7.frozen j C6.lt (fun h => h.2 rfl)).trans (C6.fz j)
      have hI7 : (fun V : World => V.cell? ⟨g, 3, none⟩ = some (.slice ra 0 0) ∧ V.frozen? ⟨g, 3, none⟩ = false ∧ V.cell? ⟨w.heap.size, 0, none⟩ = some (.int .i64 x.f) ∧ V.cell? ⟨w.heap.size, 1, none⟩ = some (.int .i64 x.b) ∧ V.cell? ⟨w.heap.size, 2, none⟩ = some (.int .i64 x.n) ∧ V.cell? ⟨w.heap.size, 3, none⟩ = some (.int .i64 (k + 1)) ∧ V.cell? ⟨w.heap.size, 4, none⟩ = some (.bool x.q) ∧ V.cell? ⟨w.heap.size, 5, none⟩ = some (.slice a1 n cap1)) w7 := by
        have h3 := C6.c3
        rw [HN.out] at h3
        exact ⟨(hc7 3).trans h3, hf7 3, E7.lit⟩
      refine then_n ⟨hI7, ?_⟩
      simp only [Act.put, List.setIfInBounds_toArray, List.set_cons_zero, List.set_cons_succ]
      refine inv_take (v := ?v523) [19, 20] 18 hI7 rfl (by kernel_rfl) (by kernel_rfl) (by kernel_rfl) (by kernel_rfl) (by kernel_rfl) (fun _ _ _ h => h) (by kernel_rfl) (fun V hV => ?hy523) ?go523
      case hy523 => (obtain ⟨i1, i2, q0, q1, q2, q3, q4, q5⟩ := hV; go_simp <;> rfl)
      simp only [Act.put, List.setIfInBounds_toArray, List.set_cons_zero, List.set_cons_succ]
      refine inv_take (v := ?v524) [20] 19 hI7 rfl (by kernel_rfl) (by kernel_rfl) (by kernel_rfl) (by kernel_rfl) (by kernel_rfl) (fun _ _ _ h => h) (by kernel_rfl) (fun V hV => ?hy524) ?go524
      case hy524 => (obtain ⟨i1, i2, q0, q1, q2, q3, q4, q5⟩ := hV; go_simp <;> rfl)
      simp only [Act.put, List.setIfInBounds_toArray, List.set_cons_zero, List.set_cons_succ]
      obtain ⟨i1, i2, _⟩ := hI7
      refine inv_write 20 (by kernel_rfl) (by kernel_rfl) rfl ?_
      go_wp2
      refine then_n ?_
      refine any_done (by kernel_rfl) ?_
      have hng : ¬ D g := CV.ng
      have hdj : ∀ j, M j → ¬ D j := fun j hm hd => by
        by_cases e : j = g
        · exact hng (e ▸ hd)
        · exact CV.row.dj j ⟨hm, e⟩ hd
      have dz : DatZ V0 (fun j => w.heap.size + 1 < j ∧ j < V0.heap.size) x.z (.slice a1 n cap1) := (datz_own ownV (by rw [HL.out]; omega)).imp (fun j hj h => ⟨by simp at h; omega, hj⟩)
      have hz7 : V0.heap.size ≤ w7.heap.size := Nat.le_trans hb6.size hk7.size
      have lift : ∀ {E : Nat → Prop} {z : List Int} {d : Value}, DatZ V0 E z d → (∀ j, E j → ¬ M j) → DatZ w7 E z d := fun h hE => (h.below hb6).keep hk7 (fun j hj hm => hE j hj hm.1)
      have C7 := ca_newrow (M := M) (D' := fun j => D j ∨ (w.heap.size + 1 < j ∧ j < V0.heap.size)) (S := S) (W := W) (k := k + 1) (L' := L.take 0 ++ { x with u := k + 1 } :: L.drop 0) (R' := R.take 0 ++ ({ x with u := k + 1 }, .slice a1 n cap1) :: R.drop 0) (a' := a7) (cap' := c7) (base := V0.heap.size) (n' := 0 + (1 + 0))
        ((hc7 0).trans C6.c0) ((hc7 1).trans C6.c1) ((hc7 2).trans C6.c2) ((hc7 3).trans C6.c3) hf7 (Nat.lt_of_lt_of_le C6.lt hk7.size) CV.mg
        (fun j hj => by rcases hj with hj | hj | hj; have := hold j (.inl hj); omega; have := hold j (.inr hj); omega; exact hj.2)
        (fun j hm hd => by rcases hd with hd | hd; exact hdj j hm hd; have := hold j (.inl hm); omega)
        (by simp [HN.out] <;> omega)
        (hrw7.imp (fun j _ h => h.imp id (fun h => Nat.le_trans hb6.size h)))
        (by simp [CV.row.eq])
        (fun r hr => by
          rcases List.mem_append.1 hr with hr | hr
          · exact (lift (CV.row.dat r (List.mem_of_mem_take hr)) (fun j hd hm => hdj j hm hd)).imp (fun j _ h => .inl h)
          · rcases List.mem_cons.1 hr with rfl | hr
            · exact (lift dz (fun j hd hm => by have := hold j (.inl hm); omega)).imp (fun j _ h => .inr h)
            · exact (lift (CV.row.dat r (List.mem_of_mem_drop hr)) (fun j hd hm => hdj j hm hd)).imp (fun j _ h => .inl h))
        hz7
      have K7 : Keep M w (w7.setCell ⟨g, 3, none⟩ (.slice a7 (0 + (1 + 0)) c7)) := (((KV.mono (fun j _ e => e ▸ CV.mg)).next hb6).trans hk7 (fun j _ h => h.1)).setCell (p := ⟨g, 3, none⟩) (.inl CV.mg) _
      clear i1 i2 hrw7 hk7 hb6 C6 hI6 rowF hone6 hone hI1 hI b1 rb CV EV E7 hE7 hc7 hf7 lift dz ownV KV hfi hp0 hp1 hp2 hrw6 hk6
      generalize w7.setCell ⟨g, 3, none⟩ _ = w8 at *
      go_wp2_with fail
      go_ret
      exact ⟨rfl, ⟨0, _, _, Nat.zero_le _, HLO.out, HHI.out, fun j hj => hj.imp id (fun h => by omega), fun j hj => hj.imp id (fun h => by omega), _, _, _, C7⟩, K7⟩
    · obtain ⟨b, o, rfl, hmb, hb⟩ : ∃ b o, ra = some ⟨b, o, none⟩ ∧ (M b ∧ b ≠ g) ∧ b < V0.heap.size := by
        rcases CV.row.row.row with h0 | ⟨b, o, e, hs, hb, _, _⟩
        · omega
        · exact ⟨b, o, e, hs, hb⟩
      obtain ⟨A, hA⟩ : ∃ A : Addr, (if rc = p then some (⟨b, o, none⟩ : Addr) else some ⟨b, o + p * 6, none⟩) = some A := by
        by_cases e : rc = p
        · exact ⟨_, if_pos e⟩
        · exact ⟨_, if_neg e⟩
      refine any_inv (fun V : World => V.cell? ⟨g, 3, none⟩ = some (.slice (some ⟨b, o, none⟩) N rc) ∧ V.frozen? ⟨g, 3, none⟩ = false ∧ V.cell? ⟨w.heap.size, 0, none⟩ = some (.int .i64 x.f) ∧ V.cell? ⟨w.heap.size, 1, none⟩ = some (.int .i64 x.b) ∧ V.cell? ⟨w.heap.size, 2, none⟩ = some (.int .i64 x.n) ∧ V.cell? ⟨w.heap.size, 3, none⟩ = some (.int .i64 (k + 1)) ∧ V.cell? ⟨w.heap.size, 4, none⟩ = some (.bool x.q) ∧ V.cell? ⟨w.heap.size, 5, none⟩ = some (.slice a1 n cap1)) [20] hI ?_
      refine inv_take (v := ?v8) [18, 19, 20] 0 hI rfl (by kernel_rfl) (by kernel_rfl) (by kernel_rfl) (by kernel_rfl) (by kernel_rfl) (fun _ _ _ h => h) (by kernel_rfl) (fun V hV => ?hy8) ?go8
      case hy8 => (obtain ⟨i1, i2, q0, q1, q2, q3, q4, q5⟩ := hV; go_simp <;> rfl)
      simp only [Act.put, List.setIfInBounds_toArray, List.set_cons_zero, List.set_cons_succ]
      refine inv_take (v := ?v9) [2, 3, 4, 7, 17, 18, 19, 20] 1 hI rfl (by kernel_rfl) (by kernel_rfl) (by kernel_rfl) (by kernel_rfl) (by kernel_rfl) (fun _ _ _ h => h) (by kernel_rfl) (fun V hV => ?hy9) ?go9
      case hy9 => (obtain ⟨i1, i2, q0, q1, q2, q3, q4, q5⟩ := hV; go_simp <;> rfl)
      simp only [Act.put, List.setIfInBounds_toArray, List.set_cons_zero, List.set_cons_succ]
      refine inv_take (v := ?v10) [3, 4, 7, 17, 18, 19, 20] 2 hI rfl (by kernel_rfl) (by kernel_rfl) (by kernel_rfl) (by kernel_rfl) (by kernel_rfl) (fun _ _ _ h => h) (by kernel_rfl) (fun V hV => ?hy10) ?go10
      case hy10 => (obtain ⟨i1, i2, q0, q1, q2, q3, q4, q5⟩ := hV; go_simp <;> rfl)
      simp only [Act.put, List.setIfInBounds_toArray, List.set_cons_zero, List.set_cons_succ]
      refine inv_take (v := ?v11) [4, 7, 17, 18, 19, 20] 3 hI rfl (by kernel_rfl) (by kernel_rfl) (by kernel_rfl) (by kernel_rfl) (by kernel_rfl) (fun _ _ _ h => h) (by kernel_rfl) (fun V hV => ?hy11) ?go11
      case hy11 => (obtain ⟨i1, i2, q0, q1, q2, q3, q4, q5⟩ := hV; go_simp <;> rfl)
      simp only [Act.put, List.setIfInBounds_toArray, List.set_cons_zero, List.set_cons_succ]
      refine inv_take (v := ?v12) [7, 17, 18, 19, 20] 4 hI rfl (by kernel_rfl) (by kernel_rfl) (by kernel_rfl) (by kernel_rfl) (by kernel_rfl) (fun _ _ _ h => h) (by kernel_rfl) (fun V hV => ?hy12) ?go12
      case hy12 => (obtain ⟨i1, i2, q0, q1, q2, q3, q4, q5⟩ := hV; go_simp <;> rfl)
      simp only [Act.put, List.setIfInBounds_toArray, List.set_cons_zero, List.set_cons_succ]
      refine inv_take (v := ?v13) [7, 17, 18, 19, 20] 5 hI rfl (by kernel_rfl) (by kernel_rfl) (by kernel_rfl) (by kernel_rfl) (by kernel_rfl) (fun _ _ _ h => h) (by kernel_rfl) (fun V hV => ?hy13) ?go13
      case hy13 => (obtain ⟨i1, i2, q0, q1, q2, q3, q4, q5⟩ := hV; go_simp <;> rfl)
      simp only [Act.put, List.setIfInBounds_toArray, List.set_cons_zero, List.set_cons_succ]
      refine inv_take (v := ?v14) [7, 17, 18, 19, 20] 6 hI rfl (by kernel_rfl) (by kernel_rfl) (by kernel_rfl) (by kernel_rfl) (by kernel_rfl) (fun _ _ _ h => h) (by kernel_rfl) (fun V hV => ?hy14) ?go14
      case hy14 => (obtain ⟨i1, i2, q0, q1, q2, q3, q4, q5⟩ := hV; go_simp <;> rfl)
      simp only [Act.put, List.setIfInBounds_toArray, List.set_cons_zero, List.set_cons_succ]
      refine inv_take (v := ?v15) [17, 18, 19, 20] 7 hI rfl (by kernel_rfl) (by kernel_rfl) (by kernel_rfl) (by kernel_rfl) (by kernel_rfl) (fun _ _ _ h => h) (by kernel_rfl) (fun V hV => ?hy15) ?go15
      case hy15 => (obtain ⟨i1, i2, q0, q1, q2, q3, q4, q5⟩ := hV; go_simp <;> rfl)
      simp only [Act.put, List.setIfInBounds_toArray, List.set_cons_zero, List.set_cons_succ]
      refine inv_take (v := ?v16) [9, 16, 17, 18, 19, 20] 8 hI rfl (by kernel_rfl) (by kernel_rfl) (by kernel_rfl) (by kernel_rfl) (by kernel_rfl) (fun _ _ _ h => h) (by kernel_rfl) (fun V hV => ?hy16) ?go16
      case hy16 => (obtain ⟨i1, i2, q0, q1, q2, q3, q4, q5⟩ := hV; go_simp <;> rfl)
      simp only [Act.put, List.setIfInBounds_toArray, List.set_cons_zero, List.set_cons_succ]
      refine inv_take (v := ?v17) [11, 12, 13, 15, 16, 17, 18, 19, 20] 10 hI rfl (by kernel_rfl) (by kernel_rfl) (by kernel_rfl) (by kernel_rfl) (by kernel_rfl) (fun _ _ _ h => h) (by kernel_rfl) (fun V hV => ?hy17) ?go17
      case hy17 => (obtain ⟨i1, i2, q0, q1, q2, q3, q4, q5⟩ := hV; go_simp <;> rfl)
      simp only [Act.put, List.setIfInBounds_toArray, List.set_cons_zero, List.set_cons_succ]
      refine inv_take (v := ?v18) [12, 13, 15, 16, 17, 18, 19, 20] 11 hI rfl (by kernel_rfl) (by kernel_rfl) (by kernel_rfl) (by kernel_rfl) (by kernel_rfl) (fun _ _ _ h => h) (by kernel_rfl) (fun V hV => ?hy18) ?go18
      case hy18 => (obtain ⟨i1, i2, q0, q1, q2, q3, q4, q5⟩ := hV; go_simp <;> rfl)
      simp only [Act.put, List.setIfInBounds_toArray, List.set_cons_zero, List.set_cons_succ]
      refine inv_take (v := ?v19) [13, 15, 16, 17, 18, 19, 20] 12 hI rfl (by kernel_rfl) (by kernel_rfl) (by kernel_rfl) (by kernel_rfl) (by kernel_rfl) (fun _ _ _ h => h) (by kernel_rfl) (fun V hV => ?hy19) ?go19
      case hy19 => (obtain ⟨i1, i2, q0, q1, q2, q3, q4, q5⟩ := hV; go_simp <;> rfl)
      simp only [Act.put, List.setIfInBounds_toArray, List.set_cons_zero, List.set_cons_succ]
      refine inv_take (v := ?v20) [15, 16, 17, 18, 19, 20] 13 hI rfl (by kernel_rfl) (by kernel_rfl) (by kernel_rfl) (by kernel_rfl) (by kernel_rfl) (fun _ _ _ h => h) (by kernel_rfl) (fun V hV => ?hy20) ?go20
      case hy20 => (obtain ⟨i1, i2, q0, q1, q2, q3, q4, q5⟩ := hV; go_simp <;> rfl)
      simp only [Act.put, List.setIfInBounds_toArray, List.set_cons_zero, List.set_cons_succ]
      refine inv_take (v := ?v21) [15, 16, 17, 18, 19, 20] 14 hI rfl (by kernel_rfl) (by kernel_rfl) (by kernel_rfl) (by kernel_rfl) (by kernel_rfl) (fun _ _ _ h => h) (by kernel_rfl) (fun V hV => ?hy21) ?go21
      case hy21 => (obtain ⟨i1, i2, q0, q1, q2, q3, q4, q5⟩ := hV; go_simp <;> rfl)
      simp only [Act.put, List.setIfInBounds_toArray, List.set_cons_zero, List.set_cons_succ]
      refine inv_take (v := ?v22) [16, 17, 18, 19, 20] 15 hI rfl (by kernel_rfl) (by kernel_rfl) (by kernel_rfl) (by kernel_rfl) (by kernel_rfl) (fun _ _ _ h => h) (by kernel_rfl) (fun V hV => ?hy22) ?go22
      case hy22 => (obtain ⟨i1, i2, q0, q1, q2, q3, q4, q5⟩ := hV; go_simp <;> rfl)
      simp only [Act.put, List.setIfInBounds_toArray, List.set_cons_zero, List.set_cons_succ]
      refine inv_list 9 (by kernel_rfl) rfl ?_
      go_wp2
      have hA' : ∀ V, SlV V (some ⟨b, o, none⟩) N rc 6 (flat ecells R) → SlV V (some A) (N - p) (rc - p) 6 ((flat ecells R).drop (p * 6)) := fun V hV => hV.rear (by omega) hA
      have HA : Hid (∀ V, SlV V (some ⟨b, o, none⟩) N rc 6 (flat ecells R) → SlV V (some A) (N - p) (rc - p) 6 ((flat ecells R).drop (p * 6))) := hA'
      clear hA'
      have b1 := ba (o := .cells #[.int .i64 x.f, .int .i64 x.b, .int .i64 x.n, .int .i64 (k + 1), .bool x.q, .slice a1 n cap1] 41) (Below.refl V0.heap.size V0)
      have rb := rw_box V0 { x with u := k + 1 } (.slice a1 n cap1) 41
      have hI1 : (fun V : World => V.cell? ⟨g, 3, none⟩ = some (.slice (some ⟨b, o, none⟩) N rc) ∧ V.frozen? ⟨g, 3, none⟩ = false ∧ V.cell? ⟨w.heap.size, 0, none⟩ = some (.int .i64 x.f) ∧ V.cell? ⟨w.heap.size, 1, none⟩ = some (.int .i64 x.b) ∧ V.cell? ⟨w.heap.size, 2, none⟩ = some (.int .i64 x.n) ∧ V.cell? ⟨w.heap.size, 3, none⟩ = some (.int .i64 (k + 1)) ∧ V.cell? ⟨w.heap.size, 4, none⟩ = some (.bool x.q) ∧ V.cell? ⟨w.heap.size, 5, none⟩ = some (.slice a1 n cap1)) (V0.alloc (.cells #[.int .i64 x.f, .int .i64 x.b, .int .i64 x.n, .int .i64 (k + 1), .bool x.q, .slice a1 n cap1] 41)) := by
        have C1 := CV.below b1
        have h3 := C1.c3
        rw [HN.out] at h3
        exact ⟨h3, C1.fz 3, (EV.next b1).lit⟩
      have hz1 : (V0.alloc (.cells #[.int .i64 x.f, .int .i64 x.b, .int .i64 x.n, .int .i64 (k + 1), .bool x.q, .slice a1 n cap1] 41)).heap.size = V0.heap.size + 1 := by simp
      have HZ1 : Hid _ := hz1
      clear hz1
      refine then_n ⟨hI1, ?_⟩
      generalize V0.alloc _ = V1 at *
      refine inv_list 16 (by kernel_rfl) rfl ?_
      refine wpList_append_slv V1 (fun j => j = V0.heap.size) (by kernel_rfl) (.tmp 87) (.tmp 93) 91 rfl 41 f0' (zeroEn.val (.slice none 0 0)) 6 64 Try.underlying91 hfi hp0 hp1 hp2 rfl (by decide) (some ⟨V0.heap.size, 0, none⟩) 1 1 (ecells ({ x with u := k + 1 }, .slice a1 n cap1)) rfl rb (some A) (N - p) (rc - p) ((flat ecells R).drop (p * 6)) rfl (HA.out _ (by have := (CV.below b1).row.row.slv; rw [HN.out] at this; exact this)) (fun u hu => hone u (List.mem_of_mem_drop hu)) (by unfold maxLen; omega) (by omega) ?_
      intro a6 c6 w6 hrw6 hk6
      have hb6 : Below V0.heap.size V0 w6 := b1.trans (hk6.below (fun j h => by omega) b1.size)
      have C6 := CV.below hb6
      have hI6 : (fun V : World => V.cell? ⟨g, 3, none⟩ = some (.slice (some ⟨b, o, none⟩) N rc) ∧ V.frozen? ⟨g, 3, none⟩ = false ∧ V.cell? ⟨w.heap.size, 0, none⟩ = some (.int .i64 x.f) ∧ V.cell? ⟨w.heap.size, 1, none⟩ = some (.int .i64 x.b) ∧ V.cell? ⟨w.heap.size, 2, none⟩ = some (.int .i64 x.n) ∧ V.cell? ⟨w.heap.size, 3, none⟩ = some (.int .i64 (k + 1)) ∧ V.cell? ⟨w.heap.size, 4, none⟩ = some (.bool x.q) ∧ V.cell? ⟨w.heap.size, 5, none⟩ = some (.slice a1 n cap1)) w6 := by
        have h3 := C6.c3
        rw [HN.out] at h3
        exact ⟨h3, C6.fz 3, (EV.next hb6).lit⟩
      refine then_n ⟨hI6, ?_⟩
      simp only [Act.put, List.setIfInBounds_toArray, List.set_cons_zero, List.set_cons_succ]
      have hone6 : ∀ u ∈ ecells ({ x with u := k + 1 }, Value.slice a1 n cap1) ++ (flat ecells R).drop (p * 6), u.oneCell' = true := by
        intro u hu
        rcases List.mem_append.1 hu with hu | hu
        · exact ecells_one rfl u hu
        · exact hone u (List.mem_of_mem_drop hu)
      have rowF : Rw w6 (fun j => M j ∧ j ≠ g) (some ⟨b, o, none⟩) p p 6 ((flat ecells R).take (p * 6)) := C6.row.row.front (by rw [HN.out]; exact hpN) (fun h => by cases h)
      refine inv_list 17 (by kernel_rfl) rfl ?_
      refine wpList_append_slv w6 (fun j => M j ∧ j ≠ g) (by kernel_rfl) (.tmp 85) (.tmp 94) 91 rfl 41 f0' (zeroEn.val (.slice none 0 0)) 6 64 Try.underlying91 hfi hp0 hp1 hp2 rfl (by decide) (some ⟨b, o, none⟩) p p ((flat ecells R).take (p * 6)) rfl rowF a6 (1 + (N - p)) c6 (ecells ({ x with u := k + 1 }, .slice a1 n cap1) ++ (flat ecells R).drop (p * 6)) rfl hrw6.slv hone6 (by unfold maxLen; omega) (by omega) ?_
      intro a7 c7 w7 hrw7 hk7
      rw [flat_insert] at hrw7
      have hE7 := EV.next hb6
      have E7 := hE7.keep hk7 (fun h => by have := hold _ (.inl h.1); omega)
      have hc7 : ∀ j, w7.cell? ⟨g, j, none⟩ = w6.cell? ⟨g, j, none⟩ := fun j => hk7.cell j C6.lt (fun h => h.2 rfl)
      have hf7 : ∀ j, w7.frozen? ⟨g, j, none⟩ = false := fun j => (hk7.frozen j C6.lt (fun h => h.2 rfl)).trans (C6.fz j)
      have hI7 : (fun V : World => V.cell? ⟨g, 3, none⟩ = some (.slice (some ⟨b, o, none⟩) N rc) ∧ V.frozen? ⟨g, 3, none⟩ = false ∧ V.cell? ⟨w.heap.size, 0, none⟩ = some (.int .i64 x.f) ∧ V.cell? ⟨w.heap.size, 1, none⟩ = some (.int .i64 x.b) ∧ V.cell? ⟨w.heap.size, 2, none⟩ = some (.int .i64 x.n) ∧ V.cell? ⟨w.heap.size, 3, none⟩ = some (.int .i64 (k + 1)) ∧ V.cell? ⟨w.heap.size, 4, none⟩ = some (.bool x.q) ∧ V.cell? ⟨w.heap.size, 5, none⟩ = some (.slice a1 n cap1)) w7 := by
        have h3 := C6.c3
        rw [HN.out] at h3
        exact ⟨(hc7 3).trans h3, hf7 3, E7.lit⟩
      refine then_n ⟨hI7, ?_⟩
      simp only [Act.put, List.setIfInBounds_toArray, List.set_cons_zero, List.set_cons_succ]
      refine inv_take (v := ?v23) [19, 20] 18 hI7 rfl (by kernel_rfl) (by kernel_rfl) (by kernel_rfl) (by kernel_rfl) (by kernel_rfl) (fun _ _ _ h => h) (by kernel_rfl) (fun V hV => ?hy23) ?go23
      case hy23 => (obtain ⟨i1, i2, q0, q1, q2, q3, q4, q5⟩ := hV; go_simp <;> rfl)
      simp only [Act.put, List.setIfInBounds_toArray, List.set_cons_zero, List.set_cons_succ]
      refine inv_take (v := ?v24) [20] 19 hI7 rfl (by kernel_rfl) (by kernel_rfl) (by kernel_rfl) (by kernel_rfl) (by kernel_rfl) (fun _ _ _ h => h) (by kernel_rfl) (fun V hV => ?hy24) ?go24
      case hy24 => (obtain ⟨i1, i2, q0, q1, q2, q3, q4, q5⟩ := hV; go_simp <;> rfl)
      simp only [Act.put, List.setIfInBounds_toArray, List.set_cons_zero, List.set_cons_succ]
      obtain ⟨i1, i2, _⟩ := hI7
      refine inv_write 20 (by kernel_rfl) (by kernel_rfl) rfl ?_
      go_wp2
      refine then_n ?_
      refine any_done (by kernel_rfl) ?_
      have hng : ¬ D g := CV.ng
      have hdj : ∀ j, M j → ¬ D j := fun j hm hd => by
        by_cases e : j = g
        · exact hng (e ▸ hd)
        · exact CV.row.dj j ⟨hm, e⟩ hd
      have dz : DatZ V0 (fun j => w.heap.size + 1 < j ∧ j < V0.heap.size) x.z (.slice a1 n cap1) := (datz_own ownV (by rw [HL.out]; omega)).imp (fun j hj h => ⟨by simp at h; omega, hj⟩)
      have hz7 : V0.heap.size ≤ w7.heap.size := Nat.le_trans hb6.size hk7.size
      have lift : ∀ {E : Nat → Prop} {z : List Int} {d : Value}, DatZ V0 E z d → (∀ j, E j → ¬ M j) → DatZ w7 E z d := fun h hE => (h.below hb6).keep hk7 (fun j hj hm => hE j hj hm.1)
      have C7 := ca_newrow (M := M) (D' := fun j => D j ∨ (w.heap.size + 1 < j ∧ j < V0.heap.size)) (S := S) (W := W) (k := k + 1) (L' := L.take p ++ { x with u := k + 1 } :: L.drop p) (R' := R.take p ++ ({ x with u := k + 1 }, .slice a1 n cap1) :: R.drop p) (a' := a7) (cap' := c7) (base := V0.heap.size) (n' := p + (1 + (N - p)))
        ((hc7 0).trans C6.c0) ((hc7 1).trans C6.c1) ((hc7 2).trans C6.c2) ((hc7 3).trans C6.c3) hf7 (Nat.lt_of_lt_of_le C6.lt hk7.size) CV.mg
        (fun j hj => by rcases hj with hj | hj | hj; have := hold j (.inl hj); omega; have := hold j (.inr hj); omega; exact hj.2)
        (fun j hm hd => by rcases hd with hd | hd; exact hdj j hm hd; have := hold j (.inl hm); omega)
        (by simp [HN.out] <;> omega)
        (hrw7.imp (fun j _ h => h.imp id (fun h => Nat.le_trans hb6.size h)))
        (by simp [CV.row.eq])
        (fun r hr => by
          rcases List.mem_append.1 hr with hr | hr
          · exact (lift (CV.row.dat r (List.mem_of_mem_take hr)) (fun j hd hm => hdj j hm hd)).imp (fun j _ h => .inl h)
          · rcases List.mem_cons.1 hr with rfl | hr
            · exact (lift dz (fun j hd hm => by have := hold j (.inl hm); omega)).imp (fun j _ h => .inr h)
            · exact (lift (CV.row.dat r (List.mem_of_mem_drop hr)) (fun j hd hm => hdj j hm hd)).imp (fun j _ h => .inl h))
        hz7
      have K7 : Keep M w (w7.setCell ⟨g, 3, none⟩ (.slice a7 (p + (1 + (N - p))) c7)) := (((KV.mono (fun j _ e => e ▸ CV.mg)).next hb6).trans hk7 (fun j _ h => h.1)).setCell (p := ⟨g, 3, none⟩) (.inl CV.mg) _
      clear i1 i2 hrw7 hk7 hb6 C6 hI6 rowF hone6 hone hI1 hI b1 rb CV EV E7 hE7 hc7 hf7 lift dz ownV KV hfi hp0 hp1 hp2 hrw6 hk6
      generalize w7.setCell ⟨g, 3, none⟩ _ = w8 at *
      go_wp2_with fail
      go_ret
      exact ⟨rfl, ⟨p, _, _, by rw [HN.out]; exact hpN, HLO.out, HHI.out, fun j hj => hj.imp id (fun h => by omega), fun j hj => hj.imp id (fun h => by omega), _, _, _, C7⟩, K7⟩
end CR
end Go.Proofs.Ytfobgkkmbacfjaa
