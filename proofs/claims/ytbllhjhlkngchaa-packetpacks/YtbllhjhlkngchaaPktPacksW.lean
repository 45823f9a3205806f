/- The walk of PacketPacks, its first statement: two packets are made, in whatever order. Conditions: as stated. -/
import Derived.Test.YtbllhjhlkngchaaPktRefPack
import Derived.Test.YtbllhjhlkngchaaPktPlay
import Derived.Test.YtbllhjhlkngchaaPktRefSame
import Derived.Test.YtbllhjhlkngchaaTake5
namespace Go.Proofs.Ytbllhjhlkngchaa
open Go.RowKit
set_option linter.unusedVariables false

/-- A packet is written into its variable; what else there is stays. -/
theorem put_one {w wq wf : World} {g g' : Nat} {x y x' : Pk} {d d' v : Value} {a1 a2 : Option Addr} {n1 n2 c1 c2 : Nat} {l1 l2 : List Int} (b1 : Bx wq g x d) (b2 : Bx wq g' x' d') (s1 : Sl wq a1 n1 c1 l1) (s2 : Sl wq a2 n2 c2 l2) (bl : Below w.heap.size w wq)
    (hne : g ≠ g') (f1 : ∀ ad : Addr, a1 = some ad → ad.block ≠ g) (f2 : ∀ ad : Addr, a2 = some ad → ad.block ≠ g) (hg : w.heap.size ≤ g) {wb : World} {bb : Nat} (hB : Below bb wb wq) (hbb : bb ≤ g) (hf : Below (nine wq g y v).heap.size (nine wq g y v) wf) :
    Bx wf g y v ∧ Bx wf g' x' d' ∧ Sl wf a1 n1 c1 l1 ∧ Sl wf a2 n2 c2 l2 ∧ Below w.heap.size w wf ∧ Below bb wb wf := by
  have e1 := b1.put y v
  have e2 := far9 (g := g) (y := y) (v := v) (P := fun V => Bx V g' x' d') (fun V o u h => h.far (by simp only; omega)) b2
  have e3 := far9 (g := g) (y := y) (v := v) (P := fun V => Sl V a1 n1 c1 l1) (fun V o u h => h.far f1) s1
  have e4 := far9 (g := g) (y := y) (v := v) (P := fun V => Sl V a2 n2 c2 l2) (fun V o u h => h.far f2) s2
  have e5 := far9 (g := g) (y := y) (v := v) (P := fun V => Below w.heap.size w V) (fun V o u h => h.setCell hg _) bl
  have e6 := far9 (g := g) (y := y) (v := v) (P := fun V => Below bb wb V) (fun V o u h => h.setCell hbb _) hB
  exact ⟨Bx.next e1 hf, Bx.next e2 hf, Sl.below e3 hf, Sl.below e4 hf, next e5 hf, Below.trans e6 (hf.mono (Nat.le_trans hbb (by have := b1.lt; simp [nine]; omega)))⟩

set_option maxHeartbeats 8000000 in
set_option maxRecDepth 20000 in
theorem packetPacks_walk (x y : Pk) (how kind : Int) (a b : Option Addr) (n m c d : Nat) (w : World) (hx : Sl w a n c x.z) (hy : Sl w b m d y.z) :
    Calls Try.prog 6 #[x.val (.slice a n c), y.val (.slice b m d), .int .i64 how, .int .i64 kind] w fun e w' => e = .returned (.bool true) ∧ Below w.heap.size w w' := by
  obtain ⟨h40, hh40⟩ : ∃ h, IntKind.i64.wrap (how.tdiv 40) = h := ⟨_, rfl⟩
  have bp0 := (Bx.made w x (.slice a n c)).next (ba (o := .cells #[.int .i64 y.k, .int .i64 y.f, .int .i64 y.t, .int .i64 y.i, .int .i64 y.l, .int .i64 y.p, .int .i64 y.s, .bool y.fl, .slice b m d] 26) (Below.refl _ _))
  have bq0 := Bx.made' (w.alloc (.cells #[.int .i64 x.k, .int .i64 x.f, .int .i64 x.t, .int .i64 x.i, .int .i64 x.l, .int .i64 x.p, .int .i64 x.s, .bool x.fl, .slice a n c] 26)) y (.slice b m d) (w.heap.size + 1) (by simp)
  unfold Pk.val
  go_enter Try.func6, Try.ntmps6
  go_upto_region 1 with fail
  go_cut [9, 10] (fun v u wx => ∃ (g9 g10 : Nat) (p q : Pk) (a1 a2 : Option Addr) (n1 n2 c1 c2 : Nat), v = .pointer (some ⟨g9, 0, none⟩) ∧ u = .pointer (some ⟨g10, 0, none⟩) ∧ Bx wx g9 p (.slice a1 n1 c1) ∧ Bx wx g10 q (.slice a2 n2 c2) ∧ Sl wx a1 n1 c1 p.z ∧ Sl wx a2 n2 c2 q.z ∧ n1 ≤ 6 ∧ n2 ≤ 6 ∧ Below w.heap.size w wx)
  case first =>
    have uc := @Up.cell2
    have uf := @Up.frozen2
    have hz2 : ((w.alloc (.cells #[.int .i64 x.k, .int .i64 x.f, .int .i64 x.t, .int .i64 x.i, .int .i64 x.l, .int .i64 x.p, .int .i64 x.s, .bool x.fl, .slice a n c] 26)).alloc (.cells #[.int .i64 y.k, .int .i64 y.f, .int .i64 y.t, .int .i64 y.i, .int .i64 y.l, .int .i64 y.p, .int .i64 y.s, .bool y.fl, .slice b m d] 26)).heap.size = w.heap.size + 2 := by simp
    refine wp_region_mild 11 rfl (by kernel_rfl) ?_
    refine mild_take (v := ?v301) 0 rfl (by kernel_rfl) (by kernel_rfl) (by kernel_rfl) (fun _ _ _ h => h) (by kernel_rfl) (fun Wu K hK => ?hy301) ?go301
    case hy301 =>
      go_big_quiet_op
      simp only [Act.put, List.setIfInBounds_toArray, List.set_cons_zero, List.set_cons_succ] at hK
      exact hK
    simp only [Act.put, List.setIfInBounds_toArray, List.set_cons_zero, List.set_cons_succ]
    refine mild_take (v := ?v302) 1 rfl (by kernel_rfl) (by kernel_rfl) (by kernel_rfl) (fun _ _ _ h => h) (by kernel_rfl) (fun Wu K hK => ?hy302) ?go302
    case hy302 =>
      go_big_quiet_op
      simp only [Act.put, List.setIfInBounds_toArray, List.set_cons_zero, List.set_cons_succ] at hK
      exact hK
    simp only [Act.put, List.setIfInBounds_toArray, List.set_cons_zero, List.set_cons_succ]
    refine mild_take (v := ?v303) 3 rfl (by kernel_rfl) (by kernel_rfl) (by kernel_rfl) (fun _ _ _ h => h) (by kernel_rfl) (fun Wu K hK => ?hy303) ?go303
    case hy303 =>
      go_big_quiet_op
      simp only [Act.put, List.setIfInBounds_toArray, List.set_cons_zero, List.set_cons_succ] at hK
      exact hK
    simp only [Act.put, List.setIfInBounds_toArray, List.set_cons_zero, List.set_cons_succ]
    refine mild_take (v := ?v304) 4 rfl (by kernel_rfl) (by kernel_rfl) (by kernel_rfl) (fun _ _ _ h => h) (by kernel_rfl) (fun Wu K hK => ?hy304) ?go304
    case hy304 =>
      go_big_quiet_op
      simp only [Act.put, List.setIfInBounds_toArray, List.set_cons_zero, List.set_cons_succ] at hK
      exact hK
    simp only [Act.put, List.setIfInBounds_toArray, List.set_cons_zero, List.set_cons_succ]
    refine mild_take (v := ?v305) 5 rfl (by kernel_rfl) (by kernel_rfl) (by kernel_rfl) (fun _ _ _ h => h) (by kernel_rfl) (fun Wu K hK => ?hy305) ?go305
    case hy305 =>
      go_big_quiet_op
      simp only [Act.put, List.setIfInBounds_toArray, List.set_cons_zero, List.set_cons_succ] at hK
      exact hK
    simp only [Act.put, List.setIfInBounds_toArray, List.set_cons_zero, List.set_cons_succ]
    intro W
    clear uc uf
    have hw0 : Below w.heap.size w W.1 := next (ba (ba (Below.refl _ _))) W.2
    have hx0 := hx.below hw0
    have hy0 := hy.below hw0
    have hB0 := W.2
    have zz0 : w.heap.size + 2 ≤ W.1.heap.size := by have := W.2.size; simpa using this
    generalize W.1 = w0 at *
    clear bp0 bq0 hx hy W
    refine up_three 2 7 8 (by kernel_rfl) rfl rfl rfl ?_ ?_ ?_
    · go_wp2_with (go_at_call 19; refine (play_any x how a n c _ hx0).mono ?_; rintro e ww ⟨vv, rfl, y2, a2, n2, c2, rfl, hs, hn2, hr2, hR2, lo2, hb⟩)
      refine ⟨by exact next hB0 hb, fun u => ?_⟩
      have hU : Below w0.heap.size w0 u.1 := next hb u.2
      have hs2_1 := hs.below u.2
      have z1 : ww.heap.size ≤ u.1.heap.size := u.2.size
      have lo2' : ∀ ad : Addr, a2 = some ad → w0.heap.size ≤ ad.block ∧ ad.block < u.1.heap.size := fun ad e => ⟨(lo2 ad e).1, by have := (lo2 ad e).2; omega⟩
      have hB1 := next hB0 hU
      have hx1 := hx0.below hU
      have hy1 := hy0.below hU
      have hw1 := next hw0 hU
      have zz1 := hU.size
      generalize u.1 = w1 at *
      clear hx0 hy0 hB0 hw0 hU hs hb lo2 z1
      refine up_three 6 7 8 (by kernel_rfl) rfl rfl rfl ?_ ?_ ?_
      · go_wp2_with (go_at_call 19; refine (play_any y h40 b m d _ hy1).mono ?_; rintro e ww ⟨vv, rfl, y6, a6, n6, c6, rfl, hs, hn6, hr6, hR6, lo6, hb⟩)
        refine ⟨by exact next hB1 hb, fun u => ?_⟩
        have hU : Below w1.heap.size w1 u.1 := next hb u.2
        have hs6_2 := hs.below u.2
        have z2 : ww.heap.size ≤ u.1.heap.size := u.2.size
        have lo6' : ∀ ad : Addr, a6 = some ad → w1.heap.size ≤ ad.block ∧ ad.block < u.1.heap.size := fun ad e => ⟨(lo6 ad e).1, by have := (lo6 ad e).2; omega⟩
        have hB2 := next hB1 hU
        have hx2 := hx1.below hU
        have hy2 := hy1.below hU
        have hw2 := next hw1 hU
        have hs2_2 := hs2_1.below hU
        have zz2 := hU.size
        generalize u.1 = w2 at *
        clear hx1 hy1 hB1 hw1 hU hs hb lo6 z2 hs2_1
        refine up_two 7 8 (by kernel_rfl) rfl rfl ?_ ?_
        · go_wp2
          refine ⟨by exact ba hB2, fun u => ?_⟩
          have bx7_3 := (Bx.made w2 zeroPk (.slice none 0 0)).next (by exact u.2)
          have hlt7 : w2.heap.size < u.1.heap.size := bx7_3.lt
          have hU : Below w2.heap.size w2 u.1 := next (ba (Below.refl _ _)) u.2
          have hB3 := next hB2 hU
          have hx3 := hx2.below hU
          have hy3 := hy2.below hU
          have hw3 := next hw2 hU
          have hs2_3 := hs2_2.below hU
          have hs6_3 := hs6_2.below hU
          have zz3 := hU.size
          generalize u.1 = w3 at *
          clear hx2 hy2 hB2 hw2 hU hs2_2 hs6_2
          refine up_list 8 (by kernel_rfl) rfl ?_
          go_wp2
          refine ⟨by exact ba hB3, fun u => ?_⟩
          have bx8_4 := (Bx.made w3 zeroPk (.slice none 0 0)).next (by exact u.2)
          have hlt8 : w3.heap.size < u.1.heap.size := bx8_4.lt
          have hU : Below w3.heap.size w3 u.1 := next (ba (Below.refl _ _)) u.2
          have hB4 := next hB3 hU
          have hx4 := hx3.below hU
          have hy4 := hy3.below hU
          have hw4 := next hw3 hU
          have hs2_4 := hs2_3.below hU
          have hs6_4 := hs6_3.below hU
          have bx7_4 := bx7_3.next hU
          have zz4 := hU.size
          generalize u.1 = w4 at *
          clear hx3 hy3 hB3 hw3 hU hs2_3 hs6_3 bx7_3
          have l7 : w2.heap.size < w3.heap.size := hlt7
          have l8 : w3.heap.size < w4.heap.size := hlt8
          have nn : w2.heap.size ≠ w3.heap.size := by omega
          have far2 : ∀ ad : Addr, a2 = some ad → ad.block ≠ w2.heap.size ∧ ad.block ≠ w3.heap.size := fun ad e => by have := lo2' ad e; omega
          have far6 : ∀ ad : Addr, a6 = some ad → ad.block ≠ w2.heap.size ∧ ad.block ≠ w3.heap.size := fun ad e => by have := lo6' ad e; omega
          have fq := bx7_4.fz
          obtain ⟨q0, q1, q2, q3, q4, q5, q6, q7, q8, _, _⟩ := id bx7_4
          refine up_list 9 (by kernel_rfl) rfl ?_
          go_wp2
          refine ⟨nine_below (y := y2) hB4 (by simp; omega), fun u => ?_⟩
          obtain ⟨e1, e2, e3, e4, e5, hBu⟩ := put_one bx7_4 bx8_4 hs2_4 hs6_4 hw4 nn (fun ad e => (far2 ad e).1) (fun ad e => (far6 ad e).1) (by omega) hB4 (by simp; omega) (y := y2) (v := .slice a2 n2 c2) (by exact u.2)
          generalize u.1 = wm at *
          clear fq q0 q1 q2 q3 q4 q5 q6 q7 q8
          have fq := e2.fz
          obtain ⟨q0, q1, q2, q3, q4, q5, q6, q7, q8, _, _⟩ := id e2
          refine up_list 10 (by kernel_rfl) rfl ?_
          go_wp2
          refine ⟨nine_below (y := y6) hBu (by simp; omega), fun u' => ?_⟩
          obtain ⟨f1, f2, f3, f4, f5, _⟩ := put_one e2 e1 e4 e3 e5 nn.symm (fun ad e => (far6 ad e).2) (fun ad e => (far2 ad e).2) (by omega) hBu (by simp; omega) (y := y6) (v := .slice a6 n6 c6) (by exact u'.2)
          refine up_done (by kernel_rfl) ?_
          generalize u'.1 = wn at *
          go_wp2
          go_meet
          case rel => exact ⟨_, _, y2, y6, a2, a6, n2, n6, c2, c6, rfl, rfl, f2, f1, f4, f3, hn2, hn6, f5⟩
        · go_wp2
          refine ⟨by exact ba hB2, fun u => ?_⟩
          have bx8_3 := (Bx.made w2 zeroPk (.slice none 0 0)).next (by exact u.2)
          have hlt8 : w2.heap.size < u.1.heap.size := bx8_3.lt
          have hU : Below w2.heap.size w2 u.1 := next (ba (Below.refl _ _)) u.2
          have hB3 := next hB2 hU
          have hx3 := hx2.below hU
          have hy3 := hy2.below hU
          have hw3 := next hw2 hU
          have hs2_3 := hs2_2.below hU
          have hs6_3 := hs6_2.below hU
          have zz3 := hU.size
          generalize u.1 = w3 at *
          clear hx2 hy2 hB2 hw2 hU hs2_2 hs6_2
          refine up_list 7 (by kernel_rfl) rfl ?_
          go_wp2
          refine ⟨by exact ba hB3, fun u => ?_⟩
          have bx7_4 := (Bx.made w3 zeroPk (.slice none 0 0)).next (by exact u.2)
          have hlt7 : w3.heap.size < u.1.heap.size := bx7_4.lt
          have hU : Below w3.heap.size w3 u.1 := next (ba (Below.refl _ _)) u.2
          have hB4 := next hB3 hU
          have hx4 := hx3.below hU
          have hy4 := hy3.below hU
          have hw4 := next hw3 hU
          have hs2_4 := hs2_3.below hU
          have hs6_4 := hs6_3.below hU
          have bx8_4 := bx8_3.next hU
          have zz4 := hU.size
          generalize u.1 = w4 at *
          clear hx3 hy3 hB3 hw3 hU hs2_3 hs6_3 bx8_3
          have l7 : w3.heap.size < w4.heap.size := hlt7
          have l8 : w2.heap.size < w3.heap.size := hlt8
          have nn : w3.heap.size ≠ w2.heap.size := by omega
          have far2 : ∀ ad : Addr, a2 = some ad → ad.block ≠ w3.heap.size ∧ ad.block ≠ w2.heap.size := fun ad e => by have := lo2' ad e; omega
          have far6 : ∀ ad : Addr, a6 = some ad → ad.block ≠ w3.heap.size ∧ ad.block ≠ w2.heap.size := fun ad e => by have := lo6' ad e; omega
          have fq := bx7_4.fz
          obtain ⟨q0, q1, q2, q3, q4, q5, q6, q7, q8, _, _⟩ := id bx7_4
          refine up_list 9 (by kernel_rfl) rfl ?_
          go_wp2
          refine ⟨nine_below (y := y2) hB4 (by simp; omega), fun u => ?_⟩
          obtain ⟨e1, e2, e3, e4, e5, hBu⟩ := put_one bx7_4 bx8_4 hs2_4 hs6_4 hw4 nn (fun ad e => (far2 ad e).1) (fun ad e => (far6 ad e).1) (by omega) hB4 (by simp; omega) (y := y2) (v := .slice a2 n2 c2) (by exact u.2)
          generalize u.1 = wm at *
          clear fq q0 q1 q2 q3 q4 q5 q6 q7 q8
          have fq := e2.fz
          obtain ⟨q0, q1, q2, q3, q4, q5, q6, q7, q8, _, _⟩ := id e2
          refine up_list 10 (by kernel_rfl) rfl ?_
          go_wp2
          refine ⟨nine_below (y := y6) hBu (by simp; omega), fun u' => ?_⟩
          obtain ⟨f1, f2, f3, f4, f5, _⟩ := put_one e2 e1 e4 e3 e5 nn.symm (fun ad e => (far6 ad e).2) (fun ad e => (far2 ad e).2) (by omega) hBu (by simp; omega) (y := y6) (v := .slice a6 n6 c6) (by exact u'.2)
          refine up_done (by kernel_rfl) ?_
          generalize u'.1 = wn at *
          go_wp2
          go_meet
          case rel => exact ⟨_, _, y2, y6, a2, a6, n2, n6, c2, c6, rfl, rfl, f2, f1, f4, f3, hn2, hn6, f5⟩
      · go_wp2
        refine ⟨by exact ba hB1, fun u => ?_⟩
        have bx7_2 := (Bx.made w1 zeroPk (.slice none 0 0)).next (by exact u.2)
        have hlt7 : w1.heap.size < u.1.heap.size := bx7_2.lt
        have hU : Below w1.heap.size w1 u.1 := next (ba (Below.refl _ _)) u.2
        have hB2 := next hB1 hU
        have hx2 := hx1.below hU
        have hy2 := hy1.below hU
        have hw2 := next hw1 hU
        have hs2_2 := hs2_1.below hU
        have zz2 := hU.size
        generalize u.1 = w2 at *
        clear hx1 hy1 hB1 hw1 hU hs2_1
        refine up_two 6 8 (by kernel_rfl) rfl rfl ?_ ?_
        · go_wp2_with (go_at_call 19; refine (play_any y h40 b m d _ hy2).mono ?_; rintro e ww ⟨vv, rfl, y6, a6, n6, c6, rfl, hs, hn6, hr6, hR6, lo6, hb⟩)
          refine ⟨by exact next hB2 hb, fun u => ?_⟩
          have hU : Below w2.heap.size w2 u.1 := next hb u.2
          have hs6_3 := hs.below u.2
          have z3 : ww.heap.size ≤ u.1.heap.size := u.2.size
          have lo6' : ∀ ad : Addr, a6 = some ad → w2.heap.size ≤ ad.block ∧ ad.block < u.1.heap.size := fun ad e => ⟨(lo6 ad e).1, by have := (lo6 ad e).2; omega⟩
          have hB3 := next hB2 hU
          have hx3 := hx2.below hU
          have hy3 := hy2.below hU
          have hw3 := next hw2 hU
          have hs2_3 := hs2_2.below hU
          have bx7_3 := bx7_2.next hU
          have zz3 := hU.size
          generalize u.1 = w3 at *
          clear hx2 hy2 hB2 hw2 hU hs hb lo6 z3 hs2_2 bx7_2
          refine up_list 8 (by kernel_rfl) rfl ?_
          go_wp2
          refine ⟨by exact ba hB3, fun u => ?_⟩
          have bx8_4 := (Bx.made w3 zeroPk (.slice none 0 0)).next (by exact u.2)
          have hlt8 : w3.heap.size < u.1.heap.size := bx8_4.lt
          have hU : Below w3.heap.size w3 u.1 := next (ba (Below.refl _ _)) u.2
          have hB4 := next hB3 hU
          have hx4 := hx3.below hU
          have hy4 := hy3.below hU
          have hw4 := next hw3 hU
          have hs2_4 := hs2_3.below hU
          have bx7_4 := bx7_3.next hU
          have hs6_4 := hs6_3.below hU
          have zz4 := hU.size
          generalize u.1 = w4 at *
          clear hx3 hy3 hB3 hw3 hU hs2_3 bx7_3 hs6_3
          have l7 : w1.heap.size < w2.heap.size := hlt7
          have l8 : w3.heap.size < w4.heap.size := hlt8
          have nn : w1.heap.size ≠ w3.heap.size := by omega
          have far2 : ∀ ad : Addr, a2 = some ad → ad.block ≠ w1.heap.size ∧ ad.block ≠ w3.heap.size := fun ad e => by have := lo2' ad e; omega
          have far6 : ∀ ad : Addr, a6 = some ad → ad.block ≠ w1.heap.size ∧ ad.block ≠ w3.heap.size := fun ad e => by have := lo6' ad e; omega
          have fq := bx7_4.fz
          obtain ⟨q0, q1, q2, q3, q4, q5, q6, q7, q8, _, _⟩ := id bx7_4
          refine up_list 9 (by kernel_rfl) rfl ?_
          go_wp2
          refine ⟨nine_below (y := y2) hB4 (by simp; omega), fun u => ?_⟩
          obtain ⟨e1, e2, e3, e4, e5, hBu⟩ := put_one bx7_4 bx8_4 hs2_4 hs6_4 hw4 nn (fun ad e => (far2 ad e).1) (fun ad e => (far6 ad e).1) (by omega) hB4 (by simp; omega) (y := y2) (v := .slice a2 n2 c2) (by exact u.2)
          generalize u.1 = wm at *
          clear fq q0 q1 q2 q3 q4 q5 q6 q7 q8
          have fq := e2.fz
          obtain ⟨q0, q1, q2, q3, q4, q5, q6, q7, q8, _, _⟩ := id e2
          refine up_list 10 (by kernel_rfl) rfl ?_
          go_wp2
          refine ⟨nine_below (y := y6) hBu (by simp; omega), fun u' => ?_⟩
          obtain ⟨f1, f2, f3, f4, f5, _⟩ := put_one e2 e1 e4 e3 e5 nn.symm (fun ad e => (far6 ad e).2) (fun ad e => (far2 ad e).2) (by omega) hBu (by simp; omega) (y := y6) (v := .slice a6 n6 c6) (by exact u'.2)
          refine up_done (by kernel_rfl) ?_
          generalize u'.1 = wn at *
          go_wp2
          go_meet
          case rel => exact ⟨_, _, y2, y6, a2, a6, n2, n6, c2, c6, rfl, rfl, f2, f1, f4, f3, hn2, hn6, f5⟩
        · go_wp2
          refine ⟨by exact ba hB2, fun u => ?_⟩
          have bx8_3 := (Bx.made w2 zeroPk (.slice none 0 0)).next (by exact u.2)
          have hlt8 : w2.heap.size < u.1.heap.size := bx8_3.lt
          have hU : Below w2.heap.size w2 u.1 := next (ba (Below.refl _ _)) u.2
          have hB3 := next hB2 hU
          have hx3 := hx2.below hU
          have hy3 := hy2.below hU
          have hw3 := next hw2 hU
          have hs2_3 := hs2_2.below hU
          have bx7_3 := bx7_2.next hU
          have zz3 := hU.size
          generalize u.1 = w3 at *
          clear hx2 hy2 hB2 hw2 hU hs2_2 bx7_2
          refine up_list 6 (by kernel_rfl) rfl ?_
          go_wp2_with (go_at_call 19; refine (play_any y h40 b m d _ hy3).mono ?_; rintro e ww ⟨vv, rfl, y6, a6, n6, c6, rfl, hs, hn6, hr6, hR6, lo6, hb⟩)
          refine ⟨by exact next hB3 hb, fun u => ?_⟩
          have hU : Below w3.heap.size w3 u.1 := next hb u.2
          have hs6_4 := hs.below u.2
          have z4 : ww.heap.size ≤ u.1.heap.size := u.2.size
          have lo6' : ∀ ad : Addr, a6 = some ad → w3.heap.size ≤ ad.block ∧ ad.block < u.1.heap.size := fun ad e => ⟨(lo6 ad e).1, by have := (lo6 ad e).2; omega⟩
          have hB4 := next hB3 hU
          have hx4 := hx3.below hU
          have hy4 := hy3.below hU
          have hw4 := next hw3 hU
          have hs2_4 := hs2_3.below hU
          have bx7_4 := bx7_3.next hU
          have bx8_4 := bx8_3.next hU
          have zz4 := hU.size
          generalize u.1 = w4 at *
          clear hx3 hy3 hB3 hw3 hU hs hb lo6 z4 hs2_3 bx7_3 bx8_3
          have l7 : w1.heap.size < w2.heap.size := hlt7
          have l8 : w2.heap.size < w3.heap.size := hlt8
          have nn : w1.heap.size ≠ w2.heap.size := by omega
          have far2 : ∀ ad : Addr, a2 = some ad → ad.block ≠ w1.heap.size ∧ ad.block ≠ w2.heap.size := fun ad e => by have := lo2' ad e; omega
          have far6 : ∀ ad : Addr, a6 = some ad → ad.block ≠ w1.heap.size ∧ ad.block ≠ w2.heap.size := fun ad e => by have := lo6' ad e; omega
          have fq := bx7_4.fz
          obtain ⟨q0, q1, q2, q3, q4, q5, q6, q7, q8, _, _⟩ := id bx7_4
          refine up_list 9 (by kernel_rfl) rfl ?_
          go_wp2
          refine ⟨nine_below (y := y2) hB4 (by simp; omega), fun u => ?_⟩
          obtain ⟨e1, e2, e3, e4, e5, hBu⟩ := put_one bx7_4 bx8_4 hs2_4 hs6_4 hw4 nn (fun ad e => (far2 ad e).1) (fun ad e => (far6 ad e).1) (by omega) hB4 (by simp; omega) (y := y2) (v := .slice a2 n2 c2) (by exact u.2)
          generalize u.1 = wm at *
          clear fq q0 q1 q2 q3 q4 q5 q6 q7 q8
          have fq := e2.fz
          obtain ⟨q0, q1, q2, q3, q4, q5, q6, q7, q8, _, _⟩ := id e2
          refine up_list 10 (by kernel_rfl) rfl ?_
          go_wp2
          refine ⟨nine_below (y := y6) hBu (by simp; omega), fun u' => ?_⟩
          obtain ⟨f1, f2, f3, f4, f5, _⟩ := put_one e2 e1 e4 e3 e5 nn.symm (fun ad e => (far6 ad e).2) (fun ad e => (far2 ad e).2) (by omega) hBu (by simp; omega) (y := y6) (v := .slice a6 n6 c6) (by exact u'.2)
          refine up_done (by kernel_rfl) ?_
          generalize u'.1 = wn at *
          go_wp2
          go_meet
          case rel => exact ⟨_, _, y2, y6, a2, a6, n2, n6, c2, c6, rfl, rfl, f2, f1, f4, f3, hn2, hn6, f5⟩
      · go_wp2
        refine ⟨by exact ba hB1, fun u => ?_⟩
        have bx8_2 := (Bx.made w1 zeroPk (.slice none 0 0)).next (by exact u.2)
        have hlt8 : w1.heap.size < u.1.heap.size := bx8_2.lt
        have hU : Below w1.heap.size w1 u.1 := next (ba (Below.refl _ _)) u.2
        have hB2 := next hB1 hU
        have hx2 := hx1.below hU
        have hy2 := hy1.below hU
        have hw2 := next hw1 hU
        have hs2_2 := hs2_1.below hU
        have zz2 := hU.size
        generalize u.1 = w2 at *
        clear hx1 hy1 hB1 hw1 hU hs2_1
        refine up_two 6 7 (by kernel_rfl) rfl rfl ?_ ?_
        · go_wp2_with (go_at_call 19; refine (play_any y h40 b m d _ hy2).mono ?_; rintro e ww ⟨vv, rfl, y6, a6, n6, c6, rfl, hs, hn6, hr6, hR6, lo6, hb⟩)
          refine ⟨by exact next hB2 hb, fun u => ?_⟩
          have hU : Below w2.heap.size w2 u.1 := next hb u.2
          have hs6_3 := hs.below u.2
          have z3 : ww.heap.size ≤ u.1.heap.size := u.2.size
          have lo6' : ∀ ad : Addr, a6 = some ad → w2.heap.size ≤ ad.block ∧ ad.block < u.1.heap.size := fun ad e => ⟨(lo6 ad e).1, by have := (lo6 ad e).2; omega⟩
          have hB3 := next hB2 hU
          have hx3 := hx2.below hU
          have hy3 := hy2.below hU
          have hw3 := next hw2 hU
          have hs2_3 := hs2_2.below hU
          have bx8_3 := bx8_2.next hU
          have zz3 := hU.size
          generalize u.1 = w3 at *
          clear hx2 hy2 hB2 hw2 hU hs hb lo6 z3 hs2_2 bx8_2
          refine up_list 7 (by kernel_rfl) rfl ?_
          go_wp2
          refine ⟨by exact ba hB3, fun u => ?_⟩
          have bx7_4 := (Bx.made w3 zeroPk (.slice none 0 0)).next (by exact u.2)
          have hlt7 : w3.heap.size < u.1.heap.size := bx7_4.lt
          have hU : Below w3.heap.size w3 u.1 := next (ba (Below.refl _ _)) u.2
          have hB4 := next hB3 hU
          have hx4 := hx3.below hU
          have hy4 := hy3.below hU
          have hw4 := next hw3 hU
          have hs2_4 := hs2_3.below hU
          have bx8_4 := bx8_3.next hU
          have hs6_4 := hs6_3.below hU
          have zz4 := hU.size
          generalize u.1 = w4 at *
          clear hx3 hy3 hB3 hw3 hU hs2_3 bx8_3 hs6_3
          have l7 : w3.heap.size < w4.heap.size := hlt7
          have l8 : w1.heap.size < w2.heap.size := hlt8
          have nn : w3.heap.size ≠ w1.heap.size := by omega
          have far2 : ∀ ad : Addr, a2 = some ad → ad.block ≠ w3.heap.size ∧ ad.block ≠ w1.heap.size := fun ad e => by have := lo2' ad e; omega
          have far6 : ∀ ad : Addr, a6 = some ad → ad.block ≠ w3.heap.size ∧ ad.block ≠ w1.heap.size := fun ad e => by have := lo6' ad e; omega
          have fq := bx7_4.fz
          obtain ⟨q0, q1, q2, q3, q4, q5, q6, q7, q8, _, _⟩ := id bx7_4
          refine up_list 9 (by kernel_rfl) rfl ?_
          go_wp2
          refine ⟨nine_below (y := y2) hB4 (by simp; omega), fun u => ?_⟩
          obtain ⟨e1, e2, e3, e4, e5, hBu⟩ := put_one bx7_4 bx8_4 hs2_4 hs6_4 hw4 nn (fun ad e => (far2 ad e).1) (fun ad e => (far6 ad e).1) (by omega) hB4 (by simp; omega) (y := y2) (v := .slice a2 n2 c2) (by exact u.2)
          generalize u.1 = wm at *
          clear fq q0 q1 q2 q3 q4 q5 q6 q7 q8
          have fq := e2.fz
          obtain ⟨q0, q1, q2, q3, q4, q5, q6, q7, q8, _, _⟩ := id e2
          refine up_list 10 (by kernel_rfl) rfl ?_
          go_wp2
          refine ⟨nine_below (y := y6) hBu (by simp; omega), fun u' => ?_⟩
          obtain ⟨f1, f2, f3, f4, f5, _⟩ := put_one e2 e1 e4 e3 e5 nn.symm (fun ad e => (far6 ad e).2) (fun ad e => (far2 ad e).2) (by omega) hBu (by simp; omega) (y := y6) (v := .slice a6 n6 c6) (by exact u'.2)
          refine up_done (by kernel_rfl) ?_
          generalize u'.1 = wn at *
          go_wp2
          go_meet
          case rel => exact ⟨_, _, y2, y6, a2, a6, n2, n6, c2, c6, rfl, rfl, f2, f1, f4, f3, hn2, hn6, f5⟩
        · go_wp2
          refine ⟨by exact ba hB2, fun u => ?_⟩
          have bx7_3 := (Bx.made w2 zeroPk (.slice none 0 0)).next (by exact u.2)
          have hlt7 : w2.heap.size < u.1.heap.size := bx7_3.lt
          have hU : Below w2.heap.size w2 u.1 := next (ba (Below.refl _ _)) u.2
          have hB3 := next hB2 hU
          have hx3 := hx2.below hU
          have hy3 := hy2.below hU
          have hw3 := next hw2 hU
          have hs2_3 := hs2_2.below hU
          have bx8_3 := bx8_2.next hU
          have zz3 := hU.size
          generalize u.1 = w3 at *
          clear hx2 hy2 hB2 hw2 hU hs2_2 bx8_2
          refine up_list 6 (by kernel_rfl) rfl ?_
          go_wp2_with (go_at_call 19; refine (play_any y h40 b m d _ hy3).mono ?_; rintro e ww ⟨vv, rfl, y6, a6, n6, c6, rfl, hs, hn6, hr6, hR6, lo6, hb⟩)
          refine ⟨by exact next hB3 hb, fun u => ?_⟩
          have hU : Below w3.heap.size w3 u.1 := next hb u.2
          have hs6_4 := hs.below u.2
          have z4 : ww.heap.size ≤ u.1.heap.size := u.2.size
          have lo6' : ∀ ad : Addr, a6 = some ad → w3.heap.size ≤ ad.block ∧ ad.block < u.1.heap.size := fun ad e => ⟨(lo6 ad e).1, by have := (lo6 ad e).2; omega⟩
          have hB4 := next hB3 hU
          have hx4 := hx3.below hU
          have hy4 := hy3.below hU
          have hw4 := next hw3 hU
          have hs2_4 := hs2_3.below hU
          have bx8_4 := bx8_3.next hU
          have bx7_4 := bx7_3.next hU
          have zz4 := hU.size
          generalize u.1 = w4 at *
          clear hx3 hy3 hB3 hw3 hU hs hb lo6 z4 hs2_3 bx8_3 bx7_3
          have l7 : w2.heap.size < w3.heap.size := hlt7
          have l8 : w1.heap.size < w2.heap.size := hlt8
          have nn : w2.heap.size ≠ w1.heap.size := by omega
          have far2 : ∀ ad : Addr, a2 = some ad → ad.block ≠ w2.heap.size ∧ ad.block ≠ w1.heap.size := fun ad e => by have := lo2' ad e; omega
          have far6 : ∀ ad : Addr, a6 = some ad → ad.block ≠ w2.heap.size ∧ ad.block ≠ w1.heap.size := fun ad e => by have := lo6' ad e; omega
          have fq := bx7_4.fz
          obtain ⟨q0, q1, q2, q3, q4, q5, q6, q7, q8, _, _⟩ := id bx7_4
          refine up_list 9 (by kernel_rfl) rfl ?_
          go_wp2
          refine ⟨nine_below (y := y2) hB4 (by simp; omega), fun u => ?_⟩
          obtain ⟨e1, e2, e3, e4, e5, hBu⟩ := put_one bx7_4 bx8_4 hs2_4 hs6_4 hw4 nn (fun ad e => (far2 ad e).1) (fun ad e => (far6 ad e).1) (by omega) hB4 (by simp; omega) (y := y2) (v := .slice a2 n2 c2) (by exact u.2)
          generalize u.1 = wm at *
          clear fq q0 q1 q2 q3 q4 q5 q6 q7 q8
          have fq := e2.fz
          obtain ⟨q0, q1, q2, q3, q4, q5, q6, q7, q8, _, _⟩ := id e2
          refine up_list 10 (by kernel_rfl) rfl ?_
          go_wp2
          refine ⟨nine_below (y := y6) hBu (by simp; omega), fun u' => ?_⟩
          obtain ⟨f1, f2, f3, f4, f5, _⟩ := put_one e2 e1 e4 e3 e5 nn.symm (fun ad e => (far6 ad e).2) (fun ad e => (far2 ad e).2) (by omega) hBu (by simp; omega) (y := y6) (v := .slice a6 n6 c6) (by exact u'.2)
          refine up_done (by kernel_rfl) ?_
          generalize u'.1 = wn at *
          go_wp2
          go_meet
          case rel => exact ⟨_, _, y2, y6, a2, a6, n2, n6, c2, c6, rfl, rfl, f2, f1, f4, f3, hn2, hn6, f5⟩
    · go_wp2
      refine ⟨by exact ba hB0, fun u => ?_⟩
      have bx7_1 := (Bx.made w0 zeroPk (.slice none 0 0)).next (by exact u.2)
      have hlt7 : w0.heap.size < u.1.heap.size := bx7_1.lt
      have hU : Below w0.heap.size w0 u.1 := next (ba (Below.refl _ _)) u.2
      have hB1 := next hB0 hU
      have hx1 := hx0.below hU
      have hy1 := hy0.below hU
      have hw1 := next hw0 hU
      have zz1 := hU.size
      generalize u.1 = w1 at *
      clear hx0 hy0 hB0 hw0 hU
      refine up_two 2 8 (by kernel_rfl) rfl rfl ?_ ?_
      · go_wp2_with (go_at_call 19; refine (play_any x how a n c _ hx1).mono ?_; rintro e ww ⟨vv, rfl, y2, a2, n2, c2, rfl, hs, hn2, hr2, hR2, lo2, hb⟩)
        refine ⟨by exact next hB1 hb, fun u => ?_⟩
        have hU : Below w1.heap.size w1 u.1 := next hb u.2
        have hs2_2 := hs.below u.2
        have z2 : ww.heap.size ≤ u.1.heap.size := u.2.size
        have lo2' : ∀ ad : Addr, a2 = some ad → w1.heap.size ≤ ad.block ∧ ad.block < u.1.heap.size := fun ad e => ⟨(lo2 ad e).1, by have := (lo2 ad e).2; omega⟩
        have hB2 := next hB1 hU
        have hx2 := hx1.below hU
        have hy2 := hy1.below hU
        have hw2 := next hw1 hU
        have bx7_2 := bx7_1.next hU
        have zz2 := hU.size
        generalize u.1 = w2 at *
        clear hx1 hy1 hB1 hw1 hU hs hb lo2 z2 bx7_1
        refine up_two 6 8 (by kernel_rfl) rfl rfl ?_ ?_
        · go_wp2_with (go_at_call 19; refine (play_any y h40 b m d _ hy2).mono ?_; rintro e ww ⟨vv, rfl, y6, a6, n6, c6, rfl, hs, hn6, hr6, hR6, lo6, hb⟩)
          refine ⟨by exact next hB2 hb, fun u => ?_⟩
          have hU : Below w2.heap.size w2 u.1 := next hb u.2
          have hs6_3 := hs.below u.2
          have z3 : ww.heap.size ≤ u.1.heap.size := u.2.size
          have lo6' : ∀ ad : Addr, a6 = some ad → w2.heap.size ≤ ad.block ∧ ad.block < u.1.heap.size := fun ad e => ⟨(lo6 ad e).1, by have := (lo6 ad e).2; omega⟩
          have hB3 := next hB2 hU
          have hx3 := hx2.below hU
          have hy3 := hy2.below hU
          have hw3 := next hw2 hU
          have bx7_3 := bx7_2.next hU
          have hs2_3 := hs2_2.below hU
          have zz3 := hU.size
          generalize u.1 = w3 at *
          clear hx2 hy2 hB2 hw2 hU hs hb lo6 z3 bx7_2 hs2_2
          refine up_list 8 (by kernel_rfl) rfl ?_
          go_wp2
          refine ⟨by exact ba hB3, fun u => ?_⟩
          have bx8_4 := (Bx.made w3 zeroPk (.slice none 0 0)).next (by exact u.2)
          have hlt8 : w3.heap.size < u.1.heap.size := bx8_4.lt
          have hU : Below w3.heap.size w3 u.1 := next (ba (Below.refl _ _)) u.2
          have hB4 := next hB3 hU
          have hx4 := hx3.below hU
          have hy4 := hy3.below hU
          have hw4 := next hw3 hU
          have bx7_4 := bx7_3.next hU
          have hs2_4 := hs2_3.below hU
          have hs6_4 := hs6_3.below hU
          have zz4 := hU.size
          generalize u.1 = w4 at *
          clear hx3 hy3 hB3 hw3 hU bx7_3 hs2_3 hs6_3
          have l7 : w0.heap.size < w1.heap.size := hlt7
          have l8 : w3.heap.size < w4.heap.size := hlt8
          have nn : w0.heap.size ≠ w3.heap.size := by omega
          have far2 : ∀ ad : Addr, a2 = some ad → ad.block ≠ w0.heap.size ∧ ad.block ≠ w3.heap.size := fun ad e => by have := lo2' ad e; omega
          have far6 : ∀ ad : Addr, a6 = some ad → ad.block ≠ w0.heap.size ∧ ad.block ≠ w3.heap.size := fun ad e => by have := lo6' ad e; omega
          have fq := bx7_4.fz
          obtain ⟨q0, q1, q2, q3, q4, q5, q6, q7, q8, _, _⟩ := id bx7_4
          refine up_list 9 (by kernel_rfl) rfl ?_
          go_wp2
          refine ⟨nine_below (y := y2) hB4 (by simp; omega), fun u => ?_⟩
          obtain ⟨e1, e2, e3, e4, e5, hBu⟩ := put_one bx7_4 bx8_4 hs2_4 hs6_4 hw4 nn (fun ad e => (far2 ad e).1) (fun ad e => (far6 ad e).1) (by omega) hB4 (by simp; omega) (y := y2) (v := .slice a2 n2 c2) (by exact u.2)
          generalize u.1 = wm at *
          clear fq q0 q1 q2 q3 q4 q5 q6 q7 q8
          have fq := e2.fz
          obtain ⟨q0, q1, q2, q3, q4, q5, q6, q7, q8, _, _⟩ := id e2
          refine up_list 10 (by kernel_rfl) rfl ?_
          go_wp2
          refine ⟨nine_below (y := y6) hBu (by simp; omega), fun u' => ?_⟩
          obtain ⟨f1, f2, f3, f4, f5, _⟩ := put_one e2 e1 e4 e3 e5 nn.symm (fun ad e => (far6 ad e).2) (fun ad e => (far2 ad e).2) (by omega) hBu (by simp; omega) (y := y6) (v := .slice a6 n6 c6) (by exact u'.2)
          refine up_done (by kernel_rfl) ?_
          generalize u'.1 = wn at *
          go_wp2
          go_meet
          case rel => exact ⟨_, _, y2, y6, a2, a6, n2, n6, c2, c6, rfl, rfl, f2, f1, f4, f3, hn2, hn6, f5⟩
        · go_wp2
          refine ⟨by exact ba hB2, fun u => ?_⟩
          have bx8_3 := (Bx.made w2 zeroPk (.slice none 0 0)).next (by exact u.2)
          have hlt8 : w2.heap.size < u.1.heap.size := bx8_3.lt
          have hU : Below w2.heap.size w2 u.1 := next (ba (Below.refl _ _)) u.2
          have hB3 := next hB2 hU
          have hx3 := hx2.below hU
          have hy3 := hy2.below hU
          have hw3 := next hw2 hU
          have bx7_3 := bx7_2.next hU
          have hs2_3 := hs2_2.below hU
          have zz3 := hU.size
          generalize u.1 = w3 at *
          clear hx2 hy2 hB2 hw2 hU bx7_2 hs2_2
          refine up_list 6 (by kernel_rfl) rfl ?_
          go_wp2_with (go_at_call 19; refine (play_any y h40 b m d _ hy3).mono ?_; rintro e ww ⟨vv, rfl, y6, a6, n6, c6, rfl, hs, hn6, hr6, hR6, lo6, hb⟩)
          refine ⟨by exact next hB3 hb, fun u => ?_⟩
          have hU : Below w3.heap.size w3 u.1 := next hb u.2
          have hs6_4 := hs.below u.2
          have z4 : ww.heap.size ≤ u.1.heap.size := u.2.size
          have lo6' : ∀ ad : Addr, a6 = some ad → w3.heap.size ≤ ad.block ∧ ad.block < u.1.heap.size := fun ad e => ⟨(lo6 ad e).1, by have := (lo6 ad e).2; omega⟩
          have hB4 := next hB3 hU
          have hx4 := hx3.below hU
          have hy4 := hy3.below hU
          have hw4 := next hw3 hU
          have bx7_4 := bx7_3.next hU
          have hs2_4 := hs2_3.below hU
          have bx8_4 := bx8_3.next hU
          have zz4 := hU.size
          generalize u.1 = w4 at *
          clear hx3 hy3 hB3 hw3 hU hs hb lo6 z4 bx7_3 hs2_3 bx8_3
          have l7 : w0.heap.size < w1.heap.size := hlt7
          have l8 : w2.heap.size < w3.heap.size := hlt8
          have nn : w0.heap.size ≠ w2.heap.size := by omega
          have far2 : ∀ ad : Addr, a2 = some ad → ad.block ≠ w0.heap.size ∧ ad.block ≠ w2.heap.size := fun ad e => by have := lo2' ad e; omega
          have far6 : ∀ ad : Addr, a6 = some ad → ad.block ≠ w0.heap.size ∧ ad.block ≠ w2.heap.size := fun ad e => by have := lo6' ad e; omega
          have fq := bx7_4.fz
          obtain ⟨q0, q1, q2, q3, q4, q5, q6, q7, q8, _, _⟩ := id bx7_4
          refine up_list 9 (by kernel_rfl) rfl ?_
          go_wp2
          refine ⟨nine_below (y := y2) hB4 (by simp; omega), fun u => ?_⟩
          obtain ⟨e1, e2, e3, e4, e5, hBu⟩ := put_one bx7_4 bx8_4 hs2_4 hs6_4 hw4 nn (fun ad e => (far2 ad e).1) (fun ad e => (far6 ad e).1) (by omega) hB4 (by simp; omega) (y := y2) (v := .slice a2 n2 c2) (by exact u.2)
          generalize u.1 = wm at *
          clear fq q0 q1 q2 q3 q4 q5 q6 q7 q8
          have fq := e2.fz
          obtain ⟨q0, q1, q2, q3, q4, q5, q6, q7, q8, _, _⟩ := id e2
          refine up_list 10 (by kernel_rfl) rfl ?_
          go_wp2
          refine ⟨nine_below (y := y6) hBu (by simp; omega), fun u' => ?_⟩
          obtain ⟨f1, f2, f3, f4, f5, _⟩ := put_one e2 e1 e4 e3 e5 nn.symm (fun ad e => (far6 ad e).2) (fun ad e => (far2 ad e).2) (by omega) hBu (by simp; omega) (y := y6) (v := .slice a6 n6 c6) (by exact u'.2)
          refine up_done (by kernel_rfl) ?_
          generalize u'.1 = wn at *
          go_wp2
          go_meet
          case rel => exact ⟨_, _, y2, y6, a2, a6, n2, n6, c2, c6, rfl, rfl, f2, f1, f4, f3, hn2, hn6, f5⟩
      · go_wp2
        refine ⟨by exact ba hB1, fun u => ?_⟩
        have bx8_2 := (Bx.made w1 zeroPk (.slice none 0 0)).next (by exact u.2)
        have hlt8 : w1.heap.size < u.1.heap.size := bx8_2.lt
        have hU : Below w1.heap.size w1 u.1 := next (ba (Below.refl _ _)) u.2
        have hB2 := next hB1 hU
        have hx2 := hx1.below hU
        have hy2 := hy1.below hU
        have hw2 := next hw1 hU
        have bx7_2 := bx7_1.next hU
        have zz2 := hU.size
        generalize u.1 = w2 at *
        clear hx1 hy1 hB1 hw1 hU bx7_1
        refine up_list 2 (by kernel_rfl) rfl ?_
        go_wp2_with (go_at_call 19; refine (play_any x how a n c _ hx2).mono ?_; rintro e ww ⟨vv, rfl, y2, a2, n2, c2, rfl, hs, hn2, hr2, hR2, lo2, hb⟩)
        refine ⟨by exact next hB2 hb, fun u => ?_⟩
        have hU : Below w2.heap.size w2 u.1 := next hb u.2
        have hs2_3 := hs.below u.2
        have z3 : ww.heap.size ≤ u.1.heap.size := u.2.size
        have lo2' : ∀ ad : Addr, a2 = some ad → w2.heap.size ≤ ad.block ∧ ad.block < u.1.heap.size := fun ad e => ⟨(lo2 ad e).1, by have := (lo2 ad e).2; omega⟩
        have hB3 := next hB2 hU
        have hx3 := hx2.below hU
        have hy3 := hy2.below hU
        have hw3 := next hw2 hU
        have bx7_3 := bx7_2.next hU
        have bx8_3 := bx8_2.next hU
        have zz3 := hU.size
        generalize u.1 = w3 at *
        clear hx2 hy2 hB2 hw2 hU hs hb lo2 z3 bx7_2 bx8_2
        refine up_list 6 (by kernel_rfl) rfl ?_
        go_wp2_with (go_at_call 19; refine (play_any y h40 b m d _ hy3).mono ?_; rintro e ww ⟨vv, rfl, y6, a6, n6, c6, rfl, hs, hn6, hr6, hR6, lo6, hb⟩)
        refine ⟨by exact next hB3 hb, fun u => ?_⟩
        have hU : Below w3.heap.size w3 u.1 := next hb u.2
        have hs6_4 := hs.below u.2
        have z4 : ww.heap.size ≤ u.1.heap.size := u.2.size
        have lo6' : ∀ ad : Addr, a6 = some ad → w3.heap.size ≤ ad.block ∧ ad.block < u.1.heap.size := fun ad e => ⟨(lo6 ad e).1, by have := (lo6 ad e).2; omega⟩
        have hB4 := next hB3 hU
        have hx4 := hx3.below hU
        have hy4 := hy3.below hU
        have hw4 := next hw3 hU
        have bx7_4 := bx7_3.next hU
        have bx8_4 := bx8_3.next hU
        have hs2_4 := hs2_3.below hU
        have zz4 := hU.size
        generalize u.1 = w4 at *
        clear hx3 hy3 hB3 hw3 hU hs hb lo6 z4 bx7_3 bx8_3 hs2_3
        have l7 : w0.heap.size < w1.heap.size := hlt7
        have l8 : w1.heap.size < w2.heap.size := hlt8
        have nn : w0.heap.size ≠ w1.heap.size := by omega
        have far2 : ∀ ad : Addr, a2 = some ad → ad.block ≠ w0.heap.size ∧ ad.block ≠ w1.heap.size := fun ad e => by have := lo2' ad e; omega
        have far6 : ∀ ad : Addr, a6 = some ad → ad.block ≠ w0.heap.size ∧ ad.block ≠ w1.heap.size := fun ad e => by have := lo6' ad e; omega
        have fq := bx7_4.fz
        obtain ⟨q0, q1, q2, q3, q4, q5, q6, q7, q8, _, _⟩ := id bx7_4
        refine up_list 9 (by kernel_rfl) rfl ?_
        go_wp2
        refine ⟨nine_below (y := y2) hB4 (by simp; omega), fun u => ?_⟩
        obtain ⟨e1, e2, e3, e4, e5, hBu⟩ := put_one bx7_4 bx8_4 hs2_4 hs6_4 hw4 nn (fun ad e => (far2 ad e).1) (fun ad e => (far6 ad e).1) (by omega) hB4 (by simp; omega) (y := y2) (v := .slice a2 n2 c2) (by exact u.2)
        generalize u.1 = wm at *
        clear fq q0 q1 q2 q3 q4 q5 q6 q7 q8
        have fq := e2.fz
        obtain ⟨q0, q1, q2, q3, q4, q5, q6, q7, q8, _, _⟩ := id e2
        refine up_list 10 (by kernel_rfl) rfl ?_
        go_wp2
        refine ⟨nine_below (y := y6) hBu (by simp; omega), fun u' => ?_⟩
        obtain ⟨f1, f2, f3, f4, f5, _⟩ := put_one e2 e1 e4 e3 e5 nn.symm (fun ad e => (far6 ad e).2) (fun ad e => (far2 ad e).2) (by omega) hBu (by simp; omega) (y := y6) (v := .slice a6 n6 c6) (by exact u'.2)
        refine up_done (by kernel_rfl) ?_
        generalize u'.1 = wn at *
        go_wp2
        go_meet
        case rel => exact ⟨_, _, y2, y6, a2, a6, n2, n6, c2, c6, rfl, rfl, f2, f1, f4, f3, hn2, hn6, f5⟩
    · go_wp2
      refine ⟨by exact ba hB0, fun u => ?_⟩
      have bx8_1 := (Bx.made w0 zeroPk (.slice none 0 0)).next (by exact u.2)
      have hlt8 : w0.heap.size < u.1.heap.size := bx8_1.lt
      have hU : Below w0.heap.size w0 u.1 := next (ba (Below.refl _ _)) u.2
      have hB1 := next hB0 hU
      have hx1 := hx0.below hU
      have hy1 := hy0.below hU
      have hw1 := next hw0 hU
      have zz1 := hU.size
      generalize u.1 = w1 at *
      clear hx0 hy0 hB0 hw0 hU
      refine up_two 2 7 (by kernel_rfl) rfl rfl ?_ ?_
      · go_wp2_with (go_at_call 19; refine (play_any x how a n c _ hx1).mono ?_; rintro e ww ⟨vv, rfl, y2, a2, n2, c2, rfl, hs, hn2, hr2, hR2, lo2, hb⟩)
        refine ⟨by exact next hB1 hb, fun u => ?_⟩
        have hU : Below w1.heap.size w1 u.1 := next hb u.2
        have hs2_2 := hs.below u.2
        have z2 : ww.heap.size ≤ u.1.heap.size := u.2.size
        have lo2' : ∀ ad : Addr, a2 = some ad → w1.heap.size ≤ ad.block ∧ ad.block < u.1.heap.size := fun ad e => ⟨(lo2 ad e).1, by have := (lo2 ad e).2; omega⟩
        have hB2 := next hB1 hU
        have hx2 := hx1.below hU
        have hy2 := hy1.below hU
        have hw2 := next hw1 hU
        have bx8_2 := bx8_1.next hU
        have zz2 := hU.size
        generalize u.1 = w2 at *
        clear hx1 hy1 hB1 hw1 hU hs hb lo2 z2 bx8_1
        refine up_two 6 7 (by kernel_rfl) rfl rfl ?_ ?_
        · go_wp2_with (go_at_call 19; refine (play_any y h40 b m d _ hy2).mono ?_; rintro e ww ⟨vv, rfl, y6, a6, n6, c6, rfl, hs, hn6, hr6, hR6, lo6, hb⟩)
          refine ⟨by exact next hB2 hb, fun u => ?_⟩
          have hU : Below w2.heap.size w2 u.1 := next hb u.2
          have hs6_3 := hs.below u.2
          have z3 : ww.heap.size ≤ u.1.heap.size := u.2.size
          have lo6' : ∀ ad : Addr, a6 = some ad → w2.heap.size ≤ ad.block ∧ ad.block < u.1.heap.size := fun ad e => ⟨(lo6 ad e).1, by have := (lo6 ad e).2; omega⟩
          have hB3 := next hB2 hU
          have hx3 := hx2.below hU
          have hy3 := hy2.below hU
          have hw3 := next hw2 hU
          have bx8_3 := bx8_2.next hU
          have hs2_3 := hs2_2.below hU
          have zz3 := hU.size
          generalize u.1 = w3 at *
          clear hx2 hy2 hB2 hw2 hU hs hb lo6 z3 bx8_2 hs2_2
          refine up_list 7 (by kernel_rfl) rfl ?_
          go_wp2
          refine ⟨by exact ba hB3, fun u => ?_⟩
          have bx7_4 := (Bx.made w3 zeroPk (.slice none 0 0)).next (by exact u.2)
          have hlt7 : w3.heap.size < u.1.heap.size := bx7_4.lt
          have hU : Below w3.heap.size w3 u.1 := next (ba (Below.refl _ _)) u.2
          have hB4 := next hB3 hU
          have hx4 := hx3.below hU
          have hy4 := hy3.below hU
          have hw4 := next hw3 hU
          have bx8_4 := bx8_3.next hU
          have hs2_4 := hs2_3.below hU
          have hs6_4 := hs6_3.below hU
          have zz4 := hU.size
          generalize u.1 = w4 at *
          clear hx3 hy3 hB3 hw3 hU bx8_3 hs2_3 hs6_3
          have l7 : w3.heap.size < w4.heap.size := hlt7
          have l8 : w0.heap.size < w1.heap.size := hlt8
          have nn : w3.heap.size ≠ w0.heap.size := by omega
          have far2 : ∀ ad : Addr, a2 = some ad → ad.block ≠ w3.heap.size ∧ ad.block ≠ w0.heap.size := fun ad e => by have := lo2' ad e; omega
          have far6 : ∀ ad : Addr, a6 = some ad → ad.block ≠ w3.heap.size ∧ ad.block ≠ w0.heap.size := fun ad e => by have := lo6' ad e; omega
          have fq := bx7_4.fz
          obtain ⟨q0, q1, q2, q3, q4, q5, q6, q7, q8, _, _⟩ := id bx7_4
          refine up_list 9 (by kernel_rfl) rfl ?_
          go_wp2
          refine ⟨nine_below (y := y2) hB4 (by simp; omega), fun u => ?_⟩
          obtain ⟨e1, e2, e3, e4, e5, hBu⟩ := put_one bx7_4 bx8_4 hs2_4 hs6_4 hw4 nn (fun ad e => (far2 ad e).1) (fun ad e => (far6 ad e).1) (by omega) hB4 (by simp; omega) (y := y2) (v := .slice a2 n2 c2) (by exact u.2)
          generalize u.1 = wm at *
          clear fq q0 q1 q2 q3 q4 q5 q6 q7 q8
          have fq := e2.fz
          obtain ⟨q0, q1, q2, q3, q4, q5, q6, q7, q8, _, _⟩ := id e2
          refine up_list 10 (by kernel_rfl) rfl ?_
          go_wp2
          refine ⟨nine_below (y := y6) hBu (by simp; omega), fun u' => ?_⟩
          obtain ⟨f1, f2, f3, f4, f5, _⟩ := put_one e2 e1 e4 e3 e5 nn.symm (fun ad e => (far6 ad e).2) (fun ad e => (far2 ad e).2) (by omega) hBu (by simp; omega) (y := y6) (v := .slice a6 n6 c6) (by exact u'.2)
          refine up_done (by kernel_rfl) ?_
          generalize u'.1 = wn at *
          go_wp2
          go_meet
          case rel => exact ⟨_, _, y2, y6, a2, a6, n2, n6, c2, c6, rfl, rfl, f2, f1, f4, f3, hn2, hn6, f5⟩
        · go_wp2
          refine ⟨by exact ba hB2, fun u => ?_⟩
          have bx7_3 := (Bx.made w2 zeroPk (.slice none 0 0)).next (by exact u.2)
          have hlt7 : w2.heap.size < u.1.heap.size := bx7_3.lt
          have hU : Below w2.heap.size w2 u.1 := next (ba (Below.refl _ _)) u.2
          have hB3 := next hB2 hU
          have hx3 := hx2.below hU
          have hy3 := hy2.below hU
          have hw3 := next hw2 hU
          have bx8_3 := bx8_2.next hU
          have hs2_3 := hs2_2.below hU
          have zz3 := hU.size
          generalize u.1 = w3 at *
          clear hx2 hy2 hB2 hw2 hU bx8_2 hs2_2
          refine up_list 6 (by kernel_rfl) rfl ?_
          go_wp2_with (go_at_call 19; refine (play_any y h40 b m d _ hy3).mono ?_; rintro e ww ⟨vv, rfl, y6, a6, n6, c6, rfl, hs, hn6, hr6, hR6, lo6, hb⟩)
          refine ⟨by exact next hB3 hb, fun u => ?_⟩
          have hU : Below w3.heap.size w3 u.1 := next hb u.2
          have hs6_4 := hs.below u.2
          have z4 : ww.heap.size ≤ u.1.heap.size := u.2.size
          have lo6' : ∀ ad : Addr, a6 = some ad → w3.heap.size ≤ ad.block ∧ ad.block < u.1.heap.size := fun ad e => ⟨(lo6 ad e).1, by have := (lo6 ad e).2; omega⟩
          have hB4 := next hB3 hU
          have hx4 := hx3.below hU
          have hy4 := hy3.below hU
          have hw4 := next hw3 hU
          have bx8_4 := bx8_3.next hU
          have hs2_4 := hs2_3.below hU
          have bx7_4 := bx7_3.next hU
          have zz4 := hU.size
          generalize u.1 = w4 at *
          clear hx3 hy3 hB3 hw3 hU hs hb lo6 z4 bx8_3 hs2_3 bx7_3
          have l7 : w2.heap.size < w3.heap.size := hlt7
          have l8 : w0.heap.size < w1.heap.size := hlt8
          have nn : w2.heap.size ≠ w0.heap.size := by omega
          have far2 : ∀ ad : Addr, a2 = some ad → ad.block ≠ w2.heap.size ∧ ad.block ≠ w0.heap.size := fun ad e => by have := lo2' ad e; omega
          have far6 : ∀ ad : Addr, a6 = some ad → ad.block ≠ w2.heap.size ∧ ad.block ≠ w0.heap.size := fun ad e => by have := lo6' ad e; omega
          have fq := bx7_4.fz
          obtain ⟨q0, q1, q2, q3, q4, q5, q6, q7, q8, _, _⟩ := id bx7_4
          refine up_list 9 (by kernel_rfl) rfl ?_
          go_wp2
          refine ⟨nine_below (y := y2) hB4 (by simp; omega), fun u => ?_⟩
          obtain ⟨e1, e2, e3, e4, e5, hBu⟩ := put_one bx7_4 bx8_4 hs2_4 hs6_4 hw4 nn (fun ad e => (far2 ad e).1) (fun ad e => (far6 ad e).1) (by omega) hB4 (by simp; omega) (y := y2) (v := .slice a2 n2 c2) (by exact u.2)
          generalize u.1 = wm at *
          clear fq q0 q1 q2 q3 q4 q5 q6 q7 q8
          have fq := e2.fz
          obtain ⟨q0, q1, q2, q3, q4, q5, q6, q7, q8, _, _⟩ := id e2
          refine up_list 10 (by kernel_rfl) rfl ?_
          go_wp2
          refine ⟨nine_below (y := y6) hBu (by simp; omega), fun u' => ?_⟩
          obtain ⟨f1, f2, f3, f4, f5, _⟩ := put_one e2 e1 e4 e3 e5 nn.symm (fun ad e => (far6 ad e).2) (fun ad e => (far2 ad e).2) (by omega) hBu (by simp; omega) (y := y6) (v := .slice a6 n6 c6) (by exact u'.2)
          refine up_done (by kernel_rfl) ?_
          generalize u'.1 = wn at *
          go_wp2
          go_meet
          case rel => exact ⟨_, _, y2, y6, a2, a6, n2, n6, c2, c6, rfl, rfl, f2, f1, f4, f3, hn2, hn6, f5⟩
      · go_wp2
        refine ⟨by exact ba hB1, fun u => ?_⟩
        have bx7_2 := (Bx.made w1 zeroPk (.slice none 0 0)).next (by exact u.2)
        have hlt7 : w1.heap.size < u.1.heap.size := bx7_2.lt
        have hU : Below w1.heap.size w1 u.1 := next (ba (Below.refl _ _)) u.2
        have hB2 := next hB1 hU
        have hx2 := hx1.below hU
        have hy2 := hy1.below hU
        have hw2 := next hw1 hU
        have bx8_2 := bx8_1.next hU
        have zz2 := hU.size
        generalize u.1 = w2 at *
        clear hx1 hy1 hB1 hw1 hU bx8_1
        refine up_list 2 (by kernel_rfl) rfl ?_
        go_wp2_with (go_at_call 19; refine (play_any x how a n c _ hx2).mono ?_; rintro e ww ⟨vv, rfl, y2, a2, n2, c2, rfl, hs, hn2, hr2, hR2, lo2, hb⟩)
        refine ⟨by exact next hB2 hb, fun u => ?_⟩
        have hU : Below w2.heap.size w2 u.1 := next hb u.2
        have hs2_3 := hs.below u.2
        have z3 : ww.heap.size ≤ u.1.heap.size := u.2.size
        have lo2' : ∀ ad : Addr, a2 = some ad → w2.heap.size ≤ ad.block ∧ ad.block < u.1.heap.size := fun ad e => ⟨(lo2 ad e).1, by have := (lo2 ad e).2; omega⟩
        have hB3 := next hB2 hU
        have hx3 := hx2.below hU
        have hy3 := hy2.below hU
        have hw3 := next hw2 hU
        have bx8_3 := bx8_2.next hU
        have bx7_3 := bx7_2.next hU
        have zz3 := hU.size
        generalize u.1 = w3 at *
        clear hx2 hy2 hB2 hw2 hU hs hb lo2 z3 bx8_2 bx7_2
        refine up_list 6 (by kernel_rfl) rfl ?_
        go_wp2_with (go_at_call 19; refine (play_any y h40 b m d _ hy3).mono ?_; rintro e ww ⟨vv, rfl, y6, a6, n6, c6, rfl, hs, hn6, hr6, hR6, lo6, hb⟩)
        refine ⟨by exact next hB3 hb, fun u => ?_⟩
        have hU : Below w3.heap.size w3 u.1 := next hb u.2
        have hs6_4 := hs.below u.2
        have z4 : ww.heap.size ≤ u.1.heap.size := u.2.size
        have lo6' : ∀ ad : Addr, a6 = some ad → w3.heap.size ≤ ad.block ∧ ad.block < u.1.heap.size := fun ad e => ⟨(lo6 ad e).1, by have := (lo6 ad e).2; omega⟩
        have hB4 := next hB3 hU
        have hx4 := hx3.below hU
        have hy4 := hy3.below hU
        have hw4 := next hw3 hU
        have bx8_4 := bx8_3.next hU
        have bx7_4 := bx7_3.next hU
        have hs2_4 := hs2_3.below hU
        have zz4 := hU.size
        generalize u.1 = w4 at *
        clear hx3 hy3 hB3 hw3 hU hs hb lo6 z4 bx8_3 bx7_3 hs2_3
        have l7 : w1.heap.size < w2.heap.size := hlt7
        have l8 : w0.heap.size < w1.heap.size := hlt8
        have nn : w1.heap.size ≠ w0.heap.size := by omega
        have far2 : ∀ ad : Addr, a2 = some ad → ad.block ≠ w1.heap.size ∧ ad.block ≠ w0.heap.size := fun ad e => by have := lo2' ad e; omega
        have far6 : ∀ ad : Addr, a6 = some ad → ad.block ≠ w1.heap.size ∧ ad.block ≠ w0.heap.size := fun ad e => by have := lo6' ad e; omega
        have fq := bx7_4.fz
        obtain ⟨q0, q1, q2, q3, q4, q5, q6, q7, q8, _, _⟩ := id bx7_4
        refine up_list 9 (by kernel_rfl) rfl ?_
        go_wp2
        refine ⟨nine_below (y := y2) hB4 (by simp; omega), fun u => ?_⟩
        obtain ⟨e1, e2, e3, e4, e5, hBu⟩ := put_one bx7_4 bx8_4 hs2_4 hs6_4 hw4 nn (fun ad e => (far2 ad e).1) (fun ad e => (far6 ad e).1) (by omega) hB4 (by simp; omega) (y := y2) (v := .slice a2 n2 c2) (by exact u.2)
        generalize u.1 = wm at *
        clear fq q0 q1 q2 q3 q4 q5 q6 q7 q8
        have fq := e2.fz
        obtain ⟨q0, q1, q2, q3, q4, q5, q6, q7, q8, _, _⟩ := id e2
        refine up_list 10 (by kernel_rfl) rfl ?_
        go_wp2
        refine ⟨nine_below (y := y6) hBu (by simp; omega), fun u' => ?_⟩
        obtain ⟨f1, f2, f3, f4, f5, _⟩ := put_one e2 e1 e4 e3 e5 nn.symm (fun ad e => (far6 ad e).2) (fun ad e => (far2 ad e).2) (by omega) hBu (by simp; omega) (y := y6) (v := .slice a6 n6 c6) (by exact u'.2)
        refine up_done (by kernel_rfl) ?_
        generalize u'.1 = wn at *
        go_wp2
        go_meet
        case rel => exact ⟨_, _, y2, y6, a2, a6, n2, n6, c2, c6, rfl, rfl, f2, f1, f4, f3, hn2, hn6, f5⟩
  case rest =>
    obtain ⟨g9, g10, p, q, a1, a2, n1, n2, c1, c2, rfl, rfl, bp, bq, hsp, hsq, hn1, hn2, BW⟩ := hcut
    clear bp0 bq0 hx hy hh40
    have HPP := sameP_self p
    have hlen := hsp.len
    have HSL : Hid ((B.sealI (packI p)).length = 12 + 8 * n1) := by show _ = _; rw [sealI_len, packI_len, hlen]; omega
    clear hlen
    have hnil : ∀ V : World, B.Sl V none 0 0 [] := fun V => ⟨rfl, Nat.le_refl _, Nat.zero_le _, fun _ => rfl, (fun x hx => by cases hx), .inl rfl⟩
    obtain ⟨p0, p1, p2, p3, p4, p5, p6, p7, p8, pf, plt⟩ := id bp
    cases hr : p.right
    · have HR : p.right = false := hr
      have HE : Hid (p.err = 1) := Pk.err_f hr
      clear hr
      go_upto_if 58 with (first
        | (go_at_call 12; refine (pack_no p a1 n1 c1 _ hsp HR).mono ?_; rintro e w5 ⟨rfl, hb5⟩; obtain ⟨hc5, hf5⟩ := bcell hb5; have z5 : g9 < w5.heap.size := Nat.lt_of_lt_of_le plt hb5.size; have hs5 := hsp.below hb5)
        | (go_at_call 20; refine (refPack_no p a1 n1 c1 _ hs5 HR).mono ?_; rintro e w6 ⟨rfl, hb6⟩; obtain ⟨hc6, hf6⟩ := bcell hb6; have z6 : g9 < w6.heap.size := Nat.lt_of_lt_of_le z5 hb6.size; have hs6 := hs5.below hb6)
        | (go_at_call 13; refine (B.same_any none none [] [] 0 0 0 0 _ (hnil _) (hnil _)).mono ?_; rintro e w7 ⟨he, k7, rfl⟩; rw [decide_eq_true rfl] at he; subst he)
        | (go_at_call 16; refine (check_any p a1 n1 c1 _ (hs6.below (below_dn _ _))).mono ?_; rintro e w8 ⟨rfl, hb8⟩; rw [HE.out]))
      have BC := next (next (next hb5 hb6) (below_dn _ k7)) hb8
      clear hc5 hf5 hc6 hf6 hb5 hb6 hb8 hs5 hs6
      go_cut [3] (fun v wx => (∃ kk : Int, v = .int .i64 kk) ∧ Below wc.heap.size wc wx)
      case first =>
        by_cases hk : (kind.tmod 5 != 4) = true
        · go_wp2_with (go_at_call 10; refine (within_any kind 12 _ (by omega) (by omega)).mono ?_; rintro e w3 ⟨rfl, rfl⟩)
          go_meet
          case rel => exact ⟨⟨_, rfl⟩, BC⟩
        · have hk' : (kind.tmod 5 != 4) = false := by simpa using hk
          clear hk
          go_wp2
          go_meet
          case rel => exact ⟨⟨_, rfl⟩, BC⟩
      case rest =>
        clear BC
        obtain ⟨⟨kk, rfl⟩, BD⟩ := hcut
        have bp' := bp.next BD
        have bq' := bq.next BD
        have hsp' := hsp.below BD
        have hsq' := hsq.below BD
        have B0 := next BW BD
        clear bp bq hsp hsq BW BD p0 p1 p2 p3 p4 p5 p6 p7 p8 pf plt hnil HSL HR HE
        obtain ⟨p0, p1, p2, p3, p4, p5, p6, p7, p8, pf, plt⟩ := bp'
        obtain ⟨r0, r1, r2, r3, r4, r5, r6, r7, r8, rf, rlt⟩ := bq'
        have uc := @Up.cell
        have uf := @Up.frozen
        have g1 : (ansI kk == ansI kk) = true := beq_self_eq_true _
        have g2 : (inB 1 kk 6 == inB 1 kk 6) = true := beq_self_eq_true _
        have g3 : (sameP p q == sameP p q) = true := beq_self_eq_true _
        go_wp2_with fail
        refine wp_region_up (by kernel_rfl) (by kernel_rfl) ?_
        repeat (go_big_quiet_step (first
          | (go_at_call 21; exact Calls.up_same (answer_any _ _))
          | (go_at_call 22; exact Calls.up_same (refAnswer_any _ _))
          | (go_at_call 23; exact Calls.up_same (request_any _ _))
          | (go_at_call 24; exact Calls.up_same (refRequest_any _ _))
          | (go_at_call 18; exact Calls.up_of (pktSame_any _ _ _ _ _ _ _ _ _ (by first | exact hsp'.below (Subtype.property _) | exact hsq'.below (Subtype.property _)) (by first | exact hsp'.below (Subtype.property _) | exact hsq'.below (Subtype.property _))))
          | (go_at_call 25; exact Calls.up_of (refSame_any p q a1 a2 n1 n2 c1 c2 _ (by exact hsp'.below (Subtype.property _)) (by exact hsq'.below (Subtype.property _))))
          | (go_at_call 15; exact Calls.up_of (wakes_any _))))
        refine wpQuiet_nil ?_
        rintro _ ⟨u, rfl⟩
        go_wp2
        go_ret
        exact ⟨rfl, next B0 u.2⟩
    · have HR : p.right = true := hr
      have HE : Hid (p.err = 0) := Pk.err_t hr
      clear hr
      go_upto_if 58 with (first
        | (go_at_call 12; refine (pack_yes p a1 n1 c1 _ hsp HR).mono ?_; rintro e w5 ⟨v5, rfl, ho5, hb5⟩; obtain ⟨b5, k5, rfl, hs5b⟩ := ho5.sl' HSL.out; obtain ⟨hc5, hf5⟩ := bcell hb5; have z5 : g9 < w5.heap.size := Nat.lt_of_lt_of_le plt hb5.size; have hs5 := hsp.below hb5)
        | (go_at_call 20; refine (refPack_yes p a1 n1 c1 _ hs5 HR).mono ?_; rintro e w6 ⟨v6, rfl, ho6, hb6⟩; obtain ⟨b6, k6, rfl, hs6b⟩ := ho6.sl' HSL.out; obtain ⟨hc6, hf6⟩ := bcell hb6; have z6 : g9 < w6.heap.size := Nat.lt_of_lt_of_le z5 hb6.size; have hs6 := hs5.below hb6; have hs5c := hs5b.below hb6)
        | (go_at_call 13; refine (B.same_any b5 b6 _ _ _ _ k5 k6 _ hs5c hs6b).mono ?_; rintro e w7 ⟨he, k7, rfl⟩; rw [decide_eq_true rfl] at he; subst he)
        | (go_at_call 16; refine (check_any p a1 n1 c1 _ (hs6.below (below_dn _ _))).mono ?_; rintro e w8 ⟨rfl, hb8⟩; rw [HE.out]))
      have BC := next (next (next hb5 hb6) (below_dn _ k7)) hb8
      clear hc5 hf5 hc6 hf6 hb5 hb6 hb8 hs5 hs6 hs5b hs6b hs5c ho5 ho6
      go_cut [3] (fun v wx => (∃ kk : Int, v = .int .i64 kk) ∧ Below wc.heap.size wc wx)
      case first =>
        by_cases hk : (kind.tmod 5 != 4) = true
        · go_wp2_with (go_at_call 10; refine (within_any kind 12 _ (by omega) (by omega)).mono ?_; rintro e w3 ⟨rfl, rfl⟩)
          go_meet
          case rel => exact ⟨⟨_, rfl⟩, BC⟩
        · have hk' : (kind.tmod 5 != 4) = false := by simpa using hk
          clear hk
          go_wp2
          go_meet
          case rel => exact ⟨⟨_, rfl⟩, BC⟩
      case rest =>
        clear BC
        obtain ⟨⟨kk, rfl⟩, BD⟩ := hcut
        have bp' := bp.next BD
        have bq' := bq.next BD
        have hsp' := hsp.below BD
        have hsq' := hsq.below BD
        have B0 := next BW BD
        clear bp bq hsp hsq BW BD p0 p1 p2 p3 p4 p5 p6 p7 p8 pf plt hnil HSL HR HE
        obtain ⟨p0, p1, p2, p3, p4, p5, p6, p7, p8, pf, plt⟩ := bp'
        obtain ⟨r0, r1, r2, r3, r4, r5, r6, r7, r8, rf, rlt⟩ := bq'
        have uc := @Up.cell
        have uf := @Up.frozen
        have g1 : (ansI kk == ansI kk) = true := beq_self_eq_true _
        have g2 : (inB 1 kk 6 == inB 1 kk 6) = true := beq_self_eq_true _
        have g3 : (sameP p q == sameP p q) = true := beq_self_eq_true _
        go_wp2_with fail
        refine wp_region_up (by kernel_rfl) (by kernel_rfl) ?_
        repeat (go_big_quiet_step (first
          | (go_at_call 21; exact Calls.up_same (answer_any _ _))
          | (go_at_call 22; exact Calls.up_same (refAnswer_any _ _))
          | (go_at_call 23; exact Calls.up_same (request_any _ _))
          | (go_at_call 24; exact Calls.up_same (refRequest_any _ _))
          | (go_at_call 18; exact Calls.up_of (pktSame_any _ _ _ _ _ _ _ _ _ (by first | exact hsp'.below (Subtype.property _) | exact hsq'.below (Subtype.property _)) (by first | exact hsp'.below (Subtype.property _) | exact hsq'.below (Subtype.property _))))
          | (go_at_call 25; exact Calls.up_of (refSame_any p q a1 a2 n1 n2 c1 c2 _ (by exact hsp'.below (Subtype.property _)) (by exact hsq'.below (Subtype.property _))))
          | (go_at_call 15; exact Calls.up_of (wakes_any _))))
        refine wpQuiet_nil ?_
        rintro _ ⟨u, rfl⟩
        go_wp2
        go_ret
        exact ⟨rfl, next B0 u.2⟩
end Go.Proofs.Ytbllhjhlkngchaa
