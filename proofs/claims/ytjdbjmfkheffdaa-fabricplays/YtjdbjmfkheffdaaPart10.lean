/- The contract of New. Conditions: as the theorem states them.
Networks in walks (On): their memory is new, and none of the blocks of X. Conditions: as each theorem states them.
The contract of the document's own Same. Conditions: as stated.
The contract of chapletlaw06.Same: the program's network and the document's. Conditions: as each theorem states them.
How many packets there are in a network, and that each call makes something of it. Conditions: as each theorem states them.
The program's network beside the document's: what each call makes of the two. Conditions: as each theorem states them.
The document's example of a network (wakes). No condition. -/
import Derived.Test.YtjdbjmfkheffdaaPart4
import Derived.Test.YtjdbjmfkheffdaaPart5
import Derived.Test.YtjdbjmfkheffdaaPart6
import Derived.Test.YtjdbjmfkheffdaaPart9
import Derived.Test.YtjdbjmfkheffdaaPart2
import Derived.Test.YtjdbjmfkheffdaaDocF8
section
namespace Go.Proofs.Ytjdbjmfkheffdaa
open Go.RowKit
set_option linter.unusedVariables false
set_option maxRecDepth 20000

theorem Try.infoLane : (Try.prog.info? 71).map (fun i => (i.zero, i.size, i.bytes)) = some (some (.agg #[.pointer none, .pointer none]), 2, 16) := by kernel_rfl
/-- A lane's variable in memory. -/
structure Lb (w : World) (g : Nat) (p q : Option Addr) : Prop where
  c0 : w.cell? ⟨g, 0, none⟩ = some (.pointer p)
  c1 : w.cell? ⟨g, 1, none⟩ = some (.pointer q)
  fz : ∀ o, w.frozen? ⟨g, o, none⟩ = false
  lt : g < w.heap.size
theorem Lb.made (w : World) (p q : Option Addr) : Lb (w.alloc (.cells #[.pointer p, .pointer q] 71)) w.heap.size p q := by constructor <;> simp
theorem Lb.next {w w' : World} {g : Nat} {p q : Option Addr} (h : Lb w g p q) (hb : Below w.heap.size w w') : Lb w' g p q :=
  ⟨(hb.cell (p := ⟨g, 0, none⟩) h.lt).trans h.c0, (hb.cell (p := ⟨g, 1, none⟩) h.lt).trans h.c1, fun o => (hb.frozen (p := ⟨g, o, none⟩) h.lt).trans (h.fz o), Nat.lt_of_lt_of_le h.lt hb.size⟩
theorem Lb.stored {w : World} {g : Nat} {p q : Option Addr} (h : Lb w g p q) (p' q' : Option Addr) : Lb ((w.setCell ⟨g, 0, none⟩ (.pointer p')).setCell ⟨g, 1, none⟩ (.pointer q')) g p' q' ∧ Keep (fun k => k = g) w ((w.setCell ⟨g, 0, none⟩ (.pointer p')).setCell ⟨g, 1, none⟩ (.pointer q')) := by
  obtain ⟨c0, c1, fz, lt⟩ := h
  refine ⟨?_, ((Keep.refl (fun k => k = g) w).setCell (.inl rfl) _).setCell (.inl rfl) _⟩
  constructor <;> (try intro o) <;> go_simp
set_option maxHeartbeats 4000000 in
theorem fnew_any (w : World) (N L K S Y O I : Nat) (t : Value) (ht : t.oneCell' = true) (n0 : 1 ≤ N) (n1 : N ≤ 6) (o0 : 1 ≤ O) (o1 : O ≤ 1000) (i0 : 1 ≤ I) (i1 : I ≤ 1000) :
    Calls Try.prog 9 #[.agg #[.int .i64 (N : Int), .int .i64 (L : Int), .int .i64 (K : Int), .int .i64 (S : Int), .int .i64 (Y : Int), .int .i64 (O : Int), .int .i64 (I : Int), t]] w fun e w' => ∃ gf B, e = .returned (.pointer (some ⟨gf, 0, none⟩)) ∧ Below w.heap.size w w' ∧ Fb w' gf N O I (fun _ => []) B ∧ ∀ k, B k → w.heap.size ≤ k := by
  have HO : Hid (max (O : Int) 0 = (O : Int)) := Int.max_eq_left (by omega)
  have HI : Hid (max (I : Int) 0 = (I : Int)) := Int.max_eq_left (by omega)
  have H1 : Hid (max (1 : Int) 0 = 1) := Int.max_eq_left (by omega)
  have HC : Hid (1 ≤ N ∧ N ≤ 6 ∧ (1 : Int) ≤ O ∧ (O : Int) ≤ 1000 ∧ (1 : Int) ≤ I ∧ (I : Int) ≤ 1000) := ⟨n0, n1, by omega, by omega, by omega, by omega⟩
  clear n0 o0 o1 i0 i1
  go_enter Try.func9, Try.ntmps9
  go_wp2_with fail
  go_loopw [10] (fun i wr => ∃ (j : Nat) (G : Nat → Nat) (M D : Nat → Nat → Prop) (SL : Nat → Prop) (a : Option Addr) (cap : Nat), j ≤ N ∧ i = .int .i64 j ∧ NW w wr (w.heap.size + 1) j O I G M D SL a cap ∧ wr.cell? ⟨w.heap.size, 5, none⟩ = some (.int .i64 (O : Int)) ∧ wr.cell? ⟨w.heap.size, 6, none⟩ = some (.int .i64 (I : Int)) ∧ Below w.heap.size w wr) (fun i _ => N - (intOf i).toNat)
  case atStart =>
    refine ⟨0, fun _ => 0, fun _ _ => False, fun _ _ => False, fun _ => False, none, 0, by omega, rfl, ⟨?_, ?_, by omega, by omega, by simp, rw_nil _ _ _, ⟨fun q hq => by omega, fun q _ hq => by omega, fun q hq => by omega⟩, fun q hq => by omega, fun k hk => hk.elim⟩, ?_, ?_, ?_⟩
    · simp
    · simp
    · simp
    · simp
    · exact ba (ba (Below.refl _ _))
  case round =>
    obtain ⟨j, G, M, D, SL, a, cap, hj, rfl, hN, c5, c6, hbw⟩ := hrel
    have sz := hN.sz
    by_cases hlt : j < N
    · have lc : w.heap.size < wr.heap.size := by omega
      go_upto_region 4 with fail
      go_cut [4] (fun v wx => ∃ g1 g2 gR : Nat, v = .pointer (some ⟨gR, 0, none⟩) ∧ Lb wx gR (some ⟨g1, 0, none⟩) (some ⟨g2, 0, none⟩) ∧ Qu wx g1 (one g1) noM O [] ∧ Qu wx g2 (one g2) noM I [] ∧ wr.heap.size ≤ g1 ∧ g1 < g2 ∧ Below wr.heap.size wr wx)
      case first =>
        have uc := @Up.cell2
        have uf := @Up.frozen2
        refine wp_region_mild 9 rfl (by kernel_rfl) ?_
        refine mild_take (v := ?v501) 0 rfl (by kernel_rfl) (by kernel_rfl) (by kernel_rfl) (fun _ _ _ h => h) (by kernel_rfl) (fun Wu K hK => ?hy501) ?go501
        case hy501 =>
          go_big_quiet_op
          simp only [Act.put, List.setIfInBounds_toArray, List.set_cons_zero, List.set_cons_succ] at hK
          exact hK
        simp only [Act.put, List.setIfInBounds_toArray, List.set_cons_zero, List.set_cons_succ]
        refine mild_take (v := ?v502) 1 rfl (by kernel_rfl) (by kernel_rfl) (by kernel_rfl) (fun _ _ _ h => h) (by kernel_rfl) (fun Wu K hK => ?hy502) ?go502
        case hy502 =>
          go_big_quiet_op
          simp only [Act.put, List.setIfInBounds_toArray, List.set_cons_zero, List.set_cons_succ] at hK
          exact hK
        simp only [Act.put, List.setIfInBounds_toArray, List.set_cons_zero, List.set_cons_succ]
        refine mild_take (v := ?v503) 3 rfl (by kernel_rfl) (by kernel_rfl) (by kernel_rfl) (fun _ _ _ h => h) (by kernel_rfl) (fun Wu K hK => ?hy503) ?go503
        case hy503 =>
          go_big_quiet_op
          simp only [Act.put, List.setIfInBounds_toArray, List.set_cons_zero, List.set_cons_succ] at hK
          exact hK
        simp only [Act.put, List.setIfInBounds_toArray, List.set_cons_zero, List.set_cons_succ]
        refine mild_take (v := ?v504) 4 rfl (by kernel_rfl) (by kernel_rfl) (by kernel_rfl) (fun _ _ _ h => h) (by kernel_rfl) (fun Wu K hK => ?hy504) ?go504
        case hy504 =>
          go_big_quiet_op
          simp only [Act.put, List.setIfInBounds_toArray, List.set_cons_zero, List.set_cons_succ] at hK
          exact hK
        simp only [Act.put, List.setIfInBounds_toArray, List.set_cons_zero, List.set_cons_succ]
        intro W
        clear uc uf
        have hB0 := W.2
        generalize W.1 = w0 at *
        refine up_two 2 7 (by kernel_rfl) rfl rfl ?_ ?_
        · go_wp2_with (go_at_call 29; refine (P.new_any _ _).mono ?_; rintro e ww ⟨rfl, hb, hq⟩; rw [HO.out] at hq)
          refine ⟨by exact next hB0 hb, fun u => ?_⟩
          have hU : Below w0.heap.size w0 u.1 := next hb u.2
          have q1_1 := hq.below u.2
          have o1 : wr.heap.size ≤ w0.heap.size := hB0.size
          have p1 : w0.heap.size < u.1.heap.size := (hq.below u.2).old _ (.inl rfl)
          have hB1 := next hB0 hU
          have zz1 := hU.size
          generalize u.1 = w1 at *
          clear hB0 hU hq hb
          refine up_two 5 7 (by kernel_rfl) rfl rfl ?_ ?_
          · go_wp2_with (go_at_call 30; refine (new_any _ _).mono ?_; rintro e ww ⟨rfl, hb, hq⟩; rw [HI.out] at hq)
            refine ⟨by exact next hB1 hb, fun u => ?_⟩
            have hU : Below w1.heap.size w1 u.1 := next hb u.2
            have q2_2 := hq.below u.2
            have o2 : w0.heap.size < w1.heap.size := by omega
            have p2 : w1.heap.size < u.1.heap.size := (hq.below u.2).old _ (.inl rfl)
            have hB2 := next hB1 hU
            have zz2 := hU.size
            have q1_2 := q1_1.below hU
            generalize u.1 = w2 at *
            clear hB1 hU hq hb q1_1
            refine up_two 6 7 (by kernel_rfl) rfl rfl ?_ ?_
            · go_wp2
              refine ⟨by exact hB2, fun u => ?_⟩
              have hU : Below w2.heap.size w2 u.1 := u.2
              have hB3 := next hB2 hU
              have zz3 := hU.size
              have q1_3 := q1_2.below hU
              have q2_3 := q2_2.below hU
              generalize u.1 = w3 at *
              clear hB2 hU q1_2 q2_2
              refine up_list 7 (by kernel_rfl) rfl ?_
              go_wp2
              refine ⟨by exact ba hB3, fun u => ?_⟩
              have hU : Below w3.heap.size w3 u.1 := next (ba (Below.refl _ _)) u.2
              have lb_4 := (Lb.made w3 none none).next (by exact u.2)
              have oR : wr.heap.size ≤ w3.heap.size := hB3.size
              have pR : w3.heap.size < u.1.heap.size := lb_4.lt
              have hB4 := next hB3 hU
              have zz4 := hU.size
              have q1_4 := q1_3.below hU
              have q2_4 := q2_3.below hU
              generalize u.1 = w4 at *
              clear hB3 hU q1_3 q2_3
              obtain ⟨l0, l1, lf, ll⟩ := id lb_4
              refine up_list 8 (by kernel_rfl) rfl ?_
              go_wp2
              refine ⟨(hB4.setCell (by simp only; omega) _).setCell (by simp only; omega) _, fun u => ?_⟩
              have kk := Lb.stored lb_4 (some ⟨w0.heap.size, 0, none⟩) (some ⟨w1.heap.size, 0, none⟩)
              have hU := u.2
              have lb_5 := kk.1.next hU
              have q1_5 := (q1_4.keep kk.2 (fun x hx e => by have : x = w0.heap.size := hx.resolve_right id; omega)).below hU
              have q2_5 := (q2_4.keep kk.2 (fun x hx e => by have : x = w1.heap.size := hx.resolve_right id; omega)).below hU
              have hB5 := next ((hB4.setCell (p := ⟨w3.heap.size, 0, none⟩) (by simp only; omega) (.pointer (some ⟨w0.heap.size, 0, none⟩))).setCell (p := ⟨w3.heap.size, 1, none⟩) (by simp only; omega) (.pointer (some ⟨w1.heap.size, 0, none⟩))) hU
              clear l0 l1 lf ll
              generalize u.1 = w5 at *
              refine up_done (by kernel_rfl) ?_
              go_wp2
              go_meet
              case rel => exact ⟨_, _, _, rfl, lb_5, q1_5, q2_5, o1, o2, hB5⟩
            · go_wp2
              refine ⟨by exact ba hB2, fun u => ?_⟩
              have hU : Below w2.heap.size w2 u.1 := next (ba (Below.refl _ _)) u.2
              have lb_3 := (Lb.made w2 none none).next (by exact u.2)
              have oR : wr.heap.size ≤ w2.heap.size := hB2.size
              have pR : w2.heap.size < u.1.heap.size := lb_3.lt
              have hB3 := next hB2 hU
              have zz3 := hU.size
              have q1_3 := q1_2.below hU
              have q2_3 := q2_2.below hU
              generalize u.1 = w3 at *
              clear hB2 hU q1_2 q2_2
              refine up_list 6 (by kernel_rfl) rfl ?_
              go_wp2
              refine ⟨by exact hB3, fun u => ?_⟩
              have hU : Below w3.heap.size w3 u.1 := u.2
              have hB4 := next hB3 hU
              have zz4 := hU.size
              have q1_4 := q1_3.below hU
              have q2_4 := q2_3.below hU
              have lb_4 := lb_3.next hU
              generalize u.1 = w4 at *
              clear hB3 hU q1_3 q2_3 lb_3
              obtain ⟨l0, l1, lf, ll⟩ := id lb_4
              refine up_list 8 (by kernel_rfl) rfl ?_
              go_wp2
              refine ⟨(hB4.setCell (by simp only; omega) _).setCell (by simp only; omega) _, fun u => ?_⟩
              have kk := Lb.stored lb_4 (some ⟨w0.heap.size, 0, none⟩) (some ⟨w1.heap.size, 0, none⟩)
              have hU := u.2
              have lb_5 := kk.1.next hU
              have q1_5 := (q1_4.keep kk.2 (fun x hx e => by have : x = w0.heap.size := hx.resolve_right id; omega)).below hU
              have q2_5 := (q2_4.keep kk.2 (fun x hx e => by have : x = w1.heap.size := hx.resolve_right id; omega)).below hU
              have hB5 := next ((hB4.setCell (p := ⟨w2.heap.size, 0, none⟩) (by simp only; omega) (.pointer (some ⟨w0.heap.size, 0, none⟩))).setCell (p := ⟨w2.heap.size, 1, none⟩) (by simp only; omega) (.pointer (some ⟨w1.heap.size, 0, none⟩))) hU
              clear l0 l1 lf ll
              generalize u.1 = w5 at *
              refine up_done (by kernel_rfl) ?_
              go_wp2
              go_meet
              case rel => exact ⟨_, _, _, rfl, lb_5, q1_5, q2_5, o1, o2, hB5⟩
          · go_wp2
            refine ⟨by exact ba hB1, fun u => ?_⟩
            have hU : Below w1.heap.size w1 u.1 := next (ba (Below.refl _ _)) u.2
            have lb_2 := (Lb.made w1 none none).next (by exact u.2)
            have oR : wr.heap.size ≤ w1.heap.size := hB1.size
            have pR : w1.heap.size < u.1.heap.size := lb_2.lt
            have hB2 := next hB1 hU
            have zz2 := hU.size
            have q1_2 := q1_1.below hU
            generalize u.1 = w2 at *
            clear hB1 hU q1_1
            refine up_list 5 (by kernel_rfl) rfl ?_
            go_wp2_with (go_at_call 30; refine (new_any _ _).mono ?_; rintro e ww ⟨rfl, hb, hq⟩; rw [HI.out] at hq)
            refine ⟨by exact next hB2 hb, fun u => ?_⟩
            have hU : Below w2.heap.size w2 u.1 := next hb u.2
            have q2_3 := hq.below u.2
            have o2 : w0.heap.size < w2.heap.size := by omega
            have p2 : w2.heap.size < u.1.heap.size := (hq.below u.2).old _ (.inl rfl)
            have hB3 := next hB2 hU
            have zz3 := hU.size
            have q1_3 := q1_2.below hU
            have lb_3 := lb_2.next hU
            generalize u.1 = w3 at *
            clear hB2 hU hq hb q1_2 lb_2
            refine up_list 6 (by kernel_rfl) rfl ?_
            go_wp2
            refine ⟨by exact hB3, fun u => ?_⟩
            have hU : Below w3.heap.size w3 u.1 := u.2
            have hB4 := next hB3 hU
            have zz4 := hU.size
            have q1_4 := q1_3.below hU
            have q2_4 := q2_3.below hU
            have lb_4 := lb_3.next hU
            generalize u.1 = w4 at *
            clear hB3 hU q1_3 q2_3 lb_3
            obtain ⟨l0, l1, lf, ll⟩ := id lb_4
            refine up_list 8 (by kernel_rfl) rfl ?_
            go_wp2
            refine ⟨(hB4.setCell (by simp only; omega) _).setCell (by simp only; omega) _, fun u => ?_⟩
            have kk := Lb.stored lb_4 (some ⟨w0.heap.size, 0, none⟩) (some ⟨w2.heap.size, 0, none⟩)
            have hU := u.2
            have lb_5 := kk.1.next hU
            have q1_5 := (q1_4.keep kk.2 (fun x hx e => by have : x = w0.heap.size := hx.resolve_right id; omega)).below hU
            have q2_5 := (q2_4.keep kk.2 (fun x hx e => by have : x = w2.heap.size := hx.resolve_right id; omega)).below hU
            have hB5 := next ((hB4.setCell (p := ⟨w1.heap.size, 0, none⟩) (by simp only; omega) (.pointer (some ⟨w0.heap.size, 0, none⟩))).setCell (p := ⟨w1.heap.size, 1, none⟩) (by simp only; omega) (.pointer (some ⟨w2.heap.size, 0, none⟩))) hU
            clear l0 l1 lf ll
            generalize u.1 = w5 at *
            refine up_done (by kernel_rfl) ?_
            go_wp2
            go_meet
            case rel => exact ⟨_, _, _, rfl, lb_5, q1_5, q2_5, o1, o2, hB5⟩
        · go_wp2
          refine ⟨by exact ba hB0, fun u => ?_⟩
          have hU : Below w0.heap.size w0 u.1 := next (ba (Below.refl _ _)) u.2
          have lb_1 := (Lb.made w0 none none).next (by exact u.2)
          have oR : wr.heap.size ≤ w0.heap.size := hB0.size
          have pR : w0.heap.size < u.1.heap.size := lb_1.lt
          have hB1 := next hB0 hU
          have zz1 := hU.size
          generalize u.1 = w1 at *
          clear hB0 hU
          refine up_list 2 (by kernel_rfl) rfl ?_
          go_wp2_with (go_at_call 29; refine (P.new_any _ _).mono ?_; rintro e ww ⟨rfl, hb, hq⟩; rw [HO.out] at hq)
          refine ⟨by exact next hB1 hb, fun u => ?_⟩
          have hU : Below w1.heap.size w1 u.1 := next hb u.2
          have q1_2 := hq.below u.2
          have o1 : wr.heap.size ≤ w1.heap.size := hB1.size
          have p1 : w1.heap.size < u.1.heap.size := (hq.below u.2).old _ (.inl rfl)
          have hB2 := next hB1 hU
          have zz2 := hU.size
          have lb_2 := lb_1.next hU
          generalize u.1 = w2 at *
          clear hB1 hU hq hb lb_1
          refine up_list 5 (by kernel_rfl) rfl ?_
          go_wp2_with (go_at_call 30; refine (new_any _ _).mono ?_; rintro e ww ⟨rfl, hb, hq⟩; rw [HI.out] at hq)
          refine ⟨by exact next hB2 hb, fun u => ?_⟩
          have hU : Below w2.heap.size w2 u.1 := next hb u.2
          have q2_3 := hq.below u.2
          have o2 : w1.heap.size < w2.heap.size := by omega
          have p2 : w2.heap.size < u.1.heap.size := (hq.below u.2).old _ (.inl rfl)
          have hB3 := next hB2 hU
          have zz3 := hU.size
          have q1_3 := q1_2.below hU
          have lb_3 := lb_2.next hU
          generalize u.1 = w3 at *
          clear hB2 hU hq hb q1_2 lb_2
          refine up_list 6 (by kernel_rfl) rfl ?_
          go_wp2
          refine ⟨by exact hB3, fun u => ?_⟩
          have hU : Below w3.heap.size w3 u.1 := u.2
          have hB4 := next hB3 hU
          have zz4 := hU.size
          have q1_4 := q1_3.below hU
          have q2_4 := q2_3.below hU
          have lb_4 := lb_3.next hU
          generalize u.1 = w4 at *
          clear hB3 hU q1_3 q2_3 lb_3
          obtain ⟨l0, l1, lf, ll⟩ := id lb_4
          refine up_list 8 (by kernel_rfl) rfl ?_
          go_wp2
          refine ⟨(hB4.setCell (by simp only; omega) _).setCell (by simp only; omega) _, fun u => ?_⟩
          have kk := Lb.stored lb_4 (some ⟨w1.heap.size, 0, none⟩) (some ⟨w2.heap.size, 0, none⟩)
          have hU := u.2
          have lb_5 := kk.1.next hU
          have q1_5 := (q1_4.keep kk.2 (fun x hx e => by have : x = w1.heap.size := hx.resolve_right id; omega)).below hU
          have q2_5 := (q2_4.keep kk.2 (fun x hx e => by have : x = w2.heap.size := hx.resolve_right id; omega)).below hU
          have hB5 := next ((hB4.setCell (p := ⟨w0.heap.size, 0, none⟩) (by simp only; omega) (.pointer (some ⟨w1.heap.size, 0, none⟩))).setCell (p := ⟨w0.heap.size, 1, none⟩) (by simp only; omega) (.pointer (some ⟨w2.heap.size, 0, none⟩))) hU
          clear l0 l1 lf ll
          generalize u.1 = w5 at *
          refine up_done (by kernel_rfl) ?_
          go_wp2
          go_meet
          case rel => exact ⟨_, _, _, rfl, lb_5, q1_5, q2_5, o1, o2, hB5⟩
      case rest =>
        obtain ⟨g1, g2, gR, rfl, hlb, q1, q2, o1, o2, hb1⟩ := hcut
        have zx := hb1.size
        have d5 : wc.cell? ⟨w.heap.size, 5, none⟩ = some (.int .i64 (O : Int)) := ((bcell hb1).1 _ 5 lc).trans c5
        have d6 : wc.cell? ⟨w.heap.size, 6, none⟩ = some (.int .i64 (I : Int)) := ((bcell hb1).1 _ 6 lc).trans c6
        have lcx : w.heap.size < wc.heap.size := by omega
        go_upto_region 6 with (first
          | (go_at_call 29; refine (P.new_any _ _).mono ?_; rintro e w2 ⟨rfl, hb2, hq3⟩; rw [HO.out] at hq3)
          | (go_at_call 30; refine (new_any _ _).mono ?_; rintro e w3 ⟨rfl, hb3, hq4⟩; rw [H1.out] at hq4))
        obtain ⟨g3, hg3⟩ : ∃ g, wc.heap.size = g := ⟨_, rfl⟩
        obtain ⟨g4, hg4⟩ : ∃ g, w2.heap.size = g := ⟨_, rfl⟩
        have o3 : g2 < g3 := by have := q2.old g2 (.inl rfl); omega
        have o4 : g3 < g4 := by have := hq3.old _ (.inl rfl); omega
        have lbA := Lb.made w3 (some ⟨wc.heap.size, 0, none⟩) (some ⟨w2.heap.size, 0, none⟩)
        have hup := ba (o := .cells #[.pointer (some ⟨wc.heap.size, 0, none⟩), .pointer (some ⟨w2.heap.size, 0, none⟩)] 71) (next hb2 hb3)
        have lbR := hlb.next hup
        have Q1 := q1.below hup
        have Q2 := q2.below hup
        have Q3 := hq3.below (ba (o := .cells #[.pointer (some ⟨wc.heap.size, 0, none⟩), .pointer (some ⟨w2.heap.size, 0, none⟩)] 71) hb3)
        have Q4 := hq4.below (ba (o := .cells #[.pointer (some ⟨wc.heap.size, 0, none⟩), .pointer (some ⟨w2.heap.size, 0, none⟩)] 71) (Below.refl _ _))
        have hB := next hb1 hup
        clear hup hb1 hb2 hb3 hq3 hq4 q1 q2 hlb d5 d6 lcx zx
        rw [hg3, hg4] at *
        generalize w3.alloc (.cells #[.pointer (some ⟨g3, 0, none⟩), .pointer (some ⟨g4, 0, none⟩)] 71) = W4 at *
        generalize w3.heap.size = gA at *
        refine wp_region_orders 12 rfl (by kernel_rfl) ?_
        have hdr : Below W4.heap.size W4 W4.drew := (Below.refl _ _).drew
        replace lbA := lbA.next hdr
        replace lbR := lbR.next hdr
        replace Q1 := Q1.below hdr
        replace Q2 := Q2.below hdr
        replace Q3 := Q3.below hdr
        replace Q4 := Q4.below hdr
        replace hB := next hB hdr
        clear hdr
        generalize W4.drew = wd at *
        obtain ⟨lA0, lA1, lAf, lAl⟩ := id lbA
        obtain ⟨lR0, lR1, lRf, lRl⟩ := id lbR
        have lgf : w.heap.size + 1 < wr.heap.size := by omega
        have fcd : wd.cell? ⟨w.heap.size + 1, 0, none⟩ = some (.slice a (2 * j) cap) := ((bcell hB).1 _ 0 lgf).trans hN.fc
        have lgd : w.heap.size + 1 < wd.heap.size := by have := hB.size; omega
        have uc := @Up.cell2
        have uf := @Up.frozen2
        refine any_take 0 (.pointer (some ⟨w.heap.size + 1, 0, none⟩)) rfl (by kernel_rfl) (by kernel_rfl) (by kernel_rfl) (fun _ _ _ h => h) (by kernel_rfl) (fun w => by go_simp) ?_
        simp only [Act.put, List.setIfInBounds_toArray, List.set_cons_zero, List.set_cons_succ]
        refine any_take 1 (.pointer (some ⟨w.heap.size + 1, 0, none⟩)) rfl (by kernel_rfl) (by kernel_rfl) (by kernel_rfl) (fun _ _ _ h => h) (by kernel_rfl) (fun w => by go_simp) ?_
        simp only [Act.put, List.setIfInBounds_toArray, List.set_cons_zero, List.set_cons_succ]
        refine any_take 2 (.pointer (some ⟨w.heap.size + 1, 0, none⟩)) rfl (by kernel_rfl) (by kernel_rfl) (by kernel_rfl) (fun _ _ _ h => h) (by kernel_rfl) (fun w => by go_simp) ?_
        simp only [Act.put, List.setIfInBounds_toArray, List.set_cons_zero, List.set_cons_succ]
        refine any_take 3 (.pointer (some ⟨w.heap.size + 1, 0, none⟩)) rfl (by kernel_rfl) (by kernel_rfl) (by kernel_rfl) (fun _ _ _ h => h) (by kernel_rfl) (fun w => by go_simp) ?_
        simp only [Act.put, List.setIfInBounds_toArray, List.set_cons_zero, List.set_cons_succ]
        refine any_mildx [8, 9, 10, 11] ?_
        refine mildy_take (v := ?v1) [8, 9, 10, 11] 4 rfl (by kernel_rfl) (by kernel_rfl) (by kernel_rfl) (by kernel_rfl) (by kernel_rfl) (fun _ _ _ h => h) (by kernel_rfl) (fun Wu K hK => ?hy1) ?go1
        case hy1 =>
          go_big_quiet_op
          simp only [Act.put, List.setIfInBounds_toArray, List.set_cons_zero, List.set_cons_succ] at hK
          exact hK
        simp only [Act.put, List.setIfInBounds_toArray, List.set_cons_zero, List.set_cons_succ]
        refine mildy_take (v := ?v2) [7, 8, 9, 10, 11] 5 rfl (by kernel_rfl) (by kernel_rfl) (by kernel_rfl) (by kernel_rfl) (by kernel_rfl) (fun _ _ _ h => h) (by kernel_rfl) (fun Wu K hK => ?hy2) ?go2
        case hy2 =>
          go_big_quiet_op
          simp only [Act.put, List.setIfInBounds_toArray, List.set_cons_zero, List.set_cons_succ] at hK
          exact hK
        simp only [Act.put, List.setIfInBounds_toArray, List.set_cons_zero, List.set_cons_succ]
        refine mildy_take (v := ?v3) [7, 8, 9, 10, 11] 6 rfl (by kernel_rfl) (by kernel_rfl) (by kernel_rfl) (by kernel_rfl) (by kernel_rfl) (fun _ _ _ h => h) (by kernel_rfl) (fun Wu K hK => ?hy3) ?go3
        case hy3 =>
          go_big_quiet_op
          simp only [Act.put, List.setIfInBounds_toArray, List.set_cons_zero, List.set_cons_succ] at hK
          exact hK
        simp only [Act.put, List.setIfInBounds_toArray, List.set_cons_zero, List.set_cons_succ]
        intro W
        clear uc uf
        have hW := W.2
        clear lA0 lA1 lAf lAl lR0 lR1 lRf lRl fcd lgd lbA lbR
        generalize W.1 = wa at *
        refine upx_list 7 (by kernel_rfl) rfl ?_
        go_wp2
        refine ⟨ba hW, fun u => ?_⟩
        have hU := u.2
        have hU4 : Below wr.heap.size wr u.1 := next (next hB hW) (next (ba (Below.refl _ _)) hU)
        have hU3 : Below wd.heap.size wd u.1 := next hW (next (ba (Below.refl _ _)) hU)
        have news : ∀ i v, ([.pointer (some ⟨g1, 0, none⟩), .pointer (some ⟨g2, 0, none⟩), .pointer (some ⟨g3, 0, none⟩), .pointer (some ⟨g4, 0, none⟩)] : List Value)[i]? = some v → u.1.cell? ((⟨wa.heap.size, 0, none⟩ : Addr).add i) = some v := by
          intro i v hv
          rw [Addr.add_lit, Nat.zero_add]
          have hi : i < 4 := (List.getElem?_eq_some_iff.1 hv).1
          rw [hU.cell (p := ⟨wa.heap.size, i, none⟩) (by simp)]
          match i, hi with
          | 0, _ => rw [← hv]; simp
          | 1, _ => rw [← hv]; simp
          | 2, _ => rw [← hv]; simp
          | 3, _ => rw [← hv]; simp
        replace Q1 := Q1.below hU3
        replace Q2 := Q2.below hU3
        replace Q3 := Q3.below hU3
        replace Q4 := Q4.below hU3
        have fc4 : u.1.cell? ⟨w.heap.size + 1, 0, none⟩ = some (.slice a (2 * j) cap) := ((bcell hU4).1 _ 0 lgf).trans hN.fc
        have fz4 : u.1.frozen? ⟨w.heap.size + 1, 0, none⟩ = false := ((bcell hU4).2 _ 0 lgf).trans hN.fz
        have e5 : u.1.cell? ⟨w.heap.size, 5, none⟩ = some (.int .i64 (O : Int)) := ((bcell hU4).1 _ 5 lc).trans c5
        have e6 : u.1.cell? ⟨w.heap.size, 6, none⟩ = some (.int .i64 (I : Int)) := ((bcell hU4).1 _ 6 lc).trans c6
        have lgu : w.heap.size + 1 < u.1.heap.size := by have := hU4.size; omega
        clear hU hU3 hW
        generalize u.1 = w4 at *
        generalize wa.heap.size = bs at *
        obtain ⟨i0, hi, hp0, hp1, hp2⟩ := info_parts Try.infoLane
        refine upx_write 8 (by kernel_rfl) (by kernel_rfl) rfl ?_
        refine wpList_append_rw w4 SL (by kernel_rfl) (.tmp 28) (.tmp 31) 63 rfl 71 i0 (.agg #[.pointer none, .pointer none]) 2 16 Try.underlying63 hi hp0 hp1 hp2 rfl (by decide) a (2 * j) cap (lanesV G (2 * j)) rfl (hN.row.below hU4) ⟨bs, 0, none⟩ 2 2 [.pointer (some ⟨g1, 0, none⟩), .pointer (some ⟨g2, 0, none⟩), .pointer (some ⟨g3, 0, none⟩), .pointer (some ⟨g4, 0, none⟩)] rfl (by omega) rfl news (by simp only [List.mem_cons, List.not_mem_nil, or_false, forall_eq_or_imp, forall_eq]; exact ⟨rfl, rfl, rfl, rfl⟩) (by unfold maxLen; omega) (by omega) ?_
        intro a5 c5' w5 hrw5 hk5
        refine then_n ?_
        simp only [Act.put, List.setIfInBounds_toArray, List.set_cons_zero, List.set_cons_succ]
        have ns : ∀ b, b < w.heap.size + 2 → ¬ SL b := fun b hb hs => by have := hN.slo b hs; omega
        refine any_take 9 (.pointer (some ⟨w.heap.size + 1, 0, none⟩)) rfl (by kernel_rfl) (by kernel_rfl) (by kernel_rfl) (fun _ _ _ h => h) (by kernel_rfl) (fun w => by go_simp) ?_
        simp only [Act.put, List.setIfInBounds_toArray, List.set_cons_zero, List.set_cons_succ]
        refine any_take 10 (.pointer (some ⟨w.heap.size + 1, 0, none⟩)) rfl (by kernel_rfl) (by kernel_rfl) (by kernel_rfl) (fun _ _ _ h => h) (by kernel_rfl) (fun w => by go_simp) ?_
        simp only [Act.put, List.setIfInBounds_toArray, List.set_cons_zero, List.set_cons_succ]
        have f5 : w5.cell? ⟨w.heap.size + 1, 0, none⟩ = some (.slice a (2 * j) cap) := (hk5.cell 0 lgu (ns _ (by omega))).trans fc4
        have fz5 : w5.frozen? ⟨w.heap.size + 1, 0, none⟩ = false := (hk5.frozen 0 lgu (ns _ (by omega))).trans fz4
        have k5 : w5.cell? ⟨w.heap.size, 5, none⟩ = some (.int .i64 (O : Int)) := (hk5.cell 5 (by omega) (ns _ (by omega))).trans e5
        have k6 : w5.cell? ⟨w.heap.size, 6, none⟩ = some (.int .i64 (I : Int)) := (hk5.cell 6 (by omega) (ns _ (by omega))).trans e6
        refine any_list 11 (by kernel_rfl) rfl ?_
        go_wp2
        refine then_n ?_
        refine any_done (by kernel_rfl) ?_
        obtain ⟨G', M', D', hN'⟩ := hN.grow (by exact hU4) Q1 Q2 Q3 Q4 o1 o2 o3 o4 hrw5 hk5
        have hbw5 : Below w.heap.size w w5 := (next hbw hU4).trans (hk5.below (fun k hs => by have := hN.slo k hs; omega) (by omega))
        clear hN
        go_wp2
        go_roundw
        case rel => exact ⟨j + 1, G', M', D', _, _, _, by omega, by go_num, hN', by rw [World.cell?_setCell_other _ _ _ _ (by simp)]; exact k5, by rw [World.cell?_setCell_other _ _ _ _ (by simp)]; exact k6, hbw5.setCell (by simp only; omega) _⟩
        case measure => simp [intOf]; omega
    · obtain rfl : j = N := by omega
      obtain ⟨m0, m1, m2, m3, m4, m5⟩ := HC.out
      obtain ⟨B, hF, hB⟩ := hN.done m0 m1 m2 m3 m4 m5
      clear m0 m1 m2 m3 m4 m5 c5 c6 hN
      go_wp2
      go_ret
      exact ⟨_, B, rfl, hbw, hF, hB⟩
end Go.Proofs.Ytjdbjmfkheffdaa
end
section
namespace Go.Proofs.Ytjdbjmfkheffdaa
open Go.RowKit
set_option linter.unusedVariables false
set_option maxRecDepth 20000

/-- A network, made since w; its memory is none of X. -/
def On (w V : World) (gf nn : Nat) (out inn : Int) (F : Nat → List Pk) (X : Nat → Prop) : Prop := ∃ B, Fb V gf nn out inn F B ∧ (∀ k, B k → w.heap.size ≤ k ∧ ¬ X k) ∧ Below w.heap.size w V ∧ (∀ k, X k → k < V.heap.size)
section
variable {w V V' : World} {gf nn : Nat} {out inn : Int} {F F' : Nat → List Pk} {X X' R : Nat → Prop}
theorem On.turn (h : On w V gf nn out inn F X) (hk : Keep R V V') (hR : ∀ k, R k → X k ∨ V.heap.size ≤ k) (hw : ∀ k, R k → w.heap.size ≤ k) (hX : ∀ k, X' k → X k ∨ V.heap.size ≤ k) (hl : ∀ k, X' k → k < V'.heap.size) : On w V' gf nn out inn F X' := by
  obtain ⟨B, hf, hB, hb, hx⟩ := h
  have hold : ∀ k, B k → k < V.heap.size := by obtain ⟨_, _, _, _, _, _, h⟩ := hf; exact h.old
  have nx : ∀ k, B k → ¬ X k ∧ ¬ V.heap.size ≤ k := fun k hk => ⟨(hB k hk).2, by have := hold k hk; omega⟩
  refine ⟨B, hf.keep hk (fun k hk hr => ?_), fun k hk => ⟨(hB k hk).1, fun hx' => ?_⟩, hk.after hb hw, hl⟩
  · exact (hR k hr).elim (nx k hk).1 (nx k hk).2
  · exact (hX k hx').elim (nx k hk).1 (nx k hk).2
theorem On.below (h : On w V gf nn out inn F X) (hb : Below V.heap.size V V') : On w V' gf nn out inn F X :=
  h.turn (R := fun _ => False) (Keep.of_below hb) (fun _ h => h.elim) (fun _ h => h.elim) (fun _ h => .inl h) (fun k hk => by obtain ⟨_, _, _, _, hx⟩ := h; exact Nat.lt_of_lt_of_le (hx k hk) hb.size)
theorem On.more (h : On w V gf nn out inn F X) (hb : Below V.heap.size V V') (hX : ∀ k, X' k → X k ∨ (V.heap.size ≤ k ∧ k < V'.heap.size)) : On w V' gf nn out inn F X' :=
  h.turn (R := fun _ => False) (Keep.of_below hb) (fun _ h => h.elim) (fun _ h => h.elim) (fun k h => (hX k h).imp id (fun h => h.1)) (fun k hk => by
    obtain ⟨_, _, _, _, hx⟩ := h
    rcases hX k hk with h | h
    · exact Nat.lt_of_lt_of_le (hx k h) hb.size
    · exact h.2)
theorem On.bel (h : On w V gf nn out inn F X) : Below w.heap.size w V := by obtain ⟨_, _, _, hb, _⟩ := h; exact hb
theorem On.xlt (h : On w V gf nn out inn F X) : ∀ k, X k → k < V.heap.size := by obtain ⟨_, _, _, _, hx⟩ := h; exact hx
/-- Behind a call. -/
theorem On.step (h : On w V gf nn out inn F X) {P : Program} {f : FuncId} {args : Array Value} {C : Ending → World → Prop} (hc : ∀ B, Fb V gf nn out inn F B → Calls P f args V fun e w' => C e w' ∧ FThen V w' gf nn out inn F' B) :
    Calls P f args V fun e w' => C e w' ∧ On w w' gf nn out inn F' X ∧ Keep (fun k => ¬ X k) V w' := by
  obtain ⟨B, hf, hB, hb, hx⟩ := h
  refine (hc B hf).mono ?_
  rintro e w' ⟨hc, hk, B', hf', hB'⟩
  refine ⟨hc, ⟨B', hf', fun k hk' => ?_, hk.after hb (fun k hk => (hB k hk).1), fun k hk' => Nat.lt_of_lt_of_le (hx k hk') hk.size⟩, hk.mono (fun k _ hk => (hB k hk).2)⟩
  rcases hB' k hk' with h | h
  · exact hB k h
  · exact ⟨Nat.le_trans hb.size h, fun hx' => by have := hx k hx'; omega⟩
theorem send_on (h : On w V gf nn out inn F X) {e : Int} (x : Pk) (a : Option Addr) (n cap : Nat) (hsl : Sl V a n cap x.z) (hz : R64 x.z) (hs : SendTo nn out F x e F') :
    Calls Try.prog 12 #[.pointer (some ⟨gf, 0, none⟩), x.val (.slice a n cap)] V fun en w' => en = .returned (.int .i64 e) ∧ On w w' gf nn out inn F' X ∧ Keep (fun k => ¬ X k) V w' :=
  h.step fun B hf => send_any V hf x a n cap hsl hz hs
theorem send_on_no (h : On w V gf nn out inn F X) (x : Pk) (a : Option Addr) (n cap : Nat) (hsl : Sl V a n cap x.z) (hr : x.right = false) :
    Calls Try.prog 12 #[.pointer (some ⟨gf, 0, none⟩), x.val (.slice a n cap)] V fun en w' => en = .returned (.int .i64 1) ∧ Below V.heap.size V w' := by
  obtain ⟨B, hf, _⟩ := h
  exact send_err V hf x a n cap hsl hr
theorem send_on_far (h : On w V gf nn out inn F X) (x : Pk) (a : Option Addr) (n cap : Nat) (hsl : Sl V a n cap x.z) (hr : x.right = true) (hf : (nn : Int) ≤ x.f ∨ (nn : Int) ≤ x.t) :
    Calls Try.prog 12 #[.pointer (some ⟨gf, 0, none⟩), x.val (.slice a n cap)] V fun en w' => en = .returned (.int .i64 1) ∧ Below V.heap.size V w' := by
  obtain ⟨B, hf', _⟩ := h
  exact send_far V hf' x a n cap hsl hr hf
theorem deliver_on (h : On w V gf nn out inn F X) {e : Int} (a bit mask : Int) (h63 : a < 9223372036854775808) (hm0 : 0 ≤ mask) (hm1 : mask < 65536) (hd : DelTo nn out inn F a bit mask e F') :
    Calls Try.prog 13 #[.pointer (some ⟨gf, 0, none⟩), .int .i64 a, .int .i64 bit, .int .u16 mask] V fun en w' => en = .returned (.int .i64 e) ∧ On w w' gf nn out inn F' X ∧ Keep (fun k => ¬ X k) V w' :=
  h.step fun B hf => deliver_any V hf a bit mask h63 hm0 hm1 hd
/-- What Request and Reply tell. -/
def TkO (V : World) (X : Nat → Prop) (o : Option Pk) (e : Ending) (w' : World) : Prop := ∃ a n c, e = .returned (.tuple #[(o.getD zeroPk).val (.slice a n c), .bool o.isSome]) ∧ Sl w' a n c (o.getD zeroPk).z ∧ ((o.getD zeroPk).z ≠ [] → ∀ y : Addr, a = some y → ¬ X y.block) ∧ (o.isSome = false → Below V.heap.size V w')
theorem tk_on (h : On w V gf nn out inn F X) {o : Option Pk} {P : Program} {f : FuncId} {args : Array Value} (hc : ∀ B, Fb V gf nn out inn F B → Calls P f args V fun e w' => Tk V gf nn out inn F' B o e w') :
    Calls P f args V fun e w' => TkO V X o e w' ∧ On w w' gf nn out inn F' X ∧ Keep (fun k => ¬ X k) V w' := by
  obtain ⟨B, hf, hB, hb, hx⟩ := h
  refine (hc B hf).mono ?_
  rintro e w' ⟨d, rfl, hd, ⟨hk, B', hf', hB'⟩, hno⟩
  obtain ⟨a, n, c, rfl, hs, _, hD⟩ := hd
  refine ⟨⟨a, n, c, rfl, hs, fun hz y hy => (hB _ (hD hz y hy)).2, hno⟩, ⟨B', hf', fun k hk' => ?_, hk.after hb (fun k hk => (hB k hk).1), fun k hk' => Nat.lt_of_lt_of_le (hx k hk') hk.size⟩, hk.mono (fun k _ hk => (hB k hk).2)⟩
  rcases hB' k hk' with h | h
  · exact hB k h
  · exact ⟨Nat.le_trans hb.size h, fun hx' => by have := hx k hx'; omega⟩
theorem request_on (h : On w V gf nn out inn F X) {o : Option Pk} (i : Int) (ht : TakeTo nn F i true o F') :
    Calls Try.prog 16 #[.pointer (some ⟨gf, 0, none⟩), .int .i64 i] V fun e w' => TkO V X o e w' ∧ On w w' gf nn out inn F' X ∧ Keep (fun k => ¬ X k) V w' :=
  tk_on h fun B hf => frequest_any V hf i ht
theorem reply_on (h : On w V gf nn out inn F X) {o : Option Pk} (i : Int) (ht : TakeTo nn F i false o F') :
    Calls Try.prog 17 #[.pointer (some ⟨gf, 0, none⟩), .int .i64 i] V fun e w' => TkO V X o e w' ∧ On w w' gf nn out inn F' X ∧ Keep (fun k => ¬ X k) V w' :=
  tk_on h fun B hf => freply_any V hf i ht
theorem under_on (h : On w V gf nn out inn F X) (n : Int) (hn : ((laneL F (2 * nn)).length : Int) = n) :
    Calls Try.prog 14 #[.pointer (some ⟨gf, 0, none⟩)] V fun e w' => e = .returned (.int .i64 n) ∧ Below V.heap.size V w' := by
  obtain ⟨B, hf, _⟩ := h
  exact under_any V hf n hn
theorem waiting_on (h : On w V gf nn out inn F X) (i : Nat) (hi : i < nn) (x : Int) (hx : x = (i : Int)) (n m : Int) (hn : ((F (pr (2 * i) + 2)).length : Int) = n) (hm : ((F (pr (2 * i + 1) + 2)).length : Int) = m) :
    Calls Try.prog 15 #[.pointer (some ⟨gf, 0, none⟩), .int .i64 x] V fun e w' => e = .returned (.tuple #[.int .i64 n, .int .i64 m]) ∧ Below V.heap.size V w' := by
  obtain ⟨B, hf, _⟩ := h
  exact waiting_yes V hf i hi x hx n m hn hm
theorem room_on (h : On w V gf nn out inn F X) (i : Nat) (hi : i < nn) (x : Int) (hx : x = (i : Int)) (b : Bool) (n : Int) (hn : out - ((F (pr (2 * i + laneS b))).length : Int) = n) :
    Calls Try.prog 20 #[.pointer (some ⟨gf, 0, none⟩), .int .i64 x, .bool b] V fun e w' => e = .returned (.int .i64 n) ∧ Below V.heap.size V w' := by
  obtain ⟨B, hf, _⟩ := h
  cases b
  · exact room_ans V hf i hi x hx n hn
  · exact room_req V hf i hi x hx n hn
theorem packet_on (h : On w V gf nn out inn F X) {q k : Nat} {x : Pk} (hq : q < 2 * nn) (hx : (F (pr q))[k]? = some x) (a : Int) (ha : a = ((laneL F q).length : Int) + k) :
    Calls Try.prog 27 #[.pointer (some ⟨gf, 0, none⟩), .int .i64 a] V fun e w' => ∃ d, e = .returned (.tuple #[x.val d, .bool true]) ∧ Below V.heap.size V w' ∧ Own w' V.heap.size d x.z := by
  obtain ⟨B, hf, _⟩ := h
  exact packet_yes V hf hq hx a ha
theorem new_on (hb : Below w.heap.size w V) (hX : ∀ k, X k → k < V.heap.size) (N L K S Y O I : Nat) (t : Value) (ht : t.oneCell' = true) (n0 : 1 ≤ N) (n1 : N ≤ 6) (o0 : 1 ≤ O) (o1 : O ≤ 1000) (i0 : 1 ≤ I) (i1 : I ≤ 1000) :
    Calls Try.prog 9 #[.agg #[.int .i64 (N : Int), .int .i64 (L : Int), .int .i64 (K : Int), .int .i64 (S : Int), .int .i64 (Y : Int), .int .i64 (O : Int), .int .i64 (I : Int), t]] V fun e w' => ∃ gf, e = .returned (.pointer (some ⟨gf, 0, none⟩)) ∧ On w w' gf N O I (fun _ => []) X ∧ Below V.heap.size V w' := by
  refine (fnew_any V N L K S Y O I t ht n0 n1 o0 o1 i0 i1).mono ?_
  rintro e w' ⟨gf, B, rfl, hb', hf, hB⟩
  exact ⟨gf, rfl, ⟨B, hf, fun k hk => ⟨Nat.le_trans hb.size (hB k hk), fun hx => by have := hX k hx; have := hB k hk; omega⟩, next hb hb', fun k hk => Nat.lt_of_lt_of_le (hX k hk) hb'.size⟩, hb'⟩
end
end Go.Proofs.Ytjdbjmfkheffdaa
end
section
namespace Go.Proofs.Ytjdbjmfkheffdaa
open Go.RowKit
set_option linter.unusedVariables false
set_option maxRecDepth 20000

theorem sameP_f {x y : Pk} (h : (x.k != y.k) = true ∨ (x.f != y.f) = true ∨ (x.t != y.t) = true ∨ (x.i != y.i) = true ∨ (x.l != y.l) = true ∨ (x.p != y.p) = true ∨ (x.s != y.s) = true ∨ (x.fl != y.fl) = true ∨ ¬ x.z.length = y.z.length) : sameP x y = false :=
  decide_eq_false (fun ⟨h1, h2, h3, h4, h5, h6, h7, h8, h9⟩ => by simp [h1, h2, h3, h4, h5, h6, h7, h8, h9] at h)
theorem sameP_z {x y : Pk} (h1 : (x.k != y.k) = false) (h2 : (x.f != y.f) = false) (h3 : (x.t != y.t) = false) (h4 : (x.i != y.i) = false) (h5 : (x.l != y.l) = false) (h6 : (x.p != y.p) = false) (h7 : (x.s != y.s) = false) (h8 : (x.fl != y.fl) = false) : sameP x y = decide (x.z = y.z) := by
  simp only [bne_eq_false_iff_eq] at h1 h2 h3 h4 h5 h6 h7 h8
  unfold sameP; simp [h1, h2, h3, h4, h5, h6, h7, h8]

set_option maxHeartbeats 8000000 in
theorem refSame_any (x y : Pk) (a b : Option Addr) (n m c d : Nat) (w : World) (hx : Sl w a n c x.z) (hy : Sl w b m d y.z) :
    Calls Try.prog 18 #[x.val (.slice a n c), y.val (.slice b m d)] w fun e w' => e = .returned (.bool (sameP x y)) ∧ Below w.heap.size w w' := by
  have HL1 : Hid (x.z.length = n) := hx.len
  have HL2 : Hid (y.z.length = m) := hy.len
  have hmx := hx.max
  have hmy := hy.max
  have hlx := hx.le
  have hly := hy.le
  unfold maxLen at hmx hmy
  unfold Pk.val
  by_cases h0 : (x.k != y.k) = true
  · have HR : Hid (sameP x y = false) := sameP_f (.inl h0)
    clear hx hy
    skip
    go_enter Try.func18, Try.ntmps18
    go_wp2
    go_ret
    exact ⟨ret_bool HR.out.symm, ba (ba (Below.refl _ _))⟩
  replace h0 : (x.k != y.k) = false := by simpa using h0
  by_cases h1 : (x.f != y.f) = true
  · have HR : Hid (sameP x y = false) := sameP_f (.inr (.inl h1))
    clear hx hy
    skip
    go_enter Try.func18, Try.ntmps18
    go_wp2
    go_ret
    exact ⟨ret_bool HR.out.symm, ba (ba (Below.refl _ _))⟩
  replace h1 : (x.f != y.f) = false := by simpa using h1
  by_cases h2 : (x.t != y.t) = true
  · have HR : Hid (sameP x y = false) := sameP_f (.inr (.inr (.inl h2)))
    clear hx hy
    skip
    go_enter Try.func18, Try.ntmps18
    go_wp2
    go_ret
    exact ⟨ret_bool HR.out.symm, ba (ba (Below.refl _ _))⟩
  replace h2 : (x.t != y.t) = false := by simpa using h2
  by_cases h3 : (x.i != y.i) = true
  · have HR : Hid (sameP x y = false) := sameP_f (.inr (.inr (.inr (.inl h3))))
    clear hx hy
    skip
    go_enter Try.func18, Try.ntmps18
    go_wp2
    go_ret
    exact ⟨ret_bool HR.out.symm, ba (ba (Below.refl _ _))⟩
  replace h3 : (x.i != y.i) = false := by simpa using h3
  by_cases h4 : (x.l != y.l) = true
  · have HR : Hid (sameP x y = false) := sameP_f (.inr (.inr (.inr (.inr (.inl h4)))))
    clear hx hy
    skip
    go_enter Try.func18, Try.ntmps18
    go_wp2
    go_ret
    exact ⟨ret_bool HR.out.symm, ba (ba (Below.refl _ _))⟩
  replace h4 : (x.l != y.l) = false := by simpa using h4
  by_cases h5 : (x.p != y.p) = true
  · have HR : Hid (sameP x y = false) := sameP_f (.inr (.inr (.inr (.inr (.inr (.inl h5))))))
    clear hx hy
    skip
    go_enter Try.func18, Try.ntmps18
    go_wp2
    go_ret
    exact ⟨ret_bool HR.out.symm, ba (ba (Below.refl _ _))⟩
  replace h5 : (x.p != y.p) = false := by simpa using h5
  by_cases h6 : (x.s != y.s) = true
  · have HR : Hid (sameP x y = false) := sameP_f (.inr (.inr (.inr (.inr (.inr (.inr (.inl h6)))))))
    clear hx hy
    skip
    go_enter Try.func18, Try.ntmps18
    go_wp2
    go_ret
    exact ⟨ret_bool HR.out.symm, ba (ba (Below.refl _ _))⟩
  replace h6 : (x.s != y.s) = false := by simpa using h6
  by_cases h7 : (x.fl != y.fl) = true
  · have HR : Hid (sameP x y = false) := sameP_f (.inr (.inr (.inr (.inr (.inr (.inr (.inr (.inl h7))))))))
    clear hx hy
    have h7x : ¬ x.fl = y.fl := by revert h7; cases x.fl <;> cases y.fl <;> simp
    go_enter Try.func18, Try.ntmps18
    go_wp2
    go_ret
    exact ⟨ret_bool HR.out.symm, ba (ba (Below.refl _ _))⟩
  replace h7 : (x.fl != y.fl) = false := by simpa using h7
  have h7x : (x.fl == y.fl) = true := by revert h7; cases x.fl <;> cases y.fl <;> simp
  by_cases h8 : ((n : Int) != (m : Int)) = true
  · have HR : Hid (sameP x y = false) := sameP_f (.inr (.inr (.inr (.inr (.inr (.inr (.inr (.inr ((by have := HL1.out; have := HL2.out; simp at h8; omega))))))))))
    clear hx hy
    skip
    go_enter Try.func18, Try.ntmps18
    go_wp2
    go_ret
    exact ⟨ret_bool HR.out.symm, ba (ba (Below.refl _ _))⟩
  replace h8 : ((n : Int) != (m : Int)) = false := by simpa using h8
  have HR : Hid (sameP x y = decide (x.z = y.z)) := sameP_z h0 h1 h2 h3 h4 h5 h6 h7
  have HNM : Hid (n = m) := by show n = m; simp at h8; omega
  have hx2 := hx.below (ba (o := .cells #[.int .i64 y.k, .int .i64 y.f, .int .i64 y.t, .int .i64 y.i, .int .i64 y.l, .int .i64 y.p, .int .i64 y.s, .bool y.fl, .slice b m d] 26) (ba (o := .cells #[.int .i64 x.k, .int .i64 x.f, .int .i64 x.t, .int .i64 x.i, .int .i64 x.l, .int .i64 x.p, .int .i64 x.s, .bool x.fl, .slice a n c] 26) (Below.refl _ _)))
  have hy2 := hy.below (ba (o := .cells #[.int .i64 y.k, .int .i64 y.f, .int .i64 y.t, .int .i64 y.i, .int .i64 y.l, .int .i64 y.p, .int .i64 y.s, .bool y.fl, .slice b m d] 26) (ba (o := .cells #[.int .i64 x.k, .int .i64 x.f, .int .i64 x.t, .int .i64 x.i, .int .i64 x.l, .int .i64 x.p, .int .i64 x.s, .bool x.fl, .slice a n c] 26) (Below.refl _ _)))
  have bW := (ba (o := .cells #[.int .i64 y.k, .int .i64 y.f, .int .i64 y.t, .int .i64 y.i, .int .i64 y.l, .int .i64 y.p, .int .i64 y.s, .bool y.fl, .slice b m d] 26) (ba (o := .cells #[.int .i64 x.k, .int .i64 x.f, .int .i64 x.t, .int .i64 x.i, .int .i64 x.l, .int .i64 x.p, .int .i64 x.s, .bool x.fl, .slice a n c] 26) (Below.refl w.heap.size w)))
  have cp : ((w.alloc (.cells #[.int .i64 x.k, .int .i64 x.f, .int .i64 x.t, .int .i64 x.i, .int .i64 x.l, .int .i64 x.p, .int .i64 x.s, .bool x.fl, .slice a n c] 26)).alloc (.cells #[.int .i64 y.k, .int .i64 y.f, .int .i64 y.t, .int .i64 y.i, .int .i64 y.l, .int .i64 y.p, .int .i64 y.s, .bool y.fl, .slice b m d] 26)).cell? ⟨w.heap.size, 8, none⟩ = some (.slice a n c) := by simp
  have cq : ((w.alloc (.cells #[.int .i64 x.k, .int .i64 x.f, .int .i64 x.t, .int .i64 x.i, .int .i64 x.l, .int .i64 x.p, .int .i64 x.s, .bool x.fl, .slice a n c] 26)).alloc (.cells #[.int .i64 y.k, .int .i64 y.f, .int .i64 y.t, .int .i64 y.i, .int .i64 y.l, .int .i64 y.p, .int .i64 y.s, .bool y.fl, .slice b m d] 26)).cell? ⟨w.heap.size + 1, 8, none⟩ = some (.slice b m d) := by simp
  clear hx hy
  go_enter Try.func18, Try.ntmps18
  go_wp2
  generalize (w.alloc (.cells #[.int .i64 x.k, .int .i64 x.f, .int .i64 x.t, .int .i64 x.i, .int .i64 x.l, .int .i64 x.p, .int .i64 x.s, .bool x.fl, .slice a n c] 26)).alloc (.cells #[.int .i64 y.k, .int .i64 y.f, .int .i64 y.t, .int .i64 y.i, .int .i64 y.l, .int .i64 y.p, .int .i64 y.s, .bool y.fl, .slice b m d] 26) = W at *
  clear h0 h1 h2 h3 h4 h5 h6 h7 h8 h7x
  go_loopw [72] (fun i wr => ∃ k : Nat, k ≤ n ∧ i = .int .i64 k ∧ x.z.take k = y.z.take k ∧ ∃ j, wr = W.drewN j) (fun i _ => n - (intOf i).toNat)
  case atStart => exact ⟨0, by omega, rfl, rfl, 0, rfl⟩
  case round =>
    obtain ⟨k, hk, rfl, heq, j, rfl⟩ := hrel
    have HE : Hid (x.z.take k = y.z.take k) := heq
    clear heq
    by_cases hlt : k < n
    · have hlt2 : k < m := by have := HNM.out; omega
      obtain ⟨b1, o1, rfl, _, x1⟩ := hx2.at hlt
      obtain ⟨b2, o2, rfl, _, x2⟩ := hy2.at hlt2
      have g1 : k < x.z.length := by have := HL1.out; omega
      have g2 : k < y.z.length := by have := HL2.out; omega
      obtain ⟨e, he1⟩ : ∃ e, e = x.z[k]?.getD 0 := ⟨_, rfl⟩
      obtain ⟨f, hf1⟩ : ∃ f, f = y.z[k]?.getD 0 := ⟨_, rfl⟩
      rw [← he1] at x1
      rw [← hf1] at x2
      have HX : Hid (e = x.z[k]?.getD 0) := he1
      have HY : Hid (f = y.z[k]?.getD 0) := hf1
      clear he1 hf1
      by_cases hxy : e = f
      · have HXY : Hid (e = f) := hxy
        have hx' : (e != f) = false := by simp [hxy]
        clear hxy
        go_wp2_with fail
        go_quiet (fail)
        go_wp2
        go_roundw
        case rel => exact ⟨k + 1, by omega, by go_num, take_same HE.out (by rw [← HX.out, ← HY.out, HXY.out]) g1 g2, _, by first | rfl | exact World.drewN_drewN ..⟩
        case measure => simp [intOf]; omega
      · have HXY : Hid (¬ e = f) := hxy
        have hx' : (e != f) = true := by simpa using hxy
        clear hxy
        go_wp2_with fail
        go_quiet (fail)
        go_wp2
        go_ret
        exact ⟨ret_bool (by rw [HR.out]; exact (decide_eq_false (fun h => HXY.out (by rw [HX.out, HY.out, h]))).symm), by first | exact next bW (below_dn _ _) | exact next bW (next (below_dn _ _) (below_dn _ _))⟩
    · go_wp2
      go_ret
      refine ⟨ret_bool ?_, next bW (below_dn _ _)⟩
      have := HE.out
      rw [List.take_of_length_le (by have := HL1.out; omega), List.take_of_length_le (by have := HL2.out; have := HNM.out; omega)] at this
      rw [HR.out]
      exact (decide_eq_true this).symm
end Go.Proofs.Ytjdbjmfkheffdaa
end
section
namespace Go.Proofs.Ytjdbjmfkheffdaa
open Go.RowKit
set_option linter.unusedVariables false
set_option maxRecDepth 20000

section
variable {w V : World} {gf gr gs N O I cap : Nat} {F : Nat → List Pk} {M : Nat → Nat → Prop} {D X : Nat → Prop} {out inn : Int}
theorem waiting_on_no (h : On w V gf N out inn F X) (i : Int) (hi : i < 0 ∨ (N : Int) ≤ i) :
    Calls Try.prog 15 #[.pointer (some ⟨gf, 0, none⟩), .int .i64 i] V fun e w' => e = .returned (.tuple #[.int .i64 0, .int .i64 0]) ∧ Below V.heap.size V w' := by
  obtain ⟨B, hf, _⟩ := h
  exact waiting_no V hf i hi
theorem room_on_no (h : On w V gf N out inn F X) (i : Int) (b : Bool) (hi : i < 0 ∨ (N : Int) ≤ i) :
    Calls Try.prog 20 #[.pointer (some ⟨gf, 0, none⟩), .int .i64 i, .bool b] V fun e w' => e = .returned (.int .i64 0) ∧ Below V.heap.size V w' := by
  obtain ⟨B, hf, _⟩ := h
  exact room_no V hf i b hi
theorem packet_on_no (h : On w V gf N out inn F X) (a : Int) (ha : a < 0 ∨ ((laneL F (2 * N)).length : Int) ≤ a) (h63 : a < 9223372036854775808) :
    Calls Try.prog 27 #[.pointer (some ⟨gf, 0, none⟩), .int .i64 a] V fun e w' => e = .returned (.tuple #[zeroPk.val (.slice none 0 0), .bool false]) ∧ Below V.heap.size V w' := by
  obtain ⟨B, hf, _⟩ := h
  exact packet_no V hf a ha h63
theorem same_self (x : Pk) (a b : Option Addr) (n m c d : Nat) (w : World) (h1 : Sl w a n c x.z) (h2 : Sl w b m d x.z) :
    Calls Try.prog 18 #[x.val (.slice a n c), x.val (.slice b m d)] w fun e w' => e = .returned (.bool true) ∧ Below w.heap.size w w' := by
  refine (refSame_any x x a b n m c d w h1 h2).mono ?_
  rintro e w' ⟨rfl, hb⟩
  rw [sameP_self]
  exact ⟨rfl, hb⟩
end
section
variable (w V : World) {gf gr gs N O I cap : Nat} {F : Nat → List Pk} {M : Nat → Nat → Prop} {D X : Nat → Prop}
set_option maxHeartbeats 1600000 in
theorem lawSame_any (hO : On w V gf N O I F X) (h : DF V gr gs N O I cap F M D) (hDl : ∀ k, D k → k < V.heap.size) :
    Calls Try.prog 26 #[.pointer (some ⟨gf, 0, none⟩), .pointer (some ⟨gr, 0, none⟩)] V fun e w' => e = .returned (.bool true) ∧ Below V.heap.size V w' := by
  have hLL := lane_len h.rm (m := 2 * N) (by omega)
  have n1 := h.n1
  obtain ⟨L, hL⟩ : ∃ L, laneL F (2 * N) = L := ⟨_, rfl⟩
  obtain ⟨T, hT⟩ : ∃ T, L.length = T := ⟨_, rfl⟩
  have HL : Hid (laneL F (2 * N) = L) := hL
  have HT : Hid (L.length = T) := hT
  rw [hL, hT] at hLL
  clear hL hT
  go_enter Try.func26, Try.ntmps26
  go_upto_block 0 with (first
    | (go_at_call 22; refine (refUnder_any _ h hDl).mono ?_; rintro e w1 ⟨MA, R, a1, c1, rfl, hU⟩; rw [HL.out] at hU ⊢; rw [HT.out])
    | (go_at_call 14; refine (under_on (hO.below hU.bel) (T : Int) (by rw [HL.out, HT.out])).mono ?_; rintro e w2 ⟨rfl, hb2⟩))
  replace hU := hU.below hb2
  clear hb2
  go_cut [] (fun wx => Below V.heap.size V wx)
  case first =>
    go_wp2_with fail
    go_loopw [6] (fun v wx => ∃ (j : Nat) (i : Int), j ≤ T + 2 ∧ v = .int .i64 i ∧ Hid (i = (j : Int) - 1) ∧ UA V wx D MA L R a1 c1) (fun v _ => ((T : Int) + 1 - intOf v).toNat)
    case atStart => exact ⟨0, -1, by omega, rfl, by show _ = _; omega, hU⟩
    case round =>
      clear hU
      obtain ⟨j, i, hj, rfl, HI, hU⟩ := hrel
      have hil : -1 ≤ i := by have := HI.out; omega
      by_cases hle : i ≤ (T : Int)
      · by_cases hin : 0 ≤ i ∧ i < (T : Int)
        · obtain ⟨p, rfl⟩ : ∃ p : Nat, i = (p : Int) := ⟨i.toNat, by omega⟩
          obtain ⟨hi0, hi1⟩ := hin
          have hp1 : p < T := by omega
          obtain ⟨q, kq, x, hq, hx, hpq⟩ := lane_at F (2 * N) p (by rw [HL.out, HT.out]; exact hp1)
          obtain ⟨x', d, bo, oo, hxL, hRx, hdat, rfl, hMb, hbl, ⟨e0, e1, e2, e3, e4, e5, e6, e7, e8⟩, _⟩ := hU.row.get (i := p) (by rw [HT.out]; exact hp1)
          obtain rfl : x' = x := by
            have := (lane_found F hx (2 * N) hq).2.1
            rw [← hpq, HL.out, hxL] at this
            exact Option.some.inj this
          obtain ⟨ad, nd, cd, rfl, hsd, _, _⟩ := hdat
          have hcp := hU.row.row.le
          have hmx := hU.row.row.max
          rw [HT.out] at hcp
          unfold maxLen at hmx
          have HP : Hid ((p : Int) = ((laneL F q).length : Int) + kq) := by show _ = _; omega
          clear hxL hRx hpq
          go_upto_region 9 with (go_at_call 27; refine (packet_on (hO.below hU.bel) hq hx _ HP.out).mono ?_; rintro e w4 ⟨d4, rfl, hb4, hown4⟩; obtain ⟨a4, c4, rfl, hs4⟩ := hown4.sl)
          have hb5 := next hb4 (ba (o := .cells #[.int .i64 x'.k, .int .i64 x'.f, .int .i64 x'.t, .int .i64 x'.i, .int .i64 x'.l, .int .i64 x'.p, .int .i64 x'.s, .bool x'.fl, .slice a4 x'.z.length c4] 26) (Below.refl w4.heap.size w4))
          have hs5 := hs4.below (ba (o := .cells #[.int .i64 x'.k, .int .i64 x'.f, .int .i64 x'.t, .int .i64 x'.i, .int .i64 x'.l, .int .i64 x'.p, .int .i64 x'.s, .bool x'.fl, .slice a4 x'.z.length c4] 26) (Below.refl w4.heap.size w4))
          have bx5 := Bx.made w4 x' (.slice a4 x'.z.length c4)
          have hU5 := hU.below hb5
          have hsd5 := hsd.below hb5
          replace e0 := ((bcell hb5).1 bo _ hbl).trans e0
          replace e1 := ((bcell hb5).1 bo _ hbl).trans e1
          replace e2 := ((bcell hb5).1 bo _ hbl).trans e2
          replace e3 := ((bcell hb5).1 bo _ hbl).trans e3
          replace e4 := ((bcell hb5).1 bo _ hbl).trans e4
          replace e5 := ((bcell hb5).1 bo _ hbl).trans e5
          replace e6 := ((bcell hb5).1 bo _ hbl).trans e6
          replace e7 := ((bcell hb5).1 bo _ hbl).trans e7
          replace e8 := ((bcell hb5).1 bo _ hbl).trans e8
          replace hbl := Nat.lt_of_lt_of_le hbl hb5.size
          clear hU hsd hs4 hown4 hb4 hb5
          generalize w4.alloc (.cells #[.int .i64 x'.k, .int .i64 x'.f, .int .i64 x'.t, .int .i64 x'.i, .int .i64 x'.l, .int .i64 x'.p, .int .i64 x'.s, .bool x'.fl, .slice a4 x'.z.length c4] 26) = W5 at *
          generalize w4.heap.size = g5 at *
          obtain ⟨q0, q1, q2, q3, q4, q5, q6, q7, q8, qf, ql⟩ := id bx5
          have uc := @Up.cell
          have uf := @Up.frozen
          refine wp_region_up (by kernel_rfl) (by kernel_rfl) ?_
          repeat (go_big_quiet_step ((go_at_call 18; exact Calls.up_of (same_self x' a4 ad _ nd c4 cd _ (hs5.below (Subtype.property _)) (hsd5.below (Subtype.property _))))))
          refine wpQuiet_nil ?_
          rintro _ ⟨u, rfl⟩
          clear uc uf
          go_wp2_with fail
          go_roundw
          case rel => exact ⟨j + 1, (p : Int) + 1, by have := HI.out; omega, by go_num, by show _ = _; have := HI.out; omega, hU5.below u.2⟩
          case measure => simp [intOf] <;> omega
        · have hout : i < 0 ∨ (T : Int) ≤ i := by omega
          have HOUT : Hid (i < 0 ∨ ((laneL F (2 * N)).length : Int) ≤ i) := by show _ ∨ _; rw [HL.out, HT.out]; exact hout
          have hi63 : i < 9223372036854775808 := by omega
          clear hin
          rcases hout with hout | hout
          · go_upto_region 9 with (go_at_call 27; refine (packet_on_no (hO.below hU.bel) i HOUT.out hi63).mono ?_; rintro e w4 ⟨rfl, hb4⟩)
            have hb5 := next hb4 (ba (o := .cells #[.int .i64 zeroPk.k, .int .i64 zeroPk.f, .int .i64 zeroPk.t, .int .i64 zeroPk.i, .int .i64 zeroPk.l, .int .i64 zeroPk.p, .int .i64 zeroPk.s, .bool zeroPk.fl, .slice none 0 0] 26) (Below.refl w4.heap.size w4))
            have bx5 := Bx.made w4 zeroPk (.slice none 0 0)
            have hU5 := hU.below hb5
            clear hU hb4 hb5
            refine wp_world (w2 := w4.alloc (.cells #[.int .i64 zeroPk.k, .int .i64 zeroPk.f, .int .i64 zeroPk.t, .int .i64 zeroPk.i, .int .i64 zeroPk.l, .int .i64 zeroPk.p, .int .i64 zeroPk.s, .bool zeroPk.fl, .slice none 0 0] 26)) rfl ?_
            generalize w4.alloc (.cells #[.int .i64 zeroPk.k, .int .i64 zeroPk.f, .int .i64 zeroPk.t, .int .i64 zeroPk.i, .int .i64 zeroPk.l, .int .i64 zeroPk.p, .int .i64 zeroPk.s, .bool zeroPk.fl, .slice none 0 0] 26) = W5 at *
            generalize w4.heap.size = g5 at *
            obtain ⟨q0, q1, q2, q3, q4, q5, q6, q7, q8, qf, ql⟩ := id bx5
            simp only [zeroPk] at q0 q1 q2 q3 q4 q5 q6 q7 q8
            have uc := @Up.cell
            have uf := @Up.frozen
            refine wp_region_up (by kernel_rfl) (by kernel_rfl) ?_
            repeat (go_big_quiet_step ((go_at_call 18; exact Calls.up_of (same_self zeroPk none none 0 0 0 0 _ (sl_nil _) (sl_nil _)))))
            refine wpQuiet_nil ?_
            rintro _ ⟨u, rfl⟩
            clear uc uf
            go_wp2_with fail
            go_roundw
            case rel => exact ⟨j + 1, i + 1, by have := HI.out; omega, by go_num, by show _ = _; have := HI.out; omega, hU5.below u.2⟩
            case measure => simp [intOf] <;> omega
          · obtain rfl : i = (T : Int) := by omega
            clear hout hle
            have hnl : ¬ (T : Int) < 0 := by omega
            go_upto_region 9 with (go_at_call 27; refine (packet_on_no (hO.below hU.bel) (T : Int) HOUT.out hi63).mono ?_; rintro e w4 ⟨rfl, hb4⟩)
            have hb5 := next hb4 (ba (o := .cells #[.int .i64 zeroPk.k, .int .i64 zeroPk.f, .int .i64 zeroPk.t, .int .i64 zeroPk.i, .int .i64 zeroPk.l, .int .i64 zeroPk.p, .int .i64 zeroPk.s, .bool zeroPk.fl, .slice none 0 0] 26) (Below.refl w4.heap.size w4))
            have bx5 := Bx.made w4 zeroPk (.slice none 0 0)
            have hU5 := hU.below hb5
            clear hU hb4 hb5
            refine wp_world (w2 := w4.alloc (.cells #[.int .i64 zeroPk.k, .int .i64 zeroPk.f, .int .i64 zeroPk.t, .int .i64 zeroPk.i, .int .i64 zeroPk.l, .int .i64 zeroPk.p, .int .i64 zeroPk.s, .bool zeroPk.fl, .slice none 0 0] 26)) rfl ?_
            generalize w4.alloc (.cells #[.int .i64 zeroPk.k, .int .i64 zeroPk.f, .int .i64 zeroPk.t, .int .i64 zeroPk.i, .int .i64 zeroPk.l, .int .i64 zeroPk.p, .int .i64 zeroPk.s, .bool zeroPk.fl, .slice none 0 0] 26) = W5 at *
            generalize w4.heap.size = g5 at *
            obtain ⟨q0, q1, q2, q3, q4, q5, q6, q7, q8, qf, ql⟩ := id bx5
            simp only [zeroPk] at q0 q1 q2 q3 q4 q5 q6 q7 q8
            have uc := @Up.cell
            have uf := @Up.frozen
            refine wp_region_up (by kernel_rfl) (by kernel_rfl) ?_
            repeat (go_big_quiet_step ((go_at_call 18; exact Calls.up_of (same_self zeroPk none none 0 0 0 0 _ (sl_nil _) (sl_nil _)))))
            refine wpQuiet_nil ?_
            rintro _ ⟨u, rfl⟩
            clear uc uf
            go_wp2_with fail
            go_roundw
            case rel => exact ⟨j + 1, (T : Int) + 1, by have := HI.out; omega, by go_num, by show _ = _; have := HI.out; omega, hU5.below u.2⟩
            case measure => simp [intOf] <;> omega
      · go_wp2_with fail
        go_meet
        case rel => exact hU.bel
  case rest =>
    clear hU HT hLL
    have g0 := h.c0
    go_upto_block 2 with fail
    go_wp2_with fail
    go_loopw [10] (fun v wx => ∃ (j : Nat) (i : Int), j ≤ N + 2 ∧ v = .int .i64 i ∧ Hid (i = (j : Int) - 1) ∧ Below V.heap.size V wx) (fun v _ => ((N : Int) + 1 - intOf v).toNat)
    case atStart => exact ⟨0, -1, by omega, rfl, by show _ = _; omega, hcut⟩
    case round =>
      clear hcut
      obtain ⟨j, i, hj, rfl, HI, hb⟩ := hrel
      have h1 := h.below hb
      have hO1 := hO.below hb
      have c0 := h1.c0
      have lt := h1.lt
      have hil : -1 ≤ i := by have := HI.out; omega
      by_cases hle : i ≤ (N : Int)
      · by_cases hin : 0 ≤ i ∧ i < (N : Int)
        · obtain ⟨p, rfl⟩ : ∃ p : Nat, i = (p : Int) := ⟨i.toNat, by omega⟩
          obtain ⟨hi0, hi1⟩ := hin
          have hpN : p < N := by omega
          obtain ⟨x0, hx0⟩ : ∃ x0 : Int, ((F (4 * p + 2 + 0)).length : Int) = x0 := ⟨_, rfl⟩
          obtain ⟨x1, hx1⟩ : ∃ x1 : Int, ((F (4 * p + 2 + 1)).length : Int) = x1 := ⟨_, rfl⟩
          obtain ⟨y0, hy0⟩ : ∃ y0 : Int, (O : Int) - ((F (4 * p + 0)).length : Int) = y0 := ⟨_, rfl⟩
          obtain ⟨y1, hy1⟩ : ∃ y1 : Int, (O : Int) - ((F (4 * p + 1)).length : Int) = y1 := ⟨_, rfl⟩
          have HX0 : Hid (((F (4 * p + 2 + 0)).length : Int) = x0) := hx0
          have HX1 : Hid (((F (4 * p + 2 + 1)).length : Int) = x1) := hx1
          have HY0 : Hid ((O : Int) - ((F (4 * p + 0)).length : Int) = y0) := hy0
          have HY1 : Hid ((O : Int) - ((F (4 * p + 1)).length : Int) = y1) := hy1
          have HQ0 : Hid (((F (pr (2 * p) + 2)).length : Int) = x0) := by show _ = _; rw [show pr (2 * p) + 2 = 4 * p + 2 + 0 by unfold pr; omega]; exact hx0
          have HQ1 : Hid (((F (pr (2 * p + 1) + 2)).length : Int) = x1) := by show _ = _; rw [show pr (2 * p + 1) + 2 = 4 * p + 2 + 1 by unfold pr; omega]; exact hx1
          have HR0 : Hid ((O : Int) - ((F (pr (2 * p + laneS true))).length : Int) = y0) := by show _ = _; rw [show pr (2 * p + laneS true) = 4 * p + 0 by unfold pr laneS; simp <;> omega]; exact hy0
          have HR1 : Hid ((O : Int) - ((F (pr (2 * p + laneS false))).length : Int) = y1) := by show _ = _; rw [show pr (2 * p + laneS false) = 4 * p + 1 by unfold pr laneS; simp <;> omega]; exact hy1
          clear hx0 hx1 hy0 hy1
          go_wp2_with (first
            | (go_at_call 15; refine (waiting_on hO1 p hpN _ rfl x0 x1 HQ0.out HQ1.out).mono ?_; rintro e w3 ⟨rfl, hb3⟩)
            | (have mk := hb7; clear mk; go_at_call 51; refine (refRoom_yes _ (h1.below (next (next (next (next (next hb3 hb4) hb5) hb6) hb61) hb7)) p 1 hpN (by decide) y1 HY1.out).mono ?_; rintro e w8 ⟨rfl, hb8⟩)
            | (have mk := hb61; clear mk; go_at_call 20; refine (room_on (hO1.below (next (next (next (next hb3 hb4) hb5) hb6) hb61)) p hpN _ rfl false y1 HR1.out).mono ?_; rintro e w7 ⟨rfl, hb7⟩)
            | (have mk := hb6; clear mk; go_at_call 51; refine (refRoom_yes _ (h1.below (next (next (next hb3 hb4) hb5) hb6)) p 0 hpN (by decide) y0 HY0.out).mono ?_; rintro e w61 ⟨rfl, hb61⟩)
            | (have mk := hb5; clear mk; go_at_call 20; refine (room_on (hO1.below (next (next hb3 hb4) hb5)) p hpN _ rfl true y0 HR0.out).mono ?_; rintro e w6 ⟨rfl, hb6⟩)
            | (have mk := hb4; clear mk; go_at_call 50; refine (refWaiting_yes _ (h1.below (next hb3 hb4)) p 1 hpN (by decide) x1 HX1.out).mono ?_; rintro e w5 ⟨rfl, hb5⟩)
            | (go_at_call 50; refine (refWaiting_yes _ (h1.below hb3) p 0 hpN (by decide) x0 HX0.out).mono ?_; rintro e w4 ⟨rfl, hb4⟩))
          go_roundw
          case rel => exact ⟨j + 1, (p : Int) + 1, by have := HI.out; omega, by go_num, by show _ = _; have := HI.out; omega, next hb (next (next (next (next (next (next hb3 hb4) hb5) hb6) hb61) hb7) hb8)⟩
          case measure => simp [intOf] <;> omega
        · have hout : i < 0 ∨ (N : Int) ≤ i := by omega
          have HOUT : Hid (i < 0 ∨ (N : Int) ≤ i) := hout
          clear hin hout
          go_wp2_with (first
            | (go_at_call 15; refine (waiting_on_no hO1 i HOUT.out).mono ?_; rintro e w3 ⟨rfl, hb3⟩)
            | (have mk := hb7; clear mk; go_at_call 51; refine (refRoom_no _ (h1.below (next (next (next (next (next hb3 hb4) hb5) hb6) hb61) hb7)) i 1 HOUT.out).mono ?_; rintro e w8 ⟨rfl, hb8⟩)
            | (have mk := hb61; clear mk; go_at_call 20; refine (room_on_no (hO1.below (next (next (next (next hb3 hb4) hb5) hb6) hb61)) i false HOUT.out).mono ?_; rintro e w7 ⟨rfl, hb7⟩)
            | (have mk := hb6; clear mk; go_at_call 51; refine (refRoom_no _ (h1.below (next (next (next hb3 hb4) hb5) hb6)) i 0 HOUT.out).mono ?_; rintro e w61 ⟨rfl, hb61⟩)
            | (have mk := hb5; clear mk; go_at_call 20; refine (room_on_no (hO1.below (next (next hb3 hb4) hb5)) i true HOUT.out).mono ?_; rintro e w6 ⟨rfl, hb6⟩)
            | (have mk := hb4; clear mk; go_at_call 50; refine (refWaiting_no _ (h1.below (next hb3 hb4)) i 1 HOUT.out).mono ?_; rintro e w5 ⟨rfl, hb5⟩)
            | (go_at_call 50; refine (refWaiting_no _ (h1.below hb3) i 0 HOUT.out).mono ?_; rintro e w4 ⟨rfl, hb4⟩))
          go_roundw
          case rel => exact ⟨j + 1, i + 1, by have := HI.out; omega, by go_num, by show _ = _; have := HI.out; omega, next hb (next (next (next (next (next (next hb3 hb4) hb5) hb6) hb61) hb7) hb8)⟩
          case measure => simp [intOf] <;> omega
      · go_wp2_with fail
        go_ret
        exact ⟨rfl, hb⟩
end
end Go.Proofs.Ytjdbjmfkheffdaa
end
section
namespace Go.Proofs.Ytjdbjmfkheffdaa
open Go.RowKit
set_option linter.unusedVariables false
set_option maxRecDepth 20000

/-- All that wait, at the first k nodes. -/
def waitN (F : Nat → List Pk) : Nat → Nat
  | 0 => 0
  | k + 1 => waitN F k + ((F (pr (2 * k) + 2)).length + (F (pr (2 * k + 1) + 2)).length)
def totalN (F : Nat → List Pk) (nn : Nat) : Nat := (laneL F (2 * nn)).length + waitN F nn
theorem waitN_mono (F : Nat → List Pk) {i j : Nat} (h : i ≤ j) : waitN F i ≤ waitN F j := by
  induction j with
  | zero => have : i = 0 := by omega
            subst this; exact Nat.le_refl _
  | succ j ih =>
    by_cases e : i = j + 1
    · subst e; exact Nat.le_refl _
    · have := ih (by omega)
      rw [waitN]; omega
theorem Rm_q2 {out inn : Int} {j : Nat} : Rm out inn (pr (2 * j) + 2) = inn := by unfold Rm pr; rw [if_pos (by omega)]
theorem Rm_q3 {out inn : Int} {j : Nat} : Rm out inn (pr (2 * j + 1) + 2) = 1 := by unfold Rm pr; rw [if_neg (by omega), if_pos (by omega)]
theorem waitN_out (F : Nat → List Pk) (q : Nat) (L : List Pk) : ∀ k, waitN (upd F (pr q) L) k = waitN F k
  | 0 => rfl
  | k + 1 => by rw [waitN, waitN, waitN_out F q L k, upd_other _ _ (fun e => pr_ne e.symm), upd_other _ _ (fun e => pr_ne e.symm)]
theorem waitN_same (F : Nat → List Pk) (q : Nat) (L : List Pk) : ∀ k, 2 * k ≤ q → waitN (upd F (pr q + 2) L) k = waitN F k
  | 0, _ => rfl
  | k + 1, h => by
    rw [waitN, waitN, waitN_same F q L k (by omega), upd_other _ _ (fun e => by have := pr_inj (show pr (2 * k) = pr q by omega); omega), upd_other _ _ (fun e => by have := pr_inj (show pr (2 * k + 1) = pr q by omega); omega)]
theorem waitN_in (F : Nat → List Pk) (q : Nat) (L : List Pk) : ∀ k, q < 2 * k → waitN (upd F (pr q + 2) L) k + (F (pr q + 2)).length = waitN F k + L.length
  | 0, h => by omega
  | k + 1, h => by
    rw [waitN, waitN]
    by_cases h1 : q < 2 * k
    · have := waitN_in F q L k h1
      rw [upd_other _ _ (fun e => by have := pr_inj (show pr (2 * k) = pr q by omega); omega), upd_other _ _ (fun e => by have := pr_inj (show pr (2 * k + 1) = pr q by omega); omega)]
      omega
    · rw [waitN_same F q L k (by omega)]
      by_cases h2 : q = 2 * k
      · subst h2
        rw [upd_same, upd_other _ _ (fun e => by have := pr_inj (show pr (2 * k + 1) = pr (2 * k) by omega); omega)]
        omega
      · obtain rfl : q = 2 * k + 1 := by omega
        rw [upd_same, upd_other _ _ (fun e => by have := pr_inj (show pr (2 * k) = pr (2 * k + 1) by omega); omega)]
        omega
theorem total_out (F : Nat → List Pk) {q nn : Nat} (L : List Pk) (h : q < 2 * nn) : totalN (upd F (pr q) L) nn + (F (pr q)).length = totalN F nn + L.length := by
  have := lane_more F L q (2 * nn) h
  unfold totalN
  rw [waitN_out]; omega
theorem total_in (F : Nat → List Pk) {q nn : Nat} (L : List Pk) (h : q < 2 * nn) : totalN (upd F (pr q + 2) L) nn + (F (pr q + 2)).length = totalN F nn + L.length := by
  have := waitN_in F q L nn h
  unfold totalN
  rw [lane_in]; omega
theorem total_nil (nn : Nat) : totalN (fun _ => []) nn = 0 := by
  have h1 : ∀ m, laneL (fun _ => []) m = [] := fun m => by
    induction m with
    | zero => rfl
    | succ m ih => rw [laneL_succ, ih]; rfl
  have h2 : ∀ k, waitN (fun _ => []) k = 0 := fun k => by
    induction k with
    | zero => rfl
    | succ k ih => rw [waitN, ih]; rfl
  unfold totalN; rw [h1, h2]; rfl
section
variable {nn : Nat} {out inn : Int} {F F' : Nat → List Pk}
theorem send_total {x : Pk} {e : Int} (h : SendTo nn out F x e F') : (e = 0 ∧ totalN F' nn = totalN F nn + 1) ∨ (e ≠ 0 ∧ totalN F' nn = totalN F nn) := by
  cases h with
  | no => exact .inr ⟨by decide, rfl⟩
  | far => exact .inr ⟨by decide, rfl⟩
  | full => exact .inr ⟨by decide, rfl⟩
  | ok hr hf ht hl =>
    have hq : fromQ x < 2 * nn := by
      have := ((Pk.right_iff x).1 hr).f
      have := sortN_lt x
      unfold fromQ; omega
    have := total_out F (F (pr (fromQ x)) ++ [x]) hq
    rw [List.length_append] at this
    simp at this
    exact .inl ⟨rfl, by omega⟩
theorem del_total {a bit mask e : Int} (hg : ∀ q, q < 4 * nn → ∀ x ∈ F q, Good nn x) (h : DelTo nn out inn F a bit mask e F') : totalN F' nn = totalN F nn := by
  cases h with
  | none => rfl
  | form => rfl
  | full => rfl
  | ok q k x hq hx ha hw hl =>
    have hgx := hg (pr q) (by have := pr_lt hq; omega) x (List.mem_of_getElem? hx)
    have hk : k < (F (pr q)).length := (List.getElem?_eq_some_iff.1 hx).1
    have h1 := total_in F (F (pr (toQ x) + 2) ++ [x]) hgx.tq.1
    have h2 := total_out (upd F (pr (toQ x) + 2) (F (pr (toQ x) + 2) ++ [x])) ((F (pr q)).eraseIdx k) hq
    rw [upd_other _ _ pr_ne, List.length_eraseIdx_of_lt hk] at h2
    rw [List.length_append] at h1
    simp at h1
    omega
theorem take_total {i : Int} {b : Bool} {o : Option Pk} (h : TakeTo nn F i b o F') : (o.isSome = true ∧ totalN F' nn + 1 = totalN F nn) ∨ (o.isSome = false ∧ totalN F' nn = totalN F nn) := by
  cases h with
  | no => exact .inr ⟨rfl, rfl⟩
  | empty => exact .inr ⟨rfl, rfl⟩
  | some k x L hk hi hF =>
    have := total_in (nn := nn) F (q := 2 * k + laneS b) L (by have := laneS_lt b; omega)
    rw [hF] at this
    simp at this
    exact .inl ⟨rfl, by omega⟩
theorem send_ex (x : Pk) (hr : ∀ q, q < 4 * nn → ((F q).length : Int) ≤ Rm out inn q) : ∃ e F', SendTo nn out F x e F' := by
  by_cases h1 : x.right = true
  · by_cases h2 : (nn : Int) ≤ x.f ∨ (nn : Int) ≤ x.t
    · exact ⟨_, _, .far h1 h2⟩
    · have hq : fromQ x < 2 * nn := by
        have := ((Pk.right_iff x).1 h1).f
        have := sortN_lt x
        unfold fromQ; omega
      have := hr (pr (fromQ x)) (by have := pr_lt hq; omega)
      rw [Rm_out] at this
      by_cases h3 : ((F (pr (fromQ x))).length : Int) = out
      · exact ⟨_, _, .full h1 (by omega) (by omega) h3⟩
      · exact ⟨_, _, .ok h1 (by omega) (by omega) (by omega)⟩
  · exact ⟨_, _, .no (by simpa using h1)⟩
theorem del_ex (a bit mask : Int) (hg : ∀ q, q < 4 * nn → ∀ x ∈ F q, Good nn x) (hr : ∀ q, q < 4 * nn → ((F q).length : Int) ≤ Rm out inn q) : ∃ e F', DelTo nn out inn F a bit mask e F' := by
  by_cases h1 : a < 0 ∨ ((laneL F (2 * nn)).length : Int) ≤ a
  · exact ⟨_, _, .none h1⟩
  · obtain ⟨q, k, x, hq, hx, ha⟩ := lane_at F (2 * nn) a.toNat (by omega)
    have ha' : a = ((laneL F q).length : Int) + k := by omega
    cases hw : wireB x bit mask
    · exact ⟨_, _, .form q k x hq hx ha' hw⟩
    · have hgx := hg (pr q) (by have := pr_lt hq; omega) x (List.mem_of_getElem? hx)
      have := hr (pr (toQ x) + 2) (pr_lt hgx.tq.1)
      by_cases h3 : ((F (pr (toQ x) + 2)).length : Int) = Rm out inn (pr (toQ x) + 2)
      · exact ⟨_, _, .full q k x hq hx ha' hw h3⟩
      · exact ⟨_, _, .ok q k x hq hx ha' hw (by omega)⟩
theorem take_ex (i : Int) (b : Bool) : ∃ o F', TakeTo nn F i b o F' := by
  by_cases h1 : i < 0 ∨ (nn : Int) ≤ i
  · exact ⟨_, _, .no h1⟩
  · cases h : F (pr (2 * i.toNat + laneS b) + 2) with
    | nil => exact ⟨_, _, .empty i.toNat (by omega) (by omega) h⟩
    | cons x L => exact ⟨_, _, .some i.toNat x L (by omega) (by omega) h⟩
variable {w V : World} {gf : Nat} {X : Nat → Prop}
theorem On.good (h : On w V gf nn out inn F X) : ∀ q, q < 4 * nn → ∀ x ∈ F q, Good nn x := by obtain ⟨_, ⟨_, _, _, _, _, _, h⟩, _⟩ := h; exact h.good
theorem On.rooms (h : On w V gf nn out inn F X) : ∀ q, q < 4 * nn → ((F q).length : Int) ≤ Rm out inn q := by obtain ⟨_, ⟨_, _, _, _, _, _, h⟩, _⟩ := h; exact h.rooms
theorem On.bound (h : On w V gf nn out inn F X) : ((laneL F (2 * nn)).length : Int) ≤ ((2 * nn : Nat) : Int) * out := by obtain ⟨_, ⟨_, _, _, _, _, _, h⟩, _⟩ := h; exact lane_bound h _ (Nat.le_refl _)
theorem On.max (h : On w V gf nn out inn F X) : (laneL F (2 * nn)).length ≤ 12000 := by obtain ⟨_, ⟨_, _, _, _, _, _, h⟩, _⟩ := h; exact lane_max h
end
end Go.Proofs.Ytjdbjmfkheffdaa
end
section
namespace Go.Proofs.Ytjdbjmfkheffdaa
open Go.RowKit
set_option linter.unusedVariables false
set_option maxRecDepth 20000

/-- The document's memory, and what else is kept. -/
def Xd (gr gs N : Nat) (M : Nat → Nat → Prop) (D E : Nat → Prop) (k : Nat) : Prop := k = gr ∨ k = gs ∨ (∃ q, q < 4 * N ∧ M q k) ∨ D k ∨ E k
/-- What the document's calls may write. -/
def Yd (gs N : Nat) (M : Nat → Nat → Prop) (k : Nat) : Prop := k = gs ∨ ∃ q, q < 4 * N ∧ M q k
structure FP (w V : World) (gf gr gs N O I cap : Nat) (F1 F2 : Nat → List Pk) (M : Nat → Nat → Prop) (D E : Nat → Prop) : Prop where
  on : On w V gf N O I F1 (Xd gr gs N M D E)
  df : DF V gr gs N O I cap F2 M D
  dl : ∀ k, D k → k < V.heap.size
  ls : w.heap.size ≤ gs
  lm : ∀ q, q < 4 * N → ∀ k, M q k → w.heap.size ≤ k
  en : ∀ k, E k → k ≠ gs ∧ k ≠ gr ∧ ∀ q, q < 4 * N → ¬ M q k
section
variable {w V V' : World} {gf gr gs N O I cap : Nat} {F1 F2 F' : Nat → List Pk} {M M' : Nat → Nat → Prop} {D D' E E' : Nat → Prop}
theorem FP.below (h : FP w V gf gr gs N O I cap F1 F2 M D E) (hb : Below V.heap.size V V') : FP w V' gf gr gs N O I cap F1 F2 M D E :=
  ⟨h.on.below hb, h.df.below hb, fun k hk => Nat.lt_of_lt_of_le (h.dl k hk) hb.size, h.ls, h.lm, h.en⟩
theorem FP.weak (h : FP w V gf gr gs N O I cap F1 F2 M D E) (hE : ∀ k, E' k → E k) : FP w V gf gr gs N O I cap F1 F2 M D E' := by
  refine ⟨?_, h.df, h.dl, h.ls, h.lm, fun k hk => h.en k (hE k hk)⟩
  obtain ⟨B, hf, hB, hb, hx⟩ := h.on
  have hX : ∀ k, Xd gr gs N M D E' k → Xd gr gs N M D E k := fun k hk => hk.imp id (Or.imp id (Or.imp id (Or.imp id (hE k))))
  exact ⟨B, hf, fun k hk => ⟨(hB k hk).1, fun h => (hB k hk).2 (hX k h)⟩, hb, fun k hk => hx k (hX k hk)⟩
theorem FP.more (h : FP w V gf gr gs N O I cap F1 F2 M D E) (hb : Below V.heap.size V V') (hE : ∀ k, E' k → E k ∨ (V.heap.size ≤ k ∧ k < V'.heap.size)) : FP w V' gf gr gs N O I cap F1 F2 M D E' := by
  refine ⟨h.on.more hb fun k hk => ?_, h.df.below hb, fun k hk => Nat.lt_of_lt_of_le (h.dl k hk) hb.size, h.ls, h.lm, fun k hk => ?_⟩
  · rcases hk with hk | hk | hk | hk | hk
    · exact .inl (.inl hk)
    · exact .inl (.inr (.inl hk))
    · exact .inl (.inr (.inr (.inl hk)))
    · exact .inl (.inr (.inr (.inr (.inl hk))))
    · exact (hE k hk).imp (fun h => .inr (.inr (.inr (.inr h)))) id
  · rcases hE k hk with hk | hk
    · exact h.en k hk
    · refine ⟨?_, ?_, fun q hq hm => ?_⟩
      · have := h.df.net.lt; omega
      · have := h.df.lt; omega
      · have := h.df.net.old hq hm; omega
/-- The program's network has turned. -/
theorem FP.stepF (h : FP w V gf gr gs N O I cap F1 F2 M D E) (ho : On w V' gf N O I F' (Xd gr gs N M D E)) (hk : Keep (fun k => ¬ Xd gr gs N M D E k) V V') : FP w V' gf gr gs N O I cap F' F2 M D E :=
  ⟨ho, h.df.keep hk (fun e => e (.inl rfl)) (fun e => e (.inr (.inl rfl))) (fun q k hq hm e => e (.inr (.inr (.inl ⟨q, hq, hm⟩)))) (fun k hd e => e (.inr (.inr (.inr (.inl hd))))), fun k hd => Nat.lt_of_lt_of_le (h.dl k hd) hk.size, h.ls, h.lm, h.en⟩
/-- The document's has. -/
theorem FP.stepD (h : FP w V gf gr gs N O I cap F1 F2 M D E) (hd : DF V' gr gs N O I cap F' M' D') (hk : Keep (Yd gs N M) V V') (hM : ∀ r, r < 4 * N → ∀ k, M' r k → (∃ r', r' < 4 * N ∧ M r' k) ∨ (V.heap.size ≤ k ∧ k < V'.heap.size)) (hD : ∀ k, D' k → D k ∨ E k) : FP w V' gf gr gs N O I cap F1 F' M' D' E := by
  have hz := hk.size
  refine ⟨h.on.turn hk (fun k e => ?_) (fun k e => ?_) (fun k e => ?_) (fun k e => ?_), hd, fun k e => ?_, h.ls, fun q hq k hm => ?_, fun k he => ?_⟩
  · exact .inl (e.elim (fun e => .inr (.inl e)) (fun e => .inr (.inr (.inl e))))
  · exact e.elim (fun e => by rw [e]; exact h.ls) (fun ⟨q, hq, hm⟩ => h.lm q hq k hm)
  · rcases e with e | e | ⟨q, hq, e⟩ | e | e
    · exact .inl (.inl e)
    · exact .inl (.inr (.inl e))
    · exact (hM q hq k e).imp (fun e => .inr (.inr (.inl e))) (fun e => e.1)
    · exact .inl ((hD k e).elim (fun e => .inr (.inr (.inr (.inl e)))) (fun e => .inr (.inr (.inr (.inr e)))))
    · exact .inl (.inr (.inr (.inr (.inr e))))
  · rcases e with e | e | ⟨q, hq, e⟩ | e | e
    · rw [e]; exact hd.lt
    · rw [e]; exact hd.net.lt
    · exact hd.net.old hq e
    · exact (hD k e).elim (fun e => Nat.lt_of_lt_of_le (h.dl k e) hz) (fun e => Nat.lt_of_lt_of_le (h.on.xlt k (.inr (.inr (.inr (.inr e))))) hz)
    · exact Nat.lt_of_lt_of_le (h.on.xlt k (.inr (.inr (.inr (.inr e))))) hz
  · exact (hD k e).elim (fun e => Nat.lt_of_lt_of_le (h.dl k e) hz) (fun e => Nat.lt_of_lt_of_le (h.on.xlt k (.inr (.inr (.inr (.inr e))))) hz)
  · rcases hM q hq k hm with ⟨r, hr, hm⟩ | hm
    · exact h.lm r hr k hm
    · have := h.on.bel.size; omega
  · refine ⟨(h.en k he).1, (h.en k he).2.1, fun q hq hm => ?_⟩
    rcases hM q hq k hm with ⟨r, hr, hm⟩ | hm
    · exact (h.en k he).2.2 r hr hm
    · have := h.on.xlt k (.inr (.inr (.inr (.inr he)))); omega
theorem FP.ex (h : FP w V gf gr gs N O I cap F1 F2 M D E) {k : Nat} (he : E k) : ¬ Yd gs N M k := fun e => e.elim (h.en k he).1 (fun ⟨q, hq, hm⟩ => (h.en k he).2.2 q hq hm)
theorem FP.xe {gr gs N : Nat} {M : Nat → Nat → Prop} {D E : Nat → Prop} {k : Nat} (he : E k) : ¬ ¬ Xd gr gs N M D E k := fun e => e (.inr (.inr (.inr (.inr he))))
end
section
variable (V : World) {gr gs N O I cap : Nat} {F F' : Nat → List Pk} {M : Nat → Nat → Prop} {D : Nat → Prop}
/-- What a call of the document's leaves. -/
def DThen (V w' : World) (gr gs N O I cap : Nat) (F' : Nat → List Pk) (M : Nat → Nat → Prop) (D' : Nat → Prop) : Prop := ∃ M', DF w' gr gs N O I cap F' M' D' ∧ (∀ r, r < 4 * N → ∀ k, M' r k → (∃ r', r' < 4 * N ∧ M r' k) ∨ (V.heap.size ≤ k ∧ k < w'.heap.size)) ∧ Keep (Yd gs N M) V w'
theorem dthen_below {w' : World} (h : DF V gr gs N O I cap F M D) (hb : Below V.heap.size V w') : DThen V w' gr gs N O I cap F M D := ⟨M, h.below hb, fun r hr k hk => .inl ⟨r, hr, hk⟩, Keep.of_below hb⟩
theorem refDel_to (h : DF V gr gs N O I cap F M D) (hDl : ∀ k, D k → k < V.heap.size) (a bit mask : Int) (hm0 : 0 ≤ mask) (hm1 : mask < 65536) (hg : ∀ q, q < 4 * N → ∀ x ∈ F q, Good N x) (hI1 : I ≤ 1000) {e : Int} (hd : DelTo N O I F a bit mask e F') :
    Calls Try.prog 24 #[.pointer (some ⟨gr, 0, none⟩), .int .i64 a, .int .i64 bit, .int .u16 mask] V fun en w' => en = .returned (.int .i64 e) ∧ DThen V w' gr gs N O I cap F' M D := by
  cases hd with
  | none ha => exact (refDel_none V h hDl a bit mask ha).mono fun en w' ⟨he, hb⟩ => ⟨he, dthen_below V h hb⟩
  | form q k x hq hx ha hw => exact (refDel_form V h hDl a bit mask hm0 hm1 q k x hq hx ha (hg (pr q) (by have := pr_lt hq; omega) x (List.mem_of_getElem? hx)) hw).mono fun en w' ⟨he, hb⟩ => ⟨he, dthen_below V h hb⟩
  | full q k x hq hx ha hw hl => exact (refDel_full V h hDl a bit mask hm0 hm1 q k x hq hx ha (hg (pr q) (by have := pr_lt hq; omega) x (List.mem_of_getElem? hx)) hw hl).mono fun en w' ⟨he, hb⟩ => ⟨he, dthen_below V h hb⟩
  | ok q k x hq hx ha hw hl => exact (refDel_ok V h hDl a bit mask hm0 hm1 q k x hq hx ha (hg (pr q) (by have := pr_lt hq; omega) x (List.mem_of_getElem? hx)) hw hl hI1).mono fun en w' ⟨he, h'⟩ => ⟨he, h'⟩
theorem refSend_to (h : DF V gr gs N O I cap F M D) (hDl : ∀ k, D k → k < V.heap.size) (x : Pk) (a : Option Addr) (n c : Nat) (hsl : Sl V a n c x.z) (hE : x.z ≠ [] → ∀ y : Addr, a = some y → y.block ≠ gs ∧ y.block ≠ gr ∧ ∀ q, q < 4 * N → ¬ M q y.block) {e : Int} (hs : SendTo N O F x e F') :
    Calls Try.prog 23 #[.pointer (some ⟨gr, 0, none⟩), x.val (.slice a n c)] V fun en w' => en = .returned (.int .i64 e) ∧ ∃ D', DThen V w' gr gs N O I cap F' M D' ∧ ∀ k, D' k → D k ∨ (x.z ≠ [] ∧ ∃ y : Addr, a = some y ∧ y.block = k) := by
  cases hs with
  | no hr => exact (refSend_no V h x a n c hsl hr).mono fun en w' ⟨he, hb⟩ => ⟨he, D, dthen_below V h hb, fun k hk => .inl hk⟩
  | far hr hf => exact (refSend_far V h x a n c hsl hr hf).mono fun en w' ⟨he, hb⟩ => ⟨he, D, dthen_below V h hb, fun k hk => .inl hk⟩
  | full hr hf ht hl => exact (refSend_full V h x a n c hsl hr hf ht hl).mono fun en w' ⟨he, hb⟩ => ⟨he, D, dthen_below V h hb, fun k hk => .inl hk⟩
  | ok hr hf ht hl =>
    refine (refSend_ok V h x a n c hsl hr hf ht hl hDl hE).mono ?_
    rintro en w' ⟨he, M', hd, hM, hk⟩
    have hq : pr (fromQ x) < 4 * N := by
      have := ((Pk.right_iff x).1 hr).f
      have := sortN_lt x
      have := pr_lt (q := fromQ x) (nn := N) (by unfold fromQ; omega)
      omega
    refine ⟨he, _, ⟨_, hd, fun r hr k hk' => ?_, hk.mono (fun k _ e => e.imp id (fun e => ⟨_, hq, e⟩))⟩, fun k hk => hk⟩
    by_cases e : r = pr (fromQ x)
    · subst e; rw [upd_same] at hk'; exact (hM k hk').imp (fun e => ⟨_, hq, e⟩) id
    · rw [upd_other _ _ e] at hk'; exact .inl ⟨r, hr, hk'⟩
theorem refTake_to (h : DF V gr gs N O I cap F M D) (hDl : ∀ k, D k → k < V.heap.size) (i : Int) (b : Bool) (k : Int) (hk : k = (laneS b : Int)) {o : Option Pk} (ht : TakeTo N F i b o F') :
    Calls Try.prog 25 #[.pointer (some ⟨gr, 0, none⟩), .int .i64 i, .int .i64 k] V fun e w' => ∃ a n c, e = .returned (.tuple #[(o.getD zeroPk).val (.slice a n c), .bool o.isSome]) ∧ Sl w' a n c (o.getD zeroPk).z ∧ DThen V w' gr gs N O I cap F' M D := by
  subst hk
  cases ht with
  | no hi =>
    refine (refTake_no V h i _ hi).mono ?_
    rintro e w' ⟨rfl, hb⟩
    exact ⟨none, 0, 0, rfl, sl_nil _, dthen_below V h hb⟩
  | empty j hj hi hF =>
    subst hi
    refine (refTake_empty V h j (laneS b) hj (laneS_lt b) (by rw [← hF]; congr 1; have := laneS_lt b; unfold pr; omega)).mono ?_
    rintro e w' ⟨rfl, hb⟩
    exact ⟨none, 0, 0, rfl, sl_nil _, dthen_below V h hb⟩
  | some j x L hj hi hF =>
    subst hi
    have hqe : pr (2 * j + laneS b) + 2 = 4 * j + 2 + laneS b := by have := laneS_lt b; unfold pr; omega
    rw [hqe] at hF
    refine (refTake_some V h j (laneS b) hj (laneS_lt b) x L hF hDl).mono ?_
    rintro e w' ⟨d, rfl, hdat, hd, hk⟩
    obtain ⟨a, n, c, rfl, hs, _, _⟩ := hdat
    have hq : 4 * j + 2 + laneS b < 4 * N := by have := laneS_lt b; omega
    refine ⟨a, n, c, rfl, hs, _, by rw [hqe]; exact hd, fun r hr k hk' => ?_, hk.mono (fun k _ e => e.imp id (fun e => ⟨_, hq, e⟩))⟩
    by_cases e : r = 4 * j + 2 + laneS b
    · subst e; rw [upd_same] at hk'; exact .inl ⟨_, hq, hk'⟩
    · rw [upd_other _ _ e] at hk'; exact .inl ⟨r, hr, hk'⟩
end
end Go.Proofs.Ytjdbjmfkheffdaa
end
section
namespace Go.Proofs.Ytjdbjmfkheffdaa
open Go.RowKit
set_option linter.unusedVariables false
set_option maxRecDepth 20000

/-- A digit that is turned is found. -/
theorem wire_hit {y : Pk} {bit mask : Int} {k : Nat} (hm0 : 0 ≤ mask) (hm1 : mask < 65536) (hk : k < 8 * (12 + 8 * y.z.length)) (hh : B.hit bit mask k = true) : wireB y bit mask = false := by
  refine decide_eq_false fun e => ?_
  have hl : (B.sealI (packI y)).length = 12 + 8 * y.z.length := by rw [sealI_len, packI_len]; omega
  have d := B.spoilI_dig (bit := bit) (mask := mask) (l := B.sealI (packI y)) (B.sealI_b8 (packI_b8 y)) hm0 hm1 k (by omega)
  rw [e, hh] at d
  revert d
  cases B.digAt (B.sealI (packI y)) k <;> simp
def lockPk1 : Pk := ⟨1, 0, 1, 0, 0, 0, 0, false, []⟩
def wk1 : Nat → List Pk := upd (fun _ => []) (pr (fromQ lockPk1)) [lockPk1]
def wk2 : Nat → List Pk := upd (upd wk1 (pr (toQ lockPk1) + 2) [lockPk1]) (pr 0) []
theorem wk_send : SendTo 2 1 (fun _ => []) lockPk1 0 wk1 := SendTo.ok (by decide) (by decide) (by decide) (by decide)
theorem wk_form : DelTo 2 1 1 wk1 0 3 5 2 wk1 := DelTo.form 0 0 lockPk1 (by decide) rfl rfl (wire_hit (k := 16) (by decide) (by decide) (by decide) (by decide))
theorem wk_del : DelTo 2 1 1 wk1 0 0 0 0 wk2 := DelTo.ok 0 0 lockPk1 (by decide) rfl rfl (wire_zero _ _) (by decide)
theorem wk_take : TakeTo 2 wk2 1 true (some lockPk1) (upd wk2 (pr (2 * 1 + laneS true) + 2) []) := TakeTo.some 1 lockPk1 [] (by decide) rfl rfl
set_option maxHeartbeats 2000000 in
theorem fwakes_any (w : World) : Calls Try.prog 19 #[] w fun e w' => e = .returned (.bool true) ∧ Below w.heap.size w w' := by
  go_enter Try.func19, Try.ntmps19
  go_wp2_with (first
    | (go_at_call 9; refine (new_on (X := fun _ => False) (Below.refl _ _) (fun _ h => h.elim) 2 1 1 1 1 1 1 (.slice none 0 0) rfl (by decide) (by decide) (by decide) (by decide) (by decide) (by decide)).mono ?_; rintro e w1 ⟨gf, rfl, hf0, hb1⟩; clear hb1)
    | (have mk := hf4; clear mk; go_at_call 14; refine (under_on (hf4.below (ba (Below.refl _ _))) 0 rfl).mono ?_; rintro e w8 ⟨rfl, hb8⟩)
    | (have mk := hf1; clear mk; go_at_call 14; refine (under_on hf1 1 rfl).mono ?_; rintro e w4 ⟨rfl, hb4⟩)
    | (go_at_call 14; refine (under_on hf0 0 rfl).mono ?_; rintro e w2 ⟨rfl, hb2⟩)
    | (go_at_call 12; refine (send_on (hf0.below hb2) lockPk1 none 0 0 (sl_nil _) (by intro y hy; cases hy) wk_send).mono ?_; rintro e w3 ⟨rfl, hf1, _⟩)
    | (have mk := hf2; clear mk; go_at_call 13; refine (deliver_on hf2 0 0 0 (by decide) (by decide) (by decide) wk_del).mono ?_; rintro e w6 ⟨rfl, hf3, _⟩)
    | (go_at_call 13; refine (deliver_on (hf1.below hb4) 0 3 5 (by decide) (by decide) (by decide) wk_form).mono ?_; rintro e w5 ⟨rfl, hf2, _⟩)
    | (go_at_call 16; refine (request_on hf3 1 wk_take).mono ?_; rintro e w7 ⟨⟨a7, n7, c7, rfl, _⟩, hf4, _⟩; simp only [Option.getD_some, Option.isSome_some, lockPk1]))
  go_ret
  exact ⟨rfl, ((hf4.below (ba (Below.refl _ _))).below hb8).bel⟩
end Go.Proofs.Ytjdbjmfkheffdaa
end
