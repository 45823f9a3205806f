/- The contract of New. Conditions: as the theorem states them.
Networks in walks (On): their memory is new, and none of the blocks of X. Conditions: as each theorem states them.
How many packets there are in a network, and that each call makes something of it. Conditions: as each theorem states them.
The document's example of a network (wakes). No condition.
One packet's way through a network, as plain data. Conditions: as each theorem states them.
The configuration of a setup, in numbers; its variable in memory.
The contract of chapletplay.Packet: a packet by small numbers. Conditions: as stated. -/
import Derived.Test.YtjdbjmfkheffdaaPart6
import Derived.Test.YtjdbjmfkheffdaaPart4
import Derived.Test.YtjdbjmfkheffdaaPart5
import Derived.Test.YtjdbjmfkheffdaaPart2
import Derived.Test.YtjdbjmfkheffdaaPart3
import Derived.Test.YtjdbjmfkheffdaaPart1
import Derived.Deep.CutBlock
section
namespace Go.Proofs.Ytjdbjmfkheffdaa
open Go.RowKit
set_option linter.unusedVariables false
set_option maxRecDepth 20000

theorem Try.infoLane : (Try.prog.info? 71).map (fun i => (i.zero, i.size, i.bytes)) = some (some (.agg #[.pointer none, .pointer none]), 2, 16) := by kernel_rfl
/-- A lane's variable in memory. -/
structure Lb (w : World) (g : Nat) (p q : Option Addr) : Prop where
  c0 : w.cell? ⟨g, 0, none⟩ = some (.pointer p)
  c1 : w.cell? ⟨g, 1, none⟩ = some (.pointer q)
  fz : ∀ o, w.frozen? ⟨g, o, none⟩ = false
  lt : g < w.heap.size
theorem Lb.made (w : World) (p q : Option Addr) : Lb (w.alloc (.cells #[.pointer p, .pointer q] 71)) w.heap.size p q := by constructor <;> simp
theorem Lb.next {w w' : World} {g : Nat} {p q : Option Addr} (h : Lb w g p q) (hb : Below w.heap.size w w') : Lb w' g p q :=
  ⟨(hb.cell (p := ⟨g, 0, none⟩) h.lt).trans h.c0, (hb.cell (p := ⟨g, 1, none⟩) h.lt).trans h.c1, fun o => (hb.frozen (p := ⟨g, o, none⟩) h.lt).trans (h.fz o), Nat.lt_of_lt_of_le h.lt hb.size⟩
theorem Lb.stored {w : World} {g : Nat} {p q : Option Addr} (h : Lb w g p q) (p' q' : Option Addr) : Lb ((w.setCell ⟨g, 0, none⟩ (.pointer p')).setCell ⟨g, 1, none⟩ (.pointer q')) g p' q' ∧ Keep (fun k => k = g) w ((w.setCell ⟨g, 0, none⟩ (.pointer p')).setCell ⟨g, 1, none⟩ (.pointer q')) := by
  obtain ⟨c0, c1, fz, lt⟩ := h
  refine ⟨?_, ((Keep.refl (fun k => k = g) w).setCell (.inl rfl) _).setCell (.inl rfl) _⟩
  constructor <;> (try intro o) <;> go_simp
set_option maxHeartbeats 4000000 in
theorem fnew_any (w : World) (N L K S Y O I : Nat) (t : Value) (ht : t.oneCell' = true) (n0 : 1 ≤ N) (n1 : N ≤ 6) (o0 : 1 ≤ O) (o1 : O ≤ 1000) (i0 : 1 ≤ I) (i1 : I ≤ 1000) :
    Calls Try.prog 9 #[.agg #[.int .i64 (N : Int), .int .i64 (L : Int), .int .i64 (K : Int), .int .i64 (S : Int), .int .i64 (Y : Int), .int .i64 (O : Int), .int .i64 (I : Int), t]] w fun e w' => ∃ gf B, e = .returned (.pointer (some ⟨gf, 0, none⟩)) ∧ Below w.heap.size w w' ∧ Fb w' gf N O I (fun _ => []) B ∧ ∀ k, B k → w.heap.size ≤ k := by
  have HO : Hid (max (O : Int) 0 = (O : Int)) := Int.max_eq_left (by omega)
  have HI : Hid (max (I : Int) 0 = (I : Int)) := Int.max_eq_left (by omega)
  have H1 : Hid (max (1 : Int) 0 = 1) := Int.max_eq_left (by omega)
  have HC : Hid (1 ≤ N ∧ N ≤ 6 ∧ (1 : Int) ≤ O ∧ (O : Int) ≤ 1000 ∧ (1 : Int) ≤ I ∧ (I : Int) ≤ 1000) := ⟨n0, n1, by omega, by omega, by omega, by omega⟩
  clear n0 o0 o1 i0 i1
  go_enter Try.func9, Try.ntmps9
  go_wp2_with fail
  go_loopw [10] (fun i wr => ∃ (j : Nat) (G : Nat → Nat) (M D : Nat → Nat → Prop) (SL : Nat → Prop) (a : Option Addr) (cap : Nat), j ≤ N ∧ i = .int .i64 j ∧ NW w wr (w.heap.size + 1) j O I G M D SL a cap ∧ wr.cell? ⟨w.heap.size, 5, none⟩ = some (.int .i64 (O : Int)) ∧ wr.cell? ⟨w.heap.size, 6, none⟩ = some (.int .i64 (I : Int)) ∧ Below w.heap.size w wr) (fun i _ => N - (intOf i).toNat)
  case atStart =>
    refine ⟨0, fun _ => 0, fun _ _ => False, fun _ _ => False, fun _ => False, none, 0, by omega, rfl, ⟨?_, ?_, by omega, by omega, by simp, rw_nil _ _ _, ⟨fun q hq => by omega, fun q _ hq => by omega, fun q hq => by omega⟩, fun q hq => by omega, fun k hk => hk.elim⟩, ?_, ?_, ?_⟩
    · simp
    · simp
    · simp
    · simp
    · exact ba (ba (Below.refl _ _))
  case round =>
    obtain ⟨j, G, M, D, SL, a, cap, hj, rfl, hN, c5, c6, hbw⟩ := hrel
    have sz := hN.sz
    by_cases hlt : j < N
    · have lc : w.heap.size < wr.heap.size := by omega
      go_upto_region 4 with fail
      go_cut [4] (fun v wx => ∃ g1 g2 gR : Nat, v = .pointer (some ⟨gR, 0, none⟩) ∧ Lb wx gR (some ⟨g1, 0, none⟩) (some ⟨g2, 0, none⟩) ∧ Qu wx g1 (one g1) noM O [] ∧ Qu wx g2 (one g2) noM I [] ∧ wr.heap.size ≤ g1 ∧ g1 < g2 ∧ Below wr.heap.size wr wx)
      case first =>
        have uc := @Up.cell2
        have uf := @Up.frozen2
        refine wp_region_mild 9 rfl (by kernel_rfl) ?_
        refine mild_take (v := ?v501) 0 rfl (by kernel_rfl) (by kernel_rfl) (by kernel_rfl) (fun _ _ _ h => h) (by kernel_rfl) (fun Wu K hK => ?hy501) ?go501
        case hy501 =>
          go_big_quiet_op
          simp only [Act.put, List.setIfInBounds_toArray, List.set_cons_zero, List.set_cons_succ] at hK
          exact hK
        simp only [Act.put, List.setIfInBounds_toArray, List.set_cons_zero, List.set_cons_succ]
        refine mild_take (v := ?v502) 1 rfl (by kernel_rfl) (by kernel_rfl) (by kernel_rfl) (fun _ _ _ h => h) (by kernel_rfl) (fun Wu K hK => ?hy502) ?go502
        case hy502 =>
          go_big_quiet_op
          simp only [Act.put, List.setIfInBounds_toArray, List.set_cons_zero, List.set_cons_succ] at hK
          exact hK
        simp only [Act.put, List.setIfInBounds_toArray, List.set_cons_zero, List.set_cons_succ]
        refine mild_take (v := ?v503) 3 rfl (by kernel_rfl) (by kernel_rfl) (by kernel_rfl) (fun _ _ _ h => h) (by kernel_rfl) (fun Wu K hK => ?hy503) ?go503
        case hy503 =>
          go_big_quiet_op
          simp only [Act.put, List.setIfInBounds_toArray, List.set_cons_zero, List.set_cons_succ] at hK
          exact hK
        simp only [Act.put, List.setIfInBounds_toArray, List.set_cons_zero, List.set_cons_succ]
        refine mild_take (v := ?v504) 4 rfl (by kernel_rfl) (by kernel_rfl) (by kernel_rfl) (fun _ _ _ h => h) (by kernel_rfl) (fun Wu K hK => ?hy504) ?go504
        case hy504 =>
          go_big_quiet_op
          simp only [Act.put, List.setIfInBounds_toArray, List.set_cons_zero, List.set_cons_succ] at hK
          exact hK
        simp only [Act.put, List.setIfInBounds_toArray, List.set_cons_zero, List.set_cons_succ]
        intro W
        clear uc uf
        have hB0 := W.2
        generalize W.1 = w0 at *
        refine up_two 2 7 (by kernel_rfl) rfl rfl ?_ ?_
        · go_wp2_with (go_at_call 29; refine (P.new_any _ _).mono ?_; rintro e ww ⟨rfl, hb, hq⟩; rw [HO.out] at hq)
          refine ⟨by exact next hB0 hb, fun u => ?_⟩
          have hU : Below w0.heap.size w0 u.1 := next hb u.2
          have q1_1 := hq.below u.2
          have o1 : wr.heap.size ≤ w0.heap.size := hB0.size
          have p1 : w0.heap.size < u.1.heap.size := (hq.below u.2).old _ (.inl rfl)
          have hB1 := next hB0 hU
          have zz1 := hU.size
          generalize u.1 = w1 at *
          clear hB0 hU hq hb
          refine up_two 5 7 (by kernel_rfl) rfl rfl ?_ ?_
          · go_wp2_with (go_at_call 30; refine (new_any _ _).mono ?_; rintro e ww ⟨rfl, hb, hq⟩; rw [HI.out] at hq)
            refine ⟨by exact next hB1 hb, fun u => ?_⟩
            have hU : Below w1.heap.size w1 u.1 := next hb u.2
            have q2_2 := hq.below u.2
            have o2 : w0.heap.size < w1.heap.size := by omega
            have p2 : w1.heap.size < u.1.heap.size := (hq.below u.2).old _ (.inl rfl)
            have hB2 := next hB1 hU
            have zz2 := hU.size
            have q1_2 := q1_1.below hU
            generalize u.1 = w2 at *
            clear hB1 hU hq hb q1_1
            refine up_two 6 7 (by kernel_rfl) rfl rfl ?_ ?_
            · go_wp2
              refine ⟨by exact hB2, fun u => ?_⟩
              have hU : Below w2.heap.size w2 u.1 := u.2
              have hB3 := next hB2 hU
              have zz3 := hU.size
              have q1_3 := q1_2.below hU
              have q2_3 := q2_2.below hU
              generalize u.1 = w3 at *
              clear hB2 hU q1_2 q2_2
              refine up_list 7 (by kernel_rfl) rfl ?_
              go_wp2
              refine ⟨by exact ba hB3, fun u => ?_⟩
              have hU : Below w3.heap.size w3 u.1 := next (ba (Below.refl _ _)) u.2
              have lb_4 := (Lb.made w3 none none).next (by exact u.2)
              have oR : wr.heap.size ≤ w3.heap.size := hB3.size
              have pR : w3.heap.size < u.1.heap.size := lb_4.lt
              have hB4 := next hB3 hU
              have zz4 := hU.size
              have q1_4 := q1_3.below hU
              have q2_4 := q2_3.below hU
              generalize u.1 = w4 at *
              clear hB3 hU q1_3 q2_3
              obtain ⟨l0, l1, lf, ll⟩ := id lb_4
              refine up_list 8 (by kernel_rfl) rfl ?_
              go_wp2
              refine ⟨(hB4.setCell (by simp only; omega) _).setCell (by simp only; omega) _, fun u => ?_⟩
              have kk := Lb.stored lb_4 (some ⟨w0.heap.size, 0, none⟩) (some ⟨w1.heap.size, 0, none⟩)
              have hU := u.2
              have lb_5 := kk.1.next hU
              have q1_5 := (q1_4.keep kk.2 (fun x hx e => by have : x = w0.heap.size := hx.resolve_right id; omega)).below hU
              have q2_5 := (q2_4.keep kk.2 (fun x hx e => by have : x = w1.heap.size := hx.resolve_right id; omega)).below hU
              have hB5 := next ((hB4.setCell (p := ⟨w3.heap.size, 0, none⟩) (by simp only; omega) (.pointer (some ⟨w0.heap.size, 0, none⟩))).setCell (p := ⟨w3.heap.size, 1, none⟩) (by simp only; omega) (.pointer (some ⟨w1.heap.size, 0, none⟩))) hU
              clear l0 l1 lf ll
              generalize u.1 = w5 at *
              refine up_done (by kernel_rfl) ?_
              go_wp2
              go_meet
              case rel => exact ⟨_, _, _, rfl, lb_5, q1_5, q2_5, o1, o2, hB5⟩
            · go_wp2
              refine ⟨by exact ba hB2, fun u => ?_⟩
              have hU : Below w2.heap.size w2 u.1 := next (ba (Below.refl _ _)) u.2
              have lb_3 := (Lb.made w2 none none).next (by exact u.2)
              have oR : wr.heap.size ≤ w2.heap.size := hB2.size
              have pR : w2.heap.size < u.1.heap.size := lb_3.lt
              have hB3 := next hB2 hU
              have zz3 := hU.size
              have q1_3 := q1_2.below hU
              have q2_3 := q2_2.below hU
              generalize u.1 = w3 at *
              clear hB2 hU q1_2 q2_2
              refine up_list 6 (by kernel_rfl) rfl ?_
              go_wp2
              refine ⟨by exact hB3, fun u => ?_⟩
              have hU : Below w3.heap.size w3 u.1 := u.2
              have hB4 := next hB3 hU
              have zz4 := hU.size
              have q1_4 := q1_3.below hU
              have q2_4 := q2_3.below hU
              have lb_4 := lb_3.next hU
              generalize u.1 = w4 at *
              clear hB3 hU q1_3 q2_3 lb_3
              obtain ⟨l0, l1, lf, ll⟩ := id lb_4
              refine up_list 8 (by kernel_rfl) rfl ?_
              go_wp2
              refine ⟨(hB4.setCell (by simp only; omega) _).setCell (by simp only; omega) _, fun u => ?_⟩
              have kk := Lb.stored lb_4 (some ⟨w0.heap.size, 0, none⟩) (some ⟨w1.heap.size, 0, none⟩)
              have hU := u.2
              have lb_5 := kk.1.next hU
              have q1_5 := (q1_4.keep kk.2 (fun x hx e => by have : x = w0.heap.size := hx.resolve_right id; omega)).below hU
              have q2_5 := (q2_4.keep kk.2 (fun x hx e => by have : x = w1.heap.size := hx.resolve_right id; omega)).below hU
              have hB5 := next ((hB4.setCell (p := ⟨w2.heap.size, 0, none⟩) (by simp only; omega) (.pointer (some ⟨w0.heap.size, 0, none⟩))).setCell (p := ⟨w2.heap.size, 1, none⟩) (by simp only; omega) (.pointer (some ⟨w1.heap.size, 0, none⟩))) hU
              clear l0 l1 lf ll
              generalize u.1 = w5 at *
              refine up_done (by kernel_rfl) ?_
              go_wp2
              go_meet
              case rel => exact ⟨_, _, _, rfl, lb_5, q1_5, q2_5, o1, o2, hB5⟩
          · go_wp2
            refine ⟨by exact ba hB1, fun u => ?_⟩
            have hU : Below w1.heap.size w1 u.1 := next (ba (Below.refl _ _)) u.2
            have lb_2 := (Lb.made w1 none none).next (by exact u.2)
            have oR : wr.heap.size ≤ w1.heap.size := hB1.size
            have pR : w1.heap.size < u.1.heap.size := lb_2.lt
            have hB2 := next hB1 hU
            have zz2 := hU.size
            have q1_2 := q1_1.below hU
            generalize u.1 = w2 at *
            clear hB1 hU q1_1
            refine up_list 5 (by kernel_rfl) rfl ?_
            go_wp2_with (go_at_call 30; refine (new_any _ _).mono ?_; rintro e ww ⟨rfl, hb, hq⟩; rw [HI.out] at hq)
            refine ⟨by exact next hB2 hb, fun u => ?_⟩
            have hU : Below w2.heap.size w2 u.1 := next hb u.2
            have q2_3 := hq.below u.2
            have o2 : w0.heap.size < w2.heap.size := by omega
            have p2 : w2.heap.size < u.1.heap.size := (hq.below u.2).old _ (.inl rfl)
            have hB3 := next hB2 hU
            have zz3 := hU.size
            have q1_3 := q1_2.below hU
            have lb_3 := lb_2.next hU
            generalize u.1 = w3 at *
            clear hB2 hU hq hb q1_2 lb_2
            refine up_list 6 (by kernel_rfl) rfl ?_
            go_wp2
            refine ⟨by exact hB3, fun u => ?_⟩
            have hU : Below w3.heap.size w3 u.1 := u.2
            have hB4 := next hB3 hU
            have zz4 := hU.size
            have q1_4 := q1_3.below hU
            have q2_4 := q2_3.below hU
            have lb_4 := lb_3.next hU
            generalize u.1 = w4 at *
            clear hB3 hU q1_3 q2_3 lb_3
            obtain ⟨l0, l1, lf, ll⟩ := id lb_4
            refine up_list 8 (by kernel_rfl) rfl ?_
            go_wp2
            refine ⟨(hB4.setCell (by simp only; omega) _).setCell (by simp only; omega) _, fun u => ?_⟩
            have kk := Lb.stored lb_4 (some ⟨w0.heap.size, 0, none⟩) (some ⟨w2.heap.size, 0, none⟩)
            have hU := u.2
            have lb_5 := kk.1.next hU
            have q1_5 := (q1_4.keep kk.2 (fun x hx e => by have : x = w0.heap.size := hx.resolve_right id; omega)).below hU
            have q2_5 := (q2_4.keep kk.2 (fun x hx e => by have : x = w2.heap.size := hx.resolve_right id; omega)).below hU
            have hB5 := next ((hB4.setCell (p := ⟨w1.heap.size, 0, none⟩) (by simp only; omega) (.pointer (some ⟨w0.heap.size, 0, none⟩))).setCell (p := ⟨w1.heap.size, 1, none⟩) (by simp only; omega) (.pointer (some ⟨w2.heap.size, 0, none⟩))) hU
            clear l0 l1 lf ll
            generalize u.1 = w5 at *
            refine up_done (by kernel_rfl) ?_
            go_wp2
            go_meet
            case rel => exact ⟨_, _, _, rfl, lb_5, q1_5, q2_5, o1, o2, hB5⟩
        · go_wp2
          refine ⟨by exact ba hB0, fun u => ?_⟩
          have hU : Below w0.heap.size w0 u.1 := next (ba (Below.refl _ _)) u.2
          have lb_1 := (Lb.made w0 none none).next (by exact u.2)
          have oR : wr.heap.size ≤ w0.heap.size := hB0.size
          have pR : w0.heap.size < u.1.heap.size := lb_1.lt
          have hB1 := next hB0 hU
          have zz1 := hU.size
          generalize u.1 = w1 at *
          clear hB0 hU
          refine up_list 2 (by kernel_rfl) rfl ?_
          go_wp2_with (go_at_call 29; refine (P.new_any _ _).mono ?_; rintro e ww ⟨rfl, hb, hq⟩; rw [HO.out] at hq)
          refine ⟨by exact next hB1 hb, fun u => ?_⟩
          have hU : Below w1.heap.size w1 u.1 := next hb u.2
          have q1_2 := hq.below u.2
          have o1 : wr.heap.size ≤ w1.heap.size := hB1.size
          have p1 : w1.heap.size < u.1.heap.size := (hq.below u.2).old _ (.inl rfl)
          have hB2 := next hB1 hU
          have zz2 := hU.size
          have lb_2 := lb_1.next hU
          generalize u.1 = w2 at *
          clear hB1 hU hq hb lb_1
          refine up_list 5 (by kernel_rfl) rfl ?_
          go_wp2_with (go_at_call 30; refine (new_any _ _).mono ?_; rintro e ww ⟨rfl, hb, hq⟩; rw [HI.out] at hq)
          refine ⟨by exact next hB2 hb, fun u => ?_⟩
          have hU : Below w2.heap.size w2 u.1 := next hb u.2
          have q2_3 := hq.below u.2
          have o2 : w1.heap.size < w2.heap.size := by omega
          have p2 : w2.heap.size < u.1.heap.size := (hq.below u.2).old _ (.inl rfl)
          have hB3 := next hB2 hU
          have zz3 := hU.size
          have q1_3 := q1_2.below hU
          have lb_3 := lb_2.next hU
          generalize u.1 = w3 at *
          clear hB2 hU hq hb q1_2 lb_2
          refine up_list 6 (by kernel_rfl) rfl ?_
          go_wp2
          refine ⟨by exact hB3, fun u => ?_⟩
          have hU : Below w3.heap.size w3 u.1 := u.2
          have hB4 := next hB3 hU
          have zz4 := hU.size
          have q1_4 := q1_3.below hU
          have q2_4 := q2_3.below hU
          have lb_4 := lb_3.next hU
          generalize u.1 = w4 at *
          clear hB3 hU q1_3 q2_3 lb_3
          obtain ⟨l0, l1, lf, ll⟩ := id lb_4
          refine up_list 8 (by kernel_rfl) rfl ?_
          go_wp2
          refine ⟨(hB4.setCell (by simp only; omega) _).setCell (by simp only; omega) _, fun u => ?_⟩
          have kk := Lb.stored lb_4 (some ⟨w1.heap.size, 0, none⟩) (some ⟨w2.heap.size, 0, none⟩)
          have hU := u.2
          have lb_5 := kk.1.next hU
          have q1_5 := (q1_4.keep kk.2 (fun x hx e => by have : x = w1.heap.size := hx.resolve_right id; omega)).below hU
          have q2_5 := (q2_4.keep kk.2 (fun x hx e => by have : x = w2.heap.size := hx.resolve_right id; omega)).below hU
          have hB5 := next ((hB4.setCell (p := ⟨w0.heap.size, 0, none⟩) (by simp only; omega) (.pointer (some ⟨w1.heap.size, 0, none⟩))).setCell (p := ⟨w0.heap.size, 1, none⟩) (by simp only; omega) (.pointer (some ⟨w2.heap.size, 0, none⟩))) hU
          clear l0 l1 lf ll
          generalize u.1 = w5 at *
          refine up_done (by kernel_rfl) ?_
          go_wp2
          go_meet
          case rel => exact ⟨_, _, _, rfl, lb_5, q1_5, q2_5, o1, o2, hB5⟩
      case rest =>
        obtain ⟨g1, g2, gR, rfl, hlb, q1, q2, o1, o2, hb1⟩ := hcut
        have zx := hb1.size
        have d5 : wc.cell? ⟨w.heap.size, 5, none⟩ = some (.int .i64 (O : Int)) := ((bcell hb1).1 _ 5 lc).trans c5
        have d6 : wc.cell? ⟨w.heap.size, 6, none⟩ = some (.int .i64 (I : Int)) := ((bcell hb1).1 _ 6 lc).trans c6
        have lcx : w.heap.size < wc.heap.size := by omega
        go_upto_region 6 with (first
          | (go_at_call 29; refine (P.new_any _ _).mono ?_; rintro e w2 ⟨rfl, hb2, hq3⟩; rw [HO.out] at hq3)
          | (go_at_call 30; refine (new_any _ _).mono ?_; rintro e w3 ⟨rfl, hb3, hq4⟩; rw [H1.out] at hq4))
        obtain ⟨g3, hg3⟩ : ∃ g, wc.heap.size = g := ⟨_, rfl⟩
        obtain ⟨g4, hg4⟩ : ∃ g, w2.heap.size = g := ⟨_, rfl⟩
        have o3 : g2 < g3 := by have := q2.old g2 (.inl rfl); omega
        have o4 : g3 < g4 := by have := hq3.old _ (.inl rfl); omega
        have lbA := Lb.made w3 (some ⟨wc.heap.size, 0, none⟩) (some ⟨w2.heap.size, 0, none⟩)
        have hup := ba (o := .cells #[.pointer (some ⟨wc.heap.size, 0, none⟩), .pointer (some ⟨w2.heap.size, 0, none⟩)] 71) (next hb2 hb3)
        have lbR := hlb.next hup
        have Q1 := q1.below hup
        have Q2 := q2.below hup
        have Q3 := hq3.below (ba (o := .cells #[.pointer (some ⟨wc.heap.size, 0, none⟩), .pointer (some ⟨w2.heap.size, 0, none⟩)] 71) hb3)
        have Q4 := hq4.below (ba (o := .cells #[.pointer (some ⟨wc.heap.size, 0, none⟩), .pointer (some ⟨w2.heap.size, 0, none⟩)] 71) (Below.refl _ _))
        have hB := next hb1 hup
        clear hup hb1 hb2 hb3 hq3 hq4 q1 q2 hlb d5 d6 lcx zx
        rw [hg3, hg4] at *
        generalize w3.alloc (.cells #[.pointer (some ⟨g3, 0, none⟩), .pointer (some ⟨g4, 0, none⟩)] 71) = W4 at *
        generalize w3.heap.size = gA at *
        refine wp_region_orders 12 rfl (by kernel_rfl) ?_
        have hdr : Below W4.heap.size W4 W4.drew := (Below.refl _ _).drew
        replace lbA := lbA.next hdr
        replace lbR := lbR.next hdr
        replace Q1 := Q1.below hdr
        replace Q2 := Q2.below hdr
        replace Q3 := Q3.below hdr
        replace Q4 := Q4.below hdr
        replace hB := next hB hdr
        clear hdr
        generalize W4.drew = wd at *
        obtain ⟨lA0, lA1, lAf, lAl⟩ := id lbA
        obtain ⟨lR0, lR1, lRf, lRl⟩ := id lbR
        have lgf : w.heap.size + 1 < wr.heap.size := by omega
        have fcd : wd.cell? ⟨w.heap.size + 1, 0, none⟩ = some (.slice a (2 * j) cap) := ((bcell hB).1 _ 0 lgf).trans hN.fc
        have lgd : w.heap.size + 1 < wd.heap.size := by have := hB.size; omega
        have uc := @Up.cell2
        have uf := @Up.frozen2
        refine any_take 0 (.pointer (some ⟨w.heap.size + 1, 0, none⟩)) rfl (by kernel_rfl) (by kernel_rfl) (by kernel_rfl) (fun _ _ _ h => h) (by kernel_rfl) (fun w => by go_simp) ?_
        simp only [Act.put, List.setIfInBounds_toArray, List.set_cons_zero, List.set_cons_succ]
        refine any_take 1 (.pointer (some ⟨w.heap.size + 1, 0, none⟩)) rfl (by kernel_rfl) (by kernel_rfl) (by kernel_rfl) (fun _ _ _ h => h) (by kernel_rfl) (fun w => by go_simp) ?_
        simp only [Act.put, List.setIfInBounds_toArray, List.set_cons_zero, List.set_cons_succ]
        refine any_take 2 (.pointer (some ⟨w.heap.size + 1, 0, none⟩)) rfl (by kernel_rfl) (by kernel_rfl) (by kernel_rfl) (fun _ _ _ h => h) (by kernel_rfl) (fun w => by go_simp) ?_
        simp only [Act.put, List.setIfInBounds_toArray, List.set_cons_zero, List.set_cons_succ]
        refine any_take 3 (.pointer (some ⟨w.heap.size + 1, 0, none⟩)) rfl (by kernel_rfl) (by kernel_rfl) (by kernel_rfl) (fun _ _ _ h => h) (by kernel_rfl) (fun w => by go_simp) ?_
        simp only [Act.put, List.setIfInBounds_toArray, List.set_cons_zero, List.set_cons_succ]
        refine any_mildx [8, 9, 10, 11] ?_
        refine mildy_take (v := ?v1) [8, 9, 10, 11] 4 rfl (by kernel_rfl) (by kernel_rfl) (by kernel_rfl) (by kernel_rfl) (by kernel_rfl) (fun _ _ _ h => h) (by kernel_rfl) (fun Wu K hK => ?hy1) ?go1
        case hy1 =>
          go_big_quiet_op
          simp only [Act.put, List.setIfInBounds_toArray, List.set_cons_zero, List.set_cons_succ] at hK
          exact hK
        simp only [Act.put, List.setIfInBounds_toArray, List.set_cons_zero, List.set_cons_succ]
        refine mildy_take (v := ?v2) [7, 8, 9, 10, 11] 5 rfl (by kernel_rfl) (by kernel_rfl) (by kernel_rfl) (by kernel_rfl) (by kernel_rfl) (fun _ _ _ h => h) (by kernel_rfl) (fun Wu K hK => ?hy2) ?go2
        case hy2 =>
          go_big_quiet_op
          simp only [Act.put, List.setIfInBounds_toArray, List.set_cons_zero, List.set_cons_succ] at hK
          exact hK
        simp only [Act.put, List.setIfInBounds_toArray, List.set_cons_zero, List.set_cons_succ]
        refine mildy_take (v := ?v3) [7, 8, 9, 10, 11] 6 rfl (by kernel_rfl) (by kernel_rfl) (by kernel_rfl) (by kernel_rfl) (by kernel_rfl) (fun _ _ _ h => h) (by kernel_rfl) (fun Wu K hK => ?hy3) ?go3
        case hy3 =>
          go_big_quiet_op
          simp only [Act.put, List.setIfInBounds_toArray, List.set_cons_zero, List.set_cons_succ] at hK
          exact hK
        simp only [Act.put, List.setIfInBounds_toArray, List.set_cons_zero, List.set_cons_succ]
        intro W
        clear uc uf
        have hW := W.2
        clear lA0 lA1 lAf lAl lR0 lR1 lRf lRl fcd lgd lbA lbR
        generalize W.1 = wa at *
        refine upx_list 7 (by kernel_rfl) rfl ?_
        go_wp2
        refine ⟨ba hW, fun u => ?_⟩
        have hU := u.2
        have hU4 : Below wr.heap.size wr u.1 := next (next hB hW) (next (ba (Below.refl _ _)) hU)
        have hU3 : Below wd.heap.size wd u.1 := next hW (next (ba (Below.refl _ _)) hU)
        have news : ∀ i v, ([.pointer (some ⟨g1, 0, none⟩), .pointer (some ⟨g2, 0, none⟩), .pointer (some ⟨g3, 0, none⟩), .pointer (some ⟨g4, 0, none⟩)] : List Value)[i]? = some v → u.1.cell? ((⟨wa.heap.size, 0, none⟩ : Addr).add i) = some v := by
          intro i v hv
          rw [Addr.add_lit, Nat.zero_add]
          have hi : i < 4 := (List.getElem?_eq_some_iff.1 hv).1
          rw [hU.cell (p := ⟨wa.heap.size, i, none⟩) (by simp)]
          match i, hi with
          | 0, _ => rw [← hv]; simp
          | 1, _ => rw [← hv]; simp
          | 2, _ => rw [← hv]; simp
          | 3, _ => rw [← hv]; simp
        replace Q1 := Q1.below hU3
        replace Q2 := Q2.below hU3
        replace Q3 := Q3.below hU3
        replace Q4 := Q4.below hU3
        have fc4 : u.1.cell? ⟨w.heap.size + 1, 0, none⟩ = some (.slice a (2 * j) cap) := ((bcell hU4).1 _ 0 lgf).trans hN.fc
        have fz4 : u.1.frozen? ⟨w.heap.size + 1, 0, none⟩ = false := ((bcell hU4).2 _ 0 lgf).trans hN.fz
        have e5 : u.1.cell? ⟨w.heap.size, 5, none⟩ = some (.int .i64 (O : Int)) := ((bcell hU4).1 _ 5 lc).trans c5
        have e6 : u.1.cell? ⟨w.heap.size, 6, none⟩ = some (.int .i64 (I : Int)) := ((bcell hU4).1 _ 6 lc).trans c6
        have lgu : w.heap.size + 1 < u.1.heap.size := by have := hU4.size; omega
        clear hU hU3 hW
        generalize u.1 = w4 at *
        generalize wa.heap.size = bs at *
        obtain ⟨i0, hi, hp0, hp1, hp2⟩ := info_parts Try.infoLane
        refine upx_write 8 (by kernel_rfl) (by kernel_rfl) rfl ?_
        refine wpList_append_rw w4 SL (by kernel_rfl) (.tmp 28) (.tmp 31) 63 rfl 71 i0 (.agg #[.pointer none, .pointer none]) 2 16 Try.underlying63 hi hp0 hp1 hp2 rfl (by decide) a (2 * j) cap (lanesV G (2 * j)) rfl (hN.row.below hU4) ⟨bs, 0, none⟩ 2 2 [.pointer (some ⟨g1, 0, none⟩), .pointer (some ⟨g2, 0, none⟩), .pointer (some ⟨g3, 0, none⟩), .pointer (some ⟨g4, 0, none⟩)] rfl (by omega) rfl news (by simp only [List.mem_cons, List.not_mem_nil, or_false, forall_eq_or_imp, forall_eq]; exact ⟨rfl, rfl, rfl, rfl⟩) (by unfold maxLen; omega) (by omega) ?_
        intro a5 c5' w5 hrw5 hk5
        refine then_n ?_
        simp only [Act.put, List.setIfInBounds_toArray, List.set_cons_zero, List.set_cons_succ]
        have ns : ∀ b, b < w.heap.size + 2 → ¬ SL b := fun b hb hs => by have := hN.slo b hs; omega
        refine any_take 9 (.pointer (some ⟨w.heap.size + 1, 0, none⟩)) rfl (by kernel_rfl) (by kernel_rfl) (by kernel_rfl) (fun _ _ _ h => h) (by kernel_rfl) (fun w => by go_simp) ?_
        simp only [Act.put, List.setIfInBounds_toArray, List.set_cons_zero, List.set_cons_succ]
        refine any_take 10 (.pointer (some ⟨w.heap.size + 1, 0, none⟩)) rfl (by kernel_rfl) (by kernel_rfl) (by kernel_rfl) (fun _ _ _ h => h) (by kernel_rfl) (fun w => by go_simp) ?_
        simp only [Act.put, List.setIfInBounds_toArray, List.set_cons_zero, List.set_cons_succ]
        have f5 : w5.cell? ⟨w.heap.size + 1, 0, none⟩ = some (.slice a (2 * j) cap) := (hk5.cell 0 lgu (ns _ (by omega))).trans fc4
        have fz5 : w5.frozen? ⟨w.heap.size + 1, 0, none⟩ = false := (hk5.frozen 0 lgu (ns _ (by omega))).trans fz4
        have k5 : w5.cell? ⟨w.heap.size, 5, none⟩ = some (.int .i64 (O : Int)) := (hk5.cell 5 (by omega) (ns _ (by omega))).trans e5
        have k6 : w5.cell? ⟨w.heap.size, 6, none⟩ = some (.int .i64 (I : Int)) := (hk5.cell 6 (by omega) (ns _ (by omega))).trans e6
        refine any_list 11 (by kernel_rfl) rfl ?_
        go_wp2
        refine then_n ?_
        refine any_done (by kernel_rfl) ?_
        obtain ⟨G', M', D', hN'⟩ := hN.grow (by exact hU4) Q1 Q2 Q3 Q4 o1 o2 o3 o4 hrw5 hk5
        have hbw5 : Below w.heap.size w w5 := (next hbw hU4).trans (hk5.below (fun k hs => by have := hN.slo k hs; omega) (by omega))
        clear hN
        go_wp2
        go_roundw
        case rel => exact ⟨j + 1, G', M', D', _, _, _, by omega, by go_num, hN', by rw [World.cell?_setCell_other _ _ _ _ (by simp)]; exact k5, by rw [World.cell?_setCell_other _ _ _ _ (by simp)]; exact k6, hbw5.setCell (by simp only; omega) _⟩
        case measure => simp [intOf]; omega
    · obtain rfl : j = N := by omega
      obtain ⟨m0, m1, m2, m3, m4, m5⟩ := HC.out
      obtain ⟨B, hF, hB⟩ := hN.done m0 m1 m2 m3 m4 m5
      clear m0 m1 m2 m3 m4 m5 c5 c6 hN
      go_wp2
      go_ret
      exact ⟨_, B, rfl, hbw, hF, hB⟩
end Go.Proofs.Ytjdbjmfkheffdaa
end
section
namespace Go.Proofs.Ytjdbjmfkheffdaa
open Go.RowKit
set_option linter.unusedVariables false
set_option maxRecDepth 20000

/-- A network, made since w; its memory is none of X. -/
def On (w V : World) (gf nn : Nat) (out inn : Int) (F : Nat → List Pk) (X : Nat → Prop) : Prop := ∃ B, Fb V gf nn out inn F B ∧ (∀ k, B k → w.heap.size ≤ k ∧ ¬ X k) ∧ Below w.heap.size w V ∧ (∀ k, X k → k < V.heap.size)
section
variable {w V V' : World} {gf nn : Nat} {out inn : Int} {F F' : Nat → List Pk} {X X' R : Nat → Prop}
theorem On.turn (h : On w V gf nn out inn F X) (hk : Keep R V V') (hR : ∀ k, R k → X k ∨ V.heap.size ≤ k) (hw : ∀ k, R k → w.heap.size ≤ k) (hX : ∀ k, X' k → X k ∨ V.heap.size ≤ k) (hl : ∀ k, X' k → k < V'.heap.size) : On w V' gf nn out inn F X' := by
  obtain ⟨B, hf, hB, hb, hx⟩ := h
  have hold : ∀ k, B k → k < V.heap.size := by obtain ⟨_, _, _, _, _, _, h⟩ := hf; exact h.old
  have nx : ∀ k, B k → ¬ X k ∧ ¬ V.heap.size ≤ k := fun k hk => ⟨(hB k hk).2, by have := hold k hk; omega⟩
  refine ⟨B, hf.keep hk (fun k hk hr => ?_), fun k hk => ⟨(hB k hk).1, fun hx' => ?_⟩, hk.after hb hw, hl⟩
  · exact (hR k hr).elim (nx k hk).1 (nx k hk).2
  · exact (hX k hx').elim (nx k hk).1 (nx k hk).2
theorem On.below (h : On w V gf nn out inn F X) (hb : Below V.heap.size V V') : On w V' gf nn out inn F X :=
  h.turn (R := fun _ => False) (Keep.of_below hb) (fun _ h => h.elim) (fun _ h => h.elim) (fun _ h => .inl h) (fun k hk => by obtain ⟨_, _, _, _, hx⟩ := h; exact Nat.lt_of_lt_of_le (hx k hk) hb.size)
theorem On.more (h : On w V gf nn out inn F X) (hb : Below V.heap.size V V') (hX : ∀ k, X' k → X k ∨ (V.heap.size ≤ k ∧ k < V'.heap.size)) : On w V' gf nn out inn F X' :=
  h.turn (R := fun _ => False) (Keep.of_below hb) (fun _ h => h.elim) (fun _ h => h.elim) (fun k h => (hX k h).imp id (fun h => h.1)) (fun k hk => by
    obtain ⟨_, _, _, _, hx⟩ := h
    rcases hX k hk with h | h
    · exact Nat.lt_of_lt_of_le (hx k h) hb.size
    · exact h.2)
theorem On.bel (h : On w V gf nn out inn F X) : Below w.heap.size w V := by obtain ⟨_, _, _, hb, _⟩ := h; exact hb
theorem On.xlt (h : On w V gf nn out inn F X) : ∀ k, X k → k < V.heap.size := by obtain ⟨_, _, _, _, hx⟩ := h; exact hx
/-- Behind a call. -/
theorem On.step (h : On w V gf nn out inn F X) {P : Program} {f : FuncId} {args : Array Value} {C : Ending → World → Prop} (hc : ∀ B, Fb V gf nn out inn F B → Calls P f args V fun e w' => C e w' ∧ FThen V w' gf nn out inn F' B) :
    Calls P f args V fun e w' => C e w' ∧ On w w' gf nn out inn F' X ∧ Keep (fun k => ¬ X k) V w' := by
  obtain ⟨B, hf, hB, hb, hx⟩ := h
  refine (hc B hf).mono ?_
  rintro e w' ⟨hc, hk, B', hf', hB'⟩
  refine ⟨hc, ⟨B', hf', fun k hk' => ?_, hk.after hb (fun k hk => (hB k hk).1), fun k hk' => Nat.lt_of_lt_of_le (hx k hk') hk.size⟩, hk.mono (fun k _ hk => (hB k hk).2)⟩
  rcases hB' k hk' with h | h
  · exact hB k h
  · exact ⟨Nat.le_trans hb.size h, fun hx' => by have := hx k hx'; omega⟩
theorem send_on (h : On w V gf nn out inn F X) {e : Int} (x : Pk) (a : Option Addr) (n cap : Nat) (hsl : Sl V a n cap x.z) (hz : R64 x.z) (hs : SendTo nn out F x e F') :
    Calls Try.prog 12 #[.pointer (some ⟨gf, 0, none⟩), x.val (.slice a n cap)] V fun en w' => en = .returned (.int .i64 e) ∧ On w w' gf nn out inn F' X ∧ Keep (fun k => ¬ X k) V w' :=
  h.step fun B hf => send_any V hf x a n cap hsl hz hs
theorem send_on_no (h : On w V gf nn out inn F X) (x : Pk) (a : Option Addr) (n cap : Nat) (hsl : Sl V a n cap x.z) (hr : x.right = false) :
    Calls Try.prog 12 #[.pointer (some ⟨gf, 0, none⟩), x.val (.slice a n cap)] V fun en w' => en = .returned (.int .i64 1) ∧ Below V.heap.size V w' := by
  obtain ⟨B, hf, _⟩ := h
  exact send_err V hf x a n cap hsl hr
theorem send_on_far (h : On w V gf nn out inn F X) (x : Pk) (a : Option Addr) (n cap : Nat) (hsl : Sl V a n cap x.z) (hr : x.right = true) (hf : (nn : Int) ≤ x.f ∨ (nn : Int) ≤ x.t) :
    Calls Try.prog 12 #[.pointer (some ⟨gf, 0, none⟩), x.val (.slice a n cap)] V fun en w' => en = .returned (.int .i64 1) ∧ Below V.heap.size V w' := by
  obtain ⟨B, hf', _⟩ := h
  exact send_far V hf' x a n cap hsl hr hf
theorem deliver_on (h : On w V gf nn out inn F X) {e : Int} (a bit mask : Int) (h63 : a < 9223372036854775808) (hm0 : 0 ≤ mask) (hm1 : mask < 65536) (hd : DelTo nn out inn F a bit mask e F') :
    Calls Try.prog 13 #[.pointer (some ⟨gf, 0, none⟩), .int .i64 a, .int .i64 bit, .int .u16 mask] V fun en w' => en = .returned (.int .i64 e) ∧ On w w' gf nn out inn F' X ∧ Keep (fun k => ¬ X k) V w' :=
  h.step fun B hf => deliver_any V hf a bit mask h63 hm0 hm1 hd
/-- What Request and Reply tell. -/
def TkO (V : World) (X : Nat → Prop) (o : Option Pk) (e : Ending) (w' : World) : Prop := ∃ a n c, e = .returned (.tuple #[(o.getD zeroPk).val (.slice a n c), .bool o.isSome]) ∧ Sl w' a n c (o.getD zeroPk).z ∧ ((o.getD zeroPk).z ≠ [] → ∀ y : Addr, a = some y → ¬ X y.block) ∧ (o.isSome = false → Below V.heap.size V w')
theorem tk_on (h : On w V gf nn out inn F X) {o : Option Pk} {P : Program} {f : FuncId} {args : Array Value} (hc : ∀ B, Fb V gf nn out inn F B → Calls P f args V fun e w' => Tk V gf nn out inn F' B o e w') :
    Calls P f args V fun e w' => TkO V X o e w' ∧ On w w' gf nn out inn F' X ∧ Keep (fun k => ¬ X k) V w' := by
  obtain ⟨B, hf, hB, hb, hx⟩ := h
  refine (hc B hf).mono ?_
  rintro e w' ⟨d, rfl, hd, ⟨hk, B', hf', hB'⟩, hno⟩
  obtain ⟨a, n, c, rfl, hs, _, hD⟩ := hd
  refine ⟨⟨a, n, c, rfl, hs, fun hz y hy => (hB _ (hD hz y hy)).2, hno⟩, ⟨B', hf', fun k hk' => ?_, hk.after hb (fun k hk => (hB k hk).1), fun k hk' => Nat.lt_of_lt_of_le (hx k hk') hk.size⟩, hk.mono (fun k _ hk => (hB k hk).2)⟩
  rcases hB' k hk' with h | h
  · exact hB k h
  · exact ⟨Nat.le_trans hb.size h, fun hx' => by have := hx k hx'; omega⟩
theorem request_on (h : On w V gf nn out inn F X) {o : Option Pk} (i : Int) (ht : TakeTo nn F i true o F') :
    Calls Try.prog 16 #[.pointer (some ⟨gf, 0, none⟩), .int .i64 i] V fun e w' => TkO V X o e w' ∧ On w w' gf nn out inn F' X ∧ Keep (fun k => ¬ X k) V w' :=
  tk_on h fun B hf => frequest_any V hf i ht
theorem reply_on (h : On w V gf nn out inn F X) {o : Option Pk} (i : Int) (ht : TakeTo nn F i false o F') :
    Calls Try.prog 17 #[.pointer (some ⟨gf, 0, none⟩), .int .i64 i] V fun e w' => TkO V X o e w' ∧ On w w' gf nn out inn F' X ∧ Keep (fun k => ¬ X k) V w' :=
  tk_on h fun B hf => freply_any V hf i ht
theorem under_on (h : On w V gf nn out inn F X) (n : Int) (hn : ((laneL F (2 * nn)).length : Int) = n) :
    Calls Try.prog 14 #[.pointer (some ⟨gf, 0, none⟩)] V fun e w' => e = .returned (.int .i64 n) ∧ Below V.heap.size V w' := by
  obtain ⟨B, hf, _⟩ := h
  exact under_any V hf n hn
theorem waiting_on (h : On w V gf nn out inn F X) (i : Nat) (hi : i < nn) (x : Int) (hx : x = (i : Int)) (n m : Int) (hn : ((F (pr (2 * i) + 2)).length : Int) = n) (hm : ((F (pr (2 * i + 1) + 2)).length : Int) = m) :
    Calls Try.prog 15 #[.pointer (some ⟨gf, 0, none⟩), .int .i64 x] V fun e w' => e = .returned (.tuple #[.int .i64 n, .int .i64 m]) ∧ Below V.heap.size V w' := by
  obtain ⟨B, hf, _⟩ := h
  exact waiting_yes V hf i hi x hx n m hn hm
theorem room_on (h : On w V gf nn out inn F X) (i : Nat) (hi : i < nn) (x : Int) (hx : x = (i : Int)) (b : Bool) (n : Int) (hn : out - ((F (pr (2 * i + laneS b))).length : Int) = n) :
    Calls Try.prog 20 #[.pointer (some ⟨gf, 0, none⟩), .int .i64 x, .bool b] V fun e w' => e = .returned (.int .i64 n) ∧ Below V.heap.size V w' := by
  obtain ⟨B, hf, _⟩ := h
  cases b
  · exact room_ans V hf i hi x hx n hn
  · exact room_req V hf i hi x hx n hn
theorem packet_on (h : On w V gf nn out inn F X) {q k : Nat} {x : Pk} (hq : q < 2 * nn) (hx : (F (pr q))[k]? = some x) (a : Int) (ha : a = ((laneL F q).length : Int) + k) :
    Calls Try.prog 27 #[.pointer (some ⟨gf, 0, none⟩), .int .i64 a] V fun e w' => ∃ d, e = .returned (.tuple #[x.val d, .bool true]) ∧ Below V.heap.size V w' ∧ Own w' V.heap.size d x.z := by
  obtain ⟨B, hf, _⟩ := h
  exact packet_yes V hf hq hx a ha
theorem new_on (hb : Below w.heap.size w V) (hX : ∀ k, X k → k < V.heap.size) (N L K S Y O I : Nat) (t : Value) (ht : t.oneCell' = true) (n0 : 1 ≤ N) (n1 : N ≤ 6) (o0 : 1 ≤ O) (o1 : O ≤ 1000) (i0 : 1 ≤ I) (i1 : I ≤ 1000) :
    Calls Try.prog 9 #[.agg #[.int .i64 (N : Int), .int .i64 (L : Int), .int .i64 (K : Int), .int .i64 (S : Int), .int .i64 (Y : Int), .int .i64 (O : Int), .int .i64 (I : Int), t]] V fun e w' => ∃ gf, e = .returned (.pointer (some ⟨gf, 0, none⟩)) ∧ On w w' gf N O I (fun _ => []) X ∧ Below V.heap.size V w' := by
  refine (fnew_any V N L K S Y O I t ht n0 n1 o0 o1 i0 i1).mono ?_
  rintro e w' ⟨gf, B, rfl, hb', hf, hB⟩
  exact ⟨gf, rfl, ⟨B, hf, fun k hk => ⟨Nat.le_trans hb.size (hB k hk), fun hx => by have := hX k hx; have := hB k hk; omega⟩, next hb hb', fun k hk => Nat.lt_of_lt_of_le (hX k hk) hb'.size⟩, hb'⟩
end
end Go.Proofs.Ytjdbjmfkheffdaa
end
section
namespace Go.Proofs.Ytjdbjmfkheffdaa
open Go.RowKit
set_option linter.unusedVariables false
set_option maxRecDepth 20000

/-- All that wait, at the first k nodes. -/
def waitN (F : Nat → List Pk) : Nat → Nat
  | 0 => 0
  | k + 1 => waitN F k + ((F (pr (2 * k) + 2)).length + (F (pr (2 * k + 1) + 2)).length)
def totalN (F : Nat → List Pk) (nn : Nat) : Nat := (laneL F (2 * nn)).length + waitN F nn
theorem waitN_mono (F : Nat → List Pk) {i j : Nat} (h : i ≤ j) : waitN F i ≤ waitN F j := by
  induction j with
  | zero => have : i = 0 := by omega
            subst this; exact Nat.le_refl _
  | succ j ih =>
    by_cases e : i = j + 1
    · subst e; exact Nat.le_refl _
    · have := ih (by omega)
      rw [waitN]; omega
theorem Rm_q2 {out inn : Int} {j : Nat} : Rm out inn (pr (2 * j) + 2) = inn := by unfold Rm pr; rw [if_pos (by omega)]
theorem Rm_q3 {out inn : Int} {j : Nat} : Rm out inn (pr (2 * j + 1) + 2) = 1 := by unfold Rm pr; rw [if_neg (by omega), if_pos (by omega)]
theorem waitN_out (F : Nat → List Pk) (q : Nat) (L : List Pk) : ∀ k, waitN (upd F (pr q) L) k = waitN F k
  | 0 => rfl
  | k + 1 => by rw [waitN, waitN, waitN_out F q L k, upd_other _ _ (fun e => pr_ne e.symm), upd_other _ _ (fun e => pr_ne e.symm)]
theorem waitN_same (F : Nat → List Pk) (q : Nat) (L : List Pk) : ∀ k, 2 * k ≤ q → waitN (upd F (pr q + 2) L) k = waitN F k
  | 0, _ => rfl
  | k + 1, h => by
    rw [waitN, waitN, waitN_same F q L k (by omega), upd_other _ _ (fun e => by have := pr_inj (show pr (2 * k) = pr q by omega); omega), upd_other _ _ (fun e => by have := pr_inj (show pr (2 * k + 1) = pr q by omega); omega)]
theorem waitN_in (F : Nat → List Pk) (q : Nat) (L : List Pk) : ∀ k, q < 2 * k → waitN (upd F (pr q + 2) L) k + (F (pr q + 2)).length = waitN F k + L.length
  | 0, h => by omega
  | k + 1, h => by
    rw [waitN, waitN]
    by_cases h1 : q < 2 * k
    · have := waitN_in F q L k h1
      rw [upd_other _ _ (fun e => by have := pr_inj (show pr (2 * k) = pr q by omega); omega), upd_other _ _ (fun e => by have := pr_inj (show pr (2 * k + 1) = pr q by omega); omega)]
      omega
    · rw [waitN_same F q L k (by omega)]
      by_cases h2 : q = 2 * k
      · subst h2
        rw [upd_same, upd_other _ _ (fun e => by have := pr_inj (show pr (2 * k + 1) = pr (2 * k) by omega); omega)]
        omega
      · obtain rfl : q = 2 * k + 1 := by omega
        rw [upd_same, upd_other _ _ (fun e => by have := pr_inj (show pr (2 * k) = pr (2 * k + 1) by omega); omega)]
        omega
theorem total_out (F : Nat → List Pk) {q nn : Nat} (L : List Pk) (h : q < 2 * nn) : totalN (upd F (pr q) L) nn + (F (pr q)).length = totalN F nn + L.length := by
  have := lane_more F L q (2 * nn) h
  unfold totalN
  rw [waitN_out]; omega
theorem total_in (F : Nat → List Pk) {q nn : Nat} (L : List Pk) (h : q < 2 * nn) : totalN (upd F (pr q + 2) L) nn + (F (pr q + 2)).length = totalN F nn + L.length := by
  have := waitN_in F q L nn h
  unfold totalN
  rw [lane_in]; omega
theorem total_nil (nn : Nat) : totalN (fun _ => []) nn = 0 := by
  have h1 : ∀ m, laneL (fun _ => []) m = [] := fun m => by
    induction m with
    | zero => rfl
    | succ m ih => rw [laneL_succ, ih]; rfl
  have h2 : ∀ k, waitN (fun _ => []) k = 0 := fun k => by
    induction k with
    | zero => rfl
    | succ k ih => rw [waitN, ih]; rfl
  unfold totalN; rw [h1, h2]; rfl
section
variable {nn : Nat} {out inn : Int} {F F' : Nat → List Pk}
theorem send_total {x : Pk} {e : Int} (h : SendTo nn out F x e F') : (e = 0 ∧ totalN F' nn = totalN F nn + 1) ∨ (e ≠ 0 ∧ totalN F' nn = totalN F nn) := by
  cases h with
  | no => exact .inr ⟨by decide, rfl⟩
  | far => exact .inr ⟨by decide, rfl⟩
  | full => exact .inr ⟨by decide, rfl⟩
  | ok hr hf ht hl =>
    have hq : fromQ x < 2 * nn := by
      have := ((Pk.right_iff x).1 hr).f
      have := sortN_lt x
      unfold fromQ; omega
    have := total_out F (F (pr (fromQ x)) ++ [x]) hq
    rw [List.length_append] at this
    simp at this
    exact .inl ⟨rfl, by omega⟩
theorem del_total {a bit mask e : Int} (hg : ∀ q, q < 4 * nn → ∀ x ∈ F q, Good nn x) (h : DelTo nn out inn F a bit mask e F') : totalN F' nn = totalN F nn := by
  cases h with
  | none => rfl
  | form => rfl
  | full => rfl
  | ok q k x hq hx ha hw hl =>
    have hgx := hg (pr q) (by have := pr_lt hq; omega) x (List.mem_of_getElem? hx)
    have hk : k < (F (pr q)).length := (List.getElem?_eq_some_iff.1 hx).1
    have h1 := total_in F (F (pr (toQ x) + 2) ++ [x]) hgx.tq.1
    have h2 := total_out (upd F (pr (toQ x) + 2) (F (pr (toQ x) + 2) ++ [x])) ((F (pr q)).eraseIdx k) hq
    rw [upd_other _ _ pr_ne, List.length_eraseIdx_of_lt hk] at h2
    rw [List.length_append] at h1
    simp at h1
    omega
theorem take_total {i : Int} {b : Bool} {o : Option Pk} (h : TakeTo nn F i b o F') : (o.isSome = true ∧ totalN F' nn + 1 = totalN F nn) ∨ (o.isSome = false ∧ totalN F' nn = totalN F nn) := by
  cases h with
  | no => exact .inr ⟨rfl, rfl⟩
  | empty => exact .inr ⟨rfl, rfl⟩
  | some k x L hk hi hF =>
    have := total_in (nn := nn) F (q := 2 * k + laneS b) L (by have := laneS_lt b; omega)
    rw [hF] at this
    simp at this
    exact .inl ⟨rfl, by omega⟩
theorem send_ex (x : Pk) (hr : ∀ q, q < 4 * nn → ((F q).length : Int) ≤ Rm out inn q) : ∃ e F', SendTo nn out F x e F' := by
  by_cases h1 : x.right = true
  · by_cases h2 : (nn : Int) ≤ x.f ∨ (nn : Int) ≤ x.t
    · exact ⟨_, _, .far h1 h2⟩
    · have hq : fromQ x < 2 * nn := by
        have := ((Pk.right_iff x).1 h1).f
        have := sortN_lt x
        unfold fromQ; omega
      have := hr (pr (fromQ x)) (by have := pr_lt hq; omega)
      rw [Rm_out] at this
      by_cases h3 : ((F (pr (fromQ x))).length : Int) = out
      · exact ⟨_, _, .full h1 (by omega) (by omega) h3⟩
      · exact ⟨_, _, .ok h1 (by omega) (by omega) (by omega)⟩
  · exact ⟨_, _, .no (by simpa using h1)⟩
theorem del_ex (a bit mask : Int) (hg : ∀ q, q < 4 * nn → ∀ x ∈ F q, Good nn x) (hr : ∀ q, q < 4 * nn → ((F q).length : Int) ≤ Rm out inn q) : ∃ e F', DelTo nn out inn F a bit mask e F' := by
  by_cases h1 : a < 0 ∨ ((laneL F (2 * nn)).length : Int) ≤ a
  · exact ⟨_, _, .none h1⟩
  · obtain ⟨q, k, x, hq, hx, ha⟩ := lane_at F (2 * nn) a.toNat (by omega)
    have ha' : a = ((laneL F q).length : Int) + k := by omega
    cases hw : wireB x bit mask
    · exact ⟨_, _, .form q k x hq hx ha' hw⟩
    · have hgx := hg (pr q) (by have := pr_lt hq; omega) x (List.mem_of_getElem? hx)
      have := hr (pr (toQ x) + 2) (pr_lt hgx.tq.1)
      by_cases h3 : ((F (pr (toQ x) + 2)).length : Int) = Rm out inn (pr (toQ x) + 2)
      · exact ⟨_, _, .full q k x hq hx ha' hw h3⟩
      · exact ⟨_, _, .ok q k x hq hx ha' hw (by omega)⟩
theorem take_ex (i : Int) (b : Bool) : ∃ o F', TakeTo nn F i b o F' := by
  by_cases h1 : i < 0 ∨ (nn : Int) ≤ i
  · exact ⟨_, _, .no h1⟩
  · cases h : F (pr (2 * i.toNat + laneS b) + 2) with
    | nil => exact ⟨_, _, .empty i.toNat (by omega) (by omega) h⟩
    | cons x L => exact ⟨_, _, .some i.toNat x L (by omega) (by omega) h⟩
variable {w V : World} {gf : Nat} {X : Nat → Prop}
theorem On.good (h : On w V gf nn out inn F X) : ∀ q, q < 4 * nn → ∀ x ∈ F q, Good nn x := by obtain ⟨_, ⟨_, _, _, _, _, _, h⟩, _⟩ := h; exact h.good
theorem On.rooms (h : On w V gf nn out inn F X) : ∀ q, q < 4 * nn → ((F q).length : Int) ≤ Rm out inn q := by obtain ⟨_, ⟨_, _, _, _, _, _, h⟩, _⟩ := h; exact h.rooms
theorem On.bound (h : On w V gf nn out inn F X) : ((laneL F (2 * nn)).length : Int) ≤ ((2 * nn : Nat) : Int) * out := by obtain ⟨_, ⟨_, _, _, _, _, _, h⟩, _⟩ := h; exact lane_bound h _ (Nat.le_refl _)
theorem On.max (h : On w V gf nn out inn F X) : (laneL F (2 * nn)).length ≤ 12000 := by obtain ⟨_, ⟨_, _, _, _, _, _, h⟩, _⟩ := h; exact lane_max h
end
end Go.Proofs.Ytjdbjmfkheffdaa
end
section
namespace Go.Proofs.Ytjdbjmfkheffdaa
open Go.RowKit
set_option linter.unusedVariables false
set_option maxRecDepth 20000

/-- A digit that is turned is found. -/
theorem wire_hit {y : Pk} {bit mask : Int} {k : Nat} (hm0 : 0 ≤ mask) (hm1 : mask < 65536) (hk : k < 8 * (12 + 8 * y.z.length)) (hh : B.hit bit mask k = true) : wireB y bit mask = false := by
  refine decide_eq_false fun e => ?_
  have hl : (B.sealI (packI y)).length = 12 + 8 * y.z.length := by rw [sealI_len, packI_len]; omega
  have d := B.spoilI_dig (bit := bit) (mask := mask) (l := B.sealI (packI y)) (B.sealI_b8 (packI_b8 y)) hm0 hm1 k (by omega)
  rw [e, hh] at d
  revert d
  cases B.digAt (B.sealI (packI y)) k <;> simp
def lockPk1 : Pk := ⟨1, 0, 1, 0, 0, 0, 0, false, []⟩
def wk1 : Nat → List Pk := upd (fun _ => []) (pr (fromQ lockPk1)) [lockPk1]
def wk2 : Nat → List Pk := upd (upd wk1 (pr (toQ lockPk1) + 2) [lockPk1]) (pr 0) []
theorem wk_send : SendTo 2 1 (fun _ => []) lockPk1 0 wk1 := SendTo.ok (by decide) (by decide) (by decide) (by decide)
theorem wk_form : DelTo 2 1 1 wk1 0 3 5 2 wk1 := DelTo.form 0 0 lockPk1 (by decide) rfl rfl (wire_hit (k := 16) (by decide) (by decide) (by decide) (by decide))
theorem wk_del : DelTo 2 1 1 wk1 0 0 0 0 wk2 := DelTo.ok 0 0 lockPk1 (by decide) rfl rfl (wire_zero _ _) (by decide)
theorem wk_take : TakeTo 2 wk2 1 true (some lockPk1) (upd wk2 (pr (2 * 1 + laneS true) + 2) []) := TakeTo.some 1 lockPk1 [] (by decide) rfl rfl
set_option maxHeartbeats 2000000 in
theorem fwakes_any (w : World) : Calls Try.prog 19 #[] w fun e w' => e = .returned (.bool true) ∧ Below w.heap.size w w' := by
  go_enter Try.func19, Try.ntmps19
  go_wp2_with (first
    | (go_at_call 9; refine (new_on (X := fun _ => False) (Below.refl _ _) (fun _ h => h.elim) 2 1 1 1 1 1 1 (.slice none 0 0) rfl (by decide) (by decide) (by decide) (by decide) (by decide) (by decide)).mono ?_; rintro e w1 ⟨gf, rfl, hf0, hb1⟩; clear hb1)
    | (have mk := hf4; clear mk; go_at_call 14; refine (under_on (hf4.below (ba (Below.refl _ _))) 0 rfl).mono ?_; rintro e w8 ⟨rfl, hb8⟩)
    | (have mk := hf1; clear mk; go_at_call 14; refine (under_on hf1 1 rfl).mono ?_; rintro e w4 ⟨rfl, hb4⟩)
    | (go_at_call 14; refine (under_on hf0 0 rfl).mono ?_; rintro e w2 ⟨rfl, hb2⟩)
    | (go_at_call 12; refine (send_on (hf0.below hb2) lockPk1 none 0 0 (sl_nil _) (by intro y hy; cases hy) wk_send).mono ?_; rintro e w3 ⟨rfl, hf1, _⟩)
    | (have mk := hf2; clear mk; go_at_call 13; refine (deliver_on hf2 0 0 0 (by decide) (by decide) (by decide) wk_del).mono ?_; rintro e w6 ⟨rfl, hf3, _⟩)
    | (go_at_call 13; refine (deliver_on (hf1.below hb4) 0 3 5 (by decide) (by decide) (by decide) wk_form).mono ?_; rintro e w5 ⟨rfl, hf2, _⟩)
    | (go_at_call 16; refine (request_on hf3 1 wk_take).mono ?_; rintro e w7 ⟨⟨a7, n7, c7, rfl, _⟩, hf4, _⟩; simp only [Option.getD_some, Option.isSome_some, lockPk1]))
  go_ret
  exact ⟨rfl, ((hf4.below (ba (Below.refl _ _))).below hb8).bel⟩
end Go.Proofs.Ytjdbjmfkheffdaa
end
section
namespace Go.Proofs.Ytjdbjmfkheffdaa
open Go.RowKit
set_option linter.unusedVariables false
set_option maxRecDepth 20000

def nil0 : Nat → List Pk := fun _ => []
/-- Under way; at its receiver's. -/
def way1 (y : Pk) : Nat → List Pk := upd nil0 (pr (fromQ y)) [y]
def way2 (y : Pk) : Nat → List Pk := upd nil0 (pr (toQ y) + 2) [y]
theorem lane_nil0 : ∀ m, laneL nil0 m = []
  | 0 => rfl
  | m + 1 => by rw [laneL_succ, lane_nil0 m]; rfl
theorem way1_at (y : Pk) : way1 y (pr (fromQ y)) = [y] := upd_same _ _ _
theorem way1_in (y : Pk) (q : Nat) : way1 y (pr q + 2) = [] := upd_other _ _ (fun e => pr_ne e.symm)
theorem way1_ahead (y : Pk) : laneL (way1 y) (fromQ y) = [] := by unfold way1; rw [lane_upd _ _ _ _ (Nat.le_refl _), lane_nil0]
theorem way1_under {nn : Nat} {y : Pk} (h : fromQ y < 2 * nn) : (laneL (way1 y) (2 * nn)).length = 1 := by
  have := lane_more nil0 [y] (fromQ y) (2 * nn) h
  rw [lane_nil0] at this
  unfold way1
  simpa [nil0] using this
theorem way2_under (y : Pk) (nn : Nat) : laneL (way2 y) (2 * nn) = [] := by unfold way2; rw [lane_in, lane_nil0]
theorem way_turn (y : Pk) : upd (upd (way1 y) (pr (toQ y) + 2) ([] ++ [y])) (pr (fromQ y)) [] = way2 y := by
  funext q
  have := @pr_ne (fromQ y) (toQ y)
  unfold way2 way1 upd nil0
  by_cases h1 : q = pr (fromQ y)
  · subst h1; simp [this]
  · simp [h1]
theorem way_send {nn : Nat} {out : Int} {y : Pk} (h : Good nn y) (ho : 1 ≤ out) : SendTo nn out nil0 y 0 (way1 y) :=
  SendTo.ok (F := nil0) h.r h.f h.t (by show ((0 : Nat) : Int) < out; omega)
theorem way_form {nn : Nat} {out inn bit mask : Int} {y : Pk} (h : Good nn y) (hw : wireB y bit mask = false) : DelTo nn out inn (way1 y) 0 bit mask 2 (way1 y) :=
  DelTo.form (fromQ y) 0 y h.fq.1 (by rw [way1_at]; rfl) (by rw [way1_ahead]; rfl) hw
theorem Rm_in {out inn : Int} (h : 1 ≤ inn) (ho : 1 ≤ out) (q : Nat) : 1 ≤ Rm out inn q := by unfold Rm; repeat (first | omega | split)
theorem way_ok {nn : Nat} {out inn : Int} {y : Pk} (h : Good nn y) (hi : 1 ≤ inn) (ho : 1 ≤ out) : DelTo nn out inn (way1 y) 0 0 0 0 (way2 y) := by
  have := DelTo.ok (nn := nn) (out := out) (inn := inn) (F := way1 y) (a := 0) (bit := 0) (mask := 0) (fromQ y) 0 y h.fq.1 (by rw [way1_at]; rfl) (by rw [way1_ahead]; rfl) (wire_zero _ _) (by rw [way1_in]; have := Rm_in hi ho (pr (toQ y) + 2); simp; omega)
  rw [way1_in, way1_at, show ([y] : List Pk).eraseIdx 0 = [] from rfl, way_turn] at this
  exact this
theorem way_none (nn : Nat) (out inn : Int) (y : Pk) : DelTo nn out inn (way2 y) 0 0 0 3 (way2 y) := DelTo.none (.inr (by rw [way2_under]; simp))
theorem toQ_eq {nn : Nat} {y : Pk} (h : Good nn y) : toQ y = 2 * y.t.toNat + sortN y := rfl
theorem way2_at {y : Pk} {i s : Nat} (hs : s < 2) (hi : i = y.t.toNat) : way2 y (pr (2 * i + s) + 2) = if s = sortN y then [y] else [] := by
  subst hi
  have h2 := sortN_lt y
  by_cases e : s = sortN y
  · subst e; rw [if_pos rfl]; exact upd_same _ _ _
  · rw [if_neg e]
    refine upd_other _ _ (fun h => e ?_)
    have := pr_inj (show pr (2 * y.t.toNat + s) = pr (toQ y) by omega)
    unfold toQ at this
    omega
theorem way2_taken {y : Pk} {i : Nat} (hi : i = y.t.toNat) : upd (way2 y) (pr (2 * i + sortN y) + 2) [] = nil0 := by
  subst hi
  funext q
  unfold way2 upd nil0 toQ
  by_cases h : q = pr (2 * y.t.toNat + sortN y) + 2 <;> simp [h]
theorem way_take {nn : Nat} {y : Pk} (h : Good nn y) (b : Bool) (hb : laneS b = sortN y) : TakeTo nn (way2 y) y.t b (some y) nil0 := by
  have ht := h.tq
  have := TakeTo.some (nn := nn) (F := way2 y) (i := y.t) (b := b) y.t.toNat y [] ht.2.2 ht.2.1.symm (by rw [way2_at (laneS_lt b) rfl, if_pos hb])
  rw [hb, way2_taken rfl] at this
  exact this
theorem way_not {nn : Nat} {y : Pk} (h : Good nn y) (b : Bool) (hb : laneS b ≠ sortN y) : TakeTo nn (way2 y) y.t b none (way2 y) :=
  TakeTo.empty y.t.toNat h.tq.2.2 h.tq.2.1.symm (by rw [way2_at (laneS_lt b) rfl, if_neg hb])
theorem way_gone {nn : Nat} {y : Pk} (h : Good nn y) (b : Bool) : TakeTo nn nil0 y.t b none nil0 := TakeTo.empty y.t.toNat h.tq.2.2 h.tq.2.1.symm rfl
theorem sort_req {y : Pk} (h : y.right = true) (hk : y.k ≤ 6) : sortN y = 0 := by
  have := ((Pk.right_iff y).1 h).k
  unfold sortN; rw [if_pos (inB_t (by omega) hk)]
theorem sort_ans {y : Pk} (hk : ¬ y.k ≤ 6) : sortN y = 1 := by
  unfold sortN; rw [inB_f (.inr (by omega))]; rfl
theorem good_in {N : Nat} {y : Pk} (hr : y.right = true) (hz : R64 y.z) (n0 : 1 ≤ N) (n1 : N ≤ 4) : Good N { y with f := y.f % (N : Int), t := y.t % (N : Int) } := by
  have h := (Pk.right_iff y).1 hr
  have f0 := Int.emod_nonneg y.f (b := (N : Int)) (by omega)
  have f1 := Int.emod_lt_of_pos y.f (b := (N : Int)) (by omega)
  have t0 := Int.emod_nonneg y.t (b := (N : Int)) (by omega)
  have t1 := Int.emod_lt_of_pos y.t (b := (N : Int)) (by omega)
  exact ⟨(Pk.right_iff _).2 ⟨h.k, ⟨f0, by simp only; omega⟩, ⟨t0, by simp only; omega⟩, h.i, h.l, h.p, h.s, h.z⟩, f1, t1, hz⟩
end Go.Proofs.Ytjdbjmfkheffdaa
end
section
namespace Go.Proofs.Ytjdbjmfkheffdaa
open Go.RowKit
set_option linter.unusedVariables false
set_option maxRecDepth 20000

/-- A configuration's variable in memory. -/
structure CB (w : World) (g : Nat) (N L K S Y O I : Nat) (t : Value) : Prop where
  c0 : w.cell? ⟨g, 0, none⟩ = some (.int .i64 (N : Int))
  c1 : w.cell? ⟨g, 1, none⟩ = some (.int .i64 (L : Int))
  c2 : w.cell? ⟨g, 2, none⟩ = some (.int .i64 (K : Int))
  c3 : w.cell? ⟨g, 3, none⟩ = some (.int .i64 (S : Int))
  c4 : w.cell? ⟨g, 4, none⟩ = some (.int .i64 (Y : Int))
  c5 : w.cell? ⟨g, 5, none⟩ = some (.int .i64 (O : Int))
  c6 : w.cell? ⟨g, 6, none⟩ = some (.int .i64 (I : Int))
  c7 : w.cell? ⟨g, 7, none⟩ = some t
  lt : g < w.heap.size
theorem CB.below {w w' : World} {g : Nat} {N L K S Y O I : Nat} {t : Value} (h : CB w g N L K S Y O I t) (hb : Below w.heap.size w w') : CB w' g N L K S Y O I t := by
  obtain ⟨hc, _⟩ := bcell hb
  exact ⟨by rw [hc _ _ h.lt]; exact h.c0, by rw [hc _ _ h.lt]; exact h.c1, by rw [hc _ _ h.lt]; exact h.c2, by rw [hc _ _ h.lt]; exact h.c3, by rw [hc _ _ h.lt]; exact h.c4, by rw [hc _ _ h.lt]; exact h.c5, by rw [hc _ _ h.lt]; exact h.c6, by rw [hc _ _ h.lt]; exact h.c7, Nat.lt_of_lt_of_le h.lt hb.size⟩
theorem CB.made (w : World) (N L K S Y O I : Nat) (t : Value) : CB (w.alloc (.cells #[.int .i64 (N : Int), .int .i64 (L : Int), .int .i64 (K : Int), .int .i64 (S : Int), .int .i64 (Y : Int), .int .i64 (O : Int), .int .i64 (I : Int), t] 29)) w.heap.size N L K S Y O I t := by
  constructor <;> simp

/-- The numbers of a setup's configuration. -/
structure IsCfg (n l k s y o i : Int) (z : List Int) (N L K S Y O I : Nat) (zi : List Int) : Prop where
  eN : nd n 4 = N
  eL : nd l 4 = L
  eK : nd k 2 = K
  eS : nd s 2 = S
  eY : nd y 2 = Y
  eO : nd o 3 = O
  eI : nd i 3 = I
  ez : z.take (L * K) = zi
structure CfgB (N L K S Y O I : Nat) : Prop where
  N0 : 1 ≤ N
  N1 : N ≤ 4
  L0 : 1 ≤ L
  L1 : L ≤ 4
  K0 : 1 ≤ K
  K1 : K ≤ 2
  S0 : 1 ≤ S
  S1 : S ≤ 2
  Y0 : 1 ≤ Y
  Y1 : Y ≤ 2
  O0 : 1 ≤ O
  O1 : O ≤ 3
  I0 : 1 ≤ I
  I1 : I ≤ 3
theorem IsCfg.bd {n l k s y o i : Int} {z : List Int} {N L K S Y O I : Nat} {zi : List Int} (h : IsCfg n l k s y o i z N L K S Y O I zi) : CfgB N L K S Y O I := by
  obtain ⟨rfl, rfl, rfl, rfl, rfl, rfl, rfl, _⟩ := h
  exact ⟨(nd_lo n 4).resolve_right (by decide), nd_hi n 4 (by decide), (nd_lo l 4).resolve_right (by decide), nd_hi l 4 (by decide), (nd_lo k 2).resolve_right (by decide), nd_hi k 2 (by decide), (nd_lo s 2).resolve_right (by decide), nd_hi s 2 (by decide), (nd_lo y 2).resolve_right (by decide), nd_hi y 2 (by decide), (nd_lo o 3).resolve_right (by decide), nd_hi o 3 (by decide), (nd_lo i 3).resolve_right (by decide), nd_hi i 3 (by decide)⟩
theorem IsCfg.len {n l k s y o i : Int} {z : List Int} {N L K S Y O I : Nat} {zi : List Int} (h : IsCfg n l k s y o i z N L K S Y O I zi) : zi.length ≤ L * K := by
  obtain ⟨rfl, rfl, rfl, rfl, rfl, rfl, rfl, rfl⟩ := h
  simp; omega
/-- One setup, one configuration. -/
theorem IsCfg.one {n l k s y o i : Int} {z : List Int} {N L K S Y O I N' L' K' S' Y' O' I' : Nat} {zi zi' : List Int} (h : IsCfg n l k s y o i z N L K S Y O I zi) (h' : IsCfg n l k s y o i z N' L' K' S' Y' O' I' zi') :
    N = N' ∧ L = L' ∧ K = K' ∧ S = S' ∧ Y = Y' ∧ O = O' ∧ I = I' ∧ zi = zi' := by
  obtain ⟨rfl, rfl, rfl, rfl, rfl, rfl, rfl, rfl⟩ := h
  obtain ⟨rfl, rfl, rfl, rfl, rfl, rfl, rfl, rfl⟩ := h'
  exact ⟨rfl, rfl, rfl, rfl, rfl, rfl, rfl, rfl⟩
theorem config_c (n l k s y o i : Int) (a : Option Addr) (len cap : Nat) (wh ki ad va : Value) (z : List Int) (w : World) (hsl : Sl w a len cap z) :
    Calls Try.prog 8 #[setup n l k s y o i (.slice a len cap) wh ki ad va] w fun e w' => ∃ (N L K S Y O I : Nat) (zi : List Int) (av : Option Addr) (nv cv : Nat),
      e = .returned (cfg N L K S Y O I (.slice av nv cv)) ∧ IsCfg n l k s y o i z N L K S Y O I zi ∧ Hid (zi.length = nv) ∧ Own w' w.heap.size (.slice av nv cv) zi ∧ Below w.heap.size w w' := by
  refine (config_any n l k s y o i a len cap wh ki ad va z w hsl).mono ?_
  rintro e w' ⟨v, rfl, hown, hb⟩
  obtain ⟨av, cv, rfl, _⟩ := hown.sl
  exact ⟨_, _, _, _, _, _, _, _, av, _, cv, rfl, ⟨rfl, rfl, rfl, rfl, rfl, rfl, rfl, rfl⟩, rfl, hown, hb⟩
theorem own_sl {w : World} {base n cap : Nat} {a : Option Addr} {l : List Int} (h : Own w base (.slice a n cap) l) : Sl w a n cap l := by
  obtain ⟨a', cap', e, hs⟩ := h.sl
  simp at e
  obtain ⟨rfl, rfl, rfl⟩ := e
  exact hs
theorem mul_bd {L K : Nat} (L0 : 1 ≤ L) (L1 : L ≤ 4) (K0 : 1 ≤ K) (K1 : K ≤ 2) : (1 : Int) ≤ (L : Int) * (K : Int) ∧ (L : Int) * (K : Int) ≤ 8 ∧ L * K ≤ 8 := by
  refine ⟨?_, ?_, ?_⟩
  · have := Int.mul_le_mul (show (1 : Int) ≤ (L : Int) by omega) (show (1 : Int) ≤ (K : Int) by omega) (by omega) (by omega); simpa using this
  · have := Int.mul_le_mul (show (L : Int) ≤ 4 by omega) (show (K : Int) ≤ 2 by omega) (by omega) (by omega); simpa using this
  · have := Nat.mul_le_mul (show L ≤ 4 by omega) (show K ≤ 2 by omega); simpa using this
end Go.Proofs.Ytjdbjmfkheffdaa
end
section
namespace Go.Proofs.Ytjdbjmfkheffdaa
open Go.RowKit
set_option linter.unusedVariables false
set_option maxRecDepth 20000

/-- The packet of small numbers. -/
def playX (x : Pk) : Pk := ⟨1 + x.k % 9, x.f % 4, x.t % 4, x.i % 5, x.l % 4, x.p % 5 - 1, x.s % 3, x.fl, x.z.take 4⟩
theorem play_right (x : Pk) : (playX x).right = true := by
  refine (Pk.right_iff _).2 ⟨?_, ?_, ?_, ?_, ?_, ?_, ?_, ?_⟩ <;> simp only [playX]
  case refine_8 => simp; omega
  all_goals omega
/-- What comes out: a packet, its words of the call's own. -/
def Played (x : Pk) (how : Int) (w : World) (v : Value) (w' : World) : Prop :=
  ∃ (y : Pk) (a : Option Addr) (n cap : Nat), v = y.val (.slice a n cap) ∧ Sl w' a n cap y.z ∧ n ≤ 6 ∧ (how % 40 < 31 → y.right = true) ∧ (R64 x.z → R64 y.z) ∧ (∀ ad : Addr, a = some ad → w.heap.size ≤ ad.block ∧ ad.block < w'.heap.size) ∧ Below w.heap.size w w'
/-- Behind the first statement. -/
structure PL (w wx : World) (x : Pk) (a : Option Addr) (len cap g : Nat) (a1 : Option Addr) (n cap1 : Nat) : Prop where
  bp : Bx wx w.heap.size x (.slice a len cap)
  br : Bx wx (w.heap.size + 1) zeroPk (.slice none 0 0)
  bq : Bx wx g (playX x) (.slice a1 n cap1)
  gl : w.heap.size + 2 ≤ g
  sl : Sl wx a1 n cap1 (x.z.take 4)
  far : ∀ ad : Addr, a1 = some ad → ad.block ≠ g ∧ w.heap.size + 2 ≤ ad.block ∧ ad.block < wx.heap.size
  bl : Below w.heap.size w wx

def nine (W : World) (g : Nat) (y : Pk) (v : Value) : World := (((((((((W.setCell ⟨g, 0, none⟩ (.int .i64 y.k)).setCell ⟨g, 1, none⟩ (.int .i64 y.f)).setCell ⟨g, 2, none⟩ (.int .i64 y.t)).setCell ⟨g, 3, none⟩ (.int .i64 y.i)).setCell ⟨g, 4, none⟩ (.int .i64 y.l)).setCell ⟨g, 5, none⟩ (.int .i64 y.p)).setCell ⟨g, 6, none⟩ (.int .i64 y.s)).setCell ⟨g, 7, none⟩ (.bool y.fl)).setCell ⟨g, 8, none⟩ v)
theorem PL.of {w wq wf : World} {x : Pk} {a : Option Addr} {len cap g : Nat} {a1 : Option Addr} {n cap1 : Nat} (bp : Bx wq w.heap.size x (.slice a len cap)) (br : Bx wq (w.heap.size + 1) zeroPk (.slice none 0 0)) (bq : Bx wq g zeroPk (.slice none 0 0))
    (sl : Sl wq a1 n cap1 (x.z.take 4)) (bl : Below w.heap.size w wq) (gl : w.heap.size + 2 ≤ g) (far : ∀ ad : Addr, a1 = some ad → ad.block ≠ g ∧ w.heap.size + 2 ≤ ad.block ∧ ad.block < wq.heap.size)
    (hf : Below (nine wq g (playX x) (.slice a1 n cap1)).heap.size (nine wq g (playX x) (.slice a1 n cap1)) wf) : PL w wf x a len cap g a1 n cap1 := by
  have f1 := far9 (g := g) (y := playX x) (v := .slice a1 n cap1) (P := fun V => Bx V w.heap.size x (.slice a len cap)) (fun V o u h => h.far (by simp only; omega)) bp
  have f2 := far9 (g := g) (y := playX x) (v := .slice a1 n cap1) (P := fun V => Bx V (w.heap.size + 1) zeroPk (.slice none 0 0)) (fun V o u h => h.far (by simp only; omega)) br
  have f3 := far9 (g := g) (y := playX x) (v := .slice a1 n cap1) (P := fun V => Sl V a1 n cap1 (x.z.take 4)) (fun V o u h => h.far (fun ad e => (far ad e).1)) sl
  have f4 := far9 (g := g) (y := playX x) (v := .slice a1 n cap1) (P := fun V => Below w.heap.size w V) (fun V o u h => h.setCell (by simp only; omega) _) bl
  have f5 := bq.put (playX x) (.slice a1 n cap1)
  exact ⟨f1.next hf, f2.next hf, f5.next hf, gl, f3.below hf, fun ad e => ⟨(far ad e).1, (far ad e).2.1, Nat.lt_of_lt_of_le (far ad e).2.2 (by have := hf.size; simpa [nine] using this)⟩, next f4 hf⟩
theorem nine_below {w wq : World} {g b : Nat} {y : Pk} {v : Value} (h : Below b w wq) (hb : b ≤ g) : Below b w (nine wq g y v) := far9 (P := fun V => Below b w V) (fun V o u h => h.setCell hb _) h

set_option maxHeartbeats 4000000 in
set_option maxRecDepth 20000 in
theorem play_any (x : Pk) (how : Int) (a : Option Addr) (len cap : Nat) (w : World) (hsl : Sl w a len cap x.z) :
    Calls Try.prog 10 #[x.val (.slice a len cap), .int .i64 how] w fun e w' => ∃ v, e = .returned v ∧ Played x how w v w' := by
  have k0 : 0 ≤ x.k % 9 ∧ x.k % 9 < 9 := by omega
  have f0 : 0 ≤ x.f % 4 ∧ x.f % 4 < 4 := by omega
  have t0 : 0 ≤ x.t % 4 ∧ x.t % 4 < 4 := by omega
  have i0 : 0 ≤ x.i % 5 ∧ x.i % 5 < 5 := by omega
  have l0 : 0 ≤ x.l % 4 ∧ x.l % 4 < 4 := by omega
  have p0 : 0 ≤ x.p % 5 ∧ x.p % 5 < 5 := by omega
  have s0 : 0 ≤ x.s % 3 ∧ x.s % 3 < 3 := by omega
  obtain ⟨n, hn⟩ : ∃ n, (x.z.take 4).length = n := ⟨_, rfl⟩
  have HN : Hid ((x.z.take 4).length = n) := hn
  have hn4 : n ≤ 4 := by rw [← hn]; simp; omega
  clear hn
  have bp0 := (Bx.made w x (.slice a len cap)).next (ba (o := .cells #[.int .i64 zeroPk.k, .int .i64 zeroPk.f, .int .i64 zeroPk.t, .int .i64 zeroPk.i, .int .i64 zeroPk.l, .int .i64 zeroPk.p, .int .i64 zeroPk.s, .bool zeroPk.fl, .slice none 0 0] 26) (Below.refl _ _))
  have br0 := Bx.made' (w.alloc (.cells #[.int .i64 x.k, .int .i64 x.f, .int .i64 x.t, .int .i64 x.i, .int .i64 x.l, .int .i64 x.p, .int .i64 x.s, .bool x.fl, .slice a len cap] 26)) zeroPk (.slice none 0 0) (w.heap.size + 1) (by simp)
  unfold Pk.val
  go_enter Try.func10, Try.ntmps10
  go_upto_region 1 with fail
  go_cut [5] (fun v wx => ∃ (g : Nat) (a1 : Option Addr) (cap1 : Nat), v = .pointer (some ⟨g, 0, none⟩) ∧ PL w wx x a len cap g a1 n cap1)
  case first =>
    have uc := @Up.cell2
    have uf := @Up.frozen2
    refine wp_region_mild 31 rfl (by kernel_rfl) ?_
    refine mild_take (v := ?v201) 0 rfl (by kernel_rfl) (by kernel_rfl) (by kernel_rfl) (fun _ _ _ h => h) (by kernel_rfl) (fun Wu K hK => ?hy201) ?go201
    case hy201 =>
      go_big_quiet_op
      simp only [Act.put, List.setIfInBounds_toArray, List.set_cons_zero, List.set_cons_succ] at hK
      exact hK
    simp only [Act.put, List.setIfInBounds_toArray, List.set_cons_zero, List.set_cons_succ]
    refine mild_take (v := ?v202) 1 rfl (by kernel_rfl) (by kernel_rfl) (by kernel_rfl) (fun _ _ _ h => h) (by kernel_rfl) (fun Wu K hK => ?hy202) ?go202
    case hy202 =>
      go_big_quiet_op
      simp only [Act.put, List.setIfInBounds_toArray, List.set_cons_zero, List.set_cons_succ] at hK
      exact hK
    simp only [Act.put, List.setIfInBounds_toArray, List.set_cons_zero, List.set_cons_succ]
    refine mild_take (v := ?v203) 2 rfl (by kernel_rfl) (by kernel_rfl) (by kernel_rfl) (fun _ _ _ h => h) (by kernel_rfl) (fun Wu K hK => ?hy203) ?go203
    case hy203 =>
      go_big_quiet_op
      simp only [Act.put, List.setIfInBounds_toArray, List.set_cons_zero, List.set_cons_succ] at hK
      refine ⟨_, fun u => Calls.up_same (within_any _ _ _ (by omega) (by omega)), ?_⟩
      exact hK
    simp only [Act.put, List.setIfInBounds_toArray, List.set_cons_zero, List.set_cons_succ]
    refine mild_take (v := ?v204) 3 rfl (by kernel_rfl) (by kernel_rfl) (by kernel_rfl) (fun _ _ _ h => h) (by kernel_rfl) (fun Wu K hK => ?hy204) ?go204
    case hy204 =>
      go_big_quiet_op
      simp only [Act.put, List.setIfInBounds_toArray, List.set_cons_zero, List.set_cons_succ] at hK
      exact hK
    simp only [Act.put, List.setIfInBounds_toArray, List.set_cons_zero, List.set_cons_succ]
    refine mild_take (v := ?v205) 4 rfl (by kernel_rfl) (by kernel_rfl) (by kernel_rfl) (fun _ _ _ h => h) (by kernel_rfl) (fun Wu K hK => ?hy205) ?go205
    case hy205 =>
      go_big_quiet_op
      simp only [Act.put, List.setIfInBounds_toArray, List.set_cons_zero, List.set_cons_succ] at hK
      exact hK
    simp only [Act.put, List.setIfInBounds_toArray, List.set_cons_zero, List.set_cons_succ]
    refine mild_take (v := ?v206) 5 rfl (by kernel_rfl) (by kernel_rfl) (by kernel_rfl) (fun _ _ _ h => h) (by kernel_rfl) (fun Wu K hK => ?hy206) ?go206
    case hy206 =>
      go_big_quiet_op
      simp only [Act.put, List.setIfInBounds_toArray, List.set_cons_zero, List.set_cons_succ] at hK
      exact hK
    simp only [Act.put, List.setIfInBounds_toArray, List.set_cons_zero, List.set_cons_succ]
    refine mild_take (v := ?v207) 6 rfl (by kernel_rfl) (by kernel_rfl) (by kernel_rfl) (fun _ _ _ h => h) (by kernel_rfl) (fun Wu K hK => ?hy207) ?go207
    case hy207 =>
      go_big_quiet_op
      simp only [Act.put, List.setIfInBounds_toArray, List.set_cons_zero, List.set_cons_succ] at hK
      refine ⟨_, fun u => Calls.up_same (within_any _ _ _ (by omega) (by omega)), ?_⟩
      exact hK
    simp only [Act.put, List.setIfInBounds_toArray, List.set_cons_zero, List.set_cons_succ]
    refine mild_take (v := ?v208) 7 rfl (by kernel_rfl) (by kernel_rfl) (by kernel_rfl) (fun _ _ _ h => h) (by kernel_rfl) (fun Wu K hK => ?hy208) ?go208
    case hy208 =>
      go_big_quiet_op
      simp only [Act.put, List.setIfInBounds_toArray, List.set_cons_zero, List.set_cons_succ] at hK
      exact hK
    simp only [Act.put, List.setIfInBounds_toArray, List.set_cons_zero, List.set_cons_succ]
    refine mild_take (v := ?v209) 8 rfl (by kernel_rfl) (by kernel_rfl) (by kernel_rfl) (fun _ _ _ h => h) (by kernel_rfl) (fun Wu K hK => ?hy209) ?go209
    case hy209 =>
      go_big_quiet_op
      simp only [Act.put, List.setIfInBounds_toArray, List.set_cons_zero, List.set_cons_succ] at hK
      exact hK
    simp only [Act.put, List.setIfInBounds_toArray, List.set_cons_zero, List.set_cons_succ]
    refine mild_take (v := ?v210) 9 rfl (by kernel_rfl) (by kernel_rfl) (by kernel_rfl) (fun _ _ _ h => h) (by kernel_rfl) (fun Wu K hK => ?hy210) ?go210
    case hy210 =>
      go_big_quiet_op
      simp only [Act.put, List.setIfInBounds_toArray, List.set_cons_zero, List.set_cons_succ] at hK
      refine ⟨_, fun u => Calls.up_same (within_any _ _ _ (by omega) (by omega)), ?_⟩
      exact hK
    simp only [Act.put, List.setIfInBounds_toArray, List.set_cons_zero, List.set_cons_succ]
    refine mild_take (v := ?v211) 10 rfl (by kernel_rfl) (by kernel_rfl) (by kernel_rfl) (fun _ _ _ h => h) (by kernel_rfl) (fun Wu K hK => ?hy211) ?go211
    case hy211 =>
      go_big_quiet_op
      simp only [Act.put, List.setIfInBounds_toArray, List.set_cons_zero, List.set_cons_succ] at hK
      exact hK
    simp only [Act.put, List.setIfInBounds_toArray, List.set_cons_zero, List.set_cons_succ]
    refine mild_take (v := ?v212) 11 rfl (by kernel_rfl) (by kernel_rfl) (by kernel_rfl) (fun _ _ _ h => h) (by kernel_rfl) (fun Wu K hK => ?hy212) ?go212
    case hy212 =>
      go_big_quiet_op
      simp only [Act.put, List.setIfInBounds_toArray, List.set_cons_zero, List.set_cons_succ] at hK
      exact hK
    simp only [Act.put, List.setIfInBounds_toArray, List.set_cons_zero, List.set_cons_succ]
    refine mild_take (v := ?v213) 12 rfl (by kernel_rfl) (by kernel_rfl) (by kernel_rfl) (fun _ _ _ h => h) (by kernel_rfl) (fun Wu K hK => ?hy213) ?go213
    case hy213 =>
      go_big_quiet_op
      simp only [Act.put, List.setIfInBounds_toArray, List.set_cons_zero, List.set_cons_succ] at hK
      refine ⟨_, fun u => Calls.up_same (within_any _ _ _ (by omega) (by omega)), ?_⟩
      exact hK
    simp only [Act.put, List.setIfInBounds_toArray, List.set_cons_zero, List.set_cons_succ]
    refine mild_take (v := ?v214) 13 rfl (by kernel_rfl) (by kernel_rfl) (by kernel_rfl) (fun _ _ _ h => h) (by kernel_rfl) (fun Wu K hK => ?hy214) ?go214
    case hy214 =>
      go_big_quiet_op
      simp only [Act.put, List.setIfInBounds_toArray, List.set_cons_zero, List.set_cons_succ] at hK
      exact hK
    simp only [Act.put, List.setIfInBounds_toArray, List.set_cons_zero, List.set_cons_succ]
    refine mild_take (v := ?v215) 14 rfl (by kernel_rfl) (by kernel_rfl) (by kernel_rfl) (fun _ _ _ h => h) (by kernel_rfl) (fun Wu K hK => ?hy215) ?go215
    case hy215 =>
      go_big_quiet_op
      simp only [Act.put, List.setIfInBounds_toArray, List.set_cons_zero, List.set_cons_succ] at hK
      exact hK
    simp only [Act.put, List.setIfInBounds_toArray, List.set_cons_zero, List.set_cons_succ]
    refine mild_take (v := ?v216) 15 rfl (by kernel_rfl) (by kernel_rfl) (by kernel_rfl) (fun _ _ _ h => h) (by kernel_rfl) (fun Wu K hK => ?hy216) ?go216
    case hy216 =>
      go_big_quiet_op
      simp only [Act.put, List.setIfInBounds_toArray, List.set_cons_zero, List.set_cons_succ] at hK
      refine ⟨_, fun u => Calls.up_same (within_any _ _ _ (by omega) (by omega)), ?_⟩
      exact hK
    simp only [Act.put, List.setIfInBounds_toArray, List.set_cons_zero, List.set_cons_succ]
    refine mild_take (v := ?v217) 16 rfl (by kernel_rfl) (by kernel_rfl) (by kernel_rfl) (fun _ _ _ h => h) (by kernel_rfl) (fun Wu K hK => ?hy217) ?go217
    case hy217 =>
      go_big_quiet_op
      simp only [Act.put, List.setIfInBounds_toArray, List.set_cons_zero, List.set_cons_succ] at hK
      exact hK
    simp only [Act.put, List.setIfInBounds_toArray, List.set_cons_zero, List.set_cons_succ]
    refine mild_take (v := ?v218) 17 rfl (by kernel_rfl) (by kernel_rfl) (by kernel_rfl) (fun _ _ _ h => h) (by kernel_rfl) (fun Wu K hK => ?hy218) ?go218
    case hy218 =>
      go_big_quiet_op
      simp only [Act.put, List.setIfInBounds_toArray, List.set_cons_zero, List.set_cons_succ] at hK
      exact hK
    simp only [Act.put, List.setIfInBounds_toArray, List.set_cons_zero, List.set_cons_succ]
    refine mild_take (v := ?v219) 18 rfl (by kernel_rfl) (by kernel_rfl) (by kernel_rfl) (fun _ _ _ h => h) (by kernel_rfl) (fun Wu K hK => ?hy219) ?go219
    case hy219 =>
      go_big_quiet_op
      simp only [Act.put, List.setIfInBounds_toArray, List.set_cons_zero, List.set_cons_succ] at hK
      refine ⟨_, fun u => Calls.up_same (within_any _ _ _ (by omega) (by omega)), ?_⟩
      exact hK
    simp only [Act.put, List.setIfInBounds_toArray, List.set_cons_zero, List.set_cons_succ]
    refine mild_take (v := ?v220) 19 rfl (by kernel_rfl) (by kernel_rfl) (by kernel_rfl) (fun _ _ _ h => h) (by kernel_rfl) (fun Wu K hK => ?hy220) ?go220
    case hy220 =>
      go_big_quiet_op
      simp only [Act.put, List.setIfInBounds_toArray, List.set_cons_zero, List.set_cons_succ] at hK
      exact hK
    simp only [Act.put, List.setIfInBounds_toArray, List.set_cons_zero, List.set_cons_succ]
    refine mild_take (v := ?v221) 20 rfl (by kernel_rfl) (by kernel_rfl) (by kernel_rfl) (fun _ _ _ h => h) (by kernel_rfl) (fun Wu K hK => ?hy221) ?go221
    case hy221 =>
      go_big_quiet_op
      simp only [Act.put, List.setIfInBounds_toArray, List.set_cons_zero, List.set_cons_succ] at hK
      exact hK
    simp only [Act.put, List.setIfInBounds_toArray, List.set_cons_zero, List.set_cons_succ]
    refine mild_take (v := ?v222) 21 rfl (by kernel_rfl) (by kernel_rfl) (by kernel_rfl) (fun _ _ _ h => h) (by kernel_rfl) (fun Wu K hK => ?hy222) ?go222
    case hy222 =>
      go_big_quiet_op
      simp only [Act.put, List.setIfInBounds_toArray, List.set_cons_zero, List.set_cons_succ] at hK
      exact hK
    simp only [Act.put, List.setIfInBounds_toArray, List.set_cons_zero, List.set_cons_succ]
    refine mild_take (v := ?v223) 22 rfl (by kernel_rfl) (by kernel_rfl) (by kernel_rfl) (fun _ _ _ h => h) (by kernel_rfl) (fun Wu K hK => ?hy223) ?go223
    case hy223 =>
      go_big_quiet_op
      simp only [Act.put, List.setIfInBounds_toArray, List.set_cons_zero, List.set_cons_succ] at hK
      refine ⟨_, fun u => Calls.up_same (within_any _ _ _ (by omega) (by omega)), ?_⟩
      exact hK
    simp only [Act.put, List.setIfInBounds_toArray, List.set_cons_zero, List.set_cons_succ]
    refine mild_take (v := ?v224) 23 rfl (by kernel_rfl) (by kernel_rfl) (by kernel_rfl) (fun _ _ _ h => h) (by kernel_rfl) (fun Wu K hK => ?hy224) ?go224
    case hy224 =>
      go_big_quiet_op
      simp only [Act.put, List.setIfInBounds_toArray, List.set_cons_zero, List.set_cons_succ] at hK
      exact hK
    simp only [Act.put, List.setIfInBounds_toArray, List.set_cons_zero, List.set_cons_succ]
    refine mild_take (v := ?v225) 24 rfl (by kernel_rfl) (by kernel_rfl) (by kernel_rfl) (fun _ _ _ h => h) (by kernel_rfl) (fun Wu K hK => ?hy225) ?go225
    case hy225 =>
      go_big_quiet_op
      simp only [Act.put, List.setIfInBounds_toArray, List.set_cons_zero, List.set_cons_succ] at hK
      exact hK
    simp only [Act.put, List.setIfInBounds_toArray, List.set_cons_zero, List.set_cons_succ]
    refine mild_take (v := ?v226) 25 rfl (by kernel_rfl) (by kernel_rfl) (by kernel_rfl) (fun _ _ _ h => h) (by kernel_rfl) (fun Wu K hK => ?hy226) ?go226
    case hy226 =>
      go_big_quiet_op
      simp only [Act.put, List.setIfInBounds_toArray, List.set_cons_zero, List.set_cons_succ] at hK
      exact hK
    simp only [Act.put, List.setIfInBounds_toArray, List.set_cons_zero, List.set_cons_succ]
    refine mild_take (v := ?v227) 26 rfl (by kernel_rfl) (by kernel_rfl) (by kernel_rfl) (fun _ _ _ h => h) (by kernel_rfl) (fun Wu K hK => ?hy227) ?go227
    case hy227 =>
      go_big_quiet_op
      simp only [Act.put, List.setIfInBounds_toArray, List.set_cons_zero, List.set_cons_succ] at hK
      exact hK
    simp only [Act.put, List.setIfInBounds_toArray, List.set_cons_zero, List.set_cons_succ]
    intro W
    clear uc uf
    have hz0 : w.heap.size + 2 ≤ W.1.heap.size := by have := W.2.size; simpa using this
    have bpW : Bx W.1 w.heap.size x (.slice a len cap) := bp0.next W.2
    have brW : Bx W.1 (w.heap.size + 1) zeroPk (.slice none 0 0) := br0.next W.2
    have hsW := hsl.below (next (ba (ba (Below.refl _ _))) W.2)
    have BW : Below w.heap.size w W.1 := next (ba (ba (Below.refl _ _))) W.2
    have BW0 := W.2
    clear bp0 br0 hsl
    refine up_two 27 29 (by kernel_rfl) rfl rfl ?_ ?_
    · go_wp2_with (go_at_call 28; refine (cut_any a x.z len cap 4 _ hsW (by omega)).mono ?_; rintro e w1 ⟨v1, rfl, hown1, hb1⟩; obtain ⟨a1, cap1, rfl, hs1⟩ := hown1.sl' HN.out; have lo1 := hown1.lo)
      refine ⟨by exact next BW0 hb1, fun u => ?_⟩
      refine up_raise (by exact next (next BW0 hb1) u.2) ?_
      refine mild_take (v := ?v228) 28 rfl (by kernel_rfl) (by kernel_rfl) (by kernel_rfl) (fun _ _ _ h => h) (by kernel_rfl) (fun Wu K hK => ?hy228) ?go228
      case hy228 =>
        go_big_quiet_op
        simp only [Act.put, List.setIfInBounds_toArray, List.set_cons_zero, List.set_cons_succ] at hK
        exact hK
      simp only [Act.put, List.setIfInBounds_toArray, List.set_cons_zero, List.set_cons_succ]
      intro W2
      have B2 : Below W.1.heap.size W.1 W2.1 := next (next hb1 u.2) W2.2
      have bp2 := bpW.next B2
      have br2 := brW.next B2
      have hs2 := hs1.below (next u.2 W2.2)
      have lo2 : ∀ ad : Addr, a1 = some ad → W.1.heap.size ≤ ad.block ∧ ad.block < W2.1.heap.size := fun ad e => ⟨(lo1 ad e).1, by have := (lo1 ad e).2; have := u.2.size; have := W2.2.size; omega⟩
      have z2 : W.1.heap.size ≤ W2.1.heap.size := B2.size
      have BX := next BW B2
      refine up_list 29 (by kernel_rfl) rfl ?_
      go_wp2
      refine ⟨by exact ba W2.2, fun u3 => ?_⟩
      have bq3 := (Bx.made W2.1 zeroPk (.slice none 0 0)).next (by exact u3.2)
      have B3 : Below W2.1.heap.size W2.1 u3.1 := next (ba (Below.refl _ _)) u3.2
      have bp3 := bp2.next B3
      have br3 := br2.next B3
      have hs3 := hs2.below B3
      have BX3 := next BX B3
      have BU : Below u.1.heap.size u.1 u3.1 := next W2.2 B3
      have hzu : u.1.heap.size ≤ W2.1.heap.size := W2.2.size
      generalize u3.1 = wq at *
      generalize W2.1.heap.size = gq at *
      clear u3 B2 B3 bp2 br2 hs2
      have fq := bq3.fz
      obtain ⟨q0, q1, q2, q3, q4, q5, q6, q7, q8, _, _⟩ := id bq3
      refine up_list 30 (by kernel_rfl) rfl ?_
      go_wp2
      refine ⟨nine_below (y := playX x) BU hzu, fun u4 => ?_⟩
      have PLx : PL w u4.1 x a len cap gq a1 n cap1 := PL.of bp3 br3 bq3 hs3 BX3 (by omega) (fun ad e => by have := lo2 ad e; have := bq3.lt; omega) u4.2
      refine up_done (by kernel_rfl) ?_
      go_wp2
      go_meet
      case rel => exact ⟨gq, a1, cap1, rfl, PLx⟩
    · go_wp2
      refine ⟨by exact ba BW0, fun u => ?_⟩
      have bq1 := (Bx.made W.1 zeroPk (.slice none 0 0)).next (by exact u.2)
      have B1 : Below W.1.heap.size W.1 u.1 := next (ba (Below.refl _ _)) u.2
      have hsu := hsW.below B1
      have hzu : W.1.heap.size < u.1.heap.size := by have := u.2.size; simp at this; omega
      refine up_list 27 (by kernel_rfl) rfl ?_
      go_wp2_with (go_at_call 28; refine (cut_any a x.z len cap 4 _ hsu (by omega)).mono ?_; rintro e w1 ⟨v1, rfl, hown1, hb1⟩; obtain ⟨a1, cap1, rfl, hs1⟩ := hown1.sl' HN.out; have lo1 := hown1.lo)
      refine ⟨by exact next (next BW0 B1) hb1, fun u2 => ?_⟩
      refine up_list 28 (by kernel_rfl) rfl ?_
      go_wp2
      refine ⟨by exact next (next (next BW0 B1) hb1) u2.2, fun u3 => ?_⟩
      have B3 : Below u.1.heap.size u.1 u3.1 := next (next hb1 u2.2) u3.2
      have bq3 := bq1.next B3
      have bp3 := (bpW.next B1).next B3
      have br3 := (brW.next B1).next B3
      have hs3 := hs1.below (next u2.2 u3.2)
      have BX3 := next (next BW B1) B3
      have BU := next (next BW0 B1) B3
      have hzq : w1.heap.size ≤ u3.1.heap.size := by have := u2.2.size; have := u3.2.size; omega
      generalize u3.1 = wq at *
      clear u3 B3
      have fq := bq3.fz
      obtain ⟨q0, q1, q2, q3, q4, q5, q6, q7, q8, _, _⟩ := id bq3
      refine up_list 30 (by kernel_rfl) rfl ?_
      go_wp2
      refine ⟨nine_below (y := playX x) BU (by simpa using hz0), fun u4 => ?_⟩
      have PLx : PL w u4.1 x a len cap W.1.heap.size a1 n cap1 := PL.of bp3 br3 bq3 hs3 BX3 (by omega) (fun ad e => by have := lo1 ad e; have := hzq; omega) u4.2
      refine up_done (by kernel_rfl) ?_
      go_wp2
      go_meet
      case rel => exact ⟨_, a1, cap1, rfl, PLx⟩
  case rest =>
    obtain ⟨g, a1, cap1, rfl, hbp, hbr, hbq, gl, hs, far, BW⟩ := hcut
    clear bp0 br0 k0 f0 t0 i0 l0 p0 s0
    obtain ⟨c, hc, m0, m1⟩ : ∃ c, how % 40 = c ∧ 0 ≤ c ∧ c < 40 := ⟨_, rfl, by omega, by omega⟩
    have HP : Hid (how % 40 = c) := hc
    go_upto_block 0 with (go_at_call 11; refine (within_any _ _ _ (by omega) (by omega)).mono ?_; rintro e w1 ⟨rfl, rfl⟩; rw [hc])
    clear hc
    have r4 : R64 x.z → R64 (x.z.take 4) := fun h => h.take 4
    have hright := play_right x
    go_cut [36] (fun _ wx => ∃ (y : Pk) (a2 : Option Addr) (n2 c2 : Nat), Bx wx g y (.slice a2 n2 c2) ∧ Bx wx (w.heap.size + 1) zeroPk (.slice none 0 0) ∧ Sl wx a2 n2 c2 y.z ∧ (∀ ad : Addr, a2 = some ad → w.heap.size + 2 ≤ ad.block ∧ ad.block < wx.heap.size) ∧ n2 ≤ 6 ∧ (c < 31 → y.right = true) ∧ (R64 x.z → R64 y.z) ∧ Below w.heap.size w wx)
    case first =>
      obtain ⟨s0, s1, s2, s3, s4, s5, s6, s7, s8, sf, slt⟩ := id hbp
      obtain ⟨q0, q1, q2, q3, q4, q5, q6, q7, q8, qf, qlt⟩ := id hbq
      have fr : ∀ (o : Nat) (u : Value), Bx (wc.setCell ⟨g, o, none⟩ u) (w.heap.size + 1) zeroPk (.slice none 0 0) := fun o u => hbr.far (by simp only; omega)
      have f1 : ∀ (o : Nat) (u : Value), Sl (wc.setCell ⟨g, o, none⟩ u) a1 n cap1 (x.z.take 4) := fun o u => hs.far (fun ad e => (far ad e).1)
      have fb : ∀ (o : Nat) (u : Value), Below w.heap.size w (wc.setCell ⟨g, o, none⟩ u) := fun o u => BW.setCell (by simp only; omega) _
      by_cases hlo : c < 31
      · have n31 : (c == 31) = false := by simp; omega
        have n32 : (c == 32) = false := by simp; omega
        have n33 : (c == 33) = false := by simp; omega
        have n34 : (c == 34) = false := by simp; omega
        have n35 : (c == 35) = false := by simp; omega
        have n36 : (c == 36) = false := by simp; omega
        have n37 : (c == 37) = false := by simp; omega
        have n38 : (c == 38) = false := by simp; omega
        have n39 : (c == 39) = false := by simp; omega
        go_wp2
        go_meet
        case rel => exact ⟨playX x, a1, n, cap1, hbq, hbr, hs, fun ad e => (far ad e).2, by omega, fun _ => hright, r4, BW⟩
      · have hh : c = 31 ∨ c = 32 ∨ c = 33 ∨ c = 34 ∨ c = 35 ∨ c = 36 ∨ c = 37 ∨ c = 38 ∨ c = 39 := by omega
        rcases hh with rfl | rfl | rfl | rfl | rfl | rfl | rfl | rfl | rfl
        · go_wp2
          go_meet
          case rel => exact ⟨_, a1, n, cap1, hbq.setK _, fr _ _, f1 _ _, fun ad e => by have := (far ad e).2; simpa using this, by omega, fun h => by omega, r4, fb _ _⟩
        · go_wp2
          go_meet
          case rel => exact ⟨_, a1, n, cap1, hbq.setF _, fr _ _, f1 _ _, fun ad e => by have := (far ad e).2; simpa using this, by omega, fun h => by omega, r4, fb _ _⟩
        · go_wp2
          go_meet
          case rel => exact ⟨_, a1, n, cap1, hbq.setT _, fr _ _, f1 _ _, fun ad e => by have := (far ad e).2; simpa using this, by omega, fun h => by omega, r4, fb _ _⟩
        · go_wp2
          go_meet
          case rel => exact ⟨_, a1, n, cap1, hbq.setI _, fr _ _, f1 _ _, fun ad e => by have := (far ad e).2; simpa using this, by omega, fun h => by omega, r4, fb _ _⟩
        · go_wp2
          go_meet
          case rel => exact ⟨_, a1, n, cap1, hbq.setL _, fr _ _, f1 _ _, fun ad e => by have := (far ad e).2; simpa using this, by omega, fun h => by omega, r4, fb _ _⟩
        · go_wp2
          go_meet
          case rel => exact ⟨_, a1, n, cap1, hbq.setP _, fr _ _, f1 _ _, fun ad e => by have := (far ad e).2; simpa using this, by omega, fun h => by omega, r4, fb _ _⟩
        · go_wp2
          go_meet
          case rel => exact ⟨_, a1, n, cap1, hbq.setS _, fr _ _, f1 _ _, fun ad e => by have := (far ad e).2; simpa using this, by omega, fun h => by omega, r4, fb _ _⟩
        · have hsx := hsl.below BW
          obtain ⟨n6, hn6⟩ : ∃ n6, (x.z.take 6).length = n6 := ⟨_, rfl⟩
          have HN6 : Hid ((x.z.take 6).length = n6) := hn6
          have h6 : n6 ≤ 6 := by rw [← hn6]; simp; omega
          clear hn6
          go_wp2_with (go_at_call 28; refine (cut_any a x.z len cap 6 _ hsx (by omega)).mono ?_; rintro e w2 ⟨v2, rfl, hown2, hb2⟩; obtain ⟨a2, cap2, rfl, hs2⟩ := hown2.sl' HN6.out; have lo2 := hown2.lo; have hbq2 := hbq.next hb2; have hqf := hbq2.fz; have hq8 := hbq2.c8)
          go_meet
          case rel => exact ⟨_, a2, n6, cap2, hbq2.setZ (x.z.take 6) _, (hbr.next hb2).far (by simp only; omega), hs2.far (fun ad e => by have := lo2 ad e; simp only; omega), fun ad e => by have := lo2 ad e; simp only [World.size_setCell]; omega, h6, fun h => by omega, fun h => h.take 6, (next BW hb2).setCell (by simp only; omega) _⟩
        · go_wp2_with (go_at_call 11; refine (within_any _ _ _ (by omega) (by omega)).mono ?_; rintro e w1 ⟨rfl, rfl⟩)
          go_meet
          case rel => exact ⟨_, a1, n, cap1, hbq.setI _, fr _ _, f1 _ _, fun ad e => by have := (far ad e).2; simpa using this, by omega, fun h => by omega, r4, fb _ _⟩
    case rest =>
      obtain ⟨y, a2, n2, c2, by2, br2, hs2, lo2, hn2, hr2, h64, B2⟩ := hcut
      have hi2 : ∀ ad : Addr, a2 = some ad → ad.block < wc.heap.size := fun ad e => (lo2 ad e).2
      obtain ⟨y0, y1, y2, y3, y4, y5, y6, y7, y8, yf, ylt⟩ := by2
      obtain ⟨r0, r1, r2, r3, r4', r5, r6, r7, r8, rf, rlt⟩ := br2
      clear hbp hbr hbq hs BW hsl r4 hright far
      have hne : w.heap.size + 1 ≠ g := by omega
      go_wp2
      refine bodyPost_ret (v := y.val (.slice a2 n2 c2)) (by simp [results, Try.results10, go_sem, *]) rfl ⟨_, rfl, y, a2, n2, c2, rfl, ?_, hn2, fun h => hr2 (by rw [← HP.out]; exact h), h64, ?_, ?_⟩
      · exact far9 (P := fun V => Sl V a2 n2 c2 y.z) (fun V o u h => h.far (fun ad e => by have := lo2 ad e; simp only; omega)) hs2
      · intro ad e
        refine ⟨by have := lo2 ad e; omega, ?_⟩
        have := hi2 ad e
        simpa using this
      · exact far9 (P := fun V => Below w.heap.size w V) (fun V o u h => h.setCell (by simp only; omega) _) B2
end Go.Proofs.Ytjdbjmfkheffdaa
end
