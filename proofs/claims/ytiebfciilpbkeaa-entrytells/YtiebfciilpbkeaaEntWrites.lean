/- The walk of EntryWrites: it answers true and writes nothing that was there. No condition but that the arguments are such as can come in. -/
import Derived.Test.YtiebfciilpbkeaaEntWk
import Derived.Test.YtiebfciilpbkeaaIntsSame
namespace Go.Proofs.Ytiebfciilpbkeaa
open Go.RowKit
set_option linter.unusedVariables false
set_option maxRecDepth 20000

theorem Eb.words {W : World} {g o : Nat} {f b n u : Int} {q : Bool} {z : List Int} {d : Value} (h : Eb W g o ⟨f, b, n, u, q, z⟩ d) (z' : List Int) : Eb W g o ⟨f, b, n, u, q, z'⟩ d := ⟨h.c0, h.c1, h.c2, h.c3, h.c4, h.c5, h.fz, h.lt⟩
/-- The entry and the list beside it: the same words, each in memory of its own. -/
structure EW (w wx : World) (ge : Nat) (q : Bool) (z : List Int) (m : Nat) (ad : Option Addr) (cd : Nat) (ae : Option Addr) (ce : Nat) : Prop where
  len : z.length = m
  d : Own wx w.heap.size (.slice ad m cd) z
  e : Own wx w.heap.size (.slice ae m ce) z
  bx : Eb wx ge 0 ⟨-1, -1, 1, 0, q, z⟩ (.slice ae m ce)
  dj : ∀ x y : Addr, ad = some x → ae = some y → x.block ≠ y.block
  nd : ∀ x : Addr, ad = some x → x.block ≠ ge
  ne : ∀ y : Addr, ae = some y → y.block ≠ ge
  lo : w.heap.size ≤ ge
  bel : Below w.heap.size w wx
theorem EW.below {w wx wy : World} {ge : Nat} {q : Bool} {z : List Int} {m : Nat} {ad : Option Addr} {cd : Nat} {ae : Option Addr} {ce : Nat} (h : EW w wx ge q z m ad cd ae ce) (hb : Below wx.heap.size wx wy) : EW w wy ge q z m ad cd ae ce :=
  ⟨h.len, h.d.below hb, h.e.below hb, h.bx.next hb, h.dj, h.nd, h.ne, h.lo, next h.bel hb⟩
/-- Both lists are written at the same place. -/
theorem EW.both {w wx : World} {ge : Nat} {q : Bool} {z : List Int} {m : Nat} {ad : Option Addr} {cd : Nat} {ae : Option Addr} {ce : Nat} (h : EW w wx ge q z m ad cd ae ce) {k : Nat} (hk : k < m) :
    ∃ b1 b2 y1 y2, ad = some ⟨b1, 0, none⟩ ∧ ae = some ⟨b2, 0, none⟩ ∧ b1 ≠ b2 ∧ b1 ≠ ge ∧ b2 ≠ ge ∧ b1 < wx.heap.size ∧ b2 < wx.heap.size ∧ wx.cell? ⟨b1, k, none⟩ = some (.int .i64 y1) ∧ wx.cell? ⟨b2, k, none⟩ = some (.int .i64 y2) ∧ wx.frozen? ⟨b1, k, none⟩ = false ∧ wx.frozen? ⟨b2, k, none⟩ = false ∧
      ∀ v, EW w ((wx.setCell ⟨b2, k, none⟩ (.int .i64 v)).setCell ⟨b1, k, none⟩ (.int .i64 v)) ge q (z.set k v) m ad cd ae ce := by
  obtain ⟨b1, y1, rfl, l1, lt1, hc1, hf1, p1⟩ := h.d.poke h.len hk
  obtain ⟨b2, y2, rfl, l2, lt2, hc2, hf2, p2⟩ := h.e.poke h.len hk
  have hne := h.dj _ _ rfl rfl
  have hn1 := h.nd _ rfl
  have hn2 := h.ne _ rfl
  simp only at hne hn1 hn2
  refine ⟨b1, b2, y1, y2, rfl, rfl, hne, hn1, hn2, lt1, lt2, hc1, hc2, hf1, hf2, fun v => ⟨by rw [List.length_set]; exact h.len, ?_, ?_, ?_, h.dj, h.nd, h.ne, h.lo, ?_⟩⟩
  · have d2 : Own (wx.setCell ⟨b2, k, none⟩ (.int .i64 v)) w.heap.size (.slice (some ⟨b1, 0, none⟩) m cd) z := h.d.keep (Keep.one wx b2 k (.int .i64 v)) (fun j hj => by simp [Value.ownBlock] at hj; omega)
    obtain ⟨b1', y1', e, _, _, _, _, p⟩ := d2.poke h.len hk
    simp at e
    subst e
    exact p v
  · exact (p2 v).keep (Keep.one _ b1 k (.int .i64 v)) (fun j hj => by simp [Value.ownBlock] at hj; omega)
  · exact ((h.bx.far (p := ⟨b2, k, none⟩) (fun e => hn2 e.symm)).far (p := ⟨b1, k, none⟩) (fun e => hn1 e.symm)).words _
  · exact (h.bel.setCell (p := ⟨b2, k, none⟩) l2 _).setCell (p := ⟨b1, k, none⟩) l1 _
theorem same_up {w : World} {a b : Option Addr} {l : List Int} {n c1 c2 : Nat} (h1 : Sl w a n c1 l) (h2 : Sl w b n c2 l) :
    Calls Try.prog 11 #[.slice a n c1, .slice b n c2] w fun e w' => e = .returned (.bool true) ∧ Below w.heap.size w w' := by
  refine (same_any a b l l n n c1 c2 w h1 h2).mono ?_
  rintro e w' ⟨rfl, k, rfl⟩
  exact ⟨by rw [decide_eq_true rfl], below_dn w k⟩
theorem word_b {w : World} (x : En) {a : Option Addr} {n cap : Nat} {i y : Int} (hy : wordI x.z i = y) (hs : Sl w a n cap x.z) :
    Calls Try.prog 12 #[x.val (.slice a n cap), .int .i64 i] w fun e w' => e = .returned (.int .i64 y) ∧ Below w.heap.size w w' := hy ▸ word_any x a n cap i w hs
set_option maxHeartbeats 1000000 in
theorem entryWrites_walk (a b c : Option Addr) (n1 c1 n2 c2 n3 c3 : Nat) (l1 l2 l3 : List Int) (q : Bool) (w : World) (h1 : Sl w a n1 c1 l1) (h2 : Sl w b n2 c2 l2) (h3 : Sl w c n3 c3 l3) :
    Calls Try.prog 3 #[.slice a n1 c1, .slice b n2 c2, .slice c n3 c3, .bool q] w fun e w' => e = .returned (.bool true) ∧ Below w.heap.size w w' := by
  obtain ⟨z0, hz0⟩ : ∃ z0, l1.take 4 = z0 := ⟨_, rfl⟩
  obtain ⟨m, hm⟩ : ∃ m, z0.length = m := ⟨_, rfl⟩
  have hm4 : m ≤ 4 := by rw [← hm, ← hz0]; simp; omega
  have HM : Hid (z0.length = m) := hm
  have HZ : Hid (l1.take 4 = z0) := hz0
  clear hm hz0
  go_enter Try.func3, Try.ntmps3
  go_upto_block 0 with (first
    | (go_at_call 7; refine (cut_any a l1 n1 c1 4 _ h1 (by omega)).mono ?_; rintro e w1 ⟨v1, rfl, own1, hb1⟩; rw [HZ.out] at own1; obtain ⟨ad, cd, rfl, sd⟩ := own1.sl' HM.out)
    | (go_at_call 8; refine (enew_any 1 (-1) (-1) q ad z0 m cd _ sd (by omega)).mono ?_; rintro e w2 ⟨ae, ce, rfl, own2, hb2⟩))
  have E0 : EW w (w2.alloc (.cells #[.int .i64 (-1), .int .i64 (-1), .int .i64 1, .int .i64 0, .bool q, .slice ae m ce] 27)) w2.heap.size q z0 m ad cd ae ce := by
    have z1 := hb1.size
    have z2 := hb2.size
    have o1 := own1.lo
    have o2 := own2.lo
    exact ⟨HM.out, (own1.below hb2).below (ba (Below.refl _ _)), (own2.low (by omega)).below (ba (Below.refl _ _)), Eb.made w2 ⟨-1, -1, 1, 0, q, z0⟩ _, fun x y hx hy => by have := o1 x hx; have := o2 y hy; omega, fun x hx => by have := o1 x hx; omega, fun y hy => by have := o2 y hy; omega, by omega, next (next hb1 hb2) (ba (Below.refl _ _))⟩
  have hmd := sd.max
  have hld := sd.le
  unfold maxLen at hmd
  have hme : m ≤ ce ∧ ce ≤ maxLen := by obtain ⟨a', c', e, hs⟩ := own2.sl' HM.out; injection e with _ _ e3; subst e3; exact ⟨hs.le, hs.max⟩
  clear h1 HZ own1 hb1 sd own2 hb2 HM
  generalize w2.heap.size = ge at *
  generalize w2.alloc _ = W0 at *
  obtain ⟨le2, mx2⟩ : n2 ≤ c2 ∧ c2 ≤ maxLen := ⟨h2.le, h2.max⟩
  obtain ⟨le3, mx3⟩ : n3 ≤ c3 ∧ c3 ≤ maxLen := ⟨h3.le, h3.max⟩
  unfold maxLen at mx2 mx3
  obtain ⟨hme1, hme2⟩ := hme
  unfold maxLen at hme2
  go_cut [] (fun wx => ∃ z, EW w wx ge q z m ad cd ae ce)
  case first =>
    go_wp2_with fail
    go_loopw [11] (fun vi wr => ∃ (k : Nat) (z : List Int), vi = .int .i64 (k : Int) ∧ k ≤ 12 ∧ EW w wr ge q z m ad cd ae ce) (fun vi _ => 12 - (intOf vi).toNat)
    case atStart => exact ⟨0, z0, rfl, by omega, E0⟩
    case round =>
      clear E0
      obtain ⟨k, z, rfl, hk, hE⟩ := hrel
      by_cases hlt : k < n2 ∧ k < n3 ∧ k < 12
      · obtain ⟨hk2, hk3, hk12⟩ := hlt
        have hki : (k : Int) < 12 := by omega
        obtain ⟨bp, op, rfl, hltp, hcp⟩ := (h2.below hE.bel).at hk2
        obtain ⟨bv, ov, rfl, hltv, hcv⟩ := (h3.below hE.bel).at hk3
        generalize l2[k]?.getD 0 = y at *
        generalize l3[k]?.getD 0 = v at *
        obtain ⟨A, hA, A0, A1⟩ : ∃ A : Int, y % ((m : Int) + 2) = A ∧ 0 ≤ A ∧ A < (m : Int) + 2 := ⟨_, rfl, Int.emod_nonneg _ (by omega), Int.emod_lt_of_pos _ (by omega)⟩
        go_upto_region 7 with (go_at_call 9; refine (within_any _ _ _ (by omega) (by omega)).mono ?_; rintro e wx ⟨rfl, rfl⟩; rw [hA])
        obtain ⟨P, hP⟩ : ∃ P, A - 1 = P := ⟨_, rfl⟩
        rw [hP]
        have hP0 : -1 ≤ P ∧ P ≤ m := by omega
        clear hA A0 A1 hP
        go_cut [13] (fun v wx => v = .bool (decide (0 ≤ P ∧ P < m)) ∧ wx = wr)
        case first =>
          by_cases hp0 : 0 ≤ P
          · go_wp2_with fail
            go_meet
            case rel => exact ⟨by simp [hp0], rfl⟩
          · go_wp2_with fail
            go_meet
            case rel => exact ⟨by rw [decide_eq_false (by omega)], rfl⟩
        case rest =>
          obtain ⟨rfl, rfl⟩ := hcut
          by_cases hin : 0 ≤ P ∧ P < m
          · rw [decide_eq_true hin]
            obtain ⟨j, rfl⟩ : ∃ j : Nat, P = j := ⟨P.toNat, by omega⟩
            have hj : j < m := by omega
            clear hin hP0
            obtain ⟨b1, b2, y1, y2, rfl, rfl, h12, h1g, h2g, lt1, lt2, hc1, hc2, hf1, hf2, both⟩ := hE.both hj
            have hbvw : bv < w.heap.size := World.block_lt_of_cell? w ⟨bv, ov + k, none⟩ (by rw [← hE.bel.cell (p := ⟨bv, ov + k, none⟩) (by obtain ⟨bv', ov', e, hl, _⟩ := h3.at hk3; simp at e; obtain ⟨rfl, rfl⟩ := e; exact hl)]; exact hcv)
            have hb2w : w.heap.size ≤ b2 := (hE.e.lo _ rfl).1
            cases q with
            | true =>
              go_upto_region 12 with (go_at_call 10; refine (write_ok ge 0 b2 0 ⟨-1, -1, 1, 0, true, z⟩ m ce j (j : Int) v _ hE.bx hme1 (by unfold maxLen; omega) rfl rfl hj (by rw [Nat.zero_add, hc2]; rfl) (by rw [Nat.zero_add]; exact hf2)).mono ?_; rintro e wz ⟨rfl, w1, hbz, rfl⟩; rw [Nat.zero_add]; have hE1 := hE.below hbz; have hcv1 : w1.cell? ⟨bv, ov + k, none⟩ = some (.int .i64 v) := (by rw [hbz.cell (p := ⟨bv, ov + k, none⟩) hltv]; exact hcv); have hc11 : w1.cell? ⟨b1, j, none⟩ = some (.int .i64 y1) := (by rw [hbz.cell (p := ⟨b1, j, none⟩) lt1]; exact hc1); have hf11 : w1.frozen? ⟨b1, j, none⟩ = false := (by rw [hbz.frozen (p := ⟨b1, j, none⟩) lt1]; exact hf1); have hvb : bv ≠ b2 := (by omega); have hne12 := h12)
              obtain ⟨b1', b2', _, _, e1, e2, _, _, _, _, _, _, _, _, _, both1⟩ := hE1.both hj
              simp at e1 e2
              subst e1 e2
              have hE2 := both1 v
              clear both both1 hE hE1 hbz hcv1 hc11 hf11 hc1 hc2 hf1 hf2 lt1 lt2 hcp hcv hltp hltv
              generalize (w1.setCell ⟨b2, j, none⟩ (.int .i64 v)).setCell ⟨b1, j, none⟩ (.int .i64 v) = W2 at *
              generalize z.set j v = zz at *
              obtain ⟨ae', ce', e1, sE⟩ := hE2.e.sl' hE2.len
              injection e1 with e1 _ e2
              subst e1 e2
              obtain ⟨ad', cd', e1, sD⟩ := hE2.d.sl' hE2.len
              injection e1 with e1 _ e2
              subst e1 e2
              have uE : ∀ u : Up W2, Sl u.1 (some ⟨b2, 0, none⟩) m ce zz := fun u => sE.below u.2
              have uD : ∀ u : Up W2, Sl u.1 (some ⟨b1, 0, none⟩) m cd zz := fun u => sD.below u.2
              obtain ⟨x0, x1, x2, x3, x4, x5⟩ := hE2.bx.lit
              simp only at x0 x1 x2 x3 x4 x5
              have xlt := hE2.bx.lt
              obtain ⟨y3, hy3, hw3⟩ : ∃ y3, W2.cell? ⟨b1, j, none⟩ = some (.int .i64 y3) ∧ wordI zz (j : Int) = y3 := by
                obtain ⟨b', o', e1, _, hc⟩ := sD.at (k := j) hj
                simp at e1
                obtain ⟨rfl, rfl⟩ := e1
                rw [Nat.zero_add] at hc
                exact ⟨_, hc, by simp [wordI]⟩
              have hlt1 : b1 < W2.heap.size := World.block_lt_of_cell? W2 _ hy3
              have HW : Hid (wordI zz (j : Int) = y3) := hw3
              clear sE sD hw3
              have uc := @Up.cell
              refine wp_region_up (by kernel_rfl) (by kernel_rfl) ?_
              repeat (go_big_quiet_step (first | (go_at_call 11; exact Calls.up_of (same_up (uE _) (uD _))) | (go_at_call 12; exact Calls.up_of (word_b ⟨-1, -1, 1, 0, true, zz⟩ HW.out (uE _)))))
              refine wpQuiet_nil ?_
              rintro _ ⟨u, rfl⟩
              have hE3 := hE2.below u.2
              clear uc uE uD hE2 x0 x1 x2 x3 x4 x5 xlt hy3 hlt1
              generalize u.1 = wu at *
              clear u
              go_wp2_with fail
              go_roundw
              case rel => exact ⟨k + 1, _, by go_num, by omega, hE3⟩
              case measure => simp [intOf]; omega
            | false =>
              go_upto_region 12 with (go_at_call 10; refine (write_no ge 0 ⟨-1, -1, 1, 0, false, z⟩ _ m ce (j : Int) v _ hE.bx (by unfold maxLen; omega) (by simp)).mono ?_; rintro e W2 ⟨rfl, hbz⟩)
              have hE2 := hE.below hbz
              clear both hE hbz hc1 hc2 hf1 hf2 lt1 lt2 hcp hcv hltp hltv
              generalize z = zz at *
              obtain ⟨ae', ce', e1, sE⟩ := hE2.e.sl' hE2.len
              injection e1 with e1 _ e2
              subst e1 e2
              obtain ⟨ad', cd', e1, sD⟩ := hE2.d.sl' hE2.len
              injection e1 with e1 _ e2
              subst e1 e2
              have uE : ∀ u : Up W2, Sl u.1 (some ⟨b2, 0, none⟩) m ce zz := fun u => sE.below u.2
              have uD : ∀ u : Up W2, Sl u.1 (some ⟨b1, 0, none⟩) m cd zz := fun u => sD.below u.2
              obtain ⟨x0, x1, x2, x3, x4, x5⟩ := hE2.bx.lit
              simp only at x0 x1 x2 x3 x4 x5
              have xlt := hE2.bx.lt
              obtain ⟨y3, hy3, hw3⟩ : ∃ y3, W2.cell? ⟨b1, j, none⟩ = some (.int .i64 y3) ∧ wordI zz (j : Int) = y3 := by
                obtain ⟨b', o', e1, _, hc⟩ := sD.at (k := j) hj
                simp at e1
                obtain ⟨rfl, rfl⟩ := e1
                rw [Nat.zero_add] at hc
                exact ⟨_, hc, by simp [wordI]⟩
              have hlt1 : b1 < W2.heap.size := World.block_lt_of_cell? W2 _ hy3
              have HW : Hid (wordI zz (j : Int) = y3) := hw3
              clear sE sD hw3
              have uc := @Up.cell
              refine wp_region_up (by kernel_rfl) (by kernel_rfl) ?_
              repeat (go_big_quiet_step (first | (go_at_call 11; exact Calls.up_of (same_up (uE _) (uD _))) | (go_at_call 12; exact Calls.up_of (word_b ⟨-1, -1, 1, 0, false, zz⟩ HW.out (uE _)))))
              refine wpQuiet_nil ?_
              rintro _ ⟨u, rfl⟩
              have hE3 := hE2.below u.2
              clear uc uE uD hE2 x0 x1 x2 x3 x4 x5 xlt hy3 hlt1
              generalize u.1 = wu at *
              clear u
              go_wp2_with fail
              go_roundw
              case rel => exact ⟨k + 1, _, by go_num, by omega, hE3⟩
              case measure => simp [intOf]; omega
          · rw [decide_eq_false hin]
            go_upto_region 12 with (go_at_call 10; refine (write_no ge 0 ⟨-1, -1, 1, 0, q, z⟩ _ m ce P v _ hE.bx (by unfold maxLen; omega) (fun h => hin h.2)).mono ?_; rintro e W2 ⟨rfl, hbz⟩)
            have hE2 := hE.below hbz
            have HW : Hid (wordI z P = 0) := by
              have hl := hE.len
              show _ = _
              unfold wordI
              split
              · rw [List.getElem?_eq_none (by omega)]; rfl
              · rfl
            clear hE hbz hcp hcv hltp hltv
            obtain ⟨ae', ce', e1, sE⟩ := hE2.e.sl' hE2.len
            injection e1 with e1 _ e2
            subst e1 e2
            obtain ⟨ad', cd', e1, sD⟩ := hE2.d.sl' hE2.len
            injection e1 with e1 _ e2
            subst e1 e2
            have uE : ∀ u : Up W2, Sl u.1 ae m ce z := fun u => sE.below u.2
            have uD : ∀ u : Up W2, Sl u.1 ad m cd z := fun u => sD.below u.2
            obtain ⟨x0, x1, x2, x3, x4, x5⟩ := hE2.bx.lit
            simp only at x0 x1 x2 x3 x4 x5
            have xlt := hE2.bx.lt
            clear sE sD
            have uc := @Up.cell
            refine wp_region_up (by kernel_rfl) (by kernel_rfl) ?_
            repeat (go_big_quiet_step (first | (go_at_call 11; exact Calls.up_of (same_up (uE _) (uD _))) | (go_at_call 12; exact Calls.up_of (word_b ⟨-1, -1, 1, 0, q, z⟩ HW.out (uE _)))))
            refine wpQuiet_nil ?_
            rintro _ ⟨u, rfl⟩
            have hE3 := hE2.below u.2
            clear uc uE uD hE2 x0 x1 x2 x3 x4 x5 xlt
            generalize u.1 = wu at *
            clear u
            go_wp2_with fail
            go_roundw
            case rel => exact ⟨k + 1, _, by go_num, by omega, hE3⟩
            case measure => simp [intOf]; omega
      · have hx : ¬ (k : Int) < n2 ∨ (k : Int) < n2 ∧ ¬ (k : Int) < n3 ∨ (k : Int) < n2 ∧ (k : Int) < n3 ∧ ¬ (k : Int) < 12 := by omega
        rcases hx with hx | ⟨hx1, hx⟩ | ⟨hx1, hx2, hx⟩
        · go_wp2_with fail
          go_meet
          case rel => exact ⟨z, hE⟩
        · go_wp2_with fail
          go_meet
          case rel => exact ⟨z, hE⟩
        · go_wp2_with fail
          go_meet
          case rel => exact ⟨z, hE⟩
  case rest =>
    clear E0 W0 h2 h3
    obtain ⟨z, hE⟩ := hcut
    obtain ⟨x0, x1, x2, x3, x4, x5⟩ := hE.bx.lit
    obtain ⟨f0, f1, f2, f3, f4, f5⟩ := hE.bx.lit'
    simp only at x0 x1 x2 x3 x4 x5
    have lo := hE.lo
    have zz := hE.bel.size
    by_cases hm0 : m = 0
    · subst hm0
      go_wp2_with (go_at_call 13; refine (ewakes_any _).mono ?_; rintro e w3 ⟨rfl, hb3⟩)
      go_ret
      exact ⟨rfl, (hE.bel.setCell (p := ⟨ge, 4, none⟩) lo _).trans (hb3.mono (by simpa using zz))⟩
    · obtain ⟨b1, b2, y1, y2, rfl, rfl, h12, h1g, h2g, lt1, lt2, hc1, hc2, hf1, hf2, both⟩ := hE.both (k := 0) (by omega)
      have hb2w : w.heap.size ≤ b2 := (hE.e.lo _ rfl).1
      clear both
      have bx2 := hE.bx.setQ (!q)
      rw [Nat.zero_add] at bx2
      have B2 := hE.bel.setCell (p := ⟨ge, 4, none⟩) lo (.bool (!q))
      have hc3 : (wc.setCell ⟨ge, 4, none⟩ (.bool (!q))).cell? ⟨b2, 0, none⟩ = some (.int .i64 y2) := by rw [cell_far _ _ h2g]; exact hc2
      have hf3 : (wc.setCell ⟨ge, 4, none⟩ (.bool (!q))).frozen? ⟨b2, 0, none⟩ = false := by rw [World.frozen?_setCell]; exact hf2
      go_upto_region 15 with fail
      clear x0 x1 x2 x3 x4 x5 f0 f1 f2 f3 f4 f5 hE hc1 hc2 hf1 hf2 lt1 lt2
      have z3 := B2.size
      generalize wc.setCell ⟨ge, 4, none⟩ (.bool (!q)) = W2 at *
      cases q with
      | true =>
        go_wp2_with (first
          | (go_at_call 10; refine (write_no ge 0 ⟨-1, -1, 1, 0, false, z⟩ _ m ce 0 5 _ bx2 (by unfold maxLen; omega) (by simp)).mono ?_; rintro e w3 ⟨rfl, hb3⟩)
          | (go_at_call 13; refine (ewakes_any _).mono ?_; rintro e w4 ⟨rfl, hb4⟩))
        go_ret
        exact ⟨rfl, B2.trans ((next hb3 hb4).mono z3)⟩
      | false =>
        go_wp2_with (first
          | (go_at_call 10; refine (write_ok ge 0 b2 0 ⟨-1, -1, 1, 0, true, z⟩ m ce 0 0 5 _ bx2 hme1 (by unfold maxLen; omega) rfl rfl (by omega) (by rw [Nat.zero_add, hc3]; rfl) (by rw [Nat.zero_add]; exact hf3)).mono ?_; rintro e wz ⟨rfl, w3, hb3, rfl⟩)
          | (go_at_call 13; refine (ewakes_any _).mono ?_; rintro e w4 ⟨rfl, hb4⟩))
        go_ret
        have z4 := hb3.size
        exact ⟨rfl, ((B2.trans (hb3.mono z3)).setCell (p := ⟨b2, 0 + 0, none⟩) hb2w _).trans (hb4.mono (by simp; omega))⟩
end Go.Proofs.Ytiebfciilpbkeaa
