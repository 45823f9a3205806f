/- The contract of the document's own Unpack: bytes of the length that they say. Conditions: as stated. -/
import Derived.Test.YtjdbjmfkheffdaaPart7
namespace Go.Proofs.Ytjdbjmfkheffdaa
open Go.RowKit
set_option linter.unusedVariables false
set_option maxRecDepth 20000

theorem cell_n1 (w : World) (x : Int) : ∀ j u, (cells [x])[j]? = some u → (w.alloc (.cells #[.int .i64 x] 3)).cell? ((⟨w.heap.size, 0, none⟩ : Addr).add j) = some u := by
  intro j u hu
  obtain ⟨hj, rfl⟩ := cells_get hu
  rw [Addr.add_lit, Nat.zero_add, cell_of_row _ _ _ _ 3 (0, 0) (heap_alloc_new w _)]
  simp at hj
  match j, hj with
  | 0, _ => rfl
theorem B.Sl.belowB {w w' : World} {b o n cap base : Nat} {l : List Int} (h : B.Sl w (some ⟨b, o, none⟩) n cap l) (hb : Below base w w') (hlt : b < base) : B.Sl w' (some ⟨b, o, none⟩) n cap l := by
  refine ⟨h.len, h.le, h.max, h.nil, h.b8, ?_⟩
  rcases h.row with e | ⟨b', o', e, hc⟩
  · exact .inl e
  · simp at e
    obtain ⟨rfl, rfl⟩ := e
    exact .inr ⟨_, _, rfl, fun i hi => by rw [hb.cell (p := ⟨b, o + i, none⟩) hlt]; exact hc i hi⟩
/-- What is read so far. -/
def partP (b : List Int) (k : Nat) : Pk := ⟨b[0]?.getD 0, b[1]?.getD 0, b[2]?.getD 0, b[3]?.getD 0 * 256 + b[4]?.getD 0, b[5]?.getD 0, b[6]?.getD 0 - 1, b[7]?.getD 0, b[8]?.getD 0 == 1, wordsN (b.drop 10) k⟩
theorem partP_full {b : List Int} {m : Nat} (h : b.length = 10 + 8 * m) : partP b m = readP b := by
  unfold partP readP
  rw [h, show (10 + 8 * m - 10) / 8 = m by omega]
/-- What the document's Unpack gives. -/
def Unp (l : List Int) (w : World) (e : Ending) (w' : World) : Prop := match unpackI l with
  | some y => ∃ a' m cap', e = .returned (.tuple #[y.val (.slice a' m cap'), .bool true]) ∧ Sl w' a' m cap' y.z ∧ (∀ ad : Addr, a' = some ad → w.heap.size ≤ ad.block) ∧ Below w.heap.size w w'
  | none => NoPk w e w' (.bool false)
theorem Unp.no {l : List Int} {w w' : World} {e : Ending} (h : unpackI l = none) (hn : NoPk w e w' (.bool false)) : Unp l w e w' := by unfold Unp; rw [h]; exact hn
theorem Unp.yes {l : List Int} {w w' : World} {e : Ending} {y : Pk} (h : unpackI l = some y) {a' : Option Addr} {m cap' : Nat} (he : e = .returned (.tuple #[y.val (.slice a' m cap'), .bool true])) (hs : Sl w' a' m cap' y.z) (hl : ∀ ad : Addr, a' = some ad → w.heap.size ≤ ad.block) (hb : Below w.heap.size w w') : Unp l w e w' := by
  unfold Unp; rw [h]; exact ⟨a', m, cap', he, hs, hl, hb⟩
theorem long_unpack {l b : List Int} (h8 : B.B8 l) (ho : B.openI l = some b) (hl : longB b = true) (hr : (readP b).right = true) : (B.sealI (packI (readP b)) = l ↔ b[8]?.getD 0 ≤ 1) ∧ (b[8]?.getD 0 ≤ 1 → unpackI l = some (readP b)) ∧ (¬ b[8]?.getD 0 ≤ 1 → unpackI l = none) := by
  have hb := open_take ho
  have h8b : B.B8 b := by rw [hb]; exact B.B8_take h8 _
  have hlg := hl
  unfold longB at hlg
  simp at hlg
  have hseal : B.sealI b = l := by
    have h2 : ¬ l.length < 2 := fun h => by rw [B.openI_short h] at ho; cases ho
    obtain ⟨m, hm⟩ : ∃ m, l.length = m + 2 := ⟨l.length - 2, by omega⟩
    have hm' : b = l.take m := by rw [hb, hm]; rfl
    rw [hm']
    refine (B.seal_open h8 hm).2 ?_
    by_cases hh : B.sumI (l.take m) = l[m]?.getD 0 * 256 + l[m + 1]?.getD 0
    · exact hh
    · rw [B.openI_no hm hh] at ho; cases ho
  have hpr := pack_read h8b hlg.1 hlg.2
  refine ⟨⟨fun h => ?_, fun h => ?_⟩, fun h => ?_, fun h => ?_⟩
  · rw [← hseal] at h
    refine hpr.1 ?_
    have hlen : (packI (readP b)).length = b.length := by have := congrArg List.length h; rw [sealI_len, sealI_len] at this; omega
    have := congrArg (List.take b.length) h
    unfold B.sealI at this
    rw [List.take_left, ← hlen, List.take_left] at this
    exact this
  · rw [hpr.2 h, hseal]
  · exact unpack_some ho (by unfold formB; rw [decide_eq_true hlg.1, decide_eq_true h, decide_eq_true hlg.2]; rfl) hr
  · exact unpack_form ho (by unfold formB; rw [decide_eq_false h]; simp)

set_option maxHeartbeats 1500000 in
set_option maxRecDepth 20000 in
theorem refUnpack_long (a : Option Addr) (l : List Int) (n cap : Nat) (w : World) (hsl : B.Sl w a n cap l) (hn : n ≤ 140737488351300) (b : List Int) (ho : B.openI l = some b) (hlg : longB b = true) :
    Calls Try.prog 48 #[.slice a n cap] w fun e w' => Unp l w e w' := by
  have bx0 := Bx.made w zeroPk (.slice none 0 0)
  have hB0 : Below w.heap.size w (w.alloc (.cells #[.int .i64 zeroPk.k, .int .i64 zeroPk.f, .int .i64 zeroPk.t, .int .i64 zeroPk.i, .int .i64 zeroPk.l, .int .i64 zeroPk.p, .int .i64 zeroPk.s, .bool zeroPk.fl, .slice none 0 0] 26)) := ba (Below.refl _ _)
  have HO : Hid (B.openI l = some b) := ho
  have h8b : B.B8 b := by rw [open_take ho]; exact B.B8_take hsl.b8 _
  obtain ⟨m, hm1, hm2, hm9⟩ := long_of h8b hlg
  have HLG : Hid (longB b = true) := hlg
  have HFULL : Hid (partP b m = readP b) := partP_full hm2
  have h8 := hsl.b8
  have hl2 : 2 ≤ n := by
    have := hsl.len
    by_cases h : l.length < 2
    · rw [B.openI_short h] at ho; cases ho
    · omega
  obtain ⟨lb, lo, rfl, llt, _⟩ := hsl.at (k := 0) (by omega)
  have hs0 := hsl.below hB0
  obtain ⟨nb, hnb⟩ : ∃ nb, b.length = nb := ⟨_, rfl⟩
  have HB : Hid (b.length = nb) := hnb
  have HM : Hid (nb = 10 + 8 * m) := by show _ = _; rw [← hnb]; exact hm2
  have h10' : decide ((nb : Int) < 10) = false := by simp; omega
  have h10n : 10 ≤ nb := by omega
  have hn9 : (9 : Int) < (nb : Int) := by omega
  have hd : ((nb : Int) != 10 + 8 * (m : Int)) = false := by simp; omega
  have hm0 : (0 : Int) ≤ (m : Int) := by omega
  have hm256 : (m : Int) < 256 := by omega
  have HNB : Hid (nb ≤ 2050) := by show _ ≤ _; omega
  clear hsl ho hlg hnb hm2
  obtain ⟨x0, y0⟩ := B.B8_get h8b 0
  obtain ⟨x1, y1⟩ := B.B8_get h8b 1
  obtain ⟨x2, y2⟩ := B.B8_get h8b 2
  obtain ⟨x3, y3⟩ := B.B8_get h8b 3
  obtain ⟨x4, y4⟩ := B.B8_get h8b 4
  obtain ⟨x5, y5⟩ := B.B8_get h8b 5
  obtain ⟨x6, y6⟩ := B.B8_get h8b 6
  obtain ⟨x7, y7⟩ := B.B8_get h8b 7
  obtain ⟨x8, y8⟩ := B.B8_get h8b 8
  have HLU : Hid ((readP b).right = true → (B.sealI (packI (readP b)) = l ↔ b[8]?.getD 0 ≤ 1) ∧ (b[8]?.getD 0 ≤ 1 → unpackI l = some (readP b)) ∧ (¬ b[8]?.getD 0 ≤ 1 → unpackI l = none)) := fun hr => long_unpack h8 HO.out HLG.out hr
  have HUN : Hid ((readP b).right = false → unpackI l = none) := fun hr => unpack_right HO.out hr
  have HP0 : Hid (partP b 0 = ⟨b[0]?.getD 0, b[1]?.getD 0, b[2]?.getD 0, b[3]?.getD 0 * 256 + b[4]?.getD 0, b[5]?.getD 0, b[6]?.getD 0 - 1, b[7]?.getD 0, b[8]?.getD 0 == 1, []⟩) := rfl
  have hor := i64_join x3 y3 x4 y4
  have H9 : Hid (b[9]?.getD 0 = (m : Int)) := hm9
  clear hm9
  go_enter Try.func48, Try.ntmps48
  go_upto_region 4 with (go_at_call 68; refine (B.refOpen_any _ l n cap _ hs0 hn).mono ?_; rintro e w1 ⟨v1, rfl, ho1, hb1⟩; rw [HO.out] at ho1 ⊢; simp only [Option.isSome_some, Option.getD_some] at ho1 ⊢; obtain ⟨a1, cap1, rfl, hs1⟩ := ho1.sl' HB.out; obtain ⟨bb, oo, rfl, blt, c9⟩ := hs1.at (k := 9) (by omega); rw [H9.out] at c9; have bx1 := bx0.next hb1)
  have B1 := next hB0 hb1
  have hl1 := hs0.below hb1
  have z1 : w.heap.size < w1.heap.size := bx1.lt
  obtain ⟨b0', o0', e0, _, c0⟩ := hs1.at (k := 0) (by omega)
  obtain ⟨b1', o1', e1, _, c1⟩ := hs1.at (k := 1) (by omega)
  obtain ⟨b2', o2', e2, _, c2⟩ := hs1.at (k := 2) (by omega)
  obtain ⟨b3', o3', e3, _, c3⟩ := hs1.at (k := 3) (by omega)
  obtain ⟨b4', o4', e4, _, c4⟩ := hs1.at (k := 4) (by omega)
  obtain ⟨b5', o5', e5, _, c5⟩ := hs1.at (k := 5) (by omega)
  obtain ⟨b6', o6', e6, _, c6⟩ := hs1.at (k := 6) (by omega)
  obtain ⟨b7', o7', e7, _, c7⟩ := hs1.at (k := 7) (by omega)
  obtain ⟨b8', o8', e8, _, c8⟩ := hs1.at (k := 8) (by omega)
  simp at e0 e1 e2 e3 e4 e5 e6 e7 e8
  obtain ⟨rfl, rfl⟩ := e0
  obtain ⟨rfl, rfl⟩ := e1
  obtain ⟨rfl, rfl⟩ := e2
  obtain ⟨rfl, rfl⟩ := e3
  obtain ⟨rfl, rfl⟩ := e4
  obtain ⟨rfl, rfl⟩ := e5
  obtain ⟨rfl, rfl⟩ := e6
  obtain ⟨rfl, rfl⟩ := e7
  obtain ⟨rfl, rfl⟩ := e8
  rw [Nat.add_zero] at c0
  generalize b[0]?.getD 0 = v0 at *
  generalize b[1]?.getD 0 = v1 at *
  generalize b[2]?.getD 0 = v2 at *
  generalize b[3]?.getD 0 = v3 at *
  generalize b[4]?.getD 0 = v4 at *
  generalize b[5]?.getD 0 = v5 at *
  generalize b[6]?.getD 0 = v6 at *
  generalize b[7]?.getD 0 = v7 at *
  generalize b[8]?.getD 0 = v8 at *
  have q0 : (0 : Int) < (nb : Int) := by omega
  have q1 : (1 : Int) < (nb : Int) := by omega
  have q2 : (2 : Int) < (nb : Int) := by omega
  have q3 : (3 : Int) < (nb : Int) := by omega
  have q4 : (4 : Int) < (nb : Int) := by omega
  have q5 : (5 : Int) < (nb : Int) := by omega
  have q6 : (6 : Int) < (nb : Int) := by omega
  have q7 : (7 : Int) < (nb : Int) := by omega
  have q8 : (8 : Int) < (nb : Int) := by omega
  clear bx0 hB0 hs0 hb1 ho1
  have uc := @Up.cell2
  have uf := @Up.frozen2
  refine wp_region_mild 42 rfl (by kernel_rfl) ?_
  refine mild_take (v := ?v601) 0 rfl (by kernel_rfl) (by kernel_rfl) (by kernel_rfl) (fun _ _ _ h => h) (by kernel_rfl) (fun Wu K hK => ?hy601) ?go601
  case hy601 =>
    go_big_quiet_op
    simp only [Act.put, List.setIfInBounds_toArray, List.set_cons_zero, List.set_cons_succ] at hK
    exact hK
  simp only [Act.put, List.setIfInBounds_toArray, List.set_cons_zero, List.set_cons_succ]
  refine mild_take (v := ?v602) 1 rfl (by kernel_rfl) (by kernel_rfl) (by kernel_rfl) (fun _ _ _ h => h) (by kernel_rfl) (fun Wu K hK => ?hy602) ?go602
  case hy602 =>
    go_big_quiet_op
    simp only [Act.put, List.setIfInBounds_toArray, List.set_cons_zero, List.set_cons_succ] at hK
    exact hK
  simp only [Act.put, List.setIfInBounds_toArray, List.set_cons_zero, List.set_cons_succ]
  refine mild_take (v := ?v603) 2 rfl (by kernel_rfl) (by kernel_rfl) (by kernel_rfl) (fun _ _ _ h => h) (by kernel_rfl) (fun Wu K hK => ?hy603) ?go603
  case hy603 =>
    go_big_quiet_op
    simp only [Act.put, List.setIfInBounds_toArray, List.set_cons_zero, List.set_cons_succ] at hK
    exact hK
  simp only [Act.put, List.setIfInBounds_toArray, List.set_cons_zero, List.set_cons_succ]
  refine mild_take (v := ?v604) 3 rfl (by kernel_rfl) (by kernel_rfl) (by kernel_rfl) (fun _ _ _ h => h) (by kernel_rfl) (fun Wu K hK => ?hy604) ?go604
  case hy604 =>
    go_big_quiet_op
    simp only [Act.put, List.setIfInBounds_toArray, List.set_cons_zero, List.set_cons_succ] at hK
    exact hK
  simp only [Act.put, List.setIfInBounds_toArray, List.set_cons_zero, List.set_cons_succ]
  refine mild_take (v := ?v605) 4 rfl (by kernel_rfl) (by kernel_rfl) (by kernel_rfl) (fun _ _ _ h => h) (by kernel_rfl) (fun Wu K hK => ?hy605) ?go605
  case hy605 =>
    go_big_quiet_op
    simp only [Act.put, List.setIfInBounds_toArray, List.set_cons_zero, List.set_cons_succ] at hK
    exact hK
  simp only [Act.put, List.setIfInBounds_toArray, List.set_cons_zero, List.set_cons_succ]
  refine mild_take (v := ?v606) 5 rfl (by kernel_rfl) (by kernel_rfl) (by kernel_rfl) (fun _ _ _ h => h) (by kernel_rfl) (fun Wu K hK => ?hy606) ?go606
  case hy606 =>
    go_big_quiet_op
    simp only [Act.put, List.setIfInBounds_toArray, List.set_cons_zero, List.set_cons_succ] at hK
    exact hK
  simp only [Act.put, List.setIfInBounds_toArray, List.set_cons_zero, List.set_cons_succ]
  refine mild_take (v := ?v607) 6 rfl (by kernel_rfl) (by kernel_rfl) (by kernel_rfl) (fun _ _ _ h => h) (by kernel_rfl) (fun Wu K hK => ?hy607) ?go607
  case hy607 =>
    go_big_quiet_op
    simp only [Act.put, List.setIfInBounds_toArray, List.set_cons_zero, List.set_cons_succ] at hK
    exact hK
  simp only [Act.put, List.setIfInBounds_toArray, List.set_cons_zero, List.set_cons_succ]
  refine mild_take (v := ?v608) 7 rfl (by kernel_rfl) (by kernel_rfl) (by kernel_rfl) (fun _ _ _ h => h) (by kernel_rfl) (fun Wu K hK => ?hy608) ?go608
  case hy608 =>
    go_big_quiet_op
    simp only [Act.put, List.setIfInBounds_toArray, List.set_cons_zero, List.set_cons_succ] at hK
    exact hK
  simp only [Act.put, List.setIfInBounds_toArray, List.set_cons_zero, List.set_cons_succ]
  refine mild_take (v := ?v609) 8 rfl (by kernel_rfl) (by kernel_rfl) (by kernel_rfl) (fun _ _ _ h => h) (by kernel_rfl) (fun Wu K hK => ?hy609) ?go609
  case hy609 =>
    go_big_quiet_op
    simp only [Act.put, List.setIfInBounds_toArray, List.set_cons_zero, List.set_cons_succ] at hK
    exact hK
  simp only [Act.put, List.setIfInBounds_toArray, List.set_cons_zero, List.set_cons_succ]
  refine mild_take (v := ?v610) 9 rfl (by kernel_rfl) (by kernel_rfl) (by kernel_rfl) (fun _ _ _ h => h) (by kernel_rfl) (fun Wu K hK => ?hy610) ?go610
  case hy610 =>
    go_big_quiet_op
    simp only [Act.put, List.setIfInBounds_toArray, List.set_cons_zero, List.set_cons_succ] at hK
    exact hK
  simp only [Act.put, List.setIfInBounds_toArray, List.set_cons_zero, List.set_cons_succ]
  refine mild_take (v := ?v611) 10 rfl (by kernel_rfl) (by kernel_rfl) (by kernel_rfl) (fun _ _ _ h => h) (by kernel_rfl) (fun Wu K hK => ?hy611) ?go611
  case hy611 =>
    go_big_quiet_op
    simp only [Act.put, List.setIfInBounds_toArray, List.set_cons_zero, List.set_cons_succ] at hK
    exact hK
  simp only [Act.put, List.setIfInBounds_toArray, List.set_cons_zero, List.set_cons_succ]
  refine mild_take (v := ?v612) 11 rfl (by kernel_rfl) (by kernel_rfl) (by kernel_rfl) (fun _ _ _ h => h) (by kernel_rfl) (fun Wu K hK => ?hy612) ?go612
  case hy612 =>
    go_big_quiet_op
    simp only [Act.put, List.setIfInBounds_toArray, List.set_cons_zero, List.set_cons_succ] at hK
    exact hK
  simp only [Act.put, List.setIfInBounds_toArray, List.set_cons_zero, List.set_cons_succ]
  refine mild_take (v := ?v613) 12 rfl (by kernel_rfl) (by kernel_rfl) (by kernel_rfl) (fun _ _ _ h => h) (by kernel_rfl) (fun Wu K hK => ?hy613) ?go613
  case hy613 =>
    go_big_quiet_op
    simp only [Act.put, List.setIfInBounds_toArray, List.set_cons_zero, List.set_cons_succ] at hK
    exact hK
  simp only [Act.put, List.setIfInBounds_toArray, List.set_cons_zero, List.set_cons_succ]
  refine mild_take (v := ?v614) 13 rfl (by kernel_rfl) (by kernel_rfl) (by kernel_rfl) (fun _ _ _ h => h) (by kernel_rfl) (fun Wu K hK => ?hy614) ?go614
  case hy614 =>
    go_big_quiet_op
    simp only [Act.put, List.setIfInBounds_toArray, List.set_cons_zero, List.set_cons_succ] at hK
    exact hK
  simp only [Act.put, List.setIfInBounds_toArray, List.set_cons_zero, List.set_cons_succ]
  refine mild_take (v := ?v615) 14 rfl (by kernel_rfl) (by kernel_rfl) (by kernel_rfl) (fun _ _ _ h => h) (by kernel_rfl) (fun Wu K hK => ?hy615) ?go615
  case hy615 =>
    go_big_quiet_op
    simp only [Act.put, List.setIfInBounds_toArray, List.set_cons_zero, List.set_cons_succ] at hK
    exact hK
  simp only [Act.put, List.setIfInBounds_toArray, List.set_cons_zero, List.set_cons_succ]
  refine mild_take (v := ?v616) 15 rfl (by kernel_rfl) (by kernel_rfl) (by kernel_rfl) (fun _ _ _ h => h) (by kernel_rfl) (fun Wu K hK => ?hy616) ?go616
  case hy616 =>
    go_big_quiet_op
    simp only [Act.put, List.setIfInBounds_toArray, List.set_cons_zero, List.set_cons_succ] at hK
    exact hK
  simp only [Act.put, List.setIfInBounds_toArray, List.set_cons_zero, List.set_cons_succ]
  refine mild_take (v := ?v617) 16 rfl (by kernel_rfl) (by kernel_rfl) (by kernel_rfl) (fun _ _ _ h => h) (by kernel_rfl) (fun Wu K hK => ?hy617) ?go617
  case hy617 =>
    go_big_quiet_op
    simp only [Act.put, List.setIfInBounds_toArray, List.set_cons_zero, List.set_cons_succ] at hK
    exact hK
  simp only [Act.put, List.setIfInBounds_toArray, List.set_cons_zero, List.set_cons_succ]
  refine mild_take (v := ?v618) 17 rfl (by kernel_rfl) (by kernel_rfl) (by kernel_rfl) (fun _ _ _ h => h) (by kernel_rfl) (fun Wu K hK => ?hy618) ?go618
  case hy618 =>
    go_big_quiet_op
    simp only [Act.put, List.setIfInBounds_toArray, List.set_cons_zero, List.set_cons_succ] at hK
    exact hK
  simp only [Act.put, List.setIfInBounds_toArray, List.set_cons_zero, List.set_cons_succ]
  refine mild_take (v := ?v619) 18 rfl (by kernel_rfl) (by kernel_rfl) (by kernel_rfl) (fun _ _ _ h => h) (by kernel_rfl) (fun Wu K hK => ?hy619) ?go619
  case hy619 =>
    go_big_quiet_op
    simp only [Act.put, List.setIfInBounds_toArray, List.set_cons_zero, List.set_cons_succ] at hK
    exact hK
  simp only [Act.put, List.setIfInBounds_toArray, List.set_cons_zero, List.set_cons_succ]
  refine mild_take (v := ?v620) 19 rfl (by kernel_rfl) (by kernel_rfl) (by kernel_rfl) (fun _ _ _ h => h) (by kernel_rfl) (fun Wu K hK => ?hy620) ?go620
  case hy620 =>
    go_big_quiet_op
    simp only [Act.put, List.setIfInBounds_toArray, List.set_cons_zero, List.set_cons_succ] at hK
    exact hK
  simp only [Act.put, List.setIfInBounds_toArray, List.set_cons_zero, List.set_cons_succ]
  refine mild_take (v := ?v621) 20 rfl (by kernel_rfl) (by kernel_rfl) (by kernel_rfl) (fun _ _ _ h => h) (by kernel_rfl) (fun Wu K hK => ?hy621) ?go621
  case hy621 =>
    go_big_quiet_op
    simp only [Act.put, List.setIfInBounds_toArray, List.set_cons_zero, List.set_cons_succ] at hK
    exact hK
  simp only [Act.put, List.setIfInBounds_toArray, List.set_cons_zero, List.set_cons_succ]
  refine mild_take (v := ?v622) 21 rfl (by kernel_rfl) (by kernel_rfl) (by kernel_rfl) (fun _ _ _ h => h) (by kernel_rfl) (fun Wu K hK => ?hy622) ?go622
  case hy622 =>
    go_big_quiet_op
    simp only [Act.put, List.setIfInBounds_toArray, List.set_cons_zero, List.set_cons_succ] at hK
    exact hK
  simp only [Act.put, List.setIfInBounds_toArray, List.set_cons_zero, List.set_cons_succ]
  refine mild_take (v := ?v623) 22 rfl (by kernel_rfl) (by kernel_rfl) (by kernel_rfl) (fun _ _ _ h => h) (by kernel_rfl) (fun Wu K hK => ?hy623) ?go623
  case hy623 =>
    go_big_quiet_op
    simp only [Act.put, List.setIfInBounds_toArray, List.set_cons_zero, List.set_cons_succ] at hK
    exact hK
  simp only [Act.put, List.setIfInBounds_toArray, List.set_cons_zero, List.set_cons_succ]
  refine mild_take (v := ?v624) 23 rfl (by kernel_rfl) (by kernel_rfl) (by kernel_rfl) (fun _ _ _ h => h) (by kernel_rfl) (fun Wu K hK => ?hy624) ?go624
  case hy624 =>
    go_big_quiet_op
    simp only [Act.put, List.setIfInBounds_toArray, List.set_cons_zero, List.set_cons_succ] at hK
    exact hK
  simp only [Act.put, List.setIfInBounds_toArray, List.set_cons_zero, List.set_cons_succ]
  refine mild_take (v := ?v625) 24 rfl (by kernel_rfl) (by kernel_rfl) (by kernel_rfl) (fun _ _ _ h => h) (by kernel_rfl) (fun Wu K hK => ?hy625) ?go625
  case hy625 =>
    go_big_quiet_op
    simp only [Act.put, List.setIfInBounds_toArray, List.set_cons_zero, List.set_cons_succ] at hK
    exact hK
  simp only [Act.put, List.setIfInBounds_toArray, List.set_cons_zero, List.set_cons_succ]
  refine mild_take (v := ?v626) 25 rfl (by kernel_rfl) (by kernel_rfl) (by kernel_rfl) (fun _ _ _ h => h) (by kernel_rfl) (fun Wu K hK => ?hy626) ?go626
  case hy626 =>
    go_big_quiet_op
    simp only [Act.put, List.setIfInBounds_toArray, List.set_cons_zero, List.set_cons_succ] at hK
    exact hK
  simp only [Act.put, List.setIfInBounds_toArray, List.set_cons_zero, List.set_cons_succ]
  refine mild_take (v := ?v627) 26 rfl (by kernel_rfl) (by kernel_rfl) (by kernel_rfl) (fun _ _ _ h => h) (by kernel_rfl) (fun Wu K hK => ?hy627) ?go627
  case hy627 =>
    go_big_quiet_op
    simp only [Act.put, List.setIfInBounds_toArray, List.set_cons_zero, List.set_cons_succ] at hK
    exact hK
  simp only [Act.put, List.setIfInBounds_toArray, List.set_cons_zero, List.set_cons_succ]
  refine mild_take (v := ?v628) 27 rfl (by kernel_rfl) (by kernel_rfl) (by kernel_rfl) (fun _ _ _ h => h) (by kernel_rfl) (fun Wu K hK => ?hy628) ?go628
  case hy628 =>
    go_big_quiet_op
    simp only [Act.put, List.setIfInBounds_toArray, List.set_cons_zero, List.set_cons_succ] at hK
    exact hK
  simp only [Act.put, List.setIfInBounds_toArray, List.set_cons_zero, List.set_cons_succ]
  refine mild_take (v := ?v629) 28 rfl (by kernel_rfl) (by kernel_rfl) (by kernel_rfl) (fun _ _ _ h => h) (by kernel_rfl) (fun Wu K hK => ?hy629) ?go629
  case hy629 =>
    go_big_quiet_op
    simp only [Act.put, List.setIfInBounds_toArray, List.set_cons_zero, List.set_cons_succ] at hK
    exact hK
  simp only [Act.put, List.setIfInBounds_toArray, List.set_cons_zero, List.set_cons_succ]
  refine mild_take (v := ?v630) 29 rfl (by kernel_rfl) (by kernel_rfl) (by kernel_rfl) (fun _ _ _ h => h) (by kernel_rfl) (fun Wu K hK => ?hy630) ?go630
  case hy630 =>
    go_big_quiet_op
    simp only [Act.put, List.setIfInBounds_toArray, List.set_cons_zero, List.set_cons_succ] at hK
    exact hK
  simp only [Act.put, List.setIfInBounds_toArray, List.set_cons_zero, List.set_cons_succ]
  refine mild_take (v := ?v631) 30 rfl (by kernel_rfl) (by kernel_rfl) (by kernel_rfl) (fun _ _ _ h => h) (by kernel_rfl) (fun Wu K hK => ?hy631) ?go631
  case hy631 =>
    go_big_quiet_op
    simp only [Act.put, List.setIfInBounds_toArray, List.set_cons_zero, List.set_cons_succ] at hK
    exact hK
  simp only [Act.put, List.setIfInBounds_toArray, List.set_cons_zero, List.set_cons_succ]
  refine mild_take (v := ?v632) 31 rfl (by kernel_rfl) (by kernel_rfl) (by kernel_rfl) (fun _ _ _ h => h) (by kernel_rfl) (fun Wu K hK => ?hy632) ?go632
  case hy632 =>
    go_big_quiet_op
    simp only [Act.put, List.setIfInBounds_toArray, List.set_cons_zero, List.set_cons_succ] at hK
    exact hK
  simp only [Act.put, List.setIfInBounds_toArray, List.set_cons_zero, List.set_cons_succ]
  refine mild_take (v := ?v633) 32 rfl (by kernel_rfl) (by kernel_rfl) (by kernel_rfl) (fun _ _ _ h => h) (by kernel_rfl) (fun Wu K hK => ?hy633) ?go633
  case hy633 =>
    go_big_quiet_op
    simp only [Act.put, List.setIfInBounds_toArray, List.set_cons_zero, List.set_cons_succ] at hK
    exact hK
  simp only [Act.put, List.setIfInBounds_toArray, List.set_cons_zero, List.set_cons_succ]
  refine mild_take (v := ?v634) 33 rfl (by kernel_rfl) (by kernel_rfl) (by kernel_rfl) (fun _ _ _ h => h) (by kernel_rfl) (fun Wu K hK => ?hy634) ?go634
  case hy634 =>
    go_big_quiet_op
    simp only [Act.put, List.setIfInBounds_toArray, List.set_cons_zero, List.set_cons_succ] at hK
    exact hK
  simp only [Act.put, List.setIfInBounds_toArray, List.set_cons_zero, List.set_cons_succ]
  refine mild_take (v := ?v635) 34 rfl (by kernel_rfl) (by kernel_rfl) (by kernel_rfl) (fun _ _ _ h => h) (by kernel_rfl) (fun Wu K hK => ?hy635) ?go635
  case hy635 =>
    go_big_quiet_op
    simp only [Act.put, List.setIfInBounds_toArray, List.set_cons_zero, List.set_cons_succ] at hK
    exact hK
  simp only [Act.put, List.setIfInBounds_toArray, List.set_cons_zero, List.set_cons_succ]
  refine mild_take (v := ?v636) 35 rfl (by kernel_rfl) (by kernel_rfl) (by kernel_rfl) (fun _ _ _ h => h) (by kernel_rfl) (fun Wu K hK => ?hy636) ?go636
  case hy636 =>
    go_big_quiet_op
    simp only [Act.put, List.setIfInBounds_toArray, List.set_cons_zero, List.set_cons_succ] at hK
    exact hK
  simp only [Act.put, List.setIfInBounds_toArray, List.set_cons_zero, List.set_cons_succ]
  refine mild_take (v := ?v637) 36 rfl (by kernel_rfl) (by kernel_rfl) (by kernel_rfl) (fun _ _ _ h => h) (by kernel_rfl) (fun Wu K hK => ?hy637) ?go637
  case hy637 =>
    go_big_quiet_op
    simp only [Act.put, List.setIfInBounds_toArray, List.set_cons_zero, List.set_cons_succ] at hK
    exact hK
  simp only [Act.put, List.setIfInBounds_toArray, List.set_cons_zero, List.set_cons_succ]
  refine mild_take (v := ?v638) 37 rfl (by kernel_rfl) (by kernel_rfl) (by kernel_rfl) (fun _ _ _ h => h) (by kernel_rfl) (fun Wu K hK => ?hy638) ?go638
  case hy638 =>
    go_big_quiet_op
    simp only [Act.put, List.setIfInBounds_toArray, List.set_cons_zero, List.set_cons_succ] at hK
    exact hK
  simp only [Act.put, List.setIfInBounds_toArray, List.set_cons_zero, List.set_cons_succ]
  refine mild_take (v := ?v639) 38 rfl (by kernel_rfl) (by kernel_rfl) (by kernel_rfl) (fun _ _ _ h => h) (by kernel_rfl) (fun Wu K hK => ?hy639) ?go639
  case hy639 =>
    go_big_quiet_op
    simp only [Act.put, List.setIfInBounds_toArray, List.set_cons_zero, List.set_cons_succ] at hK
    exact hK
  simp only [Act.put, List.setIfInBounds_toArray, List.set_cons_zero, List.set_cons_succ]
  refine mild_take (v := ?v640) 39 rfl (by kernel_rfl) (by kernel_rfl) (by kernel_rfl) (fun _ _ _ h => h) (by kernel_rfl) (fun Wu K hK => ?hy640) ?go640
  case hy640 =>
    go_big_quiet_op
    simp only [Act.put, List.setIfInBounds_toArray, List.set_cons_zero, List.set_cons_succ] at hK
    exact hK
  simp only [Act.put, List.setIfInBounds_toArray, List.set_cons_zero, List.set_cons_succ]
  intro W
  clear uc uf
  have hB0 := W.2
  have bxW := bx1.next W.2
  have BW := next B1 W.2
  have hlW := hl1.below W.2
  have hsW := hs1.below W.2
  have zW : w1.heap.size ≤ W.1.heap.size := W.2.size
  generalize W.1 = wq at *
  clear W bx1 B1 hl1 hs1 c0 c1 c2 c3 c4 c5 c6 c7 c8 c9
  refine up_list 40 (by kernel_rfl) rfl ?_
  go_wp2
  refine ⟨by exact ba hB0, fun u => ?_⟩
  have hU : Below wq.heap.size wq u.1 := next (ba (Below.refl _ _)) u.2
  have bp1 := (Bx.made wq zeroPk (.slice none 0 0)).next (by exact u.2)
  have hBu := next hB0 hU
  have bxu := bxW.next hU
  have BWu := next BW hU
  have hlu := hlW.below hU
  have hsu := hsW.below hU
  have zu : wq.heap.size < u.1.heap.size := bp1.lt
  generalize u.1 = wr at *
  clear u hU hB0 bxW BW hlW hsW
  have fq := bp1.fz
  obtain ⟨r0, r1, r2, r3, r4, r5, r6, r7, r8, _, rlt⟩ := id bp1
  refine up_list 41 (by kernel_rfl) rfl ?_
  go_wp2
  refine ⟨far9 (g := wq.heap.size) (y := ⟨v0, v1, v2, v3 * 256 + v4, v5, v6 - 1, v7, v8 == 1, []⟩) (v := .slice none 0 0) (P := fun V => Below w1.heap.size w1 V) (fun V o u h => h.setCell zW _) hBu, fun u => ?_⟩
  have f1 := (bp1.put ⟨v0, v1, v2, v3 * 256 + v4, v5, v6 - 1, v7, v8 == 1, []⟩ (.slice none 0 0)).next (by exact u.2)
  have f2 := Bx.next (far9 (g := wq.heap.size) (y := ⟨v0, v1, v2, v3 * 256 + v4, v5, v6 - 1, v7, v8 == 1, []⟩) (v := .slice none 0 0) (P := fun V => Bx V w.heap.size zeroPk (.slice none 0 0)) (fun V o u h => h.far (by simp only; omega)) bxu) (by exact u.2)
  have f3 := next (far9 (g := wq.heap.size) (y := ⟨v0, v1, v2, v3 * 256 + v4, v5, v6 - 1, v7, v8 == 1, []⟩) (v := .slice none 0 0) (P := fun V => Below w.heap.size w V) (fun V o u h => h.setCell (by simp only; omega) _) BWu) (by exact u.2)
  have f4 := B.Sl.below (far9 (g := wq.heap.size) (y := ⟨v0, v1, v2, v3 * 256 + v4, v5, v6 - 1, v7, v8 == 1, []⟩) (v := .slice none 0 0) (P := fun V => B.Sl V (some ⟨lb, lo, none⟩) n cap l) (fun V o u h => h.belowB (Below.setCell (Below.refl wq.heap.size V) (Nat.le_refl _) _) (by omega)) hlu) (by exact u.2)
  have f5 := B.Sl.below (far9 (g := wq.heap.size) (y := ⟨v0, v1, v2, v3 * 256 + v4, v5, v6 - 1, v7, v8 == 1, []⟩) (v := .slice none 0 0) (P := fun V => B.Sl V (some ⟨bb, oo, none⟩) nb cap1 b) (fun V o u h => h.belowB (Below.setCell (Below.refl wq.heap.size V) (Nat.le_refl _) _) (by omega)) hsu) (by exact u.2)
  refine up_done (by kernel_rfl) ?_
  rw [← HP0.out] at f1
  generalize u.1 = V at *
  clear u hBu bxu BWu hlu hsu bp1 fq r0 r1 r2 r3 r4 r5 r6 r7 r8 rlt
  have zg : w.heap.size < wq.heap.size := by omega
  have zb : bb < wq.heap.size := by omega
  have zl : lb < wq.heap.size := by omega
  generalize wq.heap.size = g at *
  obtain ⟨ii, hii, hz0, hz1', hz2⟩ := info_parts Try.infoInt
  clear x0 x1 x2 x3 x4 x5 x6 x7 x8 y0 y1 y2 y3 y4 y5 y6 y7 y8 hor q0 q1 q2 q3 q4 q5 q6 q7 q8 HP0 HO HLG h10' hd
  have zV : g < V.heap.size := f1.lt
  go_wp2
  go_loopw [7] (fun i wr => ∃ k : Nat, k ≤ m ∧ i = .int .i64 k ∧ ∃ (ad : Option Addr) (cd : Nat), Bx wr g (partP b k) (.slice ad k cd) ∧ Own wr V.heap.size (.slice ad k cd) (wordsN (b.drop 10) k) ∧ Below g V wr) (fun i _ => m - (intOf i).toNat)
  case atStart => exact ⟨0, by omega, rfl, none, 0, f1, own_nil _ _, Below.refl _ _⟩
  case round =>
    obtain ⟨k, hk, rfl, ad, cd, bxk, hok, hbr⟩ := hrel
    have hzr : V.heap.size ≤ wr.heap.size := hbr.size
    have hsr := f5.belowB hbr zb
    obtain ⟨b9', o9', e9, _, c9⟩ := hsr.at (k := 9) (by omega)
    simp at e9
    obtain ⟨rfl, rfl⟩ := e9
    rw [H9.out] at c9
    by_cases hlt : k < m
    · obtain ⟨D, hD⟩ : ∃ D, ((b.drop 10).drop (8 * k)).take 8 = D := ⟨_, rfl⟩
      have HDL : Hid (D.length = 8) := by show _ = _; rw [← hD]; have := HB.out; have := HM.out; simp; omega
      have HDJ : Hid (∀ j, j < 8 → D[j]?.getD 0 = b[10 + 8 * k + j]?.getD 0) := fun j hj => by rw [← hD, List.getElem?_take_of_lt hj, List.getElem?_drop, List.getElem?_drop, ← Nat.add_assoc]
      have h8D : B.B8 D := by rw [← hD]; exact B.B8_take (B.B8_drop (B.B8_drop h8b _) _) _
      have HW : Hid (wordsN (b.drop 10) (k + 1) = wordsN (b.drop 10) k ++ [wordOf D]) := by show _ = _; rw [wordsN_succ, hD]
      clear hD
      have hk8 : 10 + 8 * k + 8 ≤ nb := by have := HM.out; omega
      go_wp2
      clear c9
      go_loop [8, 9] (fun r i => ∃ j : Nat, j ≤ 8 ∧ i = .int .i64 j ∧ r = .int .u64 (rdN (D.take j))) (fun _ i => 8 - (intOf i).toNat)
      case atStart => exact ⟨0, by omega, rfl, rfl⟩
      case round =>
        obtain ⟨j, hj, rfl, rfl⟩ := hrel
        obtain ⟨d0, d1⟩ := rdN_bd (B.B8_take h8D j)
        by_cases hjl : j < 8
        · have HS : Hid (rdN (D.take (j + 1)) = rdStep (rdN (D.take j)) (D[j]?.getD 0)) := rdN_take D j (by have := HDL.out; omega)
          obtain ⟨b9', o9', e9, _, cj⟩ := hsr.at (k := 10 + 8 * k + j) (by omega)
          simp at e9
          obtain ⟨rfl, rfl⟩ := e9
          rw [← HDJ.out j hjl] at cj
          obtain ⟨x0, x1⟩ := B.B8_get h8D j
          generalize D[j]?.getD 0 = x at *
          generalize rdN (D.take j) = d at *
          have hix : (10 : Int) + 8 * (k : Int) + (j : Int) < (nb : Int) := by omega
          go_wp2
          go_round
          case rel => exact ⟨j + 1, by omega, by go_num, by rw [HS.out]; rfl⟩
          case measure => simp [intOf]; omega
        · obtain rfl : j = 8 := by omega
          have HT : Hid (D.take 8 = D) := List.take_of_length_le (by have := HDL.out; omega)
          have HL : Hid ((wordsN (b.drop 10) k).length = k) := wordsN_len _ _
          have hrow : wr.ownsRow V.heap.size 3 1 (.slice ad k cd) k (cells (wordsN (b.drop 10) k)) := by have := hok; unfold Own at this; rw [HL.out] at this; exact this
          have c8 := bxk.c8
          have fz := bxk.fz
          rw [HT.out] at d0 d1 ⊢
          go_wp2_with (at_builtin; refine wpList_append_own _ rfl (.tmp 100) (.tmp 103) 22 rfl V.heap.size 3 ii (.int .i64 0) 1 8 Try.underlying22 hii hz0 hz1' hz2 rfl (by decide) _ k (cells (wordsN (b.drop 10) k)) rfl (hrow.alloc _) ⟨_, 0, none⟩ 1 1 (cells [_]) rfl rfl (cell_n1 _ _) (cells_one _) (by unfold maxLen; omega) (by omega) (by simp; omega) ?_; intro v4 w4 hown4 hg4 _; have hl4 : (wordsN (b.drop 10) (k + 1)).length = k + 1 := wordsN_len _ _; have ho4 : Own w4 V.heap.size v4 (wordsN (b.drop 10) (k + 1)) := (by unfold Own; rw [hl4, HW.out]; simpa [cells, wordOf, IntWalk.i64_left] using hown4); clear hl4; obtain ⟨a4, c4, rfl, hs4⟩ := ho4.sl' (wordsN_len _ _); have hb4 : Below V.heap.size wr w4 := ((Below.refl _ _).alloc hzr _).grown hg4 (by simp; omega) (fun k hk => (hrow.lt k hk).1); have bx4 := bxk.below hb4 zV; have f48 := bx4.fz; have c48 := bx4.c8)
          go_roundw
          case rel => exact ⟨k + 1, by omega, by go_num, a4, c4, bx4.setZ (wordsN (b.drop 10) (k + 1)) _, ho4.set (by simpa using zV) _, (hbr.trans (hb4.mono (by omega))).setCell (by simp) _⟩
          case measure => simp [intOf]; omega
    · obtain rfl : k = m := by omega
      rw [HFULL.out] at bxk
      have HZ : Hid ((readP b).z = wordsN (b.drop 10) k) := by show _ = _; rw [← HFULL.out]; rfl
      have hsp := hok.sl' (n := k) (wordsN_len _ _)
      obtain ⟨ad', cd', e, hsp⟩ := hsp
      simp at e
      obtain ⟨rfl, rfl⟩ := e
      have lod := hok.lo
      have hlr := f4.belowB hbr zl
      have bxr := f2.below hbr zg
      have BR : Below w.heap.size w wr := f3.trans (hbr.mono (by omega))
      rw [← HZ.out] at hsp
      have hlen : (readP b).z.length = k := by rw [HZ.out, wordsN_len]
      generalize readP b = y at *
      have HSL : Hid ((B.sealI (packI y)).length = 12 + 8 * k) := by show _ = _; rw [sealI_len, packI_len, hlen]; omega
      clear hlen hok HZ HFULL f1 f2 f3 f4 f5 hsr
      obtain ⟨p0, p1, p2, p3, p4, p5, p6, p7, p8, pf, plt⟩ := id bxk
      have rlt : w.heap.size < wr.heap.size := bxr.lt
      cases hr : y.right
      · have HU : Hid (unpackI l = none) := HUN.out hr
        have HR : y.right = false := hr
        clear hr
        go_wp2_with (go_at_call 47; refine (refPack_no y ad k cd _ hsp HR).mono ?_; rintro e w5 ⟨rfl, hb5⟩; have bx5 := bxr.next hb5; have fq := bx5.fz; obtain ⟨q0, q1, q2, q3, q4, q5, q6, q7, q8, _, _⟩ := id bx5)
        refine bodyPost_ret (v := .tuple #[zeroPk.val (.slice none 0 0), .bool false]) (by simp [results, Try.results48, go_sem, zeroPk, *]) rfl (Unp.no HU.out ⟨rfl, ?_⟩)
        exact far9 (y := zeroPk) (v := .slice none 0 0) (P := fun V => Below w.heap.size w V) (fun V o u h => h.setCell (by simp) _) (next BR hb5)
      · have HR : y.right = true := hr
        obtain ⟨hiff, hyes, hno⟩ := HLU.out hr
        clear hr
        by_cases hv8 : v8 ≤ 1
        · have HU : Hid (unpackI l = some y) := hyes hv8
          have hbq : ((strOfNums (B.sealI (packI y))).toList == (strOfNums l).toList) = true := by rw [hiff.2 hv8]; exact beq_self_eq_true _
          clear hiff hyes hno hv8
          go_wp2_with (go_at_call 47; refine (refPack_yes y ad k cd _ hsp HR).mono ?_; rintro e w5 ⟨v5, rfl, ho5, hb5⟩; obtain ⟨a5, cap5, rfl, hs5⟩ := ho5.sl' HSL.out; have cv1 := B.conv_any hs5 (by omega); have cv2 := B.conv_any (hlr.below hb5) (by omega); have bx5 := bxr.next hb5; have by5 := bxk.next hb5; have fq := bx5.fz; obtain ⟨q0, q1, q2, q3, q4, q5, q6, q7, q8, _, _⟩ := id bx5; obtain ⟨s0, s1, s2, s3, s4, s5, s6, s7, s8, _, _⟩ := id by5)
          have hne : w.heap.size ≠ g := by omega
          refine bodyPost_ret (v := .tuple #[y.val (.slice ad k cd), .bool true]) (by simp [results, Try.results48, go_sem, *]) rfl (Unp.yes HU.out rfl ?_ (fun x e => by have := lod x e; omega) ?_)
          · exact far9 (P := fun V => Sl V ad k cd y.z) (fun V o u h => h.far (fun x e => by have := lod x e; simp only; omega)) (hsp.below hb5)
          · exact far9 (P := fun V => Below w.heap.size w V) (fun V o u h => h.setCell (by simp) _) (next BR hb5)
        · have HU : Hid (unpackI l = none) := hno (by omega)
          have hbq : ((strOfNums (B.sealI (packI y))).toList == (strOfNums l).toList) = false := by
            rw [beq_eq_false_iff_ne]
            intro e
            exact hv8 (hiff.1 (B.str_inj (B.sealI_b8 (packI_b8 y)) h8 (by
              have e1 := congrArg List.toArray e
              exact ByteArray.ext (by simpa [ByteArray.toList_eq] using e))))
          clear hiff hyes hno hv8
          go_wp2_with (go_at_call 47; refine (refPack_yes y ad k cd _ hsp HR).mono ?_; rintro e w5 ⟨v5, rfl, ho5, hb5⟩; obtain ⟨a5, cap5, rfl, hs5⟩ := ho5.sl' HSL.out; have cv1 := B.conv_any hs5 (by omega); have cv2 := B.conv_any (hlr.below hb5) (by omega); have bx5 := bxr.next hb5; have fq := bx5.fz; obtain ⟨q0, q1, q2, q3, q4, q5, q6, q7, q8, _, _⟩ := id bx5)
          refine bodyPost_ret (v := .tuple #[zeroPk.val (.slice none 0 0), .bool false]) (by simp [results, Try.results48, go_sem, zeroPk, *]) rfl (Unp.no HU.out ⟨rfl, ?_⟩)
          exact far9 (y := zeroPk) (v := .slice none 0 0) (P := fun V => Below w.heap.size w V) (fun V o u h => h.setCell (by simp) _) (next BR hb5)
end Go.Proofs.Ytjdbjmfkheffdaa
