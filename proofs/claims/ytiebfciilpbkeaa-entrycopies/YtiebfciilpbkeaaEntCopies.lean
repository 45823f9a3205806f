/- The walk of EntryCopies: it answers true and writes nothing that was there. No condition but that the arguments are such as can come in. -/
import Derived.Test.YtiebfciilpbkeaaEntLinks
import Derived.Test.YtiebfciilpbkeaaEntWrites
import Derived.Test.YtiebfciilpbkeaaEntC0
namespace Go.Proofs.Ytiebfciilpbkeaa
open Go.RowKit
set_option linter.unusedVariables false
set_option maxRecDepth 20000

set_option maxHeartbeats 400000 in
theorem entryCopies_walk (a : Option Addr) (n1 c1 : Nat) (l1 : List Int) (v nn : Int) (w : World) (h1 : Sl w a n1 c1 l1) :
    Calls Try.prog 4 #[.slice a n1 c1, .int .i64 v, .int .i64 nn] w fun e w' => e = .returned (.bool true) ∧ Below w.heap.size w w' := by
  obtain ⟨z0, hz0⟩ : ∃ z0, l1.take 3 = z0 := ⟨_, rfl⟩
  obtain ⟨m, hm⟩ : ∃ m, z0.length = m := ⟨_, rfl⟩
  have hm3 : m ≤ 3 := by rw [← hm, ← hz0]; simp; omega
  have HM : Hid (z0.length = m) := hm
  have HZ : Hid (l1.take 3 = z0) := hz0
  clear hm hz0
  obtain ⟨i0, hi, hp0, hp1, hp2⟩ := info_parts Try.infoInt
  have hzl : Hid ((z0 ++ [0]).length = m + 1) := by show _ = _; simp [HM.out]
  obtain ⟨N, hN, N0, N1⟩ : ∃ N, nn % 5 = N ∧ 0 ≤ N ∧ N < 5 := ⟨_, rfl, by omega, by omega⟩
  go_enter Try.func4, Try.ntmps4
  go_upto_region 3 with (first
    | (go_at_call 7; refine (cut_any a l1 n1 c1 3 _ h1 (by omega)).mono ?_; rintro e w1 ⟨v1, rfl, own1, hb1⟩; rw [HZ.out] at own1; obtain ⟨ad, cd, rfl, sd⟩ := own1.sl' HM.out)
    | (at_builtin; refine wpList_append_own _ rfl _ _ 22 rfl w.heap.size 3 i0 (.int .i64 0) 1 8 Try.underlying22 hi hp0 hp1 hp2 rfl (by decide) _ m (cells z0) rfl (World.ownsRow.alloc (by have h := own1; unfold Own at h; rw [HM.out] at h; exact h) _) ⟨_, 0, none⟩ 1 1 (cells [0]) rfl rfl (cell_1i _ _) (cells_one _) (by unfold maxLen; omega) (by omega) (by have := hb1.size; simp; omega) ?_; intro v3 w3 hown3 hg3 hiff; clear hiff; have own3 : Own w3 w.heap.size v3 (z0 ++ [0]) := (by unfold Own; rw [hzl.out]; simpa [cells] using hown3); clear hown3; obtain ⟨bd, cd2, rfl, bd1, bd2, bds, own3⟩ := own3.row1 hzl.out (by omega))
    | (go_at_call 9; refine (within_any _ _ _ (by omega) (by omega)).mono ?_; rintro e wx ⟨rfl, rfl⟩; rw [hN]))
  have hr : ∀ k, some k = (Value.slice ad m cd).ownBlock → w.heap.size ≤ k := by
    intro k hk
    cases ad with
    | none => simp [Value.ownBlock] at hk
    | some x => simp [Value.ownBlock] at hk; subst hk; exact (own1.lo x rfl).1
  have B3 : Below w.heap.size w w3 := ((Keep.of_below (F := fun k => w.heap.size ≤ k) (next hb1 (ba (Below.refl _ _)))).trans (Keep.grown hg3) (fun k _ h => hr k h)).below (fun k h => h) (Nat.le_refl _)
  clear hr hg3 own1 hb1 sd h1 HZ hi hp0 hp1 hp2
  have hle := bds.le
  have hmx := bds.max
  generalize z0 ++ [0] = z at *
  generalize hMM : m + 1 = M at *
  have hM1 : 1 ≤ M ∧ M ≤ 4 := by omega
  clear HM hMM
  unfold maxLen at hmx
  go_upto_region 5 with (first
    | (go_at_call 8; refine (enew_any 7 N (N + 1) true _ z M cd2 _ bds (by omega)).mono ?_; rintro e w4 ⟨a4, c4, rfl, own4, hb4⟩; obtain ⟨b4, c4', e4, b41, b42, b4s, own4⟩ := own4.row1 hzl.out (by omega); injection e4 with e41 e42 e43; subst e41 e43)
    | (go_at_call 14; refine (clone_any ⟨N, N + 1, 7, 0, true, z⟩ _ M c4 _ (b4s.below (ba (Below.refl _ _))) (by omega)).mono ?_; rintro e w5 ⟨a5, c5, rfl, own5, hb5⟩; obtain ⟨b5, c5', e5, b51, b52, b5s, own5⟩ := own5.row1 hzl.out (by omega); injection e5 with e51 e52 e53; subst e51 e53))
  have E6 : EC w (w5.alloc (.cells #[.int .i64 N, .int .i64 (N + 1), .int .i64 7, .int .i64 0, .bool true, .slice (some ⟨b5, 0, none⟩) M c5] 27)) w4.heap.size w5.heap.size bd b4 b5 ⟨N, N + 1, 7, 0, true, z⟩ ⟨N, N + 1, 7, 0, true, z⟩ cd2 c4 c5 M z := by
    have z3 := B3.size
    have z4 := hb4.size
    have z5 := hb5.size
    simp at z5 b51
    refine ⟨hzl.out, hzl.out, hzl.out, ((own3.below hb4).below (ba (Below.refl _ _))).below (next hb5 (ba (Below.refl _ _))), ((own4.low (by omega)).below (ba (Below.refl _ _))).below (next hb5 (ba (Below.refl _ _))), (own5.low (by simp; omega)).below (ba (Below.refl _ _)), (Eb.made w4 ⟨N, N + 1, 7, 0, true, z⟩ _).next (next hb5 (ba (Below.refl _ _))), Eb.made w5 ⟨N, N + 1, 7, 0, true, z⟩ _, ?_, next (next (next B3 hb4) (ba (Below.refl _ _))) (next hb5 (ba (Below.refl _ _)))⟩
    constructor <;> omega
  have hl4 := b4s.le
  have hx4 := b4s.max
  have hl5 := b5s.le
  have hx5 := b5s.max
  unfold maxLen at hx4 hx5
  clear own3 own4 own5 hb4 hb5 b41 b42 b51 b52 b4s b5s bds bd1 bd2 B3 e42 e52
  generalize w4.heap.size = ga at *
  generalize w5.heap.size = gb at *
  generalize w5.alloc _ = W6 at *
  obtain ⟨K, hK⟩ : ∃ K, M = K + 1 := ⟨M - 1, by omega⟩
  have HK : Hid (M = K + 1) := hK
  clear hK
  obtain ⟨V1, hV1⟩ : ∃ V1, wrap64 (v + 1) = V1 := ⟨_, rfl⟩
  have hMi : (M : Int) - 1 = (K : Int) := by have := HK.out; omega
  obtain ⟨⟨ya, hya⟩, fa⟩ := E6.pa.cell1 E6.lx (k := 0) (by omega)
  go_upto_region 7 with (first
    | (go_at_call 10; have mk := E7; clear mk; obtain ⟨⟨yb, hyb⟩, fb⟩ := E7.pb.cell1 E7.ly (k := K) (by have := HK.out; omega); refine (write_ok gb 0 b5 0 ⟨N, N + 1, 7, 0, true, z⟩ M c5 K _ _ _ E7.xb hl5 (by unfold maxLen; omega) rfl rfl (by have := HK.out; omega) (by rw [Nat.zero_add, hyb]; rfl) (by rw [Nat.zero_add]; exact fb)).mono ?_; rintro e wz ⟨rfl, w9, hb9, rfl⟩; have E9 := (E7.below hb9).wb (k := K) (by have := HK.out; omega) V1; rw [Nat.zero_add]; generalize w9.setCell ⟨b5, K, none⟩ (.int .i64 V1) = w10 at *)
    | (go_at_call 10; refine (write_ok ga 0 b4 0 ⟨N, N + 1, 7, 0, true, z⟩ M c4 0 0 v _ E6.xa hl4 (by unfold maxLen; omega) rfl rfl (by omega) (by rw [Nat.zero_add, hya]; rfl) (by rw [Nat.zero_add]; exact fa)).mono ?_; rintro e wz ⟨rfl, w7, hb7, rfl⟩; have E7 := (E6.below hb7).wa (k := 0) (by omega) v; rw [Nat.zero_add]; generalize w7.setCell ⟨b4, 0, none⟩ (.int .i64 v) = w8 at *))
  clear E6 E7 hb7 hb9 hya fa hyb fb own4 own5 W6 w8 w9 w7
  obtain ⟨c0, c1, c2, c3, c4', c5'⟩ := E9.xa.lit
  obtain ⟨f0, f1, f2, f3, f4, f5⟩ := E9.xa.lit'
  go_upto_region 9 with (first
    | (go_at_call 15; refine (setFwd_any ga 0 (-1) _ (by rw [c0]; rfl) f0).mono ?_; rintro e wx ⟨rfl, rfl⟩; have E10 := E9.setA 0 (.int .i64 (-1)) ⟨-1, N + 1, 7, 0, true, z.set 0 v⟩ rfl (E9.xa.setF (-1)); obtain ⟨g0, g1, g2, g3, g4, g5⟩ := E10.xb.lit; obtain ⟨k0, k1, k2, k3, k4, k5⟩ := E10.xb.lit')
    | (go_at_call 16; refine (setBack_any gb 0 (-1) _ (by rw [Nat.zero_add, g1]; rfl) (by rw [Nat.zero_add]; exact k1)).mono ?_; rintro e wx ⟨rfl, rfl⟩; rw [Nat.zero_add]; have E11 := E10.setB 1 (.int .i64 (-1)) ⟨N, -1, 7, 0, true, z.set K V1⟩ rfl (by simpa using E10.xb.setB (-1))))
  clear c0 c1 c2 c3 c4' c5' f0 f1 f2 f3 f4 f5 g0 g1 g2 g3 g4 g5 k0 k1 k2 k3 k4 k5 E9 E10
  generalize World.setCell _ _ _ = w11 at *
  obtain ⟨g0, g1, g2, g3, g4, g5⟩ := E11.xb.lit
  obtain ⟨k0, k1, k2, k3, k4, k5⟩ := E11.xb.lit'
  go_upto_region 10 with fail
  clear g0 g1 g2 g3 g4 g5 k0 k1 k2 k3 k4 k5
  have E12 := E11.setB 3 (.int .i64 9) ⟨N, -1, 7, 9, true, z.set K V1⟩ rfl (by simpa using E11.xb.setU 9)
  have E13 := E12.setB 4 (.bool false) ⟨N, -1, 7, 9, false, z.set K V1⟩ rfl (by simpa using E12.xb.setQ false)
  clear E11 E12
  generalize World.setCell _ _ _ = w13 at *
  have dS := E13.d.slice1 E13.lz
  go_upto_region 11 with (go_at_call 17; refine (copy_any _ z M cd2 _ dS (by omega)).mono ?_; rintro e w14 ⟨v14, rfl, own14, hb14⟩; obtain ⟨bw, cw, rfl, bw1, bw2, bws, own14⟩ := own14.row1 hzl.out (by omega))
  have lts := E13.lts
  have E14 := E13.below hb14
  obtain ⟨⟨yw, hyw⟩, fw⟩ := own14.cell1 hzl.out (k := 0) (by omega)
  have hcw := bws.le
  have hxw := bws.max
  unfold maxLen at hxw
  go_upto_region 12 with fail
  have own15 := own14.set1 hzl.out (k := 0) (by omega) v
  have E15 := E14.far (b := bw) (k := 0) (u := .int .i64 v) (by omega)
  have lts2 := E15.lts
  clear hyw fw own14 E14 bws E13 dS
  have lw15 := own15.lt1
  generalize World.setCell w14 _ _ = w15 at *
  have dS := E15.d.slice1 E15.lz
  go_upto_region 13 with (go_at_call 17; refine (copy_any _ z M cd2 _ dS (by omega)).mono ?_; rintro e w16 ⟨v16, rfl, own16, hb16⟩; obtain ⟨bo, co, rfl, bo1, bo2, bos, own16⟩ := own16.row1 hzl.out (by omega))
  have E16 := E15.below hb16
  have own17 := own15.below hb16
  have hkM : K < M := by have := HK.out; omega
  obtain ⟨⟨yo, hyo⟩, fo⟩ := own16.cell1 hzl.out (k := K) hkM
  have hco := bos.le
  have hxo := bos.max
  unfold maxLen at hxo
  have hki : 0 ≤ (K : Int) ∧ (K : Int) < M := by omega
  go_upto_region 14 with fail
  have own18 := own16.set1 hzl.out hkM V1
  have E17 := E16.far (b := bo) (k := K) (u := .int .i64 V1) (by omega)
  have own19 := own17.far1 (b := bo) (k := K) (v := .int .i64 V1) (by omega)
  clear hyo fo own16 E16 bos own17 dS E15 own15 lts lts2 bw1 bw2 bo1 bo2 lw15 hb16 hb14 hV1 hMi own3 hN
  generalize World.setCell w16 _ _ = W2 at *
  obtain ⟨x0, x1, x2, x3, x4, x5⟩ := E17.xa.lit
  obtain ⟨y0, y1, y2, y3, y4, y5⟩ := E17.xb.lit
  simp only at x0 x1 x2 x3 x4 x5 y0 y1 y2 y3 y4 y5
  go_wp2_with (first
    | (go_at_call 13; have mk := F6; clear mk; refine (ewakes_any _).mono ?_; rintro e v7 ⟨rfl, b7⟩)
    | (go_at_call 18; have mk := F5; clear mk; refine (tail_b (f := N) (decide_eq_false (by omega)) (-1) _).mono ?_; rintro e v6 ⟨rfl, b6⟩; clear x0 x1 x2 x3 x4 x5 y0 y1 y2 y3 y4 y5; have F6 := F5.below b6; obtain ⟨x0, x1, x2, x3, x4, x5⟩ := F6.xa.lit; obtain ⟨y0, y1, y2, y3, y4, y5⟩ := F6.xb.lit; simp only at x0 x1 x2 x3 x4 x5 y0 y1 y2 y3 y4 y5)
    | (go_at_call 19; have mk := F4; clear mk; refine (head_b (v := true) rfl N _).mono ?_; rintro e v5 ⟨rfl, b5⟩; clear x0 x1 x2 x3 x4 x5 y0 y1 y2 y3 y4 y5; have F5 := F4.below b5; obtain ⟨x0, x1, x2, x3, x4, x5⟩ := F5.xa.lit; obtain ⟨y0, y1, y2, y3, y4, y5⟩ := F5.xb.lit; simp only at x0 x1 x2 x3 x4 x5 y0 y1 y2 y3 y4 y5)
    | (go_at_call 19; have mk := F3; clear mk; refine (head_b (b := N + 1) (decide_eq_false (by omega)) (-1) _).mono ?_; rintro e v4 ⟨rfl, b4⟩; clear x0 x1 x2 x3 x4 x5 y0 y1 y2 y3 y4 y5; have F4 := F3.below b4; obtain ⟨x0, x1, x2, x3, x4, x5⟩ := F4.xa.lit; obtain ⟨y0, y1, y2, y3, y4, y5⟩ := F4.xb.lit; simp only at x0 x1 x2 x3 x4 x5 y0 y1 y2 y3 y4 y5)
    | (go_at_call 18; have mk := F2; clear mk; refine (tail_b (v := true) rfl (N + 1) _).mono ?_; rintro e v3 ⟨rfl, b3⟩; clear x0 x1 x2 x3 x4 x5 y0 y1 y2 y3 y4 y5; have F3 := F2.below b3; obtain ⟨x0, x1, x2, x3, x4, x5⟩ := F3.xa.lit; obtain ⟨y0, y1, y2, y3, y4, y5⟩ := F3.xb.lit; simp only at x0 x1 x2 x3 x4 x5 y0 y1 y2 y3 y4 y5)
    | (go_at_call 11; have mk := F1; clear mk; refine (same_up (F1.pb.slice1 F1.ly) ((own18.below b1).slice1 (by rw [List.length_set]; exact hzl.out))).mono ?_; rintro e v2 ⟨rfl, b2⟩; clear x0 x1 x2 x3 x4 x5 y0 y1 y2 y3 y4 y5; have F2 := F1.below b2; obtain ⟨x0, x1, x2, x3, x4, x5⟩ := F2.xa.lit; obtain ⟨y0, y1, y2, y3, y4, y5⟩ := F2.xb.lit; simp only at x0 x1 x2 x3 x4 x5 y0 y1 y2 y3 y4 y5)
    | (go_at_call 11; refine (same_up (E17.pa.slice1 E17.lx) (own19.slice1 (by rw [List.length_set]; exact hzl.out))).mono ?_; rintro e v1 ⟨rfl, b1⟩; have F1 := E17.below b1; obtain ⟨x0, x1, x2, x3, x4, x5⟩ := F1.xa.lit; obtain ⟨y0, y1, y2, y3, y4, y5⟩ := F1.xb.lit; simp only at x0 x1 x2 x3 x4 x5 y0 y1 y2 y3 y4 y5))
  go_ret
  exact ⟨rfl, next F6.bel b7⟩
end Go.Proofs.Ytiebfciilpbkeaa
