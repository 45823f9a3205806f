/- The walk of PoolMemory: it answers true and writes nothing that was there. No condition but that the argument is one that can come in. -/
import Derived.Test.YtafbcnchgnmjbaaPooZ
import Derived.Test.YtafbcnchgnmjbaaIntsSame
namespace Go.Proofs.Ytafbcnchgnmjbaa
open Go.RowKit
set_option linter.unusedVariables false

/-- A list of its own that is not empty: its block, its first number. -/
theorem Own.first {w : World} {base n : Nat} {v : Value} {l : List Int} (h : Own w base v l) (hn : l.length = n) (h0 : 0 < n) : ∃ b cap y, v = .slice (some ⟨b, 0, none⟩) n cap ∧ base ≤ b ∧ b < w.heap.size ∧ w.cell? ⟨b, 0, none⟩ = some (.int .i64 y) ∧ (∀ o, w.frozen? ⟨b, o, none⟩ = false) ∧ Sl w (some ⟨b, 0, none⟩) n cap l ∧ n ≤ cap ∧ cap ≤ maxLen := by
  subst hn
  obtain ⟨a, cap, e, hs⟩ := h.sl
  rcases h.2 with ⟨e', h1⟩ | ⟨b, cap', cur, e', hb, hg, r⟩
  · omega
  · subst e
    injection e' with e1 e2 e3
    subst e1 e3
    obtain ⟨b', o', e4, hlt, hc⟩ := hs.at (k := 0) h0
    simp at e4
    obtain ⟨rfl, rfl⟩ := e4
    exact ⟨b, cap, _, rfl, hb, hlt, hc, fun o => by simp [World.frozen?, hg], hs, hs.le, hs.max⟩
def memPk (z : List Int) : Pk := ⟨1, 0, 0, 0, 0, 0, 0, false, z⟩
set_option maxHeartbeats 600000 in
set_option maxRecDepth 20000 in
theorem poolMemory_walk (a : Option Addr) (n cap : Nat) (l : List Int) (w : World) (hsl : Sl w a n cap l) :
    Calls Try.prog 4 #[.slice a n cap] w fun e w' => e = .returned (.bool true) ∧ Below w.heap.size w w' := by
  obtain ⟨z0, hz0⟩ : ∃ z0, l.take 3 = z0 := ⟨_, rfl⟩
  obtain ⟨m, hm⟩ : ∃ m, z0.length = m := ⟨_, rfl⟩
  have hm3 : m ≤ 3 := by rw [← hm, ← hz0]; simp; omega
  have HM : Hid (z0.length = m) := hm
  have HZ : Hid (l.take 3 = z0) := hz0
  clear hm hz0
  obtain ⟨i0, hi, hp0, hp1, hp2⟩ := info_parts Try.infoInt
  have hzl : Hid ((z0 ++ [4]).length = m + 1) := by show _ = _; simp [HM.out]
  go_enter Try.func4, Try.ntmps4
  go_upto_region 6 with (first
    | (go_at_call 8; refine (P.new_any 2 _).mono ?_; rintro e w1 ⟨rfl, hb1, hq1⟩; rw [show max (2 : Int) 0 = 2 from rfl] at hq1)
    | (go_at_call 15; refine (cut_any a l n cap 3 _ (hsl.below hb1) (by omega)).mono ?_; rintro e w2 ⟨v2, rfl, hown2, hb2⟩; rw [HZ.out] at hown2; obtain ⟨a2, c2, rfl, hs2⟩ := hown2.sl' HM.out)
    | (at_builtin; refine wpList_append_own _ rfl _ _ 22 rfl w1.heap.size 3 i0 (.int .i64 0) 1 8 Try.underlying22 hi hp0 hp1 hp2 rfl (by decide) _ m (cells z0) rfl (World.ownsRow.alloc (by have h := hown2; unfold Own at h; rw [HM.out] at h; exact h) _) ⟨_, 0, none⟩ 1 1 (cells [4]) rfl rfl (cell_i1 _ _) (cells_one _) (by unfold maxLen; omega) (by omega) (by have := hb2.size; simp; omega) ?_; intro v3 w3 hown3 hg3 hiff; clear hiff; have own3 : Own w3 w1.heap.size v3 (z0 ++ [4]) := (by unfold Own; rw [hzl.out]; simpa [cells] using hown3); clear hown3; obtain ⟨bd, cd, y, rfl, bd1, bd2, bdc, bdf, bds, bdl, bdm⟩ := own3.first hzl.out (by omega))
    | (go_at_call 16; refine (copy_any (some ⟨bd, 0, none⟩) (z0 ++ [4]) (m + 1) cd _ bds (by omega)).mono ?_; rintro e w4 ⟨v4, rfl, own4, hb4⟩; obtain ⟨bx, cx, y4, rfl, bx1, bx2, bxc, bxf, bxs, bxl, bxm⟩ := own4.first hzl.out (by omega)))
  have glt := hq1.old w.heap.size (.inl rfl)
  have hr : ∀ k, some k = (Value.slice a2 m c2).ownBlock → w1.heap.size ≤ k := by
    intro k hk
    cases a2 with
    | none => simp [Value.ownBlock] at hk
    | some x => simp [Value.ownBlock] at hk; subst hk; exact (hown2.lo x rfl).1
  have k3 : Keep (fun k => w1.heap.size ≤ k) w1 w3 := (Keep.of_below (next hb2 (ba (Below.refl _ _)))).trans (Keep.grown hg3) (fun k _ h => hr k h)
  have q4 := (hq1.keep k3 (fun k hk h => by rcases hk with rfl | hk; omega; exact hk)).below hb4
  have B4 := next (k3.after hb1 (fun k h => by have := hb1.size; omega)) hb4
  have s4 := bds.below hb4
  have z1 := k3.size
  have z4 := hb4.size
  clear hb1 hq1 hb2 hs2 hown2 hg3 own3 bds bdf bdc hr k3 hb4 own4 hi hp0 hp1 hp2 i0 hsl HZ HM
  generalize hz : z0 ++ [4] = z at *
  generalize hg : w.heap.size = g at *
  have hbxg : bx ≠ g := by omega
  have hxi : (0 : Int) < ((m + 1 : Nat) : Int) := by omega
  unfold maxLen at bdm bxm
  go_upto_region 9 with (go_at_call 9; refine (P.put_ok _ q4 (memPk z) (some ⟨bx, 0, none⟩) (m + 1) cx bxs (by omega) (by omega) (by omega) (by decide)).mono ?_; rintro e w5 ⟨rfl, hk5, M5, D5, q5, hM5, hD5⟩; have x5 : w5.cell? ⟨bx, 0, none⟩ = some (.int .i64 y4) := (by rw [hk5.cell 0 bx2 hbxg]; exact bxc); have f5 : w5.frozen? ⟨bx, 0, none⟩ = false := (by rw [hk5.frozen 0 bx2 hbxg]; exact bxf 0))
  have k6 := Keep.one w5 bx 0 (.int .i64 (wrap64 (y4 + 1)))
  have z5 := hk5.size
  have z6 := k6.size
  have q6 := q5.keep k6 (fun k hk e => by
    rcases hk with hk | hk
    · have := hM5 k hk; omega
    · have := (hD5 k hk).resolve_left id; omega)
  have s6 := (s4.keep hk5 (fun _ x e => by cases e; simp only; omega)).keep k6 (fun _ x e => by cases e; simp only; omega)
  have B6 := k6.afterN (hk5.afterN B4 (by omega) (fun k e => by omega)) (by omega) (fun k e => by omega)
  have gM : ∀ k, M5 k ∨ D5 k → g ≤ k := fun k hk => by
    rcases hk with hk | hk
    · have := hM5 k hk; omega
    · have := (hD5 k hk).resolve_left id; omega
  clear k6 q5 q4 hk5 s4 bxs bxc bxf x5 f5 B4
  generalize w5.setCell ⟨bx, 0, none⟩ (.int .i64 (wrap64 (y4 + 1))) = w6 at *
  rw [List.nil_append] at q6
  have o6 := q6.old
  go_upto_region 13 with (first
    | (go_at_call 10; refine (P.get_some _ q6 0 (memPk z) rfl 0 rfl).mono ?_; rintro e w7 ⟨d, rfl, hb7, own7⟩; obtain ⟨bp, cp, yp, rfl, bp1, bp2, bpc, bpf, bps, bpl, bpm⟩ := own7.first hzl.out (by omega); unfold maxLen at bpm; unfold memPk Pk.val; have mk7 := hb7)
    | (go_at_call 17; refine (same_any (some ⟨bp, 0, none⟩) (some ⟨bd, 0, none⟩) z z (m + 1) (m + 1) cp cd _ (bps.below (ba (Below.refl _ _))) (s6.below (next hb7 (ba (Below.refl _ _))))).mono ?_; rintro e w8 ⟨rfl, k8, rfl⟩; rw [decide_eq_true (rfl : z = z)]))
  have hbd6 : bd < w6.heap.size := by omega
  have e9 := next hb7 (next (ba (o := .cells #[.int .i64 1, .int .i64 0, .int .i64 0, .int .i64 0, .int .i64 0, .int .i64 0, .int .i64 0, .bool false, .slice (some ⟨bp, 0, none⟩) (m + 1) cp] 29) (Below.refl _ _)) (below_dn _ k8))
  have k9 := Keep.one ((w7.alloc (.cells #[.int .i64 1, .int .i64 0, .int .i64 0, .int .i64 0, .int .i64 0, .int .i64 0, .int .i64 0, .bool false, .slice (some ⟨bp, 0, none⟩) (m + 1) cp] 29)).drewN k8) bp 0 (.int .i64 (wrap64 (yp - 1)))
  have k69 := (Keep.of_below e9).trans (F := fun k => k = bp) k9 (fun _ _ h => h)
  have q9 := q6.keep k69 (fun k hk e => by have := o6 k hk; omega)
  have s9 := s6.keep k69 (fun _ x e => by cases e; simp only; omega)
  have B9 := k69.afterN B6 (by omega) (fun k e => by omega)
  have z9 := k69.size
  clear k69 k9 e9 hb7 own7 bps bpf bpc q6 s6 B6
  generalize ((w7.alloc (.cells #[.int .i64 1, .int .i64 0, .int .i64 0, .int .i64 0, .int .i64 0, .int .i64 0, .int .i64 0, .bool false, .slice (some ⟨bp, 0, none⟩) (m + 1) cp] 29)).drewN k8).setCell ⟨bp, 0, none⟩ (.int .i64 (wrap64 (yp - 1))) = w9 at *
  have zne : z ≠ [] := fun h => by have := hzl.out; rw [h] at this; simp at this
  go_upto_region 17 with (first
    | (go_at_call 18; refine (P.all_any _ q9 (by simp)).mono ?_; rintro e w10 ⟨v10, rfl, hn10, hb10⟩; rw [show [memPk z].length = 1 from rfl] at hn10; obtain ⟨M10, D10, R10, a10, c10, rfl, p10, hnew10, soft10⟩ := hn10; obtain ⟨x, d, b, o, hx, hR, hdat, rfl, hm10, hb, ⟨l0, l1, l2, l3, l4, l5, l6, l7, l8⟩, lf⟩ := p10.get (i := 0) (by omega); obtain rfl : memPk z = x := (by simpa using hx); have hsoft := soft10 (memPk z, d) (List.mem_of_getElem? hR) zne; obtain ⟨ad, nd, cd2, rfl, hsd, hnd, hD⟩ := hdat; obtain rfl : nd = m + 1 := hsd.len.symm.trans hzl.out; obtain ⟨b2, o2, rfl, hlt2, hc2⟩ := hsd.at (k := 0) (by omega); have hf2 := hsoft _ _ _ rfl o2; have hd10 := hnew10 b2 (.inr (hD zne _ rfl)); have hm11 := hnew10 b (.inl hm10); have hmx10 := p10.row.max; have hle10 := p10.row.le; unfold maxLen at hmx10; have lf0 := lf 0 (by omega); have lmax := hsd.max; have lle := hsd.le; unfold maxLen at lmax; have ndj := p10.dj b hm10; have hbb : b ≠ b2 := (by rintro rfl; exact ndj (hD zne _ rfl)); simp only [Nat.zero_mul, Nat.add_zero] at l0 l8 lf0 hc2; clear l1 l2 l3 l4 l5 l6 l7 lf hx hR hsoft soft10; simp only [memPk] at l0)
    | (go_at_call 17; refine (same_any (some ⟨b2, o2, none⟩) (some ⟨bd, 0, none⟩) z z (m + 1) (m + 1) cd2 cd _ hsd (s9.below hb10)).mono ?_; rintro e w11 ⟨rfl, k11, rfl⟩; rw [decide_eq_true (rfl : z = z)]))
  generalize (Value.int .i64 (wrap64 ((memPk z).z[0]?.getD 0 + 7))) = nv at *
  have k12 : Keep (fun k => w9.heap.size ≤ k) w9 ((w10.drewN k11).setCell ⟨b2, o2, none⟩ nv) :=
    (Keep.of_below (next hb10 (below_dn _ k11))).setCell (p := ⟨b2, o2, none⟩) (.inr hd10.1) nv
  have q12 := q9.keep k12 (fun k hk e => by have := o6 k hk; omega)
  have s12 := s9.keep k12 (fun _ x e => by cases e; simp only; omega)
  have B12 := k12.afterN B9 (by omega) (fun k e => by omega)
  have z12 := k12.size
  clear k12 hb10 p10 hsd q9 s9 B9 hc2 hf2 l0 l8 lf0
  generalize (w10.drewN k11).setCell ⟨b2, o2, none⟩ nv = w12 at *
  have nbd : ¬ M5 bd := fun h => by have := hM5 bd h; omega
  go_wp2_with (first
    | (go_at_call 11; refine (P.remove_some _ q12 0 (memPk z) rfl 0 rfl).mono ?_; rintro e w13 ⟨d13, rfl, hk13, hdat13, q13⟩; have s13 := s12.keep hk13 (fun _ x e => (by cases e; exact nbd)); obtain ⟨a13, n13, c13, rfl, hs13, _, _⟩ := hdat13; obtain rfl : n13 = m + 1 := hs13.len.symm.trans hzl.out; have hs14 : Sl w13 a13 (m + 1) c13 z := hs13; clear hs13; unfold memPk Pk.val)
    | (go_at_call 17; refine (same_any a13 (some ⟨bd, 0, none⟩) z z (m + 1) (m + 1) c13 cd _ (hs14.below (ba (Below.refl _ _))) (s13.below (ba (Below.refl _ _)))).mono ?_; rintro e w14 ⟨rfl, k14, rfl⟩; rw [decide_eq_true (rfl : z = z)])
    | (go_at_call 14; refine (wakes_any _).mono ?_; rintro e w15 ⟨rfl, hb15⟩))
  go_ret
  have z13 := hk13.size
  refine ⟨rfl, ?_⟩
  rw [hg]
  exact (hk13.afterN B12 (by omega) (fun k e => gM k (.inl e))).trans ((next (ba (Below.refl _ _)) (next (below_dn _ k14) hb15)).mono (by omega))
end Go.Proofs.Ytafbcnchgnmjbaa
