/- The walk of PacketSame: it answers true and writes nothing that was there. No condition but that the arguments are ones that can come in. -/
import Derived.Test.YtbllhjhlkngchaaPktBox
import Derived.Test.YtbllhjhlkngchaaTake4
namespace Go.Proofs.Ytbllhjhlkngchaa
open Go.RowKit
set_option linter.unusedVariables false

def sameX (z : List Int) : Pk := ⟨3, 1, 2, 77, 4, 5, 1, true, z⟩
theorem Bx.made' (w : World) (x : Pk) (d : Value) (g : Nat) (hg : g = w.heap.size) : Bx (w.alloc (.cells #[.int .i64 x.k, .int .i64 x.f, .int .i64 x.t, .int .i64 x.i, .int .i64 x.l, .int .i64 x.p, .int .i64 x.s, .bool x.fl, d] 26)) g x d := hg ▸ Bx.made w x d
theorem sameP_no {x y : Pk} (h : ¬ (x.k = y.k ∧ x.f = y.f ∧ x.t = y.t ∧ x.i = y.i ∧ x.l = y.l ∧ x.p = y.p ∧ x.s = y.s ∧ x.fl = y.fl ∧ x.z = y.z)) : sameP x y = false ∧ sameP y x = false :=
  ⟨decide_eq_false h, decide_eq_false fun ⟨a, b, c, d, e, f, g, i, j⟩ => h ⟨a.symm, b.symm, c.symm, d.symm, e.symm, f.symm, g.symm, i.symm, j.symm⟩⟩
theorem xor_one (x : Int) : ¬ bits .xor .i64 x 1 = x := by
  have e : bits .xor .i64 x 1 = IntKind.i64.wrap ((BitVec.ofInt 64 x ^^^ BitVec.ofInt 64 1).toNat : Int) := rfl
  have h1 : (BitVec.ofInt 64 1).toNat = 1 := by decide
  have h2 : (BitVec.ofInt 64 x).toNat = (x % 18446744073709551616).toNat := by rw [BitVec.toNat_ofInt]; rfl
  rw [e, BitVec.toNat_xor, h1, h2, IntKind.wrap_i64]
  have h3 := Nat.testBit_xor (x := (x % 18446744073709551616).toNat) (y := 1) (i := 0)
  simp only [Nat.testBit_zero] at h3
  generalize (x % 18446744073709551616).toNat ^^^ 1 = N at *
  rcases Nat.mod_two_eq_zero_or_one N with h | h <;> rcases Nat.mod_two_eq_zero_or_one (x % 18446744073709551616).toNat with h' | h' <;> simp [h, h'] at h3 <;> omega
theorem own_some {w : World} {base n : Nat} {v : Value} {l : List Int} (h : Own w base v l) (hn : l.length = n) (h0 : 0 < n) : ∃ g cap, v = .slice (some ⟨g, 0, none⟩) n cap ∧ base ≤ g ∧ w.ownsRow base 3 1 (.slice (some ⟨g, 0, none⟩) n cap) n (cells l) := by
  subst hn
  have hh := h
  rcases h.2 with ⟨_, h1⟩ | ⟨g, cap, cur, rfl, hb, _⟩
  · omega
  · exact ⟨g, cap, rfl, hb, hh⟩
theorem cells_set (l : List Int) (j : Nat) (x : Int) : (cells l).set j (.int .i64 x) = cells (l.set j x) := by simp [cells, List.map_set]
theorem set_ne {l : List Int} {j : Nat} {x : Int} (hj : j < l.length) (h : ¬ x = l[j]?.getD 0) : ¬ l = l.set j x := by
  intro e
  apply h
  have := congrArg (fun m : List Int => m[j]?.getD 0) e
  simp [hj] at this
  simp [hj, ← this]
theorem cell_i1 (w : World) (x : Int) : ∀ j u, (cells [x])[j]? = some u → (w.alloc (.cells #[.int .i64 x] 3)).cell? ((⟨w.heap.size, 0, none⟩ : Addr).add j) = some u := by
  intro j u hu
  obtain ⟨hj, rfl⟩ := cells_get hu
  rw [Addr.add_lit, Nat.zero_add, cell_of_row _ _ _ _ 3 (0, 0) (heap_alloc_new w _)]
  simp at hj
  match j, hj with
  | 0, _ => rfl
/-- What the switch leaves: two packets that are not the same. -/
def Unlike (w W : World) (g : Nat) (z : List Int) (a1 : Option Addr) (n cap1 : Nat) : Prop :=
  ∃ (y : Pk) (a2 : Option Addr) (n2 c2 : Nat), Bx W g (sameX z) (.slice a1 n cap1) ∧ Bx W (g + 1) y (.slice a2 n2 c2) ∧ Sl W a1 n cap1 z ∧ Sl W a2 n2 c2 y.z ∧ (sameP (sameX z) y = false ∧ sameP y (sameX z) = false) ∧ Below w.heap.size w W

set_option maxHeartbeats 2000000 in
set_option maxRecDepth 20000 in
theorem packetSame_walk (which v : Int) (a : Option Addr) (len cap : Nat) (zz : List Int) (w : World) (hsl : Sl w a len cap zz) :
    Calls Try.prog 5 #[.int .i64 which, .int .i64 v, .slice a len cap] w fun e w' => e = .returned (.bool true) ∧ Below w.heap.size w w' := by
  obtain ⟨z, hz⟩ : ∃ z, zz.take 4 = z := ⟨_, rfl⟩
  have HZ : Hid (zz.take 4 = z) := hz
  have hz4 : z.length ≤ 4 := by rw [← hz]; simp; omega
  clear hz
  obtain ⟨n, hn⟩ : ∃ n, z.length = n := ⟨_, rfl⟩
  have HN : Hid (z.length = n) := hn
  have hn4 : n ≤ 4 := by omega
  clear hn hz4
  have hself := sameP_self (sameX z)
  obtain ⟨c, hc, m0, m1⟩ : ∃ c, which % 9 = c ∧ 0 ≤ c ∧ c < 9 := ⟨_, rfl, by omega, by omega⟩
  obtain ⟨q, hq, q0, q1⟩ : ∃ q, v % 50 = q ∧ 0 ≤ q ∧ q < 50 := ⟨_, rfl, by omega, by omega⟩
  go_enter Try.func5, Try.ntmps5
  go_upto_block 0 with (first
    | (go_at_call 11; refine (cut_any a zz len cap 4 _ hsl (by omega)).mono ?_; rintro e w1 ⟨v1, rfl, hown1, hb1⟩; rw [HZ.out] at hown1; obtain ⟨a1, cap1, rfl, hs1⟩ := hown1.sl' HN.out; have lo1 := hown1.lo)
    | (go_at_call 17; refine (copy_any a1 z n cap1 _ (hs1.below (ba (ba (Below.refl _ _)))) (by omega)).mono ?_; rintro e w2 ⟨v2, rfl, hown2, hb2⟩; obtain ⟨a2, cap2, rfl, hs2⟩ := hown2.sl' HN.out; obtain ⟨hc2, hf2⟩ := bcell hb2; have bx1 : Bx w2 w1.heap.size (sameX z) (.slice a1 n cap1) := ((Bx.made w1 (sameX z) (.slice a1 n cap1)).next (ba (Below.refl _ _))).next hb2; have bx2 : Bx w2 (w1.heap.size + 1) (sameX z) (.slice a1 n cap1) := (Bx.made' _ (sameX z) (.slice a1 n cap1) (w1.heap.size + 1) (by simp)).next hb2; have hs1' := hs1.below (next (ba (ba (Below.refl _ _))) hb2); have hown2' : Own w2 (w1.heap.size + 2) (.slice a2 n cap2) z := hown2.low (by simp); have lo2 := hown2'.lo; have B2 := next hb1 (next (ba (ba (Below.refl _ _))) hb2))
    | (go_at_call 18; have hs1q := hs1'.far (p := ⟨w1.heap.size + 1, 8, none⟩) (u := .slice a2 n cap2) (fun x e => by have := lo1 x e; simp only; omega); have hs2q := hs2.far (p := ⟨w1.heap.size + 1, 8, none⟩) (u := .slice a2 n cap2) (fun x e => by have := lo2 x e; simp only; omega); refine (pktSame_any (sameX z) (sameX z) a1 a2 n n cap1 cap2 _ hs1q hs2q).mono ?_; rintro e w3 ⟨rfl, hb3⟩; rw [hself])
    | (go_at_call 10; refine (within_any _ _ _ (by omega) (by omega)).mono ?_; rintro e wx ⟨rfl, rfl⟩))
  have bxa : Bx w3 w1.heap.size (sameX z) (.slice a1 n cap1) := (bx1.far (by simp)).next hb3
  have bxb : Bx w3 (w1.heap.size + 1) (sameX z) (.slice a2 n cap2) := (bx2.setZ z (.slice a2 n cap2)).next hb3
  have hsa := hs1q.below hb3
  have hsb := hs2q.below hb3
  have hob : Own w3 (w1.heap.size + 2) (.slice a2 n cap2) z := (hown2'.set (by simp) _).below hb3
  have hz1 : w.heap.size ≤ w1.heap.size := hb1.size
  have B3 : Below w.heap.size w w3 := next (B2.setCell (by simp; omega) _) hb3
  clear hc2 hf2 bx1 bx2 hs1' hs1q hs2q hown2 hown2' hb2 hb3 B2 hs2 hs1 hown1 hb1 hsl HZ hself
  generalize w1.heap.size = g at *
  go_cut [25] (fun _ wx => Unlike w wx g z a1 n cap1)
  case first =>
    obtain ⟨c0, c1, c2, c3, c4, c5, c6, c7, c8, fz, lt⟩ := bxb
    have bxb : Bx w3 (g + 1) (sameX z) (.slice a2 n cap2) := ⟨c0, c1, c2, c3, c4, c5, c6, c7, c8, fz, lt⟩
    have hh : c = 0 ∨ c = 1 ∨ c = 2 ∨ c = 3 ∨ c = 4 ∨ c = 5 ∨ c = 6 ∨ c = 7 ∨ c = 8 := by omega
    have fa : ∀ (o : Nat) (u : Value), Bx (w3.setCell ⟨g + 1, o, none⟩ u) g (sameX z) (.slice a1 n cap1) := fun o u => bxa.far (by simp)
    have f1 : ∀ (o : Nat) (u : Value), Sl (w3.setCell ⟨g + 1, o, none⟩ u) a1 n cap1 z := fun o u => hsa.far (fun x e => by have := lo1 x e; simp only; omega)
    have f2 : ∀ (o : Nat) (u : Value), Sl (w3.setCell ⟨g + 1, o, none⟩ u) a2 n cap2 z := fun o u => hsb.far (fun x e => by have := lo2 x e; simp only; omega)
    have fb : ∀ (o : Nat) (u : Value), Below w.heap.size w (w3.setCell ⟨g + 1, o, none⟩ u) := fun o u => B3.setCell (by simp; omega) _
    simp only [sameX] at c0 c1 c2 c3 c4 c5 c6 c7
    rcases hh with rfl | rfl | rfl | rfl | rfl | rfl | rfl | rfl | rfl
    · go_wp2
      go_meet
      case rel => exact ⟨_, a2, n, cap2, fa _ _, bxb.setK _, f1 _ _, f2 _ _, sameP_no (by simp [sameX] <;> omega), fb _ _⟩
    · go_wp2
      go_meet
      case rel => exact ⟨_, a2, n, cap2, fa _ _, bxb.setF _, f1 _ _, f2 _ _, sameP_no (by simp [sameX] <;> omega), fb _ _⟩
    · go_wp2
      go_meet
      case rel => exact ⟨_, a2, n, cap2, fa _ _, bxb.setT _, f1 _ _, f2 _ _, sameP_no (by simp [sameX] <;> omega), fb _ _⟩
    · go_wp2
      go_meet
      case rel => exact ⟨_, a2, n, cap2, fa _ _, bxb.setI _, f1 _ _, f2 _ _, sameP_no (by simp [sameX] <;> omega), fb _ _⟩
    · go_wp2
      go_meet
      case rel => exact ⟨_, a2, n, cap2, fa _ _, bxb.setL _, f1 _ _, f2 _ _, sameP_no (by simp [sameX] <;> omega), fb _ _⟩
    · go_wp2
      go_meet
      case rel => exact ⟨_, a2, n, cap2, fa _ _, bxb.setP _, f1 _ _, f2 _ _, sameP_no (by simp [sameX] <;> omega), fb _ _⟩
    · go_wp2
      go_meet
      case rel => exact ⟨_, a2, n, cap2, fa _ _, bxb.setS _, f1 _ _, f2 _ _, sameP_no (by simp [sameX] <;> omega), fb _ _⟩
    · go_wp2
      go_meet
      case rel => exact ⟨_, a2, n, cap2, fa _ _, bxb.setFl _, f1 _ _, f2 _ _, sameP_no (by simp [sameX]), fb _ _⟩
    · obtain ⟨i0, hi, hz0, hz1', hz2⟩ := info_parts Try.infoInt
      have hob' : w3.ownsRow (g + 2) 3 1 (.slice a2 n cap2) n (cells z) := by have := hob; unfold Own at this; rw [HN.out] at this; exact this
      have app : ∀ v4 w4, w4.ownsRow (g + 2) 3 1 v4 (n + 1) (cells z ++ cells [0]) → (w3.alloc (.cells #[.int .i64 0] 3)).grownBy w4 (Value.slice a2 n cap2).ownBlock → ∃ a4 c4, v4 = .slice a4 (n + 1) c4 ∧ Bx w4 (g + 1) (sameX z) (.slice a2 n cap2) ∧ Unlike w (w4.setCell ⟨g + 1, 8, none⟩ (.slice a4 (n + 1) c4)) g z a1 n cap1 := by
        intro v4 w4 hown4 hg4
        have hl4 : (z ++ [0]).length = n + 1 := by simp [HN.out]
        have ho4 : Own w4 (g + 2) v4 (z ++ [0]) := by unfold Own; rw [hl4]; simpa [cells] using hown4
        obtain ⟨a4, c4, rfl, hs4⟩ := ho4.sl' hl4
        have lo4 := ho4.lo
        have hb4 : Below (g + 2) w3 w4 := ((Below.refl _ _).alloc (by have := lt; omega) _).grown hg4 (by have := lt; simp; omega) (fun k hk => (hob'.lt k hk).1)
        have hb4' : Below w.heap.size w w4 := B3.trans (hb4.mono (by omega))
        have bx4 := bxb.below hb4 (by omega)
        have bx4a := bxa.below hb4 (by omega)
        have hs1 : Sl w4 a1 n cap1 z := by
          refine ⟨hsa.len, hsa.le, hsa.max, hsa.nil, hsa.row.imp id ?_⟩
          rintro ⟨b, o, rfl, hc⟩
          exact ⟨b, o, rfl, fun i hi => by rw [hb4.cell (p := ⟨b, o + i, none⟩) (by have := lo1 _ rfl; simp only at this ⊢; omega)]; exact hc i hi⟩
        refine ⟨a4, c4, rfl, bx4, _, a4, n + 1, c4, bx4a.far (by simp), bx4.setZ (z ++ [0]) _, hs1.far (fun x e => by have := lo1 x e; simp only; omega), hs4.far (fun x e => by have := lo4 x e; simp only; omega), sameP_no (by simp [sameX]), hb4'.setCell (by simp; omega) _⟩
      by_cases hpos : 0 < n
      · by_cases hpar : (1 + q) % 2 = 0
        · obtain ⟨b2, cp, e, hbg, hrow⟩ := own_some hob HN.out hpos
          simp at e
          obtain ⟨rfl, rfl⟩ := e
          obtain ⟨t, htq, htn⟩ : ∃ t : Nat, (1 + q) % (n : Int) = (t : Int) ∧ t < n := by
            have h0 := Int.emod_nonneg (1 + q) (b := (n : Int)) (by omega)
            have h1 := Int.emod_lt_of_pos (1 + q) (b := (n : Int)) (by omega)
            exact ⟨((1 + q) % (n : Int)).toNat, by omega, by omega⟩
          have hd1 : decide (0 < (n : Int)) = true := by simp; omega
          have hd2 : ((1 + q) % 2 == 0) = true := by simp [hpar]
          have hpos' : (0 : Int) < (n : Int) := by omega
          have hcell := hrow.cellAt t (by omega)
          have hcell' : (cells z)[t]? = some (.int .i64 (z[t]?.getD 0)) := by have := HN.out; simp [cells, show t < z.length by omega]
          rw [hcell'] at hcell
          have hltb : b2 < w3.heap.size := (hob.lo _ rfl).2
          have hfz := hrow.frozenAt t
          have hne := xor_one (z[t]?.getD 0)
          obtain ⟨y, hy⟩ : ∃ y, z[t]?.getD 0 = y := ⟨_, rfl⟩
          have HY : Hid (z[t]?.getD 0 = y) := hy
          rw [hy] at hcell hne
          clear hcell' hy app
          go_wp2_with fail
          have uc := @Up.cell2
          have uf := @Up.frozen2
          have tn0 : (0 : Int) ≤ (t : Int) := by omega
          have tn1 : (t : Int) < (n : Int) := by omega
          have hcap := hsb.le
          refine wp_region_mildv 12 11 rfl (by kernel_rfl) ?_
          refine mildv_take (v := ?v101) 0 rfl (by kernel_rfl) (by kernel_rfl) (by kernel_rfl) (by kernel_rfl) (fun _ _ _ h => h) (by kernel_rfl) (fun Wu K hK => ?hy101) ?go101
          case hy101 =>
            go_big_quiet_op
            simp only [Act.put, List.setIfInBounds_toArray, List.set_cons_zero, List.set_cons_succ] at hK
            exact hK
          simp only [Act.put, List.setIfInBounds_toArray, List.set_cons_zero, List.set_cons_succ]
          refine mildv_take (v := ?v102) 1 rfl (by kernel_rfl) (by kernel_rfl) (by kernel_rfl) (by kernel_rfl) (fun _ _ _ h => h) (by kernel_rfl) (fun Wu K hK => ?hy102) ?go102
          case hy102 =>
            go_big_quiet_op
            simp only [Act.put, List.setIfInBounds_toArray, List.set_cons_zero, List.set_cons_succ] at hK
            exact hK
          simp only [Act.put, List.setIfInBounds_toArray, List.set_cons_zero, List.set_cons_succ]
          refine mildv_take (v := ?v103) 2 rfl (by kernel_rfl) (by kernel_rfl) (by kernel_rfl) (by kernel_rfl) (fun _ _ _ h => h) (by kernel_rfl) (fun Wu K hK => ?hy103) ?go103
          case hy103 =>
            go_big_quiet_op
            simp only [Act.put, List.setIfInBounds_toArray, List.set_cons_zero, List.set_cons_succ] at hK
            exact hK
          simp only [Act.put, List.setIfInBounds_toArray, List.set_cons_zero, List.set_cons_succ]
          refine mildv_take (v := ?v104) 3 rfl (by kernel_rfl) (by kernel_rfl) (by kernel_rfl) (by kernel_rfl) (fun _ _ _ h => h) (by kernel_rfl) (fun Wu K hK => ?hy104) ?go104
          case hy104 =>
            go_big_quiet_op
            simp only [Act.put, List.setIfInBounds_toArray, List.set_cons_zero, List.set_cons_succ] at hK
            exact hK
          simp only [Act.put, List.setIfInBounds_toArray, List.set_cons_zero, List.set_cons_succ]
          refine mildv_take (v := ?v105) 4 rfl (by kernel_rfl) (by kernel_rfl) (by kernel_rfl) (by kernel_rfl) (fun _ _ _ h => h) (by kernel_rfl) (fun Wu K hK => ?hy105) ?go105
          case hy105 =>
            go_big_quiet_op
            simp only [Act.put, List.setIfInBounds_toArray, List.set_cons_zero, List.set_cons_succ] at hK
            exact hK
          simp only [Act.put, List.setIfInBounds_toArray, List.set_cons_zero, List.set_cons_succ]
          refine mildv_take (v := ?v106) 5 rfl (by kernel_rfl) (by kernel_rfl) (by kernel_rfl) (by kernel_rfl) (fun _ _ _ h => h) (by kernel_rfl) (fun Wu K hK => ?hy106) ?go106
          case hy106 =>
            go_big_quiet_op
            simp only [Act.put, List.setIfInBounds_toArray, List.set_cons_zero, List.set_cons_succ] at hK
            exact hK
          simp only [Act.put, List.setIfInBounds_toArray, List.set_cons_zero, List.set_cons_succ]
          refine mildv_take (v := ?v107) 6 rfl (by kernel_rfl) (by kernel_rfl) (by kernel_rfl) (by kernel_rfl) (fun _ _ _ h => h) (by kernel_rfl) (fun Wu K hK => ?hy107) ?go107
          case hy107 =>
            go_big_quiet_op
            simp only [Act.put, List.setIfInBounds_toArray, List.set_cons_zero, List.set_cons_succ] at hK
            refine ⟨_, fun u => Calls.up_same (within_any _ _ _ (by omega) (by omega)), ?_⟩
            exact hK
          simp only [Act.put, List.setIfInBounds_toArray, List.set_cons_zero, List.set_cons_succ]
          refine mildv_take (v := ?v108) 7 rfl (by kernel_rfl) (by kernel_rfl) (by kernel_rfl) (by kernel_rfl) (fun _ _ _ h => h) (by kernel_rfl) (fun Wu K hK => ?hy108) ?go108
          case hy108 =>
            go_big_quiet_op
            simp only [Act.put, List.setIfInBounds_toArray, List.set_cons_zero, List.set_cons_succ] at hK
            exact hK
          simp only [Act.put, List.setIfInBounds_toArray, List.set_cons_zero, List.set_cons_succ]
          refine mildv_take (v := ?v109) 8 rfl (by kernel_rfl) (by kernel_rfl) (by kernel_rfl) (by kernel_rfl) (fun _ _ _ h => h) (by kernel_rfl) (fun Wu K hK => ?hy109) ?go109
          case hy109 =>
            go_big_quiet_op
            simp only [Act.put, List.setIfInBounds_toArray, List.set_cons_zero, List.set_cons_succ] at hK
            exact hK
          simp only [Act.put, List.setIfInBounds_toArray, List.set_cons_zero, List.set_cons_succ]
          refine mildv_take (v := ?v110) 9 rfl (by kernel_rfl) (by kernel_rfl) (by kernel_rfl) (by kernel_rfl) (fun _ _ _ h => h) (by kernel_rfl) (fun Wu K hK => ?hy110) ?go110
          case hy110 =>
            go_big_quiet_op
            simp only [Act.put, List.setIfInBounds_toArray, List.set_cons_zero, List.set_cons_succ] at hK
            exact hK
          simp only [Act.put, List.setIfInBounds_toArray, List.set_cons_zero, List.set_cons_succ]
          refine mildv_take (v := ?v111) 10 rfl (by kernel_rfl) (by kernel_rfl) (by kernel_rfl) (by kernel_rfl) (fun _ _ _ h => h) (by kernel_rfl) (fun Wu K hK => ?hy111) ?go111
          case hy111 =>
            go_big_quiet_op
            simp only [Act.put, List.setIfInBounds_toArray, List.set_cons_zero, List.set_cons_succ] at hK
            exact hK
          simp only [Act.put, List.setIfInBounds_toArray, List.set_cons_zero, List.set_cons_succ]
          intro W
          clear uc uf
          have hW := W.2
          have hbxa := bxa.next hW
          have hbxb := bxb.next hW
          have hsaW := hsa.below hW
          have hrowW : W.1.ownsRow (g + 2) 3 1 (.slice (some ⟨b2, 0, none⟩) n cap2) n (cells z) := by have := hob.below hW; unfold Own at this; rw [HN.out] at this; exact this
          have hcW : W.1.cell? ⟨b2, t, none⟩ = some (.int .i64 y) := by rw [hW.cell (p := ⟨b2, t, none⟩) hltb]; exact hcell
          have hfW : W.1.frozen? ⟨b2, t, none⟩ = false := by rw [hW.frozen (p := ⟨b2, t, none⟩) hltb]; exact hfz
          have BW := next B3 hW
          generalize W.1 = wq at *
          clear hW
          refine upv_list 11 (by kernel_rfl) rfl ?_
          go_wp2
          refine ⟨(by first | trivial | exact fun h => absurd rfl h), fun u => ?_⟩
          refine upv_done (by kernel_rfl) ?_
          have hst := (hrowW.stored t (.int .i64 (bits .xor .i64 y 1))).1
          rw [cells_set] at hst
          have hl4 : (z.set t (bits .xor .i64 y 1)).length = n := by simp [HN.out]
          have hos : Own (wq.setCell ⟨b2, t, none⟩ (.int .i64 (bits .xor .i64 y 1))) (g + 2) (.slice (some ⟨b2, 0, none⟩) n cap2) (z.set t (bits .xor .i64 y 1)) := by unfold Own; rw [hl4]; exact hst
          obtain ⟨a5, c5', e5, hs5⟩ := hos.sl' hl4
          simp at e5
          obtain ⟨rfl, rfl⟩ := e5
          have hun : Unlike w u.1 g z a1 n cap1 := by
            refine ⟨{ sameX z with z := z.set t (bits .xor .i64 y 1) }, some ⟨b2, 0, none⟩, n, cap2, (hbxa.far (by simp; omega)).next u.2, ?_, (hsaW.far (fun x e => by have := lo1 x e; simp only; omega)).below u.2, hs5.below u.2, sameP_no (by simp only [sameX]; exact fun h => set_ne (by have := HN.out; omega) (by rw [HY.out]; exact hne) h.2.2.2.2.2.2.2.2), next (BW.setCell (by simp; omega) _) u.2⟩
            have := (hbxb.far (p := ⟨b2, t, none⟩) (u := .int .i64 (bits .xor .i64 y 1)) (by simp; omega)).next u.2
            exact ⟨this.c0, this.c1, this.c2, this.c3, this.c4, this.c5, this.c6, this.c7, this.c8, this.fz, this.lt⟩
          go_wp2
          go_meet
          case rel => exact hun
        · have hd1 : decide (0 < (n : Int)) = true := by simp; omega
          have hd2 : ((1 + q) % 2 == 0) = false := by simp [hpar]
          go_wp2_with (at_builtin; refine wpList_append_own _ rfl (.tmp 47) (.tmp 48) 22 rfl (g + 2) 3 i0 (.int .i64 0) 1 8 Try.underlying22 hi hz0 hz1' hz2 rfl (by decide) _ n (cells z) rfl (hob'.alloc _) ⟨_, 0, none⟩ 1 1 (cells [0]) rfl rfl (cell_i1 _ _) (cells_one _) (by unfold maxLen; omega) (by omega) (by simp; omega) ?_; intro v4 w4 hown4 hg4 _; obtain ⟨a4, c4, rfl, bx4, hun⟩ := app v4 w4 hown4 hg4; have b48 := bx4.c8; have f48 := bx4.fz)
          go_meet
          case rel => exact hun
      · obtain rfl : n = 0 := by omega
        go_wp2_with (at_builtin; refine wpList_append_own _ rfl (.tmp 47) (.tmp 48) 22 rfl (g + 2) 3 i0 (.int .i64 0) 1 8 Try.underlying22 hi hz0 hz1' hz2 rfl (by decide) _ 0 (cells z) rfl (hob'.alloc _) ⟨_, 0, none⟩ 1 1 (cells [0]) rfl rfl (cell_i1 _ _) (cells_one _) (by unfold maxLen; omega) (by omega) (by simp; omega) ?_; intro v4 w4 hown4 hg4 _; obtain ⟨a4, c4, rfl, bx4, hun⟩ := app v4 w4 hown4 hg4; have b48 := bx4.c8; have f48 := bx4.fz)
        go_meet
        case rel => exact hun
  case rest =>
    obtain ⟨y, a3, n3, c3, bxp, bxq, hsp, hsq, ⟨e1, e2⟩, BW⟩ := hcut
    obtain ⟨p0, p1, p2, p3, p4, p5, p6, p7, p8, _, plt⟩ := bxp
    obtain ⟨r0, r1, r2, r3, r4, r5, r6, r7, r8, _, rlt⟩ := bxq
    simp only [sameX] at p0 p1 p2 p3 p4 p5 p6 p7
    clear bxa bxb hsa hsb hob B3 lo1 lo2
    go_wp2_with (first
      | (go_at_call 18; have mk := hb5; clear mk; refine (pktSame_any y (sameX z) a3 a1 n3 n c3 cap1 _ (hsq.below hb5) (hsp.below hb5)).mono ?_; rintro e w6 ⟨rfl, hb6⟩; rw [e2])
      | (go_at_call 18; refine (pktSame_any (sameX z) y a1 a3 n n3 cap1 c3 _ hsp hsq).mono ?_; rintro e w5 ⟨rfl, hb5⟩; rw [e1]; obtain ⟨hc5, hf5⟩ := bcell hb5)
      | (go_at_call 15; refine (wakes_any _).mono ?_; rintro e w7 ⟨rfl, hb7⟩))
    go_ret
    exact ⟨rfl, next (next (next BW hb5) hb6) hb7⟩
end Go.Proofs.Ytbllhjhlkngchaa
