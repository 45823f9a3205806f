/- The contract of the document's NewHomes. Conditions: as each theorem states them. -/
import Derived.Test.YtgeiagndpfdnlaaDh0
import Derived.Test.YtgeiagndpfdnlaaRefWords
import Derived.Test.YtgeiagndpfdnlaaTake8
namespace Go.Proofs.Ytgeiagndpfdnlaa
open Go.RowKit Go.Maps
set_option linter.unusedVariables false
set_option maxRecDepth 20000

/-- The document's rows at first, those of the lines below i. -/
def dl0 (zi : List Int) (L K : Nat) (i : Nat) : List Hr := (List.range i).map (fun l : Nat => ⟨(l : Int), 0, -1, wordsI zi L K l⟩)
theorem dl0_snoc (zi : List Int) (L K i : Nat) : dl0 zi L K (i + 1) = dl0 zi L K i ++ [⟨(i : Int), 0, -1, wordsI zi L K i⟩] := by
  unfold dl0
  rw [List.range_succ, List.map_append]
  rfl
theorem Try.infoDr : (Try.prog.info? 82).map (fun i => (i.zero, i.size, i.bytes)) = some (some (zeroHr.val (.slice none 0 0)), 3, 40) := by kernel_rfl
set_option maxHeartbeats 1000000 in
theorem dnew_any (N L K S Y O I : Nat) (a : Option Addr) (nv cv : Nat) (zi : List Int) (node : Int) (w : World) (hsl : Sl w a nv cv zi) (hN0 : 1 ≤ N) (hN : N ≤ 6) (hL : L ≤ 8) (hK0 : 1 ≤ K) (hK : K ≤ 4) (hlen : nv ≤ 32) :
    Calls Try.prog 15 #[cfg N L K S Y O I (.slice a nv cv), .int .i64 node] w fun e w' => ∃ g M D R ra rc, e = .returned (.pointer (some ⟨g, 0, none⟩)) ∧ Below w.heap.size w w' ∧
      DH w' g M D N L K node R ra L rc ∧ R.map Prod.fst = dl0 zi L K L ∧ w.heap.size ≤ g ∧ (∀ j, M j ∨ D j → w.heap.size ≤ j) ∧ Nil2 w' g := by
  obtain ⟨f0, hfi, hp0, hp1, hp2⟩ := info_parts Try.infoDr
  have cb1 := CB.made w N L K S Y O I (.slice a nv cv)
  have b1 : Below w.heap.size w (w.alloc (.cells #[.int .i64 (N : Int), .int .i64 (L : Int), .int .i64 (K : Int), .int .i64 (S : Int), .int .i64 (Y : Int), .int .i64 (O : Int), .int .i64 (I : Int), .slice a nv cv] 26)) := ba (Below.refl _ _)
  unfold cfg
  go_enter Try.func15, Try.ntmps15
  go_upto_region 2 with fail
  have cb2 := cb1.below (ba (o := (.cells #[.int .i64 (N : Int), .int .i64 (L : Int), .int .i64 (K : Int), .int .i64 (S : Int), .int .i64 (Y : Int), .int .i64 (O : Int), .int .i64 (I : Int), .slice a nv cv, .int .i64 node, .slice none 0 0, .slice none 0 0, .slice none 0 0] 60)) (Below.refl _ _))
  have b2 := ba (o := (.cells #[.int .i64 (N : Int), .int .i64 (L : Int), .int .i64 (K : Int), .int .i64 (S : Int), .int .i64 (Y : Int), .int .i64 (O : Int), .int .i64 (I : Int), .slice a nv cv, .int .i64 node, .slice none 0 0, .slice none 0 0, .slice none 0 0] 60)) b1
  have hz1 : (w.alloc (.cells #[.int .i64 (N : Int), .int .i64 (L : Int), .int .i64 (K : Int), .int .i64 (S : Int), .int .i64 (Y : Int), .int .i64 (O : Int), .int .i64 (I : Int), .slice a nv cv] 26)).heap.size = w.heap.size + 1 := by simp
  generalize w.alloc (.cells #[.int .i64 (N : Int), .int .i64 (L : Int), .int .i64 (K : Int), .int .i64 (S : Int), .int .i64 (Y : Int), .int .i64 (O : Int), .int .i64 (I : Int), .slice a nv cv] 26) = W1 at *
  have D0 : DH (W1.alloc (.cells #[.int .i64 (N : Int), .int .i64 (L : Int), .int .i64 (K : Int), .int .i64 (S : Int), .int .i64 (Y : Int), .int .i64 (O : Int), .int .i64 (I : Int), .slice a nv cv, .int .i64 node, .slice none 0 0, .slice none 0 0, .slice none 0 0] 60)) W1.heap.size (fun _ => False) (fun _ => False) N L K node [] none 0 0 := by
    refine ⟨by simp, by simp, by simp, by simp, by simp, by simp, by simp, rfl, rw_nil _ _ _, fun r hr => (by cases hr), fun j hj => hj.elim (fun h => h.elim) (fun h => h.elim), fun j hj => hj.elim, ⟨id, id⟩, fun i r hr => (by simp at hr)⟩
  have E0 : Nil2 (W1.alloc (.cells #[.int .i64 (N : Int), .int .i64 (L : Int), .int .i64 (K : Int), .int .i64 (S : Int), .int .i64 (Y : Int), .int .i64 (O : Int), .int .i64 (I : Int), .slice a nv cv, .int .i64 node, .slice none 0 0, .slice none 0 0, .slice none 0 0] 60)) W1.heap.size := ⟨by simp, by simp, by simp, by simp, by simp⟩
  generalize W1.alloc (.cells #[.int .i64 (N : Int), .int .i64 (L : Int), .int .i64 (K : Int), .int .i64 (S : Int), .int .i64 (Y : Int), .int .i64 (O : Int), .int .i64 (I : Int), .slice a nv cv, .int .i64 node, .slice none 0 0, .slice none 0 0, .slice none 0 0] 60) = W2 at *
  rw [hz1] at D0 E0
  obtain ⟨gc, hgc⟩ : ∃ gc, gc = w.heap.size := ⟨_, rfl⟩
  have HG : Hid (gc = w.heap.size) := hgc
  rw [show (⟨w.heap.size, 0, none⟩ : Addr) = ⟨gc, 0, none⟩ by rw [hgc]] at *
  rw [← hgc] at cb2 D0 E0
  simp only [← hgc]
  clear hgc cb1 b1 hz1
  clear W1
  go_wp2_with fail
  go_loopw [6] (fun v6 wr => ∃ (i : Nat) (M D : Nat → Prop) (R : List (Hr × Value)) (ra : Option Addr) (rc : Nat), v6 = .int .i64 (i : Int) ∧ i ≤ L ∧ Below w.heap.size w wr ∧ DH wr (gc + 1) M D N L K node R ra i rc ∧ R.map Prod.fst = dl0 zi L K i ∧ (∀ j, M j ∨ D j → gc + 1 < j) ∧ CB wr gc N L K S Y O I (.slice a nv cv) ∧ Hid (Nil2 wr (gc + 1))) (fun v6 _ => L - (intOf v6).toNat)
  case atStart => exact ⟨0, _, _, [], none, 0, rfl, by omega, b2, D0, rfl, fun j h => h.elim (fun h => h.elim) (fun h => h.elim), cb2, E0⟩
  case round =>
    clear b2 D0 cb2 E0
    obtain ⟨i, M, D, R, ra, rc, rfl, hi, hb, H, hR, hMD, hc, HE⟩ := hrel
    obtain ⟨z0, z1, z2, z3, z4, z5, z6, z7, zlt⟩ := hc
    have hc : CB wr gc N L K S Y O I (.slice a nv cv) := ⟨z0, z1, z2, z3, z4, z5, z6, z7, zlt⟩
    by_cases hlt : i < L
    · have hlt' : (i : Int) < (L : Int) := by omega
      go_upto_region 5 with fail
      clear z0 z1 z2 z3 z4 z5 z6 z7 zlt
      refine wp_region_orders 14 rfl (by kernel_rfl) ?_
      have Bd : Below wr.heap.size wr wr.drew := (Below.refl _ _).drew
      have H2 := H.below Bd
      have c2 := hc.below Bd
      have hb2 := next hb Bd
      have HG2 : Hid (gc + 1 < wr.drew.heap.size) := H2.lt
      have HE2 : Hid (Nil2 wr.drew (gc + 1)) := HE.out.below Bd
      clear Bd H hc hb HE
      generalize wr.drew = w2 at *
      have s2 := hsl.below hb2
      obtain ⟨n3, hn3⟩ : ∃ n, (wordsI zi L K (i : Int)).length = n := ⟨_, rfl⟩
      have HN3 : Hid ((wordsI zi L K (i : Int)).length = n3) := hn3
      have hn3K : n3 ≤ 4 := by rw [← hn3]; unfold wordsI; split <;> simp <;> omega
      clear hn3
      have hI : (fun V => V.cell? ⟨gc + 1, 9, none⟩ = some (.slice ra i rc) ∧ V.frozen? ⟨gc + 1, 9, none⟩ = false ∧ V.cell? ⟨gc, 0, none⟩ = some (.int .i64 (N : Int)) ∧ V.cell? ⟨gc, 1, none⟩ = some (.int .i64 (L : Int)) ∧ V.cell? ⟨gc, 2, none⟩ = some (.int .i64 (K : Int)) ∧ V.cell? ⟨gc, 3, none⟩ = some (.int .i64 (S : Int)) ∧ V.cell? ⟨gc, 4, none⟩ = some (.int .i64 (Y : Int)) ∧ V.cell? ⟨gc, 5, none⟩ = some (.int .i64 (O : Int)) ∧ V.cell? ⟨gc, 6, none⟩ = some (.int .i64 (I : Int)) ∧ V.cell? ⟨gc, 7, none⟩ = some (.slice a nv cv)) w2 := ⟨H2.c9, H2.f9, c2.c0, c2.c1, c2.c2, c2.c3, c2.c4, c2.c5, c2.c6, c2.c7⟩
      refine any_inv (fun V => V.cell? ⟨gc + 1, 9, none⟩ = some (.slice ra i rc) ∧ V.frozen? ⟨gc + 1, 9, none⟩ = false ∧ V.cell? ⟨gc, 0, none⟩ = some (.int .i64 (N : Int)) ∧ V.cell? ⟨gc, 1, none⟩ = some (.int .i64 (L : Int)) ∧ V.cell? ⟨gc, 2, none⟩ = some (.int .i64 (K : Int)) ∧ V.cell? ⟨gc, 3, none⟩ = some (.int .i64 (S : Int)) ∧ V.cell? ⟨gc, 4, none⟩ = some (.int .i64 (Y : Int)) ∧ V.cell? ⟨gc, 5, none⟩ = some (.int .i64 (O : Int)) ∧ V.cell? ⟨gc, 6, none⟩ = some (.int .i64 (I : Int)) ∧ V.cell? ⟨gc, 7, none⟩ = some (.slice a nv cv)) [13] hI ?_
      refine inv_take (v := ?v1) [11, 12, 13] 0 hI rfl (by kernel_rfl) (by kernel_rfl) (by kernel_rfl) (by kernel_rfl) (by kernel_rfl) (fun _ _ _ h => h) (by kernel_rfl) (fun V hV => ?hy1) ?go1
      case hy1 => (obtain ⟨z, zf, z0, z1, z2, z3, z4, z5, z6, z7⟩ := hV; go_simp <;> rfl)
      simp only [Act.put, List.setIfInBounds_toArray, List.set_cons_zero, List.set_cons_succ]
      refine inv_take (v := ?v2) [2, 3, 4, 10, 11, 12, 13] 1 hI rfl (by kernel_rfl) (by kernel_rfl) (by kernel_rfl) (by kernel_rfl) (by kernel_rfl) (fun _ _ _ h => h) (by kernel_rfl) (fun V hV => ?hy2) ?go2
      case hy2 => (obtain ⟨z, zf, z0, z1, z2, z3, z4, z5, z6, z7⟩ := hV; go_simp <;> rfl)
      simp only [Act.put, List.setIfInBounds_toArray, List.set_cons_zero, List.set_cons_succ]
      refine inv_take (v := ?v3) [3, 4, 10, 11, 12, 13] 2 hI rfl (by kernel_rfl) (by kernel_rfl) (by kernel_rfl) (by kernel_rfl) (by kernel_rfl) (fun _ _ _ h => h) (by kernel_rfl) (fun V hV => ?hy3) ?go3
      case hy3 => (obtain ⟨z, zf, z0, z1, z2, z3, z4, z5, z6, z7⟩ := hV; go_simp <;> rfl)
      simp only [Act.put, List.setIfInBounds_toArray, List.set_cons_zero, List.set_cons_succ]
      refine inv_take (v := ?v4) [4, 10, 11, 12, 13] 3 hI rfl (by kernel_rfl) (by kernel_rfl) (by kernel_rfl) (by kernel_rfl) (by kernel_rfl) (fun _ _ _ h => h) (by kernel_rfl) (fun V hV => ?hy4) ?go4
      case hy4 => (obtain ⟨z, zf, z0, z1, z2, z3, z4, z5, z6, z7⟩ := hV; go_simp <;> rfl)
      simp only [Act.put, List.setIfInBounds_toArray, List.set_cons_zero, List.set_cons_succ]
      refine inv_take (v := ?v5) [10, 11, 12, 13] 4 hI rfl (by kernel_rfl) (by kernel_rfl) (by kernel_rfl) (by kernel_rfl) (by kernel_rfl) (fun _ _ _ h => h) (by kernel_rfl) (fun V hV => ?hy5) ?go5
      case hy5 => (obtain ⟨z, zf, z0, z1, z2, z3, z4, z5, z6, z7⟩ := hV; go_simp <;> rfl)
      simp only [Act.put, List.setIfInBounds_toArray, List.set_cons_zero, List.set_cons_succ]
      refine inv_take (v := ?v6) [7, 8, 9, 10, 11, 12, 13] 5 hI rfl (by kernel_rfl) (by kernel_rfl) (by kernel_rfl) (by kernel_rfl) (by kernel_rfl) (fun _ _ _ h => h) (by kernel_rfl) (fun V hV => ?hy6) ?go6
      case hy6 => (obtain ⟨z, zf, z0, z1, z2, z3, z4, z5, z6, z7⟩ := hV; go_simp <;> rfl)
      simp only [Act.put, List.setIfInBounds_toArray, List.set_cons_zero, List.set_cons_succ]
      refine inv_take (v := ?v7) [7, 8, 9, 10, 11, 12, 13] 6 hI rfl (by kernel_rfl) (by kernel_rfl) (by kernel_rfl) (by kernel_rfl) (by kernel_rfl) (fun _ _ _ h => h) (by kernel_rfl) (fun V hV => ?hy7) ?go7
      case hy7 => (obtain ⟨z, zf, z0, z1, z2, z3, z4, z5, z6, z7⟩ := hV; go_simp <;> rfl)
      simp only [Act.put, List.setIfInBounds_toArray, List.set_cons_zero, List.set_cons_succ]
      refine inv_list 7 (by kernel_rfl) rfl ?_
      clear hI
      go_wp2_with (go_at_call 33; refine (refWords_any N L K S Y O I a nv cv zi i _ s2 (by omega) hK0 (by omega) hlen).mono ?_; rintro e w3 ⟨v3, rfl, own3, hb3⟩; obtain ⟨a3, k3, rfl, _⟩ := own3.sl' HN3.out)
      have H3 := H2.below hb3
      have c3 := c2.below hb3
      have hb4 := next hb2 hb3
      have hI : (fun V => V.cell? ⟨gc + 1, 9, none⟩ = some (.slice ra i rc) ∧ V.frozen? ⟨gc + 1, 9, none⟩ = false ∧ V.cell? ⟨gc, 0, none⟩ = some (.int .i64 (N : Int)) ∧ V.cell? ⟨gc, 1, none⟩ = some (.int .i64 (L : Int)) ∧ V.cell? ⟨gc, 2, none⟩ = some (.int .i64 (K : Int)) ∧ V.cell? ⟨gc, 3, none⟩ = some (.int .i64 (S : Int)) ∧ V.cell? ⟨gc, 4, none⟩ = some (.int .i64 (Y : Int)) ∧ V.cell? ⟨gc, 5, none⟩ = some (.int .i64 (O : Int)) ∧ V.cell? ⟨gc, 6, none⟩ = some (.int .i64 (I : Int)) ∧ V.cell? ⟨gc, 7, none⟩ = some (.slice a nv cv)) w3 := ⟨H3.c9, H3.f9, c3.c0, c3.c1, c3.c2, c3.c3, c3.c4, c3.c5, c3.c6, c3.c7⟩
      refine then_n ⟨hI, ?_⟩
      refine inv_take (v := ?v8) [9, 10, 11, 12, 13] 8 hI rfl (by kernel_rfl) (by kernel_rfl) (by kernel_rfl) (by kernel_rfl) (by kernel_rfl) (fun _ _ _ h => h) (by kernel_rfl) (fun V hV => ?hy8) ?go8
      case hy8 => (obtain ⟨z, zf, z0, z1, z2, z3, z4, z5, z6, z7⟩ := hV; go_simp <;> rfl)
      simp only [Act.put, List.setIfInBounds_toArray, List.set_cons_zero, List.set_cons_succ]
      refine inv_list 9 (by kernel_rfl) rfl ?_
      clear hI
      go_wp2_with fail
      have b5 : Below w3.heap.size w3 (w3.alloc (.cells #[.int .i64 0, .int .i64 (-1), .slice a3 n3 k3] 82)) := ba (Below.refl _ _)
      have hsv : SlV (w3.alloc (.cells #[.int .i64 0, .int .i64 (-1), .slice a3 n3 k3] 82)) (some ⟨w3.heap.size, 0, none⟩) 1 1 3 (hcells ((⟨(i : Int), 0, -1, wordsI zi L K i⟩ : Hr), .slice a3 n3 k3)) := by
        refine ⟨rfl, Nat.le_refl _, by unfold maxLen; omega, fun h => (by cases h), .inr ⟨_, _, rfl, fun j u hu => ?_⟩⟩
        have h3 : j < 3 := (List.getElem?_eq_some_iff.1 hu).1
        have h4 : j = 0 ∨ j = 1 ∨ j = 2 := by omega
        rcases h4 with rfl | rfl | rfl <;> (simp [hcells] at hu; subst hu; simp)
      have hzz : w3.heap.size < (w3.alloc (.cells #[.int .i64 0, .int .i64 (-1), .slice a3 n3 k3] 82)).heap.size := by simp
      have HE5 : Hid (Nil2 (w3.alloc (.cells #[.int .i64 0, .int .i64 (-1), .slice a3 n3 k3] 82)) (gc + 1)) := (HE2.out.below hb3).below b5
      have H5 := H3.below b5
      have c5 := c3.below b5
      have hb5 := next hb4 b5
      have own5 := own3.below b5
      have HZ3 : Hid (w2.heap.size ≤ w3.heap.size) := hb3.size
      have HA3 : Hid (∀ y : Addr, a3 = some y → w2.heap.size ≤ y.block ∧ y.block < w3.heap.size) := own3.lo
      have HMO : Hid (∀ j, M j ∨ D j → j < w2.heap.size) := H2.old
      clear H3 c3 H2 c2 hb2 hb3 hb4 own3 s2 b5
      generalize w3.alloc _ = w5 at *
      have hI : (fun V => V.cell? ⟨gc + 1, 9, none⟩ = some (.slice ra i rc) ∧ V.frozen? ⟨gc + 1, 9, none⟩ = false ∧ V.cell? ⟨gc, 0, none⟩ = some (.int .i64 (N : Int)) ∧ V.cell? ⟨gc, 1, none⟩ = some (.int .i64 (L : Int)) ∧ V.cell? ⟨gc, 2, none⟩ = some (.int .i64 (K : Int)) ∧ V.cell? ⟨gc, 3, none⟩ = some (.int .i64 (S : Int)) ∧ V.cell? ⟨gc, 4, none⟩ = some (.int .i64 (Y : Int)) ∧ V.cell? ⟨gc, 5, none⟩ = some (.int .i64 (O : Int)) ∧ V.cell? ⟨gc, 6, none⟩ = some (.int .i64 (I : Int)) ∧ V.cell? ⟨gc, 7, none⟩ = some (.slice a nv cv)) w5 := ⟨H5.c9, H5.f9, c5.c0, c5.c1, c5.c2, c5.c3, c5.c4, c5.c5, c5.c6, c5.c7⟩
      refine then_n ⟨hI, ?_⟩
      clear hI
      refine inv_list 10 (by kernel_rfl) rfl ?_
      refine wpList_append_slv w5 M (by kernel_rfl) (.tmp 21) (.tmp 26) 54 rfl 82 f0 (zeroHr.val (.slice none 0 0)) 3 40 Try.underlying54 hfi hp0 hp1 hp2 rfl (by decide) ra i rc (flat hcells R) rfl H5.row (some ⟨w3.heap.size, 0, none⟩) 1 1 (hcells ((⟨(i : Int), 0, -1, wordsI zi L K i⟩ : Hr), .slice a3 n3 k3)) rfl hsv (hcells_one rfl) (by unfold maxLen; omega) (by omega) ?_
      intro a7 c7 w7 hrw7 hk7
      have hgM : ∀ j, M j → gc + 1 < j := fun j hj => hMD j (.inl hj)
      have hb7 : Below w.heap.size w w7 := hk7.after hb5 (fun j hj => by have := hgM j hj; have := HG.out; omega)
      have HE7 : Hid (Nil2 w7 (gc + 1)) := HE5.out.keep hk7 (fun h => by have := hgM _ h; omega)
      have H7 := H5.c0
      have e7 := fun o => hk7.cell (b := gc + 1) o H5.lt (fun h => by have := hgM _ h; omega)
      have cb7 := c5.keep hk7 (fun h => by have := hgM _ h; omega)
      have f7 := (hk7.frozen (b := gc + 1) 9 H5.lt (fun h => by have := hgM _ h; omega)).trans H5.f9
      have hI : (fun V => V.cell? ⟨gc + 1, 9, none⟩ = some (.slice ra i rc) ∧ V.frozen? ⟨gc + 1, 9, none⟩ = false ∧ V.cell? ⟨gc, 0, none⟩ = some (.int .i64 (N : Int)) ∧ V.cell? ⟨gc, 1, none⟩ = some (.int .i64 (L : Int)) ∧ V.cell? ⟨gc, 2, none⟩ = some (.int .i64 (K : Int)) ∧ V.cell? ⟨gc, 3, none⟩ = some (.int .i64 (S : Int)) ∧ V.cell? ⟨gc, 4, none⟩ = some (.int .i64 (Y : Int)) ∧ V.cell? ⟨gc, 5, none⟩ = some (.int .i64 (O : Int)) ∧ V.cell? ⟨gc, 6, none⟩ = some (.int .i64 (I : Int)) ∧ V.cell? ⟨gc, 7, none⟩ = some (.slice a nv cv)) w7 := ⟨(e7 9).trans H5.c9, f7, cb7.c0, cb7.c1, cb7.c2, cb7.c3, cb7.c4, cb7.c5, cb7.c6, cb7.c7⟩
      refine then_n ⟨hI, ?_⟩
      simp only [Act.put, List.setIfInBounds_toArray, List.set_cons_zero, List.set_cons_succ]
      refine inv_take (v := ?v9) [12, 13] 11 hI rfl (by kernel_rfl) (by kernel_rfl) (by kernel_rfl) (by kernel_rfl) (by kernel_rfl) (fun _ _ _ h => h) (by kernel_rfl) (fun V hV => ?hy9) ?go9
      case hy9 => (obtain ⟨z, zf, z0, z1, z2, z3, z4, z5, z6, z7⟩ := hV; go_simp <;> rfl)
      simp only [Act.put, List.setIfInBounds_toArray, List.set_cons_zero, List.set_cons_succ]
      refine inv_take (v := ?v10) [13] 12 hI rfl (by kernel_rfl) (by kernel_rfl) (by kernel_rfl) (by kernel_rfl) (by kernel_rfl) (fun _ _ _ h => h) (by kernel_rfl) (fun V hV => ?hy10) ?go10
      case hy10 => (obtain ⟨z, zf, z0, z1, z2, z3, z4, z5, z6, z7⟩ := hV; go_simp <;> rfl)
      simp only [Act.put, List.setIfInBounds_toArray, List.set_cons_zero, List.set_cons_succ]
      have HOR : Hid (∀ r ∈ R, DatZ w7 D r.1.z r.2) := fun r hr => (H5.dat r hr).keep hk7 (fun j hd hm => H5.dj j hm hd)
      have own7 := own5.keep hk7 (fun j hj hm => by have := (own5.base j hj).1; have := HMO.out j (.inl hm); omega)
      have h5z := hk7.size
      obtain ⟨M7, hM7⟩ : ∃ M7 : Nat → Prop, M7 = (fun k => M k ∨ (w5.heap.size ≤ k ∧ k < w7.heap.size)) := ⟨_, rfl⟩
      obtain ⟨D7, hD7⟩ : ∃ D7 : Nat → Prop, D7 = (fun k => D k ∨ (w2.heap.size ≤ k ∧ k < w3.heap.size)) := ⟨_, rfl⟩
      have row7 : Rw w7 M7 a7 (i + 1) c7 3 (flat hcells (R ++ [((⟨(i : Int), 0, -1, wordsI zi L K i⟩ : Hr), .slice a3 n3 k3)])) := by
        rw [flat_append, flat_one]
        exact hrw7.imp (fun j hj h => by rw [hM7]; exact h.imp id (fun h => ⟨h, hj⟩))
      have hRl := H5.len
      have hgl := H5.lt
      have hz35 : w3.heap.size ≤ w5.heap.size := Nat.le_of_lt hzz
      have HN : Hid (∀ (j : Nat) (r : Hr × Value), (R ++ [((⟨(i : Int), 0, -1, wordsI zi L K i⟩ : Hr), Value.slice a3 n3 k3)])[j]? = some r → r.1.n = (j : Int)) := fun j r hj => by
        by_cases e : j < R.length
        · rw [List.getElem?_append_left e] at hj
          exact H5.nums j r hj
        · rw [List.getElem?_append_right (by omega)] at hj
          have e1 : j - R.length = 0 := by have := (List.getElem?_eq_some_iff.1 hj).1; simp at this; omega
          rw [e1] at hj
          simp at hj
          subst hj
          show (i : Int) = j
          omega
      have kk := Keep.one w7 (gc + 1) 9 (.slice a7 (i + 1) c7)
      have g7 : gc + 1 < w7.heap.size := Nat.lt_of_lt_of_le hgl h5z
      have H9 : DH (w7.setCell ⟨gc + 1, 9, none⟩ (.slice a7 (i + 1) c7)) (gc + 1) M7 D7 N L K node (R ++ [((⟨(i : Int), 0, -1, wordsI zi L K i⟩ : Hr), .slice a3 n3 k3)]) a7 (i + 1) c7 := by
        have q0 := (e7 0).trans H5.c0
        have q1 := (e7 1).trans H5.c1
        have q2 := (e7 2).trans H5.c2
        have q8 := (e7 8).trans H5.c8
        have q9 := (e7 9).trans H5.c9
        clear e7 H7 hI
        have ne : ∀ j, M7 j ∨ D7 j → j ≠ gc + 1 := fun j hj e => by
          subst e
          rw [hM7, hD7] at hj
          have h2 := HMO.out
          have h3 := HZ3.out
          have hg2 : gc + 1 < w2.heap.size := HG2.out
          rcases hj with (hj | hj) | (hj | hj)
          · have := hgM _ hj; omega
          · omega
          · have := hMD _ (.inr hj); omega
          · omega
        refine ⟨by go_simp, by go_simp, by go_simp, by go_simp, by go_simp, by go_simp, by simpa using g7, by rw [List.length_append]; simp; omega, row7.keep kk (fun j hj e => ne j (.inl hj) e), fun r hr => ?_, fun j hj => ?_, fun j hj hd => ?_, ⟨fun h => ne _ (.inl h) rfl, fun h => ne _ (.inr h) rfl⟩, HN.out⟩
        · rcases List.mem_append.1 hr with hr | hr
          · exact ((HOR.out r hr).imp (fun j _ hj => by rw [hD7]; exact .inl hj)).keep kk (fun j hj e => ne j (.inr hj) e)
          · simp at hr
            subst hr
            have hd : DatZ w7 D7 (wordsI zi L K (i : Int)) (.slice a3 n3 k3) := ⟨a3, n3, k3, rfl, own_sl own7, by omega, fun _ y hy => by rw [hD7]; exact .inr (HA3.out y hy)⟩
            exact hd.keep kk (fun j hj e => ne j (.inr hj) e)
        · refine Nat.lt_of_lt_of_le ?_ kk.size
          rw [hM7, hD7] at hj
          have h3 := H5.old j
          rcases hj with (hj | hj) | (hj | hj)
          · have := h3 (.inl hj); omega
          · exact hj.2
          · have := h3 (.inr hj); omega
          · omega
        · rw [hM7] at hj
          rw [hD7] at hd
          have h2 := HMO.out j
          rcases hj with hj | hj <;> rcases hd with hd | hd
          · exact H5.dj j hj hd
          · have := h2 (.inl hj); omega
          · have := h2 (.inr hd); have := HZ3.out; omega
          · omega
      have HMD9 : Hid (∀ j, M7 j ∨ D7 j → gc + 1 < j) := fun j hj => by
        rw [hM7, hD7] at hj
        have h1 := hMD j
        have h2 := HG2.out
        have h3 := HZ3.out
        rcases hj with (hj | hj) | (hj | hj)
        · exact h1 (.inl hj)
        · omega
        · exact h1 (.inr hj)
        · omega
      have hb9 : Below w.heap.size w (w7.setCell ⟨gc + 1, 9, none⟩ (.slice a7 (i + 1) c7)) := kk.after hb7 (fun j hj => by have := HG.out; omega)
      have cb9 := cb7.keep kk (fun e => by omega)
      obtain ⟨y9, yf, _⟩ := hI
      have HE9 : Hid (Nil2 (w7.setCell ⟨gc + 1, 9, none⟩ (.slice a7 (i + 1) c7)) (gc + 1)) := HE7.out.set9 _
      clear hM7 hD7 kk row7 own7 HN HOR H7 e7 f7 H5 c5 hb5 own5 hsv hk7 hrw7 cb7 hgM hMD hz35 hgl
      refine inv_write 13 (by kernel_rfl) (by kernel_rfl) rfl ?_
      go_wp2_with fail
      refine then_n ?_
      refine any_done (by kernel_rfl) ?_
      clear y9 yf
      generalize w7.setCell ⟨gc + 1, 9, none⟩ (.slice a7 (i + 1) c7) = w9 at *
      go_wp2_with fail
      go_roundw
      case rel => exact ⟨i + 1, M7, D7, _, a7, c7, by go_num, by omega, hb9, H9, by rw [List.map_append, hR, dl0_snoc]; rfl, HMD9.out, cb9, HE9⟩
      case measure => simp [intOf]; omega
    · obtain rfl : i = L := by omega
      go_wp2_with fail
      go_ret
      exact ⟨_, M, D, R, ra, rc, rfl, hb, H, hR, by have := HG.out; omega, fun j hj => by have := hMD j hj; have := HG.out; omega, HE.out⟩
end Go.Proofs.Ytgeiagndpfdnlaa
