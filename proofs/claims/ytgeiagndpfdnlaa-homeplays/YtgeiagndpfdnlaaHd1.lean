/- The document's answer to a Lock (granted): a packet of one's own. Conditions: as each theorem states them. -/
import Derived.Test.YtgeiagndpfdnlaaPart8
import Derived.Test.YtgeiagndpfdnlaaPart3
namespace Go.Proofs.Ytgeiagndpfdnlaa
open Go.RowKit Go.Maps
set_option linter.unusedVariables false
set_option maxRecDepth 20000

section
variable {w : World} {g : Nat} {M D : Nat → Prop} {N L K : Nat} {node : Int} {R : List (Hr × Value)} {a : Option Addr} {cap : Nat}
set_option maxHeartbeats 1000000 in
theorem dgranted_row (h : DH w g M D N L K node R a L cap) {l : Nat} (hl : l < L) (hL : L ≤ 8) (who id : Int) :
    Calls Try.prog 38 #[.pointer (some ⟨g, 0, none⟩), .int .i64 l, .int .i64 who, .int .i64 id] w fun e w' => ∃ x v d, R[l]? = some (x, v) ∧ e = .returned (Pk.val ⟨7, node, who, id, (l : Int), x.h, x.s, false, x.z⟩ d) ∧ DatZ w' (fun k => w.heap.size ≤ k) x.z d ∧ Below w.heap.size w w' := by
  obtain ⟨x, d, b, o, hR, hd0, hxn, ea, hMb, hblt, q0, q1, q2, qf⟩ := h.get hl
  subst ea
  obtain ⟨a0, n0, k0, ed, sd0, hb0, _⟩ := hd0
  subst ed
  have HR : Hid (R[l]? = some (x, Value.slice a0 n0 k0)) := hR
  have c9 := h.c9
  have c8 := h.c8
  have lt := h.lt
  have hll : (l : Int) < (L : Int) := by omega
  replace sd0 : Sl w a0 n0 k0 x.z := sd0
  clear hR hMb hxn
  go_enter Try.func38, Try.ntmps38
  go_upto_region 2 with fail
  have r0 : ((w.alloc (.cells #[.int .i64 0, .int .i64 0, .int .i64 0, .int .i64 0, .int .i64 0, .int .i64 0, .int .i64 0, .bool false, .slice none 0 0] 32)).alloc (.cells #[.int .i64 x.s, .int .i64 x.h, .slice a0 n0 k0] 82)).cell? ⟨w.heap.size + 1, 0, none⟩ = some (.int .i64 x.s) := by simp
  have r1 : ((w.alloc (.cells #[.int .i64 0, .int .i64 0, .int .i64 0, .int .i64 0, .int .i64 0, .int .i64 0, .int .i64 0, .bool false, .slice none 0 0] 32)).alloc (.cells #[.int .i64 x.s, .int .i64 x.h, .slice a0 n0 k0] 82)).cell? ⟨w.heap.size + 1, 1, none⟩ = some (.int .i64 x.h) := by simp
  have r2 : ((w.alloc (.cells #[.int .i64 0, .int .i64 0, .int .i64 0, .int .i64 0, .int .i64 0, .int .i64 0, .int .i64 0, .bool false, .slice none 0 0] 32)).alloc (.cells #[.int .i64 x.s, .int .i64 x.h, .slice a0 n0 k0] 82)).cell? ⟨w.heap.size + 1, 2, none⟩ = some (.slice a0 n0 k0) := by simp
  have b1 : Below w.heap.size w ((w.alloc (.cells #[.int .i64 0, .int .i64 0, .int .i64 0, .int .i64 0, .int .i64 0, .int .i64 0, .int .i64 0, .bool false, .slice none 0 0] 32)).alloc (.cells #[.int .i64 x.s, .int .i64 x.h, .slice a0 n0 k0] 82)) := ba (ba (Below.refl _ _))
  have bx : Bx ((w.alloc (.cells #[.int .i64 0, .int .i64 0, .int .i64 0, .int .i64 0, .int .i64 0, .int .i64 0, .int .i64 0, .bool false, .slice none 0 0] 32)).alloc (.cells #[.int .i64 x.s, .int .i64 x.h, .slice a0 n0 k0] 82)) w.heap.size zeroPk (.slice none 0 0) := (Bx.made w zeroPk (.slice none 0 0)).next (ba (Below.refl _ _))
  have rlt : w.heap.size + 1 < ((w.alloc (.cells #[.int .i64 0, .int .i64 0, .int .i64 0, .int .i64 0, .int .i64 0, .int .i64 0, .int .i64 0, .bool false, .slice none 0 0] 32)).alloc (.cells #[.int .i64 x.s, .int .i64 x.h, .slice a0 n0 k0] 82)).heap.size := by simp
  have H1 := h.below b1
  have sd1 := sd0.below b1
  clear c9 c8 lt q0 q1 q2 qf hblt sd0 h
  obtain ⟨gv, egv⟩ : ∃ gv, w.heap.size + 1 = gv := ⟨_, rfl⟩
  have HGV : Hid (w.heap.size + 1 = gv) := egv
  rw [egv] at r0 r1 r2 rlt
  obtain ⟨gr, egr⟩ : ∃ gr, w.heap.size = gr := ⟨_, rfl⟩
  have HGR : Hid (w.heap.size = gr) := egr
  have HSZ : Hid (∀ V : World, Below w.heap.size w V → w.heap.size ≤ V.heap.size) := fun V hV => hV.size
  simp only [egv]
  rw [egr] at bx
  generalize World.alloc _ (.cells #[.int .i64 x.s, .int .i64 x.h, .slice a0 n0 k0] 82) = V0 at *
  simp only [egr]
  clear egr egv
  have c8 := H1.c8
  have lt := H1.lt
  refine wp_region_orders 16 rfl (by kernel_rfl) ?_
  have Bd : Below V0.heap.size V0 V0.drew := (Below.refl _ _).drew
  have hI : (fun V => V.cell? ⟨g, 8, none⟩ = some (.int .i64 node) ∧ V.cell? ⟨gv, 0, none⟩ = some (.int .i64 x.s) ∧ V.cell? ⟨gv, 1, none⟩ = some (.int .i64 x.h) ∧ V.cell? ⟨gv, 2, none⟩ = some (.slice a0 n0 k0)) V0.drew := ⟨(Bd.cell (p := ⟨g, 8, none⟩) lt).trans c8, (Bd.cell (p := ⟨gv, 0, none⟩) rlt).trans r0, (Bd.cell (p := ⟨gv, 1, none⟩) rlt).trans r1, (Bd.cell (p := ⟨gv, 2, none⟩) rlt).trans r2⟩
  have b2 := next b1 Bd
  have bx2 := bx.next Bd
  have sd2 := sd1.below Bd
  have gvlt : gv < V0.drew.heap.size := Nat.lt_of_lt_of_le rlt Bd.size
  have glt : g < V0.drew.heap.size := Nat.lt_of_lt_of_le lt Bd.size
  clear c8 lt r0 r1 r2 rlt H1 b1 bx sd1 Bd
  generalize V0.drew = V1 at *
  clear V0
  refine any_inv (fun V => V.cell? ⟨g, 8, none⟩ = some (.int .i64 node) ∧ V.cell? ⟨gv, 0, none⟩ = some (.int .i64 x.s) ∧ V.cell? ⟨gv, 1, none⟩ = some (.int .i64 x.h) ∧ V.cell? ⟨gv, 2, none⟩ = some (.slice a0 n0 k0)) [15] hI ?_
  refine inv_take (v := ?v1) [1, 2, 3, 14, 15] 0 hI rfl (by kernel_rfl) (by kernel_rfl) (by kernel_rfl) (by kernel_rfl) (by kernel_rfl) (fun _ _ _ h => h) (by kernel_rfl) (fun V hV => ?hy1) ?go1
  case hy1 => (obtain ⟨i0, i1, i2, i3⟩ := hV; go_simp <;> rfl)
  simp only [Act.put, List.setIfInBounds_toArray, List.set_cons_zero, List.set_cons_succ]
  refine inv_take (v := ?v2) [2, 3, 14, 15] 1 hI rfl (by kernel_rfl) (by kernel_rfl) (by kernel_rfl) (by kernel_rfl) (by kernel_rfl) (fun _ _ _ h => h) (by kernel_rfl) (fun V hV => ?hy2) ?go2
  case hy2 => (obtain ⟨i0, i1, i2, i3⟩ := hV; go_simp <;> rfl)
  simp only [Act.put, List.setIfInBounds_toArray, List.set_cons_zero, List.set_cons_succ]
  refine inv_take (v := ?v3) [3, 14, 15] 2 hI rfl (by kernel_rfl) (by kernel_rfl) (by kernel_rfl) (by kernel_rfl) (by kernel_rfl) (fun _ _ _ h => h) (by kernel_rfl) (fun V hV => ?hy3) ?go3
  case hy3 => (obtain ⟨i0, i1, i2, i3⟩ := hV; go_simp <;> rfl)
  simp only [Act.put, List.setIfInBounds_toArray, List.set_cons_zero, List.set_cons_succ]
  refine inv_take (v := ?v4) [14, 15] 3 hI rfl (by kernel_rfl) (by kernel_rfl) (by kernel_rfl) (by kernel_rfl) (by kernel_rfl) (fun _ _ _ h => h) (by kernel_rfl) (fun V hV => ?hy4) ?go4
  case hy4 => (obtain ⟨i0, i1, i2, i3⟩ := hV; go_simp <;> rfl)
  simp only [Act.put, List.setIfInBounds_toArray, List.set_cons_zero, List.set_cons_succ]
  refine inv_take (v := ?v5) [14, 15] 4 hI rfl (by kernel_rfl) (by kernel_rfl) (by kernel_rfl) (by kernel_rfl) (by kernel_rfl) (fun _ _ _ h => h) (by kernel_rfl) (fun V hV => ?hy5) ?go5
  case hy5 => (obtain ⟨i0, i1, i2, i3⟩ := hV; go_simp <;> rfl)
  simp only [Act.put, List.setIfInBounds_toArray, List.set_cons_zero, List.set_cons_succ]
  refine inv_take (v := ?v6) [14, 15] 5 hI rfl (by kernel_rfl) (by kernel_rfl) (by kernel_rfl) (by kernel_rfl) (by kernel_rfl) (fun _ _ _ h => h) (by kernel_rfl) (fun V hV => ?hy6) ?go6
  case hy6 => (obtain ⟨i0, i1, i2, i3⟩ := hV; go_simp <;> rfl)
  simp only [Act.put, List.setIfInBounds_toArray, List.set_cons_zero, List.set_cons_succ]
  refine inv_take (v := ?v7) [14, 15] 6 hI rfl (by kernel_rfl) (by kernel_rfl) (by kernel_rfl) (by kernel_rfl) (by kernel_rfl) (fun _ _ _ h => h) (by kernel_rfl) (fun V hV => ?hy7) ?go7
  case hy7 => (obtain ⟨i0, i1, i2, i3⟩ := hV; go_simp <;> rfl)
  simp only [Act.put, List.setIfInBounds_toArray, List.set_cons_zero, List.set_cons_succ]
  refine inv_take (v := ?v8) [8, 14, 15] 7 hI rfl (by kernel_rfl) (by kernel_rfl) (by kernel_rfl) (by kernel_rfl) (by kernel_rfl) (fun _ _ _ h => h) (by kernel_rfl) (fun V hV => ?hy8) ?go8
  case hy8 => (obtain ⟨i0, i1, i2, i3⟩ := hV; go_simp <;> rfl)
  simp only [Act.put, List.setIfInBounds_toArray, List.set_cons_zero, List.set_cons_succ]
  refine inv_take (v := ?v9) [14, 15] 8 hI rfl (by kernel_rfl) (by kernel_rfl) (by kernel_rfl) (by kernel_rfl) (by kernel_rfl) (fun _ _ _ h => h) (by kernel_rfl) (fun V hV => ?hy9) ?go9
  case hy9 => (obtain ⟨i0, i1, i2, i3⟩ := hV; go_simp <;> rfl)
  simp only [Act.put, List.setIfInBounds_toArray, List.set_cons_zero, List.set_cons_succ]
  refine inv_take (v := ?v10) [10, 14, 15] 9 hI rfl (by kernel_rfl) (by kernel_rfl) (by kernel_rfl) (by kernel_rfl) (by kernel_rfl) (fun _ _ _ h => h) (by kernel_rfl) (fun V hV => ?hy10) ?go10
  case hy10 => (obtain ⟨i0, i1, i2, i3⟩ := hV; go_simp <;> rfl)
  simp only [Act.put, List.setIfInBounds_toArray, List.set_cons_zero, List.set_cons_succ]
  refine inv_take (v := ?v11) [14, 15] 10 hI rfl (by kernel_rfl) (by kernel_rfl) (by kernel_rfl) (by kernel_rfl) (by kernel_rfl) (fun _ _ _ h => h) (by kernel_rfl) (fun V hV => ?hy11) ?go11
  case hy11 => (obtain ⟨i0, i1, i2, i3⟩ := hV; go_simp <;> rfl)
  simp only [Act.put, List.setIfInBounds_toArray, List.set_cons_zero, List.set_cons_succ]
  refine inv_take (v := ?v12) [12, 13, 14, 15] 11 hI rfl (by kernel_rfl) (by kernel_rfl) (by kernel_rfl) (by kernel_rfl) (by kernel_rfl) (fun _ _ _ h => h) (by kernel_rfl) (fun V hV => ?hy12) ?go12
  case hy12 => (obtain ⟨i0, i1, i2, i3⟩ := hV; go_simp <;> rfl)
  simp only [Act.put, List.setIfInBounds_toArray, List.set_cons_zero, List.set_cons_succ]
  refine inv_take (v := ?v13) [13, 14, 15] 12 hI rfl (by kernel_rfl) (by kernel_rfl) (by kernel_rfl) (by kernel_rfl) (by kernel_rfl) (fun _ _ _ h => h) (by kernel_rfl) (fun V hV => ?hy13) ?go13
  case hy13 => (obtain ⟨i0, i1, i2, i3⟩ := hV; go_simp <;> rfl)
  simp only [Act.put, List.setIfInBounds_toArray, List.set_cons_zero, List.set_cons_succ]
  obtain ⟨i0, hi, hp0, hp1, hp2⟩ := info_parts Try.infoInt
  refine inv_list 13 (by kernel_rfl) rfl ?_
  refine wpList_append_slv V1 (fun _ => False) (by kernel_rfl) (.const (.slice none 0 0)) (.tmp 29) 22 rfl 3 i0 (.int .i64 0) 1 8 Try.underlying22 hi hp0 hp1 hp2 rfl (by decide) none 0 0 [] rfl (rw_nil _ _ _) a0 n0 k0 (cells x.z) rfl (cells_slv sd2) (fun u hu => cells_one x.z u hu) (by unfold maxLen; omega) (by omega) ?_
  intro a3 c3 w3 hrw3 hk3
  have em : 0 + n0 = n0 := by omega
  rw [em] at hrw3
  rw [em]
  rw [List.nil_append] at hrw3
  have b3 : Below V1.heap.size V1 w3 := hk3.below (fun _ h => h.elim) (Nat.le_refl _)
  have hI3 : (fun V => V.cell? ⟨g, 8, none⟩ = some (.int .i64 node) ∧ V.cell? ⟨gv, 0, none⟩ = some (.int .i64 x.s) ∧ V.cell? ⟨gv, 1, none⟩ = some (.int .i64 x.h) ∧ V.cell? ⟨gv, 2, none⟩ = some (.slice a0 n0 k0)) w3 := ⟨(b3.cell (p := ⟨g, 8, none⟩) glt).trans hI.1, (b3.cell (p := ⟨gv, 0, none⟩) gvlt).trans hI.2.1, (b3.cell (p := ⟨gv, 1, none⟩) gvlt).trans hI.2.2.1, (b3.cell (p := ⟨gv, 2, none⟩) gvlt).trans hI.2.2.2⟩
  refine then_n ⟨hI3, ?_⟩
  simp only [Act.put, List.setIfInBounds_toArray, List.set_cons_zero, List.set_cons_succ]
  refine inv_take (v := ?v14) [15] 14 hI3 rfl (by kernel_rfl) (by kernel_rfl) (by kernel_rfl) (by kernel_rfl) (by kernel_rfl) (fun _ _ _ h => h) (by kernel_rfl) (fun V hV => ?hy14) ?go14
  case hy14 => (obtain ⟨i0, i1, i2, i3⟩ := hV; go_simp <;> rfl)
  simp only [Act.put, List.setIfInBounds_toArray, List.set_cons_zero, List.set_cons_succ]
  have b4 := next b2 b3
  have bx4 := bx2.next b3
  have bp := bx4.put ⟨7, node, who, id, (l : Int), x.h, x.s, false, x.z⟩ (.slice a3 n0 c3)
  obtain ⟨c0, c1, c2, c3', c4, c5, c6, c7, c8, fz, lt⟩ := bx4
  have f0 := fz 0
  have hkk : Keep (fun k => k = gr) w3 _ := far9 (g := gr) (y := ⟨7, node, who, id, (l : Int), x.h, x.s, false, x.z⟩) (v := .slice a3 n0 c3) (W := w3) (P := fun V => Keep (fun k => k = gr) w3 V) (fun V o u h => h.setCell (.inl rfl) u) (Keep.refl _ _)
  refine inv_write 15 (by kernel_rfl) (by kernel_rfl) rfl ?_
  go_wp2_with fail
  refine then_n ?_
  refine any_done (by kernel_rfl) ?_
  obtain ⟨d0, d1, d2, d3, d4, d5, d6, d7, d8, dz, dlt⟩ := bp
  have hlo : w.heap.size ≤ V1.heap.size ∧ gr < V1.heap.size := ⟨b2.size, bx2.lt⟩
  have hs3 : Sl w3 a3 n0 c3 x.z := slv_cells hrw3.slv
  have hbl : x.z ≠ [] → ∀ y : Addr, a3 = some y → V1.heap.size ≤ y.block := fun hne y hy => by
    subst hy
    rcases hrw3.row with h0 | ⟨b', o', e, hm, _⟩
    · exact absurd (List.eq_nil_of_length_eq_zero (by have := hs3.len; have := hrw3.le; omega)) hne
    · injection e with e
      rw [e]
      exact (show False ∨ V1.heap.size ≤ b' from hm).resolve_left (fun h => h)
  clear hk3 bx2 b2 b3 hI hI3 glt gvlt hp0 hp1 hp2 hi c0 c1 c2 c3' c4 c5 c6 c7 c8 fz f0 lt dz dlt
  generalize World.setCell _ ⟨gr, 8, none⟩ _ = V9 at *
  go_wp2_with fail
  refine bodyPost_ret (v := Pk.val ⟨7, node, who, id, (l : Int), x.h, x.s, false, x.z⟩ (.slice a3 n0 c3)) ?_ rfl ?_
  · simp [results, Try.results38, go_sem, *]
  refine ⟨x, ⟨_, HR.out⟩, _, rfl, ⟨a3, n0, c3, rfl, hs3.keep hkk (fun hne y hy e => by have := hbl hne y hy; omega), hb0, fun hne y hy => Nat.le_trans hlo.1 (hbl hne y hy)⟩, ?_⟩
  exact hkk.after b4 (fun j hj => by have := HGR.out; omega)
end
end Go.Proofs.Ytgeiagndpfdnlaa
