/- The program's home: New, and the example that each of chapter 11's laws looks at. Conditions: as each theorem states them. -/
import Derived.Test.YtgeiagndpfdnlaaHm7
namespace Go.Proofs.Ytgeiagndpfdnlaa
open Go.RowKit Go.Maps
set_option linter.unusedVariables false
set_option maxRecDepth 20000

section
variable {w wx wy : World} {X : Nat → Prop}
set_option maxHeartbeats 1600000 in
theorem hnew_any (N M K S Y O I : Nat) (a : Option Addr) (nv cv : Nat) (zi : List Int) (node : Int) (hb : Below w.heap.size w wx) (hX : ∀ j, X j → j < wx.heap.size) (hsl : Sl wx a nv cv zi) (hN0 : 1 ≤ N) (hN : N ≤ 6) (hL : M ≤ 8) (hK0 : 1 ≤ K) (hK : K ≤ 4) (hlen : nv ≤ 32) (hc : chk N M K S Y O I nv = true) :
    Calls Try.prog 8 #[cfg N M K S Y O I (.slice a nv cv), .int .i64 node] wx fun e w' => ∃ g g1 g2, e = .returned (.pointer (some ⟨g, 0, none⟩)) ∧ Below wx.heap.size wx w' ∧ PH w w' g g1 g2 X N K node (rows0 zi N M K node M) 0 [] [] := by
  have HE : Hid (errI (chk N M K S Y O I nv) = 0) := by show _ = _; rw [hc]; rfl
  have HH : Hid (1 ≤ N ∧ N ≤ 6 ∧ M ≤ 8 ∧ 1 ≤ K ∧ K ≤ 4 ∧ nv ≤ 32) := ⟨hN0, hN, hL, hK0, hK, hlen⟩
  have HX : Hid (∀ j, X j → j < wx.heap.size) := hX
  clear hc hN0 hN hL hK0 hK hlen hX
  unfold cfg
  go_enter Try.func8, Try.ntmps8
  go_upto_region 1 with fail
  have hB : Below wx.heap.size wx (wx.alloc (.cells #[.int .i64 (N : Int), .int .i64 (M : Int), .int .i64 (K : Int), .int .i64 (S : Int), .int .i64 (Y : Int), .int .i64 (O : Int), .int .i64 (I : Int), .slice a nv cv] 26)) := ba (Below.refl _ _)
  have hcb := CB.made wx N M K S Y O I (.slice a nv cv)
  have hs1 := hsl.below hB
  generalize wx.alloc (.cells #[.int .i64 (N : Int), .int .i64 (M : Int), .int .i64 (K : Int), .int .i64 (S : Int), .int .i64 (Y : Int), .int .i64 (O : Int), .int .i64 (I : Int), .slice a nv cv] 26) = W at *
  obtain ⟨c0, c1, c2, c3, c4, c5, c6, c7, clt⟩ := id hcb
  go_upto_region 3 with (go_at_call 25; refine (check_any N M K S Y O I a nv cv W).mono ?_; rw [HE.out]; rintro e V ⟨rfl, b1⟩)
  have hs2 := hs1.below b1
  have hcb2 := hcb.below b1
  have hB2 := next hB b1
  clear c0 c1 c2 c3 c4 c5 c6 c7 clt hcb hs1 hB b1
  refine wp_region_orders 10 rfl (by kernel_rfl) ?_
  have Bd : Below V.heap.size V V.drew := (Below.refl _ _).drew
  have hs3 := hs2.below Bd
  have hcb3 := hcb2.below Bd
  have hB3 := next hB2 Bd
  clear hs2 hcb2 hB2 Bd
  generalize V.drew = Vd at *
  clear V
  obtain ⟨c0, c1, c2, c3, c4, c5, c6, c7, clt⟩ := id hcb3
  have HIB : Hid (∀ V', Below Vd.heap.size Vd V' → (fun V => V.cell? ⟨wx.heap.size, 0, none⟩ = some (.int .i64 (N : Int)) ∧ V.cell? ⟨wx.heap.size, 1, none⟩ = some (.int .i64 (M : Int)) ∧ V.cell? ⟨wx.heap.size, 2, none⟩ = some (.int .i64 (K : Int)) ∧ V.cell? ⟨wx.heap.size, 3, none⟩ = some (.int .i64 (S : Int)) ∧ V.cell? ⟨wx.heap.size, 4, none⟩ = some (.int .i64 (Y : Int)) ∧ V.cell? ⟨wx.heap.size, 5, none⟩ = some (.int .i64 (O : Int)) ∧ V.cell? ⟨wx.heap.size, 6, none⟩ = some (.int .i64 (I : Int)) ∧ V.cell? ⟨wx.heap.size, 7, none⟩ = some (.slice a nv cv)) V') := fun V' b => ⟨(b.cell (p := ⟨wx.heap.size, 0, none⟩) clt).trans c0, (b.cell (p := ⟨wx.heap.size, 1, none⟩) clt).trans c1, (b.cell (p := ⟨wx.heap.size, 2, none⟩) clt).trans c2, (b.cell (p := ⟨wx.heap.size, 3, none⟩) clt).trans c3, (b.cell (p := ⟨wx.heap.size, 4, none⟩) clt).trans c4, (b.cell (p := ⟨wx.heap.size, 5, none⟩) clt).trans c5, (b.cell (p := ⟨wx.heap.size, 6, none⟩) clt).trans c6, (b.cell (p := ⟨wx.heap.size, 7, none⟩) clt).trans c7⟩
  have hI : (fun V => V.cell? ⟨wx.heap.size, 0, none⟩ = some (.int .i64 (N : Int)) ∧ V.cell? ⟨wx.heap.size, 1, none⟩ = some (.int .i64 (M : Int)) ∧ V.cell? ⟨wx.heap.size, 2, none⟩ = some (.int .i64 (K : Int)) ∧ V.cell? ⟨wx.heap.size, 3, none⟩ = some (.int .i64 (S : Int)) ∧ V.cell? ⟨wx.heap.size, 4, none⟩ = some (.int .i64 (Y : Int)) ∧ V.cell? ⟨wx.heap.size, 5, none⟩ = some (.int .i64 (O : Int)) ∧ V.cell? ⟨wx.heap.size, 6, none⟩ = some (.int .i64 (I : Int)) ∧ V.cell? ⟨wx.heap.size, 7, none⟩ = some (.slice a nv cv)) Vd := HIB.out _ (Below.refl _ _)
  have hXV : ∀ j, X j → j < Vd.heap.size := fun j hj => Nat.lt_of_lt_of_le (HX.out j hj) hB3.size
  have hWV := next hb hB3
  have hmk := mo_new (w := w) (X := fun j => j < Vd.heap.size) N M K S Y O I a nv cv zi node hWV (fun j hj => hj) hs3 HH.out.1 HH.out.2.1 HH.out.2.2.1 HH.out.2.2.2.1 HH.out.2.2.2.2.1 HH.out.2.2.2.2.2
  unfold cfg at hmk
  clear c0 c1 c2 c3 c4 c5 c6 c7 hcb3 hs3 hsl
  refine any_inv (fun V => V.cell? ⟨wx.heap.size, 0, none⟩ = some (.int .i64 (N : Int)) ∧ V.cell? ⟨wx.heap.size, 1, none⟩ = some (.int .i64 (M : Int)) ∧ V.cell? ⟨wx.heap.size, 2, none⟩ = some (.int .i64 (K : Int)) ∧ V.cell? ⟨wx.heap.size, 3, none⟩ = some (.int .i64 (S : Int)) ∧ V.cell? ⟨wx.heap.size, 4, none⟩ = some (.int .i64 (Y : Int)) ∧ V.cell? ⟨wx.heap.size, 5, none⟩ = some (.int .i64 (O : Int)) ∧ V.cell? ⟨wx.heap.size, 6, none⟩ = some (.int .i64 (I : Int)) ∧ V.cell? ⟨wx.heap.size, 7, none⟩ = some (.slice a nv cv)) [] hI ?_
  refine inv_take (v := ?v1) [] 0 hI rfl (by kernel_rfl) (by kernel_rfl) (by kernel_rfl) (by kernel_rfl) (by kernel_rfl) (fun _ _ _ h => h) (by kernel_rfl) (fun V hV => ?hy1) ?go1
  case hy1 => (obtain ⟨i0, i1, i2, i3, i4, i5, i6, i7⟩ := hV; go_simp <;> rfl)
  simp only [Act.put, List.setIfInBounds_toArray, List.set_cons_zero, List.set_cons_succ]
  refine inv_take (v := ?v2) [] 1 hI rfl (by kernel_rfl) (by kernel_rfl) (by kernel_rfl) (by kernel_rfl) (by kernel_rfl) (fun _ _ _ h => h) (by kernel_rfl) (fun V hV => ?hy2) ?go2
  case hy2 => (obtain ⟨i0, i1, i2, i3, i4, i5, i6, i7⟩ := hV; go_simp <;> rfl)
  simp only [Act.put, List.setIfInBounds_toArray, List.set_cons_zero, List.set_cons_succ]
  refine inv_take (v := ?v3) [] 4 hI rfl (by kernel_rfl) (by kernel_rfl) (by kernel_rfl) (by kernel_rfl) (by kernel_rfl) (fun _ _ _ h => h) (by kernel_rfl) (fun V hV => ?hy3) ?go3
  case hy3 => (obtain ⟨i0, i1, i2, i3, i4, i5, i6, i7⟩ := hV; go_simp <;> rfl)
  simp only [Act.put, List.setIfInBounds_toArray, List.set_cons_zero, List.set_cons_succ]
  refine inv_take (v := ?v4) [] 5 hI rfl (by kernel_rfl) (by kernel_rfl) (by kernel_rfl) (by kernel_rfl) (by kernel_rfl) (fun _ _ _ h => h) (by kernel_rfl) (fun V hV => ?hy4) ?go4
  case hy4 => (obtain ⟨i0, i1, i2, i3, i4, i5, i6, i7⟩ := hV; go_simp <;> rfl)
  simp only [Act.put, List.setIfInBounds_toArray, List.set_cons_zero, List.set_cons_succ]
  refine inv_take (v := ?v5) [] 6 hI rfl (by kernel_rfl) (by kernel_rfl) (by kernel_rfl) (by kernel_rfl) (by kernel_rfl) (fun _ _ _ h => h) (by kernel_rfl) (fun V hV => ?hy5) ?go5
  case hy5 => (obtain ⟨i0, i1, i2, i3, i4, i5, i6, i7⟩ := hV; go_simp <;> rfl)
  simp only [Act.put, List.setIfInBounds_toArray, List.set_cons_zero, List.set_cons_succ]
  refine inv_list 2 (by kernel_rfl) rfl ?_
  go_wp2_with (go_at_call 26; refine hmk.mono ?_; rintro e V1 ⟨g1, rfl, b1, m1⟩)
  refine then_n ⟨HIB.out _ b1, ?_⟩
  try simp only [Act.put, List.setIfInBounds_toArray, List.set_cons_zero, List.set_cons_succ]
  refine inv_list 3 (by kernel_rfl) rfl ?_
  go_wp2_with (go_at_call 27; refine (to_new (X := fun j => j < V1.heap.size) (next hWV b1) (fun j hj => hj)).mono ?_; rintro e V2 ⟨g2, rfl, b2, t1⟩)
  have b3 := next b1 b2
  refine then_n ⟨HIB.out _ b3, ?_⟩
  try simp only [Act.put, List.setIfInBounds_toArray, List.set_cons_zero, List.set_cons_succ]
  refine inv_take (v := ?v6) [] 7 (HIB.out _ b3) rfl (by kernel_rfl) (by kernel_rfl) (by kernel_rfl) (by kernel_rfl) (by kernel_rfl) (fun _ _ _ h => h) (by kernel_rfl) (fun V hV => ?hy6) ?go6
  case hy6 => (obtain ⟨i0, i1, i2, i3, i4, i5, i6, i7⟩ := hV; go_simp <;> rfl)
  simp only [Act.put, List.setIfInBounds_toArray, List.set_cons_zero, List.set_cons_succ]
  refine inv_list 8 (by kernel_rfl) rfl ?_
  go_wp2_with fail
  refine then_n ⟨HIB.out _ (ba b3), ?_⟩
  try simp only [Act.put, List.setIfInBounds_toArray, List.set_cons_zero, List.set_cons_succ]
  refine inv_list 9 (by kernel_rfl) rfl ?_
  go_wp2_with fail
  refine then_n ⟨HIB.out _ (ba b3), ?_⟩
  try simp only [Act.put, List.setIfInBounds_toArray, List.set_cons_zero, List.set_cons_succ]
  refine inv_done (by kernel_rfl) ?_
  go_wp2_with fail
  go_ret
  have hws := hWV.size
  have hv1 := b1.size
  have hv2 := b2.size
  have hmake : HP w V2 g1 g2 X N K (rows0 zi N M K node M) 0 [] [] := hp_make (a0 := Vd.heap.size) (b0 := V1.heap.size) hws (by omega) (fun j hj => ⟨hXV j hj, by have := hXV j hj; omega⟩) m1 t1 (.inl (Nat.le_refl _)) b2 (Below.refl _ _)
  have b4 : Below V2.heap.size V2 (V2.alloc (.cells #[.pointer (some ⟨g1, 0, none⟩), .pointer (some ⟨g2, 0, none⟩), .int .i64 node, .int .i64 (N : Int)] 42)) := ba (Below.refl _ _)
  have hz4 : V2.heap.size < (V2.alloc (.cells #[.pointer (some ⟨g1, 0, none⟩), .pointer (some ⟨g2, 0, none⟩), .int .i64 node, .int .i64 (N : Int)] 42)).heap.size := by simp
  have hkk := HH.out
  refine ⟨V2.heap.size, g1, g2, rfl, ba (next hB3 b3), ?_⟩
  refine ⟨hmake.step (F := fun _ => False) (Keep.of_below b4) (fun _ h => h.elim) (fun j hj => ?_), by simp, by simp, by simp, by simp, by simp, ⟨by omega, fun hx => by have := hXV _ hx; omega⟩, by omega⟩
  rcases hj with hj | rfl
  · exact ⟨.inl hj, by have := hXV j hj; omega⟩
  · exact ⟨.inr (Nat.le_refl _), hz4⟩
end
theorem wkRows : rows0 [] 2 1 1 0 1 = [⟨0, 0, -1, [0]⟩] := by simp [rows0, remI, wordsI, List.range_succ]
theorem wkNew (w : World) : Calls Try.prog 8 #[.agg #[.int .i64 2, .int .i64 1, .int .i64 1, .int .i64 1, .int .i64 1, .int .i64 1, .int .i64 1, .slice none 0 0], .int .i64 0] w fun e w' => ∃ g g1 g2, e = .returned (.pointer (some ⟨g, 0, none⟩)) ∧ Below w.heap.size w w' ∧ PH w w' g g1 g2 (fun _ => False) 2 1 0 [⟨0, 0, -1, [0]⟩] 0 [] [] := by
  have := hnew_any (w := w) (X := fun _ => False) 2 1 1 1 1 1 1 none 0 0 [] 0 (Below.refl _ _) (fun _ h => h.elim) (sl_nil _) (by omega) (by omega) (by omega) (by omega) (by omega) (by omega) (by decide)
  rw [wkRows] at this
  exact this
theorem wkCk : ckE 2 0 [⟨0, 0, -1, [0]⟩] ⟨1, 1, 0, 7, 0, 0, 0, false, []⟩ = 0 := by decide
theorem wkGr : grantR 0 1 7 0 [⟨0, 0, -1, [0]⟩] = ⟨7, 0, 1, 7, 0, -1, 0, false, [0]⟩ := by simp [grantR, rowL, getK]
theorem wkAsk : askB [] [] 0 = true := by decide
set_option maxHeartbeats 1000000 in
theorem hwakes_any (w : World) : Calls Try.prog 14 #[] w fun e w' => e = .returned (.bool true) ∧ Below w.heap.size w w' := by
  have i0 : In64 0 := by unfold In64; omega
  go_enter Try.func14, Try.ntmps14
  go_upto_region 5 with (first
    | (have mk := h1; clear mk; go_at_call 10; refine (hh_grant h1 ⟨1, 1, 0, 7, 0, 0, 0, false, []⟩ none 0 0 (sl_nil _) i0 wkCk rfl wkAsk (by omega)).mono ?_; rw [wkGr]; rintro e w2 ⟨dd, rfl, hd, hk2, h2⟩; obtain ⟨a5, n5, c5, ed, _⟩ := id hd; subst ed)
    | (go_at_call 8; refine (wkNew w).mono ?_; rintro e w1 ⟨g, g1, g2, rfl, b1, h1⟩))
  have hB1 : Below w.heap.size w w2 := b1.trans (hk2.below (fun j hj => hj.1) b1.size)
  have b3 : Below w2.heap.size w2 (w2.alloc (.cells #[.int .i64 7, .int .i64 0, .int .i64 1, .int .i64 7, .int .i64 0, .int .i64 (-1), .int .i64 0, .bool false, .slice a5 n5 c5] 32)) := ba (Below.refl _ _)
  have bxa : Bx (w2.alloc (.cells #[.int .i64 7, .int .i64 0, .int .i64 1, .int .i64 7, .int .i64 0, .int .i64 (-1), .int .i64 0, .bool false, .slice a5 n5 c5] 32)) w2.heap.size ⟨7, 0, 1, 7, 0, -1, 0, false, [0]⟩ (.slice a5 n5 c5) := Bx.made w2 ⟨7, 0, 1, 7, 0, -1, 0, false, [0]⟩ (.slice a5 n5 c5)
  have h3 := h2.below b3
  have hB2 := next hB1 b3
  clear h1 h2 hk2 b1 hd hB1 b3
  generalize w2.alloc _ = w3 at *
  generalize w2.heap.size = ga at *
  obtain ⟨y0, y1, y2, y3, y4, y5, y6, y7, y8, yf, yl⟩ := id bxa
  have c1 := h3.c1
  go_wp2_with (go_at_call 11; refine (hp_owner h3.hp i0).mono ?_; rw [show ownT (askO [] [] 0 1) 0 = 1 by decide]; rintro e w4 ⟨rfl, rfl⟩)
  go_ret
  exact ⟨rfl, hB2⟩

end Go.Proofs.Ytgeiagndpfdnlaa
