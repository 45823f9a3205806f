/- The program's home: Pending, Grant, New. Conditions: as each theorem states them. -/
import Derived.Test.YtgeiagndpfdnlaaHm6
namespace Go.Proofs.Ytgeiagndpfdnlaa
open Go.RowKit Go.Maps
set_option linter.unusedVariables false
set_option maxRecDepth 20000

section
variable {w wx wy : World} {g g1 g2 n N : Nat} {X Y : Nat → Prop} {K node : Int} {L : List Hr} {o : List (Int × Int)} {q : List Wr}
theorem hp_rdy (h : PH w wx g g1 g2 X N K node L n o q) (hn : n ≤ 1000) : Calls Try.prog 32 #[.pointer (some ⟨g2, 0, none⟩)] wx fun e w' => ∃ a c, e = .returned (.slice a (readyT o q).length c) ∧ Sl w' a (readyT o q).length c (readyT o q) ∧ Below wx.heap.size wx w' := by
  refine (hp_ready h.hp hn).mono ?_
  rintro e w' ⟨v, rfl, own, b⟩
  obtain ⟨a, c, rfl, hs⟩ := own.sl
  exact ⟨a, c, rfl, hs, b⟩
set_option maxHeartbeats 800000 in
theorem hpend_any (h : PH w wx g g1 g2 X N K node L n o q) (hn : n ≤ 1000) (b : Bool) (hb : decide (0 < (readyT o q).length) = b) :
    Calls Try.prog 13 #[.pointer (some ⟨g, 0, none⟩)] wx fun e w' => e = .returned (.bool b) ∧ Below wx.heap.size wx w' := by
  have c1 := h.c1
  obtain ⟨k, hk⟩ : ∃ k, (readyT o q).length = k := ⟨_, rfl⟩
  have HK : Hid ((readyT o q).length = k) := hk
  rw [hk] at hb
  clear hk
  go_enter Try.func13, Try.ntmps13
  go_wp2_with (go_at_call 32; refine (hp_rdy h hn).mono ?_; rw [HK.out]; rintro e V ⟨a, c, rfl, sl, b1⟩)
  go_ret
  exact ⟨rfl, b1⟩
set_option maxHeartbeats 800000 in
theorem hgr_no (h : PH w wx g g1 g2 X N K node L n o q) (hn : n ≤ 1000) (hr : readyT o q = []) :
    Calls Try.prog 16 #[.pointer (some ⟨g, 0, none⟩)] wx fun e w' => e = .returned (.tuple #[zeroPk.val (.slice none 0 0), .bool false]) ∧ Below wx.heap.size wx w' := by
  have HK : Hid ((readyT o q).length = 0) := by show _ = _; rw [hr]; rfl
  clear hr
  go_enter Try.func16, Try.ntmps16
  go_upto_region 1 with fail
  have hB : Below wx.heap.size wx (wx.alloc (.cells #[.int .i64 0, .int .i64 0, .int .i64 0, .int .i64 0, .int .i64 0, .int .i64 0, .int .i64 0, .bool false, .slice none 0 0] 32)) := ba (Below.refl _ _)
  have bxr : Bx (wx.alloc (.cells #[.int .i64 0, .int .i64 0, .int .i64 0, .int .i64 0, .int .i64 0, .int .i64 0, .int .i64 0, .bool false, .slice none 0 0] 32)) wx.heap.size zeroPk (.slice none 0 0) := Bx.made wx zeroPk (.slice none 0 0)
  have h1 := h.below hB
  clear h
  generalize World.alloc _ (.cells #[.int .i64 0, .int .i64 0, .int .i64 0, .int .i64 0, .int .i64 0, .int .i64 0, .int .i64 0, .bool false, .slice none 0 0] 32) = W at *
  have c1 := h1.c1
  go_wp2_with (go_at_call 32; refine (hp_rdy h1 hn).mono ?_; rw [HK.out]; rintro e V ⟨a, c, rfl, sl, b1⟩; obtain ⟨r0, r1, r2, r3, r4, r5, r6, r7, r8, rf, rl⟩ := bxr.next b1; have f0 := rf 0)
  refine bodyPost_ret (v := .tuple #[Pk.val zeroPk (.slice none 0 0), .bool false]) (by simp [results, Try.results16, go_sem, *, zeroPk]) rfl ⟨rfl, far9 (g := wx.heap.size) (y := zeroPk) (v := .slice none 0 0) (W := V) (P := fun V => Below wx.heap.size wx V) (fun V o u h => h.setCell (by simp) u) (next hB b1)⟩
set_option maxHeartbeats 1600000 in
theorem hgr_ok (h : PH w wx g g1 g2 X N K node L n o q) (hn : n ≤ 1000) {l v d : Int} {rest : List Int} (hr : readyT o q = l :: rest) (hl : In64 l) (h1 : ownT o l = -1) (h0 : 0 ≤ v) (hk : nextW q l = some ⟨l, v, d⟩) :
    Calls Try.prog 16 #[.pointer (some ⟨g, 0, none⟩)] wx fun e w' => ∃ dd, e = .returned (.tuple #[(grantR node v d l L).val dd, .bool true]) ∧ DatZ w' (fun k => wx.heap.size ≤ k) (grantR node v d l L).z dd ∧ Keep (NX w X) wx w' ∧ PH w w' g g1 g2 X N K node L (n + 1) (o ++ [(l, v)]) (nextQ q l) := by
  have HR : Hid (readyT o q = l :: rest) := hr
  have HH : Hid (In64 l ∧ ownT o l = -1 ∧ 0 ≤ v ∧ nextW q l = some ⟨l, v, d⟩) := ⟨hl, h1, h0, hk⟩
  clear hr hl h1 h0 hk
  go_enter Try.func16, Try.ntmps16
  go_upto_region 1 with fail
  have hB : Below wx.heap.size wx (wx.alloc (.cells #[.int .i64 0, .int .i64 0, .int .i64 0, .int .i64 0, .int .i64 0, .int .i64 0, .int .i64 0, .bool false, .slice none 0 0] 32)) := ba (Below.refl _ _)
  have bxr : Bx (wx.alloc (.cells #[.int .i64 0, .int .i64 0, .int .i64 0, .int .i64 0, .int .i64 0, .int .i64 0, .int .i64 0, .bool false, .slice none 0 0] 32)) wx.heap.size zeroPk (.slice none 0 0) := Bx.made wx zeroPk (.slice none 0 0)
  have h1 := h.own hB
  have HWS : Hid (w.heap.size ≤ wx.heap.size) := h.bel.size
  clear h
  generalize World.alloc _ (.cells #[.int .i64 0, .int .i64 0, .int .i64 0, .int .i64 0, .int .i64 0, .int .i64 0, .int .i64 0, .bool false, .slice none 0 0] 32) = W at *
  have c1 := h1.c1
  have HSZ : Hid (wx.heap.size < W.heap.size) := bxr.lt
  have HXW : Hid (∀ j, wx.heap.size ≤ j → j < W.heap.size → (X j ∨ wx.heap.size ≤ j ∧ j < W.heap.size)) := fun j h1 h2 => .inr ⟨h1, h2⟩
  go_upto_region 4 with (go_at_call 32; refine (hp_rdy h1 hn).mono ?_; rw [HR.out]; rintro e V ⟨a, c, rfl, sl, b1⟩; obtain ⟨b0, o0, ea, hb0, hc0⟩ := sl.at (k := 0) (by simp); subst ea)
  have hc1 : V.cell? ⟨b0, o0, none⟩ = some (.int .i64 l) := hc0
  have h2 := h1.below b1
  have br2 := bxr.next b1
  have hB2 := next hB b1
  clear hc0 sl h1 c1 bxr hB b1 hb0
  have c1 := h2.c1
  obtain ⟨P, hP⟩ : ∃ P, grantR node v d l L = P := ⟨_, rfl⟩
  go_upto_region 6 with (go_at_call 34; refine (hp_next h2.hp HH.out.1 HH.out.2.1 HH.out.2.2.1 HH.out.2.2.2 hn).mono ?_; rintro e V2 ⟨rfl, hk2, p2⟩)
  obtain ⟨hk3, h3⟩ := h2.call hk2 p2
  have br3 := br2.keep hk2 (fun hf => hf.2 (.inl (HXW.out _ (Nat.le_refl _) HSZ.out)))
  have hK := Keep.pre hB2 (hk3.mono (G := NX w X) (fun j _ hj => nx_less (fun j hx => .inl hx) hj))
  clear hk2 hk3 p2 h2 br2 hB2 c1 hc1
  go_wp2_with (go_at_call 35; refine (hgranted_any h3 HH.out.1 v d).mono ?_; rw [hP]; rintro e V5 ⟨dd, rfl, hd5, b5⟩; obtain ⟨a5, n5, c5, ed, _⟩ := id hd5; subst ed; have br6 := br3.next b5; obtain ⟨r0, r1, r2, r3, r4, r5, r6, r7, r8, rf, rl⟩ := id br6; have f0 := rf 0)
  have hz2 := br3.lt
  have hkk : Keep (fun k => k = wx.heap.size) V5 _ := far9 (g := wx.heap.size) (y := P) (v := .slice a5 n5 c5) (W := V5) (P := fun V => Keep (fun k => k = wx.heap.size) V5 V) (fun V o u h => h.setCell (.inl rfl) u) (Keep.refl _ _)
  refine bodyPost_ret (v := .tuple #[Pk.val P (.slice a5 n5 c5), .bool true]) (by simp [results, Try.results16, go_sem, *]) rfl ⟨_, by rw [hP], by rw [hP]; exact (hd5.keep hkk (fun j hj e => by omega)).imp (fun j _ hj => by omega), (hK.trans (Keep.of_below (F := fun _ => False) b5) (fun j _ h => h.elim)).trans hkk (fun j hj e => by omega), (h3.below b5).step hkk (fun j hj => ?_) (fun j hj => ⟨.inl (.inl hj), ?_⟩)⟩
  · subst hj
    exact ⟨HWS.out, .inl (HXW.out _ (Nat.le_refl _) HSZ.out)⟩
  · exact Nat.lt_of_lt_of_le (Nat.lt_of_lt_of_le (h3.xl j (.inl hj)) b5.size) hkk.size
end
end Go.Proofs.Ytgeiagndpfdnlaa
