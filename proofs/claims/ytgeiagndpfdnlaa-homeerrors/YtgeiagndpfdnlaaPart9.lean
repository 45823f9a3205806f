/- The program's home: Handle of an Unlock. Conditions: as each theorem states them.
The program's home: Pending, Grant, New. Conditions: as each theorem states them.
The program's home: New, and the example that each of chapter 11's laws looks at. Conditions: as each theorem states them.
The program's home: a request that is not taken, or not done. Conditions: as each theorem states them.
The walk of HomeErrors. Conditions: as the theorem states them. -/
import Derived.Test.YtgeiagndpfdnlaaPart8
import Derived.Test.YtgeiagndpfdnlaaPart1
section
namespace Go.Proofs.Ytgeiagndpfdnlaa
open Go.RowKit Go.Maps
set_option linter.unusedVariables false
set_option maxRecDepth 20000

/-- What an Unlock is answered. -/
def ulE (N K : Int) (L : List Hr) (o : List (Int × Int)) (x : Pk) : Int := if ownT o x.l = x.f then (setR N K L x.l x.s x.p (unlD x)).1 else 6
section
variable {w wx wy : World} {g g1 g2 n N : Nat} {X Y : Nat → Prop} {K node : Int} {L : List Hr} {o : List (Int × Int)} {q : List Wr}
theorem hunlock_bad (h : PH w wx g g1 g2 X N K node L n o q) (x : Pk) (a : Option Addr) (m c : Nat) (hsl : Sl wx a m c x.z) (hl : In64 x.l) (hf : 0 ≤ x.f) (hz : x.z.length ≤ 1000) (he : ulE N K L o x ≠ 0) :
    Calls Try.prog 30 #[.pointer (some ⟨g, 0, none⟩), x.val (.slice a m c)] wx fun e w' => e = .returned (.int .i64 (ulE N K L o x)) ∧ Keep (NX w X) wx w' ∧ PH w w' g g1 g2 X N K node L n o q := by
  unfold ulE at he ⊢
  by_cases ho : ownT o x.l = x.f
  · rw [if_pos ho] at he ⊢
    exact hunlock_err h x a m c hsl hl ho hf hz he
  · rw [if_neg ho]
    refine (hunlock_state h x a m c hsl hl ho).mono ?_
    rintro e w' ⟨rfl, hb⟩
    exact ⟨rfl, Keep.of_below hb, h.below hb⟩
set_option maxHeartbeats 1600000 in
theorem hh_uerr (h : PH w wx g g1 g2 X N K node L n o q) (x : Pk) (a : Option Addr) (m c : Nat) (hsl : Sl wx a m c x.z) (hl : In64 x.l) (he : ckE N node L x = 0) (hk : x.k = 2) (hu : ulE N K L o x ≠ 0) :
    Calls Try.prog 10 #[.pointer (some ⟨g, 0, none⟩), x.val (.slice a m c)] wx fun e w' => e = .returned (.tuple #[zeroPk.val (.slice none 0 0), .bool false, .int .i64 (ulE N K L o x)]) ∧ Keep (NX w X) wx w' ∧ PH w w' g g1 g2 X N K node L n o q := by
  have hkb : (x.k == 1) = false := by simp [hk]
  have HU : Hid (ulE N K L o x ≠ 0) := hu
  obtain ⟨E, hE⟩ : ∃ E, ulE N K L o x = E := ⟨_, rfl⟩
  have HE : Hid (ulE N K L o x = E) := hE
  rw [hE] at hu
  have hub : (E != 0) = true := by simp [hu]
  clear hk hu hE
  have HL : Hid (In64 x.l) := hl
  have HC : Hid (ckE N node L x = 0) := he
  have HF : Hid (0 ≤ x.l ∧ 0 ≤ x.f ∧ x.z.length ≤ 1000) := ck_facts he
  clear he hl
  unfold Pk.val
  go_enter Try.func10, Try.ntmps10
  go_upto_region 1 with fail
  have hB : Below wx.heap.size wx ((wx.alloc (.cells #[.int .i64 x.k, .int .i64 x.f, .int .i64 x.t, .int .i64 x.i, .int .i64 x.l, .int .i64 x.p, .int .i64 x.s, .bool x.fl, .slice a m c] 32)).alloc (.cells #[.int .i64 0, .int .i64 0, .int .i64 0, .int .i64 0, .int .i64 0, .int .i64 0, .int .i64 0, .bool false, .slice none 0 0] 32)) := ba (ba (Below.refl _ _))
  have bxp : Bx ((wx.alloc (.cells #[.int .i64 x.k, .int .i64 x.f, .int .i64 x.t, .int .i64 x.i, .int .i64 x.l, .int .i64 x.p, .int .i64 x.s, .bool x.fl, .slice a m c] 32)).alloc (.cells #[.int .i64 0, .int .i64 0, .int .i64 0, .int .i64 0, .int .i64 0, .int .i64 0, .int .i64 0, .bool false, .slice none 0 0] 32)) wx.heap.size x (.slice a m c) := (Bx.made wx x (.slice a m c)).next (ba (Below.refl _ _))
  have bxr : Bx ((wx.alloc (.cells #[.int .i64 x.k, .int .i64 x.f, .int .i64 x.t, .int .i64 x.i, .int .i64 x.l, .int .i64 x.p, .int .i64 x.s, .bool x.fl, .slice a m c] 32)).alloc (.cells #[.int .i64 0, .int .i64 0, .int .i64 0, .int .i64 0, .int .i64 0, .int .i64 0, .int .i64 0, .bool false, .slice none 0 0] 32)) (wx.heap.size + 1) zeroPk (.slice none 0 0) := Bx.made' (wx.alloc (.cells #[.int .i64 x.k, .int .i64 x.f, .int .i64 x.t, .int .i64 x.i, .int .i64 x.l, .int .i64 x.p, .int .i64 x.s, .bool x.fl, .slice a m c] 32)) zeroPk (.slice none 0 0) _ (by simp)
  have h1 := h.own hB
  have hs1 := hsl.below hB
  have HX : Hid (∀ j, X j → j < wx.heap.size) := h.xl
  have HWS : Hid (w.heap.size ≤ wx.heap.size) := h.bel.size
  clear h hsl
  generalize World.alloc _ (.cells #[.int .i64 0, .int .i64 0, .int .i64 0, .int .i64 0, .int .i64 0, .int .i64 0, .int .i64 0, .bool false, .slice none 0 0] 32) = W at *
  have HSZ : Hid (wx.heap.size + 1 < W.heap.size) := bxr.lt
  have HXW : Hid (∀ j, wx.heap.size ≤ j → j < W.heap.size → (X j ∨ wx.heap.size ≤ j ∧ j < W.heap.size)) := fun j h1 h2 => .inr ⟨h1, h2⟩
  obtain ⟨zw, ezw⟩ : ∃ zw, W.heap.size = zw := ⟨_, rfl⟩
  have EZW : Hid (W.heap.size = zw) := ezw
  rw [ezw] at HSZ HXW h1
  clear ezw
  obtain ⟨q0, q1, q2, q3, q4, q5, q6, q7, q8, qf, ql⟩ := id bxp
  go_upto_region 2 with (go_at_call 28; refine (hcheck_any h1 x a m c hs1 HL.out).mono ?_; rw [HC.out]; rintro e V ⟨rfl, b1⟩)
  have h2 := h1.below b1
  have hs2 := hs1.below b1
  have bp2 := bxp.next b1
  have br2 := bxr.next b1
  have hB2 := next hB b1
  clear q0 q1 q2 q3 q4 q5 q6 q7 q8 qf ql bxp bxr h1 hs1 hB b1 EZW
  clear W
  obtain ⟨q0, q1, q2, q3, q4, q5, q6, q7, q8, qf, ql⟩ := id bp2
  go_upto_region 8 with (go_at_call 30; refine (hunlock_bad h2 x a m c hs2 HL.out HF.out.2.1 HF.out.2.2 HU.out).mono ?_; rw [HE.out]; rintro e V2 ⟨rfl, hk2, h3⟩)
  have br3 := br2.keep hk2 (fun hf => hf.2 (HXW.out _ (by omega) HSZ.out))
  have hK := Keep.pre hB2 (hk2.mono (G := NX w X) (fun j _ hj => nx_less (fun j hx => .inl hx) hj))
  clear hk2 br2 bp2 h2 hB2 hs2 q0 q1 q2 q3 q4 q5 q6 q7 q8 qf ql
  obtain ⟨r0, r1, r2, r3, r4, r5, r6, r7, r8, rf, rl⟩ := id br3
  have f0 := rf 0
  go_wp2_with fail
  have hkk : Keep (fun k => k = wx.heap.size + 1) V2 _ := far9 (g := wx.heap.size + 1) (y := zeroPk) (v := .slice none 0 0) (W := V2) (P := fun V => Keep (fun k => k = wx.heap.size + 1) V2 V) (fun V o u h => h.setCell (.inl rfl) u) (Keep.refl _ _)
  refine bodyPost_ret (v := .tuple #[Pk.val zeroPk (.slice none 0 0), .bool false, .int .i64 E]) (by simp [results, Try.results10, go_sem, *, zeroPk]) rfl ⟨by rw [HE.out], hK.trans hkk (fun j hj e => by omega), h3.step hkk (fun j hj => ?_) (fun j hj => ⟨.inl (.inl hj), ?_⟩)⟩
  · subst hj
    have h1 := HWS.out
    exact ⟨by omega, .inl (HXW.out _ (by omega) HSZ.out)⟩
  · exact Nat.lt_of_lt_of_le (h3.xl j (.inl hj)) hkk.size
set_option maxHeartbeats 1600000 in
theorem hh_uok (h : PH w wx g g1 g2 X N K node L n o q) (x : Pk) (a : Option Addr) (m c : Nat) (hsl : Sl wx a m c x.z) (hl : In64 x.l) (he : ckE N node L x = 0) (hk : x.k = 2) (ho : ownT o x.l = x.f) (hu : (setR N K L x.l x.s x.p (unlD x)).1 = 0) :
    Calls Try.prog 10 #[.pointer (some ⟨g, 0, none⟩), x.val (.slice a m c)] wx fun e w' => e = .returned (.tuple #[(⟨8, node, x.f, x.i, x.l, 0, 0, false, []⟩ : Pk).val (.slice none 0 0), .bool true, .int .i64 0]) ∧ Keep (NX w X) wx w' ∧ PH w w' g g1 g2 X N K node (setR N K L x.l x.s x.p (unlD x)).2 n (relO o x.l) q := by
  have hkb : (x.k == 1) = false := by simp [hk]
  have HU : Hid (ownT o x.l = x.f ∧ (setR N K L x.l x.s x.p (unlD x)).1 = 0) := ⟨ho, hu⟩
  clear hk hu ho
  have HL : Hid (In64 x.l) := hl
  have HC : Hid (ckE N node L x = 0) := he
  have HF : Hid (0 ≤ x.l ∧ 0 ≤ x.f ∧ x.z.length ≤ 1000) := ck_facts he
  clear he hl
  unfold Pk.val
  go_enter Try.func10, Try.ntmps10
  go_upto_region 1 with fail
  have hB : Below wx.heap.size wx ((wx.alloc (.cells #[.int .i64 x.k, .int .i64 x.f, .int .i64 x.t, .int .i64 x.i, .int .i64 x.l, .int .i64 x.p, .int .i64 x.s, .bool x.fl, .slice a m c] 32)).alloc (.cells #[.int .i64 0, .int .i64 0, .int .i64 0, .int .i64 0, .int .i64 0, .int .i64 0, .int .i64 0, .bool false, .slice none 0 0] 32)) := ba (ba (Below.refl _ _))
  have bxp : Bx ((wx.alloc (.cells #[.int .i64 x.k, .int .i64 x.f, .int .i64 x.t, .int .i64 x.i, .int .i64 x.l, .int .i64 x.p, .int .i64 x.s, .bool x.fl, .slice a m c] 32)).alloc (.cells #[.int .i64 0, .int .i64 0, .int .i64 0, .int .i64 0, .int .i64 0, .int .i64 0, .int .i64 0, .bool false, .slice none 0 0] 32)) wx.heap.size x (.slice a m c) := (Bx.made wx x (.slice a m c)).next (ba (Below.refl _ _))
  have bxr : Bx ((wx.alloc (.cells #[.int .i64 x.k, .int .i64 x.f, .int .i64 x.t, .int .i64 x.i, .int .i64 x.l, .int .i64 x.p, .int .i64 x.s, .bool x.fl, .slice a m c] 32)).alloc (.cells #[.int .i64 0, .int .i64 0, .int .i64 0, .int .i64 0, .int .i64 0, .int .i64 0, .int .i64 0, .bool false, .slice none 0 0] 32)) (wx.heap.size + 1) zeroPk (.slice none 0 0) := Bx.made' (wx.alloc (.cells #[.int .i64 x.k, .int .i64 x.f, .int .i64 x.t, .int .i64 x.i, .int .i64 x.l, .int .i64 x.p, .int .i64 x.s, .bool x.fl, .slice a m c] 32)) zeroPk (.slice none 0 0) _ (by simp)
  have h1 := h.own hB
  have hs1 := hsl.below hB
  have HX : Hid (∀ j, X j → j < wx.heap.size) := h.xl
  have HWS : Hid (w.heap.size ≤ wx.heap.size) := h.bel.size
  clear h hsl
  generalize World.alloc _ (.cells #[.int .i64 0, .int .i64 0, .int .i64 0, .int .i64 0, .int .i64 0, .int .i64 0, .int .i64 0, .bool false, .slice none 0 0] 32) = W at *
  have HSZ : Hid (wx.heap.size + 1 < W.heap.size) := bxr.lt
  have HXW : Hid (∀ j, wx.heap.size ≤ j → j < W.heap.size → (X j ∨ wx.heap.size ≤ j ∧ j < W.heap.size)) := fun j h1 h2 => .inr ⟨h1, h2⟩
  obtain ⟨zw, ezw⟩ : ∃ zw, W.heap.size = zw := ⟨_, rfl⟩
  have EZW : Hid (W.heap.size = zw) := ezw
  rw [ezw] at HSZ HXW h1
  clear ezw
  obtain ⟨q0, q1, q2, q3, q4, q5, q6, q7, q8, qf, ql⟩ := id bxp
  go_upto_region 2 with (go_at_call 28; refine (hcheck_any h1 x a m c hs1 HL.out).mono ?_; rw [HC.out]; rintro e V ⟨rfl, b1⟩)
  have h2 := h1.below b1
  have hs2 := hs1.below b1
  have bp2 := bxp.next b1
  have br2 := bxr.next b1
  have hB2 := next hB b1
  clear q0 q1 q2 q3 q4 q5 q6 q7 q8 qf ql bxp bxr h1 hs1 hB b1 EZW
  clear W
  obtain ⟨q0, q1, q2, q3, q4, q5, q6, q7, q8, qf, ql⟩ := id bp2
  go_upto_region 8 with (go_at_call 30; refine (hunlock_ok h2 x a m c hs2 HL.out HU.out.1 HF.out.2.1 HF.out.2.2 HU.out.2).mono ?_; rintro e V2 ⟨rfl, hk2, h3⟩)
  have br3 := br2.keep hk2 (fun hf => hf.2 (HXW.out _ (by omega) HSZ.out))
  have bp3 := bp2.keep hk2 (fun hf => hf.2 (HXW.out _ (Nat.le_refl _) (by have := HSZ.out; omega)))
  have hK := Keep.pre hB2 (hk2.mono (G := NX w X) (fun j _ hj => nx_less (fun j hx => .inl hx) hj))
  clear hk2 br2 bp2 h2 hB2 hs2 q0 q1 q2 q3 q4 q5 q6 q7 q8 qf ql
  obtain ⟨q0, q1, q2, q3, q4, q5, q6, q7, q8, qf, ql⟩ := id bp3
  obtain ⟨P, hP⟩ : ∃ P : Pk, ⟨8, node, x.f, x.i, x.l, 0, 0, false, []⟩ = P := ⟨_, rfl⟩
  go_wp2_with (go_at_call 31; refine (hans_any h3 2 x.l x.f x.i).mono ?_; rw [show ansI 2 = 8 from rfl, hP]; rintro e V5 ⟨rfl, b5⟩; obtain ⟨r0, r1, r2, r3, r4, r5, r6, r7, r8, rf, rl⟩ := br3.next b5; have f0 := rf 0)
  have hkk : Keep (fun k => k = wx.heap.size + 1) V5 _ := far9 (g := wx.heap.size + 1) (y := P) (v := .slice none 0 0) (W := V5) (P := fun V => Keep (fun k => k = wx.heap.size + 1) V5 V) (fun V o u h => h.setCell (.inl rfl) u) (Keep.refl _ _)
  refine bodyPost_ret (v := .tuple #[Pk.val P (.slice none 0 0), .bool true, .int .i64 0]) (by simp [results, Try.results10, go_sem, *]) rfl ⟨by rw [← hP], (hK.trans (Keep.of_below (F := fun _ => False) b5) (fun j _ h => h.elim)).trans hkk (fun j hj e => by omega), (h3.below b5).step hkk (fun j hj => ?_) (fun j hj => ⟨.inl (.inl hj), ?_⟩)⟩
  · subst hj
    have h1 := HWS.out
    exact ⟨by omega, .inl (HXW.out _ (by omega) HSZ.out)⟩
  · exact Nat.lt_of_lt_of_le (Nat.lt_of_lt_of_le (h3.xl j (.inl hj)) b5.size) hkk.size
end
end Go.Proofs.Ytgeiagndpfdnlaa
end
section
namespace Go.Proofs.Ytgeiagndpfdnlaa
open Go.RowKit Go.Maps
set_option linter.unusedVariables false
set_option maxRecDepth 20000

section
variable {w wx wy : World} {g g1 g2 n N : Nat} {X Y : Nat → Prop} {K node : Int} {L : List Hr} {o : List (Int × Int)} {q : List Wr}
theorem hp_rdy (h : PH w wx g g1 g2 X N K node L n o q) (hn : n ≤ 1000) : Calls Try.prog 32 #[.pointer (some ⟨g2, 0, none⟩)] wx fun e w' => ∃ a c, e = .returned (.slice a (readyT o q).length c) ∧ Sl w' a (readyT o q).length c (readyT o q) ∧ Below wx.heap.size wx w' := by
  refine (hp_ready h.hp hn).mono ?_
  rintro e w' ⟨v, rfl, own, b⟩
  obtain ⟨a, c, rfl, hs⟩ := own.sl
  exact ⟨a, c, rfl, hs, b⟩
set_option maxHeartbeats 800000 in
theorem hpend_any (h : PH w wx g g1 g2 X N K node L n o q) (hn : n ≤ 1000) (b : Bool) (hb : decide (0 < (readyT o q).length) = b) :
    Calls Try.prog 13 #[.pointer (some ⟨g, 0, none⟩)] wx fun e w' => e = .returned (.bool b) ∧ Below wx.heap.size wx w' := by
  have c1 := h.c1
  obtain ⟨k, hk⟩ : ∃ k, (readyT o q).length = k := ⟨_, rfl⟩
  have HK : Hid ((readyT o q).length = k) := hk
  rw [hk] at hb
  clear hk
  go_enter Try.func13, Try.ntmps13
  go_wp2_with (go_at_call 32; refine (hp_rdy h hn).mono ?_; rw [HK.out]; rintro e V ⟨a, c, rfl, sl, b1⟩)
  go_ret
  exact ⟨rfl, b1⟩
set_option maxHeartbeats 800000 in
theorem hgr_no (h : PH w wx g g1 g2 X N K node L n o q) (hn : n ≤ 1000) (hr : readyT o q = []) :
    Calls Try.prog 16 #[.pointer (some ⟨g, 0, none⟩)] wx fun e w' => e = .returned (.tuple #[zeroPk.val (.slice none 0 0), .bool false]) ∧ Below wx.heap.size wx w' := by
  have HK : Hid ((readyT o q).length = 0) := by show _ = _; rw [hr]; rfl
  clear hr
  go_enter Try.func16, Try.ntmps16
  go_upto_region 1 with fail
  have hB : Below wx.heap.size wx (wx.alloc (.cells #[.int .i64 0, .int .i64 0, .int .i64 0, .int .i64 0, .int .i64 0, .int .i64 0, .int .i64 0, .bool false, .slice none 0 0] 32)) := ba (Below.refl _ _)
  have bxr : Bx (wx.alloc (.cells #[.int .i64 0, .int .i64 0, .int .i64 0, .int .i64 0, .int .i64 0, .int .i64 0, .int .i64 0, .bool false, .slice none 0 0] 32)) wx.heap.size zeroPk (.slice none 0 0) := Bx.made wx zeroPk (.slice none 0 0)
  have h1 := h.below hB
  clear h
  generalize World.alloc _ (.cells #[.int .i64 0, .int .i64 0, .int .i64 0, .int .i64 0, .int .i64 0, .int .i64 0, .int .i64 0, .bool false, .slice none 0 0] 32) = W at *
  have c1 := h1.c1
  go_wp2_with (go_at_call 32; refine (hp_rdy h1 hn).mono ?_; rw [HK.out]; rintro e V ⟨a, c, rfl, sl, b1⟩; obtain ⟨r0, r1, r2, r3, r4, r5, r6, r7, r8, rf, rl⟩ := bxr.next b1; have f0 := rf 0)
  refine bodyPost_ret (v := .tuple #[Pk.val zeroPk (.slice none 0 0), .bool false]) (by simp [results, Try.results16, go_sem, *, zeroPk]) rfl ⟨rfl, far9 (g := wx.heap.size) (y := zeroPk) (v := .slice none 0 0) (W := V) (P := fun V => Below wx.heap.size wx V) (fun V o u h => h.setCell (by simp) u) (next hB b1)⟩
set_option maxHeartbeats 1600000 in
theorem hgr_ok (h : PH w wx g g1 g2 X N K node L n o q) (hn : n ≤ 1000) {l v d : Int} {rest : List Int} (hr : readyT o q = l :: rest) (hl : In64 l) (h1 : ownT o l = -1) (h0 : 0 ≤ v) (hk : nextW q l = some ⟨l, v, d⟩) :
    Calls Try.prog 16 #[.pointer (some ⟨g, 0, none⟩)] wx fun e w' => ∃ dd, e = .returned (.tuple #[(grantR node v d l L).val dd, .bool true]) ∧ DatZ w' (fun k => wx.heap.size ≤ k) (grantR node v d l L).z dd ∧ Keep (NX w X) wx w' ∧ PH w w' g g1 g2 X N K node L (n + 1) (o ++ [(l, v)]) (nextQ q l) := by
  have HR : Hid (readyT o q = l :: rest) := hr
  have HH : Hid (In64 l ∧ ownT o l = -1 ∧ 0 ≤ v ∧ nextW q l = some ⟨l, v, d⟩) := ⟨hl, h1, h0, hk⟩
  clear hr hl h1 h0 hk
  go_enter Try.func16, Try.ntmps16
  go_upto_region 1 with fail
  have hB : Below wx.heap.size wx (wx.alloc (.cells #[.int .i64 0, .int .i64 0, .int .i64 0, .int .i64 0, .int .i64 0, .int .i64 0, .int .i64 0, .bool false, .slice none 0 0] 32)) := ba (Below.refl _ _)
  have bxr : Bx (wx.alloc (.cells #[.int .i64 0, .int .i64 0, .int .i64 0, .int .i64 0, .int .i64 0, .int .i64 0, .int .i64 0, .bool false, .slice none 0 0] 32)) wx.heap.size zeroPk (.slice none 0 0) := Bx.made wx zeroPk (.slice none 0 0)
  have h1 := h.own hB
  have HWS : Hid (w.heap.size ≤ wx.heap.size) := h.bel.size
  clear h
  generalize World.alloc _ (.cells #[.int .i64 0, .int .i64 0, .int .i64 0, .int .i64 0, .int .i64 0, .int .i64 0, .int .i64 0, .bool false, .slice none 0 0] 32) = W at *
  have c1 := h1.c1
  have HSZ : Hid (wx.heap.size < W.heap.size) := bxr.lt
  have HXW : Hid (∀ j, wx.heap.size ≤ j → j < W.heap.size → (X j ∨ wx.heap.size ≤ j ∧ j < W.heap.size)) := fun j h1 h2 => .inr ⟨h1, h2⟩
  go_upto_region 4 with (go_at_call 32; refine (hp_rdy h1 hn).mono ?_; rw [HR.out]; rintro e V ⟨a, c, rfl, sl, b1⟩; obtain ⟨b0, o0, ea, hb0, hc0⟩ := sl.at (k := 0) (by simp); subst ea)
  have hc1 : V.cell? ⟨b0, o0, none⟩ = some (.int .i64 l) := hc0
  have h2 := h1.below b1
  have br2 := bxr.next b1
  have hB2 := next hB b1
  clear hc0 sl h1 c1 bxr hB b1 hb0
  have c1 := h2.c1
  obtain ⟨P, hP⟩ : ∃ P, grantR node v d l L = P := ⟨_, rfl⟩
  go_upto_region 6 with (go_at_call 34; refine (hp_next h2.hp HH.out.1 HH.out.2.1 HH.out.2.2.1 HH.out.2.2.2 hn).mono ?_; rintro e V2 ⟨rfl, hk2, p2⟩)
  obtain ⟨hk3, h3⟩ := h2.call hk2 p2
  have br3 := br2.keep hk2 (fun hf => hf.2 (.inl (HXW.out _ (Nat.le_refl _) HSZ.out)))
  have hK := Keep.pre hB2 (hk3.mono (G := NX w X) (fun j _ hj => nx_less (fun j hx => .inl hx) hj))
  clear hk2 hk3 p2 h2 br2 hB2 c1 hc1
  go_wp2_with (go_at_call 35; refine (hgranted_any h3 HH.out.1 v d).mono ?_; rw [hP]; rintro e V5 ⟨dd, rfl, hd5, b5⟩; obtain ⟨a5, n5, c5, ed, _⟩ := id hd5; subst ed; have br6 := br3.next b5; obtain ⟨r0, r1, r2, r3, r4, r5, r6, r7, r8, rf, rl⟩ := id br6; have f0 := rf 0)
  have hz2 := br3.lt
  have hkk : Keep (fun k => k = wx.heap.size) V5 _ := far9 (g := wx.heap.size) (y := P) (v := .slice a5 n5 c5) (W := V5) (P := fun V => Keep (fun k => k = wx.heap.size) V5 V) (fun V o u h => h.setCell (.inl rfl) u) (Keep.refl _ _)
  refine bodyPost_ret (v := .tuple #[Pk.val P (.slice a5 n5 c5), .bool true]) (by simp [results, Try.results16, go_sem, *]) rfl ⟨_, by rw [hP], by rw [hP]; exact (hd5.keep hkk (fun j hj e => by omega)).imp (fun j _ hj => by omega), (hK.trans (Keep.of_below (F := fun _ => False) b5) (fun j _ h => h.elim)).trans hkk (fun j hj e => by omega), (h3.below b5).step hkk (fun j hj => ?_) (fun j hj => ⟨.inl (.inl hj), ?_⟩)⟩
  · subst hj
    exact ⟨HWS.out, .inl (HXW.out _ (Nat.le_refl _) HSZ.out)⟩
  · exact Nat.lt_of_lt_of_le (Nat.lt_of_lt_of_le (h3.xl j (.inl hj)) b5.size) hkk.size
end
end Go.Proofs.Ytgeiagndpfdnlaa
end
section
namespace Go.Proofs.Ytgeiagndpfdnlaa
open Go.RowKit Go.Maps
set_option linter.unusedVariables false
set_option maxRecDepth 20000

section
variable {w wx wy : World} {X : Nat → Prop}
set_option maxHeartbeats 1600000 in
theorem hnew_any (N M K S Y O I : Nat) (a : Option Addr) (nv cv : Nat) (zi : List Int) (node : Int) (hb : Below w.heap.size w wx) (hX : ∀ j, X j → j < wx.heap.size) (hsl : Sl wx a nv cv zi) (hN0 : 1 ≤ N) (hN : N ≤ 6) (hL : M ≤ 8) (hK0 : 1 ≤ K) (hK : K ≤ 4) (hlen : nv ≤ 32) (hc : chk N M K S Y O I nv = true) :
    Calls Try.prog 8 #[cfg N M K S Y O I (.slice a nv cv), .int .i64 node] wx fun e w' => ∃ g g1 g2, e = .returned (.pointer (some ⟨g, 0, none⟩)) ∧ Below wx.heap.size wx w' ∧ PH w w' g g1 g2 X N K node (rows0 zi N M K node M) 0 [] [] := by
  have HE : Hid (errI (chk N M K S Y O I nv) = 0) := by show _ = _; rw [hc]; rfl
  have HH : Hid (1 ≤ N ∧ N ≤ 6 ∧ M ≤ 8 ∧ 1 ≤ K ∧ K ≤ 4 ∧ nv ≤ 32) := ⟨hN0, hN, hL, hK0, hK, hlen⟩
  have HX : Hid (∀ j, X j → j < wx.heap.size) := hX
  clear hc hN0 hN hL hK0 hK hlen hX
  unfold cfg
  go_enter Try.func8, Try.ntmps8
  go_upto_region 1 with fail
  have hB : Below wx.heap.size wx (wx.alloc (.cells #[.int .i64 (N : Int), .int .i64 (M : Int), .int .i64 (K : Int), .int .i64 (S : Int), .int .i64 (Y : Int), .int .i64 (O : Int), .int .i64 (I : Int), .slice a nv cv] 26)) := ba (Below.refl _ _)
  have hcb := CB.made wx N M K S Y O I (.slice a nv cv)
  have hs1 := hsl.below hB
  generalize wx.alloc (.cells #[.int .i64 (N : Int), .int .i64 (M : Int), .int .i64 (K : Int), .int .i64 (S : Int), .int .i64 (Y : Int), .int .i64 (O : Int), .int .i64 (I : Int), .slice a nv cv] 26) = W at *
  obtain ⟨c0, c1, c2, c3, c4, c5, c6, c7, clt⟩ := id hcb
  go_upto_region 3 with (go_at_call 25; refine (check_any N M K S Y O I a nv cv W).mono ?_; rw [HE.out]; rintro e V ⟨rfl, b1⟩)
  have hs2 := hs1.below b1
  have hcb2 := hcb.below b1
  have hB2 := next hB b1
  clear c0 c1 c2 c3 c4 c5 c6 c7 clt hcb hs1 hB b1
  refine wp_region_orders 10 rfl (by kernel_rfl) ?_
  have Bd : Below V.heap.size V V.drew := (Below.refl _ _).drew
  have hs3 := hs2.below Bd
  have hcb3 := hcb2.below Bd
  have hB3 := next hB2 Bd
  clear hs2 hcb2 hB2 Bd
  generalize V.drew = Vd at *
  clear V
  obtain ⟨c0, c1, c2, c3, c4, c5, c6, c7, clt⟩ := id hcb3
  have HIB : Hid (∀ V', Below Vd.heap.size Vd V' → (fun V => V.cell? ⟨wx.heap.size, 0, none⟩ = some (.int .i64 (N : Int)) ∧ V.cell? ⟨wx.heap.size, 1, none⟩ = some (.int .i64 (M : Int)) ∧ V.cell? ⟨wx.heap.size, 2, none⟩ = some (.int .i64 (K : Int)) ∧ V.cell? ⟨wx.heap.size, 3, none⟩ = some (.int .i64 (S : Int)) ∧ V.cell? ⟨wx.heap.size, 4, none⟩ = some (.int .i64 (Y : Int)) ∧ V.cell? ⟨wx.heap.size, 5, none⟩ = some (.int .i64 (O : Int)) ∧ V.cell? ⟨wx.heap.size, 6, none⟩ = some (.int .i64 (I : Int)) ∧ V.cell? ⟨wx.heap.size, 7, none⟩ = some (.slice a nv cv)) V') := fun V' b => ⟨(b.cell (p := ⟨wx.heap.size, 0, none⟩) clt).trans c0, (b.cell (p := ⟨wx.heap.size, 1, none⟩) clt).trans c1, (b.cell (p := ⟨wx.heap.size, 2, none⟩) clt).trans c2, (b.cell (p := ⟨wx.heap.size, 3, none⟩) clt).trans c3, (b.cell (p := ⟨wx.heap.size, 4, none⟩) clt).trans c4, (b.cell (p := ⟨wx.heap.size, 5, none⟩) clt).trans c5, (b.cell (p := ⟨wx.heap.size, 6, none⟩) clt).trans c6, (b.cell (p := ⟨wx.heap.size, 7, none⟩) clt).trans c7⟩
  have hI : (fun V => V.cell? ⟨wx.heap.size, 0, none⟩ = some (.int .i64 (N : Int)) ∧ V.cell? ⟨wx.heap.size, 1, none⟩ = some (.int .i64 (M : Int)) ∧ V.cell? ⟨wx.heap.size, 2, none⟩ = some (.int .i64 (K : Int)) ∧ V.cell? ⟨wx.heap.size, 3, none⟩ = some (.int .i64 (S : Int)) ∧ V.cell? ⟨wx.heap.size, 4, none⟩ = some (.int .i64 (Y : Int)) ∧ V.cell? ⟨wx.heap.size, 5, none⟩ = some (.int .i64 (O : Int)) ∧ V.cell? ⟨wx.heap.size, 6, none⟩ = some (.int .i64 (I : Int)) ∧ V.cell? ⟨wx.heap.size, 7, none⟩ = some (.slice a nv cv)) Vd := HIB.out _ (Below.refl _ _)
  have hXV : ∀ j, X j → j < Vd.heap.size := fun j hj => Nat.lt_of_lt_of_le (HX.out j hj) hB3.size
  have hWV := next hb hB3
  have hmk := mo_new (w := w) (X := fun j => j < Vd.heap.size) N M K S Y O I a nv cv zi node hWV (fun j hj => hj) hs3 HH.out.1 HH.out.2.1 HH.out.2.2.1 HH.out.2.2.2.1 HH.out.2.2.2.2.1 HH.out.2.2.2.2.2
  unfold cfg at hmk
  clear c0 c1 c2 c3 c4 c5 c6 c7 hcb3 hs3 hsl
  refine any_inv (fun V => V.cell? ⟨wx.heap.size, 0, none⟩ = some (.int .i64 (N : Int)) ∧ V.cell? ⟨wx.heap.size, 1, none⟩ = some (.int .i64 (M : Int)) ∧ V.cell? ⟨wx.heap.size, 2, none⟩ = some (.int .i64 (K : Int)) ∧ V.cell? ⟨wx.heap.size, 3, none⟩ = some (.int .i64 (S : Int)) ∧ V.cell? ⟨wx.heap.size, 4, none⟩ = some (.int .i64 (Y : Int)) ∧ V.cell? ⟨wx.heap.size, 5, none⟩ = some (.int .i64 (O : Int)) ∧ V.cell? ⟨wx.heap.size, 6, none⟩ = some (.int .i64 (I : Int)) ∧ V.cell? ⟨wx.heap.size, 7, none⟩ = some (.slice a nv cv)) [] hI ?_
  refine inv_take (v := ?v1) [] 0 hI rfl (by kernel_rfl) (by kernel_rfl) (by kernel_rfl) (by kernel_rfl) (by kernel_rfl) (fun _ _ _ h => h) (by kernel_rfl) (fun V hV => ?hy1) ?go1
  case hy1 => (obtain ⟨i0, i1, i2, i3, i4, i5, i6, i7⟩ := hV; go_simp <;> rfl)
  simp only [Act.put, List.setIfInBounds_toArray, List.set_cons_zero, List.set_cons_succ]
  refine inv_take (v := ?v2) [] 1 hI rfl (by kernel_rfl) (by kernel_rfl) (by kernel_rfl) (by kernel_rfl) (by kernel_rfl) (fun _ _ _ h => h) (by kernel_rfl) (fun V hV => ?hy2) ?go2
  case hy2 => (obtain ⟨i0, i1, i2, i3, i4, i5, i6, i7⟩ := hV; go_simp <;> rfl)
  simp only [Act.put, List.setIfInBounds_toArray, List.set_cons_zero, List.set_cons_succ]
  refine inv_take (v := ?v3) [] 4 hI rfl (by kernel_rfl) (by kernel_rfl) (by kernel_rfl) (by kernel_rfl) (by kernel_rfl) (fun _ _ _ h => h) (by kernel_rfl) (fun V hV => ?hy3) ?go3
  case hy3 => (obtain ⟨i0, i1, i2, i3, i4, i5, i6, i7⟩ := hV; go_simp <;> rfl)
  simp only [Act.put, List.setIfInBounds_toArray, List.set_cons_zero, List.set_cons_succ]
  refine inv_take (v := ?v4) [] 5 hI rfl (by kernel_rfl) (by kernel_rfl) (by kernel_rfl) (by kernel_rfl) (by kernel_rfl) (fun _ _ _ h => h) (by kernel_rfl) (fun V hV => ?hy4) ?go4
  case hy4 => (obtain ⟨i0, i1, i2, i3, i4, i5, i6, i7⟩ := hV; go_simp <;> rfl)
  simp only [Act.put, List.setIfInBounds_toArray, List.set_cons_zero, List.set_cons_succ]
  refine inv_take (v := ?v5) [] 6 hI rfl (by kernel_rfl) (by kernel_rfl) (by kernel_rfl) (by kernel_rfl) (by kernel_rfl) (fun _ _ _ h => h) (by kernel_rfl) (fun V hV => ?hy5) ?go5
  case hy5 => (obtain ⟨i0, i1, i2, i3, i4, i5, i6, i7⟩ := hV; go_simp <;> rfl)
  simp only [Act.put, List.setIfInBounds_toArray, List.set_cons_zero, List.set_cons_succ]
  refine inv_list 2 (by kernel_rfl) rfl ?_
  go_wp2_with (go_at_call 26; refine hmk.mono ?_; rintro e V1 ⟨g1, rfl, b1, m1⟩)
  refine then_n ⟨HIB.out _ b1, ?_⟩
  try simp only [Act.put, List.setIfInBounds_toArray, List.set_cons_zero, List.set_cons_succ]
  refine inv_list 3 (by kernel_rfl) rfl ?_
  go_wp2_with (go_at_call 27; refine (to_new (X := fun j => j < V1.heap.size) (next hWV b1) (fun j hj => hj)).mono ?_; rintro e V2 ⟨g2, rfl, b2, t1⟩)
  have b3 := next b1 b2
  refine then_n ⟨HIB.out _ b3, ?_⟩
  try simp only [Act.put, List.setIfInBounds_toArray, List.set_cons_zero, List.set_cons_succ]
  refine inv_take (v := ?v6) [] 7 (HIB.out _ b3) rfl (by kernel_rfl) (by kernel_rfl) (by kernel_rfl) (by kernel_rfl) (by kernel_rfl) (fun _ _ _ h => h) (by kernel_rfl) (fun V hV => ?hy6) ?go6
  case hy6 => (obtain ⟨i0, i1, i2, i3, i4, i5, i6, i7⟩ := hV; go_simp <;> rfl)
  simp only [Act.put, List.setIfInBounds_toArray, List.set_cons_zero, List.set_cons_succ]
  refine inv_list 8 (by kernel_rfl) rfl ?_
  go_wp2_with fail
  refine then_n ⟨HIB.out _ (ba b3), ?_⟩
  try simp only [Act.put, List.setIfInBounds_toArray, List.set_cons_zero, List.set_cons_succ]
  refine inv_list 9 (by kernel_rfl) rfl ?_
  go_wp2_with fail
  refine then_n ⟨HIB.out _ (ba b3), ?_⟩
  try simp only [Act.put, List.setIfInBounds_toArray, List.set_cons_zero, List.set_cons_succ]
  refine inv_done (by kernel_rfl) ?_
  go_wp2_with fail
  go_ret
  have hws := hWV.size
  have hv1 := b1.size
  have hv2 := b2.size
  have hmake : HP w V2 g1 g2 X N K (rows0 zi N M K node M) 0 [] [] := hp_make (a0 := Vd.heap.size) (b0 := V1.heap.size) hws (by omega) (fun j hj => ⟨hXV j hj, by have := hXV j hj; omega⟩) m1 t1 (.inl (Nat.le_refl _)) b2 (Below.refl _ _)
  have b4 : Below V2.heap.size V2 (V2.alloc (.cells #[.pointer (some ⟨g1, 0, none⟩), .pointer (some ⟨g2, 0, none⟩), .int .i64 node, .int .i64 (N : Int)] 42)) := ba (Below.refl _ _)
  have hz4 : V2.heap.size < (V2.alloc (.cells #[.pointer (some ⟨g1, 0, none⟩), .pointer (some ⟨g2, 0, none⟩), .int .i64 node, .int .i64 (N : Int)] 42)).heap.size := by simp
  have hkk := HH.out
  refine ⟨V2.heap.size, g1, g2, rfl, ba (next hB3 b3), ?_⟩
  refine ⟨hmake.step (F := fun _ => False) (Keep.of_below b4) (fun _ h => h.elim) (fun j hj => ?_), by simp, by simp, by simp, by simp, by simp, ⟨by omega, fun hx => by have := hXV _ hx; omega⟩, by omega⟩
  rcases hj with hj | rfl
  · exact ⟨.inl hj, by have := hXV j hj; omega⟩
  · exact ⟨.inr (Nat.le_refl _), hz4⟩
end
theorem wkRows : rows0 [] 2 1 1 0 1 = [⟨0, 0, -1, [0]⟩] := by simp [rows0, remI, wordsI, List.range_succ]
theorem wkNew (w : World) : Calls Try.prog 8 #[.agg #[.int .i64 2, .int .i64 1, .int .i64 1, .int .i64 1, .int .i64 1, .int .i64 1, .int .i64 1, .slice none 0 0], .int .i64 0] w fun e w' => ∃ g g1 g2, e = .returned (.pointer (some ⟨g, 0, none⟩)) ∧ Below w.heap.size w w' ∧ PH w w' g g1 g2 (fun _ => False) 2 1 0 [⟨0, 0, -1, [0]⟩] 0 [] [] := by
  have := hnew_any (w := w) (X := fun _ => False) 2 1 1 1 1 1 1 none 0 0 [] 0 (Below.refl _ _) (fun _ h => h.elim) (sl_nil _) (by omega) (by omega) (by omega) (by omega) (by omega) (by omega) (by decide)
  rw [wkRows] at this
  exact this
theorem wkCk : ckE 2 0 [⟨0, 0, -1, [0]⟩] ⟨1, 1, 0, 7, 0, 0, 0, false, []⟩ = 0 := by decide
theorem wkGr : grantR 0 1 7 0 [⟨0, 0, -1, [0]⟩] = ⟨7, 0, 1, 7, 0, -1, 0, false, [0]⟩ := by simp [grantR, rowL, getK]
theorem wkAsk : askB [] [] 0 = true := by decide
set_option maxHeartbeats 1000000 in
theorem hwakes_any (w : World) : Calls Try.prog 14 #[] w fun e w' => e = .returned (.bool true) ∧ Below w.heap.size w w' := by
  have i0 : In64 0 := by unfold In64; omega
  go_enter Try.func14, Try.ntmps14
  go_upto_region 5 with (first
    | (have mk := h1; clear mk; go_at_call 10; refine (hh_grant h1 ⟨1, 1, 0, 7, 0, 0, 0, false, []⟩ none 0 0 (sl_nil _) i0 wkCk rfl wkAsk (by omega)).mono ?_; rw [wkGr]; rintro e w2 ⟨dd, rfl, hd, hk2, h2⟩; obtain ⟨a5, n5, c5, ed, _⟩ := id hd; subst ed)
    | (go_at_call 8; refine (wkNew w).mono ?_; rintro e w1 ⟨g, g1, g2, rfl, b1, h1⟩))
  have hB1 : Below w.heap.size w w2 := b1.trans (hk2.below (fun j hj => hj.1) b1.size)
  have b3 : Below w2.heap.size w2 (w2.alloc (.cells #[.int .i64 7, .int .i64 0, .int .i64 1, .int .i64 7, .int .i64 0, .int .i64 (-1), .int .i64 0, .bool false, .slice a5 n5 c5] 32)) := ba (Below.refl _ _)
  have bxa : Bx (w2.alloc (.cells #[.int .i64 7, .int .i64 0, .int .i64 1, .int .i64 7, .int .i64 0, .int .i64 (-1), .int .i64 0, .bool false, .slice a5 n5 c5] 32)) w2.heap.size ⟨7, 0, 1, 7, 0, -1, 0, false, [0]⟩ (.slice a5 n5 c5) := Bx.made w2 ⟨7, 0, 1, 7, 0, -1, 0, false, [0]⟩ (.slice a5 n5 c5)
  have h3 := h2.below b3
  have hB2 := next hB1 b3
  clear h1 h2 hk2 b1 hd hB1 b3
  generalize w2.alloc _ = w3 at *
  generalize w2.heap.size = ga at *
  obtain ⟨y0, y1, y2, y3, y4, y5, y6, y7, y8, yf, yl⟩ := id bxa
  have c1 := h3.c1
  go_wp2_with (go_at_call 11; refine (hp_owner h3.hp i0).mono ?_; rw [show ownT (askO [] [] 0 1) 0 = 1 by decide]; rintro e w4 ⟨rfl, rfl⟩)
  go_ret
  exact ⟨rfl, hB2⟩

end Go.Proofs.Ytgeiagndpfdnlaa
end
section
namespace Go.Proofs.Ytgeiagndpfdnlaa
open Go.RowKit Go.Maps
set_option linter.unusedVariables false
set_option maxRecDepth 20000

/-- The error that a request is answered with; 0: none. -/
def hErr (N : Nat) (K node : Int) (L : List Hr) (o : List (Int × Int)) (x : Pk) : Int := if ckE N node L x = 0 then (if x.k = 1 then 0 else ulE N K L o x) else ckE N node L x
section
variable {w wx wy : World} {g g1 g2 n N : Nat} {X Y : Nat → Prop} {K node : Int} {L : List Hr} {o : List (Int × Int)} {q : List Wr}
theorem ck_kind {x : Pk} (h : ckE N node L x = 0) : x.k = 1 ∨ x.k = 2 := by
  unfold ckE at h
  split at h
  · rename_i ht
    unfold tknP at ht
    rw [Bool.and_eq_true] at ht
    exact (of_decide_eq_true ht.2).2.2
  · cases h
theorem hh_err (h : PH w wx g g1 g2 X N K node L n o q) (x : Pk) (a : Option Addr) (m c : Nat) (hsl : Sl wx a m c x.z) (hl : In64 x.l) {E : Int} (he : hErr N K node L o x = E) (hE : E ≠ 0) :
    Calls Try.prog 10 #[.pointer (some ⟨g, 0, none⟩), x.val (.slice a m c)] wx fun e w' => e = .returned (.tuple #[zeroPk.val (.slice none 0 0), .bool false, .int .i64 E]) ∧ Keep (NX w X) wx w' ∧ PH w w' g g1 g2 X N K node L n o q := by
  subst he
  unfold hErr at hE ⊢
  by_cases hc : ckE N node L x = 0
  · rw [if_pos hc] at hE ⊢
    by_cases hk : x.k = 1
    · rw [if_pos hk] at hE; exact absurd rfl hE
    · rw [if_neg hk] at hE ⊢
      exact hh_uerr h x a m c hsl hl hc ((ck_kind hc).resolve_left hk) hE
  · rw [if_neg hc]
    refine (hh_bad h x a m c hsl hl hc).mono ?_
    rintro e w' ⟨rfl, hb⟩
    exact ⟨rfl, Keep.of_below hb, h.below hb⟩
end
theorem cell_new (w : World) (A : Array Value) (t : TypeId) (k : Nat) : (w.alloc (.cells A t)).cell? ⟨w.heap.size, k, none⟩ = A[k]? := by
  have h := heap_alloc_new w (.cells A t)
  have := cell_of_row (w.alloc (.cells A t)) w.heap.size k A t (0, 0) h
  exact this
end Go.Proofs.Ytgeiagndpfdnlaa
end
section
namespace Go.Proofs.Ytgeiagndpfdnlaa
open Go.RowKit Go.Maps
set_option linter.unusedVariables false
set_option maxRecDepth 20000

/-- The eight requests that are not taken, and their errors. -/
def ePk (N hd : Int) : Nat → Pk
  | 0 => zeroPk
  | 1 => ⟨3, 0, 0, 0, 0, 0, 0, false, []⟩
  | 2 => ⟨7, 0, 0, 0, 0, 0, 0, false, []⟩
  | 3 => ⟨1, 0, 1, 0, 0, 0, 0, false, []⟩
  | 4 => ⟨1, N, 0, 0, 0, 0, 0, false, []⟩
  | 5 => ⟨1, hd, 0, 0, 7, 0, 0, false, []⟩
  | 6 => ⟨2, hd, 0, 0, 0, 0, 1, false, []⟩
  | _ => ⟨1, 0, 0, -1, 0, 0, 0, false, []⟩
def eEr : Nat → Int
  | 5 => 3
  | 6 => 6
  | _ => 1
def eRow (N hd : Int) (j : Nat) : List Value := pcells (ePk N hd j) (.slice none 0 0) ++ [.int .i64 (eEr j)]
theorem eEr_ne (j : Nat) : eEr j ≠ 0 := by unfold eEr; split <;> decide
theorem ePk_z (N hd : Int) (j : Nat) : (ePk N hd j).z = [] := by unfold ePk; split <;> rfl
theorem ePk_l (N hd : Int) (j : Nat) : In64 (ePk N hd j).l := by unfold ePk In64; split <;> simp [zeroPk] <;> omega
theorem right_f {x : Pk} (h : ¬ x.Right) : x.right = false := by
  cases hr : x.right with
  | false => rfl
  | true => exact absurd ((Pk.right_iff x).1 hr) h
theorem hErr_taken {N : Nat} {K node : Int} {L : List Hr} {o : List (Int × Int)} {x : Pk} (h : tknP N node x = false) : hErr N K node L o x = 1 := by
  have e : ckE N node L x = 1 := by unfold ckE; rw [h]; rfl
  unfold hErr
  rw [e]
  rfl
theorem ePk_err {N : Nat} {K hd : Int} {L : List Hr} (hN : 1 ≤ N ∧ N ≤ 4) (hh : 0 ≤ hd ∧ hd < (N : Int)) (h0 : hasH L 0 = true) (h7 : hasH L 7 = false) : ∀ j, j < 8 → hErr N K 0 L [] (ePk N hd j) = eEr j := by
  intro j hj
  have h8 : j = 0 ∨ j = 1 ∨ j = 2 ∨ j = 3 ∨ j = 4 ∨ j = 5 ∨ j = 6 ∨ j = 7 := by omega
  have ho : ownT [] 0 = -1 := rfl
  rcases h8 with rfl | rfl | rfl | rfl | rfl | rfl | rfl | rfl
  · refine hErr_taken ?_
    unfold tknP
    rw [show (ePk N hd 0).right = false from rfl]
    rfl
  · refine hErr_taken ?_
    unfold tknP
    rw [decide_eq_false (by simp [ePk]), Bool.and_false]
  · refine hErr_taken ?_
    unfold tknP
    rw [decide_eq_false (by simp [ePk]), Bool.and_false]
  · refine hErr_taken ?_
    unfold tknP
    rw [decide_eq_false (by simp [ePk]), Bool.and_false]
  · refine hErr_taken ?_
    unfold tknP
    rw [decide_eq_false (by simp [ePk]), Bool.and_false]
  · have ht : tknP N 0 (ePk N hd 5) = true := by
      unfold tknP
      rw [(Pk.right_iff _).2 ⟨by simp [ePk], by simp [ePk]; omega, by simp [ePk], by simp [ePk], by simp [ePk], by simp [ePk], by simp [ePk], by simp [ePk]⟩, decide_eq_true (by simp [ePk]; omega)]
      rfl
    have e : ckE N 0 L (ePk N hd 5) = 3 := by unfold ckE; rw [if_pos ht, show (ePk N hd 5).l = 7 from rfl, h7]; rfl
    unfold hErr
    rw [e]
    rfl
  · have ht : tknP N 0 (ePk N hd 6) = true := by
      unfold tknP
      rw [(Pk.right_iff _).2 ⟨by simp [ePk], by simp [ePk]; omega, by simp [ePk], by simp [ePk], by simp [ePk], by simp [ePk], by simp [ePk], by simp [ePk]⟩, decide_eq_true (by simp [ePk]; omega)]
      rfl
    have e : ckE N 0 L (ePk N hd 6) = 0 := by unfold ckE; rw [if_pos ht, show (ePk N hd 6).l = 0 from rfl, h0]; rfl
    unfold hErr
    rw [if_pos e, if_neg (by simp [ePk])]
    unfold ulE
    rw [show (ePk N hd 6).l = 0 from rfl, ho, if_neg (by simp [ePk]; omega)]
    rfl
  · refine hErr_taken ?_
    unfold tknP
    rw [right_f (fun h => by have := h.i.1; simp [ePk] at this), Bool.false_and]
theorem ckE_0 {N : Nat} {L : List Hr} {x : Pk} (hr : x.Right) (h1 : x.t = 0) (h2 : x.f < (N : Int)) (h3 : x.k = 1 ∨ x.k = 2) (hh : hasH L x.l = true) : ckE N 0 L x = 0 := by
  unfold ckE tknP
  rw [(Pk.right_iff _).2 hr, decide_eq_true ⟨h1, h2, h3⟩, hh]
  rfl
theorem herr_u1 {N : Nat} {K hd : Int} {L : List Hr} (hN : 1 ≤ N ∧ N ≤ 4) (hh : 0 ≤ hd ∧ hd < (N : Int)) (h0 : hasH L 0 = true) : hErr N K 0 L [(0, hd)] ⟨2, hd, 0, 0, 0, hd, 0, false, []⟩ = 1 := by
  have e : ckE N 0 L ⟨2, hd, 0, 0, 0, hd, 0, false, []⟩ = 0 := ckE_0 ⟨by simp, by simp; omega, by simp, by simp, by simp, by simp; omega, by simp, by simp⟩ rfl hh.2 (.inr rfl) h0
  have ho : ownT [(0, hd)] 0 = hd := rfl
  unfold hErr
  rw [if_pos e, if_neg (by simp)]
  unfold ulE
  rw [if_pos ho]
  unfold setR
  rw [if_pos h0, if_neg]
  unfold setOk
  have h1 : (hd == -1) = false := by simp; omega
  simp [h1]
theorem herr_u2 {N : Nat} {K hd : Int} {L : List Hr} (hN : 1 ≤ N ∧ N ≤ 4) (hh : 0 ≤ hd ∧ hd < (N : Int)) (h0 : hasH L 0 = true) : ckE N 0 L ⟨2, hd, 0, 0, 0, -1, 0, false, []⟩ = 0 ∧ ownT [(0, hd)] 0 = hd ∧ (setR N K L 0 0 (-1) []).1 = 0 ∧ relO [(0, hd)] 0 = [] := by
  refine ⟨ckE_0 ⟨by simp, by simp; omega, by simp, by simp, by simp, by simp, by simp, by simp⟩ rfl hh.2 (.inr rfl) h0, rfl, ?_, rfl⟩
  unfold setR
  rw [if_pos h0, if_pos]
  unfold setOk
  simp
  omega
set_option maxHeartbeats 2000000 in
theorem homeErrors_walk (w : World) (v : Value) (hv : IsSetup w v) (x : Int) :
    Calls Try.prog 3 #[v, .int .i64 x] w fun e w' => e = .returned (.bool true) ∧ Below w.heap.size w w' := by
  obtain ⟨n, l, k, s, y, o, i, a0, n0, q0, z0, a1, n1, q1, z1, a2, n2, q2, z2, a3, n3, q3, z3, a4, n4, q4, z4, rfl, h0, h1, h2, h3, h4⟩ := hv
  clear h1 h2 h3 h4
  unfold setup
  go_enter Try.func3, Try.ntmps3
  go_upto_region 2 with (go_at_call 7; refine (config_c _ _ _ _ _ _ _ _ _ _ _ _ _ _ z0 _ (h0.below (by exact ba (Below.refl _ _)))).mono ?_; rintro e w1 ⟨N, L, K, S, Y, O, I, zi, av, nv, cv, rfl, hcf, hnv, hown, hb1⟩; unfold cfg)
  have hB := ba (o := .cells #[.int .i64 (N : Int), .int .i64 (L : Int), .int .i64 (K : Int), .int .i64 (S : Int), .int .i64 (Y : Int), .int .i64 (O : Int), .int .i64 (I : Int), .slice av nv cv] 26) (next (ba (Below.refl _ _)) hb1)
  have hcb := CB.made w1 N L K S Y O I (.slice av nv cv)
  have hsl := (own_sl hown).below (ba (o := .cells #[.int .i64 (N : Int), .int .i64 (L : Int), .int .i64 (K : Int), .int .i64 (S : Int), .int .i64 (Y : Int), .int .i64 (O : Int), .int .i64 (I : Int), .slice av nv cv] 26) (Below.refl _ _))
  generalize w1.alloc (.cells #[.int .i64 (N : Int), .int .i64 (L : Int), .int .i64 (K : Int), .int .i64 (S : Int), .int .i64 (Y : Int), .int .i64 (O : Int), .int .i64 (I : Int), .slice av nv cv] 26) = W at *
  generalize w1.heap.size = gc at *
  have hbd := hcf.bd
  obtain ⟨N0, N1, L0, L1, K0, K1, S0, S1, Y0, Y1, O0, O1, I0, I1⟩ := hcf.bd
  obtain ⟨p0, p2, p3⟩ := mul_bd L0 L1 K0 K1
  have hnk : nv ≤ L * K := by have := hcf.len; have := hnv.out; omega
  have hnew := hnew_any (w := w) (X := fun j => j = gc) N L K S Y O I av nv cv zi 0 hB (fun j hj => hj ▸ hcb.lt) hsl N0 (by omega) (by omega) K0 (by omega) (by omega) (chk_true hbd hnk)
  have HH : Hid (hasH (rows0 zi N L K 0 L) 0 = true) := hasH_some (rows0_in (by omega) (by omega) (by unfold remI; simp))
  have HNL : Hid (hasH (rows0 zi N L K 0 L) 7 = false) := hasH_none (rows0_no (.inr (.inl (by omega))))
  clear hcf hown hb1 h0 hsl p0 p2 p3 S0 S1 Y0 Y1 O0 O1 I0 I1 hnv hnk hbd
  unfold cfg at hnew
  generalize rows0 zi N L K 0 L = R0 at *
  obtain ⟨c0, c1, c2, c3, c4, c5, c6, c7, clt⟩ := hcb
  go_upto_region 5 with (go_at_call 8; refine hnew.mono ?_; rintro e w2 ⟨g, g1, g2, rfl, b2, h1⟩; replace hB := next hB b2; replace c0 := (b2.cell (p := ⟨gc, 0, none⟩) clt).trans c0; replace clt := Nat.lt_of_lt_of_le clt b2.size)
  clear hnew c1 c2 c3 c4 c5 c6 c7 b2
  clear W w1
  have hmw : 0 ≤ x % (N : Int) ∧ x % (N : Int) < (N : Int) := ⟨Int.emod_nonneg _ (by omega), Int.emod_lt_of_pos _ (by omega)⟩
  obtain ⟨hd, hhd⟩ : ∃ hd, x % (N : Int) = hd := ⟨_, rfl⟩
  have HHD : Hid (x % (N : Int) = hd) := hhd
  rw [hhd] at hmw
  clear hhd
  go_upto_region 6 with (go_at_call 9; refine (within_any _ _ _ (by omega) (by omega)).mono ?_; rintro e wx ⟨rfl, rfl⟩; rw [HHD.out])
  have hws : w.heap.size ≤ w2.heap.size := hB.size
  go_wp2_with fail
  generalize hW : World.alloc w2 _ = V0 at *
  have hc : Hid (∀ j, j < 8 → ∀ k, k < 10 → V0.cell? ⟨w2.heap.size, j * 10 + k, none⟩ = (eRow N hd j)[k]?) := by
    intro j hj k hk
    rw [← hW, cell_new]
    have h8 : j = 0 ∨ j = 1 ∨ j = 2 ∨ j = 3 ∨ j = 4 ∨ j = 5 ∨ j = 6 ∨ j = 7 := by omega
    have h10 : k = 0 ∨ k = 1 ∨ k = 2 ∨ k = 3 ∨ k = 4 ∨ k = 5 ∨ k = 6 ∨ k = 7 ∨ k = 8 ∨ k = 9 := by omega
    rcases h8 with rfl | rfl | rfl | rfl | rfl | rfl | rfl | rfl <;> rcases h10 with rfl | rfl | rfl | rfl | rfl | rfl | rfl | rfl | rfl | rfl <;> rfl
  have bV : Below w2.heap.size w2 V0 := by rw [← hW]; exact ba (Below.refl _ _)
  have hgd : w2.heap.size < V0.heap.size := by rw [← hW]; simp
  clear hW
  have h2 := h1.step (F := fun _ => False) (Y := fun j => j = gc ∨ j = w2.heap.size) (Keep.of_below bV) (fun _ h => h.elim) (fun j hj => by
    rcases hj with rfl | rfl
    · exact ⟨.inl rfl, by omega⟩
    · exact ⟨.inr (Nat.le_refl _), hgd⟩)
  replace hB := next hB bV
  replace c0 := (bV.cell (p := ⟨gc, 0, none⟩) clt).trans c0
  have HWS : Hid (w.heap.size ≤ w2.heap.size) := hws
  have HGD : Hid (gc < V0.heap.size ∧ w2.heap.size < V0.heap.size) := ⟨by omega, hgd⟩
  have HER : Hid (∀ j, j < 8 → hErr N K 0 R0 [] (ePk N hd j) = eEr j) := ePk_err ⟨N0, N1⟩ hmw HH.out HNL.out
  clear h1 bV hgd hws clt
  generalize w2.heap.size = gd at *
  clear w2
  go_loopw [53] (fun vj wx => ∃ j : Nat, vj = .int .i64 (j : Int) ∧ j ≤ 8 ∧ PH w wx g g1 g2 (fun j => j = gc ∨ j = gd) N K 0 R0 0 [] [] ∧ Keep (NX w (fun j => j = gc ∨ j = gd)) V0 wx) (fun vj _ => 8 - (intOf vj).toNat)
  case atStart => exact ⟨0, rfl, by omega, h2, Keep.refl _ _⟩
  case round =>
    obtain ⟨j, rfl, hj, hx, hk⟩ := hrel
    by_cases hlt8 : j < 8
    · have hcell : ∀ k, k < 10 → _ := fun k hkk => (hk.cell (b := gd) (j * 10 + k) HGD.out.2 (fun hf => hf.2 (.inr rfl))).trans (hc.out j hlt8 k hkk)
      have her := HER.out j hlt8
      have hne := eEr_ne j
      have hz := ePk_z N hd j
      have hl := ePk_l N hd j
      unfold eRow at hcell
      generalize ePk N hd j = xp at *
      generalize eEr j = E at *
      obtain ⟨q0, q1, q2, q3, q4, q5, q6, q7, q8, q9⟩ : _ ∧ _ ∧ _ ∧ _ ∧ _ ∧ _ ∧ _ ∧ _ ∧ _ ∧ _ := ⟨hcell 0 (by omega), hcell 1 (by omega), hcell 2 (by omega), hcell 3 (by omega), hcell 4 (by omega), hcell 5 (by omega), hcell 6 (by omega), hcell 7 (by omega), hcell 8 (by omega), hcell 9 (by omega)⟩
      simp only [pcells, List.cons_append, List.nil_append, List.getElem?_cons_zero, List.getElem?_cons_succ, Nat.add_zero] at q0 q1 q2 q3 q4 q5 q6 q7 q8 q9
      have HE : Hid (hErr N K 0 R0 [] xp = E ∧ E ≠ 0 ∧ xp.z = [] ∧ In64 xp.l) := ⟨her, hne, hz, hl⟩
      clear hcell her hne hz hl
      go_upto_region 9 with fail
      generalize hW : World.alloc wr _ = W at *
      have y0 : W.cell? ⟨wr.heap.size, 0, none⟩ = some (.int .i64 xp.k) := by rw [← hW]; simp
      have y1 : W.cell? ⟨wr.heap.size, 1, none⟩ = some (.int .i64 xp.f) := by rw [← hW]; simp
      have y2 : W.cell? ⟨wr.heap.size, 2, none⟩ = some (.int .i64 xp.t) := by rw [← hW]; simp
      have y3 : W.cell? ⟨wr.heap.size, 3, none⟩ = some (.int .i64 xp.i) := by rw [← hW]; simp
      have y4 : W.cell? ⟨wr.heap.size, 4, none⟩ = some (.int .i64 xp.l) := by rw [← hW]; simp
      have y5 : W.cell? ⟨wr.heap.size, 5, none⟩ = some (.int .i64 xp.p) := by rw [← hW]; simp
      have y6 : W.cell? ⟨wr.heap.size, 6, none⟩ = some (.int .i64 xp.s) := by rw [← hW]; simp
      have y7 : W.cell? ⟨wr.heap.size, 7, none⟩ = some (.bool xp.fl) := by rw [← hW]; simp
      have y8 : W.cell? ⟨wr.heap.size, 8, none⟩ = some (.slice none 0 0) := by rw [← hW]; simp
      have y9 : W.cell? ⟨wr.heap.size, 9, none⟩ = some (.int .i64 E) := by rw [← hW]; simp
      have bW : Below wr.heap.size wr W := by rw [← hW]; exact ba (Below.refl _ _)
      have gW : wr.heap.size < W.heap.size := by rw [← hW]; simp
      have h3 := hx.own bW
      have hk3 := hk.trans (Keep.of_below (F := fun _ => False) bW) (fun _ _ h => h.elim)
      have HGW : Hid (gd < wr.heap.size ∧ V0.heap.size ≤ wr.heap.size ∧ wr.heap.size < W.heap.size) := ⟨Nat.lt_of_lt_of_le HGD.out.2 hk.size, hk.size, gW⟩
      have HXW : Hid ((wr.heap.size = gc ∨ wr.heap.size = gd) ∨ (wr.heap.size ≤ wr.heap.size ∧ wr.heap.size < W.heap.size)) := .inr ⟨Nat.le_refl _, gW⟩
      clear hW q0 q1 q2 q3 q4 q5 q6 q7 q8 q9 hx hk bW
      have HXX : Hid (∀ j, (j = gc ∨ j = gd) → ((j = gc ∨ j = gd) ∨ (wr.heap.size ≤ j ∧ j < W.heap.size))) := fun j hj => .inl hj
      generalize wr.heap.size = gx at *
      obtain ⟨zw, ezw⟩ : ∃ zw, W.heap.size = zw := ⟨_, rfl⟩
      have EZ : Hid (W.heap.size = zw) := ezw
      rw [ezw] at h3 HGW HXW HXX gW
      clear ezw
      have hgx : gx < W.heap.size := by have := EZ.out; omega
      go_upto_region 10 with (go_at_call 10; refine (hh_err h3 xp none 0 0 (by rw [HE.out.2.2.1]; exact sl_nil _) HE.out.2.2.2 HE.out.1 HE.out.2.1).mono ?_; rintro e W2 ⟨rfl, hk4, h4⟩)
      have z9 := (hk4.cell (b := gx) 9 hgx (fun hf => hf.2 HXW.out)).trans y9
      have hgx2 := Nat.lt_of_lt_of_le hgx hk4.size
      have hk5 := hk3.trans (hk4.mono (G := NX w (fun j => j = gc ∨ j = gd)) (fun j _ hj => nx_less HXX.out hj)) (fun j _ h => h)
      have h5 := h4.off HXX.out
      clear h3 hk3 h4 hk4 y0 y1 y2 y3 y4 y5 y6 y7 y8 y9 HXX HXW HGW EZ gW hgx
      have b5 : Below W2.heap.size W2 (W2.alloc (.cells #[.int .i64 zeroPk.k, .int .i64 zeroPk.f, .int .i64 zeroPk.t, .int .i64 zeroPk.i, .int .i64 zeroPk.l, .int .i64 zeroPk.p, .int .i64 zeroPk.s, .bool zeroPk.fl, .slice none 0 0] 32)) := ba (Below.refl _ _)
      replace z9 := (b5.cell (p := ⟨gx, 9, none⟩) hgx2).trans z9
      replace h5 := h5.below b5
      replace hk5 := hk5.trans (Keep.of_below (F := fun _ => False) b5) (fun _ _ h => h.elim)
      clear b5 hgx2
      clear W
      generalize World.alloc W2 _ = W3 at *
      go_wp2_with fail
      go_roundw
      case rel => exact ⟨j + 1, by go_num, by omega, h5, hk5⟩
      case measure => simp [intOf]; omega
    · obtain rfl : j = 8 := by omega
      have i0 : In64 0 := by unfold In64; omega
      have HTK : Hid (ckE N 0 R0 ⟨1, hd, 0, 0, 0, 0, 0, false, []⟩ = 0) := by
        show _ = _
        unfold ckE tknP
        rw [(Pk.right_iff _).2 ⟨by simp, by simp; omega, by simp, by simp, by simp, by simp, by simp, by simp⟩, decide_eq_true ⟨rfl, by simp; omega, .inl rfl⟩, HH.out]
        rfl
      have hbx := hx.bel
      clear h2 hB hk hc HER c0
      have c1 := hx.c1
      go_upto_region 15 with (first
        | (go_at_call 11; refine (hp_owner hx.hp i0).mono ?_; rw [show ownT [] 0 = -1 from rfl]; rintro e V1 ⟨rfl, rfl⟩)
        | (go_at_call 12; refine (hp_waiting hx.hp i0).mono ?_; rw [show (waitT [] 0).length = 0 from rfl]; rintro e V1 ⟨rfl, rfl⟩)
        | (go_at_call 13; refine (hpend_any hx (by omega) false rfl).mono ?_; rintro e V2 ⟨rfl, b6⟩))
      have h6 := hx.below b6
      have HH1 : Hid (askB [] [] 0 = true) := rfl
      clear hx b6 c1 hbx
      have heo : Hid (askO [] [] 0 hd = [(0, hd)]) := rfl
      have heq : Hid (askQ [] [] 0 hd 0 = []) := rfl
      have HU1 : Hid (hErr N K 0 R0 [(0, hd)] ⟨2, hd, 0, 0, 0, hd, 0, false, []⟩ = 1) := herr_u1 ⟨N0, N1⟩ hmw HH.out
      have HU2 : Hid (ckE N 0 R0 ⟨2, hd, 0, 0, 0, -1, 0, false, []⟩ = 0 ∧ ownT [(0, hd)] 0 = hd ∧ (setR N K R0 0 0 (-1) []).1 = 0 ∧ relO [(0, hd)] 0 = []) := herr_u2 ⟨N0, N1⟩ hmw HH.out
      obtain ⟨P, hP⟩ : ∃ P, grantR 0 hd 0 0 R0 = P := ⟨_, rfl⟩
      have HP : Hid (grantR 0 hd 0 0 R0 = P) := hP
      clear hP
      go_upto_region 18 with (go_at_call 10; refine (hh_grant h6 ⟨1, hd, 0, 0, 0, 0, 0, false, []⟩ none 0 0 (sl_nil _) i0 HTK.out rfl HH1.out (by omega)).mono ?_; rw [HP.out, heo.out, heq.out]; rintro e W3 ⟨dd, rfl, hdd, hk6, h7⟩; obtain ⟨a5, n5, c5, ed, _⟩ := id hdd; subst ed; clear hdd)
      have h8 := h7.below (ba (o := .cells #[.int .i64 P.k, .int .i64 P.f, .int .i64 P.t, .int .i64 P.i, .int .i64 P.l, .int .i64 P.p, .int .i64 P.s, .bool P.fl, .slice a5 n5 c5] 32) (Below.refl _ _))
      clear h6 h7 hk6 HTK HH1 heo heq
      generalize World.alloc W3 _ = W4 at *
      go_upto_region 19 with (go_at_call 10; refine (hh_err h8 ⟨2, hd, 0, 0, 0, hd, 0, false, []⟩ none 0 0 (sl_nil _) i0 HU1.out (by omega)).mono ?_; rintro e W5 ⟨rfl, hk8, h9⟩)
      have h10 := h9.below (ba (o := .cells #[.int .i64 zeroPk.k, .int .i64 zeroPk.f, .int .i64 zeroPk.t, .int .i64 zeroPk.i, .int .i64 zeroPk.l, .int .i64 zeroPk.p, .int .i64 zeroPk.s, .bool zeroPk.fl, .slice none 0 0] 32) (Below.refl _ _))
      clear h8 h9 hk8 HU1
      generalize World.alloc W5 _ = W6 at *
      have c1 := h10.c1
      go_upto_region 21 with (go_at_call 11; refine (hp_owner h10.hp i0).mono ?_; rw [HU2.out.2.1]; rintro e V1 ⟨rfl, rfl⟩)
      clear c1
      go_upto_region 22 with (go_at_call 10; refine (hh_uok h10 ⟨2, hd, 0, 0, 0, -1, 0, false, []⟩ none 0 0 (sl_nil _) i0 HU2.out.1 rfl HU2.out.2.1 HU2.out.2.2.1).mono ?_; rw [HU2.out.2.2.2]; rintro e W7 ⟨rfl, hk10, h11⟩)
      have h12 := h11.below (ba (o := .cells #[.int .i64 8, .int .i64 0, .int .i64 hd, .int .i64 0, .int .i64 0, .int .i64 0, .int .i64 0, .bool false, .slice none 0 0] 32) (Below.refl _ _))
      clear h10 h11 hk10 HU2
      generalize World.alloc W7 _ = W8 at *
      have c1 := h12.c1
      have hbel := h12.bel
      go_wp2_with (first
        | (go_at_call 11; refine (hp_owner h12.hp i0).mono ?_; rw [show ownT [] 0 = -1 from rfl]; rintro e V1 ⟨rfl, rfl⟩)
        | (go_at_call 14; refine (hwakes_any _).mono ?_; rintro e V9 ⟨rfl, b9⟩))
      go_ret
      exact ⟨rfl, next hbel b9⟩
end Go.Proofs.Ytgeiagndpfdnlaa
end
