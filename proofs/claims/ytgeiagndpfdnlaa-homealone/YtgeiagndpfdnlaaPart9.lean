/- The program's home: Handle of an Unlock. Conditions: as each theorem states them.
The program's home: Pending, Grant, New. Conditions: as each theorem states them.
The program's home: New, and the example that each of chapter 11's laws looks at. Conditions: as each theorem states them.
The program's home: a request that is not taken, or not done. Conditions: as each theorem states them.
What a home's one line is, step by step (mathematics of HomeAlone and HomeLines); rows that are set. Conditions: as each theorem states them.
The walk of HomeAlone. Conditions: as the theorem states them. -/
import Derived.Test.YtgeiagndpfdnlaaPart8
import Derived.Test.YtgeiagndpfdnlaaPart2
import Derived.Test.YtgeiagndpfdnlaaPart1
section
namespace Go.Proofs.Ytgeiagndpfdnlaa
open Go.RowKit Go.Maps
set_option linter.unusedVariables false
set_option maxRecDepth 20000

/-- What an Unlock is answered. -/
def ulE (N K : Int) (L : List Hr) (o : List (Int × Int)) (x : Pk) : Int := if ownT o x.l = x.f then (setR N K L x.l x.s x.p (unlD x)).1 else 6
section
variable {w wx wy : World} {g g1 g2 n N : Nat} {X Y : Nat → Prop} {K node : Int} {L : List Hr} {o : List (Int × Int)} {q : List Wr}
theorem hunlock_bad (h : PH w wx g g1 g2 X N K node L n o q) (x : Pk) (a : Option Addr) (m c : Nat) (hsl : Sl wx a m c x.z) (hl : In64 x.l) (hf : 0 ≤ x.f) (hz : x.z.length ≤ 1000) (he : ulE N K L o x ≠ 0) :
    Calls Try.prog 30 #[.pointer (some ⟨g, 0, none⟩), x.val (.slice a m c)] wx fun e w' => e = .returned (.int .i64 (ulE N K L o x)) ∧ Keep (NX w X) wx w' ∧ PH w w' g g1 g2 X N K node L n o q := by
  unfold ulE at he ⊢
  by_cases ho : ownT o x.l = x.f
  · rw [if_pos ho] at he ⊢
    exact hunlock_err h x a m c hsl hl ho hf hz he
  · rw [if_neg ho]
    refine (hunlock_state h x a m c hsl hl ho).mono ?_
    rintro e w' ⟨rfl, hb⟩
    exact ⟨rfl, Keep.of_below hb, h.below hb⟩
set_option maxHeartbeats 1600000 in
theorem hh_uerr (h : PH w wx g g1 g2 X N K node L n o q) (x : Pk) (a : Option Addr) (m c : Nat) (hsl : Sl wx a m c x.z) (hl : In64 x.l) (he : ckE N node L x = 0) (hk : x.k = 2) (hu : ulE N K L o x ≠ 0) :
    Calls Try.prog 10 #[.pointer (some ⟨g, 0, none⟩), x.val (.slice a m c)] wx fun e w' => e = .returned (.tuple #[zeroPk.val (.slice none 0 0), .bool false, .int .i64 (ulE N K L o x)]) ∧ Keep (NX w X) wx w' ∧ PH w w' g g1 g2 X N K node L n o q := by
  have hkb : (x.k == 1) = false := by simp [hk]
  have HU : Hid (ulE N K L o x ≠ 0) := hu
  obtain ⟨E, hE⟩ : ∃ E, ulE N K L o x = E := ⟨_, rfl⟩
  have HE : Hid (ulE N K L o x = E) := hE
  rw [hE] at hu
  have hub : (E != 0) = true := by simp [hu]
  clear hk hu hE
  have HL : Hid (In64 x.l) := hl
  have HC : Hid (ckE N node L x = 0) := he
  have HF : Hid (0 ≤ x.l ∧ 0 ≤ x.f ∧ x.z.length ≤ 1000) := ck_facts he
  clear he hl
  unfold Pk.val
  go_enter Try.func10, Try.ntmps10
  go_upto_region 1 with fail
  have hB : Below wx.heap.size wx ((wx.alloc (.cells #[.int .i64 x.k, .int .i64 x.f, .int .i64 x.t, .int .i64 x.i, .int .i64 x.l, .int .i64 x.p, .int .i64 x.s, .bool x.fl, .slice a m c] 32)).alloc (.cells #[.int .i64 0, .int .i64 0, .int .i64 0, .int .i64 0, .int .i64 0, .int .i64 0, .int .i64 0, .bool false, .slice none 0 0] 32)) := ba (ba (Below.refl _ _))
  have bxp : Bx ((wx.alloc (.cells #[.int .i64 x.k, .int .i64 x.f, .int .i64 x.t, .int .i64 x.i, .int .i64 x.l, .int .i64 x.p, .int .i64 x.s, .bool x.fl, .slice a m c] 32)).alloc (.cells #[.int .i64 0, .int .i64 0, .int .i64 0, .int .i64 0, .int .i64 0, .int .i64 0, .int .i64 0, .bool false, .slice none 0 0] 32)) wx.heap.size x (.slice a m c) := (Bx.made wx x (.slice a m c)).next (ba (Below.refl _ _))
  have bxr : Bx ((wx.alloc (.cells #[.int .i64 x.k, .int .i64 x.f, .int .i64 x.t, .int .i64 x.i, .int .i64 x.l, .int .i64 x.p, .int .i64 x.s, .bool x.fl, .slice a m c] 32)).alloc (.cells #[.int .i64 0, .int .i64 0, .int .i64 0, .int .i64 0, .int .i64 0, .int .i64 0, .int .i64 0, .bool false, .slice none 0 0] 32)) (wx.heap.size + 1) zeroPk (.slice none 0 0) := Bx.made' (wx.alloc (.cells #[.int .i64 x.k, .int .i64 x.f, .int .i64 x.t, .int .i64 x.i, .int .i64 x.l, .int .i64 x.p, .int .i64 x.s, .bool x.fl, .slice a m c] 32)) zeroPk (.slice none 0 0) _ (by simp)
  have h1 := h.own hB
  have hs1 := hsl.below hB
  have HX : Hid (∀ j, X j → j < wx.heap.size) := h.xl
  have HWS : Hid (w.heap.size ≤ wx.heap.size) := h.bel.size
  clear h hsl
  generalize World.alloc _ (.cells #[.int .i64 0, .int .i64 0, .int .i64 0, .int .i64 0, .int .i64 0, .int .i64 0, .int .i64 0, .bool false, .slice none 0 0] 32) = W at *
  have HSZ : Hid (wx.heap.size + 1 < W.heap.size) := bxr.lt
  have HXW : Hid (∀ j, wx.heap.size ≤ j → j < W.heap.size → (X j ∨ wx.heap.size ≤ j ∧ j < W.heap.size)) := fun j h1 h2 => .inr ⟨h1, h2⟩
  obtain ⟨zw, ezw⟩ : ∃ zw, W.heap.size = zw := ⟨_, rfl⟩
  have EZW : Hid (W.heap.size = zw) := ezw
  rw [ezw] at HSZ HXW h1
  clear ezw
  obtain ⟨q0, q1, q2, q3, q4, q5, q6, q7, q8, qf, ql⟩ := id bxp
  go_upto_region 2 with (go_at_call 28; refine (hcheck_any h1 x a m c hs1 HL.out).mono ?_; rw [HC.out]; rintro e V ⟨rfl, b1⟩)
  have h2 := h1.below b1
  have hs2 := hs1.below b1
  have bp2 := bxp.next b1
  have br2 := bxr.next b1
  have hB2 := next hB b1
  clear q0 q1 q2 q3 q4 q5 q6 q7 q8 qf ql bxp bxr h1 hs1 hB b1 EZW
  clear W
  obtain ⟨q0, q1, q2, q3, q4, q5, q6, q7, q8, qf, ql⟩ := id bp2
  go_upto_region 8 with (go_at_call 30; refine (hunlock_bad h2 x a m c hs2 HL.out HF.out.2.1 HF.out.2.2 HU.out).mono ?_; rw [HE.out]; rintro e V2 ⟨rfl, hk2, h3⟩)
  have br3 := br2.keep hk2 (fun hf => hf.2 (HXW.out _ (by omega) HSZ.out))
  have hK := Keep.pre hB2 (hk2.mono (G := NX w X) (fun j _ hj => nx_less (fun j hx => .inl hx) hj))
  clear hk2 br2 bp2 h2 hB2 hs2 q0 q1 q2 q3 q4 q5 q6 q7 q8 qf ql
  obtain ⟨r0, r1, r2, r3, r4, r5, r6, r7, r8, rf, rl⟩ := id br3
  have f0 := rf 0
  go_wp2_with fail
  have hkk : Keep (fun k => k = wx.heap.size + 1) V2 _ := far9 (g := wx.heap.size + 1) (y := zeroPk) (v := .slice none 0 0) (W := V2) (P := fun V => Keep (fun k => k = wx.heap.size + 1) V2 V) (fun V o u h => h.setCell (.inl rfl) u) (Keep.refl _ _)
  refine bodyPost_ret (v := .tuple #[Pk.val zeroPk (.slice none 0 0), .bool false, .int .i64 E]) (by simp [results, Try.results10, go_sem, *, zeroPk]) rfl ⟨by rw [HE.out], hK.trans hkk (fun j hj e => by omega), h3.step hkk (fun j hj => ?_) (fun j hj => ⟨.inl (.inl hj), ?_⟩)⟩
  · subst hj
    have h1 := HWS.out
    exact ⟨by omega, .inl (HXW.out _ (by omega) HSZ.out)⟩
  · exact Nat.lt_of_lt_of_le (h3.xl j (.inl hj)) hkk.size
set_option maxHeartbeats 1600000 in
theorem hh_uok (h : PH w wx g g1 g2 X N K node L n o q) (x : Pk) (a : Option Addr) (m c : Nat) (hsl : Sl wx a m c x.z) (hl : In64 x.l) (he : ckE N node L x = 0) (hk : x.k = 2) (ho : ownT o x.l = x.f) (hu : (setR N K L x.l x.s x.p (unlD x)).1 = 0) :
    Calls Try.prog 10 #[.pointer (some ⟨g, 0, none⟩), x.val (.slice a m c)] wx fun e w' => e = .returned (.tuple #[(⟨8, node, x.f, x.i, x.l, 0, 0, false, []⟩ : Pk).val (.slice none 0 0), .bool true, .int .i64 0]) ∧ Keep (NX w X) wx w' ∧ PH w w' g g1 g2 X N K node (setR N K L x.l x.s x.p (unlD x)).2 n (relO o x.l) q := by
  have hkb : (x.k == 1) = false := by simp [hk]
  have HU : Hid (ownT o x.l = x.f ∧ (setR N K L x.l x.s x.p (unlD x)).1 = 0) := ⟨ho, hu⟩
  clear hk hu ho
  have HL : Hid (In64 x.l) := hl
  have HC : Hid (ckE N node L x = 0) := he
  have HF : Hid (0 ≤ x.l ∧ 0 ≤ x.f ∧ x.z.length ≤ 1000) := ck_facts he
  clear he hl
  unfold Pk.val
  go_enter Try.func10, Try.ntmps10
  go_upto_region 1 with fail
  have hB : Below wx.heap.size wx ((wx.alloc (.cells #[.int .i64 x.k, .int .i64 x.f, .int .i64 x.t, .int .i64 x.i, .int .i64 x.l, .int .i64 x.p, .int .i64 x.s, .bool x.fl, .slice a m c] 32)).alloc (.cells #[.int .i64 0, .int .i64 0, .int .i64 0, .int .i64 0, .int .i64 0, .int .i64 0, .int .i64 0, .bool false, .slice none 0 0] 32)) := ba (ba (Below.refl _ _))
  have bxp : Bx ((wx.alloc (.cells #[.int .i64 x.k, .int .i64 x.f, .int .i64 x.t, .int .i64 x.i, .int .i64 x.l, .int .i64 x.p, .int .i64 x.s, .bool x.fl, .slice a m c] 32)).alloc (.cells #[.int .i64 0, .int .i64 0, .int .i64 0, .int .i64 0, .int .i64 0, .int .i64 0, .int .i64 0, .bool false, .slice none 0 0] 32)) wx.heap.size x (.slice a m c) := (Bx.made wx x (.slice a m c)).next (ba (Below.refl _ _))
  have bxr : Bx ((wx.alloc (.cells #[.int .i64 x.k, .int .i64 x.f, .int .i64 x.t, .int .i64 x.i, .int .i64 x.l, .int .i64 x.p, .int .i64 x.s, .bool x.fl, .slice a m c] 32)).alloc (.cells #[.int .i64 0, .int .i64 0, .int .i64 0, .int .i64 0, .int .i64 0, .int .i64 0, .int .i64 0, .bool false, .slice none 0 0] 32)) (wx.heap.size + 1) zeroPk (.slice none 0 0) := Bx.made' (wx.alloc (.cells #[.int .i64 x.k, .int .i64 x.f, .int .i64 x.t, .int .i64 x.i, .int .i64 x.l, .int .i64 x.p, .int .i64 x.s, .bool x.fl, .slice a m c] 32)) zeroPk (.slice none 0 0) _ (by simp)
  have h1 := h.own hB
  have hs1 := hsl.below hB
  have HX : Hid (∀ j, X j → j < wx.heap.size) := h.xl
  have HWS : Hid (w.heap.size ≤ wx.heap.size) := h.bel.size
  clear h hsl
  generalize World.alloc _ (.cells #[.int .i64 0, .int .i64 0, .int .i64 0, .int .i64 0, .int .i64 0, .int .i64 0, .int .i64 0, .bool false, .slice none 0 0] 32) = W at *
  have HSZ : Hid (wx.heap.size + 1 < W.heap.size) := bxr.lt
  have HXW : Hid (∀ j, wx.heap.size ≤ j → j < W.heap.size → (X j ∨ wx.heap.size ≤ j ∧ j < W.heap.size)) := fun j h1 h2 => .inr ⟨h1, h2⟩
  obtain ⟨zw, ezw⟩ : ∃ zw, W.heap.size = zw := ⟨_, rfl⟩
  have EZW : Hid (W.heap.size = zw) := ezw
  rw [ezw] at HSZ HXW h1
  clear ezw
  obtain ⟨q0, q1, q2, q3, q4, q5, q6, q7, q8, qf, ql⟩ := id bxp
  go_upto_region 2 with (go_at_call 28; refine (hcheck_any h1 x a m c hs1 HL.out).mono ?_; rw [HC.out]; rintro e V ⟨rfl, b1⟩)
  have h2 := h1.below b1
  have hs2 := hs1.below b1
  have bp2 := bxp.next b1
  have br2 := bxr.next b1
  have hB2 := next hB b1
  clear q0 q1 q2 q3 q4 q5 q6 q7 q8 qf ql bxp bxr h1 hs1 hB b1 EZW
  clear W
  obtain ⟨q0, q1, q2, q3, q4, q5, q6, q7, q8, qf, ql⟩ := id bp2
  go_upto_region 8 with (go_at_call 30; refine (hunlock_ok h2 x a m c hs2 HL.out HU.out.1 HF.out.2.1 HF.out.2.2 HU.out.2).mono ?_; rintro e V2 ⟨rfl, hk2, h3⟩)
  have br3 := br2.keep hk2 (fun hf => hf.2 (HXW.out _ (by omega) HSZ.out))
  have bp3 := bp2.keep hk2 (fun hf => hf.2 (HXW.out _ (Nat.le_refl _) (by have := HSZ.out; omega)))
  have hK := Keep.pre hB2 (hk2.mono (G := NX w X) (fun j _ hj => nx_less (fun j hx => .inl hx) hj))
  clear hk2 br2 bp2 h2 hB2 hs2 q0 q1 q2 q3 q4 q5 q6 q7 q8 qf ql
  obtain ⟨q0, q1, q2, q3, q4, q5, q6, q7, q8, qf, ql⟩ := id bp3
  obtain ⟨P, hP⟩ : ∃ P : Pk, ⟨8, node, x.f, x.i, x.l, 0, 0, false, []⟩ = P := ⟨_, rfl⟩
  go_wp2_with (go_at_call 31; refine (hans_any h3 2 x.l x.f x.i).mono ?_; rw [show ansI 2 = 8 from rfl, hP]; rintro e V5 ⟨rfl, b5⟩; obtain ⟨r0, r1, r2, r3, r4, r5, r6, r7, r8, rf, rl⟩ := br3.next b5; have f0 := rf 0)
  have hkk : Keep (fun k => k = wx.heap.size + 1) V5 _ := far9 (g := wx.heap.size + 1) (y := P) (v := .slice none 0 0) (W := V5) (P := fun V => Keep (fun k => k = wx.heap.size + 1) V5 V) (fun V o u h => h.setCell (.inl rfl) u) (Keep.refl _ _)
  refine bodyPost_ret (v := .tuple #[Pk.val P (.slice none 0 0), .bool true, .int .i64 0]) (by simp [results, Try.results10, go_sem, *]) rfl ⟨by rw [← hP], (hK.trans (Keep.of_below (F := fun _ => False) b5) (fun j _ h => h.elim)).trans hkk (fun j hj e => by omega), (h3.below b5).step hkk (fun j hj => ?_) (fun j hj => ⟨.inl (.inl hj), ?_⟩)⟩
  · subst hj
    have h1 := HWS.out
    exact ⟨by omega, .inl (HXW.out _ (by omega) HSZ.out)⟩
  · exact Nat.lt_of_lt_of_le (Nat.lt_of_lt_of_le (h3.xl j (.inl hj)) b5.size) hkk.size
end
end Go.Proofs.Ytgeiagndpfdnlaa
end
section
namespace Go.Proofs.Ytgeiagndpfdnlaa
open Go.RowKit Go.Maps
set_option linter.unusedVariables false
set_option maxRecDepth 20000

section
variable {w wx wy : World} {g g1 g2 n N : Nat} {X Y : Nat → Prop} {K node : Int} {L : List Hr} {o : List (Int × Int)} {q : List Wr}
theorem hp_rdy (h : PH w wx g g1 g2 X N K node L n o q) (hn : n ≤ 1000) : Calls Try.prog 32 #[.pointer (some ⟨g2, 0, none⟩)] wx fun e w' => ∃ a c, e = .returned (.slice a (readyT o q).length c) ∧ Sl w' a (readyT o q).length c (readyT o q) ∧ Below wx.heap.size wx w' := by
  refine (hp_ready h.hp hn).mono ?_
  rintro e w' ⟨v, rfl, own, b⟩
  obtain ⟨a, c, rfl, hs⟩ := own.sl
  exact ⟨a, c, rfl, hs, b⟩
set_option maxHeartbeats 800000 in
theorem hpend_any (h : PH w wx g g1 g2 X N K node L n o q) (hn : n ≤ 1000) (b : Bool) (hb : decide (0 < (readyT o q).length) = b) :
    Calls Try.prog 13 #[.pointer (some ⟨g, 0, none⟩)] wx fun e w' => e = .returned (.bool b) ∧ Below wx.heap.size wx w' := by
  have c1 := h.c1
  obtain ⟨k, hk⟩ : ∃ k, (readyT o q).length = k := ⟨_, rfl⟩
  have HK : Hid ((readyT o q).length = k) := hk
  rw [hk] at hb
  clear hk
  go_enter Try.func13, Try.ntmps13
  go_wp2_with (go_at_call 32; refine (hp_rdy h hn).mono ?_; rw [HK.out]; rintro e V ⟨a, c, rfl, sl, b1⟩)
  go_ret
  exact ⟨rfl, b1⟩
set_option maxHeartbeats 800000 in
theorem hgr_no (h : PH w wx g g1 g2 X N K node L n o q) (hn : n ≤ 1000) (hr : readyT o q = []) :
    Calls Try.prog 16 #[.pointer (some ⟨g, 0, none⟩)] wx fun e w' => e = .returned (.tuple #[zeroPk.val (.slice none 0 0), .bool false]) ∧ Below wx.heap.size wx w' := by
  have HK : Hid ((readyT o q).length = 0) := by show _ = _; rw [hr]; rfl
  clear hr
  go_enter Try.func16, Try.ntmps16
  go_upto_region 1 with fail
  have hB : Below wx.heap.size wx (wx.alloc (.cells #[.int .i64 0, .int .i64 0, .int .i64 0, .int .i64 0, .int .i64 0, .int .i64 0, .int .i64 0, .bool false, .slice none 0 0] 32)) := ba (Below.refl _ _)
  have bxr : Bx (wx.alloc (.cells #[.int .i64 0, .int .i64 0, .int .i64 0, .int .i64 0, .int .i64 0, .int .i64 0, .int .i64 0, .bool false, .slice none 0 0] 32)) wx.heap.size zeroPk (.slice none 0 0) := Bx.made wx zeroPk (.slice none 0 0)
  have h1 := h.below hB
  clear h
  generalize World.alloc _ (.cells #[.int .i64 0, .int .i64 0, .int .i64 0, .int .i64 0, .int .i64 0, .int .i64 0, .int .i64 0, .bool false, .slice none 0 0] 32) = W at *
  have c1 := h1.c1
  go_wp2_with (go_at_call 32; refine (hp_rdy h1 hn).mono ?_; rw [HK.out]; rintro e V ⟨a, c, rfl, sl, b1⟩; obtain ⟨r0, r1, r2, r3, r4, r5, r6, r7, r8, rf, rl⟩ := bxr.next b1; have f0 := rf 0)
  refine bodyPost_ret (v := .tuple #[Pk.val zeroPk (.slice none 0 0), .bool false]) (by simp [results, Try.results16, go_sem, *, zeroPk]) rfl ⟨rfl, far9 (g := wx.heap.size) (y := zeroPk) (v := .slice none 0 0) (W := V) (P := fun V => Below wx.heap.size wx V) (fun V o u h => h.setCell (by simp) u) (next hB b1)⟩
set_option maxHeartbeats 1600000 in
theorem hgr_ok (h : PH w wx g g1 g2 X N K node L n o q) (hn : n ≤ 1000) {l v d : Int} {rest : List Int} (hr : readyT o q = l :: rest) (hl : In64 l) (h1 : ownT o l = -1) (h0 : 0 ≤ v) (hk : nextW q l = some ⟨l, v, d⟩) :
    Calls Try.prog 16 #[.pointer (some ⟨g, 0, none⟩)] wx fun e w' => ∃ dd, e = .returned (.tuple #[(grantR node v d l L).val dd, .bool true]) ∧ DatZ w' (fun k => wx.heap.size ≤ k) (grantR node v d l L).z dd ∧ Keep (NX w X) wx w' ∧ PH w w' g g1 g2 X N K node L (n + 1) (o ++ [(l, v)]) (nextQ q l) := by
  have HR : Hid (readyT o q = l :: rest) := hr
  have HH : Hid (In64 l ∧ ownT o l = -1 ∧ 0 ≤ v ∧ nextW q l = some ⟨l, v, d⟩) := ⟨hl, h1, h0, hk⟩
  clear hr hl h1 h0 hk
  go_enter Try.func16, Try.ntmps16
  go_upto_region 1 with fail
  have hB : Below wx.heap.size wx (wx.alloc (.cells #[.int .i64 0, .int .i64 0, .int .i64 0, .int .i64 0, .int .i64 0, .int .i64 0, .int .i64 0, .bool false, .slice none 0 0] 32)) := ba (Below.refl _ _)
  have bxr : Bx (wx.alloc (.cells #[.int .i64 0, .int .i64 0, .int .i64 0, .int .i64 0, .int .i64 0, .int .i64 0, .int .i64 0, .bool false, .slice none 0 0] 32)) wx.heap.size zeroPk (.slice none 0 0) := Bx.made wx zeroPk (.slice none 0 0)
  have h1 := h.own hB
  have HWS : Hid (w.heap.size ≤ wx.heap.size) := h.bel.size
  clear h
  generalize World.alloc _ (.cells #[.int .i64 0, .int .i64 0, .int .i64 0, .int .i64 0, .int .i64 0, .int .i64 0, .int .i64 0, .bool false, .slice none 0 0] 32) = W at *
  have c1 := h1.c1
  have HSZ : Hid (wx.heap.size < W.heap.size) := bxr.lt
  have HXW : Hid (∀ j, wx.heap.size ≤ j → j < W.heap.size → (X j ∨ wx.heap.size ≤ j ∧ j < W.heap.size)) := fun j h1 h2 => .inr ⟨h1, h2⟩
  go_upto_region 4 with (go_at_call 32; refine (hp_rdy h1 hn).mono ?_; rw [HR.out]; rintro e V ⟨a, c, rfl, sl, b1⟩; obtain ⟨b0, o0, ea, hb0, hc0⟩ := sl.at (k := 0) (by simp); subst ea)
  have hc1 : V.cell? ⟨b0, o0, none⟩ = some (.int .i64 l) := hc0
  have h2 := h1.below b1
  have br2 := bxr.next b1
  have hB2 := next hB b1
  clear hc0 sl h1 c1 bxr hB b1 hb0
  have c1 := h2.c1
  obtain ⟨P, hP⟩ : ∃ P, grantR node v d l L = P := ⟨_, rfl⟩
  go_upto_region 6 with (go_at_call 34; refine (hp_next h2.hp HH.out.1 HH.out.2.1 HH.out.2.2.1 HH.out.2.2.2 hn).mono ?_; rintro e V2 ⟨rfl, hk2, p2⟩)
  obtain ⟨hk3, h3⟩ := h2.call hk2 p2
  have br3 := br2.keep hk2 (fun hf => hf.2 (.inl (HXW.out _ (Nat.le_refl _) HSZ.out)))
  have hK := Keep.pre hB2 (hk3.mono (G := NX w X) (fun j _ hj => nx_less (fun j hx => .inl hx) hj))
  clear hk2 hk3 p2 h2 br2 hB2 c1 hc1
  go_wp2_with (go_at_call 35; refine (hgranted_any h3 HH.out.1 v d).mono ?_; rw [hP]; rintro e V5 ⟨dd, rfl, hd5, b5⟩; obtain ⟨a5, n5, c5, ed, _⟩ := id hd5; subst ed; have br6 := br3.next b5; obtain ⟨r0, r1, r2, r3, r4, r5, r6, r7, r8, rf, rl⟩ := id br6; have f0 := rf 0)
  have hz2 := br3.lt
  have hkk : Keep (fun k => k = wx.heap.size) V5 _ := far9 (g := wx.heap.size) (y := P) (v := .slice a5 n5 c5) (W := V5) (P := fun V => Keep (fun k => k = wx.heap.size) V5 V) (fun V o u h => h.setCell (.inl rfl) u) (Keep.refl _ _)
  refine bodyPost_ret (v := .tuple #[Pk.val P (.slice a5 n5 c5), .bool true]) (by simp [results, Try.results16, go_sem, *]) rfl ⟨_, by rw [hP], by rw [hP]; exact (hd5.keep hkk (fun j hj e => by omega)).imp (fun j _ hj => by omega), (hK.trans (Keep.of_below (F := fun _ => False) b5) (fun j _ h => h.elim)).trans hkk (fun j hj e => by omega), (h3.below b5).step hkk (fun j hj => ?_) (fun j hj => ⟨.inl (.inl hj), ?_⟩)⟩
  · subst hj
    exact ⟨HWS.out, .inl (HXW.out _ (Nat.le_refl _) HSZ.out)⟩
  · exact Nat.lt_of_lt_of_le (Nat.lt_of_lt_of_le (h3.xl j (.inl hj)) b5.size) hkk.size
end
end Go.Proofs.Ytgeiagndpfdnlaa
end
section
namespace Go.Proofs.Ytgeiagndpfdnlaa
open Go.RowKit Go.Maps
set_option linter.unusedVariables false
set_option maxRecDepth 20000

section
variable {w wx wy : World} {X : Nat → Prop}
set_option maxHeartbeats 1600000 in
theorem hnew_any (N M K S Y O I : Nat) (a : Option Addr) (nv cv : Nat) (zi : List Int) (node : Int) (hb : Below w.heap.size w wx) (hX : ∀ j, X j → j < wx.heap.size) (hsl : Sl wx a nv cv zi) (hN0 : 1 ≤ N) (hN : N ≤ 6) (hL : M ≤ 8) (hK0 : 1 ≤ K) (hK : K ≤ 4) (hlen : nv ≤ 32) (hc : chk N M K S Y O I nv = true) :
    Calls Try.prog 8 #[cfg N M K S Y O I (.slice a nv cv), .int .i64 node] wx fun e w' => ∃ g g1 g2, e = .returned (.pointer (some ⟨g, 0, none⟩)) ∧ Below wx.heap.size wx w' ∧ PH w w' g g1 g2 X N K node (rows0 zi N M K node M) 0 [] [] := by
  have HE : Hid (errI (chk N M K S Y O I nv) = 0) := by show _ = _; rw [hc]; rfl
  have HH : Hid (1 ≤ N ∧ N ≤ 6 ∧ M ≤ 8 ∧ 1 ≤ K ∧ K ≤ 4 ∧ nv ≤ 32) := ⟨hN0, hN, hL, hK0, hK, hlen⟩
  have HX : Hid (∀ j, X j → j < wx.heap.size) := hX
  clear hc hN0 hN hL hK0 hK hlen hX
  unfold cfg
  go_enter Try.func8, Try.ntmps8
  go_upto_region 1 with fail
  have hB : Below wx.heap.size wx (wx.alloc (.cells #[.int .i64 (N : Int), .int .i64 (M : Int), .int .i64 (K : Int), .int .i64 (S : Int), .int .i64 (Y : Int), .int .i64 (O : Int), .int .i64 (I : Int), .slice a nv cv] 26)) := ba (Below.refl _ _)
  have hcb := CB.made wx N M K S Y O I (.slice a nv cv)
  have hs1 := hsl.below hB
  generalize wx.alloc (.cells #[.int .i64 (N : Int), .int .i64 (M : Int), .int .i64 (K : Int), .int .i64 (S : Int), .int .i64 (Y : Int), .int .i64 (O : Int), .int .i64 (I : Int), .slice a nv cv] 26) = W at *
  obtain ⟨c0, c1, c2, c3, c4, c5, c6, c7, clt⟩ := id hcb
  go_upto_region 3 with (go_at_call 25; refine (check_any N M K S Y O I a nv cv W).mono ?_; rw [HE.out]; rintro e V ⟨rfl, b1⟩)
  have hs2 := hs1.below b1
  have hcb2 := hcb.below b1
  have hB2 := next hB b1
  clear c0 c1 c2 c3 c4 c5 c6 c7 clt hcb hs1 hB b1
  refine wp_region_orders 10 rfl (by kernel_rfl) ?_
  have Bd : Below V.heap.size V V.drew := (Below.refl _ _).drew
  have hs3 := hs2.below Bd
  have hcb3 := hcb2.below Bd
  have hB3 := next hB2 Bd
  clear hs2 hcb2 hB2 Bd
  generalize V.drew = Vd at *
  clear V
  obtain ⟨c0, c1, c2, c3, c4, c5, c6, c7, clt⟩ := id hcb3
  have HIB : Hid (∀ V', Below Vd.heap.size Vd V' → (fun V => V.cell? ⟨wx.heap.size, 0, none⟩ = some (.int .i64 (N : Int)) ∧ V.cell? ⟨wx.heap.size, 1, none⟩ = some (.int .i64 (M : Int)) ∧ V.cell? ⟨wx.heap.size, 2, none⟩ = some (.int .i64 (K : Int)) ∧ V.cell? ⟨wx.heap.size, 3, none⟩ = some (.int .i64 (S : Int)) ∧ V.cell? ⟨wx.heap.size, 4, none⟩ = some (.int .i64 (Y : Int)) ∧ V.cell? ⟨wx.heap.size, 5, none⟩ = some (.int .i64 (O : Int)) ∧ V.cell? ⟨wx.heap.size, 6, none⟩ = some (.int .i64 (I : Int)) ∧ V.cell? ⟨wx.heap.size, 7, none⟩ = some (.slice a nv cv)) V') := fun V' b => ⟨(b.cell (p := ⟨wx.heap.size, 0, none⟩) clt).trans c0, (b.cell (p := ⟨wx.heap.size, 1, none⟩) clt).trans c1, (b.cell (p := ⟨wx.heap.size, 2, none⟩) clt).trans c2, (b.cell (p := ⟨wx.heap.size, 3, none⟩) clt).trans c3, (b.cell (p := ⟨wx.heap.size, 4, none⟩) clt).trans c4, (b.cell (p := ⟨wx.heap.size, 5, none⟩) clt).trans c5, (b.cell (p := ⟨wx.heap.size, 6, none⟩) clt).trans c6, (b.cell (p := ⟨wx.heap.size, 7, none⟩) clt).trans c7⟩
  have hI : (fun V => V.cell? ⟨wx.heap.size, 0, none⟩ = some (.int .i64 (N : Int)) ∧ V.cell? ⟨wx.heap.size, 1, none⟩ = some (.int .i64 (M : Int)) ∧ V.cell? ⟨wx.heap.size, 2, none⟩ = some (.int .i64 (K : Int)) ∧ V.cell? ⟨wx.heap.size, 3, none⟩ = some (.int .i64 (S : Int)) ∧ V.cell? ⟨wx.heap.size, 4, none⟩ = some (.int .i64 (Y : Int)) ∧ V.cell? ⟨wx.heap.size, 5, none⟩ = some (.int .i64 (O : Int)) ∧ V.cell? ⟨wx.heap.size, 6, none⟩ = some (.int .i64 (I : Int)) ∧ V.cell? ⟨wx.heap.size, 7, none⟩ = some (.slice a nv cv)) Vd := HIB.out _ (Below.refl _ _)
  have hXV : ∀ j, X j → j < Vd.heap.size := fun j hj => Nat.lt_of_lt_of_le (HX.out j hj) hB3.size
  have hWV := next hb hB3
  have hmk := mo_new (w := w) (X := fun j => j < Vd.heap.size) N M K S Y O I a nv cv zi node hWV (fun j hj => hj) hs3 HH.out.1 HH.out.2.1 HH.out.2.2.1 HH.out.2.2.2.1 HH.out.2.2.2.2.1 HH.out.2.2.2.2.2
  unfold cfg at hmk
  clear c0 c1 c2 c3 c4 c5 c6 c7 hcb3 hs3 hsl
  refine any_inv (fun V => V.cell? ⟨wx.heap.size, 0, none⟩ = some (.int .i64 (N : Int)) ∧ V.cell? ⟨wx.heap.size, 1, none⟩ = some (.int .i64 (M : Int)) ∧ V.cell? ⟨wx.heap.size, 2, none⟩ = some (.int .i64 (K : Int)) ∧ V.cell? ⟨wx.heap.size, 3, none⟩ = some (.int .i64 (S : Int)) ∧ V.cell? ⟨wx.heap.size, 4, none⟩ = some (.int .i64 (Y : Int)) ∧ V.cell? ⟨wx.heap.size, 5, none⟩ = some (.int .i64 (O : Int)) ∧ V.cell? ⟨wx.heap.size, 6, none⟩ = some (.int .i64 (I : Int)) ∧ V.cell? ⟨wx.heap.size, 7, none⟩ = some (.slice a nv cv)) [] hI ?_
  refine inv_take (v := ?v1) [] 0 hI rfl (by kernel_rfl) (by kernel_rfl) (by kernel_rfl) (by kernel_rfl) (by kernel_rfl) (fun _ _ _ h => h) (by kernel_rfl) (fun V hV => ?hy1) ?go1
  case hy1 => (obtain ⟨i0, i1, i2, i3, i4, i5, i6, i7⟩ := hV; go_simp <;> rfl)
  simp only [Act.put, List.setIfInBounds_toArray, List.set_cons_zero, List.set_cons_succ]
  refine inv_take (v := ?v2) [] 1 hI rfl (by kernel_rfl) (by kernel_rfl) (by kernel_rfl) (by kernel_rfl) (by kernel_rfl) (fun _ _ _ h => h) (by kernel_rfl) (fun V hV => ?hy2) ?go2
  case hy2 => (obtain ⟨i0, i1, i2, i3, i4, i5, i6, i7⟩ := hV; go_simp <;> rfl)
  simp only [Act.put, List.setIfInBounds_toArray, List.set_cons_zero, List.set_cons_succ]
  refine inv_take (v := ?v3) [] 4 hI rfl (by kernel_rfl) (by kernel_rfl) (by kernel_rfl) (by kernel_rfl) (by kernel_rfl) (fun _ _ _ h => h) (by kernel_rfl) (fun V hV => ?hy3) ?go3
  case hy3 => (obtain ⟨i0, i1, i2, i3, i4, i5, i6, i7⟩ := hV; go_simp <;> rfl)
  simp only [Act.put, List.setIfInBounds_toArray, List.set_cons_zero, List.set_cons_succ]
  refine inv_take (v := ?v4) [] 5 hI rfl (by kernel_rfl) (by kernel_rfl) (by kernel_rfl) (by kernel_rfl) (by kernel_rfl) (fun _ _ _ h => h) (by kernel_rfl) (fun V hV => ?hy4) ?go4
  case hy4 => (obtain ⟨i0, i1, i2, i3, i4, i5, i6, i7⟩ := hV; go_simp <;> rfl)
  simp only [Act.put, List.setIfInBounds_toArray, List.set_cons_zero, List.set_cons_succ]
  refine inv_take (v := ?v5) [] 6 hI rfl (by kernel_rfl) (by kernel_rfl) (by kernel_rfl) (by kernel_rfl) (by kernel_rfl) (fun _ _ _ h => h) (by kernel_rfl) (fun V hV => ?hy5) ?go5
  case hy5 => (obtain ⟨i0, i1, i2, i3, i4, i5, i6, i7⟩ := hV; go_simp <;> rfl)
  simp only [Act.put, List.setIfInBounds_toArray, List.set_cons_zero, List.set_cons_succ]
  refine inv_list 2 (by kernel_rfl) rfl ?_
  go_wp2_with (go_at_call 26; refine hmk.mono ?_; rintro e V1 ⟨g1, rfl, b1, m1⟩)
  refine then_n ⟨HIB.out _ b1, ?_⟩
  try simp only [Act.put, List.setIfInBounds_toArray, List.set_cons_zero, List.set_cons_succ]
  refine inv_list 3 (by kernel_rfl) rfl ?_
  go_wp2_with (go_at_call 27; refine (to_new (X := fun j => j < V1.heap.size) (next hWV b1) (fun j hj => hj)).mono ?_; rintro e V2 ⟨g2, rfl, b2, t1⟩)
  have b3 := next b1 b2
  refine then_n ⟨HIB.out _ b3, ?_⟩
  try simp only [Act.put, List.setIfInBounds_toArray, List.set_cons_zero, List.set_cons_succ]
  refine inv_take (v := ?v6) [] 7 (HIB.out _ b3) rfl (by kernel_rfl) (by kernel_rfl) (by kernel_rfl) (by kernel_rfl) (by kernel_rfl) (fun _ _ _ h => h) (by kernel_rfl) (fun V hV => ?hy6) ?go6
  case hy6 => (obtain ⟨i0, i1, i2, i3, i4, i5, i6, i7⟩ := hV; go_simp <;> rfl)
  simp only [Act.put, List.setIfInBounds_toArray, List.set_cons_zero, List.set_cons_succ]
  refine inv_list 8 (by kernel_rfl) rfl ?_
  go_wp2_with fail
  refine then_n ⟨HIB.out _ (ba b3), ?_⟩
  try simp only [Act.put, List.setIfInBounds_toArray, List.set_cons_zero, List.set_cons_succ]
  refine inv_list 9 (by kernel_rfl) rfl ?_
  go_wp2_with fail
  refine then_n ⟨HIB.out _ (ba b3), ?_⟩
  try simp only [Act.put, List.setIfInBounds_toArray, List.set_cons_zero, List.set_cons_succ]
  refine inv_done (by kernel_rfl) ?_
  go_wp2_with fail
  go_ret
  have hws := hWV.size
  have hv1 := b1.size
  have hv2 := b2.size
  have hmake : HP w V2 g1 g2 X N K (rows0 zi N M K node M) 0 [] [] := hp_make (a0 := Vd.heap.size) (b0 := V1.heap.size) hws (by omega) (fun j hj => ⟨hXV j hj, by have := hXV j hj; omega⟩) m1 t1 (.inl (Nat.le_refl _)) b2 (Below.refl _ _)
  have b4 : Below V2.heap.size V2 (V2.alloc (.cells #[.pointer (some ⟨g1, 0, none⟩), .pointer (some ⟨g2, 0, none⟩), .int .i64 node, .int .i64 (N : Int)] 42)) := ba (Below.refl _ _)
  have hz4 : V2.heap.size < (V2.alloc (.cells #[.pointer (some ⟨g1, 0, none⟩), .pointer (some ⟨g2, 0, none⟩), .int .i64 node, .int .i64 (N : Int)] 42)).heap.size := by simp
  have hkk := HH.out
  refine ⟨V2.heap.size, g1, g2, rfl, ba (next hB3 b3), ?_⟩
  refine ⟨hmake.step (F := fun _ => False) (Keep.of_below b4) (fun _ h => h.elim) (fun j hj => ?_), by simp, by simp, by simp, by simp, by simp, ⟨by omega, fun hx => by have := hXV _ hx; omega⟩, by omega⟩
  rcases hj with hj | rfl
  · exact ⟨.inl hj, by have := hXV j hj; omega⟩
  · exact ⟨.inr (Nat.le_refl _), hz4⟩
end
theorem wkRows : rows0 [] 2 1 1 0 1 = [⟨0, 0, -1, [0]⟩] := by simp [rows0, remI, wordsI, List.range_succ]
theorem wkNew (w : World) : Calls Try.prog 8 #[.agg #[.int .i64 2, .int .i64 1, .int .i64 1, .int .i64 1, .int .i64 1, .int .i64 1, .int .i64 1, .slice none 0 0], .int .i64 0] w fun e w' => ∃ g g1 g2, e = .returned (.pointer (some ⟨g, 0, none⟩)) ∧ Below w.heap.size w w' ∧ PH w w' g g1 g2 (fun _ => False) 2 1 0 [⟨0, 0, -1, [0]⟩] 0 [] [] := by
  have := hnew_any (w := w) (X := fun _ => False) 2 1 1 1 1 1 1 none 0 0 [] 0 (Below.refl _ _) (fun _ h => h.elim) (sl_nil _) (by omega) (by omega) (by omega) (by omega) (by omega) (by omega) (by decide)
  rw [wkRows] at this
  exact this
theorem wkCk : ckE 2 0 [⟨0, 0, -1, [0]⟩] ⟨1, 1, 0, 7, 0, 0, 0, false, []⟩ = 0 := by decide
theorem wkGr : grantR 0 1 7 0 [⟨0, 0, -1, [0]⟩] = ⟨7, 0, 1, 7, 0, -1, 0, false, [0]⟩ := by simp [grantR, rowL, getK]
theorem wkAsk : askB [] [] 0 = true := by decide
set_option maxHeartbeats 1000000 in
theorem hwakes_any (w : World) : Calls Try.prog 14 #[] w fun e w' => e = .returned (.bool true) ∧ Below w.heap.size w w' := by
  have i0 : In64 0 := by unfold In64; omega
  go_enter Try.func14, Try.ntmps14
  go_upto_region 5 with (first
    | (have mk := h1; clear mk; go_at_call 10; refine (hh_grant h1 ⟨1, 1, 0, 7, 0, 0, 0, false, []⟩ none 0 0 (sl_nil _) i0 wkCk rfl wkAsk (by omega)).mono ?_; rw [wkGr]; rintro e w2 ⟨dd, rfl, hd, hk2, h2⟩; obtain ⟨a5, n5, c5, ed, _⟩ := id hd; subst ed)
    | (go_at_call 8; refine (wkNew w).mono ?_; rintro e w1 ⟨g, g1, g2, rfl, b1, h1⟩))
  have hB1 : Below w.heap.size w w2 := b1.trans (hk2.below (fun j hj => hj.1) b1.size)
  have b3 : Below w2.heap.size w2 (w2.alloc (.cells #[.int .i64 7, .int .i64 0, .int .i64 1, .int .i64 7, .int .i64 0, .int .i64 (-1), .int .i64 0, .bool false, .slice a5 n5 c5] 32)) := ba (Below.refl _ _)
  have bxa : Bx (w2.alloc (.cells #[.int .i64 7, .int .i64 0, .int .i64 1, .int .i64 7, .int .i64 0, .int .i64 (-1), .int .i64 0, .bool false, .slice a5 n5 c5] 32)) w2.heap.size ⟨7, 0, 1, 7, 0, -1, 0, false, [0]⟩ (.slice a5 n5 c5) := Bx.made w2 ⟨7, 0, 1, 7, 0, -1, 0, false, [0]⟩ (.slice a5 n5 c5)
  have h3 := h2.below b3
  have hB2 := next hB1 b3
  clear h1 h2 hk2 b1 hd hB1 b3
  generalize w2.alloc _ = w3 at *
  generalize w2.heap.size = ga at *
  obtain ⟨y0, y1, y2, y3, y4, y5, y6, y7, y8, yf, yl⟩ := id bxa
  have c1 := h3.c1
  go_wp2_with (go_at_call 11; refine (hp_owner h3.hp i0).mono ?_; rw [show ownT (askO [] [] 0 1) 0 = 1 by decide]; rintro e w4 ⟨rfl, rfl⟩)
  go_ret
  exact ⟨rfl, hB2⟩

end Go.Proofs.Ytgeiagndpfdnlaa
end
section
namespace Go.Proofs.Ytgeiagndpfdnlaa
open Go.RowKit Go.Maps
set_option linter.unusedVariables false
set_option maxRecDepth 20000

/-- The error that a request is answered with; 0: none. -/
def hErr (N : Nat) (K node : Int) (L : List Hr) (o : List (Int × Int)) (x : Pk) : Int := if ckE N node L x = 0 then (if x.k = 1 then 0 else ulE N K L o x) else ckE N node L x
section
variable {w wx wy : World} {g g1 g2 n N : Nat} {X Y : Nat → Prop} {K node : Int} {L : List Hr} {o : List (Int × Int)} {q : List Wr}
theorem ck_kind {x : Pk} (h : ckE N node L x = 0) : x.k = 1 ∨ x.k = 2 := by
  unfold ckE at h
  split at h
  · rename_i ht
    unfold tknP at ht
    rw [Bool.and_eq_true] at ht
    exact (of_decide_eq_true ht.2).2.2
  · cases h
theorem hh_err (h : PH w wx g g1 g2 X N K node L n o q) (x : Pk) (a : Option Addr) (m c : Nat) (hsl : Sl wx a m c x.z) (hl : In64 x.l) {E : Int} (he : hErr N K node L o x = E) (hE : E ≠ 0) :
    Calls Try.prog 10 #[.pointer (some ⟨g, 0, none⟩), x.val (.slice a m c)] wx fun e w' => e = .returned (.tuple #[zeroPk.val (.slice none 0 0), .bool false, .int .i64 E]) ∧ Keep (NX w X) wx w' ∧ PH w w' g g1 g2 X N K node L n o q := by
  subst he
  unfold hErr at hE ⊢
  by_cases hc : ckE N node L x = 0
  · rw [if_pos hc] at hE ⊢
    by_cases hk : x.k = 1
    · rw [if_pos hk] at hE; exact absurd rfl hE
    · rw [if_neg hk] at hE ⊢
      exact hh_uerr h x a m c hsl hl hc ((ck_kind hc).resolve_left hk) hE
  · rw [if_neg hc]
    refine (hh_bad h x a m c hsl hl hc).mono ?_
    rintro e w' ⟨rfl, hb⟩
    exact ⟨rfl, Keep.of_below hb, h.below hb⟩
end
theorem cell_new (w : World) (A : Array Value) (t : TypeId) (k : Nat) : (w.alloc (.cells A t)).cell? ⟨w.heap.size, k, none⟩ = A[k]? := by
  have h := heap_alloc_new w (.cells A t)
  have := cell_of_row (w.alloc (.cells A t)) w.heap.size k A t (0, 0) h
  exact this
end Go.Proofs.Ytgeiagndpfdnlaa
end
section
namespace Go.Proofs.Ytgeiagndpfdnlaa
open Go.RowKit Go.Maps
set_option linter.unusedVariables false
set_option maxRecDepth 20000

theorem ckE_at {N : Nat} {node : Int} {L : List Hr} {x : Pk} (hr : x.Right) (h1 : x.t = node) (h2 : x.f < (N : Int)) (h3 : x.k = 1 ∨ x.k = 2) (hh : hasH L x.l = true) : ckE N node L x = 0 := by
  unfold ckE tknP
  rw [(Pk.right_iff _).2 hr, decide_eq_true ⟨h1, h2, h3⟩, hh]
  rfl
section
variable {w wx : World} {g g1 g2 n N : Nat} {X : Nat → Prop} {K node : Int} {L : List Hr} {o : List (Int × Int)} {q : List Wr}
theorem PH.rise (h : PH w wx g g1 g2 X N K node L n o q) : RiseK hOf L := by
  obtain ⟨⟨B1, B2, m, t, h1⟩, ok⟩ := h.hp
  exact m.rise
theorem PH.okT (h : PH w wx g g1 g2 X N K node L n o q) : OkT o := h.hp.2
theorem PH.k1 (h : PH w wx g g1 g2 X N K node L n o q) : 1 ≤ K := by
  obtain ⟨⟨B1, B2, m, t, h1⟩, ok⟩ := h.hp
  exact m.k1
end
/-- A row that is set, with all its words. -/
theorem setR_full {N K l s hd : Int} {L : List Hr} {z : List Int} (hR : RiseK hOf L) (hh : hasH L l = true) (hz : z ≠ []) (ho : setOk N K s hd z.length = true) :
    (setR N K L l s hd z).1 = 0 ∧ rowL (setR N K L l s hd z).2 l = ⟨l, s, hd, z⟩ ∧ ∀ k, hasH (setR N K L l s hd z).2 k = hasH L k := by
  have e : setR N K L l s hd z = (0, putK hOf ⟨l, s, hd, z⟩ L) := by unfold setR; rw [if_pos hh, if_pos ho, if_neg hz]
  rw [e]
  have hg := putH_get hR ⟨l, s, hd, z⟩
  refine ⟨rfl, by unfold rowL; rw [hg]; rfl, fun k => ?_⟩
  unfold hasH
  by_cases hk : k = l
  · subst hk
    rw [hg]
    unfold hasH at hh
    rw [hh]
    rfl
  · have he : ∀ r, getK hOf k (putK hOf (⟨l, s, hd, z⟩ : Hr) L) = some r ↔ getK hOf k L = some r := fun r => by
      constructor
      · intro h
        obtain ⟨m1, m2⟩ := getK_some h
        rcases mem_putK.1 m1 with rfl | ⟨m1, _⟩
        · exact absurd m2.symm hk
        · rw [← m2]; exact getK_mem (key := hOf) hR m1
      · intro h
        obtain ⟨m1, m2⟩ := getK_some h
        rw [← m2]
        exact getK_mem (key := hOf) (rise_put hR) (mem_putK.2 (.inr ⟨m1, fun e => hk (m2.symm.trans e)⟩))
    cases h1 : getK hOf k (putK hOf (⟨l, s, hd, z⟩ : Hr) L) with
    | some r => rw [(he r).1 h1]
    | none =>
      cases h2 : getK hOf k L with
      | none => rfl
      | some r => rw [(he r).2 h2] at h1; cases h1
theorem setOk_true {N K s hd : Int} {n : Nat} (hs : 1 ≤ s ∧ s ≤ 2) (hh : 0 ≤ hd ∧ hd < N) (hn : (n : Int) = K) : setOk N K s hd n = true := by
  have h1 : (s == 0) = false := by simp; omega
  have h2 : (hd == -1) = false := by simp; omega
  unfold setOk
  rw [h1, h2, decide_eq_true (by omega), decide_eq_true (by omega), decide_eq_true (.inr hn)]
  rfl
section
variable {ow nx d : Int}
theorem one_own : ownT [(0, ow)] 0 = ow := rfl
theorem one_askB (h : ow ≠ -1) : askB [(0, ow)] [] 0 = false := decide_eq_false (fun e => h e.1)
theorem one_askO (h : ow ≠ -1) : askO [(0, ow)] [] 0 nx = [(0, ow)] := by unfold askO; rw [one_askB h, if_neg (by simp)]
theorem one_askQ (h : ow ≠ -1) : askQ [(0, ow)] [] 0 nx d = [⟨0, nx, d⟩] := by unfold askQ; rw [one_askB h, if_neg (by simp)]; rfl
theorem one_rdy0 (h : ow ≠ -1) : readyT [(0, ow)] [⟨0, nx, d⟩] = [] := by
  show rdyF [(0, ow)] [] ⟨0, nx, d⟩ = []
  unfold rdyF
  exact if_neg (show ¬ ow = -1 from h)
theorem one_rdy1 : readyT [] [⟨0, nx, d⟩] = [0] := rfl
theorem one_rel : relO [(0, ow)] 0 = [] := rfl
theorem one_next : nextW [⟨0, nx, d⟩] 0 = some ⟨0, nx, d⟩ := rfl
theorem one_nextQ : nextQ [⟨0, nx, d⟩] 0 = [] := rfl
end
theorem one_state {N : Nat} {K ow nx : Int} {L : List Hr} (hN : 1 ≤ N ∧ N ≤ 4) (hh : 0 ≤ nx ∧ nx < (N : Int)) (h0 : hasH L 0 = true) (hne : ow ≠ nx) : hErr N K 0 L [(0, ow)] ⟨2, nx, 0, 0, 0, 0, 1, false, []⟩ = 6 := by
  have e : ckE N 0 L ⟨2, nx, 0, 0, 0, 0, 1, false, []⟩ = 0 := ckE_at ⟨by simp, by simp; omega, by simp, by simp, by simp, by simp, by simp, by simp⟩ rfl hh.2 (.inr rfl) h0
  unfold hErr
  rw [if_pos e, if_neg (by simp)]
  unfold ulE
  rw [if_neg (by show ow ≠ nx; exact hne)]
end Go.Proofs.Ytgeiagndpfdnlaa
end
section
namespace Go.Proofs.Ytgeiagndpfdnlaa
open Go.RowKit Go.Maps
set_option linter.unusedVariables false
set_option maxRecDepth 20000

set_option maxHeartbeats 1000000 in
theorem homeAlone_walk (w : World) (v : Value) (hv : IsSetup w v) (ah : Option Addr) (nh ch : Nat) (zh : List Int) (hsh : Sl w ah nh ch zh) (au : Option Addr) (nu cu : Nat) (zu : List Int) (hsu : Sl w au nu cu zu) :
    Calls Try.prog 5 #[v, .slice ah nh ch, .slice au nu cu] w fun e w' => e = .returned (.bool true) ∧ Below w.heap.size w w' := by
  obtain ⟨n, l, k, s, y, o, i, a0, n0, q0, z0, a1, n1, q1, z1, a2, n2, q2, z2, a3, n3, q3, z3, a4, n4, q4, z4, rfl, h0, h1, h2, h3, h4⟩ := hv
  clear h1 h2 h3 h4
  unfold setup
  go_enter Try.func5, Try.ntmps5
  go_upto_region 2 with (go_at_call 7; refine (config_c _ _ _ _ _ _ _ _ _ _ _ _ _ _ z0 _ (h0.below (by exact ba (Below.refl _ _)))).mono ?_; rintro e w1 ⟨N, L, K, S, Y, O, I, zi, av, nv, cv, rfl, hcf, hnv, hown, hb1⟩; unfold cfg)
  have hB := ba (o := .cells #[.int .i64 (N : Int), .int .i64 (L : Int), .int .i64 (K : Int), .int .i64 (S : Int), .int .i64 (Y : Int), .int .i64 (O : Int), .int .i64 (I : Int), .slice av nv cv] 26) (next (ba (Below.refl _ _)) hb1)
  have hcb := CB.made w1 N L K S Y O I (.slice av nv cv)
  have hsl := (own_sl hown).below (ba (o := .cells #[.int .i64 (N : Int), .int .i64 (L : Int), .int .i64 (K : Int), .int .i64 (S : Int), .int .i64 (Y : Int), .int .i64 (O : Int), .int .i64 (I : Int), .slice av nv cv] 26) (Below.refl _ _))
  have hge : w.heap.size ≤ w1.heap.size := by have := hb1.size; simp at this; omega
  generalize w1.alloc (.cells #[.int .i64 (N : Int), .int .i64 (L : Int), .int .i64 (K : Int), .int .i64 (S : Int), .int .i64 (Y : Int), .int .i64 (O : Int), .int .i64 (I : Int), .slice av nv cv] 26) = W at *
  generalize w1.heap.size = gc at *
  have hbd := hcf.bd
  obtain ⟨N0, N1, L0, L1, K0, K1, S0, S1, Y0, Y1, O0, O1, I0, I1⟩ := hcf.bd
  obtain ⟨p0, p2, p3⟩ := mul_bd L0 L1 K0 K1
  have hnk : nv ≤ L * K := by have := hcf.len; have := hnv.out; omega
  have hnew := hnew_any (w := w) (X := fun j => j = gc) N L K S Y O I av nv cv zi 0 hB (fun j hj => hj ▸ hcb.lt) hsl N0 (by omega) (by omega) K0 (by omega) (by omega) (chk_true hbd hnk)
  have HG : Hid (rowL (rows0 zi N L K 0 L) 0 = ⟨0, 0, -1, wordsI zi L K 0⟩ ∧ hasH (rows0 zi N L K 0 L) 0 = true) := by
    have e := rows0_in (zi := zi) (N := N) (L := L) (K := K) (node := 0) (l := 0) (i := L) (by omega) (by omega) (by unfold remI; simp)
    exact ⟨by unfold rowL; rw [e]; rfl, hasH_some e⟩
  clear hcf hown hb1 h0 hsl p0 p2 p3 S0 S1 Y0 Y1 O0 O1 I0 I1 hnv hnk hbd
  unfold cfg at hnew
  generalize rows0 zi N L K 0 L = R0 at *
  obtain ⟨c0, c1, c2, c3, c4, c5, c6, c7, clt⟩ := hcb
  go_upto_region 4 with (go_at_call 8; refine hnew.mono ?_; rintro e w2 ⟨g, g1, g2, rfl, b2, h1⟩; replace hB := next hB b2; replace c0 := (b2.cell (p := ⟨gc, 0, none⟩) clt).trans c0; replace c2 := (b2.cell (p := ⟨gc, 2, none⟩) clt).trans c2; replace clt := Nat.lt_of_lt_of_le clt b2.size)
  clear hnew c1 c3 c4 c5 c6 c7 b2
  clear W
  have i0 : In64 0 := by unfold In64; omega
  have HT0 : Hid (ckE N 0 R0 ⟨1, 0, 0, 1, 0, 0, 0, false, []⟩ = 0) := ckE_at ⟨by simp, by simp, by simp, by simp, by simp, by simp, by simp, by simp⟩ rfl (by simp; omega) (.inl rfl) HG.out.2
  have hg0 : grantR 0 0 1 0 R0 = ⟨7, 0, 0, 1, 0, -1, 0, false, wordsI zi L K 0⟩ := by unfold grantR; rw [HG.out.1]
  have HGR : Hid (grantR 0 0 1 0 R0 = ⟨7, 0, 0, 1, 0, -1, 0, false, wordsI zi L K 0⟩) := hg0
  have HAB : Hid (askB [] [] 0 = true) := rfl
  clear hg0
  go_upto_region 6 with (go_at_call 10; refine (hh_grant h1 ⟨1, 0, 0, 1, 0, 0, 0, false, []⟩ none 0 0 (sl_nil _) i0 HT0.out rfl HAB.out (by omega)).mono ?_; rw [HGR.out]; rintro e W3 ⟨dd, rfl, hdd, hk3, h3⟩; obtain ⟨a5, n5, c5, ed, -⟩ := id hdd; subst ed; clear hdd)
  have b3 : Below W3.heap.size W3 (W3.alloc (.cells #[.int .i64 7, .int .i64 0, .int .i64 0, .int .i64 1, .int .i64 0, .int .i64 (-1), .int .i64 0, .bool false, .slice a5 n5 c5] 32)) := ba (Below.refl _ _)
  have y5 : (W3.alloc (.cells #[.int .i64 7, .int .i64 0, .int .i64 0, .int .i64 1, .int .i64 0, .int .i64 (-1), .int .i64 0, .bool false, .slice a5 n5 c5] 32)).cell? ⟨W3.heap.size, 5, none⟩ = some (.int .i64 (-1)) := by simp
  have y6 : (W3.alloc (.cells #[.int .i64 7, .int .i64 0, .int .i64 0, .int .i64 1, .int .i64 0, .int .i64 (-1), .int .i64 0, .bool false, .slice a5 n5 c5] 32)).cell? ⟨W3.heap.size, 6, none⟩ = some (.int .i64 0) := by simp
  have h4 : PH w W3 g g1 g2 (fun j => j = gc) N K 0 R0 1 [(0, 0)] [] := h3
  have h5 := h4.below b3
  have hgc : ¬ NX w (fun j => j = gc) gc := fun h => h.2 rfl
  replace c0 := (b3.cell (p := ⟨gc, 0, none⟩) (Nat.lt_of_lt_of_le clt hk3.size)).trans ((hk3.cell (b := gc) 0 clt hgc).trans c0)
  replace c2 := (b3.cell (p := ⟨gc, 2, none⟩) (Nat.lt_of_lt_of_le clt hk3.size)).trans ((hk3.cell (b := gc) 2 clt hgc).trans c2)
  replace clt := Nat.lt_of_lt_of_le (Nat.lt_of_lt_of_le clt hk3.size) b3.size
  have HR0 : Hid (hasH R0 0 = true) := HG.out.2
  clear h1 h3 h4 b3 hk3 hB HT0 HGR HAB hgc HG
  generalize World.alloc W3 _ = W0 at *
  generalize W3.heap.size = gp at *
  clear W3
  obtain ⟨le1, mx1⟩ : nh ≤ ch ∧ ch ≤ maxLen := ⟨hsh.le, hsh.max⟩
  obtain ⟨le2, mx2⟩ : nu ≤ cu ∧ cu ≤ maxLen := ⟨hsu.le, hsu.max⟩
  unfold maxLen at mx1 mx2
  go_wp2_with fail
  go_loopw [13, 12] (fun vi vo wx => ∃ (i : Nat) (ow : Int) (R : List Hr) (n : Nat), vi = .int .i64 (i : Int) ∧ vo = .int .i64 ow ∧ i ≤ 8 ∧ i ≤ nh ∧ (0 ≤ ow ∧ ow < (N : Int)) ∧ n ≤ 2 * i + 1 ∧ hasH R 0 = true ∧ PH w wx g g1 g2 (fun j => j = gc) N K 0 R n [(0, ow)] [] ∧ Keep (NX w (fun j => j = gc)) W0 wx) (fun vi _ _ => 8 - (intOf vi).toNat)
  case atStart => exact ⟨0, 0, R0, 1, rfl, rfl, by omega, by omega, by omega, by omega, HR0.out, h5, Keep.refl _ _⟩
  case round =>
    obtain ⟨i, ow, R, n, rfl, rfl, hi8, hin, how, hn, hRh, hx, hk⟩ := hrel
    have d0 := (hk.cell (b := gc) 0 clt (fun h => h.2 rfl)).trans c0
    have d2 := (hk.cell (b := gc) 2 clt (fun h => h.2 rfl)).trans c2
    have dlt := Nat.lt_of_lt_of_le clt hk.size
    by_cases hlt : i < nh ∧ i < 8
    · obtain ⟨hlh, hl8⟩ := hlt
      have hl8' : (i : Int) < 8 := by omega
      have hb0 := hx.bel
      have sh := hsh.below hb0
      have su := hsu.below hb0
      obtain ⟨bh, oh, eah, hlth, hch⟩ := sh.at hlh
      subst eah
      generalize zh[i]?.getD 0 = yv at *
      go_upto_region 12 with fail
      obtain ⟨nx, hnx, hx0, hx1⟩ : ∃ nx : Int, yv % (N : Int) = nx ∧ 0 ≤ nx ∧ nx < (N : Int) := ⟨_, rfl, Int.emod_nonneg _ (by omega), Int.emod_lt_of_pos _ (by omega)⟩
      have HNX : Hid (yv % (N : Int) = nx) := hnx
      clear hnx
      have uc := @Up.cell
      have uf := @Up.frozen
      refine wp_region_up (by kernel_rfl) (by kernel_rfl) ?_
      repeat (go_big_quiet_step ((go_at_call 9; exact Calls.up_same (within_any _ _ _ (by omega) (by omega)))))
      refine wpQuiet_nil ?_
      rintro _ ⟨u, rfl⟩
      clear uc uf
      rw [HNX.out]
      have h1 := hx.below u.2
      have hk1 := hk.trans (Keep.of_below (F := fun _ => False) u.2) (fun _ _ h => h.elim)
      replace d2 := (u.2.cell (p := ⟨gc, 2, none⟩) dlt).trans d2
      replace dlt := Nat.lt_of_lt_of_le dlt u.2.size
      clear hx hk d0 hb0 sh su hlth hch h5
      generalize u.val = V1 at *
      clear u
      have HW : Hid ((0 ≤ ow ∧ ow < (N : Int)) ∧ (0 ≤ nx ∧ nx < (N : Int)) ∧ n ≤ 2 * i + 1 ∧ i < 8) := ⟨how, ⟨hx0, hx1⟩, hn, hl8⟩
      have HNE : Hid (ow ≠ -1) := by show _ ≠ _; omega
      have HT1 : Hid (ckE N 0 R ⟨1, nx, 0, i, 0, 0, 0, false, []⟩ = 0) := ckE_at ⟨by simp, by simp; omega, by simp, by simp; omega, by simp, by simp, by simp, by simp⟩ rfl (by simp; omega) (.inl rfl) hRh
      have HN1 : Hid (n ≤ 1000 ∧ n + 1 ≤ 1000) := ⟨by omega, by omega⟩
      have HRH : Hid (hasH R 0 = true) := hRh
      clear how hx0 hx1 hn hRh
      go_upto_region 14 with (go_at_call 10; refine (hh_wait h1 ⟨1, nx, 0, i, 0, 0, 0, false, []⟩ none 0 0 (sl_nil _) i0 HT1.out rfl (one_askB HNE.out) HN1.out.1).mono ?_; rw [one_askO HNE.out, one_askQ HNE.out]; rintro e W3 ⟨rfl, hk3, h3⟩)
      have b4 : Below W3.heap.size W3 (W3.alloc (.cells #[.int .i64 zeroPk.k, .int .i64 zeroPk.f, .int .i64 zeroPk.t, .int .i64 zeroPk.i, .int .i64 zeroPk.l, .int .i64 zeroPk.p, .int .i64 zeroPk.s, .bool zeroPk.fl, .slice none 0 0] 32)) := ba (Below.refl _ _)
      have h4 := h3.below b4
      have hgc : ¬ NX w (fun j => j = gc) gc := fun h => h.2 rfl
      have hk4 := (hk1.trans hk3 (fun j _ h => h)).trans (Keep.of_below (F := fun _ => False) b4) (fun _ _ h => h.elim)
      replace d2 := (b4.cell (p := ⟨gc, 2, none⟩) (Nat.lt_of_lt_of_le dlt hk3.size)).trans ((hk3.cell (b := gc) 2 dlt hgc).trans d2)
      clear h1 hk1 h3 hk3 b4 HT1 dlt hgc
      generalize World.alloc W3 _ = W4 at *
      have HMK : ∀ w : World, (Instr.makeSlice 22 (.int .i64 (K : Int)) (.int .i64 (K : Int))).run Try.prog w = .ok (.slice (some ⟨w.heap.size, 0, none⟩) K K) (w.alloc (.cells (cells (List.replicate K 0)).toArray 3)) := fun w => make_row K (by omega) w
      have dlt4 : gc < W4.heap.size := h4.xl gc rfl
      go_upto_region 16 with (go_at_call 13; refine (hpend_any h4 HN1.out.2 false (by rw [one_rdy0 HNE.out]; rfl)).mono ?_; rintro e V5 ⟨rfl, b5⟩; replace h4 := h4.below b5; replace hk4 := hk4.trans (Keep.of_below (F := fun _ => False) b5) (fun _ _ h => h.elim); replace d2 := (b5.cell (p := ⟨gc, 2, none⟩) dlt4).trans d2; clear b5 dlt4)
      go_upto_region 17 with fail
      have own : Own (V5.alloc (.cells (cells (List.replicate K 0)).toArray 3)) V5.heap.size (.slice (some ⟨V5.heap.size, 0, none⟩) K K) (List.replicate K 0) := own_row (heap_alloc_new _ _) (by simp) (Nat.le_refl _) (by unfold maxLen; omega)
      have bV : Below V5.heap.size V5 (V5.alloc (.cells (cells (List.replicate K 0)).toArray 3)) := ba (Below.refl _ _)
      have hgf : V5.heap.size < (V5.alloc (.cells (cells (List.replicate K 0)).toArray 3)).heap.size := by simp
      have hws5 : w.heap.size ≤ V5.heap.size := h4.bel.size
      have h6 := h4.step (F := fun _ => False) (Y := fun j => j = gc ∨ j = V5.heap.size) (Keep.of_below bV) (fun _ h => h.elim) (fun j hj => by
        rcases hj with rfl | rfl
        · have := h4.xl _ rfl; exact ⟨.inl rfl, by omega⟩
        · exact ⟨.inr (Nat.le_refl _), hgf⟩)
      have hk6 := hk4.trans (Keep.of_below (F := fun _ => False) bV) (fun _ _ h => h.elim)
      have hgd : gc ≠ V5.heap.size := fun e => by have := h4.xl gc rfl; omega
      clear h4 hk4 bV d2 HMK hgf HN1
      generalize World.alloc V5 _ = V6 at *
      generalize V5.heap.size = gd at *
      go_upto_if 99 with fail
      have HGD : Hid (w.heap.size ≤ gd ∧ gc ≠ gd) := ⟨hws5, hgd⟩
      have HLESS : Hid (∀ j, NX w (fun j => j = gc ∨ j = gd) j → NX w (fun j => j = gc) j) := fun j hj => nx_less (fun j hx => .inl hx) hj
      have HNG : Hid (¬ NX w (fun j => j = gc ∨ j = gd) gd) := fun h => h.2 (.inr rfl)
      go_cut [] (fun wx => ∃ zd : List Int, zd.length = K ∧ Own wx gd (.slice (some ⟨gd, 0, none⟩) K K) zd ∧ PH w wx g g1 g2 (fun j => j = gc ∨ j = gd) N K 0 R (n + 1) [(0, ow)] [⟨0, nx, (i : Int)⟩] ∧ Keep (NX w (fun j => j = gc)) W0 wx)
      case first =>
        by_cases hiu : i < nu
        · have hiu' : (i : Int) < (nu : Int) := by omega
          obtain ⟨bu, ou, eau, hltu, hcu⟩ := (hsu.below h6.bel).at hiu
          subst eau
          generalize zu[i]?.getD 0 = uv at *
          obtain ⟨⟨yz, hyz⟩, hfz⟩ := own.cell1 (k := 0) (by simp) (by omega)
          go_wp2_with fail
          go_meet
          case rel => exact ⟨(List.replicate K 0).set 0 uv, by simp, own.set1 (by simp) (by omega) uv, h6.step (Keep.one V6 gd 0 _) (fun j hj => ⟨by rw [hj]; exact HGD.out.1, .inl (.inr hj)⟩) (fun j hj => ⟨.inl hj, by have := h6.xl j hj; simpa using this⟩), hk6.trans (Keep.one V6 gd 0 _) (fun j _ hj => by subst hj; exact ⟨HGD.out.1, fun e => HGD.out.2 e.symm⟩)⟩
        · have hiu' : ¬ (i : Int) < (nu : Int) := by omega
          go_wp2_with fail
          go_meet
          case rel => exact ⟨_, by simp, own, h6, hk6⟩
      case rest =>
      obtain ⟨zd, hzl, own1, h7, hk7⟩ := hcut
      clear own h6 hk6 hws5 hgd
      go_upto_if 108 with fail
      go_cut [] (fun wx => Own wx gd (.slice (some ⟨gd, 0, none⟩) K K) zd ∧ PH w wx g g1 g2 (fun j => j = gc ∨ j = gd) N K 0 R (n + 1) [(0, ow)] [⟨0, nx, (i : Int)⟩] ∧ Keep (NX w (fun j => j = gc)) W0 wx)
      case first =>
        by_cases hne : nx = ow
        · have hneb : (nx != ow) = false := by simp [hne]
          go_wp2_with fail
          go_meet
          case rel => exact ⟨own1, h7, hk7⟩
        · have hneb : (nx != ow) = true := by simp [hne]
          have HST : Hid (hErr N K 0 R [(0, ow)] ⟨2, nx, 0, 0, 0, 0, 1, false, []⟩ = 6) := one_state ⟨N0, N1⟩ HW.out.2.1 HRH.out (fun e => hne e.symm)
          clear hne
          go_wp2_with (go_at_call 10; refine (hh_err h7 ⟨2, nx, 0, 0, 0, 0, 1, false, []⟩ none 0 0 (sl_nil _) i0 HST.out (by omega)).mono ?_; rintro e V8 ⟨rfl, hk8, h8⟩)
          go_meet
          case rel => exact ⟨(own1.keep1 hk8 HNG.out).below (ba (Below.refl _ _)), h8.below (ba (Below.refl _ _)), (hk7.trans hk8 (fun j _ hj => HLESS.out j hj)).trans (Keep.of_below (F := fun _ => False) (ba (Below.refl _ _))) (fun _ _ h => h.elim)⟩
      case rest =>
      obtain ⟨own2, h9, hk9⟩ := hcut
      clear own1 h7 hk7
      have hzd : zd ≠ [] := fun e => by rw [e] at hzl; simp at hzl; omega
      have HZL : Hid (zd.length = K) := hzl
      have hs9 := setR_full (K := K) (s := 1) (hd := nx) (z := zd) h9.rise HRH.out hzd (setOk_true (by omega) HW.out.2.1 (by rw [hzl]))
      have HS : Hid ((setR N K R 0 1 nx (unlD ⟨2, ow, 0, 0, 0, nx, 1, true, zd⟩)).1 = 0) := hs9.1
      have HS2 : Hid (rowL (setR N K R 0 1 nx (unlD ⟨2, ow, 0, 0, 0, nx, 1, true, zd⟩)).2 0 = ⟨0, 1, nx, zd⟩ ∧ hasH (setR N K R 0 1 nx (unlD ⟨2, ow, 0, 0, 0, nx, 1, true, zd⟩)).2 0 = true) := ⟨hs9.2.1, (hs9.2.2 0).trans HRH.out⟩
      have HT2 : Hid (ckE N 0 R ⟨2, ow, 0, 0, 0, nx, 1, true, zd⟩ = 0) := by
        obtain ⟨w1, w2, _, _⟩ := HW.out
        exact ckE_at ⟨by simp, by simp; omega, by simp, by simp, by simp, by simp; omega, by simp, by simp; omega⟩ rfl (by simp; omega) (.inr rfl) HRH.out
      have HN2 : Hid (n + 1 ≤ 1000) := by obtain ⟨_, _, w3, w4⟩ := HW.out; show _ ≤ _; omega
      clear hs9 hzd hzl
      go_upto_region 24 with (go_at_call 10; refine (hh_uok h9 ⟨2, ow, 0, 0, 0, nx, 1, true, zd⟩ (some ⟨gd, 0, none⟩) K K (own_sl own2) i0 HT2.out rfl one_own HS.out).mono ?_; rw [one_rel]; rintro e V10 ⟨rfl, hk10, h10⟩)
      have own3 := (own2.keep1 hk10 HNG.out).below (ba (o := .cells #[.int .i64 8, .int .i64 0, .int .i64 ow, .int .i64 0, .int .i64 0, .int .i64 0, .int .i64 0, .bool false, .slice none 0 0] 32) (Below.refl _ _))
      have hk11 := (hk9.trans hk10 (fun j _ hj => HLESS.out j hj)).trans (Keep.of_below (F := fun _ => False) (ba (o := .cells #[.int .i64 8, .int .i64 0, .int .i64 ow, .int .i64 0, .int .i64 0, .int .i64 0, .int .i64 0, .bool false, .slice none 0 0] 32) (Below.refl _ _))) (fun _ _ h => h.elim)
      have h11 := h10.below (ba (o := .cells #[.int .i64 8, .int .i64 0, .int .i64 ow, .int .i64 0, .int .i64 0, .int .i64 0, .int .i64 0, .bool false, .slice none 0 0] 32) (Below.refl _ _))
      have HSS := HS2
      clear own2 hk10 h10 hk9 h9 HT2 HS HS2
      generalize World.alloc V10 _ = V11 at *
      obtain ⟨R2, hR2⟩ : ∃ R2, (setR N K R 0 1 nx (unlD ⟨2, ow, 0, 0, 0, nx, 1, true, zd⟩)).2 = R2 := ⟨_, rfl⟩
      rw [hR2] at HSS
      have h12 : PH w V11 g g1 g2 (fun j => j = gc ∨ j = gd) N K 0 R2 (n + 1) [] [⟨0, nx, (i : Int)⟩] := hR2 ▸ h11
      clear h11 hR2
      have c1 := h12.c1
      go_upto_region 26 with (first
        | (go_at_call 13; refine (hpend_any h12 HN2.out true rfl).mono ?_; rintro e V12 ⟨rfl, b12⟩; replace own3 := own3.below b12; replace hk11 := hk11.trans (Keep.of_below (F := fun _ => False) b12) (fun _ _ h => h.elim); replace h12 := h12.below b12; replace c1 := h12.c1; clear b12)
        | (go_at_call 11; refine (hp_owner h12.hp i0).mono ?_; rw [show ownT [] 0 = -1 from rfl]; rintro e V13 ⟨rfl, rfl⟩))
      clear c1
      have HGQ : Hid (grantR 0 nx i 0 R2 = ⟨7, 0, nx, i, 0, nx, 1, false, zd⟩) := by show _ = _; unfold grantR; rw [HSS.out.1]
      go_upto_region 27 with (go_at_call 16; refine (hgr_ok h12 HN2.out (l := 0) (v := nx) (d := (i : Int)) (rest := []) one_rdy1 i0 rfl HW.out.2.1.1 one_next).mono ?_; rw [HGQ.out, one_nextQ]; rintro e V14 ⟨dd, rfl, hdd, hk14, h14⟩; obtain ⟨a6, n6, c6, ed, sq, -⟩ := id hdd; subst ed; clear hdd)
      have bb : Below V14.heap.size V14 (V14.alloc (.cells #[.int .i64 7, .int .i64 0, .int .i64 nx, .int .i64 (i : Int), .int .i64 0, .int .i64 nx, .int .i64 1, .bool false, .slice a6 n6 c6] 32)) := ba (Below.refl _ _)
      have z2 : (V14.alloc (.cells #[.int .i64 7, .int .i64 0, .int .i64 nx, .int .i64 (i : Int), .int .i64 0, .int .i64 nx, .int .i64 1, .bool false, .slice a6 n6 c6] 32)).cell? ⟨V14.heap.size, 2, none⟩ = some (.int .i64 nx) := by simp
      have z3 : (V14.alloc (.cells #[.int .i64 7, .int .i64 0, .int .i64 nx, .int .i64 (i : Int), .int .i64 0, .int .i64 nx, .int .i64 1, .bool false, .slice a6 n6 c6] 32)).cell? ⟨V14.heap.size, 3, none⟩ = some (.int .i64 (i : Int)) := by simp
      have z5 : (V14.alloc (.cells #[.int .i64 7, .int .i64 0, .int .i64 nx, .int .i64 (i : Int), .int .i64 0, .int .i64 nx, .int .i64 1, .bool false, .slice a6 n6 c6] 32)).cell? ⟨V14.heap.size, 5, none⟩ = some (.int .i64 nx) := by simp
      have z6 : (V14.alloc (.cells #[.int .i64 7, .int .i64 0, .int .i64 nx, .int .i64 (i : Int), .int .i64 0, .int .i64 nx, .int .i64 1, .bool false, .slice a6 n6 c6] 32)).cell? ⟨V14.heap.size, 6, none⟩ = some (.int .i64 1) := by simp
      have z8 : (V14.alloc (.cells #[.int .i64 7, .int .i64 0, .int .i64 nx, .int .i64 (i : Int), .int .i64 0, .int .i64 nx, .int .i64 1, .bool false, .slice a6 n6 c6] 32)).cell? ⟨V14.heap.size, 8, none⟩ = some (.slice a6 n6 c6) := by simp
      have gl : V14.heap.size < (V14.alloc (.cells #[.int .i64 7, .int .i64 0, .int .i64 nx, .int .i64 (i : Int), .int .i64 0, .int .i64 nx, .int .i64 1, .bool false, .slice a6 n6 c6] 32)).heap.size := by simp
      have own4 := (own3.keep1 hk14 HNG.out).below bb
      have sq1 : Sl (V14.alloc (.cells #[.int .i64 7, .int .i64 0, .int .i64 nx, .int .i64 (i : Int), .int .i64 0, .int .i64 nx, .int .i64 1, .bool false, .slice a6 n6 c6] 32)) a6 n6 c6 zd := Sl.below sq bb
      have hk15 := (hk11.trans hk14 (fun j _ hj => HLESS.out j hj)).trans (Keep.of_below (F := fun _ => False) bb) (fun _ _ h => h.elim)
      have h15 : PH w (V14.alloc (.cells #[.int .i64 7, .int .i64 0, .int .i64 nx, .int .i64 (i : Int), .int .i64 0, .int .i64 nx, .int .i64 1, .bool false, .slice a6 n6 c6] 32)) g g1 g2 (fun j => j = gc ∨ j = gd) N K 0 R2 (n + 1 + 1) [(0, nx)] [] := h14.below bb
      clear own3 hk14 hk11 h14 h12 bb sq HGQ HN2
      generalize World.alloc V14 _ = V15 at *
      generalize V14.heap.size = gq at *
      have HN3 : Hid (n + 1 + 1 ≤ 1000) := by obtain ⟨_, _, w3, w4⟩ := HW.out; show _ ≤ _; omega
      have sd := own_sl own4
      have HSD : Hid (Sl V15 (some ⟨gd, 0, none⟩) K K zd ∧ Sl V15 a6 n6 c6 zd) := ⟨sd, sq1⟩
      clear sd sq1
      go_upto_if 200 with (first
        | (have mk := HSD; clear mk; go_at_call 24; refine (same_any a6 (some ⟨gd, 0, none⟩) zd zd n6 K c6 K _ HSD.out.2 HSD.out.1).mono ?_; rw [show decide (zd = zd) = true from decide_eq_true rfl]; rintro e V16 ⟨rfl, kn, rfl⟩; clear HSD; have b16 : Below V15.heap.size V15 (V15.drewN kn) := below_dn V15 kn; have h16 := h15.below b16; have hk16 := hk15.trans (Keep.of_below (F := fun _ => False) b16) (fun _ _ h => h.elim); have c1 := h16.c1; clear h15 hk15 own4 z2 z3 z5 z6 z8 gl b16; generalize V15.drewN kn = V16 at *)
        | (go_at_call 13; refine (hpend_any h16 HN3.out false rfl).mono ?_; rintro e V17 ⟨rfl, b17⟩)
        | (go_at_call 11; refine (hp_owner h16.hp i0).mono ?_; rw [one_own]; rintro e V18 ⟨rfl, rfl⟩))
      have h17 := (h16.below b17).off (X := fun j => j = gc) (fun j hj => .inl hj)
      have hk17 := hk16.trans (Keep.of_below (F := fun _ => False) b17) (fun _ _ h => h.elim)
      have HR2 : Hid (hasH R2 0 = true) := HSS.out.2
      clear h16 hk16 b17 c1 HSS HN3
      go_wp2_with fail
      go_roundw
      case rel => obtain ⟨w1, w2, w3, w4⟩ := HW.out; exact ⟨i + 1, nx, R2, n + 1 + 1, by go_num, rfl, by omega, by omega, w2, by omega, HR2.out, h17, hk17⟩
      case measure => simp [intOf]; omega
    · have hlt' : ¬ ((i : Int) < (nh : Int) ∧ (i : Int) < 8) := by omega
      have HNE : Hid (ow ≠ -1) := by show _ ≠ _; omega
      have HN1 : Hid (n ≤ 1000) := by show _ ≤ _; omega
      clear hk d0 d2 dlt h5 c0 c2 clt y5 y6 HR0 hRh how hn
      by_cases hi : i < nh
      · have hi2 : ¬ (i : Int) < 8 := by omega
        have hi3 : (i : Int) < (nh : Int) := by omega
        clear hlt hlt' hi8 hin
        go_upto_region 31 with (go_at_call 16; refine (hgr_no hx HN1.out rfl).mono ?_; rintro e V20 ⟨rfl, b20⟩)
        have h20 := (hx.below b20).below (ba (o := .cells #[.int .i64 zeroPk.k, .int .i64 zeroPk.f, .int .i64 zeroPk.t, .int .i64 zeroPk.i, .int .i64 zeroPk.l, .int .i64 zeroPk.p, .int .i64 zeroPk.s, .bool zeroPk.fl, .slice none 0 0] 32) (Below.refl _ _))
        clear hx b20
        generalize World.alloc V20 _ = V21 at *
        have c1 := h20.c1
        have hbel := h20.bel
        go_wp2_with (first
          | (go_at_call 12; refine (hp_waiting h20.hp i0).mono ?_; rw [show (waitT [] 0).length = 0 from rfl]; rintro e V22 ⟨rfl, rfl⟩)
          | (go_at_call 14; refine (hwakes_any _).mono ?_; rintro e V23 ⟨rfl, b23⟩))
        go_ret
        exact ⟨rfl, next hbel b23⟩
      · have hi3 : ¬ (i : Int) < (nh : Int) := by omega
        clear hlt hlt' hi8 hin
        go_upto_region 31 with (go_at_call 16; refine (hgr_no hx HN1.out rfl).mono ?_; rintro e V20 ⟨rfl, b20⟩)
        have h20 := (hx.below b20).below (ba (o := .cells #[.int .i64 zeroPk.k, .int .i64 zeroPk.f, .int .i64 zeroPk.t, .int .i64 zeroPk.i, .int .i64 zeroPk.l, .int .i64 zeroPk.p, .int .i64 zeroPk.s, .bool zeroPk.fl, .slice none 0 0] 32) (Below.refl _ _))
        clear hx b20
        generalize World.alloc V20 _ = V21 at *
        have c1 := h20.c1
        have hbel := h20.bel
        go_wp2_with (first
          | (go_at_call 12; refine (hp_waiting h20.hp i0).mono ?_; rw [show (waitT [] 0).length = 0 from rfl]; rintro e V22 ⟨rfl, rfl⟩)
          | (go_at_call 14; refine (hwakes_any _).mono ?_; rintro e V23 ⟨rfl, b23⟩))
        go_ret
        exact ⟨rfl, next hbel b23⟩
end Go.Proofs.Ytgeiagndpfdnlaa
end
