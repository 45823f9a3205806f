/- The program's home: Handle of an Unlock. Conditions: as each theorem states them.
The program's home: Pending, Grant, New. Conditions: as each theorem states them.
The program's home: New, and the example that each of chapter 11's laws looks at. Conditions: as each theorem states them.
The program's home: a request that is not taken, or not done. Conditions: as each theorem states them.
What a home's one line is, step by step (mathematics of HomeAlone and HomeLines); rows that are set. Conditions: as each theorem states them.
Several lines of one home, each asked for twice (mathematics of HomeLines). Conditions: as each theorem states them.
The walk of HomeLines. Conditions: as the theorem states them. -/
import Derived.Test.YtgeiagndpfdnlaaPart8
import Derived.Test.YtgeiagndpfdnlaaPart2
section
namespace Go.Proofs.Ytgeiagndpfdnlaa
open Go.RowKit Go.Maps
set_option linter.unusedVariables false
set_option maxRecDepth 20000

/-- What an Unlock is answered. -/
def ulE (N K : Int) (L : List Hr) (o : List (Int × Int)) (x : Pk) : Int := if ownT o x.l = x.f then (setR N K L x.l x.s x.p (unlD x)).1 else 6
section
variable {w wx wy : World} {g g1 g2 n N : Nat} {X Y : Nat → Prop} {K node : Int} {L : List Hr} {o : List (Int × Int)} {q : List Wr}
theorem hunlock_bad (h : PH w wx g g1 g2 X N K node L n o q) (x : Pk) (a : Option Addr) (m c : Nat) (hsl : Sl wx a m c x.z) (hl : In64 x.l) (hf : 0 ≤ x.f) (hz : x.z.length ≤ 1000) (he : ulE N K L o x ≠ 0) :
    Calls Try.prog 30 #[.pointer (some ⟨g, 0, none⟩), x.val (.slice a m c)] wx fun e w' => e = .returned (.int .i64 (ulE N K L o x)) ∧ Keep (NX w X) wx w' ∧ PH w w' g g1 g2 X N K node L n o q := by
  unfold ulE at he ⊢
  by_cases ho : ownT o x.l = x.f
  · rw [if_pos ho] at he ⊢
    exact hunlock_err h x a m c hsl hl ho hf hz he
  · rw [if_neg ho]
    refine (hunlock_state h x a m c hsl hl ho).mono ?_
    rintro e w' ⟨rfl, hb⟩
    exact ⟨rfl, Keep.of_below hb, h.below hb⟩
set_option maxHeartbeats 1600000 in
theorem hh_uerr (h : PH w wx g g1 g2 X N K node L n o q) (x : Pk) (a : Option Addr) (m c : Nat) (hsl : Sl wx a m c x.z) (hl : In64 x.l) (he : ckE N node L x = 0) (hk : x.k = 2) (hu : ulE N K L o x ≠ 0) :
    Calls Try.prog 10 #[.pointer (some ⟨g, 0, none⟩), x.val (.slice a m c)] wx fun e w' => e = .returned (.tuple #[zeroPk.val (.slice none 0 0), .bool false, .int .i64 (ulE N K L o x)]) ∧ Keep (NX w X) wx w' ∧ PH w w' g g1 g2 X N K node L n o q := by
  have hkb : (x.k == 1) = false := by simp [hk]
  have HU : Hid (ulE N K L o x ≠ 0) := hu
  obtain ⟨E, hE⟩ : ∃ E, ulE N K L o x = E := ⟨_, rfl⟩
  have HE : Hid (ulE N K L o x = E) := hE
  rw [hE] at hu
  have hub : (E != 0) = true := by simp [hu]
  clear hk hu hE
  have HL : Hid (In64 x.l) := hl
  have HC : Hid (ckE N node L x = 0) := he
  have HF : Hid (0 ≤ x.l ∧ 0 ≤ x.f ∧ x.z.length ≤ 1000) := ck_facts he
  clear he hl
  unfold Pk.val
  go_enter Try.func10, Try.ntmps10
  go_upto_region 1 with fail
  have hB : Below wx.heap.size wx ((wx.alloc (.cells #[.int .i64 x.k, .int .i64 x.f, .int .i64 x.t, .int .i64 x.i, .int .i64 x.l, .int .i64 x.p, .int .i64 x.s, .bool x.fl, .slice a m c] 32)).alloc (.cells #[.int .i64 0, .int .i64 0, .int .i64 0, .int .i64 0, .int .i64 0, .int .i64 0, .int .i64 0, .bool false, .slice none 0 0] 32)) := ba (ba (Below.refl _ _))
  have bxp : Bx ((wx.alloc (.cells #[.int .i64 x.k, .int .i64 x.f, .int .i64 x.t, .int .i64 x.i, .int .i64 x.l, .int .i64 x.p, .int .i64 x.s, .bool x.fl, .slice a m c] 32)).alloc (.cells #[.int .i64 0, .int .i64 0, .int .i64 0, .int .i64 0, .int .i64 0, .int .i64 0, .int .i64 0, .bool false, .slice none 0 0] 32)) wx.heap.size x (.slice a m c) := (Bx.made wx x (.slice a m c)).next (ba (Below.refl _ _))
  have bxr : Bx ((wx.alloc (.cells #[.int .i64 x.k, .int .i64 x.f, .int .i64 x.t, .int .i64 x.i, .int .i64 x.l, .int .i64 x.p, .int .i64 x.s, .bool x.fl, .slice a m c] 32)).alloc (.cells #[.int .i64 0, .int .i64 0, .int .i64 0, .int .i64 0, .int .i64 0, .int .i64 0, .int .i64 0, .bool false, .slice none 0 0] 32)) (wx.heap.size + 1) zeroPk (.slice none 0 0) := Bx.made' (wx.alloc (.cells #[.int .i64 x.k, .int .i64 x.f, .int .i64 x.t, .int .i64 x.i, .int .i64 x.l, .int .i64 x.p, .int .i64 x.s, .bool x.fl, .slice a m c] 32)) zeroPk (.slice none 0 0) _ (by simp)
  have h1 := h.own hB
  have hs1 := hsl.below hB
  have HX : Hid (∀ j, X j → j < wx.heap.size) := h.xl
  have HWS : Hid (w.heap.size ≤ wx.heap.size) := h.bel.size
  clear h hsl
  generalize World.alloc _ (.cells #[.int .i64 0, .int .i64 0, .int .i64 0, .int .i64 0, .int .i64 0, .int .i64 0, .int .i64 0, .bool false, .slice none 0 0] 32) = W at *
  have HSZ : Hid (wx.heap.size + 1 < W.heap.size) := bxr.lt
  have HXW : Hid (∀ j, wx.heap.size ≤ j → j < W.heap.size → (X j ∨ wx.heap.size ≤ j ∧ j < W.heap.size)) := fun j h1 h2 => .inr ⟨h1, h2⟩
  obtain ⟨zw, ezw⟩ : ∃ zw, W.heap.size = zw := ⟨_, rfl⟩
  have EZW : Hid (W.heap.size = zw) := ezw
  rw [ezw] at HSZ HXW h1
  clear ezw
  obtain ⟨q0, q1, q2, q3, q4, q5, q6, q7, q8, qf, ql⟩ := id bxp
  go_upto_region 2 with (go_at_call 28; refine (hcheck_any h1 x a m c hs1 HL.out).mono ?_; rw [HC.out]; rintro e V ⟨rfl, b1⟩)
  have h2 := h1.below b1
  have hs2 := hs1.below b1
  have bp2 := bxp.next b1
  have br2 := bxr.next b1
  have hB2 := next hB b1
  clear q0 q1 q2 q3 q4 q5 q6 q7 q8 qf ql bxp bxr h1 hs1 hB b1 EZW
  clear W
  obtain ⟨q0, q1, q2, q3, q4, q5, q6, q7, q8, qf, ql⟩ := id bp2
  go_upto_region 8 with (go_at_call 30; refine (hunlock_bad h2 x a m c hs2 HL.out HF.out.2.1 HF.out.2.2 HU.out).mono ?_; rw [HE.out]; rintro e V2 ⟨rfl, hk2, h3⟩)
  have br3 := br2.keep hk2 (fun hf => hf.2 (HXW.out _ (by omega) HSZ.out))
  have hK := Keep.pre hB2 (hk2.mono (G := NX w X) (fun j _ hj => nx_less (fun j hx => .inl hx) hj))
  clear hk2 br2 bp2 h2 hB2 hs2 q0 q1 q2 q3 q4 q5 q6 q7 q8 qf ql
  obtain ⟨r0, r1, r2, r3, r4, r5, r6, r7, r8, rf, rl⟩ := id br3
  have f0 := rf 0
  go_wp2_with fail
  have hkk : Keep (fun k => k = wx.heap.size + 1) V2 _ := far9 (g := wx.heap.size + 1) (y := zeroPk) (v := .slice none 0 0) (W := V2) (P := fun V => Keep (fun k => k = wx.heap.size + 1) V2 V) (fun V o u h => h.setCell (.inl rfl) u) (Keep.refl _ _)
  refine bodyPost_ret (v := .tuple #[Pk.val zeroPk (.slice none 0 0), .bool false, .int .i64 E]) (by simp [results, Try.results10, go_sem, *, zeroPk]) rfl ⟨by rw [HE.out], hK.trans hkk (fun j hj e => by omega), h3.step hkk (fun j hj => ?_) (fun j hj => ⟨.inl (.inl hj), ?_⟩)⟩
  · subst hj
    have h1 := HWS.out
    exact ⟨by omega, .inl (HXW.out _ (by omega) HSZ.out)⟩
  · exact Nat.lt_of_lt_of_le (h3.xl j (.inl hj)) hkk.size
set_option maxHeartbeats 1600000 in
theorem hh_uok (h : PH w wx g g1 g2 X N K node L n o q) (x : Pk) (a : Option Addr) (m c : Nat) (hsl : Sl wx a m c x.z) (hl : In64 x.l) (he : ckE N node L x = 0) (hk : x.k = 2) (ho : ownT o x.l = x.f) (hu : (setR N K L x.l x.s x.p (unlD x)).1 = 0) :
    Calls Try.prog 10 #[.pointer (some ⟨g, 0, none⟩), x.val (.slice a m c)] wx fun e w' => e = .returned (.tuple #[(⟨8, node, x.f, x.i, x.l, 0, 0, false, []⟩ : Pk).val (.slice none 0 0), .bool true, .int .i64 0]) ∧ Keep (NX w X) wx w' ∧ PH w w' g g1 g2 X N K node (setR N K L x.l x.s x.p (unlD x)).2 n (relO o x.l) q := by
  have hkb : (x.k == 1) = false := by simp [hk]
  have HU : Hid (ownT o x.l = x.f ∧ (setR N K L x.l x.s x.p (unlD x)).1 = 0) := ⟨ho, hu⟩
  clear hk hu ho
  have HL : Hid (In64 x.l) := hl
  have HC : Hid (ckE N node L x = 0) := he
  have HF : Hid (0 ≤ x.l ∧ 0 ≤ x.f ∧ x.z.length ≤ 1000) := ck_facts he
  clear he hl
  unfold Pk.val
  go_enter Try.func10, Try.ntmps10
  go_upto_region 1 with fail
  have hB : Below wx.heap.size wx ((wx.alloc (.cells #[.int .i64 x.k, .int .i64 x.f, .int .i64 x.t, .int .i64 x.i, .int .i64 x.l, .int .i64 x.p, .int .i64 x.s, .bool x.fl, .slice a m c] 32)).alloc (.cells #[.int .i64 0, .int .i64 0, .int .i64 0, .int .i64 0, .int .i64 0, .int .i64 0, .int .i64 0, .bool false, .slice none 0 0] 32)) := ba (ba (Below.refl _ _))
  have bxp : Bx ((wx.alloc (.cells #[.int .i64 x.k, .int .i64 x.f, .int .i64 x.t, .int .i64 x.i, .int .i64 x.l, .int .i64 x.p, .int .i64 x.s, .bool x.fl, .slice a m c] 32)).alloc (.cells #[.int .i64 0, .int .i64 0, .int .i64 0, .int .i64 0, .int .i64 0, .int .i64 0, .int .i64 0, .bool false, .slice none 0 0] 32)) wx.heap.size x (.slice a m c) := (Bx.made wx x (.slice a m c)).next (ba (Below.refl _ _))
  have bxr : Bx ((wx.alloc (.cells #[.int .i64 x.k, .int .i64 x.f, .int .i64 x.t, .int .i64 x.i, .int .i64 x.l, .int .i64 x.p, .int .i64 x.s, .bool x.fl, .slice a m c] 32)).alloc (.cells #[.int .i64 0, .int .i64 0, .int .i64 0, .int .i64 0, .int .i64 0, .int .i64 0, .int .i64 0, .bool false, .slice none 0 0] 32)) (wx.heap.size + 1) zeroPk (.slice none 0 0) := Bx.made' (wx.alloc (.cells #[.int .i64 x.k, .int .i64 x.f, .int .i64 x.t, .int .i64 x.i, .int .i64 x.l, .int .i64 x.p, .int .i64 x.s, .bool x.fl, .slice a m c] 32)) zeroPk (.slice none 0 0) _ (by simp)
  have h1 := h.own hB
  have hs1 := hsl.below hB
  have HX : Hid (∀ j, X j → j < wx.heap.size) := h.xl
  have HWS : Hid (w.heap.size ≤ wx.heap.size) := h.bel.size
  clear h hsl
  generalize World.alloc _ (.cells #[.int .i64 0, .int .i64 0, .int .i64 0, .int .i64 0, .int .i64 0, .int .i64 0, .int .i64 0, .bool false, .slice none 0 0] 32) = W at *
  have HSZ : Hid (wx.heap.size + 1 < W.heap.size) := bxr.lt
  have HXW : Hid (∀ j, wx.heap.size ≤ j → j < W.heap.size → (X j ∨ wx.heap.size ≤ j ∧ j < W.heap.size)) := fun j h1 h2 => .inr ⟨h1, h2⟩
  obtain ⟨zw, ezw⟩ : ∃ zw, W.heap.size = zw := ⟨_, rfl⟩
  have EZW : Hid (W.heap.size = zw) := ezw
  rw [ezw] at HSZ HXW h1
  clear ezw
  obtain ⟨q0, q1, q2, q3, q4, q5, q6, q7, q8, qf, ql⟩ := id bxp
  go_upto_region 2 with (go_at_call 28; refine (hcheck_any h1 x a m c hs1 HL.out).mono ?_; rw [HC.out]; rintro e V ⟨rfl, b1⟩)
  have h2 := h1.below b1
  have hs2 := hs1.below b1
  have bp2 := bxp.next b1
  have br2 := bxr.next b1
  have hB2 := next hB b1
  clear q0 q1 q2 q3 q4 q5 q6 q7 q8 qf ql bxp bxr h1 hs1 hB b1 EZW
  clear W
  obtain ⟨q0, q1, q2, q3, q4, q5, q6, q7, q8, qf, ql⟩ := id bp2
  go_upto_region 8 with (go_at_call 30; refine (hunlock_ok h2 x a m c hs2 HL.out HU.out.1 HF.out.2.1 HF.out.2.2 HU.out.2).mono ?_; rintro e V2 ⟨rfl, hk2, h3⟩)
  have br3 := br2.keep hk2 (fun hf => hf.2 (HXW.out _ (by omega) HSZ.out))
  have bp3 := bp2.keep hk2 (fun hf => hf.2 (HXW.out _ (Nat.le_refl _) (by have := HSZ.out; omega)))
  have hK := Keep.pre hB2 (hk2.mono (G := NX w X) (fun j _ hj => nx_less (fun j hx => .inl hx) hj))
  clear hk2 br2 bp2 h2 hB2 hs2 q0 q1 q2 q3 q4 q5 q6 q7 q8 qf ql
  obtain ⟨q0, q1, q2, q3, q4, q5, q6, q7, q8, qf, ql⟩ := id bp3
  obtain ⟨P, hP⟩ : ∃ P : Pk, ⟨8, node, x.f, x.i, x.l, 0, 0, false, []⟩ = P := ⟨_, rfl⟩
  go_wp2_with (go_at_call 31; refine (hans_any h3 2 x.l x.f x.i).mono ?_; rw [show ansI 2 = 8 from rfl, hP]; rintro e V5 ⟨rfl, b5⟩; obtain ⟨r0, r1, r2, r3, r4, r5, r6, r7, r8, rf, rl⟩ := br3.next b5; have f0 := rf 0)
  have hkk : Keep (fun k => k = wx.heap.size + 1) V5 _ := far9 (g := wx.heap.size + 1) (y := P) (v := .slice none 0 0) (W := V5) (P := fun V => Keep (fun k => k = wx.heap.size + 1) V5 V) (fun V o u h => h.setCell (.inl rfl) u) (Keep.refl _ _)
  refine bodyPost_ret (v := .tuple #[Pk.val P (.slice none 0 0), .bool true, .int .i64 0]) (by simp [results, Try.results10, go_sem, *]) rfl ⟨by rw [← hP], (hK.trans (Keep.of_below (F := fun _ => False) b5) (fun j _ h => h.elim)).trans hkk (fun j hj e => by omega), (h3.below b5).step hkk (fun j hj => ?_) (fun j hj => ⟨.inl (.inl hj), ?_⟩)⟩
  · subst hj
    have h1 := HWS.out
    exact ⟨by omega, .inl (HXW.out _ (by omega) HSZ.out)⟩
  · exact Nat.lt_of_lt_of_le (Nat.lt_of_lt_of_le (h3.xl j (.inl hj)) b5.size) hkk.size
end
end Go.Proofs.Ytgeiagndpfdnlaa
end
section
namespace Go.Proofs.Ytgeiagndpfdnlaa
open Go.RowKit Go.Maps
set_option linter.unusedVariables false
set_option maxRecDepth 20000

section
variable {w wx wy : World} {g g1 g2 n N : Nat} {X Y : Nat → Prop} {K node : Int} {L : List Hr} {o : List (Int × Int)} {q : List Wr}
theorem hp_rdy (h : PH w wx g g1 g2 X N K node L n o q) (hn : n ≤ 1000) : Calls Try.prog 32 #[.pointer (some ⟨g2, 0, none⟩)] wx fun e w' => ∃ a c, e = .returned (.slice a (readyT o q).length c) ∧ Sl w' a (readyT o q).length c (readyT o q) ∧ Below wx.heap.size wx w' := by
  refine (hp_ready h.hp hn).mono ?_
  rintro e w' ⟨v, rfl, own, b⟩
  obtain ⟨a, c, rfl, hs⟩ := own.sl
  exact ⟨a, c, rfl, hs, b⟩
set_option maxHeartbeats 800000 in
theorem hpend_any (h : PH w wx g g1 g2 X N K node L n o q) (hn : n ≤ 1000) (b : Bool) (hb : decide (0 < (readyT o q).length) = b) :
    Calls Try.prog 13 #[.pointer (some ⟨g, 0, none⟩)] wx fun e w' => e = .returned (.bool b) ∧ Below wx.heap.size wx w' := by
  have c1 := h.c1
  obtain ⟨k, hk⟩ : ∃ k, (readyT o q).length = k := ⟨_, rfl⟩
  have HK : Hid ((readyT o q).length = k) := hk
  rw [hk] at hb
  clear hk
  go_enter Try.func13, Try.ntmps13
  go_wp2_with (go_at_call 32; refine (hp_rdy h hn).mono ?_; rw [HK.out]; rintro e V ⟨a, c, rfl, sl, b1⟩)
  go_ret
  exact ⟨rfl, b1⟩
set_option maxHeartbeats 800000 in
theorem hgr_no (h : PH w wx g g1 g2 X N K node L n o q) (hn : n ≤ 1000) (hr : readyT o q = []) :
    Calls Try.prog 16 #[.pointer (some ⟨g, 0, none⟩)] wx fun e w' => e = .returned (.tuple #[zeroPk.val (.slice none 0 0), .bool false]) ∧ Below wx.heap.size wx w' := by
  have HK : Hid ((readyT o q).length = 0) := by show _ = _; rw [hr]; rfl
  clear hr
  go_enter Try.func16, Try.ntmps16
  go_upto_region 1 with fail
  have hB : Below wx.heap.size wx (wx.alloc (.cells #[.int .i64 0, .int .i64 0, .int .i64 0, .int .i64 0, .int .i64 0, .int .i64 0, .int .i64 0, .bool false, .slice none 0 0] 32)) := ba (Below.refl _ _)
  have bxr : Bx (wx.alloc (.cells #[.int .i64 0, .int .i64 0, .int .i64 0, .int .i64 0, .int .i64 0, .int .i64 0, .int .i64 0, .bool false, .slice none 0 0] 32)) wx.heap.size zeroPk (.slice none 0 0) := Bx.made wx zeroPk (.slice none 0 0)
  have h1 := h.below hB
  clear h
  generalize World.alloc _ (.cells #[.int .i64 0, .int .i64 0, .int .i64 0, .int .i64 0, .int .i64 0, .int .i64 0, .int .i64 0, .bool false, .slice none 0 0] 32) = W at *
  have c1 := h1.c1
  go_wp2_with (go_at_call 32; refine (hp_rdy h1 hn).mono ?_; rw [HK.out]; rintro e V ⟨a, c, rfl, sl, b1⟩; obtain ⟨r0, r1, r2, r3, r4, r5, r6, r7, r8, rf, rl⟩ := bxr.next b1; have f0 := rf 0)
  refine bodyPost_ret (v := .tuple #[Pk.val zeroPk (.slice none 0 0), .bool false]) (by simp [results, Try.results16, go_sem, *, zeroPk]) rfl ⟨rfl, far9 (g := wx.heap.size) (y := zeroPk) (v := .slice none 0 0) (W := V) (P := fun V => Below wx.heap.size wx V) (fun V o u h => h.setCell (by simp) u) (next hB b1)⟩
set_option maxHeartbeats 1600000 in
theorem hgr_ok (h : PH w wx g g1 g2 X N K node L n o q) (hn : n ≤ 1000) {l v d : Int} {rest : List Int} (hr : readyT o q = l :: rest) (hl : In64 l) (h1 : ownT o l = -1) (h0 : 0 ≤ v) (hk : nextW q l = some ⟨l, v, d⟩) :
    Calls Try.prog 16 #[.pointer (some ⟨g, 0, none⟩)] wx fun e w' => ∃ dd, e = .returned (.tuple #[(grantR node v d l L).val dd, .bool true]) ∧ DatZ w' (fun k => wx.heap.size ≤ k) (grantR node v d l L).z dd ∧ Keep (NX w X) wx w' ∧ PH w w' g g1 g2 X N K node L (n + 1) (o ++ [(l, v)]) (nextQ q l) := by
  have HR : Hid (readyT o q = l :: rest) := hr
  have HH : Hid (In64 l ∧ ownT o l = -1 ∧ 0 ≤ v ∧ nextW q l = some ⟨l, v, d⟩) := ⟨hl, h1, h0, hk⟩
  clear hr hl h1 h0 hk
  go_enter Try.func16, Try.ntmps16
  go_upto_region 1 with fail
  have hB : Below wx.heap.size wx (wx.alloc (.cells #[.int .i64 0, .int .i64 0, .int .i64 0, .int .i64 0, .int .i64 0, .int .i64 0, .int .i64 0, .bool false, .slice none 0 0] 32)) := ba (Below.refl _ _)
  have bxr : Bx (wx.alloc (.cells #[.int .i64 0, .int .i64 0, .int .i64 0, .int .i64 0, .int .i64 0, .int .i64 0, .int .i64 0, .bool false, .slice none 0 0] 32)) wx.heap.size zeroPk (.slice none 0 0) := Bx.made wx zeroPk (.slice none 0 0)
  have h1 := h.own hB
  have HWS : Hid (w.heap.size ≤ wx.heap.size) := h.bel.size
  clear h
  generalize World.alloc _ (.cells #[.int .i64 0, .int .i64 0, .int .i64 0, .int .i64 0, .int .i64 0, .int .i64 0, .int .i64 0, .bool false, .slice none 0 0] 32) = W at *
  have c1 := h1.c1
  have HSZ : Hid (wx.heap.size < W.heap.size) := bxr.lt
  have HXW : Hid (∀ j, wx.heap.size ≤ j → j < W.heap.size → (X j ∨ wx.heap.size ≤ j ∧ j < W.heap.size)) := fun j h1 h2 => .inr ⟨h1, h2⟩
  go_upto_region 4 with (go_at_call 32; refine (hp_rdy h1 hn).mono ?_; rw [HR.out]; rintro e V ⟨a, c, rfl, sl, b1⟩; obtain ⟨b0, o0, ea, hb0, hc0⟩ := sl.at (k := 0) (by simp); subst ea)
  have hc1 : V.cell? ⟨b0, o0, none⟩ = some (.int .i64 l) := hc0
  have h2 := h1.below b1
  have br2 := bxr.next b1
  have hB2 := next hB b1
  clear hc0 sl h1 c1 bxr hB b1 hb0
  have c1 := h2.c1
  obtain ⟨P, hP⟩ : ∃ P, grantR node v d l L = P := ⟨_, rfl⟩
  go_upto_region 6 with (go_at_call 34; refine (hp_next h2.hp HH.out.1 HH.out.2.1 HH.out.2.2.1 HH.out.2.2.2 hn).mono ?_; rintro e V2 ⟨rfl, hk2, p2⟩)
  obtain ⟨hk3, h3⟩ := h2.call hk2 p2
  have br3 := br2.keep hk2 (fun hf => hf.2 (.inl (HXW.out _ (Nat.le_refl _) HSZ.out)))
  have hK := Keep.pre hB2 (hk3.mono (G := NX w X) (fun j _ hj => nx_less (fun j hx => .inl hx) hj))
  clear hk2 hk3 p2 h2 br2 hB2 c1 hc1
  go_wp2_with (go_at_call 35; refine (hgranted_any h3 HH.out.1 v d).mono ?_; rw [hP]; rintro e V5 ⟨dd, rfl, hd5, b5⟩; obtain ⟨a5, n5, c5, ed, _⟩ := id hd5; subst ed; have br6 := br3.next b5; obtain ⟨r0, r1, r2, r3, r4, r5, r6, r7, r8, rf, rl⟩ := id br6; have f0 := rf 0)
  have hz2 := br3.lt
  have hkk : Keep (fun k => k = wx.heap.size) V5 _ := far9 (g := wx.heap.size) (y := P) (v := .slice a5 n5 c5) (W := V5) (P := fun V => Keep (fun k => k = wx.heap.size) V5 V) (fun V o u h => h.setCell (.inl rfl) u) (Keep.refl _ _)
  refine bodyPost_ret (v := .tuple #[Pk.val P (.slice a5 n5 c5), .bool true]) (by simp [results, Try.results16, go_sem, *]) rfl ⟨_, by rw [hP], by rw [hP]; exact (hd5.keep hkk (fun j hj e => by omega)).imp (fun j _ hj => by omega), (hK.trans (Keep.of_below (F := fun _ => False) b5) (fun j _ h => h.elim)).trans hkk (fun j hj e => by omega), (h3.below b5).step hkk (fun j hj => ?_) (fun j hj => ⟨.inl (.inl hj), ?_⟩)⟩
  · subst hj
    exact ⟨HWS.out, .inl (HXW.out _ (Nat.le_refl _) HSZ.out)⟩
  · exact Nat.lt_of_lt_of_le (Nat.lt_of_lt_of_le (h3.xl j (.inl hj)) b5.size) hkk.size
end
end Go.Proofs.Ytgeiagndpfdnlaa
end
section
namespace Go.Proofs.Ytgeiagndpfdnlaa
open Go.RowKit Go.Maps
set_option linter.unusedVariables false
set_option maxRecDepth 20000

section
variable {w wx wy : World} {X : Nat → Prop}
set_option maxHeartbeats 1600000 in
theorem hnew_any (N M K S Y O I : Nat) (a : Option Addr) (nv cv : Nat) (zi : List Int) (node : Int) (hb : Below w.heap.size w wx) (hX : ∀ j, X j → j < wx.heap.size) (hsl : Sl wx a nv cv zi) (hN0 : 1 ≤ N) (hN : N ≤ 6) (hL : M ≤ 8) (hK0 : 1 ≤ K) (hK : K ≤ 4) (hlen : nv ≤ 32) (hc : chk N M K S Y O I nv = true) :
    Calls Try.prog 8 #[cfg N M K S Y O I (.slice a nv cv), .int .i64 node] wx fun e w' => ∃ g g1 g2, e = .returned (.pointer (some ⟨g, 0, none⟩)) ∧ Below wx.heap.size wx w' ∧ PH w w' g g1 g2 X N K node (rows0 zi N M K node M) 0 [] [] := by
  have HE : Hid (errI (chk N M K S Y O I nv) = 0) := by show _ = _; rw [hc]; rfl
  have HH : Hid (1 ≤ N ∧ N ≤ 6 ∧ M ≤ 8 ∧ 1 ≤ K ∧ K ≤ 4 ∧ nv ≤ 32) := ⟨hN0, hN, hL, hK0, hK, hlen⟩
  have HX : Hid (∀ j, X j → j < wx.heap.size) := hX
  clear hc hN0 hN hL hK0 hK hlen hX
  unfold cfg
  go_enter Try.func8, Try.ntmps8
  go_upto_region 1 with fail
  have hB : Below wx.heap.size wx (wx.alloc (.cells #[.int .i64 (N : Int), .int .i64 (M : Int), .int .i64 (K : Int), .int .i64 (S : Int), .int .i64 (Y : Int), .int .i64 (O : Int), .int .i64 (I : Int), .slice a nv cv] 26)) := ba (Below.refl _ _)
  have hcb := CB.made wx N M K S Y O I (.slice a nv cv)
  have hs1 := hsl.below hB
  generalize wx.alloc (.cells #[.int .i64 (N : Int), .int .i64 (M : Int), .int .i64 (K : Int), .int .i64 (S : Int), .int .i64 (Y : Int), .int .i64 (O : Int), .int .i64 (I : Int), .slice a nv cv] 26) = W at *
  obtain ⟨c0, c1, c2, c3, c4, c5, c6, c7, clt⟩ := id hcb
  go_upto_region 3 with (go_at_call 25; refine (check_any N M K S Y O I a nv cv W).mono ?_; rw [HE.out]; rintro e V ⟨rfl, b1⟩)
  have hs2 := hs1.below b1
  have hcb2 := hcb.below b1
  have hB2 := next hB b1
  clear c0 c1 c2 c3 c4 c5 c6 c7 clt hcb hs1 hB b1
  refine wp_region_orders 10 rfl (by kernel_rfl) ?_
  have Bd : Below V.heap.size V V.drew := (Below.refl _ _).drew
  have hs3 := hs2.below Bd
  have hcb3 := hcb2.below Bd
  have hB3 := next hB2 Bd
  clear hs2 hcb2 hB2 Bd
  generalize V.drew = Vd at *
  clear V
  obtain ⟨c0, c1, c2, c3, c4, c5, c6, c7, clt⟩ := id hcb3
  have HIB : Hid (∀ V', Below Vd.heap.size Vd V' → (fun V => V.cell? ⟨wx.heap.size, 0, none⟩ = some (.int .i64 (N : Int)) ∧ V.cell? ⟨wx.heap.size, 1, none⟩ = some (.int .i64 (M : Int)) ∧ V.cell? ⟨wx.heap.size, 2, none⟩ = some (.int .i64 (K : Int)) ∧ V.cell? ⟨wx.heap.size, 3, none⟩ = some (.int .i64 (S : Int)) ∧ V.cell? ⟨wx.heap.size, 4, none⟩ = some (.int .i64 (Y : Int)) ∧ V.cell? ⟨wx.heap.size, 5, none⟩ = some (.int .i64 (O : Int)) ∧ V.cell? ⟨wx.heap.size, 6, none⟩ = some (.int .i64 (I : Int)) ∧ V.cell? ⟨wx.heap.size, 7, none⟩ = some (.slice a nv cv)) V') := fun V' b => ⟨(b.cell (p := ⟨wx.heap.size, 0, none⟩) clt).trans c0, (b.cell (p := ⟨wx.heap.size, 1, none⟩) clt).trans c1, (b.cell (p := ⟨wx.heap.size, 2, none⟩) clt).trans c2, (b.cell (p := ⟨wx.heap.size, 3, none⟩) clt).trans c3, (b.cell (p := ⟨wx.heap.size, 4, none⟩) clt).trans c4, (b.cell (p := ⟨wx.heap.size, 5, none⟩) clt).trans c5, (b.cell (p := ⟨wx.heap.size, 6, none⟩) clt).trans c6, (b.cell (p := ⟨wx.heap.size, 7, none⟩) clt).trans c7⟩
  have hI : (fun V => V.cell? ⟨wx.heap.size, 0, none⟩ = some (.int .i64 (N : Int)) ∧ V.cell? ⟨wx.heap.size, 1, none⟩ = some (.int .i64 (M : Int)) ∧ V.cell? ⟨wx.heap.size, 2, none⟩ = some (.int .i64 (K : Int)) ∧ V.cell? ⟨wx.heap.size, 3, none⟩ = some (.int .i64 (S : Int)) ∧ V.cell? ⟨wx.heap.size, 4, none⟩ = some (.int .i64 (Y : Int)) ∧ V.cell? ⟨wx.heap.size, 5, none⟩ = some (.int .i64 (O : Int)) ∧ V.cell? ⟨wx.heap.size, 6, none⟩ = some (.int .i64 (I : Int)) ∧ V.cell? ⟨wx.heap.size, 7, none⟩ = some (.slice a nv cv)) Vd := HIB.out _ (Below.refl _ _)
  have hXV : ∀ j, X j → j < Vd.heap.size := fun j hj => Nat.lt_of_lt_of_le (HX.out j hj) hB3.size
  have hWV := next hb hB3
  have hmk := mo_new (w := w) (X := fun j => j < Vd.heap.size) N M K S Y O I a nv cv zi node hWV (fun j hj => hj) hs3 HH.out.1 HH.out.2.1 HH.out.2.2.1 HH.out.2.2.2.1 HH.out.2.2.2.2.1 HH.out.2.2.2.2.2
  unfold cfg at hmk
  clear c0 c1 c2 c3 c4 c5 c6 c7 hcb3 hs3 hsl
  refine any_inv (fun V => V.cell? ⟨wx.heap.size, 0, none⟩ = some (.int .i64 (N : Int)) ∧ V.cell? ⟨wx.heap.size, 1, none⟩ = some (.int .i64 (M : Int)) ∧ V.cell? ⟨wx.heap.size, 2, none⟩ = some (.int .i64 (K : Int)) ∧ V.cell? ⟨wx.heap.size, 3, none⟩ = some (.int .i64 (S : Int)) ∧ V.cell? ⟨wx.heap.size, 4, none⟩ = some (.int .i64 (Y : Int)) ∧ V.cell? ⟨wx.heap.size, 5, none⟩ = some (.int .i64 (O : Int)) ∧ V.cell? ⟨wx.heap.size, 6, none⟩ = some (.int .i64 (I : Int)) ∧ V.cell? ⟨wx.heap.size, 7, none⟩ = some (.slice a nv cv)) [] hI ?_
  refine inv_take (v := ?v1) [] 0 hI rfl (by kernel_rfl) (by kernel_rfl) (by kernel_rfl) (by kernel_rfl) (by kernel_rfl) (fun _ _ _ h => h) (by kernel_rfl) (fun V hV => ?hy1) ?go1
  case hy1 => (obtain ⟨i0, i1, i2, i3, i4, i5, i6, i7⟩ := hV; go_simp <;> rfl)
  simp only [Act.put, List.setIfInBounds_toArray, List.set_cons_zero, List.set_cons_succ]
  refine inv_take (v := ?v2) [] 1 hI rfl (by kernel_rfl) (by kernel_rfl) (by kernel_rfl) (by kernel_rfl) (by kernel_rfl) (fun _ _ _ h => h) (by kernel_rfl) (fun V hV => ?hy2) ?go2
  case hy2 => (obtain ⟨i0, i1, i2, i3, i4, i5, i6, i7⟩ := hV; go_simp <;> rfl)
  simp only [Act.put, List.setIfInBounds_toArray, List.set_cons_zero, List.set_cons_succ]
  refine inv_take (v := ?v3) [] 4 hI rfl (by kernel_rfl) (by kernel_rfl) (by kernel_rfl) (by kernel_rfl) (by kernel_rfl) (fun _ _ _ h => h) (by kernel_rfl) (fun V hV => ?hy3) ?go3
  case hy3 => (obtain ⟨i0, i1, i2, i3, i4, i5, i6, i7⟩ := hV; go_simp <;> rfl)
  simp only [Act.put, List.setIfInBounds_toArray, List.set_cons_zero, List.set_cons_succ]
  refine inv_take (v := ?v4) [] 5 hI rfl (by kernel_rfl) (by kernel_rfl) (by kernel_rfl) (by kernel_rfl) (by kernel_rfl) (fun _ _ _ h => h) (by kernel_rfl) (fun V hV => ?hy4) ?go4
  case hy4 => (obtain ⟨i0, i1, i2, i3, i4, i5, i6, i7⟩ := hV; go_simp <;> rfl)
  simp only [Act.put, List.setIfInBounds_toArray, List.set_cons_zero, List.set_cons_succ]
  refine inv_take (v := ?v5) [] 6 hI rfl (by kernel_rfl) (by kernel_rfl) (by kernel_rfl) (by kernel_rfl) (by kernel_rfl) (fun _ _ _ h => h) (by kernel_rfl) (fun V hV => ?hy5) ?go5
  case hy5 => (obtain ⟨i0, i1, i2, i3, i4, i5, i6, i7⟩ := hV; go_simp <;> rfl)
  simp only [Act.put, List.setIfInBounds_toArray, List.set_cons_zero, List.set_cons_succ]
  refine inv_list 2 (by kernel_rfl) rfl ?_
  go_wp2_with (go_at_call 26; refine hmk.mono ?_; rintro e V1 ⟨g1, rfl, b1, m1⟩)
  refine then_n ⟨HIB.out _ b1, ?_⟩
  try simp only [Act.put, List.setIfInBounds_toArray, List.set_cons_zero, List.set_cons_succ]
  refine inv_list 3 (by kernel_rfl) rfl ?_
  go_wp2_with (go_at_call 27; refine (to_new (X := fun j => j < V1.heap.size) (next hWV b1) (fun j hj => hj)).mono ?_; rintro e V2 ⟨g2, rfl, b2, t1⟩)
  have b3 := next b1 b2
  refine then_n ⟨HIB.out _ b3, ?_⟩
  try simp only [Act.put, List.setIfInBounds_toArray, List.set_cons_zero, List.set_cons_succ]
  refine inv_take (v := ?v6) [] 7 (HIB.out _ b3) rfl (by kernel_rfl) (by kernel_rfl) (by kernel_rfl) (by kernel_rfl) (by kernel_rfl) (fun _ _ _ h => h) (by kernel_rfl) (fun V hV => ?hy6) ?go6
  case hy6 => (obtain ⟨i0, i1, i2, i3, i4, i5, i6, i7⟩ := hV; go_simp <;> rfl)
  simp only [Act.put, List.setIfInBounds_toArray, List.set_cons_zero, List.set_cons_succ]
  refine inv_list 8 (by kernel_rfl) rfl ?_
  go_wp2_with fail
  refine then_n ⟨HIB.out _ (ba b3), ?_⟩
  try simp only [Act.put, List.setIfInBounds_toArray, List.set_cons_zero, List.set_cons_succ]
  refine inv_list 9 (by kernel_rfl) rfl ?_
  go_wp2_with fail
  refine then_n ⟨HIB.out _ (ba b3), ?_⟩
  try simp only [Act.put, List.setIfInBounds_toArray, List.set_cons_zero, List.set_cons_succ]
  refine inv_done (by kernel_rfl) ?_
  go_wp2_with fail
  go_ret
  have hws := hWV.size
  have hv1 := b1.size
  have hv2 := b2.size
  have hmake : HP w V2 g1 g2 X N K (rows0 zi N M K node M) 0 [] [] := hp_make (a0 := Vd.heap.size) (b0 := V1.heap.size) hws (by omega) (fun j hj => ⟨hXV j hj, by have := hXV j hj; omega⟩) m1 t1 (.inl (Nat.le_refl _)) b2 (Below.refl _ _)
  have b4 : Below V2.heap.size V2 (V2.alloc (.cells #[.pointer (some ⟨g1, 0, none⟩), .pointer (some ⟨g2, 0, none⟩), .int .i64 node, .int .i64 (N : Int)] 42)) := ba (Below.refl _ _)
  have hz4 : V2.heap.size < (V2.alloc (.cells #[.pointer (some ⟨g1, 0, none⟩), .pointer (some ⟨g2, 0, none⟩), .int .i64 node, .int .i64 (N : Int)] 42)).heap.size := by simp
  have hkk := HH.out
  refine ⟨V2.heap.size, g1, g2, rfl, ba (next hB3 b3), ?_⟩
  refine ⟨hmake.step (F := fun _ => False) (Keep.of_below b4) (fun _ h => h.elim) (fun j hj => ?_), by simp, by simp, by simp, by simp, by simp, ⟨by omega, fun hx => by have := hXV _ hx; omega⟩, by omega⟩
  rcases hj with hj | rfl
  · exact ⟨.inl hj, by have := hXV j hj; omega⟩
  · exact ⟨.inr (Nat.le_refl _), hz4⟩
end
theorem wkRows : rows0 [] 2 1 1 0 1 = [⟨0, 0, -1, [0]⟩] := by simp [rows0, remI, wordsI, List.range_succ]
theorem wkNew (w : World) : Calls Try.prog 8 #[.agg #[.int .i64 2, .int .i64 1, .int .i64 1, .int .i64 1, .int .i64 1, .int .i64 1, .int .i64 1, .slice none 0 0], .int .i64 0] w fun e w' => ∃ g g1 g2, e = .returned (.pointer (some ⟨g, 0, none⟩)) ∧ Below w.heap.size w w' ∧ PH w w' g g1 g2 (fun _ => False) 2 1 0 [⟨0, 0, -1, [0]⟩] 0 [] [] := by
  have := hnew_any (w := w) (X := fun _ => False) 2 1 1 1 1 1 1 none 0 0 [] 0 (Below.refl _ _) (fun _ h => h.elim) (sl_nil _) (by omega) (by omega) (by omega) (by omega) (by omega) (by omega) (by decide)
  rw [wkRows] at this
  exact this
theorem wkCk : ckE 2 0 [⟨0, 0, -1, [0]⟩] ⟨1, 1, 0, 7, 0, 0, 0, false, []⟩ = 0 := by decide
theorem wkGr : grantR 0 1 7 0 [⟨0, 0, -1, [0]⟩] = ⟨7, 0, 1, 7, 0, -1, 0, false, [0]⟩ := by simp [grantR, rowL, getK]
theorem wkAsk : askB [] [] 0 = true := by decide
set_option maxHeartbeats 1000000 in
theorem hwakes_any (w : World) : Calls Try.prog 14 #[] w fun e w' => e = .returned (.bool true) ∧ Below w.heap.size w w' := by
  have i0 : In64 0 := by unfold In64; omega
  go_enter Try.func14, Try.ntmps14
  go_upto_region 5 with (first
    | (have mk := h1; clear mk; go_at_call 10; refine (hh_grant h1 ⟨1, 1, 0, 7, 0, 0, 0, false, []⟩ none 0 0 (sl_nil _) i0 wkCk rfl wkAsk (by omega)).mono ?_; rw [wkGr]; rintro e w2 ⟨dd, rfl, hd, hk2, h2⟩; obtain ⟨a5, n5, c5, ed, _⟩ := id hd; subst ed)
    | (go_at_call 8; refine (wkNew w).mono ?_; rintro e w1 ⟨g, g1, g2, rfl, b1, h1⟩))
  have hB1 : Below w.heap.size w w2 := b1.trans (hk2.below (fun j hj => hj.1) b1.size)
  have b3 : Below w2.heap.size w2 (w2.alloc (.cells #[.int .i64 7, .int .i64 0, .int .i64 1, .int .i64 7, .int .i64 0, .int .i64 (-1), .int .i64 0, .bool false, .slice a5 n5 c5] 32)) := ba (Below.refl _ _)
  have bxa : Bx (w2.alloc (.cells #[.int .i64 7, .int .i64 0, .int .i64 1, .int .i64 7, .int .i64 0, .int .i64 (-1), .int .i64 0, .bool false, .slice a5 n5 c5] 32)) w2.heap.size ⟨7, 0, 1, 7, 0, -1, 0, false, [0]⟩ (.slice a5 n5 c5) := Bx.made w2 ⟨7, 0, 1, 7, 0, -1, 0, false, [0]⟩ (.slice a5 n5 c5)
  have h3 := h2.below b3
  have hB2 := next hB1 b3
  clear h1 h2 hk2 b1 hd hB1 b3
  generalize w2.alloc _ = w3 at *
  generalize w2.heap.size = ga at *
  obtain ⟨y0, y1, y2, y3, y4, y5, y6, y7, y8, yf, yl⟩ := id bxa
  have c1 := h3.c1
  go_wp2_with (go_at_call 11; refine (hp_owner h3.hp i0).mono ?_; rw [show ownT (askO [] [] 0 1) 0 = 1 by decide]; rintro e w4 ⟨rfl, rfl⟩)
  go_ret
  exact ⟨rfl, hB2⟩

end Go.Proofs.Ytgeiagndpfdnlaa
end
section
namespace Go.Proofs.Ytgeiagndpfdnlaa
open Go.RowKit Go.Maps
set_option linter.unusedVariables false
set_option maxRecDepth 20000

/-- The error that a request is answered with; 0: none. -/
def hErr (N : Nat) (K node : Int) (L : List Hr) (o : List (Int × Int)) (x : Pk) : Int := if ckE N node L x = 0 then (if x.k = 1 then 0 else ulE N K L o x) else ckE N node L x
section
variable {w wx wy : World} {g g1 g2 n N : Nat} {X Y : Nat → Prop} {K node : Int} {L : List Hr} {o : List (Int × Int)} {q : List Wr}
theorem ck_kind {x : Pk} (h : ckE N node L x = 0) : x.k = 1 ∨ x.k = 2 := by
  unfold ckE at h
  split at h
  · rename_i ht
    unfold tknP at ht
    rw [Bool.and_eq_true] at ht
    exact (of_decide_eq_true ht.2).2.2
  · cases h
theorem hh_err (h : PH w wx g g1 g2 X N K node L n o q) (x : Pk) (a : Option Addr) (m c : Nat) (hsl : Sl wx a m c x.z) (hl : In64 x.l) {E : Int} (he : hErr N K node L o x = E) (hE : E ≠ 0) :
    Calls Try.prog 10 #[.pointer (some ⟨g, 0, none⟩), x.val (.slice a m c)] wx fun e w' => e = .returned (.tuple #[zeroPk.val (.slice none 0 0), .bool false, .int .i64 E]) ∧ Keep (NX w X) wx w' ∧ PH w w' g g1 g2 X N K node L n o q := by
  subst he
  unfold hErr at hE ⊢
  by_cases hc : ckE N node L x = 0
  · rw [if_pos hc] at hE ⊢
    by_cases hk : x.k = 1
    · rw [if_pos hk] at hE; exact absurd rfl hE
    · rw [if_neg hk] at hE ⊢
      exact hh_uerr h x a m c hsl hl hc ((ck_kind hc).resolve_left hk) hE
  · rw [if_neg hc]
    refine (hh_bad h x a m c hsl hl hc).mono ?_
    rintro e w' ⟨rfl, hb⟩
    exact ⟨rfl, Keep.of_below hb, h.below hb⟩
end
theorem cell_new (w : World) (A : Array Value) (t : TypeId) (k : Nat) : (w.alloc (.cells A t)).cell? ⟨w.heap.size, k, none⟩ = A[k]? := by
  have h := heap_alloc_new w (.cells A t)
  have := cell_of_row (w.alloc (.cells A t)) w.heap.size k A t (0, 0) h
  exact this
end Go.Proofs.Ytgeiagndpfdnlaa
end
section
namespace Go.Proofs.Ytgeiagndpfdnlaa
open Go.RowKit Go.Maps
set_option linter.unusedVariables false
set_option maxRecDepth 20000

theorem ckE_at {N : Nat} {node : Int} {L : List Hr} {x : Pk} (hr : x.Right) (h1 : x.t = node) (h2 : x.f < (N : Int)) (h3 : x.k = 1 ∨ x.k = 2) (hh : hasH L x.l = true) : ckE N node L x = 0 := by
  unfold ckE tknP
  rw [(Pk.right_iff _).2 hr, decide_eq_true ⟨h1, h2, h3⟩, hh]
  rfl
section
variable {w wx : World} {g g1 g2 n N : Nat} {X : Nat → Prop} {K node : Int} {L : List Hr} {o : List (Int × Int)} {q : List Wr}
theorem PH.rise (h : PH w wx g g1 g2 X N K node L n o q) : RiseK hOf L := by
  obtain ⟨⟨B1, B2, m, t, h1⟩, ok⟩ := h.hp
  exact m.rise
theorem PH.okT (h : PH w wx g g1 g2 X N K node L n o q) : OkT o := h.hp.2
theorem PH.k1 (h : PH w wx g g1 g2 X N K node L n o q) : 1 ≤ K := by
  obtain ⟨⟨B1, B2, m, t, h1⟩, ok⟩ := h.hp
  exact m.k1
end
/-- A row that is set, with all its words. -/
theorem setR_full {N K l s hd : Int} {L : List Hr} {z : List Int} (hR : RiseK hOf L) (hh : hasH L l = true) (hz : z ≠ []) (ho : setOk N K s hd z.length = true) :
    (setR N K L l s hd z).1 = 0 ∧ rowL (setR N K L l s hd z).2 l = ⟨l, s, hd, z⟩ ∧ ∀ k, hasH (setR N K L l s hd z).2 k = hasH L k := by
  have e : setR N K L l s hd z = (0, putK hOf ⟨l, s, hd, z⟩ L) := by unfold setR; rw [if_pos hh, if_pos ho, if_neg hz]
  rw [e]
  have hg := putH_get hR ⟨l, s, hd, z⟩
  refine ⟨rfl, by unfold rowL; rw [hg]; rfl, fun k => ?_⟩
  unfold hasH
  by_cases hk : k = l
  · subst hk
    rw [hg]
    unfold hasH at hh
    rw [hh]
    rfl
  · have he : ∀ r, getK hOf k (putK hOf (⟨l, s, hd, z⟩ : Hr) L) = some r ↔ getK hOf k L = some r := fun r => by
      constructor
      · intro h
        obtain ⟨m1, m2⟩ := getK_some h
        rcases mem_putK.1 m1 with rfl | ⟨m1, _⟩
        · exact absurd m2.symm hk
        · rw [← m2]; exact getK_mem (key := hOf) hR m1
      · intro h
        obtain ⟨m1, m2⟩ := getK_some h
        rw [← m2]
        exact getK_mem (key := hOf) (rise_put hR) (mem_putK.2 (.inr ⟨m1, fun e => hk (m2.symm.trans e)⟩))
    cases h1 : getK hOf k (putK hOf (⟨l, s, hd, z⟩ : Hr) L) with
    | some r => rw [(he r).1 h1]
    | none =>
      cases h2 : getK hOf k L with
      | none => rfl
      | some r => rw [(he r).2 h2] at h1; cases h1
theorem setOk_true {N K s hd : Int} {n : Nat} (hs : 1 ≤ s ∧ s ≤ 2) (hh : 0 ≤ hd ∧ hd < N) (hn : (n : Int) = K) : setOk N K s hd n = true := by
  have h1 : (s == 0) = false := by simp; omega
  have h2 : (hd == -1) = false := by simp; omega
  unfold setOk
  rw [h1, h2, decide_eq_true (by omega), decide_eq_true (by omega), decide_eq_true (.inr hn)]
  rfl
section
variable {ow nx d : Int}
theorem one_own : ownT [(0, ow)] 0 = ow := rfl
theorem one_askB (h : ow ≠ -1) : askB [(0, ow)] [] 0 = false := decide_eq_false (fun e => h e.1)
theorem one_askO (h : ow ≠ -1) : askO [(0, ow)] [] 0 nx = [(0, ow)] := by unfold askO; rw [one_askB h, if_neg (by simp)]
theorem one_askQ (h : ow ≠ -1) : askQ [(0, ow)] [] 0 nx d = [⟨0, nx, d⟩] := by unfold askQ; rw [one_askB h, if_neg (by simp)]; rfl
theorem one_rdy0 (h : ow ≠ -1) : readyT [(0, ow)] [⟨0, nx, d⟩] = [] := by
  show rdyF [(0, ow)] [] ⟨0, nx, d⟩ = []
  unfold rdyF
  exact if_neg (show ¬ ow = -1 from h)
theorem one_rdy1 : readyT [] [⟨0, nx, d⟩] = [0] := rfl
theorem one_rel : relO [(0, ow)] 0 = [] := rfl
theorem one_next : nextW [⟨0, nx, d⟩] 0 = some ⟨0, nx, d⟩ := rfl
theorem one_nextQ : nextQ [⟨0, nx, d⟩] 0 = [] := rfl
end
theorem one_state {N : Nat} {K ow nx : Int} {L : List Hr} (hN : 1 ≤ N ∧ N ≤ 4) (hh : 0 ≤ nx ∧ nx < (N : Int)) (h0 : hasH L 0 = true) (hne : ow ≠ nx) : hErr N K 0 L [(0, ow)] ⟨2, nx, 0, 0, 0, 0, 1, false, []⟩ = 6 := by
  have e : ckE N 0 L ⟨2, nx, 0, 0, 0, 0, 1, false, []⟩ = 0 := ckE_at ⟨by simp, by simp; omega, by simp, by simp, by simp, by simp, by simp, by simp⟩ rfl hh.2 (.inr rfl) h0
  unfold hErr
  rw [if_pos e, if_neg (by simp)]
  unfold ulE
  rw [if_neg (by show ow ≠ nx; exact hne)]
end Go.Proofs.Ytgeiagndpfdnlaa
end
section
namespace Go.Proofs.Ytgeiagndpfdnlaa
open Go.RowKit Go.Maps
set_option linter.unusedVariables false
set_option maxRecDepth 20000

/-- The first j lines have been asked for twice, each by node 0; no other one has. -/
structure LN (N j : Nat) (ls : List Int) (o : List (Int × Int)) (q : List Wr) : Prop where
  eq : ls = (List.range j).map (fun t : Nat => ((t * N : Nat) : Int))
  out : ∀ l, l ∉ ls → ownT o l = -1 ∧ waitT q l = []
  inn : ∀ l ∈ ls, ownT o l = 0 ∧ waitT q l = [⟨l, 0, 100 + l⟩]
theorem ln_nil (N : Nat) : LN N 0 [] [] [] := ⟨rfl, fun _ _ => ⟨rfl, rfl⟩, fun _ h => by cases h⟩
section
variable {N j : Nat} {ls : List Int} {o : List (Int × Int)} {q : List Wr}
theorem LN.len (h : LN N j ls o q) : ls.length = j := by rw [h.eq]; simp
theorem LN.not (h : LN N j ls o q) (hN : 1 ≤ N) : ((j * N : Nat) : Int) ∉ ls := by
  rw [h.eq]
  intro hm
  obtain ⟨t, ht, e⟩ := List.mem_map.1 hm
  rw [List.mem_range] at ht
  have e2 : t * N = j * N := by exact_mod_cast e
  have := Nat.eq_of_mul_eq_mul_right (by omega) e2
  omega
theorem LN.free (h : LN N j ls o q) (hN : 1 ≤ N) : askB o q ((j * N : Nat) : Int) = true := decide_eq_true (h.out _ (h.not hN))
theorem LN.step (h : LN N j ls o q) (hN : 1 ≤ N) (ok : OkT o) {l : Int} (hl : ((j * N : Nat) : Int) = l) :
    askO o q l 0 = o ++ [(l, 0)] ∧ askQ o q l 0 l = q ∧ askB (o ++ [(l, 0)]) q l = false ∧ LN N (j + 1) (ls ++ [l]) (o ++ [(l, 0)]) (q ++ [⟨l, 0, 100 + l⟩]) := by
  subst hl
  have hf := h.free hN
  have hn := h.not hN
  have h1 := (h.out _ hn).1
  have ho := fun k => own_snoc ok h1 (Int.le_refl 0) k
  refine ⟨by unfold askO; rw [hf, if_pos rfl], by unfold askQ; rw [hf, if_pos rfl], decide_eq_false (fun e => by have := e.1; rw [ho, if_pos rfl] at this; cases this), ?_, fun l hl => ?_, fun l hl => ?_⟩
  · rw [h.eq, List.range_succ, List.map_append]; rfl
  · have hl1 : l ∉ ls := fun e => hl (List.mem_append_left _ e)
    have hl2 : l ≠ ((j * N : Nat) : Int) := fun e => hl (by rw [e]; simp)
    rw [ho, if_neg hl2, wait_snoc, if_neg hl2]
    exact h.out l hl1
  · rw [ho, wait_snoc]
    rcases List.mem_append.1 hl with hm | hm
    · have hne : l ≠ ((j * N : Nat) : Int) := fun e => hn (e ▸ hm)
      rw [if_neg hne, if_neg hne]
      exact h.inn l hm
    · obtain rfl := List.mem_singleton.1 hm
      rw [if_pos rfl, if_pos rfl, (h.out _ hn).2]
      exact ⟨rfl, rfl⟩
end
/-- Node 0 has each line; of each it waits, or it has been granted already. -/
structure LM (ls : List Int) (o : List (Int × Int)) (q : List Wr) (R : List Hr) : Prop where
  own : ∀ l ∈ ls, ownT o l = 0
  no : ∀ l, l ∉ ls → waitT q l = []
  yes : ∀ l ∈ ls, waitT q l = [] ∨ waitT q l = [⟨l, 0, 100 + l⟩]
  has : ∀ l ∈ ls, hasH R l = true
theorem next_head (q : List Wr) (l : Int) : nextW q l = (waitT q l).head? := by
  unfold nextW waitT
  rw [List.head?_filter]
section
variable {ls : List Int} {o : List (Int × Int)} {q : List Wr} {R R' : List Hr}
theorem own_rel (ok : OkT o) {l : Int} (h : ownT o l = 0) (k : Int) : ownT (relO o l) k = if k = l then -1 else ownT o k := by
  obtain ⟨i, hi, _⟩ := own_place ok (Int.le_refl 0) h
  rw [← erase_rel ok hi]
  exact own_erase ok hi k
theorem ok_rel (ok : OkT o) (l : Int) : OkT (relO o l) := ⟨List.Pairwise.sublist List.filter_sublist ok.1, fun p hp => ok.2 p (List.mem_filter.1 hp).1⟩
theorem LM.ready (h : LM ls o q R) (ok : OkT o) {k : Int} (hk : k ∈ ls) (hw : waitT q k ≠ []) : readyT (relO o k) q = [k] := by
  refine ready_eq (by simp [RiseK]) (fun x => ?_)
  rw [own_rel ok (h.own k hk)]
  constructor
  · intro hx
    obtain rfl := List.mem_singleton.1 hx
    exact ⟨if_pos rfl, hw⟩
  · rintro ⟨h1, h2⟩
    by_cases e : x = k
    · rw [e]; simp
    · rw [if_neg e] at h1
      have hx : x ∈ ls := by
        refine Classical.byContradiction fun hn => h2 (h.no x hn)
      have := h.own x hx
      omega
theorem LM.none (h : LM ls o q R) : readyT o q = [] := by
  refine ready_eq List.Pairwise.nil (fun x => ?_)
  constructor
  · intro hx; cases hx
  · rintro ⟨h1, h2⟩
    have hx : x ∈ ls := by
      refine Classical.byContradiction fun hn => h2 (h.no x hn)
    have := h.own x hx
    omega
theorem LM.next (h : LM ls o q R) (ok : OkT o) {k : Int} (hk : k ∈ ls) (hw : waitT q k = [⟨k, 0, 100 + k⟩]) (hR : ∀ x, hasH R' x = hasH R x) :
    nextW q k = some ⟨k, 0, 100 + k⟩ ∧ ownT (relO o k) k = -1 ∧ LM ls (relO o k ++ [(k, 0)]) (nextQ q k) R' := by
  have hn : nextW q k = some ⟨k, 0, 100 + k⟩ := by rw [next_head, hw]; rfl
  have h1 : ownT (relO o k) k = -1 := by rw [own_rel ok (h.own k hk), if_pos rfl]
  obtain ⟨i, hi, hno, hq⟩ := next_place hn
  have hwt := fun x => wait_erase hi hno x
  rw [← hq] at hwt
  refine ⟨hn, h1, fun l hl => ?_, fun l hl => ?_, fun l hl => ?_, fun l hl => by rw [hR]; exact h.has l hl⟩
  · rw [own_snoc (ok_rel ok k) h1 (Int.le_refl 0)]
    split
    · rfl
    · rename_i hne
      rw [own_rel ok (h.own k hk), if_neg hne]
      exact h.own l hl
  · rw [hwt, if_neg (fun e => hl (by rw [show l = k from e]; exact hk))]
    exact h.no l hl
  · rw [hwt]
    split
    · rename_i e
      rw [show l = k from e, hw]
      exact .inl rfl
    · exact h.yes l hl
theorem lm_of {N j : Nat} (h : LN N j ls o q) (hR : ∀ l ∈ ls, hasH R l = true) : LM ls o q R := ⟨fun l hl => (h.inn l hl).1, fun l hl => (h.out l hl).2, fun l hl => .inr (h.inn l hl).2, hR⟩
end
end Go.Proofs.Ytgeiagndpfdnlaa
end
section
namespace Go.Proofs.Ytgeiagndpfdnlaa
open Go.RowKit Go.Maps
set_option linter.unusedVariables false
set_option maxRecDepth 20000

theorem within_nat {v n : Int} {k : Nat} (hk : v % n = (k : Int)) (w : World) (hn0 : 1 ≤ n) (hn1 : n ≤ 1000000) :
    Calls Try.prog 9 #[.int .i64 v, .int .i64 n] w fun e w' => e = .returned (.int .i64 (k : Int)) ∧ w = w' := by
  rw [← hk]
  exact within_any v n w hn0 hn1
set_option maxHeartbeats 1600000 in
set_option maxRecDepth 200000 in
theorem homeLines_walk (w : World) (v : Value) (hv : IsSetup w v) (ah : Option Addr) (nh ch : Nat) (zh : List Int) (hsh : Sl w ah nh ch zh) (xv : Int) :
    Calls Try.prog 6 #[v, .slice ah nh ch, .int .i64 xv] w fun e w' => e = .returned (.bool true) ∧ Below w.heap.size w w' := by
  obtain ⟨n, l, k, s, y, o, i, a0, n0, q0, z0, a1, n1, q1, z1, a2, n2, q2, z2, a3, n3, q3, z3, a4, n4, q4, z4, rfl, h0, h1, h2, h3, h4⟩ := hv
  clear h1 h2 h3 h4
  unfold setup
  go_enter Try.func6, Try.ntmps6
  go_upto_region 2 with (go_at_call 7; refine (config_c _ _ _ _ _ _ _ _ _ _ _ _ _ _ z0 _ (h0.below (by exact ba (Below.refl _ _)))).mono ?_; rintro e w1 ⟨N, L, K, S, Y, O, I, zi, av, nv, cv, rfl, hcf, hnv, hown, hb1⟩; unfold cfg)
  have hB := ba (o := .cells #[.int .i64 (N : Int), .int .i64 (L : Int), .int .i64 (K : Int), .int .i64 (S : Int), .int .i64 (Y : Int), .int .i64 (O : Int), .int .i64 (I : Int), .slice av nv cv] 26) (next (ba (Below.refl _ _)) hb1)
  have hcb := CB.made w1 N L K S Y O I (.slice av nv cv)
  have hsl := (own_sl hown).below (ba (o := .cells #[.int .i64 (N : Int), .int .i64 (L : Int), .int .i64 (K : Int), .int .i64 (S : Int), .int .i64 (Y : Int), .int .i64 (O : Int), .int .i64 (I : Int), .slice av nv cv] 26) (Below.refl _ _))
  have hge : w.heap.size ≤ w1.heap.size := by have := hb1.size; simp at this; omega
  have hlo := hown.lo
  have fz0 : (w1.alloc (.cells #[.int .i64 (N : Int), .int .i64 (L : Int), .int .i64 (K : Int), .int .i64 (S : Int), .int .i64 (Y : Int), .int .i64 (O : Int), .int .i64 (I : Int), .slice av nv cv] 26)).frozen? ⟨w1.heap.size, 0, none⟩ = false := by simp
  generalize w1.alloc (.cells #[.int .i64 (N : Int), .int .i64 (L : Int), .int .i64 (K : Int), .int .i64 (S : Int), .int .i64 (Y : Int), .int .i64 (O : Int), .int .i64 (I : Int), .slice av nv cv] 26) = W at *
  generalize w1.heap.size = gc at *
  have hbd := hcf.bd
  obtain ⟨N0, N1, L0, L1, K0, K1, S0, S1, Y0, Y1, O0, O1, I0, I1⟩ := hcf.bd
  obtain ⟨p0, p2, p3⟩ := mul_bd L0 L1 K0 K1
  have hnk : nv ≤ L * K := by have := hcf.len; have := hnv.out; omega
  obtain ⟨c0, c1, c2, c3, c4, c5, c6, c7, clt⟩ := id hcb
  obtain ⟨N2, hN2⟩ : ∃ N2 : Nat, 1 + N % 2 = N2 := ⟨_, rfl⟩
  have hN2i : 1 + (N : Int) % 2 = (N2 : Int) := by omega
  have hN2b : 1 ≤ N2 ∧ N2 ≤ 2 := by omega
  have HN2 : Hid (1 + (N : Int) % 2 = (N2 : Int)) := hN2i
  clear hN2i hN2
  go_upto_region 3 with fail
  rw [HN2.out]
  have hK2 : Keep (fun j => j = gc) W (W.setCell ⟨gc, 0, none⟩ (.int .i64 (N2 : Int))) := Keep.one W gc 0 _
  have d0 : (W.setCell ⟨gc, 0, none⟩ (.int .i64 (N2 : Int))).cell? ⟨gc, 0, none⟩ = some (.int .i64 (N2 : Int)) := by go_simp
  have d1 : (W.setCell ⟨gc, 0, none⟩ (.int .i64 (N2 : Int))).cell? ⟨gc, 1, none⟩ = some (.int .i64 (L : Int)) := by go_simp
  have d2 : (W.setCell ⟨gc, 0, none⟩ (.int .i64 (N2 : Int))).cell? ⟨gc, 2, none⟩ = some (.int .i64 (K : Int)) := by go_simp
  have d3 : (W.setCell ⟨gc, 0, none⟩ (.int .i64 (N2 : Int))).cell? ⟨gc, 3, none⟩ = some (.int .i64 (S : Int)) := by go_simp
  have d4 : (W.setCell ⟨gc, 0, none⟩ (.int .i64 (N2 : Int))).cell? ⟨gc, 4, none⟩ = some (.int .i64 (Y : Int)) := by go_simp
  have d5 : (W.setCell ⟨gc, 0, none⟩ (.int .i64 (N2 : Int))).cell? ⟨gc, 5, none⟩ = some (.int .i64 (O : Int)) := by go_simp
  have d6 : (W.setCell ⟨gc, 0, none⟩ (.int .i64 (N2 : Int))).cell? ⟨gc, 6, none⟩ = some (.int .i64 (I : Int)) := by go_simp
  have d7 : (W.setCell ⟨gc, 0, none⟩ (.int .i64 (N2 : Int))).cell? ⟨gc, 7, none⟩ = some (.slice av nv cv) := by go_simp
  have hs2 : Sl (W.setCell ⟨gc, 0, none⟩ (.int .i64 (N2 : Int))) av nv cv zi := hsl.far (fun x hx => by have := hlo x hx; show x.block ≠ gc; omega)
  have hB2 : Below w.heap.size w (W.setCell ⟨gc, 0, none⟩ (.int .i64 (N2 : Int))) := hB.setCell hge _
  have clt2 : gc < (W.setCell ⟨gc, 0, none⟩ (.int .i64 (N2 : Int))).heap.size := by simpa using clt
  clear c0 c1 c2 c3 c4 c5 c6 c7 clt hcb hB hK2 fz0 hsl
  generalize World.setCell W _ _ = W2 at *
  have hnew := hnew_any (w := w) (X := fun j => j = gc) N2 L K S Y O I av nv cv zi 0 hB2 (fun j hj => hj ▸ clt2) hs2 hN2b.1 (by omega) (by omega) K0 (by omega) (by omega) (chk_true ⟨hN2b.1, by omega, hbd.L0, hbd.L1, hbd.K0, hbd.K1, hbd.S0, hbd.S1, hbd.Y0, hbd.Y1, hbd.O0, hbd.O1, hbd.I0, hbd.I1⟩ hnk)
  have HH : Hid (∀ t : Nat, t * N2 < L → hasH (rows0 zi N2 L K 0 L) ((t * N2 : Nat) : Int) = true) := fun t ht => hasH_some (rows0_in (by omega) (by omega) (by unfold remI; rw [if_neg (by omega), Int.natCast_mul]; exact Int.mul_emod_left _ _))
  clear hcf hown hb1 h0 hs2 p0 p2 p3 S0 S1 Y0 Y1 O0 O1 I0 I1 hnv hnk hbd
  unfold cfg at hnew
  generalize rows0 zi N2 L K 0 L = R0 at *
  go_upto_region 6 with (go_at_call 8; refine hnew.mono ?_; rintro e w2 ⟨g, g1, g2, rfl, b2, h1⟩; replace hB2 := next hB2 b2; replace d0 := (b2.cell (p := ⟨gc, 0, none⟩) clt2).trans d0; replace d1 := (b2.cell (p := ⟨gc, 1, none⟩) clt2).trans d1; replace d2 := (b2.cell (p := ⟨gc, 2, none⟩) clt2).trans d2; replace clt2 := Nat.lt_of_lt_of_le clt2 b2.size)
  clear hnew d3 d4 d5 d6 d7 b2
  have i0 : In64 0 := by unfold In64; omega
  obtain ⟨le1, mx1⟩ : nh ≤ ch ∧ ch ≤ maxLen := ⟨hsh.le, hsh.max⟩
  unfold maxLen at mx1
  have hws := hB2.size
  go_wp2_with fail
  go_loopw [9, 10] (fun v9 v10 wx => ∃ (j : Nat) (ls : List Int) (o : List (Int × Int)) (q : List Wr) (X Y : Nat → Prop) (al : Option Addr) (m cl : Nat), v9 = .slice al m cl ∧ v10 = .int .i64 ((j * N2 : Nat) : Int) ∧ Rw wx Y al m cl 1 (cells ls) ∧ (∀ k, Y k → X k ∧ w.heap.size ≤ k ∧ k ≠ gc) ∧ X gc ∧ LN N2 j ls o q ∧ j ≤ 4 ∧ (∀ t, t < j → t * N2 < L) ∧ PH w wx g g1 g2 X N2 K 0 R0 (2 * j) o q ∧ (wx.cell? ⟨gc, 0, none⟩ = some (.int .i64 (N2 : Int)) ∧ wx.cell? ⟨gc, 1, none⟩ = some (.int .i64 (L : Int)) ∧ wx.cell? ⟨gc, 2, none⟩ = some (.int .i64 (K : Int)))) (fun _ vi _ => 8 - (intOf vi).toNat)
  case atStart => exact ⟨0, [], [], [], fun j => j = gc, fun _ => False, none, 0, 0, rfl, by simp, rw_nil _ _ _, fun _ h => h.elim, rfl, ln_nil N2, by omega, fun t ht => by omega, h1, d0, d1, d2⟩
  case round =>
    obtain ⟨j, ls, o, q, X, Y, al, m, cl, rfl, rfl, rw0, hY, hXc, hLN, hj4, htl, hx, e0, e1, e2⟩ := hrel
    have elt := hx.xl gc hXc
    by_cases hlt : j * N2 < L
    · obtain ⟨ln, hln⟩ : ∃ ln : Nat, j * N2 = ln := ⟨_, rfl⟩
      have hj3 : j < 4 := by
        have : j * 1 ≤ j * N2 := Nat.mul_le_mul_left j hN2b.1
        omega
      have HLN : Hid (j * N2 = ln) := hln
      have hml : ls.length = m := by have := rw0.len; simp [cells] at this; omega
      have hcm := rw0.max
      unfold maxLen at hcm
      have hll : (ln : Int) < (L : Int) := by omega
      have hm4 : m ≤ 4 := by have := hLN.len; omega
      rw [hln]
      rw [hln] at hlt
      clear hln
      have hin0 := hLN.step hN2b.1 hx.okT (l := (ln : Int)) (by rw [HLN.out])
      obtain ⟨ea1, ea2, ea3, hLN'⟩ := hin0
      have HA : Hid (askB o q (ln : Int) = true ∧ askO o q (ln : Int) 0 = o ++ [((ln : Int), 0)] ∧ askQ o q (ln : Int) 0 (ln : Int) = q) := ⟨by have := hLN.free hN2b.1; rw [HLN.out] at this; exact this, ea1, ea2⟩
      have HA2 : Hid (askB (o ++ [((ln : Int), 0)]) q (ln : Int) = false ∧ askO (o ++ [((ln : Int), 0)]) q (ln : Int) 0 = o ++ [((ln : Int), 0)] ∧ askQ (o ++ [((ln : Int), 0)]) q (ln : Int) 0 (100 + (ln : Int)) = q ++ [⟨(ln : Int), 0, 100 + (ln : Int)⟩]) := ⟨ea3, by unfold askO; rw [ea3]; rfl, by unfold askQ; rw [ea3]; rfl⟩
      have HRL : Hid (hasH R0 (ln : Int) = true) := by have := HH.out j (by rw [HLN.out]; exact hlt); rw [HLN.out] at this; exact this
      have HT : Hid (In64 (ln : Int) ∧ ckE N2 0 R0 ⟨1, 0, 0, (ln : Int), (ln : Int), 0, 0, false, []⟩ = 0 ∧ ckE N2 0 R0 ⟨1, 0, 0, 100 + (ln : Int), (ln : Int), 0, 0, false, []⟩ = 0) :=
        ⟨by unfold In64; omega, ckE_at ⟨by simp, by simp, by simp, by simp; omega, by simp; omega, by simp, by simp, by simp⟩ rfl (by simp; omega) (.inl rfl) HRL.out, ckE_at ⟨by simp, by simp, by simp, by simp; omega, by simp; omega, by simp, by simp, by simp⟩ rfl (by simp; omega) (.inl rfl) HRL.out⟩
      have HNN : Hid (2 * j ≤ 1000 ∧ 2 * j + 1 ≤ 1000) := ⟨by omega, by omega⟩
      clear ea1 ea2 ea3 hLN HRL
      have bV : Below wr.heap.size wr (wr.alloc (.cells #[.int .i64 (ln : Int)] 3)) := ba (Below.refl _ _)
      obtain ⟨i1, hi1, hp0, hp1, hp2⟩ := info_parts Try.infoInt
      go_upto_region 11 with (at_builtin; refine wpList_append_rw _ Y rfl _ _ 22 rfl 3 i1 (.int .i64 0) 1 8 Try.underlying22 hi1 hp0 hp1 hp2 rfl (by decide) al m cl (cells ls) rfl (rw0.below bV) ⟨_, 0, none⟩ 1 1 (cells [(ln : Int)]) rfl (by omega) rfl (cell_i1 _ _) (cells_one _) (by unfold maxLen; omega) (by omega) ?_; intro a8 c8 w8 hrw8 hk8)
      have e8 : cells ls ++ cells [(ln : Int)] = cells (ls ++ [(ln : Int)]) := by simp [cells]
      rw [e8] at hrw8
      have hsz := bV.size
      have hsz8 := hk8.size
      have hKw : Keep Y wr w8 := Keep.pre bV hk8
      have hwr : w.heap.size ≤ wr.heap.size := hx.bel.size
      obtain ⟨X2, h2, HXC, HY2⟩ : ∃ X2 : Nat → Prop, PH w w8 g g1 g2 X2 N2 K 0 R0 (2 * j) o q ∧ Hid (X2 gc) ∧ Hid (∀ k, (Y k ∨ (wr.heap.size ≤ k ∧ k < w8.heap.size)) → X2 k ∧ w.heap.size ≤ k ∧ k ≠ gc) :=
        ⟨fun k => X k ∨ (wr.heap.size ≤ k ∧ k < w8.heap.size), hx.step hKw (fun k hk => ⟨(hY k hk).2.1, .inl (hY k hk).1⟩) (fun k hk => by
          rcases hk with hk | hk
          · exact ⟨.inl hk, by have := hx.xl k hk; omega⟩
          · exact ⟨.inr hk.1, hk.2⟩), .inl hXc, fun k hk => by
          rcases hk with hk | hk
          · exact ⟨.inl (hY k hk).1, (hY k hk).2⟩
          · exact ⟨.inr hk, by omega, by omega⟩⟩
      have ngc : ¬ Y gc := fun h => (hY gc h).2.2 rfl
      replace e0 := (hKw.cell (b := gc) 0 elt ngc).trans e0
      replace e1 := (hKw.cell (b := gc) 1 elt ngc).trans e1
      replace e2 := (hKw.cell (b := gc) 2 elt ngc).trans e2
      replace hrw8 := hrw8.imp (T := fun k => Y k ∨ (wr.heap.size ≤ k ∧ k < w8.heap.size)) (fun k hk h => h.imp id (fun h => ⟨by omega, hk⟩))
      have hlt8 := Nat.lt_of_lt_of_le elt hKw.size
      clear hx hKw hk8 bV rw0 hY hsz hsz8 ngc hwr hXc e8 elt hcm hml
      obtain ⟨Y2, hY2⟩ : ∃ Y2, (fun k => Y k ∨ (wr.heap.size ≤ k ∧ k < w8.heap.size)) = Y2 := ⟨_, rfl⟩
      have HYY : Hid (∀ k, Y2 k → X2 k ∧ w.heap.size ≤ k ∧ k ≠ gc) := fun k hk => HY2.out k (by rw [← hY2] at hk; exact hk)
      rw [hY2] at hrw8
      clear HY2 hY2
      obtain ⟨ph, ps, pz, hP⟩ : ∃ ph ps pz, grantR 0 0 (ln : Int) (ln : Int) R0 = ⟨7, 0, 0, (ln : Int), (ln : Int), ph, ps, false, pz⟩ := ⟨_, _, _, rfl⟩
      have HP : Hid (grantR 0 0 (ln : Int) (ln : Int) R0 = ⟨7, 0, 0, (ln : Int), (ln : Int), ph, ps, false, pz⟩) := hP
      have HNX : Hid (¬ NX w X2 gc) := fun h => h.2 HXC.out
      have HNY : Hid (∀ k, Y2 k → ¬ NX w X2 k) := fun k hk h => h.2 (HYY.out k hk).1
      clear hP
      go_upto_region 12 with (go_at_call 10; refine (hh_grant h2 ⟨1, 0, 0, (ln : Int), (ln : Int), 0, 0, false, []⟩ none 0 0 (sl_nil _) HT.out.1 HT.out.2.1 rfl HA.out.1 HNN.out.1).mono ?_; rw [HA.out.2.1, HA.out.2.2, HP.out]; rintro e W3 ⟨dd, rfl, hdd, hk3, h3⟩; obtain ⟨a5, n5, c5, ed, -⟩ := id hdd; subst ed; clear hdd)
      have b3 : Below W3.heap.size W3 (W3.alloc (.cells #[.int .i64 7, .int .i64 0, .int .i64 0, .int .i64 (ln : Int), .int .i64 (ln : Int), .int .i64 ph, .int .i64 ps, .bool false, .slice a5 n5 c5] 32)) := ba (Below.refl _ _)
      have y3 : (W3.alloc (.cells #[.int .i64 7, .int .i64 0, .int .i64 0, .int .i64 (ln : Int), .int .i64 (ln : Int), .int .i64 ph, .int .i64 ps, .bool false, .slice a5 n5 c5] 32)).cell? ⟨W3.heap.size, 3, none⟩ = some (.int .i64 (ln : Int)) := by simp
      have y4 : (W3.alloc (.cells #[.int .i64 7, .int .i64 0, .int .i64 0, .int .i64 (ln : Int), .int .i64 (ln : Int), .int .i64 ph, .int .i64 ps, .bool false, .slice a5 n5 c5] 32)).cell? ⟨W3.heap.size, 4, none⟩ = some (.int .i64 (ln : Int)) := by simp
      have hlt3 := Nat.lt_of_lt_of_le hlt8 hk3.size
      have ec := fun k => (b3.cell (p := ⟨gc, k, none⟩) hlt3).trans (hk3.cell (b := gc) k hlt8 HNX.out)
      replace e0 := (ec 0).trans e0
      replace e1 := (ec 1).trans e1
      replace e2 := (ec 2).trans e2
      replace hrw8 := (hrw8.keep hk3 HNY.out).below b3
      have h4 := h3.below b3
      replace hlt8 := Nat.lt_of_lt_of_le hlt3 b3.size
      clear h2 h3 hk3 b3 hlt3 ec HA HP
      generalize World.alloc W3 _ = W4 at *
      go_upto_region 14 with fail
      clear y3 y4
      go_upto_region 15 with (go_at_call 10; refine (hh_wait h4 ⟨1, 0, 0, 100 + (ln : Int), (ln : Int), 0, 0, false, []⟩ none 0 0 (sl_nil _) HT.out.1 HT.out.2.2 rfl HA2.out.1 HNN.out.2).mono ?_; rw [HA2.out.2.1, HA2.out.2.2]; rintro e W5 ⟨rfl, hk5, h5⟩)
      have b5 : Below W5.heap.size W5 (W5.alloc (.cells #[.int .i64 zeroPk.k, .int .i64 zeroPk.f, .int .i64 zeroPk.t, .int .i64 zeroPk.i, .int .i64 zeroPk.l, .int .i64 zeroPk.p, .int .i64 zeroPk.s, .bool zeroPk.fl, .slice none 0 0] 32)) := ba (Below.refl _ _)
      have hlt5 := Nat.lt_of_lt_of_le hlt8 hk5.size
      have ec := fun k => (b5.cell (p := ⟨gc, k, none⟩) hlt5).trans (hk5.cell (b := gc) k hlt8 HNX.out)
      replace e0 := (ec 0).trans e0
      replace e1 := (ec 1).trans e1
      replace e2 := (ec 2).trans e2
      replace hrw8 := (hrw8.keep hk5 HNY.out).below b5
      have h6 := h5.below b5
      clear h4 h5 hk5 b5 hlt5 ec HA2 hlt8 HT HNN
      generalize World.alloc W5 _ = W6 at *
      have hnum : (ln : Int) + (N2 : Int) = (((j + 1) * N2 : Nat) : Int) := by have := HLN.out; rw [Nat.add_mul, this]; omega
      have HNU : Hid ((ln : Int) + (N2 : Int) = (((j + 1) * N2 : Nat) : Int)) := hnum
      clear hnum
      go_wp2_with fail
      go_roundw
      case rel => exact ⟨j + 1, ls ++ [(ln : Int)], _, _, X2, Y2, a8, m + 1, c8, rfl, by rw [← HNU.out], hrw8, HYY.out, HXC.out, hLN', by omega, fun t ht => by
        rcases Nat.lt_or_ge t j with h | h
        · exact htl t h
        · obtain rfl : t = j := by omega
          rw [HLN.out]; exact hlt, h6, e0, e1, e2⟩
      case measure => have := HNU.out; simp [intOf]; omega
    · have hlt' : ¬ ((j * N2 : Nat) : Int) < (L : Int) := by omega
      have hj1 : 1 ≤ j := by
        rcases Nat.eq_zero_or_pos j with h | h
        · subst h; simp at hlt; omega
        · exact h
      have hlen := hLN.len
      have hml : ls.length = m := by have := rw0.len; simp [cells] at this; omega
      have hlm : LM ls o q R0 := lm_of hLN (fun l hl => by
        rw [hLN.eq] at hl
        obtain ⟨t, ht, rfl⟩ := List.mem_map.1 hl
        exact HH.out t (htl t (List.mem_range.1 ht)))
      have hll : ∀ l ∈ ls, 0 ≤ l ∧ l < (L : Int) := fun l hl => by
        rw [hLN.eq] at hl
        obtain ⟨t, ht, rfl⟩ := List.mem_map.1 hl
        have := htl t (List.mem_range.1 ht)
        omega
      have HML : Hid (ls.length = m ∧ 1 ≤ m ∧ m ≤ 4) := ⟨hml, by omega, by omega⟩
      have HLL : Hid (∀ l ∈ ls, 0 ≤ l ∧ l < (L : Int)) := hll
      have HL8 : Hid ((L : Int) ≤ 4 ∧ j ≤ 4) := ⟨by omega, hj4⟩
      have hcm := rw0.max
      unfold maxLen at hcm
      clear hLN htl hlo h1 hB2 d0 d1 d2 clt2 hws e0 HH hlen hml hll
      have HMK : ∀ w : World, (Instr.makeSlice 22 (.int .i64 (K : Int)) (.int .i64 (K : Int))).run Try.prog w = .ok (.slice (some ⟨w.heap.size, 0, none⟩) K K) (w.alloc (.cells (cells (List.replicate K 0)).toArray 3)) := fun w => make_row K (by omega) w
      obtain ⟨lend, hle⟩ : ∃ lend : Int, ((j * N2 : Nat) : Int) = lend := ⟨_, rfl⟩
      rw [hle]
      rw [hle] at hlt'
      clear hle hlt
      go_upto_region 18 with fail
      clear e1 hlt'
      have own : Own (wr.alloc (.cells (cells (List.replicate K 0)).toArray 3)) wr.heap.size (.slice (some ⟨wr.heap.size, 0, none⟩) K K) (List.replicate K 0) := own_row (heap_alloc_new _ _) (by simp) (Nat.le_refl _) (by unfold maxLen; omega)
      have bV : Below wr.heap.size wr (wr.alloc (.cells (cells (List.replicate K 0)).toArray 3)) := ba (Below.refl _ _)
      have hgf : wr.heap.size < (wr.alloc (.cells (cells (List.replicate K 0)).toArray 3)).heap.size := by simp
      have hwr : w.heap.size ≤ wr.heap.size := hx.bel.size
      obtain ⟨X3, h2, HX3⟩ : ∃ X3 : Nat → Prop, PH w (wr.alloc (.cells (cells (List.replicate K 0)).toArray 3)) g g1 g2 X3 N2 K 0 R0 (2 * j) o q ∧ Hid (X3 gc ∧ X3 wr.heap.size ∧ (∀ k, Y k → X3 k) ∧ w.heap.size ≤ wr.heap.size ∧ gc ≠ wr.heap.size) :=
        ⟨fun k => X k ∨ k = wr.heap.size, hx.step (F := fun _ => False) (Keep.of_below bV) (fun _ h => h.elim) (fun k hk => by
          rcases hk with hk | rfl
          · exact ⟨.inl hk, by have := hx.xl k hk; omega⟩
          · exact ⟨.inr (Nat.le_refl _), hgf⟩), .inl hXc, .inr rfl, fun k hk => .inl (hY k hk).1, hwr, by omega⟩
      have rw1 := rw0.below bV
      have HYG : Hid (∀ k, Y k → k ≠ wr.heap.size) := fun k hk e => by have := hx.xl k (hY k hk).1; omega
      replace e2 := (bV.cell (p := ⟨gc, 2, none⟩) elt).trans e2
      replace elt := Nat.lt_of_lt_of_le elt bV.size
      clear hx rw0 hY hXc bV HMK hgf hwr
      generalize World.alloc wr _ = V0 at *
      generalize wr.heap.size = gd at *
      clear wr
      go_wp2_with fail
      go_loopw [18] (fun v18 wx => ∃ (i : Nat) (o : List (Int × Int)) (q : List Wr) (n : Nat) (R : List Hr) (z : List Int), v18 = .int .i64 (i : Int) ∧ i ≤ 10 ∧ i ≤ nh ∧ LM ls o q R ∧ Own wx gd (.slice (some ⟨gd, 0, none⟩) K K) z ∧ z.length = K ∧ n ≤ 8 + i ∧ PH w wx g g1 g2 X3 N2 K 0 R n o q ∧ Rw wx Y al m cl 1 (cells ls) ∧ wx.cell? ⟨gc, 2, none⟩ = some (.int .i64 (K : Int))) (fun vi _ => 10 - (intOf vi).toNat)
      case atStart => exact ⟨0, o, q, 2 * j, R0, _, rfl, by omega, by omega, hlm, own, by simp, by have := HL8.out.2; omega, h2, rw1, e2⟩
      case round =>
        clear hlm own h2 rw1 e2 elt
        clear o q
        obtain ⟨i, o, q, n, R, z, rfl, hi10, hin, hM, own, hzl, hn, hx, rw1, e2⟩ := hrel
        have elt := hx.xl gc HX3.out.1
        by_cases hlt : i < nh ∧ i < 10
        · obtain ⟨hlh, hl10⟩ := hlt
          have hl10' : (i : Int) < 10 := by omega
          have hlh' : (i : Int) < (nh : Int) := by omega
          obtain ⟨hml, hm1, hm4⟩ := HML.out
          obtain ⟨bh, oh, eah, hlth, hch⟩ := (hsh.below hx.bel).at hlh
          subst eah
          generalize zh[i]?.getD 0 = yv at *
          obtain ⟨kx, hkx, hkm⟩ : ∃ kx : Nat, yv % (m : Int) = (kx : Int) ∧ kx < m := ⟨(yv % (m : Int)).toNat, by have := Int.emod_nonneg yv (b := (m : Int)) (by omega); omega, by have := Int.emod_lt_of_pos yv (b := (m : Int)) (by omega); have := Int.emod_nonneg yv (b := (m : Int)) (by omega); omega⟩
          obtain ⟨bl, ol, eal, hltl, hcl⟩ := (slv_cells rw1.slv).at hkm
          subst eal
          obtain ⟨kl, hkl⟩ : ∃ kl, ls[kx]?.getD 0 = kl := ⟨_, rfl⟩
          have hkmem : kl ∈ ls := by
            rw [List.getElem?_eq_getElem (by omega)] at hkl
            rw [← hkl]
            exact List.getElem_mem _
          rw [hkl] at hcl
          have HKX : Hid (yv % (m : Int) = (kx : Int)) := hkx
          clear hkl hkx
          have hkb := HLL.out kl hkmem
          have HI : Hid (In64 kl ∧ 0 ≤ kl ∧ kl < 4 ∧ n ≤ 1000 ∧ i < 10 ∧ n ≤ 8 + i) := ⟨by have := HL8.out.1; unfold In64; omega, hkb.1, by have := HL8.out.1; omega, by omega, hl10, hn⟩
          go_upto_region 22 with (go_at_call 9; refine (within_nat HKX.out _ (by omega) (by omega)).mono ?_; rintro e wx ⟨rfl, rfl⟩)
          clear hlth hch hltl hcl hkb hn hml hm1 hm4
          have c1 := hx.c1
          have HOW : Hid (ownT o kl = 0) := hM.own kl hkmem
          rcases hM.yes kl hkmem with hw0 | hw1
          · have HW0 : Hid ((waitT q kl).length = 0) := by show _ = _; rw [hw0]; rfl
            clear hw0
            go_wp2_with (first
              | (go_at_call 11; refine (hp_owner hx.hp HI.out.1).mono ?_; rw [HOW.out]; rintro e V1 ⟨rfl, rfl⟩)
              | (go_at_call 12; refine (hp_waiting hx.hp HI.out.1).mono ?_; rw [HW0.out]; rintro e V1 ⟨rfl, rfl⟩))
            go_roundw
            case rel => exact ⟨i + 1, o, q, n, R, z, by go_num, by omega, by omega, hM, own, hzl, by have := HI.out.2.2.2.2.2; omega, hx, rw1, e2⟩
            case measure => simp [intOf]; omega
          · have HW1 : Hid ((waitT q kl).length = 1) := by show _ = _; rw [hw1]; rfl
            have HRH : Hid (hasH R kl = true) := hM.has kl hkmem
            obtain ⟨⟨yz, hyz⟩, hfz⟩ := own.cell1 (k := 0) hzl (by omega)
            have HRDY : Hid (readyT (relO o kl) q = [kl]) := hM.ready hx.okT hkmem (by rw [hw1]; simp)
            have HM : Hid (LM ls o q R ∧ OkT o ∧ kl ∈ ls ∧ waitT q kl = [⟨kl, 0, 100 + kl⟩]) := ⟨hM, hx.okT, hkmem, hw1⟩
            clear hM hkmem hw1
            go_upto_region 24 with (first
              | (go_at_call 11; refine (hp_owner hx.hp HI.out.1).mono ?_; rw [HOW.out]; rintro e V1 ⟨rfl, rfl⟩)
              | (go_at_call 12; refine (hp_waiting hx.hp HI.out.1).mono ?_; rw [HW1.out]; rintro e V1 ⟨rfl, rfl⟩))
            obtain ⟨XV, hXV⟩ : ∃ XV, wrap64 (xv + kl) = XV := ⟨_, rfl⟩
            have HXV : Hid (wrap64 (xv + kl) = XV) := hXV
            rw [hXV]
            clear hXV
            have own1 := own.set1 hzl (k := 0) (by omega) XV
            have hzl1 : (z.set 0 XV).length = K := by simp [hzl]
            have hz0 : (z.set 0 XV)[0]?.getD 0 = XV := by rw [List.getElem?_set_self (by omega)]; rfl
            have hK1 : Keep (fun k => k = gd) wr (wr.setCell ⟨gd, 0, none⟩ (.int .i64 XV)) := Keep.one wr gd 0 _
            have h2 : PH w (wr.setCell ⟨gd, 0, none⟩ (.int .i64 XV)) g g1 g2 X3 N2 K 0 R n o q := hx.step hK1 (fun k hk => by rw [hk]; exact ⟨HX3.out.2.2.2.1, .inl HX3.out.2.1⟩) (fun k hk => ⟨.inl hk, by have := hx.xl k hk; simpa using this⟩)
            have rw2 := rw1.keep hK1 (fun k hk e => HYG.out k hk e)
            have e3 := (hK1.cell (b := gc) 2 elt HX3.out.2.2.2.2).trans e2
            have elt3 := Nat.lt_of_lt_of_le elt hK1.size
            clear own hzl hx rw1 e2 elt hK1 hyz hfz c1
            generalize World.setCell wr _ _ = W1 at *
            generalize z.set 0 XV = zz at *
            have hzz : zz ≠ [] := fun e => by rw [e] at hzl1; simp at hzl1; omega
            have hs9 := setR_full (N := (N2 : Int)) (K := K) (s := 2) (hd := 0) (z := zz) h2.rise HRH.out hzz (setOk_true ⟨by omega, by omega⟩ ⟨by omega, by have := hN2b.1; omega⟩ (by rw [hzl1]))
            obtain ⟨R2, hR2⟩ : ∃ R2, (setR N2 K R kl 2 0 (unlD ⟨2, 0, 0, 0, kl, 0, 2, true, zz⟩)).2 = R2 := ⟨_, rfl⟩
            have HS : Hid ((setR N2 K R kl 2 0 (unlD ⟨2, 0, 0, 0, kl, 0, 2, true, zz⟩)).1 = 0 ∧ rowL R2 kl = ⟨kl, 2, 0, zz⟩ ∧ ∀ k, hasH R2 k = hasH R k) := by rw [← hR2]; exact hs9
            have HT2 : Hid (ckE N2 0 R ⟨2, 0, 0, 0, kl, 0, 2, true, zz⟩ = 0) := by
              obtain ⟨_, w2, w3, _⟩ := HI.out
              exact ckE_at ⟨by simp, by simp, by simp, by simp, by simp; omega, by simp, by simp, by simp; omega⟩ rfl (by simp; omega) (.inr rfl) HRH.out
            have HNX : Hid (¬ NX w X3 gc ∧ ¬ NX w X3 gd ∧ ∀ k, Y k → ¬ NX w X3 k) := ⟨fun h => h.2 HX3.out.1, fun h => h.2 HX3.out.2.1, fun k hk h => h.2 (HX3.out.2.2.1 k hk)⟩
            have HR2 : Hid ((setR N2 K R kl 2 0 (unlD ⟨2, 0, 0, 0, kl, 0, 2, true, zz⟩)).2 = R2) := hR2
            have HZ : Hid (zz.length = K ∧ zz[0]?.getD 0 = XV) := ⟨hzl1, hz0⟩
            clear hs9 hzz hR2 hzl1 hz0
            go_upto_region 25 with (go_at_call 10; refine (hh_uok h2 ⟨2, 0, 0, 0, kl, 0, 2, true, zz⟩ (some ⟨gd, 0, none⟩) K K (own_sl own1) HI.out.1 HT2.out rfl HOW.out HS.out.1).mono ?_; rw [HR2.out]; rintro e V10 ⟨rfl, hk10, h10⟩)
            have b8 : Below V10.heap.size V10 (V10.alloc (.cells #[.int .i64 8, .int .i64 0, .int .i64 0, .int .i64 0, .int .i64 kl, .int .i64 0, .int .i64 0, .bool false, .slice none 0 0] 32)) := ba (Below.refl _ _)
            have own2 := (own1.keep1 hk10 HNX.out.2.1).below b8
            have rw3 := (rw2.keep hk10 HNX.out.2.2).below b8
            have elt4 := Nat.lt_of_lt_of_le elt3 hk10.size
            have e4 := (b8.cell (p := ⟨gc, 2, none⟩) elt4).trans ((hk10.cell (b := gc) 2 elt3 HNX.out.1).trans e3)
            have h11 := h10.below b8
            replace elt4 := Nat.lt_of_lt_of_le elt4 b8.size
            clear own1 rw2 elt3 e3 hk10 h10 h2 b8 HT2 HR2
            generalize World.alloc V10 _ = V11 at *
            have HNQ : Hid (nextW q kl = some ⟨kl, 0, 100 + kl⟩ ∧ ownT (relO o kl) kl = -1 ∧ LM ls (relO o kl ++ [(kl, 0)]) (nextQ q kl) R2) := HM.out.1.next HM.out.2.1 HM.out.2.2.1 HM.out.2.2.2 HS.out.2.2
            have HGQ : Hid (grantR 0 0 (100 + kl) kl R2 = ⟨7, 0, 0, 100 + kl, kl, 0, 2, false, zz⟩) := by show _ = _; unfold grantR; rw [HS.out.2.1]
            go_upto_region 28 with (go_at_call 16; refine (hgr_ok h11 HI.out.2.2.2.1 (l := kl) (v := 0) (d := 100 + kl) (rest := []) HRDY.out HI.out.1 HNQ.out.2.1 (by omega) HNQ.out.1).mono ?_; rw [HGQ.out]; rintro e V14 ⟨dd, rfl, hdd, hk14, h14⟩; obtain ⟨a6, n6, c6, ed, sq, -⟩ := id hdd; subst ed; clear hdd)
            have bb : Below V14.heap.size V14 (V14.alloc (.cells #[.int .i64 7, .int .i64 0, .int .i64 0, .int .i64 (100 + kl), .int .i64 kl, .int .i64 0, .int .i64 2, .bool false, .slice a6 n6 c6] 32)) := ba (Below.refl _ _)
            have z3 : (V14.alloc (.cells #[.int .i64 7, .int .i64 0, .int .i64 0, .int .i64 (100 + kl), .int .i64 kl, .int .i64 0, .int .i64 2, .bool false, .slice a6 n6 c6] 32)).cell? ⟨V14.heap.size, 3, none⟩ = some (.int .i64 (100 + kl)) := by simp
            have z4 : (V14.alloc (.cells #[.int .i64 7, .int .i64 0, .int .i64 0, .int .i64 (100 + kl), .int .i64 kl, .int .i64 0, .int .i64 2, .bool false, .slice a6 n6 c6] 32)).cell? ⟨V14.heap.size, 4, none⟩ = some (.int .i64 kl) := by simp
            have z5 : (V14.alloc (.cells #[.int .i64 7, .int .i64 0, .int .i64 0, .int .i64 (100 + kl), .int .i64 kl, .int .i64 0, .int .i64 2, .bool false, .slice a6 n6 c6] 32)).cell? ⟨V14.heap.size, 5, none⟩ = some (.int .i64 0) := by simp
            have z6 : (V14.alloc (.cells #[.int .i64 7, .int .i64 0, .int .i64 0, .int .i64 (100 + kl), .int .i64 kl, .int .i64 0, .int .i64 2, .bool false, .slice a6 n6 c6] 32)).cell? ⟨V14.heap.size, 6, none⟩ = some (.int .i64 2) := by simp
            have z8 : (V14.alloc (.cells #[.int .i64 7, .int .i64 0, .int .i64 0, .int .i64 (100 + kl), .int .i64 kl, .int .i64 0, .int .i64 2, .bool false, .slice a6 n6 c6] 32)).cell? ⟨V14.heap.size, 8, none⟩ = some (.slice a6 n6 c6) := by simp
            have sq1 : Sl (V14.alloc (.cells #[.int .i64 7, .int .i64 0, .int .i64 0, .int .i64 (100 + kl), .int .i64 kl, .int .i64 0, .int .i64 2, .bool false, .slice a6 n6 c6] 32)) a6 n6 c6 zz := Sl.below sq bb
            have own4 := (own2.keep1 hk14 HNX.out.2.1).below bb
            have rw4 := (rw3.keep hk14 HNX.out.2.2).below bb
            have e5 := (bb.cell (p := ⟨gc, 2, none⟩) (Nat.lt_of_lt_of_le elt4 hk14.size)).trans ((hk14.cell (b := gc) 2 elt4 HNX.out.1).trans e4)
            have h15 := h14.below bb
            clear own2 rw3 elt4 e4 hk14 h14 h11 bb HNX HGQ HRDY HRH HW1 HOW HM HS sq
            generalize World.alloc V14 _ = V15 at *
            generalize V14.heap.size = gq at *
            have hn6 : n6 = K := by have := sq1.len; rw [← this]; exact HZ.out.1
            subst hn6
            obtain ⟨b6, o6, e6, l6, q6⟩ := sq1.at (k := 0) (by omega)
            subst e6
            rw [HZ.out.2] at q6
            have q6' : V15.cell? ⟨b6, o6, none⟩ = some (.int .i64 XV) := q6
            clear q6 sq1
            have hXV := HXV.out
            have hkl0 : 0 ≤ kl := HI.out.2.1
            have hkl4 : kl < 4 := HI.out.2.2.1
            go_wp2_with fail
            go_roundw
            case rel => exact ⟨i + 1, _, _, n + 1, R2, zz, by go_num, by omega, by omega, HNQ.out.2.2, own4, HZ.out.1, by have := HI.out.2.2.2.2.2; omega, h15, rw4, e5⟩
            case measure => simp [intOf]; omega
        · have hbel := hx.bel
          have HN : Hid (n ≤ 1000) := by show _ ≤ _; omega
          have HPE : Hid (decide (0 < (readyT o q).length) = false) := by show _ = _; rw [hM.none]; rfl
          clear own rw1 e2 elt hM hzl hn
          by_cases hi : i < nh
          · have hi2 : ¬ (i : Int) < 10 := by omega
            have hi3 : (i : Int) < (nh : Int) := by omega
            clear hlt hi10 hin
            go_wp2_with (first
              | (go_at_call 13; refine (hpend_any hx HN.out false HPE.out).mono ?_; rintro e V20 ⟨rfl, b20⟩)
              | (go_at_call 14; refine (hwakes_any _).mono ?_; rintro e V23 ⟨rfl, b23⟩))
            go_ret
            exact ⟨rfl, next (next hbel b20) b23⟩
          · have hi3 : ¬ (i : Int) < (nh : Int) := by omega
            clear hlt hi10 hin
            go_wp2_with (first
              | (go_at_call 13; refine (hpend_any hx HN.out false HPE.out).mono ?_; rintro e V20 ⟨rfl, b20⟩)
              | (go_at_call 14; refine (hwakes_any _).mono ?_; rintro e V23 ⟨rfl, b23⟩))
            go_ret
            exact ⟨rfl, next (next hbel b20) b23⟩
end Go.Proofs.Ytgeiagndpfdnlaa
end
