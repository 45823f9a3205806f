/- The program's home: Handle of an Unlock. Conditions: as each theorem states them. -/
import Derived.Test.YtgeiagndpfdnlaaHm5
namespace Go.Proofs.Ytgeiagndpfdnlaa
open Go.RowKit Go.Maps
set_option linter.unusedVariables false
set_option maxRecDepth 20000

/-- What an Unlock is answered. -/
def ulE (N K : Int) (L : List Hr) (o : List (Int × Int)) (x : Pk) : Int := if ownT o x.l = x.f then (setR N K L x.l x.s x.p (unlD x)).1 else 6
section
variable {w wx wy : World} {g g1 g2 n N : Nat} {X Y : Nat → Prop} {K node : Int} {L : List Hr} {o : List (Int × Int)} {q : List Wr}
theorem hunlock_bad (h : PH w wx g g1 g2 X N K node L n o q) (x : Pk) (a : Option Addr) (m c : Nat) (hsl : Sl wx a m c x.z) (hl : In64 x.l) (hf : 0 ≤ x.f) (hz : x.z.length ≤ 1000) (he : ulE N K L o x ≠ 0) :
    Calls Try.prog 30 #[.pointer (some ⟨g, 0, none⟩), x.val (.slice a m c)] wx fun e w' => e = .returned (.int .i64 (ulE N K L o x)) ∧ Keep (NX w X) wx w' ∧ PH w w' g g1 g2 X N K node L n o q := by
  unfold ulE at he ⊢
  by_cases ho : ownT o x.l = x.f
  · rw [if_pos ho] at he ⊢
    exact hunlock_err h x a m c hsl hl ho hf hz he
  · rw [if_neg ho]
    refine (hunlock_state h x a m c hsl hl ho).mono ?_
    rintro e w' ⟨rfl, hb⟩
    exact ⟨rfl, Keep.of_below hb, h.below hb⟩
set_option maxHeartbeats 1600000 in
theorem hh_uerr (h : PH w wx g g1 g2 X N K node L n o q) (x : Pk) (a : Option Addr) (m c : Nat) (hsl : Sl wx a m c x.z) (hl : In64 x.l) (he : ckE N node L x = 0) (hk : x.k = 2) (hu : ulE N K L o x ≠ 0) :
    Calls Try.prog 10 #[.pointer (some ⟨g, 0, none⟩), x.val (.slice a m c)] wx fun e w' => e = .returned (.tuple #[zeroPk.val (.slice none 0 0), .bool false, .int .i64 (ulE N K L o x)]) ∧ Keep (NX w X) wx w' ∧ PH w w' g g1 g2 X N K node L n o q := by
  have hkb : (x.k == 1) = false := by simp [hk]
  have HU : Hid (ulE N K L o x ≠ 0) := hu
  obtain ⟨E, hE⟩ : ∃ E, ulE N K L o x = E := ⟨_, rfl⟩
  have HE : Hid (ulE N K L o x = E) := hE
  rw [hE] at hu
  have hub : (E != 0) = true := by simp [hu]
  clear hk hu hE
  have HL : Hid (In64 x.l) := hl
  have HC : Hid (ckE N node L x = 0) := he
  have HF : Hid (0 ≤ x.l ∧ 0 ≤ x.f ∧ x.z.length ≤ 1000) := ck_facts he
  clear he hl
  unfold Pk.val
  go_enter Try.func10, Try.ntmps10
  go_upto_region 1 with fail
  have hB : Below wx.heap.size wx ((wx.alloc (.cells #[.int .i64 x.k, .int .i64 x.f, .int .i64 x.t, .int .i64 x.i, .int .i64 x.l, .int .i64 x.p, .int .i64 x.s, .bool x.fl, .slice a m c] 32)).alloc (.cells #[.int .i64 0, .int .i64 0, .int .i64 0, .int .i64 0, .int .i64 0, .int .i64 0, .int .i64 0, .bool false, .slice none 0 0] 32)) := ba (ba (Below.refl _ _))
  have bxp : Bx ((wx.alloc (.cells #[.int .i64 x.k, .int .i64 x.f, .int .i64 x.t, .int .i64 x.i, .int .i64 x.l, .int .i64 x.p, .int .i64 x.s, .bool x.fl, .slice a m c] 32)).alloc (.cells #[.int .i64 0, .int .i64 0, .int .i64 0, .int .i64 0, .int .i64 0, .int .i64 0, .int .i64 0, .bool false, .slice none 0 0] 32)) wx.heap.size x (.slice a m c) := (Bx.made wx x (.slice a m c)).next (ba (Below.refl _ _))
  have bxr : Bx ((wx.alloc (.cells #[.int .i64 x.k, .int .i64 x.f, .int .i64 x.t, .int .i64 x.i, .int .i64 x.l, .int .i64 x.p, .int .i64 x.s, .bool x.fl, .slice a m c] 32)).alloc (.cells #[.int .i64 0, .int .i64 0, .int .i64 0, .int .i64 0, .int .i64 0, .int .i64 0, .int .i64 0, .bool false, .slice none 0 0] 32)) (wx.heap.size + 1) zeroPk (.slice none 0 0) := Bx.made' (wx.alloc (.cells #[.int .i64 x.k, .int .i64 x.f, .int .i64 x.t, .int .i64 x.i, .int .i64 x.l, .int .i64 x.p, .int .i64 x.s, .bool x.fl, .slice a m c] 32)) zeroPk (.slice none 0 0) _ (by simp)
  have h1 := h.own hB
  have hs1 := hsl.below hB
  have HX : Hid (∀ j, X j → j < wx.heap.size) := h.xl
  have HWS : Hid (w.heap.size ≤ wx.heap.size) := h.bel.size
  clear h hsl
  generalize World.alloc _ (.cells #[.int .i64 0, .int .i64 0, .int .i64 0, .int .i64 0, .int .i64 0, .int .i64 0, .int .i64 0, .bool false, .slice none 0 0] 32) = W at *
  have HSZ : Hid (wx.heap.size + 1 < W.heap.size) := bxr.lt
  have HXW : Hid (∀ j, wx.heap.size ≤ j → j < W.heap.size → (X j ∨ wx.heap.size ≤ j ∧ j < W.heap.size)) := fun j h1 h2 => .inr ⟨h1, h2⟩
  obtain ⟨zw, ezw⟩ : ∃ zw, W.heap.size = zw := ⟨_, rfl⟩
  have EZW : Hid (W.heap.size = zw) := ezw
  rw [ezw] at HSZ HXW h1
  clear ezw
  obtain ⟨q0, q1, q2, q3, q4, q5, q6, q7, q8, qf, ql⟩ := id bxp
  go_upto_region 2 with (go_at_call 28; refine (hcheck_any h1 x a m c hs1 HL.out).mono ?_; rw [HC.out]; rintro e V ⟨rfl, b1⟩)
  have h2 := h1.below b1
  have hs2 := hs1.below b1
  have bp2 := bxp.next b1
  have br2 := bxr.next b1
  have hB2 := next hB b1
  clear q0 q1 q2 q3 q4 q5 q6 q7 q8 qf ql bxp bxr h1 hs1 hB b1 EZW
  clear W
  obtain ⟨q0, q1, q2, q3, q4, q5, q6, q7, q8, qf, ql⟩ := id bp2
  go_upto_region 8 with (go_at_call 30; refine (hunlock_bad h2 x a m c hs2 HL.out HF.out.2.1 HF.out.2.2 HU.out).mono ?_; rw [HE.out]; rintro e V2 ⟨rfl, hk2, h3⟩)
  have br3 := br2.keep hk2 (fun hf => hf.2 (HXW.out _ (by omega) HSZ.out))
  have hK := Keep.pre hB2 (hk2.mono (G := NX w X) (fun j _ hj => nx_less (fun j hx => .inl hx) hj))
  clear hk2 br2 bp2 h2 hB2 hs2 q0 q1 q2 q3 q4 q5 q6 q7 q8 qf ql
  obtain ⟨r0, r1, r2, r3, r4, r5, r6, r7, r8, rf, rl⟩ := id br3
  have f0 := rf 0
  go_wp2_with fail
  have hkk : Keep (fun k => k = wx.heap.size + 1) V2 _ := far9 (g := wx.heap.size + 1) (y := zeroPk) (v := .slice none 0 0) (W := V2) (P := fun V => Keep (fun k => k = wx.heap.size + 1) V2 V) (fun V o u h => h.setCell (.inl rfl) u) (Keep.refl _ _)
  refine bodyPost_ret (v := .tuple #[Pk.val zeroPk (.slice none 0 0), .bool false, .int .i64 E]) (by simp [results, Try.results10, go_sem, *, zeroPk]) rfl ⟨by rw [HE.out], hK.trans hkk (fun j hj e => by omega), h3.step hkk (fun j hj => ?_) (fun j hj => ⟨.inl (.inl hj), ?_⟩)⟩
  · subst hj
    have h1 := HWS.out
    exact ⟨by omega, .inl (HXW.out _ (by omega) HSZ.out)⟩
  · exact Nat.lt_of_lt_of_le (h3.xl j (.inl hj)) hkk.size
set_option maxHeartbeats 1600000 in
theorem hh_uok (h : PH w wx g g1 g2 X N K node L n o q) (x : Pk) (a : Option Addr) (m c : Nat) (hsl : Sl wx a m c x.z) (hl : In64 x.l) (he : ckE N node L x = 0) (hk : x.k = 2) (ho : ownT o x.l = x.f) (hu : (setR N K L x.l x.s x.p (unlD x)).1 = 0) :
    Calls Try.prog 10 #[.pointer (some ⟨g, 0, none⟩), x.val (.slice a m c)] wx fun e w' => e = .returned (.tuple #[(⟨8, node, x.f, x.i, x.l, 0, 0, false, []⟩ : Pk).val (.slice none 0 0), .bool true, .int .i64 0]) ∧ Keep (NX w X) wx w' ∧ PH w w' g g1 g2 X N K node (setR N K L x.l x.s x.p (unlD x)).2 n (relO o x.l) q := by
  have hkb : (x.k == 1) = false := by simp [hk]
  have HU : Hid (ownT o x.l = x.f ∧ (setR N K L x.l x.s x.p (unlD x)).1 = 0) := ⟨ho, hu⟩
  clear hk hu ho
  have HL : Hid (In64 x.l) := hl
  have HC : Hid (ckE N node L x = 0) := he
  have HF : Hid (0 ≤ x.l ∧ 0 ≤ x.f ∧ x.z.length ≤ 1000) := ck_facts he
  clear he hl
  unfold Pk.val
  go_enter Try.func10, Try.ntmps10
  go_upto_region 1 with fail
  have hB : Below wx.heap.size wx ((wx.alloc (.cells #[.int .i64 x.k, .int .i64 x.f, .int .i64 x.t, .int .i64 x.i, .int .i64 x.l, .int .i64 x.p, .int .i64 x.s, .bool x.fl, .slice a m c] 32)).alloc (.cells #[.int .i64 0, .int .i64 0, .int .i64 0, .int .i64 0, .int .i64 0, .int .i64 0, .int .i64 0, .bool false, .slice none 0 0] 32)) := ba (ba (Below.refl _ _))
  have bxp : Bx ((wx.alloc (.cells #[.int .i64 x.k, .int .i64 x.f, .int .i64 x.t, .int .i64 x.i, .int .i64 x.l, .int .i64 x.p, .int .i64 x.s, .bool x.fl, .slice a m c] 32)).alloc (.cells #[.int .i64 0, .int .i64 0, .int .i64 0, .int .i64 0, .int .i64 0, .int .i64 0, .int .i64 0, .bool false, .slice none 0 0] 32)) wx.heap.size x (.slice a m c) := (Bx.made wx x (.slice a m c)).next (ba (Below.refl _ _))
  have bxr : Bx ((wx.alloc (.cells #[.int .i64 x.k, .int .i64 x.f, .int .i64 x.t, .int .i64 x.i, .int .i64 x.l, .int .i64 x.p, .int .i64 x.s, .bool x.fl, .slice a m c] 32)).alloc (.cells #[.int .i64 0, .int .i64 0, .int .i64 0, .int .i64 0, .int .i64 0, .int .i64 0, .int .i64 0, .bool false, .slice none 0 0] 32)) (wx.heap.size + 1) zeroPk (.slice none 0 0) := Bx.made' (wx.alloc (.cells #[.int .i64 x.k, .int .i64 x.f, .int .i64 x.t, .int .i64 x.i, .int .i64 x.l, .int .i64 x.p, .int .i64 x.s, .bool x.fl, .slice a m c] 32)) zeroPk (.slice none 0 0) _ (by simp)
  have h1 := h.own hB
  have hs1 := hsl.below hB
  have HX : Hid (∀ j, X j → j < wx.heap.size) := h.xl
  have HWS : Hid (w.heap.size ≤ wx.heap.size) := h.bel.size
  clear h hsl
  generalize World.alloc _ (.cells #[.int .i64 0, .int .i64 0, .int .i64 0, .int .i64 0, .int .i64 0, .int .i64 0, .int .i64 0, .bool false, .slice none 0 0] 32) = W at *
  have HSZ : Hid (wx.heap.size + 1 < W.heap.size) := bxr.lt
  have HXW : Hid (∀ j, wx.heap.size ≤ j → j < W.heap.size → (X j ∨ wx.heap.size ≤ j ∧ j < W.heap.size)) := fun j h1 h2 => .inr ⟨h1, h2⟩
  obtain ⟨zw, ezw⟩ : ∃ zw, W.heap.size = zw := ⟨_, rfl⟩
  have EZW : Hid (W.heap.size = zw) := ezw
  rw [ezw] at HSZ HXW h1
  clear ezw
  obtain ⟨q0, q1, q2, q3, q4, q5, q6, q7, q8, qf, ql⟩ := id bxp
  go_upto_region 2 with (go_at_call 28; refine (hcheck_any h1 x a m c hs1 HL.out).mono ?_; rw [HC.out]; rintro e V ⟨rfl, b1⟩)
  have h2 := h1.below b1
  have hs2 := hs1.below b1
  have bp2 := bxp.next b1
  have br2 := bxr.next b1
  have hB2 := next hB b1
  clear q0 q1 q2 q3 q4 q5 q6 q7 q8 qf ql bxp bxr h1 hs1 hB b1 EZW
  clear W
  obtain ⟨q0, q1, q2, q3, q4, q5, q6, q7, q8, qf, ql⟩ := id bp2
  go_upto_region 8 with (go_at_call 30; refine (hunlock_ok h2 x a m c hs2 HL.out HU.out.1 HF.out.2.1 HF.out.2.2 HU.out.2).mono ?_; rintro e V2 ⟨rfl, hk2, h3⟩)
  have br3 := br2.keep hk2 (fun hf => hf.2 (HXW.out _ (by omega) HSZ.out))
  have bp3 := bp2.keep hk2 (fun hf => hf.2 (HXW.out _ (Nat.le_refl _) (by have := HSZ.out; omega)))
  have hK := Keep.pre hB2 (hk2.mono (G := NX w X) (fun j _ hj => nx_less (fun j hx => .inl hx) hj))
  clear hk2 br2 bp2 h2 hB2 hs2 q0 q1 q2 q3 q4 q5 q6 q7 q8 qf ql
  obtain ⟨q0, q1, q2, q3, q4, q5, q6, q7, q8, qf, ql⟩ := id bp3
  obtain ⟨P, hP⟩ : ∃ P : Pk, ⟨8, node, x.f, x.i, x.l, 0, 0, false, []⟩ = P := ⟨_, rfl⟩
  go_wp2_with (go_at_call 31; refine (hans_any h3 2 x.l x.f x.i).mono ?_; rw [show ansI 2 = 8 from rfl, hP]; rintro e V5 ⟨rfl, b5⟩; obtain ⟨r0, r1, r2, r3, r4, r5, r6, r7, r8, rf, rl⟩ := br3.next b5; have f0 := rf 0)
  have hkk : Keep (fun k => k = wx.heap.size + 1) V5 _ := far9 (g := wx.heap.size + 1) (y := P) (v := .slice none 0 0) (W := V5) (P := fun V => Keep (fun k => k = wx.heap.size + 1) V5 V) (fun V o u h => h.setCell (.inl rfl) u) (Keep.refl _ _)
  refine bodyPost_ret (v := .tuple #[Pk.val P (.slice none 0 0), .bool true, .int .i64 0]) (by simp [results, Try.results10, go_sem, *]) rfl ⟨by rw [← hP], (hK.trans (Keep.of_below (F := fun _ => False) b5) (fun j _ h => h.elim)).trans hkk (fun j hj e => by omega), (h3.below b5).step hkk (fun j hj => ?_) (fun j hj => ⟨.inl (.inl hj), ?_⟩)⟩
  · subst hj
    have h1 := HWS.out
    exact ⟨by omega, .inl (HXW.out _ (by omega) HSZ.out)⟩
  · exact Nat.lt_of_lt_of_le (Nat.lt_of_lt_of_le (h3.xl j (.inl hj)) b5.size) hkk.size
end
end Go.Proofs.Ytgeiagndpfdnlaa
