/- The walk of PacketBack: it answers true and writes nothing that was there. No condition but that the arguments are ones that can come in. -/
import Derived.Test.YtbllhjhlkngchaaPktUnpack
import Derived.Test.YtbllhjhlkngchaaPktPlay
import Derived.Test.YtbllhjhlkngchaaBRefs2
namespace Go.Proofs.Ytbllhjhlkngchaa
open Go.RowKit
set_option linter.unusedVariables false

theorem read_pack {y : Pk} (h : y.Right) (hz : R64 y.z) : readP (packI y) = y := by
  obtain ⟨⟨k0, k1⟩, ⟨f0, f1⟩, ⟨t0, t1⟩, ⟨i0, i1⟩, ⟨l0, l1⟩, ⟨p0, p1⟩, ⟨s0, s1⟩, z1⟩ := h
  have hw : wordsN ((packI y).drop 10) (((packI y).length - 10) / 8) = y.z := by
    rw [packI_len, show (10 + 8 * y.z.length - 10) / 8 = y.z.length by omega]
    have : (packI y).drop 10 = bodyI y.z := by unfold packI; rw [← headI_len y, List.drop_left]
    rw [this]
    exact words_body y.z hz
  unfold readP
  rw [hw]
  obtain ⟨k, f, t, i, l, p, s, fl, z⟩ := y
  simp only at k0 k1 f0 f1 t0 t1 i0 i1 l0 l1 p0 p1 s0 s1 z1
  have g0 : (packI ⟨k, f, t, i, l, p, s, fl, z⟩)[0]?.getD 0 = k % 256 := rfl
  have g1 : (packI ⟨k, f, t, i, l, p, s, fl, z⟩)[1]?.getD 0 = f % 256 := rfl
  have g2 : (packI ⟨k, f, t, i, l, p, s, fl, z⟩)[2]?.getD 0 = t % 256 := rfl
  have g3 : (packI ⟨k, f, t, i, l, p, s, fl, z⟩)[3]?.getD 0 = i / 256 % 256 := rfl
  have g4 : (packI ⟨k, f, t, i, l, p, s, fl, z⟩)[4]?.getD 0 = i % 256 := rfl
  have g5 : (packI ⟨k, f, t, i, l, p, s, fl, z⟩)[5]?.getD 0 = l % 256 := rfl
  have g6 : (packI ⟨k, f, t, i, l, p, s, fl, z⟩)[6]?.getD 0 = (p + 1) % 256 := rfl
  have g7 : (packI ⟨k, f, t, i, l, p, s, fl, z⟩)[7]?.getD 0 = s % 256 := rfl
  have g8 : (packI ⟨k, f, t, i, l, p, s, fl, z⟩)[8]?.getD 0 = flI fl := rfl
  rw [g0, g1, g2, g3, g4, g5, g6, g7, g8, show k % 256 = k by omega, show f % 256 = f by omega, show t % 256 = t by omega, show i / 256 % 256 * 256 + i % 256 = i by omega, show l % 256 = l by omega, show (p + 1) % 256 - 1 = p by omega, show s % 256 = s by omega]
  have : (flI fl == 1) = fl := by cases fl <;> rfl
  rw [this]
theorem form_pack {y : Pk} (h : y.Right) : formB (packI y) = true := by
  have hz := h.z
  have g8 : (packI y)[8]?.getD 0 = flI y.fl := rfl
  have g9 : (packI y)[9]?.getD 0 = (y.z.length : Int) % 256 := rfl
  unfold formB
  rw [g8, g9, packI_len]
  have := flI_bd y.fl
  simp
  omega
theorem unpack_pack {y : Pk} (h : y.right = true) (hz : R64 y.z) : unpackI (B.sealI (packI y)) = some y := by
  have hR := (Pk.right_iff y).1 h
  have := unpack_some (B.openI_seal (packI_b8 y)) (form_pack hR) (by rw [read_pack hR hz]; exact h)
  rw [this, read_pack hR hz]
theorem spoilt {l : List Int} {bit mask : Int} (h8 : B.B8 l) (h0 : B.sumI l = 0) (hb0 : 0 ≤ bit) (hb1 : bit < 8 * l.length) (hm0 : 0 ≤ mask) (hm1 : mask < 65536) (ht : mask.toNat.testBit 15 = true) : B.openI (B.spoilI l bit mask) = none := by
  refine B.openI_sum (B.spoilI_b8 h8 bit mask) fun h => ?_
  have e := B.spoil_found h8 hm0 hm1 h0 h
  have d := B.spoilI_dig (bit := bit) (mask := mask) h8 hm0 hm1 bit.toNat (by omega)
  rw [e] at d
  have hh : B.hit bit mask bit.toNat = true := by
    unfold B.hit B.mdig
    rw [decide_eq_true (by omega), show ((bit.toNat : Int) - bit).toNat = 0 by omega]
    simpa using ht
  rw [hh] at d
  revert d
  cases B.digAt l bit.toNat <;> simp
theorem mask_top {mask : Int} (h0 : 0 ≤ mask) (h1 : mask < 65536) : ∃ k : Int, bits .or .u16 mask 32768 = k ∧ 0 ≤ k ∧ k < 65536 ∧ k.toNat.testBit 15 = true := by
  refine ⟨_, rfl, ?_⟩
  rw [u16_or mask 32768 h0 h1 (by omega) (by omega)]
  have hlt : mask.toNat ||| (32768 : Int).toNat < 2 ^ 16 := Nat.or_lt_two_pow (by omega) (by decide)
  refine ⟨by omega, by omega, ?_⟩
  simp [Nat.testBit_or]
  right
  decide
set_option maxHeartbeats 2000000 in
set_option maxRecDepth 20000 in
theorem packetBack_walk (x : Pk) (bit mask : Int) (a : Option Addr) (n c : Nat) (w : World) (hx : Sl w a n c x.z) (h64 : R64 x.z) (hm0 : 0 ≤ mask) (hm1 : mask < 65536) :
    Calls Try.prog 8 #[x.val (.slice a n c), .int .i64 bit, .int .u16 mask] w fun e w' => e = .returned (.bool true) ∧ Below w.heap.size w w' := by
  obtain ⟨mk, hmk, mk0, mk1, mkt⟩ := mask_top hm0 hm1
  unfold Pk.val
  go_enter Try.func8, Try.ntmps8
  go_upto_region 2 with (go_at_call 19; refine (play_any x 0 a n c _ (hx.below (ba (Below.refl _ _)))).mono ?_; rintro e w1 ⟨v1, rfl, y, a1, n1, c1, rfl, hs1, hn1, hr1, hR1, lo1, hb1⟩; unfold Pk.val)
  have hr := hr1 (by omega)
  have hR := hR1 h64
  have bx := Bx.made w1 y (.slice a1 n1 c1)
  have B1 : Below w.heap.size w _ := next (next (ba (Below.refl _ _)) hb1) (ba (o := .cells #[.int .i64 y.k, .int .i64 y.f, .int .i64 y.t, .int .i64 y.i, .int .i64 y.l, .int .i64 y.p, .int .i64 y.s, .bool y.fl, .slice a1 n1 c1] 26) (Below.refl _ _))
  have hs := hs1.below (ba (o := .cells #[.int .i64 y.k, .int .i64 y.f, .int .i64 y.t, .int .i64 y.i, .int .i64 y.l, .int .i64 y.p, .int .i64 y.s, .bool y.fl, .slice a1 n1 c1] 26) (Below.refl _ _))
  have hlen := hs1.len
  obtain ⟨nb, hnb⟩ : ∃ nb : Nat, 12 + 8 * n1 = nb := ⟨_, rfl⟩
  obtain ⟨bt, hbt, bt0, bt1⟩ : ∃ bt : Int, bit % (8 * (nb : Int)) = bt ∧ 0 ≤ bt ∧ bt < 8 * (nb : Int) := ⟨_, rfl, Int.emod_nonneg _ (by omega), Int.emod_lt_of_pos _ (by omega)⟩
  have HSL : Hid ((B.sealI (packI y)).length = nb) := by show _ = _; rw [sealI_len, packI_len, hlen]; omega
  have HU : Hid (unpackI (B.sealI (packI y)) = some y) := unpack_pack hr hR
  have h8 : B.B8 (B.sealI (packI y)) := B.sealI_b8 (packI_b8 y)
  have h0 : B.sumI (B.sealI (packI y)) = 0 := B.sum_seal (packI_b8 y)
  have HSP : Hid (unpackI (B.spoilI (B.sealI (packI y)) bt mk) = none) := unpack_none (spoilt h8 h0 bt0 (by rw [HSL.out]; exact bt1) mk0 mk1 mkt)
  have HPL : Hid ((B.spoilI (B.sealI (packI y)) bt mk).length = nb) := by show _ = _; rw [B.spoilI_len]; exact HSL.out
  have hne : ((nb : Int) != 12 + 8 * (n1 : Int)) = false := by simp; omega
  have nb1 : nb ≤ 1000 := by omega
  have nb0 : 12 ≤ nb := by omega
  have HPP := sameP_self y
  have HZZ : sameP zeroPk zeroPk = true := sameP_self zeroPk
  clear hs1 lo1 hb1 hR1 hr1 hx h64 h0 h8 hnb hlen mkt
  generalize hW : w1.alloc _ = W at *
  have HW : Hid (w1.alloc _ = W) := hW
  clear hW HW
  generalize w1.heap.size = g at *
  obtain ⟨c0, c1', c2, c3, c4, c5, c6, c7, c8, _, clt⟩ := id bx
  go_upto_region 8 with (first
    | (go_at_call 12; refine (pack_yes y a1 n1 c1 _ hs hr).mono ?_; rintro e w2 ⟨v2, rfl, ho2, hb2⟩; obtain ⟨a2, cap2, rfl, hs2⟩ := ho2.sl' HSL.out; obtain ⟨hc2, hf2⟩ := bcell hb2; have bx2 := bx.next hb2)
    | (go_at_call 28; refine (unpack_yes a2 _ nb cap2 _ hs2 (by omega) y HU.out).mono ?_; rintro e w3 ⟨a3, n3, cap3, rfl, hs3, lo3, hb3⟩; unfold Pk.val; have bx3 := bx2.next hb3; have z3 : g < w3.heap.size := bx3.lt; obtain ⟨d0, d1, d2, d3, d4, d5, d6, d7, d8, _, _⟩ := id bx3)
    | (go_at_call 18; have hp4 := (hs.below hb2).below (next hb3 (ba (o := .cells #[.int .i64 y.k, .int .i64 y.f, .int .i64 y.t, .int .i64 y.i, .int .i64 y.l, .int .i64 y.p, .int .i64 y.s, .bool y.fl, .slice a3 n3 cap3] 26) (Below.refl _ _))); refine (pktSame_any y y a1 a3 n1 n3 c1 cap3 _ hp4 (hs3.below (ba (Below.refl _ _)))).mono ?_; rintro e w4 ⟨rfl, hb4⟩; rw [HPP]))
  have B4 := next (next B1 hb2) (next hb3 (next (ba (Below.refl _ _)) hb4))
  have hs4 := hs2.below (next hb3 (next (ba (Below.refl _ _)) hb4))
  clear hc2 hf2 bx2 bx3 d0 d1 d2 d3 d4 d5 d6 d7 d8 hs3 lo3 hb4 hb3 hb2 ho2 hs2 B1 hs bx c0 c1' c2 c3 c4 c5 c6 c7 c8
  go_wp2_with (first
    | (go_at_call 10; refine (within_any _ _ _ (by omega) (by omega)).mono ?_; rintro e w5 ⟨rfl, rfl⟩; rw [hbt])
    | (go_at_call 31; refine (B.refSpoil_any a2 _ nb cap2 bt mk _ hs4 (by omega) mk0 mk1).mono ?_; rintro e w5 ⟨v5, rfl, ho5, hb5⟩; obtain ⟨a5, cap5, rfl, hs5⟩ := ho5.sl' HPL.out)
    | (go_at_call 28; refine (unpack_no a5 _ nb cap5 _ hs5 (by omega) HSP.out).mono ?_; rintro e w6 ⟨rfl, hb6⟩; unfold Pk.val)
    | (go_at_call 18; refine (pktSame_any zeroPk zeroPk none none 0 0 0 0 _ (sl_nil _) (sl_nil _)).mono ?_; rintro e w7 ⟨rfl, hb7⟩; rw [HZZ])
    | (go_at_call 15; refine (wakes_any _).mono ?_; rintro e w8 ⟨rfl, hb8⟩))
  go_ret
  exact ⟨rfl, next (next (next B4 hb5) (next hb6 (next (ba (Below.refl _ _)) hb7))) hb8⟩
end Go.Proofs.Ytbllhjhlkngchaa
