/- The contract of the document's own Pack. Conditions: as stated. -/
import Derived.Test.YtbllhjhlkngchaaPktRight
import Derived.Test.YtbllhjhlkngchaaBRefs
import Derived.Test.YtbllhjhlkngchaaPktBox
namespace Go.Proofs.Ytbllhjhlkngchaa
open Go.RowKit
set_option linter.unusedVariables false

theorem head_of (x : Pk) (h : x.Right) : headI x = [x.k, x.f, x.t, x.i / 256, x.i % 256, x.l, x.p + 1, x.s, flI x.fl, (x.z.length : Int)] := by
  obtain ⟨⟨k0, k1⟩, ⟨f0, f1⟩, ⟨t0, t1⟩, ⟨i0, i1⟩, ⟨l0, l1⟩, ⟨p0, p1⟩, ⟨s0, s1⟩, z1⟩ := h
  unfold headI
  rw [show x.k % 256 = x.k by omega, show x.f % 256 = x.f by omega, show x.t % 256 = x.t by omega, show x.i / 256 % 256 = x.i / 256 by omega, show x.l % 256 = x.l by omega, show (x.p + 1) % 256 = x.p + 1 by omega, show x.s % 256 = x.s by omega, show (x.z.length : Int) % 256 = x.z.length by omega]

set_option maxHeartbeats 2000000 in
set_option maxRecDepth 20000 in
/-- A packet that may be: its seal. -/
theorem refPack_yes (x : Pk) (a : Option Addr) (n cap : Nat) (w : World) (hsl : Sl w a n cap x.z) (hr : x.right = true) :
    Calls Try.prog 20 #[x.val (.slice a n cap)] w fun e w' => ∃ v, e = .returned (.tuple #[v, .bool true]) ∧ B.Own w' w.heap.size v (B.sealI (packI x)) ∧ Below w.heap.size w w' := by
  have HN : Hid (x.z.length = n) := hsl.len
  have hR := (Pk.right_iff x).1 hr
  have HE : Hid (x.right = true) := hr
  have hn4 : n ≤ 4 := by have := hR.z; have := HN.out; omega
  have hmx := hsl.max
  unfold maxLen at hmx
  have hle := hsl.le
  have HF := head_of x hR
  rw [HN.out] at HF
  have HH : Hid (headI x = [x.k, x.f, x.t, x.i / 256, x.i % 256, x.l, x.p + 1, x.s, flI x.fl, (n : Int)]) := HF
  obtain ⟨⟨k0, k1⟩, ⟨f0, f1⟩, ⟨t0, t1⟩, ⟨i0, i1⟩, ⟨l0, l1⟩, ⟨p0, p1⟩, ⟨s0, s1⟩, z1⟩ := hR
  obtain ⟨ib, hib, hzb0, hzb1, hzb2⟩ := info_parts B.Try.info5
  clear hr HF z1
  unfold Pk.val
  go_enter Try.func20, Try.ntmps20
  go_upto_if 13 with (go_at_call 37; refine (right_any x a n cap _ (hsl.below (ba (Below.refl _ _)))).mono ?_; rintro e w1 ⟨rfl, hb1⟩; rw [HE.out]; obtain ⟨hc1, hf1⟩ := bcell hb1; have bx := (Bx.made w x (.slice a n cap)).next hb1; have B1 := next (ba (Below.refl _ _)) hb1)
  clear hc1 hf1
  have hs1 := hsl.below B1
  have hz1 : w.heap.size < w1.heap.size := bx.lt
  clear hb1
  go_cut [4, 0, 9, 13] (fun v _ _ _ wx => v = .int .u8 (flI x.fl) ∧ wx = w1)
  case first =>
    cases hfl : x.fl
    · have HL : Hid (flI x.fl = 0) := by show _ = _; rw [hfl]; rfl
      go_wp2
      go_meet
      case rel => exact ⟨by rw [HL.out], rfl⟩
    · have HL : Hid (flI x.fl = 1) := by show _ = _; rw [hfl]; rfl
      go_wp2
      go_meet
      case rel => exact ⟨by rw [HL.out], rfl⟩
  case rest =>
    obtain ⟨rfl, rfl⟩ := hcut
    obtain ⟨c0, c1, c2, c3, c4, c5, c6, c7, c8, fz, lt⟩ := bx
    go_wp2
    have hw0 : B.Own (wc.alloc (.cells #[.int .u8 x.k, .int .u8 x.f, .int .u8 x.t, .int .u8 (x.i / 256), .int .u8 (x.i % 256), .int .u8 x.l, .int .u8 (x.p + 1), .int .u8 x.s, .int .u8 (flI x.fl), .int .u8 (n : Int)] 5)) wc.heap.size (.slice (some ⟨wc.heap.size, 0, none⟩) 10 10) (headI x) := by
      have := hd_own (w := wc.alloc (.cells #[.int .u8 x.k, .int .u8 x.f, .int .u8 x.t, .int .u8 (x.i / 256), .int .u8 (x.i % 256), .int .u8 x.l, .int .u8 (x.p + 1), .int .u8 x.s, .int .u8 (flI x.fl), .int .u8 (n : Int)] 5)) (base := wc.heap.size) (headI x) (headI_b8 x) (by rw [headI_len]; unfold maxLen; omega) wc.heap.size (Nat.le_refl _) (by rw [HH.out]; exact heap_alloc_new _ _)
      rwa [headI_len] at this
    have hb0 : Below wc.heap.size wc (wc.alloc (.cells #[.int .u8 x.k, .int .u8 x.f, .int .u8 x.t, .int .u8 (x.i / 256), .int .u8 (x.i % 256), .int .u8 x.l, .int .u8 (x.p + 1), .int .u8 x.s, .int .u8 (flI x.fl), .int .u8 (n : Int)] 5)) := ba (Below.refl _ _)
    clear k0 k1 f0 f1 t0 t1 i0 i1 l0 l1 p0 p1 s0 s1 c0 c1 c2 c3 c4 c5 c6 c7 c8 fz lt hsl HH HE
    generalize wc.alloc _ = W at *
    go_loopw [5, 49] (fun b i wr => ∃ k : Nat, k ≤ n ∧ i = .int .i64 k ∧ B.Own wr wc.heap.size b (headI x ++ bodyI (x.z.take k)) ∧ Below wc.heap.size wc wr) (fun _ i _ => n - (intOf i).toNat)
    case atStart => exact ⟨0, by omega, rfl, by simpa [bodyI] using hw0, hb0⟩
    case round =>
      clear hw0 hb0
      obtain ⟨k, hk, rfl, hown2, hbr⟩ := hrel
      have hLen : (headI x ++ bodyI (x.z.take k)).length = 10 + 8 * k := by rw [List.length_append, headI_len, bodyI_len, List.length_take, HN.out]; omega
      have hsr := hs1.below hbr
      by_cases hlt : k < n
      · have HS : Hid (bodyI (x.z.take (k + 1)) = bodyI (x.z.take k) ++ wordI (x.z[k]?.getD 0)) := bodyI_take _ _ (by have := HN.out; omega)
        obtain ⟨b, o, rfl, hbl, hcell⟩ := hsr.at hlt
        have hz := hbr.size
        generalize x.z[k]?.getD 0 = y at *
        obtain ⟨m, hm⟩ : ∃ m, headI x ++ bodyI (x.z.take k) = m := ⟨_, rfl⟩
        have HM : Hid (headI x ++ bodyI (x.z.take k) = m) := hm
        rw [hm] at hown2 hLen
        have hL : m.length ≤ 100 := by omega
        clear hm hLen
        go_wp2
        clear hsr hcell
        go_loopw [5, 8] (fun b i wq => ∃ j : Nat, j ≤ 8 ∧ i = .int .i64 (7 - (j : Int)) ∧ B.Own wq wc.heap.size b (m ++ wordN y j) ∧ Below wc.heap.size wc wq) (fun _ i _ => (1 + intOf i).toNat)
        case atStart => exact ⟨0, by omega, rfl, by simpa [wordN] using hown2, hbr⟩
        case round =>
          clear hown2 hbr hz
          obtain ⟨j, hj, rfl, hown3, hbq⟩ := hrel
          have hzq := hbq.size
          by_cases hjl : j < 8
          · have HW : Hid (wordN y (j + 1) = wordN y j ++ [wbyte y j]) := wordN_succ y j
            have hL3 : (m ++ wordN y j).length ≤ 108 := by rw [List.length_append, wordN_len]; omega
            obtain ⟨q, hq⟩ : ∃ q, m ++ wordN y j = q := ⟨_, rfl⟩
            have HQ : Hid (m ++ wordN y j = q) := hq
            rw [hq] at hown3 hL3
            clear hq
            obtain ⟨s, hs⟩ : ∃ s : Nat, 7 - j = s := ⟨_, rfl⟩
            have hs2 : (7 : Int) - (j : Int) = (s : Int) := by omega
            have HB : Hid (wbyte y j = IntKind.u64.wrap y / 2 ^ (8 * s) % 256) := by show _ = _; unfold wbyte; rw [hs]
            have HS2 : Hid (7 - (j : Int) = (s : Int)) := hs2
            have hs3 : s ≤ 7 := by omega
            rw [hs2]
            clear hs hs2
            obtain ⟨a3, cap3, rfl, hsl3⟩ := hown3.sl
            have hq0 : 0 ≤ IntKind.u64.wrap y := by rw [IntKind.wrap_u64]; omega
            have hs0 : (0 : Int) ≤ (s : Int) := by omega
            go_wp2_with (at_builtin; refine wpList_append_own _ rfl (.tmp 57) (.tmp 65) 27 rfl wc.heap.size 5 ib (.int .u8 0) 1 1 Try.underlying27 hib hzb0 hzb1 hzb2 rfl (by decide) _ q.length (B.cells q) rfl (hown3.1.alloc _) ⟨_, 0, none⟩ 1 1 (B.cells [_]) rfl rfl (cell_one' _ _) (B.cells_one _) (by unfold maxLen; omega) (by omega) (by simp; omega) ?_; intro v4 w4 hown4 hg4 _)
            have hb4 := (hbq.alloc hzq (.cells #[.int .u8 (IntKind.u64.wrap y / 2 ^ (8 * s) % 256)] 5)).grown hg4 (by simp; omega) (fun k hk => by have := (hown3.1.lt k hk).1; omega)
            go_roundw
            case rel =>
              have hm8 := HS2.out
              refine ⟨j + 1, by omega, by rw [← hm8]; congr 1; omega, ?_, hb4⟩
              rw [HW.out, ← List.append_assoc, HQ.out, HB.out]
              exact B.own_snoc hown4 hown3.2 (by have := (wbyte_bd y j).1; rw [HB.out] at this; exact this) (by have := (wbyte_bd y j).2; rw [HB.out] at this; exact this)
            case measure => simp [intOf]; omega
          · obtain rfl : j = 8 := by omega
            go_wp2
            go_roundw
            case rel =>
              refine ⟨k + 1, by omega, by go_num, ?_, hbq⟩
              rw [HS.out, ← List.append_assoc, HM.out]
              exact hown3
            case measure => simp [intOf]; omega
      · obtain rfl : k = n := by omega
        have HT : Hid (x.z.take k = x.z) := List.take_of_length_le (by have := HN.out; omega)
        obtain ⟨a2, cap2, rfl, hs2⟩ := hown2.sl' hLen
        clear hLen
        go_wp2_with (go_at_call 26; refine (B.refSeal_any a2 _ _ cap2 _ hs2 (by omega)).mono ?_; rintro e w5 ⟨v5, rfl, hown5, hb5⟩)
        go_ret2
        refine ⟨_, rfl, ?_, next (next B1 hbr) hb5⟩
        rw [HT.out] at hown5
        exact B.Own.low hown5 (by have := hbr.size; have := B1.size; omega)
set_option maxHeartbeats 1000000 in
/-- A packet that may not be. -/
theorem refPack_no (x : Pk) (a : Option Addr) (n cap : Nat) (w : World) (hsl : Sl w a n cap x.z) (hr : x.right = false) :
    Calls Try.prog 20 #[x.val (.slice a n cap)] w fun e w' => e = .returned (.tuple #[.slice none 0 0, .bool false]) ∧ Below w.heap.size w w' := by
  have HE : Hid (x.right = false) := hr
  clear hr
  unfold Pk.val
  go_enter Try.func20, Try.ntmps20
  go_wp2_with (go_at_call 37; refine (right_any x a n cap _ (hsl.below (ba (Below.refl _ _)))).mono ?_; rintro e w1 ⟨rfl, hb1⟩; rw [HE.out])
  go_ret2
  exact ⟨rfl, next (ba (Below.refl _ _)) hb1⟩
end Go.Proofs.Ytbllhjhlkngchaa
