/- The walk of QueueTurns: it answers true and writes nothing that was there. No condition. -/
import Derived.Test.YtgjceclidbnggaaQueOrd
import Derived.Test.YtgjceclidbnggaaQueAll
namespace Go.Proofs.Ytgjceclidbnggaa
open Go.RowKit
set_option linter.unusedVariables false

theorem allIds (w : World) {base g : Nat} {room : Int} {o c : Nat} (h : QIds w base g room o c) (hc : c ≤ 1000000) :
    Calls Try.prog 18 #[.pointer (some ⟨g, 0, none⟩)] w fun e w' => ∃ M D R a cap, e = .returned (.slice a c cap) ∧ PRow w' M D (ids o c) R a c cap ∧ Below w.heap.size w w' := by
  obtain ⟨M, D, hq, _⟩ := h
  refine (all_any w hq (by rw [ids_len]; omega)).mono ?_
  rintro e w' ⟨v, rfl, hn, hb⟩
  rw [ids_len] at hn
  obtain ⟨M2, D2, R, a, cap, rfl, hp, _⟩ := hn
  exact ⟨M2, D2, R, a, cap, rfl, hp, hb⟩
set_option maxHeartbeats 600000 in
set_option maxRecDepth 20000 in
theorem queueTurns_walk (room0 held turns : Int) (w : World) :
    Calls Try.prog 6 #[.int .i64 room0, .int .i64 held, .int .i64 turns] w fun e w' => e = .returned (.bool true) ∧ Below w.heap.size w w' := by
  obtain ⟨q, hrm, r0, r1⟩ : ∃ q, room0 % 8 = q ∧ 0 ≤ q ∧ q < 8 := ⟨_, rfl, by omega, by omega⟩
  obtain ⟨H, hH⟩ : ∃ H : Nat, held % (1 + q) = (H : Int) := ⟨(held % (1 + q)).toNat, by have := Int.emod_nonneg held (show (1 + q) ≠ 0 by omega); omega⟩
  have hH1 : (H : Int) < 1 + q := by rw [← hH]; exact Int.emod_lt_of_pos _ (by omega)
  obtain ⟨T, hT, t0, t1⟩ : ∃ T, turns % 200 = T ∧ 0 ≤ T ∧ T < 200 := ⟨_, rfl, by omega, by omega⟩
  go_enter Try.func6, Try.ntmps6
  go_wp2_with (first
    | (go_at_call 7; refine (within_any _ _ _ (by omega) (by omega)).mono ?_; rintro e wx ⟨rfl, rfl⟩; first | rw [hrm] | rw [hH])
    | (go_at_call 8; refine (new_any (1 + q) _).mono ?_; rintro e w1 ⟨rfl, hb1, hq1⟩; replace hq1 := qids_new (base := w.heap.size) hq1 (Nat.le_refl _) (Int.max_eq_left (show 0 ≤ 1 + q by omega))))
  generalize hg : w.heap.size = g at *
  have HRM : Hid (room0 % 8 = q) := hrm
  have HHH : Hid (held % (1 + q) = (H : Int)) := hH
  clear hrm hH
  go_loopw [8] (fun vx wr => ∃ k : Nat, vx = .int .i64 (k : Int) ∧ k ≤ H ∧ QIds wr g g (1 + q) 0 k ∧ Below g w wr) (fun vx _ => H - (intOf vx).toNat)
  case atStart => exact ⟨0, rfl, by omega, hq1, hb1⟩
  case round =>
    obtain ⟨k, rfl, hk, hq, hB⟩ := hrel
    have hgz : g ≤ wr.heap.size := by rw [← hg]; exact hB.size
    by_cases hlt : (k : Int) < (H : Int)
    · go_wp2_with (go_at_call 9; refine (putIds_ok _ hq hgz (k : Int) (by simp) (by omega) (by omega)).mono ?_; rintro e w2 ⟨rfl, hb2, hq2⟩)
      go_roundw
      case rel => exact ⟨k + 1, by go_num, by omega, hq2, hB.trans hb2⟩
      case measure => simp [intOf]; omega
    · have hlt' : (H : Int) ≤ (k : Int) := by omega
      obtain rfl : k = H := by omega
      clear hlt hlt'
      go_wp2
      have hB0 := hB
      clear hB hq1 hb1 hgz
      go_loopw [8, 9] (fun vx vi wr => ∃ (i : Nat) (X : Int), vi = .int .i64 (i : Int) ∧ vx = .int .i64 X ∧ X = ((i + k : Nat) : Int) ∧ i ≤ 200 ∧ QIds wr g g (1 + q) i k ∧ Below g w wr) (fun _ vi _ => 200 - (intOf vi).toNat)
      case atStart => exact ⟨0, (k : Int), rfl, rfl, by simp, by omega, hq, hB0⟩
      case round =>
        clear hq hB0
        obtain ⟨i, X, rfl, rfl, hX, hi, hq, hB⟩ := hrel
        have HX : Hid (X = ((i + k : Nat) : Int)) := hX
        have x0 : 0 ≤ X := by omega
        have x1 : X ≤ 210 := by omega
        clear hX
        have hgz : g ≤ wr.heap.size := by rw [← hg]; exact hB.size
        by_cases hlt : (i : Int) < T
        · go_wp2_with (first
            | (go_at_call 7; refine (within_any _ _ _ (by omega) (by omega)).mono ?_; rintro e wx ⟨rfl, rfl⟩; rw [hT])
            | (go_at_call 9; refine (putIds_ok _ hq hgz X HX.out (by omega) (by omega)).mono ?_; rintro e w2 ⟨rfl, hb2, hq2⟩)
            | (go_at_call 10; refine (takeIds_some _ hq2 (Nat.le_trans hgz hb2.size) (X - k) (by have := HX.out; omega)).mono ?_; rintro e w3 ⟨a3, n3, m3, rfl, hb3, hq3⟩; unfold idPk Pk.val)
            | (go_at_call 11; obtain ⟨M, D, hqq⟩ := hq3.qu; refine (len_n _ (hqq.below (ba (Below.refl _ _))) (k : Int) (by rw [ids_len])).mono ?_; rintro e w4 ⟨rfl, rfl⟩))
          exact ⟨⟨i + 1, X + 1, by go_num, rfl, by have := HX.out; omega, by omega, hq3.below (ba (Below.refl _ _)), hB.trans (hb2.trans (hb3.trans ((ba (Below.refl _ _)).mono (Nat.le_trans hgz (Nat.le_trans hb2.size hb3.size)))))⟩, by simp [intOf]; omega⟩
        · have hlt' : T ≤ (i : Int) := by omega
          clear hlt
          go_wp2_with (first
            | (go_at_call 7; refine (within_any _ _ _ (by omega) (by omega)).mono ?_; rintro e wx ⟨rfl, rfl⟩; rw [hT])
            | (go_at_call 18; refine (allIds _ hq (by omega)).mono ?_; rintro e w2 ⟨M2, D2, R2, a2, cap2, rfl, hpr, hb2⟩))
          have hmx := hpr.row.max
          have hle := hpr.row.le
          unfold maxLen at hmx
          have hB2 := hB.trans (hb2.mono hgz)
          have hgz2 : g ≤ w2.heap.size := Nat.le_trans hgz hb2.size
          clear hq hB hb2
          go_loopw [73] (fun vi wr => ∃ j : Nat, vi = .int .i64 (j : Int) ∧ j ≤ k ∧ wr = w2) (fun vi _ => k - (intOf vi).toNat)
          case atStart => exact ⟨0, rfl, by omega, rfl⟩
          case round =>
            obtain ⟨j, rfl, hj, rfl⟩ := hrel
            by_cases hjk : j < k
            · have hjk' : (j : Int) < (k : Int) := by omega
              obtain ⟨x, d, b, o, hx, _, _, rfl, _, hb, ⟨_, _, _, e3, _⟩, _⟩ := hpr.get hjk
              have hxi : x.i = X - k + j := by
                rw [ids_get hjk] at hx
                obtain rfl := Option.some.inj hx
                have := HX.out
                simp only [idPk]
                omega
              rw [hxi] at e3
              clear hxi hx
              go_wp2
              go_roundw
              case rel => exact ⟨j + 1, by go_num, by omega, by first | rfl | trivial⟩
              case measure => simp [intOf]; omega
            · have hjk' : (k : Int) ≤ (j : Int) := by omega
              go_wp2_with (go_at_call 13; refine (wakes_any _).mono ?_; rintro e w3 ⟨rfl, hb3⟩)
              go_ret
              exact ⟨rfl, by rw [hg]; exact hB2.trans (hb3.mono hgz2)⟩
end Go.Proofs.Ytgjceclidbnggaa
