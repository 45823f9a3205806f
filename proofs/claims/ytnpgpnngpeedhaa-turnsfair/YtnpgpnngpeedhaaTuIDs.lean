/- The walk of TurnsIDs: it answers true and writes nothing that was there. No condition but that the arguments are ones that can come in. -/
import Derived.Test.YtnpgpnngpeedhaaTuWk
namespace Go.Proofs.Ytnpgpnngpeedhaa
open Go.RowKit Go.Maps
set_option linter.unusedVariables false
set_option maxRecDepth 20000

theorem upd_upd {α : Type} (f : Int → α) (l : Int) (u v : α) : upd (upd f l u) l v = upd f l v := by
  funext k
  unfold upd
  split <;> rfl
/-- The first i numbers, each with its place. -/
def idsW (z : List Int) (i : Nat) : List (Int × Int) := (List.range i).map fun (j : Nat) => ((j : Int), z[j]?.getD 0)
theorem idsW_len (z : List Int) (i : Nat) : (idsW z i).length = i := by simp [idsW]
theorem idsW_succ (z : List Int) (i : Nat) : idsW z (i + 1) = idsW z i ++ [((i : Int), z[i]?.getD 0)] := by simp [idsW, List.range_succ]
theorem idsW_drop (z : List Int) {i m : Nat} (h : i < m) : (idsW z m).drop i = ((i : Int), z[i]?.getD 0) :: (idsW z m).drop (i + 1) := by
  rw [List.drop_eq_getElem_cons (by rw [idsW_len]; exact h)]
  congr 1
  simp [idsW]
set_option maxHeartbeats 600000 in
theorem turnsIDs_walk (ai : Option Addr) (ni ci : Nat) (zi : List Int) (x1 : Int) (w : World) (hsl : Sl w ai ni ci zi) :
    Calls Try.prog 4 #[.slice ai ni ci, .int .i64 x1] w fun e w' => e = .returned (.bool true) ∧ Below w.heap.size w w' := by
  obtain ⟨L, hL, hL0, hL1⟩ : ∃ L, x1 % 50 = L ∧ 0 ≤ L ∧ L < 50 := ⟨_, rfl, by omega, by omega⟩
  have HL : Hid (x1 % 50 = L) := hL
  have HIL : Hid (In64 L) := ⟨by omega, by omega⟩
  have HIL1 : Hid (In64 (L + 1)) := ⟨by omega, by omega⟩
  have hmp := hsl.max
  have hlp := hsl.le
  unfold maxLen at hmp
  clear hL
  go_enter Try.func4, Try.ntmps4
  go_upto_block 0 with (first
    | (have mk := T1; clear mk; go_at_call 9; refine (to_ask_own T1 (-1) HIL.out hL0 (by omega) rfl rfl (by omega)).mono ?_; rintro e w2 ⟨rfl, k2, T2⟩)
    | (go_at_call 8; refine (within_any _ _ _ (by omega) (by omega)).mono ?_; rintro e wx ⟨rfl, rfl⟩; rw [HL.out])
    | (go_at_call 7; refine (to_new (X := fun _ => False) (Below.refl _ w) (fun j hj => hj.elim)).mono ?_; rintro e w1 ⟨g, rfl, b1, T1⟩))
  clear T1 k2 b1
  obtain ⟨m, hm⟩ : ∃ m, m = min ni 10 := ⟨_, rfl⟩
  have HM : Hid (m = min ni 10) := hm
  have hmn : m ≤ ni ∧ m ≤ 10 := by omega
  clear hm
  go_cut [] (fun wx => TO w wx g (fun _ => False) 11 (upd (fun _ => -1) L 0) (upd (fun _ => []) L (idsW zi m)))
  case first => as_aux_lemma =>
    go_wp2_with fail
    go_loopw [6] (fun vi wr => ∃ (i : Nat), vi = .int .i64 (i : Int) ∧ i ≤ 10 ∧ i ≤ ni ∧ TO w wr g (fun _ => False) (i + 1) (upd (fun _ => -1) L 0) (upd (fun _ => []) L (idsW zi i))) (fun vi _ => 10 - (intOf vi).toNat)
    case atStart => exact ⟨0, rfl, by omega, by omega, by
      have : upd (fun _ => ([] : List (Int × Int))) L (idsW zi 0) = fun _ => [] := by funext k; unfold upd idsW; simp
      rw [this]; exact T2⟩
    case round =>
      clear T2
      obtain ⟨i, rfl, hi, hin, T⟩ := hrel
      by_cases h1 : (i : Int) < (ni : Int)
      · have h1' : decide ((i : Int) < (ni : Int)) = true := decide_eq_true h1
        by_cases h2 : (i : Int) < 10
        · obtain ⟨b, o, rfl, hb, hc⟩ := hsl.at (k := i) (by omega)
          rw [← T.bel.cell (p := ⟨b, o + i, none⟩) hb] at hc
          have hb' : b < wr.heap.size := Nat.lt_of_lt_of_le hb T.bel.size
          have e1 := idsW_succ zi i
          have HZ : Hid (idsW zi (i + 1) = idsW zi i ++ [((i : Int), zi[i]?.getD 0)]) := e1
          clear e1
          generalize zi[i]?.getD 0 = x at *
          have HW : Hid ((idsW zi (i + 1)).length = i + 1) := idsW_len _ _
          go_wp2_with (first
            | (go_at_call 9; refine (to_ask_wait T x HIL.out hL0 (by omega) (.inl (by rw [upd_at]; omega)) (by omega)).mono ?_; rintro e w3 ⟨rfl, k3, T3⟩; rw [upd_upd, upd_at, ← HZ.out] at T3)
            | (go_at_call 16; refine (to_waiting T3 HIL.out).mono ?_; rintro e w4 ⟨rfl, rfl⟩; rw [upd_at, HW.out]))
          go_roundw
          case rel => exact ⟨i + 1, by go_num, by omega, by omega, T3⟩
          case measure => simp [intOf]; omega
        · obtain rfl : i = m := by have := HM.out; omega
          go_wp2_with fail
          go_meet
          case rel => exact T.more (by omega)
      · obtain rfl : i = m := by have := HM.out; omega
        go_wp2_with fail
        go_meet
        case rel => exact T.more (by omega)
  case rest => as_aux_lemma =>
    clear T2
    go_upto_block 2 with fail
    go_cut [] (fun wx => ∃ (n : Nat) (u : Int), TO w wx g (fun _ => False) n (upd (fun _ => -1) L u) (upd (fun _ => []) L []) ∧ n ≤ 40)
    case first => as_aux_lemma =>
      go_wp2_with fail
      go_loopw [7, 8] (fun vw vi wr => ∃ (i n : Nat) (u : Int), vw = .int .i64 u ∧ vi = .int .i64 (i : Int) ∧ 0 ≤ u ∧ i ≤ m ∧ n ≤ 11 + i ∧ TO w wr g (fun _ => False) n (upd (fun _ => -1) L u) (upd (fun _ => []) L ((idsW zi m).drop i))) (fun _ vi _ => 10 - (intOf vi).toNat)
      case atStart => exact ⟨0, 11, 0, rfl, rfl, by omega, by omega, by omega, hcut⟩
      case round =>
        clear hcut
        obtain ⟨i, n, u, rfl, rfl, hu, hi, hn, T⟩ := hrel
        have done : i = m → TO w wr g (fun _ => False) n (upd (fun _ => -1) L u) (upd (fun _ => []) L []) := fun e => by
          have h2 : (idsW zi m).drop i = [] := List.drop_eq_nil_of_le (by rw [idsW_len]; omega)
          rw [h2] at T; exact T
        have HD : Hid (i = m → TO w wr g (fun _ => False) n (upd (fun _ => -1) L u) (upd (fun _ => []) L [])) := done
        clear done
        by_cases h1 : (i : Int) < (ni : Int)
        · have h1' : decide ((i : Int) < (ni : Int)) = true := decide_eq_true h1
          by_cases h2 : (i : Int) < 10
          · obtain ⟨b, o, rfl, hb, hc⟩ := hsl.at (k := i) (by omega)
            have HB : Hid (b < w.heap.size) := hb
            have HC : Hid (w.cell? ⟨b, o + i, none⟩ = some (.int .i64 (zi[i]?.getD 0))) := hc
            have e1 := idsW_drop zi (i := i) (m := m) (by have := HM.out; omega)
            rw [e1] at T
            clear e1 hc hb
            generalize zi[i]?.getD 0 = x at *
            have HU : Hid (0 ≤ u) := hu
            go_wp2_with (first
              | (have mk := T3; clear mk; go_at_call 14; refine (to_next_ok T3 HIL.out (upd_at _ _ _) (upd_at _ _ _) (by omega)).mono ?_; rintro e w4 ⟨rfl, k4, T4⟩; rw [upd_upd, upd_upd] at T4; have hc4 := (T4.bel.cell (p := ⟨b, o + i, none⟩) HB.out).trans HC.out; have hb4 := Nat.lt_of_lt_of_le HB.out T4.bel.size)
              | (go_at_call 11; refine (to_release_ok T HIL.out (by rw [upd_at]; omega) (upd_at _ _ _)).mono ?_; rintro e w3 ⟨rfl, k3, T3⟩; rw [upd_upd] at T3))
            go_roundw
            case rel => exact ⟨i + 1, n + 1, i, rfl, by go_num, by omega, by have := HM.out; omega, by omega, T4⟩
            case measure => simp [intOf]; omega
          · have T' := HD.out (by have := HM.out; omega)
            go_wp2_with fail
            go_meet
            case rel => exact ⟨n, u, T', by omega⟩
        · have T' := HD.out (by have := HM.out; omega)
          go_wp2_with fail
          go_meet
          case rel => exact ⟨n, u, T', by omega⟩
    case rest => as_aux_lemma =>
      obtain ⟨n, u, T, hn⟩ := hcut
      have e1 : upd (fun _ => (-1 : Int)) L u (L + 1) = -1 := upd_ne _ _ (by omega)
      have e2 : upd (fun _ => ([] : List (Int × Int))) L [] (L + 1) = [] := upd_ne _ _ (by omega)
      go_wp2_with (first
        | (go_at_call 14; refine (to_next_no T HIL1.out (fun h => h.2 e2)).mono ?_; rintro e w4 ⟨rfl, rfl⟩)
        | (go_at_call 12; refine (to_owner T HIL1.out).mono ?_; rintro e w4 ⟨rfl, rfl⟩; rw [e1])
        | (go_at_call 16; refine (to_waiting T HIL1.out).mono ?_; rintro e w4 ⟨rfl, rfl⟩; rw [e2])
        | (go_at_call 11; refine (to_release_no T HIL1.out (.inl e1)).mono ?_; rintro e w4 ⟨rfl, rfl⟩)
        | (go_at_call 9; refine (TU.ask_neg _ _ _ (.inr (by omega))).mono ?_; rintro e w4 ⟨rfl, rfl⟩)
        | (go_at_call 15; refine (twakes_any _).mono ?_; rintro e w9 ⟨rfl, b9⟩))
      go_ret
      exact ⟨rfl, next T.bel b9⟩
end Go.Proofs.Ytnpgpnngpeedhaa
