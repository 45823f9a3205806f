/- The walk of QueueOrder: it answers true and writes nothing that was there. No condition but that the arguments are ones that can come in. -/
import Derived.Test.YtgjceclidbnggaaQuePut
import Derived.Test.YtgjceclidbnggaaQueTake
namespace Go.Proofs.Ytgjceclidbnggaa
open Go.RowKit
set_option linter.unusedVariables false

/-- A packet of which the ID alone is told. -/
def idPk (i : Int) : Pk := ⟨0, 0, 0, i, 0, 0, 0, false, []⟩
set_option maxHeartbeats 600000 in
theorem wakes_any (w : World) :
    Calls Try.prog 13 #[] w fun e w' => e = .returned (.bool true) ∧ Below w.heap.size w w' := by
  go_enter Try.func13, Try.ntmps13
  go_wp2_with (first
    | (go_at_call 8; refine (new_any 1 _).mono ?_; rintro e w1 ⟨rfl, hb1, hq1⟩; rw [show max (1 : Int) 0 = 1 from rfl] at hq1)
    | (go_at_call 10; refine (take_none _ hq1).mono ?_; rintro e w2 ⟨rfl, hb2⟩; unfold zeroPk Pk.val)
    | (go_at_call 9; have mk := hk4; clear mk; refine (put_full _ hq4 (idPk 0) none 0 0 (by omega) (by omega) (by rfl)).mono ?_; rintro e w5 ⟨rfl, hb5⟩)
    | (go_at_call 9; refine (put_ok _ (hq1.below (next hb2 (ba (Below.refl _ _)))) (idPk 5) none 0 0 (sl_nil _) (by omega) (by omega) (by omega) (by decide)).mono ?_; rintro e w4 ⟨rfl, hk4, M4, D4, hq4, hM4, hD4⟩)
    | (go_at_call 11; refine (len_n _ (hq4.below hb5) 1 rfl).mono ?_; rintro e w6 ⟨rfl, rfl⟩))
  go_ret
  exact ⟨rfl, next (hk4.after (next hb1 (next hb2 (ba (Below.refl _ _)))) (fun k e => by omega)) hb5⟩

/-- Packets whose IDs go up by one. -/
def ids (o n : Nat) : List Pk := (List.range' o n).map fun i : Nat => idPk (i : Int)
theorem ids_len (o n : Nat) : (ids o n).length = n := by simp [ids]
theorem ids_cons (o n : Nat) : ids o (n + 1) = idPk o :: ids (o + 1) n := by simp [ids, List.range'_succ]
theorem ids_snoc (o n : Nat) : ids o n ++ [idPk ((o + n : Nat) : Int)] = ids o (n + 1) := by simp [ids, List.range'_concat]
theorem ids_get {o n i : Nat} (h : i < n) : (ids o n)[i]? = some (idPk ((o + i : Nat) : Int)) := by simp [ids, h]
/-- A queue of such packets, in memory from base on. -/
def QIds (w : World) (base g : Nat) (room : Int) (o c : Nat) : Prop := ∃ M D, Qu w g M D room (ids o c) ∧ ∀ k, M k ∨ D k → base ≤ k
theorem QIds.below {w w' : World} {base g : Nat} {room : Int} {o c : Nat} (h : QIds w base g room o c) (hb : Below w.heap.size w w') : QIds w' base g room o c := by
  obtain ⟨M, D, hq, hn⟩ := h
  exact ⟨M, D, hq.below hb, hn⟩
theorem putIds_ok (w : World) {base g : Nat} {room : Int} {o c : Nat} (h : QIds w base g room o c) (hb : base ≤ w.heap.size) (X : Int) (hX : X = ((o + c : Nat) : Int)) (h1 : room ≤ 1000000000) (hr : (c : Int) < room) :
    Calls Try.prog 9 #[.pointer (some ⟨g, 0, none⟩), (idPk X).val (.slice none 0 0)] w fun e w' => e = .returned (.int .i64 0) ∧ Below base w w' ∧ QIds w' base g room o (c + 1) := by
  obtain ⟨M, D, hq, hn⟩ := h
  refine (put_ok w hq (idPk X) none 0 0 (sl_nil _) (by omega) (by omega) h1 (by rw [ids_len]; exact hr)).mono ?_
  rintro e w' ⟨rfl, hk, M', D', hq', hM, hD⟩
  rw [hX, ids_snoc] at hq'
  exact ⟨rfl, hk.below (fun k hm => hn k (.inl hm)) hb, M', D', hq', fun k h => by
    rcases h with h | h
    · rcases hM k h with h | h
      · exact hn k (.inl h)
      · omega
    · rcases hD k h with h | h
      · exact hn k (.inr h)
      · omega⟩
theorem putIds_full (w : World) {base g : Nat} {room : Int} {o c : Nat} (h : QIds w base g room o c) (X : Int) (h1 : room ≤ 1000000000) (hr : (c : Int) = room) :
    Calls Try.prog 9 #[.pointer (some ⟨g, 0, none⟩), (idPk X).val (.slice none 0 0)] w fun e w' => e = .returned (.int .i64 5) ∧ Below w.heap.size w w' := by
  obtain ⟨M, D, hq, hn⟩ := h
  exact put_full w hq (idPk X) none 0 0 (by omega) h1 (by rw [ids_len]; exact hr)
theorem takeIds_none (w : World) {base g : Nat} {room : Int} {o : Nat} (h : QIds w base g room o 0) :
    Calls Try.prog 10 #[.pointer (some ⟨g, 0, none⟩)] w fun e w' => e = .returned (.tuple #[zeroPk.val (.slice none 0 0), .bool false]) ∧ Below w.heap.size w w' := by
  obtain ⟨M, D, hq, hn⟩ := h
  exact take_none w hq
theorem takeIds_some (w : World) {base g : Nat} {room : Int} {o c : Nat} (h : QIds w base g room o (c + 1)) (hb : base ≤ w.heap.size) (Y : Int) (hY : Y = (o : Int)) :
    Calls Try.prog 10 #[.pointer (some ⟨g, 0, none⟩)] w fun e w' => ∃ a n m, e = .returned (.tuple #[(idPk Y).val (.slice a n m), .bool true]) ∧ Below base w w' ∧ QIds w' base g room (o + 1) c := by
  obtain ⟨M, D, hq, hn⟩ := h
  rw [ids_cons, ← hY] at hq
  refine (take_some w hq).mono ?_
  rintro e w' ⟨d, rfl, hk, ⟨a, n, m, rfl, _⟩, hq'⟩
  exact ⟨a, n, m, rfl, hk.below (fun k hm => hn k (.inl hm)) hb, M, D, hq', hn⟩
theorem QIds.qu {w : World} {base g : Nat} {room : Int} {o c : Nat} (h : QIds w base g room o c) : ∃ M D, Qu w g M D room (ids o c) := by
  obtain ⟨M, D, hq, _⟩ := h
  exact ⟨M, D, hq⟩
theorem qids_new {w : World} {base g : Nat} {room r : Int} (hq : Qu w g (fun k => k = g) (fun _ => False) r []) (h : base ≤ g) (hr : r = room) : QIds w base g room 0 0 := by
  subst hr
  exact ⟨fun k => k = g, fun _ => False, hq, fun k hk => (by rcases hk with e | e; omega; exact e.elim)⟩

theorem bools_at {w : World} {a : Option Addr} {n cap : Nat} {bs : List Bool} (h : SlV w a n cap 1 (bs.map Value.bool)) {i : Nat} (hi : i < n) : ∃ b o x, a = some ⟨b, o, none⟩ ∧ b < w.heap.size ∧ w.cell? ⟨b, o + i, none⟩ = some (.bool x) := by
  have hl := h.len
  simp at hl
  rcases h.row with h0 | ⟨b, o, e, hc⟩
  · simp at h0; subst h0; simp at hl; omega
  · have hx : (bs.map Value.bool)[i]? = some (.bool (bs[i]'(by omega))) := by simp [show i < bs.length by omega]
    have := hc i _ hx
    exact ⟨b, o, _, e, World.block_lt_of_cell? w _ this, this⟩
set_option maxHeartbeats 600000 in
set_option maxRecDepth 20000 in
theorem queueOrder_walk (room0 : Int) (a : Option Addr) (n cap : Nat) (bs : List Bool) (w : World) (hsl : SlV w a n cap 1 (bs.map Value.bool)) :
    Calls Try.prog 3 #[.int .i64 room0, .slice a n cap] w fun e w' => e = .returned (.bool true) ∧ Below w.heap.size w w' := by
  obtain ⟨rm, hrm, r0, r1⟩ : ∃ rm, room0 % 8 = rm ∧ 0 ≤ rm ∧ rm < 8 := ⟨_, rfl, by omega, by omega⟩
  have hmx := hsl.max
  have hle := hsl.le
  unfold maxLen at hmx
  go_enter Try.func3, Try.ntmps3
  go_wp2_with (first
    | (go_at_call 7; refine (within_any _ _ _ (by omega) (by omega)).mono ?_; rintro e wx ⟨rfl, rfl⟩; rw [hrm])
    | (go_at_call 8; refine (new_any rm _).mono ?_; rintro e w1 ⟨rfl, hb1, hq1⟩; replace hq1 := qids_new (base := w.heap.size) hq1 (Nat.le_refl _) (Int.max_eq_left r0)))
  generalize hg : w.heap.size = g at *
  go_loopw [6, 7, 8] (fun vx vy vi wr => ∃ (i o c : Nat) (X Y : Int), vi = .int .i64 (i : Int) ∧ vx = .int .i64 X ∧ vy = .int .i64 Y ∧ X = ((o + c : Nat) : Int) ∧ Y = (o : Int) ∧ i ≤ 40 ∧ o + c ≤ i ∧ (c : Int) ≤ rm ∧ QIds wr g g rm o c ∧ Below g w wr) (fun _ _ vi _ => 40 - (intOf vi).toNat)
  case atStart => exact ⟨0, 0, 0, 0, 0, rfl, rfl, rfl, rfl, rfl, by omega, by omega, by omega, hq1, hb1⟩
  case round =>
    obtain ⟨i, o, c, X, Y, rfl, rfl, rfl, hX, hY, hi, hic, hc, hq, hB⟩ := hrel
    have HX : Hid (X = ((o + c : Nat) : Int)) := hX
    have HY : Hid (Y = (o : Int)) := hY
    have x0 : 0 ≤ Y := by omega
    have x1 : Y ≤ X := by omega
    have x2 : X ≤ 40 := by omega
    clear hX hY
    have hgz : g ≤ wr.heap.size := by rw [← hg]; exact hB.size
    by_cases hin : (i : Int) < (n : Int) ∧ (i : Int) < 40
    · obtain ⟨h1, h2⟩ := hin
      have h1' : decide ((i : Int) < (n : Int)) = true := decide_eq_true h1
      obtain ⟨b, of, bit, rfl, hblt, hcell⟩ := bools_at hsl (i := i) (by omega)
      rw [← hB.cell (p := ⟨b, of + i, none⟩) (by rw [← hg]; exact hblt)] at hcell
      have hblt' : b < wr.heap.size := by omega
      cases bit
      · cases c with
        | zero =>
          have hd : decide (Y < X) = false := decide_eq_false (by have := HX.out; have := HY.out; omega)
          go_wp2_with (go_at_call 10; refine (takeIds_none _ hq).mono ?_; rintro e w2 ⟨rfl, hb2⟩; unfold zeroPk Pk.val)
          go_roundw
          case rel => exact ⟨i + 1, o, 0, X, Y, by go_num, rfl, rfl, HX.out, HY.out, by omega, by omega, by omega, (hq.below hb2).below (ba (Below.refl _ _)), hB.trans ((next hb2 (ba (Below.refl _ _))).mono hgz)⟩
          case measure => simp [intOf]; omega
        | succ c =>
          have hd : decide (Y < X) = true := decide_eq_true (by have := HX.out; have := HY.out; omega)
          go_wp2_with (go_at_call 10; refine (takeIds_some _ hq hgz Y HY.out).mono ?_; rintro e w2 ⟨a2, n2, m2, rfl, hb2, hq2⟩; unfold idPk Pk.val)
          go_roundw
          case rel => exact ⟨i + 1, o + 1, c, X, Y + 1, by go_num, rfl, rfl, by have := HX.out; omega, by have := HY.out; omega, by omega, by omega, by omega, hq2.below (ba (Below.refl _ _)), hB.trans (hb2.trans ((ba (Below.refl _ _)).mono (Nat.le_trans hgz hb2.size)))⟩
          case measure => simp [intOf]; omega
      · by_cases hf : (c : Int) = rm
        · have ht : (X - Y == rm) = true := by have := HX.out; have := HY.out; simp; omega
          have HF : Hid ((c : Int) = rm) := hf
          clear hf
          go_wp2_with (go_at_call 9; refine (putIds_full _ hq X (by omega) HF.out).mono ?_; rintro e w2 ⟨rfl, hb2⟩)
          go_roundw
          case rel => exact ⟨i + 1, o, c, X, Y, by go_num, rfl, rfl, HX.out, HY.out, by omega, by omega, by omega, hq.below hb2, hB.trans (hb2.mono hgz)⟩
          case measure => simp [intOf]; omega
        · have ht : (X - Y == rm) = false := by have := HX.out; have := HY.out; simp; omega
          have HF : Hid (¬ (c : Int) = rm) := hf
          clear hf
          go_wp2_with (go_at_call 9; refine (putIds_ok _ hq hgz X HX.out (by omega) (by have := HF.out; omega)).mono ?_; rintro e w2 ⟨rfl, hb2, hq2⟩)
          go_roundw
          case rel => exact ⟨i + 1, o, c + 1, X + 1, Y, by go_num, rfl, rfl, by have := HX.out; omega, HY.out, by omega, by omega, by have := HF.out; omega, hq2, hB.trans hb2⟩
          case measure => simp [intOf]; omega
    · obtain ⟨M, D, hqq⟩ := hq.qu
      have e1 : ((ids o c).length : Int) = X - Y := by rw [ids_len]; have := HX.out; have := HY.out; omega
      have E1 : Hid (((ids o c).length : Int) = X - Y) := e1
      have E2 : Hid (rm - ((ids o c).length : Int) = rm - X + Y) := by show _ = _; omega
      clear e1
      by_cases h1 : (i : Int) < (n : Int)
      · have h1' : decide ((i : Int) < (n : Int)) = true := decide_eq_true h1
        have h2' : ¬ (i : Int) < 40 := fun h => hin ⟨h1, h⟩
        have h2 : decide ((i : Int) < 40) = false := decide_eq_false h2'
        clear hin
        go_wp2_with (first
          | (go_at_call 11; refine (len_n _ hqq (X - Y) E1.out).mono ?_; rintro e w2 ⟨rfl, rfl⟩)
          | (go_at_call 12; refine (room_n _ hqq r0 (by omega) (rm - X + Y) E2.out).mono ?_; rintro e w2 ⟨rfl, k2, rfl⟩)
          | (go_at_call 13; refine (wakes_any _).mono ?_; rintro e w3 ⟨rfl, hb3⟩))
        go_ret
        exact ⟨rfl, by rw [hg]; exact hB.trans ((next (below_dn _ k2) hb3).mono hgz)⟩
      · have h1' : decide ((i : Int) < (n : Int)) = false := decide_eq_false h1
        have h1n : (n : Int) ≤ (i : Int) := by omega
        clear hin h1
        go_wp2_with (first
          | (go_at_call 11; refine (len_n _ hqq (X - Y) E1.out).mono ?_; rintro e w2 ⟨rfl, rfl⟩)
          | (go_at_call 12; refine (room_n _ hqq r0 (by omega) (rm - X + Y) E2.out).mono ?_; rintro e w2 ⟨rfl, k2, rfl⟩)
          | (go_at_call 13; refine (wakes_any _).mono ?_; rintro e w3 ⟨rfl, hb3⟩))
        go_ret
        exact ⟨rfl, by rw [hg]; exact hB.trans ((next (below_dn _ k2) hb3).mono hgz)⟩
end Go.Proofs.Ytgjceclidbnggaa
