/- The contracts of plan.Ops and of the document's own OpRight and Ops. Conditions: as each theorem states them. -/
import Derived.Test.YtpagdfmajeodiaaOpsWalks
namespace Go.Proofs.Ytpagdfmajeodiaa
open Go.RowKit
set_option linter.unusedVariables false

/-- A configuration's variable, whatever its numbers. -/
structure CJ (w : World) (g : Nat) (n l k s y o i : Int) (t : Value) : Prop where
  c0 : w.cell? ⟨g, 0, none⟩ = some (.int .i64 n)
  c1 : w.cell? ⟨g, 1, none⟩ = some (.int .i64 l)
  c2 : w.cell? ⟨g, 2, none⟩ = some (.int .i64 k)
  c3 : w.cell? ⟨g, 3, none⟩ = some (.int .i64 s)
  c4 : w.cell? ⟨g, 4, none⟩ = some (.int .i64 y)
  c5 : w.cell? ⟨g, 5, none⟩ = some (.int .i64 o)
  c6 : w.cell? ⟨g, 6, none⟩ = some (.int .i64 i)
  c7 : w.cell? ⟨g, 7, none⟩ = some t
  lt : g < w.heap.size
theorem CJ.made (w : World) (n l k s y o i : Int) (t : Value) : CJ (w.alloc (.cells #[.int .i64 n, .int .i64 l, .int .i64 k, .int .i64 s, .int .i64 y, .int .i64 o, .int .i64 i, t] 25)) w.heap.size n l k s y o i t := by
  constructor <;> simp
theorem CJ.below {w w' : World} {g : Nat} {n l k s y o i : Int} {t : Value} (h : CJ w g n l k s y o i t) (hb : Below w.heap.size w w') : CJ w' g n l k s y o i t := by
  obtain ⟨hc, _⟩ := bcell hb
  exact ⟨by rw [hc _ _ h.lt]; exact h.c0, by rw [hc _ _ h.lt]; exact h.c1, by rw [hc _ _ h.lt]; exact h.c2, by rw [hc _ _ h.lt]; exact h.c3, by rw [hc _ _ h.lt]; exact h.c4, by rw [hc _ _ h.lt]; exact h.c5, by rw [hc _ _ h.lt]; exact h.c6, by rw [hc _ _ h.lt]; exact h.c7, Nat.lt_of_lt_of_le h.lt hb.size⟩

set_option maxHeartbeats 1000000 in
theorem ops_any (n l k s y o i : Int) (t : Value) (a : Option Addr) (cap : Nat) (ps : List (List OpI)) (w : World) (hp : Progs w a cap ps) (hl0 : 1 ≤ l) (hl1 : l ≤ 8) (hk0 : 1 ≤ k) (hk1 : k ≤ 4) :
    Calls Try.prog 14 #[cfg n l k s y o i t, .slice a ps.length cap] w fun e w' => e = .returned (.int .i64 (errI (opsOk n l k ps))) ∧ Below w.heap.size w w' := by
  unfold cfg
  obtain ⟨rows, hp, hrows⟩ := hp
  have hmx := hp.max
  have hle := hp.le
  unfold maxLen at hmx
  by_cases hn : (ps.length : Int) = n
  rotate_left
  · have HO : Hid (opsOk n l k ps = false) := by unfold Hid opsOk; rw [decide_eq_false hn]; rfl
    have hn' : ((ps.length : Int) != n) = true := by simpa using hn
    go_enter Try.func14, Try.ntmps14
    go_wp2
    go_ret
    exact ⟨ret_int (by rw [HO.out]; rfl), ba (Below.refl _ _)⟩
  have HO : Hid (opsOk n l k ps = ps.all (progOk l k)) := by unfold Hid opsOk; rw [decide_eq_true hn]; rfl
  have hn' : ((ps.length : Int) != n) = false := by simpa using hn
  clear hn
  have hcj := CJ.made w n l k s y o i t
  rcases hp.row with he | ⟨b, of, rfl, hc⟩
  · have h0 : ps.length = 0 := by have := hp.len; rw [he] at this; simp at this; omega
    obtain rfl : ps = [] := List.eq_nil_of_length_eq_zero h0
    go_enter Try.func14, Try.ntmps14
    go_wp2
    refine wp_loop_rounds 1 ?_
    rw [rounds_succ]
    go_wp2
    go_ret
    exact ⟨ret_int (by rw [HO.out]; rfl), ba (Below.refl _ _)⟩
  · go_enter Try.func14, Try.ntmps14
    go_wp2
    have hbw : Below w.heap.size w (w.alloc (.cells #[.int .i64 n, .int .i64 l, .int .i64 k, .int .i64 s, .int .i64 y, .int .i64 o, .int .i64 i, t] 25)) := ba (Below.refl _ _)
    generalize w.alloc (.cells #[.int .i64 n, .int .i64 l, .int .i64 k, .int .i64 s, .int .i64 y, .int .i64 o, .int .i64 i, t] 25) = W at *
    go_loopw [14] (fun q wr => ∃ j : Nat, q = .int .i64 j ∧ j ≤ ps.length ∧ (ps.take j).all (progOk l k) = true ∧ Below W.heap.size W wr) (fun q _ => ps.length - (intOf q).toNat)
    case atStart => exact ⟨0, rfl, by omega, rfl, Below.refl _ _⟩
    case round =>
      obtain ⟨j, rfl, hj, hall, hbr⟩ := hrel
      have HA : Hid ((ps.take j).all (progOk l k) = true) := hall
      clear hall
      obtain ⟨c0, c1, c2, c3, c4, c5, c6, c7, clt⟩ := hcj.below hbr
      have hBw : Below w.heap.size w wr := next hbw hbr
      by_cases hlt : j < ps.length
      · have hlt' : (j : Int) < (ps.length : Int) := by omega
        obtain ⟨p, hx⟩ : ∃ p, ps[j]? = some p := ⟨ps[j], by simp [hlt]⟩
        obtain ⟨ai, ci, er, hs⟩ := hrows j p hx
        have g0 := hc _ _ er
        have blt : b < w.heap.size := World.block_lt_of_cell? w _ g0
        rw [← hBw.cell (p := ⟨b, of + j, none⟩) blt] at g0
        have hsr := hs.below hBw
        have HX : Hid (ps[j]? = some p) := hx
        clear hx er hs
        cases hok : progOk l k p
        · have HF : Hid (ps.all (progOk l k) = false) := all_not HX.out hok
          go_wp2_with (go_at_call 28; refine (isProgram_any n l k s y o i t ai ci p _ hsr hl0 hl1 hk0 hk1).mono ?_; rintro e w2 ⟨rfl, hb2⟩)
          go_ret
          exact ⟨ret_int (by rw [HO.out, HF.out]; rfl), next hBw hb2⟩
        · go_wp2_with (go_at_call 28; refine (isProgram_any n l k s y o i t ai ci p _ hsr hl0 hl1 hk0 hk1).mono ?_; rintro e w2 ⟨rfl, hb2⟩)
          go_roundw
          case rel => exact ⟨j + 1, by go_num, by omega, all_take HA.out HX.out hok, next hbr hb2⟩
          case measure => simp [intOf]; omega
      · have hlt' : (ps.length : Int) ≤ (j : Int) := by omega
        go_wp2
        go_ret
        refine ⟨ret_int ?_, hBw⟩
        have := HA.out
        rw [List.take_of_length_le (by omega)] at this
        rw [HO.out, this]; rfl

set_option maxHeartbeats 1000000 in
theorem refOpRight_any (n l k s y o i : Int) (t : Value) (x : OpI) (w : World) (hl0 : 1 ≤ l) (hl1 : l ≤ 8) (hk0 : 1 ≤ k) (hk1 : k ≤ 4) :
    Calls Try.prog 33 #[cfg n l k s y o i t, opv x] w fun e w' => e = .returned (.bool (opOk l k x)) ∧ Below w.heap.size w w' := by
  obtain ⟨xk, xa, xv⟩ := x
  unfold cfg opv
  have h1 : 1 ≤ l * k := by have := Int.mul_le_mul hl0 hk0 (by omega) (by omega); simpa using this
  have h2 : l * k ≤ 32 := by have := Int.mul_le_mul hl1 hk1 (by omega) (by omega); simpa using this
  have HO : Hid (opOk l k ⟨xk, xa, xv⟩ = ((decide (0 ≤ xa) && decide (xa < l * k)) && (xk == 2 || xk == 3 || ((xk == 1 || xk == 4) && xv == 0)))) := rfl
  go_enter Try.func33, Try.ntmps33
  go_wp2
  all_goals go_ret
  all_goals refine ⟨ret_bool ?_, ba (ba (Below.refl _ _))⟩
  all_goals rw [HO.out]
  all_goals clear HO
  all_goals generalize l * k = m at *
  all_goals (rw [Bool.eq_iff_iff]; simp only [Bool.and_eq_true, Bool.or_eq_true, decide_eq_true_eq, beq_iff_eq, Bool.false_eq_true, true_iff, false_iff]; omega)

set_option maxRecDepth 20000 in
set_option maxHeartbeats 1000000 in
theorem refOps_any (n l k s y o i : Int) (t : Value) (a : Option Addr) (cap : Nat) (ps : List (List OpI)) (w : World) (hp : Progs w a cap ps) (hl0 : 1 ≤ l) (hl1 : l ≤ 8) (hk0 : 1 ≤ k) (hk1 : k ≤ 4) :
    Calls Try.prog 25 #[cfg n l k s y o i t, .slice a ps.length cap] w fun e w' => e = .returned (.bool (opsOk n l k ps)) ∧ Below w.heap.size w w' := by
  unfold cfg
  obtain ⟨rows, hp, hrows⟩ := hp
  have hmx := hp.max
  have hle := hp.le
  unfold maxLen at hmx
  by_cases hn : (ps.length : Int) = n
  rotate_left
  · have HO : Hid (opsOk n l k ps = false) := by unfold Hid opsOk; rw [decide_eq_false hn]; rfl
    have hn' : ((ps.length : Int) != n) = true := by simpa using hn
    go_enter Try.func25, Try.ntmps25
    go_wp2
    go_ret
    exact ⟨ret_bool (by rw [HO.out]), ba (Below.refl _ _)⟩
  have HO : Hid (opsOk n l k ps = ps.all (progOk l k)) := by unfold Hid opsOk; rw [decide_eq_true hn]; rfl
  have hn' : ((ps.length : Int) != n) = false := by simpa using hn
  clear hn
  have hcj := CJ.made w n l k s y o i t
  rcases hp.row with he | ⟨b, of, rfl, hc⟩
  · have h0 : ps.length = 0 := by have := hp.len; rw [he] at this; simp at this; omega
    obtain rfl : ps = [] := List.eq_nil_of_length_eq_zero h0
    go_enter Try.func25, Try.ntmps25
    go_wp2
    refine wp_loop_rounds 1 ?_
    rw [rounds_succ]
    go_wp2
    go_ret
    exact ⟨ret_bool (by rw [HO.out]; rfl), ba (Below.refl _ _)⟩
  · go_enter Try.func25, Try.ntmps25
    go_wp2
    have hbw : Below w.heap.size w (w.alloc (.cells #[.int .i64 n, .int .i64 l, .int .i64 k, .int .i64 s, .int .i64 y, .int .i64 o, .int .i64 i, t] 25)) := ba (Below.refl _ _)
    generalize w.alloc (.cells #[.int .i64 n, .int .i64 l, .int .i64 k, .int .i64 s, .int .i64 y, .int .i64 o, .int .i64 i, t] 25) = W at *
    go_loopw [16] (fun q wr => ∃ j : Nat, q = .int .i64 j ∧ j ≤ ps.length ∧ (ps.take j).all (progOk l k) = true ∧ Below W.heap.size W wr) (fun q _ => ps.length - (intOf q).toNat)
    case atStart => exact ⟨0, rfl, by omega, rfl, Below.refl _ _⟩
    case round =>
      obtain ⟨j, rfl, hj, hall, hbr⟩ := hrel
      have HA : Hid ((ps.take j).all (progOk l k) = true) := hall
      clear hall
      have hBw : Below w.heap.size w wr := next hbw hbr
      by_cases hlt : j < ps.length
      · have hlt' : (j : Int) < (ps.length : Int) := by omega
        obtain ⟨p, hx⟩ : ∃ p, ps[j]? = some p := ⟨ps[j], by simp [hlt]⟩
        obtain ⟨ai, ci, er, hs⟩ := hrows j p hx
        have g0 := hc _ _ er
        have blt : b < w.heap.size := World.block_lt_of_cell? w _ g0
        rw [← hBw.cell (p := ⟨b, of + j, none⟩) blt] at g0
        have hsr := hs.below hBw
        have HX : Hid (ps[j]? = some p) := hx
        have hml := hs.max
        have hll := hs.le
        unfold maxLen at hml
        clear hx er hs
        by_cases h24 : 24 < p.length
        · have h24' : (24 : Int) < (p.length : Int) := by omega
          have HF : Hid (ps.all (progOk l k) = false) := all_not HX.out (by unfold progOk; rw [decide_eq_false (by omega)]; rfl)
          go_wp2
          go_ret
          exact ⟨ret_bool (by rw [HO.out, HF.out]), hBw⟩
        · have h24' : (p.length : Int) ≤ 24 := by omega
          have HP : Hid (progOk l k p = p.all (opOk l k)) := by unfold Hid progOk; rw [decide_eq_true (by omega)]; rfl
          clear h24
          rcases hsr.row with he | ⟨b2, of2, rfl, hc2⟩
          · have h0 : p.length = 0 := by have := flat_len p; rw [he] at this; simp at this; omega
            obtain rfl : p = [] := List.eq_nil_of_length_eq_zero h0
            go_wp2
            refine wp_loop_rounds 1 ?_
            rw [rounds_succ]
            go_wp2
            go_roundw
            case rel => exact ⟨j + 1, by go_num, by omega, all_take HA.out HX.out (by rw [HP.out]; rfl), hbr⟩
            case measure => simp [intOf]; omega
          · go_wp2
            have hcj2 := hcj.below hbr
            generalize wr = wo at *
            go_loopw [25] (fun q wq => ∃ m : Nat, q = .int .i64 m ∧ m ≤ p.length ∧ (p.take m).all (opOk l k) = true ∧ Below wo.heap.size wo wq) (fun q _ => p.length - (intOf q).toNat)
            case atStart => exact ⟨0, rfl, by omega, rfl, Below.refl _ _⟩
            case round =>
              obtain ⟨m, rfl, hm, hall, hbq⟩ := hrel
              have HB : Hid ((p.take m).all (opOk l k) = true) := hall
              clear hall
              obtain ⟨c0, c1, c2, c3, c4, c5, c6, c7, clt⟩ := hcj2.below hbq
              by_cases hlm : m < p.length
              · have hlm' : (m : Int) < (p.length : Int) := by omega
                obtain ⟨x, hx⟩ : ∃ x, p[m]? = some x := ⟨p[m], by simp [hlm]⟩
                obtain ⟨g0, g1, g2⟩ := op_cells hc2 hx
                have blt2 : b2 < wo.heap.size := World.block_lt_of_cell? wo _ g0
                rw [← hbq.cell (p := ⟨b2, of2 + m * 3, none⟩) blt2] at g0
                rw [← hbq.cell (p := ⟨b2, of2 + m * 3 + 1, none⟩) blt2] at g1
                rw [← hbq.cell (p := ⟨b2, of2 + m * 3 + 2, none⟩) blt2] at g2
                obtain ⟨xk, xa, xv⟩ := x
                have HY : Hid (p[m]? = some ⟨xk, xa, xv⟩) := hx
                clear hx
                cases hok : opOk l k ⟨xk, xa, xv⟩
                · have HF : Hid (ps.all (progOk l k) = false) := all_not HX.out (by rw [HP.out]; exact all_not HY.out hok)
                  go_wp2_with (go_at_call 33; refine (refOpRight_any n l k s y o i t ⟨xk, xa, xv⟩ _ hl0 hl1 hk0 hk1).mono ?_; rintro e w2 ⟨rfl, hb2⟩)
                  go_ret
                  exact ⟨ret_bool (by rw [HO.out, HF.out]), next hBw (next hbq (next (ba (Below.refl _ _)) hb2))⟩
                · go_wp2_with (go_at_call 33; refine (refOpRight_any n l k s y o i t ⟨xk, xa, xv⟩ _ hl0 hl1 hk0 hk1).mono ?_; rintro e w2 ⟨rfl, hb2⟩)
                  go_roundw
                  case rel => exact ⟨m + 1, by go_num, by omega, all_take HB.out HY.out hok, next hbq (next (ba (Below.refl _ _)) hb2)⟩
                  case measure => simp [intOf]; omega
              · have hlm' : (p.length : Int) ≤ (m : Int) := by omega
                go_wp2
                go_roundw
                case rel =>
                  refine ⟨j + 1, by go_num, by omega, all_take HA.out HX.out ?_, next hbr hbq⟩
                  have := HB.out
                  rw [List.take_of_length_le (by omega)] at this
                  rw [HP.out, this]
                case measure => simp [intOf]; omega
      · have hlt' : (ps.length : Int) ≤ (j : Int) := by omega
        go_wp2
        go_ret
        refine ⟨ret_bool ?_, hBw⟩
        have := HA.out
        rw [List.take_of_length_le (by omega)] at this
        rw [HO.out, this]
end Go.Proofs.Ytpagdfmajeodiaa
