/- The document's cache: NewCache, At, in, Victim, Full. Conditions: as each theorem states them. -/
import Derived.Test.YtfobgkkmbacfjaaCa0
namespace Go.Proofs.Ytfobgkkmbacfjaa
open Go.RowKit
set_option linter.unusedVariables false
set_option maxRecDepth 20000
namespace CR

set_option maxHeartbeats 400000 in
theorem at_any {w : World} {g : Nat} {M D : Nat → Prop} {S W k : Int} {L : List En} (h : Ca w g M D S W k L) (line : Int) :
    Calls Try.prog 22 #[.pointer (some ⟨g, 0, none⟩), .int .i64 line] w fun e w' => e = .returned (.int .i64 (atL L line)) ∧ w = w' := by
  obtain ⟨R, a, cap, h⟩ := h
  obtain ⟨c0, c1, c2, c3, fz, lt, _, row, _, _⟩ := h
  obtain ⟨n, hn⟩ : ∃ n, L.length = n := ⟨_, rfl⟩
  rw [hn] at c3 row
  have hle := row.row.le
  have hmx := row.row.max
  unfold maxLen at hmx
  have HN : Hid (L.length = n) := hn
  clear hn fz
  go_enter Try.func22, Try.ntmps22
  go_wp2_with fail
  go_loopw [11] (fun vi wr => ∃ i : Nat, vi = .int .i64 (i : Int) ∧ i ≤ n ∧ w = wr ∧ Hid (∀ j y, j < i → L[j]? = some y → y.n ≠ line)) (fun vi _ => n - (intOf vi).toNat)
  case atStart => exact ⟨0, rfl, by omega, rfl, fun j y hj => by omega⟩
  case round =>
    obtain ⟨i, rfl, hi, rfl, HJ⟩ := hrel
    by_cases hlt : i < n
    · obtain ⟨x, d, b, o, hx, _, _, rfl, _, hb, ⟨_, _, x2, _⟩, _⟩ := row.get hlt
      have HX : Hid (L[i]? = some x) := hx
      clear hx row
      by_cases he : x.n = line
      · have HE : Hid (x.n = line) := he
        rw [he] at x2
        clear he
        go_wp2_with fail
        go_ret
        exact ⟨ret_int (atL_hit HX.out HE.out HJ.out).symm, rfl⟩
      · have hb2 : (x.n == line) = false := by simpa using he
        have HE : Hid (x.n ≠ line) := he
        clear he
        go_wp2_with fail
        go_roundw
        case rel =>
          refine ⟨i + 1, by go_num, by omega, by trivial, fun j y hj hy => ?_⟩
          by_cases hji : j = i
          · subst hji
            rw [HX.out] at hy
            obtain rfl := Option.some.inj hy
            exact HE.out
          · exact HJ.out j y (by omega) hy
        case measure => simp [intOf]; omega
    · go_wp2_with fail
      go_ret
      refine ⟨ret_int (atL_miss (fun y hy => ?_)).symm, rfl⟩
      obtain ⟨j, hj⟩ := List.mem_iff_getElem?.1 hy
      exact HJ.out j y (by have := (List.getElem?_eq_some_iff.1 hj).1; have := HN.out; omega) hj
set_option maxHeartbeats 400000 in
theorem in_any {w : World} {g : Nat} {M D : Nat → Prop} {S W k : Int} {L : List En} (h : Ca w g M D S W k L) (line : Int) (hS : 1 ≤ S) :
    Calls Try.prog 45 #[.pointer (some ⟨g, 0, none⟩), .int .i64 line] w fun e w' => e = .returned (.int .i64 (inL S L line)) ∧ Below w.heap.size w w' := by
  obtain ⟨R, a, cap, h⟩ := h
  obtain ⟨c0, c1, c2, c3, fz, lt, _, row, _, _⟩ := h
  obtain ⟨n, hn⟩ : ∃ n, L.length = n := ⟨_, rfl⟩
  rw [hn] at c3 row
  have hle := row.row.le
  have hmx := row.row.max
  unfold maxLen at hmx
  have HN : Hid (L.length = n) := hn
  clear hn fz
  have hS0 : ¬ S = 0 := by omega
  go_enter Try.func45, Try.ntmps45
  go_wp2_with fail
  go_loopw [5, 13] (fun vn vi wr => ∃ (i m : Nat), vn = .int .i64 (m : Int) ∧ vi = .int .i64 (i : Int) ∧ i ≤ n ∧ m ≤ i ∧ Below w.heap.size w wr ∧ Hid (inL S (L.take i) line = m)) (fun _ vi _ => n - (intOf vi).toNat)
  case atStart => exact ⟨0, 0, rfl, rfl, by omega, by omega, Below.refl _ _, by show _ = _; simp [inL]⟩
  case round =>
    obtain ⟨i, m, rfl, rfl, hi, hmi, hB, HJ⟩ := hrel
    by_cases hlt : i < n
    · obtain ⟨x, d, b, o, hx, _, hd, rfl, _, hb, ⟨x0, x1, x2, x3, x4, x5⟩, _⟩ := (row.below hB).get hlt
      obtain ⟨da, dn, dc, rfl, _⟩ := hd
      have HX : Hid (L[i]? = some x) := hx
      have lt2 : g < wr.heap.size := Nat.lt_of_lt_of_le lt hB.size
      have d0 : wr.cell? ⟨g, 0, none⟩ = some (.int .i64 S) := (hB.cell (p := ⟨g, 0, none⟩) lt).trans c0
      have bx := Eb.madeT wr x (.slice da dn dc) 41
      clear hx row c0 c1 c2 c3 lt
      go_upto_region 5 with fail
      have hB2 := hB.trans ((ba (o := .cells #[.int .i64 x.f, .int .i64 x.b, .int .i64 x.n, .int .i64 x.u, .bool x.q, .slice da dn dc] 41) (Below.refl _ _)).mono hB.size)
      obtain ⟨y0, y1, y2, y3, y4, y5⟩ := bx.lit
      have ylt := bx.lt
      have e0 := (ba (o := .cells #[.int .i64 x.f, .int .i64 x.b, .int .i64 x.n, .int .i64 x.u, .bool x.q, .slice da dn dc] 41) (Below.refl _ wr)).cell (p := ⟨g, 0, none⟩) lt2
      rw [d0] at e0
      have lt3 : g < (wr.alloc (.cells #[.int .i64 x.f, .int .i64 x.b, .int .i64 x.n, .int .i64 x.u, .bool x.q, .slice da dn dc] 41)).heap.size := by simp; omega
      clear x0 x1 x2 x3 x4 x5 d0 lt2 hb hB bx
      generalize wr.heap.size = ge at *
      generalize wr.alloc _ = W2 at *
      have uc := @Up.cell
      obtain ⟨rx, hrx⟩ : ∃ r, x.n.tmod S = r := ⟨_, rfl⟩
      obtain ⟨rl, hrl⟩ : ∃ r, line.tmod S = r := ⟨_, rfl⟩
      have HR : Hid (x.n.tmod S = rx ∧ line.tmod S = rl) := ⟨hrx, hrl⟩
      obtain ⟨xn, hxn⟩ : ∃ v, x.n = v := ⟨_, rfl⟩
      rw [hxn] at y2 hrx
      have HXN : Hid (x.n = xn) := hxn
      clear hxn y0 y1 y3 y4 y5
      have hmn : m < 9223372036854775807 := by omega
      by_cases hl : 0 ≤ line
      · by_cases hm : rx = rl
        · subst hm
          refine wp_region_up (by kernel_rfl) (by kernel_rfl) ?_
          repeat (go_big_quiet_step (fail))
          refine wpQuiet_nil ?_
          rintro _ ⟨u, rfl⟩
          have hB3 := hB2.trans (u.2.mono hB2.size)
          clear uc e0 lt3 y2 hrl hrx ylt hB2
          generalize u.1 = wu at *
          clear u
          go_wp2_with fail
          go_roundw
          case rel => exact ⟨i + 1, m + 1, by go_num, by go_num, by omega, by omega, hB3, by show _ = _; rw [inL_snoc HX.out, HJ.out]; rw [if_pos ⟨hl, by rw [HR.out.1, HR.out.2]⟩]⟩
          case measure => simp [intOf]; omega
        · have hm2 : (rx == rl) = false := by simpa using hm
          refine wp_region_up (by kernel_rfl) (by kernel_rfl) ?_
          repeat (go_big_quiet_step (fail))
          refine wpQuiet_nil ?_
          rintro _ ⟨u, rfl⟩
          have hB3 := hB2.trans (u.2.mono hB2.size)
          clear uc e0 lt3 y2 hrl hrx ylt hB2
          generalize u.1 = wu at *
          clear u
          go_wp2_with fail
          go_roundw
          case rel => exact ⟨i + 1, m, by go_num, by go_num, by omega, by omega, hB3, by show _ = _; rw [inL_snoc HX.out, HJ.out]; rw [if_neg (fun h => hm (by rw [← HR.out.1, ← HR.out.2]; exact h.2))]; rfl⟩
          case measure => simp [intOf]; omega
      · refine wp_region_up (by kernel_rfl) (by kernel_rfl) ?_
        repeat (go_big_quiet_step (fail))
        refine wpQuiet_nil ?_
        rintro _ ⟨u, rfl⟩
        have hB3 := hB2.trans (u.2.mono hB2.size)
        clear uc e0 lt3 y2 hrl hrx ylt hB2
        generalize u.1 = wu at *
        clear u
        go_wp2_with fail
        go_roundw
        case rel => exact ⟨i + 1, m, by go_num, by go_num, by omega, by omega, hB3, by show _ = _; rw [inL_snoc HX.out, HJ.out]; rw [if_neg (fun h => hl h.1)]; rfl⟩
        case measure => simp [intOf]; omega
    · go_wp2_with fail
      go_ret
      exact ⟨ret_int (by have := HJ.out; rw [List.take_of_length_le (by have := HN.out; omega)] at this; rw [this]), hB⟩
set_option maxHeartbeats 400000 in
theorem victim_any {w : World} {g : Nat} {M D : Nat → Prop} {S W k : Int} {L : List En} (h : Ca w g M D S W k L) (line : Int) (hS : 1 ≤ S) :
    Calls Try.prog 24 #[.pointer (some ⟨g, 0, none⟩), .int .i64 line] w fun e w' => e = .returned (.int .i64 (vicL S L line).1) ∧ Below w.heap.size w w' := by
  obtain ⟨R, a, cap, h⟩ := h
  obtain ⟨c0, c1, c2, c3, fz, lt, _, row, _, _⟩ := h
  obtain ⟨n, hn⟩ : ∃ n, L.length = n := ⟨_, rfl⟩
  rw [hn] at c3 row
  have hle := row.row.le
  have hmx := row.row.max
  unfold maxLen at hmx
  have HN : Hid (L.length = n) := hn
  clear hn fz
  have hS0 : ¬ S = 0 := by omega
  go_enter Try.func24, Try.ntmps24
  go_wp2_with fail
  go_loopw [5, 6, 14] (fun vo vu vi wr => ∃ (i : Nat) (o0 u0 : Int), vo = .int .i64 o0 ∧ vu = .int .i64 u0 ∧ vi = .int .i64 (i : Int) ∧ i ≤ n ∧ Below w.heap.size w wr ∧ Hid (vicL S (L.take i) line = (o0, u0))) (fun _ _ vi _ => n - (intOf vi).toNat)
  case atStart => exact ⟨0, -1, 0, rfl, rfl, rfl, by omega, Below.refl _ _, by show _ = _; simp [vicL]⟩
  case round =>
    obtain ⟨i, o0, u0, rfl, rfl, rfl, hi, hB, HJ⟩ := hrel
    by_cases hlt : i < n
    · obtain ⟨x, d, b, o, hx, _, hd, rfl, _, hb, ⟨x0, x1, x2, x3, x4, x5⟩, _⟩ := (row.below hB).get hlt
      obtain ⟨da, dn, dc, rfl, _⟩ := hd
      have HX : Hid (L[i]? = some x) := hx
      have lt2 : g < wr.heap.size := Nat.lt_of_lt_of_le lt hB.size
      have d0 : wr.cell? ⟨g, 0, none⟩ = some (.int .i64 S) := (hB.cell (p := ⟨g, 0, none⟩) lt).trans c0
      have bx := Eb.madeT wr x (.slice da dn dc) 41
      clear hx row c0 c1 c2 c3 lt
      go_upto_region 5 with fail
      have hB2 := hB.trans ((ba (o := .cells #[.int .i64 x.f, .int .i64 x.b, .int .i64 x.n, .int .i64 x.u, .bool x.q, .slice da dn dc] 41) (Below.refl _ _)).mono hB.size)
      obtain ⟨y0, y1, y2, y3, y4, y5⟩ := bx.lit
      have ylt := bx.lt
      have e0 := (ba (o := .cells #[.int .i64 x.f, .int .i64 x.b, .int .i64 x.n, .int .i64 x.u, .bool x.q, .slice da dn dc] 41) (Below.refl _ wr)).cell (p := ⟨g, 0, none⟩) lt2
      rw [d0] at e0
      have lt3 : g < (wr.alloc (.cells #[.int .i64 x.f, .int .i64 x.b, .int .i64 x.n, .int .i64 x.u, .bool x.q, .slice da dn dc] 41)).heap.size := by simp; omega
      clear x0 x1 x2 x3 x4 x5 d0 lt2 hb hB bx
      generalize wr.heap.size = ge at *
      generalize wr.alloc _ = W2 at *
      have uc := @Up.cell
      obtain ⟨rx, hrx⟩ : ∃ r, x.n.tmod S = r := ⟨_, rfl⟩
      obtain ⟨rl, hrl⟩ : ∃ r, line.tmod S = r := ⟨_, rfl⟩
      have HR : Hid (x.n.tmod S = rx ∧ line.tmod S = rl) := ⟨hrx, hrl⟩
      obtain ⟨xn, hxn⟩ : ∃ v, x.n = v := ⟨_, rfl⟩
      obtain ⟨xu, hxu⟩ : ∃ v, x.u = v := ⟨_, rfl⟩
      rw [hxn] at y2 hrx
      rw [hxu] at y3
      have HXN : Hid (x.n = xn ∧ x.u = xu) := ⟨hxn, hxu⟩
      clear hxn hxu y0 y1 y4 y5
      by_cases hl : 0 ≤ line
      · by_cases hm : rx = rl
        · subst hm
          by_cases ho : o0 < 0
          · refine wp_region_up (by kernel_rfl) (by kernel_rfl) ?_
            repeat (go_big_quiet_step (fail))
            refine wpQuiet_nil ?_
            rintro _ ⟨u, rfl⟩
            have hB3 := hB2.trans (u.2.mono hB2.size)
            have y2' := u.2.cell (p := ⟨ge, 2, none⟩) ylt
            have y3' := u.2.cell (p := ⟨ge, 3, none⟩) ylt
            rw [y2] at y2'
            rw [y3] at y3'
            have ylt' := Nat.lt_of_lt_of_le ylt u.2.size
            clear uc e0 lt3 y2 y3 hrl hrx ylt hB2
            generalize u.1 = wu at *
            clear u
            go_upto_region 6 with fail
            have uc := @Up.cell
            refine wp_region_up (by kernel_rfl) (by kernel_rfl) ?_
            repeat (go_big_quiet_step (fail))
            refine wpQuiet_nil ?_
            rintro _ ⟨u, rfl⟩
            have hB4 := hB3.trans (u.2.mono hB3.size)
            clear uc y2' y3' ylt' hB3
            generalize u.1 = wv at *
            clear u
            go_wp2_with fail
            go_roundw
            case rel => exact ⟨i + 1, xn, xu, rfl, rfl, by go_num, by omega, hB4, by show _ = _; rw [vicL_snoc HX.out, HJ.out, vstep, if_pos ⟨hl, by rw [HR.out.1, HR.out.2], .inl ho⟩, HXN.out.1, HXN.out.2]⟩
            case measure => simp [intOf]; omega
          · by_cases hu : xu < u0
            · refine wp_region_up (by kernel_rfl) (by kernel_rfl) ?_
              repeat (go_big_quiet_step (fail))
              refine wpQuiet_nil ?_
              rintro _ ⟨u, rfl⟩
              have hB3 := hB2.trans (u.2.mono hB2.size)
              have y2' := u.2.cell (p := ⟨ge, 2, none⟩) ylt
              have y3' := u.2.cell (p := ⟨ge, 3, none⟩) ylt
              rw [y2] at y2'
              rw [y3] at y3'
              have ylt' := Nat.lt_of_lt_of_le ylt u.2.size
              clear uc e0 lt3 y2 y3 hrl hrx ylt hB2
              generalize u.1 = wu at *
              clear u
              go_upto_region 6 with fail
              have uc := @Up.cell
              refine wp_region_up (by kernel_rfl) (by kernel_rfl) ?_
              repeat (go_big_quiet_step (fail))
              refine wpQuiet_nil ?_
              rintro _ ⟨u, rfl⟩
              have hB4 := hB3.trans (u.2.mono hB3.size)
              clear uc y2' y3' ylt' hB3
              generalize u.1 = wv at *
              clear u
              go_wp2_with fail
              go_roundw
              case rel => exact ⟨i + 1, xn, xu, rfl, rfl, by go_num, by omega, hB4, by show _ = _; rw [vicL_snoc HX.out, HJ.out, vstep, if_pos ⟨hl, by rw [HR.out.1, HR.out.2], .inr (by rw [HXN.out.2]; exact hu)⟩, HXN.out.1, HXN.out.2]⟩
              case measure => simp [intOf]; omega
            · refine wp_region_up (by kernel_rfl) (by kernel_rfl) ?_
              repeat (go_big_quiet_step (fail))
              refine wpQuiet_nil ?_
              rintro _ ⟨u, rfl⟩
              have hB3 := hB2.trans (u.2.mono hB2.size)
              clear uc e0 lt3 y2 y3 hrl hrx ylt hB2
              generalize u.1 = wu at *
              clear u
              go_wp2_with fail
              go_roundw
              case rel => exact ⟨i + 1, o0, u0, rfl, rfl, by go_num, by omega, hB3, by show _ = _; rw [vicL_snoc HX.out, HJ.out, vstep, if_neg (fun h => h.2.2.elim ho (fun h => hu (by rw [← HXN.out.2]; exact h)))]⟩
              case measure => simp [intOf]; omega
        · have hm2 : (rx == rl) = false := by simpa using hm
          refine wp_region_up (by kernel_rfl) (by kernel_rfl) ?_
          repeat (go_big_quiet_step (fail))
          refine wpQuiet_nil ?_
          rintro _ ⟨u, rfl⟩
          have hB3 := hB2.trans (u.2.mono hB2.size)
          clear uc e0 lt3 y2 y3 hrl hrx ylt hB2
          generalize u.1 = wu at *
          clear u
          go_wp2_with fail
          go_roundw
          case rel => exact ⟨i + 1, o0, u0, rfl, rfl, by go_num, by omega, hB3, by show _ = _; rw [vicL_snoc HX.out, HJ.out, vstep, if_neg (fun h => hm (by rw [← HR.out.1, ← HR.out.2]; exact h.2.1))]⟩
          case measure => simp [intOf]; omega
      · refine wp_region_up (by kernel_rfl) (by kernel_rfl) ?_
        repeat (go_big_quiet_step (fail))
        refine wpQuiet_nil ?_
        rintro _ ⟨u, rfl⟩
        have hB3 := hB2.trans (u.2.mono hB2.size)
        clear uc e0 lt3 y2 y3 hrl hrx ylt hB2
        generalize u.1 = wu at *
        clear u
        go_wp2_with fail
        go_roundw
        case rel => exact ⟨i + 1, o0, u0, rfl, rfl, by go_num, by omega, hB3, by show _ = _; rw [vicL_snoc HX.out, HJ.out, vstep, if_neg (fun h => hl h.1)]⟩
        case measure => simp [intOf]; omega
    · go_wp2_with fail
      go_ret
      exact ⟨ret_int (by have := HJ.out; rw [List.take_of_length_le (by have := HN.out; omega)] at this; rw [this]), hB⟩
end CR
end Go.Proofs.Ytfobgkkmbacfjaa
