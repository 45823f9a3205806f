/- The contract of packet.read. Conditions: as stated. -/
import Derived.Test.YtbllhjhlkngchaaPktRead
import Derived.Test.YtbllhjhlkngchaaTake4
namespace Go.Proofs.Ytbllhjhlkngchaa
open Go.RowKit
set_option linter.unusedVariables false

theorem i64_join {x y : Int} (hx0 : 0 ≤ x) (hx1 : x < 256) (hy0 : 0 ≤ y) (hy1 : y < 256) : bits .or .i64 (x * 256) y = x * 256 + y := by
  obtain ⟨a, rfl⟩ := Int.eq_ofNat_of_zero_le hx0
  obtain ⟨b, rfl⟩ := Int.eq_ofNat_of_zero_le hy0
  have e : bits .or .i64 ((a : Int) * 256) (b : Int) = IntKind.i64.wrap ((BitVec.ofInt 64 ((a : Int) * 256) ||| BitVec.ofInt 64 (b : Int)).toNat : Int) := rfl
  have h1 : (BitVec.ofInt 64 ((a : Int) * 256)).toNat = a * 256 := by
    rw [show ((a : Int) * 256) = ((a * 256 : Nat) : Int) by omega, BitVec.ofInt_natCast, BitVec.toNat_ofNat]; exact Nat.mod_eq_of_lt (by omega)
  have h2 : (BitVec.ofInt 64 (b : Int)).toNat = b := by rw [BitVec.ofInt_natCast, BitVec.toNat_ofNat]; exact Nat.mod_eq_of_lt (by omega)
  rw [e, BitVec.toNat_or, h1, h2, nat_join 8 _ _ (by omega) (by omega), IntKind.wrap_i64]
  omega

set_option maxHeartbeats 1000000 in
set_option maxRecDepth 20000 in
theorem read_any (a : Option Addr) (l : List Int) (n cap m : Nat) (w : World) (hsl : B.Sl w a n cap l) (hn : n = 10 + 8 * m) (hm1 : m ≤ 255) :
    Calls Try.prog 41 #[.slice a n cap] w fun e w' => ∃ a' cap', e = .returned ((readP l).val (.slice a' m cap')) ∧ Own w' w.heap.size (.slice a' m cap') (readP l).z ∧ Below w.heap.size w w' := by
  have HL : Hid (l.length = n) := hsl.len
  have hle := hsl.le
  have hmx := hsl.max
  unfold maxLen at hmx
  obtain ⟨b0, o0, e0, lt0, c0⟩ := hsl.at (k := 0) (by omega)
  obtain ⟨b1, o1, e1, lt1, c1⟩ := hsl.at (k := 1) (by omega)
  obtain ⟨b2, o2, e2, lt2, c2⟩ := hsl.at (k := 2) (by omega)
  obtain ⟨b3, o3, e3, lt3, c3⟩ := hsl.at (k := 3) (by omega)
  obtain ⟨b4, o4, e4, lt4, c4⟩ := hsl.at (k := 4) (by omega)
  obtain ⟨b5, o5, e5, lt5, c5⟩ := hsl.at (k := 5) (by omega)
  obtain ⟨b6, o6, e6, lt6, c6⟩ := hsl.at (k := 6) (by omega)
  obtain ⟨b7, o7, e7, lt7, c7⟩ := hsl.at (k := 7) (by omega)
  obtain ⟨b8, o8, e8, lt8, c8⟩ := hsl.at (k := 8) (by omega)
  subst e0
  simp at e1 e2 e3 e4 e5 e6 e7 e8
  obtain ⟨rfl, rfl⟩ := e1
  obtain ⟨rfl, rfl⟩ := e2
  obtain ⟨rfl, rfl⟩ := e3
  obtain ⟨rfl, rfl⟩ := e4
  obtain ⟨rfl, rfl⟩ := e5
  obtain ⟨rfl, rfl⟩ := e6
  obtain ⟨rfl, rfl⟩ := e7
  obtain ⟨rfl, rfl⟩ := e8
  obtain ⟨x0, y0⟩ := B.B8_get hsl.b8 0
  obtain ⟨x1, y1⟩ := B.B8_get hsl.b8 1
  obtain ⟨x2, y2⟩ := B.B8_get hsl.b8 2
  obtain ⟨x3, y3⟩ := B.B8_get hsl.b8 3
  obtain ⟨x4, y4⟩ := B.B8_get hsl.b8 4
  obtain ⟨x5, y5⟩ := B.B8_get hsl.b8 5
  obtain ⟨x6, y6⟩ := B.B8_get hsl.b8 6
  obtain ⟨x7, y7⟩ := B.B8_get hsl.b8 7
  obtain ⟨x8, y8⟩ := B.B8_get hsl.b8 8
  have hpart := hsl.part 10 n (by omega) (Nat.le_refl _)
  have HZ : Hid ((l.drop 10).take (n - 10) = l.drop 10) := List.take_of_length_le (by have := HL.out; simp; omega)
  have HW : Hid ((readP l).z = wordsN (l.drop 10) m) := by show _ = _; rw [show m = (l.length - 10) / 8 by have := HL.out; omega]; rfl
  rw [HZ.out] at hpart
  replace hpart : B.Sl w (if cap = 10 then some ⟨b0, o0, none⟩ else some ⟨b0, o0 + 10, none⟩) (n - 10) (cap - 10) (l.drop 10) := by
    by_cases hc : cap = 10
    · rw [if_pos hc]
      have hl0 : l.drop 10 = [] := List.drop_eq_nil_of_le (by have := HL.out; omega)
      rw [hl0] at hpart ⊢
      exact ⟨hpart.len, hpart.le, hpart.max, fun e => (by cases e), hpart.b8, .inl rfl⟩
    · rw [if_neg hc]
      exact hpart
  have HP : Hid (readP l = ⟨l[0]?.getD 0, l[1]?.getD 0, l[2]?.getD 0, l[3]?.getD 0 * 256 + l[4]?.getD 0, l[5]?.getD 0, l[6]?.getD 0 - 1, l[7]?.getD 0, l[8]?.getD 0 == 1, (readP l).z⟩) := rfl
  generalize l[0]?.getD 0 = v0 at *
  generalize l[1]?.getD 0 = v1 at *
  generalize l[2]?.getD 0 = v2 at *
  generalize l[3]?.getD 0 = v3 at *
  generalize l[4]?.getD 0 = v4 at *
  generalize l[5]?.getD 0 = v5 at *
  generalize l[6]?.getD 0 = v6 at *
  generalize l[7]?.getD 0 = v7 at *
  generalize l[8]?.getD 0 = v8 at *
  rw [Nat.add_zero] at c0
  have hor := i64_join x3 y3 x4 y4
  clear hsl
  have h10 : (10 : Int) ≤ (n : Int) := by omega
  have h10' : 10 ≤ n := by omega
  have HM : Hid (n = 10 + 8 * m) := hn
  have hB0 : Below w.heap.size w (w.alloc (.cells #[.int .i64 zeroPk.k, .int .i64 zeroPk.f, .int .i64 zeroPk.t, .int .i64 zeroPk.i, .int .i64 zeroPk.l, .int .i64 zeroPk.p, .int .i64 zeroPk.s, .bool zeroPk.fl, .slice none 0 0] 26)) := ba (Below.refl _ _)
  have bx0 := Bx.made w zeroPk (.slice none 0 0)
  have q0 : (0 : Int) < (n : Int) := by omega
  have q1 : (1 : Int) < (n : Int) := by omega
  have q2 : (2 : Int) < (n : Int) := by omega
  have q3 : (3 : Int) < (n : Int) := by omega
  have q4 : (4 : Int) < (n : Int) := by omega
  have q5 : (5 : Int) < (n : Int) := by omega
  have q6 : (6 : Int) < (n : Int) := by omega
  have q7 : (7 : Int) < (n : Int) := by omega
  have q8 : (8 : Int) < (n : Int) := by omega
  clear hn
  go_enter Try.func41, Try.ntmps41
  go_wp2_with fail
  have uc := @Up.cell2
  have uf := @Up.frozen2
  refine wp_region_mildv 44 43 rfl (by kernel_rfl) ?_
  refine mildv_take (v := ?v401) 0 rfl (by kernel_rfl) (by kernel_rfl) (by kernel_rfl) (by kernel_rfl) (fun _ _ _ h => h) (by kernel_rfl) (fun Wu K hK => ?hy401) ?go401
  case hy401 =>
    go_big_quiet_op
    simp only [Act.put, List.setIfInBounds_toArray, List.set_cons_zero, List.set_cons_succ] at hK
    exact hK
  simp only [Act.put, List.setIfInBounds_toArray, List.set_cons_zero, List.set_cons_succ]
  refine mildv_take (v := ?v402) 1 rfl (by kernel_rfl) (by kernel_rfl) (by kernel_rfl) (by kernel_rfl) (fun _ _ _ h => h) (by kernel_rfl) (fun Wu K hK => ?hy402) ?go402
  case hy402 =>
    go_big_quiet_op
    simp only [Act.put, List.setIfInBounds_toArray, List.set_cons_zero, List.set_cons_succ] at hK
    exact hK
  simp only [Act.put, List.setIfInBounds_toArray, List.set_cons_zero, List.set_cons_succ]
  refine mildv_take (v := ?v403) 2 rfl (by kernel_rfl) (by kernel_rfl) (by kernel_rfl) (by kernel_rfl) (fun _ _ _ h => h) (by kernel_rfl) (fun Wu K hK => ?hy403) ?go403
  case hy403 =>
    go_big_quiet_op
    simp only [Act.put, List.setIfInBounds_toArray, List.set_cons_zero, List.set_cons_succ] at hK
    exact hK
  simp only [Act.put, List.setIfInBounds_toArray, List.set_cons_zero, List.set_cons_succ]
  refine mildv_take (v := ?v404) 3 rfl (by kernel_rfl) (by kernel_rfl) (by kernel_rfl) (by kernel_rfl) (fun _ _ _ h => h) (by kernel_rfl) (fun Wu K hK => ?hy404) ?go404
  case hy404 =>
    go_big_quiet_op
    simp only [Act.put, List.setIfInBounds_toArray, List.set_cons_zero, List.set_cons_succ] at hK
    exact hK
  simp only [Act.put, List.setIfInBounds_toArray, List.set_cons_zero, List.set_cons_succ]
  refine mildv_take (v := ?v405) 4 rfl (by kernel_rfl) (by kernel_rfl) (by kernel_rfl) (by kernel_rfl) (fun _ _ _ h => h) (by kernel_rfl) (fun Wu K hK => ?hy405) ?go405
  case hy405 =>
    go_big_quiet_op
    simp only [Act.put, List.setIfInBounds_toArray, List.set_cons_zero, List.set_cons_succ] at hK
    exact hK
  simp only [Act.put, List.setIfInBounds_toArray, List.set_cons_zero, List.set_cons_succ]
  refine mildv_take (v := ?v406) 5 rfl (by kernel_rfl) (by kernel_rfl) (by kernel_rfl) (by kernel_rfl) (fun _ _ _ h => h) (by kernel_rfl) (fun Wu K hK => ?hy406) ?go406
  case hy406 =>
    go_big_quiet_op
    simp only [Act.put, List.setIfInBounds_toArray, List.set_cons_zero, List.set_cons_succ] at hK
    exact hK
  simp only [Act.put, List.setIfInBounds_toArray, List.set_cons_zero, List.set_cons_succ]
  refine mildv_take (v := ?v407) 6 rfl (by kernel_rfl) (by kernel_rfl) (by kernel_rfl) (by kernel_rfl) (fun _ _ _ h => h) (by kernel_rfl) (fun Wu K hK => ?hy407) ?go407
  case hy407 =>
    go_big_quiet_op
    simp only [Act.put, List.setIfInBounds_toArray, List.set_cons_zero, List.set_cons_succ] at hK
    exact hK
  simp only [Act.put, List.setIfInBounds_toArray, List.set_cons_zero, List.set_cons_succ]
  refine mildv_take (v := ?v408) 7 rfl (by kernel_rfl) (by kernel_rfl) (by kernel_rfl) (by kernel_rfl) (fun _ _ _ h => h) (by kernel_rfl) (fun Wu K hK => ?hy408) ?go408
  case hy408 =>
    go_big_quiet_op
    simp only [Act.put, List.setIfInBounds_toArray, List.set_cons_zero, List.set_cons_succ] at hK
    exact hK
  simp only [Act.put, List.setIfInBounds_toArray, List.set_cons_zero, List.set_cons_succ]
  refine mildv_take (v := ?v409) 8 rfl (by kernel_rfl) (by kernel_rfl) (by kernel_rfl) (by kernel_rfl) (fun _ _ _ h => h) (by kernel_rfl) (fun Wu K hK => ?hy409) ?go409
  case hy409 =>
    go_big_quiet_op
    simp only [Act.put, List.setIfInBounds_toArray, List.set_cons_zero, List.set_cons_succ] at hK
    exact hK
  simp only [Act.put, List.setIfInBounds_toArray, List.set_cons_zero, List.set_cons_succ]
  refine mildv_take (v := ?v410) 9 rfl (by kernel_rfl) (by kernel_rfl) (by kernel_rfl) (by kernel_rfl) (fun _ _ _ h => h) (by kernel_rfl) (fun Wu K hK => ?hy410) ?go410
  case hy410 =>
    go_big_quiet_op
    simp only [Act.put, List.setIfInBounds_toArray, List.set_cons_zero, List.set_cons_succ] at hK
    exact hK
  simp only [Act.put, List.setIfInBounds_toArray, List.set_cons_zero, List.set_cons_succ]
  refine mildv_take (v := ?v411) 10 rfl (by kernel_rfl) (by kernel_rfl) (by kernel_rfl) (by kernel_rfl) (fun _ _ _ h => h) (by kernel_rfl) (fun Wu K hK => ?hy411) ?go411
  case hy411 =>
    go_big_quiet_op
    simp only [Act.put, List.setIfInBounds_toArray, List.set_cons_zero, List.set_cons_succ] at hK
    exact hK
  simp only [Act.put, List.setIfInBounds_toArray, List.set_cons_zero, List.set_cons_succ]
  refine mildv_take (v := ?v412) 11 rfl (by kernel_rfl) (by kernel_rfl) (by kernel_rfl) (by kernel_rfl) (fun _ _ _ h => h) (by kernel_rfl) (fun Wu K hK => ?hy412) ?go412
  case hy412 =>
    go_big_quiet_op
    simp only [Act.put, List.setIfInBounds_toArray, List.set_cons_zero, List.set_cons_succ] at hK
    exact hK
  simp only [Act.put, List.setIfInBounds_toArray, List.set_cons_zero, List.set_cons_succ]
  refine mildv_take (v := ?v413) 12 rfl (by kernel_rfl) (by kernel_rfl) (by kernel_rfl) (by kernel_rfl) (fun _ _ _ h => h) (by kernel_rfl) (fun Wu K hK => ?hy413) ?go413
  case hy413 =>
    go_big_quiet_op
    simp only [Act.put, List.setIfInBounds_toArray, List.set_cons_zero, List.set_cons_succ] at hK
    exact hK
  simp only [Act.put, List.setIfInBounds_toArray, List.set_cons_zero, List.set_cons_succ]
  refine mildv_take (v := ?v414) 13 rfl (by kernel_rfl) (by kernel_rfl) (by kernel_rfl) (by kernel_rfl) (fun _ _ _ h => h) (by kernel_rfl) (fun Wu K hK => ?hy414) ?go414
  case hy414 =>
    go_big_quiet_op
    simp only [Act.put, List.setIfInBounds_toArray, List.set_cons_zero, List.set_cons_succ] at hK
    exact hK
  simp only [Act.put, List.setIfInBounds_toArray, List.set_cons_zero, List.set_cons_succ]
  refine mildv_take (v := ?v415) 14 rfl (by kernel_rfl) (by kernel_rfl) (by kernel_rfl) (by kernel_rfl) (fun _ _ _ h => h) (by kernel_rfl) (fun Wu K hK => ?hy415) ?go415
  case hy415 =>
    go_big_quiet_op
    simp only [Act.put, List.setIfInBounds_toArray, List.set_cons_zero, List.set_cons_succ] at hK
    exact hK
  simp only [Act.put, List.setIfInBounds_toArray, List.set_cons_zero, List.set_cons_succ]
  refine mildv_take (v := ?v416) 15 rfl (by kernel_rfl) (by kernel_rfl) (by kernel_rfl) (by kernel_rfl) (fun _ _ _ h => h) (by kernel_rfl) (fun Wu K hK => ?hy416) ?go416
  case hy416 =>
    go_big_quiet_op
    simp only [Act.put, List.setIfInBounds_toArray, List.set_cons_zero, List.set_cons_succ] at hK
    exact hK
  simp only [Act.put, List.setIfInBounds_toArray, List.set_cons_zero, List.set_cons_succ]
  refine mildv_take (v := ?v417) 16 rfl (by kernel_rfl) (by kernel_rfl) (by kernel_rfl) (by kernel_rfl) (fun _ _ _ h => h) (by kernel_rfl) (fun Wu K hK => ?hy417) ?go417
  case hy417 =>
    go_big_quiet_op
    simp only [Act.put, List.setIfInBounds_toArray, List.set_cons_zero, List.set_cons_succ] at hK
    exact hK
  simp only [Act.put, List.setIfInBounds_toArray, List.set_cons_zero, List.set_cons_succ]
  refine mildv_take (v := ?v418) 17 rfl (by kernel_rfl) (by kernel_rfl) (by kernel_rfl) (by kernel_rfl) (fun _ _ _ h => h) (by kernel_rfl) (fun Wu K hK => ?hy418) ?go418
  case hy418 =>
    go_big_quiet_op
    simp only [Act.put, List.setIfInBounds_toArray, List.set_cons_zero, List.set_cons_succ] at hK
    exact hK
  simp only [Act.put, List.setIfInBounds_toArray, List.set_cons_zero, List.set_cons_succ]
  refine mildv_take (v := ?v419) 18 rfl (by kernel_rfl) (by kernel_rfl) (by kernel_rfl) (by kernel_rfl) (fun _ _ _ h => h) (by kernel_rfl) (fun Wu K hK => ?hy419) ?go419
  case hy419 =>
    go_big_quiet_op
    simp only [Act.put, List.setIfInBounds_toArray, List.set_cons_zero, List.set_cons_succ] at hK
    exact hK
  simp only [Act.put, List.setIfInBounds_toArray, List.set_cons_zero, List.set_cons_succ]
  refine mildv_take (v := ?v420) 19 rfl (by kernel_rfl) (by kernel_rfl) (by kernel_rfl) (by kernel_rfl) (fun _ _ _ h => h) (by kernel_rfl) (fun Wu K hK => ?hy420) ?go420
  case hy420 =>
    go_big_quiet_op
    simp only [Act.put, List.setIfInBounds_toArray, List.set_cons_zero, List.set_cons_succ] at hK
    exact hK
  simp only [Act.put, List.setIfInBounds_toArray, List.set_cons_zero, List.set_cons_succ]
  refine mildv_take (v := ?v421) 20 rfl (by kernel_rfl) (by kernel_rfl) (by kernel_rfl) (by kernel_rfl) (fun _ _ _ h => h) (by kernel_rfl) (fun Wu K hK => ?hy421) ?go421
  case hy421 =>
    go_big_quiet_op
    simp only [Act.put, List.setIfInBounds_toArray, List.set_cons_zero, List.set_cons_succ] at hK
    exact hK
  simp only [Act.put, List.setIfInBounds_toArray, List.set_cons_zero, List.set_cons_succ]
  refine mildv_take (v := ?v422) 21 rfl (by kernel_rfl) (by kernel_rfl) (by kernel_rfl) (by kernel_rfl) (fun _ _ _ h => h) (by kernel_rfl) (fun Wu K hK => ?hy422) ?go422
  case hy422 =>
    go_big_quiet_op
    simp only [Act.put, List.setIfInBounds_toArray, List.set_cons_zero, List.set_cons_succ] at hK
    exact hK
  simp only [Act.put, List.setIfInBounds_toArray, List.set_cons_zero, List.set_cons_succ]
  refine mildv_take (v := ?v423) 22 rfl (by kernel_rfl) (by kernel_rfl) (by kernel_rfl) (by kernel_rfl) (fun _ _ _ h => h) (by kernel_rfl) (fun Wu K hK => ?hy423) ?go423
  case hy423 =>
    go_big_quiet_op
    simp only [Act.put, List.setIfInBounds_toArray, List.set_cons_zero, List.set_cons_succ] at hK
    exact hK
  simp only [Act.put, List.setIfInBounds_toArray, List.set_cons_zero, List.set_cons_succ]
  refine mildv_take (v := ?v424) 23 rfl (by kernel_rfl) (by kernel_rfl) (by kernel_rfl) (by kernel_rfl) (fun _ _ _ h => h) (by kernel_rfl) (fun Wu K hK => ?hy424) ?go424
  case hy424 =>
    go_big_quiet_op
    simp only [Act.put, List.setIfInBounds_toArray, List.set_cons_zero, List.set_cons_succ] at hK
    exact hK
  simp only [Act.put, List.setIfInBounds_toArray, List.set_cons_zero, List.set_cons_succ]
  refine mildv_take (v := ?v425) 24 rfl (by kernel_rfl) (by kernel_rfl) (by kernel_rfl) (by kernel_rfl) (fun _ _ _ h => h) (by kernel_rfl) (fun Wu K hK => ?hy425) ?go425
  case hy425 =>
    go_big_quiet_op
    simp only [Act.put, List.setIfInBounds_toArray, List.set_cons_zero, List.set_cons_succ] at hK
    exact hK
  simp only [Act.put, List.setIfInBounds_toArray, List.set_cons_zero, List.set_cons_succ]
  refine mildv_take (v := ?v426) 25 rfl (by kernel_rfl) (by kernel_rfl) (by kernel_rfl) (by kernel_rfl) (fun _ _ _ h => h) (by kernel_rfl) (fun Wu K hK => ?hy426) ?go426
  case hy426 =>
    go_big_quiet_op
    simp only [Act.put, List.setIfInBounds_toArray, List.set_cons_zero, List.set_cons_succ] at hK
    exact hK
  simp only [Act.put, List.setIfInBounds_toArray, List.set_cons_zero, List.set_cons_succ]
  refine mildv_take (v := ?v427) 26 rfl (by kernel_rfl) (by kernel_rfl) (by kernel_rfl) (by kernel_rfl) (fun _ _ _ h => h) (by kernel_rfl) (fun Wu K hK => ?hy427) ?go427
  case hy427 =>
    go_big_quiet_op
    simp only [Act.put, List.setIfInBounds_toArray, List.set_cons_zero, List.set_cons_succ] at hK
    exact hK
  simp only [Act.put, List.setIfInBounds_toArray, List.set_cons_zero, List.set_cons_succ]
  refine mildv_take (v := ?v428) 27 rfl (by kernel_rfl) (by kernel_rfl) (by kernel_rfl) (by kernel_rfl) (fun _ _ _ h => h) (by kernel_rfl) (fun Wu K hK => ?hy428) ?go428
  case hy428 =>
    go_big_quiet_op
    simp only [Act.put, List.setIfInBounds_toArray, List.set_cons_zero, List.set_cons_succ] at hK
    exact hK
  simp only [Act.put, List.setIfInBounds_toArray, List.set_cons_zero, List.set_cons_succ]
  refine mildv_take (v := ?v429) 28 rfl (by kernel_rfl) (by kernel_rfl) (by kernel_rfl) (by kernel_rfl) (fun _ _ _ h => h) (by kernel_rfl) (fun Wu K hK => ?hy429) ?go429
  case hy429 =>
    go_big_quiet_op
    simp only [Act.put, List.setIfInBounds_toArray, List.set_cons_zero, List.set_cons_succ] at hK
    exact hK
  simp only [Act.put, List.setIfInBounds_toArray, List.set_cons_zero, List.set_cons_succ]
  refine mildv_take (v := ?v430) 29 rfl (by kernel_rfl) (by kernel_rfl) (by kernel_rfl) (by kernel_rfl) (fun _ _ _ h => h) (by kernel_rfl) (fun Wu K hK => ?hy430) ?go430
  case hy430 =>
    go_big_quiet_op
    simp only [Act.put, List.setIfInBounds_toArray, List.set_cons_zero, List.set_cons_succ] at hK
    exact hK
  simp only [Act.put, List.setIfInBounds_toArray, List.set_cons_zero, List.set_cons_succ]
  refine mildv_take (v := ?v431) 30 rfl (by kernel_rfl) (by kernel_rfl) (by kernel_rfl) (by kernel_rfl) (fun _ _ _ h => h) (by kernel_rfl) (fun Wu K hK => ?hy431) ?go431
  case hy431 =>
    go_big_quiet_op
    simp only [Act.put, List.setIfInBounds_toArray, List.set_cons_zero, List.set_cons_succ] at hK
    exact hK
  simp only [Act.put, List.setIfInBounds_toArray, List.set_cons_zero, List.set_cons_succ]
  refine mildv_take (v := ?v432) 31 rfl (by kernel_rfl) (by kernel_rfl) (by kernel_rfl) (by kernel_rfl) (fun _ _ _ h => h) (by kernel_rfl) (fun Wu K hK => ?hy432) ?go432
  case hy432 =>
    go_big_quiet_op
    simp only [Act.put, List.setIfInBounds_toArray, List.set_cons_zero, List.set_cons_succ] at hK
    exact hK
  simp only [Act.put, List.setIfInBounds_toArray, List.set_cons_zero, List.set_cons_succ]
  refine mildv_take (v := ?v433) 32 rfl (by kernel_rfl) (by kernel_rfl) (by kernel_rfl) (by kernel_rfl) (fun _ _ _ h => h) (by kernel_rfl) (fun Wu K hK => ?hy433) ?go433
  case hy433 =>
    go_big_quiet_op
    simp only [Act.put, List.setIfInBounds_toArray, List.set_cons_zero, List.set_cons_succ] at hK
    exact hK
  simp only [Act.put, List.setIfInBounds_toArray, List.set_cons_zero, List.set_cons_succ]
  refine mildv_take (v := ?v434) 33 rfl (by kernel_rfl) (by kernel_rfl) (by kernel_rfl) (by kernel_rfl) (fun _ _ _ h => h) (by kernel_rfl) (fun Wu K hK => ?hy434) ?go434
  case hy434 =>
    go_big_quiet_op
    simp only [Act.put, List.setIfInBounds_toArray, List.set_cons_zero, List.set_cons_succ] at hK
    exact hK
  simp only [Act.put, List.setIfInBounds_toArray, List.set_cons_zero, List.set_cons_succ]
  refine mildv_take (v := ?v435) 34 rfl (by kernel_rfl) (by kernel_rfl) (by kernel_rfl) (by kernel_rfl) (fun _ _ _ h => h) (by kernel_rfl) (fun Wu K hK => ?hy435) ?go435
  case hy435 =>
    go_big_quiet_op
    simp only [Act.put, List.setIfInBounds_toArray, List.set_cons_zero, List.set_cons_succ] at hK
    exact hK
  simp only [Act.put, List.setIfInBounds_toArray, List.set_cons_zero, List.set_cons_succ]
  refine mildv_take (v := ?v436) 35 rfl (by kernel_rfl) (by kernel_rfl) (by kernel_rfl) (by kernel_rfl) (fun _ _ _ h => h) (by kernel_rfl) (fun Wu K hK => ?hy436) ?go436
  case hy436 =>
    go_big_quiet_op
    simp only [Act.put, List.setIfInBounds_toArray, List.set_cons_zero, List.set_cons_succ] at hK
    exact hK
  simp only [Act.put, List.setIfInBounds_toArray, List.set_cons_zero, List.set_cons_succ]
  refine mildv_take (v := ?v437) 36 rfl (by kernel_rfl) (by kernel_rfl) (by kernel_rfl) (by kernel_rfl) (fun _ _ _ h => h) (by kernel_rfl) (fun Wu K hK => ?hy437) ?go437
  case hy437 =>
    go_big_quiet_op
    simp only [Act.put, List.setIfInBounds_toArray, List.set_cons_zero, List.set_cons_succ] at hK
    exact hK
  simp only [Act.put, List.setIfInBounds_toArray, List.set_cons_zero, List.set_cons_succ]
  refine mildv_take (v := ?v438) 37 rfl (by kernel_rfl) (by kernel_rfl) (by kernel_rfl) (by kernel_rfl) (fun _ _ _ h => h) (by kernel_rfl) (fun Wu K hK => ?hy438) ?go438
  case hy438 =>
    go_big_quiet_op
    simp only [Act.put, List.setIfInBounds_toArray, List.set_cons_zero, List.set_cons_succ] at hK
    exact hK
  simp only [Act.put, List.setIfInBounds_toArray, List.set_cons_zero, List.set_cons_succ]
  refine mildv_take (v := ?v439) 38 rfl (by kernel_rfl) (by kernel_rfl) (by kernel_rfl) (by kernel_rfl) (fun _ _ _ h => h) (by kernel_rfl) (fun Wu K hK => ?hy439) ?go439
  case hy439 =>
    go_big_quiet_op
    simp only [Act.put, List.setIfInBounds_toArray, List.set_cons_zero, List.set_cons_succ] at hK
    exact hK
  simp only [Act.put, List.setIfInBounds_toArray, List.set_cons_zero, List.set_cons_succ]
  refine mildv_take (v := ?v440) 39 rfl (by kernel_rfl) (by kernel_rfl) (by kernel_rfl) (by kernel_rfl) (fun _ _ _ h => h) (by kernel_rfl) (fun Wu K hK => ?hy440) ?go440
  case hy440 =>
    go_big_quiet_op
    simp only [Act.put, List.setIfInBounds_toArray, List.set_cons_zero, List.set_cons_succ] at hK
    exact hK
  simp only [Act.put, List.setIfInBounds_toArray, List.set_cons_zero, List.set_cons_succ]
  refine mildv_take (v := ?v441) 40 rfl (by kernel_rfl) (by kernel_rfl) (by kernel_rfl) (by kernel_rfl) (fun _ _ _ h => h) (by kernel_rfl) (fun Wu K hK => ?hy441) ?go441
  case hy441 =>
    go_big_quiet_op
    simp only [Act.put, List.setIfInBounds_toArray, List.set_cons_zero, List.set_cons_succ] at hK
    exact hK
  simp only [Act.put, List.setIfInBounds_toArray, List.set_cons_zero, List.set_cons_succ]
  intro W
  clear uc uf
  have hW := W.2
  have hb0 := W.2
  have bxW := bx0.next W.2
  have BW := next hB0 W.2
  have hpW := hpart.below BW
  have hzW : w.heap.size < W.1.heap.size := bxW.lt
  generalize W.1 = wq at *
  clear hW W bx0 hB0 hpart
  generalize (if cap = 10 then some (⟨b0, o0, none⟩ : Addr) else some ⟨b0, o0 + 10, none⟩) = aa at *
  refine upv_list 41 (by kernel_rfl) rfl ?_
  go_wp2_with (go_at_call 46; refine (readWords_any _ (l.drop 10) (n - 10) (cap - 10) m _ hpW (by have := HM.out; omega) hm1 (by have := HM.out; omega)).mono ?_; rintro e w1 ⟨vv, rfl, hown1, hb1⟩; obtain ⟨a1, cap1, rfl, hs1⟩ := hown1.sl' (wordsN_len _ m))
  refine ⟨(by first | exact next hb0 hb1 | exact fun _ => next hb0 hb1), fun u => ?_⟩
  have hb2 := next hb0 (next hb1 u.2)
  have hown2 := hown1.below u.2
  have bx2 := bxW.next (next hb1 u.2)
  have B2 := next BW (next hb1 u.2)
  generalize u.1 = w2 at *
  clear u hb1 hown1 hs1
  refine upv_list 42 (by kernel_rfl) rfl ?_
  go_wp2
  refine ⟨(by first | exact hb2 | exact fun _ => hb2), fun u => ?_⟩
  have hown3 := hown2.below u.2
  have bx3 := bx2.next u.2
  have B3 := next B2 u.2
  generalize u.1 = w3 at *
  clear u hb2 hown2 bx2 B2
  have fq := bx3.fz
  obtain ⟨r0, r1, r2, r3, r4, r5, r6, r7, r8, _, rlt⟩ := id bx3
  refine upv_list 43 (by kernel_rfl) rfl ?_
  go_wp2
  refine ⟨(by first | trivial | exact fun h => absurd rfl h), fun u => ?_⟩
  refine upv_done (by kernel_rfl) ?_
  have hown4 : Own u.1 w.heap.size (.slice a1 m cap1) (wordsN (l.drop 10) m) := by
    refine Own.below ?_ u.2
    refine Own.low ?_ (Nat.le_of_lt hzW)
    exact far9 (y := ⟨v0, v1, v2, v3 * 256 + v4, v5, v6 - 1, v7, v8 == 1, []⟩) (v := .slice a1 m cap1) (P := fun V => Own V wq.heap.size (.slice a1 m cap1) (wordsN (l.drop 10) m)) (fun V o u h => h.set (by simpa using hzW) _) hown3
  have bx4 := (bx3.put ⟨v0, v1, v2, v3 * 256 + v4, v5, v6 - 1, v7, v8 == 1, []⟩ (.slice a1 m cap1)).next (by exact u.2)
  have B4 : Below w.heap.size w u.1 := by
    refine next ?_ u.2
    exact far9 (y := ⟨v0, v1, v2, v3 * 256 + v4, v5, v6 - 1, v7, v8 == 1, []⟩) (v := .slice a1 m cap1) (P := fun V => Below w.heap.size w V) (fun V o u h => h.setCell (by simp) _) B3
  generalize u.1 = w4 at *
  clear u r0 r1 r2 r3 r4 r5 r6 r7 r8 rlt fq
  obtain ⟨r0, r1, r2, r3, r4, r5, r6, r7, r8, _, rlt⟩ := bx4
  simp only at r0 r1 r2 r3 r4 r5 r6 r7
  go_wp2
  refine bodyPost_ret (v := .agg #[.int .i64 v0, .int .i64 v1, .int .i64 v2, .int .i64 (v3 * 256 + v4), .int .i64 v5, .int .i64 (v6 - 1), .int .i64 v7, .bool (v8 == 1), .slice a1 m cap1]) (by simp [results, Try.results41, go_sem, r0, r1, r2, r3, r4, r5, r6, r7, r8]) rfl ⟨a1, cap1, by rw [HP.out], by rw [HW.out]; exact hown4, B4⟩
end Go.Proofs.Ytbllhjhlkngchaa
