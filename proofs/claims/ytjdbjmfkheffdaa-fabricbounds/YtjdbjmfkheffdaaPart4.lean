/- The contract of packet.read. Conditions: as stated.
The contract of packet.Unpack. Conditions: as stated.
A packet over the wire: packed, spoilt, unpacked. Conditions: as each theorem states them.
A network in memory (Fb): two lanes of each node, each a pool and a queue; what is under way, and where it stands; what Send, Deliver and Take make of it, as plain data. Nothing of the program but packets is named here.
Regions that draw their order, make memory and then write what was there: as Take, but of the operations named in X, which wait for what is taken first, nothing is asked. Nothing of the program is named here.
The contracts of pool's New, Len, Room and alone. Conditions: as each theorem states them.
The contracts of pool's has and Get. Conditions: as each theorem states them.
slices.Delete of one packet out of a row of packets. Conditions: as each theorem states them.
The contract of pool's Remove. Conditions: as each theorem states them. -/
import Derived.Test.YtjdbjmfkheffdaaPart3
import Derived.Test.YtjdbjmfkheffdaaPart2
import Derived.Deep.RegionLaw
import Derived.Lib.SliceRun
section
namespace Go.Proofs.Ytjdbjmfkheffdaa
open Go.RowKit
set_option linter.unusedVariables false
set_option maxRecDepth 20000

theorem i64_join {x y : Int} (hx0 : 0 ≤ x) (hx1 : x < 256) (hy0 : 0 ≤ y) (hy1 : y < 256) : bits .or .i64 (x * 256) y = x * 256 + y := by
  obtain ⟨a, rfl⟩ := Int.eq_ofNat_of_zero_le hx0
  obtain ⟨b, rfl⟩ := Int.eq_ofNat_of_zero_le hy0
  have e : bits .or .i64 ((a : Int) * 256) (b : Int) = IntKind.i64.wrap ((BitVec.ofInt 64 ((a : Int) * 256) ||| BitVec.ofInt 64 (b : Int)).toNat : Int) := rfl
  have h1 : (BitVec.ofInt 64 ((a : Int) * 256)).toNat = a * 256 := by
    rw [show ((a : Int) * 256) = ((a * 256 : Nat) : Int) by omega, BitVec.ofInt_natCast, BitVec.toNat_ofNat]; exact Nat.mod_eq_of_lt (by omega)
  have h2 : (BitVec.ofInt 64 (b : Int)).toNat = b := by rw [BitVec.ofInt_natCast, BitVec.toNat_ofNat]; exact Nat.mod_eq_of_lt (by omega)
  rw [e, BitVec.toNat_or, h1, h2, nat_join 8 _ _ (by omega) (by omega), IntKind.wrap_i64]
  omega

set_option maxHeartbeats 1000000 in
set_option maxRecDepth 20000 in
theorem read_any (a : Option Addr) (l : List Int) (n cap m : Nat) (w : World) (hsl : B.Sl w a n cap l) (hn : n = 10 + 8 * m) (hm1 : m ≤ 255) :
    Calls Try.prog 74 #[.slice a n cap] w fun e w' => ∃ a' cap', e = .returned ((readP l).val (.slice a' m cap')) ∧ Own w' w.heap.size (.slice a' m cap') (readP l).z ∧ Below w.heap.size w w' := by
  have HL : Hid (l.length = n) := hsl.len
  have hle := hsl.le
  have hmx := hsl.max
  unfold maxLen at hmx
  obtain ⟨b0, o0, e0, lt0, c0⟩ := hsl.at (k := 0) (by omega)
  obtain ⟨b1, o1, e1, lt1, c1⟩ := hsl.at (k := 1) (by omega)
  obtain ⟨b2, o2, e2, lt2, c2⟩ := hsl.at (k := 2) (by omega)
  obtain ⟨b3, o3, e3, lt3, c3⟩ := hsl.at (k := 3) (by omega)
  obtain ⟨b4, o4, e4, lt4, c4⟩ := hsl.at (k := 4) (by omega)
  obtain ⟨b5, o5, e5, lt5, c5⟩ := hsl.at (k := 5) (by omega)
  obtain ⟨b6, o6, e6, lt6, c6⟩ := hsl.at (k := 6) (by omega)
  obtain ⟨b7, o7, e7, lt7, c7⟩ := hsl.at (k := 7) (by omega)
  obtain ⟨b8, o8, e8, lt8, c8⟩ := hsl.at (k := 8) (by omega)
  subst e0
  simp at e1 e2 e3 e4 e5 e6 e7 e8
  obtain ⟨rfl, rfl⟩ := e1
  obtain ⟨rfl, rfl⟩ := e2
  obtain ⟨rfl, rfl⟩ := e3
  obtain ⟨rfl, rfl⟩ := e4
  obtain ⟨rfl, rfl⟩ := e5
  obtain ⟨rfl, rfl⟩ := e6
  obtain ⟨rfl, rfl⟩ := e7
  obtain ⟨rfl, rfl⟩ := e8
  obtain ⟨x0, y0⟩ := B.B8_get hsl.b8 0
  obtain ⟨x1, y1⟩ := B.B8_get hsl.b8 1
  obtain ⟨x2, y2⟩ := B.B8_get hsl.b8 2
  obtain ⟨x3, y3⟩ := B.B8_get hsl.b8 3
  obtain ⟨x4, y4⟩ := B.B8_get hsl.b8 4
  obtain ⟨x5, y5⟩ := B.B8_get hsl.b8 5
  obtain ⟨x6, y6⟩ := B.B8_get hsl.b8 6
  obtain ⟨x7, y7⟩ := B.B8_get hsl.b8 7
  obtain ⟨x8, y8⟩ := B.B8_get hsl.b8 8
  have hpart := hsl.part 10 n (by omega) (Nat.le_refl _)
  have HZ : Hid ((l.drop 10).take (n - 10) = l.drop 10) := List.take_of_length_le (by have := HL.out; simp; omega)
  have HW : Hid ((readP l).z = wordsN (l.drop 10) m) := by show _ = _; rw [show m = (l.length - 10) / 8 by have := HL.out; omega]; rfl
  rw [HZ.out] at hpart
  replace hpart : B.Sl w (if cap = 10 then some ⟨b0, o0, none⟩ else some ⟨b0, o0 + 10, none⟩) (n - 10) (cap - 10) (l.drop 10) := by
    by_cases hc : cap = 10
    · rw [if_pos hc]
      have hl0 : l.drop 10 = [] := List.drop_eq_nil_of_le (by have := HL.out; omega)
      rw [hl0] at hpart ⊢
      exact ⟨hpart.len, hpart.le, hpart.max, fun e => (by cases e), hpart.b8, .inl rfl⟩
    · rw [if_neg hc]
      exact hpart
  have HP : Hid (readP l = ⟨l[0]?.getD 0, l[1]?.getD 0, l[2]?.getD 0, l[3]?.getD 0 * 256 + l[4]?.getD 0, l[5]?.getD 0, l[6]?.getD 0 - 1, l[7]?.getD 0, l[8]?.getD 0 == 1, (readP l).z⟩) := rfl
  generalize l[0]?.getD 0 = v0 at *
  generalize l[1]?.getD 0 = v1 at *
  generalize l[2]?.getD 0 = v2 at *
  generalize l[3]?.getD 0 = v3 at *
  generalize l[4]?.getD 0 = v4 at *
  generalize l[5]?.getD 0 = v5 at *
  generalize l[6]?.getD 0 = v6 at *
  generalize l[7]?.getD 0 = v7 at *
  generalize l[8]?.getD 0 = v8 at *
  rw [Nat.add_zero] at c0
  have hor := i64_join x3 y3 x4 y4
  clear hsl
  have h10 : (10 : Int) ≤ (n : Int) := by omega
  have h10' : 10 ≤ n := by omega
  have HM : Hid (n = 10 + 8 * m) := hn
  have hB0 : Below w.heap.size w (w.alloc (.cells #[.int .i64 zeroPk.k, .int .i64 zeroPk.f, .int .i64 zeroPk.t, .int .i64 zeroPk.i, .int .i64 zeroPk.l, .int .i64 zeroPk.p, .int .i64 zeroPk.s, .bool zeroPk.fl, .slice none 0 0] 26)) := ba (Below.refl _ _)
  have bx0 := Bx.made w zeroPk (.slice none 0 0)
  have q0 : (0 : Int) < (n : Int) := by omega
  have q1 : (1 : Int) < (n : Int) := by omega
  have q2 : (2 : Int) < (n : Int) := by omega
  have q3 : (3 : Int) < (n : Int) := by omega
  have q4 : (4 : Int) < (n : Int) := by omega
  have q5 : (5 : Int) < (n : Int) := by omega
  have q6 : (6 : Int) < (n : Int) := by omega
  have q7 : (7 : Int) < (n : Int) := by omega
  have q8 : (8 : Int) < (n : Int) := by omega
  clear hn
  go_enter Try.func74, Try.ntmps74
  go_wp2_with fail
  have uc := @Up.cell2
  have uf := @Up.frozen2
  refine wp_region_mildv 44 43 rfl (by kernel_rfl) ?_
  refine mildv_take (v := ?v401) 0 rfl (by kernel_rfl) (by kernel_rfl) (by kernel_rfl) (by kernel_rfl) (fun _ _ _ h => h) (by kernel_rfl) (fun Wu K hK => ?hy401) ?go401
  case hy401 =>
    go_big_quiet_op
    simp only [Act.put, List.setIfInBounds_toArray, List.set_cons_zero, List.set_cons_succ] at hK
    exact hK
  simp only [Act.put, List.setIfInBounds_toArray, List.set_cons_zero, List.set_cons_succ]
  refine mildv_take (v := ?v402) 1 rfl (by kernel_rfl) (by kernel_rfl) (by kernel_rfl) (by kernel_rfl) (fun _ _ _ h => h) (by kernel_rfl) (fun Wu K hK => ?hy402) ?go402
  case hy402 =>
    go_big_quiet_op
    simp only [Act.put, List.setIfInBounds_toArray, List.set_cons_zero, List.set_cons_succ] at hK
    exact hK
  simp only [Act.put, List.setIfInBounds_toArray, List.set_cons_zero, List.set_cons_succ]
  refine mildv_take (v := ?v403) 2 rfl (by kernel_rfl) (by kernel_rfl) (by kernel_rfl) (by kernel_rfl) (fun _ _ _ h => h) (by kernel_rfl) (fun Wu K hK => ?hy403) ?go403
  case hy403 =>
    go_big_quiet_op
    simp only [Act.put, List.setIfInBounds_toArray, List.set_cons_zero, List.set_cons_succ] at hK
    exact hK
  simp only [Act.put, List.setIfInBounds_toArray, List.set_cons_zero, List.set_cons_succ]
  refine mildv_take (v := ?v404) 3 rfl (by kernel_rfl) (by kernel_rfl) (by kernel_rfl) (by kernel_rfl) (fun _ _ _ h => h) (by kernel_rfl) (fun Wu K hK => ?hy404) ?go404
  case hy404 =>
    go_big_quiet_op
    simp only [Act.put, List.setIfInBounds_toArray, List.set_cons_zero, List.set_cons_succ] at hK
    exact hK
  simp only [Act.put, List.setIfInBounds_toArray, List.set_cons_zero, List.set_cons_succ]
  refine mildv_take (v := ?v405) 4 rfl (by kernel_rfl) (by kernel_rfl) (by kernel_rfl) (by kernel_rfl) (fun _ _ _ h => h) (by kernel_rfl) (fun Wu K hK => ?hy405) ?go405
  case hy405 =>
    go_big_quiet_op
    simp only [Act.put, List.setIfInBounds_toArray, List.set_cons_zero, List.set_cons_succ] at hK
    exact hK
  simp only [Act.put, List.setIfInBounds_toArray, List.set_cons_zero, List.set_cons_succ]
  refine mildv_take (v := ?v406) 5 rfl (by kernel_rfl) (by kernel_rfl) (by kernel_rfl) (by kernel_rfl) (fun _ _ _ h => h) (by kernel_rfl) (fun Wu K hK => ?hy406) ?go406
  case hy406 =>
    go_big_quiet_op
    simp only [Act.put, List.setIfInBounds_toArray, List.set_cons_zero, List.set_cons_succ] at hK
    exact hK
  simp only [Act.put, List.setIfInBounds_toArray, List.set_cons_zero, List.set_cons_succ]
  refine mildv_take (v := ?v407) 6 rfl (by kernel_rfl) (by kernel_rfl) (by kernel_rfl) (by kernel_rfl) (fun _ _ _ h => h) (by kernel_rfl) (fun Wu K hK => ?hy407) ?go407
  case hy407 =>
    go_big_quiet_op
    simp only [Act.put, List.setIfInBounds_toArray, List.set_cons_zero, List.set_cons_succ] at hK
    exact hK
  simp only [Act.put, List.setIfInBounds_toArray, List.set_cons_zero, List.set_cons_succ]
  refine mildv_take (v := ?v408) 7 rfl (by kernel_rfl) (by kernel_rfl) (by kernel_rfl) (by kernel_rfl) (fun _ _ _ h => h) (by kernel_rfl) (fun Wu K hK => ?hy408) ?go408
  case hy408 =>
    go_big_quiet_op
    simp only [Act.put, List.setIfInBounds_toArray, List.set_cons_zero, List.set_cons_succ] at hK
    exact hK
  simp only [Act.put, List.setIfInBounds_toArray, List.set_cons_zero, List.set_cons_succ]
  refine mildv_take (v := ?v409) 8 rfl (by kernel_rfl) (by kernel_rfl) (by kernel_rfl) (by kernel_rfl) (fun _ _ _ h => h) (by kernel_rfl) (fun Wu K hK => ?hy409) ?go409
  case hy409 =>
    go_big_quiet_op
    simp only [Act.put, List.setIfInBounds_toArray, List.set_cons_zero, List.set_cons_succ] at hK
    exact hK
  simp only [Act.put, List.setIfInBounds_toArray, List.set_cons_zero, List.set_cons_succ]
  refine mildv_take (v := ?v410) 9 rfl (by kernel_rfl) (by kernel_rfl) (by kernel_rfl) (by kernel_rfl) (fun _ _ _ h => h) (by kernel_rfl) (fun Wu K hK => ?hy410) ?go410
  case hy410 =>
    go_big_quiet_op
    simp only [Act.put, List.setIfInBounds_toArray, List.set_cons_zero, List.set_cons_succ] at hK
    exact hK
  simp only [Act.put, List.setIfInBounds_toArray, List.set_cons_zero, List.set_cons_succ]
  refine mildv_take (v := ?v411) 10 rfl (by kernel_rfl) (by kernel_rfl) (by kernel_rfl) (by kernel_rfl) (fun _ _ _ h => h) (by kernel_rfl) (fun Wu K hK => ?hy411) ?go411
  case hy411 =>
    go_big_quiet_op
    simp only [Act.put, List.setIfInBounds_toArray, List.set_cons_zero, List.set_cons_succ] at hK
    exact hK
  simp only [Act.put, List.setIfInBounds_toArray, List.set_cons_zero, List.set_cons_succ]
  refine mildv_take (v := ?v412) 11 rfl (by kernel_rfl) (by kernel_rfl) (by kernel_rfl) (by kernel_rfl) (fun _ _ _ h => h) (by kernel_rfl) (fun Wu K hK => ?hy412) ?go412
  case hy412 =>
    go_big_quiet_op
    simp only [Act.put, List.setIfInBounds_toArray, List.set_cons_zero, List.set_cons_succ] at hK
    exact hK
  simp only [Act.put, List.setIfInBounds_toArray, List.set_cons_zero, List.set_cons_succ]
  refine mildv_take (v := ?v413) 12 rfl (by kernel_rfl) (by kernel_rfl) (by kernel_rfl) (by kernel_rfl) (fun _ _ _ h => h) (by kernel_rfl) (fun Wu K hK => ?hy413) ?go413
  case hy413 =>
    go_big_quiet_op
    simp only [Act.put, List.setIfInBounds_toArray, List.set_cons_zero, List.set_cons_succ] at hK
    exact hK
  simp only [Act.put, List.setIfInBounds_toArray, List.set_cons_zero, List.set_cons_succ]
  refine mildv_take (v := ?v414) 13 rfl (by kernel_rfl) (by kernel_rfl) (by kernel_rfl) (by kernel_rfl) (fun _ _ _ h => h) (by kernel_rfl) (fun Wu K hK => ?hy414) ?go414
  case hy414 =>
    go_big_quiet_op
    simp only [Act.put, List.setIfInBounds_toArray, List.set_cons_zero, List.set_cons_succ] at hK
    exact hK
  simp only [Act.put, List.setIfInBounds_toArray, List.set_cons_zero, List.set_cons_succ]
  refine mildv_take (v := ?v415) 14 rfl (by kernel_rfl) (by kernel_rfl) (by kernel_rfl) (by kernel_rfl) (fun _ _ _ h => h) (by kernel_rfl) (fun Wu K hK => ?hy415) ?go415
  case hy415 =>
    go_big_quiet_op
    simp only [Act.put, List.setIfInBounds_toArray, List.set_cons_zero, List.set_cons_succ] at hK
    exact hK
  simp only [Act.put, List.setIfInBounds_toArray, List.set_cons_zero, List.set_cons_succ]
  refine mildv_take (v := ?v416) 15 rfl (by kernel_rfl) (by kernel_rfl) (by kernel_rfl) (by kernel_rfl) (fun _ _ _ h => h) (by kernel_rfl) (fun Wu K hK => ?hy416) ?go416
  case hy416 =>
    go_big_quiet_op
    simp only [Act.put, List.setIfInBounds_toArray, List.set_cons_zero, List.set_cons_succ] at hK
    exact hK
  simp only [Act.put, List.setIfInBounds_toArray, List.set_cons_zero, List.set_cons_succ]
  refine mildv_take (v := ?v417) 16 rfl (by kernel_rfl) (by kernel_rfl) (by kernel_rfl) (by kernel_rfl) (fun _ _ _ h => h) (by kernel_rfl) (fun Wu K hK => ?hy417) ?go417
  case hy417 =>
    go_big_quiet_op
    simp only [Act.put, List.setIfInBounds_toArray, List.set_cons_zero, List.set_cons_succ] at hK
    exact hK
  simp only [Act.put, List.setIfInBounds_toArray, List.set_cons_zero, List.set_cons_succ]
  refine mildv_take (v := ?v418) 17 rfl (by kernel_rfl) (by kernel_rfl) (by kernel_rfl) (by kernel_rfl) (fun _ _ _ h => h) (by kernel_rfl) (fun Wu K hK => ?hy418) ?go418
  case hy418 =>
    go_big_quiet_op
    simp only [Act.put, List.setIfInBounds_toArray, List.set_cons_zero, List.set_cons_succ] at hK
    exact hK
  simp only [Act.put, List.setIfInBounds_toArray, List.set_cons_zero, List.set_cons_succ]
  refine mildv_take (v := ?v419) 18 rfl (by kernel_rfl) (by kernel_rfl) (by kernel_rfl) (by kernel_rfl) (fun _ _ _ h => h) (by kernel_rfl) (fun Wu K hK => ?hy419) ?go419
  case hy419 =>
    go_big_quiet_op
    simp only [Act.put, List.setIfInBounds_toArray, List.set_cons_zero, List.set_cons_succ] at hK
    exact hK
  simp only [Act.put, List.setIfInBounds_toArray, List.set_cons_zero, List.set_cons_succ]
  refine mildv_take (v := ?v420) 19 rfl (by kernel_rfl) (by kernel_rfl) (by kernel_rfl) (by kernel_rfl) (fun _ _ _ h => h) (by kernel_rfl) (fun Wu K hK => ?hy420) ?go420
  case hy420 =>
    go_big_quiet_op
    simp only [Act.put, List.setIfInBounds_toArray, List.set_cons_zero, List.set_cons_succ] at hK
    exact hK
  simp only [Act.put, List.setIfInBounds_toArray, List.set_cons_zero, List.set_cons_succ]
  refine mildv_take (v := ?v421) 20 rfl (by kernel_rfl) (by kernel_rfl) (by kernel_rfl) (by kernel_rfl) (fun _ _ _ h => h) (by kernel_rfl) (fun Wu K hK => ?hy421) ?go421
  case hy421 =>
    go_big_quiet_op
    simp only [Act.put, List.setIfInBounds_toArray, List.set_cons_zero, List.set_cons_succ] at hK
    exact hK
  simp only [Act.put, List.setIfInBounds_toArray, List.set_cons_zero, List.set_cons_succ]
  refine mildv_take (v := ?v422) 21 rfl (by kernel_rfl) (by kernel_rfl) (by kernel_rfl) (by kernel_rfl) (fun _ _ _ h => h) (by kernel_rfl) (fun Wu K hK => ?hy422) ?go422
  case hy422 =>
    go_big_quiet_op
    simp only [Act.put, List.setIfInBounds_toArray, List.set_cons_zero, List.set_cons_succ] at hK
    exact hK
  simp only [Act.put, List.setIfInBounds_toArray, List.set_cons_zero, List.set_cons_succ]
  refine mildv_take (v := ?v423) 22 rfl (by kernel_rfl) (by kernel_rfl) (by kernel_rfl) (by kernel_rfl) (fun _ _ _ h => h) (by kernel_rfl) (fun Wu K hK => ?hy423) ?go423
  case hy423 =>
    go_big_quiet_op
    simp only [Act.put, List.setIfInBounds_toArray, List.set_cons_zero, List.set_cons_succ] at hK
    exact hK
  simp only [Act.put, List.setIfInBounds_toArray, List.set_cons_zero, List.set_cons_succ]
  refine mildv_take (v := ?v424) 23 rfl (by kernel_rfl) (by kernel_rfl) (by kernel_rfl) (by kernel_rfl) (fun _ _ _ h => h) (by kernel_rfl) (fun Wu K hK => ?hy424) ?go424
  case hy424 =>
    go_big_quiet_op
    simp only [Act.put, List.setIfInBounds_toArray, List.set_cons_zero, List.set_cons_succ] at hK
    exact hK
  simp only [Act.put, List.setIfInBounds_toArray, List.set_cons_zero, List.set_cons_succ]
  refine mildv_take (v := ?v425) 24 rfl (by kernel_rfl) (by kernel_rfl) (by kernel_rfl) (by kernel_rfl) (fun _ _ _ h => h) (by kernel_rfl) (fun Wu K hK => ?hy425) ?go425
  case hy425 =>
    go_big_quiet_op
    simp only [Act.put, List.setIfInBounds_toArray, List.set_cons_zero, List.set_cons_succ] at hK
    exact hK
  simp only [Act.put, List.setIfInBounds_toArray, List.set_cons_zero, List.set_cons_succ]
  refine mildv_take (v := ?v426) 25 rfl (by kernel_rfl) (by kernel_rfl) (by kernel_rfl) (by kernel_rfl) (fun _ _ _ h => h) (by kernel_rfl) (fun Wu K hK => ?hy426) ?go426
  case hy426 =>
    go_big_quiet_op
    simp only [Act.put, List.setIfInBounds_toArray, List.set_cons_zero, List.set_cons_succ] at hK
    exact hK
  simp only [Act.put, List.setIfInBounds_toArray, List.set_cons_zero, List.set_cons_succ]
  refine mildv_take (v := ?v427) 26 rfl (by kernel_rfl) (by kernel_rfl) (by kernel_rfl) (by kernel_rfl) (fun _ _ _ h => h) (by kernel_rfl) (fun Wu K hK => ?hy427) ?go427
  case hy427 =>
    go_big_quiet_op
    simp only [Act.put, List.setIfInBounds_toArray, List.set_cons_zero, List.set_cons_succ] at hK
    exact hK
  simp only [Act.put, List.setIfInBounds_toArray, List.set_cons_zero, List.set_cons_succ]
  refine mildv_take (v := ?v428) 27 rfl (by kernel_rfl) (by kernel_rfl) (by kernel_rfl) (by kernel_rfl) (fun _ _ _ h => h) (by kernel_rfl) (fun Wu K hK => ?hy428) ?go428
  case hy428 =>
    go_big_quiet_op
    simp only [Act.put, List.setIfInBounds_toArray, List.set_cons_zero, List.set_cons_succ] at hK
    exact hK
  simp only [Act.put, List.setIfInBounds_toArray, List.set_cons_zero, List.set_cons_succ]
  refine mildv_take (v := ?v429) 28 rfl (by kernel_rfl) (by kernel_rfl) (by kernel_rfl) (by kernel_rfl) (fun _ _ _ h => h) (by kernel_rfl) (fun Wu K hK => ?hy429) ?go429
  case hy429 =>
    go_big_quiet_op
    simp only [Act.put, List.setIfInBounds_toArray, List.set_cons_zero, List.set_cons_succ] at hK
    exact hK
  simp only [Act.put, List.setIfInBounds_toArray, List.set_cons_zero, List.set_cons_succ]
  refine mildv_take (v := ?v430) 29 rfl (by kernel_rfl) (by kernel_rfl) (by kernel_rfl) (by kernel_rfl) (fun _ _ _ h => h) (by kernel_rfl) (fun Wu K hK => ?hy430) ?go430
  case hy430 =>
    go_big_quiet_op
    simp only [Act.put, List.setIfInBounds_toArray, List.set_cons_zero, List.set_cons_succ] at hK
    exact hK
  simp only [Act.put, List.setIfInBounds_toArray, List.set_cons_zero, List.set_cons_succ]
  refine mildv_take (v := ?v431) 30 rfl (by kernel_rfl) (by kernel_rfl) (by kernel_rfl) (by kernel_rfl) (fun _ _ _ h => h) (by kernel_rfl) (fun Wu K hK => ?hy431) ?go431
  case hy431 =>
    go_big_quiet_op
    simp only [Act.put, List.setIfInBounds_toArray, List.set_cons_zero, List.set_cons_succ] at hK
    exact hK
  simp only [Act.put, List.setIfInBounds_toArray, List.set_cons_zero, List.set_cons_succ]
  refine mildv_take (v := ?v432) 31 rfl (by kernel_rfl) (by kernel_rfl) (by kernel_rfl) (by kernel_rfl) (fun _ _ _ h => h) (by kernel_rfl) (fun Wu K hK => ?hy432) ?go432
  case hy432 =>
    go_big_quiet_op
    simp only [Act.put, List.setIfInBounds_toArray, List.set_cons_zero, List.set_cons_succ] at hK
    exact hK
  simp only [Act.put, List.setIfInBounds_toArray, List.set_cons_zero, List.set_cons_succ]
  refine mildv_take (v := ?v433) 32 rfl (by kernel_rfl) (by kernel_rfl) (by kernel_rfl) (by kernel_rfl) (fun _ _ _ h => h) (by kernel_rfl) (fun Wu K hK => ?hy433) ?go433
  case hy433 =>
    go_big_quiet_op
    simp only [Act.put, List.setIfInBounds_toArray, List.set_cons_zero, List.set_cons_succ] at hK
    exact hK
  simp only [Act.put, List.setIfInBounds_toArray, List.set_cons_zero, List.set_cons_succ]
  refine mildv_take (v := ?v434) 33 rfl (by kernel_rfl) (by kernel_rfl) (by kernel_rfl) (by kernel_rfl) (fun _ _ _ h => h) (by kernel_rfl) (fun Wu K hK => ?hy434) ?go434
  case hy434 =>
    go_big_quiet_op
    simp only [Act.put, List.setIfInBounds_toArray, List.set_cons_zero, List.set_cons_succ] at hK
    exact hK
  simp only [Act.put, List.setIfInBounds_toArray, List.set_cons_zero, List.set_cons_succ]
  refine mildv_take (v := ?v435) 34 rfl (by kernel_rfl) (by kernel_rfl) (by kernel_rfl) (by kernel_rfl) (fun _ _ _ h => h) (by kernel_rfl) (fun Wu K hK => ?hy435) ?go435
  case hy435 =>
    go_big_quiet_op
    simp only [Act.put, List.setIfInBounds_toArray, List.set_cons_zero, List.set_cons_succ] at hK
    exact hK
  simp only [Act.put, List.setIfInBounds_toArray, List.set_cons_zero, List.set_cons_succ]
  refine mildv_take (v := ?v436) 35 rfl (by kernel_rfl) (by kernel_rfl) (by kernel_rfl) (by kernel_rfl) (fun _ _ _ h => h) (by kernel_rfl) (fun Wu K hK => ?hy436) ?go436
  case hy436 =>
    go_big_quiet_op
    simp only [Act.put, List.setIfInBounds_toArray, List.set_cons_zero, List.set_cons_succ] at hK
    exact hK
  simp only [Act.put, List.setIfInBounds_toArray, List.set_cons_zero, List.set_cons_succ]
  refine mildv_take (v := ?v437) 36 rfl (by kernel_rfl) (by kernel_rfl) (by kernel_rfl) (by kernel_rfl) (fun _ _ _ h => h) (by kernel_rfl) (fun Wu K hK => ?hy437) ?go437
  case hy437 =>
    go_big_quiet_op
    simp only [Act.put, List.setIfInBounds_toArray, List.set_cons_zero, List.set_cons_succ] at hK
    exact hK
  simp only [Act.put, List.setIfInBounds_toArray, List.set_cons_zero, List.set_cons_succ]
  refine mildv_take (v := ?v438) 37 rfl (by kernel_rfl) (by kernel_rfl) (by kernel_rfl) (by kernel_rfl) (fun _ _ _ h => h) (by kernel_rfl) (fun Wu K hK => ?hy438) ?go438
  case hy438 =>
    go_big_quiet_op
    simp only [Act.put, List.setIfInBounds_toArray, List.set_cons_zero, List.set_cons_succ] at hK
    exact hK
  simp only [Act.put, List.setIfInBounds_toArray, List.set_cons_zero, List.set_cons_succ]
  refine mildv_take (v := ?v439) 38 rfl (by kernel_rfl) (by kernel_rfl) (by kernel_rfl) (by kernel_rfl) (fun _ _ _ h => h) (by kernel_rfl) (fun Wu K hK => ?hy439) ?go439
  case hy439 =>
    go_big_quiet_op
    simp only [Act.put, List.setIfInBounds_toArray, List.set_cons_zero, List.set_cons_succ] at hK
    exact hK
  simp only [Act.put, List.setIfInBounds_toArray, List.set_cons_zero, List.set_cons_succ]
  refine mildv_take (v := ?v440) 39 rfl (by kernel_rfl) (by kernel_rfl) (by kernel_rfl) (by kernel_rfl) (fun _ _ _ h => h) (by kernel_rfl) (fun Wu K hK => ?hy440) ?go440
  case hy440 =>
    go_big_quiet_op
    simp only [Act.put, List.setIfInBounds_toArray, List.set_cons_zero, List.set_cons_succ] at hK
    exact hK
  simp only [Act.put, List.setIfInBounds_toArray, List.set_cons_zero, List.set_cons_succ]
  refine mildv_take (v := ?v441) 40 rfl (by kernel_rfl) (by kernel_rfl) (by kernel_rfl) (by kernel_rfl) (fun _ _ _ h => h) (by kernel_rfl) (fun Wu K hK => ?hy441) ?go441
  case hy441 =>
    go_big_quiet_op
    simp only [Act.put, List.setIfInBounds_toArray, List.set_cons_zero, List.set_cons_succ] at hK
    exact hK
  simp only [Act.put, List.setIfInBounds_toArray, List.set_cons_zero, List.set_cons_succ]
  intro W
  clear uc uf
  have hW := W.2
  have hb0 := W.2
  have bxW := bx0.next W.2
  have BW := next hB0 W.2
  have hpW := hpart.below BW
  have hzW : w.heap.size < W.1.heap.size := bxW.lt
  generalize W.1 = wq at *
  clear hW W bx0 hB0 hpart
  generalize (if cap = 10 then some (⟨b0, o0, none⟩ : Addr) else some ⟨b0, o0 + 10, none⟩) = aa at *
  refine upv_list 41 (by kernel_rfl) rfl ?_
  go_wp2_with (go_at_call 81; refine (readWords_any _ (l.drop 10) (n - 10) (cap - 10) m _ hpW (by have := HM.out; omega) hm1 (by have := HM.out; omega)).mono ?_; rintro e w1 ⟨vv, rfl, hown1, hb1⟩; obtain ⟨a1, cap1, rfl, hs1⟩ := hown1.sl' (wordsN_len _ m))
  refine ⟨(by first | exact next hb0 hb1 | exact fun _ => next hb0 hb1), fun u => ?_⟩
  have hb2 := next hb0 (next hb1 u.2)
  have hown2 := hown1.below u.2
  have bx2 := bxW.next (next hb1 u.2)
  have B2 := next BW (next hb1 u.2)
  generalize u.1 = w2 at *
  clear u hb1 hown1 hs1
  refine upv_list 42 (by kernel_rfl) rfl ?_
  go_wp2
  refine ⟨(by first | exact hb2 | exact fun _ => hb2), fun u => ?_⟩
  have hown3 := hown2.below u.2
  have bx3 := bx2.next u.2
  have B3 := next B2 u.2
  generalize u.1 = w3 at *
  clear u hb2 hown2 bx2 B2
  have fq := bx3.fz
  obtain ⟨r0, r1, r2, r3, r4, r5, r6, r7, r8, _, rlt⟩ := id bx3
  refine upv_list 43 (by kernel_rfl) rfl ?_
  go_wp2
  refine ⟨(by first | trivial | exact fun h => absurd rfl h), fun u => ?_⟩
  refine upv_done (by kernel_rfl) ?_
  have hown4 : Own u.1 w.heap.size (.slice a1 m cap1) (wordsN (l.drop 10) m) := by
    refine Own.below ?_ u.2
    refine Own.low ?_ (Nat.le_of_lt hzW)
    exact far9 (y := ⟨v0, v1, v2, v3 * 256 + v4, v5, v6 - 1, v7, v8 == 1, []⟩) (v := .slice a1 m cap1) (P := fun V => Own V wq.heap.size (.slice a1 m cap1) (wordsN (l.drop 10) m)) (fun V o u h => h.set (by simpa using hzW) _) hown3
  have bx4 := (bx3.put ⟨v0, v1, v2, v3 * 256 + v4, v5, v6 - 1, v7, v8 == 1, []⟩ (.slice a1 m cap1)).next (by exact u.2)
  have B4 : Below w.heap.size w u.1 := by
    refine next ?_ u.2
    exact far9 (y := ⟨v0, v1, v2, v3 * 256 + v4, v5, v6 - 1, v7, v8 == 1, []⟩) (v := .slice a1 m cap1) (P := fun V => Below w.heap.size w V) (fun V o u h => h.setCell (by simp) _) B3
  generalize u.1 = w4 at *
  clear u r0 r1 r2 r3 r4 r5 r6 r7 r8 rlt fq
  obtain ⟨r0, r1, r2, r3, r4, r5, r6, r7, r8, _, rlt⟩ := bx4
  simp only at r0 r1 r2 r3 r4 r5 r6 r7
  go_wp2
  refine bodyPost_ret (v := .agg #[.int .i64 v0, .int .i64 v1, .int .i64 v2, .int .i64 (v3 * 256 + v4), .int .i64 v5, .int .i64 (v6 - 1), .int .i64 v7, .bool (v8 == 1), .slice a1 m cap1]) (by simp [results, Try.results74, go_sem, r0, r1, r2, r3, r4, r5, r6, r7, r8]) rfl ⟨a1, cap1, by rw [HP.out], by rw [HW.out]; exact hown4, B4⟩
end Go.Proofs.Ytjdbjmfkheffdaa
end
section
namespace Go.Proofs.Ytjdbjmfkheffdaa
open Go.RowKit
set_option linter.unusedVariables false
set_option maxRecDepth 20000

/-- What bytes are, as a packet. -/
def unpackI (l : List Int) : Option Pk := match B.openI l with
  | none => none
  | some b => if (formB b && (readP b).right) = true then some (readP b) else none
theorem unpack_none {l : List Int} (h : B.openI l = none) : unpackI l = none := by unfold unpackI; rw [h]
theorem unpack_form {l b : List Int} (h : B.openI l = some b) (hf : formB b = false) : unpackI l = none := by unfold unpackI; rw [h]; simp [hf]
theorem unpack_right {l b : List Int} (h : B.openI l = some b) (hf : (readP b).right = false) : unpackI l = none := by unfold unpackI; rw [h]; simp [hf]
theorem unpack_some {l b : List Int} (h : B.openI l = some b) (hf : formB b = true) (hr : (readP b).right = true) : unpackI l = some (readP b) := by unfold unpackI; rw [h]; simp [hf, hr]
theorem form_of {b : List Int} (h8 : B.B8 b) (h : formB b = true) : ∃ m : Nat, m ≤ 255 ∧ b.length = 10 + 8 * m := by
  unfold formB at h
  simp at h
  have := B.B8_get h8 9
  exact ⟨(b[9]?.getD 0).toNat, by omega, by omega⟩

theorem open_take {l b : List Int} (h : B.openI l = some b) : b = l.take (l.length - 2) := by
  unfold B.openI at h
  split at h
  · cases h
  · split at h
    · exact (Option.some.inj h).symm
    · cases h
/-- No packet. -/
def NoPk (w : World) (e : Ending) (w' : World) (t : Value) : Prop := e = .returned (.tuple #[zeroPk.val (.slice none 0 0), t]) ∧ Below w.heap.size w w'
set_option maxHeartbeats 1000000 in
theorem unpack_no (a : Option Addr) (l : List Int) (n cap : Nat) (w : World) (hsl : B.Sl w a n cap l) (hn : n ≤ 140737488351300) (h : unpackI l = none) :
    Calls Try.prog 58 #[.slice a n cap] w fun e w' => NoPk w e w' (.int .i64 2) := by
  have bx0 := Bx.made w zeroPk (.slice none 0 0)
  have hB0 : Below w.heap.size w (w.alloc (.cells #[.int .i64 zeroPk.k, .int .i64 zeroPk.f, .int .i64 zeroPk.t, .int .i64 zeroPk.i, .int .i64 zeroPk.l, .int .i64 zeroPk.p, .int .i64 zeroPk.s, .bool zeroPk.fl, .slice none 0 0] 26)) := ba (Below.refl _ _)
  have hs0 := hsl.below hB0
  cases ho : B.openI l with
  | none =>
    have HO : Hid (B.openI l = none) := ho
    clear h ho hsl
    go_enter Try.func58, Try.ntmps58
    go_wp2_with (go_at_call 72; refine (B.open_any a l n cap _ hs0 hn).mono ?_; rintro e w1 ⟨v1, rfl, ho1, hb1⟩; rw [HO.out] at ho1 ⊢; simp only [Option.isSome_none, Option.getD_none] at ho1 ⊢; obtain ⟨a1, cap1, rfl, hs1⟩ := ho1.sl' (n := 0) rfl; have bx1 := bx0.next hb1; have fq := bx1.fz; obtain ⟨q0, q1, q2, q3, q4, q5, q6, q7, q8, _, _⟩ := id bx1)
    refine bodyPost_ret (v := .tuple #[zeroPk.val (.slice none 0 0), .int .i64 2]) (by simp [results, Try.results58, go_sem, zeroPk, *]) rfl ⟨rfl, ?_⟩
    exact far9 (y := zeroPk) (v := .slice none 0 0) (P := fun V => Below w.heap.size w V) (fun V o u h => h.setCell (by simp) _) (next hB0 hb1)
  | some b =>
    have HO : Hid (B.openI l = some b) := ho
    obtain ⟨nb, hnb⟩ : ∃ nb, b.length = nb := ⟨_, rfl⟩
    have HB : Hid (b.length = nb) := hnb
    have h8b : B.B8 b := by rw [open_take ho]; exact B.B8_take hsl.b8 _
    clear hsl hnb
    cases hf : formB b
    · have HF : Hid (formB b = false) := hf
      clear h ho hf
      go_enter Try.func58, Try.ntmps58
      go_wp2_with (first
        | (go_at_call 72; refine (B.open_any a l n cap _ hs0 hn).mono ?_; rintro e w1 ⟨v1, rfl, ho1, hb1⟩; rw [HO.out] at ho1 ⊢; simp only [Option.isSome_some, Option.getD_some] at ho1 ⊢; obtain ⟨a1, cap1, rfl, hs1⟩ := ho1.sl' HB.out; have bx1 := bx0.next hb1)
        | (go_at_call 73; refine (hasForm_any a1 b nb cap1 _ hs1).mono ?_; rintro e w2 ⟨rfl, k2, rfl⟩; rw [HF.out]; have bx2 := bx1.next (below_dn _ k2); have fq := bx2.fz; obtain ⟨q0, q1, q2, q3, q4, q5, q6, q7, q8, _, _⟩ := id bx2))
      refine bodyPost_ret (v := .tuple #[zeroPk.val (.slice none 0 0), .int .i64 2]) (by simp [results, Try.results58, go_sem, zeroPk, *]) rfl ⟨rfl, ?_⟩
      exact far9 (y := zeroPk) (v := .slice none 0 0) (P := fun V => Below w.heap.size w V) (fun V o u h => h.setCell (by simp) _) (next (next hB0 hb1) (below_dn _ k2))
    · have HF : Hid (formB b = true) := hf
      obtain ⟨y, hy⟩ : ∃ y, readP b = y := ⟨_, rfl⟩
      have HR : y.right = false := by
        cases hr : y.right
        · rfl
        · rw [unpack_some ho hf (by rw [hy]; exact hr)] at h; cases h
      have HE : Hid (y.err = 1) := Pk.err_f HR
      obtain ⟨m, hm1, hm2⟩ := form_of h8b hf
      have HM : Hid (nb = 10 + 8 * m) := by show _ = _; rw [← HB.out]; exact hm2
      clear hm2
      have HY : Hid (readP b = y) := hy
      have HZ : Hid ((readP b).z.length = m) := by show (wordsN _ _).length = m; rw [wordsN_len, HB.out, HM.out]; omega
      clear h ho hf hy
      go_enter Try.func58, Try.ntmps58
      go_wp2_with (first
        | (go_at_call 72; refine (B.open_any a l n cap _ hs0 hn).mono ?_; rintro e w1 ⟨v1, rfl, ho1, hb1⟩; rw [HO.out] at ho1 ⊢; simp only [Option.isSome_some, Option.getD_some] at ho1 ⊢; obtain ⟨a1, cap1, rfl, hs1⟩ := ho1.sl' HB.out; have bx1 := bx0.next hb1)
        | (go_at_call 73; refine (hasForm_any a1 b nb cap1 _ hs1).mono ?_; rintro e w2 ⟨rfl, k2, rfl⟩; rw [HF.out]; have bx2 := bx1.next (below_dn _ k2); have hs2 := hs1.below (below_dn _ k2))
        | (go_at_call 74; refine (read_any a1 b nb cap1 m _ hs2 HM.out hm1).mono ?_; rintro e w3 ⟨a3, cap3, rfl, ho3, hb3⟩; rw [HY.out] at ho3 ⊢; unfold Pk.val; have bx3 := bx2.next hb3; obtain ⟨a3', cap3', e3, hs3⟩ := ho3.sl' (n := m) (by rw [← HY.out]; exact HZ.out); simp at e3; obtain ⟨rfl, rfl⟩ := e3)
        | (go_at_call 31; refine (check_any y a3 m cap3 _ (hs3.below (ba (Below.refl _ _)))).mono ?_; rintro e w4 ⟨rfl, hb4⟩; rw [HE.out]; have bx4 := (bx3.next (ba (Below.refl _ _))).next hb4; have fq := bx4.fz; obtain ⟨q0, q1, q2, q3, q4, q5, q6, q7, q8, _, _⟩ := id bx4))
      refine bodyPost_ret (v := .tuple #[zeroPk.val (.slice none 0 0), .int .i64 2]) (by simp [results, Try.results58, go_sem, zeroPk, *]) rfl ⟨rfl, ?_⟩
      exact far9 (y := zeroPk) (v := .slice none 0 0) (P := fun V => Below w.heap.size w V) (fun V o u h => h.setCell (by simp) _) (next (next (next (next hB0 hb1) (below_dn _ k2)) hb3) (next (ba (Below.refl _ _)) hb4))
set_option maxHeartbeats 1000000 in
theorem unpack_yes (a : Option Addr) (l : List Int) (n cap : Nat) (w : World) (hsl : B.Sl w a n cap l) (hn : n ≤ 140737488351300) (y : Pk) (h : unpackI l = some y) :
    Calls Try.prog 58 #[.slice a n cap] w fun e w' => ∃ a' m cap', e = .returned (.tuple #[y.val (.slice a' m cap'), .int .i64 0]) ∧ Sl w' a' m cap' y.z ∧ (∀ ad : Addr, a' = some ad → w.heap.size ≤ ad.block) ∧ Below w.heap.size w w' := by
  have bx0 := Bx.made w zeroPk (.slice none 0 0)
  have hB0 : Below w.heap.size w (w.alloc (.cells #[.int .i64 zeroPk.k, .int .i64 zeroPk.f, .int .i64 zeroPk.t, .int .i64 zeroPk.i, .int .i64 zeroPk.l, .int .i64 zeroPk.p, .int .i64 zeroPk.s, .bool zeroPk.fl, .slice none 0 0] 26)) := ba (Below.refl _ _)
  have hs0 := hsl.below hB0
  cases ho : B.openI l with
  | none => rw [unpack_none ho] at h; cases h
  | some b =>
    have HO : Hid (B.openI l = some b) := ho
    obtain ⟨nb, hnb⟩ : ∃ nb, b.length = nb := ⟨_, rfl⟩
    have HB : Hid (b.length = nb) := hnb
    have h8b : B.B8 b := by rw [open_take ho]; exact B.B8_take hsl.b8 _
    clear hsl hnb
    cases hf : formB b
    · rw [unpack_form ho hf] at h; cases h
    · cases hr : (readP b).right
      · rw [unpack_right ho hr] at h; cases h
      rw [unpack_some ho hf hr] at h
      have hy : readP b = y := Option.some.inj h
      have HF : Hid (formB b = true) := hf
      have HE : Hid (y.err = 0) := Pk.err_t (by rw [← hy]; exact hr)
      obtain ⟨m, hm1, hm2⟩ := form_of h8b hf
      have HM : Hid (nb = 10 + 8 * m) := by show _ = _; rw [← HB.out]; exact hm2
      clear hm2
      have HY : Hid (readP b = y) := hy
      have HZ : Hid ((readP b).z.length = m) := by show (wordsN _ _).length = m; rw [wordsN_len, HB.out, HM.out]; omega
      clear h ho hf hy hr
      go_enter Try.func58, Try.ntmps58
      go_wp2_with (first
        | (go_at_call 72; refine (B.open_any a l n cap _ hs0 hn).mono ?_; rintro e w1 ⟨v1, rfl, ho1, hb1⟩; rw [HO.out] at ho1 ⊢; simp only [Option.isSome_some, Option.getD_some] at ho1 ⊢; obtain ⟨a1, cap1, rfl, hs1⟩ := ho1.sl' HB.out; have bx1 := bx0.next hb1)
        | (go_at_call 73; refine (hasForm_any a1 b nb cap1 _ hs1).mono ?_; rintro e w2 ⟨rfl, k2, rfl⟩; rw [HF.out]; have bx2 := bx1.next (below_dn _ k2); have hs2 := hs1.below (below_dn _ k2))
        | (go_at_call 74; refine (read_any a1 b nb cap1 m _ hs2 HM.out hm1).mono ?_; rintro e w3 ⟨a3, cap3, rfl, ho3, hb3⟩; rw [HY.out] at ho3 ⊢; unfold Pk.val; have bx3 := bx2.next hb3; have lo3 := ho3.lo; obtain ⟨a3', cap3', e3, hs3⟩ := ho3.sl' (n := m) (by rw [← HY.out]; exact HZ.out); simp at e3; obtain ⟨rfl, rfl⟩ := e3)
        | (go_at_call 31; refine (check_any y a3 m cap3 _ (hs3.below (ba (Below.refl _ _)))).mono ?_; rintro e w4 ⟨rfl, hb4⟩; rw [HE.out]; have bx4 := (bx3.next (ba (Below.refl _ _))).next hb4; have by4 := (Bx.made w3 y (.slice a3 m cap3)).next hb4; have hs4 := hs3.below (next (ba (Below.refl _ _)) hb4); have fq := bx4.fz; have z13 : w.heap.size < w3.heap.size := bx3.lt; obtain ⟨q0, q1, q2, q3, q4, q5, q6, q7, q8, _, _⟩ := id bx4; obtain ⟨r0, r1, r2, r3, r4, r5, r6, r7, r8, _, _⟩ := id by4))
      have hz1 : w.heap.size < w1.heap.size := bx1.lt
      refine bodyPost_ret (v := .tuple #[y.val (.slice a3 m cap3), .int .i64 0]) (by simp [results, Try.results58, go_sem, *]) rfl ⟨a3, m, cap3, rfl, ?_, fun ad e => by have := lo3 ad e; simp at this; omega, ?_⟩
      · exact far9 (P := fun V => Sl V a3 m cap3 y.z) (fun V o u h => h.far (fun ad e => by have := lo3 ad e; simp at this ⊢; omega)) hs4
      · exact far9 (P := fun V => Below w.heap.size w V) (fun V o u h => h.setCell (by simp) _) (next (next (next (next hB0 hb1) (below_dn _ k2)) hb3) (next (ba (Below.refl _ _)) hb4))
end Go.Proofs.Ytjdbjmfkheffdaa
end
section
namespace Go.Proofs.Ytjdbjmfkheffdaa
open Go.RowKit
set_option linter.unusedVariables false
set_option maxRecDepth 20000

theorem read_pack {y : Pk} (h : y.Right) (hz : R64 y.z) : readP (packI y) = y := by
  obtain ⟨⟨k0, k1⟩, ⟨f0, f1⟩, ⟨t0, t1⟩, ⟨i0, i1⟩, ⟨l0, l1⟩, ⟨p0, p1⟩, ⟨s0, s1⟩, z1⟩ := h
  have hw : wordsN ((packI y).drop 10) (((packI y).length - 10) / 8) = y.z := by
    rw [packI_len, show (10 + 8 * y.z.length - 10) / 8 = y.z.length by omega]
    have : (packI y).drop 10 = bodyI y.z := by unfold packI; rw [← headI_len y, List.drop_left]
    rw [this]
    exact words_body y.z hz
  unfold readP
  rw [hw]
  obtain ⟨k, f, t, i, l, p, s, fl, z⟩ := y
  simp only at k0 k1 f0 f1 t0 t1 i0 i1 l0 l1 p0 p1 s0 s1 z1
  have g0 : (packI ⟨k, f, t, i, l, p, s, fl, z⟩)[0]?.getD 0 = k % 256 := rfl
  have g1 : (packI ⟨k, f, t, i, l, p, s, fl, z⟩)[1]?.getD 0 = f % 256 := rfl
  have g2 : (packI ⟨k, f, t, i, l, p, s, fl, z⟩)[2]?.getD 0 = t % 256 := rfl
  have g3 : (packI ⟨k, f, t, i, l, p, s, fl, z⟩)[3]?.getD 0 = i / 256 % 256 := rfl
  have g4 : (packI ⟨k, f, t, i, l, p, s, fl, z⟩)[4]?.getD 0 = i % 256 := rfl
  have g5 : (packI ⟨k, f, t, i, l, p, s, fl, z⟩)[5]?.getD 0 = l % 256 := rfl
  have g6 : (packI ⟨k, f, t, i, l, p, s, fl, z⟩)[6]?.getD 0 = (p + 1) % 256 := rfl
  have g7 : (packI ⟨k, f, t, i, l, p, s, fl, z⟩)[7]?.getD 0 = s % 256 := rfl
  have g8 : (packI ⟨k, f, t, i, l, p, s, fl, z⟩)[8]?.getD 0 = flI fl := rfl
  rw [g0, g1, g2, g3, g4, g5, g6, g7, g8, show k % 256 = k by omega, show f % 256 = f by omega, show t % 256 = t by omega, show i / 256 % 256 * 256 + i % 256 = i by omega, show l % 256 = l by omega, show (p + 1) % 256 - 1 = p by omega, show s % 256 = s by omega]
  have : (flI fl == 1) = fl := by cases fl <;> rfl
  rw [this]
theorem form_pack {y : Pk} (h : y.Right) : formB (packI y) = true := by
  have hz := h.z
  have g8 : (packI y)[8]?.getD 0 = flI y.fl := rfl
  have g9 : (packI y)[9]?.getD 0 = (y.z.length : Int) % 256 := rfl
  unfold formB
  rw [g8, g9, packI_len]
  have := flI_bd y.fl
  simp
  omega
theorem unpack_pack {y : Pk} (h : y.right = true) (hz : R64 y.z) : unpackI (B.sealI (packI y)) = some y := by
  have hR := (Pk.right_iff y).1 h
  have := unpack_some (B.openI_seal (packI_b8 y)) (form_pack hR) (by rw [read_pack hR hz]; exact h)
  rw [this, read_pack hR hz]
theorem spoilt {l : List Int} {bit mask : Int} (h8 : B.B8 l) (h0 : B.sumI l = 0) (hb0 : 0 ≤ bit) (hb1 : bit < 8 * l.length) (hm0 : 0 ≤ mask) (hm1 : mask < 65536) (ht : mask.toNat.testBit 15 = true) : B.openI (B.spoilI l bit mask) = none := by
  refine B.openI_sum (B.spoilI_b8 h8 bit mask) fun h => ?_
  have e := B.spoil_found h8 hm0 hm1 h0 h
  have d := B.spoilI_dig (bit := bit) (mask := mask) h8 hm0 hm1 bit.toNat (by omega)
  rw [e] at d
  have hh : B.hit bit mask bit.toNat = true := by
    unfold B.hit B.mdig
    rw [decide_eq_true (by omega), show ((bit.toNat : Int) - bit).toNat = 0 by omega]
    simpa using ht
  rw [hh] at d
  revert d
  cases B.digAt l bit.toNat <;> simp
theorem mask_top {mask : Int} (h0 : 0 ≤ mask) (h1 : mask < 65536) : ∃ k : Int, bits .or .u16 mask 32768 = k ∧ 0 ≤ k ∧ k < 65536 ∧ k.toNat.testBit 15 = true := by
  refine ⟨_, rfl, ?_⟩
  rw [u16_or mask 32768 h0 h1 (by omega) (by omega)]
  have hlt : mask.toNat ||| (32768 : Int).toNat < 2 ^ 16 := Nat.or_lt_two_pow (by omega) (by decide)
  refine ⟨by omega, by omega, ?_⟩
  simp [Nat.testBit_or]
  right
  decide
/-- Is the packet, packed, as it was behind the spoiling? -/
def wireB (y : Pk) (bit mask : Int) : Bool := decide (B.spoilI (B.sealI (packI y)) bit mask = B.sealI (packI y))
theorem wire_yes {y : Pk} {bit mask : Int} (h : y.right = true) (hz : R64 y.z) (hw : wireB y bit mask = true) : unpackI (B.spoilI (B.sealI (packI y)) bit mask) = some y := by
  rw [of_decide_eq_true hw]; exact unpack_pack h hz
theorem wire_no {y : Pk} {bit mask : Int} (hm0 : 0 ≤ mask) (hm1 : mask < 65536) (hw : wireB y bit mask = false) : unpackI (B.spoilI (B.sealI (packI y)) bit mask) = none := by
  have h8 : B.B8 (B.sealI (packI y)) := B.sealI_b8 (packI_b8 y)
  refine unpack_none (B.openI_sum (B.spoilI_b8 h8 bit mask) fun h => ?_)
  exact of_decide_eq_false hw (B.spoil_found h8 hm0 hm1 (B.sum_seal (packI_b8 y)) h)
theorem sp_none {l : List Int} {bit : Int} (h8 : B.B8 l) : B.spoilI l bit 0 = l := by
  refine B.digs_ext (B.spoilI_b8 h8 bit 0) h8 (B.spoilI_len ..) fun k hk => ?_
  rw [B.spoilI_len] at hk
  rw [B.spoilI_dig h8 (by omega) (by omega) k hk]
  have : B.hit bit 0 k = false := by unfold B.hit B.mdig; simp
  rw [this, Bool.xor_false]
theorem wire_zero (y : Pk) (bit : Int) : wireB y bit 0 = true := decide_eq_true (sp_none (B.sealI_b8 (packI_b8 y)))
end Go.Proofs.Ytjdbjmfkheffdaa
end
section
namespace Go.Proofs.Ytjdbjmfkheffdaa
open Go.RowKit
set_option linter.unusedVariables false
set_option maxRecDepth 20000

/-- The row of a lane's pool; its queue's is two further. Lane 2 i: the requests of node i; lane 2 i + 1: its answers. -/
def pr (q : Nat) : Nat := 4 * (q / 2) + q % 2
theorem pr_lt {q nn : Nat} (h : q < 2 * nn) : pr q + 2 < 4 * nn := by unfold pr; omega
theorem pr_inj {q q' : Nat} (h : pr q = pr q') : q = q' := by unfold pr at h; omega
theorem pr_ne {q q' : Nat} : pr q ≠ pr q' + 2 := by unfold pr; omega
/-- All that is under way, of the first m lanes. -/
def laneL (F : Nat → List Pk) : Nat → List Pk
  | 0 => []
  | m + 1 => laneL F m ++ F (pr m)
theorem laneL_succ (F : Nat → List Pk) (m : Nat) : laneL F (m + 1) = laneL F m ++ F (pr m) := rfl
theorem lane_mono (F : Nat → List Pk) {q m : Nat} (h : q ≤ m) : (laneL F q).length ≤ (laneL F m).length := by
  induction m with
  | zero => have : q = 0 := by omega
            subst this; exact Nat.le_refl _
  | succ m ih =>
    by_cases e : q = m + 1
    · subst e; exact Nat.le_refl _
    · have := ih (by omega)
      rw [laneL_succ, List.length_append]; omega
theorem lane_upd (F : Nat → List Pk) (L : List Pk) (q : Nat) : ∀ m, m ≤ q → laneL (upd F (pr q) L) m = laneL F m
  | 0, _ => rfl
  | m + 1, h => by rw [laneL_succ, laneL_succ, lane_upd F L q m (by omega), upd_other _ _ (fun e => by have := pr_inj e; omega)]
theorem lane_in (F : Nat → List Pk) (L : List Pk) (q : Nat) : ∀ m, laneL (upd F (pr q + 2) L) m = laneL F m
  | 0 => rfl
  | m + 1 => by rw [laneL_succ, laneL_succ, lane_in F L q m, upd_other _ _ pr_ne]
theorem lane_found (F : Nat → List Pk) {q k : Nat} {x : Pk} (hx : (F (pr q))[k]? = some x) : ∀ m, q < m →
    (laneL F q).length + k < (laneL F m).length ∧ (laneL F m)[(laneL F q).length + k]? = some x ∧ laneL (upd F (pr q) ((F (pr q)).eraseIdx k)) m = (laneL F m).eraseIdx ((laneL F q).length + k)
  | 0, h => by omega
  | m + 1, h => by
    have hk : k < (F (pr q)).length := (List.getElem?_eq_some_iff.1 hx).1
    rw [laneL_succ, laneL_succ]
    by_cases hi : q < m
    · obtain ⟨h1, h2, h3⟩ := lane_found F hx m hi
      refine ⟨by rw [List.length_append]; omega, by rw [List.getElem?_append_left h1]; exact h2, ?_⟩
      rw [h3, upd_other _ _ (fun e => by have := pr_inj e; omega), List.eraseIdx_append_of_lt_length h1]
    · obtain rfl : q = m := by omega
      rw [lane_upd F _ q q (Nat.le_refl _), upd_same]
      refine ⟨by rw [List.length_append]; omega, ?_, ?_⟩
      · rw [List.getElem?_append_right (by omega), Nat.add_sub_cancel_left]; exact hx
      · rw [List.eraseIdx_append_of_length_le (by omega), Nat.add_sub_cancel_left]
/-- More in one lane's pool. -/
theorem lane_more (F : Nat → List Pk) (L : List Pk) (q : Nat) : ∀ m, q < m → (laneL (upd F (pr q) L) m).length + (F (pr q)).length = (laneL F m).length + L.length
  | 0, h => by omega
  | m + 1, h => by
    rw [laneL_succ, laneL_succ]
    by_cases hi : q < m
    · have := lane_more F L q m hi
      rw [upd_other _ _ (fun e => by have := pr_inj e; omega)]
      simp only [List.length_append]; omega
    · obtain rfl : q = m := by omega
      rw [lane_upd F _ q q (Nat.le_refl _), upd_same]
      simp only [List.length_append]; omega
theorem lane_at (F : Nat → List Pk) : ∀ (m a : Nat), a < (laneL F m).length → ∃ q k x, q < m ∧ (F (pr q))[k]? = some x ∧ a = (laneL F q).length + k
  | 0, a, h => by simp [laneL] at h
  | m + 1, a, h => by
    by_cases hm : a < (laneL F m).length
    · obtain ⟨q, k, x, h1, h2, h3⟩ := lane_at F m a hm
      exact ⟨q, k, x, by omega, h2, h3⟩
    · rw [laneL_succ, List.length_append] at h
      exact ⟨m, a - (laneL F m).length, _, by omega, List.getElem?_eq_getElem (by omega), by omega⟩

/-- The room of a row. -/
def Rm (out inn : Int) (q : Nat) : Int := if q % 4 = 2 then inn else if q % 4 = 3 then 1 else out
theorem Rm_out {out inn : Int} {q : Nat} : Rm out inn (pr q) = out := by
  unfold Rm pr; rw [if_neg (by omega), if_neg (by omega)]
/-- A packet that may be under way between so many nodes. -/
structure Good (nn : Nat) (x : Pk) : Prop where
  r : x.right = true
  f : x.f < nn
  t : x.t < nn
  z : R64 x.z
/-- The lane that a packet leaves by, and that which it comes by. -/
def sortN (x : Pk) : Nat := if inB 1 x.k 6 = true then 0 else 1
theorem sortN_lt (x : Pk) : sortN x < 2 := by unfold sortN; split <;> omega
def fromQ (x : Pk) : Nat := 2 * x.f.toNat + sortN x
def toQ (x : Pk) : Nat := 2 * x.t.toNat + sortN x
theorem Good.fq {nn : Nat} {x : Pk} (h : Good nn x) : fromQ x < 2 * nn ∧ (x.f.toNat : Int) = x.f ∧ x.f.toNat < nn := by
  have := ((Pk.right_iff x).1 h.r).f
  have := h.f
  have := sortN_lt x
  unfold fromQ
  omega
theorem Good.tq {nn : Nat} {x : Pk} (h : Good nn x) : toQ x < 2 * nn ∧ (x.t.toNat : Int) = x.t ∧ x.t.toNat < nn := by
  have := ((Pk.right_iff x).1 h.r).t
  have := h.t
  have := sortN_lt x
  unfold toQ
  omega
/-- A network at block gf; its lanes at block gl; all its memory is of B. -/
structure FbI (w : World) (gf nn : Nat) (out inn : Int) (F : Nat → List Pk) (B : Nat → Prop) (gl go cap : Nat) (G : Nat → Nat) (M D : Nat → Nat → Prop) : Prop where
  fc : w.cell? ⟨gf, 0, none⟩ = some (.slice (some ⟨gl, go, none⟩) (2 * nn) cap)
  lp : ∀ q, q < 2 * nn → w.cell? ⟨gl, go + q * 2, none⟩ = some (.pointer (some ⟨G (pr q), 0, none⟩))
  lq : ∀ q, q < 2 * nn → w.cell? ⟨gl, go + q * 2 + 1, none⟩ = some (.pointer (some ⟨G (pr q + 2), 0, none⟩))
  cp : 2 * nn ≤ cap ∧ cap ≤ maxLen
  many : Many w (4 * nn) G M D (Rm out inn) F (fun k => k = gf ∨ k = gl)
  good : ∀ q, q < 4 * nn → ∀ x ∈ F q, Good nn x
  rooms : ∀ q, q < 4 * nn → ((F q).length : Int) ≤ Rm out inn q
  mem : ∀ q, q < 4 * nn → ∀ k, M q k ∨ D q k → B k
  mf : B gf
  ml : B gl
  old : ∀ k, B k → k < w.heap.size
  n0 : 1 ≤ nn
  n1 : nn ≤ 6
  o0 : 1 ≤ out
  o1 : out ≤ 1000
  i0 : 1 ≤ inn
  i1 : inn ≤ 1000
def Fb (w : World) (gf nn : Nat) (out inn : Int) (F : Nat → List Pk) (B : Nat → Prop) : Prop := ∃ gl go cap G M D, FbI w gf nn out inn F B gl go cap G M D
theorem FbI.keep {w w' : World} {gf nn : Nat} {out inn : Int} {F : Nat → List Pk} {B X : Nat → Prop} {gl go cap : Nat} {G : Nat → Nat} {M D : Nat → Nat → Prop} (h : FbI w gf nn out inn F B gl go cap G M D) (hk : Keep X w w') (hX : ∀ k, B k → ¬ X k) : FbI w' gf nn out inn F B gl go cap G M D :=
  ⟨by rw [hk.cell _ (h.old _ h.mf) (hX _ h.mf)]; exact h.fc, fun q hq => by rw [hk.cell _ (h.old _ h.ml) (hX _ h.ml)]; exact h.lp q hq, fun q hq => by rw [hk.cell _ (h.old _ h.ml) (hX _ h.ml)]; exact h.lq q hq, h.cp,
    h.many.keep hk (fun q hq k hm => hX k (h.mem q hq k hm)), h.good, h.rooms, h.mem, h.mf, h.ml, fun k hb => Nat.lt_of_lt_of_le (h.old k hb) hk.size, h.n0, h.n1, h.o0, h.o1, h.i0, h.i1⟩
theorem Fb.keep {w w' : World} {gf nn : Nat} {out inn : Int} {F : Nat → List Pk} {B X : Nat → Prop} (h : Fb w gf nn out inn F B) (hk : Keep X w w') (hX : ∀ k, B k → ¬ X k) : Fb w' gf nn out inn F B := by
  obtain ⟨gl, go, cap, G, M, D, h⟩ := h
  exact ⟨gl, go, cap, G, M, D, h.keep hk hX⟩
theorem Fb.below {w w' : World} {gf nn : Nat} {out inn : Int} {F : Nat → List Pk} {B : Nat → Prop} (h : Fb w gf nn out inn F B) (hb : Below w.heap.size w w') : Fb w' gf nn out inn F B :=
  h.keep (X := fun _ => False) (Keep.of_below hb) (fun _ _ h => h)
theorem FbI.below {w w' : World} {gf nn : Nat} {out inn : Int} {F : Nat → List Pk} {B : Nat → Prop} {gl go cap : Nat} {G : Nat → Nat} {M D : Nat → Nat → Prop} (h : FbI w gf nn out inn F B gl go cap G M D) (hb : Below w.heap.size w w') : FbI w' gf nn out inn F B gl go cap G M D :=
  h.keep (X := fun _ => False) (Keep.of_below hb) (fun _ _ h => h)
/-- One of its rows is turned. -/
theorem FbI.step {w w' : World} {gf nn q : Nat} {out inn : Int} {F : Nat → List Pk} {B : Nat → Prop} {gl go cap : Nat} {G : Nat → Nat} {M D : Nat → Nat → Prop} {M' D' : Nat → Prop} {L : List Pk} (h : FbI w gf nn out inn F B gl go cap G M D) (hq : q < 4 * nn) (hk : Keep (M q) w w') (hqu : Qu w' (G q) M' D' (Rm out inn q) L)
    (hM : ∀ k, M' k → M q k ∨ w.heap.size ≤ k) (hD : ∀ k, D' k → D q k ∨ w.heap.size ≤ k) (hg : ∀ x ∈ L, Good nn x) (hr : (L.length : Int) ≤ Rm out inn q) :
    Keep B w w' ∧ FbI w' gf nn out inn (upd F q L) (fun k => B k ∨ (w.heap.size ≤ k ∧ k < w'.heap.size)) gl go cap G (upd M q M') (upd D q D') := by
  have nf : ¬ M q gf := fun hm => h.many.nz q hq gf (.inl hm) (.inl rfl)
  have nl : ¬ M q gl := fun hm => h.many.nz q hq gl (.inl hm) (.inr rfl)
  have hm := h.many.step hq hk hqu hM hD (fun k hz => by rcases hz with rfl | rfl <;> first | exact h.old _ h.mf | exact h.old _ h.ml)
  refine ⟨hk.mono (fun k _ hm => h.mem q hq k (.inl hm)), ⟨by rw [hk.cell _ (h.old _ h.mf) nf]; exact h.fc, fun q hq => by rw [hk.cell _ (h.old _ h.ml) nl]; exact h.lp q hq, fun q hq => by rw [hk.cell _ (h.old _ h.ml) nl]; exact h.lq q hq, h.cp,
    hm, fun y hy x hx => ?_, fun y hy => ?_, fun y hy k hyk => ?_, .inl h.mf, .inl h.ml, fun k hb => ?_, h.n0, h.n1, h.o0, h.o1, h.i0, h.i1⟩⟩
  · by_cases e : y = q
    · subst e; rw [upd_same] at hx; exact hg x hx
    · rw [upd_other _ _ e] at hx; exact h.good y hy x hx
  · by_cases e : y = q
    · subst e; rw [upd_same]; exact hr
    · rw [upd_other _ _ e]; exact h.rooms y hy
  · have hlt := hm.old hy hyk
    by_cases e : y = q
    · subst e
      rw [upd_same, upd_same] at hyk
      rcases hyk with hyk | hyk
      · rcases hM k hyk with hk' | hk'
        · exact .inl (h.mem y hy k (.inl hk'))
        · exact .inr ⟨hk', hlt⟩
      · rcases hD k hyk with hk' | hk'
        · exact .inl (h.mem y hy k (.inr hk'))
        · exact .inr ⟨hk', hlt⟩
    · rw [upd_other _ _ e, upd_other _ _ e] at hyk
      exact .inl (h.mem y hy k hyk)
  · rcases hb with hb | hb
    · exact Nat.lt_of_lt_of_le (h.old k hb) hk.size
    · exact hb.2

/-- What Send makes of a network: the answer, the rows. -/
inductive SendTo (nn : Nat) (out : Int) (F : Nat → List Pk) (x : Pk) : Int → (Nat → List Pk) → Prop
  | no : x.right = false → SendTo nn out F x 1 F
  | far : x.right = true → ((nn : Int) ≤ x.f ∨ (nn : Int) ≤ x.t) → SendTo nn out F x 1 F
  | full : x.right = true → x.f < nn → x.t < nn → ((F (pr (fromQ x))).length : Int) = out → SendTo nn out F x 5 F
  | ok : x.right = true → x.f < nn → x.t < nn → ((F (pr (fromQ x))).length : Int) < out → SendTo nn out F x 0 (upd F (pr (fromQ x)) (F (pr (fromQ x)) ++ [x]))
/-- What Deliver makes of it. -/
inductive DelTo (nn : Nat) (out inn : Int) (F : Nat → List Pk) (a bit mask : Int) : Int → (Nat → List Pk) → Prop
  | none : (a < 0 ∨ ((laneL F (2 * nn)).length : Int) ≤ a) → DelTo nn out inn F a bit mask 3 F
  | form (q k : Nat) (x : Pk) : q < 2 * nn → (F (pr q))[k]? = some x → a = ((laneL F q).length : Int) + k → wireB x bit mask = false → DelTo nn out inn F a bit mask 2 F
  | full (q k : Nat) (x : Pk) : q < 2 * nn → (F (pr q))[k]? = some x → a = ((laneL F q).length : Int) + k → wireB x bit mask = true → ((F (pr (toQ x) + 2)).length : Int) = Rm out inn (pr (toQ x) + 2) → DelTo nn out inn F a bit mask 5 F
  | ok (q k : Nat) (x : Pk) : q < 2 * nn → (F (pr q))[k]? = some x → a = ((laneL F q).length : Int) + k → wireB x bit mask = true → ((F (pr (toQ x) + 2)).length : Int) < Rm out inn (pr (toQ x) + 2) →
      DelTo nn out inn F a bit mask 0 (upd (upd F (pr (toQ x) + 2) (F (pr (toQ x) + 2) ++ [x])) (pr q) ((F (pr q)).eraseIdx k))
end Go.Proofs.Ytjdbjmfkheffdaa
end
section
namespace Go.Proofs.Ytjdbjmfkheffdaa
open Go.RowKit
set_option linter.unusedVariables false

section
variable {P : Program} {ops : Array Oper} {Q : Exit → Act → World → Prop} {w0 : World} {X : List Nat}

/-- Whatever order is picked from here on; behind each operation but those of X the world is above w0, and may grow. -/
def wpAnyX (P : Program) (ops : Array Oper) (Q : Exit → Act → World → Prop) (w0 : World) (X : List Nat) : Nat → Array Bool → Act → World → Prop
  | 0, listed, a, w => Region.ready .any ops listed = [] ∧ Q .normal a w
  | fuel + 1, listed, a, w =>
    (Region.ready .any ops listed = [] → Q .normal a w) ∧
    ∀ i ∈ Region.ready .any ops listed, wpOp P ops Q i (fun a' w' => (X.contains i = true ∧ wpAny P .any ops Q fuel (listed.setIfInBounds i true) a' w') ∨ (Below w0.heap.size w0 w' ∧ ∀ u : Up w', wpAnyX P ops Q w0 X fuel (listed.setIfInBounds i true) a' u.1)) a w
theorem wpAny_of_x : ∀ (fuel : Nat) (listed : Array Bool) (a : Act) (w : World), wpAnyX P ops Q w0 X fuel listed a w → wpAny P .any ops Q fuel listed a w
  | 0, _, _, _, h => h
  | fuel + 1, _, _, _, h => ⟨h.1, fun i hi => wpOp_mono (fun a' w' h' => h'.elim (fun h => h.2) fun h' => wpAny_of_x fuel _ a' w' (h'.2 (Up.self _))) (h.2 i hi)⟩
/-- Operation j waits for i. -/
def waitsOn (ops : Array Oper) (j i : Nat) : Bool := ((ops[j]?).map fun o => o.after.any fun e => Region.binds .any e && e.on == i).getD false
theorem waitsOn_spec {j i : Nat} (h : waitsOn ops j i = true) {oj : Oper} (hj : ops[j]? = some oj) : ∃ e ∈ oj.after, Region.binds .any e = true ∧ e.on = i := by
  unfold waitsOn at h
  rw [hj] at h
  simp at h
  obtain ⟨k, hk, h2, h3⟩ := h
  exact ⟨oj.after[k], Array.getElem_mem hk, h2, h3⟩
theorem wpAnyX_first {i : Nat} {oi : Oper} {v : Value} (hwa : X.all (fun j => waitsOn ops j i) = true) (hi : ops[i]? = some oi) (hsel : ∀ (j : Nat) (o : Oper) cs b, ops[j]? = some o → o.op ≠ .select cs b)
    (hQ : ∀ c a w, Q (.panic c) (a.put oi.dst v) w → Q (.panic c) a w) :
    ∀ (fuel : Nat) (listed : Array Bool) (a : Act) (W : Up w0),
      (∀ j oj, ops[j]? = some oj → j ≠ i → listed.getD j true = false → (∀ e ∈ oj.after, Region.binds .any e = true → e.on ≠ i) → oi.apart ops oj = true) →
      i ∈ Region.ready .any ops listed → Mild P ops w0 oi v a →
      (∀ u : Up W.1, wpAnyX P ops Q w0 X fuel (listed.setIfInBounds i true) (a.put oi.dst v) u.1) → wpAnyX P ops Q w0 X (fuel + 1) listed a W.1 := by
  intro fuel
  induction fuel with
  | zero =>
    intro listed a W _ hr hy H
    refine ⟨fun h => (by rw [h] at hr; cases hr), fun j hj => ?_⟩
    by_cases hji : j = i
    · subst hji; exact hy.wpOp hi W fun u => .inr ⟨(W.trans u).2, fun u' => H (u.trans u')⟩
    · have := ready_mono hj hji
      rw [(H (Up.self _)).1] at this
      cases this
  | succ fuel ih =>
    intro listed a W hfree hr hy H
    refine ⟨fun h => (by rw [h] at hr; cases hr), fun j hj => ?_⟩
    by_cases hji : j = i
    · subst hji; exact hy.wpOp hi W fun u => .inr ⟨(W.trans u).2, fun u' => H (u.trans u')⟩
    · have h1 := (H (Up.self _)).2 j (ready_mono hj hji)
      obtain ⟨hjun, oj, hoj, hall⟩ := mem_ready.1 hj
      have hnot : ∀ e ∈ oj.after, Region.binds .any e = true → e.on ≠ i := fun e he hb heq => by
        have g1 := hall e he hb
        have g0 := (mem_ready.1 hr).1
        rw [heq] at g1
        rcases Nat.lt_or_ge i listed.size with h' | h'
        · simp [h'] at g0 g1; rw [g0] at g1; cases g1
        · simp [Array.getElem?_eq_none h'] at g1
      have h2 := wpOp_mild hoj (hfree j oj hoj hji hjun hnot) (fun cs b => hsel i oi cs b hi) (fun cs b => hsel j oj cs b hoj) hQ hy h1
      have hfree' : ∀ k ok, ops[k]? = some ok → k ≠ i → (listed.setIfInBounds j true).getD k true = false →
          (∀ e ∈ ok.after, Region.binds .any e = true → e.on ≠ i) → oi.apart ops ok = true := fun k ok hk hki hun hno => by
        refine hfree k ok hk hki ?_ hno
        by_cases hjk : j = k
        · subst hjk; exact hjun
        · rw [getD_set_ne true hjk] at hun; exact hun
      have hri : i ∈ Region.ready .any ops (listed.setIfInBounds j true) := ready_mono hr (Ne.symm hji)
      have hjx : X.contains j = false := by
        cases hc : X.contains j
        · rfl
        · exfalso
          have hm : j ∈ X := by simpa using hc
          obtain ⟨e, he, hb, hon⟩ := waitsOn_spec (List.all_eq_true.1 hwa j hm) hoj
          exact hnot e he hb hon
      refine wpOp_mono (fun a' w' h3 => ?_) h2
      obtain ⟨hy', h3⟩ := h3
      rcases h3 with ⟨hx, _⟩ | ⟨hB, h3⟩
      · rw [hjx] at hx; cases hx
      refine .inr ⟨hB, fun u => ?_⟩
      refine ih (listed.setIfInBounds j true) a' ⟨u.1, next hB u.2⟩ hfree' hri hy' fun u' => ?_
      rw [Array.setIfInBounds_comm _ _ hji]
      exact h3 (u.trans u')

/-- The region, from here on, in every world above w0. -/
def MildX (P : Program) (ops : Array Oper) (Q : Exit → Act → World → Prop) (w0 : World) (X : List Nat) (fuel : Nat) (listed : Array Bool) (a : Act) : Prop :=
  ∀ W : Up w0, wpAnyX P ops Q w0 X fuel listed a W.1
theorem any_mildx (X : List Nat) {fuel : Nat} {listed : Array Bool} {a : Act} {w : World} (h : MildX P ops Q w X fuel listed a) : wpAny P .any ops Q fuel listed a w :=
  wpAny_of_x (w0 := w) (X := X) _ _ _ _ (h (Up.self w))
theorem mildx_take (i : Nat) {l rest : List Oper} {oi : Oper} {v : Value} {fuel : Nat} {listed : Array Bool} {a : Act} (hd : l.drop i = oi :: rest) (hs : Region.noSelect l.toArray = true) (hwa : X.all (fun j => waitsOn l.toArray j i) = true)
    (hf : Region.free .any l.toArray listed i = true) (hr : (Region.ready .any l.toArray listed).contains i = true) (hQ : ∀ c a w, Q (.panic c) (a.put oi.dst v) w → Q (.panic c) a w)
    (hw : Region.wanted oi (yielded l.toArray a.tmps) = true) (hy : ∀ (W : Up w0) (K : Act → Prop), K (a.put oi.dst v) → oi.quiet P a (fun w' => ∃ u : Up W.1, w' = u.1) K)
    (h : MildX P l.toArray Q w0 X fuel (listed.setIfInBounds i true) (a.put oi.dst v)) : MildX P l.toArray Q w0 X (fuel + 1) listed a := fun W =>
  wpAnyX_first hwa (of_drop hd) (Region.noSelect_spec hs) hQ fuel listed a W (Region.free_spec (of_drop hd) hf) (by simpa using hr) (.inl ⟨hw, hy⟩) fun u => h (W.trans u)
/-- One of the operations that only make memory, alone. -/
theorem upx_list (i : Nat) {l rest : List Oper} {oi : Oper} {fuel : Nat} {listed : Array Bool} {a : Act} {w : World} (hr : Region.ready .any l.toArray listed = [i]) (hd : l.drop i = oi :: rest)
    (h : wpList P l.toArray (Then (fun a' w' => Below w0.heap.size w0 w' ∧ ∀ u : Up w', wpAnyX P l.toArray Q w0 X fuel (listed.setIfInBounds i true) a' u.1) Q) [oi] a w) : wpAnyX P l.toArray Q w0 X (fuel + 1) listed a w :=
  ⟨fun h0 => (by rw [hr] at h0; cases h0), (by rw [hr]; intro j hj; rw [List.mem_singleton] at hj; subst hj; exact wpOp_mono (fun _ _ h => .inr h) (op_list j hd h))⟩
theorem upx_write (i : Nat) {l rest : List Oper} {oi : Oper} {fuel : Nat} {listed : Array Bool} {a : Act} {w : World} (hr : Region.ready .any l.toArray listed = [i]) (hx : X.contains i = true) (hd : l.drop i = oi :: rest)
    (h : wpList P l.toArray (Then (fun a' w' => wpAny P .any l.toArray Q fuel (listed.setIfInBounds i true) a' w') Q) [oi] a w) : wpAnyX P l.toArray Q w0 X (fuel + 1) listed a w :=
  ⟨fun h0 => (by rw [hr] at h0; cases h0), (by rw [hr]; intro j hj; rw [List.mem_singleton] at hj; subst hj; exact wpOp_mono (fun _ _ h => .inl ⟨hx, h⟩) (op_list j hd h))⟩
end
end Go.Proofs.Ytjdbjmfkheffdaa
end
section
namespace Go.Proofs.Ytjdbjmfkheffdaa
open Go.RowKit
set_option linter.unusedVariables false
namespace P

theorem qu_new (w : World) (room : Int) : Qu (w.alloc (.cells #[.int .i64 room, .slice none 0 0] 93)) w.heap.size (fun k => k = w.heap.size) (fun _ => False) room [] :=
  ⟨[], none, 0, by simp, by simp, fun o => (by simp), by simp, rfl, rfl, rw_nil _ _ _, fun r hr => (by cases hr), fun k hk => (by rcases hk with rfl | h <;> simp_all), fun k _ h => h⟩
theorem new_any (room : Int) (w : World) :
    Calls Try.prog 29 #[.int .i64 room] w fun e w' => e = .returned (.pointer (some ⟨w.heap.size, 0, none⟩)) ∧ Below w.heap.size w w' ∧ Qu w' w.heap.size (fun k => k = w.heap.size) (fun _ => False) (max room 0) [] := by
  go_enter Try.func29, Try.ntmps29
  go_wp2
  · go_ret
    refine ⟨rfl, ba (Below.refl _ _), ?_⟩
    rw [Int.max_eq_right (by omega)]
    exact qu_new w 0
  · go_ret
    refine ⟨rfl, ba (Below.refl _ _), ?_⟩
    rw [Int.max_eq_left (by omega)]
    exact qu_new w room

theorem len_any (w : World) {g : Nat} {M D : Nat → Prop} {room : Int} {L : List Pk} (h : Qu w g M D room L) :
    Calls Try.prog 62 #[.pointer (some ⟨g, 0, none⟩)] w fun e w' => e = .returned (.int .i64 L.length) ∧ w = w' := by
  obtain ⟨R, a, cap, h⟩ := h
  obtain ⟨c0, c1, fz, lt, _, _, row, _⟩ := h
  have hle := row.le
  have hmx := row.max
  clear row
  go_enter Try.func62, Try.ntmps62
  go_wp2
  go_ret
  exact ⟨rfl, rfl⟩
theorem room_any (w : World) {g : Nat} {M D : Nat → Prop} {room : Int} {L : List Pk} (h : Qu w g M D room L) (h0 : 0 ≤ room) (h1 : room ≤ 1000000000) :
    Calls Try.prog 65 #[.pointer (some ⟨g, 0, none⟩)] w fun e w' => e = .returned (.int .i64 (room - L.length)) ∧ ∃ k, w' = w.drewN k := by
  obtain ⟨R, a, cap, h⟩ := h
  obtain ⟨c0, c1, fz, lt, _, _, row, _⟩ := h
  have hle := row.le
  have hmx := row.max
  unfold maxLen at hmx
  clear row
  go_enter Try.func65, Try.ntmps65
  go_wp2_with fail
  go_quiet (fail)
  go_wp2
  go_ret
  exact ⟨rfl, _, rfl⟩
theorem len_n (w : World) {g : Nat} {M D : Nat → Prop} {room : Int} {L : List Pk} (h : Qu w g M D room L) (n : Int) (hn : (L.length : Int) = n) :
    Calls Try.prog 62 #[.pointer (some ⟨g, 0, none⟩)] w fun e w' => e = .returned (.int .i64 n) ∧ w = w' := by
  subst hn; exact len_any w h
theorem room_n (w : World) {g : Nat} {M D : Nat → Prop} {room : Int} {L : List Pk} (h : Qu w g M D room L) (h0 : 0 ≤ room) (h1 : room ≤ 1000000000) (n : Int) (hn : room - L.length = n) :
    Calls Try.prog 65 #[.pointer (some ⟨g, 0, none⟩)] w fun e w' => e = .returned (.int .i64 n) ∧ ∃ k, w' = w.drewN k := by
  subst hn; exact room_any w h h0 h1

/-- Words of their own. -/
theorem alone_any (x : Pk) (a : Option Addr) (n cap : Nat) (w : World) (hsl : Sl w a n cap x.z) (hn : n ≤ 17592186044416) :
    Calls Try.prog 56 #[x.val (.slice a n cap)] w fun e w' => ∃ v, e = .returned (x.val v) ∧ Own w' w.heap.size v x.z ∧ Below w.heap.size w w' := by
  obtain ⟨i0, hi, hz0, hz1, hz2⟩ := info_parts Try.infoInt
  obtain ⟨hl, hle, hmx, hnil, hr⟩ := hsl
  unfold Pk.val
  cases a with
  | none =>
    obtain rfl : cap = 0 := hnil rfl
    obtain rfl : n = 0 := by omega
    have HZ : Hid (x.z = []) := List.eq_nil_of_length_eq_zero hl
    clear hr hnil
    go_enter Try.func56, Try.ntmps56
    go_wp2_with (at_builtin; refine wpList_append_own_none rfl _ _ 22 rfl w.heap.size 3 i0 1 Try.underlying22 hi _ 0 [] rfl (World.ownsRow_nil _ _ _ _) rfl ?_)
    refine bodyPost_ret (v := x.val (.slice none 0 0)) (by simp [results, Try.results56, go_sem, *]) rfl ⟨_, rfl, by rw [HZ.out]; exact own_nil _ _, ?_⟩
    exact ba (ba (Below.refl _ _))
  | some y =>
    clear hnil
    go_enter Try.func56, Try.ntmps56
    go_wp2_with (at_builtin; refine wpList_append_own _ rfl _ _ 22 rfl (w.heap.size + 2) 3 i0 (.int .i64 0) 1 8 Try.underlying22 hi hz0 hz1 hz2 rfl (by decide) _ 0 [] rfl (World.ownsRow_nil _ _ _ _) y n cap (cells x.z) rfl (by simp [cells, hl]) (Row.below hr (ba (ba (Below.refl _ _)))).cellsAt (cells_one x.z) (by omega) (by omega) (by simp) ?_; intro v' w1 hown hgrow hiff; clear hiff; have hown' : Own w1 (w.heap.size + 2) v' x.z := (by simpa [Own, hl] using hown); obtain ⟨a', c', rfl, hs'⟩ := hown'.sl' hl; clear hown; have hb1 := below_new hgrow; clear hgrow; have bx1 := ((Bx.made w x (.slice (some y) n cap)).next (ba (Below.refl _ _))).next hb1; have bx2 := (Bx.made' (w.alloc (.cells #[.int .i64 x.k, .int .i64 x.f, .int .i64 x.t, .int .i64 x.i, .int .i64 x.l, .int .i64 x.p, .int .i64 x.s, .bool x.fl, .slice (some y) n cap] 26)) zeroPk (.slice none 0 0) (w.heap.size + 1) (by simp)).next hb1; obtain ⟨p0, p1, p2, p3, p4, p5, p6, p7, p8, pf, pl⟩ := bx1; obtain ⟨q0, q1, q2, q3, q4, q5, q6, q7, q8, qf, ql⟩ := bx2; simp only [zeroPk] at q0 q1 q2 q3 q4 q5 q6 q7 q8)
    refine bodyPost_ret (v := x.val (.slice a' n c')) (by simp [results, Try.results56, go_sem, *]) rfl ⟨_, rfl, ?_, ?_⟩
    · refine Own.low (base := w.heap.size + 2) ?_ (by omega)
      exact far9 (g := w.heap.size + 1) (y := x) (v := .slice a' n c') (W := w1.setCell ⟨w.heap.size, 8, none⟩ (.slice a' n c')) (P := fun V => Own V (w.heap.size + 2) (.slice a' n c') x.z) (fun V o u h => h.set (by simp) u) (hown'.set (by simp only; omega) _)
    · exact far9 (g := w.heap.size + 1) (y := x) (v := .slice a' n c') (W := w1.setCell ⟨w.heap.size, 8, none⟩ (.slice a' n c')) (P := fun V => Below w.heap.size w V) (fun V o u h => h.setCell (by simp) u) ((next (ba (ba (Below.refl _ _))) hb1).setCell (by simp) _)
end P
end Go.Proofs.Ytjdbjmfkheffdaa
end
section
namespace Go.Proofs.Ytjdbjmfkheffdaa
open Go.RowKit
set_option linter.unusedVariables false
namespace P

theorem has_yes (w : World) {g : Nat} {M D : Nat → Prop} {room : Int} {L : List Pk} (h : Qu w g M D room L) (at' : Int) (h0 : 0 ≤ at') (h1 : at' < L.length) :
    Calls Try.prog 55 #[.pointer (some ⟨g, 0, none⟩), .int .i64 at'] w fun e w' => e = .returned (.bool true) ∧ w = w' := by
  go_enter Try.func55, Try.ntmps55
  go_wp2_with (go_at_call 62; refine (len_any _ h).mono ?_; rintro e w1 ⟨rfl, rfl⟩)
  go_ret
  exact ⟨rfl, rfl⟩
theorem has_no (w : World) {g : Nat} {M D : Nat → Prop} {room : Int} {L : List Pk} (h : Qu w g M D room L) (at' : Int) (h0 : ¬ (0 ≤ at' ∧ at' < L.length)) :
    Calls Try.prog 55 #[.pointer (some ⟨g, 0, none⟩), .int .i64 at'] w fun e w' => e = .returned (.bool false) ∧ w = w' := by
  by_cases hz : 0 ≤ at'
  · have h1 : (L.length : Int) ≤ at' := by omega
    clear h0
    go_enter Try.func55, Try.ntmps55
    go_wp2_with (go_at_call 62; refine (len_any _ h).mono ?_; rintro e w1 ⟨rfl, rfl⟩)
    go_ret
    exact ⟨ret_bool (decide_eq_false (by omega)), rfl⟩
  · have hz' : at' < 0 := by omega
    clear h0
    go_enter Try.func55, Try.ntmps55
    go_wp2
    go_ret
    exact ⟨rfl, rfl⟩
set_option maxHeartbeats 600000 in
theorem get_none (w : World) {g : Nat} {M D : Nat → Prop} {room : Int} {L : List Pk} (h : Qu w g M D room L) (at' : Int) (h0 : ¬ (0 ≤ at' ∧ at' < L.length)) :
    Calls Try.prog 37 #[.pointer (some ⟨g, 0, none⟩), .int .i64 at'] w fun e w' => e = .returned (.tuple #[zeroPk.val (.slice none 0 0), .bool false]) ∧ Below w.heap.size w w' := by
  have H0 : Hid (¬ (0 ≤ at' ∧ at' < L.length)) := h0
  clear h0
  go_enter Try.func37, Try.ntmps37
  go_wp2_with (go_at_call 55; refine (has_no _ (h.below (ba (Below.refl _ _))) at' H0.out).mono ?_; rintro e w1 ⟨rfl, rfl⟩)
  refine bodyPost_ret (v := .tuple #[zeroPk.val (.slice none 0 0), .bool false]) (by simp [results, Try.results37, go_sem, zeroPk, *]) rfl ⟨rfl, ba (Below.refl _ _)⟩
set_option maxHeartbeats 600000 in
theorem get_some (w : World) {g : Nat} {M D : Nat → Prop} {room : Int} {L : List Pk} (h : Qu w g M D room L) (k : Nat) (x : Pk) (hx : L[k]? = some x) (at' : Int) (hat : at' = (k : Int)) :
    Calls Try.prog 37 #[.pointer (some ⟨g, 0, none⟩), .int .i64 at'] w fun e w' => ∃ d, e = .returned (.tuple #[x.val d, .bool true]) ∧ Below w.heap.size w w' ∧ Own w' w.heap.size d x.z := by
  subst hat
  have hk : k < L.length := (List.getElem?_eq_some_iff.1 hx).1
  have hhas := fun w1 (hb : Below w.heap.size w w1) => has_yes w1 (h.below hb) (k : Int) (by omega) (by omega)
  obtain ⟨R, a, cap, h⟩ := h
  obtain ⟨x', d, b, o, hx', hR, hdat, rfl, hm, hb, ⟨e0, e1, e2, e3, e4, e5, e6, e7, e8⟩, _⟩ := h.prow.get hk
  obtain rfl : x' = x := by rw [hx] at hx'; exact (Option.some.inj hx').symm
  obtain ⟨ad, nd, cd, rfl, hsd, hnd, hdd⟩ := hdat
  have c1 := h.c1
  have glt := h.lt
  have hmx := h.row.max
  have hle := h.row.le
  unfold maxLen at hmx
  have hk1 : (k : Int) < (L.length : Int) := by omega
  clear hdd h hx hx' hR hm
  generalize L.length = N at *
  go_enter Try.func37, Try.ntmps37
  go_wp2_with (first
    | (go_at_call 55; refine (hhas _ (ba (Below.refl _ _))).mono ?_; rintro e w1 ⟨rfl, rfl⟩)
    | (go_at_call 56; refine (alone_any x' ad nd cd _ (hsd.below (ba (Below.refl _ _))) hnd).mono ?_; rintro e w2 ⟨v2, rfl, hown2, hb2⟩; obtain ⟨a2, c2, rfl, hs2⟩ := hown2.sl' hsd.len; clear hs2; have bx := (Bx.made w zeroPk (.slice none 0 0)).next hb2; obtain ⟨q0, q1, q2, q3, q4, q5, q6, q7, q8, qf, ql⟩ := bx; simp only [zeroPk] at q0 q1 q2 q3 q4 q5 q6 q7 q8))
  refine bodyPost_ret (v := .tuple #[x'.val (.slice a2 nd c2), .bool true]) (by simp [results, Try.results37, go_sem, *]) rfl ⟨_, rfl, ?_, ?_⟩
  · exact far9 (g := w.heap.size) (y := x') (v := .slice a2 nd c2) (W := w2) (P := fun V => Below w.heap.size w V) (fun V o u h => h.setCell (by simp) u) (next (ba (Below.refl _ _)) hb2)
  · refine Own.low (base := w.heap.size + 1) ?_ (by omega)
    exact far9 (g := w.heap.size) (y := x') (v := .slice a2 nd c2) (W := w2) (P := fun V => Own V (w.heap.size + 1) (.slice a2 nd c2) x'.z) (fun V o u h => h.set (by simp) u) (by simpa using hown2)
end P
end Go.Proofs.Ytjdbjmfkheffdaa
end
section
namespace Go.Proofs.Ytjdbjmfkheffdaa
open Go.RowKit
set_option linter.unusedVariables false
set_option maxRecDepth 20000

theorem some_setCells (b : Nat) : ∀ (vs : List Value) (o : Nat) (w : World) (p : Addr), (w.cell? p).isSome = true → ((w.setCells b o vs).cell? p).isSome = true
  | [], _, _, _, h => h
  | v :: r, o, w, p, h => some_setCells b r (o + 1) _ p (by
      by_cases e : (⟨b, o, none⟩ : Addr) = p
      · subst e
        rw [World.cell?_setCell_same' _ _ _ h]
        rfl
      · rw [World.cell?_setCell_other _ _ _ _ e]
        exact h)
/-- 'clear' of one element of more than one cell. -/
theorem run_clear_one {P : Program} (w : World) (t e ty : TypeId) (z : Value) (ht : P.underlying t = some (.slice e)) (hv : ∀ w, (zeroValue e).run P w = .ok z w) (zs : List Value) (hz : (Builtin.zeroCells z.cells 1).toList = zs) (h1 : ∀ u ∈ zs, u.oneCell' = true) (b o c : Nat)
    (hc : ∀ j, j < zs.length → (w.cell? ⟨b, o + j, none⟩).isSome = true) (hf : ∀ j, j < zs.length → w.frozen? ⟨b, o + j, none⟩ = false) :
    (Builtin.clear_ #[t] ty #[.slice (some ⟨b, o, none⟩) 1 c]).run P w = .ok (.tuple #[]) (w.setCells b o zs) := by
  have hst := run_storeCells_cells (P := P) b o zs 0 w (by simpa using hc) (by simpa using hf) h1
  simp only [Nat.add_zero] at hst
  simp [Builtin.clear_, run_underlying ht, hv, hz, hst]
theorem zeroPk_val (w : World) : (zeroValue 26).run Try.prog w = .ok (zeroPk.val (.slice none 0 0)) w := by
  obtain ⟨i0, hi, hp0, hp1, hp2⟩ := info_parts Try.infoPk
  simp [zeroValue, typeInfo, hi, hp0]
/-- The row behind both. -/
theorem rw_deleted {w : World} {S : Nat → Prop} {b o n cap k : Nat} {R : List (Pk × Value)} (hr : Rw w S (some ⟨b, o, none⟩) n cap 9 (pflat R)) (hl : R.length = n) (hk : k < n) :
    Rw ((w.setCells b (o + k * 9) (pflat (R.drop (k + 1)))).setCells b (o + (n - 1) * 9) (pcells zeroPk (.slice none 0 0))) S (some ⟨b, o, none⟩) (n - 1) cap 9 (pflat (R.eraseIdx k)) ∧
    Keep (fun j => j = b) w ((w.setCells b (o + k * 9) (pflat (R.drop (k + 1)))).setCells b (o + (n - 1) * 9) (pcells zeroPk (.slice none 0 0))) := by
  have hle := hr.le
  have hm := hr.max
  have kk : Keep (fun j => j = b) w ((w.setCells b (o + k * 9) (pflat (R.drop (k + 1)))).setCells b (o + (n - 1) * 9) (pcells zeroPk (.slice none 0 0))) :=
    Keep.setCells (F := fun j => j = b) (b := b) (.inl rfl) _ _ _ (Keep.setCells (F := fun j => j = b) (b := b) (.inl rfl) _ _ _ (Keep.refl _ _))
  refine ⟨⟨by rw [pflat_len, List.length_eraseIdx_of_lt (by omega), hl], by omega, hm, fun h => (by cases h), ?_⟩, kk⟩
  rcases hr.row with h0 | ⟨b', o', e, hs, hb, hc, hf⟩
  · omega
  · simp at e
    obtain ⟨rfl, rfl⟩ := e
    refine .inr ⟨b, o, rfl, hs, Nat.lt_of_lt_of_le hb kk.size, fun i u hu => ?_, fun i hi => ?_⟩
    · have hlen : (pflat (R.eraseIdx k)).length = (n - 1) * 9 := by rw [pflat_len, List.length_eraseIdx_of_lt (by omega), hl]
      have hi : i < (n - 1) * 9 := by rw [← hlen]; exact (List.getElem?_eq_some_iff.1 hu).1
      rw [World.cell?_setCells_out b _ _ _ ⟨b, o + i, none⟩ (fun _ _ => .inl (by simp only; omega))]
      rw [List.eraseIdx_eq_take_drop_succ, pflat_append] at hu
      have hlt : (pflat (R.take k)).length = k * 9 := by rw [pflat_len, List.length_take, Nat.min_eq_left (by omega)]
      by_cases hik : i < k * 9
      · rw [World.cell?_setCells_out b _ _ _ ⟨b, o + i, none⟩ (fun _ _ => .inl (by simp only; omega))]
        rw [List.getElem?_append_left (by omega)] at hu
        refine hc i u ?_
        rw [show R = R.take k ++ R.drop k from (List.take_append_drop k R).symm, pflat_append, List.getElem?_append_left (by omega)]
        exact hu
      · rw [List.getElem?_append_right (by omega), hlt] at hu
        have hj : i - k * 9 < (pflat (R.drop (k + 1))).length := (List.getElem?_eq_some_iff.1 hu).1
        have hsome : ∀ j, j < (pflat (R.drop (k + 1))).length → (w.cell? ⟨b, o + k * 9 + j, none⟩).isSome = true := fun j hj => by
          rw [pflat_len, List.length_drop] at hj
          rw [Nat.add_assoc]
          exact (hf (k * 9 + j) (by omega)).1
        have := World.cell?_setCells_in b (pflat (R.drop (k + 1))) (o + k * 9) w hsome (i - k * 9) hj
        rw [show o + i = o + k * 9 + (i - k * 9) by omega, this, ← List.getElem?_eq_getElem hj]
        exact hu
    · rw [World.frozen?_setCells, World.frozen?_setCells]
      exact ⟨some_setCells _ _ _ _ _ (some_setCells _ _ _ _ _ (hf i hi).1), (hf i hi).2⟩
set_option maxHeartbeats 600000 in
theorem delete_one (w : World) {S : Nat → Prop} {b o n cap k : Nat} {R : List (Pk × Value)} (hr : Rw w S (some ⟨b, o, none⟩) n cap 9 (pflat R)) (hl : R.length = n) (hk : k < n) (h1 : ∀ r ∈ R, r.2.oneCell' = true) (j : Int) (hj : j = ((k + 1 : Nat) : Int)) :
    Calls Try.prog 61 #[.slice (some ⟨b, o, none⟩) n cap, .int .i64 (k : Int), .int .i64 j] w fun e w' => e = .returned (.slice (some ⟨b, o, none⟩) (n - 1) cap) ∧
      Rw w' S (some ⟨b, o, none⟩) (n - 1) cap 9 (pflat (R.eraseIdx k)) ∧ Keep (fun j => j = b) w w' := by
  subst hj
  obtain ⟨i0, hi, hp0, hp1, hp2⟩ := info_parts Try.infoPk
  have hle := hr.le
  have hm := hr.max
  have HD := rw_deleted (w := w.drew) (S := S) (k := k) (hr.below ((Below.refl _ _).drew)) hl hk
  have hB : Below w.heap.size w w.drew := (Below.refl _ _).drew
  obtain ⟨hc, hf⟩ : (∀ i u, (pflat R)[i]? = some u → w.drew.cell? ⟨b, o + i, none⟩ = some u) ∧ (∀ i, i < cap * 9 → (w.drew.cell? ⟨b, o + i, none⟩).isSome = true ∧ w.drew.frozen? ⟨b, o + i, none⟩ = false) := by
    rcases hr.row with h0 | ⟨b', o', e, hs, hb, hc, hf⟩
    · omega
    · simp at e
      obtain ⟨rfl, rfl⟩ := e
      exact ⟨hc, hf⟩
  obtain ⟨news, hnews⟩ : ∃ news, pflat (R.drop (k + 1)) = news := ⟨_, rfl⟩
  have hlen : news.length = (n - (k + 1)) * 9 := by rw [← hnews, pflat_len, List.length_drop, hl]
  obtain ⟨A, hA, hsrc⟩ : ∃ A : Addr, (if cap = k + 1 then some (⟨b, o, none⟩ : Addr) else some ⟨b, o + (k + 1) * 9, none⟩) = some A ∧ Hid (∀ t u, news[t]? = some u → w.drew.cell? (A.add t) = some u) := by
    by_cases h : cap = k + 1
    · refine ⟨⟨b, o, none⟩, by simp [h], fun t u hu => ?_⟩
      have h0 : news.length = 0 := by rw [hlen]; omega
      rw [List.length_eq_zero_iff.1 h0] at hu
      simp at hu
    · refine ⟨⟨b, o + (k + 1) * 9, none⟩, by simp [h], fun t u hu => ?_⟩
      rw [Addr.add_lit, Nat.add_assoc]
      refine hc _ u ?_
      have hlt : (pflat (R.take (k + 1))).length = (k + 1) * 9 := by rw [pflat_len, List.length_take, Nat.min_eq_left (by omega)]
      rw [show R = R.take (k + 1) ++ R.drop (k + 1) from (List.take_append_drop _ R).symm, pflat_append, hnews, List.getElem?_append_right (by omega), hlt, show (k + 1) * 9 + t - (k + 1) * 9 = t by omega]
      exact hu
  have s1 : Hid (news.length = (n - (k + 1)) * 9) := hlen
  have s2 : Hid (∀ u ∈ news, u.oneCell' = true) := by
    intro u hu
    rw [← hnews] at hu
    obtain ⟨r, hr2, hu2⟩ := List.mem_flatMap.1 hu
    exact pcells_one (h1 r (List.mem_of_mem_drop hr2)) u hu2
  have s3 : Hid (∀ t, t < news.length → (w.drew.cell? ⟨b, o + k * 9 + t, none⟩).isSome = true ∧ w.drew.frozen? ⟨b, o + k * 9 + t, none⟩ = false) := by
    intro t ht
    rw [hlen] at ht
    rw [Nat.add_assoc]
    exact hf _ (by omega)
  obtain ⟨W1, hW1⟩ : ∃ W1, W1 = w.drew.setCells b (o + k * 9) news := ⟨_, rfl⟩
  have e1 : k + (n - (k + 1)) = n - 1 := by omega
  have e2 : n - (n - 1) = 1 := by omega
  have hcl : ∀ ty, (Builtin.clear_ #[53] ty #[.slice (some ⟨b, o + (n - 1) * 9, none⟩) 1 (cap - (n - 1))]).run Try.prog W1 = .ok (.tuple #[]) (W1.setCells b (o + (n - 1) * 9) (pcells zeroPk (.slice none 0 0))) := fun ty =>
    run_clear_one W1 _ _ ty _ Try.underlying53 zeroPk_val _ (by kernel_rfl) (pcells_one rfl) b _ _
      (fun j hj => by rw [hW1, Nat.add_assoc]; exact some_setCells _ _ _ _ _ (hf _ (by simp [pcells] at hj; omega)).1)
      (fun j hj => by rw [hW1, World.frozen?_setCells, Nat.add_assoc]; exact (hf _ (by simp [pcells] at hj; omega)).2)
  have hW : Hid (W1 = w.drew.setCells b (o + k * 9) news) := hW1
  have HD' : Hid (Rw (W1.setCells b (o + (n - 1) * 9) (pcells zeroPk (.slice none 0 0))) S (some ⟨b, o, none⟩) (n - 1) cap 9 (pflat (R.eraseIdx k)) ∧ Keep (fun j => j = b) w.drew (W1.setCells b (o + (n - 1) * 9) (pcells zeroPk (.slice none 0 0)))) := by
    rw [hW1, ← hnews]; exact HD
  have hic : k ≤ cap := by omega
  have hjc : k + 1 ≤ cap := by omega
  have hb1 : 0 ≤ (k : Int) + 1 ∧ (k : Int) + 1 ≤ (n : Int) := by omega
  have hkn : ((k : Int) == ((k + 1 : Nat) : Int)) = false := by simp; omega
  unfold maxLen at hm
  clear hW1 HD hlen hnews hc hf hr h1
  go_enter Try.func61, Try.ntmps61
  go_wp2_with fail
  go_region_law (refine step_append_room rfl (.tmp 22) (.tmp 25) 53 rfl 26 i0 9 Try.underlying53 hi hp1 b o k cap (by simp [Act.eval, Act.put]) A (n - (k + 1)) (cap - (k + 1)) news (by simp [Act.eval, Act.put]) s1.out hsrc.out s2.out (by omega) s3.out ?_; rw [← hW.out])
  go_wp2
  go_ret
  exact ⟨rfl, HD'.out.1, (Keep.of_below hB).trans HD'.out.2 (fun _ _ h => h)⟩
end Go.Proofs.Ytjdbjmfkheffdaa
end
section
namespace Go.Proofs.Ytjdbjmfkheffdaa
open Go.RowKit
set_option linter.unusedVariables false
set_option maxRecDepth 20000
/-- What Remove leaves. -/
theorem QuI.removed {w w3 : World} {g : Nat} {M D : Nat → Prop} {room : Int} {x : Pk} {d : Value} {L : List Pk} {R : List (Pk × Value)} {b o cap k : Nat} (h : QuI w g M D room L R (some ⟨b, o, none⟩) cap) (hk : k < L.length) (hR : R[k]? = some (x, d)) (hm : M b) (hg : b ≠ g)
    (hr : Rw w3 (fun k => M k ∧ k ≠ g) (some ⟨b, o, none⟩) (L.length - 1) cap 9 (pflat (R.eraseIdx k))) (k3 : Keep (fun j => j = b) w w3) :
    QuI (w3.setCell ⟨g, 1, none⟩ (.slice (some ⟨b, o, none⟩) (L.length - 1) cap)) g M D room (L.eraseIdx k) (R.eraseIdx k) (some ⟨b, o, none⟩) cap ∧
    Keep M w (w3.setCell ⟨g, 1, none⟩ (.slice (some ⟨b, o, none⟩) (L.length - 1) cap)) ∧ Dat (w3.setCell ⟨g, 1, none⟩ (.slice (some ⟨b, o, none⟩) (L.length - 1) cap)) D x d := by
  have k4 := Keep.one w3 g 1 (.slice (some ⟨b, o, none⟩) (L.length - 1) cap)
  have c1 : w3.cell? ⟨g, 1, none⟩ = some (.slice (some ⟨b, o, none⟩) L.length cap) := by rw [k3.cell 1 h.lt (fun e => hg e.symm)]; exact h.c1
  have hlen : (L.eraseIdx k).length = L.length - 1 := List.length_eraseIdx_of_lt hk
  have hdat : ∀ r ∈ R, Dat (w3.setCell ⟨g, 1, none⟩ (.slice (some ⟨b, o, none⟩) (L.length - 1) cap)) D r.1 r.2 := fun r hr =>
    ((h.dat r hr).keep k3 (fun k hk e => h.dj k (e ▸ hm) hk)).keep k4 (fun k hk e => h.dj k (e ▸ h.mg) hk)
  refine ⟨?_, ?_, hdat (x, d) (List.mem_of_getElem? hR)⟩
  · constructor
    · rw [World.cell?_setCell_other _ _ _ _ (by simp), k3.cell 0 h.lt (fun e => hg e.symm)]; exact h.c0
    · rw [hlen]; exact World.cell?_setCell_same _ _ _ c1
    · intro q; rw [World.frozen?_setCell, k3.frozen q h.lt (fun e => hg e.symm)]; exact h.fz q
    · exact Nat.lt_of_lt_of_le h.lt (Nat.le_trans k3.size k4.size)
    · exact h.mg
    · rw [← h.eq]; exact (map_eraseIdx' _ R k)
    · rw [hlen]; exact hr.keep k4 (fun k hk => hk.2)
    · exact fun r hr => hdat r (List.mem_of_mem_eraseIdx hr)
    · exact fun k hk => Nat.lt_of_lt_of_le (h.old k hk) (Nat.le_trans k3.size k4.size)
    · exact h.dj
  · exact (k3.mono (fun k _ e => e ▸ hm)).trans k4 (fun k _ e => e ▸ h.mg)
namespace P

set_option maxHeartbeats 600000 in
theorem remove_none (w : World) {g : Nat} {M D : Nat → Prop} {room : Int} {L : List Pk} (h : Qu w g M D room L) (at' : Int) (h0 : ¬ (0 ≤ at' ∧ at' < L.length)) :
    Calls Try.prog 40 #[.pointer (some ⟨g, 0, none⟩), .int .i64 at'] w fun e w' => e = .returned (.tuple #[zeroPk.val (.slice none 0 0), .bool false]) ∧ Below w.heap.size w w' := by
  have H0 : Hid (¬ (0 ≤ at' ∧ at' < L.length)) := h0
  clear h0
  go_enter Try.func40, Try.ntmps40
  go_wp2_with (go_at_call 55; refine (has_no _ (h.below (ba (Below.refl _ _))) at' H0.out).mono ?_; rintro e w1 ⟨rfl, rfl⟩)
  refine bodyPost_ret (v := .tuple #[zeroPk.val (.slice none 0 0), .bool false]) (by simp [results, Try.results40, go_sem, zeroPk, *]) rfl ⟨rfl, ba (Below.refl _ _)⟩
set_option maxHeartbeats 600000 in
theorem remove_some (w : World) {g : Nat} {M D : Nat → Prop} {room : Int} {L : List Pk} (h : Qu w g M D room L) (k : Nat) (x : Pk) (hx : L[k]? = some x) (at' : Int) (hat : at' = (k : Int)) :
    Calls Try.prog 40 #[.pointer (some ⟨g, 0, none⟩), .int .i64 at'] w fun e w' => ∃ d, e = .returned (.tuple #[x.val d, .bool true]) ∧ Keep M w w' ∧ Dat w' D x d ∧ Qu w' g M D room (L.eraseIdx k) := by
  subst hat
  have hk : k < L.length := (List.getElem?_eq_some_iff.1 hx).1
  have hhas := fun w1 (hb : Below w.heap.size w w1) => has_yes w1 (h.below hb) (k : Int) (by omega) (by omega)
  obtain ⟨R, a, cap, h⟩ := h
  obtain ⟨x', d, b, o, hx', hR, hdat, rfl, hm, hb, ⟨e0, e1, e2, e3, e4, e5, e6, e7, e8⟩, _⟩ := h.prow.get hk
  obtain rfl : x' = x := by rw [hx] at hx'; exact (Option.some.inj hx').symm
  obtain ⟨ad, nd, cd, rfl, hsd, hnd, hdd⟩ := hdat
  have c1 := h.c1
  have fz1 := h.fz 1
  have glt := h.lt
  have hmx := h.row.max
  have hle := h.row.le
  have hRl : Hid (R.length = L.length) := by show _ = _; rw [← h.eq]; simp
  have hone : Hid (∀ r ∈ R, r.2.oneCell' = true) := fun r hr => (h.dat r hr).one
  unfold maxLen at hmx
  have hk1 : (k : Int) < (L.length : Int) := by omega
  have hbg := hm.2
  have hbw : w.heap.size ≠ b := by omega
  have hbw1 : w.heap.size + 1 ≠ b := by omega
  have hgb : g ≠ b := Ne.symm hbg
  have HM : Hid (M b ∧ b ≠ g) := hm
  have HQ : Hid (QuI w g M D room L R (some ⟨b, o, none⟩) cap) := h
  have HR : Hid (R[k]? = some (x', .slice ad nd cd)) := hR
  have HK : Hid (k < L.length) := hk
  clear hdd h hx hx' hR hm hsd
  generalize hN : L.length = N at *
  have HN : Hid (L.length = N) := hN
  clear hN
  go_enter Try.func40, Try.ntmps40
  go_wp2_with (first
    | (go_at_call 55; refine (hhas _ (ba (Below.refl _ _))).mono ?_; rintro e w1 ⟨rfl, rfl⟩)
    | (go_at_call 61; have hb2 := ba (o := .cells #[.int .i64 x'.k, .int .i64 x'.f, .int .i64 x'.t, .int .i64 x'.i, .int .i64 x'.l, .int .i64 x'.p, .int .i64 x'.s, .bool x'.fl, .slice ad nd cd] 26) (ba (o := .cells #[.int .i64 0, .int .i64 0, .int .i64 0, .int .i64 0, .int .i64 0, .int .i64 0, .int .i64 0, .bool false, .slice none 0 0] 26) (Below.refl w.heap.size w)); have qi := HQ.out.keep (F := fun _ => False) (Keep.of_below hb2) (fun _ _ h => h); have r2 := qi.row; rw [HN.out] at r2; refine (delete_one _ r2 hRl.out HK.out hone.out _ (by simp)).mono ?_; rintro e w3 ⟨rfl, hrw3, hk3⟩; have bx1 := ((Bx.made w zeroPk (.slice none 0 0)).next (ba (Below.refl _ _))).keep hk3 hbw; have bx2 := (Bx.made' _ x' (.slice ad nd cd) (w.heap.size + 1) (by simp)).keep hk3 hbw1; obtain ⟨p0, p1, p2, p3, p4, p5, p6, p7, p8, pf, pl⟩ := bx1; obtain ⟨q0, q1, q2, q3, q4, q5, q6, q7, q8, qf, ql⟩ := bx2; simp only [zeroPk] at p0 p1 p2 p3 p4 p5 p6 p7 p8; have c3 : w3.cell? ⟨g, 1, none⟩ = some (.slice (some ⟨b, o, none⟩) N cap) := (by rw [hk3.cell 1 (Nat.lt_of_lt_of_le glt hb2.size) hgb, hb2.cell (p := ⟨g, 1, none⟩) glt]; exact c1); have f3 : w3.frozen? ⟨g, 1, none⟩ = false := (by rw [hk3.frozen 1 (Nat.lt_of_lt_of_le glt hb2.size) hgb, hb2.frozen (p := ⟨g, 1, none⟩) glt]; exact fz1)))
  refine bodyPost_ret (v := .tuple #[x'.val (.slice ad nd cd), .bool true]) (by simp [results, Try.results40, go_sem, *]) rfl ⟨_, rfl, ?_⟩
  obtain rfl := HN.out
  obtain ⟨j1, j2, j3⟩ := QuI.removed qi HK.out HR.out HM.out.1 HM.out.2 hrw3 hk3
  have old := HQ.out.old
  exact far9 (g := w.heap.size) (y := x') (v := .slice ad nd cd) (W := w3.setCell ⟨g, 1, none⟩ (.slice (some ⟨b, o, none⟩) (L.length - 1) cap)) (P := fun V => Keep M w V ∧ Dat V D x' (.slice ad nd cd) ∧ Qu V g M D room (L.eraseIdx k))
    (fun V of u h => ⟨h.1.setCell (.inr (Nat.le_refl _)) u, h.2.1.keep (Keep.one V w.heap.size of u) (fun k hk e => by have := old k (.inr hk); omega), h.2.2.keep (Keep.one V w.heap.size of u) (fun k hk e => by have := old k hk; omega)⟩)
    ⟨Keep.pre hb2 j2, j3, ⟨_, _, _, j1⟩⟩
end P
end Go.Proofs.Ytjdbjmfkheffdaa
end
