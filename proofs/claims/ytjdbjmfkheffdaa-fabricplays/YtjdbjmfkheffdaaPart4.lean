/- The contract of packet.read. Conditions: as stated.
The contract of packet.Unpack. Conditions: as stated.
A packet over the wire: packed, spoilt, unpacked. Conditions: as each theorem states them.
A network in memory (Fb): two lanes of each node, each a pool and a queue; what is under way, and where it stands; what Send, Deliver and Take make of it, as plain data. Nothing of the program but packets is named here.
The document's network in memory (DF); the contracts of its Waiting and Room. Conditions: as each theorem states them.
append of a slice that can be read onto a row that may be written, whichever is empty; pieces of slices. Nothing of the program is named here.
A network on the way to be made: its lanes one node after the other (NW). Nothing of the program but packets is named here.
The document's network turned at one row; a row that grows by rows, or by pieces of rows. Conditions: as each theorem states them.
The contracts of packet.Request and Answer, and the walk of PacketKinds: it answers true and writes nothing that was there. No condition. -/
import Derived.Test.YtjdbjmfkheffdaaPart3
import Derived.Test.YtjdbjmfkheffdaaPart2
section
namespace Go.Proofs.Ytjdbjmfkheffdaa
open Go.RowKit
set_option linter.unusedVariables false
set_option maxRecDepth 20000

theorem i64_join {x y : Int} (hx0 : 0 ≤ x) (hx1 : x < 256) (hy0 : 0 ≤ y) (hy1 : y < 256) : bits .or .i64 (x * 256) y = x * 256 + y := by
  obtain ⟨a, rfl⟩ := Int.eq_ofNat_of_zero_le hx0
  obtain ⟨b, rfl⟩ := Int.eq_ofNat_of_zero_le hy0
  have e : bits .or .i64 ((a : Int) * 256) (b : Int) = IntKind.i64.wrap ((BitVec.ofInt 64 ((a : Int) * 256) ||| BitVec.ofInt 64 (b : Int)).toNat : Int) := rfl
  have h1 : (BitVec.ofInt 64 ((a : Int) * 256)).toNat = a * 256 := by
    rw [show ((a : Int) * 256) = ((a * 256 : Nat) : Int) by omega, BitVec.ofInt_natCast, BitVec.toNat_ofNat]; exact Nat.mod_eq_of_lt (by omega)
  have h2 : (BitVec.ofInt 64 (b : Int)).toNat = b := by rw [BitVec.ofInt_natCast, BitVec.toNat_ofNat]; exact Nat.mod_eq_of_lt (by omega)
  rw [e, BitVec.toNat_or, h1, h2, nat_join 8 _ _ (by omega) (by omega), IntKind.wrap_i64]
  omega

set_option maxHeartbeats 1000000 in
set_option maxRecDepth 20000 in
theorem read_any (a : Option Addr) (l : List Int) (n cap m : Nat) (w : World) (hsl : B.Sl w a n cap l) (hn : n = 10 + 8 * m) (hm1 : m ≤ 255) :
    Calls Try.prog 74 #[.slice a n cap] w fun e w' => ∃ a' cap', e = .returned ((readP l).val (.slice a' m cap')) ∧ Own w' w.heap.size (.slice a' m cap') (readP l).z ∧ Below w.heap.size w w' := by
  have HL : Hid (l.length = n) := hsl.len
  have hle := hsl.le
  have hmx := hsl.max
  unfold maxLen at hmx
  obtain ⟨b0, o0, e0, lt0, c0⟩ := hsl.at (k := 0) (by omega)
  obtain ⟨b1, o1, e1, lt1, c1⟩ := hsl.at (k := 1) (by omega)
  obtain ⟨b2, o2, e2, lt2, c2⟩ := hsl.at (k := 2) (by omega)
  obtain ⟨b3, o3, e3, lt3, c3⟩ := hsl.at (k := 3) (by omega)
  obtain ⟨b4, o4, e4, lt4, c4⟩ := hsl.at (k := 4) (by omega)
  obtain ⟨b5, o5, e5, lt5, c5⟩ := hsl.at (k := 5) (by omega)
  obtain ⟨b6, o6, e6, lt6, c6⟩ := hsl.at (k := 6) (by omega)
  obtain ⟨b7, o7, e7, lt7, c7⟩ := hsl.at (k := 7) (by omega)
  obtain ⟨b8, o8, e8, lt8, c8⟩ := hsl.at (k := 8) (by omega)
  subst e0
  simp at e1 e2 e3 e4 e5 e6 e7 e8
  obtain ⟨rfl, rfl⟩ := e1
  obtain ⟨rfl, rfl⟩ := e2
  obtain ⟨rfl, rfl⟩ := e3
  obtain ⟨rfl, rfl⟩ := e4
  obtain ⟨rfl, rfl⟩ := e5
  obtain ⟨rfl, rfl⟩ := e6
  obtain ⟨rfl, rfl⟩ := e7
  obtain ⟨rfl, rfl⟩ := e8
  obtain ⟨x0, y0⟩ := B.B8_get hsl.b8 0
  obtain ⟨x1, y1⟩ := B.B8_get hsl.b8 1
  obtain ⟨x2, y2⟩ := B.B8_get hsl.b8 2
  obtain ⟨x3, y3⟩ := B.B8_get hsl.b8 3
  obtain ⟨x4, y4⟩ := B.B8_get hsl.b8 4
  obtain ⟨x5, y5⟩ := B.B8_get hsl.b8 5
  obtain ⟨x6, y6⟩ := B.B8_get hsl.b8 6
  obtain ⟨x7, y7⟩ := B.B8_get hsl.b8 7
  obtain ⟨x8, y8⟩ := B.B8_get hsl.b8 8
  have hpart := hsl.part 10 n (by omega) (Nat.le_refl _)
  have HZ : Hid ((l.drop 10).take (n - 10) = l.drop 10) := List.take_of_length_le (by have := HL.out; simp; omega)
  have HW : Hid ((readP l).z = wordsN (l.drop 10) m) := by show _ = _; rw [show m = (l.length - 10) / 8 by have := HL.out; omega]; rfl
  rw [HZ.out] at hpart
  replace hpart : B.Sl w (if cap = 10 then some ⟨b0, o0, none⟩ else some ⟨b0, o0 + 10, none⟩) (n - 10) (cap - 10) (l.drop 10) := by
    by_cases hc : cap = 10
    · rw [if_pos hc]
      have hl0 : l.drop 10 = [] := List.drop_eq_nil_of_le (by have := HL.out; omega)
      rw [hl0] at hpart ⊢
      exact ⟨hpart.len, hpart.le, hpart.max, fun e => (by cases e), hpart.b8, .inl rfl⟩
    · rw [if_neg hc]
      exact hpart
  have HP : Hid (readP l = ⟨l[0]?.getD 0, l[1]?.getD 0, l[2]?.getD 0, l[3]?.getD 0 * 256 + l[4]?.getD 0, l[5]?.getD 0, l[6]?.getD 0 - 1, l[7]?.getD 0, l[8]?.getD 0 == 1, (readP l).z⟩) := rfl
  generalize l[0]?.getD 0 = v0 at *
  generalize l[1]?.getD 0 = v1 at *
  generalize l[2]?.getD 0 = v2 at *
  generalize l[3]?.getD 0 = v3 at *
  generalize l[4]?.getD 0 = v4 at *
  generalize l[5]?.getD 0 = v5 at *
  generalize l[6]?.getD 0 = v6 at *
  generalize l[7]?.getD 0 = v7 at *
  generalize l[8]?.getD 0 = v8 at *
  rw [Nat.add_zero] at c0
  have hor := i64_join x3 y3 x4 y4
  clear hsl
  have h10 : (10 : Int) ≤ (n : Int) := by omega
  have h10' : 10 ≤ n := by omega
  have HM : Hid (n = 10 + 8 * m) := hn
  have hB0 : Below w.heap.size w (w.alloc (.cells #[.int .i64 zeroPk.k, .int .i64 zeroPk.f, .int .i64 zeroPk.t, .int .i64 zeroPk.i, .int .i64 zeroPk.l, .int .i64 zeroPk.p, .int .i64 zeroPk.s, .bool zeroPk.fl, .slice none 0 0] 26)) := ba (Below.refl _ _)
  have bx0 := Bx.made w zeroPk (.slice none 0 0)
  have q0 : (0 : Int) < (n : Int) := by omega
  have q1 : (1 : Int) < (n : Int) := by omega
  have q2 : (2 : Int) < (n : Int) := by omega
  have q3 : (3 : Int) < (n : Int) := by omega
  have q4 : (4 : Int) < (n : Int) := by omega
  have q5 : (5 : Int) < (n : Int) := by omega
  have q6 : (6 : Int) < (n : Int) := by omega
  have q7 : (7 : Int) < (n : Int) := by omega
  have q8 : (8 : Int) < (n : Int) := by omega
  clear hn
  go_enter Try.func74, Try.ntmps74
  go_wp2_with fail
  have uc := @Up.cell2
  have uf := @Up.frozen2
  refine wp_region_mildv 44 43 rfl (by kernel_rfl) ?_
  refine mildv_take (v := ?v401) 0 rfl (by kernel_rfl) (by kernel_rfl) (by kernel_rfl) (by kernel_rfl) (fun _ _ _ h => h) (by kernel_rfl) (fun Wu K hK => ?hy401) ?go401
  case hy401 =>
    go_big_quiet_op
    simp only [Act.put, List.setIfInBounds_toArray, List.set_cons_zero, List.set_cons_succ] at hK
    exact hK
  simp only [Act.put, List.setIfInBounds_toArray, List.set_cons_zero, List.set_cons_succ]
  refine mildv_take (v := ?v402) 1 rfl (by kernel_rfl) (by kernel_rfl) (by kernel_rfl) (by kernel_rfl) (fun _ _ _ h => h) (by kernel_rfl) (fun Wu K hK => ?hy402) ?go402
  case hy402 =>
    go_big_quiet_op
    simp only [Act.put, List.setIfInBounds_toArray, List.set_cons_zero, List.set_cons_succ] at hK
    exact hK
  simp only [Act.put, List.setIfInBounds_toArray, List.set_cons_zero, List.set_cons_succ]
  refine mildv_take (v := ?v403) 2 rfl (by kernel_rfl) (by kernel_rfl) (by kernel_rfl) (by kernel_rfl) (fun _ _ _ h => h) (by kernel_rfl) (fun Wu K hK => ?hy403) ?go403
  case hy403 =>
    go_big_quiet_op
    simp only [Act.put, List.setIfInBounds_toArray, List.set_cons_zero, List.set_cons_succ] at hK
    exact hK
  simp only [Act.put, List.setIfInBounds_toArray, List.set_cons_zero, List.set_cons_succ]
  refine mildv_take (v := ?v404) 3 rfl (by kernel_rfl) (by kernel_rfl) (by kernel_rfl) (by kernel_rfl) (fun _ _ _ h => h) (by kernel_rfl) (fun Wu K hK => ?hy404) ?go404
  case hy404 =>
    go_big_quiet_op
    simp only [Act.put, List.setIfInBounds_toArray, List.set_cons_zero, List.set_cons_succ] at hK
    exact hK
  simp only [Act.put, List.setIfInBounds_toArray, List.set_cons_zero, List.set_cons_succ]
  refine mildv_take (v := ?v405) 4 rfl (by kernel_rfl) (by kernel_rfl) (by kernel_rfl) (by kernel_rfl) (fun _ _ _ h => h) (by kernel_rfl) (fun Wu K hK => ?hy405) ?go405
  case hy405 =>
    go_big_quiet_op
    simp only [Act.put, List.setIfInBounds_toArray, List.set_cons_zero, List.set_cons_succ] at hK
    exact hK
  simp only [Act.put, List.setIfInBounds_toArray, List.set_cons_zero, List.set_cons_succ]
  refine mildv_take (v := ?v406) 5 rfl (by kernel_rfl) (by kernel_rfl) (by kernel_rfl) (by kernel_rfl) (fun _ _ _ h => h) (by kernel_rfl) (fun Wu K hK => ?hy406) ?go406
  case hy406 =>
    go_big_quiet_op
    simp only [Act.put, List.setIfInBounds_toArray, List.set_cons_zero, List.set_cons_succ] at hK
    exact hK
  simp only [Act.put, List.setIfInBounds_toArray, List.set_cons_zero, List.set_cons_succ]
  refine mildv_take (v := ?v407) 6 rfl (by kernel_rfl) (by kernel_rfl) (by kernel_rfl) (by kernel_rfl) (fun _ _ _ h => h) (by kernel_rfl) (fun Wu K hK => ?hy407) ?go407
  case hy407 =>
    go_big_quiet_op
    simp only [Act.put, List.setIfInBounds_toArray, List.set_cons_zero, List.set_cons_succ] at hK
    exact hK
  simp only [Act.put, List.setIfInBounds_toArray, List.set_cons_zero, List.set_cons_succ]
  refine mildv_take (v := ?v408) 7 rfl (by kernel_rfl) (by kernel_rfl) (by kernel_rfl) (by kernel_rfl) (fun _ _ _ h => h) (by kernel_rfl) (fun Wu K hK => ?hy408) ?go408
  case hy408 =>
    go_big_quiet_op
    simp only [Act.put, List.setIfInBounds_toArray, List.set_cons_zero, List.set_cons_succ] at hK
    exact hK
  simp only [Act.put, List.setIfInBounds_toArray, List.set_cons_zero, List.set_cons_succ]
  refine mildv_take (v := ?v409) 8 rfl (by kernel_rfl) (by kernel_rfl) (by kernel_rfl) (by kernel_rfl) (fun _ _ _ h => h) (by kernel_rfl) (fun Wu K hK => ?hy409) ?go409
  case hy409 =>
    go_big_quiet_op
    simp only [Act.put, List.setIfInBounds_toArray, List.set_cons_zero, List.set_cons_succ] at hK
    exact hK
  simp only [Act.put, List.setIfInBounds_toArray, List.set_cons_zero, List.set_cons_succ]
  refine mildv_take (v := ?v410) 9 rfl (by kernel_rfl) (by kernel_rfl) (by kernel_rfl) (by kernel_rfl) (fun _ _ _ h => h) (by kernel_rfl) (fun Wu K hK => ?hy410) ?go410
  case hy410 =>
    go_big_quiet_op
    simp only [Act.put, List.setIfInBounds_toArray, List.set_cons_zero, List.set_cons_succ] at hK
    exact hK
  simp only [Act.put, List.setIfInBounds_toArray, List.set_cons_zero, List.set_cons_succ]
  refine mildv_take (v := ?v411) 10 rfl (by kernel_rfl) (by kernel_rfl) (by kernel_rfl) (by kernel_rfl) (fun _ _ _ h => h) (by kernel_rfl) (fun Wu K hK => ?hy411) ?go411
  case hy411 =>
    go_big_quiet_op
    simp only [Act.put, List.setIfInBounds_toArray, List.set_cons_zero, List.set_cons_succ] at hK
    exact hK
  simp only [Act.put, List.setIfInBounds_toArray, List.set_cons_zero, List.set_cons_succ]
  refine mildv_take (v := ?v412) 11 rfl (by kernel_rfl) (by kernel_rfl) (by kernel_rfl) (by kernel_rfl) (fun _ _ _ h => h) (by kernel_rfl) (fun Wu K hK => ?hy412) ?go412
  case hy412 =>
    go_big_quiet_op
    simp only [Act.put, List.setIfInBounds_toArray, List.set_cons_zero, List.set_cons_succ] at hK
    exact hK
  simp only [Act.put, List.setIfInBounds_toArray, List.set_cons_zero, List.set_cons_succ]
  refine mildv_take (v := ?v413) 12 rfl (by kernel_rfl) (by kernel_rfl) (by kernel_rfl) (by kernel_rfl) (fun _ _ _ h => h) (by kernel_rfl) (fun Wu K hK => ?hy413) ?go413
  case hy413 =>
    go_big_quiet_op
    simp only [Act.put, List.setIfInBounds_toArray, List.set_cons_zero, List.set_cons_succ] at hK
    exact hK
  simp only [Act.put, List.setIfInBounds_toArray, List.set_cons_zero, List.set_cons_succ]
  refine mildv_take (v := ?v414) 13 rfl (by kernel_rfl) (by kernel_rfl) (by kernel_rfl) (by kernel_rfl) (fun _ _ _ h => h) (by kernel_rfl) (fun Wu K hK => ?hy414) ?go414
  case hy414 =>
    go_big_quiet_op
    simp only [Act.put, List.setIfInBounds_toArray, List.set_cons_zero, List.set_cons_succ] at hK
    exact hK
  simp only [Act.put, List.setIfInBounds_toArray, List.set_cons_zero, List.set_cons_succ]
  refine mildv_take (v := ?v415) 14 rfl (by kernel_rfl) (by kernel_rfl) (by kernel_rfl) (by kernel_rfl) (fun _ _ _ h => h) (by kernel_rfl) (fun Wu K hK => ?hy415) ?go415
  case hy415 =>
    go_big_quiet_op
    simp only [Act.put, List.setIfInBounds_toArray, List.set_cons_zero, List.set_cons_succ] at hK
    exact hK
  simp only [Act.put, List.setIfInBounds_toArray, List.set_cons_zero, List.set_cons_succ]
  refine mildv_take (v := ?v416) 15 rfl (by kernel_rfl) (by kernel_rfl) (by kernel_rfl) (by kernel_rfl) (fun _ _ _ h => h) (by kernel_rfl) (fun Wu K hK => ?hy416) ?go416
  case hy416 =>
    go_big_quiet_op
    simp only [Act.put, List.setIfInBounds_toArray, List.set_cons_zero, List.set_cons_succ] at hK
    exact hK
  simp only [Act.put, List.setIfInBounds_toArray, List.set_cons_zero, List.set_cons_succ]
  refine mildv_take (v := ?v417) 16 rfl (by kernel_rfl) (by kernel_rfl) (by kernel_rfl) (by kernel_rfl) (fun _ _ _ h => h) (by kernel_rfl) (fun Wu K hK => ?hy417) ?go417
  case hy417 =>
    go_big_quiet_op
    simp only [Act.put, List.setIfInBounds_toArray, List.set_cons_zero, List.set_cons_succ] at hK
    exact hK
  simp only [Act.put, List.setIfInBounds_toArray, List.set_cons_zero, List.set_cons_succ]
  refine mildv_take (v := ?v418) 17 rfl (by kernel_rfl) (by kernel_rfl) (by kernel_rfl) (by kernel_rfl) (fun _ _ _ h => h) (by kernel_rfl) (fun Wu K hK => ?hy418) ?go418
  case hy418 =>
    go_big_quiet_op
    simp only [Act.put, List.setIfInBounds_toArray, List.set_cons_zero, List.set_cons_succ] at hK
    exact hK
  simp only [Act.put, List.setIfInBounds_toArray, List.set_cons_zero, List.set_cons_succ]
  refine mildv_take (v := ?v419) 18 rfl (by kernel_rfl) (by kernel_rfl) (by kernel_rfl) (by kernel_rfl) (fun _ _ _ h => h) (by kernel_rfl) (fun Wu K hK => ?hy419) ?go419
  case hy419 =>
    go_big_quiet_op
    simp only [Act.put, List.setIfInBounds_toArray, List.set_cons_zero, List.set_cons_succ] at hK
    exact hK
  simp only [Act.put, List.setIfInBounds_toArray, List.set_cons_zero, List.set_cons_succ]
  refine mildv_take (v := ?v420) 19 rfl (by kernel_rfl) (by kernel_rfl) (by kernel_rfl) (by kernel_rfl) (fun _ _ _ h => h) (by kernel_rfl) (fun Wu K hK => ?hy420) ?go420
  case hy420 =>
    go_big_quiet_op
    simp only [Act.put, List.setIfInBounds_toArray, List.set_cons_zero, List.set_cons_succ] at hK
    exact hK
  simp only [Act.put, List.setIfInBounds_toArray, List.set_cons_zero, List.set_cons_succ]
  refine mildv_take (v := ?v421) 20 rfl (by kernel_rfl) (by kernel_rfl) (by kernel_rfl) (by kernel_rfl) (fun _ _ _ h => h) (by kernel_rfl) (fun Wu K hK => ?hy421) ?go421
  case hy421 =>
    go_big_quiet_op
    simp only [Act.put, List.setIfInBounds_toArray, List.set_cons_zero, List.set_cons_succ] at hK
    exact hK
  simp only [Act.put, List.setIfInBounds_toArray, List.set_cons_zero, List.set_cons_succ]
  refine mildv_take (v := ?v422) 21 rfl (by kernel_rfl) (by kernel_rfl) (by kernel_rfl) (by kernel_rfl) (fun _ _ _ h => h) (by kernel_rfl) (fun Wu K hK => ?hy422) ?go422
  case hy422 =>
    go_big_quiet_op
    simp only [Act.put, List.setIfInBounds_toArray, List.set_cons_zero, List.set_cons_succ] at hK
    exact hK
  simp only [Act.put, List.setIfInBounds_toArray, List.set_cons_zero, List.set_cons_succ]
  refine mildv_take (v := ?v423) 22 rfl (by kernel_rfl) (by kernel_rfl) (by kernel_rfl) (by kernel_rfl) (fun _ _ _ h => h) (by kernel_rfl) (fun Wu K hK => ?hy423) ?go423
  case hy423 =>
    go_big_quiet_op
    simp only [Act.put, List.setIfInBounds_toArray, List.set_cons_zero, List.set_cons_succ] at hK
    exact hK
  simp only [Act.put, List.setIfInBounds_toArray, List.set_cons_zero, List.set_cons_succ]
  refine mildv_take (v := ?v424) 23 rfl (by kernel_rfl) (by kernel_rfl) (by kernel_rfl) (by kernel_rfl) (fun _ _ _ h => h) (by kernel_rfl) (fun Wu K hK => ?hy424) ?go424
  case hy424 =>
    go_big_quiet_op
    simp only [Act.put, List.setIfInBounds_toArray, List.set_cons_zero, List.set_cons_succ] at hK
    exact hK
  simp only [Act.put, List.setIfInBounds_toArray, List.set_cons_zero, List.set_cons_succ]
  refine mildv_take (v := ?v425) 24 rfl (by kernel_rfl) (by kernel_rfl) (by kernel_rfl) (by kernel_rfl) (fun _ _ _ h => h) (by kernel_rfl) (fun Wu K hK => ?hy425) ?go425
  case hy425 =>
    go_big_quiet_op
    simp only [Act.put, List.setIfInBounds_toArray, List.set_cons_zero, List.set_cons_succ] at hK
    exact hK
  simp only [Act.put, List.setIfInBounds_toArray, List.set_cons_zero, List.set_cons_succ]
  refine mildv_take (v := ?v426) 25 rfl (by kernel_rfl) (by kernel_rfl) (by kernel_rfl) (by kernel_rfl) (fun _ _ _ h => h) (by kernel_rfl) (fun Wu K hK => ?hy426) ?go426
  case hy426 =>
    go_big_quiet_op
    simp only [Act.put, List.setIfInBounds_toArray, List.set_cons_zero, List.set_cons_succ] at hK
    exact hK
  simp only [Act.put, List.setIfInBounds_toArray, List.set_cons_zero, List.set_cons_succ]
  refine mildv_take (v := ?v427) 26 rfl (by kernel_rfl) (by kernel_rfl) (by kernel_rfl) (by kernel_rfl) (fun _ _ _ h => h) (by kernel_rfl) (fun Wu K hK => ?hy427) ?go427
  case hy427 =>
    go_big_quiet_op
    simp only [Act.put, List.setIfInBounds_toArray, List.set_cons_zero, List.set_cons_succ] at hK
    exact hK
  simp only [Act.put, List.setIfInBounds_toArray, List.set_cons_zero, List.set_cons_succ]
  refine mildv_take (v := ?v428) 27 rfl (by kernel_rfl) (by kernel_rfl) (by kernel_rfl) (by kernel_rfl) (fun _ _ _ h => h) (by kernel_rfl) (fun Wu K hK => ?hy428) ?go428
  case hy428 =>
    go_big_quiet_op
    simp only [Act.put, List.setIfInBounds_toArray, List.set_cons_zero, List.set_cons_succ] at hK
    exact hK
  simp only [Act.put, List.setIfInBounds_toArray, List.set_cons_zero, List.set_cons_succ]
  refine mildv_take (v := ?v429) 28 rfl (by kernel_rfl) (by kernel_rfl) (by kernel_rfl) (by kernel_rfl) (fun _ _ _ h => h) (by kernel_rfl) (fun Wu K hK => ?hy429) ?go429
  case hy429 =>
    go_big_quiet_op
    simp only [Act.put, List.setIfInBounds_toArray, List.set_cons_zero, List.set_cons_succ] at hK
    exact hK
  simp only [Act.put, List.setIfInBounds_toArray, List.set_cons_zero, List.set_cons_succ]
  refine mildv_take (v := ?v430) 29 rfl (by kernel_rfl) (by kernel_rfl) (by kernel_rfl) (by kernel_rfl) (fun _ _ _ h => h) (by kernel_rfl) (fun Wu K hK => ?hy430) ?go430
  case hy430 =>
    go_big_quiet_op
    simp only [Act.put, List.setIfInBounds_toArray, List.set_cons_zero, List.set_cons_succ] at hK
    exact hK
  simp only [Act.put, List.setIfInBounds_toArray, List.set_cons_zero, List.set_cons_succ]
  refine mildv_take (v := ?v431) 30 rfl (by kernel_rfl) (by kernel_rfl) (by kernel_rfl) (by kernel_rfl) (fun _ _ _ h => h) (by kernel_rfl) (fun Wu K hK => ?hy431) ?go431
  case hy431 =>
    go_big_quiet_op
    simp only [Act.put, List.setIfInBounds_toArray, List.set_cons_zero, List.set_cons_succ] at hK
    exact hK
  simp only [Act.put, List.setIfInBounds_toArray, List.set_cons_zero, List.set_cons_succ]
  refine mildv_take (v := ?v432) 31 rfl (by kernel_rfl) (by kernel_rfl) (by kernel_rfl) (by kernel_rfl) (fun _ _ _ h => h) (by kernel_rfl) (fun Wu K hK => ?hy432) ?go432
  case hy432 =>
    go_big_quiet_op
    simp only [Act.put, List.setIfInBounds_toArray, List.set_cons_zero, List.set_cons_succ] at hK
    exact hK
  simp only [Act.put, List.setIfInBounds_toArray, List.set_cons_zero, List.set_cons_succ]
  refine mildv_take (v := ?v433) 32 rfl (by kernel_rfl) (by kernel_rfl) (by kernel_rfl) (by kernel_rfl) (fun _ _ _ h => h) (by kernel_rfl) (fun Wu K hK => ?hy433) ?go433
  case hy433 =>
    go_big_quiet_op
    simp only [Act.put, List.setIfInBounds_toArray, List.set_cons_zero, List.set_cons_succ] at hK
    exact hK
  simp only [Act.put, List.setIfInBounds_toArray, List.set_cons_zero, List.set_cons_succ]
  refine mildv_take (v := ?v434) 33 rfl (by kernel_rfl) (by kernel_rfl) (by kernel_rfl) (by kernel_rfl) (fun _ _ _ h => h) (by kernel_rfl) (fun Wu K hK => ?hy434) ?go434
  case hy434 =>
    go_big_quiet_op
    simp only [Act.put, List.setIfInBounds_toArray, List.set_cons_zero, List.set_cons_succ] at hK
    exact hK
  simp only [Act.put, List.setIfInBounds_toArray, List.set_cons_zero, List.set_cons_succ]
  refine mildv_take (v := ?v435) 34 rfl (by kernel_rfl) (by kernel_rfl) (by kernel_rfl) (by kernel_rfl) (fun _ _ _ h => h) (by kernel_rfl) (fun Wu K hK => ?hy435) ?go435
  case hy435 =>
    go_big_quiet_op
    simp only [Act.put, List.setIfInBounds_toArray, List.set_cons_zero, List.set_cons_succ] at hK
    exact hK
  simp only [Act.put, List.setIfInBounds_toArray, List.set_cons_zero, List.set_cons_succ]
  refine mildv_take (v := ?v436) 35 rfl (by kernel_rfl) (by kernel_rfl) (by kernel_rfl) (by kernel_rfl) (fun _ _ _ h => h) (by kernel_rfl) (fun Wu K hK => ?hy436) ?go436
  case hy436 =>
    go_big_quiet_op
    simp only [Act.put, List.setIfInBounds_toArray, List.set_cons_zero, List.set_cons_succ] at hK
    exact hK
  simp only [Act.put, List.setIfInBounds_toArray, List.set_cons_zero, List.set_cons_succ]
  refine mildv_take (v := ?v437) 36 rfl (by kernel_rfl) (by kernel_rfl) (by kernel_rfl) (by kernel_rfl) (fun _ _ _ h => h) (by kernel_rfl) (fun Wu K hK => ?hy437) ?go437
  case hy437 =>
    go_big_quiet_op
    simp only [Act.put, List.setIfInBounds_toArray, List.set_cons_zero, List.set_cons_succ] at hK
    exact hK
  simp only [Act.put, List.setIfInBounds_toArray, List.set_cons_zero, List.set_cons_succ]
  refine mildv_take (v := ?v438) 37 rfl (by kernel_rfl) (by kernel_rfl) (by kernel_rfl) (by kernel_rfl) (fun _ _ _ h => h) (by kernel_rfl) (fun Wu K hK => ?hy438) ?go438
  case hy438 =>
    go_big_quiet_op
    simp only [Act.put, List.setIfInBounds_toArray, List.set_cons_zero, List.set_cons_succ] at hK
    exact hK
  simp only [Act.put, List.setIfInBounds_toArray, List.set_cons_zero, List.set_cons_succ]
  refine mildv_take (v := ?v439) 38 rfl (by kernel_rfl) (by kernel_rfl) (by kernel_rfl) (by kernel_rfl) (fun _ _ _ h => h) (by kernel_rfl) (fun Wu K hK => ?hy439) ?go439
  case hy439 =>
    go_big_quiet_op
    simp only [Act.put, List.setIfInBounds_toArray, List.set_cons_zero, List.set_cons_succ] at hK
    exact hK
  simp only [Act.put, List.setIfInBounds_toArray, List.set_cons_zero, List.set_cons_succ]
  refine mildv_take (v := ?v440) 39 rfl (by kernel_rfl) (by kernel_rfl) (by kernel_rfl) (by kernel_rfl) (fun _ _ _ h => h) (by kernel_rfl) (fun Wu K hK => ?hy440) ?go440
  case hy440 =>
    go_big_quiet_op
    simp only [Act.put, List.setIfInBounds_toArray, List.set_cons_zero, List.set_cons_succ] at hK
    exact hK
  simp only [Act.put, List.setIfInBounds_toArray, List.set_cons_zero, List.set_cons_succ]
  refine mildv_take (v := ?v441) 40 rfl (by kernel_rfl) (by kernel_rfl) (by kernel_rfl) (by kernel_rfl) (fun _ _ _ h => h) (by kernel_rfl) (fun Wu K hK => ?hy441) ?go441
  case hy441 =>
    go_big_quiet_op
    simp only [Act.put, List.setIfInBounds_toArray, List.set_cons_zero, List.set_cons_succ] at hK
    exact hK
  simp only [Act.put, List.setIfInBounds_toArray, List.set_cons_zero, List.set_cons_succ]
  intro W
  clear uc uf
  have hW := W.2
  have hb0 := W.2
  have bxW := bx0.next W.2
  have BW := next hB0 W.2
  have hpW := hpart.below BW
  have hzW : w.heap.size < W.1.heap.size := bxW.lt
  generalize W.1 = wq at *
  clear hW W bx0 hB0 hpart
  generalize (if cap = 10 then some (⟨b0, o0, none⟩ : Addr) else some ⟨b0, o0 + 10, none⟩) = aa at *
  refine upv_list 41 (by kernel_rfl) rfl ?_
  go_wp2_with (go_at_call 81; refine (readWords_any _ (l.drop 10) (n - 10) (cap - 10) m _ hpW (by have := HM.out; omega) hm1 (by have := HM.out; omega)).mono ?_; rintro e w1 ⟨vv, rfl, hown1, hb1⟩; obtain ⟨a1, cap1, rfl, hs1⟩ := hown1.sl' (wordsN_len _ m))
  refine ⟨(by first | exact next hb0 hb1 | exact fun _ => next hb0 hb1), fun u => ?_⟩
  have hb2 := next hb0 (next hb1 u.2)
  have hown2 := hown1.below u.2
  have bx2 := bxW.next (next hb1 u.2)
  have B2 := next BW (next hb1 u.2)
  generalize u.1 = w2 at *
  clear u hb1 hown1 hs1
  refine upv_list 42 (by kernel_rfl) rfl ?_
  go_wp2
  refine ⟨(by first | exact hb2 | exact fun _ => hb2), fun u => ?_⟩
  have hown3 := hown2.below u.2
  have bx3 := bx2.next u.2
  have B3 := next B2 u.2
  generalize u.1 = w3 at *
  clear u hb2 hown2 bx2 B2
  have fq := bx3.fz
  obtain ⟨r0, r1, r2, r3, r4, r5, r6, r7, r8, _, rlt⟩ := id bx3
  refine upv_list 43 (by kernel_rfl) rfl ?_
  go_wp2
  refine ⟨(by first | trivial | exact fun h => absurd rfl h), fun u => ?_⟩
  refine upv_done (by kernel_rfl) ?_
  have hown4 : Own u.1 w.heap.size (.slice a1 m cap1) (wordsN (l.drop 10) m) := by
    refine Own.below ?_ u.2
    refine Own.low ?_ (Nat.le_of_lt hzW)
    exact far9 (y := ⟨v0, v1, v2, v3 * 256 + v4, v5, v6 - 1, v7, v8 == 1, []⟩) (v := .slice a1 m cap1) (P := fun V => Own V wq.heap.size (.slice a1 m cap1) (wordsN (l.drop 10) m)) (fun V o u h => h.set (by simpa using hzW) _) hown3
  have bx4 := (bx3.put ⟨v0, v1, v2, v3 * 256 + v4, v5, v6 - 1, v7, v8 == 1, []⟩ (.slice a1 m cap1)).next (by exact u.2)
  have B4 : Below w.heap.size w u.1 := by
    refine next ?_ u.2
    exact far9 (y := ⟨v0, v1, v2, v3 * 256 + v4, v5, v6 - 1, v7, v8 == 1, []⟩) (v := .slice a1 m cap1) (P := fun V => Below w.heap.size w V) (fun V o u h => h.setCell (by simp) _) B3
  generalize u.1 = w4 at *
  clear u r0 r1 r2 r3 r4 r5 r6 r7 r8 rlt fq
  obtain ⟨r0, r1, r2, r3, r4, r5, r6, r7, r8, _, rlt⟩ := bx4
  simp only at r0 r1 r2 r3 r4 r5 r6 r7
  go_wp2
  refine bodyPost_ret (v := .agg #[.int .i64 v0, .int .i64 v1, .int .i64 v2, .int .i64 (v3 * 256 + v4), .int .i64 v5, .int .i64 (v6 - 1), .int .i64 v7, .bool (v8 == 1), .slice a1 m cap1]) (by simp [results, Try.results74, go_sem, r0, r1, r2, r3, r4, r5, r6, r7, r8]) rfl ⟨a1, cap1, by rw [HP.out], by rw [HW.out]; exact hown4, B4⟩
end Go.Proofs.Ytjdbjmfkheffdaa
end
section
namespace Go.Proofs.Ytjdbjmfkheffdaa
open Go.RowKit
set_option linter.unusedVariables false
set_option maxRecDepth 20000

/-- What bytes are, as a packet. -/
def unpackI (l : List Int) : Option Pk := match B.openI l with
  | none => none
  | some b => if (formB b && (readP b).right) = true then some (readP b) else none
theorem unpack_none {l : List Int} (h : B.openI l = none) : unpackI l = none := by unfold unpackI; rw [h]
theorem unpack_form {l b : List Int} (h : B.openI l = some b) (hf : formB b = false) : unpackI l = none := by unfold unpackI; rw [h]; simp [hf]
theorem unpack_right {l b : List Int} (h : B.openI l = some b) (hf : (readP b).right = false) : unpackI l = none := by unfold unpackI; rw [h]; simp [hf]
theorem unpack_some {l b : List Int} (h : B.openI l = some b) (hf : formB b = true) (hr : (readP b).right = true) : unpackI l = some (readP b) := by unfold unpackI; rw [h]; simp [hf, hr]
theorem form_of {b : List Int} (h8 : B.B8 b) (h : formB b = true) : ∃ m : Nat, m ≤ 255 ∧ b.length = 10 + 8 * m := by
  unfold formB at h
  simp at h
  have := B.B8_get h8 9
  exact ⟨(b[9]?.getD 0).toNat, by omega, by omega⟩

theorem open_take {l b : List Int} (h : B.openI l = some b) : b = l.take (l.length - 2) := by
  unfold B.openI at h
  split at h
  · cases h
  · split at h
    · exact (Option.some.inj h).symm
    · cases h
/-- No packet. -/
def NoPk (w : World) (e : Ending) (w' : World) (t : Value) : Prop := e = .returned (.tuple #[zeroPk.val (.slice none 0 0), t]) ∧ Below w.heap.size w w'
set_option maxHeartbeats 1000000 in
theorem unpack_no (a : Option Addr) (l : List Int) (n cap : Nat) (w : World) (hsl : B.Sl w a n cap l) (hn : n ≤ 140737488351300) (h : unpackI l = none) :
    Calls Try.prog 58 #[.slice a n cap] w fun e w' => NoPk w e w' (.int .i64 2) := by
  have bx0 := Bx.made w zeroPk (.slice none 0 0)
  have hB0 : Below w.heap.size w (w.alloc (.cells #[.int .i64 zeroPk.k, .int .i64 zeroPk.f, .int .i64 zeroPk.t, .int .i64 zeroPk.i, .int .i64 zeroPk.l, .int .i64 zeroPk.p, .int .i64 zeroPk.s, .bool zeroPk.fl, .slice none 0 0] 26)) := ba (Below.refl _ _)
  have hs0 := hsl.below hB0
  cases ho : B.openI l with
  | none =>
    have HO : Hid (B.openI l = none) := ho
    clear h ho hsl
    go_enter Try.func58, Try.ntmps58
    go_wp2_with (go_at_call 72; refine (B.open_any a l n cap _ hs0 hn).mono ?_; rintro e w1 ⟨v1, rfl, ho1, hb1⟩; rw [HO.out] at ho1 ⊢; simp only [Option.isSome_none, Option.getD_none] at ho1 ⊢; obtain ⟨a1, cap1, rfl, hs1⟩ := ho1.sl' (n := 0) rfl; have bx1 := bx0.next hb1; have fq := bx1.fz; obtain ⟨q0, q1, q2, q3, q4, q5, q6, q7, q8, _, _⟩ := id bx1)
    refine bodyPost_ret (v := .tuple #[zeroPk.val (.slice none 0 0), .int .i64 2]) (by simp [results, Try.results58, go_sem, zeroPk, *]) rfl ⟨rfl, ?_⟩
    exact far9 (y := zeroPk) (v := .slice none 0 0) (P := fun V => Below w.heap.size w V) (fun V o u h => h.setCell (by simp) _) (next hB0 hb1)
  | some b =>
    have HO : Hid (B.openI l = some b) := ho
    obtain ⟨nb, hnb⟩ : ∃ nb, b.length = nb := ⟨_, rfl⟩
    have HB : Hid (b.length = nb) := hnb
    have h8b : B.B8 b := by rw [open_take ho]; exact B.B8_take hsl.b8 _
    clear hsl hnb
    cases hf : formB b
    · have HF : Hid (formB b = false) := hf
      clear h ho hf
      go_enter Try.func58, Try.ntmps58
      go_wp2_with (first
        | (go_at_call 72; refine (B.open_any a l n cap _ hs0 hn).mono ?_; rintro e w1 ⟨v1, rfl, ho1, hb1⟩; rw [HO.out] at ho1 ⊢; simp only [Option.isSome_some, Option.getD_some] at ho1 ⊢; obtain ⟨a1, cap1, rfl, hs1⟩ := ho1.sl' HB.out; have bx1 := bx0.next hb1)
        | (go_at_call 73; refine (hasForm_any a1 b nb cap1 _ hs1).mono ?_; rintro e w2 ⟨rfl, k2, rfl⟩; rw [HF.out]; have bx2 := bx1.next (below_dn _ k2); have fq := bx2.fz; obtain ⟨q0, q1, q2, q3, q4, q5, q6, q7, q8, _, _⟩ := id bx2))
      refine bodyPost_ret (v := .tuple #[zeroPk.val (.slice none 0 0), .int .i64 2]) (by simp [results, Try.results58, go_sem, zeroPk, *]) rfl ⟨rfl, ?_⟩
      exact far9 (y := zeroPk) (v := .slice none 0 0) (P := fun V => Below w.heap.size w V) (fun V o u h => h.setCell (by simp) _) (next (next hB0 hb1) (below_dn _ k2))
    · have HF : Hid (formB b = true) := hf
      obtain ⟨y, hy⟩ : ∃ y, readP b = y := ⟨_, rfl⟩
      have HR : y.right = false := by
        cases hr : y.right
        · rfl
        · rw [unpack_some ho hf (by rw [hy]; exact hr)] at h; cases h
      have HE : Hid (y.err = 1) := Pk.err_f HR
      obtain ⟨m, hm1, hm2⟩ := form_of h8b hf
      have HM : Hid (nb = 10 + 8 * m) := by show _ = _; rw [← HB.out]; exact hm2
      clear hm2
      have HY : Hid (readP b = y) := hy
      have HZ : Hid ((readP b).z.length = m) := by show (wordsN _ _).length = m; rw [wordsN_len, HB.out, HM.out]; omega
      clear h ho hf hy
      go_enter Try.func58, Try.ntmps58
      go_wp2_with (first
        | (go_at_call 72; refine (B.open_any a l n cap _ hs0 hn).mono ?_; rintro e w1 ⟨v1, rfl, ho1, hb1⟩; rw [HO.out] at ho1 ⊢; simp only [Option.isSome_some, Option.getD_some] at ho1 ⊢; obtain ⟨a1, cap1, rfl, hs1⟩ := ho1.sl' HB.out; have bx1 := bx0.next hb1)
        | (go_at_call 73; refine (hasForm_any a1 b nb cap1 _ hs1).mono ?_; rintro e w2 ⟨rfl, k2, rfl⟩; rw [HF.out]; have bx2 := bx1.next (below_dn _ k2); have hs2 := hs1.below (below_dn _ k2))
        | (go_at_call 74; refine (read_any a1 b nb cap1 m _ hs2 HM.out hm1).mono ?_; rintro e w3 ⟨a3, cap3, rfl, ho3, hb3⟩; rw [HY.out] at ho3 ⊢; unfold Pk.val; have bx3 := bx2.next hb3; obtain ⟨a3', cap3', e3, hs3⟩ := ho3.sl' (n := m) (by rw [← HY.out]; exact HZ.out); simp at e3; obtain ⟨rfl, rfl⟩ := e3)
        | (go_at_call 31; refine (check_any y a3 m cap3 _ (hs3.below (ba (Below.refl _ _)))).mono ?_; rintro e w4 ⟨rfl, hb4⟩; rw [HE.out]; have bx4 := (bx3.next (ba (Below.refl _ _))).next hb4; have fq := bx4.fz; obtain ⟨q0, q1, q2, q3, q4, q5, q6, q7, q8, _, _⟩ := id bx4))
      refine bodyPost_ret (v := .tuple #[zeroPk.val (.slice none 0 0), .int .i64 2]) (by simp [results, Try.results58, go_sem, zeroPk, *]) rfl ⟨rfl, ?_⟩
      exact far9 (y := zeroPk) (v := .slice none 0 0) (P := fun V => Below w.heap.size w V) (fun V o u h => h.setCell (by simp) _) (next (next (next (next hB0 hb1) (below_dn _ k2)) hb3) (next (ba (Below.refl _ _)) hb4))
set_option maxHeartbeats 1000000 in
theorem unpack_yes (a : Option Addr) (l : List Int) (n cap : Nat) (w : World) (hsl : B.Sl w a n cap l) (hn : n ≤ 140737488351300) (y : Pk) (h : unpackI l = some y) :
    Calls Try.prog 58 #[.slice a n cap] w fun e w' => ∃ a' m cap', e = .returned (.tuple #[y.val (.slice a' m cap'), .int .i64 0]) ∧ Sl w' a' m cap' y.z ∧ (∀ ad : Addr, a' = some ad → w.heap.size ≤ ad.block) ∧ Below w.heap.size w w' := by
  have bx0 := Bx.made w zeroPk (.slice none 0 0)
  have hB0 : Below w.heap.size w (w.alloc (.cells #[.int .i64 zeroPk.k, .int .i64 zeroPk.f, .int .i64 zeroPk.t, .int .i64 zeroPk.i, .int .i64 zeroPk.l, .int .i64 zeroPk.p, .int .i64 zeroPk.s, .bool zeroPk.fl, .slice none 0 0] 26)) := ba (Below.refl _ _)
  have hs0 := hsl.below hB0
  cases ho : B.openI l with
  | none => rw [unpack_none ho] at h; cases h
  | some b =>
    have HO : Hid (B.openI l = some b) := ho
    obtain ⟨nb, hnb⟩ : ∃ nb, b.length = nb := ⟨_, rfl⟩
    have HB : Hid (b.length = nb) := hnb
    have h8b : B.B8 b := by rw [open_take ho]; exact B.B8_take hsl.b8 _
    clear hsl hnb
    cases hf : formB b
    · rw [unpack_form ho hf] at h; cases h
    · cases hr : (readP b).right
      · rw [unpack_right ho hr] at h; cases h
      rw [unpack_some ho hf hr] at h
      have hy : readP b = y := Option.some.inj h
      have HF : Hid (formB b = true) := hf
      have HE : Hid (y.err = 0) := Pk.err_t (by rw [← hy]; exact hr)
      obtain ⟨m, hm1, hm2⟩ := form_of h8b hf
      have HM : Hid (nb = 10 + 8 * m) := by show _ = _; rw [← HB.out]; exact hm2
      clear hm2
      have HY : Hid (readP b = y) := hy
      have HZ : Hid ((readP b).z.length = m) := by show (wordsN _ _).length = m; rw [wordsN_len, HB.out, HM.out]; omega
      clear h ho hf hy hr
      go_enter Try.func58, Try.ntmps58
      go_wp2_with (first
        | (go_at_call 72; refine (B.open_any a l n cap _ hs0 hn).mono ?_; rintro e w1 ⟨v1, rfl, ho1, hb1⟩; rw [HO.out] at ho1 ⊢; simp only [Option.isSome_some, Option.getD_some] at ho1 ⊢; obtain ⟨a1, cap1, rfl, hs1⟩ := ho1.sl' HB.out; have bx1 := bx0.next hb1)
        | (go_at_call 73; refine (hasForm_any a1 b nb cap1 _ hs1).mono ?_; rintro e w2 ⟨rfl, k2, rfl⟩; rw [HF.out]; have bx2 := bx1.next (below_dn _ k2); have hs2 := hs1.below (below_dn _ k2))
        | (go_at_call 74; refine (read_any a1 b nb cap1 m _ hs2 HM.out hm1).mono ?_; rintro e w3 ⟨a3, cap3, rfl, ho3, hb3⟩; rw [HY.out] at ho3 ⊢; unfold Pk.val; have bx3 := bx2.next hb3; have lo3 := ho3.lo; obtain ⟨a3', cap3', e3, hs3⟩ := ho3.sl' (n := m) (by rw [← HY.out]; exact HZ.out); simp at e3; obtain ⟨rfl, rfl⟩ := e3)
        | (go_at_call 31; refine (check_any y a3 m cap3 _ (hs3.below (ba (Below.refl _ _)))).mono ?_; rintro e w4 ⟨rfl, hb4⟩; rw [HE.out]; have bx4 := (bx3.next (ba (Below.refl _ _))).next hb4; have by4 := (Bx.made w3 y (.slice a3 m cap3)).next hb4; have hs4 := hs3.below (next (ba (Below.refl _ _)) hb4); have fq := bx4.fz; have z13 : w.heap.size < w3.heap.size := bx3.lt; obtain ⟨q0, q1, q2, q3, q4, q5, q6, q7, q8, _, _⟩ := id bx4; obtain ⟨r0, r1, r2, r3, r4, r5, r6, r7, r8, _, _⟩ := id by4))
      have hz1 : w.heap.size < w1.heap.size := bx1.lt
      refine bodyPost_ret (v := .tuple #[y.val (.slice a3 m cap3), .int .i64 0]) (by simp [results, Try.results58, go_sem, *]) rfl ⟨a3, m, cap3, rfl, ?_, fun ad e => by have := lo3 ad e; simp at this; omega, ?_⟩
      · exact far9 (P := fun V => Sl V a3 m cap3 y.z) (fun V o u h => h.far (fun ad e => by have := lo3 ad e; simp at this ⊢; omega)) hs4
      · exact far9 (P := fun V => Below w.heap.size w V) (fun V o u h => h.setCell (by simp) _) (next (next (next (next hB0 hb1) (below_dn _ k2)) hb3) (next (ba (Below.refl _ _)) hb4))
end Go.Proofs.Ytjdbjmfkheffdaa
end
section
namespace Go.Proofs.Ytjdbjmfkheffdaa
open Go.RowKit
set_option linter.unusedVariables false
set_option maxRecDepth 20000

theorem read_pack {y : Pk} (h : y.Right) (hz : R64 y.z) : readP (packI y) = y := by
  obtain ⟨⟨k0, k1⟩, ⟨f0, f1⟩, ⟨t0, t1⟩, ⟨i0, i1⟩, ⟨l0, l1⟩, ⟨p0, p1⟩, ⟨s0, s1⟩, z1⟩ := h
  have hw : wordsN ((packI y).drop 10) (((packI y).length - 10) / 8) = y.z := by
    rw [packI_len, show (10 + 8 * y.z.length - 10) / 8 = y.z.length by omega]
    have : (packI y).drop 10 = bodyI y.z := by unfold packI; rw [← headI_len y, List.drop_left]
    rw [this]
    exact words_body y.z hz
  unfold readP
  rw [hw]
  obtain ⟨k, f, t, i, l, p, s, fl, z⟩ := y
  simp only at k0 k1 f0 f1 t0 t1 i0 i1 l0 l1 p0 p1 s0 s1 z1
  have g0 : (packI ⟨k, f, t, i, l, p, s, fl, z⟩)[0]?.getD 0 = k % 256 := rfl
  have g1 : (packI ⟨k, f, t, i, l, p, s, fl, z⟩)[1]?.getD 0 = f % 256 := rfl
  have g2 : (packI ⟨k, f, t, i, l, p, s, fl, z⟩)[2]?.getD 0 = t % 256 := rfl
  have g3 : (packI ⟨k, f, t, i, l, p, s, fl, z⟩)[3]?.getD 0 = i / 256 % 256 := rfl
  have g4 : (packI ⟨k, f, t, i, l, p, s, fl, z⟩)[4]?.getD 0 = i % 256 := rfl
  have g5 : (packI ⟨k, f, t, i, l, p, s, fl, z⟩)[5]?.getD 0 = l % 256 := rfl
  have g6 : (packI ⟨k, f, t, i, l, p, s, fl, z⟩)[6]?.getD 0 = (p + 1) % 256 := rfl
  have g7 : (packI ⟨k, f, t, i, l, p, s, fl, z⟩)[7]?.getD 0 = s % 256 := rfl
  have g8 : (packI ⟨k, f, t, i, l, p, s, fl, z⟩)[8]?.getD 0 = flI fl := rfl
  rw [g0, g1, g2, g3, g4, g5, g6, g7, g8, show k % 256 = k by omega, show f % 256 = f by omega, show t % 256 = t by omega, show i / 256 % 256 * 256 + i % 256 = i by omega, show l % 256 = l by omega, show (p + 1) % 256 - 1 = p by omega, show s % 256 = s by omega]
  have : (flI fl == 1) = fl := by cases fl <;> rfl
  rw [this]
theorem form_pack {y : Pk} (h : y.Right) : formB (packI y) = true := by
  have hz := h.z
  have g8 : (packI y)[8]?.getD 0 = flI y.fl := rfl
  have g9 : (packI y)[9]?.getD 0 = (y.z.length : Int) % 256 := rfl
  unfold formB
  rw [g8, g9, packI_len]
  have := flI_bd y.fl
  simp
  omega
theorem unpack_pack {y : Pk} (h : y.right = true) (hz : R64 y.z) : unpackI (B.sealI (packI y)) = some y := by
  have hR := (Pk.right_iff y).1 h
  have := unpack_some (B.openI_seal (packI_b8 y)) (form_pack hR) (by rw [read_pack hR hz]; exact h)
  rw [this, read_pack hR hz]
theorem spoilt {l : List Int} {bit mask : Int} (h8 : B.B8 l) (h0 : B.sumI l = 0) (hb0 : 0 ≤ bit) (hb1 : bit < 8 * l.length) (hm0 : 0 ≤ mask) (hm1 : mask < 65536) (ht : mask.toNat.testBit 15 = true) : B.openI (B.spoilI l bit mask) = none := by
  refine B.openI_sum (B.spoilI_b8 h8 bit mask) fun h => ?_
  have e := B.spoil_found h8 hm0 hm1 h0 h
  have d := B.spoilI_dig (bit := bit) (mask := mask) h8 hm0 hm1 bit.toNat (by omega)
  rw [e] at d
  have hh : B.hit bit mask bit.toNat = true := by
    unfold B.hit B.mdig
    rw [decide_eq_true (by omega), show ((bit.toNat : Int) - bit).toNat = 0 by omega]
    simpa using ht
  rw [hh] at d
  revert d
  cases B.digAt l bit.toNat <;> simp
theorem mask_top {mask : Int} (h0 : 0 ≤ mask) (h1 : mask < 65536) : ∃ k : Int, bits .or .u16 mask 32768 = k ∧ 0 ≤ k ∧ k < 65536 ∧ k.toNat.testBit 15 = true := by
  refine ⟨_, rfl, ?_⟩
  rw [u16_or mask 32768 h0 h1 (by omega) (by omega)]
  have hlt : mask.toNat ||| (32768 : Int).toNat < 2 ^ 16 := Nat.or_lt_two_pow (by omega) (by decide)
  refine ⟨by omega, by omega, ?_⟩
  simp [Nat.testBit_or]
  right
  decide
/-- Is the packet, packed, as it was behind the spoiling? -/
def wireB (y : Pk) (bit mask : Int) : Bool := decide (B.spoilI (B.sealI (packI y)) bit mask = B.sealI (packI y))
theorem wire_yes {y : Pk} {bit mask : Int} (h : y.right = true) (hz : R64 y.z) (hw : wireB y bit mask = true) : unpackI (B.spoilI (B.sealI (packI y)) bit mask) = some y := by
  rw [of_decide_eq_true hw]; exact unpack_pack h hz
theorem wire_no {y : Pk} {bit mask : Int} (hm0 : 0 ≤ mask) (hm1 : mask < 65536) (hw : wireB y bit mask = false) : unpackI (B.spoilI (B.sealI (packI y)) bit mask) = none := by
  have h8 : B.B8 (B.sealI (packI y)) := B.sealI_b8 (packI_b8 y)
  refine unpack_none (B.openI_sum (B.spoilI_b8 h8 bit mask) fun h => ?_)
  exact of_decide_eq_false hw (B.spoil_found h8 hm0 hm1 (B.sum_seal (packI_b8 y)) h)
theorem sp_none {l : List Int} {bit : Int} (h8 : B.B8 l) : B.spoilI l bit 0 = l := by
  refine B.digs_ext (B.spoilI_b8 h8 bit 0) h8 (B.spoilI_len ..) fun k hk => ?_
  rw [B.spoilI_len] at hk
  rw [B.spoilI_dig h8 (by omega) (by omega) k hk]
  have : B.hit bit 0 k = false := by unfold B.hit B.mdig; simp
  rw [this, Bool.xor_false]
theorem wire_zero (y : Pk) (bit : Int) : wireB y bit 0 = true := decide_eq_true (sp_none (B.sealI_b8 (packI_b8 y)))
end Go.Proofs.Ytjdbjmfkheffdaa
end
section
namespace Go.Proofs.Ytjdbjmfkheffdaa
open Go.RowKit
set_option linter.unusedVariables false
set_option maxRecDepth 20000

/-- The row of a lane's pool; its queue's is two further. Lane 2 i: the requests of node i; lane 2 i + 1: its answers. -/
def pr (q : Nat) : Nat := 4 * (q / 2) + q % 2
theorem pr_lt {q nn : Nat} (h : q < 2 * nn) : pr q + 2 < 4 * nn := by unfold pr; omega
theorem pr_inj {q q' : Nat} (h : pr q = pr q') : q = q' := by unfold pr at h; omega
theorem pr_ne {q q' : Nat} : pr q ≠ pr q' + 2 := by unfold pr; omega
/-- All that is under way, of the first m lanes. -/
def laneL (F : Nat → List Pk) : Nat → List Pk
  | 0 => []
  | m + 1 => laneL F m ++ F (pr m)
theorem laneL_succ (F : Nat → List Pk) (m : Nat) : laneL F (m + 1) = laneL F m ++ F (pr m) := rfl
theorem lane_mono (F : Nat → List Pk) {q m : Nat} (h : q ≤ m) : (laneL F q).length ≤ (laneL F m).length := by
  induction m with
  | zero => have : q = 0 := by omega
            subst this; exact Nat.le_refl _
  | succ m ih =>
    by_cases e : q = m + 1
    · subst e; exact Nat.le_refl _
    · have := ih (by omega)
      rw [laneL_succ, List.length_append]; omega
theorem lane_upd (F : Nat → List Pk) (L : List Pk) (q : Nat) : ∀ m, m ≤ q → laneL (upd F (pr q) L) m = laneL F m
  | 0, _ => rfl
  | m + 1, h => by rw [laneL_succ, laneL_succ, lane_upd F L q m (by omega), upd_other _ _ (fun e => by have := pr_inj e; omega)]
theorem lane_in (F : Nat → List Pk) (L : List Pk) (q : Nat) : ∀ m, laneL (upd F (pr q + 2) L) m = laneL F m
  | 0 => rfl
  | m + 1 => by rw [laneL_succ, laneL_succ, lane_in F L q m, upd_other _ _ pr_ne]
theorem lane_found (F : Nat → List Pk) {q k : Nat} {x : Pk} (hx : (F (pr q))[k]? = some x) : ∀ m, q < m →
    (laneL F q).length + k < (laneL F m).length ∧ (laneL F m)[(laneL F q).length + k]? = some x ∧ laneL (upd F (pr q) ((F (pr q)).eraseIdx k)) m = (laneL F m).eraseIdx ((laneL F q).length + k)
  | 0, h => by omega
  | m + 1, h => by
    have hk : k < (F (pr q)).length := (List.getElem?_eq_some_iff.1 hx).1
    rw [laneL_succ, laneL_succ]
    by_cases hi : q < m
    · obtain ⟨h1, h2, h3⟩ := lane_found F hx m hi
      refine ⟨by rw [List.length_append]; omega, by rw [List.getElem?_append_left h1]; exact h2, ?_⟩
      rw [h3, upd_other _ _ (fun e => by have := pr_inj e; omega), List.eraseIdx_append_of_lt_length h1]
    · obtain rfl : q = m := by omega
      rw [lane_upd F _ q q (Nat.le_refl _), upd_same]
      refine ⟨by rw [List.length_append]; omega, ?_, ?_⟩
      · rw [List.getElem?_append_right (by omega), Nat.add_sub_cancel_left]; exact hx
      · rw [List.eraseIdx_append_of_length_le (by omega), Nat.add_sub_cancel_left]
/-- More in one lane's pool. -/
theorem lane_more (F : Nat → List Pk) (L : List Pk) (q : Nat) : ∀ m, q < m → (laneL (upd F (pr q) L) m).length + (F (pr q)).length = (laneL F m).length + L.length
  | 0, h => by omega
  | m + 1, h => by
    rw [laneL_succ, laneL_succ]
    by_cases hi : q < m
    · have := lane_more F L q m hi
      rw [upd_other _ _ (fun e => by have := pr_inj e; omega)]
      simp only [List.length_append]; omega
    · obtain rfl : q = m := by omega
      rw [lane_upd F _ q q (Nat.le_refl _), upd_same]
      simp only [List.length_append]; omega
theorem lane_at (F : Nat → List Pk) : ∀ (m a : Nat), a < (laneL F m).length → ∃ q k x, q < m ∧ (F (pr q))[k]? = some x ∧ a = (laneL F q).length + k
  | 0, a, h => by simp [laneL] at h
  | m + 1, a, h => by
    by_cases hm : a < (laneL F m).length
    · obtain ⟨q, k, x, h1, h2, h3⟩ := lane_at F m a hm
      exact ⟨q, k, x, by omega, h2, h3⟩
    · rw [laneL_succ, List.length_append] at h
      exact ⟨m, a - (laneL F m).length, _, by omega, List.getElem?_eq_getElem (by omega), by omega⟩

/-- The room of a row. -/
def Rm (out inn : Int) (q : Nat) : Int := if q % 4 = 2 then inn else if q % 4 = 3 then 1 else out
theorem Rm_out {out inn : Int} {q : Nat} : Rm out inn (pr q) = out := by
  unfold Rm pr; rw [if_neg (by omega), if_neg (by omega)]
/-- A packet that may be under way between so many nodes. -/
structure Good (nn : Nat) (x : Pk) : Prop where
  r : x.right = true
  f : x.f < nn
  t : x.t < nn
  z : R64 x.z
/-- The lane that a packet leaves by, and that which it comes by. -/
def sortN (x : Pk) : Nat := if inB 1 x.k 6 = true then 0 else 1
theorem sortN_lt (x : Pk) : sortN x < 2 := by unfold sortN; split <;> omega
def fromQ (x : Pk) : Nat := 2 * x.f.toNat + sortN x
def toQ (x : Pk) : Nat := 2 * x.t.toNat + sortN x
theorem Good.fq {nn : Nat} {x : Pk} (h : Good nn x) : fromQ x < 2 * nn ∧ (x.f.toNat : Int) = x.f ∧ x.f.toNat < nn := by
  have := ((Pk.right_iff x).1 h.r).f
  have := h.f
  have := sortN_lt x
  unfold fromQ
  omega
theorem Good.tq {nn : Nat} {x : Pk} (h : Good nn x) : toQ x < 2 * nn ∧ (x.t.toNat : Int) = x.t ∧ x.t.toNat < nn := by
  have := ((Pk.right_iff x).1 h.r).t
  have := h.t
  have := sortN_lt x
  unfold toQ
  omega
/-- A network at block gf; its lanes at block gl; all its memory is of B. -/
structure FbI (w : World) (gf nn : Nat) (out inn : Int) (F : Nat → List Pk) (B : Nat → Prop) (gl go cap : Nat) (G : Nat → Nat) (M D : Nat → Nat → Prop) : Prop where
  fc : w.cell? ⟨gf, 0, none⟩ = some (.slice (some ⟨gl, go, none⟩) (2 * nn) cap)
  lp : ∀ q, q < 2 * nn → w.cell? ⟨gl, go + q * 2, none⟩ = some (.pointer (some ⟨G (pr q), 0, none⟩))
  lq : ∀ q, q < 2 * nn → w.cell? ⟨gl, go + q * 2 + 1, none⟩ = some (.pointer (some ⟨G (pr q + 2), 0, none⟩))
  cp : 2 * nn ≤ cap ∧ cap ≤ maxLen
  many : Many w (4 * nn) G M D (Rm out inn) F (fun k => k = gf ∨ k = gl)
  good : ∀ q, q < 4 * nn → ∀ x ∈ F q, Good nn x
  rooms : ∀ q, q < 4 * nn → ((F q).length : Int) ≤ Rm out inn q
  mem : ∀ q, q < 4 * nn → ∀ k, M q k ∨ D q k → B k
  mf : B gf
  ml : B gl
  old : ∀ k, B k → k < w.heap.size
  n0 : 1 ≤ nn
  n1 : nn ≤ 6
  o0 : 1 ≤ out
  o1 : out ≤ 1000
  i0 : 1 ≤ inn
  i1 : inn ≤ 1000
def Fb (w : World) (gf nn : Nat) (out inn : Int) (F : Nat → List Pk) (B : Nat → Prop) : Prop := ∃ gl go cap G M D, FbI w gf nn out inn F B gl go cap G M D
theorem FbI.keep {w w' : World} {gf nn : Nat} {out inn : Int} {F : Nat → List Pk} {B X : Nat → Prop} {gl go cap : Nat} {G : Nat → Nat} {M D : Nat → Nat → Prop} (h : FbI w gf nn out inn F B gl go cap G M D) (hk : Keep X w w') (hX : ∀ k, B k → ¬ X k) : FbI w' gf nn out inn F B gl go cap G M D :=
  ⟨by rw [hk.cell _ (h.old _ h.mf) (hX _ h.mf)]; exact h.fc, fun q hq => by rw [hk.cell _ (h.old _ h.ml) (hX _ h.ml)]; exact h.lp q hq, fun q hq => by rw [hk.cell _ (h.old _ h.ml) (hX _ h.ml)]; exact h.lq q hq, h.cp,
    h.many.keep hk (fun q hq k hm => hX k (h.mem q hq k hm)), h.good, h.rooms, h.mem, h.mf, h.ml, fun k hb => Nat.lt_of_lt_of_le (h.old k hb) hk.size, h.n0, h.n1, h.o0, h.o1, h.i0, h.i1⟩
theorem Fb.keep {w w' : World} {gf nn : Nat} {out inn : Int} {F : Nat → List Pk} {B X : Nat → Prop} (h : Fb w gf nn out inn F B) (hk : Keep X w w') (hX : ∀ k, B k → ¬ X k) : Fb w' gf nn out inn F B := by
  obtain ⟨gl, go, cap, G, M, D, h⟩ := h
  exact ⟨gl, go, cap, G, M, D, h.keep hk hX⟩
theorem Fb.below {w w' : World} {gf nn : Nat} {out inn : Int} {F : Nat → List Pk} {B : Nat → Prop} (h : Fb w gf nn out inn F B) (hb : Below w.heap.size w w') : Fb w' gf nn out inn F B :=
  h.keep (X := fun _ => False) (Keep.of_below hb) (fun _ _ h => h)
theorem FbI.below {w w' : World} {gf nn : Nat} {out inn : Int} {F : Nat → List Pk} {B : Nat → Prop} {gl go cap : Nat} {G : Nat → Nat} {M D : Nat → Nat → Prop} (h : FbI w gf nn out inn F B gl go cap G M D) (hb : Below w.heap.size w w') : FbI w' gf nn out inn F B gl go cap G M D :=
  h.keep (X := fun _ => False) (Keep.of_below hb) (fun _ _ h => h)
/-- One of its rows is turned. -/
theorem FbI.step {w w' : World} {gf nn q : Nat} {out inn : Int} {F : Nat → List Pk} {B : Nat → Prop} {gl go cap : Nat} {G : Nat → Nat} {M D : Nat → Nat → Prop} {M' D' : Nat → Prop} {L : List Pk} (h : FbI w gf nn out inn F B gl go cap G M D) (hq : q < 4 * nn) (hk : Keep (M q) w w') (hqu : Qu w' (G q) M' D' (Rm out inn q) L)
    (hM : ∀ k, M' k → M q k ∨ w.heap.size ≤ k) (hD : ∀ k, D' k → D q k ∨ w.heap.size ≤ k) (hg : ∀ x ∈ L, Good nn x) (hr : (L.length : Int) ≤ Rm out inn q) :
    Keep B w w' ∧ FbI w' gf nn out inn (upd F q L) (fun k => B k ∨ (w.heap.size ≤ k ∧ k < w'.heap.size)) gl go cap G (upd M q M') (upd D q D') := by
  have nf : ¬ M q gf := fun hm => h.many.nz q hq gf (.inl hm) (.inl rfl)
  have nl : ¬ M q gl := fun hm => h.many.nz q hq gl (.inl hm) (.inr rfl)
  have hm := h.many.step hq hk hqu hM hD (fun k hz => by rcases hz with rfl | rfl <;> first | exact h.old _ h.mf | exact h.old _ h.ml)
  refine ⟨hk.mono (fun k _ hm => h.mem q hq k (.inl hm)), ⟨by rw [hk.cell _ (h.old _ h.mf) nf]; exact h.fc, fun q hq => by rw [hk.cell _ (h.old _ h.ml) nl]; exact h.lp q hq, fun q hq => by rw [hk.cell _ (h.old _ h.ml) nl]; exact h.lq q hq, h.cp,
    hm, fun y hy x hx => ?_, fun y hy => ?_, fun y hy k hyk => ?_, .inl h.mf, .inl h.ml, fun k hb => ?_, h.n0, h.n1, h.o0, h.o1, h.i0, h.i1⟩⟩
  · by_cases e : y = q
    · subst e; rw [upd_same] at hx; exact hg x hx
    · rw [upd_other _ _ e] at hx; exact h.good y hy x hx
  · by_cases e : y = q
    · subst e; rw [upd_same]; exact hr
    · rw [upd_other _ _ e]; exact h.rooms y hy
  · have hlt := hm.old hy hyk
    by_cases e : y = q
    · subst e
      rw [upd_same, upd_same] at hyk
      rcases hyk with hyk | hyk
      · rcases hM k hyk with hk' | hk'
        · exact .inl (h.mem y hy k (.inl hk'))
        · exact .inr ⟨hk', hlt⟩
      · rcases hD k hyk with hk' | hk'
        · exact .inl (h.mem y hy k (.inr hk'))
        · exact .inr ⟨hk', hlt⟩
    · rw [upd_other _ _ e, upd_other _ _ e] at hyk
      exact .inl (h.mem y hy k hyk)
  · rcases hb with hb | hb
    · exact Nat.lt_of_lt_of_le (h.old k hb) hk.size
    · exact hb.2

/-- What Send makes of a network: the answer, the rows. -/
inductive SendTo (nn : Nat) (out : Int) (F : Nat → List Pk) (x : Pk) : Int → (Nat → List Pk) → Prop
  | no : x.right = false → SendTo nn out F x 1 F
  | far : x.right = true → ((nn : Int) ≤ x.f ∨ (nn : Int) ≤ x.t) → SendTo nn out F x 1 F
  | full : x.right = true → x.f < nn → x.t < nn → ((F (pr (fromQ x))).length : Int) = out → SendTo nn out F x 5 F
  | ok : x.right = true → x.f < nn → x.t < nn → ((F (pr (fromQ x))).length : Int) < out → SendTo nn out F x 0 (upd F (pr (fromQ x)) (F (pr (fromQ x)) ++ [x]))
/-- What Deliver makes of it. -/
inductive DelTo (nn : Nat) (out inn : Int) (F : Nat → List Pk) (a bit mask : Int) : Int → (Nat → List Pk) → Prop
  | none : (a < 0 ∨ ((laneL F (2 * nn)).length : Int) ≤ a) → DelTo nn out inn F a bit mask 3 F
  | form (q k : Nat) (x : Pk) : q < 2 * nn → (F (pr q))[k]? = some x → a = ((laneL F q).length : Int) + k → wireB x bit mask = false → DelTo nn out inn F a bit mask 2 F
  | full (q k : Nat) (x : Pk) : q < 2 * nn → (F (pr q))[k]? = some x → a = ((laneL F q).length : Int) + k → wireB x bit mask = true → ((F (pr (toQ x) + 2)).length : Int) = Rm out inn (pr (toQ x) + 2) → DelTo nn out inn F a bit mask 5 F
  | ok (q k : Nat) (x : Pk) : q < 2 * nn → (F (pr q))[k]? = some x → a = ((laneL F q).length : Int) + k → wireB x bit mask = true → ((F (pr (toQ x) + 2)).length : Int) < Rm out inn (pr (toQ x) + 2) →
      DelTo nn out inn F a bit mask 0 (upd (upd F (pr (toQ x) + 2) (F (pr (toQ x) + 2) ++ [x])) (pr q) ((F (pr q)).eraseIdx k))
end Go.Proofs.Ytjdbjmfkheffdaa
end
section
namespace Go.Proofs.Ytjdbjmfkheffdaa
open Go.RowKit
set_option linter.unusedVariables false
set_option maxRecDepth 20000

/-- The document's network at block gr, its sides at block gs: row 4 i + j lies in cell 4 i + j. -/
structure DF (w : World) (gr gs N O I cap : Nat) (F : Nat → List Pk) (M : Nat → Nat → Prop) (D : Nat → Prop) : Prop where
  c0 : w.cell? ⟨gr, 0, none⟩ = some (.int .i64 (N : Int))
  c5 : w.cell? ⟨gr, 5, none⟩ = some (.int .i64 (O : Int))
  c6 : w.cell? ⟨gr, 6, none⟩ = some (.int .i64 (I : Int))
  cs : w.cell? ⟨gr, 8, none⟩ = some (.slice (some ⟨gs, 0, none⟩) N cap)
  net : Net w gs (4 * N) F M D
  lt : gr < w.heap.size
  ne : gr ≠ gs
  nm : ∀ q, q < 4 * N → ¬ M q gr
  nd : ¬ D gr
  n1 : N ≤ 6
  cp : N ≤ cap ∧ cap ≤ maxLen
  rm : ∀ q, q < 4 * N → ((F q).length : Int) ≤ 1000
  o1 : O ≤ 1000
theorem DF.keep {w w' : World} {gr gs N O I cap : Nat} {F : Nat → List Pk} {M : Nat → Nat → Prop} {D X : Nat → Prop} (h : DF w gr gs N O I cap F M D) (hk : Keep X w w') (hr : ¬ X gr) (hs : ¬ X gs) (hM : ∀ q k, q < 4 * N → M q k → ¬ X k) (hD : ∀ k, D k → ¬ X k) : DF w' gr gs N O I cap F M D :=
  ⟨(hk.cell 0 h.lt hr).trans h.c0, (hk.cell 5 h.lt hr).trans h.c5, (hk.cell 6 h.lt hr).trans h.c6, (hk.cell 8 h.lt hr).trans h.cs, h.net.keep hk hs hM hD, Nat.lt_of_lt_of_le h.lt hk.size, h.ne, h.nm, h.nd, h.n1, h.cp, h.rm, h.o1⟩
theorem DF.below {w w' : World} {gr gs N O I cap : Nat} {F : Nat → List Pk} {M : Nat → Nat → Prop} {D : Nat → Prop} (h : DF w gr gs N O I cap F M D) (hb : Below w.heap.size w w') : DF w' gr gs N O I cap F M D :=
  h.keep (X := fun _ => False) (Keep.of_below hb) id id (fun _ _ _ _ h => h) (fun _ _ h => h)
/-- A row's slice. -/
theorem DF.at {w : World} {gr gs N O I cap : Nat} {F : Nat → List Pk} {M : Nat → Nat → Prop} {D : Nat → Prop} (h : DF w gr gs N O I cap F M D) {q : Nat} (hq : q < 4 * N) : ∃ R a c, w.cell? ⟨gs, q, none⟩ = some (.slice a (F q).length c) ∧ PRow w (M q) D (F q) R a (F q).length c := h.net.row q hq
section
variable (w : World) {gr gs N O I cap : Nat} {F : Nat → List Pk} {M : Nat → Nat → Prop} {D : Nat → Prop}
theorem refWaiting_no (h : DF w gr gs N O I cap F M D) (i k : Int) (hi : i < 0 ∨ (N : Int) ≤ i) :
    Calls Try.prog 50 #[.pointer (some ⟨gr, 0, none⟩), .int .i64 i, .int .i64 k] w fun e w' => e = .returned (.int .i64 0) ∧ Below w.heap.size w w' := by
  have cs := h.cs
  have n1 := h.n1
  clear h
  by_cases h0 : i < 0
  · clear hi
    go_enter Try.func50, Try.ntmps50
    go_wp2
    go_ret
    exact ⟨rfl, Below.refl _ _⟩
  · have h1 := hi.resolve_left h0
    clear hi
    go_enter Try.func50, Try.ntmps50
    go_wp2
    go_ret
    exact ⟨rfl, Below.refl _ _⟩
theorem refWaiting_yes (h : DF w gr gs N O I cap F M D) (i k : Nat) (hi : i < N) (hk : k < 2) (x : Int) (hx : ((F (4 * i + 2 + k)).length : Int) = x) :
    Calls Try.prog 50 #[.pointer (some ⟨gr, 0, none⟩), .int .i64 (i : Int), .int .i64 (k : Int)] w fun e w' => e = .returned (.int .i64 x) ∧ Below w.heap.size w w' := by
  obtain ⟨R, a, c, hc, hp⟩ := h.at (q := 4 * i + 2 + k) (by omega)
  have hmx := h.rm (4 * i + 2 + k) (by omega)
  subst hx
  have cs := h.cs
  have n1 := h.n1
  have cp := h.cp.1
  have cp2 := h.cp.2
  unfold maxLen at cp2
  have i0 : (i : Int) < (N : Int) := by omega
  have hc' : w.cell? ⟨gs, i * 4 + 2 + k, none⟩ = some (.slice a (F (4 * i + 2 + k)).length c) := by rw [show i * 4 + 2 + k = 4 * i + 2 + k by omega]; exact hc
  clear h hp hc
  generalize (F (4 * i + 2 + k)).length = T at *
  go_enter Try.func50, Try.ntmps50
  go_wp2
  go_ret
  exact ⟨rfl, Below.refl _ _⟩
end
end Go.Proofs.Ytjdbjmfkheffdaa
end
section
namespace Go.Proofs.Ytjdbjmfkheffdaa
open Go.RowKit
set_option linter.unusedVariables false
set_option maxRecDepth 20000

theorem run_append_zero {P : Program} (w : World) (t ty e : TypeId) (i : TypeInfo) (ht : P.underlying t = some (.slice e)) (hi : P.info? e = some i) (a : Option Addr) (n cap : Nat) (hn : n ≤ cap) (b : Option Addr) (c : Nat) :
    (Builtin.append_ #[t, t] ty #[.slice a n cap, .slice b 0 c]).run P w = .ok (.slice a n cap) w := by
  have hf : (Builtin.firstCells i.size 0 (.slice b 0 c)).run P w = .ok #[] w := by
    cases b with
    | none => simp [Builtin.firstCells]
    | some x => exact run_firstCells_some (P := P) w i.size 0 x 0 c [] (by simp) (by simp)
  cases a with
  | none => simp [Builtin.append_, run_underlying ht, sizeOf, typeInfo, hi, Builtin.lenOf, hn, hf]
  | some x => simp [Builtin.append_, run_underlying ht, sizeOf, typeInfo, hi, Builtin.lenOf, hn, hf, storeCells]
theorem run_append_slv {P : Program} (w : World) (S : Nat → Prop) (t ty e : TypeId) (i : TypeInfo) (z : Value) (size bytes : Nat) (ht : P.underlying t = some (.slice e)) (hi : P.info? e = some i) (hz : i.zero = some z)
    (hsize : i.size = size) (hby : i.bytes = bytes) (hzs : z.cells.size = size) (hsz : 0 < size)
    (a : Option Addr) (n cap : Nat) (vs : List Value) (hr : Rw w S a n cap size vs)
    (b : Option Addr) (m c : Nat) (news : List Value) (hs : SlV w b m c size news) (h1 : ∀ u ∈ news, u.oneCell' = true)
    (h63 : n + m ≤ maxLen) (hbytes : (n + m) * bytes ≤ 140737488355328) :
    ∃ a' cap' w', (Builtin.append_ #[t, t] ty #[.slice a n cap, .slice b m c]).run P w = .ok (.slice a' (n + m) cap') w' ∧
      Rw w' (fun k => S k ∨ w.heap.size ≤ k) a' (n + m) cap' size (vs ++ news) ∧ Keep S w w' := by
  have hl := hs.len
  by_cases hm : m = 0
  · subst hm
    obtain rfl : news = [] := List.eq_nil_of_length_eq_zero (by simpa using hl)
    refine ⟨a, cap, w, run_append_zero w t ty e i ht hi a n cap hr.le b c, ?_, Keep.refl _ _⟩
    rw [List.append_nil]
    exact hr.imp (fun k _ h => .inl h)
  · have hpos : 0 < m * size := Nat.mul_pos (by omega) hsz
    rcases hs.row with h0 | ⟨blk, o, rfl, hc⟩
    · rw [h0] at hl; simp at hl; omega
    · exact run_append_rw w S t ty e i z size bytes ht hi hz hsize hby hzs hsz a n cap vs hr ⟨blk, o, none⟩ m c news (by omega) hl (fun j u hu => by rw [Addr.add_lit]; exact hc j u hu) h1 h63 hbytes
theorem wpList_append_slv {P : Program} (w : World) {ops : Array Oper} {rest : List Oper} {o : Oper} {act : Act} {Q : Exit → Act → World → Prop} (S : Nat → Prop)
    (hw : Region.wanted o (yielded ops act.tmps) = true) (s x : Operand) (t : TypeId) (hop : o.op = Op.call { callee := Callee.builtin Builtin.append, args := #[s, x], argTypes := #[t, t] })
    (e : TypeId) (i : TypeInfo) (z : Value) (size bytes : Nat) (ht : P.underlying t = some (.slice e)) (hi : P.info? e = some i) (hz : i.zero = some z)
    (hsize : i.size = size) (hby : i.bytes = bytes) (hzs : z.cells.size = size) (hsz : 0 < size)
    (a : Option Addr) (n cap : Nat) (vs : List Value) (hs : act.eval s = .slice a n cap) (hr : Rw w S a n cap size vs)
    (b : Option Addr) (m c : Nat) (news : List Value) (hx : act.eval x = .slice b m c) (hsv : SlV w b m c size news) (h1 : ∀ u ∈ news, u.oneCell' = true)
    (h63 : n + m ≤ maxLen) (hbytes : (n + m) * bytes ≤ 140737488355328)
    (hK : ∀ a' cap' w', Rw w' (fun k => S k ∨ w.heap.size ≤ k) a' (n + m) cap' size (vs ++ news) → Keep S w w' → wpList P ops Q rest (act.put o.dst (.slice a' (n + m) cap')) w') :
    wpList P ops Q (o :: rest) act w := by
  unfold wpList
  rw [if_pos hw]
  left
  obtain ⟨a', cap', w', hrun, r1, r2⟩ := run_append_slv (P := P) w S t o.type e i z size bytes ht hi hz hsize hby hzs hsz a n cap vs hr b m c news hsv h1 h63 hbytes
  unfold Oper.wp
  simp [execOp, hop, resolve, invoke, builtin, hs, hx, hrun, Result.andThen]
  exact hK a' cap' w' r1 r2
/-- One operation of a region in its order, by its run. -/
theorem list_take {P : Program} {ops : Array Oper} {rest : List Oper} {o : Oper} {a : Act} {w : World} {Q : Exit → Act → World → Prop} (v : Value) (w' : World) (hw : Region.wanted o (yielded ops a.tmps) = true)
    (hrun : (execOp a.eval o).run P w = .ok (.value v) w') (h : wpList P ops Q rest (a.put o.dst v) w') : wpList P ops Q (o :: rest) a w := by
  unfold wpList
  rw [if_pos hw]
  left
  unfold Oper.wp
  rw [hrun]
  exact h
theorem SlV.front {w : World} {a : Option Addr} {n cap es : Nat} {vs : List Value} (h : SlV w a n cap es vs) {k : Nat} (hk : k ≤ n) : SlV w a k cap es (vs.take (k * es)) := by
  have hl := h.len
  have hm : k * es ≤ n * es := Nat.mul_le_mul_right _ hk
  refine ⟨by rw [List.length_take]; omega, Nat.le_trans hk h.le, h.max, h.nil, ?_⟩
  rcases h.row with h0 | ⟨b, o, e, hc⟩
  · exact .inl (by rw [h0]; simp)
  · refine .inr ⟨b, o, e, fun i u hu => hc i u ?_⟩
    rw [List.getElem?_take] at hu
    split at hu
    · exact hu
    · cases hu
theorem SlV.rear {w : World} {b o n cap es : Nat} {vs : List Value} (h : SlV w (some ⟨b, o, none⟩) n cap es vs) {k : Nat} (hk : k ≤ n) {A : Addr} (hA : (if cap = k then some (⟨b, o, none⟩ : Addr) else some ⟨b, o + k * es, none⟩) = some A) : SlV w (some A) (n - k) (cap - k) es (vs.drop (k * es)) := by
  have hl := h.len
  have hle := h.le
  have hm : (n - k) * es = n * es - k * es := Nat.sub_mul _ _ _
  have hmx := h.max
  refine ⟨by rw [List.length_drop]; omega, by omega, by omega, fun h => (by cases h), ?_⟩
  by_cases hc : cap = k
  · left
    apply List.eq_nil_of_length_eq_zero
    rw [List.length_drop]
    have : n = k := by omega
    subst this
    omega
  · rw [if_neg hc] at hA
    obtain rfl := Option.some.inj hA
    rcases h.row with h0 | ⟨b', o', e, hcc⟩
    · exact .inl (by rw [h0]; simp)
    · simp at e
      obtain ⟨rfl, rfl⟩ := e
      refine .inr ⟨b, o + k * es, rfl, fun i u hu => ?_⟩
      rw [List.getElem?_drop] at hu
      rw [Nat.add_assoc]
      exact hcc _ u hu
/-- The two pieces, one behind the other, in new memory: one element is left out. -/
theorem slv_cells {w : World} {a : Option Addr} {n cap : Nat} {z : List Int} : SlV w a n cap 1 (cells z) → Sl w a n cap z := by
  intro h
  have hl := h.len
  refine ⟨by simpa [cells] using hl, h.le, h.max, h.nil, ?_⟩
  rcases h.row with h0 | ⟨b, o, e, hc⟩
  · exact .inl (by simpa [cells] using h0)
  · exact .inr ⟨b, o, e, fun i hi => hc i _ (by simp [cells, hi])⟩
theorem cells_slv {w : World} {a : Option Addr} {n cap : Nat} {z : List Int} (h : Sl w a n cap z) : SlV w a n cap 1 (cells z) := by
  have hl := h.len
  refine ⟨by simpa [cells] using hl, h.le, h.max, h.nil, ?_⟩
  rcases h.row with h0 | ⟨b, o, e, hc⟩
  · exact .inl (by simp [cells, h0])
  · refine .inr ⟨b, o, e, fun i u hu => ?_⟩
    obtain ⟨hi, rfl⟩ := cells_get hu
    exact hc i hi
end Go.Proofs.Ytjdbjmfkheffdaa
end
section
namespace Go.Proofs.Ytjdbjmfkheffdaa
open Go.RowKit
set_option linter.unusedVariables false
set_option maxRecDepth 20000

/-- One more row, beside the others. -/
theorem Many.add {w : World} {m g : Nat} {G : Nat → Nat} {M D : Nat → Nat → Prop} {room : Nat → Int} {F : Nat → List Pk} {Z M' D' : Nat → Prop} (h : Many w m G M D room F Z) (hqu : Qu w g M' D' (room m) (F m)) (hdj : ∀ q, q < m → ∀ k, M' k ∨ D' k → ¬ (M q k ∨ D q k)) (hz : ∀ k, M' k ∨ D' k → ¬ Z k) :
    Many w (m + 1) (upd G m g) (upd M m M') (upd D m D') room F Z := by
  refine ⟨fun x hx => ?_, fun x y hx hy hxy k h1 h2 => ?_, fun x hx k h1 hzz => ?_⟩
  · by_cases hxq : x = m
    · subst hxq; simp only [upd_same]; exact hqu
    · simp only [upd_other _ _ hxq]; exact h.qu x (by omega)
  · by_cases hxq : x = m
    · subst hxq
      rw [upd_same, upd_same] at h1
      rw [upd_other _ _ (Ne.symm hxy), upd_other _ _ (Ne.symm hxy)] at h2
      exact hdj y (by omega) k h1 h2
    · rw [upd_other _ _ hxq, upd_other _ _ hxq] at h1
      by_cases hyq : y = m
      · subst hyq
        rw [upd_same, upd_same] at h2
        exact hdj x (by omega) k h2 h1
      · rw [upd_other _ _ hyq, upd_other _ _ hyq] at h2
        exact h.dj x y (by omega) (by omega) hxy k h1 h2
  · by_cases hxq : x = m
    · subst hxq; rw [upd_same, upd_same] at h1; exact hz k h1 hzz
    · rw [upd_other _ _ hxq, upd_other _ _ hxq] at h1; exact h.nz x (by omega) k h1 hzz
theorem Many.upto {w : World} {m n : Nat} {G : Nat → Nat} {M D : Nat → Nat → Prop} {room : Nat → Int} {F : Nat → List Pk} {Z : Nat → Prop} (h : Many w m G M D room F Z) (e : m = n) : Many w n G M D room F Z := e ▸ h
theorem Many.zz {w : World} {m : Nat} {G : Nat → Nat} {M D : Nat → Nat → Prop} {room : Nat → Int} {F : Nat → List Pk} {Z Z' : Nat → Prop} (h : Many w m G M D room F Z) (hz : ∀ q, q < m → ∀ k, M q k ∨ D q k → ¬ Z' k) : Many w m G M D room F Z' := ⟨h.qu, h.dj, hz⟩
/-- The lanes' cells. -/
def lanesV (G : Nat → Nat) : Nat → List Value
  | 0 => []
  | q + 1 => lanesV G q ++ [.pointer (some ⟨G (pr q), 0, none⟩), .pointer (some ⟨G (pr q + 2), 0, none⟩)]
theorem lanesV_len (G : Nat → Nat) : ∀ m, (lanesV G m).length = m * 2
  | 0 => rfl
  | m + 1 => by rw [lanesV, List.length_append, lanesV_len G m]; simp; omega
theorem lanesV_at (G : Nat → Nat) : ∀ (m q : Nat), q < m → (lanesV G m)[q * 2]? = some (.pointer (some ⟨G (pr q), 0, none⟩)) ∧ (lanesV G m)[q * 2 + 1]? = some (.pointer (some ⟨G (pr q + 2), 0, none⟩))
  | 0, q, h => by omega
  | m + 1, q, h => by
    have hl := lanesV_len G m
    rw [lanesV]
    by_cases hq : q < m
    · obtain ⟨h1, h2⟩ := lanesV_at G m q hq
      exact ⟨by rw [List.getElem?_append_left (by omega)]; exact h1, by rw [List.getElem?_append_left (by omega)]; exact h2⟩
    · obtain rfl : q = m := by omega
      exact ⟨by rw [List.getElem?_append_right (by omega), hl, Nat.sub_self]; rfl, by rw [List.getElem?_append_right (by omega), hl, Nat.add_sub_cancel_left]; rfl⟩
theorem lanesV_upd (G : Nat → Nat) (x g : Nat) : ∀ m, 2 * m ≤ x → m % 2 = 0 → lanesV (upd G x g) m = lanesV G m := by
  have key : ∀ m, (∀ q, q < m → pr q ≠ x ∧ pr q + 2 ≠ x) → lanesV (upd G x g) m = lanesV G m := by
    intro m
    induction m with
    | zero => intro _; rfl
    | succ m ih =>
      intro h
      obtain ⟨h1, h2⟩ := h m (by omega)
      rw [lanesV, lanesV, ih (fun q hq => h q (by omega)), upd_other _ _ h1, upd_other _ _ h2]
  intro m hm h2
  refine key m (fun q hq => ?_)
  unfold pr
  omega
/-- On the way: j nodes are there. -/
structure NW (w0 w : World) (gf j : Nat) (out inn : Int) (G : Nat → Nat) (M D : Nat → Nat → Prop) (SL : Nat → Prop) (a : Option Addr) (cap : Nat) : Prop where
  fc : w.cell? ⟨gf, 0, none⟩ = some (.slice a (2 * j) cap)
  fz : w.frozen? ⟨gf, 0, none⟩ = false
  lt : gf < w0.heap.size + 2
  ge : w0.heap.size ≤ gf
  sz : w0.heap.size + 2 ≤ w.heap.size
  row : Rw w SL a (2 * j) cap 2 (lanesV G (2 * j))
  many : Many w (4 * j) G M D (Rm out inn) (fun _ => []) (fun k => k = gf ∨ SL k)
  lo : ∀ q, q < 4 * j → ∀ k, M q k ∨ D q k → w0.heap.size + 2 ≤ k
  slo : ∀ k, SL k → w0.heap.size + 2 ≤ k ∧ k < w.heap.size
theorem Rm_j (out inn : Int) (j : Nat) : Rm out inn (4 * j) = out ∧ Rm out inn (4 * j + 1) = out ∧ Rm out inn (4 * j + 2) = inn ∧ Rm out inn (4 * j + 3) = 1 := by
  unfold Rm
  refine ⟨?_, ?_, ?_, ?_⟩
  · rw [if_neg (by omega), if_neg (by omega)]
  · rw [if_neg (by omega), if_neg (by omega)]
  · rw [if_pos (by omega)]
  · rw [if_neg (by omega), if_pos (by omega)]
@[reducible] def one (g : Nat) : Nat → Prop := fun k => k = g
@[reducible] def noM : Nat → Prop := fun _ => False
/-- One node more. -/
theorem NW.grow {w0 w w4 w5 : World} {gf j : Nat} {out inn : Int} {G : Nat → Nat} {M D : Nat → Nat → Prop} {SL : Nat → Prop} {a a' : Option Addr} {cap cap' g1 g2 g3 g4 : Nat} (h : NW w0 w gf j out inn G M D SL a cap) (hb : Below w.heap.size w w4)
    (q1 : Qu w4 g1 (one g1) noM out []) (q2 : Qu w4 g2 (one g2) noM inn []) (q3 : Qu w4 g3 (one g3) noM out []) (q4 : Qu w4 g4 (one g4) noM 1 [])
    (o1 : w.heap.size ≤ g1) (o2 : g1 < g2) (o3 : g2 < g3) (o4 : g3 < g4)
    (hr : Rw w5 (fun k => SL k ∨ w4.heap.size ≤ k) a' (2 * j + 2) cap' 2 (lanesV G (2 * j) ++ [.pointer (some ⟨g1, 0, none⟩), .pointer (some ⟨g2, 0, none⟩), .pointer (some ⟨g3, 0, none⟩), .pointer (some ⟨g4, 0, none⟩)])) (hk : Keep SL w4 w5) :
    ∃ G' M' D', NW w0 (w5.setCell ⟨gf, 0, none⟩ (.slice a' (2 * j + 2) cap')) gf (j + 1) out inn G' M' D' (fun k => SL k ∨ (w4.heap.size ≤ k ∧ k < w5.heap.size)) a' cap' := by
  have sz := h.sz
  have z4 := hb.size
  have z5 := hk.size
  have hlt := h.lt
  have g4lt : g4 < w4.heap.size := q4.old g4 (.inl rfl)
  have hm4 := h.many.below hb
  have hold : ∀ q, q < 4 * j → ∀ k, M q k ∨ D q k → k < w.heap.size := fun q hq k hk => h.many.old hq hk
  have hslo := h.slo
  have nsl : ∀ k, w.heap.size ≤ k → ¬ (k = gf ∨ SL k) := fun k hk hz => by
    rcases hz with rfl | hz
    · omega
    · have := hslo k hz; omega
  obtain ⟨r0, r1, r2, r3⟩ := Rm_j out inn j
  -- the four rows
  have a1 := hm4.add (g := g1) (M' := one g1) (D' := noM) (by rw [r0]; exact q1) (fun q hq k hk h' => by
    have := hold q hq k h'
    have e : k = g1 := hk.resolve_right id
    omega) (fun k hk => by
      have e : k = g1 := hk.resolve_right id
      exact nsl k (by omega))
  have mem1 : ∀ q, q < 4 * j + 1 → ∀ k, upd M (4 * j) (one g1) q k ∨ upd D (4 * j) noM q k → k < w.heap.size ∨ k = g1 := by
    intro q hq k hk
    by_cases e : q = 4 * j
    · subst e; rw [upd_same, upd_same] at hk; exact .inr (hk.resolve_right id)
    · rw [upd_other _ _ e, upd_other _ _ e] at hk; exact .inl (hold q (by omega) k hk)
  have a2 := a1.add (g := g3) (M' := one g3) (D' := noM) (by rw [r1]; exact q3) (fun q hq k hk h' => by
    have := mem1 q hq k h'
    have e : k = g3 := hk.resolve_right id
    omega) (fun k hk => by have e : k = g3 := hk.resolve_right id
                           exact nsl k (by omega))
  have mem2 : ∀ q, q < 4 * j + 1 + 1 → ∀ k, upd (upd M (4 * j) (one g1)) (4 * j + 1) (one g3) q k ∨ upd (upd D (4 * j) noM) (4 * j + 1) noM q k → k < w.heap.size ∨ k = g1 ∨ k = g3 := by
    intro q hq k hk
    by_cases e : q = 4 * j + 1
    · subst e; rw [upd_same, upd_same] at hk; exact .inr (.inr (hk.resolve_right id))
    · rw [upd_other _ _ e, upd_other _ _ e] at hk; exact (mem1 q (by omega) k hk).imp id .inl
  have a3 := a2.add (g := g2) (M' := one g2) (D' := noM) (by show Qu _ _ _ _ (Rm out inn (4 * j + 2)) _; rw [r2]; exact q2) (fun q hq k hk h' => by
    have := mem2 q hq k h'
    have e : k = g2 := hk.resolve_right id
    omega) (fun k hk => by have e : k = g2 := hk.resolve_right id
                           exact nsl k (by omega))
  have mem3 : ∀ q, q < 4 * j + 1 + 1 + 1 → ∀ k, upd (upd (upd M (4 * j) (one g1)) (4 * j + 1) (one g3)) (4 * j + 1 + 1) (one g2) q k ∨ upd (upd (upd D (4 * j) noM) (4 * j + 1) noM) (4 * j + 1 + 1) noM q k → k < w.heap.size ∨ k = g1 ∨ k = g3 ∨ k = g2 := by
    intro q hq k hk
    by_cases e : q = 4 * j + 1 + 1
    · subst e; rw [upd_same, upd_same] at hk; exact .inr (.inr (.inr (hk.resolve_right id)))
    · rw [upd_other _ _ e, upd_other _ _ e] at hk
      rcases mem2 q (by omega) k hk with h1 | h1 | h1
      · exact .inl h1
      · exact .inr (.inl h1)
      · exact .inr (.inr (.inl h1))
  have a4 := a3.add (g := g4) (M' := one g4) (D' := noM) (by show Qu _ _ _ _ (Rm out inn (4 * j + 3)) _; rw [r3]; exact q4) (fun q hq k hk h' => by
    have := mem3 q hq k h'
    have e : k = g4 := hk.resolve_right id
    omega) (fun k hk => by have e : k = g4 := hk.resolve_right id
                           exact nsl k (by omega))
  have a5 := a4.upto (n := 4 * (j + 1)) (by omega)
  generalize hM' : upd (upd (upd (upd M (4 * j) (one g1)) (4 * j + 1) (one g3)) (4 * j + 1 + 1) (one g2)) (4 * j + 1 + 1 + 1) (one g4) = M' at *
  generalize hD' : upd (upd (upd (upd D (4 * j) noM) (4 * j + 1) noM) (4 * j + 1 + 1) noM) (4 * j + 1 + 1 + 1) noM = D' at *
  have mem4 : ∀ q, q < 4 * (j + 1) → ∀ k, M' q k ∨ D' q k → (q < 4 * j ∧ (M q k ∨ D q k)) ∨ (w.heap.size ≤ k ∧ k < w4.heap.size) := by
    intro q hq k hk
    subst hM' hD'
    by_cases e3 : q = 4 * j + 1 + 1 + 1
    · subst e3; rw [upd_same, upd_same] at hk; have e : k = g4 := hk.resolve_right id; exact .inr (by omega)
    rw [upd_other _ _ e3, upd_other _ _ e3] at hk
    by_cases e2 : q = 4 * j + 1 + 1
    · subst e2; rw [upd_same, upd_same] at hk; have e : k = g2 := hk.resolve_right id; exact .inr (by omega)
    rw [upd_other _ _ e2, upd_other _ _ e2] at hk
    by_cases e1 : q = 4 * j + 1
    · subst e1; rw [upd_same, upd_same] at hk; have e : k = g3 := hk.resolve_right id; exact .inr (by omega)
    rw [upd_other _ _ e1, upd_other _ _ e1] at hk
    by_cases e0 : q = 4 * j
    · subst e0; rw [upd_same, upd_same] at hk; have e : k = g1 := hk.resolve_right id; exact .inr (by omega)
    rw [upd_other _ _ e0, upd_other _ _ e0] at hk
    exact .inl ⟨by omega, hk⟩
  have nz5 : ∀ q, q < 4 * (j + 1) → ∀ k, M' q k ∨ D' q k → ¬ (SL k ∨ k = gf) ∧ k < w4.heap.size ∧ w0.heap.size + 2 ≤ k := by
    intro q hq k hk
    rcases mem4 q hq k hk with ⟨hq', hk'⟩ | hk'
    · have h1 := h.many.nz q hq' k hk'
      have h2 := hold q hq' k hk'
      have h3 := h.lo q hq' k hk'
      exact ⟨fun h => h1 (h.elim .inr .inl), by omega, h3⟩
    · have h1 := nsl k hk'.1
      exact ⟨fun h => h1 (h.elim .inr .inl), hk'.2, by omega⟩
  have k6 := Keep.one w5 gf 0 (.slice a' (2 * j + 2) cap')
  have ngs : ¬ SL gf := fun hs => by have := hslo gf hs; omega
  have a6 := (a5.keep hk (fun q hq k hk' hs => (nz5 q hq k hk').1 (.inl hs))).keep k6 (fun q hq k hk' e => (nz5 q hq k hk').1 (.inr e))
  refine ⟨_, M', D', ⟨?_, ?_, h.lt, h.ge, by rw [World.size_setCell]; omega, ?_, a6.zz (fun q hq k hk' hz => ?_), fun q hq k hk' => (nz5 q hq k hk').2.2, fun k hk' => ?_⟩⟩
  · have hc : w5.cell? ⟨gf, 0, none⟩ = some (.slice a (2 * j) cap) := by rw [hk.cell 0 (by omega) ngs, hb.cell (p := ⟨gf, 0, none⟩) (by simp only; omega)]; exact h.fc
    rw [World.cell?_setCell_same _ _ _ hc]
    rfl
  · rw [World.frozen?_setCell, hk.frozen 0 (by omega) ngs, hb.frozen (p := ⟨gf, 0, none⟩) (by simp only; omega)]; exact h.fz
  · have e : lanesV (upd (upd (upd (upd G (4 * j) g1) (4 * j + 1) g3) (4 * j + 1 + 1) g2) (4 * j + 1 + 1 + 1) g4) (2 * (j + 1)) = lanesV G (2 * j) ++ [.pointer (some ⟨g1, 0, none⟩), .pointer (some ⟨g2, 0, none⟩), .pointer (some ⟨g3, 0, none⟩), .pointer (some ⟨g4, 0, none⟩)] := by
      have p1 : pr (2 * j) = 4 * j := by unfold pr; omega
      have p2 : pr (2 * j + 1) = 4 * j + 1 := by unfold pr; omega
      rw [show 2 * (j + 1) = 2 * j + 1 + 1 by omega, lanesV, lanesV, p1, p2, lanesV_upd _ _ _ _ (by omega) (by omega), lanesV_upd _ _ _ _ (by omega) (by omega), lanesV_upd _ _ _ _ (by omega) (by omega), lanesV_upd _ _ _ _ (by omega) (by omega), List.append_assoc]
      have v0 : (upd (upd (upd (upd G (4 * j) g1) (4 * j + 1) g3) (4 * j + 1 + 1) g2) (4 * j + 1 + 1 + 1) g4) (4 * j) = g1 := by rw [upd_other _ _ (by omega), upd_other _ _ (by omega), upd_other _ _ (by omega), upd_same]
      have v1 : (upd (upd (upd (upd G (4 * j) g1) (4 * j + 1) g3) (4 * j + 1 + 1) g2) (4 * j + 1 + 1 + 1) g4) (4 * j + 1) = g3 := by rw [upd_other _ _ (by omega), upd_other _ _ (by omega), upd_same]
      have v2 : (upd (upd (upd (upd G (4 * j) g1) (4 * j + 1) g3) (4 * j + 1 + 1) g2) (4 * j + 1 + 1 + 1) g4) (4 * j + 2) = g2 := by rw [upd_other _ _ (by omega)]; exact upd_same _ (4 * j + 1 + 1) _
      have v3 : (upd (upd (upd (upd G (4 * j) g1) (4 * j + 1) g3) (4 * j + 1 + 1) g2) (4 * j + 1 + 1 + 1) g4) (4 * j + 1 + 2) = g4 := upd_same _ (4 * j + 1 + 1 + 1) _
      rw [v0, v1, v2, v3]
      rfl
    rw [e, show 2 * (j + 1) = 2 * j + 2 by omega]
    exact (hr.imp (T := fun k => SL k ∨ (w4.heap.size ≤ k ∧ k < w5.heap.size)) (fun k hk h => h.imp id (fun h => ⟨h, hk⟩))).keep k6 (fun k hk' e => by
      subst e
      rcases hk' with hk' | hk'
      · exact ngs hk'
      · omega)
  · have := nz5 q hq k hk'
    rcases hz with hz | hz | hz
    · exact this.1 (.inr hz)
    · exact this.1 (.inl hz)
    · omega
  · rw [World.size_setCell]
    rcases hk' with hk' | hk'
    · have := hslo k hk'; omega
    · omega
/-- All nodes are there. -/
theorem NW.done {w0 w : World} {gf nn : Nat} {out inn : Int} {G : Nat → Nat} {M D : Nat → Nat → Prop} {SL : Nat → Prop} {a : Option Addr} {cap : Nat} (h : NW w0 w gf nn out inn G M D SL a cap) (n0 : 1 ≤ nn) (n1 : nn ≤ 6) (o0 : 1 ≤ out) (o1 : out ≤ 1000) (i0 : 1 ≤ inn) (i1 : inn ≤ 1000) :
    ∃ B, Fb w gf nn out inn (fun _ => []) B ∧ ∀ k, B k → w0.heap.size ≤ k := by
  have sz := h.sz
  have hlt := h.lt
  have hge := h.ge
  rcases h.row.row with hr | ⟨b, o, rfl, hs, hb, hc, hf⟩
  · have := h.row.le; omega
  have hsb := h.slo b hs
  refine ⟨fun k => k = gf ∨ k = b ∨ ∃ q, q < 4 * nn ∧ (M q k ∨ D q k), ⟨b, o, cap, G, M, D, ⟨h.fc, fun q hq => ?_, fun q hq => ?_, ⟨h.row.le, h.row.max⟩, h.many.zz (fun q hq k hk hz => ?_), fun q _ x hx => (by cases hx), fun q hq => ?_, fun q hq k hk => .inr (.inr ⟨q, hq, hk⟩), .inl rfl, .inr (.inl rfl), fun k hk => ?_, n0, n1, o0, o1, i0, i1⟩⟩, fun k hk => ?_⟩
  · exact hc _ _ (lanesV_at G _ q hq).1
  · have := hc _ _ (lanesV_at G _ q hq).2
    rw [Nat.add_assoc]; exact this
  · refine h.many.nz q hq k hk ?_
    rcases hz with hz | rfl
    · exact .inl hz
    · exact .inr hs
  · unfold Rm; simp; repeat (first | omega | split)
  · rcases hk with rfl | rfl | ⟨q, hq, hk⟩
    · omega
    · omega
    · exact h.many.old hq hk
  · rcases hk with rfl | rfl | ⟨q, hq, hk⟩
    · omega
    · omega
    · have := h.lo q hq k hk; omega
end Go.Proofs.Ytjdbjmfkheffdaa
end
section
namespace Go.Proofs.Ytjdbjmfkheffdaa
open Go.RowKit
set_option linter.unusedVariables false
set_option maxRecDepth 20000

theorem Net.more {w : World} {gs m : Nat} {F : Nat → List Pk} {M : Nat → Nat → Prop} {D D' : Nat → Prop} (h : Net w gs m F M D) (hD : ∀ k, D k → D' k) (hM : ∀ q, q < m → ∀ k, M q k → ¬ D' k) (hg : ¬ D' gs) : Net w gs m F M D' := by
  refine ⟨fun q hq => ?_, h.fz, h.lt, h.dj, h.ngs, hg⟩
  obtain ⟨R, a, cap, hc, hp⟩ := h.row q hq
  exact ⟨R, a, cap, hc, hp.eq, hp.len, hp.row, fun r hr => (hp.dat r hr).imp (fun k _ h => hD k h), hp.old, hM q hq⟩
section
variable {w w1 : World} {gr gs N O I cap : Nat} {F : Nat → List Pk} {M : Nat → Nat → Prop} {D D' : Nat → Prop}
theorem DF.more (h : DF w gr gs N O I cap F M D) (hD : ∀ k, D k → D' k) (hM : ∀ q, q < 4 * N → ∀ k, M q k → ¬ D' k) (hs : ¬ D' gs) (hr : ¬ D' gr) : DF w gr gs N O I cap F M D' :=
  ⟨h.c0, h.c5, h.c6, h.cs, h.net.more hD hM hs, h.lt, h.ne, h.nm, hr, h.n1, h.cp, h.rm, h.o1⟩
/-- One row is turned: its packets first, then its slice. -/
theorem DF.set {q : Nat} {M' : Nat → Prop} {L : List Pk} {R : List (Pk × Value)} {a : Option Addr} {n c : Nat} (h : DF w gr gs N O I cap F M D) (hq : q < 4 * N) (hk : Keep (M q) w w1) (hp : PRow w1 M' D L R a n c) (hN : ∀ k, M' k → M q k ∨ w.heap.size ≤ k) (hL : (L.length : Int) ≤ 1000) :
    DF (w1.setCell ⟨gs, q, none⟩ (.slice a n c)) gr gs N O I cap (upd F q L) (upd M q M') D ∧ Keep (fun k => k = gs ∨ M q k) w (w1.setCell ⟨gs, q, none⟩ (.slice a n c)) := by
  obtain ⟨hn, hk2⟩ := h.net.set hq hk hp hN
  have hr : ¬ (gr = gs ∨ M q gr) := fun e => e.elim h.ne (h.nm q hq)
  refine ⟨⟨(hk2.cell 0 h.lt hr).trans h.c0, (hk2.cell 5 h.lt hr).trans h.c5, (hk2.cell 6 h.lt hr).trans h.c6, (hk2.cell 8 h.lt hr).trans h.cs, hn, Nat.lt_of_lt_of_le h.lt hk2.size, h.ne, fun x hx e => ?_, h.nd, h.n1, h.cp, fun x hx => ?_, h.o1⟩, hk2⟩
  · by_cases hxq : x = q
    · subst hxq; rw [upd_same] at e
      rcases hN gr e with e | e
      · exact h.nm x hx e
      · have := h.lt; omega
    · rw [upd_other _ _ hxq] at e; exact h.nm x hx e
  · by_cases hxq : x = q
    · subst hxq; rw [upd_same]; exact hL
    · rw [upd_other _ _ hxq]; exact h.rm x hx
end
theorem pflat_take (R : List (Pk × Value)) : ∀ k, pflat (R.take k) = (pflat R).take (k * 9) := by
  induction R with
  | nil => intro k; simp [pflat]
  | cons r R ih =>
    intro k
    cases k with
    | zero => simp [pflat]
    | succ k =>
      rw [List.take_succ_cons, pflat_cons, pflat_cons, ih, Nat.succ_mul, Nat.add_comm (k * 9) 9]
      rw [← pcells_len r.1 r.2, List.take_length_add_append]
theorem pflat_drop (R : List (Pk × Value)) : ∀ k, pflat (R.drop k) = (pflat R).drop (k * 9) := by
  induction R with
  | nil => intro k; simp [pflat]
  | cons r R ih =>
    intro k
    cases k with
    | zero => simp
    | succ k =>
      rw [List.drop_succ_cons, pflat_cons, ih, Nat.succ_mul, Nat.add_comm (k * 9) 9]
      rw [← pcells_len r.1 r.2, List.drop_length_add_append]
/-- A row of packets, made since w. -/
structure UA (w V : World) (D MA : Nat → Prop) (L : List Pk) (R : List (Pk × Value)) (a : Option Addr) (cap : Nat) : Prop where
  bel : Below w.heap.size w V
  row : PRow V MA D L R a L.length cap
  lo : ∀ k, MA k → w.heap.size ≤ k
  dl : ∀ k, D k → k < w.heap.size
theorem UA.nil {w V : World} {D : Nat → Prop} (hb : Below w.heap.size w V) (hD : ∀ k, D k → k < w.heap.size) : UA w V D noM [] [] none 0 := ⟨hb, prow_nil _ _, fun k h => h.elim, hD⟩
theorem UA.below {w V V' : World} {D MA : Nat → Prop} {L : List Pk} {R : List (Pk × Value)} {a : Option Addr} {cap : Nat} (h : UA w V D MA L R a cap) (hb : Below V.heap.size V V') : UA w V' D MA L R a cap := ⟨next h.bel hb, h.row.below hb, h.lo, h.dl⟩
theorem pflat_ones' {w : World} {D : Nat → Prop} {R : List (Pk × Value)} (h : ∀ r ∈ R, Dat w D r.1 r.2) : ∀ u ∈ pflat R, u.oneCell' = true := by
  intro u hu
  unfold pflat at hu
  obtain ⟨r, hr, hu⟩ := List.mem_flatMap.1 hu
  exact pcells_one (h r hr).one u hu
/-- Packets that lie anywhere are put behind it. -/
theorem wpList_append_ua {w V : World} {D MA : Nat → Prop} {L Lq : List Pk} {R R2 : List (Pk × Value)} {a b : Option Addr} {cap c m : Nat} (h : UA w V D MA L R a cap) (hsl : SlV V b m c 9 (pflat R2)) (hd : ∀ r ∈ R2, Dat V D r.1 r.2) (he : R2.map Prod.fst = Lq) (hm : Lq.length = m) (hl : L.length ≤ 100000) (hl2 : m ≤ 1000)
    {ops : Array Oper} {rest : List Oper} {o : Oper} {act : Act} {Q : Exit → Act → World → Prop} (hw : Region.wanted o (yielded ops act.tmps) = true) (s x : Operand) (hop : o.op = Op.call { callee := Callee.builtin Builtin.append, args := #[s, x], argTypes := #[53, 53] })
    (hs : act.eval s = .slice a L.length cap) (hx : act.eval x = .slice b m c)
    (hK : ∀ a' cap' w' MA', UA w w' D MA' (L ++ Lq) (R ++ R2) a' cap' → Keep MA V w' → wpList Try.prog ops Q rest (act.put o.dst (.slice a' (L.length + m) cap')) w') :
    wpList Try.prog ops Q (o :: rest) act V := by
  obtain ⟨f0, hi, hp0, hp1, hp2⟩ := info_parts Try.infoPk
  refine wpList_append_slv V MA hw s x 53 hop 26 f0 (zeroPk.val (.slice none 0 0)) 9 88 Try.underlying53 hi hp0 hp1 hp2 rfl (by decide) a L.length cap (pflat R) hs h.row.row b m c (pflat R2) hx hsl (pflat_ones' hd) (by unfold maxLen; omega) (by omega) ?_
  intro a' cap' w' hrw hk
  have hz := hk.size
  have hz0 := h.bel.size
  refine hK a' cap' w' (fun k => MA k ∨ (V.heap.size ≤ k ∧ k < w'.heap.size)) ⟨hk.after h.bel h.lo, ?_, ?_, h.dl⟩ hk
  · refine ⟨by rw [List.map_append, h.row.eq, he], by rw [List.length_append], ?_, ?_, ?_, ?_⟩
    · rw [pflat_append, List.length_append, hm]
      exact hrw.imp (fun k hk e => e.imp id (fun e => ⟨e, hk⟩))
    · intro r hr
      rcases List.mem_append.1 hr with hr | hr
      · exact (h.row.dat r hr).keep hk (fun k e hm => h.row.dj k hm e)
      · exact (hd r hr).keep hk (fun k e hm => h.row.dj k hm e)
    · intro k e
      rcases e with e | e
      · exact Nat.lt_of_lt_of_le (h.row.old k e) hz
      · exact e.2
    · intro k e e2
      rcases e with e | e
      · exact h.row.dj k e e2
      · have := h.dl k e2; omega
  · intro k e
    rcases e with e | e
    · exact h.lo k e
    · omega
end Go.Proofs.Ytjdbjmfkheffdaa
end
section
namespace Go.Proofs.Ytjdbjmfkheffdaa
open Go.RowKit
set_option linter.unusedVariables false
set_option maxRecDepth 20000

def ansI (k : Int) : Int := if k = 1 then 7 else if k = 2 ∨ k = 4 ∨ k = 5 then 8 else if k = 3 ∨ k = 6 then 9 else 0
theorem request_any (k : Int) (w : World) :
    Calls Try.prog 34 #[.int .i64 k] w fun e w' => e = .returned (.bool (inB 1 k 6)) ∧ w = w' := by
  go_enter Try.func34, Try.ntmps34
  go_wp2_with (go_at_call 53; refine (pw_any _ _ _ _).mono ?_; rintro e w1 ⟨rfl, rfl⟩)
  go_ret
  exact ⟨rfl, rfl⟩
theorem ans_no {k : Int} (h : k < 1 ∨ 6 < k) : ansI k = 0 := by unfold ansI; rw [if_neg (by omega), if_neg (by omega), if_neg (by omega)]
theorem ans_yes {k : Int} (h : 1 ≤ k ∧ k ≤ 6) : 7 ≤ ansI k ∧ ansI k ≤ 9 := by unfold ansI; repeat (first | omega | split)
end Go.Proofs.Ytjdbjmfkheffdaa
end
