/- The contracts of a lane's calls, of Under, of find. Conditions: as each theorem states them.
The contracts of Room, Waiting, Packet. Conditions: as each theorem states them.
Regions that draw their order, make memory and then write what was there: as Take6, where what comes last waits for what is taken first by way of others (Y). Nothing of the program is named here.
The contracts of Send, Request, Reply. Conditions: as each theorem states them.
The contracts of Request and Reply. Conditions: as each theorem states them.
The contracts of the document's Room, sort, Take. Conditions: as each theorem states them.
Regions that draw their order and write: an operation that only reads, and reads the same as long as I holds of the world, may be taken first; the operations of X, which wait for it, need not keep I. Nothing of the program is named here. -/
import Derived.Test.YtjdbjmfkheffdaaPart5
import Derived.Test.YtjdbjmfkheffdaaPart4
import Derived.Test.YtjdbjmfkheffdaaPktRight
section
namespace Go.Proofs.Ytjdbjmfkheffdaa
open Go.RowKit
set_option linter.unusedVariables false
set_option maxRecDepth 20000

theorem laneUnder_n (w : World) {g q : Nat} {M D : Nat → Prop} {room : Int} {L : List Pk} (h : Qu w g M D room L) (n : Int) (hn : (L.length : Int) = n) :
    Calls Try.prog 41 #[laneV g q] w fun e w' => e = .returned (.int .i64 n) ∧ Below w.heap.size w w' := by
  go_enter Try.func41, Try.ntmps41
  go_wp2_with (go_at_call 62; refine (P.len_n _ (h.below (ba (Below.refl _ _))) n hn).mono ?_; rintro e w1 ⟨rfl, rfl⟩)
  go_ret
  exact ⟨rfl, ba (Below.refl _ _)⟩
theorem laneRoom_n (w : World) {g q : Nat} {M D : Nat → Prop} {room : Int} {L : List Pk} (h : Qu w g M D room L) (h0 : 0 ≤ room) (h1 : room ≤ 1000) (n : Int) (hn : room - L.length = n) :
    Calls Try.prog 44 #[laneV g q] w fun e w' => e = .returned (.int .i64 n) ∧ Below w.heap.size w w' := by
  go_enter Try.func44, Try.ntmps44
  go_wp2_with (go_at_call 65; refine (P.room_n _ (h.below (ba (Below.refl _ _))) h0 (by omega) n hn).mono ?_; rintro e w1 ⟨rfl, k, rfl⟩)
  go_ret
  exact ⟨rfl, next (ba (Below.refl _ _)) (below_dn _ _)⟩
theorem laneWaiting_n (w : World) {g p : Nat} {M D : Nat → Prop} {room : Int} {L : List Pk} (h : Qu w g M D room L) (n : Int) (hn : (L.length : Int) = n) :
    Calls Try.prog 42 #[laneV p g] w fun e w' => e = .returned (.int .i64 n) ∧ Below w.heap.size w w' := by
  go_enter Try.func42, Try.ntmps42
  go_wp2_with (go_at_call 63; refine (len_n _ (h.below (ba (Below.refl _ _))) n hn).mono ?_; rintro e w1 ⟨rfl, rfl⟩)
  go_ret
  exact ⟨rfl, ba (Below.refl _ _)⟩
theorem lane_bound {w : World} {gf nn : Nat} {out inn : Int} {F : Nat → List Pk} {B : Nat → Prop} {gl go cap : Nat} {G : Nat → Nat} {M D : Nat → Nat → Prop} (h : FbI w gf nn out inn F B gl go cap G M D) : ∀ m, m ≤ 2 * nn → ((laneL F m).length : Int) ≤ m * out
  | 0, _ => by simp [laneL]
  | m + 1, hm => by
    have h1 := lane_bound h m (by omega)
    have h2 := h.rooms (pr m) (by have := pr_lt (q := m) (nn := nn) (by omega); omega)
    rw [Rm_out] at h2
    rw [laneL_succ, List.length_append]
    have : ((m + 1 : Nat) : Int) * out = (m : Int) * out + out := by rw [Int.natCast_add, Int.add_mul]; simp
    rw [this]
    omega
theorem lane_max {w : World} {gf nn : Nat} {out inn : Int} {F : Nat → List Pk} {B : Nat → Prop} {gl go cap : Nat} {G : Nat → Nat} {M D : Nat → Nat → Prop} (h : FbI w gf nn out inn F B gl go cap G M D) : (laneL F (2 * nn)).length ≤ 12000 := by
  have h1 := lane_bound h (2 * nn) (Nat.le_refl _)
  have n1 := h.n1
  have o1 := h.o1
  have o0 := h.o0
  have : ((2 * nn : Nat) : Int) * out ≤ 12 * out := Int.mul_le_mul_of_nonneg_right (by omega) (by omega)
  omega
set_option maxHeartbeats 600000 in
theorem under_any (w : World) {gf nn : Nat} {out inn : Int} {F : Nat → List Pk} {B : Nat → Prop} (h : Fb w gf nn out inn F B) (n : Int) (hn : ((laneL F (2 * nn)).length : Int) = n) :
    Calls Try.prog 14 #[.pointer (some ⟨gf, 0, none⟩)] w fun e w' => e = .returned (.int .i64 n) ∧ Below w.heap.size w w' := by
  subst hn
  obtain ⟨gl, go, cap, G, M, D, h⟩ := h
  have fc := h.fc
  have n1 := h.n1
  have l1 := h.old _ h.mf
  have l2 := h.old _ h.ml
  go_enter Try.func14, Try.ntmps14
  go_wp2_with fail
  go_loopw [3, 11] (fun c i wr => ∃ k : Nat, k ≤ 2 * nn ∧ i = .int .i64 k ∧ c = .int .i64 ((laneL F k).length : Int) ∧ Below w.heap.size w wr) (fun _ i _ => 2 * nn - (intOf i).toNat)
  case atStart => exact ⟨0, by omega, rfl, rfl, Below.refl _ _⟩
  case round =>
    obtain ⟨k, hk, rfl, rfl, hb⟩ := hrel
    have h' := h.below hb
    have hmx := lane_max h
    by_cases hlt : k < 2 * nn
    · have c1 := h'.lp k hlt
      have c2 := h'.lq k hlt
      have l3 := h'.old _ h'.ml
      have hq := h'.many.qu (pr k) (by have := pr_lt hlt; omega)
      have hs : ((laneL F (k + 1)).length : Int) = ((laneL F k).length : Int) + ((F (pr k)).length : Int) := by rw [laneL_succ, List.length_append]; omega
      have hm1 := lane_mono F (show k + 1 ≤ 2 * nn by omega)
      have HS : Hid (((laneL F (k + 1)).length : Int) = ((laneL F k).length : Int) + ((F (pr k)).length : Int)) := hs
      have b0 : (0 : Int) ≤ ((laneL F k).length : Int) := by omega
      have b1 : ((laneL F k).length : Int) ≤ 100000000 := by omega
      have b2 : (0 : Int) ≤ ((F (pr k)).length : Int) := by omega
      have b3 : ((F (pr k)).length : Int) ≤ 100000000 := by omega
      clear hs hm1 hmx
      generalize ((laneL F k).length : Int) = A at *
      generalize hB : ((F (pr k)).length : Int) = C at *
      go_wp2_with (go_at_call 41; refine (laneUnder_n _ (hq.below (ba (Below.refl _ _))) C hB).mono ?_; rintro e w1 ⟨rfl, hb1⟩)
      exact ⟨⟨k + 1, by omega, by go_num, by rw [HS.out], next (next hb (ba (Below.refl _ _))) hb1⟩, by simp [intOf]; omega⟩
    · obtain rfl : k = 2 * nn := by omega
      go_wp2
      go_ret
      exact ⟨rfl, hb⟩
set_option maxHeartbeats 1000000 in
theorem find_yes (w : World) {gf nn : Nat} {out inn : Int} {F : Nat → List Pk} {B : Nat → Prop} {gl go cap : Nat} {G : Nat → Nat} {M D : Nat → Nat → Prop} (h : FbI w gf nn out inn F B gl go cap G M D) {q k : Nat} (hq : q < 2 * nn) (hk : k < (F (pr q)).length) (a : Int) (ha : a = ((laneL F q).length : Int) + k) :
    Calls Try.prog 36 #[.pointer (some ⟨gf, 0, none⟩), .int .i64 a] w fun e w' => e = .returned (.tuple #[laneV (G (pr q)) (G (pr q + 2)), .int .i64 (k : Int), .bool true]) ∧ Below w.heap.size w w' := by
  have fc := h.fc
  have n1 := h.n1
  have l1 := h.old _ h.mf
  have l2 := h.old _ h.ml
  have hmx := lane_max h
  have hq1 := lane_mono F (show q + 1 ≤ 2 * nn by omega)
  have ha1 : a ≤ 100000000 := by rw [laneL_succ, List.length_append] at hq1; omega
  go_enter Try.func36, Try.ntmps36
  go_wp2_with fail
  go_loopw [1, 14] (fun c i wr => ∃ j : Nat, j ≤ q ∧ i = .int .i64 j ∧ c = .int .i64 (a - ((laneL F j).length : Int)) ∧ Below (w.heap.size + 1) (w.alloc (.cells #[.pointer none, .pointer none] 71)) wr) (fun _ i _ => 2 * nn - (intOf i).toNat)
  case atStart => exact ⟨0, by omega, rfl, by simp [laneL], Below.refl _ _⟩
  case round =>
    obtain ⟨j, hj, rfl, rfl, hb0⟩ := hrel
    have hbw : Below w.heap.size w wr := next (ba (Below.refl _ _)) (by simpa using hb0)
    have h' := h.below hbw
    have hr1 : wr.frozen? ⟨w.heap.size, 0, none⟩ = false := by rw [hb0.frozen (p := ⟨w.heap.size, 0, none⟩) (by simp only; omega)]; simp
    have hr2 : wr.frozen? ⟨w.heap.size, 1, none⟩ = false := by rw [hb0.frozen (p := ⟨w.heap.size, 1, none⟩) (by simp only; omega)]; simp
    have hr3 : wr.cell? ⟨w.heap.size, 0, none⟩ = some (.pointer none) := by rw [hb0.cell (p := ⟨w.heap.size, 0, none⟩) (by simp only; omega)]; simp
    have hr4 : wr.cell? ⟨w.heap.size, 1, none⟩ = some (.pointer none) := by rw [hb0.cell (p := ⟨w.heap.size, 1, none⟩) (by simp only; omega)]; simp
    have hr5 : w.heap.size < wr.heap.size := by have := hb0.size; simp at this; omega
    have hlt : j < 2 * nn := by omega
    have c1 := h'.lp j hlt
    have c2 := h'.lq j hlt
    have l3 := h'.old _ h'.ml
    have hqu := h'.many.qu (pr j) (by have := pr_lt hlt; omega)
    have hs : ((laneL F (j + 1)).length : Int) = ((laneL F j).length : Int) + ((F (pr j)).length : Int) := by rw [laneL_succ, List.length_append]; omega
    have HS : Hid (((laneL F (j + 1)).length : Int) = ((laneL F j).length : Int) + ((F (pr j)).length : Int)) := hs
    have hm2 := lane_mono F (show j + 1 ≤ 2 * nn by omega)
    have b2 : (0 : Int) ≤ ((F (pr j)).length : Int) := by omega
    have b3 : ((F (pr j)).length : Int) ≤ 100000000 := by omega
    by_cases hjq : j < q
    · have hm1 := lane_mono F (show j + 1 ≤ q by omega)
      have b4 : ((F (pr j)).length : Int) ≤ a - ((laneL F j).length : Int) := by omega
      obtain ⟨A, hA⟩ : ∃ A : Int, a - ((laneL F j).length : Int) = A := ⟨_, rfl⟩
      have b5 : A ≤ 100000000 := by omega
      rw [hA] at b4
      rw [hA]
      have HA : Hid (a - ((laneL F j).length : Int) = A) := hA
      clear hs hm1 hm2 hmx hq1 ha ha1 hk hA
      generalize hB : ((F (pr j)).length : Int) = C at *
      go_wp2_with (go_at_call 41; first
        | (have mk := hb1; clear mk; refine (laneUnder_n _ (hqu.below (next (ba (Below.refl _ _)) hb1)) C hB).mono ?_; rintro e w2 ⟨rfl, hb2⟩)
        | (refine (laneUnder_n _ (hqu.below (ba (Below.refl _ _))) C hB).mono ?_; rintro e w1 ⟨rfl, hb1⟩; obtain ⟨hc1, hf1⟩ := bcell hb1; have z1 := hb1.size))
      refine ⟨⟨j + 1, by omega, by go_num, by rw [HS.out, ← HA.out]; congr 1; omega, ?_⟩, by simp [intOf]; omega⟩
      exact hb0.trans ((next (next (ba (Below.refl _ _)) hb1) hb2).mono (by have := hb0.size; simp at this; omega))
    · obtain rfl : j = q := by omega
      have e : a - ((laneL F j).length : Int) = (k : Int) := by omega
      rw [e]
      have b4 : (k : Int) < ((F (pr j)).length : Int) := by omega
      clear hs hm2 hmx hq1 ha ha1 hk e
      generalize hB : ((F (pr j)).length : Int) = C at *
      go_wp2_with (go_at_call 41; refine (laneUnder_n _ (hqu.below (ba (Below.refl _ _))) C hB).mono ?_; rintro e w1 ⟨rfl, hb1⟩; obtain ⟨hc1, hf1⟩ := bcell hb1; have z1 := hb1.size)
      have r3 := ((next (ba (Below.refl _ _)) hb1).cell (p := ⟨w.heap.size, 0, none⟩) hr5).trans hr3
      have r4 := ((next (ba (Below.refl _ _)) hb1).cell (p := ⟨w.heap.size, 1, none⟩) hr5).trans hr4
      refine bodyPost_ret (v := .tuple #[laneV (G (pr j)) (G (pr j + 2)), .int .i64 (k : Int), .bool true]) (by simp [results, Try.results36, go_sem, *]) rfl ⟨rfl, ?_⟩
      exact ((next (next hbw (ba (Below.refl _ _))) hb1).setCell (Nat.le_refl _) _).setCell (Nat.le_refl _) _
set_option maxHeartbeats 1000000 in
theorem find_no (w : World) {gf nn : Nat} {out inn : Int} {F : Nat → List Pk} {B : Nat → Prop} {gl go cap : Nat} {G : Nat → Nat} {M D : Nat → Nat → Prop} (h : FbI w gf nn out inn F B gl go cap G M D) (a : Int) (ha : a < 0 ∨ ((laneL F (2 * nn)).length : Int) ≤ a) (h63 : a < 9223372036854775808) :
    Calls Try.prog 36 #[.pointer (some ⟨gf, 0, none⟩), .int .i64 a] w fun e w' => (∃ p q i, e = .returned (.tuple #[.agg #[.pointer p, .pointer q], .int .i64 i, .bool false])) ∧ Below w.heap.size w w' := by
  have fc := h.fc
  have n1 := h.n1
  have n0 := h.n0
  have l1 := h.old _ h.mf
  have l2 := h.old _ h.ml
  have hmx := lane_max h
  go_enter Try.func36, Try.ntmps36
  go_wp2_with fail
  go_loopw [1, 14] (fun c i wr => ∃ j : Nat, j ≤ 2 * nn ∧ (a < 0 → j = 0) ∧ i = .int .i64 j ∧ c = .int .i64 (a - ((laneL F j).length : Int)) ∧ Below (w.heap.size + 1) (w.alloc (.cells #[.pointer none, .pointer none] 71)) wr) (fun _ i _ => 2 * nn - (intOf i).toNat)
  case atStart => exact ⟨0, by omega, fun _ => rfl, rfl, by simp [laneL], Below.refl _ _⟩
  case round =>
    obtain ⟨j, hj, hj0, rfl, rfl, hb0⟩ := hrel
    have hbw : Below w.heap.size w wr := next (ba (Below.refl _ _)) (by simpa using hb0)
    have h' := h.below hbw
    have hr1 : wr.frozen? ⟨w.heap.size, 0, none⟩ = false := by rw [hb0.frozen (p := ⟨w.heap.size, 0, none⟩) (by simp only; omega)]; simp
    have hr2 : wr.frozen? ⟨w.heap.size, 1, none⟩ = false := by rw [hb0.frozen (p := ⟨w.heap.size, 1, none⟩) (by simp only; omega)]; simp
    have hr3 : wr.cell? ⟨w.heap.size, 0, none⟩ = some (.pointer none) := by rw [hb0.cell (p := ⟨w.heap.size, 0, none⟩) (by simp only; omega)]; simp
    have hr4 : wr.cell? ⟨w.heap.size, 1, none⟩ = some (.pointer none) := by rw [hb0.cell (p := ⟨w.heap.size, 1, none⟩) (by simp only; omega)]; simp
    have hr5 : w.heap.size < wr.heap.size := by have := hb0.size; simp at this; omega
    by_cases hlt : j < 2 * nn
    · have c1 := h'.lp j hlt
      have c2 := h'.lq j hlt
      have l3 := h'.old _ h'.ml
      have hqu := h'.many.qu (pr j) (by have := pr_lt hlt; omega)
      have hs : ((laneL F (j + 1)).length : Int) = ((laneL F j).length : Int) + ((F (pr j)).length : Int) := by rw [laneL_succ, List.length_append]; omega
      have HS : Hid (((laneL F (j + 1)).length : Int) = ((laneL F j).length : Int) + ((F (pr j)).length : Int)) := hs
      have hm2 := lane_mono F (show j + 1 ≤ 2 * nn by omega)
      have b2 : (0 : Int) ≤ ((F (pr j)).length : Int) := by omega
      have b3 : ((F (pr j)).length : Int) ≤ 100000000 := by omega
      by_cases hneg : a < 0
      · obtain rfl := hj0 hneg
        simp only [Nat.zero_mul, Nat.add_zero] at c1 c2
        have e : a - ((laneL F 0).length : Int) = a := by simp [laneL]
        rw [e]
        have b4 : a < ((F (pr 0)).length : Int) := by omega
        clear hs hm2 hmx ha e hj0
        generalize hB : ((F (pr 0)).length : Int) = C at *
        go_wp2_with (go_at_call 41; refine (laneUnder_n _ (hqu.below (ba (Below.refl _ _))) C hB).mono ?_; rintro e w1 ⟨rfl, hb1⟩; obtain ⟨hc1, hf1⟩ := bcell hb1; have z1 := hb1.size)
        have r3 := ((next (ba (Below.refl _ _)) hb1).cell (p := ⟨w.heap.size, 0, none⟩) hr5).trans hr3
        have r4 := ((next (ba (Below.refl _ _)) hb1).cell (p := ⟨w.heap.size, 1, none⟩) hr5).trans hr4
        refine bodyPost_ret (v := .tuple #[laneV (G (pr 0)) (G (pr 0 + 2)), .int .i64 a, .bool false]) (by simp [results, Try.results36, go_sem, *]) rfl ⟨⟨_, _, _, rfl⟩, ?_⟩
        exact ((next (next hbw (ba (Below.refl _ _))) hb1).setCell (Nat.le_refl _) _).setCell (Nat.le_refl _) _
      · have ha2 := ha.resolve_left hneg
        have b4 : ((F (pr j)).length : Int) ≤ a - ((laneL F j).length : Int) := by omega
        obtain ⟨A, hA⟩ : ∃ A : Int, a - ((laneL F j).length : Int) = A := ⟨_, rfl⟩
        rw [hA] at b4
        rw [hA]
        have HA : Hid (a - ((laneL F j).length : Int) = A) := hA
        have HN : Hid (¬ a < 0) := hneg
        have h64 : IntKind.i64.wrap (A - ((F (pr j)).length : Int)) = A - ((F (pr j)).length : Int) := (IntWalk.i64_left _).trans (IntWalk.wrap64_in _ (by omega))
        clear hs hm2 hmx ha ha2 hA hneg hj0 h63
        generalize hB : ((F (pr j)).length : Int) = C at *
        go_wp2_with (go_at_call 41; first
          | (have mk := hb1; clear mk; refine (laneUnder_n _ (hqu.below (next (ba (Below.refl _ _)) hb1)) C hB).mono ?_; rintro e w2 ⟨rfl, hb2⟩)
          | (refine (laneUnder_n _ (hqu.below (ba (Below.refl _ _))) C hB).mono ?_; rintro e w1 ⟨rfl, hb1⟩; obtain ⟨hc1, hf1⟩ := bcell hb1; have z1 := hb1.size))
        refine ⟨⟨j + 1, by omega, fun h => absurd h (by have := HN.out; omega), by go_num, by rw [HS.out, ← HA.out]; congr 1; omega, ?_⟩, by simp [intOf]; omega⟩
        exact hb0.trans ((next (next (ba (Below.refl _ _)) hb1) hb2).mono (by have := hb0.size; simp at this; omega))
    · obtain rfl : j = 2 * nn := by omega
      clear hj0 ha
      go_wp2
      refine bodyPost_ret (v := .tuple #[.agg #[.pointer none, .pointer none], .int .i64 0, .bool false]) (by simp [results, Try.results36, go_sem, *]) rfl ⟨⟨_, _, _, rfl⟩, ?_⟩
      exact (hbw.setCell (Nat.le_refl _) _).setCell (Nat.le_refl _) _
end Go.Proofs.Ytjdbjmfkheffdaa
end
section
namespace Go.Proofs.Ytjdbjmfkheffdaa
open Go.RowKit
set_option linter.unusedVariables false
set_option maxRecDepth 20000

section
variable (w : World) {gf nn : Nat} {out inn : Int} {F : Nat → List Pk} {B : Nat → Prop}
theorem room_no (h : Fb w gf nn out inn F B) (i : Int) (b : Bool) (hi : i < 0 ∨ (nn : Int) ≤ i) :
    Calls Try.prog 20 #[.pointer (some ⟨gf, 0, none⟩), .int .i64 i, .bool b] w fun e w' => e = .returned (.int .i64 0) ∧ Below w.heap.size w w' := by
  obtain ⟨gl, go, cap, G, M, D, h⟩ := h
  go_enter Try.func20, Try.ntmps20
  go_wp2_with (go_at_call 32; refine (isNode_no _ h i hi).mono ?_; rintro e w1 ⟨rfl, rfl⟩)
  go_ret
  exact ⟨rfl, Below.refl _ _⟩
theorem room_req (h : Fb w gf nn out inn F B) (i : Nat) (hi : i < nn) (x : Int) (hx : x = (i : Int)) (n : Int) (hn : out - ((F (pr (2 * i))).length : Int) = n) :
    Calls Try.prog 20 #[.pointer (some ⟨gf, 0, none⟩), .int .i64 x, .bool true] w fun e w' => e = .returned (.int .i64 n) ∧ Below w.heap.size w w' := by
  obtain ⟨gl, go, cap, G, M, D, h⟩ := h
  subst hx
  have i0 : (0 : Int) ≤ (i : Int) := by omega
  have i1 : (i : Int) < (nn : Int) := by omega
  have HN : Hid (out - ((F (pr (2 * i))).length : Int) = n) := hn
  clear hn
  have hq := h.many.qu (pr (2 * i)) (by have := pr_lt (q := 2 * i) (nn := nn) (by omega); omega)
  rw [Rm_out] at hq
  have o0 := h.o0
  have o1 := h.o1
  go_enter Try.func20, Try.ntmps20
  go_wp2_with (first
    | (go_at_call 32; refine (isNode_yes _ h _ i0 i1).mono ?_; rintro e w1 ⟨rfl, rfl⟩)
    | (go_at_call 33; refine (lane_req _ h i hi _ rfl).mono ?_; rintro e w1 ⟨rfl, hb1⟩)
    | (go_at_call 44; refine (laneRoom_n _ (hq.below hb1) (by omega) (by omega) n HN.out).mono ?_; rintro e w2 ⟨rfl, hb2⟩))
  go_ret
  exact ⟨rfl, next hb1 hb2⟩
theorem room_ans (h : Fb w gf nn out inn F B) (i : Nat) (hi : i < nn) (x : Int) (hx : x = (i : Int)) (n : Int) (hn : out - ((F (pr (2 * i + 1))).length : Int) = n) :
    Calls Try.prog 20 #[.pointer (some ⟨gf, 0, none⟩), .int .i64 x, .bool false] w fun e w' => e = .returned (.int .i64 n) ∧ Below w.heap.size w w' := by
  obtain ⟨gl, go, cap, G, M, D, h⟩ := h
  subst hx
  have i0 : (0 : Int) ≤ (i : Int) := by omega
  have i1 : (i : Int) < (nn : Int) := by omega
  have HN : Hid (out - ((F (pr (2 * i + 1))).length : Int) = n) := hn
  clear hn
  have hq := h.many.qu (pr (2 * i + 1)) (by have := pr_lt (q := 2 * i + 1) (nn := nn) (by omega); omega)
  rw [Rm_out] at hq
  have o0 := h.o0
  have o1 := h.o1
  go_enter Try.func20, Try.ntmps20
  go_wp2_with (first
    | (go_at_call 32; refine (isNode_yes _ h _ i0 i1).mono ?_; rintro e w1 ⟨rfl, rfl⟩)
    | (go_at_call 33; refine (lane_ans _ h i hi _ rfl).mono ?_; rintro e w1 ⟨rfl, hb1⟩)
    | (go_at_call 44; refine (laneRoom_n _ (hq.below hb1) (by omega) (by omega) n HN.out).mono ?_; rintro e w2 ⟨rfl, hb2⟩))
  go_ret
  exact ⟨rfl, next hb1 hb2⟩
theorem waiting_no (h : Fb w gf nn out inn F B) (i : Int) (hi : i < 0 ∨ (nn : Int) ≤ i) :
    Calls Try.prog 15 #[.pointer (some ⟨gf, 0, none⟩), .int .i64 i] w fun e w' => e = .returned (.tuple #[.int .i64 0, .int .i64 0]) ∧ Below w.heap.size w w' := by
  obtain ⟨gl, go, cap, G, M, D, h⟩ := h
  go_enter Try.func15, Try.ntmps15
  go_wp2_with (go_at_call 32; refine (isNode_no _ h i hi).mono ?_; rintro e w1 ⟨rfl, rfl⟩)
  refine bodyPost_ret (v := .tuple #[.int .i64 0, .int .i64 0]) (by simp [results, Try.results15, go_sem, *]) rfl ⟨rfl, Below.refl _ _⟩
theorem waiting_yes (h : Fb w gf nn out inn F B) (i : Nat) (hi : i < nn) (x : Int) (hx : x = (i : Int)) (n m : Int) (hn : ((F (pr (2 * i) + 2)).length : Int) = n) (hm : ((F (pr (2 * i + 1) + 2)).length : Int) = m) :
    Calls Try.prog 15 #[.pointer (some ⟨gf, 0, none⟩), .int .i64 x] w fun e w' => e = .returned (.tuple #[.int .i64 n, .int .i64 m]) ∧ Below w.heap.size w w' := by
  obtain ⟨gl, go, cap, G, M, D, h⟩ := h
  subst hx
  have i0 : (0 : Int) ≤ (i : Int) := by omega
  have i1 : (i : Int) < (nn : Int) := by omega
  have HN : Hid (((F (pr (2 * i) + 2)).length : Int) = n) := hn
  have HM : Hid (((F (pr (2 * i + 1) + 2)).length : Int) = m) := hm
  clear hn hm
  have hq := h.many.qu (pr (2 * i) + 2) (pr_lt (by omega))
  have hr := h.many.qu (pr (2 * i + 1) + 2) (pr_lt (by omega))
  go_enter Try.func15, Try.ntmps15
  go_wp2_with (first
    | (go_at_call 32; refine (isNode_yes _ h _ i0 i1).mono ?_; rintro e w1 ⟨rfl, rfl⟩)
    | (have mk := hb2; clear mk; go_at_call 33; refine (lane_ans _ ((h.below hb1).below hb2) i hi _ rfl).mono ?_; rintro e w3 ⟨rfl, hb3⟩)
    | (go_at_call 33; refine (lane_req _ h i hi _ rfl).mono ?_; rintro e w1 ⟨rfl, hb1⟩)
    | (have mk := hb3; clear mk; go_at_call 42; refine (laneWaiting_n _ (((hr.below hb1).below hb2).below hb3) m HM.out).mono ?_; rintro e w4 ⟨rfl, hb4⟩)
    | (go_at_call 42; refine (laneWaiting_n _ (hq.below hb1) n HN.out).mono ?_; rintro e w2 ⟨rfl, hb2⟩))
  refine bodyPost_ret (v := .tuple #[.int .i64 n, .int .i64 m]) (by simp [results, Try.results15, go_sem, *]) rfl ⟨rfl, next (next (next hb1 hb2) hb3) hb4⟩
set_option maxHeartbeats 400000 in
theorem packet_no (h : Fb w gf nn out inn F B) (a : Int) (ha : a < 0 ∨ ((laneL F (2 * nn)).length : Int) ≤ a) (h63 : a < 9223372036854775808) :
    Calls Try.prog 27 #[.pointer (some ⟨gf, 0, none⟩), .int .i64 a] w fun e w' => e = .returned (.tuple #[zeroPk.val (.slice none 0 0), .bool false]) ∧ Below w.heap.size w w' := by
  obtain ⟨gl, go, cap, G, M, D, h⟩ := h
  have HA : Hid (a < 0 ∨ ((laneL F (2 * nn)).length : Int) ≤ a) := ha
  have H63 : Hid (a < 9223372036854775808) := h63
  clear ha h63
  go_enter Try.func27, Try.ntmps27
  go_wp2_with (go_at_call 36; refine (find_no _ (h.below (ba (Below.refl _ _))) a HA.out H63.out).mono ?_; rintro e w1 ⟨⟨p, q, i, rfl⟩, hb1⟩; have bx := (Bx.made w zeroPk (.slice none 0 0)).next hb1; obtain ⟨q0, q1, q2, q3, q4, q5, q6, q7, q8, qf, ql⟩ := bx; simp only [zeroPk] at q0 q1 q2 q3 q4 q5 q6 q7 q8)
  refine bodyPost_ret (v := .tuple #[zeroPk.val (.slice none 0 0), .bool false]) (by simp [results, Try.results27, go_sem, zeroPk, *]) rfl ⟨rfl, ?_⟩
  exact ba (far9 (g := w.heap.size) (y := zeroPk) (v := .slice none 0 0) (W := w1) (P := fun V => Below w.heap.size w V) (fun V o u h => h.setCell (by simp) u) (next (ba (Below.refl _ _)) hb1))
set_option maxHeartbeats 1000000 in
theorem packet_yes (h : Fb w gf nn out inn F B) {q k : Nat} {x : Pk} (hq : q < 2 * nn) (hx : (F (pr q))[k]? = some x) (a : Int) (ha : a = ((laneL F q).length : Int) + k) :
    Calls Try.prog 27 #[.pointer (some ⟨gf, 0, none⟩), .int .i64 a] w fun e w' => ∃ d, e = .returned (.tuple #[x.val d, .bool true]) ∧ Below w.heap.size w w' ∧ Own w' w.heap.size d x.z := by
  obtain ⟨gl, go, cap, G, M, D, h⟩ := h
  have hk : k < (F (pr q)).length := (List.getElem?_eq_some_iff.1 hx).1
  have HA : Hid (a = ((laneL F q).length : Int) + k) := ha
  have HX : Hid ((F (pr q))[k]? = some x) := hx
  clear ha hx
  have hqu := h.many.qu (pr q) (by have := pr_lt hq; omega)
  go_enter Try.func27, Try.ntmps27
  go_wp2_with (first
    | (go_at_call 36; refine (find_yes _ (h.below (ba (Below.refl _ _))) hq hk a HA.out).mono ?_; rintro e w1 ⟨rfl, hb1⟩; have bx1 := (Bx.made w zeroPk (.slice none 0 0)).next hb1; have z1 := bx1.lt)
    | (go_at_call 37; refine (P.get_some _ (hqu.below (next (next (ba (Below.refl _ _)) hb1) (ba (Below.refl _ _)))) k x HX.out _ rfl).mono ?_; rintro e w2 ⟨d, rfl, hb2, ho2⟩; have bx2 := (bx1.next (ba (o := .cells #[.pointer (some ⟨G (pr q), 0, none⟩), .pointer (some ⟨G (pr q + 2), 0, none⟩)] 71) (Below.refl _ _))).next hb2; clear bx1; obtain ⟨q0, q1, q2, q3, q4, q5, q6, q7, q8, qf, ql⟩ := bx2; simp only [zeroPk] at q0 q1 q2 q3 q4 q5 q6 q7 q8; obtain ⟨a2, c2, rfl, hs2⟩ := ho2.sl' rfl; clear hs2))
  refine bodyPost_ret (v := .tuple #[x.val (.slice a2 x.z.length c2), .bool true]) (by simp [results, Try.results27, go_sem, *]) rfl ⟨_, rfl, ?_, ?_⟩
  · exact far9 (g := w.heap.size) (y := x) (v := .slice a2 x.z.length c2) (W := w2) (P := fun V => Below w.heap.size w V) (fun V o u h => h.setCell (by simp) u) (next (next (next (ba (Below.refl _ _)) hb1) (ba (Below.refl _ _))) hb2)
  · refine Own.low (base := w.heap.size + 1) ?_ (by omega)
    exact far9 (g := w.heap.size) (y := x) (v := .slice a2 x.z.length c2) (W := w2) (P := fun V => Own V (w.heap.size + 1) (.slice a2 x.z.length c2) x.z) (fun V o u h => h.set (by simp) u) (ho2.low (by simp; omega))
end
end Go.Proofs.Ytjdbjmfkheffdaa
end
section
namespace Go.Proofs.Ytjdbjmfkheffdaa
open Go.RowKit
set_option linter.unusedVariables false

section
variable {P : Program} {ops : Array Oper} {Q : Exit → Act → World → Prop} {w0 : World} {X : List Nat}

theorem wpAnyX_firstY {Y : List Nat} {i : Nat} {oi : Oper} {v : Value} (hXY : X.all (fun j => Y.contains j) = true) (hi : ops[i]? = some oi) (hsel : ∀ (j : Nat) (o : Oper) cs b, ops[j]? = some o → o.op ≠ .select cs b)
    (hQ : ∀ c a w, Q (.panic c) (a.put oi.dst v) w → Q (.panic c) a w) :
    ∀ (fuel : Nat) (listed : Array Bool) (a : Act) (W : Up w0), (∀ j ∈ Y, listed.getD j true = false ∧ (waitsOn ops j i = true ∨ ∃ k ∈ Y, waitsOn ops j k = true)) →
      (∀ j oj, ops[j]? = some oj → j ≠ i → listed.getD j true = false → (∀ e ∈ oj.after, Region.binds .any e = true → e.on ≠ i) → oi.apart ops oj = true) →
      i ∈ Region.ready .any ops listed → Mild P ops w0 oi v a →
      (∀ u : Up W.1, wpAnyX P ops Q w0 X fuel (listed.setIfInBounds i true) (a.put oi.dst v) u.1) → wpAnyX P ops Q w0 X (fuel + 1) listed a W.1 := by
  intro fuel
  induction fuel with
  | zero =>
    intro listed a W _ _ hr hy H
    refine ⟨fun h => (by rw [h] at hr; cases hr), fun j hj => ?_⟩
    by_cases hji : j = i
    · subst hji; exact hy.wpOp hi W fun u => .inr ⟨(W.trans u).2, fun u' => H (u.trans u')⟩
    · have := ready_mono hj hji
      rw [(H (Up.self _)).1] at this
      cases this
  | succ fuel ih =>
    intro listed a W hY hfree hr hy H
    refine ⟨fun h => (by rw [h] at hr; cases hr), fun j hj => ?_⟩
    by_cases hji : j = i
    · subst hji; exact hy.wpOp hi W fun u => .inr ⟨(W.trans u).2, fun u' => H (u.trans u')⟩
    · have h1 := (H (Up.self _)).2 j (ready_mono hj hji)
      obtain ⟨hjun, oj, hoj, hall⟩ := mem_ready.1 hj
      have hnot : ∀ e ∈ oj.after, Region.binds .any e = true → e.on ≠ i := fun e he hb heq => by
        have g1 := hall e he hb
        have g0 := (mem_ready.1 hr).1
        rw [heq] at g1
        rcases Nat.lt_or_ge i listed.size with h' | h'
        · simp [h'] at g0 g1; rw [g0] at g1; cases g1
        · simp [Array.getElem?_eq_none h'] at g1
      have h2 := wpOp_mild hoj (hfree j oj hoj hji hjun hnot) (fun cs b => hsel i oi cs b hi) (fun cs b => hsel j oj cs b hoj) hQ hy h1
      have hfree' : ∀ k ok, ops[k]? = some ok → k ≠ i → (listed.setIfInBounds j true).getD k true = false →
          (∀ e ∈ ok.after, Region.binds .any e = true → e.on ≠ i) → oi.apart ops ok = true := fun k ok hk hki hun hno => by
        refine hfree k ok hk hki ?_ hno
        by_cases hjk : j = k
        · subst hjk; exact hjun
        · rw [getD_set_ne true hjk] at hun; exact hun
      have hri : i ∈ Region.ready .any ops (listed.setIfInBounds j true) := ready_mono hr (Ne.symm hji)
      have hjY : j ∉ Y := fun hm => by
        obtain ⟨_, hw⟩ := hY j hm
        rcases hw with hw | ⟨k, hk, hw⟩
        · obtain ⟨e, he, hb, hon⟩ := waitsOn_spec hw hoj
          exact hnot e he hb hon
        · obtain ⟨e, he, hb, hon⟩ := waitsOn_spec hw hoj
          have g1 := hall e he hb
          have g0 := (hY k hk).1
          rw [hon] at g1
          rcases Nat.lt_or_ge k listed.size with h' | h'
          · simp [h'] at g0 g1; rw [g0] at g1; cases g1
          · simp [Array.getElem?_eq_none h'] at g1
      have hjx : X.contains j = false := by
        cases hc : X.contains j
        · rfl
        · exfalso
          have hm : j ∈ X := by simpa using hc
          exact hjY (by simpa using List.all_eq_true.1 hXY j hm)
      have hY' : ∀ k ∈ Y, (listed.setIfInBounds j true).getD k true = false ∧ (waitsOn ops k i = true ∨ ∃ k' ∈ Y, waitsOn ops k k' = true) := fun k hk => by
        obtain ⟨g0, g1⟩ := hY k hk
        exact ⟨by rw [getD_set_ne true (fun e => hjY (by rw [e]; exact hk))]; exact g0, g1⟩
      refine wpOp_mono (fun a' w' h3 => ?_) h2
      obtain ⟨hy', h3⟩ := h3
      rcases h3 with ⟨hx, _⟩ | ⟨hB, h3⟩
      · rw [hjx] at hx; cases hx
      refine .inr ⟨hB, fun u => ?_⟩
      refine ih (listed.setIfInBounds j true) a' ⟨u.1, next hB u.2⟩ hY' hfree' hri hy' fun u' => ?_
      rw [Array.setIfInBounds_comm _ _ hji]
      exact h3 (u.trans u')

/-- All of Y are still to come, and each waits for i, or for another of Y. -/
def waitsY (ops : Array Oper) (Y : List Nat) (listed : Array Bool) (i : Nat) : Bool := Y.all fun j => !listed.getD j true && (waitsOn ops j i || Y.any fun k => waitsOn ops j k)
theorem mildy_take (Y : List Nat) (i : Nat) {l rest : List Oper} {oi : Oper} {v : Value} {fuel : Nat} {listed : Array Bool} {a : Act} (hd : l.drop i = oi :: rest) (hs : Region.noSelect l.toArray = true) (hXY : X.all (fun j => Y.contains j) = true) (hwa : waitsY l.toArray Y listed i = true)
    (hf : Region.free .any l.toArray listed i = true) (hr : (Region.ready .any l.toArray listed).contains i = true) (hQ : ∀ c a w, Q (.panic c) (a.put oi.dst v) w → Q (.panic c) a w)
    (hw : Region.wanted oi (yielded l.toArray a.tmps) = true) (hy : ∀ (W : Up w0) (K : Act → Prop), K (a.put oi.dst v) → oi.quiet P a (fun w' => ∃ u : Up W.1, w' = u.1) K)
    (h : MildX P l.toArray Q w0 X fuel (listed.setIfInBounds i true) (a.put oi.dst v)) : MildX P l.toArray Q w0 X (fuel + 1) listed a := fun W =>
  wpAnyX_firstY hXY (of_drop hd) (Region.noSelect_spec hs) hQ fuel listed a W (fun j hj => by
    have := List.all_eq_true.1 hwa j hj
    simp only [Bool.and_eq_true, Bool.not_eq_true', Bool.or_eq_true] at this
    refine ⟨this.1, this.2.imp id fun h => ?_⟩
    obtain ⟨k, hk, h⟩ := List.any_eq_true.1 h
    exact ⟨k, hk, h⟩) (Region.free_spec (of_drop hd) hf) (by simpa using hr) (.inl ⟨hw, hy⟩) fun u => h (W.trans u)
theorem mildx_done {fuel : Nat} {listed : Array Bool} {a : Act} (hr : Region.ready .any ops listed = []) (h : ∀ W : Up w0, Q .normal a W.1) : MildX P ops Q w0 X fuel listed a := fun W => by
  cases fuel with
  | zero => exact ⟨hr, h W⟩
  | succ n => exact ⟨fun _ => h W, by rw [hr]; intro i hi; cases hi⟩
end
end Go.Proofs.Ytjdbjmfkheffdaa
end
section
namespace Go.Proofs.Ytjdbjmfkheffdaa
open Go.RowKit
set_option linter.unusedVariables false
set_option maxRecDepth 20000

theorem laneSend_full (w : World) {g q : Nat} {M D : Nat → Prop} {room : Int} {L : List Pk} (h : Qu w g M D room L) (x : Pk) (a : Option Addr) (n cap : Nat) (h0 : 0 ≤ room) (h1 : room ≤ 1000) (hr : (L.length : Int) = room) :
    Calls Try.prog 35 #[laneV g q, x.val (.slice a n cap)] w fun e w' => e = .returned (.int .i64 5) ∧ Below w.heap.size w w' := by
  have HR : Hid ((L.length : Int) = room) := hr
  clear hr
  unfold Pk.val
  go_enter Try.func35, Try.ntmps35
  go_wp2_with (go_at_call 54; refine (P.put_full _ (h.below (ba (ba (Below.refl _ _)))) x a n cap h0 (by omega) HR.out).mono ?_; rintro e w1 ⟨rfl, hb1⟩)
  go_ret
  exact ⟨rfl, next (ba (ba (Below.refl _ _))) hb1⟩
theorem laneSend_ok (w : World) {g q : Nat} {M D : Nat → Prop} {room : Int} {L : List Pk} (h : Qu w g M D room L) (x : Pk) (a : Option Addr) (n cap : Nat) (hsl : Sl w a n cap x.z) (hn : n ≤ 1000) (h0 : 0 ≤ room) (h1 : room ≤ 1000) (hr : (L.length : Int) < room) :
    Calls Try.prog 35 #[laneV g q, x.val (.slice a n cap)] w fun e w' => e = .returned (.int .i64 0) ∧ Keep M w w' ∧
      ∃ M' D', Qu w' g M' D' room (L ++ [x]) ∧ (∀ k, M' k → M k ∨ w.heap.size ≤ k) ∧ (∀ k, D' k → D k ∨ w.heap.size ≤ k) := by
  have HR : Hid ((L.length : Int) < room) := hr
  clear hr
  unfold Pk.val
  go_enter Try.func35, Try.ntmps35
  go_wp2_with (go_at_call 54; refine (P.put_ok _ (h.below (ba (ba (Below.refl _ _)))) x a n cap (hsl.below (ba (ba (Below.refl _ _)))) (by omega) h0 (by omega) HR.out).mono ?_; rintro e w1 ⟨rfl, hk1, M', D', hq1, hM1, hD1⟩)
  go_ret
  refine ⟨rfl, Keep.pre (ba (ba (Below.refl _ _))) hk1, M', D', hq1, fun k hk => (hM1 k hk).imp id (fun h => ?_), fun k hk => (hD1 k hk).imp id (fun h => ?_)⟩ <;> (simp at h; omega)
theorem laneArrive_full (w : World) {g p : Nat} {M D : Nat → Prop} {room : Int} {L : List Pk} (h : Qu w g M D room L) (x : Pk) (a : Option Addr) (n cap : Nat) (h0 : 0 ≤ room) (h1 : room ≤ 1000) (hr : (L.length : Int) = room) :
    Calls Try.prog 39 #[laneV p g, x.val (.slice a n cap)] w fun e w' => e = .returned (.int .i64 5) ∧ Below w.heap.size w w' := by
  have HR : Hid ((L.length : Int) = room) := hr
  clear hr
  unfold Pk.val
  go_enter Try.func39, Try.ntmps39
  go_wp2_with (go_at_call 60; refine (put_full _ (h.below (ba (ba (Below.refl _ _)))) x a n cap h0 (by omega) HR.out).mono ?_; rintro e w1 ⟨rfl, hb1⟩)
  go_ret
  exact ⟨rfl, next (ba (ba (Below.refl _ _))) hb1⟩
theorem laneArrive_ok (w : World) {g p : Nat} {M D : Nat → Prop} {room : Int} {L : List Pk} (h : Qu w g M D room L) (x : Pk) (a : Option Addr) (n cap : Nat) (hsl : Sl w a n cap x.z) (hn : n ≤ 1000) (h0 : 0 ≤ room) (h1 : room ≤ 1000) (hr : (L.length : Int) < room) :
    Calls Try.prog 39 #[laneV p g, x.val (.slice a n cap)] w fun e w' => e = .returned (.int .i64 0) ∧ Keep M w w' ∧
      ∃ M' D', Qu w' g M' D' room (L ++ [x]) ∧ (∀ k, M' k → M k ∨ w.heap.size ≤ k) ∧ (∀ k, D' k → D k ∨ w.heap.size ≤ k) := by
  have HR : Hid ((L.length : Int) < room) := hr
  clear hr
  unfold Pk.val
  go_enter Try.func39, Try.ntmps39
  go_wp2_with (go_at_call 60; refine (put_ok _ (h.below (ba (ba (Below.refl _ _)))) x a n cap (hsl.below (ba (ba (Below.refl _ _)))) (by omega) h0 (by omega) HR.out).mono ?_; rintro e w1 ⟨rfl, hk1, M', D', hq1, hM1, hD1⟩)
  go_ret
  refine ⟨rfl, Keep.pre (ba (ba (Below.refl _ _))) hk1, M', D', hq1, fun k hk => (hM1 k hk).imp id (fun h => ?_), fun k hk => (hD1 k hk).imp id (fun h => ?_)⟩ <;> (simp at h; omega)
/-- A packet's lane. -/
theorem lane_of (w : World) {gf nn : Nat} {out inn : Int} {F : Nat → List Pk} {B : Nat → Prop} {gl go cap : Nat} {G : Nat → Nat} {M D : Nat → Nat → Prop} (h : FbI w gf nn out inn F B gl go cap G M D) (x : Pk) (i : Nat) (h1 : i < nn) (v : Int) (hv : v = (i : Int)) :
    Calls Try.prog 33 #[.pointer (some ⟨gf, 0, none⟩), .int .i64 v, .bool (inB 1 x.k 6)] w fun e w' => e = .returned (laneV (G (pr (2 * i + sortN x))) (G (pr (2 * i + sortN x) + 2))) ∧ Below w.heap.size w w' := by
  unfold sortN
  cases hb : inB 1 x.k 6
  · exact lane_ans w h i h1 v hv
  · exact lane_req w h i h1 v hv
/-- Send, by what it makes of the network. -/
theorem send_err (w : World) {gf nn : Nat} {out inn : Int} {F : Nat → List Pk} {B : Nat → Prop} (h : Fb w gf nn out inn F B) (x : Pk) (a : Option Addr) (n cap : Nat) (hsl : Sl w a n cap x.z) (hr : x.right = false) :
    Calls Try.prog 12 #[.pointer (some ⟨gf, 0, none⟩), x.val (.slice a n cap)] w fun e w' => e = .returned (.int .i64 1) ∧ Below w.heap.size w w' := by
  have HE : Hid (x.err = 1) := Pk.err_f hr
  clear hr
  unfold Pk.val
  go_enter Try.func12, Try.ntmps12
  go_wp2_with (go_at_call 31; refine (check_any x a n cap _ (hsl.below (ba (Below.refl _ _)))).mono ?_; rintro e w1 ⟨rfl, hb1⟩; rw [HE.out])
  go_ret
  exact ⟨rfl, next (ba (Below.refl _ _)) hb1⟩
set_option maxHeartbeats 400000 in
theorem send_far (w : World) {gf nn : Nat} {out inn : Int} {F : Nat → List Pk} {B : Nat → Prop} (h : Fb w gf nn out inn F B) (x : Pk) (a : Option Addr) (n cap : Nat) (hsl : Sl w a n cap x.z) (hr : x.right = true) (hf : (nn : Int) ≤ x.f ∨ (nn : Int) ≤ x.t) :
    Calls Try.prog 12 #[.pointer (some ⟨gf, 0, none⟩), x.val (.slice a n cap)] w fun e w' => e = .returned (.int .i64 1) ∧ Below w.heap.size w w' := by
  obtain ⟨gl, go, cp, G, M, D, h⟩ := h
  have HE : Hid (x.err = 0) := Pk.err_t hr
  have hR := (Pk.right_iff x).1 hr
  have f0 := hR.f.1
  have t0 := hR.t.1
  clear hr hR
  by_cases hff : (nn : Int) ≤ x.f
  · have HF : Hid ((nn : Int) ≤ x.f) := hff
    clear hf hff
    unfold Pk.val
    go_enter Try.func12, Try.ntmps12
    go_wp2_with (first
      | (go_at_call 31; refine (check_any x a n cap _ (hsl.below (ba (Below.refl _ _)))).mono ?_; rintro e w1 ⟨rfl, hb1⟩; rw [HE.out]; obtain ⟨q0, q1, q2, q3, q4, q5, q6, q7, q8, qf, ql⟩ := (Bx.made w x (.slice a n cap)).next hb1)
      | (go_at_call 32; refine (isNode_no _ (h.below (next (ba (Below.refl _ _)) hb1)) _ (.inr HF.out)).mono ?_; rintro e w2 ⟨rfl, rfl⟩))
    go_ret
    exact ⟨rfl, next (ba (Below.refl _ _)) hb1⟩
  · have HT : Hid ((nn : Int) ≤ x.t) := hf.resolve_left hff
    have f1 : x.f < (nn : Int) := by omega
    clear hf hff
    unfold Pk.val
    go_enter Try.func12, Try.ntmps12
    go_wp2_with (first
      | (go_at_call 31; refine (check_any x a n cap _ (hsl.below (ba (Below.refl _ _)))).mono ?_; rintro e w1 ⟨rfl, hb1⟩; rw [HE.out]; obtain ⟨q0, q1, q2, q3, q4, q5, q6, q7, q8, qf, ql⟩ := (Bx.made w x (.slice a n cap)).next hb1)
      | (have mk := mk1; clear mk; go_at_call 32; refine (isNode_no _ (h.below (next (ba (Below.refl _ _)) hb1)) x.t (.inr HT.out)).mono ?_; rintro e w2 ⟨rfl, rfl⟩)
      | (go_at_call 32; refine (isNode_yes _ (h.below (next (ba (Below.refl _ _)) hb1)) x.f f0 f1).mono ?_; rintro e w2 ⟨rfl, rfl⟩; have mk1 : True := True.intro))
    go_ret
    exact ⟨rfl, next (ba (Below.refl _ _)) hb1⟩
/-- The network behind a call: its memory is its own, or new. -/
def FThen (w w' : World) (gf nn : Nat) (out inn : Int) (F' : Nat → List Pk) (B : Nat → Prop) : Prop := Keep B w w' ∧ ∃ B', Fb w' gf nn out inn F' B' ∧ ∀ k, B' k → B k ∨ w.heap.size ≤ k
theorem then_below {w w' : World} {gf nn : Nat} {out inn : Int} {F : Nat → List Pk} {B : Nat → Prop} (h : Fb w gf nn out inn F B) (hb : Below w.heap.size w w') : FThen w w' gf nn out inn F B :=
  ⟨Keep.of_below hb, B, h.below hb, fun k h => .inl h⟩
set_option maxHeartbeats 1000000 in
theorem send_full (w : World) {gf nn : Nat} {out inn : Int} {F : Nat → List Pk} {B : Nat → Prop} (h : Fb w gf nn out inn F B) (x : Pk) (a : Option Addr) (n cap : Nat) (hsl : Sl w a n cap x.z) (hr : x.right = true) (hf : x.f < nn) (ht : x.t < nn) (hl : ((F (pr (fromQ x))).length : Int) = out) :
    Calls Try.prog 12 #[.pointer (some ⟨gf, 0, none⟩), x.val (.slice a n cap)] w fun e w' => e = .returned (.int .i64 5) ∧ Below w.heap.size w w' := by
  obtain ⟨gl, go, cp, G, M, D, h⟩ := h
  have HE : Hid (x.err = 0) := Pk.err_t hr
  have hR := (Pk.right_iff x).1 hr
  have f0 := hR.f.1
  have t0 := hR.t.1
  have HX : Hid (x.f = (x.f.toNat : Int)) := by show _ = _; omega
  have HY : Hid (x.f.toNat < nn) := by show _ < _; omega
  have hs2 := sortN_lt x
  have hq := h.many.qu (pr (fromQ x)) (by have := pr_lt (q := fromQ x) (nn := nn) (by unfold fromQ; omega); omega)
  rw [Rm_out] at hq
  unfold fromQ at hq hl
  have HL : Hid (((F (pr (2 * x.f.toNat + sortN x))).length : Int) = out) := hl
  have HO : Hid (0 ≤ out ∧ out ≤ 1000) := ⟨by have := h.o0; omega, h.o1⟩
  have HF : Hid (x.f < nn) := hf
  have HT : Hid (x.t < nn) := ht
  have F0 : Hid (0 ≤ x.f) := f0
  have T0 : Hid (0 ≤ x.t) := t0
  clear hr hR hl hs2 hf ht f0 t0
  unfold Pk.val
  go_enter Try.func12, Try.ntmps12
  go_wp2_with (first
    | (go_at_call 31; refine (check_any x a n cap _ (hsl.below (ba (Below.refl _ _)))).mono ?_; rintro e w1 ⟨rfl, hb1⟩; rw [HE.out]; obtain ⟨q0, q1, q2, q3, q4, q5, q6, q7, q8, qf, ql⟩ := (Bx.made w x (.slice a n cap)).next hb1)
    | (go_at_call 32; refine (isNode_yes _ (h.below (next (ba (Below.refl _ _)) hb1)) _ (by first | exact F0.out | exact T0.out) (by first | exact HF.out | exact HT.out)).mono ?_; rintro e w2 ⟨rfl, rfl⟩))
  have hB1 := next (ba (o := .cells #[.int .i64 x.k, .int .i64 x.f, .int .i64 x.t, .int .i64 x.i, .int .i64 x.l, .int .i64 x.p, .int .i64 x.s, .bool x.fl, .slice a n cap] 26) (Below.refl w.heap.size w)) hb1
  have h1 := h.below hB1
  have hq1 := hq.below hB1
  have uc := @Up.cell
  have uf := @Up.frozen
  refine wp_region_up (by kernel_rfl) (by kernel_rfl) ?_
  repeat (go_big_quiet_step ((first
    | (go_at_call 34; exact Calls.up_same (request_any x.k _))
    | (go_at_call 33; exact Calls.up_of (lane_of _ (h1.below (Subtype.property _)) x _ HY.out _ HX.out))
    | (go_at_call 35; exact Calls.up_of (laneSend_full _ (hq1.below (Subtype.property _)) x a n cap HO.out.1 HO.out.2 HL.out)))))
  refine wpQuiet_nil ?_
  rintro _ ⟨u, rfl⟩
  clear uc uf
  go_wp2
  go_ret
  exact ⟨rfl, next hB1 u.2⟩
set_option maxHeartbeats 1000000 in
theorem send_ok (w : World) {gf nn : Nat} {out inn : Int} {F : Nat → List Pk} {B : Nat → Prop} (h : Fb w gf nn out inn F B) (x : Pk) (a : Option Addr) (n cap : Nat) (hsl : Sl w a n cap x.z) (hz : R64 x.z) (hr : x.right = true) (hf : x.f < nn) (ht : x.t < nn) (hl : ((F (pr (fromQ x))).length : Int) < out) :
    Calls Try.prog 12 #[.pointer (some ⟨gf, 0, none⟩), x.val (.slice a n cap)] w fun e w' => e = .returned (.int .i64 0) ∧ FThen w w' gf nn out inn (upd F (pr (fromQ x)) (F (pr (fromQ x)) ++ [x])) B := by
  obtain ⟨gl, go, cp, G, M, D, h⟩ := h
  have HE : Hid (x.err = 0) := Pk.err_t hr
  have hR := (Pk.right_iff x).1 hr
  have f0 := hR.f.1
  have t0 := hR.t.1
  have HX : Hid (x.f = (x.f.toNat : Int)) := by show _ = _; omega
  have HY : Hid (x.f.toNat < nn) := by show _ < _; omega
  have hs2 := sortN_lt x
  have hpl : pr (fromQ x) < 4 * nn := by have := pr_lt (q := fromQ x) (nn := nn) (by unfold fromQ; omega); omega
  have hq := h.many.qu (pr (fromQ x)) hpl
  have HSTEP : Hid (∀ (w1 w' : World) (M' D' : Nat → Prop), Below w.heap.size w w1 → Keep (M (pr (fromQ x))) w1 w' → Qu w' (G (pr (fromQ x))) M' D' out (F (pr (fromQ x)) ++ [x]) → (∀ k, M' k → M (pr (fromQ x)) k ∨ w1.heap.size ≤ k) → (∀ k, D' k → D (pr (fromQ x)) k ∨ w1.heap.size ≤ k) → FThen w w' gf nn out inn (upd F (pr (fromQ x)) (F (pr (fromQ x)) ++ [x])) B) := by
    intro w1 w' M' D' hb hk hqu hM hD
    have hg : ∀ y ∈ F (pr (fromQ x)) ++ [x], Good nn y := by
      intro y hy
      rcases List.mem_append.1 hy with hy | hy
      · exact h.good _ hpl y hy
      · rw [List.mem_singleton] at hy; subst hy; exact ⟨hr, hf, ht, hz⟩
    obtain ⟨hk', hf'⟩ := (h.below hb).step hpl hk (by rw [Rm_out]; exact hqu) hM hD hg (by rw [Rm_out, List.length_append]; simp; omega)
    refine ⟨Keep.pre hb hk', _, ⟨_, _, _, _, _, _, hf'⟩, fun k hk => ?_⟩
    rcases hk with hk | hk
    · exact .inl hk
    · have := hb.size; exact .inr (by omega)
  rw [Rm_out] at hq
  unfold fromQ at hq hl HSTEP ⊢
  have HL : Hid (((F (pr (2 * x.f.toNat + sortN x))).length : Int) < out) := hl
  have HO : Hid (0 ≤ out ∧ out ≤ 1000) := ⟨by have := h.o0; omega, h.o1⟩
  have HF : Hid (x.f < nn) := hf
  have HT : Hid (x.t < nn) := ht
  have F0 : Hid (0 ≤ x.f) := f0
  have T0 : Hid (0 ≤ x.t) := t0
  have HNN : Hid (n ≤ 1000) := by show _ ≤ _; have := hR.z; have := hsl.len; omega
  clear hr hR hl hs2 hf ht f0 t0 hz hpl
  unfold Pk.val
  go_enter Try.func12, Try.ntmps12
  go_wp2_with (first
    | (go_at_call 31; refine (check_any x a n cap _ (hsl.below (ba (Below.refl _ _)))).mono ?_; rintro e w1 ⟨rfl, hb1⟩; rw [HE.out]; obtain ⟨q0, q1, q2, q3, q4, q5, q6, q7, q8, qf, ql⟩ := (Bx.made w x (.slice a n cap)).next hb1)
    | (go_at_call 32; refine (isNode_yes _ (h.below (next (ba (Below.refl _ _)) hb1)) _ (by first | exact F0.out | exact T0.out) (by first | exact HF.out | exact HT.out)).mono ?_; rintro e w2 ⟨rfl, rfl⟩))
  refine wp_region_orders 10 rfl (by kernel_rfl) ?_
  have hB1 := next (ba (o := .cells #[.int .i64 x.k, .int .i64 x.f, .int .i64 x.t, .int .i64 x.i, .int .i64 x.l, .int .i64 x.p, .int .i64 x.s, .bool x.fl, .slice a n cap] 26) (Below.refl w.heap.size w)) hb1
  have hB := next hB1 ((Below.refl w1.heap.size w1).drew)
  have bxd := (⟨q0, q1, q2, q3, q4, q5, q6, q7, q8, qf, ql⟩ : Bx w1 w.heap.size x (.slice a n cap)).next ((Below.refl w1.heap.size w1).drew)
  clear hB1 hb1 q0 q1 q2 q3 q4 q5 q6 q7 q8 qf ql
  generalize w1.drew = wd at *
  obtain ⟨q0, q1, q2, q3, q4, q5, q6, q7, q8, qf, ql⟩ := bxd
  have uc := @Up.cell2
  have uf := @Up.frozen2
  have hd := h.below hB
  refine any_take 0 (.pointer (some ⟨gf, 0, none⟩)) rfl (by kernel_rfl) (by kernel_rfl) (by kernel_rfl) (fun _ _ _ h => h) (by kernel_rfl) (fun w => by go_simp) ?_
  simp only [Act.put, List.setIfInBounds_toArray, List.set_cons_zero, List.set_cons_succ]
  refine any_take 1 (.pointer (some ⟨w.heap.size, 1, none⟩)) rfl (by kernel_rfl) (by kernel_rfl) (by kernel_rfl) (fun _ _ _ h => h) (by kernel_rfl) (fun w => by go_simp) ?_
  simp only [Act.put, List.setIfInBounds_toArray, List.set_cons_zero, List.set_cons_succ]
  refine any_take 3 (.pointer (some ⟨w.heap.size, 0, none⟩)) rfl (by kernel_rfl) (by kernel_rfl) (by kernel_rfl) (fun _ _ _ h => h) (by kernel_rfl) (fun w => by go_simp) ?_
  simp only [Act.put, List.setIfInBounds_toArray, List.set_cons_zero, List.set_cons_succ]
  refine any_mildx [8, 9] ?_
  refine mildy_take (v := ?v1) [6, 8, 9] 2 rfl (by kernel_rfl) (by kernel_rfl) (by kernel_rfl) (by kernel_rfl) (by kernel_rfl) (fun _ _ _ h => h) (by kernel_rfl) (fun Wu K hK => ?hy1) ?go1
  case hy1 =>
    go_big_quiet_op
    simp only [Act.put, List.setIfInBounds_toArray, List.set_cons_zero, List.set_cons_succ] at hK
    exact hK
  simp only [Act.put, List.setIfInBounds_toArray, List.set_cons_zero, List.set_cons_succ]
  refine mildy_take (v := ?v2) [5, 6, 8, 9] 4 rfl (by kernel_rfl) (by kernel_rfl) (by kernel_rfl) (by kernel_rfl) (by kernel_rfl) (fun _ _ _ h => h) (by kernel_rfl) (fun Wu K hK => ?hy2) ?go2
  case hy2 =>
    go_big_quiet_op
    simp only [Act.put, List.setIfInBounds_toArray, List.set_cons_zero, List.set_cons_succ] at hK
    exact hK
  simp only [Act.put, List.setIfInBounds_toArray, List.set_cons_zero, List.set_cons_succ]
  refine mildy_take (v := ?v3) [6, 8, 9] 5 rfl (by kernel_rfl) (by kernel_rfl) (by kernel_rfl) (by kernel_rfl) (by kernel_rfl) (fun _ _ _ h => h) (by kernel_rfl) (fun Wu K hK => ?hy3) ?go3
  case hy3 =>
    go_big_quiet_op
    simp only [Act.put, List.setIfInBounds_toArray, List.set_cons_zero, List.set_cons_succ] at hK
    refine ⟨_, fun u => Calls.up_same (request_any x.k u.1), ?_⟩
    exact hK
  simp only [Act.put, List.setIfInBounds_toArray, List.set_cons_zero, List.set_cons_succ]
  refine mildy_take (v := ?v4) [8, 9] 7 rfl (by kernel_rfl) (by kernel_rfl) (by kernel_rfl) (by kernel_rfl) (by kernel_rfl) (fun _ _ _ h => h) (by kernel_rfl) (fun Wu K hK => ?hy4) ?go4
  case hy4 =>
    go_big_quiet_op
    simp only [Act.put, List.setIfInBounds_toArray, List.set_cons_zero, List.set_cons_succ] at hK
    exact hK
  simp only [Act.put, List.setIfInBounds_toArray, List.set_cons_zero, List.set_cons_succ]
  refine mildy_take (v := ?v5) [8, 9] 6 rfl (by kernel_rfl) (by kernel_rfl) (by kernel_rfl) (by kernel_rfl) (by kernel_rfl) (fun _ _ _ h => h) (by kernel_rfl) (fun Wu K hK => ?hy5) ?go5
  case hy5 =>
    go_big_quiet_op
    simp only [Act.put, List.setIfInBounds_toArray, List.set_cons_zero, List.set_cons_succ] at hK
    refine ⟨_, fun u => Calls.up_of (lane_of u.1 ((hd.below Wu.2).below u.2) x _ HY.out _ HX.out), ?_⟩
    exact hK
  simp only [Act.put, List.setIfInBounds_toArray, List.set_cons_zero, List.set_cons_succ]
  intro W
  clear uc uf
  have hBW := next hB W.2
  generalize W.1 = wa at *
  refine upx_write 8 (by kernel_rfl) (by kernel_rfl) rfl ?_
  go_wp2_with (go_at_call 35; refine (laneSend_ok _ (hq.below hBW) x a n cap (hsl.below hBW) HNN.out HO.out.1 HO.out.2 HL.out).mono ?_; rintro e w3 ⟨rfl, hk3, M', D', hq3, hM3, hD3⟩)
  refine then_n ?_
  refine any_list 9 (by kernel_rfl) rfl ?_
  go_wp2
  refine then_n ?_
  refine any_done (by kernel_rfl) ?_
  go_wp2
  go_ret
  exact ⟨rfl, HSTEP.out _ _ M' D' hBW hk3 hq3 hM3 hD3⟩
theorem send_any (w : World) {gf nn : Nat} {out inn : Int} {F F' : Nat → List Pk} {B : Nat → Prop} {e : Int} (h : Fb w gf nn out inn F B) (x : Pk) (a : Option Addr) (n cap : Nat) (hsl : Sl w a n cap x.z) (hz : R64 x.z) (hs : SendTo nn out F x e F') :
    Calls Try.prog 12 #[.pointer (some ⟨gf, 0, none⟩), x.val (.slice a n cap)] w fun en w' => en = .returned (.int .i64 e) ∧ FThen w w' gf nn out inn F' B := by
  cases hs with
  | no hr => exact (send_err w h x a n cap hsl hr).mono fun _ _ ⟨he, hb⟩ => ⟨he, then_below h hb⟩
  | far hr hf => exact (send_far w h x a n cap hsl hr hf).mono fun _ _ ⟨he, hb⟩ => ⟨he, then_below h hb⟩
  | full hr hf ht hl => exact (send_full w h x a n cap hsl hr hf ht hl).mono fun _ _ ⟨he, hb⟩ => ⟨he, then_below h hb⟩
  | ok hr hf ht hl => exact send_ok w h x a n cap hsl hz hr hf ht hl
end Go.Proofs.Ytjdbjmfkheffdaa
end
section
namespace Go.Proofs.Ytjdbjmfkheffdaa
open Go.RowKit
set_option linter.unusedVariables false
set_option maxRecDepth 20000

theorem lane_q (p q : Nat) (w : World) : (Instr.field 71 (.agg #[.pointer (some ⟨p, 0, none⟩), .pointer (some ⟨q, 0, none⟩)]) 1).run Try.prog w = .ok (.pointer (some ⟨q, 0, none⟩)) w := by kernel_rfl
section
variable (w : World) {gf nn : Nat} {out inn : Int} {F : Nat → List Pk} {B : Nat → Prop}
/-- No packet. -/
def NoPacket (w : World) (e : Ending) (w' : World) : Prop := e = .returned (.tuple #[zeroPk.val (.slice none 0 0), .bool false]) ∧ Below w.heap.size w w'
set_option maxHeartbeats 400000 in
theorem take_no (h : Fb w gf nn out inn F B) (i : Int) (b : Bool) (hi : i < 0 ∨ (nn : Int) ≤ i) :
    Calls Try.prog 43 #[.pointer (some ⟨gf, 0, none⟩), .int .i64 i, .bool b] w fun e w' => NoPacket w e w' := by
  obtain ⟨gl, go, cap, G, M, D, h⟩ := h
  have HI : Hid (i < 0 ∨ (nn : Int) ≤ i) := hi
  clear hi
  go_enter Try.func43, Try.ntmps43
  go_wp2_with (go_at_call 32; refine (isNode_no _ (h.below (ba (Below.refl _ _))) i HI.out).mono ?_; rintro e w1 ⟨rfl, rfl⟩)
  refine bodyPost_ret (v := .tuple #[zeroPk.val (.slice none 0 0), .bool false]) (by simp [results, Try.results43, go_sem, zeroPk, *]) rfl ⟨rfl, ?_⟩
  exact ba (Below.refl _ _)
/-- A node's lane, of requests or of answers. -/
def laneS (b : Bool) : Nat := if b = true then 0 else 1
theorem laneS_lt (b : Bool) : laneS b < 2 := by cases b <;> decide
theorem lane_b {gl go cap : Nat} {G : Nat → Nat} {M D : Nat → Nat → Prop} (h : FbI w gf nn out inn F B gl go cap G M D) (b : Bool) (i : Nat) (h1 : i < nn) (v : Int) (hv : v = (i : Int)) :
    Calls Try.prog 33 #[.pointer (some ⟨gf, 0, none⟩), .int .i64 v, .bool b] w fun e w' => e = .returned (laneV (G (pr (2 * i + laneS b))) (G (pr (2 * i + laneS b) + 2))) ∧ Below w.heap.size w w' := by
  cases b
  · exact lane_ans w h i h1 v hv
  · exact lane_req w h i h1 v hv
set_option maxHeartbeats 400000 in
theorem take_empty (h : Fb w gf nn out inn F B) (i : Nat) (b : Bool) (hi : i < nn) (hF : F (pr (2 * i + laneS b) + 2) = []) :
    Calls Try.prog 43 #[.pointer (some ⟨gf, 0, none⟩), .int .i64 (i : Int), .bool b] w fun e w' => NoPacket w e w' := by
  obtain ⟨gl, go, cap, G, M, D, h⟩ := h
  have hs := laneS_lt b
  have hq := h.many.qu (pr (2 * i + laneS b) + 2) (pr_lt (by omega))
  rw [hF] at hq
  have i0 : (0 : Int) ≤ (i : Int) := by omega
  have i1 : (i : Int) < (nn : Int) := by omega
  clear hF hs
  have hfd := lane_q
  go_enter Try.func43, Try.ntmps43
  go_wp2_with (first
    | (go_at_call 32; refine (isNode_yes _ (h.below (ba (Below.refl _ _))) _ i0 i1).mono ?_; rintro e w1 ⟨rfl, rfl⟩)
    | (go_at_call 33; refine (lane_b _ (h.below (ba (Below.refl _ _))) b i hi _ rfl).mono ?_; rintro e w2 ⟨rfl, hb2⟩; unfold laneV; have bx2 := (Bx.made w zeroPk (.slice none 0 0)).next hb2)
    | (go_at_call 64; refine (take_none _ (hq.below (next (ba (Below.refl _ _)) hb2))).mono ?_; rintro e w3 ⟨rfl, hb3⟩; have bx3 := bx2.next hb3; clear bx2; obtain ⟨q0, q1, q2, q3, q4, q5, q6, q7, q8, qf, ql⟩ := bx3; simp only [zeroPk] at q0 q1 q2 q3 q4 q5 q6 q7 q8))
  refine bodyPost_ret (v := .tuple #[zeroPk.val (.slice none 0 0), .bool false]) (by simp [results, Try.results43, go_sem, zeroPk, *]) rfl ⟨rfl, ?_⟩
  exact far9 (g := w.heap.size) (y := zeroPk) (v := .slice none 0 0) (W := w3) (P := fun V => Below w.heap.size w V) (fun V o u h => h.setCell (by simp) u) (next (next (ba (Below.refl _ _)) hb2) hb3)
/-- A packet is taken: its words are where they were. -/
def Took (w : World) (gf nn : Nat) (out inn : Int) (F' : Nat → List Pk) (B : Nat → Prop) (x : Pk) (e : Ending) (w' : World) : Prop := ∃ d, e = .returned (.tuple #[x.val d, .bool true]) ∧ Dat w' B x d ∧ FThen w w' gf nn out inn F' B
set_option maxHeartbeats 1000000 in
theorem take_some' (h : Fb w gf nn out inn F B) (i : Nat) (b : Bool) (hi : i < nn) (x : Pk) (L : List Pk) (hF : F (pr (2 * i + laneS b) + 2) = x :: L) :
    Calls Try.prog 43 #[.pointer (some ⟨gf, 0, none⟩), .int .i64 (i : Int), .bool b] w fun e w' => Took w gf nn out inn (upd F (pr (2 * i + laneS b) + 2) L) B x e w' := by
  obtain ⟨gl, go, cap, G, M, D, h⟩ := h
  have hs := laneS_lt b
  have hpl := pr_lt (q := 2 * i + laneS b) (nn := nn) (by omega)
  generalize hr : pr (2 * i + laneS b) + 2 = r at *
  have hq := h.many.qu r hpl
  have HSTEP : Hid (∀ (w1 w' w'' : World), Below w.heap.size w w1 → Keep (M r) w1 w' → Qu w' (G r) (M r) (D r) (Rm out inn r) L → w.heap.size < w1.heap.size → Keep (fun k => k = w.heap.size) w' w'' → FThen w w'' gf nn out inn (upd F r L) B) := by
    intro w1 w' w'' hb hk hqu hlt hk2
    have hg : ∀ y ∈ L, Good nn y := fun y hy => h.good r hpl y (by rw [hF]; exact List.mem_cons_of_mem _ hy)
    have hro := h.rooms r hpl
    rw [hF] at hro
    obtain ⟨hk', hf'⟩ := (h.below hb).step hpl hk hqu (fun k h => .inl h) (fun k h => .inl h) hg (by simp at hro; omega)
    refine ⟨(Keep.pre hb hk').trans hk2 (fun k hk e => by omega), _, ⟨_, _, _, _, _, _, hf'.keep hk2 (fun k hk e => ?_)⟩, fun k hk => ?_⟩
    · subst e
      rcases hk with hk | hk
      · exact Nat.lt_irrefl _ (h.old _ hk)
      · omega
    · rcases hk with hk | hk
      · exact .inl hk
      · have := hb.size; exact .inr (by omega)
  have HB : Hid (∀ k, B k → k < w.heap.size) := h.old
  have HMEM : Hid (∀ k, D r k → B k) := fun k hk => h.mem r hpl k (.inr hk)
  have HNM : Hid (∀ k, M r k ∨ D r k → k < w.heap.size) := fun k hk => h.many.old hpl hk
  rw [hF] at hq
  have i0 : (0 : Int) ≤ (i : Int) := by omega
  have i1 : (i : Int) < (nn : Int) := by omega
  clear hF hs
  have hfd := lane_q
  go_enter Try.func43, Try.ntmps43
  go_wp2_with (first
    | (go_at_call 32; refine (isNode_yes _ (h.below (ba (Below.refl _ _))) _ i0 i1).mono ?_; rintro e w1 ⟨rfl, rfl⟩)
    | (go_at_call 33; refine (lane_b _ (h.below (ba (Below.refl _ _))) b i hi _ rfl).mono ?_; rintro e w2 ⟨rfl, hb2⟩; rw [hr]; unfold laneV; have bx2 := (Bx.made w zeroPk (.slice none 0 0)).next hb2)
    | (go_at_call 64; refine (take_some _ (hq.below (next (ba (Below.refl _ _)) hb2))).mono ?_; rintro e w3 ⟨d, rfl, hk3, hd3, hq3⟩; have bx3 := bx2.keep hk3 (fun hm => Nat.lt_irrefl _ (HNM.out _ (.inl hm))); have l2 := bx2.lt; clear bx2; obtain ⟨q0, q1, q2, q3, q4, q5, q6, q7, q8, qf, ql⟩ := bx3; simp only [zeroPk] at q0 q1 q2 q3 q4 q5 q6 q7 q8; obtain ⟨ad, nd, cd, rfl, hsd, hnd, hdd⟩ := id hd3))
  have hkk : Keep (fun k => k = w.heap.size) w3 _ := far9 (g := w.heap.size) (y := x) (v := .slice ad nd cd) (W := w3) (P := fun V => Keep (fun k => k = w.heap.size) w3 V) (fun V o u h => h.setCell (.inl rfl) u) (Keep.refl _ _)
  refine bodyPost_ret (v := .tuple #[x.val (.slice ad nd cd), .bool true]) (by simp [results, Try.results43, go_sem, *]) rfl ⟨_, rfl, ?_, HSTEP.out w2 w3 _ (next (ba (Below.refl _ _)) hb2) hk3 hq3 l2 hkk⟩
  exact (hd3.imp (fun k _ hk => HMEM.out k hk)).keep hkk (fun k hb e => Nat.lt_irrefl _ (by subst e; exact HB.out _ hb))
/-- What Request and Reply make of the network. -/
inductive TakeTo (nn : Nat) (F : Nat → List Pk) (i : Int) (b : Bool) : Option Pk → (Nat → List Pk) → Prop
  | no : (i < 0 ∨ (nn : Int) ≤ i) → TakeTo nn F i b none F
  | empty (k : Nat) : k < nn → i = (k : Int) → F (pr (2 * k + laneS b) + 2) = [] → TakeTo nn F i b none F
  | some (k : Nat) (x : Pk) (L : List Pk) : k < nn → i = (k : Int) → F (pr (2 * k + laneS b) + 2) = x :: L → TakeTo nn F i b (some x) (upd F (pr (2 * k + laneS b) + 2) L)
/-- One may come, or none. -/
def Tk (w : World) (gf nn : Nat) (out inn : Int) (F' : Nat → List Pk) (B : Nat → Prop) (o : Option Pk) (e : Ending) (w' : World) : Prop :=
  ∃ d, e = .returned (.tuple #[(o.getD zeroPk).val d, .bool o.isSome]) ∧ Dat w' B (o.getD zeroPk) d ∧ FThen w w' gf nn out inn F' B ∧ (o.isSome = false → Below w.heap.size w w')
theorem dat_zero (w : World) (B : Nat → Prop) : Dat w B zeroPk (.slice none 0 0) := ⟨none, 0, 0, rfl, sl_nil w, Nat.zero_le _, fun h => absurd rfl h⟩
theorem take_to {F' : Nat → List Pk} {o : Option Pk} (h : Fb w gf nn out inn F B) (i : Int) (b : Bool) (ht : TakeTo nn F i b o F') :
    Calls Try.prog 43 #[.pointer (some ⟨gf, 0, none⟩), .int .i64 i, .bool b] w fun e w' => Tk w gf nn out inn F' B o e w' := by
  cases ht with
  | no hi => exact (take_no w h i b hi).mono fun _ _ ⟨he, hb⟩ => ⟨_, he, dat_zero _ _, then_below h hb, fun _ => hb⟩
  | empty k hk hi hF => subst hi; exact (take_empty w h k b hk hF).mono fun _ _ ⟨he, hb⟩ => ⟨_, he, dat_zero _ _, then_below h hb, fun _ => hb⟩
  | some k x L hk hi hF => subst hi; exact (take_some' w h k b hk x L hF).mono fun _ _ ⟨d, he, hd, hf⟩ => ⟨d, he, hd, hf, fun h => (by cases h)⟩
theorem FThen.pre {w1 w' : World} {F' : Nat → List Pk} (hb : Below w.heap.size w w1) (h : FThen w1 w' gf nn out inn F' B) : FThen w w' gf nn out inn F' B := by
  obtain ⟨hk, B', hf, hB⟩ := h
  refine ⟨Keep.pre hb hk, B', hf, fun k hk => (hB k hk).imp id (fun h => Nat.le_trans hb.size h)⟩
set_option maxHeartbeats 1000000 in
theorem frequest_any {F' : Nat → List Pk} {o : Option Pk} (h : Fb w gf nn out inn F B) (i : Int) (ht : TakeTo nn F i true o F') :
    Calls Try.prog 16 #[.pointer (some ⟨gf, 0, none⟩), .int .i64 i] w fun e w' => Tk w gf nn out inn F' B o e w' := by
  have HB : Hid (∀ k, B k → k < w.heap.size) := by obtain ⟨_, _, _, _, _, _, h⟩ := h; exact h.old
  have HT : Hid (TakeTo nn F i true o F') := ht
  clear ht
  unfold Tk
  have hto := fun w1 (hb : Below w.heap.size w w1) => take_to w1 (h.below hb) i true HT.out
  unfold Tk at hto
  clear h
  generalize o.getD zeroPk = x at *
  generalize o.isSome = s at *
  go_enter Try.func16, Try.ntmps16
  go_wp2_with (go_at_call 43; refine (hto _ (ba (Below.refl _ _))).mono ?_; rintro e w3 ⟨d, rfl, hd3, ⟨hk3, B', hf3, hB3⟩, hlo3⟩; have bx2 := Bx.made w zeroPk (.slice none 0 0); have bx3 := bx2.keep hk3 (fun hm => Nat.lt_irrefl _ (HB.out _ hm)); have l2 := bx2.lt; clear bx2; obtain ⟨q0, q1, q2, q3, q4, q5, q6, q7, q8, qf, ql⟩ := bx3; simp only [zeroPk] at q0 q1 q2 q3 q4 q5 q6 q7 q8; obtain ⟨ad, nd, cd, rfl, hsd, hnd, hdd⟩ := id hd3)
  have hkk : Keep (fun k => k = w.heap.size) w3 _ := far9 (g := w.heap.size) (y := x) (v := .slice ad nd cd) (W := w3) (P := fun V => Keep (fun k => k = w.heap.size) w3 V) (fun V o u h => h.setCell (.inl rfl) u) (Keep.refl _ _)
  refine bodyPost_ret (v := .tuple #[x.val (.slice ad nd cd), .bool s]) (by simp [results, Try.results16, go_sem, *]) rfl ⟨_, rfl, hd3.keep hkk (fun k hb e => Nat.lt_irrefl _ (by subst e; exact HB.out _ hb)), ?_, fun h0 => far9 (g := w.heap.size) (y := x) (v := .slice ad nd cd) (W := w3) (P := fun V => Below w.heap.size w V) (fun V o u h => h.setCell (by simp) u) (next (ba (Below.refl _ _)) (hlo3 h0))⟩
  refine ⟨(Keep.pre (ba (Below.refl _ _)) hk3).trans hkk (fun k hk e => by omega), B', hf3.keep hkk (fun k hk e => ?_), fun k hk => (hB3 k hk).imp id (fun h => by simp at h; omega)⟩
  subst e
  rcases hB3 _ hk with hk | hk
  · exact Nat.lt_irrefl _ (HB.out _ hk)
  · simp at hk; omega
set_option maxHeartbeats 1000000 in
theorem freply_any {F' : Nat → List Pk} {o : Option Pk} (h : Fb w gf nn out inn F B) (i : Int) (ht : TakeTo nn F i false o F') :
    Calls Try.prog 17 #[.pointer (some ⟨gf, 0, none⟩), .int .i64 i] w fun e w' => Tk w gf nn out inn F' B o e w' := by
  have HB : Hid (∀ k, B k → k < w.heap.size) := by obtain ⟨_, _, _, _, _, _, h⟩ := h; exact h.old
  have HT : Hid (TakeTo nn F i false o F') := ht
  clear ht
  unfold Tk
  have hto := fun w1 (hb : Below w.heap.size w w1) => take_to w1 (h.below hb) i false HT.out
  unfold Tk at hto
  clear h
  generalize o.getD zeroPk = x at *
  generalize o.isSome = s at *
  go_enter Try.func17, Try.ntmps17
  go_wp2_with (go_at_call 43; refine (hto _ (ba (Below.refl _ _))).mono ?_; rintro e w3 ⟨d, rfl, hd3, ⟨hk3, B', hf3, hB3⟩, hlo3⟩; have bx2 := Bx.made w zeroPk (.slice none 0 0); have bx3 := bx2.keep hk3 (fun hm => Nat.lt_irrefl _ (HB.out _ hm)); have l2 := bx2.lt; clear bx2; obtain ⟨q0, q1, q2, q3, q4, q5, q6, q7, q8, qf, ql⟩ := bx3; simp only [zeroPk] at q0 q1 q2 q3 q4 q5 q6 q7 q8; obtain ⟨ad, nd, cd, rfl, hsd, hnd, hdd⟩ := id hd3)
  have hkk : Keep (fun k => k = w.heap.size) w3 _ := far9 (g := w.heap.size) (y := x) (v := .slice ad nd cd) (W := w3) (P := fun V => Keep (fun k => k = w.heap.size) w3 V) (fun V o u h => h.setCell (.inl rfl) u) (Keep.refl _ _)
  refine bodyPost_ret (v := .tuple #[x.val (.slice ad nd cd), .bool s]) (by simp [results, Try.results17, go_sem, *]) rfl ⟨_, rfl, hd3.keep hkk (fun k hb e => Nat.lt_irrefl _ (by subst e; exact HB.out _ hb)), ?_, fun h0 => far9 (g := w.heap.size) (y := x) (v := .slice ad nd cd) (W := w3) (P := fun V => Below w.heap.size w V) (fun V o u h => h.setCell (by simp) u) (next (ba (Below.refl _ _)) (hlo3 h0))⟩
  refine ⟨(Keep.pre (ba (Below.refl _ _)) hk3).trans hkk (fun k hk e => by omega), B', hf3.keep hkk (fun k hk e => ?_), fun k hk => (hB3 k hk).imp id (fun h => by simp at h; omega)⟩
  subst e
  rcases hB3 _ hk with hk | hk
  · exact Nat.lt_irrefl _ (HB.out _ hk)
  · simp at hk; omega
end
end Go.Proofs.Ytjdbjmfkheffdaa
end
section
namespace Go.Proofs.Ytjdbjmfkheffdaa
open Go.RowKit
set_option linter.unusedVariables false
set_option maxRecDepth 20000

section
variable (w : World) {gr gs N O I cap : Nat} {F : Nat → List Pk} {M : Nat → Nat → Prop} {D : Nat → Prop}
theorem refRoom_no (h : DF w gr gs N O I cap F M D) (i k : Int) (hi : i < 0 ∨ (N : Int) ≤ i) :
    Calls Try.prog 51 #[.pointer (some ⟨gr, 0, none⟩), .int .i64 i, .int .i64 k] w fun e w' => e = .returned (.int .i64 0) ∧ Below w.heap.size w w' := by
  have cs := h.cs
  have n1 := h.n1
  clear h
  by_cases h0 : i < 0
  · clear hi
    go_enter Try.func51, Try.ntmps51
    go_wp2
    go_ret
    exact ⟨rfl, Below.refl _ _⟩
  · have h1 := hi.resolve_left h0
    clear hi
    go_enter Try.func51, Try.ntmps51
    go_wp2
    go_ret
    exact ⟨rfl, Below.refl _ _⟩
theorem refRoom_yes (h : DF w gr gs N O I cap F M D) (i k : Nat) (hi : i < N) (hk : k < 2) (x : Int) (hx : (O : Int) - ((F (4 * i + k)).length : Int) = x) :
    Calls Try.prog 51 #[.pointer (some ⟨gr, 0, none⟩), .int .i64 (i : Int), .int .i64 (k : Int)] w fun e w' => e = .returned (.int .i64 x) ∧ Below w.heap.size w w' := by
  obtain ⟨R, a, c, hc, hp⟩ := h.at (q := 4 * i + k) (by omega)
  have hmx := h.rm (4 * i + k) (by omega)
  subst hx
  have cs := h.cs
  have c5 := h.c5
  have n1 := h.n1
  have o1 := h.o1
  have cp := h.cp.1
  have cp2 := h.cp.2
  unfold maxLen at cp2
  have i0 : (i : Int) < (N : Int) := by omega
  have hc' : w.cell? ⟨gs, i * 4 + k, none⟩ = some (.slice a (F (4 * i + k)).length c) := by rw [show i * 4 + k = 4 * i + k by omega]; exact hc
  clear h hp hc
  generalize (F (4 * i + k)).length = T at *
  go_enter Try.func51, Try.ntmps51
  go_upto_region 3 with fail
  go_quiet (fail)
  go_wp2
  go_ret
  first
    | exact ⟨rfl, (Below.refl _ _).drew⟩
    | exact ⟨rfl, below_dn _ _⟩
theorem refSort_any (x : Pk) (v : Int) (hv : v = (sortN x : Int)) :
    Calls Try.prog 46 #[.int .i64 x.k] w fun e w' => e = .returned (.int .i64 v) ∧ Below w.heap.size w w' := by
  subst hv
  unfold sortN
  cases hb : inB 1 x.k 6
  · have HB : Hid (inB 1 x.k 6 = false) := hb
    clear hb
    go_enter Try.func46, Try.ntmps46
    go_wp2_with (go_at_call 66; refine (refRequest_any x.k _).mono ?_; rintro e w1 ⟨rfl, rfl⟩; rw [HB.out])
    go_ret
    exact ⟨rfl, Below.refl _ _⟩
  · have HB : Hid (inB 1 x.k 6 = true) := hb
    clear hb
    go_enter Try.func46, Try.ntmps46
    go_wp2_with (go_at_call 66; refine (refRequest_any x.k _).mono ?_; rintro e w1 ⟨rfl, rfl⟩; rw [HB.out])
    go_ret
    exact ⟨rfl, Below.refl _ _⟩
end
end Go.Proofs.Ytjdbjmfkheffdaa
end
section
namespace Go.Proofs.Ytjdbjmfkheffdaa
open Go.RowKit
set_option linter.unusedVariables false

section
variable {P : Program} {ops : Array Oper} {Q : Exit → Act → World → Prop} {I : World → Prop} {X : List Nat}

/-- In state a, in every world that I holds of, operation o leaves v and the world as it is. -/
def MildI (P : Program) (ops : Array Oper) (I : World → Prop) (o : Oper) (v : Value) (a : Act) : Prop :=
  (Region.wanted o (yielded ops a.tmps) = true ∧ ∀ w, I w → (execOp a.eval o).run P w = .ok (.value v) w) ∨
  (Region.wanted o (yielded ops a.tmps) = false ∧ v = undef)
theorem MildI.wpOp {i : Nat} {o : Oper} {v : Value} {a : Act} {w : World} (hi : ops[i]? = some o) (hy : MildI P ops I o v a) (hI : I w) {K : Act → World → Prop}
    (h : K (a.put o.dst v) w) : wpOp P ops Q i K a w := by
  unfold Go.wpOp
  simp only [hi]
  rcases hy with ⟨hw, hv⟩ | ⟨hw, rfl⟩
  · rw [if_pos hw]
    left
    unfold Oper.wp
    rw [hv w hI]
    exact h
  · rw [if_neg (by rw [hw]; exact Bool.false_ne_true)]
    exact h
theorem MildI.put {oi oj : Oper} {v : Value} {a : Act} (u : Value) (hsi : ∀ cs b, oi.op ≠ .select cs b) (h3 : ∀ d, oj.dst = some d → d ∉ oi.looksAt ops)
    (hy : MildI P ops I oi v a) : MildI P ops I oi v (a.put oj.dst u) := by
  unfold MildI at *
  rw [wanted_put oi a oj.dst u h3]
  refine hy.imp (fun ⟨hw, hv⟩ => ⟨hw, fun w hI => ?_⟩) id
  rw [execOp_put oi hsi a oj.dst u h3]
  exact hv w hI
theorem MildI.defers {oi : Oper} {v : Value} {a : Act} (d : Deferred) (hy : MildI P ops I oi v a) : MildI P ops I oi v { a with defers := d :: a.defers } := hy
theorem wpOp_mildI {j : Nat} {oi oj : Oper} {v : Value} (hj : ops[j]? = some oj) (hap : oi.apart ops oj = true)
    (hsi : ∀ cs b, oi.op ≠ .select cs b) (hsj : ∀ cs b, oj.op ≠ .select cs b)
    (hQ : ∀ c a w, Q (.panic c) (a.put oi.dst v) w → Q (.panic c) a w) {K : Act → World → Prop} {a : Act} {w : World}
    (hy : MildI P ops I oi v a) (h : wpOp P ops Q j K (a.put oi.dst v) w) :
    wpOp P ops Q j (fun a' w' => MildI P ops I oi v a' ∧ K (a'.put oi.dst v) w') a w := by
  obtain ⟨h1, h2, h3⟩ := Oper.apart_spec hap
  have hx : execOp (a.put oi.dst v).eval oj = execOp a.eval oj := execOp_put oj hsj a oi.dst v h1
  have go : ∀ u w', K ((a.put oi.dst v).put oj.dst u) w' → MildI P ops I oi v (a.put oj.dst u) ∧ K ((a.put oj.dst u).put oi.dst v) w' := fun u w' hk =>
    ⟨hy.put u hsi h3, by rwa [Act.put_comm a v u h2] at hk⟩
  unfold wpOp at *
  simp only [hj] at *
  rw [wanted_put oj a oi.dst v h1] at h
  by_cases hw : Region.wanted oj (yielded ops a.tmps) = true
  · rw [if_pos hw] at h ⊢
    rcases h with h | ⟨hasks, hlets⟩
    · left
      unfold Oper.wp at *
      rw [hx] at h
      revert h
      generalize (execOp a.eval oj).run P w = r
      intro h
      rcases r with ⟨n, w'⟩ | ⟨x, w'⟩
      · cases n with
        | value u => exact go u w' h
        | skip => exact go undef w' h
        | «defer» d =>
          simp only [Oper.upon] at h ⊢
          refine ⟨(hy.defers d).put undef hsi h3, ?_⟩
          rwa [← Act.put_comm _ v undef h2, ← Act.put_defers]
        | enter f args =>
          exact Calls.mono h fun e w'' he => by
            cases e with
            | returned u => exact go u w'' he
            | panicked c => exact hQ _ _ _ he
            | outgrown => exact he
        | row r args => exact Rows.mono h fun u w'' he => go u w'' he
        | _ => exact h
      · cases x with
        | panic u => exact hQ _ _ _ h
        | _ => exact h
    · right
      exact ⟨by unfold Oper.asks at *; rwa [hx] at hasks, hlets⟩
  · rw [if_neg hw] at h ⊢
    exact go undef w h
/-- Whatever order is picked from here on; behind each operation but those of X the world is one of I. -/
def wpAnyJ (P : Program) (ops : Array Oper) (Q : Exit → Act → World → Prop) (I : World → Prop) (X : List Nat) : Nat → Array Bool → Act → World → Prop
  | 0, listed, a, w => Region.ready .any ops listed = [] ∧ Q .normal a w
  | fuel + 1, listed, a, w =>
    (Region.ready .any ops listed = [] → Q .normal a w) ∧
    ∀ i ∈ Region.ready .any ops listed, wpOp P ops Q i (fun a' w' => (X.contains i = true ∧ wpAny P .any ops Q fuel (listed.setIfInBounds i true) a' w') ∨ (I w' ∧ wpAnyJ P ops Q I X fuel (listed.setIfInBounds i true) a' w')) a w
theorem wpAny_of_j : ∀ (fuel : Nat) (listed : Array Bool) (a : Act) (w : World), wpAnyJ P ops Q I X fuel listed a w → wpAny P .any ops Q fuel listed a w
  | 0, _, _, _, h => h
  | fuel + 1, _, _, _, h => ⟨h.1, fun i hi => wpOp_mono (fun a' w' h' => h'.elim (fun h => h.2) fun h' => wpAny_of_j fuel _ a' w' h'.2) (h.2 i hi)⟩
theorem wpAnyJ_first {Y : List Nat} {i : Nat} {oi : Oper} {v : Value} (hXY : X.all (fun j => Y.contains j) = true) (hi : ops[i]? = some oi) (hsel : ∀ (j : Nat) (o : Oper) cs b, ops[j]? = some o → o.op ≠ .select cs b)
    (hQ : ∀ c a w, Q (.panic c) (a.put oi.dst v) w → Q (.panic c) a w) :
    ∀ (fuel : Nat) (listed : Array Bool) (a : Act) (w : World), I w → (∀ j ∈ Y, listed.getD j true = false ∧ (waitsOn ops j i = true ∨ ∃ k ∈ Y, waitsOn ops j k = true)) →
      (∀ j oj, ops[j]? = some oj → j ≠ i → listed.getD j true = false → (∀ e ∈ oj.after, Region.binds .any e = true → e.on ≠ i) → oi.apart ops oj = true) →
      i ∈ Region.ready .any ops listed → MildI P ops I oi v a →
      wpAnyJ P ops Q I X fuel (listed.setIfInBounds i true) (a.put oi.dst v) w → wpAnyJ P ops Q I X (fuel + 1) listed a w := by
  intro fuel
  induction fuel with
  | zero =>
    intro listed a w hI _ _ hr hy H
    refine ⟨fun h => (by rw [h] at hr; cases hr), fun j hj => ?_⟩
    by_cases hji : j = i
    · subst hji; exact hy.wpOp hi hI (.inr ⟨hI, H⟩)
    · have := ready_mono hj hji
      rw [H.1] at this
      cases this
  | succ fuel ih =>
    intro listed a w hI hY hfree hr hy H
    refine ⟨fun h => (by rw [h] at hr; cases hr), fun j hj => ?_⟩
    by_cases hji : j = i
    · subst hji; exact hy.wpOp hi hI (.inr ⟨hI, H⟩)
    · have h1 := H.2 j (ready_mono hj hji)
      obtain ⟨hjun, oj, hoj, hall⟩ := mem_ready.1 hj
      have hnot : ∀ e ∈ oj.after, Region.binds .any e = true → e.on ≠ i := fun e he hb heq => by
        have g1 := hall e he hb
        have g0 := (mem_ready.1 hr).1
        rw [heq] at g1
        rcases Nat.lt_or_ge i listed.size with h' | h'
        · simp [h'] at g0 g1; rw [g0] at g1; cases g1
        · simp [Array.getElem?_eq_none h'] at g1
      have h2 := wpOp_mildI hoj (hfree j oj hoj hji hjun hnot) (fun cs b => hsel i oi cs b hi) (fun cs b => hsel j oj cs b hoj) hQ hy h1
      have hfree' : ∀ k ok, ops[k]? = some ok → k ≠ i → (listed.setIfInBounds j true).getD k true = false →
          (∀ e ∈ ok.after, Region.binds .any e = true → e.on ≠ i) → oi.apart ops ok = true := fun k ok hk hki hun hno => by
        refine hfree k ok hk hki ?_ hno
        by_cases hjk : j = k
        · subst hjk; exact hjun
        · rw [getD_set_ne true hjk] at hun; exact hun
      have hri : i ∈ Region.ready .any ops (listed.setIfInBounds j true) := ready_mono hr (Ne.symm hji)
      have hjY : j ∉ Y := fun hm => by
        obtain ⟨_, hw⟩ := hY j hm
        rcases hw with hw | ⟨k, hk, hw⟩
        · obtain ⟨e, he, hb, hon⟩ := waitsOn_spec hw hoj
          exact hnot e he hb hon
        · obtain ⟨e, he, hb, hon⟩ := waitsOn_spec hw hoj
          have g1 := hall e he hb
          have g0 := (hY k hk).1
          rw [hon] at g1
          rcases Nat.lt_or_ge k listed.size with h' | h'
          · simp [h'] at g0 g1; rw [g0] at g1; cases g1
          · simp [Array.getElem?_eq_none h'] at g1
      have hjx : X.contains j = false := by
        cases hc : X.contains j
        · rfl
        · exfalso
          have hm : j ∈ X := by simpa using hc
          exact hjY (by simpa using List.all_eq_true.1 hXY j hm)
      have hY' : ∀ k ∈ Y, (listed.setIfInBounds j true).getD k true = false ∧ (waitsOn ops k i = true ∨ ∃ k' ∈ Y, waitsOn ops k k' = true) := fun k hk => by
        obtain ⟨g0, g1⟩ := hY k hk
        exact ⟨by rw [getD_set_ne true (fun e => hjY (by rw [e]; exact hk))]; exact g0, g1⟩
      refine wpOp_mono (fun a' w' h3 => ?_) h2
      obtain ⟨hy', h3⟩ := h3
      rcases h3 with ⟨hx, _⟩ | ⟨hI', h3⟩
      · rw [hjx] at hx; cases hx
      refine .inr ⟨hI', ?_⟩
      refine ih (listed.setIfInBounds j true) a' w' hI' hY' hfree' hri hy' ?_
      rw [Array.setIfInBounds_comm _ _ hji]
      exact h3
/-- The region, from here on. -/
def InvJ (P : Program) (ops : Array Oper) (Q : Exit → Act → World → Prop) (I : World → Prop) (X : List Nat) (fuel : Nat) (listed : Array Bool) (a : Act) (w : World) : Prop := I w ∧ wpAnyJ P ops Q I X fuel listed a w
theorem any_inv (I : World → Prop) (X : List Nat) {fuel : Nat} {listed : Array Bool} {a : Act} {w : World} (h0 : I w) (h : wpAnyJ P ops Q I X fuel listed a w) : wpAny P .any ops Q fuel listed a w := wpAny_of_j _ _ _ _ h
theorem inv_take (Y : List Nat) (i : Nat) (v : Value) {l rest : List Oper} {oi : Oper} {fuel : Nat} {listed : Array Bool} {a : Act} {w : World} (hI : I w) (hd : l.drop i = oi :: rest) (hs : Region.noSelect l.toArray = true) (hXY : X.all (fun j => Y.contains j) = true) (hwa : waitsY l.toArray Y listed i = true)
    (hf : Region.free .any l.toArray listed i = true) (hr : (Region.ready .any l.toArray listed).contains i = true) (hQ : ∀ c a w, Q (.panic c) (a.put oi.dst v) w → Q (.panic c) a w)
    (hw : Region.wanted oi (yielded l.toArray a.tmps) = true) (hy : ∀ w, I w → (execOp a.eval oi).run P w = .ok (.value v) w)
    (h : wpAnyJ P l.toArray Q I X fuel (listed.setIfInBounds i true) (a.put oi.dst v) w) : wpAnyJ P l.toArray Q I X (fuel + 1) listed a w :=
  wpAnyJ_first hXY (of_drop hd) (Region.noSelect_spec hs) hQ fuel listed a w hI (fun j hj => by
    have := List.all_eq_true.1 hwa j hj
    simp only [Bool.and_eq_true, Bool.not_eq_true', Bool.or_eq_true] at this
    refine ⟨this.1, this.2.imp id fun h => ?_⟩
    obtain ⟨k, hk, h⟩ := List.any_eq_true.1 h
    exact ⟨k, hk, h⟩) (Region.free_spec (of_drop hd) hf) (by simpa using hr) (.inl ⟨hw, hy⟩) h
theorem inv_list (i : Nat) {l rest : List Oper} {oi : Oper} {fuel : Nat} {listed : Array Bool} {a : Act} {w : World} (hr : Region.ready .any l.toArray listed = [i]) (hd : l.drop i = oi :: rest)
    (h : wpList P l.toArray (Then (fun a' w' => I w' ∧ wpAnyJ P l.toArray Q I X fuel (listed.setIfInBounds i true) a' w') Q) [oi] a w) : wpAnyJ P l.toArray Q I X (fuel + 1) listed a w :=
  ⟨fun h0 => (by rw [hr] at h0; cases h0), (by rw [hr]; intro j hj; rw [List.mem_singleton] at hj; subst hj; exact wpOp_mono (fun _ _ h => .inr h) (op_list j hd h))⟩
theorem inv_write (i : Nat) {l rest : List Oper} {oi : Oper} {fuel : Nat} {listed : Array Bool} {a : Act} {w : World} (hr : Region.ready .any l.toArray listed = [i]) (hx : X.contains i = true) (hd : l.drop i = oi :: rest)
    (h : wpList P l.toArray (Then (fun a' w' => wpAny P .any l.toArray Q fuel (listed.setIfInBounds i true) a' w') Q) [oi] a w) : wpAnyJ P l.toArray Q I X (fuel + 1) listed a w :=
  ⟨fun h0 => (by rw [hr] at h0; cases h0), (by rw [hr]; intro j hj; rw [List.mem_singleton] at hj; subst hj; exact wpOp_mono (fun _ _ h => .inl ⟨hx, h⟩) (op_list j hd h))⟩
theorem inv_done {fuel : Nat} {listed : Array Bool} {a : Act} {w : World} (hr : Region.ready .any ops listed = []) (h : Q .normal a w) : wpAnyJ P ops Q I X fuel listed a w := by
  cases fuel with
  | zero => exact ⟨hr, h⟩
  | succ fuel => exact ⟨fun _ => h, fun i hi => by rw [hr] at hi; cases hi⟩
end
end Go.Proofs.Ytjdbjmfkheffdaa
end
