/- The contracts of Send, Request, Reply. Conditions: as each theorem states them.
The contracts of Request and Reply. Conditions: as each theorem states them.
The contract of crc.Spoil: what it gives, in new memory; nothing that was there is written. Conditions: as the theorem states them.
The contracts of overWire and Deliver. Conditions: as each theorem states them.
The contract of Deliver. Conditions: as each theorem states them.
A network on the way to be made: its lanes one node after the other (NW). Nothing of the program but packets is named here. -/
import Derived.Test.YtjdbjmfkheffdaaPart5
import Derived.Test.YtjdbjmfkheffdaaPart1
import Derived.Test.YtjdbjmfkheffdaaPart4
section
namespace Go.Proofs.Ytjdbjmfkheffdaa
open Go.RowKit
set_option linter.unusedVariables false
set_option maxRecDepth 20000

theorem laneSend_full (w : World) {g q : Nat} {M D : Nat → Prop} {room : Int} {L : List Pk} (h : Qu w g M D room L) (x : Pk) (a : Option Addr) (n cap : Nat) (h0 : 0 ≤ room) (h1 : room ≤ 1000) (hr : (L.length : Int) = room) :
    Calls Try.prog 35 #[laneV g q, x.val (.slice a n cap)] w fun e w' => e = .returned (.int .i64 5) ∧ Below w.heap.size w w' := by
  have HR : Hid ((L.length : Int) = room) := hr
  clear hr
  unfold Pk.val
  go_enter Try.func35, Try.ntmps35
  go_wp2_with (go_at_call 54; refine (P.put_full _ (h.below (ba (ba (Below.refl _ _)))) x a n cap h0 (by omega) HR.out).mono ?_; rintro e w1 ⟨rfl, hb1⟩)
  go_ret
  exact ⟨rfl, next (ba (ba (Below.refl _ _))) hb1⟩
theorem laneSend_ok (w : World) {g q : Nat} {M D : Nat → Prop} {room : Int} {L : List Pk} (h : Qu w g M D room L) (x : Pk) (a : Option Addr) (n cap : Nat) (hsl : Sl w a n cap x.z) (hn : n ≤ 1000) (h0 : 0 ≤ room) (h1 : room ≤ 1000) (hr : (L.length : Int) < room) :
    Calls Try.prog 35 #[laneV g q, x.val (.slice a n cap)] w fun e w' => e = .returned (.int .i64 0) ∧ Keep M w w' ∧
      ∃ M' D', Qu w' g M' D' room (L ++ [x]) ∧ (∀ k, M' k → M k ∨ w.heap.size ≤ k) ∧ (∀ k, D' k → D k ∨ w.heap.size ≤ k) := by
  have HR : Hid ((L.length : Int) < room) := hr
  clear hr
  unfold Pk.val
  go_enter Try.func35, Try.ntmps35
  go_wp2_with (go_at_call 54; refine (P.put_ok _ (h.below (ba (ba (Below.refl _ _)))) x a n cap (hsl.below (ba (ba (Below.refl _ _)))) (by omega) h0 (by omega) HR.out).mono ?_; rintro e w1 ⟨rfl, hk1, M', D', hq1, hM1, hD1⟩)
  go_ret
  refine ⟨rfl, Keep.pre (ba (ba (Below.refl _ _))) hk1, M', D', hq1, fun k hk => (hM1 k hk).imp id (fun h => ?_), fun k hk => (hD1 k hk).imp id (fun h => ?_)⟩ <;> (simp at h; omega)
theorem laneArrive_full (w : World) {g p : Nat} {M D : Nat → Prop} {room : Int} {L : List Pk} (h : Qu w g M D room L) (x : Pk) (a : Option Addr) (n cap : Nat) (h0 : 0 ≤ room) (h1 : room ≤ 1000) (hr : (L.length : Int) = room) :
    Calls Try.prog 39 #[laneV p g, x.val (.slice a n cap)] w fun e w' => e = .returned (.int .i64 5) ∧ Below w.heap.size w w' := by
  have HR : Hid ((L.length : Int) = room) := hr
  clear hr
  unfold Pk.val
  go_enter Try.func39, Try.ntmps39
  go_wp2_with (go_at_call 60; refine (put_full _ (h.below (ba (ba (Below.refl _ _)))) x a n cap h0 (by omega) HR.out).mono ?_; rintro e w1 ⟨rfl, hb1⟩)
  go_ret
  exact ⟨rfl, next (ba (ba (Below.refl _ _))) hb1⟩
theorem laneArrive_ok (w : World) {g p : Nat} {M D : Nat → Prop} {room : Int} {L : List Pk} (h : Qu w g M D room L) (x : Pk) (a : Option Addr) (n cap : Nat) (hsl : Sl w a n cap x.z) (hn : n ≤ 1000) (h0 : 0 ≤ room) (h1 : room ≤ 1000) (hr : (L.length : Int) < room) :
    Calls Try.prog 39 #[laneV p g, x.val (.slice a n cap)] w fun e w' => e = .returned (.int .i64 0) ∧ Keep M w w' ∧
      ∃ M' D', Qu w' g M' D' room (L ++ [x]) ∧ (∀ k, M' k → M k ∨ w.heap.size ≤ k) ∧ (∀ k, D' k → D k ∨ w.heap.size ≤ k) := by
  have HR : Hid ((L.length : Int) < room) := hr
  clear hr
  unfold Pk.val
  go_enter Try.func39, Try.ntmps39
  go_wp2_with (go_at_call 60; refine (put_ok _ (h.below (ba (ba (Below.refl _ _)))) x a n cap (hsl.below (ba (ba (Below.refl _ _)))) (by omega) h0 (by omega) HR.out).mono ?_; rintro e w1 ⟨rfl, hk1, M', D', hq1, hM1, hD1⟩)
  go_ret
  refine ⟨rfl, Keep.pre (ba (ba (Below.refl _ _))) hk1, M', D', hq1, fun k hk => (hM1 k hk).imp id (fun h => ?_), fun k hk => (hD1 k hk).imp id (fun h => ?_)⟩ <;> (simp at h; omega)
/-- A packet's lane. -/
theorem lane_of (w : World) {gf nn : Nat} {out inn : Int} {F : Nat → List Pk} {B : Nat → Prop} {gl go cap : Nat} {G : Nat → Nat} {M D : Nat → Nat → Prop} (h : FbI w gf nn out inn F B gl go cap G M D) (x : Pk) (i : Nat) (h1 : i < nn) (v : Int) (hv : v = (i : Int)) :
    Calls Try.prog 33 #[.pointer (some ⟨gf, 0, none⟩), .int .i64 v, .bool (inB 1 x.k 6)] w fun e w' => e = .returned (laneV (G (pr (2 * i + sortN x))) (G (pr (2 * i + sortN x) + 2))) ∧ Below w.heap.size w w' := by
  unfold sortN
  cases hb : inB 1 x.k 6
  · exact lane_ans w h i h1 v hv
  · exact lane_req w h i h1 v hv
/-- Send, by what it makes of the network. -/
theorem send_err (w : World) {gf nn : Nat} {out inn : Int} {F : Nat → List Pk} {B : Nat → Prop} (h : Fb w gf nn out inn F B) (x : Pk) (a : Option Addr) (n cap : Nat) (hsl : Sl w a n cap x.z) (hr : x.right = false) :
    Calls Try.prog 12 #[.pointer (some ⟨gf, 0, none⟩), x.val (.slice a n cap)] w fun e w' => e = .returned (.int .i64 1) ∧ Below w.heap.size w w' := by
  have HE : Hid (x.err = 1) := Pk.err_f hr
  clear hr
  unfold Pk.val
  go_enter Try.func12, Try.ntmps12
  go_wp2_with (go_at_call 31; refine (check_any x a n cap _ (hsl.below (ba (Below.refl _ _)))).mono ?_; rintro e w1 ⟨rfl, hb1⟩; rw [HE.out])
  go_ret
  exact ⟨rfl, next (ba (Below.refl _ _)) hb1⟩
set_option maxHeartbeats 400000 in
theorem send_far (w : World) {gf nn : Nat} {out inn : Int} {F : Nat → List Pk} {B : Nat → Prop} (h : Fb w gf nn out inn F B) (x : Pk) (a : Option Addr) (n cap : Nat) (hsl : Sl w a n cap x.z) (hr : x.right = true) (hf : (nn : Int) ≤ x.f ∨ (nn : Int) ≤ x.t) :
    Calls Try.prog 12 #[.pointer (some ⟨gf, 0, none⟩), x.val (.slice a n cap)] w fun e w' => e = .returned (.int .i64 1) ∧ Below w.heap.size w w' := by
  obtain ⟨gl, go, cp, G, M, D, h⟩ := h
  have HE : Hid (x.err = 0) := Pk.err_t hr
  have hR := (Pk.right_iff x).1 hr
  have f0 := hR.f.1
  have t0 := hR.t.1
  clear hr hR
  by_cases hff : (nn : Int) ≤ x.f
  · have HF : Hid ((nn : Int) ≤ x.f) := hff
    clear hf hff
    unfold Pk.val
    go_enter Try.func12, Try.ntmps12
    go_wp2_with (first
      | (go_at_call 31; refine (check_any x a n cap _ (hsl.below (ba (Below.refl _ _)))).mono ?_; rintro e w1 ⟨rfl, hb1⟩; rw [HE.out]; obtain ⟨q0, q1, q2, q3, q4, q5, q6, q7, q8, qf, ql⟩ := (Bx.made w x (.slice a n cap)).next hb1)
      | (go_at_call 32; refine (isNode_no _ (h.below (next (ba (Below.refl _ _)) hb1)) _ (.inr HF.out)).mono ?_; rintro e w2 ⟨rfl, rfl⟩))
    go_ret
    exact ⟨rfl, next (ba (Below.refl _ _)) hb1⟩
  · have HT : Hid ((nn : Int) ≤ x.t) := hf.resolve_left hff
    have f1 : x.f < (nn : Int) := by omega
    clear hf hff
    unfold Pk.val
    go_enter Try.func12, Try.ntmps12
    go_wp2_with (first
      | (go_at_call 31; refine (check_any x a n cap _ (hsl.below (ba (Below.refl _ _)))).mono ?_; rintro e w1 ⟨rfl, hb1⟩; rw [HE.out]; obtain ⟨q0, q1, q2, q3, q4, q5, q6, q7, q8, qf, ql⟩ := (Bx.made w x (.slice a n cap)).next hb1)
      | (have mk := mk1; clear mk; go_at_call 32; refine (isNode_no _ (h.below (next (ba (Below.refl _ _)) hb1)) x.t (.inr HT.out)).mono ?_; rintro e w2 ⟨rfl, rfl⟩)
      | (go_at_call 32; refine (isNode_yes _ (h.below (next (ba (Below.refl _ _)) hb1)) x.f f0 f1).mono ?_; rintro e w2 ⟨rfl, rfl⟩; have mk1 : True := True.intro))
    go_ret
    exact ⟨rfl, next (ba (Below.refl _ _)) hb1⟩
/-- The network behind a call: its memory is its own, or new. -/
def FThen (w w' : World) (gf nn : Nat) (out inn : Int) (F' : Nat → List Pk) (B : Nat → Prop) : Prop := Keep B w w' ∧ ∃ B', Fb w' gf nn out inn F' B' ∧ ∀ k, B' k → B k ∨ w.heap.size ≤ k
theorem then_below {w w' : World} {gf nn : Nat} {out inn : Int} {F : Nat → List Pk} {B : Nat → Prop} (h : Fb w gf nn out inn F B) (hb : Below w.heap.size w w') : FThen w w' gf nn out inn F B :=
  ⟨Keep.of_below hb, B, h.below hb, fun k h => .inl h⟩
set_option maxHeartbeats 1000000 in
theorem send_full (w : World) {gf nn : Nat} {out inn : Int} {F : Nat → List Pk} {B : Nat → Prop} (h : Fb w gf nn out inn F B) (x : Pk) (a : Option Addr) (n cap : Nat) (hsl : Sl w a n cap x.z) (hr : x.right = true) (hf : x.f < nn) (ht : x.t < nn) (hl : ((F (pr (fromQ x))).length : Int) = out) :
    Calls Try.prog 12 #[.pointer (some ⟨gf, 0, none⟩), x.val (.slice a n cap)] w fun e w' => e = .returned (.int .i64 5) ∧ Below w.heap.size w w' := by
  obtain ⟨gl, go, cp, G, M, D, h⟩ := h
  have HE : Hid (x.err = 0) := Pk.err_t hr
  have hR := (Pk.right_iff x).1 hr
  have f0 := hR.f.1
  have t0 := hR.t.1
  have HX : Hid (x.f = (x.f.toNat : Int)) := by show _ = _; omega
  have HY : Hid (x.f.toNat < nn) := by show _ < _; omega
  have hs2 := sortN_lt x
  have hq := h.many.qu (pr (fromQ x)) (by have := pr_lt (q := fromQ x) (nn := nn) (by unfold fromQ; omega); omega)
  rw [Rm_out] at hq
  unfold fromQ at hq hl
  have HL : Hid (((F (pr (2 * x.f.toNat + sortN x))).length : Int) = out) := hl
  have HO : Hid (0 ≤ out ∧ out ≤ 1000) := ⟨by have := h.o0; omega, h.o1⟩
  have HF : Hid (x.f < nn) := hf
  have HT : Hid (x.t < nn) := ht
  have F0 : Hid (0 ≤ x.f) := f0
  have T0 : Hid (0 ≤ x.t) := t0
  clear hr hR hl hs2 hf ht f0 t0
  unfold Pk.val
  go_enter Try.func12, Try.ntmps12
  go_wp2_with (first
    | (go_at_call 31; refine (check_any x a n cap _ (hsl.below (ba (Below.refl _ _)))).mono ?_; rintro e w1 ⟨rfl, hb1⟩; rw [HE.out]; obtain ⟨q0, q1, q2, q3, q4, q5, q6, q7, q8, qf, ql⟩ := (Bx.made w x (.slice a n cap)).next hb1)
    | (go_at_call 32; refine (isNode_yes _ (h.below (next (ba (Below.refl _ _)) hb1)) _ (by first | exact F0.out | exact T0.out) (by first | exact HF.out | exact HT.out)).mono ?_; rintro e w2 ⟨rfl, rfl⟩))
  have hB1 := next (ba (o := .cells #[.int .i64 x.k, .int .i64 x.f, .int .i64 x.t, .int .i64 x.i, .int .i64 x.l, .int .i64 x.p, .int .i64 x.s, .bool x.fl, .slice a n cap] 26) (Below.refl w.heap.size w)) hb1
  have h1 := h.below hB1
  have hq1 := hq.below hB1
  have uc := @Up.cell
  have uf := @Up.frozen
  refine wp_region_up (by kernel_rfl) (by kernel_rfl) ?_
  repeat (go_big_quiet_step ((first
    | (go_at_call 34; exact Calls.up_same (request_any x.k _))
    | (go_at_call 33; exact Calls.up_of (lane_of _ (h1.below (Subtype.property _)) x _ HY.out _ HX.out))
    | (go_at_call 35; exact Calls.up_of (laneSend_full _ (hq1.below (Subtype.property _)) x a n cap HO.out.1 HO.out.2 HL.out)))))
  refine wpQuiet_nil ?_
  rintro _ ⟨u, rfl⟩
  clear uc uf
  go_wp2
  go_ret
  exact ⟨rfl, next hB1 u.2⟩
set_option maxHeartbeats 1000000 in
theorem send_ok (w : World) {gf nn : Nat} {out inn : Int} {F : Nat → List Pk} {B : Nat → Prop} (h : Fb w gf nn out inn F B) (x : Pk) (a : Option Addr) (n cap : Nat) (hsl : Sl w a n cap x.z) (hz : R64 x.z) (hr : x.right = true) (hf : x.f < nn) (ht : x.t < nn) (hl : ((F (pr (fromQ x))).length : Int) < out) :
    Calls Try.prog 12 #[.pointer (some ⟨gf, 0, none⟩), x.val (.slice a n cap)] w fun e w' => e = .returned (.int .i64 0) ∧ FThen w w' gf nn out inn (upd F (pr (fromQ x)) (F (pr (fromQ x)) ++ [x])) B := by
  obtain ⟨gl, go, cp, G, M, D, h⟩ := h
  have HE : Hid (x.err = 0) := Pk.err_t hr
  have hR := (Pk.right_iff x).1 hr
  have f0 := hR.f.1
  have t0 := hR.t.1
  have HX : Hid (x.f = (x.f.toNat : Int)) := by show _ = _; omega
  have HY : Hid (x.f.toNat < nn) := by show _ < _; omega
  have hs2 := sortN_lt x
  have hpl : pr (fromQ x) < 4 * nn := by have := pr_lt (q := fromQ x) (nn := nn) (by unfold fromQ; omega); omega
  have hq := h.many.qu (pr (fromQ x)) hpl
  have HSTEP : Hid (∀ (w1 w' : World) (M' D' : Nat → Prop), Below w.heap.size w w1 → Keep (M (pr (fromQ x))) w1 w' → Qu w' (G (pr (fromQ x))) M' D' out (F (pr (fromQ x)) ++ [x]) → (∀ k, M' k → M (pr (fromQ x)) k ∨ w1.heap.size ≤ k) → (∀ k, D' k → D (pr (fromQ x)) k ∨ w1.heap.size ≤ k) → FThen w w' gf nn out inn (upd F (pr (fromQ x)) (F (pr (fromQ x)) ++ [x])) B) := by
    intro w1 w' M' D' hb hk hqu hM hD
    have hg : ∀ y ∈ F (pr (fromQ x)) ++ [x], Good nn y := by
      intro y hy
      rcases List.mem_append.1 hy with hy | hy
      · exact h.good _ hpl y hy
      · rw [List.mem_singleton] at hy; subst hy; exact ⟨hr, hf, ht, hz⟩
    obtain ⟨hk', hf'⟩ := (h.below hb).step hpl hk (by rw [Rm_out]; exact hqu) hM hD hg (by rw [Rm_out, List.length_append]; simp; omega)
    refine ⟨Keep.pre hb hk', _, ⟨_, _, _, _, _, _, hf'⟩, fun k hk => ?_⟩
    rcases hk with hk | hk
    · exact .inl hk
    · have := hb.size; exact .inr (by omega)
  rw [Rm_out] at hq
  unfold fromQ at hq hl HSTEP ⊢
  have HL : Hid (((F (pr (2 * x.f.toNat + sortN x))).length : Int) < out) := hl
  have HO : Hid (0 ≤ out ∧ out ≤ 1000) := ⟨by have := h.o0; omega, h.o1⟩
  have HF : Hid (x.f < nn) := hf
  have HT : Hid (x.t < nn) := ht
  have F0 : Hid (0 ≤ x.f) := f0
  have T0 : Hid (0 ≤ x.t) := t0
  have HNN : Hid (n ≤ 1000) := by show _ ≤ _; have := hR.z; have := hsl.len; omega
  clear hr hR hl hs2 hf ht f0 t0 hz hpl
  unfold Pk.val
  go_enter Try.func12, Try.ntmps12
  go_wp2_with (first
    | (go_at_call 31; refine (check_any x a n cap _ (hsl.below (ba (Below.refl _ _)))).mono ?_; rintro e w1 ⟨rfl, hb1⟩; rw [HE.out]; obtain ⟨q0, q1, q2, q3, q4, q5, q6, q7, q8, qf, ql⟩ := (Bx.made w x (.slice a n cap)).next hb1)
    | (go_at_call 32; refine (isNode_yes _ (h.below (next (ba (Below.refl _ _)) hb1)) _ (by first | exact F0.out | exact T0.out) (by first | exact HF.out | exact HT.out)).mono ?_; rintro e w2 ⟨rfl, rfl⟩))
  refine wp_region_orders 10 rfl (by kernel_rfl) ?_
  have hB1 := next (ba (o := .cells #[.int .i64 x.k, .int .i64 x.f, .int .i64 x.t, .int .i64 x.i, .int .i64 x.l, .int .i64 x.p, .int .i64 x.s, .bool x.fl, .slice a n cap] 26) (Below.refl w.heap.size w)) hb1
  have hB := next hB1 ((Below.refl w1.heap.size w1).drew)
  have bxd := (⟨q0, q1, q2, q3, q4, q5, q6, q7, q8, qf, ql⟩ : Bx w1 w.heap.size x (.slice a n cap)).next ((Below.refl w1.heap.size w1).drew)
  clear hB1 hb1 q0 q1 q2 q3 q4 q5 q6 q7 q8 qf ql
  generalize w1.drew = wd at *
  obtain ⟨q0, q1, q2, q3, q4, q5, q6, q7, q8, qf, ql⟩ := bxd
  have uc := @Up.cell2
  have uf := @Up.frozen2
  have hd := h.below hB
  refine any_take 0 (.pointer (some ⟨gf, 0, none⟩)) rfl (by kernel_rfl) (by kernel_rfl) (by kernel_rfl) (fun _ _ _ h => h) (by kernel_rfl) (fun w => by go_simp) ?_
  simp only [Act.put, List.setIfInBounds_toArray, List.set_cons_zero, List.set_cons_succ]
  refine any_take 1 (.pointer (some ⟨w.heap.size, 1, none⟩)) rfl (by kernel_rfl) (by kernel_rfl) (by kernel_rfl) (fun _ _ _ h => h) (by kernel_rfl) (fun w => by go_simp) ?_
  simp only [Act.put, List.setIfInBounds_toArray, List.set_cons_zero, List.set_cons_succ]
  refine any_take 3 (.pointer (some ⟨w.heap.size, 0, none⟩)) rfl (by kernel_rfl) (by kernel_rfl) (by kernel_rfl) (fun _ _ _ h => h) (by kernel_rfl) (fun w => by go_simp) ?_
  simp only [Act.put, List.setIfInBounds_toArray, List.set_cons_zero, List.set_cons_succ]
  refine any_mildx [8, 9] ?_
  refine mildy_take (v := ?v1) [6, 8, 9] 2 rfl (by kernel_rfl) (by kernel_rfl) (by kernel_rfl) (by kernel_rfl) (by kernel_rfl) (fun _ _ _ h => h) (by kernel_rfl) (fun Wu K hK => ?hy1) ?go1
  case hy1 =>
    go_big_quiet_op
    simp only [Act.put, List.setIfInBounds_toArray, List.set_cons_zero, List.set_cons_succ] at hK
    exact hK
  simp only [Act.put, List.setIfInBounds_toArray, List.set_cons_zero, List.set_cons_succ]
  refine mildy_take (v := ?v2) [5, 6, 8, 9] 4 rfl (by kernel_rfl) (by kernel_rfl) (by kernel_rfl) (by kernel_rfl) (by kernel_rfl) (fun _ _ _ h => h) (by kernel_rfl) (fun Wu K hK => ?hy2) ?go2
  case hy2 =>
    go_big_quiet_op
    simp only [Act.put, List.setIfInBounds_toArray, List.set_cons_zero, List.set_cons_succ] at hK
    exact hK
  simp only [Act.put, List.setIfInBounds_toArray, List.set_cons_zero, List.set_cons_succ]
  refine mildy_take (v := ?v3) [6, 8, 9] 5 rfl (by kernel_rfl) (by kernel_rfl) (by kernel_rfl) (by kernel_rfl) (by kernel_rfl) (fun _ _ _ h => h) (by kernel_rfl) (fun Wu K hK => ?hy3) ?go3
  case hy3 =>
    go_big_quiet_op
    simp only [Act.put, List.setIfInBounds_toArray, List.set_cons_zero, List.set_cons_succ] at hK
    refine ⟨_, fun u => Calls.up_same (request_any x.k u.1), ?_⟩
    exact hK
  simp only [Act.put, List.setIfInBounds_toArray, List.set_cons_zero, List.set_cons_succ]
  refine mildy_take (v := ?v4) [8, 9] 7 rfl (by kernel_rfl) (by kernel_rfl) (by kernel_rfl) (by kernel_rfl) (by kernel_rfl) (fun _ _ _ h => h) (by kernel_rfl) (fun Wu K hK => ?hy4) ?go4
  case hy4 =>
    go_big_quiet_op
    simp only [Act.put, List.setIfInBounds_toArray, List.set_cons_zero, List.set_cons_succ] at hK
    exact hK
  simp only [Act.put, List.setIfInBounds_toArray, List.set_cons_zero, List.set_cons_succ]
  refine mildy_take (v := ?v5) [8, 9] 6 rfl (by kernel_rfl) (by kernel_rfl) (by kernel_rfl) (by kernel_rfl) (by kernel_rfl) (fun _ _ _ h => h) (by kernel_rfl) (fun Wu K hK => ?hy5) ?go5
  case hy5 =>
    go_big_quiet_op
    simp only [Act.put, List.setIfInBounds_toArray, List.set_cons_zero, List.set_cons_succ] at hK
    refine ⟨_, fun u => Calls.up_of (lane_of u.1 ((hd.below Wu.2).below u.2) x _ HY.out _ HX.out), ?_⟩
    exact hK
  simp only [Act.put, List.setIfInBounds_toArray, List.set_cons_zero, List.set_cons_succ]
  intro W
  clear uc uf
  have hBW := next hB W.2
  generalize W.1 = wa at *
  refine upx_write 8 (by kernel_rfl) (by kernel_rfl) rfl ?_
  go_wp2_with (go_at_call 35; refine (laneSend_ok _ (hq.below hBW) x a n cap (hsl.below hBW) HNN.out HO.out.1 HO.out.2 HL.out).mono ?_; rintro e w3 ⟨rfl, hk3, M', D', hq3, hM3, hD3⟩)
  refine then_n ?_
  refine any_list 9 (by kernel_rfl) rfl ?_
  go_wp2
  refine then_n ?_
  refine any_done (by kernel_rfl) ?_
  go_wp2
  go_ret
  exact ⟨rfl, HSTEP.out _ _ M' D' hBW hk3 hq3 hM3 hD3⟩
theorem send_any (w : World) {gf nn : Nat} {out inn : Int} {F F' : Nat → List Pk} {B : Nat → Prop} {e : Int} (h : Fb w gf nn out inn F B) (x : Pk) (a : Option Addr) (n cap : Nat) (hsl : Sl w a n cap x.z) (hz : R64 x.z) (hs : SendTo nn out F x e F') :
    Calls Try.prog 12 #[.pointer (some ⟨gf, 0, none⟩), x.val (.slice a n cap)] w fun en w' => en = .returned (.int .i64 e) ∧ FThen w w' gf nn out inn F' B := by
  cases hs with
  | no hr => exact (send_err w h x a n cap hsl hr).mono fun _ _ ⟨he, hb⟩ => ⟨he, then_below h hb⟩
  | far hr hf => exact (send_far w h x a n cap hsl hr hf).mono fun _ _ ⟨he, hb⟩ => ⟨he, then_below h hb⟩
  | full hr hf ht hl => exact (send_full w h x a n cap hsl hr hf ht hl).mono fun _ _ ⟨he, hb⟩ => ⟨he, then_below h hb⟩
  | ok hr hf ht hl => exact send_ok w h x a n cap hsl hz hr hf ht hl
end Go.Proofs.Ytjdbjmfkheffdaa
end
section
namespace Go.Proofs.Ytjdbjmfkheffdaa
open Go.RowKit
set_option linter.unusedVariables false
set_option maxRecDepth 20000

theorem lane_q (p q : Nat) (w : World) : (Instr.field 71 (.agg #[.pointer (some ⟨p, 0, none⟩), .pointer (some ⟨q, 0, none⟩)]) 1).run Try.prog w = .ok (.pointer (some ⟨q, 0, none⟩)) w := by kernel_rfl
section
variable (w : World) {gf nn : Nat} {out inn : Int} {F : Nat → List Pk} {B : Nat → Prop}
/-- No packet. -/
def NoPacket (w : World) (e : Ending) (w' : World) : Prop := e = .returned (.tuple #[zeroPk.val (.slice none 0 0), .bool false]) ∧ Below w.heap.size w w'
set_option maxHeartbeats 400000 in
theorem take_no (h : Fb w gf nn out inn F B) (i : Int) (b : Bool) (hi : i < 0 ∨ (nn : Int) ≤ i) :
    Calls Try.prog 43 #[.pointer (some ⟨gf, 0, none⟩), .int .i64 i, .bool b] w fun e w' => NoPacket w e w' := by
  obtain ⟨gl, go, cap, G, M, D, h⟩ := h
  have HI : Hid (i < 0 ∨ (nn : Int) ≤ i) := hi
  clear hi
  go_enter Try.func43, Try.ntmps43
  go_wp2_with (go_at_call 32; refine (isNode_no _ (h.below (ba (Below.refl _ _))) i HI.out).mono ?_; rintro e w1 ⟨rfl, rfl⟩)
  refine bodyPost_ret (v := .tuple #[zeroPk.val (.slice none 0 0), .bool false]) (by simp [results, Try.results43, go_sem, zeroPk, *]) rfl ⟨rfl, ?_⟩
  exact ba (Below.refl _ _)
/-- A node's lane, of requests or of answers. -/
def laneS (b : Bool) : Nat := if b = true then 0 else 1
theorem laneS_lt (b : Bool) : laneS b < 2 := by cases b <;> decide
theorem lane_b {gl go cap : Nat} {G : Nat → Nat} {M D : Nat → Nat → Prop} (h : FbI w gf nn out inn F B gl go cap G M D) (b : Bool) (i : Nat) (h1 : i < nn) (v : Int) (hv : v = (i : Int)) :
    Calls Try.prog 33 #[.pointer (some ⟨gf, 0, none⟩), .int .i64 v, .bool b] w fun e w' => e = .returned (laneV (G (pr (2 * i + laneS b))) (G (pr (2 * i + laneS b) + 2))) ∧ Below w.heap.size w w' := by
  cases b
  · exact lane_ans w h i h1 v hv
  · exact lane_req w h i h1 v hv
set_option maxHeartbeats 400000 in
theorem take_empty (h : Fb w gf nn out inn F B) (i : Nat) (b : Bool) (hi : i < nn) (hF : F (pr (2 * i + laneS b) + 2) = []) :
    Calls Try.prog 43 #[.pointer (some ⟨gf, 0, none⟩), .int .i64 (i : Int), .bool b] w fun e w' => NoPacket w e w' := by
  obtain ⟨gl, go, cap, G, M, D, h⟩ := h
  have hs := laneS_lt b
  have hq := h.many.qu (pr (2 * i + laneS b) + 2) (pr_lt (by omega))
  rw [hF] at hq
  have i0 : (0 : Int) ≤ (i : Int) := by omega
  have i1 : (i : Int) < (nn : Int) := by omega
  clear hF hs
  have hfd := lane_q
  go_enter Try.func43, Try.ntmps43
  go_wp2_with (first
    | (go_at_call 32; refine (isNode_yes _ (h.below (ba (Below.refl _ _))) _ i0 i1).mono ?_; rintro e w1 ⟨rfl, rfl⟩)
    | (go_at_call 33; refine (lane_b _ (h.below (ba (Below.refl _ _))) b i hi _ rfl).mono ?_; rintro e w2 ⟨rfl, hb2⟩; unfold laneV; have bx2 := (Bx.made w zeroPk (.slice none 0 0)).next hb2)
    | (go_at_call 64; refine (take_none _ (hq.below (next (ba (Below.refl _ _)) hb2))).mono ?_; rintro e w3 ⟨rfl, hb3⟩; have bx3 := bx2.next hb3; clear bx2; obtain ⟨q0, q1, q2, q3, q4, q5, q6, q7, q8, qf, ql⟩ := bx3; simp only [zeroPk] at q0 q1 q2 q3 q4 q5 q6 q7 q8))
  refine bodyPost_ret (v := .tuple #[zeroPk.val (.slice none 0 0), .bool false]) (by simp [results, Try.results43, go_sem, zeroPk, *]) rfl ⟨rfl, ?_⟩
  exact far9 (g := w.heap.size) (y := zeroPk) (v := .slice none 0 0) (W := w3) (P := fun V => Below w.heap.size w V) (fun V o u h => h.setCell (by simp) u) (next (next (ba (Below.refl _ _)) hb2) hb3)
/-- A packet is taken: its words are where they were. -/
def Took (w : World) (gf nn : Nat) (out inn : Int) (F' : Nat → List Pk) (B : Nat → Prop) (x : Pk) (e : Ending) (w' : World) : Prop := ∃ d, e = .returned (.tuple #[x.val d, .bool true]) ∧ Dat w' B x d ∧ FThen w w' gf nn out inn F' B
set_option maxHeartbeats 1000000 in
theorem take_some' (h : Fb w gf nn out inn F B) (i : Nat) (b : Bool) (hi : i < nn) (x : Pk) (L : List Pk) (hF : F (pr (2 * i + laneS b) + 2) = x :: L) :
    Calls Try.prog 43 #[.pointer (some ⟨gf, 0, none⟩), .int .i64 (i : Int), .bool b] w fun e w' => Took w gf nn out inn (upd F (pr (2 * i + laneS b) + 2) L) B x e w' := by
  obtain ⟨gl, go, cap, G, M, D, h⟩ := h
  have hs := laneS_lt b
  have hpl := pr_lt (q := 2 * i + laneS b) (nn := nn) (by omega)
  generalize hr : pr (2 * i + laneS b) + 2 = r at *
  have hq := h.many.qu r hpl
  have HSTEP : Hid (∀ (w1 w' w'' : World), Below w.heap.size w w1 → Keep (M r) w1 w' → Qu w' (G r) (M r) (D r) (Rm out inn r) L → w.heap.size < w1.heap.size → Keep (fun k => k = w.heap.size) w' w'' → FThen w w'' gf nn out inn (upd F r L) B) := by
    intro w1 w' w'' hb hk hqu hlt hk2
    have hg : ∀ y ∈ L, Good nn y := fun y hy => h.good r hpl y (by rw [hF]; exact List.mem_cons_of_mem _ hy)
    have hro := h.rooms r hpl
    rw [hF] at hro
    obtain ⟨hk', hf'⟩ := (h.below hb).step hpl hk hqu (fun k h => .inl h) (fun k h => .inl h) hg (by simp at hro; omega)
    refine ⟨(Keep.pre hb hk').trans hk2 (fun k hk e => by omega), _, ⟨_, _, _, _, _, _, hf'.keep hk2 (fun k hk e => ?_)⟩, fun k hk => ?_⟩
    · subst e
      rcases hk with hk | hk
      · exact Nat.lt_irrefl _ (h.old _ hk)
      · omega
    · rcases hk with hk | hk
      · exact .inl hk
      · have := hb.size; exact .inr (by omega)
  have HB : Hid (∀ k, B k → k < w.heap.size) := h.old
  have HMEM : Hid (∀ k, D r k → B k) := fun k hk => h.mem r hpl k (.inr hk)
  have HNM : Hid (∀ k, M r k ∨ D r k → k < w.heap.size) := fun k hk => h.many.old hpl hk
  rw [hF] at hq
  have i0 : (0 : Int) ≤ (i : Int) := by omega
  have i1 : (i : Int) < (nn : Int) := by omega
  clear hF hs
  have hfd := lane_q
  go_enter Try.func43, Try.ntmps43
  go_wp2_with (first
    | (go_at_call 32; refine (isNode_yes _ (h.below (ba (Below.refl _ _))) _ i0 i1).mono ?_; rintro e w1 ⟨rfl, rfl⟩)
    | (go_at_call 33; refine (lane_b _ (h.below (ba (Below.refl _ _))) b i hi _ rfl).mono ?_; rintro e w2 ⟨rfl, hb2⟩; rw [hr]; unfold laneV; have bx2 := (Bx.made w zeroPk (.slice none 0 0)).next hb2)
    | (go_at_call 64; refine (take_some _ (hq.below (next (ba (Below.refl _ _)) hb2))).mono ?_; rintro e w3 ⟨d, rfl, hk3, hd3, hq3⟩; have bx3 := bx2.keep hk3 (fun hm => Nat.lt_irrefl _ (HNM.out _ (.inl hm))); have l2 := bx2.lt; clear bx2; obtain ⟨q0, q1, q2, q3, q4, q5, q6, q7, q8, qf, ql⟩ := bx3; simp only [zeroPk] at q0 q1 q2 q3 q4 q5 q6 q7 q8; obtain ⟨ad, nd, cd, rfl, hsd, hnd, hdd⟩ := id hd3))
  have hkk : Keep (fun k => k = w.heap.size) w3 _ := far9 (g := w.heap.size) (y := x) (v := .slice ad nd cd) (W := w3) (P := fun V => Keep (fun k => k = w.heap.size) w3 V) (fun V o u h => h.setCell (.inl rfl) u) (Keep.refl _ _)
  refine bodyPost_ret (v := .tuple #[x.val (.slice ad nd cd), .bool true]) (by simp [results, Try.results43, go_sem, *]) rfl ⟨_, rfl, ?_, HSTEP.out w2 w3 _ (next (ba (Below.refl _ _)) hb2) hk3 hq3 l2 hkk⟩
  exact (hd3.imp (fun k _ hk => HMEM.out k hk)).keep hkk (fun k hb e => Nat.lt_irrefl _ (by subst e; exact HB.out _ hb))
/-- What Request and Reply make of the network. -/
inductive TakeTo (nn : Nat) (F : Nat → List Pk) (i : Int) (b : Bool) : Option Pk → (Nat → List Pk) → Prop
  | no : (i < 0 ∨ (nn : Int) ≤ i) → TakeTo nn F i b none F
  | empty (k : Nat) : k < nn → i = (k : Int) → F (pr (2 * k + laneS b) + 2) = [] → TakeTo nn F i b none F
  | some (k : Nat) (x : Pk) (L : List Pk) : k < nn → i = (k : Int) → F (pr (2 * k + laneS b) + 2) = x :: L → TakeTo nn F i b (some x) (upd F (pr (2 * k + laneS b) + 2) L)
/-- One may come, or none. -/
def Tk (w : World) (gf nn : Nat) (out inn : Int) (F' : Nat → List Pk) (B : Nat → Prop) (o : Option Pk) (e : Ending) (w' : World) : Prop :=
  ∃ d, e = .returned (.tuple #[(o.getD zeroPk).val d, .bool o.isSome]) ∧ Dat w' B (o.getD zeroPk) d ∧ FThen w w' gf nn out inn F' B ∧ (o.isSome = false → Below w.heap.size w w')
theorem dat_zero (w : World) (B : Nat → Prop) : Dat w B zeroPk (.slice none 0 0) := ⟨none, 0, 0, rfl, sl_nil w, Nat.zero_le _, fun h => absurd rfl h⟩
theorem take_to {F' : Nat → List Pk} {o : Option Pk} (h : Fb w gf nn out inn F B) (i : Int) (b : Bool) (ht : TakeTo nn F i b o F') :
    Calls Try.prog 43 #[.pointer (some ⟨gf, 0, none⟩), .int .i64 i, .bool b] w fun e w' => Tk w gf nn out inn F' B o e w' := by
  cases ht with
  | no hi => exact (take_no w h i b hi).mono fun _ _ ⟨he, hb⟩ => ⟨_, he, dat_zero _ _, then_below h hb, fun _ => hb⟩
  | empty k hk hi hF => subst hi; exact (take_empty w h k b hk hF).mono fun _ _ ⟨he, hb⟩ => ⟨_, he, dat_zero _ _, then_below h hb, fun _ => hb⟩
  | some k x L hk hi hF => subst hi; exact (take_some' w h k b hk x L hF).mono fun _ _ ⟨d, he, hd, hf⟩ => ⟨d, he, hd, hf, fun h => (by cases h)⟩
theorem FThen.pre {w1 w' : World} {F' : Nat → List Pk} (hb : Below w.heap.size w w1) (h : FThen w1 w' gf nn out inn F' B) : FThen w w' gf nn out inn F' B := by
  obtain ⟨hk, B', hf, hB⟩ := h
  refine ⟨Keep.pre hb hk, B', hf, fun k hk => (hB k hk).imp id (fun h => Nat.le_trans hb.size h)⟩
set_option maxHeartbeats 1000000 in
theorem frequest_any {F' : Nat → List Pk} {o : Option Pk} (h : Fb w gf nn out inn F B) (i : Int) (ht : TakeTo nn F i true o F') :
    Calls Try.prog 16 #[.pointer (some ⟨gf, 0, none⟩), .int .i64 i] w fun e w' => Tk w gf nn out inn F' B o e w' := by
  have HB : Hid (∀ k, B k → k < w.heap.size) := by obtain ⟨_, _, _, _, _, _, h⟩ := h; exact h.old
  have HT : Hid (TakeTo nn F i true o F') := ht
  clear ht
  unfold Tk
  have hto := fun w1 (hb : Below w.heap.size w w1) => take_to w1 (h.below hb) i true HT.out
  unfold Tk at hto
  clear h
  generalize o.getD zeroPk = x at *
  generalize o.isSome = s at *
  go_enter Try.func16, Try.ntmps16
  go_wp2_with (go_at_call 43; refine (hto _ (ba (Below.refl _ _))).mono ?_; rintro e w3 ⟨d, rfl, hd3, ⟨hk3, B', hf3, hB3⟩, hlo3⟩; have bx2 := Bx.made w zeroPk (.slice none 0 0); have bx3 := bx2.keep hk3 (fun hm => Nat.lt_irrefl _ (HB.out _ hm)); have l2 := bx2.lt; clear bx2; obtain ⟨q0, q1, q2, q3, q4, q5, q6, q7, q8, qf, ql⟩ := bx3; simp only [zeroPk] at q0 q1 q2 q3 q4 q5 q6 q7 q8; obtain ⟨ad, nd, cd, rfl, hsd, hnd, hdd⟩ := id hd3)
  have hkk : Keep (fun k => k = w.heap.size) w3 _ := far9 (g := w.heap.size) (y := x) (v := .slice ad nd cd) (W := w3) (P := fun V => Keep (fun k => k = w.heap.size) w3 V) (fun V o u h => h.setCell (.inl rfl) u) (Keep.refl _ _)
  refine bodyPost_ret (v := .tuple #[x.val (.slice ad nd cd), .bool s]) (by simp [results, Try.results16, go_sem, *]) rfl ⟨_, rfl, hd3.keep hkk (fun k hb e => Nat.lt_irrefl _ (by subst e; exact HB.out _ hb)), ?_, fun h0 => far9 (g := w.heap.size) (y := x) (v := .slice ad nd cd) (W := w3) (P := fun V => Below w.heap.size w V) (fun V o u h => h.setCell (by simp) u) (next (ba (Below.refl _ _)) (hlo3 h0))⟩
  refine ⟨(Keep.pre (ba (Below.refl _ _)) hk3).trans hkk (fun k hk e => by omega), B', hf3.keep hkk (fun k hk e => ?_), fun k hk => (hB3 k hk).imp id (fun h => by simp at h; omega)⟩
  subst e
  rcases hB3 _ hk with hk | hk
  · exact Nat.lt_irrefl _ (HB.out _ hk)
  · simp at hk; omega
set_option maxHeartbeats 1000000 in
theorem freply_any {F' : Nat → List Pk} {o : Option Pk} (h : Fb w gf nn out inn F B) (i : Int) (ht : TakeTo nn F i false o F') :
    Calls Try.prog 17 #[.pointer (some ⟨gf, 0, none⟩), .int .i64 i] w fun e w' => Tk w gf nn out inn F' B o e w' := by
  have HB : Hid (∀ k, B k → k < w.heap.size) := by obtain ⟨_, _, _, _, _, _, h⟩ := h; exact h.old
  have HT : Hid (TakeTo nn F i false o F') := ht
  clear ht
  unfold Tk
  have hto := fun w1 (hb : Below w.heap.size w w1) => take_to w1 (h.below hb) i false HT.out
  unfold Tk at hto
  clear h
  generalize o.getD zeroPk = x at *
  generalize o.isSome = s at *
  go_enter Try.func17, Try.ntmps17
  go_wp2_with (go_at_call 43; refine (hto _ (ba (Below.refl _ _))).mono ?_; rintro e w3 ⟨d, rfl, hd3, ⟨hk3, B', hf3, hB3⟩, hlo3⟩; have bx2 := Bx.made w zeroPk (.slice none 0 0); have bx3 := bx2.keep hk3 (fun hm => Nat.lt_irrefl _ (HB.out _ hm)); have l2 := bx2.lt; clear bx2; obtain ⟨q0, q1, q2, q3, q4, q5, q6, q7, q8, qf, ql⟩ := bx3; simp only [zeroPk] at q0 q1 q2 q3 q4 q5 q6 q7 q8; obtain ⟨ad, nd, cd, rfl, hsd, hnd, hdd⟩ := id hd3)
  have hkk : Keep (fun k => k = w.heap.size) w3 _ := far9 (g := w.heap.size) (y := x) (v := .slice ad nd cd) (W := w3) (P := fun V => Keep (fun k => k = w.heap.size) w3 V) (fun V o u h => h.setCell (.inl rfl) u) (Keep.refl _ _)
  refine bodyPost_ret (v := .tuple #[x.val (.slice ad nd cd), .bool s]) (by simp [results, Try.results17, go_sem, *]) rfl ⟨_, rfl, hd3.keep hkk (fun k hb e => Nat.lt_irrefl _ (by subst e; exact HB.out _ hb)), ?_, fun h0 => far9 (g := w.heap.size) (y := x) (v := .slice ad nd cd) (W := w3) (P := fun V => Below w.heap.size w V) (fun V o u h => h.setCell (by simp) u) (next (ba (Below.refl _ _)) (hlo3 h0))⟩
  refine ⟨(Keep.pre (ba (Below.refl _ _)) hk3).trans hkk (fun k hk e => by omega), B', hf3.keep hkk (fun k hk e => ?_), fun k hk => (hB3 k hk).imp id (fun h => by simp at h; omega)⟩
  subst e
  rcases hB3 _ hk with hk | hk
  · exact Nat.lt_irrefl _ (HB.out _ hk)
  · simp at hk; omega
end
end Go.Proofs.Ytjdbjmfkheffdaa
end
section
namespace Go.Proofs.Ytjdbjmfkheffdaa.B
open Go.RowKit
set_option linter.unusedVariables false
set_option maxRecDepth 20000

set_option maxHeartbeats 1000000 in
theorem spoil_any (a : Option Addr) (l : List Int) (n cap : Nat) (bit mask : Int) (w : World) (hsl : Sl w a n cap l) (hn : n ≤ 140737488351300) (hm0 : 0 ≤ mask) (hm1 : mask < 65536) :
    Calls Try.prog 59 #[.slice a n cap, .int .i64 bit, .int .u16 mask] w fun e w' => ∃ v, e = .returned v ∧ Own w' w.heap.size v (spoilI l bit mask) ∧ Below w.heap.size w w' := by
  have hl := hsl.len
  by_cases h1 : bit ≤ -16
  · have HO : Hid (spoilI l bit mask = l) := spN_out (.inl h1) 16 (by omega)
    go_enter Try.func59, Try.ntmps59
    go_wp2_with (first
      | (go_at_call 75; refine (copyOf_any _ _ n cap _ hsl (by omega)).mono ?_; rintro e w2 ⟨v, rfl, hown, hb⟩))
    go_ret
    exact ⟨_, rfl, by rw [HO.out]; exact hown, hb⟩
  by_cases h2 : 8 * (n : Int) ≤ bit
  · have HO : Hid (spoilI l bit mask = l) := spN_out (.inr (by omega)) 16 (by omega)
    go_enter Try.func59, Try.ntmps59
    go_wp2_with (first
      | (go_at_call 75; refine (copyOf_any _ _ n cap _ hsl (by omega)).mono ?_; rintro e w2 ⟨v, rfl, hown, hb⟩))
    go_ret
    exact ⟨_, rfl, by rw [HO.out]; exact hown, hb⟩
  go_enter Try.func59, Try.ntmps59
  go_wp2_with (first
    | (go_at_call 75; refine (copyOf_any _ _ n cap _ hsl (by omega)).mono ?_; rintro e w2 ⟨v, rfl, hown, hb⟩))
  go_loopw [25] (fun i wr => ∃ k : Nat, k ≤ 16 ∧ i = .int .i64 k ∧ Own wr w.heap.size v (spN l bit mask k) ∧ Below w.heap.size w wr) (fun i _ => 16 - (intOf i).toNat)
  case atStart => exact ⟨0, by omega, rfl, hown, hb⟩
  case round =>
    obtain ⟨k, hk, rfl, hown1, hb1⟩ := hrel
    have hlk := spN_len l bit mask k
    by_cases hlt : k < 16
    · have HS : Hid (spN l bit mask (k + 1) = spStep (spN l bit mask k) bit mask k) := spN_succ l bit mask k
      by_cases hin : bit + k < 0
      · have HQ : Hid (spStep (spN l bit mask k) bit mask k = spN l bit mask k) := spStep_out (.inl hin)
        go_wp2
        go_roundw
        case rel => exact ⟨k + 1, by omega, by go_num, by rw [HS.out, HQ.out]; exact hown1, hb1⟩
        case measure => simp [intOf]; omega
      by_cases hin2 : 8 * (n : Int) ≤ bit + k
      · have HQ : Hid (spStep (spN l bit mask k) bit mask k = spN l bit mask k) := spStep_out (.inr (by omega))
        go_wp2
        go_roundw
        case rel => exact ⟨k + 1, by omega, by go_num, by rw [HS.out, HQ.out]; exact hown1, hb1⟩
        case measure => simp [intOf]; omega
      obtain ⟨t, ht⟩ : ∃ t : Nat, bit + (k : Int) = (t : Int) := ⟨(bit + k).toNat, by omega⟩
      have HQ : Hid (spStep (spN l bit mask k) bit mask k = (spN l bit mask k).set (t / 8) (turnI ((spN l bit mask k)[t / 8]?.getD 0) mask t k)) := spStep_in ht (by omega)
      obtain ⟨g, cp, rfl, hbg, hrow⟩ := own_some hown1 (hlk.trans hl) (by omega)
      have hb8 := spN_b8 hsl.b8 bit mask k
      have ht8 : t / 8 < n := by omega
      have hcell := hrow.cellAt (t / 8) (by omega)
      have hcell' : (cells (spN l bit mask k))[t / 8]? = some (.int .u8 ((spN l bit mask k)[t / 8]?.getD 0)) := by simp [cells, show t / 8 < (spN l bit mask k).length by omega]
      rw [hcell'] at hcell
      have hfz := hrow.frozenAt (t / 8)
      have hst := (hrow.stored (t / 8) (.int .u8 (turnI ((spN l bit mask k)[t / 8]?.getD 0) mask t k)))
      rw [cells_set] at hst
      have hbl : spN l bit mask (k + 1) = (spN l bit mask k).set (t / 8) (turnI ((spN l bit mask k)[t / 8]?.getD 0) mask t k) := HS.out.trans HQ.out
      have HR : Hid (Own (wr.setCell ⟨g, t / 8, none⟩ (.int .u8 (turnI ((spN l bit mask k)[t / 8]?.getD 0) mask t k))) w.heap.size (.slice (some ⟨g, 0, none⟩) n cp) (spN l bit mask (k + 1)) ∧ Below w.heap.size w (wr.setCell ⟨g, t / 8, none⟩ (.int .u8 (turnI ((spN l bit mask k)[t / 8]?.getD 0) mask t k)))) := by
        refine ⟨⟨?_, spN_b8 hsl.b8 bit mask (k + 1)⟩, hb1.setCell hbg _⟩
        rw [spN_len, hl, hbl]; exact hst.1
      generalize (spN l bit mask k)[t / 8]?.getD 0 = x at *
      clear hst hbl HS HQ hcell' hown1 hrow hlk hb8 hown hb
      have q0 : (0 : Int) ≤ (t : Int) := by omega
      have q1 : ((t : Int) : Int) < 8 * (n : Int) := by omega
      clear hin hin2 h1 h2
      obtain ⟨q, r, hdv, hmv, hr, hq⟩ : ∃ q r : Nat, (t : Int) / 8 = (q : Int) ∧ (t : Int) % 8 = (r : Int) ∧ r = t % 8 ∧ q = t / 8 := ⟨t / 8, t % 8, by omega, by omega, rfl, rfl⟩
      rw [← hq] at hcell hfz HR
      have q2 : (0 : Int) ≤ (q : Int) := by omega
      have q3 : (q : Int) < (n : Int) := by omega
      have q4 : (r : Int) < 8 := by omega
      have q5 : (0 : Int) ≤ (r : Int) := by omega
      have q6 : r < 8 := by omega
      have HH : Hid (r = t % 8) := hr
      clear hr hq ht8
      obtain ⟨sh, hsh, hsh8⟩ : ∃ sh : Nat, 7 - (r : Int) = (sh : Int) ∧ Hid (sh = 7 - t % 8) := ⟨7 - r, by omega, by show _ = _; rw [HH.out]⟩
      have f0 : IntKind.i64.wrap (q : Int) = (q : Int) := wrap_small _ (by omega) (by omega)
      have f1 : (t : Int).tdiv 8 = (q : Int) := by rw [Int.tdiv_eq_ediv_of_nonneg (by omega)]; exact hdv
      have f2 : (t : Int).tmod 8 = (r : Int) := by rw [Int.tmod_eq_emod_of_nonneg (by omega)]; exact hmv
      have f3 : IntKind.i64.wrap (sh : Int) = (sh : Int) := wrap_small _ (by omega) (by omega)
      have q7 : (0 : Int) ≤ (sh : Int) := by omega
      have q8 : (sh : Int) < 8 := by omega
      go_wp2_with fail
      have HT : Hid (turnI x mask t k = bits .xor .u8 x (IntKind.u8.wrap (bits .and .u8 (mask / 2 ^ (15 - k) % 256) 1 * 2 ^ sh))) := by
        show _ = _
        unfold turnI; rw [hsh8.out]
      go_region
      go_wp2
      go_roundw
      case rel => exact ⟨k + 1, by omega, by go_num, by have := HR.out.1; rw [HT.out] at this; exact ⟨this.1.drew, this.2⟩, by have := HR.out.2; rw [HT.out] at this; exact this.drew⟩
      case measure => simp [intOf]; omega
    · obtain rfl : k = 16 := by omega
      go_wp2
      go_ret
      exact ⟨_, rfl, hown1, hb1⟩
end Go.Proofs.Ytjdbjmfkheffdaa.B
end
section
namespace Go.Proofs.Ytjdbjmfkheffdaa
open Go.RowKit
set_option linter.unusedVariables false
set_option maxRecDepth 20000

theorem Bx.made1 (w : World) (o : Obj) (x : Pk) (d : Value) : Bx ((w.alloc o).alloc (.cells #[.int .i64 x.k, .int .i64 x.f, .int .i64 x.t, .int .i64 x.i, .int .i64 x.l, .int .i64 x.p, .int .i64 x.s, .bool x.fl, d] 26)) (w.heap.size + 1) x d := by
  have := Bx.made (w.alloc o) x d
  rw [show (w.alloc o).heap.size = w.heap.size + 1 by simp] at this
  exact this
set_option maxHeartbeats 1000000 in
theorem over_no (w : World) (y : Pk) (a : Option Addr) (n cap : Nat) (bit mask : Int) (hsl : Sl w a n cap y.z) (hr : y.right = true) (hm0 : 0 ≤ mask) (hm1 : mask < 65536) (hw : wireB y bit mask = false) :
    Calls Try.prog 38 #[y.val (.slice a n cap), .int .i64 bit, .int .u16 mask] w fun e w' => e = .returned (.tuple #[zeroPk.val (.slice none 0 0), .int .i64 2]) ∧ Below w.heap.size w w' := by
  have HU : Hid (unpackI (B.spoilI (B.sealI (packI y)) bit mask) = none) := wire_no hm0 hm1 hw
  have HR : Hid (y.right = true) := hr
  have hz := ((Pk.right_iff y).1 hr).z
  obtain ⟨nb, hnb⟩ : ∃ nb : Nat, (B.sealI (packI y)).length = nb := ⟨_, rfl⟩
  have HSL : Hid ((B.sealI (packI y)).length = nb) := hnb
  have HPL : Hid ((B.spoilI (B.sealI (packI y)) bit mask).length = nb) := by show _ = _; rw [B.spoilI_len]; exact hnb
  have HNB : Hid (nb ≤ 140737488351300) := by show _ ≤ _; rw [sealI_len, packI_len] at hnb; omega
  have HM : Hid (0 ≤ mask ∧ mask < 65536) := ⟨hm0, hm1⟩
  clear hr hw hz hnb hm0 hm1
  unfold Pk.val
  go_enter Try.func38, Try.ntmps38
  go_wp2_with (first
    | (go_at_call 57; refine (pack_yes y a n cap _ (hsl.below (ba (ba (Below.refl _ _)))) HR.out).mono ?_; rintro e w2 ⟨v2, rfl, ho2, hb2⟩; obtain ⟨a2, cap2, rfl, hs2⟩ := ho2.sl' HSL.out; clear ho2)
    | (go_at_call 59; refine (B.spoil_any a2 _ nb cap2 bit mask _ hs2 HNB.out HM.out.1 HM.out.2).mono ?_; rintro e w3 ⟨v3, rfl, ho3, hb3⟩; obtain ⟨a3, cap3, rfl, hs3⟩ := ho3.sl' HPL.out; clear ho3)
    | (go_at_call 58; refine (unpack_no a3 _ nb cap3 _ hs3 HNB.out HU.out).mono ?_; rintro e w4 ⟨rfl, hb4⟩; have bx4 := (Bx.made1 w _ zeroPk (.slice none 0 0)).next (next (next hb2 hb3) hb4); obtain ⟨q0, q1, q2, q3, q4, q5, q6, q7, q8, qf, ql⟩ := bx4; simp only [zeroPk] at q0 q1 q2 q3 q4 q5 q6 q7 q8))
  refine bodyPost_ret (v := .tuple #[zeroPk.val (.slice none 0 0), .int .i64 2]) (by simp [results, Try.results38, go_sem, zeroPk, *]) rfl ⟨rfl, ?_⟩
  exact far9 (g := w.heap.size + 1) (y := zeroPk) (v := .slice none 0 0) (W := w4) (P := fun V => Below w.heap.size w V) (fun V o u h => h.setCell (by simp) u) (next (next (next (ba (ba (Below.refl _ _))) hb2) hb3) hb4)
set_option maxHeartbeats 1000000 in
theorem over_yes (w : World) (y : Pk) (a : Option Addr) (n cap : Nat) (bit mask : Int) (hsl : Sl w a n cap y.z) (hz64 : R64 y.z) (hr : y.right = true) (hm0 : 0 ≤ mask) (hm1 : mask < 65536) (hw : wireB y bit mask = true) :
    Calls Try.prog 38 #[y.val (.slice a n cap), .int .i64 bit, .int .u16 mask] w fun e w' => ∃ a' m cap', e = .returned (.tuple #[y.val (.slice a' m cap'), .int .i64 0]) ∧ Sl w' a' m cap' y.z ∧ (∀ ad : Addr, a' = some ad → w.heap.size ≤ ad.block) ∧ Below w.heap.size w w' := by
  have HU : Hid (unpackI (B.spoilI (B.sealI (packI y)) bit mask) = some y) := wire_yes hr hz64 hw
  have HR : Hid (y.right = true) := hr
  have hz := ((Pk.right_iff y).1 hr).z
  obtain ⟨nb, hnb⟩ : ∃ nb : Nat, (B.sealI (packI y)).length = nb := ⟨_, rfl⟩
  have HSL : Hid ((B.sealI (packI y)).length = nb) := hnb
  have HPL : Hid ((B.spoilI (B.sealI (packI y)) bit mask).length = nb) := by show _ = _; rw [B.spoilI_len]; exact hnb
  have HNB : Hid (nb ≤ 140737488351300) := by show _ ≤ _; rw [sealI_len, packI_len] at hnb; omega
  have HM : Hid (0 ≤ mask ∧ mask < 65536) := ⟨hm0, hm1⟩
  clear hr hw hz hz64 hnb hm0 hm1
  unfold Pk.val
  go_enter Try.func38, Try.ntmps38
  go_wp2_with (first
    | (go_at_call 57; refine (pack_yes y a n cap _ (hsl.below (ba (ba (Below.refl _ _)))) HR.out).mono ?_; rintro e w2 ⟨v2, rfl, ho2, hb2⟩; obtain ⟨a2, cap2, rfl, hs2⟩ := ho2.sl' HSL.out; clear ho2)
    | (go_at_call 59; refine (B.spoil_any a2 _ nb cap2 bit mask _ hs2 HNB.out HM.out.1 HM.out.2).mono ?_; rintro e w3 ⟨v3, rfl, ho3, hb3⟩; obtain ⟨a3, cap3, rfl, hs3⟩ := ho3.sl' HPL.out; clear ho3)
    | (go_at_call 58; refine (unpack_yes a3 _ nb cap3 _ hs3 HNB.out y HU.out).mono ?_; rintro e w4 ⟨a4, n4, c4, rfl, hs4, lo4, hb4⟩; have bx4 := (Bx.made1 w _ zeroPk (.slice none 0 0)).next (next (next hb2 hb3) hb4); obtain ⟨q0, q1, q2, q3, q4, q5, q6, q7, q8, qf, ql⟩ := bx4; simp only [zeroPk] at q0 q1 q2 q3 q4 q5 q6 q7 q8))
  have hb3' := next (next (ba (ba (Below.refl w.heap.size w))) hb2) hb3
  have z3 : w.heap.size + 2 ≤ w3.heap.size := by have h1 := hb2.size; have h2 := hb3.size; simp at h1; omega
  refine bodyPost_ret (v := .tuple #[y.val (.slice a4 n4 c4), .int .i64 0]) (by simp [results, Try.results38, go_sem, *]) rfl ⟨a4, n4, c4, rfl, ?_, ?_, ?_⟩
  · exact far9 (g := w.heap.size + 1) (y := y) (v := .slice a4 n4 c4) (W := w4) (P := fun V => Sl V a4 n4 c4 y.z) (fun V o u h => h.far (fun ad e => by have := lo4 ad e; simp only; omega)) hs4
  · intro ad e
    have := lo4 ad e
    omega
  · exact far9 (g := w.heap.size + 1) (y := y) (v := .slice a4 n4 c4) (W := w4) (P := fun V => Below w.heap.size w V) (fun V o u h => h.setCell (by simp) u) (next hb3' hb4)
end Go.Proofs.Ytjdbjmfkheffdaa
end
section
namespace Go.Proofs.Ytjdbjmfkheffdaa
open Go.RowKit
set_option linter.unusedVariables false
set_option maxRecDepth 20000

theorem lane_p (p q : Nat) (w : World) : (Instr.field 71 (.agg #[.pointer (some ⟨p, 0, none⟩), .pointer (some ⟨q, 0, none⟩)]) 0).run Try.prog w = .ok (.pointer (some ⟨p, 0, none⟩)) w := by kernel_rfl
section
variable (w : World) {gf nn : Nat} {out inn : Int} {F : Nat → List Pk} {B : Nat → Prop}
set_option maxHeartbeats 400000 in
theorem deliver_none (h : Fb w gf nn out inn F B) (a bit mask : Int) (ha : a < 0 ∨ ((laneL F (2 * nn)).length : Int) ≤ a) (h63 : a < 9223372036854775808) :
    Calls Try.prog 13 #[.pointer (some ⟨gf, 0, none⟩), .int .i64 a, .int .i64 bit, .int .u16 mask] w fun e w' => e = .returned (.int .i64 3) ∧ Below w.heap.size w w' := by
  obtain ⟨gl, go, cap, G, M, D, h⟩ := h
  have HA : Hid (a < 0 ∨ ((laneL F (2 * nn)).length : Int) ≤ a) := ha
  have H63 : Hid (a < 9223372036854775808) := h63
  clear ha h63
  go_enter Try.func13, Try.ntmps13
  go_wp2_with (go_at_call 36; refine (find_no _ h a HA.out H63.out).mono ?_; rintro e w1 ⟨⟨p, q, i, rfl⟩, hb1⟩)
  go_ret
  exact ⟨rfl, ba hb1⟩
set_option maxHeartbeats 400000 in
theorem deliver_form (h : Fb w gf nn out inn F B) (a bit mask : Int) (hm0 : 0 ≤ mask) (hm1 : mask < 65536) (q k : Nat) (x : Pk) (hq : q < 2 * nn) (hx : (F (pr q))[k]? = some x) (ha : a = ((laneL F q).length : Int) + k) (hw : wireB x bit mask = false) :
    Calls Try.prog 13 #[.pointer (some ⟨gf, 0, none⟩), .int .i64 a, .int .i64 bit, .int .u16 mask] w fun e w' => e = .returned (.int .i64 2) ∧ Below w.heap.size w w' := by
  obtain ⟨gl, go, cap, G, M, D, h⟩ := h
  have hk : k < (F (pr q)).length := (List.getElem?_eq_some_iff.1 hx).1
  have hpl : pr q < 4 * nn := by have := pr_lt hq; omega
  have HG : Hid (Good nn x) := h.good _ hpl x (List.mem_of_getElem? hx)
  have HA : Hid (a = ((laneL F q).length : Int) + k) := ha
  have HX : Hid ((F (pr q))[k]? = some x) := hx
  have HM : Hid (0 ≤ mask ∧ mask < 65536) := ⟨hm0, hm1⟩
  have HW : Hid (wireB x bit mask = false) := hw
  clear ha hx hm0 hm1 hw
  have hqu := h.many.qu (pr q) hpl
  have hfd := lane_p
  go_enter Try.func13, Try.ntmps13
  go_wp2_with (first
    | (go_at_call 36; refine (find_yes _ h hq hk a HA.out).mono ?_; rintro e w1 ⟨rfl, hb1⟩; unfold laneV)
    | (go_at_call 37; refine (P.get_some _ (hqu.below (next hb1 (ba (Below.refl _ _)))) k x HX.out _ rfl).mono ?_; rintro e w2 ⟨d, rfl, hb2, ho2⟩; obtain ⟨a2, c2, rfl, hs2⟩ := ho2.sl' rfl)
    | (go_at_call 38; refine (over_no _ x a2 x.z.length c2 bit mask (hs2.below (ba (Below.refl _ _))) HG.out.r HM.out.1 HM.out.2 HW.out).mono ?_; rintro e w3 ⟨rfl, hb3⟩))
  go_ret
  exact ⟨rfl, ba (next (next (next (next hb1 (ba (Below.refl _ _))) hb2) (ba (Below.refl _ _))) hb3)⟩
set_option maxHeartbeats 1000000 in
theorem deliver_full (h : Fb w gf nn out inn F B) (a bit mask : Int) (hm0 : 0 ≤ mask) (hm1 : mask < 65536) (q k : Nat) (x : Pk) (hq : q < 2 * nn) (hx : (F (pr q))[k]? = some x) (ha : a = ((laneL F q).length : Int) + k) (hw : wireB x bit mask = true) (hl : ((F (pr (toQ x) + 2)).length : Int) = Rm out inn (pr (toQ x) + 2)) :
    Calls Try.prog 13 #[.pointer (some ⟨gf, 0, none⟩), .int .i64 a, .int .i64 bit, .int .u16 mask] w fun e w' => e = .returned (.int .i64 5) ∧ Below w.heap.size w w' := by
  obtain ⟨gl, go, cap, G, M, D, h⟩ := h
  have hk : k < (F (pr q)).length := (List.getElem?_eq_some_iff.1 hx).1
  have hpl : pr q < 4 * nn := by have := pr_lt hq; omega
  have hg : Good nn x := h.good _ hpl x (List.mem_of_getElem? hx)
  have HG : Hid (Good nn x) := hg
  have HA : Hid (a = ((laneL F q).length : Int) + k) := ha
  have HX : Hid ((F (pr q))[k]? = some x) := hx
  have HM : Hid (0 ≤ mask ∧ mask < 65536) := ⟨hm0, hm1⟩
  have HW : Hid (wireB x bit mask = true) := hw
  have HT : Hid (x.t = (x.t.toNat : Int)) := hg.tq.2.1.symm
  have HTN : Hid (x.t.toNat < nn) := hg.tq.2.2
  have hin := h.many.qu (pr (toQ x) + 2) (pr_lt hg.tq.1)
  have HO : Hid (0 ≤ Rm out inn (pr (toQ x) + 2) ∧ Rm out inn (pr (toQ x) + 2) ≤ 1000) := by
    have i0 := h.i0; have i1 := h.i1; have o0 := h.o0; have o1 := h.o1
    show _ ∧ _
    unfold Rm; repeat (first | omega | split)
  have HL : Hid (((F (pr (toQ x) + 2)).length : Int) = Rm out inn (pr (toQ x) + 2)) := hl
  clear ha hx hm0 hm1 hw hg hl
  unfold toQ at hin HO HL
  have hqu := h.many.qu (pr q) hpl
  have hfd := lane_p
  go_enter Try.func13, Try.ntmps13
  go_wp2_with (first
    | (go_at_call 36; refine (find_yes _ h hq hk a HA.out).mono ?_; rintro e w1 ⟨rfl, hb1⟩; unfold laneV)
    | (go_at_call 37; refine (P.get_some _ (hqu.below (next hb1 (ba (Below.refl _ _)))) k x HX.out _ rfl).mono ?_; rintro e w2 ⟨d, rfl, hb2, ho2⟩; obtain ⟨a2, c2, rfl, hs2⟩ := ho2.sl' rfl)
    | (go_at_call 38; refine (over_yes _ x a2 x.z.length c2 bit mask (hs2.below (ba (Below.refl _ _))) HG.out.z HG.out.r HM.out.1 HM.out.2 HW.out).mono ?_; rintro e w3 ⟨a3, n3, c3, rfl, hs3, lo3, hb3⟩))
  have hB0 : Below w.heap.size w (w3.alloc (.cells #[.int .i64 x.k, .int .i64 x.f, .int .i64 x.t, .int .i64 x.i, .int .i64 x.l, .int .i64 x.p, .int .i64 x.s, .bool x.fl, .slice a3 n3 c3] 26)) := ba (next (next (next (next hb1 (ba (Below.refl _ _))) hb2) (ba (Below.refl _ _))) hb3)
  have bxd := Bx.made w3 x (.slice a3 n3 c3)
  have hbl := ba (o := .cells #[.int .i64 x.k, .int .i64 x.f, .int .i64 x.t, .int .i64 x.i, .int .i64 x.l, .int .i64 x.p, .int .i64 x.s, .bool x.fl, .slice a3 n3 c3] 26) (next (next hb2 (ba (Below.refl _ _))) hb3)
  have g0 : (w3.alloc (.cells #[.int .i64 x.k, .int .i64 x.f, .int .i64 x.t, .int .i64 x.i, .int .i64 x.l, .int .i64 x.p, .int .i64 x.s, .bool x.fl, .slice a3 n3 c3] 26)).cell? ⟨w1.heap.size, 0, none⟩ = some (.pointer (some ⟨G (pr q), 0, none⟩)) := (hbl.cell (p := ⟨w1.heap.size, 0, none⟩) (by simp)).trans (by simp)
  have g1 : (w3.alloc (.cells #[.int .i64 x.k, .int .i64 x.f, .int .i64 x.t, .int .i64 x.i, .int .i64 x.l, .int .i64 x.p, .int .i64 x.s, .bool x.fl, .slice a3 n3 c3] 26)).cell? ⟨w1.heap.size, 1, none⟩ = some (.pointer (some ⟨G (pr q + 2), 0, none⟩)) := (hbl.cell (p := ⟨w1.heap.size, 1, none⟩) (by simp)).trans (by simp)
  have z1 : w1.heap.size < (w3.alloc (.cells #[.int .i64 x.k, .int .i64 x.f, .int .i64 x.t, .int .i64 x.i, .int .i64 x.l, .int .i64 x.p, .int .i64 x.s, .bool x.fl, .slice a3 n3 c3] 26)).heap.size := Nat.lt_of_lt_of_le (by simp) hbl.size
  have z0 : w.heap.size ≤ w1.heap.size := hb1.size
  have hs4 := hs3.below (ba (o := .cells #[.int .i64 x.k, .int .i64 x.f, .int .i64 x.t, .int .i64 x.i, .int .i64 x.l, .int .i64 x.p, .int .i64 x.s, .bool x.fl, .slice a3 n3 c3] 26) (Below.refl _ _))
  have hn3 : n3 ≤ 1000 := by have := hs3.len; have := ((Pk.right_iff x).1 HG.out.r).z; omega
  clear hbl hb1 hb2 hb3 hs3 lo3 ho2 hs2
  generalize w3.alloc (.cells #[.int .i64 x.k, .int .i64 x.f, .int .i64 x.t, .int .i64 x.i, .int .i64 x.l, .int .i64 x.p, .int .i64 x.s, .bool x.fl, .slice a3 n3 c3] 26) = W4 at *
  generalize w3.heap.size = g3 at *
  generalize w1.heap.size = gl1 at *
  have HN3 : Hid (n3 ≤ 1000) := hn3
  clear hn3
  have h1 := h.below hB0
  have hin1 := hin.below hB0
  obtain ⟨q0, q1, q2, q3, q4, q5, q6, q7, q8, qf, ql⟩ := bxd
  have uc := @Up.cell
  have uf := @Up.frozen
  clear g0 g1
  refine wp_region_up (by kernel_rfl) (by kernel_rfl) ?_
  repeat (go_big_quiet_step ((first
    | (go_at_call 34; exact Calls.up_same (request_any x.k _))
    | (go_at_call 33; exact Calls.up_of (lane_of _ (h1.below (Subtype.property _)) x _ HTN.out _ HT.out))
    | (go_at_call 39; exact Calls.up_of (laneArrive_full _ (hin1.below (Subtype.property _)) x a3 n3 c3 HO.out.1 HO.out.2 HL.out)))))
  refine wpQuiet_nil ?_
  rintro _ ⟨u, rfl⟩
  clear uc uf
  go_wp2
  go_ret
  exact ⟨rfl, next hB0 u.2⟩
set_option maxHeartbeats 1000000 in
theorem deliver_ok (h : Fb w gf nn out inn F B) (a bit mask : Int) (hm0 : 0 ≤ mask) (hm1 : mask < 65536) (q k : Nat) (x : Pk) (hq : q < 2 * nn) (hx : (F (pr q))[k]? = some x) (ha : a = ((laneL F q).length : Int) + k) (hw : wireB x bit mask = true) (hl : ((F (pr (toQ x) + 2)).length : Int) < Rm out inn (pr (toQ x) + 2)) :
    Calls Try.prog 13 #[.pointer (some ⟨gf, 0, none⟩), .int .i64 a, .int .i64 bit, .int .u16 mask] w fun e w' => e = .returned (.int .i64 0) ∧ FThen w w' gf nn out inn (upd (upd F (pr (toQ x) + 2) (F (pr (toQ x) + 2) ++ [x])) (pr q) ((F (pr q)).eraseIdx k)) B := by
  obtain ⟨gl, go, cap, G, M, D, h⟩ := h
  have hk : k < (F (pr q)).length := (List.getElem?_eq_some_iff.1 hx).1
  have hpl : pr q < 4 * nn := by have := pr_lt hq; omega
  have hg : Good nn x := h.good _ hpl x (List.mem_of_getElem? hx)
  have HG : Hid (Good nn x) := hg
  have HA : Hid (a = ((laneL F q).length : Int) + k) := ha
  have HX : Hid ((F (pr q))[k]? = some x) := hx
  have HM : Hid (0 ≤ mask ∧ mask < 65536) := ⟨hm0, hm1⟩
  have HW : Hid (wireB x bit mask = true) := hw
  have HT : Hid (x.t = (x.t.toNat : Int)) := hg.tq.2.1.symm
  have HTN : Hid (x.t.toNat < nn) := hg.tq.2.2
  have hin := h.many.qu (pr (toQ x) + 2) (pr_lt hg.tq.1)
  have HO : Hid (0 ≤ Rm out inn (pr (toQ x) + 2) ∧ Rm out inn (pr (toQ x) + 2) ≤ 1000) := by
    have i0 := h.i0; have i1 := h.i1; have o0 := h.o0; have o1 := h.o1
    show _ ∧ _
    unfold Rm; repeat (first | omega | split)
  have HL : Hid (((F (pr (toQ x) + 2)).length : Int) < Rm out inn (pr (toQ x) + 2)) := hl
  have HSTEP : Hid (∀ (w1 w2 w3 : World) (M' D' : Nat → Prop), Below w.heap.size w w1 → Keep (M (pr (toQ x) + 2)) w1 w2 → Qu w2 (G (pr (toQ x) + 2)) M' D' (Rm out inn (pr (toQ x) + 2)) (F (pr (toQ x) + 2) ++ [x]) → (∀ k, M' k → M (pr (toQ x) + 2) k ∨ w1.heap.size ≤ k) → (∀ k, D' k → D (pr (toQ x) + 2) k ∨ w1.heap.size ≤ k) →
      Qu w2 (G (pr q)) (M (pr q)) (D (pr q)) (Rm out inn (pr q)) (F (pr q)) ∧ (Keep (M (pr q)) w2 w3 → Qu w3 (G (pr q)) (M (pr q)) (D (pr q)) (Rm out inn (pr q)) ((F (pr q)).eraseIdx k) → FThen w w3 gf nn out inn (upd (upd F (pr (toQ x) + 2) (F (pr (toQ x) + 2) ++ [x])) (pr q) ((F (pr q)).eraseIdx k)) B)) := by
    intro w1 w2 w3 M' D' hb hk1 hq1 hM hD
    have hne : pr q ≠ pr (toQ x) + 2 := pr_ne
    obtain ⟨hk', hf'⟩ := (h.below hb).step (pr_lt hg.tq.1) hk1 hq1 hM hD (fun y hy => by
      rcases List.mem_append.1 hy with hy | hy
      · exact h.good _ (pr_lt hg.tq.1) y hy
      · rw [List.mem_singleton] at hy; subst hy; exact hg) (by rw [List.length_append]; simp; omega)
    have hqp := hf'.many.qu (pr q) hpl
    rw [upd_other _ _ hne, upd_other _ _ hne, upd_other _ _ hne] at hqp
    refine ⟨hqp, fun hk2 hq2 => ?_⟩
    have eM : upd M (pr (toQ x) + 2) M' (pr q) = M (pr q) := upd_other _ _ hne
    have eD : upd D (pr (toQ x) + 2) D' (pr q) = D (pr q) := upd_other _ _ hne
    obtain ⟨hk'', hf''⟩ := hf'.step (q := pr q) hpl (by rw [eM]; exact hk2) hq2 (fun k hk => .inl (by rw [eM]; exact hk)) (fun k hk => .inl (by rw [eD]; exact hk)) (fun y hy => h.good _ hpl y (List.mem_of_mem_eraseIdx hy)) (by have := h.rooms _ hpl; rw [List.length_eraseIdx_of_lt hk]; omega)
    refine ⟨(Keep.pre hb hk').trans hk'' (fun k hk hB => ?_), _, ⟨_, _, _, _, _, _, hf''⟩, fun k hk => ?_⟩
    · rcases hB with hB | hB
      · exact hB
      · have := hb.size; omega
    · have h1 := hb.size
      have h2 := hk1.size
      rcases hk with (hk | hk) | hk
      · exact .inl hk
      · exact .inr (by omega)
      · exact .inr (by omega)
  have HOLD : Hid (∀ k, M (pr (toQ x) + 2) k → k < w.heap.size) := fun k hk => h.many.old (pr_lt hg.tq.1) (.inl hk)
  clear ha hx hm0 hm1 hw hg hl
  unfold toQ at hin HO HL HSTEP HOLD ⊢
  have hqu := h.many.qu (pr q) hpl
  have hfd := lane_p
  go_enter Try.func13, Try.ntmps13
  go_wp2_with (first
    | (go_at_call 36; refine (find_yes _ h hq hk a HA.out).mono ?_; rintro e w1 ⟨rfl, hb1⟩; unfold laneV)
    | (go_at_call 37; refine (P.get_some _ (hqu.below (next hb1 (ba (Below.refl _ _)))) k x HX.out _ rfl).mono ?_; rintro e w2 ⟨d, rfl, hb2, ho2⟩; obtain ⟨a2, c2, rfl, hs2⟩ := ho2.sl' rfl)
    | (go_at_call 38; refine (over_yes _ x a2 x.z.length c2 bit mask (hs2.below (ba (Below.refl _ _))) HG.out.z HG.out.r HM.out.1 HM.out.2 HW.out).mono ?_; rintro e w3 ⟨a3, n3, c3, rfl, hs3, lo3, hb3⟩))
  have hB0 : Below w.heap.size w (w3.alloc (.cells #[.int .i64 x.k, .int .i64 x.f, .int .i64 x.t, .int .i64 x.i, .int .i64 x.l, .int .i64 x.p, .int .i64 x.s, .bool x.fl, .slice a3 n3 c3] 26)) := ba (next (next (next (next hb1 (ba (Below.refl _ _))) hb2) (ba (Below.refl _ _))) hb3)
  have bxd := Bx.made w3 x (.slice a3 n3 c3)
  have hbl := ba (o := .cells #[.int .i64 x.k, .int .i64 x.f, .int .i64 x.t, .int .i64 x.i, .int .i64 x.l, .int .i64 x.p, .int .i64 x.s, .bool x.fl, .slice a3 n3 c3] 26) (next (next hb2 (ba (Below.refl _ _))) hb3)
  have g0 : (w3.alloc (.cells #[.int .i64 x.k, .int .i64 x.f, .int .i64 x.t, .int .i64 x.i, .int .i64 x.l, .int .i64 x.p, .int .i64 x.s, .bool x.fl, .slice a3 n3 c3] 26)).cell? ⟨w1.heap.size, 0, none⟩ = some (.pointer (some ⟨G (pr q), 0, none⟩)) := (hbl.cell (p := ⟨w1.heap.size, 0, none⟩) (by simp)).trans (by simp)
  have g1 : (w3.alloc (.cells #[.int .i64 x.k, .int .i64 x.f, .int .i64 x.t, .int .i64 x.i, .int .i64 x.l, .int .i64 x.p, .int .i64 x.s, .bool x.fl, .slice a3 n3 c3] 26)).cell? ⟨w1.heap.size, 1, none⟩ = some (.pointer (some ⟨G (pr q + 2), 0, none⟩)) := (hbl.cell (p := ⟨w1.heap.size, 1, none⟩) (by simp)).trans (by simp)
  have z1 : w1.heap.size < (w3.alloc (.cells #[.int .i64 x.k, .int .i64 x.f, .int .i64 x.t, .int .i64 x.i, .int .i64 x.l, .int .i64 x.p, .int .i64 x.s, .bool x.fl, .slice a3 n3 c3] 26)).heap.size := Nat.lt_of_lt_of_le (by simp) hbl.size
  have z0 : w.heap.size ≤ w1.heap.size := hb1.size
  have hs4 := hs3.below (ba (o := .cells #[.int .i64 x.k, .int .i64 x.f, .int .i64 x.t, .int .i64 x.i, .int .i64 x.l, .int .i64 x.p, .int .i64 x.s, .bool x.fl, .slice a3 n3 c3] 26) (Below.refl _ _))
  have hn3 : n3 ≤ 1000 := by have := hs3.len; have := ((Pk.right_iff x).1 HG.out.r).z; omega
  clear hbl hb1 hb2 hb3 hs3 lo3 ho2 hs2
  generalize w3.alloc (.cells #[.int .i64 x.k, .int .i64 x.f, .int .i64 x.t, .int .i64 x.i, .int .i64 x.l, .int .i64 x.p, .int .i64 x.s, .bool x.fl, .slice a3 n3 c3] 26) = W4 at *
  generalize w3.heap.size = g3 at *
  generalize w1.heap.size = gl1 at *
  have HN3 : Hid (n3 ≤ 1000) := hn3
  clear hn3
  refine wp_region_orders 10 rfl (by kernel_rfl) ?_
  have hdr : Below W4.heap.size W4 W4.drew := (Below.refl _ _).drew
  replace hB0 := next hB0 hdr
  replace bxd := bxd.next hdr
  replace g0 := ((bcell hdr).1 _ 0 z1).trans g0
  replace g1 := ((bcell hdr).1 _ 1 z1).trans g1
  replace z1 := Nat.lt_of_lt_of_le z1 hdr.size
  replace hs4 := hs4.below hdr
  clear hdr
  generalize W4.drew = wd at *
  obtain ⟨q0, q1, q2, q3, q4, q5, q6, q7, q8, qf, ql⟩ := bxd
  have uc := @Up.cell2
  have uf := @Up.frozen2
  have hd := h.below hB0
  refine any_take 0 (.pointer (some ⟨gf, 0, none⟩)) rfl (by kernel_rfl) (by kernel_rfl) (by kernel_rfl) (fun _ _ _ h => h) (by kernel_rfl) (fun w => by go_simp) ?_
  simp only [Act.put, List.setIfInBounds_toArray, List.set_cons_zero, List.set_cons_succ]
  refine any_take 1 (.pointer (some ⟨g3, 2, none⟩)) rfl (by kernel_rfl) (by kernel_rfl) (by kernel_rfl) (fun _ _ _ h => h) (by kernel_rfl) (fun w => by go_simp) ?_
  simp only [Act.put, List.setIfInBounds_toArray, List.set_cons_zero, List.set_cons_succ]
  refine any_take 3 (.pointer (some ⟨g3, 0, none⟩)) rfl (by kernel_rfl) (by kernel_rfl) (by kernel_rfl) (fun _ _ _ h => h) (by kernel_rfl) (fun w => by go_simp) ?_
  simp only [Act.put, List.setIfInBounds_toArray, List.set_cons_zero, List.set_cons_succ]
  refine any_mildx [8, 9] ?_
  refine mildy_take (v := ?v1) [6, 8, 9] 2 rfl (by kernel_rfl) (by kernel_rfl) (by kernel_rfl) (by kernel_rfl) (by kernel_rfl) (fun _ _ _ h => h) (by kernel_rfl) (fun Wu K hK => ?hy1) ?go1
  case hy1 =>
    go_big_quiet_op
    simp only [Act.put, List.setIfInBounds_toArray, List.set_cons_zero, List.set_cons_succ] at hK
    exact hK
  simp only [Act.put, List.setIfInBounds_toArray, List.set_cons_zero, List.set_cons_succ]
  refine mildy_take (v := ?v2) [5, 6, 8, 9] 4 rfl (by kernel_rfl) (by kernel_rfl) (by kernel_rfl) (by kernel_rfl) (by kernel_rfl) (fun _ _ _ h => h) (by kernel_rfl) (fun Wu K hK => ?hy2) ?go2
  case hy2 =>
    go_big_quiet_op
    simp only [Act.put, List.setIfInBounds_toArray, List.set_cons_zero, List.set_cons_succ] at hK
    exact hK
  simp only [Act.put, List.setIfInBounds_toArray, List.set_cons_zero, List.set_cons_succ]
  refine mildy_take (v := ?v3) [6, 8, 9] 5 rfl (by kernel_rfl) (by kernel_rfl) (by kernel_rfl) (by kernel_rfl) (by kernel_rfl) (fun _ _ _ h => h) (by kernel_rfl) (fun Wu K hK => ?hy3) ?go3
  case hy3 =>
    go_big_quiet_op
    simp only [Act.put, List.setIfInBounds_toArray, List.set_cons_zero, List.set_cons_succ] at hK
    refine ⟨_, fun u => Calls.up_same (request_any x.k u.1), ?_⟩
    exact hK
  simp only [Act.put, List.setIfInBounds_toArray, List.set_cons_zero, List.set_cons_succ]
  refine mildy_take (v := ?v4) [8, 9] 7 rfl (by kernel_rfl) (by kernel_rfl) (by kernel_rfl) (by kernel_rfl) (by kernel_rfl) (fun _ _ _ h => h) (by kernel_rfl) (fun Wu K hK => ?hy4) ?go4
  case hy4 =>
    go_big_quiet_op
    simp only [Act.put, List.setIfInBounds_toArray, List.set_cons_zero, List.set_cons_succ] at hK
    exact hK
  simp only [Act.put, List.setIfInBounds_toArray, List.set_cons_zero, List.set_cons_succ]
  refine mildy_take (v := ?v5) [8, 9] 6 rfl (by kernel_rfl) (by kernel_rfl) (by kernel_rfl) (by kernel_rfl) (by kernel_rfl) (fun _ _ _ h => h) (by kernel_rfl) (fun Wu K hK => ?hy5) ?go5
  case hy5 =>
    go_big_quiet_op
    simp only [Act.put, List.setIfInBounds_toArray, List.set_cons_zero, List.set_cons_succ] at hK
    refine ⟨_, fun u => Calls.up_of (lane_of u.1 ((hd.below Wu.2).below u.2) x _ HTN.out _ HT.out), ?_⟩
    exact hK
  simp only [Act.put, List.setIfInBounds_toArray, List.set_cons_zero, List.set_cons_succ]
  intro W
  clear uc uf
  have hBW := next hB0 W.2
  replace g0 := ((bcell W.2).1 _ 0 z1).trans g0
  replace g1 := ((bcell W.2).1 _ 1 z1).trans g1
  replace z1 := Nat.lt_of_lt_of_le z1 W.2.size
  replace hs4 := hs4.below W.2
  clear q0 q1 q2 q3 q4 q5 q6 q7 q8 qf ql hd
  generalize W.1 = wa at *
  refine upx_write 8 (by kernel_rfl) (by kernel_rfl) rfl ?_
  go_wp2_with (go_at_call 39; refine (laneArrive_ok _ (hin.below hBW) x a3 n3 c3 hs4 HN3.out HO.out.1 HO.out.2 HL.out).mono ?_; rintro e w5 ⟨rfl, hk5, M', D', hq5, hM5, hD5⟩)
  have nm : ¬ M (pr (2 * x.t.toNat + sortN x) + 2) gl1 := fun hm => by have := HOLD.out _ hm; omega
  replace g0 := (hk5.cell 0 z1 nm).trans g0
  replace g1 := (hk5.cell 1 z1 nm).trans g1
  replace z1 := Nat.lt_of_lt_of_le z1 hk5.size
  have hst := fun w3 => HSTEP.out wa w5 w3 M' D' hBW hk5 hq5 hM5 hD5
  clear hq5 hM5 hD5 hk5 hs4 hin hqu
  refine then_n ?_
  refine any_list 9 (by kernel_rfl) rfl ?_
  go_wp2
  refine then_n ?_
  refine any_done (by kernel_rfl) ?_
  have hq6 := (hst w5).1
  go_wp2_with (go_at_call 40; refine (P.remove_some _ hq6 k x HX.out _ rfl).mono ?_; rintro e w6 ⟨d6, rfl, hk6, hd6, hq7⟩)
  go_ret
  exact ⟨rfl, (hst w6).2 hk6 hq7⟩
theorem deliver_any {F' : Nat → List Pk} {e : Int} (h : Fb w gf nn out inn F B) (a bit mask : Int) (h63 : a < 9223372036854775808) (hm0 : 0 ≤ mask) (hm1 : mask < 65536) (hd : DelTo nn out inn F a bit mask e F') :
    Calls Try.prog 13 #[.pointer (some ⟨gf, 0, none⟩), .int .i64 a, .int .i64 bit, .int .u16 mask] w fun en w' => en = .returned (.int .i64 e) ∧ FThen w w' gf nn out inn F' B := by
  cases hd with
  | none ha => exact (deliver_none w h a bit mask ha h63).mono fun _ _ ⟨he, hb⟩ => ⟨he, then_below h hb⟩
  | form q k x hq hx ha hw => exact (deliver_form w h a bit mask hm0 hm1 q k x hq hx ha hw).mono fun _ _ ⟨he, hb⟩ => ⟨he, then_below h hb⟩
  | full q k x hq hx ha hw hl => exact (deliver_full w h a bit mask hm0 hm1 q k x hq hx ha hw hl).mono fun _ _ ⟨he, hb⟩ => ⟨he, then_below h hb⟩
  | ok q k x hq hx ha hw hl => exact deliver_ok w h a bit mask hm0 hm1 q k x hq hx ha hw hl
end
end Go.Proofs.Ytjdbjmfkheffdaa
end
section
namespace Go.Proofs.Ytjdbjmfkheffdaa
open Go.RowKit
set_option linter.unusedVariables false
set_option maxRecDepth 20000

/-- One more row, beside the others. -/
theorem Many.add {w : World} {m g : Nat} {G : Nat → Nat} {M D : Nat → Nat → Prop} {room : Nat → Int} {F : Nat → List Pk} {Z M' D' : Nat → Prop} (h : Many w m G M D room F Z) (hqu : Qu w g M' D' (room m) (F m)) (hdj : ∀ q, q < m → ∀ k, M' k ∨ D' k → ¬ (M q k ∨ D q k)) (hz : ∀ k, M' k ∨ D' k → ¬ Z k) :
    Many w (m + 1) (upd G m g) (upd M m M') (upd D m D') room F Z := by
  refine ⟨fun x hx => ?_, fun x y hx hy hxy k h1 h2 => ?_, fun x hx k h1 hzz => ?_⟩
  · by_cases hxq : x = m
    · subst hxq; simp only [upd_same]; exact hqu
    · simp only [upd_other _ _ hxq]; exact h.qu x (by omega)
  · by_cases hxq : x = m
    · subst hxq
      rw [upd_same, upd_same] at h1
      rw [upd_other _ _ (Ne.symm hxy), upd_other _ _ (Ne.symm hxy)] at h2
      exact hdj y (by omega) k h1 h2
    · rw [upd_other _ _ hxq, upd_other _ _ hxq] at h1
      by_cases hyq : y = m
      · subst hyq
        rw [upd_same, upd_same] at h2
        exact hdj x (by omega) k h2 h1
      · rw [upd_other _ _ hyq, upd_other _ _ hyq] at h2
        exact h.dj x y (by omega) (by omega) hxy k h1 h2
  · by_cases hxq : x = m
    · subst hxq; rw [upd_same, upd_same] at h1; exact hz k h1 hzz
    · rw [upd_other _ _ hxq, upd_other _ _ hxq] at h1; exact h.nz x (by omega) k h1 hzz
theorem Many.upto {w : World} {m n : Nat} {G : Nat → Nat} {M D : Nat → Nat → Prop} {room : Nat → Int} {F : Nat → List Pk} {Z : Nat → Prop} (h : Many w m G M D room F Z) (e : m = n) : Many w n G M D room F Z := e ▸ h
theorem Many.zz {w : World} {m : Nat} {G : Nat → Nat} {M D : Nat → Nat → Prop} {room : Nat → Int} {F : Nat → List Pk} {Z Z' : Nat → Prop} (h : Many w m G M D room F Z) (hz : ∀ q, q < m → ∀ k, M q k ∨ D q k → ¬ Z' k) : Many w m G M D room F Z' := ⟨h.qu, h.dj, hz⟩
/-- The lanes' cells. -/
def lanesV (G : Nat → Nat) : Nat → List Value
  | 0 => []
  | q + 1 => lanesV G q ++ [.pointer (some ⟨G (pr q), 0, none⟩), .pointer (some ⟨G (pr q + 2), 0, none⟩)]
theorem lanesV_len (G : Nat → Nat) : ∀ m, (lanesV G m).length = m * 2
  | 0 => rfl
  | m + 1 => by rw [lanesV, List.length_append, lanesV_len G m]; simp; omega
theorem lanesV_at (G : Nat → Nat) : ∀ (m q : Nat), q < m → (lanesV G m)[q * 2]? = some (.pointer (some ⟨G (pr q), 0, none⟩)) ∧ (lanesV G m)[q * 2 + 1]? = some (.pointer (some ⟨G (pr q + 2), 0, none⟩))
  | 0, q, h => by omega
  | m + 1, q, h => by
    have hl := lanesV_len G m
    rw [lanesV]
    by_cases hq : q < m
    · obtain ⟨h1, h2⟩ := lanesV_at G m q hq
      exact ⟨by rw [List.getElem?_append_left (by omega)]; exact h1, by rw [List.getElem?_append_left (by omega)]; exact h2⟩
    · obtain rfl : q = m := by omega
      exact ⟨by rw [List.getElem?_append_right (by omega), hl, Nat.sub_self]; rfl, by rw [List.getElem?_append_right (by omega), hl, Nat.add_sub_cancel_left]; rfl⟩
theorem lanesV_upd (G : Nat → Nat) (x g : Nat) : ∀ m, 2 * m ≤ x → m % 2 = 0 → lanesV (upd G x g) m = lanesV G m := by
  have key : ∀ m, (∀ q, q < m → pr q ≠ x ∧ pr q + 2 ≠ x) → lanesV (upd G x g) m = lanesV G m := by
    intro m
    induction m with
    | zero => intro _; rfl
    | succ m ih =>
      intro h
      obtain ⟨h1, h2⟩ := h m (by omega)
      rw [lanesV, lanesV, ih (fun q hq => h q (by omega)), upd_other _ _ h1, upd_other _ _ h2]
  intro m hm h2
  refine key m (fun q hq => ?_)
  unfold pr
  omega
/-- On the way: j nodes are there. -/
structure NW (w0 w : World) (gf j : Nat) (out inn : Int) (G : Nat → Nat) (M D : Nat → Nat → Prop) (SL : Nat → Prop) (a : Option Addr) (cap : Nat) : Prop where
  fc : w.cell? ⟨gf, 0, none⟩ = some (.slice a (2 * j) cap)
  fz : w.frozen? ⟨gf, 0, none⟩ = false
  lt : gf < w0.heap.size + 2
  ge : w0.heap.size ≤ gf
  sz : w0.heap.size + 2 ≤ w.heap.size
  row : Rw w SL a (2 * j) cap 2 (lanesV G (2 * j))
  many : Many w (4 * j) G M D (Rm out inn) (fun _ => []) (fun k => k = gf ∨ SL k)
  lo : ∀ q, q < 4 * j → ∀ k, M q k ∨ D q k → w0.heap.size + 2 ≤ k
  slo : ∀ k, SL k → w0.heap.size + 2 ≤ k ∧ k < w.heap.size
theorem Rm_j (out inn : Int) (j : Nat) : Rm out inn (4 * j) = out ∧ Rm out inn (4 * j + 1) = out ∧ Rm out inn (4 * j + 2) = inn ∧ Rm out inn (4 * j + 3) = 1 := by
  unfold Rm
  refine ⟨?_, ?_, ?_, ?_⟩
  · rw [if_neg (by omega), if_neg (by omega)]
  · rw [if_neg (by omega), if_neg (by omega)]
  · rw [if_pos (by omega)]
  · rw [if_neg (by omega), if_pos (by omega)]
@[reducible] def one (g : Nat) : Nat → Prop := fun k => k = g
@[reducible] def noM : Nat → Prop := fun _ => False
/-- One node more. -/
theorem NW.grow {w0 w w4 w5 : World} {gf j : Nat} {out inn : Int} {G : Nat → Nat} {M D : Nat → Nat → Prop} {SL : Nat → Prop} {a a' : Option Addr} {cap cap' g1 g2 g3 g4 : Nat} (h : NW w0 w gf j out inn G M D SL a cap) (hb : Below w.heap.size w w4)
    (q1 : Qu w4 g1 (one g1) noM out []) (q2 : Qu w4 g2 (one g2) noM inn []) (q3 : Qu w4 g3 (one g3) noM out []) (q4 : Qu w4 g4 (one g4) noM 1 [])
    (o1 : w.heap.size ≤ g1) (o2 : g1 < g2) (o3 : g2 < g3) (o4 : g3 < g4)
    (hr : Rw w5 (fun k => SL k ∨ w4.heap.size ≤ k) a' (2 * j + 2) cap' 2 (lanesV G (2 * j) ++ [.pointer (some ⟨g1, 0, none⟩), .pointer (some ⟨g2, 0, none⟩), .pointer (some ⟨g3, 0, none⟩), .pointer (some ⟨g4, 0, none⟩)])) (hk : Keep SL w4 w5) :
    ∃ G' M' D', NW w0 (w5.setCell ⟨gf, 0, none⟩ (.slice a' (2 * j + 2) cap')) gf (j + 1) out inn G' M' D' (fun k => SL k ∨ (w4.heap.size ≤ k ∧ k < w5.heap.size)) a' cap' := by
  have sz := h.sz
  have z4 := hb.size
  have z5 := hk.size
  have hlt := h.lt
  have g4lt : g4 < w4.heap.size := q4.old g4 (.inl rfl)
  have hm4 := h.many.below hb
  have hold : ∀ q, q < 4 * j → ∀ k, M q k ∨ D q k → k < w.heap.size := fun q hq k hk => h.many.old hq hk
  have hslo := h.slo
  have nsl : ∀ k, w.heap.size ≤ k → ¬ (k = gf ∨ SL k) := fun k hk hz => by
    rcases hz with rfl | hz
    · omega
    · have := hslo k hz; omega
  obtain ⟨r0, r1, r2, r3⟩ := Rm_j out inn j
  -- the four rows
  have a1 := hm4.add (g := g1) (M' := one g1) (D' := noM) (by rw [r0]; exact q1) (fun q hq k hk h' => by
    have := hold q hq k h'
    have e : k = g1 := hk.resolve_right id
    omega) (fun k hk => by
      have e : k = g1 := hk.resolve_right id
      exact nsl k (by omega))
  have mem1 : ∀ q, q < 4 * j + 1 → ∀ k, upd M (4 * j) (one g1) q k ∨ upd D (4 * j) noM q k → k < w.heap.size ∨ k = g1 := by
    intro q hq k hk
    by_cases e : q = 4 * j
    · subst e; rw [upd_same, upd_same] at hk; exact .inr (hk.resolve_right id)
    · rw [upd_other _ _ e, upd_other _ _ e] at hk; exact .inl (hold q (by omega) k hk)
  have a2 := a1.add (g := g3) (M' := one g3) (D' := noM) (by rw [r1]; exact q3) (fun q hq k hk h' => by
    have := mem1 q hq k h'
    have e : k = g3 := hk.resolve_right id
    omega) (fun k hk => by have e : k = g3 := hk.resolve_right id
                           exact nsl k (by omega))
  have mem2 : ∀ q, q < 4 * j + 1 + 1 → ∀ k, upd (upd M (4 * j) (one g1)) (4 * j + 1) (one g3) q k ∨ upd (upd D (4 * j) noM) (4 * j + 1) noM q k → k < w.heap.size ∨ k = g1 ∨ k = g3 := by
    intro q hq k hk
    by_cases e : q = 4 * j + 1
    · subst e; rw [upd_same, upd_same] at hk; exact .inr (.inr (hk.resolve_right id))
    · rw [upd_other _ _ e, upd_other _ _ e] at hk; exact (mem1 q (by omega) k hk).imp id .inl
  have a3 := a2.add (g := g2) (M' := one g2) (D' := noM) (by show Qu _ _ _ _ (Rm out inn (4 * j + 2)) _; rw [r2]; exact q2) (fun q hq k hk h' => by
    have := mem2 q hq k h'
    have e : k = g2 := hk.resolve_right id
    omega) (fun k hk => by have e : k = g2 := hk.resolve_right id
                           exact nsl k (by omega))
  have mem3 : ∀ q, q < 4 * j + 1 + 1 + 1 → ∀ k, upd (upd (upd M (4 * j) (one g1)) (4 * j + 1) (one g3)) (4 * j + 1 + 1) (one g2) q k ∨ upd (upd (upd D (4 * j) noM) (4 * j + 1) noM) (4 * j + 1 + 1) noM q k → k < w.heap.size ∨ k = g1 ∨ k = g3 ∨ k = g2 := by
    intro q hq k hk
    by_cases e : q = 4 * j + 1 + 1
    · subst e; rw [upd_same, upd_same] at hk; exact .inr (.inr (.inr (hk.resolve_right id)))
    · rw [upd_other _ _ e, upd_other _ _ e] at hk
      rcases mem2 q (by omega) k hk with h1 | h1 | h1
      · exact .inl h1
      · exact .inr (.inl h1)
      · exact .inr (.inr (.inl h1))
  have a4 := a3.add (g := g4) (M' := one g4) (D' := noM) (by show Qu _ _ _ _ (Rm out inn (4 * j + 3)) _; rw [r3]; exact q4) (fun q hq k hk h' => by
    have := mem3 q hq k h'
    have e : k = g4 := hk.resolve_right id
    omega) (fun k hk => by have e : k = g4 := hk.resolve_right id
                           exact nsl k (by omega))
  have a5 := a4.upto (n := 4 * (j + 1)) (by omega)
  generalize hM' : upd (upd (upd (upd M (4 * j) (one g1)) (4 * j + 1) (one g3)) (4 * j + 1 + 1) (one g2)) (4 * j + 1 + 1 + 1) (one g4) = M' at *
  generalize hD' : upd (upd (upd (upd D (4 * j) noM) (4 * j + 1) noM) (4 * j + 1 + 1) noM) (4 * j + 1 + 1 + 1) noM = D' at *
  have mem4 : ∀ q, q < 4 * (j + 1) → ∀ k, M' q k ∨ D' q k → (q < 4 * j ∧ (M q k ∨ D q k)) ∨ (w.heap.size ≤ k ∧ k < w4.heap.size) := by
    intro q hq k hk
    subst hM' hD'
    by_cases e3 : q = 4 * j + 1 + 1 + 1
    · subst e3; rw [upd_same, upd_same] at hk; have e : k = g4 := hk.resolve_right id; exact .inr (by omega)
    rw [upd_other _ _ e3, upd_other _ _ e3] at hk
    by_cases e2 : q = 4 * j + 1 + 1
    · subst e2; rw [upd_same, upd_same] at hk; have e : k = g2 := hk.resolve_right id; exact .inr (by omega)
    rw [upd_other _ _ e2, upd_other _ _ e2] at hk
    by_cases e1 : q = 4 * j + 1
    · subst e1; rw [upd_same, upd_same] at hk; have e : k = g3 := hk.resolve_right id; exact .inr (by omega)
    rw [upd_other _ _ e1, upd_other _ _ e1] at hk
    by_cases e0 : q = 4 * j
    · subst e0; rw [upd_same, upd_same] at hk; have e : k = g1 := hk.resolve_right id; exact .inr (by omega)
    rw [upd_other _ _ e0, upd_other _ _ e0] at hk
    exact .inl ⟨by omega, hk⟩
  have nz5 : ∀ q, q < 4 * (j + 1) → ∀ k, M' q k ∨ D' q k → ¬ (SL k ∨ k = gf) ∧ k < w4.heap.size ∧ w0.heap.size + 2 ≤ k := by
    intro q hq k hk
    rcases mem4 q hq k hk with ⟨hq', hk'⟩ | hk'
    · have h1 := h.many.nz q hq' k hk'
      have h2 := hold q hq' k hk'
      have h3 := h.lo q hq' k hk'
      exact ⟨fun h => h1 (h.elim .inr .inl), by omega, h3⟩
    · have h1 := nsl k hk'.1
      exact ⟨fun h => h1 (h.elim .inr .inl), hk'.2, by omega⟩
  have k6 := Keep.one w5 gf 0 (.slice a' (2 * j + 2) cap')
  have ngs : ¬ SL gf := fun hs => by have := hslo gf hs; omega
  have a6 := (a5.keep hk (fun q hq k hk' hs => (nz5 q hq k hk').1 (.inl hs))).keep k6 (fun q hq k hk' e => (nz5 q hq k hk').1 (.inr e))
  refine ⟨_, M', D', ⟨?_, ?_, h.lt, h.ge, by rw [World.size_setCell]; omega, ?_, a6.zz (fun q hq k hk' hz => ?_), fun q hq k hk' => (nz5 q hq k hk').2.2, fun k hk' => ?_⟩⟩
  · have hc : w5.cell? ⟨gf, 0, none⟩ = some (.slice a (2 * j) cap) := by rw [hk.cell 0 (by omega) ngs, hb.cell (p := ⟨gf, 0, none⟩) (by simp only; omega)]; exact h.fc
    rw [World.cell?_setCell_same _ _ _ hc]
    rfl
  · rw [World.frozen?_setCell, hk.frozen 0 (by omega) ngs, hb.frozen (p := ⟨gf, 0, none⟩) (by simp only; omega)]; exact h.fz
  · have e : lanesV (upd (upd (upd (upd G (4 * j) g1) (4 * j + 1) g3) (4 * j + 1 + 1) g2) (4 * j + 1 + 1 + 1) g4) (2 * (j + 1)) = lanesV G (2 * j) ++ [.pointer (some ⟨g1, 0, none⟩), .pointer (some ⟨g2, 0, none⟩), .pointer (some ⟨g3, 0, none⟩), .pointer (some ⟨g4, 0, none⟩)] := by
      have p1 : pr (2 * j) = 4 * j := by unfold pr; omega
      have p2 : pr (2 * j + 1) = 4 * j + 1 := by unfold pr; omega
      rw [show 2 * (j + 1) = 2 * j + 1 + 1 by omega, lanesV, lanesV, p1, p2, lanesV_upd _ _ _ _ (by omega) (by omega), lanesV_upd _ _ _ _ (by omega) (by omega), lanesV_upd _ _ _ _ (by omega) (by omega), lanesV_upd _ _ _ _ (by omega) (by omega), List.append_assoc]
      have v0 : (upd (upd (upd (upd G (4 * j) g1) (4 * j + 1) g3) (4 * j + 1 + 1) g2) (4 * j + 1 + 1 + 1) g4) (4 * j) = g1 := by rw [upd_other _ _ (by omega), upd_other _ _ (by omega), upd_other _ _ (by omega), upd_same]
      have v1 : (upd (upd (upd (upd G (4 * j) g1) (4 * j + 1) g3) (4 * j + 1 + 1) g2) (4 * j + 1 + 1 + 1) g4) (4 * j + 1) = g3 := by rw [upd_other _ _ (by omega), upd_other _ _ (by omega), upd_same]
      have v2 : (upd (upd (upd (upd G (4 * j) g1) (4 * j + 1) g3) (4 * j + 1 + 1) g2) (4 * j + 1 + 1 + 1) g4) (4 * j + 2) = g2 := by rw [upd_other _ _ (by omega)]; exact upd_same _ (4 * j + 1 + 1) _
      have v3 : (upd (upd (upd (upd G (4 * j) g1) (4 * j + 1) g3) (4 * j + 1 + 1) g2) (4 * j + 1 + 1 + 1) g4) (4 * j + 1 + 2) = g4 := upd_same _ (4 * j + 1 + 1 + 1) _
      rw [v0, v1, v2, v3]
      rfl
    rw [e, show 2 * (j + 1) = 2 * j + 2 by omega]
    exact (hr.imp (T := fun k => SL k ∨ (w4.heap.size ≤ k ∧ k < w5.heap.size)) (fun k hk h => h.imp id (fun h => ⟨h, hk⟩))).keep k6 (fun k hk' e => by
      subst e
      rcases hk' with hk' | hk'
      · exact ngs hk'
      · omega)
  · have := nz5 q hq k hk'
    rcases hz with hz | hz | hz
    · exact this.1 (.inr hz)
    · exact this.1 (.inl hz)
    · omega
  · rw [World.size_setCell]
    rcases hk' with hk' | hk'
    · have := hslo k hk'; omega
    · omega
/-- All nodes are there. -/
theorem NW.done {w0 w : World} {gf nn : Nat} {out inn : Int} {G : Nat → Nat} {M D : Nat → Nat → Prop} {SL : Nat → Prop} {a : Option Addr} {cap : Nat} (h : NW w0 w gf nn out inn G M D SL a cap) (n0 : 1 ≤ nn) (n1 : nn ≤ 6) (o0 : 1 ≤ out) (o1 : out ≤ 1000) (i0 : 1 ≤ inn) (i1 : inn ≤ 1000) :
    ∃ B, Fb w gf nn out inn (fun _ => []) B ∧ ∀ k, B k → w0.heap.size ≤ k := by
  have sz := h.sz
  have hlt := h.lt
  have hge := h.ge
  rcases h.row.row with hr | ⟨b, o, rfl, hs, hb, hc, hf⟩
  · have := h.row.le; omega
  have hsb := h.slo b hs
  refine ⟨fun k => k = gf ∨ k = b ∨ ∃ q, q < 4 * nn ∧ (M q k ∨ D q k), ⟨b, o, cap, G, M, D, ⟨h.fc, fun q hq => ?_, fun q hq => ?_, ⟨h.row.le, h.row.max⟩, h.many.zz (fun q hq k hk hz => ?_), fun q _ x hx => (by cases hx), fun q hq => ?_, fun q hq k hk => .inr (.inr ⟨q, hq, hk⟩), .inl rfl, .inr (.inl rfl), fun k hk => ?_, n0, n1, o0, o1, i0, i1⟩⟩, fun k hk => ?_⟩
  · exact hc _ _ (lanesV_at G _ q hq).1
  · have := hc _ _ (lanesV_at G _ q hq).2
    rw [Nat.add_assoc]; exact this
  · refine h.many.nz q hq k hk ?_
    rcases hz with hz | rfl
    · exact .inl hz
    · exact .inr hs
  · unfold Rm; simp; repeat (first | omega | split)
  · rcases hk with rfl | rfl | ⟨q, hq, hk⟩
    · omega
    · omega
    · exact h.many.old hq hk
  · rcases hk with rfl | rfl | ⟨q, hq, hk⟩
    · omega
    · omega
    · have := h.lo q hq k hk; omega
end Go.Proofs.Ytjdbjmfkheffdaa
end
