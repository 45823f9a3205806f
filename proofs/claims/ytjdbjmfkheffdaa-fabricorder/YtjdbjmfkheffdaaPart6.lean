/- The contract of Deliver. Conditions: as each theorem states them.
A network on the way to be made: its lanes one node after the other (NW). Nothing of the program but packets is named here.
The contract of New. Conditions: as the theorem states them.
Networks in walks (On): their memory is new, and none of the blocks of X. Conditions: as each theorem states them.
The document's example of a network (wakes). No condition.
How many packets there are in a network, and that each call makes something of it. Conditions: as each theorem states them. -/
import Derived.Test.YtjdbjmfkheffdaaPart5
import Derived.Test.YtjdbjmfkheffdaaPart4
section
namespace Go.Proofs.Ytjdbjmfkheffdaa
open Go.RowKit
set_option linter.unusedVariables false
set_option maxRecDepth 20000

theorem lane_p (p q : Nat) (w : World) : (Instr.field 71 (.agg #[.pointer (some ⟨p, 0, none⟩), .pointer (some ⟨q, 0, none⟩)]) 0).run Try.prog w = .ok (.pointer (some ⟨p, 0, none⟩)) w := by kernel_rfl
section
variable (w : World) {gf nn : Nat} {out inn : Int} {F : Nat → List Pk} {B : Nat → Prop}
set_option maxHeartbeats 400000 in
theorem deliver_none (h : Fb w gf nn out inn F B) (a bit mask : Int) (ha : a < 0 ∨ ((laneL F (2 * nn)).length : Int) ≤ a) (h63 : a < 9223372036854775808) :
    Calls Try.prog 13 #[.pointer (some ⟨gf, 0, none⟩), .int .i64 a, .int .i64 bit, .int .u16 mask] w fun e w' => e = .returned (.int .i64 3) ∧ Below w.heap.size w w' := by
  obtain ⟨gl, go, cap, G, M, D, h⟩ := h
  have HA : Hid (a < 0 ∨ ((laneL F (2 * nn)).length : Int) ≤ a) := ha
  have H63 : Hid (a < 9223372036854775808) := h63
  clear ha h63
  go_enter Try.func13, Try.ntmps13
  go_wp2_with (go_at_call 36; refine (find_no _ h a HA.out H63.out).mono ?_; rintro e w1 ⟨⟨p, q, i, rfl⟩, hb1⟩)
  go_ret
  exact ⟨rfl, ba hb1⟩
set_option maxHeartbeats 400000 in
theorem deliver_form (h : Fb w gf nn out inn F B) (a bit mask : Int) (hm0 : 0 ≤ mask) (hm1 : mask < 65536) (q k : Nat) (x : Pk) (hq : q < 2 * nn) (hx : (F (pr q))[k]? = some x) (ha : a = ((laneL F q).length : Int) + k) (hw : wireB x bit mask = false) :
    Calls Try.prog 13 #[.pointer (some ⟨gf, 0, none⟩), .int .i64 a, .int .i64 bit, .int .u16 mask] w fun e w' => e = .returned (.int .i64 2) ∧ Below w.heap.size w w' := by
  obtain ⟨gl, go, cap, G, M, D, h⟩ := h
  have hk : k < (F (pr q)).length := (List.getElem?_eq_some_iff.1 hx).1
  have hpl : pr q < 4 * nn := by have := pr_lt hq; omega
  have HG : Hid (Good nn x) := h.good _ hpl x (List.mem_of_getElem? hx)
  have HA : Hid (a = ((laneL F q).length : Int) + k) := ha
  have HX : Hid ((F (pr q))[k]? = some x) := hx
  have HM : Hid (0 ≤ mask ∧ mask < 65536) := ⟨hm0, hm1⟩
  have HW : Hid (wireB x bit mask = false) := hw
  clear ha hx hm0 hm1 hw
  have hqu := h.many.qu (pr q) hpl
  have hfd := lane_p
  go_enter Try.func13, Try.ntmps13
  go_wp2_with (first
    | (go_at_call 36; refine (find_yes _ h hq hk a HA.out).mono ?_; rintro e w1 ⟨rfl, hb1⟩; unfold laneV)
    | (go_at_call 37; refine (P.get_some _ (hqu.below (next hb1 (ba (Below.refl _ _)))) k x HX.out _ rfl).mono ?_; rintro e w2 ⟨d, rfl, hb2, ho2⟩; obtain ⟨a2, c2, rfl, hs2⟩ := ho2.sl' rfl)
    | (go_at_call 38; refine (over_no _ x a2 x.z.length c2 bit mask (hs2.below (ba (Below.refl _ _))) HG.out.r HM.out.1 HM.out.2 HW.out).mono ?_; rintro e w3 ⟨rfl, hb3⟩))
  go_ret
  exact ⟨rfl, ba (next (next (next (next hb1 (ba (Below.refl _ _))) hb2) (ba (Below.refl _ _))) hb3)⟩
set_option maxHeartbeats 1000000 in
theorem deliver_full (h : Fb w gf nn out inn F B) (a bit mask : Int) (hm0 : 0 ≤ mask) (hm1 : mask < 65536) (q k : Nat) (x : Pk) (hq : q < 2 * nn) (hx : (F (pr q))[k]? = some x) (ha : a = ((laneL F q).length : Int) + k) (hw : wireB x bit mask = true) (hl : ((F (pr (toQ x) + 2)).length : Int) = Rm out inn (pr (toQ x) + 2)) :
    Calls Try.prog 13 #[.pointer (some ⟨gf, 0, none⟩), .int .i64 a, .int .i64 bit, .int .u16 mask] w fun e w' => e = .returned (.int .i64 5) ∧ Below w.heap.size w w' := by
  obtain ⟨gl, go, cap, G, M, D, h⟩ := h
  have hk : k < (F (pr q)).length := (List.getElem?_eq_some_iff.1 hx).1
  have hpl : pr q < 4 * nn := by have := pr_lt hq; omega
  have hg : Good nn x := h.good _ hpl x (List.mem_of_getElem? hx)
  have HG : Hid (Good nn x) := hg
  have HA : Hid (a = ((laneL F q).length : Int) + k) := ha
  have HX : Hid ((F (pr q))[k]? = some x) := hx
  have HM : Hid (0 ≤ mask ∧ mask < 65536) := ⟨hm0, hm1⟩
  have HW : Hid (wireB x bit mask = true) := hw
  have HT : Hid (x.t = (x.t.toNat : Int)) := hg.tq.2.1.symm
  have HTN : Hid (x.t.toNat < nn) := hg.tq.2.2
  have hin := h.many.qu (pr (toQ x) + 2) (pr_lt hg.tq.1)
  have HO : Hid (0 ≤ Rm out inn (pr (toQ x) + 2) ∧ Rm out inn (pr (toQ x) + 2) ≤ 1000) := by
    have i0 := h.i0; have i1 := h.i1; have o0 := h.o0; have o1 := h.o1
    show _ ∧ _
    unfold Rm; repeat (first | omega | split)
  have HL : Hid (((F (pr (toQ x) + 2)).length : Int) = Rm out inn (pr (toQ x) + 2)) := hl
  clear ha hx hm0 hm1 hw hg hl
  unfold toQ at hin HO HL
  have hqu := h.many.qu (pr q) hpl
  have hfd := lane_p
  go_enter Try.func13, Try.ntmps13
  go_wp2_with (first
    | (go_at_call 36; refine (find_yes _ h hq hk a HA.out).mono ?_; rintro e w1 ⟨rfl, hb1⟩; unfold laneV)
    | (go_at_call 37; refine (P.get_some _ (hqu.below (next hb1 (ba (Below.refl _ _)))) k x HX.out _ rfl).mono ?_; rintro e w2 ⟨d, rfl, hb2, ho2⟩; obtain ⟨a2, c2, rfl, hs2⟩ := ho2.sl' rfl)
    | (go_at_call 38; refine (over_yes _ x a2 x.z.length c2 bit mask (hs2.below (ba (Below.refl _ _))) HG.out.z HG.out.r HM.out.1 HM.out.2 HW.out).mono ?_; rintro e w3 ⟨a3, n3, c3, rfl, hs3, lo3, hb3⟩))
  have hB0 : Below w.heap.size w (w3.alloc (.cells #[.int .i64 x.k, .int .i64 x.f, .int .i64 x.t, .int .i64 x.i, .int .i64 x.l, .int .i64 x.p, .int .i64 x.s, .bool x.fl, .slice a3 n3 c3] 26)) := ba (next (next (next (next hb1 (ba (Below.refl _ _))) hb2) (ba (Below.refl _ _))) hb3)
  have bxd := Bx.made w3 x (.slice a3 n3 c3)
  have hbl := ba (o := .cells #[.int .i64 x.k, .int .i64 x.f, .int .i64 x.t, .int .i64 x.i, .int .i64 x.l, .int .i64 x.p, .int .i64 x.s, .bool x.fl, .slice a3 n3 c3] 26) (next (next hb2 (ba (Below.refl _ _))) hb3)
  have g0 : (w3.alloc (.cells #[.int .i64 x.k, .int .i64 x.f, .int .i64 x.t, .int .i64 x.i, .int .i64 x.l, .int .i64 x.p, .int .i64 x.s, .bool x.fl, .slice a3 n3 c3] 26)).cell? ⟨w1.heap.size, 0, none⟩ = some (.pointer (some ⟨G (pr q), 0, none⟩)) := (hbl.cell (p := ⟨w1.heap.size, 0, none⟩) (by simp)).trans (by simp)
  have g1 : (w3.alloc (.cells #[.int .i64 x.k, .int .i64 x.f, .int .i64 x.t, .int .i64 x.i, .int .i64 x.l, .int .i64 x.p, .int .i64 x.s, .bool x.fl, .slice a3 n3 c3] 26)).cell? ⟨w1.heap.size, 1, none⟩ = some (.pointer (some ⟨G (pr q + 2), 0, none⟩)) := (hbl.cell (p := ⟨w1.heap.size, 1, none⟩) (by simp)).trans (by simp)
  have z1 : w1.heap.size < (w3.alloc (.cells #[.int .i64 x.k, .int .i64 x.f, .int .i64 x.t, .int .i64 x.i, .int .i64 x.l, .int .i64 x.p, .int .i64 x.s, .bool x.fl, .slice a3 n3 c3] 26)).heap.size := Nat.lt_of_lt_of_le (by simp) hbl.size
  have z0 : w.heap.size ≤ w1.heap.size := hb1.size
  have hs4 := hs3.below (ba (o := .cells #[.int .i64 x.k, .int .i64 x.f, .int .i64 x.t, .int .i64 x.i, .int .i64 x.l, .int .i64 x.p, .int .i64 x.s, .bool x.fl, .slice a3 n3 c3] 26) (Below.refl _ _))
  have hn3 : n3 ≤ 1000 := by have := hs3.len; have := ((Pk.right_iff x).1 HG.out.r).z; omega
  clear hbl hb1 hb2 hb3 hs3 lo3 ho2 hs2
  generalize w3.alloc (.cells #[.int .i64 x.k, .int .i64 x.f, .int .i64 x.t, .int .i64 x.i, .int .i64 x.l, .int .i64 x.p, .int .i64 x.s, .bool x.fl, .slice a3 n3 c3] 26) = W4 at *
  generalize w3.heap.size = g3 at *
  generalize w1.heap.size = gl1 at *
  have HN3 : Hid (n3 ≤ 1000) := hn3
  clear hn3
  have h1 := h.below hB0
  have hin1 := hin.below hB0
  obtain ⟨q0, q1, q2, q3, q4, q5, q6, q7, q8, qf, ql⟩ := bxd
  have uc := @Up.cell
  have uf := @Up.frozen
  clear g0 g1
  refine wp_region_up (by kernel_rfl) (by kernel_rfl) ?_
  repeat (go_big_quiet_step ((first
    | (go_at_call 34; exact Calls.up_same (request_any x.k _))
    | (go_at_call 33; exact Calls.up_of (lane_of _ (h1.below (Subtype.property _)) x _ HTN.out _ HT.out))
    | (go_at_call 39; exact Calls.up_of (laneArrive_full _ (hin1.below (Subtype.property _)) x a3 n3 c3 HO.out.1 HO.out.2 HL.out)))))
  refine wpQuiet_nil ?_
  rintro _ ⟨u, rfl⟩
  clear uc uf
  go_wp2
  go_ret
  exact ⟨rfl, next hB0 u.2⟩
set_option maxHeartbeats 1000000 in
theorem deliver_ok (h : Fb w gf nn out inn F B) (a bit mask : Int) (hm0 : 0 ≤ mask) (hm1 : mask < 65536) (q k : Nat) (x : Pk) (hq : q < 2 * nn) (hx : (F (pr q))[k]? = some x) (ha : a = ((laneL F q).length : Int) + k) (hw : wireB x bit mask = true) (hl : ((F (pr (toQ x) + 2)).length : Int) < Rm out inn (pr (toQ x) + 2)) :
    Calls Try.prog 13 #[.pointer (some ⟨gf, 0, none⟩), .int .i64 a, .int .i64 bit, .int .u16 mask] w fun e w' => e = .returned (.int .i64 0) ∧ FThen w w' gf nn out inn (upd (upd F (pr (toQ x) + 2) (F (pr (toQ x) + 2) ++ [x])) (pr q) ((F (pr q)).eraseIdx k)) B := by
  obtain ⟨gl, go, cap, G, M, D, h⟩ := h
  have hk : k < (F (pr q)).length := (List.getElem?_eq_some_iff.1 hx).1
  have hpl : pr q < 4 * nn := by have := pr_lt hq; omega
  have hg : Good nn x := h.good _ hpl x (List.mem_of_getElem? hx)
  have HG : Hid (Good nn x) := hg
  have HA : Hid (a = ((laneL F q).length : Int) + k) := ha
  have HX : Hid ((F (pr q))[k]? = some x) := hx
  have HM : Hid (0 ≤ mask ∧ mask < 65536) := ⟨hm0, hm1⟩
  have HW : Hid (wireB x bit mask = true) := hw
  have HT : Hid (x.t = (x.t.toNat : Int)) := hg.tq.2.1.symm
  have HTN : Hid (x.t.toNat < nn) := hg.tq.2.2
  have hin := h.many.qu (pr (toQ x) + 2) (pr_lt hg.tq.1)
  have HO : Hid (0 ≤ Rm out inn (pr (toQ x) + 2) ∧ Rm out inn (pr (toQ x) + 2) ≤ 1000) := by
    have i0 := h.i0; have i1 := h.i1; have o0 := h.o0; have o1 := h.o1
    show _ ∧ _
    unfold Rm; repeat (first | omega | split)
  have HL : Hid (((F (pr (toQ x) + 2)).length : Int) < Rm out inn (pr (toQ x) + 2)) := hl
  have HSTEP : Hid (∀ (w1 w2 w3 : World) (M' D' : Nat → Prop), Below w.heap.size w w1 → Keep (M (pr (toQ x) + 2)) w1 w2 → Qu w2 (G (pr (toQ x) + 2)) M' D' (Rm out inn (pr (toQ x) + 2)) (F (pr (toQ x) + 2) ++ [x]) → (∀ k, M' k → M (pr (toQ x) + 2) k ∨ w1.heap.size ≤ k) → (∀ k, D' k → D (pr (toQ x) + 2) k ∨ w1.heap.size ≤ k) →
      Qu w2 (G (pr q)) (M (pr q)) (D (pr q)) (Rm out inn (pr q)) (F (pr q)) ∧ (Keep (M (pr q)) w2 w3 → Qu w3 (G (pr q)) (M (pr q)) (D (pr q)) (Rm out inn (pr q)) ((F (pr q)).eraseIdx k) → FThen w w3 gf nn out inn (upd (upd F (pr (toQ x) + 2) (F (pr (toQ x) + 2) ++ [x])) (pr q) ((F (pr q)).eraseIdx k)) B)) := by
    intro w1 w2 w3 M' D' hb hk1 hq1 hM hD
    have hne : pr q ≠ pr (toQ x) + 2 := pr_ne
    obtain ⟨hk', hf'⟩ := (h.below hb).step (pr_lt hg.tq.1) hk1 hq1 hM hD (fun y hy => by
      rcases List.mem_append.1 hy with hy | hy
      · exact h.good _ (pr_lt hg.tq.1) y hy
      · rw [List.mem_singleton] at hy; subst hy; exact hg) (by rw [List.length_append]; simp; omega)
    have hqp := hf'.many.qu (pr q) hpl
    rw [upd_other _ _ hne, upd_other _ _ hne, upd_other _ _ hne] at hqp
    refine ⟨hqp, fun hk2 hq2 => ?_⟩
    have eM : upd M (pr (toQ x) + 2) M' (pr q) = M (pr q) := upd_other _ _ hne
    have eD : upd D (pr (toQ x) + 2) D' (pr q) = D (pr q) := upd_other _ _ hne
    obtain ⟨hk'', hf''⟩ := hf'.step (q := pr q) hpl (by rw [eM]; exact hk2) hq2 (fun k hk => .inl (by rw [eM]; exact hk)) (fun k hk => .inl (by rw [eD]; exact hk)) (fun y hy => h.good _ hpl y (List.mem_of_mem_eraseIdx hy)) (by have := h.rooms _ hpl; rw [List.length_eraseIdx_of_lt hk]; omega)
    refine ⟨(Keep.pre hb hk').trans hk'' (fun k hk hB => ?_), _, ⟨_, _, _, _, _, _, hf''⟩, fun k hk => ?_⟩
    · rcases hB with hB | hB
      · exact hB
      · have := hb.size; omega
    · have h1 := hb.size
      have h2 := hk1.size
      rcases hk with (hk | hk) | hk
      · exact .inl hk
      · exact .inr (by omega)
      · exact .inr (by omega)
  have HOLD : Hid (∀ k, M (pr (toQ x) + 2) k → k < w.heap.size) := fun k hk => h.many.old (pr_lt hg.tq.1) (.inl hk)
  clear ha hx hm0 hm1 hw hg hl
  unfold toQ at hin HO HL HSTEP HOLD ⊢
  have hqu := h.many.qu (pr q) hpl
  have hfd := lane_p
  go_enter Try.func13, Try.ntmps13
  go_wp2_with (first
    | (go_at_call 36; refine (find_yes _ h hq hk a HA.out).mono ?_; rintro e w1 ⟨rfl, hb1⟩; unfold laneV)
    | (go_at_call 37; refine (P.get_some _ (hqu.below (next hb1 (ba (Below.refl _ _)))) k x HX.out _ rfl).mono ?_; rintro e w2 ⟨d, rfl, hb2, ho2⟩; obtain ⟨a2, c2, rfl, hs2⟩ := ho2.sl' rfl)
    | (go_at_call 38; refine (over_yes _ x a2 x.z.length c2 bit mask (hs2.below (ba (Below.refl _ _))) HG.out.z HG.out.r HM.out.1 HM.out.2 HW.out).mono ?_; rintro e w3 ⟨a3, n3, c3, rfl, hs3, lo3, hb3⟩))
  have hB0 : Below w.heap.size w (w3.alloc (.cells #[.int .i64 x.k, .int .i64 x.f, .int .i64 x.t, .int .i64 x.i, .int .i64 x.l, .int .i64 x.p, .int .i64 x.s, .bool x.fl, .slice a3 n3 c3] 26)) := ba (next (next (next (next hb1 (ba (Below.refl _ _))) hb2) (ba (Below.refl _ _))) hb3)
  have bxd := Bx.made w3 x (.slice a3 n3 c3)
  have hbl := ba (o := .cells #[.int .i64 x.k, .int .i64 x.f, .int .i64 x.t, .int .i64 x.i, .int .i64 x.l, .int .i64 x.p, .int .i64 x.s, .bool x.fl, .slice a3 n3 c3] 26) (next (next hb2 (ba (Below.refl _ _))) hb3)
  have g0 : (w3.alloc (.cells #[.int .i64 x.k, .int .i64 x.f, .int .i64 x.t, .int .i64 x.i, .int .i64 x.l, .int .i64 x.p, .int .i64 x.s, .bool x.fl, .slice a3 n3 c3] 26)).cell? ⟨w1.heap.size, 0, none⟩ = some (.pointer (some ⟨G (pr q), 0, none⟩)) := (hbl.cell (p := ⟨w1.heap.size, 0, none⟩) (by simp)).trans (by simp)
  have g1 : (w3.alloc (.cells #[.int .i64 x.k, .int .i64 x.f, .int .i64 x.t, .int .i64 x.i, .int .i64 x.l, .int .i64 x.p, .int .i64 x.s, .bool x.fl, .slice a3 n3 c3] 26)).cell? ⟨w1.heap.size, 1, none⟩ = some (.pointer (some ⟨G (pr q + 2), 0, none⟩)) := (hbl.cell (p := ⟨w1.heap.size, 1, none⟩) (by simp)).trans (by simp)
  have z1 : w1.heap.size < (w3.alloc (.cells #[.int .i64 x.k, .int .i64 x.f, .int .i64 x.t, .int .i64 x.i, .int .i64 x.l, .int .i64 x.p, .int .i64 x.s, .bool x.fl, .slice a3 n3 c3] 26)).heap.size := Nat.lt_of_lt_of_le (by simp) hbl.size
  have z0 : w.heap.size ≤ w1.heap.size := hb1.size
  have hs4 := hs3.below (ba (o := .cells #[.int .i64 x.k, .int .i64 x.f, .int .i64 x.t, .int .i64 x.i, .int .i64 x.l, .int .i64 x.p, .int .i64 x.s, .bool x.fl, .slice a3 n3 c3] 26) (Below.refl _ _))
  have hn3 : n3 ≤ 1000 := by have := hs3.len; have := ((Pk.right_iff x).1 HG.out.r).z; omega
  clear hbl hb1 hb2 hb3 hs3 lo3 ho2 hs2
  generalize w3.alloc (.cells #[.int .i64 x.k, .int .i64 x.f, .int .i64 x.t, .int .i64 x.i, .int .i64 x.l, .int .i64 x.p, .int .i64 x.s, .bool x.fl, .slice a3 n3 c3] 26) = W4 at *
  generalize w3.heap.size = g3 at *
  generalize w1.heap.size = gl1 at *
  have HN3 : Hid (n3 ≤ 1000) := hn3
  clear hn3
  refine wp_region_orders 10 rfl (by kernel_rfl) ?_
  have hdr : Below W4.heap.size W4 W4.drew := (Below.refl _ _).drew
  replace hB0 := next hB0 hdr
  replace bxd := bxd.next hdr
  replace g0 := ((bcell hdr).1 _ 0 z1).trans g0
  replace g1 := ((bcell hdr).1 _ 1 z1).trans g1
  replace z1 := Nat.lt_of_lt_of_le z1 hdr.size
  replace hs4 := hs4.below hdr
  clear hdr
  generalize W4.drew = wd at *
  obtain ⟨q0, q1, q2, q3, q4, q5, q6, q7, q8, qf, ql⟩ := bxd
  have uc := @Up.cell2
  have uf := @Up.frozen2
  have hd := h.below hB0
  refine any_take 0 (.pointer (some ⟨gf, 0, none⟩)) rfl (by kernel_rfl) (by kernel_rfl) (by kernel_rfl) (fun _ _ _ h => h) (by kernel_rfl) (fun w => by go_simp) ?_
  simp only [Act.put, List.setIfInBounds_toArray, List.set_cons_zero, List.set_cons_succ]
  refine any_take 1 (.pointer (some ⟨g3, 2, none⟩)) rfl (by kernel_rfl) (by kernel_rfl) (by kernel_rfl) (fun _ _ _ h => h) (by kernel_rfl) (fun w => by go_simp) ?_
  simp only [Act.put, List.setIfInBounds_toArray, List.set_cons_zero, List.set_cons_succ]
  refine any_take 3 (.pointer (some ⟨g3, 0, none⟩)) rfl (by kernel_rfl) (by kernel_rfl) (by kernel_rfl) (fun _ _ _ h => h) (by kernel_rfl) (fun w => by go_simp) ?_
  simp only [Act.put, List.setIfInBounds_toArray, List.set_cons_zero, List.set_cons_succ]
  refine any_mildx [8, 9] ?_
  refine mildy_take (v := ?v1) [6, 8, 9] 2 rfl (by kernel_rfl) (by kernel_rfl) (by kernel_rfl) (by kernel_rfl) (by kernel_rfl) (fun _ _ _ h => h) (by kernel_rfl) (fun Wu K hK => ?hy1) ?go1
  case hy1 =>
    go_big_quiet_op
    simp only [Act.put, List.setIfInBounds_toArray, List.set_cons_zero, List.set_cons_succ] at hK
    exact hK
  simp only [Act.put, List.setIfInBounds_toArray, List.set_cons_zero, List.set_cons_succ]
  refine mildy_take (v := ?v2) [5, 6, 8, 9] 4 rfl (by kernel_rfl) (by kernel_rfl) (by kernel_rfl) (by kernel_rfl) (by kernel_rfl) (fun _ _ _ h => h) (by kernel_rfl) (fun Wu K hK => ?hy2) ?go2
  case hy2 =>
    go_big_quiet_op
    simp only [Act.put, List.setIfInBounds_toArray, List.set_cons_zero, List.set_cons_succ] at hK
    exact hK
  simp only [Act.put, List.setIfInBounds_toArray, List.set_cons_zero, List.set_cons_succ]
  refine mildy_take (v := ?v3) [6, 8, 9] 5 rfl (by kernel_rfl) (by kernel_rfl) (by kernel_rfl) (by kernel_rfl) (by kernel_rfl) (fun _ _ _ h => h) (by kernel_rfl) (fun Wu K hK => ?hy3) ?go3
  case hy3 =>
    go_big_quiet_op
    simp only [Act.put, List.setIfInBounds_toArray, List.set_cons_zero, List.set_cons_succ] at hK
    refine ⟨_, fun u => Calls.up_same (request_any x.k u.1), ?_⟩
    exact hK
  simp only [Act.put, List.setIfInBounds_toArray, List.set_cons_zero, List.set_cons_succ]
  refine mildy_take (v := ?v4) [8, 9] 7 rfl (by kernel_rfl) (by kernel_rfl) (by kernel_rfl) (by kernel_rfl) (by kernel_rfl) (fun _ _ _ h => h) (by kernel_rfl) (fun Wu K hK => ?hy4) ?go4
  case hy4 =>
    go_big_quiet_op
    simp only [Act.put, List.setIfInBounds_toArray, List.set_cons_zero, List.set_cons_succ] at hK
    exact hK
  simp only [Act.put, List.setIfInBounds_toArray, List.set_cons_zero, List.set_cons_succ]
  refine mildy_take (v := ?v5) [8, 9] 6 rfl (by kernel_rfl) (by kernel_rfl) (by kernel_rfl) (by kernel_rfl) (by kernel_rfl) (fun _ _ _ h => h) (by kernel_rfl) (fun Wu K hK => ?hy5) ?go5
  case hy5 =>
    go_big_quiet_op
    simp only [Act.put, List.setIfInBounds_toArray, List.set_cons_zero, List.set_cons_succ] at hK
    refine ⟨_, fun u => Calls.up_of (lane_of u.1 ((hd.below Wu.2).below u.2) x _ HTN.out _ HT.out), ?_⟩
    exact hK
  simp only [Act.put, List.setIfInBounds_toArray, List.set_cons_zero, List.set_cons_succ]
  intro W
  clear uc uf
  have hBW := next hB0 W.2
  replace g0 := ((bcell W.2).1 _ 0 z1).trans g0
  replace g1 := ((bcell W.2).1 _ 1 z1).trans g1
  replace z1 := Nat.lt_of_lt_of_le z1 W.2.size
  replace hs4 := hs4.below W.2
  clear q0 q1 q2 q3 q4 q5 q6 q7 q8 qf ql hd
  generalize W.1 = wa at *
  refine upx_write 8 (by kernel_rfl) (by kernel_rfl) rfl ?_
  go_wp2_with (go_at_call 39; refine (laneArrive_ok _ (hin.below hBW) x a3 n3 c3 hs4 HN3.out HO.out.1 HO.out.2 HL.out).mono ?_; rintro e w5 ⟨rfl, hk5, M', D', hq5, hM5, hD5⟩)
  have nm : ¬ M (pr (2 * x.t.toNat + sortN x) + 2) gl1 := fun hm => by have := HOLD.out _ hm; omega
  replace g0 := (hk5.cell 0 z1 nm).trans g0
  replace g1 := (hk5.cell 1 z1 nm).trans g1
  replace z1 := Nat.lt_of_lt_of_le z1 hk5.size
  have hst := fun w3 => HSTEP.out wa w5 w3 M' D' hBW hk5 hq5 hM5 hD5
  clear hq5 hM5 hD5 hk5 hs4 hin hqu
  refine then_n ?_
  refine any_list 9 (by kernel_rfl) rfl ?_
  go_wp2
  refine then_n ?_
  refine any_done (by kernel_rfl) ?_
  have hq6 := (hst w5).1
  go_wp2_with (go_at_call 40; refine (P.remove_some _ hq6 k x HX.out _ rfl).mono ?_; rintro e w6 ⟨d6, rfl, hk6, hd6, hq7⟩)
  go_ret
  exact ⟨rfl, (hst w6).2 hk6 hq7⟩
theorem deliver_any {F' : Nat → List Pk} {e : Int} (h : Fb w gf nn out inn F B) (a bit mask : Int) (h63 : a < 9223372036854775808) (hm0 : 0 ≤ mask) (hm1 : mask < 65536) (hd : DelTo nn out inn F a bit mask e F') :
    Calls Try.prog 13 #[.pointer (some ⟨gf, 0, none⟩), .int .i64 a, .int .i64 bit, .int .u16 mask] w fun en w' => en = .returned (.int .i64 e) ∧ FThen w w' gf nn out inn F' B := by
  cases hd with
  | none ha => exact (deliver_none w h a bit mask ha h63).mono fun _ _ ⟨he, hb⟩ => ⟨he, then_below h hb⟩
  | form q k x hq hx ha hw => exact (deliver_form w h a bit mask hm0 hm1 q k x hq hx ha hw).mono fun _ _ ⟨he, hb⟩ => ⟨he, then_below h hb⟩
  | full q k x hq hx ha hw hl => exact (deliver_full w h a bit mask hm0 hm1 q k x hq hx ha hw hl).mono fun _ _ ⟨he, hb⟩ => ⟨he, then_below h hb⟩
  | ok q k x hq hx ha hw hl => exact deliver_ok w h a bit mask hm0 hm1 q k x hq hx ha hw hl
end
end Go.Proofs.Ytjdbjmfkheffdaa
end
section
namespace Go.Proofs.Ytjdbjmfkheffdaa
open Go.RowKit
set_option linter.unusedVariables false
set_option maxRecDepth 20000

/-- One more row, beside the others. -/
theorem Many.add {w : World} {m g : Nat} {G : Nat → Nat} {M D : Nat → Nat → Prop} {room : Nat → Int} {F : Nat → List Pk} {Z M' D' : Nat → Prop} (h : Many w m G M D room F Z) (hqu : Qu w g M' D' (room m) (F m)) (hdj : ∀ q, q < m → ∀ k, M' k ∨ D' k → ¬ (M q k ∨ D q k)) (hz : ∀ k, M' k ∨ D' k → ¬ Z k) :
    Many w (m + 1) (upd G m g) (upd M m M') (upd D m D') room F Z := by
  refine ⟨fun x hx => ?_, fun x y hx hy hxy k h1 h2 => ?_, fun x hx k h1 hzz => ?_⟩
  · by_cases hxq : x = m
    · subst hxq; simp only [upd_same]; exact hqu
    · simp only [upd_other _ _ hxq]; exact h.qu x (by omega)
  · by_cases hxq : x = m
    · subst hxq
      rw [upd_same, upd_same] at h1
      rw [upd_other _ _ (Ne.symm hxy), upd_other _ _ (Ne.symm hxy)] at h2
      exact hdj y (by omega) k h1 h2
    · rw [upd_other _ _ hxq, upd_other _ _ hxq] at h1
      by_cases hyq : y = m
      · subst hyq
        rw [upd_same, upd_same] at h2
        exact hdj x (by omega) k h2 h1
      · rw [upd_other _ _ hyq, upd_other _ _ hyq] at h2
        exact h.dj x y (by omega) (by omega) hxy k h1 h2
  · by_cases hxq : x = m
    · subst hxq; rw [upd_same, upd_same] at h1; exact hz k h1 hzz
    · rw [upd_other _ _ hxq, upd_other _ _ hxq] at h1; exact h.nz x (by omega) k h1 hzz
theorem Many.upto {w : World} {m n : Nat} {G : Nat → Nat} {M D : Nat → Nat → Prop} {room : Nat → Int} {F : Nat → List Pk} {Z : Nat → Prop} (h : Many w m G M D room F Z) (e : m = n) : Many w n G M D room F Z := e ▸ h
theorem Many.zz {w : World} {m : Nat} {G : Nat → Nat} {M D : Nat → Nat → Prop} {room : Nat → Int} {F : Nat → List Pk} {Z Z' : Nat → Prop} (h : Many w m G M D room F Z) (hz : ∀ q, q < m → ∀ k, M q k ∨ D q k → ¬ Z' k) : Many w m G M D room F Z' := ⟨h.qu, h.dj, hz⟩
/-- The lanes' cells. -/
def lanesV (G : Nat → Nat) : Nat → List Value
  | 0 => []
  | q + 1 => lanesV G q ++ [.pointer (some ⟨G (pr q), 0, none⟩), .pointer (some ⟨G (pr q + 2), 0, none⟩)]
theorem lanesV_len (G : Nat → Nat) : ∀ m, (lanesV G m).length = m * 2
  | 0 => rfl
  | m + 1 => by rw [lanesV, List.length_append, lanesV_len G m]; simp; omega
theorem lanesV_at (G : Nat → Nat) : ∀ (m q : Nat), q < m → (lanesV G m)[q * 2]? = some (.pointer (some ⟨G (pr q), 0, none⟩)) ∧ (lanesV G m)[q * 2 + 1]? = some (.pointer (some ⟨G (pr q + 2), 0, none⟩))
  | 0, q, h => by omega
  | m + 1, q, h => by
    have hl := lanesV_len G m
    rw [lanesV]
    by_cases hq : q < m
    · obtain ⟨h1, h2⟩ := lanesV_at G m q hq
      exact ⟨by rw [List.getElem?_append_left (by omega)]; exact h1, by rw [List.getElem?_append_left (by omega)]; exact h2⟩
    · obtain rfl : q = m := by omega
      exact ⟨by rw [List.getElem?_append_right (by omega), hl, Nat.sub_self]; rfl, by rw [List.getElem?_append_right (by omega), hl, Nat.add_sub_cancel_left]; rfl⟩
theorem lanesV_upd (G : Nat → Nat) (x g : Nat) : ∀ m, 2 * m ≤ x → m % 2 = 0 → lanesV (upd G x g) m = lanesV G m := by
  have key : ∀ m, (∀ q, q < m → pr q ≠ x ∧ pr q + 2 ≠ x) → lanesV (upd G x g) m = lanesV G m := by
    intro m
    induction m with
    | zero => intro _; rfl
    | succ m ih =>
      intro h
      obtain ⟨h1, h2⟩ := h m (by omega)
      rw [lanesV, lanesV, ih (fun q hq => h q (by omega)), upd_other _ _ h1, upd_other _ _ h2]
  intro m hm h2
  refine key m (fun q hq => ?_)
  unfold pr
  omega
/-- On the way: j nodes are there. -/
structure NW (w0 w : World) (gf j : Nat) (out inn : Int) (G : Nat → Nat) (M D : Nat → Nat → Prop) (SL : Nat → Prop) (a : Option Addr) (cap : Nat) : Prop where
  fc : w.cell? ⟨gf, 0, none⟩ = some (.slice a (2 * j) cap)
  fz : w.frozen? ⟨gf, 0, none⟩ = false
  lt : gf < w0.heap.size + 2
  ge : w0.heap.size ≤ gf
  sz : w0.heap.size + 2 ≤ w.heap.size
  row : Rw w SL a (2 * j) cap 2 (lanesV G (2 * j))
  many : Many w (4 * j) G M D (Rm out inn) (fun _ => []) (fun k => k = gf ∨ SL k)
  lo : ∀ q, q < 4 * j → ∀ k, M q k ∨ D q k → w0.heap.size + 2 ≤ k
  slo : ∀ k, SL k → w0.heap.size + 2 ≤ k ∧ k < w.heap.size
theorem Rm_j (out inn : Int) (j : Nat) : Rm out inn (4 * j) = out ∧ Rm out inn (4 * j + 1) = out ∧ Rm out inn (4 * j + 2) = inn ∧ Rm out inn (4 * j + 3) = 1 := by
  unfold Rm
  refine ⟨?_, ?_, ?_, ?_⟩
  · rw [if_neg (by omega), if_neg (by omega)]
  · rw [if_neg (by omega), if_neg (by omega)]
  · rw [if_pos (by omega)]
  · rw [if_neg (by omega), if_pos (by omega)]
@[reducible] def one (g : Nat) : Nat → Prop := fun k => k = g
@[reducible] def noM : Nat → Prop := fun _ => False
/-- One node more. -/
theorem NW.grow {w0 w w4 w5 : World} {gf j : Nat} {out inn : Int} {G : Nat → Nat} {M D : Nat → Nat → Prop} {SL : Nat → Prop} {a a' : Option Addr} {cap cap' g1 g2 g3 g4 : Nat} (h : NW w0 w gf j out inn G M D SL a cap) (hb : Below w.heap.size w w4)
    (q1 : Qu w4 g1 (one g1) noM out []) (q2 : Qu w4 g2 (one g2) noM inn []) (q3 : Qu w4 g3 (one g3) noM out []) (q4 : Qu w4 g4 (one g4) noM 1 [])
    (o1 : w.heap.size ≤ g1) (o2 : g1 < g2) (o3 : g2 < g3) (o4 : g3 < g4)
    (hr : Rw w5 (fun k => SL k ∨ w4.heap.size ≤ k) a' (2 * j + 2) cap' 2 (lanesV G (2 * j) ++ [.pointer (some ⟨g1, 0, none⟩), .pointer (some ⟨g2, 0, none⟩), .pointer (some ⟨g3, 0, none⟩), .pointer (some ⟨g4, 0, none⟩)])) (hk : Keep SL w4 w5) :
    ∃ G' M' D', NW w0 (w5.setCell ⟨gf, 0, none⟩ (.slice a' (2 * j + 2) cap')) gf (j + 1) out inn G' M' D' (fun k => SL k ∨ (w4.heap.size ≤ k ∧ k < w5.heap.size)) a' cap' := by
  have sz := h.sz
  have z4 := hb.size
  have z5 := hk.size
  have hlt := h.lt
  have g4lt : g4 < w4.heap.size := q4.old g4 (.inl rfl)
  have hm4 := h.many.below hb
  have hold : ∀ q, q < 4 * j → ∀ k, M q k ∨ D q k → k < w.heap.size := fun q hq k hk => h.many.old hq hk
  have hslo := h.slo
  have nsl : ∀ k, w.heap.size ≤ k → ¬ (k = gf ∨ SL k) := fun k hk hz => by
    rcases hz with rfl | hz
    · omega
    · have := hslo k hz; omega
  obtain ⟨r0, r1, r2, r3⟩ := Rm_j out inn j
  -- the four rows
  have a1 := hm4.add (g := g1) (M' := one g1) (D' := noM) (by rw [r0]; exact q1) (fun q hq k hk h' => by
    have := hold q hq k h'
    have e : k = g1 := hk.resolve_right id
    omega) (fun k hk => by
      have e : k = g1 := hk.resolve_right id
      exact nsl k (by omega))
  have mem1 : ∀ q, q < 4 * j + 1 → ∀ k, upd M (4 * j) (one g1) q k ∨ upd D (4 * j) noM q k → k < w.heap.size ∨ k = g1 := by
    intro q hq k hk
    by_cases e : q = 4 * j
    · subst e; rw [upd_same, upd_same] at hk; exact .inr (hk.resolve_right id)
    · rw [upd_other _ _ e, upd_other _ _ e] at hk; exact .inl (hold q (by omega) k hk)
  have a2 := a1.add (g := g3) (M' := one g3) (D' := noM) (by rw [r1]; exact q3) (fun q hq k hk h' => by
    have := mem1 q hq k h'
    have e : k = g3 := hk.resolve_right id
    omega) (fun k hk => by have e : k = g3 := hk.resolve_right id
                           exact nsl k (by omega))
  have mem2 : ∀ q, q < 4 * j + 1 + 1 → ∀ k, upd (upd M (4 * j) (one g1)) (4 * j + 1) (one g3) q k ∨ upd (upd D (4 * j) noM) (4 * j + 1) noM q k → k < w.heap.size ∨ k = g1 ∨ k = g3 := by
    intro q hq k hk
    by_cases e : q = 4 * j + 1
    · subst e; rw [upd_same, upd_same] at hk; exact .inr (.inr (hk.resolve_right id))
    · rw [upd_other _ _ e, upd_other _ _ e] at hk; exact (mem1 q (by omega) k hk).imp id .inl
  have a3 := a2.add (g := g2) (M' := one g2) (D' := noM) (by show Qu _ _ _ _ (Rm out inn (4 * j + 2)) _; rw [r2]; exact q2) (fun q hq k hk h' => by
    have := mem2 q hq k h'
    have e : k = g2 := hk.resolve_right id
    omega) (fun k hk => by have e : k = g2 := hk.resolve_right id
                           exact nsl k (by omega))
  have mem3 : ∀ q, q < 4 * j + 1 + 1 + 1 → ∀ k, upd (upd (upd M (4 * j) (one g1)) (4 * j + 1) (one g3)) (4 * j + 1 + 1) (one g2) q k ∨ upd (upd (upd D (4 * j) noM) (4 * j + 1) noM) (4 * j + 1 + 1) noM q k → k < w.heap.size ∨ k = g1 ∨ k = g3 ∨ k = g2 := by
    intro q hq k hk
    by_cases e : q = 4 * j + 1 + 1
    · subst e; rw [upd_same, upd_same] at hk; exact .inr (.inr (.inr (hk.resolve_right id)))
    · rw [upd_other _ _ e, upd_other _ _ e] at hk
      rcases mem2 q (by omega) k hk with h1 | h1 | h1
      · exact .inl h1
      · exact .inr (.inl h1)
      · exact .inr (.inr (.inl h1))
  have a4 := a3.add (g := g4) (M' := one g4) (D' := noM) (by show Qu _ _ _ _ (Rm out inn (4 * j + 3)) _; rw [r3]; exact q4) (fun q hq k hk h' => by
    have := mem3 q hq k h'
    have e : k = g4 := hk.resolve_right id
    omega) (fun k hk => by have e : k = g4 := hk.resolve_right id
                           exact nsl k (by omega))
  have a5 := a4.upto (n := 4 * (j + 1)) (by omega)
  generalize hM' : upd (upd (upd (upd M (4 * j) (one g1)) (4 * j + 1) (one g3)) (4 * j + 1 + 1) (one g2)) (4 * j + 1 + 1 + 1) (one g4) = M' at *
  generalize hD' : upd (upd (upd (upd D (4 * j) noM) (4 * j + 1) noM) (4 * j + 1 + 1) noM) (4 * j + 1 + 1 + 1) noM = D' at *
  have mem4 : ∀ q, q < 4 * (j + 1) → ∀ k, M' q k ∨ D' q k → (q < 4 * j ∧ (M q k ∨ D q k)) ∨ (w.heap.size ≤ k ∧ k < w4.heap.size) := by
    intro q hq k hk
    subst hM' hD'
    by_cases e3 : q = 4 * j + 1 + 1 + 1
    · subst e3; rw [upd_same, upd_same] at hk; have e : k = g4 := hk.resolve_right id; exact .inr (by omega)
    rw [upd_other _ _ e3, upd_other _ _ e3] at hk
    by_cases e2 : q = 4 * j + 1 + 1
    · subst e2; rw [upd_same, upd_same] at hk; have e : k = g2 := hk.resolve_right id; exact .inr (by omega)
    rw [upd_other _ _ e2, upd_other _ _ e2] at hk
    by_cases e1 : q = 4 * j + 1
    · subst e1; rw [upd_same, upd_same] at hk; have e : k = g3 := hk.resolve_right id; exact .inr (by omega)
    rw [upd_other _ _ e1, upd_other _ _ e1] at hk
    by_cases e0 : q = 4 * j
    · subst e0; rw [upd_same, upd_same] at hk; have e : k = g1 := hk.resolve_right id; exact .inr (by omega)
    rw [upd_other _ _ e0, upd_other _ _ e0] at hk
    exact .inl ⟨by omega, hk⟩
  have nz5 : ∀ q, q < 4 * (j + 1) → ∀ k, M' q k ∨ D' q k → ¬ (SL k ∨ k = gf) ∧ k < w4.heap.size ∧ w0.heap.size + 2 ≤ k := by
    intro q hq k hk
    rcases mem4 q hq k hk with ⟨hq', hk'⟩ | hk'
    · have h1 := h.many.nz q hq' k hk'
      have h2 := hold q hq' k hk'
      have h3 := h.lo q hq' k hk'
      exact ⟨fun h => h1 (h.elim .inr .inl), by omega, h3⟩
    · have h1 := nsl k hk'.1
      exact ⟨fun h => h1 (h.elim .inr .inl), hk'.2, by omega⟩
  have k6 := Keep.one w5 gf 0 (.slice a' (2 * j + 2) cap')
  have ngs : ¬ SL gf := fun hs => by have := hslo gf hs; omega
  have a6 := (a5.keep hk (fun q hq k hk' hs => (nz5 q hq k hk').1 (.inl hs))).keep k6 (fun q hq k hk' e => (nz5 q hq k hk').1 (.inr e))
  refine ⟨_, M', D', ⟨?_, ?_, h.lt, h.ge, by rw [World.size_setCell]; omega, ?_, a6.zz (fun q hq k hk' hz => ?_), fun q hq k hk' => (nz5 q hq k hk').2.2, fun k hk' => ?_⟩⟩
  · have hc : w5.cell? ⟨gf, 0, none⟩ = some (.slice a (2 * j) cap) := by rw [hk.cell 0 (by omega) ngs, hb.cell (p := ⟨gf, 0, none⟩) (by simp only; omega)]; exact h.fc
    rw [World.cell?_setCell_same _ _ _ hc]
    rfl
  · rw [World.frozen?_setCell, hk.frozen 0 (by omega) ngs, hb.frozen (p := ⟨gf, 0, none⟩) (by simp only; omega)]; exact h.fz
  · have e : lanesV (upd (upd (upd (upd G (4 * j) g1) (4 * j + 1) g3) (4 * j + 1 + 1) g2) (4 * j + 1 + 1 + 1) g4) (2 * (j + 1)) = lanesV G (2 * j) ++ [.pointer (some ⟨g1, 0, none⟩), .pointer (some ⟨g2, 0, none⟩), .pointer (some ⟨g3, 0, none⟩), .pointer (some ⟨g4, 0, none⟩)] := by
      have p1 : pr (2 * j) = 4 * j := by unfold pr; omega
      have p2 : pr (2 * j + 1) = 4 * j + 1 := by unfold pr; omega
      rw [show 2 * (j + 1) = 2 * j + 1 + 1 by omega, lanesV, lanesV, p1, p2, lanesV_upd _ _ _ _ (by omega) (by omega), lanesV_upd _ _ _ _ (by omega) (by omega), lanesV_upd _ _ _ _ (by omega) (by omega), lanesV_upd _ _ _ _ (by omega) (by omega), List.append_assoc]
      have v0 : (upd (upd (upd (upd G (4 * j) g1) (4 * j + 1) g3) (4 * j + 1 + 1) g2) (4 * j + 1 + 1 + 1) g4) (4 * j) = g1 := by rw [upd_other _ _ (by omega), upd_other _ _ (by omega), upd_other _ _ (by omega), upd_same]
      have v1 : (upd (upd (upd (upd G (4 * j) g1) (4 * j + 1) g3) (4 * j + 1 + 1) g2) (4 * j + 1 + 1 + 1) g4) (4 * j + 1) = g3 := by rw [upd_other _ _ (by omega), upd_other _ _ (by omega), upd_same]
      have v2 : (upd (upd (upd (upd G (4 * j) g1) (4 * j + 1) g3) (4 * j + 1 + 1) g2) (4 * j + 1 + 1 + 1) g4) (4 * j + 2) = g2 := by rw [upd_other _ _ (by omega)]; exact upd_same _ (4 * j + 1 + 1) _
      have v3 : (upd (upd (upd (upd G (4 * j) g1) (4 * j + 1) g3) (4 * j + 1 + 1) g2) (4 * j + 1 + 1 + 1) g4) (4 * j + 1 + 2) = g4 := upd_same _ (4 * j + 1 + 1 + 1) _
      rw [v0, v1, v2, v3]
      rfl
    rw [e, show 2 * (j + 1) = 2 * j + 2 by omega]
    exact (hr.imp (T := fun k => SL k ∨ (w4.heap.size ≤ k ∧ k < w5.heap.size)) (fun k hk h => h.imp id (fun h => ⟨h, hk⟩))).keep k6 (fun k hk' e => by
      subst e
      rcases hk' with hk' | hk'
      · exact ngs hk'
      · omega)
  · have := nz5 q hq k hk'
    rcases hz with hz | hz | hz
    · exact this.1 (.inr hz)
    · exact this.1 (.inl hz)
    · omega
  · rw [World.size_setCell]
    rcases hk' with hk' | hk'
    · have := hslo k hk'; omega
    · omega
/-- All nodes are there. -/
theorem NW.done {w0 w : World} {gf nn : Nat} {out inn : Int} {G : Nat → Nat} {M D : Nat → Nat → Prop} {SL : Nat → Prop} {a : Option Addr} {cap : Nat} (h : NW w0 w gf nn out inn G M D SL a cap) (n0 : 1 ≤ nn) (n1 : nn ≤ 6) (o0 : 1 ≤ out) (o1 : out ≤ 1000) (i0 : 1 ≤ inn) (i1 : inn ≤ 1000) :
    ∃ B, Fb w gf nn out inn (fun _ => []) B ∧ ∀ k, B k → w0.heap.size ≤ k := by
  have sz := h.sz
  have hlt := h.lt
  have hge := h.ge
  rcases h.row.row with hr | ⟨b, o, rfl, hs, hb, hc, hf⟩
  · have := h.row.le; omega
  have hsb := h.slo b hs
  refine ⟨fun k => k = gf ∨ k = b ∨ ∃ q, q < 4 * nn ∧ (M q k ∨ D q k), ⟨b, o, cap, G, M, D, ⟨h.fc, fun q hq => ?_, fun q hq => ?_, ⟨h.row.le, h.row.max⟩, h.many.zz (fun q hq k hk hz => ?_), fun q _ x hx => (by cases hx), fun q hq => ?_, fun q hq k hk => .inr (.inr ⟨q, hq, hk⟩), .inl rfl, .inr (.inl rfl), fun k hk => ?_, n0, n1, o0, o1, i0, i1⟩⟩, fun k hk => ?_⟩
  · exact hc _ _ (lanesV_at G _ q hq).1
  · have := hc _ _ (lanesV_at G _ q hq).2
    rw [Nat.add_assoc]; exact this
  · refine h.many.nz q hq k hk ?_
    rcases hz with hz | rfl
    · exact .inl hz
    · exact .inr hs
  · unfold Rm; simp; repeat (first | omega | split)
  · rcases hk with rfl | rfl | ⟨q, hq, hk⟩
    · omega
    · omega
    · exact h.many.old hq hk
  · rcases hk with rfl | rfl | ⟨q, hq, hk⟩
    · omega
    · omega
    · have := h.lo q hq k hk; omega
end Go.Proofs.Ytjdbjmfkheffdaa
end
section
namespace Go.Proofs.Ytjdbjmfkheffdaa
open Go.RowKit
set_option linter.unusedVariables false
set_option maxRecDepth 20000

theorem Try.infoLane : (Try.prog.info? 71).map (fun i => (i.zero, i.size, i.bytes)) = some (some (.agg #[.pointer none, .pointer none]), 2, 16) := by kernel_rfl
/-- A lane's variable in memory. -/
structure Lb (w : World) (g : Nat) (p q : Option Addr) : Prop where
  c0 : w.cell? ⟨g, 0, none⟩ = some (.pointer p)
  c1 : w.cell? ⟨g, 1, none⟩ = some (.pointer q)
  fz : ∀ o, w.frozen? ⟨g, o, none⟩ = false
  lt : g < w.heap.size
theorem Lb.made (w : World) (p q : Option Addr) : Lb (w.alloc (.cells #[.pointer p, .pointer q] 71)) w.heap.size p q := by constructor <;> simp
theorem Lb.next {w w' : World} {g : Nat} {p q : Option Addr} (h : Lb w g p q) (hb : Below w.heap.size w w') : Lb w' g p q :=
  ⟨(hb.cell (p := ⟨g, 0, none⟩) h.lt).trans h.c0, (hb.cell (p := ⟨g, 1, none⟩) h.lt).trans h.c1, fun o => (hb.frozen (p := ⟨g, o, none⟩) h.lt).trans (h.fz o), Nat.lt_of_lt_of_le h.lt hb.size⟩
theorem Lb.stored {w : World} {g : Nat} {p q : Option Addr} (h : Lb w g p q) (p' q' : Option Addr) : Lb ((w.setCell ⟨g, 0, none⟩ (.pointer p')).setCell ⟨g, 1, none⟩ (.pointer q')) g p' q' ∧ Keep (fun k => k = g) w ((w.setCell ⟨g, 0, none⟩ (.pointer p')).setCell ⟨g, 1, none⟩ (.pointer q')) := by
  obtain ⟨c0, c1, fz, lt⟩ := h
  refine ⟨?_, ((Keep.refl (fun k => k = g) w).setCell (.inl rfl) _).setCell (.inl rfl) _⟩
  constructor <;> (try intro o) <;> go_simp
set_option maxHeartbeats 4000000 in
theorem fnew_any (w : World) (N L K S Y O I : Nat) (t : Value) (ht : t.oneCell' = true) (n0 : 1 ≤ N) (n1 : N ≤ 6) (o0 : 1 ≤ O) (o1 : O ≤ 1000) (i0 : 1 ≤ I) (i1 : I ≤ 1000) :
    Calls Try.prog 9 #[.agg #[.int .i64 (N : Int), .int .i64 (L : Int), .int .i64 (K : Int), .int .i64 (S : Int), .int .i64 (Y : Int), .int .i64 (O : Int), .int .i64 (I : Int), t]] w fun e w' => ∃ gf B, e = .returned (.pointer (some ⟨gf, 0, none⟩)) ∧ Below w.heap.size w w' ∧ Fb w' gf N O I (fun _ => []) B ∧ ∀ k, B k → w.heap.size ≤ k := by
  have HO : Hid (max (O : Int) 0 = (O : Int)) := Int.max_eq_left (by omega)
  have HI : Hid (max (I : Int) 0 = (I : Int)) := Int.max_eq_left (by omega)
  have H1 : Hid (max (1 : Int) 0 = 1) := Int.max_eq_left (by omega)
  have HC : Hid (1 ≤ N ∧ N ≤ 6 ∧ (1 : Int) ≤ O ∧ (O : Int) ≤ 1000 ∧ (1 : Int) ≤ I ∧ (I : Int) ≤ 1000) := ⟨n0, n1, by omega, by omega, by omega, by omega⟩
  clear n0 o0 o1 i0 i1
  go_enter Try.func9, Try.ntmps9
  go_wp2_with fail
  go_loopw [10] (fun i wr => ∃ (j : Nat) (G : Nat → Nat) (M D : Nat → Nat → Prop) (SL : Nat → Prop) (a : Option Addr) (cap : Nat), j ≤ N ∧ i = .int .i64 j ∧ NW w wr (w.heap.size + 1) j O I G M D SL a cap ∧ wr.cell? ⟨w.heap.size, 5, none⟩ = some (.int .i64 (O : Int)) ∧ wr.cell? ⟨w.heap.size, 6, none⟩ = some (.int .i64 (I : Int)) ∧ Below w.heap.size w wr) (fun i _ => N - (intOf i).toNat)
  case atStart =>
    refine ⟨0, fun _ => 0, fun _ _ => False, fun _ _ => False, fun _ => False, none, 0, by omega, rfl, ⟨?_, ?_, by omega, by omega, by simp, rw_nil _ _ _, ⟨fun q hq => by omega, fun q _ hq => by omega, fun q hq => by omega⟩, fun q hq => by omega, fun k hk => hk.elim⟩, ?_, ?_, ?_⟩
    · simp
    · simp
    · simp
    · simp
    · exact ba (ba (Below.refl _ _))
  case round =>
    obtain ⟨j, G, M, D, SL, a, cap, hj, rfl, hN, c5, c6, hbw⟩ := hrel
    have sz := hN.sz
    by_cases hlt : j < N
    · have lc : w.heap.size < wr.heap.size := by omega
      go_upto_region 4 with fail
      go_cut [4] (fun v wx => ∃ g1 g2 gR : Nat, v = .pointer (some ⟨gR, 0, none⟩) ∧ Lb wx gR (some ⟨g1, 0, none⟩) (some ⟨g2, 0, none⟩) ∧ Qu wx g1 (one g1) noM O [] ∧ Qu wx g2 (one g2) noM I [] ∧ wr.heap.size ≤ g1 ∧ g1 < g2 ∧ Below wr.heap.size wr wx)
      case first =>
        have uc := @Up.cell2
        have uf := @Up.frozen2
        refine wp_region_mild 9 rfl (by kernel_rfl) ?_
        refine mild_take (v := ?v501) 0 rfl (by kernel_rfl) (by kernel_rfl) (by kernel_rfl) (fun _ _ _ h => h) (by kernel_rfl) (fun Wu K hK => ?hy501) ?go501
        case hy501 =>
          go_big_quiet_op
          simp only [Act.put, List.setIfInBounds_toArray, List.set_cons_zero, List.set_cons_succ] at hK
          exact hK
        simp only [Act.put, List.setIfInBounds_toArray, List.set_cons_zero, List.set_cons_succ]
        refine mild_take (v := ?v502) 1 rfl (by kernel_rfl) (by kernel_rfl) (by kernel_rfl) (fun _ _ _ h => h) (by kernel_rfl) (fun Wu K hK => ?hy502) ?go502
        case hy502 =>
          go_big_quiet_op
          simp only [Act.put, List.setIfInBounds_toArray, List.set_cons_zero, List.set_cons_succ] at hK
          exact hK
        simp only [Act.put, List.setIfInBounds_toArray, List.set_cons_zero, List.set_cons_succ]
        refine mild_take (v := ?v503) 3 rfl (by kernel_rfl) (by kernel_rfl) (by kernel_rfl) (fun _ _ _ h => h) (by kernel_rfl) (fun Wu K hK => ?hy503) ?go503
        case hy503 =>
          go_big_quiet_op
          simp only [Act.put, List.setIfInBounds_toArray, List.set_cons_zero, List.set_cons_succ] at hK
          exact hK
        simp only [Act.put, List.setIfInBounds_toArray, List.set_cons_zero, List.set_cons_succ]
        refine mild_take (v := ?v504) 4 rfl (by kernel_rfl) (by kernel_rfl) (by kernel_rfl) (fun _ _ _ h => h) (by kernel_rfl) (fun Wu K hK => ?hy504) ?go504
        case hy504 =>
          go_big_quiet_op
          simp only [Act.put, List.setIfInBounds_toArray, List.set_cons_zero, List.set_cons_succ] at hK
          exact hK
        simp only [Act.put, List.setIfInBounds_toArray, List.set_cons_zero, List.set_cons_succ]
        intro W
        clear uc uf
        have hB0 := W.2
        generalize W.1 = w0 at *
        refine up_two 2 7 (by kernel_rfl) rfl rfl ?_ ?_
        · go_wp2_with (go_at_call 29; refine (P.new_any _ _).mono ?_; rintro e ww ⟨rfl, hb, hq⟩; rw [HO.out] at hq)
          refine ⟨by exact next hB0 hb, fun u => ?_⟩
          have hU : Below w0.heap.size w0 u.1 := next hb u.2
          have q1_1 := hq.below u.2
          have o1 : wr.heap.size ≤ w0.heap.size := hB0.size
          have p1 : w0.heap.size < u.1.heap.size := (hq.below u.2).old _ (.inl rfl)
          have hB1 := next hB0 hU
          have zz1 := hU.size
          generalize u.1 = w1 at *
          clear hB0 hU hq hb
          refine up_two 5 7 (by kernel_rfl) rfl rfl ?_ ?_
          · go_wp2_with (go_at_call 30; refine (new_any _ _).mono ?_; rintro e ww ⟨rfl, hb, hq⟩; rw [HI.out] at hq)
            refine ⟨by exact next hB1 hb, fun u => ?_⟩
            have hU : Below w1.heap.size w1 u.1 := next hb u.2
            have q2_2 := hq.below u.2
            have o2 : w0.heap.size < w1.heap.size := by omega
            have p2 : w1.heap.size < u.1.heap.size := (hq.below u.2).old _ (.inl rfl)
            have hB2 := next hB1 hU
            have zz2 := hU.size
            have q1_2 := q1_1.below hU
            generalize u.1 = w2 at *
            clear hB1 hU hq hb q1_1
            refine up_two 6 7 (by kernel_rfl) rfl rfl ?_ ?_
            · go_wp2
              refine ⟨by exact hB2, fun u => ?_⟩
              have hU : Below w2.heap.size w2 u.1 := u.2
              have hB3 := next hB2 hU
              have zz3 := hU.size
              have q1_3 := q1_2.below hU
              have q2_3 := q2_2.below hU
              generalize u.1 = w3 at *
              clear hB2 hU q1_2 q2_2
              refine up_list 7 (by kernel_rfl) rfl ?_
              go_wp2
              refine ⟨by exact ba hB3, fun u => ?_⟩
              have hU : Below w3.heap.size w3 u.1 := next (ba (Below.refl _ _)) u.2
              have lb_4 := (Lb.made w3 none none).next (by exact u.2)
              have oR : wr.heap.size ≤ w3.heap.size := hB3.size
              have pR : w3.heap.size < u.1.heap.size := lb_4.lt
              have hB4 := next hB3 hU
              have zz4 := hU.size
              have q1_4 := q1_3.below hU
              have q2_4 := q2_3.below hU
              generalize u.1 = w4 at *
              clear hB3 hU q1_3 q2_3
              obtain ⟨l0, l1, lf, ll⟩ := id lb_4
              refine up_list 8 (by kernel_rfl) rfl ?_
              go_wp2
              refine ⟨(hB4.setCell (by simp only; omega) _).setCell (by simp only; omega) _, fun u => ?_⟩
              have kk := Lb.stored lb_4 (some ⟨w0.heap.size, 0, none⟩) (some ⟨w1.heap.size, 0, none⟩)
              have hU := u.2
              have lb_5 := kk.1.next hU
              have q1_5 := (q1_4.keep kk.2 (fun x hx e => by have : x = w0.heap.size := hx.resolve_right id; omega)).below hU
              have q2_5 := (q2_4.keep kk.2 (fun x hx e => by have : x = w1.heap.size := hx.resolve_right id; omega)).below hU
              have hB5 := next ((hB4.setCell (p := ⟨w3.heap.size, 0, none⟩) (by simp only; omega) (.pointer (some ⟨w0.heap.size, 0, none⟩))).setCell (p := ⟨w3.heap.size, 1, none⟩) (by simp only; omega) (.pointer (some ⟨w1.heap.size, 0, none⟩))) hU
              clear l0 l1 lf ll
              generalize u.1 = w5 at *
              refine up_done (by kernel_rfl) ?_
              go_wp2
              go_meet
              case rel => exact ⟨_, _, _, rfl, lb_5, q1_5, q2_5, o1, o2, hB5⟩
            · go_wp2
              refine ⟨by exact ba hB2, fun u => ?_⟩
              have hU : Below w2.heap.size w2 u.1 := next (ba (Below.refl _ _)) u.2
              have lb_3 := (Lb.made w2 none none).next (by exact u.2)
              have oR : wr.heap.size ≤ w2.heap.size := hB2.size
              have pR : w2.heap.size < u.1.heap.size := lb_3.lt
              have hB3 := next hB2 hU
              have zz3 := hU.size
              have q1_3 := q1_2.below hU
              have q2_3 := q2_2.below hU
              generalize u.1 = w3 at *
              clear hB2 hU q1_2 q2_2
              refine up_list 6 (by kernel_rfl) rfl ?_
              go_wp2
              refine ⟨by exact hB3, fun u => ?_⟩
              have hU : Below w3.heap.size w3 u.1 := u.2
              have hB4 := next hB3 hU
              have zz4 := hU.size
              have q1_4 := q1_3.below hU
              have q2_4 := q2_3.below hU
              have lb_4 := lb_3.next hU
              generalize u.1 = w4 at *
              clear hB3 hU q1_3 q2_3 lb_3
              obtain ⟨l0, l1, lf, ll⟩ := id lb_4
              refine up_list 8 (by kernel_rfl) rfl ?_
              go_wp2
              refine ⟨(hB4.setCell (by simp only; omega) _).setCell (by simp only; omega) _, fun u => ?_⟩
              have kk := Lb.stored lb_4 (some ⟨w0.heap.size, 0, none⟩) (some ⟨w1.heap.size, 0, none⟩)
              have hU := u.2
              have lb_5 := kk.1.next hU
              have q1_5 := (q1_4.keep kk.2 (fun x hx e => by have : x = w0.heap.size := hx.resolve_right id; omega)).below hU
              have q2_5 := (q2_4.keep kk.2 (fun x hx e => by have : x = w1.heap.size := hx.resolve_right id; omega)).below hU
              have hB5 := next ((hB4.setCell (p := ⟨w2.heap.size, 0, none⟩) (by simp only; omega) (.pointer (some ⟨w0.heap.size, 0, none⟩))).setCell (p := ⟨w2.heap.size, 1, none⟩) (by simp only; omega) (.pointer (some ⟨w1.heap.size, 0, none⟩))) hU
              clear l0 l1 lf ll
              generalize u.1 = w5 at *
              refine up_done (by kernel_rfl) ?_
              go_wp2
              go_meet
              case rel => exact ⟨_, _, _, rfl, lb_5, q1_5, q2_5, o1, o2, hB5⟩
          · go_wp2
            refine ⟨by exact ba hB1, fun u => ?_⟩
            have hU : Below w1.heap.size w1 u.1 := next (ba (Below.refl _ _)) u.2
            have lb_2 := (Lb.made w1 none none).next (by exact u.2)
            have oR : wr.heap.size ≤ w1.heap.size := hB1.size
            have pR : w1.heap.size < u.1.heap.size := lb_2.lt
            have hB2 := next hB1 hU
            have zz2 := hU.size
            have q1_2 := q1_1.below hU
            generalize u.1 = w2 at *
            clear hB1 hU q1_1
            refine up_list 5 (by kernel_rfl) rfl ?_
            go_wp2_with (go_at_call 30; refine (new_any _ _).mono ?_; rintro e ww ⟨rfl, hb, hq⟩; rw [HI.out] at hq)
            refine ⟨by exact next hB2 hb, fun u => ?_⟩
            have hU : Below w2.heap.size w2 u.1 := next hb u.2
            have q2_3 := hq.below u.2
            have o2 : w0.heap.size < w2.heap.size := by omega
            have p2 : w2.heap.size < u.1.heap.size := (hq.below u.2).old _ (.inl rfl)
            have hB3 := next hB2 hU
            have zz3 := hU.size
            have q1_3 := q1_2.below hU
            have lb_3 := lb_2.next hU
            generalize u.1 = w3 at *
            clear hB2 hU hq hb q1_2 lb_2
            refine up_list 6 (by kernel_rfl) rfl ?_
            go_wp2
            refine ⟨by exact hB3, fun u => ?_⟩
            have hU : Below w3.heap.size w3 u.1 := u.2
            have hB4 := next hB3 hU
            have zz4 := hU.size
            have q1_4 := q1_3.below hU
            have q2_4 := q2_3.below hU
            have lb_4 := lb_3.next hU
            generalize u.1 = w4 at *
            clear hB3 hU q1_3 q2_3 lb_3
            obtain ⟨l0, l1, lf, ll⟩ := id lb_4
            refine up_list 8 (by kernel_rfl) rfl ?_
            go_wp2
            refine ⟨(hB4.setCell (by simp only; omega) _).setCell (by simp only; omega) _, fun u => ?_⟩
            have kk := Lb.stored lb_4 (some ⟨w0.heap.size, 0, none⟩) (some ⟨w2.heap.size, 0, none⟩)
            have hU := u.2
            have lb_5 := kk.1.next hU
            have q1_5 := (q1_4.keep kk.2 (fun x hx e => by have : x = w0.heap.size := hx.resolve_right id; omega)).below hU
            have q2_5 := (q2_4.keep kk.2 (fun x hx e => by have : x = w2.heap.size := hx.resolve_right id; omega)).below hU
            have hB5 := next ((hB4.setCell (p := ⟨w1.heap.size, 0, none⟩) (by simp only; omega) (.pointer (some ⟨w0.heap.size, 0, none⟩))).setCell (p := ⟨w1.heap.size, 1, none⟩) (by simp only; omega) (.pointer (some ⟨w2.heap.size, 0, none⟩))) hU
            clear l0 l1 lf ll
            generalize u.1 = w5 at *
            refine up_done (by kernel_rfl) ?_
            go_wp2
            go_meet
            case rel => exact ⟨_, _, _, rfl, lb_5, q1_5, q2_5, o1, o2, hB5⟩
        · go_wp2
          refine ⟨by exact ba hB0, fun u => ?_⟩
          have hU : Below w0.heap.size w0 u.1 := next (ba (Below.refl _ _)) u.2
          have lb_1 := (Lb.made w0 none none).next (by exact u.2)
          have oR : wr.heap.size ≤ w0.heap.size := hB0.size
          have pR : w0.heap.size < u.1.heap.size := lb_1.lt
          have hB1 := next hB0 hU
          have zz1 := hU.size
          generalize u.1 = w1 at *
          clear hB0 hU
          refine up_list 2 (by kernel_rfl) rfl ?_
          go_wp2_with (go_at_call 29; refine (P.new_any _ _).mono ?_; rintro e ww ⟨rfl, hb, hq⟩; rw [HO.out] at hq)
          refine ⟨by exact next hB1 hb, fun u => ?_⟩
          have hU : Below w1.heap.size w1 u.1 := next hb u.2
          have q1_2 := hq.below u.2
          have o1 : wr.heap.size ≤ w1.heap.size := hB1.size
          have p1 : w1.heap.size < u.1.heap.size := (hq.below u.2).old _ (.inl rfl)
          have hB2 := next hB1 hU
          have zz2 := hU.size
          have lb_2 := lb_1.next hU
          generalize u.1 = w2 at *
          clear hB1 hU hq hb lb_1
          refine up_list 5 (by kernel_rfl) rfl ?_
          go_wp2_with (go_at_call 30; refine (new_any _ _).mono ?_; rintro e ww ⟨rfl, hb, hq⟩; rw [HI.out] at hq)
          refine ⟨by exact next hB2 hb, fun u => ?_⟩
          have hU : Below w2.heap.size w2 u.1 := next hb u.2
          have q2_3 := hq.below u.2
          have o2 : w1.heap.size < w2.heap.size := by omega
          have p2 : w2.heap.size < u.1.heap.size := (hq.below u.2).old _ (.inl rfl)
          have hB3 := next hB2 hU
          have zz3 := hU.size
          have q1_3 := q1_2.below hU
          have lb_3 := lb_2.next hU
          generalize u.1 = w3 at *
          clear hB2 hU hq hb q1_2 lb_2
          refine up_list 6 (by kernel_rfl) rfl ?_
          go_wp2
          refine ⟨by exact hB3, fun u => ?_⟩
          have hU : Below w3.heap.size w3 u.1 := u.2
          have hB4 := next hB3 hU
          have zz4 := hU.size
          have q1_4 := q1_3.below hU
          have q2_4 := q2_3.below hU
          have lb_4 := lb_3.next hU
          generalize u.1 = w4 at *
          clear hB3 hU q1_3 q2_3 lb_3
          obtain ⟨l0, l1, lf, ll⟩ := id lb_4
          refine up_list 8 (by kernel_rfl) rfl ?_
          go_wp2
          refine ⟨(hB4.setCell (by simp only; omega) _).setCell (by simp only; omega) _, fun u => ?_⟩
          have kk := Lb.stored lb_4 (some ⟨w1.heap.size, 0, none⟩) (some ⟨w2.heap.size, 0, none⟩)
          have hU := u.2
          have lb_5 := kk.1.next hU
          have q1_5 := (q1_4.keep kk.2 (fun x hx e => by have : x = w1.heap.size := hx.resolve_right id; omega)).below hU
          have q2_5 := (q2_4.keep kk.2 (fun x hx e => by have : x = w2.heap.size := hx.resolve_right id; omega)).below hU
          have hB5 := next ((hB4.setCell (p := ⟨w0.heap.size, 0, none⟩) (by simp only; omega) (.pointer (some ⟨w1.heap.size, 0, none⟩))).setCell (p := ⟨w0.heap.size, 1, none⟩) (by simp only; omega) (.pointer (some ⟨w2.heap.size, 0, none⟩))) hU
          clear l0 l1 lf ll
          generalize u.1 = w5 at *
          refine up_done (by kernel_rfl) ?_
          go_wp2
          go_meet
          case rel => exact ⟨_, _, _, rfl, lb_5, q1_5, q2_5, o1, o2, hB5⟩
      case rest =>
        obtain ⟨g1, g2, gR, rfl, hlb, q1, q2, o1, o2, hb1⟩ := hcut
        have zx := hb1.size
        have d5 : wc.cell? ⟨w.heap.size, 5, none⟩ = some (.int .i64 (O : Int)) := ((bcell hb1).1 _ 5 lc).trans c5
        have d6 : wc.cell? ⟨w.heap.size, 6, none⟩ = some (.int .i64 (I : Int)) := ((bcell hb1).1 _ 6 lc).trans c6
        have lcx : w.heap.size < wc.heap.size := by omega
        go_upto_region 6 with (first
          | (go_at_call 29; refine (P.new_any _ _).mono ?_; rintro e w2 ⟨rfl, hb2, hq3⟩; rw [HO.out] at hq3)
          | (go_at_call 30; refine (new_any _ _).mono ?_; rintro e w3 ⟨rfl, hb3, hq4⟩; rw [H1.out] at hq4))
        obtain ⟨g3, hg3⟩ : ∃ g, wc.heap.size = g := ⟨_, rfl⟩
        obtain ⟨g4, hg4⟩ : ∃ g, w2.heap.size = g := ⟨_, rfl⟩
        have o3 : g2 < g3 := by have := q2.old g2 (.inl rfl); omega
        have o4 : g3 < g4 := by have := hq3.old _ (.inl rfl); omega
        have lbA := Lb.made w3 (some ⟨wc.heap.size, 0, none⟩) (some ⟨w2.heap.size, 0, none⟩)
        have hup := ba (o := .cells #[.pointer (some ⟨wc.heap.size, 0, none⟩), .pointer (some ⟨w2.heap.size, 0, none⟩)] 71) (next hb2 hb3)
        have lbR := hlb.next hup
        have Q1 := q1.below hup
        have Q2 := q2.below hup
        have Q3 := hq3.below (ba (o := .cells #[.pointer (some ⟨wc.heap.size, 0, none⟩), .pointer (some ⟨w2.heap.size, 0, none⟩)] 71) hb3)
        have Q4 := hq4.below (ba (o := .cells #[.pointer (some ⟨wc.heap.size, 0, none⟩), .pointer (some ⟨w2.heap.size, 0, none⟩)] 71) (Below.refl _ _))
        have hB := next hb1 hup
        clear hup hb1 hb2 hb3 hq3 hq4 q1 q2 hlb d5 d6 lcx zx
        rw [hg3, hg4] at *
        generalize w3.alloc (.cells #[.pointer (some ⟨g3, 0, none⟩), .pointer (some ⟨g4, 0, none⟩)] 71) = W4 at *
        generalize w3.heap.size = gA at *
        refine wp_region_orders 12 rfl (by kernel_rfl) ?_
        have hdr : Below W4.heap.size W4 W4.drew := (Below.refl _ _).drew
        replace lbA := lbA.next hdr
        replace lbR := lbR.next hdr
        replace Q1 := Q1.below hdr
        replace Q2 := Q2.below hdr
        replace Q3 := Q3.below hdr
        replace Q4 := Q4.below hdr
        replace hB := next hB hdr
        clear hdr
        generalize W4.drew = wd at *
        obtain ⟨lA0, lA1, lAf, lAl⟩ := id lbA
        obtain ⟨lR0, lR1, lRf, lRl⟩ := id lbR
        have lgf : w.heap.size + 1 < wr.heap.size := by omega
        have fcd : wd.cell? ⟨w.heap.size + 1, 0, none⟩ = some (.slice a (2 * j) cap) := ((bcell hB).1 _ 0 lgf).trans hN.fc
        have lgd : w.heap.size + 1 < wd.heap.size := by have := hB.size; omega
        have uc := @Up.cell2
        have uf := @Up.frozen2
        refine any_take 0 (.pointer (some ⟨w.heap.size + 1, 0, none⟩)) rfl (by kernel_rfl) (by kernel_rfl) (by kernel_rfl) (fun _ _ _ h => h) (by kernel_rfl) (fun w => by go_simp) ?_
        simp only [Act.put, List.setIfInBounds_toArray, List.set_cons_zero, List.set_cons_succ]
        refine any_take 1 (.pointer (some ⟨w.heap.size + 1, 0, none⟩)) rfl (by kernel_rfl) (by kernel_rfl) (by kernel_rfl) (fun _ _ _ h => h) (by kernel_rfl) (fun w => by go_simp) ?_
        simp only [Act.put, List.setIfInBounds_toArray, List.set_cons_zero, List.set_cons_succ]
        refine any_take 2 (.pointer (some ⟨w.heap.size + 1, 0, none⟩)) rfl (by kernel_rfl) (by kernel_rfl) (by kernel_rfl) (fun _ _ _ h => h) (by kernel_rfl) (fun w => by go_simp) ?_
        simp only [Act.put, List.setIfInBounds_toArray, List.set_cons_zero, List.set_cons_succ]
        refine any_take 3 (.pointer (some ⟨w.heap.size + 1, 0, none⟩)) rfl (by kernel_rfl) (by kernel_rfl) (by kernel_rfl) (fun _ _ _ h => h) (by kernel_rfl) (fun w => by go_simp) ?_
        simp only [Act.put, List.setIfInBounds_toArray, List.set_cons_zero, List.set_cons_succ]
        refine any_mildx [8, 9, 10, 11] ?_
        refine mildy_take (v := ?v1) [8, 9, 10, 11] 4 rfl (by kernel_rfl) (by kernel_rfl) (by kernel_rfl) (by kernel_rfl) (by kernel_rfl) (fun _ _ _ h => h) (by kernel_rfl) (fun Wu K hK => ?hy1) ?go1
        case hy1 =>
          go_big_quiet_op
          simp only [Act.put, List.setIfInBounds_toArray, List.set_cons_zero, List.set_cons_succ] at hK
          exact hK
        simp only [Act.put, List.setIfInBounds_toArray, List.set_cons_zero, List.set_cons_succ]
        refine mildy_take (v := ?v2) [7, 8, 9, 10, 11] 5 rfl (by kernel_rfl) (by kernel_rfl) (by kernel_rfl) (by kernel_rfl) (by kernel_rfl) (fun _ _ _ h => h) (by kernel_rfl) (fun Wu K hK => ?hy2) ?go2
        case hy2 =>
          go_big_quiet_op
          simp only [Act.put, List.setIfInBounds_toArray, List.set_cons_zero, List.set_cons_succ] at hK
          exact hK
        simp only [Act.put, List.setIfInBounds_toArray, List.set_cons_zero, List.set_cons_succ]
        refine mildy_take (v := ?v3) [7, 8, 9, 10, 11] 6 rfl (by kernel_rfl) (by kernel_rfl) (by kernel_rfl) (by kernel_rfl) (by kernel_rfl) (fun _ _ _ h => h) (by kernel_rfl) (fun Wu K hK => ?hy3) ?go3
        case hy3 =>
          go_big_quiet_op
          simp only [Act.put, List.setIfInBounds_toArray, List.set_cons_zero, List.set_cons_succ] at hK
          exact hK
        simp only [Act.put, List.setIfInBounds_toArray, List.set_cons_zero, List.set_cons_succ]
        intro W
        clear uc uf
        have hW := W.2
        clear lA0 lA1 lAf lAl lR0 lR1 lRf lRl fcd lgd lbA lbR
        generalize W.1 = wa at *
        refine upx_list 7 (by kernel_rfl) rfl ?_
        go_wp2
        refine ⟨ba hW, fun u => ?_⟩
        have hU := u.2
        have hU4 : Below wr.heap.size wr u.1 := next (next hB hW) (next (ba (Below.refl _ _)) hU)
        have hU3 : Below wd.heap.size wd u.1 := next hW (next (ba (Below.refl _ _)) hU)
        have news : ∀ i v, ([.pointer (some ⟨g1, 0, none⟩), .pointer (some ⟨g2, 0, none⟩), .pointer (some ⟨g3, 0, none⟩), .pointer (some ⟨g4, 0, none⟩)] : List Value)[i]? = some v → u.1.cell? ((⟨wa.heap.size, 0, none⟩ : Addr).add i) = some v := by
          intro i v hv
          rw [Addr.add_lit, Nat.zero_add]
          have hi : i < 4 := (List.getElem?_eq_some_iff.1 hv).1
          rw [hU.cell (p := ⟨wa.heap.size, i, none⟩) (by simp)]
          match i, hi with
          | 0, _ => rw [← hv]; simp
          | 1, _ => rw [← hv]; simp
          | 2, _ => rw [← hv]; simp
          | 3, _ => rw [← hv]; simp
        replace Q1 := Q1.below hU3
        replace Q2 := Q2.below hU3
        replace Q3 := Q3.below hU3
        replace Q4 := Q4.below hU3
        have fc4 : u.1.cell? ⟨w.heap.size + 1, 0, none⟩ = some (.slice a (2 * j) cap) := ((bcell hU4).1 _ 0 lgf).trans hN.fc
        have fz4 : u.1.frozen? ⟨w.heap.size + 1, 0, none⟩ = false := ((bcell hU4).2 _ 0 lgf).trans hN.fz
        have e5 : u.1.cell? ⟨w.heap.size, 5, none⟩ = some (.int .i64 (O : Int)) := ((bcell hU4).1 _ 5 lc).trans c5
        have e6 : u.1.cell? ⟨w.heap.size, 6, none⟩ = some (.int .i64 (I : Int)) := ((bcell hU4).1 _ 6 lc).trans c6
        have lgu : w.heap.size + 1 < u.1.heap.size := by have := hU4.size; omega
        clear hU hU3 hW
        generalize u.1 = w4 at *
        generalize wa.heap.size = bs at *
        obtain ⟨i0, hi, hp0, hp1, hp2⟩ := info_parts Try.infoLane
        refine upx_write 8 (by kernel_rfl) (by kernel_rfl) rfl ?_
        refine wpList_append_rw w4 SL (by kernel_rfl) (.tmp 28) (.tmp 31) 63 rfl 71 i0 (.agg #[.pointer none, .pointer none]) 2 16 Try.underlying63 hi hp0 hp1 hp2 rfl (by decide) a (2 * j) cap (lanesV G (2 * j)) rfl (hN.row.below hU4) ⟨bs, 0, none⟩ 2 2 [.pointer (some ⟨g1, 0, none⟩), .pointer (some ⟨g2, 0, none⟩), .pointer (some ⟨g3, 0, none⟩), .pointer (some ⟨g4, 0, none⟩)] rfl (by omega) rfl news (by simp only [List.mem_cons, List.not_mem_nil, or_false, forall_eq_or_imp, forall_eq]; exact ⟨rfl, rfl, rfl, rfl⟩) (by unfold maxLen; omega) (by omega) ?_
        intro a5 c5' w5 hrw5 hk5
        refine then_n ?_
        simp only [Act.put, List.setIfInBounds_toArray, List.set_cons_zero, List.set_cons_succ]
        have ns : ∀ b, b < w.heap.size + 2 → ¬ SL b := fun b hb hs => by have := hN.slo b hs; omega
        refine any_take 9 (.pointer (some ⟨w.heap.size + 1, 0, none⟩)) rfl (by kernel_rfl) (by kernel_rfl) (by kernel_rfl) (fun _ _ _ h => h) (by kernel_rfl) (fun w => by go_simp) ?_
        simp only [Act.put, List.setIfInBounds_toArray, List.set_cons_zero, List.set_cons_succ]
        refine any_take 10 (.pointer (some ⟨w.heap.size + 1, 0, none⟩)) rfl (by kernel_rfl) (by kernel_rfl) (by kernel_rfl) (fun _ _ _ h => h) (by kernel_rfl) (fun w => by go_simp) ?_
        simp only [Act.put, List.setIfInBounds_toArray, List.set_cons_zero, List.set_cons_succ]
        have f5 : w5.cell? ⟨w.heap.size + 1, 0, none⟩ = some (.slice a (2 * j) cap) := (hk5.cell 0 lgu (ns _ (by omega))).trans fc4
        have fz5 : w5.frozen? ⟨w.heap.size + 1, 0, none⟩ = false := (hk5.frozen 0 lgu (ns _ (by omega))).trans fz4
        have k5 : w5.cell? ⟨w.heap.size, 5, none⟩ = some (.int .i64 (O : Int)) := (hk5.cell 5 (by omega) (ns _ (by omega))).trans e5
        have k6 : w5.cell? ⟨w.heap.size, 6, none⟩ = some (.int .i64 (I : Int)) := (hk5.cell 6 (by omega) (ns _ (by omega))).trans e6
        refine any_list 11 (by kernel_rfl) rfl ?_
        go_wp2
        refine then_n ?_
        refine any_done (by kernel_rfl) ?_
        obtain ⟨G', M', D', hN'⟩ := hN.grow (by exact hU4) Q1 Q2 Q3 Q4 o1 o2 o3 o4 hrw5 hk5
        have hbw5 : Below w.heap.size w w5 := (next hbw hU4).trans (hk5.below (fun k hs => by have := hN.slo k hs; omega) (by omega))
        clear hN
        go_wp2
        go_roundw
        case rel => exact ⟨j + 1, G', M', D', _, _, _, by omega, by go_num, hN', by rw [World.cell?_setCell_other _ _ _ _ (by simp)]; exact k5, by rw [World.cell?_setCell_other _ _ _ _ (by simp)]; exact k6, hbw5.setCell (by simp only; omega) _⟩
        case measure => simp [intOf]; omega
    · obtain rfl : j = N := by omega
      obtain ⟨m0, m1, m2, m3, m4, m5⟩ := HC.out
      obtain ⟨B, hF, hB⟩ := hN.done m0 m1 m2 m3 m4 m5
      clear m0 m1 m2 m3 m4 m5 c5 c6 hN
      go_wp2
      go_ret
      exact ⟨_, B, rfl, hbw, hF, hB⟩
end Go.Proofs.Ytjdbjmfkheffdaa
end
section
namespace Go.Proofs.Ytjdbjmfkheffdaa
open Go.RowKit
set_option linter.unusedVariables false
set_option maxRecDepth 20000

/-- A network, made since w; its memory is none of X. -/
def On (w V : World) (gf nn : Nat) (out inn : Int) (F : Nat → List Pk) (X : Nat → Prop) : Prop := ∃ B, Fb V gf nn out inn F B ∧ (∀ k, B k → w.heap.size ≤ k ∧ ¬ X k) ∧ Below w.heap.size w V ∧ (∀ k, X k → k < V.heap.size)
section
variable {w V V' : World} {gf nn : Nat} {out inn : Int} {F F' : Nat → List Pk} {X X' R : Nat → Prop}
theorem On.turn (h : On w V gf nn out inn F X) (hk : Keep R V V') (hR : ∀ k, R k → X k ∨ V.heap.size ≤ k) (hw : ∀ k, R k → w.heap.size ≤ k) (hX : ∀ k, X' k → X k ∨ V.heap.size ≤ k) (hl : ∀ k, X' k → k < V'.heap.size) : On w V' gf nn out inn F X' := by
  obtain ⟨B, hf, hB, hb, hx⟩ := h
  have hold : ∀ k, B k → k < V.heap.size := by obtain ⟨_, _, _, _, _, _, h⟩ := hf; exact h.old
  have nx : ∀ k, B k → ¬ X k ∧ ¬ V.heap.size ≤ k := fun k hk => ⟨(hB k hk).2, by have := hold k hk; omega⟩
  refine ⟨B, hf.keep hk (fun k hk hr => ?_), fun k hk => ⟨(hB k hk).1, fun hx' => ?_⟩, hk.after hb hw, hl⟩
  · exact (hR k hr).elim (nx k hk).1 (nx k hk).2
  · exact (hX k hx').elim (nx k hk).1 (nx k hk).2
theorem On.below (h : On w V gf nn out inn F X) (hb : Below V.heap.size V V') : On w V' gf nn out inn F X :=
  h.turn (R := fun _ => False) (Keep.of_below hb) (fun _ h => h.elim) (fun _ h => h.elim) (fun _ h => .inl h) (fun k hk => by obtain ⟨_, _, _, _, hx⟩ := h; exact Nat.lt_of_lt_of_le (hx k hk) hb.size)
theorem On.more (h : On w V gf nn out inn F X) (hb : Below V.heap.size V V') (hX : ∀ k, X' k → X k ∨ (V.heap.size ≤ k ∧ k < V'.heap.size)) : On w V' gf nn out inn F X' :=
  h.turn (R := fun _ => False) (Keep.of_below hb) (fun _ h => h.elim) (fun _ h => h.elim) (fun k h => (hX k h).imp id (fun h => h.1)) (fun k hk => by
    obtain ⟨_, _, _, _, hx⟩ := h
    rcases hX k hk with h | h
    · exact Nat.lt_of_lt_of_le (hx k h) hb.size
    · exact h.2)
theorem On.bel (h : On w V gf nn out inn F X) : Below w.heap.size w V := by obtain ⟨_, _, _, hb, _⟩ := h; exact hb
theorem On.xlt (h : On w V gf nn out inn F X) : ∀ k, X k → k < V.heap.size := by obtain ⟨_, _, _, _, hx⟩ := h; exact hx
/-- Behind a call. -/
theorem On.step (h : On w V gf nn out inn F X) {P : Program} {f : FuncId} {args : Array Value} {C : Ending → World → Prop} (hc : ∀ B, Fb V gf nn out inn F B → Calls P f args V fun e w' => C e w' ∧ FThen V w' gf nn out inn F' B) :
    Calls P f args V fun e w' => C e w' ∧ On w w' gf nn out inn F' X ∧ Keep (fun k => ¬ X k) V w' := by
  obtain ⟨B, hf, hB, hb, hx⟩ := h
  refine (hc B hf).mono ?_
  rintro e w' ⟨hc, hk, B', hf', hB'⟩
  refine ⟨hc, ⟨B', hf', fun k hk' => ?_, hk.after hb (fun k hk => (hB k hk).1), fun k hk' => Nat.lt_of_lt_of_le (hx k hk') hk.size⟩, hk.mono (fun k _ hk => (hB k hk).2)⟩
  rcases hB' k hk' with h | h
  · exact hB k h
  · exact ⟨Nat.le_trans hb.size h, fun hx' => by have := hx k hx'; omega⟩
theorem send_on (h : On w V gf nn out inn F X) {e : Int} (x : Pk) (a : Option Addr) (n cap : Nat) (hsl : Sl V a n cap x.z) (hz : R64 x.z) (hs : SendTo nn out F x e F') :
    Calls Try.prog 12 #[.pointer (some ⟨gf, 0, none⟩), x.val (.slice a n cap)] V fun en w' => en = .returned (.int .i64 e) ∧ On w w' gf nn out inn F' X ∧ Keep (fun k => ¬ X k) V w' :=
  h.step fun B hf => send_any V hf x a n cap hsl hz hs
theorem send_on_no (h : On w V gf nn out inn F X) (x : Pk) (a : Option Addr) (n cap : Nat) (hsl : Sl V a n cap x.z) (hr : x.right = false) :
    Calls Try.prog 12 #[.pointer (some ⟨gf, 0, none⟩), x.val (.slice a n cap)] V fun en w' => en = .returned (.int .i64 1) ∧ Below V.heap.size V w' := by
  obtain ⟨B, hf, _⟩ := h
  exact send_err V hf x a n cap hsl hr
theorem send_on_far (h : On w V gf nn out inn F X) (x : Pk) (a : Option Addr) (n cap : Nat) (hsl : Sl V a n cap x.z) (hr : x.right = true) (hf : (nn : Int) ≤ x.f ∨ (nn : Int) ≤ x.t) :
    Calls Try.prog 12 #[.pointer (some ⟨gf, 0, none⟩), x.val (.slice a n cap)] V fun en w' => en = .returned (.int .i64 1) ∧ Below V.heap.size V w' := by
  obtain ⟨B, hf', _⟩ := h
  exact send_far V hf' x a n cap hsl hr hf
theorem deliver_on (h : On w V gf nn out inn F X) {e : Int} (a bit mask : Int) (h63 : a < 9223372036854775808) (hm0 : 0 ≤ mask) (hm1 : mask < 65536) (hd : DelTo nn out inn F a bit mask e F') :
    Calls Try.prog 13 #[.pointer (some ⟨gf, 0, none⟩), .int .i64 a, .int .i64 bit, .int .u16 mask] V fun en w' => en = .returned (.int .i64 e) ∧ On w w' gf nn out inn F' X ∧ Keep (fun k => ¬ X k) V w' :=
  h.step fun B hf => deliver_any V hf a bit mask h63 hm0 hm1 hd
/-- What Request and Reply tell. -/
def TkO (V : World) (X : Nat → Prop) (o : Option Pk) (e : Ending) (w' : World) : Prop := ∃ a n c, e = .returned (.tuple #[(o.getD zeroPk).val (.slice a n c), .bool o.isSome]) ∧ Sl w' a n c (o.getD zeroPk).z ∧ ((o.getD zeroPk).z ≠ [] → ∀ y : Addr, a = some y → ¬ X y.block) ∧ (o.isSome = false → Below V.heap.size V w')
theorem tk_on (h : On w V gf nn out inn F X) {o : Option Pk} {P : Program} {f : FuncId} {args : Array Value} (hc : ∀ B, Fb V gf nn out inn F B → Calls P f args V fun e w' => Tk V gf nn out inn F' B o e w') :
    Calls P f args V fun e w' => TkO V X o e w' ∧ On w w' gf nn out inn F' X ∧ Keep (fun k => ¬ X k) V w' := by
  obtain ⟨B, hf, hB, hb, hx⟩ := h
  refine (hc B hf).mono ?_
  rintro e w' ⟨d, rfl, hd, ⟨hk, B', hf', hB'⟩, hno⟩
  obtain ⟨a, n, c, rfl, hs, _, hD⟩ := hd
  refine ⟨⟨a, n, c, rfl, hs, fun hz y hy => (hB _ (hD hz y hy)).2, hno⟩, ⟨B', hf', fun k hk' => ?_, hk.after hb (fun k hk => (hB k hk).1), fun k hk' => Nat.lt_of_lt_of_le (hx k hk') hk.size⟩, hk.mono (fun k _ hk => (hB k hk).2)⟩
  rcases hB' k hk' with h | h
  · exact hB k h
  · exact ⟨Nat.le_trans hb.size h, fun hx' => by have := hx k hx'; omega⟩
theorem request_on (h : On w V gf nn out inn F X) {o : Option Pk} (i : Int) (ht : TakeTo nn F i true o F') :
    Calls Try.prog 16 #[.pointer (some ⟨gf, 0, none⟩), .int .i64 i] V fun e w' => TkO V X o e w' ∧ On w w' gf nn out inn F' X ∧ Keep (fun k => ¬ X k) V w' :=
  tk_on h fun B hf => frequest_any V hf i ht
theorem reply_on (h : On w V gf nn out inn F X) {o : Option Pk} (i : Int) (ht : TakeTo nn F i false o F') :
    Calls Try.prog 17 #[.pointer (some ⟨gf, 0, none⟩), .int .i64 i] V fun e w' => TkO V X o e w' ∧ On w w' gf nn out inn F' X ∧ Keep (fun k => ¬ X k) V w' :=
  tk_on h fun B hf => freply_any V hf i ht
theorem under_on (h : On w V gf nn out inn F X) (n : Int) (hn : ((laneL F (2 * nn)).length : Int) = n) :
    Calls Try.prog 14 #[.pointer (some ⟨gf, 0, none⟩)] V fun e w' => e = .returned (.int .i64 n) ∧ Below V.heap.size V w' := by
  obtain ⟨B, hf, _⟩ := h
  exact under_any V hf n hn
theorem waiting_on (h : On w V gf nn out inn F X) (i : Nat) (hi : i < nn) (x : Int) (hx : x = (i : Int)) (n m : Int) (hn : ((F (pr (2 * i) + 2)).length : Int) = n) (hm : ((F (pr (2 * i + 1) + 2)).length : Int) = m) :
    Calls Try.prog 15 #[.pointer (some ⟨gf, 0, none⟩), .int .i64 x] V fun e w' => e = .returned (.tuple #[.int .i64 n, .int .i64 m]) ∧ Below V.heap.size V w' := by
  obtain ⟨B, hf, _⟩ := h
  exact waiting_yes V hf i hi x hx n m hn hm
theorem room_on (h : On w V gf nn out inn F X) (i : Nat) (hi : i < nn) (x : Int) (hx : x = (i : Int)) (b : Bool) (n : Int) (hn : out - ((F (pr (2 * i + laneS b))).length : Int) = n) :
    Calls Try.prog 20 #[.pointer (some ⟨gf, 0, none⟩), .int .i64 x, .bool b] V fun e w' => e = .returned (.int .i64 n) ∧ Below V.heap.size V w' := by
  obtain ⟨B, hf, _⟩ := h
  cases b
  · exact room_ans V hf i hi x hx n hn
  · exact room_req V hf i hi x hx n hn
theorem packet_on (h : On w V gf nn out inn F X) {q k : Nat} {x : Pk} (hq : q < 2 * nn) (hx : (F (pr q))[k]? = some x) (a : Int) (ha : a = ((laneL F q).length : Int) + k) :
    Calls Try.prog 27 #[.pointer (some ⟨gf, 0, none⟩), .int .i64 a] V fun e w' => ∃ d, e = .returned (.tuple #[x.val d, .bool true]) ∧ Below V.heap.size V w' ∧ Own w' V.heap.size d x.z := by
  obtain ⟨B, hf, _⟩ := h
  exact packet_yes V hf hq hx a ha
theorem new_on (hb : Below w.heap.size w V) (hX : ∀ k, X k → k < V.heap.size) (N L K S Y O I : Nat) (t : Value) (ht : t.oneCell' = true) (n0 : 1 ≤ N) (n1 : N ≤ 6) (o0 : 1 ≤ O) (o1 : O ≤ 1000) (i0 : 1 ≤ I) (i1 : I ≤ 1000) :
    Calls Try.prog 9 #[.agg #[.int .i64 (N : Int), .int .i64 (L : Int), .int .i64 (K : Int), .int .i64 (S : Int), .int .i64 (Y : Int), .int .i64 (O : Int), .int .i64 (I : Int), t]] V fun e w' => ∃ gf, e = .returned (.pointer (some ⟨gf, 0, none⟩)) ∧ On w w' gf N O I (fun _ => []) X ∧ Below V.heap.size V w' := by
  refine (fnew_any V N L K S Y O I t ht n0 n1 o0 o1 i0 i1).mono ?_
  rintro e w' ⟨gf, B, rfl, hb', hf, hB⟩
  exact ⟨gf, rfl, ⟨B, hf, fun k hk => ⟨Nat.le_trans hb.size (hB k hk), fun hx => by have := hX k hx; have := hB k hk; omega⟩, next hb hb', fun k hk => Nat.lt_of_lt_of_le (hX k hk) hb'.size⟩, hb'⟩
end
end Go.Proofs.Ytjdbjmfkheffdaa
end
section
namespace Go.Proofs.Ytjdbjmfkheffdaa
open Go.RowKit
set_option linter.unusedVariables false
set_option maxRecDepth 20000

/-- A digit that is turned is found. -/
theorem wire_hit {y : Pk} {bit mask : Int} {k : Nat} (hm0 : 0 ≤ mask) (hm1 : mask < 65536) (hk : k < 8 * (12 + 8 * y.z.length)) (hh : B.hit bit mask k = true) : wireB y bit mask = false := by
  refine decide_eq_false fun e => ?_
  have hl : (B.sealI (packI y)).length = 12 + 8 * y.z.length := by rw [sealI_len, packI_len]; omega
  have d := B.spoilI_dig (bit := bit) (mask := mask) (l := B.sealI (packI y)) (B.sealI_b8 (packI_b8 y)) hm0 hm1 k (by omega)
  rw [e, hh] at d
  revert d
  cases B.digAt (B.sealI (packI y)) k <;> simp
def lockPk1 : Pk := ⟨1, 0, 1, 0, 0, 0, 0, false, []⟩
def wk1 : Nat → List Pk := upd (fun _ => []) (pr (fromQ lockPk1)) [lockPk1]
def wk2 : Nat → List Pk := upd (upd wk1 (pr (toQ lockPk1) + 2) [lockPk1]) (pr 0) []
theorem wk_send : SendTo 2 1 (fun _ => []) lockPk1 0 wk1 := SendTo.ok (by decide) (by decide) (by decide) (by decide)
theorem wk_form : DelTo 2 1 1 wk1 0 3 5 2 wk1 := DelTo.form 0 0 lockPk1 (by decide) rfl rfl (wire_hit (k := 16) (by decide) (by decide) (by decide) (by decide))
theorem wk_del : DelTo 2 1 1 wk1 0 0 0 0 wk2 := DelTo.ok 0 0 lockPk1 (by decide) rfl rfl (wire_zero _ _) (by decide)
theorem wk_take : TakeTo 2 wk2 1 true (some lockPk1) (upd wk2 (pr (2 * 1 + laneS true) + 2) []) := TakeTo.some 1 lockPk1 [] (by decide) rfl rfl
set_option maxHeartbeats 2000000 in
theorem fwakes_any (w : World) : Calls Try.prog 19 #[] w fun e w' => e = .returned (.bool true) ∧ Below w.heap.size w w' := by
  go_enter Try.func19, Try.ntmps19
  go_wp2_with (first
    | (go_at_call 9; refine (new_on (X := fun _ => False) (Below.refl _ _) (fun _ h => h.elim) 2 1 1 1 1 1 1 (.slice none 0 0) rfl (by decide) (by decide) (by decide) (by decide) (by decide) (by decide)).mono ?_; rintro e w1 ⟨gf, rfl, hf0, hb1⟩; clear hb1)
    | (have mk := hf4; clear mk; go_at_call 14; refine (under_on (hf4.below (ba (Below.refl _ _))) 0 rfl).mono ?_; rintro e w8 ⟨rfl, hb8⟩)
    | (have mk := hf1; clear mk; go_at_call 14; refine (under_on hf1 1 rfl).mono ?_; rintro e w4 ⟨rfl, hb4⟩)
    | (go_at_call 14; refine (under_on hf0 0 rfl).mono ?_; rintro e w2 ⟨rfl, hb2⟩)
    | (go_at_call 12; refine (send_on (hf0.below hb2) lockPk1 none 0 0 (sl_nil _) (by intro y hy; cases hy) wk_send).mono ?_; rintro e w3 ⟨rfl, hf1, _⟩)
    | (have mk := hf2; clear mk; go_at_call 13; refine (deliver_on hf2 0 0 0 (by decide) (by decide) (by decide) wk_del).mono ?_; rintro e w6 ⟨rfl, hf3, _⟩)
    | (go_at_call 13; refine (deliver_on (hf1.below hb4) 0 3 5 (by decide) (by decide) (by decide) wk_form).mono ?_; rintro e w5 ⟨rfl, hf2, _⟩)
    | (go_at_call 16; refine (request_on hf3 1 wk_take).mono ?_; rintro e w7 ⟨⟨a7, n7, c7, rfl, _⟩, hf4, _⟩; simp only [Option.getD_some, Option.isSome_some, lockPk1]))
  go_ret
  exact ⟨rfl, ((hf4.below (ba (Below.refl _ _))).below hb8).bel⟩
end Go.Proofs.Ytjdbjmfkheffdaa
end
section
namespace Go.Proofs.Ytjdbjmfkheffdaa
open Go.RowKit
set_option linter.unusedVariables false
set_option maxRecDepth 20000

/-- All that wait, at the first k nodes. -/
def waitN (F : Nat → List Pk) : Nat → Nat
  | 0 => 0
  | k + 1 => waitN F k + ((F (pr (2 * k) + 2)).length + (F (pr (2 * k + 1) + 2)).length)
def totalN (F : Nat → List Pk) (nn : Nat) : Nat := (laneL F (2 * nn)).length + waitN F nn
theorem waitN_mono (F : Nat → List Pk) {i j : Nat} (h : i ≤ j) : waitN F i ≤ waitN F j := by
  induction j with
  | zero => have : i = 0 := by omega
            subst this; exact Nat.le_refl _
  | succ j ih =>
    by_cases e : i = j + 1
    · subst e; exact Nat.le_refl _
    · have := ih (by omega)
      rw [waitN]; omega
theorem Rm_q2 {out inn : Int} {j : Nat} : Rm out inn (pr (2 * j) + 2) = inn := by unfold Rm pr; rw [if_pos (by omega)]
theorem Rm_q3 {out inn : Int} {j : Nat} : Rm out inn (pr (2 * j + 1) + 2) = 1 := by unfold Rm pr; rw [if_neg (by omega), if_pos (by omega)]
theorem waitN_out (F : Nat → List Pk) (q : Nat) (L : List Pk) : ∀ k, waitN (upd F (pr q) L) k = waitN F k
  | 0 => rfl
  | k + 1 => by rw [waitN, waitN, waitN_out F q L k, upd_other _ _ (fun e => pr_ne e.symm), upd_other _ _ (fun e => pr_ne e.symm)]
theorem waitN_same (F : Nat → List Pk) (q : Nat) (L : List Pk) : ∀ k, 2 * k ≤ q → waitN (upd F (pr q + 2) L) k = waitN F k
  | 0, _ => rfl
  | k + 1, h => by
    rw [waitN, waitN, waitN_same F q L k (by omega), upd_other _ _ (fun e => by have := pr_inj (show pr (2 * k) = pr q by omega); omega), upd_other _ _ (fun e => by have := pr_inj (show pr (2 * k + 1) = pr q by omega); omega)]
theorem waitN_in (F : Nat → List Pk) (q : Nat) (L : List Pk) : ∀ k, q < 2 * k → waitN (upd F (pr q + 2) L) k + (F (pr q + 2)).length = waitN F k + L.length
  | 0, h => by omega
  | k + 1, h => by
    rw [waitN, waitN]
    by_cases h1 : q < 2 * k
    · have := waitN_in F q L k h1
      rw [upd_other _ _ (fun e => by have := pr_inj (show pr (2 * k) = pr q by omega); omega), upd_other _ _ (fun e => by have := pr_inj (show pr (2 * k + 1) = pr q by omega); omega)]
      omega
    · rw [waitN_same F q L k (by omega)]
      by_cases h2 : q = 2 * k
      · subst h2
        rw [upd_same, upd_other _ _ (fun e => by have := pr_inj (show pr (2 * k + 1) = pr (2 * k) by omega); omega)]
        omega
      · obtain rfl : q = 2 * k + 1 := by omega
        rw [upd_same, upd_other _ _ (fun e => by have := pr_inj (show pr (2 * k) = pr (2 * k + 1) by omega); omega)]
        omega
theorem total_out (F : Nat → List Pk) {q nn : Nat} (L : List Pk) (h : q < 2 * nn) : totalN (upd F (pr q) L) nn + (F (pr q)).length = totalN F nn + L.length := by
  have := lane_more F L q (2 * nn) h
  unfold totalN
  rw [waitN_out]; omega
theorem total_in (F : Nat → List Pk) {q nn : Nat} (L : List Pk) (h : q < 2 * nn) : totalN (upd F (pr q + 2) L) nn + (F (pr q + 2)).length = totalN F nn + L.length := by
  have := waitN_in F q L nn h
  unfold totalN
  rw [lane_in]; omega
theorem total_nil (nn : Nat) : totalN (fun _ => []) nn = 0 := by
  have h1 : ∀ m, laneL (fun _ => []) m = [] := fun m => by
    induction m with
    | zero => rfl
    | succ m ih => rw [laneL_succ, ih]; rfl
  have h2 : ∀ k, waitN (fun _ => []) k = 0 := fun k => by
    induction k with
    | zero => rfl
    | succ k ih => rw [waitN, ih]; rfl
  unfold totalN; rw [h1, h2]; rfl
section
variable {nn : Nat} {out inn : Int} {F F' : Nat → List Pk}
theorem send_total {x : Pk} {e : Int} (h : SendTo nn out F x e F') : (e = 0 ∧ totalN F' nn = totalN F nn + 1) ∨ (e ≠ 0 ∧ totalN F' nn = totalN F nn) := by
  cases h with
  | no => exact .inr ⟨by decide, rfl⟩
  | far => exact .inr ⟨by decide, rfl⟩
  | full => exact .inr ⟨by decide, rfl⟩
  | ok hr hf ht hl =>
    have hq : fromQ x < 2 * nn := by
      have := ((Pk.right_iff x).1 hr).f
      have := sortN_lt x
      unfold fromQ; omega
    have := total_out F (F (pr (fromQ x)) ++ [x]) hq
    rw [List.length_append] at this
    simp at this
    exact .inl ⟨rfl, by omega⟩
theorem del_total {a bit mask e : Int} (hg : ∀ q, q < 4 * nn → ∀ x ∈ F q, Good nn x) (h : DelTo nn out inn F a bit mask e F') : totalN F' nn = totalN F nn := by
  cases h with
  | none => rfl
  | form => rfl
  | full => rfl
  | ok q k x hq hx ha hw hl =>
    have hgx := hg (pr q) (by have := pr_lt hq; omega) x (List.mem_of_getElem? hx)
    have hk : k < (F (pr q)).length := (List.getElem?_eq_some_iff.1 hx).1
    have h1 := total_in F (F (pr (toQ x) + 2) ++ [x]) hgx.tq.1
    have h2 := total_out (upd F (pr (toQ x) + 2) (F (pr (toQ x) + 2) ++ [x])) ((F (pr q)).eraseIdx k) hq
    rw [upd_other _ _ pr_ne, List.length_eraseIdx_of_lt hk] at h2
    rw [List.length_append] at h1
    simp at h1
    omega
theorem take_total {i : Int} {b : Bool} {o : Option Pk} (h : TakeTo nn F i b o F') : (o.isSome = true ∧ totalN F' nn + 1 = totalN F nn) ∨ (o.isSome = false ∧ totalN F' nn = totalN F nn) := by
  cases h with
  | no => exact .inr ⟨rfl, rfl⟩
  | empty => exact .inr ⟨rfl, rfl⟩
  | some k x L hk hi hF =>
    have := total_in (nn := nn) F (q := 2 * k + laneS b) L (by have := laneS_lt b; omega)
    rw [hF] at this
    simp at this
    exact .inl ⟨rfl, by omega⟩
theorem send_ex (x : Pk) (hr : ∀ q, q < 4 * nn → ((F q).length : Int) ≤ Rm out inn q) : ∃ e F', SendTo nn out F x e F' := by
  by_cases h1 : x.right = true
  · by_cases h2 : (nn : Int) ≤ x.f ∨ (nn : Int) ≤ x.t
    · exact ⟨_, _, .far h1 h2⟩
    · have hq : fromQ x < 2 * nn := by
        have := ((Pk.right_iff x).1 h1).f
        have := sortN_lt x
        unfold fromQ; omega
      have := hr (pr (fromQ x)) (by have := pr_lt hq; omega)
      rw [Rm_out] at this
      by_cases h3 : ((F (pr (fromQ x))).length : Int) = out
      · exact ⟨_, _, .full h1 (by omega) (by omega) h3⟩
      · exact ⟨_, _, .ok h1 (by omega) (by omega) (by omega)⟩
  · exact ⟨_, _, .no (by simpa using h1)⟩
theorem del_ex (a bit mask : Int) (hg : ∀ q, q < 4 * nn → ∀ x ∈ F q, Good nn x) (hr : ∀ q, q < 4 * nn → ((F q).length : Int) ≤ Rm out inn q) : ∃ e F', DelTo nn out inn F a bit mask e F' := by
  by_cases h1 : a < 0 ∨ ((laneL F (2 * nn)).length : Int) ≤ a
  · exact ⟨_, _, .none h1⟩
  · obtain ⟨q, k, x, hq, hx, ha⟩ := lane_at F (2 * nn) a.toNat (by omega)
    have ha' : a = ((laneL F q).length : Int) + k := by omega
    cases hw : wireB x bit mask
    · exact ⟨_, _, .form q k x hq hx ha' hw⟩
    · have hgx := hg (pr q) (by have := pr_lt hq; omega) x (List.mem_of_getElem? hx)
      have := hr (pr (toQ x) + 2) (pr_lt hgx.tq.1)
      by_cases h3 : ((F (pr (toQ x) + 2)).length : Int) = Rm out inn (pr (toQ x) + 2)
      · exact ⟨_, _, .full q k x hq hx ha' hw h3⟩
      · exact ⟨_, _, .ok q k x hq hx ha' hw (by omega)⟩
theorem take_ex (i : Int) (b : Bool) : ∃ o F', TakeTo nn F i b o F' := by
  by_cases h1 : i < 0 ∨ (nn : Int) ≤ i
  · exact ⟨_, _, .no h1⟩
  · cases h : F (pr (2 * i.toNat + laneS b) + 2) with
    | nil => exact ⟨_, _, .empty i.toNat (by omega) (by omega) h⟩
    | cons x L => exact ⟨_, _, .some i.toNat x L (by omega) (by omega) h⟩
variable {w V : World} {gf : Nat} {X : Nat → Prop}
theorem On.good (h : On w V gf nn out inn F X) : ∀ q, q < 4 * nn → ∀ x ∈ F q, Good nn x := by obtain ⟨_, ⟨_, _, _, _, _, _, h⟩, _⟩ := h; exact h.good
theorem On.rooms (h : On w V gf nn out inn F X) : ∀ q, q < 4 * nn → ((F q).length : Int) ≤ Rm out inn q := by obtain ⟨_, ⟨_, _, _, _, _, _, h⟩, _⟩ := h; exact h.rooms
theorem On.bound (h : On w V gf nn out inn F X) : ((laneL F (2 * nn)).length : Int) ≤ ((2 * nn : Nat) : Int) * out := by obtain ⟨_, ⟨_, _, _, _, _, _, h⟩, _⟩ := h; exact lane_bound h _ (Nat.le_refl _)
theorem On.max (h : On w V gf nn out inn F X) : (laneL F (2 * nn)).length ≤ 12000 := by obtain ⟨_, ⟨_, _, _, _, _, _, h⟩, _⟩ := h; exact lane_max h
end
end Go.Proofs.Ytjdbjmfkheffdaa
end
