/- The program's home: unlock. Conditions: as each theorem states them. -/
import Derived.Test.YtgeiagndpfdnlaaHm3
namespace Go.Proofs.Ytgeiagndpfdnlaa
open Go.RowKit Go.Maps
set_option linter.unusedVariables false
set_option maxRecDepth 20000

/-- The data that an Unlock sets. -/
def unlD (x : Pk) : List Int := if x.fl = true then x.z else []
theorem newData_any (x : Pk) (a : Option Addr) (m c : Nat) (w : World) (hsl : Sl w a m c x.z) : Calls Try.prog 56 #[x.val (.slice a m c)] w fun e w' => ∃ a' m' c', e = .returned (.slice a' m' c') ∧ Sl w' a' m' c' (unlD x) ∧ Below w.heap.size w w' := by
  unfold unlD
  cases hf : x.fl with
  | true =>
    refine (hnewData_yes x _ hf w).mono ?_
    rintro e w' ⟨rfl, hb⟩
    exact ⟨a, m, c, rfl, by rw [if_pos rfl]; exact hsl.below hb, hb⟩
  | false =>
    refine (hnewData_no x (.slice a m c) hf w).mono ?_
    rintro e w' ⟨rfl, hb⟩
    exact ⟨none, 0, 0, rfl, by rw [if_neg (by simp)]; exact sl_nil _, hb⟩
section
variable {w wx wy : World} {g g1 g2 n N : Nat} {X Y : Nat → Prop} {K node : Int} {L : List Hr} {o : List (Int × Int)} {q : List Wr}
theorem owner_is (h : PH w wx g g1 g2 X N K node L n o q) {l : Int} (hl : In64 l) : Calls Try.prog 11 #[.pointer (some ⟨g2, 0, none⟩), .int .i64 l] wx fun e w' => e = .returned (.int .i64 (ownT o l)) ∧ Below wx.heap.size wx w' := by
  refine (hp_owner h.hp hl).mono ?_
  rintro e w' ⟨rfl, rfl⟩
  exact ⟨rfl, Below.refl _ _⟩
set_option maxHeartbeats 1600000 in
theorem hunlock_state (h : PH w wx g g1 g2 X N K node L n o q) (x : Pk) (a : Option Addr) (m c : Nat) (hsl : Sl wx a m c x.z) (hl : In64 x.l) (ho : ownT o x.l ≠ x.f) :
    Calls Try.prog 30 #[.pointer (some ⟨g, 0, none⟩), x.val (.slice a m c)] wx fun e w' => e = .returned (.int .i64 6) ∧ Below wx.heap.size wx w' := by
  have hob : (ownT o x.l != x.f) = true := by simp [ho]
  have HL : Hid (In64 x.l) := hl
  clear hl ho
  unfold Pk.val
  go_enter Try.func30, Try.ntmps30
  go_upto_region 1 with fail
  have hB : Below wx.heap.size wx (wx.alloc (.cells #[.int .i64 x.k, .int .i64 x.f, .int .i64 x.t, .int .i64 x.i, .int .i64 x.l, .int .i64 x.p, .int .i64 x.s, .bool x.fl, .slice a m c] 32)) := ba (Below.refl _ _)
  have bxp : Bx (wx.alloc (.cells #[.int .i64 x.k, .int .i64 x.f, .int .i64 x.t, .int .i64 x.i, .int .i64 x.l, .int .i64 x.p, .int .i64 x.s, .bool x.fl, .slice a m c] 32)) wx.heap.size x (.slice a m c) := Bx.made wx x (.slice a m c)
  have h1 := h.own hB
  have hs1 := hsl.below hB
  have HX : Hid (∀ j, X j → j < wx.heap.size) := h.xl
  have HWS : Hid (w.heap.size ≤ wx.heap.size) := h.bel.size
  clear h hsl
  generalize World.alloc _ (.cells #[.int .i64 x.k, .int .i64 x.f, .int .i64 x.t, .int .i64 x.i, .int .i64 x.l, .int .i64 x.p, .int .i64 x.s, .bool x.fl, .slice a m c] 32) = W at *
  obtain ⟨q0, q1, q2, q3, q4, q5, q6, q7, q8, qf, ql⟩ := id bxp
  have c0 := h1.c0
  have c1 := h1.c1
  have lt := h1.lt
  have uc := @Up.cell
  have uf := @Up.frozen
  refine wp_region_up (by kernel_rfl) (by kernel_rfl) ?_
  repeat (go_big_quiet_step ((go_at_call 11; exact Calls.up_of (owner_is (h1.below (Subtype.property _)) HL.out))))
  refine wpQuiet_nil ?_
  rintro _ ⟨u, rfl⟩
  clear uc uf
  have h2 := h1.below u.2
  have hs2 := hs1.below u.2
  have bp2 := bxp.next u.2
  have hB2 := next hB u.2
  clear q0 q1 q2 q3 q4 q5 q6 q7 q8 qf ql c0 c1 lt bxp h1 hs1
  go_wp2_with fail
  go_ret
  exact ⟨rfl, hB2⟩
set_option maxHeartbeats 1600000 in
theorem hunlock_err (h : PH w wx g g1 g2 X N K node L n o q) (x : Pk) (a : Option Addr) (m c : Nat) (hsl : Sl wx a m c x.z) (hl : In64 x.l) (ho : ownT o x.l = x.f) (hf : 0 ≤ x.f) (hz : x.z.length ≤ 1000) (he : (setR N K L x.l x.s x.p (unlD x)).1 ≠ 0) :
    Calls Try.prog 30 #[.pointer (some ⟨g, 0, none⟩), x.val (.slice a m c)] wx fun e w' => e = .returned (.int .i64 (setR N K L x.l x.s x.p (unlD x)).1) ∧ Keep (NX w X) wx w' ∧ PH w w' g g1 g2 X N K node L n o q := by
  have hob : (ownT o x.l != x.f) = false := by simp [ho]
  have HL : Hid (In64 x.l) := hl
  have HO : Hid (ownT o x.l = x.f ∧ 0 ≤ x.f) := ⟨ho, hf⟩
  clear hl ho hf
  unfold Pk.val
  go_enter Try.func30, Try.ntmps30
  go_upto_region 1 with fail
  have hB : Below wx.heap.size wx (wx.alloc (.cells #[.int .i64 x.k, .int .i64 x.f, .int .i64 x.t, .int .i64 x.i, .int .i64 x.l, .int .i64 x.p, .int .i64 x.s, .bool x.fl, .slice a m c] 32)) := ba (Below.refl _ _)
  have bxp : Bx (wx.alloc (.cells #[.int .i64 x.k, .int .i64 x.f, .int .i64 x.t, .int .i64 x.i, .int .i64 x.l, .int .i64 x.p, .int .i64 x.s, .bool x.fl, .slice a m c] 32)) wx.heap.size x (.slice a m c) := Bx.made wx x (.slice a m c)
  have h1 := h.own hB
  have hs1 := hsl.below hB
  have HX : Hid (∀ j, X j → j < wx.heap.size) := h.xl
  have HWS : Hid (w.heap.size ≤ wx.heap.size) := h.bel.size
  clear h hsl
  generalize World.alloc _ (.cells #[.int .i64 x.k, .int .i64 x.f, .int .i64 x.t, .int .i64 x.i, .int .i64 x.l, .int .i64 x.p, .int .i64 x.s, .bool x.fl, .slice a m c] 32) = W at *
  obtain ⟨q0, q1, q2, q3, q4, q5, q6, q7, q8, qf, ql⟩ := id bxp
  have c0 := h1.c0
  have c1 := h1.c1
  have lt := h1.lt
  have HSZ : Hid (wx.heap.size < W.heap.size) := bxp.lt
  have uc := @Up.cell
  have uf := @Up.frozen
  refine wp_region_up (by kernel_rfl) (by kernel_rfl) ?_
  repeat (go_big_quiet_step ((go_at_call 11; exact Calls.up_of (owner_is (h1.below (Subtype.property _)) HL.out))))
  refine wpQuiet_nil ?_
  rintro _ ⟨u, rfl⟩
  clear uc uf
  have h2 := h1.below u.2
  have hs2 := hs1.below u.2
  have bp2 := bxp.next u.2
  have hB2 := next hB u.2
  clear q0 q1 q2 q3 q4 q5 q6 q7 q8 qf ql c0 c1 lt bxp h1 hs1
  generalize u.val = V at *
  obtain ⟨q0, q1, q2, q3, q4, q5, q6, q7, q8, qf, ql⟩ := id bp2
  have c0 := h2.c0
  have lt := h2.lt
  go_upto_region 3 with fail
  refine wp_region_orders 14 rfl (by kernel_rfl) ?_
  have Bd : Below V.heap.size V V.drew := (Below.refl _ _).drew
  have hIB : ∀ V', Below V.heap.size V V' → (fun V => V.cell? ⟨g, 0, none⟩ = some (.pointer (some ⟨g1, 0, none⟩)) ∧ V.cell? ⟨wx.heap.size, 0, none⟩ = some (.int .i64 x.k) ∧ V.cell? ⟨wx.heap.size, 1, none⟩ = some (.int .i64 x.f) ∧ V.cell? ⟨wx.heap.size, 2, none⟩ = some (.int .i64 x.t) ∧ V.cell? ⟨wx.heap.size, 3, none⟩ = some (.int .i64 x.i) ∧ V.cell? ⟨wx.heap.size, 4, none⟩ = some (.int .i64 x.l) ∧ V.cell? ⟨wx.heap.size, 5, none⟩ = some (.int .i64 x.p) ∧ V.cell? ⟨wx.heap.size, 6, none⟩ = some (.int .i64 x.s) ∧ V.cell? ⟨wx.heap.size, 7, none⟩ = some (.bool x.fl) ∧ V.cell? ⟨wx.heap.size, 8, none⟩ = some (.slice a m c)) V' := fun V' b => ⟨(b.cell (p := ⟨g, 0, none⟩) lt).trans c0, (b.cell (p := ⟨wx.heap.size, 0, none⟩) ql).trans q0, (b.cell (p := ⟨wx.heap.size, 1, none⟩) ql).trans q1, (b.cell (p := ⟨wx.heap.size, 2, none⟩) ql).trans q2, (b.cell (p := ⟨wx.heap.size, 3, none⟩) ql).trans q3, (b.cell (p := ⟨wx.heap.size, 4, none⟩) ql).trans q4, (b.cell (p := ⟨wx.heap.size, 5, none⟩) ql).trans q5, (b.cell (p := ⟨wx.heap.size, 6, none⟩) ql).trans q6, (b.cell (p := ⟨wx.heap.size, 7, none⟩) ql).trans q7, (b.cell (p := ⟨wx.heap.size, 8, none⟩) ql).trans q8⟩
  have HIB : Hid (∀ V', Below V.heap.size V V' → (fun V => V.cell? ⟨g, 0, none⟩ = some (.pointer (some ⟨g1, 0, none⟩)) ∧ V.cell? ⟨wx.heap.size, 0, none⟩ = some (.int .i64 x.k) ∧ V.cell? ⟨wx.heap.size, 1, none⟩ = some (.int .i64 x.f) ∧ V.cell? ⟨wx.heap.size, 2, none⟩ = some (.int .i64 x.t) ∧ V.cell? ⟨wx.heap.size, 3, none⟩ = some (.int .i64 x.i) ∧ V.cell? ⟨wx.heap.size, 4, none⟩ = some (.int .i64 x.l) ∧ V.cell? ⟨wx.heap.size, 5, none⟩ = some (.int .i64 x.p) ∧ V.cell? ⟨wx.heap.size, 6, none⟩ = some (.int .i64 x.s) ∧ V.cell? ⟨wx.heap.size, 7, none⟩ = some (.bool x.fl) ∧ V.cell? ⟨wx.heap.size, 8, none⟩ = some (.slice a m c)) V') := hIB
  have hI : (fun V => V.cell? ⟨g, 0, none⟩ = some (.pointer (some ⟨g1, 0, none⟩)) ∧ V.cell? ⟨wx.heap.size, 0, none⟩ = some (.int .i64 x.k) ∧ V.cell? ⟨wx.heap.size, 1, none⟩ = some (.int .i64 x.f) ∧ V.cell? ⟨wx.heap.size, 2, none⟩ = some (.int .i64 x.t) ∧ V.cell? ⟨wx.heap.size, 3, none⟩ = some (.int .i64 x.i) ∧ V.cell? ⟨wx.heap.size, 4, none⟩ = some (.int .i64 x.l) ∧ V.cell? ⟨wx.heap.size, 5, none⟩ = some (.int .i64 x.p) ∧ V.cell? ⟨wx.heap.size, 6, none⟩ = some (.int .i64 x.s) ∧ V.cell? ⟨wx.heap.size, 7, none⟩ = some (.bool x.fl) ∧ V.cell? ⟨wx.heap.size, 8, none⟩ = some (.slice a m c)) V.drew := hIB _ Bd
  have h3 := h2.below Bd
  have hs3 := hs2.below Bd
  have bp3 := bp2.next Bd
  have hB3 := next hB2 Bd
  clear hIB q0 q1 q2 q3 q4 q5 q6 q7 q8 qf ql c0 lt bp2 h2 hs2 hB2
  generalize V.drew = Vd at *
  refine any_inv (fun V => V.cell? ⟨g, 0, none⟩ = some (.pointer (some ⟨g1, 0, none⟩)) ∧ V.cell? ⟨wx.heap.size, 0, none⟩ = some (.int .i64 x.k) ∧ V.cell? ⟨wx.heap.size, 1, none⟩ = some (.int .i64 x.f) ∧ V.cell? ⟨wx.heap.size, 2, none⟩ = some (.int .i64 x.t) ∧ V.cell? ⟨wx.heap.size, 3, none⟩ = some (.int .i64 x.i) ∧ V.cell? ⟨wx.heap.size, 4, none⟩ = some (.int .i64 x.l) ∧ V.cell? ⟨wx.heap.size, 5, none⟩ = some (.int .i64 x.p) ∧ V.cell? ⟨wx.heap.size, 6, none⟩ = some (.int .i64 x.s) ∧ V.cell? ⟨wx.heap.size, 7, none⟩ = some (.bool x.fl) ∧ V.cell? ⟨wx.heap.size, 8, none⟩ = some (.slice a m c)) [12] hI ?_
  refine inv_take (v := ?v1) [1, 2, 3, 12, 13] 0 hI rfl (by kernel_rfl) (by kernel_rfl) (by kernel_rfl) (by kernel_rfl) (by kernel_rfl) (fun _ _ _ h => h) (by kernel_rfl) (fun V hV => ?hy1) ?go1
  case hy1 => (obtain ⟨i0, i1, i2, i3, i4, i5, i6, i7, i8, i9⟩ := hV; go_simp <;> rfl)
  simp only [Act.put, List.setIfInBounds_toArray, List.set_cons_zero, List.set_cons_succ]
  refine inv_take (v := ?v2) [2, 3, 12, 13] 1 hI rfl (by kernel_rfl) (by kernel_rfl) (by kernel_rfl) (by kernel_rfl) (by kernel_rfl) (fun _ _ _ h => h) (by kernel_rfl) (fun V hV => ?hy2) ?go2
  case hy2 => (obtain ⟨i0, i1, i2, i3, i4, i5, i6, i7, i8, i9⟩ := hV; go_simp <;> rfl)
  simp only [Act.put, List.setIfInBounds_toArray, List.set_cons_zero, List.set_cons_succ]
  refine inv_take (v := ?v3) [3, 12, 13] 2 hI rfl (by kernel_rfl) (by kernel_rfl) (by kernel_rfl) (by kernel_rfl) (by kernel_rfl) (fun _ _ _ h => h) (by kernel_rfl) (fun V hV => ?hy3) ?go3
  case hy3 => (obtain ⟨i0, i1, i2, i3, i4, i5, i6, i7, i8, i9⟩ := hV; go_simp <;> rfl)
  simp only [Act.put, List.setIfInBounds_toArray, List.set_cons_zero, List.set_cons_succ]
  refine inv_take (v := ?v4) [12, 13] 3 hI rfl (by kernel_rfl) (by kernel_rfl) (by kernel_rfl) (by kernel_rfl) (by kernel_rfl) (fun _ _ _ h => h) (by kernel_rfl) (fun V hV => ?hy4) ?go4
  case hy4 => (obtain ⟨i0, i1, i2, i3, i4, i5, i6, i7, i8, i9⟩ := hV; go_simp <;> rfl)
  simp only [Act.put, List.setIfInBounds_toArray, List.set_cons_zero, List.set_cons_succ]
  refine inv_take (v := ?v5) [5, 12, 13] 4 hI rfl (by kernel_rfl) (by kernel_rfl) (by kernel_rfl) (by kernel_rfl) (by kernel_rfl) (fun _ _ _ h => h) (by kernel_rfl) (fun V hV => ?hy5) ?go5
  case hy5 => (obtain ⟨i0, i1, i2, i3, i4, i5, i6, i7, i8, i9⟩ := hV; go_simp <;> rfl)
  simp only [Act.put, List.setIfInBounds_toArray, List.set_cons_zero, List.set_cons_succ]
  refine inv_take (v := ?v6) [12, 13] 5 hI rfl (by kernel_rfl) (by kernel_rfl) (by kernel_rfl) (by kernel_rfl) (by kernel_rfl) (fun _ _ _ h => h) (by kernel_rfl) (fun V hV => ?hy6) ?go6
  case hy6 => (obtain ⟨i0, i1, i2, i3, i4, i5, i6, i7, i8, i9⟩ := hV; go_simp <;> rfl)
  simp only [Act.put, List.setIfInBounds_toArray, List.set_cons_zero, List.set_cons_succ]
  refine inv_take (v := ?v7) [7, 12, 13] 6 hI rfl (by kernel_rfl) (by kernel_rfl) (by kernel_rfl) (by kernel_rfl) (by kernel_rfl) (fun _ _ _ h => h) (by kernel_rfl) (fun V hV => ?hy7) ?go7
  case hy7 => (obtain ⟨i0, i1, i2, i3, i4, i5, i6, i7, i8, i9⟩ := hV; go_simp <;> rfl)
  simp only [Act.put, List.setIfInBounds_toArray, List.set_cons_zero, List.set_cons_succ]
  refine inv_take (v := ?v8) [12, 13] 7 hI rfl (by kernel_rfl) (by kernel_rfl) (by kernel_rfl) (by kernel_rfl) (by kernel_rfl) (fun _ _ _ h => h) (by kernel_rfl) (fun V hV => ?hy8) ?go8
  case hy8 => (obtain ⟨i0, i1, i2, i3, i4, i5, i6, i7, i8, i9⟩ := hV; go_simp <;> rfl)
  simp only [Act.put, List.setIfInBounds_toArray, List.set_cons_zero, List.set_cons_succ]
  refine inv_take (v := ?v9) [9, 12, 13] 8 hI rfl (by kernel_rfl) (by kernel_rfl) (by kernel_rfl) (by kernel_rfl) (by kernel_rfl) (fun _ _ _ h => h) (by kernel_rfl) (fun V hV => ?hy9) ?go9
  case hy9 => (obtain ⟨i0, i1, i2, i3, i4, i5, i6, i7, i8, i9⟩ := hV; go_simp <;> rfl)
  simp only [Act.put, List.setIfInBounds_toArray, List.set_cons_zero, List.set_cons_succ]
  refine inv_take (v := ?v10) [12, 13] 9 hI rfl (by kernel_rfl) (by kernel_rfl) (by kernel_rfl) (by kernel_rfl) (by kernel_rfl) (fun _ _ _ h => h) (by kernel_rfl) (fun V hV => ?hy10) ?go10
  case hy10 => (obtain ⟨i0, i1, i2, i3, i4, i5, i6, i7, i8, i9⟩ := hV; go_simp <;> rfl)
  simp only [Act.put, List.setIfInBounds_toArray, List.set_cons_zero, List.set_cons_succ]
  refine inv_take (v := ?v11) [11, 12, 13] 10 hI rfl (by kernel_rfl) (by kernel_rfl) (by kernel_rfl) (by kernel_rfl) (by kernel_rfl) (fun _ _ _ h => h) (by kernel_rfl) (fun V hV => ?hy11) ?go11
  case hy11 => (obtain ⟨i0, i1, i2, i3, i4, i5, i6, i7, i8, i9⟩ := hV; go_simp <;> rfl)
  simp only [Act.put, List.setIfInBounds_toArray, List.set_cons_zero, List.set_cons_succ]
  refine inv_list 11 (by kernel_rfl) rfl ?_
  go_wp2_with (go_at_call 56; refine (newData_any x a m c Vd hs3).mono ?_; rintro e V1 ⟨a1, m1, c1, rfl, hs4, b1⟩)
  refine then_n ⟨HIB.out _ (next Bd b1), ?_⟩
  have h4 := h3.below b1
  have bp4 := bp3.next b1
  have hB4 := next hB3 b1
  have hm1 : m1 ≤ 17592186044416 := by have h1 := hs4.len; have h5 : (unlD x).length ≤ 1000 := (by unfold unlD; split; exact hz; simp); omega
  have hset := hp_set h4.hp HL.out x.s x.p a1 m1 c1 (unlD x) hs4 hm1
  clear h3 bp3 hB3 hs3 b1 Bd HIB hI hm1 hs4
  try simp only [Act.put, List.setIfInBounds_toArray, List.set_cons_zero, List.set_cons_succ]
  refine inv_write 12 (by kernel_rfl) (by kernel_rfl) rfl ?_
  obtain ⟨E, hE⟩ : ∃ E, (setR N K L x.l x.s x.p (unlD x)).1 = E := ⟨_, rfl⟩
  rw [hE] at hset he
  have HEE : Hid ((setR N K L x.l x.s x.p (unlD x)).1 = E) := hE
  clear hE
  have heb : (E != 0) = true := by simp [he]
  have hLL : (setR N K L x.l x.s x.p (unlD x)).2 = L := by
    have h1 := HEE.out
    unfold setR at h1 ⊢
    split at h1
    · split at h1
      · exact absurd h1.symm he
      · rename_i hh1 hh2
        rw [if_pos hh1, if_neg hh2]
    · rename_i hh1
      rw [if_neg hh1]
  rw [hLL] at hset
  clear hLL he
  go_wp2_with (go_at_call 55; refine hset.mono ?_; rintro e V2 ⟨rfl, hk2, p2⟩)
  refine then_n ?_
  obtain ⟨hk3, h5⟩ := h4.call hk2 p2
  have hK := Keep.pre hB4 (hk3.mono (G := NX w X) (fun j _ hj => nx_less (fun j hx => .inl hx) hj))
  clear hk2 hk3 p2 bp4 h4 hB4 hset
  refine any_list 13 (by kernel_rfl) rfl ?_
  go_wp2_with fail
  refine then_n ?_
  refine any_done (by kernel_rfl) ?_
  go_wp2_with fail
  go_ret
  exact ⟨by rw [HEE.out]; rfl, hK, h5.off (fun j hj => .inl hj)⟩
set_option maxHeartbeats 1600000 in
theorem hunlock_ok (h : PH w wx g g1 g2 X N K node L n o q) (x : Pk) (a : Option Addr) (m c : Nat) (hsl : Sl wx a m c x.z) (hl : In64 x.l) (ho : ownT o x.l = x.f) (hf : 0 ≤ x.f) (hz : x.z.length ≤ 1000) (he : (setR N K L x.l x.s x.p (unlD x)).1 = 0) :
    Calls Try.prog 30 #[.pointer (some ⟨g, 0, none⟩), x.val (.slice a m c)] wx fun e w' => e = .returned (.int .i64 0) ∧ Keep (NX w X) wx w' ∧ PH w w' g g1 g2 X N K node (setR N K L x.l x.s x.p (unlD x)).2 n (relO o x.l) q := by
  have hob : (ownT o x.l != x.f) = false := by simp [ho]
  have HL : Hid (In64 x.l) := hl
  have HO : Hid (ownT o x.l = x.f ∧ 0 ≤ x.f) := ⟨ho, hf⟩
  clear hl ho hf
  unfold Pk.val
  go_enter Try.func30, Try.ntmps30
  go_upto_region 1 with fail
  have hB : Below wx.heap.size wx (wx.alloc (.cells #[.int .i64 x.k, .int .i64 x.f, .int .i64 x.t, .int .i64 x.i, .int .i64 x.l, .int .i64 x.p, .int .i64 x.s, .bool x.fl, .slice a m c] 32)) := ba (Below.refl _ _)
  have bxp : Bx (wx.alloc (.cells #[.int .i64 x.k, .int .i64 x.f, .int .i64 x.t, .int .i64 x.i, .int .i64 x.l, .int .i64 x.p, .int .i64 x.s, .bool x.fl, .slice a m c] 32)) wx.heap.size x (.slice a m c) := Bx.made wx x (.slice a m c)
  have h1 := h.own hB
  have hs1 := hsl.below hB
  have HX : Hid (∀ j, X j → j < wx.heap.size) := h.xl
  have HWS : Hid (w.heap.size ≤ wx.heap.size) := h.bel.size
  clear h hsl
  generalize World.alloc _ (.cells #[.int .i64 x.k, .int .i64 x.f, .int .i64 x.t, .int .i64 x.i, .int .i64 x.l, .int .i64 x.p, .int .i64 x.s, .bool x.fl, .slice a m c] 32) = W at *
  obtain ⟨q0, q1, q2, q3, q4, q5, q6, q7, q8, qf, ql⟩ := id bxp
  have c0 := h1.c0
  have c1 := h1.c1
  have lt := h1.lt
  have HSZ : Hid (wx.heap.size < W.heap.size) := bxp.lt
  have uc := @Up.cell
  have uf := @Up.frozen
  refine wp_region_up (by kernel_rfl) (by kernel_rfl) ?_
  repeat (go_big_quiet_step ((go_at_call 11; exact Calls.up_of (owner_is (h1.below (Subtype.property _)) HL.out))))
  refine wpQuiet_nil ?_
  rintro _ ⟨u, rfl⟩
  clear uc uf
  have h2 := h1.below u.2
  have hs2 := hs1.below u.2
  have bp2 := bxp.next u.2
  have hB2 := next hB u.2
  clear q0 q1 q2 q3 q4 q5 q6 q7 q8 qf ql c0 c1 lt bxp h1 hs1
  generalize u.val = V at *
  obtain ⟨q0, q1, q2, q3, q4, q5, q6, q7, q8, qf, ql⟩ := id bp2
  have c0 := h2.c0
  have lt := h2.lt
  go_upto_region 3 with fail
  refine wp_region_orders 14 rfl (by kernel_rfl) ?_
  have Bd : Below V.heap.size V V.drew := (Below.refl _ _).drew
  have hIB : ∀ V', Below V.heap.size V V' → (fun V => V.cell? ⟨g, 0, none⟩ = some (.pointer (some ⟨g1, 0, none⟩)) ∧ V.cell? ⟨wx.heap.size, 0, none⟩ = some (.int .i64 x.k) ∧ V.cell? ⟨wx.heap.size, 1, none⟩ = some (.int .i64 x.f) ∧ V.cell? ⟨wx.heap.size, 2, none⟩ = some (.int .i64 x.t) ∧ V.cell? ⟨wx.heap.size, 3, none⟩ = some (.int .i64 x.i) ∧ V.cell? ⟨wx.heap.size, 4, none⟩ = some (.int .i64 x.l) ∧ V.cell? ⟨wx.heap.size, 5, none⟩ = some (.int .i64 x.p) ∧ V.cell? ⟨wx.heap.size, 6, none⟩ = some (.int .i64 x.s) ∧ V.cell? ⟨wx.heap.size, 7, none⟩ = some (.bool x.fl) ∧ V.cell? ⟨wx.heap.size, 8, none⟩ = some (.slice a m c)) V' := fun V' b => ⟨(b.cell (p := ⟨g, 0, none⟩) lt).trans c0, (b.cell (p := ⟨wx.heap.size, 0, none⟩) ql).trans q0, (b.cell (p := ⟨wx.heap.size, 1, none⟩) ql).trans q1, (b.cell (p := ⟨wx.heap.size, 2, none⟩) ql).trans q2, (b.cell (p := ⟨wx.heap.size, 3, none⟩) ql).trans q3, (b.cell (p := ⟨wx.heap.size, 4, none⟩) ql).trans q4, (b.cell (p := ⟨wx.heap.size, 5, none⟩) ql).trans q5, (b.cell (p := ⟨wx.heap.size, 6, none⟩) ql).trans q6, (b.cell (p := ⟨wx.heap.size, 7, none⟩) ql).trans q7, (b.cell (p := ⟨wx.heap.size, 8, none⟩) ql).trans q8⟩
  have HIB : Hid (∀ V', Below V.heap.size V V' → (fun V => V.cell? ⟨g, 0, none⟩ = some (.pointer (some ⟨g1, 0, none⟩)) ∧ V.cell? ⟨wx.heap.size, 0, none⟩ = some (.int .i64 x.k) ∧ V.cell? ⟨wx.heap.size, 1, none⟩ = some (.int .i64 x.f) ∧ V.cell? ⟨wx.heap.size, 2, none⟩ = some (.int .i64 x.t) ∧ V.cell? ⟨wx.heap.size, 3, none⟩ = some (.int .i64 x.i) ∧ V.cell? ⟨wx.heap.size, 4, none⟩ = some (.int .i64 x.l) ∧ V.cell? ⟨wx.heap.size, 5, none⟩ = some (.int .i64 x.p) ∧ V.cell? ⟨wx.heap.size, 6, none⟩ = some (.int .i64 x.s) ∧ V.cell? ⟨wx.heap.size, 7, none⟩ = some (.bool x.fl) ∧ V.cell? ⟨wx.heap.size, 8, none⟩ = some (.slice a m c)) V') := hIB
  have hI : (fun V => V.cell? ⟨g, 0, none⟩ = some (.pointer (some ⟨g1, 0, none⟩)) ∧ V.cell? ⟨wx.heap.size, 0, none⟩ = some (.int .i64 x.k) ∧ V.cell? ⟨wx.heap.size, 1, none⟩ = some (.int .i64 x.f) ∧ V.cell? ⟨wx.heap.size, 2, none⟩ = some (.int .i64 x.t) ∧ V.cell? ⟨wx.heap.size, 3, none⟩ = some (.int .i64 x.i) ∧ V.cell? ⟨wx.heap.size, 4, none⟩ = some (.int .i64 x.l) ∧ V.cell? ⟨wx.heap.size, 5, none⟩ = some (.int .i64 x.p) ∧ V.cell? ⟨wx.heap.size, 6, none⟩ = some (.int .i64 x.s) ∧ V.cell? ⟨wx.heap.size, 7, none⟩ = some (.bool x.fl) ∧ V.cell? ⟨wx.heap.size, 8, none⟩ = some (.slice a m c)) V.drew := hIB _ Bd
  have h3 := h2.below Bd
  have hs3 := hs2.below Bd
  have bp3 := bp2.next Bd
  have hB3 := next hB2 Bd
  clear hIB q0 q1 q2 q3 q4 q5 q6 q7 q8 qf ql c0 lt bp2 h2 hs2 hB2
  generalize V.drew = Vd at *
  refine any_inv (fun V => V.cell? ⟨g, 0, none⟩ = some (.pointer (some ⟨g1, 0, none⟩)) ∧ V.cell? ⟨wx.heap.size, 0, none⟩ = some (.int .i64 x.k) ∧ V.cell? ⟨wx.heap.size, 1, none⟩ = some (.int .i64 x.f) ∧ V.cell? ⟨wx.heap.size, 2, none⟩ = some (.int .i64 x.t) ∧ V.cell? ⟨wx.heap.size, 3, none⟩ = some (.int .i64 x.i) ∧ V.cell? ⟨wx.heap.size, 4, none⟩ = some (.int .i64 x.l) ∧ V.cell? ⟨wx.heap.size, 5, none⟩ = some (.int .i64 x.p) ∧ V.cell? ⟨wx.heap.size, 6, none⟩ = some (.int .i64 x.s) ∧ V.cell? ⟨wx.heap.size, 7, none⟩ = some (.bool x.fl) ∧ V.cell? ⟨wx.heap.size, 8, none⟩ = some (.slice a m c)) [12] hI ?_
  refine inv_take (v := ?v1) [1, 2, 3, 12, 13] 0 hI rfl (by kernel_rfl) (by kernel_rfl) (by kernel_rfl) (by kernel_rfl) (by kernel_rfl) (fun _ _ _ h => h) (by kernel_rfl) (fun V hV => ?hy1) ?go1
  case hy1 => (obtain ⟨i0, i1, i2, i3, i4, i5, i6, i7, i8, i9⟩ := hV; go_simp <;> rfl)
  simp only [Act.put, List.setIfInBounds_toArray, List.set_cons_zero, List.set_cons_succ]
  refine inv_take (v := ?v2) [2, 3, 12, 13] 1 hI rfl (by kernel_rfl) (by kernel_rfl) (by kernel_rfl) (by kernel_rfl) (by kernel_rfl) (fun _ _ _ h => h) (by kernel_rfl) (fun V hV => ?hy2) ?go2
  case hy2 => (obtain ⟨i0, i1, i2, i3, i4, i5, i6, i7, i8, i9⟩ := hV; go_simp <;> rfl)
  simp only [Act.put, List.setIfInBounds_toArray, List.set_cons_zero, List.set_cons_succ]
  refine inv_take (v := ?v3) [3, 12, 13] 2 hI rfl (by kernel_rfl) (by kernel_rfl) (by kernel_rfl) (by kernel_rfl) (by kernel_rfl) (fun _ _ _ h => h) (by kernel_rfl) (fun V hV => ?hy3) ?go3
  case hy3 => (obtain ⟨i0, i1, i2, i3, i4, i5, i6, i7, i8, i9⟩ := hV; go_simp <;> rfl)
  simp only [Act.put, List.setIfInBounds_toArray, List.set_cons_zero, List.set_cons_succ]
  refine inv_take (v := ?v4) [12, 13] 3 hI rfl (by kernel_rfl) (by kernel_rfl) (by kernel_rfl) (by kernel_rfl) (by kernel_rfl) (fun _ _ _ h => h) (by kernel_rfl) (fun V hV => ?hy4) ?go4
  case hy4 => (obtain ⟨i0, i1, i2, i3, i4, i5, i6, i7, i8, i9⟩ := hV; go_simp <;> rfl)
  simp only [Act.put, List.setIfInBounds_toArray, List.set_cons_zero, List.set_cons_succ]
  refine inv_take (v := ?v5) [5, 12, 13] 4 hI rfl (by kernel_rfl) (by kernel_rfl) (by kernel_rfl) (by kernel_rfl) (by kernel_rfl) (fun _ _ _ h => h) (by kernel_rfl) (fun V hV => ?hy5) ?go5
  case hy5 => (obtain ⟨i0, i1, i2, i3, i4, i5, i6, i7, i8, i9⟩ := hV; go_simp <;> rfl)
  simp only [Act.put, List.setIfInBounds_toArray, List.set_cons_zero, List.set_cons_succ]
  refine inv_take (v := ?v6) [12, 13] 5 hI rfl (by kernel_rfl) (by kernel_rfl) (by kernel_rfl) (by kernel_rfl) (by kernel_rfl) (fun _ _ _ h => h) (by kernel_rfl) (fun V hV => ?hy6) ?go6
  case hy6 => (obtain ⟨i0, i1, i2, i3, i4, i5, i6, i7, i8, i9⟩ := hV; go_simp <;> rfl)
  simp only [Act.put, List.setIfInBounds_toArray, List.set_cons_zero, List.set_cons_succ]
  refine inv_take (v := ?v7) [7, 12, 13] 6 hI rfl (by kernel_rfl) (by kernel_rfl) (by kernel_rfl) (by kernel_rfl) (by kernel_rfl) (fun _ _ _ h => h) (by kernel_rfl) (fun V hV => ?hy7) ?go7
  case hy7 => (obtain ⟨i0, i1, i2, i3, i4, i5, i6, i7, i8, i9⟩ := hV; go_simp <;> rfl)
  simp only [Act.put, List.setIfInBounds_toArray, List.set_cons_zero, List.set_cons_succ]
  refine inv_take (v := ?v8) [12, 13] 7 hI rfl (by kernel_rfl) (by kernel_rfl) (by kernel_rfl) (by kernel_rfl) (by kernel_rfl) (fun _ _ _ h => h) (by kernel_rfl) (fun V hV => ?hy8) ?go8
  case hy8 => (obtain ⟨i0, i1, i2, i3, i4, i5, i6, i7, i8, i9⟩ := hV; go_simp <;> rfl)
  simp only [Act.put, List.setIfInBounds_toArray, List.set_cons_zero, List.set_cons_succ]
  refine inv_take (v := ?v9) [9, 12, 13] 8 hI rfl (by kernel_rfl) (by kernel_rfl) (by kernel_rfl) (by kernel_rfl) (by kernel_rfl) (fun _ _ _ h => h) (by kernel_rfl) (fun V hV => ?hy9) ?go9
  case hy9 => (obtain ⟨i0, i1, i2, i3, i4, i5, i6, i7, i8, i9⟩ := hV; go_simp <;> rfl)
  simp only [Act.put, List.setIfInBounds_toArray, List.set_cons_zero, List.set_cons_succ]
  refine inv_take (v := ?v10) [12, 13] 9 hI rfl (by kernel_rfl) (by kernel_rfl) (by kernel_rfl) (by kernel_rfl) (by kernel_rfl) (fun _ _ _ h => h) (by kernel_rfl) (fun V hV => ?hy10) ?go10
  case hy10 => (obtain ⟨i0, i1, i2, i3, i4, i5, i6, i7, i8, i9⟩ := hV; go_simp <;> rfl)
  simp only [Act.put, List.setIfInBounds_toArray, List.set_cons_zero, List.set_cons_succ]
  refine inv_take (v := ?v11) [11, 12, 13] 10 hI rfl (by kernel_rfl) (by kernel_rfl) (by kernel_rfl) (by kernel_rfl) (by kernel_rfl) (fun _ _ _ h => h) (by kernel_rfl) (fun V hV => ?hy11) ?go11
  case hy11 => (obtain ⟨i0, i1, i2, i3, i4, i5, i6, i7, i8, i9⟩ := hV; go_simp <;> rfl)
  simp only [Act.put, List.setIfInBounds_toArray, List.set_cons_zero, List.set_cons_succ]
  refine inv_list 11 (by kernel_rfl) rfl ?_
  go_wp2_with (go_at_call 56; refine (newData_any x a m c Vd hs3).mono ?_; rintro e V1 ⟨a1, m1, c1, rfl, hs4, b1⟩)
  refine then_n ⟨HIB.out _ (next Bd b1), ?_⟩
  have h4 := h3.below b1
  have bp4 := bp3.next b1
  have hB4 := next hB3 b1
  have hm1 : m1 ≤ 17592186044416 := by have h1 := hs4.len; have h5 : (unlD x).length ≤ 1000 := (by unfold unlD; split; exact hz; simp); omega
  have hset := hp_set h4.hp HL.out x.s x.p a1 m1 c1 (unlD x) hs4 hm1
  clear h3 bp3 hB3 hs3 b1 Bd HIB hI hm1 hs4
  try simp only [Act.put, List.setIfInBounds_toArray, List.set_cons_zero, List.set_cons_succ]
  refine inv_write 12 (by kernel_rfl) (by kernel_rfl) rfl ?_
  obtain ⟨E, hE⟩ : ∃ E, (setR N K L x.l x.s x.p (unlD x)).1 = E := ⟨_, rfl⟩
  rw [hE] at hset he
  have HEE : Hid ((setR N K L x.l x.s x.p (unlD x)).1 = E) := hE
  clear hE
  subst he
  go_wp2_with (go_at_call 55; refine hset.mono ?_; rintro e V2 ⟨rfl, hk2, p2⟩)
  refine then_n ?_
  obtain ⟨hk3, h5⟩ := h4.call hk2 p2
  have bp5 := bp4.keep hk2 (fun hf => hf.2 (.inl (.inr ⟨Nat.le_refl _, HSZ.out⟩)))
  have hK := Keep.pre hB4 (hk3.mono (G := NX w X) (fun j _ hj => nx_less (fun j hx => .inl hx) hj))
  clear hk2 hk3 p2 bp4 h4 hB4 hset
  refine any_list 13 (by kernel_rfl) rfl ?_
  go_wp2_with fail
  refine then_n ?_
  refine any_done (by kernel_rfl) ?_
  obtain ⟨q0, q1, q2, q3, q4, q5, q6, q7, q8, qf, ql⟩ := id bp5
  have c1 := h5.c1
  have lt := h5.lt
  go_upto_region 6 with fail
  refine wp_region_orders 10 rfl (by kernel_rfl) ?_
  have Bd : Below V2.heap.size V2 V2.drew := (Below.refl _ _).drew
  replace c1 := (Bd.cell (p := ⟨g, 1, none⟩) lt).trans c1
  replace q1 := (Bd.cell (p := ⟨wx.heap.size, 1, none⟩) ql).trans q1
  replace q4 := (Bd.cell (p := ⟨wx.heap.size, 4, none⟩) ql).trans q4
  have h6 := h5.below Bd
  have hK6 := hK.trans (Keep.of_below (F := fun _ => False) Bd) (fun _ _ h => h.elim)
  clear q0 q2 q3 q5 q6 q7 q8 qf bp5 h5 hK lt ql
  clear Bd
  generalize V2.drew = V2d at *
  clear V2
  have hI : (fun V => V.cell? ⟨g, 1, none⟩ = some (.pointer (some ⟨g2, 0, none⟩)) ∧ V.cell? ⟨wx.heap.size, 1, none⟩ = some (.int .i64 x.f) ∧ V.cell? ⟨wx.heap.size, 4, none⟩ = some (.int .i64 x.l)) V2d := ⟨c1, q1, q4⟩
  refine any_inv (fun V => V.cell? ⟨g, 1, none⟩ = some (.pointer (some ⟨g2, 0, none⟩)) ∧ V.cell? ⟨wx.heap.size, 1, none⟩ = some (.int .i64 x.f) ∧ V.cell? ⟨wx.heap.size, 4, none⟩ = some (.int .i64 x.l)) [8] hI ?_
  refine inv_take (v := ?v12) [1, 2, 3, 8, 9] 0 hI rfl (by kernel_rfl) (by kernel_rfl) (by kernel_rfl) (by kernel_rfl) (by kernel_rfl) (fun _ _ _ h => h) (by kernel_rfl) (fun V hV => ?hy12) ?go12
  case hy12 => (obtain ⟨i0, i1, i2⟩ := hV; go_simp <;> rfl)
  simp only [Act.put, List.setIfInBounds_toArray, List.set_cons_zero, List.set_cons_succ]
  refine inv_take (v := ?v13) [2, 3, 8, 9] 1 hI rfl (by kernel_rfl) (by kernel_rfl) (by kernel_rfl) (by kernel_rfl) (by kernel_rfl) (fun _ _ _ h => h) (by kernel_rfl) (fun V hV => ?hy13) ?go13
  case hy13 => (obtain ⟨i0, i1, i2⟩ := hV; go_simp <;> rfl)
  simp only [Act.put, List.setIfInBounds_toArray, List.set_cons_zero, List.set_cons_succ]
  refine inv_take (v := ?v14) [3, 8, 9] 2 hI rfl (by kernel_rfl) (by kernel_rfl) (by kernel_rfl) (by kernel_rfl) (by kernel_rfl) (fun _ _ _ h => h) (by kernel_rfl) (fun V hV => ?hy14) ?go14
  case hy14 => (obtain ⟨i0, i1, i2⟩ := hV; go_simp <;> rfl)
  simp only [Act.put, List.setIfInBounds_toArray, List.set_cons_zero, List.set_cons_succ]
  refine inv_take (v := ?v15) [8, 9] 3 hI rfl (by kernel_rfl) (by kernel_rfl) (by kernel_rfl) (by kernel_rfl) (by kernel_rfl) (fun _ _ _ h => h) (by kernel_rfl) (fun V hV => ?hy15) ?go15
  case hy15 => (obtain ⟨i0, i1, i2⟩ := hV; go_simp <;> rfl)
  simp only [Act.put, List.setIfInBounds_toArray, List.set_cons_zero, List.set_cons_succ]
  refine inv_take (v := ?v16) [5, 8, 9] 4 hI rfl (by kernel_rfl) (by kernel_rfl) (by kernel_rfl) (by kernel_rfl) (by kernel_rfl) (fun _ _ _ h => h) (by kernel_rfl) (fun V hV => ?hy16) ?go16
  case hy16 => (obtain ⟨i0, i1, i2⟩ := hV; go_simp <;> rfl)
  simp only [Act.put, List.setIfInBounds_toArray, List.set_cons_zero, List.set_cons_succ]
  refine inv_take (v := ?v17) [8, 9] 5 hI rfl (by kernel_rfl) (by kernel_rfl) (by kernel_rfl) (by kernel_rfl) (by kernel_rfl) (fun _ _ _ h => h) (by kernel_rfl) (fun V hV => ?hy17) ?go17
  case hy17 => (obtain ⟨i0, i1, i2⟩ := hV; go_simp <;> rfl)
  simp only [Act.put, List.setIfInBounds_toArray, List.set_cons_zero, List.set_cons_succ]
  refine inv_take (v := ?v18) [7, 8, 9] 6 hI rfl (by kernel_rfl) (by kernel_rfl) (by kernel_rfl) (by kernel_rfl) (by kernel_rfl) (fun _ _ _ h => h) (by kernel_rfl) (fun V hV => ?hy18) ?go18
  case hy18 => (obtain ⟨i0, i1, i2⟩ := hV; go_simp <;> rfl)
  simp only [Act.put, List.setIfInBounds_toArray, List.set_cons_zero, List.set_cons_succ]
  refine inv_take (v := ?v19) [8, 9] 7 hI rfl (by kernel_rfl) (by kernel_rfl) (by kernel_rfl) (by kernel_rfl) (by kernel_rfl) (fun _ _ _ h => h) (by kernel_rfl) (fun V hV => ?hy19) ?go19
  case hy19 => (obtain ⟨i0, i1, i2⟩ := hV; go_simp <;> rfl)
  simp only [Act.put, List.setIfInBounds_toArray, List.set_cons_zero, List.set_cons_succ]
  refine inv_write 8 (by kernel_rfl) (by kernel_rfl) rfl ?_
  go_wp2_with (go_at_call 57; refine (hp_release h6.hp HL.out HO.out.2 HO.out.1).mono ?_; rintro e V3 ⟨rfl, hk2, p2⟩)
  refine then_n ?_
  refine any_list 9 (by kernel_rfl) rfl ?_
  go_wp2_with fail
  refine then_n ?_
  refine any_done (by kernel_rfl) ?_
  obtain ⟨hk3, h7⟩ := h6.call hk2 p2
  have hK7 := hK6.trans (hk3.mono (G := NX w X) (fun j _ hj => nx_less (fun j hx => .inl hx) hj)) (fun j _ h => h)
  go_wp2_with fail
  go_ret
  exact ⟨rfl, hK7, h7.off (fun j hj => .inl hj)⟩
end
end Go.Proofs.Ytgeiagndpfdnlaa
