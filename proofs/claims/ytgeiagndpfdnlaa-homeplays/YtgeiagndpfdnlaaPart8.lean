/- The program's home: unlock. Conditions: as each theorem states them.
The program's home: Handle. Conditions: as each theorem states them.
The program's home: Handle of an Unlock. Conditions: as each theorem states them.
The program's home: Pending, Grant, New. Conditions: as each theorem states them.
The program's home: New, and the example that each of chapter 11's laws looks at. Conditions: as each theorem states them.
The program's home: a request that is not taken, or not done. Conditions: as each theorem states them.
The program's rows are those of the document's whose home is here (mathematics of MemdirPlays). Nothing of the program is named here.
The document's homes with their turns (HD), on plain data: its rows, who has which line, who waits. Conditions: as each theorem states them. -/
import Derived.Test.YtgeiagndpfdnlaaPart7
import Derived.Test.YtgeiagndpfdnlaaPart4
import Derived.Test.YtgeiagndpfdnlaaPart6
section
namespace Go.Proofs.Ytgeiagndpfdnlaa
open Go.RowKit Go.Maps
set_option linter.unusedVariables false
set_option maxRecDepth 20000

/-- The data that an Unlock sets. -/
def unlD (x : Pk) : List Int := if x.fl = true then x.z else []
theorem newData_any (x : Pk) (a : Option Addr) (m c : Nat) (w : World) (hsl : Sl w a m c x.z) : Calls Try.prog 56 #[x.val (.slice a m c)] w fun e w' => ∃ a' m' c', e = .returned (.slice a' m' c') ∧ Sl w' a' m' c' (unlD x) ∧ Below w.heap.size w w' := by
  unfold unlD
  cases hf : x.fl with
  | true =>
    refine (hnewData_yes x _ hf w).mono ?_
    rintro e w' ⟨rfl, hb⟩
    exact ⟨a, m, c, rfl, by rw [if_pos rfl]; exact hsl.below hb, hb⟩
  | false =>
    refine (hnewData_no x (.slice a m c) hf w).mono ?_
    rintro e w' ⟨rfl, hb⟩
    exact ⟨none, 0, 0, rfl, by rw [if_neg (by simp)]; exact sl_nil _, hb⟩
section
variable {w wx wy : World} {g g1 g2 n N : Nat} {X Y : Nat → Prop} {K node : Int} {L : List Hr} {o : List (Int × Int)} {q : List Wr}
theorem owner_is (h : PH w wx g g1 g2 X N K node L n o q) {l : Int} (hl : In64 l) : Calls Try.prog 11 #[.pointer (some ⟨g2, 0, none⟩), .int .i64 l] wx fun e w' => e = .returned (.int .i64 (ownT o l)) ∧ Below wx.heap.size wx w' := by
  refine (hp_owner h.hp hl).mono ?_
  rintro e w' ⟨rfl, rfl⟩
  exact ⟨rfl, Below.refl _ _⟩
set_option maxHeartbeats 1600000 in
theorem hunlock_state (h : PH w wx g g1 g2 X N K node L n o q) (x : Pk) (a : Option Addr) (m c : Nat) (hsl : Sl wx a m c x.z) (hl : In64 x.l) (ho : ownT o x.l ≠ x.f) :
    Calls Try.prog 30 #[.pointer (some ⟨g, 0, none⟩), x.val (.slice a m c)] wx fun e w' => e = .returned (.int .i64 6) ∧ Below wx.heap.size wx w' := by
  have hob : (ownT o x.l != x.f) = true := by simp [ho]
  have HL : Hid (In64 x.l) := hl
  clear hl ho
  unfold Pk.val
  go_enter Try.func30, Try.ntmps30
  go_upto_region 1 with fail
  have hB : Below wx.heap.size wx (wx.alloc (.cells #[.int .i64 x.k, .int .i64 x.f, .int .i64 x.t, .int .i64 x.i, .int .i64 x.l, .int .i64 x.p, .int .i64 x.s, .bool x.fl, .slice a m c] 32)) := ba (Below.refl _ _)
  have bxp : Bx (wx.alloc (.cells #[.int .i64 x.k, .int .i64 x.f, .int .i64 x.t, .int .i64 x.i, .int .i64 x.l, .int .i64 x.p, .int .i64 x.s, .bool x.fl, .slice a m c] 32)) wx.heap.size x (.slice a m c) := Bx.made wx x (.slice a m c)
  have h1 := h.own hB
  have hs1 := hsl.below hB
  have HX : Hid (∀ j, X j → j < wx.heap.size) := h.xl
  have HWS : Hid (w.heap.size ≤ wx.heap.size) := h.bel.size
  clear h hsl
  generalize World.alloc _ (.cells #[.int .i64 x.k, .int .i64 x.f, .int .i64 x.t, .int .i64 x.i, .int .i64 x.l, .int .i64 x.p, .int .i64 x.s, .bool x.fl, .slice a m c] 32) = W at *
  obtain ⟨q0, q1, q2, q3, q4, q5, q6, q7, q8, qf, ql⟩ := id bxp
  have c0 := h1.c0
  have c1 := h1.c1
  have lt := h1.lt
  have uc := @Up.cell
  have uf := @Up.frozen
  refine wp_region_up (by kernel_rfl) (by kernel_rfl) ?_
  repeat (go_big_quiet_step ((go_at_call 11; exact Calls.up_of (owner_is (h1.below (Subtype.property _)) HL.out))))
  refine wpQuiet_nil ?_
  rintro _ ⟨u, rfl⟩
  clear uc uf
  have h2 := h1.below u.2
  have hs2 := hs1.below u.2
  have bp2 := bxp.next u.2
  have hB2 := next hB u.2
  clear q0 q1 q2 q3 q4 q5 q6 q7 q8 qf ql c0 c1 lt bxp h1 hs1
  go_wp2_with fail
  go_ret
  exact ⟨rfl, hB2⟩
set_option maxHeartbeats 1600000 in
theorem hunlock_err (h : PH w wx g g1 g2 X N K node L n o q) (x : Pk) (a : Option Addr) (m c : Nat) (hsl : Sl wx a m c x.z) (hl : In64 x.l) (ho : ownT o x.l = x.f) (hf : 0 ≤ x.f) (hz : x.z.length ≤ 1000) (he : (setR N K L x.l x.s x.p (unlD x)).1 ≠ 0) :
    Calls Try.prog 30 #[.pointer (some ⟨g, 0, none⟩), x.val (.slice a m c)] wx fun e w' => e = .returned (.int .i64 (setR N K L x.l x.s x.p (unlD x)).1) ∧ Keep (NX w X) wx w' ∧ PH w w' g g1 g2 X N K node L n o q := by
  have hob : (ownT o x.l != x.f) = false := by simp [ho]
  have HL : Hid (In64 x.l) := hl
  have HO : Hid (ownT o x.l = x.f ∧ 0 ≤ x.f) := ⟨ho, hf⟩
  clear hl ho hf
  unfold Pk.val
  go_enter Try.func30, Try.ntmps30
  go_upto_region 1 with fail
  have hB : Below wx.heap.size wx (wx.alloc (.cells #[.int .i64 x.k, .int .i64 x.f, .int .i64 x.t, .int .i64 x.i, .int .i64 x.l, .int .i64 x.p, .int .i64 x.s, .bool x.fl, .slice a m c] 32)) := ba (Below.refl _ _)
  have bxp : Bx (wx.alloc (.cells #[.int .i64 x.k, .int .i64 x.f, .int .i64 x.t, .int .i64 x.i, .int .i64 x.l, .int .i64 x.p, .int .i64 x.s, .bool x.fl, .slice a m c] 32)) wx.heap.size x (.slice a m c) := Bx.made wx x (.slice a m c)
  have h1 := h.own hB
  have hs1 := hsl.below hB
  have HX : Hid (∀ j, X j → j < wx.heap.size) := h.xl
  have HWS : Hid (w.heap.size ≤ wx.heap.size) := h.bel.size
  clear h hsl
  generalize World.alloc _ (.cells #[.int .i64 x.k, .int .i64 x.f, .int .i64 x.t, .int .i64 x.i, .int .i64 x.l, .int .i64 x.p, .int .i64 x.s, .bool x.fl, .slice a m c] 32) = W at *
  obtain ⟨q0, q1, q2, q3, q4, q5, q6, q7, q8, qf, ql⟩ := id bxp
  have c0 := h1.c0
  have c1 := h1.c1
  have lt := h1.lt
  have HSZ : Hid (wx.heap.size < W.heap.size) := bxp.lt
  have uc := @Up.cell
  have uf := @Up.frozen
  refine wp_region_up (by kernel_rfl) (by kernel_rfl) ?_
  repeat (go_big_quiet_step ((go_at_call 11; exact Calls.up_of (owner_is (h1.below (Subtype.property _)) HL.out))))
  refine wpQuiet_nil ?_
  rintro _ ⟨u, rfl⟩
  clear uc uf
  have h2 := h1.below u.2
  have hs2 := hs1.below u.2
  have bp2 := bxp.next u.2
  have hB2 := next hB u.2
  clear q0 q1 q2 q3 q4 q5 q6 q7 q8 qf ql c0 c1 lt bxp h1 hs1
  generalize u.val = V at *
  obtain ⟨q0, q1, q2, q3, q4, q5, q6, q7, q8, qf, ql⟩ := id bp2
  have c0 := h2.c0
  have lt := h2.lt
  go_upto_region 3 with fail
  refine wp_region_orders 14 rfl (by kernel_rfl) ?_
  have Bd : Below V.heap.size V V.drew := (Below.refl _ _).drew
  have hIB : ∀ V', Below V.heap.size V V' → (fun V => V.cell? ⟨g, 0, none⟩ = some (.pointer (some ⟨g1, 0, none⟩)) ∧ V.cell? ⟨wx.heap.size, 0, none⟩ = some (.int .i64 x.k) ∧ V.cell? ⟨wx.heap.size, 1, none⟩ = some (.int .i64 x.f) ∧ V.cell? ⟨wx.heap.size, 2, none⟩ = some (.int .i64 x.t) ∧ V.cell? ⟨wx.heap.size, 3, none⟩ = some (.int .i64 x.i) ∧ V.cell? ⟨wx.heap.size, 4, none⟩ = some (.int .i64 x.l) ∧ V.cell? ⟨wx.heap.size, 5, none⟩ = some (.int .i64 x.p) ∧ V.cell? ⟨wx.heap.size, 6, none⟩ = some (.int .i64 x.s) ∧ V.cell? ⟨wx.heap.size, 7, none⟩ = some (.bool x.fl) ∧ V.cell? ⟨wx.heap.size, 8, none⟩ = some (.slice a m c)) V' := fun V' b => ⟨(b.cell (p := ⟨g, 0, none⟩) lt).trans c0, (b.cell (p := ⟨wx.heap.size, 0, none⟩) ql).trans q0, (b.cell (p := ⟨wx.heap.size, 1, none⟩) ql).trans q1, (b.cell (p := ⟨wx.heap.size, 2, none⟩) ql).trans q2, (b.cell (p := ⟨wx.heap.size, 3, none⟩) ql).trans q3, (b.cell (p := ⟨wx.heap.size, 4, none⟩) ql).trans q4, (b.cell (p := ⟨wx.heap.size, 5, none⟩) ql).trans q5, (b.cell (p := ⟨wx.heap.size, 6, none⟩) ql).trans q6, (b.cell (p := ⟨wx.heap.size, 7, none⟩) ql).trans q7, (b.cell (p := ⟨wx.heap.size, 8, none⟩) ql).trans q8⟩
  have HIB : Hid (∀ V', Below V.heap.size V V' → (fun V => V.cell? ⟨g, 0, none⟩ = some (.pointer (some ⟨g1, 0, none⟩)) ∧ V.cell? ⟨wx.heap.size, 0, none⟩ = some (.int .i64 x.k) ∧ V.cell? ⟨wx.heap.size, 1, none⟩ = some (.int .i64 x.f) ∧ V.cell? ⟨wx.heap.size, 2, none⟩ = some (.int .i64 x.t) ∧ V.cell? ⟨wx.heap.size, 3, none⟩ = some (.int .i64 x.i) ∧ V.cell? ⟨wx.heap.size, 4, none⟩ = some (.int .i64 x.l) ∧ V.cell? ⟨wx.heap.size, 5, none⟩ = some (.int .i64 x.p) ∧ V.cell? ⟨wx.heap.size, 6, none⟩ = some (.int .i64 x.s) ∧ V.cell? ⟨wx.heap.size, 7, none⟩ = some (.bool x.fl) ∧ V.cell? ⟨wx.heap.size, 8, none⟩ = some (.slice a m c)) V') := hIB
  have hI : (fun V => V.cell? ⟨g, 0, none⟩ = some (.pointer (some ⟨g1, 0, none⟩)) ∧ V.cell? ⟨wx.heap.size, 0, none⟩ = some (.int .i64 x.k) ∧ V.cell? ⟨wx.heap.size, 1, none⟩ = some (.int .i64 x.f) ∧ V.cell? ⟨wx.heap.size, 2, none⟩ = some (.int .i64 x.t) ∧ V.cell? ⟨wx.heap.size, 3, none⟩ = some (.int .i64 x.i) ∧ V.cell? ⟨wx.heap.size, 4, none⟩ = some (.int .i64 x.l) ∧ V.cell? ⟨wx.heap.size, 5, none⟩ = some (.int .i64 x.p) ∧ V.cell? ⟨wx.heap.size, 6, none⟩ = some (.int .i64 x.s) ∧ V.cell? ⟨wx.heap.size, 7, none⟩ = some (.bool x.fl) ∧ V.cell? ⟨wx.heap.size, 8, none⟩ = some (.slice a m c)) V.drew := hIB _ Bd
  have h3 := h2.below Bd
  have hs3 := hs2.below Bd
  have bp3 := bp2.next Bd
  have hB3 := next hB2 Bd
  clear hIB q0 q1 q2 q3 q4 q5 q6 q7 q8 qf ql c0 lt bp2 h2 hs2 hB2
  generalize V.drew = Vd at *
  refine any_inv (fun V => V.cell? ⟨g, 0, none⟩ = some (.pointer (some ⟨g1, 0, none⟩)) ∧ V.cell? ⟨wx.heap.size, 0, none⟩ = some (.int .i64 x.k) ∧ V.cell? ⟨wx.heap.size, 1, none⟩ = some (.int .i64 x.f) ∧ V.cell? ⟨wx.heap.size, 2, none⟩ = some (.int .i64 x.t) ∧ V.cell? ⟨wx.heap.size, 3, none⟩ = some (.int .i64 x.i) ∧ V.cell? ⟨wx.heap.size, 4, none⟩ = some (.int .i64 x.l) ∧ V.cell? ⟨wx.heap.size, 5, none⟩ = some (.int .i64 x.p) ∧ V.cell? ⟨wx.heap.size, 6, none⟩ = some (.int .i64 x.s) ∧ V.cell? ⟨wx.heap.size, 7, none⟩ = some (.bool x.fl) ∧ V.cell? ⟨wx.heap.size, 8, none⟩ = some (.slice a m c)) [12] hI ?_
  refine inv_take (v := ?v1) [1, 2, 3, 12, 13] 0 hI rfl (by kernel_rfl) (by kernel_rfl) (by kernel_rfl) (by kernel_rfl) (by kernel_rfl) (fun _ _ _ h => h) (by kernel_rfl) (fun V hV => ?hy1) ?go1
  case hy1 => (obtain ⟨i0, i1, i2, i3, i4, i5, i6, i7, i8, i9⟩ := hV; go_simp <;> rfl)
  simp only [Act.put, List.setIfInBounds_toArray, List.set_cons_zero, List.set_cons_succ]
  refine inv_take (v := ?v2) [2, 3, 12, 13] 1 hI rfl (by kernel_rfl) (by kernel_rfl) (by kernel_rfl) (by kernel_rfl) (by kernel_rfl) (fun _ _ _ h => h) (by kernel_rfl) (fun V hV => ?hy2) ?go2
  case hy2 => (obtain ⟨i0, i1, i2, i3, i4, i5, i6, i7, i8, i9⟩ := hV; go_simp <;> rfl)
  simp only [Act.put, List.setIfInBounds_toArray, List.set_cons_zero, List.set_cons_succ]
  refine inv_take (v := ?v3) [3, 12, 13] 2 hI rfl (by kernel_rfl) (by kernel_rfl) (by kernel_rfl) (by kernel_rfl) (by kernel_rfl) (fun _ _ _ h => h) (by kernel_rfl) (fun V hV => ?hy3) ?go3
  case hy3 => (obtain ⟨i0, i1, i2, i3, i4, i5, i6, i7, i8, i9⟩ := hV; go_simp <;> rfl)
  simp only [Act.put, List.setIfInBounds_toArray, List.set_cons_zero, List.set_cons_succ]
  refine inv_take (v := ?v4) [12, 13] 3 hI rfl (by kernel_rfl) (by kernel_rfl) (by kernel_rfl) (by kernel_rfl) (by kernel_rfl) (fun _ _ _ h => h) (by kernel_rfl) (fun V hV => ?hy4) ?go4
  case hy4 => (obtain ⟨i0, i1, i2, i3, i4, i5, i6, i7, i8, i9⟩ := hV; go_simp <;> rfl)
  simp only [Act.put, List.setIfInBounds_toArray, List.set_cons_zero, List.set_cons_succ]
  refine inv_take (v := ?v5) [5, 12, 13] 4 hI rfl (by kernel_rfl) (by kernel_rfl) (by kernel_rfl) (by kernel_rfl) (by kernel_rfl) (fun _ _ _ h => h) (by kernel_rfl) (fun V hV => ?hy5) ?go5
  case hy5 => (obtain ⟨i0, i1, i2, i3, i4, i5, i6, i7, i8, i9⟩ := hV; go_simp <;> rfl)
  simp only [Act.put, List.setIfInBounds_toArray, List.set_cons_zero, List.set_cons_succ]
  refine inv_take (v := ?v6) [12, 13] 5 hI rfl (by kernel_rfl) (by kernel_rfl) (by kernel_rfl) (by kernel_rfl) (by kernel_rfl) (fun _ _ _ h => h) (by kernel_rfl) (fun V hV => ?hy6) ?go6
  case hy6 => (obtain ⟨i0, i1, i2, i3, i4, i5, i6, i7, i8, i9⟩ := hV; go_simp <;> rfl)
  simp only [Act.put, List.setIfInBounds_toArray, List.set_cons_zero, List.set_cons_succ]
  refine inv_take (v := ?v7) [7, 12, 13] 6 hI rfl (by kernel_rfl) (by kernel_rfl) (by kernel_rfl) (by kernel_rfl) (by kernel_rfl) (fun _ _ _ h => h) (by kernel_rfl) (fun V hV => ?hy7) ?go7
  case hy7 => (obtain ⟨i0, i1, i2, i3, i4, i5, i6, i7, i8, i9⟩ := hV; go_simp <;> rfl)
  simp only [Act.put, List.setIfInBounds_toArray, List.set_cons_zero, List.set_cons_succ]
  refine inv_take (v := ?v8) [12, 13] 7 hI rfl (by kernel_rfl) (by kernel_rfl) (by kernel_rfl) (by kernel_rfl) (by kernel_rfl) (fun _ _ _ h => h) (by kernel_rfl) (fun V hV => ?hy8) ?go8
  case hy8 => (obtain ⟨i0, i1, i2, i3, i4, i5, i6, i7, i8, i9⟩ := hV; go_simp <;> rfl)
  simp only [Act.put, List.setIfInBounds_toArray, List.set_cons_zero, List.set_cons_succ]
  refine inv_take (v := ?v9) [9, 12, 13] 8 hI rfl (by kernel_rfl) (by kernel_rfl) (by kernel_rfl) (by kernel_rfl) (by kernel_rfl) (fun _ _ _ h => h) (by kernel_rfl) (fun V hV => ?hy9) ?go9
  case hy9 => (obtain ⟨i0, i1, i2, i3, i4, i5, i6, i7, i8, i9⟩ := hV; go_simp <;> rfl)
  simp only [Act.put, List.setIfInBounds_toArray, List.set_cons_zero, List.set_cons_succ]
  refine inv_take (v := ?v10) [12, 13] 9 hI rfl (by kernel_rfl) (by kernel_rfl) (by kernel_rfl) (by kernel_rfl) (by kernel_rfl) (fun _ _ _ h => h) (by kernel_rfl) (fun V hV => ?hy10) ?go10
  case hy10 => (obtain ⟨i0, i1, i2, i3, i4, i5, i6, i7, i8, i9⟩ := hV; go_simp <;> rfl)
  simp only [Act.put, List.setIfInBounds_toArray, List.set_cons_zero, List.set_cons_succ]
  refine inv_take (v := ?v11) [11, 12, 13] 10 hI rfl (by kernel_rfl) (by kernel_rfl) (by kernel_rfl) (by kernel_rfl) (by kernel_rfl) (fun _ _ _ h => h) (by kernel_rfl) (fun V hV => ?hy11) ?go11
  case hy11 => (obtain ⟨i0, i1, i2, i3, i4, i5, i6, i7, i8, i9⟩ := hV; go_simp <;> rfl)
  simp only [Act.put, List.setIfInBounds_toArray, List.set_cons_zero, List.set_cons_succ]
  refine inv_list 11 (by kernel_rfl) rfl ?_
  go_wp2_with (go_at_call 56; refine (newData_any x a m c Vd hs3).mono ?_; rintro e V1 ⟨a1, m1, c1, rfl, hs4, b1⟩)
  refine then_n ⟨HIB.out _ (next Bd b1), ?_⟩
  have h4 := h3.below b1
  have bp4 := bp3.next b1
  have hB4 := next hB3 b1
  have hm1 : m1 ≤ 17592186044416 := by have h1 := hs4.len; have h5 : (unlD x).length ≤ 1000 := (by unfold unlD; split; exact hz; simp); omega
  have hset := hp_set h4.hp HL.out x.s x.p a1 m1 c1 (unlD x) hs4 hm1
  clear h3 bp3 hB3 hs3 b1 Bd HIB hI hm1 hs4
  try simp only [Act.put, List.setIfInBounds_toArray, List.set_cons_zero, List.set_cons_succ]
  refine inv_write 12 (by kernel_rfl) (by kernel_rfl) rfl ?_
  obtain ⟨E, hE⟩ : ∃ E, (setR N K L x.l x.s x.p (unlD x)).1 = E := ⟨_, rfl⟩
  rw [hE] at hset he
  have HEE : Hid ((setR N K L x.l x.s x.p (unlD x)).1 = E) := hE
  clear hE
  have heb : (E != 0) = true := by simp [he]
  have hLL : (setR N K L x.l x.s x.p (unlD x)).2 = L := by
    have h1 := HEE.out
    unfold setR at h1 ⊢
    split at h1
    · split at h1
      · exact absurd h1.symm he
      · rename_i hh1 hh2
        rw [if_pos hh1, if_neg hh2]
    · rename_i hh1
      rw [if_neg hh1]
  rw [hLL] at hset
  clear hLL he
  go_wp2_with (go_at_call 55; refine hset.mono ?_; rintro e V2 ⟨rfl, hk2, p2⟩)
  refine then_n ?_
  obtain ⟨hk3, h5⟩ := h4.call hk2 p2
  have hK := Keep.pre hB4 (hk3.mono (G := NX w X) (fun j _ hj => nx_less (fun j hx => .inl hx) hj))
  clear hk2 hk3 p2 bp4 h4 hB4 hset
  refine any_list 13 (by kernel_rfl) rfl ?_
  go_wp2_with fail
  refine then_n ?_
  refine any_done (by kernel_rfl) ?_
  go_wp2_with fail
  go_ret
  exact ⟨by rw [HEE.out]; rfl, hK, h5.off (fun j hj => .inl hj)⟩
set_option maxHeartbeats 1600000 in
theorem hunlock_ok (h : PH w wx g g1 g2 X N K node L n o q) (x : Pk) (a : Option Addr) (m c : Nat) (hsl : Sl wx a m c x.z) (hl : In64 x.l) (ho : ownT o x.l = x.f) (hf : 0 ≤ x.f) (hz : x.z.length ≤ 1000) (he : (setR N K L x.l x.s x.p (unlD x)).1 = 0) :
    Calls Try.prog 30 #[.pointer (some ⟨g, 0, none⟩), x.val (.slice a m c)] wx fun e w' => e = .returned (.int .i64 0) ∧ Keep (NX w X) wx w' ∧ PH w w' g g1 g2 X N K node (setR N K L x.l x.s x.p (unlD x)).2 n (relO o x.l) q := by
  have hob : (ownT o x.l != x.f) = false := by simp [ho]
  have HL : Hid (In64 x.l) := hl
  have HO : Hid (ownT o x.l = x.f ∧ 0 ≤ x.f) := ⟨ho, hf⟩
  clear hl ho hf
  unfold Pk.val
  go_enter Try.func30, Try.ntmps30
  go_upto_region 1 with fail
  have hB : Below wx.heap.size wx (wx.alloc (.cells #[.int .i64 x.k, .int .i64 x.f, .int .i64 x.t, .int .i64 x.i, .int .i64 x.l, .int .i64 x.p, .int .i64 x.s, .bool x.fl, .slice a m c] 32)) := ba (Below.refl _ _)
  have bxp : Bx (wx.alloc (.cells #[.int .i64 x.k, .int .i64 x.f, .int .i64 x.t, .int .i64 x.i, .int .i64 x.l, .int .i64 x.p, .int .i64 x.s, .bool x.fl, .slice a m c] 32)) wx.heap.size x (.slice a m c) := Bx.made wx x (.slice a m c)
  have h1 := h.own hB
  have hs1 := hsl.below hB
  have HX : Hid (∀ j, X j → j < wx.heap.size) := h.xl
  have HWS : Hid (w.heap.size ≤ wx.heap.size) := h.bel.size
  clear h hsl
  generalize World.alloc _ (.cells #[.int .i64 x.k, .int .i64 x.f, .int .i64 x.t, .int .i64 x.i, .int .i64 x.l, .int .i64 x.p, .int .i64 x.s, .bool x.fl, .slice a m c] 32) = W at *
  obtain ⟨q0, q1, q2, q3, q4, q5, q6, q7, q8, qf, ql⟩ := id bxp
  have c0 := h1.c0
  have c1 := h1.c1
  have lt := h1.lt
  have HSZ : Hid (wx.heap.size < W.heap.size) := bxp.lt
  have uc := @Up.cell
  have uf := @Up.frozen
  refine wp_region_up (by kernel_rfl) (by kernel_rfl) ?_
  repeat (go_big_quiet_step ((go_at_call 11; exact Calls.up_of (owner_is (h1.below (Subtype.property _)) HL.out))))
  refine wpQuiet_nil ?_
  rintro _ ⟨u, rfl⟩
  clear uc uf
  have h2 := h1.below u.2
  have hs2 := hs1.below u.2
  have bp2 := bxp.next u.2
  have hB2 := next hB u.2
  clear q0 q1 q2 q3 q4 q5 q6 q7 q8 qf ql c0 c1 lt bxp h1 hs1
  generalize u.val = V at *
  obtain ⟨q0, q1, q2, q3, q4, q5, q6, q7, q8, qf, ql⟩ := id bp2
  have c0 := h2.c0
  have lt := h2.lt
  go_upto_region 3 with fail
  refine wp_region_orders 14 rfl (by kernel_rfl) ?_
  have Bd : Below V.heap.size V V.drew := (Below.refl _ _).drew
  have hIB : ∀ V', Below V.heap.size V V' → (fun V => V.cell? ⟨g, 0, none⟩ = some (.pointer (some ⟨g1, 0, none⟩)) ∧ V.cell? ⟨wx.heap.size, 0, none⟩ = some (.int .i64 x.k) ∧ V.cell? ⟨wx.heap.size, 1, none⟩ = some (.int .i64 x.f) ∧ V.cell? ⟨wx.heap.size, 2, none⟩ = some (.int .i64 x.t) ∧ V.cell? ⟨wx.heap.size, 3, none⟩ = some (.int .i64 x.i) ∧ V.cell? ⟨wx.heap.size, 4, none⟩ = some (.int .i64 x.l) ∧ V.cell? ⟨wx.heap.size, 5, none⟩ = some (.int .i64 x.p) ∧ V.cell? ⟨wx.heap.size, 6, none⟩ = some (.int .i64 x.s) ∧ V.cell? ⟨wx.heap.size, 7, none⟩ = some (.bool x.fl) ∧ V.cell? ⟨wx.heap.size, 8, none⟩ = some (.slice a m c)) V' := fun V' b => ⟨(b.cell (p := ⟨g, 0, none⟩) lt).trans c0, (b.cell (p := ⟨wx.heap.size, 0, none⟩) ql).trans q0, (b.cell (p := ⟨wx.heap.size, 1, none⟩) ql).trans q1, (b.cell (p := ⟨wx.heap.size, 2, none⟩) ql).trans q2, (b.cell (p := ⟨wx.heap.size, 3, none⟩) ql).trans q3, (b.cell (p := ⟨wx.heap.size, 4, none⟩) ql).trans q4, (b.cell (p := ⟨wx.heap.size, 5, none⟩) ql).trans q5, (b.cell (p := ⟨wx.heap.size, 6, none⟩) ql).trans q6, (b.cell (p := ⟨wx.heap.size, 7, none⟩) ql).trans q7, (b.cell (p := ⟨wx.heap.size, 8, none⟩) ql).trans q8⟩
  have HIB : Hid (∀ V', Below V.heap.size V V' → (fun V => V.cell? ⟨g, 0, none⟩ = some (.pointer (some ⟨g1, 0, none⟩)) ∧ V.cell? ⟨wx.heap.size, 0, none⟩ = some (.int .i64 x.k) ∧ V.cell? ⟨wx.heap.size, 1, none⟩ = some (.int .i64 x.f) ∧ V.cell? ⟨wx.heap.size, 2, none⟩ = some (.int .i64 x.t) ∧ V.cell? ⟨wx.heap.size, 3, none⟩ = some (.int .i64 x.i) ∧ V.cell? ⟨wx.heap.size, 4, none⟩ = some (.int .i64 x.l) ∧ V.cell? ⟨wx.heap.size, 5, none⟩ = some (.int .i64 x.p) ∧ V.cell? ⟨wx.heap.size, 6, none⟩ = some (.int .i64 x.s) ∧ V.cell? ⟨wx.heap.size, 7, none⟩ = some (.bool x.fl) ∧ V.cell? ⟨wx.heap.size, 8, none⟩ = some (.slice a m c)) V') := hIB
  have hI : (fun V => V.cell? ⟨g, 0, none⟩ = some (.pointer (some ⟨g1, 0, none⟩)) ∧ V.cell? ⟨wx.heap.size, 0, none⟩ = some (.int .i64 x.k) ∧ V.cell? ⟨wx.heap.size, 1, none⟩ = some (.int .i64 x.f) ∧ V.cell? ⟨wx.heap.size, 2, none⟩ = some (.int .i64 x.t) ∧ V.cell? ⟨wx.heap.size, 3, none⟩ = some (.int .i64 x.i) ∧ V.cell? ⟨wx.heap.size, 4, none⟩ = some (.int .i64 x.l) ∧ V.cell? ⟨wx.heap.size, 5, none⟩ = some (.int .i64 x.p) ∧ V.cell? ⟨wx.heap.size, 6, none⟩ = some (.int .i64 x.s) ∧ V.cell? ⟨wx.heap.size, 7, none⟩ = some (.bool x.fl) ∧ V.cell? ⟨wx.heap.size, 8, none⟩ = some (.slice a m c)) V.drew := hIB _ Bd
  have h3 := h2.below Bd
  have hs3 := hs2.below Bd
  have bp3 := bp2.next Bd
  have hB3 := next hB2 Bd
  clear hIB q0 q1 q2 q3 q4 q5 q6 q7 q8 qf ql c0 lt bp2 h2 hs2 hB2
  generalize V.drew = Vd at *
  refine any_inv (fun V => V.cell? ⟨g, 0, none⟩ = some (.pointer (some ⟨g1, 0, none⟩)) ∧ V.cell? ⟨wx.heap.size, 0, none⟩ = some (.int .i64 x.k) ∧ V.cell? ⟨wx.heap.size, 1, none⟩ = some (.int .i64 x.f) ∧ V.cell? ⟨wx.heap.size, 2, none⟩ = some (.int .i64 x.t) ∧ V.cell? ⟨wx.heap.size, 3, none⟩ = some (.int .i64 x.i) ∧ V.cell? ⟨wx.heap.size, 4, none⟩ = some (.int .i64 x.l) ∧ V.cell? ⟨wx.heap.size, 5, none⟩ = some (.int .i64 x.p) ∧ V.cell? ⟨wx.heap.size, 6, none⟩ = some (.int .i64 x.s) ∧ V.cell? ⟨wx.heap.size, 7, none⟩ = some (.bool x.fl) ∧ V.cell? ⟨wx.heap.size, 8, none⟩ = some (.slice a m c)) [12] hI ?_
  refine inv_take (v := ?v1) [1, 2, 3, 12, 13] 0 hI rfl (by kernel_rfl) (by kernel_rfl) (by kernel_rfl) (by kernel_rfl) (by kernel_rfl) (fun _ _ _ h => h) (by kernel_rfl) (fun V hV => ?hy1) ?go1
  case hy1 => (obtain ⟨i0, i1, i2, i3, i4, i5, i6, i7, i8, i9⟩ := hV; go_simp <;> rfl)
  simp only [Act.put, List.setIfInBounds_toArray, List.set_cons_zero, List.set_cons_succ]
  refine inv_take (v := ?v2) [2, 3, 12, 13] 1 hI rfl (by kernel_rfl) (by kernel_rfl) (by kernel_rfl) (by kernel_rfl) (by kernel_rfl) (fun _ _ _ h => h) (by kernel_rfl) (fun V hV => ?hy2) ?go2
  case hy2 => (obtain ⟨i0, i1, i2, i3, i4, i5, i6, i7, i8, i9⟩ := hV; go_simp <;> rfl)
  simp only [Act.put, List.setIfInBounds_toArray, List.set_cons_zero, List.set_cons_succ]
  refine inv_take (v := ?v3) [3, 12, 13] 2 hI rfl (by kernel_rfl) (by kernel_rfl) (by kernel_rfl) (by kernel_rfl) (by kernel_rfl) (fun _ _ _ h => h) (by kernel_rfl) (fun V hV => ?hy3) ?go3
  case hy3 => (obtain ⟨i0, i1, i2, i3, i4, i5, i6, i7, i8, i9⟩ := hV; go_simp <;> rfl)
  simp only [Act.put, List.setIfInBounds_toArray, List.set_cons_zero, List.set_cons_succ]
  refine inv_take (v := ?v4) [12, 13] 3 hI rfl (by kernel_rfl) (by kernel_rfl) (by kernel_rfl) (by kernel_rfl) (by kernel_rfl) (fun _ _ _ h => h) (by kernel_rfl) (fun V hV => ?hy4) ?go4
  case hy4 => (obtain ⟨i0, i1, i2, i3, i4, i5, i6, i7, i8, i9⟩ := hV; go_simp <;> rfl)
  simp only [Act.put, List.setIfInBounds_toArray, List.set_cons_zero, List.set_cons_succ]
  refine inv_take (v := ?v5) [5, 12, 13] 4 hI rfl (by kernel_rfl) (by kernel_rfl) (by kernel_rfl) (by kernel_rfl) (by kernel_rfl) (fun _ _ _ h => h) (by kernel_rfl) (fun V hV => ?hy5) ?go5
  case hy5 => (obtain ⟨i0, i1, i2, i3, i4, i5, i6, i7, i8, i9⟩ := hV; go_simp <;> rfl)
  simp only [Act.put, List.setIfInBounds_toArray, List.set_cons_zero, List.set_cons_succ]
  refine inv_take (v := ?v6) [12, 13] 5 hI rfl (by kernel_rfl) (by kernel_rfl) (by kernel_rfl) (by kernel_rfl) (by kernel_rfl) (fun _ _ _ h => h) (by kernel_rfl) (fun V hV => ?hy6) ?go6
  case hy6 => (obtain ⟨i0, i1, i2, i3, i4, i5, i6, i7, i8, i9⟩ := hV; go_simp <;> rfl)
  simp only [Act.put, List.setIfInBounds_toArray, List.set_cons_zero, List.set_cons_succ]
  refine inv_take (v := ?v7) [7, 12, 13] 6 hI rfl (by kernel_rfl) (by kernel_rfl) (by kernel_rfl) (by kernel_rfl) (by kernel_rfl) (fun _ _ _ h => h) (by kernel_rfl) (fun V hV => ?hy7) ?go7
  case hy7 => (obtain ⟨i0, i1, i2, i3, i4, i5, i6, i7, i8, i9⟩ := hV; go_simp <;> rfl)
  simp only [Act.put, List.setIfInBounds_toArray, List.set_cons_zero, List.set_cons_succ]
  refine inv_take (v := ?v8) [12, 13] 7 hI rfl (by kernel_rfl) (by kernel_rfl) (by kernel_rfl) (by kernel_rfl) (by kernel_rfl) (fun _ _ _ h => h) (by kernel_rfl) (fun V hV => ?hy8) ?go8
  case hy8 => (obtain ⟨i0, i1, i2, i3, i4, i5, i6, i7, i8, i9⟩ := hV; go_simp <;> rfl)
  simp only [Act.put, List.setIfInBounds_toArray, List.set_cons_zero, List.set_cons_succ]
  refine inv_take (v := ?v9) [9, 12, 13] 8 hI rfl (by kernel_rfl) (by kernel_rfl) (by kernel_rfl) (by kernel_rfl) (by kernel_rfl) (fun _ _ _ h => h) (by kernel_rfl) (fun V hV => ?hy9) ?go9
  case hy9 => (obtain ⟨i0, i1, i2, i3, i4, i5, i6, i7, i8, i9⟩ := hV; go_simp <;> rfl)
  simp only [Act.put, List.setIfInBounds_toArray, List.set_cons_zero, List.set_cons_succ]
  refine inv_take (v := ?v10) [12, 13] 9 hI rfl (by kernel_rfl) (by kernel_rfl) (by kernel_rfl) (by kernel_rfl) (by kernel_rfl) (fun _ _ _ h => h) (by kernel_rfl) (fun V hV => ?hy10) ?go10
  case hy10 => (obtain ⟨i0, i1, i2, i3, i4, i5, i6, i7, i8, i9⟩ := hV; go_simp <;> rfl)
  simp only [Act.put, List.setIfInBounds_toArray, List.set_cons_zero, List.set_cons_succ]
  refine inv_take (v := ?v11) [11, 12, 13] 10 hI rfl (by kernel_rfl) (by kernel_rfl) (by kernel_rfl) (by kernel_rfl) (by kernel_rfl) (fun _ _ _ h => h) (by kernel_rfl) (fun V hV => ?hy11) ?go11
  case hy11 => (obtain ⟨i0, i1, i2, i3, i4, i5, i6, i7, i8, i9⟩ := hV; go_simp <;> rfl)
  simp only [Act.put, List.setIfInBounds_toArray, List.set_cons_zero, List.set_cons_succ]
  refine inv_list 11 (by kernel_rfl) rfl ?_
  go_wp2_with (go_at_call 56; refine (newData_any x a m c Vd hs3).mono ?_; rintro e V1 ⟨a1, m1, c1, rfl, hs4, b1⟩)
  refine then_n ⟨HIB.out _ (next Bd b1), ?_⟩
  have h4 := h3.below b1
  have bp4 := bp3.next b1
  have hB4 := next hB3 b1
  have hm1 : m1 ≤ 17592186044416 := by have h1 := hs4.len; have h5 : (unlD x).length ≤ 1000 := (by unfold unlD; split; exact hz; simp); omega
  have hset := hp_set h4.hp HL.out x.s x.p a1 m1 c1 (unlD x) hs4 hm1
  clear h3 bp3 hB3 hs3 b1 Bd HIB hI hm1 hs4
  try simp only [Act.put, List.setIfInBounds_toArray, List.set_cons_zero, List.set_cons_succ]
  refine inv_write 12 (by kernel_rfl) (by kernel_rfl) rfl ?_
  obtain ⟨E, hE⟩ : ∃ E, (setR N K L x.l x.s x.p (unlD x)).1 = E := ⟨_, rfl⟩
  rw [hE] at hset he
  have HEE : Hid ((setR N K L x.l x.s x.p (unlD x)).1 = E) := hE
  clear hE
  subst he
  go_wp2_with (go_at_call 55; refine hset.mono ?_; rintro e V2 ⟨rfl, hk2, p2⟩)
  refine then_n ?_
  obtain ⟨hk3, h5⟩ := h4.call hk2 p2
  have bp5 := bp4.keep hk2 (fun hf => hf.2 (.inl (.inr ⟨Nat.le_refl _, HSZ.out⟩)))
  have hK := Keep.pre hB4 (hk3.mono (G := NX w X) (fun j _ hj => nx_less (fun j hx => .inl hx) hj))
  clear hk2 hk3 p2 bp4 h4 hB4 hset
  refine any_list 13 (by kernel_rfl) rfl ?_
  go_wp2_with fail
  refine then_n ?_
  refine any_done (by kernel_rfl) ?_
  obtain ⟨q0, q1, q2, q3, q4, q5, q6, q7, q8, qf, ql⟩ := id bp5
  have c1 := h5.c1
  have lt := h5.lt
  go_upto_region 6 with fail
  refine wp_region_orders 10 rfl (by kernel_rfl) ?_
  have Bd : Below V2.heap.size V2 V2.drew := (Below.refl _ _).drew
  replace c1 := (Bd.cell (p := ⟨g, 1, none⟩) lt).trans c1
  replace q1 := (Bd.cell (p := ⟨wx.heap.size, 1, none⟩) ql).trans q1
  replace q4 := (Bd.cell (p := ⟨wx.heap.size, 4, none⟩) ql).trans q4
  have h6 := h5.below Bd
  have hK6 := hK.trans (Keep.of_below (F := fun _ => False) Bd) (fun _ _ h => h.elim)
  clear q0 q2 q3 q5 q6 q7 q8 qf bp5 h5 hK lt ql
  clear Bd
  generalize V2.drew = V2d at *
  clear V2
  have hI : (fun V => V.cell? ⟨g, 1, none⟩ = some (.pointer (some ⟨g2, 0, none⟩)) ∧ V.cell? ⟨wx.heap.size, 1, none⟩ = some (.int .i64 x.f) ∧ V.cell? ⟨wx.heap.size, 4, none⟩ = some (.int .i64 x.l)) V2d := ⟨c1, q1, q4⟩
  refine any_inv (fun V => V.cell? ⟨g, 1, none⟩ = some (.pointer (some ⟨g2, 0, none⟩)) ∧ V.cell? ⟨wx.heap.size, 1, none⟩ = some (.int .i64 x.f) ∧ V.cell? ⟨wx.heap.size, 4, none⟩ = some (.int .i64 x.l)) [8] hI ?_
  refine inv_take (v := ?v12) [1, 2, 3, 8, 9] 0 hI rfl (by kernel_rfl) (by kernel_rfl) (by kernel_rfl) (by kernel_rfl) (by kernel_rfl) (fun _ _ _ h => h) (by kernel_rfl) (fun V hV => ?hy12) ?go12
  case hy12 => (obtain ⟨i0, i1, i2⟩ := hV; go_simp <;> rfl)
  simp only [Act.put, List.setIfInBounds_toArray, List.set_cons_zero, List.set_cons_succ]
  refine inv_take (v := ?v13) [2, 3, 8, 9] 1 hI rfl (by kernel_rfl) (by kernel_rfl) (by kernel_rfl) (by kernel_rfl) (by kernel_rfl) (fun _ _ _ h => h) (by kernel_rfl) (fun V hV => ?hy13) ?go13
  case hy13 => (obtain ⟨i0, i1, i2⟩ := hV; go_simp <;> rfl)
  simp only [Act.put, List.setIfInBounds_toArray, List.set_cons_zero, List.set_cons_succ]
  refine inv_take (v := ?v14) [3, 8, 9] 2 hI rfl (by kernel_rfl) (by kernel_rfl) (by kernel_rfl) (by kernel_rfl) (by kernel_rfl) (fun _ _ _ h => h) (by kernel_rfl) (fun V hV => ?hy14) ?go14
  case hy14 => (obtain ⟨i0, i1, i2⟩ := hV; go_simp <;> rfl)
  simp only [Act.put, List.setIfInBounds_toArray, List.set_cons_zero, List.set_cons_succ]
  refine inv_take (v := ?v15) [8, 9] 3 hI rfl (by kernel_rfl) (by kernel_rfl) (by kernel_rfl) (by kernel_rfl) (by kernel_rfl) (fun _ _ _ h => h) (by kernel_rfl) (fun V hV => ?hy15) ?go15
  case hy15 => (obtain ⟨i0, i1, i2⟩ := hV; go_simp <;> rfl)
  simp only [Act.put, List.setIfInBounds_toArray, List.set_cons_zero, List.set_cons_succ]
  refine inv_take (v := ?v16) [5, 8, 9] 4 hI rfl (by kernel_rfl) (by kernel_rfl) (by kernel_rfl) (by kernel_rfl) (by kernel_rfl) (fun _ _ _ h => h) (by kernel_rfl) (fun V hV => ?hy16) ?go16
  case hy16 => (obtain ⟨i0, i1, i2⟩ := hV; go_simp <;> rfl)
  simp only [Act.put, List.setIfInBounds_toArray, List.set_cons_zero, List.set_cons_succ]
  refine inv_take (v := ?v17) [8, 9] 5 hI rfl (by kernel_rfl) (by kernel_rfl) (by kernel_rfl) (by kernel_rfl) (by kernel_rfl) (fun _ _ _ h => h) (by kernel_rfl) (fun V hV => ?hy17) ?go17
  case hy17 => (obtain ⟨i0, i1, i2⟩ := hV; go_simp <;> rfl)
  simp only [Act.put, List.setIfInBounds_toArray, List.set_cons_zero, List.set_cons_succ]
  refine inv_take (v := ?v18) [7, 8, 9] 6 hI rfl (by kernel_rfl) (by kernel_rfl) (by kernel_rfl) (by kernel_rfl) (by kernel_rfl) (fun _ _ _ h => h) (by kernel_rfl) (fun V hV => ?hy18) ?go18
  case hy18 => (obtain ⟨i0, i1, i2⟩ := hV; go_simp <;> rfl)
  simp only [Act.put, List.setIfInBounds_toArray, List.set_cons_zero, List.set_cons_succ]
  refine inv_take (v := ?v19) [8, 9] 7 hI rfl (by kernel_rfl) (by kernel_rfl) (by kernel_rfl) (by kernel_rfl) (by kernel_rfl) (fun _ _ _ h => h) (by kernel_rfl) (fun V hV => ?hy19) ?go19
  case hy19 => (obtain ⟨i0, i1, i2⟩ := hV; go_simp <;> rfl)
  simp only [Act.put, List.setIfInBounds_toArray, List.set_cons_zero, List.set_cons_succ]
  refine inv_write 8 (by kernel_rfl) (by kernel_rfl) rfl ?_
  go_wp2_with (go_at_call 57; refine (hp_release h6.hp HL.out HO.out.2 HO.out.1).mono ?_; rintro e V3 ⟨rfl, hk2, p2⟩)
  refine then_n ?_
  refine any_list 9 (by kernel_rfl) rfl ?_
  go_wp2_with fail
  refine then_n ?_
  refine any_done (by kernel_rfl) ?_
  obtain ⟨hk3, h7⟩ := h6.call hk2 p2
  have hK7 := hK6.trans (hk3.mono (G := NX w X) (fun j _ hj => nx_less (fun j hx => .inl hx) hj)) (fun j _ h => h)
  go_wp2_with fail
  go_ret
  exact ⟨rfl, hK7, h7.off (fun j hj => .inl hj)⟩
end
end Go.Proofs.Ytgeiagndpfdnlaa
end
section
namespace Go.Proofs.Ytgeiagndpfdnlaa
open Go.RowKit Go.Maps
set_option linter.unusedVariables false
set_option maxRecDepth 20000

section
variable {w wx wy : World} {g g1 g2 n N : Nat} {X Y : Nat → Prop} {K node : Int} {L : List Hr} {o : List (Int × Int)} {q : List Wr}
set_option maxHeartbeats 1600000 in
theorem hh_bad (h : PH w wx g g1 g2 X N K node L n o q) (x : Pk) (a : Option Addr) (m c : Nat) (hsl : Sl wx a m c x.z) (hl : In64 x.l) (he : ckE N node L x ≠ 0) :
    Calls Try.prog 10 #[.pointer (some ⟨g, 0, none⟩), x.val (.slice a m c)] wx fun e w' => e = .returned (.tuple #[zeroPk.val (.slice none 0 0), .bool false, .int .i64 (ckE N node L x)]) ∧ Below wx.heap.size wx w' := by
  obtain ⟨E, hE⟩ : ∃ E, ckE N node L x = E := ⟨_, rfl⟩
  have HC : Hid (ckE N node L x = E) := hE
  rw [hE] at he
  have heb : (E != 0) = true := by simp [he]
  have HL : Hid (In64 x.l) := hl
  clear he hE hl
  unfold Pk.val
  go_enter Try.func10, Try.ntmps10
  go_upto_region 1 with fail
  have hB : Below wx.heap.size wx ((wx.alloc (.cells #[.int .i64 x.k, .int .i64 x.f, .int .i64 x.t, .int .i64 x.i, .int .i64 x.l, .int .i64 x.p, .int .i64 x.s, .bool x.fl, .slice a m c] 32)).alloc (.cells #[.int .i64 0, .int .i64 0, .int .i64 0, .int .i64 0, .int .i64 0, .int .i64 0, .int .i64 0, .bool false, .slice none 0 0] 32)) := ba (ba (Below.refl _ _))
  have bxp : Bx ((wx.alloc (.cells #[.int .i64 x.k, .int .i64 x.f, .int .i64 x.t, .int .i64 x.i, .int .i64 x.l, .int .i64 x.p, .int .i64 x.s, .bool x.fl, .slice a m c] 32)).alloc (.cells #[.int .i64 0, .int .i64 0, .int .i64 0, .int .i64 0, .int .i64 0, .int .i64 0, .int .i64 0, .bool false, .slice none 0 0] 32)) wx.heap.size x (.slice a m c) := (Bx.made wx x (.slice a m c)).next (ba (Below.refl _ _))
  have bxr : Bx ((wx.alloc (.cells #[.int .i64 x.k, .int .i64 x.f, .int .i64 x.t, .int .i64 x.i, .int .i64 x.l, .int .i64 x.p, .int .i64 x.s, .bool x.fl, .slice a m c] 32)).alloc (.cells #[.int .i64 0, .int .i64 0, .int .i64 0, .int .i64 0, .int .i64 0, .int .i64 0, .int .i64 0, .bool false, .slice none 0 0] 32)) (wx.heap.size + 1) zeroPk (.slice none 0 0) := Bx.made' (wx.alloc (.cells #[.int .i64 x.k, .int .i64 x.f, .int .i64 x.t, .int .i64 x.i, .int .i64 x.l, .int .i64 x.p, .int .i64 x.s, .bool x.fl, .slice a m c] 32)) zeroPk (.slice none 0 0) _ (by simp)
  have h1 := h.own hB
  have hs1 := hsl.below hB
  have HX : Hid (∀ j, X j → j < wx.heap.size) := h.xl
  have HWS : Hid (w.heap.size ≤ wx.heap.size) := h.bel.size
  clear h hsl
  generalize World.alloc _ (.cells #[.int .i64 0, .int .i64 0, .int .i64 0, .int .i64 0, .int .i64 0, .int .i64 0, .int .i64 0, .bool false, .slice none 0 0] 32) = W at *
  have HSZ : Hid (wx.heap.size + 1 < W.heap.size) := bxr.lt
  have HXW : Hid (∀ j, wx.heap.size ≤ j → j < W.heap.size → (X j ∨ wx.heap.size ≤ j ∧ j < W.heap.size)) := fun j h1 h2 => .inr ⟨h1, h2⟩
  obtain ⟨zw, ezw⟩ : ∃ zw, W.heap.size = zw := ⟨_, rfl⟩
  have EZW : Hid (W.heap.size = zw) := ezw
  rw [ezw] at HSZ HXW h1
  clear ezw
  obtain ⟨q0, q1, q2, q3, q4, q5, q6, q7, q8, qf, ql⟩ := id bxp
  go_upto_region 2 with (go_at_call 28; refine (hcheck_any h1 x a m c hs1 HL.out).mono ?_; rw [HC.out]; rintro e V ⟨rfl, b1⟩)
  obtain ⟨r0, r1, r2, r3, r4, r5, r6, r7, r8, rf, rl⟩ := bxr.next b1
  have f0 := rf 0
  have hB2 := next hB b1
  clear q0 q1 q2 q3 q4 q5 q6 q7 q8 qf ql bxp bxr h1 hs1 hB b1
  go_wp2_with fail
  refine bodyPost_ret (v := .tuple #[Pk.val zeroPk (.slice none 0 0), .bool false, .int .i64 E]) (by simp [results, Try.results10, go_sem, *, zeroPk]) rfl ⟨by rw [HC.out], far9 (g := wx.heap.size + 1) (y := zeroPk) (v := .slice none 0 0) (W := V) (P := fun V => Below wx.heap.size wx V) (fun V o u h => h.setCell (by simp) u) hB2⟩
theorem ck_facts {x : Pk} (h : ckE N node L x = 0) : 0 ≤ x.l ∧ 0 ≤ x.f ∧ x.z.length ≤ 1000 := by
  have hr : x.right = true := by
    unfold ckE at h
    split at h
    · rename_i ht
      unfold tknP at ht
      rw [Bool.and_eq_true] at ht
      exact ht.1
    · cases h
  obtain ⟨_, r1, _, _, r4, _, _, r7⟩ := (Pk.right_iff x).1 hr
  exact ⟨r4.1, r1.1, by omega⟩
set_option maxHeartbeats 1600000 in
theorem hh_wait (h : PH w wx g g1 g2 X N K node L n o q) (x : Pk) (a : Option Addr) (m c : Nat) (hsl : Sl wx a m c x.z) (hl : In64 x.l) (he : ckE N node L x = 0) (hk : x.k = 1) (hb : askB o q x.l = false) (hn : n ≤ 1000) :
    Calls Try.prog 10 #[.pointer (some ⟨g, 0, none⟩), x.val (.slice a m c)] wx fun e w' => e = .returned (.tuple #[zeroPk.val (.slice none 0 0), .bool false, .int .i64 0]) ∧ Keep (NX w X) wx w' ∧ PH w w' g g1 g2 X N K node L (n + 1) (askO o q x.l x.f) (askQ o q x.l x.f x.i) := by
  have hkb : (x.k == 1) = true := by simp [hk]
  have HB : Hid (askB o q x.l = false) := hb
  have HN : Hid (n ≤ 1000) := hn
  clear hk hb hn
  have HL : Hid (In64 x.l) := hl
  have HC : Hid (ckE N node L x = 0) := he
  have HF : Hid (0 ≤ x.l ∧ 0 ≤ x.f ∧ x.z.length ≤ 1000) := ck_facts he
  clear he hl
  unfold Pk.val
  go_enter Try.func10, Try.ntmps10
  go_upto_region 1 with fail
  have hB : Below wx.heap.size wx ((wx.alloc (.cells #[.int .i64 x.k, .int .i64 x.f, .int .i64 x.t, .int .i64 x.i, .int .i64 x.l, .int .i64 x.p, .int .i64 x.s, .bool x.fl, .slice a m c] 32)).alloc (.cells #[.int .i64 0, .int .i64 0, .int .i64 0, .int .i64 0, .int .i64 0, .int .i64 0, .int .i64 0, .bool false, .slice none 0 0] 32)) := ba (ba (Below.refl _ _))
  have bxp : Bx ((wx.alloc (.cells #[.int .i64 x.k, .int .i64 x.f, .int .i64 x.t, .int .i64 x.i, .int .i64 x.l, .int .i64 x.p, .int .i64 x.s, .bool x.fl, .slice a m c] 32)).alloc (.cells #[.int .i64 0, .int .i64 0, .int .i64 0, .int .i64 0, .int .i64 0, .int .i64 0, .int .i64 0, .bool false, .slice none 0 0] 32)) wx.heap.size x (.slice a m c) := (Bx.made wx x (.slice a m c)).next (ba (Below.refl _ _))
  have bxr : Bx ((wx.alloc (.cells #[.int .i64 x.k, .int .i64 x.f, .int .i64 x.t, .int .i64 x.i, .int .i64 x.l, .int .i64 x.p, .int .i64 x.s, .bool x.fl, .slice a m c] 32)).alloc (.cells #[.int .i64 0, .int .i64 0, .int .i64 0, .int .i64 0, .int .i64 0, .int .i64 0, .int .i64 0, .bool false, .slice none 0 0] 32)) (wx.heap.size + 1) zeroPk (.slice none 0 0) := Bx.made' (wx.alloc (.cells #[.int .i64 x.k, .int .i64 x.f, .int .i64 x.t, .int .i64 x.i, .int .i64 x.l, .int .i64 x.p, .int .i64 x.s, .bool x.fl, .slice a m c] 32)) zeroPk (.slice none 0 0) _ (by simp)
  have h1 := h.own hB
  have hs1 := hsl.below hB
  have HX : Hid (∀ j, X j → j < wx.heap.size) := h.xl
  have HWS : Hid (w.heap.size ≤ wx.heap.size) := h.bel.size
  clear h hsl
  generalize World.alloc _ (.cells #[.int .i64 0, .int .i64 0, .int .i64 0, .int .i64 0, .int .i64 0, .int .i64 0, .int .i64 0, .bool false, .slice none 0 0] 32) = W at *
  have HSZ : Hid (wx.heap.size + 1 < W.heap.size) := bxr.lt
  have HXW : Hid (∀ j, wx.heap.size ≤ j → j < W.heap.size → (X j ∨ wx.heap.size ≤ j ∧ j < W.heap.size)) := fun j h1 h2 => .inr ⟨h1, h2⟩
  obtain ⟨zw, ezw⟩ : ∃ zw, W.heap.size = zw := ⟨_, rfl⟩
  have EZW : Hid (W.heap.size = zw) := ezw
  rw [ezw] at HSZ HXW h1
  clear ezw
  obtain ⟨q0, q1, q2, q3, q4, q5, q6, q7, q8, qf, ql⟩ := id bxp
  go_upto_region 2 with (go_at_call 28; refine (hcheck_any h1 x a m c hs1 HL.out).mono ?_; rw [HC.out]; rintro e V ⟨rfl, b1⟩)
  have h2 := h1.below b1
  have hs2 := hs1.below b1
  have bp2 := bxp.next b1
  have br2 := bxr.next b1
  have hB2 := next hB b1
  clear q0 q1 q2 q3 q4 q5 q6 q7 q8 qf ql bxp bxr h1 hs1 hB b1 EZW
  clear W
  obtain ⟨q0, q1, q2, q3, q4, q5, q6, q7, q8, qf, ql⟩ := id bp2
  obtain ⟨P, hP⟩ : ∃ P, zeroPk = P := ⟨_, rfl⟩
  go_upto_region 6 with (go_at_call 29; refine (hlock_no h2 x a m c HL.out HF.out.1 HF.out.2.1 HN.out HB.out).mono ?_; rw [hP]; rintro e V2 ⟨rfl, hk2, h3⟩)
  have b3 : Below V2.heap.size V2 (V2.alloc (.cells #[.int .i64 (P).k, .int .i64 (P).f, .int .i64 (P).t, .int .i64 (P).i, .int .i64 (P).l, .int .i64 (P).p, .int .i64 (P).s, .bool (P).fl, .slice none 0 0] 32)) := ba (Below.refl _ _)
  have bxa : Bx (V2.alloc (.cells #[.int .i64 (P).k, .int .i64 (P).f, .int .i64 (P).t, .int .i64 (P).i, .int .i64 (P).l, .int .i64 (P).p, .int .i64 (P).s, .bool (P).fl, .slice none 0 0] 32)) V2.heap.size P (.slice none 0 0) := Bx.made V2 P (.slice none 0 0)
  have br3 := (br2.keep hk2 (fun hf => hf.2 (HXW.out _ (by omega) HSZ.out))).next b3
  have h4 := h3.below b3
  have hK := (Keep.pre hB2 (hk2.mono (G := NX w X) (fun j _ hj => nx_less (fun j hx => .inl hx) hj))).trans (Keep.of_below (F := fun _ => False) b3) (fun j _ h => h.elim)
  clear hk2 h3 br2 bp2 h2 hB2 hs2 q0 q1 q2 q3 q4 q5 q6 q7 q8 qf ql b3
  generalize V2.alloc _ = V3 at *
  generalize V2.heap.size = ga at *
  obtain ⟨y0, y1, y2, y3, y4, y5, y6, y7, y8, yf, yl⟩ := id bxa
  obtain ⟨r0, r1, r2, r3, r4, r5, r6, r7, r8, rf, rl⟩ := id br3
  have f0 := rf 0
  go_wp2_with fail
  have hkk : Keep (fun k => k = wx.heap.size + 1) V3 _ := far9 (g := wx.heap.size + 1) (y := P) (v := .slice none 0 0) (W := V3) (P := fun V => Keep (fun k => k = wx.heap.size + 1) V3 V) (fun V o u h => h.setCell (.inl rfl) u) (Keep.refl _ _)
  refine bodyPost_ret (v := .tuple #[Pk.val P (.slice none 0 0), .bool false, .int .i64 0]) (by simp [results, Try.results10, go_sem, *]) rfl ⟨by rw [hP], hK.trans hkk (fun j hj e => by omega), h4.step hkk (fun j hj => ?_) (fun j hj => ⟨.inl (.inl hj), ?_⟩)⟩
  · subst hj
    have h1 := HWS.out
    exact ⟨by omega, .inl (HXW.out _ (by omega) HSZ.out)⟩
  · have h1 := h4.xl j (.inl hj)
    have h5 := hkk.size
    omega
set_option maxHeartbeats 1600000 in
theorem hh_grant (h : PH w wx g g1 g2 X N K node L n o q) (x : Pk) (a : Option Addr) (m c : Nat) (hsl : Sl wx a m c x.z) (hl : In64 x.l) (he : ckE N node L x = 0) (hk : x.k = 1) (hb : askB o q x.l = true) (hn : n ≤ 1000) :
    Calls Try.prog 10 #[.pointer (some ⟨g, 0, none⟩), x.val (.slice a m c)] wx fun e w' => ∃ d, e = .returned (.tuple #[(grantR node x.f x.i x.l L).val d, .bool true, .int .i64 0]) ∧ DatZ w' (fun k => wx.heap.size ≤ k) (grantR node x.f x.i x.l L).z d ∧ Keep (NX w X) wx w' ∧ PH w w' g g1 g2 X N K node L (n + 1) (askO o q x.l x.f) (askQ o q x.l x.f x.i) := by
  have hkb : (x.k == 1) = true := by simp [hk]
  have HB : Hid (askB o q x.l = true) := hb
  have HN : Hid (n ≤ 1000) := hn
  clear hk hb hn
  have HL : Hid (In64 x.l) := hl
  have HC : Hid (ckE N node L x = 0) := he
  have HF : Hid (0 ≤ x.l ∧ 0 ≤ x.f ∧ x.z.length ≤ 1000) := ck_facts he
  clear he hl
  unfold Pk.val
  go_enter Try.func10, Try.ntmps10
  go_upto_region 1 with fail
  have hB : Below wx.heap.size wx ((wx.alloc (.cells #[.int .i64 x.k, .int .i64 x.f, .int .i64 x.t, .int .i64 x.i, .int .i64 x.l, .int .i64 x.p, .int .i64 x.s, .bool x.fl, .slice a m c] 32)).alloc (.cells #[.int .i64 0, .int .i64 0, .int .i64 0, .int .i64 0, .int .i64 0, .int .i64 0, .int .i64 0, .bool false, .slice none 0 0] 32)) := ba (ba (Below.refl _ _))
  have bxp : Bx ((wx.alloc (.cells #[.int .i64 x.k, .int .i64 x.f, .int .i64 x.t, .int .i64 x.i, .int .i64 x.l, .int .i64 x.p, .int .i64 x.s, .bool x.fl, .slice a m c] 32)).alloc (.cells #[.int .i64 0, .int .i64 0, .int .i64 0, .int .i64 0, .int .i64 0, .int .i64 0, .int .i64 0, .bool false, .slice none 0 0] 32)) wx.heap.size x (.slice a m c) := (Bx.made wx x (.slice a m c)).next (ba (Below.refl _ _))
  have bxr : Bx ((wx.alloc (.cells #[.int .i64 x.k, .int .i64 x.f, .int .i64 x.t, .int .i64 x.i, .int .i64 x.l, .int .i64 x.p, .int .i64 x.s, .bool x.fl, .slice a m c] 32)).alloc (.cells #[.int .i64 0, .int .i64 0, .int .i64 0, .int .i64 0, .int .i64 0, .int .i64 0, .int .i64 0, .bool false, .slice none 0 0] 32)) (wx.heap.size + 1) zeroPk (.slice none 0 0) := Bx.made' (wx.alloc (.cells #[.int .i64 x.k, .int .i64 x.f, .int .i64 x.t, .int .i64 x.i, .int .i64 x.l, .int .i64 x.p, .int .i64 x.s, .bool x.fl, .slice a m c] 32)) zeroPk (.slice none 0 0) _ (by simp)
  have h1 := h.own hB
  have hs1 := hsl.below hB
  have HX : Hid (∀ j, X j → j < wx.heap.size) := h.xl
  have HWS : Hid (w.heap.size ≤ wx.heap.size) := h.bel.size
  clear h hsl
  generalize World.alloc _ (.cells #[.int .i64 0, .int .i64 0, .int .i64 0, .int .i64 0, .int .i64 0, .int .i64 0, .int .i64 0, .bool false, .slice none 0 0] 32) = W at *
  have HSZ : Hid (wx.heap.size + 1 < W.heap.size) := bxr.lt
  have HXW : Hid (∀ j, wx.heap.size ≤ j → j < W.heap.size → (X j ∨ wx.heap.size ≤ j ∧ j < W.heap.size)) := fun j h1 h2 => .inr ⟨h1, h2⟩
  obtain ⟨zw, ezw⟩ : ∃ zw, W.heap.size = zw := ⟨_, rfl⟩
  have EZW : Hid (W.heap.size = zw) := ezw
  rw [ezw] at HSZ HXW h1
  clear ezw
  obtain ⟨q0, q1, q2, q3, q4, q5, q6, q7, q8, qf, ql⟩ := id bxp
  go_upto_region 2 with (go_at_call 28; refine (hcheck_any h1 x a m c hs1 HL.out).mono ?_; rw [HC.out]; rintro e V ⟨rfl, b1⟩)
  have h2 := h1.below b1
  have hs2 := hs1.below b1
  have bp2 := bxp.next b1
  have br2 := bxr.next b1
  have hB2 := next hB b1
  clear q0 q1 q2 q3 q4 q5 q6 q7 q8 qf ql bxp bxr h1 hs1 hB b1 EZW
  clear W
  obtain ⟨q0, q1, q2, q3, q4, q5, q6, q7, q8, qf, ql⟩ := id bp2
  obtain ⟨P, hP⟩ : ∃ P, grantR node x.f x.i x.l L = P := ⟨_, rfl⟩
  go_upto_region 6 with (go_at_call 29; refine (hlock_yes h2 x a m c HL.out HF.out.1 HF.out.2.1 HN.out HB.out).mono ?_; rw [hP]; rintro e V2 ⟨dd, rfl, hd5, hk2, h3⟩; obtain ⟨a5, n5, c5, ed, _⟩ := id hd5; subst ed)
  have b3 : Below V2.heap.size V2 (V2.alloc (.cells #[.int .i64 (P).k, .int .i64 (P).f, .int .i64 (P).t, .int .i64 (P).i, .int .i64 (P).l, .int .i64 (P).p, .int .i64 (P).s, .bool (P).fl, .slice a5 n5 c5] 32)) := ba (Below.refl _ _)
  have bxa : Bx (V2.alloc (.cells #[.int .i64 (P).k, .int .i64 (P).f, .int .i64 (P).t, .int .i64 (P).i, .int .i64 (P).l, .int .i64 (P).p, .int .i64 (P).s, .bool (P).fl, .slice a5 n5 c5] 32)) V2.heap.size P (.slice a5 n5 c5) := Bx.made V2 P (.slice a5 n5 c5)
  have br3 := (br2.keep hk2 (fun hf => hf.2 (HXW.out _ (by omega) HSZ.out))).next b3
  have h4 := h3.below b3
  have hK := (Keep.pre hB2 (hk2.mono (G := NX w X) (fun j _ hj => nx_less (fun j hx => .inl hx) hj))).trans (Keep.of_below (F := fun _ => False) b3) (fun j _ h => h.elim)
  have hd6 := hd5.below b3
  have hzv : Hid (wx.heap.size + 1 < V.heap.size) := br2.lt
  clear hd5
  clear hk2 h3 br2 bp2 h2 hB2 hs2 q0 q1 q2 q3 q4 q5 q6 q7 q8 qf ql b3
  generalize V2.alloc _ = V3 at *
  generalize V2.heap.size = ga at *
  obtain ⟨y0, y1, y2, y3, y4, y5, y6, y7, y8, yf, yl⟩ := id bxa
  obtain ⟨r0, r1, r2, r3, r4, r5, r6, r7, r8, rf, rl⟩ := id br3
  have f0 := rf 0
  go_wp2_with fail
  have hkk : Keep (fun k => k = wx.heap.size + 1) V3 _ := far9 (g := wx.heap.size + 1) (y := P) (v := .slice a5 n5 c5) (W := V3) (P := fun V => Keep (fun k => k = wx.heap.size + 1) V3 V) (fun V o u h => h.setCell (.inl rfl) u) (Keep.refl _ _)
  refine bodyPost_ret (v := .tuple #[Pk.val P (.slice a5 n5 c5), .bool true, .int .i64 0]) (by simp [results, Try.results10, go_sem, *]) rfl ⟨_, by rw [hP], by rw [hP]; exact (hd6.keep hkk (fun j hj e => by have := hzv.out; omega)).imp (fun j _ hj => by have := hzv.out; omega), hK.trans hkk (fun j hj e => by omega), h4.step hkk (fun j hj => ?_) (fun j hj => ⟨.inl (.inl hj), ?_⟩)⟩
  · subst hj
    have h1 := HWS.out
    exact ⟨by omega, .inl (HXW.out _ (by omega) HSZ.out)⟩
  · have h1 := h4.xl j (.inl hj)
    have h5 := hkk.size
    omega
end
end Go.Proofs.Ytgeiagndpfdnlaa
end
section
namespace Go.Proofs.Ytgeiagndpfdnlaa
open Go.RowKit Go.Maps
set_option linter.unusedVariables false
set_option maxRecDepth 20000

/-- What an Unlock is answered. -/
def ulE (N K : Int) (L : List Hr) (o : List (Int × Int)) (x : Pk) : Int := if ownT o x.l = x.f then (setR N K L x.l x.s x.p (unlD x)).1 else 6
section
variable {w wx wy : World} {g g1 g2 n N : Nat} {X Y : Nat → Prop} {K node : Int} {L : List Hr} {o : List (Int × Int)} {q : List Wr}
theorem hunlock_bad (h : PH w wx g g1 g2 X N K node L n o q) (x : Pk) (a : Option Addr) (m c : Nat) (hsl : Sl wx a m c x.z) (hl : In64 x.l) (hf : 0 ≤ x.f) (hz : x.z.length ≤ 1000) (he : ulE N K L o x ≠ 0) :
    Calls Try.prog 30 #[.pointer (some ⟨g, 0, none⟩), x.val (.slice a m c)] wx fun e w' => e = .returned (.int .i64 (ulE N K L o x)) ∧ Keep (NX w X) wx w' ∧ PH w w' g g1 g2 X N K node L n o q := by
  unfold ulE at he ⊢
  by_cases ho : ownT o x.l = x.f
  · rw [if_pos ho] at he ⊢
    exact hunlock_err h x a m c hsl hl ho hf hz he
  · rw [if_neg ho]
    refine (hunlock_state h x a m c hsl hl ho).mono ?_
    rintro e w' ⟨rfl, hb⟩
    exact ⟨rfl, Keep.of_below hb, h.below hb⟩
set_option maxHeartbeats 1600000 in
theorem hh_uerr (h : PH w wx g g1 g2 X N K node L n o q) (x : Pk) (a : Option Addr) (m c : Nat) (hsl : Sl wx a m c x.z) (hl : In64 x.l) (he : ckE N node L x = 0) (hk : x.k = 2) (hu : ulE N K L o x ≠ 0) :
    Calls Try.prog 10 #[.pointer (some ⟨g, 0, none⟩), x.val (.slice a m c)] wx fun e w' => e = .returned (.tuple #[zeroPk.val (.slice none 0 0), .bool false, .int .i64 (ulE N K L o x)]) ∧ Keep (NX w X) wx w' ∧ PH w w' g g1 g2 X N K node L n o q := by
  have hkb : (x.k == 1) = false := by simp [hk]
  have HU : Hid (ulE N K L o x ≠ 0) := hu
  obtain ⟨E, hE⟩ : ∃ E, ulE N K L o x = E := ⟨_, rfl⟩
  have HE : Hid (ulE N K L o x = E) := hE
  rw [hE] at hu
  have hub : (E != 0) = true := by simp [hu]
  clear hk hu hE
  have HL : Hid (In64 x.l) := hl
  have HC : Hid (ckE N node L x = 0) := he
  have HF : Hid (0 ≤ x.l ∧ 0 ≤ x.f ∧ x.z.length ≤ 1000) := ck_facts he
  clear he hl
  unfold Pk.val
  go_enter Try.func10, Try.ntmps10
  go_upto_region 1 with fail
  have hB : Below wx.heap.size wx ((wx.alloc (.cells #[.int .i64 x.k, .int .i64 x.f, .int .i64 x.t, .int .i64 x.i, .int .i64 x.l, .int .i64 x.p, .int .i64 x.s, .bool x.fl, .slice a m c] 32)).alloc (.cells #[.int .i64 0, .int .i64 0, .int .i64 0, .int .i64 0, .int .i64 0, .int .i64 0, .int .i64 0, .bool false, .slice none 0 0] 32)) := ba (ba (Below.refl _ _))
  have bxp : Bx ((wx.alloc (.cells #[.int .i64 x.k, .int .i64 x.f, .int .i64 x.t, .int .i64 x.i, .int .i64 x.l, .int .i64 x.p, .int .i64 x.s, .bool x.fl, .slice a m c] 32)).alloc (.cells #[.int .i64 0, .int .i64 0, .int .i64 0, .int .i64 0, .int .i64 0, .int .i64 0, .int .i64 0, .bool false, .slice none 0 0] 32)) wx.heap.size x (.slice a m c) := (Bx.made wx x (.slice a m c)).next (ba (Below.refl _ _))
  have bxr : Bx ((wx.alloc (.cells #[.int .i64 x.k, .int .i64 x.f, .int .i64 x.t, .int .i64 x.i, .int .i64 x.l, .int .i64 x.p, .int .i64 x.s, .bool x.fl, .slice a m c] 32)).alloc (.cells #[.int .i64 0, .int .i64 0, .int .i64 0, .int .i64 0, .int .i64 0, .int .i64 0, .int .i64 0, .bool false, .slice none 0 0] 32)) (wx.heap.size + 1) zeroPk (.slice none 0 0) := Bx.made' (wx.alloc (.cells #[.int .i64 x.k, .int .i64 x.f, .int .i64 x.t, .int .i64 x.i, .int .i64 x.l, .int .i64 x.p, .int .i64 x.s, .bool x.fl, .slice a m c] 32)) zeroPk (.slice none 0 0) _ (by simp)
  have h1 := h.own hB
  have hs1 := hsl.below hB
  have HX : Hid (∀ j, X j → j < wx.heap.size) := h.xl
  have HWS : Hid (w.heap.size ≤ wx.heap.size) := h.bel.size
  clear h hsl
  generalize World.alloc _ (.cells #[.int .i64 0, .int .i64 0, .int .i64 0, .int .i64 0, .int .i64 0, .int .i64 0, .int .i64 0, .bool false, .slice none 0 0] 32) = W at *
  have HSZ : Hid (wx.heap.size + 1 < W.heap.size) := bxr.lt
  have HXW : Hid (∀ j, wx.heap.size ≤ j → j < W.heap.size → (X j ∨ wx.heap.size ≤ j ∧ j < W.heap.size)) := fun j h1 h2 => .inr ⟨h1, h2⟩
  obtain ⟨zw, ezw⟩ : ∃ zw, W.heap.size = zw := ⟨_, rfl⟩
  have EZW : Hid (W.heap.size = zw) := ezw
  rw [ezw] at HSZ HXW h1
  clear ezw
  obtain ⟨q0, q1, q2, q3, q4, q5, q6, q7, q8, qf, ql⟩ := id bxp
  go_upto_region 2 with (go_at_call 28; refine (hcheck_any h1 x a m c hs1 HL.out).mono ?_; rw [HC.out]; rintro e V ⟨rfl, b1⟩)
  have h2 := h1.below b1
  have hs2 := hs1.below b1
  have bp2 := bxp.next b1
  have br2 := bxr.next b1
  have hB2 := next hB b1
  clear q0 q1 q2 q3 q4 q5 q6 q7 q8 qf ql bxp bxr h1 hs1 hB b1 EZW
  clear W
  obtain ⟨q0, q1, q2, q3, q4, q5, q6, q7, q8, qf, ql⟩ := id bp2
  go_upto_region 8 with (go_at_call 30; refine (hunlock_bad h2 x a m c hs2 HL.out HF.out.2.1 HF.out.2.2 HU.out).mono ?_; rw [HE.out]; rintro e V2 ⟨rfl, hk2, h3⟩)
  have br3 := br2.keep hk2 (fun hf => hf.2 (HXW.out _ (by omega) HSZ.out))
  have hK := Keep.pre hB2 (hk2.mono (G := NX w X) (fun j _ hj => nx_less (fun j hx => .inl hx) hj))
  clear hk2 br2 bp2 h2 hB2 hs2 q0 q1 q2 q3 q4 q5 q6 q7 q8 qf ql
  obtain ⟨r0, r1, r2, r3, r4, r5, r6, r7, r8, rf, rl⟩ := id br3
  have f0 := rf 0
  go_wp2_with fail
  have hkk : Keep (fun k => k = wx.heap.size + 1) V2 _ := far9 (g := wx.heap.size + 1) (y := zeroPk) (v := .slice none 0 0) (W := V2) (P := fun V => Keep (fun k => k = wx.heap.size + 1) V2 V) (fun V o u h => h.setCell (.inl rfl) u) (Keep.refl _ _)
  refine bodyPost_ret (v := .tuple #[Pk.val zeroPk (.slice none 0 0), .bool false, .int .i64 E]) (by simp [results, Try.results10, go_sem, *, zeroPk]) rfl ⟨by rw [HE.out], hK.trans hkk (fun j hj e => by omega), h3.step hkk (fun j hj => ?_) (fun j hj => ⟨.inl (.inl hj), ?_⟩)⟩
  · subst hj
    have h1 := HWS.out
    exact ⟨by omega, .inl (HXW.out _ (by omega) HSZ.out)⟩
  · exact Nat.lt_of_lt_of_le (h3.xl j (.inl hj)) hkk.size
set_option maxHeartbeats 1600000 in
theorem hh_uok (h : PH w wx g g1 g2 X N K node L n o q) (x : Pk) (a : Option Addr) (m c : Nat) (hsl : Sl wx a m c x.z) (hl : In64 x.l) (he : ckE N node L x = 0) (hk : x.k = 2) (ho : ownT o x.l = x.f) (hu : (setR N K L x.l x.s x.p (unlD x)).1 = 0) :
    Calls Try.prog 10 #[.pointer (some ⟨g, 0, none⟩), x.val (.slice a m c)] wx fun e w' => e = .returned (.tuple #[(⟨8, node, x.f, x.i, x.l, 0, 0, false, []⟩ : Pk).val (.slice none 0 0), .bool true, .int .i64 0]) ∧ Keep (NX w X) wx w' ∧ PH w w' g g1 g2 X N K node (setR N K L x.l x.s x.p (unlD x)).2 n (relO o x.l) q := by
  have hkb : (x.k == 1) = false := by simp [hk]
  have HU : Hid (ownT o x.l = x.f ∧ (setR N K L x.l x.s x.p (unlD x)).1 = 0) := ⟨ho, hu⟩
  clear hk hu ho
  have HL : Hid (In64 x.l) := hl
  have HC : Hid (ckE N node L x = 0) := he
  have HF : Hid (0 ≤ x.l ∧ 0 ≤ x.f ∧ x.z.length ≤ 1000) := ck_facts he
  clear he hl
  unfold Pk.val
  go_enter Try.func10, Try.ntmps10
  go_upto_region 1 with fail
  have hB : Below wx.heap.size wx ((wx.alloc (.cells #[.int .i64 x.k, .int .i64 x.f, .int .i64 x.t, .int .i64 x.i, .int .i64 x.l, .int .i64 x.p, .int .i64 x.s, .bool x.fl, .slice a m c] 32)).alloc (.cells #[.int .i64 0, .int .i64 0, .int .i64 0, .int .i64 0, .int .i64 0, .int .i64 0, .int .i64 0, .bool false, .slice none 0 0] 32)) := ba (ba (Below.refl _ _))
  have bxp : Bx ((wx.alloc (.cells #[.int .i64 x.k, .int .i64 x.f, .int .i64 x.t, .int .i64 x.i, .int .i64 x.l, .int .i64 x.p, .int .i64 x.s, .bool x.fl, .slice a m c] 32)).alloc (.cells #[.int .i64 0, .int .i64 0, .int .i64 0, .int .i64 0, .int .i64 0, .int .i64 0, .int .i64 0, .bool false, .slice none 0 0] 32)) wx.heap.size x (.slice a m c) := (Bx.made wx x (.slice a m c)).next (ba (Below.refl _ _))
  have bxr : Bx ((wx.alloc (.cells #[.int .i64 x.k, .int .i64 x.f, .int .i64 x.t, .int .i64 x.i, .int .i64 x.l, .int .i64 x.p, .int .i64 x.s, .bool x.fl, .slice a m c] 32)).alloc (.cells #[.int .i64 0, .int .i64 0, .int .i64 0, .int .i64 0, .int .i64 0, .int .i64 0, .int .i64 0, .bool false, .slice none 0 0] 32)) (wx.heap.size + 1) zeroPk (.slice none 0 0) := Bx.made' (wx.alloc (.cells #[.int .i64 x.k, .int .i64 x.f, .int .i64 x.t, .int .i64 x.i, .int .i64 x.l, .int .i64 x.p, .int .i64 x.s, .bool x.fl, .slice a m c] 32)) zeroPk (.slice none 0 0) _ (by simp)
  have h1 := h.own hB
  have hs1 := hsl.below hB
  have HX : Hid (∀ j, X j → j < wx.heap.size) := h.xl
  have HWS : Hid (w.heap.size ≤ wx.heap.size) := h.bel.size
  clear h hsl
  generalize World.alloc _ (.cells #[.int .i64 0, .int .i64 0, .int .i64 0, .int .i64 0, .int .i64 0, .int .i64 0, .int .i64 0, .bool false, .slice none 0 0] 32) = W at *
  have HSZ : Hid (wx.heap.size + 1 < W.heap.size) := bxr.lt
  have HXW : Hid (∀ j, wx.heap.size ≤ j → j < W.heap.size → (X j ∨ wx.heap.size ≤ j ∧ j < W.heap.size)) := fun j h1 h2 => .inr ⟨h1, h2⟩
  obtain ⟨zw, ezw⟩ : ∃ zw, W.heap.size = zw := ⟨_, rfl⟩
  have EZW : Hid (W.heap.size = zw) := ezw
  rw [ezw] at HSZ HXW h1
  clear ezw
  obtain ⟨q0, q1, q2, q3, q4, q5, q6, q7, q8, qf, ql⟩ := id bxp
  go_upto_region 2 with (go_at_call 28; refine (hcheck_any h1 x a m c hs1 HL.out).mono ?_; rw [HC.out]; rintro e V ⟨rfl, b1⟩)
  have h2 := h1.below b1
  have hs2 := hs1.below b1
  have bp2 := bxp.next b1
  have br2 := bxr.next b1
  have hB2 := next hB b1
  clear q0 q1 q2 q3 q4 q5 q6 q7 q8 qf ql bxp bxr h1 hs1 hB b1 EZW
  clear W
  obtain ⟨q0, q1, q2, q3, q4, q5, q6, q7, q8, qf, ql⟩ := id bp2
  go_upto_region 8 with (go_at_call 30; refine (hunlock_ok h2 x a m c hs2 HL.out HU.out.1 HF.out.2.1 HF.out.2.2 HU.out.2).mono ?_; rintro e V2 ⟨rfl, hk2, h3⟩)
  have br3 := br2.keep hk2 (fun hf => hf.2 (HXW.out _ (by omega) HSZ.out))
  have bp3 := bp2.keep hk2 (fun hf => hf.2 (HXW.out _ (Nat.le_refl _) (by have := HSZ.out; omega)))
  have hK := Keep.pre hB2 (hk2.mono (G := NX w X) (fun j _ hj => nx_less (fun j hx => .inl hx) hj))
  clear hk2 br2 bp2 h2 hB2 hs2 q0 q1 q2 q3 q4 q5 q6 q7 q8 qf ql
  obtain ⟨q0, q1, q2, q3, q4, q5, q6, q7, q8, qf, ql⟩ := id bp3
  obtain ⟨P, hP⟩ : ∃ P : Pk, ⟨8, node, x.f, x.i, x.l, 0, 0, false, []⟩ = P := ⟨_, rfl⟩
  go_wp2_with (go_at_call 31; refine (hans_any h3 2 x.l x.f x.i).mono ?_; rw [show ansI 2 = 8 from rfl, hP]; rintro e V5 ⟨rfl, b5⟩; obtain ⟨r0, r1, r2, r3, r4, r5, r6, r7, r8, rf, rl⟩ := br3.next b5; have f0 := rf 0)
  have hkk : Keep (fun k => k = wx.heap.size + 1) V5 _ := far9 (g := wx.heap.size + 1) (y := P) (v := .slice none 0 0) (W := V5) (P := fun V => Keep (fun k => k = wx.heap.size + 1) V5 V) (fun V o u h => h.setCell (.inl rfl) u) (Keep.refl _ _)
  refine bodyPost_ret (v := .tuple #[Pk.val P (.slice none 0 0), .bool true, .int .i64 0]) (by simp [results, Try.results10, go_sem, *]) rfl ⟨by rw [← hP], (hK.trans (Keep.of_below (F := fun _ => False) b5) (fun j _ h => h.elim)).trans hkk (fun j hj e => by omega), (h3.below b5).step hkk (fun j hj => ?_) (fun j hj => ⟨.inl (.inl hj), ?_⟩)⟩
  · subst hj
    have h1 := HWS.out
    exact ⟨by omega, .inl (HXW.out _ (by omega) HSZ.out)⟩
  · exact Nat.lt_of_lt_of_le (Nat.lt_of_lt_of_le (h3.xl j (.inl hj)) b5.size) hkk.size
end
end Go.Proofs.Ytgeiagndpfdnlaa
end
section
namespace Go.Proofs.Ytgeiagndpfdnlaa
open Go.RowKit Go.Maps
set_option linter.unusedVariables false
set_option maxRecDepth 20000

section
variable {w wx wy : World} {g g1 g2 n N : Nat} {X Y : Nat → Prop} {K node : Int} {L : List Hr} {o : List (Int × Int)} {q : List Wr}
theorem hp_rdy (h : PH w wx g g1 g2 X N K node L n o q) (hn : n ≤ 1000) : Calls Try.prog 32 #[.pointer (some ⟨g2, 0, none⟩)] wx fun e w' => ∃ a c, e = .returned (.slice a (readyT o q).length c) ∧ Sl w' a (readyT o q).length c (readyT o q) ∧ Below wx.heap.size wx w' := by
  refine (hp_ready h.hp hn).mono ?_
  rintro e w' ⟨v, rfl, own, b⟩
  obtain ⟨a, c, rfl, hs⟩ := own.sl
  exact ⟨a, c, rfl, hs, b⟩
set_option maxHeartbeats 800000 in
theorem hpend_any (h : PH w wx g g1 g2 X N K node L n o q) (hn : n ≤ 1000) (b : Bool) (hb : decide (0 < (readyT o q).length) = b) :
    Calls Try.prog 13 #[.pointer (some ⟨g, 0, none⟩)] wx fun e w' => e = .returned (.bool b) ∧ Below wx.heap.size wx w' := by
  have c1 := h.c1
  obtain ⟨k, hk⟩ : ∃ k, (readyT o q).length = k := ⟨_, rfl⟩
  have HK : Hid ((readyT o q).length = k) := hk
  rw [hk] at hb
  clear hk
  go_enter Try.func13, Try.ntmps13
  go_wp2_with (go_at_call 32; refine (hp_rdy h hn).mono ?_; rw [HK.out]; rintro e V ⟨a, c, rfl, sl, b1⟩)
  go_ret
  exact ⟨rfl, b1⟩
set_option maxHeartbeats 800000 in
theorem hgr_no (h : PH w wx g g1 g2 X N K node L n o q) (hn : n ≤ 1000) (hr : readyT o q = []) :
    Calls Try.prog 16 #[.pointer (some ⟨g, 0, none⟩)] wx fun e w' => e = .returned (.tuple #[zeroPk.val (.slice none 0 0), .bool false]) ∧ Below wx.heap.size wx w' := by
  have HK : Hid ((readyT o q).length = 0) := by show _ = _; rw [hr]; rfl
  clear hr
  go_enter Try.func16, Try.ntmps16
  go_upto_region 1 with fail
  have hB : Below wx.heap.size wx (wx.alloc (.cells #[.int .i64 0, .int .i64 0, .int .i64 0, .int .i64 0, .int .i64 0, .int .i64 0, .int .i64 0, .bool false, .slice none 0 0] 32)) := ba (Below.refl _ _)
  have bxr : Bx (wx.alloc (.cells #[.int .i64 0, .int .i64 0, .int .i64 0, .int .i64 0, .int .i64 0, .int .i64 0, .int .i64 0, .bool false, .slice none 0 0] 32)) wx.heap.size zeroPk (.slice none 0 0) := Bx.made wx zeroPk (.slice none 0 0)
  have h1 := h.below hB
  clear h
  generalize World.alloc _ (.cells #[.int .i64 0, .int .i64 0, .int .i64 0, .int .i64 0, .int .i64 0, .int .i64 0, .int .i64 0, .bool false, .slice none 0 0] 32) = W at *
  have c1 := h1.c1
  go_wp2_with (go_at_call 32; refine (hp_rdy h1 hn).mono ?_; rw [HK.out]; rintro e V ⟨a, c, rfl, sl, b1⟩; obtain ⟨r0, r1, r2, r3, r4, r5, r6, r7, r8, rf, rl⟩ := bxr.next b1; have f0 := rf 0)
  refine bodyPost_ret (v := .tuple #[Pk.val zeroPk (.slice none 0 0), .bool false]) (by simp [results, Try.results16, go_sem, *, zeroPk]) rfl ⟨rfl, far9 (g := wx.heap.size) (y := zeroPk) (v := .slice none 0 0) (W := V) (P := fun V => Below wx.heap.size wx V) (fun V o u h => h.setCell (by simp) u) (next hB b1)⟩
set_option maxHeartbeats 1600000 in
theorem hgr_ok (h : PH w wx g g1 g2 X N K node L n o q) (hn : n ≤ 1000) {l v d : Int} {rest : List Int} (hr : readyT o q = l :: rest) (hl : In64 l) (h1 : ownT o l = -1) (h0 : 0 ≤ v) (hk : nextW q l = some ⟨l, v, d⟩) :
    Calls Try.prog 16 #[.pointer (some ⟨g, 0, none⟩)] wx fun e w' => ∃ dd, e = .returned (.tuple #[(grantR node v d l L).val dd, .bool true]) ∧ DatZ w' (fun k => wx.heap.size ≤ k) (grantR node v d l L).z dd ∧ Keep (NX w X) wx w' ∧ PH w w' g g1 g2 X N K node L (n + 1) (o ++ [(l, v)]) (nextQ q l) := by
  have HR : Hid (readyT o q = l :: rest) := hr
  have HH : Hid (In64 l ∧ ownT o l = -1 ∧ 0 ≤ v ∧ nextW q l = some ⟨l, v, d⟩) := ⟨hl, h1, h0, hk⟩
  clear hr hl h1 h0 hk
  go_enter Try.func16, Try.ntmps16
  go_upto_region 1 with fail
  have hB : Below wx.heap.size wx (wx.alloc (.cells #[.int .i64 0, .int .i64 0, .int .i64 0, .int .i64 0, .int .i64 0, .int .i64 0, .int .i64 0, .bool false, .slice none 0 0] 32)) := ba (Below.refl _ _)
  have bxr : Bx (wx.alloc (.cells #[.int .i64 0, .int .i64 0, .int .i64 0, .int .i64 0, .int .i64 0, .int .i64 0, .int .i64 0, .bool false, .slice none 0 0] 32)) wx.heap.size zeroPk (.slice none 0 0) := Bx.made wx zeroPk (.slice none 0 0)
  have h1 := h.own hB
  have HWS : Hid (w.heap.size ≤ wx.heap.size) := h.bel.size
  clear h
  generalize World.alloc _ (.cells #[.int .i64 0, .int .i64 0, .int .i64 0, .int .i64 0, .int .i64 0, .int .i64 0, .int .i64 0, .bool false, .slice none 0 0] 32) = W at *
  have c1 := h1.c1
  have HSZ : Hid (wx.heap.size < W.heap.size) := bxr.lt
  have HXW : Hid (∀ j, wx.heap.size ≤ j → j < W.heap.size → (X j ∨ wx.heap.size ≤ j ∧ j < W.heap.size)) := fun j h1 h2 => .inr ⟨h1, h2⟩
  go_upto_region 4 with (go_at_call 32; refine (hp_rdy h1 hn).mono ?_; rw [HR.out]; rintro e V ⟨a, c, rfl, sl, b1⟩; obtain ⟨b0, o0, ea, hb0, hc0⟩ := sl.at (k := 0) (by simp); subst ea)
  have hc1 : V.cell? ⟨b0, o0, none⟩ = some (.int .i64 l) := hc0
  have h2 := h1.below b1
  have br2 := bxr.next b1
  have hB2 := next hB b1
  clear hc0 sl h1 c1 bxr hB b1 hb0
  have c1 := h2.c1
  obtain ⟨P, hP⟩ : ∃ P, grantR node v d l L = P := ⟨_, rfl⟩
  go_upto_region 6 with (go_at_call 34; refine (hp_next h2.hp HH.out.1 HH.out.2.1 HH.out.2.2.1 HH.out.2.2.2 hn).mono ?_; rintro e V2 ⟨rfl, hk2, p2⟩)
  obtain ⟨hk3, h3⟩ := h2.call hk2 p2
  have br3 := br2.keep hk2 (fun hf => hf.2 (.inl (HXW.out _ (Nat.le_refl _) HSZ.out)))
  have hK := Keep.pre hB2 (hk3.mono (G := NX w X) (fun j _ hj => nx_less (fun j hx => .inl hx) hj))
  clear hk2 hk3 p2 h2 br2 hB2 c1 hc1
  go_wp2_with (go_at_call 35; refine (hgranted_any h3 HH.out.1 v d).mono ?_; rw [hP]; rintro e V5 ⟨dd, rfl, hd5, b5⟩; obtain ⟨a5, n5, c5, ed, _⟩ := id hd5; subst ed; have br6 := br3.next b5; obtain ⟨r0, r1, r2, r3, r4, r5, r6, r7, r8, rf, rl⟩ := id br6; have f0 := rf 0)
  have hz2 := br3.lt
  have hkk : Keep (fun k => k = wx.heap.size) V5 _ := far9 (g := wx.heap.size) (y := P) (v := .slice a5 n5 c5) (W := V5) (P := fun V => Keep (fun k => k = wx.heap.size) V5 V) (fun V o u h => h.setCell (.inl rfl) u) (Keep.refl _ _)
  refine bodyPost_ret (v := .tuple #[Pk.val P (.slice a5 n5 c5), .bool true]) (by simp [results, Try.results16, go_sem, *]) rfl ⟨_, by rw [hP], by rw [hP]; exact (hd5.keep hkk (fun j hj e => by omega)).imp (fun j _ hj => by omega), (hK.trans (Keep.of_below (F := fun _ => False) b5) (fun j _ h => h.elim)).trans hkk (fun j hj e => by omega), (h3.below b5).step hkk (fun j hj => ?_) (fun j hj => ⟨.inl (.inl hj), ?_⟩)⟩
  · subst hj
    exact ⟨HWS.out, .inl (HXW.out _ (Nat.le_refl _) HSZ.out)⟩
  · exact Nat.lt_of_lt_of_le (Nat.lt_of_lt_of_le (h3.xl j (.inl hj)) b5.size) hkk.size
end
end Go.Proofs.Ytgeiagndpfdnlaa
end
section
namespace Go.Proofs.Ytgeiagndpfdnlaa
open Go.RowKit Go.Maps
set_option linter.unusedVariables false
set_option maxRecDepth 20000

section
variable {w wx wy : World} {X : Nat → Prop}
set_option maxHeartbeats 1600000 in
theorem hnew_any (N M K S Y O I : Nat) (a : Option Addr) (nv cv : Nat) (zi : List Int) (node : Int) (hb : Below w.heap.size w wx) (hX : ∀ j, X j → j < wx.heap.size) (hsl : Sl wx a nv cv zi) (hN0 : 1 ≤ N) (hN : N ≤ 6) (hL : M ≤ 8) (hK0 : 1 ≤ K) (hK : K ≤ 4) (hlen : nv ≤ 32) (hc : chk N M K S Y O I nv = true) :
    Calls Try.prog 8 #[cfg N M K S Y O I (.slice a nv cv), .int .i64 node] wx fun e w' => ∃ g g1 g2, e = .returned (.pointer (some ⟨g, 0, none⟩)) ∧ Below wx.heap.size wx w' ∧ PH w w' g g1 g2 X N K node (rows0 zi N M K node M) 0 [] [] := by
  have HE : Hid (errI (chk N M K S Y O I nv) = 0) := by show _ = _; rw [hc]; rfl
  have HH : Hid (1 ≤ N ∧ N ≤ 6 ∧ M ≤ 8 ∧ 1 ≤ K ∧ K ≤ 4 ∧ nv ≤ 32) := ⟨hN0, hN, hL, hK0, hK, hlen⟩
  have HX : Hid (∀ j, X j → j < wx.heap.size) := hX
  clear hc hN0 hN hL hK0 hK hlen hX
  unfold cfg
  go_enter Try.func8, Try.ntmps8
  go_upto_region 1 with fail
  have hB : Below wx.heap.size wx (wx.alloc (.cells #[.int .i64 (N : Int), .int .i64 (M : Int), .int .i64 (K : Int), .int .i64 (S : Int), .int .i64 (Y : Int), .int .i64 (O : Int), .int .i64 (I : Int), .slice a nv cv] 26)) := ba (Below.refl _ _)
  have hcb := CB.made wx N M K S Y O I (.slice a nv cv)
  have hs1 := hsl.below hB
  generalize wx.alloc (.cells #[.int .i64 (N : Int), .int .i64 (M : Int), .int .i64 (K : Int), .int .i64 (S : Int), .int .i64 (Y : Int), .int .i64 (O : Int), .int .i64 (I : Int), .slice a nv cv] 26) = W at *
  obtain ⟨c0, c1, c2, c3, c4, c5, c6, c7, clt⟩ := id hcb
  go_upto_region 3 with (go_at_call 25; refine (check_any N M K S Y O I a nv cv W).mono ?_; rw [HE.out]; rintro e V ⟨rfl, b1⟩)
  have hs2 := hs1.below b1
  have hcb2 := hcb.below b1
  have hB2 := next hB b1
  clear c0 c1 c2 c3 c4 c5 c6 c7 clt hcb hs1 hB b1
  refine wp_region_orders 10 rfl (by kernel_rfl) ?_
  have Bd : Below V.heap.size V V.drew := (Below.refl _ _).drew
  have hs3 := hs2.below Bd
  have hcb3 := hcb2.below Bd
  have hB3 := next hB2 Bd
  clear hs2 hcb2 hB2 Bd
  generalize V.drew = Vd at *
  clear V
  obtain ⟨c0, c1, c2, c3, c4, c5, c6, c7, clt⟩ := id hcb3
  have HIB : Hid (∀ V', Below Vd.heap.size Vd V' → (fun V => V.cell? ⟨wx.heap.size, 0, none⟩ = some (.int .i64 (N : Int)) ∧ V.cell? ⟨wx.heap.size, 1, none⟩ = some (.int .i64 (M : Int)) ∧ V.cell? ⟨wx.heap.size, 2, none⟩ = some (.int .i64 (K : Int)) ∧ V.cell? ⟨wx.heap.size, 3, none⟩ = some (.int .i64 (S : Int)) ∧ V.cell? ⟨wx.heap.size, 4, none⟩ = some (.int .i64 (Y : Int)) ∧ V.cell? ⟨wx.heap.size, 5, none⟩ = some (.int .i64 (O : Int)) ∧ V.cell? ⟨wx.heap.size, 6, none⟩ = some (.int .i64 (I : Int)) ∧ V.cell? ⟨wx.heap.size, 7, none⟩ = some (.slice a nv cv)) V') := fun V' b => ⟨(b.cell (p := ⟨wx.heap.size, 0, none⟩) clt).trans c0, (b.cell (p := ⟨wx.heap.size, 1, none⟩) clt).trans c1, (b.cell (p := ⟨wx.heap.size, 2, none⟩) clt).trans c2, (b.cell (p := ⟨wx.heap.size, 3, none⟩) clt).trans c3, (b.cell (p := ⟨wx.heap.size, 4, none⟩) clt).trans c4, (b.cell (p := ⟨wx.heap.size, 5, none⟩) clt).trans c5, (b.cell (p := ⟨wx.heap.size, 6, none⟩) clt).trans c6, (b.cell (p := ⟨wx.heap.size, 7, none⟩) clt).trans c7⟩
  have hI : (fun V => V.cell? ⟨wx.heap.size, 0, none⟩ = some (.int .i64 (N : Int)) ∧ V.cell? ⟨wx.heap.size, 1, none⟩ = some (.int .i64 (M : Int)) ∧ V.cell? ⟨wx.heap.size, 2, none⟩ = some (.int .i64 (K : Int)) ∧ V.cell? ⟨wx.heap.size, 3, none⟩ = some (.int .i64 (S : Int)) ∧ V.cell? ⟨wx.heap.size, 4, none⟩ = some (.int .i64 (Y : Int)) ∧ V.cell? ⟨wx.heap.size, 5, none⟩ = some (.int .i64 (O : Int)) ∧ V.cell? ⟨wx.heap.size, 6, none⟩ = some (.int .i64 (I : Int)) ∧ V.cell? ⟨wx.heap.size, 7, none⟩ = some (.slice a nv cv)) Vd := HIB.out _ (Below.refl _ _)
  have hXV : ∀ j, X j → j < Vd.heap.size := fun j hj => Nat.lt_of_lt_of_le (HX.out j hj) hB3.size
  have hWV := next hb hB3
  have hmk := mo_new (w := w) (X := fun j => j < Vd.heap.size) N M K S Y O I a nv cv zi node hWV (fun j hj => hj) hs3 HH.out.1 HH.out.2.1 HH.out.2.2.1 HH.out.2.2.2.1 HH.out.2.2.2.2.1 HH.out.2.2.2.2.2
  unfold cfg at hmk
  clear c0 c1 c2 c3 c4 c5 c6 c7 hcb3 hs3 hsl
  refine any_inv (fun V => V.cell? ⟨wx.heap.size, 0, none⟩ = some (.int .i64 (N : Int)) ∧ V.cell? ⟨wx.heap.size, 1, none⟩ = some (.int .i64 (M : Int)) ∧ V.cell? ⟨wx.heap.size, 2, none⟩ = some (.int .i64 (K : Int)) ∧ V.cell? ⟨wx.heap.size, 3, none⟩ = some (.int .i64 (S : Int)) ∧ V.cell? ⟨wx.heap.size, 4, none⟩ = some (.int .i64 (Y : Int)) ∧ V.cell? ⟨wx.heap.size, 5, none⟩ = some (.int .i64 (O : Int)) ∧ V.cell? ⟨wx.heap.size, 6, none⟩ = some (.int .i64 (I : Int)) ∧ V.cell? ⟨wx.heap.size, 7, none⟩ = some (.slice a nv cv)) [] hI ?_
  refine inv_take (v := ?v1) [] 0 hI rfl (by kernel_rfl) (by kernel_rfl) (by kernel_rfl) (by kernel_rfl) (by kernel_rfl) (fun _ _ _ h => h) (by kernel_rfl) (fun V hV => ?hy1) ?go1
  case hy1 => (obtain ⟨i0, i1, i2, i3, i4, i5, i6, i7⟩ := hV; go_simp <;> rfl)
  simp only [Act.put, List.setIfInBounds_toArray, List.set_cons_zero, List.set_cons_succ]
  refine inv_take (v := ?v2) [] 1 hI rfl (by kernel_rfl) (by kernel_rfl) (by kernel_rfl) (by kernel_rfl) (by kernel_rfl) (fun _ _ _ h => h) (by kernel_rfl) (fun V hV => ?hy2) ?go2
  case hy2 => (obtain ⟨i0, i1, i2, i3, i4, i5, i6, i7⟩ := hV; go_simp <;> rfl)
  simp only [Act.put, List.setIfInBounds_toArray, List.set_cons_zero, List.set_cons_succ]
  refine inv_take (v := ?v3) [] 4 hI rfl (by kernel_rfl) (by kernel_rfl) (by kernel_rfl) (by kernel_rfl) (by kernel_rfl) (fun _ _ _ h => h) (by kernel_rfl) (fun V hV => ?hy3) ?go3
  case hy3 => (obtain ⟨i0, i1, i2, i3, i4, i5, i6, i7⟩ := hV; go_simp <;> rfl)
  simp only [Act.put, List.setIfInBounds_toArray, List.set_cons_zero, List.set_cons_succ]
  refine inv_take (v := ?v4) [] 5 hI rfl (by kernel_rfl) (by kernel_rfl) (by kernel_rfl) (by kernel_rfl) (by kernel_rfl) (fun _ _ _ h => h) (by kernel_rfl) (fun V hV => ?hy4) ?go4
  case hy4 => (obtain ⟨i0, i1, i2, i3, i4, i5, i6, i7⟩ := hV; go_simp <;> rfl)
  simp only [Act.put, List.setIfInBounds_toArray, List.set_cons_zero, List.set_cons_succ]
  refine inv_take (v := ?v5) [] 6 hI rfl (by kernel_rfl) (by kernel_rfl) (by kernel_rfl) (by kernel_rfl) (by kernel_rfl) (fun _ _ _ h => h) (by kernel_rfl) (fun V hV => ?hy5) ?go5
  case hy5 => (obtain ⟨i0, i1, i2, i3, i4, i5, i6, i7⟩ := hV; go_simp <;> rfl)
  simp only [Act.put, List.setIfInBounds_toArray, List.set_cons_zero, List.set_cons_succ]
  refine inv_list 2 (by kernel_rfl) rfl ?_
  go_wp2_with (go_at_call 26; refine hmk.mono ?_; rintro e V1 ⟨g1, rfl, b1, m1⟩)
  refine then_n ⟨HIB.out _ b1, ?_⟩
  try simp only [Act.put, List.setIfInBounds_toArray, List.set_cons_zero, List.set_cons_succ]
  refine inv_list 3 (by kernel_rfl) rfl ?_
  go_wp2_with (go_at_call 27; refine (to_new (X := fun j => j < V1.heap.size) (next hWV b1) (fun j hj => hj)).mono ?_; rintro e V2 ⟨g2, rfl, b2, t1⟩)
  have b3 := next b1 b2
  refine then_n ⟨HIB.out _ b3, ?_⟩
  try simp only [Act.put, List.setIfInBounds_toArray, List.set_cons_zero, List.set_cons_succ]
  refine inv_take (v := ?v6) [] 7 (HIB.out _ b3) rfl (by kernel_rfl) (by kernel_rfl) (by kernel_rfl) (by kernel_rfl) (by kernel_rfl) (fun _ _ _ h => h) (by kernel_rfl) (fun V hV => ?hy6) ?go6
  case hy6 => (obtain ⟨i0, i1, i2, i3, i4, i5, i6, i7⟩ := hV; go_simp <;> rfl)
  simp only [Act.put, List.setIfInBounds_toArray, List.set_cons_zero, List.set_cons_succ]
  refine inv_list 8 (by kernel_rfl) rfl ?_
  go_wp2_with fail
  refine then_n ⟨HIB.out _ (ba b3), ?_⟩
  try simp only [Act.put, List.setIfInBounds_toArray, List.set_cons_zero, List.set_cons_succ]
  refine inv_list 9 (by kernel_rfl) rfl ?_
  go_wp2_with fail
  refine then_n ⟨HIB.out _ (ba b3), ?_⟩
  try simp only [Act.put, List.setIfInBounds_toArray, List.set_cons_zero, List.set_cons_succ]
  refine inv_done (by kernel_rfl) ?_
  go_wp2_with fail
  go_ret
  have hws := hWV.size
  have hv1 := b1.size
  have hv2 := b2.size
  have hmake : HP w V2 g1 g2 X N K (rows0 zi N M K node M) 0 [] [] := hp_make (a0 := Vd.heap.size) (b0 := V1.heap.size) hws (by omega) (fun j hj => ⟨hXV j hj, by have := hXV j hj; omega⟩) m1 t1 (.inl (Nat.le_refl _)) b2 (Below.refl _ _)
  have b4 : Below V2.heap.size V2 (V2.alloc (.cells #[.pointer (some ⟨g1, 0, none⟩), .pointer (some ⟨g2, 0, none⟩), .int .i64 node, .int .i64 (N : Int)] 42)) := ba (Below.refl _ _)
  have hz4 : V2.heap.size < (V2.alloc (.cells #[.pointer (some ⟨g1, 0, none⟩), .pointer (some ⟨g2, 0, none⟩), .int .i64 node, .int .i64 (N : Int)] 42)).heap.size := by simp
  have hkk := HH.out
  refine ⟨V2.heap.size, g1, g2, rfl, ba (next hB3 b3), ?_⟩
  refine ⟨hmake.step (F := fun _ => False) (Keep.of_below b4) (fun _ h => h.elim) (fun j hj => ?_), by simp, by simp, by simp, by simp, by simp, ⟨by omega, fun hx => by have := hXV _ hx; omega⟩, by omega⟩
  rcases hj with hj | rfl
  · exact ⟨.inl hj, by have := hXV j hj; omega⟩
  · exact ⟨.inr (Nat.le_refl _), hz4⟩
end
theorem wkRows : rows0 [] 2 1 1 0 1 = [⟨0, 0, -1, [0]⟩] := by simp [rows0, remI, wordsI, List.range_succ]
theorem wkNew (w : World) : Calls Try.prog 8 #[.agg #[.int .i64 2, .int .i64 1, .int .i64 1, .int .i64 1, .int .i64 1, .int .i64 1, .int .i64 1, .slice none 0 0], .int .i64 0] w fun e w' => ∃ g g1 g2, e = .returned (.pointer (some ⟨g, 0, none⟩)) ∧ Below w.heap.size w w' ∧ PH w w' g g1 g2 (fun _ => False) 2 1 0 [⟨0, 0, -1, [0]⟩] 0 [] [] := by
  have := hnew_any (w := w) (X := fun _ => False) 2 1 1 1 1 1 1 none 0 0 [] 0 (Below.refl _ _) (fun _ h => h.elim) (sl_nil _) (by omega) (by omega) (by omega) (by omega) (by omega) (by omega) (by decide)
  rw [wkRows] at this
  exact this
theorem wkCk : ckE 2 0 [⟨0, 0, -1, [0]⟩] ⟨1, 1, 0, 7, 0, 0, 0, false, []⟩ = 0 := by decide
theorem wkGr : grantR 0 1 7 0 [⟨0, 0, -1, [0]⟩] = ⟨7, 0, 1, 7, 0, -1, 0, false, [0]⟩ := by simp [grantR, rowL, getK]
theorem wkAsk : askB [] [] 0 = true := by decide
set_option maxHeartbeats 1000000 in
theorem hwakes_any (w : World) : Calls Try.prog 14 #[] w fun e w' => e = .returned (.bool true) ∧ Below w.heap.size w w' := by
  have i0 : In64 0 := by unfold In64; omega
  go_enter Try.func14, Try.ntmps14
  go_upto_region 5 with (first
    | (have mk := h1; clear mk; go_at_call 10; refine (hh_grant h1 ⟨1, 1, 0, 7, 0, 0, 0, false, []⟩ none 0 0 (sl_nil _) i0 wkCk rfl wkAsk (by omega)).mono ?_; rw [wkGr]; rintro e w2 ⟨dd, rfl, hd, hk2, h2⟩; obtain ⟨a5, n5, c5, ed, _⟩ := id hd; subst ed)
    | (go_at_call 8; refine (wkNew w).mono ?_; rintro e w1 ⟨g, g1, g2, rfl, b1, h1⟩))
  have hB1 : Below w.heap.size w w2 := b1.trans (hk2.below (fun j hj => hj.1) b1.size)
  have b3 : Below w2.heap.size w2 (w2.alloc (.cells #[.int .i64 7, .int .i64 0, .int .i64 1, .int .i64 7, .int .i64 0, .int .i64 (-1), .int .i64 0, .bool false, .slice a5 n5 c5] 32)) := ba (Below.refl _ _)
  have bxa : Bx (w2.alloc (.cells #[.int .i64 7, .int .i64 0, .int .i64 1, .int .i64 7, .int .i64 0, .int .i64 (-1), .int .i64 0, .bool false, .slice a5 n5 c5] 32)) w2.heap.size ⟨7, 0, 1, 7, 0, -1, 0, false, [0]⟩ (.slice a5 n5 c5) := Bx.made w2 ⟨7, 0, 1, 7, 0, -1, 0, false, [0]⟩ (.slice a5 n5 c5)
  have h3 := h2.below b3
  have hB2 := next hB1 b3
  clear h1 h2 hk2 b1 hd hB1 b3
  generalize w2.alloc _ = w3 at *
  generalize w2.heap.size = ga at *
  obtain ⟨y0, y1, y2, y3, y4, y5, y6, y7, y8, yf, yl⟩ := id bxa
  have c1 := h3.c1
  go_wp2_with (go_at_call 11; refine (hp_owner h3.hp i0).mono ?_; rw [show ownT (askO [] [] 0 1) 0 = 1 by decide]; rintro e w4 ⟨rfl, rfl⟩)
  go_ret
  exact ⟨rfl, hB2⟩

end Go.Proofs.Ytgeiagndpfdnlaa
end
section
namespace Go.Proofs.Ytgeiagndpfdnlaa
open Go.RowKit Go.Maps
set_option linter.unusedVariables false
set_option maxRecDepth 20000

/-- The error that a request is answered with; 0: none. -/
def hErr (N : Nat) (K node : Int) (L : List Hr) (o : List (Int × Int)) (x : Pk) : Int := if ckE N node L x = 0 then (if x.k = 1 then 0 else ulE N K L o x) else ckE N node L x
section
variable {w wx wy : World} {g g1 g2 n N : Nat} {X Y : Nat → Prop} {K node : Int} {L : List Hr} {o : List (Int × Int)} {q : List Wr}
theorem ck_kind {x : Pk} (h : ckE N node L x = 0) : x.k = 1 ∨ x.k = 2 := by
  unfold ckE at h
  split at h
  · rename_i ht
    unfold tknP at ht
    rw [Bool.and_eq_true] at ht
    exact (of_decide_eq_true ht.2).2.2
  · cases h
theorem hh_err (h : PH w wx g g1 g2 X N K node L n o q) (x : Pk) (a : Option Addr) (m c : Nat) (hsl : Sl wx a m c x.z) (hl : In64 x.l) {E : Int} (he : hErr N K node L o x = E) (hE : E ≠ 0) :
    Calls Try.prog 10 #[.pointer (some ⟨g, 0, none⟩), x.val (.slice a m c)] wx fun e w' => e = .returned (.tuple #[zeroPk.val (.slice none 0 0), .bool false, .int .i64 E]) ∧ Keep (NX w X) wx w' ∧ PH w w' g g1 g2 X N K node L n o q := by
  subst he
  unfold hErr at hE ⊢
  by_cases hc : ckE N node L x = 0
  · rw [if_pos hc] at hE ⊢
    by_cases hk : x.k = 1
    · rw [if_pos hk] at hE; exact absurd rfl hE
    · rw [if_neg hk] at hE ⊢
      exact hh_uerr h x a m c hsl hl hc ((ck_kind hc).resolve_left hk) hE
  · rw [if_neg hc]
    refine (hh_bad h x a m c hsl hl hc).mono ?_
    rintro e w' ⟨rfl, hb⟩
    exact ⟨rfl, Keep.of_below hb, h.below hb⟩
end
theorem cell_new (w : World) (A : Array Value) (t : TypeId) (k : Nat) : (w.alloc (.cells A t)).cell? ⟨w.heap.size, k, none⟩ = A[k]? := by
  have h := heap_alloc_new w (.cells A t)
  have := cell_of_row (w.alloc (.cells A t)) w.heap.size k A t (0, 0) h
  exact this
end Go.Proofs.Ytgeiagndpfdnlaa
end
section
namespace Go.Proofs.Ytgeiagndpfdnlaa
open Go.RowKit Go.Maps
set_option linter.unusedVariables false
set_option maxRecDepth 20000

/-- Row i is that of line i. -/
def Nums (L : Nat) (DL : List Hr) : Prop := DL.length = L ∧ ∀ (i : Nat) (x : Hr), DL[i]? = some x → x.n = (i : Int)
/-- Those whose home is here. -/
def homeF (N L : Nat) (node : Int) (DL : List Hr) : List Hr := DL.filter (fun x => hereI N L node x.n)
theorem dp_nums {w wx : World} {g g2 gc : Nat} {X Z : Nat → Prop} {N L K : Nat} {node : Int} {Ld DL : List Hr} (h : DP w wx g g2 gc X Z N L K node Ld DL) : Nums L DL := by
  obtain ⟨M, D, R, a, cap, d, rfl, _⟩ := h.dh
  refine ⟨by rw [List.length_map]; exact d.len, fun i x hx => ?_⟩
  rw [List.getElem?_map] at hx
  cases hr : R[i]? with
  | none => rw [hr] at hx; cases hx
  | some r =>
    rw [hr] at hx
    obtain rfl := Option.some.inj hx
    exact d.nums i r hr
section
variable {N L K : Nat} {node : Int} {DL : List Hr}
theorem nums_rise (h : Nums L DL) : RiseK hOf DL := by
  refine List.pairwise_iff_getElem.2 fun i j hi hj hij => ?_
  have h1 := h.2 i _ (List.getElem?_eq_getElem hi)
  have h2 := h.2 j _ (List.getElem?_eq_getElem hj)
  show (DL[i]).n < (DL[j]).n
  omega
theorem homeF_rise (h : Nums L DL) : RiseK hOf (homeF N L node DL) := List.Pairwise.sublist List.filter_sublist (nums_rise h)
theorem here_of {l : Int} (hh : hereI N L node l = true) : 0 ≤ l ∧ l < (L : Int) ∧ l % (N : Int) = node := by
  unfold hereI at hh
  simp only [Bool.and_eq_true] at hh
  exact ⟨of_decide_eq_true hh.1.1, of_decide_eq_true hh.1.2, of_decide_eq_true hh.2⟩
theorem nums_at (h : Nums L DL) {l : Int} (hh : hereI N L node l = true) : ∃ x, DL[l.toNat]? = some x ∧ x.n = l := by
  obtain ⟨h0, h1, _⟩ := here_of hh
  have hl : l.toNat < DL.length := by rw [h.1]; omega
  refine ⟨_, List.getElem?_eq_getElem hl, ?_⟩
  have := h.2 l.toNat _ (List.getElem?_eq_getElem hl)
  omega
theorem homeF_get (h : Nums L DL) {l : Int} (hh : hereI N L node l = true) : getK hOf l (homeF N L node DL) = some ((DL[l.toNat]?).getD zeroHr) := by
  obtain ⟨x, hx, hxn⟩ := nums_at h hh
  rw [hx]
  have hm : x ∈ homeF N L node DL := List.mem_filter.2 ⟨List.mem_of_getElem? hx, by rw [hxn]; exact hh⟩
  have := getK_mem (key := hOf) (homeF_rise (N := N) (node := node) h) hm
  rw [← hxn]
  exact this
theorem homeF_none (h : Nums L DL) {l : Int} (hh : hereI N L node l = false) : getK hOf l (homeF N L node DL) = none := by
  refine getK_none.2 fun q hq e => ?_
  have := (List.mem_filter.1 hq).2
  rw [show q.n = l from e, hh] at this
  cases this
theorem homeF_has (h : Nums L DL) (l : Int) : hasH (homeF N L node DL) l = hereI N L node l := by
  unfold hasH
  cases hh : hereI N L node l with
  | true => rw [homeF_get h hh]; rfl
  | false => rw [homeF_none h hh]; rfl
theorem homeF_set (h : Nums L DL) {r : Hr} (hh : hereI N L node r.n = true) : putK hOf r (homeF N L node DL) = homeF N L node (DL.set r.n.toNat r) := by
  obtain ⟨h0, h1, _⟩ := here_of hh
  have hl : r.n.toNat < DL.length := by rw [h.1]; omega
  have hs : Nums L (DL.set r.n.toNat r) := ⟨by rw [List.length_set]; exact h.1, fun i x hx => by
    rw [List.getElem?_set] at hx
    by_cases e : r.n.toNat = i
    · rw [if_pos e, if_pos (by omega)] at hx
      obtain rfl := Option.some.inj hx
      omega
    · rw [if_neg e] at hx
      exact h.2 i x hx⟩
  refine rise_ext (rise_put (homeF_rise h)) (homeF_rise hs) fun q => ?_
  rw [mem_putK]
  constructor
  · rintro (rfl | ⟨hq, hne⟩)
    · exact List.mem_filter.2 ⟨List.mem_of_getElem? (List.getElem?_set_self hl), hh⟩
    · obtain ⟨hq1, hq2⟩ := List.mem_filter.1 hq
      obtain ⟨j, hj, rfl⟩ := List.getElem_of_mem hq1
      have hn := h.2 j _ (List.getElem?_eq_getElem hj)
      have hjr : r.n.toNat ≠ j := fun e => hne (by show (DL[j]).n = r.n; omega)
      exact List.mem_filter.2 ⟨List.mem_of_getElem? (i := j) (by rw [List.getElem?_set_ne hjr]; exact List.getElem?_eq_getElem hj), hq2⟩
  · intro hq
    obtain ⟨hq1, hq2⟩ := List.mem_filter.1 hq
    obtain ⟨j, hj⟩ := List.getElem?_of_mem hq1
    by_cases e : r.n.toNat = j
    · subst e
      rw [List.getElem?_set_self hl] at hj
      exact .inl (Option.some.inj hj).symm
    · rw [List.getElem?_set_ne e] at hj
      have hn := h.2 j q hj
      exact .inr ⟨List.mem_filter.2 ⟨List.mem_of_getElem? hj, hq2⟩, fun e2 => e (by have : q.n = r.n := e2; omega)⟩
theorem dset_same (h : Nums L DL) (l s hd : Int) (z : List Int) : setR N K (homeF N L node DL) l s hd z = ((setD N L K node DL l s hd z).1, homeF N L node (setD N L K node DL l s hd z).2) := by
  unfold setR setD
  rw [homeF_has h]
  cases hh : hereI N L node l with
  | false => rfl
  | true =>
    rw [if_pos rfl, if_pos rfl]
    cases ho : setOk N K s hd z.length with
    | false => rfl
    | true =>
      rw [if_pos rfl, if_pos rfl]
      have e : rowL (homeF N L node DL) l = (DL[l.toNat]?).getD zeroHr := by unfold rowL; rw [homeF_get h hh]; rfl
      rw [e, homeF_set h (r := ⟨l, s, hd, if z = [] then ((DL[l.toNat]?).getD zeroHr).z else z⟩) hh]
/-- The lines below k whose home is here. -/
def wl (N L : Nat) (node : Int) (k : Nat) : List Int := ((List.range k).map (fun i : Nat => (i : Int))).filter (hereI N L node)
theorem wl_at {k : Nat} (h : hereI N L node (k : Int) = true) : wl N L node (k + 1) = wl N L node k ++ [(k : Int)] := by
  unfold wl
  rw [List.range_succ, List.map_append, List.filter_append]
  simp [h]
theorem wl_no {k : Nat} (h : hereI N L node (k : Int) = false) : wl N L node (k + 1) = wl N L node k := by
  unfold wl
  rw [List.range_succ, List.map_append, List.filter_append]
  simp [h]
theorem wl_len {k : Nat} : (wl N L node k).length ≤ k := by
  unfold wl
  have := List.length_filter_le (hereI N L node) ((List.range k).map (fun i : Nat => (i : Int)))
  rwa [List.length_map, List.length_range] at this
theorem wl_all (h : Nums L DL) : (homeF N L node DL).map hOf = wl N L node L := by
  have e : DL.map hOf = (List.range L).map (fun i : Nat => (i : Int)) := by
    refine List.ext_getElem? fun i => ?_
    rw [List.getElem?_map, List.getElem?_map]
    by_cases hi : i < DL.length
    · rw [List.getElem?_eq_getElem hi, List.getElem?_range (by rw [← h.1]; exact hi)]
      have := h.2 i _ (List.getElem?_eq_getElem hi)
      simp only [Option.map_some]
      exact congrArg some this
    · rw [List.getElem?_eq_none (by omega), List.getElem?_eq_none (by rw [List.length_range, ← h.1]; omega)]
      rfl
  unfold homeF wl
  rw [← e, List.filter_map]
  rfl
theorem home_first (zi : List Int) (hN : 1 ≤ N) : rows0 zi N L K node L = homeF N L node (dl0 zi L K L) := by
  unfold rows0 homeF dl0
  rw [List.filter_map]
  congr 1
  refine List.filter_congr fun l hl => ?_
  have := List.mem_range.1 hl
  show decide (remI (l : Int) N = node) = hereI N L node (l : Int)
  unfold hereI remI
  rw [if_neg (by omega), decide_eq_true (by omega : 0 ≤ (l : Int)), decide_eq_true (by omega : (l : Int) < (L : Int))]
  rfl
end
end Go.Proofs.Ytgeiagndpfdnlaa
end
section
namespace Go.Proofs.Ytgeiagndpfdnlaa
open Go.RowKit Go.Maps
set_option linter.unusedVariables false
set_option maxRecDepth 20000

/-- The document's homes at g: all its blocks are those of A. -/
def HD (w : World) (g : Nat) (A : Nat → Prop) (m N L K : Nat) (node : Int) (DL : List Hr) (o : List (Int × Int)) (q : List Wr) : Prop :=
  ∃ M D R ra rc M2 N2 ao no co aq nq cq, DH w g M D N L K node R ra L rc ∧ R.map Prod.fst = DL ∧ DT w g 10 M2 N2 o q ao no co aq nq cq ∧ no ≤ m ∧ nq ≤ m ∧ (∀ j, M2 j ∨ N2 j → ¬ M j ∧ ¬ D j) ∧ (A g ∧ ∀ j, M j ∨ D j ∨ M2 j ∨ N2 j → A j) ∧ ∀ j, A j → j < w.heap.size
section
variable {w w' : World} {g m N L K : Nat} {A F : Nat → Prop} {node : Int} {DL : List Hr} {o : List (Int × Int)} {q : List Wr}
theorem HD.keep (h : HD w g A m N L K node DL o q) (hk : Keep F w w') (hF : ∀ j, A j → ¬ F j) : HD w' g A m N L K node DL o q := by
  obtain ⟨M, D, R, ra, rc, M2, N2, ao, no, co, aq, nq, cq, d, e, t, h1, h2, h3, ⟨h4, h5⟩, h6⟩ := h
  exact ⟨M, D, R, ra, rc, M2, N2, ao, no, co, aq, nq, cq, d.keep hk (hF g h4) (fun j hj => hF j (h5 j (hj.elim .inl (fun h => .inr (.inl h))))), e, t.keep hk (hF g h4) (fun j hj => hF j (h5 j (.inr (.inr hj)))), h1, h2, h3, ⟨h4, h5⟩, fun j hj => Nat.lt_of_lt_of_le (h6 j hj) hk.size⟩
theorem HD.below (h : HD w g A m N L K node DL o q) (hb : Below w.heap.size w w') : HD w' g A m N L K node DL o q := h.keep (F := fun _ => False) (Keep.of_below hb) (fun _ _ h => h)
theorem HD.ok (h : HD w g A m N L K node DL o q) : OkT o := by
  obtain ⟨M, D, R, ra, rc, M2, N2, ao, no, co, aq, nq, cq, d, e, t, _⟩ := h
  exact t.ok
theorem HD.nums (h : HD w g A m N L K node DL o q) : Nums L DL := by
  obtain ⟨M, D, R, ra, rc, M2, N2, ao, no, co, aq, nq, cq, d, rfl, _⟩ := h
  refine ⟨by rw [List.length_map]; exact d.len, fun i x hx => ?_⟩
  rw [List.getElem?_map] at hx
  cases hr : R[i]? with
  | none => rw [hr] at hx; cases hx
  | some r =>
    rw [hr] at hx
    obtain rfl := Option.some.inj hx
    exact d.nums i r hr
theorem HD.more (h : HD w g A m N L K node DL o q) {m' : Nat} (hm : m ≤ m') : HD w g A m' N L K node DL o q := by
  obtain ⟨M, D, R, ra, rc, M2, N2, ao, no, co, aq, nq, cq, d, e, t, h1, h2, hr⟩ := h
  exact ⟨M, D, R, ra, rc, M2, N2, ao, no, co, aq, nq, cq, d, e, t, by omega, by omega, hr⟩
/-- After a call on the turns. -/
theorem DH.rest {M D : Nat → Prop} {R : List (Hr × Value)} {ra : Option Addr} {n rc : Nat} (h : DH w g M D N L K node R ra n rc) (hk : Keep F w w') (hr : Rest g 10 w w') (hF : ∀ j, M j ∨ D j → ¬ F j) : DH w' g M D N L K node R ra n rc :=
  have e := fun (o : Nat) (ho : o < 10) => (hr o (by omega) (by omega)).1
  ⟨(e 0 (by omega)).trans h.c0, (e 1 (by omega)).trans h.c1, (e 2 (by omega)).trans h.c2, (e 8 (by omega)).trans h.c8, (e 9 (by omega)).trans h.c9, ((hr 9 (by omega) (by omega)).2).trans h.f9, Nat.lt_of_lt_of_le h.lt hk.size, h.len, h.row.keep hk (fun j hj => hF j (.inl hj)), fun r hr' => (h.dat r hr').keep hk (fun j hj => hF j (.inr hj)),
    fun j hj => Nat.lt_of_lt_of_le (h.old j hj) hk.size, h.dj, h.ng, h.nums⟩
theorem hd_turn {M D : Nat → Prop} {R : List (Hr × Value)} {ra : Option Addr} {rc : Nat} {M2 N2 M' N' : Nat → Prop} {ao aq : Option Addr} {no co nq cq m' : Nat} {o' : List (Int × Int)} {q' : List Wr}
    (d : DH w g M D N L K node R ra L rc) (e : R.map Prod.fst = DL) (h3 : ∀ j, M2 j ∨ N2 j → ¬ M j ∧ ¬ D j) (h4 : A g ∧ ∀ j, M j ∨ D j ∨ M2 j ∨ N2 j → A j) (h6 : ∀ j, A j → j < w.heap.size)
    (hk : Keep F w w') (hr : Rest g 10 w w') (hF : ∀ j, F j → j = g ∨ M2 j ∨ N2 j) (t : DT w' g 10 M' N' o' q' ao no co aq nq cq) (hM : ∀ j, M' j ∨ N' j → (M2 j ∨ N2 j) ∨ w.heap.size ≤ j) (h1 : no ≤ m') (h2 : nq ≤ m') :
    Keep A w w' ∧ ∃ A', (∀ j, A' j → A j ∨ w.heap.size ≤ j) ∧ (∀ j, A j → A' j) ∧ HD w' g A' m' N L K node DL o' q' := by
  have hFA : ∀ j, F j → A j := fun j hj => by
    rcases hF j hj with rfl | hj | hj
    · exact h4.1
    · exact h4.2 j (.inr (.inr (.inl hj)))
    · exact h4.2 j (.inr (.inr (.inr hj)))
  refine ⟨hk.mono (fun j _ hj => hFA j hj), fun j => A j ∨ (w.heap.size ≤ j ∧ j < w'.heap.size), fun j hj => hj.imp (fun h => h) (fun h => h.1), fun j hj => .inl hj, M, D, R, ra, rc, M', N', ao, no, co, aq, nq, cq, d.rest hk hr (fun j hj hf => ?_), e, t, h1, h2, fun j hj => ?_, ⟨.inl h4.1, fun j hj => ?_⟩, fun j hj => ?_⟩
  · rcases hF j hf with rfl | hf
    · exact hj.elim d.ng.1 d.ng.2
    · exact hj.elim (h3 j hf).1 (h3 j hf).2
  · rcases hM j hj with hj | hj
    · exact h3 j hj
    · exact ⟨fun hm => by have := d.old j (.inl hm); omega, fun hd => by have := d.old j (.inr hd); omega⟩
  · rcases hj with hj | hj | hj
    · exact .inl (h4.2 j (.inl hj))
    · exact .inl (h4.2 j (.inr (.inl hj)))
    · rcases hM j hj with hj2 | hj2
      · exact .inl (h4.2 j (.inr (.inr hj2)))
      · exact .inr ⟨hj2, t.old j hj⟩
  · rcases hj with hj | hj
    · exact Nat.lt_of_lt_of_le (h6 j hj) hk.size
    · exact hj.2
theorem hd_ask (h : HD w g A m N L K node DL o q) {l v : Int} (d : Int) (h2 : 0 ≤ v) (hm : m < 1000) :
    Calls Try.prog 42 #[.pointer (some ⟨g, 10, none⟩), .int .i64 l, .int .i64 v, .int .i64 d] w fun e w' => e = .returned (.bool (askB o q l)) ∧
      Keep A w w' ∧ ∃ A', (∀ j, A' j → A j ∨ w.heap.size ≤ j) ∧ (∀ j, A j → A' j) ∧ HD w' g A' (m + 1) N L K node DL (askO o q l v) (askQ o q l v d) := by
  obtain ⟨M, D, R, ra, rc, M2, N2, ao, no, co, aq, nq, cq, dh, e, dt, k1, k2, k3, k4, k6⟩ := h
  unfold askO askQ
  by_cases hb : ownT o l = -1 ∧ waitT q l = []
  · have eb : askB o q l = true := decide_eq_true hb
    rw [eb, if_pos rfl, if_pos rfl]
    refine (TR.ask_own dt l v d h2 hb.1 hb.2 (by omega)).mono ?_
    rintro e2 w' ⟨rfl, hk, hr, ao', co', d'⟩
    refine ⟨rfl, hd_turn dh e k3 k4 k6 hk hr (fun j hj => hj.imp (fun h => h) .inl) d' (fun j hj => ?_) (by omega) (by omega)⟩
    rcases hj with (hj | hj) | hj
    · exact .inl (.inl hj)
    · exact .inr hj.1
    · exact .inl (.inr hj)
  · have eb : askB o q l = false := decide_eq_false hb
    rw [eb, if_neg (by simp), if_neg (by simp)]
    have fin : ∀ w', Keep (fun k => k = g ∨ N2 k) w w' → Rest g 10 w w' → (∃ aq' cq', DT w' g 10 M2 (fun k => N2 k ∨ (w.heap.size ≤ k ∧ k < w'.heap.size)) o (q ++ [⟨l, v, d⟩]) ao no co aq' (nq + 1) cq') → Keep A w w' ∧ ∃ A', (∀ j, A' j → A j ∨ w.heap.size ≤ j) ∧ (∀ j, A j → A' j) ∧ HD w' g A' (m + 1) N L K node DL o (q ++ [⟨l, v, d⟩]) := by
      rintro w' hk hr ⟨aq', cq', d'⟩
      refine hd_turn dh e k3 k4 k6 hk hr (fun j hj => hj.imp (fun h => h) .inr) d' (fun j hj => ?_) (by omega) (by omega)
      rcases hj with hj | hj | hj
      · exact .inl (.inl hj)
      · exact .inl (.inr hj)
      · exact .inr hj.1
    by_cases e1 : ownT o l = -1
    · refine (TR.ask_wait2 dt l v d h2 e1 (fun e2 => hb ⟨e1, e2⟩) (by omega)).mono ?_
      rintro e2 w' ⟨rfl, hk, hr, hx⟩
      exact ⟨rfl, fin w' hk hr hx⟩
    · refine (TR.ask_wait1 dt l v d h2 e1 (by omega)).mono ?_
      rintro e2 w' ⟨rfl, hk, hr, hx⟩
      exact ⟨rfl, fin w' hk hr hx⟩
theorem hd_owner (h : HD w g A m N L K node DL o q) (l : Int) : Calls Try.prog 20 #[.pointer (some ⟨g, 10, none⟩), .int .i64 l] w fun e w' => e = .returned (.int .i64 (ownT o l)) ∧ Below w.heap.size w w' := by
  obtain ⟨M, D, R, ra, rc, M2, N2, ao, no, co, aq, nq, cq, dh, e, dt, _⟩ := h
  exact TR.owner_any dt l
theorem hd_waiting (h : HD w g A m N L K node DL o q) (l : Int) : Calls Try.prog 47 #[.pointer (some ⟨g, 10, none⟩), .int .i64 l] w fun e w' => e = .returned (.int .i64 ((waitT q l).length : Int)) ∧ Below w.heap.size w w' := by
  obtain ⟨M, D, R, ra, rc, M2, N2, ao, no, co, aq, nq, cq, dh, e, dt, _⟩ := h
  exact TR.waiting_any dt l
theorem hd_ready (h : HD w g A m N L K node DL o q) (hm : m ≤ 1000) : Calls Try.prog 36 #[.pointer (some ⟨g, 10, none⟩)] w fun e w' => ∃ a k cap, e = .returned (.slice a k cap) ∧ Sl w' a k cap (readyT o q) ∧ Below w.heap.size w w' := by
  obtain ⟨M, D, R, ra, rc, M2, N2, ao, no, co, aq, nq, cq, dh, e, dt, _⟩ := h
  exact TR.ready_any dt (by omega)
theorem hd_release (h : HD w g A m N L K node DL o q) {l v : Int} (h0 : 0 ≤ v) (ho : ownT o l = v) (hm : m ≤ 1000) :
    Calls Try.prog 44 #[.pointer (some ⟨g, 10, none⟩), .int .i64 l, .int .i64 v] w fun e w' => e = .returned (.bool true) ∧
      Keep A w w' ∧ ∃ A', (∀ j, A' j → A j ∨ w.heap.size ≤ j) ∧ (∀ j, A j → A' j) ∧ HD w' g A' m N L K node DL (relO o l) q := by
  obtain ⟨M, D, R, ra, rc, M2, N2, ao, no, co, aq, nq, cq, dh, e, dt, k1, k2, k3, k4, k6⟩ := h
  obtain ⟨k, hk, hno⟩ := own_place dt.ok h0 ho
  rw [← erase_rel dt.ok hk]
  refine (TR.release_ok dt l v hk hno (by omega)).mono ?_
  rintro e2 w' ⟨rfl, hK, hr, ao', co', d'⟩
  refine ⟨rfl, hd_turn dh e k3 k4 k6 hK hr (fun j hj => .inl hj) d' (fun j hj => ?_) (by omega) (by omega)⟩
  rcases hj with hj | hj
  · exact .inr hj.1
  · exact .inl (.inr hj)
theorem hd_next (h : HD w g A m N L K node DL o q) {l v d : Int} (h1 : ownT o l = -1) (h0 : 0 ≤ v) (hk : nextW q l = some ⟨l, v, d⟩) (hm : m ≤ 1000) :
    Calls Try.prog 37 #[.pointer (some ⟨g, 10, none⟩), .int .i64 l] w fun e w' => e = .returned (.tuple #[.int .i64 v, .int .i64 d, .bool true]) ∧
      Keep A w w' ∧ ∃ A', (∀ j, A' j → A j ∨ w.heap.size ≤ j) ∧ (∀ j, A j → A' j) ∧ HD w' g A' (m + 1) N L K node DL (o ++ [(l, v)]) (nextQ q l) := by
  obtain ⟨M, D, R, ra, rc, M2, N2, ao, no, co, aq, nq, cq, dh, e, dt, k1, k2, k3, k4, k6⟩ := h
  obtain ⟨k, hk, hno, hq⟩ := next_place hk
  rw [hq]
  refine (TR.next_ok dt l v d h1 h0 hk hno (by omega) (by omega)).mono ?_
  rintro e2 w' ⟨rfl, hK, hr, M', N', ao', co', aq', cq', hM, hN, d'⟩
  refine ⟨rfl, hd_turn dh e k3 k4 k6 hK hr (fun j hj => hj.imp (fun h => h) .inl) d' (fun j hj => ?_) (by omega) (by omega)⟩
  rcases hj with hj | hj
  · exact (hM j hj).imp .inl (fun h => h)
  · exact .inr (hN j hj)
/-- After Set: its rows, all else as it was. -/
theorem hd_set (h : HD w g A m N L K node DL o q) (hN : 1 ≤ N) (hL : L ≤ 8) (l s hd : Int) (a : Option Addr) (n cap : Nat) (z : List Int) (hs : Sl w a n cap z) (hb : n ≤ 17592186044416) :
    Calls Try.prog 43 #[.pointer (some ⟨g, 0, none⟩), .int .i64 l, .int .i64 s, .int .i64 hd, .slice a n cap] w fun e w' => e = .returned (.int .i64 (setD N L K node DL l s hd z).1) ∧ Keep A w w' ∧ ∃ A', (∀ j, A' j → A j ∨ w.heap.size ≤ j) ∧ (∀ j, A j → A' j) ∧ HD w' g A' m N L K node (setD N L K node DL l s hd z).2 o q := by
  have h0 := h
  obtain ⟨M, D, R, ra, rc, M2, N2, ao, no, co, aq, nq, cq, d, e, dt, k1, k2, k3, ⟨k4, k5⟩, k6⟩ := h
  have hzn : z.length = n := hs.len
  unfold setD
  rw [hzn]
  have fin : ∀ {w' : World} {D' : Nat → Prop} {R' : List (Hr × Value)} {DL' : List Hr}, Keep M w w' → (∀ j, D' j → D j ∨ w.heap.size ≤ j) → DH w' g M D' N L K node R' ra L rc → R'.map Prod.fst = DL' →
      Keep A w w' ∧ ∃ A', (∀ j, A' j → A j ∨ w.heap.size ≤ j) ∧ (∀ j, A j → A' j) ∧ HD w' g A' m N L K node DL' o q := fun {w' D' R' DL'} hk hD' d' e' => by
    refine ⟨hk.mono (fun j _ hj => k5 j (.inl hj)), fun j => A j ∨ D' j, fun j hj => ?_, fun j hj => .inl hj, M, D', R', ra, rc, M2, N2, ao, no, co, aq, nq, cq, d', e', dt.keep hk (fun hm => d.ng.1 hm) (fun j hj hm => (k3 j hj).1 hm), k1, k2, fun j hj => ⟨(k3 j hj).1, fun hd2 => ?_⟩, ⟨.inl k4, fun j hj => ?_⟩, fun j hj => ?_⟩
    · rcases hj with hj | hj
      · exact .inl hj
      · exact (hD' j hj).imp (fun hd2 => k5 j (.inr (.inl hd2))) id
    · rcases hD' j hd2 with hd3 | hn
      · exact (k3 j hj).2 hd3
      · have := dt.old j hj
        omega
    · rcases hj with hj | hj | hj | hj
      · exact .inl (k5 j (.inl hj))
      · exact .inr hj
      · exact .inl (k5 j (.inr (.inr (.inl hj))))
      · exact .inl (k5 j (.inr (.inr (.inr hj))))
    · rcases hj with hj | hj
      · exact Nat.lt_of_lt_of_le (k6 j hj) hk.size
      · exact d'.old j (.inr hj)
  have same : ∀ {w' : World}, Below w.heap.size w w' → Keep A w w' ∧ ∃ A', (∀ j, A' j → A j ∨ w.heap.size ≤ j) ∧ (∀ j, A j → A' j) ∧ HD w' g A' m N L K node DL o q := fun {w'} hb => ⟨Keep.of_below hb, A, fun j hj => .inl hj, fun j hj => hj, h0.below hb⟩
  cases hh : hereI N L node l with
  | false =>
    rw [if_neg (by simp)]
    refine (dset_none d hN hh s hd a n cap).mono ?_
    rintro en w' ⟨rfl, hb⟩
    exact ⟨rfl, same hb⟩
  | true =>
    rw [if_pos rfl]
    cases ho : setOk N K s hd n with
    | false =>
      rw [if_neg (by simp)]
      refine (dset_arg d hN hh s hd a n cap ho).mono ?_
      rintro en w' ⟨rfl, hb⟩
      exact ⟨rfl, same hb⟩
    | true =>
      rw [if_pos rfl]
      have hl : 0 ≤ l ∧ l < (L : Int) := by
        unfold hereI at hh
        simp only [Bool.and_eq_true] at hh
        exact ⟨of_decide_eq_true hh.1.1, of_decide_eq_true hh.1.2⟩
      obtain ⟨ln, rfl⟩ : ∃ ln : Nat, l = ln := ⟨l.toNat, by omega⟩
      have eln : (ln : Int).toNat = ln := by omega
      rw [eln]
      have hlen := d.len
      have hmap : ∀ (x : Hr) (v : Value) (r : Hr × Value), R[ln]? = some (x, v) → (R.set ln r).map Prod.fst = DL.set ln r.1 ∧ (DL[ln]?).getD zeroHr = x := fun x v r hx => by
        refine ⟨by rw [List.map_set, e], ?_⟩
        rw [← e, List.getElem?_map, hx]
        rfl
      by_cases h00 : n = 0
      · have hz0 : z = [] := List.eq_nil_of_length_eq_zero (by omega)
        rw [if_pos hz0]
        refine (dset_keep d hN (by omega) hL hh s hd a n cap h00 ho).mono ?_
        rintro en w' ⟨rfl, hk, D', dv, x, v, hD', hx, d'⟩
        obtain ⟨m1, m2⟩ := hmap x v (((⟨(ln : Int), s, hd, x.z⟩ : Hr), dv)) hx
        rw [m2]
        exact ⟨rfl, fin hk hD' d' m1⟩
      · have hz0 : z ≠ [] := fun e => by rw [e] at hzn; simp at hzn; omega
        rw [if_neg hz0]
        refine (dset_full d hN (by omega) hL hh s hd a n cap z hs (by omega) hb ho).mono ?_
        rintro en w' ⟨rfl, hk, D', dv, x, v, hD', hx, d'⟩
        obtain ⟨m1, m2⟩ := hmap x v (((⟨(ln : Int), s, hd, z⟩ : Hr), dv)) hx
        exact ⟨rfl, fin hk hD' d' m1⟩
end
end Go.Proofs.Ytgeiagndpfdnlaa
end
