/- The contract of pool's Put. Conditions: as each theorem states them.
The contracts of queue's New, Len, Room and alone. Conditions: as each theorem states them.
The contract of queue's Put. Conditions: as each theorem states them.
The contracts of queue's Take and Peek. Conditions: as each theorem states them.
The contracts of the network's readers: isNode, lane, under, room, waiting. Conditions: as each theorem states them.
The contracts of a lane's calls, of Under, of find. Conditions: as each theorem states them.
The contracts of Room, Waiting, Packet. Conditions: as each theorem states them.
Regions that draw their order, make memory and then write what was there: as Take6, where what comes last waits for what is taken first by way of others (Y). Nothing of the program is named here.
The contracts of packet.Request and Answer, and the walk of PacketKinds: it answers true and writes nothing that was there. No condition. -/
import Derived.Test.YtjdbjmfkheffdaaPart4
import Derived.Test.YtjdbjmfkheffdaaPart2
import Derived.Test.YtjdbjmfkheffdaaPart3
section
namespace Go.Proofs.Ytjdbjmfkheffdaa
open Go.RowKit
set_option linter.unusedVariables false
namespace P

set_option maxHeartbeats 600000 in
theorem put_full (w : World) {g : Nat} {M D : Nat → Prop} {room : Int} {L : List Pk} (h : Qu w g M D room L) (x : Pk) (a : Option Addr) (n cap : Nat) (h0 : 0 ≤ room) (h1 : room ≤ 1000000000) (hr : (L.length : Int) = room) :
    Calls Try.prog 54 #[.pointer (some ⟨g, 0, none⟩), x.val (.slice a n cap)] w fun e w' => e = .returned (.int .i64 5) ∧ Below w.heap.size w w' := by
  have he : (room - (L.length : Int) == 0) = true := by simp; omega
  clear hr
  unfold Pk.val
  go_enter Try.func54, Try.ntmps54
  go_wp2_with (go_at_call 65; refine (room_any _ (h.below (ba (Below.refl _ _))) h0 h1).mono ?_; rintro e w1 ⟨rfl, k1, rfl⟩)
  go_ret
  exact ⟨rfl, next (ba (Below.refl _ _)) (below_dn _ _)⟩
set_option maxHeartbeats 600000 in
theorem put_ok (w : World) {g : Nat} {M D : Nat → Prop} {room : Int} {L : List Pk} (h : Qu w g M D room L) (x : Pk) (a : Option Addr) (n cap : Nat) (hsl : Sl w a n cap x.z) (hn : n ≤ 17592186044416) (h0 : 0 ≤ room) (h1 : room ≤ 1000000000) (hr : (L.length : Int) < room) :
    Calls Try.prog 54 #[.pointer (some ⟨g, 0, none⟩), x.val (.slice a n cap)] w fun e w' => e = .returned (.int .i64 0) ∧ Keep M w w' ∧
      ∃ M' D', Qu w' g M' D' room (L ++ [x]) ∧ (∀ k, M' k → M k ∨ w.heap.size ≤ k) ∧ (∀ k, D' k → D k ∨ w.heap.size ≤ k) := by
  have he : (room - (L.length : Int) == 0) = false := by simp; omega
  have HR : Hid ((L.length : Int) < room) := hr
  clear hr
  unfold Pk.val
  go_enter Try.func54, Try.ntmps54
  go_wp2_with (go_at_call 65; refine (room_any _ (h.below (ba (Below.refl _ _))) h0 h1).mono ?_; rintro e w1 ⟨rfl, k1, rfl⟩)
  have bx := (Bx.made w x (.slice a n cap)).next (below_dn _ k1)
  have B1 : Below w.heap.size w ((w.alloc (.cells #[.int .i64 x.k, .int .i64 x.f, .int .i64 x.t, .int .i64 x.i, .int .i64 x.l, .int .i64 x.p, .int .i64 x.s, .bool x.fl, .slice a n cap] 26)).drewN k1) := next (ba (Below.refl _ _)) (below_dn _ _)
  have lt0 : ∀ k, M k ∨ D k → k < w.heap.size := h.old
  have h' := h.below B1
  have hsl' := hsl.below B1
  clear h hsl
  generalize (w.alloc (.cells #[.int .i64 x.k, .int .i64 x.f, .int .i64 x.t, .int .i64 x.i, .int .i64 x.l, .int .i64 x.p, .int .i64 x.s, .bool x.fl, .slice a n cap] 26)).drewN k1 = W at *
  refine wp_region_orders 12 rfl (by kernel_rfl) ?_
  have hd : Below W.heap.size W W.drew := (Below.refl _ _).drew
  replace bx := bx.next hd
  replace B1 := next B1 hd
  replace h' := h'.below hd
  replace hsl' := hsl'.below hd
  clear hd
  generalize W.drew = w1 at *
  obtain ⟨R, aq, cq, hq⟩ := h'
  obtain ⟨b0, b1, b2, b3, b4, b5, b6, b7, b8, bf, bl⟩ := bx
  have bx : Bx w1 w.heap.size x (.slice a n cap) := ⟨b0, b1, b2, b3, b4, b5, b6, b7, b8, bf, bl⟩
  have c1 := hq.c1
  have lt := hq.lt
  have uc := @Up.cell2
  have uf := @Up.frozen2
  refine any_take 0 (.pointer (some ⟨g, 0, none⟩)) rfl (by kernel_rfl) (by kernel_rfl) (by kernel_rfl) (fun _ _ _ h => h) (by kernel_rfl) (fun w => by go_simp) ?_
  simp only [Act.put, List.setIfInBounds_toArray, List.set_cons_zero, List.set_cons_succ]
  refine any_take 1 (.pointer (some ⟨g, 0, none⟩)) rfl (by kernel_rfl) (by kernel_rfl) (by kernel_rfl) (fun _ _ _ h => h) (by kernel_rfl) (fun w => by go_simp) ?_
  simp only [Act.put, List.setIfInBounds_toArray, List.set_cons_zero, List.set_cons_succ]
  refine any_take 2 (.pointer (some ⟨g, 0, none⟩)) rfl (by kernel_rfl) (by kernel_rfl) (by kernel_rfl) (fun _ _ _ h => h) (by kernel_rfl) (fun w => by go_simp) ?_
  simp only [Act.put, List.setIfInBounds_toArray, List.set_cons_zero, List.set_cons_succ]
  refine any_take 3 (.pointer (some ⟨g, 1, none⟩)) rfl (by kernel_rfl) (by kernel_rfl) (by kernel_rfl) (fun _ _ _ h => h) (by kernel_rfl) (fun w => by go_simp) ?_
  simp only [Act.put, List.setIfInBounds_toArray, List.set_cons_zero, List.set_cons_succ]
  refine any_mildx [8, 9, 10, 11] ?_
  refine mildx_take (v := ?v1) 4 rfl (by kernel_rfl) (by kernel_rfl) (by kernel_rfl) (by kernel_rfl) (fun _ _ _ h => h) (by kernel_rfl) (fun Wu K hK => ?hy1) ?go1
  case hy1 =>
    go_big_quiet_op
    simp only [Act.put, List.setIfInBounds_toArray, List.set_cons_zero, List.set_cons_succ] at hK
    exact hK
  simp only [Act.put, List.setIfInBounds_toArray, List.set_cons_zero, List.set_cons_succ]
  intro W
  clear uc uf
  have hW := W.2
  have hsl2 := hsl'.below hW
  have hqW := hq.keep (F := fun _ => False) (Keep.of_below hW) (fun _ _ h => h)
  have bxW := bx.next hW
  clear b0 b1 b2 b3 b4 b5 b6 b7 b8 bf bl bx c1 lt
  obtain ⟨b0, b1, b2, b3, b4, b5, b6, b7, b8, bf, bl⟩ := bxW
  generalize W.1 = wa at *
  refine upx_list 5 (by kernel_rfl) rfl ?_
  go_wp2
  refine ⟨hW, fun u => ?_⟩
  replace hsl2 := hsl2.below u.2
  replace hW := next hW u.2
  clear b0 b1 b2 b3 b4 b5 b6 b7 b8 bf bl hqW
  generalize u.1 = wb at *
  have hz2 := hW.size
  refine upx_list 6 (by kernel_rfl) rfl ?_
  go_wp2_with (go_at_call 56; refine (alone_any x a n cap _ hsl2 hn).mono ?_; rintro e w2 ⟨v2, rfl, hown2, hb2⟩; obtain ⟨a2, c2, rfl, hs2⟩ := hown2.sl' hsl2.len; clear hs2)
  refine ⟨next hW hb2, fun u => ?_⟩
  replace hW := next hW (next hb2 u.2)
  have dat3 := (dat_own hown2 (by have := hsl2.len; omega)).below u.2
  clear hown2 hb2
  generalize u.1 = w3 at *
  refine upx_list 7 (by kernel_rfl) rfl ?_
  go_wp2
  refine ⟨next hW (ba (Below.refl _ _)), fun u => ?_⟩
  have bx := (Bx.made w3 x (.slice a2 n c2)).next u.2
  replace dat3 := dat3.below (next (ba (Below.refl _ _)) u.2)
  replace hW := next hW (next (ba (Below.refl _ _)) u.2)
  generalize u.1 = w4 at *
  generalize w3.heap.size = bs at *
  have dat4 : Dat w4 (fun k => D k ∨ (wb.heap.size ≤ k ∧ k < w4.heap.size)) x (.slice a2 n c2) := dat3.imp (fun k hk h => .inr ⟨h, hk⟩)
  have q4 := hq.keep (F := fun _ => False) (Keep.of_below hW) (fun _ _ h => h)
  have hz1 := B1.size
  have hz4 := hW.size
  replace B1 := next B1 hW
  have ltm : ∀ k, M k → k < w.heap.size := fun k h => lt0 k (.inl h)
  have ltd : ∀ k, D k → k < w.heap.size := fun k h => lt0 k (.inr h)
  have glt := ltm g q4.mg
  clear hq dat3 hsl' hsl2 W hW lt0
  obtain ⟨i0, hi, hp0, hp1, hp2⟩ := info_parts Try.infoPk
  have hlen : L.length ≤ 1000000000 := by have := HR.out; omega
  have news : ∀ j u, (pcells x (.slice a2 n c2))[j]? = some u → w4.cell? ((⟨bs, 0, none⟩ : Addr).add j) = some u := by
    intro j u hu
    rw [Addr.add_lit, Nat.zero_add]
    have hj : j < 9 := (List.getElem?_eq_some_iff.1 hu).1
    obtain ⟨b0, b1, b2, b3, b4, b5, b6, b7, b8, _, _⟩ := bx
    match j, hj with
    | 0, _ => rw [b0]; exact hu
    | 1, _ => rw [b1]; exact hu
    | 2, _ => rw [b2]; exact hu
    | 3, _ => rw [b3]; exact hu
    | 4, _ => rw [b4]; exact hu
    | 5, _ => rw [b5]; exact hu
    | 6, _ => rw [b6]; exact hu
    | 7, _ => rw [b7]; exact hu
    | 8, _ => rw [b8]; exact hu
  refine upx_write 8 (by kernel_rfl) (by kernel_rfl) rfl ?_
  refine wpList_append_rw w4 (fun k => M k ∧ k ≠ g) (by kernel_rfl) (.tmp 12) (.tmp 15) 53 rfl 26 i0 (zeroPk.val (.slice none 0 0)) 9 88 Try.underlying53 hi hp0 hp1 hp2 rfl (by decide) aq L.length cq (pflat R) rfl q4.row ⟨bs, 0, none⟩ 1 1 (pcells x (.slice a2 n c2)) rfl (by omega) (by rfl) news (pcells_one (by rfl)) (by unfold maxLen; omega) (by omega) ?_
  intro a5 c5 w5 hrw5 hk5
  refine then_n ?_
  simp only [Act.put, List.setIfInBounds_toArray, List.set_cons_zero, List.set_cons_succ]
  refine any_take 9 (.pointer (some ⟨g, 0, none⟩)) rfl (by kernel_rfl) (by kernel_rfl) (by kernel_rfl) (fun _ _ _ h => h) (by kernel_rfl) (fun w => by go_simp) ?_
  simp only [Act.put, List.setIfInBounds_toArray, List.set_cons_zero, List.set_cons_succ]
  refine any_take 10 (.pointer (some ⟨g, 1, none⟩)) rfl (by kernel_rfl) (by kernel_rfl) (by kernel_rfl) (fun _ _ _ h => h) (by kernel_rfl) (fun w => by go_simp) ?_
  simp only [Act.put, List.setIfInBounds_toArray, List.set_cons_zero, List.set_cons_succ]
  have nS : ¬ (M g ∧ g ≠ g) := fun h => h.2 rfl
  have c5g : w5.cell? ⟨g, 1, none⟩ = some (.slice aq L.length cq) := by rw [hk5.cell 1 q4.lt nS]; exact q4.c1
  have f5g : w5.frozen? ⟨g, 1, none⟩ = false := by rw [hk5.frozen 1 q4.lt nS]; exact q4.fz 1
  refine any_list 11 (by kernel_rfl) rfl ?_
  go_wp2
  refine then_n ?_
  refine any_done (by kernel_rfl) ?_
  go_wp2
  go_ret
  have hz5 := hk5.size
  have k6 : Keep (fun k => k = g) w5 (w5.setCell ⟨g, 1, none⟩ (.slice a5 (L.length + 1) c5)) := (Keep.refl (fun k => k = g) w5).setCell (p := ⟨g, 1, none⟩) (.inl rfl) _
  refine ⟨rfl, ?_, fun k => M k ∨ (w4.heap.size ≤ k ∧ k < w5.heap.size), fun k => D k ∨ (wb.heap.size ≤ k ∧ k < w4.heap.size), ⟨R ++ [(x, .slice a2 n c2)], a5, c5, ?_⟩, fun k h => h.imp id (fun h => by omega), fun k h => h.imp id (fun h => by omega)⟩
  · exact ((Keep.of_below B1).trans hk5 (fun k _ h => h.1)).setCell (.inl q4.mg) _
  · constructor
    · rw [World.cell?_setCell_other _ _ _ _ (by simp), hk5.cell 0 q4.lt nS]; exact q4.c0
    · rw [show (L ++ [x]).length = L.length + 1 from (by simp)]; clear news bx dat4 hrw5; go_simp
    · intro o; rw [World.frozen?_setCell, hk5.frozen o q4.lt nS]; exact q4.fz o
    · simpa using Nat.lt_of_lt_of_le q4.lt hk5.size
    · exact .inl q4.mg
    · rw [List.map_append, q4.eq]; rfl
    · have e : (L ++ [x]).length = L.length + 1 := by simp
      rw [e, pflat_append, pflat_one]
      refine (hrw5.imp (T := fun k => (M k ∨ (w4.heap.size ≤ k ∧ k < w5.heap.size)) ∧ k ≠ g) (fun k hk h => ?_)).keep k6 (fun k h => h.2)
      rcases h with ⟨h1, h2⟩ | h
      · exact ⟨.inl h1, h2⟩
      · exact ⟨.inr ⟨h, hk⟩, by omega⟩
    · intro r hr
      have hdat : Dat w4 (fun k => D k ∨ (wb.heap.size ≤ k ∧ k < w4.heap.size)) r.1 r.2 := by
        rcases List.mem_append.1 hr with hr | hr
        · exact (q4.dat r hr).imp (fun k _ h => .inl h)
        · rw [List.mem_singleton] at hr; subst hr; exact dat4
      have hdj : ∀ k, D k ∨ (wb.heap.size ≤ k ∧ k < w4.heap.size) → ¬ M k := fun k h hm => by
        rcases h with h | h
        · exact q4.dj k hm h
        · have := ltm k hm; omega
      exact (hdat.keep hk5 (fun k h hm => hdj k h hm.1)).keep k6 (fun k h e => hdj k h (e ▸ q4.mg))
    · intro k h
      have e : (w5.setCell ⟨g, 1, none⟩ (.slice a5 (L.length + 1) c5)).heap.size = w5.heap.size := by simp
      rw [e]
      rcases h with (h | h) | (h | h)
      · have := ltm k h; omega
      · omega
      · have := ltd k h; omega
      · omega
    · intro k h h'
      rcases h with h | h <;> rcases h' with h' | h'
      · exact q4.dj k h h'
      · have := ltm k h; omega
      · have := ltd k h'; omega
      · omega
end P
end Go.Proofs.Ytjdbjmfkheffdaa
end
section
namespace Go.Proofs.Ytjdbjmfkheffdaa
open Go.RowKit
set_option linter.unusedVariables false

theorem qu_new (w : World) (room : Int) : Qu (w.alloc (.cells #[.int .i64 room, .slice none 0 0] 95)) w.heap.size (fun k => k = w.heap.size) (fun _ => False) room [] :=
  ⟨[], none, 0, by simp, by simp, fun o => (by simp), by simp, rfl, rfl, rw_nil _ _ _, fun r hr => (by cases hr), fun k hk => (by rcases hk with rfl | h <;> simp_all), fun k _ h => h⟩
theorem new_any (room : Int) (w : World) :
    Calls Try.prog 30 #[.int .i64 room] w fun e w' => e = .returned (.pointer (some ⟨w.heap.size, 0, none⟩)) ∧ Below w.heap.size w w' ∧ Qu w' w.heap.size (fun k => k = w.heap.size) (fun _ => False) (max room 0) [] := by
  go_enter Try.func30, Try.ntmps30
  go_wp2
  · go_ret
    refine ⟨rfl, ba (Below.refl _ _), ?_⟩
    rw [Int.max_eq_right (by omega)]
    exact qu_new w 0
  · go_ret
    refine ⟨rfl, ba (Below.refl _ _), ?_⟩
    rw [Int.max_eq_left (by omega)]
    exact qu_new w room

theorem len_any (w : World) {g : Nat} {M D : Nat → Prop} {room : Int} {L : List Pk} (h : Qu w g M D room L) :
    Calls Try.prog 63 #[.pointer (some ⟨g, 0, none⟩)] w fun e w' => e = .returned (.int .i64 L.length) ∧ w = w' := by
  obtain ⟨R, a, cap, h⟩ := h
  obtain ⟨c0, c1, fz, lt, _, _, row, _⟩ := h
  have hle := row.le
  have hmx := row.max
  clear row
  go_enter Try.func63, Try.ntmps63
  go_wp2
  go_ret
  exact ⟨rfl, rfl⟩
theorem room_any (w : World) {g : Nat} {M D : Nat → Prop} {room : Int} {L : List Pk} (h : Qu w g M D room L) (h0 : 0 ≤ room) (h1 : room ≤ 1000000000) :
    Calls Try.prog 76 #[.pointer (some ⟨g, 0, none⟩)] w fun e w' => e = .returned (.int .i64 (room - L.length)) ∧ ∃ k, w' = w.drewN k := by
  obtain ⟨R, a, cap, h⟩ := h
  obtain ⟨c0, c1, fz, lt, _, _, row, _⟩ := h
  have hle := row.le
  have hmx := row.max
  unfold maxLen at hmx
  clear row
  go_enter Try.func76, Try.ntmps76
  go_wp2_with fail
  go_quiet (fail)
  go_wp2
  go_ret
  exact ⟨rfl, _, rfl⟩
theorem len_n (w : World) {g : Nat} {M D : Nat → Prop} {room : Int} {L : List Pk} (h : Qu w g M D room L) (n : Int) (hn : (L.length : Int) = n) :
    Calls Try.prog 63 #[.pointer (some ⟨g, 0, none⟩)] w fun e w' => e = .returned (.int .i64 n) ∧ w = w' := by
  subst hn; exact len_any w h
theorem room_n (w : World) {g : Nat} {M D : Nat → Prop} {room : Int} {L : List Pk} (h : Qu w g M D room L) (h0 : 0 ≤ room) (h1 : room ≤ 1000000000) (n : Int) (hn : room - L.length = n) :
    Calls Try.prog 76 #[.pointer (some ⟨g, 0, none⟩)] w fun e w' => e = .returned (.int .i64 n) ∧ ∃ k, w' = w.drewN k := by
  subst hn; exact room_any w h h0 h1

/-- Words of their own. -/
theorem alone_any (x : Pk) (a : Option Addr) (n cap : Nat) (w : World) (hsl : Sl w a n cap x.z) (hn : n ≤ 17592186044416) :
    Calls Try.prog 77 #[x.val (.slice a n cap)] w fun e w' => ∃ v, e = .returned (x.val v) ∧ Own w' w.heap.size v x.z ∧ Below w.heap.size w w' := by
  obtain ⟨i0, hi, hz0, hz1, hz2⟩ := info_parts Try.infoInt
  obtain ⟨hl, hle, hmx, hnil, hr⟩ := hsl
  unfold Pk.val
  cases a with
  | none =>
    obtain rfl : cap = 0 := hnil rfl
    obtain rfl : n = 0 := by omega
    have HZ : Hid (x.z = []) := List.eq_nil_of_length_eq_zero hl
    clear hr hnil
    go_enter Try.func77, Try.ntmps77
    go_wp2_with (at_builtin; refine wpList_append_own_none rfl _ _ 22 rfl w.heap.size 3 i0 1 Try.underlying22 hi _ 0 [] rfl (World.ownsRow_nil _ _ _ _) rfl ?_)
    refine bodyPost_ret (v := x.val (.slice none 0 0)) (by simp [results, Try.results77, go_sem, *]) rfl ⟨_, rfl, by rw [HZ.out]; exact own_nil _ _, ?_⟩
    exact ba (ba (Below.refl _ _))
  | some y =>
    clear hnil
    go_enter Try.func77, Try.ntmps77
    go_wp2_with (at_builtin; refine wpList_append_own _ rfl _ _ 22 rfl (w.heap.size + 2) 3 i0 (.int .i64 0) 1 8 Try.underlying22 hi hz0 hz1 hz2 rfl (by decide) _ 0 [] rfl (World.ownsRow_nil _ _ _ _) y n cap (cells x.z) rfl (by simp [cells, hl]) (Row.below hr (ba (ba (Below.refl _ _)))).cellsAt (cells_one x.z) (by omega) (by omega) (by simp) ?_; intro v' w1 hown hgrow hiff; clear hiff; have hown' : Own w1 (w.heap.size + 2) v' x.z := (by simpa [Own, hl] using hown); obtain ⟨a', c', rfl, hs'⟩ := hown'.sl' hl; clear hown; have hb1 := below_new hgrow; clear hgrow; have bx1 := ((Bx.made w x (.slice (some y) n cap)).next (ba (Below.refl _ _))).next hb1; have bx2 := (Bx.made' (w.alloc (.cells #[.int .i64 x.k, .int .i64 x.f, .int .i64 x.t, .int .i64 x.i, .int .i64 x.l, .int .i64 x.p, .int .i64 x.s, .bool x.fl, .slice (some y) n cap] 26)) zeroPk (.slice none 0 0) (w.heap.size + 1) (by simp)).next hb1; obtain ⟨p0, p1, p2, p3, p4, p5, p6, p7, p8, pf, pl⟩ := bx1; obtain ⟨q0, q1, q2, q3, q4, q5, q6, q7, q8, qf, ql⟩ := bx2; simp only [zeroPk] at q0 q1 q2 q3 q4 q5 q6 q7 q8)
    refine bodyPost_ret (v := x.val (.slice a' n c')) (by simp [results, Try.results77, go_sem, *]) rfl ⟨_, rfl, ?_, ?_⟩
    · refine Own.low (base := w.heap.size + 2) ?_ (by omega)
      exact far9 (g := w.heap.size + 1) (y := x) (v := .slice a' n c') (W := w1.setCell ⟨w.heap.size, 8, none⟩ (.slice a' n c')) (P := fun V => Own V (w.heap.size + 2) (.slice a' n c') x.z) (fun V o u h => h.set (by simp) u) (hown'.set (by simp only; omega) _)
    · exact far9 (g := w.heap.size + 1) (y := x) (v := .slice a' n c') (W := w1.setCell ⟨w.heap.size, 8, none⟩ (.slice a' n c')) (P := fun V => Below w.heap.size w V) (fun V o u h => h.setCell (by simp) u) ((next (ba (ba (Below.refl _ _))) hb1).setCell (by simp) _)
end Go.Proofs.Ytjdbjmfkheffdaa
end
section
namespace Go.Proofs.Ytjdbjmfkheffdaa
open Go.RowKit
set_option linter.unusedVariables false

set_option maxHeartbeats 600000 in
theorem put_full (w : World) {g : Nat} {M D : Nat → Prop} {room : Int} {L : List Pk} (h : Qu w g M D room L) (x : Pk) (a : Option Addr) (n cap : Nat) (h0 : 0 ≤ room) (h1 : room ≤ 1000000000) (hr : (L.length : Int) = room) :
    Calls Try.prog 60 #[.pointer (some ⟨g, 0, none⟩), x.val (.slice a n cap)] w fun e w' => e = .returned (.int .i64 5) ∧ Below w.heap.size w w' := by
  have he : (room - (L.length : Int) == 0) = true := by simp; omega
  clear hr
  unfold Pk.val
  go_enter Try.func60, Try.ntmps60
  go_wp2_with (go_at_call 76; refine (room_any _ (h.below (ba (Below.refl _ _))) h0 h1).mono ?_; rintro e w1 ⟨rfl, k1, rfl⟩)
  go_ret
  exact ⟨rfl, next (ba (Below.refl _ _)) (below_dn _ _)⟩
set_option maxHeartbeats 600000 in
theorem put_ok (w : World) {g : Nat} {M D : Nat → Prop} {room : Int} {L : List Pk} (h : Qu w g M D room L) (x : Pk) (a : Option Addr) (n cap : Nat) (hsl : Sl w a n cap x.z) (hn : n ≤ 17592186044416) (h0 : 0 ≤ room) (h1 : room ≤ 1000000000) (hr : (L.length : Int) < room) :
    Calls Try.prog 60 #[.pointer (some ⟨g, 0, none⟩), x.val (.slice a n cap)] w fun e w' => e = .returned (.int .i64 0) ∧ Keep M w w' ∧
      ∃ M' D', Qu w' g M' D' room (L ++ [x]) ∧ (∀ k, M' k → M k ∨ w.heap.size ≤ k) ∧ (∀ k, D' k → D k ∨ w.heap.size ≤ k) := by
  have he : (room - (L.length : Int) == 0) = false := by simp; omega
  have HR : Hid ((L.length : Int) < room) := hr
  clear hr
  unfold Pk.val
  go_enter Try.func60, Try.ntmps60
  go_wp2_with (go_at_call 76; refine (room_any _ (h.below (ba (Below.refl _ _))) h0 h1).mono ?_; rintro e w1 ⟨rfl, k1, rfl⟩)
  have bx := (Bx.made w x (.slice a n cap)).next (below_dn _ k1)
  have B1 : Below w.heap.size w ((w.alloc (.cells #[.int .i64 x.k, .int .i64 x.f, .int .i64 x.t, .int .i64 x.i, .int .i64 x.l, .int .i64 x.p, .int .i64 x.s, .bool x.fl, .slice a n cap] 26)).drewN k1) := next (ba (Below.refl _ _)) (below_dn _ _)
  have lt0 : ∀ k, M k ∨ D k → k < w.heap.size := h.old
  have h' := h.below B1
  have hsl' := hsl.below B1
  clear h hsl
  generalize (w.alloc (.cells #[.int .i64 x.k, .int .i64 x.f, .int .i64 x.t, .int .i64 x.i, .int .i64 x.l, .int .i64 x.p, .int .i64 x.s, .bool x.fl, .slice a n cap] 26)).drewN k1 = W at *
  refine wp_region_orders 12 rfl (by kernel_rfl) ?_
  have hd : Below W.heap.size W W.drew := (Below.refl _ _).drew
  replace bx := bx.next hd
  replace B1 := next B1 hd
  replace h' := h'.below hd
  replace hsl' := hsl'.below hd
  clear hd
  generalize W.drew = w1 at *
  obtain ⟨R, aq, cq, hq⟩ := h'
  obtain ⟨b0, b1, b2, b3, b4, b5, b6, b7, b8, bf, bl⟩ := bx
  have bx : Bx w1 w.heap.size x (.slice a n cap) := ⟨b0, b1, b2, b3, b4, b5, b6, b7, b8, bf, bl⟩
  have c1 := hq.c1
  have lt := hq.lt
  have uc := @Up.cell2
  have uf := @Up.frozen2
  refine any_take 0 (.pointer (some ⟨g, 0, none⟩)) rfl (by kernel_rfl) (by kernel_rfl) (by kernel_rfl) (fun _ _ _ h => h) (by kernel_rfl) (fun w => by go_simp) ?_
  simp only [Act.put, List.setIfInBounds_toArray, List.set_cons_zero, List.set_cons_succ]
  refine any_take 1 (.pointer (some ⟨g, 0, none⟩)) rfl (by kernel_rfl) (by kernel_rfl) (by kernel_rfl) (fun _ _ _ h => h) (by kernel_rfl) (fun w => by go_simp) ?_
  simp only [Act.put, List.setIfInBounds_toArray, List.set_cons_zero, List.set_cons_succ]
  refine any_take 2 (.pointer (some ⟨g, 0, none⟩)) rfl (by kernel_rfl) (by kernel_rfl) (by kernel_rfl) (fun _ _ _ h => h) (by kernel_rfl) (fun w => by go_simp) ?_
  simp only [Act.put, List.setIfInBounds_toArray, List.set_cons_zero, List.set_cons_succ]
  refine any_take 3 (.pointer (some ⟨g, 1, none⟩)) rfl (by kernel_rfl) (by kernel_rfl) (by kernel_rfl) (fun _ _ _ h => h) (by kernel_rfl) (fun w => by go_simp) ?_
  simp only [Act.put, List.setIfInBounds_toArray, List.set_cons_zero, List.set_cons_succ]
  refine any_mildx [8, 9, 10, 11] ?_
  refine mildx_take (v := ?v1) 4 rfl (by kernel_rfl) (by kernel_rfl) (by kernel_rfl) (by kernel_rfl) (fun _ _ _ h => h) (by kernel_rfl) (fun Wu K hK => ?hy1) ?go1
  case hy1 =>
    go_big_quiet_op
    simp only [Act.put, List.setIfInBounds_toArray, List.set_cons_zero, List.set_cons_succ] at hK
    exact hK
  simp only [Act.put, List.setIfInBounds_toArray, List.set_cons_zero, List.set_cons_succ]
  intro W
  clear uc uf
  have hW := W.2
  have hsl2 := hsl'.below hW
  have hqW := hq.keep (F := fun _ => False) (Keep.of_below hW) (fun _ _ h => h)
  have bxW := bx.next hW
  clear b0 b1 b2 b3 b4 b5 b6 b7 b8 bf bl bx c1 lt
  obtain ⟨b0, b1, b2, b3, b4, b5, b6, b7, b8, bf, bl⟩ := bxW
  generalize W.1 = wa at *
  refine upx_list 5 (by kernel_rfl) rfl ?_
  go_wp2
  refine ⟨hW, fun u => ?_⟩
  replace hsl2 := hsl2.below u.2
  replace hW := next hW u.2
  clear b0 b1 b2 b3 b4 b5 b6 b7 b8 bf bl hqW
  generalize u.1 = wb at *
  have hz2 := hW.size
  refine upx_list 6 (by kernel_rfl) rfl ?_
  go_wp2_with (go_at_call 77; refine (alone_any x a n cap _ hsl2 hn).mono ?_; rintro e w2 ⟨v2, rfl, hown2, hb2⟩; obtain ⟨a2, c2, rfl, hs2⟩ := hown2.sl' hsl2.len; clear hs2)
  refine ⟨next hW hb2, fun u => ?_⟩
  replace hW := next hW (next hb2 u.2)
  have dat3 := (dat_own hown2 (by have := hsl2.len; omega)).below u.2
  clear hown2 hb2
  generalize u.1 = w3 at *
  refine upx_list 7 (by kernel_rfl) rfl ?_
  go_wp2
  refine ⟨next hW (ba (Below.refl _ _)), fun u => ?_⟩
  have bx := (Bx.made w3 x (.slice a2 n c2)).next u.2
  replace dat3 := dat3.below (next (ba (Below.refl _ _)) u.2)
  replace hW := next hW (next (ba (Below.refl _ _)) u.2)
  generalize u.1 = w4 at *
  generalize w3.heap.size = bs at *
  have dat4 : Dat w4 (fun k => D k ∨ (wb.heap.size ≤ k ∧ k < w4.heap.size)) x (.slice a2 n c2) := dat3.imp (fun k hk h => .inr ⟨h, hk⟩)
  have q4 := hq.keep (F := fun _ => False) (Keep.of_below hW) (fun _ _ h => h)
  have hz1 := B1.size
  have hz4 := hW.size
  replace B1 := next B1 hW
  have ltm : ∀ k, M k → k < w.heap.size := fun k h => lt0 k (.inl h)
  have ltd : ∀ k, D k → k < w.heap.size := fun k h => lt0 k (.inr h)
  have glt := ltm g q4.mg
  clear hq dat3 hsl' hsl2 W hW lt0
  obtain ⟨i0, hi, hp0, hp1, hp2⟩ := info_parts Try.infoPk
  have hlen : L.length ≤ 1000000000 := by have := HR.out; omega
  have news : ∀ j u, (pcells x (.slice a2 n c2))[j]? = some u → w4.cell? ((⟨bs, 0, none⟩ : Addr).add j) = some u := by
    intro j u hu
    rw [Addr.add_lit, Nat.zero_add]
    have hj : j < 9 := (List.getElem?_eq_some_iff.1 hu).1
    obtain ⟨b0, b1, b2, b3, b4, b5, b6, b7, b8, _, _⟩ := bx
    match j, hj with
    | 0, _ => rw [b0]; exact hu
    | 1, _ => rw [b1]; exact hu
    | 2, _ => rw [b2]; exact hu
    | 3, _ => rw [b3]; exact hu
    | 4, _ => rw [b4]; exact hu
    | 5, _ => rw [b5]; exact hu
    | 6, _ => rw [b6]; exact hu
    | 7, _ => rw [b7]; exact hu
    | 8, _ => rw [b8]; exact hu
  refine upx_write 8 (by kernel_rfl) (by kernel_rfl) rfl ?_
  refine wpList_append_rw w4 (fun k => M k ∧ k ≠ g) (by kernel_rfl) (.tmp 12) (.tmp 15) 53 rfl 26 i0 (zeroPk.val (.slice none 0 0)) 9 88 Try.underlying53 hi hp0 hp1 hp2 rfl (by decide) aq L.length cq (pflat R) rfl q4.row ⟨bs, 0, none⟩ 1 1 (pcells x (.slice a2 n c2)) rfl (by omega) (by rfl) news (pcells_one (by rfl)) (by unfold maxLen; omega) (by omega) ?_
  intro a5 c5 w5 hrw5 hk5
  refine then_n ?_
  simp only [Act.put, List.setIfInBounds_toArray, List.set_cons_zero, List.set_cons_succ]
  refine any_take 9 (.pointer (some ⟨g, 0, none⟩)) rfl (by kernel_rfl) (by kernel_rfl) (by kernel_rfl) (fun _ _ _ h => h) (by kernel_rfl) (fun w => by go_simp) ?_
  simp only [Act.put, List.setIfInBounds_toArray, List.set_cons_zero, List.set_cons_succ]
  refine any_take 10 (.pointer (some ⟨g, 1, none⟩)) rfl (by kernel_rfl) (by kernel_rfl) (by kernel_rfl) (fun _ _ _ h => h) (by kernel_rfl) (fun w => by go_simp) ?_
  simp only [Act.put, List.setIfInBounds_toArray, List.set_cons_zero, List.set_cons_succ]
  have nS : ¬ (M g ∧ g ≠ g) := fun h => h.2 rfl
  have c5g : w5.cell? ⟨g, 1, none⟩ = some (.slice aq L.length cq) := by rw [hk5.cell 1 q4.lt nS]; exact q4.c1
  have f5g : w5.frozen? ⟨g, 1, none⟩ = false := by rw [hk5.frozen 1 q4.lt nS]; exact q4.fz 1
  refine any_list 11 (by kernel_rfl) rfl ?_
  go_wp2
  refine then_n ?_
  refine any_done (by kernel_rfl) ?_
  go_wp2
  go_ret
  have hz5 := hk5.size
  have k6 : Keep (fun k => k = g) w5 (w5.setCell ⟨g, 1, none⟩ (.slice a5 (L.length + 1) c5)) := (Keep.refl (fun k => k = g) w5).setCell (p := ⟨g, 1, none⟩) (.inl rfl) _
  refine ⟨rfl, ?_, fun k => M k ∨ (w4.heap.size ≤ k ∧ k < w5.heap.size), fun k => D k ∨ (wb.heap.size ≤ k ∧ k < w4.heap.size), ⟨R ++ [(x, .slice a2 n c2)], a5, c5, ?_⟩, fun k h => h.imp id (fun h => by omega), fun k h => h.imp id (fun h => by omega)⟩
  · exact ((Keep.of_below B1).trans hk5 (fun k _ h => h.1)).setCell (.inl q4.mg) _
  · constructor
    · rw [World.cell?_setCell_other _ _ _ _ (by simp), hk5.cell 0 q4.lt nS]; exact q4.c0
    · rw [show (L ++ [x]).length = L.length + 1 from (by simp)]; clear news bx dat4 hrw5; go_simp
    · intro o; rw [World.frozen?_setCell, hk5.frozen o q4.lt nS]; exact q4.fz o
    · simpa using Nat.lt_of_lt_of_le q4.lt hk5.size
    · exact .inl q4.mg
    · rw [List.map_append, q4.eq]; rfl
    · have e : (L ++ [x]).length = L.length + 1 := by simp
      rw [e, pflat_append, pflat_one]
      refine (hrw5.imp (T := fun k => (M k ∨ (w4.heap.size ≤ k ∧ k < w5.heap.size)) ∧ k ≠ g) (fun k hk h => ?_)).keep k6 (fun k h => h.2)
      rcases h with ⟨h1, h2⟩ | h
      · exact ⟨.inl h1, h2⟩
      · exact ⟨.inr ⟨h, hk⟩, by omega⟩
    · intro r hr
      have hdat : Dat w4 (fun k => D k ∨ (wb.heap.size ≤ k ∧ k < w4.heap.size)) r.1 r.2 := by
        rcases List.mem_append.1 hr with hr | hr
        · exact (q4.dat r hr).imp (fun k _ h => .inl h)
        · rw [List.mem_singleton] at hr; subst hr; exact dat4
      have hdj : ∀ k, D k ∨ (wb.heap.size ≤ k ∧ k < w4.heap.size) → ¬ M k := fun k h hm => by
        rcases h with h | h
        · exact q4.dj k hm h
        · have := ltm k hm; omega
      exact (hdat.keep hk5 (fun k h hm => hdj k h hm.1)).keep k6 (fun k h e => hdj k h (e ▸ q4.mg))
    · intro k h
      have e : (w5.setCell ⟨g, 1, none⟩ (.slice a5 (L.length + 1) c5)).heap.size = w5.heap.size := by simp
      rw [e]
      rcases h with (h | h) | (h | h)
      · have := ltm k h; omega
      · omega
      · have := ltd k h; omega
      · omega
    · intro k h h'
      rcases h with h | h <;> rcases h' with h' | h'
      · exact q4.dj k h h'
      · have := ltm k h; omega
      · have := ltd k h'; omega
      · omega
end Go.Proofs.Ytjdbjmfkheffdaa
end
section
namespace Go.Proofs.Ytjdbjmfkheffdaa
open Go.RowKit
set_option linter.unusedVariables false

set_option maxHeartbeats 600000 in
theorem take_none (w : World) {g : Nat} {M D : Nat → Prop} {room : Int} (h : Qu w g M D room []) :
    Calls Try.prog 64 #[.pointer (some ⟨g, 0, none⟩)] w fun e w' => e = .returned (.tuple #[zeroPk.val (.slice none 0 0), .bool false]) ∧ Below w.heap.size w w' := by
  go_enter Try.func64, Try.ntmps64
  go_wp2_with (go_at_call 63; refine (len_any _ (h.below (ba (Below.refl _ _)))).mono ?_; rintro e w1 ⟨rfl, rfl⟩)
  refine bodyPost_ret (v := .tuple #[zeroPk.val (.slice none 0 0), .bool false]) (by simp [results, Try.results64, go_sem, zeroPk, *]) rfl ⟨rfl, ba (Below.refl _ _)⟩
/-- The first packet's cells. -/
theorem QuI.first {w : World} {g : Nat} {M D : Nat → Prop} {room : Int} {x : Pk} {L : List Pk} {R : List (Pk × Value)} {a : Option Addr} {cap : Nat} (h : QuI w g M D room (x :: L) R a cap) :
    ∃ d R' b o, R = (x, d) :: R' ∧ R'.map Prod.fst = L ∧ a = some ⟨b, o, none⟩ ∧ M b ∧ b ≠ g ∧ b < w.heap.size ∧ 1 ≤ cap ∧
      (w.cell? ⟨b, o, none⟩ = some (.int .i64 x.k) ∧ w.cell? ⟨b, o + 1, none⟩ = some (.int .i64 x.f) ∧ w.cell? ⟨b, o + 2, none⟩ = some (.int .i64 x.t) ∧ w.cell? ⟨b, o + 3, none⟩ = some (.int .i64 x.i) ∧
        w.cell? ⟨b, o + 4, none⟩ = some (.int .i64 x.l) ∧ w.cell? ⟨b, o + 5, none⟩ = some (.int .i64 x.p) ∧ w.cell? ⟨b, o + 6, none⟩ = some (.int .i64 x.s) ∧ w.cell? ⟨b, o + 7, none⟩ = some (.bool x.fl) ∧ w.cell? ⟨b, o + 8, none⟩ = some d) ∧
      (∀ i, i < cap * 9 → (w.cell? ⟨b, o + i, none⟩).isSome = true ∧ w.frozen? ⟨b, o + i, none⟩ = false) ∧ (∀ i u, (pflat R')[i]? = some u → w.cell? ⟨b, o + 9 + i, none⟩ = some u) := by
  have he := h.eq
  match R, he with
  | (y, d) :: R', hq =>
    simp at hq
    obtain ⟨rfl, he2⟩ := hq
    have hle := h.row.le
    simp at hle
    rcases h.row.row with h0 | ⟨b, o, rfl, ⟨hm, hg⟩, hb, hc, hf⟩
    · omega
    · have hp := pk_at hc (i := 0) (x := y) (d := d) rfl
      simp only [Nat.zero_mul, Nat.add_zero] at hp
      refine ⟨d, R', b, o, rfl, he2, rfl, hm, hg, hb, by omega, hp, hf, fun i u hu => ?_⟩
      rw [Nat.add_assoc]
      refine hc (9 + i) u ?_
      rw [pflat_cons, List.getElem?_append_right (by simp [pcells]), show 9 + i - (pcells (y, d).1 (y, d).2).length = i by simp [pcells]]
      exact hu

/-- What Take leaves. -/
theorem QuI.took {w : World} {g : Nat} {M D : Nat → Prop} {room : Int} {x : Pk} {d : Value} {L : List Pk} {R' : List (Pk × Value)} {b o cap : Nat} (h : QuI w g M D room (x :: L) ((x, d) :: R') (some ⟨b, o, none⟩) cap)
    {o' c' n' : Nat} (hn : n' = L.length) (hc : (cap = 1 ∧ o' = o ∧ c' = 0) ∨ (¬ cap = 1 ∧ o' = o + 9 ∧ c' = cap - 1)) :
    QuI ((w.setCells b o (pcells zeroPk (.slice none 0 0))).setCell ⟨g, 1, none⟩ (.slice (some ⟨b, o', none⟩) n' c')) g M D room L R' (some ⟨b, o', none⟩) c' ∧
    Keep M w ((w.setCells b o (pcells zeroPk (.slice none 0 0))).setCell ⟨g, 1, none⟩ (.slice (some ⟨b, o', none⟩) n' c')) ∧
    Dat ((w.setCells b o (pcells zeroPk (.slice none 0 0))).setCell ⟨g, 1, none⟩ (.slice (some ⟨b, o', none⟩) n' c')) D x d := by
  subst hn
  obtain ⟨d2, R2, b2, o2, e1, he, e2, hm, hg, hb, hcap, _, hf, hcc⟩ := h.first
  simp at e1 e2
  obtain ⟨rfl, rfl⟩ := e1
  obtain ⟨rfl, rfl⟩ := e2
  have hle := h.row.le
  have hmx := h.row.max
  simp at hle
  have k1 : Keep (fun k => k = b) w (w.setCells b o (pcells zeroPk (.slice none 0 0))) := Keep.setCells (F := fun k => k = b) (b := b) (.inl rfl) _ _ _ (Keep.refl _ _)
  have hout : ∀ j, 9 ≤ j → (w.setCells b o (pcells zeroPk (.slice none 0 0))).cell? ⟨b, o + j, none⟩ = w.cell? ⟨b, o + j, none⟩ := fun j hj =>
    World.cell?_setCells_out b _ _ w ⟨b, o + j, none⟩ (fun _ _ => .inr (by simp [pcells]; omega))
  have hfr : ∀ p, (w.setCells b o (pcells zeroPk (.slice none 0 0))).frozen? p = w.frozen? p := fun p => World.frozen?_setCells b _ _ w p
  generalize w.setCells b o (pcells zeroPk (.slice none 0 0)) = w1 at *
  have k2 : Keep (fun k => k = g) w1 (w1.setCell ⟨g, 1, none⟩ (.slice (some ⟨b, o', none⟩) L.length c')) := (Keep.refl (fun k => k = g) w1).setCell (p := ⟨g, 1, none⟩) (.inl rfl) _
  have c0 : w1.cell? ⟨g, 0, none⟩ = some (.int .i64 room) := by rw [k1.cell 0 h.lt (fun e => hg e.symm)]; exact h.c0
  have c1 : w1.cell? ⟨g, 1, none⟩ = some (.slice (some ⟨b, o, none⟩) (x :: L).length cap) := by rw [k1.cell 1 h.lt (fun e => hg e.symm)]; exact h.c1
  have hdat : ∀ r ∈ (x, d) :: R', Dat (w1.setCell ⟨g, 1, none⟩ (.slice (some ⟨b, o', none⟩) L.length c')) D r.1 r.2 := fun r hr =>
    ((h.dat r hr).keep k1 (fun k hk e => h.dj k (e ▸ hm) hk)).keep k2 (fun k hk e => h.dj k (e ▸ h.mg) hk)
  refine ⟨?_, ?_, hdat (x, d) (by simp)⟩
  · constructor
    · rw [World.cell?_setCell_other _ _ _ _ (by simp)]; exact c0
    · exact World.cell?_setCell_same _ _ _ c1
    · intro q; rw [World.frozen?_setCell, hfr]; exact h.fz q
    · exact Nat.lt_of_lt_of_le h.lt (Nat.le_trans k1.size k2.size)
    · exact h.mg
    · exact he
    · have hr1 : Rw w1 (fun k => M k ∧ k ≠ g) (some ⟨b, o', none⟩) L.length c' 9 (pflat R') := by
        refine ⟨by rw [pflat_len, ← he]; simp, by omega, by omega, fun h => (by cases h), ?_⟩
        rcases hc with ⟨e1, e2, e3⟩ | ⟨e1, e2, e3⟩
        · exact .inl e3
        · subst e2; subst e3
          refine .inr ⟨b, o + 9, rfl, ⟨hm, hg⟩, Nat.lt_of_lt_of_le hb k1.size, fun i u hu => ?_, fun i hi => ?_⟩
          · rw [Nat.add_assoc, hout _ (by omega), ← Nat.add_assoc]; exact hcc i u hu
          · rw [Nat.add_assoc, hout _ (by omega), hfr]; exact hf (9 + i) (by omega)
      exact hr1.keep k2 (fun k hk => hk.2)
    · exact fun r hr => hdat r (by simp [hr])
    · exact fun k hk => Nat.lt_of_lt_of_le (h.old k hk) (Nat.le_trans k1.size k2.size)
    · exact h.dj
  · exact (k1.mono (fun k _ e => e ▸ hm)).trans k2 (fun k _ e => e ▸ h.mg)

set_option maxHeartbeats 600000 in
theorem take_some (w : World) {g : Nat} {M D : Nat → Prop} {room : Int} {x : Pk} {L : List Pk} (h : Qu w g M D room (x :: L)) :
    Calls Try.prog 64 #[.pointer (some ⟨g, 0, none⟩)] w fun e w' => ∃ d, e = .returned (.tuple #[x.val d, .bool true]) ∧ Keep M w w' ∧ Dat w' D x d ∧ Qu w' g M D room L := by
  have hlen := fun w1 (hb : Below w.heap.size w w1) => len_any w1 (h.below hb)
  obtain ⟨R, a, cap, h⟩ := h
  obtain ⟨d, R', b, o, rfl, he, rfl, hm, hg, hb, hcap, ⟨e0, e1, e2, e3, e4, e5, e6, e7, e8⟩, hf, hc⟩ := h.first
  have hfz : ∀ i, i < 9 → w.frozen? ⟨b, o + i, none⟩ = false := fun i hi => (hf i (by omega)).2
  have f0 := hfz 0 (by omega)
  have f1 := hfz 1 (by omega)
  have f2 := hfz 2 (by omega)
  have f3 := hfz 3 (by omega)
  have f4 := hfz 4 (by omega)
  have f5 := hfz 5 (by omega)
  have f6 := hfz 6 (by omega)
  have f7 := hfz 7 (by omega)
  have f8 := hfz 8 (by omega)
  rw [Nat.add_zero] at f0
  obtain ⟨ad, nd, cd, rfl, hsd, hnd, hdd⟩ := h.dat (x, d) (by simp)
  have c1 := h.c1
  have fz := h.fz
  have glt := h.lt
  have hmx := h.row.max
  have hle := h.row.le
  have HL : Hid ((x :: L).length = L.length + 1) := rfl
  generalize (x :: L).length = N at *
  have hne : ((N : Int) == 0) = false := by have := HL.out; simp; omega
  have hN : (1 : Int) ≤ N := by have := HL.out; omega
  have hN' : 1 ≤ N := by have := HL.out; omega
  unfold maxLen at hmx
  clear hfz hf hc hsd hdd he hcap
  have HQ : Hid (QuI w g M D room (x :: L) ((x, .slice ad nd cd) :: R') (some ⟨b, o, none⟩) cap) := h
  clear h
  go_enter Try.func64, Try.ntmps64
  go_wp2_with (go_at_call 63; refine (hlen _ (ba (Below.refl _ _))).mono ?_; rintro e w1 ⟨rfl, rfl⟩)
  · refine bodyPost_ret (v := .tuple #[x.val (.slice ad nd cd), .bool true]) (by simp [results, Try.results64, go_sem]) rfl ⟨_, rfl, ?_⟩
    obtain ⟨q1, q2, q3⟩ := QuI.took HQ.out (o' := o) (c' := 0) (n' := N - 1) (by have := HL.out; omega) (.inl ⟨by assumption, rfl, rfl⟩)
    exact ⟨q2.next (ba (ba (Below.refl _ _))), q3.below (ba (ba (Below.refl _ _))), Qu.below ⟨_, _, _, q1⟩ (ba (ba (Below.refl _ _)))⟩
  · refine bodyPost_ret (v := .tuple #[x.val (.slice ad nd cd), .bool true]) (by simp [results, Try.results64, go_sem]) rfl ⟨_, rfl, ?_⟩
    obtain ⟨q1, q2, q3⟩ := QuI.took HQ.out (o' := o + 9) (c' := cap - 1) (n' := N - 1) (by have := HL.out; omega) (.inr ⟨by assumption, rfl, rfl⟩)
    exact ⟨q2.next (ba (ba (Below.refl _ _))), q3.below (ba (ba (Below.refl _ _))), Qu.below ⟨_, _, _, q1⟩ (ba (ba (Below.refl _ _)))⟩

end Go.Proofs.Ytjdbjmfkheffdaa
end
section
namespace Go.Proofs.Ytjdbjmfkheffdaa
open Go.RowKit
set_option linter.unusedVariables false
set_option maxRecDepth 20000

/-- A lane as a value. -/
@[reducible] def laneV (p q : Nat) : Value := .agg #[.pointer (some ⟨p, 0, none⟩), .pointer (some ⟨q, 0, none⟩)]
theorem isNode_yes (w : World) {gf nn : Nat} {out inn : Int} {F : Nat → List Pk} {B : Nat → Prop} {gl go cap : Nat} {G : Nat → Nat} {M D : Nat → Nat → Prop} (h : FbI w gf nn out inn F B gl go cap G M D) (i : Int) (h0 : 0 ≤ i) (h1 : i < nn) :
    Calls Try.prog 32 #[.pointer (some ⟨gf, 0, none⟩), .int .i64 i] w fun e w' => e = .returned (.bool true) ∧ w = w' := by
  have fc := h.fc
  have n0 := h.n0
  have n1 := h.n1
  have hd : (2 * (nn : Int)).tdiv 2 = (nn : Int) := by rw [Int.tdiv_eq_ediv_of_nonneg (by omega)]; omega
  clear h
  go_enter Try.func32, Try.ntmps32
  go_wp2
  go_ret
  exact ⟨rfl, rfl⟩
theorem isNode_no (w : World) {gf nn : Nat} {out inn : Int} {F : Nat → List Pk} {B : Nat → Prop} {gl go cap : Nat} {G : Nat → Nat} {M D : Nat → Nat → Prop} (h : FbI w gf nn out inn F B gl go cap G M D) (i : Int) (h1 : i < 0 ∨ (nn : Int) ≤ i) :
    Calls Try.prog 32 #[.pointer (some ⟨gf, 0, none⟩), .int .i64 i] w fun e w' => e = .returned (.bool false) ∧ w = w' := by
  have fc := h.fc
  have n0 := h.n0
  have n1 := h.n1
  have hd : (2 * (nn : Int)).tdiv 2 = (nn : Int) := by rw [Int.tdiv_eq_ediv_of_nonneg (by omega)]; omega
  clear h
  by_cases h0 : 0 ≤ i
  · have h2 := h1.resolve_left (by omega)
    clear h1
    go_enter Try.func32, Try.ntmps32
    go_wp2
    go_ret
    exact ⟨ret_bool (decide_eq_false (by omega)), rfl⟩
  · clear h1
    go_enter Try.func32, Try.ntmps32
    go_wp2
    go_ret
    exact ⟨rfl, rfl⟩
theorem lane_req (w : World) {gf nn : Nat} {out inn : Int} {F : Nat → List Pk} {B : Nat → Prop} {gl go cap : Nat} {G : Nat → Nat} {M D : Nat → Nat → Prop} (h : FbI w gf nn out inn F B gl go cap G M D) (i : Nat) (h1 : i < nn) (x : Int) (hx : x = (i : Int)) :
    Calls Try.prog 33 #[.pointer (some ⟨gf, 0, none⟩), .int .i64 x, .bool true] w fun e w' => e = .returned (laneV (G (pr (2 * i))) (G (pr (2 * i) + 2))) ∧ Below w.heap.size w w' := by
  subst hx
  have fc := h.fc
  have n0 := h.n0
  have n1 := h.n1
  have c1 := h.lp (2 * i) (by omega)
  have c2 := h.lq (2 * i) (by omega)
  have cp := h.cp.1
  have cp2 := h.cp.2
  unfold maxLen at cp2
  have l1 := h.old _ h.mf
  have l2 := h.old _ h.ml
  clear h
  go_enter Try.func33, Try.ntmps33
  go_wp2
  refine bodyPost_ret (v := laneV (G (pr (2 * i))) (G (pr (2 * i) + 2))) (by simp [results, Try.results33, go_sem, *]) rfl ⟨rfl, ba (Below.refl _ _)⟩
theorem lane_ans (w : World) {gf nn : Nat} {out inn : Int} {F : Nat → List Pk} {B : Nat → Prop} {gl go cap : Nat} {G : Nat → Nat} {M D : Nat → Nat → Prop} (h : FbI w gf nn out inn F B gl go cap G M D) (i : Nat) (h1 : i < nn) (x : Int) (hx : x = (i : Int)) :
    Calls Try.prog 33 #[.pointer (some ⟨gf, 0, none⟩), .int .i64 x, .bool false] w fun e w' => e = .returned (laneV (G (pr (2 * i + 1))) (G (pr (2 * i + 1) + 2))) ∧ Below w.heap.size w w' := by
  subst hx
  have fc := h.fc
  have n0 := h.n0
  have n1 := h.n1
  have c1 := h.lp (2 * i + 1) (by omega)
  have c2 := h.lq (2 * i + 1) (by omega)
  have cp := h.cp.1
  have cp2 := h.cp.2
  unfold maxLen at cp2
  have l1 := h.old _ h.mf
  have l2 := h.old _ h.ml
  clear h
  go_enter Try.func33, Try.ntmps33
  go_wp2
  refine bodyPost_ret (v := laneV (G (pr (2 * i + 1))) (G (pr (2 * i + 1) + 2))) (by simp [results, Try.results33, go_sem, *]) rfl ⟨rfl, ba (Below.refl _ _)⟩
end Go.Proofs.Ytjdbjmfkheffdaa
end
section
namespace Go.Proofs.Ytjdbjmfkheffdaa
open Go.RowKit
set_option linter.unusedVariables false
set_option maxRecDepth 20000

theorem laneUnder_n (w : World) {g q : Nat} {M D : Nat → Prop} {room : Int} {L : List Pk} (h : Qu w g M D room L) (n : Int) (hn : (L.length : Int) = n) :
    Calls Try.prog 41 #[laneV g q] w fun e w' => e = .returned (.int .i64 n) ∧ Below w.heap.size w w' := by
  go_enter Try.func41, Try.ntmps41
  go_wp2_with (go_at_call 62; refine (P.len_n _ (h.below (ba (Below.refl _ _))) n hn).mono ?_; rintro e w1 ⟨rfl, rfl⟩)
  go_ret
  exact ⟨rfl, ba (Below.refl _ _)⟩
theorem laneRoom_n (w : World) {g q : Nat} {M D : Nat → Prop} {room : Int} {L : List Pk} (h : Qu w g M D room L) (h0 : 0 ≤ room) (h1 : room ≤ 1000) (n : Int) (hn : room - L.length = n) :
    Calls Try.prog 44 #[laneV g q] w fun e w' => e = .returned (.int .i64 n) ∧ Below w.heap.size w w' := by
  go_enter Try.func44, Try.ntmps44
  go_wp2_with (go_at_call 65; refine (P.room_n _ (h.below (ba (Below.refl _ _))) h0 (by omega) n hn).mono ?_; rintro e w1 ⟨rfl, k, rfl⟩)
  go_ret
  exact ⟨rfl, next (ba (Below.refl _ _)) (below_dn _ _)⟩
theorem laneWaiting_n (w : World) {g p : Nat} {M D : Nat → Prop} {room : Int} {L : List Pk} (h : Qu w g M D room L) (n : Int) (hn : (L.length : Int) = n) :
    Calls Try.prog 42 #[laneV p g] w fun e w' => e = .returned (.int .i64 n) ∧ Below w.heap.size w w' := by
  go_enter Try.func42, Try.ntmps42
  go_wp2_with (go_at_call 63; refine (len_n _ (h.below (ba (Below.refl _ _))) n hn).mono ?_; rintro e w1 ⟨rfl, rfl⟩)
  go_ret
  exact ⟨rfl, ba (Below.refl _ _)⟩
theorem lane_bound {w : World} {gf nn : Nat} {out inn : Int} {F : Nat → List Pk} {B : Nat → Prop} {gl go cap : Nat} {G : Nat → Nat} {M D : Nat → Nat → Prop} (h : FbI w gf nn out inn F B gl go cap G M D) : ∀ m, m ≤ 2 * nn → ((laneL F m).length : Int) ≤ m * out
  | 0, _ => by simp [laneL]
  | m + 1, hm => by
    have h1 := lane_bound h m (by omega)
    have h2 := h.rooms (pr m) (by have := pr_lt (q := m) (nn := nn) (by omega); omega)
    rw [Rm_out] at h2
    rw [laneL_succ, List.length_append]
    have : ((m + 1 : Nat) : Int) * out = (m : Int) * out + out := by rw [Int.natCast_add, Int.add_mul]; simp
    rw [this]
    omega
theorem lane_max {w : World} {gf nn : Nat} {out inn : Int} {F : Nat → List Pk} {B : Nat → Prop} {gl go cap : Nat} {G : Nat → Nat} {M D : Nat → Nat → Prop} (h : FbI w gf nn out inn F B gl go cap G M D) : (laneL F (2 * nn)).length ≤ 12000 := by
  have h1 := lane_bound h (2 * nn) (Nat.le_refl _)
  have n1 := h.n1
  have o1 := h.o1
  have o0 := h.o0
  have : ((2 * nn : Nat) : Int) * out ≤ 12 * out := Int.mul_le_mul_of_nonneg_right (by omega) (by omega)
  omega
set_option maxHeartbeats 600000 in
theorem under_any (w : World) {gf nn : Nat} {out inn : Int} {F : Nat → List Pk} {B : Nat → Prop} (h : Fb w gf nn out inn F B) (n : Int) (hn : ((laneL F (2 * nn)).length : Int) = n) :
    Calls Try.prog 14 #[.pointer (some ⟨gf, 0, none⟩)] w fun e w' => e = .returned (.int .i64 n) ∧ Below w.heap.size w w' := by
  subst hn
  obtain ⟨gl, go, cap, G, M, D, h⟩ := h
  have fc := h.fc
  have n1 := h.n1
  have l1 := h.old _ h.mf
  have l2 := h.old _ h.ml
  go_enter Try.func14, Try.ntmps14
  go_wp2_with fail
  go_loopw [3, 11] (fun c i wr => ∃ k : Nat, k ≤ 2 * nn ∧ i = .int .i64 k ∧ c = .int .i64 ((laneL F k).length : Int) ∧ Below w.heap.size w wr) (fun _ i _ => 2 * nn - (intOf i).toNat)
  case atStart => exact ⟨0, by omega, rfl, rfl, Below.refl _ _⟩
  case round =>
    obtain ⟨k, hk, rfl, rfl, hb⟩ := hrel
    have h' := h.below hb
    have hmx := lane_max h
    by_cases hlt : k < 2 * nn
    · have c1 := h'.lp k hlt
      have c2 := h'.lq k hlt
      have l3 := h'.old _ h'.ml
      have hq := h'.many.qu (pr k) (by have := pr_lt hlt; omega)
      have hs : ((laneL F (k + 1)).length : Int) = ((laneL F k).length : Int) + ((F (pr k)).length : Int) := by rw [laneL_succ, List.length_append]; omega
      have hm1 := lane_mono F (show k + 1 ≤ 2 * nn by omega)
      have HS : Hid (((laneL F (k + 1)).length : Int) = ((laneL F k).length : Int) + ((F (pr k)).length : Int)) := hs
      have b0 : (0 : Int) ≤ ((laneL F k).length : Int) := by omega
      have b1 : ((laneL F k).length : Int) ≤ 100000000 := by omega
      have b2 : (0 : Int) ≤ ((F (pr k)).length : Int) := by omega
      have b3 : ((F (pr k)).length : Int) ≤ 100000000 := by omega
      clear hs hm1 hmx
      generalize ((laneL F k).length : Int) = A at *
      generalize hB : ((F (pr k)).length : Int) = C at *
      go_wp2_with (go_at_call 41; refine (laneUnder_n _ (hq.below (ba (Below.refl _ _))) C hB).mono ?_; rintro e w1 ⟨rfl, hb1⟩)
      exact ⟨⟨k + 1, by omega, by go_num, by rw [HS.out], next (next hb (ba (Below.refl _ _))) hb1⟩, by simp [intOf]; omega⟩
    · obtain rfl : k = 2 * nn := by omega
      go_wp2
      go_ret
      exact ⟨rfl, hb⟩
set_option maxHeartbeats 1000000 in
theorem find_yes (w : World) {gf nn : Nat} {out inn : Int} {F : Nat → List Pk} {B : Nat → Prop} {gl go cap : Nat} {G : Nat → Nat} {M D : Nat → Nat → Prop} (h : FbI w gf nn out inn F B gl go cap G M D) {q k : Nat} (hq : q < 2 * nn) (hk : k < (F (pr q)).length) (a : Int) (ha : a = ((laneL F q).length : Int) + k) :
    Calls Try.prog 36 #[.pointer (some ⟨gf, 0, none⟩), .int .i64 a] w fun e w' => e = .returned (.tuple #[laneV (G (pr q)) (G (pr q + 2)), .int .i64 (k : Int), .bool true]) ∧ Below w.heap.size w w' := by
  have fc := h.fc
  have n1 := h.n1
  have l1 := h.old _ h.mf
  have l2 := h.old _ h.ml
  have hmx := lane_max h
  have hq1 := lane_mono F (show q + 1 ≤ 2 * nn by omega)
  have ha1 : a ≤ 100000000 := by rw [laneL_succ, List.length_append] at hq1; omega
  go_enter Try.func36, Try.ntmps36
  go_wp2_with fail
  go_loopw [1, 14] (fun c i wr => ∃ j : Nat, j ≤ q ∧ i = .int .i64 j ∧ c = .int .i64 (a - ((laneL F j).length : Int)) ∧ Below (w.heap.size + 1) (w.alloc (.cells #[.pointer none, .pointer none] 71)) wr) (fun _ i _ => 2 * nn - (intOf i).toNat)
  case atStart => exact ⟨0, by omega, rfl, by simp [laneL], Below.refl _ _⟩
  case round =>
    obtain ⟨j, hj, rfl, rfl, hb0⟩ := hrel
    have hbw : Below w.heap.size w wr := next (ba (Below.refl _ _)) (by simpa using hb0)
    have h' := h.below hbw
    have hr1 : wr.frozen? ⟨w.heap.size, 0, none⟩ = false := by rw [hb0.frozen (p := ⟨w.heap.size, 0, none⟩) (by simp only; omega)]; simp
    have hr2 : wr.frozen? ⟨w.heap.size, 1, none⟩ = false := by rw [hb0.frozen (p := ⟨w.heap.size, 1, none⟩) (by simp only; omega)]; simp
    have hr3 : wr.cell? ⟨w.heap.size, 0, none⟩ = some (.pointer none) := by rw [hb0.cell (p := ⟨w.heap.size, 0, none⟩) (by simp only; omega)]; simp
    have hr4 : wr.cell? ⟨w.heap.size, 1, none⟩ = some (.pointer none) := by rw [hb0.cell (p := ⟨w.heap.size, 1, none⟩) (by simp only; omega)]; simp
    have hr5 : w.heap.size < wr.heap.size := by have := hb0.size; simp at this; omega
    have hlt : j < 2 * nn := by omega
    have c1 := h'.lp j hlt
    have c2 := h'.lq j hlt
    have l3 := h'.old _ h'.ml
    have hqu := h'.many.qu (pr j) (by have := pr_lt hlt; omega)
    have hs : ((laneL F (j + 1)).length : Int) = ((laneL F j).length : Int) + ((F (pr j)).length : Int) := by rw [laneL_succ, List.length_append]; omega
    have HS : Hid (((laneL F (j + 1)).length : Int) = ((laneL F j).length : Int) + ((F (pr j)).length : Int)) := hs
    have hm2 := lane_mono F (show j + 1 ≤ 2 * nn by omega)
    have b2 : (0 : Int) ≤ ((F (pr j)).length : Int) := by omega
    have b3 : ((F (pr j)).length : Int) ≤ 100000000 := by omega
    by_cases hjq : j < q
    · have hm1 := lane_mono F (show j + 1 ≤ q by omega)
      have b4 : ((F (pr j)).length : Int) ≤ a - ((laneL F j).length : Int) := by omega
      obtain ⟨A, hA⟩ : ∃ A : Int, a - ((laneL F j).length : Int) = A := ⟨_, rfl⟩
      have b5 : A ≤ 100000000 := by omega
      rw [hA] at b4
      rw [hA]
      have HA : Hid (a - ((laneL F j).length : Int) = A) := hA
      clear hs hm1 hm2 hmx hq1 ha ha1 hk hA
      generalize hB : ((F (pr j)).length : Int) = C at *
      go_wp2_with (go_at_call 41; first
        | (have mk := hb1; clear mk; refine (laneUnder_n _ (hqu.below (next (ba (Below.refl _ _)) hb1)) C hB).mono ?_; rintro e w2 ⟨rfl, hb2⟩)
        | (refine (laneUnder_n _ (hqu.below (ba (Below.refl _ _))) C hB).mono ?_; rintro e w1 ⟨rfl, hb1⟩; obtain ⟨hc1, hf1⟩ := bcell hb1; have z1 := hb1.size))
      refine ⟨⟨j + 1, by omega, by go_num, by rw [HS.out, ← HA.out]; congr 1; omega, ?_⟩, by simp [intOf]; omega⟩
      exact hb0.trans ((next (next (ba (Below.refl _ _)) hb1) hb2).mono (by have := hb0.size; simp at this; omega))
    · obtain rfl : j = q := by omega
      have e : a - ((laneL F j).length : Int) = (k : Int) := by omega
      rw [e]
      have b4 : (k : Int) < ((F (pr j)).length : Int) := by omega
      clear hs hm2 hmx hq1 ha ha1 hk e
      generalize hB : ((F (pr j)).length : Int) = C at *
      go_wp2_with (go_at_call 41; refine (laneUnder_n _ (hqu.below (ba (Below.refl _ _))) C hB).mono ?_; rintro e w1 ⟨rfl, hb1⟩; obtain ⟨hc1, hf1⟩ := bcell hb1; have z1 := hb1.size)
      have r3 := ((next (ba (Below.refl _ _)) hb1).cell (p := ⟨w.heap.size, 0, none⟩) hr5).trans hr3
      have r4 := ((next (ba (Below.refl _ _)) hb1).cell (p := ⟨w.heap.size, 1, none⟩) hr5).trans hr4
      refine bodyPost_ret (v := .tuple #[laneV (G (pr j)) (G (pr j + 2)), .int .i64 (k : Int), .bool true]) (by simp [results, Try.results36, go_sem, *]) rfl ⟨rfl, ?_⟩
      exact ((next (next hbw (ba (Below.refl _ _))) hb1).setCell (Nat.le_refl _) _).setCell (Nat.le_refl _) _
set_option maxHeartbeats 1000000 in
theorem find_no (w : World) {gf nn : Nat} {out inn : Int} {F : Nat → List Pk} {B : Nat → Prop} {gl go cap : Nat} {G : Nat → Nat} {M D : Nat → Nat → Prop} (h : FbI w gf nn out inn F B gl go cap G M D) (a : Int) (ha : a < 0 ∨ ((laneL F (2 * nn)).length : Int) ≤ a) (h63 : a < 9223372036854775808) :
    Calls Try.prog 36 #[.pointer (some ⟨gf, 0, none⟩), .int .i64 a] w fun e w' => (∃ p q i, e = .returned (.tuple #[.agg #[.pointer p, .pointer q], .int .i64 i, .bool false])) ∧ Below w.heap.size w w' := by
  have fc := h.fc
  have n1 := h.n1
  have n0 := h.n0
  have l1 := h.old _ h.mf
  have l2 := h.old _ h.ml
  have hmx := lane_max h
  go_enter Try.func36, Try.ntmps36
  go_wp2_with fail
  go_loopw [1, 14] (fun c i wr => ∃ j : Nat, j ≤ 2 * nn ∧ (a < 0 → j = 0) ∧ i = .int .i64 j ∧ c = .int .i64 (a - ((laneL F j).length : Int)) ∧ Below (w.heap.size + 1) (w.alloc (.cells #[.pointer none, .pointer none] 71)) wr) (fun _ i _ => 2 * nn - (intOf i).toNat)
  case atStart => exact ⟨0, by omega, fun _ => rfl, rfl, by simp [laneL], Below.refl _ _⟩
  case round =>
    obtain ⟨j, hj, hj0, rfl, rfl, hb0⟩ := hrel
    have hbw : Below w.heap.size w wr := next (ba (Below.refl _ _)) (by simpa using hb0)
    have h' := h.below hbw
    have hr1 : wr.frozen? ⟨w.heap.size, 0, none⟩ = false := by rw [hb0.frozen (p := ⟨w.heap.size, 0, none⟩) (by simp only; omega)]; simp
    have hr2 : wr.frozen? ⟨w.heap.size, 1, none⟩ = false := by rw [hb0.frozen (p := ⟨w.heap.size, 1, none⟩) (by simp only; omega)]; simp
    have hr3 : wr.cell? ⟨w.heap.size, 0, none⟩ = some (.pointer none) := by rw [hb0.cell (p := ⟨w.heap.size, 0, none⟩) (by simp only; omega)]; simp
    have hr4 : wr.cell? ⟨w.heap.size, 1, none⟩ = some (.pointer none) := by rw [hb0.cell (p := ⟨w.heap.size, 1, none⟩) (by simp only; omega)]; simp
    have hr5 : w.heap.size < wr.heap.size := by have := hb0.size; simp at this; omega
    by_cases hlt : j < 2 * nn
    · have c1 := h'.lp j hlt
      have c2 := h'.lq j hlt
      have l3 := h'.old _ h'.ml
      have hqu := h'.many.qu (pr j) (by have := pr_lt hlt; omega)
      have hs : ((laneL F (j + 1)).length : Int) = ((laneL F j).length : Int) + ((F (pr j)).length : Int) := by rw [laneL_succ, List.length_append]; omega
      have HS : Hid (((laneL F (j + 1)).length : Int) = ((laneL F j).length : Int) + ((F (pr j)).length : Int)) := hs
      have hm2 := lane_mono F (show j + 1 ≤ 2 * nn by omega)
      have b2 : (0 : Int) ≤ ((F (pr j)).length : Int) := by omega
      have b3 : ((F (pr j)).length : Int) ≤ 100000000 := by omega
      by_cases hneg : a < 0
      · obtain rfl := hj0 hneg
        simp only [Nat.zero_mul, Nat.add_zero] at c1 c2
        have e : a - ((laneL F 0).length : Int) = a := by simp [laneL]
        rw [e]
        have b4 : a < ((F (pr 0)).length : Int) := by omega
        clear hs hm2 hmx ha e hj0
        generalize hB : ((F (pr 0)).length : Int) = C at *
        go_wp2_with (go_at_call 41; refine (laneUnder_n _ (hqu.below (ba (Below.refl _ _))) C hB).mono ?_; rintro e w1 ⟨rfl, hb1⟩; obtain ⟨hc1, hf1⟩ := bcell hb1; have z1 := hb1.size)
        have r3 := ((next (ba (Below.refl _ _)) hb1).cell (p := ⟨w.heap.size, 0, none⟩) hr5).trans hr3
        have r4 := ((next (ba (Below.refl _ _)) hb1).cell (p := ⟨w.heap.size, 1, none⟩) hr5).trans hr4
        refine bodyPost_ret (v := .tuple #[laneV (G (pr 0)) (G (pr 0 + 2)), .int .i64 a, .bool false]) (by simp [results, Try.results36, go_sem, *]) rfl ⟨⟨_, _, _, rfl⟩, ?_⟩
        exact ((next (next hbw (ba (Below.refl _ _))) hb1).setCell (Nat.le_refl _) _).setCell (Nat.le_refl _) _
      · have ha2 := ha.resolve_left hneg
        have b4 : ((F (pr j)).length : Int) ≤ a - ((laneL F j).length : Int) := by omega
        obtain ⟨A, hA⟩ : ∃ A : Int, a - ((laneL F j).length : Int) = A := ⟨_, rfl⟩
        rw [hA] at b4
        rw [hA]
        have HA : Hid (a - ((laneL F j).length : Int) = A) := hA
        have HN : Hid (¬ a < 0) := hneg
        have h64 : IntKind.i64.wrap (A - ((F (pr j)).length : Int)) = A - ((F (pr j)).length : Int) := (IntWalk.i64_left _).trans (IntWalk.wrap64_in _ (by omega))
        clear hs hm2 hmx ha ha2 hA hneg hj0 h63
        generalize hB : ((F (pr j)).length : Int) = C at *
        go_wp2_with (go_at_call 41; first
          | (have mk := hb1; clear mk; refine (laneUnder_n _ (hqu.below (next (ba (Below.refl _ _)) hb1)) C hB).mono ?_; rintro e w2 ⟨rfl, hb2⟩)
          | (refine (laneUnder_n _ (hqu.below (ba (Below.refl _ _))) C hB).mono ?_; rintro e w1 ⟨rfl, hb1⟩; obtain ⟨hc1, hf1⟩ := bcell hb1; have z1 := hb1.size))
        refine ⟨⟨j + 1, by omega, fun h => absurd h (by have := HN.out; omega), by go_num, by rw [HS.out, ← HA.out]; congr 1; omega, ?_⟩, by simp [intOf]; omega⟩
        exact hb0.trans ((next (next (ba (Below.refl _ _)) hb1) hb2).mono (by have := hb0.size; simp at this; omega))
    · obtain rfl : j = 2 * nn := by omega
      clear hj0 ha
      go_wp2
      refine bodyPost_ret (v := .tuple #[.agg #[.pointer none, .pointer none], .int .i64 0, .bool false]) (by simp [results, Try.results36, go_sem, *]) rfl ⟨⟨_, _, _, rfl⟩, ?_⟩
      exact (hbw.setCell (Nat.le_refl _) _).setCell (Nat.le_refl _) _
end Go.Proofs.Ytjdbjmfkheffdaa
end
section
namespace Go.Proofs.Ytjdbjmfkheffdaa
open Go.RowKit
set_option linter.unusedVariables false
set_option maxRecDepth 20000

section
variable (w : World) {gf nn : Nat} {out inn : Int} {F : Nat → List Pk} {B : Nat → Prop}
theorem room_no (h : Fb w gf nn out inn F B) (i : Int) (b : Bool) (hi : i < 0 ∨ (nn : Int) ≤ i) :
    Calls Try.prog 20 #[.pointer (some ⟨gf, 0, none⟩), .int .i64 i, .bool b] w fun e w' => e = .returned (.int .i64 0) ∧ Below w.heap.size w w' := by
  obtain ⟨gl, go, cap, G, M, D, h⟩ := h
  go_enter Try.func20, Try.ntmps20
  go_wp2_with (go_at_call 32; refine (isNode_no _ h i hi).mono ?_; rintro e w1 ⟨rfl, rfl⟩)
  go_ret
  exact ⟨rfl, Below.refl _ _⟩
theorem room_req (h : Fb w gf nn out inn F B) (i : Nat) (hi : i < nn) (x : Int) (hx : x = (i : Int)) (n : Int) (hn : out - ((F (pr (2 * i))).length : Int) = n) :
    Calls Try.prog 20 #[.pointer (some ⟨gf, 0, none⟩), .int .i64 x, .bool true] w fun e w' => e = .returned (.int .i64 n) ∧ Below w.heap.size w w' := by
  obtain ⟨gl, go, cap, G, M, D, h⟩ := h
  subst hx
  have i0 : (0 : Int) ≤ (i : Int) := by omega
  have i1 : (i : Int) < (nn : Int) := by omega
  have HN : Hid (out - ((F (pr (2 * i))).length : Int) = n) := hn
  clear hn
  have hq := h.many.qu (pr (2 * i)) (by have := pr_lt (q := 2 * i) (nn := nn) (by omega); omega)
  rw [Rm_out] at hq
  have o0 := h.o0
  have o1 := h.o1
  go_enter Try.func20, Try.ntmps20
  go_wp2_with (first
    | (go_at_call 32; refine (isNode_yes _ h _ i0 i1).mono ?_; rintro e w1 ⟨rfl, rfl⟩)
    | (go_at_call 33; refine (lane_req _ h i hi _ rfl).mono ?_; rintro e w1 ⟨rfl, hb1⟩)
    | (go_at_call 44; refine (laneRoom_n _ (hq.below hb1) (by omega) (by omega) n HN.out).mono ?_; rintro e w2 ⟨rfl, hb2⟩))
  go_ret
  exact ⟨rfl, next hb1 hb2⟩
theorem room_ans (h : Fb w gf nn out inn F B) (i : Nat) (hi : i < nn) (x : Int) (hx : x = (i : Int)) (n : Int) (hn : out - ((F (pr (2 * i + 1))).length : Int) = n) :
    Calls Try.prog 20 #[.pointer (some ⟨gf, 0, none⟩), .int .i64 x, .bool false] w fun e w' => e = .returned (.int .i64 n) ∧ Below w.heap.size w w' := by
  obtain ⟨gl, go, cap, G, M, D, h⟩ := h
  subst hx
  have i0 : (0 : Int) ≤ (i : Int) := by omega
  have i1 : (i : Int) < (nn : Int) := by omega
  have HN : Hid (out - ((F (pr (2 * i + 1))).length : Int) = n) := hn
  clear hn
  have hq := h.many.qu (pr (2 * i + 1)) (by have := pr_lt (q := 2 * i + 1) (nn := nn) (by omega); omega)
  rw [Rm_out] at hq
  have o0 := h.o0
  have o1 := h.o1
  go_enter Try.func20, Try.ntmps20
  go_wp2_with (first
    | (go_at_call 32; refine (isNode_yes _ h _ i0 i1).mono ?_; rintro e w1 ⟨rfl, rfl⟩)
    | (go_at_call 33; refine (lane_ans _ h i hi _ rfl).mono ?_; rintro e w1 ⟨rfl, hb1⟩)
    | (go_at_call 44; refine (laneRoom_n _ (hq.below hb1) (by omega) (by omega) n HN.out).mono ?_; rintro e w2 ⟨rfl, hb2⟩))
  go_ret
  exact ⟨rfl, next hb1 hb2⟩
theorem waiting_no (h : Fb w gf nn out inn F B) (i : Int) (hi : i < 0 ∨ (nn : Int) ≤ i) :
    Calls Try.prog 15 #[.pointer (some ⟨gf, 0, none⟩), .int .i64 i] w fun e w' => e = .returned (.tuple #[.int .i64 0, .int .i64 0]) ∧ Below w.heap.size w w' := by
  obtain ⟨gl, go, cap, G, M, D, h⟩ := h
  go_enter Try.func15, Try.ntmps15
  go_wp2_with (go_at_call 32; refine (isNode_no _ h i hi).mono ?_; rintro e w1 ⟨rfl, rfl⟩)
  refine bodyPost_ret (v := .tuple #[.int .i64 0, .int .i64 0]) (by simp [results, Try.results15, go_sem, *]) rfl ⟨rfl, Below.refl _ _⟩
theorem waiting_yes (h : Fb w gf nn out inn F B) (i : Nat) (hi : i < nn) (x : Int) (hx : x = (i : Int)) (n m : Int) (hn : ((F (pr (2 * i) + 2)).length : Int) = n) (hm : ((F (pr (2 * i + 1) + 2)).length : Int) = m) :
    Calls Try.prog 15 #[.pointer (some ⟨gf, 0, none⟩), .int .i64 x] w fun e w' => e = .returned (.tuple #[.int .i64 n, .int .i64 m]) ∧ Below w.heap.size w w' := by
  obtain ⟨gl, go, cap, G, M, D, h⟩ := h
  subst hx
  have i0 : (0 : Int) ≤ (i : Int) := by omega
  have i1 : (i : Int) < (nn : Int) := by omega
  have HN : Hid (((F (pr (2 * i) + 2)).length : Int) = n) := hn
  have HM : Hid (((F (pr (2 * i + 1) + 2)).length : Int) = m) := hm
  clear hn hm
  have hq := h.many.qu (pr (2 * i) + 2) (pr_lt (by omega))
  have hr := h.many.qu (pr (2 * i + 1) + 2) (pr_lt (by omega))
  go_enter Try.func15, Try.ntmps15
  go_wp2_with (first
    | (go_at_call 32; refine (isNode_yes _ h _ i0 i1).mono ?_; rintro e w1 ⟨rfl, rfl⟩)
    | (have mk := hb2; clear mk; go_at_call 33; refine (lane_ans _ ((h.below hb1).below hb2) i hi _ rfl).mono ?_; rintro e w3 ⟨rfl, hb3⟩)
    | (go_at_call 33; refine (lane_req _ h i hi _ rfl).mono ?_; rintro e w1 ⟨rfl, hb1⟩)
    | (have mk := hb3; clear mk; go_at_call 42; refine (laneWaiting_n _ (((hr.below hb1).below hb2).below hb3) m HM.out).mono ?_; rintro e w4 ⟨rfl, hb4⟩)
    | (go_at_call 42; refine (laneWaiting_n _ (hq.below hb1) n HN.out).mono ?_; rintro e w2 ⟨rfl, hb2⟩))
  refine bodyPost_ret (v := .tuple #[.int .i64 n, .int .i64 m]) (by simp [results, Try.results15, go_sem, *]) rfl ⟨rfl, next (next (next hb1 hb2) hb3) hb4⟩
set_option maxHeartbeats 400000 in
theorem packet_no (h : Fb w gf nn out inn F B) (a : Int) (ha : a < 0 ∨ ((laneL F (2 * nn)).length : Int) ≤ a) (h63 : a < 9223372036854775808) :
    Calls Try.prog 27 #[.pointer (some ⟨gf, 0, none⟩), .int .i64 a] w fun e w' => e = .returned (.tuple #[zeroPk.val (.slice none 0 0), .bool false]) ∧ Below w.heap.size w w' := by
  obtain ⟨gl, go, cap, G, M, D, h⟩ := h
  have HA : Hid (a < 0 ∨ ((laneL F (2 * nn)).length : Int) ≤ a) := ha
  have H63 : Hid (a < 9223372036854775808) := h63
  clear ha h63
  go_enter Try.func27, Try.ntmps27
  go_wp2_with (go_at_call 36; refine (find_no _ (h.below (ba (Below.refl _ _))) a HA.out H63.out).mono ?_; rintro e w1 ⟨⟨p, q, i, rfl⟩, hb1⟩; have bx := (Bx.made w zeroPk (.slice none 0 0)).next hb1; obtain ⟨q0, q1, q2, q3, q4, q5, q6, q7, q8, qf, ql⟩ := bx; simp only [zeroPk] at q0 q1 q2 q3 q4 q5 q6 q7 q8)
  refine bodyPost_ret (v := .tuple #[zeroPk.val (.slice none 0 0), .bool false]) (by simp [results, Try.results27, go_sem, zeroPk, *]) rfl ⟨rfl, ?_⟩
  exact ba (far9 (g := w.heap.size) (y := zeroPk) (v := .slice none 0 0) (W := w1) (P := fun V => Below w.heap.size w V) (fun V o u h => h.setCell (by simp) u) (next (ba (Below.refl _ _)) hb1))
set_option maxHeartbeats 1000000 in
theorem packet_yes (h : Fb w gf nn out inn F B) {q k : Nat} {x : Pk} (hq : q < 2 * nn) (hx : (F (pr q))[k]? = some x) (a : Int) (ha : a = ((laneL F q).length : Int) + k) :
    Calls Try.prog 27 #[.pointer (some ⟨gf, 0, none⟩), .int .i64 a] w fun e w' => ∃ d, e = .returned (.tuple #[x.val d, .bool true]) ∧ Below w.heap.size w w' ∧ Own w' w.heap.size d x.z := by
  obtain ⟨gl, go, cap, G, M, D, h⟩ := h
  have hk : k < (F (pr q)).length := (List.getElem?_eq_some_iff.1 hx).1
  have HA : Hid (a = ((laneL F q).length : Int) + k) := ha
  have HX : Hid ((F (pr q))[k]? = some x) := hx
  clear ha hx
  have hqu := h.many.qu (pr q) (by have := pr_lt hq; omega)
  go_enter Try.func27, Try.ntmps27
  go_wp2_with (first
    | (go_at_call 36; refine (find_yes _ (h.below (ba (Below.refl _ _))) hq hk a HA.out).mono ?_; rintro e w1 ⟨rfl, hb1⟩; have bx1 := (Bx.made w zeroPk (.slice none 0 0)).next hb1; have z1 := bx1.lt)
    | (go_at_call 37; refine (P.get_some _ (hqu.below (next (next (ba (Below.refl _ _)) hb1) (ba (Below.refl _ _)))) k x HX.out _ rfl).mono ?_; rintro e w2 ⟨d, rfl, hb2, ho2⟩; have bx2 := (bx1.next (ba (o := .cells #[.pointer (some ⟨G (pr q), 0, none⟩), .pointer (some ⟨G (pr q + 2), 0, none⟩)] 71) (Below.refl _ _))).next hb2; clear bx1; obtain ⟨q0, q1, q2, q3, q4, q5, q6, q7, q8, qf, ql⟩ := bx2; simp only [zeroPk] at q0 q1 q2 q3 q4 q5 q6 q7 q8; obtain ⟨a2, c2, rfl, hs2⟩ := ho2.sl' rfl; clear hs2))
  refine bodyPost_ret (v := .tuple #[x.val (.slice a2 x.z.length c2), .bool true]) (by simp [results, Try.results27, go_sem, *]) rfl ⟨_, rfl, ?_, ?_⟩
  · exact far9 (g := w.heap.size) (y := x) (v := .slice a2 x.z.length c2) (W := w2) (P := fun V => Below w.heap.size w V) (fun V o u h => h.setCell (by simp) u) (next (next (next (ba (Below.refl _ _)) hb1) (ba (Below.refl _ _))) hb2)
  · refine Own.low (base := w.heap.size + 1) ?_ (by omega)
    exact far9 (g := w.heap.size) (y := x) (v := .slice a2 x.z.length c2) (W := w2) (P := fun V => Own V (w.heap.size + 1) (.slice a2 x.z.length c2) x.z) (fun V o u h => h.set (by simp) u) (ho2.low (by simp; omega))
end
end Go.Proofs.Ytjdbjmfkheffdaa
end
section
namespace Go.Proofs.Ytjdbjmfkheffdaa
open Go.RowKit
set_option linter.unusedVariables false

section
variable {P : Program} {ops : Array Oper} {Q : Exit → Act → World → Prop} {w0 : World} {X : List Nat}

theorem wpAnyX_firstY {Y : List Nat} {i : Nat} {oi : Oper} {v : Value} (hXY : X.all (fun j => Y.contains j) = true) (hi : ops[i]? = some oi) (hsel : ∀ (j : Nat) (o : Oper) cs b, ops[j]? = some o → o.op ≠ .select cs b)
    (hQ : ∀ c a w, Q (.panic c) (a.put oi.dst v) w → Q (.panic c) a w) :
    ∀ (fuel : Nat) (listed : Array Bool) (a : Act) (W : Up w0), (∀ j ∈ Y, listed.getD j true = false ∧ (waitsOn ops j i = true ∨ ∃ k ∈ Y, waitsOn ops j k = true)) →
      (∀ j oj, ops[j]? = some oj → j ≠ i → listed.getD j true = false → (∀ e ∈ oj.after, Region.binds .any e = true → e.on ≠ i) → oi.apart ops oj = true) →
      i ∈ Region.ready .any ops listed → Mild P ops w0 oi v a →
      (∀ u : Up W.1, wpAnyX P ops Q w0 X fuel (listed.setIfInBounds i true) (a.put oi.dst v) u.1) → wpAnyX P ops Q w0 X (fuel + 1) listed a W.1 := by
  intro fuel
  induction fuel with
  | zero =>
    intro listed a W _ _ hr hy H
    refine ⟨fun h => (by rw [h] at hr; cases hr), fun j hj => ?_⟩
    by_cases hji : j = i
    · subst hji; exact hy.wpOp hi W fun u => .inr ⟨(W.trans u).2, fun u' => H (u.trans u')⟩
    · have := ready_mono hj hji
      rw [(H (Up.self _)).1] at this
      cases this
  | succ fuel ih =>
    intro listed a W hY hfree hr hy H
    refine ⟨fun h => (by rw [h] at hr; cases hr), fun j hj => ?_⟩
    by_cases hji : j = i
    · subst hji; exact hy.wpOp hi W fun u => .inr ⟨(W.trans u).2, fun u' => H (u.trans u')⟩
    · have h1 := (H (Up.self _)).2 j (ready_mono hj hji)
      obtain ⟨hjun, oj, hoj, hall⟩ := mem_ready.1 hj
      have hnot : ∀ e ∈ oj.after, Region.binds .any e = true → e.on ≠ i := fun e he hb heq => by
        have g1 := hall e he hb
        have g0 := (mem_ready.1 hr).1
        rw [heq] at g1
        rcases Nat.lt_or_ge i listed.size with h' | h'
        · simp [h'] at g0 g1; rw [g0] at g1; cases g1
        · simp [Array.getElem?_eq_none h'] at g1
      have h2 := wpOp_mild hoj (hfree j oj hoj hji hjun hnot) (fun cs b => hsel i oi cs b hi) (fun cs b => hsel j oj cs b hoj) hQ hy h1
      have hfree' : ∀ k ok, ops[k]? = some ok → k ≠ i → (listed.setIfInBounds j true).getD k true = false →
          (∀ e ∈ ok.after, Region.binds .any e = true → e.on ≠ i) → oi.apart ops ok = true := fun k ok hk hki hun hno => by
        refine hfree k ok hk hki ?_ hno
        by_cases hjk : j = k
        · subst hjk; exact hjun
        · rw [getD_set_ne true hjk] at hun; exact hun
      have hri : i ∈ Region.ready .any ops (listed.setIfInBounds j true) := ready_mono hr (Ne.symm hji)
      have hjY : j ∉ Y := fun hm => by
        obtain ⟨_, hw⟩ := hY j hm
        rcases hw with hw | ⟨k, hk, hw⟩
        · obtain ⟨e, he, hb, hon⟩ := waitsOn_spec hw hoj
          exact hnot e he hb hon
        · obtain ⟨e, he, hb, hon⟩ := waitsOn_spec hw hoj
          have g1 := hall e he hb
          have g0 := (hY k hk).1
          rw [hon] at g1
          rcases Nat.lt_or_ge k listed.size with h' | h'
          · simp [h'] at g0 g1; rw [g0] at g1; cases g1
          · simp [Array.getElem?_eq_none h'] at g1
      have hjx : X.contains j = false := by
        cases hc : X.contains j
        · rfl
        · exfalso
          have hm : j ∈ X := by simpa using hc
          exact hjY (by simpa using List.all_eq_true.1 hXY j hm)
      have hY' : ∀ k ∈ Y, (listed.setIfInBounds j true).getD k true = false ∧ (waitsOn ops k i = true ∨ ∃ k' ∈ Y, waitsOn ops k k' = true) := fun k hk => by
        obtain ⟨g0, g1⟩ := hY k hk
        exact ⟨by rw [getD_set_ne true (fun e => hjY (by rw [e]; exact hk))]; exact g0, g1⟩
      refine wpOp_mono (fun a' w' h3 => ?_) h2
      obtain ⟨hy', h3⟩ := h3
      rcases h3 with ⟨hx, _⟩ | ⟨hB, h3⟩
      · rw [hjx] at hx; cases hx
      refine .inr ⟨hB, fun u => ?_⟩
      refine ih (listed.setIfInBounds j true) a' ⟨u.1, next hB u.2⟩ hY' hfree' hri hy' fun u' => ?_
      rw [Array.setIfInBounds_comm _ _ hji]
      exact h3 (u.trans u')

/-- All of Y are still to come, and each waits for i, or for another of Y. -/
def waitsY (ops : Array Oper) (Y : List Nat) (listed : Array Bool) (i : Nat) : Bool := Y.all fun j => !listed.getD j true && (waitsOn ops j i || Y.any fun k => waitsOn ops j k)
theorem mildy_take (Y : List Nat) (i : Nat) {l rest : List Oper} {oi : Oper} {v : Value} {fuel : Nat} {listed : Array Bool} {a : Act} (hd : l.drop i = oi :: rest) (hs : Region.noSelect l.toArray = true) (hXY : X.all (fun j => Y.contains j) = true) (hwa : waitsY l.toArray Y listed i = true)
    (hf : Region.free .any l.toArray listed i = true) (hr : (Region.ready .any l.toArray listed).contains i = true) (hQ : ∀ c a w, Q (.panic c) (a.put oi.dst v) w → Q (.panic c) a w)
    (hw : Region.wanted oi (yielded l.toArray a.tmps) = true) (hy : ∀ (W : Up w0) (K : Act → Prop), K (a.put oi.dst v) → oi.quiet P a (fun w' => ∃ u : Up W.1, w' = u.1) K)
    (h : MildX P l.toArray Q w0 X fuel (listed.setIfInBounds i true) (a.put oi.dst v)) : MildX P l.toArray Q w0 X (fuel + 1) listed a := fun W =>
  wpAnyX_firstY hXY (of_drop hd) (Region.noSelect_spec hs) hQ fuel listed a W (fun j hj => by
    have := List.all_eq_true.1 hwa j hj
    simp only [Bool.and_eq_true, Bool.not_eq_true', Bool.or_eq_true] at this
    refine ⟨this.1, this.2.imp id fun h => ?_⟩
    obtain ⟨k, hk, h⟩ := List.any_eq_true.1 h
    exact ⟨k, hk, h⟩) (Region.free_spec (of_drop hd) hf) (by simpa using hr) (.inl ⟨hw, hy⟩) fun u => h (W.trans u)
theorem mildx_done {fuel : Nat} {listed : Array Bool} {a : Act} (hr : Region.ready .any ops listed = []) (h : ∀ W : Up w0, Q .normal a W.1) : MildX P ops Q w0 X fuel listed a := fun W => by
  cases fuel with
  | zero => exact ⟨hr, h W⟩
  | succ n => exact ⟨fun _ => h W, by rw [hr]; intro i hi; cases hi⟩
end
end Go.Proofs.Ytjdbjmfkheffdaa
end
section
namespace Go.Proofs.Ytjdbjmfkheffdaa
open Go.RowKit
set_option linter.unusedVariables false
set_option maxRecDepth 20000

def ansI (k : Int) : Int := if k = 1 then 7 else if k = 2 ∨ k = 4 ∨ k = 5 then 8 else if k = 3 ∨ k = 6 then 9 else 0
theorem request_any (k : Int) (w : World) :
    Calls Try.prog 34 #[.int .i64 k] w fun e w' => e = .returned (.bool (inB 1 k 6)) ∧ w = w' := by
  go_enter Try.func34, Try.ntmps34
  go_wp2_with (go_at_call 53; refine (pw_any _ _ _ _).mono ?_; rintro e w1 ⟨rfl, rfl⟩)
  go_ret
  exact ⟨rfl, rfl⟩
theorem ans_no {k : Int} (h : k < 1 ∨ 6 < k) : ansI k = 0 := by unfold ansI; rw [if_neg (by omega), if_neg (by omega), if_neg (by omega)]
theorem ans_yes {k : Int} (h : 1 ≤ k ∧ k ≤ 6) : 7 ≤ ansI k ∧ ansI k ≤ 9 := by unfold ansI; repeat (first | omega | split)
end Go.Proofs.Ytjdbjmfkheffdaa
end
