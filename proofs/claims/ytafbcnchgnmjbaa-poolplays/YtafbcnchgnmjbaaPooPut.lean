/- The contract of pool's Put. Conditions: as each theorem states them. -/
import Derived.Test.YtafbcnchgnmjbaaPoo1
namespace Go.Proofs.Ytafbcnchgnmjbaa
open Go.RowKit
set_option linter.unusedVariables false
namespace P

set_option maxHeartbeats 600000 in
theorem put_full (w : World) {g : Nat} {M D : Nat → Prop} {room : Int} {L : List Pk} (h : Qu w g M D room L) (x : Pk) (a : Option Addr) (n cap : Nat) (h0 : 0 ≤ room) (h1 : room ≤ 1000000000) (hr : (L.length : Int) = room) :
    Calls Try.prog 9 #[.pointer (some ⟨g, 0, none⟩), x.val (.slice a n cap)] w fun e w' => e = .returned (.int .i64 5) ∧ Below w.heap.size w w' := by
  have he : (room - (L.length : Int) == 0) = true := by simp; omega
  clear hr
  unfold Pk.val
  go_enter Try.func9, Try.ntmps9
  go_wp2_with (go_at_call 13; refine (room_any _ (h.below (ba (Below.refl _ _))) h0 h1).mono ?_; rintro e w1 ⟨rfl, k1, rfl⟩)
  go_ret
  exact ⟨rfl, next (ba (Below.refl _ _)) (below_dn _ _)⟩
set_option maxHeartbeats 600000 in
theorem put_ok (w : World) {g : Nat} {M D : Nat → Prop} {room : Int} {L : List Pk} (h : Qu w g M D room L) (x : Pk) (a : Option Addr) (n cap : Nat) (hsl : Sl w a n cap x.z) (hn : n ≤ 17592186044416) (h0 : 0 ≤ room) (h1 : room ≤ 1000000000) (hr : (L.length : Int) < room) :
    Calls Try.prog 9 #[.pointer (some ⟨g, 0, none⟩), x.val (.slice a n cap)] w fun e w' => e = .returned (.int .i64 0) ∧ Keep M w w' ∧
      ∃ M' D', Qu w' g M' D' room (L ++ [x]) ∧ (∀ k, M' k → M k ∨ w.heap.size ≤ k) ∧ (∀ k, D' k → D k ∨ w.heap.size ≤ k) := by
  have he : (room - (L.length : Int) == 0) = false := by simp; omega
  have HR : Hid ((L.length : Int) < room) := hr
  clear hr
  unfold Pk.val
  go_enter Try.func9, Try.ntmps9
  go_wp2_with (go_at_call 13; refine (room_any _ (h.below (ba (Below.refl _ _))) h0 h1).mono ?_; rintro e w1 ⟨rfl, k1, rfl⟩)
  have bx := (Bx.made w x (.slice a n cap)).next (below_dn _ k1)
  have B1 : Below w.heap.size w ((w.alloc (.cells #[.int .i64 x.k, .int .i64 x.f, .int .i64 x.t, .int .i64 x.i, .int .i64 x.l, .int .i64 x.p, .int .i64 x.s, .bool x.fl, .slice a n cap] 29)).drewN k1) := next (ba (Below.refl _ _)) (below_dn _ _)
  have lt0 : ∀ k, M k ∨ D k → k < w.heap.size := h.old
  have h' := h.below B1
  have hsl' := hsl.below B1
  clear h hsl
  generalize (w.alloc (.cells #[.int .i64 x.k, .int .i64 x.f, .int .i64 x.t, .int .i64 x.i, .int .i64 x.l, .int .i64 x.p, .int .i64 x.s, .bool x.fl, .slice a n cap] 29)).drewN k1 = W at *
  refine wp_region_orders 12 rfl (by kernel_rfl) ?_
  have hd : Below W.heap.size W W.drew := (Below.refl _ _).drew
  replace bx := bx.next hd
  replace B1 := next B1 hd
  replace h' := h'.below hd
  replace hsl' := hsl'.below hd
  clear hd
  generalize W.drew = w1 at *
  obtain ⟨R, aq, cq, hq⟩ := h'
  obtain ⟨b0, b1, b2, b3, b4, b5, b6, b7, b8, bf, bl⟩ := bx
  have bx : Bx w1 w.heap.size x (.slice a n cap) := ⟨b0, b1, b2, b3, b4, b5, b6, b7, b8, bf, bl⟩
  have c1 := hq.c1
  have lt := hq.lt
  have uc := @Up.cell2
  have uf := @Up.frozen2
  refine any_take 0 (.pointer (some ⟨g, 0, none⟩)) rfl (by kernel_rfl) (by kernel_rfl) (by kernel_rfl) (fun _ _ _ h => h) (by kernel_rfl) (fun w => by go_simp) ?_
  simp only [Act.put, List.setIfInBounds_toArray, List.set_cons_zero, List.set_cons_succ]
  refine any_take 1 (.pointer (some ⟨g, 0, none⟩)) rfl (by kernel_rfl) (by kernel_rfl) (by kernel_rfl) (fun _ _ _ h => h) (by kernel_rfl) (fun w => by go_simp) ?_
  simp only [Act.put, List.setIfInBounds_toArray, List.set_cons_zero, List.set_cons_succ]
  refine any_take 2 (.pointer (some ⟨g, 0, none⟩)) rfl (by kernel_rfl) (by kernel_rfl) (by kernel_rfl) (fun _ _ _ h => h) (by kernel_rfl) (fun w => by go_simp) ?_
  simp only [Act.put, List.setIfInBounds_toArray, List.set_cons_zero, List.set_cons_succ]
  refine any_take 3 (.pointer (some ⟨g, 1, none⟩)) rfl (by kernel_rfl) (by kernel_rfl) (by kernel_rfl) (fun _ _ _ h => h) (by kernel_rfl) (fun w => by go_simp) ?_
  simp only [Act.put, List.setIfInBounds_toArray, List.set_cons_zero, List.set_cons_succ]
  refine any_mildx [8, 9, 10, 11] ?_
  refine mildx_take (v := ?v1) 4 rfl (by kernel_rfl) (by kernel_rfl) (by kernel_rfl) (by kernel_rfl) (fun _ _ _ h => h) (by kernel_rfl) (fun Wu K hK => ?hy1) ?go1
  case hy1 =>
    go_big_quiet_op
    simp only [Act.put, List.setIfInBounds_toArray, List.set_cons_zero, List.set_cons_succ] at hK
    exact hK
  simp only [Act.put, List.setIfInBounds_toArray, List.set_cons_zero, List.set_cons_succ]
  intro W
  clear uc uf
  have hW := W.2
  have hsl2 := hsl'.below hW
  have hqW := hq.keep (F := fun _ => False) (Keep.of_below hW) (fun _ _ h => h)
  have bxW := bx.next hW
  clear b0 b1 b2 b3 b4 b5 b6 b7 b8 bf bl bx c1 lt
  obtain ⟨b0, b1, b2, b3, b4, b5, b6, b7, b8, bf, bl⟩ := bxW
  generalize W.1 = wa at *
  refine upx_list 5 (by kernel_rfl) rfl ?_
  go_wp2
  refine ⟨hW, fun u => ?_⟩
  replace hsl2 := hsl2.below u.2
  replace hW := next hW u.2
  clear b0 b1 b2 b3 b4 b5 b6 b7 b8 bf bl hqW
  generalize u.1 = wb at *
  have hz2 := hW.size
  refine upx_list 6 (by kernel_rfl) rfl ?_
  go_wp2_with (go_at_call 21; refine (alone_any x a n cap _ hsl2 hn).mono ?_; rintro e w2 ⟨v2, rfl, hown2, hb2⟩; obtain ⟨a2, c2, rfl, hs2⟩ := hown2.sl' hsl2.len; clear hs2)
  refine ⟨next hW hb2, fun u => ?_⟩
  replace hW := next hW (next hb2 u.2)
  have dat3 := (dat_own hown2 (by have := hsl2.len; omega)).below u.2
  clear hown2 hb2
  generalize u.1 = w3 at *
  refine upx_list 7 (by kernel_rfl) rfl ?_
  go_wp2
  refine ⟨next hW (ba (Below.refl _ _)), fun u => ?_⟩
  have bx := (Bx.made w3 x (.slice a2 n c2)).next u.2
  replace dat3 := dat3.below (next (ba (Below.refl _ _)) u.2)
  replace hW := next hW (next (ba (Below.refl _ _)) u.2)
  generalize u.1 = w4 at *
  generalize w3.heap.size = bs at *
  have dat4 : Dat w4 (fun k => D k ∨ (wb.heap.size ≤ k ∧ k < w4.heap.size)) x (.slice a2 n c2) := dat3.imp (fun k hk h => .inr ⟨h, hk⟩)
  have q4 := hq.keep (F := fun _ => False) (Keep.of_below hW) (fun _ _ h => h)
  have hz1 := B1.size
  have hz4 := hW.size
  replace B1 := next B1 hW
  have ltm : ∀ k, M k → k < w.heap.size := fun k h => lt0 k (.inl h)
  have ltd : ∀ k, D k → k < w.heap.size := fun k h => lt0 k (.inr h)
  have glt := ltm g q4.mg
  clear hq dat3 hsl' hsl2 W hW lt0
  obtain ⟨i0, hi, hp0, hp1, hp2⟩ := info_parts Try.infoPk
  have hlen : L.length ≤ 1000000000 := by have := HR.out; omega
  have news : ∀ j u, (pcells x (.slice a2 n c2))[j]? = some u → w4.cell? ((⟨bs, 0, none⟩ : Addr).add j) = some u := by
    intro j u hu
    rw [Addr.add_lit, Nat.zero_add]
    have hj : j < 9 := (List.getElem?_eq_some_iff.1 hu).1
    obtain ⟨b0, b1, b2, b3, b4, b5, b6, b7, b8, _, _⟩ := bx
    match j, hj with
    | 0, _ => rw [b0]; exact hu
    | 1, _ => rw [b1]; exact hu
    | 2, _ => rw [b2]; exact hu
    | 3, _ => rw [b3]; exact hu
    | 4, _ => rw [b4]; exact hu
    | 5, _ => rw [b5]; exact hu
    | 6, _ => rw [b6]; exact hu
    | 7, _ => rw [b7]; exact hu
    | 8, _ => rw [b8]; exact hu
  refine upx_write 8 (by kernel_rfl) (by kernel_rfl) rfl ?_
  refine wpList_append_rw w4 (fun k => M k ∧ k ≠ g) (by kernel_rfl) (.tmp 12) (.tmp 15) 38 rfl 29 i0 (zeroPk.val (.slice none 0 0)) 9 88 Try.underlying38 hi hp0 hp1 hp2 rfl (by decide) aq L.length cq (pflat R) rfl q4.row ⟨bs, 0, none⟩ 1 1 (pcells x (.slice a2 n c2)) rfl (by omega) (by rfl) news (pcells_one (by rfl)) (by unfold maxLen; omega) (by omega) ?_
  intro a5 c5 w5 hrw5 hk5
  refine then_n ?_
  simp only [Act.put, List.setIfInBounds_toArray, List.set_cons_zero, List.set_cons_succ]
  refine any_take 9 (.pointer (some ⟨g, 0, none⟩)) rfl (by kernel_rfl) (by kernel_rfl) (by kernel_rfl) (fun _ _ _ h => h) (by kernel_rfl) (fun w => by go_simp) ?_
  simp only [Act.put, List.setIfInBounds_toArray, List.set_cons_zero, List.set_cons_succ]
  refine any_take 10 (.pointer (some ⟨g, 1, none⟩)) rfl (by kernel_rfl) (by kernel_rfl) (by kernel_rfl) (fun _ _ _ h => h) (by kernel_rfl) (fun w => by go_simp) ?_
  simp only [Act.put, List.setIfInBounds_toArray, List.set_cons_zero, List.set_cons_succ]
  have nS : ¬ (M g ∧ g ≠ g) := fun h => h.2 rfl
  have c5g : w5.cell? ⟨g, 1, none⟩ = some (.slice aq L.length cq) := by rw [hk5.cell 1 q4.lt nS]; exact q4.c1
  have f5g : w5.frozen? ⟨g, 1, none⟩ = false := by rw [hk5.frozen 1 q4.lt nS]; exact q4.fz 1
  refine any_list 11 (by kernel_rfl) rfl ?_
  go_wp2
  refine then_n ?_
  refine any_done (by kernel_rfl) ?_
  go_wp2
  go_ret
  have hz5 := hk5.size
  have k6 : Keep (fun k => k = g) w5 (w5.setCell ⟨g, 1, none⟩ (.slice a5 (L.length + 1) c5)) := (Keep.refl (fun k => k = g) w5).setCell (p := ⟨g, 1, none⟩) (.inl rfl) _
  refine ⟨rfl, ?_, fun k => M k ∨ (w4.heap.size ≤ k ∧ k < w5.heap.size), fun k => D k ∨ (wb.heap.size ≤ k ∧ k < w4.heap.size), ⟨R ++ [(x, .slice a2 n c2)], a5, c5, ?_⟩, fun k h => h.imp id (fun h => by omega), fun k h => h.imp id (fun h => by omega)⟩
  · exact ((Keep.of_below B1).trans hk5 (fun k _ h => h.1)).setCell (.inl q4.mg) _
  · constructor
    · rw [World.cell?_setCell_other _ _ _ _ (by simp), hk5.cell 0 q4.lt nS]; exact q4.c0
    · rw [show (L ++ [x]).length = L.length + 1 from (by simp)]; clear news bx dat4 hrw5; go_simp
    · intro o; rw [World.frozen?_setCell, hk5.frozen o q4.lt nS]; exact q4.fz o
    · simpa using Nat.lt_of_lt_of_le q4.lt hk5.size
    · exact .inl q4.mg
    · rw [List.map_append, q4.eq]; rfl
    · have e : (L ++ [x]).length = L.length + 1 := by simp
      rw [e, pflat_append, pflat_one]
      refine (hrw5.imp (T := fun k => (M k ∨ (w4.heap.size ≤ k ∧ k < w5.heap.size)) ∧ k ≠ g) (fun k hk h => ?_)).keep k6 (fun k h => h.2)
      rcases h with ⟨h1, h2⟩ | h
      · exact ⟨.inl h1, h2⟩
      · exact ⟨.inr ⟨h, hk⟩, by omega⟩
    · intro r hr
      have hdat : Dat w4 (fun k => D k ∨ (wb.heap.size ≤ k ∧ k < w4.heap.size)) r.1 r.2 := by
        rcases List.mem_append.1 hr with hr | hr
        · exact (q4.dat r hr).imp (fun k _ h => .inl h)
        · rw [List.mem_singleton] at hr; subst hr; exact dat4
      have hdj : ∀ k, D k ∨ (wb.heap.size ≤ k ∧ k < w4.heap.size) → ¬ M k := fun k h hm => by
        rcases h with h | h
        · exact q4.dj k hm h
        · have := ltm k hm; omega
      exact (hdat.keep hk5 (fun k h hm => hdj k h hm.1)).keep k6 (fun k h e => hdj k h (e ▸ q4.mg))
    · intro k h
      have e : (w5.setCell ⟨g, 1, none⟩ (.slice a5 (L.length + 1) c5)).heap.size = w5.heap.size := by simp
      rw [e]
      rcases h with (h | h) | (h | h)
      · have := ltm k h; omega
      · omega
      · have := ltd k h; omega
      · omega
    · intro k h h'
      rcases h with h | h <;> rcases h' with h' | h'
      · exact q4.dj k h h'
      · have := ltm k h; omega
      · have := ltd k h'; omega
      · omega
end P
end Go.Proofs.Ytafbcnchgnmjbaa
