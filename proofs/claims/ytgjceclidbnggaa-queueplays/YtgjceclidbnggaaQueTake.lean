/- The contracts of queue's Take and Peek. Conditions: as each theorem states them. -/
import Derived.Test.YtgjceclidbnggaaQue1
namespace Go.Proofs.Ytgjceclidbnggaa
open Go.RowKit
set_option linter.unusedVariables false

set_option maxHeartbeats 600000 in
theorem take_none (w : World) {g : Nat} {M D : Nat → Prop} {room : Int} (h : Qu w g M D room []) :
    Calls Try.prog 10 #[.pointer (some ⟨g, 0, none⟩)] w fun e w' => e = .returned (.tuple #[zeroPk.val (.slice none 0 0), .bool false]) ∧ Below w.heap.size w w' := by
  go_enter Try.func10, Try.ntmps10
  go_wp2_with (go_at_call 11; refine (len_any _ (h.below (ba (Below.refl _ _)))).mono ?_; rintro e w1 ⟨rfl, rfl⟩)
  refine bodyPost_ret (v := .tuple #[zeroPk.val (.slice none 0 0), .bool false]) (by simp [results, Try.results10, go_sem, zeroPk, *]) rfl ⟨rfl, ba (Below.refl _ _)⟩
set_option maxHeartbeats 600000 in
theorem peek_none (w : World) {g : Nat} {M D : Nat → Prop} {room : Int} (h : Qu w g M D room []) :
    Calls Try.prog 16 #[.pointer (some ⟨g, 0, none⟩)] w fun e w' => e = .returned (.tuple #[zeroPk.val (.slice none 0 0), .bool false]) ∧ Below w.heap.size w w' := by
  go_enter Try.func16, Try.ntmps16
  go_wp2_with (go_at_call 11; refine (len_any _ (h.below (ba (Below.refl _ _)))).mono ?_; rintro e w1 ⟨rfl, rfl⟩)
  refine bodyPost_ret (v := .tuple #[zeroPk.val (.slice none 0 0), .bool false]) (by simp [results, Try.results16, go_sem, zeroPk, *]) rfl ⟨rfl, ba (Below.refl _ _)⟩
/-- The first packet's cells. -/
theorem QuI.first {w : World} {g : Nat} {M D : Nat → Prop} {room : Int} {x : Pk} {L : List Pk} {R : List (Pk × Value)} {a : Option Addr} {cap : Nat} (h : QuI w g M D room (x :: L) R a cap) :
    ∃ d R' b o, R = (x, d) :: R' ∧ R'.map Prod.fst = L ∧ a = some ⟨b, o, none⟩ ∧ M b ∧ b ≠ g ∧ b < w.heap.size ∧ 1 ≤ cap ∧
      (w.cell? ⟨b, o, none⟩ = some (.int .i64 x.k) ∧ w.cell? ⟨b, o + 1, none⟩ = some (.int .i64 x.f) ∧ w.cell? ⟨b, o + 2, none⟩ = some (.int .i64 x.t) ∧ w.cell? ⟨b, o + 3, none⟩ = some (.int .i64 x.i) ∧
        w.cell? ⟨b, o + 4, none⟩ = some (.int .i64 x.l) ∧ w.cell? ⟨b, o + 5, none⟩ = some (.int .i64 x.p) ∧ w.cell? ⟨b, o + 6, none⟩ = some (.int .i64 x.s) ∧ w.cell? ⟨b, o + 7, none⟩ = some (.bool x.fl) ∧ w.cell? ⟨b, o + 8, none⟩ = some d) ∧
      (∀ i, i < cap * 9 → (w.cell? ⟨b, o + i, none⟩).isSome = true ∧ w.frozen? ⟨b, o + i, none⟩ = false) ∧ (∀ i u, (pflat R')[i]? = some u → w.cell? ⟨b, o + 9 + i, none⟩ = some u) := by
  have he := h.eq
  match R, he with
  | (y, d) :: R', hq =>
    simp at hq
    obtain ⟨rfl, he2⟩ := hq
    have hle := h.row.le
    simp at hle
    rcases h.row.row with h0 | ⟨b, o, rfl, ⟨hm, hg⟩, hb, hc, hf⟩
    · omega
    · have hp := pk_at hc (i := 0) (x := y) (d := d) rfl
      simp only [Nat.zero_mul, Nat.add_zero] at hp
      refine ⟨d, R', b, o, rfl, he2, rfl, hm, hg, hb, by omega, hp, hf, fun i u hu => ?_⟩
      rw [Nat.add_assoc]
      refine hc (9 + i) u ?_
      rw [pflat_cons, List.getElem?_append_right (by simp [pcells]), show 9 + i - (pcells (y, d).1 (y, d).2).length = i by simp [pcells]]
      exact hu

/-- What Take leaves. -/
theorem QuI.took {w : World} {g : Nat} {M D : Nat → Prop} {room : Int} {x : Pk} {d : Value} {L : List Pk} {R' : List (Pk × Value)} {b o cap : Nat} (h : QuI w g M D room (x :: L) ((x, d) :: R') (some ⟨b, o, none⟩) cap)
    {o' c' n' : Nat} (hn : n' = L.length) (hc : (cap = 1 ∧ o' = o ∧ c' = 0) ∨ (¬ cap = 1 ∧ o' = o + 9 ∧ c' = cap - 1)) :
    QuI ((w.setCells b o (pcells zeroPk (.slice none 0 0))).setCell ⟨g, 1, none⟩ (.slice (some ⟨b, o', none⟩) n' c')) g M D room L R' (some ⟨b, o', none⟩) c' ∧
    Keep M w ((w.setCells b o (pcells zeroPk (.slice none 0 0))).setCell ⟨g, 1, none⟩ (.slice (some ⟨b, o', none⟩) n' c')) ∧
    Dat ((w.setCells b o (pcells zeroPk (.slice none 0 0))).setCell ⟨g, 1, none⟩ (.slice (some ⟨b, o', none⟩) n' c')) D x d := by
  subst hn
  obtain ⟨d2, R2, b2, o2, e1, he, e2, hm, hg, hb, hcap, _, hf, hcc⟩ := h.first
  simp at e1 e2
  obtain ⟨rfl, rfl⟩ := e1
  obtain ⟨rfl, rfl⟩ := e2
  have hle := h.row.le
  have hmx := h.row.max
  simp at hle
  have k1 : Keep (fun k => k = b) w (w.setCells b o (pcells zeroPk (.slice none 0 0))) := Keep.setCells (F := fun k => k = b) (b := b) (.inl rfl) _ _ _ (Keep.refl _ _)
  have hout : ∀ j, 9 ≤ j → (w.setCells b o (pcells zeroPk (.slice none 0 0))).cell? ⟨b, o + j, none⟩ = w.cell? ⟨b, o + j, none⟩ := fun j hj =>
    World.cell?_setCells_out b _ _ w ⟨b, o + j, none⟩ (fun _ _ => .inr (by simp [pcells]; omega))
  have hfr : ∀ p, (w.setCells b o (pcells zeroPk (.slice none 0 0))).frozen? p = w.frozen? p := fun p => World.frozen?_setCells b _ _ w p
  generalize w.setCells b o (pcells zeroPk (.slice none 0 0)) = w1 at *
  have k2 : Keep (fun k => k = g) w1 (w1.setCell ⟨g, 1, none⟩ (.slice (some ⟨b, o', none⟩) L.length c')) := (Keep.refl (fun k => k = g) w1).setCell (p := ⟨g, 1, none⟩) (.inl rfl) _
  have c0 : w1.cell? ⟨g, 0, none⟩ = some (.int .i64 room) := by rw [k1.cell 0 h.lt (fun e => hg e.symm)]; exact h.c0
  have c1 : w1.cell? ⟨g, 1, none⟩ = some (.slice (some ⟨b, o, none⟩) (x :: L).length cap) := by rw [k1.cell 1 h.lt (fun e => hg e.symm)]; exact h.c1
  have hdat : ∀ r ∈ (x, d) :: R', Dat (w1.setCell ⟨g, 1, none⟩ (.slice (some ⟨b, o', none⟩) L.length c')) D r.1 r.2 := fun r hr =>
    ((h.dat r hr).keep k1 (fun k hk e => h.dj k (e ▸ hm) hk)).keep k2 (fun k hk e => h.dj k (e ▸ h.mg) hk)
  refine ⟨?_, ?_, hdat (x, d) (by simp)⟩
  · constructor
    · rw [World.cell?_setCell_other _ _ _ _ (by simp)]; exact c0
    · exact World.cell?_setCell_same _ _ _ c1
    · intro q; rw [World.frozen?_setCell, hfr]; exact h.fz q
    · exact Nat.lt_of_lt_of_le h.lt (Nat.le_trans k1.size k2.size)
    · exact h.mg
    · exact he
    · have hr1 : Rw w1 (fun k => M k ∧ k ≠ g) (some ⟨b, o', none⟩) L.length c' 9 (pflat R') := by
        refine ⟨by rw [pflat_len, ← he]; simp, by omega, by omega, fun h => (by cases h), ?_⟩
        rcases hc with ⟨e1, e2, e3⟩ | ⟨e1, e2, e3⟩
        · exact .inl e3
        · subst e2; subst e3
          refine .inr ⟨b, o + 9, rfl, ⟨hm, hg⟩, Nat.lt_of_lt_of_le hb k1.size, fun i u hu => ?_, fun i hi => ?_⟩
          · rw [Nat.add_assoc, hout _ (by omega), ← Nat.add_assoc]; exact hcc i u hu
          · rw [Nat.add_assoc, hout _ (by omega), hfr]; exact hf (9 + i) (by omega)
      exact hr1.keep k2 (fun k hk => hk.2)
    · exact fun r hr => hdat r (by simp [hr])
    · exact fun k hk => Nat.lt_of_lt_of_le (h.old k hk) (Nat.le_trans k1.size k2.size)
    · exact h.dj
  · exact (k1.mono (fun k _ e => e ▸ hm)).trans k2 (fun k _ e => e ▸ h.mg)

set_option maxHeartbeats 600000 in
theorem take_some (w : World) {g : Nat} {M D : Nat → Prop} {room : Int} {x : Pk} {L : List Pk} (h : Qu w g M D room (x :: L)) :
    Calls Try.prog 10 #[.pointer (some ⟨g, 0, none⟩)] w fun e w' => ∃ d, e = .returned (.tuple #[x.val d, .bool true]) ∧ Keep M w w' ∧ Dat w' D x d ∧ Qu w' g M D room L := by
  have hlen := fun w1 (hb : Below w.heap.size w w1) => len_any w1 (h.below hb)
  obtain ⟨R, a, cap, h⟩ := h
  obtain ⟨d, R', b, o, rfl, he, rfl, hm, hg, hb, hcap, ⟨e0, e1, e2, e3, e4, e5, e6, e7, e8⟩, hf, hc⟩ := h.first
  have hfz : ∀ i, i < 9 → w.frozen? ⟨b, o + i, none⟩ = false := fun i hi => (hf i (by omega)).2
  have f0 := hfz 0 (by omega)
  have f1 := hfz 1 (by omega)
  have f2 := hfz 2 (by omega)
  have f3 := hfz 3 (by omega)
  have f4 := hfz 4 (by omega)
  have f5 := hfz 5 (by omega)
  have f6 := hfz 6 (by omega)
  have f7 := hfz 7 (by omega)
  have f8 := hfz 8 (by omega)
  rw [Nat.add_zero] at f0
  obtain ⟨ad, nd, cd, rfl, hsd, hnd, hdd⟩ := h.dat (x, d) (by simp)
  have c1 := h.c1
  have fz := h.fz
  have glt := h.lt
  have hmx := h.row.max
  have hle := h.row.le
  have HL : Hid ((x :: L).length = L.length + 1) := rfl
  generalize (x :: L).length = N at *
  have hne : ((N : Int) == 0) = false := by have := HL.out; simp; omega
  have hN : (1 : Int) ≤ N := by have := HL.out; omega
  have hN' : 1 ≤ N := by have := HL.out; omega
  unfold maxLen at hmx
  clear hfz hf hc hsd hdd he hcap
  have HQ : Hid (QuI w g M D room (x :: L) ((x, .slice ad nd cd) :: R') (some ⟨b, o, none⟩) cap) := h
  clear h
  go_enter Try.func10, Try.ntmps10
  go_wp2_with (go_at_call 11; refine (hlen _ (ba (Below.refl _ _))).mono ?_; rintro e w1 ⟨rfl, rfl⟩)
  · refine bodyPost_ret (v := .tuple #[x.val (.slice ad nd cd), .bool true]) (by simp [results, Try.results10, go_sem]) rfl ⟨_, rfl, ?_⟩
    obtain ⟨q1, q2, q3⟩ := QuI.took HQ.out (o' := o) (c' := 0) (n' := N - 1) (by have := HL.out; omega) (.inl ⟨by assumption, rfl, rfl⟩)
    exact ⟨q2.next (ba (ba (Below.refl _ _))), q3.below (ba (ba (Below.refl _ _))), Qu.below ⟨_, _, _, q1⟩ (ba (ba (Below.refl _ _)))⟩
  · refine bodyPost_ret (v := .tuple #[x.val (.slice ad nd cd), .bool true]) (by simp [results, Try.results10, go_sem]) rfl ⟨_, rfl, ?_⟩
    obtain ⟨q1, q2, q3⟩ := QuI.took HQ.out (o' := o + 9) (c' := cap - 1) (n' := N - 1) (by have := HL.out; omega) (.inr ⟨by assumption, rfl, rfl⟩)
    exact ⟨q2.next (ba (ba (Below.refl _ _))), q3.below (ba (ba (Below.refl _ _))), Qu.below ⟨_, _, _, q1⟩ (ba (ba (Below.refl _ _)))⟩

set_option maxHeartbeats 600000 in
theorem peek_some (w : World) {g : Nat} {M D : Nat → Prop} {room : Int} {x : Pk} {L : List Pk} (h : Qu w g M D room (x :: L)) :
    Calls Try.prog 16 #[.pointer (some ⟨g, 0, none⟩)] w fun e w' => ∃ d, e = .returned (.tuple #[x.val d, .bool true]) ∧ Below w.heap.size w w' ∧ Own w' w.heap.size d x.z := by
  have hlen := fun w1 (hb : Below w.heap.size w w1) => len_any w1 (h.below hb)
  obtain ⟨R, a, cap, h⟩ := h
  obtain ⟨d, R', b, o, rfl, he, rfl, hm, hg, hb, hcap, ⟨e0, e1, e2, e3, e4, e5, e6, e7, e8⟩, hf, hc⟩ := h.first
  obtain ⟨ad, nd, cd, rfl, hsd, hnd, hdd⟩ := h.dat (x, d) (by simp)
  have c1 := h.c1
  have glt := h.lt
  have hmx := h.row.max
  have hle := h.row.le
  have HL : Hid ((x :: L).length = L.length + 1) := rfl
  generalize (x :: L).length = N at *
  have hne : ((N : Int) == 0) = false := by have := HL.out; simp; omega
  have hN : (1 : Int) ≤ N := by have := HL.out; omega
  have hN0 : (0 : Int) < N := by have := HL.out; omega
  have hN' : 1 ≤ N := by have := HL.out; omega
  unfold maxLen at hmx
  clear hf hc hdd he hcap h
  go_enter Try.func16, Try.ntmps16
  go_wp2_with (first
    | (go_at_call 11; refine (hlen _ (ba (Below.refl _ _))).mono ?_; rintro e w1 ⟨rfl, rfl⟩)
    | (go_at_call 21; refine (alone_any x ad nd cd _ (hsd.below (ba (Below.refl _ _))) hnd).mono ?_; rintro e w2 ⟨v2, rfl, hown2, hb2⟩; obtain ⟨a2, c2, rfl, hs2⟩ := hown2.sl' hsd.len; clear hs2; have bx := (Bx.made w zeroPk (.slice none 0 0)).next hb2; obtain ⟨q0, q1, q2, q3, q4, q5, q6, q7, q8, qf, ql⟩ := bx; simp only [zeroPk] at q0 q1 q2 q3 q4 q5 q6 q7 q8))
  refine bodyPost_ret (v := .tuple #[x.val (.slice a2 nd c2), .bool true]) (by simp [results, Try.results16, go_sem, *]) rfl ⟨_, rfl, ?_, ?_⟩
  · exact far9 (g := w.heap.size) (y := x) (v := .slice a2 nd c2) (W := w2) (P := fun V => Below w.heap.size w V) (fun V o u h => h.setCell (by simp) u) (next (ba (Below.refl _ _)) hb2)
  · refine Own.low (base := w.heap.size + 1) ?_ (by omega)
    exact far9 (g := w.heap.size) (y := x) (v := .slice a2 nd c2) (W := w2) (P := fun V => Own V (w.heap.size + 1) (.slice a2 nd c2) x.z) (fun V o u h => h.set (by simp) u) (by simpa using hown2)
end Go.Proofs.Ytgjceclidbnggaa
