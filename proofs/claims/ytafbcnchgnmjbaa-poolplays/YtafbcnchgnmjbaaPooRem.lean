/- The contract of pool's Remove. Conditions: as each theorem states them. -/
import Derived.Test.YtafbcnchgnmjbaaPooGet
import Derived.Test.YtafbcnchgnmjbaaPooDel
namespace Go.Proofs.Ytafbcnchgnmjbaa
open Go.RowKit
set_option linter.unusedVariables false
/-- What Remove leaves. -/
theorem QuI.removed {w w3 : World} {g : Nat} {M D : Nat → Prop} {room : Int} {x : Pk} {d : Value} {L : List Pk} {R : List (Pk × Value)} {b o cap k : Nat} (h : QuI w g M D room L R (some ⟨b, o, none⟩) cap) (hk : k < L.length) (hR : R[k]? = some (x, d)) (hm : M b) (hg : b ≠ g)
    (hr : Rw w3 (fun k => M k ∧ k ≠ g) (some ⟨b, o, none⟩) (L.length - 1) cap 9 (pflat (R.eraseIdx k))) (k3 : Keep (fun j => j = b) w w3) :
    QuI (w3.setCell ⟨g, 1, none⟩ (.slice (some ⟨b, o, none⟩) (L.length - 1) cap)) g M D room (L.eraseIdx k) (R.eraseIdx k) (some ⟨b, o, none⟩) cap ∧
    Keep M w (w3.setCell ⟨g, 1, none⟩ (.slice (some ⟨b, o, none⟩) (L.length - 1) cap)) ∧ Dat (w3.setCell ⟨g, 1, none⟩ (.slice (some ⟨b, o, none⟩) (L.length - 1) cap)) D x d := by
  have k4 := Keep.one w3 g 1 (.slice (some ⟨b, o, none⟩) (L.length - 1) cap)
  have c1 : w3.cell? ⟨g, 1, none⟩ = some (.slice (some ⟨b, o, none⟩) L.length cap) := by rw [k3.cell 1 h.lt (fun e => hg e.symm)]; exact h.c1
  have hlen : (L.eraseIdx k).length = L.length - 1 := List.length_eraseIdx_of_lt hk
  have hdat : ∀ r ∈ R, Dat (w3.setCell ⟨g, 1, none⟩ (.slice (some ⟨b, o, none⟩) (L.length - 1) cap)) D r.1 r.2 := fun r hr =>
    ((h.dat r hr).keep k3 (fun k hk e => h.dj k (e ▸ hm) hk)).keep k4 (fun k hk e => h.dj k (e ▸ h.mg) hk)
  refine ⟨?_, ?_, hdat (x, d) (List.mem_of_getElem? hR)⟩
  · constructor
    · rw [World.cell?_setCell_other _ _ _ _ (by simp), k3.cell 0 h.lt (fun e => hg e.symm)]; exact h.c0
    · rw [hlen]; exact World.cell?_setCell_same _ _ _ c1
    · intro q; rw [World.frozen?_setCell, k3.frozen q h.lt (fun e => hg e.symm)]; exact h.fz q
    · exact Nat.lt_of_lt_of_le h.lt (Nat.le_trans k3.size k4.size)
    · exact h.mg
    · rw [← h.eq]; exact (map_eraseIdx' _ R k)
    · rw [hlen]; exact hr.keep k4 (fun k hk => hk.2)
    · exact fun r hr => hdat r (List.mem_of_mem_eraseIdx hr)
    · exact fun k hk => Nat.lt_of_lt_of_le (h.old k hk) (Nat.le_trans k3.size k4.size)
    · exact h.dj
  · exact (k3.mono (fun k _ e => e ▸ hm)).trans k4 (fun k _ e => e ▸ h.mg)
namespace P

set_option maxHeartbeats 600000 in
theorem remove_none (w : World) {g : Nat} {M D : Nat → Prop} {room : Int} {L : List Pk} (h : Qu w g M D room L) (at' : Int) (h0 : ¬ (0 ≤ at' ∧ at' < L.length)) :
    Calls Try.prog 11 #[.pointer (some ⟨g, 0, none⟩), .int .i64 at'] w fun e w' => e = .returned (.tuple #[zeroPk.val (.slice none 0 0), .bool false]) ∧ Below w.heap.size w w' := by
  have H0 : Hid (¬ (0 ≤ at' ∧ at' < L.length)) := h0
  clear h0
  go_enter Try.func11, Try.ntmps11
  go_wp2_with (go_at_call 22; refine (has_no _ (h.below (ba (Below.refl _ _))) at' H0.out).mono ?_; rintro e w1 ⟨rfl, rfl⟩)
  refine bodyPost_ret (v := .tuple #[zeroPk.val (.slice none 0 0), .bool false]) (by simp [results, Try.results11, go_sem, zeroPk, *]) rfl ⟨rfl, ba (Below.refl _ _)⟩
set_option maxHeartbeats 600000 in
theorem remove_some (w : World) {g : Nat} {M D : Nat → Prop} {room : Int} {L : List Pk} (h : Qu w g M D room L) (k : Nat) (x : Pk) (hx : L[k]? = some x) (at' : Int) (hat : at' = (k : Int)) :
    Calls Try.prog 11 #[.pointer (some ⟨g, 0, none⟩), .int .i64 at'] w fun e w' => ∃ d, e = .returned (.tuple #[x.val d, .bool true]) ∧ Keep M w w' ∧ Dat w' D x d ∧ Qu w' g M D room (L.eraseIdx k) := by
  subst hat
  have hk : k < L.length := (List.getElem?_eq_some_iff.1 hx).1
  have hhas := fun w1 (hb : Below w.heap.size w w1) => has_yes w1 (h.below hb) (k : Int) (by omega) (by omega)
  obtain ⟨R, a, cap, h⟩ := h
  obtain ⟨x', d, b, o, hx', hR, hdat, rfl, hm, hb, ⟨e0, e1, e2, e3, e4, e5, e6, e7, e8⟩, _⟩ := h.prow.get hk
  obtain rfl : x' = x := by rw [hx] at hx'; exact (Option.some.inj hx').symm
  obtain ⟨ad, nd, cd, rfl, hsd, hnd, hdd⟩ := hdat
  have c1 := h.c1
  have fz1 := h.fz 1
  have glt := h.lt
  have hmx := h.row.max
  have hle := h.row.le
  have hRl : Hid (R.length = L.length) := by show _ = _; rw [← h.eq]; simp
  have hone : Hid (∀ r ∈ R, r.2.oneCell' = true) := fun r hr => (h.dat r hr).one
  unfold maxLen at hmx
  have hk1 : (k : Int) < (L.length : Int) := by omega
  have hbg := hm.2
  have hbw : w.heap.size ≠ b := by omega
  have hbw1 : w.heap.size + 1 ≠ b := by omega
  have hgb : g ≠ b := Ne.symm hbg
  have HM : Hid (M b ∧ b ≠ g) := hm
  have HQ : Hid (QuI w g M D room L R (some ⟨b, o, none⟩) cap) := h
  have HR : Hid (R[k]? = some (x', .slice ad nd cd)) := hR
  have HK : Hid (k < L.length) := hk
  clear hdd h hx hx' hR hm hsd
  generalize hN : L.length = N at *
  have HN : Hid (L.length = N) := hN
  clear hN
  go_enter Try.func11, Try.ntmps11
  go_wp2_with (first
    | (go_at_call 22; refine (hhas _ (ba (Below.refl _ _))).mono ?_; rintro e w1 ⟨rfl, rfl⟩)
    | (go_at_call 23; have hb2 := ba (o := .cells #[.int .i64 x'.k, .int .i64 x'.f, .int .i64 x'.t, .int .i64 x'.i, .int .i64 x'.l, .int .i64 x'.p, .int .i64 x'.s, .bool x'.fl, .slice ad nd cd] 29) (ba (o := .cells #[.int .i64 0, .int .i64 0, .int .i64 0, .int .i64 0, .int .i64 0, .int .i64 0, .int .i64 0, .bool false, .slice none 0 0] 29) (Below.refl w.heap.size w)); have qi := HQ.out.keep (F := fun _ => False) (Keep.of_below hb2) (fun _ _ h => h); have r2 := qi.row; rw [HN.out] at r2; refine (delete_one _ r2 hRl.out HK.out hone.out _ (by simp)).mono ?_; rintro e w3 ⟨rfl, hrw3, hk3⟩; have bx1 := ((Bx.made w zeroPk (.slice none 0 0)).next (ba (Below.refl _ _))).keep hk3 hbw; have bx2 := (Bx.made' _ x' (.slice ad nd cd) (w.heap.size + 1) (by simp)).keep hk3 hbw1; obtain ⟨p0, p1, p2, p3, p4, p5, p6, p7, p8, pf, pl⟩ := bx1; obtain ⟨q0, q1, q2, q3, q4, q5, q6, q7, q8, qf, ql⟩ := bx2; simp only [zeroPk] at p0 p1 p2 p3 p4 p5 p6 p7 p8; have c3 : w3.cell? ⟨g, 1, none⟩ = some (.slice (some ⟨b, o, none⟩) N cap) := (by rw [hk3.cell 1 (Nat.lt_of_lt_of_le glt hb2.size) hgb, hb2.cell (p := ⟨g, 1, none⟩) glt]; exact c1); have f3 : w3.frozen? ⟨g, 1, none⟩ = false := (by rw [hk3.frozen 1 (Nat.lt_of_lt_of_le glt hb2.size) hgb, hb2.frozen (p := ⟨g, 1, none⟩) glt]; exact fz1)))
  refine bodyPost_ret (v := .tuple #[x'.val (.slice ad nd cd), .bool true]) (by simp [results, Try.results11, go_sem, *]) rfl ⟨_, rfl, ?_⟩
  obtain rfl := HN.out
  obtain ⟨j1, j2, j3⟩ := QuI.removed qi HK.out HR.out HM.out.1 HM.out.2 hrw3 hk3
  have old := HQ.out.old
  exact far9 (g := w.heap.size) (y := x') (v := .slice ad nd cd) (W := w3.setCell ⟨g, 1, none⟩ (.slice (some ⟨b, o, none⟩) (L.length - 1) cap)) (P := fun V => Keep M w V ∧ Dat V D x' (.slice ad nd cd) ∧ Qu V g M D room (L.eraseIdx k))
    (fun V of u h => ⟨h.1.setCell (.inr (Nat.le_refl _)) u, h.2.1.keep (Keep.one V w.heap.size of u) (fun k hk e => by have := old k (.inr hk); omega), h.2.2.keep (Keep.one V w.heap.size of u) (fun k hk e => by have := old k hk; omega)⟩)
    ⟨Keep.pre hb2 j2, j3, ⟨_, _, _, j1⟩⟩
end P
end Go.Proofs.Ytafbcnchgnmjbaa
