/- The document's cache: Put. Conditions: as each theorem states them. -/
import Derived.Test.YtfobgkkmbacfjaaCaRef4
namespace Go.Proofs.Ytfobgkkmbacfjaa
open Go.RowKit
set_option linter.unusedVariables false
set_option maxRecDepth 20000
namespace CR

set_option maxHeartbeats 400000 in
theorem put_neg {w : World} {g : Nat} (x : En) (a : Option Addr) (n cap : Nat) (hx : x.n < 0) :
    Calls Try.prog 14 #[.pointer (some ⟨g, 0, none⟩), x.val (.slice a n cap)] w fun e w' => e = .returned (.int .i64 1) ∧ Below w.heap.size w w' := by
  go_enter Try.func14, Try.ntmps14
  go_wp2_with fail
  go_ret
  exact ⟨rfl, ba (Below.refl _ _)⟩
/-- An entry in its place, its words elsewhere. -/
theorem put_in {w : World} {g : Nat} {M D E : Nat → Prop} {S W k : Int} {L : List En} {R : List (En × Value)} {b o cap i : Nat} {y : En} {v : Value} (h : CaI w g M D S W k L R (some ⟨b, o, none⟩) cap) (hi : i < L.length) (hd : DatZ w E y.z v) (hE : ∀ k, E k → ¬ M k) (hE2 : ∀ k, E k → k < w.heap.size) :
    CaI ((((((w.setCell ⟨b, o + i * 6, none⟩ (.int .i64 y.f)).setCell ⟨b, o + i * 6 + 1, none⟩ (.int .i64 y.b)).setCell ⟨b, o + i * 6 + 2, none⟩ (.int .i64 y.n)).setCell ⟨b, o + i * 6 + 3, none⟩ (.int .i64 y.u)).setCell ⟨b, o + i * 6 + 4, none⟩ (.bool y.q)).setCell ⟨b, o + i * 6 + 5, none⟩ v) g M (fun k => D k ∨ E k) S W k (L.set i y) (R.set i (y, v)) (some ⟨b, o, none⟩) cap ∧ Keep M w ((((((w.setCell ⟨b, o + i * 6, none⟩ (.int .i64 y.f)).setCell ⟨b, o + i * 6 + 1, none⟩ (.int .i64 y.b)).setCell ⟨b, o + i * 6 + 2, none⟩ (.int .i64 y.n)).setCell ⟨b, o + i * 6 + 3, none⟩ (.int .i64 y.u)).setCell ⟨b, o + i * 6 + 4, none⟩ (.bool y.q)).setCell ⟨b, o + i * 6 + 5, none⟩ v) := by
  obtain ⟨_, _, b', o', _, _, _, e, hmb, hb, _⟩ := h.row.get hi
  simp at e
  obtain ⟨rfl, rfl⟩ := e
  have hbg : b ≠ g := hmb.2
  have row := h.row.put hi hd (fun k he hm => hE k he hm.1)
  have k1 : ∀ (F : Nat → Prop), F b → ∀ (V : World) (o : Nat) (u : Value), Keep F w V → Keep F w (V.setCell ⟨b, o, none⟩ u) := fun F hF V o u h => h.setCell (p := ⟨b, o, none⟩) (.inl hF) u
  have kk : ∀ F : Nat → Prop, F b → Keep F w ((((((w.setCell ⟨b, o + i * 6, none⟩ (.int .i64 y.f)).setCell ⟨b, o + i * 6 + 1, none⟩ (.int .i64 y.b)).setCell ⟨b, o + i * 6 + 2, none⟩ (.int .i64 y.n)).setCell ⟨b, o + i * 6 + 3, none⟩ (.int .i64 y.u)).setCell ⟨b, o + i * 6 + 4, none⟩ (.bool y.q)).setCell ⟨b, o + i * 6 + 5, none⟩ v) := fun F hF => k1 F hF _ _ _ (k1 F hF _ _ _ (k1 F hF _ _ _ (k1 F hF _ _ _ (k1 F hF _ _ _ (k1 F hF _ _ _ (Keep.refl _ w))))))
  have K := kk (fun j => j = b) rfl
  have far : ∀ j, World.cell? ((((((w.setCell ⟨b, o + i * 6, none⟩ (.int .i64 y.f)).setCell ⟨b, o + i * 6 + 1, none⟩ (.int .i64 y.b)).setCell ⟨b, o + i * 6 + 2, none⟩ (.int .i64 y.n)).setCell ⟨b, o + i * 6 + 3, none⟩ (.int .i64 y.u)).setCell ⟨b, o + i * 6 + 4, none⟩ (.bool y.q)).setCell ⟨b, o + i * 6 + 5, none⟩ v) ⟨g, j, none⟩ = w.cell? ⟨g, j, none⟩ := fun j => K.cell j h.lt (fun e => hbg e.symm)
  refine ⟨⟨by rw [far]; exact h.c0, by rw [far]; exact h.c1, by rw [far]; exact h.c2, by rw [far, List.length_set]; exact h.c3, fun o' => by rw [K.frozen o' h.lt (fun e => hbg e.symm)]; exact h.fz o', by simpa using h.lt, h.mg, by rw [List.length_set]; exact row, fun j hj => ?_, ?_⟩, kk M hmb.1⟩
  · refine Nat.lt_of_lt_of_le ?_ K.size
    rcases hj with hj | hj | hj
    · exact h.old j (.inl hj)
    · exact h.old j (.inr hj)
    · exact hE2 j hj
  · rintro (hj | hj)
    · exact h.ng hj
    · exact hE g hj h.mg
set_option maxHeartbeats 600000 in
theorem put_at {w : World} {g : Nat} {M D : Nat → Prop} {S W k : Int} {L : List En} (h : Ca w g M D S W k L) (x : En) (a : Option Addr) (n cap : Nat) (hsl : Sl w a n cap x.z) (hn : n ≤ 1000000) (hx : 0 ≤ x.n) {i : Nat} {y : En} (hp : atL L x.n = i) (hy : L[i]? = some y) :
    Calls Try.prog 14 #[.pointer (some ⟨g, 0, none⟩), x.val (.slice a n cap)] w fun e w' => e = .returned (.int .i64 0) ∧
      (∃ D', (∀ j, D' j → D j ∨ w.heap.size ≤ j) ∧ Ca w' g M D' S W k (L.set i { x with u := y.u })) ∧ Keep M w w' := by
  have H0 : Hid (Ca w g M D S W k L) := h
  have hnn : ¬ x.n < 0 := by omega
  have HP : Hid (atL L x.n = i) := hp
  have HY : Hid (L[i]? = some y) := hy
  have HL : Hid (x.z.length = n) := hsl.len
  clear hp h hy
  go_enter Try.func14, Try.ntmps14
  go_upto_region 5 with (first
    | (go_at_call 22; have mk := B1; clear mk; have K := Eb.six (x := x) (d := .slice a1 n cap1) (g := w.heap.size) (o := 0) (V := w1) (F := fun k => k = w.heap.size) (.inl rfl) (Keep.refl _ w1); have E2 := b1.put x (.slice a1 n cap1); simp only [Nat.zero_add] at K E2; have B2 := K.after B1 (fun k h => by omega); have own2 := own1.keep K (fun k hk e => by have := (own1.base k hk).1; simp at this; omega); clear p0 p1 p2 p3 p4 p5 f0 f1 f2 f3 f4 f5 b1 own1 K hb1 B1; generalize World.setCell _ _ _ = W2 at *; refine (at_any (H0.out.below B2) x.n).mono ?_; rintro e wz ⟨rfl, rfl⟩; rw [HP.out])
    | (go_at_call 44; refine (copy_any x a n cap _ (hsl.below (ba (Below.refl _ _))) (by omega)).mono ?_; rintro e w1 ⟨a1, cap1, rfl, own1, hb1⟩; have b1 := (Eb.madeT w x (.slice a n cap) 41).next hb1; obtain ⟨p0, p1, p2, p3, p4, p5⟩ := b1.lit; obtain ⟨f0, f1, f2, f3, f4, f5⟩ := b1.lit'; have B1 := next (ba (o := .cells #[.int .i64 x.f, .int .i64 x.b, .int .i64 x.n, .int .i64 x.u, .bool x.q, .slice a n cap] 41) (Below.refl w.heap.size w)) hb1))
  obtain ⟨R, ra, rc, C2⟩ := H0.out.below B2
  obtain ⟨N, hN⟩ : ∃ N, L.length = N := ⟨_, rfl⟩
  have hiN : i < N := by rw [← hN]; exact (List.getElem?_eq_some_iff.1 HY.out).1
  have row := C2.row
  have c3 := C2.c3
  rw [hN] at row c3
  obtain ⟨y', yd, b, o, hy', hr, hd, rfl, hmb, hb, ⟨y0, y1, y2, y3, y4, y5⟩, yf⟩ := row.get hiN
  obtain rfl : y' = y := Option.some.inj (hy'.symm.trans HY.out)
  obtain ⟨da, dn, dc, rfl, _⟩ := hd
  have hle := row.row.le
  have hmx := row.row.max
  unfold maxLen at hmx
  have hki : 0 ≤ (i : Int) ∧ (i : Int) < N := by omega
  have HN : Hid (L.length = N) := hN
  have HC : Hid (CaI W2 g M D S W k L R (some ⟨b, o, none⟩) rc) := C2
  have hgw : g < w.heap.size := by obtain ⟨_, _, _, hh⟩ := H0.out; exact hh.lt
  have hbw : b < w.heap.size := H0.out.old b (.inl hmb.1)
  have lt := C2.lt
  obtain ⟨p0, p1, p2, p3, p4, p5⟩ := E2.lit
  obtain ⟨f0, f1, f2, f3, f4, f5⟩ := E2.lit'
  clear hN hy' C2 row
  go_upto_region 7 with fail
  have hold : ∀ j, M j ∨ D j → j < w.heap.size := H0.out.old
  have E3 := E2.setU y'.u
  simp only [Nat.zero_add] at E3
  have K3 := Keep.one W2 w.heap.size 3 (.int .i64 y'.u)
  have C3 := HC.out.keep K3 (fun j hj e => by have := hold j hj; omega)
  have own3 := own2.keep K3 (fun j hj e => by have := (own2.base j hj).1; simp at this; omega)
  have B3 := B2.setCell (p := ⟨w.heap.size, 3, none⟩) (Nat.le_refl _) (.int .i64 y'.u)
  clear E2 HC own2 B2 K3 p0 p1 p2 p3 p4 p5 f0 f1 f2 f3 f4 f5 y0 y1 y2 y3 y4 y5 yf lt c3 hb
  generalize W2.setCell ⟨w.heap.size, 3, none⟩ (.int .i64 y'.u) = W3 at *
  have hBd : Below W3.heap.size W3 W3.drew := (Below.refl _ _).drew
  have E4 := E3.next hBd
  have C4 := C3.below hBd
  have own4 := own3.below hBd
  have B4 := next B3 hBd
  refine wp_region_orders 8 rfl (by kernel_rfl) ?_
  clear E3 C3 own3 B3 hBd
  generalize W3.drew = V0 at *
  have dz : DatZ V0 (fun j => w.heap.size + 1 < j ∧ j < V0.heap.size) x.z (.slice a1 n cap1) := (datz_own own4 (by rw [HL.out]; omega)).imp (fun j hj h => ⟨by simp at h; omega, hj⟩)
  have hI : (fun V : World => V.cell? ⟨g, 3, none⟩ = some (.slice (some ⟨b, o, none⟩) N rc) ∧ V.cell? ⟨w.heap.size, 0, none⟩ = some (.int .i64 x.f) ∧ V.cell? ⟨w.heap.size, 1, none⟩ = some (.int .i64 x.b) ∧ V.cell? ⟨w.heap.size, 2, none⟩ = some (.int .i64 x.n) ∧ V.cell? ⟨w.heap.size, 3, none⟩ = some (.int .i64 y'.u) ∧ V.cell? ⟨w.heap.size, 4, none⟩ = some (.bool x.q) ∧ V.cell? ⟨w.heap.size, 5, none⟩ = some (.slice a1 n cap1)) V0 := ⟨by have := C4.c3; rw [HN.out] at this; exact this, E4.lit⟩
  have rowN := C4.row
  rw [HN.out] at rowN
  obtain ⟨_, _, b', o', _, _, _, e, _, _, ⟨y0, y1, y2, y3, y4, y5⟩, yf⟩ := rowN.get hiN
  simp at e
  obtain ⟨rfl, rfl⟩ := e
  have z0 := yf 0 (by omega)
  have z1 := yf 1 (by omega)
  have z2 := yf 2 (by omega)
  have z3 := yf 3 (by omega)
  have z4 := yf 4 (by omega)
  have z5 := yf 5 (by omega)
  rw [Nat.add_zero] at z0
  clear yf rowN
  refine any_inv (fun V : World => V.cell? ⟨g, 3, none⟩ = some (.slice (some ⟨b, o, none⟩) N rc) ∧ V.cell? ⟨w.heap.size, 0, none⟩ = some (.int .i64 x.f) ∧ V.cell? ⟨w.heap.size, 1, none⟩ = some (.int .i64 x.b) ∧ V.cell? ⟨w.heap.size, 2, none⟩ = some (.int .i64 x.n) ∧ V.cell? ⟨w.heap.size, 3, none⟩ = some (.int .i64 y'.u) ∧ V.cell? ⟨w.heap.size, 4, none⟩ = some (.bool x.q) ∧ V.cell? ⟨w.heap.size, 5, none⟩ = some (.slice a1 n cap1)) [7] hI ?_
  refine inv_take (v := ?v1) [1, 2, 3, 6, 7] 0 hI rfl (by kernel_rfl) (by kernel_rfl) (by kernel_rfl) (by kernel_rfl) (by kernel_rfl) (fun _ _ _ h => h) (by kernel_rfl) (fun V hV => ?hy1) ?go1
  case hy1 => (obtain ⟨i1, q0, q1, q2, q3, q4, q5⟩ := hV; go_simp <;> rfl)
  simp only [Act.put, List.setIfInBounds_toArray, List.set_cons_zero, List.set_cons_succ]
  refine inv_take (v := ?v2) [2, 3, 6, 7] 1 hI rfl (by kernel_rfl) (by kernel_rfl) (by kernel_rfl) (by kernel_rfl) (by kernel_rfl) (fun _ _ _ h => h) (by kernel_rfl) (fun V hV => ?hy2) ?go2
  case hy2 => (obtain ⟨i1, q0, q1, q2, q3, q4, q5⟩ := hV; go_simp <;> rfl)
  simp only [Act.put, List.setIfInBounds_toArray, List.set_cons_zero, List.set_cons_succ]
  refine inv_take (v := ?v3) [3, 6, 7] 2 hI rfl (by kernel_rfl) (by kernel_rfl) (by kernel_rfl) (by kernel_rfl) (by kernel_rfl) (fun _ _ _ h => h) (by kernel_rfl) (fun V hV => ?hy3) ?go3
  case hy3 => (obtain ⟨i1, q0, q1, q2, q3, q4, q5⟩ := hV; go_simp <;> rfl)
  simp only [Act.put, List.setIfInBounds_toArray, List.set_cons_zero, List.set_cons_succ]
  refine inv_take (v := ?v4) [6, 7] 3 hI rfl (by kernel_rfl) (by kernel_rfl) (by kernel_rfl) (by kernel_rfl) (by kernel_rfl) (fun _ _ _ h => h) (by kernel_rfl) (fun V hV => ?hy4) ?go4
  case hy4 => (obtain ⟨i1, q0, q1, q2, q3, q4, q5⟩ := hV; go_simp <;> rfl)
  simp only [Act.put, List.setIfInBounds_toArray, List.set_cons_zero, List.set_cons_succ]
  refine inv_take (v := ?v5) [6, 7] 4 hI rfl (by kernel_rfl) (by kernel_rfl) (by kernel_rfl) (by kernel_rfl) (by kernel_rfl) (fun _ _ _ h => h) (by kernel_rfl) (fun V hV => ?hy5) ?go5
  case hy5 => (obtain ⟨i1, q0, q1, q2, q3, q4, q5⟩ := hV; go_simp <;> rfl)
  simp only [Act.put, List.setIfInBounds_toArray, List.set_cons_zero, List.set_cons_succ]
  refine inv_take (v := ?v6) [6, 7] 5 hI rfl (by kernel_rfl) (by kernel_rfl) (by kernel_rfl) (by kernel_rfl) (by kernel_rfl) (fun _ _ _ h => h) (by kernel_rfl) (fun V hV => ?hy6) ?go6
  case hy6 => (obtain ⟨i1, q0, q1, q2, q3, q4, q5⟩ := hV; go_simp <;> rfl)
  simp only [Act.put, List.setIfInBounds_toArray, List.set_cons_zero, List.set_cons_succ]
  refine inv_take (v := ?v7) [7] 6 hI rfl (by kernel_rfl) (by kernel_rfl) (by kernel_rfl) (by kernel_rfl) (by kernel_rfl) (fun _ _ _ h => h) (by kernel_rfl) (fun V hV => ?hy7) ?go7
  case hy7 => (obtain ⟨i1, q0, q1, q2, q3, q4, q5⟩ := hV; go_simp <;> rfl)
  simp only [Act.put, List.setIfInBounds_toArray, List.set_cons_zero, List.set_cons_succ]
  refine inv_write 7 (by kernel_rfl) (by kernel_rfl) rfl ?_
  go_wp2
  refine then_n ?_
  refine any_done (by kernel_rfl) ?_
  obtain ⟨C5, K5⟩ := put_in (y := { x with u := y'.u }) C4 (by rw [HN.out]; exact hiN) dz (fun j hj hm => by have := hold j (.inl hm); omega) (fun j hj => hj.2)
  have K6 := (Keep.of_below (F := M) B4).trans K5 (fun j _ h => h)
  clear y0 y1 y2 y3 y4 y5 z0 z1 z2 z3 z4 z5 hI dz own4 C4 E4
  simp only at C5 K6
  clear K5
  go_wp2_with fail
  go_ret
  exact ⟨rfl, ⟨_, fun j hj => hj.imp id (fun h => by omega), _, _, _, C5⟩, K6⟩
end CR
end Go.Proofs.Ytfobgkkmbacfjaa
