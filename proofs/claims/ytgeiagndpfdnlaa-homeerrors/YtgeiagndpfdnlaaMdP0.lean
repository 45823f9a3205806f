/- A directory and the document's homes beside each other (DP), and what the test has of its own. Conditions: as each theorem states them. -/
import Derived.Test.YtgeiagndpfdnlaaDh3
namespace Go.Proofs.Ytgeiagndpfdnlaa
open Go.RowKit Go.Maps
set_option linter.unusedVariables false
set_option maxRecDepth 20000

section
variable {w wx wy : World} {g : Nat} {X Y F : Nat → Prop} {N K : Int} {L : List Hr}
theorem MO.step (h : MO w wx g X N K L) (hk : Keep F wx wy) (hF : ∀ j, F j → w.heap.size ≤ j ∧ (X j ∨ wx.heap.size ≤ j)) (hY : ∀ j, Y j → (X j ∨ wx.heap.size ≤ j) ∧ j < wy.heap.size) : MO w wy g Y N K L := by
  obtain ⟨b, D, R, c, e, hg, hb', hD⟩ := h.c
  have n : ∀ j, j < wx.heap.size → NX w X j → ¬ F j := fun j hj hn hf => by
    rcases (hF j hf).2 with hx | hx
    · exact hn.2 hx
    · omega
  have m : ∀ j, j < wx.heap.size → NX w X j → NX w Y j := fun j hj hn => ⟨hn.1, fun hy => by
    rcases (hY j hy).1 with hx | hx
    · exact hn.2 hx
    · omega⟩
  exact ⟨h.bel.trans (hk.below (fun j hj => (hF j hj).1) h.bel.size), ⟨b, D, R, c.keep hk ⟨n g c.lt hg, n b c.rows.lt hb', fun j hj => n j (c.old j hj) (hD j hj)⟩, e, m g c.lt hg, m b c.rows.lt hb', fun j hj => m j (c.old j hj) (hD j hj)⟩, fun j hj => (hY j hj).2, h.zl, h.k1⟩
end
structure DP (w wx : World) (g g2 gc : Nat) (X Z : Nat → Prop) (N L K : Nat) (node : Int) (Ld DL : List Hr) : Prop where
  mo : MO w wx g X N K Ld
  dh : ∃ M D R a cap, DH wx g2 M D N L K node R a L cap ∧ R.map Prod.fst = DL ∧ (X g2 ∧ ¬ Z g2) ∧ ∀ j, M j ∨ D j → X j ∧ w.heap.size ≤ j ∧ ¬ Z j
  z : ∀ j, Z j → X j ∧ w.heap.size ≤ j
  zc : Z gc
  c0 : wx.cell? ⟨gc, 0, none⟩ = some (.int .i64 (N : Int))
  c1 : wx.cell? ⟨gc, 1, none⟩ = some (.int .i64 (L : Int))
  c2 : wx.cell? ⟨gc, 2, none⟩ = some (.int .i64 (K : Int))
/-- What the document's Set answers, and its rows then. -/
def setD (N L K : Nat) (node : Int) (DL : List Hr) (l s h : Int) (z : List Int) : Int × List Hr :=
  if hereI N L node l = true then (if setOk N K s h z.length = true then (0, DL.set l.toNat ⟨l, s, h, if z = [] then ((DL[l.toNat]?).getD zeroHr).z else z⟩) else (1, DL)) else (3, DL)
section
variable {w wx wy : World} {g g2 gc : Nat} {X Z Y F : Nat → Prop} {N L K : Nat} {node : Int} {Ld Ld' DL : List Hr}
theorem DP.clt (h : DP w wx g g2 gc X Z N L K node Ld DL) : gc < wx.heap.size := h.mo.xl _ (h.z _ h.zc).1
theorem DP.keep (h : DP w wx g g2 gc X Z N L K node Ld DL) (hk : Keep F wx wy) (m : MO w wy g X N K Ld') (hF : ∀ j, F j → ¬ X j ∨ (Z j ∧ j ≠ gc)) : DP w wy g g2 gc X Z N L K node Ld' DL := by
  obtain ⟨M, D, R, a, cap, d, e, ⟨hg1, hg2⟩, hm⟩ := h.dh
  have ec := fun o => hk.cell (b := gc) o h.clt (fun hf => (hF _ hf).elim (fun hx => hx (h.z _ h.zc).1) (fun hz => hz.2 rfl))
  exact ⟨m, ⟨M, D, R, a, cap, d.keep hk (fun hf => (hF _ hf).elim (fun hx => hx hg1) (fun hz => hg2 hz.1)) (fun j hj hf => (hF _ hf).elim (fun hx => hx (hm j hj).1) (fun hz => (hm j hj).2.2 hz.1)), e, ⟨hg1, hg2⟩, hm⟩, h.z, h.zc, (ec _).trans h.c0, (ec _).trans h.c1, (ec _).trans h.c2⟩
theorem DP.below (h : DP w wx g g2 gc X Z N L K node Ld DL) (hb : Below wx.heap.size wx wy) : DP w wy g g2 gc X Z N L K node Ld DL := h.keep (F := fun _ => False) (Keep.of_below hb) (h.mo.below hb) (fun _ h => h.elim)
/-- The test has more of its own, all new. -/
theorem DP.grow (h : DP w wx g g2 gc X Z N L K node Ld DL) (hb : Below wx.heap.size wx wy) (hY : ∀ j, Y j → wx.heap.size ≤ j ∧ j < wy.heap.size) : DP w wy g g2 gc (fun j => X j ∨ Y j) (fun j => Z j ∨ Y j) N L K node Ld DL := by
  obtain ⟨M, D, R, a, cap, d, e, ⟨hg1, hg2⟩, hm⟩ := h.dh
  have hk := Keep.of_below (F := fun _ => False) hb
  have ec := fun o => hk.cell (b := gc) o h.clt id
  have hs := h.mo.bel.size
  refine ⟨h.mo.grow hb (fun j hj => ?_), ⟨M, D, R, a, cap, d.below hb, e, ⟨.inl hg1, fun hz => hz.elim hg2 (fun hy => by have := (hY _ hy).1; have := d.lt; omega)⟩, fun j hj => ⟨.inl (hm j hj).1, (hm j hj).2.1, fun hz => hz.elim (hm j hj).2.2 (fun hy => by have := (hY _ hy).1; have := d.old j hj; omega)⟩⟩, fun j hj => ?_, .inl h.zc, (ec _).trans h.c0, (ec _).trans h.c1, (ec _).trans h.c2⟩
  · rcases hj with hj | hj
    · exact ⟨.inl hj, Nat.lt_of_lt_of_le (h.mo.xl j hj) hb.size⟩
    · exact ⟨.inr (hY j hj).1, (hY j hj).2⟩
  · rcases hj with hj | hj
    · exact ⟨.inl (h.z j hj).1, (h.z j hj).2⟩
    · exact ⟨.inr hj, by have := (hY j hj).1; omega⟩
/-- The test writes its own. -/
theorem DP.write (h : DP w wx g g2 gc X Z N L K node Ld DL) (hk : Keep F wx wy) (hF : ∀ j, F j → Z j ∧ j ≠ gc) : DP w wy g g2 gc X Z N L K node Ld DL :=
  h.keep hk (h.mo.write hk (fun j hj => ⟨(h.z j (hF j hj).1).2, .inl (h.z j (hF j hj).1).1⟩)) (fun j hj => .inr (hF j hj))
theorem dp_set1 (h : DP w wx g g2 gc X Z N L K node Ld DL) {l : Int} (hl : In64 l) (s hd : Int) (a : Option Addr) (n cap : Nat) (z : List Int) (hs : Sl wx a n cap z) (hb : n ≤ 17592186044416) :
    Calls Try.prog 55 #[.pointer (some ⟨g, 0, none⟩), .int .i64 l, .int .i64 s, .int .i64 hd, .slice a n cap] wx fun e w' => e = .returned (.int .i64 (setR N K Ld l s hd z).1) ∧ Keep (NX w X) wx w' ∧ DP w w' g g2 gc X Z N L K node (setR N K Ld l s hd z).2 DL := by
  refine (mo_set h.mo hl s hd a n cap z hs hb).mono ?_
  rintro e w' ⟨rfl, hk, m⟩
  exact ⟨rfl, hk, h.keep hk m (fun j hj => .inl hj.2)⟩
theorem dp_set2 (h : DP w wx g g2 gc X Z N L K node Ld DL) (hN : 1 ≤ N) (hL : L ≤ 8) (l s hd : Int) (a : Option Addr) (n cap : Nat) (z : List Int) (hs : Sl wx a n cap z) (hb : n ≤ 17592186044416) :
    Calls Try.prog 43 #[.pointer (some ⟨g2, 0, none⟩), .int .i64 l, .int .i64 s, .int .i64 hd, .slice a n cap] wx fun e w' => e = .returned (.int .i64 (setD N L K node DL l s hd z).1) ∧ Keep (fun j => X j ∧ w.heap.size ≤ j ∧ ¬ Z j) wx w' ∧ ∃ X', (∀ j, X j → X' j) ∧ DP w w' g g2 gc X' Z N L K node Ld (setD N L K node DL l s hd z).2 := by
  have h0 := h
  obtain ⟨M, D, R, ra, rc, d, e, ⟨hg1, hg2⟩, hm⟩ := h.dh
  have hzn : z.length = n := hs.len
  unfold setD
  rw [hzn]
  have fin : ∀ {w' : World} {D' : Nat → Prop} {R' : List (Hr × Value)} {DL' : List Hr}, Keep M wx w' → (∀ j, D' j → D j ∨ wx.heap.size ≤ j) → DH w' g2 M D' N L K node R' ra L rc → R'.map Prod.fst = DL' →
      Keep (fun j => X j ∧ w.heap.size ≤ j ∧ ¬ Z j) wx w' ∧ ∃ X', (∀ j, X j → X' j) ∧ DP w w' g g2 gc X' Z N L K node Ld DL' := fun {w' D' R' DL'} hk hD' d' e' => by
    have ec := fun o => hk.cell (b := gc) o h.clt (fun hf => (hm _ (.inl hf)).2.2 h.zc)
    have hs := h.mo.bel.size
    refine ⟨hk.mono (fun j _ hj => hm j (.inl hj)), fun j => X j ∨ D' j, fun j hj => .inl hj, h.mo.step hk (fun j hj => ⟨(hm j (.inl hj)).2.1, .inl (hm j (.inl hj)).1⟩) (fun j hj => ?_), ⟨M, D', R', ra, rc, d', e', ⟨.inl hg1, hg2⟩, fun j hj => ?_⟩, fun j hj => ⟨.inl (h.z j hj).1, (h.z j hj).2⟩, h.zc, (ec _).trans h.c0, (ec _).trans h.c1, (ec _).trans h.c2⟩
    · rcases hj with hj | hj
      · exact ⟨.inl hj, Nat.lt_of_lt_of_le (h.mo.xl j hj) hk.size⟩
      · exact ⟨(hD' j hj).imp (fun hd => (hm j (.inr hd)).1) id, d'.old j (.inr hj)⟩
    · rcases hj with hj | hj
      · exact ⟨.inl (hm j (.inl hj)).1, (hm j (.inl hj)).2⟩
      · refine ⟨.inr hj, ?_⟩
        rcases hD' j hj with hd | hn
        · exact (hm j (.inr hd)).2
        · exact ⟨by omega, fun hz => by have := h.mo.xl j (h.z j hz).1; omega⟩
  have same : ∀ {w' : World}, Below wx.heap.size wx w' → Keep (fun j => X j ∧ w.heap.size ≤ j ∧ ¬ Z j) wx w' ∧ ∃ X', (∀ j, X j → X' j) ∧ DP w w' g g2 gc X' Z N L K node Ld DL := fun {w'} hb => ⟨Keep.of_below hb, X, fun j hj => hj, h0.below hb⟩
  cases hh : hereI N L node l with
  | false =>
    rw [if_neg (by simp)]
    refine (dset_none d hN hh s hd a n cap).mono ?_
    rintro en w' ⟨rfl, hb⟩
    exact ⟨rfl, same hb⟩
  | true =>
    rw [if_pos rfl]
    cases ho : setOk N K s hd n with
    | false =>
      rw [if_neg (by simp)]
      refine (dset_arg d hN hh s hd a n cap ho).mono ?_
      rintro en w' ⟨rfl, hb⟩
      exact ⟨rfl, same hb⟩
    | true =>
      rw [if_pos rfl]
      have hl : 0 ≤ l ∧ l < (L : Int) := by
        unfold hereI at hh
        simp only [Bool.and_eq_true] at hh
        exact ⟨of_decide_eq_true hh.1.1, of_decide_eq_true hh.1.2⟩
      obtain ⟨ln, rfl⟩ : ∃ ln : Nat, l = ln := ⟨l.toNat, by omega⟩
      have eln : (ln : Int).toNat = ln := by omega
      rw [eln]
      have hlen := d.len
      have hmap : ∀ (x : Hr) (v : Value) (r : Hr × Value), R[ln]? = some (x, v) → (R.set ln r).map Prod.fst = DL.set ln r.1 ∧ (DL[ln]?).getD zeroHr = x := fun x v r hx => by
        refine ⟨by rw [List.map_set, e], ?_⟩
        rw [← e, List.getElem?_map, hx]
        rfl
      by_cases h00 : n = 0
      · have hz0 : z = [] := List.eq_nil_of_length_eq_zero (by omega)
        rw [if_pos hz0]
        refine (dset_keep d hN (by omega) hL hh s hd a n cap h00 ho).mono ?_
        rintro en w' ⟨rfl, hk, D', dv, x, v, hD', hx, d'⟩
        obtain ⟨m1, m2⟩ := hmap x v (((⟨(ln : Int), s, hd, x.z⟩ : Hr), dv)) hx
        rw [m2]
        exact ⟨rfl, fin hk hD' d' m1⟩
      · have hz0 : z ≠ [] := fun e => by rw [e] at hzn; simp at hzn; omega
        rw [if_neg hz0]
        refine (dset_full d hN (by omega) hL hh s hd a n cap z hs (by omega) hb ho).mono ?_
        rintro en w' ⟨rfl, hk, D', dv, x, v, hD', hx, d'⟩
        obtain ⟨m1, m2⟩ := hmap x v (((⟨(ln : Int), s, hd, z⟩ : Hr), dv)) hx
        exact ⟨rfl, fin hk hD' d' m1⟩
end
end Go.Proofs.Ytgeiagndpfdnlaa
