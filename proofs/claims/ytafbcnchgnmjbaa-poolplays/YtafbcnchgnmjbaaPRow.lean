/- Rows of packets in memory that may be written, their words elsewhere (PRow). Nothing of the program but packets is named here. -/
import Derived.Test.YtafbcnchgnmjbaaPk0
namespace Go.Proofs.Ytafbcnchgnmjbaa
open Go.RowKit
set_option linter.unusedVariables false

/-- A packet in a block of its own, cell by cell. -/
theorem Bx.news {w : World} {bs : Nat} {x : Pk} {d : Value} (bx : Bx w bs x d) : ∀ j u, (pcells x d)[j]? = some u → w.cell? ((⟨bs, 0, none⟩ : Addr).add j) = some u := by
  intro j u hu
  rw [Addr.add_lit, Nat.zero_add]
  have hj : j < 9 := (List.getElem?_eq_some_iff.1 hu).1
  obtain ⟨b0, b1, b2, b3, b4, b5, b6, b7, b8, _, _⟩ := bx
  match j, hj with
  | 0, _ => rw [b0]; exact hu
  | 1, _ => rw [b1]; exact hu
  | 2, _ => rw [b2]; exact hu
  | 3, _ => rw [b3]; exact hu
  | 4, _ => rw [b4]; exact hu
  | 5, _ => rw [b5]; exact hu
  | 6, _ => rw [b6]; exact hu
  | 7, _ => rw [b7]; exact hu
  | 8, _ => rw [b8]; exact hu
/-- A row of the packets L, in a block of M; their words lie in blocks of D. -/
structure PRow (w : World) (M D : Nat → Prop) (L : List Pk) (R : List (Pk × Value)) (a : Option Addr) (n cap : Nat) : Prop where
  eq : R.map Prod.fst = L
  len : L.length = n
  row : Rw w M a n cap 9 (pflat R)
  dat : ∀ r ∈ R, Dat w D r.1 r.2
  old : ∀ k, M k → k < w.heap.size
  dj : ∀ k, M k → ¬ D k
theorem PRow.keep {w w' : World} {M D F : Nat → Prop} {L : List Pk} {R : List (Pk × Value)} {a : Option Addr} {n cap : Nat} (h : PRow w M D L R a n cap) (hk : Keep F w w') (hF : ∀ k, M k ∨ D k → ¬ F k) : PRow w' M D L R a n cap :=
  ⟨h.eq, h.len, h.row.keep hk (fun k hm => hF k (.inl hm)), fun r hr => (h.dat r hr).keep hk (fun k hd => hF k (.inr hd)), fun k hm => Nat.lt_of_lt_of_le (h.old k hm) hk.size, h.dj⟩
theorem PRow.below {w w' : World} {M D : Nat → Prop} {L : List Pk} {R : List (Pk × Value)} {a : Option Addr} {n cap : Nat} (h : PRow w M D L R a n cap) (hb : Below w.heap.size w w') : PRow w' M D L R a n cap := h.keep (F := fun _ => False) (Keep.of_below hb) (fun _ _ h => h)
theorem prow_nil (w : World) (D : Nat → Prop) : PRow w (fun _ => False) D [] [] none 0 0 := ⟨rfl, rfl, rw_nil _ _ _, fun r hr => (by cases hr), fun k h => h.elim, fun k h => h.elim⟩
/-- One more. -/
theorem PRow.snoc {w w' : World} {M D E : Nat → Prop} {L : List Pk} {R : List (Pk × Value)} {a a' : Option Addr} {n cap cap' : Nat} {x : Pk} {d : Value} (h : PRow w M D L R a n cap) (hd : Dat w E x d) (hE : ∀ k, E k → ¬ M k) (hD : ∀ k, D k → k < w.heap.size) (hE' : ∀ k, E k → k < w.heap.size)
    (hr : Rw w' (fun k => M k ∨ w.heap.size ≤ k) a' (n + 1) cap' 9 (pflat R ++ pcells x d)) (hk : Keep M w w') :
    PRow w' (fun k => M k ∨ (w.heap.size ≤ k ∧ k < w'.heap.size)) (fun k => D k ∨ E k) (L ++ [x]) (R ++ [(x, d)]) a' (n + 1) cap' := by
  refine ⟨by rw [List.map_append, h.eq]; rfl, by rw [List.length_append, h.len]; rfl, ?_, ?_, ?_, ?_⟩
  · rw [pflat_append, pflat_one]
    exact hr.imp (fun k hk h => h.imp id (fun h => ⟨h, hk⟩))
  · intro r hr
    rcases List.mem_append.1 hr with hr | hr
    · exact ((h.dat r hr).keep hk (fun k hd hm => h.dj k hm hd)).imp (fun k _ h => .inl h)
    · rw [List.mem_singleton] at hr
      subst hr
      exact (hd.keep hk (fun k he hm => hE k he hm)).imp (fun k _ h => .inr h)
  · intro k hm
    rcases hm with hm | hm
    · exact Nat.lt_of_lt_of_le (h.old k hm) hk.size
    · exact hm.2
  · intro k hm hd
    rcases hm with hm | hm <;> rcases hd with hd | hd
    · exact h.dj k hm hd
    · exact hE k hd hm
    · have := hD k hd; omega
    · have := hE' k hd; omega
theorem PRow.get {w : World} {M D : Nat → Prop} {L : List Pk} {R : List (Pk × Value)} {a : Option Addr} {n cap : Nat} (h : PRow w M D L R a n cap) {i : Nat} (hi : i < n) : ∃ x d b o, L[i]? = some x ∧ R[i]? = some (x, d) ∧ Dat w D x d ∧ a = some ⟨b, o, none⟩ ∧ M b ∧ b < w.heap.size ∧
    (w.cell? ⟨b, o + i * 9, none⟩ = some (.int .i64 x.k) ∧ w.cell? ⟨b, o + i * 9 + 1, none⟩ = some (.int .i64 x.f) ∧ w.cell? ⟨b, o + i * 9 + 2, none⟩ = some (.int .i64 x.t) ∧ w.cell? ⟨b, o + i * 9 + 3, none⟩ = some (.int .i64 x.i) ∧
    w.cell? ⟨b, o + i * 9 + 4, none⟩ = some (.int .i64 x.l) ∧ w.cell? ⟨b, o + i * 9 + 5, none⟩ = some (.int .i64 x.p) ∧ w.cell? ⟨b, o + i * 9 + 6, none⟩ = some (.int .i64 x.s) ∧ w.cell? ⟨b, o + i * 9 + 7, none⟩ = some (.bool x.fl) ∧ w.cell? ⟨b, o + i * 9 + 8, none⟩ = some d) ∧
    (∀ j, j < 9 → w.frozen? ⟨b, o + i * 9 + j, none⟩ = false) := by
  have hl : R.length = n := by have := congrArg List.length h.eq; simp at this; rw [this, h.len]
  obtain ⟨⟨x, d⟩, hR'⟩ : ∃ r, R[i]? = some r := ⟨R[i]'(by omega), List.getElem?_eq_getElem (by omega)⟩
  rcases h.row.row with h0 | ⟨b, o, rfl, hm, hb, hc, hf⟩
  · have := h.row.le; omega
  · refine ⟨x, d, b, o, ?_, hR', h.dat (x, d) (List.mem_of_getElem? hR'), rfl, hm, hb, pk_at hc hR', fun j hj => ?_⟩
    · rw [← h.eq, List.getElem?_map, hR']; rfl
    · rw [Nat.add_assoc]
      have h1 := h.row.le
      have : (i + 1) * 9 ≤ cap * 9 := Nat.mul_le_mul_right _ (by omega)
      exact (hf (i * 9 + j) (by omega)).2
end Go.Proofs.Ytafbcnchgnmjbaa
