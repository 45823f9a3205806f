/- The program's home: a request that is not taken, or not done. Conditions: as each theorem states them. -/
import Derived.Test.YtgeiagndpfdnlaaHm8
namespace Go.Proofs.Ytgeiagndpfdnlaa
open Go.RowKit Go.Maps
set_option linter.unusedVariables false
set_option maxRecDepth 20000

/-- The error that a request is answered with; 0: none. -/
def hErr (N : Nat) (K node : Int) (L : List Hr) (o : List (Int × Int)) (x : Pk) : Int := if ckE N node L x = 0 then (if x.k = 1 then 0 else ulE N K L o x) else ckE N node L x
section
variable {w wx wy : World} {g g1 g2 n N : Nat} {X Y : Nat → Prop} {K node : Int} {L : List Hr} {o : List (Int × Int)} {q : List Wr}
theorem ck_kind {x : Pk} (h : ckE N node L x = 0) : x.k = 1 ∨ x.k = 2 := by
  unfold ckE at h
  split at h
  · rename_i ht
    unfold tknP at ht
    rw [Bool.and_eq_true] at ht
    exact (of_decide_eq_true ht.2).2.2
  · cases h
theorem hh_err (h : PH w wx g g1 g2 X N K node L n o q) (x : Pk) (a : Option Addr) (m c : Nat) (hsl : Sl wx a m c x.z) (hl : In64 x.l) {E : Int} (he : hErr N K node L o x = E) (hE : E ≠ 0) :
    Calls Try.prog 10 #[.pointer (some ⟨g, 0, none⟩), x.val (.slice a m c)] wx fun e w' => e = .returned (.tuple #[zeroPk.val (.slice none 0 0), .bool false, .int .i64 E]) ∧ Keep (NX w X) wx w' ∧ PH w w' g g1 g2 X N K node L n o q := by
  subst he
  unfold hErr at hE ⊢
  by_cases hc : ckE N node L x = 0
  · rw [if_pos hc] at hE ⊢
    by_cases hk : x.k = 1
    · rw [if_pos hk] at hE; exact absurd rfl hE
    · rw [if_neg hk] at hE ⊢
      exact hh_uerr h x a m c hsl hl hc ((ck_kind hc).resolve_left hk) hE
  · rw [if_neg hc]
    refine (hh_bad h x a m c hsl hl hc).mono ?_
    rintro e w' ⟨rfl, hb⟩
    exact ⟨rfl, Keep.of_below hb, h.below hb⟩
end
theorem cell_new (w : World) (A : Array Value) (t : TypeId) (k : Nat) : (w.alloc (.cells A t)).cell? ⟨w.heap.size, k, none⟩ = A[k]? := by
  have h := heap_alloc_new w (.cells A t)
  have := cell_of_row (w.alloc (.cells A t)) w.heap.size k A t (0, 0) h
  exact this
end Go.Proofs.Ytgeiagndpfdnlaa
