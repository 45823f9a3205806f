/- A queue, or a pool, in memory (Qu): its room, its packets; rows of packets out of it (NewRow). Nothing of the program but packets is named here. -/
import Derived.Test.YtafbcnchgnmjbaaPRow
namespace Go.Proofs.Ytafbcnchgnmjbaa
open Go.RowKit
set_option linter.unusedVariables false

/-- A queue at block g: its room, the packets L. It may write the blocks of M; its packets' words lie in those of D. -/
structure QuI (w : World) (g : Nat) (M D : Nat → Prop) (room : Int) (L : List Pk) (R : List (Pk × Value)) (a : Option Addr) (cap : Nat) : Prop where
  c0 : w.cell? ⟨g, 0, none⟩ = some (.int .i64 room)
  c1 : w.cell? ⟨g, 1, none⟩ = some (.slice a L.length cap)
  fz : ∀ o, w.frozen? ⟨g, o, none⟩ = false
  lt : g < w.heap.size
  mg : M g
  eq : R.map Prod.fst = L
  row : Rw w (fun k => M k ∧ k ≠ g) a L.length cap 9 (pflat R)
  dat : ∀ r ∈ R, Dat w D r.1 r.2
  old : ∀ k, M k ∨ D k → k < w.heap.size
  dj : ∀ k, M k → ¬ D k
def Qu (w : World) (g : Nat) (M D : Nat → Prop) (room : Int) (L : List Pk) : Prop := ∃ R a cap, QuI w g M D room L R a cap
theorem QuI.keep {w w' : World} {g : Nat} {M D F : Nat → Prop} {room : Int} {L : List Pk} {R : List (Pk × Value)} {a : Option Addr} {cap : Nat} (h : QuI w g M D room L R a cap) (hk : Keep F w w') (hF : ∀ k, M k ∨ D k → ¬ F k) : QuI w' g M D room L R a cap :=
  ⟨by rw [hk.cell _ h.lt (hF g (.inl h.mg))]; exact h.c0, by rw [hk.cell _ h.lt (hF g (.inl h.mg))]; exact h.c1, fun o => by rw [hk.frozen _ h.lt (hF g (.inl h.mg))]; exact h.fz o, Nat.lt_of_lt_of_le h.lt hk.size, h.mg, h.eq,
    h.row.keep hk (fun k hm => hF k (.inl hm.1)), fun r hr => (h.dat r hr).keep hk (fun k hd => hF k (.inr hd)), fun k hm => Nat.lt_of_lt_of_le (h.old k hm) hk.size, h.dj⟩
theorem Qu.keep {w w' : World} {g : Nat} {M D F : Nat → Prop} {room : Int} {L : List Pk} (h : Qu w g M D room L) (hk : Keep F w w') (hF : ∀ k, M k ∨ D k → ¬ F k) : Qu w' g M D room L := by
  obtain ⟨R, a, cap, h⟩ := h
  exact ⟨R, a, cap, h.keep hk hF⟩
theorem Qu.below {w w' : World} {g : Nat} {M D : Nat → Prop} {room : Int} {L : List Pk} (h : Qu w g M D room L) (hb : Below w.heap.size w w') : Qu w' g M D room L := h.keep (F := fun _ => False) (Keep.of_below hb) (fun _ _ h => h)
theorem Qu.old {w : World} {g : Nat} {M D : Nat → Prop} {room : Int} {L : List Pk} (h : Qu w g M D room L) : ∀ k, M k ∨ D k → k < w.heap.size := by
  obtain ⟨R, a, cap, h⟩ := h
  exact h.old

theorem QuI.prow {w : World} {g : Nat} {M D : Nat → Prop} {room : Int} {L : List Pk} {R : List (Pk × Value)} {a : Option Addr} {cap : Nat} (h : QuI w g M D room L R a cap) : PRow w (fun k => M k ∧ k ≠ g) D L R a L.length cap :=
  ⟨h.eq, rfl, h.row, h.dat, fun k hm => h.old k (.inl hm.1), fun k hm => h.dj k hm.1⟩
theorem map_eraseIdx' {α β : Type} (f : α → β) : ∀ (l : List α) (k : Nat), (l.eraseIdx k).map f = (l.map f).eraseIdx k
  | [], _ => rfl
  | _ :: _, 0 => rfl
  | a :: l, k + 1 => by simp only [List.eraseIdx_cons_succ, List.map_cons, map_eraseIdx' f l k]
theorem take_snoc {α : Type} {l : List α} {k : Nat} {x : α} (h : l[k]? = some x) : l.take (k + 1) = l.take k ++ [x] := by
  rw [List.take_add_one, h]; rfl
/-- A new row of the packets L, in memory from base on. -/
def NewRow (w : World) (base : Nat) (L : List Pk) (n : Nat) (v : Value) : Prop := ∃ M D R a cap, v = .slice a n cap ∧ PRow w M D L R a n cap ∧ (∀ k, M k ∨ D k → base ≤ k ∧ k < w.heap.size) ∧ ∀ r ∈ R, Soft w r.1 r.2
theorem newrow_made {w : World} {base n : Nat} {a : Option Addr} {cap : Nat} (h : w.ownsRow base 29 9 (.slice a n cap) n []) (hn : n = 0) : NewRow w base [] 0 (.slice a 0 cap) := by
  subst hn
  obtain ⟨a', cap', e, hr⟩ := rw_own h
  simp at e
  obtain ⟨rfl, rfl⟩ := e
  exact ⟨fun k => base ≤ k ∧ k < w.heap.size, fun _ => False, [], a, cap, rfl, ⟨rfl, rfl, hr.imp (fun k hk h => ⟨h, hk⟩), fun r hr => (by cases hr), fun k h => h.2, fun k _ h => h⟩, fun k h => h.elim id (fun h => h.elim), fun r hr => (by cases hr)⟩
end Go.Proofs.Ytafbcnchgnmjbaa
