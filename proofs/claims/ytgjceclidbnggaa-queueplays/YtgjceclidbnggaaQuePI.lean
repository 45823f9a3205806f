/- A queue beside the list that it is held against. Conditions: as each theorem states them. -/
import Derived.Test.YtgjceclidbnggaaQuePut
import Derived.Test.YtgjceclidbnggaaQueTake
import Derived.Test.YtgjceclidbnggaaQueAll
namespace Go.Proofs.Ytgjceclidbnggaa
open Go.RowKit
set_option linter.unusedVariables false

/-- The queue has the packets L, the list T; neither lies in blocks of X. -/
def PJ (w wr : World) (g : Nat) (Q : Int) (L T : List Pk) (v : Value) (X : Nat → Prop) : Prop :=
  ∃ M D Mr R a cap, v = .slice a T.length cap ∧ Qu wr g M D Q L ∧ PRow wr Mr (fun k => k < w.heap.size) T R a T.length cap ∧ (∀ k, M k ∨ D k ∨ Mr k → w.heap.size ≤ k ∧ k < wr.heap.size ∧ ¬ X k) ∧ (∀ k, Mr k → ¬ (M k ∨ D k)) ∧ Below w.heap.size w wr
theorem PJ.keep {w wr wr' : World} {g : Nat} {Q : Int} {L T : List Pk} {v : Value} {X : Nat → Prop} (h : PJ w wr g Q L T v X) (hk : Keep X wr wr') (hX : ∀ k, X k → w.heap.size ≤ k) : PJ w wr' g Q L T v X := by
  obtain ⟨M, D, Mr, R, a, cap, e, hq, hp, hlo, hs, hb⟩ := h
  refine ⟨M, D, Mr, R, a, cap, e, hq.keep hk (fun k h => (hlo k (h.elim .inl (fun h => .inr (.inl h)))).2.2), hp.keep hk (fun k h hx => ?_), fun k h => ?_, hs, hk.after hb hX⟩
  · rcases h with h | h
    · exact (hlo k (.inr (.inr h))).2.2 hx
    · have := hX k hx; omega
  · obtain ⟨h1, h2, h3⟩ := hlo k h
    exact ⟨h1, Nat.lt_of_lt_of_le h2 hk.size, h3⟩
theorem PJ.below {w wr wr' : World} {g : Nat} {Q : Int} {L T : List Pk} {v : Value} {X : Nat → Prop} (h : PJ w wr g Q L T v X) (hb : Below wr.heap.size wr wr') : PJ w wr' g Q L T v X := by
  obtain ⟨M, D, Mr, R, a, cap, e, hq, hp, hlo, hs, hb0⟩ := h
  refine ⟨M, D, Mr, R, a, cap, e, hq.below hb, hp.below hb, fun k h => ?_, hs, next hb0 hb⟩
  obtain ⟨h1, h2, h3⟩ := hlo k h
  exact ⟨h1, Nat.lt_of_lt_of_le h2 hb.size, h3⟩
theorem PJ.free {w wr : World} {g : Nat} {Q : Int} {L T : List Pk} {v : Value} {X : Nat → Prop} (h : PJ w wr g Q L T v X) : PJ w wr g Q L T v (fun _ => False) := by
  obtain ⟨M, D, Mr, R, a, cap, e, hq, hp, hlo, hs, hb0⟩ := h
  exact ⟨M, D, Mr, R, a, cap, e, hq, hp, fun k h => ⟨(hlo k h).1, (hlo k h).2.1, id⟩, hs, hb0⟩
theorem PJ.fresh {w wr wr' : World} {g : Nat} {Q : Int} {L T : List Pk} {v : Value} {X Y : Nat → Prop} (h : PJ w wr g Q L T v X) (hb : Below wr.heap.size wr wr') (hY : ∀ k, Y k → wr.heap.size ≤ k) : PJ w wr' g Q L T v Y := by
  obtain ⟨M, D, Mr, R, a, cap, e, hq, hp, hlo, hs, hb0⟩ := h
  refine ⟨M, D, Mr, R, a, cap, e, hq.below hb, hp.below hb, fun k h => ?_, hs, next hb0 hb⟩
  obtain ⟨h1, h2, h3⟩ := hlo k h
  exact ⟨h1, Nat.lt_of_lt_of_le h2 hb.size, fun hy => by have := hY k hy; omega⟩
theorem pj_new {w w1 : World} {Q : Int} (hb : Below w.heap.size w w1) (hq : Qu w1 w.heap.size (fun k => k = w.heap.size) (fun _ => False) Q []) : PJ w w1 w.heap.size Q [] [] (.slice none 0 0) (fun _ => False) :=
  ⟨fun k => k = w.heap.size, fun _ => False, fun _ => False, [], none, 0, rfl, hq, prow_nil _ _, fun k h => (by
    rcases h with h | h | h
    · have := hq.old k (.inl h); exact ⟨by omega, this, id⟩
    · exact h.elim
    · exact h.elim), fun k h => h.elim, hb⟩
theorem PJ.wb {w wr : World} {g : Nat} {Q : Int} {L T : List Pk} {v : Value} {X : Nat → Prop} (h : PJ w wr g Q L T v X) : Below w.heap.size w wr := by
  obtain ⟨M, D, Mr, R, a, cap, e, hq, hp, hlo, hs, hb0⟩ := h
  exact hb0
theorem pj_full (w wr : World) {g : Nat} {Q : Int} {L T : List Pk} {v : Value} {X : Nat → Prop} (h : PJ w wr g Q L T v X) (x : Pk) (a : Option Addr) (n cap : Nat) (h0 : 0 ≤ Q) (h1 : Q ≤ 30) (hf : (L.length : Int) = Q) :
    Calls Try.prog 9 #[.pointer (some ⟨g, 0, none⟩), x.val (.slice a n cap)] wr fun e w' => e = .returned (.int .i64 5) ∧ Below wr.heap.size wr w' := by
  obtain ⟨M, D, Mr, R, ar, cr, e, hq, hp, hlo, hs, hb0⟩ := h
  exact put_full wr hq x a n cap h0 (by omega) hf
theorem pj_put (w wr : World) {g : Nat} {Q : Int} {L T : List Pk} {v : Value} {X : Nat → Prop} (h : PJ w wr g Q L T v X) (x : Pk) (a : Option Addr) (n cap : Nat) (hsl : Sl wr a n cap x.z) (hn : n ≤ 17592186044416) (hX : ∀ k, X k → k < wr.heap.size) (h0 : 0 ≤ Q) (h1 : Q ≤ 30) (hf : (L.length : Int) < Q) :
    Calls Try.prog 9 #[.pointer (some ⟨g, 0, none⟩), x.val (.slice a n cap)] wr fun e w' => e = .returned (.int .i64 0) ∧ PJ w w' g Q (L ++ [x]) T v X ∧ ∃ M, Keep M wr w' ∧ ∀ k, M k → ¬ X k ∧ w.heap.size ≤ k := by
  obtain ⟨M, D, Mr, R, ar, cr, e, hq, hp, hlo, hs, hb0⟩ := h
  refine (put_ok wr hq x a n cap hsl hn h0 (by omega) hf).mono ?_
  rintro e' w' ⟨rfl, hk, M', D', hq', hM', hD'⟩
  have hz := hb0.size
  refine ⟨rfl, ⟨M', D', Mr, R, ar, cr, e, hq', hp.keep hk (fun k h hm => ?_), fun k h => ?_, fun k hm h => ?_, hk.after hb0 (fun k h => (hlo k (.inl h)).1)⟩, M, hk, fun k h => ⟨(hlo k (.inl h)).2.2, (hlo k (.inl h)).1⟩⟩
  · rcases h with h | h
    · exact hs k h (.inl hm)
    · have := (hlo k (.inl hm)).1; omega
  · have old := hq'.old k
    rcases h with h | h | h
    · refine ⟨?_, old (.inl h), ?_⟩
      · rcases hM' k h with h | h
        · exact (hlo k (.inl h)).1
        · omega
      · rcases hM' k h with h | h
        · exact (hlo k (.inl h)).2.2
        · exact fun hx => by have := hX k hx; omega
    · refine ⟨?_, old (.inr h), ?_⟩
      · rcases hD' k h with h | h
        · exact (hlo k (.inr (.inl h))).1
        · omega
      · rcases hD' k h with h | h
        · exact (hlo k (.inr (.inl h))).2.2
        · exact fun hx => by have := hX k hx; omega
    · obtain ⟨h1, h2, h3⟩ := hlo k (.inr (.inr h))
      exact ⟨h1, Nat.lt_of_lt_of_le h2 hk.size, h3⟩
  · have hlt := (hlo k (.inr (.inr hm))).2.1
    rcases h with h | h
    · rcases hM' k h with h | h
      · exact hs k hm (.inl h)
      · omega
    · rcases hD' k h with h | h
      · exact hs k hm (.inr h)
      · omega
/-- One more in the list. -/
theorem PJ.snoc {w wr w' : World} {g : Nat} {Q : Int} {L T : List Pk} {X : Nat → Prop} {M D Mr : Nat → Prop} {R : List (Pk × Value)} {a a' : Option Addr} {cap cap' : Nat} {x : Pk} {d : Value}
    (hq : Qu wr g M D Q L) (hp : PRow wr Mr (fun k => k < w.heap.size) T R a T.length cap) (hlo : ∀ k, M k ∨ D k ∨ Mr k → w.heap.size ≤ k ∧ k < wr.heap.size ∧ ¬ X k) (hs : ∀ k, Mr k → ¬ (M k ∨ D k)) (hb : Below w.heap.size w wr)
    (hX : ∀ k, X k → k < wr.heap.size) (hd : Dat wr (fun k => k < w.heap.size) x d)
    (hr : Rw w' (fun k => Mr k ∨ wr.heap.size ≤ k) a' (T.length + 1) cap' 9 (pflat R ++ pcells x d)) (hk : Keep Mr wr w') : PJ w w' g Q L (T ++ [x]) (.slice a' (T.length + 1) cap') X := by
  have hz := hb.size
  have hp2 := hp.snoc (E := fun k => k < w.heap.size) hd (fun k h hm => by have := (hlo k (.inr (.inr hm))).1; omega) (fun k h => by omega) (fun k h => by omega) hr hk
  refine ⟨M, D, fun k => Mr k ∨ (wr.heap.size ≤ k ∧ k < w'.heap.size), R ++ [(x, d)], a', cap', by simp, hq.keep hk (fun k h hm => hs k hm h), ?_, fun k h => ?_, fun k hm h => ?_, hk.after hb (fun k h => (hlo k (.inr (.inr h))).1)⟩
  · have e : (T ++ [x]).length = T.length + 1 := by simp
    rw [e]
    exact ⟨hp2.eq, hp2.len, hp2.row, fun r hr => (hp2.dat r hr).imp (fun k _ h => h.elim id id), hp2.old, fun k hm h => hp2.dj k hm (.inl h)⟩
  · rcases h with h | h | h | h
    · obtain ⟨h1, h2, h3⟩ := hlo k (.inl h)
      exact ⟨h1, Nat.lt_of_lt_of_le h2 hk.size, h3⟩
    · obtain ⟨h1, h2, h3⟩ := hlo k (.inr (.inl h))
      exact ⟨h1, Nat.lt_of_lt_of_le h2 hk.size, h3⟩
    · obtain ⟨h1, h2, h3⟩ := hlo k (.inr (.inr h))
      exact ⟨h1, Nat.lt_of_lt_of_le h2 hk.size, h3⟩
    · exact ⟨by omega, h.2, fun hx => by have := hX k hx; omega⟩
  · rcases hm with hm | hm
    · exact hs k hm h
    · have := (hlo k (h.elim .inl (fun h => .inr (.inl h)))).2.1; omega
theorem pj_take (w wr : World) {g : Nat} {Q : Int} {x : Pk} {L T : List Pk} {v : Value} {X : Nat → Prop} (h : PJ w wr g Q (x :: L) T v X) :
    Calls Try.prog 10 #[.pointer (some ⟨g, 0, none⟩)] wr fun e w' => ∃ a n c, e = .returned (.tuple #[x.val (.slice a n c), .bool true]) ∧ Sl w' a n c x.z ∧ PJ w w' g Q L T v X := by
  obtain ⟨M, D, Mr, R, ar, cr, e, hq, hp, hlo, hs, hb0⟩ := h
  refine (take_some wr hq).mono ?_
  rintro e' w' ⟨d, rfl, hk, ⟨a, n, c, rfl, hsl, _, _⟩, hq'⟩
  refine ⟨a, n, c, rfl, hsl, M, D, Mr, R, ar, cr, e, hq', hp.keep hk (fun k h hm => ?_), fun k h => ?_, hs, hk.after hb0 (fun k h => (hlo k (.inl h)).1)⟩
  · rcases h with h | h
    · exact hs k h (.inl hm)
    · have := (hlo k (.inl hm)).1; omega
  · obtain ⟨h1, h2, h3⟩ := hlo k h
    exact ⟨h1, Nat.lt_of_lt_of_le h2 hk.size, h3⟩
/-- The first of the list. -/
theorem PJ.head {w wr : World} {g : Nat} {Q : Int} {x : Pk} {L T : List Pk} {v : Value} {X : Nat → Prop} (h : PJ w wr g Q L (x :: T) v X) : ∃ b o cap a n c, v = .slice (some ⟨b, o, none⟩) (T.length + 1) cap ∧ Sl wr a n c x.z ∧ b < wr.heap.size ∧ 1 ≤ cap ∧ T.length + 1 ≤ cap ∧ cap ≤ maxLen ∧
    (wr.cell? ⟨b, o, none⟩ = some (.int .i64 x.k) ∧ wr.cell? ⟨b, o + 1, none⟩ = some (.int .i64 x.f) ∧ wr.cell? ⟨b, o + 2, none⟩ = some (.int .i64 x.t) ∧ wr.cell? ⟨b, o + 3, none⟩ = some (.int .i64 x.i) ∧
      wr.cell? ⟨b, o + 4, none⟩ = some (.int .i64 x.l) ∧ wr.cell? ⟨b, o + 5, none⟩ = some (.int .i64 x.p) ∧ wr.cell? ⟨b, o + 6, none⟩ = some (.int .i64 x.s) ∧ wr.cell? ⟨b, o + 7, none⟩ = some (.bool x.fl) ∧ wr.cell? ⟨b, o + 8, none⟩ = some (.slice a n c)) ∧
    (∀ wr', PJ w wr' g Q L (x :: T) v X → (cap = 1 → PJ w wr' g Q L T (.slice (some ⟨b, o, none⟩) T.length 0) X) ∧ (¬ cap = 1 → PJ w wr' g Q L T (.slice (some ⟨b, o + 9, none⟩) T.length (cap - 1)) X)) := by
  obtain ⟨M, D, Mr, R, ar, cr, rfl, hq, hp, hlo, hs, hb0⟩ := h
  obtain ⟨y, d, b, o, hy, hR, ⟨a, n, c, rfl, hsl, _, _⟩, rfl, hm, hb, hc, _⟩ := hp.get (i := 0) (by simp)
  obtain rfl : x = y := by simpa using hy
  have hle := hp.row.le
  simp at hle
  simp only [Nat.zero_mul, Nat.add_zero] at hc
  refine ⟨b, o, cr, a, n, c, rfl, hsl, hb, by omega, hle, hp.row.max, hc, fun wr' h => ?_⟩
  obtain ⟨M, D, Mr, R, ar, cr2, e, hq, hp, hlo, hs, hb0⟩ := h
  injection e with e1 e2 e3
  subst e1 e3
  have heq := hp.eq
  match R, heq with
  | (y, d) :: R', heq =>
    simp at heq
    obtain ⟨rfl, he⟩ := heq
    have hmx := hp.row.max
    have hll : R'.length = T.length := by rw [← he]; simp
    rcases hp.row.row with h0 | ⟨b', o', e', hm', hb', hcc, hff⟩
    · omega
    · obtain ⟨rfl, rfl⟩ : b = b' ∧ o = o' := by simpa using e'
      refine ⟨fun h1 => ⟨M, D, Mr, R', some ⟨b, o, none⟩, 0, rfl, hq, ⟨he, rfl, ⟨by rw [pflat_len, hll], by omega, by omega, fun h => (by cases h), .inl rfl⟩, fun r hr => hp.dat r (by simp [hr]), hp.old, hp.dj⟩, hlo, hs, hb0⟩,
        fun h1 => ⟨M, D, Mr, R', some ⟨b, o + 9, none⟩, cr - 1, rfl, hq, ⟨he, rfl, ⟨by rw [pflat_len, hll], by omega, by omega, fun h => (by cases h), .inr ⟨b, o + 9, rfl, hm', hb', fun i u hu => ?_, fun i hi => ?_⟩⟩, fun r hr => hp.dat r (by simp [hr]), hp.old, hp.dj⟩, hlo, hs, hb0⟩⟩
      · rw [Nat.add_assoc]
        refine hcc (9 + i) u ?_
        rw [pflat_cons, List.getElem?_append_right (by simp [pcells]), show 9 + i - (pcells (y, d).1 (y, d).2).length = i by simp [pcells]]
        exact hu
      · rw [Nat.add_assoc]
        exact hff (9 + i) (by omega)
end Go.Proofs.Ytgjceclidbnggaa
