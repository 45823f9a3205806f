/- A pool beside the list that it is held against. Conditions: as each theorem states them. -/
import Derived.Test.YtafbcnchgnmjbaaPooPut
import Derived.Test.YtafbcnchgnmjbaaPooRem
import Derived.Test.YtafbcnchgnmjbaaPooAll
import Derived.Test.YtafbcnchgnmjbaaPJ0
namespace Go.Proofs.Ytafbcnchgnmjbaa
open Go.RowKit
set_option linter.unusedVariables false
namespace P

theorem pj_full (w wr : World) {g : Nat} {Q : Int} {L T : List Pk} {v : Value} {X : Nat → Prop} (h : PJ w wr g Q L T v X) (x : Pk) (a : Option Addr) (n cap : Nat) (h0 : 0 ≤ Q) (h1 : Q ≤ 30) (hf : (L.length : Int) = Q) :
    Calls Try.prog 9 #[.pointer (some ⟨g, 0, none⟩), x.val (.slice a n cap)] wr fun e w' => e = .returned (.int .i64 5) ∧ Below wr.heap.size wr w' := by
  obtain ⟨M, D, Mr, R, ar, cr, e, hq, hp, hlo, hs, hb0⟩ := h
  exact put_full wr hq x a n cap h0 (by omega) hf
theorem pj_put (w wr : World) {g : Nat} {Q : Int} {L T : List Pk} {v : Value} {X : Nat → Prop} (h : PJ w wr g Q L T v X) (x : Pk) (a : Option Addr) (n cap : Nat) (hsl : Sl wr a n cap x.z) (hn : n ≤ 17592186044416) (hX : ∀ k, X k → k < wr.heap.size) (h0 : 0 ≤ Q) (h1 : Q ≤ 30) (hf : (L.length : Int) < Q) :
    Calls Try.prog 9 #[.pointer (some ⟨g, 0, none⟩), x.val (.slice a n cap)] wr fun e w' => e = .returned (.int .i64 0) ∧ PJ w w' g Q (L ++ [x]) T v X ∧ ∃ M, Keep M wr w' ∧ ∀ k, M k → ¬ X k ∧ w.heap.size ≤ k := by
  obtain ⟨M, D, Mr, R, ar, cr, e, hq, hp, hlo, hs, hb0⟩ := h
  refine (put_ok wr hq x a n cap hsl hn h0 (by omega) hf).mono ?_
  rintro e' w' ⟨rfl, hk, M', D', hq', hM', hD'⟩
  have hz := hb0.size
  refine ⟨rfl, ⟨M', D', Mr, R, ar, cr, e, hq', hp.keep hk (fun k h hm => ?_), fun k h => ?_, fun k hm h => ?_, hk.after hb0 (fun k h => (hlo k (.inl h)).1)⟩, M, hk, fun k h => ⟨(hlo k (.inl h)).2.2, (hlo k (.inl h)).1⟩⟩
  · rcases h with h | h
    · exact hs k h (.inl hm)
    · have := (hlo k (.inl hm)).1; omega
  · have old := hq'.old k
    rcases h with h | h | h
    · refine ⟨?_, old (.inl h), ?_⟩
      · rcases hM' k h with h | h
        · exact (hlo k (.inl h)).1
        · omega
      · rcases hM' k h with h | h
        · exact (hlo k (.inl h)).2.2
        · exact fun hx => by have := hX k hx; omega
    · refine ⟨?_, old (.inr h), ?_⟩
      · rcases hD' k h with h | h
        · exact (hlo k (.inr (.inl h))).1
        · omega
      · rcases hD' k h with h | h
        · exact (hlo k (.inr (.inl h))).2.2
        · exact fun hx => by have := hX k hx; omega
    · obtain ⟨h1, h2, h3⟩ := hlo k (.inr (.inr h))
      exact ⟨h1, Nat.lt_of_lt_of_le h2 hk.size, h3⟩
  · have hlt := (hlo k (.inr (.inr hm))).2.1
    rcases h with h | h
    · rcases hM' k h with h | h
      · exact hs k hm (.inl h)
      · omega
    · rcases hD' k h with h | h
      · exact hs k hm (.inr h)
      · omega
theorem pj_remove (w wr : World) {g : Nat} {Q : Int} {L T : List Pk} {v : Value} {X : Nat → Prop} (h : PJ w wr g Q L T v X) (k : Nat) (x : Pk) (hx : L[k]? = some x) (at' : Int) (hat : at' = (k : Int)) :
    Calls Try.prog 11 #[.pointer (some ⟨g, 0, none⟩), .int .i64 at'] wr fun e w' => ∃ a n c, e = .returned (.tuple #[x.val (.slice a n c), .bool true]) ∧ Sl w' a n c x.z ∧ PJ w w' g Q (L.eraseIdx k) T v X := by
  obtain ⟨M, D, Mr, R, ar, cr, e, hq, hp, hlo, hs, hb0⟩ := h
  refine (remove_some wr hq k x hx at' hat).mono ?_
  rintro e' w' ⟨d, rfl, hk, ⟨a, n, c, rfl, hsl, _, _⟩, hq'⟩
  refine ⟨a, n, c, rfl, hsl, M, D, Mr, R, ar, cr, e, hq', hp.keep hk (fun k h hm => ?_), fun k h => ?_, hs, hk.after hb0 (fun k h => (hlo k (.inl h)).1)⟩
  · rcases h with h | h
    · exact hs k h (.inl hm)
    · have := (hlo k (.inl hm)).1; omega
  · obtain ⟨h1, h2, h3⟩ := hlo k h
    exact ⟨h1, Nat.lt_of_lt_of_le h2 hk.size, h3⟩
end P
end Go.Proofs.Ytafbcnchgnmjbaa
