/- A queue, or a pool, beside the list that it is held against (PJ). Nothing of the program but packets is named here. -/
import Derived.Test.YtafbcnchgnmjbaaQue0
namespace Go.Proofs.Ytafbcnchgnmjbaa
open Go.RowKit
set_option linter.unusedVariables false

/-- The queue has the packets L, the list T; neither lies in blocks of X. -/
def PJ (w wr : World) (g : Nat) (Q : Int) (L T : List Pk) (v : Value) (X : Nat → Prop) : Prop :=
  ∃ M D Mr R a cap, v = .slice a T.length cap ∧ Qu wr g M D Q L ∧ PRow wr Mr (fun k => k < w.heap.size) T R a T.length cap ∧ (∀ k, M k ∨ D k ∨ Mr k → w.heap.size ≤ k ∧ k < wr.heap.size ∧ ¬ X k) ∧ (∀ k, Mr k → ¬ (M k ∨ D k)) ∧ Below w.heap.size w wr
theorem PJ.keep {w wr wr' : World} {g : Nat} {Q : Int} {L T : List Pk} {v : Value} {X : Nat → Prop} (h : PJ w wr g Q L T v X) (hk : Keep X wr wr') (hX : ∀ k, X k → w.heap.size ≤ k) : PJ w wr' g Q L T v X := by
  obtain ⟨M, D, Mr, R, a, cap, e, hq, hp, hlo, hs, hb⟩ := h
  refine ⟨M, D, Mr, R, a, cap, e, hq.keep hk (fun k h => (hlo k (h.elim .inl (fun h => .inr (.inl h)))).2.2), hp.keep hk (fun k h hx => ?_), fun k h => ?_, hs, hk.after hb hX⟩
  · rcases h with h | h
    · exact (hlo k (.inr (.inr h))).2.2 hx
    · have := hX k hx; omega
  · obtain ⟨h1, h2, h3⟩ := hlo k h
    exact ⟨h1, Nat.lt_of_lt_of_le h2 hk.size, h3⟩
theorem PJ.below {w wr wr' : World} {g : Nat} {Q : Int} {L T : List Pk} {v : Value} {X : Nat → Prop} (h : PJ w wr g Q L T v X) (hb : Below wr.heap.size wr wr') : PJ w wr' g Q L T v X := by
  obtain ⟨M, D, Mr, R, a, cap, e, hq, hp, hlo, hs, hb0⟩ := h
  refine ⟨M, D, Mr, R, a, cap, e, hq.below hb, hp.below hb, fun k h => ?_, hs, next hb0 hb⟩
  obtain ⟨h1, h2, h3⟩ := hlo k h
  exact ⟨h1, Nat.lt_of_lt_of_le h2 hb.size, h3⟩
theorem PJ.free {w wr : World} {g : Nat} {Q : Int} {L T : List Pk} {v : Value} {X : Nat → Prop} (h : PJ w wr g Q L T v X) : PJ w wr g Q L T v (fun _ => False) := by
  obtain ⟨M, D, Mr, R, a, cap, e, hq, hp, hlo, hs, hb0⟩ := h
  exact ⟨M, D, Mr, R, a, cap, e, hq, hp, fun k h => ⟨(hlo k h).1, (hlo k h).2.1, id⟩, hs, hb0⟩
theorem PJ.fresh {w wr wr' : World} {g : Nat} {Q : Int} {L T : List Pk} {v : Value} {X Y : Nat → Prop} (h : PJ w wr g Q L T v X) (hb : Below wr.heap.size wr wr') (hY : ∀ k, Y k → wr.heap.size ≤ k) : PJ w wr' g Q L T v Y := by
  obtain ⟨M, D, Mr, R, a, cap, e, hq, hp, hlo, hs, hb0⟩ := h
  refine ⟨M, D, Mr, R, a, cap, e, hq.below hb, hp.below hb, fun k h => ?_, hs, next hb0 hb⟩
  obtain ⟨h1, h2, h3⟩ := hlo k h
  exact ⟨h1, Nat.lt_of_lt_of_le h2 hb.size, fun hy => by have := hY k hy; omega⟩
theorem pj_new {w w1 : World} {Q : Int} (hb : Below w.heap.size w w1) (hq : Qu w1 w.heap.size (fun k => k = w.heap.size) (fun _ => False) Q []) : PJ w w1 w.heap.size Q [] [] (.slice none 0 0) (fun _ => False) :=
  ⟨fun k => k = w.heap.size, fun _ => False, fun _ => False, [], none, 0, rfl, hq, prow_nil _ _, fun k h => (by
    rcases h with h | h | h
    · have := hq.old k (.inl h); exact ⟨by omega, this, id⟩
    · exact h.elim
    · exact h.elim), fun k h => h.elim, hb⟩
theorem PJ.wb {w wr : World} {g : Nat} {Q : Int} {L T : List Pk} {v : Value} {X : Nat → Prop} (h : PJ w wr g Q L T v X) : Below w.heap.size w wr := by
  obtain ⟨M, D, Mr, R, a, cap, e, hq, hp, hlo, hs, hb0⟩ := h
  exact hb0
/-- One more in the list. -/
theorem PJ.snoc {w wr w' : World} {g : Nat} {Q : Int} {L T : List Pk} {X : Nat → Prop} {M D Mr : Nat → Prop} {R : List (Pk × Value)} {a a' : Option Addr} {cap cap' : Nat} {x : Pk} {d : Value}
    (hq : Qu wr g M D Q L) (hp : PRow wr Mr (fun k => k < w.heap.size) T R a T.length cap) (hlo : ∀ k, M k ∨ D k ∨ Mr k → w.heap.size ≤ k ∧ k < wr.heap.size ∧ ¬ X k) (hs : ∀ k, Mr k → ¬ (M k ∨ D k)) (hb : Below w.heap.size w wr)
    (hX : ∀ k, X k → k < wr.heap.size) (hd : Dat wr (fun k => k < w.heap.size) x d)
    (hr : Rw w' (fun k => Mr k ∨ wr.heap.size ≤ k) a' (T.length + 1) cap' 9 (pflat R ++ pcells x d)) (hk : Keep Mr wr w') : PJ w w' g Q L (T ++ [x]) (.slice a' (T.length + 1) cap') X := by
  have hz := hb.size
  have hp2 := hp.snoc (E := fun k => k < w.heap.size) hd (fun k h hm => by have := (hlo k (.inr (.inr hm))).1; omega) (fun k h => by omega) (fun k h => by omega) hr hk
  refine ⟨M, D, fun k => Mr k ∨ (wr.heap.size ≤ k ∧ k < w'.heap.size), R ++ [(x, d)], a', cap', by simp, hq.keep hk (fun k h hm => hs k hm h), ?_, fun k h => ?_, fun k hm h => ?_, hk.after hb (fun k h => (hlo k (.inr (.inr h))).1)⟩
  · have e : (T ++ [x]).length = T.length + 1 := by simp
    rw [e]
    exact ⟨hp2.eq, hp2.len, hp2.row, fun r hr => (hp2.dat r hr).imp (fun k _ h => h.elim id id), hp2.old, fun k hm h => hp2.dj k hm (.inl h)⟩
  · rcases h with h | h | h | h
    · obtain ⟨h1, h2, h3⟩ := hlo k (.inl h)
      exact ⟨h1, Nat.lt_of_lt_of_le h2 hk.size, h3⟩
    · obtain ⟨h1, h2, h3⟩ := hlo k (.inr (.inl h))
      exact ⟨h1, Nat.lt_of_lt_of_le h2 hk.size, h3⟩
    · obtain ⟨h1, h2, h3⟩ := hlo k (.inr (.inr h))
      exact ⟨h1, Nat.lt_of_lt_of_le h2 hk.size, h3⟩
    · exact ⟨by omega, h.2, fun hx => by have := hX k hx; omega⟩
  · rcases hm with hm | hm
    · exact hs k hm h
    · have := (hlo k (h.elim .inl (fun h => .inr (.inl h)))).2.1; omega
/-- The first of the list. -/
theorem PJ.head {w wr : World} {g : Nat} {Q : Int} {x : Pk} {L T : List Pk} {v : Value} {X : Nat → Prop} (h : PJ w wr g Q L (x :: T) v X) : ∃ b o cap a n c, v = .slice (some ⟨b, o, none⟩) (T.length + 1) cap ∧ Sl wr a n c x.z ∧ b < wr.heap.size ∧ 1 ≤ cap ∧ T.length + 1 ≤ cap ∧ cap ≤ maxLen ∧
    (wr.cell? ⟨b, o, none⟩ = some (.int .i64 x.k) ∧ wr.cell? ⟨b, o + 1, none⟩ = some (.int .i64 x.f) ∧ wr.cell? ⟨b, o + 2, none⟩ = some (.int .i64 x.t) ∧ wr.cell? ⟨b, o + 3, none⟩ = some (.int .i64 x.i) ∧
      wr.cell? ⟨b, o + 4, none⟩ = some (.int .i64 x.l) ∧ wr.cell? ⟨b, o + 5, none⟩ = some (.int .i64 x.p) ∧ wr.cell? ⟨b, o + 6, none⟩ = some (.int .i64 x.s) ∧ wr.cell? ⟨b, o + 7, none⟩ = some (.bool x.fl) ∧ wr.cell? ⟨b, o + 8, none⟩ = some (.slice a n c)) ∧
    (∀ wr', PJ w wr' g Q L (x :: T) v X → (cap = 1 → PJ w wr' g Q L T (.slice (some ⟨b, o, none⟩) T.length 0) X) ∧ (¬ cap = 1 → PJ w wr' g Q L T (.slice (some ⟨b, o + 9, none⟩) T.length (cap - 1)) X)) := by
  obtain ⟨M, D, Mr, R, ar, cr, rfl, hq, hp, hlo, hs, hb0⟩ := h
  obtain ⟨y, d, b, o, hy, hR, ⟨a, n, c, rfl, hsl, _, _⟩, rfl, hm, hb, hc, _⟩ := hp.get (i := 0) (by simp)
  obtain rfl : x = y := by simpa using hy
  have hle := hp.row.le
  simp at hle
  simp only [Nat.zero_mul, Nat.add_zero] at hc
  refine ⟨b, o, cr, a, n, c, rfl, hsl, hb, by omega, hle, hp.row.max, hc, fun wr' h => ?_⟩
  obtain ⟨M, D, Mr, R, ar, cr2, e, hq, hp, hlo, hs, hb0⟩ := h
  injection e with e1 e2 e3
  subst e1 e3
  have heq := hp.eq
  match R, heq with
  | (y, d) :: R', heq =>
    simp at heq
    obtain ⟨rfl, he⟩ := heq
    have hmx := hp.row.max
    have hll : R'.length = T.length := by rw [← he]; simp
    rcases hp.row.row with h0 | ⟨b', o', e', hm', hb', hcc, hff⟩
    · omega
    · obtain ⟨rfl, rfl⟩ : b = b' ∧ o = o' := by simpa using e'
      refine ⟨fun h1 => ⟨M, D, Mr, R', some ⟨b, o, none⟩, 0, rfl, hq, ⟨he, rfl, ⟨by rw [pflat_len, hll], by omega, by omega, fun h => (by cases h), .inl rfl⟩, fun r hr => hp.dat r (by simp [hr]), hp.old, hp.dj⟩, hlo, hs, hb0⟩,
        fun h1 => ⟨M, D, Mr, R', some ⟨b, o + 9, none⟩, cr - 1, rfl, hq, ⟨he, rfl, ⟨by rw [pflat_len, hll], by omega, by omega, fun h => (by cases h), .inr ⟨b, o + 9, rfl, hm', hb', fun i u hu => ?_, fun i hi => ?_⟩⟩, fun r hr => hp.dat r (by simp [hr]), hp.old, hp.dj⟩, hlo, hs, hb0⟩⟩
      · rw [Nat.add_assoc]
        refine hcc (9 + i) u ?_
        rw [pflat_cons, List.getElem?_append_right (by simp [pcells]), show 9 + i - (pcells (y, d).1 (y, d).2).length = i by simp [pcells]]
        exact hu
      · rw [Nat.add_assoc]
        exact hff (9 + i) (by omega)
theorem PJ.open {w wr : World} {g n cap : Nat} {Q : Int} {L T : List Pk} {a : Option Addr} {X : Nat → Prop} (h : PJ w wr g Q L T (.slice a n cap) X) : T.length = n ∧ ∃ M D Mr R, Qu wr g M D Q L ∧ PRow wr Mr (fun k => k < w.heap.size) T R a n cap ∧ (∀ k, M k ∨ D k ∨ Mr k → w.heap.size ≤ k ∧ k < wr.heap.size ∧ ¬ X k) ∧ (∀ k, Mr k → ¬ (M k ∨ D k)) ∧ Below w.heap.size w wr := by
  obtain ⟨M, D, Mr, R, a', cap', e, hq, hp, hlo, hs, hb⟩ := h
  injection e with e1 e2 e3
  subst e1 e2 e3
  exact ⟨rfl, M, D, Mr, R, hq, hp, hlo, hs, hb⟩
theorem PJ.slice {w wr : World} {g n : Nat} {Q : Int} {L T : List Pk} {v : Value} {X : Nat → Prop} (h : PJ w wr g Q L T v X) (hn : T.length = n) : ∃ a cap, v = .slice a n cap ∧ n ≤ cap ∧ cap ≤ maxLen := by
  subst hn
  obtain ⟨M, D, Mr, R, a', cap', e, hq, hp, hlo, hs, hb⟩ := h
  exact ⟨a', cap', e, hp.row.le, hp.row.max⟩
theorem PJ.qu {w wr : World} {g : Nat} {Q : Int} {L T : List Pk} {v : Value} {X : Nat → Prop} (h : PJ w wr g Q L T v X) : ∃ M D, Qu wr g M D Q L := by
  obtain ⟨M, D, Mr, R, a', cap', e, hq, hp, hlo, hs, hb⟩ := h
  exact ⟨M, D, hq⟩
/-- The k-th of the list. -/
theorem PJ.at {w wr : World} {g n cap k : Nat} {Q : Int} {L T : List Pk} {a : Option Addr} {X : Nat → Prop} (h : PJ w wr g Q L T (.slice a n cap) X) {x : Pk} (hx : T[k]? = some x) : ∃ b o az nz cz, a = some ⟨b, o, none⟩ ∧ Sl wr az nz cz x.z ∧ b < wr.heap.size ∧
    (wr.cell? ⟨b, o + k * 9, none⟩ = some (.int .i64 x.k) ∧ wr.cell? ⟨b, o + k * 9 + 1, none⟩ = some (.int .i64 x.f) ∧ wr.cell? ⟨b, o + k * 9 + 2, none⟩ = some (.int .i64 x.t) ∧ wr.cell? ⟨b, o + k * 9 + 3, none⟩ = some (.int .i64 x.i) ∧
      wr.cell? ⟨b, o + k * 9 + 4, none⟩ = some (.int .i64 x.l) ∧ wr.cell? ⟨b, o + k * 9 + 5, none⟩ = some (.int .i64 x.p) ∧ wr.cell? ⟨b, o + k * 9 + 6, none⟩ = some (.int .i64 x.s) ∧ wr.cell? ⟨b, o + k * 9 + 7, none⟩ = some (.bool x.fl) ∧ wr.cell? ⟨b, o + k * 9 + 8, none⟩ = some (.slice az nz cz)) := by
  obtain ⟨hl, M, D, Mr, R, hq, hp, hlo, hs, hb⟩ := h.open
  have hk : k < n := by rw [← hl]; exact (List.getElem?_eq_some_iff.1 hx).1
  obtain ⟨y, d, b, o, hy, hR, ⟨az, nz, cz, rfl, hsl, _, _⟩, rfl, hm, hb, hc, _⟩ := hp.get hk
  obtain rfl : y = x := by rw [hx] at hy; exact (Option.some.inj hy).symm
  exact ⟨b, o, az, nz, cz, rfl, hsl, hb, hc⟩
theorem pflat_erase (R : List (Pk × Value)) (k : Nat) (hk : k < R.length) : (pflat R).take (k * 9) ++ (pflat R).drop ((k + 1) * 9) = pflat (R.eraseIdx k) := by
  have h1 : (pflat (R.take k)).length = k * 9 := by rw [pflat_len, List.length_take, Nat.min_eq_left (by omega)]
  have h2 : (pflat (R.take (k + 1))).length = (k + 1) * 9 := by rw [pflat_len, List.length_take, Nat.min_eq_left (by omega)]
  have e1 : (pflat R).take (k * 9) = pflat (R.take k) := by
    conv => lhs; rw [← List.take_append_drop k R, pflat_append, ← h1]
    exact List.take_left
  have e2 : (pflat R).drop ((k + 1) * 9) = pflat (R.drop (k + 1)) := by
    conv => lhs; rw [← List.take_append_drop (k + 1) R, pflat_append, ← h2]
    exact List.drop_left
  rw [e1, e2, List.eraseIdx_eq_take_drop_succ, pflat_append]
theorem pflat_ones {R : List (Pk × Value)} (h : ∀ r ∈ R, r.2.oneCell' = true) : ∀ u ∈ pflat R, u.oneCell' = true := by
  intro u hu
  obtain ⟨r, hr, hu2⟩ := List.mem_flatMap.1 hu
  exact pcells_one (h r hr) u hu2
/-- One is left out of the list, which is new then. -/
theorem PJ.erase {w wr w' : World} {g n k : Nat} {Q : Int} {L T : List Pk} {X M D Mr : Nat → Prop} {R : List (Pk × Value)} {a a' : Option Addr} {cap cap' : Nat} (hq : Qu wr g M D Q L) (hp : PRow wr Mr (fun k => k < w.heap.size) T R a n cap)
    (hlo : ∀ k, M k ∨ D k ∨ Mr k → w.heap.size ≤ k ∧ k < wr.heap.size ∧ ¬ X k) (hb : Below w.heap.size w wr) (hb' : Below wr.heap.size wr w') (hk : k < n)
    (hr : Rw w' (fun k => wr.heap.size ≤ k) a' (n - 1) cap' 9 ((pflat R).take (k * 9) ++ (pflat R).drop ((k + 1) * 9))) : PJ w w' g Q L (T.eraseIdx k) (.slice a' (n - 1) cap') (fun _ => False) := by
  have hz := hb.size
  have hz' := hb'.size
  have hl := hp.len
  have hRl : R.length = n := by rw [← hl, ← hp.eq, List.length_map]
  have hT : (T.eraseIdx k).length = n - 1 := by rw [List.length_eraseIdx_of_lt (by omega), hl]
  rw [pflat_erase R k (by omega)] at hr
  refine ⟨M, D, fun k => wr.heap.size ≤ k ∧ k < w'.heap.size, R.eraseIdx k, a', cap', by rw [hT], hq.below hb', ⟨by rw [map_eraseIdx', hp.eq], rfl, by rw [hT]; exact hr.imp (fun k hk h => ⟨h, hk⟩), fun r hr => (hp.dat r (List.mem_of_mem_eraseIdx hr)).below hb', fun k h => h.2, fun k h h' => by omega⟩, fun k h => ?_, fun k h h' => ?_, next hb hb'⟩
  · rcases h with h | h | h
    · have := hlo k (.inl h); exact ⟨this.1, by omega, id⟩
    · have := hlo k (.inr (.inl h)); exact ⟨this.1, by omega, id⟩
    · exact ⟨by omega, h.2, id⟩
  · have := hlo k (by rcases h' with h' | h' <;> simp [h'])
    omega
end Go.Proofs.Ytafbcnchgnmjbaa
