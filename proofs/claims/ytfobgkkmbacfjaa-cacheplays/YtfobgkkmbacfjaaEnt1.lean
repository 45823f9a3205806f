/- The contracts of package entry: New, Word, Write, Clone, and of Links: SetFwd, SetBack, Head, Tail, Only. Conditions: as each theorem states them. -/
import Derived.Test.YtfobgkkmbacfjaaEnt0
namespace Go.Proofs.Ytfobgkkmbacfjaa
open Go.RowKit
set_option linter.unusedVariables false
set_option maxRecDepth 20000

theorem alone_any (a : Option Addr) (l : List Int) (n cap : Nat) (w : World) (hsl : Sl w a n cap l) (hb : n ≤ 17592186044416) :
    Calls Try.prog 41 #[.slice a n cap] w fun e w' => ∃ v, e = .returned v ∧ Own w' w.heap.size v l ∧ Below w.heap.size w w' := by
  obtain ⟨hn, hle, hmx, hnil, hr⟩ := hsl
  obtain ⟨i0, hi, hz0, hz1, hz2⟩ := info_parts Try.infoInt
  have hm : n ≤ maxLen := Nat.le_trans hle hmx
  cases a with
  | none =>
    obtain rfl : cap = 0 := hnil rfl
    obtain rfl : n = 0 := by omega
    obtain rfl : l = [] := List.eq_nil_of_length_eq_zero hn
    go_enter Try.func41, Try.ntmps41
    go_wp2_with (at_builtin; refine wpList_append_own_none rfl _ _ 28 rfl w.heap.size 3 i0 1 Try.underlying28 hi _ 0 [] rfl (World.ownsRow_nil _ _ _ _) rfl ?_)
    go_ret
    exact ⟨_, rfl, own_nil _ _, Below.refl _ _⟩
  | some x =>
    go_enter Try.func41, Try.ntmps41
    go_wp2_with (at_builtin; refine wpList_append_own _ rfl _ _ 28 rfl w.heap.size 3 i0 (.int .i64 0) 1 8 Try.underlying28 hi hz0 hz1 hz2 rfl (by decide) _ 0 [] rfl (World.ownsRow_nil _ _ _ _) x n cap (cells l) rfl (by simp [cells, hn]) hr.cellsAt (cells_one l) (by omega) (by omega) (Nat.le_refl _) ?_)
    intro v' w1 hown hgrow _
    go_wp2
    go_ret
    refine ⟨_, rfl, by simpa [Own, hn] using hown, (Below.refl _ _).grown hgrow (Nat.le_refl _) (by intro k hk; simp [Value.ownBlock] at hk)⟩
theorem enew_any (line fwd back : Int) (q : Bool) (a : Option Addr) (l : List Int) (n cap : Nat) (w : World) (hsl : Sl w a n cap l) (hb : n ≤ 17592186044416) :
    Calls Try.prog 12 #[.int .i64 line, .int .i64 fwd, .int .i64 back, .bool q, .slice a n cap] w fun e w' => ∃ a' cap', e = .returned ((⟨fwd, back, line, 0, q, l⟩ : En).val (.slice a' n cap')) ∧ Own w' (w.heap.size + 1) (.slice a' n cap') l ∧ Below w.heap.size w w' := by
  have hl := hsl.len
  go_enter Try.func12, Try.ntmps12
  go_wp2_with (go_at_call 41; refine (alone_any a l n cap _ (hsl.below (ba (Below.refl _ _))) hb).mono ?_; rintro e w1 ⟨v, rfl, hown, hbel⟩; obtain ⟨a1, c1, rfl, hs1⟩ := hown.sl' hl; have k1 := bcell hbel)
  have z1 := hbel.size
  simp at z1
  have hlo := hown.base
  have k6 : ∀ (V : World) (o : Nat) (u : Value), Keep (fun k => k = w.heap.size) w1 V → Keep (fun k => k = w.heap.size) w1 (V.setCell ⟨w.heap.size, o, none⟩ u) := fun V o u h => h.setCell (p := ⟨w.heap.size, o, none⟩) (.inl rfl) u
  have K := k6 _ 5 (.slice a1 n c1) (k6 _ 4 (.bool q) (k6 _ 3 (.int .i64 0) (k6 _ 2 (.int .i64 line) (k6 _ 1 (.int .i64 back) (k6 _ 0 (.int .i64 fwd) (Keep.refl _ w1))))))
  refine bodyPost_ret (v := (⟨fwd, back, line, 0, q, l⟩ : En).val (.slice a1 n c1)) (by simp [results, Try.results12, go_sem, *]) rfl ⟨a1, c1, rfl, ?_, K.after (next (ba (Below.refl _ _)) hbel) (fun k h => by omega)⟩
  exact (hown.keep K (fun k hk e => by have := (hlo k hk).1; simp at this; omega)).low (by simp)
/-- A word of a list (no such word: 0). -/
def wordI (z : List Int) (i : Int) : Int := if 0 ≤ i then z[i.toNat]?.getD 0 else 0
theorem clone_any (x : En) (a : Option Addr) (n cap : Nat) (w : World) (hs : Sl w a n cap x.z) (hb : n ≤ 17592186044416) :
    Calls Try.prog 43 #[x.val (.slice a n cap)] w fun e w' => ∃ a' cap', e = .returned (x.val (.slice a' n cap')) ∧ Own w' (w.heap.size + 1) (.slice a' n cap') x.z ∧ Below w.heap.size w w' := by
  have hl := hs.len
  go_enter Try.func43, Try.ntmps43
  go_wp2_with (go_at_call 41; refine (alone_any a x.z n cap _ (hs.below (ba (ba (Below.refl _ _)))) hb).mono ?_; rintro e w1 ⟨v, rfl, hown, hbel⟩; obtain ⟨a1, c1, rfl, hs1⟩ := hown.sl' hl; obtain ⟨k1, k2⟩ := bcell hbel; have b0 := (Eb.made w x (.slice a n cap)).next (ba (o := .cells #[.int .i64 0, .int .i64 0, .int .i64 0, .int .i64 0, .bool false, .slice none 0 0] 35) (Below.refl _ _)); have b1 := b0.next hbel; have hlo := hown.base; obtain ⟨e0, e1, e2, e3, e4, e5⟩ := b1.lit; obtain ⟨f0, f1, f2, f3, f4, f5⟩ := b1.lit'; have b2 := (Eb.made' (w.alloc (.cells #[.int .i64 x.f, .int .i64 x.b, .int .i64 x.n, .int .i64 x.u, .bool x.q, .slice a n cap] 35)) zeroEn (.slice none 0 0) (w.heap.size + 1) (by simp)).next hbel; obtain ⟨r0, r1, r2, r3, r4, r5⟩ := b2.lit; obtain ⟨t0, t1, t2, t3, t4, t5⟩ := b2.lit'; clear k1 k2 b0)
  have z1 := hbel.size
  simp at z1
  have K := Eb.six (x := x) (d := .slice a1 n c1) (g := w.heap.size + 1) (o := 0) (V := w1.setCell ⟨w.heap.size, 5, none⟩ (.slice a1 n c1)) (F := fun k => k = w.heap.size + 1 ∨ k = w.heap.size) (.inl (.inl rfl)) ((Keep.refl _ w1).setCell (p := ⟨w.heap.size, 5, none⟩) (.inl (.inr rfl)) _)
  refine bodyPost_ret (v := x.val (.slice a1 n c1)) (by simp [results, Try.results43, go_sem, *]) rfl ⟨a1, c1, rfl, ?_, K.after (next (ba (ba (Below.refl _ _))) hbel) (fun k h => by omega)⟩
  exact (hown.keep K (fun k hk e => by have := (hlo k hk).1; simp at this; omega)).low (by simp)
end Go.Proofs.Ytfobgkkmbacfjaa
