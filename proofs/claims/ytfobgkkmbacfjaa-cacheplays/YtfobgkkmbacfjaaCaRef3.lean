/- The document's cache: an entry's Copy. Conditions: as each theorem states them. -/
import Derived.Test.YtfobgkkmbacfjaaCaRef2
namespace Go.Proofs.Ytfobgkkmbacfjaa
open Go.RowKit
set_option linter.unusedVariables false
set_option maxRecDepth 20000
namespace CR

theorem Eb.madeT' (w : World) (x : En) (d : Value) (t : TypeId) (g : Nat) (hg : g = w.heap.size) : Eb (w.alloc (.cells #[.int .i64 x.f, .int .i64 x.b, .int .i64 x.n, .int .i64 x.u, .bool x.q, d] t)) g 0 x d := hg ▸ Eb.madeT w x d t
theorem copy_any (x : En) (a : Option Addr) (n cap : Nat) (w : World) (hsl : Sl w a n cap x.z) (hn : n ≤ 17592186044416) :
    Calls Try.prog 44 #[x.val (.slice a n cap)] w fun e w' => ∃ a' cap', e = .returned (x.val (.slice a' n cap')) ∧ Own w' (w.heap.size + 1) (.slice a' n cap') x.z ∧ Below w.heap.size w w' := by
  obtain ⟨i0, hi, hz0, hz1, hz2⟩ := info_parts Try.infoInt
  obtain ⟨hl, hle, hmx, hnil, hr⟩ := hsl
  cases a with
  | none =>
    obtain rfl : cap = 0 := hnil rfl
    obtain rfl : n = 0 := by omega
    have HZ : Hid (x.z = []) := List.eq_nil_of_length_eq_zero hl
    clear hr hnil
    go_enter Try.func44, Try.ntmps44
    go_wp2_with (at_builtin; refine wpList_append_own_none rfl _ _ 28 rfl w.heap.size 3 i0 1 Try.underlying28 hi _ 0 [] rfl (World.ownsRow_nil _ _ _ _) rfl ?_)
    refine bodyPost_ret (v := x.val (.slice none 0 0)) (by simp [results, Try.results44, go_sem, *]) rfl ⟨_, _, rfl, by rw [HZ.out]; exact own_nil _ _, ?_⟩
    exact ba (ba (Below.refl _ _))
  | some y =>
    clear hnil
    go_enter Try.func44, Try.ntmps44
    go_wp2_with (at_builtin; refine wpList_append_own _ rfl _ _ 28 rfl (w.heap.size + 2) 3 i0 (.int .i64 0) 1 8 Try.underlying28 hi hz0 hz1 hz2 rfl (by decide) _ 0 [] rfl (World.ownsRow_nil _ _ _ _) y n cap (cells x.z) rfl (by simp [cells, hl]) (Row.below hr (ba (ba (Below.refl _ _)))).cellsAt (cells_one x.z) (by omega) (by omega) (by simp) ?_; intro v' w1 hown hgrow hiff; clear hiff; have hown' : Own w1 (w.heap.size + 2) v' x.z := (by simpa [Own, hl] using hown); obtain ⟨a', c', rfl, hs'⟩ := hown'.sl' hl; clear hown; have hb1 := below_new hgrow; clear hgrow; have b1 := ((Eb.madeT w x (.slice (some y) n cap) 41).next (ba (Below.refl _ _))).next hb1; have b2 := (Eb.madeT' (w.alloc (.cells #[.int .i64 x.f, .int .i64 x.b, .int .i64 x.n, .int .i64 x.u, .bool x.q, .slice (some y) n cap] 41)) zeroEn (.slice none 0 0) 41 (w.heap.size + 1) (by simp)).next hb1; obtain ⟨p0, p1, p2, p3, p4, p5⟩ := b1.lit; obtain ⟨f0, f1, f2, f3, f4, f5⟩ := b1.lit'; obtain ⟨r0, r1, r2, r3, r4, r5⟩ := b2.lit; obtain ⟨t0, t1, t2, t3, t4, t5⟩ := b2.lit')
    have K := Eb.six (x := x) (d := .slice a' n c') (g := w.heap.size + 1) (o := 0) (V := w1.setCell ⟨w.heap.size, 5, none⟩ (.slice a' n c')) (F := fun k => k = w.heap.size + 1 ∨ k = w.heap.size) (.inl (.inl rfl)) ((Keep.refl _ w1).setCell (p := ⟨w.heap.size, 5, none⟩) (.inl (.inr rfl)) _)
    have hlo := hown'.base
    refine bodyPost_ret (v := x.val (.slice a' n c')) (by simp [results, Try.results44, go_sem, *]) rfl ⟨a', c', rfl, ?_, K.after (next (ba (ba (Below.refl _ _))) hb1) (fun k h => by omega)⟩
    exact (hown'.keep K (fun k hk e => by have := (hlo k hk).1; omega)).low (by omega)
end CR
end Go.Proofs.Ytfobgkkmbacfjaa
