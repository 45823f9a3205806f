/- The contracts of package entry: New, Word, Write, Clone, and of Links: SetFwd, SetBack, Head, Tail, Only. Conditions: as each theorem states them. -/
import Derived.Test.YteikapeleagedaaEnt0
namespace Go.Proofs.Yteikapeleagedaa
open Go.RowKit
set_option linter.unusedVariables false
set_option maxRecDepth 20000

theorem alone_any (a : Option Addr) (l : List Int) (n cap : Nat) (w : World) (hsl : Sl w a n cap l) (hb : n ≤ 17592186044416) :
    Calls Try.prog 37 #[.slice a n cap] w fun e w' => ∃ v, e = .returned v ∧ Own w' w.heap.size v l ∧ Below w.heap.size w w' := by
  obtain ⟨hn, hle, hmx, hnil, hr⟩ := hsl
  obtain ⟨i0, hi, hz0, hz1, hz2⟩ := info_parts Try.infoInt
  have hm : n ≤ maxLen := Nat.le_trans hle hmx
  cases a with
  | none =>
    obtain rfl : cap = 0 := hnil rfl
    obtain rfl : n = 0 := by omega
    obtain rfl : l = [] := List.eq_nil_of_length_eq_zero hn
    go_enter Try.func37, Try.ntmps37
    go_wp2_with (at_builtin; refine wpList_append_own_none rfl _ _ 22 rfl w.heap.size 3 i0 1 Try.underlying22 hi _ 0 [] rfl (World.ownsRow_nil _ _ _ _) rfl ?_)
    go_ret
    exact ⟨_, rfl, own_nil _ _, Below.refl _ _⟩
  | some x =>
    go_enter Try.func37, Try.ntmps37
    go_wp2_with (at_builtin; refine wpList_append_own _ rfl _ _ 22 rfl w.heap.size 3 i0 (.int .i64 0) 1 8 Try.underlying22 hi hz0 hz1 hz2 rfl (by decide) _ 0 [] rfl (World.ownsRow_nil _ _ _ _) x n cap (cells l) rfl (by simp [cells, hn]) hr.cellsAt (cells_one l) (by omega) (by omega) (Nat.le_refl _) ?_)
    intro v' w1 hown hgrow _
    go_wp2
    go_ret
    refine ⟨_, rfl, by simpa [Own, hn] using hown, (Below.refl _ _).grown hgrow (Nat.le_refl _) (by intro k hk; simp [Value.ownBlock] at hk)⟩
theorem enew_any (line fwd back : Int) (q : Bool) (a : Option Addr) (l : List Int) (n cap : Nat) (w : World) (hsl : Sl w a n cap l) (hb : n ≤ 17592186044416) :
    Calls Try.prog 12 #[.int .i64 line, .int .i64 fwd, .int .i64 back, .bool q, .slice a n cap] w fun e w' => ∃ a' cap', e = .returned ((⟨fwd, back, line, 0, q, l⟩ : En).val (.slice a' n cap')) ∧ Own w' (w.heap.size + 1) (.slice a' n cap') l ∧ Below w.heap.size w w' := by
  have hl := hsl.len
  go_enter Try.func12, Try.ntmps12
  go_wp2_with (go_at_call 37; refine (alone_any a l n cap _ (hsl.below (ba (Below.refl _ _))) hb).mono ?_; rintro e w1 ⟨v, rfl, hown, hbel⟩; obtain ⟨a1, c1, rfl, hs1⟩ := hown.sl' hl; have k1 := bcell hbel)
  have z1 := hbel.size
  simp at z1
  have hlo := hown.base
  have k6 : ∀ (V : World) (o : Nat) (u : Value), Keep (fun k => k = w.heap.size) w1 V → Keep (fun k => k = w.heap.size) w1 (V.setCell ⟨w.heap.size, o, none⟩ u) := fun V o u h => h.setCell (p := ⟨w.heap.size, o, none⟩) (.inl rfl) u
  have K := k6 _ 5 (.slice a1 n c1) (k6 _ 4 (.bool q) (k6 _ 3 (.int .i64 0) (k6 _ 2 (.int .i64 line) (k6 _ 1 (.int .i64 back) (k6 _ 0 (.int .i64 fwd) (Keep.refl _ w1))))))
  refine bodyPost_ret (v := (⟨fwd, back, line, 0, q, l⟩ : En).val (.slice a1 n c1)) (by simp [results, Try.results12, go_sem, *]) rfl ⟨a1, c1, rfl, ?_, K.after (next (ba (Below.refl _ _)) hbel) (fun k h => by omega)⟩
  exact (hown.keep K (fun k hk e => by have := (hlo k hk).1; simp at this; omega)).low (by simp)
theorem has_any (x : En) (a : Option Addr) (n cap : Nat) (at_ : Int) (w : World) (hn : n ≤ maxLen) :
    Calls Try.prog 41 #[x.val (.slice a n cap), .int .i64 at_] w fun e w' => e = .returned (.bool (decide (0 ≤ at_ ∧ at_ < n))) ∧ Below w.heap.size w w' := by
  unfold maxLen at hn
  go_enter Try.func41, Try.ntmps41
  go_wp2
  all_goals go_ret
  all_goals exact ⟨ret_bool (by simp <;> omega), ba (Below.refl _ _)⟩
/-- A word of a list (no such word: 0). -/
def wordI (z : List Int) (i : Int) : Int := if 0 ≤ i then z[i.toNat]?.getD 0 else 0
theorem word_any (x : En) (a : Option Addr) (n cap : Nat) (at_ : Int) (w : World) (hs : Sl w a n cap x.z) :
    Calls Try.prog 22 #[x.val (.slice a n cap), .int .i64 at_] w fun e w' => e = .returned (.int .i64 (wordI x.z at_)) ∧ Below w.heap.size w w' := by
  have hn := hs.le
  have hm := hs.max
  have hl := hs.len
  have hm' := hm
  unfold maxLen at hm
  by_cases hin : 0 ≤ at_ ∧ at_ < n
  · obtain ⟨b, o, rfl, hlt, hc⟩ := hs.at (k := at_.toNat) (by omega)
    have hb : (decide (0 ≤ at_ ∧ at_ < n)) = true := decide_eq_true hin
    obtain ⟨k, rfl⟩ : ∃ k : Nat, at_ = k := ⟨at_.toNat, by omega⟩
    have hk : k < n := by omega
    rw [Int.toNat_natCast] at hc
    obtain ⟨y, hy⟩ : ∃ y, y = x.z[k]?.getD 0 := ⟨_, rfl⟩
    rw [← hy] at hc
    have hv : Hid (y = wordI x.z k) := by show _ = _; rw [hy]; simp [wordI]
    clear hin hy
    go_enter Try.func22, Try.ntmps22
    go_wp2_with (go_at_call 41; refine (has_any x _ n cap k _ (by omega)).mono ?_; rintro e w1 ⟨rfl, hb1⟩; rw [hb]; have k1 := bcell (next (ba (o := .cells #[.int .i64 x.f, .int .i64 x.b, .int .i64 x.n, .int .i64 x.u, .bool x.q, .slice (some ⟨b, o, none⟩) n cap] 33) (Below.refl _ _)) hb1); have k2 := bcell hb1; have k3 := k1.1 b (o + k) hlt; rw [hc] at k3)
    go_ret
    exact ⟨ret_int hv.out, next (ba (Below.refl _ _)) hb1⟩
  · have hb : (decide (0 ≤ at_ ∧ at_ < n)) = false := decide_eq_false hin
    go_enter Try.func22, Try.ntmps22
    go_wp2_with (go_at_call 41; refine (has_any x _ n cap at_ _ (by omega)).mono ?_; rintro e w1 ⟨rfl, hb1⟩; rw [hb])
    go_ret
    refine ⟨ret_int ?_, next (ba (Below.refl _ _)) hb1⟩
    unfold wordI
    split
    · rw [List.getElem?_eq_none (by omega)]; rfl
    · rfl
theorem clone_any (x : En) (a : Option Addr) (n cap : Nat) (w : World) (hs : Sl w a n cap x.z) (hb : n ≤ 17592186044416) :
    Calls Try.prog 36 #[x.val (.slice a n cap)] w fun e w' => ∃ a' cap', e = .returned (x.val (.slice a' n cap')) ∧ Own w' (w.heap.size + 1) (.slice a' n cap') x.z ∧ Below w.heap.size w w' := by
  have hl := hs.len
  go_enter Try.func36, Try.ntmps36
  go_wp2_with (go_at_call 37; refine (alone_any a x.z n cap _ (hs.below (ba (ba (Below.refl _ _)))) hb).mono ?_; rintro e w1 ⟨v, rfl, hown, hbel⟩; obtain ⟨a1, c1, rfl, hs1⟩ := hown.sl' hl; obtain ⟨k1, k2⟩ := bcell hbel; have b0 := (Eb.made w x (.slice a n cap)).next (ba (o := .cells #[.int .i64 0, .int .i64 0, .int .i64 0, .int .i64 0, .bool false, .slice none 0 0] 33) (Below.refl _ _)); have b1 := b0.next hbel; have hlo := hown.base; obtain ⟨e0, e1, e2, e3, e4, e5⟩ := b1.lit; obtain ⟨f0, f1, f2, f3, f4, f5⟩ := b1.lit'; have b2 := (Eb.made' (w.alloc (.cells #[.int .i64 x.f, .int .i64 x.b, .int .i64 x.n, .int .i64 x.u, .bool x.q, .slice a n cap] 33)) zeroEn (.slice none 0 0) (w.heap.size + 1) (by simp)).next hbel; obtain ⟨r0, r1, r2, r3, r4, r5⟩ := b2.lit; obtain ⟨t0, t1, t2, t3, t4, t5⟩ := b2.lit'; clear k1 k2 b0)
  have z1 := hbel.size
  simp at z1
  have K := Eb.six (x := x) (d := .slice a1 n c1) (g := w.heap.size + 1) (o := 0) (V := w1.setCell ⟨w.heap.size, 5, none⟩ (.slice a1 n c1)) (F := fun k => k = w.heap.size + 1 ∨ k = w.heap.size) (.inl (.inl rfl)) ((Keep.refl _ w1).setCell (p := ⟨w.heap.size, 5, none⟩) (.inl (.inr rfl)) _)
  refine bodyPost_ret (v := x.val (.slice a1 n c1)) (by simp [results, Try.results36, go_sem, *]) rfl ⟨a1, c1, rfl, ?_, K.after (next (ba (ba (Below.refl _ _))) hbel) (fun k h => by omega)⟩
  exact (hown.keep K (fun k hk e => by have := (hlo k hk).1; simp at this; omega)).low (by simp)
theorem write_no (g o : Nat) (x : En) (a : Option Addr) (n cap : Nat) (at_ v : Int) (w : World) (hb : Eb w g o x (.slice a n cap)) (hn : n ≤ maxLen) (hno : ¬ (x.q = true ∧ 0 ≤ at_ ∧ at_ < n)) :
    Calls Try.prog 18 #[.pointer (some ⟨g, o, none⟩), .int .i64 at_, .int .i64 v] w fun e w' => e = .returned (.bool false) ∧ Below w.heap.size w w' := by
  obtain ⟨c0, c1, c2, c3, c4, c5, fz, lt⟩ := hb
  cases hq : x.q with
  | false =>
    rw [hq] at c4
    go_enter Try.func18, Try.ntmps18
    go_wp2
    go_ret
    exact ⟨rfl, Below.refl _ _⟩
  | true =>
    have hd : (decide (0 ≤ at_ ∧ at_ < n)) = false := decide_eq_false (fun h => hno ⟨hq, h⟩)
    have hc4 := c4
    rw [hq] at c4
    clear hno
    go_enter Try.func18, Try.ntmps18
    go_wp2_with (go_at_call 41; refine (has_any { x with q := true } a n cap at_ _ hn).mono ?_; rintro e w1 ⟨rfl, hb1⟩; rw [hd])
    go_ret
    exact ⟨rfl, hb1⟩
theorem write_ok (g o b p : Nat) (x : En) (n cap k : Nat) (at_ v : Int) (w : World) (hb : Eb w g o x (.slice (some ⟨b, p, none⟩) n cap)) (hn : n ≤ cap) (hm : cap ≤ maxLen) (hq : x.q = true) (hat : at_ = k) (hk : k < n)
    (hc : (w.cell? ⟨b, p + k, none⟩).isSome = true) (hf : w.frozen? ⟨b, p + k, none⟩ = false) :
    Calls Try.prog 18 #[.pointer (some ⟨g, o, none⟩), .int .i64 at_, .int .i64 v] w fun e w' => e = .returned (.bool true) ∧ ∃ w1, Below w.heap.size w w1 ∧ w' = w1.setCell ⟨b, p + k, none⟩ (.int .i64 v) := by
  subst hat
  obtain ⟨c0, c1, c2, c3, c4, c5, fz, lt⟩ := hb
  obtain ⟨u, hu⟩ := Option.isSome_iff_exists.1 hc
  have hlt : b < w.heap.size := World.block_lt_of_cell? w _ hu
  rw [hq] at c4
  have hd : (decide (0 ≤ (k : Int) ∧ (k : Int) < n)) = true := decide_eq_true (by omega)
  clear hc
  unfold maxLen at hm
  go_enter Try.func18, Try.ntmps18
  go_wp2_with (go_at_call 41; refine (has_any { x with q := true } (some ⟨b, p, none⟩) n cap k _ (by unfold maxLen; omega)).mono ?_; rintro e w1 ⟨rfl, hb1⟩; rw [hd]; have k1 := bcell hb1; have k5 := k1.1 g (o + 5) lt; have kc := k1.1 b (p + k) hlt; have kf := k1.2 b (p + k) hlt; rw [hu] at kc; rw [hf] at kf; rw [c5] at k5)
  go_ret
  exact ⟨rfl, w1, hb1, rfl⟩
end Go.Proofs.Yteikapeleagedaa
