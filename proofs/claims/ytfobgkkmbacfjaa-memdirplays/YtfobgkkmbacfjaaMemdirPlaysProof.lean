/-
  Any calls of a directory answer as the plain homes do.
-/
import Derived.Test.YtfobgkkmbacfjaaRows
import Derived.Test.YtfobgkkmbacfjaaSetup
import Derived.Test.YtfobgkkmbacfjaaInCells
import Derived.Test.YtfobgkkmbacfjaaMdPlays
import Derived.WalkKit
import Derived.ProofKit
import Derived.OpenShut
import Derived.ShutString
import Derived.ChangeOld
import Derived.Below

namespace Go.Proofs.Ytfobgkkmbacfjaa.memdirPlays
open Go.ChangeShapes Go.WideShapes Go.ChangeAt Go.RowKit
set_option linter.unusedVariables false

theorem own : ownKnob Try.prog.godebug = none := by kernel_rfl
theorem laidOut : laidOutB Try.prog = true := by kernel_rfl

theorem walk (w : World) (v0 : Value) (h0 : IsSetup w v0) (x1 : Int) (a2 : Option Addr) (len2 cap2 : Nat) (z2 : List Int) (h2 : Sl w a2 len2 cap2 z2) (g2 : R64 z2) (a3 : Option Addr) (len3 cap3 : Nat) (z3 : List Int) (h3 : Sl w a3 len3 cap3 z3) (a4 : Option Addr) (len4 cap4 : Nat) (z4 : List Int) (h4 : Sl w a4 len4 cap4 z4) (a5 : Option Addr) (len5 cap5 : Nat) (z5 : List Int) (h5 : Sl w a5 len5 cap5 z5) (x6 : Int) :
    Calls Try.prog 5 #[v0, .int .i64 x1, .slice a2 len2 cap2, .slice a3 len3 cap3, .slice a4 len4 cap4, .slice a5 len5 cap5, .int .i64 x6] w fun e w' => e = .returned (.bool true) ∧ Below w.heap.size w w' := by
  exact memdirPlays_walk w v0 h0 x1 _ _ _ _ h2 g2 _ _ _ _ h3 _ _ _ _ h4 _ _ _ _ h5 x6

set_option maxRecDepth 100000 in
theorem lifted (os : Os) (started : os.Started) (H : Type) (enc : TypeId × Value → H) :
    ReturnsInHanded {} Try.checked os 5 .any (Rows.memdirPlaysSpec.pre6 enc Try.prog Try.f5 Rows.memdirPlaysRow.domain false) (Rows.memdirPlaysSpec.post enc Try.prog Try.f5 false true false false) := by
  refine returnsInHanded_of_change (C := Try.checked) own started (by kernel_rfl) Try.func5
    (ChangeSpec.witness6 (enc := enc) (C := Try.checked) false ⟨#[], #[.agg #[.int .i64 0, .int .i64 0, .int .i64 0, .int .i64 0, .int .i64 0, .int .i64 0, .int .i64 0, .slice none 0 0, .slice none 0 0, .slice none 0 0, .slice none 0 0, .slice none 0 0], .int .i64 0, .slice none 0 0, .slice none 0 0, .slice none 0 0, .slice none 0 0, .int .i64 0], []⟩ 16 (by kernel_rfl) (by kernel_rfl) (by kernel_rfl) (by kernel_rfl)) ?_
  intro W base args ds gs before hval0 hW hcnd _
  have hval : ∀ (j : Nat) t v, Try.f5.params[j]? = some t → args[j]? = some v → Value.okWide Try.prog W .any base t v := hval0
  have hW' := hW
  obtain ⟨p, q, hA0, hV, rfl, hfz, hnd⟩ := hW
  have hA : DataW.TrodAll enc Try.prog W 0 (fun _ => true) true Try.f5.params.toList args.toList ds p := hA0
  rw [Try.params5] at hA hval
  obtain ⟨v0, vs0, d0, ds0, p0, q0, hargs, rfl, rfl, h0, r0⟩ := trodAll_cons hA
  obtain ⟨v1, vs1, d1, ds1, p1, q1, rfl, rfl, rfl, h1, r1⟩ := trodAll_cons r0
  obtain ⟨v2, vs2, d2, ds2, p2, q2, rfl, rfl, rfl, h2, r2⟩ := trodAll_cons r1
  obtain ⟨v3, vs3, d3, ds3, p3, q3, rfl, rfl, rfl, h3, r3⟩ := trodAll_cons r2
  obtain ⟨v4, vs4, d4, ds4, p4, q4, rfl, rfl, rfl, h4, r4⟩ := trodAll_cons r3
  obtain ⟨v5, vs5, d5, ds5, p5, q5, rfl, rfl, rfl, h5, r5⟩ := trodAll_cons r4
  obtain ⟨v6, vs6, d6, ds6, p6, q6, rfl, rfl, rfl, h6, r6⟩ := trodAll_cons r5
  obtain ⟨rfl, rfl, rfl⟩ := trodAll_nil r6
  obtain rfl : args = #[v0, v1, v2, v3, v4, v5, v6] := by cases args; simp_all
  obtain ⟨rfl, rfl⟩ := trodVars_none hV
  have k0 := h0
  have lt0 : ∀ x ∈ p0, x.block < W.heap.size := by obtain ⟨m, hm⟩ := k0; exact DataW.trod_lt m _ _ _ hm
  have s0 : IsSetup W v0 := setup_of (hval 0 56 v0 rfl rfl) h0
  have k1 := h1
  have lt1 : ∀ x ∈ p1, x.block < W.heap.size := by obtain ⟨m, hm⟩ := k1; exact DataW.trod_lt m _ _ _ hm
  obtain ⟨x1, rfl⟩ : ∃ x, v1 = .int .i64 x := by
    obtain ⟨z, rfl, _⟩ := okWide_int Try.underlying3 (hval 1 3 v1 rfl rfl)
    exact ⟨z, rfl⟩
  have k2 := h2
  have lt2 : ∀ x ∈ p2, x.block < W.heap.size := by obtain ⟨m, hm⟩ := k2; exact DataW.trod_lt m _ _ _ hm
  obtain ⟨a2, len2, cap2, z2, rfl, s2, g2⟩ : ∃ a len cap z, v2 = .slice a len cap ∧ Sl W a len cap z ∧ R64 z := by
    obtain ⟨a, len, cap, rfl⟩ := okWide_slice Try.underlying28 (hval 2 28 v2 rfl rfl)
    obtain ⟨fuel, hf⟩ := h2
    exact ints_cell hf
  have k3 := h3
  have lt3 : ∀ x ∈ p3, x.block < W.heap.size := by obtain ⟨m, hm⟩ := k3; exact DataW.trod_lt m _ _ _ hm
  obtain ⟨a3, len3, cap3, z3, rfl, s3⟩ : ∃ a len cap z, v3 = .slice a len cap ∧ Sl W a len cap z := by
    obtain ⟨a, len, cap, rfl⟩ := okWide_slice Try.underlying28 (hval 3 28 v3 rfl rfl)
    obtain ⟨fuel, hf⟩ := h3
    obtain ⟨a', len', cap', z, e, hs, _⟩ := ints_cell hf
    exact ⟨a', len', cap', z, e, hs⟩
  have k4 := h4
  have lt4 : ∀ x ∈ p4, x.block < W.heap.size := by obtain ⟨m, hm⟩ := k4; exact DataW.trod_lt m _ _ _ hm
  obtain ⟨a4, len4, cap4, z4, rfl, s4⟩ : ∃ a len cap z, v4 = .slice a len cap ∧ Sl W a len cap z := by
    obtain ⟨a, len, cap, rfl⟩ := okWide_slice Try.underlying28 (hval 4 28 v4 rfl rfl)
    obtain ⟨fuel, hf⟩ := h4
    obtain ⟨a', len', cap', z, e, hs, _⟩ := ints_cell hf
    exact ⟨a', len', cap', z, e, hs⟩
  have k5 := h5
  have lt5 : ∀ x ∈ p5, x.block < W.heap.size := by obtain ⟨m, hm⟩ := k5; exact DataW.trod_lt m _ _ _ hm
  obtain ⟨a5, len5, cap5, z5, rfl, s5⟩ : ∃ a len cap z, v5 = .slice a len cap ∧ Sl W a len cap z := by
    obtain ⟨a, len, cap, rfl⟩ := okWide_slice Try.underlying28 (hval 5 28 v5 rfl rfl)
    obtain ⟨fuel, hf⟩ := h5
    obtain ⟨a', len', cap', z, e, hs, _⟩ := ints_cell hf
    exact ⟨a', len', cap', z, e, hs⟩
  have k6 := h6
  have lt6 : ∀ x ∈ p6, x.block < W.heap.size := by obtain ⟨m, hm⟩ := k6; exact DataW.trod_lt m _ _ _ hm
  obtain ⟨x6, rfl⟩ : ∃ x, v6 = .int .i64 x := by
    obtain ⟨z, rfl, _⟩ := okWide_int Try.underlying3 (hval 6 3 v6 rfl rfl)
    exact ⟨z, rfl⟩
  clear hA0 hval0
  refine (walk W v0 s0 x1 a2 len2 cap2 z2 s2 g2 a3 len3 cap3 z3 s3 a4 len4 cap4 z4 s4 a5 len5 cap5 z5 s5 x6).mono fun e W' ⟨he, bel⟩ => ?_
  subst he
  exact ⟨_, rfl, _, _, _, [], _, [], hW', trodAll_mk1 (shut_bool Try.underlying4 _), (trodAll_cons_mk (Below.trod laidOut (by kernel_rfl) (of_decide_eq_true (by kernel_rfl)) k0 bel lt0) (trodAll_cons_mk (Below.trod laidOut (by kernel_rfl) (of_decide_eq_true (by kernel_rfl)) k1 bel lt1) (trodAll_cons_mk (Below.trod laidOut (by kernel_rfl) (of_decide_eq_true (by kernel_rfl)) k2 bel lt2) (trodAll_cons_mk (Below.trod laidOut (by kernel_rfl) (of_decide_eq_true (by kernel_rfl)) k3 bel lt3) (trodAll_cons_mk (Below.trod laidOut (by kernel_rfl) (of_decide_eq_true (by kernel_rfl)) k4 bel lt4) (trodAll_cons_mk (Below.trod laidOut (by kernel_rfl) (of_decide_eq_true (by kernel_rfl)) k5 bel lt5) (trodAll_cons_mk (Below.trod laidOut (by kernel_rfl) (of_decide_eq_true (by kernel_rfl)) k6 bel lt6) trodAll_mk0))))))), rfl, bel.frame _, fun h => by cases h⟩

theorem over : Rows.memdirPlaysRow.holds Try.pinned (OpenSpec.ofChange Rows.memdirPlaysSpec) :=
  OpenClaim.holds_of_wide 5 Try.f5 rfl rfl rfl rfl rfl rfl rfl ⟨rfl, rfl, rfl, rfl, rfl⟩ rfl rfl rfl rfl rfl (by kernel_rfl) Try.func5 (by kernel_rfl)
    (of_decide_eq_true (by kernel_rfl)) (by unfold Func.isWrapper; first | (rw [if_pos (by decide +kernel)]; kernel_rfl) | (rw [if_neg (by decide +kernel)]; exact ⟨rfl, rfl⟩))
    (fun os started H enc _ => lifted os started H enc)

theorem proved : Rows.MemdirPlaysSaid := over
end Go.Proofs.Ytfobgkkmbacfjaa.memdirPlays
namespace Go.Proofs.Ytfobgkkmbacfjaa
/-- Any calls of a directory answer as the plain homes do. -/
theorem memdirPlays_holds : Rows.MemdirPlaysSaid := memdirPlays.proved
#print axioms memdirPlays_holds
end Go.Proofs.Ytfobgkkmbacfjaa
