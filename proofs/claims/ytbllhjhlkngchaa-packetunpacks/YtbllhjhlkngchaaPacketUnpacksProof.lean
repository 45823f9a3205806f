/-
  PacketUnpacks answers true at every input and leaves its arguments as they read: any bytes as a packet, or that they are none, is the document's own answer, and what was lent is intact. No condition.
-/
import Derived.Test.YtbllhjhlkngchaaRows
import Derived.Test.YtbllhjhlkngchaaPktIn
import Derived.Test.YtbllhjhlkngchaaPktUnpW
import Derived.WalkKit
import Derived.ProofKit
import Derived.OpenShut
import Derived.ShutString
import Derived.ChangeOld
import Derived.Below
import Derived.SizedLaws
namespace Go.Proofs.Ytbllhjhlkngchaa.packetUnpacks
open Go.ChangeShapes Go.WideShapes Go.ChangeAt Go.RowKit
set_option linter.unusedVariables false

theorem own : ownKnob Try.prog.godebug = none := by kernel_rfl
theorem laidOut : laidOutB Try.prog = true := by kernel_rfl

theorem walk (w : World) (a0 : Option Addr) (len0 cap0 : Nat) (z0 : List Int) (h0 : B.Sl w a0 len0 cap0 z0) (g0 : cap0 ≤ 140737488351232) (v1 : Value) (h1 : IsPk w v1) (x2 : Int) (x3 : Int) (x4 : Int) (h4 : 0 ≤ x4 ∧ x4 < 256) (x5 : Bool) (x6 : Bool) :
    Calls Try.prog 7 #[.slice a0 len0 cap0, v1, .int .i64 x2, .int .i64 x3, .int .u8 x4, .bool x5, .bool x6] w fun e w' => e = .returned (.bool true) ∧ Below w.heap.size w w' := by
  obtain ⟨x, a, n, c, rfl, hx, _⟩ := h1
  exact packetUnpacks_walk a0 len0 cap0 z0 x x2 x3 x4 x5 x6 a n c w h0 g0 hx h4.1 h4.2

set_option maxRecDepth 100000 in
theorem lifted (os : Os) (started : os.Started) (H : Type) (enc : TypeId × Value → H) :
    ReturnsInHanded {} Try.checked os 7 .any (Rows.packetUnpacksSpec.pre6 enc Try.prog Try.f7 Rows.packetUnpacksRow.domain false) (Rows.packetUnpacksSpec.post enc Try.prog Try.f7 false true false false) := by
  refine returnsInHanded_of_change_sized (C := Try.checked) own started (by kernel_rfl) Try.func7
    (ChangeSpec.witness6 (enc := enc) (C := Try.checked) false ⟨#[], #[.slice none 0 0, .agg #[.int .i64 0, .int .i64 0, .int .i64 0, .int .i64 0, .int .i64 0, .int .i64 0, .int .i64 0, .bool false, .slice none 0 0], .int .i64 0, .int .i64 0, .int .u8 0, .bool false, .bool false], []⟩ 16 (by kernel_rfl) (by kernel_rfl) (by kernel_rfl) (by kernel_rfl)) ?_
  intro W base args ds gs before hval0 hW hcnd hsz _
  have hval : ∀ (j : Nat) t v, Try.f7.params[j]? = some t → args[j]? = some v → Value.okWide Try.prog W .any base t v := hval0
  have hW' := hW
  obtain ⟨p, q, hA0, hV, rfl, hfz, hnd⟩ := hW
  have hA : DataW.TrodAll enc Try.prog W 0 (fun _ => true) true Try.f7.params.toList args.toList ds p := hA0
  rw [Try.params7] at hA hval
  obtain ⟨v0, vs0, d0, ds0, p0, q0, hargs, rfl, rfl, h0, r0⟩ := trodAll_cons hA
  obtain ⟨v1, vs1, d1, ds1, p1, q1, rfl, rfl, rfl, h1, r1⟩ := trodAll_cons r0
  obtain ⟨v2, vs2, d2, ds2, p2, q2, rfl, rfl, rfl, h2, r2⟩ := trodAll_cons r1
  obtain ⟨v3, vs3, d3, ds3, p3, q3, rfl, rfl, rfl, h3, r3⟩ := trodAll_cons r2
  obtain ⟨v4, vs4, d4, ds4, p4, q4, rfl, rfl, rfl, h4, r4⟩ := trodAll_cons r3
  obtain ⟨v5, vs5, d5, ds5, p5, q5, rfl, rfl, rfl, h5, r5⟩ := trodAll_cons r4
  obtain ⟨v6, vs6, d6, ds6, p6, q6, rfl, rfl, rfl, h6, r6⟩ := trodAll_cons r5
  obtain ⟨rfl, rfl, rfl⟩ := trodAll_nil r6
  obtain rfl : args = #[v0, v1, v2, v3, v4, v5, v6] := by cases args; simp_all
  obtain ⟨rfl, rfl⟩ := trodVars_none hV
  have k0 := h0
  have lt0 : ∀ x ∈ p0, x.block < W.heap.size := by obtain ⟨m, hm⟩ := k0; exact DataW.trod_lt m _ _ _ hm
  obtain ⟨a0, len0, cap0, z0, rfl, s0, g0⟩ : ∃ a len cap z, v0 = .slice a len cap ∧ B.Sl W a len cap z ∧ cap ≤ 140737488351232 := by
    obtain ⟨a, len, cap, rfl⟩ := okWide_slice Try.underlying27 (hval 0 27 v0 rfl rfl)
    obtain ⟨fuel, hf⟩ := h0
    rcases open_ints Try.underlying27 Try.underlying5 (by kernel_rfl) hf with ⟨hcs, _⟩ | ⟨x, l, c, zs, hcs, _, hl, hm, hz, hx, hcell, hwz⟩
    · simp [Value.cells] at hcs
      obtain ⟨rfl, rfl, rfl⟩ := hcs
      exact ⟨none, 0, 0, _, rfl, B.sl_of (zs := []) (.inl ⟨rfl, rfl, rfl, rfl⟩), by omega⟩
    · simp [Value.cells] at hcs
      obtain ⟨rfl, rfl, rfl⟩ := hcs
      have hz' : zs.length = cap := by simpa using hz
      have hd := (Prod.mk.inj hx).1
      subst hd
      have hb := sized_slice (P := Try.prog) (j := 0) hsz rfl rfl Try.underlying27
      have h1 : Try.prog.bytesOf 5 = 1 := by kernel_rfl
      rw [h1] at hb
      refine ⟨some x, len, cap, _, rfl, B.sl_of (.inr ⟨x, rfl, hl, hm, hz', hcell, hwz⟩), ?_⟩
      unfold reachBytes at hb
      simp [lits] at hb
      omega
  have k1 := h1
  have lt1 : ∀ x ∈ p1, x.block < W.heap.size := by obtain ⟨m, hm⟩ := k1; exact DataW.trod_lt m _ _ _ hm
  have s1 : IsPk W v1 := pkt_of (hval 1 26 v1 rfl rfl) h1
  have k2 := h2
  have lt2 : ∀ x ∈ p2, x.block < W.heap.size := by obtain ⟨m, hm⟩ := k2; exact DataW.trod_lt m _ _ _ hm
  obtain ⟨x2, rfl⟩ : ∃ x, v2 = .int .i64 x := by
    obtain ⟨z, rfl, _⟩ := okWide_int Try.underlying3 (hval 2 3 v2 rfl rfl)
    exact ⟨z, rfl⟩
  have k3 := h3
  have lt3 : ∀ x ∈ p3, x.block < W.heap.size := by obtain ⟨m, hm⟩ := k3; exact DataW.trod_lt m _ _ _ hm
  obtain ⟨x3, rfl⟩ : ∃ x, v3 = .int .i64 x := by
    obtain ⟨z, rfl, _⟩ := okWide_int Try.underlying3 (hval 3 3 v3 rfl rfl)
    exact ⟨z, rfl⟩
  have k4 := h4
  have lt4 : ∀ x ∈ p4, x.block < W.heap.size := by obtain ⟨m, hm⟩ := k4; exact DataW.trod_lt m _ _ _ hm
  obtain ⟨x4, rfl, s4⟩ : ∃ x, v4 = .int .u8 x ∧ (0 ≤ x ∧ x < 256) := by
    obtain ⟨z, e, _, _, hz⟩ := open_int Try.underlying5 (hval 4 5 v4 rfl rfl) h4
    exact ⟨z, e, wf_u8 hz⟩
  have k5 := h5
  have lt5 : ∀ x ∈ p5, x.block < W.heap.size := by obtain ⟨m, hm⟩ := k5; exact DataW.trod_lt m _ _ _ hm
  obtain ⟨x5, rfl⟩ : ∃ x, v5 = .bool x := by
    obtain ⟨z, hz⟩ := okWide_bool Try.underlying4 (hval 5 4 v5 rfl rfl)
    exact ⟨z, hz⟩
  have k6 := h6
  have lt6 : ∀ x ∈ p6, x.block < W.heap.size := by obtain ⟨m, hm⟩ := k6; exact DataW.trod_lt m _ _ _ hm
  obtain ⟨x6, rfl⟩ : ∃ x, v6 = .bool x := by
    obtain ⟨z, hz⟩ := okWide_bool Try.underlying4 (hval 6 4 v6 rfl rfl)
    exact ⟨z, hz⟩
  clear hA0 hval0
  refine (walk W a0 len0 cap0 z0 s0 g0 v1 s1 x2 x3 x4 s4 x5 x6).mono fun e W' ⟨he, bel⟩ => ?_
  subst he
  exact ⟨_, rfl, _, _, _, [], _, [], hW', trodAll_mk1 (shut_bool Try.underlying4 _), (trodAll_cons_mk (Below.trod laidOut (by kernel_rfl) (of_decide_eq_true (by kernel_rfl)) k0 bel lt0) (trodAll_cons_mk (Below.trod laidOut (by kernel_rfl) (of_decide_eq_true (by kernel_rfl)) k1 bel lt1) (trodAll_cons_mk (Below.trod laidOut (by kernel_rfl) (of_decide_eq_true (by kernel_rfl)) k2 bel lt2) (trodAll_cons_mk (Below.trod laidOut (by kernel_rfl) (of_decide_eq_true (by kernel_rfl)) k3 bel lt3) (trodAll_cons_mk (Below.trod laidOut (by kernel_rfl) (of_decide_eq_true (by kernel_rfl)) k4 bel lt4) (trodAll_cons_mk (Below.trod laidOut (by kernel_rfl) (of_decide_eq_true (by kernel_rfl)) k5 bel lt5) (trodAll_cons_mk (Below.trod laidOut (by kernel_rfl) (of_decide_eq_true (by kernel_rfl)) k6 bel lt6) trodAll_mk0))))))), rfl, bel.frame _, fun h => by cases h⟩

theorem over : Rows.packetUnpacksRow.holds Try.pinned (OpenSpec.ofChange Rows.packetUnpacksSpec) :=
  OpenClaim.holds_of_wide 7 Try.f7 rfl rfl rfl rfl rfl rfl rfl ⟨rfl, rfl, rfl, rfl, rfl⟩ rfl rfl rfl rfl rfl (by kernel_rfl) Try.func7 (by kernel_rfl)
    (of_decide_eq_true (by kernel_rfl)) (by unfold Func.isWrapper; first | (rw [if_pos (by decide +kernel)]; kernel_rfl) | (rw [if_neg (by decide +kernel)]; exact ⟨rfl, rfl⟩))
    (fun os started H enc _ => lifted os started H enc)

theorem proved : Rows.PacketUnpacksSaid := over
end Go.Proofs.Ytbllhjhlkngchaa.packetUnpacks
namespace Go.Proofs.Ytbllhjhlkngchaa
/-- PacketUnpacks answers true at every input and leaves its arguments as they read: any bytes as a packet, or that they are none, is the document's own answer, and what was lent is intact. No condition. -/
theorem packetUnpacks_holds : Rows.PacketUnpacksSaid := packetUnpacks.proved
#print axioms packetUnpacks_holds
end Go.Proofs.Ytbllhjhlkngchaa
