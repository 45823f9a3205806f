/- The contract of the document's own All (rows of packets). Conditions: as stated. -/
import Derived.Test.YtafbcnchgnmjbaaPktRefSame
import Derived.Test.YtafbcnchgnmjbaaPRow
namespace Go.Proofs.Ytafbcnchgnmjbaa
open Go.RowKit
set_option linter.unusedVariables false

theorem take_same' {α : Type} {l m : List α} {k : Nat} {x : α} (h : l.take k = m.take k) (h1 : l[k]? = some x) (h2 : m[k]? = some x) : l.take (k + 1) = m.take (k + 1) := by
  rw [List.take_add_one, List.take_add_one, h, h1, h2]
set_option maxHeartbeats 1000000 in
theorem refAll_any (w : World) {M1 D1 M2 D2 : Nat → Prop} {L1 L2 : List Pk} {R1 R2 : List (Pk × Value)} {a1 a2 : Option Addr} {n1 n2 c1 c2 : Nat} (h1 : PRow w M1 D1 L1 R1 a1 n1 c1) (h2 : PRow w M2 D2 L2 R2 a2 n2 c2) :
    Calls Try.prog 20 #[.slice a1 n1 c1, .slice a2 n2 c2] w fun e w' => e = .returned (.bool (decide (L1 = L2))) ∧ Below w.heap.size w w' := by
  have HL1 : Hid (L1.length = n1) := h1.len
  have HL2 : Hid (L2.length = n2) := h2.len
  have m1 := h1.row.max
  have m2 := h2.row.max
  have l1 := h1.row.le
  have l2 := h2.row.le
  unfold maxLen at m1 m2
  by_cases hn : n1 = n2
  · subst hn
    go_enter Try.func20, Try.ntmps20
    go_wp2
    go_loopw [13] (fun q wr => ∃ j : Nat, q = .int .i64 (j : Int) ∧ j ≤ n1 ∧ L1.take j = L2.take j ∧ Below w.heap.size w wr) (fun q _ => n1 - (intOf q).toNat)
    case atStart => exact ⟨0, rfl, by omega, rfl, Below.refl _ _⟩
    case round =>
      obtain ⟨j, rfl, hj, heq, hB⟩ := hrel
      have HE : Hid (L1.take j = L2.take j) := heq
      clear heq
      by_cases hlt : j < n1
      · have hlt' : (j : Int) < (n1 : Int) := by omega
        obtain ⟨x, d, b, o, hx, _, ⟨ax, nx, cx, rfl, sx, _, _⟩, rfl, _, hb, ⟨e0, e1, e2, e3, e4, e5, e6, e7, e8⟩, _⟩ := (h1.below hB).get hlt
        obtain ⟨y, d2, b2, o2, hy, _, ⟨ay, ny, cy, rfl, sy, _, _⟩, rfl, _, hb2, ⟨f0, f1, f2, f3, f4, f5, f6, f7, f8⟩, _⟩ := (h2.below hB).get hlt
        have HX : Hid (L1[j]? = some x) := hx
        have HY : Hid (L2[j]? = some y) := hy
        clear hx hy
        have uc := @Up.cell
        have uf := @Up.frozen
        by_cases hxy : x = y
        · have HXY : Hid (x = y) := hxy
          have hs : sameP x y = true := by rw [sameP_iff]; exact decide_eq_true hxy
          clear hxy
          go_wp2_with fail
          refine wp_region_up (by kernel_rfl) (by kernel_rfl) ?_
          repeat (go_big_quiet_step ((go_at_call 19; exact Calls.up_of (refSame_any x y ax ay nx ny cx cy _ (sx.below (by exact Subtype.property _)) (sy.below (by exact Subtype.property _))))))
          refine wpQuiet_nil ?_
          rintro _ ⟨u, rfl⟩
          have hB2 := next hB u.2
          rw [hs]
          clear uc uf
          generalize u.1 = wu at *
          go_wp2
          go_roundw
          case rel => exact ⟨j + 1, by go_num, by omega, take_same' HE.out HX.out (by rw [HXY.out]; exact HY.out), hB2⟩
          case measure => simp [intOf]; omega
        · have HXY : Hid (¬ x = y) := hxy
          have hs : sameP x y = false := by rw [sameP_iff]; exact decide_eq_false hxy
          clear hxy
          go_wp2_with fail
          refine wp_region_up (by kernel_rfl) (by kernel_rfl) ?_
          repeat (go_big_quiet_step ((go_at_call 19; exact Calls.up_of (refSame_any x y ax ay nx ny cx cy _ (sx.below (by exact Subtype.property _)) (sy.below (by exact Subtype.property _))))))
          refine wpQuiet_nil ?_
          rintro _ ⟨u, rfl⟩
          have hB2 := next hB u.2
          rw [hs]
          clear uc uf
          generalize u.1 = wu at *
          go_wp2
          go_ret
          exact ⟨ret_bool (decide_eq_false (fun h => HXY.out (by have h3 := HX.out; rw [h, HY.out] at h3; exact (Option.some.inj h3).symm))).symm, hB2⟩
      · have hlt' : (n1 : Int) ≤ (j : Int) := by omega
        go_wp2
        go_ret
        refine ⟨ret_bool (decide_eq_true ?_).symm, hB⟩
        have := HE.out
        rw [List.take_of_length_le (by have := HL1.out; omega), List.take_of_length_le (by have := HL2.out; omega)] at this
        exact this
  · have hn' : ((n1 : Int) != (n2 : Int)) = true := by simp; omega
    go_enter Try.func20, Try.ntmps20
    go_wp2
    go_ret
    exact ⟨ret_bool (decide_eq_false (fun h => hn (by rw [← HL1.out, ← HL2.out, h]))).symm, Below.refl _ _⟩
end Go.Proofs.Ytafbcnchgnmjbaa
