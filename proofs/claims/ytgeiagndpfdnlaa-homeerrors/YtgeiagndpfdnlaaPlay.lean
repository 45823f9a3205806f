/- The contracts of the configurations that setups make: Config, at. Conditions: as each theorem states them. -/
import Derived.Test.YtgeiagndpfdnlaaCfg0
import Derived.Test.YtgeiagndpfdnlaaTake
namespace Go.Proofs.Ytgeiagndpfdnlaa
open Go.RowKit
set_option linter.unusedVariables false
set_option maxRecDepth 20000

/-- A setup, as a value. -/
@[reducible] def setup (n l k s y o i : Int) (t wh ki ad va : Value) : Value := .agg #[.int .i64 n, .int .i64 l, .int .i64 k, .int .i64 s, .int .i64 y, .int .i64 o, .int .i64 i, t, wh, ki, ad, va]
/-- One more than the remainder. -/
def nd (x : Int) (m : Nat) : Nat := (1 + x % (m : Int)).toNat
theorem nd_lo (x : Int) (m : Nat) : 1 ≤ nd x m ∨ m = 0 := by
  by_cases h : m = 0
  · exact .inr h
  · left; have := Int.emod_nonneg x (b := (m : Int)) (by omega); unfold nd; omega
theorem nd_hi (x : Int) (m : Nat) (h : 0 < m) : nd x m ≤ m := by
  have := Int.emod_lt_of_pos x (b := (m : Int)) (by omega); unfold nd; omega
theorem nd_cast (x : Int) (m : Nat) (h : 0 < m) : (nd x m : Int) = 1 + x % (m : Int) := by
  have := Int.emod_nonneg x (b := (m : Int)) (by omega); unfold nd; omega

set_option maxHeartbeats 1000000 in
theorem config_any (n l k s y o i : Int) (a : Option Addr) (len cap : Nat) (wh ki ad va : Value) (z : List Int) (w : World) (hsl : Sl w a len cap z) :
    Calls Try.prog 7 #[setup n l k s y o i (.slice a len cap) wh ki ad va] w fun e w' => ∃ v, e = .returned (cfg (nd n 4) (nd l 4) (nd k 2) (nd s 2) (nd y 2) (nd o 3) (nd i 3) v) ∧ Own w' w.heap.size v (z.take (nd l 4 * nd k 2)) ∧ Below w.heap.size w w' := by
  unfold setup cfg
  have n0 : 0 ≤ n % 4 := Int.emod_nonneg _ (by omega)
  have n1 : n % 4 < 4 := Int.emod_lt_of_pos _ (by omega)
  have l0 : 0 ≤ l % 4 := Int.emod_nonneg _ (by omega)
  have l1 : l % 4 < 4 := Int.emod_lt_of_pos _ (by omega)
  have k0 : 0 ≤ k % 2 := Int.emod_nonneg _ (by omega)
  have k1 : k % 2 < 2 := Int.emod_lt_of_pos _ (by omega)
  have s0 : 0 ≤ s % 2 := Int.emod_nonneg _ (by omega)
  have s1 : s % 2 < 2 := Int.emod_lt_of_pos _ (by omega)
  have y0 : 0 ≤ y % 2 := Int.emod_nonneg _ (by omega)
  have y1 : y % 2 < 2 := Int.emod_lt_of_pos _ (by omega)
  have o0 : 0 ≤ o % 3 := Int.emod_nonneg _ (by omega)
  have o1 : o % 3 < 3 := Int.emod_lt_of_pos _ (by omega)
  have i0 : 0 ≤ i % 3 := Int.emod_nonneg _ (by omega)
  have i1 : i % 3 < 3 := Int.emod_lt_of_pos _ (by omega)
  go_enter Try.func7, Try.ntmps7
  go_wp2_with fail
  have uc := @Up.cell2
  have uf := @Up.frozen2
  refine wp_region_mild 31 rfl (by kernel_rfl) ?_
  refine mild_take (v := ?v1) 0 rfl (by kernel_rfl) (by kernel_rfl) (by kernel_rfl) (fun _ _ _ h => h) (by kernel_rfl) (fun W K hK => ?hy1) ?go1
  case hy1 =>
    go_big_quiet_op
    simp only [Act.put, List.setIfInBounds_toArray, List.set_cons_zero, List.set_cons_succ] at hK
    exact hK
  simp only [Act.put, List.setIfInBounds_toArray, List.set_cons_zero, List.set_cons_succ]
  refine mild_take (v := ?v2) 1 rfl (by kernel_rfl) (by kernel_rfl) (by kernel_rfl) (fun _ _ _ h => h) (by kernel_rfl) (fun W K hK => ?hy2) ?go2
  case hy2 =>
    go_big_quiet_op
    simp only [Act.put, List.setIfInBounds_toArray, List.set_cons_zero, List.set_cons_succ] at hK
    exact hK
  simp only [Act.put, List.setIfInBounds_toArray, List.set_cons_zero, List.set_cons_succ]
  refine mild_take (v := ?v3) 2 rfl (by kernel_rfl) (by kernel_rfl) (by kernel_rfl) (fun _ _ _ h => h) (by kernel_rfl) (fun W K hK => ?hy3) ?go3
  case hy3 =>
    go_big_quiet_op
    simp only [Act.put, List.setIfInBounds_toArray, List.set_cons_zero, List.set_cons_succ] at hK
    refine ⟨_, fun u => Calls.up_same (within_any _ _ _ (by omega) (by omega)), ?_⟩
    exact hK
  simp only [Act.put, List.setIfInBounds_toArray, List.set_cons_zero, List.set_cons_succ]
  refine mild_take (v := ?v4) 3 rfl (by kernel_rfl) (by kernel_rfl) (by kernel_rfl) (fun _ _ _ h => h) (by kernel_rfl) (fun W K hK => ?hy4) ?go4
  case hy4 =>
    go_big_quiet_op
    simp only [Act.put, List.setIfInBounds_toArray, List.set_cons_zero, List.set_cons_succ] at hK
    exact hK
  simp only [Act.put, List.setIfInBounds_toArray, List.set_cons_zero, List.set_cons_succ]
  refine mild_take (v := ?v5) 4 rfl (by kernel_rfl) (by kernel_rfl) (by kernel_rfl) (fun _ _ _ h => h) (by kernel_rfl) (fun W K hK => ?hy5) ?go5
  case hy5 =>
    go_big_quiet_op
    simp only [Act.put, List.setIfInBounds_toArray, List.set_cons_zero, List.set_cons_succ] at hK
    exact hK
  simp only [Act.put, List.setIfInBounds_toArray, List.set_cons_zero, List.set_cons_succ]
  refine mild_take (v := ?v6) 5 rfl (by kernel_rfl) (by kernel_rfl) (by kernel_rfl) (fun _ _ _ h => h) (by kernel_rfl) (fun W K hK => ?hy6) ?go6
  case hy6 =>
    go_big_quiet_op
    simp only [Act.put, List.setIfInBounds_toArray, List.set_cons_zero, List.set_cons_succ] at hK
    exact hK
  simp only [Act.put, List.setIfInBounds_toArray, List.set_cons_zero, List.set_cons_succ]
  refine mild_take (v := ?v7) 6 rfl (by kernel_rfl) (by kernel_rfl) (by kernel_rfl) (fun _ _ _ h => h) (by kernel_rfl) (fun W K hK => ?hy7) ?go7
  case hy7 =>
    go_big_quiet_op
    simp only [Act.put, List.setIfInBounds_toArray, List.set_cons_zero, List.set_cons_succ] at hK
    refine ⟨_, fun u => Calls.up_same (within_any _ _ _ (by omega) (by omega)), ?_⟩
    exact hK
  simp only [Act.put, List.setIfInBounds_toArray, List.set_cons_zero, List.set_cons_succ]
  refine mild_take (v := ?v8) 7 rfl (by kernel_rfl) (by kernel_rfl) (by kernel_rfl) (fun _ _ _ h => h) (by kernel_rfl) (fun W K hK => ?hy8) ?go8
  case hy8 =>
    go_big_quiet_op
    simp only [Act.put, List.setIfInBounds_toArray, List.set_cons_zero, List.set_cons_succ] at hK
    exact hK
  simp only [Act.put, List.setIfInBounds_toArray, List.set_cons_zero, List.set_cons_succ]
  refine mild_take (v := ?v9) 8 rfl (by kernel_rfl) (by kernel_rfl) (by kernel_rfl) (fun _ _ _ h => h) (by kernel_rfl) (fun W K hK => ?hy9) ?go9
  case hy9 =>
    go_big_quiet_op
    simp only [Act.put, List.setIfInBounds_toArray, List.set_cons_zero, List.set_cons_succ] at hK
    exact hK
  simp only [Act.put, List.setIfInBounds_toArray, List.set_cons_zero, List.set_cons_succ]
  refine mild_take (v := ?v10) 9 rfl (by kernel_rfl) (by kernel_rfl) (by kernel_rfl) (fun _ _ _ h => h) (by kernel_rfl) (fun W K hK => ?hy10) ?go10
  case hy10 =>
    go_big_quiet_op
    simp only [Act.put, List.setIfInBounds_toArray, List.set_cons_zero, List.set_cons_succ] at hK
    exact hK
  simp only [Act.put, List.setIfInBounds_toArray, List.set_cons_zero, List.set_cons_succ]
  refine mild_take (v := ?v11) 10 rfl (by kernel_rfl) (by kernel_rfl) (by kernel_rfl) (fun _ _ _ h => h) (by kernel_rfl) (fun W K hK => ?hy11) ?go11
  case hy11 =>
    go_big_quiet_op
    simp only [Act.put, List.setIfInBounds_toArray, List.set_cons_zero, List.set_cons_succ] at hK
    refine ⟨_, fun u => Calls.up_same (within_any _ _ _ (by omega) (by omega)), ?_⟩
    exact hK
  simp only [Act.put, List.setIfInBounds_toArray, List.set_cons_zero, List.set_cons_succ]
  refine mild_take (v := ?v12) 11 rfl (by kernel_rfl) (by kernel_rfl) (by kernel_rfl) (fun _ _ _ h => h) (by kernel_rfl) (fun W K hK => ?hy12) ?go12
  case hy12 =>
    go_big_quiet_op
    simp only [Act.put, List.setIfInBounds_toArray, List.set_cons_zero, List.set_cons_succ] at hK
    exact hK
  simp only [Act.put, List.setIfInBounds_toArray, List.set_cons_zero, List.set_cons_succ]
  refine mild_take (v := ?v13) 12 rfl (by kernel_rfl) (by kernel_rfl) (by kernel_rfl) (fun _ _ _ h => h) (by kernel_rfl) (fun W K hK => ?hy13) ?go13
  case hy13 =>
    go_big_quiet_op
    simp only [Act.put, List.setIfInBounds_toArray, List.set_cons_zero, List.set_cons_succ] at hK
    exact hK
  simp only [Act.put, List.setIfInBounds_toArray, List.set_cons_zero, List.set_cons_succ]
  refine mild_take (v := ?v14) 13 rfl (by kernel_rfl) (by kernel_rfl) (by kernel_rfl) (fun _ _ _ h => h) (by kernel_rfl) (fun W K hK => ?hy14) ?go14
  case hy14 =>
    go_big_quiet_op
    simp only [Act.put, List.setIfInBounds_toArray, List.set_cons_zero, List.set_cons_succ] at hK
    exact hK
  simp only [Act.put, List.setIfInBounds_toArray, List.set_cons_zero, List.set_cons_succ]
  refine mild_take (v := ?v15) 14 rfl (by kernel_rfl) (by kernel_rfl) (by kernel_rfl) (fun _ _ _ h => h) (by kernel_rfl) (fun W K hK => ?hy15) ?go15
  case hy15 =>
    go_big_quiet_op
    simp only [Act.put, List.setIfInBounds_toArray, List.set_cons_zero, List.set_cons_succ] at hK
    refine ⟨_, fun u => Calls.up_same (within_any _ _ _ (by omega) (by omega)), ?_⟩
    exact hK
  simp only [Act.put, List.setIfInBounds_toArray, List.set_cons_zero, List.set_cons_succ]
  refine mild_take (v := ?v16) 15 rfl (by kernel_rfl) (by kernel_rfl) (by kernel_rfl) (fun _ _ _ h => h) (by kernel_rfl) (fun W K hK => ?hy16) ?go16
  case hy16 =>
    go_big_quiet_op
    simp only [Act.put, List.setIfInBounds_toArray, List.set_cons_zero, List.set_cons_succ] at hK
    exact hK
  simp only [Act.put, List.setIfInBounds_toArray, List.set_cons_zero, List.set_cons_succ]
  refine mild_take (v := ?v17) 16 rfl (by kernel_rfl) (by kernel_rfl) (by kernel_rfl) (fun _ _ _ h => h) (by kernel_rfl) (fun W K hK => ?hy17) ?go17
  case hy17 =>
    go_big_quiet_op
    simp only [Act.put, List.setIfInBounds_toArray, List.set_cons_zero, List.set_cons_succ] at hK
    exact hK
  simp only [Act.put, List.setIfInBounds_toArray, List.set_cons_zero, List.set_cons_succ]
  refine mild_take (v := ?v18) 17 rfl (by kernel_rfl) (by kernel_rfl) (by kernel_rfl) (fun _ _ _ h => h) (by kernel_rfl) (fun W K hK => ?hy18) ?go18
  case hy18 =>
    go_big_quiet_op
    simp only [Act.put, List.setIfInBounds_toArray, List.set_cons_zero, List.set_cons_succ] at hK
    exact hK
  simp only [Act.put, List.setIfInBounds_toArray, List.set_cons_zero, List.set_cons_succ]
  refine mild_take (v := ?v19) 18 rfl (by kernel_rfl) (by kernel_rfl) (by kernel_rfl) (fun _ _ _ h => h) (by kernel_rfl) (fun W K hK => ?hy19) ?go19
  case hy19 =>
    go_big_quiet_op
    simp only [Act.put, List.setIfInBounds_toArray, List.set_cons_zero, List.set_cons_succ] at hK
    refine ⟨_, fun u => Calls.up_same (within_any _ _ _ (by omega) (by omega)), ?_⟩
    exact hK
  simp only [Act.put, List.setIfInBounds_toArray, List.set_cons_zero, List.set_cons_succ]
  refine mild_take (v := ?v20) 19 rfl (by kernel_rfl) (by kernel_rfl) (by kernel_rfl) (fun _ _ _ h => h) (by kernel_rfl) (fun W K hK => ?hy20) ?go20
  case hy20 =>
    go_big_quiet_op
    simp only [Act.put, List.setIfInBounds_toArray, List.set_cons_zero, List.set_cons_succ] at hK
    exact hK
  simp only [Act.put, List.setIfInBounds_toArray, List.set_cons_zero, List.set_cons_succ]
  refine mild_take (v := ?v21) 20 rfl (by kernel_rfl) (by kernel_rfl) (by kernel_rfl) (fun _ _ _ h => h) (by kernel_rfl) (fun W K hK => ?hy21) ?go21
  case hy21 =>
    go_big_quiet_op
    simp only [Act.put, List.setIfInBounds_toArray, List.set_cons_zero, List.set_cons_succ] at hK
    exact hK
  simp only [Act.put, List.setIfInBounds_toArray, List.set_cons_zero, List.set_cons_succ]
  refine mild_take (v := ?v22) 21 rfl (by kernel_rfl) (by kernel_rfl) (by kernel_rfl) (fun _ _ _ h => h) (by kernel_rfl) (fun W K hK => ?hy22) ?go22
  case hy22 =>
    go_big_quiet_op
    simp only [Act.put, List.setIfInBounds_toArray, List.set_cons_zero, List.set_cons_succ] at hK
    exact hK
  simp only [Act.put, List.setIfInBounds_toArray, List.set_cons_zero, List.set_cons_succ]
  refine mild_take (v := ?v23) 22 rfl (by kernel_rfl) (by kernel_rfl) (by kernel_rfl) (fun _ _ _ h => h) (by kernel_rfl) (fun W K hK => ?hy23) ?go23
  case hy23 =>
    go_big_quiet_op
    simp only [Act.put, List.setIfInBounds_toArray, List.set_cons_zero, List.set_cons_succ] at hK
    refine ⟨_, fun u => Calls.up_same (within_any _ _ _ (by omega) (by omega)), ?_⟩
    exact hK
  simp only [Act.put, List.setIfInBounds_toArray, List.set_cons_zero, List.set_cons_succ]
  refine mild_take (v := ?v24) 23 rfl (by kernel_rfl) (by kernel_rfl) (by kernel_rfl) (fun _ _ _ h => h) (by kernel_rfl) (fun W K hK => ?hy24) ?go24
  case hy24 =>
    go_big_quiet_op
    simp only [Act.put, List.setIfInBounds_toArray, List.set_cons_zero, List.set_cons_succ] at hK
    exact hK
  simp only [Act.put, List.setIfInBounds_toArray, List.set_cons_zero, List.set_cons_succ]
  refine mild_take (v := ?v25) 24 rfl (by kernel_rfl) (by kernel_rfl) (by kernel_rfl) (fun _ _ _ h => h) (by kernel_rfl) (fun W K hK => ?hy25) ?go25
  case hy25 =>
    go_big_quiet_op
    simp only [Act.put, List.setIfInBounds_toArray, List.set_cons_zero, List.set_cons_succ] at hK
    exact hK
  simp only [Act.put, List.setIfInBounds_toArray, List.set_cons_zero, List.set_cons_succ]
  refine mild_take (v := ?v26) 25 rfl (by kernel_rfl) (by kernel_rfl) (by kernel_rfl) (fun _ _ _ h => h) (by kernel_rfl) (fun W K hK => ?hy26) ?go26
  case hy26 =>
    go_big_quiet_op
    simp only [Act.put, List.setIfInBounds_toArray, List.set_cons_zero, List.set_cons_succ] at hK
    exact hK
  simp only [Act.put, List.setIfInBounds_toArray, List.set_cons_zero, List.set_cons_succ]
  refine mild_take (v := ?v27) 26 rfl (by kernel_rfl) (by kernel_rfl) (by kernel_rfl) (fun _ _ _ h => h) (by kernel_rfl) (fun W K hK => ?hy27) ?go27
  case hy27 =>
    go_big_quiet_op
    simp only [Act.put, List.setIfInBounds_toArray, List.set_cons_zero, List.set_cons_succ] at hK
    refine ⟨_, fun u => Calls.up_same (within_any _ _ _ (by omega) (by omega)), ?_⟩
    exact hK
  simp only [Act.put, List.setIfInBounds_toArray, List.set_cons_zero, List.set_cons_succ]
  refine mild_take (v := ?v28) 27 rfl (by kernel_rfl) (by kernel_rfl) (by kernel_rfl) (fun _ _ _ h => h) (by kernel_rfl) (fun W K hK => ?hy28) ?go28
  case hy28 =>
    go_big_quiet_op
    simp only [Act.put, List.setIfInBounds_toArray, List.set_cons_zero, List.set_cons_succ] at hK
    exact hK
  simp only [Act.put, List.setIfInBounds_toArray, List.set_cons_zero, List.set_cons_succ]
  refine mild_take (v := ?v29) 28 rfl (by kernel_rfl) (by kernel_rfl) (by kernel_rfl) (fun _ _ _ h => h) (by kernel_rfl) (fun W K hK => ?hy29) ?go29
  case hy29 =>
    go_big_quiet_op
    simp only [Act.put, List.setIfInBounds_toArray, List.set_cons_zero, List.set_cons_succ] at hK
    exact hK
  simp only [Act.put, List.setIfInBounds_toArray, List.set_cons_zero, List.set_cons_succ]
  intro W
  clear uc uf
  obtain ⟨hc, hf⟩ := bcell W.2
  refine up_list 29 (by kernel_rfl) rfl ?_
  go_wp2
  refine ⟨ba W.2, fun u => ?_⟩
  have hbu := u.2
  obtain ⟨hc2, hf2⟩ := bcell hbu
  refine up_list 30 (by kernel_rfl) rfl ?_
  go_wp2
  have e1 : w.heap.size < W.1.heap.size := by have := W.2.size; simp at this; omega
  have e2 : w.heap.size + 1 < W.1.heap.size := by have := W.2.size; simp at this; omega
  have e3 : W.1.heap.size < u.1.heap.size := by have := hbu.size; simp at this; omega
  have hw : Below w.heap.size w u.1 := next (next (ba (ba (Below.refl _ _))) W.2) (next (ba (Below.refl _ _)) hbu)
  refine ⟨?_, fun u2 => ?_⟩
  · repeat (refine Below.setCell ?_ (by have := W.2.size; simpa using this) _)
    exact next (ba W.2) hbu
  have hb3 := u2.2
  have x1 : w.heap.size < u.1.heap.size := by omega
  have x2 : w.heap.size + 1 < u.1.heap.size := by omega
  have hbw : Below w.heap.size w u2.1 := by
    refine Below.trans ?_ (hb3.mono (by simp; omega))
    repeat (refine Below.setCell ?_ (by simp <;> omega) _)
    exact hw
  refine up_done (by kernel_rfl) ?_
  obtain ⟨hc3, hf3⟩ := bcell hb3
  have n1 : w.heap.size ≠ W.1.heap.size := by omega
  have n2 : w.heap.size + 1 ≠ W.1.heap.size := by omega
  have far : ∀ b o, b < W.1.heap.size → u2.1.cell? ⟨b, o, none⟩ = W.1.cell? ⟨b, o, none⟩ := by
    intro b o hb
    rw [hc3 _ _ (by simp; omega)]
    repeat rw [cell_far _ _ (by simp; omega)]
    rw [hc2 _ _ (by simp; omega)]
    apply World.cell?_alloc_lt; exact hb
  have near : ∀ j v, (#[.int .i64 (1 + n % 4), .int .i64 (1 + l % 4), .int .i64 (1 + k % 2), .int .i64 (1 + s % 2), .int .i64 (1 + y % 2), .int .i64 (1 + o % 3), .int .i64 (1 + i % 3), .slice none 0 0] : Array Value)[j]? = some v → u2.1.cell? ⟨W.1.heap.size, j, none⟩ = some v := by
    intro j v hv
    rw [hc3 _ _ (by simpa using e3)]
    have hj : j < 8 := by have := (Array.getElem?_eq_some_iff.1 hv).1; simpa using this
    match j, hj, hv with
    | 0, _, hv | 1, _, hv | 2, _, hv | 3, _, hv | 4, _, hv | 5, _, hv | 6, _, hv | 7, _, hv =>
      simp at hv
      subst hv
      go_simp
  have fz : ∀ b o, b < u.1.heap.size → u2.1.frozen? ⟨b, o, none⟩ = u.1.frozen? ⟨b, o, none⟩ := by
    intro b o hb
    rw [hf3 _ _ (by simpa using hb)]
    simp
  have hn : ((nd n 4 : Nat) : Int) = 1 + n % 4 := nd_cast n 4 (by decide)
  have c0 : u2.1.cell? ⟨W.1.heap.size, 0, none⟩ = some (.int .i64 ((nd n 4 : Nat) : Int)) := by rw [hn]; exact near 0 _ rfl
  have hl : ((nd l 4 : Nat) : Int) = 1 + l % 4 := nd_cast l 4 (by decide)
  have c1 : u2.1.cell? ⟨W.1.heap.size, 1, none⟩ = some (.int .i64 ((nd l 4 : Nat) : Int)) := by rw [hl]; exact near 1 _ rfl
  have hk : ((nd k 2 : Nat) : Int) = 1 + k % 2 := nd_cast k 2 (by decide)
  have c2 : u2.1.cell? ⟨W.1.heap.size, 2, none⟩ = some (.int .i64 ((nd k 2 : Nat) : Int)) := by rw [hk]; exact near 2 _ rfl
  have hs : ((nd s 2 : Nat) : Int) = 1 + s % 2 := nd_cast s 2 (by decide)
  have c3 : u2.1.cell? ⟨W.1.heap.size, 3, none⟩ = some (.int .i64 ((nd s 2 : Nat) : Int)) := by rw [hs]; exact near 3 _ rfl
  have hy : ((nd y 2 : Nat) : Int) = 1 + y % 2 := nd_cast y 2 (by decide)
  have c4 : u2.1.cell? ⟨W.1.heap.size, 4, none⟩ = some (.int .i64 ((nd y 2 : Nat) : Int)) := by rw [hy]; exact near 4 _ rfl
  have ho : ((nd o 3 : Nat) : Int) = 1 + o % 3 := nd_cast o 3 (by decide)
  have c5 : u2.1.cell? ⟨W.1.heap.size, 5, none⟩ = some (.int .i64 ((nd o 3 : Nat) : Int)) := by rw [ho]; exact near 5 _ rfl
  have hi : ((nd i 3 : Nat) : Int) = 1 + i % 3 := nd_cast i 3 (by decide)
  have c6 : u2.1.cell? ⟨W.1.heap.size, 6, none⟩ = some (.int .i64 ((nd i 3 : Nat) : Int)) := by rw [hi]; exact near 6 _ rfl
  have c7 : u2.1.cell? ⟨W.1.heap.size, 7, none⟩ = some (.slice none 0 0) := near 7 _ rfl
  have cf : ∀ j, u2.1.frozen? ⟨W.1.heap.size, j, none⟩ = false := by
    intro j
    rw [fz _ _ e3, hf2 _ _ (by simp)]
    go_simp
  have s7 : u2.1.cell? ⟨w.heap.size, 7, none⟩ = some (.slice a len cap) := by
    rw [far _ _ e1, hc _ _ (by simp; omega)]
    go_simp
  have r0 : u2.1.cell? ⟨w.heap.size + 1, 0, none⟩ = some (.int .i64 0) := by
    rw [far _ _ e2, hc _ _ (by simp)]
    go_simp
  have r1 : u2.1.cell? ⟨w.heap.size + 1, 1, none⟩ = some (.int .i64 0) := by
    rw [far _ _ e2, hc _ _ (by simp)]
    go_simp
  have r2 : u2.1.cell? ⟨w.heap.size + 1, 2, none⟩ = some (.int .i64 0) := by
    rw [far _ _ e2, hc _ _ (by simp)]
    go_simp
  have r3 : u2.1.cell? ⟨w.heap.size + 1, 3, none⟩ = some (.int .i64 0) := by
    rw [far _ _ e2, hc _ _ (by simp)]
    go_simp
  have r4 : u2.1.cell? ⟨w.heap.size + 1, 4, none⟩ = some (.int .i64 0) := by
    rw [far _ _ e2, hc _ _ (by simp)]
    go_simp
  have r5 : u2.1.cell? ⟨w.heap.size + 1, 5, none⟩ = some (.int .i64 0) := by
    rw [far _ _ e2, hc _ _ (by simp)]
    go_simp
  have r6 : u2.1.cell? ⟨w.heap.size + 1, 6, none⟩ = some (.int .i64 0) := by
    rw [far _ _ e2, hc _ _ (by simp)]
    go_simp
  have r7 : u2.1.cell? ⟨w.heap.size + 1, 7, none⟩ = some (.slice none 0 0) := by
    rw [far _ _ e2, hc _ _ (by simp)]
    go_simp
  have rf : ∀ j, u2.1.frozen? ⟨w.heap.size + 1, j, none⟩ = false := by
    intro j
    rw [fz _ _ x2, hf2 _ _ (by simp; omega)]
    go_simp
  have z3 : W.1.heap.size < u2.1.heap.size := by have := hb3.size; simp at this; omega
  have l2 := nd_lo l 4
  have l3 := nd_hi l 4 (by decide)
  have k2 := nd_lo k 2
  have k3 := nd_hi k 2 (by decide)
  have z4 : w.heap.size < u2.1.heap.size := by omega
  have z5 : w.heap.size + 1 < u2.1.heap.size := by omega
  clear near far fz hc3 hf3 hc2 hf2 hc hf hb3 x1 x2 e3 hbu hn hl hk hs hy ho hi hw
  generalize W.1.heap.size = g at *
  generalize u2.1 = w3 at *
  clear u2 u W
  generalize GN : nd n 4 = N at *
  have HN : Hid (nd n 4 = N) := GN
  clear GN
  generalize GL : nd l 4 = L at *
  have HL : Hid (nd l 4 = L) := GL
  clear GL
  generalize GK : nd k 2 = K at *
  have HK : Hid (nd k 2 = K) := GK
  clear GK
  generalize GS : nd s 2 = S at *
  have HS : Hid (nd s 2 = S) := GS
  clear GS
  generalize GY : nd y 2 = Y at *
  have HY : Hid (nd y 2 = Y) := GY
  clear GY
  generalize GO : nd o 3 = O at *
  have HO : Hid (nd o 3 = O) := GO
  clear GO
  generalize GI : nd i 3 = I at *
  have HI : Hid (nd i 3 = I) := GI
  clear GI
  have p1 : (0 : Int) ≤ (L : Int) * (K : Int) := Int.mul_nonneg (by omega) (by omega)
  have p2 : (L : Int) * (K : Int) ≤ 8 := by have := Int.mul_le_mul (show (L : Int) ≤ 4 by omega) (show (K : Int) ≤ 2 by omega) (by omega) (by omega); simpa using this
  have p3 : L * K ≤ 8 := by have := Nat.mul_le_mul (show L ≤ 4 by omega) (show K ≤ 2 by omega); simpa using this
  go_wp2_with (go_at_call 21; refine (cut_x a z len cap (L * K) _ _ (hsl.below hbw) (by omega) (Int.natCast_mul L K).symm).mono ?_; rintro e w4 ⟨v, rfl, hown, hb4⟩; obtain ⟨hc4, hf4⟩ := bcell hb4; obtain ⟨av, cv, ev, hslv⟩ := hown.sl; subst ev)
  rw [List.length_take] at hown
  have q1 : g < w4.heap.size := by have := hb4.size; omega
  have q2 : w.heap.size + 1 < w4.heap.size := by have := hb4.size; omega
  refine bodyPost_ret (v := .agg #[.int .i64 N, .int .i64 L, .int .i64 K, .int .i64 S, .int .i64 Y, .int .i64 O, .int .i64 I, .slice av (min (L * K) z.length) cv]) (by simp [results, Try.results7, go_sem, *]) rfl ⟨_, by rw [HN.out, HL.out, HK.out, HS.out, HY.out, HO.out, HI.out], ?_, ?_⟩
  · refine Own.low ?_ (show w.heap.size ≤ w3.heap.size by omega)
    repeat (refine Own.set ?_ (by simp <;> omega) _)
    rw [HL.out, HK.out]
    exact hown
  · repeat (refine Below.setCell ?_ (by simp <;> omega) _)
    exact next hbw hb4
end Go.Proofs.Ytgeiagndpfdnlaa
