/- The walk of chapletplay.Programs. Conditions: as each theorem states them. -/
import Derived.Test.YtpagdfmajeodiaaPrograms
import Derived.Test.YtpagdfmajeodiaaTake3
namespace Go.Proofs.Ytpagdfmajeodiaa
open Go.RowKit
set_option linter.unusedVariables false

/-- A setup's variable in memory: what is read of it. -/
structure SB (w : World) (g : Nat) (wh ki ad va : Value) : Prop where
  c8 : w.cell? ⟨g, 8, none⟩ = some wh
  c9 : w.cell? ⟨g, 9, none⟩ = some ki
  c10 : w.cell? ⟨g, 10, none⟩ = some ad
  c11 : w.cell? ⟨g, 11, none⟩ = some va
  lt : g < w.heap.size
theorem SB.below {w w' : World} {g : Nat} {wh ki ad va : Value} (h : SB w g wh ki ad va) (hb : Below w.heap.size w w') : SB w' g wh ki ad va := by
  obtain ⟨hc, _⟩ := bcell hb
  exact ⟨by rw [hc _ _ h.lt]; exact h.c8, by rw [hc _ _ h.lt]; exact h.c9, by rw [hc _ _ h.lt]; exact h.c10, by rw [hc _ _ h.lt]; exact h.c11, Nat.lt_of_lt_of_le h.lt hb.size⟩
theorem SB.made (w : World) (n l k s y o i : Int) (t wh ki ad va : Value) : SB (w.alloc (.cells #[.int .i64 n, .int .i64 l, .int .i64 k, .int .i64 s, .int .i64 y, .int .i64 o, .int .i64 i, t, wh, ki, ad, va] 31)) w.heap.size wh ki ad va := by
  constructor <;> simp
theorem make_rows (N : Nat) (hN : N ≤ 4) (w : World) : (Instr.makeSlice 33 (.int .i64 (N : Int)) (.int .i64 (N : Int))).run Try.prog w = .ok (.slice (some ⟨w.heap.size, 0, none⟩) N N) (w.alloc (.cells (madeCells #[.slice none 0 0] N) 39)) :=
  run_make_row' (P := Try.prog) 33 39 (.slice none 0 0) 24 Try.underlying33 Try.infoRow rfl .i64 .i64 N (by omega) (by omega) w
/-- Programs that may be, none longer than j. -/
def Fine (l k : Int) (j : Nat) (ps : List (List OpI)) : Prop := ∀ p ∈ ps, p.length ≤ j ∧ p.all (opOk l k) = true

/-- An operation's variable in memory. -/
def OB (w : World) (b : Nat) (k a v : Int) : Prop := w.heap[b]? = some (.cells #[.int .i64 k, .int .i64 a, .int .i64 v] 38 (0, 0))
theorem OB.made (w : World) (k a v : Int) : OB (w.alloc (.cells #[.int .i64 k, .int .i64 a, .int .i64 v] 38)) w.heap.size k a v := heap_alloc_new w _
theorem OB.c0 {w : World} {b : Nat} {k a v : Int} (h : OB w b k a v) : w.cell? ⟨b, 0, none⟩ = some (.int .i64 k) := cell_of_row w b 0 _ _ _ h
theorem OB.c1 {w : World} {b : Nat} {k a v : Int} (h : OB w b k a v) : w.cell? ⟨b, 1, none⟩ = some (.int .i64 a) := cell_of_row w b 1 _ _ _ h
theorem OB.c2 {w : World} {b : Nat} {k a v : Int} (h : OB w b k a v) : w.cell? ⟨b, 2, none⟩ = some (.int .i64 v) := cell_of_row w b 2 _ _ _ h
theorem OB.lt {w : World} {b : Nat} {k a v : Int} (h : OB w b k a v) : b < w.heap.size := (Array.getElem?_eq_some_iff.1 h).1
theorem OB.below {w w' : World} {b : Nat} {k a v : Int} (h : OB w b k a v) (hb : Below w.heap.size w w') : OB w' b k a v := by unfold OB; rw [hb.block b h.lt]; exact h
theorem OB.fz {w : World} {b : Nat} {k a v : Int} (h : OB w b k a v) (j : Nat) : w.frozen? ⟨b, j, none⟩ = false := by
  unfold OB at h
  simp [World.frozen?, h]
theorem OB.set {w : World} {b : Nat} {k a v : Int} (h : OB w b k a v) (x : Int) : OB (w.setCell ⟨b, 2, none⟩ (.int .i64 x)) b k a x := by
  have := heap_setCell_same w b 2 _ 38 (.int .i64 x) h
  simpa [OB] using this
theorem OB.put {w : World} {b : Nat} {k a v : Int} (h : OB w b k a v) (k' a' v' : Int) : OB (((w.setCell ⟨b, 0, none⟩ (.int .i64 k')).setCell ⟨b, 1, none⟩ (.int .i64 a')).setCell ⟨b, 2, none⟩ (.int .i64 v')) b k' a' v' := by
  have e0 := heap_setCell_same w b 0 _ 38 (.int .i64 k') h
  have e1 := heap_setCell_same _ b 1 _ 38 (.int .i64 a') e0
  have e2 := heap_setCell_same _ b 2 _ 38 (.int .i64 v') e1
  simpa [OB] using e2
theorem opOk_mk {l k : Int} {x : OpI} (h : isA l k x.a = true) (hx : (x.k == 2 || x.k == 3 || ((x.k == 1 || x.k == 4) && x.v == 0)) = true) : opOk l k x = true := by unfold opOk; rw [h, hx]; rfl
theorem kind_lit {m : Nat} (h : m < 7) : ∃ kk : Int, (#[.int .i64 1, .int .i64 2, .int .i64 3, .int .i64 1, .int .i64 2, .int .i64 1, .int .i64 4] : Array Value)[m]? = some (.int .i64 kk) ∧ (kk = 1 ∨ kk = 2 ∨ kk = 3 ∨ kk = 4) := by
  match m, h with
  | 0, _ => exact ⟨1, rfl, by omega⟩
  | 1, _ => exact ⟨2, rfl, by omega⟩
  | 2, _ => exact ⟨3, rfl, by omega⟩
  | 3, _ => exact ⟨1, rfl, by omega⟩
  | 4, _ => exact ⟨2, rfl, by omega⟩
  | 5, _ => exact ⟨1, rfl, by omega⟩
  | 6, _ => exact ⟨4, rfl, by omega⟩

theorem Fine.push {l k : Int} {j kx : Nat} {ps : List (List OpI)} {p : List OpI} {x : OpI} (h : Fine l k j ps) (hp : ps[kx]? = some p) (hx : opOk l k x = true) : Fine l k (j + 1) (ps.set kx (p ++ [x])) := by
  intro q hq
  rcases List.mem_or_eq_of_mem_set hq with h1 | h1
  · have := h q h1; exact ⟨by omega, this.2⟩
  · subst h1
    have := h p (List.mem_of_getElem? hp)
    exact ⟨by simp; omega, by rw [List.all_append, this.2]; simp [hx]⟩
theorem news_op (w : World) (x : OpI) : ∀ j u, (flat [x])[j]? = some u → (w.alloc (.cells #[.int .i64 x.k, .int .i64 x.a, .int .i64 x.v] 38)).cell? ((⟨w.heap.size, 0, none⟩ : Addr).add j) = some u := by
  intro j u hu
  rw [Addr.add_lit, Nat.zero_add]
  have hj : j < 3 := by have := (List.getElem?_eq_some_iff.1 hu).1; simpa [flat] using this
  match j, hj, hu with
  | 0, _, hu | 1, _, hu | 2, _, hu => simpa [flat] using hu
theorem news_up {w w' : World} {x : OpI} (hb : Below (w.alloc (.cells #[.int .i64 x.k, .int .i64 x.a, .int .i64 x.v] 38)).heap.size (w.alloc (.cells #[.int .i64 x.k, .int .i64 x.a, .int .i64 x.v] 38)) w') : ∀ j u, (flat [x])[j]? = some u → w'.cell? ((⟨w.heap.size, 0, none⟩ : Addr).add j) = some u := by
  intro j u hu
  have := news_op w x j u hu
  rw [hb.cell (p := (⟨w.heap.size, 0, none⟩ : Addr).add j) (by rw [Addr.add_lit]; simp)]
  exact this
theorem Grid.cell {w : World} {gO k : Nat} {rows : List Value} {ps : List (List OpI)} {r : Value} (h : Grid w gO rows ps) (hr : rows[k]? = some r) : w.cell? ⟨gO, k, none⟩ = some r := by
  rw [cell_of_row w gO k _ _ _ h.outer]; simpa using hr
theorem Grid.fz {w : World} {gO : Nat} {rows : List Value} {ps : List (List OpI)} (h : Grid w gO rows ps) (k : Nat) : w.frozen? ⟨gO, k, none⟩ = false := by
  have := h.outer
  simp [World.frozen?, this]

set_option maxRecDepth 20000 in
set_option maxHeartbeats 1000000 in
theorem programs_any (n l k s y o i : Int) (a0 : Option Addr) (n0 q0 : Nat) (z0 : List Int) (a1 : Option Addr) (n1 q1 : Nat) (z1 : List Int) (a2 : Option Addr) (n2 q2 : Nat) (z2 : List Int) (a3 : Option Addr) (n3 q3 : Nat) (z3 : List Int) (a4 : Option Addr) (n4 q4 : Nat) (z4 : List Int) (most : Nat) (w : World)
    (h0 : Sl w a0 n0 q0 z0) (h1 : Sl w a1 n1 q1 z1) (h2 : Sl w a2 n2 q2 z2) (h3 : Sl w a3 n3 q3 z3) (h4 : Sl w a4 n4 q4 z4) (hmost : most ≤ 20) :
    Calls Try.prog 13 #[setup n l k s y o i (.slice a0 n0 q0) (.slice a1 n1 q1) (.slice a2 n2 q2) (.slice a3 n3 q3) (.slice a4 n4 q4), .int .i64 (most : Int)] w fun e w' => ∃ (N L K S Y O I : Nat) (zi : List Int) (gO : Nat) (rows : List Value) (ps : List (List OpI)),
      e = .returned (.slice (some ⟨gO, 0, none⟩) N N) ∧ IsCfg n l k s y o i z0 N L K S Y O I zi ∧ w.heap.size ≤ gO ∧ Grid w' gO rows ps ∧ ps.length = N ∧ Fine L K most ps ∧ Below w.heap.size w w' := by
  unfold setup
  go_enter Try.func13, Try.ntmps13
  go_upto_region 2 with (first
    | (go_at_call 12; refine (config_c _ _ _ _ _ _ _ _ _ _ _ _ _ _ z0 _ (h0.below (by exact ba (Below.refl _ _)))).mono ?_; rintro e w1 ⟨N, L, K, S, Y, O, I, zi, av, nv, cv, rfl, hcf, hnv, hown, hb1⟩; unfold cfg))
  have hsb := (SB.made w n l k s y o i (.slice a0 n0 q0) (.slice a1 n1 q1) (.slice a2 n2 q2) (.slice a3 n3 q3) (.slice a4 n4 q4)).below (ba (o := .cells #[.int .i64 (N : Int), .int .i64 (L : Int), .int .i64 (K : Int), .int .i64 (S : Int), .int .i64 (Y : Int), .int .i64 (O : Int), .int .i64 (I : Int), .slice av nv cv] 25) hb1)
  have hbw := ba (o := .cells #[.int .i64 (N : Int), .int .i64 (L : Int), .int .i64 (K : Int), .int .i64 (S : Int), .int .i64 (Y : Int), .int .i64 (O : Int), .int .i64 (I : Int), .slice av nv cv] 25) (next (ba (Below.refl _ _)) hb1)
  have hcb := CB.made w1 N L K S Y O I (.slice av nv cv)
  generalize w1.alloc (.cells #[.int .i64 (N : Int), .int .i64 (L : Int), .int .i64 (K : Int), .int .i64 (S : Int), .int .i64 (Y : Int), .int .i64 (O : Int), .int .i64 (I : Int), .slice av nv cv] 25) = W at *
  generalize w1.heap.size = g at *
  obtain ⟨N0, N1, L0, L1, K0, K1, S0, S1, Y0, Y1, O0, O1, I0, I1⟩ := hcf.bd
  obtain ⟨p0, p2, p3⟩ := mul_bd L0 L1 K0 K1
  have hs1 := h1.below hbw
  have hs2 := h2.below hbw
  have hs3 := h3.below hbw
  have hs4 := h4.below hbw
  clear hown hb1 h0 h1 h2 h3 h4
  obtain ⟨c0, c1, c2, c3, c4, c5, c6, c7, clt⟩ := hcb
  have hmk := make_rows N (by omega)
  have hgr := Grid.made W N
  go_wp2
  have hb2 : Below W.heap.size W (W.alloc (.cells (madeCells #[.slice none 0 0] N) 39)) := ba (Below.refl _ _)
  generalize W.alloc (.cells (madeCells #[.slice none 0 0] N) 39) = W2 at *
  have hcb : CB W g N L K S Y O I (.slice av nv cv) := ⟨c0, c1, c2, c3, c4, c5, c6, c7, clt⟩
  clear c0 c1 c2 c3 c4 c5 c6 c7 clt hmk
  have hmx1 := hs1.max
  have hle1 := hs1.le
  unfold maxLen at hmx1
  go_loopw [7] (fun q wr => ∃ (j : Nat) (rows : List Value) (ps : List (List OpI)), q = .int .i64 j ∧ j ≤ most ∧ Below W.heap.size W wr ∧ Grid wr W.heap.size rows ps ∧ ps.length = N ∧ Fine L K j ps) (fun q _ => most - (intOf q).toNat)
  case atStart => exact ⟨0, _, _, rfl, by omega, hb2, hgr, by simp, fun p hp => by simp at hp; simp [hp.2]⟩
  case round =>
    obtain ⟨j, rows, ps, rfl, hj, hbr, hg, hpl, hfine⟩ := hrel
    clear hgr hb2
    obtain ⟨c0, c1, c2, c3, c4, c5, c6, c7, clt⟩ := hcb.below hbr
    obtain ⟨s8, s9, s10, s11, slt⟩ := hsb.below hbr
    have hr1 := hs1.below hbr
    have hr2 := hs2.below hbr
    have hr3 := hs3.below hbr
    have hr4 := hs4.below hbr
    by_cases hin : j < n1 ∧ j < most
    · obtain ⟨hi1, hi2⟩ := hin
      have hi1' : (j : Int) < (n1 : Int) := by omega
      have hi2' : (j : Int) < (most : Int) := by omega
      have HPL : Hid (ps.length = N) := hpl
      clear hpl
      generalize wr = wo at *
      go_upto_region 6 with fail
      go_cut [8] (fun v wx => ∃ (b : Nat) (kk aa : Int), v = .pointer (some ⟨b, 0, none⟩) ∧ wo.heap.size ≤ b ∧ OB wx b kk aa 0 ∧ (kk = 1 ∨ kk = 2 ∨ kk = 3 ∨ kk = 4) ∧ 0 ≤ aa ∧ aa < (L : Int) * (K : Int) ∧ Below wo.heap.size wo wx)
      case first =>
        obtain ⟨x2, hx2⟩ : ∃ x, z2[j]?.getD 0 = x := ⟨_, rfl⟩
        obtain ⟨x3, hx3⟩ : ∃ x, z3[j]?.getD 0 = x := ⟨_, rfl⟩
        have m70 : 0 ≤ x2 % 7 := Int.emod_nonneg _ (by omega)
        have m71 : x2 % 7 < 7 := Int.emod_lt_of_pos _ (by omega)
        obtain ⟨m, hm⟩ : ∃ m : Nat, x2 % 7 = (m : Int) := ⟨(x2 % 7).toNat, by omega⟩
        obtain ⟨kk, hkk, hk4⟩ := kind_lit (m := m) (by omega)
        have aa0 : 0 ≤ x3 % ((L : Int) * (K : Int)) := Int.emod_nonneg _ (by omega)
        have aa1 : x3 % ((L : Int) * (K : Int)) < (L : Int) * (K : Int) := Int.emod_lt_of_pos _ (by omega)
        have uc := @Up.cell2
        have uf := @Up.frozen2
        refine wp_region_mild 21 rfl (by kernel_rfl) ?_
        refine mild_take (v := ?v1) 1 rfl (by kernel_rfl) (by kernel_rfl) (by kernel_rfl) (fun _ _ _ h => h) (by kernel_rfl) (fun Wu K hK => ?hy1) ?go1
        case hy1 =>
          go_big_quiet_op
          simp only [Act.put, List.setIfInBounds_toArray, List.set_cons_zero, List.set_cons_succ] at hK
          exact hK
        simp only [Act.put, List.setIfInBounds_toArray, List.set_cons_zero, List.set_cons_succ]
        refine mild_take (v := ?v2) 2 rfl (by kernel_rfl) (by kernel_rfl) (by kernel_rfl) (fun _ _ _ h => h) (by kernel_rfl) (fun Wu K hK => ?hy2) ?go2
        case hy2 =>
          go_big_quiet_op
          simp only [Act.put, List.setIfInBounds_toArray, List.set_cons_zero, List.set_cons_succ] at hK
          exact hK
        simp only [Act.put, List.setIfInBounds_toArray, List.set_cons_zero, List.set_cons_succ]
        refine mild_take (v := ?v3) 3 rfl (by kernel_rfl) (by kernel_rfl) (by kernel_rfl) (fun _ _ _ h => h) (by kernel_rfl) (fun Wu K hK => ?hy3) ?go3
        case hy3 =>
          go_big_quiet_op
          simp only [Act.put, List.setIfInBounds_toArray, List.set_cons_zero, List.set_cons_succ] at hK
          exact hK
        simp only [Act.put, List.setIfInBounds_toArray, List.set_cons_zero, List.set_cons_succ]
        refine mild_take (v := ?v4) 4 rfl (by kernel_rfl) (by kernel_rfl) (by kernel_rfl) (fun _ _ _ h => h) (by kernel_rfl) (fun Wu K hK => ?hy4) ?go4
        case hy4 =>
          go_big_quiet_op
          simp only [Act.put, List.setIfInBounds_toArray, List.set_cons_zero, List.set_cons_succ] at hK
          refine ⟨_, fun u => Calls.up_same (at_any a2 z2 n2 q2 j _ (hr2.below (next Wu.2 u.2)) (by omega)), ?_⟩
          exact hK
        simp only [Act.put, List.setIfInBounds_toArray, List.set_cons_zero, List.set_cons_succ]
        refine mild_take (v := ?v5) 5 rfl (by kernel_rfl) (by kernel_rfl) (by kernel_rfl) (fun _ _ _ h => h) (by kernel_rfl) (fun Wu K hK => ?hy5) ?go5
        case hy5 =>
          go_big_quiet_op
          simp only [Act.put, List.setIfInBounds_toArray, List.set_cons_zero, List.set_cons_succ] at hK
          refine ⟨_, fun u => Calls.up_same (within_any _ _ _ (by omega) (by omega)), ?_⟩
          exact hK
        simp only [Act.put, List.setIfInBounds_toArray, List.set_cons_zero, List.set_cons_succ]
        refine mild_take (v := ?v6) 8 rfl (by kernel_rfl) (by kernel_rfl) (by kernel_rfl) (fun _ _ _ h => h) (by kernel_rfl) (fun Wu K hK => ?hy6) ?go6
        case hy6 =>
          go_big_quiet_op
          simp only [Act.put, List.setIfInBounds_toArray, List.set_cons_zero, List.set_cons_succ] at hK
          exact hK
        simp only [Act.put, List.setIfInBounds_toArray, List.set_cons_zero, List.set_cons_succ]
        refine mild_take (v := ?v7) 9 rfl (by kernel_rfl) (by kernel_rfl) (by kernel_rfl) (fun _ _ _ h => h) (by kernel_rfl) (fun Wu K hK => ?hy7) ?go7
        case hy7 =>
          go_big_quiet_op
          simp only [Act.put, List.setIfInBounds_toArray, List.set_cons_zero, List.set_cons_succ] at hK
          exact hK
        simp only [Act.put, List.setIfInBounds_toArray, List.set_cons_zero, List.set_cons_succ]
        refine mild_take (v := ?v8) 10 rfl (by kernel_rfl) (by kernel_rfl) (by kernel_rfl) (fun _ _ _ h => h) (by kernel_rfl) (fun Wu K hK => ?hy8) ?go8
        case hy8 =>
          go_big_quiet_op
          simp only [Act.put, List.setIfInBounds_toArray, List.set_cons_zero, List.set_cons_succ] at hK
          exact hK
        simp only [Act.put, List.setIfInBounds_toArray, List.set_cons_zero, List.set_cons_succ]
        refine mild_take (v := ?v9) 11 rfl (by kernel_rfl) (by kernel_rfl) (by kernel_rfl) (fun _ _ _ h => h) (by kernel_rfl) (fun Wu K hK => ?hy9) ?go9
        case hy9 =>
          go_big_quiet_op
          simp only [Act.put, List.setIfInBounds_toArray, List.set_cons_zero, List.set_cons_succ] at hK
          refine ⟨_, fun u => Calls.up_same (at_any a3 z3 n3 q3 j _ (hr3.below (next Wu.2 u.2)) (by omega)), ?_⟩
          exact hK
        simp only [Act.put, List.setIfInBounds_toArray, List.set_cons_zero, List.set_cons_succ]
        refine mild_take (v := ?v10) 12 rfl (by kernel_rfl) (by kernel_rfl) (by kernel_rfl) (fun _ _ _ h => h) (by kernel_rfl) (fun Wu K hK => ?hy10) ?go10
        case hy10 =>
          go_big_quiet_op
          simp only [Act.put, List.setIfInBounds_toArray, List.set_cons_zero, List.set_cons_succ] at hK
          exact hK
        simp only [Act.put, List.setIfInBounds_toArray, List.set_cons_zero, List.set_cons_succ]
        refine mild_take (v := ?v11) 13 rfl (by kernel_rfl) (by kernel_rfl) (by kernel_rfl) (fun _ _ _ h => h) (by kernel_rfl) (fun Wu K hK => ?hy11) ?go11
        case hy11 =>
          go_big_quiet_op
          simp only [Act.put, List.setIfInBounds_toArray, List.set_cons_zero, List.set_cons_succ] at hK
          exact hK
        simp only [Act.put, List.setIfInBounds_toArray, List.set_cons_zero, List.set_cons_succ]
        refine mild_take (v := ?v12) 14 rfl (by kernel_rfl) (by kernel_rfl) (by kernel_rfl) (fun _ _ _ h => h) (by kernel_rfl) (fun Wu K hK => ?hy12) ?go12
        case hy12 =>
          go_big_quiet_op
          simp only [Act.put, List.setIfInBounds_toArray, List.set_cons_zero, List.set_cons_succ] at hK
          exact hK
        simp only [Act.put, List.setIfInBounds_toArray, List.set_cons_zero, List.set_cons_succ]
        refine mild_take (v := ?v13) 15 rfl (by kernel_rfl) (by kernel_rfl) (by kernel_rfl) (fun _ _ _ h => h) (by kernel_rfl) (fun Wu K hK => ?hy13) ?go13
        case hy13 =>
          go_big_quiet_op
          simp only [Act.put, List.setIfInBounds_toArray, List.set_cons_zero, List.set_cons_succ] at hK
          exact hK
        simp only [Act.put, List.setIfInBounds_toArray, List.set_cons_zero, List.set_cons_succ]
        refine mild_take (v := ?v14) 16 rfl (by kernel_rfl) (by kernel_rfl) (by kernel_rfl) (fun _ _ _ h => h) (by kernel_rfl) (fun Wu K hK => ?hy14) ?go14
        case hy14 =>
          go_big_quiet_op
          simp only [Act.put, List.setIfInBounds_toArray, List.set_cons_zero, List.set_cons_succ] at hK
          exact hK
        simp only [Act.put, List.setIfInBounds_toArray, List.set_cons_zero, List.set_cons_succ]
        refine mild_take (v := ?v15) 17 rfl (by kernel_rfl) (by kernel_rfl) (by kernel_rfl) (fun _ _ _ h => h) (by kernel_rfl) (fun Wu K hK => ?hy15) ?go15
        case hy15 =>
          go_big_quiet_op
          simp only [Act.put, List.setIfInBounds_toArray, List.set_cons_zero, List.set_cons_succ] at hK
          refine ⟨_, fun u => Calls.up_same (within_any _ _ _ (by omega) (by omega)), ?_⟩
          exact hK
        simp only [Act.put, List.setIfInBounds_toArray, List.set_cons_zero, List.set_cons_succ]
        intro Wu
        have hWu := Wu.2
        generalize Wu.1 = wu at *
        clear uc uf Wu
        refine up_two 0 19 (by kernel_rfl) rfl rfl ?_ ?_
        · go_wp2
          refine ⟨ba hWu, fun u => ?_⟩
          have hbu := u.2
          have hlit : u.1.cell? ⟨wu.heap.size, m, none⟩ = some (.int .i64 kk) := by
            rw [hbu.cell (p := ⟨wu.heap.size, m, none⟩) (by simp)]
            simp [hkk]
          have hlt : wu.heap.size < u.1.heap.size := by have := hbu.size; simp at this; omega
          have hBu := next (ba hWu) hbu
          generalize u.1 = wv at *
          clear u hbu
          refine up_raise hBu ?_
          have uc := @Up.cell2
          have uf := @Up.frozen2
          refine mild_take (v := ?v101) 6 rfl (by kernel_rfl) (by kernel_rfl) (by kernel_rfl) (fun _ _ _ h => h) (by kernel_rfl) (fun Wu K hK => ?hy101) ?go101
          case hy101 =>
            go_big_quiet_op
            simp only [Act.put, List.setIfInBounds_toArray, List.set_cons_zero, List.set_cons_succ] at hK
            exact hK
          simp only [Act.put, List.setIfInBounds_toArray, List.set_cons_zero, List.set_cons_succ]
          refine mild_take (v := ?v102) 7 rfl (by kernel_rfl) (by kernel_rfl) (by kernel_rfl) (fun _ _ _ h => h) (by kernel_rfl) (fun Wu K hK => ?hy102) ?go102
          case hy102 =>
            go_big_quiet_op
            simp only [Act.put, List.setIfInBounds_toArray, List.set_cons_zero, List.set_cons_succ] at hK
            exact hK
          simp only [Act.put, List.setIfInBounds_toArray, List.set_cons_zero, List.set_cons_succ]
          refine mild_take (v := ?v103) 18 rfl (by kernel_rfl) (by kernel_rfl) (by kernel_rfl) (fun _ _ _ h => h) (by kernel_rfl) (fun Wu K hK => ?hy103) ?go103
          case hy103 =>
            go_big_quiet_op
            simp only [Act.put, List.setIfInBounds_toArray, List.set_cons_zero, List.set_cons_succ] at hK
            exact hK
          simp only [Act.put, List.setIfInBounds_toArray, List.set_cons_zero, List.set_cons_succ]
          intro Wv
          have hWv := Wv.2
          generalize Wv.1 = wy at *
          clear uc uf Wv
          refine up_list 19 (by kernel_rfl) rfl ?_
          go_wp2
          refine ⟨ba hWv, fun u => ?_⟩
          have hbu := u.2
          have hob := (OB.made wy 0 0 0).below hbu
          have t0 := hob.c0
          have t1 := hob.c1
          have t2 := hob.c2
          have tf := hob.fz
          have hle : wo.heap.size ≤ wy.heap.size := Nat.le_trans hBu.size hWv.size
          have hBx : Below wo.heap.size wo u.1 := next (next hBu (ba hWv)) hbu
          have hBv : Below wv.heap.size wv u.1 := next (ba hWv) hbu
          generalize u.1 = wz at *
          clear u hbu
          refine up_list 20 (by kernel_rfl) rfl ?_
          go_wp2
          refine ⟨((hBv.setCell hWv.size _).setCell hWv.size _).setCell hWv.size _, fun u => ?_⟩
          refine up_done (by kernel_rfl) ?_
          have hbu := u.2
          have hob2 := (hob.put kk (x3 % ((L : Int) * (K : Int))) 0).below hbu
          have hBy := next (((hBx.setCell hle _).setCell hle _).setCell hle _) hbu
          generalize u.1 = wq at *
          go_wp2_with fail
          go_meet
          case rel => exact ⟨_, _, _, rfl, hle, hob2, hk4, aa0, aa1, hBy⟩
        · go_wp2
          refine ⟨ba hWu, fun u => ?_⟩
          have hbu := u.2
          have hob := (OB.made wu 0 0 0).below hbu
          have hlt0 : wu.heap.size < u.1.heap.size := by have := hbu.size; simp at this; omega
          have hBu := next (ba hWu) hbu
          generalize u.1 = wv at *
          clear u hbu
          refine up_list 0 (by kernel_rfl) rfl ?_
          go_wp2
          refine ⟨ba hBu, fun u => ?_⟩
          have hbu := u.2
          have hlit : u.1.cell? ⟨wv.heap.size, m, none⟩ = some (.int .i64 kk) := by
            rw [hbu.cell (p := ⟨wv.heap.size, m, none⟩) (by simp)]
            simp [hkk]
          have hob1 := hob.below (next (ba (Below.refl _ _)) hbu)
          have hBv := next (ba hBu) hbu
          generalize u.1 = wy at *
          clear u hbu
          refine up_list 6 (by kernel_rfl) rfl ?_
          go_wp2
          refine ⟨hBv, fun u => ?_⟩
          have hbu := u.2
          have hlit' := hlit
          rw [← hbu.cell (p := ⟨wv.heap.size, m, none⟩) (World.block_lt_of_cell? _ _ hlit)] at hlit'
          have hob' := hob1.below hbu
          have hBv' := next hBv hbu
          clear hlit hob1 hBv
          generalize u.1 = wa at *
          clear u hbu
          have hlit := hlit'
          have hob1 := hob'
          have hBv := hBv'
          clear hlit' hob' hBv'
          refine up_list 7 (by kernel_rfl) rfl ?_
          go_wp2
          refine ⟨hBv, fun u => ?_⟩
          have hbu := u.2
          have hlit' := hlit
          rw [← hbu.cell (p := ⟨wv.heap.size, m, none⟩) (World.block_lt_of_cell? _ _ hlit)] at hlit'
          have hob' := hob1.below hbu
          have hBv' := next hBv hbu
          clear hlit hob1 hBv
          generalize u.1 = wb at *
          clear u hbu
          have hlit := hlit'
          have hob1 := hob'
          have hBv := hBv'
          clear hlit' hob' hBv'
          refine up_list 18 (by kernel_rfl) rfl ?_
          go_wp2
          refine ⟨hBv, fun u => ?_⟩
          have hbu := u.2
          have hlit' := hlit
          rw [← hbu.cell (p := ⟨wv.heap.size, m, none⟩) (World.block_lt_of_cell? _ _ hlit)] at hlit'
          have hob' := hob1.below hbu
          have hBv' := next hBv hbu
          clear hlit hob1 hBv
          generalize u.1 = wc at *
          clear u hbu
          have hlit := hlit'
          have hob1 := hob'
          have hBv := hBv'
          clear hlit' hob' hBv'
          have t0 := hob1.c0
          have t1 := hob1.c1
          have t2 := hob1.c2
          have tf := hob1.fz
          have hle : wo.heap.size ≤ wu.heap.size := hWu.size
          refine up_list 20 (by kernel_rfl) rfl ?_
          go_wp2
          refine ⟨((hBv.setCell hle _).setCell hle _).setCell hle _, fun u => ?_⟩
          refine up_done (by kernel_rfl) ?_
          have hbu := u.2
          have hob2 := (hob1.put kk (x3 % ((L : Int) * (K : Int))) 0).below hbu
          have hBy := next (((hBv.setCell hle _).setCell hle _).setCell hle _) hbu
          generalize u.1 = wq at *
          go_wp2_with fail
          go_meet
          case rel => exact ⟨_, _, _, rfl, hle, hob2, hk4, aa0, aa1, hBy⟩
      case rest =>
        obtain ⟨b, kk, aa, rfl, hble, hob, hk4, aa0, aa1, hBx⟩ := hcut
        clear hr2 hr3
        generalize wc = wx at *
        obtain ⟨x4, hx4⟩ : ∃ x, z4[j]?.getD 0 = x := ⟨_, rfl⟩
        have t0 := hob.c0
        have t1 := hob.c1
        have t2 := hob.c2
        have tf := hob.fz
        obtain ⟨tb, htb⟩ : ∃ tb : Bool, decide (kk = 2 ∨ kk = 3) = tb := ⟨_, rfl⟩
        have HT : Hid (decide (kk = 2 ∨ kk = 3) = tb) := htb
        clear htb
        have HX4 : Hid (z4[j]?.getD 0 = x4) := hx4
        clear hx4
        go_upto_region 7 with fail
        go_cut [53] (fun v wy => v = .bool tb ∧ wx = wy)
        case first =>
          rcases hk4 with rfl | rfl | rfl | rfl
          all_goals
            go_wp2
            go_meet
            case rel => exact ⟨by rw [← HT.out]; rfl, rfl⟩
        case rest =>
          obtain ⟨rfl, hwx⟩ := hcut
          subst hwx
          go_upto_if 53 with fail
          go_cut [9] (fun _ wy => ∃ vv : Int, OB wy b kk aa vv ∧ opOk L K ⟨kk, aa, vv⟩ = true ∧ Below wo.heap.size wo wy)
          case first =>
            have s11x : wx.cell? ⟨w.heap.size, 11, none⟩ = some (.slice a4 n4 q4) := by rw [hBx.cell (p := ⟨w.heap.size, 11, none⟩) slt]; exact s11
            have bne : b ≠ w.heap.size := by omega
            cases tb
            · have hkn : ¬ (kk = 2 ∨ kk = 3) := by have := HT.out; simpa using this
              go_wp2
              go_meet
              case rel => exact ⟨0, hob, opOk_mk (isA_mk aa0 aa1) (by simp; omega), hBx⟩
            · have hky : kk = 2 ∨ kk = 3 := by have := HT.out; simpa using this
              have HK : Hid (kk = 2 ∨ kk = 3) := hky
              clear hky hk4
              go_wp2_with (go_at_call 27; refine (at_any a4 z4 n4 q4 j _ (hr4.below (by exact hBx)) (by omega)).mono ?_; rintro e wz ⟨rfl, rfl⟩)
              go_meet
              case rel => exact ⟨_, hob.set _, opOk_mk (isA_mk aa0 aa1) (by have := HK.out; simp; omega), hBx.setCell hble _⟩
          case rest =>
            obtain ⟨vv, hob2, hok, hBy⟩ := hcut
            generalize wc = wz at *
            clear hob hBx t0 t1 t2 tf hr4 HX4 HT hk4 aa0 aa1
            have hg2 := hg.below hBy
            obtain ⟨x1, hx1⟩ : ∃ x, z1[j]?.getD 0 = x := ⟨_, rfl⟩
            have hl1 := hr1.len
            have hsome : ∃ b1 o1, a1 = some ⟨b1, o1, none⟩ ∧ wo.cell? ⟨b1, o1 + j, none⟩ = some (.int .i64 x1) := by
              rcases hr1.row with h | ⟨b1, o1, e, hc⟩
              · rw [h] at hl1; simp at hl1; omega
              · exact ⟨b1, o1, e, by rw [← hx1]; exact hc j (by omega)⟩
            obtain ⟨b1, o1, rfl, hcw⟩ := hsome
            have blt1 : b1 < wo.heap.size := World.block_lt_of_cell? _ _ hcw
            have k0 : 0 ≤ x1 % (N : Int) := Int.emod_nonneg _ (by omega)
            have k1 : x1 % (N : Int) < (N : Int) := Int.emod_lt_of_pos _ (by omega)
            obtain ⟨kx, hkx⟩ : ∃ m : Nat, x1 % (N : Int) = (m : Int) := ⟨(x1 % (N : Int)).toNat, by omega⟩
            have hkN : kx < N := by omega
            have hrl := hg2.len
            have hpl := HPL.out
            obtain ⟨pp, hpp⟩ : ∃ pp, ps[kx]? = some pp := ⟨ps[kx]'(by omega), by simp⟩
            obtain ⟨rr, hrr⟩ : ∃ rr, rows[kx]? = some rr := ⟨rows[kx]'(by omega), by simp⟩
            have hown := hg2.own kx rr pp hrr hpp
            obtain ⟨ar, cr, rfl, hslr⟩ := slv_own hown
            have hpj := (hfine pp (List.mem_of_getElem? hpp)).1
            have hpa := (hfine pp (List.mem_of_getElem? hpp)).2
            have hout : wz.cell? ⟨W.heap.size, kx, none⟩ = some (.slice ar pp.length cr) := by
              rw [cell_of_row wz W.heap.size kx _ _ _ hg2.outer]; simpa using hrr
            have HRR : Hid (rows[kx]? = some (.slice ar pp.length cr)) := hrr
            have HPP : Hid (ps[kx]? = some pp) := hpp
            have HPA : Hid (pp.all (opOk L K) = true) := hpa
            have HOK : Hid (opOk L K ⟨kk, aa, vv⟩ = true) := hok
            have e1 : wz.cell? ⟨w.heap.size, 8, none⟩ = some (.slice (some ⟨b1, o1, none⟩) n1 q1) := by rw [hBy.cell (p := ⟨w.heap.size, 8, none⟩) slt]; exact s8
            have e2 : wz.cell? ⟨g, 0, none⟩ = some (.int .i64 (N : Int)) := by rw [hBy.cell (p := ⟨g, 0, none⟩) clt]; exact c0
            have e3 : wz.cell? ⟨b1, o1 + j, none⟩ = some (.int .i64 x1) := by rw [hBy.cell (p := ⟨b1, o1 + j, none⟩) blt1]; exact hcw
            have z1' : w.heap.size < wz.heap.size := Nat.lt_of_lt_of_le slt hBy.size
            have z2' : g < wz.heap.size := Nat.lt_of_lt_of_le clt hBy.size
            have z3' : b1 < wz.heap.size := Nat.lt_of_lt_of_le blt1 hBy.size
            have hlt24 : (pp.length : Int) < 24 := by omega
            clear hrr hpp hpa hok hx1 hslr hrl hpl hcw s8 s9 s10 s11 c0 c1 c2 c3 c4 c5 c6 c7
            go_upto_region 9 with fail
            have uc := @Up.cell
            have uf := @Up.frozen
            refine wp_region_up (by kernel_rfl) (by kernel_rfl) ?_
            repeat (go_big_quiet_step ((go_at_call 9; exact Calls.up_same (within_any _ _ _ (by omega) (by omega)))))
            refine wpQuiet_nil ?_
            rintro _ ⟨u, rfl⟩
            have hbu := u.2
            have hg3 := hg2.below hbu
            have hob3 := hob2.below hbu
            have hB3 := next hBy hbu
            have hout3 : u.1.cell? ⟨W.heap.size, kx, none⟩ = some (.slice ar pp.length cr) := by
              rw [hbu.cell (p := ⟨W.heap.size, kx, none⟩) (World.block_lt_of_cell? _ _ hout)]; exact hout
            have hown3 := ownsRow_below hown hbu
            clear uc uf hbu e1 e2 e3 z1' z2' z3' hg2 hob2 hout hown hBy
            generalize u.1 = wt at *
            clear u
            have t0 := hob3.c0
            have t1 := hob3.c1
            have t2 := hob3.c2
            go_upto_region 11 with fail
            have q0 : (kx : Int) < (N : Int) := by omega
            refine wp_region_orders 11 rfl (by kernel_rfl) ?_
            refine any_take 0 (.slice (some ⟨W.heap.size, 0, none⟩) N N) rfl (by kernel_rfl) (by kernel_rfl) (by kernel_rfl) (fun _ _ _ h => h) (by kernel_rfl) (fun w => by go_simp) ?_
            simp only [Act.put, List.setIfInBounds_toArray, List.set_cons_zero, List.set_cons_succ]
            refine any_take 1 (.int .i64 (kx : Int)) rfl (by kernel_rfl) (by kernel_rfl) (by kernel_rfl) (fun _ _ _ h => h) (by kernel_rfl) (fun w => by go_simp) ?_
            simp only [Act.put, List.setIfInBounds_toArray, List.set_cons_zero, List.set_cons_succ]
            refine any_take 2 (.slice (some ⟨W.heap.size, 0, none⟩) N N) rfl (by kernel_rfl) (by kernel_rfl) (by kernel_rfl) (fun _ _ _ h => h) (by kernel_rfl) (fun w => by go_simp) ?_
            simp only [Act.put, List.setIfInBounds_toArray, List.set_cons_zero, List.set_cons_succ]
            refine any_take 3 (.int .i64 (kx : Int)) rfl (by kernel_rfl) (by kernel_rfl) (by kernel_rfl) (fun _ _ _ h => h) (by kernel_rfl) (fun w => by go_simp) ?_
            simp only [Act.put, List.setIfInBounds_toArray, List.set_cons_zero, List.set_cons_succ]
            refine any_take 4 (.pointer (some ⟨W.heap.size, kx, none⟩)) rfl (by kernel_rfl) (by kernel_rfl) (by kernel_rfl) (fun _ _ _ h => h) (by kernel_rfl) (fun w => by go_simp) ?_
            simp only [Act.put, List.setIfInBounds_toArray, List.set_cons_zero, List.set_cons_succ]
            have hbd : Below wt.heap.size wt wt.drew := (Below.refl _ _).drew
            have hgd := hg3.below hbd
            have hobd := hob3.below hbd
            have hownd := ownsRow_below hown3 hbd
            have hBd := next hbr (next hB3 hbd)
            have houtd := hgd.cell HRR.out
            have t0 := hobd.c0
            have t1 := hobd.c1
            have t2 := hobd.c2
            have hWd : W.heap.size < wt.drew.heap.size := hgd.lt
            generalize wt.drew = wd at *
            clear hbd hg3 hob3 hown3 hB3 hout3
            obtain ⟨i0, hi, hz0, hz1, hz2⟩ := info_parts Try.infoOp
            refine any_two 5 6 (by kernel_rfl) rfl rfl ?_ ?_
            · go_wp2
              refine then_n ?_
              refine any_list 6 (by kernel_rfl) rfl ?_
              go_wp2
              refine then_n ?_
              refine any_list 7 (by kernel_rfl) rfl ?_
              go_wp2
              refine then_n ?_
              refine any_list 8 (by kernel_rfl) rfl ?_
              go_wp2_with (at_builtin; refine wpList_append_own_at _ rfl _ _ 39 rfl W.heap.size 38 i0 (.agg #[.int .i64 0, .int .i64 0, .int .i64 0]) 3 24 Try.underlying39 hi hz0 hz1 hz2 rfl (by decide) (.slice ar pp.length cr) pp.length (flat pp) rfl (ownsRow_below hownd (by exact ba (Below.refl _ _))) ⟨wd.heap.size, 0, none⟩ 1 1 (flat [⟨kk, aa, vv⟩]) rfl rfl (news_op wd ⟨kk, aa, vv⟩) (flat_one _) (by unfold maxLen; omega) (by omega) (by simp; omega) ?_; intro r5 w5 hown5 hg5 hnil5 hloc5; obtain ⟨a5, c5, e5, _⟩ := slv_own hown5; subst e5)
              refine then_n ?_
              have hgA := hgd.below (ba (o := .cells #[.int .i64 kk, .int .i64 aa, .int .i64 vv] 38) (Below.refl _ _))
              have hrow5 : w5.heap[W.heap.size]? = some (.cells rows.toArray 39 (0, 0)) := by
                rw [hg5.block W.heap.size hgA.lt (fun e => hgA.out kx _ HRR.out e.symm)]; exact hgA.outer
              have hcell5 : w5.cell? ⟨W.heap.size, kx, none⟩ = some (.slice ar pp.length cr) := by
                rw [cell_of_row w5 W.heap.size kx _ _ _ hrow5]; simpa using HRR.out
              have hfz5 : ∀ q, w5.frozen? ⟨W.heap.size, q, none⟩ = false := by intro q; simp [World.frozen?, hrow5]
              refine any_list 9 (by kernel_rfl) rfl ?_
              go_wp2
              refine then_n ?_
              refine any_list 10 (by kernel_rfl) rfl ?_
              go_wp2
              refine then_n ?_
              refine any_done (by kernel_rfl) ?_
              have hnew := Grid.push (q := [⟨kk, aa, vv⟩]) (m := 0) hgA HRR.out HPP.out hown5 hg5 hloc5 (Below.refl _ _)
              have hBn : Below W.heap.size W (w5.setCell ⟨W.heap.size, kx, none⟩ (.slice a5 (pp.length + 1) c5)) := ((ba hBd).grown hg5 (by simp; omega) (fun q hq => (hownd.lt q hq).1)).setCell (Nat.le_refl _) _
              generalize w5.setCell ⟨W.heap.size, kx, none⟩ (.slice a5 (pp.length + 1) c5) = w6 at *
              go_wp2
              go_roundw
              case rel => exact ⟨j + 1, _, _, by go_num, by omega, hBn, hnew, by rw [List.length_set]; exact HPL.out, hfine.push HPP.out HOK.out⟩
              case measure => simp [intOf]; omega
            · go_wp2
              refine then_n ?_
              refine any_two 5 7 (by kernel_rfl) rfl rfl ?_ ?_
              · go_wp2
                refine then_n ?_
                refine any_list 7 (by kernel_rfl) rfl ?_
                go_wp2
                refine then_n ?_
                refine any_list 8 (by kernel_rfl) rfl ?_
                go_wp2_with (at_builtin; refine wpList_append_own_at _ rfl _ _ 39 rfl W.heap.size 38 i0 (.agg #[.int .i64 0, .int .i64 0, .int .i64 0]) 3 24 Try.underlying39 hi hz0 hz1 hz2 rfl (by decide) (.slice ar pp.length cr) pp.length (flat pp) rfl (ownsRow_below hownd (by exact ba (Below.refl _ _))) ⟨wd.heap.size, 0, none⟩ 1 1 (flat [⟨kk, aa, vv⟩]) rfl rfl (news_op wd ⟨kk, aa, vv⟩) (flat_one _) (by unfold maxLen; omega) (by omega) (by simp; omega) ?_; intro r5 w5 hown5 hg5 hnil5 hloc5; obtain ⟨a5, c5, e5, _⟩ := slv_own hown5; subst e5)
                refine then_n ?_
                have hgA := hgd.below (ba (o := .cells #[.int .i64 kk, .int .i64 aa, .int .i64 vv] 38) (Below.refl _ _))
                have hrow5 : w5.heap[W.heap.size]? = some (.cells rows.toArray 39 (0, 0)) := by
                  rw [hg5.block W.heap.size hgA.lt (fun e => hgA.out kx _ HRR.out e.symm)]; exact hgA.outer
                have hcell5 : w5.cell? ⟨W.heap.size, kx, none⟩ = some (.slice ar pp.length cr) := by
                  rw [cell_of_row w5 W.heap.size kx _ _ _ hrow5]; simpa using HRR.out
                have hfz5 : ∀ q, w5.frozen? ⟨W.heap.size, q, none⟩ = false := by intro q; simp [World.frozen?, hrow5]
                refine any_list 9 (by kernel_rfl) rfl ?_
                go_wp2
                refine then_n ?_
                refine any_list 10 (by kernel_rfl) rfl ?_
                go_wp2
                refine then_n ?_
                refine any_done (by kernel_rfl) ?_
                have hnew := Grid.push (q := [⟨kk, aa, vv⟩]) (m := 0) hgA HRR.out HPP.out hown5 hg5 hloc5 (Below.refl _ _)
                have hBn : Below W.heap.size W (w5.setCell ⟨W.heap.size, kx, none⟩ (.slice a5 (pp.length + 1) c5)) := ((ba hBd).grown hg5 (by simp; omega) (fun q hq => (hownd.lt q hq).1)).setCell (Nat.le_refl _) _
                generalize w5.setCell ⟨W.heap.size, kx, none⟩ (.slice a5 (pp.length + 1) c5) = w6 at *
                go_wp2
                go_roundw
                case rel => exact ⟨j + 1, _, _, by go_num, by omega, hBn, hnew, by rw [List.length_set]; exact HPL.out, hfine.push HPP.out HOK.out⟩
                case measure => simp [intOf]; omega
              · go_wp2
                refine then_n ?_
                refine any_list 5 (by kernel_rfl) rfl ?_
                go_wp2
                refine then_n ?_
                refine any_list 8 (by kernel_rfl) rfl ?_
                go_wp2_with (at_builtin; refine wpList_append_own_at _ rfl _ _ 39 rfl W.heap.size 38 i0 (.agg #[.int .i64 0, .int .i64 0, .int .i64 0]) 3 24 Try.underlying39 hi hz0 hz1 hz2 rfl (by decide) (.slice ar pp.length cr) pp.length (flat pp) rfl (ownsRow_below hownd (by exact ba (Below.refl _ _))) ⟨wd.heap.size, 0, none⟩ 1 1 (flat [⟨kk, aa, vv⟩]) rfl rfl (news_op wd ⟨kk, aa, vv⟩) (flat_one _) (by unfold maxLen; omega) (by omega) (by simp; omega) ?_; intro r5 w5 hown5 hg5 hnil5 hloc5; obtain ⟨a5, c5, e5, _⟩ := slv_own hown5; subst e5)
                refine then_n ?_
                have hgA := hgd.below (ba (o := .cells #[.int .i64 kk, .int .i64 aa, .int .i64 vv] 38) (Below.refl _ _))
                have hrow5 : w5.heap[W.heap.size]? = some (.cells rows.toArray 39 (0, 0)) := by
                  rw [hg5.block W.heap.size hgA.lt (fun e => hgA.out kx _ HRR.out e.symm)]; exact hgA.outer
                have hcell5 : w5.cell? ⟨W.heap.size, kx, none⟩ = some (.slice ar pp.length cr) := by
                  rw [cell_of_row w5 W.heap.size kx _ _ _ hrow5]; simpa using HRR.out
                have hfz5 : ∀ q, w5.frozen? ⟨W.heap.size, q, none⟩ = false := by intro q; simp [World.frozen?, hrow5]
                refine any_list 9 (by kernel_rfl) rfl ?_
                go_wp2
                refine then_n ?_
                refine any_list 10 (by kernel_rfl) rfl ?_
                go_wp2
                refine then_n ?_
                refine any_done (by kernel_rfl) ?_
                have hnew := Grid.push (q := [⟨kk, aa, vv⟩]) (m := 0) hgA HRR.out HPP.out hown5 hg5 hloc5 (Below.refl _ _)
                have hBn : Below W.heap.size W (w5.setCell ⟨W.heap.size, kx, none⟩ (.slice a5 (pp.length + 1) c5)) := ((ba hBd).grown hg5 (by simp; omega) (fun q hq => (hownd.lt q hq).1)).setCell (Nat.le_refl _) _
                generalize w5.setCell ⟨W.heap.size, kx, none⟩ (.slice a5 (pp.length + 1) c5) = w6 at *
                go_wp2
                go_roundw
                case rel => exact ⟨j + 1, _, _, by go_num, by omega, hBn, hnew, by rw [List.length_set]; exact HPL.out, hfine.push HPP.out HOK.out⟩
                case measure => simp [intOf]; omega
    · have hfm : Fine L K most ps := fun p hp => ⟨Nat.le_trans (hfine p hp).1 hj, (hfine p hp).2⟩
      have hgO : w.heap.size ≤ W.heap.size := hbw.size
      have hBn := next hbw hbr
      by_cases hi1 : j < n1
      · have hi1' : (j : Int) < (n1 : Int) := by omega
        have hi2' : (most : Int) ≤ (j : Int) := by omega
        go_wp2
        go_ret
        exact ⟨N, L, K, S, Y, O, I, zi, W.heap.size, rows, ps, rfl, hcf, hgO, hg, hpl, hfm, hBn⟩
      · have hi1' : (n1 : Int) ≤ (j : Int) := by omega
        go_wp2
        go_ret
        exact ⟨N, L, K, S, Y, O, I, zi, W.heap.size, rows, ps, rfl, hcf, hgO, hg, hpl, hfm, hBn⟩
end Go.Proofs.Ytpagdfmajeodiaa
