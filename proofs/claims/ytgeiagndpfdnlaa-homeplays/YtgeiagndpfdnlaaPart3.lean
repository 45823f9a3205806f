/- The configuration of a setup, in numbers; its variable in memory.
The contract of plan.Words. Conditions: as each theorem states them.
The contracts of package plan: Check, HomeOf, SetOf, LineOf, Addrs. Conditions: as each theorem states them.
The contracts of package plan: HomeOf, SetOf, LineOf, Words. Conditions: as each theorem states them.
The contracts of package memdir: New, Row, Set, Lines. Conditions: as each theorem states them.
The contracts of package memdir: Set. Conditions: as each theorem states them.
Regions that draw their order, make memory and then write what was there: as Take, but of the operations named in X, which wait for what is taken first, nothing is asked. Nothing of the program is named here.
Regions that draw their order, make memory and then write what was there: as Take6, where what comes last waits for what is taken first by way of others (Y). Nothing of the program is named here.
Regions that draw their order and write: an operation that only reads, and reads the same as long as I holds of the world, may be taken first; the operations of X, which wait for it, need not keep I. Nothing of the program is named here.
The contract of memdir's Set when it sets. Conditions: as each theorem states them.
The contract of memdir's New. Conditions: as each theorem states them.
The library's contracts for slices.Sorted over maps.Keys at whole numbers, laid over this program: tables of numbers, and facts of the program's own. Nothing of the statements is named here.
The library's calls on whole numbers that a cache makes: Index, Delete of one, and the keys of a map, sorted (Lines). Conditions: as each theorem states them.
memdir's Lines: the keys of its map, sorted. Conditions: as each theorem states them.
The contracts of memdir over plain data, beside what a test has of its own. Conditions: as each theorem states them.
Chapter 9's example: true, and only new memory. -/
import Derived.Test.YtgeiagndpfdnlaaPart1
import Derived.Deep.OwnRows
import Derived.Test.YtgeiagndpfdnlaaPart2
import Derived.ArgAppend
import Derived.Lib.SliceRun
import Derived.Shelf.SlIterI.Nil
import Derived.Shelf.SortM.Plain
import Derived.Shelf.SortM.SortNone
import Derived.Ground.GgzProg
import Derived.Ground.SlgmProg
import Derived.Ground.SlgnProg
import Derived.Shelf.SlicesE.Index
import Derived.Shelf.SlicesE.Delete
import Derived.Shelf.SlGeneric
import Derived.Test.YtgeiagndpfdnlaaRows
section
namespace Go.Proofs.Ytgeiagndpfdnlaa
open Go.RowKit
set_option linter.unusedVariables false
set_option maxRecDepth 20000

/-- A configuration's variable in memory. -/
structure CB (w : World) (g : Nat) (N L K S Y O I : Nat) (t : Value) : Prop where
  c0 : w.cell? ⟨g, 0, none⟩ = some (.int .i64 (N : Int))
  c1 : w.cell? ⟨g, 1, none⟩ = some (.int .i64 (L : Int))
  c2 : w.cell? ⟨g, 2, none⟩ = some (.int .i64 (K : Int))
  c3 : w.cell? ⟨g, 3, none⟩ = some (.int .i64 (S : Int))
  c4 : w.cell? ⟨g, 4, none⟩ = some (.int .i64 (Y : Int))
  c5 : w.cell? ⟨g, 5, none⟩ = some (.int .i64 (O : Int))
  c6 : w.cell? ⟨g, 6, none⟩ = some (.int .i64 (I : Int))
  c7 : w.cell? ⟨g, 7, none⟩ = some t
  lt : g < w.heap.size
theorem CB.below {w w' : World} {g : Nat} {N L K S Y O I : Nat} {t : Value} (h : CB w g N L K S Y O I t) (hb : Below w.heap.size w w') : CB w' g N L K S Y O I t := by
  obtain ⟨hc, _⟩ := bcell hb
  exact ⟨by rw [hc _ _ h.lt]; exact h.c0, by rw [hc _ _ h.lt]; exact h.c1, by rw [hc _ _ h.lt]; exact h.c2, by rw [hc _ _ h.lt]; exact h.c3, by rw [hc _ _ h.lt]; exact h.c4, by rw [hc _ _ h.lt]; exact h.c5, by rw [hc _ _ h.lt]; exact h.c6, by rw [hc _ _ h.lt]; exact h.c7, Nat.lt_of_lt_of_le h.lt hb.size⟩
theorem CB.made (w : World) (N L K S Y O I : Nat) (t : Value) : CB (w.alloc (.cells #[.int .i64 (N : Int), .int .i64 (L : Int), .int .i64 (K : Int), .int .i64 (S : Int), .int .i64 (Y : Int), .int .i64 (O : Int), .int .i64 (I : Int), t] 26)) w.heap.size N L K S Y O I t := by
  constructor <;> simp

/-- The numbers of a setup's configuration. -/
structure IsCfg (n l k s y o i : Int) (z : List Int) (N L K S Y O I : Nat) (zi : List Int) : Prop where
  eN : nd n 4 = N
  eL : nd l 4 = L
  eK : nd k 2 = K
  eS : nd s 2 = S
  eY : nd y 2 = Y
  eO : nd o 3 = O
  eI : nd i 3 = I
  ez : z.take (L * K) = zi
structure CfgB (N L K S Y O I : Nat) : Prop where
  N0 : 1 ≤ N
  N1 : N ≤ 4
  L0 : 1 ≤ L
  L1 : L ≤ 4
  K0 : 1 ≤ K
  K1 : K ≤ 2
  S0 : 1 ≤ S
  S1 : S ≤ 2
  Y0 : 1 ≤ Y
  Y1 : Y ≤ 2
  O0 : 1 ≤ O
  O1 : O ≤ 3
  I0 : 1 ≤ I
  I1 : I ≤ 3
theorem IsCfg.bd {n l k s y o i : Int} {z : List Int} {N L K S Y O I : Nat} {zi : List Int} (h : IsCfg n l k s y o i z N L K S Y O I zi) : CfgB N L K S Y O I := by
  obtain ⟨rfl, rfl, rfl, rfl, rfl, rfl, rfl, _⟩ := h
  exact ⟨(nd_lo n 4).resolve_right (by decide), nd_hi n 4 (by decide), (nd_lo l 4).resolve_right (by decide), nd_hi l 4 (by decide), (nd_lo k 2).resolve_right (by decide), nd_hi k 2 (by decide), (nd_lo s 2).resolve_right (by decide), nd_hi s 2 (by decide), (nd_lo y 2).resolve_right (by decide), nd_hi y 2 (by decide), (nd_lo o 3).resolve_right (by decide), nd_hi o 3 (by decide), (nd_lo i 3).resolve_right (by decide), nd_hi i 3 (by decide)⟩
theorem IsCfg.len {n l k s y o i : Int} {z : List Int} {N L K S Y O I : Nat} {zi : List Int} (h : IsCfg n l k s y o i z N L K S Y O I zi) : zi.length ≤ L * K := by
  obtain ⟨rfl, rfl, rfl, rfl, rfl, rfl, rfl, rfl⟩ := h
  simp; omega
/-- One setup, one configuration. -/
theorem IsCfg.one {n l k s y o i : Int} {z : List Int} {N L K S Y O I N' L' K' S' Y' O' I' : Nat} {zi zi' : List Int} (h : IsCfg n l k s y o i z N L K S Y O I zi) (h' : IsCfg n l k s y o i z N' L' K' S' Y' O' I' zi') :
    N = N' ∧ L = L' ∧ K = K' ∧ S = S' ∧ Y = Y' ∧ O = O' ∧ I = I' ∧ zi = zi' := by
  obtain ⟨rfl, rfl, rfl, rfl, rfl, rfl, rfl, rfl⟩ := h
  obtain ⟨rfl, rfl, rfl, rfl, rfl, rfl, rfl, rfl⟩ := h'
  exact ⟨rfl, rfl, rfl, rfl, rfl, rfl, rfl, rfl⟩
theorem config_c (n l k s y o i : Int) (a : Option Addr) (len cap : Nat) (wh ki ad va : Value) (z : List Int) (w : World) (hsl : Sl w a len cap z) :
    Calls Try.prog 7 #[setup n l k s y o i (.slice a len cap) wh ki ad va] w fun e w' => ∃ (N L K S Y O I : Nat) (zi : List Int) (av : Option Addr) (nv cv : Nat),
      e = .returned (cfg N L K S Y O I (.slice av nv cv)) ∧ IsCfg n l k s y o i z N L K S Y O I zi ∧ Hid (zi.length = nv) ∧ Own w' w.heap.size (.slice av nv cv) zi ∧ Below w.heap.size w w' := by
  refine (config_any n l k s y o i a len cap wh ki ad va z w hsl).mono ?_
  rintro e w' ⟨v, rfl, hown, hb⟩
  obtain ⟨av, cv, rfl, _⟩ := hown.sl
  exact ⟨_, _, _, _, _, _, _, _, av, _, cv, rfl, ⟨rfl, rfl, rfl, rfl, rfl, rfl, rfl, rfl⟩, rfl, hown, hb⟩
theorem own_sl {w : World} {base n cap : Nat} {a : Option Addr} {l : List Int} (h : Own w base (.slice a n cap) l) : Sl w a n cap l := by
  obtain ⟨a', cap', e, hs⟩ := h.sl
  simp at e
  obtain ⟨rfl, rfl, rfl⟩ := e
  exact hs
theorem mul_bd {L K : Nat} (L0 : 1 ≤ L) (L1 : L ≤ 4) (K0 : 1 ≤ K) (K1 : K ≤ 2) : (1 : Int) ≤ (L : Int) * (K : Int) ∧ (L : Int) * (K : Int) ≤ 8 ∧ L * K ≤ 8 := by
  refine ⟨?_, ?_, ?_⟩
  · have := Int.mul_le_mul (show (1 : Int) ≤ (L : Int) by omega) (show (1 : Int) ≤ (K : Int) by omega) (by omega) (by omega); simpa using this
  · have := Int.mul_le_mul (show (L : Int) ≤ 4 by omega) (show (K : Int) ≤ 2 by omega) (by omega) (by omega); simpa using this
  · have := Nat.mul_le_mul (show L ≤ 4 by omega) (show K ≤ 2 by omega); simpa using this
end Go.Proofs.Ytgeiagndpfdnlaa
end
section
namespace Go.Proofs.Ytgeiagndpfdnlaa
open Go.RowKit
set_option linter.unusedVariables false
set_option maxRecDepth 20000

/-- The words of a line at first. -/
def wordsI (zi : List Int) (L K : Nat) (line : Int) : List Int := if 0 ≤ line ∧ line < L then (List.range K).map (fun i => zi[line.toNat * K + i]?.getD 0) else []
theorem wordsI_out {zi : List Int} {L K : Nat} {line : Int} (h : line < 0 ∨ (L : Int) ≤ line) : wordsI zi L K line = [] := if_neg (by omega)
theorem wordsI_in {zi : List Int} {L K j : Nat} (h : j < L) : wordsI zi L K (j : Int) = (List.range K).map (fun i => zi[j * K + i]?.getD 0) := by
  unfold wordsI; rw [if_pos (by omega)]; rfl
theorem words_splice (zi : List Int) (K m : Nat) : splice (cells (List.replicate K 0)) 0 (cells ((zi.drop m).take K)) = cells ((List.range K).map (fun i => zi[m + i]?.getD 0)) := by
  apply List.ext_getElem?
  intro i
  unfold splice
  rw [List.take_zero, List.nil_append]
  by_cases hi : i < ((zi.drop m).take K).length
  · rw [List.getElem?_append_left (by simpa [cells] using hi)]
    simp at hi
    have h1 : i < K := by omega
    simp [cells, h1, List.getElem?_drop, show m + i < zi.length by omega]
  · rw [List.getElem?_append_right (by simpa [cells] using hi)]
    simp only [cells, List.length_map, List.getElem?_drop, List.getElem?_map]
    simp at hi
    by_cases h1 : i < K
    · have h2 : zi.length ≤ m + i := by omega
      rw [List.getElem?_replicate, if_pos (by simp; omega)]
      simp [h1, h2]
    · rw [List.getElem?_replicate, if_neg (by simp; omega)]
      simp [h1]
theorem words_none {zi : List Int} {K m : Nat} (h : zi.length ≤ m) : (List.range K).map (fun i => zi[m + i]?.getD 0) = List.replicate K 0 := by
  apply List.ext_getElem?
  intro i
  by_cases h1 : i < K
  · simp [h1, show zi.length ≤ m + i by omega]
  · simp [h1]
theorem made_zeros (K : Nat) : madeCells #[Value.int .i64 0] K = (cells (List.replicate K 0)).toArray := by
  apply Array.ext_getElem?
  intro i
  simp [madeCells, cells]
  by_cases h : i < K <;> simp [h, Nat.mod_one]
theorem own_row {w : World} {base g K : Nat} {l : List Int} (h : w.heap[g]? = some (.cells (cells l).toArray 3 (0, 0))) (hl : l.length = K) (hb : base ≤ g) (hm : K ≤ maxLen) : Own w base (.slice (some ⟨g, 0, none⟩) K K) l := by
  subst hl
  exact ⟨by simp [cells], Or.inr ⟨g, l.length, (cells l).toArray, rfl, hb, h, Nat.le_refl _, hm, by simp [cells], by rw [Nat.mul_one]; exact List.take_of_length_le (by simp [cells])⟩⟩
theorem make_row (K : Nat) (hK : K ≤ 4) (w : World) : (Instr.makeSlice 22 (.int .i64 (K : Int)) (.int .i64 (K : Int))).run Try.prog w = .ok (.slice (some ⟨w.heap.size, 0, none⟩) K K) (w.alloc (.cells (cells (List.replicate K 0)).toArray 3)) := by
  rw [← made_zeros]
  exact run_make_row' (P := Try.prog) 22 3 (.int .i64 0) 8 Try.underlying22 Try.infoInt rfl .i64 .i64 K (by omega) (by omega) w

set_option maxHeartbeats 400000 in
theorem words_any (N L K S Y O I : Nat) (a : Option Addr) (nv cv : Nat) (zi : List Int) (line : Int) (w : World) (hsl : Sl w a nv cv zi) (hL : L ≤ 8) (hK0 : 1 ≤ K) (hK : K ≤ 4) (hlen : nv ≤ 32) :
    Calls Try.prog 51 #[cfg N L K S Y O I (.slice a nv cv), .int .i64 line] w fun e w' => ∃ v, e = .returned v ∧ Own w' w.heap.size v (wordsI zi L K line) ∧ Below w.heap.size w w' := by
  unfold cfg
  by_cases h0 : line < 0
  · have HW : Hid (wordsI zi L K line = []) := wordsI_out (.inl h0)
    go_enter Try.func51, Try.ntmps51
    go_wp2
    go_ret
    exact ⟨_, rfl, by rw [HW.out]; exact own_nil _ _, ba (Below.refl _ _)⟩
  by_cases h1 : (L : Int) ≤ line
  · have HW : Hid (wordsI zi L K line = []) := wordsI_out (.inr h1)
    have h0' : 0 ≤ line := by omega
    go_enter Try.func51, Try.ntmps51
    go_wp2
    go_ret
    exact ⟨_, rfl, by rw [HW.out]; exact own_nil _ _, ba (Below.refl _ _)⟩
  obtain ⟨j, rfl⟩ : ∃ j : Nat, line = j := ⟨line.toNat, by omega⟩
  have hj : j < L := by omega
  have HW : Hid (wordsI zi L K j = (List.range K).map (fun i => zi[j * K + i]?.getD 0)) := wordsI_in hj
  obtain ⟨m, hm⟩ : ∃ m, m = j * K := ⟨_, rfl⟩
  have hm' : (j : Int) * (K : Int) = (m : Int) := by rw [hm]; exact (Int.natCast_mul j K).symm
  have hm8 : m ≤ 28 := by rw [hm]; have := Nat.mul_le_mul (show j ≤ 7 by omega) hK; simpa using this
  rw [← hm] at HW
  have hl := hsl.len
  have hle := hsl.le
  clear h0 h1 hm
  have hmk := make_row K hK
  by_cases hf : m < nv
  · have hsome : ∃ b o, a = some ⟨b, o, none⟩ ∧ ∀ i, i < zi.length → w.cell? ⟨b, o + i, none⟩ = some (.int .i64 (zi[i]?.getD 0)) := by
      rcases hsl.row with rfl | h
      · simp at hl; omega
      · exact h
    obtain ⟨b, o, rfl, hc⟩ := hsome
    obtain ⟨i0, hi, hz0, hz1, hz2⟩ := info_parts Try.infoInt
    have q0 : (0 : Int) ≤ (m : Int) := by omega
    have q1 : (m : Int) ≤ (cv : Int) := by omega
    have q2 : (m : Int) ≤ (nv : Int) := by omega
    have hcs : (cells ((zi.drop m).take K)).length = Nat.min (nv - m) K := by simp [cells, hl, Nat.min_comm]
    have hsrc : ∀ W : World, Below w.heap.size w W → ∀ j v, (cells ((zi.drop m).take K))[j]? = some v → W.cell? ((⟨b, o + m, none⟩ : Addr).add j) = some v := by
      intro W hW j v hv
      obtain ⟨hj, rfl⟩ := cells_get hv
      simp at hj
      have hc1 := hc (m + j) (by omega)
      have hlt : b < w.heap.size := World.block_lt_of_cell? w _ hc1
      rw [Addr.add_lit, hW.cell (p := ⟨b, o + m + j, none⟩) hlt, show o + m + j = o + (m + j) by omega, hc1]
      simp [List.getElem?_drop, show j < K by omega]
    have hfit : 0 + (cells ((zi.drop m).take K)).length ≤ (cells (List.replicate K 0)).length := by simp [cells]; omega
    have hcur : ∀ t, ((w.alloc t).alloc (.cells (cells (List.replicate K 0)).toArray 3)).heap[w.heap.size + 1]? = some (.cells (cells (List.replicate K 0)).toArray 3 (0, 0)) := by
      intro t
      have := heap_alloc_new (w.alloc t) (.cells (cells (List.replicate K 0)).toArray 3)
      simpa using this
    go_enter Try.func51, Try.ntmps51
    go_wp2_with (refine wpList_copy_splice rfl (.tmp 27) (.tmp 31) 22 22 rfl 3 Try.underlying22 (by rw [hi]; simp [hz1]) _ _ _ _ _ _ rfl rfl (w.heap.size + 1) 0 (cells (List.replicate K 0)) 3 (hcur _) (cells ((zi.drop m).take K)) hcs (fun _ => ⟨rfl, _, rfl, hsrc _ (ba (ba (Below.refl _ _)))⟩) hfit (cells_one _) w.heap.size w (ba (ba (Below.refl _ _))) (by omega) ?_; intro w2 hg2 hb2)
    go_ret
    refine ⟨_, rfl, ?_, hb2⟩
    rw [HW.out]
    have hg3 := hg2.out
    rw [words_splice] at hg3
    exact own_row hg3 (by simp) (by omega) (by unfold maxLen; omega)
  · go_enter Try.func51, Try.ntmps51
    go_wp2
    go_ret
    refine ⟨_, rfl, ?_, ba (ba (Below.refl _ _))⟩
    rw [HW.out, words_none (by omega)]
    refine own_row (g := w.heap.size + 1) ?_ (by simp) (by omega) (by unfold maxLen; omega)
    have := heap_alloc_new (w.alloc (.cells #[.int .i64 (N : Int), .int .i64 (L : Int), .int .i64 (K : Int), .int .i64 (S : Int), .int .i64 (Y : Int), .int .i64 (O : Int), .int .i64 (I : Int), .slice a nv cv] 26)) (.cells (cells (List.replicate K 0)).toArray 3)
    simpa using this
end Go.Proofs.Ytgeiagndpfdnlaa
end
section
namespace Go.Proofs.Ytgeiagndpfdnlaa
open Go.RowKit
set_option linter.unusedVariables false
set_option maxRecDepth 20000

def inB (m n : Int) : Bool := decide (1 ≤ n) && decide (n ≤ m)
theorem inB_of {m n : Int} (h : inB m n = true) : 1 ≤ n ∧ n ≤ m := by simpa [inB] using h

theorem upTo_any (m n : Int) (w : World) :
    Calls Try.prog 48 #[.int .i64 m, .int .i64 n] w fun e w' => e = .returned (.bool (inB m n)) ∧ w = w' := by
  go_enter Try.func48, Try.ntmps48
  go_wp2
  all_goals go_ret
  all_goals exact ⟨ret_bool (by simp [inB, *] <;> omega), rfl⟩

theorem addrs_any (n l k s y o i : Int) (t : Value) (w : World) (hl0 : 1 ≤ l) (hl1 : l ≤ 8) (hk0 : 1 ≤ k) (hk1 : k ≤ 4) :
    Calls Try.prog 49 #[cfg n l k s y o i t] w fun e w' => e = .returned (.int .i64 (l * k)) ∧ Below w.heap.size w w' := by
  have h1 : 1 ≤ l * k := by have := Int.mul_le_mul hl0 hk0 (by omega) (by omega); simpa using this
  have h2 : l * k ≤ 32 := by have := Int.mul_le_mul hl1 hk1 (by omega) (by omega); simpa using this
  unfold cfg
  go_enter Try.func49, Try.ntmps49
  go_wp2
  go_ret
  exact ⟨rfl, (Below.refl _ _).alloc (Nat.le_refl _) _⟩

/-- May a configuration be? -/
def chk (n l k s y o i : Int) (len : Nat) : Bool :=
  inB 6 n && inB 8 l && inB 4 k && inB 4 s && inB 3 y && inB 8 o && inB 8 i && decide ((len : Int) ≤ l * k)

def errI (b : Bool) : Int := if b then 0 else 1
set_option maxHeartbeats 400000 in
theorem check_any (n l k s y o i : Int) (a : Option Addr) (len cap : Nat) (w : World) :
    Calls Try.prog 25 #[cfg n l k s y o i (.slice a len cap)] w fun e w' => e = .returned (.int .i64 (errI (chk n l k s y o i len))) ∧ Below w.heap.size w w' := by
  unfold cfg
  by_cases hall : inB 6 n && inB 8 l && inB 4 k && inB 4 s && inB 3 y && inB 8 o && inB 8 i
  · simp only [Bool.and_eq_true] at hall
    obtain ⟨⟨⟨⟨⟨⟨b1, b2⟩, b3⟩, b4⟩, b5⟩, b6⟩, b7⟩ := hall
    obtain ⟨hl0, hl1⟩ := inB_of b2
    obtain ⟨hk0, hk1⟩ := inB_of b3
    have h1 : 1 ≤ l * k := by have := Int.mul_le_mul hl0 hk0 (by omega) (by omega); simpa using this
    have h2 : l * k ≤ 32 := by have := Int.mul_le_mul hl1 hk1 (by omega) (by omega); simpa using this
    have HC : Hid (chk n l k s y o i len = decide ((len : Int) ≤ l * k)) := by unfold Hid chk; rw [b1, b2, b3, b4, b5, b6, b7]; simp
    go_enter Try.func25, Try.ntmps25
    go_wp2_with (first
      | (go_at_call 48; refine (upTo_any _ _ _).mono ?_; rintro e w1 ⟨rfl, rfl⟩))
    have uc := @Up.cell
    have uf := @Up.frozen
    refine wp_region_up (by kernel_rfl) (by kernel_rfl) ?_
    repeat (go_big_quiet_step ((go_at_call 49; exact Calls.up_of (addrs_any _ _ _ _ _ _ _ _ _ hl0 hl1 hk0 hk1))))
    refine wpQuiet_nil ?_
    rintro _ ⟨u, rfl⟩
    have hb := u.2
    clear uc uf
    go_wp2
    all_goals go_ret
    all_goals
      refine ⟨ret_int ?_, (((Below.refl _ _).alloc (Nat.le_refl _) _).trans (hb.mono (by simp)))⟩
      rw [HC.out]
      unfold errI
    · rw [if_neg (by simp; omega)]
    · rw [if_pos (by simp; omega)]
  · have HC : Hid (chk n l k s y o i len = false) := by
      unfold Hid chk
      rw [Bool.and_eq_false_iff]; left; simpa using hall
    have HA := hall
    clear hall
    cases b1 : inB 6 n
    rotate_left
    cases b2 : inB 8 l
    rotate_left
    cases b3 : inB 4 k
    rotate_left
    cases b4 : inB 4 s
    rotate_left
    cases b5 : inB 3 y
    rotate_left
    cases b6 : inB 8 o
    rotate_left
    cases b7 : inB 8 i
    rotate_left
    · exact absurd (by rw [b1, b2, b3, b4, b5, b6, b7]; rfl) HA
    all_goals
      clear HA
      go_enter Try.func25, Try.ntmps25
      go_wp2_with (first
        | (go_at_call 48; refine (upTo_any _ _ _).mono ?_; rintro e w1 ⟨rfl, rfl⟩))
      go_ret
      exact ⟨ret_int (by rw [HC.out]; rfl), (Below.refl _ _).alloc (Nat.le_refl _) _⟩
theorem chk_none : chk 0 0 0 0 0 0 0 0 = false := by decide
theorem chk_ones : chk 1 1 1 1 1 1 1 0 = true := by decide
end Go.Proofs.Ytgeiagndpfdnlaa
end
section
namespace Go.Proofs.Ytgeiagndpfdnlaa
open Go.RowKit
set_option linter.unusedVariables false
set_option maxRecDepth 20000

/-- The remainder of a line. -/
def remI (line m : Int) : Int := if line < 0 then -1 else line % m
theorem remI_neg {line m : Int} (h : line < 0) : remI line m = -1 := if_pos h
theorem remI_pos {line m : Int} (h : 0 ≤ line) : remI line m = line % m := if_neg (by omega)
theorem remainder_any (line m : Int) (w : World) (hm0 : 1 ≤ m) (hm1 : m ≤ 1000000) :
    Calls Try.prog 63 #[.int .i64 line, .int .i64 m] w fun e w' => e = .returned (.int .i64 (remI line m)) ∧ w = w' := by
  by_cases h : line < 0
  · have HR : Hid (remI line m = -1) := remI_neg h
    go_enter Try.func63, Try.ntmps63
    go_wp2
    go_ret
    exact ⟨ret_int HR.out.symm, rfl⟩
  · have h' : 0 ≤ line := by omega
    have HR : Hid (remI line m = line % m) := remI_pos h'
    go_enter Try.func63, Try.ntmps63
    go_wp2
    go_ret
    exact ⟨ret_int (by rw [HR.out]), rfl⟩
theorem homeOf_any (n l k s y o i line : Int) (t : Value) (w : World) (hm0 : 1 ≤ n) (hm1 : n ≤ 1000000) :
    Calls Try.prog 50 #[cfg n l k s y o i t, .int .i64 line] w fun e w' => e = .returned (.int .i64 (remI line n)) ∧ Below w.heap.size w w' := by
  unfold cfg
  go_enter Try.func50, Try.ntmps50
  go_wp2_with (go_at_call 63; refine (remainder_any _ _ _ hm0 hm1).mono ?_; rintro e w1 ⟨rfl, rfl⟩)
  go_ret
  exact ⟨rfl, ba (Below.refl _ _)⟩
/-- Is there such an address? -/
def isA (l k addr : Int) : Bool := decide (0 ≤ addr) && decide (addr < l * k)
theorem isA_of {l k addr : Int} (h : isA l k addr = true) : 0 ≤ addr ∧ addr < l * k := by simpa [isA] using h
theorem isA_no {l k addr : Int} (h : isA l k addr = false) : addr < 0 ∨ l * k ≤ addr := by simp [isA] at h; omega
theorem isA_mk {l k addr : Int} (h0 : 0 ≤ addr) (h1 : addr < l * k) : isA l k addr = true := by simp [isA, h0, h1]
theorem isA_not {l k addr : Int} (h0 : addr < 0 ∨ l * k ≤ addr) : isA l k addr = false := by simp [isA]; omega
def lineI (l k addr : Int) : Int := if isA l k addr then addr / k else -1
def wordI (l k addr : Int) : Int := if isA l k addr then addr % k else 0
theorem ret_pair {a b c d : Int} (h : a = c) (g : b = d) : Ending.returned (.tuple #[.int .i64 a, .int .i64 b]) = .returned (.tuple #[.int .i64 c, .int .i64 d]) := by rw [h, g]
end Go.Proofs.Ytgeiagndpfdnlaa
end
section
namespace Go.Proofs.Ytgeiagndpfdnlaa
open Go.RowKit Go.Maps
set_option linter.unusedVariables false
set_option maxRecDepth 20000

theorem dclone_none (w : World) : Calls Try.prog 62 #[.slice none 0 0] w fun e w' => e = .returned (.slice none 0 0) ∧ Below w.heap.size w w' := by
  obtain ⟨i0, hi, hz0, hz1, hz2⟩ := info_parts Try.infoInt
  have hz := fun w n c => Lib.run_eql_slice_nil (P := Try.prog) w 22 3 none n c 0 0 Try.underlying22
  go_enter Try.func62, Try.ntmps62
  go_wp2
  go_ret
  exact ⟨rfl, Below.refl _ _⟩
theorem dclone_some (x : Addr) (l : List Int) (n cap : Nat) (w : World) (hsl : Sl w (some x) n cap l) (h0 : 0 < n) (hb : n ≤ 17592186044416) :
    Calls Try.prog 62 #[.slice (some x) n cap] w fun e w' => ∃ a' cap', e = .returned (.slice a' n cap') ∧ Own w' w.heap.size (.slice a' n cap') l ∧ Below w.heap.size w w' := by
  obtain ⟨b, o, ex, _⟩ := hsl.at h0
  obtain rfl := Option.some.inj ex
  clear ex
  have bel : Below w.heap.size w (w.alloc (.cells #[] 3)) := ba (Below.refl _ _)
  obtain ⟨hn, hle, hmx, hnil, hr⟩ := hsl.below bel
  obtain ⟨i0, hi, hz0, hz1, hz2⟩ := info_parts Try.infoInt
  have hm : n ≤ maxLen := Nat.le_trans hle hmx
  have hz := fun w n c => Lib.run_eql_slice_nil (P := Try.prog) w 22 3 (some ⟨b, o, none⟩) n c 0 0 Try.underlying22
  go_enter Try.func62, Try.ntmps62
  go_wp2_with (at_builtin; refine wpList_append_grows _ rfl _ _ 22 rfl 3 i0 (.int .i64 0) 1 8 Try.underlying22 hi hz0 hz1 hz2 rfl (by decide) (some ⟨w.heap.size, 0, none⟩) 0 0 [] rfl (fun h => by cases h) rfl (fun _ _ j u hu => by simp at hu) ⟨b, o, none⟩ n cap (cells l) rfl (by simp [cells, hn]) hr.cellsAt (cells_one l) (by omega) (by omega) (by omega) ?_)
  intro v' w1 hown hgrow
  go_wp2
  go_ret
  have ho : Own w1 (w.heap.size + 1) v' l := by simpa [Own, hn] using hown
  obtain ⟨a', cap', rfl, _⟩ := ho.sl' hn
  exact ⟨a', cap', rfl, ho.low (by omega), bel.grown hgrow (by simp) (by intro k hk; simp at hk)⟩
/-- A copy of words, if any (an empty list comes back as what it is). -/
theorem dclone_any (a : Option Addr) (l : List Int) (n cap : Nat) (w : World) (hsl : Sl w a n cap l) (h0 : a = none ∨ 0 < n) (hb : n ≤ 17592186044416) :
    Calls Try.prog 62 #[.slice a n cap] w fun e w' => ∃ a' cap', e = .returned (.slice a' n cap') ∧ Own w' w.heap.size (.slice a' n cap') l ∧ Below w.heap.size w w' := by
  cases a with
  | none =>
    obtain ⟨rfl, rfl⟩ := hsl.none0 rfl
    obtain rfl : l = [] := List.eq_nil_of_length_eq_zero hsl.len
    refine (dclone_none w).mono ?_
    rintro e w' ⟨rfl, hb⟩
    exact ⟨none, 0, rfl, own_nil _ _, hb⟩
  | some x => exact dclone_some x l n cap w hsl (h0.resolve_left (by simp)) hb
theorem zeroH_val (w : World) : (zeroValue 94).run Try.prog w = .ok (zeroHr.val (.slice none 0 0)) w := Try.zeroValue94 w
section
variable {w : World} {g b : Nat} {D : Nat → Prop} {N K : Int} {R : List (Hr × Value)}
theorem MW.look (h : MW w g b D N K R) {n : Int} (hn : In64 n) {V : World} (hV : Below w.heap.size w V) :
    (Instr.lookup 99 (.map (some b)) (.int .i64 n) true).run Try.prog V = .ok (.tuple #[hVal (rowAt R n), .bool (hasR R n)]) V := by
  have := (h.rows.below hV).look_ok Try.underlying99 (zeroH_val V) hn
  rw [row_at, row_has] at this
  exact this
/-- The words of each row are some. -/
def Full (R : List (Hr × Value)) : Prop := ∀ r ∈ R, r.1.z ≠ []
theorem MW.rowSl (h : MW w g b D N K R) (hf : Full R) (n : Int) : ∃ a n0 cap, (rowAt R n).2 = .slice a n0 cap ∧ Sl w a n0 cap (rowAt R n).1.z ∧ (a = none ∨ 0 < n0) ∧ n0 ≤ 17592186044416 := by
  unfold rowAt
  cases hg : getK hKey n R with
  | none => exact ⟨none, 0, 0, rfl, sl_nil w, .inl rfl, by omega⟩
  | some r =>
    obtain ⟨hm, _⟩ := getK_some hg
    obtain ⟨a, n0, cap, e, hs, hb, _⟩ := h.dat r hm
    have := List.length_pos_iff.2 (hf r hm)
    exact ⟨a, n0, cap, e, hs, .inr (by have := hs.len; simp [pz] at this; omega), hb⟩
set_option maxHeartbeats 600000 in
theorem MW.row_any (h : MW w g b D N K R) (hf : Full R) {n : Int} (hn : In64 n) : Calls Try.prog 45 #[.pointer (some ⟨g, 0, none⟩), .int .i64 n] w fun e w' =>
    ∃ a cap, e = .returned (.tuple #[(rowAt R n).1.val (.slice a (rowAt R n).1.z.length cap), .bool (hasR R n)]) ∧ Own w' w.heap.size (.slice a (rowAt R n).1.z.length cap) (rowAt R n).1.z ∧ Below w.heap.size w w' := by
  have c2 := h.c2
  have lt := h.lt
  obtain ⟨a0, n0, cap0, e0, hs0, hp0, hb0⟩ := h.rowSl hf n
  have hl := h.look hn (V := w.alloc (.cells #[.int .i64 0, .int .i64 0, .slice none 0 0] 94)) (ba (Below.refl _ _))
  generalize rowAt R n = r at *
  generalize hasR R n = ok at *
  obtain ⟨x, d⟩ := r
  simp only at e0
  subst e0
  have hzl : x.z.length = n0 := hs0.len
  rw [hzl]
  go_enter Try.func45, Try.ntmps45
  go_wp2_with (go_at_call 62; refine (dclone_any a0 x.z n0 cap0 _ (hs0.below (ba (ba (Below.refl _ _)))) hp0 hb0).mono ?_; rintro e w1 ⟨a1, cap1, rfl, hown, hbel⟩; obtain ⟨k1, k2⟩ := bcell hbel)
  have z1 := hbel.size
  simp at z1
  have hlo := hown.base
  have e0 : w1.cell? ⟨w.heap.size, 0, none⟩ = some (.int .i64 0) := by rw [k1 _ _ (by simp; omega)]; simp
  have e1 : w1.cell? ⟨w.heap.size, 1, none⟩ = some (.int .i64 0) := by rw [k1 _ _ (by simp; omega)]; simp
  have e2 : w1.cell? ⟨w.heap.size, 2, none⟩ = some (.slice none 0 0) := by rw [k1 _ _ (by simp; omega)]; simp
  have K := ((((Keep.refl (fun k => k = w.heap.size + 1 ∨ k = w.heap.size) w1).setCell (p := ⟨w.heap.size + 1, 2, none⟩) (.inl (.inl rfl)) (.slice a1 n0 cap1)).setCell (p := ⟨w.heap.size, 0, none⟩) (.inl (.inr rfl)) (.int .i64 x.s)).setCell (p := ⟨w.heap.size, 1, none⟩) (.inl (.inr rfl)) (.int .i64 x.h)).setCell (p := ⟨w.heap.size, 2, none⟩) (.inl (.inr rfl)) (.slice a1 n0 cap1)
  refine bodyPost_ret (v := .tuple #[x.val (.slice a1 n0 cap1), .bool ok]) (by simp [results, Try.results45, go_sem, *]) rfl ⟨a1, cap1, rfl, ?_, K.after (next (ba (ba (Below.refl _ _))) hbel) (fun k h => by omega)⟩
  exact (hown.keep K (fun k hk e => by have := (hlo k hk).1; simp at this; omega)).low (by simp; omega)
theorem isState_any (s : Int) (w : World) : Calls Try.prog 66 #[.int .i64 s] w fun e w' => e = .returned (.bool (decide (0 ≤ s ∧ s ≤ 2))) ∧ w = w' := by
  by_cases h : 0 ≤ s ∧ s ≤ 2
  · have HD : Hid (decide (0 ≤ s ∧ s ≤ 2) = true) := decide_eq_true h
    have h3 : s = 0 ∨ s = 1 ∨ s = 2 := by omega
    rcases h3 with rfl | rfl | rfl
    all_goals (go_enter Try.func66, Try.ntmps66; go_wp2; go_ret; exact ⟨ret_bool HD.out.symm, rfl⟩)
  · have HD : Hid (decide (0 ≤ s ∧ s ≤ 2) = false) := decide_eq_false h
    have n0 : (s == 0) = false := by simp; omega
    have n1 : (s == 1) = false := by simp; omega
    have n2 : (s == 2) = false := by simp; omega
    go_enter Try.func66, Try.ntmps66
    go_wp2
    go_ret
    exact ⟨ret_bool HD.out.symm, rfl⟩
theorem fits_any (s h : Int) (w : World) : Calls Try.prog 68 #[.int .i64 s, .int .i64 h] w fun e w' => e = .returned (.bool ((s == 0) == (h == -1))) ∧ w = w' := by
  go_enter Try.func68, Try.ntmps68
  go_wp2
  go_ret
  exact ⟨rfl, rfl⟩
theorem isHead_any (g : Nat) (N h : Int) (w : World) (c0 : w.cell? ⟨g, 0, none⟩ = some (.int .i64 N)) : Calls Try.prog 67 #[.pointer (some ⟨g, 0, none⟩), .int .i64 h] w fun e w' => e = .returned (.bool (decide (-1 ≤ h ∧ h < N))) ∧ w = w' := by
  by_cases h1 : -1 ≤ h
  · by_cases h2 : h < N
    all_goals (go_enter Try.func67, Try.ntmps67; go_wp2; go_ret; exact ⟨ret_bool (by rw [Bool.eq_iff_iff]; simp <;> omega), rfl⟩)
  · go_enter Try.func67, Try.ntmps67
    go_wp2
    go_ret
    exact ⟨ret_bool (by rw [Bool.eq_iff_iff]; simp <;> omega), rfl⟩
theorem isData_any (g : Nat) (K : Int) (a : Option Addr) (n cap : Nat) (w : World) (c1 : w.cell? ⟨g, 1, none⟩ = some (.int .i64 K)) : Calls Try.prog 69 #[.pointer (some ⟨g, 0, none⟩), .slice a n cap] w fun e w' => e = .returned (.bool (decide (n = 0 ∨ (n : Int) = K))) ∧ w = w' := by
  by_cases h1 : n = 0
  · have HD : Hid (decide (n = 0 ∨ (n : Int) = K) = true) := decide_eq_true (.inl h1)
    subst h1
    go_enter Try.func69, Try.ntmps69
    go_wp2
    go_ret
    exact ⟨ret_bool rfl, rfl⟩
  · obtain ⟨b, hb⟩ : ∃ b, decide ((n : Int) = K) = b := ⟨_, rfl⟩
    have HD : Hid (decide (n = 0 ∨ (n : Int) = K) = ((n : Int) == K)) := by show _ = _; rw [Bool.eq_iff_iff]; simp [h1]
    have hn : ((n : Int) == 0) = false := by simp; omega
    go_enter Try.func69, Try.ntmps69
    go_wp2
    go_ret
    exact ⟨ret_bool HD.out.symm, rfl⟩
end
end Go.Proofs.Ytgeiagndpfdnlaa
end
section
namespace Go.Proofs.Ytgeiagndpfdnlaa
open Go.RowKit Go.Maps
set_option linter.unusedVariables false
set_option maxRecDepth 20000

/-- May a row be that? -/
def setOk (N K : Int) (s h : Int) (n : Nat) : Bool := decide (0 ≤ s ∧ s ≤ 2) && decide (-1 ≤ h ∧ h < N) && ((s == 0) == (h == -1)) && decide (n = 0 ∨ (n : Int) = K)
section
variable {w : World} {g b : Nat} {D : Nat → Prop} {N K : Int} {R : List (Hr × Value)}
set_option maxHeartbeats 600000 in
theorem MW.set_none (h : MW w g b D N K R) {l : Int} (hl : In64 l) (hh : hasR R l = false) (s hd : Int) (a : Option Addr) (n cap : Nat) :
    Calls Try.prog 55 #[.pointer (some ⟨g, 0, none⟩), .int .i64 l, .int .i64 s, .int .i64 hd, .slice a n cap] w fun e w' => e = .returned (.int .i64 3) ∧ Below w.heap.size w w' := by
  have c2 := h.c2
  have lt := h.lt
  have hlk := h.look hl (V := w) (Below.refl _ _)
  rw [hh] at hlk
  obtain ⟨a0, n0, cap0, e0, _⟩ := h.rowDat l
  generalize rowAt R l = r at *
  obtain ⟨x, d⟩ := r
  simp only at e0
  subst e0
  go_enter Try.func55, Try.ntmps55
  go_wp2_with fail
  go_ret
  exact ⟨rfl, ba (Below.refl _ _)⟩
set_option maxHeartbeats 600000 in
theorem MW.set_arg (h : MW w g b D N K R) {l : Int} (hl : In64 l) (hh : hasR R l = true) (s hd : Int) (a : Option Addr) (n cap : Nat) (ho : setOk N K s hd n = false) :
    Calls Try.prog 55 #[.pointer (some ⟨g, 0, none⟩), .int .i64 l, .int .i64 s, .int .i64 hd, .slice a n cap] w fun e w' => e = .returned (.int .i64 1) ∧ Below w.heap.size w w' := by
  have c0 := h.c0
  have c1 := h.c1
  have c2 := h.c2
  have lt := h.lt
  have hlk := h.look hl (V := w) (Below.refl _ _)
  rw [hh] at hlk
  obtain ⟨a0, n0, cap0, e0, _⟩ := h.rowDat l
  generalize rowAt R l = r at *
  obtain ⟨x, d⟩ := r
  simp only at e0
  subst e0
  unfold setOk at ho
  obtain ⟨o1, h1⟩ : ∃ o, decide (0 ≤ s ∧ s ≤ 2) = o := ⟨_, rfl⟩
  obtain ⟨o2, h2⟩ : ∃ o, decide (-1 ≤ hd ∧ hd < N) = o := ⟨_, rfl⟩
  obtain ⟨o3, h3⟩ : ∃ o, ((s == 0) == (hd == -1)) = o := ⟨_, rfl⟩
  obtain ⟨o4, h4⟩ : ∃ o, decide (n = 0 ∨ (n : Int) = K) = o := ⟨_, rfl⟩
  rw [h1, h2, h3, h4] at ho
  have H1 : Hid (decide (0 ≤ s ∧ s ≤ 2) = o1) := h1
  have H2 : Hid (decide (-1 ≤ hd ∧ hd < N) = o2) := h2
  have H3 : Hid (((s == 0) == (hd == -1)) = o3) := h3
  have H4 : Hid (decide (n = 0 ∨ (n : Int) = K) = o4) := h4
  clear h1 h2 h3 h4
  have hc : o1 = false ∨ o1 = true ∧ o2 = false ∨ o1 = true ∧ o2 = true ∧ o3 = false ∨ o1 = true ∧ o2 = true ∧ o3 = true ∧ o4 = false := by
    revert ho
    cases o1 <;> cases o2 <;> cases o3 <;> cases o4 <;> decide
  clear ho
  rcases hc with rfl | ⟨rfl, rfl⟩ | ⟨rfl, rfl, rfl⟩ | ⟨rfl, rfl, rfl, rfl⟩
  all_goals (
    go_enter Try.func55, Try.ntmps55
    go_wp2_with (first
      | (go_at_call 66; refine (isState_any _ _).mono ?_; rintro e w1 ⟨rfl, rfl⟩; rw [H1.out])
      | (go_at_call 67; refine (isHead_any _ N _ _ (((ba (Below.refl _ _)).cell (p := ⟨g, 0, none⟩) lt).trans c0)).mono ?_; rintro e w1 ⟨rfl, rfl⟩; rw [H2.out])
      | (go_at_call 68; refine (fits_any _ _ _).mono ?_; rintro e w1 ⟨rfl, rfl⟩; rw [H3.out])
      | (go_at_call 69; refine (isData_any _ K _ _ _ _ (((ba (Below.refl _ _)).cell (p := ⟨g, 1, none⟩) lt).trans c1)).mono ?_; rintro e w1 ⟨rfl, rfl⟩; rw [H4.out]))
    go_ret
    exact ⟨rfl, ba (Below.refl _ _)⟩)
theorem rowAt_key {l : Int} (hh : hasR R l = true) : (rowAt R l).1.n = l ∧ rowAt R l ∈ R := by
  unfold hasR at hh
  unfold rowAt
  cases hg : getK hKey l R with
  | none => rw [hg] at hh; cases hh
  | some r => obtain ⟨h1, h2⟩ := getK_some hg; exact ⟨h2, h1⟩
end
end Go.Proofs.Ytgeiagndpfdnlaa
end
section
namespace Go.Proofs.Ytgeiagndpfdnlaa
open Go.RowKit
set_option linter.unusedVariables false

section
variable {P : Program} {ops : Array Oper} {Q : Exit → Act → World → Prop} {w0 : World} {X : List Nat}

/-- Whatever order is picked from here on; behind each operation but those of X the world is above w0, and may grow. -/
def wpAnyX (P : Program) (ops : Array Oper) (Q : Exit → Act → World → Prop) (w0 : World) (X : List Nat) : Nat → Array Bool → Act → World → Prop
  | 0, listed, a, w => Region.ready .any ops listed = [] ∧ Q .normal a w
  | fuel + 1, listed, a, w =>
    (Region.ready .any ops listed = [] → Q .normal a w) ∧
    ∀ i ∈ Region.ready .any ops listed, wpOp P ops Q i (fun a' w' => (X.contains i = true ∧ wpAny P .any ops Q fuel (listed.setIfInBounds i true) a' w') ∨ (Below w0.heap.size w0 w' ∧ ∀ u : Up w', wpAnyX P ops Q w0 X fuel (listed.setIfInBounds i true) a' u.1)) a w
theorem wpAny_of_x : ∀ (fuel : Nat) (listed : Array Bool) (a : Act) (w : World), wpAnyX P ops Q w0 X fuel listed a w → wpAny P .any ops Q fuel listed a w
  | 0, _, _, _, h => h
  | fuel + 1, _, _, _, h => ⟨h.1, fun i hi => wpOp_mono (fun a' w' h' => h'.elim (fun h => h.2) fun h' => wpAny_of_x fuel _ a' w' (h'.2 (Up.self _))) (h.2 i hi)⟩
/-- Operation j waits for i. -/
def waitsOn (ops : Array Oper) (j i : Nat) : Bool := ((ops[j]?).map fun o => o.after.any fun e => Region.binds .any e && e.on == i).getD false
theorem waitsOn_spec {j i : Nat} (h : waitsOn ops j i = true) {oj : Oper} (hj : ops[j]? = some oj) : ∃ e ∈ oj.after, Region.binds .any e = true ∧ e.on = i := by
  unfold waitsOn at h
  rw [hj] at h
  simp at h
  obtain ⟨k, hk, h2, h3⟩ := h
  exact ⟨oj.after[k], Array.getElem_mem hk, h2, h3⟩
theorem wpAnyX_first {i : Nat} {oi : Oper} {v : Value} (hwa : X.all (fun j => waitsOn ops j i) = true) (hi : ops[i]? = some oi) (hsel : ∀ (j : Nat) (o : Oper) cs b, ops[j]? = some o → o.op ≠ .select cs b)
    (hQ : ∀ c a w, Q (.panic c) (a.put oi.dst v) w → Q (.panic c) a w) :
    ∀ (fuel : Nat) (listed : Array Bool) (a : Act) (W : Up w0),
      (∀ j oj, ops[j]? = some oj → j ≠ i → listed.getD j true = false → (∀ e ∈ oj.after, Region.binds .any e = true → e.on ≠ i) → oi.apart ops oj = true) →
      i ∈ Region.ready .any ops listed → Mild P ops w0 oi v a →
      (∀ u : Up W.1, wpAnyX P ops Q w0 X fuel (listed.setIfInBounds i true) (a.put oi.dst v) u.1) → wpAnyX P ops Q w0 X (fuel + 1) listed a W.1 := by
  intro fuel
  induction fuel with
  | zero =>
    intro listed a W _ hr hy H
    refine ⟨fun h => (by rw [h] at hr; cases hr), fun j hj => ?_⟩
    by_cases hji : j = i
    · subst hji; exact hy.wpOp hi W fun u => .inr ⟨(W.trans u).2, fun u' => H (u.trans u')⟩
    · have := ready_mono hj hji
      rw [(H (Up.self _)).1] at this
      cases this
  | succ fuel ih =>
    intro listed a W hfree hr hy H
    refine ⟨fun h => (by rw [h] at hr; cases hr), fun j hj => ?_⟩
    by_cases hji : j = i
    · subst hji; exact hy.wpOp hi W fun u => .inr ⟨(W.trans u).2, fun u' => H (u.trans u')⟩
    · have h1 := (H (Up.self _)).2 j (ready_mono hj hji)
      obtain ⟨hjun, oj, hoj, hall⟩ := mem_ready.1 hj
      have hnot : ∀ e ∈ oj.after, Region.binds .any e = true → e.on ≠ i := fun e he hb heq => by
        have g1 := hall e he hb
        have g0 := (mem_ready.1 hr).1
        rw [heq] at g1
        rcases Nat.lt_or_ge i listed.size with h' | h'
        · simp [h'] at g0 g1; rw [g0] at g1; cases g1
        · simp [Array.getElem?_eq_none h'] at g1
      have h2 := wpOp_mild hoj (hfree j oj hoj hji hjun hnot) (fun cs b => hsel i oi cs b hi) (fun cs b => hsel j oj cs b hoj) hQ hy h1
      have hfree' : ∀ k ok, ops[k]? = some ok → k ≠ i → (listed.setIfInBounds j true).getD k true = false →
          (∀ e ∈ ok.after, Region.binds .any e = true → e.on ≠ i) → oi.apart ops ok = true := fun k ok hk hki hun hno => by
        refine hfree k ok hk hki ?_ hno
        by_cases hjk : j = k
        · subst hjk; exact hjun
        · rw [getD_set_ne true hjk] at hun; exact hun
      have hri : i ∈ Region.ready .any ops (listed.setIfInBounds j true) := ready_mono hr (Ne.symm hji)
      have hjx : X.contains j = false := by
        cases hc : X.contains j
        · rfl
        · exfalso
          have hm : j ∈ X := by simpa using hc
          obtain ⟨e, he, hb, hon⟩ := waitsOn_spec (List.all_eq_true.1 hwa j hm) hoj
          exact hnot e he hb hon
      refine wpOp_mono (fun a' w' h3 => ?_) h2
      obtain ⟨hy', h3⟩ := h3
      rcases h3 with ⟨hx, _⟩ | ⟨hB, h3⟩
      · rw [hjx] at hx; cases hx
      refine .inr ⟨hB, fun u => ?_⟩
      refine ih (listed.setIfInBounds j true) a' ⟨u.1, next hB u.2⟩ hfree' hri hy' fun u' => ?_
      rw [Array.setIfInBounds_comm _ _ hji]
      exact h3 (u.trans u')

/-- The region, from here on, in every world above w0. -/
def MildX (P : Program) (ops : Array Oper) (Q : Exit → Act → World → Prop) (w0 : World) (X : List Nat) (fuel : Nat) (listed : Array Bool) (a : Act) : Prop :=
  ∀ W : Up w0, wpAnyX P ops Q w0 X fuel listed a W.1
theorem any_mildx (X : List Nat) {fuel : Nat} {listed : Array Bool} {a : Act} {w : World} (h : MildX P ops Q w X fuel listed a) : wpAny P .any ops Q fuel listed a w :=
  wpAny_of_x (w0 := w) (X := X) _ _ _ _ (h (Up.self w))
theorem mildx_take (i : Nat) {l rest : List Oper} {oi : Oper} {v : Value} {fuel : Nat} {listed : Array Bool} {a : Act} (hd : l.drop i = oi :: rest) (hs : Region.noSelect l.toArray = true) (hwa : X.all (fun j => waitsOn l.toArray j i) = true)
    (hf : Region.free .any l.toArray listed i = true) (hr : (Region.ready .any l.toArray listed).contains i = true) (hQ : ∀ c a w, Q (.panic c) (a.put oi.dst v) w → Q (.panic c) a w)
    (hw : Region.wanted oi (yielded l.toArray a.tmps) = true) (hy : ∀ (W : Up w0) (K : Act → Prop), K (a.put oi.dst v) → oi.quiet P a (fun w' => ∃ u : Up W.1, w' = u.1) K)
    (h : MildX P l.toArray Q w0 X fuel (listed.setIfInBounds i true) (a.put oi.dst v)) : MildX P l.toArray Q w0 X (fuel + 1) listed a := fun W =>
  wpAnyX_first hwa (of_drop hd) (Region.noSelect_spec hs) hQ fuel listed a W (Region.free_spec (of_drop hd) hf) (by simpa using hr) (.inl ⟨hw, hy⟩) fun u => h (W.trans u)
/-- One of the operations that only make memory, alone. -/
theorem upx_list (i : Nat) {l rest : List Oper} {oi : Oper} {fuel : Nat} {listed : Array Bool} {a : Act} {w : World} (hr : Region.ready .any l.toArray listed = [i]) (hd : l.drop i = oi :: rest)
    (h : wpList P l.toArray (Then (fun a' w' => Below w0.heap.size w0 w' ∧ ∀ u : Up w', wpAnyX P l.toArray Q w0 X fuel (listed.setIfInBounds i true) a' u.1) Q) [oi] a w) : wpAnyX P l.toArray Q w0 X (fuel + 1) listed a w :=
  ⟨fun h0 => (by rw [hr] at h0; cases h0), (by rw [hr]; intro j hj; rw [List.mem_singleton] at hj; subst hj; exact wpOp_mono (fun _ _ h => .inr h) (op_list j hd h))⟩
theorem upx_write (i : Nat) {l rest : List Oper} {oi : Oper} {fuel : Nat} {listed : Array Bool} {a : Act} {w : World} (hr : Region.ready .any l.toArray listed = [i]) (hx : X.contains i = true) (hd : l.drop i = oi :: rest)
    (h : wpList P l.toArray (Then (fun a' w' => wpAny P .any l.toArray Q fuel (listed.setIfInBounds i true) a' w') Q) [oi] a w) : wpAnyX P l.toArray Q w0 X (fuel + 1) listed a w :=
  ⟨fun h0 => (by rw [hr] at h0; cases h0), (by rw [hr]; intro j hj; rw [List.mem_singleton] at hj; subst hj; exact wpOp_mono (fun _ _ h => .inl ⟨hx, h⟩) (op_list j hd h))⟩
end
end Go.Proofs.Ytgeiagndpfdnlaa
end
section
namespace Go.Proofs.Ytgeiagndpfdnlaa
open Go.RowKit
set_option linter.unusedVariables false

section
variable {P : Program} {ops : Array Oper} {Q : Exit → Act → World → Prop} {w0 : World} {X : List Nat}

theorem wpAnyX_firstY {Y : List Nat} {i : Nat} {oi : Oper} {v : Value} (hXY : X.all (fun j => Y.contains j) = true) (hi : ops[i]? = some oi) (hsel : ∀ (j : Nat) (o : Oper) cs b, ops[j]? = some o → o.op ≠ .select cs b)
    (hQ : ∀ c a w, Q (.panic c) (a.put oi.dst v) w → Q (.panic c) a w) :
    ∀ (fuel : Nat) (listed : Array Bool) (a : Act) (W : Up w0), (∀ j ∈ Y, listed.getD j true = false ∧ (waitsOn ops j i = true ∨ ∃ k ∈ Y, waitsOn ops j k = true)) →
      (∀ j oj, ops[j]? = some oj → j ≠ i → listed.getD j true = false → (∀ e ∈ oj.after, Region.binds .any e = true → e.on ≠ i) → oi.apart ops oj = true) →
      i ∈ Region.ready .any ops listed → Mild P ops w0 oi v a →
      (∀ u : Up W.1, wpAnyX P ops Q w0 X fuel (listed.setIfInBounds i true) (a.put oi.dst v) u.1) → wpAnyX P ops Q w0 X (fuel + 1) listed a W.1 := by
  intro fuel
  induction fuel with
  | zero =>
    intro listed a W _ _ hr hy H
    refine ⟨fun h => (by rw [h] at hr; cases hr), fun j hj => ?_⟩
    by_cases hji : j = i
    · subst hji; exact hy.wpOp hi W fun u => .inr ⟨(W.trans u).2, fun u' => H (u.trans u')⟩
    · have := ready_mono hj hji
      rw [(H (Up.self _)).1] at this
      cases this
  | succ fuel ih =>
    intro listed a W hY hfree hr hy H
    refine ⟨fun h => (by rw [h] at hr; cases hr), fun j hj => ?_⟩
    by_cases hji : j = i
    · subst hji; exact hy.wpOp hi W fun u => .inr ⟨(W.trans u).2, fun u' => H (u.trans u')⟩
    · have h1 := (H (Up.self _)).2 j (ready_mono hj hji)
      obtain ⟨hjun, oj, hoj, hall⟩ := mem_ready.1 hj
      have hnot : ∀ e ∈ oj.after, Region.binds .any e = true → e.on ≠ i := fun e he hb heq => by
        have g1 := hall e he hb
        have g0 := (mem_ready.1 hr).1
        rw [heq] at g1
        rcases Nat.lt_or_ge i listed.size with h' | h'
        · simp [h'] at g0 g1; rw [g0] at g1; cases g1
        · simp [Array.getElem?_eq_none h'] at g1
      have h2 := wpOp_mild hoj (hfree j oj hoj hji hjun hnot) (fun cs b => hsel i oi cs b hi) (fun cs b => hsel j oj cs b hoj) hQ hy h1
      have hfree' : ∀ k ok, ops[k]? = some ok → k ≠ i → (listed.setIfInBounds j true).getD k true = false →
          (∀ e ∈ ok.after, Region.binds .any e = true → e.on ≠ i) → oi.apart ops ok = true := fun k ok hk hki hun hno => by
        refine hfree k ok hk hki ?_ hno
        by_cases hjk : j = k
        · subst hjk; exact hjun
        · rw [getD_set_ne true hjk] at hun; exact hun
      have hri : i ∈ Region.ready .any ops (listed.setIfInBounds j true) := ready_mono hr (Ne.symm hji)
      have hjY : j ∉ Y := fun hm => by
        obtain ⟨_, hw⟩ := hY j hm
        rcases hw with hw | ⟨k, hk, hw⟩
        · obtain ⟨e, he, hb, hon⟩ := waitsOn_spec hw hoj
          exact hnot e he hb hon
        · obtain ⟨e, he, hb, hon⟩ := waitsOn_spec hw hoj
          have g1 := hall e he hb
          have g0 := (hY k hk).1
          rw [hon] at g1
          rcases Nat.lt_or_ge k listed.size with h' | h'
          · simp [h'] at g0 g1; rw [g0] at g1; cases g1
          · simp [Array.getElem?_eq_none h'] at g1
      have hjx : X.contains j = false := by
        cases hc : X.contains j
        · rfl
        · exfalso
          have hm : j ∈ X := by simpa using hc
          exact hjY (by simpa using List.all_eq_true.1 hXY j hm)
      have hY' : ∀ k ∈ Y, (listed.setIfInBounds j true).getD k true = false ∧ (waitsOn ops k i = true ∨ ∃ k' ∈ Y, waitsOn ops k k' = true) := fun k hk => by
        obtain ⟨g0, g1⟩ := hY k hk
        exact ⟨by rw [getD_set_ne true (fun e => hjY (by rw [e]; exact hk))]; exact g0, g1⟩
      refine wpOp_mono (fun a' w' h3 => ?_) h2
      obtain ⟨hy', h3⟩ := h3
      rcases h3 with ⟨hx, _⟩ | ⟨hB, h3⟩
      · rw [hjx] at hx; cases hx
      refine .inr ⟨hB, fun u => ?_⟩
      refine ih (listed.setIfInBounds j true) a' ⟨u.1, next hB u.2⟩ hY' hfree' hri hy' fun u' => ?_
      rw [Array.setIfInBounds_comm _ _ hji]
      exact h3 (u.trans u')

/-- All of Y are still to come, and each waits for i, or for another of Y. -/
def waitsY (ops : Array Oper) (Y : List Nat) (listed : Array Bool) (i : Nat) : Bool := Y.all fun j => !listed.getD j true && (waitsOn ops j i || Y.any fun k => waitsOn ops j k)
theorem mildy_take (Y : List Nat) (i : Nat) {l rest : List Oper} {oi : Oper} {v : Value} {fuel : Nat} {listed : Array Bool} {a : Act} (hd : l.drop i = oi :: rest) (hs : Region.noSelect l.toArray = true) (hXY : X.all (fun j => Y.contains j) = true) (hwa : waitsY l.toArray Y listed i = true)
    (hf : Region.free .any l.toArray listed i = true) (hr : (Region.ready .any l.toArray listed).contains i = true) (hQ : ∀ c a w, Q (.panic c) (a.put oi.dst v) w → Q (.panic c) a w)
    (hw : Region.wanted oi (yielded l.toArray a.tmps) = true) (hy : ∀ (W : Up w0) (K : Act → Prop), K (a.put oi.dst v) → oi.quiet P a (fun w' => ∃ u : Up W.1, w' = u.1) K)
    (h : MildX P l.toArray Q w0 X fuel (listed.setIfInBounds i true) (a.put oi.dst v)) : MildX P l.toArray Q w0 X (fuel + 1) listed a := fun W =>
  wpAnyX_firstY hXY (of_drop hd) (Region.noSelect_spec hs) hQ fuel listed a W (fun j hj => by
    have := List.all_eq_true.1 hwa j hj
    simp only [Bool.and_eq_true, Bool.not_eq_true', Bool.or_eq_true] at this
    refine ⟨this.1, this.2.imp id fun h => ?_⟩
    obtain ⟨k, hk, h⟩ := List.any_eq_true.1 h
    exact ⟨k, hk, h⟩) (Region.free_spec (of_drop hd) hf) (by simpa using hr) (.inl ⟨hw, hy⟩) fun u => h (W.trans u)
theorem mildx_done {fuel : Nat} {listed : Array Bool} {a : Act} (hr : Region.ready .any ops listed = []) (h : ∀ W : Up w0, Q .normal a W.1) : MildX P ops Q w0 X fuel listed a := fun W => by
  cases fuel with
  | zero => exact ⟨hr, h W⟩
  | succ n => exact ⟨fun _ => h W, by rw [hr]; intro i hi; cases hi⟩
end
end Go.Proofs.Ytgeiagndpfdnlaa
end
section
namespace Go.Proofs.Ytgeiagndpfdnlaa
open Go.RowKit
set_option linter.unusedVariables false

section
variable {P : Program} {ops : Array Oper} {Q : Exit → Act → World → Prop} {I : World → Prop} {X : List Nat}

/-- In state a, in every world that I holds of, operation o leaves v and the world as it is. -/
def MildI (P : Program) (ops : Array Oper) (I : World → Prop) (o : Oper) (v : Value) (a : Act) : Prop :=
  (Region.wanted o (yielded ops a.tmps) = true ∧ ∀ w, I w → (execOp a.eval o).run P w = .ok (.value v) w) ∨
  (Region.wanted o (yielded ops a.tmps) = false ∧ v = undef)
theorem MildI.wpOp {i : Nat} {o : Oper} {v : Value} {a : Act} {w : World} (hi : ops[i]? = some o) (hy : MildI P ops I o v a) (hI : I w) {K : Act → World → Prop}
    (h : K (a.put o.dst v) w) : wpOp P ops Q i K a w := by
  unfold Go.wpOp
  simp only [hi]
  rcases hy with ⟨hw, hv⟩ | ⟨hw, rfl⟩
  · rw [if_pos hw]
    left
    unfold Oper.wp
    rw [hv w hI]
    exact h
  · rw [if_neg (by rw [hw]; exact Bool.false_ne_true)]
    exact h
theorem MildI.put {oi oj : Oper} {v : Value} {a : Act} (u : Value) (hsi : ∀ cs b, oi.op ≠ .select cs b) (h3 : ∀ d, oj.dst = some d → d ∉ oi.looksAt ops)
    (hy : MildI P ops I oi v a) : MildI P ops I oi v (a.put oj.dst u) := by
  unfold MildI at *
  rw [wanted_put oi a oj.dst u h3]
  refine hy.imp (fun ⟨hw, hv⟩ => ⟨hw, fun w hI => ?_⟩) id
  rw [execOp_put oi hsi a oj.dst u h3]
  exact hv w hI
theorem MildI.defers {oi : Oper} {v : Value} {a : Act} (d : Deferred) (hy : MildI P ops I oi v a) : MildI P ops I oi v { a with defers := d :: a.defers } := hy
theorem wpOp_mildI {j : Nat} {oi oj : Oper} {v : Value} (hj : ops[j]? = some oj) (hap : oi.apart ops oj = true)
    (hsi : ∀ cs b, oi.op ≠ .select cs b) (hsj : ∀ cs b, oj.op ≠ .select cs b)
    (hQ : ∀ c a w, Q (.panic c) (a.put oi.dst v) w → Q (.panic c) a w) {K : Act → World → Prop} {a : Act} {w : World}
    (hy : MildI P ops I oi v a) (h : wpOp P ops Q j K (a.put oi.dst v) w) :
    wpOp P ops Q j (fun a' w' => MildI P ops I oi v a' ∧ K (a'.put oi.dst v) w') a w := by
  obtain ⟨h1, h2, h3⟩ := Oper.apart_spec hap
  have hx : execOp (a.put oi.dst v).eval oj = execOp a.eval oj := execOp_put oj hsj a oi.dst v h1
  have go : ∀ u w', K ((a.put oi.dst v).put oj.dst u) w' → MildI P ops I oi v (a.put oj.dst u) ∧ K ((a.put oj.dst u).put oi.dst v) w' := fun u w' hk =>
    ⟨hy.put u hsi h3, by rwa [Act.put_comm a v u h2] at hk⟩
  unfold wpOp at *
  simp only [hj] at *
  rw [wanted_put oj a oi.dst v h1] at h
  by_cases hw : Region.wanted oj (yielded ops a.tmps) = true
  · rw [if_pos hw] at h ⊢
    rcases h with h | ⟨hasks, hlets⟩
    · left
      unfold Oper.wp at *
      rw [hx] at h
      revert h
      generalize (execOp a.eval oj).run P w = r
      intro h
      rcases r with ⟨n, w'⟩ | ⟨x, w'⟩
      · cases n with
        | value u => exact go u w' h
        | skip => exact go undef w' h
        | «defer» d =>
          simp only [Oper.upon] at h ⊢
          refine ⟨(hy.defers d).put undef hsi h3, ?_⟩
          rwa [← Act.put_comm _ v undef h2, ← Act.put_defers]
        | enter f args =>
          exact Calls.mono h fun e w'' he => by
            cases e with
            | returned u => exact go u w'' he
            | panicked c => exact hQ _ _ _ he
            | outgrown => exact he
        | row r args => exact Rows.mono h fun u w'' he => go u w'' he
        | _ => exact h
      · cases x with
        | panic u => exact hQ _ _ _ h
        | _ => exact h
    · right
      exact ⟨by unfold Oper.asks at *; rwa [hx] at hasks, hlets⟩
  · rw [if_neg hw] at h ⊢
    exact go undef w h
/-- Whatever order is picked from here on; behind each operation but those of X the world is one of I. -/
def wpAnyJ (P : Program) (ops : Array Oper) (Q : Exit → Act → World → Prop) (I : World → Prop) (X : List Nat) : Nat → Array Bool → Act → World → Prop
  | 0, listed, a, w => Region.ready .any ops listed = [] ∧ Q .normal a w
  | fuel + 1, listed, a, w =>
    (Region.ready .any ops listed = [] → Q .normal a w) ∧
    ∀ i ∈ Region.ready .any ops listed, wpOp P ops Q i (fun a' w' => (X.contains i = true ∧ wpAny P .any ops Q fuel (listed.setIfInBounds i true) a' w') ∨ (I w' ∧ wpAnyJ P ops Q I X fuel (listed.setIfInBounds i true) a' w')) a w
theorem wpAny_of_j : ∀ (fuel : Nat) (listed : Array Bool) (a : Act) (w : World), wpAnyJ P ops Q I X fuel listed a w → wpAny P .any ops Q fuel listed a w
  | 0, _, _, _, h => h
  | fuel + 1, _, _, _, h => ⟨h.1, fun i hi => wpOp_mono (fun a' w' h' => h'.elim (fun h => h.2) fun h' => wpAny_of_j fuel _ a' w' h'.2) (h.2 i hi)⟩
theorem wpAnyJ_first {Y : List Nat} {i : Nat} {oi : Oper} {v : Value} (hXY : X.all (fun j => Y.contains j) = true) (hi : ops[i]? = some oi) (hsel : ∀ (j : Nat) (o : Oper) cs b, ops[j]? = some o → o.op ≠ .select cs b)
    (hQ : ∀ c a w, Q (.panic c) (a.put oi.dst v) w → Q (.panic c) a w) :
    ∀ (fuel : Nat) (listed : Array Bool) (a : Act) (w : World), I w → (∀ j ∈ Y, listed.getD j true = false ∧ (waitsOn ops j i = true ∨ ∃ k ∈ Y, waitsOn ops j k = true)) →
      (∀ j oj, ops[j]? = some oj → j ≠ i → listed.getD j true = false → (∀ e ∈ oj.after, Region.binds .any e = true → e.on ≠ i) → oi.apart ops oj = true) →
      i ∈ Region.ready .any ops listed → MildI P ops I oi v a →
      wpAnyJ P ops Q I X fuel (listed.setIfInBounds i true) (a.put oi.dst v) w → wpAnyJ P ops Q I X (fuel + 1) listed a w := by
  intro fuel
  induction fuel with
  | zero =>
    intro listed a w hI _ _ hr hy H
    refine ⟨fun h => (by rw [h] at hr; cases hr), fun j hj => ?_⟩
    by_cases hji : j = i
    · subst hji; exact hy.wpOp hi hI (.inr ⟨hI, H⟩)
    · have := ready_mono hj hji
      rw [H.1] at this
      cases this
  | succ fuel ih =>
    intro listed a w hI hY hfree hr hy H
    refine ⟨fun h => (by rw [h] at hr; cases hr), fun j hj => ?_⟩
    by_cases hji : j = i
    · subst hji; exact hy.wpOp hi hI (.inr ⟨hI, H⟩)
    · have h1 := H.2 j (ready_mono hj hji)
      obtain ⟨hjun, oj, hoj, hall⟩ := mem_ready.1 hj
      have hnot : ∀ e ∈ oj.after, Region.binds .any e = true → e.on ≠ i := fun e he hb heq => by
        have g1 := hall e he hb
        have g0 := (mem_ready.1 hr).1
        rw [heq] at g1
        rcases Nat.lt_or_ge i listed.size with h' | h'
        · simp [h'] at g0 g1; rw [g0] at g1; cases g1
        · simp [Array.getElem?_eq_none h'] at g1
      have h2 := wpOp_mildI hoj (hfree j oj hoj hji hjun hnot) (fun cs b => hsel i oi cs b hi) (fun cs b => hsel j oj cs b hoj) hQ hy h1
      have hfree' : ∀ k ok, ops[k]? = some ok → k ≠ i → (listed.setIfInBounds j true).getD k true = false →
          (∀ e ∈ ok.after, Region.binds .any e = true → e.on ≠ i) → oi.apart ops ok = true := fun k ok hk hki hun hno => by
        refine hfree k ok hk hki ?_ hno
        by_cases hjk : j = k
        · subst hjk; exact hjun
        · rw [getD_set_ne true hjk] at hun; exact hun
      have hri : i ∈ Region.ready .any ops (listed.setIfInBounds j true) := ready_mono hr (Ne.symm hji)
      have hjY : j ∉ Y := fun hm => by
        obtain ⟨_, hw⟩ := hY j hm
        rcases hw with hw | ⟨k, hk, hw⟩
        · obtain ⟨e, he, hb, hon⟩ := waitsOn_spec hw hoj
          exact hnot e he hb hon
        · obtain ⟨e, he, hb, hon⟩ := waitsOn_spec hw hoj
          have g1 := hall e he hb
          have g0 := (hY k hk).1
          rw [hon] at g1
          rcases Nat.lt_or_ge k listed.size with h' | h'
          · simp [h'] at g0 g1; rw [g0] at g1; cases g1
          · simp [Array.getElem?_eq_none h'] at g1
      have hjx : X.contains j = false := by
        cases hc : X.contains j
        · rfl
        · exfalso
          have hm : j ∈ X := by simpa using hc
          exact hjY (by simpa using List.all_eq_true.1 hXY j hm)
      have hY' : ∀ k ∈ Y, (listed.setIfInBounds j true).getD k true = false ∧ (waitsOn ops k i = true ∨ ∃ k' ∈ Y, waitsOn ops k k' = true) := fun k hk => by
        obtain ⟨g0, g1⟩ := hY k hk
        exact ⟨by rw [getD_set_ne true (fun e => hjY (by rw [e]; exact hk))]; exact g0, g1⟩
      refine wpOp_mono (fun a' w' h3 => ?_) h2
      obtain ⟨hy', h3⟩ := h3
      rcases h3 with ⟨hx, _⟩ | ⟨hI', h3⟩
      · rw [hjx] at hx; cases hx
      refine .inr ⟨hI', ?_⟩
      refine ih (listed.setIfInBounds j true) a' w' hI' hY' hfree' hri hy' ?_
      rw [Array.setIfInBounds_comm _ _ hji]
      exact h3
/-- The region, from here on. -/
def InvJ (P : Program) (ops : Array Oper) (Q : Exit → Act → World → Prop) (I : World → Prop) (X : List Nat) (fuel : Nat) (listed : Array Bool) (a : Act) (w : World) : Prop := I w ∧ wpAnyJ P ops Q I X fuel listed a w
theorem any_inv (I : World → Prop) (X : List Nat) {fuel : Nat} {listed : Array Bool} {a : Act} {w : World} (h0 : I w) (h : wpAnyJ P ops Q I X fuel listed a w) : wpAny P .any ops Q fuel listed a w := wpAny_of_j _ _ _ _ h
theorem inv_take (Y : List Nat) (i : Nat) (v : Value) {l rest : List Oper} {oi : Oper} {fuel : Nat} {listed : Array Bool} {a : Act} {w : World} (hI : I w) (hd : l.drop i = oi :: rest) (hs : Region.noSelect l.toArray = true) (hXY : X.all (fun j => Y.contains j) = true) (hwa : waitsY l.toArray Y listed i = true)
    (hf : Region.free .any l.toArray listed i = true) (hr : (Region.ready .any l.toArray listed).contains i = true) (hQ : ∀ c a w, Q (.panic c) (a.put oi.dst v) w → Q (.panic c) a w)
    (hw : Region.wanted oi (yielded l.toArray a.tmps) = true) (hy : ∀ w, I w → (execOp a.eval oi).run P w = .ok (.value v) w)
    (h : wpAnyJ P l.toArray Q I X fuel (listed.setIfInBounds i true) (a.put oi.dst v) w) : wpAnyJ P l.toArray Q I X (fuel + 1) listed a w :=
  wpAnyJ_first hXY (of_drop hd) (Region.noSelect_spec hs) hQ fuel listed a w hI (fun j hj => by
    have := List.all_eq_true.1 hwa j hj
    simp only [Bool.and_eq_true, Bool.not_eq_true', Bool.or_eq_true] at this
    refine ⟨this.1, this.2.imp id fun h => ?_⟩
    obtain ⟨k, hk, h⟩ := List.any_eq_true.1 h
    exact ⟨k, hk, h⟩) (Region.free_spec (of_drop hd) hf) (by simpa using hr) (.inl ⟨hw, hy⟩) h
theorem inv_list (i : Nat) {l rest : List Oper} {oi : Oper} {fuel : Nat} {listed : Array Bool} {a : Act} {w : World} (hr : Region.ready .any l.toArray listed = [i]) (hd : l.drop i = oi :: rest)
    (h : wpList P l.toArray (Then (fun a' w' => I w' ∧ wpAnyJ P l.toArray Q I X fuel (listed.setIfInBounds i true) a' w') Q) [oi] a w) : wpAnyJ P l.toArray Q I X (fuel + 1) listed a w :=
  ⟨fun h0 => (by rw [hr] at h0; cases h0), (by rw [hr]; intro j hj; rw [List.mem_singleton] at hj; subst hj; exact wpOp_mono (fun _ _ h => .inr h) (op_list j hd h))⟩
theorem inv_write (i : Nat) {l rest : List Oper} {oi : Oper} {fuel : Nat} {listed : Array Bool} {a : Act} {w : World} (hr : Region.ready .any l.toArray listed = [i]) (hx : X.contains i = true) (hd : l.drop i = oi :: rest)
    (h : wpList P l.toArray (Then (fun a' w' => wpAny P .any l.toArray Q fuel (listed.setIfInBounds i true) a' w') Q) [oi] a w) : wpAnyJ P l.toArray Q I X (fuel + 1) listed a w :=
  ⟨fun h0 => (by rw [hr] at h0; cases h0), (by rw [hr]; intro j hj; rw [List.mem_singleton] at hj; subst hj; exact wpOp_mono (fun _ _ h => .inl ⟨hx, h⟩) (op_list j hd h))⟩
theorem inv_done {fuel : Nat} {listed : Array Bool} {a : Act} {w : World} (hr : Region.ready .any ops listed = []) (h : Q .normal a w) : wpAnyJ P ops Q I X fuel listed a w := by
  cases fuel with
  | zero => exact ⟨hr, h⟩
  | succ fuel => exact ⟨fun _ => h, fun i hi => by rw [hr] at hi; cases hi⟩
end
end Go.Proofs.Ytgeiagndpfdnlaa
end
section
namespace Go.Proofs.Ytgeiagndpfdnlaa
open Go.RowKit Go.Maps
set_option linter.unusedVariables false
set_option maxRecDepth 20000

section
variable {w : World} {g b : Nat} {D : Nat → Prop} {N K : Int} {R : List (Hr × Value)}
set_option maxHeartbeats 1000000 in
theorem MW.set_keep (h : MW w g b D N K R) {l : Int} (hl : In64 l) (hh : hasR R l = true) (s hd : Int) (a : Option Addr) (n cap : Nat) (hn : n = 0) (ho : setOk N K s hd n = true) :
    Calls Try.prog 55 #[.pointer (some ⟨g, 0, none⟩), .int .i64 l, .int .i64 s, .int .i64 hd, .slice a n cap] w fun e w' => e = .returned (.int .i64 0) ∧ Keep (fun j => j = b) w w' ∧ ∃ D' d, (∀ j, D' j → D j ∨ w.heap.size ≤ j) ∧ MW w' g b D' N K (putK hKey ((⟨l, s, hd, (rowAt R l).1.z⟩ : Hr), d) R) := by
  have c0 := h.c0
  have c1 := h.c1
  have c2 := h.c2
  have lt := h.lt
  have lb := h.rows.lt
  have hlk := h.look hl (V := w) (Below.refl _ _)
  rw [hh] at hlk
  obtain ⟨hk1, hk2⟩ := rowAt_key hh
  obtain ⟨a0, n0, cap0, e0, _⟩ := h.rowDat l
  have hd0 : DatZ w D (rowAt R l).1.z (rowAt R l).2 := h.rowDat l
  have hlen : ∀ q : Hr × Value, q.1.n = l → (putK hKey q R).length ≤ 1000 := fun q hq => by rw [putK_len_at h.rise hk2 (show hKey q = hKey (rowAt R l) from hq.trans hk1.symm)]; exact h.len
  unfold setOk at ho
  simp only [Bool.and_eq_true] at ho
  obtain ⟨⟨⟨h1, h2⟩, h3⟩, h4⟩ := ho
  have H1 : Hid (decide (0 ≤ s ∧ s ≤ 2) = true) := h1
  have H2 : Hid (decide (-1 ≤ hd ∧ hd < N) = true) := h2
  have H3 : Hid (((s == 0) == (hd == -1)) = true) := h3
  have H4 : Hid (decide (n = 0 ∨ (n : Int) = K) = true) := h4
  have HL : Hid (∀ q : Hr × Value, q.1.n = l → (putK hKey q R).length ≤ 1000) := hlen
  have hn0 : (n : Int) ≤ 0 := by omega
  clear hn
  clear h1 h2 h3 h4 hk1 hk2 hh hlen
  generalize rowAt R l = r at *
  obtain ⟨x, d⟩ := r
  simp only at e0 hd0
  subst e0
  have E0 := ba (o := .cells #[.int .i64 x.s, .int .i64 x.h, .slice a0 n0 cap0] 94) (Below.refl w.heap.size w)
  go_enter Try.func55, Try.ntmps55
  go_upto_region 12 with (first
      | (go_at_call 66; refine (isState_any _ _).mono ?_; rintro e w1 ⟨rfl, rfl⟩; rw [H1.out])
      | (go_at_call 67; refine (isHead_any _ N _ _ (((ba (Below.refl _ _)).cell (p := ⟨g, 0, none⟩) lt).trans c0)).mono ?_; rintro e w1 ⟨rfl, rfl⟩; rw [H2.out])
      | (go_at_call 68; refine (fits_any _ _ _).mono ?_; rintro e w1 ⟨rfl, rfl⟩; rw [H3.out])
      | (go_at_call 69; refine (isData_any _ K _ _ _ _ (((ba (Below.refl _ _)).cell (p := ⟨g, 1, none⟩) lt).trans c1)).mono ?_; rintro e w1 ⟨rfl, rfl⟩; rw [H4.out]))
  have B2 := ba (o := .cells #[.int .i64 s, .int .i64 hd, .slice a0 n0 cap0] 94) (Below.refl w.heap.size w)
  have p0 : (w.alloc (.cells #[.int .i64 s, .int .i64 hd, .slice a0 n0 cap0] 94)).cell? ⟨w.heap.size, 0, none⟩ = some (.int .i64 s) := by simp
  have p1 : (w.alloc (.cells #[.int .i64 s, .int .i64 hd, .slice a0 n0 cap0] 94)).cell? ⟨w.heap.size, 1, none⟩ = some (.int .i64 hd) := by simp
  have p2 : (w.alloc (.cells #[.int .i64 s, .int .i64 hd, .slice a0 n0 cap0] 94)).cell? ⟨w.heap.size, 2, none⟩ = some (.slice a0 n0 cap0) := by simp
  have HLT : Hid (w.heap.size < (w.alloc (.cells #[.int .i64 s, .int .i64 hd, .slice a0 n0 cap0] 94)).heap.size) := by show _ < _; simp
  generalize w.alloc (.cells #[.int .i64 s, .int .i64 hd, .slice a0 n0 cap0] 94) = V2 at *
  obtain ⟨E, hE⟩ : ∃ E : Nat → Prop, E = D := ⟨_, rfl⟩
  have HD : Hid (DatZ V2 E x.z (.slice a0 n0 cap0)) := hE ▸ hd0.below B2
  have HE : Hid (∀ j, E j → D j ∨ w.heap.size ≤ j) := fun j h => .inl (hE ▸ h)
  have HG : Hid (∀ j, E j → j < V2.heap.size ∧ j ≠ g ∧ j ≠ b) := fun j hj => by
    subst hE
    exact ⟨Nat.lt_of_lt_of_le (h.old j hj) B2.size, fun e => h.dj.1 (e ▸ hj), fun e => h.dj.2 (e ▸ hj)⟩
  have MV := h.below B2
  have BV := B2
  have H : Hid (MW w g b D N K R) := h
  clear E0 c0 c1 c2 hlk hd0 B2 h hE H1 H2 H3 H4 hn0 lt lb
  refine wp_region_orders 7 rfl (by kernel_rfl) ?_
  have Bd : Below V2.heap.size V2 V2.drew := (Below.refl _ _).drew
  have MV1 := MV.below Bd
  have BV1 := next BV Bd
  have q0 := (Bd.cell (p := ⟨w.heap.size, 0, none⟩) HLT.out).trans p0
  have q1 := (Bd.cell (p := ⟨w.heap.size, 1, none⟩) HLT.out).trans p1
  have q2 := (Bd.cell (p := ⟨w.heap.size, 2, none⟩) HLT.out).trans p2
  have HD1 : Hid (DatZ V2.drew E x.z (.slice a0 n0 cap0)) := HD.out.below Bd
  have HG1 : Hid (∀ j, E j → j < V2.drew.heap.size ∧ j ≠ g ∧ j ≠ b) := fun j hj => ⟨Nat.lt_of_lt_of_le (HG.out j hj).1 Bd.size, (HG.out j hj).2⟩
  clear MV BV p0 p1 p2 HD HG HLT Bd
  generalize V2.drew = V3 at *
  clear V2
  have hI : (fun V => V.cell? ⟨g, 2, none⟩ = some (.map (some b)) ∧ V.cell? ⟨w.heap.size, 0, none⟩ = some (.int .i64 s) ∧ V.cell? ⟨w.heap.size, 1, none⟩ = some (.int .i64 hd) ∧ V.cell? ⟨w.heap.size, 2, none⟩ = some (.slice a0 n0 cap0)) V3 := ⟨MV1.c2, q0, q1, q2⟩
  clear q0 q1 q2
  refine any_inv (fun V => V.cell? ⟨g, 2, none⟩ = some (.map (some b)) ∧ V.cell? ⟨w.heap.size, 0, none⟩ = some (.int .i64 s) ∧ V.cell? ⟨w.heap.size, 1, none⟩ = some (.int .i64 hd) ∧ V.cell? ⟨w.heap.size, 2, none⟩ = some (.slice a0 n0 cap0)) [6] hI ?_
  refine inv_take (v := ?v1) [1, 2, 3, 6] 0 hI rfl (by kernel_rfl) (by kernel_rfl) (by kernel_rfl) (by kernel_rfl) (by kernel_rfl) (fun _ _ _ h => h) (by kernel_rfl) (fun V hV => ?hy1) ?go1
  case hy1 => (obtain ⟨z0, z1, z2, z3⟩ := hV; go_simp <;> rfl)
  simp only [Act.put, List.setIfInBounds_toArray, List.set_cons_zero, List.set_cons_succ]
  refine inv_take (v := ?v2) [2, 3, 6] 1 hI rfl (by kernel_rfl) (by kernel_rfl) (by kernel_rfl) (by kernel_rfl) (by kernel_rfl) (fun _ _ _ h => h) (by kernel_rfl) (fun V hV => ?hy2) ?go2
  case hy2 => (obtain ⟨z0, z1, z2, z3⟩ := hV; go_simp <;> rfl)
  simp only [Act.put, List.setIfInBounds_toArray, List.set_cons_zero, List.set_cons_succ]
  refine inv_take (v := ?v3) [3, 6] 2 hI rfl (by kernel_rfl) (by kernel_rfl) (by kernel_rfl) (by kernel_rfl) (by kernel_rfl) (fun _ _ _ h => h) (by kernel_rfl) (fun V hV => ?hy3) ?go3
  case hy3 => (obtain ⟨z0, z1, z2, z3⟩ := hV; go_simp <;> rfl)
  simp only [Act.put, List.setIfInBounds_toArray, List.set_cons_zero, List.set_cons_succ]
  refine inv_take (v := ?v4) [6] 3 hI rfl (by kernel_rfl) (by kernel_rfl) (by kernel_rfl) (by kernel_rfl) (by kernel_rfl) (fun _ _ _ h => h) (by kernel_rfl) (fun V hV => ?hy4) ?go4
  case hy4 => (obtain ⟨z0, z1, z2, z3⟩ := hV; go_simp <;> rfl)
  simp only [Act.put, List.setIfInBounds_toArray, List.set_cons_zero, List.set_cons_succ]
  refine inv_take (v := ?v5) [6] 4 hI rfl (by kernel_rfl) (by kernel_rfl) (by kernel_rfl) (by kernel_rfl) (by kernel_rfl) (fun _ _ _ h => h) (by kernel_rfl) (fun V hV => ?hy5) ?go5
  case hy5 => (obtain ⟨z0, z1, z2, z3⟩ := hV; go_simp <;> rfl)
  simp only [Act.put, List.setIfInBounds_toArray, List.set_cons_zero, List.set_cons_succ]
  refine inv_take (v := ?v6) [6] 5 hI rfl (by kernel_rfl) (by kernel_rfl) (by kernel_rfl) (by kernel_rfl) (by kernel_rfl) (fun _ _ _ h => h) (by kernel_rfl) (fun V hV => ?hy6) ?go6
  case hy6 => (obtain ⟨z0, z1, z2, z3⟩ := hV; go_simp <;> rfl)
  simp only [Act.put, List.setIfInBounds_toArray, List.set_cons_zero, List.set_cons_succ]
  obtain ⟨w9, hrun9, MN, K9, s9⟩ := MV1.store (E := E) (r := ((⟨l, s, hd, x.z⟩ : Hr), .slice a0 n0 cap0)) (HL.out _ rfl) hl HD1.out HG1.out
  have KN : Keep (fun j => j = b) w w9 := (Keep.of_below BV1).trans K9 (fun j _ e => e)
  refine inv_write 6 (by kernel_rfl) (by kernel_rfl) rfl ?_
  clear K9 s9 MV1 BV1 HD1 HG1 hI
  go_wp2_with fail
  refine then_n ?_
  refine any_done (by kernel_rfl) ?_
  clear hrun9
  go_wp2_with fail
  go_ret
  exact ⟨rfl, KN, _, _, fun j hj => hj.elim .inl (HE.out j), MN⟩
set_option maxHeartbeats 1000000 in
theorem MW.set_full (h : MW w g b D N K R) {l : Int} (hl : In64 l) (hh : hasR R l = true) (s hd : Int) (a : Option Addr) (n cap : Nat) (z : List Int) (hs : Sl w a n cap z) (hn : 0 < n) (hb : n ≤ 17592186044416) (ho : setOk N K s hd n = true) :
    Calls Try.prog 55 #[.pointer (some ⟨g, 0, none⟩), .int .i64 l, .int .i64 s, .int .i64 hd, .slice a n cap] w fun e w' => e = .returned (.int .i64 0) ∧ Keep (fun j => j = b) w w' ∧ ∃ D' d, (∀ j, D' j → D j ∨ w.heap.size ≤ j) ∧ MW w' g b D' N K (putK hKey ((⟨l, s, hd, z⟩ : Hr), d) R) := by
  have c0 := h.c0
  have c1 := h.c1
  have c2 := h.c2
  have lt := h.lt
  have lb := h.rows.lt
  have hlk := h.look hl (V := w) (Below.refl _ _)
  rw [hh] at hlk
  obtain ⟨hk1, hk2⟩ := rowAt_key hh
  obtain ⟨a0, n0, cap0, e0, _⟩ := h.rowDat l
  have hd0 : DatZ w D (rowAt R l).1.z (rowAt R l).2 := h.rowDat l
  have hlen : ∀ q : Hr × Value, q.1.n = l → (putK hKey q R).length ≤ 1000 := fun q hq => by rw [putK_len_at h.rise hk2 (show hKey q = hKey (rowAt R l) from hq.trans hk1.symm)]; exact h.len
  unfold setOk at ho
  simp only [Bool.and_eq_true] at ho
  obtain ⟨⟨⟨h1, h2⟩, h3⟩, h4⟩ := ho
  have H1 : Hid (decide (0 ≤ s ∧ s ≤ 2) = true) := h1
  have H2 : Hid (decide (-1 ≤ hd ∧ hd < N) = true) := h2
  have H3 : Hid (((s == 0) == (hd == -1)) = true) := h3
  have H4 : Hid (decide (n = 0 ∨ (n : Int) = K) = true) := h4
  have HL : Hid (∀ q : Hr × Value, q.1.n = l → (putK hKey q R).length ≤ 1000) := hlen
  have hn0 : (0 : Int) < (n : Int) := by omega
  skip
  clear h1 h2 h3 h4 hk1 hk2 hh hlen
  generalize rowAt R l = r at *
  obtain ⟨x, d⟩ := r
  simp only at e0 hd0
  subst e0
  have E0 := ba (o := .cells #[.int .i64 x.s, .int .i64 x.h, .slice a0 n0 cap0] 94) (Below.refl w.heap.size w)
  obtain ⟨b0, o0, ea, _⟩ := hs.at hn
  subst ea
  go_enter Try.func55, Try.ntmps55
  go_upto_region 12 with (first
      | (go_at_call 66; refine (isState_any _ _).mono ?_; rintro e w1 ⟨rfl, rfl⟩; rw [H1.out])
      | (go_at_call 67; refine (isHead_any _ N _ _ (((ba (Below.refl _ _)).cell (p := ⟨g, 0, none⟩) lt).trans c0)).mono ?_; rintro e w1 ⟨rfl, rfl⟩; rw [H2.out])
      | (go_at_call 68; refine (fits_any _ _ _).mono ?_; rintro e w1 ⟨rfl, rfl⟩; rw [H3.out])
      | (go_at_call 69; refine (isData_any _ K _ _ _ _ (((ba (Below.refl _ _)).cell (p := ⟨g, 1, none⟩) lt).trans c1)).mono ?_; rintro e w1 ⟨rfl, rfl⟩; rw [H4.out])
      | (go_at_call 62; refine (dclone_some ⟨b0, o0, none⟩ z n cap _ (hs.below (ba (Below.refl _ _))) hn hb).mono ?_; rintro e w2 ⟨a1, cap1, rfl, own, hb2⟩; obtain ⟨k1, k2⟩ := bcell hb2))
  have hz2 := hb2.size
  simp at hz2
  have hlo := own.lo
  have x0 : w2.cell? ⟨w.heap.size, 0, none⟩ = some (.int .i64 s) := by rw [k1 w.heap.size 0 (by simp)]; simp
  have x1 : w2.cell? ⟨w.heap.size, 1, none⟩ = some (.int .i64 hd) := by rw [k1 w.heap.size 1 (by simp)]; simp
  have x2 : w2.cell? ⟨w.heap.size, 2, none⟩ = some (.slice a0 n0 cap0) := by rw [k1 w.heap.size 2 (by simp)]; simp
  have KK := Keep.one w2 w.heap.size 2 (.slice a1 n cap1)
  have B2 : Below w.heap.size w (w2.setCell ⟨w.heap.size, 2, none⟩ (.slice a1 n cap1)) := KK.after (next (ba (Below.refl _ _)) hb2) (fun j hj => by omega)
  have p0 : (w2.setCell ⟨w.heap.size, 2, none⟩ (.slice a1 n cap1)).cell? ⟨w.heap.size, 0, none⟩ = some (.int .i64 s) := by go_simp
  have p1 : (w2.setCell ⟨w.heap.size, 2, none⟩ (.slice a1 n cap1)).cell? ⟨w.heap.size, 1, none⟩ = some (.int .i64 hd) := by go_simp
  have p2 : (w2.setCell ⟨w.heap.size, 2, none⟩ (.slice a1 n cap1)).cell? ⟨w.heap.size, 2, none⟩ = some (.slice a1 n cap1) := by go_simp
  have HLT : Hid (w.heap.size < (w2.setCell ⟨w.heap.size, 2, none⟩ (.slice a1 n cap1)).heap.size) := by have := KK.size; show _ < _; omega
  have own2 : Own (w2.setCell ⟨w.heap.size, 2, none⟩ (.slice a1 n cap1)) (w.heap.size + 1) (.slice a1 n cap1) z := (own.keep KK (fun k hk e => by have := (own.base k hk).1; simp at this; omega)).low (by simp)
  generalize w2.setCell ⟨w.heap.size, 2, none⟩ (.slice a1 n cap1) = V2 at *
  obtain ⟨E, hE⟩ : ∃ E : Nat → Prop, E = (fun j => w.heap.size + 1 ≤ j ∧ j < V2.heap.size) := ⟨_, rfl⟩
  have HD : Hid (DatZ V2 E z (.slice a1 n cap1)) := (datz_own own2 (by have := hs.len; omega)).imp (fun j hj h => by rw [hE]; exact ⟨h, hj⟩)
  have HE : Hid (∀ j, E j → D j ∨ w.heap.size ≤ j) := fun j h => .inr (by rw [hE] at h; have := h.1; omega)
  have HG : Hid (∀ j, E j → j < V2.heap.size ∧ j ≠ g ∧ j ≠ b) := fun j hj => by
    rw [hE] at hj
    have := hj.1
    exact ⟨hj.2, by omega, by omega⟩
  clear own own2 hz2 hlo x0 x1 x2 KK hb2 k1 k2 hs
  clear w2
  have MV := h.below B2
  have BV := B2
  have H : Hid (MW w g b D N K R) := h
  clear E0 c0 c1 c2 hlk hd0 B2 h hE H1 H2 H3 H4 hn0 lt lb
  refine wp_region_orders 7 rfl (by kernel_rfl) ?_
  have Bd : Below V2.heap.size V2 V2.drew := (Below.refl _ _).drew
  have MV1 := MV.below Bd
  have BV1 := next BV Bd
  have q0 := (Bd.cell (p := ⟨w.heap.size, 0, none⟩) HLT.out).trans p0
  have q1 := (Bd.cell (p := ⟨w.heap.size, 1, none⟩) HLT.out).trans p1
  have q2 := (Bd.cell (p := ⟨w.heap.size, 2, none⟩) HLT.out).trans p2
  have HD1 : Hid (DatZ V2.drew E z (.slice a1 n cap1)) := HD.out.below Bd
  have HG1 : Hid (∀ j, E j → j < V2.drew.heap.size ∧ j ≠ g ∧ j ≠ b) := fun j hj => ⟨Nat.lt_of_lt_of_le (HG.out j hj).1 Bd.size, (HG.out j hj).2⟩
  clear MV BV p0 p1 p2 HD HG HLT Bd
  generalize V2.drew = V3 at *
  clear V2
  have hI : (fun V => V.cell? ⟨g, 2, none⟩ = some (.map (some b)) ∧ V.cell? ⟨w.heap.size, 0, none⟩ = some (.int .i64 s) ∧ V.cell? ⟨w.heap.size, 1, none⟩ = some (.int .i64 hd) ∧ V.cell? ⟨w.heap.size, 2, none⟩ = some (.slice a1 n cap1)) V3 := ⟨MV1.c2, q0, q1, q2⟩
  clear q0 q1 q2
  refine any_inv (fun V => V.cell? ⟨g, 2, none⟩ = some (.map (some b)) ∧ V.cell? ⟨w.heap.size, 0, none⟩ = some (.int .i64 s) ∧ V.cell? ⟨w.heap.size, 1, none⟩ = some (.int .i64 hd) ∧ V.cell? ⟨w.heap.size, 2, none⟩ = some (.slice a1 n cap1)) [6] hI ?_
  refine inv_take (v := ?v7) [1, 2, 3, 6] 0 hI rfl (by kernel_rfl) (by kernel_rfl) (by kernel_rfl) (by kernel_rfl) (by kernel_rfl) (fun _ _ _ h => h) (by kernel_rfl) (fun V hV => ?hy7) ?go7
  case hy7 => (obtain ⟨z0, z1, z2, z3⟩ := hV; go_simp <;> rfl)
  simp only [Act.put, List.setIfInBounds_toArray, List.set_cons_zero, List.set_cons_succ]
  refine inv_take (v := ?v8) [2, 3, 6] 1 hI rfl (by kernel_rfl) (by kernel_rfl) (by kernel_rfl) (by kernel_rfl) (by kernel_rfl) (fun _ _ _ h => h) (by kernel_rfl) (fun V hV => ?hy8) ?go8
  case hy8 => (obtain ⟨z0, z1, z2, z3⟩ := hV; go_simp <;> rfl)
  simp only [Act.put, List.setIfInBounds_toArray, List.set_cons_zero, List.set_cons_succ]
  refine inv_take (v := ?v9) [3, 6] 2 hI rfl (by kernel_rfl) (by kernel_rfl) (by kernel_rfl) (by kernel_rfl) (by kernel_rfl) (fun _ _ _ h => h) (by kernel_rfl) (fun V hV => ?hy9) ?go9
  case hy9 => (obtain ⟨z0, z1, z2, z3⟩ := hV; go_simp <;> rfl)
  simp only [Act.put, List.setIfInBounds_toArray, List.set_cons_zero, List.set_cons_succ]
  refine inv_take (v := ?v10) [6] 3 hI rfl (by kernel_rfl) (by kernel_rfl) (by kernel_rfl) (by kernel_rfl) (by kernel_rfl) (fun _ _ _ h => h) (by kernel_rfl) (fun V hV => ?hy10) ?go10
  case hy10 => (obtain ⟨z0, z1, z2, z3⟩ := hV; go_simp <;> rfl)
  simp only [Act.put, List.setIfInBounds_toArray, List.set_cons_zero, List.set_cons_succ]
  refine inv_take (v := ?v11) [6] 4 hI rfl (by kernel_rfl) (by kernel_rfl) (by kernel_rfl) (by kernel_rfl) (by kernel_rfl) (fun _ _ _ h => h) (by kernel_rfl) (fun V hV => ?hy11) ?go11
  case hy11 => (obtain ⟨z0, z1, z2, z3⟩ := hV; go_simp <;> rfl)
  simp only [Act.put, List.setIfInBounds_toArray, List.set_cons_zero, List.set_cons_succ]
  refine inv_take (v := ?v12) [6] 5 hI rfl (by kernel_rfl) (by kernel_rfl) (by kernel_rfl) (by kernel_rfl) (by kernel_rfl) (fun _ _ _ h => h) (by kernel_rfl) (fun V hV => ?hy12) ?go12
  case hy12 => (obtain ⟨z0, z1, z2, z3⟩ := hV; go_simp <;> rfl)
  simp only [Act.put, List.setIfInBounds_toArray, List.set_cons_zero, List.set_cons_succ]
  obtain ⟨w9, hrun9, MN, K9, s9⟩ := MV1.store (E := E) (r := ((⟨l, s, hd, z⟩ : Hr), .slice a1 n cap1)) (HL.out _ rfl) hl HD1.out HG1.out
  have KN : Keep (fun j => j = b) w w9 := (Keep.of_below BV1).trans K9 (fun j _ e => e)
  refine inv_write 6 (by kernel_rfl) (by kernel_rfl) rfl ?_
  clear K9 s9 MV1 BV1 HD1 HG1 hI
  go_wp2_with fail
  refine then_n ?_
  refine any_done (by kernel_rfl) ?_
  clear hrun9
  go_wp2_with fail
  go_ret
  exact ⟨rfl, KN, _, _, fun j hj => hj.elim .inl (HE.out j), MN⟩
end
end Go.Proofs.Ytgeiagndpfdnlaa
end
section
namespace Go.Proofs.Ytgeiagndpfdnlaa
open Go.RowKit Go.Maps
set_option linter.unusedVariables false
set_option maxRecDepth 20000

/-- What a home knows at first, of the lines below i. -/
def rows0 (zi : List Int) (N L K : Nat) (node : Int) (i : Nat) : List Hr := ((List.range i).filter (fun l : Nat => decide (remI (l : Int) N = node))).map (fun l : Nat => ⟨(l : Int), 0, -1, wordsI zi L K l⟩)
theorem rows0_lt {zi : List Int} {N L K : Nat} {node : Int} {i : Nat} : ∀ q ∈ rows0 zi N L K node i, 0 ≤ q.n ∧ q.n < (i : Int) := by
  intro q hq
  obtain ⟨l, hl, rfl⟩ := List.mem_map.1 hq
  have := (List.mem_filter.1 hl).1
  rw [List.mem_range] at this
  simp
  omega
theorem rows0_len {zi : List Int} {N L K : Nat} {node : Int} {i : Nat} : (rows0 zi N L K node i).length ≤ i := by
  unfold rows0
  rw [List.length_map]
  have := List.length_filter_le (fun l : Nat => decide (remI (l : Int) N = node)) (List.range i)
  rwa [List.length_range] at this
theorem rows0_put {zi : List Int} {N L K : Nat} {node : Int} {i : Nat} (h : remI (i : Int) N = node) : rows0 zi N L K node (i + 1) = putK hOf ⟨(i : Int), 0, -1, wordsI zi L K i⟩ (rows0 zi N L K node i) := by
  rw [putK_last (fun q hq => (rows0_lt q hq).2)]
  unfold rows0
  rw [List.range_succ, List.filter_append, List.map_append]
  simp [h]
theorem rows0_skip {zi : List Int} {N L K : Nat} {node : Int} {i : Nat} (h : remI (i : Int) N ≠ node) : rows0 zi N L K node (i + 1) = rows0 zi N L K node i := by
  unfold rows0
  rw [List.range_succ, List.filter_append, List.map_append]
  simp [h]
theorem mw_new {V : World} {bm : Nat} {N K : Int} (t : TypeId) (h : IM V bm []) : MW (V.alloc (.cells #[.int .i64 N, .int .i64 K, .map (some bm)] t)) V.heap.size bm (fun _ => False) N K [] := by
  have hl := h.lt
  exact ⟨by simp, by simp, by simp, by simp, by omega, h.below (ba (Below.refl _ _)), fun r hr => (by cases hr), List.Pairwise.nil, by simp, fun j h => h.elim, id, id⟩
theorem CB.keep {F : Nat → Prop} {w w' : World} {g : Nat} {N L K S Y O I : Nat} {t : Value} (h : CB w g N L K S Y O I t) (hk : Keep F w w') (hF : ¬ F g) : CB w' g N L K S Y O I t :=
  have e := fun o => hk.cell (b := g) o h.lt hF
  ⟨(e _).trans h.c0, (e _).trans h.c1, (e _).trans h.c2, (e _).trans h.c3, (e _).trans h.c4, (e _).trans h.c5, (e _).trans h.c6, (e _).trans h.c7, Nat.lt_of_lt_of_le h.lt hk.size⟩
set_option maxHeartbeats 1000000 in
theorem mnew_any (N L K S Y O I : Nat) (a : Option Addr) (nv cv : Nat) (zi : List Int) (node : Int) (w : World) (hsl : Sl w a nv cv zi) (hN0 : 1 ≤ N) (hN : N ≤ 6) (hL : L ≤ 8) (hK0 : 1 ≤ K) (hK : K ≤ 4) (hlen : nv ≤ 32) :
    Calls Try.prog 26 #[cfg N L K S Y O I (.slice a nv cv), .int .i64 node] w fun e w' => ∃ g b D R, e = .returned (.pointer (some ⟨g, 0, none⟩)) ∧ Below w.heap.size w w' ∧
      MW w' g b D N K R ∧ R.map Prod.fst = rows0 zi N L K node L ∧ w.heap.size ≤ g ∧ w.heap.size ≤ b ∧ ∀ j, D j → w.heap.size ≤ j := by
  have hmm := @run_makeMap Try.prog
  have c1 := CB.made w N L K S Y O I (.slice a nv cv)
  have i1 := im_made (w.alloc (.cells #[.int .i64 (N : Int), .int .i64 (L : Int), .int .i64 (K : Int), .int .i64 (S : Int), .int .i64 (Y : Int), .int .i64 (O : Int), .int .i64 (I : Int), .slice a nv cv] 26))
  rw [show (w.alloc (.cells #[.int .i64 (N : Int), .int .i64 (L : Int), .int .i64 (K : Int), .int .i64 (S : Int), .int .i64 (Y : Int), .int .i64 (O : Int), .int .i64 (I : Int), .slice a nv cv] 26)).heap.size = w.heap.size + 1 by simp] at i1
  have b1 : Below w.heap.size w (w.alloc (.cells #[.int .i64 (N : Int), .int .i64 (L : Int), .int .i64 (K : Int), .int .i64 (S : Int), .int .i64 (Y : Int), .int .i64 (O : Int), .int .i64 (I : Int), .slice a nv cv] 26)) := ba (Below.refl _ _)
  unfold cfg
  go_enter Try.func26, Try.ntmps26
  go_wp2_with fail
  have c2 := c1.below (ba (o := .map #[] 0) (Below.refl _ _))
  have c3 := c2.below (ba (o := .cells #[.int .i64 (N : Int), .int .i64 (K : Int), .map (some (w.heap.size + 1))] 101) (Below.refl _ _))
  have b3 := ba (o := .cells #[.int .i64 (N : Int), .int .i64 (K : Int), .map (some (w.heap.size + 1))] 101) (ba (o := .map #[] 0) b1)
  have M3 := mw_new (N := N) (K := K) 101 i1
  rw [show ((w.alloc (.cells #[.int .i64 (N : Int), .int .i64 (L : Int), .int .i64 (K : Int), .int .i64 (S : Int), .int .i64 (Y : Int), .int .i64 (O : Int), .int .i64 (I : Int), .slice a nv cv] 26)).alloc (.map #[] 0)).heap.size = w.heap.size + 1 + 1 by simp] at M3
  clear c1 c2 i1 b1 hmm
  generalize hV : ((w.alloc (.cells #[.int .i64 (N : Int), .int .i64 (L : Int), .int .i64 (K : Int), .int .i64 (S : Int), .int .i64 (Y : Int), .int .i64 (O : Int), .int .i64 (I : Int), .slice a nv cv] 26)).alloc (.map #[] 0)).alloc (.cells #[.int .i64 (N : Int), .int .i64 (K : Int), .map (some (w.heap.size + 1))] 101) = V at *
  clear hV
  have HS : Hid (w.heap.size ≤ w.heap.size + 1) := Nat.le_succ _
  obtain ⟨gc, hgc⟩ : ∃ gc, gc = w.heap.size := ⟨_, rfl⟩
  obtain ⟨gm, hgm⟩ : ∃ gm, gm = w.heap.size + 1 := ⟨_, rfl⟩
  rw [← hgc] at c3
  rw [← hgm] at M3
  simp only [← hgm]
  rw [show (⟨w.heap.size, 0, none⟩ : Addr) = ⟨gc, 0, none⟩ by rw [hgc]]
  have HG : Hid (gc = w.heap.size ∧ gm = w.heap.size + 1) := ⟨hgc, hgm⟩
  clear HS hgc hgm
  go_loopw [16, 6] (fun v16 v6 wr => ∃ (i : Nat) (D : Nat → Prop) (R : List (Hr × Value)), v16 = .int .i64 (i : Int) ∧ i ≤ L ∧ Below w.heap.size w wr ∧ MW wr (gm + 1) gm D N K R ∧ R.map Prod.fst = rows0 zi N L K node i ∧ (∀ j, D j → w.heap.size ≤ j) ∧ CB wr gc N L K S Y O I (.slice a nv cv)) (fun v16 _ _ => L - (intOf v16).toNat)
  case atStart => exact ⟨0, _, [], rfl, by omega, b3, M3, rfl, fun _ h => h.elim, c3⟩
  case round =>
    clear b3 M3 c3
    obtain ⟨i, D, R, rfl, hi, hb, M, hR, hD, hc⟩ := hrel
    obtain ⟨z0, z1, z2, z3, z4, z5, z6, z7, zlt⟩ := hc
    have hc : CB wr gc N L K S Y O I (.slice a nv cv) := ⟨z0, z1, z2, z3, z4, z5, z6, z7, zlt⟩
    by_cases hlt : i < L
    · have hlt' : (i : Int) < (L : Int) := by omega
      by_cases hn : remI (i : Int) N = node
      · have hn' : (remI (i : Int) N == node) = true := by simp [hn]
        go_upto_region 6 with (go_at_call 50; refine (homeOf_any _ _ _ _ _ _ _ _ _ _ (by omega) (by omega)).mono ?_; rintro e w1 ⟨rfl, hb1⟩)
        clear z0 z1 z2 z3 z4 z5 z6 z7 zlt
        have hb2' := next hb hb1
        have M1 := M.below hb1
        have c1 := hc.below hb1
        have HM : Hid (MW wr (gm + 1) gm D N K R) := M
        refine wp_region_orders 10 rfl (by kernel_rfl) ?_
        have Bd : Below w1.heap.size w1 w1.drew := (Below.refl _ _).drew
        have M2 := M1.below Bd
        have c2 := c1.below Bd
        have hb2 := next hb2' Bd
        clear M1 c1 hb2' hb1 Bd M hc hb
        generalize w1.drew = w2 at *
        clear w1
        have s2 := hsl.below hb2
        have hI : (fun V => V.cell? ⟨gm + 1, 2, none⟩ = some (.map (some gm)) ∧ V.cell? ⟨gc, 0, none⟩ = some (.int .i64 (N : Int)) ∧ V.cell? ⟨gc, 1, none⟩ = some (.int .i64 (L : Int)) ∧ V.cell? ⟨gc, 2, none⟩ = some (.int .i64 (K : Int)) ∧ V.cell? ⟨gc, 3, none⟩ = some (.int .i64 (S : Int)) ∧ V.cell? ⟨gc, 4, none⟩ = some (.int .i64 (Y : Int)) ∧ V.cell? ⟨gc, 5, none⟩ = some (.int .i64 (O : Int)) ∧ V.cell? ⟨gc, 6, none⟩ = some (.int .i64 (I : Int)) ∧ V.cell? ⟨gc, 7, none⟩ = some (.slice a nv cv)) w2 := ⟨M2.c2, c2.c0, c2.c1, c2.c2, c2.c3, c2.c4, c2.c5, c2.c6, c2.c7⟩
        refine any_inv (fun V => V.cell? ⟨gm + 1, 2, none⟩ = some (.map (some gm)) ∧ V.cell? ⟨gc, 0, none⟩ = some (.int .i64 (N : Int)) ∧ V.cell? ⟨gc, 1, none⟩ = some (.int .i64 (L : Int)) ∧ V.cell? ⟨gc, 2, none⟩ = some (.int .i64 (K : Int)) ∧ V.cell? ⟨gc, 3, none⟩ = some (.int .i64 (S : Int)) ∧ V.cell? ⟨gc, 4, none⟩ = some (.int .i64 (Y : Int)) ∧ V.cell? ⟨gc, 5, none⟩ = some (.int .i64 (O : Int)) ∧ V.cell? ⟨gc, 6, none⟩ = some (.int .i64 (I : Int)) ∧ V.cell? ⟨gc, 7, none⟩ = some (.slice a nv cv)) [9] hI ?_
        refine inv_take (v := ?v1) [1, 2, 3, 9] 0 hI rfl (by kernel_rfl) (by kernel_rfl) (by kernel_rfl) (by kernel_rfl) (by kernel_rfl) (fun _ _ _ h => h) (by kernel_rfl) (fun V hV => ?hy1) ?go1
        case hy1 => (obtain ⟨z, z0, z1, z2, z3, z4, z5, z6, z7⟩ := hV; go_simp <;> rfl)
        simp only [Act.put, List.setIfInBounds_toArray, List.set_cons_zero, List.set_cons_succ]
        refine inv_take (v := ?v2) [2, 3, 9] 1 hI rfl (by kernel_rfl) (by kernel_rfl) (by kernel_rfl) (by kernel_rfl) (by kernel_rfl) (fun _ _ _ h => h) (by kernel_rfl) (fun V hV => ?hy2) ?go2
        case hy2 => (obtain ⟨z, z0, z1, z2, z3, z4, z5, z6, z7⟩ := hV; go_simp <;> rfl)
        simp only [Act.put, List.setIfInBounds_toArray, List.set_cons_zero, List.set_cons_succ]
        refine inv_take (v := ?v3) [3, 9] 2 hI rfl (by kernel_rfl) (by kernel_rfl) (by kernel_rfl) (by kernel_rfl) (by kernel_rfl) (fun _ _ _ h => h) (by kernel_rfl) (fun V hV => ?hy3) ?go3
        case hy3 => (obtain ⟨z, z0, z1, z2, z3, z4, z5, z6, z7⟩ := hV; go_simp <;> rfl)
        simp only [Act.put, List.setIfInBounds_toArray, List.set_cons_zero, List.set_cons_succ]
        refine inv_take (v := ?v4) [9] 3 hI rfl (by kernel_rfl) (by kernel_rfl) (by kernel_rfl) (by kernel_rfl) (by kernel_rfl) (fun _ _ _ h => h) (by kernel_rfl) (fun V hV => ?hy4) ?go4
        case hy4 => (obtain ⟨z, z0, z1, z2, z3, z4, z5, z6, z7⟩ := hV; go_simp <;> rfl)
        simp only [Act.put, List.setIfInBounds_toArray, List.set_cons_zero, List.set_cons_succ]
        refine inv_take (v := ?v5) [9] 4 hI rfl (by kernel_rfl) (by kernel_rfl) (by kernel_rfl) (by kernel_rfl) (by kernel_rfl) (fun _ _ _ h => h) (by kernel_rfl) (fun V hV => ?hy5) ?go5
        case hy5 => (obtain ⟨z, z0, z1, z2, z3, z4, z5, z6, z7⟩ := hV; go_simp <;> rfl)
        simp only [Act.put, List.setIfInBounds_toArray, List.set_cons_zero, List.set_cons_succ]
        refine inv_take (v := ?v6) [7, 8, 9] 5 hI rfl (by kernel_rfl) (by kernel_rfl) (by kernel_rfl) (by kernel_rfl) (by kernel_rfl) (fun _ _ _ h => h) (by kernel_rfl) (fun V hV => ?hy6) ?go6
        case hy6 => (obtain ⟨z, z0, z1, z2, z3, z4, z5, z6, z7⟩ := hV; go_simp <;> rfl)
        simp only [Act.put, List.setIfInBounds_toArray, List.set_cons_zero, List.set_cons_succ]
        refine inv_take (v := ?v7) [7, 8, 9] 6 hI rfl (by kernel_rfl) (by kernel_rfl) (by kernel_rfl) (by kernel_rfl) (by kernel_rfl) (fun _ _ _ h => h) (by kernel_rfl) (fun V hV => ?hy7) ?go7
        case hy7 => (obtain ⟨z, z0, z1, z2, z3, z4, z5, z6, z7⟩ := hV; go_simp <;> rfl)
        simp only [Act.put, List.setIfInBounds_toArray, List.set_cons_zero, List.set_cons_succ]
        obtain ⟨n3, hn3⟩ : ∃ n, (wordsI zi L K (i : Int)).length = n := ⟨_, rfl⟩
        have HN3 : Hid ((wordsI zi L K (i : Int)).length = n3) := hn3
        clear hn3
        refine inv_list 7 (by kernel_rfl) rfl ?_
        clear hI
        go_wp2_with (go_at_call 51; refine (words_any N L K S Y O I a nv cv zi i _ s2 (by omega) hK0 (by omega) hlen).mono ?_; rintro e w3 ⟨v3, rfl, own3, hb3⟩; obtain ⟨a3, k3, rfl, _⟩ := own3.sl' HN3.out)
        have M3 := M2.below hb3
        have c3 := c2.below hb3
        have hb4 := next hb2 hb3
        have HB2 : Hid (∀ j, w2.heap.size ≤ j → w.heap.size ≤ j ∧ j ≠ gm + 1 ∧ j ≠ gm) := fun j hj => by
          have h1 := hb2.size
          have h2 := M2.lt
          exact ⟨by omega, by omega, by omega⟩
        have hI : (fun V => V.cell? ⟨gm + 1, 2, none⟩ = some (.map (some gm)) ∧ V.cell? ⟨gc, 0, none⟩ = some (.int .i64 (N : Int)) ∧ V.cell? ⟨gc, 1, none⟩ = some (.int .i64 (L : Int)) ∧ V.cell? ⟨gc, 2, none⟩ = some (.int .i64 (K : Int)) ∧ V.cell? ⟨gc, 3, none⟩ = some (.int .i64 (S : Int)) ∧ V.cell? ⟨gc, 4, none⟩ = some (.int .i64 (Y : Int)) ∧ V.cell? ⟨gc, 5, none⟩ = some (.int .i64 (O : Int)) ∧ V.cell? ⟨gc, 6, none⟩ = some (.int .i64 (I : Int)) ∧ V.cell? ⟨gc, 7, none⟩ = some (.slice a nv cv)) w3 := ⟨M3.c2, c3.c0, c3.c1, c3.c2, c3.c3, c3.c4, c3.c5, c3.c6, c3.c7⟩
        refine then_n ⟨hI, ?_⟩
        refine inv_take (v := ?v8) [9] 8 hI rfl (by kernel_rfl) (by kernel_rfl) (by kernel_rfl) (by kernel_rfl) (by kernel_rfl) (fun _ _ _ h => h) (by kernel_rfl) (fun V hV => ?hy8) ?go8
        case hy8 => (obtain ⟨z, z0, z1, z2, z3, z4, z5, z6, z7⟩ := hV; go_simp <;> rfl)
        simp only [Act.put, List.setIfInBounds_toArray, List.set_cons_zero, List.set_cons_succ]
        have hRl : R.length ≤ i := by
          have := congrArg List.length hR
          rw [List.length_map] at this
          rw [this]
          exact rows0_len
        have hlen1 : (putK hKey ((⟨(i : Int), 0, -1, wordsI zi L K i⟩ : Hr), .slice a3 n3 k3) R).length ≤ 1000 := by
          have := putK_len (key := hKey) ((⟨(i : Int), 0, -1, wordsI zi L K i⟩ : Hr), .slice a3 n3 k3) R
          omega
        have hw4 : (wordsI zi L K (i : Int)).length ≤ 17592186044416 := by
          unfold wordsI
          split
          · simp; omega
          · simp
        obtain ⟨w9, hrun9, MN, K9, s9⟩ := M3.store (E := fun j => w2.heap.size ≤ j ∧ j < w3.heap.size) (r := ((⟨(i : Int), 0, -1, wordsI zi L K i⟩ : Hr), .slice a3 n3 k3)) hlen1 (by unfold In64; simp; omega) ((datz_own own3 hw4).imp (fun j hj h => ⟨h, hj⟩)) (fun j hj => ⟨hj.2, (HB2.out j hj.1).2⟩)
        have c9 := c3.keep K9 (fun e => by have := HG.out; omega)
        have hb9 : Below w.heap.size w w9 := K9.after hb4 (fun j hj => by have := HG.out; omega)
        refine inv_write 9 (by kernel_rfl) (by kernel_rfl) rfl ?_
        clear hI K9 s9 M3 c3 c2 M2 hb2 hb3 hb4 own3 s2
        go_wp2_with fail
        refine then_n ?_
        refine any_done (by kernel_rfl) ?_
        clear hrun9
        go_wp2_with fail
        go_roundw
        case rel => exact ⟨i + 1, _, _, by go_num, by omega, hb9, MN, by rw [map_putK (key := hKey) (key' := hOf) (fun _ => rfl), hR, rows0_put hn], fun j hj => hj.elim (hD j) (fun h => (HB2.out j h.1).1), c9⟩
        case measure => simp [intOf]; omega
      · have hn' : (remI (i : Int) N == node) = false := by simp [hn]
        go_wp2_with (go_at_call 50; refine (homeOf_any _ _ _ _ _ _ _ _ _ _ (by omega) (by omega)).mono ?_; rintro e w1 ⟨rfl, hb1⟩)
        go_roundw
        case rel => exact ⟨i + 1, D, R, by go_num, by omega, next hb hb1, M.below hb1, by rw [hR, rows0_skip hn], hD, hc.below hb1⟩
        case measure => simp [intOf]; omega
    · obtain rfl : i = L := by omega
      go_wp2_with fail
      go_ret
      exact ⟨_, _, D, R, rfl, hb, M, hR, by have := HG.out; omega, by have := HG.out; omega, hD⟩
end Go.Proofs.Ytgeiagndpfdnlaa
end
section
namespace Go.Proofs.Ytgeiagndpfdnlaa
open Go.Shelf
set_option linter.unusedVariables false
def Try.sortA_ren : Go.Shelf.Ren := ⟨fun | 5 => 60 | 8 => 71 | 7 => 70 | 19 => 81 | 20 => 82 | 10 => 72 | 11 => 73 | 12 => 74 | 13 => 75 | 14 => 76 | 15 => 77 | 16 => 78 | 17 => 79 | 18 => 80 | 30 => 83 | 31 => 84 | 32 => 85 | 33 => 86 | 34 => 87 | 35 => 88 | 40 => 89 | n => n, fun | 23 => 22 | 25 => 3 | 3 => 3 | 32 => 115 | 22 => 22 | 0 => 0 | 44 => 124 | 46 => 126 | 4 => 4 | 36 => 118 | 35 => 117 | 41 => 73 | 5 => 5 | 9 => 9 | 53 => 127 | 57 => 131 | 63 => 133 | 64 => 134 | n => n, fun | n => n⟩
theorem Try.sortA : Go.Proofs.SlLaysM.n5 Try.prog Try.sortA_ren := {
  mixed := by kernel_rfl
  f5 := ⟨Try.f60.name, by decide, Try.func60.trans (congrArg some (by kernel_rfl))⟩
  f7 := ⟨Try.f70.name, by decide, Try.func70.trans (congrArg some (by kernel_rfl))⟩
  f8 := Try.func71.trans (congrArg some (by kernel_rfl))
  f10 := ⟨Try.f72.name, by decide, Try.func72.trans (congrArg some (by kernel_rfl))⟩
  f11 := ⟨Try.f73.name, by decide, Try.func73.trans (congrArg some (by kernel_rfl))⟩
  f12 := ⟨Try.f74.name, by decide, Try.func74.trans (congrArg some (by kernel_rfl))⟩
  f13 := ⟨Try.f75.name, by decide, Try.func75.trans (congrArg some (by kernel_rfl))⟩
  f14 := ⟨Try.f76.name, by decide, Try.func76.trans (congrArg some (by kernel_rfl))⟩
  f15 := ⟨Try.f77.name, by decide, Try.func77.trans (congrArg some (by kernel_rfl))⟩
  f16 := ⟨Try.f78.name, by decide, Try.func78.trans (congrArg some (by kernel_rfl))⟩
  f17 := ⟨Try.f79.name, by decide, Try.func79.trans (congrArg some (by kernel_rfl))⟩
  f18 := ⟨Try.f80.name, by decide, Try.func80.trans (congrArg some (by kernel_rfl))⟩
  f19 := Try.func81.trans (congrArg some (by kernel_rfl))
  f20 := Try.func82.trans (congrArg some (by kernel_rfl))
  f30 := ⟨Try.f83.name, by decide, Try.func83.trans (congrArg some (by kernel_rfl))⟩
  f31 := Try.func84.trans (congrArg some (by kernel_rfl))
  f32 := Try.func85.trans (congrArg some (by kernel_rfl))
  f33 := ⟨Try.f86.name, by decide, Try.func86.trans (congrArg some (by kernel_rfl))⟩
  f34 := ⟨Try.f87.name, by decide, Try.func87.trans (congrArg some (by kernel_rfl))⟩
  f35 := ⟨Try.f88.name, by decide, Try.func88.trans (congrArg some (by kernel_rfl))⟩
  f40 := ⟨Try.f89.name, by decide, Try.func89.trans (congrArg some (by kernel_rfl))⟩
  t0 := Try.underlying0
  a0 := Try.isAgg0
  z0 := Try.sizeOf0
  v0 := Try.zeroValue0
  t3 := Try.underlying3
  a3 := Try.isAgg3
  z3 := Try.sizeOf3
  v3 := Try.zeroValue3
  t4 := Try.underlying4
  a4 := Try.isAgg4
  z4 := Try.sizeOf4
  v4 := Try.zeroValue4
  t5 := Try.underlying5
  a5 := Try.isAgg5
  z5 := Try.sizeOf5
  v5 := Try.zeroValue5
  t9 := Try.underlying9
  a9 := Try.isAgg9
  z9 := Try.sizeOf9
  v9 := Try.zeroValue9
  t22 := Try.underlying22
  a22 := Try.isAgg22
  z22 := Try.sizeOf22
  v22 := Try.zeroValue22
  t23 := Try.underlying22
  a23 := Try.isAgg22
  z23 := Try.sizeOf22
  v23 := Try.zeroValue22
  t25 := Try.underlying3
  a25 := Try.isAgg3
  z25 := Try.sizeOf3
  v25 := Try.zeroValue3
  t32 := Try.underlying115
  a32 := Try.isAgg115
  z32 := Try.sizeOf115
  v32 := Try.zeroValue115
  t35 := Try.underlying117
  a35 := Try.isAgg117
  z35 := Try.sizeOf117
  v35 := Try.zeroValue117
  t36 := Try.underlying118
  a36 := Try.isAgg118
  z36 := Try.sizeOf118
  v36 := Try.zeroValue118
  t41 := Try.underlying73
  a41 := Try.isAgg73
  z41 := Try.sizeOf73
  v41 := Try.zeroValue73
  t44 := Try.underlying124
  a44 := Try.isAgg124
  z44 := Try.sizeOf124
  v44 := Try.zeroValue124
  t46 := Try.underlying126
  a46 := Try.isAgg126
  z46 := Try.sizeOf126
  v46 := Try.zeroValue126
  t53 := Try.underlying127
  a53 := Try.isAgg127
  z53 := Try.sizeOf127
  v53 := Try.zeroValue127
  t57 := Try.underlying131
  a57 := Try.isAgg131
  z57 := Try.sizeOf131
  v57 := Try.zeroValue131
  t63 := Try.underlying133
  a63 := Try.isAgg133
  z63 := Try.sizeOf133
  v63 := Try.zeroValue133
  t64 := Try.underlying134
  a64 := Try.isAgg134
  z64 := Try.sizeOf134
  v64 := Try.zeroValue134 }
end Go.Proofs.Ytgeiagndpfdnlaa
end
section
namespace Go.Proofs.Ytgeiagndpfdnlaa
open Go.RowKit Go.Maps Go.Sort Go.Shelf
set_option linter.unusedVariables false
set_option maxRecDepth 20000

theorem idx_from {x : Int} : ∀ (l : List Int) (k j : Nat), l[k]? = some x → (∀ i, i < k → l[i]? ≠ some x) → Lib.idxByFrom (fun a b : Int => a == b) x l j = ((j + k : Nat) : Int)
  | [], k, j, h, _ => by simp at h
  | y :: l, 0, j, h, _ => by
    simp at h
    subst h
    simp [Lib.idxByFrom]
  | y :: l, k + 1, j, h, hn => by
    have h0 : y ≠ x := fun e => hn 0 (by omega) (by simp [e])
    have ih := idx_from l k (j + 1) (by simpa using h) (fun i hi e => hn (i + 1) (by omega) (by simpa using e))
    simp only [Lib.idxByFrom, show (x == y) = false from by simp [Ne.symm h0], ih]
    simp
    omega
theorem Try.intI : ∃ i0, Try.prog.info? 3 = some i0 ∧ i0.size = 1 := by
  obtain ⟨i0, hi, hz0, hz1, hz2⟩ := info_parts Try.infoInt
  exact ⟨i0, hi, hz1⟩
theorem merge_rise {ss : List Int} {l : List Int} (hp : ss.Perm l) (hl : l.Pairwise (· < ·)) : ss.mergeSort (fun x y => decide (x ≤ y)) = l := by
  refine List.Perm.eq_of_pairwise (le := fun a b : Int => a ≤ b) (fun a b _ _ h1 h2 => by omega) ?_ (hl.imp (fun h => by omega)) ((List.mergeSort_perm ss _).trans hp)
  have := List.pairwise_mergeSort (le := fun x y : Int => decide (x ≤ y)) (fun a b c h1 h2 => by simp at *; omega) (fun a b => by simp; omega) ss
  exact this.imp (fun h => by simpa using h)
theorem keys_pairs (l : List (Int × Value)) : intKeys (DataW.map (pairsD l)) = l.map Prod.fst := by
  simp only [intKeys, pairsD, List.map_map]
  rfl
end Go.Proofs.Ytgeiagndpfdnlaa
end
section
namespace Go.Proofs.Ytgeiagndpfdnlaa
open Go.RowKit Go.Maps Go.Sort Go.Shelf
set_option linter.unusedVariables false
set_option maxRecDepth 20000

end Go.Proofs.Ytgeiagndpfdnlaa
end
section
namespace Go.Proofs.Ytgeiagndpfdnlaa
open Go.RowKit Go.Maps
set_option linter.unusedVariables false
set_option maxRecDepth 20000

/-- What Set answers, and what is known then. -/
def setR (N K : Int) (L : List Hr) (l s h : Int) (z : List Int) : Int × List Hr :=
  if hasH L l = true then (if setOk N K s h z.length = true then (0, putK hOf ⟨l, s, h, if z = [] then (rowL L l).z else z⟩ L) else (1, L)) else (3, L)
section
variable {w wx wy : World} {g : Nat} {X Y F : Nat → Prop} {N K : Int} {L : List Hr}
theorem mo_new {wx : World} (N L K S Y O I : Nat) (a : Option Addr) (nv cv : Nat) (zi : List Int) (node : Int) (hb : Below w.heap.size w wx) (hX : ∀ j, X j → j < wx.heap.size) (hsl : Sl wx a nv cv zi) (hN0 : 1 ≤ N) (hN : N ≤ 6) (hL : L ≤ 8) (hK0 : 1 ≤ K) (hK : K ≤ 4) (hlen : nv ≤ 32) :
    Calls Try.prog 26 #[cfg N L K S Y O I (.slice a nv cv), .int .i64 node] wx fun e w' => ∃ g, e = .returned (.pointer (some ⟨g, 0, none⟩)) ∧ Below wx.heap.size wx w' ∧ MO w w' g X N K (rows0 zi N L K node L) := by
  refine (mnew_any N L K S Y O I a nv cv zi node wx hsl hN0 hN hL hK0 hK hlen).mono ?_
  rintro e w' ⟨g, b, D, R, rfl, hb1, M, hR, hg, hbb, hD⟩
  have hs := hb.size
  have n : ∀ j, wx.heap.size ≤ j → NX w X j := fun j hj => ⟨by omega, fun hx => by have := hX j hx; omega⟩
  refine ⟨g, rfl, hb1, next hb hb1, ⟨b, D, R, M, hR, n g hg, n b hbb, fun j hj => n j (hD j hj)⟩, fun j hj => Nat.lt_of_lt_of_le (hX j hj) hb1.size, fun x hx => ?_, by omega⟩
  obtain ⟨l, hl, rfl⟩ := List.mem_map.1 hx
  have := (List.mem_filter.1 hl).1
  rw [List.mem_range] at this
  show ((wordsI zi L K (l : Int)).length : Int) = K
  rw [wordsI_in this]
  simp
theorem mo_full (h : MO w wx g X N K L) : ∀ x ∈ L, x.z ≠ [] := fun x hx e => by
  have h1 := h.zl x hx
  have h2 := h.k1
  rw [e] at h1
  simp at h1
  omega
theorem mo_row (h : MO w wx g X N K L) {n : Int} (hn : In64 n) : Calls Try.prog 45 #[.pointer (some ⟨g, 0, none⟩), .int .i64 n] wx fun e w' =>
    ∃ a cap, e = .returned (.tuple #[(rowL L n).val (.slice a (rowL L n).z.length cap), .bool (hasH L n)]) ∧ Own w' wx.heap.size (.slice a (rowL L n).z.length cap) (rowL L n).z ∧ Below wx.heap.size wx w' := by
  have hf := mo_full h
  obtain ⟨b, D, R, M, rfl, _⟩ := h.c
  have := MW.row_any M (fun r hr => hf r.1 (List.mem_map_of_mem hr)) hn
  rw [rowL_eq, hasH_eq] at this
  exact this
theorem mo_done {b : Nat} {D D' : Nat → Prop} {R' : List (Hr × Value)} {L' : List Hr} (h : MO w wx g X N K L) (hk : Keep (fun j => j = b) wx wy) (hb : NX w X b) (hg : NX w X g) (hD : ∀ j, D j → NX w X j) (hD' : ∀ j, D' j → D j ∨ wx.heap.size ≤ j) (M : MW wy g b D' N K R') (e : R'.map Prod.fst = L') (hz : ∀ x ∈ L', (x.z.length : Int) = K) :
    Keep (NX w X) wx wy ∧ MO w wy g X N K L' := by
  have hs := h.bel.size
  refine ⟨hk.mono (fun j _ e => e ▸ hb), h.bel.trans (hk.below (fun j e => e ▸ hb.1) hs), ⟨b, D', R', M, e, hg, hb, fun j hj => (hD' j hj).elim (hD j) (fun hn => ⟨by omega, fun hx => by have := h.xl j hx; omega⟩)⟩, fun j hj => Nat.lt_of_lt_of_le (h.xl j hj) hk.size, hz, h.k1⟩
theorem hasH_mem {L : List Hr} {n : Int} (h : hasH L n = true) : rowL L n ∈ L ∧ (rowL L n).n = n := by
  unfold hasH at h
  unfold rowL
  cases hg : getK hOf n L with
  | none => rw [hg] at h; cases h
  | some e => exact getK_some hg
theorem mo_set (h : MO w wx g X N K L) {l : Int} (hl : In64 l) (s hd : Int) (a : Option Addr) (n cap : Nat) (z : List Int) (hs : Sl wx a n cap z) (hb : n ≤ 17592186044416) :
    Calls Try.prog 55 #[.pointer (some ⟨g, 0, none⟩), .int .i64 l, .int .i64 s, .int .i64 hd, .slice a n cap] wx fun e w' => e = .returned (.int .i64 (setR N K L l s hd z).1) ∧ Keep (NX w X) wx w' ∧ MO w w' g X N K (setR N K L l s hd z).2 := by
  have h0 := h
  obtain ⟨b, D, R, M, e, hg, hbb, hD⟩ := h.c
  have hzn : z.length = n := hs.len
  unfold setR
  rw [hzn]
  cases hh : hasH L l with
  | false =>
    rw [if_neg (by simp)]
    refine (MW.set_none M hl (by rw [hasH_eq, e]; exact hh) s hd a n cap).mono ?_
    rintro en w' ⟨rfl, hb⟩
    exact ⟨rfl, Keep.of_below hb, h.below hb⟩
  | true =>
    rw [if_pos rfl]
    cases ho : setOk N K s hd n with
    | false =>
      rw [if_neg (by simp)]
      refine (MW.set_arg M hl (by rw [hasH_eq, e]; exact hh) s hd a n cap ho).mono ?_
      rintro en w' ⟨rfl, hb⟩
      exact ⟨rfl, Keep.of_below hb, h.below hb⟩
    | true =>
      rw [if_pos rfl]
      obtain ⟨m1, m2⟩ := hasH_mem hh
      by_cases h00 : n = 0
      · have hz0 : z = [] := List.eq_nil_of_length_eq_zero (by omega)
        rw [if_pos hz0]
        refine (MW.set_keep M hl (by rw [hasH_eq, e]; exact hh) s hd a n cap h00 ho).mono ?_
        rintro en w' ⟨rfl, hk, D', d, hD', M'⟩
        rw [rowL_eq, e] at M'
        obtain ⟨k1, k2⟩ := mo_done h hk hbb hg hD hD' M' (by rw [map_putK (key := hKey) (key' := hOf) (fun _ => rfl), e]) (fun x hx => by
          rcases mem_putK.1 hx with rfl | ⟨hx, _⟩
          · exact h.zl (rowL L l) m1
          · exact h.zl x hx)
        exact ⟨rfl, k1, k2⟩
      · have hz0 : z ≠ [] := fun e => by rw [e] at hzn; simp at hzn; omega
        rw [if_neg hz0]
        have hnK : (n : Int) = K := by
          unfold setOk at ho
          simp only [Bool.and_eq_true] at ho
          exact (of_decide_eq_true ho.2).resolve_left h00
        refine (MW.set_full M hl (by rw [hasH_eq, e]; exact hh) s hd a n cap z hs (by omega) hb ho).mono ?_
        rintro en w' ⟨rfl, hk, D', d, hD', M'⟩
        obtain ⟨k1, k2⟩ := mo_done h hk hbb hg hD hD' M' (by rw [map_putK (key := hKey) (key' := hOf) (fun _ => rfl), e]) (fun x hx => by
          rcases mem_putK.1 hx with rfl | ⟨hx, _⟩
          · show (z.length : Int) = K; omega
          · exact h.zl x hx)
        exact ⟨rfl, k1, k2⟩
end
end Go.Proofs.Ytgeiagndpfdnlaa
end
section
namespace Go.Proofs.Ytgeiagndpfdnlaa
open Go.RowKit Go.Maps
set_option linter.unusedVariables false
set_option maxRecDepth 20000

section
variable {w wx wy : World} {g : Nat} {X Y F : Nat → Prop} {N K : Int} {L : List Hr}
/-- A row that is not here. -/
theorem mo_row_no (h : MO w wx g X N K L) {n : Int} (hn : In64 n) (hh : hasH L n = false) : Calls Try.prog 45 #[.pointer (some ⟨g, 0, none⟩), .int .i64 n] wx fun e w' =>
    ∃ a cap, e = .returned (.tuple #[.agg #[.int .i64 0, .int .i64 0, .slice a 0 cap], .bool false]) ∧ Below wx.heap.size wx w' := by
  refine (mo_row h hn).mono ?_
  rintro e w' ⟨a, cap, rfl, own, hb⟩
  have hr : rowL L n = zeroHr := by
    unfold hasH at hh
    unfold rowL
    cases hg : getK hOf n L with
    | none => rfl
    | some e => rw [hg] at hh; cases hh
  rw [hr, hh]
  exact ⟨a, cap, rfl, hb⟩
/-- A row that is here. -/
theorem mo_row_at (h : MO w wx g X N K L) {n s hd : Int} {z : List Int} {m : Nat} (hn : In64 n) (hh : getK hOf n L = some ⟨n, s, hd, z⟩) (hz : z.length = m) : Calls Try.prog 45 #[.pointer (some ⟨g, 0, none⟩), .int .i64 n] wx fun e w' =>
    ∃ a cap, e = .returned (.tuple #[.agg #[.int .i64 s, .int .i64 hd, .slice a m cap], .bool true]) ∧ Own w' wx.heap.size (.slice a m cap) z ∧ Below wx.heap.size wx w' := by
  subst hz
  have := mo_row h hn
  have h1 : rowL L n = ⟨n, s, hd, z⟩ := by unfold rowL; rw [hh]; rfl
  have h2 : hasH L n = true := by unfold hasH; rw [hh]; rfl
  rw [h1, h2] at this
  exact this
end
section
variable {w wx wy : World} {g : Nat} {X Y F : Nat → Prop} {N K : Int} {L : List Hr}
theorem mo_set_none (h : MO w wx g X N K L) {l : Int} (hl : In64 l) (hh : hasH L l = false) (s hd : Int) (a : Option Addr) (n cap : Nat) :
    Calls Try.prog 55 #[.pointer (some ⟨g, 0, none⟩), .int .i64 l, .int .i64 s, .int .i64 hd, .slice a n cap] wx fun e w' => e = .returned (.int .i64 3) ∧ Below wx.heap.size wx w' := by
  obtain ⟨b, D, R, M, rfl, _⟩ := h.c
  exact MW.set_none M hl (by rw [hasH_eq]; exact hh) s hd a n cap
theorem mo_set_arg (h : MO w wx g X N K L) {l : Int} (hl : In64 l) (hh : hasH L l = true) (s hd : Int) (a : Option Addr) (n cap : Nat) (ho : setOk N K s hd n = false) :
    Calls Try.prog 55 #[.pointer (some ⟨g, 0, none⟩), .int .i64 l, .int .i64 s, .int .i64 hd, .slice a n cap] wx fun e w' => e = .returned (.int .i64 1) ∧ Below wx.heap.size wx w' := by
  obtain ⟨b, D, R, M, rfl, _⟩ := h.c
  exact MW.set_arg M hl (by rw [hasH_eq]; exact hh) s hd a n cap ho
/-- A row that is set. -/
theorem mo_set_ok (h : MO w wx g X N K L) {l : Int} (hl : In64 l) (hh : hasH L l = true) (s hd : Int) (a : Option Addr) (n cap : Nat) (z : List Int) (hs : Sl wx a n cap z) (hb : n ≤ 17592186044416) (ho : setOk N K s hd n = true) :
    Calls Try.prog 55 #[.pointer (some ⟨g, 0, none⟩), .int .i64 l, .int .i64 s, .int .i64 hd, .slice a n cap] wx fun e w' => e = .returned (.int .i64 0) ∧ Keep (NX w X) wx w' ∧ MO w w' g X N K (putK hOf ⟨l, s, hd, if z = [] then (rowL L l).z else z⟩ L) := by
  have := mo_set h hl s hd a n cap z hs hb
  unfold setR at this
  rw [hs.len, if_pos hh, if_pos ho] at this
  exact this
end
theorem rows0_rise {zi : List Int} {N L K : Nat} {node : Int} {i : Nat} : RiseK hOf (rows0 zi N L K node i) := by
  unfold RiseK rows0
  rw [List.pairwise_map]
  exact ((List.pairwise_lt_range (n := i)).sublist List.filter_sublist).imp (fun {a b} h => by show (a : Int) < (b : Int); omega)
theorem rows0_at {zi : List Int} {N L K : Nat} {node : Int} {i l : Nat} (hl : l < i) (hr : remI (l : Int) N = node) : getK hOf (l : Int) (rows0 zi N L K node i) = some ⟨(l : Int), 0, -1, wordsI zi L K l⟩ := by
  have hm : (⟨(l : Int), 0, -1, wordsI zi L K l⟩ : Hr) ∈ rows0 zi N L K node i := List.mem_map.2 ⟨l, List.mem_filter.2 ⟨List.mem_range.2 hl, decide_eq_true hr⟩, rfl⟩
  exact getK_mem (key := hOf) rows0_rise hm
theorem rows0_no {zi : List Int} {N L K : Nat} {node l : Int} {i : Nat} (h : l < 0 ∨ (i : Int) ≤ l ∨ remI l N ≠ node) : getK hOf l (rows0 zi N L K node i) = none := by
  refine getK_none.2 fun q hq e => ?_
  have hb := rows0_lt q hq
  obtain ⟨m, hm, rfl⟩ := List.mem_map.1 hq
  have h2 := of_decide_eq_true (List.mem_filter.1 hm).2
  simp only [hOf] at e
  subst e
  simp only at hb
  rcases h with h | h | h
  · omega
  · omega
  · exact h h2
theorem rows0_in {zi : List Int} {N L K : Nat} {node l : Int} {i : Nat} (h0 : 0 ≤ l) (h1 : l < (i : Int)) (hr : remI l N = node) : getK hOf l (rows0 zi N L K node i) = some ⟨l, 0, -1, wordsI zi L K l⟩ := by
  obtain ⟨m, rfl⟩ : ∃ m : Nat, l = m := ⟨l.toNat, by omega⟩
  exact rows0_at (by omega) hr
theorem hasH_some {L : List Hr} {n : Int} {r : Hr} (h : getK hOf n L = some r) : hasH L n = true := by unfold hasH; rw [h]; rfl
theorem hasH_none {L : List Hr} {n : Int} (h : getK hOf n L = none) : hasH L n = false := by unfold hasH; rw [h]; rfl
theorem putH_get {L : List Hr} (h : RiseK hOf L) (r : Hr) : getK hOf r.n (putK hOf r L) = some r := getK_mem (key := hOf) (rise_put h) (mem_putK.2 (.inl rfl))
theorem wk_new (w : World) : Calls Try.prog 26 #[.agg #[.int .i64 2, .int .i64 2, .int .i64 1, .int .i64 1, .int .i64 1, .int .i64 1, .int .i64 1, .slice none 0 0], .int .i64 0] w fun e w' =>
    ∃ g, e = .returned (.pointer (some ⟨g, 0, none⟩)) ∧ Below w.heap.size w w' ∧ MO w w' g (fun _ => False) 2 1 [⟨0, 0, -1, [0]⟩] := by
  have hr : rows0 [] 2 2 1 0 2 = [⟨0, 0, -1, [0]⟩] := by simp [rows0, remI, wordsI, List.range_succ]
  have := mo_new (w := w) (X := fun _ => False) 2 2 1 1 1 1 1 none 0 0 [] 0 (Below.refl _ _) (fun _ h => h.elim) (sl_nil _) (by omega) (by omega) (by omega) (by omega) (by omega) (by omega)
  rw [hr] at this
  exact this
theorem wk_has : hasH [⟨0, 0, -1, [0]⟩] 1 = false := by decide
theorem wk_get : getK hOf 0 [⟨0, 0, -1, [0]⟩] = some ⟨0, 0, -1, [0]⟩ := by simp [getK]
end Go.Proofs.Ytgeiagndpfdnlaa
end
