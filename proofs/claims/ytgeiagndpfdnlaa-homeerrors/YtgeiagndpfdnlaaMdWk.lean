/- Chapter 9's example: true, and only new memory. -/
import Derived.Test.YtgeiagndpfdnlaaMd5
namespace Go.Proofs.Ytgeiagndpfdnlaa
open Go.RowKit Go.Maps
set_option linter.unusedVariables false
set_option maxRecDepth 20000

section
variable {w wx wy : World} {g : Nat} {X Y F : Nat → Prop} {N K : Int} {L : List Hr}
/-- A row that is not here. -/
theorem mo_row_no (h : MO w wx g X N K L) {n : Int} (hn : In64 n) (hh : hasH L n = false) : Calls Try.prog 45 #[.pointer (some ⟨g, 0, none⟩), .int .i64 n] wx fun e w' =>
    ∃ a cap, e = .returned (.tuple #[.agg #[.int .i64 0, .int .i64 0, .slice a 0 cap], .bool false]) ∧ Below wx.heap.size wx w' := by
  refine (mo_row h hn).mono ?_
  rintro e w' ⟨a, cap, rfl, own, hb⟩
  have hr : rowL L n = zeroHr := by
    unfold hasH at hh
    unfold rowL
    cases hg : getK hOf n L with
    | none => rfl
    | some e => rw [hg] at hh; cases hh
  rw [hr, hh]
  exact ⟨a, cap, rfl, hb⟩
/-- A row that is here. -/
theorem mo_row_at (h : MO w wx g X N K L) {n s hd : Int} {z : List Int} {m : Nat} (hn : In64 n) (hh : getK hOf n L = some ⟨n, s, hd, z⟩) (hz : z.length = m) : Calls Try.prog 45 #[.pointer (some ⟨g, 0, none⟩), .int .i64 n] wx fun e w' =>
    ∃ a cap, e = .returned (.tuple #[.agg #[.int .i64 s, .int .i64 hd, .slice a m cap], .bool true]) ∧ Own w' wx.heap.size (.slice a m cap) z ∧ Below wx.heap.size wx w' := by
  subst hz
  have := mo_row h hn
  have h1 : rowL L n = ⟨n, s, hd, z⟩ := by unfold rowL; rw [hh]; rfl
  have h2 : hasH L n = true := by unfold hasH; rw [hh]; rfl
  rw [h1, h2] at this
  exact this
end
section
variable {w wx wy : World} {g : Nat} {X Y F : Nat → Prop} {N K : Int} {L : List Hr}
theorem mo_set_none (h : MO w wx g X N K L) {l : Int} (hl : In64 l) (hh : hasH L l = false) (s hd : Int) (a : Option Addr) (n cap : Nat) :
    Calls Try.prog 55 #[.pointer (some ⟨g, 0, none⟩), .int .i64 l, .int .i64 s, .int .i64 hd, .slice a n cap] wx fun e w' => e = .returned (.int .i64 3) ∧ Below wx.heap.size wx w' := by
  obtain ⟨b, D, R, M, rfl, _⟩ := h.c
  exact MW.set_none M hl (by rw [hasH_eq]; exact hh) s hd a n cap
theorem mo_set_arg (h : MO w wx g X N K L) {l : Int} (hl : In64 l) (hh : hasH L l = true) (s hd : Int) (a : Option Addr) (n cap : Nat) (ho : setOk N K s hd n = false) :
    Calls Try.prog 55 #[.pointer (some ⟨g, 0, none⟩), .int .i64 l, .int .i64 s, .int .i64 hd, .slice a n cap] wx fun e w' => e = .returned (.int .i64 1) ∧ Below wx.heap.size wx w' := by
  obtain ⟨b, D, R, M, rfl, _⟩ := h.c
  exact MW.set_arg M hl (by rw [hasH_eq]; exact hh) s hd a n cap ho
/-- A row that is set. -/
theorem mo_set_ok (h : MO w wx g X N K L) {l : Int} (hl : In64 l) (hh : hasH L l = true) (s hd : Int) (a : Option Addr) (n cap : Nat) (z : List Int) (hs : Sl wx a n cap z) (hb : n ≤ 17592186044416) (ho : setOk N K s hd n = true) :
    Calls Try.prog 55 #[.pointer (some ⟨g, 0, none⟩), .int .i64 l, .int .i64 s, .int .i64 hd, .slice a n cap] wx fun e w' => e = .returned (.int .i64 0) ∧ Keep (NX w X) wx w' ∧ MO w w' g X N K (putK hOf ⟨l, s, hd, if z = [] then (rowL L l).z else z⟩ L) := by
  have := mo_set h hl s hd a n cap z hs hb
  unfold setR at this
  rw [hs.len, if_pos hh, if_pos ho] at this
  exact this
end
theorem rows0_rise {zi : List Int} {N L K : Nat} {node : Int} {i : Nat} : RiseK hOf (rows0 zi N L K node i) := by
  unfold RiseK rows0
  rw [List.pairwise_map]
  exact ((List.pairwise_lt_range (n := i)).sublist List.filter_sublist).imp (fun {a b} h => by show (a : Int) < (b : Int); omega)
theorem rows0_at {zi : List Int} {N L K : Nat} {node : Int} {i l : Nat} (hl : l < i) (hr : remI (l : Int) N = node) : getK hOf (l : Int) (rows0 zi N L K node i) = some ⟨(l : Int), 0, -1, wordsI zi L K l⟩ := by
  have hm : (⟨(l : Int), 0, -1, wordsI zi L K l⟩ : Hr) ∈ rows0 zi N L K node i := List.mem_map.2 ⟨l, List.mem_filter.2 ⟨List.mem_range.2 hl, decide_eq_true hr⟩, rfl⟩
  exact getK_mem (key := hOf) rows0_rise hm
theorem rows0_no {zi : List Int} {N L K : Nat} {node l : Int} {i : Nat} (h : l < 0 ∨ (i : Int) ≤ l ∨ remI l N ≠ node) : getK hOf l (rows0 zi N L K node i) = none := by
  refine getK_none.2 fun q hq e => ?_
  have hb := rows0_lt q hq
  obtain ⟨m, hm, rfl⟩ := List.mem_map.1 hq
  have h2 := of_decide_eq_true (List.mem_filter.1 hm).2
  simp only [hOf] at e
  subst e
  simp only at hb
  rcases h with h | h | h
  · omega
  · omega
  · exact h h2
theorem rows0_in {zi : List Int} {N L K : Nat} {node l : Int} {i : Nat} (h0 : 0 ≤ l) (h1 : l < (i : Int)) (hr : remI l N = node) : getK hOf l (rows0 zi N L K node i) = some ⟨l, 0, -1, wordsI zi L K l⟩ := by
  obtain ⟨m, rfl⟩ : ∃ m : Nat, l = m := ⟨l.toNat, by omega⟩
  exact rows0_at (by omega) hr
theorem hasH_some {L : List Hr} {n : Int} {r : Hr} (h : getK hOf n L = some r) : hasH L n = true := by unfold hasH; rw [h]; rfl
theorem hasH_none {L : List Hr} {n : Int} (h : getK hOf n L = none) : hasH L n = false := by unfold hasH; rw [h]; rfl
theorem putH_get {L : List Hr} (h : RiseK hOf L) (r : Hr) : getK hOf r.n (putK hOf r L) = some r := getK_mem (key := hOf) (rise_put h) (mem_putK.2 (.inl rfl))
theorem wk_new (w : World) : Calls Try.prog 26 #[.agg #[.int .i64 2, .int .i64 2, .int .i64 1, .int .i64 1, .int .i64 1, .int .i64 1, .int .i64 1, .slice none 0 0], .int .i64 0] w fun e w' =>
    ∃ g, e = .returned (.pointer (some ⟨g, 0, none⟩)) ∧ Below w.heap.size w w' ∧ MO w w' g (fun _ => False) 2 1 [⟨0, 0, -1, [0]⟩] := by
  have hr : rows0 [] 2 2 1 0 2 = [⟨0, 0, -1, [0]⟩] := by simp [rows0, remI, wordsI, List.range_succ]
  have := mo_new (w := w) (X := fun _ => False) 2 2 1 1 1 1 1 none 0 0 [] 0 (Below.refl _ _) (fun _ h => h.elim) (sl_nil _) (by omega) (by omega) (by omega) (by omega) (by omega) (by omega)
  rw [hr] at this
  exact this
theorem wk_has : hasH [⟨0, 0, -1, [0]⟩] 1 = false := by decide
theorem wk_get : getK hOf 0 [⟨0, 0, -1, [0]⟩] = some ⟨0, 0, -1, [0]⟩ := by simp [getK]
end Go.Proofs.Ytgeiagndpfdnlaa
