/- TurnsReady on plain data: what a map of counts says of turns (RQ); the lines that are ready. Nothing of the program is named here. -/
import Derived.Test.YtnpgpnngpeedhaaTuWk
namespace Go.Proofs.Ytnpgpnngpeedhaa
open Go.RowKit Go.Maps
set_option linter.unusedVariables false

theorem at_put {C : List (Int × Value)} (h : RiseK Prod.fst C) (x : Int) (v z : Value) (k : Int) : atI k z (putK Prod.fst (x, v) C) = if k = x then v else atI k z C := by
  unfold atI
  by_cases e : k = x
  · subst e
    rw [if_pos rfl, show getK Prod.fst k (putK Prod.fst (k, v) C) = some (k, v) from getK_mem (rise_put h) (a := (k, v)) (mem_putK.2 (.inl rfl))]
  · rw [if_neg e]
    cases hg : getK Prod.fst k C with
    | none =>
      rw [getK_none.2 (fun q hq e2 => ?_)]
      rcases mem_putK.1 hq with rfl | ⟨hq, _⟩
      · exact e e2.symm
      · exact getK_none.1 hg q hq e2
    | some p =>
      obtain ⟨h1, h2⟩ := getK_some hg
      have := getK_mem (rise_put (r := (x, v)) h) (a := p) (mem_putK.2 (.inr ⟨h1, fun e3 => e (h2.symm.trans e3)⟩))
      rw [h2] at this
      rw [this]
/-- How often a line was asked for. -/
def cntT (own : Int → Int) (wt : Int → List (Int × Int)) (k : Int) : Int := if own k = -1 then 0 else (wt k).length + 1
structure RQ (n : Nat) (own : Int → Int) (wt : Int → List (Int × Int)) (C : List (Int × Value)) : Prop where
  rise : RiseK Prod.fst C
  len : C.length ≤ n
  q : ∀ k, atI k (.int .i64 0) C = .int .i64 (cntT own wt k)
  e : ∀ k, own k = -1 → wt k = []
  r : ∀ k, own k ≠ -1 → 0 ≤ k ∧ k < 6
  l : ∀ k, (wt k).length ≤ n
section
variable {n : Nat} {own : Int → Int} {wt : Int → List (Int × Int)} {C : List (Int × Value)}
theorem rq_first : RQ 0 (fun _ => -1) (fun _ => []) [] := ⟨List.Pairwise.nil, Nat.le_refl _, fun k => rfl, fun k _ => rfl, fun k h => absurd rfl h, fun k => Nat.le_refl _⟩
theorem RQ.own_step (h : RQ n own wt C) {L who : Int} (h0 : 0 ≤ L) (h1 : L < 6) (hw : 0 ≤ who) (ho : own L = -1) : RQ (n + 1) (upd own L who) wt (putK Prod.fst (L, .int .i64 1) C) := by
  refine ⟨rise_put h.rise, by have := putK_len (key := Prod.fst) (L, Value.int .i64 1) C; have := h.len; omega, fun k => ?_, fun k hk => ?_, fun k hk => ?_, fun k => by have := h.l k; omega⟩
  · rw [at_put h.rise]
    unfold cntT upd
    by_cases e : k = L
    · rw [if_pos e, if_pos e, if_neg (by omega), e, h.e L ho]; rfl
    · rw [if_neg e, if_neg e]; exact h.q k
  · unfold upd at hk
    by_cases e : k = L
    · rw [if_pos e] at hk; omega
    · rw [if_neg e] at hk; exact h.e k hk
  · unfold upd at hk
    by_cases e : k = L
    · omega
    · rw [if_neg e] at hk; exact h.r k hk
theorem RQ.wait_step (h : RQ n own wt C) {L : Int} (x : Int × Int) (h0 : 0 ≤ L) (h1 : L < 6) (ho : own L ≠ -1) : RQ (n + 1) own (upd wt L (wt L ++ [x])) (putK Prod.fst (L, .int .i64 (cntT own wt L + 1)) C) := by
  refine ⟨rise_put h.rise, by have := putK_len (key := Prod.fst) (L, Value.int .i64 (cntT own wt L + 1)) C; have := h.len; omega, fun k => ?_, fun k hk => ?_, h.r, fun k => ?_⟩
  · rw [at_put h.rise]
    unfold cntT upd
    by_cases e : k = L
    · subst e
      rw [if_pos rfl, if_neg ho, if_pos rfl]
      simp
      exact fun e => absurd e ho
    · rw [if_neg e, if_neg e]; exact h.q k
  · have hk' : own k = -1 := hk
    have : k ≠ L := fun e => ho (by rw [← e]; exact hk)
    rw [upd_ne _ _ this]
    exact h.e k hk
  · unfold upd
    have := h.l k
    have := h.l L
    split
    · simp; omega
    · omega
theorem RQ.none (h : RQ n own wt C) {l : List Int} (hl : ∀ k, k ∈ l ↔ own k = -1 ∧ wt k ≠ []) : l = [] := by
  cases l with
  | nil => rfl
  | cons x r =>
    obtain ⟨h1, h2⟩ := (hl x).1 (by simp)
    exact absurd (h.e x h1) h2
end
/-- The lines below i for which somebody waits. -/
def wantL (wt : Int → List (Int × Int)) (i : Nat) : List Int := ((List.range i).map fun (j : Nat) => (j : Int)).filter fun k => decide (wt k ≠ [])
theorem wantL_succ (wt : Int → List (Int × Int)) (i : Nat) : wantL wt (i + 1) = wantL wt i ++ (if wt i ≠ [] then [(i : Int)] else []) := by
  unfold wantL
  rw [List.range_succ, List.map_append, List.filter_append]
  congr 1
  simp only [List.map_cons, List.map_nil]
  by_cases h : wt i ≠ []
  · rw [if_pos h, List.filter_cons_of_pos (by simpa using h)]; rfl
  · rw [if_neg h, List.filter_cons_of_neg (by simpa using h)]; rfl
theorem wantL_len (wt : Int → List (Int × Int)) (i : Nat) : (wantL wt i).length ≤ i := by
  have := List.length_filter_le (fun k => decide (wt k ≠ [])) ((List.range i).map fun (j : Nat) => (j : Int))
  unfold wantL
  simp only [List.length_map, List.length_range] at this
  exact this
theorem wantL_mem (wt : Int → List (Int × Int)) (i : Nat) (k : Int) : k ∈ wantL wt i ↔ (0 ≤ k ∧ k < i) ∧ wt k ≠ [] := by
  unfold wantL
  rw [List.mem_filter, List.mem_map]
  constructor
  · rintro ⟨⟨j, hj, rfl⟩, h⟩
    rw [List.mem_range] at hj
    exact ⟨⟨by omega, by omega⟩, of_decide_eq_true h⟩
  · rintro ⟨⟨h0, h1⟩, h2⟩
    refine ⟨⟨k.toNat, by rw [List.mem_range]; omega, by omega⟩, decide_eq_true h2⟩
theorem wantL_rise (wt : Int → List (Int × Int)) (i : Nat) : RiseK id (wantL wt i) := by
  unfold wantL RiseK
  refine List.Pairwise.sublist List.filter_sublist ?_
  rw [List.pairwise_map]
  exact List.pairwise_lt_range.imp (fun h => by simp only [id]; omega)
/-- Lines below i are let go. -/
def relI (own : Int → Int) (i : Nat) (k : Int) : Int := if 0 ≤ k ∧ k < i then -1 else own k
theorem relI_zero (own : Int → Int) : relI own 0 = own := by
  funext k
  unfold relI
  rw [if_neg (by omega)]
theorem relI_upd (own : Int → Int) (i : Nat) : upd (relI own i) i (-1) = relI own (i + 1) := by
  funext k
  unfold upd relI
  by_cases e : k = i
  · rw [if_pos e, if_pos (by omega)]
  · rw [if_neg e]
    by_cases h : 0 ≤ k ∧ k < i
    · rw [if_pos h, if_pos (by omega)]
    · rw [if_neg h, if_neg (by omega)]
theorem relI_same {own : Int → Int} {i : Nat} (h : own i = -1) : relI own i = relI own (i + 1) := by
  rw [← relI_upd]
  funext k
  unfold upd
  split
  next e => subst e; unfold relI; rw [if_neg (by omega)]; exact h
  next e => rfl
theorem RQ.all {n : Nat} {own : Int → Int} {wt : Int → List (Int × Int)} {C : List (Int × Value)} (h : RQ n own wt C) : relI own 6 = fun _ => -1 := by
  funext k
  unfold relI
  by_cases e : 0 ≤ k ∧ k < (6 : Nat)
  · rw [if_pos e]
  · rw [if_neg e]
    by_cases e2 : own k = -1
    · exact e2
    · have := h.r k e2; omega
theorem relI_at (own : Int → Int) (i : Nat) : relI own i i = own i := by unfold relI; rw [if_neg (by omega)]
end Go.Proofs.Ytnpgpnngpeedhaa
