/- What Put, Touch, Drop make of a cache's entries, line by line. Nothing of the program is named here. -/
import Derived.Test.YtfobgkkmbacfjaaCcOn
namespace Go.Proofs.Ytfobgkkmbacfjaa
open Go.RowKit Go.Maps
set_option linter.unusedVariables false

section
variable {L : List En} {x e : En} {l S W k : Int}
theorem get_put (h : RiseK nOf L) (l : Int) : getK nOf l (putK nOf x L) = if x.n = l then some x else getK nOf l L := by
  by_cases e : x.n = l
  · rw [if_pos e]
    have := getK_mem (rise_put (r := x) h) (mem_putK.2 (.inl rfl))
    rw [show nOf x = l from e] at this
    exact this
  · rw [if_neg e]
    cases hg : getK nOf l L with
    | none =>
      rw [getK_none]
      intro q hq
      rcases mem_putK.1 hq with rfl | ⟨hq, _⟩
      · exact e
      · exact getK_none.1 hg q hq
    | some a =>
      obtain ⟨h1, h2⟩ := getK_some hg
      have := getK_mem (rise_put (r := x) h) (mem_putK.2 (.inr ⟨h1, fun e' => e (e'.symm.trans h2)⟩))
      rw [h2] at this
      exact this
theorem get_del (h : RiseK nOf L) (l m : Int) : getK nOf l (delK nOf m L) = if m = l then none else getK nOf l L := by
  by_cases e : m = l
  · rw [if_pos e, getK_none]
    intro q hq he
    exact (mem_delK.1 hq).2 (he.trans e.symm)
  · rw [if_neg e]
    cases hg : getK nOf l L with
    | none =>
      rw [getK_none]
      intro q hq
      exact getK_none.1 hg q (mem_delK.1 hq).1
    | some a =>
      obtain ⟨h1, h2⟩ := getK_some hg
      have := getK_mem (rise_del (x := m) h) (mem_delK.2 ⟨h1, fun e' => e (e'.symm.trans h2)⟩)
      rw [h2] at this
      exact this
theorem has_put (h : RiseK nOf L) : hasL (putK nOf x L) l = (decide (x.n = l) || hasL L l) := by
  unfold hasL
  rw [get_put h]
  by_cases e : x.n = l <;> simp [e]
theorem ent_put (h : RiseK nOf L) (he : x.n = l) : entL (putK nOf x L) l = x := by unfold entL; rw [get_put h, if_pos he]; rfl
theorem ent_put_other (h : RiseK nOf L) (he : x.n ≠ l) : entL (putK nOf x L) l = entL L l := by unfold entL; rw [get_put h, if_neg he]
theorem has_del (h : RiseK nOf L) (m : Int) : hasL (delK nOf m L) l = (!decide (m = l) && hasL L l) := by
  unfold hasL
  rw [get_del h]
  by_cases e : m = l <;> simp [e]
/-- What Put makes of it where there is room. -/
theorem putR_ok (hx : 0 ≤ x.n) (hf : fullL S W L x.n = false) : putR S W k L x = (0, if hasL L x.n then k else k + 1, putK nOf { x with u := if hasL L x.n then (entL L x.n).u else k + 1 } L) := by
  unfold putR
  rw [if_neg (by omega)]
  cases hh : hasL L x.n with
  | true => simp
  | false => rw [hf]; simp
theorem putR_full (hx : 0 ≤ x.n) (hf : fullL S W L x.n = true) : putR S W k L x = (5, k, L) := by
  unfold putR
  have hh : hasL L x.n = false := by
    unfold fullL at hf
    cases h : hasL L x.n with
    | true => rw [h] at hf; simp at hf
    | false => rfl
  rw [if_neg (by omega), hh, hf]
  simp
end
/-- Put of what has just been made. -/
theorem co_fresh {w wx wy : World} {g : Nat} {X : Nat → Prop} {S W k : Int} {L : List En} (h : CO w wx g X S W k L) (hk : k < 1000000) (x : En) (a : Option Addr) (n cap base : Nat) (hb : Below wx.heap.size wx wy) (own : Own wy base (.slice a n cap) x.z) (hbase : wx.heap.size ≤ base)
    (hl : x.z.length = n) (hn : n ≤ 17592186044416) (hx : In64 x.n) :
    Calls Try.prog 13 #[.pointer (some ⟨g, 0, none⟩), x.val (.slice a n cap)] wy fun e w' => e = .returned (.int .i64 (putR S W k L x).1) ∧ Keep (NX w X) wy w' ∧ CO w w' g X S W (putR S W k L x).2.1 (putR S W k L x).2.2 := by
  have hY : CO w wy g (fun j => X j ∨ ∃ y : Addr, a = some y ∧ y.block = j) S W k L := h.grow hb (fun j hj => by
    rcases hj with hj | ⟨y, rfl, rfl⟩
    · exact ⟨.inl hj, Nat.lt_of_lt_of_le (h.xl j hj) hb.size⟩
    · have := own.base y.block rfl
      exact ⟨.inr (by omega), this.2⟩)
  refine (co_put hY hk x a n cap (sl_ownN own hl) (fun y hy => .inl (.inr ⟨y, hy, rfl⟩)) hn hx).mono ?_
  rintro e w' ⟨rfl, hK, hC⟩
  exact ⟨rfl, hK.mono (fun j _ hj => ⟨hj.1, fun hx => hj.2 (.inl hx)⟩), hC.less (fun j hj => .inl hj)⟩
end Go.Proofs.Ytfobgkkmbacfjaa
