/- The program's rows are those of the document's whose home is here (mathematics of MemdirPlays). Nothing of the program is named here. -/
import Derived.Test.YtfobgkkmbacfjaaMdP0
namespace Go.Proofs.Ytfobgkkmbacfjaa
open Go.RowKit Go.Maps
set_option linter.unusedVariables false
set_option maxRecDepth 20000

/-- Row i is that of line i. -/
def Nums (L : Nat) (DL : List Hr) : Prop := DL.length = L ∧ ∀ (i : Nat) (x : Hr), DL[i]? = some x → x.n = (i : Int)
/-- Those whose home is here. -/
def homeF (N L : Nat) (node : Int) (DL : List Hr) : List Hr := DL.filter (fun x => hereI N L node x.n)
theorem dp_nums {w wx : World} {g g2 gc : Nat} {X Z : Nat → Prop} {N L K : Nat} {node : Int} {Ld DL : List Hr} (h : DP w wx g g2 gc X Z N L K node Ld DL) : Nums L DL := by
  obtain ⟨M, D, R, a, cap, d, rfl, _⟩ := h.dh
  refine ⟨by rw [List.length_map]; exact d.len, fun i x hx => ?_⟩
  rw [List.getElem?_map] at hx
  cases hr : R[i]? with
  | none => rw [hr] at hx; cases hx
  | some r =>
    rw [hr] at hx
    obtain rfl := Option.some.inj hx
    exact d.nums i r hr
section
variable {N L K : Nat} {node : Int} {DL : List Hr}
theorem nums_rise (h : Nums L DL) : RiseK hOf DL := by
  refine List.pairwise_iff_getElem.2 fun i j hi hj hij => ?_
  have h1 := h.2 i _ (List.getElem?_eq_getElem hi)
  have h2 := h.2 j _ (List.getElem?_eq_getElem hj)
  show (DL[i]).n < (DL[j]).n
  omega
theorem homeF_rise (h : Nums L DL) : RiseK hOf (homeF N L node DL) := List.Pairwise.sublist List.filter_sublist (nums_rise h)
theorem here_of {l : Int} (hh : hereI N L node l = true) : 0 ≤ l ∧ l < (L : Int) ∧ l % (N : Int) = node := by
  unfold hereI at hh
  simp only [Bool.and_eq_true] at hh
  exact ⟨of_decide_eq_true hh.1.1, of_decide_eq_true hh.1.2, of_decide_eq_true hh.2⟩
theorem nums_at (h : Nums L DL) {l : Int} (hh : hereI N L node l = true) : ∃ x, DL[l.toNat]? = some x ∧ x.n = l := by
  obtain ⟨h0, h1, _⟩ := here_of hh
  have hl : l.toNat < DL.length := by rw [h.1]; omega
  refine ⟨_, List.getElem?_eq_getElem hl, ?_⟩
  have := h.2 l.toNat _ (List.getElem?_eq_getElem hl)
  omega
theorem homeF_get (h : Nums L DL) {l : Int} (hh : hereI N L node l = true) : getK hOf l (homeF N L node DL) = some ((DL[l.toNat]?).getD zeroHr) := by
  obtain ⟨x, hx, hxn⟩ := nums_at h hh
  rw [hx]
  have hm : x ∈ homeF N L node DL := List.mem_filter.2 ⟨List.mem_of_getElem? hx, by rw [hxn]; exact hh⟩
  have := getK_mem (key := hOf) (homeF_rise (N := N) (node := node) h) hm
  rw [← hxn]
  exact this
theorem homeF_none (h : Nums L DL) {l : Int} (hh : hereI N L node l = false) : getK hOf l (homeF N L node DL) = none := by
  refine getK_none.2 fun q hq e => ?_
  have := (List.mem_filter.1 hq).2
  rw [show q.n = l from e, hh] at this
  cases this
theorem homeF_has (h : Nums L DL) (l : Int) : hasH (homeF N L node DL) l = hereI N L node l := by
  unfold hasH
  cases hh : hereI N L node l with
  | true => rw [homeF_get h hh]; rfl
  | false => rw [homeF_none h hh]; rfl
theorem homeF_set (h : Nums L DL) {r : Hr} (hh : hereI N L node r.n = true) : putK hOf r (homeF N L node DL) = homeF N L node (DL.set r.n.toNat r) := by
  obtain ⟨h0, h1, _⟩ := here_of hh
  have hl : r.n.toNat < DL.length := by rw [h.1]; omega
  have hs : Nums L (DL.set r.n.toNat r) := ⟨by rw [List.length_set]; exact h.1, fun i x hx => by
    rw [List.getElem?_set] at hx
    by_cases e : r.n.toNat = i
    · rw [if_pos e, if_pos (by omega)] at hx
      obtain rfl := Option.some.inj hx
      omega
    · rw [if_neg e] at hx
      exact h.2 i x hx⟩
  refine rise_ext (rise_put (homeF_rise h)) (homeF_rise hs) fun q => ?_
  rw [mem_putK]
  constructor
  · rintro (rfl | ⟨hq, hne⟩)
    · exact List.mem_filter.2 ⟨List.mem_of_getElem? (List.getElem?_set_self hl), hh⟩
    · obtain ⟨hq1, hq2⟩ := List.mem_filter.1 hq
      obtain ⟨j, hj, rfl⟩ := List.getElem_of_mem hq1
      have hn := h.2 j _ (List.getElem?_eq_getElem hj)
      have hjr : r.n.toNat ≠ j := fun e => hne (by show (DL[j]).n = r.n; omega)
      exact List.mem_filter.2 ⟨List.mem_of_getElem? (i := j) (by rw [List.getElem?_set_ne hjr]; exact List.getElem?_eq_getElem hj), hq2⟩
  · intro hq
    obtain ⟨hq1, hq2⟩ := List.mem_filter.1 hq
    obtain ⟨j, hj⟩ := List.getElem?_of_mem hq1
    by_cases e : r.n.toNat = j
    · subst e
      rw [List.getElem?_set_self hl] at hj
      exact .inl (Option.some.inj hj).symm
    · rw [List.getElem?_set_ne e] at hj
      have hn := h.2 j q hj
      exact .inr ⟨List.mem_filter.2 ⟨List.mem_of_getElem? hj, hq2⟩, fun e2 => e (by have : q.n = r.n := e2; omega)⟩
theorem dset_same (h : Nums L DL) (l s hd : Int) (z : List Int) : setR N K (homeF N L node DL) l s hd z = ((setD N L K node DL l s hd z).1, homeF N L node (setD N L K node DL l s hd z).2) := by
  unfold setR setD
  rw [homeF_has h]
  cases hh : hereI N L node l with
  | false => rfl
  | true =>
    rw [if_pos rfl, if_pos rfl]
    cases ho : setOk N K s hd z.length with
    | false => rfl
    | true =>
      rw [if_pos rfl, if_pos rfl]
      have e : rowL (homeF N L node DL) l = (DL[l.toNat]?).getD zeroHr := by unfold rowL; rw [homeF_get h hh]; rfl
      rw [e, homeF_set h (r := ⟨l, s, hd, if z = [] then ((DL[l.toNat]?).getD zeroHr).z else z⟩) hh]
/-- The lines below k whose home is here. -/
def wl (N L : Nat) (node : Int) (k : Nat) : List Int := ((List.range k).map (fun i : Nat => (i : Int))).filter (hereI N L node)
theorem wl_at {k : Nat} (h : hereI N L node (k : Int) = true) : wl N L node (k + 1) = wl N L node k ++ [(k : Int)] := by
  unfold wl
  rw [List.range_succ, List.map_append, List.filter_append]
  simp [h]
theorem wl_no {k : Nat} (h : hereI N L node (k : Int) = false) : wl N L node (k + 1) = wl N L node k := by
  unfold wl
  rw [List.range_succ, List.map_append, List.filter_append]
  simp [h]
theorem wl_len {k : Nat} : (wl N L node k).length ≤ k := by
  unfold wl
  have := List.length_filter_le (hereI N L node) ((List.range k).map (fun i : Nat => (i : Int)))
  rwa [List.length_map, List.length_range] at this
theorem wl_all (h : Nums L DL) : (homeF N L node DL).map hOf = wl N L node L := by
  have e : DL.map hOf = (List.range L).map (fun i : Nat => (i : Int)) := by
    refine List.ext_getElem? fun i => ?_
    rw [List.getElem?_map, List.getElem?_map]
    by_cases hi : i < DL.length
    · rw [List.getElem?_eq_getElem hi, List.getElem?_range (by rw [← h.1]; exact hi)]
      have := h.2 i _ (List.getElem?_eq_getElem hi)
      simp only [Option.map_some]
      exact congrArg some this
    · rw [List.getElem?_eq_none (by omega), List.getElem?_eq_none (by rw [List.length_range, ← h.1]; omega)]
      rfl
  unfold homeF wl
  rw [← e, List.filter_map]
  rfl
theorem home_first (zi : List Int) (hN : 1 ≤ N) : rows0 zi N L K node L = homeF N L node (dl0 zi L K L) := by
  unfold rows0 homeF dl0
  rw [List.filter_map]
  congr 1
  refine List.filter_congr fun l hl => ?_
  have := List.mem_range.1 hl
  show decide (remI (l : Int) N = node) = hereI N L node (l : Int)
  unfold hereI remI
  rw [if_neg (by omega), decide_eq_true (by omega : 0 ≤ (l : Int)), decide_eq_true (by omega : (l : Int) < (L : Int))]
  rfl
end
end Go.Proofs.Ytfobgkkmbacfjaa
