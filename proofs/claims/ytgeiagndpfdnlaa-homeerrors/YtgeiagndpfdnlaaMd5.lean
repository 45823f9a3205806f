/- The contracts of memdir over plain data, beside what a test has of its own. Conditions: as each theorem states them. -/
import Derived.Test.YtgeiagndpfdnlaaMd4
import Derived.Test.YtgeiagndpfdnlaaMdL
namespace Go.Proofs.Ytgeiagndpfdnlaa
open Go.RowKit Go.Maps
set_option linter.unusedVariables false
set_option maxRecDepth 20000

/-- What Set answers, and what is known then. -/
def setR (N K : Int) (L : List Hr) (l s h : Int) (z : List Int) : Int × List Hr :=
  if hasH L l = true then (if setOk N K s h z.length = true then (0, putK hOf ⟨l, s, h, if z = [] then (rowL L l).z else z⟩ L) else (1, L)) else (3, L)
section
variable {w wx wy : World} {g : Nat} {X Y F : Nat → Prop} {N K : Int} {L : List Hr}
theorem mo_new {wx : World} (N L K S Y O I : Nat) (a : Option Addr) (nv cv : Nat) (zi : List Int) (node : Int) (hb : Below w.heap.size w wx) (hX : ∀ j, X j → j < wx.heap.size) (hsl : Sl wx a nv cv zi) (hN0 : 1 ≤ N) (hN : N ≤ 6) (hL : L ≤ 8) (hK0 : 1 ≤ K) (hK : K ≤ 4) (hlen : nv ≤ 32) :
    Calls Try.prog 26 #[cfg N L K S Y O I (.slice a nv cv), .int .i64 node] wx fun e w' => ∃ g, e = .returned (.pointer (some ⟨g, 0, none⟩)) ∧ Below wx.heap.size wx w' ∧ MO w w' g X N K (rows0 zi N L K node L) := by
  refine (mnew_any N L K S Y O I a nv cv zi node wx hsl hN0 hN hL hK0 hK hlen).mono ?_
  rintro e w' ⟨g, b, D, R, rfl, hb1, M, hR, hg, hbb, hD⟩
  have hs := hb.size
  have n : ∀ j, wx.heap.size ≤ j → NX w X j := fun j hj => ⟨by omega, fun hx => by have := hX j hx; omega⟩
  refine ⟨g, rfl, hb1, next hb hb1, ⟨b, D, R, M, hR, n g hg, n b hbb, fun j hj => n j (hD j hj)⟩, fun j hj => Nat.lt_of_lt_of_le (hX j hj) hb1.size, fun x hx => ?_, by omega⟩
  obtain ⟨l, hl, rfl⟩ := List.mem_map.1 hx
  have := (List.mem_filter.1 hl).1
  rw [List.mem_range] at this
  show ((wordsI zi L K (l : Int)).length : Int) = K
  rw [wordsI_in this]
  simp
theorem mo_full (h : MO w wx g X N K L) : ∀ x ∈ L, x.z ≠ [] := fun x hx e => by
  have h1 := h.zl x hx
  have h2 := h.k1
  rw [e] at h1
  simp at h1
  omega
theorem mo_row (h : MO w wx g X N K L) {n : Int} (hn : In64 n) : Calls Try.prog 45 #[.pointer (some ⟨g, 0, none⟩), .int .i64 n] wx fun e w' =>
    ∃ a cap, e = .returned (.tuple #[(rowL L n).val (.slice a (rowL L n).z.length cap), .bool (hasH L n)]) ∧ Own w' wx.heap.size (.slice a (rowL L n).z.length cap) (rowL L n).z ∧ Below wx.heap.size wx w' := by
  have hf := mo_full h
  obtain ⟨b, D, R, M, rfl, _⟩ := h.c
  have := MW.row_any M (fun r hr => hf r.1 (List.mem_map_of_mem hr)) hn
  rw [rowL_eq, hasH_eq] at this
  exact this
theorem mo_done {b : Nat} {D D' : Nat → Prop} {R' : List (Hr × Value)} {L' : List Hr} (h : MO w wx g X N K L) (hk : Keep (fun j => j = b) wx wy) (hb : NX w X b) (hg : NX w X g) (hD : ∀ j, D j → NX w X j) (hD' : ∀ j, D' j → D j ∨ wx.heap.size ≤ j) (M : MW wy g b D' N K R') (e : R'.map Prod.fst = L') (hz : ∀ x ∈ L', (x.z.length : Int) = K) :
    Keep (NX w X) wx wy ∧ MO w wy g X N K L' := by
  have hs := h.bel.size
  refine ⟨hk.mono (fun j _ e => e ▸ hb), h.bel.trans (hk.below (fun j e => e ▸ hb.1) hs), ⟨b, D', R', M, e, hg, hb, fun j hj => (hD' j hj).elim (hD j) (fun hn => ⟨by omega, fun hx => by have := h.xl j hx; omega⟩)⟩, fun j hj => Nat.lt_of_lt_of_le (h.xl j hj) hk.size, hz, h.k1⟩
theorem hasH_mem {L : List Hr} {n : Int} (h : hasH L n = true) : rowL L n ∈ L ∧ (rowL L n).n = n := by
  unfold hasH at h
  unfold rowL
  cases hg : getK hOf n L with
  | none => rw [hg] at h; cases h
  | some e => exact getK_some hg
theorem mo_set (h : MO w wx g X N K L) {l : Int} (hl : In64 l) (s hd : Int) (a : Option Addr) (n cap : Nat) (z : List Int) (hs : Sl wx a n cap z) (hb : n ≤ 17592186044416) :
    Calls Try.prog 55 #[.pointer (some ⟨g, 0, none⟩), .int .i64 l, .int .i64 s, .int .i64 hd, .slice a n cap] wx fun e w' => e = .returned (.int .i64 (setR N K L l s hd z).1) ∧ Keep (NX w X) wx w' ∧ MO w w' g X N K (setR N K L l s hd z).2 := by
  have h0 := h
  obtain ⟨b, D, R, M, e, hg, hbb, hD⟩ := h.c
  have hzn : z.length = n := hs.len
  unfold setR
  rw [hzn]
  cases hh : hasH L l with
  | false =>
    rw [if_neg (by simp)]
    refine (MW.set_none M hl (by rw [hasH_eq, e]; exact hh) s hd a n cap).mono ?_
    rintro en w' ⟨rfl, hb⟩
    exact ⟨rfl, Keep.of_below hb, h.below hb⟩
  | true =>
    rw [if_pos rfl]
    cases ho : setOk N K s hd n with
    | false =>
      rw [if_neg (by simp)]
      refine (MW.set_arg M hl (by rw [hasH_eq, e]; exact hh) s hd a n cap ho).mono ?_
      rintro en w' ⟨rfl, hb⟩
      exact ⟨rfl, Keep.of_below hb, h.below hb⟩
    | true =>
      rw [if_pos rfl]
      obtain ⟨m1, m2⟩ := hasH_mem hh
      by_cases h00 : n = 0
      · have hz0 : z = [] := List.eq_nil_of_length_eq_zero (by omega)
        rw [if_pos hz0]
        refine (MW.set_keep M hl (by rw [hasH_eq, e]; exact hh) s hd a n cap h00 ho).mono ?_
        rintro en w' ⟨rfl, hk, D', d, hD', M'⟩
        rw [rowL_eq, e] at M'
        obtain ⟨k1, k2⟩ := mo_done h hk hbb hg hD hD' M' (by rw [map_putK (key := hKey) (key' := hOf) (fun _ => rfl), e]) (fun x hx => by
          rcases mem_putK.1 hx with rfl | ⟨hx, _⟩
          · exact h.zl (rowL L l) m1
          · exact h.zl x hx)
        exact ⟨rfl, k1, k2⟩
      · have hz0 : z ≠ [] := fun e => by rw [e] at hzn; simp at hzn; omega
        rw [if_neg hz0]
        have hnK : (n : Int) = K := by
          unfold setOk at ho
          simp only [Bool.and_eq_true] at ho
          exact (of_decide_eq_true ho.2).resolve_left h00
        refine (MW.set_full M hl (by rw [hasH_eq, e]; exact hh) s hd a n cap z hs (by omega) hb ho).mono ?_
        rintro en w' ⟨rfl, hk, D', d, hD', M'⟩
        obtain ⟨k1, k2⟩ := mo_done h hk hbb hg hD hD' M' (by rw [map_putK (key := hKey) (key' := hOf) (fun _ => rfl), e]) (fun x hx => by
          rcases mem_putK.1 hx with rfl | ⟨hx, _⟩
          · show (z.length : Int) = K; omega
          · exact h.zl x hx)
        exact ⟨rfl, k1, k2⟩
end
end Go.Proofs.Ytgeiagndpfdnlaa
