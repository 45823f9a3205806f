/- A directory beside what a test has of its own (MO): its memory is new, and none of X. Conditions: as each theorem states them. -/
import Derived.Test.YtgeiagndpfdnlaaMd0
namespace Go.Proofs.Ytgeiagndpfdnlaa
open Go.RowKit Go.Maps
set_option linter.unusedVariables false

def rowL (L : List Hr) (n : Int) : Hr := (getK hOf n L).getD zeroHr
def hasH (L : List Hr) (n : Int) : Bool := (getK hOf n L).isSome
structure MO (w wx : World) (g : Nat) (X : Nat → Prop) (N K : Int) (L : List Hr) : Prop where
  bel : Below w.heap.size w wx
  c : ∃ b D R, MW wx g b D N K R ∧ R.map Prod.fst = L ∧ NX w X g ∧ NX w X b ∧ ∀ j, D j → NX w X j
  xl : ∀ j, X j → j < wx.heap.size
  zl : ∀ x ∈ L, (x.z.length : Int) = K
  k1 : 1 ≤ K
section
variable {w wx wy : World} {g : Nat} {X Y F : Nat → Prop} {N K : Int} {L : List Hr}
theorem MO.below (h : MO w wx g X N K L) (hb : Below wx.heap.size wx wy) : MO w wy g X N K L := by
  obtain ⟨b, D, R, c, hc⟩ := h.c
  exact ⟨next h.bel hb, ⟨b, D, R, c.below hb, hc⟩, fun j hj => Nat.lt_of_lt_of_le (h.xl j hj) hb.size, h.zl, h.k1⟩
/-- Another X: what was there of it, and what is new. -/
theorem MO.grow (h : MO w wx g X N K L) (hb : Below wx.heap.size wx wy) (hY : ∀ j, Y j → (X j ∨ wx.heap.size ≤ j) ∧ j < wy.heap.size) : MO w wy g Y N K L := by
  obtain ⟨b, D, R, c, e, hg, hb', hD⟩ := h.c
  have n : ∀ j, j < wx.heap.size → NX w X j → NX w Y j := fun j hj hn => ⟨hn.1, fun hy => by
    rcases (hY j hy).1 with hx | hx
    · exact hn.2 hx
    · omega⟩
  exact ⟨next h.bel hb, ⟨b, D, R, c.below hb, e, n g c.lt hg, n b c.rows.lt hb', fun j hj => n j (c.old j hj) (hD j hj)⟩, fun j hj => (hY j hj).2, h.zl, h.k1⟩
/-- The test writes what is its own. -/
theorem MO.write (h : MO w wx g X N K L) (hk : Keep F wx wy) (hF : ∀ j, F j → w.heap.size ≤ j ∧ (X j ∨ wx.heap.size ≤ j)) : MO w wy g X N K L := by
  obtain ⟨b, D, R, c, e, hg, hb', hD⟩ := h.c
  have n : ∀ j, j < wx.heap.size → NX w X j → ¬ F j := fun j hj hn hf => by
    rcases (hF j hf).2 with hx | hx
    · exact hn.2 hx
    · omega
  exact ⟨h.bel.trans (hk.below (fun j hj => (hF j hj).1) h.bel.size), ⟨b, D, R, c.keep hk ⟨n g c.lt hg, n b c.rows.lt hb', fun j hj => n j (c.old j hj) (hD j hj)⟩, e, hg, hb', hD⟩, fun j hj => Nat.lt_of_lt_of_le (h.xl j hj) hk.size, h.zl, h.k1⟩
theorem MO.rise (h : MO w wx g X N K L) : RiseK hOf L := by
  obtain ⟨b, D, R, c, rfl, _⟩ := h.c
  have := c.rise
  unfold RiseK at *
  rw [List.pairwise_map]
  exact this
theorem MO.len (h : MO w wx g X N K L) : L.length ≤ 1000 := by
  obtain ⟨b, D, R, c, rfl, _⟩ := h.c
  rw [List.length_map]
  exact c.len
end
theorem rowL_eq (R : List (Hr × Value)) (n : Int) : (rowAt R n).1 = rowL (R.map Prod.fst) n := by
  unfold rowAt rowL
  rw [map_getK (key := hKey) (key' := hOf) (fun _ => rfl)]
  cases getK hKey n R <;> rfl
theorem hasH_eq (R : List (Hr × Value)) (n : Int) : hasR R n = hasH (R.map Prod.fst) n := by
  unfold hasR hasH
  rw [map_getK (key := hKey) (key' := hOf) (fun _ => rfl)]
  cases getK hKey n R <;> rfl
end Go.Proofs.Ytgeiagndpfdnlaa
