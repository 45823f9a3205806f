/- Lists of structs as they come in: each element's cells, with the reading of each field. Nothing of the program is named here. -/
import Derived.Test.YtnpgpnngpeedhaaInCells
import Derived.Deep.Slices
namespace Go.Proofs.Ytnpgpnngpeedhaa
open Go.ChangeShapes Go.WideShapes Go.ChangeAt Go.RowKit Go.Deep
set_option linter.unusedVariables false
set_option maxRecDepth 20000

section
variable {H : Type} {enc : TypeId × Value → H} {P : Program} {w : World} {base : Nat} {held : Bool}
/-- A field of a struct, with its reading. -/
theorem fieldOf {n : Nat} {t : TypeId} {fs : Array Field} {cs : List Value} {x : DataW H × List MemPlace} (ht : P.underlying t = some (.struct fs)) (h : DataW.trod enc P w base (fun _ => true) held n t cs = some x) (i : Nat) (ty : TypeId) (off c : Nat) (ds : List Value)
    (hf : (fs[i]?).map (fun f => (f.type, f.offset)) = some (ty, off)) (hc : P.cellsOf ty = c) (hd : (cs.drop off).take c = ds) : ∃ k y, DataW.trod enc P w base (fun _ => true) held k ty ds = some y := by
  obtain ⟨xs, k, _, _, _, hl, hfs⟩ := DataW.trod_struct ht h
  obtain ⟨f, hf', e⟩ := Option.map_eq_some_iff.1 hf
  simp at e
  obtain ⟨rfl, rfl⟩ := e
  subst hc hd
  have hi : i < fs.size := (Array.getElem?_eq_some_iff.1 hf').1
  refine ⟨k, xs[i]'(by omega), ?_⟩
  rw [hfs i f hf']
  exact List.getElem?_eq_getElem (by omega)
/-- A list of structs of C cells each: the cells of every element, and that they can be read. -/
theorem structs_of {n S T C : Nat} {c : Value} {y : DataW H × List MemPlace} (hS : P.underlying S = some (.slice T)) (hC : P.cellsOf T = C) (hC0 : 0 < C) (h : DataW.trod enc P w base (fun _ => true) held n S [c] = some y) :
    ∃ a len cap, c = .slice a len cap ∧ len ≤ cap ∧ cap ≤ maxLen ∧ ∀ i, i < len → ∃ (bl off : Nat) (cs : List Value) (k : Nat) (y : DataW H × List MemPlace), a = some ⟨bl, off, none⟩ ∧ cs.length = C ∧ (∀ j, j < C → w.cell? ⟨bl, off + i * C + j, none⟩ = cs[j]?) ∧ DataW.trod enc P w base (fun _ => true) held k T cs = some y := by
  rcases open_slice hS h with ⟨hcs, _⟩ | ⟨a, len, cap, m, k, D, Pl, hcs, hb, hl, hm, hmm, _, hx⟩
  · simp at hcs
    exact ⟨none, 0, 0, hcs, Nat.le_refl _, Nat.zero_le _, fun i hi => by omega⟩
  · simp at hcs
    have hlm : len ≤ m := by rw [hmm]; split <;> omega
    refine ⟨some a, len, cap, hcs, hl, hm, fun i hi => ?_⟩
    obtain ⟨cs, hc, ht⟩ := hx i (by omega)
    rw [hC] at hc
    obtain ⟨_, hlen, hcell⟩ := World.cells?_some hc
    obtain ⟨bl, off, spot⟩ := a
    have hspot : spot = none := by
      obtain ⟨cs0, hc0, ht0⟩ := hx 0 (by omega)
      rw [hC] at hc0
      obtain ⟨_, hlen0, hcell0⟩ := World.cells?_some hc0
      have h0 := hcell0 0 (by omega)
      rw [List.getElem?_eq_getElem (by omega)] at h0
      have := World.cell?_spot h0
      simpa [Addr.add] using this
    subst hspot
    exact ⟨bl, off, cs, _, _, rfl, hlen, fun j hj => by
      have := hcell j hj
      rw [Addr.add_lit, Addr.add_lit] at this
      exact this, ht⟩
end
end Go.Proofs.Ytnpgpnngpeedhaa
