/- Lists of flags as they come in. No condition. -/
import Derived.Test.YtgjceclidbnggaaKeep
import Derived.Deep.Grids
namespace Go.Proofs.Ytgjceclidbnggaa
open Go.RowKit
set_option linter.unusedVariables false

theorem bools_of {H : Type} {enc : TypeId × Value → H} {w : World} {base n : Nat} {held : Bool} {c : Value} {y : DataW H × List MemPlace} (h : DataW.trod enc Try.prog w base (fun _ => true) held n 22 [c] = some y) :
    ∃ a len cap, ∃ bs : List Bool, c = .slice a len cap ∧ SlV w a len cap 1 (bs.map Value.bool) := by
  rcases Deep.open_bools Try.underlying22 Try.underlying4 (by kernel_rfl) h with ⟨hcs, _⟩ | ⟨x, l, c', B, hcs, _, hl, hm, _, hcell⟩
  · simp at hcs
    exact ⟨none, 0, 0, [], hcs, slv_nil w 1⟩
  · simp at hcs
    refine ⟨some x, l, c', (List.range l).map B, hcs, by simp, hl, hm, fun h => (by cases h), ?_⟩
    by_cases h0 : l = 0
    · subst h0; exact .inl rfl
    · obtain ⟨b, off, spot⟩ := x
      have hspot : spot = none := by simpa [Addr.add] using World.cell?_spot (hcell 0 (by omega))
      subst hspot
      refine .inr ⟨b, off, rfl, fun i u hu => ?_⟩
      have hi : i < l := by have := (List.getElem?_eq_some_iff.1 hu).1; simpa using this
      have := hcell i (by omega)
      rw [Addr.add_lit] at this
      rw [this]
      simpa [hi] using hu
end Go.Proofs.Ytgjceclidbnggaa
