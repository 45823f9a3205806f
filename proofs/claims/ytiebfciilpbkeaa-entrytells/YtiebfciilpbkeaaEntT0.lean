/- An entry and a list beside it, each with words in memory of its own; and a copy of it that is only read. Nothing of the program is named here but its type. -/
import Derived.Test.YtiebfciilpbkeaaEntC0
namespace Go.Proofs.Ytiebfciilpbkeaa
open Go.RowKit
set_option linter.unusedVariables false
set_option maxRecDepth 20000

structure ET (w wx : World) (ge : Nat) (y : En) (z : List Int) (m : Nat) (ad : Option Addr) (cd : Nat) (ae : Option Addr) (ce : Nat) : Prop where
  lz : z.length = m
  ly : y.z.length = m
  d : Own wx w.heap.size (.slice ad m cd) z
  e : Own wx w.heap.size (.slice ae m ce) y.z
  bx : Eb wx ge 0 y (.slice ae m ce)
  dj : ∀ p q : Addr, ad = some p → ae = some q → p.block ≠ q.block
  nd : ∀ p : Addr, ad = some p → p.block ≠ ge
  ne : ∀ q : Addr, ae = some q → q.block ≠ ge
  lo : w.heap.size ≤ ge
  bel : Below w.heap.size w wx
section
variable {w wx wy : World} {ge : Nat} {y : En} {z : List Int} {m : Nat} {ad : Option Addr} {cd : Nat} {ae : Option Addr} {ce : Nat}
theorem ET.below (h : ET w wx ge y z m ad cd ae ce) (hb : Below wx.heap.size wx wy) : ET w wy ge y z m ad cd ae ce :=
  ⟨h.lz, h.ly, h.d.below hb, h.e.below hb, h.bx.next hb, h.dj, h.nd, h.ne, h.lo, next h.bel hb⟩
theorem ET.keep {F : Nat → Prop} (h : ET w wx ge y z m ad cd ae ce) (hk : Keep F wx wy) (h1 : ∀ p : Addr, ad = some p → ¬ F p.block) (h2 : ∀ p : Addr, ae = some p → ¬ F p.block) (h3 : ¬ F ge) (hF : ∀ k, F k → w.heap.size ≤ k) : ET w wy ge y z m ad cd ae ce :=
  ⟨h.lz, h.ly, h.d.keep hk (fun k hk => by cases ad with
    | none => simp [Value.ownBlock] at hk
    | some p => simp [Value.ownBlock] at hk; subst hk; exact h1 p rfl), h.e.keep hk (fun k hk => by cases ae with
    | none => simp [Value.ownBlock] at hk
    | some p => simp [Value.ownBlock] at hk; subst hk; exact h2 p rfl), h.bx.keep hk h3, h.dj, h.nd, h.ne, h.lo, hk.after h.bel hF⟩
theorem ET.sd (h : ET w wx ge y z m ad cd ae ce) : Sl wx ad m cd z := h.d.slice1 h.lz
theorem ET.se (h : ET w wx ge y z m ad cd ae ce) : Sl wx ae m ce y.z := h.e.slice1 h.ly
theorem ET.setF (h : ET w wx ge y z m ad cd ae ce) (v : Int) : ET w (wx.setCell ⟨ge, 0, none⟩ (.int .i64 v)) ge { y with f := v } z m ad cd ae ce :=
  have k := Keep.one wx ge 0 (.int .i64 v)
  ⟨h.lz, h.ly, h.d.keep k (fun j hj e => by cases ad with
    | none => simp [Value.ownBlock] at hj
    | some p => simp [Value.ownBlock] at hj; subst hj; exact h.nd p rfl e), h.e.keep k (fun j hj e => by cases ae with
    | none => simp [Value.ownBlock] at hj
    | some p => simp [Value.ownBlock] at hj; subst hj; exact h.ne p rfl e), h.bx.setF v, h.dj, h.nd, h.ne, h.lo, h.bel.setCell (p := ⟨ge, 0, none⟩) h.lo _⟩
theorem ET.setB (h : ET w wx ge y z m ad cd ae ce) (v : Int) : ET w (wx.setCell ⟨ge, 1, none⟩ (.int .i64 v)) ge { y with b := v } z m ad cd ae ce :=
  have k := Keep.one wx ge 1 (.int .i64 v)
  ⟨h.lz, h.ly, h.d.keep k (fun j hj e => by cases ad with
    | none => simp [Value.ownBlock] at hj
    | some p => simp [Value.ownBlock] at hj; subst hj; exact h.nd p rfl e), h.e.keep k (fun j hj e => by cases ae with
    | none => simp [Value.ownBlock] at hj
    | some p => simp [Value.ownBlock] at hj; subst hj; exact h.ne p rfl e), by simpa using h.bx.setB v, h.dj, h.nd, h.ne, h.lo, h.bel.setCell (p := ⟨ge, 1, none⟩) h.lo _⟩
/-- One of the entry's words is written. -/
theorem ET.word (h : ET w wx ge y z m ad cd ae ce) {k : Nat} (hk : k < m) : ∃ b u, ae = some ⟨b, 0, none⟩ ∧ w.heap.size ≤ b ∧ b ≠ ge ∧ (∀ p : Addr, ad = some p → p.block ≠ b) ∧ b < wx.heap.size ∧ wx.cell? ⟨b, k, none⟩ = some (.int .i64 u) ∧ wx.frozen? ⟨b, k, none⟩ = false ∧
    ∀ v, ET w (wx.setCell ⟨b, k, none⟩ (.int .i64 v)) ge { y with z := y.z.set k v } z m ad cd ae ce := by
  obtain ⟨b, u, rfl, lo, lt, hc, hf, p⟩ := h.e.poke h.ly hk
  have hge := h.ne _ rfl
  have hd : ∀ p : Addr, ad = some p → p.block ≠ b := fun p hp => h.dj p _ hp rfl
  refine ⟨b, u, rfl, lo, hge, hd, lt, hc, hf, fun v => ⟨h.lz, by simpa using h.ly, ?_, p v, ?_, h.dj, h.nd, h.ne, h.lo, h.bel.setCell (p := ⟨b, k, none⟩) lo _⟩⟩
  · exact h.d.keep (Keep.one wx b k (.int .i64 v)) (fun j hj e => by cases ad with
      | none => simp [Value.ownBlock] at hj
      | some p => simp [Value.ownBlock] at hj; subst hj; exact hd p rfl e)
  · have t := h.bx.far (p := ⟨b, k, none⟩) (u := .int .i64 v) (fun e => hge e.symm)
    exact ⟨t.c0, t.c1, t.c2, t.c3, t.c4, t.c5, t.fz, t.lt⟩
end
/-- A copy that is only read. -/
structure CP (w wx : World) (gc : Nat) (y : En) (m : Nat) (ac : Option Addr) (cc : Nat) : Prop where
  ly : y.z.length = m
  e : Own wx w.heap.size (.slice ac m cc) y.z
  bx : Eb wx gc 0 y (.slice ac m cc)
section
variable {w wx wy : World} {gc : Nat} {y : En} {m : Nat} {ac : Option Addr} {cc : Nat}
theorem CP.below (h : CP w wx gc y m ac cc) (hb : Below wx.heap.size wx wy) : CP w wy gc y m ac cc := ⟨h.ly, h.e.below hb, h.bx.next hb⟩
theorem CP.far (h : CP w wx gc y m ac cc) {b k : Nat} {u : Value} (h1 : ∀ p : Addr, ac = some p → p.block ≠ b) (h2 : gc ≠ b) : CP w (wx.setCell ⟨b, k, none⟩ u) gc y m ac cc :=
  ⟨h.ly, h.e.keep (Keep.one wx b k u) (fun j hj e => by cases ac with
    | none => simp [Value.ownBlock] at hj
    | some p => simp [Value.ownBlock] at hj; subst hj; exact h1 p rfl e), h.bx.far (p := ⟨b, k, none⟩) h2⟩
theorem CP.se (h : CP w wx gc y m ac cc) : Sl wx ac m cc y.z := h.e.slice1 h.ly
end
end Go.Proofs.Ytiebfciilpbkeaa
