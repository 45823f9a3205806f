/- What a home knows of its lines, in memory: a map of rows by line (MW). Nothing of the program is named here but its types. -/
import Derived.Test.YtgeiagndpfdnlaaERow
import Derived.Test.YtgeiagndpfdnlaaIMap
namespace Go.Proofs.Ytgeiagndpfdnlaa
open Go.RowKit Go.Maps
set_option linter.unusedVariables false

/-- What a home knows of a line: its number, its state, its head, its words. -/
structure Hr where
  n : Int
  s : Int
  h : Int
  z : List Int
@[reducible] def Hr.val (x : Hr) (d : Value) : Value := .agg #[.int .i64 x.s, .int .i64 x.h, d]
@[reducible] def hOf (x : Hr) : Int := x.n
@[reducible] def hKey (r : Hr × Value) : Int := r.1.n
@[reducible] def hVal (r : Hr × Value) : Value := r.1.val r.2
def zeroHr : Hr := ⟨0, 0, 0, []⟩
structure MW (w : World) (g b : Nat) (D : Nat → Prop) (N K : Int) (R : List (Hr × Value)) : Prop where
  c0 : w.cell? ⟨g, 0, none⟩ = some (.int .i64 N)
  c1 : w.cell? ⟨g, 1, none⟩ = some (.int .i64 K)
  c2 : w.cell? ⟨g, 2, none⟩ = some (.map (some b))
  lt : g < w.heap.size
  ne : b ≠ g
  rows : IM w b (kv hKey hVal R)
  dat : ∀ r ∈ R, DatZ w D r.1.z r.2
  rise : RiseK hKey R
  len : R.length ≤ 1000
  old : ∀ j, D j → j < w.heap.size
  dj : ¬ D g ∧ ¬ D b
section
variable {w w' : World} {g b : Nat} {D F : Nat → Prop} {N K : Int} {R : List (Hr × Value)}
theorem MW.keep (h : MW w g b D N K R) (hk : Keep F w w') (hF : ¬ F g ∧ ¬ F b ∧ ∀ k, D k → ¬ F k) : MW w' g b D N K R :=
  have e := fun o => hk.cell (b := g) o h.lt hF.1
  ⟨(e _).trans h.c0, (e _).trans h.c1, (e _).trans h.c2, Nat.lt_of_lt_of_le h.lt hk.size, h.ne, h.rows.keep hk hF.2.1, fun r hr => (h.dat r hr).keep hk hF.2.2, h.rise, h.len, fun j hj => Nat.lt_of_lt_of_le (h.old j hj) hk.size, h.dj⟩
theorem MW.below (h : MW w g b D N K R) (hb : Below w.heap.size w w') : MW w' g b D N K R := h.keep (F := fun _ => False) (Keep.of_below hb) ⟨id, id, fun _ _ h => h⟩
/-- The row of a line, or nothing. -/
def rowAt (R : List (Hr × Value)) (n : Int) : Hr × Value := (getK hKey n R).getD (zeroHr, .slice none 0 0)
def hasR (R : List (Hr × Value)) (n : Int) : Bool := (getK hKey n R).isSome
theorem row_at (R : List (Hr × Value)) (n : Int) : atI n (zeroHr.val (.slice none 0 0)) (kv hKey hVal R) = hVal (rowAt R n) := by
  rw [kv_at]
  unfold rowAt
  cases getK hKey n R <;> rfl
theorem row_has (R : List (Hr × Value)) (n : Int) : (getK Prod.fst n (kv hKey hVal R)).isSome = hasR R n := by
  rw [kv_get]
  unfold hasR
  cases getK hKey n R <;> rfl
theorem MW.rowDat (h : MW w g b D N K R) (n : Int) : DatZ w D (rowAt R n).1.z (rowAt R n).2 := by
  unfold rowAt
  cases hg : getK hKey n R with
  | none => exact ⟨none, 0, 0, rfl, sl_nil w, by omega, fun hz => absurd rfl hz⟩
  | some r => exact h.dat r (getK_some hg).1
/-- One row more, or another one; its words lie in E. -/
theorem MW.store {E : Nat → Prop} {r : Hr × Value} (h : MW w g b D N K R) (hl : (putK hKey r R).length ≤ 1000) (hx : In64 r.1.n) (hd : DatZ w E r.1.z r.2) (hE : ∀ j, E j → j < w.heap.size ∧ j ≠ g ∧ j ≠ b) :
    ∃ w', (Instr.mapUpdate 99 (.map (some b)) (.int .i64 r.1.n) (hVal r)).run Try.prog w = .ok () w' ∧ MW w' g b (fun j => D j ∨ E j) N K (putK hKey r R) ∧ Keep (fun j => j = b) w w' ∧ w'.heap.size = w.heap.size := by
  obtain ⟨w', hrun, im, ht⟩ := h.rows.store Try.underlying99 (by rw [kv_len]; have := h.len; unfold maxLen; omega) hx (hVal r)
  have hk := turned_keep ht
  have e := fun o => hk.cell (b := g) o h.lt (Ne.symm h.ne)
  refine ⟨w', hrun, ⟨(e _).trans h.c0, (e _).trans h.c1, (e _).trans h.c2, Nat.lt_of_lt_of_le h.lt hk.size, h.ne, kv_put (key := hKey) (val := hVal) r R ▸ im, fun q hq => ?_, rise_put h.rise, hl, fun j hj => ?_, ?_⟩, hk, turned_size ht⟩
  · rcases mem_putK.1 hq with rfl | ⟨hq, _⟩
    · exact (hd.keep hk (fun j hj e => (hE j hj).2.2 e)).imp (fun j _ hj => .inr hj)
    · exact ((h.dat q hq).keep hk (fun j hj e => h.dj.2 (e ▸ hj))).imp (fun j _ hj => .inl hj)
  · rcases hj with hj | hj
    · exact Nat.lt_of_lt_of_le (h.old j hj) hk.size
    · exact Nat.lt_of_lt_of_le (hE j hj).1 hk.size
  · exact ⟨fun hj => hj.elim h.dj.1 (fun he => (hE _ he).2.1 rfl), fun hj => hj.elim h.dj.2 (fun he => (hE _ he).2.2 rfl)⟩
end
end Go.Proofs.Ytgeiagndpfdnlaa
