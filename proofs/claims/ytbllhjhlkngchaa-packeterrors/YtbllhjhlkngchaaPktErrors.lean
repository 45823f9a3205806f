/- The walk of PacketErrors: it answers true and writes nothing that was there. No condition. -/
import Derived.Test.YtbllhjhlkngchaaPktPack
namespace Go.Proofs.Ytbllhjhlkngchaa
open Go.RowKit
set_option linter.unusedVariables false

def pkCells (x : Pk) (d : Value) : List Value := [.int .i64 x.k, .int .i64 x.f, .int .i64 x.t, .int .i64 x.i, .int .i64 x.l, .int .i64 x.p, .int .i64 x.s, .bool x.fl, d]
def flatP (ps : List (Pk × Value)) : List Value := ps.flatMap fun q => pkCells q.1 q.2
theorem flatP_get {ps : List (Pk × Value)} {k : Nat} {q : Pk × Value} (h : ps[k]? = some q) : ∀ j u, (pkCells q.1 q.2)[j]? = some u → (flatP ps)[k * 9 + j]? = some u := by
  induction ps generalizing k with
  | nil => simp at h
  | cons x ps ih =>
    intro j u hu
    have hj : j < 9 := (List.getElem?_eq_some_iff.1 hu).1
    have e : flatP (x :: ps) = pkCells x.1 x.2 ++ flatP ps := by simp [flatP]
    have l9 : (pkCells x.1 x.2).length = 9 := rfl
    rw [e]
    cases k with
    | zero => simp at h; subst h; rw [List.getElem?_append_left (by omega), Nat.zero_mul, Nat.zero_add]; exact hu
    | succ k =>
      rw [List.getElem?_append_right (by omega), l9, show (k + 1) * 9 + j - 9 = k * 9 + j by omega]
      exact ih (by simpa using h) j u hu
/-- The packets that may not be. -/
def badPs (m : Int) (g : Nat) : List (Pk × Value) := [
  (⟨0, 0, 0, 0, 0, 0, 0, false, []⟩, .slice none 0 0),
  (⟨10 + m, 0, 0, 0, 0, 0, 0, false, []⟩, .slice none 0 0),
  (⟨-1, 0, 0, 0, 0, 0, 0, false, []⟩, .slice none 0 0),
  (⟨1, -1, 0, 0, 0, 0, 0, false, []⟩, .slice none 0 0),
  (⟨1, 6, 0, 0, 0, 0, 0, false, []⟩, .slice none 0 0),
  (⟨1, 0, -1 - m, 0, 0, 0, 0, false, []⟩, .slice none 0 0),
  (⟨1, 0, 6 + m, 0, 0, 0, 0, false, []⟩, .slice none 0 0),
  (⟨1, 0, 0, -1, 0, 0, 0, false, []⟩, .slice none 0 0),
  (⟨1, 0, 0, 4096, 0, 0, 0, false, []⟩, .slice none 0 0),
  (⟨1, 0, 0, 0, -1, 0, 0, false, []⟩, .slice none 0 0),
  (⟨1, 0, 0, 0, 8, 0, 0, false, []⟩, .slice none 0 0),
  (⟨1, 0, 0, 0, 0, -2, 0, false, []⟩, .slice none 0 0),
  (⟨1, 0, 0, 0, 0, 6, 0, false, []⟩, .slice none 0 0),
  (⟨1, 0, 0, 0, 0, 0, -1, false, []⟩, .slice none 0 0),
  (⟨1, 0, 0, 0, 0, 0, 3, false, []⟩, .slice none 0 0),
  (⟨1, 0, 0, 0, 0, 0, 0, false, [0, 0, 0, 0, 0]⟩, .slice (some ⟨g, 0, none⟩) 5 5)]
def badW (m : Int) (w : World) : World := (w.alloc (.cells (madeCells #[.int .i64 0] 5) 3)).alloc (.cells (flatP (badPs m w.heap.size)).toArray 26)
theorem wp_world {P : Program} {c : Code} {Q : Exit → Act → World → Prop} {a : Act} {w1 w2 : World} (h : w1 = w2) (hw : c.wp P Q a w2) : c.wp P Q a w1 := h ▸ hw
/-- What the walk wants of one of them. -/
structure BadAt (W : World) (g k : Nat) (x : Pk) (a : Option Addr) (n cap : Nat) : Prop where
  c0 : W.cell? ⟨g, k * 9, none⟩ = some (.int .i64 x.k)
  c1 : W.cell? ⟨g, k * 9 + 1, none⟩ = some (.int .i64 x.f)
  c2 : W.cell? ⟨g, k * 9 + 2, none⟩ = some (.int .i64 x.t)
  c3 : W.cell? ⟨g, k * 9 + 3, none⟩ = some (.int .i64 x.i)
  c4 : W.cell? ⟨g, k * 9 + 4, none⟩ = some (.int .i64 x.l)
  c5 : W.cell? ⟨g, k * 9 + 5, none⟩ = some (.int .i64 x.p)
  c6 : W.cell? ⟨g, k * 9 + 6, none⟩ = some (.int .i64 x.s)
  c7 : W.cell? ⟨g, k * 9 + 7, none⟩ = some (.bool x.fl)
  c8 : W.cell? ⟨g, k * 9 + 8, none⟩ = some (.slice a n cap)
  sl : Sl W a n cap x.z
  no : x.right = false
theorem made_own (w : World) (base n : Nat) (hb : base ≤ w.heap.size) (hn : n ≤ 1000) : Own (w.alloc (.cells (madeCells #[.int .i64 0] n) 3)) base (.slice (some ⟨w.heap.size, 0, none⟩) n n) (List.replicate n 0) := by
  have h := World.ownsRow_lit (base := base) (e := 3) (size := 1) w (madeCells #[.int .i64 0] n) n hb (by unfold maxLen; omega) (by simp [madeCells])
  rw [toList_madeCells_one] at h
  simpa [cells, Own] using h
theorem made_sl (w : World) (n : Nat) (hn : n ≤ 1000) : Sl (w.alloc (.cells (madeCells #[.int .i64 0] n) 3)) (some ⟨w.heap.size, 0, none⟩) n n (List.replicate n 0) := by
  obtain ⟨a, c, e, h⟩ := (made_own w w.heap.size n (Nat.le_refl _) hn).sl' (n := n) (by simp)
  simp at e
  obtain ⟨rfl, rfl⟩ := e
  exact h
theorem five (w : World) (o : Obj) : Sl ((w.alloc (.cells (madeCells #[.int .i64 0] 5) 3)).alloc o) (some ⟨w.heap.size, 0, none⟩) 5 5 [0, 0, 0, 0, 0] :=
  (made_sl w 5 (by omega)).below (ba (Below.refl _ _))
def fullPk : Pk := ⟨9, 5, 5, 4095, 7, 5, 2, false, [0, 0, 0, 0]⟩
def nonePk : Pk := ⟨1, 0, 0, 0, 0, -1, 0, false, []⟩
theorem full_err : fullPk.err = 0 := Pk.err_t (by decide)
theorem none_err : nonePk.err = 0 := Pk.err_t (by decide)
theorem bad_at (m : Int) (w : World) (m0 : 0 ≤ m) : ∀ k, k < 16 → ∃ x a n cap, BadAt (badW m w) (w.heap.size + 1) k x a n cap := by
  intro k hk
  have cell : ∀ q, (badPs m w.heap.size)[k]? = some q → ∀ j u, (pkCells q.1 q.2)[j]? = some u → (badW m w).cell? ⟨w.heap.size + 1, k * 9 + j, none⟩ = some u := by
    intro q hq j u hu
    have hs : (w.alloc (.cells (madeCells #[.int .i64 0] 5) 3)).heap.size = w.heap.size + 1 := by simp
    have := heap_alloc_new (w.alloc (.cells (madeCells #[.int .i64 0] 5) 3)) (.cells (flatP (badPs m w.heap.size)).toArray 26)
    rw [hs] at this
    unfold badW
    rw [cell_of_row _ _ _ _ 26 (0, 0) this]
    simpa using flatP_get hq j u hu
  have go : ∀ (x : Pk) (a : Option Addr) (n cap : Nat), (badPs m w.heap.size)[k]? = some (x, .slice a n cap) → Sl (badW m w) a n cap x.z → x.right = false → ∃ x a n cap, BadAt (badW m w) (w.heap.size + 1) k x a n cap := by
    intro x a n cap h hs hr
    have c := cell _ h
    exact ⟨x, a, n, cap, c 0 _ rfl, c 1 _ rfl, c 2 _ rfl, c 3 _ rfl, c 4 _ rfl, c 5 _ rfl, c 6 _ rfl, c 7 _ rfl, c 8 _ rfl, hs, hr⟩
  have hc : k = 0 ∨ k = 1 ∨ k = 2 ∨ k = 3 ∨ k = 4 ∨ k = 5 ∨ k = 6 ∨ k = 7 ∨ k = 8 ∨ k = 9 ∨ k = 10 ∨ k = 11 ∨ k = 12 ∨ k = 13 ∨ k = 14 ∨ k = 15 := by omega
  rcases hc with rfl | rfl | rfl | rfl | rfl | rfl | rfl | rfl | rfl | rfl | rfl | rfl | rfl | rfl | rfl | rfl
  · exact go ⟨0, 0, 0, 0, 0, 0, 0, false, []⟩ none 0 0 rfl (sl_nil _) (by simp [Pk.right, inB] <;> omega)
  · exact go ⟨10 + m, 0, 0, 0, 0, 0, 0, false, []⟩ none 0 0 rfl (sl_nil _) (by simp [Pk.right, inB] <;> omega)
  · exact go ⟨-1, 0, 0, 0, 0, 0, 0, false, []⟩ none 0 0 rfl (sl_nil _) (by simp [Pk.right, inB] <;> omega)
  · exact go ⟨1, -1, 0, 0, 0, 0, 0, false, []⟩ none 0 0 rfl (sl_nil _) (by simp [Pk.right, inB] <;> omega)
  · exact go ⟨1, 6, 0, 0, 0, 0, 0, false, []⟩ none 0 0 rfl (sl_nil _) (by simp [Pk.right, inB] <;> omega)
  · exact go ⟨1, 0, -1 - m, 0, 0, 0, 0, false, []⟩ none 0 0 rfl (sl_nil _) (by simp [Pk.right, inB] <;> omega)
  · exact go ⟨1, 0, 6 + m, 0, 0, 0, 0, false, []⟩ none 0 0 rfl (sl_nil _) (by simp [Pk.right, inB] <;> omega)
  · exact go ⟨1, 0, 0, -1, 0, 0, 0, false, []⟩ none 0 0 rfl (sl_nil _) (by simp [Pk.right, inB] <;> omega)
  · exact go ⟨1, 0, 0, 4096, 0, 0, 0, false, []⟩ none 0 0 rfl (sl_nil _) (by simp [Pk.right, inB] <;> omega)
  · exact go ⟨1, 0, 0, 0, -1, 0, 0, false, []⟩ none 0 0 rfl (sl_nil _) (by simp [Pk.right, inB] <;> omega)
  · exact go ⟨1, 0, 0, 0, 8, 0, 0, false, []⟩ none 0 0 rfl (sl_nil _) (by simp [Pk.right, inB] <;> omega)
  · exact go ⟨1, 0, 0, 0, 0, -2, 0, false, []⟩ none 0 0 rfl (sl_nil _) (by simp [Pk.right, inB] <;> omega)
  · exact go ⟨1, 0, 0, 0, 0, 6, 0, false, []⟩ none 0 0 rfl (sl_nil _) (by simp [Pk.right, inB] <;> omega)
  · exact go ⟨1, 0, 0, 0, 0, 0, -1, false, []⟩ none 0 0 rfl (sl_nil _) (by simp [Pk.right, inB] <;> omega)
  · exact go ⟨1, 0, 0, 0, 0, 0, 3, false, []⟩ none 0 0 rfl (sl_nil _) (by simp [Pk.right, inB] <;> omega)
  · exact go ⟨1, 0, 0, 0, 0, 0, 0, false, [0, 0, 0, 0, 0]⟩ (some ⟨w.heap.size, 0, none⟩) 5 5 rfl (five w _) (by simp [Pk.right])

set_option maxHeartbeats 2000000 in
set_option maxRecDepth 20000 in
theorem packetErrors_walk (n : Int) (w : World) :
    Calls Try.prog 4 #[.int .i64 n] w fun e w' => e = .returned (.bool true) ∧ Below w.heap.size w w' := by
  have n0 : 0 ≤ n % 1000 := Int.emod_nonneg _ (by omega)
  have n1 : n % 1000 < 1000 := Int.emod_lt_of_pos _ (by omega)
  generalize hm : n % 1000 = m at *
  have hmk : ∀ w : World, (Instr.makeSlice 22 (.int .i64 5) (.int .i64 5)).run Try.prog w = .ok (.slice (some ⟨w.heap.size, 0, none⟩) 5 5) (w.alloc (.cells (madeCells #[.int .i64 0] 5) 3)) := fun w => run_make_row' (P := Try.prog) 22 3 (.int .i64 0) 8 Try.underlying22 Try.infoInt rfl .i64 .i64 5 (by omega) (by omega) w
  go_enter Try.func4, Try.ntmps4
  go_wp2_with (go_at_call 10; refine (within_any _ _ _ (by omega) (by omega)).mono ?_; rintro e w1 ⟨rfl, rfl⟩; rw [hm])
  refine wp_world (w2 := badW m w) rfl ?_
  have hbad := bad_at m w n0
  have hB : Below w.heap.size w (badW m w) := ba (ba (Below.refl _ _))
  have hz : w.heap.size + 1 < (badW m w).heap.size := by simp [badW]
  clear hmk hm
  generalize badW m w = W at *
  generalize w.heap.size + 1 = g at *
  go_loopw [35] (fun i wr => ∃ k : Nat, k ≤ 16 ∧ i = .int .i64 k ∧ Below W.heap.size W wr) (fun i _ => 16 - (intOf i).toNat)
  case atStart => exact ⟨0, by omega, rfl, Below.refl _ _⟩
  case round =>
    obtain ⟨k, hk, rfl, hbr⟩ := hrel
    by_cases hlt : k < 16
    · obtain ⟨x, a, nn, cap, c0, c1, c2, c3, c4, c5, c6, c7, c8, hsl, hno⟩ := hbad k hlt
      have hcr := fun o => hbr.cell (p := ⟨g, o, none⟩) hz
      rw [← hcr] at c0 c1 c2 c3 c4 c5 c6 c7 c8
      have hslr := hsl.below hbr
      have HE : Hid (x.err = 1) := Pk.err_f hno
      have hgr : g < wr.heap.size := Nat.lt_of_lt_of_le hz hbr.size
      clear hcr hbad hsl
      go_wp2_with (first
        | (go_at_call 12; refine (pack_no x a nn cap _ (hslr.below (ba (Below.refl _ _))) hno).mono ?_; rintro e w1 ⟨rfl, hb1⟩; obtain ⟨hc1, hf1⟩ := bcell hb1; have hs1 := hslr.below (next (ba (Below.refl _ _)) hb1))
        | (go_at_call 16; refine (check_any x a nn cap _ hs1).mono ?_; rintro e w2 ⟨rfl, hb2⟩; rw [HE.out]))
      go_roundw
      case rel => exact ⟨k + 1, by omega, by go_num, next hbr (next (next (ba (Below.refl _ _)) hb1) hb2)⟩
      case measure => simp [intOf]; omega
    · clear hbad
      have hmk : ∀ w : World, (Instr.makeSlice 22 (.int .i64 4) (.int .i64 4)).run Try.prog w = .ok (.slice (some ⟨w.heap.size, 0, none⟩) 4 4) (w.alloc (.cells (madeCells #[.int .i64 0] 4) 3)) := fun w => run_make_row' (P := Try.prog) 22 3 (.int .i64 0) 8 Try.underlying22 Try.infoInt rfl .i64 .i64 4 (by omega) (by omega) w
      go_wp2_with (first
        | (go_at_call 16; have mk := hb1; clear mk; refine (check_any nonePk none 0 0 _ (sl_nil _)).mono ?_; rintro e w2 ⟨rfl, hb2⟩; rw [none_err])
        | (go_at_call 16; refine (check_any fullPk (some ⟨wr.heap.size, 0, none⟩) 4 4 _ ((made_sl wr 4 (by omega)).below (ba (Below.refl _ _)))).mono ?_; rintro e w1 ⟨rfl, hb1⟩; rw [full_err])
        | (go_at_call 15; refine (wakes_any _).mono ?_; rintro e w3 ⟨rfl, hb3⟩))
      go_ret
      exact ⟨rfl, next (next hB hbr) (next (next (next (ba (ba (Below.refl _ _))) hb1) hb2) hb3)⟩
end Go.Proofs.Ytbllhjhlkngchaa
