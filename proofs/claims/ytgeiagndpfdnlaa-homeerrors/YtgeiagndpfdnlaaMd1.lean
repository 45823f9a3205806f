/- The contracts of package memdir: New, Row, Set, Lines. Conditions: as each theorem states them. -/
import Derived.Test.YtgeiagndpfdnlaaMdOn
import Derived.Test.YtgeiagndpfdnlaaWords
import Derived.Test.YtgeiagndpfdnlaaPlanWalks2
import Derived.ArgAppend
import Derived.Lib.SliceRun
namespace Go.Proofs.Ytgeiagndpfdnlaa
open Go.RowKit Go.Maps
set_option linter.unusedVariables false
set_option maxRecDepth 20000

theorem dclone_none (w : World) : Calls Try.prog 62 #[.slice none 0 0] w fun e w' => e = .returned (.slice none 0 0) ∧ Below w.heap.size w w' := by
  obtain ⟨i0, hi, hz0, hz1, hz2⟩ := info_parts Try.infoInt
  have hz := fun w n c => Lib.run_eql_slice_nil (P := Try.prog) w 22 3 none n c 0 0 Try.underlying22
  go_enter Try.func62, Try.ntmps62
  go_wp2
  go_ret
  exact ⟨rfl, Below.refl _ _⟩
theorem dclone_some (x : Addr) (l : List Int) (n cap : Nat) (w : World) (hsl : Sl w (some x) n cap l) (h0 : 0 < n) (hb : n ≤ 17592186044416) :
    Calls Try.prog 62 #[.slice (some x) n cap] w fun e w' => ∃ a' cap', e = .returned (.slice a' n cap') ∧ Own w' w.heap.size (.slice a' n cap') l ∧ Below w.heap.size w w' := by
  obtain ⟨b, o, ex, _⟩ := hsl.at h0
  obtain rfl := Option.some.inj ex
  clear ex
  have bel : Below w.heap.size w (w.alloc (.cells #[] 3)) := ba (Below.refl _ _)
  obtain ⟨hn, hle, hmx, hnil, hr⟩ := hsl.below bel
  obtain ⟨i0, hi, hz0, hz1, hz2⟩ := info_parts Try.infoInt
  have hm : n ≤ maxLen := Nat.le_trans hle hmx
  have hz := fun w n c => Lib.run_eql_slice_nil (P := Try.prog) w 22 3 (some ⟨b, o, none⟩) n c 0 0 Try.underlying22
  go_enter Try.func62, Try.ntmps62
  go_wp2_with (at_builtin; refine wpList_append_grows _ rfl _ _ 22 rfl 3 i0 (.int .i64 0) 1 8 Try.underlying22 hi hz0 hz1 hz2 rfl (by decide) (some ⟨w.heap.size, 0, none⟩) 0 0 [] rfl (fun h => by cases h) rfl (fun _ _ j u hu => by simp at hu) ⟨b, o, none⟩ n cap (cells l) rfl (by simp [cells, hn]) hr.cellsAt (cells_one l) (by omega) (by omega) (by omega) ?_)
  intro v' w1 hown hgrow
  go_wp2
  go_ret
  have ho : Own w1 (w.heap.size + 1) v' l := by simpa [Own, hn] using hown
  obtain ⟨a', cap', rfl, _⟩ := ho.sl' hn
  exact ⟨a', cap', rfl, ho.low (by omega), bel.grown hgrow (by simp) (by intro k hk; simp at hk)⟩
/-- A copy of words, if any (an empty list comes back as what it is). -/
theorem dclone_any (a : Option Addr) (l : List Int) (n cap : Nat) (w : World) (hsl : Sl w a n cap l) (h0 : a = none ∨ 0 < n) (hb : n ≤ 17592186044416) :
    Calls Try.prog 62 #[.slice a n cap] w fun e w' => ∃ a' cap', e = .returned (.slice a' n cap') ∧ Own w' w.heap.size (.slice a' n cap') l ∧ Below w.heap.size w w' := by
  cases a with
  | none =>
    obtain ⟨rfl, rfl⟩ := hsl.none0 rfl
    obtain rfl : l = [] := List.eq_nil_of_length_eq_zero hsl.len
    refine (dclone_none w).mono ?_
    rintro e w' ⟨rfl, hb⟩
    exact ⟨none, 0, rfl, own_nil _ _, hb⟩
  | some x => exact dclone_some x l n cap w hsl (h0.resolve_left (by simp)) hb
theorem zeroH_val (w : World) : (zeroValue 94).run Try.prog w = .ok (zeroHr.val (.slice none 0 0)) w := Try.zeroValue94 w
section
variable {w : World} {g b : Nat} {D : Nat → Prop} {N K : Int} {R : List (Hr × Value)}
theorem MW.look (h : MW w g b D N K R) {n : Int} (hn : In64 n) {V : World} (hV : Below w.heap.size w V) :
    (Instr.lookup 99 (.map (some b)) (.int .i64 n) true).run Try.prog V = .ok (.tuple #[hVal (rowAt R n), .bool (hasR R n)]) V := by
  have := (h.rows.below hV).look_ok Try.underlying99 (zeroH_val V) hn
  rw [row_at, row_has] at this
  exact this
/-- The words of each row are some. -/
def Full (R : List (Hr × Value)) : Prop := ∀ r ∈ R, r.1.z ≠ []
theorem MW.rowSl (h : MW w g b D N K R) (hf : Full R) (n : Int) : ∃ a n0 cap, (rowAt R n).2 = .slice a n0 cap ∧ Sl w a n0 cap (rowAt R n).1.z ∧ (a = none ∨ 0 < n0) ∧ n0 ≤ 17592186044416 := by
  unfold rowAt
  cases hg : getK hKey n R with
  | none => exact ⟨none, 0, 0, rfl, sl_nil w, .inl rfl, by omega⟩
  | some r =>
    obtain ⟨hm, _⟩ := getK_some hg
    obtain ⟨a, n0, cap, e, hs, hb, _⟩ := h.dat r hm
    have := List.length_pos_iff.2 (hf r hm)
    exact ⟨a, n0, cap, e, hs, .inr (by have := hs.len; simp [pz] at this; omega), hb⟩
set_option maxHeartbeats 600000 in
theorem MW.row_any (h : MW w g b D N K R) (hf : Full R) {n : Int} (hn : In64 n) : Calls Try.prog 45 #[.pointer (some ⟨g, 0, none⟩), .int .i64 n] w fun e w' =>
    ∃ a cap, e = .returned (.tuple #[(rowAt R n).1.val (.slice a (rowAt R n).1.z.length cap), .bool (hasR R n)]) ∧ Own w' w.heap.size (.slice a (rowAt R n).1.z.length cap) (rowAt R n).1.z ∧ Below w.heap.size w w' := by
  have c2 := h.c2
  have lt := h.lt
  obtain ⟨a0, n0, cap0, e0, hs0, hp0, hb0⟩ := h.rowSl hf n
  have hl := h.look hn (V := w.alloc (.cells #[.int .i64 0, .int .i64 0, .slice none 0 0] 94)) (ba (Below.refl _ _))
  generalize rowAt R n = r at *
  generalize hasR R n = ok at *
  obtain ⟨x, d⟩ := r
  simp only at e0
  subst e0
  have hzl : x.z.length = n0 := hs0.len
  rw [hzl]
  go_enter Try.func45, Try.ntmps45
  go_wp2_with (go_at_call 62; refine (dclone_any a0 x.z n0 cap0 _ (hs0.below (ba (ba (Below.refl _ _)))) hp0 hb0).mono ?_; rintro e w1 ⟨a1, cap1, rfl, hown, hbel⟩; obtain ⟨k1, k2⟩ := bcell hbel)
  have z1 := hbel.size
  simp at z1
  have hlo := hown.base
  have e0 : w1.cell? ⟨w.heap.size, 0, none⟩ = some (.int .i64 0) := by rw [k1 _ _ (by simp; omega)]; simp
  have e1 : w1.cell? ⟨w.heap.size, 1, none⟩ = some (.int .i64 0) := by rw [k1 _ _ (by simp; omega)]; simp
  have e2 : w1.cell? ⟨w.heap.size, 2, none⟩ = some (.slice none 0 0) := by rw [k1 _ _ (by simp; omega)]; simp
  have K := ((((Keep.refl (fun k => k = w.heap.size + 1 ∨ k = w.heap.size) w1).setCell (p := ⟨w.heap.size + 1, 2, none⟩) (.inl (.inl rfl)) (.slice a1 n0 cap1)).setCell (p := ⟨w.heap.size, 0, none⟩) (.inl (.inr rfl)) (.int .i64 x.s)).setCell (p := ⟨w.heap.size, 1, none⟩) (.inl (.inr rfl)) (.int .i64 x.h)).setCell (p := ⟨w.heap.size, 2, none⟩) (.inl (.inr rfl)) (.slice a1 n0 cap1)
  refine bodyPost_ret (v := .tuple #[x.val (.slice a1 n0 cap1), .bool ok]) (by simp [results, Try.results45, go_sem, *]) rfl ⟨a1, cap1, rfl, ?_, K.after (next (ba (ba (Below.refl _ _))) hbel) (fun k h => by omega)⟩
  exact (hown.keep K (fun k hk e => by have := (hlo k hk).1; simp at this; omega)).low (by simp; omega)
theorem isState_any (s : Int) (w : World) : Calls Try.prog 66 #[.int .i64 s] w fun e w' => e = .returned (.bool (decide (0 ≤ s ∧ s ≤ 2))) ∧ w = w' := by
  by_cases h : 0 ≤ s ∧ s ≤ 2
  · have HD : Hid (decide (0 ≤ s ∧ s ≤ 2) = true) := decide_eq_true h
    have h3 : s = 0 ∨ s = 1 ∨ s = 2 := by omega
    rcases h3 with rfl | rfl | rfl
    all_goals (go_enter Try.func66, Try.ntmps66; go_wp2; go_ret; exact ⟨ret_bool HD.out.symm, rfl⟩)
  · have HD : Hid (decide (0 ≤ s ∧ s ≤ 2) = false) := decide_eq_false h
    have n0 : (s == 0) = false := by simp; omega
    have n1 : (s == 1) = false := by simp; omega
    have n2 : (s == 2) = false := by simp; omega
    go_enter Try.func66, Try.ntmps66
    go_wp2
    go_ret
    exact ⟨ret_bool HD.out.symm, rfl⟩
theorem fits_any (s h : Int) (w : World) : Calls Try.prog 68 #[.int .i64 s, .int .i64 h] w fun e w' => e = .returned (.bool ((s == 0) == (h == -1))) ∧ w = w' := by
  go_enter Try.func68, Try.ntmps68
  go_wp2
  go_ret
  exact ⟨rfl, rfl⟩
theorem isHead_any (g : Nat) (N h : Int) (w : World) (c0 : w.cell? ⟨g, 0, none⟩ = some (.int .i64 N)) : Calls Try.prog 67 #[.pointer (some ⟨g, 0, none⟩), .int .i64 h] w fun e w' => e = .returned (.bool (decide (-1 ≤ h ∧ h < N))) ∧ w = w' := by
  by_cases h1 : -1 ≤ h
  · by_cases h2 : h < N
    all_goals (go_enter Try.func67, Try.ntmps67; go_wp2; go_ret; exact ⟨ret_bool (by rw [Bool.eq_iff_iff]; simp <;> omega), rfl⟩)
  · go_enter Try.func67, Try.ntmps67
    go_wp2
    go_ret
    exact ⟨ret_bool (by rw [Bool.eq_iff_iff]; simp <;> omega), rfl⟩
theorem isData_any (g : Nat) (K : Int) (a : Option Addr) (n cap : Nat) (w : World) (c1 : w.cell? ⟨g, 1, none⟩ = some (.int .i64 K)) : Calls Try.prog 69 #[.pointer (some ⟨g, 0, none⟩), .slice a n cap] w fun e w' => e = .returned (.bool (decide (n = 0 ∨ (n : Int) = K))) ∧ w = w' := by
  by_cases h1 : n = 0
  · have HD : Hid (decide (n = 0 ∨ (n : Int) = K) = true) := decide_eq_true (.inl h1)
    subst h1
    go_enter Try.func69, Try.ntmps69
    go_wp2
    go_ret
    exact ⟨ret_bool rfl, rfl⟩
  · obtain ⟨b, hb⟩ : ∃ b, decide ((n : Int) = K) = b := ⟨_, rfl⟩
    have HD : Hid (decide (n = 0 ∨ (n : Int) = K) = ((n : Int) == K)) := by show _ = _; rw [Bool.eq_iff_iff]; simp [h1]
    have hn : ((n : Int) == 0) = false := by simp; omega
    go_enter Try.func69, Try.ntmps69
    go_wp2
    go_ret
    exact ⟨ret_bool HD.out.symm, rfl⟩
end
end Go.Proofs.Ytgeiagndpfdnlaa
