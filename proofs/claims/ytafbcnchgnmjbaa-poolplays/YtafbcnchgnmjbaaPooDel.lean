/- slices.Delete of one packet out of a row of packets. Conditions: as each theorem states them. -/
import Derived.Test.YtafbcnchgnmjbaaQue0
import Derived.Deep.RegionLaw
import Derived.Lib.SliceRun
namespace Go.Proofs.Ytafbcnchgnmjbaa
open Go.RowKit
set_option linter.unusedVariables false

theorem some_setCells (b : Nat) : ∀ (vs : List Value) (o : Nat) (w : World) (p : Addr), (w.cell? p).isSome = true → ((w.setCells b o vs).cell? p).isSome = true
  | [], _, _, _, h => h
  | v :: r, o, w, p, h => some_setCells b r (o + 1) _ p (by
      by_cases e : (⟨b, o, none⟩ : Addr) = p
      · subst e
        rw [World.cell?_setCell_same' _ _ _ h]
        rfl
      · rw [World.cell?_setCell_other _ _ _ _ e]
        exact h)
/-- 'clear' of one element of more than one cell. -/
theorem run_clear_one {P : Program} (w : World) (t e ty : TypeId) (z : Value) (ht : P.underlying t = some (.slice e)) (hv : ∀ w, (zeroValue e).run P w = .ok z w) (zs : List Value) (hz : (Builtin.zeroCells z.cells 1).toList = zs) (h1 : ∀ u ∈ zs, u.oneCell' = true) (b o c : Nat)
    (hc : ∀ j, j < zs.length → (w.cell? ⟨b, o + j, none⟩).isSome = true) (hf : ∀ j, j < zs.length → w.frozen? ⟨b, o + j, none⟩ = false) :
    (Builtin.clear_ #[t] ty #[.slice (some ⟨b, o, none⟩) 1 c]).run P w = .ok (.tuple #[]) (w.setCells b o zs) := by
  have hst := run_storeCells_cells (P := P) b o zs 0 w (by simpa using hc) (by simpa using hf) h1
  simp only [Nat.add_zero] at hst
  simp [Builtin.clear_, run_underlying ht, hv, hz, hst]
theorem zeroPk_val (w : World) : (zeroValue 29).run Try.prog w = .ok (zeroPk.val (.slice none 0 0)) w := by
  obtain ⟨i0, hi, hp0, hp1, hp2⟩ := info_parts Try.infoPk
  simp [zeroValue, typeInfo, hi, hp0]
/-- The row behind both. -/
theorem rw_deleted {w : World} {S : Nat → Prop} {b o n cap k : Nat} {R : List (Pk × Value)} (hr : Rw w S (some ⟨b, o, none⟩) n cap 9 (pflat R)) (hl : R.length = n) (hk : k < n) :
    Rw ((w.setCells b (o + k * 9) (pflat (R.drop (k + 1)))).setCells b (o + (n - 1) * 9) (pcells zeroPk (.slice none 0 0))) S (some ⟨b, o, none⟩) (n - 1) cap 9 (pflat (R.eraseIdx k)) ∧
    Keep (fun j => j = b) w ((w.setCells b (o + k * 9) (pflat (R.drop (k + 1)))).setCells b (o + (n - 1) * 9) (pcells zeroPk (.slice none 0 0))) := by
  have hle := hr.le
  have hm := hr.max
  have kk : Keep (fun j => j = b) w ((w.setCells b (o + k * 9) (pflat (R.drop (k + 1)))).setCells b (o + (n - 1) * 9) (pcells zeroPk (.slice none 0 0))) :=
    Keep.setCells (F := fun j => j = b) (b := b) (.inl rfl) _ _ _ (Keep.setCells (F := fun j => j = b) (b := b) (.inl rfl) _ _ _ (Keep.refl _ _))
  refine ⟨⟨by rw [pflat_len, List.length_eraseIdx_of_lt (by omega), hl], by omega, hm, fun h => (by cases h), ?_⟩, kk⟩
  rcases hr.row with h0 | ⟨b', o', e, hs, hb, hc, hf⟩
  · omega
  · simp at e
    obtain ⟨rfl, rfl⟩ := e
    refine .inr ⟨b, o, rfl, hs, Nat.lt_of_lt_of_le hb kk.size, fun i u hu => ?_, fun i hi => ?_⟩
    · have hlen : (pflat (R.eraseIdx k)).length = (n - 1) * 9 := by rw [pflat_len, List.length_eraseIdx_of_lt (by omega), hl]
      have hi : i < (n - 1) * 9 := by rw [← hlen]; exact (List.getElem?_eq_some_iff.1 hu).1
      rw [World.cell?_setCells_out b _ _ _ ⟨b, o + i, none⟩ (fun _ _ => .inl (by simp only; omega))]
      rw [List.eraseIdx_eq_take_drop_succ, pflat_append] at hu
      have hlt : (pflat (R.take k)).length = k * 9 := by rw [pflat_len, List.length_take, Nat.min_eq_left (by omega)]
      by_cases hik : i < k * 9
      · rw [World.cell?_setCells_out b _ _ _ ⟨b, o + i, none⟩ (fun _ _ => .inl (by simp only; omega))]
        rw [List.getElem?_append_left (by omega)] at hu
        refine hc i u ?_
        rw [show R = R.take k ++ R.drop k from (List.take_append_drop k R).symm, pflat_append, List.getElem?_append_left (by omega)]
        exact hu
      · rw [List.getElem?_append_right (by omega), hlt] at hu
        have hj : i - k * 9 < (pflat (R.drop (k + 1))).length := (List.getElem?_eq_some_iff.1 hu).1
        have hsome : ∀ j, j < (pflat (R.drop (k + 1))).length → (w.cell? ⟨b, o + k * 9 + j, none⟩).isSome = true := fun j hj => by
          rw [pflat_len, List.length_drop] at hj
          rw [Nat.add_assoc]
          exact (hf (k * 9 + j) (by omega)).1
        have := World.cell?_setCells_in b (pflat (R.drop (k + 1))) (o + k * 9) w hsome (i - k * 9) hj
        rw [show o + i = o + k * 9 + (i - k * 9) by omega, this, ← List.getElem?_eq_getElem hj]
        exact hu
    · rw [World.frozen?_setCells, World.frozen?_setCells]
      exact ⟨some_setCells _ _ _ _ _ (some_setCells _ _ _ _ _ (hf i hi).1), (hf i hi).2⟩
set_option maxHeartbeats 600000 in
theorem delete_one (w : World) {S : Nat → Prop} {b o n cap k : Nat} {R : List (Pk × Value)} (hr : Rw w S (some ⟨b, o, none⟩) n cap 9 (pflat R)) (hl : R.length = n) (hk : k < n) (h1 : ∀ r ∈ R, r.2.oneCell' = true) (j : Int) (hj : j = ((k + 1 : Nat) : Int)) :
    Calls Try.prog 23 #[.slice (some ⟨b, o, none⟩) n cap, .int .i64 (k : Int), .int .i64 j] w fun e w' => e = .returned (.slice (some ⟨b, o, none⟩) (n - 1) cap) ∧
      Rw w' S (some ⟨b, o, none⟩) (n - 1) cap 9 (pflat (R.eraseIdx k)) ∧ Keep (fun j => j = b) w w' := by
  subst hj
  obtain ⟨i0, hi, hp0, hp1, hp2⟩ := info_parts Try.infoPk
  have hle := hr.le
  have hm := hr.max
  have HD := rw_deleted (w := w.drew) (S := S) (k := k) (hr.below ((Below.refl _ _).drew)) hl hk
  have hB : Below w.heap.size w w.drew := (Below.refl _ _).drew
  obtain ⟨hc, hf⟩ : (∀ i u, (pflat R)[i]? = some u → w.drew.cell? ⟨b, o + i, none⟩ = some u) ∧ (∀ i, i < cap * 9 → (w.drew.cell? ⟨b, o + i, none⟩).isSome = true ∧ w.drew.frozen? ⟨b, o + i, none⟩ = false) := by
    rcases hr.row with h0 | ⟨b', o', e, hs, hb, hc, hf⟩
    · omega
    · simp at e
      obtain ⟨rfl, rfl⟩ := e
      exact ⟨hc, hf⟩
  obtain ⟨news, hnews⟩ : ∃ news, pflat (R.drop (k + 1)) = news := ⟨_, rfl⟩
  have hlen : news.length = (n - (k + 1)) * 9 := by rw [← hnews, pflat_len, List.length_drop, hl]
  obtain ⟨A, hA, hsrc⟩ : ∃ A : Addr, (if cap = k + 1 then some (⟨b, o, none⟩ : Addr) else some ⟨b, o + (k + 1) * 9, none⟩) = some A ∧ Hid (∀ t u, news[t]? = some u → w.drew.cell? (A.add t) = some u) := by
    by_cases h : cap = k + 1
    · refine ⟨⟨b, o, none⟩, by simp [h], fun t u hu => ?_⟩
      have h0 : news.length = 0 := by rw [hlen]; omega
      rw [List.length_eq_zero_iff.1 h0] at hu
      simp at hu
    · refine ⟨⟨b, o + (k + 1) * 9, none⟩, by simp [h], fun t u hu => ?_⟩
      rw [Addr.add_lit, Nat.add_assoc]
      refine hc _ u ?_
      have hlt : (pflat (R.take (k + 1))).length = (k + 1) * 9 := by rw [pflat_len, List.length_take, Nat.min_eq_left (by omega)]
      rw [show R = R.take (k + 1) ++ R.drop (k + 1) from (List.take_append_drop _ R).symm, pflat_append, hnews, List.getElem?_append_right (by omega), hlt, show (k + 1) * 9 + t - (k + 1) * 9 = t by omega]
      exact hu
  have s1 : Hid (news.length = (n - (k + 1)) * 9) := hlen
  have s2 : Hid (∀ u ∈ news, u.oneCell' = true) := by
    intro u hu
    rw [← hnews] at hu
    obtain ⟨r, hr2, hu2⟩ := List.mem_flatMap.1 hu
    exact pcells_one (h1 r (List.mem_of_mem_drop hr2)) u hu2
  have s3 : Hid (∀ t, t < news.length → (w.drew.cell? ⟨b, o + k * 9 + t, none⟩).isSome = true ∧ w.drew.frozen? ⟨b, o + k * 9 + t, none⟩ = false) := by
    intro t ht
    rw [hlen] at ht
    rw [Nat.add_assoc]
    exact hf _ (by omega)
  obtain ⟨W1, hW1⟩ : ∃ W1, W1 = w.drew.setCells b (o + k * 9) news := ⟨_, rfl⟩
  have e1 : k + (n - (k + 1)) = n - 1 := by omega
  have e2 : n - (n - 1) = 1 := by omega
  have hcl : ∀ ty, (Builtin.clear_ #[38] ty #[.slice (some ⟨b, o + (n - 1) * 9, none⟩) 1 (cap - (n - 1))]).run Try.prog W1 = .ok (.tuple #[]) (W1.setCells b (o + (n - 1) * 9) (pcells zeroPk (.slice none 0 0))) := fun ty =>
    run_clear_one W1 _ _ ty _ Try.underlying38 zeroPk_val _ (by kernel_rfl) (pcells_one rfl) b _ _
      (fun j hj => by rw [hW1, Nat.add_assoc]; exact some_setCells _ _ _ _ _ (hf _ (by simp [pcells] at hj; omega)).1)
      (fun j hj => by rw [hW1, World.frozen?_setCells, Nat.add_assoc]; exact (hf _ (by simp [pcells] at hj; omega)).2)
  have hW : Hid (W1 = w.drew.setCells b (o + k * 9) news) := hW1
  have HD' : Hid (Rw (W1.setCells b (o + (n - 1) * 9) (pcells zeroPk (.slice none 0 0))) S (some ⟨b, o, none⟩) (n - 1) cap 9 (pflat (R.eraseIdx k)) ∧ Keep (fun j => j = b) w.drew (W1.setCells b (o + (n - 1) * 9) (pcells zeroPk (.slice none 0 0)))) := by
    rw [hW1, ← hnews]; exact HD
  have hic : k ≤ cap := by omega
  have hjc : k + 1 ≤ cap := by omega
  have hb1 : 0 ≤ (k : Int) + 1 ∧ (k : Int) + 1 ≤ (n : Int) := by omega
  have hkn : ((k : Int) == ((k + 1 : Nat) : Int)) = false := by simp; omega
  unfold maxLen at hm
  clear hW1 HD hlen hnews hc hf hr h1
  go_enter Try.func23, Try.ntmps23
  go_wp2_with fail
  go_region_law (refine step_append_room rfl (.tmp 22) (.tmp 25) 38 rfl 29 i0 9 Try.underlying38 hi hp1 b o k cap (by simp [Act.eval, Act.put]) A (n - (k + 1)) (cap - (k + 1)) news (by simp [Act.eval, Act.put]) s1.out hsrc.out s2.out (by omega) s3.out ?_; rw [← hW.out])
  go_wp2
  go_ret
  exact ⟨rfl, HD'.out.1, (Keep.of_below hB).trans HD'.out.2 (fun _ _ h => h)⟩
end Go.Proofs.Ytafbcnchgnmjbaa
