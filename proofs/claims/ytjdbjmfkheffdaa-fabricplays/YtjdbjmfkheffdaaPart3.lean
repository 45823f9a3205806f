/- Rows of packets whose slices lie in one block, a cell each (Net): what may be read of them, and what a write to one of them leaves of the others. Nothing of the program but packets is named here.
Many queues and pools beside each other (Many): what is done with one leaves the others as they were. Nothing of the program but packets is named here.
Words as bytes and back; packets as bytes and back. No condition.
The contracts of packet's within, Check and flagByte. Conditions: as each theorem states them.
The contract of packet.head: a packet's first ten bytes, in new memory. Conditions: as stated.
The contracts of packet.appendWord, Pack and of the statements' wakes. Conditions: as each theorem states them.
The contracts of slices.Equal over whole numbers and of packet.Same. Conditions: as each theorem states them.
(What stood here stands in Pk0.)
The contracts of packet's readWord, readWords and hasForm. Conditions: as each theorem states them.
Regions that draw their order and end in a store into memory that was there: as Take, but of the world behind the last operation nothing is asked. Nothing of the program is named here. -/
import Derived.Test.YtjdbjmfkheffdaaPart2
import Derived.Deep.CutBlock
import Derived.ArgAppend
section
namespace Go.Proofs.Ytjdbjmfkheffdaa
open Go.RowKit
set_option linter.unusedVariables false

/-- A function turned at one place. -/
def upd {α : Type} (F : Nat → α) (q : Nat) (v : α) : Nat → α := fun x => if x = q then v else F x
theorem upd_same {α : Type} (F : Nat → α) (q : Nat) (v : α) : upd F q v q = v := by simp [upd]
theorem upd_other {α : Type} (F : Nat → α) {q x : Nat} (v : α) (h : x ≠ q) : upd F q v x = F x := by simp [upd, h]
/-- m rows of packets; the slice of row q lies in cell q of the block gs, its packets in blocks of M q, their words in blocks of D. -/
structure Net (w : World) (gs m : Nat) (F : Nat → List Pk) (M : Nat → Nat → Prop) (D : Nat → Prop) : Prop where
  row : ∀ q, q < m → ∃ R a cap, w.cell? ⟨gs, q, none⟩ = some (.slice a (F q).length cap) ∧ PRow w (M q) D (F q) R a (F q).length cap
  fz : ∀ o, w.frozen? ⟨gs, o, none⟩ = false
  lt : gs < w.heap.size
  dj : ∀ q q', q < m → q' < m → q ≠ q' → ∀ k, M q k → ¬ M q' k
  ngs : ∀ q, q < m → ¬ M q gs
  dgs : ¬ D gs
theorem Net.old {w : World} {gs m : Nat} {F : Nat → List Pk} {M : Nat → Nat → Prop} {D : Nat → Prop} (h : Net w gs m F M D) {q k : Nat} (hq : q < m) (hk : M q k) : k < w.heap.size := by
  obtain ⟨R, a, cap, _, hp⟩ := h.row q hq
  exact hp.old k hk
theorem Net.nd {w : World} {gs m : Nat} {F : Nat → List Pk} {M : Nat → Nat → Prop} {D : Nat → Prop} (h : Net w gs m F M D) {q k : Nat} (hq : q < m) (hk : M q k) : ¬ D k := by
  obtain ⟨R, a, cap, _, hp⟩ := h.row q hq
  exact hp.dj k hk
theorem Net.keep {w w' : World} {gs m : Nat} {F : Nat → List Pk} {M : Nat → Nat → Prop} {D X : Nat → Prop} (h : Net w gs m F M D) (hk : Keep X w w') (hg : ¬ X gs) (hM : ∀ q k, q < m → M q k → ¬ X k) (hD : ∀ k, D k → ¬ X k) : Net w' gs m F M D := by
  refine ⟨fun q hq => ?_, fun o => by rw [hk.frozen o h.lt hg]; exact h.fz o, Nat.lt_of_lt_of_le h.lt hk.size, h.dj, h.ngs, h.dgs⟩
  obtain ⟨R, a, cap, hc, hp⟩ := h.row q hq
  refine ⟨R, a, cap, by rw [hk.cell q h.lt hg]; exact hc, hp.keep hk (fun k hk' => ?_)⟩
  rcases hk' with hk' | hk'
  · exact hM q k hq hk'
  · exact hD k hk'
theorem Net.below {w w' : World} {gs m : Nat} {F : Nat → List Pk} {M : Nat → Nat → Prop} {D : Nat → Prop} (h : Net w gs m F M D) (hb : Below w.heap.size w w') : Net w' gs m F M D :=
  h.keep (X := fun _ => False) (Keep.of_below hb) id (fun _ _ _ _ h => h) (fun _ _ h => h)
/-- One row is turned: its packets first (in its own blocks, or in new ones), then its slice. -/
theorem Net.set {w w1 : World} {gs m q : Nat} {F : Nat → List Pk} {M : Nat → Nat → Prop} {D N : Nat → Prop} {L : List Pk} {R : List (Pk × Value)} {a : Option Addr} {n cap : Nat} (h : Net w gs m F M D) (hq : q < m) (hk : Keep (M q) w w1) (hp : PRow w1 N D L R a n cap) (hN : ∀ k, N k → M q k ∨ w.heap.size ≤ k) :
    Net (w1.setCell ⟨gs, q, none⟩ (.slice a n cap)) gs m (upd F q L) (upd M q N) D ∧ Keep (fun k => k = gs ∨ M q k) w (w1.setCell ⟨gs, q, none⟩ (.slice a n cap)) := by
  have k2 := Keep.one w1 gs q (.slice a n cap)
  have lt1 : gs < w1.heap.size := Nat.lt_of_lt_of_le h.lt hk.size
  have ngN : ¬ N gs := fun hn => by
    rcases hN gs hn with hn | hn
    · exact h.ngs q hq hn
    · have := h.lt; omega
  refine ⟨⟨fun x hx => ?_, fun o => ?_, Nat.lt_of_lt_of_le lt1 k2.size, fun x y hx hy hxy k h1 h2 => ?_, fun x hx => ?_, h.dgs⟩, ?_⟩
  · by_cases hxq : x = q
    · subst hxq
      obtain ⟨R0, a0, cap0, hc0, _⟩ := h.row x hx
      rw [upd_same, upd_same]
      have hl := hp.len
      refine ⟨R, a, cap, ?_, ?_⟩
      · rw [hl, World.cell?_setCell_same w1 ⟨gs, x, none⟩ _ (u := .slice a0 (F x).length cap0) (by rw [hk.cell x h.lt (h.ngs x hx)]; exact hc0)]
      · rw [hl]
        refine hp.keep k2 (fun k hk' e => ?_)
        subst e
        rcases hk' with hk' | hk'
        · exact ngN hk'
        · exact h.dgs hk'
    · obtain ⟨R0, a0, cap0, hc0, hp0⟩ := h.row x hx
      rw [upd_other _ _ hxq, upd_other _ _ hxq]
      refine ⟨R0, a0, cap0, ?_, ?_⟩
      · rw [World.cell?_setCell_other _ _ _ _ (by simp <;> omega), hk.cell x h.lt (h.ngs q hq)]
        exact hc0
      · refine (hp0.keep hk (fun k hk' hm => ?_)).keep k2 (fun k hk' e => ?_)
        · rcases hk' with hk' | hk'
          · exact h.dj x q hx hq hxq k hk' hm
          · exact h.nd hq hm hk'
        · subst e
          rcases hk' with hk' | hk'
          · exact h.ngs x hx hk'
          · exact h.dgs hk'
  · rw [World.frozen?_setCell, hk.frozen o h.lt (h.ngs q hq)]
    exact h.fz o
  · by_cases hxq : x = q
    · subst hxq
      rw [upd_same] at h1
      rw [upd_other _ _ (Ne.symm hxy)] at h2
      rcases hN k h1 with h1 | h1
      · exact h.dj x y hx hy hxy k h1 h2
      · have := h.old hy h2; omega
    · rw [upd_other _ _ hxq] at h1
      by_cases hyq : y = q
      · subst hyq
        rw [upd_same] at h2
        rcases hN k h2 with h2 | h2
        · exact h.dj x y hx hy hxy k h1 h2
        · have := h.old hx h1; omega
      · rw [upd_other _ _ hyq] at h2
        exact h.dj x y hx hy hxy k h1 h2
  · by_cases hxq : x = q
    · subst hxq; rw [upd_same]; exact ngN
    · rw [upd_other _ _ hxq]; exact h.ngs x hx
  · exact ((Keep.mono hk (fun k _ h => .inr h)).trans k2 (fun k _ e => .inl e))
end Go.Proofs.Ytjdbjmfkheffdaa
end
section
namespace Go.Proofs.Ytjdbjmfkheffdaa
open Go.RowKit
set_option linter.unusedVariables false

/-- m queues or pools, number q at block G q; no two of them share memory, and none has memory of Z. -/
structure Many (w : World) (m : Nat) (G : Nat → Nat) (M D : Nat → Nat → Prop) (room : Nat → Int) (F : Nat → List Pk) (Z : Nat → Prop) : Prop where
  qu : ∀ q, q < m → Qu w (G q) (M q) (D q) (room q) (F q)
  dj : ∀ q q', q < m → q' < m → q ≠ q' → ∀ k, M q k ∨ D q k → ¬ (M q' k ∨ D q' k)
  nz : ∀ q, q < m → ∀ k, M q k ∨ D q k → ¬ Z k
theorem Many.old {w : World} {m : Nat} {G : Nat → Nat} {M D : Nat → Nat → Prop} {room : Nat → Int} {F : Nat → List Pk} {Z : Nat → Prop} (h : Many w m G M D room F Z) {q k : Nat} (hq : q < m) (hk : M q k ∨ D q k) : k < w.heap.size := (h.qu q hq).old k hk
theorem Many.keep {w w' : World} {m : Nat} {G : Nat → Nat} {M D : Nat → Nat → Prop} {room : Nat → Int} {F : Nat → List Pk} {Z X : Nat → Prop} (h : Many w m G M D room F Z) (hk : Keep X w w') (hX : ∀ q, q < m → ∀ k, M q k ∨ D q k → ¬ X k) : Many w' m G M D room F Z :=
  ⟨fun q hq => (h.qu q hq).keep hk (hX q hq), h.dj, h.nz⟩
theorem Many.below {w w' : World} {m : Nat} {G : Nat → Nat} {M D : Nat → Nat → Prop} {room : Nat → Int} {F : Nat → List Pk} {Z : Nat → Prop} (h : Many w m G M D room F Z) (hb : Below w.heap.size w w') : Many w' m G M D room F Z :=
  h.keep (X := fun _ => False) (Keep.of_below hb) (fun _ _ _ _ h => h)
theorem Many.zkeep {w w' : World} {m : Nat} {G : Nat → Nat} {M D : Nat → Nat → Prop} {room : Nat → Int} {F : Nat → List Pk} {Z : Nat → Prop} (h : Many w m G M D room F Z) (hk : Keep Z w w') : Many w' m G M D room F Z :=
  h.keep hk (fun q hq k hk => h.nz q hq k hk)
/-- One of them is turned. -/
theorem Many.step {w w' : World} {m q : Nat} {G : Nat → Nat} {M D : Nat → Nat → Prop} {room : Nat → Int} {F : Nat → List Pk} {Z M' D' : Nat → Prop} {L : List Pk} (h : Many w m G M D room F Z) (hq : q < m) (hk : Keep (M q) w w') (hqu : Qu w' (G q) M' D' (room q) L)
    (hM : ∀ k, M' k → M q k ∨ w.heap.size ≤ k) (hD : ∀ k, D' k → D q k ∨ w.heap.size ≤ k) (hZ : ∀ k, Z k → k < w.heap.size) : Many w' m G (upd M q M') (upd D q D') room (upd F q L) Z := by
  have hin : ∀ k, M' k ∨ D' k → (M q k ∨ D q k) ∨ w.heap.size ≤ k := fun k h => by
    rcases h with h | h
    · exact (hM k h).imp .inl id
    · exact (hD k h).imp .inr id
  refine ⟨fun x hx => ?_, fun x y hx hy hxy k h1 h2 => ?_, fun x hx k h1 hz => ?_⟩
  · by_cases hxq : x = q
    · subst hxq; rw [upd_same, upd_same, upd_same]; exact hqu
    · rw [upd_other _ _ hxq, upd_other _ _ hxq, upd_other _ _ hxq]
      exact (h.qu x hx).keep hk (fun k hk' hm => h.dj x q hx hq hxq k hk' (.inl hm))
  · by_cases hxq : x = q
    · subst hxq
      rw [upd_same, upd_same] at h1
      rw [upd_other _ _ (Ne.symm hxy), upd_other _ _ (Ne.symm hxy)] at h2
      rcases hin k h1 with h1 | h1
      · exact h.dj x y hx hy hxy k h1 h2
      · have := h.old hy h2; omega
    · rw [upd_other _ _ hxq, upd_other _ _ hxq] at h1
      by_cases hyq : y = q
      · subst hyq
        rw [upd_same, upd_same] at h2
        rcases hin k h2 with h2 | h2
        · exact h.dj x y hx hy hxy k h1 h2
        · have := h.old hx h1; omega
      · rw [upd_other _ _ hyq, upd_other _ _ hyq] at h2
        exact h.dj x y hx hy hxy k h1 h2
  · by_cases hxq : x = q
    · subst hxq
      rw [upd_same, upd_same] at h1
      rcases hin k h1 with h1 | h1
      · exact h.nz x hx k h1 hz
      · have := hZ k hz; omega
    · rw [upd_other _ _ hxq, upd_other _ _ hxq] at h1
      exact h.nz x hx k h1 hz
/-- One more of them, in new memory. -/
theorem Many.more {w w' : World} {m g : Nat} {G : Nat → Nat} {M D : Nat → Nat → Prop} {room : Nat → Int} {F : Nat → List Pk} {Z M' D' : Nat → Prop} {r : Int} {L : List Pk} (h : Many w m G M D room F Z) (hb : Below w.heap.size w w') (hqu : Qu w' g M' D' r L) (hnew : ∀ k, M' k ∨ D' k → w.heap.size ≤ k) (hZ : ∀ k, Z k → k < w.heap.size) :
    Many w' (m + 1) (upd G m g) (upd M m M') (upd D m D') (upd room m r) (upd F m L) Z := by
  have h' := h.below hb
  refine ⟨fun x hx => ?_, fun x y hx hy hxy k h1 h2 => ?_, fun x hx k h1 hz => ?_⟩
  · by_cases hxq : x = m
    · subst hxq; simp only [upd_same]; exact hqu
    · simp only [upd_other _ _ hxq]
      exact h'.qu x (by omega)
  · by_cases hxq : x = m
    · subst hxq
      rw [upd_same, upd_same] at h1
      rw [upd_other _ _ (Ne.symm hxy), upd_other _ _ (Ne.symm hxy)] at h2
      have := hnew k h1
      have := h.old (q := y) (by omega) h2
      omega
    · rw [upd_other _ _ hxq, upd_other _ _ hxq] at h1
      by_cases hyq : y = m
      · subst hyq
        rw [upd_same, upd_same] at h2
        have := hnew k h2
        have := h.old (q := x) (by omega) h1
        omega
      · rw [upd_other _ _ hyq, upd_other _ _ hyq] at h2
        exact h.dj x y (by omega) (by omega) hxy k h1 h2
  · by_cases hxq : x = m
    · subst hxq
      rw [upd_same, upd_same] at h1
      have := hnew k h1
      have := hZ k hz
      omega
    · rw [upd_other _ _ hxq, upd_other _ _ hxq] at h1
      exact h.nz x (by omega) k h1 hz
end Go.Proofs.Ytjdbjmfkheffdaa
end
section
namespace Go.Proofs.Ytjdbjmfkheffdaa
open Go.RowKit
set_option linter.unusedVariables false
set_option maxRecDepth 20000

/-- One byte more, as the walk spells it. -/
def rdStep (d x : Int) : Int := bits .or .u64 (IntKind.u64.wrap (d * 256)) x
def rdN (l : List Int) : Int := l.foldl rdStep 0
def wordOf (l : List Int) : Int := IntKind.i64.wrap (rdN l)
theorem rdStep_eq {d x : Int} (h0 : 0 ≤ x) (h1 : x < 256) : rdStep d x = (d * 256) % 18446744073709551616 + x := by
  unfold rdStep
  rw [IntKind.wrap_u64]
  have a0 : 0 ≤ (d * 256) % 18446744073709551616 := Int.emod_nonneg _ (by omega)
  have a1 : (d * 256) % 18446744073709551616 < 18446744073709551616 := Int.emod_lt_of_pos _ (by omega)
  have a2 : (d * 256) % 18446744073709551616 % 256 = 0 := by omega
  generalize (d * 256) % 18446744073709551616 = e at *
  rw [u64_or e x a0 a1 h0 (by omega), nat_join 8 _ _ (by omega) (by omega)]
  omega
theorem rdN_snoc (l : List Int) (x : Int) : rdN (l ++ [x]) = rdStep (rdN l) x := by unfold rdN; rw [List.foldl_append]; rfl
theorem rdN_take (l : List Int) (k : Nat) (h : k < l.length) : rdN (l.take (k + 1)) = rdStep (rdN (l.take k)) (l[k]?.getD 0) := by
  rw [List.take_succ_eq_append_getElem h, rdN_snoc]; simp [h]
theorem rdStep_bd {d x : Int} (h0 : 0 ≤ x) (h1 : x < 256) : 0 ≤ rdStep d x ∧ rdStep d x < 18446744073709551616 := by
  rw [rdStep_eq h0 h1]
  have a0 : 0 ≤ (d * 256) % 18446744073709551616 := Int.emod_nonneg _ (by omega)
  have a1 : (d * 256) % 18446744073709551616 < 18446744073709551616 := Int.emod_lt_of_pos _ (by omega)
  have a2 : (d * 256) % 18446744073709551616 % 256 = 0 := by omega
  omega
theorem rdN_bd {l : List Int} (h : B.B8 l) : 0 ≤ rdN l ∧ rdN l < 18446744073709551616 := by
  rcases List.eq_nil_or_concat l with rfl | ⟨m, x, rfl⟩
  · unfold rdN; simp
  · rw [List.concat_eq_append, rdN_snoc]
    have := h x (by simp)
    exact rdStep_bd this.1 this.2
/-- Eight bytes, and their number. -/
theorem rd8 {b0 b1 b2 b3 b4 b5 b6 b7 : Int} (h : B.B8 [b0, b1, b2, b3, b4, b5, b6, b7]) : rdN [b0, b1, b2, b3, b4, b5, b6, b7] = ((((((b0 * 256 + b1) * 256 + b2) * 256 + b3) * 256 + b4) * 256 + b5) * 256 + b6) * 256 + b7 := by
  have h0 := h b0 (by simp); have h1 := h b1 (by simp); have h2 := h b2 (by simp); have h3 := h b3 (by simp)
  have h4 := h b4 (by simp); have h5 := h b5 (by simp); have h6 := h b6 (by simp); have h7 := h b7 (by simp)
  unfold rdN
  simp only [List.foldl]
  rw [rdStep_eq h0.1 h0.2, rdStep_eq h1.1 h1.2, rdStep_eq h2.1 h2.2, rdStep_eq h3.1 h3.2, rdStep_eq h4.1 h4.2, rdStep_eq h5.1 h5.2, rdStep_eq h6.1 h6.2, rdStep_eq h7.1 h7.2]
  omega
theorem word8 (v : Int) : wordI v = [IntKind.u64.wrap v / 72057594037927936 % 256, IntKind.u64.wrap v / 281474976710656 % 256, IntKind.u64.wrap v / 1099511627776 % 256, IntKind.u64.wrap v / 4294967296 % 256, IntKind.u64.wrap v / 16777216 % 256, IntKind.u64.wrap v / 65536 % 256, IntKind.u64.wrap v / 256 % 256, IntKind.u64.wrap v % 256] := by
  have e : List.range 8 = [0, 1, 2, 3, 4, 5, 6, 7] := by decide
  unfold wordI wordN
  rw [e]
  simp [wbyte]
theorem wordOf_wordI {v : Int} (h : -9223372036854775808 ≤ v ∧ v ≤ 9223372036854775807) : wordOf (wordI v) = v := by
  unfold wordOf
  have hb := wordN_b8 v 8
  have hb' : B.B8 (wordI v) := hb
  rw [word8] at hb' ⊢
  rw [rd8 hb']
  have a0 : 0 ≤ IntKind.u64.wrap v := by rw [IntKind.wrap_u64]; omega
  have a1 : IntKind.u64.wrap v < 18446744073709551616 := by rw [IntKind.wrap_u64]; omega
  have a2 : IntKind.u64.wrap v = v ∨ IntKind.u64.wrap v = v + 18446744073709551616 := by rw [IntKind.wrap_u64]; omega
  generalize IntKind.u64.wrap v = N at *
  have e : ((((((N / 72057594037927936 % 256 * 256 + N / 281474976710656 % 256) * 256 + N / 1099511627776 % 256) * 256 + N / 4294967296 % 256) * 256 + N / 16777216 % 256) * 256 + N / 65536 % 256) * 256 + N / 256 % 256) * 256 + N % 256 = N := by omega
  rw [e, IntKind.wrap_i64]
  omega
theorem len8 {l : List Int} (h : l.length = 8) : ∃ b0 b1 b2 b3 b4 b5 b6 b7, l = [b0, b1, b2, b3, b4, b5, b6, b7] := by
  match l, h with
  | [b0, b1, b2, b3, b4, b5, b6, b7], _ => exact ⟨_, _, _, _, _, _, _, _, rfl⟩
theorem wordI_wordOf {l : List Int} (h8 : B.B8 l) (hl : l.length = 8) : wordI (wordOf l) = l := by
  obtain ⟨b0, b1, b2, b3, b4, b5, b6, b7, rfl⟩ := len8 hl
  have h0 := h8 b0 (by simp); have h1 := h8 b1 (by simp); have h2 := h8 b2 (by simp); have h3 := h8 b3 (by simp)
  have h4 := h8 b4 (by simp); have h5 := h8 b5 (by simp); have h6 := h8 b6 (by simp); have h7 := h8 b7 (by simp)
  rw [word8]
  have e : IntKind.u64.wrap (wordOf [b0, b1, b2, b3, b4, b5, b6, b7]) = ((((((b0 * 256 + b1) * 256 + b2) * 256 + b3) * 256 + b4) * 256 + b5) * 256 + b6) * 256 + b7 := by
    unfold wordOf
    rw [rd8 h8, IntKind.wrap_u64, IntKind.wrap_i64]
    omega
  rw [e]
  have g0 : (((((((b0 * 256 + b1) * 256 + b2) * 256 + b3) * 256 + b4) * 256 + b5) * 256 + b6) * 256 + b7) / 72057594037927936 % 256 = b0 := by omega
  have g1 : (((((((b0 * 256 + b1) * 256 + b2) * 256 + b3) * 256 + b4) * 256 + b5) * 256 + b6) * 256 + b7) / 281474976710656 % 256 = b1 := by omega
  have g2 : (((((((b0 * 256 + b1) * 256 + b2) * 256 + b3) * 256 + b4) * 256 + b5) * 256 + b6) * 256 + b7) / 1099511627776 % 256 = b2 := by omega
  have g3 : (((((((b0 * 256 + b1) * 256 + b2) * 256 + b3) * 256 + b4) * 256 + b5) * 256 + b6) * 256 + b7) / 4294967296 % 256 = b3 := by omega
  have g4 : (((((((b0 * 256 + b1) * 256 + b2) * 256 + b3) * 256 + b4) * 256 + b5) * 256 + b6) * 256 + b7) / 16777216 % 256 = b4 := by omega
  have g5 : (((((((b0 * 256 + b1) * 256 + b2) * 256 + b3) * 256 + b4) * 256 + b5) * 256 + b6) * 256 + b7) / 65536 % 256 = b5 := by omega
  have g6 : (((((((b0 * 256 + b1) * 256 + b2) * 256 + b3) * 256 + b4) * 256 + b5) * 256 + b6) * 256 + b7) / 256 % 256 = b6 := by omega
  have g7 : (((((((b0 * 256 + b1) * 256 + b2) * 256 + b3) * 256 + b4) * 256 + b5) * 256 + b6) * 256 + b7) % 256 = b7 := by omega
  rw [g0, g1, g2, g3, g4, g5, g6, g7]

/-- So many words of bytes. -/
def wordsN (l : List Int) (m : Nat) : List Int := (List.range m).map fun i => wordOf ((l.drop (8 * i)).take 8)
theorem wordsN_len (l : List Int) (m : Nat) : (wordsN l m).length = m := by simp [wordsN]
theorem wordsN_succ (l : List Int) (m : Nat) : wordsN l (m + 1) = wordsN l m ++ [wordOf ((l.drop (8 * m)).take 8)] := by unfold wordsN; rw [List.range_succ, List.map_append]; rfl
theorem body_words {l : List Int} (h8 : B.B8 l) : ∀ m, 8 * m ≤ l.length → bodyI (wordsN l m) = l.take (8 * m)
  | 0, _ => by simp [wordsN, bodyI]
  | m + 1, h => by
    rw [wordsN_succ, bodyI_snoc, body_words h8 m (by omega), wordI_wordOf (B.B8_take (B.B8_drop h8 _) 8) (by simp; omega), show 8 * (m + 1) = 8 * m + 8 by omega, List.take_add]
theorem words_body : ∀ z : List Int, (∀ x ∈ z, -9223372036854775808 ≤ x ∧ x ≤ 9223372036854775807) → wordsN (bodyI z) z.length = z := by
  intro z hz
  refine List.ext_getElem (by simp [wordsN]) fun i h1 h2 => ?_
  have hi : i < z.length := h2
  have key : ((bodyI z).drop (8 * i)).take 8 = wordI z[i] := by
    have e : bodyI z = bodyI (z.take i) ++ (wordI z[i] ++ bodyI (z.drop (i + 1))) := by
      have e1 : z = z.take i ++ (z[i] :: z.drop (i + 1)) := by rw [← List.drop_eq_getElem_cons hi, List.take_append_drop]
      conv => lhs; rw [e1]
      unfold bodyI
      rw [List.flatMap_append, List.flatMap_cons]
    have hl : (bodyI (z.take i)).length = 8 * i := by rw [bodyI_len]; simp; omega
    rw [e, ← hl, List.drop_left, List.take_left' (wordI_len _)]
  simp only [wordsN, List.getElem_map, List.getElem_range]
  rw [key]
  exact wordOf_wordI (hz _ (List.getElem_mem hi))

/-- Bytes of a packet's form. -/
def formB (l : List Int) : Bool := decide (10 ≤ l.length) && (decide (l[8]?.getD 0 ≤ 1) && decide ((l.length : Int) = 10 + 8 * l[9]?.getD 0))
/-- What is read of them. -/
def readP (l : List Int) : Pk := ⟨l[0]?.getD 0, l[1]?.getD 0, l[2]?.getD 0, l[3]?.getD 0 * 256 + l[4]?.getD 0, l[5]?.getD 0, l[6]?.getD 0 - 1, l[7]?.getD 0, l[8]?.getD 0 == 1, wordsN (l.drop 10) ((l.length - 10) / 8)⟩
theorem take10 {l : List Int} (h : 10 ≤ l.length) : l.take 10 = [l[0]?.getD 0, l[1]?.getD 0, l[2]?.getD 0, l[3]?.getD 0, l[4]?.getD 0, l[5]?.getD 0, l[6]?.getD 0, l[7]?.getD 0, l[8]?.getD 0, l[9]?.getD 0] := by
  match l, h with
  | a :: b :: c :: d :: e :: f :: g :: h :: i :: j :: l, _ => simp
/-- What has the form is packed as it was read, but for a flag that is none. -/
theorem pack_read {l : List Int} (h8 : B.B8 l) (h10 : 10 ≤ l.length) (hl : (l.length : Int) = 10 + 8 * l[9]?.getD 0) : packI (readP l) = l ↔ l[8]?.getD 0 ≤ 1 := by
  have hz : (readP l).z = wordsN (l.drop 10) ((l.length - 10) / 8) := rfl
  have hb : bodyI (readP l).z = l.drop 10 := by
    rw [hz, body_words (B.B8_drop h8 10) _ (by simp; omega), List.take_of_length_le (by simp; omega)]
  have hn : (readP l).z.length = (l.length - 10) / 8 := by rw [hz, wordsN_len]
  have b0 := B.B8_get h8 0; have b1 := B.B8_get h8 1; have b2 := B.B8_get h8 2; have b3 := B.B8_get h8 3; have b4 := B.B8_get h8 4
  have b5 := B.B8_get h8 5; have b6 := B.B8_get h8 6; have b7 := B.B8_get h8 7; have b8 := B.B8_get h8 8; have b9 := B.B8_get h8 9
  have e9 : (((l.length - 10) / 8 : Nat) : Int) = l[9]?.getD 0 := by omega
  have hh : headI (readP l) = [l[0]?.getD 0, l[1]?.getD 0, l[2]?.getD 0, l[3]?.getD 0, l[4]?.getD 0, l[5]?.getD 0, l[6]?.getD 0, l[7]?.getD 0, flI (l[8]?.getD 0 == 1), l[9]?.getD 0] := by
    unfold headI
    rw [hn, e9]
    simp only [readP]
    generalize l[0]?.getD 0 = a0 at *; generalize l[1]?.getD 0 = a1 at *; generalize l[2]?.getD 0 = a2 at *; generalize l[3]?.getD 0 = a3 at *; generalize l[4]?.getD 0 = a4 at *
    generalize l[5]?.getD 0 = a5 at *; generalize l[6]?.getD 0 = a6 at *; generalize l[7]?.getD 0 = a7 at *; generalize l[9]?.getD 0 = a9 at *
    rw [show a0 % 256 = a0 by omega, show a1 % 256 = a1 by omega, show a2 % 256 = a2 by omega, show (a3 * 256 + a4) / 256 % 256 = a3 by omega, show (a3 * 256 + a4) % 256 = a4 by omega, show a5 % 256 = a5 by omega, show (a6 - 1 + 1) % 256 = a6 by omega, show a7 % 256 = a7 by omega, show a9 % 256 = a9 by omega]
  have hsplit : l = l.take 10 ++ l.drop 10 := (List.take_append_drop 10 l).symm
  rw [take10 h10] at hsplit
  unfold packI
  rw [hb, hh]
  constructor
  · intro h
    have h' := congrArg (fun m : List Int => m[8]?.getD 0) h
    simp at h'
    have hf := flI_bd (l[8]?.getD 0 == 1)
    omega
  · intro h
    have : flI (l[8]?.getD 0 == 1) = l[8]?.getD 0 := by
      unfold flI
      rcases (show l[8]?.getD 0 = 0 ∨ l[8]?.getD 0 = 1 by omega) with e | e <;> simp [e]
    rw [this]
    exact hsplit.symm
end Go.Proofs.Ytjdbjmfkheffdaa
end
section
namespace Go.Proofs.Ytjdbjmfkheffdaa
open Go.RowKit
set_option linter.unusedVariables false

theorem pw_any (a n b : Int) (w : World) :
    Calls Try.prog 53 #[.int .i64 a, .int .i64 n, .int .i64 b] w fun e w' => e = .returned (.bool (inB a n b)) ∧ w = w' := by
  by_cases h : a ≤ n
  · have h' : decide (a ≤ n) = true := decide_eq_true h
    go_enter Try.func53, Try.ntmps53
    go_wp2
    go_ret
    exact ⟨ret_bool (by unfold inB; simp [h]), rfl⟩
  · have h' : decide (a ≤ n) = false := decide_eq_false h
    go_enter Try.func53, Try.ntmps53
    go_wp2
    go_ret
    exact ⟨ret_bool (inB_f (by omega)).symm, rfl⟩
theorem flagByte_any (b : Bool) (w : World) :
    Calls Try.prog 79 #[.bool b] w fun e w' => e = .returned (.int .u8 (flI b)) ∧ w = w' := by
  cases b
  · go_enter Try.func79, Try.ntmps79
    go_wp2
    go_ret
    exact ⟨rfl, rfl⟩
  · go_enter Try.func79, Try.ntmps79
    go_wp2
    go_ret
    exact ⟨rfl, rfl⟩
theorem inB_not {a n b : Int} (h : (!inB a n b) = true) : inB a n b = false := by simpa using h

set_option maxHeartbeats 1000000 in
theorem check_any (x : Pk) (a : Option Addr) (n cap : Nat) (w : World) (hsl : Sl w a n cap x.z) :
    Calls Try.prog 31 #[x.val (.slice a n cap)] w fun e w' => e = .returned (.int .i64 x.err) ∧ Below w.heap.size w w' := by
  have hl := hsl.len
  have hle := hsl.le
  have hmx := hsl.max
  unfold maxLen at hmx
  obtain ⟨k, f, t, i, l, p, s, fl, z⟩ := x
  simp only at hl
  have HE : ∀ v : Int, Pk.err ⟨k, f, t, i, l, p, s, fl, z⟩ = v → Ending.returned (.int .i64 v) = Ending.returned (.int .i64 (Pk.err ⟨k, f, t, i, l, p, s, fl, z⟩)) := fun v h => by rw [h]
  have H1 : Hid (inB 1 k 9 = false ∨ inB 0 f 5 = false ∨ inB 0 t 5 = false ∨ inB 0 i 4095 = false ∨ inB 0 l 7 = false ∨ inB (-1) p 5 = false ∨ inB 0 s 2 = false ∨ 4 < (n : Int) → Pk.err ⟨k, f, t, i, l, p, s, fl, z⟩ = 1) := fun h => Pk.err_f (by unfold Pk.right; rcases h with h | h | h | h | h | h | h | h <;> simp [h]; omega)
  have H0 : Hid (inB 1 k 9 = true → inB 0 f 5 = true → inB 0 t 5 = true → inB 0 i 4095 = true → inB 0 l 7 = true → inB (-1) p 5 = true → inB 0 s 2 = true → (n : Int) ≤ 4 → Pk.err ⟨k, f, t, i, l, p, s, fl, z⟩ = 0) := fun h1 h2 h3 h4 h5 h6 h7 h8 => Pk.err_t (by unfold Pk.right; simp [h1, h2, h3, h4, h5, h6, h7]; omega)
  unfold Pk.val
  go_enter Try.func31, Try.ntmps31
  go_wp2_with (go_at_call 53; refine (pw_any _ _ _ _).mono ?_; rintro e w1 ⟨rfl, rfl⟩)
  all_goals go_ret
  all_goals refine ⟨HE _ ?_, (Below.refl _ _).alloc (Nat.le_refl _) _⟩
  all_goals clear HE
  all_goals simp only [Bool.not_eq_true', Bool.not_eq_false'] at *
  all_goals first
    | exact H0.out (by assumption) (by assumption) (by assumption) (by assumption) (by assumption) (by assumption) (by assumption) (by assumption)
    | exact H1.out (.inl (by assumption))
    | exact H1.out (.inr (.inl (by assumption)))
    | exact H1.out (.inr (.inr (.inl (by assumption))))
    | exact H1.out (.inr (.inr (.inr (.inl (by assumption)))))
    | exact H1.out (.inr (.inr (.inr (.inr (.inl (by assumption))))))
    | exact H1.out (.inr (.inr (.inr (.inr (.inr (.inl (by assumption)))))))
    | exact H1.out (.inr (.inr (.inr (.inr (.inr (.inr (.inl (by assumption))))))))
    | exact H1.out (.inr (.inr (.inr (.inr (.inr (.inr (.inr (by assumption))))))))
    | (exfalso; clear H0 H1; simp_all; done)
end Go.Proofs.Ytjdbjmfkheffdaa
end
section
namespace Go.Proofs.Ytjdbjmfkheffdaa
open Go.RowKit
set_option linter.unusedVariables false

theorem hd_own {w : World} {base : Nat} (m : List Int) (h8 : B.B8 m) (hm : m.length ≤ maxLen) (g : Nat) (hb : base ≤ g) (h : w.heap[g]? = some (.cells (B.cells m).toArray 5 (0, 0))) : B.Own w base (.slice (some ⟨g, 0, none⟩) m.length m.length) m :=
  ⟨⟨by simp [B.cells], Or.inr ⟨g, m.length, (B.cells m).toArray, rfl, hb, h, Nat.le_refl _, hm, by simp [B.cells], by rw [Nat.mul_one]; exact List.take_of_length_le (by simp [B.cells])⟩⟩, h8⟩

set_option maxHeartbeats 1000000 in
theorem head_any (x : Pk) (a : Option Addr) (n cap : Nat) (w : World) (hsl : Sl w a n cap x.z) (hr : x.Right) :
    Calls Try.prog 69 #[x.val (.slice a n cap)] w fun e w' => ∃ v, e = .returned v ∧ B.Own w' w.heap.size v (headI x) ∧ Below w.heap.size w w' := by
  have hl := hsl.len
  have hle := hsl.le
  have hmx := hsl.max
  unfold maxLen at hmx
  obtain ⟨k, f, t, i, l, p, s, fl, z⟩ := x
  obtain ⟨⟨k0, k1⟩, ⟨f0, f1⟩, ⟨t0, t1⟩, ⟨i0, i1⟩, ⟨l0, l1⟩, ⟨p0, p1⟩, ⟨s0, s1⟩, z1⟩ := hr
  simp only at k0 k1 f0 f1 t0 t1 i0 i1 l0 l1 p0 p1 s0 s1 z1 hl
  have HL : Hid (z.length = n) := hl
  have hn4 : n ≤ 4 := by omega
  clear hl z1 hsl
  unfold Pk.val
  go_enter Try.func69, Try.ntmps69
  go_wp2_with fail
  have uc := @Up.cell2
  have uf := @Up.frozen2
  refine wp_region_mild 35 rfl (by kernel_rfl) ?_
  refine mild_take (v := ?v1) 0 rfl (by kernel_rfl) (by kernel_rfl) (by kernel_rfl) (fun _ _ _ h => h) (by kernel_rfl) (fun Wu K hK => ?hy1) ?go1
  case hy1 =>
    go_big_quiet_op
    simp only [Act.put, List.setIfInBounds_toArray, List.set_cons_zero, List.set_cons_succ] at hK
    exact hK
  simp only [Act.put, List.setIfInBounds_toArray, List.set_cons_zero, List.set_cons_succ]
  refine mild_take (v := ?v2) 1 rfl (by kernel_rfl) (by kernel_rfl) (by kernel_rfl) (fun _ _ _ h => h) (by kernel_rfl) (fun Wu K hK => ?hy2) ?go2
  case hy2 =>
    go_big_quiet_op
    simp only [Act.put, List.setIfInBounds_toArray, List.set_cons_zero, List.set_cons_succ] at hK
    exact hK
  simp only [Act.put, List.setIfInBounds_toArray, List.set_cons_zero, List.set_cons_succ]
  refine mild_take (v := ?v3) 2 rfl (by kernel_rfl) (by kernel_rfl) (by kernel_rfl) (fun _ _ _ h => h) (by kernel_rfl) (fun Wu K hK => ?hy3) ?go3
  case hy3 =>
    go_big_quiet_op
    simp only [Act.put, List.setIfInBounds_toArray, List.set_cons_zero, List.set_cons_succ] at hK
    exact hK
  simp only [Act.put, List.setIfInBounds_toArray, List.set_cons_zero, List.set_cons_succ]
  refine mild_take (v := ?v4) 3 rfl (by kernel_rfl) (by kernel_rfl) (by kernel_rfl) (fun _ _ _ h => h) (by kernel_rfl) (fun Wu K hK => ?hy4) ?go4
  case hy4 =>
    go_big_quiet_op
    simp only [Act.put, List.setIfInBounds_toArray, List.set_cons_zero, List.set_cons_succ] at hK
    exact hK
  simp only [Act.put, List.setIfInBounds_toArray, List.set_cons_zero, List.set_cons_succ]
  refine mild_take (v := ?v5) 4 rfl (by kernel_rfl) (by kernel_rfl) (by kernel_rfl) (fun _ _ _ h => h) (by kernel_rfl) (fun Wu K hK => ?hy5) ?go5
  case hy5 =>
    go_big_quiet_op
    simp only [Act.put, List.setIfInBounds_toArray, List.set_cons_zero, List.set_cons_succ] at hK
    exact hK
  simp only [Act.put, List.setIfInBounds_toArray, List.set_cons_zero, List.set_cons_succ]
  refine mild_take (v := ?v6) 5 rfl (by kernel_rfl) (by kernel_rfl) (by kernel_rfl) (fun _ _ _ h => h) (by kernel_rfl) (fun Wu K hK => ?hy6) ?go6
  case hy6 =>
    go_big_quiet_op
    simp only [Act.put, List.setIfInBounds_toArray, List.set_cons_zero, List.set_cons_succ] at hK
    exact hK
  simp only [Act.put, List.setIfInBounds_toArray, List.set_cons_zero, List.set_cons_succ]
  refine mild_take (v := ?v7) 6 rfl (by kernel_rfl) (by kernel_rfl) (by kernel_rfl) (fun _ _ _ h => h) (by kernel_rfl) (fun Wu K hK => ?hy7) ?go7
  case hy7 =>
    go_big_quiet_op
    simp only [Act.put, List.setIfInBounds_toArray, List.set_cons_zero, List.set_cons_succ] at hK
    exact hK
  simp only [Act.put, List.setIfInBounds_toArray, List.set_cons_zero, List.set_cons_succ]
  refine mild_take (v := ?v8) 7 rfl (by kernel_rfl) (by kernel_rfl) (by kernel_rfl) (fun _ _ _ h => h) (by kernel_rfl) (fun Wu K hK => ?hy8) ?go8
  case hy8 =>
    go_big_quiet_op
    simp only [Act.put, List.setIfInBounds_toArray, List.set_cons_zero, List.set_cons_succ] at hK
    exact hK
  simp only [Act.put, List.setIfInBounds_toArray, List.set_cons_zero, List.set_cons_succ]
  refine mild_take (v := ?v9) 8 rfl (by kernel_rfl) (by kernel_rfl) (by kernel_rfl) (fun _ _ _ h => h) (by kernel_rfl) (fun Wu K hK => ?hy9) ?go9
  case hy9 =>
    go_big_quiet_op
    simp only [Act.put, List.setIfInBounds_toArray, List.set_cons_zero, List.set_cons_succ] at hK
    exact hK
  simp only [Act.put, List.setIfInBounds_toArray, List.set_cons_zero, List.set_cons_succ]
  refine mild_take (v := ?v10) 9 rfl (by kernel_rfl) (by kernel_rfl) (by kernel_rfl) (fun _ _ _ h => h) (by kernel_rfl) (fun Wu K hK => ?hy10) ?go10
  case hy10 =>
    go_big_quiet_op
    simp only [Act.put, List.setIfInBounds_toArray, List.set_cons_zero, List.set_cons_succ] at hK
    exact hK
  simp only [Act.put, List.setIfInBounds_toArray, List.set_cons_zero, List.set_cons_succ]
  refine mild_take (v := ?v11) 10 rfl (by kernel_rfl) (by kernel_rfl) (by kernel_rfl) (fun _ _ _ h => h) (by kernel_rfl) (fun Wu K hK => ?hy11) ?go11
  case hy11 =>
    go_big_quiet_op
    simp only [Act.put, List.setIfInBounds_toArray, List.set_cons_zero, List.set_cons_succ] at hK
    exact hK
  simp only [Act.put, List.setIfInBounds_toArray, List.set_cons_zero, List.set_cons_succ]
  refine mild_take (v := ?v12) 11 rfl (by kernel_rfl) (by kernel_rfl) (by kernel_rfl) (fun _ _ _ h => h) (by kernel_rfl) (fun Wu K hK => ?hy12) ?go12
  case hy12 =>
    go_big_quiet_op
    simp only [Act.put, List.setIfInBounds_toArray, List.set_cons_zero, List.set_cons_succ] at hK
    exact hK
  simp only [Act.put, List.setIfInBounds_toArray, List.set_cons_zero, List.set_cons_succ]
  refine mild_take (v := ?v13) 12 rfl (by kernel_rfl) (by kernel_rfl) (by kernel_rfl) (fun _ _ _ h => h) (by kernel_rfl) (fun Wu K hK => ?hy13) ?go13
  case hy13 =>
    go_big_quiet_op
    simp only [Act.put, List.setIfInBounds_toArray, List.set_cons_zero, List.set_cons_succ] at hK
    exact hK
  simp only [Act.put, List.setIfInBounds_toArray, List.set_cons_zero, List.set_cons_succ]
  refine mild_take (v := ?v14) 13 rfl (by kernel_rfl) (by kernel_rfl) (by kernel_rfl) (fun _ _ _ h => h) (by kernel_rfl) (fun Wu K hK => ?hy14) ?go14
  case hy14 =>
    go_big_quiet_op
    simp only [Act.put, List.setIfInBounds_toArray, List.set_cons_zero, List.set_cons_succ] at hK
    exact hK
  simp only [Act.put, List.setIfInBounds_toArray, List.set_cons_zero, List.set_cons_succ]
  refine mild_take (v := ?v15) 14 rfl (by kernel_rfl) (by kernel_rfl) (by kernel_rfl) (fun _ _ _ h => h) (by kernel_rfl) (fun Wu K hK => ?hy15) ?go15
  case hy15 =>
    go_big_quiet_op
    simp only [Act.put, List.setIfInBounds_toArray, List.set_cons_zero, List.set_cons_succ] at hK
    exact hK
  simp only [Act.put, List.setIfInBounds_toArray, List.set_cons_zero, List.set_cons_succ]
  refine mild_take (v := ?v16) 15 rfl (by kernel_rfl) (by kernel_rfl) (by kernel_rfl) (fun _ _ _ h => h) (by kernel_rfl) (fun Wu K hK => ?hy16) ?go16
  case hy16 =>
    go_big_quiet_op
    simp only [Act.put, List.setIfInBounds_toArray, List.set_cons_zero, List.set_cons_succ] at hK
    exact hK
  simp only [Act.put, List.setIfInBounds_toArray, List.set_cons_zero, List.set_cons_succ]
  refine mild_take (v := ?v17) 16 rfl (by kernel_rfl) (by kernel_rfl) (by kernel_rfl) (fun _ _ _ h => h) (by kernel_rfl) (fun Wu K hK => ?hy17) ?go17
  case hy17 =>
    go_big_quiet_op
    simp only [Act.put, List.setIfInBounds_toArray, List.set_cons_zero, List.set_cons_succ] at hK
    exact hK
  simp only [Act.put, List.setIfInBounds_toArray, List.set_cons_zero, List.set_cons_succ]
  refine mild_take (v := ?v18) 17 rfl (by kernel_rfl) (by kernel_rfl) (by kernel_rfl) (fun _ _ _ h => h) (by kernel_rfl) (fun Wu K hK => ?hy18) ?go18
  case hy18 =>
    go_big_quiet_op
    simp only [Act.put, List.setIfInBounds_toArray, List.set_cons_zero, List.set_cons_succ] at hK
    exact hK
  simp only [Act.put, List.setIfInBounds_toArray, List.set_cons_zero, List.set_cons_succ]
  refine mild_take (v := ?v19) 18 rfl (by kernel_rfl) (by kernel_rfl) (by kernel_rfl) (fun _ _ _ h => h) (by kernel_rfl) (fun Wu K hK => ?hy19) ?go19
  case hy19 =>
    go_big_quiet_op
    simp only [Act.put, List.setIfInBounds_toArray, List.set_cons_zero, List.set_cons_succ] at hK
    exact hK
  simp only [Act.put, List.setIfInBounds_toArray, List.set_cons_zero, List.set_cons_succ]
  refine mild_take (v := ?v20) 19 rfl (by kernel_rfl) (by kernel_rfl) (by kernel_rfl) (fun _ _ _ h => h) (by kernel_rfl) (fun Wu K hK => ?hy20) ?go20
  case hy20 =>
    go_big_quiet_op
    simp only [Act.put, List.setIfInBounds_toArray, List.set_cons_zero, List.set_cons_succ] at hK
    exact hK
  simp only [Act.put, List.setIfInBounds_toArray, List.set_cons_zero, List.set_cons_succ]
  refine mild_take (v := ?v21) 20 rfl (by kernel_rfl) (by kernel_rfl) (by kernel_rfl) (fun _ _ _ h => h) (by kernel_rfl) (fun Wu K hK => ?hy21) ?go21
  case hy21 =>
    go_big_quiet_op
    simp only [Act.put, List.setIfInBounds_toArray, List.set_cons_zero, List.set_cons_succ] at hK
    exact hK
  simp only [Act.put, List.setIfInBounds_toArray, List.set_cons_zero, List.set_cons_succ]
  refine mild_take (v := ?v22) 21 rfl (by kernel_rfl) (by kernel_rfl) (by kernel_rfl) (fun _ _ _ h => h) (by kernel_rfl) (fun Wu K hK => ?hy22) ?go22
  case hy22 =>
    go_big_quiet_op
    simp only [Act.put, List.setIfInBounds_toArray, List.set_cons_zero, List.set_cons_succ] at hK
    exact hK
  simp only [Act.put, List.setIfInBounds_toArray, List.set_cons_zero, List.set_cons_succ]
  refine mild_take (v := ?v23) 22 rfl (by kernel_rfl) (by kernel_rfl) (by kernel_rfl) (fun _ _ _ h => h) (by kernel_rfl) (fun Wu K hK => ?hy23) ?go23
  case hy23 =>
    go_big_quiet_op
    simp only [Act.put, List.setIfInBounds_toArray, List.set_cons_zero, List.set_cons_succ] at hK
    exact hK
  simp only [Act.put, List.setIfInBounds_toArray, List.set_cons_zero, List.set_cons_succ]
  refine mild_take (v := ?v24) 23 rfl (by kernel_rfl) (by kernel_rfl) (by kernel_rfl) (fun _ _ _ h => h) (by kernel_rfl) (fun Wu K hK => ?hy24) ?go24
  case hy24 =>
    go_big_quiet_op
    simp only [Act.put, List.setIfInBounds_toArray, List.set_cons_zero, List.set_cons_succ] at hK
    exact hK
  simp only [Act.put, List.setIfInBounds_toArray, List.set_cons_zero, List.set_cons_succ]
  refine mild_take (v := ?v25) 24 rfl (by kernel_rfl) (by kernel_rfl) (by kernel_rfl) (fun _ _ _ h => h) (by kernel_rfl) (fun Wu K hK => ?hy25) ?go25
  case hy25 =>
    go_big_quiet_op
    simp only [Act.put, List.setIfInBounds_toArray, List.set_cons_zero, List.set_cons_succ] at hK
    exact hK
  simp only [Act.put, List.setIfInBounds_toArray, List.set_cons_zero, List.set_cons_succ]
  refine mild_take (v := ?v26) 25 rfl (by kernel_rfl) (by kernel_rfl) (by kernel_rfl) (fun _ _ _ h => h) (by kernel_rfl) (fun Wu K hK => ?hy26) ?go26
  case hy26 =>
    go_big_quiet_op
    simp only [Act.put, List.setIfInBounds_toArray, List.set_cons_zero, List.set_cons_succ] at hK
    exact hK
  simp only [Act.put, List.setIfInBounds_toArray, List.set_cons_zero, List.set_cons_succ]
  refine mild_take (v := ?v27) 26 rfl (by kernel_rfl) (by kernel_rfl) (by kernel_rfl) (fun _ _ _ h => h) (by kernel_rfl) (fun Wu K hK => ?hy27) ?go27
  case hy27 =>
    go_big_quiet_op
    simp only [Act.put, List.setIfInBounds_toArray, List.set_cons_zero, List.set_cons_succ] at hK
    exact hK
  simp only [Act.put, List.setIfInBounds_toArray, List.set_cons_zero, List.set_cons_succ]
  refine mild_take (v := ?v28) 27 rfl (by kernel_rfl) (by kernel_rfl) (by kernel_rfl) (fun _ _ _ h => h) (by kernel_rfl) (fun Wu K hK => ?hy28) ?go28
  case hy28 =>
    go_big_quiet_op
    simp only [Act.put, List.setIfInBounds_toArray, List.set_cons_zero, List.set_cons_succ] at hK
    exact hK
  simp only [Act.put, List.setIfInBounds_toArray, List.set_cons_zero, List.set_cons_succ]
  refine mild_take (v := ?v29) 28 rfl (by kernel_rfl) (by kernel_rfl) (by kernel_rfl) (fun _ _ _ h => h) (by kernel_rfl) (fun Wu K hK => ?hy29) ?go29
  case hy29 =>
    go_big_quiet_op
    simp only [Act.put, List.setIfInBounds_toArray, List.set_cons_zero, List.set_cons_succ] at hK
    refine ⟨_, fun u => Calls.up_same (flagByte_any _ _), ?_⟩
    exact hK
  simp only [Act.put, List.setIfInBounds_toArray, List.set_cons_zero, List.set_cons_succ]
  refine mild_take (v := ?v30) 29 rfl (by kernel_rfl) (by kernel_rfl) (by kernel_rfl) (fun _ _ _ h => h) (by kernel_rfl) (fun Wu K hK => ?hy30) ?go30
  case hy30 =>
    go_big_quiet_op
    simp only [Act.put, List.setIfInBounds_toArray, List.set_cons_zero, List.set_cons_succ] at hK
    exact hK
  simp only [Act.put, List.setIfInBounds_toArray, List.set_cons_zero, List.set_cons_succ]
  refine mild_take (v := ?v31) 30 rfl (by kernel_rfl) (by kernel_rfl) (by kernel_rfl) (fun _ _ _ h => h) (by kernel_rfl) (fun Wu K hK => ?hy31) ?go31
  case hy31 =>
    go_big_quiet_op
    simp only [Act.put, List.setIfInBounds_toArray, List.set_cons_zero, List.set_cons_succ] at hK
    exact hK
  simp only [Act.put, List.setIfInBounds_toArray, List.set_cons_zero, List.set_cons_succ]
  refine mild_take (v := ?v32) 31 rfl (by kernel_rfl) (by kernel_rfl) (by kernel_rfl) (fun _ _ _ h => h) (by kernel_rfl) (fun Wu K hK => ?hy32) ?go32
  case hy32 =>
    go_big_quiet_op
    simp only [Act.put, List.setIfInBounds_toArray, List.set_cons_zero, List.set_cons_succ] at hK
    exact hK
  simp only [Act.put, List.setIfInBounds_toArray, List.set_cons_zero, List.set_cons_succ]
  refine mild_take (v := ?v33) 32 rfl (by kernel_rfl) (by kernel_rfl) (by kernel_rfl) (fun _ _ _ h => h) (by kernel_rfl) (fun Wu K hK => ?hy33) ?go33
  case hy33 =>
    go_big_quiet_op
    simp only [Act.put, List.setIfInBounds_toArray, List.set_cons_zero, List.set_cons_succ] at hK
    exact hK
  simp only [Act.put, List.setIfInBounds_toArray, List.set_cons_zero, List.set_cons_succ]
  intro W
  refine up_list 33 (by kernel_rfl) rfl ?_
  go_wp2
  refine ⟨by exact ba W.2, fun u => ?_⟩
  refine up_list 34 (by kernel_rfl) rfl ?_
  go_wp2
  refine ⟨by exact next (ba W.2) u.2, fun u2 => ?_⟩
  have z1 : w.heap.size + 1 ≤ W.1.heap.size := by have := W.2.size; simpa using this
  have hb3 := next u.2 u2.2
  have hb2 : Below W.1.heap.size W.1 u2.1 := next (ba (Below.refl _ _)) hb3
  have hblk := hb3.block W.1.heap.size (by simp)
  refine up_done (by kernel_rfl) ?_
  go_wp2
  go_ret
  have e : headI ⟨k, f, t, i, l, p, s, fl, z⟩ = [k, f, t, i / 256, i % 256, l, p + 1, s, flI fl, (n : Int)] := by
    unfold headI
    simp only [HL.out]
    rw [Int.emod_eq_of_lt (by omega) (by omega), Int.emod_eq_of_lt (a := f) (by omega) (by omega), Int.emod_eq_of_lt (a := t) (by omega) (by omega), Int.emod_eq_of_lt (a := i / 256) (by omega) (by omega), Int.emod_eq_of_lt (a := l) (by omega) (by omega), Int.emod_eq_of_lt (a := p + 1) (by omega) (by omega), Int.emod_eq_of_lt (a := s) (by omega) (by omega), Int.emod_eq_of_lt (a := (n : Int)) (by omega) (by omega)]
  refine ⟨_, rfl, ?_, ?_⟩
  · rw [e]
    exact hd_own [k, f, t, i / 256, i % 256, l, p + 1, s, flI fl, (n : Int)] (by rw [← e]; exact headI_b8 _) (by unfold maxLen; simp) W.1.heap.size (by omega) (by rw [hblk]; exact heap_alloc_new _ _)
  · exact next (next (ba (Below.refl _ _)) W.2) hb2
end Go.Proofs.Ytjdbjmfkheffdaa
end
section
namespace Go.Proofs.Ytjdbjmfkheffdaa
open Go.RowKit
set_option linter.unusedVariables false
set_option maxRecDepth 20000

theorem cell_one' (w : World) (x : Int) : ∀ j u, (B.cells [x])[j]? = some u → (w.alloc (.cells #[.int .u8 x] 5)).cell? ((⟨w.heap.size, 0, none⟩ : Addr).add j) = some u := by
  intro j u hu
  obtain ⟨hj, rfl⟩ := B.cells_get hu
  rw [Addr.add_lit, Nat.zero_add, cell_of_row _ _ _ _ 5 (0, 0) (heap_alloc_new w _)]
  simp at hj
  match j, hj with
  | 0, _ => rfl

set_option maxHeartbeats 400000 in
theorem appendWord_any (v : Value) (l : List Int) (word : Int) (base : Nat) (w : World) (hown : B.Own w base v l) (hl : l.length ≤ 1000) (hb : base ≤ w.heap.size) :
    Calls Try.prog 70 #[v, .int .i64 word] w fun e w' => ∃ v', e = .returned v' ∧ B.Own w' base v' (l ++ wordI word) ∧ Below base w w' := by
  obtain ⟨i0, hi, hz0, hz1, hz2⟩ := info_parts B.Try.info5
  go_enter Try.func70, Try.ntmps70
  go_wp2
  go_loopw [0, 9] (fun b i wr => ∃ k : Nat, k ≤ 8 ∧ i = .int .i64 k ∧ B.Own wr base b (l ++ wordN word k) ∧ Below base w wr ∧ base ≤ wr.heap.size) (fun _ i _ => 8 - (intOf i).toNat)
  case atStart => exact ⟨0, by omega, rfl, by simpa [wordN] using hown, Below.refl _ _, hb⟩
  case round =>
    obtain ⟨k, hk, rfl, hown1, hb1, hz⟩ := hrel
    by_cases hlt : k < 8
    · have HS : Hid (wordN word (k + 1) = wordN word k ++ [wbyte word k]) := wordN_succ word k
      have hL : (l ++ wordN word k).length ≤ 1008 := by rw [List.length_append, wordN_len]; omega
      generalize hm : l ++ wordN word k = m at *
      have HM : Hid (l ++ wordN word k = m) := hm
      clear hm
      obtain ⟨a1, cap1, rfl, hsl1⟩ := hown1.sl
      have q : 0 ≤ IntKind.u64.wrap word := by rw [IntKind.wrap_u64]; omega
      go_wp2_with (at_builtin; refine wpList_append_own _ rfl (.tmp 12) (.tmp 19) 86 rfl base 5 i0 (.int .u8 0) 1 1 Try.underlying86 hi hz0 hz1 hz2 rfl (by decide) _ m.length (B.cells m) rfl (hown1.1.alloc _) ⟨_, 0, none⟩ 1 1 (B.cells [_]) rfl rfl (cell_one' _ _) (B.cells_one _) (by unfold maxLen; omega) (by omega) (by simp; omega) ?_; intro v3 w3 hown3 hg3 _)
      have z3 := hg3.size
      simp at z3
      have hb3 := (hb1.alloc hz (.cells #[.int .u8 (IntKind.u64.wrap word / 2 ^ (8 * (7 - k)) % 256)] 5)).grown hg3 (by simp; omega) (fun k hk => by have := (hown1.1.lt k hk).1; omega)
      go_roundw
      case rel =>
        refine ⟨k + 1, by omega, by go_num, ?_, hb3, by omega⟩
        rw [HS.out, ← List.append_assoc, HM.out]
        exact B.own_snoc hown3 hown1.2 (wbyte_bd word k).1 (wbyte_bd word k).2
      case measure => simp [intOf]; omega
    · obtain rfl : k = 8 := by omega
      go_wp2
      go_ret
      exact ⟨_, rfl, hown1, hb1⟩

theorem sealI_len (l : List Int) : (B.sealI l).length = l.length + 2 := by simp [B.sealI]
theorem B.Own.low {w : World} {base base' : Nat} {v : Value} {l : List Int} (h : B.Own w base v l) (hb : base' ≤ base) : B.Own w base' v l := by
  refine ⟨⟨h.1.1, h.1.2.imp id ?_⟩, h.2⟩
  rintro ⟨g, cap, cur, e, hg, rest⟩
  exact ⟨g, cap, cur, e, Nat.le_trans hb hg, rest⟩

set_option maxHeartbeats 1000000 in
/-- A packet that may be: its seal. -/
theorem pack_yes (x : Pk) (a : Option Addr) (n cap : Nat) (w : World) (hsl : Sl w a n cap x.z) (hr : x.right = true) :
    Calls Try.prog 57 #[x.val (.slice a n cap)] w fun e w' => ∃ v, e = .returned (.tuple #[v, .int .i64 0]) ∧ B.Own w' w.heap.size v (B.sealI (packI x)) ∧ Below w.heap.size w w' := by
  have HL : Hid (x.z.length = n) := hsl.len
  have hR := (Pk.right_iff x).1 hr
  have HE : Hid (x.err = 0) := Pk.err_t hr
  have hn4 : n ≤ 4 := by have := hR.z; have := HL.out; omega
  clear hr
  unfold Pk.val
  go_enter Try.func57, Try.ntmps57
  go_wp2_with (first
    | (go_at_call 31; refine (check_any x a n cap _ (hsl.below (ba (Below.refl _ _)))).mono ?_; rintro e w1 ⟨rfl, hb1⟩; rw [HE.out]; obtain ⟨hc1, hf1⟩ := bcell hb1)
    | (go_at_call 69; refine (head_any x a n cap _ (hsl.below (next (ba (Below.refl _ _)) hb1)) hR).mono ?_; rintro e w2 ⟨v2, rfl, hown2, hb2⟩; obtain ⟨hc2, hf2⟩ := bcell hb2; have z1 : w.heap.size < w1.heap.size := by have := hb1.size; simp at this; omega))
  have B1 : Below w.heap.size w w1 := next (ba (Below.refl _ _)) hb1
  have hs1 := hsl.below B1
  clear hc1 hf1 hc2 hf2 hb1
  go_loopw [5, 18] (fun b i wr => ∃ k : Nat, k ≤ n ∧ i = .int .i64 k ∧ B.Own wr w1.heap.size b (headI x ++ bodyI (x.z.take k)) ∧ Below w1.heap.size w1 wr) (fun _ i _ => n - (intOf i).toNat)
  case atStart => exact ⟨0, by omega, rfl, by simpa [bodyI] using hown2, hb2⟩
  case round =>
    clear hown2 hb2 z1
    obtain ⟨k, hk, rfl, hown3, hb3⟩ := hrel
    have hLen : (headI x ++ bodyI (x.z.take k)).length = 10 + 8 * k := by rw [List.length_append, headI_len, bodyI_len, List.length_take, HL.out]; omega
    by_cases hlt : k < n
    · have HS : Hid (bodyI (x.z.take (k + 1)) = bodyI (x.z.take k) ++ wordI (x.z[k]?.getD 0)) := bodyI_take _ _ (by have := HL.out; omega)
      obtain ⟨b, o, rfl, hbl, hcell⟩ := (hs1.below hb3).at hlt
      have hz := hb3.size
      generalize x.z[k]?.getD 0 = y at *
      go_wp2_with (go_at_call 70; refine (appendWord_any _ _ y w1.heap.size _ hown3 (by omega) hz).mono ?_; rintro e w4 ⟨v4, rfl, hown4, hb4⟩)
      go_roundw
      case rel => exact ⟨k + 1, by omega, by go_num, by rw [HS.out, ← List.append_assoc]; exact hown4, hb3.trans hb4⟩
      case measure => simp [intOf]; omega
    · obtain rfl : k = n := by omega
      have HT : Hid (x.z.take k = x.z) := List.take_of_length_le (by have := HL.out; omega)
      obtain ⟨a1, cap1, rfl, hsl3⟩ := hown3.sl' hLen
      go_wp2_with (go_at_call 71; refine (B.seal_any a1 _ _ cap1 _ hsl3 (by omega)).mono ?_; rintro e w5 ⟨v5, rfl, hown5, hb5⟩)
      go_ret2
      refine ⟨_, rfl, ?_, next (next B1 hb3) hb5⟩
      rw [HT.out] at hown5
      exact B.Own.low hown5 (by have := hb3.size; have := B1.size; omega)
set_option maxHeartbeats 1000000 in
/-- A packet that may not be. -/
theorem pack_no (x : Pk) (a : Option Addr) (n cap : Nat) (w : World) (hsl : Sl w a n cap x.z) (hr : x.right = false) :
    Calls Try.prog 57 #[x.val (.slice a n cap)] w fun e w' => e = .returned (.tuple #[.slice none 0 0, .int .i64 1]) ∧ Below w.heap.size w w' := by
  have HE : Hid (x.err = 1) := Pk.err_f hr
  clear hr
  unfold Pk.val
  go_enter Try.func57, Try.ntmps57
  go_wp2_with (go_at_call 31; refine (check_any x a n cap _ (hsl.below (ba (Below.refl _ _)))).mono ?_; rintro e w1 ⟨rfl, hb1⟩; rw [HE.out]; obtain ⟨hc1, hf1⟩ := bcell hb1)
  go_ret2
  exact ⟨rfl, next (ba (Below.refl _ _)) hb1⟩

def lockPk : Pk := ⟨1, 0, 0, 0, 0, 0, 0, false, []⟩
theorem lock_right : lockPk.right = true := by decide
end Go.Proofs.Ytjdbjmfkheffdaa
end
section
namespace Go.Proofs.Ytjdbjmfkheffdaa
open Go.RowKit
set_option linter.unusedVariables false
set_option maxRecDepth 20000

end Go.Proofs.Ytjdbjmfkheffdaa
end
section
namespace Go.Proofs.Ytjdbjmfkheffdaa
open Go.RowKit
set_option linter.unusedVariables false
set_option maxRecDepth 20000

end Go.Proofs.Ytjdbjmfkheffdaa
end
section
namespace Go.Proofs.Ytjdbjmfkheffdaa
open Go.RowKit
set_option linter.unusedVariables false
set_option maxRecDepth 20000

theorem B.Sl.at {w : World} {a : Option Addr} {n cap : Nat} {l : List Int} (h : B.Sl w a n cap l) {k : Nat} (hk : k < n) : ∃ b o, a = some ⟨b, o, none⟩ ∧ b < w.heap.size ∧ w.cell? ⟨b, o + k, none⟩ = some (.int .u8 (l[k]?.getD 0)) := by
  have hl := h.len
  rcases h.row with rfl | ⟨b, o, e, hc⟩
  · simp at hl; omega
  · exact ⟨b, o, e, World.block_lt_of_cell? w _ (hc k (by omega)), hc k (by omega)⟩
/-- A piece of a slice of bytes. -/
theorem B.Sl.part {w : World} {b o n cap : Nat} {l : List Int} (h : B.Sl w (some ⟨b, o, none⟩) n cap l) (i j : Nat) (hij : i ≤ j) (hj : j ≤ n) : B.Sl w (some ⟨b, o + i, none⟩) (j - i) (cap - i) ((l.drop i).take (j - i)) := by
  have hl := h.len
  have hle := h.le
  refine ⟨by simp; omega, by omega, Nat.le_trans (Nat.sub_le _ _) h.max, fun e => (by cases e), B.B8_take (B.B8_drop h.b8 i) _, ?_⟩
  by_cases h0 : j - i = 0
  · left; simp [h0]
  · right
    refine ⟨b, o + i, rfl, fun k hk => ?_⟩
    have hk' : k < j - i := by simp at hk; omega
    obtain ⟨b', o', e, _, hc⟩ := h.at (k := i + k) (by omega)
    simp at e
    obtain ⟨rfl, rfl⟩ := e
    rw [Nat.add_assoc, hc]
    congr 2
    rw [List.getElem?_take_of_lt hk', List.getElem?_drop]
set_option maxHeartbeats 400000 in
theorem readWord_any (a : Option Addr) (l : List Int) (n cap : Nat) (w : World) (hsl : B.Sl w a n cap l) :
    Calls Try.prog 83 #[.slice a n cap] w fun e w' => e = .returned (.int .i64 (wordOf l)) ∧ w = w' := by
  have HL : Hid (l.length = n) := hsl.len
  have hm := Nat.le_trans hsl.le hsl.max
  have h8 := hsl.b8
  unfold maxLen at hm
  go_enter Try.func83, Try.ntmps83
  go_wp2
  go_loop [3, 8] (fun r i => ∃ k : Nat, k ≤ n ∧ i = .int .i64 k ∧ r = .int .u64 (rdN (l.take k))) (fun _ i => n - (intOf i).toNat)
  case atStart => exact ⟨0, by omega, rfl, rfl⟩
  case round =>
    obtain ⟨k, hk, rfl, rfl⟩ := hrel
    obtain ⟨b0, b1⟩ := rdN_bd (B.B8_take h8 k)
    by_cases hlt : k < n
    · have HS : Hid (rdN (l.take (k + 1)) = rdStep (rdN (l.take k)) (l[k]?.getD 0)) := rdN_take l k (by have := HL.out; omega)
      obtain ⟨b, o, rfl, _, hck⟩ := hsl.at hlt
      obtain ⟨x0, x1⟩ := B.B8_get h8 k
      generalize l[k]?.getD 0 = x at *
      generalize rdN (l.take k) = d at *
      go_wp2
      go_round
      case rel => exact ⟨k + 1, by omega, by go_num, by rw [HS.out]; rfl⟩
      case measure => simp [intOf]; omega
    · go_wp2
      go_ret
      exact ⟨ret_int (by rw [List.take_of_length_le (by have := HL.out; omega)]; exact (IntWalk.i64_left _).symm), rfl⟩

def fillW (l : List Int) (m k : Nat) : List Int := wordsN l k ++ List.replicate (m - k) 0
theorem fillW_len (l : List Int) (m k : Nat) (h : k ≤ m) : (fillW l m k).length = m := by simp [fillW, wordsN_len]; omega
theorem fillW_zero (l : List Int) (m : Nat) : fillW l m 0 = List.replicate m 0 := by simp [fillW, wordsN]
theorem fillW_full (l : List Int) (m : Nat) : fillW l m m = wordsN l m := by simp [fillW]
theorem fillW_set (l : List Int) (m k : Nat) (h : k < m) : (fillW l m k).set k (wordOf ((l.drop (8 * k)).take 8)) = fillW l m (k + 1) := by
  unfold fillW
  rw [wordsN_succ, List.set_append_right _ _ (by simp [wordsN_len]), wordsN_len, Nat.sub_self, show m - k = (m - (k + 1)) + 1 by omega, List.replicate_succ, List.set_cons_zero, List.append_assoc]
  rfl
theorem icells_set (l : List Int) (j : Nat) (x : Int) : (cells l).set j (.int .i64 x) = cells (l.set j x) := by simp [cells, List.map_set]
theorem imade_own (w : World) (base n : Nat) (hb : base ≤ w.heap.size) (hn : n ≤ 1000) : Own (w.alloc (.cells (madeCells #[.int .i64 0] n) 3)) base (.slice (some ⟨w.heap.size, 0, none⟩) n n) (List.replicate n 0) := by
  have h := World.ownsRow_lit (base := base) (e := 3) (size := 1) w (madeCells #[.int .i64 0] n) n hb (by unfold maxLen; omega) (by simp [madeCells])
  rw [toList_madeCells_one] at h
  simpa [cells, Own] using h

set_option maxHeartbeats 1000000 in
theorem readWords_any (a : Option Addr) (l : List Int) (n cap m : Nat) (w : World) (hsl : B.Sl w a n cap l) (hm : n / 8 = m) (hm1 : m ≤ 255) (hn : n ≤ 3000) :
    Calls Try.prog 81 #[.slice a n cap] w fun e w' => ∃ v, e = .returned v ∧ Own w' w.heap.size v (wordsN l m) ∧ Below w.heap.size w w' := by
  have hle := hsl.le
  have hmx := hsl.max
  unfold maxLen at hmx
  have hd : (n : Int) / 8 = (m : Int) := by omega
  have h8m : 8 * m ≤ n := by omega
  have hmk : ∀ w : World, (Instr.makeSlice 22 (.int .i64 (m : Int)) (.int .i64 (m : Int))).run Try.prog w = .ok (.slice (some ⟨w.heap.size, 0, none⟩) m m) (w.alloc (.cells (madeCells #[.int .i64 0] m) 3)) := fun w => run_make_row' (P := Try.prog) 22 3 (.int .i64 0) 8 Try.underlying22 Try.infoInt rfl .i64 .i64 m (by omega) (by omega) w
  have hmo := imade_own w w.heap.size m (Nat.le_refl _) (by omega)
  have hmb : Below w.heap.size w (w.alloc (.cells (madeCells #[.int .i64 0] m) 3)) := ba (Below.refl _ _)
  have hn0 : (0 : Int) ≤ (n : Int) := by omega
  clear hm
  go_enter Try.func81, Try.ntmps81
  go_wp2
  generalize w.alloc (.cells (madeCells #[.int .i64 0] m) 3) = W at *
  clear hmk hd
  go_loopw [11] (fun i wr => ∃ k : Nat, k ≤ m ∧ i = .int .i64 k ∧ Own wr w.heap.size (.slice (some ⟨w.heap.size, 0, none⟩) m m) (fillW l m k) ∧ Below w.heap.size w wr) (fun i _ => m - (intOf i).toNat)
  case atStart => exact ⟨0, by omega, rfl, by rw [fillW_zero]; exact hmo, hmb⟩
  case round =>
    clear hmo hmb
    obtain ⟨k, hk, rfl, hown, hb⟩ := hrel
    by_cases hlt : k < m
    · have HS : Hid ((fillW l m k).set k (wordOf ((l.drop (8 * k)).take 8)) = fillW l m (k + 1)) := fillW_set l m k hlt
      have HL : Hid ((fillW l m k).length = m) := fillW_len l m k hk
      have HL1 : Hid ((fillW l m (k + 1)).length = m) := fillW_len l m (k + 1) (by omega)
      have hrow : wr.ownsRow w.heap.size 3 1 (.slice (some ⟨w.heap.size, 0, none⟩) m m) m (cells (fillW l m k)) := by have := hown; unfold Own at this; rw [HL.out] at this; exact this
      obtain ⟨b, o, rfl, _, _⟩ := hsl.at (k := 8 * k) (by omega)
      have hpart := (hsl.below hb).part (8 * k) (8 * (k + 1)) (by omega) (by omega)
      obtain ⟨q, hq⟩ : ∃ q, wordOf ((l.drop (8 * k)).take 8) = q := ⟨_, rfl⟩
      have HQ : Hid (wordOf ((l.drop (8 * k)).take (8 * (k + 1) - 8 * k)) = q) := by show _ = _; rw [show 8 * (k + 1) - 8 * k = 8 by omega]; exact hq
      rw [hq] at HS
      have hcell := hrow.cellAt k (by omega)
      have hcell' : (cells (fillW l m k))[k]? = some (.int .i64 ((fillW l m k)[k]?.getD 0)) := by have := HL.out; simp [cells, show k < (fillW l m k).length by omega]
      rw [hcell'] at hcell
      have hfz := hrow.frozenAt k
      have hst := (hrow.stored k (.int .i64 q)).1
      rw [icells_set, HS.out] at hst
      have hz : Below w.heap.size w (wr.setCell ⟨w.heap.size, k, none⟩ (.int .i64 q)) := hb.setCell (by simp) _
      have k0 : (0 : Int) ≤ (k : Int) := by omega
      have k1 : (k : Int) < (m : Int) := by omega
      clear hcell' hrow hown hq
      generalize (fillW l m k)[k]?.getD 0 = old at *
      go_wp2_with (go_at_call 83; refine (readWord_any _ _ _ _ _ hpart).mono ?_; rintro e w2 ⟨rfl, rfl⟩; rw [HQ.out])
      go_roundw
      case rel => exact ⟨k + 1, by omega, by go_num, by unfold Own; rw [HL1.out]; exact hst, hz⟩
      case measure => simp [intOf]; omega
    · obtain rfl : k = m := by omega
      go_wp2
      go_ret
      exact ⟨_, rfl, by rw [← fillW_full]; exact hown, hb⟩

set_option maxHeartbeats 1000000 in
theorem hasForm_any (a : Option Addr) (l : List Int) (n cap : Nat) (w : World) (hsl : B.Sl w a n cap l) :
    Calls Try.prog 73 #[.slice a n cap] w fun e w' => e = .returned (.bool (formB l)) ∧ ∃ k, w' = w.drewN k := by
  have HL : Hid (l.length = n) := hsl.len
  have hle := hsl.le
  have hmx := hsl.max
  unfold maxLen at hmx
  by_cases h10 : n < 10
  · have HF : Hid (formB l = false) := by show _ = _; unfold formB; rw [HL.out]; simp; omega
    go_enter Try.func73, Try.ntmps73
    go_wp2
    go_ret
    exact ⟨ret_bool HF.out.symm, 0, rfl⟩
  · obtain ⟨b, o, rfl, _, c8⟩ := hsl.at (k := 8) (by omega)
    obtain ⟨b', o', e, _, c9⟩ := hsl.at (k := 9) (by omega)
    simp at e
    obtain ⟨rfl, rfl⟩ := e
    have HF : Hid (formB l = (decide (l[8]?.getD 0 ≤ 1) && decide ((n : Int) = 10 + 8 * l[9]?.getD 0))) := by show _ = _; unfold formB; rw [HL.out, decide_eq_true (show 10 ≤ n by omega)]; rfl
    obtain ⟨x0, x1⟩ := B.B8_get hsl.b8 8
    obtain ⟨y0, y1⟩ := B.B8_get hsl.b8 9
    generalize l[8]?.getD 0 = x at *
    generalize l[9]?.getD 0 = y at *
    have hn8 : (8 : Int) < (n : Int) := by omega
    have hn9 : (9 : Int) < (n : Int) := by omega
    by_cases hx : x ≤ 1
    · have hx' : decide (x ≤ 1) = true := decide_eq_true hx
      go_enter Try.func73, Try.ntmps73
      go_wp2_with fail
      go_quiet (fail)
      go_wp2
      go_ret
      exact ⟨ret_bool (by rw [HF.out, hx', Bool.true_and]; exact Bool.eq_iff_iff.2 (by simp)), _, rfl⟩
    · have hx' : decide (x ≤ 1) = false := decide_eq_false hx
      go_enter Try.func73, Try.ntmps73
      go_wp2_with fail
      go_quiet (fail)
      go_wp2
      go_ret
      exact ⟨ret_bool (by rw [HF.out, hx']; rfl), _, rfl⟩
end Go.Proofs.Ytjdbjmfkheffdaa
end
section
namespace Go.Proofs.Ytjdbjmfkheffdaa
open Go.RowKit
set_option linter.unusedVariables false

section
variable {P : Program} {ops : Array Oper} {Q : Exit → Act → World → Prop} {w0 : World} {q : Nat}

/-- Whatever order is picked from here on; behind each operation but the last the world is above w0, and may grow. -/
def wpAnyV (P : Program) (ops : Array Oper) (Q : Exit → Act → World → Prop) (w0 : World) (q : Nat) : Nat → Array Bool → Act → World → Prop
  | 0, listed, a, w => Region.ready .any ops listed = [] ∧ Q .normal a w
  | fuel + 1, listed, a, w =>
    (Region.ready .any ops listed = [] → Q .normal a w) ∧
    ∀ i ∈ Region.ready .any ops listed, wpOp P ops Q i (fun a' w' => (i ≠ q → Below w0.heap.size w0 w') ∧ ∀ u : Up w', wpAnyV P ops Q w0 q fuel (listed.setIfInBounds i true) a' u.1) a w
theorem wpAny_of_v : ∀ (fuel : Nat) (listed : Array Bool) (a : Act) (w : World), wpAnyV P ops Q w0 q fuel listed a w → wpAny P .any ops Q fuel listed a w
  | 0, _, _, _, h => h
  | fuel + 1, _, _, _, h => ⟨h.1, fun i hi => wpOp_mono (fun a' w' h' => wpAny_of_v fuel _ a' w' (h'.2 (Up.self _))) (h.2 i hi)⟩
theorem wpAnyV_low {w1 : World} (hb : Below w0.heap.size w0 w1) : ∀ (fuel : Nat) (listed : Array Bool) (a : Act) (w : World), wpAnyV P ops Q w1 q fuel listed a w → wpAnyV P ops Q w0 q fuel listed a w
  | 0, _, _, _, h => h
  | fuel + 1, _, _, _, h => ⟨h.1, fun i hi => wpOp_mono (fun a' w' h' => ⟨fun hr => next hb (h'.1 hr), fun u => wpAnyV_low hb fuel _ a' u.1 (h'.2 u)⟩) (h.2 i hi)⟩
/-- Operation q waits for all others. -/
def waitsAll (ops : Array Oper) (q : Nat) : Bool := (List.range ops.size).all fun i => i == q || ((ops[q]?).map fun o => o.after.any fun e => Region.binds .any e && e.on == i).getD false
theorem waitsAll_spec (h : waitsAll ops q = true) {i : Nat} (hi : i < ops.size) (hne : i ≠ q) {oq : Oper} (hq : ops[q]? = some oq) : ∃ e ∈ oq.after, Region.binds .any e = true ∧ e.on = i := by
  unfold waitsAll at h
  have h1 := List.all_eq_true.1 h i (List.mem_range.2 hi)
  rw [hq] at h1
  simp at h1
  rcases h1 with h1 | ⟨k, hk, h2, h3⟩
  · exact absurd h1 hne
  · exact ⟨oq.after[k], Array.getElem_mem hk, h2, h3⟩
theorem wpAnyV_first (hwa : waitsAll ops q = true) {i : Nat} {oi : Oper} {v : Value} (hi : ops[i]? = some oi) (hsel : ∀ (j : Nat) (o : Oper) cs b, ops[j]? = some o → o.op ≠ .select cs b)
    (hQ : ∀ c a w, Q (.panic c) (a.put oi.dst v) w → Q (.panic c) a w) :
    ∀ (fuel : Nat) (listed : Array Bool) (a : Act) (W : Up w0),
      (∀ j oj, ops[j]? = some oj → j ≠ i → listed.getD j true = false → (∀ e ∈ oj.after, Region.binds .any e = true → e.on ≠ i) → oi.apart ops oj = true) →
      i ∈ Region.ready .any ops listed → Mild P ops w0 oi v a →
      (∀ u : Up W.1, wpAnyV P ops Q w0 q fuel (listed.setIfInBounds i true) (a.put oi.dst v) u.1) → wpAnyV P ops Q w0 q (fuel + 1) listed a W.1 := by
  intro fuel
  induction fuel with
  | zero =>
    intro listed a W _ hr hy H
    refine ⟨fun h => (by rw [h] at hr; cases hr), fun j hj => ?_⟩
    by_cases hji : j = i
    · subst hji; exact hy.wpOp hi W fun u => ⟨fun _ => (W.trans u).2, fun u' => H (u.trans u')⟩
    · have := ready_mono hj hji
      rw [(H (Up.self _)).1] at this
      cases this
  | succ fuel ih =>
    intro listed a W hfree hr hy H
    refine ⟨fun h => (by rw [h] at hr; cases hr), fun j hj => ?_⟩
    by_cases hji : j = i
    · subst hji; exact hy.wpOp hi W fun u => ⟨fun _ => (W.trans u).2, fun u' => H (u.trans u')⟩
    · have h1 := (H (Up.self _)).2 j (ready_mono hj hji)
      obtain ⟨hjun, oj, hoj, hall⟩ := mem_ready.1 hj
      have hnot : ∀ e ∈ oj.after, Region.binds .any e = true → e.on ≠ i := fun e he hb heq => by
        have g1 := hall e he hb
        have g0 := (mem_ready.1 hr).1
        rw [heq] at g1
        rcases Nat.lt_or_ge i listed.size with h' | h'
        · simp [h'] at g0 g1; rw [g0] at g1; cases g1
        · simp [Array.getElem?_eq_none h'] at g1
      have h2 := wpOp_mild hoj (hfree j oj hoj hji hjun hnot) (fun cs b => hsel i oi cs b hi) (fun cs b => hsel j oj cs b hoj) hQ hy h1
      have hfree' : ∀ k ok, ops[k]? = some ok → k ≠ i → (listed.setIfInBounds j true).getD k true = false →
          (∀ e ∈ ok.after, Region.binds .any e = true → e.on ≠ i) → oi.apart ops ok = true := fun k ok hk hki hun hno => by
        refine hfree k ok hk hki ?_ hno
        by_cases hjk : j = k
        · subst hjk; exact hjun
        · rw [getD_set_ne true hjk] at hun; exact hun
      have hri : i ∈ Region.ready .any ops (listed.setIfInBounds j true) := ready_mono hr (Ne.symm hji)
      have hjq : j ≠ q := by
        intro e
        subst e
        have hlt : i < ops.size := (Array.getElem?_eq_some_iff.1 hi).1
        obtain ⟨e, he, hb, hon⟩ := waitsAll_spec hwa hlt (Ne.symm hji) hoj
        exact hnot e he hb hon
      refine wpOp_mono (fun a' w' h3 => ?_) h2
      have hB := h3.2.1 hjq
      refine ⟨fun _ => hB, fun u => ?_⟩
      refine ih (listed.setIfInBounds j true) a' ⟨u.1, next hB u.2⟩ hfree' hri h3.1 fun u' => ?_
      rw [Array.setIfInBounds_comm _ _ hji]
      exact h3.2.2 (u.trans u')

/-- The region, from here on, in every world above w0. -/
def MildV (P : Program) (ops : Array Oper) (Q : Exit → Act → World → Prop) (w0 : World) (q fuel : Nat) (listed : Array Bool) (a : Act) : Prop :=
  ∀ W : Up w0, wpAnyV P ops Q w0 q fuel listed a W.1
theorem wp_region_mildv {id : Nat} {a : Act} {w : World} {l : List Oper} (n q : Nat) (hn : l.length = n) (hm : P.follows .mixedOrders = true) (h : MildV P l.toArray Q w q n (Array.replicate n false) a) : (Code.region id l.toArray true).wp P Q a w := by
  subst hn
  refine wp_region_any hm (wpAny_of_v (w0 := w) (q := q) _ _ _ _ ?_)
  have := h ⟨w.drew, (Below.refl _ _).drew⟩
  simpa using this
theorem mildv_take (i : Nat) {l rest : List Oper} {oi : Oper} {v : Value} {fuel : Nat} {listed : Array Bool} {a : Act} (hd : l.drop i = oi :: rest) (hs : Region.noSelect l.toArray = true) (hwa : waitsAll l.toArray q = true)
    (hf : Region.free .any l.toArray listed i = true) (hr : (Region.ready .any l.toArray listed).contains i = true) (hQ : ∀ c a w, Q (.panic c) (a.put oi.dst v) w → Q (.panic c) a w)
    (hw : Region.wanted oi (yielded l.toArray a.tmps) = true) (hy : ∀ (W : Up w0) (K : Act → Prop), K (a.put oi.dst v) → oi.quiet P a (fun w' => ∃ u : Up W.1, w' = u.1) K)
    (h : MildV P l.toArray Q w0 q fuel (listed.setIfInBounds i true) (a.put oi.dst v)) : MildV P l.toArray Q w0 q (fuel + 1) listed a := fun W =>
  wpAnyV_first hwa (of_drop hd) (Region.noSelect_spec hs) hQ fuel listed a W (Region.free_spec (of_drop hd) hf) (by simpa using hr) (.inl ⟨hw, hy⟩) fun u => h (W.trans u)
theorem upv_raise {fuel : Nat} {listed : Array Bool} {a : Act} {w : World} (hb : Below w0.heap.size w0 w) (h : MildV P ops Q w q fuel listed a) : wpAnyV P ops Q w0 q fuel listed a w :=
  wpAnyV_low hb fuel listed a w (h (Up.self w))
theorem upv_list (i : Nat) {l rest : List Oper} {oi : Oper} {fuel : Nat} {listed : Array Bool} {a : Act} {w : World} (hr : Region.ready .any l.toArray listed = [i]) (hd : l.drop i = oi :: rest)
    (h : wpList P l.toArray (Then (fun a' w' => (i ≠ q → Below w0.heap.size w0 w') ∧ ∀ u : Up w', wpAnyV P l.toArray Q w0 q fuel (listed.setIfInBounds i true) a' u.1) Q) [oi] a w) : wpAnyV P l.toArray Q w0 q (fuel + 1) listed a w :=
  ⟨fun h0 => (by rw [hr] at h0; cases h0), (by rw [hr]; intro j hj; rw [List.mem_singleton] at hj; subst hj; exact op_list j hd h)⟩
theorem upv_two (i j : Nat) {l ri rj : List Oper} {oi oj : Oper} {fuel : Nat} {listed : Array Bool} {a : Act} {w : World} (hr : Region.ready .any l.toArray listed = [i, j]) (hdi : l.drop i = oi :: ri) (hdj : l.drop j = oj :: rj)
    (hi : wpList P l.toArray (Then (fun a' w' => (i ≠ q → Below w0.heap.size w0 w') ∧ ∀ u : Up w', wpAnyV P l.toArray Q w0 q fuel (listed.setIfInBounds i true) a' u.1) Q) [oi] a w)
    (hj : wpList P l.toArray (Then (fun a' w' => (j ≠ q → Below w0.heap.size w0 w') ∧ ∀ u : Up w', wpAnyV P l.toArray Q w0 q fuel (listed.setIfInBounds j true) a' u.1) Q) [oj] a w) : wpAnyV P l.toArray Q w0 q (fuel + 1) listed a w :=
  ⟨fun h0 => (by rw [hr] at h0; cases h0), (by
    rw [hr]
    intro x hx
    simp at hx
    rcases hx with rfl | rfl
    · exact op_list x hdi hi
    · exact op_list x hdj hj)⟩
theorem upv_done {fuel : Nat} {listed : Array Bool} {a : Act} {w : World} (hr : Region.ready .any ops listed = []) (h : Q .normal a w) : wpAnyV P ops Q w0 q fuel listed a w := by
  cases fuel with
  | zero => exact ⟨hr, h⟩
  | succ n => exact ⟨fun _ => h, by rw [hr]; simp⟩
/-- An append without room, whether or not it hangs on a test. -/
theorem wpList_grows_w (w : World) {ops : Array Oper} {rest : List Oper} {o : Oper} {a : Act}
    (hw : Region.wanted o (yielded ops a.tmps) = true) (s x : Operand) (t : TypeId) (hop : o.op = Op.call { callee := Callee.builtin Builtin.append, args := #[s, x], argTypes := #[t, t] })
    (e : TypeId) (i : TypeInfo) (z : Value) (size bytes : Nat) (h1 : P.underlying t = some (.slice e)) (h2 : P.info? e = some i) (h3 : i.zero = some z) (h4 : i.size = size) (h5 : i.bytes = bytes) (h6 : z.cells.size = size) (h7 : 0 < size)
    (b : Addr) (n cap : Nat) (olds : List Value) (hs : a.eval s = .slice (some b) n cap) (hlo : olds.length = n * size) (holds : ∀ j u, olds[j]? = some u → w.cell? (b.add j) = some u)
    (ad : Addr) (m c : Nat) (news : List Value) (hx : a.eval x = .slice (some ad) m c) (hn : news.length = m * size) (hc : ∀ j u, news[j]? = some u → w.cell? (ad.add j) = some u)
    (hfull : cap < n + m) (b1 : n + m ≤ maxLen) (b2 : (n + m) * bytes ≤ 140737488355328)
    (hK : ∀ v' w', w'.ownsRow w.heap.size e size v' (n + m) (olds ++ news) → w.grownBy w' none → wpList P ops Q rest (a.put o.dst v') w') :
    wpList P ops Q (o :: rest) a w := by
  unfold wpList
  rw [if_pos hw]
  left
  obtain ⟨v', w', hrun, r1, r2⟩ := run_append_arg_grows (P := P) w t o.type e i z size bytes h1 h2 h3 h4 h5 h6 h7 b n cap olds hlo holds ad m c news hn hc hfull b1 b2
  unfold Oper.wp
  simp [execOp, hop, resolve, invoke, builtin, hs, hx, hrun, Result.andThen]
  exact hK v' w' r1 r2
end
end Go.Proofs.Ytjdbjmfkheffdaa
end
