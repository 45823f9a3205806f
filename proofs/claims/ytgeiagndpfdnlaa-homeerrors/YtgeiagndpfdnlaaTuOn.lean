/- Turns beside what a test has of its own (TO), on plain data: who has each line, who waits for it. Conditions: as each theorem states them. -/
import Derived.Test.YtgeiagndpfdnlaaTu3
import Derived.Test.YtgeiagndpfdnlaaTu4
namespace Go.Proofs.Ytgeiagndpfdnlaa
open Go.RowKit Go.Maps
set_option linter.unusedVariables false
set_option maxRecDepth 20000

/-- f, but at l it is v. -/
def upd {α : Type} (f : Int → α) (l : Int) (v : α) (k : Int) : α := if k = l then v else f k
theorem upd_at {α : Type} (f : Int → α) (l : Int) (v : α) : upd f l v l = v := if_pos rfl
theorem upd_ne {α : Type} (f : Int → α) {l k : Int} (v : α) (h : k ≠ l) : upd f l v k = f k := if_neg h
structure TO (w wx : World) (g : Nat) (X : Nat → Prop) (n : Nat) (own : Int → Int) (wt : Int → List (Int × Int)) : Prop where
  bel : Below w.heap.size w wx
  c : ∃ bo bw M R O, TW wx g bo bw M R O ∧ (∀ l, ownR R l = own l) ∧ (∀ l, wtO O l = wt l) ∧ (∀ j, M j → NX w X j) ∧ R.length ≤ n ∧ O.length ≤ n ∧ (∀ p ∈ O, p.l.length ≤ n) ∧ (∀ p ∈ O, ∀ x ∈ p.l, 0 ≤ x.1)
  xl : ∀ j, X j → j < wx.heap.size
section
variable {w wx wy : World} {g n : Nat} {X Y F : Nat → Prop} {own : Int → Int} {wt : Int → List (Int × Int)}
theorem TO.below (h : TO w wx g X n own wt) (hb : Below wx.heap.size wx wy) : TO w wy g X n own wt := by
  obtain ⟨bo, bw, M, R, O, c, hc⟩ := h.c
  exact ⟨next h.bel hb, ⟨bo, bw, M, R, O, c.below hb, hc⟩, fun j hj => Nat.lt_of_lt_of_le (h.xl j hj) hb.size⟩
/-- Another X: what was there of it, and what is new. -/
theorem TO.grow (h : TO w wx g X n own wt) (hb : Below wx.heap.size wx wy) (hY : ∀ j, Y j → (X j ∨ wx.heap.size ≤ j) ∧ j < wy.heap.size) : TO w wy g Y n own wt := by
  obtain ⟨bo, bw, M, R, O, c, h1, h2, h3, h4⟩ := h.c
  refine ⟨next h.bel hb, ⟨bo, bw, M, R, O, c.below hb, h1, h2, fun j hj => ⟨(h3 j hj).1, fun hy => ?_⟩, h4⟩, fun j hj => (hY j hj).2⟩
  rcases (hY j hy).1 with hx | hn
  · exact (h3 j hj).2 hx
  · have := c.old j hj; omega
/-- The test writes what is its own. -/
theorem TO.write (h : TO w wx g X n own wt) (hk : Keep F wx wy) (hF : ∀ j, F j → w.heap.size ≤ j ∧ (X j ∨ wx.heap.size ≤ j)) : TO w wy g X n own wt := by
  obtain ⟨bo, bw, M, R, O, c, h1, h2, h3, h4⟩ := h.c
  refine ⟨h.bel.trans (hk.below (fun j hj => (hF j hj).1) h.bel.size), ⟨bo, bw, M, R, O, c.keep hk (fun j hj hf => ?_), h1, h2, h3, h4⟩, fun j hj => Nat.lt_of_lt_of_le (h.xl j hj) hk.size⟩
  rcases (hF j hf).2 with hx | hn
  · exact (h3 j hj).2 hx
  · have := c.old j hj; omega
/-- The test writes what is its own, and has more. -/
theorem TO.wrgrow (h : TO w wx g X n own wt) (hk : Keep F wx wy) (hF : ∀ j, F j → w.heap.size ≤ j ∧ (X j ∨ wx.heap.size ≤ j)) (hY : ∀ j, Y j → (X j ∨ wx.heap.size ≤ j) ∧ j < wy.heap.size) : TO w wy g Y n own wt := by
  obtain ⟨bo, bw, M, R, O, c, h1, h2, h3, h4⟩ := h.c
  refine ⟨h.bel.trans (hk.below (fun j hj => (hF j hj).1) h.bel.size), ⟨bo, bw, M, R, O, c.keep hk (fun j hj hf => ?_), h1, h2, fun j hj => ⟨(h3 j hj).1, fun hy => ?_⟩, h4⟩, fun j hj => (hY j hj).2⟩
  · rcases (hF j hf).2 with hx | hn
    · exact (h3 j hj).2 hx
    · have := c.old j hj; omega
  · rcases (hY j hy).1 with hx | hn
    · exact (h3 j hj).2 hx
    · have := c.old j hj; omega
theorem TO.more (h : TO w wx g X n own wt) {m : Nat} (hm : n ≤ m) : TO w wx g X m own wt := by
  obtain ⟨bo, bw, M, R, O, c, h1, h2, h3, h4, h5, h6, h7⟩ := h.c
  exact ⟨h.bel, ⟨bo, bw, M, R, O, c, h1, h2, h3, by omega, by omega, fun p hp => by have := h6 p hp; omega, h7⟩, h.xl⟩
theorem TO.own_ge (h : TO w wx g X n own wt) (l : Int) : -1 ≤ own l := by
  obtain ⟨bo, bw, M, R, O, c, h1, h2, h3, h4⟩ := h.c
  rw [← h1 l]
  unfold ownR
  cases hg : getK Prod.fst l R with
  | none => simp
  | some p => have := c.pos p (getK_some hg).1; simp; omega
theorem TO.wt_ge (h : TO w wx g X n own wt) (l : Int) : ∀ x ∈ wt l, 0 ≤ x.1 := by
  obtain ⟨bo, bw, M, R, O, c, h1, h2, h3, h4, h5, h6, h7⟩ := h.c
  rw [← h2 l]
  unfold wtO
  cases hg : getK TE.s l O with
  | none => intro x hx; cases hx
  | some p => exact h7 p (getK_some hg).1
theorem to_done {bo bw : Nat} {M M' : Nat → Prop} {R' : List (Int × Int)} {O' : List TE} {own' : Int → Int} {wt' : Int → List (Int × Int)} {m : Nat} (h : TO w wx g X n own wt) (hk : Keep M wx wy) (hM : ∀ j, M j → NX w X j) (hM' : ∀ j, M' j → M j ∨ wx.heap.size ≤ j)
    (c : TW wy g bo bw M' R' O') (h1 : ∀ l, ownR R' l = own' l) (h2 : ∀ l, wtO O' l = wt' l) (h4 : R'.length ≤ m) (h5 : O'.length ≤ m) (h6 : ∀ p ∈ O', p.l.length ≤ m) (h7 : ∀ p ∈ O', ∀ x ∈ p.l, 0 ≤ x.1) :
    Keep (NX w X) wx wy ∧ TO w wy g X m own' wt' := by
  have hs := h.bel.size
  refine ⟨hk.mono (fun j _ hj => hM j hj), h.bel.trans (hk.below (fun j hj => (hM j hj).1) h.bel.size), ⟨bo, bw, M', R', O', c, h1, h2, fun j hj => ?_, h4, h5, h6, h7⟩, fun j hj => Nat.lt_of_lt_of_le (h.xl j hj) hk.size⟩
  exact (hM' j hj).elim (hM j) (fun hn => ⟨by omega, fun hx => by have := h.xl j hx; omega⟩)
theorem to_new (hb : Below w.heap.size w wx) (hX : ∀ j, X j → j < wx.heap.size) :
    Calls Try.prog 27 #[] wx fun e w' => ∃ g, e = .returned (.pointer (some ⟨g, 0, none⟩)) ∧ Below wx.heap.size wx w' ∧ TO w w' g X 0 (fun _ => -1) (fun _ => []) := by
  refine (TU.new_any wx).mono ?_
  rintro e w' ⟨g, bo, bw, rfl, b, c⟩
  have hs := hb.size
  exact ⟨g, rfl, b, next hb b, ⟨bo, bw, _, [], [], c, fun l => rfl, fun l => rfl, fun j hj => ⟨by omega, fun hx => by have := hX j hx; omega⟩, Nat.le_refl _, Nat.le_refl _, fun p hp => (by cases hp), fun p hp => (by cases hp)⟩, fun j hj => Nat.lt_of_lt_of_le (hX j hj) b.size⟩
theorem to_owner (h : TO w wx g X n own wt) {l : Int} (hl : In64 l) : Calls Try.prog 11 #[.pointer (some ⟨g, 0, none⟩), .int .i64 l] wx fun e w' => e = .returned (.int .i64 (own l)) ∧ wx = w' := by
  obtain ⟨bo, bw, M, R, O, c, h1, h2, h3, h4⟩ := h.c
  have := TU.owner_any c hl
  rw [h1] at this
  exact this
theorem to_waiting (h : TO w wx g X n own wt) {l : Int} (hl : In64 l) : Calls Try.prog 12 #[.pointer (some ⟨g, 0, none⟩), .int .i64 l] wx fun e w' => e = .returned (.int .i64 (wt l).length) ∧ wx = w' := by
  obtain ⟨bo, bw, M, R, O, c, h1, h2, h3, h4⟩ := h.c
  have := TU.waiting_any c hl
  rw [h2] at this
  exact this
theorem to_ready (h : TO w wx g X n own wt) (hn : n ≤ 1000000) : Calls Try.prog 32 #[.pointer (some ⟨g, 0, none⟩)] wx fun e w' => ∃ v l, e = .returned v ∧ Own w' wx.heap.size v l ∧ Below wx.heap.size wx w' ∧ RiseK id l ∧ ∀ k, k ∈ l ↔ own k = -1 ∧ wt k ≠ [] := by
  obtain ⟨bo, bw, M, R, O, c, h1, h2, h3, h4, h5, _⟩ := h.c
  have := TU.ready_any c (by omega)
  simp only [h1, h2] at this
  exact this
theorem to_ask_own (h : TO w wx g X n own wt) {line who : Int} (id : Int) (hl : In64 line) (h1 : 0 ≤ line) (h2 : 0 ≤ who) (ho : own line = -1) (hw : wt line = []) (hn : n ≤ 1000000) :
    Calls Try.prog 54 #[.pointer (some ⟨g, 0, none⟩), .int .i64 line, .int .i64 who, .int .i64 id] wx fun e w' => e = .returned (.bool true) ∧ Keep (NX w X) wx w' ∧ TO w w' g X (n + 1) (upd own line who) wt := by
  obtain ⟨bo, bw, M, R, O, c, k1, k2, k3, k4, k5, k6, k7⟩ := h.c
  refine (TU.ask_own c id hl h1 h2 (by rw [k1, ho]) (by rw [k2, hw]) (by omega)).mono ?_
  rintro e w' ⟨rfl, hk, hs, c'⟩
  exact ⟨rfl, to_done h hk k3 (fun j hj => .inl hj) c' (fun l => by rw [ownR_put R c.rise, k1]; rfl) k2 (by have := putK_len (key := Prod.fst) (line, who) R; omega) (by omega) (fun p hp => by have := k6 p hp; omega) k7⟩
theorem to_wait_done {bo bw : Nat} {M : Nat → Prop} {R : List (Int × Int)} {O : List TE} {p : TE} {line who id : Int} (h : TO w wx g X n own wt) (c : TW wx g bo bw M R O) (k1 : ∀ l, ownR R l = own l) (k2 : ∀ l, wtO O l = wt l) (k3 : ∀ j, M j → NX w X j) (k4 : R.length ≤ n) (k5 : O.length ≤ n) (k6 : ∀ p ∈ O, p.l.length ≤ n) (k7 : ∀ p ∈ O, ∀ x ∈ p.l, 0 ≤ x.1)
    (hw : 0 ≤ who) (hk : Keep M wx wy) (hp1 : p.s = line) (hp2 : p.l = wtO O line ++ [(who, id)]) (c' : TW wy g bo bw (fun j => M j ∨ (wx.heap.size ≤ j ∧ j < wy.heap.size)) R (putK TE.s p O)) :
    Keep (NX w X) wx wy ∧ TO w wy g X (n + 1) own (upd wt line (wt line ++ [(who, id)])) := by
  have hm : ∀ q ∈ O, ∀ x ∈ q.l, 0 ≤ x.1 := k7
  have hpl : p.l.length ≤ n + 1 ∧ ∀ x ∈ p.l, 0 ≤ x.1 := by
    rw [hp2]
    unfold wtO
    cases hg : getK TE.s line O with
    | none => simp; exact hw
    | some q =>
      have h1 := k6 q (getK_some hg).1
      refine ⟨by simp; omega, fun x hx => ?_⟩
      rcases List.mem_append.1 hx with hx | hx
      · exact k7 q (getK_some hg).1 x hx
      · rw [List.mem_singleton.1 hx]; exact hw
  refine to_done h hk k3 (fun j hj => hj.imp (fun h => h) (fun h => h.1)) c' k1 (fun l => ?_) (by omega) (by have := putK_len (key := TE.s) p O; omega) (fun q hq => ?_) (fun q hq => ?_)
  · rw [wtO_put c.riseO, hp1, hp2, k2, k2]
    rfl
  · rcases mem_putK.1 hq with rfl | ⟨hq, _⟩
    · exact hpl.1
    · have := k6 q hq; omega
  · rcases mem_putK.1 hq with rfl | ⟨hq, _⟩
    · exact hpl.2
    · exact k7 q hq
theorem to_ask_wait (h : TO w wx g X n own wt) {line who : Int} (id : Int) (hl : In64 line) (h1 : 0 ≤ line) (h2 : 0 ≤ who) (ho : own line ≠ -1 ∨ wt line ≠ []) (hn : n ≤ 1000000) :
    Calls Try.prog 54 #[.pointer (some ⟨g, 0, none⟩), .int .i64 line, .int .i64 who, .int .i64 id] wx fun e w' => e = .returned (.bool false) ∧ Keep (NX w X) wx w' ∧ TO w w' g X (n + 1) own (upd wt line (wt line ++ [(who, id)])) := by
  obtain ⟨bo, bw, M, R, O, c, k1, k2, k3, k4, k5, k6, k7⟩ := h.c
  have hL : (wtO O line).length ≤ 1000000 := by
    unfold wtO
    cases hg : getK TE.s line O with
    | none => simp
    | some q => have := k6 q (getK_some hg).1; simp only; omega
  by_cases e : own line = -1
  · refine (TU.ask_wait2 c id hl h1 h2 (by rw [k1, e]) (by rw [k2]; exact ho.resolve_left (fun h => h e)) (by omega) hL).mono ?_
    rintro e w' ⟨rfl, hk, p, hp1, hp2, c'⟩
    exact ⟨rfl, to_wait_done h c k1 k2 k3 k4 k5 k6 k7 h2 hk hp1 hp2 c'⟩
  · refine (TU.ask_wait1 c id hl h1 h2 (by rw [k1]; exact e) (by omega) hL).mono ?_
    rintro e w' ⟨rfl, hk, p, hp1, hp2, c'⟩
    exact ⟨rfl, to_wait_done h c k1 k2 k3 k4 k5 k6 k7 h2 hk hp1 hp2 c'⟩
theorem to_release_no (h : TO w wx g X n own wt) {line who : Int} (hl : In64 line) (ho : own line = -1 ∨ own line ≠ who) :
    Calls Try.prog 57 #[.pointer (some ⟨g, 0, none⟩), .int .i64 line, .int .i64 who] wx fun e w' => e = .returned (.int .i64 6) ∧ wx = w' := by
  obtain ⟨bo, bw, M, R, O, c, k1, k2, k3, k4, k5, k6, k7⟩ := h.c
  exact TU.release_no c hl (by rw [k1]; exact ho)
theorem to_release_ok (h : TO w wx g X n own wt) {line who : Int} (hl : In64 line) (h1 : own line ≠ -1) (h2 : own line = who) :
    Calls Try.prog 57 #[.pointer (some ⟨g, 0, none⟩), .int .i64 line, .int .i64 who] wx fun e w' => e = .returned (.int .i64 0) ∧ Keep (NX w X) wx w' ∧ TO w w' g X n (upd own line (-1)) wt := by
  obtain ⟨bo, bw, M, R, O, c, k1, k2, k3, k4, k5, k6, k7⟩ := h.c
  refine (TU.release_ok c hl (by rw [k1]; exact h1) (by rw [k1]; exact h2)).mono ?_
  rintro e w' ⟨rfl, hk, hs, c'⟩
  exact ⟨rfl, to_done h hk k3 (fun j hj => .inl hj) c' (fun l => by rw [ownR_del R c.rise, k1]; rfl) k2 (by have := delK_len (key := Prod.fst) line R; omega) k5 k6 k7⟩
theorem to_next_no (h : TO w wx g X n own wt) {line : Int} (hl : In64 line) (hn : ¬ (own line = -1 ∧ wt line ≠ [])) :
    Calls Try.prog 34 #[.pointer (some ⟨g, 0, none⟩), .int .i64 line] wx fun e w' => e = .returned (.tuple #[.int .i64 0, .int .i64 0, .bool false]) ∧ wx = w' := by
  obtain ⟨bo, bw, M, R, O, c, k1, k2, k3, k4, k5, k6, k7⟩ := h.c
  exact TU.next_no c hl (by rw [k1, k2]; exact hn)
theorem to_next_ok (h : TO w wx g X n own wt) {line : Int} (hl : In64 line) (h1 : own line = -1) {x : Int × Int} {r : List (Int × Int)} (hx : wt line = x :: r) (hn : n ≤ 1000000) :
    Calls Try.prog 34 #[.pointer (some ⟨g, 0, none⟩), .int .i64 line] wx fun e w' => e = .returned (.tuple #[.int .i64 x.1, .int .i64 x.2, .bool true]) ∧ Keep (NX w X) wx w' ∧ TO w w' g X (n + 1) (upd own line x.1) (upd wt line r) := by
  have hx0 := h.wt_ge line x (by rw [hx]; simp)
  obtain ⟨bo, bw, M, R, O, c, k1, k2, k3, k4, k5, k6, k7⟩ := h.c
  obtain ⟨p, hp, hpl⟩ : ∃ p, getK TE.s line O = some p ∧ p.l = x :: r := by
    have := k2 line
    rw [hx] at this
    unfold wtO at this
    cases hg : getK TE.s line O with
    | none => rw [hg] at this; cases this
    | some p => rw [hg] at this; exact ⟨p, rfl, this⟩
  obtain ⟨hpO, hps⟩ := getK_some hp
  refine (TU.next_ok c hl (by rw [k1]; exact h1) hp hpl hx0 (by omega) (by omega)).mono ?_
  rintro e w' ⟨rfl, hk, c'⟩
  have htl : ∀ q ∈ wtNext p O, q ∈ O ∨ q.l = p.l.tail := fun q hq => by
    unfold wtNext at hq
    split at hq
    · exact .inl (mem_delK.1 hq).1
    · rcases mem_putK.1 hq with rfl | ⟨hq, _⟩
      · exact .inr rfl
      · exact .inl hq
  refine ⟨rfl, to_done h hk k3 (fun j hj => .inl hj) c' (fun l => by rw [ownR_put R c.rise, k1]; rfl) (fun l => ?_) (by have := putK_len (key := Prod.fst) (line, x.1) R; omega) ?_ (fun q hq => ?_) (fun q hq => ?_)⟩
  · rw [wtO_next c.riseO hp, k2]
    unfold upd
    by_cases e : l = line
    · rw [if_pos e, if_pos e, e, hx]; rfl
    · rw [if_neg e, if_neg e]
  · unfold wtNext
    split
    · have := delK_len (key := TE.s) p.s O; omega
    · have := putK_len (key := TE.s) ⟨p.s, p.l.tail, p.b, p.o + 2, p.cap - 1⟩ O; omega
  · rcases htl q hq with h1 | h1
    · have := k6 q h1; omega
    · have := k6 p hpO; rw [h1, List.length_tail]; omega
  · rcases htl q hq with h1 | h1
    · exact k7 q h1
    · intro y hy
      rw [h1] at hy
      exact k7 p hpO y (List.mem_of_mem_tail hy)
end
end Go.Proofs.Ytgeiagndpfdnlaa
