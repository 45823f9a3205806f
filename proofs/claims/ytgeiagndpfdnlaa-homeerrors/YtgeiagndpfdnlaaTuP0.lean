/- The program's turns and the document's, beside each other (TP), on plain data: who has which line (o), who waits (q). Conditions: as each theorem states them. -/
import Derived.Test.YtgeiagndpfdnlaaTuWk
import Derived.Test.YtgeiagndpfdnlaaTuD5
import Derived.Test.YtgeiagndpfdnlaaTuP1
namespace Go.Proofs.Ytgeiagndpfdnlaa
open Go.RowKit Go.Maps
set_option linter.unusedVariables false
set_option maxRecDepth 20000

/-- Who waits for a line, and with what numbers. -/
def wtD (q : List Wr) (k : Int) : List (Int × Int) := (waitT q k).map fun x => (x.w, x.d)
theorem wtD_nil {q : List Wr} {k : Int} : wtD q k = [] ↔ waitT q k = [] := by unfold wtD; rw [List.map_eq_nil_iff]
theorem own_upd {o : List (Int × Int)} (h : OkT o) {l w : Int} (hl : ownT o l = -1) (hw : 0 ≤ w) : upd (ownT o) l w = ownT (o ++ [(l, w)]) := by
  funext k
  rw [own_snoc h hl hw]
  rfl
theorem wt_upd (q : List Wr) (l w d : Int) : upd (wtD q) l (wtD q l ++ [(w, d)]) = wtD (q ++ [⟨l, w, d⟩]) := by
  funext k
  unfold upd wtD
  rw [wait_snoc]
  by_cases e : k = l
  · subst e; rw [if_pos rfl, if_pos rfl]; simp
  · rw [if_neg e, if_neg (by simpa using e)]
theorem own_erase_upd {o : List (Int × Int)} (h : OkT o) {i : Nat} {l v : Int} (hp : o[i]? = some (l, v)) : upd (ownT o) l (-1) = ownT (o.eraseIdx i) := by
  funext k
  rw [own_erase h hp]
  rfl
theorem wt_erase_upd {q : List Wr} {i : Nat} {l w d : Int} (hx : q[i]? = some ⟨l, w, d⟩) (hno : ∀ j y, j < i → q[j]? = some y → y.l ≠ l) : wtD q l = (w, d) :: (wtD q l).tail ∧ upd (wtD q) l (wtD q l).tail = wtD (q.eraseIdx i) := by
  have h1 := wait_first hx hno
  simp only at h1
  constructor
  · unfold wtD
    cases hw : waitT q l with
    | nil => rw [hw] at h1; cases h1
    | cons y r =>
      rw [hw] at h1
      obtain rfl := Option.some.inj h1
      rfl
  · funext k
    unfold upd wtD
    rw [wait_erase hx hno]
    by_cases e : k = l
    · subst e; rw [if_pos rfl, if_pos rfl, List.map_tail]
    · rw [if_neg e, if_neg (by simpa using e)]
/-- The document's turns: in blocks of X, none of Z. -/
def DX (wx : World) (g2 : Nat) (X Z : Nat → Prop) (m : Nat) (o : List (Int × Int)) (q : List Wr) : Prop :=
  ∃ M N ao no co aq nq cq, DT wx g2 0 M N o q ao no co aq nq cq ∧ no ≤ m ∧ nq ≤ m ∧ (X g2 ∧ ¬ Z g2) ∧ ∀ j, M j ∨ N j → X j ∧ ¬ Z j
structure TP (w wx : World) (g g2 : Nat) (X Z : Nat → Prop) (n m : Nat) (o : List (Int × Int)) (q : List Wr) (o2 : List (Int × Int)) (q2 : List Wr) : Prop where
  p : TO w wx g X n (ownT o) (wtD q)
  d : DX wx g2 X Z m o2 q2
  z : ∀ j, Z j → X j
  lo : ∀ j, X j → w.heap.size ≤ j
section
variable {w wx wy : World} {g g2 n m : Nat} {X Z F Y : Nat → Prop} {o o2 : List (Int × Int)} {q q2 : List Wr}
theorem DX.keep (h : DX wx g2 X Z m o q) (hk : Keep F wx wy) (hF : ∀ j, X j → ¬ Z j → ¬ F j) : DX wy g2 X Z m o q := by
  obtain ⟨M, N, ao, no, co, aq, nq, cq, d, h1, h2, h3, h4⟩ := h
  exact ⟨M, N, ao, no, co, aq, nq, cq, d.keep hk (hF g2 h3.1 h3.2) (fun j hj => hF j (h4 j hj).1 (h4 j hj).2), h1, h2, h3, h4⟩
theorem DX.ok (h : DX wx g2 X Z m o q) : OkT o := by
  obtain ⟨M, N, ao, no, co, aq, nq, cq, d, h1, h2, h3, h4⟩ := h
  exact d.ok
theorem TP.below (h : TP w wx g g2 X Z n m o q o2 q2) (hb : Below wx.heap.size wx wy) : TP w wy g g2 X Z n m o q o2 q2 :=
  ⟨h.p.below hb, h.d.keep (F := fun _ => False) (Keep.of_below hb) (fun _ _ _ h => h), h.z, h.lo⟩
/-- Another block of the test's own, new; the one that it had is let go. -/
theorem TP.own (h : TP w wx g g2 X Z n m o q o2 q2) (hb : Below wx.heap.size wx wy) (hY : ∀ j, Y j → wx.heap.size ≤ j ∧ j < wy.heap.size) : TP w wy g g2 (fun j => X j ∨ Y j) Y n m o q o2 q2 := by
  obtain ⟨M, N, ao, no, co, aq, nq, cq, d, h1, h2, h3, h4⟩ := h.d
  have hs := h.p.bel.size
  refine ⟨h.p.grow hb (fun j hj => ?_), ⟨M, N, ao, no, co, aq, nq, cq, d.below hb, h1, h2, ⟨.inl h3.1, fun hy => by have := hY _ hy; have := d.lt; omega⟩, fun j hj => ⟨.inl (h4 j hj).1, fun hy => by have := hY _ hy; have := d.old j hj; omega⟩⟩, fun j hj => .inr hj, fun j hj => ?_⟩
  · rcases hj with hj | hj
    · exact ⟨.inl hj, Nat.lt_of_lt_of_le (h.p.xl j hj) hb.size⟩
    · exact ⟨.inr (hY j hj).1, (hY j hj).2⟩
  · rcases hj with hj | hj
    · exact h.lo j hj
    · exact Nat.le_trans hs (hY j hj).1
/-- After a call on the program's turns. -/
theorem TP.prog {n' : Nat} {own' : Int → Int} {wt' : Int → List (Int × Int)} {o' : List (Int × Int)} {q' : List Wr} (h : TP w wx g g2 X Z n m o q o2 q2) (hk : Keep (NX w X) wx wy) (p : TO w wy g X n' own' wt') (e1 : own' = ownT o') (e2 : wt' = wtD q') : TP w wy g g2 X Z n' m o' q' o2 q2 := by
  subst e1 e2
  exact ⟨p, h.d.keep hk (fun j hj _ hf => hf.2 hj), h.z, h.lo⟩
/-- After a call on the document's. -/
theorem TP.doc {M N M' N' : Nat → Prop} {o' : List (Int × Int)} {q' : List Wr} {ao aq : Option Addr} {no co nq cq m' : Nat} (h : TP w wx g g2 X Z n m o q o2 q2) (hF : ∀ j, F j → X j ∧ ¬ Z j) (hk : Keep F wx wy) (d : DT wy g2 0 M' N' o' q' ao no co aq nq cq) (hM : ∀ j, M' j ∨ N' j → (X j ∧ ¬ Z j) ∨ wx.heap.size ≤ j) (h1 : no ≤ m') (h2 : nq ≤ m') :
    ∃ X', (∀ j, X j → X' j) ∧ Keep (fun j => X j ∧ ¬ Z j) wx wy ∧ TP w wy g g2 X' Z n m' o q o' q' := by
  obtain ⟨_, _, _, _, _, _, _, _, _, _, _, h3, _⟩ := h.d
  have hs := h.p.bel.size
  refine ⟨fun j => X j ∨ (wx.heap.size ≤ j ∧ j < wy.heap.size), fun j hj => .inl hj, hk.mono (fun j _ hj => hF j hj), h.p.wrgrow hk (fun j hj => ⟨h.lo j (hF j hj).1, .inl (hF j hj).1⟩) (fun j hj => ?_), ⟨M', N', ao, no, co, aq, nq, cq, d, h1, h2, ⟨.inl h3.1, h3.2⟩, fun j hj => ?_⟩, fun j hj => .inl (h.z j hj), fun j hj => ?_⟩
  · rcases hj with hj | hj
    · exact ⟨.inl hj, Nat.lt_of_lt_of_le (h.p.xl j hj) hk.size⟩
    · exact ⟨.inr hj.1, hj.2⟩
  · rcases hM j hj with h5 | h5
    · exact ⟨.inl h5.1, h5.2⟩
    · exact ⟨.inr ⟨h5, d.old j hj⟩, fun hz => by have := h.p.xl j (h.z j hz); omega⟩
  · rcases hj with hj | hj
    · exact h.lo j hj
    · exact Nat.le_trans hs hj.1
theorem tp_ask1 (h : TP w wx g g2 X Z n m o q o2 q2) (ho : OkT o) {l v : Int} (d : Int) (hl : In64 l) (h1 : 0 ≤ l) (h2 : 0 ≤ v) (hn : n ≤ 1000) :
    Calls Try.prog 54 #[.pointer (some ⟨g, 0, none⟩), .int .i64 l, .int .i64 v, .int .i64 d] wx fun e w' => e = .returned (.bool (askB o q l)) ∧ Keep (NX w X) wx w' ∧ TP w w' g g2 X Z (n + 1) m (askO o q l v) (askQ o q l v d) o2 q2 := by
  unfold askO askQ
  by_cases hb : ownT o l = -1 ∧ waitT q l = []
  · have e : askB o q l = true := decide_eq_true hb
    rw [e, if_pos rfl, if_pos rfl]
    refine (to_ask_own h.p d hl h1 h2 hb.1 (wtD_nil.2 hb.2) (by omega)).mono ?_
    rintro e w' ⟨rfl, hk, p⟩
    exact ⟨rfl, hk, h.prog hk p (own_upd ho hb.1 h2) rfl⟩
  · have e : askB o q l = false := decide_eq_false hb
    rw [e, if_neg (by simp), if_neg (by simp)]
    refine (to_ask_wait h.p d hl h1 h2 ?_ (by omega)).mono ?_
    · by_cases e1 : ownT o l = -1
      · exact .inr (fun e2 => hb ⟨e1, wtD_nil.1 e2⟩)
      · exact .inl e1
    · rintro e w' ⟨rfl, hk, p⟩
      exact ⟨rfl, hk, h.prog hk p rfl (wt_upd q l v d)⟩
theorem tp_ask2 (h : TP w wx g g2 X Z n m o q o2 q2) {l v : Int} (d : Int) (h2 : 0 ≤ v) (hm : m < 1000) :
    Calls Try.prog 42 #[.pointer (some ⟨g2, 0, none⟩), .int .i64 l, .int .i64 v, .int .i64 d] wx fun e w' => e = .returned (.bool (askB o2 q2 l)) ∧
      ∃ X', (∀ j, X j → X' j) ∧ Keep (fun j => X j ∧ ¬ Z j) wx w' ∧ TP w w' g g2 X' Z n (m + 1) o q (askO o2 q2 l v) (askQ o2 q2 l v d) := by
  obtain ⟨M, N, ao, no, co, aq, nq, cq, dt, k1, k2, k3, k4⟩ := h.d
  unfold askO askQ
  by_cases hb : ownT o2 l = -1 ∧ waitT q2 l = []
  · have e : askB o2 q2 l = true := decide_eq_true hb
    rw [e, if_pos rfl, if_pos rfl]
    refine (TR.ask_own dt l v d h2 hb.1 hb.2 (by omega)).mono ?_
    rintro e w' ⟨rfl, hk, _, ao', co', d'⟩
    refine ⟨rfl, h.doc (M := M) (N := N) (fun j hj => ?_) hk d' (fun j hj => ?_) (by omega) (by omega)⟩
    · rcases hj with rfl | hj
      · exact k3
      · exact k4 j (.inl hj)
    · rcases hj with (hj | hj) | hj
      · exact .inl (k4 j (.inl hj))
      · exact .inr hj.1
      · exact .inl (k4 j (.inr hj))
  · have e : askB o2 q2 l = false := decide_eq_false hb
    rw [e, if_neg (by simp), if_neg (by simp)]
    have fin : ∀ w', Keep (fun k => k = g2 ∨ N k) wx w' → (∃ aq' cq', DT w' g2 0 M (fun k => N k ∨ (wx.heap.size ≤ k ∧ k < w'.heap.size)) o2 (q2 ++ [⟨l, v, d⟩]) ao no co aq' (nq + 1) cq') → ∃ X', (∀ j, X j → X' j) ∧ Keep (fun j => X j ∧ ¬ Z j) wx w' ∧ TP w w' g g2 X' Z n (m + 1) o q o2 (q2 ++ [⟨l, v, d⟩]) := by
      rintro w' hk ⟨aq', cq', d'⟩
      refine h.doc (M := M) (N := N) (fun j hj => ?_) hk d' (fun j hj => ?_) (by omega) (by omega)
      · rcases hj with rfl | hj
        · exact k3
        · exact k4 j (.inr hj)
      · rcases hj with hj | hj | hj
        · exact .inl (k4 j (.inl hj))
        · exact .inl (k4 j (.inr hj))
        · exact .inr hj.1
    by_cases e1 : ownT o2 l = -1
    · refine (TR.ask_wait2 dt l v d h2 e1 (fun e2 => hb ⟨e1, e2⟩) (by omega)).mono ?_
      rintro e w' ⟨rfl, hk, _, hx⟩
      exact ⟨rfl, fin w' hk hx⟩
    · refine (TR.ask_wait1 dt l v d h2 e1 (by omega)).mono ?_
      rintro e w' ⟨rfl, hk, _, hx⟩
      exact ⟨rfl, fin w' hk hx⟩
theorem tp_owner1 (h : TP w wx g g2 X Z n m o q o2 q2) {l : Int} (hl : In64 l) : Calls Try.prog 11 #[.pointer (some ⟨g, 0, none⟩), .int .i64 l] wx fun e w' => e = .returned (.int .i64 (ownT o l)) ∧ wx = w' := to_owner h.p hl
theorem tp_owner2 (h : TP w wx g g2 X Z n m o q o2 q2) (l : Int) : Calls Try.prog 20 #[.pointer (some ⟨g2, 0, none⟩), .int .i64 l] wx fun e w' => e = .returned (.int .i64 (ownT o2 l)) ∧ Below wx.heap.size wx w' := by
  obtain ⟨M, N, ao, no, co, aq, nq, cq, dt, k1, k2, k3, k4⟩ := h.d
  exact TR.owner_any dt l
theorem tp_waiting1 (h : TP w wx g g2 X Z n m o q o2 q2) {l : Int} (hl : In64 l) : Calls Try.prog 12 #[.pointer (some ⟨g, 0, none⟩), .int .i64 l] wx fun e w' => e = .returned (.int .i64 (waitT q l).length) ∧ wx = w' := by
  have := to_waiting h.p hl
  unfold wtD at this
  rw [List.length_map] at this
  exact this
theorem tp_waiting2 (h : TP w wx g g2 X Z n m o q o2 q2) (l : Int) : Calls Try.prog 47 #[.pointer (some ⟨g2, 0, none⟩), .int .i64 l] wx fun e w' => e = .returned (.int .i64 (waitT q2 l).length) ∧ Below wx.heap.size wx w' := by
  obtain ⟨M, N, ao, no, co, aq, nq, cq, dt, k1, k2, k3, k4⟩ := h.d
  exact TR.waiting_any dt l
theorem tp_ready1 (h : TP w wx g g2 X Z n m o q o2 q2) (hn : n ≤ 1000) : Calls Try.prog 32 #[.pointer (some ⟨g, 0, none⟩)] wx fun e w' => ∃ a k cap, e = .returned (.slice a k cap) ∧ Sl w' a k cap (readyT o q) ∧ Below wx.heap.size wx w' := by
  refine (to_ready h.p (by omega)).mono ?_
  rintro e w' ⟨v, l, rfl, own, b, hr, hm⟩
  have e : readyT o q = l := ready_eq hr (fun k => (hm k).trans (by rw [Ne, wtD_nil]))
  rw [e]
  obtain ⟨a, cap, rfl, s⟩ := own.sl
  exact ⟨a, _, cap, rfl, s, b⟩
theorem tp_ready2 (h : TP w wx g g2 X Z n m o q o2 q2) (hm : m ≤ 1000) : Calls Try.prog 36 #[.pointer (some ⟨g2, 0, none⟩)] wx fun e w' => ∃ a k cap, e = .returned (.slice a k cap) ∧ Sl w' a k cap (readyT o2 q2) ∧ Below wx.heap.size wx w' := by
  obtain ⟨M, N, ao, no, co, aq, nq, cq, dt, k1, k2, k3, k4⟩ := h.d
  exact TR.ready_any dt (by omega)
theorem tp_release1_no (h : TP w wx g g2 X Z n m o q o2 q2) {l v : Int} (hl : In64 l) (ho : ownT o l = -1 ∨ ownT o l ≠ v) :
    Calls Try.prog 57 #[.pointer (some ⟨g, 0, none⟩), .int .i64 l, .int .i64 v] wx fun e w' => e = .returned (.int .i64 6) ∧ wx = w' := to_release_no h.p hl ho
theorem tp_release2_no (h : TP w wx g g2 X Z n m o q o2 q2) {l v : Int} (h0 : 0 ≤ v) (ho : ownT o2 l ≠ v) :
    Calls Try.prog 44 #[.pointer (some ⟨g2, 0, none⟩), .int .i64 l, .int .i64 v] wx fun e w' => e = .returned (.bool false) ∧ Below wx.heap.size wx w' := by
  obtain ⟨M, N, ao, no, co, aq, nq, cq, dt, k1, k2, k3, k4⟩ := h.d
  refine TR.release_no dt l v (fun p hp hpe => ho ?_)
  have := own_at dt.ok hp
  rw [hpe.1, hpe.2] at this
  exact this
theorem tp_release1_ok (h : TP w wx g g2 X Z n m o q o2 q2) (ho : OkT o) {l v : Int} (hl : In64 l) (h0 : 0 ≤ v) {k : Nat} (hk : o[k]? = some (l, v)) :
    Calls Try.prog 57 #[.pointer (some ⟨g, 0, none⟩), .int .i64 l, .int .i64 v] wx fun e w' => e = .returned (.int .i64 0) ∧ Keep (NX w X) wx w' ∧ TP w w' g g2 X Z n m (o.eraseIdx k) q o2 q2 := by
  have e := own_at ho (List.mem_of_getElem? hk)
  simp only at e
  refine (to_release_ok h.p hl (by rw [e]; omega) e).mono ?_
  rintro e w' ⟨rfl, hK, p⟩
  exact ⟨rfl, hK, h.prog hK p (own_erase_upd ho hk) rfl⟩
theorem tp_release2_ok (h : TP w wx g g2 X Z n m o q o2 q2) {l v : Int} {k : Nat} (hk : o2[k]? = some (l, v)) (hno : ∀ (j : Nat) y, j < k → o2[j]? = some y → ¬ (y.1 = l ∧ y.2 = v)) (hm : m ≤ 1000) :
    Calls Try.prog 44 #[.pointer (some ⟨g2, 0, none⟩), .int .i64 l, .int .i64 v] wx fun e w' => e = .returned (.bool true) ∧
      ∃ X', (∀ j, X j → X' j) ∧ Keep (fun j => X j ∧ ¬ Z j) wx w' ∧ TP w w' g g2 X' Z n m o q (o2.eraseIdx k) q2 := by
  obtain ⟨M, N, ao, no, co, aq, nq, cq, dt, k1, k2, k3, k4⟩ := h.d
  refine (TR.release_ok dt l v hk hno (by omega)).mono ?_
  rintro e w' ⟨rfl, hK, _, ao', co', d'⟩
  refine ⟨rfl, h.doc (F := fun j => j = g2) (M := M) (N := N) (fun j hj => hj ▸ k3) hK d' (fun j hj => ?_) (by omega) (by omega)⟩
  rcases hj with hj | hj
  · exact .inr hj.1
  · exact .inl (k4 j (.inr hj))
theorem tp_next1_no (h : TP w wx g g2 X Z n m o q o2 q2) {l : Int} (hl : In64 l) (hn : ¬ (ownT o l = -1 ∧ waitT q l ≠ [])) :
    Calls Try.prog 34 #[.pointer (some ⟨g, 0, none⟩), .int .i64 l] wx fun e w' => e = .returned (.tuple #[.int .i64 0, .int .i64 0, .bool false]) ∧ wx = w' :=
  to_next_no h.p hl (fun hc => hn ⟨hc.1, fun e => hc.2 (wtD_nil.2 e)⟩)
theorem tp_next2_no (h : TP w wx g g2 X Z n m o q o2 q2) (l : Int) (hn : ¬ (ownT o2 l = -1 ∧ waitT q2 l ≠ [])) :
    Calls Try.prog 37 #[.pointer (some ⟨g2, 0, none⟩), .int .i64 l] wx fun e w' => e = .returned (.tuple #[.int .i64 0, .int .i64 0, .bool false]) ∧ Below wx.heap.size wx w' := by
  obtain ⟨M, N, ao, no, co, aq, nq, cq, dt, k1, k2, k3, k4⟩ := h.d
  by_cases e1 : ownT o2 l = -1
  · have e2 : waitT q2 l = [] := Classical.not_not.1 (fun e => hn ⟨e1, e⟩)
    refine TR.next_no2 dt l e1 (fun y hy e => ?_)
    unfold waitT at e2
    rw [List.filter_eq_nil_iff] at e2
    exact e2 y hy (decide_eq_true e)
  · exact TR.next_no1 dt l e1
theorem tp_next1_ok (h : TP w wx g g2 X Z n m o q o2 q2) (ho : OkT o) {l v d : Int} (hl : In64 l) (h1 : ownT o l = -1) (h0 : 0 ≤ v) {k : Nat} (hk : q[k]? = some ⟨l, v, d⟩) (hno : ∀ (j : Nat) y, j < k → q[j]? = some y → y.l ≠ l) (hn : n ≤ 1000) :
    Calls Try.prog 34 #[.pointer (some ⟨g, 0, none⟩), .int .i64 l] wx fun e w' => e = .returned (.tuple #[.int .i64 v, .int .i64 d, .bool true]) ∧ Keep (NX w X) wx w' ∧ TP w w' g g2 X Z (n + 1) m (o ++ [(l, v)]) (q.eraseIdx k) o2 q2 := by
  obtain ⟨e1, e2⟩ := wt_erase_upd hk hno
  refine (to_next_ok h.p hl h1 e1 (by omega)).mono ?_
  rintro e w' ⟨rfl, hK, p⟩
  exact ⟨rfl, hK, h.prog hK p (own_upd ho h1 h0) e2⟩
theorem tp_next2_ok (h : TP w wx g g2 X Z n m o q o2 q2) {l v d : Int} (h1 : ownT o2 l = -1) (h0 : 0 ≤ v) {k : Nat} (hk : q2[k]? = some ⟨l, v, d⟩) (hno : ∀ (j : Nat) y, j < k → q2[j]? = some y → y.l ≠ l) (hm : m ≤ 1000) :
    Calls Try.prog 37 #[.pointer (some ⟨g2, 0, none⟩), .int .i64 l] wx fun e w' => e = .returned (.tuple #[.int .i64 v, .int .i64 d, .bool true]) ∧
      ∃ X', (∀ j, X j → X' j) ∧ Keep (fun j => X j ∧ ¬ Z j) wx w' ∧ TP w w' g g2 X' Z n (m + 1) o q (o2 ++ [(l, v)]) (q2.eraseIdx k) := by
  obtain ⟨M, N, ao, no, co, aq, nq, cq, dt, k1, k2, k3, k4⟩ := h.d
  refine (TR.next_ok dt l v d h1 h0 hk hno (by omega) (by omega)).mono ?_
  rintro e w' ⟨rfl, hK, _, M', N', ao', co', aq', cq', hM, hN, d'⟩
  refine ⟨rfl, h.doc (M := M) (N := N) (fun j hj => ?_) hK d' (fun j hj => ?_) (by omega) (by omega)⟩
  · rcases hj with rfl | hj
    · exact k3
    · exact k4 j (.inl hj)
  · rcases hj with hj | hj
    · exact (hM j hj).imp (fun h => k4 j (.inl h)) (fun h => h)
    · exact .inr (hN j hj)
end
end Go.Proofs.Ytgeiagndpfdnlaa
