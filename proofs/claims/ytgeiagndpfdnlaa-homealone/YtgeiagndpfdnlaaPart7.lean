/- The program's turns and the document's, beside each other (TP), on plain data: who has which line (o), who waits (q). Conditions: as each theorem states them.
A directory and turns beside each other (HO), as a home has them, and the test's own memory X: no block of the one is one of the other. Conditions: as each theorem states them.
A home's directory and turns (HP), on plain data: its rows, who has which line, who waits. Conditions: as each theorem states them.
The plain mathematics of chapter 1: a sum digit by digit as the walk spells it (over Int), the same over BitVec 16, that it is linear, and that no burst of up to sixteen digits gives 0. No condition.
More plain mathematics of chapter 1: bytes and their own sum have the sum 0, and only they. No condition.
The contracts of crc.Sum and of the helps Copy, Cut, Same, Within and wakes: what each call gives and what it leaves of the memory. Conditions: as each theorem states them.
The contracts of crc.Seal, crc.Open and the copy that Open hands out. Conditions: as each theorem states them.
What spoiling does to a list of bytes, as the walk spells it. No condition.
More plain mathematics of chapter 1: what Spoil does digit by digit, and that a burst of up to sixteen digits never leaves a sum as it was. No condition.
Small facts of bytes that several texts share. Conditions: as each theorem states them.
Packets as plain data: what may be, and their bytes. No condition.
The contracts of packet's within, Check and flagByte. Conditions: as each theorem states them.
The contract of packet.head: a packet's first ten bytes, in new memory. Conditions: as stated.
The contracts of packet.appendWord, Pack and of the statements' wakes. Conditions: as each theorem states them.
The contracts of packet.Request and Answer, and the walk of PacketKinds: it answers true and writes nothing that was there. No condition.
The contracts of slices.Equal over whole numbers and of packet.Same. Conditions: as each theorem states them.
(What stood here stands in Pk0.)
The program's home (PH): its struct, its directory and turns, on plain data. Conditions: as each theorem states them. -/
import Derived.Test.YtgeiagndpfdnlaaPart5
import Derived.Test.YtgeiagndpfdnlaaPart6
import Derived.Test.YtgeiagndpfdnlaaPart4
import Derived.Test.YtgeiagndpfdnlaaPart3
import Derived.WalkKit
import Derived.Laws.BitsAllLaws
import Derived.Test.YtgeiagndpfdnlaaRows
import Derived.WalkSpells
import Derived.BigQuiet
import Derived.WalkLawsBesides
import Derived.Laws.AppendOwnNone
import Derived.Laws.CopyOwn
import Derived.Deep.RegionHeld3
import Derived.Lib.SlBytesConst
import Derived.Deep.OwnRows
import Derived.BigRegion
import Derived.Deep.DeepCutAuto
import Derived.Deep.DrawnRows
import Derived.Test.YtgeiagndpfdnlaaPart1
import Derived.Test.YtgeiagndpfdnlaaPart2
import Derived.Deep.CutBlock
section
namespace Go.Proofs.Ytgeiagndpfdnlaa
open Go.RowKit Go.Maps
set_option linter.unusedVariables false
set_option maxRecDepth 20000

/-- Who waits for a line, and with what numbers. -/
def wtD (q : List Wr) (k : Int) : List (Int × Int) := (waitT q k).map fun x => (x.w, x.d)
theorem wtD_nil {q : List Wr} {k : Int} : wtD q k = [] ↔ waitT q k = [] := by unfold wtD; rw [List.map_eq_nil_iff]
theorem own_upd {o : List (Int × Int)} (h : OkT o) {l w : Int} (hl : ownT o l = -1) (hw : 0 ≤ w) : upd (ownT o) l w = ownT (o ++ [(l, w)]) := by
  funext k
  rw [own_snoc h hl hw]
  rfl
theorem wt_upd (q : List Wr) (l w d : Int) : upd (wtD q) l (wtD q l ++ [(w, d)]) = wtD (q ++ [⟨l, w, d⟩]) := by
  funext k
  unfold upd wtD
  rw [wait_snoc]
  by_cases e : k = l
  · subst e; rw [if_pos rfl, if_pos rfl]; simp
  · rw [if_neg e, if_neg (by simpa using e)]
theorem own_erase_upd {o : List (Int × Int)} (h : OkT o) {i : Nat} {l v : Int} (hp : o[i]? = some (l, v)) : upd (ownT o) l (-1) = ownT (o.eraseIdx i) := by
  funext k
  rw [own_erase h hp]
  rfl
theorem wt_erase_upd {q : List Wr} {i : Nat} {l w d : Int} (hx : q[i]? = some ⟨l, w, d⟩) (hno : ∀ j y, j < i → q[j]? = some y → y.l ≠ l) : wtD q l = (w, d) :: (wtD q l).tail ∧ upd (wtD q) l (wtD q l).tail = wtD (q.eraseIdx i) := by
  have h1 := wait_first hx hno
  simp only at h1
  constructor
  · unfold wtD
    cases hw : waitT q l with
    | nil => rw [hw] at h1; cases h1
    | cons y r =>
      rw [hw] at h1
      obtain rfl := Option.some.inj h1
      rfl
  · funext k
    unfold upd wtD
    rw [wait_erase hx hno]
    by_cases e : k = l
    · subst e; rw [if_pos rfl, if_pos rfl, List.map_tail]
    · rw [if_neg e, if_neg (by simpa using e)]
/-- The document's turns: in blocks of X, none of Z. -/
def DX (wx : World) (g2 : Nat) (X Z : Nat → Prop) (m : Nat) (o : List (Int × Int)) (q : List Wr) : Prop :=
  ∃ M N ao no co aq nq cq, DT wx g2 0 M N o q ao no co aq nq cq ∧ no ≤ m ∧ nq ≤ m ∧ (X g2 ∧ ¬ Z g2) ∧ ∀ j, M j ∨ N j → X j ∧ ¬ Z j
structure TP (w wx : World) (g g2 : Nat) (X Z : Nat → Prop) (n m : Nat) (o : List (Int × Int)) (q : List Wr) (o2 : List (Int × Int)) (q2 : List Wr) : Prop where
  p : TO w wx g X n (ownT o) (wtD q)
  d : DX wx g2 X Z m o2 q2
  z : ∀ j, Z j → X j
  lo : ∀ j, X j → w.heap.size ≤ j
section
variable {w wx wy : World} {g g2 n m : Nat} {X Z F Y : Nat → Prop} {o o2 : List (Int × Int)} {q q2 : List Wr}
theorem DX.keep (h : DX wx g2 X Z m o q) (hk : Keep F wx wy) (hF : ∀ j, X j → ¬ Z j → ¬ F j) : DX wy g2 X Z m o q := by
  obtain ⟨M, N, ao, no, co, aq, nq, cq, d, h1, h2, h3, h4⟩ := h
  exact ⟨M, N, ao, no, co, aq, nq, cq, d.keep hk (hF g2 h3.1 h3.2) (fun j hj => hF j (h4 j hj).1 (h4 j hj).2), h1, h2, h3, h4⟩
theorem DX.ok (h : DX wx g2 X Z m o q) : OkT o := by
  obtain ⟨M, N, ao, no, co, aq, nq, cq, d, h1, h2, h3, h4⟩ := h
  exact d.ok
theorem TP.below (h : TP w wx g g2 X Z n m o q o2 q2) (hb : Below wx.heap.size wx wy) : TP w wy g g2 X Z n m o q o2 q2 :=
  ⟨h.p.below hb, h.d.keep (F := fun _ => False) (Keep.of_below hb) (fun _ _ _ h => h), h.z, h.lo⟩
/-- Another block of the test's own, new; the one that it had is let go. -/
theorem TP.own (h : TP w wx g g2 X Z n m o q o2 q2) (hb : Below wx.heap.size wx wy) (hY : ∀ j, Y j → wx.heap.size ≤ j ∧ j < wy.heap.size) : TP w wy g g2 (fun j => X j ∨ Y j) Y n m o q o2 q2 := by
  obtain ⟨M, N, ao, no, co, aq, nq, cq, d, h1, h2, h3, h4⟩ := h.d
  have hs := h.p.bel.size
  refine ⟨h.p.grow hb (fun j hj => ?_), ⟨M, N, ao, no, co, aq, nq, cq, d.below hb, h1, h2, ⟨.inl h3.1, fun hy => by have := hY _ hy; have := d.lt; omega⟩, fun j hj => ⟨.inl (h4 j hj).1, fun hy => by have := hY _ hy; have := d.old j hj; omega⟩⟩, fun j hj => .inr hj, fun j hj => ?_⟩
  · rcases hj with hj | hj
    · exact ⟨.inl hj, Nat.lt_of_lt_of_le (h.p.xl j hj) hb.size⟩
    · exact ⟨.inr (hY j hj).1, (hY j hj).2⟩
  · rcases hj with hj | hj
    · exact h.lo j hj
    · exact Nat.le_trans hs (hY j hj).1
/-- After a call on the program's turns. -/
theorem TP.prog {n' : Nat} {own' : Int → Int} {wt' : Int → List (Int × Int)} {o' : List (Int × Int)} {q' : List Wr} (h : TP w wx g g2 X Z n m o q o2 q2) (hk : Keep (NX w X) wx wy) (p : TO w wy g X n' own' wt') (e1 : own' = ownT o') (e2 : wt' = wtD q') : TP w wy g g2 X Z n' m o' q' o2 q2 := by
  subst e1 e2
  exact ⟨p, h.d.keep hk (fun j hj _ hf => hf.2 hj), h.z, h.lo⟩
/-- After a call on the document's. -/
theorem TP.doc {M N M' N' : Nat → Prop} {o' : List (Int × Int)} {q' : List Wr} {ao aq : Option Addr} {no co nq cq m' : Nat} (h : TP w wx g g2 X Z n m o q o2 q2) (hF : ∀ j, F j → X j ∧ ¬ Z j) (hk : Keep F wx wy) (d : DT wy g2 0 M' N' o' q' ao no co aq nq cq) (hM : ∀ j, M' j ∨ N' j → (X j ∧ ¬ Z j) ∨ wx.heap.size ≤ j) (h1 : no ≤ m') (h2 : nq ≤ m') :
    ∃ X', (∀ j, X j → X' j) ∧ Keep (fun j => X j ∧ ¬ Z j) wx wy ∧ TP w wy g g2 X' Z n m' o q o' q' := by
  obtain ⟨_, _, _, _, _, _, _, _, _, _, _, h3, _⟩ := h.d
  have hs := h.p.bel.size
  refine ⟨fun j => X j ∨ (wx.heap.size ≤ j ∧ j < wy.heap.size), fun j hj => .inl hj, hk.mono (fun j _ hj => hF j hj), h.p.wrgrow hk (fun j hj => ⟨h.lo j (hF j hj).1, .inl (hF j hj).1⟩) (fun j hj => ?_), ⟨M', N', ao, no, co, aq, nq, cq, d, h1, h2, ⟨.inl h3.1, h3.2⟩, fun j hj => ?_⟩, fun j hj => .inl (h.z j hj), fun j hj => ?_⟩
  · rcases hj with hj | hj
    · exact ⟨.inl hj, Nat.lt_of_lt_of_le (h.p.xl j hj) hk.size⟩
    · exact ⟨.inr hj.1, hj.2⟩
  · rcases hM j hj with h5 | h5
    · exact ⟨.inl h5.1, h5.2⟩
    · exact ⟨.inr ⟨h5, d.old j hj⟩, fun hz => by have := h.p.xl j (h.z j hz); omega⟩
  · rcases hj with hj | hj
    · exact h.lo j hj
    · exact Nat.le_trans hs hj.1
theorem tp_ask1 (h : TP w wx g g2 X Z n m o q o2 q2) (ho : OkT o) {l v : Int} (d : Int) (hl : In64 l) (h1 : 0 ≤ l) (h2 : 0 ≤ v) (hn : n ≤ 1000) :
    Calls Try.prog 54 #[.pointer (some ⟨g, 0, none⟩), .int .i64 l, .int .i64 v, .int .i64 d] wx fun e w' => e = .returned (.bool (askB o q l)) ∧ Keep (NX w X) wx w' ∧ TP w w' g g2 X Z (n + 1) m (askO o q l v) (askQ o q l v d) o2 q2 := by
  unfold askO askQ
  by_cases hb : ownT o l = -1 ∧ waitT q l = []
  · have e : askB o q l = true := decide_eq_true hb
    rw [e, if_pos rfl, if_pos rfl]
    refine (to_ask_own h.p d hl h1 h2 hb.1 (wtD_nil.2 hb.2) (by omega)).mono ?_
    rintro e w' ⟨rfl, hk, p⟩
    exact ⟨rfl, hk, h.prog hk p (own_upd ho hb.1 h2) rfl⟩
  · have e : askB o q l = false := decide_eq_false hb
    rw [e, if_neg (by simp), if_neg (by simp)]
    refine (to_ask_wait h.p d hl h1 h2 ?_ (by omega)).mono ?_
    · by_cases e1 : ownT o l = -1
      · exact .inr (fun e2 => hb ⟨e1, wtD_nil.1 e2⟩)
      · exact .inl e1
    · rintro e w' ⟨rfl, hk, p⟩
      exact ⟨rfl, hk, h.prog hk p rfl (wt_upd q l v d)⟩
theorem tp_ask2 (h : TP w wx g g2 X Z n m o q o2 q2) {l v : Int} (d : Int) (h2 : 0 ≤ v) (hm : m < 1000) :
    Calls Try.prog 42 #[.pointer (some ⟨g2, 0, none⟩), .int .i64 l, .int .i64 v, .int .i64 d] wx fun e w' => e = .returned (.bool (askB o2 q2 l)) ∧
      ∃ X', (∀ j, X j → X' j) ∧ Keep (fun j => X j ∧ ¬ Z j) wx w' ∧ TP w w' g g2 X' Z n (m + 1) o q (askO o2 q2 l v) (askQ o2 q2 l v d) := by
  obtain ⟨M, N, ao, no, co, aq, nq, cq, dt, k1, k2, k3, k4⟩ := h.d
  unfold askO askQ
  by_cases hb : ownT o2 l = -1 ∧ waitT q2 l = []
  · have e : askB o2 q2 l = true := decide_eq_true hb
    rw [e, if_pos rfl, if_pos rfl]
    refine (TR.ask_own dt l v d h2 hb.1 hb.2 (by omega)).mono ?_
    rintro e w' ⟨rfl, hk, _, ao', co', d'⟩
    refine ⟨rfl, h.doc (M := M) (N := N) (fun j hj => ?_) hk d' (fun j hj => ?_) (by omega) (by omega)⟩
    · rcases hj with rfl | hj
      · exact k3
      · exact k4 j (.inl hj)
    · rcases hj with (hj | hj) | hj
      · exact .inl (k4 j (.inl hj))
      · exact .inr hj.1
      · exact .inl (k4 j (.inr hj))
  · have e : askB o2 q2 l = false := decide_eq_false hb
    rw [e, if_neg (by simp), if_neg (by simp)]
    have fin : ∀ w', Keep (fun k => k = g2 ∨ N k) wx w' → (∃ aq' cq', DT w' g2 0 M (fun k => N k ∨ (wx.heap.size ≤ k ∧ k < w'.heap.size)) o2 (q2 ++ [⟨l, v, d⟩]) ao no co aq' (nq + 1) cq') → ∃ X', (∀ j, X j → X' j) ∧ Keep (fun j => X j ∧ ¬ Z j) wx w' ∧ TP w w' g g2 X' Z n (m + 1) o q o2 (q2 ++ [⟨l, v, d⟩]) := by
      rintro w' hk ⟨aq', cq', d'⟩
      refine h.doc (M := M) (N := N) (fun j hj => ?_) hk d' (fun j hj => ?_) (by omega) (by omega)
      · rcases hj with rfl | hj
        · exact k3
        · exact k4 j (.inr hj)
      · rcases hj with hj | hj | hj
        · exact .inl (k4 j (.inl hj))
        · exact .inl (k4 j (.inr hj))
        · exact .inr hj.1
    by_cases e1 : ownT o2 l = -1
    · refine (TR.ask_wait2 dt l v d h2 e1 (fun e2 => hb ⟨e1, e2⟩) (by omega)).mono ?_
      rintro e w' ⟨rfl, hk, _, hx⟩
      exact ⟨rfl, fin w' hk hx⟩
    · refine (TR.ask_wait1 dt l v d h2 e1 (by omega)).mono ?_
      rintro e w' ⟨rfl, hk, _, hx⟩
      exact ⟨rfl, fin w' hk hx⟩
theorem tp_owner1 (h : TP w wx g g2 X Z n m o q o2 q2) {l : Int} (hl : In64 l) : Calls Try.prog 11 #[.pointer (some ⟨g, 0, none⟩), .int .i64 l] wx fun e w' => e = .returned (.int .i64 (ownT o l)) ∧ wx = w' := to_owner h.p hl
theorem tp_owner2 (h : TP w wx g g2 X Z n m o q o2 q2) (l : Int) : Calls Try.prog 20 #[.pointer (some ⟨g2, 0, none⟩), .int .i64 l] wx fun e w' => e = .returned (.int .i64 (ownT o2 l)) ∧ Below wx.heap.size wx w' := by
  obtain ⟨M, N, ao, no, co, aq, nq, cq, dt, k1, k2, k3, k4⟩ := h.d
  exact TR.owner_any dt l
theorem tp_waiting1 (h : TP w wx g g2 X Z n m o q o2 q2) {l : Int} (hl : In64 l) : Calls Try.prog 12 #[.pointer (some ⟨g, 0, none⟩), .int .i64 l] wx fun e w' => e = .returned (.int .i64 (waitT q l).length) ∧ wx = w' := by
  have := to_waiting h.p hl
  unfold wtD at this
  rw [List.length_map] at this
  exact this
theorem tp_waiting2 (h : TP w wx g g2 X Z n m o q o2 q2) (l : Int) : Calls Try.prog 47 #[.pointer (some ⟨g2, 0, none⟩), .int .i64 l] wx fun e w' => e = .returned (.int .i64 (waitT q2 l).length) ∧ Below wx.heap.size wx w' := by
  obtain ⟨M, N, ao, no, co, aq, nq, cq, dt, k1, k2, k3, k4⟩ := h.d
  exact TR.waiting_any dt l
theorem tp_ready1 (h : TP w wx g g2 X Z n m o q o2 q2) (hn : n ≤ 1000) : Calls Try.prog 32 #[.pointer (some ⟨g, 0, none⟩)] wx fun e w' => ∃ a k cap, e = .returned (.slice a k cap) ∧ Sl w' a k cap (readyT o q) ∧ Below wx.heap.size wx w' := by
  refine (to_ready h.p (by omega)).mono ?_
  rintro e w' ⟨v, l, rfl, own, b, hr, hm⟩
  have e : readyT o q = l := ready_eq hr (fun k => (hm k).trans (by rw [Ne, wtD_nil]))
  rw [e]
  obtain ⟨a, cap, rfl, s⟩ := own.sl
  exact ⟨a, _, cap, rfl, s, b⟩
theorem tp_ready2 (h : TP w wx g g2 X Z n m o q o2 q2) (hm : m ≤ 1000) : Calls Try.prog 36 #[.pointer (some ⟨g2, 0, none⟩)] wx fun e w' => ∃ a k cap, e = .returned (.slice a k cap) ∧ Sl w' a k cap (readyT o2 q2) ∧ Below wx.heap.size wx w' := by
  obtain ⟨M, N, ao, no, co, aq, nq, cq, dt, k1, k2, k3, k4⟩ := h.d
  exact TR.ready_any dt (by omega)
theorem tp_release1_no (h : TP w wx g g2 X Z n m o q o2 q2) {l v : Int} (hl : In64 l) (ho : ownT o l = -1 ∨ ownT o l ≠ v) :
    Calls Try.prog 57 #[.pointer (some ⟨g, 0, none⟩), .int .i64 l, .int .i64 v] wx fun e w' => e = .returned (.int .i64 6) ∧ wx = w' := to_release_no h.p hl ho
theorem tp_release2_no (h : TP w wx g g2 X Z n m o q o2 q2) {l v : Int} (h0 : 0 ≤ v) (ho : ownT o2 l ≠ v) :
    Calls Try.prog 44 #[.pointer (some ⟨g2, 0, none⟩), .int .i64 l, .int .i64 v] wx fun e w' => e = .returned (.bool false) ∧ Below wx.heap.size wx w' := by
  obtain ⟨M, N, ao, no, co, aq, nq, cq, dt, k1, k2, k3, k4⟩ := h.d
  refine TR.release_no dt l v (fun p hp hpe => ho ?_)
  have := own_at dt.ok hp
  rw [hpe.1, hpe.2] at this
  exact this
theorem tp_release1_ok (h : TP w wx g g2 X Z n m o q o2 q2) (ho : OkT o) {l v : Int} (hl : In64 l) (h0 : 0 ≤ v) {k : Nat} (hk : o[k]? = some (l, v)) :
    Calls Try.prog 57 #[.pointer (some ⟨g, 0, none⟩), .int .i64 l, .int .i64 v] wx fun e w' => e = .returned (.int .i64 0) ∧ Keep (NX w X) wx w' ∧ TP w w' g g2 X Z n m (o.eraseIdx k) q o2 q2 := by
  have e := own_at ho (List.mem_of_getElem? hk)
  simp only at e
  refine (to_release_ok h.p hl (by rw [e]; omega) e).mono ?_
  rintro e w' ⟨rfl, hK, p⟩
  exact ⟨rfl, hK, h.prog hK p (own_erase_upd ho hk) rfl⟩
theorem tp_release2_ok (h : TP w wx g g2 X Z n m o q o2 q2) {l v : Int} {k : Nat} (hk : o2[k]? = some (l, v)) (hno : ∀ (j : Nat) y, j < k → o2[j]? = some y → ¬ (y.1 = l ∧ y.2 = v)) (hm : m ≤ 1000) :
    Calls Try.prog 44 #[.pointer (some ⟨g2, 0, none⟩), .int .i64 l, .int .i64 v] wx fun e w' => e = .returned (.bool true) ∧
      ∃ X', (∀ j, X j → X' j) ∧ Keep (fun j => X j ∧ ¬ Z j) wx w' ∧ TP w w' g g2 X' Z n m o q (o2.eraseIdx k) q2 := by
  obtain ⟨M, N, ao, no, co, aq, nq, cq, dt, k1, k2, k3, k4⟩ := h.d
  refine (TR.release_ok dt l v hk hno (by omega)).mono ?_
  rintro e w' ⟨rfl, hK, _, ao', co', d'⟩
  refine ⟨rfl, h.doc (F := fun j => j = g2) (M := M) (N := N) (fun j hj => hj ▸ k3) hK d' (fun j hj => ?_) (by omega) (by omega)⟩
  rcases hj with hj | hj
  · exact .inr hj.1
  · exact .inl (k4 j (.inr hj))
theorem tp_next1_no (h : TP w wx g g2 X Z n m o q o2 q2) {l : Int} (hl : In64 l) (hn : ¬ (ownT o l = -1 ∧ waitT q l ≠ [])) :
    Calls Try.prog 34 #[.pointer (some ⟨g, 0, none⟩), .int .i64 l] wx fun e w' => e = .returned (.tuple #[.int .i64 0, .int .i64 0, .bool false]) ∧ wx = w' :=
  to_next_no h.p hl (fun hc => hn ⟨hc.1, fun e => hc.2 (wtD_nil.2 e)⟩)
theorem tp_next2_no (h : TP w wx g g2 X Z n m o q o2 q2) (l : Int) (hn : ¬ (ownT o2 l = -1 ∧ waitT q2 l ≠ [])) :
    Calls Try.prog 37 #[.pointer (some ⟨g2, 0, none⟩), .int .i64 l] wx fun e w' => e = .returned (.tuple #[.int .i64 0, .int .i64 0, .bool false]) ∧ Below wx.heap.size wx w' := by
  obtain ⟨M, N, ao, no, co, aq, nq, cq, dt, k1, k2, k3, k4⟩ := h.d
  by_cases e1 : ownT o2 l = -1
  · have e2 : waitT q2 l = [] := Classical.not_not.1 (fun e => hn ⟨e1, e⟩)
    refine TR.next_no2 dt l e1 (fun y hy e => ?_)
    unfold waitT at e2
    rw [List.filter_eq_nil_iff] at e2
    exact e2 y hy (decide_eq_true e)
  · exact TR.next_no1 dt l e1
theorem tp_next1_ok (h : TP w wx g g2 X Z n m o q o2 q2) (ho : OkT o) {l v d : Int} (hl : In64 l) (h1 : ownT o l = -1) (h0 : 0 ≤ v) {k : Nat} (hk : q[k]? = some ⟨l, v, d⟩) (hno : ∀ (j : Nat) y, j < k → q[j]? = some y → y.l ≠ l) (hn : n ≤ 1000) :
    Calls Try.prog 34 #[.pointer (some ⟨g, 0, none⟩), .int .i64 l] wx fun e w' => e = .returned (.tuple #[.int .i64 v, .int .i64 d, .bool true]) ∧ Keep (NX w X) wx w' ∧ TP w w' g g2 X Z (n + 1) m (o ++ [(l, v)]) (q.eraseIdx k) o2 q2 := by
  obtain ⟨e1, e2⟩ := wt_erase_upd hk hno
  refine (to_next_ok h.p hl h1 e1 (by omega)).mono ?_
  rintro e w' ⟨rfl, hK, p⟩
  exact ⟨rfl, hK, h.prog hK p (own_upd ho h1 h0) e2⟩
theorem tp_next2_ok (h : TP w wx g g2 X Z n m o q o2 q2) {l v d : Int} (h1 : ownT o2 l = -1) (h0 : 0 ≤ v) {k : Nat} (hk : q2[k]? = some ⟨l, v, d⟩) (hno : ∀ (j : Nat) y, j < k → q2[j]? = some y → y.l ≠ l) (hm : m ≤ 1000) :
    Calls Try.prog 37 #[.pointer (some ⟨g2, 0, none⟩), .int .i64 l] wx fun e w' => e = .returned (.tuple #[.int .i64 v, .int .i64 d, .bool true]) ∧
      ∃ X', (∀ j, X j → X' j) ∧ Keep (fun j => X j ∧ ¬ Z j) wx w' ∧ TP w w' g g2 X' Z n (m + 1) o q (o2 ++ [(l, v)]) (q2.eraseIdx k) := by
  obtain ⟨M, N, ao, no, co, aq, nq, cq, dt, k1, k2, k3, k4⟩ := h.d
  refine (TR.next_ok dt l v d h1 h0 hk hno (by omega) (by omega)).mono ?_
  rintro e w' ⟨rfl, hK, _, M', N', ao', co', aq', cq', hM, hN, d'⟩
  refine ⟨rfl, h.doc (M := M) (N := N) (fun j hj => ?_) hK d' (fun j hj => ?_) (by omega) (by omega)⟩
  · rcases hj with rfl | hj
    · exact k3
    · exact k4 j (.inl hj)
  · rcases hj with hj | hj
    · exact (hM j hj).imp (fun h => k4 j (.inl h)) (fun h => h)
    · exact .inr (hN j hj)
end
end Go.Proofs.Ytgeiagndpfdnlaa
end
section
namespace Go.Proofs.Ytgeiagndpfdnlaa
open Go.RowKit Go.Maps
set_option linter.unusedVariables false
set_option maxRecDepth 20000

def HO (w wx : World) (g1 g2 : Nat) (X : Nat → Prop) (N K : Int) (L : List Hr) (n : Nat) (own : Int → Int) (wt : Int → List (Int × Int)) : Prop :=
  ∃ B1 B2 : Nat → Prop, MO w wx g1 (fun j => j < wx.heap.size ∧ ¬ B1 j) N K L ∧ TO w wx g2 (fun j => j < wx.heap.size ∧ ¬ B2 j) n own wt ∧ (∀ j, B1 j → ¬ B2 j) ∧ (∀ j, B1 j ∨ B2 j → w.heap.size ≤ j ∧ j < wx.heap.size ∧ ¬ X j) ∧ ∀ j, X j → j < wx.heap.size
section
variable {w wx wy : World} {g1 g2 n : Nat} {X Y F : Nat → Prop} {N K : Int} {L L' : List Hr} {own own' : Int → Int} {wt wt' : Int → List (Int × Int)}
/-- The test writes its own, or has more. -/
theorem HO.step (h : HO w wx g1 g2 X N K L n own wt) (hk : Keep F wx wy) (hF : ∀ j, F j → w.heap.size ≤ j ∧ (X j ∨ wx.heap.size ≤ j)) (hY : ∀ j, Y j → (X j ∨ wx.heap.size ≤ j) ∧ j < wy.heap.size) : HO w wy g1 g2 Y N K L n own wt := by
  obtain ⟨B1, B2, m, t, h1, h2, h3⟩ := h
  have hs := hk.size
  have f : ∀ B : Nat → Prop, (∀ j, B j → w.heap.size ≤ j ∧ j < wx.heap.size ∧ ¬ X j) → ∀ j, F j → w.heap.size ≤ j ∧ ((j < wx.heap.size ∧ ¬ B j) ∨ wx.heap.size ≤ j) := fun B hB j hj => by
    obtain ⟨a, b⟩ := hF j hj
    exact ⟨a, b.imp (fun hx => ⟨h3 j hx, fun hb => (hB j hb).2.2 hx⟩) id⟩
  have y : ∀ B : Nat → Prop, ∀ j, (j < wy.heap.size ∧ ¬ B j) → ((j < wx.heap.size ∧ ¬ B j) ∨ wx.heap.size ≤ j) ∧ j < wy.heap.size := fun B j hj => by
    refine ⟨?_, hj.1⟩
    by_cases hlt : j < wx.heap.size
    · exact .inl ⟨hlt, hj.2⟩
    · exact .inr (by omega)
  refine ⟨B1, B2, m.step hk (f B1 (fun j hj => h2 j (.inl hj))) (y B1), t.wrgrow hk (f B2 (fun j hj => h2 j (.inr hj))) (y B2), h1, fun j hj => ?_, fun j hj => (hY j hj).2⟩
  obtain ⟨a, b, c⟩ := h2 j hj
  exact ⟨a, by omega, fun hy => (hY j hy).1.elim c (fun e => by omega)⟩
theorem HO.below (h : HO w wx g1 g2 X N K L n own wt) (hb : Below wx.heap.size wx wy) : HO w wy g1 g2 X N K L n own wt := by
  have hX : ∀ j, X j → j < wx.heap.size := by obtain ⟨B1, B2, m, t, h1, h2, h3⟩ := h; exact h3
  exact h.step (F := fun _ => False) (Keep.of_below hb) (fun _ h => h.elim) (fun j hj => ⟨.inl hj, Nat.lt_of_lt_of_le (hX j hj) hb.size⟩)
/-- After a call on the directory. -/
theorem ho_dir {B1 B2 : Nat → Prop} (t : TO w wx g2 (fun j => j < wx.heap.size ∧ ¬ B2 j) n own wt) (h1 : ∀ j, B1 j → ¬ B2 j) (h2 : ∀ j, B1 j ∨ B2 j → w.heap.size ≤ j ∧ j < wx.heap.size ∧ ¬ X j) (h3 : ∀ j, X j → j < wx.heap.size)
    (hk : Keep (NX w (fun j => j < wx.heap.size ∧ ¬ B1 j)) wx wy) (m : MO w wy g1 (fun j => j < wx.heap.size ∧ ¬ B1 j) N K L') : Keep (NX w X) wx wy ∧ HO w wy g1 g2 X N K L' n own wt := by
  have hs := hk.size
  have hw := t.bel.size
  have hB : ∀ j, ¬ (j < wx.heap.size ∧ ¬ B1 j) → B1 j ∨ wx.heap.size ≤ j := fun j hj => by
    by_cases hb : B1 j
    · exact .inl hb
    · exact .inr (Nat.le_of_not_lt (fun hlt => hj ⟨hlt, hb⟩))
  refine ⟨hk.mono (fun j hj hn => ⟨hn.1, fun hx => ?_⟩), fun j => B1 j ∨ (wx.heap.size ≤ j ∧ j < wy.heap.size), B2, m.grow (Below.refl _ _) (fun j hj => ⟨.inl ?_, hj.1⟩), t.wrgrow hk (fun j hj => ⟨hj.1, ?_⟩) (fun j hj => ⟨?_, hj.1⟩), fun j hj hb => ?_, fun j hj => ?_, fun j hj => Nat.lt_of_lt_of_le (h3 j hj) hs⟩
  · rcases hB j hn.2 with hb | hge
    · exact (h2 j (.inl hb)).2.2 hx
    · omega
  · by_cases hlt : j < wx.heap.size
    · exact ⟨hlt, fun hb => hj.2 (.inl hb)⟩
    · exact absurd (.inr ⟨by omega, hj.1⟩) hj.2
  · rcases hB j hj.2 with hb | hge
    · exact .inl ⟨(h2 j (.inl hb)).2.1, h1 j hb⟩
    · exact .inr hge
  · by_cases hlt : j < wx.heap.size
    · exact .inl ⟨hlt, hj.2⟩
    · exact .inr (by omega)
  · rcases hj with hj | hj
    · exact h1 j hj hb
    · have := (h2 j (.inr hb)).2.1
      omega
  · rcases hj with (hj | hj) | hj
    · obtain ⟨a, b, c⟩ := h2 j (.inl hj)
      exact ⟨a, by omega, c⟩
    · exact ⟨by omega, hj.2, fun hx => by have := h3 j hx; omega⟩
    · obtain ⟨a, b, c⟩ := h2 j (.inr hj)
      exact ⟨a, by omega, c⟩
/-- After a call on the turns. -/
theorem ho_turn {B1 B2 : Nat → Prop} {n' : Nat} (m : MO w wx g1 (fun j => j < wx.heap.size ∧ ¬ B1 j) N K L) (h1 : ∀ j, B1 j → ¬ B2 j) (h2 : ∀ j, B1 j ∨ B2 j → w.heap.size ≤ j ∧ j < wx.heap.size ∧ ¬ X j) (h3 : ∀ j, X j → j < wx.heap.size)
    (hk : Keep (NX w (fun j => j < wx.heap.size ∧ ¬ B2 j)) wx wy) (t : TO w wy g2 (fun j => j < wx.heap.size ∧ ¬ B2 j) n' own' wt') : Keep (NX w X) wx wy ∧ HO w wy g1 g2 X N K L n' own' wt' := by
  have hs := hk.size
  have hw := m.bel.size
  have hB : ∀ j, ¬ (j < wx.heap.size ∧ ¬ B2 j) → B2 j ∨ wx.heap.size ≤ j := fun j hj => by
    by_cases hb : B2 j
    · exact .inl hb
    · exact .inr (Nat.le_of_not_lt (fun hlt => hj ⟨hlt, hb⟩))
  refine ⟨hk.mono (fun j hj hn => ⟨hn.1, fun hx => ?_⟩), B1, fun j => B2 j ∨ (wx.heap.size ≤ j ∧ j < wy.heap.size), m.step hk (fun j hj => ⟨hj.1, ?_⟩) (fun j hj => ⟨?_, hj.1⟩), t.grow (Below.refl _ _) (fun j hj => ⟨.inl ?_, hj.1⟩), fun j hb hj => ?_, fun j hj => ?_, fun j hj => Nat.lt_of_lt_of_le (h3 j hj) hs⟩
  · rcases hB j hn.2 with hb | hge
    · exact (h2 j (.inr hb)).2.2 hx
    · omega
  · rcases hB j hj.2 with hb | hge
    · exact .inl ⟨(h2 j (.inr hb)).2.1, fun hb1 => h1 j hb1 hb⟩
    · exact .inr hge
  · by_cases hlt : j < wx.heap.size
    · exact .inl ⟨hlt, hj.2⟩
    · exact .inr (by omega)
  · by_cases hlt : j < wx.heap.size
    · exact ⟨hlt, fun hb => hj.2 (.inl hb)⟩
    · exact absurd (.inr ⟨by omega, hj.1⟩) hj.2
  · rcases hj with hj | hj
    · exact h1 j hb hj
    · have := (h2 j (.inl hb)).2.1
      omega
  · rcases hj with hj | (hj | hj)
    · obtain ⟨a, b, c⟩ := h2 j (.inl hj)
      exact ⟨a, by omega, c⟩
    · obtain ⟨a, b, c⟩ := h2 j (.inr hj)
      exact ⟨a, by omega, c⟩
    · exact ⟨by omega, hj.2, fun hx => by have := h3 j hx; omega⟩
end
end Go.Proofs.Ytgeiagndpfdnlaa
end
section
namespace Go.Proofs.Ytgeiagndpfdnlaa
open Go.RowKit Go.Maps
set_option linter.unusedVariables false
set_option maxRecDepth 20000

def HP (w wx : World) (g1 g2 : Nat) (X : Nat → Prop) (N K : Int) (L : List Hr) (n : Nat) (o : List (Int × Int)) (q : List Wr) : Prop := HO w wx g1 g2 X N K L n (ownT o) (wtD q) ∧ OkT o
section
variable {w wx wy : World} {g1 g2 n : Nat} {X Y F : Nat → Prop} {N K : Int} {L L' : List Hr} {o : List (Int × Int)} {q : List Wr}
theorem HP.step (h : HP w wx g1 g2 X N K L n o q) (hk : Keep F wx wy) (hF : ∀ j, F j → w.heap.size ≤ j ∧ (X j ∨ wx.heap.size ≤ j)) (hY : ∀ j, Y j → (X j ∨ wx.heap.size ≤ j) ∧ j < wy.heap.size) : HP w wy g1 g2 Y N K L n o q := ⟨h.1.step hk hF hY, h.2⟩
theorem HP.below (h : HP w wx g1 g2 X N K L n o q) (hb : Below wx.heap.size wx wy) : HP w wy g1 g2 X N K L n o q := ⟨h.1.below hb, h.2⟩
theorem HP.xl (h : HP w wx g1 g2 X N K L n o q) : ∀ j, X j → j < wx.heap.size := by
  obtain ⟨⟨B1, B2, m, t, h1, h2, h3⟩, ok⟩ := h
  exact h3
theorem HP.bel (h : HP w wx g1 g2 X N K L n o q) : Below w.heap.size w wx := by
  obtain ⟨⟨B1, B2, m, t, h1, h2, h3⟩, ok⟩ := h
  exact m.bel
/-- A directory that was made between two moments. -/
theorem mo_span {wa : World} {a0 : Nat} (m : MO w wa g1 (fun j => j < a0) N K L) (hb : Below wa.heap.size wa wy) : MO w wy g1 (fun j => j < wy.heap.size ∧ ¬ (a0 ≤ j ∧ j < wa.heap.size)) N K L :=
  m.grow hb (fun j hj => ⟨by
    by_cases h : j < a0
    · exact .inl h
    · exact .inr (Nat.le_of_not_lt (fun hlt => hj.2 ⟨by omega, hlt⟩)), hj.1⟩)
theorem to_span {wa : World} {a0 : Nat} {own : Int → Int} {wt : Int → List (Int × Int)} (t : TO w wa g2 (fun j => j < a0) n own wt) (hb : Below wa.heap.size wa wy) : TO w wy g2 (fun j => j < wy.heap.size ∧ ¬ (a0 ≤ j ∧ j < wa.heap.size)) n own wt :=
  t.grow hb (fun j hj => ⟨by
    by_cases h : j < a0
    · exact .inl h
    · exact .inr (Nat.le_of_not_lt (fun hlt => hj.2 ⟨by omega, hlt⟩)), hj.1⟩)
/-- Both, new: made one behind the other. -/
theorem hp_make {wa wb : World} {a0 b0 : Nat} (hw : w.heap.size ≤ a0) (hw2 : w.heap.size ≤ b0) (hX : ∀ j, X j → j < a0 ∧ j < b0) (m : MO w wa g1 (fun j => j < a0) N K L) (t : TO w wb g2 (fun j => j < b0) n (fun _ => -1) (fun _ => [])) (h : wa.heap.size ≤ b0 ∨ wb.heap.size ≤ a0) (ha : Below wa.heap.size wa wy) (hb : Below wb.heap.size wb wy) :
    HP w wy g1 g2 X N K L n [] [] := by
  have e1 : ownT [] = fun _ => -1 := rfl
  have e2 : wtD [] = fun _ => [] := rfl
  have s1 := ha.size
  have s2 := hb.size
  have a1 : a0 ≤ wa.heap.size := by
    rcases Nat.lt_or_ge wa.heap.size a0 with hlt | hge
    · have := m.xl _ hlt; omega
    · exact hge
  refine ⟨⟨fun j => a0 ≤ j ∧ j < wa.heap.size, fun j => b0 ≤ j ∧ j < wb.heap.size, mo_span m ha, by rw [e1, e2]; exact to_span t hb, fun j h1 h2 => by omega, fun j hj => ?_, fun j hj => by have := hX j hj; omega⟩, ok_nil⟩
  rcases hj with hj | hj
  · exact ⟨by omega, by omega, fun hx => by have := hX j hx; omega⟩
  · exact ⟨by omega, by omega, fun hx => by have := hX j hx; omega⟩
theorem hp_row (h : HP w wx g1 g2 X N K L n o q) {l : Int} (hl : In64 l) : Calls Try.prog 45 #[.pointer (some ⟨g1, 0, none⟩), .int .i64 l] wx fun e w' =>
    ∃ a cap, e = .returned (.tuple #[(rowL L l).val (.slice a (rowL L l).z.length cap), .bool (hasH L l)]) ∧ Own w' wx.heap.size (.slice a (rowL L l).z.length cap) (rowL L l).z ∧ Below wx.heap.size wx w' := by
  obtain ⟨⟨B1, B2, m, t, h1, h2, h3⟩, ok⟩ := h
  exact mo_row m hl
theorem hp_set (h : HP w wx g1 g2 X N K L n o q) {l : Int} (hl : In64 l) (s hd : Int) (a : Option Addr) (nz cap : Nat) (z : List Int) (hs : Sl wx a nz cap z) (hb : nz ≤ 17592186044416) :
    Calls Try.prog 55 #[.pointer (some ⟨g1, 0, none⟩), .int .i64 l, .int .i64 s, .int .i64 hd, .slice a nz cap] wx fun e w' => e = .returned (.int .i64 (setR N K L l s hd z).1) ∧ Keep (NX w X) wx w' ∧ HP w w' g1 g2 X N K (setR N K L l s hd z).2 n o q := by
  obtain ⟨⟨B1, B2, m, t, h1, h2, h3⟩, ok⟩ := h
  refine (mo_set m hl s hd a nz cap z hs hb).mono ?_
  rintro e w' ⟨rfl, hk, m'⟩
  obtain ⟨k, r⟩ := ho_dir t h1 h2 h3 hk m'
  exact ⟨rfl, k, r, ok⟩
theorem hp_owner (h : HP w wx g1 g2 X N K L n o q) {l : Int} (hl : In64 l) : Calls Try.prog 11 #[.pointer (some ⟨g2, 0, none⟩), .int .i64 l] wx fun e w' => e = .returned (.int .i64 (ownT o l)) ∧ wx = w' := by
  obtain ⟨⟨B1, B2, m, t, h1, h2, h3⟩, ok⟩ := h
  exact to_owner t hl
theorem hp_waiting (h : HP w wx g1 g2 X N K L n o q) {l : Int} (hl : In64 l) : Calls Try.prog 12 #[.pointer (some ⟨g2, 0, none⟩), .int .i64 l] wx fun e w' => e = .returned (.int .i64 ((waitT q l).length : Int)) ∧ wx = w' := by
  obtain ⟨⟨B1, B2, m, t, h1, h2, h3⟩, ok⟩ := h
  refine (to_waiting t hl).mono ?_
  rintro e w' ⟨rfl, k⟩
  exact ⟨by unfold wtD; rw [List.length_map], k⟩
theorem hp_ready (h : HP w wx g1 g2 X N K L n o q) (hn : n ≤ 1000) : Calls Try.prog 32 #[.pointer (some ⟨g2, 0, none⟩)] wx fun e w' => ∃ v, e = .returned v ∧ Own w' wx.heap.size v (readyT o q) ∧ Below wx.heap.size wx w' := by
  obtain ⟨⟨B1, B2, m, t, h1, h2, h3⟩, ok⟩ := h
  refine (to_ready t (by omega)).mono ?_
  rintro e w' ⟨v, l, rfl, own, b, hr, hm⟩
  have e : readyT o q = l := ready_eq hr (fun k => (hm k).trans (by rw [Ne, wtD_nil]))
  rw [e]
  exact ⟨v, rfl, own, b⟩
theorem ok_ask (ok : OkT o) {l v : Int} (h2 : 0 ≤ v) : OkT (askO o q l v) := by
  unfold askO
  split
  · rename_i hb
    have hb : ownT o l = -1 ∧ waitT q l = [] := of_decide_eq_true hb
    exact ok_snoc ok hb.1 h2
  · exact ok
theorem hp_ask (h : HP w wx g1 g2 X N K L n o q) {l v : Int} (d : Int) (hl : In64 l) (h1 : 0 ≤ l) (h2 : 0 ≤ v) (hn : n ≤ 1000) :
    Calls Try.prog 54 #[.pointer (some ⟨g2, 0, none⟩), .int .i64 l, .int .i64 v, .int .i64 d] wx fun e w' => e = .returned (.bool (askB o q l)) ∧ Keep (NX w X) wx w' ∧ HP w w' g1 g2 X N K L (n + 1) (askO o q l v) (askQ o q l v d) := by
  have ok' := ok_ask (q := q) (l := l) h.2 h2
  obtain ⟨⟨B1, B2, m, t, k1, k2, k3⟩, ok⟩ := h
  unfold HP
  refine Calls.mono (?_ : Calls _ _ _ _ (fun e w' => e = .returned (.bool (askB o q l)) ∧ Keep (NX w X) wx w' ∧ HO w w' g1 g2 X N K L (n + 1) (ownT (askO o q l v)) (wtD (askQ o q l v d)))) (fun e w' hh => ⟨hh.1, hh.2.1, hh.2.2, ok'⟩)
  unfold askO askQ
  by_cases hb : ownT o l = -1 ∧ waitT q l = []
  · have e : askB o q l = true := decide_eq_true hb
    rw [e, if_pos rfl, if_pos rfl]
    refine (to_ask_own t d hl h1 h2 hb.1 (wtD_nil.2 hb.2) (by omega)).mono ?_
    rintro e w' ⟨rfl, hk, p⟩
    rw [own_upd ok hb.1 h2] at p
    exact ⟨rfl, ho_turn m k1 k2 k3 hk p⟩
  · have e : askB o q l = false := decide_eq_false hb
    rw [e, if_neg (by simp), if_neg (by simp)]
    refine (to_ask_wait t d hl h1 h2 ?_ (by omega)).mono ?_
    · by_cases e1 : ownT o l = -1
      · exact .inr (fun e2 => hb ⟨e1, wtD_nil.1 e2⟩)
      · exact .inl e1
    · rintro e w' ⟨rfl, hk, p⟩
      rw [wt_upd q l v d] at p
      exact ⟨rfl, ho_turn m k1 k2 k3 hk p⟩
theorem hp_release (h : HP w wx g1 g2 X N K L n o q) {l v : Int} (hl : In64 l) (h0 : 0 ≤ v) (ho : ownT o l = v) :
    Calls Try.prog 57 #[.pointer (some ⟨g2, 0, none⟩), .int .i64 l, .int .i64 v] wx fun e w' => e = .returned (.int .i64 0) ∧ Keep (NX w X) wx w' ∧ HP w w' g1 g2 X N K L n (relO o l) q := by
  obtain ⟨⟨B1, B2, m, t, k1, k2, k3⟩, ok⟩ := h
  obtain ⟨k, hk, hno⟩ := own_place ok h0 ho
  rw [← erase_rel ok hk]
  refine (to_release_ok t hl (by omega) ho).mono ?_
  rintro e w' ⟨rfl, hK, p⟩
  rw [own_erase_upd ok hk] at p
  obtain ⟨a, b⟩ := ho_turn m k1 k2 k3 hK p
  exact ⟨rfl, a, b, ok_erase ok k⟩
theorem hp_next (h : HP w wx g1 g2 X N K L n o q) {l v d : Int} (hl : In64 l) (h1 : ownT o l = -1) (h0 : 0 ≤ v) (hk : nextW q l = some ⟨l, v, d⟩) (hn : n ≤ 1000) :
    Calls Try.prog 34 #[.pointer (some ⟨g2, 0, none⟩), .int .i64 l] wx fun e w' => e = .returned (.tuple #[.int .i64 v, .int .i64 d, .bool true]) ∧ Keep (NX w X) wx w' ∧ HP w w' g1 g2 X N K L (n + 1) (o ++ [(l, v)]) (nextQ q l) := by
  obtain ⟨⟨B1, B2, m, t, k1, k2, k3⟩, ok⟩ := h
  obtain ⟨k, hk, hno, hq⟩ := next_place hk
  rw [hq]
  obtain ⟨e1, e2⟩ := wt_erase_upd hk hno
  refine (to_next_ok t hl h1 e1 (by omega)).mono ?_
  rintro e w' ⟨rfl, hK, p⟩
  rw [own_upd ok h1 h0, e2] at p
  obtain ⟨a, b⟩ := ho_turn m k1 k2 k3 hK p
  exact ⟨rfl, a, b, ok_snoc ok h1 h0⟩
end
end Go.Proofs.Ytgeiagndpfdnlaa
end
section
namespace Go.Proofs.Ytgeiagndpfdnlaa.B
open Go.RowKit

/-! ### as the walk spells it -/
def stepI (s d : Int) : Int := if bits .xor .u16 (s / 32768) d == 1 then bits .xor .u16 (IntKind.u16.wrap (s * 2)) 4129 else IntKind.u16.wrap (s * 2)
theorem stepI_t {s d : Int} (h : (bits .xor .u16 (s / 32768) d == 1) = true) : stepI s d = bits .xor .u16 (IntKind.u16.wrap (s * 2)) 4129 := by unfold stepI; rw [h]; rfl
theorem stepI_f {s d : Int} (h : (bits .xor .u16 (s / 32768) d == 1) = false) : stepI s d = IntKind.u16.wrap (s * 2) := by unfold stepI; rw [h]; rfl
def digI (x : Int) (k : Nat) : Int := bits .and .u16 (IntKind.u16.wrap (x / 2 ^ (7 - k))) 1
def goI (s x : Int) (k : Nat) : Int := (List.range k).foldl (fun s j => stepI s (digI x j)) s
def byteI (s x : Int) : Int := goI s x 8
def sumI (l : List Int) : Int := l.foldl byteI 65535
/-- Bytes. -/
def B8 (l : List Int) : Prop := ∀ x ∈ l, 0 ≤ x ∧ x < 256

theorem goI_zero (s x : Int) : goI s x 0 = s := rfl
theorem goI_succ (s x : Int) (k : Nat) : goI s x (k + 1) = stepI (goI s x k) (digI x k) := by
  unfold goI; rw [List.range_succ, List.foldl_append]; rfl
theorem sumI_snoc (l : List Int) (x : Int) : sumI (l ++ [x]) = byteI (sumI l) x := by unfold sumI; rw [List.foldl_append]; rfl
theorem sumI_take (l : List Int) (k : Nat) (h : k < l.length) : sumI (l.take (k + 1)) = byteI (sumI (l.take k)) (l[k]?.getD 0) := by
  rw [List.take_succ_eq_append_getElem h, sumI_snoc]; simp [h]

/-! ### the same over BitVec -/
def stepD (s : BitVec 16) (d : Bool) : BitVec 16 := if (s.msb ^^ d) then (s <<< 1) ^^^ 4129#16 else s <<< 1
def digitsD (x : BitVec 8) : List Bool := (List.range 8).map x.getMsbD
def runD (s : BitVec 16) (ds : List Bool) : BitVec 16 := ds.foldl stepD s

theorem bitI (d : Bool) : (cond d 1 0 : Int) = ((cond d 1 0 : Nat) : Int) := by cases d <;> rfl
theorem stepI_eq (s : BitVec 16) (d : Bool) : stepI (s.toNat : Int) (cond d 1 0) = ((stepD s d).toNat : Int) := by
  have hs := s.isLt
  have e1 : ((s.toNat : Int) / 32768) = ((s.toNat / 32768 : Nat) : Int) := by omega
  have e2 : IntKind.u16.wrap ((s.toNat : Int) * 2) = ((s.toNat * 2 % 65536 : Nat) : Int) := by rw [IntKind.wrap_u16]; omega
  have hd : (cond d 1 0 : Nat) < 65536 := by cases d <;> decide
  have e3 : bits .xor .u16 ((s.toNat : Int) / 32768) (cond d 1 0) = ((s.toNat / 32768 ^^^ cond d 1 0 : Nat) : Int) := by
    rw [e1, bitI]; exact u16_xor_nat _ _ (by omega) hd
  have e4 : bits .xor .u16 ((s.toNat * 2 % 65536 : Nat) : Int) 4129 = ((s.toNat * 2 % 65536 ^^^ 4129 : Nat) : Int) := u16_xor_nat _ 4129 (by omega) (by decide)
  have e5 : (s <<< 1).toNat = s.toNat * 2 % 65536 := by simp [BitVec.toNat_shiftLeft, Nat.shiftLeft_eq]
  have em : s.msb = decide (32768 ≤ s.toNat) := by rw [BitVec.msb_eq_decide]
  unfold stepI stepD
  rw [e3, e2, e4, em]
  by_cases hm : 32768 ≤ s.toNat
  · have q : s.toNat / 32768 = 1 := by omega
    rw [q]
    cases d
    · simp [hm, e5]
    · simp [hm, e5]
  · have q : s.toNat / 32768 = 0 := by omega
    rw [q]
    cases d
    · simp [hm, e5]
    · simp [hm, e5]

theorem digI_eq (x : BitVec 8) (k : Nat) (hk : k < 8) : digI (x.toNat : Int) k = cond (x.getMsbD k) 1 0 := by
  have hx := x.isLt
  have e1 : ((x.toNat : Int) / 2 ^ (7 - k)) = ((x.toNat / 2 ^ (7 - k) : Nat) : Int) := by simp
  have hle : x.toNat / 2 ^ (7 - k) ≤ x.toNat := Nat.div_le_self _ _
  have e2 : ∀ y : Nat, y < 65536 → IntKind.u16.wrap (y : Int) = (y : Int) := fun y hy => by rw [IntKind.wrap_u16]; omega
  unfold digI
  rw [e1, e2 _ (by omega)]
  have e3 := u16_and_nat (x.toNat / 2 ^ (7 - k)) 1 (by omega) (by decide)
  rw [show (1 : Int) = ((1 : Nat) : Int) from rfl, e3, Nat.and_one_is_mod]
  have e4 : x.getMsbD k = decide (x.toNat / 2 ^ (7 - k) % 2 = 1) := by
    rw [BitVec.getMsbD_eq_getLsbD, BitVec.getLsbD, Nat.testBit_eq_decide_div_mod_eq]
    simp [hk]
  rw [e4]
  rcases Nat.mod_two_eq_zero_or_one (x.toNat / 2 ^ (7 - k)) with h | h <;> simp [h]

theorem goI_eq (s : BitVec 16) (x : BitVec 8) : ∀ k, k ≤ 8 → goI (s.toNat : Int) (x.toNat : Int) k = ((runD s ((List.range k).map x.getMsbD)).toNat : Int)
  | 0, _ => rfl
  | k + 1, h => by
    rw [goI_succ, goI_eq s x k (by omega), digI_eq x k (by omega), stepI_eq]
    unfold runD
    rw [List.range_succ, List.map_append, List.foldl_append]; rfl
theorem byteI_eq (s : BitVec 16) (x : BitVec 8) : byteI (s.toNat : Int) (x.toNat : Int) = ((runD s (digitsD x)).toNat : Int) := goI_eq s x 8 (by omega)

def ints (l : List (BitVec 8)) : List Int := l.map fun x => (x.toNat : Int)
def digits (l : List (BitVec 8)) : List Bool := l.flatMap digitsD
theorem foldI_eq (l : List (BitVec 8)) : ∀ s : BitVec 16, (ints l).foldl byteI (s.toNat : Int) = ((runD s (digits l)).toNat : Int) := by
  induction l with
  | nil => intro s; rfl
  | cons x l ih =>
    intro s
    have : ints (x :: l) = (x.toNat : Int) :: ints l := rfl
    rw [this, List.foldl_cons, byteI_eq, ih]
    simp [digits, runD, List.flatMap_cons, List.foldl_append]
theorem sumI_eq (l : List (BitVec 8)) : sumI (ints l) = ((runD 65535#16 (digits l)).toNat : Int) := foldI_eq l 65535#16
theorem ints_of (l : List Int) (h : B8 l) : ∃ m : List (BitVec 8), l = ints m := by
  refine ⟨l.map fun x => BitVec.ofNat 8 x.toNat, ?_⟩
  unfold ints
  rw [List.map_map]
  conv => lhs; rw [← List.map_id l]
  refine List.map_congr_left fun x hx => ?_
  obtain ⟨h0, h1⟩ := h x hx
  simp [Function.comp]
  omega
theorem B8_ints (m : List (BitVec 8)) : B8 (ints m) := by
  intro x hx
  obtain ⟨y, _, rfl⟩ := List.mem_map.1 hx
  have := y.isLt
  omega
theorem word_of (s : Int) (h0 : 0 ≤ s) (h1 : s < 65536) : ∃ t : BitVec 16, s = (t.toNat : Int) := ⟨BitVec.ofNat 16 s.toNat, by simp; omega⟩
theorem byte_of (s : Int) (h0 : 0 ≤ s) (h1 : s < 256) : ∃ t : BitVec 8, s = (t.toNat : Int) := ⟨BitVec.ofNat 8 s.toNat, by simp; omega⟩
theorem goI_bd (s x : Int) (k : Nat) (hk : k ≤ 8) (h0 : 0 ≤ s) (h1 : s < 65536) (h2 : 0 ≤ x) (h3 : x < 256) : 0 ≤ goI s x k ∧ goI s x k < 65536 := by
  obtain ⟨s, rfl⟩ := word_of s h0 h1
  obtain ⟨x, rfl⟩ := byte_of x h2 h3
  rw [goI_eq s x k hk]
  have := (runD s ((List.range k).map x.getMsbD)).isLt
  omega
theorem sumI_bd (l : List Int) (h : B8 l) : 0 ≤ sumI l ∧ sumI l < 65536 := by
  obtain ⟨m, rfl⟩ := ints_of l h
  rw [sumI_eq]
  have := (runD 65535#16 (digits m)).isLt
  omega
theorem B8_take {l : List Int} (h : B8 l) (k : Nat) : B8 (l.take k) := fun x hx => h x (List.mem_of_mem_take hx)
theorem B8_drop {l : List Int} (h : B8 l) (k : Nat) : B8 (l.drop k) := fun x hx => h x (List.mem_of_mem_drop hx)
theorem B8_append {l m : List Int} (h : B8 l) (k : B8 m) : B8 (l ++ m) := fun x hx => (List.mem_append.1 hx).elim (h x) (k x)
theorem B8_get {l : List Int} (h : B8 l) (k : Nat) : 0 ≤ l[k]?.getD 0 ∧ l[k]?.getD 0 < 256 := by
  by_cases hk : k < l.length
  · simp only [hk, List.getElem?_eq_getElem, Option.getD_some]; exact h _ (List.getElem_mem hk)
  · rw [List.getElem?_eq_none (by omega)]; simp

theorem dig_alt (x : Int) (k : Nat) (h0 : 0 ≤ x) (h1 : x < 256) : IntKind.u16.wrap (bits .and .u8 (x / 2 ^ (7 - k)) 1) = digI x k := by
  obtain ⟨y, rfl⟩ := Int.eq_ofNat_of_zero_le h0
  have e1 : ((y : Int) / 2 ^ (7 - k)) = ((y / 2 ^ (7 - k) : Nat) : Int) := by simp
  have hle : y / 2 ^ (7 - k) ≤ y := Nat.div_le_self _ _
  have e2 : ∀ y : Nat, y < 65536 → IntKind.u16.wrap (y : Int) = (y : Int) := fun y hy => by rw [IntKind.wrap_u16]; omega
  unfold digI
  rw [e1, e2 _ (by omega)]
  have a1 := u16_and_nat (y / 2 ^ (7 - k)) 1 (by omega) (by decide)
  have a2 := u8_and_nat (y / 2 ^ (7 - k)) 1 (by omega) (by decide)
  rw [show (1 : Int) = ((1 : Nat) : Int) from rfl, a1, a2, Nat.and_one_is_mod, e2 _ (by omega)]
theorem digI_01 (x : Int) (k : Nat) (hk : k < 8) (h0 : 0 ≤ x) (h1 : x < 256) : digI x k = 0 ∨ digI x k = 1 := by
  obtain ⟨x, rfl⟩ := byte_of x h0 h1
  rw [digI_eq x k hk]
  cases x.getMsbD k <;> simp
theorem xor01 (s d : Int) (h0 : 0 ≤ s) (h1 : s < 65536) (hd : d = 0 ∨ d = 1) : (bits .xor .u16 (s / 32768) d == 1) = (s / 32768 != d) := by
  have hs : s / 32768 = 0 ∨ s / 32768 = 1 := by omega
  have c00 : (bits .xor .u16 0 0 == 1) = ((0 : Int) != 0) := by decide +kernel
  have c01 : (bits .xor .u16 0 1 == 1) = ((0 : Int) != 1) := by decide +kernel
  have c10 : (bits .xor .u16 1 0 == 1) = ((1 : Int) != 0) := by decide +kernel
  have c11 : (bits .xor .u16 1 1 == 1) = ((1 : Int) != 1) := by decide +kernel
  rcases hs with h | h <;> rcases hd with rfl | rfl <;> rw [h] <;> assumption
theorem alt_t {s x : Int} {k : Nat} (hk : k < 8) (s0 : 0 ≤ s) (s1 : s < 65536) (h0 : 0 ≤ x) (h1 : x < 256) (h : (s / 32768 != IntKind.u16.wrap (bits .and .u8 (x / 2 ^ (7 - k)) 1)) = true) :
    stepI s (digI x k) = bits .xor .u16 (IntKind.u16.wrap (s * 2)) 4129 := by
  rw [dig_alt x k h0 h1, ← xor01 s _ s0 s1 (digI_01 x k hk h0 h1)] at h
  exact stepI_t h
theorem alt_f {s x : Int} {k : Nat} (hk : k < 8) (s0 : 0 ≤ s) (s1 : s < 65536) (h0 : 0 ≤ x) (h1 : x < 256) (h : (s / 32768 != IntKind.u16.wrap (bits .and .u8 (x / 2 ^ (7 - k)) 1)) = false) :
    stepI s (digI x k) = IntKind.u16.wrap (s * 2) := by
  rw [dig_alt x k h0 h1, ← xor01 s _ s0 s1 (digI_01 x k hk h0 h1)] at h
  exact stepI_f h

/-! ### linear, and without a kernel -/
def T (s : BitVec 16) : BitVec 16 := stepD s false
theorem stepD_lin (a b : BitVec 16) (c d : Bool) : stepD (a ^^^ b) (c ^^ d) = stepD a c ^^^ stepD b d := by
  unfold stepD
  rw [BitVec.msb_xor, BitVec.shiftLeft_xor_distrib]
  have e : (4129#16 ^^^ 4129#16) = 0#16 := by decide
  have k1 : ∀ p q : BitVec 16, p ^^^ 4129#16 ^^^ (q ^^^ 4129#16) = p ^^^ q := by
    intro p q
    rw [BitVec.xor_assoc, ← BitVec.xor_assoc 4129#16, BitVec.xor_comm 4129#16 q, BitVec.xor_assoc q, e, BitVec.xor_zero]
  have k2 : ∀ p q : BitVec 16, p ^^^ q ^^^ 4129#16 = p ^^^ 4129#16 ^^^ q := by
    intro p q
    rw [BitVec.xor_assoc, BitVec.xor_comm q, ← BitVec.xor_assoc]
  cases ha : a.msb <;> cases hb : b.msb <;> cases c <;> cases d <;> simp [k1, k2, BitVec.xor_assoc] <;> exact BitVec.xor_comm _ _
theorem runD_lin : ∀ (ds es : List Bool), ds.length = es.length → ∀ (a b : BitVec 16), runD (a ^^^ b) (List.zipWith (fun c d => c ^^ d) ds es) = runD a ds ^^^ runD b es := by
  intro ds
  induction ds with
  | nil => intro es he a b; cases es with
    | nil => rfl
    | cons e es => simp at he
  | cons d ds ih =>
    intro es he a b
    cases es with
    | nil => simp at he
    | cons e es =>
      show runD (stepD (a ^^^ b) (d ^^ e)) _ = runD (stepD a d) ds ^^^ runD (stepD b e) es
      rw [stepD_lin]
      exact ih es (by simpa using he) _ _
theorem T_zero : T 0#16 = 0#16 := by decide
theorem msb_iff (s : BitVec 16) : s.msb = decide (32768 ≤ s.toNat) := by rw [BitVec.msb_eq_decide]
/-- T kills nothing but 0. -/
theorem T_inj0 (s : BitVec 16) (h : T s = 0#16) : s = 0#16 := by
  unfold T stepD at h
  rw [Bool.xor_false, msb_iff] at h
  have e5 : (s <<< 1).toNat = s.toNat * 2 % 65536 := by simp [BitVec.toNat_shiftLeft, Nat.shiftLeft_eq]
  by_cases hm : 32768 ≤ s.toNat
  · simp only [hm, decide_true, if_true] at h
    have h2 : (s <<< 1) = 4129#16 := by
      have := congrArg (· ^^^ 4129#16) h
      simpa [BitVec.xor_assoc] using this
    have h3 := congrArg BitVec.toNat h2
    rw [e5] at h3
    simp at h3
    omega
  · simp only [hm, decide_false, Bool.false_eq_true, if_false] at h
    have h3 := congrArg BitVec.toNat h
    rw [e5] at h3
    simp at h3
    apply BitVec.eq_of_toNat_eq
    simp; omega
theorem stepD_T (s : BitVec 16) (d : Bool) : stepD s d = T (s ^^^ (if d then 32768#16 else 0#16)) := by
  unfold T
  have h := stepD_lin s (if d then 32768#16 else 0#16) d d
  rw [Bool.xor_self] at h
  rw [h]
  cases d
  · have : stepD 0#16 false = 0#16 := by decide
    simp [this]
  · have : stepD 32768#16 true = 0#16 := by decide
    simp [this]
theorem runD_falses (s : BitVec 16) : ∀ n, runD s (List.replicate n false) = 0#16 → s = 0#16
  | 0, h => h
  | n + 1, h => by
    have h' : runD (T s) (List.replicate n false) = 0#16 := h
    exact T_inj0 s (runD_falses (T s) n h')
theorem runD_falses0 : ∀ n, runD 0#16 (List.replicate n false) = 0#16
  | 0 => rfl
  | n + 1 => by
    show runD (T 0#16) (List.replicate n false) = 0#16
    rw [T_zero]; exact runD_falses0 n
theorem runD_append (s : BitVec 16) (a b : List Bool) : runD s (a ++ b) = runD (runD s a) b := List.foldl_append ..
end Go.Proofs.Ytgeiagndpfdnlaa.B
end
section
namespace Go.Proofs.Ytgeiagndpfdnlaa.B
open Go.RowKit

theorem run_own (s : BitVec 16) : ∀ k, runD s ((List.range k).map s.getMsbD) = s <<< k
  | 0 => by simp [runD]
  | k + 1 => by
    rw [List.range_succ, List.map_append, runD_append, run_own s k]
    show stepD (s <<< k) (s.getMsbD k) = _
    unfold stepD
    rw [BitVec.msb_shiftLeft, Bool.xor_self, if_neg (by simp), BitVec.shiftLeft_add]
def digits16 (s : BitVec 16) : List Bool := (List.range 16).map s.getMsbD
theorem run_own16 (s : BitVec 16) : runD s (digits16 s) = 0#16 := by
  unfold digits16; rw [run_own]; simp
theorem zip_falses : ∀ ds : List Bool, List.zipWith (fun c d => c ^^ d) (List.replicate ds.length false) ds = ds
  | [] => rfl
  | d :: ds => by simp [List.replicate_succ, zip_falses ds]
theorem run16 (s m : BitVec 16) : runD s (digits16 m) = 0#16 ↔ s = m := by
  constructor
  · intro h
    have e := runD_lin (List.replicate (digits16 m).length false) (digits16 m) (by simp) (s ^^^ m) m
    rw [zip_falses, BitVec.xor_assoc, BitVec.xor_self, BitVec.xor_zero, h, run_own16, BitVec.xor_zero] at e
    have := runD_falses _ _ e.symm
    rw [← BitVec.xor_zero (x := s), ← BitVec.xor_self (x := m), ← BitVec.xor_assoc, this, BitVec.zero_xor]
  · rintro rfl; exact run_own16 s
theorem digits_two (h g : BitVec 8) : digits [h, g] = digits16 (h ++ g) := by
  unfold digits digits16 digitsD
  simp only [List.flatMap_cons, List.flatMap_nil, List.append_nil]
  rw [show List.range 16 = List.range 8 ++ (List.range 8).map (8 + ·) by decide, List.map_append, List.map_map]
  congr 1
  · refine List.map_congr_left fun i hi => ?_
    have : i < 8 := List.mem_range.1 hi
    rw [BitVec.getMsbD_append]; simp [show ¬ 8 ≤ i by omega]
  · refine List.map_congr_left fun i hi => ?_
    show _ = (h ++ g).getMsbD (8 + i)
    rw [BitVec.getMsbD_append]; simp
theorem toNat_two (h g : BitVec 8) : (h ++ g).toNat = h.toNat * 256 + g.toNat := by
  rw [BitVec.toNat_append, ← Nat.shiftLeft_add_eq_or_of_lt g.isLt, Nat.shiftLeft_eq]
theorem sum_whole (l : List Int) (h g : Int) (h8 : B8 l) (h0 : 0 ≤ h) (h1 : h < 256) (g0 : 0 ≤ g) (g1 : g < 256) : sumI (l ++ [h, g]) = 0 ↔ sumI l = h * 256 + g := by
  obtain ⟨m, rfl⟩ := ints_of l h8
  obtain ⟨h, rfl⟩ := byte_of h h0 h1
  obtain ⟨g, rfl⟩ := byte_of g g0 g1
  have e : ints m ++ [(h.toNat : Int), (g.toNat : Int)] = ints (m ++ [h, g]) := by simp [ints]
  have d : digits (m ++ [h, g]) = digits m ++ digits [h, g] := by simp [digits]
  rw [e, sumI_eq, sumI_eq, d, runD_append, digits_two]
  have r := run16 (runD 65535#16 (digits m)) (h ++ g)
  have t := toNat_two h g
  generalize runD 65535#16 (digits m) = s at *
  generalize runD s (digits16 (h ++ g)) = u at *
  constructor
  · intro hu
    have : u = 0#16 := BitVec.eq_of_toNat_eq (by simpa using hu)
    rw [r.1 this]; omega
  · intro hs
    have : s = h ++ g := BitVec.eq_of_toNat_eq (by omega)
    rw [r.2 this]; rfl
theorem split_two {l : List Int} {m : Nat} (hl : l.length = m + 2) : l = l.take m ++ [l[m]?.getD 0, l[m + 1]?.getD 0] := by
  have a1 : l.take (m + 1) = l.take m ++ [l[m]?.getD 0] := by rw [List.take_succ_eq_append_getElem (by omega)]; simp [show m < l.length by omega]
  have a2 : l.take (m + 2) = l.take (m + 1) ++ [l[m + 1]?.getD 0] := by rw [List.take_succ_eq_append_getElem (by omega)]; simp [show m + 1 < l.length by omega]
  rw [List.take_of_length_le (by omega), a1] at a2
  simpa using a2
theorem sum_whole' {l : List Int} {m : Nat} (hl : l.length = m + 2) (h8 : B8 l) : sumI l = 0 ↔ sumI (l.take m) = l[m]?.getD 0 * 256 + l[m + 1]?.getD 0 := by
  have a := B8_get h8 m
  have b := B8_get h8 (m + 1)
  have := sum_whole (l.take m) _ _ (B8_take h8 m) a.1 a.2 b.1 b.2
  rw [← split_two hl] at this
  exact this
end Go.Proofs.Ytgeiagndpfdnlaa.B
end
section
namespace Go.Proofs.Ytgeiagndpfdnlaa.B
open Go.RowKit
set_option linter.unusedVariables false

theorem ret_bool {a b : Bool} (h : a = b) : Ending.returned (.bool a) = .returned (.bool b) := by rw [h]
theorem ret_int {k : IntKind} {a b : Int} (h : a = b) : Ending.returned (.int k a) = .returned (.int k b) := by rw [h]

/-- The bytes l lie where a slice at address a says. -/
def Row (w : World) (a : Option Addr) (l : List Int) : Prop :=
  l = [] ∨ ∃ b o, a = some ⟨b, o, none⟩ ∧ ∀ i, i < l.length → w.cell? ⟨b, o + i, none⟩ = some (.int .u8 (l[i]?.getD 0))

/-- A slice of bytes: nil, or so many cells, not more than its capacity. -/
structure Sl (w : World) (a : Option Addr) (n cap : Nat) (l : List Int) : Prop where
  len : l.length = n
  le : n ≤ cap
  max : cap ≤ maxLen
  nil : a = none → cap = 0
  b8 : B8 l
  row : Row w a l
def cells (l : List Int) : List Value := l.map (Value.int .u8)
/-- A slice of bytes that was made since the heap had 'base' blocks, and is nobody else's. -/
def Own (w : World) (base : Nat) (v : Value) (l : List Int) : Prop := w.ownsRow base 5 1 v l.length (cells l) ∧ B8 l

theorem cells_get {l : List Int} {j : Nat} {u : Value} (h : (cells l)[j]? = some u) : j < l.length ∧ u = .int .u8 (l[j]?.getD 0) := by
  have hj : j < l.length := by have := (List.getElem?_eq_some_iff.1 h).1; simpa [cells] using this
  refine ⟨hj, ?_⟩
  simp [cells, hj] at h
  simp [hj, h]
theorem Own.sl {w : World} {base : Nat} {v : Value} {l : List Int} (h : Own w base v l) : ∃ a cap, v = .slice a l.length cap ∧ Sl w a l.length cap l := by
  obtain ⟨⟨h1, h2⟩, h8⟩ := h
  rcases h2 with ⟨rfl, h0⟩ | ⟨g, cap, cur, rfl, hb, hg, hle, hm, hsz, ht⟩
  · have : l = [] := List.eq_nil_of_length_eq_zero h0
    subst this
    exact ⟨none, 0, rfl, rfl, Nat.le_refl _, Nat.zero_le _, fun _ => rfl, h8, .inl rfl⟩
  · refine ⟨some ⟨g, 0, none⟩, cap, rfl, rfl, hle, hm, fun h => (by cases h), h8, Or.inr ⟨g, 0, rfl, fun i hi => ?_⟩⟩
    rw [Nat.zero_add, cell_of_row w g i cur 5 (0, 0) hg]
    have e : (cells l)[i]? = some (.int .u8 (l[i]?.getD 0)) := by simp [cells, hi]
    rw [← ht, List.getElem?_take] at e
    split at e
    · simpa using e
    · cases e
theorem Own.sl' {w : World} {base n : Nat} {v : Value} {l : List Int} (h : Own w base v l) (hn : l.length = n) : ∃ a cap, v = .slice a n cap ∧ Sl w a n cap l := by
  subst hn; exact h.sl
theorem Row.cellsAt {w : World} {x : Addr} {l : List Int} (h : Row w (some x) l) : ∀ j u, (cells l)[j]? = some u → w.cell? (x.add j) = some u := by
  intro j u hu
  obtain ⟨hj, rfl⟩ := cells_get hu
  rcases h with rfl | ⟨b, o, e, hc⟩
  · simp at hj
  · obtain rfl := Option.some.inj e
    rw [Addr.add_lit]; exact hc j hj
theorem cells_one (l : List Int) : ∀ u ∈ cells l, u.oneCell' = true := ints_oneCell .u8 l
theorem Row.take {w : World} {a : Option Addr} {l : List Int} (h : Row w a l) (k : Nat) : Row w a (l.take k) := by
  rcases h with rfl | ⟨b, o, rfl, hc⟩
  · exact .inl (by simp)
  · refine .inr ⟨b, o, rfl, fun i hi => ?_⟩
    have hi' : i < k ∧ i < l.length := by simp at hi; omega
    rw [hc i hi'.2]; simp [hi'.1]
theorem Sl.take {w : World} {a : Option Addr} {n cap : Nat} {l : List Int} (h : Sl w a n cap l) (k : Nat) (hk : k ≤ n) : Sl w a k cap (l.take k) :=
  ⟨by have := h.len; simp; omega, Nat.le_trans hk h.le, h.max, h.nil, B8_take h.b8 k, h.row.take k⟩
/-- A block that is there. -/
def There (w : World) (a : Option Addr) : Prop := ∀ x, a = some x → x.block < w.heap.size
theorem Row.below {w w' : World} {a : Option Addr} {l : List Int} (h : Row w a l) (hb : Below w.heap.size w w') : Row w' a l := by
  rcases h with rfl | ⟨b, o, rfl, hc⟩
  · exact .inl rfl
  · refine .inr ⟨b, o, rfl, fun i hi => ?_⟩
    have hi' := hc i hi
    have hlt : b < w.heap.size := World.block_lt_of_cell? w _ hi'
    rw [hb.cell (p := ⟨b, o + i, none⟩) hlt]; exact hi'
theorem Sl.below {w w' : World} {a : Option Addr} {n cap : Nat} {l : List Int} (h : Sl w a n cap l) (hb : Below w.heap.size w w') : Sl w' a n cap l :=
  ⟨h.len, h.le, h.max, h.nil, h.b8, h.row.below hb⟩
theorem wf_u8 {n : Int} (h : (Lit.int .u8 n).wf = true) : 0 ≤ n ∧ n < 256 := by
  simp [Lit.wf, IntKind.min, IntKind.max, IntKind.signed, IntKind.bits] at h; omega
/-- A slice of bytes that came in. -/
theorem sl_of {w : World} {a : Option Addr} {len cap : Nat} {zs : List Int}
    (h : (a = none ∧ len = 0 ∧ cap = 0 ∧ zs = []) ∨ ∃ x, a = some x ∧ len ≤ cap ∧ cap ≤ maxLen ∧ zs.length = cap ∧ (∀ i, i < zs.length → w.cell? (x.add i) = some (.int .u8 (zs.getD i 0))) ∧ ∀ n ∈ zs, (Lit.int .u8 n).wf = true) :
    Sl w a len cap (zs.take len) := by
  rcases h with ⟨rfl, rfl, rfl, rfl⟩ | ⟨x, rfl, hl, hm, hz, hcell, hwz⟩
  · exact ⟨rfl, Nat.le_refl _, Nat.zero_le _, fun _ => rfl, fun x hx => (by simp at hx), Or.inl rfl⟩
  · refine ⟨by simp; omega, hl, hm, fun h => (by cases h), fun n hn => wf_u8 (hwz n (List.mem_of_mem_take hn)), ?_⟩
    by_cases h0 : len = 0
    · subst h0; exact Or.inl (by simp)
    · obtain ⟨b, off, spot⟩ := x
      have hc := hcell 0 (by omega)
      have hspot : spot = none := by simpa [Addr.add] using World.cell?_spot hc
      subst hspot
      refine Or.inr ⟨b, off, rfl, fun i hi => ?_⟩
      have hi' : i < len := by simp at hi; omega
      have := hcell i (by omega)
      rw [Addr.add_lit] at this
      rw [this]; simp [hi', List.getD]
theorem Try.info5 : (Try.prog.info? 5).map (fun i => (i.zero, i.size, i.bytes)) = some (some (.int .u8 0), 1, 1) := by kernel_rfl

theorem take_same {l m : List Int} {k : Nat} (h : l.take k = m.take k) (hx : l[k]?.getD 0 = m[k]?.getD 0) (h1 : k < l.length) (h2 : k < m.length) : l.take (k + 1) = m.take (k + 1) := by
  rw [List.take_succ_eq_append_getElem h1, List.take_succ_eq_append_getElem h2, h]
  simp [h1, h2] at hx
  rw [hx]
end Go.Proofs.Ytgeiagndpfdnlaa.B
end
section
namespace Go.Proofs.Ytgeiagndpfdnlaa.B
open Go.RowKit
set_option linter.unusedVariables false

def sealI (l : List Int) : List Int := l ++ [sumI l / 256, sumI l % 256]

theorem sealI_b8 {l : List Int} (h : B8 l) : B8 (sealI l) := by
  refine B8_append h ?_
  have := sumI_bd l h
  intro y hy
  simp at hy
  rcases hy with rfl | rfl <;> omega
theorem cell_two (w : World) (x y : Int) : ∀ j u, (cells [x, y])[j]? = some u → (w.alloc (.cells #[.int .u8 x, .int .u8 y] 5)).cell? ((⟨w.heap.size, 0, none⟩ : Addr).add j) = some u := by
  intro j u hu
  obtain ⟨hj, rfl⟩ := cells_get hu
  rw [Addr.add_lit, Nat.zero_add, cell_of_row _ _ _ _ 5 (0, 0) (heap_alloc_new w _)]
  simp at hj
  match j, hj with
  | 0, _ | 1, _ => rfl

theorem Row.cellsAt' {w : World} {a : Option Addr} {l : List Int} (h : Row w a l) : ∀ ad, a = some ad → ∀ j u, (cells l)[j]? = some u → w.cell? (ad.add j) = some u := by
  intro ad e; subst e; exact h.cellsAt
theorem Sl.none0 {w : World} {a : Option Addr} {n cap : Nat} {l : List Int} (h : Sl w a n cap l) : a = none → n = 0 ∧ cap = 0 := fun e => ⟨by have := h.nil e; have := h.le; omega, h.nil e⟩
theorem own_block {w : World} {base g n cap : Nat} {xs : List Value} (h : w.ownsRow base 5 1 (.slice (some ⟨g, 0, none⟩) n cap) n xs) : ∃ cur : List Value, w.heap[g]? = some (.cells cur.toArray 5 (0, 0)) ∧ cur.length = cap := by
  rcases h.2 with ⟨h1, _⟩ | ⟨g', cap', cur, h1, _, hg, _, _, hsz, _⟩
  · cases h1
  · simp at h1
    obtain ⟨rfl, rfl⟩ := h1
    exact ⟨cur.toList, by simpa using hg, by simpa using hsz⟩
theorem own_full {w : World} {g n : Nat} {l : List Int} {cur : List Value} (h : w.heap[g]? = some (.cells (splice cur 0 (cells l)).toArray 5 (0, 0))) (hc : cur.length = n) (hl : l.length = n) (hm : n ≤ maxLen) :
    w.ownsRow g 5 1 (.slice (some ⟨g, 0, none⟩) n n) l.length (cells l) := by
  have e : splice cur 0 (cells l) = cells l := by
    unfold splice
    rw [List.take_zero, List.nil_append, Nat.zero_add, List.drop_eq_nil_of_le (by simp [cells, hl, hc]), List.append_nil]
  rw [e] at h
  subst hl
  exact ⟨by simp [cells], Or.inr ⟨g, l.length, (cells l).toArray, rfl, Nat.le_refl _, h, Nat.le_refl _, hm, by simp [cells], by rw [Nat.mul_one]; exact List.take_of_length_le (by simp [cells])⟩⟩
theorem row_pos {w : World} {a : Option Addr} {l : List Int} (h : Row w a l) (h0 : 0 < (cells l).length) : ∃ ad, a = some ad ∧ ∀ j v, (cells l)[j]? = some v → w.cell? (ad.add j) = some v := by
  have h' := h
  rcases h' with rfl | ⟨b, o, rfl, hc⟩
  · simp [cells] at h0
  · exact ⟨_, rfl, h.cellsAt⟩
theorem below_new {w w' : World} (h : w.grownBy w' none) : Below w.heap.size w w' := (Below.refl _ _).grown h (Nat.le_refl _) (by intro k hk; cases hk)

/-- What is opened. -/
def openI (l : List Int) : Option (List Int) :=
  if l.length < 2 then none else if sumI (l.take (l.length - 2)) = l[l.length - 2]?.getD 0 * 256 + l[l.length - 1]?.getD 0 then some (l.take (l.length - 2)) else none
theorem openI_short {l : List Int} (h : l.length < 2) : openI l = none := if_pos h
theorem openI_yes {l : List Int} {m : Nat} (hl : l.length = m + 2) (h : sumI (l.take m) = l[m]?.getD 0 * 256 + l[m + 1]?.getD 0) : openI l = some (l.take m) := by
  unfold openI
  rw [if_neg (by omega), hl, show m + 2 - 2 = m by omega, show m + 2 - 1 = m + 1 by omega, if_pos h]
theorem openI_no {l : List Int} {m : Nat} (hl : l.length = m + 2) (h : ¬ sumI (l.take m) = l[m]?.getD 0 * 256 + l[m + 1]?.getD 0) : openI l = none := by
  unfold openI
  rw [if_neg (by omega), hl, show m + 2 - 2 = m by omega, show m + 2 - 1 = m + 1 by omega, if_neg h]
theorem or_join (x y : Int) (hx0 : 0 ≤ x) (hx1 : x < 256) (hy0 : 0 ≤ y) (hy1 : y < 256) : bits .or .u16 (x * 256) y = x * 256 + y := by
  rw [u16_or _ _ (by omega) (by omega) (by omega) (by omega), nat_join 8 _ _ (by omega) (by omega)]
  omega
theorem own_nil (w : World) (base : Nat) : Own w base (.slice none 0 0) [] := ⟨World.ownsRow_nil _ _ _ _, fun x hx => by cases hx⟩
theorem ret_two {v : Value} {a b : Bool} (h : a = b) : Ending.returned (.tuple #[v, .bool a]) = .returned (.tuple #[v, .bool b]) := by rw [h]
theorem below_dn (w : World) (k : Nat) : Below w.heap.size w (w.drewN k) := ⟨rfl, rfl, rfl, Nat.le_refl _, fun _ _ => rfl⟩

end Go.Proofs.Ytgeiagndpfdnlaa.B
end
section
namespace Go.Proofs.Ytgeiagndpfdnlaa.B
open Go.RowKit
set_option linter.unusedVariables false

/-- The byte x, turned at the place t of its list by the digit i of the mask: as the walk spells it. -/
def turnI (x mask : Int) (t i : Nat) : Int := bits .xor .u8 x (IntKind.u8.wrap (bits .and .u8 (mask / 2 ^ (15 - i) % 256) 1 * 2 ^ (7 - t % 8)))
def spStep (l : List Int) (bit mask : Int) (i : Nat) : List Int :=
  if 0 ≤ bit + i ∧ bit + i < 8 * l.length then l.set ((bit + i).toNat / 8) (turnI (l[(bit + i).toNat / 8]?.getD 0) mask (bit + i).toNat i) else l
def spN (l : List Int) (bit mask : Int) (k : Nat) : List Int := (List.range k).foldl (fun l i => spStep l bit mask i) l
def spoilI (l : List Int) (bit mask : Int) : List Int := spN l bit mask 16

theorem spN_zero (l : List Int) (bit mask : Int) : spN l bit mask 0 = l := rfl
theorem spN_succ (l : List Int) (bit mask : Int) (k : Nat) : spN l bit mask (k + 1) = spStep (spN l bit mask k) bit mask k := by
  unfold spN; rw [List.range_succ, List.foldl_append]; rfl
theorem spStep_len (l : List Int) (bit mask : Int) (i : Nat) : (spStep l bit mask i).length = l.length := by
  unfold spStep; split <;> simp
theorem spN_len (l : List Int) (bit mask : Int) : ∀ k, (spN l bit mask k).length = l.length
  | 0 => rfl
  | k + 1 => by rw [spN_succ, spStep_len, spN_len l bit mask k]
theorem spStep_in {l : List Int} {bit mask : Int} {i t : Nat} (h : bit + i = t) (ht : t < 8 * l.length) : spStep l bit mask i = l.set (t / 8) (turnI (l[t / 8]?.getD 0) mask t i) := by
  unfold spStep; rw [if_pos (by omega)]; simp [h]
theorem spStep_out {l : List Int} {bit mask : Int} {i : Nat} (h : bit + i < 0 ∨ 8 * l.length ≤ bit + i) : spStep l bit mask i = l := by
  unfold spStep; rw [if_neg (by omega)]
theorem spN_out {l : List Int} {bit mask : Int} (h : bit ≤ -16 ∨ 8 * l.length ≤ bit) : ∀ k, k ≤ 16 → spN l bit mask k = l
  | 0, _ => rfl
  | k + 1, hk => by
    rw [spN_succ, spN_out h k (by omega), spStep_out (by omega)]
theorem xor8_bd {a b : Int} (ha0 : 0 ≤ a) (ha1 : a < 256) (hb0 : 0 ≤ b) (hb1 : b < 256) : 0 ≤ bits .xor .u8 a b ∧ bits .xor .u8 a b < 256 := by
  rw [u8_xor a b ha0 ha1 hb0 hb1]
  have : a.toNat ^^^ b.toNat < 2 ^ 8 := Nat.xor_lt_two_pow (by omega) (by omega)
  omega
theorem turnI_bd {x : Int} (hx : 0 ≤ x ∧ x < 256) (mask : Int) (t i : Nat) : 0 ≤ turnI x mask t i ∧ turnI x mask t i < 256 := by
  have h : ∀ n : Int, 0 ≤ IntKind.u8.wrap n ∧ IntKind.u8.wrap n < 256 := fun n => by rw [IntKind.wrap_u8']; omega
  exact xor8_bd hx.1 hx.2 (h _).1 (h _).2
theorem spStep_b8 {l : List Int} (h : B8 l) (bit mask : Int) (i : Nat) : B8 (spStep l bit mask i) := by
  unfold spStep
  split
  · intro y hy
    rcases List.mem_or_eq_of_mem_set hy with h' | rfl
    · exact h y h'
    · exact turnI_bd (B8_get h _) _ _ _
  · exact h
theorem spN_b8 {l : List Int} (h : B8 l) (bit mask : Int) : ∀ k, B8 (spN l bit mask k)
  | 0 => h
  | k + 1 => by rw [spN_succ]; exact spStep_b8 (spN_b8 h bit mask k) _ _ _
theorem cells_set (l : List Int) (j : Nat) (x : Int) : (cells l).set j (.int .u8 x) = cells (l.set j x) := by simp [cells, List.map_set]

theorem own_some {w : World} {base n : Nat} {v : Value} {l : List Int} (h : Own w base v l) (hn : l.length = n) (h0 : 0 < n) : ∃ g cap, v = .slice (some ⟨g, 0, none⟩) n cap ∧ base ≤ g ∧ w.ownsRow base 5 1 (.slice (some ⟨g, 0, none⟩) n cap) n (cells l) := by
  subst hn
  have hh := h.1
  rcases h.1.2 with ⟨_, h1⟩ | ⟨g, cap, cur, rfl, hb, _⟩
  · omega
  · exact ⟨g, cap, rfl, hb, hh⟩

theorem Row.some {w : World} {a : Option Addr} {l : List Int} (h : Row w a l) (h0 : 0 < l.length) : ∃ b o, a = Option.some ⟨b, o, none⟩ ∧ ∀ i, i < l.length → w.cell? ⟨b, o + i, none⟩ = Option.some (.int .u8 (l[i]?.getD 0)) := by
  rcases h with rfl | h
  · simp at h0
  · exact h
theorem wrap_small (n : Int) (h0 : -4611686018427387904 ≤ n) (h1 : n ≤ 4611686018427387904) : IntKind.i64.wrap n = n := by
  rw [IntKind.wrap_i64]; omega

end Go.Proofs.Ytgeiagndpfdnlaa.B
end
section
namespace Go.Proofs.Ytgeiagndpfdnlaa.B
open Go.RowKit

def digAt (l : List Int) (k : Nat) : Bool := (l[k / 8]?.getD 0).toNat.testBit (7 - k % 8)
def mdig (mask : Int) (i : Nat) : Bool := mask.toNat.testBit (15 - i)

theorem turnI_bit {x mask : Int} (hx0 : 0 ≤ x) (hx1 : x < 256) (hm0 : 0 ≤ mask) (hm1 : mask < 65536) (t i j : Nat) :
    (turnI x mask t i).toNat.testBit j = (x.toNat.testBit j ^^ (decide (j = 7 - t % 8) && mdig mask i)) := by
  obtain ⟨y, rfl⟩ := Int.eq_ofNat_of_zero_le hx0
  obtain ⟨m, rfl⟩ := Int.eq_ofNat_of_zero_le hm0
  have e1 : ((m : Int) / 2 ^ (15 - i) % 256) = ((m / 2 ^ (15 - i) % 256 : Nat) : Int) := by simp
  have e2 : bits .and .u8 ((m : Int) / 2 ^ (15 - i) % 256) 1 = ((m / 2 ^ (15 - i) % 2 : Nat) : Int) := by
    rw [e1, show (1 : Int) = ((1 : Nat) : Int) from rfl, u8_and_nat _ 1 (by omega) (by decide), Nat.and_one_is_mod]
    congr 1; omega
  have hb : mdig (m : Int) i = decide (m / 2 ^ (15 - i) % 2 = 1) := by
    unfold mdig; rw [Int.toNat_natCast, Nat.testBit_eq_decide_div_mod_eq]
  have hp : 2 ^ (7 - t % 8) ≤ 2 ^ 7 := Nat.pow_le_pow_right (by omega) (by omega)
  unfold turnI
  rw [e2]
  rcases Nat.mod_two_eq_zero_or_one (m / 2 ^ (15 - i)) with h | h
  · rw [h] at hb ⊢
    have z : IntKind.u8.wrap (((0 : Nat) : Int) * 2 ^ (7 - t % 8)) = ((0 : Nat) : Int) := by simp [IntKind.wrap_u8']
    rw [z, u8_xor_nat y 0 (by omega) (by decide), hb]
    simp
  · rw [h] at hb ⊢
    have z : IntKind.u8.wrap (((1 : Nat) : Int) * 2 ^ (7 - t % 8)) = ((2 ^ (7 - t % 8) : Nat) : Int) := by
      rw [IntKind.wrap_u8']
      have : ((1 : Nat) : Int) * 2 ^ (7 - t % 8) = ((2 ^ (7 - t % 8) : Nat) : Int) := by simp
      rw [this]
      generalize 2 ^ (7 - t % 8) = p at hp ⊢
      omega
    rw [z, u8_xor_nat y _ (by omega) (by omega), hb, Int.toNat_natCast, Nat.testBit_xor, Nat.testBit_two_pow]
    simp [eq_comm]

theorem spStep_dig {l : List Int} {bit mask : Int} (h8 : B8 l) (hm0 : 0 ≤ mask) (hm1 : mask < 65536) (i k : Nat) (hk : k < 8 * l.length) :
    digAt (spStep l bit mask i) k = (digAt l k ^^ (decide (bit + i = k) && mdig mask i)) := by
  by_cases h : 0 ≤ bit + i ∧ bit + i < 8 * l.length
  · obtain ⟨t, ht⟩ : ∃ t : Nat, bit + (i : Int) = (t : Int) := ⟨(bit + i).toNat, by omega⟩
    have ht' : t < 8 * l.length := by omega
    rw [spStep_in ht ht', ht]
    unfold digAt
    have hx := B8_get h8 (t / 8)
    by_cases hq : t / 8 = k / 8
    · rw [← hq, List.getElem?_set_self (by omega), Option.getD_some, turnI_bit hx.1 hx.2 hm0 hm1 _ _ _]
      congr 2
      simp; omega
    · rw [List.getElem?_set_ne hq]
      have : ¬ ((t : Int) = (k : Int)) := by omega
      simp [this]
  · rw [spStep_out (by omega)]
    have : ¬ (bit + (i : Int) = (k : Int)) := by omega
    simp [this]
theorem spN_dig {l : List Int} {bit mask : Int} (h8 : B8 l) (hm0 : 0 ≤ mask) (hm1 : mask < 65536) (k : Nat) (hk : k < 8 * l.length) :
    ∀ n, n ≤ 16 → digAt (spN l bit mask n) k = (digAt l k ^^ (decide (bit ≤ k ∧ k < bit + n) && mdig mask (k - bit).toNat))
  | 0, _ => by
    have : ¬ (bit ≤ (k : Int) ∧ (k : Int) < bit + ((0 : Nat) : Int)) := by omega
    simp only [this, spN_zero, decide_false, Bool.false_and, Bool.xor_false]
  | n + 1, hn => by
    rw [spN_succ, spStep_dig (spN_b8 h8 bit mask n) hm0 hm1 n k (by rw [spN_len]; exact hk), spN_dig h8 hm0 hm1 k hk n (by omega)]
    by_cases h : bit + (n : Int) = (k : Int)
    · have a1 : ¬ (bit ≤ (k : Int) ∧ (k : Int) < bit + (n : Int)) := by omega
      have a2 : bit ≤ (k : Int) ∧ (k : Int) < bit + ((n + 1 : Nat) : Int) := by omega
      have a3 : ((k : Int) - bit).toNat = n := by omega
      rw [decide_eq_false a1, decide_eq_true a2, decide_eq_true h, a3]
      simp
    · have a1 : (bit ≤ (k : Int) ∧ (k : Int) < bit + ((n + 1 : Nat) : Int)) ↔ (bit ≤ (k : Int) ∧ (k : Int) < bit + (n : Int)) := by omega
      simp only [h, a1, decide_false, Bool.false_and, Bool.xor_false]
/-- Is the digit k of the list turned? -/
def hit (bit mask : Int) (k : Nat) : Bool := decide (bit ≤ k ∧ k < bit + 16) && mdig mask (k - bit).toNat
theorem spoilI_dig {l : List Int} {bit mask : Int} (h8 : B8 l) (hm0 : 0 ≤ mask) (hm1 : mask < 65536) (k : Nat) (hk : k < 8 * l.length) :
    digAt (spoilI l bit mask) k = (digAt l k ^^ hit bit mask k) := spN_dig h8 hm0 hm1 k hk 16 (by omega)
theorem spoilI_len (l : List Int) (bit mask : Int) : (spoilI l bit mask).length = l.length := spN_len ..
theorem spoilI_b8 {l : List Int} (h : B8 l) (bit mask : Int) : B8 (spoilI l bit mask) := spN_b8 h bit mask 16

theorem byte_ext {x y : Int} (hx : 0 ≤ x ∧ x < 256) (hy : 0 ≤ y ∧ y < 256) (h : ∀ j, j < 8 → x.toNat.testBit j = y.toNat.testBit j) : x = y := by
  have : x.toNat = y.toNat := by
    apply Nat.eq_of_testBit_eq
    intro j
    by_cases hj : j < 8
    · exact h j hj
    · have p : 2 ^ 8 ≤ 2 ^ j := Nat.pow_le_pow_right (by omega) (by omega)
      rw [Nat.testBit_lt_two_pow (by omega), Nat.testBit_lt_two_pow (by omega)]
  omega
theorem digs_ext {l m : List Int} (hl : B8 l) (hm : B8 m) (hlen : l.length = m.length) (h : ∀ k, k < 8 * l.length → digAt l k = digAt m k) : l = m := by
  apply List.ext_getElem? 
  intro i
  by_cases hi : i < l.length
  · have e : l[i]?.getD 0 = m[i]?.getD 0 := by
      refine byte_ext (B8_get hl i) (B8_get hm i) fun j hj => ?_
      have := h (8 * i + (7 - j)) (by omega)
      unfold digAt at this
      rw [show (8 * i + (7 - j)) / 8 = i by omega, show 7 - (8 * i + (7 - j)) % 8 = j by omega] at this
      exact this
    simp [hi, show i < m.length by omega] at e ⊢
    exact e
  · rw [List.getElem?_eq_none (by omega), List.getElem?_eq_none (by omega)]

/-! ### sums over digits by their places -/
theorem digitsD_at (x : BitVec 8) (k : Nat) (hk : k < 8) : x.getMsbD k = ((x.toNat : Int)).toNat.testBit (7 - k) := by
  rw [BitVec.getMsbD_eq_getLsbD, BitVec.getLsbD, Int.toNat_natCast]; simp [hk]
theorem digits_eq : ∀ m : List (BitVec 8), digits m = (List.range (8 * (ints m).length)).map (digAt (ints m))
  | [] => rfl
  | x :: m => by
    have e : 8 * (ints (x :: m)).length = 8 + 8 * (ints m).length := by simp [ints]; omega
    rw [e, List.range_add, List.map_append, List.map_map]
    show digitsD x ++ digits m = _
    rw [digits_eq m]
    have p1 : digitsD x = (List.range 8).map (digAt (ints (x :: m))) := by
      unfold digitsD
      refine List.map_congr_left fun k hk => ?_
      have hk8 : k < 8 := List.mem_range.1 hk
      rw [digitsD_at x k hk8]
      unfold digAt
      rw [show k / 8 = 0 by omega, show k % 8 = k by omega]; rfl
    have p2 : (List.range (8 * (ints m).length)).map (digAt (ints m)) = (List.range (8 * (ints m).length)).map (digAt (ints (x :: m)) ∘ fun x => 8 + x) := by
      refine List.map_congr_left fun k _ => ?_
      show _ = digAt (ints (x :: m)) (8 + k)
      unfold digAt
      rw [show (8 + k) / 8 = k / 8 + 1 by omega, show (8 + k) % 8 = k % 8 by omega]; rfl
    rw [p1, p2]
theorem sum_digs {l : List Int} (h : B8 l) : sumI l = ((runD 65535#16 ((List.range (8 * l.length)).map (digAt l))).toNat : Int) := by
  obtain ⟨m, rfl⟩ := ints_of l h
  rw [sumI_eq, digits_eq]
theorem runD_lin' (f g : Nat → Bool) (a b : BitVec 16) : ∀ n, runD (a ^^^ b) ((List.range n).map fun k => f k ^^ g k) = runD a ((List.range n).map f) ^^^ runD b ((List.range n).map g)
  | 0 => rfl
  | n + 1 => by
    simp only [List.range_succ, List.map_append, runD_append]
    rw [runD_lin' f g a b n]
    exact stepD_lin ..

/-! ### bursts -/
theorem run16_list (W : List Bool) (hW : W.length = 16) (h : runD 0#16 W = 0#16) : ∀ b ∈ W, b = false := by
  have e : digits16 ((BitVec.ofBoolListBE W).cast hW) = W := by
    unfold digits16
    apply List.ext_getElem
    · simp [hW]
    · intro i h1 h2
      simp [h2]
  have z := (run16 0#16 ((BitVec.ofBoolListBE W).cast hW)).1 (by rw [e]; exact h)
  rw [← z] at e
  intro b hb
  rw [← e] at hb
  simp [digits16] at hb
  exact (And.symm hb).1
theorem map_false {g : Nat → Bool} {n : Nat} (h : ∀ j, j < n → g j = false) : (List.range n).map g = List.replicate n false := by
  apply List.ext_getElem
  · simp
  · intro i h1 h2
    simp at h1
    simp [h i h1]
theorem burst (g : Nat → Bool) (b M : Nat) (hb : b + 16 ≤ M) (h0 : ∀ j, j < M → g j = true → b ≤ j ∧ j < b + 16) (h : runD 0#16 ((List.range M).map g) = 0#16) : ∀ j, j < M → g j = false := by
  obtain ⟨c, rfl⟩ : ∃ c, M = b + 16 + c := ⟨M - (b + 16), by omega⟩
  rw [List.range_add, List.map_append, List.range_add, List.map_append, List.map_map, List.map_map, runD_append, runD_append] at h
  have n1 : (List.range b).map g = List.replicate b false := map_false fun j hj => by
    cases hg : g j with
    | false => rfl
    | true => have := h0 j (by omega) hg; omega
  have n2 : (List.range c).map (g ∘ fun x => b + 16 + x) = List.replicate c false := map_false fun j hj => by
    show g (b + 16 + j) = false
    cases hg : g (b + 16 + j) with
    | false => rfl
    | true => have := h0 (b + 16 + j) (by omega) hg; omega
  rw [n1, n2, runD_falses0] at h
  have h2 := runD_falses _ _ h
  have h3 := run16_list _ (by simp) h2
  intro j hj
  cases hg : g j with
  | false => rfl
  | true =>
    have hw := h0 j hj hg
    have := h3 (g j) (List.mem_map.2 ⟨j - b, List.mem_range.2 (by omega), by show g (b + (j - b)) = g j; congr 1; omega⟩)
    rw [hg] at this; exact this
theorem burst_in (e : Nat → Bool) (N : Nat) (bit : Int) (h0 : ∀ k : Nat, k < N → e k = true → bit ≤ k ∧ k < bit + 16) (h : runD 0#16 ((List.range N).map e) = 0#16) : ∀ k, k < N → e k = false := by
  by_cases hb : bit ≤ -16 ∨ N ≤ bit
  · intro k hk
    cases he : e k with
    | false => rfl
    | true => have := h0 k hk he; omega
  obtain ⟨b, hb'⟩ : ∃ b : Nat, bit + 16 = (b : Int) := ⟨(bit + 16).toNat, by omega⟩
  let g : Nat → Bool := fun j => if 16 ≤ j ∧ j < 16 + N then e (j - 16) else false
  have hg : ∀ j, j < 16 + N + 16 → g j = false := by
    refine burst g b (16 + N + 16) (by omega) ?_ ?_
    · intro j hj hgj
      by_cases hj2 : 16 ≤ j ∧ j < 16 + N
      · have : e (j - 16) = true := by simpa [g, hj2] using hgj
        have := h0 (j - 16) (by omega) this
        omega
      · simp [g, hj2] at hgj
    · rw [List.range_add, List.map_append, List.range_add, List.map_append, List.map_map, List.map_map, runD_append, runD_append]
      rw [map_false (n := 16) (g := g) fun j hj => if_neg (by omega), runD_falses0]
      have e1 : (List.range N).map (g ∘ fun x => 16 + x) = (List.range N).map e := List.map_congr_left fun k hk => by
        have : k < N := List.mem_range.1 hk
        show (if 16 ≤ 16 + k ∧ 16 + k < 16 + N then e (16 + k - 16) else false) = e k
        rw [if_pos (by omega), show 16 + k - 16 = k by omega]
      rw [e1, h, map_false (n := 16) fun j hj => by show (if 16 ≤ 16 + N + j ∧ 16 + N + j < 16 + N then e (16 + N + j - 16) else false) = false; exact if_neg (by omega), runD_falses0]
  intro k hk
  have := hg (16 + k) (by omega)
  have e2 : g (16 + k) = e k := by
    show (if 16 ≤ 16 + k ∧ 16 + k < 16 + N then e (16 + k - 16) else false) = e k
    rw [if_pos (by omega), show 16 + k - 16 = k by omega]
  rw [← e2]; exact this

/-- Bytes with the sum 0, spoilt, have it only if nothing was spoilt. -/
theorem spoil_found {l : List Int} {bit mask : Int} (h8 : B8 l) (hm0 : 0 ≤ mask) (hm1 : mask < 65536) (h : sumI l = 0) (h' : sumI (spoilI l bit mask) = 0) : spoilI l bit mask = l := by
  have q := spoilI_b8 h8 bit mask
  rw [sum_digs h8] at h
  rw [sum_digs q, spoilI_len] at h'
  have z : runD 65535#16 ((List.range (8 * l.length)).map (digAt l)) = 0#16 := BitVec.eq_of_toNat_eq (by simpa using h)
  have z' : runD 65535#16 ((List.range (8 * l.length)).map (digAt (spoilI l bit mask))) = 0#16 := BitVec.eq_of_toNat_eq (by simpa using h')
  have e : (List.range (8 * l.length)).map (digAt (spoilI l bit mask)) = (List.range (8 * l.length)).map (fun k => digAt l k ^^ hit bit mask k) :=
    List.map_congr_left fun k hk => spoilI_dig h8 hm0 hm1 k (List.mem_range.1 hk)
  have lin := runD_lin' (digAt l) (hit bit mask) 65535#16 0#16 (8 * l.length)
  rw [BitVec.xor_zero, ← e, z, z', BitVec.zero_xor] at lin
  have none := burst_in (hit bit mask) (8 * l.length) bit (fun k _ hk => by simp [hit] at hk; exact hk.1) lin.symm
  refine digs_ext q h8 (spoilI_len ..) fun k hk => ?_
  rw [spoilI_len] at hk
  rw [spoilI_dig h8 hm0 hm1 k hk, none k hk, Bool.xor_false]
theorem spoil_twice {l : List Int} {bit mask : Int} (h8 : B8 l) (hm0 : 0 ≤ mask) (hm1 : mask < 65536) : spoilI (spoilI l bit mask) bit mask = l := by
  refine digs_ext (spoilI_b8 (spoilI_b8 h8 _ _) _ _) h8 (by rw [spoilI_len, spoilI_len]) fun k hk => ?_
  rw [spoilI_len, spoilI_len] at hk
  rw [spoilI_dig (spoilI_b8 h8 _ _) hm0 hm1 k (by rw [spoilI_len]; exact hk), spoilI_dig h8 hm0 hm1 k hk, Bool.xor_assoc, Bool.xor_self, Bool.xor_false]
theorem spoil_zero {l : List Int} {bit : Int} (h8 : B8 l) : spoilI l bit 0 = l := by
  refine digs_ext (spoilI_b8 h8 _ _) h8 (by rw [spoilI_len]) fun k hk => ?_
  rw [spoilI_len] at hk
  rw [spoilI_dig h8 (by omega) (by omega) k hk]
  simp [hit, mdig]
theorem spoil_past {l : List Int} {bit mask : Int} (h : bit ≤ -16 ∨ 8 * l.length ≤ bit) : spoilI l bit mask = l := spN_out h 16 (by omega)
end Go.Proofs.Ytgeiagndpfdnlaa.B
end
section
namespace Go.Proofs.Ytgeiagndpfdnlaa.B
open Go.RowKit
set_option linter.unusedVariables false

theorem own_snoc {w : World} {base : Nat} {v : Value} {l : List Int} {x : Int} (h : w.ownsRow base 5 1 v (l.length + 1) (cells l ++ cells [x])) (h8 : B8 l) (h0 : 0 ≤ x) (h1 : x < 256) : Own w base v (l ++ [x]) := by
  refine ⟨by simpa [cells] using h, B8_append h8 ?_⟩
  intro y hy; simp at hy; subst hy; exact ⟨h0, h1⟩

theorem nextB {w0 w1 w2 : World} (h : Below w0.heap.size w0 w1) (h2 : Below w1.heap.size w1 w2) : Below w0.heap.size w0 w2 := h.trans (h2.mono h.size)

theorem openI_seal {l : List Int} (h8 : B8 l) : openI (sealI l) = some l := by
  have b := sumI_bd l h8
  have hl : (sealI l).length = l.length + 2 := by simp [sealI]
  have ht : (sealI l).take l.length = l := by simp [sealI]
  have g0 : (sealI l)[l.length]?.getD 0 = sumI l / 256 := by simp [sealI]
  have g1 : (sealI l)[l.length + 1]?.getD 0 = sumI l % 256 := by simp [sealI]
  have := openI_yes hl (by rw [ht, g0, g1]; omega)
  rw [this, ht]
theorem sum_seal {l : List Int} (h8 : B8 l) : sumI (sealI l) = 0 := by
  have b := sumI_bd l h8
  exact (sum_whole l _ _ h8 (by omega) (by omega) (by omega) (by omega)).2 (by omega)

theorem wf_u16 {n : Int} (h : (Lit.int .u16 n).wf = true) : 0 ≤ n ∧ n < 65536 := by
  simp [Lit.wf, IntKind.min, IntKind.max, IntKind.signed, IntKind.bits] at h; omega
theorem openI_sum {l : List Int} (h8 : B8 l) (h : ¬ sumI l = 0) : openI l = none := by
  by_cases h2 : l.length < 2
  · exact openI_short h2
  · obtain ⟨m, hm⟩ : ∃ m, l.length = m + 2 := ⟨l.length - 2, by omega⟩
    exact openI_no hm fun e => h ((sum_whole' hm h8).2 e)

theorem Own.alloc {w : World} {base : Nat} {v : Value} {l : List Int} (h : Own w base v l) (o : Obj) : Own (w.alloc o) base v l := ⟨h.1.alloc o, h.2⟩
theorem own_at {w : World} {base n cap : Nat} {a : Option Addr} {l : List Int} (h : Own w base (.slice a n cap) l) (hn : l.length = n) : Sl w a n cap l := by
  obtain ⟨a', cap', e, s⟩ := h.sl' hn
  simp at e
  obtain ⟨rfl, rfl⟩ := e
  exact s
theorem Sl.same {w w' : World} {a : Option Addr} {n cap : Nat} {l : List Int} (h : Sl w a n cap l) (hh : w'.heap = w.heap) : Sl w' a n cap l := by
  refine ⟨h.len, h.le, h.max, h.nil, h.b8, ?_⟩
  rcases h.row with rfl | ⟨b, o, rfl, hc⟩
  · exact Or.inl rfl
  · exact Or.inr ⟨b, o, rfl, fun i hi => by rw [← hc i hi]; exact World.cell?_of_block (by rw [hh])⟩
end Go.Proofs.Ytgeiagndpfdnlaa.B
end
section
namespace Go.Proofs.Ytgeiagndpfdnlaa
open Go.RowKit
set_option linter.unusedVariables false

def pkInB (a n b : Int) : Bool := decide (a ≤ n ∧ n ≤ b)
theorem inB_t {a n b : Int} (h1 : a ≤ n) (h2 : n ≤ b) : pkInB a n b = true := decide_eq_true ⟨h1, h2⟩
theorem inB_f {a n b : Int} (h : n < a ∨ b < n) : pkInB a n b = false := decide_eq_false (by omega)
theorem inB_out {a n b : Int} (h : pkInB a n b = true) : a ≤ n ∧ n ≤ b := of_decide_eq_true h
/-- May the packet be? -/
def Pk.right (x : Pk) : Bool := pkInB 1 x.k 9 && pkInB 0 x.f 5 && pkInB 0 x.t 5 && pkInB 0 x.i 4095 && pkInB 0 x.l 7 && pkInB (-1) x.p 5 && pkInB 0 x.s 2 && decide (x.z.length ≤ 4)
def Pk.err (x : Pk) : Int := if x.right = true then 0 else 1
theorem Pk.err_t {x : Pk} (h : x.right = true) : x.err = 0 := if_pos h
theorem Pk.err_f {x : Pk} (h : x.right = false) : x.err = 1 := if_neg (by rw [h]; exact Bool.false_ne_true)
structure Pk.Right (x : Pk) : Prop where
  k : 1 ≤ x.k ∧ x.k ≤ 9
  f : 0 ≤ x.f ∧ x.f ≤ 5
  t : 0 ≤ x.t ∧ x.t ≤ 5
  i : 0 ≤ x.i ∧ x.i ≤ 4095
  l : 0 ≤ x.l ∧ x.l ≤ 7
  p : -1 ≤ x.p ∧ x.p ≤ 5
  s : 0 ≤ x.s ∧ x.s ≤ 2
  z : x.z.length ≤ 4
theorem Pk.right_iff (x : Pk) : x.right = true ↔ x.Right := by
  unfold Pk.right pkInB
  simp only [Bool.and_eq_true, decide_eq_true_eq]
  constructor
  · rintro ⟨⟨⟨⟨⟨⟨⟨a, b⟩, c⟩, d⟩, e⟩, f⟩, g⟩, h⟩; exact ⟨a, b, c, d, e, f, g, h⟩
  · rintro ⟨a, b, c, d, e, f, g, h⟩; exact ⟨⟨⟨⟨⟨⟨⟨a, b⟩, c⟩, d⟩, e⟩, f⟩, g⟩, h⟩

/-- The byte that stands for a flag. -/
def flI (b : Bool) : Int := if b = true then 1 else 0
theorem flI_bd (b : Bool) : 0 ≤ flI b ∧ flI b ≤ 1 := by unfold flI; split <;> omega
/-- The byte i of a word, the greatest first. -/
def wbyte (v : Int) (i : Nat) : Int := IntKind.u64.wrap v / 2 ^ (8 * (7 - i)) % 256
def wordN (v : Int) (k : Nat) : List Int := (List.range k).map (wbyte v)
def pkWordI (v : Int) : List Int := wordN v 8
def headI (x : Pk) : List Int := [x.k % 256, x.f % 256, x.t % 256, x.i / 256 % 256, x.i % 256, x.l % 256, (x.p + 1) % 256, x.s % 256, flI x.fl, (x.z.length : Int) % 256]
def bodyI (z : List Int) : List Int := z.flatMap pkWordI
def packI (x : Pk) : List Int := headI x ++ bodyI x.z
theorem wordN_succ (v : Int) (k : Nat) : wordN v (k + 1) = wordN v k ++ [wbyte v k] := by unfold wordN; rw [List.range_succ, List.map_append]; rfl
theorem wordN_len (v : Int) (k : Nat) : (wordN v k).length = k := by simp [wordN]
theorem wordI_len (v : Int) : (pkWordI v).length = 8 := wordN_len v 8
theorem wbyte_bd (v : Int) (i : Nat) : 0 ≤ wbyte v i ∧ wbyte v i < 256 := by unfold wbyte; omega
theorem wordN_b8 (v : Int) (k : Nat) : B.B8 (wordN v k) := by
  intro y hy
  obtain ⟨j, _, rfl⟩ := List.mem_map.1 hy
  exact wbyte_bd v j
theorem bodyI_snoc (z : List Int) (v : Int) : bodyI (z ++ [v]) = bodyI z ++ pkWordI v := by simp [bodyI]
theorem bodyI_take (z : List Int) (k : Nat) (h : k < z.length) : bodyI (z.take (k + 1)) = bodyI (z.take k) ++ pkWordI (z[k]?.getD 0) := by
  rw [List.take_succ_eq_append_getElem h, bodyI_snoc]; simp [h]
theorem bodyI_len : ∀ z : List Int, (bodyI z).length = 8 * z.length
  | [] => rfl
  | v :: z => by
    have : bodyI (v :: z) = pkWordI v ++ bodyI z := by simp [bodyI]
    rw [this, List.length_append, wordI_len, bodyI_len z]; simp; omega
theorem bodyI_b8 (z : List Int) : B.B8 (bodyI z) := by
  intro y hy
  obtain ⟨v, _, h⟩ := List.mem_flatMap.1 hy
  exact wordN_b8 v 8 y h
theorem headI_b8 (x : Pk) : B.B8 (headI x) := by
  intro y hy
  simp only [headI, List.mem_cons, List.not_mem_nil, or_false] at hy
  rcases hy with rfl | rfl | rfl | rfl | rfl | rfl | rfl | rfl | rfl | rfl
  case inr.inr.inr.inr.inr.inr.inr.inr.inl => have := flI_bd x.fl; omega
  all_goals omega
theorem headI_len (x : Pk) : (headI x).length = 10 := rfl
theorem packI_b8 (x : Pk) : B.B8 (packI x) := B.B8_append (headI_b8 x) (bodyI_b8 x.z)
theorem packI_len (x : Pk) : (packI x).length = 10 + 8 * x.z.length := by rw [packI, List.length_append, headI_len, bodyI_len]
end Go.Proofs.Ytgeiagndpfdnlaa
end
section
namespace Go.Proofs.Ytgeiagndpfdnlaa
open Go.RowKit
set_option linter.unusedVariables false

theorem pw_any (a n b : Int) (w : World) :
    Calls Try.prog 64 #[.int .i64 a, .int .i64 n, .int .i64 b] w fun e w' => e = .returned (.bool (pkInB a n b)) ∧ w = w' := by
  by_cases h : a ≤ n
  · have h' : decide (a ≤ n) = true := decide_eq_true h
    go_enter Try.func64, Try.ntmps64
    go_wp2
    go_ret
    exact ⟨ret_bool (by unfold pkInB; simp [h]), rfl⟩
  · have h' : decide (a ≤ n) = false := decide_eq_false h
    go_enter Try.func64, Try.ntmps64
    go_wp2
    go_ret
    exact ⟨ret_bool (inB_f (by omega)).symm, rfl⟩
theorem inB_not {a n b : Int} (h : (!pkInB a n b) = true) : pkInB a n b = false := by simpa using h

set_option maxHeartbeats 1000000 in
theorem pkCheck_any (x : Pk) (a : Option Addr) (n cap : Nat) (w : World) (hsl : Sl w a n cap x.z) :
    Calls Try.prog 52 #[x.val (.slice a n cap)] w fun e w' => e = .returned (.int .i64 x.err) ∧ Below w.heap.size w w' := by
  have hl := hsl.len
  have hle := hsl.le
  have hmx := hsl.max
  unfold maxLen at hmx
  obtain ⟨k, f, t, i, l, p, s, fl, z⟩ := x
  simp only at hl
  have HE : ∀ v : Int, Pk.err ⟨k, f, t, i, l, p, s, fl, z⟩ = v → Ending.returned (.int .i64 v) = Ending.returned (.int .i64 (Pk.err ⟨k, f, t, i, l, p, s, fl, z⟩)) := fun v h => by rw [h]
  have H1 : Hid (pkInB 1 k 9 = false ∨ pkInB 0 f 5 = false ∨ pkInB 0 t 5 = false ∨ pkInB 0 i 4095 = false ∨ pkInB 0 l 7 = false ∨ pkInB (-1) p 5 = false ∨ pkInB 0 s 2 = false ∨ 4 < (n : Int) → Pk.err ⟨k, f, t, i, l, p, s, fl, z⟩ = 1) := fun h => Pk.err_f (by unfold Pk.right; rcases h with h | h | h | h | h | h | h | h <;> simp [h]; omega)
  have H0 : Hid (pkInB 1 k 9 = true → pkInB 0 f 5 = true → pkInB 0 t 5 = true → pkInB 0 i 4095 = true → pkInB 0 l 7 = true → pkInB (-1) p 5 = true → pkInB 0 s 2 = true → (n : Int) ≤ 4 → Pk.err ⟨k, f, t, i, l, p, s, fl, z⟩ = 0) := fun h1 h2 h3 h4 h5 h6 h7 h8 => Pk.err_t (by unfold Pk.right; simp [h1, h2, h3, h4, h5, h6, h7]; omega)
  unfold Pk.val
  go_enter Try.func52, Try.ntmps52
  go_wp2_with (go_at_call 64; refine (pw_any _ _ _ _).mono ?_; rintro e w1 ⟨rfl, rfl⟩)
  all_goals go_ret
  all_goals refine ⟨HE _ ?_, (Below.refl _ _).alloc (Nat.le_refl _) _⟩
  all_goals clear HE
  all_goals simp only [Bool.not_eq_true', Bool.not_eq_false'] at *
  all_goals first
    | exact H0.out (by assumption) (by assumption) (by assumption) (by assumption) (by assumption) (by assumption) (by assumption) (by assumption)
    | exact H1.out (.inl (by assumption))
    | exact H1.out (.inr (.inl (by assumption)))
    | exact H1.out (.inr (.inr (.inl (by assumption))))
    | exact H1.out (.inr (.inr (.inr (.inl (by assumption)))))
    | exact H1.out (.inr (.inr (.inr (.inr (.inl (by assumption))))))
    | exact H1.out (.inr (.inr (.inr (.inr (.inr (.inl (by assumption)))))))
    | exact H1.out (.inr (.inr (.inr (.inr (.inr (.inr (.inl (by assumption))))))))
    | exact H1.out (.inr (.inr (.inr (.inr (.inr (.inr (.inr (by assumption))))))))
    | (exfalso; clear H0 H1; simp_all; done)
end Go.Proofs.Ytgeiagndpfdnlaa
end
section
namespace Go.Proofs.Ytgeiagndpfdnlaa
open Go.RowKit
set_option linter.unusedVariables false

theorem hd_own {w : World} {base : Nat} (m : List Int) (h8 : B.B8 m) (hm : m.length ≤ maxLen) (g : Nat) (hb : base ≤ g) (h : w.heap[g]? = some (.cells (B.cells m).toArray 5 (0, 0))) : B.Own w base (.slice (some ⟨g, 0, none⟩) m.length m.length) m :=
  ⟨⟨by simp [B.cells], Or.inr ⟨g, m.length, (B.cells m).toArray, rfl, hb, h, Nat.le_refl _, hm, by simp [B.cells], by rw [Nat.mul_one]; exact List.take_of_length_le (by simp [B.cells])⟩⟩, h8⟩

end Go.Proofs.Ytgeiagndpfdnlaa
end
section
namespace Go.Proofs.Ytgeiagndpfdnlaa
open Go.RowKit
set_option linter.unusedVariables false
set_option maxRecDepth 20000

theorem cell_one' (w : World) (x : Int) : ∀ j u, (B.cells [x])[j]? = some u → (w.alloc (.cells #[.int .u8 x] 5)).cell? ((⟨w.heap.size, 0, none⟩ : Addr).add j) = some u := by
  intro j u hu
  obtain ⟨hj, rfl⟩ := B.cells_get hu
  rw [Addr.add_lit, Nat.zero_add, cell_of_row _ _ _ _ 5 (0, 0) (heap_alloc_new w _)]
  simp at hj
  match j, hj with
  | 0, _ => rfl

theorem sealI_len (l : List Int) : (B.sealI l).length = l.length + 2 := by simp [B.sealI]
theorem B.Own.low {w : World} {base base' : Nat} {v : Value} {l : List Int} (h : B.Own w base v l) (hb : base' ≤ base) : B.Own w base' v l := by
  refine ⟨⟨h.1.1, h.1.2.imp id ?_⟩, h.2⟩
  rintro ⟨g, cap, cur, e, hg, rest⟩
  exact ⟨g, cap, cur, e, Nat.le_trans hb hg, rest⟩

def lockPk : Pk := ⟨1, 0, 0, 0, 0, 0, 0, false, []⟩
theorem lock_right : lockPk.right = true := by decide
end Go.Proofs.Ytgeiagndpfdnlaa
end
section
namespace Go.Proofs.Ytgeiagndpfdnlaa
open Go.RowKit
set_option linter.unusedVariables false
set_option maxRecDepth 20000

def ansI (k : Int) : Int := if k = 1 then 7 else if k = 2 ∨ k = 4 ∨ k = 5 then 8 else if k = 3 ∨ k = 6 then 9 else 0
set_option maxHeartbeats 400000 in
theorem answer_any (k : Int) (w : World) :
    Calls Try.prog 58 #[.int .i64 k] w fun e w' => e = .returned (.int .i64 (ansI k)) ∧ w = w' := by
  have HE : Hid (∀ v : Int, ansI k = v → Ending.returned (.int .i64 v) = Ending.returned (.int .i64 (ansI k))) := fun v h => by rw [h]
  go_enter Try.func58, Try.ntmps58
  go_wp2
  all_goals go_ret
  all_goals refine ⟨HE.out _ ?_, rfl⟩
  all_goals clear HE
  all_goals unfold ansI
  all_goals simp only [beq_iff_eq, beq_eq_false_iff_ne, ne_eq] at *
  all_goals first | (exfalso; simp_all; done) | (repeat (first | rw [if_pos (by omega)] | rw [if_neg (by omega)]))
theorem ans_no {k : Int} (h : k < 1 ∨ 6 < k) : ansI k = 0 := by unfold ansI; rw [if_neg (by omega), if_neg (by omega), if_neg (by omega)]
theorem ans_yes {k : Int} (h : 1 ≤ k ∧ k ≤ 6) : 7 ≤ ansI k ∧ ansI k ≤ 9 := by unfold ansI; repeat (first | omega | split)
end Go.Proofs.Ytgeiagndpfdnlaa
end
section
namespace Go.Proofs.Ytgeiagndpfdnlaa
open Go.RowKit
set_option linter.unusedVariables false
set_option maxRecDepth 20000

end Go.Proofs.Ytgeiagndpfdnlaa
end
section
namespace Go.Proofs.Ytgeiagndpfdnlaa
open Go.RowKit
set_option linter.unusedVariables false
set_option maxRecDepth 20000

end Go.Proofs.Ytgeiagndpfdnlaa
end
section
namespace Go.Proofs.Ytgeiagndpfdnlaa
open Go.RowKit Go.Maps
set_option linter.unusedVariables false
set_option maxRecDepth 20000

structure PH (w wx : World) (g g1 g2 : Nat) (X : Nat → Prop) (N : Nat) (K node : Int) (L : List Hr) (n : Nat) (o : List (Int × Int)) (q : List Wr) : Prop where
  hp : HP w wx g1 g2 (fun j => X j ∨ j = g) N K L n o q
  c0 : wx.cell? ⟨g, 0, none⟩ = some (.pointer (some ⟨g1, 0, none⟩))
  c1 : wx.cell? ⟨g, 1, none⟩ = some (.pointer (some ⟨g2, 0, none⟩))
  c2 : wx.cell? ⟨g, 2, none⟩ = some (.int .i64 node)
  c3 : wx.cell? ⟨g, 3, none⟩ = some (.int .i64 (N : Int))
  lt : g < wx.heap.size
  nx : NX w X g
  kb : K ≤ 1000
section
variable {w wx wy : World} {g g1 g2 n N : Nat} {X Y F : Nat → Prop} {K node : Int} {L L' : List Hr} {o o' : List (Int × Int)} {q q' : List Wr}
theorem PH.step (h : PH w wx g g1 g2 X N K node L n o q) (hk : Keep F wx wy) (hF : ∀ j, F j → w.heap.size ≤ j ∧ (X j ∨ wx.heap.size ≤ j)) (hY : ∀ j, Y j → (X j ∨ wx.heap.size ≤ j) ∧ j < wy.heap.size) : PH w wy g g1 g2 Y N K node L n o q := by
  have hf : ¬ F g := fun hf => (hF g hf).2.elim h.nx.2 (fun e => by have := h.lt; omega)
  have ec := fun i => hk.cell (b := g) i h.lt hf
  refine ⟨h.hp.step hk (fun j hj => ⟨(hF j hj).1, (hF j hj).2.imp .inl id⟩) (fun j hj => ?_), (ec _).trans h.c0, (ec _).trans h.c1, (ec _).trans h.c2, (ec _).trans h.c3, Nat.lt_of_lt_of_le h.lt hk.size, ⟨h.nx.1, fun hy => (hY g hy).1.elim h.nx.2 (fun e => by have := h.lt; omega)⟩, h.kb⟩
  rcases hj with hj | rfl
  · exact ⟨(hY j hj).1.imp .inl id, (hY j hj).2⟩
  · exact ⟨.inl (.inr rfl), Nat.lt_of_lt_of_le h.lt hk.size⟩
theorem PH.below (h : PH w wx g g1 g2 X N K node L n o q) (hb : Below wx.heap.size wx wy) : PH w wy g g1 g2 X N K node L n o q :=
  h.step (F := fun _ => False) (Keep.of_below hb) (fun _ h => h.elim) (fun j hj => ⟨.inl hj, Nat.lt_of_lt_of_le (h.hp.xl j (.inl hj)) hb.size⟩)
theorem PH.bel (h : PH w wx g g1 g2 X N K node L n o q) : Below w.heap.size w wx := h.hp.bel
theorem PH.xl (h : PH w wx g g1 g2 X N K node L n o q) : ∀ j, X j → j < wx.heap.size := fun j hj => h.hp.xl j (.inl hj)
/-- After a call on its directory, or its turns. -/
theorem PH.call (h : PH w wx g g1 g2 X N K node L n o q) {n' : Nat} (hk : Keep (NX w (fun j => X j ∨ j = g)) wx wy) (p : HP w wy g1 g2 (fun j => X j ∨ j = g) N K L' n' o' q') : Keep (NX w X) wx wy ∧ PH w wy g g1 g2 X N K node L' n' o' q' := by
  have ec := fun i => hk.cell (b := g) i h.lt (fun hf => hf.2 (.inr rfl))
  exact ⟨hk.mono (fun j _ hj => ⟨hj.1, fun hx => hj.2 (.inl hx)⟩), p, (ec _).trans h.c0, (ec _).trans h.c1, (ec _).trans h.c2, (ec _).trans h.c3, Nat.lt_of_lt_of_le h.lt hk.size, h.nx, h.kb⟩
theorem PH.setN (h : PH w wx g g1 g2 X N K node L n o q) {m : Nat} (hm : n ≤ m) : PH w wx g g1 g2 X N K node L m o q := by
  obtain ⟨⟨⟨B1, B2, m1, t, h1⟩, ok⟩, c0, c1, c2, c3, lt, nx, kb⟩ := h
  exact ⟨⟨⟨B1, B2, m1, t.more hm, h1⟩, ok⟩, c0, c1, c2, c3, lt, nx, kb⟩
theorem PH.rlen (h : PH w wx g g1 g2 X N K node L n o q) (l : Int) : (rowL L l).z.length ≤ 1000 := by
  obtain ⟨⟨B1, B2, m1, t, h1⟩, ok⟩ := h.hp
  have kb := h.kb
  cases hh : hasH L l with
  | true => have := m1.zl _ (hasH_mem hh).1; omega
  | false =>
    have hr : rowL L l = zeroHr := by
      unfold hasH at hh
      unfold rowL
      cases hg : getK hOf l L with
      | none => rfl
      | some e => rw [hg] at hh; cases hh
    rw [hr]
    show 0 ≤ 1000
    omega
end
theorem chk_true {N L K S Y O I nv : Nat} (h : CfgB N L K S Y O I) (hl : nv ≤ L * K) : chk N L K S Y O I nv = true := by
  obtain ⟨N0, N1, L0, L1, K0, K1, S0, S1, Y0, Y1, O0, O1, I0, I1⟩ := h
  have e : ((L : Int) * (K : Int)) = ((L * K : Nat) : Int) := by simp
  unfold chk inB
  rw [e]
  simp only [Bool.and_eq_true, decide_eq_true_eq]
  omega
/-- What is granted. -/
def grantR (node who id l : Int) (L : List Hr) : Pk := ⟨7, node, who, id, l, (rowL L l).h, (rowL L l).s, false, (rowL L l).z⟩
end Go.Proofs.Ytgeiagndpfdnlaa
end
