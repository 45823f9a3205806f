/- A home's directory and turns (HP), on plain data: its rows, who has which line, who waits. Conditions: as each theorem states them. -/
import Derived.Test.YtgeiagndpfdnlaaHo0
import Derived.Test.YtgeiagndpfdnlaaMd5
namespace Go.Proofs.Ytgeiagndpfdnlaa
open Go.RowKit Go.Maps
set_option linter.unusedVariables false
set_option maxRecDepth 20000

def HP (w wx : World) (g1 g2 : Nat) (X : Nat → Prop) (N K : Int) (L : List Hr) (n : Nat) (o : List (Int × Int)) (q : List Wr) : Prop := HO w wx g1 g2 X N K L n (ownT o) (wtD q) ∧ OkT o
section
variable {w wx wy : World} {g1 g2 n : Nat} {X Y F : Nat → Prop} {N K : Int} {L L' : List Hr} {o : List (Int × Int)} {q : List Wr}
theorem HP.step (h : HP w wx g1 g2 X N K L n o q) (hk : Keep F wx wy) (hF : ∀ j, F j → w.heap.size ≤ j ∧ (X j ∨ wx.heap.size ≤ j)) (hY : ∀ j, Y j → (X j ∨ wx.heap.size ≤ j) ∧ j < wy.heap.size) : HP w wy g1 g2 Y N K L n o q := ⟨h.1.step hk hF hY, h.2⟩
theorem HP.below (h : HP w wx g1 g2 X N K L n o q) (hb : Below wx.heap.size wx wy) : HP w wy g1 g2 X N K L n o q := ⟨h.1.below hb, h.2⟩
theorem HP.xl (h : HP w wx g1 g2 X N K L n o q) : ∀ j, X j → j < wx.heap.size := by
  obtain ⟨⟨B1, B2, m, t, h1, h2, h3⟩, ok⟩ := h
  exact h3
theorem HP.bel (h : HP w wx g1 g2 X N K L n o q) : Below w.heap.size w wx := by
  obtain ⟨⟨B1, B2, m, t, h1, h2, h3⟩, ok⟩ := h
  exact m.bel
/-- A directory that was made between two moments. -/
theorem mo_span {wa : World} {a0 : Nat} (m : MO w wa g1 (fun j => j < a0) N K L) (hb : Below wa.heap.size wa wy) : MO w wy g1 (fun j => j < wy.heap.size ∧ ¬ (a0 ≤ j ∧ j < wa.heap.size)) N K L :=
  m.grow hb (fun j hj => ⟨by
    by_cases h : j < a0
    · exact .inl h
    · exact .inr (Nat.le_of_not_lt (fun hlt => hj.2 ⟨by omega, hlt⟩)), hj.1⟩)
theorem to_span {wa : World} {a0 : Nat} {own : Int → Int} {wt : Int → List (Int × Int)} (t : TO w wa g2 (fun j => j < a0) n own wt) (hb : Below wa.heap.size wa wy) : TO w wy g2 (fun j => j < wy.heap.size ∧ ¬ (a0 ≤ j ∧ j < wa.heap.size)) n own wt :=
  t.grow hb (fun j hj => ⟨by
    by_cases h : j < a0
    · exact .inl h
    · exact .inr (Nat.le_of_not_lt (fun hlt => hj.2 ⟨by omega, hlt⟩)), hj.1⟩)
/-- Both, new: made one behind the other. -/
theorem hp_make {wa wb : World} {a0 b0 : Nat} (hw : w.heap.size ≤ a0) (hw2 : w.heap.size ≤ b0) (hX : ∀ j, X j → j < a0 ∧ j < b0) (m : MO w wa g1 (fun j => j < a0) N K L) (t : TO w wb g2 (fun j => j < b0) n (fun _ => -1) (fun _ => [])) (h : wa.heap.size ≤ b0 ∨ wb.heap.size ≤ a0) (ha : Below wa.heap.size wa wy) (hb : Below wb.heap.size wb wy) :
    HP w wy g1 g2 X N K L n [] [] := by
  have e1 : ownT [] = fun _ => -1 := rfl
  have e2 : wtD [] = fun _ => [] := rfl
  have s1 := ha.size
  have s2 := hb.size
  have a1 : a0 ≤ wa.heap.size := by
    rcases Nat.lt_or_ge wa.heap.size a0 with hlt | hge
    · have := m.xl _ hlt; omega
    · exact hge
  refine ⟨⟨fun j => a0 ≤ j ∧ j < wa.heap.size, fun j => b0 ≤ j ∧ j < wb.heap.size, mo_span m ha, by rw [e1, e2]; exact to_span t hb, fun j h1 h2 => by omega, fun j hj => ?_, fun j hj => by have := hX j hj; omega⟩, ok_nil⟩
  rcases hj with hj | hj
  · exact ⟨by omega, by omega, fun hx => by have := hX j hx; omega⟩
  · exact ⟨by omega, by omega, fun hx => by have := hX j hx; omega⟩
theorem hp_row (h : HP w wx g1 g2 X N K L n o q) {l : Int} (hl : In64 l) : Calls Try.prog 45 #[.pointer (some ⟨g1, 0, none⟩), .int .i64 l] wx fun e w' =>
    ∃ a cap, e = .returned (.tuple #[(rowL L l).val (.slice a (rowL L l).z.length cap), .bool (hasH L l)]) ∧ Own w' wx.heap.size (.slice a (rowL L l).z.length cap) (rowL L l).z ∧ Below wx.heap.size wx w' := by
  obtain ⟨⟨B1, B2, m, t, h1, h2, h3⟩, ok⟩ := h
  exact mo_row m hl
theorem hp_set (h : HP w wx g1 g2 X N K L n o q) {l : Int} (hl : In64 l) (s hd : Int) (a : Option Addr) (nz cap : Nat) (z : List Int) (hs : Sl wx a nz cap z) (hb : nz ≤ 17592186044416) :
    Calls Try.prog 55 #[.pointer (some ⟨g1, 0, none⟩), .int .i64 l, .int .i64 s, .int .i64 hd, .slice a nz cap] wx fun e w' => e = .returned (.int .i64 (setR N K L l s hd z).1) ∧ Keep (NX w X) wx w' ∧ HP w w' g1 g2 X N K (setR N K L l s hd z).2 n o q := by
  obtain ⟨⟨B1, B2, m, t, h1, h2, h3⟩, ok⟩ := h
  refine (mo_set m hl s hd a nz cap z hs hb).mono ?_
  rintro e w' ⟨rfl, hk, m'⟩
  obtain ⟨k, r⟩ := ho_dir t h1 h2 h3 hk m'
  exact ⟨rfl, k, r, ok⟩
theorem hp_owner (h : HP w wx g1 g2 X N K L n o q) {l : Int} (hl : In64 l) : Calls Try.prog 11 #[.pointer (some ⟨g2, 0, none⟩), .int .i64 l] wx fun e w' => e = .returned (.int .i64 (ownT o l)) ∧ wx = w' := by
  obtain ⟨⟨B1, B2, m, t, h1, h2, h3⟩, ok⟩ := h
  exact to_owner t hl
theorem hp_waiting (h : HP w wx g1 g2 X N K L n o q) {l : Int} (hl : In64 l) : Calls Try.prog 12 #[.pointer (some ⟨g2, 0, none⟩), .int .i64 l] wx fun e w' => e = .returned (.int .i64 ((waitT q l).length : Int)) ∧ wx = w' := by
  obtain ⟨⟨B1, B2, m, t, h1, h2, h3⟩, ok⟩ := h
  refine (to_waiting t hl).mono ?_
  rintro e w' ⟨rfl, k⟩
  exact ⟨by unfold wtD; rw [List.length_map], k⟩
theorem hp_ready (h : HP w wx g1 g2 X N K L n o q) (hn : n ≤ 1000) : Calls Try.prog 32 #[.pointer (some ⟨g2, 0, none⟩)] wx fun e w' => ∃ v, e = .returned v ∧ Own w' wx.heap.size v (readyT o q) ∧ Below wx.heap.size wx w' := by
  obtain ⟨⟨B1, B2, m, t, h1, h2, h3⟩, ok⟩ := h
  refine (to_ready t (by omega)).mono ?_
  rintro e w' ⟨v, l, rfl, own, b, hr, hm⟩
  have e : readyT o q = l := ready_eq hr (fun k => (hm k).trans (by rw [Ne, wtD_nil]))
  rw [e]
  exact ⟨v, rfl, own, b⟩
theorem ok_ask (ok : OkT o) {l v : Int} (h2 : 0 ≤ v) : OkT (askO o q l v) := by
  unfold askO
  split
  · rename_i hb
    have hb : ownT o l = -1 ∧ waitT q l = [] := of_decide_eq_true hb
    exact ok_snoc ok hb.1 h2
  · exact ok
theorem hp_ask (h : HP w wx g1 g2 X N K L n o q) {l v : Int} (d : Int) (hl : In64 l) (h1 : 0 ≤ l) (h2 : 0 ≤ v) (hn : n ≤ 1000) :
    Calls Try.prog 54 #[.pointer (some ⟨g2, 0, none⟩), .int .i64 l, .int .i64 v, .int .i64 d] wx fun e w' => e = .returned (.bool (askB o q l)) ∧ Keep (NX w X) wx w' ∧ HP w w' g1 g2 X N K L (n + 1) (askO o q l v) (askQ o q l v d) := by
  have ok' := ok_ask (q := q) (l := l) h.2 h2
  obtain ⟨⟨B1, B2, m, t, k1, k2, k3⟩, ok⟩ := h
  unfold HP
  refine Calls.mono (?_ : Calls _ _ _ _ (fun e w' => e = .returned (.bool (askB o q l)) ∧ Keep (NX w X) wx w' ∧ HO w w' g1 g2 X N K L (n + 1) (ownT (askO o q l v)) (wtD (askQ o q l v d)))) (fun e w' hh => ⟨hh.1, hh.2.1, hh.2.2, ok'⟩)
  unfold askO askQ
  by_cases hb : ownT o l = -1 ∧ waitT q l = []
  · have e : askB o q l = true := decide_eq_true hb
    rw [e, if_pos rfl, if_pos rfl]
    refine (to_ask_own t d hl h1 h2 hb.1 (wtD_nil.2 hb.2) (by omega)).mono ?_
    rintro e w' ⟨rfl, hk, p⟩
    rw [own_upd ok hb.1 h2] at p
    exact ⟨rfl, ho_turn m k1 k2 k3 hk p⟩
  · have e : askB o q l = false := decide_eq_false hb
    rw [e, if_neg (by simp), if_neg (by simp)]
    refine (to_ask_wait t d hl h1 h2 ?_ (by omega)).mono ?_
    · by_cases e1 : ownT o l = -1
      · exact .inr (fun e2 => hb ⟨e1, wtD_nil.1 e2⟩)
      · exact .inl e1
    · rintro e w' ⟨rfl, hk, p⟩
      rw [wt_upd q l v d] at p
      exact ⟨rfl, ho_turn m k1 k2 k3 hk p⟩
theorem hp_release (h : HP w wx g1 g2 X N K L n o q) {l v : Int} (hl : In64 l) (h0 : 0 ≤ v) (ho : ownT o l = v) :
    Calls Try.prog 57 #[.pointer (some ⟨g2, 0, none⟩), .int .i64 l, .int .i64 v] wx fun e w' => e = .returned (.int .i64 0) ∧ Keep (NX w X) wx w' ∧ HP w w' g1 g2 X N K L n (relO o l) q := by
  obtain ⟨⟨B1, B2, m, t, k1, k2, k3⟩, ok⟩ := h
  obtain ⟨k, hk, hno⟩ := own_place ok h0 ho
  rw [← erase_rel ok hk]
  refine (to_release_ok t hl (by omega) ho).mono ?_
  rintro e w' ⟨rfl, hK, p⟩
  rw [own_erase_upd ok hk] at p
  obtain ⟨a, b⟩ := ho_turn m k1 k2 k3 hK p
  exact ⟨rfl, a, b, ok_erase ok k⟩
theorem hp_next (h : HP w wx g1 g2 X N K L n o q) {l v d : Int} (hl : In64 l) (h1 : ownT o l = -1) (h0 : 0 ≤ v) (hk : nextW q l = some ⟨l, v, d⟩) (hn : n ≤ 1000) :
    Calls Try.prog 34 #[.pointer (some ⟨g2, 0, none⟩), .int .i64 l] wx fun e w' => e = .returned (.tuple #[.int .i64 v, .int .i64 d, .bool true]) ∧ Keep (NX w X) wx w' ∧ HP w w' g1 g2 X N K L (n + 1) (o ++ [(l, v)]) (nextQ q l) := by
  obtain ⟨⟨B1, B2, m, t, k1, k2, k3⟩, ok⟩ := h
  obtain ⟨k, hk, hno, hq⟩ := next_place hk
  rw [hq]
  obtain ⟨e1, e2⟩ := wt_erase_upd hk hno
  refine (to_next_ok t hl h1 e1 (by omega)).mono ?_
  rintro e w' ⟨rfl, hK, p⟩
  rw [own_upd ok h1 h0, e2] at p
  obtain ⟨a, b⟩ := ho_turn m k1 k2 k3 hK p
  exact ⟨rfl, a, b, ok_snoc ok h1 h0⟩
end
end Go.Proofs.Ytgeiagndpfdnlaa
