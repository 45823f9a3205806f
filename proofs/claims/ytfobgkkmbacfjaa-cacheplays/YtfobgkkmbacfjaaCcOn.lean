/- A cache beside what a test has of its own (CO): its memory is new, and none of X; the blocks of X stay. Conditions: as each theorem states them. -/
import Derived.Test.YtfobgkkmbacfjaaCcWk
namespace Go.Proofs.Ytfobgkkmbacfjaa
open Go.RowKit Go.Maps
set_option linter.unusedVariables false
set_option maxRecDepth 20000

structure CO (w wx : World) (g : Nat) (X : Nat → Prop) (S W k : Int) (L : List En) : Prop where
  bel : Below w.heap.size w wx
  c : ∃ M D, Cc wx g M D S W k L ∧ ∀ j, M j ∨ D j → NX w X j
  xl : ∀ j, X j → j < wx.heap.size
section
variable {w wx wy : World} {g : Nat} {X Y F : Nat → Prop} {S W k : Int} {L : List En}
theorem CO.below (h : CO w wx g X S W k L) (hb : Below wx.heap.size wx wy) : CO w wy g X S W k L := by
  obtain ⟨M, D, c, hc⟩ := h.c
  exact ⟨next h.bel hb, ⟨M, D, c.below hb, hc⟩, fun j hj => Nat.lt_of_lt_of_le (h.xl j hj) hb.size⟩
/-- More of the test's own, all new. -/
theorem CO.grow (h : CO w wx g X S W k L) (hb : Below wx.heap.size wx wy) (hY : ∀ j, Y j → (X j ∨ wx.heap.size ≤ j) ∧ j < wy.heap.size) : CO w wy g Y S W k L := by
  obtain ⟨M, D, c, hc⟩ := h.c
  refine ⟨next h.bel hb, ⟨M, D, c.below hb, fun j hj => ⟨(hc j hj).1, fun hy => ?_⟩⟩, fun j hj => (hY j hj).2⟩
  rcases (hY j hy).1 with hx | hn
  · exact (hc j hj).2 hx
  · have := c.old j hj; omega
/-- Less of it. -/
theorem CO.less (h : CO w wx g X S W k L) (hY : ∀ j, Y j → X j) : CO w wx g Y S W k L := by
  obtain ⟨M, D, c, hc⟩ := h.c
  exact ⟨h.bel, ⟨M, D, c, fun j hj => ⟨(hc j hj).1, fun hy => (hc j hj).2 (hY j hy)⟩⟩, fun j hj => h.xl j (hY j hj)⟩
/-- The test writes what is its own. -/
theorem CO.write (h : CO w wx g X S W k L) (hk : Keep F wx wy) (hF : ∀ j, F j → w.heap.size ≤ j ∧ (X j ∨ wx.heap.size ≤ j)) : CO w wy g X S W k L := by
  obtain ⟨M, D, c, hc⟩ := h.c
  refine ⟨h.bel.trans (hk.below (fun j hj => (hF j hj).1) h.bel.size), ⟨M, D, c.keep hk (fun j hj hf => ?_), hc⟩, fun j hj => Nat.lt_of_lt_of_le (h.xl j hj) hk.size⟩
  rcases (hF j hf).2 with hx | hn
  · exact (hc j hj).2 hx
  · have := c.old j hj; omega
theorem CO.rise (h : CO w wx g X S W k L) : RiseK nOf L := by obtain ⟨M, D, c, hc⟩ := h.c; exact c.rise
theorem CO.inn (h : CO w wx g X S W k L) : ∀ e ∈ L, In64 e.n ∧ 0 ≤ e.n := by obtain ⟨M, D, c, hc⟩ := h.c; exact c.inn
theorem CO.pos (h : CO w wx g X S W k L) : 1 ≤ S ∧ 0 ≤ k := by obtain ⟨M, D, c, hc⟩ := h.c; exact c.pos
theorem CO.len (h : CO w wx g X S W k L) : (L.length : Int) ≤ k := by obtain ⟨M, D, c, hc⟩ := h.c; exact c.len
theorem co_new (sets ways : Int) (hs : In64 sets) (hb : Below w.heap.size w wx) (hX : ∀ j, X j → j < wx.heap.size) :
    Calls Try.prog 9 #[.int .i64 sets, .int .i64 ways] wx fun e w' => ∃ g, e = .returned (.pointer (some ⟨g, 0, none⟩)) ∧ Below wx.heap.size wx w' ∧ CO w w' g X (max sets 1) (max ways 1) 0 [] := by
  refine (cc_new sets ways wx hs).mono ?_
  rintro e w' ⟨g, rfl, b, c⟩
  refine ⟨g, rfl, b, next hb b, ⟨_, _, c, fun j hj => ?_⟩, fun j hj => Nat.lt_of_lt_of_le (hX j hj) b.size⟩
  rcases hj with hj | hj
  · exact ⟨Nat.le_trans hb.size hj.1, fun hx => by have := hX j hx; omega⟩
  · exact hj.elim
theorem co_len (h : CO w wx g X S W k L) : Calls Try.prog 48 #[.pointer (some ⟨g, 0, none⟩)] wx fun e w' => e = .returned (.int .i64 L.length) ∧ wx = w' := by
  obtain ⟨M, D, c, hc⟩ := h.c
  exact cc_len c
theorem co_lines (h : CO w wx g X S W k L) (hk : k < 1000000) : Calls Try.prog 49 #[.pointer (some ⟨g, 0, none⟩)] wx fun e w' => ∃ v, e = .returned v ∧ Own w' wx.heap.size v (L.map nOf) ∧ Below wx.heap.size wx w' := by
  obtain ⟨M, D, c, hc⟩ := h.c
  exact cc_lines c hk
theorem co_find (h : CO w wx g X S W k L) {n : Int} (hn : In64 n) : Calls Try.prog 21 #[.pointer (some ⟨g, 0, none⟩), .int .i64 n] wx fun e w' =>
    ∃ a cap, e = .returned (.tuple #[(entL L n).val (.slice a (entL L n).z.length cap), .bool (hasL L n)]) ∧ Own w' wx.heap.size (.slice a (entL L n).z.length cap) (entL L n).z ∧ Below wx.heap.size wx w' := by
  obtain ⟨M, D, c, hc⟩ := h.c
  exact cc_find c hn
theorem co_full (h : CO w wx g X S W k L) {n : Int} (hn : In64 n) : Calls Try.prog 25 #[.pointer (some ⟨g, 0, none⟩), .int .i64 n] wx fun e w' => e = .returned (.bool (fullL S W L n)) ∧ Below wx.heap.size wx w' := by
  obtain ⟨M, D, c, hc⟩ := h.c
  exact cc_full c hn
theorem co_victim (h : CO w wx g X S W k L) (n : Int) : Calls Try.prog 23 #[.pointer (some ⟨g, 0, none⟩), .int .i64 n] wx fun e w' => ∃ v ok, e = .returned (.tuple #[.int .i64 v, .bool ok]) ∧ IsVic S L n v ok ∧ Below wx.heap.size wx w' := by
  obtain ⟨M, D, c, hc⟩ := h.c
  exact cc_victim c n
theorem co_done {M' D' M D : Nat → Prop} {S' W' k' : Int} {L' : List En} (h : CO w wx g X S W k L) (hk : Keep M wx wy) (hM : ∀ j, M j → NX w X j) (hM' : ∀ j, M' j → M j ∨ wx.heap.size ≤ j) (hD' : ∀ j, D' j → D j ∨ wx.heap.size ≤ j) (hD : ∀ j, D j → NX w X j)
    (c : Cc wy g M' D' S' W' k' L') : Keep (NX w X) wx wy ∧ CO w wy g X S' W' k' L' := by
  have hs := h.bel.size
  refine ⟨hk.mono (fun j _ hj => hM j hj), h.bel.trans (hk.below (fun j hj => (hM j hj).1) h.bel.size), ⟨M', D', c, fun j hj => ?_⟩, fun j hj => Nat.lt_of_lt_of_le (h.xl j hj) hk.size⟩
  have new : wx.heap.size ≤ j → NX w X j := fun hn => ⟨by omega, fun hx => by have := h.xl j hx; omega⟩
  rcases hj with hj | hj
  · exact (hM' j hj).elim (hM j) new
  · exact (hD' j hj).elim (hD j) new
theorem co_put (h : CO w wx g X S W k L) (hk : k < 1000000) (x : En) (a : Option Addr) (n cap : Nat) (hs : Sl wx a n cap x.z) (ha : ∀ y : Addr, a = some y → X y.block ∨ y.block < w.heap.size) (hb : n ≤ 17592186044416) (hx : In64 x.n) :
    Calls Try.prog 13 #[.pointer (some ⟨g, 0, none⟩), x.val (.slice a n cap)] wx fun e w' => e = .returned (.int .i64 (putR S W k L x).1) ∧ Keep (NX w X) wx w' ∧ CO w w' g X S W (putR S W k L x).2.1 (putR S W k L x).2.2 := by
  obtain ⟨M, D, c, hc⟩ := h.c
  refine (cc_put c hk x a n cap hs (fun y hy hm => ?_) hb hx).mono ?_
  · rcases ha y hy with h1 | h1
    · exact (hc _ (.inl hm)).2 h1
    · have := (hc _ (.inl hm)).1; omega
  · rintro e w' ⟨rfl, hK, M', D', hM, hD, c'⟩
    exact ⟨rfl, co_done h hK (fun j hj => hc j (.inl hj)) hM hD (fun j hj => hc j (.inr hj)) c'⟩
theorem co_touch (h : CO w wx g X S W k L) (hk : k < 1000000) {n : Int} (hn : In64 n) :
    Calls Try.prog 19 #[.pointer (some ⟨g, 0, none⟩), .int .i64 n] wx fun e w' => e = .returned (.bool (hasL L n)) ∧ Keep (NX w X) wx w' ∧ CO w w' g X S W (touchR k L n).1 (touchR k L n).2 := by
  obtain ⟨M, D, c, hc⟩ := h.c
  refine (cc_touch c hk hn).mono ?_
  rintro e w' ⟨rfl, hK, M', hM, c'⟩
  exact ⟨rfl, co_done h hK (fun j hj => hc j (.inl hj)) hM (D' := D) (fun j hj => .inl hj) (fun j hj => hc j (.inr hj)) c'⟩
theorem co_drop_no (h : CO w wx g X S W k L) {n : Int} (hn : In64 n) (hh : hasL L n = false) :
    Calls Try.prog 16 #[.pointer (some ⟨g, 0, none⟩), .int .i64 n] wx fun e w' => e = .returned (.tuple #[zeroEn.val (.slice none 0 0), .bool false]) ∧ Below wx.heap.size wx w' := by
  obtain ⟨M, D, c, hc⟩ := h.c
  exact cc_drop_no c hn hh
theorem co_drop (h : CO w wx g X S W k L) (hk : k < 1000000) {n : Int} (hn : In64 n) (hh : hasL L n = true) :
    Calls Try.prog 16 #[.pointer (some ⟨g, 0, none⟩), .int .i64 n] wx fun e w' => ∃ d, e = .returned (.tuple #[(entL L n).val d, .bool true]) ∧ Keep (NX w X) wx w' ∧ DatZ w' (NX w X) (entL L n).z d ∧ CO w w' g X S W k (delK nOf n L) := by
  obtain ⟨M, D, c, hc⟩ := h.c
  refine (cc_drop c hk hn hh).mono ?_
  rintro e w' ⟨d, rfl, hK, hd, c'⟩
  obtain ⟨k1, k2⟩ := co_done h hK (fun j hj => hc j (.inl hj)) (M' := M) (fun j hj => .inl hj) (D' := D) (fun j hj => .inl hj) (fun j hj => hc j (.inr hj)) c'
  exact ⟨d, rfl, k1, hd.imp (fun j _ hj => hc j (.inr hj)), k2⟩
end
end Go.Proofs.Ytfobgkkmbacfjaa
