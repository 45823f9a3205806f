/- Two entries and a list beside each other, each with memory of its own. Nothing of the program is named here but its type. -/
import Derived.Test.YtfobgkkmbacfjaaEnt0
namespace Go.Proofs.Ytfobgkkmbacfjaa
open Go.RowKit
set_option linter.unusedVariables false
set_option maxRecDepth 20000

/-- Five blocks, no two the same, all new. -/
structure Five (lo ga gb bd ba bb : Nat) : Prop where
  n1 : ga ≠ gb
  n2 : ga ≠ bd
  n3 : ga ≠ ba
  n4 : ga ≠ bb
  n5 : gb ≠ bd
  n6 : gb ≠ ba
  n7 : gb ≠ bb
  n8 : bd ≠ ba
  n9 : bd ≠ bb
  n10 : ba ≠ bb
  l1 : lo ≤ ga
  l2 : lo ≤ gb
  l3 : lo ≤ bd
  l4 : lo ≤ ba
  l5 : lo ≤ bb
structure EC (w wx : World) (ga gb bd ba bb : Nat) (x y : En) (cd ca cb M : Nat) (z : List Int) : Prop where
  lx : x.z.length = M
  ly : y.z.length = M
  lz : z.length = M
  d : Own wx w.heap.size (.slice (some ⟨bd, 0, none⟩) M cd) z
  pa : Own wx w.heap.size (.slice (some ⟨ba, 0, none⟩) M ca) x.z
  pb : Own wx w.heap.size (.slice (some ⟨bb, 0, none⟩) M cb) y.z
  xa : Eb wx ga 0 x (.slice (some ⟨ba, 0, none⟩) M ca)
  xb : Eb wx gb 0 y (.slice (some ⟨bb, 0, none⟩) M cb)
  five : Five w.heap.size ga gb bd ba bb
  bel : Below w.heap.size w wx
theorem Own.far1 {w : World} {base b k : Nat} {g n c : Nat} {l : List Int} {v : Value} (h : Own w base (.slice (some ⟨g, 0, none⟩) n c) l) (hg : g ≠ b) : Own (w.setCell ⟨b, k, none⟩ v) base (.slice (some ⟨g, 0, none⟩) n c) l :=
  h.keep (Keep.one w b k v) (fun j hj => by simp [Value.ownBlock] at hj; omega)
theorem Own.set1 {w : World} {base b n c k : Nat} {l : List Int} (h : Own w base (.slice (some ⟨b, 0, none⟩) n c) l) (hn : l.length = n) (hk : k < n) (v : Int) : Own (w.setCell ⟨b, k, none⟩ (.int .i64 v)) base (.slice (some ⟨b, 0, none⟩) n c) (l.set k v) := by
  obtain ⟨b', y, e, _, _, _, _, p⟩ := h.poke hn hk
  simp at e
  subst e
  exact p v
theorem Own.cell1 {w : World} {base b n c k : Nat} {l : List Int} (h : Own w base (.slice (some ⟨b, 0, none⟩) n c) l) (hn : l.length = n) (hk : k < n) : (∃ y, w.cell? ⟨b, k, none⟩ = some (.int .i64 y)) ∧ w.frozen? ⟨b, k, none⟩ = false := by
  obtain ⟨b', y, e, _, _, hc, hf, _⟩ := h.poke hn hk
  simp at e
  subst e
  exact ⟨⟨y, hc⟩, hf⟩
theorem Own.slice1 {w : World} {base n c : Nat} {a : Option Addr} {l : List Int} (h : Own w base (.slice a n c) l) (hn : l.length = n) : Sl w a n c l := by
  obtain ⟨a', c', e, hs⟩ := h.sl' hn
  injection e with e1 _ e2
  subst e1 e2
  exact hs
theorem cell_1i (w : World) (x : Int) : ∀ j u, (cells [x])[j]? = some u → (w.alloc (.cells #[.int .i64 x] 3)).cell? ((⟨w.heap.size, 0, none⟩ : Addr).add j) = some u := by
  intro j u hu
  obtain ⟨hj, rfl⟩ := cells_get hu
  rw [Addr.add_lit, Nat.zero_add, cell_of_row _ _ _ _ 3 (0, 0) (heap_alloc_new w _)]
  simp at hj
  match j, hj with
  | 0, _ => rfl
theorem Own.row1 {w : World} {base n : Nat} {v : Value} {l : List Int} (h : Own w base v l) (hn : l.length = n) (h0 : 0 < n) : ∃ b cap, v = .slice (some ⟨b, 0, none⟩) n cap ∧ base ≤ b ∧ b < w.heap.size ∧ Sl w (some ⟨b, 0, none⟩) n cap l ∧ Own w base (.slice (some ⟨b, 0, none⟩) n cap) l := by
  obtain ⟨a, cap, rfl, hs⟩ := h.sl' hn
  obtain ⟨b, y, rfl, lo, lt, _⟩ := h.poke hn (k := 0) h0
  exact ⟨b, cap, rfl, lo, lt, hs, h⟩
section
variable {w wx wy : World} {ga gb bd ba bb : Nat} {x y : En} {cd ca cb M : Nat} {z : List Int}
theorem EC.below (h : EC w wx ga gb bd ba bb x y cd ca cb M z) (hb : Below wx.heap.size wx wy) : EC w wy ga gb bd ba bb x y cd ca cb M z :=
  ⟨h.lx, h.ly, h.lz, h.d.below hb, h.pa.below hb, h.pb.below hb, h.xa.next hb, h.xb.next hb, h.five, next h.bel hb⟩
theorem EC.wa (h : EC w wx ga gb bd ba bb x y cd ca cb M z) {k : Nat} (hk : k < M) (v : Int) : EC w (wx.setCell ⟨ba, k, none⟩ (.int .i64 v)) ga gb bd ba bb { x with z := x.z.set k v } y cd ca cb M z :=
  have f := h.five
  ⟨by simpa using h.lx, h.ly, h.lz, h.d.far1 f.n8, h.pa.set1 h.lx hk v, h.pb.far1 f.n10.symm, let t := h.xa.far (p := ⟨ba, k, none⟩) f.n3; ⟨t.c0, t.c1, t.c2, t.c3, t.c4, t.c5, t.fz, t.lt⟩, h.xb.far (p := ⟨ba, k, none⟩) f.n6, f, h.bel.setCell (p := ⟨ba, k, none⟩) f.l4 _⟩
theorem EC.wb (h : EC w wx ga gb bd ba bb x y cd ca cb M z) {k : Nat} (hk : k < M) (v : Int) : EC w (wx.setCell ⟨bb, k, none⟩ (.int .i64 v)) ga gb bd ba bb x { y with z := y.z.set k v } cd ca cb M z :=
  have f := h.five
  ⟨h.lx, by simpa using h.ly, h.lz, h.d.far1 f.n9, h.pa.far1 f.n10, h.pb.set1 h.ly hk v, h.xa.far (p := ⟨bb, k, none⟩) f.n4, let t := h.xb.far (p := ⟨bb, k, none⟩) f.n7; ⟨t.c0, t.c1, t.c2, t.c3, t.c4, t.c5, t.fz, t.lt⟩, f, h.bel.setCell (p := ⟨bb, k, none⟩) f.l5 _⟩
theorem EC.setA (h : EC w wx ga gb bd ba bb x y cd ca cb M z) (o : Nat) (u : Value) (x' : En) (hz : x'.z = x.z) (hx : Eb (wx.setCell ⟨ga, o, none⟩ u) ga 0 x' (.slice (some ⟨ba, 0, none⟩) M ca)) : EC w (wx.setCell ⟨ga, o, none⟩ u) ga gb bd ba bb x' y cd ca cb M z :=
  have f := h.five
  ⟨hz ▸ h.lx, h.ly, h.lz, h.d.far1 f.n2.symm, hz ▸ h.pa.far1 f.n3.symm, h.pb.far1 f.n4.symm, hx, h.xb.far (p := ⟨ga, o, none⟩) f.n1.symm, f, h.bel.setCell (p := ⟨ga, o, none⟩) f.l1 _⟩
theorem EC.setB (h : EC w wx ga gb bd ba bb x y cd ca cb M z) (o : Nat) (u : Value) (y' : En) (hz : y'.z = y.z) (hy : Eb (wx.setCell ⟨gb, o, none⟩ u) gb 0 y' (.slice (some ⟨bb, 0, none⟩) M cb)) : EC w (wx.setCell ⟨gb, o, none⟩ u) ga gb bd ba bb x y' cd ca cb M z :=
  have f := h.five
  ⟨h.lx, hz ▸ h.ly, h.lz, h.d.far1 f.n5.symm, h.pa.far1 f.n6.symm, hz ▸ h.pb.far1 f.n7.symm, h.xa.far (p := ⟨gb, o, none⟩) f.n1, hy, f, h.bel.setCell (p := ⟨gb, o, none⟩) f.l2 _⟩
theorem Own.keep1 {F : Nat → Prop} {w w' : World} {base g n c : Nat} {l : List Int} (h : Own w base (.slice (some ⟨g, 0, none⟩) n c) l) (hk : Keep F w w') (hF : ¬ F g) : Own w' base (.slice (some ⟨g, 0, none⟩) n c) l :=
  h.keep hk (fun j hj => by simp [Value.ownBlock] at hj; subst hj; exact hF)
theorem EC.keep {F : Nat → Prop} (h : EC w wx ga gb bd ba bb x y cd ca cb M z) (hk : Keep F wx wy) (hF : ¬ F ga ∧ ¬ F gb ∧ ¬ F bd ∧ ¬ F ba ∧ ¬ F bb) (hB : Below w.heap.size w wy) : EC w wy ga gb bd ba bb x y cd ca cb M z :=
  ⟨h.lx, h.ly, h.lz, h.d.keep1 hk hF.2.2.1, h.pa.keep1 hk hF.2.2.2.1, h.pb.keep1 hk hF.2.2.2.2, h.xa.keep hk hF.1, h.xb.keep hk hF.2.1, h.five, hB⟩
theorem Own.lt1 {w : World} {base g n c : Nat} {l : List Int} (h : Own w base (.slice (some ⟨g, 0, none⟩) n c) l) : g < w.heap.size := (h.lo _ rfl).2
theorem EC.lts (h : EC w wx ga gb bd ba bb x y cd ca cb M z) : ga < wx.heap.size ∧ gb < wx.heap.size ∧ bd < wx.heap.size ∧ ba < wx.heap.size ∧ bb < wx.heap.size :=
  ⟨h.xa.lt, h.xb.lt, h.d.lt1, h.pa.lt1, h.pb.lt1⟩
/-- A cell of another block is written. -/
theorem EC.far (h : EC w wx ga gb bd ba bb x y cd ca cb M z) {b k : Nat} {u : Value} (hb : ga < b ∧ gb < b ∧ bd < b ∧ ba < b ∧ bb < b) : EC w (wx.setCell ⟨b, k, none⟩ u) ga gb bd ba bb x y cd ca cb M z :=
  h.keep (Keep.one wx b k u) (by omega) (h.bel.setCell (p := ⟨b, k, none⟩) (by have := h.five.l1; show _ ≤ b; omega) u)
end
end Go.Proofs.Ytfobgkkmbacfjaa
