/- A directory, a configuration's numbers, and a map of rows of words beside them (WT). Conditions: as each theorem states them. -/
import Derived.Test.YtfobgkkmbacfjaaMdWk
namespace Go.Proofs.Ytfobgkkmbacfjaa
open Go.RowKit Go.Maps
set_option linter.unusedVariables false
set_option maxRecDepth 20000

structure WT (w wx : World) (g gc bw : Nat) (X E : Nat → Prop) (N L K : Nat) (Ld : List Hr) (Q : List (Hr × Value)) : Prop where
  mo : MO w wx g X N K Ld
  im : IM wx bw (kv hKey Prod.snd Q)
  dat : ∀ r ∈ Q, DatZ wx E r.1.z r.2
  xe : ∀ j, E j → X j
  xb : X bw
  xc : X gc
  nb : ¬ E bw ∧ ¬ E gc ∧ bw ≠ gc
  c0 : wx.cell? ⟨gc, 0, none⟩ = some (.int .i64 (N : Int))
  c1 : wx.cell? ⟨gc, 1, none⟩ = some (.int .i64 (L : Int))
  c2 : wx.cell? ⟨gc, 2, none⟩ = some (.int .i64 (K : Int))
  rise : RiseK hKey Q
  nw : ∀ j, X j → w.heap.size ≤ j
  len : Q.length ≤ 1000
section
variable {w wx wy : World} {g gc bw : Nat} {X E Y F : Nat → Prop} {N L K : Nat} {Ld Ld' : List Hr} {Q : List (Hr × Value)}
theorem WT.clt (h : WT w wx g gc bw X E N L K Ld Q) : gc < wx.heap.size := h.mo.xl _ h.xc
theorem WT.keep (h : WT w wx g gc bw X E N L K Ld Q) (hk : Keep F wx wy) (m : MO w wy g X N K Ld') (hF : ¬ F bw ∧ ¬ F gc ∧ ∀ j, E j → ¬ F j) : WT w wy g gc bw X E N L K Ld' Q :=
  have e := fun o => hk.cell (b := gc) o h.clt hF.2.1
  ⟨m, h.im.keep hk hF.1, fun r hr => (h.dat r hr).keep hk hF.2.2, h.xe, h.xb, h.xc, h.nb, (e _).trans h.c0, (e _).trans h.c1, (e _).trans h.c2, h.rise, h.nw, h.len⟩
theorem WT.below (h : WT w wx g gc bw X E N L K Ld Q) (hb : Below wx.heap.size wx wy) : WT w wy g gc bw X E N L K Ld Q := h.keep (F := fun _ => False) (Keep.of_below hb) (h.mo.below hb) ⟨id, id, fun _ _ h => h⟩
/-- After a call on the directory. -/
theorem WT.set (h : WT w wx g gc bw X E N L K Ld Q) (hk : Keep (NX w X) wx wy) (m : MO w wy g X N K Ld') : WT w wy g gc bw X E N L K Ld' Q := h.keep hk m ⟨fun hf => hf.2 h.xb, fun hf => hf.2 h.xc, fun j hj hf => hf.2 (h.xe j hj)⟩
/-- The test writes its own, but not the map, its rows or the configuration. -/
theorem WT.write (h : WT w wx g gc bw X E N L K Ld Q) (hk : Keep F wx wy) (hF : ∀ j, F j → w.heap.size ≤ j ∧ (X j ∨ wx.heap.size ≤ j) ∧ j ≠ bw ∧ j ≠ gc ∧ ¬ E j) : WT w wy g gc bw X E N L K Ld Q :=
  h.keep hk (h.mo.write hk (fun j hj => ⟨(hF j hj).1, (hF j hj).2.1⟩)) ⟨fun hf => (hF _ hf).2.2.1 rfl, fun hf => (hF _ hf).2.2.2.1 rfl, fun j hj hf => (hF j hf).2.2.2.2 hj⟩
/-- The test has more of its own, all new. -/
theorem WT.grow (h : WT w wx g gc bw X E N L K Ld Q) (hb : Below wx.heap.size wx wy) (hY : ∀ j, Y j → wx.heap.size ≤ j ∧ j < wy.heap.size) : WT w wy g gc bw (fun j => X j ∨ Y j) E N L K Ld Q := by
  have hk := Keep.of_below (F := fun _ => False) hb
  have e := fun o => hk.cell (b := gc) o h.clt id
  refine ⟨h.mo.grow hb (fun j hj => ?_), h.im.below hb, fun r hr => (h.dat r hr).below hb, fun j hj => .inl (h.xe j hj), .inl h.xb, .inl h.xc, h.nb, (e _).trans h.c0, (e _).trans h.c1, (e _).trans h.c2, h.rise, fun j hj => ?_, h.len⟩
  · rcases hj with hj | hj
    · exact ⟨.inl hj, Nat.lt_of_lt_of_le (h.mo.xl j hj) hb.size⟩
    · exact ⟨.inr (hY j hj).1, (hY j hj).2⟩
  · rcases hj with hj | hj
    · exact h.nw j hj
    · exact Nat.le_trans h.mo.bel.size (hY j hj).1
/-- A row of words is stored; its words lie in blocks of Y, which are the test's. -/
theorem WT.store {n : Int} {z : List Int} {v : Value} (h : WT w wx g gc bw X E N L K Ld Q) (hn : In64 n) (hd : DatZ wx Y z v) (hY : ∀ j, Y j → X j ∧ j ≠ bw ∧ j ≠ gc) (hl : (putK hKey ((⟨n, 0, 0, z⟩ : Hr), v) Q).length ≤ 1000) :
    ∃ w', (Instr.mapUpdate 85 (.map (some bw)) (.int .i64 n) v).run Try.prog wx = .ok () w' ∧ WT w w' g gc bw X (fun j => E j ∨ Y j) N L K Ld (putK hKey ((⟨n, 0, 0, z⟩ : Hr), v) Q) ∧ Keep (fun j => j = bw) wx w' ∧ w'.heap.size = wx.heap.size := by
  obtain ⟨w', hrun, im, ht⟩ := h.im.store Try.underlying85 (by rw [kv_len]; have := h.len; unfold maxLen; omega) hn v
  have hk := turned_keep ht
  have e := fun o => hk.cell (b := gc) o h.clt (fun e => h.nb.2.2 e.symm)
  refine ⟨w', hrun, ⟨h.mo.write hk (fun j hj => hj ▸ ⟨h.nw _ h.xb, .inl h.xb⟩), kv_put (key := hKey) (val := Prod.snd) ((⟨n, 0, 0, z⟩ : Hr), v) Q ▸ im, fun q hq => ?_, fun j hj => hj.elim (h.xe j) (fun hy => (hY j hy).1), h.xb, h.xc, ⟨fun hj => hj.elim h.nb.1 (fun hy => (hY _ hy).2.1 rfl), fun hj => hj.elim h.nb.2.1 (fun hy => (hY _ hy).2.2 rfl), h.nb.2.2⟩, (e _).trans h.c0, (e _).trans h.c1, (e _).trans h.c2, rise_put h.rise, h.nw, hl⟩, hk, turned_size ht⟩
  rcases mem_putK.1 hq with rfl | ⟨hq, _⟩
  · exact (hd.keep hk (fun j hj e => (hY j hj).2.1 e)).imp (fun j _ hj => .inr hj)
  · exact ((h.dat q hq).keep hk (fun j hj e => h.nb.1 (e ▸ hj))).imp (fun j _ hj => .inl hj)
/-- A new row of words is stored. -/
theorem WT.copyIn {n : Int} {z : List Int} {a : Option Addr} {m c : Nat} (h : WT w wx g gc bw X E N L K Ld Q) (hb : Below wx.heap.size wx wy) (own : Own wy wx.heap.size (.slice a m c) z) (hm : m ≤ 1000000) (hn : In64 n) (hl : (putK hKey ((⟨n, 0, 0, z⟩ : Hr), .slice a m c) Q).length ≤ 1000) :
    ∃ w' X' E', (Instr.mapUpdate 85 (.map (some bw)) (.int .i64 n) (.slice a m c)).run Try.prog wy = .ok () w' ∧ WT w w' g gc bw X' E' N L K Ld (putK hKey ((⟨n, 0, 0, z⟩ : Hr), .slice a m c) Q) ∧ Keep (fun j => j = bw) wy w' ∧ w'.heap.size = wy.heap.size ∧ (∀ j, X j → X' j) ∧ ∀ j, E' j → E j ∨ wx.heap.size ≤ j := by
  have hlo := own.lo
  have hbw := h.mo.xl _ h.xb
  have hgc := h.mo.xl _ h.xc
  obtain ⟨w', h1, h2, h3, h4⟩ := (h.grow (Y := fun j => ∃ y : Addr, a = some y ∧ j = y.block) hb (fun j hj => by obtain ⟨y, hy, rfl⟩ := hj; exact hlo y hy)).store (Y := fun j => ∃ y : Addr, a = some y ∧ j = y.block) hn
    (show DatZ wy _ z (.slice a m c) from ⟨a, m, c, rfl, own_sl own, by omega, fun _ y hy => ⟨y, hy, rfl⟩⟩) (fun j hj => ⟨.inr hj, by obtain ⟨y, hy, rfl⟩ := hj; have := (hlo y hy).1; omega, by obtain ⟨y, hy, rfl⟩ := hj; have := (hlo y hy).1; omega⟩) hl
  exact ⟨w', _, _, h1, h2, h3, h4, fun j hj => .inl hj, fun j hj => hj.imp id (fun hy => by obtain ⟨y, hy, rfl⟩ := hy; exact (hlo y hy).1)⟩
end
@[reducible] def pzR (r : Hr × Value) : Int × List Int := (r.1.n, r.1.z)
@[reducible] def pzH (x : Hr) : Int × List Int := (x.n, x.z)
theorem pz_put (r : Hr × Value) (Q : List (Hr × Value)) : (putK hKey r Q).map pzR = putK Prod.fst (pzR r) (Q.map pzR) := map_putK (key := hKey) (key' := Prod.fst) (fun _ => rfl) r Q
theorem pz_putH (x : Hr) (L : List Hr) : (putK hOf x L).map pzH = putK Prod.fst (pzH x) (L.map pzH) := map_putK (key := hOf) (key' := Prod.fst) (fun _ => rfl) x L
/-- What is there is put there again: nothing else is. -/
theorem putK_same {α : Type} {key : α → Int} {l : List α} (h : RiseK key l) {a : α} (ha : a ∈ l) : putK key a l = l := by
  refine rise_ext (rise_put h) h (fun q => ?_)
  rw [mem_putK]
  constructor
  · rintro (rfl | ⟨hq, _⟩)
    · exact ha
    · exact hq
  · intro hq
    by_cases e : key q = key a
    · exact .inl (rise_inj h hq ha e)
    · exact .inr ⟨hq, e⟩
theorem riseH {L : List Hr} (h : RiseK hOf L) : RiseK Prod.fst (L.map pzH) := by unfold RiseK at *; rw [List.pairwise_map]; exact h
/-- The keys of a list are those that they were when what has one of them is put there. -/
theorem keys_put {L : List Hr} (h : RiseK hOf L) {x : Hr} (hx : hasH L x.n = true) : (putK hOf x L).map hOf = L.map hOf := by
  have e : (putK hOf x L).map hOf = putK id x.n (L.map hOf) := map_putK (key := hOf) (key' := id) (fun _ => rfl) x L
  rw [e]
  obtain ⟨h1, h2⟩ := hasH_mem hx
  refine putK_same (key := id) (by unfold RiseK at *; rw [List.pairwise_map]; exact h) (List.mem_map.2 ⟨_, h1, h2⟩)
theorem hasH_keys {L L' : List Hr} (h : L.map hOf = L'.map hOf) (n : Int) : hasH L n = hasH L' n := by
  have : ∀ M : List Hr, hasH M n = (M.map hOf).any (fun q => decide (q = n)) := fun M => by
    unfold hasH getK
    rw [List.any_map, Bool.eq_iff_iff, List.find?_isSome, List.any_eq_true]
    rfl
  rw [this, this, h]
/-- The rows of both are the same when the directory's row is set without words. -/
theorem pz_keep {L : List Hr} (h : RiseK hOf L) {n s hd : Int} (hh : hasH L n = true) : (putK hOf ⟨n, s, hd, (rowL L n).z⟩ L).map pzH = L.map pzH := by
  rw [pz_putH]
  obtain ⟨h1, h2⟩ := hasH_mem hh
  refine putK_same (riseH h) (List.mem_map.2 ⟨_, h1, ?_⟩)
  show ((rowL L n).n, (rowL L n).z) = (n, (rowL L n).z)
  rw [h2]
/-- An entry of a map of values, as the loop over it finds it. -/
theorem im_entry {l : List (Int × Value)} {x : Int} {v : Value} (h : ∀ zd : DataW Value, (DataW.map (pairsD l)).atKey (.int .i64 x) zd = .held v) : ∃ p ∈ l, p.1 = x ∧ p.2 = v := by
  have h1 := h (.map [])
  rw [pairs_get] at h1
  cases hg : getK Prod.fst x l with
  | none => rw [hg] at h1; cases h1
  | some p =>
    rw [hg] at h1
    obtain ⟨m1, m2⟩ := getK_some hg
    exact ⟨p, m1, m2, DataW.held.inj h1⟩
theorem rise_take {α : Type} {key : α → Int} {l : List α} (h : RiseK key l) {i : Nat} {a : α} (hi : l[i]? = some a) : putK key a (l.take i) = l.take (i + 1) := by
  have hl : i < l.length := (List.getElem?_eq_some_iff.1 hi).1
  rw [putK_last (fun q hq => ?_), List.take_succ_eq_append_getElem hl]
  · congr 2
    rw [List.getElem?_eq_getElem hl] at hi
    exact (Option.some.inj hi).symm
  · obtain ⟨j, hj, rfl⟩ := List.getElem_of_mem hq
    rw [List.length_take] at hj
    rw [List.getElem_take]
    rw [List.getElem?_eq_getElem hl] at hi
    rw [← Option.some.inj hi]
    exact List.pairwise_iff_getElem.1 h j i (by omega) hl (by omega)
theorem Keep.toGrown {F : Nat → Prop} {w w' : World} (h : Keep F w w') (hF : ∀ j, j < w.heap.size → ¬ F j) : w.grownBy w' none := ⟨h.os, h.tape, h.output, h.size, fun i hi _ => h.block i hi (hF i hi)⟩
end Go.Proofs.Ytfobgkkmbacfjaa
