/- The document's Grant. Conditions: as each theorem states them.
The document's Handle and Grant, on plain data, each in one. Conditions: as each theorem states them.
The program's Handle and Grant in the document's words. Conditions: as each theorem states them.
A home and the document's homes beside each other (BH), and what the test has of its own (Z). Conditions: as each theorem states them.
Chapter 11's Same of a home and the document's homes. Conditions: as each theorem states them.
The contract of chapletplay.Packet: a packet by small numbers. Conditions: as stated. -/
import Derived.Test.YtgeiagndpfdnlaaPart9
import Derived.Test.YtgeiagndpfdnlaaPart8
import Derived.Test.YtgeiagndpfdnlaaPart7
import Derived.Test.YtgeiagndpfdnlaaPart1
import Derived.Deep.CutBlock
section
namespace Go.Proofs.Ytgeiagndpfdnlaa
open Go.RowKit Go.Maps
set_option linter.unusedVariables false
set_option maxRecDepth 20000

section
variable {w : World} {g m N L K : Nat} {A : Nat → Prop} {node : Int} {DL : List Hr} {o : List (Int × Int)} {q : List Wr}
theorem hd_ready_new (h : HD w g A m N L K node DL o q) (hm : m ≤ 1000) : Calls Try.prog 36 #[.pointer (some ⟨g, 10, none⟩)] w fun e w' => ∃ a k cap, e = .returned (.slice a k cap) ∧ Rw w' (fun j => w.heap.size ≤ j) a k cap 1 (cells (readyT o q)) ∧ Below w.heap.size w w' := by
  obtain ⟨M, D, R, ra, rc, M2, N2, ao, no, co, aq, nq, cq, dh, e, dt, _⟩ := h
  exact TR.ready_new dt (by omega)
set_option maxHeartbeats 800000 in
theorem dgrant_no (h : HD w g A m N L K node DL o q) (hm : m ≤ 1000) (hr : readyT o q = []) :
    Calls Try.prog 17 #[.pointer (some ⟨g, 0, none⟩)] w fun e w' => e = .returned (.tuple #[zeroPk.val (.slice none 0 0), .bool false]) ∧ Below w.heap.size w w' := by
  go_enter Try.func17, Try.ntmps17
  go_upto_region 1 with fail
  have hB : Below w.heap.size w (w.alloc (.cells #[.int .i64 0, .int .i64 0, .int .i64 0, .int .i64 0, .int .i64 0, .int .i64 0, .int .i64 0, .bool false, .slice none 0 0] 32)) := ba (Below.refl _ _)
  have bxr : Bx (w.alloc (.cells #[.int .i64 0, .int .i64 0, .int .i64 0, .int .i64 0, .int .i64 0, .int .i64 0, .int .i64 0, .bool false, .slice none 0 0] 32)) w.heap.size zeroPk (.slice none 0 0) := Bx.made w zeroPk (.slice none 0 0)
  have h1 := h.below hB
  have HA : Hid (∀ j, A j → j < w.heap.size) := h.old
  clear h
  generalize World.alloc _ (.cells #[.int .i64 0, .int .i64 0, .int .i64 0, .int .i64 0, .int .i64 0, .int .i64 0, .int .i64 0, .bool false, .slice none 0 0] 32) = W at *
  obtain ⟨c0, c8, lt⟩ := h1.cells
  go_upto_region 3 with (go_at_call 36; refine (hd_ready h1 hm).mono ?_; rintro e V ⟨a, k, cap, rfl, sl, b⟩; rw [hr] at sl; have hk : k = 0 := sl.len.symm; subst hk)
  have br2 := bxr.next b
  have hB2 := next hB b
  clear bxr hB b h1 sl c0 c8 lt
  obtain ⟨r0, r1, r2, r3, r4, r5, r6, r7, r8, rf, rl⟩ := id br2
  have f0 := rf 0
  go_wp2
  refine bodyPost_ret (v := .tuple #[Pk.val zeroPk (.slice none 0 0), .bool false]) (by simp [results, Try.results17, go_sem, *, zeroPk]) rfl ⟨rfl, far9 (g := w.heap.size) (y := zeroPk) (v := .slice none 0 0) (W := V) (P := fun V => Below w.heap.size w V) (fun V o u h => h.setCell (by simp) u) hB2⟩
set_option maxHeartbeats 1600000 in
theorem dgrant_ok (h : HD w g A m N L K node DL o q) (hL : L ≤ 8) (hm : m < 1000) {l v d : Int} {rest : List Int} (hr : readyT o q = l :: rest) (hnx : nextW q l = some ⟨l, v, d⟩) (hv : 0 ≤ v) (hh : hereI N L node l = true) (ho : ownT o l = -1) :
    Calls Try.prog 17 #[.pointer (some ⟨g, 0, none⟩)] w fun e w' => ∃ dd, e = .returned (.tuple #[(grantP node v d l DL).val dd, .bool true]) ∧ DatZ w' (fun k => w.heap.size ≤ k) (grantP node v d l DL).z dd ∧ Keep A w w' ∧ ∃ A', (∀ j, A' j → A j ∨ w.heap.size ≤ j) ∧ (∀ j, A j → A' j) ∧ HD w' g A' (m + 1) N L K node DL (o ++ [(l, v)]) (nextQ q l) := by
  have HR : Hid (readyT o q = l :: rest) := hr
  have HN : Hid (nextW q l = some ⟨l, v, d⟩) := hnx
  have HH : Hid (hereI N L node l = true) := hh
  have HO : Hid (ownT o l = -1) := ho
  clear hr hnx hh ho
  go_enter Try.func17, Try.ntmps17
  go_upto_region 1 with fail
  have hB : Below w.heap.size w (w.alloc (.cells #[.int .i64 0, .int .i64 0, .int .i64 0, .int .i64 0, .int .i64 0, .int .i64 0, .int .i64 0, .bool false, .slice none 0 0] 32)) := ba (Below.refl _ _)
  have bxr : Bx (w.alloc (.cells #[.int .i64 0, .int .i64 0, .int .i64 0, .int .i64 0, .int .i64 0, .int .i64 0, .int .i64 0, .bool false, .slice none 0 0] 32)) w.heap.size zeroPk (.slice none 0 0) := Bx.made w zeroPk (.slice none 0 0)
  have h1 := h.below hB
  have HA : Hid (∀ j, A j → j < w.heap.size) := h.old
  clear h
  generalize World.alloc _ (.cells #[.int .i64 0, .int .i64 0, .int .i64 0, .int .i64 0, .int .i64 0, .int .i64 0, .int .i64 0, .bool false, .slice none 0 0] 32) = W at *
  obtain ⟨c0, c8, lt⟩ := h1.cells
  go_upto_region 4 with (go_at_call 36; refine (hd_ready_new h1 (by omega)).mono ?_; rintro e V ⟨a, k, cap, rfl, rw0, b⟩; rw [HR.out] at rw0; have sl := slv_cells rw0.slv; have hk0 : ((k : Int) == 0) = false := (by have := sl.len; simp at this; simp; omega))
  have br2 := bxr.next b
  have h2 := h1.below b
  have hB2 := next hB b
  clear bxr h1 c0 c8 lt
  have hkp : 0 < k := by have := sl.len; simp at this; omega
  obtain ⟨b0, o0, ea, hb0, hc0⟩ := sl.at (k := 0) (by omega)
  subst ea
  have HNB : Hid (w.heap.size ≤ b0) := by
    rcases rw0.row with h0 | ⟨b', o', e, hm', _⟩
    · have := rw0.le; omega
    · injection e with e; injection e with e _; subst e; exact Nat.le_trans hB.size hm'
  clear rw0
  clear hB b
  have hc1 : V.cell? ⟨b0, o0, none⟩ = some (.int .i64 l) := hc0
  clear hc0
  refine wp_region_orders 14 rfl (by kernel_rfl) ?_
  have Bd : Below V.heap.size V V.drew := (Below.refl _ _).drew
  have br3 := br2.next Bd
  have h3 := h2.below Bd
  have hB3 := next hB2 Bd
  have hI : (fun V => V.cell? ⟨b0, o0, none⟩ = some (.int .i64 l)) V.drew := (Bd.cell (p := ⟨b0, o0, none⟩) hb0).trans hc1
  have hb3 : b0 < V.drew.heap.size := Nat.lt_of_lt_of_le hb0 Bd.size
  have hlo : w.heap.size < V.drew.heap.size := br3.lt
  clear br2 h2 hB2 Bd hb0 hc1 sl
  generalize V.drew = V3 at *
  clear V
  refine any_inv (fun V => V.cell? ⟨b0, o0, none⟩ = some (.int .i64 l)) [13] hI ?_
  refine inv_take (v := ?v19) [1, 2, 6, 7, 8, 9, 10, 11, 12, 13] 0 hI rfl (by kernel_rfl) (by kernel_rfl) (by kernel_rfl) (by kernel_rfl) (by kernel_rfl) (fun _ _ _ h => h) (by kernel_rfl) (fun V hV => ?hy19) ?go19
  case hy19 => (have i0 := hV; go_simp <;> rfl)
  simp only [Act.put, List.setIfInBounds_toArray, List.set_cons_zero, List.set_cons_succ]
  refine inv_take (v := ?v20) [2, 6, 7, 8, 9, 10, 11, 12, 13] 1 hI rfl (by kernel_rfl) (by kernel_rfl) (by kernel_rfl) (by kernel_rfl) (by kernel_rfl) (fun _ _ _ h => h) (by kernel_rfl) (fun V hV => ?hy20) ?go20
  case hy20 => (have i0 := hV; go_simp <;> rfl)
  simp only [Act.put, List.setIfInBounds_toArray, List.set_cons_zero, List.set_cons_succ]
  refine inv_take (v := ?v21) [6, 7, 8, 9, 10, 11, 12, 13] 2 hI rfl (by kernel_rfl) (by kernel_rfl) (by kernel_rfl) (by kernel_rfl) (by kernel_rfl) (fun _ _ _ h => h) (by kernel_rfl) (fun V hV => ?hy21) ?go21
  case hy21 => (have i0 := hV; go_simp <;> rfl)
  simp only [Act.put, List.setIfInBounds_toArray, List.set_cons_zero, List.set_cons_succ]
  refine inv_take (v := ?v22) [4, 5, 6, 7, 8, 9, 10, 11, 12, 13] 3 hI rfl (by kernel_rfl) (by kernel_rfl) (by kernel_rfl) (by kernel_rfl) (by kernel_rfl) (fun _ _ _ h => h) (by kernel_rfl) (fun V hV => ?hy22) ?go22
  case hy22 => (have i0 := hV; go_simp <;> rfl)
  simp only [Act.put, List.setIfInBounds_toArray, List.set_cons_zero, List.set_cons_succ]
  refine inv_take (v := ?v23) [5, 6, 7, 8, 9, 10, 11, 12, 13] 4 hI rfl (by kernel_rfl) (by kernel_rfl) (by kernel_rfl) (by kernel_rfl) (by kernel_rfl) (fun _ _ _ h => h) (by kernel_rfl) (fun V hV => ?hy23) ?go23
  case hy23 => (have i0 := hV; go_simp <;> rfl)
  simp only [Act.put, List.setIfInBounds_toArray, List.set_cons_zero, List.set_cons_succ]
  refine inv_take (v := ?v24) [6, 7, 8, 9, 10, 11, 12, 13] 5 hI rfl (by kernel_rfl) (by kernel_rfl) (by kernel_rfl) (by kernel_rfl) (by kernel_rfl) (fun _ _ _ h => h) (by kernel_rfl) (fun V hV => ?hy24) ?go24
  case hy24 => (have i0 := hV; go_simp <;> rfl)
  simp only [Act.put, List.setIfInBounds_toArray, List.set_cons_zero, List.set_cons_succ]
  refine inv_list 6 (by kernel_rfl) rfl ?_
  go_wp2_with (go_at_call 37; refine (hd_next h3 HO.out hv HN.out (by omega)).mono ?_; rintro e V4 ⟨rfl, hk4, A', hA1, hA2, h5⟩)
  have hbl : ¬ A b0 := fun h => by have := HA.out _ h; have := HNB.out; omega
  have hI4 : (fun V => V.cell? ⟨b0, o0, none⟩ = some (.int .i64 l)) V4 := (hk4.cell o0 hb3 hbl).trans hI
  refine then_n ⟨hI4, ?_⟩
  try simp only [Act.put, List.setIfInBounds_toArray, List.set_cons_zero, List.set_cons_succ]
  refine inv_take (v := ?v25) [8, 9, 10, 11, 12, 13] 7 hI4 rfl (by kernel_rfl) (by kernel_rfl) (by kernel_rfl) (by kernel_rfl) (by kernel_rfl) (fun _ _ _ h => h) (by kernel_rfl) (fun V hV => ?hy25) ?go25
  case hy25 => (have i0 := hV; go_simp <;> rfl)
  simp only [Act.put, List.setIfInBounds_toArray, List.set_cons_zero, List.set_cons_succ]
  refine inv_take (v := ?v26) [11, 12, 13] 8 hI4 rfl (by kernel_rfl) (by kernel_rfl) (by kernel_rfl) (by kernel_rfl) (by kernel_rfl) (fun _ _ _ h => h) (by kernel_rfl) (fun V hV => ?hy26) ?go26
  case hy26 => (have i0 := hV; go_simp <;> rfl)
  simp only [Act.put, List.setIfInBounds_toArray, List.set_cons_zero, List.set_cons_succ]
  refine inv_take (v := ?v27) [12, 13] 9 hI4 rfl (by kernel_rfl) (by kernel_rfl) (by kernel_rfl) (by kernel_rfl) (by kernel_rfl) (fun _ _ _ h => h) (by kernel_rfl) (fun V hV => ?hy27) ?go27
  case hy27 => (have i0 := hV; go_simp <;> rfl)
  simp only [Act.put, List.setIfInBounds_toArray, List.set_cons_zero, List.set_cons_succ]
  refine inv_take (v := ?v28) [13] 10 hI4 rfl (by kernel_rfl) (by kernel_rfl) (by kernel_rfl) (by kernel_rfl) (by kernel_rfl) (fun _ _ _ h => h) (by kernel_rfl) (fun V hV => ?hy28) ?go28
  case hy28 => (have i0 := hV; go_simp <;> rfl)
  simp only [Act.put, List.setIfInBounds_toArray, List.set_cons_zero, List.set_cons_succ]
  refine inv_take (v := ?v29) [12, 13] 11 hI4 rfl (by kernel_rfl) (by kernel_rfl) (by kernel_rfl) (by kernel_rfl) (by kernel_rfl) (fun _ _ _ h => h) (by kernel_rfl) (fun V hV => ?hy29) ?go29
  case hy29 => (have i0 := hV; go_simp <;> rfl)
  simp only [Act.put, List.setIfInBounds_toArray, List.set_cons_zero, List.set_cons_succ]
  refine inv_take (v := ?v30) [13] 12 hI4 rfl (by kernel_rfl) (by kernel_rfl) (by kernel_rfl) (by kernel_rfl) (by kernel_rfl) (fun _ _ _ h => h) (by kernel_rfl) (fun V hV => ?hy30) ?go30
  case hy30 => (have i0 := hV; go_simp <;> rfl)
  simp only [Act.put, List.setIfInBounds_toArray, List.set_cons_zero, List.set_cons_succ]
  refine inv_write 13 (by kernel_rfl) (by kernel_rfl) rfl ?_
  go_wp2_with fail
  refine then_n ?_
  refine any_done (by kernel_rfl) ?_
  have hgA : ∀ j, w.heap.size ≤ j → j < V3.heap.size → ¬ A' j := fun j hj1 hj2 ha => (hA1 j ha).elim (fun h => by have := HA.out j h; omega) (fun h => by omega)
  have br5 := br3.keep hk4 (fun h => by have := HA.out _ h; omega)
  have hK5 : Keep A w V4 := (Keep.of_below (F := A) hB3).trans hk4 (fun j _ h => h)
  have hsz : V3.heap.size ≤ V4.heap.size := hk4.size
  obtain ⟨P, hP⟩ : ∃ P, grantP node v d l DL = P := ⟨_, rfl⟩
  have hc4 : V4.cell? ⟨b0, o0, none⟩ = some (.int .i64 l) := hI4
  clear hI hI4 hk4 br3 h3 hB3
  go_wp2_with (go_at_call 38; refine (hd_granted h5 hL HH.out v d).mono ?_; rw [hP]; rintro e V5 ⟨dd, rfl, hd5, b5⟩; obtain ⟨a5, n5, c5, ed, _⟩ := id hd5; subst ed; have br6 := br5.next b5; obtain ⟨r0, r1, r2, r3, r4, r5, r6, r7, r8, rf, rl⟩ := id br6; have f0 := rf 0)
  have hkk : Keep (fun k => k = w.heap.size) V5 _ := far9 (g := w.heap.size) (y := P) (v := .slice a5 n5 c5) (W := V5) (P := fun V => Keep (fun k => k = w.heap.size) V5 V) (fun V o u h => h.setCell (.inl rfl) u) (Keep.refl _ _)
  refine bodyPost_ret (v := .tuple #[Pk.val P (.slice a5 n5 c5), .bool true]) (by simp [results, Try.results17, go_sem, *]) rfl ⟨_, by rw [hP], by rw [hP]; exact (hd5.keep hkk (fun j hj e => by omega)).imp (fun j _ hj => by omega), ?_, A', ?_, hA2, (h5.below b5).keep hkk (fun j hj e => hgA j (by omega) (by omega) hj)⟩
  · exact (hK5.trans (Keep.of_below (F := fun _ => False) b5) (fun j _ h => h.elim)).trans hkk (fun j hj e => by omega)
  · exact fun j hj => (hA1 j hj).imp id (fun h => by omega)
end
end Go.Proofs.Ytgeiagndpfdnlaa
end
section
namespace Go.Proofs.Ytgeiagndpfdnlaa
open Go.RowKit Go.Maps
set_option linter.unusedVariables false
set_option maxRecDepth 20000

/-- The data that an Unlock sets. -/
def unlZ (x : Pk) : List Int := if x.fl = true then x.z else []
/-- What a request is answered; its rows, who has which line, who waits then. -/
def hdlR (N L K : Nat) (node : Int) (DL : List Hr) (o : List (Int × Int)) (q : List Wr) (x : Pk) : Pk × Bool × Int :=
  if takenP N node x = true then
    if hereI N L node x.l = true then
      if x.k = 1 then (if askB o q x.l = true then (grantP node x.f x.i x.l DL, true, 0) else (zeroPk, false, 0))
      else if ownT o x.l = x.f then
        (if (setD N L K node DL x.l x.s x.p (unlZ x)).1 = 0 then (⟨8, node, x.f, x.i, x.l, 0, 0, false, []⟩, true, 0) else (zeroPk, false, (setD N L K node DL x.l x.s x.p (unlZ x)).1))
      else (zeroPk, false, 6)
    else (zeroPk, false, 3)
  else (zeroPk, false, 1)
/-- A request that asks for a line, and one that lets its own go. -/
def asksP (N L : Nat) (node : Int) (x : Pk) : Prop := takenP N node x = true ∧ hereI N L node x.l = true ∧ x.k = 1
def letsP (N L : Nat) (node : Int) (o : List (Int × Int)) (x : Pk) : Prop := takenP N node x = true ∧ hereI N L node x.l = true ∧ x.k ≠ 1 ∧ ownT o x.l = x.f
instance (N L : Nat) (node : Int) (x : Pk) : Decidable (asksP N L node x) := by unfold asksP; infer_instance
instance (N L : Nat) (node : Int) (o : List (Int × Int)) (x : Pk) : Decidable (letsP N L node o x) := by unfold letsP; infer_instance
def hdlD (N L K : Nat) (node : Int) (DL : List Hr) (o : List (Int × Int)) (x : Pk) : List Hr := if letsP N L node o x then (setD N L K node DL x.l x.s x.p (unlZ x)).2 else DL
def hdlO (N L K : Nat) (node : Int) (DL : List Hr) (o : List (Int × Int)) (q : List Wr) (x : Pk) : List (Int × Int) :=
  if asksP N L node x then askO o q x.l x.f else if letsP N L node o x ∧ (setD N L K node DL x.l x.s x.p (unlZ x)).1 = 0 then relO o x.l else o
def hdlQ (N L : Nat) (node : Int) (o : List (Int × Int)) (q : List Wr) (x : Pk) : List Wr := if asksP N L node x then askQ o q x.l x.f x.i else q
section
variable {w : World} {g m N L K : Nat} {A : Nat → Prop} {node : Int} {DL : List Hr} {o : List (Int × Int)} {q : List Wr}
theorem datz_nil (w : World) (D : Nat → Prop) : DatZ w D zeroPk.z (.slice none 0 0) := ⟨none, 0, 0, rfl, sl_nil _, by omega, fun h => absurd rfl h⟩
theorem dhandle_any (h : HD w g A m N L K node DL o q) (hN : 1 ≤ N) (hL : L ≤ 8) (hm : m < 1000) (x : Pk) (a : Option Addr) (n c : Nat) (hsl : Sl w a n c x.z) :
    Calls Try.prog 22 #[.pointer (some ⟨g, 0, none⟩), x.val (.slice a n c)] w fun e w' => ∃ d, e = .returned (.tuple #[(hdlR N L K node DL o q x).1.val d, .bool (hdlR N L K node DL o q x).2.1, .int .i64 (hdlR N L K node DL o q x).2.2]) ∧ DatZ w' (fun k => w.heap.size ≤ k) (hdlR N L K node DL o q x).1.z d ∧
      Keep A w w' ∧ ∃ A', (∀ j, A' j → A j ∨ w.heap.size ≤ j) ∧ (∀ j, A j → A' j) ∧ HD w' g A' (m + 1) N L K node (hdlD N L K node DL o x) (hdlO N L K node DL o q x) (hdlQ N L node o q x) := by
  have same : ∀ {w' : World} {b : Bool} {e2 : Int}, hdlR N L K node DL o q x = (zeroPk, b, e2) → Below w.heap.size w w' → hdlD N L K node DL o x = DL → hdlO N L K node DL o q x = o → hdlQ N L node o q x = q →
      ∃ d, Ending.returned (.tuple #[zeroPk.val (.slice none 0 0), .bool b, .int .i64 e2]) = .returned (.tuple #[(hdlR N L K node DL o q x).1.val d, .bool (hdlR N L K node DL o q x).2.1, .int .i64 (hdlR N L K node DL o q x).2.2]) ∧ DatZ w' (fun k => w.heap.size ≤ k) (hdlR N L K node DL o q x).1.z d ∧
        Keep A w w' ∧ ∃ A', (∀ j, A' j → A j ∨ w.heap.size ≤ j) ∧ (∀ j, A j → A' j) ∧ HD w' g A' (m + 1) N L K node (hdlD N L K node DL o x) (hdlO N L K node DL o q x) (hdlQ N L node o q x) := by
    intro w' b e2 e hb e3 e4 e5
    rw [e, e3, e4, e5]
    exact ⟨_, rfl, datz_nil _ _, Keep.of_below hb, A, fun j hj => .inl hj, fun j hj => hj, (h.below hb).more (by omega)⟩
  by_cases ht : takenP N node x = true
  · have hr : x.right = true ∧ x.t = node ∧ x.f < (N : Int) ∧ (x.k = 1 ∨ x.k = 2) := by
      unfold takenP at ht
      rw [Bool.and_eq_true] at ht
      exact ⟨ht.1, of_decide_eq_true ht.2⟩
    obtain ⟨hr, h1, h2, h3⟩ := hr
    have hf0 : 0 ≤ x.f := ((Pk.right_iff x).1 hr).f.1
    cases hh : hereI N L node x.l with
    | false =>
      have n1 : ¬ asksP N L node x := fun e => by rw [e.2.1] at hh; cases hh
      have n2 : ¬ letsP N L node o x := fun e => by rw [e.2.1] at hh; cases hh
      have eR : hdlR N L K node DL o q x = (zeroPk, false, 3) := by unfold hdlR; rw [if_pos ht, if_neg (by rw [hh]; simp)]
      have fin := fun w' (hb : Below w.heap.size w w') => same eR hb (if_neg n2) (by unfold hdlO; rw [if_neg n1, if_neg (fun e => n2 e.1)]) (if_neg n1)
      rcases h3 with h3 | h3
      · refine (dh_none1 h hN x a n c hsl hr h1 h2 h3 hh).mono ?_
        rintro e w' ⟨rfl, hb⟩
        exact fin w' hb
      · refine (dh_none2 h hN x a n c hsl hr h1 h2 h3 hh).mono ?_
        rintro e w' ⟨rfl, hb⟩
        exact fin w' hb
    | true =>
      rcases h3 with h3 | h3
      · have y1 : asksP N L node x := ⟨ht, hh, h3⟩
        have n2 : ¬ letsP N L node o x := fun e => e.2.2.1 h3
        have eD : hdlD N L K node DL o x = DL := if_neg n2
        have eO : hdlO N L K node DL o q x = askO o q x.l x.f := if_pos y1
        have eQ : hdlQ N L node o q x = askQ o q x.l x.f x.i := if_pos y1
        rw [eD, eO, eQ]
        cases hb : askB o q x.l with
        | true =>
          have eR : hdlR N L K node DL o q x = (grantP node x.f x.i x.l DL, true, 0) := by unfold hdlR; rw [if_pos ht, if_pos hh, if_pos h3, if_pos hb]
          rw [eR]
          refine (dh_lock_true h hN hL hm x a n c hsl hr h1 h2 h3 hf0 hh hb).mono ?_
          rintro e w' ⟨d, rfl, r1, r2, A', r3, r4, r5⟩
          exact ⟨d, rfl, r1, r2, A', r3, r4, r5⟩
        | false =>
          have eR : hdlR N L K node DL o q x = (zeroPk, false, 0) := by unfold hdlR; rw [if_pos ht, if_pos hh, if_pos h3, if_neg (by rw [hb]; simp)]
          rw [eR]
          refine (dh_lock_false h hN hL hm x a n c hsl hr h1 h2 h3 hf0 hh hb).mono ?_
          rintro e w' ⟨rfl, r2, A', r3, r4, r5⟩
          exact ⟨_, rfl, datz_nil _ _, r2, A', r3, r4, r5⟩
      · have n1 : ¬ asksP N L node x := fun e => by have := e.2.2; omega
        have eQ : hdlQ N L node o q x = q := if_neg n1
        by_cases ho : ownT o x.l = x.f
        · have y2 : letsP N L node o x := ⟨ht, hh, by omega, ho⟩
          have eD : hdlD N L K node DL o x = (setD N L K node DL x.l x.s x.p (unlZ x)).2 := if_pos y2
          rw [eD, eQ]
          by_cases he : (setD N L K node DL x.l x.s x.p (unlZ x)).1 = 0
          · have eO : hdlO N L K node DL o q x = relO o x.l := by unfold hdlO; rw [if_neg n1, if_pos ⟨y2, he⟩]
            have eR : hdlR N L K node DL o q x = (⟨8, node, x.f, x.i, x.l, 0, 0, false, []⟩, true, 0) := by unfold hdlR; rw [if_pos ht, if_pos hh, if_neg (by omega), if_pos ho, if_pos he]
            rw [eO, eR]
            cases hfl : x.fl with
            | false =>
              have ez : unlZ x = [] := by unfold unlZ; rw [hfl]; rfl
              rw [ez] at he ⊢
              refine (dh_ok h hN hL (by omega) x a n c hsl hr h1 h2 h3 hh ho hf0 hfl he).mono ?_
              rintro e w' ⟨rfl, r2, A', r3, r4, r5⟩
              exact ⟨_, rfl, datz_nil _ _, r2, A', r3, r4, r5.more (by omega)⟩
            | true =>
              have ez : unlZ x = x.z := by unfold unlZ; rw [hfl]; rfl
              rw [ez] at he ⊢
              refine (dh_ok_f h hN hL (by omega) x a n c hsl hr h1 h2 h3 hh ho hf0 hfl he).mono ?_
              rintro e w' ⟨rfl, r2, A', r3, r4, r5⟩
              exact ⟨_, rfl, datz_nil _ _, r2, A', r3, r4, r5.more (by omega)⟩
          · have eO : hdlO N L K node DL o q x = o := by unfold hdlO; rw [if_neg n1, if_neg (fun e => he e.2)]
            have eR : hdlR N L K node DL o q x = (zeroPk, false, (setD N L K node DL x.l x.s x.p (unlZ x)).1) := by unfold hdlR; rw [if_pos ht, if_pos hh, if_neg (by omega), if_pos ho, if_neg he]
            rw [eO, eR]
            cases hfl : x.fl with
            | false =>
              have ez : unlZ x = [] := by unfold unlZ; rw [hfl]; rfl
              rw [ez] at he ⊢
              refine (dh_err h hN hL (by omega) x a n c hsl hr h1 h2 h3 hh ho hf0 hfl he).mono ?_
              rintro e w' ⟨rfl, r2, A', r3, r4, r5⟩
              exact ⟨_, rfl, datz_nil _ _, r2, A', r3, r4, r5.more (by omega)⟩
            | true =>
              have ez : unlZ x = x.z := by unfold unlZ; rw [hfl]; rfl
              rw [ez] at he ⊢
              refine (dh_err_f h hN hL (by omega) x a n c hsl hr h1 h2 h3 hh ho hf0 hfl he).mono ?_
              rintro e w' ⟨rfl, r2, A', r3, r4, r5⟩
              exact ⟨_, rfl, datz_nil _ _, r2, A', r3, r4, r5.more (by omega)⟩
        · have n2 : ¬ letsP N L node o x := fun e => ho e.2.2.2
          have eR : hdlR N L K node DL o q x = (zeroPk, false, 6) := by unfold hdlR; rw [if_pos ht, if_pos hh, if_neg (by omega), if_neg ho]
          refine (dh_state h hN hL (by omega) x a n c hsl hr h1 h2 h3 hh ho).mono ?_
          rintro e w' ⟨rfl, hb⟩
          exact same eR hb (if_neg n2) (by unfold hdlO; rw [if_neg n1, if_neg (fun e => n2 e.1)]) eQ
  · have n1 : ¬ asksP N L node x := fun e => ht e.1
    have n2 : ¬ letsP N L node o x := fun e => ht e.1
    have eR : hdlR N L K node DL o q x = (zeroPk, false, 1) := by unfold hdlR; rw [if_neg ht]
    have fin := fun w' (hb : Below w.heap.size w w') => same eR hb (if_neg n2) (by unfold hdlO; rw [if_neg n1, if_neg (fun e => n2 e.1)]) (if_neg n1)
    cases hr : x.right with
    | false =>
      refine (dh_arg1 h x a n c hsl hr).mono ?_
      rintro e w' ⟨rfl, hb⟩
      exact fin w' hb
    | true =>
      by_cases h1 : x.t = node
      · by_cases h2 : x.f < (N : Int)
        · have hk : x.k ≠ 1 ∧ x.k ≠ 2 := by
            refine ⟨fun e => ht ?_, fun e => ht ?_⟩ <;> unfold takenP <;> rw [hr, decide_eq_true (by first | exact ⟨h1, h2, .inl e⟩ | exact ⟨h1, h2, .inr e⟩)] <;> rfl
          refine (dh_arg4 h x a n c hsl hr h1 h2 hk.1 hk.2).mono ?_
          rintro e w' ⟨rfl, hb⟩
          exact fin w' hb
        · refine (dh_arg3 h x a n c hsl hr h1 (by omega)).mono ?_
          rintro e w' ⟨rfl, hb⟩
          exact fin w' hb
      · refine (dh_arg2 h x a n c hsl hr h1).mono ?_
        rintro e w' ⟨rfl, hb⟩
        exact fin w' hb
/-- Who waits, waits for a line that is here, and is a node. -/
def WQ (N L : Nat) (node : Int) (q : List Wr) : Prop := ∀ y ∈ q, hereI N L node y.l = true ∧ 0 ≤ y.w
theorem wq_nil (N L : Nat) (node : Int) : WQ N L node [] := fun _ h => by cases h
theorem wq_ask (h : WQ N L node q) (x : Pk) : WQ N L node (hdlQ N L node o q x) := by
  unfold hdlQ
  by_cases ha : asksP N L node x
  · rw [if_pos ha]
    unfold askQ
    split
    · exact h
    · intro y hy
      rcases List.mem_append.1 hy with hy | hy
      · exact h y hy
      · have ht := ha.1
        unfold takenP at ht
        rw [Bool.and_eq_true] at ht
        rw [List.mem_singleton.1 hy]
        exact ⟨ha.2.1, ((Pk.right_iff x).1 ht.1).f.1⟩
  · rw [if_neg ha]
    exact h
theorem next_sub : ∀ (q : List Wr) (l : Int) (y : Wr), y ∈ nextQ q l → y ∈ q
  | [], _, _, h => h
  | x :: q, l, y, h => by
    unfold nextQ at h
    split at h
    · exact List.mem_cons_of_mem _ h
    · rcases List.mem_cons.1 h with rfl | h
      · exact List.mem_cons_self
      · exact List.mem_cons_of_mem _ (next_sub q l y h)
theorem next_mem {l : Int} {y : Wr} (h : nextW q l = some y) : y ∈ q ∧ y.l = l := by
  unfold nextW at h
  exact ⟨List.mem_of_find?_eq_some h, by simpa using List.find?_some h⟩
/-- What a Grant answers; who has which line, who waits then. -/
def grR (node : Int) (DL : List Hr) (o : List (Int × Int)) (q : List Wr) : Pk × Bool :=
  match readyT o q with
  | [] => (zeroPk, false)
  | l :: _ => match nextW q l with
    | some y => (grantP node y.w y.d l DL, true)
    | none => (zeroPk, false)
def grO (o : List (Int × Int)) (q : List Wr) : List (Int × Int) :=
  match readyT o q with
  | [] => o
  | l :: _ => match nextW q l with
    | some y => o ++ [(l, y.w)]
    | none => o
def grQ (o : List (Int × Int)) (q : List Wr) : List Wr :=
  match readyT o q with
  | [] => q
  | l :: _ => nextQ q l
theorem wq_grant (h : WQ N L node q) : WQ N L node (grQ o q) := by
  unfold grQ
  split
  · exact h
  · exact fun y hy => h y (next_sub q _ y hy)
theorem dgrant_any (h : HD w g A m N L K node DL o q) (hL : L ≤ 8) (hm : m < 1000) (hw : WQ N L node q) :
    Calls Try.prog 17 #[.pointer (some ⟨g, 0, none⟩)] w fun e w' => ∃ d, e = .returned (.tuple #[(grR node DL o q).1.val d, .bool (grR node DL o q).2]) ∧ DatZ w' (fun k => w.heap.size ≤ k) (grR node DL o q).1.z d ∧
      Keep A w w' ∧ ∃ A', (∀ j, A' j → A j ∨ w.heap.size ≤ j) ∧ (∀ j, A j → A' j) ∧ HD w' g A' (m + 1) N L K node DL (grO o q) (grQ o q) := by
  cases hr : readyT o q with
  | nil =>
    have e1 : grR node DL o q = (zeroPk, false) := by unfold grR; rw [hr]
    have e2 : grO o q = o := by unfold grO; rw [hr]
    have e3 : grQ o q = q := by unfold grQ; rw [hr]
    rw [e1, e2, e3]
    refine (dgrant_no h (by omega) hr).mono ?_
    rintro e w' ⟨rfl, hb⟩
    exact ⟨_, rfl, datz_nil _ _, Keep.of_below hb, A, fun j hj => .inl hj, fun j hj => hj, (h.below hb).more (by omega)⟩
  | cons l rest =>
    obtain ⟨hl1, hl2⟩ := (ready_mem o q l).1 (by rw [hr]; exact List.mem_cons_self)
    obtain ⟨v, d, hn⟩ := next_some hl2
    obtain ⟨hq, _⟩ := next_mem hn
    obtain ⟨hh, hv⟩ := hw _ hq
    have e1 : grR node DL o q = (grantP node v d l DL, true) := by unfold grR; rw [hr]; simp only [hn]
    have e2 : grO o q = o ++ [(l, v)] := by unfold grO; rw [hr]; simp only [hn]
    have e3 : grQ o q = nextQ q l := by unfold grQ; rw [hr]
    rw [e1, e2, e3]
    exact dgrant_ok h hL hm hr hn hv hh hl1
/-- The document's homes, new. -/
theorem hd_new (N L K S Y O I : Nat) (a : Option Addr) (nv cv : Nat) (zi : List Int) (node : Int) (w : World) (hsl : Sl w a nv cv zi) (hN0 : 1 ≤ N) (hN : N ≤ 6) (hL : L ≤ 8) (hK0 : 1 ≤ K) (hK : K ≤ 4) (hlen : nv ≤ 32) :
    Calls Try.prog 15 #[cfg N L K S Y O I (.slice a nv cv), .int .i64 node] w fun e w' => ∃ g A, e = .returned (.pointer (some ⟨g, 0, none⟩)) ∧ Below w.heap.size w w' ∧ (∀ j, A j → w.heap.size ≤ j) ∧ HD w' g A 0 N L K node (dl0 zi L K L) [] [] := by
  refine (dnew_any N L K S Y O I a nv cv zi node w hsl hN0 hN hL hK0 hK hlen).mono ?_
  rintro e w' ⟨g, M, D, R, ra, rc, rfl, hb, d, hR, hg, hMD, n2⟩
  have dt : DT w' g 10 (fun _ => False) (fun _ => False) [] [] none 0 0 none 0 0 := ⟨n2.a, n2.b, n2.c, n2.d, n2.lt, rw_nil _ _ _, rw_nil _ _ _, ⟨id, id⟩, fun _ h => h.elim, fun _ h => (h.elim id id).elim, ok_nil⟩
  refine ⟨g, fun j => j = g ∨ M j ∨ D j, rfl, hb, fun j hj => hj.elim (fun e => e ▸ hg) (hMD j), M, D, R, ra, rc, _, _, none, 0, 0, none, 0, 0, d, hR, dt, Nat.le_refl _, Nat.le_refl _, fun j hj => (hj.elim id id).elim, ⟨.inl rfl, fun j hj => ?_⟩, fun j hj => ?_⟩
  · rcases hj with hj | hj | hj | hj
    · exact .inr (.inl hj)
    · exact .inr (.inr hj)
    · exact hj.elim
    · exact hj.elim
  · rcases hj with rfl | hj
    · exact d.lt
    · exact d.old j hj
end
end Go.Proofs.Ytgeiagndpfdnlaa
end
section
namespace Go.Proofs.Ytgeiagndpfdnlaa
open Go.RowKit Go.Maps
set_option linter.unusedVariables false
set_option maxRecDepth 20000

section
variable {N L K : Nat} {node : Int} {DL : List Hr} {o : List (Int × Int)} {q : List Wr}
theorem homeF_row (h : Nums L DL) {l : Int} (hh : hereI N L node l = true) : rowL (homeF N L node DL) l = (DL[l.toNat]?).getD zeroHr := by unfold rowL; rw [homeF_get h hh]; rfl
theorem grant_same (h : Nums L DL) {l : Int} (hh : hereI N L node l = true) (who d : Int) : grantR node who d l (homeF N L node DL) = grantP node who d l DL := by
  unfold grantR grantP
  rw [homeF_row h hh]
theorem ck_same (h : Nums L DL) (x : Pk) : ckE N node (homeF N L node DL) x = if takenP N node x = true then (if hereI N L node x.l = true then 0 else 3) else 1 := by
  unfold ckE
  rw [homeF_has h]
  rfl
theorem set_same1 (h : Nums L DL) (l s hd : Int) (z : List Int) : (setR N K (homeF N L node DL) l s hd z).1 = (setD N L K node DL l s hd z).1 := by rw [dset_same h]
theorem set_same2 (h : Nums L DL) (l s hd : Int) (z : List Int) : (setR N K (homeF N L node DL) l s hd z).2 = homeF N L node (setD N L K node DL l s hd z).2 := by rw [dset_same h]
end
section
variable {w wx : World} {g g1 g2 n N L K : Nat} {X : Nat → Prop} {node : Int} {DL : List Hr} {o : List (Int × Int)} {q : List Wr}
theorem datz_zero (w : World) (D : Nat → Prop) : DatZ w D zeroPk.z (.slice none 0 0) := ⟨none, 0, 0, rfl, sl_nil _, by omega, fun h => absurd rfl h⟩
theorem hh_doc (h : PH w wx g g1 g2 X N K node (homeF N L node DL) n o q) (hN : Nums L DL) (x : Pk) (a : Option Addr) (m c : Nat) (hsl : Sl wx a m c x.z) (hl : In64 x.l) (hn : n ≤ 1000) :
    Calls Try.prog 10 #[.pointer (some ⟨g, 0, none⟩), x.val (.slice a m c)] wx fun e w' => ∃ d, e = .returned (.tuple #[(hdlR N L K node DL o q x).1.val d, .bool (hdlR N L K node DL o q x).2.1, .int .i64 (hdlR N L K node DL o q x).2.2]) ∧ DatZ w' (fun k => wx.heap.size ≤ k) (hdlR N L K node DL o q x).1.z d ∧
      Keep (NX w X) wx w' ∧ PH w w' g g1 g2 X N K node (homeF N L node (hdlD N L K node DL o x)) (n + 1) (hdlO N L K node DL o q x) (hdlQ N L node o q x) := by
  have same : ∀ {w' : World} {b : Bool} {e2 : Int}, hdlR N L K node DL o q x = (zeroPk, b, e2) → Keep (NX w X) wx w' → PH w w' g g1 g2 X N K node (homeF N L node DL) n o q → hdlD N L K node DL o x = DL → hdlO N L K node DL o q x = o → hdlQ N L node o q x = q →
      ∃ d, Ending.returned (.tuple #[zeroPk.val (.slice none 0 0), .bool b, .int .i64 e2]) = .returned (.tuple #[(hdlR N L K node DL o q x).1.val d, .bool (hdlR N L K node DL o q x).2.1, .int .i64 (hdlR N L K node DL o q x).2.2]) ∧ DatZ w' (fun k => wx.heap.size ≤ k) (hdlR N L K node DL o q x).1.z d ∧
        Keep (NX w X) wx w' ∧ PH w w' g g1 g2 X N K node (homeF N L node (hdlD N L K node DL o x)) (n + 1) (hdlO N L K node DL o q x) (hdlQ N L node o q x) := by
    intro w' b e2 e hk hp e3 e4 e5
    rw [e, e3, e4, e5]
    exact ⟨_, rfl, datz_zero _ _, hk, hp.setN (by omega)⟩
  have hck := ck_same (N := N) (node := node) hN x
  by_cases ht : takenP N node x = true
  · rw [if_pos ht] at hck
    cases hh : hereI N L node x.l with
    | false =>
      rw [hh, if_neg (by simp)] at hck
      have n1 : ¬ asksP N L node x := fun e => by rw [e.2.1] at hh; cases hh
      have n2 : ¬ letsP N L node o x := fun e => by rw [e.2.1] at hh; cases hh
      refine (hh_bad h x a m c hsl hl (by rw [hck]; omega)).mono ?_
      rw [hck]
      rintro e w' ⟨rfl, hb⟩
      exact same (by unfold hdlR; rw [if_pos ht, if_neg (by rw [hh]; simp)]) (Keep.of_below hb) (h.below hb) (if_neg n2) (by unfold hdlO; rw [if_neg n1, if_neg (fun e => n2 e.1)]) (if_neg n1)
    | true =>
      rw [hh, if_pos rfl] at hck
      by_cases h1 : x.k = 1
      · have y1 : asksP N L node x := ⟨ht, hh, h1⟩
        have n2 : ¬ letsP N L node o x := fun e => e.2.2.1 h1
        have eD : hdlD N L K node DL o x = DL := if_neg n2
        have eO : hdlO N L K node DL o q x = askO o q x.l x.f := if_pos y1
        have eQ : hdlQ N L node o q x = askQ o q x.l x.f x.i := if_pos y1
        rw [eD, eO, eQ]
        cases hb : askB o q x.l with
        | true =>
          have eR : hdlR N L K node DL o q x = (grantP node x.f x.i x.l DL, true, 0) := by unfold hdlR; rw [if_pos ht, if_pos hh, if_pos h1, if_pos hb]
          rw [eR, ← grant_same hN hh]
          exact hh_grant h x a m c hsl hl hck h1 hb hn
        | false =>
          have eR : hdlR N L K node DL o q x = (zeroPk, false, 0) := by unfold hdlR; rw [if_pos ht, if_pos hh, if_pos h1, if_neg (by rw [hb]; simp)]
          rw [eR]
          refine (hh_wait h x a m c hsl hl hck h1 hb hn).mono ?_
          rintro e w' ⟨rfl, r2, r3⟩
          exact ⟨_, rfl, datz_zero _ _, r2, r3⟩
      · have h2 := (ck_kind hck).resolve_left h1
        have n1 : ¬ asksP N L node x := fun e => h1 e.2.2
        have eQ : hdlQ N L node o q x = q := if_neg n1
        by_cases ho : ownT o x.l = x.f
        · have y2 : letsP N L node o x := ⟨ht, hh, h1, ho⟩
          by_cases he : (setD N L K node DL x.l x.s x.p (unlZ x)).1 = 0
          · have eR : hdlR N L K node DL o q x = (⟨8, node, x.f, x.i, x.l, 0, 0, false, []⟩, true, 0) := by unfold hdlR; rw [if_pos ht, if_pos hh, if_neg h1, if_pos ho, if_pos he]
            have eD : hdlD N L K node DL o x = (setD N L K node DL x.l x.s x.p (unlZ x)).2 := if_pos y2
            have eO : hdlO N L K node DL o q x = relO o x.l := by unfold hdlO; rw [if_neg n1, if_pos ⟨y2, he⟩]
            rw [eR, eD, eO, eQ, ← set_same2 hN]
            refine (hh_uok h x a m c hsl hl hck h2 ho (by rw [set_same1 hN]; exact he)).mono ?_
            rintro e w' ⟨rfl, r2, r3⟩
            exact ⟨_, rfl, datz_zero _ _, r2, r3.setN (by omega)⟩
          · have eR : hdlR N L K node DL o q x = (zeroPk, false, (setD N L K node DL x.l x.s x.p (unlZ x)).1) := by unfold hdlR; rw [if_pos ht, if_pos hh, if_neg h1, if_pos ho, if_neg he]
            have eU : ulE N K (homeF N L node DL) o x = (setD N L K node DL x.l x.s x.p (unlZ x)).1 := by unfold ulE; rw [if_pos ho]; exact set_same1 hN _ _ _ _
            have eD : hdlD N L K node DL o x = DL := by
              unfold hdlD
              rw [if_pos y2]
              unfold setD at he ⊢
              rw [if_pos hh] at he ⊢
              by_cases q2 : setOk N K x.s x.p (unlZ x).length = true
              · rw [if_pos q2] at he
                exact absurd rfl he
              · rw [if_neg q2]
            have eO : hdlO N L K node DL o q x = o := by unfold hdlO; rw [if_neg n1, if_neg (fun e => he e.2)]
            refine (hh_uerr h x a m c hsl hl hck h2 (by rw [eU]; exact he)).mono ?_
            rw [eU]
            rintro e w' ⟨rfl, r2, r3⟩
            exact same eR r2 r3 eD eO eQ
        · have n2 : ¬ letsP N L node o x := fun e => ho e.2.2.2
          have eU : ulE N K (homeF N L node DL) o x = 6 := by unfold ulE; rw [if_neg ho]
          refine (hh_uerr h x a m c hsl hl hck h2 (by rw [eU]; omega)).mono ?_
          rw [eU]
          rintro e w' ⟨rfl, r2, r3⟩
          exact same (by unfold hdlR; rw [if_pos ht, if_pos hh, if_neg h1, if_neg ho]) r2 r3 (if_neg n2) (by unfold hdlO; rw [if_neg n1, if_neg (fun e => n2 e.1)]) eQ
  · rw [if_neg ht] at hck
    have n1 : ¬ asksP N L node x := fun e => ht e.1
    have n2 : ¬ letsP N L node o x := fun e => ht e.1
    refine (hh_bad h x a m c hsl hl (by rw [hck]; omega)).mono ?_
    rw [hck]
    rintro e w' ⟨rfl, hb⟩
    exact same (by unfold hdlR; rw [if_neg ht]) (Keep.of_below hb) (h.below hb) (if_neg n2) (by unfold hdlO; rw [if_neg n1, if_neg (fun e => n2 e.1)]) (if_neg n1)
theorem here_in64 {l : Int} (hL : L ≤ 8) (hh : hereI N L node l = true) : In64 l := by
  obtain ⟨h0, h1, _⟩ := here_of hh
  unfold In64
  omega
theorem hgr_doc (h : PH w wx g g1 g2 X N K node (homeF N L node DL) n o q) (hN : Nums L DL) (hL : L ≤ 8) (hn : n ≤ 1000) (hw : WQ N L node q) :
    Calls Try.prog 16 #[.pointer (some ⟨g, 0, none⟩)] wx fun e w' => ∃ d, e = .returned (.tuple #[(grR node DL o q).1.val d, .bool (grR node DL o q).2]) ∧ DatZ w' (fun k => wx.heap.size ≤ k) (grR node DL o q).1.z d ∧
      Keep (NX w X) wx w' ∧ PH w w' g g1 g2 X N K node (homeF N L node DL) (n + 1) (grO o q) (grQ o q) := by
  cases hr : readyT o q with
  | nil =>
    have e1 : grR node DL o q = (zeroPk, false) := by unfold grR; rw [hr]
    have e2 : grO o q = o := by unfold grO; rw [hr]
    have e3 : grQ o q = q := by unfold grQ; rw [hr]
    rw [e1, e2, e3]
    refine (hgr_no h hn hr).mono ?_
    rintro e w' ⟨rfl, hb⟩
    exact ⟨_, rfl, datz_zero _ _, Keep.of_below hb, (h.below hb).setN (by omega)⟩
  | cons l rest =>
    obtain ⟨hl1, hl2⟩ := (ready_mem o q l).1 (by rw [hr]; exact List.mem_cons_self)
    obtain ⟨v, d, hnx⟩ := next_some hl2
    obtain ⟨hq, _⟩ := next_mem hnx
    obtain ⟨hh, hv⟩ := hw _ hq
    have e1 : grR node DL o q = (grantP node v d l DL, true) := by unfold grR; rw [hr]; simp only [hnx]
    have e2 : grO o q = o ++ [(l, v)] := by unfold grO; rw [hr]; simp only [hnx]
    have e3 : grQ o q = nextQ q l := by unfold grQ; rw [hr]
    rw [e1, e2, e3, ← grant_same hN hh]
    exact hgr_ok h hn hr (here_in64 hL hh) hl1 hv hnx
end
end Go.Proofs.Ytgeiagndpfdnlaa
end
section
namespace Go.Proofs.Ytgeiagndpfdnlaa
open Go.RowKit Go.Maps
set_option linter.unusedVariables false
set_option maxRecDepth 20000

structure BH (w wx : World) (g g1 g2 gd : Nat) (X Z : Nat → Prop) (N L K : Nat) (node : Int) (n m : Nat) (DL : List Hr) (o : List (Int × Int)) (q : List Wr) (D2 : List Hr) (o2 : List (Int × Int)) (q2 : List Wr) : Prop where
  ph : PH w wx g g1 g2 X N K node (homeF N L node DL) n o q
  hd : ∃ A, HD wx gd A m N L K node D2 o2 q2 ∧ ∀ j, A j → X j ∧ w.heap.size ≤ j ∧ ¬ Z j
  z : ∀ j, Z j → X j ∧ w.heap.size ≤ j
  nu : Nums L DL
  wq : WQ N L node q
  wq2 : WQ N L node q2
section
variable {w wx wy : World} {g g1 g2 gd n m N L K : Nat} {X Z F Y : Nat → Prop} {node : Int} {DL D2 : List Hr} {o o2 : List (Int × Int)} {q q2 : List Wr}
theorem BH.below (h : BH w wx g g1 g2 gd X Z N L K node n m DL o q D2 o2 q2) (hb : Below wx.heap.size wx wy) : BH w wy g g1 g2 gd X Z N L K node n m DL o q D2 o2 q2 := by
  obtain ⟨A, d, hA⟩ := h.hd
  exact ⟨h.ph.below hb, ⟨A, d.below hb, hA⟩, h.z, h.nu, h.wq, h.wq2⟩
/-- What is new is the test's own. -/
theorem BH.own (h : BH w wx g g1 g2 gd X Z N L K node n m DL o q D2 o2 q2) (hb : Below wx.heap.size wx wy) :
    BH w wy g g1 g2 gd (fun j => X j ∨ (wx.heap.size ≤ j ∧ j < wy.heap.size)) (fun j => Z j ∨ (wx.heap.size ≤ j ∧ j < wy.heap.size)) N L K node n m DL o q D2 o2 q2 := by
  obtain ⟨A, d, hA⟩ := h.hd
  have hs := h.ph.bel.size
  refine ⟨h.ph.own hb, ⟨A, d.below hb, fun j hj => ⟨.inl (hA j hj).1, (hA j hj).2.1, fun hz => hz.elim (hA j hj).2.2 (fun hn => by have := d.old j hj; omega)⟩⟩, fun j hj => ?_, h.nu, h.wq, h.wq2⟩
  rcases hj with hj | hj
  · exact ⟨.inl (h.z j hj).1, (h.z j hj).2⟩
  · exact ⟨.inr hj, by omega⟩
/-- The test writes its own. -/
theorem BH.write (h : BH w wx g g1 g2 gd X Z N L K node n m DL o q D2 o2 q2) (hk : Keep F wx wy) (hF : ∀ j, F j → Z j) : BH w wy g g1 g2 gd X Z N L K node n m DL o q D2 o2 q2 := by
  obtain ⟨A, d, hA⟩ := h.hd
  exact ⟨h.ph.step hk (fun j hj => ⟨(h.z j (hF j hj)).2, .inl (h.z j (hF j hj)).1⟩) (fun j hj => ⟨.inl hj, Nat.lt_of_lt_of_le (h.ph.xl j hj) hk.size⟩), ⟨A, d.keep hk (fun j hj hf => (hA j hj).2.2 (hF j hf)), hA⟩, h.z, h.nu, h.wq, h.wq2⟩
theorem BH.offZ (h : BH w wx g g1 g2 gd X Z N L K node n m DL o q D2 o2 q2) (hY : ∀ j, Y j → Z j) : BH w wx g g1 g2 gd X Y N L K node n m DL o q D2 o2 q2 := by
  obtain ⟨A, d, hA⟩ := h.hd
  exact ⟨h.ph, ⟨A, d, fun j hj => ⟨(hA j hj).1, (hA j hj).2.1, fun hy => (hA j hj).2.2 (hY j hy)⟩⟩, fun j hj => h.z j (hY j hj), h.nu, h.wq, h.wq2⟩
theorem BH.nums2 (h : BH w wx g g1 g2 gd X Z N L K node n m DL o q D2 o2 q2) : Nums L D2 := by
  obtain ⟨A, d, hA⟩ := h.hd
  exact d.nums
/-- After a call on the program's home. -/
theorem BH.prog (h : BH w wx g g1 g2 gd X Z N L K node n m DL o q D2 o2 q2) {n' : Nat} {DL' : List Hr} {o' : List (Int × Int)} {q' : List Wr} (hk : Keep (NX w X) wx wy) (p : PH w wy g g1 g2 X N K node (homeF N L node DL') n' o' q') (hn : Nums L DL') (hw : WQ N L node q') : BH w wy g g1 g2 gd X Z N L K node n' m DL' o' q' D2 o2 q2 := by
  obtain ⟨A, d, hA⟩ := h.hd
  exact ⟨p, ⟨A, d.keep hk (fun j hj hf => hf.2 (hA j hj).1), hA⟩, h.z, hn, hw, h.wq2⟩
/-- After a call on the document's. -/
theorem BH.doc (h : BH w wx g g1 g2 gd X Z N L K node n m DL o q D2 o2 q2) {m' : Nat} {A A' : Nat → Prop} {D2' : List Hr} {o2' : List (Int × Int)} {q2' : List Wr} (hA : ∀ j, A j → X j ∧ w.heap.size ≤ j ∧ ¬ Z j) (hk : Keep A wx wy) (hA' : ∀ j, A' j → A j ∨ wx.heap.size ≤ j) (d : HD wy gd A' m' N L K node D2' o2' q2') (hw : WQ N L node q2') :
    Keep (fun j => X j ∧ w.heap.size ≤ j ∧ ¬ Z j) wx wy ∧ BH w wy g g1 g2 gd (fun j => X j ∨ (wx.heap.size ≤ j ∧ j < wy.heap.size)) Z N L K node n m' DL o q D2' o2' q2' := by
  have hs := h.ph.bel.size
  have hks := hk.size
  refine ⟨hk.mono (fun j _ hj => hA j hj), h.ph.step hk (fun j hj => ⟨(hA j hj).2.1, .inl (hA j hj).1⟩) (fun j hj => ?_), ⟨A', d, fun j hj => ?_⟩, fun j hj => ⟨.inl (h.z j hj).1, (h.z j hj).2⟩, h.nu, h.wq, hw⟩
  · rcases hj with hj | hj
    · exact ⟨.inl hj, by have := h.ph.xl j hj; omega⟩
    · exact ⟨.inr hj.1, hj.2⟩
  · have hlt := d.old j hj
    rcases hA' j hj with ha | hn
    · exact ⟨.inl (hA j ha).1, (hA j ha).2⟩
    · exact ⟨.inr ⟨hn, hlt⟩, by omega, fun hz => by have := h.ph.xl j (h.z j hz).1; omega⟩
theorem nums_set (h : Nums L DL) (r : Hr) : Nums L (DL.set r.n.toNat r) ∨ r.n < 0 := by
  by_cases h0 : 0 ≤ r.n
  · refine .inl ⟨by rw [List.length_set]; exact h.1, fun i x hx => ?_⟩
    rw [List.getElem?_set] at hx
    by_cases e : r.n.toNat = i
    · rw [if_pos e] at hx
      split at hx
      · obtain rfl := Option.some.inj hx; omega
      · cases hx
    · rw [if_neg e] at hx
      exact h.2 i x hx
  · exact .inr (by omega)
theorem nums_setD (h : Nums L DL) (l s hd : Int) (z : List Int) : Nums L (setD N L K node DL l s hd z).2 := by
  unfold setD
  split
  · rename_i hh
    split
    · rcases nums_set h ⟨l, s, hd, if z = [] then ((DL[l.toNat]?).getD zeroHr).z else z⟩ with h1 | h1
      · exact h1
      · have := (here_of hh).1
        have h2 : l < 0 := h1
        omega
    · exact h
  · exact h
theorem nums_hdl (h : Nums L DL) (x : Pk) : Nums L (hdlD N L K node DL o x) := by
  unfold hdlD
  split
  · exact nums_setD h _ _ _ _
  · exact h
theorem bh_h1 (h : BH w wx g g1 g2 gd X Z N L K node n m DL o q D2 o2 q2) (x : Pk) (a : Option Addr) (k c : Nat) (hsl : Sl wx a k c x.z) (hl : In64 x.l) (hn : n ≤ 1000) :
    Calls Try.prog 10 #[.pointer (some ⟨g, 0, none⟩), x.val (.slice a k c)] wx fun e w' => ∃ d, e = .returned (.tuple #[(hdlR N L K node DL o q x).1.val d, .bool (hdlR N L K node DL o q x).2.1, .int .i64 (hdlR N L K node DL o q x).2.2]) ∧ DatZ w' (fun k => wx.heap.size ≤ k) (hdlR N L K node DL o q x).1.z d ∧
      Keep (NX w X) wx w' ∧ BH w w' g g1 g2 gd X Z N L K node (n + 1) m (hdlD N L K node DL o x) (hdlO N L K node DL o q x) (hdlQ N L node o q x) D2 o2 q2 := by
  refine (hh_doc h.ph h.nu x a k c hsl hl hn).mono ?_
  rintro e w' ⟨d, rfl, r1, r2, r3⟩
  exact ⟨d, rfl, r1, r2, h.prog r2 r3 (nums_hdl h.nu x) (wq_ask h.wq x)⟩
theorem bh_h2 (h : BH w wx g g1 g2 gd X Z N L K node n m DL o q D2 o2 q2) (hN : 1 ≤ N) (hL : L ≤ 8) (hm : m < 1000) (x : Pk) (a : Option Addr) (k c : Nat) (hsl : Sl wx a k c x.z) :
    Calls Try.prog 22 #[.pointer (some ⟨gd, 0, none⟩), x.val (.slice a k c)] wx fun e w' => ∃ d, e = .returned (.tuple #[(hdlR N L K node D2 o2 q2 x).1.val d, .bool (hdlR N L K node D2 o2 q2 x).2.1, .int .i64 (hdlR N L K node D2 o2 q2 x).2.2]) ∧ DatZ w' (fun k => wx.heap.size ≤ k) (hdlR N L K node D2 o2 q2 x).1.z d ∧
      Keep (fun j => X j ∧ w.heap.size ≤ j ∧ ¬ Z j) wx w' ∧ BH w w' g g1 g2 gd (fun j => X j ∨ (wx.heap.size ≤ j ∧ j < w'.heap.size)) Z N L K node n (m + 1) DL o q (hdlD N L K node D2 o2 x) (hdlO N L K node D2 o2 q2 x) (hdlQ N L node o2 q2 x) := by
  obtain ⟨A, d, hA⟩ := h.hd
  refine (dhandle_any d hN hL hm x a k c hsl).mono ?_
  rintro e w' ⟨dd, rfl, r1, r2, A', r3, _, r5⟩
  exact ⟨dd, rfl, r1, h.doc hA r2 r3 r5 (wq_ask h.wq2 x)⟩
theorem bh_g1 (h : BH w wx g g1 g2 gd X Z N L K node n m DL o q D2 o2 q2) (hL : L ≤ 8) (hn : n ≤ 1000) :
    Calls Try.prog 16 #[.pointer (some ⟨g, 0, none⟩)] wx fun e w' => ∃ d, e = .returned (.tuple #[(grR node DL o q).1.val d, .bool (grR node DL o q).2]) ∧ DatZ w' (fun k => wx.heap.size ≤ k) (grR node DL o q).1.z d ∧
      Keep (NX w X) wx w' ∧ BH w w' g g1 g2 gd X Z N L K node (n + 1) m DL (grO o q) (grQ o q) D2 o2 q2 := by
  refine (hgr_doc h.ph h.nu hL hn h.wq).mono ?_
  rintro e w' ⟨d, rfl, r1, r2, r3⟩
  exact ⟨d, rfl, r1, r2, h.prog r2 r3 h.nu (wq_grant h.wq)⟩
theorem bh_g2 (h : BH w wx g g1 g2 gd X Z N L K node n m DL o q D2 o2 q2) (hL : L ≤ 8) (hm : m < 1000) :
    Calls Try.prog 17 #[.pointer (some ⟨gd, 0, none⟩)] wx fun e w' => ∃ d, e = .returned (.tuple #[(grR node D2 o2 q2).1.val d, .bool (grR node D2 o2 q2).2]) ∧ DatZ w' (fun k => wx.heap.size ≤ k) (grR node D2 o2 q2).1.z d ∧
      Keep (fun j => X j ∧ w.heap.size ≤ j ∧ ¬ Z j) wx w' ∧ BH w w' g g1 g2 gd (fun j => X j ∨ (wx.heap.size ≤ j ∧ j < w'.heap.size)) Z N L K node n (m + 1) DL o q D2 (grO o2 q2) (grQ o2 q2) := by
  obtain ⟨A, d, hA⟩ := h.hd
  refine (dgrant_any d hL hm h.wq2).mono ?_
  rintro e w' ⟨dd, rfl, r1, r2, A', r3, _, r5⟩
  exact ⟨dd, rfl, r1, h.doc hA r2 r3 r5 (wq_grant h.wq2)⟩
theorem bh_o2 (h : BH w wx g g1 g2 gd X Z N L K node n m DL o q D2 o2 q2) (l : Int) : Calls Try.prog 20 #[.pointer (some ⟨gd, 10, none⟩), .int .i64 l] wx fun e w' => e = .returned (.int .i64 (ownT o2 l)) ∧ Below wx.heap.size wx w' := by
  obtain ⟨A, d, hA⟩ := h.hd
  exact hd_owner d l
theorem bh_w2 (h : BH w wx g g1 g2 gd X Z N L K node n m DL o q D2 o2 q2) (l : Int) : Calls Try.prog 47 #[.pointer (some ⟨gd, 10, none⟩), .int .i64 l] wx fun e w' => e = .returned (.int .i64 ((waitT q2 l).length : Int)) ∧ Below wx.heap.size wx w' := by
  obtain ⟨A, d, hA⟩ := h.hd
  exact hd_waiting d l
theorem bh_r2 (h : BH w wx g g1 g2 gd X Z N L K node n m DL o q D2 o2 q2) (hm : m ≤ 1000) : Calls Try.prog 36 #[.pointer (some ⟨gd, 10, none⟩)] wx fun e w' => ∃ a k cap, e = .returned (.slice a k cap) ∧ Sl w' a k cap (readyT o2 q2) ∧ Below wx.heap.size wx w' := by
  obtain ⟨A, d, hA⟩ := h.hd
  exact hd_ready d hm
theorem bh_here (h : BH w wx g g1 g2 gd X Z N L K node n m DL o q D2 o2 q2) (hN : 1 ≤ N) (l : Int) : Calls Try.prog 41 #[.pointer (some ⟨gd, 0, none⟩), .int .i64 l] wx fun e w' => e = .returned (.bool (hereI N L node l)) ∧ Below wx.heap.size wx w' := by
  obtain ⟨A, d, hA⟩ := h.hd
  exact hd_here d hN l
end
end Go.Proofs.Ytgeiagndpfdnlaa
end
section
namespace Go.Proofs.Ytgeiagndpfdnlaa
open Go.RowKit Go.Maps
set_option linter.unusedVariables false
set_option maxRecDepth 20000

theorem calls_is {F : Nat} {args : Array Value} {w : World} {u v : Value} (h : Calls Try.prog F args w fun e w' => e = .returned u ∧ w = w') (hv : u = v) : Calls Try.prog F args w fun e w' => e = .returned v ∧ Below w.heap.size w w' := by
  subst hv
  refine h.mono ?_
  rintro e w' ⟨rfl, rfl⟩
  exact ⟨rfl, Below.refl _ _⟩
theorem calls_to {F : Nat} {args : Array Value} {w : World} {u v : Value} (h : Calls Try.prog F args w fun e w' => e = .returned u ∧ Below w.heap.size w w') (hv : u = v) : Calls Try.prog F args w fun e w' => e = .returned v ∧ Below w.heap.size w w' := hv ▸ h
section
variable {w wx wy : World} {g g1 g2 gd n m N L K : Nat} {X Z F Y : Nat → Prop} {node : Int} {DL D2 : List Hr} {o o2 : List (Int × Int)} {q q2 : List Wr}
theorem BH.dh (h : BH w wx g g1 g2 gd X Z N L K node n m DL o q D2 o2 q2) : ∃ M D R ra rc, DH wx gd M D N L K node R ra L rc ∧ R.map Prod.fst = D2 := by
  obtain ⟨A, d, _⟩ := h.hd
  obtain ⟨M, D, R, ra, rc, M2, N2, ao, no, co, aq, nq, cq, d, e, _⟩ := d
  exact ⟨M, D, R, ra, rc, d, e⟩
theorem bh_row (h : BH w wx g g1 g2 gd X Z N L K node n m DL o q D2 o2 q2) {l : Int} (hl : In64 l) : Calls Try.prog 45 #[.pointer (some ⟨g1, 0, none⟩), .int .i64 l] wx fun e w' =>
    ∃ a cap, e = .returned (.tuple #[(rowL (homeF N L node DL) l).val (.slice a (rowL (homeF N L node DL) l).z.length cap), .bool (hereI N L node l)]) ∧ Own w' wx.heap.size (.slice a (rowL (homeF N L node DL) l).z.length cap) (rowL (homeF N L node DL) l).z ∧ Below wx.heap.size wx w' := by
  have := hp_row h.ph.hp hl
  rw [homeF_has h.nu] at this
  exact this
theorem bh_row1 (h : BH w wx g g1 g2 gd X Z N L K node n m DL o q D2 o2 q2) {l xn xs xh : Int} {xz : List Int} {B : Bool} (hl : In64 l) (hr : rowL (homeF N L node DL) l = ⟨xn, xs, xh, xz⟩) (hB : hereI N L node l = B) : Calls Try.prog 45 #[.pointer (some ⟨g1, 0, none⟩), .int .i64 l] wx fun e w' =>
    ∃ a cap, e = .returned (.tuple #[.agg #[.int .i64 xs, .int .i64 xh, .slice a xz.length cap], .bool B]) ∧ Own w' wx.heap.size (.slice a xz.length cap) xz ∧ Below wx.heap.size wx w' := by
  have := bh_row h hl
  rw [hr, hB] at this
  exact this
set_option maxHeartbeats 1600000 in
theorem same11_any (h : BH w wx g g1 g2 gd X Z N L K node n m DL o q DL o q) (hN : 1 ≤ N) (hL : 1 ≤ L ∧ L ≤ 8) (hn : n ≤ 1000) (hm : m ≤ 1000) :
    Calls Try.prog 23 #[.pointer (some ⟨g, 0, none⟩), .pointer (some ⟨gd, 0, none⟩)] wx fun e w' => e = .returned (.bool true) ∧ Below wx.heap.size wx w' := by
  obtain ⟨B, hB⟩ : ∃ B, decide (0 < (readyT o q).length) = B := ⟨_, rfl⟩
  have HB : Hid (decide (0 < (readyT o q).length) = B) := hB
  have HH : Hid (1 ≤ N ∧ 1 ≤ L ∧ L ≤ 8 ∧ n ≤ 1000 ∧ m ≤ 1000) := ⟨hN, hL.1, hL.2, hn, hm⟩
  obtain ⟨hL1, hL8⟩ := hL
  clear hB hn hm hN
  go_enter Try.func23, Try.ntmps23
  go_upto_region 1 with fail
  refine wp_region_orders 13 rfl (by kernel_rfl) ?_
  have Bd : Below wx.heap.size wx wx.drew := (Below.refl _ _).drew
  have h1 := h.below Bd
  generalize wx.drew = V at *
  have hI : (fun V => True) V := trivial
  refine any_inv (fun _ => True) [] hI ?_
  refine inv_take (v := ?v1) [] 0 hI rfl (by kernel_rfl) (by kernel_rfl) (by kernel_rfl) (by kernel_rfl) (by kernel_rfl) (fun _ _ _ h => h) (by kernel_rfl) (fun V hV => ?hy1) ?go1
  case hy1 => (go_simp <;> rfl)
  simp only [Act.put, List.setIfInBounds_toArray, List.set_cons_zero, List.set_cons_succ]
  refine inv_take (v := ?v2) [] 1 hI rfl (by kernel_rfl) (by kernel_rfl) (by kernel_rfl) (by kernel_rfl) (by kernel_rfl) (fun _ _ _ h => h) (by kernel_rfl) (fun V hV => ?hy2) ?go2
  case hy2 => (go_simp <;> rfl)
  simp only [Act.put, List.setIfInBounds_toArray, List.set_cons_zero, List.set_cons_succ]
  refine inv_take (v := ?v3) [] 2 hI rfl (by kernel_rfl) (by kernel_rfl) (by kernel_rfl) (by kernel_rfl) (by kernel_rfl) (fun _ _ _ h => h) (by kernel_rfl) (fun V hV => ?hy3) ?go3
  case hy3 => (go_simp <;> rfl)
  simp only [Act.put, List.setIfInBounds_toArray, List.set_cons_zero, List.set_cons_succ]
  refine inv_take (v := ?v4) [] 3 hI rfl (by kernel_rfl) (by kernel_rfl) (by kernel_rfl) (by kernel_rfl) (by kernel_rfl) (fun _ _ _ h => h) (by kernel_rfl) (fun V hV => ?hy4) ?go4
  case hy4 => (go_simp <;> rfl)
  simp only [Act.put, List.setIfInBounds_toArray, List.set_cons_zero, List.set_cons_succ]
  refine inv_take (v := ?v5) [] 5 hI rfl (by kernel_rfl) (by kernel_rfl) (by kernel_rfl) (by kernel_rfl) (by kernel_rfl) (fun _ _ _ h => h) (by kernel_rfl) (fun V hV => ?hy5) ?go5
  case hy5 => (go_simp <;> rfl)
  simp only [Act.put, List.setIfInBounds_toArray, List.set_cons_zero, List.set_cons_succ]
  refine inv_take (v := ?v6) [] 6 hI rfl (by kernel_rfl) (by kernel_rfl) (by kernel_rfl) (by kernel_rfl) (by kernel_rfl) (fun _ _ _ h => h) (by kernel_rfl) (fun V hV => ?hy6) ?go6
  case hy6 => (go_simp <;> rfl)
  simp only [Act.put, List.setIfInBounds_toArray, List.set_cons_zero, List.set_cons_succ]
  refine inv_take (v := ?v7) [] 7 hI rfl (by kernel_rfl) (by kernel_rfl) (by kernel_rfl) (by kernel_rfl) (by kernel_rfl) (fun _ _ _ h => h) (by kernel_rfl) (fun V hV => ?hy7) ?go7
  case hy7 => (go_simp <;> rfl)
  simp only [Act.put, List.setIfInBounds_toArray, List.set_cons_zero, List.set_cons_succ]
  refine inv_list 4 (by kernel_rfl) rfl ?_
  go_wp2_with (go_at_call 13; refine (hpend_any h1.ph HH.out.2.2.2.1 B HB.out).mono ?_; rintro e V1 ⟨rfl, b1⟩)
  have h2 := h1.below b1
  refine then_n ⟨trivial, ?_⟩
  try simp only [Act.put, List.setIfInBounds_toArray, List.set_cons_zero, List.set_cons_succ]
  refine inv_list 8 (by kernel_rfl) rfl ?_
  go_wp2_with (go_at_call 36; refine (bh_r2 h2 HH.out.2.2.2.2).mono ?_; rintro e V2 ⟨ar, kr, cr, rfl, sr, b2⟩)
  have h3 := h2.below b2
  have hbx := next (next Bd b1) b2
  refine then_n ⟨trivial, ?_⟩
  try simp only [Act.put, List.setIfInBounds_toArray, List.set_cons_zero, List.set_cons_succ]
  have hkr : decide (0 < kr) = B := by have h1 := sr.len; have h2 := HB.out; rw [h1] at h2; exact h2
  clear sr
  have hnn : (B != B) = false := by cases B <;> rfl
  refine inv_list 9 (by kernel_rfl) rfl ?_
  go_wp2_with fail
  refine then_n ⟨trivial, ?_⟩
  try simp only [Act.put, List.setIfInBounds_toArray, List.set_cons_zero, List.set_cons_succ]
  refine inv_list 10 (by kernel_rfl) rfl ?_
  go_wp2_with fail
  refine then_n ⟨trivial, ?_⟩
  try simp only [Act.put, List.setIfInBounds_toArray, List.set_cons_zero, List.set_cons_succ]
  refine inv_list 11 (by kernel_rfl) rfl ?_
  go_wp2_with fail
  refine then_n ⟨trivial, ?_⟩
  try simp only [Act.put, List.setIfInBounds_toArray, List.set_cons_zero, List.set_cons_succ]
  refine inv_list 12 (by kernel_rfl) rfl ?_
  go_wp2_with fail
  refine then_n ⟨trivial, ?_⟩
  try simp only [Act.put, List.setIfInBounds_toArray, List.set_cons_zero, List.set_cons_succ]
  refine inv_done (by kernel_rfl) ?_
  go_wp2_with fail
  go_loopw [5] (fun v5 wr => ∃ l : Int, v5 = .int .i64 l ∧ -1 ≤ l ∧ l ≤ (L : Int) + 1 ∧ Below wx.heap.size wx wr) (fun v5 _ => ((L : Int) + 1 - intOf v5).toNat)
  case atStart => exact ⟨-1, rfl, by omega, by omega, hbx⟩
  case round =>
    clear h1 h2 h3 b1 b2 hbx Bd
    obtain ⟨l, rfl, hl0, hl1, hb⟩ := hrel
    have D1 := h.below hb
    obtain ⟨M, DD, R, ra, rc, H, eR⟩ := D1.dh
    have c1 := H.c1
    have clt := H.lt
    have p0 := D1.ph.c0
    have p1 := D1.ph.c1
    have plt := D1.ph.lt
    by_cases hlt : l ≤ (L : Int)
    · have HIL : Hid (In64 l) := by unfold Hid In64; omega
      obtain ⟨xn, xs, xh, xz, hr⟩ : ∃ xn xs xh xz, rowL (homeF N L node DL) l = ⟨xn, xs, xh, xz⟩ := ⟨_, _, _, _, rfl⟩
      have HR : Hid (rowL (homeF N L node DL) l = ⟨xn, xs, xh, xz⟩) := hr
      clear hr
      cases hh : hereI N L node l with
      | true =>
        have HHH : Hid (hereI N L node l = true) := hh
        clear hh
        go_upto_region 7 with (go_at_call 45; refine (bh_row1 D1 HIL.out HR.out HHH.out).mono ?_; rintro e w1 ⟨ar, cr, rfl, own1, b1⟩)
        have bel := ba (o := .cells #[.int .i64 xs, .int .i64 xh, .slice ar xz.length cr] 94) (Below.refl w1.heap.size w1)
        have r0 : (w1.alloc (.cells #[.int .i64 xs, .int .i64 xh, .slice ar xz.length cr] 94)).cell? ⟨w1.heap.size, 0, none⟩ = some (.int .i64 xs) := by simp
        have r1 : (w1.alloc (.cells #[.int .i64 xs, .int .i64 xh, .slice ar xz.length cr] 94)).cell? ⟨w1.heap.size, 1, none⟩ = some (.int .i64 xh) := by simp
        have r2 : (w1.alloc (.cells #[.int .i64 xs, .int .i64 xh, .slice ar xz.length cr] 94)).cell? ⟨w1.heap.size, 2, none⟩ = some (.slice ar xz.length cr) := by simp
        have rlt : w1.heap.size < (w1.alloc (.cells #[.int .i64 xs, .int .i64 xh, .slice ar xz.length cr] 94)).heap.size := by simp
        have hb2 := next (next hb b1) bel
        have D2 := D1.below (next b1 bel)
        have ow2 := own1.below bel
        clear b1 bel own1 c1 clt D1 H eR p0 p1 plt
        generalize w1.heap.size = gr at *
        generalize w1.alloc _ = w2 at *
        clear w1
        obtain ⟨M, DD, R, ra, rc, H, eR⟩ := D2.dh
        obtain ⟨hl00, hlL0, _⟩ := here_of HHH.out
        obtain ⟨ln, rfl⟩ : ∃ k : Nat, l = k := ⟨l.toNat, by omega⟩
        have hlL : ln < L := by omega
        obtain ⟨xr, dr, b, oo, hRl, hdr, hrn, era, _, hblt, q0, q1, q2, _⟩ := H.get hlL
        subst era
        have hxr : xr = ⟨xn, xs, xh, xz⟩ := by
          have h1 := HR.out
          rw [homeF_row h.nu HHH.out, ← eR, Int.toNat_natCast, List.getElem?_map, hRl] at h1
          exact h1
        subst hxr
        obtain ⟨ad, nd9, cd, ed, sd0, _⟩ := hdr
        subst ed
        have sd : Sl w2 ad nd9 cd xz := sd0
        have hnd9 : xz.length = nd9 := sd.len
        subst hnd9
        have sa := own_sl ow2
        have c9 := H.c9
        have ltg := H.lt
        have hln' : (ln : Int) < (L : Int) := by omega
        simp only at q0 q1
        clear sd0 hRl hrn hlt hl0
        have uc := @Up.cell
        refine wp_region_up (by kernel_rfl) (by kernel_rfl) ?_
        repeat (go_big_quiet_step (first
          | (go_at_call 41; exact Calls.up_of (calls_to (bh_here (D2.below (Subtype.property _)) HH.out.1 (ln : Int)) (congrArg Value.bool HHH.out)))
          | (go_at_call 46; exact Calls.up_of (dsame_any ⟨(ln : Int), xs, xh, xz⟩ ar ad xz.length cr cd _ (sa.below (Subtype.property _)) (sd.below (Subtype.property _))))))
        refine wpQuiet_nil ?_
        rintro _ ⟨u, rfl⟩
        have hb3 := next hb2 u.2
        have D3 := D2.below u.2
        clear uc r0 r1 r2 rlt H eR D2 hb2 q0 q1 q2 sd sa c9 ltg hblt ow2
        generalize u.1 = w3 at *
        clear u
        go_upto_region 9 with fail
        obtain ⟨M, DD, R, ra, rc, H, eR⟩ := D3.dh
        have ltg := H.lt
        have p0 := D3.ph.c0
        have p1 := D3.ph.c1
        have plt := D3.ph.lt
        have uc := @Up.cell
        refine wp_region_up (by kernel_rfl) (by kernel_rfl) ?_
        repeat (go_big_quiet_step (first
          | (go_at_call 41; exact Calls.up_of (calls_to (bh_here (D3.below (Subtype.property _)) HH.out.1 (ln : Int)) (congrArg Value.bool HHH.out)))
          | (go_at_call 11; exact Calls.up_same (hp_owner (D3.below (Subtype.property _)).ph.hp HIL.out))
          | (go_at_call 12; exact Calls.up_same (hp_waiting (D3.below (Subtype.property _)).ph.hp HIL.out))
          | (go_at_call 20; exact Calls.up_of (bh_o2 (D3.below (Subtype.property _)) (ln : Int)))
          | (go_at_call 47; exact Calls.up_of (bh_w2 (D3.below (Subtype.property _)) (ln : Int)))))
        refine wpQuiet_nil ?_
        rintro _ ⟨u, rfl⟩
        have hb4 := next hb3 u.2
        clear uc p0 p1 plt ltg H eR D3
        generalize u.1 = w4 at *
        clear u
        go_wp2_with fail
        go_roundw
        case rel => exact ⟨(ln : Int) + 1, by go_num, by omega, by omega, hb4⟩
        case measure => simp [intOf]; omega
      | false =>
        have HHH : Hid (hereI N L node l = false) := hh
        clear hh
        go_upto_region 7 with (go_at_call 45; refine (bh_row1 D1 HIL.out HR.out HHH.out).mono ?_; rintro e w1 ⟨ar, cr, rfl, own1, b1⟩)
        have bel := ba (o := .cells #[.int .i64 xs, .int .i64 xh, .slice ar xz.length cr] 94) (Below.refl w1.heap.size w1)
        have r0 : (w1.alloc (.cells #[.int .i64 xs, .int .i64 xh, .slice ar xz.length cr] 94)).cell? ⟨w1.heap.size, 0, none⟩ = some (.int .i64 xs) := by simp
        have r1 : (w1.alloc (.cells #[.int .i64 xs, .int .i64 xh, .slice ar xz.length cr] 94)).cell? ⟨w1.heap.size, 1, none⟩ = some (.int .i64 xh) := by simp
        have r2 : (w1.alloc (.cells #[.int .i64 xs, .int .i64 xh, .slice ar xz.length cr] 94)).cell? ⟨w1.heap.size, 2, none⟩ = some (.slice ar xz.length cr) := by simp
        have rlt : w1.heap.size < (w1.alloc (.cells #[.int .i64 xs, .int .i64 xh, .slice ar xz.length cr] 94)).heap.size := by simp
        have hb2 := next (next hb b1) bel
        have D2 := D1.below (next b1 bel)
        have ow2 := own1.below bel
        clear b1 bel own1 c1 clt D1 H eR p0 p1 plt
        generalize w1.heap.size = gr at *
        generalize w1.alloc _ = w2 at *
        clear w1
        obtain ⟨M, DD, R, ra, rc, H, eR⟩ := D2.dh
        have ltg := H.lt
        have uc := @Up.cell
        refine wp_region_up (by kernel_rfl) (by kernel_rfl) ?_
        repeat (go_big_quiet_step (first
          | (go_at_call 41; exact Calls.up_of (calls_to (bh_here (D2.below (Subtype.property _)) HH.out.1 l) (congrArg Value.bool HHH.out)))
          | fail))
        refine wpQuiet_nil ?_
        rintro _ ⟨u, rfl⟩
        have hb3 := next hb2 u.2
        have D3 := D2.below u.2
        clear uc r0 r1 r2 rlt H eR D2 hb2 ltg ow2
        generalize u.1 = w3 at *
        clear u
        go_upto_region 9 with fail
        obtain ⟨M, DD, R, ra, rc, H, eR⟩ := D3.dh
        have ltg := H.lt
        have uc := @Up.cell
        refine wp_region_up (by kernel_rfl) (by kernel_rfl) ?_
        repeat (go_big_quiet_step (first
          | (go_at_call 41; exact Calls.up_of (calls_to (bh_here (D3.below (Subtype.property _)) HH.out.1 l) (congrArg Value.bool HHH.out)))
          | fail))
        refine wpQuiet_nil ?_
        rintro _ ⟨u, rfl⟩
        have hb4 := next hb3 u.2
        clear uc ltg H eR D3
        generalize u.1 = w4 at *
        clear u
        go_wp2_with fail
        go_roundw
        case rel => exact ⟨l + 1, by go_num, by omega, by omega, hb4⟩
        case measure => simp [intOf]; omega
    · clear p0 p1 plt
      go_wp2_with fail
      go_ret
      exact ⟨rfl, hb⟩
end
end Go.Proofs.Ytgeiagndpfdnlaa
end
section
namespace Go.Proofs.Ytgeiagndpfdnlaa
open Go.RowKit
set_option linter.unusedVariables false
set_option maxRecDepth 20000

/-- The packet of small numbers. -/
def playX (x : Pk) : Pk := ⟨1 + x.k % 9, x.f % 4, x.t % 4, x.i % 5, x.l % 4, x.p % 5 - 1, x.s % 3, x.fl, x.z.take 4⟩
theorem play_right (x : Pk) : (playX x).right = true := by
  refine (Pk.right_iff _).2 ⟨?_, ?_, ?_, ?_, ?_, ?_, ?_, ?_⟩ <;> simp only [playX]
  case refine_8 => simp; omega
  all_goals omega
/-- What comes out: a packet, its words of the call's own. -/
def Played (x : Pk) (how : Int) (w : World) (v : Value) (w' : World) : Prop :=
  ∃ (y : Pk) (a : Option Addr) (n cap : Nat), v = y.val (.slice a n cap) ∧ Sl w' a n cap y.z ∧ n ≤ 6 ∧ (how % 40 < 31 → y.right = true) ∧ (R64 x.z → R64 y.z) ∧ (∀ ad : Addr, a = some ad → w.heap.size ≤ ad.block ∧ ad.block < w'.heap.size) ∧ Below w.heap.size w w'
/-- Behind the first statement. -/
structure PL (w wx : World) (x : Pk) (a : Option Addr) (len cap g : Nat) (a1 : Option Addr) (n cap1 : Nat) : Prop where
  bp : Bx wx w.heap.size x (.slice a len cap)
  br : Bx wx (w.heap.size + 1) zeroPk (.slice none 0 0)
  bq : Bx wx g (playX x) (.slice a1 n cap1)
  gl : w.heap.size + 2 ≤ g
  sl : Sl wx a1 n cap1 (x.z.take 4)
  far : ∀ ad : Addr, a1 = some ad → ad.block ≠ g ∧ w.heap.size + 2 ≤ ad.block ∧ ad.block < wx.heap.size
  bl : Below w.heap.size w wx

def nine (W : World) (g : Nat) (y : Pk) (v : Value) : World := (((((((((W.setCell ⟨g, 0, none⟩ (.int .i64 y.k)).setCell ⟨g, 1, none⟩ (.int .i64 y.f)).setCell ⟨g, 2, none⟩ (.int .i64 y.t)).setCell ⟨g, 3, none⟩ (.int .i64 y.i)).setCell ⟨g, 4, none⟩ (.int .i64 y.l)).setCell ⟨g, 5, none⟩ (.int .i64 y.p)).setCell ⟨g, 6, none⟩ (.int .i64 y.s)).setCell ⟨g, 7, none⟩ (.bool y.fl)).setCell ⟨g, 8, none⟩ v)
theorem PL.of {w wq wf : World} {x : Pk} {a : Option Addr} {len cap g : Nat} {a1 : Option Addr} {n cap1 : Nat} (bp : Bx wq w.heap.size x (.slice a len cap)) (br : Bx wq (w.heap.size + 1) zeroPk (.slice none 0 0)) (bq : Bx wq g zeroPk (.slice none 0 0))
    (sl : Sl wq a1 n cap1 (x.z.take 4)) (bl : Below w.heap.size w wq) (gl : w.heap.size + 2 ≤ g) (far : ∀ ad : Addr, a1 = some ad → ad.block ≠ g ∧ w.heap.size + 2 ≤ ad.block ∧ ad.block < wq.heap.size)
    (hf : Below (nine wq g (playX x) (.slice a1 n cap1)).heap.size (nine wq g (playX x) (.slice a1 n cap1)) wf) : PL w wf x a len cap g a1 n cap1 := by
  have f1 := far9 (g := g) (y := playX x) (v := .slice a1 n cap1) (P := fun V => Bx V w.heap.size x (.slice a len cap)) (fun V o u h => h.far (by simp only; omega)) bp
  have f2 := far9 (g := g) (y := playX x) (v := .slice a1 n cap1) (P := fun V => Bx V (w.heap.size + 1) zeroPk (.slice none 0 0)) (fun V o u h => h.far (by simp only; omega)) br
  have f3 := far9 (g := g) (y := playX x) (v := .slice a1 n cap1) (P := fun V => Sl V a1 n cap1 (x.z.take 4)) (fun V o u h => h.far (fun ad e => (far ad e).1)) sl
  have f4 := far9 (g := g) (y := playX x) (v := .slice a1 n cap1) (P := fun V => Below w.heap.size w V) (fun V o u h => h.setCell (by simp only; omega) _) bl
  have f5 := bq.put (playX x) (.slice a1 n cap1)
  exact ⟨f1.next hf, f2.next hf, f5.next hf, gl, f3.below hf, fun ad e => ⟨(far ad e).1, (far ad e).2.1, Nat.lt_of_lt_of_le (far ad e).2.2 (by have := hf.size; simpa [nine] using this)⟩, next f4 hf⟩
theorem nine_below {w wq : World} {g b : Nat} {y : Pk} {v : Value} (h : Below b w wq) (hb : b ≤ g) : Below b w (nine wq g y v) := far9 (P := fun V => Below b w V) (fun V o u h => h.setCell hb _) h

set_option maxHeartbeats 4000000 in
set_option maxRecDepth 20000 in
theorem play_any (x : Pk) (how : Int) (a : Option Addr) (len cap : Nat) (w : World) (hsl : Sl w a len cap x.z) :
    Calls Try.prog 19 #[x.val (.slice a len cap), .int .i64 how] w fun e w' => ∃ v, e = .returned v ∧ Played x how w v w' := by
  have k0 : 0 ≤ x.k % 9 ∧ x.k % 9 < 9 := by omega
  have f0 : 0 ≤ x.f % 4 ∧ x.f % 4 < 4 := by omega
  have t0 : 0 ≤ x.t % 4 ∧ x.t % 4 < 4 := by omega
  have i0 : 0 ≤ x.i % 5 ∧ x.i % 5 < 5 := by omega
  have l0 : 0 ≤ x.l % 4 ∧ x.l % 4 < 4 := by omega
  have p0 : 0 ≤ x.p % 5 ∧ x.p % 5 < 5 := by omega
  have s0 : 0 ≤ x.s % 3 ∧ x.s % 3 < 3 := by omega
  obtain ⟨n, hn⟩ : ∃ n, (x.z.take 4).length = n := ⟨_, rfl⟩
  have HN : Hid ((x.z.take 4).length = n) := hn
  have hn4 : n ≤ 4 := by rw [← hn]; simp; omega
  clear hn
  have bp0 := (Bx.made w x (.slice a len cap)).next (ba (o := .cells #[.int .i64 zeroPk.k, .int .i64 zeroPk.f, .int .i64 zeroPk.t, .int .i64 zeroPk.i, .int .i64 zeroPk.l, .int .i64 zeroPk.p, .int .i64 zeroPk.s, .bool zeroPk.fl, .slice none 0 0] 32) (Below.refl _ _))
  have br0 := Bx.made' (w.alloc (.cells #[.int .i64 x.k, .int .i64 x.f, .int .i64 x.t, .int .i64 x.i, .int .i64 x.l, .int .i64 x.p, .int .i64 x.s, .bool x.fl, .slice a len cap] 32)) zeroPk (.slice none 0 0) (w.heap.size + 1) (by simp)
  unfold Pk.val
  go_enter Try.func19, Try.ntmps19
  go_upto_region 1 with fail
  go_cut [5] (fun v wx => ∃ (g : Nat) (a1 : Option Addr) (cap1 : Nat), v = .pointer (some ⟨g, 0, none⟩) ∧ PL w wx x a len cap g a1 n cap1)
  case first =>
    have uc := @Up.cell2
    have uf := @Up.frozen2
    refine wp_region_mild 31 rfl (by kernel_rfl) ?_
    refine mild_take (v := ?v201) 0 rfl (by kernel_rfl) (by kernel_rfl) (by kernel_rfl) (fun _ _ _ h => h) (by kernel_rfl) (fun Wu K hK => ?hy201) ?go201
    case hy201 =>
      go_big_quiet_op
      simp only [Act.put, List.setIfInBounds_toArray, List.set_cons_zero, List.set_cons_succ] at hK
      exact hK
    simp only [Act.put, List.setIfInBounds_toArray, List.set_cons_zero, List.set_cons_succ]
    refine mild_take (v := ?v202) 1 rfl (by kernel_rfl) (by kernel_rfl) (by kernel_rfl) (fun _ _ _ h => h) (by kernel_rfl) (fun Wu K hK => ?hy202) ?go202
    case hy202 =>
      go_big_quiet_op
      simp only [Act.put, List.setIfInBounds_toArray, List.set_cons_zero, List.set_cons_succ] at hK
      exact hK
    simp only [Act.put, List.setIfInBounds_toArray, List.set_cons_zero, List.set_cons_succ]
    refine mild_take (v := ?v203) 2 rfl (by kernel_rfl) (by kernel_rfl) (by kernel_rfl) (fun _ _ _ h => h) (by kernel_rfl) (fun Wu K hK => ?hy203) ?go203
    case hy203 =>
      go_big_quiet_op
      simp only [Act.put, List.setIfInBounds_toArray, List.set_cons_zero, List.set_cons_succ] at hK
      refine ⟨_, fun u => Calls.up_same (within_any _ _ _ (by omega) (by omega)), ?_⟩
      exact hK
    simp only [Act.put, List.setIfInBounds_toArray, List.set_cons_zero, List.set_cons_succ]
    refine mild_take (v := ?v204) 3 rfl (by kernel_rfl) (by kernel_rfl) (by kernel_rfl) (fun _ _ _ h => h) (by kernel_rfl) (fun Wu K hK => ?hy204) ?go204
    case hy204 =>
      go_big_quiet_op
      simp only [Act.put, List.setIfInBounds_toArray, List.set_cons_zero, List.set_cons_succ] at hK
      exact hK
    simp only [Act.put, List.setIfInBounds_toArray, List.set_cons_zero, List.set_cons_succ]
    refine mild_take (v := ?v205) 4 rfl (by kernel_rfl) (by kernel_rfl) (by kernel_rfl) (fun _ _ _ h => h) (by kernel_rfl) (fun Wu K hK => ?hy205) ?go205
    case hy205 =>
      go_big_quiet_op
      simp only [Act.put, List.setIfInBounds_toArray, List.set_cons_zero, List.set_cons_succ] at hK
      exact hK
    simp only [Act.put, List.setIfInBounds_toArray, List.set_cons_zero, List.set_cons_succ]
    refine mild_take (v := ?v206) 5 rfl (by kernel_rfl) (by kernel_rfl) (by kernel_rfl) (fun _ _ _ h => h) (by kernel_rfl) (fun Wu K hK => ?hy206) ?go206
    case hy206 =>
      go_big_quiet_op
      simp only [Act.put, List.setIfInBounds_toArray, List.set_cons_zero, List.set_cons_succ] at hK
      exact hK
    simp only [Act.put, List.setIfInBounds_toArray, List.set_cons_zero, List.set_cons_succ]
    refine mild_take (v := ?v207) 6 rfl (by kernel_rfl) (by kernel_rfl) (by kernel_rfl) (fun _ _ _ h => h) (by kernel_rfl) (fun Wu K hK => ?hy207) ?go207
    case hy207 =>
      go_big_quiet_op
      simp only [Act.put, List.setIfInBounds_toArray, List.set_cons_zero, List.set_cons_succ] at hK
      refine ⟨_, fun u => Calls.up_same (within_any _ _ _ (by omega) (by omega)), ?_⟩
      exact hK
    simp only [Act.put, List.setIfInBounds_toArray, List.set_cons_zero, List.set_cons_succ]
    refine mild_take (v := ?v208) 7 rfl (by kernel_rfl) (by kernel_rfl) (by kernel_rfl) (fun _ _ _ h => h) (by kernel_rfl) (fun Wu K hK => ?hy208) ?go208
    case hy208 =>
      go_big_quiet_op
      simp only [Act.put, List.setIfInBounds_toArray, List.set_cons_zero, List.set_cons_succ] at hK
      exact hK
    simp only [Act.put, List.setIfInBounds_toArray, List.set_cons_zero, List.set_cons_succ]
    refine mild_take (v := ?v209) 8 rfl (by kernel_rfl) (by kernel_rfl) (by kernel_rfl) (fun _ _ _ h => h) (by kernel_rfl) (fun Wu K hK => ?hy209) ?go209
    case hy209 =>
      go_big_quiet_op
      simp only [Act.put, List.setIfInBounds_toArray, List.set_cons_zero, List.set_cons_succ] at hK
      exact hK
    simp only [Act.put, List.setIfInBounds_toArray, List.set_cons_zero, List.set_cons_succ]
    refine mild_take (v := ?v210) 9 rfl (by kernel_rfl) (by kernel_rfl) (by kernel_rfl) (fun _ _ _ h => h) (by kernel_rfl) (fun Wu K hK => ?hy210) ?go210
    case hy210 =>
      go_big_quiet_op
      simp only [Act.put, List.setIfInBounds_toArray, List.set_cons_zero, List.set_cons_succ] at hK
      refine ⟨_, fun u => Calls.up_same (within_any _ _ _ (by omega) (by omega)), ?_⟩
      exact hK
    simp only [Act.put, List.setIfInBounds_toArray, List.set_cons_zero, List.set_cons_succ]
    refine mild_take (v := ?v211) 10 rfl (by kernel_rfl) (by kernel_rfl) (by kernel_rfl) (fun _ _ _ h => h) (by kernel_rfl) (fun Wu K hK => ?hy211) ?go211
    case hy211 =>
      go_big_quiet_op
      simp only [Act.put, List.setIfInBounds_toArray, List.set_cons_zero, List.set_cons_succ] at hK
      exact hK
    simp only [Act.put, List.setIfInBounds_toArray, List.set_cons_zero, List.set_cons_succ]
    refine mild_take (v := ?v212) 11 rfl (by kernel_rfl) (by kernel_rfl) (by kernel_rfl) (fun _ _ _ h => h) (by kernel_rfl) (fun Wu K hK => ?hy212) ?go212
    case hy212 =>
      go_big_quiet_op
      simp only [Act.put, List.setIfInBounds_toArray, List.set_cons_zero, List.set_cons_succ] at hK
      exact hK
    simp only [Act.put, List.setIfInBounds_toArray, List.set_cons_zero, List.set_cons_succ]
    refine mild_take (v := ?v213) 12 rfl (by kernel_rfl) (by kernel_rfl) (by kernel_rfl) (fun _ _ _ h => h) (by kernel_rfl) (fun Wu K hK => ?hy213) ?go213
    case hy213 =>
      go_big_quiet_op
      simp only [Act.put, List.setIfInBounds_toArray, List.set_cons_zero, List.set_cons_succ] at hK
      refine ⟨_, fun u => Calls.up_same (within_any _ _ _ (by omega) (by omega)), ?_⟩
      exact hK
    simp only [Act.put, List.setIfInBounds_toArray, List.set_cons_zero, List.set_cons_succ]
    refine mild_take (v := ?v214) 13 rfl (by kernel_rfl) (by kernel_rfl) (by kernel_rfl) (fun _ _ _ h => h) (by kernel_rfl) (fun Wu K hK => ?hy214) ?go214
    case hy214 =>
      go_big_quiet_op
      simp only [Act.put, List.setIfInBounds_toArray, List.set_cons_zero, List.set_cons_succ] at hK
      exact hK
    simp only [Act.put, List.setIfInBounds_toArray, List.set_cons_zero, List.set_cons_succ]
    refine mild_take (v := ?v215) 14 rfl (by kernel_rfl) (by kernel_rfl) (by kernel_rfl) (fun _ _ _ h => h) (by kernel_rfl) (fun Wu K hK => ?hy215) ?go215
    case hy215 =>
      go_big_quiet_op
      simp only [Act.put, List.setIfInBounds_toArray, List.set_cons_zero, List.set_cons_succ] at hK
      exact hK
    simp only [Act.put, List.setIfInBounds_toArray, List.set_cons_zero, List.set_cons_succ]
    refine mild_take (v := ?v216) 15 rfl (by kernel_rfl) (by kernel_rfl) (by kernel_rfl) (fun _ _ _ h => h) (by kernel_rfl) (fun Wu K hK => ?hy216) ?go216
    case hy216 =>
      go_big_quiet_op
      simp only [Act.put, List.setIfInBounds_toArray, List.set_cons_zero, List.set_cons_succ] at hK
      refine ⟨_, fun u => Calls.up_same (within_any _ _ _ (by omega) (by omega)), ?_⟩
      exact hK
    simp only [Act.put, List.setIfInBounds_toArray, List.set_cons_zero, List.set_cons_succ]
    refine mild_take (v := ?v217) 16 rfl (by kernel_rfl) (by kernel_rfl) (by kernel_rfl) (fun _ _ _ h => h) (by kernel_rfl) (fun Wu K hK => ?hy217) ?go217
    case hy217 =>
      go_big_quiet_op
      simp only [Act.put, List.setIfInBounds_toArray, List.set_cons_zero, List.set_cons_succ] at hK
      exact hK
    simp only [Act.put, List.setIfInBounds_toArray, List.set_cons_zero, List.set_cons_succ]
    refine mild_take (v := ?v218) 17 rfl (by kernel_rfl) (by kernel_rfl) (by kernel_rfl) (fun _ _ _ h => h) (by kernel_rfl) (fun Wu K hK => ?hy218) ?go218
    case hy218 =>
      go_big_quiet_op
      simp only [Act.put, List.setIfInBounds_toArray, List.set_cons_zero, List.set_cons_succ] at hK
      exact hK
    simp only [Act.put, List.setIfInBounds_toArray, List.set_cons_zero, List.set_cons_succ]
    refine mild_take (v := ?v219) 18 rfl (by kernel_rfl) (by kernel_rfl) (by kernel_rfl) (fun _ _ _ h => h) (by kernel_rfl) (fun Wu K hK => ?hy219) ?go219
    case hy219 =>
      go_big_quiet_op
      simp only [Act.put, List.setIfInBounds_toArray, List.set_cons_zero, List.set_cons_succ] at hK
      refine ⟨_, fun u => Calls.up_same (within_any _ _ _ (by omega) (by omega)), ?_⟩
      exact hK
    simp only [Act.put, List.setIfInBounds_toArray, List.set_cons_zero, List.set_cons_succ]
    refine mild_take (v := ?v220) 19 rfl (by kernel_rfl) (by kernel_rfl) (by kernel_rfl) (fun _ _ _ h => h) (by kernel_rfl) (fun Wu K hK => ?hy220) ?go220
    case hy220 =>
      go_big_quiet_op
      simp only [Act.put, List.setIfInBounds_toArray, List.set_cons_zero, List.set_cons_succ] at hK
      exact hK
    simp only [Act.put, List.setIfInBounds_toArray, List.set_cons_zero, List.set_cons_succ]
    refine mild_take (v := ?v221) 20 rfl (by kernel_rfl) (by kernel_rfl) (by kernel_rfl) (fun _ _ _ h => h) (by kernel_rfl) (fun Wu K hK => ?hy221) ?go221
    case hy221 =>
      go_big_quiet_op
      simp only [Act.put, List.setIfInBounds_toArray, List.set_cons_zero, List.set_cons_succ] at hK
      exact hK
    simp only [Act.put, List.setIfInBounds_toArray, List.set_cons_zero, List.set_cons_succ]
    refine mild_take (v := ?v222) 21 rfl (by kernel_rfl) (by kernel_rfl) (by kernel_rfl) (fun _ _ _ h => h) (by kernel_rfl) (fun Wu K hK => ?hy222) ?go222
    case hy222 =>
      go_big_quiet_op
      simp only [Act.put, List.setIfInBounds_toArray, List.set_cons_zero, List.set_cons_succ] at hK
      exact hK
    simp only [Act.put, List.setIfInBounds_toArray, List.set_cons_zero, List.set_cons_succ]
    refine mild_take (v := ?v223) 22 rfl (by kernel_rfl) (by kernel_rfl) (by kernel_rfl) (fun _ _ _ h => h) (by kernel_rfl) (fun Wu K hK => ?hy223) ?go223
    case hy223 =>
      go_big_quiet_op
      simp only [Act.put, List.setIfInBounds_toArray, List.set_cons_zero, List.set_cons_succ] at hK
      refine ⟨_, fun u => Calls.up_same (within_any _ _ _ (by omega) (by omega)), ?_⟩
      exact hK
    simp only [Act.put, List.setIfInBounds_toArray, List.set_cons_zero, List.set_cons_succ]
    refine mild_take (v := ?v224) 23 rfl (by kernel_rfl) (by kernel_rfl) (by kernel_rfl) (fun _ _ _ h => h) (by kernel_rfl) (fun Wu K hK => ?hy224) ?go224
    case hy224 =>
      go_big_quiet_op
      simp only [Act.put, List.setIfInBounds_toArray, List.set_cons_zero, List.set_cons_succ] at hK
      exact hK
    simp only [Act.put, List.setIfInBounds_toArray, List.set_cons_zero, List.set_cons_succ]
    refine mild_take (v := ?v225) 24 rfl (by kernel_rfl) (by kernel_rfl) (by kernel_rfl) (fun _ _ _ h => h) (by kernel_rfl) (fun Wu K hK => ?hy225) ?go225
    case hy225 =>
      go_big_quiet_op
      simp only [Act.put, List.setIfInBounds_toArray, List.set_cons_zero, List.set_cons_succ] at hK
      exact hK
    simp only [Act.put, List.setIfInBounds_toArray, List.set_cons_zero, List.set_cons_succ]
    refine mild_take (v := ?v226) 25 rfl (by kernel_rfl) (by kernel_rfl) (by kernel_rfl) (fun _ _ _ h => h) (by kernel_rfl) (fun Wu K hK => ?hy226) ?go226
    case hy226 =>
      go_big_quiet_op
      simp only [Act.put, List.setIfInBounds_toArray, List.set_cons_zero, List.set_cons_succ] at hK
      exact hK
    simp only [Act.put, List.setIfInBounds_toArray, List.set_cons_zero, List.set_cons_succ]
    refine mild_take (v := ?v227) 26 rfl (by kernel_rfl) (by kernel_rfl) (by kernel_rfl) (fun _ _ _ h => h) (by kernel_rfl) (fun Wu K hK => ?hy227) ?go227
    case hy227 =>
      go_big_quiet_op
      simp only [Act.put, List.setIfInBounds_toArray, List.set_cons_zero, List.set_cons_succ] at hK
      exact hK
    simp only [Act.put, List.setIfInBounds_toArray, List.set_cons_zero, List.set_cons_succ]
    intro W
    clear uc uf
    have hz0 : w.heap.size + 2 ≤ W.1.heap.size := by have := W.2.size; simpa using this
    have bpW : Bx W.1 w.heap.size x (.slice a len cap) := bp0.next W.2
    have brW : Bx W.1 (w.heap.size + 1) zeroPk (.slice none 0 0) := br0.next W.2
    have hsW := hsl.below (next (ba (ba (Below.refl _ _))) W.2)
    have BW : Below w.heap.size w W.1 := next (ba (ba (Below.refl _ _))) W.2
    have BW0 := W.2
    clear bp0 br0 hsl
    refine up_two 27 29 (by kernel_rfl) rfl rfl ?_ ?_
    · go_wp2_with (go_at_call 21; refine (cut_any a x.z len cap 4 _ hsW (by omega)).mono ?_; rintro e w1 ⟨v1, rfl, hown1, hb1⟩; obtain ⟨a1, cap1, rfl, hs1⟩ := hown1.sl' HN.out; have lo1 := hown1.lo)
      refine ⟨by exact next BW0 hb1, fun u => ?_⟩
      refine up_raise (by exact next (next BW0 hb1) u.2) ?_
      refine mild_take (v := ?v228) 28 rfl (by kernel_rfl) (by kernel_rfl) (by kernel_rfl) (fun _ _ _ h => h) (by kernel_rfl) (fun Wu K hK => ?hy228) ?go228
      case hy228 =>
        go_big_quiet_op
        simp only [Act.put, List.setIfInBounds_toArray, List.set_cons_zero, List.set_cons_succ] at hK
        exact hK
      simp only [Act.put, List.setIfInBounds_toArray, List.set_cons_zero, List.set_cons_succ]
      intro W2
      have B2 : Below W.1.heap.size W.1 W2.1 := next (next hb1 u.2) W2.2
      have bp2 := bpW.next B2
      have br2 := brW.next B2
      have hs2 := hs1.below (next u.2 W2.2)
      have lo2 : ∀ ad : Addr, a1 = some ad → W.1.heap.size ≤ ad.block ∧ ad.block < W2.1.heap.size := fun ad e => ⟨(lo1 ad e).1, by have := (lo1 ad e).2; have := u.2.size; have := W2.2.size; omega⟩
      have z2 : W.1.heap.size ≤ W2.1.heap.size := B2.size
      have BX := next BW B2
      refine up_list 29 (by kernel_rfl) rfl ?_
      go_wp2
      refine ⟨by exact ba W2.2, fun u3 => ?_⟩
      have bq3 := (Bx.made W2.1 zeroPk (.slice none 0 0)).next (by exact u3.2)
      have B3 : Below W2.1.heap.size W2.1 u3.1 := next (ba (Below.refl _ _)) u3.2
      have bp3 := bp2.next B3
      have br3 := br2.next B3
      have hs3 := hs2.below B3
      have BX3 := next BX B3
      have BU : Below u.1.heap.size u.1 u3.1 := next W2.2 B3
      have hzu : u.1.heap.size ≤ W2.1.heap.size := W2.2.size
      generalize u3.1 = wq at *
      generalize W2.1.heap.size = gq at *
      clear u3 B2 B3 bp2 br2 hs2
      have fq := bq3.fz
      obtain ⟨q0, q1, q2, q3, q4, q5, q6, q7, q8, _, _⟩ := id bq3
      refine up_list 30 (by kernel_rfl) rfl ?_
      go_wp2
      refine ⟨nine_below (y := playX x) BU hzu, fun u4 => ?_⟩
      have PLx : PL w u4.1 x a len cap gq a1 n cap1 := PL.of bp3 br3 bq3 hs3 BX3 (by omega) (fun ad e => by have := lo2 ad e; have := bq3.lt; omega) u4.2
      refine up_done (by kernel_rfl) ?_
      go_wp2
      go_meet
      case rel => exact ⟨gq, a1, cap1, rfl, PLx⟩
    · go_wp2
      refine ⟨by exact ba BW0, fun u => ?_⟩
      have bq1 := (Bx.made W.1 zeroPk (.slice none 0 0)).next (by exact u.2)
      have B1 : Below W.1.heap.size W.1 u.1 := next (ba (Below.refl _ _)) u.2
      have hsu := hsW.below B1
      have hzu : W.1.heap.size < u.1.heap.size := by have := u.2.size; simp at this; omega
      refine up_list 27 (by kernel_rfl) rfl ?_
      go_wp2_with (go_at_call 21; refine (cut_any a x.z len cap 4 _ hsu (by omega)).mono ?_; rintro e w1 ⟨v1, rfl, hown1, hb1⟩; obtain ⟨a1, cap1, rfl, hs1⟩ := hown1.sl' HN.out; have lo1 := hown1.lo)
      refine ⟨by exact next (next BW0 B1) hb1, fun u2 => ?_⟩
      refine up_list 28 (by kernel_rfl) rfl ?_
      go_wp2
      refine ⟨by exact next (next (next BW0 B1) hb1) u2.2, fun u3 => ?_⟩
      have B3 : Below u.1.heap.size u.1 u3.1 := next (next hb1 u2.2) u3.2
      have bq3 := bq1.next B3
      have bp3 := (bpW.next B1).next B3
      have br3 := (brW.next B1).next B3
      have hs3 := hs1.below (next u2.2 u3.2)
      have BX3 := next (next BW B1) B3
      have BU := next (next BW0 B1) B3
      have hzq : w1.heap.size ≤ u3.1.heap.size := by have := u2.2.size; have := u3.2.size; omega
      generalize u3.1 = wq at *
      clear u3 B3
      have fq := bq3.fz
      obtain ⟨q0, q1, q2, q3, q4, q5, q6, q7, q8, _, _⟩ := id bq3
      refine up_list 30 (by kernel_rfl) rfl ?_
      go_wp2
      refine ⟨nine_below (y := playX x) BU (by simpa using hz0), fun u4 => ?_⟩
      have PLx : PL w u4.1 x a len cap W.1.heap.size a1 n cap1 := PL.of bp3 br3 bq3 hs3 BX3 (by omega) (fun ad e => by have := lo1 ad e; have := hzq; omega) u4.2
      refine up_done (by kernel_rfl) ?_
      go_wp2
      go_meet
      case rel => exact ⟨_, a1, cap1, rfl, PLx⟩
  case rest =>
    obtain ⟨g, a1, cap1, rfl, hbp, hbr, hbq, gl, hs, far, BW⟩ := hcut
    clear bp0 br0 k0 f0 t0 i0 l0 p0 s0
    obtain ⟨c, hc, m0, m1⟩ : ∃ c, how % 40 = c ∧ 0 ≤ c ∧ c < 40 := ⟨_, rfl, by omega, by omega⟩
    have HP : Hid (how % 40 = c) := hc
    go_upto_block 0 with (go_at_call 9; refine (within_any _ _ _ (by omega) (by omega)).mono ?_; rintro e w1 ⟨rfl, rfl⟩; rw [hc])
    clear hc
    have r4 : R64 x.z → R64 (x.z.take 4) := fun h => h.take 4
    have hright := play_right x
    go_cut [36] (fun _ wx => ∃ (y : Pk) (a2 : Option Addr) (n2 c2 : Nat), Bx wx g y (.slice a2 n2 c2) ∧ Bx wx (w.heap.size + 1) zeroPk (.slice none 0 0) ∧ Sl wx a2 n2 c2 y.z ∧ (∀ ad : Addr, a2 = some ad → w.heap.size + 2 ≤ ad.block ∧ ad.block < wx.heap.size) ∧ n2 ≤ 6 ∧ (c < 31 → y.right = true) ∧ (R64 x.z → R64 y.z) ∧ Below w.heap.size w wx)
    case first =>
      obtain ⟨s0, s1, s2, s3, s4, s5, s6, s7, s8, sf, slt⟩ := id hbp
      obtain ⟨q0, q1, q2, q3, q4, q5, q6, q7, q8, qf, qlt⟩ := id hbq
      have fr : ∀ (o : Nat) (u : Value), Bx (wc.setCell ⟨g, o, none⟩ u) (w.heap.size + 1) zeroPk (.slice none 0 0) := fun o u => hbr.far (by simp only; omega)
      have f1 : ∀ (o : Nat) (u : Value), Sl (wc.setCell ⟨g, o, none⟩ u) a1 n cap1 (x.z.take 4) := fun o u => hs.far (fun ad e => (far ad e).1)
      have fb : ∀ (o : Nat) (u : Value), Below w.heap.size w (wc.setCell ⟨g, o, none⟩ u) := fun o u => BW.setCell (by simp only; omega) _
      by_cases hlo : c < 31
      · have n31 : (c == 31) = false := by simp; omega
        have n32 : (c == 32) = false := by simp; omega
        have n33 : (c == 33) = false := by simp; omega
        have n34 : (c == 34) = false := by simp; omega
        have n35 : (c == 35) = false := by simp; omega
        have n36 : (c == 36) = false := by simp; omega
        have n37 : (c == 37) = false := by simp; omega
        have n38 : (c == 38) = false := by simp; omega
        have n39 : (c == 39) = false := by simp; omega
        go_wp2
        go_meet
        case rel => exact ⟨playX x, a1, n, cap1, hbq, hbr, hs, fun ad e => (far ad e).2, by omega, fun _ => hright, r4, BW⟩
      · have hh : c = 31 ∨ c = 32 ∨ c = 33 ∨ c = 34 ∨ c = 35 ∨ c = 36 ∨ c = 37 ∨ c = 38 ∨ c = 39 := by omega
        rcases hh with rfl | rfl | rfl | rfl | rfl | rfl | rfl | rfl | rfl
        · go_wp2
          go_meet
          case rel => exact ⟨_, a1, n, cap1, hbq.setK _, fr _ _, f1 _ _, fun ad e => by have := (far ad e).2; simpa using this, by omega, fun h => by omega, r4, fb _ _⟩
        · go_wp2
          go_meet
          case rel => exact ⟨_, a1, n, cap1, hbq.setF _, fr _ _, f1 _ _, fun ad e => by have := (far ad e).2; simpa using this, by omega, fun h => by omega, r4, fb _ _⟩
        · go_wp2
          go_meet
          case rel => exact ⟨_, a1, n, cap1, hbq.setT _, fr _ _, f1 _ _, fun ad e => by have := (far ad e).2; simpa using this, by omega, fun h => by omega, r4, fb _ _⟩
        · go_wp2
          go_meet
          case rel => exact ⟨_, a1, n, cap1, hbq.setI _, fr _ _, f1 _ _, fun ad e => by have := (far ad e).2; simpa using this, by omega, fun h => by omega, r4, fb _ _⟩
        · go_wp2
          go_meet
          case rel => exact ⟨_, a1, n, cap1, hbq.setL _, fr _ _, f1 _ _, fun ad e => by have := (far ad e).2; simpa using this, by omega, fun h => by omega, r4, fb _ _⟩
        · go_wp2
          go_meet
          case rel => exact ⟨_, a1, n, cap1, hbq.setP _, fr _ _, f1 _ _, fun ad e => by have := (far ad e).2; simpa using this, by omega, fun h => by omega, r4, fb _ _⟩
        · go_wp2
          go_meet
          case rel => exact ⟨_, a1, n, cap1, hbq.setS _, fr _ _, f1 _ _, fun ad e => by have := (far ad e).2; simpa using this, by omega, fun h => by omega, r4, fb _ _⟩
        · have hsx := hsl.below BW
          obtain ⟨n6, hn6⟩ : ∃ n6, (x.z.take 6).length = n6 := ⟨_, rfl⟩
          have HN6 : Hid ((x.z.take 6).length = n6) := hn6
          have h6 : n6 ≤ 6 := by rw [← hn6]; simp; omega
          clear hn6
          go_wp2_with (go_at_call 21; refine (cut_any a x.z len cap 6 _ hsx (by omega)).mono ?_; rintro e w2 ⟨v2, rfl, hown2, hb2⟩; obtain ⟨a2, cap2, rfl, hs2⟩ := hown2.sl' HN6.out; have lo2 := hown2.lo; have hbq2 := hbq.next hb2; have hqf := hbq2.fz; have hq8 := hbq2.c8)
          go_meet
          case rel => exact ⟨_, a2, n6, cap2, hbq2.setZ (x.z.take 6) _, (hbr.next hb2).far (by simp only; omega), hs2.far (fun ad e => by have := lo2 ad e; simp only; omega), fun ad e => by have := lo2 ad e; simp only [World.size_setCell]; omega, h6, fun h => by omega, fun h => h.take 6, (next BW hb2).setCell (by simp only; omega) _⟩
        · go_wp2_with (go_at_call 9; refine (within_any _ _ _ (by omega) (by omega)).mono ?_; rintro e w1 ⟨rfl, rfl⟩)
          go_meet
          case rel => exact ⟨_, a1, n, cap1, hbq.setI _, fr _ _, f1 _ _, fun ad e => by have := (far ad e).2; simpa using this, by omega, fun h => by omega, r4, fb _ _⟩
    case rest =>
      obtain ⟨y, a2, n2, c2, by2, br2, hs2, lo2, hn2, hr2, h64, B2⟩ := hcut
      have hi2 : ∀ ad : Addr, a2 = some ad → ad.block < wc.heap.size := fun ad e => (lo2 ad e).2
      obtain ⟨y0, y1, y2, y3, y4, y5, y6, y7, y8, yf, ylt⟩ := by2
      obtain ⟨r0, r1, r2, r3, r4', r5, r6, r7, r8, rf, rlt⟩ := br2
      clear hbp hbr hbq hs BW hsl r4 hright far
      have hne : w.heap.size + 1 ≠ g := by omega
      go_wp2
      refine bodyPost_ret (v := y.val (.slice a2 n2 c2)) (by simp [results, Try.results19, go_sem, *]) rfl ⟨_, rfl, y, a2, n2, c2, rfl, ?_, hn2, fun h => hr2 (by rw [← HP.out]; exact h), h64, ?_, ?_⟩
      · exact far9 (P := fun V => Sl V a2 n2 c2 y.z) (fun V o u h => h.far (fun ad e => by have := lo2 ad e; simp only; omega)) hs2
      · intro ad e
        refine ⟨by have := lo2 ad e; omega, ?_⟩
        have := hi2 ad e
        simpa using this
      · exact far9 (P := fun V => Below w.heap.size w V) (fun V o u h => h.setCell (by simp only; omega) _) B2
end Go.Proofs.Ytgeiagndpfdnlaa
end
