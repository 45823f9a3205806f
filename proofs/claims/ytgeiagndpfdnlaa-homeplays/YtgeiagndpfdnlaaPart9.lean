/- The document's Handle. Conditions: as each theorem states them.
The document's Handle of an Unlock. Conditions: as each theorem states them. -/
import Derived.Test.YtgeiagndpfdnlaaHd1
import Derived.Test.YtgeiagndpfdnlaaPktRight
section
namespace Go.Proofs.Ytgeiagndpfdnlaa
open Go.RowKit Go.Maps
set_option linter.unusedVariables false
set_option maxRecDepth 20000

/-- Is a request taken? -/
def takenP (N : Nat) (node : Int) (x : Pk) : Bool := x.right && decide (x.t = node ∧ x.f < (N : Int) ∧ (x.k = 1 ∨ x.k = 2))
/-- The answer to a Lock. -/
def grantP (node who id l : Int) (DL : List Hr) : Pk := ⟨7, node, who, id, l, ((DL[l.toNat]?).getD zeroHr).h, ((DL[l.toNat]?).getD zeroHr).s, false, ((DL[l.toNat]?).getD zeroHr).z⟩
theorem rightIs (x : Pk) (a : Option Addr) (n c : Nat) (w : World) (hsl : Sl w a n c x.z) (b : Bool) (hb : x.right = b) :
    Calls Try.prog 40 #[x.val (.slice a n c)] w fun e w' => e = .returned (.bool b) ∧ Below w.heap.size w w' := by
  subst hb; exact right_any x a n c w hsl
section
variable {w : World} {g m N L K : Nat} {A : Nat → Prop} {node : Int} {DL : List Hr} {o : List (Int × Int)} {q : List Wr}
theorem HD.cells (h : HD w g A m N L K node DL o q) : w.cell? ⟨g, 0, none⟩ = some (.int .i64 (N : Int)) ∧ w.cell? ⟨g, 8, none⟩ = some (.int .i64 node) ∧ g < w.heap.size := by
  obtain ⟨M, D, R, ra, rc, M2, N2, ao, no, co, aq, nq, cq, d, _⟩ := h
  exact ⟨d.c0, d.c8, d.lt⟩
theorem hd_here (h : HD w g A m N L K node DL o q) (hN : 1 ≤ N) (l : Int) : Calls Try.prog 41 #[.pointer (some ⟨g, 0, none⟩), .int .i64 l] w fun e w' => e = .returned (.bool (hereI N L node l)) ∧ Below w.heap.size w w' := by
  obtain ⟨M, D, R, ra, rc, M2, N2, ao, no, co, aq, nq, cq, d, _⟩ := h
  exact dhere_any d hN l
theorem hd_granted (h : HD w g A m N L K node DL o q) (hL : L ≤ 8) {l : Int} (hh : hereI N L node l = true) (who id : Int) :
    Calls Try.prog 38 #[.pointer (some ⟨g, 0, none⟩), .int .i64 l, .int .i64 who, .int .i64 id] w fun e w' => ∃ d, e = .returned ((grantP node who id l DL).val d) ∧ DatZ w' (fun k => w.heap.size ≤ k) (grantP node who id l DL).z d ∧ Below w.heap.size w w' := by
  obtain ⟨M, D, R, ra, rc, M2, N2, ao, no, co, aq, nq, cq, d, e, _⟩ := h
  have hl : 0 ≤ l ∧ l < (L : Int) := by
    unfold hereI at hh
    simp only [Bool.and_eq_true] at hh
    exact ⟨of_decide_eq_true hh.1.1, of_decide_eq_true hh.1.2⟩
  obtain ⟨ln, rfl⟩ : ∃ ln : Nat, l = ln := ⟨l.toNat, by omega⟩
  refine (dgranted_row d (by omega) hL who id).mono ?_
  rintro en w' ⟨x, v, dd, hx, rfl, hd, hb⟩
  have ex : (DL[(ln : Int).toNat]?).getD zeroHr = x := by
    rw [← e, List.getElem?_map, show (ln : Int).toNat = ln by omega, hx]
    rfl
  unfold grantP
  rw [ex]
  exact ⟨dd, rfl, hd, hb⟩
theorem HD.old (h : HD w g A m N L K node DL o q) : ∀ j, A j → j < w.heap.size := by
  obtain ⟨M, D, R, ra, rc, M2, N2, ao, no, co, aq, nq, cq, d, _, _, _, _, _, _, h⟩ := h
  exact h
set_option maxHeartbeats 1600000 in
theorem dh_arg1 (h : HD w g A m N L K node DL o q) (x : Pk) (a : Option Addr) (n c : Nat) (hsl : Sl w a n c x.z) (HR : Hid (x.right = false))  :
    Calls Try.prog 22 #[.pointer (some ⟨g, 0, none⟩), x.val (.slice a n c)] w fun e w' => e = .returned (.tuple #[zeroPk.val (.slice none 0 0), .bool false, .int .i64 1]) ∧ Below w.heap.size w w' := by

  unfold Pk.val
  go_enter Try.func22, Try.ntmps22
  go_upto_region 1 with fail
  have hB : Below w.heap.size w ((w.alloc (.cells #[.int .i64 x.k, .int .i64 x.f, .int .i64 x.t, .int .i64 x.i, .int .i64 x.l, .int .i64 x.p, .int .i64 x.s, .bool x.fl, .slice a n c] 32)).alloc (.cells #[.int .i64 0, .int .i64 0, .int .i64 0, .int .i64 0, .int .i64 0, .int .i64 0, .int .i64 0, .bool false, .slice none 0 0] 32)) := ba (ba (Below.refl _ _))
  have bxp : Bx ((w.alloc (.cells #[.int .i64 x.k, .int .i64 x.f, .int .i64 x.t, .int .i64 x.i, .int .i64 x.l, .int .i64 x.p, .int .i64 x.s, .bool x.fl, .slice a n c] 32)).alloc (.cells #[.int .i64 0, .int .i64 0, .int .i64 0, .int .i64 0, .int .i64 0, .int .i64 0, .int .i64 0, .bool false, .slice none 0 0] 32)) w.heap.size x (.slice a n c) := (Bx.made w x (.slice a n c)).next (ba (Below.refl _ _))
  have bxr : Bx ((w.alloc (.cells #[.int .i64 x.k, .int .i64 x.f, .int .i64 x.t, .int .i64 x.i, .int .i64 x.l, .int .i64 x.p, .int .i64 x.s, .bool x.fl, .slice a n c] 32)).alloc (.cells #[.int .i64 0, .int .i64 0, .int .i64 0, .int .i64 0, .int .i64 0, .int .i64 0, .int .i64 0, .bool false, .slice none 0 0] 32)) (w.heap.size + 1) zeroPk (.slice none 0 0) := Bx.made' (w.alloc (.cells #[.int .i64 x.k, .int .i64 x.f, .int .i64 x.t, .int .i64 x.i, .int .i64 x.l, .int .i64 x.p, .int .i64 x.s, .bool x.fl, .slice a n c] 32)) zeroPk (.slice none 0 0) _ (by simp)
  have h1 := h.below hB
  have hs1 := hsl.below hB
  obtain ⟨c0, c8, lt⟩ := h1.cells
  have HG : Hid (g < w.heap.size ∧ w.heap.size ≤ ((w.alloc (.cells #[.int .i64 x.k, .int .i64 x.f, .int .i64 x.t, .int .i64 x.i, .int .i64 x.l, .int .i64 x.p, .int .i64 x.s, .bool x.fl, .slice a n c] 32)).alloc (.cells #[.int .i64 0, .int .i64 0, .int .i64 0, .int .i64 0, .int .i64 0, .int .i64 0, .int .i64 0, .bool false, .slice none 0 0] 32)).heap.size) := ⟨h.cells.2.2, hB.size⟩
  have HA : Hid (∀ j, A j → j < w.heap.size) := h.old
  clear hsl h
  generalize World.alloc _ (.cells #[.int .i64 0, .int .i64 0, .int .i64 0, .int .i64 0, .int .i64 0, .int .i64 0, .int .i64 0, .bool false, .slice none 0 0] 32) = W at *
  obtain ⟨q0, q1, q2, q3, q4, q5, q6, q7, q8, qf, ql⟩ := id bxp
  have uc := @Up.cell
  have uf := @Up.frozen
  refine wp_region_up (by kernel_rfl) (by kernel_rfl) ?_
  repeat (go_big_quiet_step ((go_at_call 40; exact Calls.up_of (rightIs x a n c _ (hs1.below (Subtype.property _)) false HR.out))))
  refine wpQuiet_nil ?_
  rintro _ ⟨u, rfl⟩
  clear uc uf
  obtain ⟨r0, r1, r2, r3, r4, r5, r6, r7, r8, rf, rl⟩ := bxr.next u.2
  have f0 := rf 0
  have hBu := next hB u.2
  clear c0 c8 lt q0 q1 q2 q3 q4 q5 q6 q7 q8 qf ql bxp bxr h1 hs1 hB
  generalize u.val = V at *
  go_wp2
  refine bodyPost_ret (v := .tuple #[Pk.val zeroPk (.slice none 0 0), .bool false, .int .i64 1]) (by simp [results, Try.results22, go_sem, *, zeroPk]) rfl ⟨rfl, far9 (g := w.heap.size + 1) (y := zeroPk) (v := .slice none 0 0) (W := V) (P := fun V => Below w.heap.size w V) (fun V o u h => h.setCell (by simp) u) hBu⟩
set_option maxHeartbeats 1600000 in
theorem dh_arg2 (h : HD w g A m N L K node DL o q) (x : Pk) (a : Option Addr) (n c : Nat) (hsl : Sl w a n c x.z) (HR : Hid (x.right = true)) (h1 : x.t ≠ node) :
    Calls Try.prog 22 #[.pointer (some ⟨g, 0, none⟩), x.val (.slice a n c)] w fun e w' => e = .returned (.tuple #[zeroPk.val (.slice none 0 0), .bool false, .int .i64 1]) ∧ Below w.heap.size w w' := by
  have h1b : (x.t != node) = true := by simp [h1]
  unfold Pk.val
  go_enter Try.func22, Try.ntmps22
  go_upto_region 1 with fail
  have hB : Below w.heap.size w ((w.alloc (.cells #[.int .i64 x.k, .int .i64 x.f, .int .i64 x.t, .int .i64 x.i, .int .i64 x.l, .int .i64 x.p, .int .i64 x.s, .bool x.fl, .slice a n c] 32)).alloc (.cells #[.int .i64 0, .int .i64 0, .int .i64 0, .int .i64 0, .int .i64 0, .int .i64 0, .int .i64 0, .bool false, .slice none 0 0] 32)) := ba (ba (Below.refl _ _))
  have bxp : Bx ((w.alloc (.cells #[.int .i64 x.k, .int .i64 x.f, .int .i64 x.t, .int .i64 x.i, .int .i64 x.l, .int .i64 x.p, .int .i64 x.s, .bool x.fl, .slice a n c] 32)).alloc (.cells #[.int .i64 0, .int .i64 0, .int .i64 0, .int .i64 0, .int .i64 0, .int .i64 0, .int .i64 0, .bool false, .slice none 0 0] 32)) w.heap.size x (.slice a n c) := (Bx.made w x (.slice a n c)).next (ba (Below.refl _ _))
  have bxr : Bx ((w.alloc (.cells #[.int .i64 x.k, .int .i64 x.f, .int .i64 x.t, .int .i64 x.i, .int .i64 x.l, .int .i64 x.p, .int .i64 x.s, .bool x.fl, .slice a n c] 32)).alloc (.cells #[.int .i64 0, .int .i64 0, .int .i64 0, .int .i64 0, .int .i64 0, .int .i64 0, .int .i64 0, .bool false, .slice none 0 0] 32)) (w.heap.size + 1) zeroPk (.slice none 0 0) := Bx.made' (w.alloc (.cells #[.int .i64 x.k, .int .i64 x.f, .int .i64 x.t, .int .i64 x.i, .int .i64 x.l, .int .i64 x.p, .int .i64 x.s, .bool x.fl, .slice a n c] 32)) zeroPk (.slice none 0 0) _ (by simp)
  have h1 := h.below hB
  have hs1 := hsl.below hB
  obtain ⟨c0, c8, lt⟩ := h1.cells
  have HG : Hid (g < w.heap.size ∧ w.heap.size ≤ ((w.alloc (.cells #[.int .i64 x.k, .int .i64 x.f, .int .i64 x.t, .int .i64 x.i, .int .i64 x.l, .int .i64 x.p, .int .i64 x.s, .bool x.fl, .slice a n c] 32)).alloc (.cells #[.int .i64 0, .int .i64 0, .int .i64 0, .int .i64 0, .int .i64 0, .int .i64 0, .int .i64 0, .bool false, .slice none 0 0] 32)).heap.size) := ⟨h.cells.2.2, hB.size⟩
  have HA : Hid (∀ j, A j → j < w.heap.size) := h.old
  clear hsl h
  generalize World.alloc _ (.cells #[.int .i64 0, .int .i64 0, .int .i64 0, .int .i64 0, .int .i64 0, .int .i64 0, .int .i64 0, .bool false, .slice none 0 0] 32) = W at *
  obtain ⟨q0, q1, q2, q3, q4, q5, q6, q7, q8, qf, ql⟩ := id bxp
  have uc := @Up.cell
  have uf := @Up.frozen
  refine wp_region_up (by kernel_rfl) (by kernel_rfl) ?_
  repeat (go_big_quiet_step ((go_at_call 40; exact Calls.up_of (rightIs x a n c _ (hs1.below (Subtype.property _)) true HR.out))))
  refine wpQuiet_nil ?_
  rintro _ ⟨u, rfl⟩
  clear uc uf
  obtain ⟨r0, r1, r2, r3, r4, r5, r6, r7, r8, rf, rl⟩ := bxr.next u.2
  have f0 := rf 0
  have hBu := next hB u.2
  clear c0 c8 lt q0 q1 q2 q3 q4 q5 q6 q7 q8 qf ql bxp bxr h1 hs1 hB
  generalize u.val = V at *
  go_wp2
  refine bodyPost_ret (v := .tuple #[Pk.val zeroPk (.slice none 0 0), .bool false, .int .i64 1]) (by simp [results, Try.results22, go_sem, *, zeroPk]) rfl ⟨rfl, far9 (g := w.heap.size + 1) (y := zeroPk) (v := .slice none 0 0) (W := V) (P := fun V => Below w.heap.size w V) (fun V o u h => h.setCell (by simp) u) hBu⟩
set_option maxHeartbeats 1600000 in
theorem dh_arg3 (h : HD w g A m N L K node DL o q) (x : Pk) (a : Option Addr) (n c : Nat) (hsl : Sl w a n c x.z) (HR : Hid (x.right = true)) (h1 : x.t = node) (h2 : (N : Int) ≤ x.f) :
    Calls Try.prog 22 #[.pointer (some ⟨g, 0, none⟩), x.val (.slice a n c)] w fun e w' => e = .returned (.tuple #[zeroPk.val (.slice none 0 0), .bool false, .int .i64 1]) ∧ Below w.heap.size w w' := by
  have h1b : (x.t != node) = false := by simp [h1]
  clear h1
  unfold Pk.val
  go_enter Try.func22, Try.ntmps22
  go_upto_region 1 with fail
  have hB : Below w.heap.size w ((w.alloc (.cells #[.int .i64 x.k, .int .i64 x.f, .int .i64 x.t, .int .i64 x.i, .int .i64 x.l, .int .i64 x.p, .int .i64 x.s, .bool x.fl, .slice a n c] 32)).alloc (.cells #[.int .i64 0, .int .i64 0, .int .i64 0, .int .i64 0, .int .i64 0, .int .i64 0, .int .i64 0, .bool false, .slice none 0 0] 32)) := ba (ba (Below.refl _ _))
  have bxp : Bx ((w.alloc (.cells #[.int .i64 x.k, .int .i64 x.f, .int .i64 x.t, .int .i64 x.i, .int .i64 x.l, .int .i64 x.p, .int .i64 x.s, .bool x.fl, .slice a n c] 32)).alloc (.cells #[.int .i64 0, .int .i64 0, .int .i64 0, .int .i64 0, .int .i64 0, .int .i64 0, .int .i64 0, .bool false, .slice none 0 0] 32)) w.heap.size x (.slice a n c) := (Bx.made w x (.slice a n c)).next (ba (Below.refl _ _))
  have bxr : Bx ((w.alloc (.cells #[.int .i64 x.k, .int .i64 x.f, .int .i64 x.t, .int .i64 x.i, .int .i64 x.l, .int .i64 x.p, .int .i64 x.s, .bool x.fl, .slice a n c] 32)).alloc (.cells #[.int .i64 0, .int .i64 0, .int .i64 0, .int .i64 0, .int .i64 0, .int .i64 0, .int .i64 0, .bool false, .slice none 0 0] 32)) (w.heap.size + 1) zeroPk (.slice none 0 0) := Bx.made' (w.alloc (.cells #[.int .i64 x.k, .int .i64 x.f, .int .i64 x.t, .int .i64 x.i, .int .i64 x.l, .int .i64 x.p, .int .i64 x.s, .bool x.fl, .slice a n c] 32)) zeroPk (.slice none 0 0) _ (by simp)
  have h1 := h.below hB
  have hs1 := hsl.below hB
  obtain ⟨c0, c8, lt⟩ := h1.cells
  have HG : Hid (g < w.heap.size ∧ w.heap.size ≤ ((w.alloc (.cells #[.int .i64 x.k, .int .i64 x.f, .int .i64 x.t, .int .i64 x.i, .int .i64 x.l, .int .i64 x.p, .int .i64 x.s, .bool x.fl, .slice a n c] 32)).alloc (.cells #[.int .i64 0, .int .i64 0, .int .i64 0, .int .i64 0, .int .i64 0, .int .i64 0, .int .i64 0, .bool false, .slice none 0 0] 32)).heap.size) := ⟨h.cells.2.2, hB.size⟩
  have HA : Hid (∀ j, A j → j < w.heap.size) := h.old
  clear hsl h
  generalize World.alloc _ (.cells #[.int .i64 0, .int .i64 0, .int .i64 0, .int .i64 0, .int .i64 0, .int .i64 0, .int .i64 0, .bool false, .slice none 0 0] 32) = W at *
  obtain ⟨q0, q1, q2, q3, q4, q5, q6, q7, q8, qf, ql⟩ := id bxp
  have uc := @Up.cell
  have uf := @Up.frozen
  refine wp_region_up (by kernel_rfl) (by kernel_rfl) ?_
  repeat (go_big_quiet_step ((go_at_call 40; exact Calls.up_of (rightIs x a n c _ (hs1.below (Subtype.property _)) true HR.out))))
  refine wpQuiet_nil ?_
  rintro _ ⟨u, rfl⟩
  clear uc uf
  obtain ⟨r0, r1, r2, r3, r4, r5, r6, r7, r8, rf, rl⟩ := bxr.next u.2
  have f0 := rf 0
  have hBu := next hB u.2
  clear c0 c8 lt q0 q1 q2 q3 q4 q5 q6 q7 q8 qf ql bxp bxr h1 hs1 hB
  generalize u.val = V at *
  go_wp2
  refine bodyPost_ret (v := .tuple #[Pk.val zeroPk (.slice none 0 0), .bool false, .int .i64 1]) (by simp [results, Try.results22, go_sem, *, zeroPk]) rfl ⟨rfl, far9 (g := w.heap.size + 1) (y := zeroPk) (v := .slice none 0 0) (W := V) (P := fun V => Below w.heap.size w V) (fun V o u h => h.setCell (by simp) u) hBu⟩
set_option maxHeartbeats 1600000 in
theorem dh_arg4 (h : HD w g A m N L K node DL o q) (x : Pk) (a : Option Addr) (n c : Nat) (hsl : Sl w a n c x.z) (HR : Hid (x.right = true)) (h1 : x.t = node) (h2 : x.f < (N : Int)) (h3 : x.k ≠ 1) (h4 : x.k ≠ 2) :
    Calls Try.prog 22 #[.pointer (some ⟨g, 0, none⟩), x.val (.slice a n c)] w fun e w' => e = .returned (.tuple #[zeroPk.val (.slice none 0 0), .bool false, .int .i64 1]) ∧ Below w.heap.size w w' := by
  have h1b : (x.t != node) = false := by simp [h1]
  have h2b : decide ((N : Int) ≤ x.f) = false := decide_eq_false (by omega)
  have h3b : (x.k != 1) = true := by simp [h3]
  have h4b : (x.k != 2) = true := by simp [h4]
  clear h1 h2 h3 h4
  unfold Pk.val
  go_enter Try.func22, Try.ntmps22
  go_upto_region 1 with fail
  have hB : Below w.heap.size w ((w.alloc (.cells #[.int .i64 x.k, .int .i64 x.f, .int .i64 x.t, .int .i64 x.i, .int .i64 x.l, .int .i64 x.p, .int .i64 x.s, .bool x.fl, .slice a n c] 32)).alloc (.cells #[.int .i64 0, .int .i64 0, .int .i64 0, .int .i64 0, .int .i64 0, .int .i64 0, .int .i64 0, .bool false, .slice none 0 0] 32)) := ba (ba (Below.refl _ _))
  have bxp : Bx ((w.alloc (.cells #[.int .i64 x.k, .int .i64 x.f, .int .i64 x.t, .int .i64 x.i, .int .i64 x.l, .int .i64 x.p, .int .i64 x.s, .bool x.fl, .slice a n c] 32)).alloc (.cells #[.int .i64 0, .int .i64 0, .int .i64 0, .int .i64 0, .int .i64 0, .int .i64 0, .int .i64 0, .bool false, .slice none 0 0] 32)) w.heap.size x (.slice a n c) := (Bx.made w x (.slice a n c)).next (ba (Below.refl _ _))
  have bxr : Bx ((w.alloc (.cells #[.int .i64 x.k, .int .i64 x.f, .int .i64 x.t, .int .i64 x.i, .int .i64 x.l, .int .i64 x.p, .int .i64 x.s, .bool x.fl, .slice a n c] 32)).alloc (.cells #[.int .i64 0, .int .i64 0, .int .i64 0, .int .i64 0, .int .i64 0, .int .i64 0, .int .i64 0, .bool false, .slice none 0 0] 32)) (w.heap.size + 1) zeroPk (.slice none 0 0) := Bx.made' (w.alloc (.cells #[.int .i64 x.k, .int .i64 x.f, .int .i64 x.t, .int .i64 x.i, .int .i64 x.l, .int .i64 x.p, .int .i64 x.s, .bool x.fl, .slice a n c] 32)) zeroPk (.slice none 0 0) _ (by simp)
  have h1 := h.below hB
  have hs1 := hsl.below hB
  obtain ⟨c0, c8, lt⟩ := h1.cells
  have HG : Hid (g < w.heap.size ∧ w.heap.size ≤ ((w.alloc (.cells #[.int .i64 x.k, .int .i64 x.f, .int .i64 x.t, .int .i64 x.i, .int .i64 x.l, .int .i64 x.p, .int .i64 x.s, .bool x.fl, .slice a n c] 32)).alloc (.cells #[.int .i64 0, .int .i64 0, .int .i64 0, .int .i64 0, .int .i64 0, .int .i64 0, .int .i64 0, .bool false, .slice none 0 0] 32)).heap.size) := ⟨h.cells.2.2, hB.size⟩
  have HA : Hid (∀ j, A j → j < w.heap.size) := h.old
  clear hsl h
  generalize World.alloc _ (.cells #[.int .i64 0, .int .i64 0, .int .i64 0, .int .i64 0, .int .i64 0, .int .i64 0, .int .i64 0, .bool false, .slice none 0 0] 32) = W at *
  obtain ⟨q0, q1, q2, q3, q4, q5, q6, q7, q8, qf, ql⟩ := id bxp
  have uc := @Up.cell
  have uf := @Up.frozen
  refine wp_region_up (by kernel_rfl) (by kernel_rfl) ?_
  repeat (go_big_quiet_step ((go_at_call 40; exact Calls.up_of (rightIs x a n c _ (hs1.below (Subtype.property _)) true HR.out))))
  refine wpQuiet_nil ?_
  rintro _ ⟨u, rfl⟩
  clear uc uf
  obtain ⟨r0, r1, r2, r3, r4, r5, r6, r7, r8, rf, rl⟩ := bxr.next u.2
  have f0 := rf 0
  have hBu := next hB u.2
  clear c0 c8 lt q0 q1 q2 q3 q4 q5 q6 q7 q8 qf ql bxp bxr h1 hs1 hB
  generalize u.val = V at *
  go_wp2
  refine bodyPost_ret (v := .tuple #[Pk.val zeroPk (.slice none 0 0), .bool false, .int .i64 1]) (by simp [results, Try.results22, go_sem, *, zeroPk]) rfl ⟨rfl, far9 (g := w.heap.size + 1) (y := zeroPk) (v := .slice none 0 0) (W := V) (P := fun V => Below w.heap.size w V) (fun V o u h => h.setCell (by simp) u) hBu⟩
set_option maxHeartbeats 1600000 in
theorem dh_none1 (h : HD w g A m N L K node DL o q) (hN : 1 ≤ N) (x : Pk) (a : Option Addr) (n c : Nat) (hsl : Sl w a n c x.z) (HR : Hid (x.right = true)) (h1 : x.t = node) (h2 : x.f < (N : Int)) (hk : x.k = 1) (hh : hereI N L node x.l = false) :
    Calls Try.prog 22 #[.pointer (some ⟨g, 0, none⟩), x.val (.slice a n c)] w fun e w' => e = .returned (.tuple #[zeroPk.val (.slice none 0 0), .bool false, .int .i64 3]) ∧ Below w.heap.size w w' := by
  have h1b : (x.t != node) = false := by simp [h1]
  have h2b : decide ((N : Int) ≤ x.f) = false := decide_eq_false (by omega)
  have HT : Hid (x.t = node ∧ x.f < (N : Int) ∧ 1 ≤ N) := ⟨h1, h2, hN⟩
  clear h1 h2 hN
  have h3b : (x.k != 1) = false := by simp [hk]
  have h3c : (x.k == 1) = true := by simp [hk]
  clear hk
  unfold Pk.val
  go_enter Try.func22, Try.ntmps22
  go_upto_region 1 with fail
  have hB : Below w.heap.size w ((w.alloc (.cells #[.int .i64 x.k, .int .i64 x.f, .int .i64 x.t, .int .i64 x.i, .int .i64 x.l, .int .i64 x.p, .int .i64 x.s, .bool x.fl, .slice a n c] 32)).alloc (.cells #[.int .i64 0, .int .i64 0, .int .i64 0, .int .i64 0, .int .i64 0, .int .i64 0, .int .i64 0, .bool false, .slice none 0 0] 32)) := ba (ba (Below.refl _ _))
  have bxp : Bx ((w.alloc (.cells #[.int .i64 x.k, .int .i64 x.f, .int .i64 x.t, .int .i64 x.i, .int .i64 x.l, .int .i64 x.p, .int .i64 x.s, .bool x.fl, .slice a n c] 32)).alloc (.cells #[.int .i64 0, .int .i64 0, .int .i64 0, .int .i64 0, .int .i64 0, .int .i64 0, .int .i64 0, .bool false, .slice none 0 0] 32)) w.heap.size x (.slice a n c) := (Bx.made w x (.slice a n c)).next (ba (Below.refl _ _))
  have bxr : Bx ((w.alloc (.cells #[.int .i64 x.k, .int .i64 x.f, .int .i64 x.t, .int .i64 x.i, .int .i64 x.l, .int .i64 x.p, .int .i64 x.s, .bool x.fl, .slice a n c] 32)).alloc (.cells #[.int .i64 0, .int .i64 0, .int .i64 0, .int .i64 0, .int .i64 0, .int .i64 0, .int .i64 0, .bool false, .slice none 0 0] 32)) (w.heap.size + 1) zeroPk (.slice none 0 0) := Bx.made' (w.alloc (.cells #[.int .i64 x.k, .int .i64 x.f, .int .i64 x.t, .int .i64 x.i, .int .i64 x.l, .int .i64 x.p, .int .i64 x.s, .bool x.fl, .slice a n c] 32)) zeroPk (.slice none 0 0) _ (by simp)
  have h1 := h.below hB
  have hs1 := hsl.below hB
  obtain ⟨c0, c8, lt⟩ := h1.cells
  have HG : Hid (g < w.heap.size ∧ w.heap.size ≤ ((w.alloc (.cells #[.int .i64 x.k, .int .i64 x.f, .int .i64 x.t, .int .i64 x.i, .int .i64 x.l, .int .i64 x.p, .int .i64 x.s, .bool x.fl, .slice a n c] 32)).alloc (.cells #[.int .i64 0, .int .i64 0, .int .i64 0, .int .i64 0, .int .i64 0, .int .i64 0, .int .i64 0, .bool false, .slice none 0 0] 32)).heap.size) := ⟨h.cells.2.2, hB.size⟩
  have HA : Hid (∀ j, A j → j < w.heap.size) := h.old
  clear hsl h
  generalize World.alloc _ (.cells #[.int .i64 0, .int .i64 0, .int .i64 0, .int .i64 0, .int .i64 0, .int .i64 0, .int .i64 0, .bool false, .slice none 0 0] 32) = W at *
  obtain ⟨q0, q1, q2, q3, q4, q5, q6, q7, q8, qf, ql⟩ := id bxp
  have uc := @Up.cell
  have uf := @Up.frozen
  refine wp_region_up (by kernel_rfl) (by kernel_rfl) ?_
  repeat (go_big_quiet_step ((go_at_call 40; exact Calls.up_of (rightIs x a n c _ (hs1.below (Subtype.property _)) true HR.out))))
  refine wpQuiet_nil ?_
  rintro _ ⟨u, rfl⟩
  clear uc uf
  have h2 := h1.below u.2
  have hs2 := hs1.below u.2
  have bp2 := bxp.next u.2
  have br2 := bxr.next u.2
  have hBu := next hB u.2
  clear c0 c8 lt q0 q1 q2 q3 q4 q5 q6 q7 q8 qf ql bxp bxr h1 hs1 hB h1b h2b
  generalize u.val = V at *
  clear u W HG
  obtain ⟨q0, q1, q2, q3, q4, q5, q6, q7, q8, qf, ql⟩ := id bp2
  have HH : Hid (hereI N L node x.l = false) := hh
  clear hh
  go_upto_region 4 with ((go_at_call 41; refine (hd_here h2 HT.out.2.2 x.l).mono ?_; rintro e V2 ⟨rfl, b2⟩); rw [HH.out]; obtain ⟨k1, k2⟩ := bcell b2)
  clear k1 k2 q0 q1 q2 q3 q4 q5 q6 q7 q8 qf ql
  have h3 := h2.below b2
  have hs3 := hs2.below b2
  have bp3 := bp2.next b2
  have br3 := br2.next b2
  have hB3 := next hBu b2
  clear h2 hs2 bp2 br2 hBu b2 V
  obtain ⟨r0, r1, r2, r3, r4, r5, r6, r7, r8, rf, rl⟩ := id br3
  have f0 := rf 0
  go_wp2
  refine bodyPost_ret (v := .tuple #[Pk.val zeroPk (.slice none 0 0), .bool false, .int .i64 3]) (by simp [results, Try.results22, go_sem, *, zeroPk]) rfl ⟨rfl, far9 (g := w.heap.size + 1) (y := zeroPk) (v := .slice none 0 0) (W := V2) (P := fun V => Below w.heap.size w V) (fun V o u h => h.setCell (by simp) u) hB3⟩
set_option maxHeartbeats 1600000 in
theorem dh_none2 (h : HD w g A m N L K node DL o q) (hN : 1 ≤ N) (x : Pk) (a : Option Addr) (n c : Nat) (hsl : Sl w a n c x.z) (HR : Hid (x.right = true)) (h1 : x.t = node) (h2 : x.f < (N : Int)) (hk : x.k = 2) (hh : hereI N L node x.l = false) :
    Calls Try.prog 22 #[.pointer (some ⟨g, 0, none⟩), x.val (.slice a n c)] w fun e w' => e = .returned (.tuple #[zeroPk.val (.slice none 0 0), .bool false, .int .i64 3]) ∧ Below w.heap.size w w' := by
  have h1b : (x.t != node) = false := by simp [h1]
  have h2b : decide ((N : Int) ≤ x.f) = false := decide_eq_false (by omega)
  have HT : Hid (x.t = node ∧ x.f < (N : Int) ∧ 1 ≤ N) := ⟨h1, h2, hN⟩
  clear h1 h2 hN
  have h3b : (x.k != 1) = true := by simp [hk]
  have h3d : (x.k != 2) = false := by simp [hk]
  have h3c : (x.k == 1) = false := by simp [hk]
  clear hk
  unfold Pk.val
  go_enter Try.func22, Try.ntmps22
  go_upto_region 1 with fail
  have hB : Below w.heap.size w ((w.alloc (.cells #[.int .i64 x.k, .int .i64 x.f, .int .i64 x.t, .int .i64 x.i, .int .i64 x.l, .int .i64 x.p, .int .i64 x.s, .bool x.fl, .slice a n c] 32)).alloc (.cells #[.int .i64 0, .int .i64 0, .int .i64 0, .int .i64 0, .int .i64 0, .int .i64 0, .int .i64 0, .bool false, .slice none 0 0] 32)) := ba (ba (Below.refl _ _))
  have bxp : Bx ((w.alloc (.cells #[.int .i64 x.k, .int .i64 x.f, .int .i64 x.t, .int .i64 x.i, .int .i64 x.l, .int .i64 x.p, .int .i64 x.s, .bool x.fl, .slice a n c] 32)).alloc (.cells #[.int .i64 0, .int .i64 0, .int .i64 0, .int .i64 0, .int .i64 0, .int .i64 0, .int .i64 0, .bool false, .slice none 0 0] 32)) w.heap.size x (.slice a n c) := (Bx.made w x (.slice a n c)).next (ba (Below.refl _ _))
  have bxr : Bx ((w.alloc (.cells #[.int .i64 x.k, .int .i64 x.f, .int .i64 x.t, .int .i64 x.i, .int .i64 x.l, .int .i64 x.p, .int .i64 x.s, .bool x.fl, .slice a n c] 32)).alloc (.cells #[.int .i64 0, .int .i64 0, .int .i64 0, .int .i64 0, .int .i64 0, .int .i64 0, .int .i64 0, .bool false, .slice none 0 0] 32)) (w.heap.size + 1) zeroPk (.slice none 0 0) := Bx.made' (w.alloc (.cells #[.int .i64 x.k, .int .i64 x.f, .int .i64 x.t, .int .i64 x.i, .int .i64 x.l, .int .i64 x.p, .int .i64 x.s, .bool x.fl, .slice a n c] 32)) zeroPk (.slice none 0 0) _ (by simp)
  have h1 := h.below hB
  have hs1 := hsl.below hB
  obtain ⟨c0, c8, lt⟩ := h1.cells
  have HG : Hid (g < w.heap.size ∧ w.heap.size ≤ ((w.alloc (.cells #[.int .i64 x.k, .int .i64 x.f, .int .i64 x.t, .int .i64 x.i, .int .i64 x.l, .int .i64 x.p, .int .i64 x.s, .bool x.fl, .slice a n c] 32)).alloc (.cells #[.int .i64 0, .int .i64 0, .int .i64 0, .int .i64 0, .int .i64 0, .int .i64 0, .int .i64 0, .bool false, .slice none 0 0] 32)).heap.size) := ⟨h.cells.2.2, hB.size⟩
  have HA : Hid (∀ j, A j → j < w.heap.size) := h.old
  clear hsl h
  generalize World.alloc _ (.cells #[.int .i64 0, .int .i64 0, .int .i64 0, .int .i64 0, .int .i64 0, .int .i64 0, .int .i64 0, .bool false, .slice none 0 0] 32) = W at *
  obtain ⟨q0, q1, q2, q3, q4, q5, q6, q7, q8, qf, ql⟩ := id bxp
  have uc := @Up.cell
  have uf := @Up.frozen
  refine wp_region_up (by kernel_rfl) (by kernel_rfl) ?_
  repeat (go_big_quiet_step ((go_at_call 40; exact Calls.up_of (rightIs x a n c _ (hs1.below (Subtype.property _)) true HR.out))))
  refine wpQuiet_nil ?_
  rintro _ ⟨u, rfl⟩
  clear uc uf
  have h2 := h1.below u.2
  have hs2 := hs1.below u.2
  have bp2 := bxp.next u.2
  have br2 := bxr.next u.2
  have hBu := next hB u.2
  clear c0 c8 lt q0 q1 q2 q3 q4 q5 q6 q7 q8 qf ql bxp bxr h1 hs1 hB h1b h2b
  generalize u.val = V at *
  clear u W HG
  obtain ⟨q0, q1, q2, q3, q4, q5, q6, q7, q8, qf, ql⟩ := id bp2
  have HH : Hid (hereI N L node x.l = false) := hh
  clear hh
  go_upto_region 4 with ((go_at_call 41; refine (hd_here h2 HT.out.2.2 x.l).mono ?_; rintro e V2 ⟨rfl, b2⟩); rw [HH.out]; obtain ⟨k1, k2⟩ := bcell b2)
  clear k1 k2 q0 q1 q2 q3 q4 q5 q6 q7 q8 qf ql
  have h3 := h2.below b2
  have hs3 := hs2.below b2
  have bp3 := bp2.next b2
  have br3 := br2.next b2
  have hB3 := next hBu b2
  clear h2 hs2 bp2 br2 hBu b2 V
  obtain ⟨r0, r1, r2, r3, r4, r5, r6, r7, r8, rf, rl⟩ := id br3
  have f0 := rf 0
  go_wp2
  refine bodyPost_ret (v := .tuple #[Pk.val zeroPk (.slice none 0 0), .bool false, .int .i64 3]) (by simp [results, Try.results22, go_sem, *, zeroPk]) rfl ⟨rfl, far9 (g := w.heap.size + 1) (y := zeroPk) (v := .slice none 0 0) (W := V2) (P := fun V => Below w.heap.size w V) (fun V o u h => h.setCell (by simp) u) hB3⟩
set_option maxHeartbeats 1600000 in
theorem dh_lock_false (h : HD w g A m N L K node DL o q) (hN : 1 ≤ N) (hL : L ≤ 8) (hm : m < 1000) (x : Pk) (a : Option Addr) (n c : Nat) (hsl : Sl w a n c x.z) (HR : Hid (x.right = true)) (h1 : x.t = node) (h2 : x.f < (N : Int)) (hk : x.k = 1) (hf0 : 0 ≤ x.f) (hh : hereI N L node x.l = true) (hb : askB o q x.l = false) :
    Calls Try.prog 22 #[.pointer (some ⟨g, 0, none⟩), x.val (.slice a n c)] w fun e w' => e = .returned (.tuple #[zeroPk.val (.slice none 0 0), .bool false, .int .i64 0]) ∧ Keep A w w' ∧ ∃ A', (∀ j, A' j → A j ∨ w.heap.size ≤ j) ∧ (∀ j, A j → A' j) ∧ HD w' g A' (m + 1) N L K node DL (askO o q x.l x.f) (askQ o q x.l x.f x.i) := by
  have HB : Hid (askB o q x.l = false) := hb
  clear hb
  have h1b : (x.t != node) = false := by simp [h1]
  have h2b : decide ((N : Int) ≤ x.f) = false := decide_eq_false (by omega)
  have HT : Hid (x.t = node ∧ x.f < (N : Int) ∧ 1 ≤ N) := ⟨h1, h2, hN⟩
  clear h1 h2 hN
  have h3b : (x.k != 1) = false := by simp [hk]
  have h3c : (x.k == 1) = true := by simp [hk]
  clear hk
  unfold Pk.val
  go_enter Try.func22, Try.ntmps22
  go_upto_region 1 with fail
  have hB : Below w.heap.size w ((w.alloc (.cells #[.int .i64 x.k, .int .i64 x.f, .int .i64 x.t, .int .i64 x.i, .int .i64 x.l, .int .i64 x.p, .int .i64 x.s, .bool x.fl, .slice a n c] 32)).alloc (.cells #[.int .i64 0, .int .i64 0, .int .i64 0, .int .i64 0, .int .i64 0, .int .i64 0, .int .i64 0, .bool false, .slice none 0 0] 32)) := ba (ba (Below.refl _ _))
  have bxp : Bx ((w.alloc (.cells #[.int .i64 x.k, .int .i64 x.f, .int .i64 x.t, .int .i64 x.i, .int .i64 x.l, .int .i64 x.p, .int .i64 x.s, .bool x.fl, .slice a n c] 32)).alloc (.cells #[.int .i64 0, .int .i64 0, .int .i64 0, .int .i64 0, .int .i64 0, .int .i64 0, .int .i64 0, .bool false, .slice none 0 0] 32)) w.heap.size x (.slice a n c) := (Bx.made w x (.slice a n c)).next (ba (Below.refl _ _))
  have bxr : Bx ((w.alloc (.cells #[.int .i64 x.k, .int .i64 x.f, .int .i64 x.t, .int .i64 x.i, .int .i64 x.l, .int .i64 x.p, .int .i64 x.s, .bool x.fl, .slice a n c] 32)).alloc (.cells #[.int .i64 0, .int .i64 0, .int .i64 0, .int .i64 0, .int .i64 0, .int .i64 0, .int .i64 0, .bool false, .slice none 0 0] 32)) (w.heap.size + 1) zeroPk (.slice none 0 0) := Bx.made' (w.alloc (.cells #[.int .i64 x.k, .int .i64 x.f, .int .i64 x.t, .int .i64 x.i, .int .i64 x.l, .int .i64 x.p, .int .i64 x.s, .bool x.fl, .slice a n c] 32)) zeroPk (.slice none 0 0) _ (by simp)
  have h1 := h.below hB
  have hs1 := hsl.below hB
  obtain ⟨c0, c8, lt⟩ := h1.cells
  have HG : Hid (g < w.heap.size ∧ w.heap.size ≤ ((w.alloc (.cells #[.int .i64 x.k, .int .i64 x.f, .int .i64 x.t, .int .i64 x.i, .int .i64 x.l, .int .i64 x.p, .int .i64 x.s, .bool x.fl, .slice a n c] 32)).alloc (.cells #[.int .i64 0, .int .i64 0, .int .i64 0, .int .i64 0, .int .i64 0, .int .i64 0, .int .i64 0, .bool false, .slice none 0 0] 32)).heap.size) := ⟨h.cells.2.2, hB.size⟩
  have HA : Hid (∀ j, A j → j < w.heap.size) := h.old
  clear hsl h
  generalize World.alloc _ (.cells #[.int .i64 0, .int .i64 0, .int .i64 0, .int .i64 0, .int .i64 0, .int .i64 0, .int .i64 0, .bool false, .slice none 0 0] 32) = W at *
  obtain ⟨q0, q1, q2, q3, q4, q5, q6, q7, q8, qf, ql⟩ := id bxp
  have uc := @Up.cell
  have uf := @Up.frozen
  refine wp_region_up (by kernel_rfl) (by kernel_rfl) ?_
  repeat (go_big_quiet_step ((go_at_call 40; exact Calls.up_of (rightIs x a n c _ (hs1.below (Subtype.property _)) true HR.out))))
  refine wpQuiet_nil ?_
  rintro _ ⟨u, rfl⟩
  clear uc uf
  have h2 := h1.below u.2
  have hs2 := hs1.below u.2
  have bp2 := bxp.next u.2
  have br2 := bxr.next u.2
  have hBu := next hB u.2
  clear c0 c8 lt q0 q1 q2 q3 q4 q5 q6 q7 q8 qf ql bxp bxr h1 hs1 hB h1b h2b
  generalize u.val = V at *
  clear u W HG
  obtain ⟨q0, q1, q2, q3, q4, q5, q6, q7, q8, qf, ql⟩ := id bp2
  clear h3b
  have HH : Hid (hereI N L node x.l = true) := hh
  clear hh
  go_upto_region 6 with ((go_at_call 41; refine (hd_here h2 HT.out.2.2 x.l).mono ?_; rintro e V2 ⟨rfl, b2⟩); rw [HH.out]; obtain ⟨k1, k2⟩ := bcell b2)
  clear k1 k2 q0 q1 q2 q3 q4 q5 q6 q7 q8 qf ql
  have h3 := h2.below b2
  have hs3 := hs2.below b2
  have bp3 := bp2.next b2
  have br3 := br2.next b2
  have hB3 := next hBu b2
  clear h2 hs2 bp2 br2 hBu b2 V
  refine wp_region_orders 10 rfl (by kernel_rfl) ?_
  have Bd : Below V2.heap.size V2 V2.drew := (Below.refl _ _).drew
  have h4 := h3.below Bd
  have hs4 := hs3.below Bd
  have bp4 := bp3.next Bd
  have br4 := br3.next Bd
  have hB4 := next hB3 Bd
  clear h3 hs3 bp3 br3 hB3 Bd
  generalize V2.drew = V3 at *
  clear V2
  have hI : (fun V => V.cell? ⟨w.heap.size, 1, none⟩ = some (.int .i64 x.f) ∧ V.cell? ⟨w.heap.size, 3, none⟩ = some (.int .i64 x.i) ∧ V.cell? ⟨w.heap.size, 4, none⟩ = some (.int .i64 x.l)) V3 := ⟨bp4.c1, bp4.c3, bp4.c4⟩
  refine any_inv (fun V => V.cell? ⟨w.heap.size, 1, none⟩ = some (.int .i64 x.f) ∧ V.cell? ⟨w.heap.size, 3, none⟩ = some (.int .i64 x.i) ∧ V.cell? ⟨w.heap.size, 4, none⟩ = some (.int .i64 x.l)) [9] hI ?_
  refine inv_take (v := ?v1) [1, 2, 9] 0 hI rfl (by kernel_rfl) (by kernel_rfl) (by kernel_rfl) (by kernel_rfl) (by kernel_rfl) (fun _ _ _ h => h) (by kernel_rfl) (fun V hV => ?hy1) ?go1
  case hy1 => (obtain ⟨i0, i1, i2⟩ := hV; go_simp <;> rfl)
  simp only [Act.put, List.setIfInBounds_toArray, List.set_cons_zero, List.set_cons_succ]
  refine inv_take (v := ?v2) [2, 9] 1 hI rfl (by kernel_rfl) (by kernel_rfl) (by kernel_rfl) (by kernel_rfl) (by kernel_rfl) (fun _ _ _ h => h) (by kernel_rfl) (fun V hV => ?hy2) ?go2
  case hy2 => (obtain ⟨i0, i1, i2⟩ := hV; go_simp <;> rfl)
  simp only [Act.put, List.setIfInBounds_toArray, List.set_cons_zero, List.set_cons_succ]
  refine inv_take (v := ?v3) [9] 2 hI rfl (by kernel_rfl) (by kernel_rfl) (by kernel_rfl) (by kernel_rfl) (by kernel_rfl) (fun _ _ _ h => h) (by kernel_rfl) (fun V hV => ?hy3) ?go3
  case hy3 => (obtain ⟨i0, i1, i2⟩ := hV; go_simp <;> rfl)
  simp only [Act.put, List.setIfInBounds_toArray, List.set_cons_zero, List.set_cons_succ]
  refine inv_take (v := ?v4) [4, 9] 3 hI rfl (by kernel_rfl) (by kernel_rfl) (by kernel_rfl) (by kernel_rfl) (by kernel_rfl) (fun _ _ _ h => h) (by kernel_rfl) (fun V hV => ?hy4) ?go4
  case hy4 => (obtain ⟨i0, i1, i2⟩ := hV; go_simp <;> rfl)
  simp only [Act.put, List.setIfInBounds_toArray, List.set_cons_zero, List.set_cons_succ]
  refine inv_take (v := ?v5) [9] 4 hI rfl (by kernel_rfl) (by kernel_rfl) (by kernel_rfl) (by kernel_rfl) (by kernel_rfl) (fun _ _ _ h => h) (by kernel_rfl) (fun V hV => ?hy5) ?go5
  case hy5 => (obtain ⟨i0, i1, i2⟩ := hV; go_simp <;> rfl)
  simp only [Act.put, List.setIfInBounds_toArray, List.set_cons_zero, List.set_cons_succ]
  refine inv_take (v := ?v6) [6, 9] 5 hI rfl (by kernel_rfl) (by kernel_rfl) (by kernel_rfl) (by kernel_rfl) (by kernel_rfl) (fun _ _ _ h => h) (by kernel_rfl) (fun V hV => ?hy6) ?go6
  case hy6 => (obtain ⟨i0, i1, i2⟩ := hV; go_simp <;> rfl)
  simp only [Act.put, List.setIfInBounds_toArray, List.set_cons_zero, List.set_cons_succ]
  refine inv_take (v := ?v7) [9] 6 hI rfl (by kernel_rfl) (by kernel_rfl) (by kernel_rfl) (by kernel_rfl) (by kernel_rfl) (fun _ _ _ h => h) (by kernel_rfl) (fun V hV => ?hy7) ?go7
  case hy7 => (obtain ⟨i0, i1, i2⟩ := hV; go_simp <;> rfl)
  simp only [Act.put, List.setIfInBounds_toArray, List.set_cons_zero, List.set_cons_succ]
  refine inv_take (v := ?v8) [8, 9] 7 hI rfl (by kernel_rfl) (by kernel_rfl) (by kernel_rfl) (by kernel_rfl) (by kernel_rfl) (fun _ _ _ h => h) (by kernel_rfl) (fun V hV => ?hy8) ?go8
  case hy8 => (obtain ⟨i0, i1, i2⟩ := hV; go_simp <;> rfl)
  simp only [Act.put, List.setIfInBounds_toArray, List.set_cons_zero, List.set_cons_succ]
  refine inv_take (v := ?v9) [9] 8 hI rfl (by kernel_rfl) (by kernel_rfl) (by kernel_rfl) (by kernel_rfl) (by kernel_rfl) (fun _ _ _ h => h) (by kernel_rfl) (fun V hV => ?hy9) ?go9
  case hy9 => (obtain ⟨i0, i1, i2⟩ := hV; go_simp <;> rfl)
  simp only [Act.put, List.setIfInBounds_toArray, List.set_cons_zero, List.set_cons_succ]
  refine inv_write 9 (by kernel_rfl) (by kernel_rfl) rfl ?_
  clear hI
  go_wp2_with (go_at_call 42; refine (hd_ask h4 (l := x.l) x.i hf0 hm).mono ?_; rintro e V4 ⟨rfl, hk4, A', hA1, hA2, h5⟩; rw [HB.out])
  refine then_n ?_
  refine any_done (by kernel_rfl) ?_
  have hgA : ∀ j, w.heap.size ≤ j → j < V3.heap.size → ¬ A' j := fun j hj1 hj2 ha => (hA1 j ha).elim (fun h => by have := HA.out j h; omega) (fun h => by omega)
  have hgA0 : ∀ j, A j → j < w.heap.size := HA.out
  have bp5 := bp4.keep hk4 (fun h => by have := hgA0 _ h; omega)
  have br5 := br4.keep hk4 (fun h => by have := hgA0 _ h; omega)
  have hb4 := br4.lt
  have hK5 : Keep A w V4 := (Keep.of_below (F := A) hB4).trans hk4 (fun j _ h => h)
  have hsz : V3.heap.size ≤ V4.heap.size := hk4.size
  have hsz0 : w.heap.size ≤ V3.heap.size := hB4.size
  clear hs4 bp4 br4 hk4
  obtain ⟨r0, r1, r2, r3, r4, r5, r6, r7, r8, rf, rl⟩ := id br5
  have f0 := rf 0
  go_wp2
  have hkk : Keep (fun k => k = w.heap.size + 1) V4 _ := far9 (g := w.heap.size + 1) (y := zeroPk) (v := .slice none 0 0) (W := V4) (P := fun V => Keep (fun k => k = w.heap.size + 1) V4 V) (fun V o u h => h.setCell (.inl rfl) u) (Keep.refl _ _)
  refine bodyPost_ret (v := .tuple #[Pk.val zeroPk (.slice none 0 0), .bool false, .int .i64 0]) (by simp [results, Try.results22, go_sem, *, zeroPk]) rfl ⟨rfl, ?_, A', ?_, hA2, h5.keep hkk (fun j hj e => hgA j (by omega) (by omega) hj)⟩
  · exact hK5.trans hkk (fun j hj e => by omega)
  · exact fun j hj => (hA1 j hj).imp id (fun h => by omega)
set_option maxHeartbeats 1600000 in
theorem dh_lock_true (h : HD w g A m N L K node DL o q) (hN : 1 ≤ N) (hL : L ≤ 8) (hm : m < 1000) (x : Pk) (a : Option Addr) (n c : Nat) (hsl : Sl w a n c x.z) (HR : Hid (x.right = true)) (h1 : x.t = node) (h2 : x.f < (N : Int)) (hk : x.k = 1) (hf0 : 0 ≤ x.f) (hh : hereI N L node x.l = true) (hb : askB o q x.l = true) :
    Calls Try.prog 22 #[.pointer (some ⟨g, 0, none⟩), x.val (.slice a n c)] w fun e w' => ∃ d, e = .returned (.tuple #[(grantP node x.f x.i x.l DL).val d, .bool true, .int .i64 0]) ∧ DatZ w' (fun k => w.heap.size ≤ k) (grantP node x.f x.i x.l DL).z d ∧ Keep A w w' ∧ ∃ A', (∀ j, A' j → A j ∨ w.heap.size ≤ j) ∧ (∀ j, A j → A' j) ∧ HD w' g A' (m + 1) N L K node DL (askO o q x.l x.f) (askQ o q x.l x.f x.i) := by
  have HB : Hid (askB o q x.l = true) := hb
  clear hb
  have h1b : (x.t != node) = false := by simp [h1]
  have h2b : decide ((N : Int) ≤ x.f) = false := decide_eq_false (by omega)
  have HT : Hid (x.t = node ∧ x.f < (N : Int) ∧ 1 ≤ N) := ⟨h1, h2, hN⟩
  clear h1 h2 hN
  have h3b : (x.k != 1) = false := by simp [hk]
  have h3c : (x.k == 1) = true := by simp [hk]
  clear hk
  unfold Pk.val
  go_enter Try.func22, Try.ntmps22
  go_upto_region 1 with fail
  have hB : Below w.heap.size w ((w.alloc (.cells #[.int .i64 x.k, .int .i64 x.f, .int .i64 x.t, .int .i64 x.i, .int .i64 x.l, .int .i64 x.p, .int .i64 x.s, .bool x.fl, .slice a n c] 32)).alloc (.cells #[.int .i64 0, .int .i64 0, .int .i64 0, .int .i64 0, .int .i64 0, .int .i64 0, .int .i64 0, .bool false, .slice none 0 0] 32)) := ba (ba (Below.refl _ _))
  have bxp : Bx ((w.alloc (.cells #[.int .i64 x.k, .int .i64 x.f, .int .i64 x.t, .int .i64 x.i, .int .i64 x.l, .int .i64 x.p, .int .i64 x.s, .bool x.fl, .slice a n c] 32)).alloc (.cells #[.int .i64 0, .int .i64 0, .int .i64 0, .int .i64 0, .int .i64 0, .int .i64 0, .int .i64 0, .bool false, .slice none 0 0] 32)) w.heap.size x (.slice a n c) := (Bx.made w x (.slice a n c)).next (ba (Below.refl _ _))
  have bxr : Bx ((w.alloc (.cells #[.int .i64 x.k, .int .i64 x.f, .int .i64 x.t, .int .i64 x.i, .int .i64 x.l, .int .i64 x.p, .int .i64 x.s, .bool x.fl, .slice a n c] 32)).alloc (.cells #[.int .i64 0, .int .i64 0, .int .i64 0, .int .i64 0, .int .i64 0, .int .i64 0, .int .i64 0, .bool false, .slice none 0 0] 32)) (w.heap.size + 1) zeroPk (.slice none 0 0) := Bx.made' (w.alloc (.cells #[.int .i64 x.k, .int .i64 x.f, .int .i64 x.t, .int .i64 x.i, .int .i64 x.l, .int .i64 x.p, .int .i64 x.s, .bool x.fl, .slice a n c] 32)) zeroPk (.slice none 0 0) _ (by simp)
  have h1 := h.below hB
  have hs1 := hsl.below hB
  obtain ⟨c0, c8, lt⟩ := h1.cells
  have HG : Hid (g < w.heap.size ∧ w.heap.size ≤ ((w.alloc (.cells #[.int .i64 x.k, .int .i64 x.f, .int .i64 x.t, .int .i64 x.i, .int .i64 x.l, .int .i64 x.p, .int .i64 x.s, .bool x.fl, .slice a n c] 32)).alloc (.cells #[.int .i64 0, .int .i64 0, .int .i64 0, .int .i64 0, .int .i64 0, .int .i64 0, .int .i64 0, .bool false, .slice none 0 0] 32)).heap.size) := ⟨h.cells.2.2, hB.size⟩
  have HA : Hid (∀ j, A j → j < w.heap.size) := h.old
  clear hsl h
  generalize World.alloc _ (.cells #[.int .i64 0, .int .i64 0, .int .i64 0, .int .i64 0, .int .i64 0, .int .i64 0, .int .i64 0, .bool false, .slice none 0 0] 32) = W at *
  obtain ⟨q0, q1, q2, q3, q4, q5, q6, q7, q8, qf, ql⟩ := id bxp
  have uc := @Up.cell
  have uf := @Up.frozen
  refine wp_region_up (by kernel_rfl) (by kernel_rfl) ?_
  repeat (go_big_quiet_step ((go_at_call 40; exact Calls.up_of (rightIs x a n c _ (hs1.below (Subtype.property _)) true HR.out))))
  refine wpQuiet_nil ?_
  rintro _ ⟨u, rfl⟩
  clear uc uf
  have h2 := h1.below u.2
  have hs2 := hs1.below u.2
  have bp2 := bxp.next u.2
  have br2 := bxr.next u.2
  have hBu := next hB u.2
  clear c0 c8 lt q0 q1 q2 q3 q4 q5 q6 q7 q8 qf ql bxp bxr h1 hs1 hB h1b h2b
  generalize u.val = V at *
  clear u W HG
  obtain ⟨q0, q1, q2, q3, q4, q5, q6, q7, q8, qf, ql⟩ := id bp2
  clear h3b
  have HH : Hid (hereI N L node x.l = true) := hh
  clear hh
  go_upto_region 6 with ((go_at_call 41; refine (hd_here h2 HT.out.2.2 x.l).mono ?_; rintro e V2 ⟨rfl, b2⟩); rw [HH.out]; obtain ⟨k1, k2⟩ := bcell b2)
  clear k1 k2 q0 q1 q2 q3 q4 q5 q6 q7 q8 qf ql
  have h3 := h2.below b2
  have hs3 := hs2.below b2
  have bp3 := bp2.next b2
  have br3 := br2.next b2
  have hB3 := next hBu b2
  clear h2 hs2 bp2 br2 hBu b2 V
  refine wp_region_orders 10 rfl (by kernel_rfl) ?_
  have Bd : Below V2.heap.size V2 V2.drew := (Below.refl _ _).drew
  have h4 := h3.below Bd
  have hs4 := hs3.below Bd
  have bp4 := bp3.next Bd
  have br4 := br3.next Bd
  have hB4 := next hB3 Bd
  clear h3 hs3 bp3 br3 hB3 Bd
  generalize V2.drew = V3 at *
  clear V2
  have hI : (fun V => V.cell? ⟨w.heap.size, 1, none⟩ = some (.int .i64 x.f) ∧ V.cell? ⟨w.heap.size, 3, none⟩ = some (.int .i64 x.i) ∧ V.cell? ⟨w.heap.size, 4, none⟩ = some (.int .i64 x.l)) V3 := ⟨bp4.c1, bp4.c3, bp4.c4⟩
  refine any_inv (fun V => V.cell? ⟨w.heap.size, 1, none⟩ = some (.int .i64 x.f) ∧ V.cell? ⟨w.heap.size, 3, none⟩ = some (.int .i64 x.i) ∧ V.cell? ⟨w.heap.size, 4, none⟩ = some (.int .i64 x.l)) [9] hI ?_
  refine inv_take (v := ?v10) [1, 2, 9] 0 hI rfl (by kernel_rfl) (by kernel_rfl) (by kernel_rfl) (by kernel_rfl) (by kernel_rfl) (fun _ _ _ h => h) (by kernel_rfl) (fun V hV => ?hy10) ?go10
  case hy10 => (obtain ⟨i0, i1, i2⟩ := hV; go_simp <;> rfl)
  simp only [Act.put, List.setIfInBounds_toArray, List.set_cons_zero, List.set_cons_succ]
  refine inv_take (v := ?v11) [2, 9] 1 hI rfl (by kernel_rfl) (by kernel_rfl) (by kernel_rfl) (by kernel_rfl) (by kernel_rfl) (fun _ _ _ h => h) (by kernel_rfl) (fun V hV => ?hy11) ?go11
  case hy11 => (obtain ⟨i0, i1, i2⟩ := hV; go_simp <;> rfl)
  simp only [Act.put, List.setIfInBounds_toArray, List.set_cons_zero, List.set_cons_succ]
  refine inv_take (v := ?v12) [9] 2 hI rfl (by kernel_rfl) (by kernel_rfl) (by kernel_rfl) (by kernel_rfl) (by kernel_rfl) (fun _ _ _ h => h) (by kernel_rfl) (fun V hV => ?hy12) ?go12
  case hy12 => (obtain ⟨i0, i1, i2⟩ := hV; go_simp <;> rfl)
  simp only [Act.put, List.setIfInBounds_toArray, List.set_cons_zero, List.set_cons_succ]
  refine inv_take (v := ?v13) [4, 9] 3 hI rfl (by kernel_rfl) (by kernel_rfl) (by kernel_rfl) (by kernel_rfl) (by kernel_rfl) (fun _ _ _ h => h) (by kernel_rfl) (fun V hV => ?hy13) ?go13
  case hy13 => (obtain ⟨i0, i1, i2⟩ := hV; go_simp <;> rfl)
  simp only [Act.put, List.setIfInBounds_toArray, List.set_cons_zero, List.set_cons_succ]
  refine inv_take (v := ?v14) [9] 4 hI rfl (by kernel_rfl) (by kernel_rfl) (by kernel_rfl) (by kernel_rfl) (by kernel_rfl) (fun _ _ _ h => h) (by kernel_rfl) (fun V hV => ?hy14) ?go14
  case hy14 => (obtain ⟨i0, i1, i2⟩ := hV; go_simp <;> rfl)
  simp only [Act.put, List.setIfInBounds_toArray, List.set_cons_zero, List.set_cons_succ]
  refine inv_take (v := ?v15) [6, 9] 5 hI rfl (by kernel_rfl) (by kernel_rfl) (by kernel_rfl) (by kernel_rfl) (by kernel_rfl) (fun _ _ _ h => h) (by kernel_rfl) (fun V hV => ?hy15) ?go15
  case hy15 => (obtain ⟨i0, i1, i2⟩ := hV; go_simp <;> rfl)
  simp only [Act.put, List.setIfInBounds_toArray, List.set_cons_zero, List.set_cons_succ]
  refine inv_take (v := ?v16) [9] 6 hI rfl (by kernel_rfl) (by kernel_rfl) (by kernel_rfl) (by kernel_rfl) (by kernel_rfl) (fun _ _ _ h => h) (by kernel_rfl) (fun V hV => ?hy16) ?go16
  case hy16 => (obtain ⟨i0, i1, i2⟩ := hV; go_simp <;> rfl)
  simp only [Act.put, List.setIfInBounds_toArray, List.set_cons_zero, List.set_cons_succ]
  refine inv_take (v := ?v17) [8, 9] 7 hI rfl (by kernel_rfl) (by kernel_rfl) (by kernel_rfl) (by kernel_rfl) (by kernel_rfl) (fun _ _ _ h => h) (by kernel_rfl) (fun V hV => ?hy17) ?go17
  case hy17 => (obtain ⟨i0, i1, i2⟩ := hV; go_simp <;> rfl)
  simp only [Act.put, List.setIfInBounds_toArray, List.set_cons_zero, List.set_cons_succ]
  refine inv_take (v := ?v18) [9] 8 hI rfl (by kernel_rfl) (by kernel_rfl) (by kernel_rfl) (by kernel_rfl) (by kernel_rfl) (fun _ _ _ h => h) (by kernel_rfl) (fun V hV => ?hy18) ?go18
  case hy18 => (obtain ⟨i0, i1, i2⟩ := hV; go_simp <;> rfl)
  simp only [Act.put, List.setIfInBounds_toArray, List.set_cons_zero, List.set_cons_succ]
  refine inv_write 9 (by kernel_rfl) (by kernel_rfl) rfl ?_
  clear hI
  go_wp2_with (go_at_call 42; refine (hd_ask h4 (l := x.l) x.i hf0 hm).mono ?_; rintro e V4 ⟨rfl, hk4, A', hA1, hA2, h5⟩; rw [HB.out])
  refine then_n ?_
  refine any_done (by kernel_rfl) ?_
  have hgA : ∀ j, w.heap.size ≤ j → j < V3.heap.size → ¬ A' j := fun j hj1 hj2 ha => (hA1 j ha).elim (fun h => by have := HA.out j h; omega) (fun h => by omega)
  have hgA0 : ∀ j, A j → j < w.heap.size := HA.out
  have bp5 := bp4.keep hk4 (fun h => by have := hgA0 _ h; omega)
  have br5 := br4.keep hk4 (fun h => by have := hgA0 _ h; omega)
  have hb4 := br4.lt
  have hK5 : Keep A w V4 := (Keep.of_below (F := A) hB4).trans hk4 (fun j _ h => h)
  have hsz : V3.heap.size ≤ V4.heap.size := hk4.size
  have hsz0 : w.heap.size ≤ V3.heap.size := hB4.size
  clear hs4 bp4 br4 hk4
  obtain ⟨q0, q1, q2, q3, q4, q5, q6, q7, q8, qf, ql⟩ := id bp5
  obtain ⟨P, hP⟩ : ∃ P, grantP node x.f x.i x.l DL = P := ⟨_, rfl⟩
  go_wp2_with (go_at_call 38; refine (hd_granted h5 hL HH.out x.f x.i).mono ?_; rw [hP]; rintro e V5 ⟨d, rfl, hd5, b5⟩; obtain ⟨a5, n5, c5, ed, _⟩ := id hd5; subst ed; have br6 := br5.next b5; obtain ⟨r0, r1, r2, r3, r4, r5, r6, r7, r8, rf, rl⟩ := id br6; have f0 := rf 0)
  have hkk : Keep (fun k => k = w.heap.size + 1) V5 _ := far9 (g := w.heap.size + 1) (y := P) (v := .slice a5 n5 c5) (W := V5) (P := fun V => Keep (fun k => k = w.heap.size + 1) V5 V) (fun V o u h => h.setCell (.inl rfl) u) (Keep.refl _ _)
  refine bodyPost_ret (v := .tuple #[Pk.val P (.slice a5 n5 c5), .bool true, .int .i64 0]) (by simp [results, Try.results22, go_sem, *]) rfl ⟨_, by rw [hP], by rw [hP]; exact (hd5.keep hkk (fun j hj e => by omega)).imp (fun j _ hj => by omega), ?_, A', ?_, hA2, (h5.below b5).keep hkk (fun j hj e => hgA j (by omega) (by omega) hj)⟩
  · exact (hK5.trans (Keep.of_below (F := fun _ => False) b5) (fun j _ h => h.elim)).trans hkk (fun j hj e => by omega)
  · exact fun j hj => (hA1 j hj).imp id (fun h => by omega)
end
end Go.Proofs.Ytgeiagndpfdnlaa
end
section
namespace Go.Proofs.Ytgeiagndpfdnlaa
open Go.RowKit Go.Maps
set_option linter.unusedVariables false
set_option maxRecDepth 20000

section
variable {w : World} {g m N L K : Nat} {A : Nat → Prop} {node : Int} {DL : List Hr} {o : List (Int × Int)} {q : List Wr}
set_option maxHeartbeats 1000000 in
theorem dh_state (h : HD w g A m N L K node DL o q) (hN : 1 ≤ N) (hL : L ≤ 8) (hm : m ≤ 1000) (x : Pk) (a : Option Addr) (n c : Nat) (hsl : Sl w a n c x.z) (HR : Hid (x.right = true)) (h1 : x.t = node) (h2 : x.f < (N : Int)) (hk : x.k = 2) (hh : hereI N L node x.l = true) (ho : ownT o x.l ≠ x.f) :
    Calls Try.prog 22 #[.pointer (some ⟨g, 0, none⟩), x.val (.slice a n c)] w fun e w' => e = .returned (.tuple #[zeroPk.val (.slice none 0 0), .bool false, .int .i64 6]) ∧ Below w.heap.size w w' := by
  have hob : (ownT o x.l != x.f) = true := by simp [ho]
  clear ho
  have h1b : (x.t != node) = false := by simp [h1]
  have h2b : decide ((N : Int) ≤ x.f) = false := decide_eq_false (by omega)
  have HT : Hid (x.t = node ∧ x.f < (N : Int) ∧ 1 ≤ N) := ⟨h1, h2, hN⟩
  clear h1 h2 hN
  have h3b : (x.k != 1) = true := by simp [hk]
  have h3d : (x.k != 2) = false := by simp [hk]
  have h3c : (x.k == 1) = false := by simp [hk]
  clear hk
  unfold Pk.val
  go_enter Try.func22, Try.ntmps22
  go_upto_region 1 with fail
  have hB : Below w.heap.size w ((w.alloc (.cells #[.int .i64 x.k, .int .i64 x.f, .int .i64 x.t, .int .i64 x.i, .int .i64 x.l, .int .i64 x.p, .int .i64 x.s, .bool x.fl, .slice a n c] 32)).alloc (.cells #[.int .i64 0, .int .i64 0, .int .i64 0, .int .i64 0, .int .i64 0, .int .i64 0, .int .i64 0, .bool false, .slice none 0 0] 32)) := ba (ba (Below.refl _ _))
  have bxp : Bx ((w.alloc (.cells #[.int .i64 x.k, .int .i64 x.f, .int .i64 x.t, .int .i64 x.i, .int .i64 x.l, .int .i64 x.p, .int .i64 x.s, .bool x.fl, .slice a n c] 32)).alloc (.cells #[.int .i64 0, .int .i64 0, .int .i64 0, .int .i64 0, .int .i64 0, .int .i64 0, .int .i64 0, .bool false, .slice none 0 0] 32)) w.heap.size x (.slice a n c) := (Bx.made w x (.slice a n c)).next (ba (Below.refl _ _))
  have bxr : Bx ((w.alloc (.cells #[.int .i64 x.k, .int .i64 x.f, .int .i64 x.t, .int .i64 x.i, .int .i64 x.l, .int .i64 x.p, .int .i64 x.s, .bool x.fl, .slice a n c] 32)).alloc (.cells #[.int .i64 0, .int .i64 0, .int .i64 0, .int .i64 0, .int .i64 0, .int .i64 0, .int .i64 0, .bool false, .slice none 0 0] 32)) (w.heap.size + 1) zeroPk (.slice none 0 0) := Bx.made' (w.alloc (.cells #[.int .i64 x.k, .int .i64 x.f, .int .i64 x.t, .int .i64 x.i, .int .i64 x.l, .int .i64 x.p, .int .i64 x.s, .bool x.fl, .slice a n c] 32)) zeroPk (.slice none 0 0) _ (by simp)
  have h1 := h.below hB
  have hs1 := hsl.below hB
  obtain ⟨c0, c8, lt⟩ := h1.cells
  have HG : Hid (g < w.heap.size ∧ w.heap.size ≤ ((w.alloc (.cells #[.int .i64 x.k, .int .i64 x.f, .int .i64 x.t, .int .i64 x.i, .int .i64 x.l, .int .i64 x.p, .int .i64 x.s, .bool x.fl, .slice a n c] 32)).alloc (.cells #[.int .i64 0, .int .i64 0, .int .i64 0, .int .i64 0, .int .i64 0, .int .i64 0, .int .i64 0, .bool false, .slice none 0 0] 32)).heap.size) := ⟨h.cells.2.2, hB.size⟩
  have HA : Hid (∀ j, A j → j < w.heap.size) := h.old
  clear hsl h
  generalize World.alloc _ (.cells #[.int .i64 0, .int .i64 0, .int .i64 0, .int .i64 0, .int .i64 0, .int .i64 0, .int .i64 0, .bool false, .slice none 0 0] 32) = W at *
  obtain ⟨q0, q1, q2, q3, q4, q5, q6, q7, q8, qf, ql⟩ := id bxp
  have uc := @Up.cell
  have uf := @Up.frozen
  refine wp_region_up (by kernel_rfl) (by kernel_rfl) ?_
  repeat (go_big_quiet_step ((go_at_call 40; exact Calls.up_of (rightIs x a n c _ (hs1.below (Subtype.property _)) true HR.out))))
  refine wpQuiet_nil ?_
  rintro _ ⟨u, rfl⟩
  clear uc uf
  have h2 := h1.below u.2
  have hs2 := hs1.below u.2
  have bp2 := bxp.next u.2
  have br2 := bxr.next u.2
  have hBu := next hB u.2
  clear c0 c8 lt q0 q1 q2 q3 q4 q5 q6 q7 q8 qf ql bxp bxr h1 hs1 hB h1b h2b
  generalize u.val = V at *
  clear u W HG
  obtain ⟨q0, q1, q2, q3, q4, q5, q6, q7, q8, qf, ql⟩ := id bp2
  have HH : Hid (hereI N L node x.l = true) := hh
  clear hh
  go_upto_region 9 with ((go_at_call 41; refine (hd_here h2 HT.out.2.2 x.l).mono ?_; rintro e V2 ⟨rfl, b2⟩); rw [HH.out]; obtain ⟨k1, k2⟩ := bcell b2)
  clear k1 k2 q0 q1 q2 q3 q4 q5 q6 q7 q8 qf ql
  have h3 := h2.below b2
  have hs3 := hs2.below b2
  have bp3 := bp2.next b2
  have br3 := br2.next b2
  have hB3 := next hBu b2
  clear h2 hs2 bp2 br2 hBu b2 V
  obtain ⟨c0, c8, lt⟩ := h3.cells
  obtain ⟨q0, q1, q2, q3, q4, q5, q6, q7, q8, qf, ql⟩ := id bp3
  have uc := @Up.cell
  have uf := @Up.frozen
  refine wp_region_up (by kernel_rfl) (by kernel_rfl) ?_
  repeat (go_big_quiet_step ((go_at_call 20; exact Calls.up_of (hd_owner (h3.below (Subtype.property _)) x.l))))
  refine wpQuiet_nil ?_
  rintro _ ⟨u, rfl⟩
  clear uc uf q0 q1 q2 q3 q4 q5 q6 q7 q8 qf ql c0 c8 lt
  have h4 := h3.below u.2
  have hs4 := hs3.below u.2
  have bp4 := bp3.next u.2
  have br4 := br3.next u.2
  have hB4 := next hB3 u.2
  clear h3 hs3 bp3 br3 hB3
  generalize u.val = V3 at *
  clear u V2
  obtain ⟨r0, r1, r2, r3, r4, r5, r6, r7, r8, rf, rl⟩ := id br4
  have f0 := rf 0
  go_wp2
  refine bodyPost_ret (v := .tuple #[Pk.val zeroPk (.slice none 0 0), .bool false, .int .i64 6]) (by simp [results, Try.results22, go_sem, *, zeroPk]) rfl ⟨rfl, far9 (g := w.heap.size + 1) (y := zeroPk) (v := .slice none 0 0) (W := V3) (P := fun V => Below w.heap.size w V) (fun V o u h => h.setCell (by simp) u) hB4⟩
set_option maxHeartbeats 1000000 in
theorem dh_ok (h : HD w g A m N L K node DL o q) (hN : 1 ≤ N) (hL : L ≤ 8) (hm : m ≤ 1000) (x : Pk) (a : Option Addr) (n c : Nat) (hsl : Sl w a n c x.z) (HR : Hid (x.right = true)) (h1 : x.t = node) (h2 : x.f < (N : Int)) (hk : x.k = 2) (hh : hereI N L node x.l = true) (ho : ownT o x.l = x.f) (hf0 : 0 ≤ x.f) (hfl : x.fl = false) (he : (setD N L K node DL x.l x.s x.p []).1 = 0) :
    Calls Try.prog 22 #[.pointer (some ⟨g, 0, none⟩), x.val (.slice a n c)] w fun e w' => e = .returned (.tuple #[Pk.val ⟨8, node, x.f, x.i, x.l, 0, 0, false, []⟩ (.slice none 0 0), .bool true, .int .i64 0]) ∧ Keep A w w' ∧ ∃ A', (∀ j, A' j → A j ∨ w.heap.size ≤ j) ∧ (∀ j, A j → A' j) ∧ HD w' g A' m N L K node (setD N L K node DL x.l x.s x.p []).2 (relO o x.l) q := by
  have hob : (ownT o x.l != x.f) = false := by simp [ho]
  have HO : Hid (ownT o x.l = x.f) := ho
  have HE : Hid ((setD N L K node DL x.l x.s x.p []).1 = 0) := he
  have hn0 : n ≤ 17592186044416 := by have := ((Pk.right_iff x).1 HR.out).z; have := hsl.len; omega
  have HFL : Hid (x.fl = false) := hfl
  clear ho he hfl
  have h1b : (x.t != node) = false := by simp [h1]
  have h2b : decide ((N : Int) ≤ x.f) = false := decide_eq_false (by omega)
  have HT : Hid (x.t = node ∧ x.f < (N : Int) ∧ 1 ≤ N) := ⟨h1, h2, hN⟩
  clear h1 h2 hN
  have h3b : (x.k != 1) = true := by simp [hk]
  have h3d : (x.k != 2) = false := by simp [hk]
  have h3c : (x.k == 1) = false := by simp [hk]
  clear hk
  unfold Pk.val
  go_enter Try.func22, Try.ntmps22
  go_upto_region 1 with fail
  have hB : Below w.heap.size w ((w.alloc (.cells #[.int .i64 x.k, .int .i64 x.f, .int .i64 x.t, .int .i64 x.i, .int .i64 x.l, .int .i64 x.p, .int .i64 x.s, .bool x.fl, .slice a n c] 32)).alloc (.cells #[.int .i64 0, .int .i64 0, .int .i64 0, .int .i64 0, .int .i64 0, .int .i64 0, .int .i64 0, .bool false, .slice none 0 0] 32)) := ba (ba (Below.refl _ _))
  have bxp : Bx ((w.alloc (.cells #[.int .i64 x.k, .int .i64 x.f, .int .i64 x.t, .int .i64 x.i, .int .i64 x.l, .int .i64 x.p, .int .i64 x.s, .bool x.fl, .slice a n c] 32)).alloc (.cells #[.int .i64 0, .int .i64 0, .int .i64 0, .int .i64 0, .int .i64 0, .int .i64 0, .int .i64 0, .bool false, .slice none 0 0] 32)) w.heap.size x (.slice a n c) := (Bx.made w x (.slice a n c)).next (ba (Below.refl _ _))
  have bxr : Bx ((w.alloc (.cells #[.int .i64 x.k, .int .i64 x.f, .int .i64 x.t, .int .i64 x.i, .int .i64 x.l, .int .i64 x.p, .int .i64 x.s, .bool x.fl, .slice a n c] 32)).alloc (.cells #[.int .i64 0, .int .i64 0, .int .i64 0, .int .i64 0, .int .i64 0, .int .i64 0, .int .i64 0, .bool false, .slice none 0 0] 32)) (w.heap.size + 1) zeroPk (.slice none 0 0) := Bx.made' (w.alloc (.cells #[.int .i64 x.k, .int .i64 x.f, .int .i64 x.t, .int .i64 x.i, .int .i64 x.l, .int .i64 x.p, .int .i64 x.s, .bool x.fl, .slice a n c] 32)) zeroPk (.slice none 0 0) _ (by simp)
  have h1 := h.below hB
  have hs1 := hsl.below hB
  obtain ⟨c0, c8, lt⟩ := h1.cells
  have HG : Hid (g < w.heap.size ∧ w.heap.size ≤ ((w.alloc (.cells #[.int .i64 x.k, .int .i64 x.f, .int .i64 x.t, .int .i64 x.i, .int .i64 x.l, .int .i64 x.p, .int .i64 x.s, .bool x.fl, .slice a n c] 32)).alloc (.cells #[.int .i64 0, .int .i64 0, .int .i64 0, .int .i64 0, .int .i64 0, .int .i64 0, .int .i64 0, .bool false, .slice none 0 0] 32)).heap.size) := ⟨h.cells.2.2, hB.size⟩
  have HA : Hid (∀ j, A j → j < w.heap.size) := h.old
  clear hsl h
  generalize World.alloc _ (.cells #[.int .i64 0, .int .i64 0, .int .i64 0, .int .i64 0, .int .i64 0, .int .i64 0, .int .i64 0, .bool false, .slice none 0 0] 32) = W at *
  obtain ⟨q0, q1, q2, q3, q4, q5, q6, q7, q8, qf, ql⟩ := id bxp
  have uc := @Up.cell
  have uf := @Up.frozen
  refine wp_region_up (by kernel_rfl) (by kernel_rfl) ?_
  repeat (go_big_quiet_step ((go_at_call 40; exact Calls.up_of (rightIs x a n c _ (hs1.below (Subtype.property _)) true HR.out))))
  refine wpQuiet_nil ?_
  rintro _ ⟨u, rfl⟩
  clear uc uf
  have h2 := h1.below u.2
  have hs2 := hs1.below u.2
  have bp2 := bxp.next u.2
  have br2 := bxr.next u.2
  have hBu := next hB u.2
  clear c0 c8 lt q0 q1 q2 q3 q4 q5 q6 q7 q8 qf ql bxp bxr h1 hs1 hB h1b h2b
  generalize u.val = V at *
  clear u W HG
  obtain ⟨q0, q1, q2, q3, q4, q5, q6, q7, q8, qf, ql⟩ := id bp2
  have HH : Hid (hereI N L node x.l = true) := hh
  clear hh
  go_upto_region 9 with ((go_at_call 41; refine (hd_here h2 HT.out.2.2 x.l).mono ?_; rintro e V2 ⟨rfl, b2⟩); rw [HH.out]; obtain ⟨k1, k2⟩ := bcell b2)
  clear k1 k2 q0 q1 q2 q3 q4 q5 q6 q7 q8 qf ql
  have h3 := h2.below b2
  have hs3 := hs2.below b2
  have bp3 := bp2.next b2
  have br3 := br2.next b2
  have hB3 := next hBu b2
  clear h2 hs2 bp2 br2 hBu b2 V
  obtain ⟨c0, c8, lt⟩ := h3.cells
  obtain ⟨q0, q1, q2, q3, q4, q5, q6, q7, q8, qf, ql⟩ := id bp3
  have uc := @Up.cell
  have uf := @Up.frozen
  refine wp_region_up (by kernel_rfl) (by kernel_rfl) ?_
  repeat (go_big_quiet_step ((go_at_call 20; exact Calls.up_of (hd_owner (h3.below (Subtype.property _)) x.l))))
  refine wpQuiet_nil ?_
  rintro _ ⟨u, rfl⟩
  clear uc uf q0 q1 q2 q3 q4 q5 q6 q7 q8 qf ql c0 c8 lt
  have h4 := h3.below u.2
  have hs4 := hs3.below u.2
  have bp4 := bp3.next u.2
  have br4 := br3.next u.2
  have hB4 := next hB3 u.2
  clear h3 hs3 bp3 br3 hB3
  generalize u.val = V3 at *
  clear u V2
  have hn4 := hn0
  have hfl := HFL.out
  obtain ⟨q0, q1, q2, q3, q4, q5, q6, q7, q8, qf, ql⟩ := id bp4
  have hgA0 : ∀ j, A j → j < w.heap.size := HA.out
  go_upto_region 14 with fail
  go_upto_region 15 with (go_at_call 43; refine (hd_set h4 HT.out.2.2 hL x.l x.s x.p none 0 0 [] (sl_nil _) (by omega)).mono ?_; rintro e V4 ⟨rfl, hk5, A', hA1, hA2, h5⟩; rw [HE.out])
  clear q0 q1 q2 q3 q4 q5 q6 q7 q8 qf ql hfl
  have hgA : ∀ j, w.heap.size ≤ j → j < V3.heap.size → ¬ A' j := fun j hj1 hj2 ha => (hA1 j ha).elim (fun h => by have := hgA0 j h; omega) (fun h => by omega)
  have bp5 := bp4.keep hk5 (fun h => by have := hgA0 _ h; omega)
  have br5 := br4.keep hk5 (fun h => by have := hgA0 _ h; omega)
  have hb4 := br4.lt
  have hK5 : Keep A w V4 := (Keep.of_below (F := A) hB4).trans hk5 (fun j _ h => h)
  have hsz : V3.heap.size ≤ V4.heap.size := hk5.size
  have hsz0 : w.heap.size ≤ V3.heap.size := hB4.size
  clear hs4 bp4 br4 hk5
  go_upto_region 17 with fail
  refine wp_region_orders 8 rfl (by kernel_rfl) ?_
  have Bd : Below V4.heap.size V4 V4.drew := (Below.refl _ _).drew
  have h6 := h5.below Bd
  have bp6 := bp5.next Bd
  have br6 := br5.next Bd
  have hK6 : Keep A w V4.drew := hK5.trans (Keep.of_below (F := fun _ => False) Bd) (fun j _ h => h.elim)
  replace hsz : V3.heap.size ≤ V4.drew.heap.size := Nat.le_trans hsz Bd.size
  clear h5 bp5 br5 hK5 Bd
  generalize V4.drew = V5 at *
  clear V4
  have hsz5 : w.heap.size ≤ V5.heap.size := by omega
  have hI : (fun V => V.cell? ⟨w.heap.size, 1, none⟩ = some (.int .i64 x.f) ∧ V.cell? ⟨w.heap.size, 4, none⟩ = some (.int .i64 x.l)) V5 := ⟨bp6.c1, bp6.c4⟩
  refine any_inv (fun V => V.cell? ⟨w.heap.size, 1, none⟩ = some (.int .i64 x.f) ∧ V.cell? ⟨w.heap.size, 4, none⟩ = some (.int .i64 x.l)) [7] hI ?_
  refine inv_take (v := ?v19) [1, 2, 7] 0 hI rfl (by kernel_rfl) (by kernel_rfl) (by kernel_rfl) (by kernel_rfl) (by kernel_rfl) (fun _ _ _ h => h) (by kernel_rfl) (fun V hV => ?hy19) ?go19
  case hy19 => (obtain ⟨i0, i1⟩ := hV; go_simp <;> rfl)
  simp only [Act.put, List.setIfInBounds_toArray, List.set_cons_zero, List.set_cons_succ]
  refine inv_take (v := ?v20) [2, 7] 1 hI rfl (by kernel_rfl) (by kernel_rfl) (by kernel_rfl) (by kernel_rfl) (by kernel_rfl) (fun _ _ _ h => h) (by kernel_rfl) (fun V hV => ?hy20) ?go20
  case hy20 => (obtain ⟨i0, i1⟩ := hV; go_simp <;> rfl)
  simp only [Act.put, List.setIfInBounds_toArray, List.set_cons_zero, List.set_cons_succ]
  refine inv_take (v := ?v21) [7] 2 hI rfl (by kernel_rfl) (by kernel_rfl) (by kernel_rfl) (by kernel_rfl) (by kernel_rfl) (fun _ _ _ h => h) (by kernel_rfl) (fun V hV => ?hy21) ?go21
  case hy21 => (obtain ⟨i0, i1⟩ := hV; go_simp <;> rfl)
  simp only [Act.put, List.setIfInBounds_toArray, List.set_cons_zero, List.set_cons_succ]
  refine inv_take (v := ?v22) [4, 7] 3 hI rfl (by kernel_rfl) (by kernel_rfl) (by kernel_rfl) (by kernel_rfl) (by kernel_rfl) (fun _ _ _ h => h) (by kernel_rfl) (fun V hV => ?hy22) ?go22
  case hy22 => (obtain ⟨i0, i1⟩ := hV; go_simp <;> rfl)
  simp only [Act.put, List.setIfInBounds_toArray, List.set_cons_zero, List.set_cons_succ]
  refine inv_take (v := ?v23) [7] 4 hI rfl (by kernel_rfl) (by kernel_rfl) (by kernel_rfl) (by kernel_rfl) (by kernel_rfl) (fun _ _ _ h => h) (by kernel_rfl) (fun V hV => ?hy23) ?go23
  case hy23 => (obtain ⟨i0, i1⟩ := hV; go_simp <;> rfl)
  simp only [Act.put, List.setIfInBounds_toArray, List.set_cons_zero, List.set_cons_succ]
  refine inv_take (v := ?v24) [6, 7] 5 hI rfl (by kernel_rfl) (by kernel_rfl) (by kernel_rfl) (by kernel_rfl) (by kernel_rfl) (fun _ _ _ h => h) (by kernel_rfl) (fun V hV => ?hy24) ?go24
  case hy24 => (obtain ⟨i0, i1⟩ := hV; go_simp <;> rfl)
  simp only [Act.put, List.setIfInBounds_toArray, List.set_cons_zero, List.set_cons_succ]
  refine inv_take (v := ?v25) [7] 6 hI rfl (by kernel_rfl) (by kernel_rfl) (by kernel_rfl) (by kernel_rfl) (by kernel_rfl) (fun _ _ _ h => h) (by kernel_rfl) (fun V hV => ?hy25) ?go25
  case hy25 => (obtain ⟨i0, i1⟩ := hV; go_simp <;> rfl)
  simp only [Act.put, List.setIfInBounds_toArray, List.set_cons_zero, List.set_cons_succ]
  refine inv_write 7 (by kernel_rfl) (by kernel_rfl) rfl ?_
  clear hI
  go_wp2_with (go_at_call 44; refine (hd_release h6 (l := x.l) hf0 HO.out hm).mono ?_; rintro e V6 ⟨rfl, hk7, A2, hA3, hA4, h7⟩)
  refine then_n ?_
  refine any_done (by kernel_rfl) ?_
  have hgA2 : ∀ j, w.heap.size ≤ j → j < V3.heap.size → ¬ A2 j := fun j hj1 hj2 ha => (hA3 j ha).elim (hgA j hj1 hj2) (fun h => by omega)
  have bp7 := bp6.keep hk7 (fun h => hgA _ (Nat.le_refl _) (by omega) h)
  have br7 := br6.keep hk7 (fun h => hgA _ (by omega) hb4 h)
  have hK7 : Keep A w V6 := hK6.trans hk7 (fun j hj h => (hA1 j h).elim id (fun h => by omega))
  replace hsz : V3.heap.size ≤ V6.heap.size := Nat.le_trans hsz hk7.size
  clear bp6 br6 hK6 hk7
  go_upto_region 18 with fail
  refine wp_region_orders 14 rfl (by kernel_rfl) ?_
  have Bd : Below V6.heap.size V6 V6.drew := (Below.refl _ _).drew
  have h8 := h7.below Bd
  have bp8 := bp7.next Bd
  have br8 := br7.next Bd
  have hK8 : Keep A w V6.drew := hK7.trans (Keep.of_below (F := fun _ => False) Bd) (fun j _ h => h.elim)
  replace hsz : V3.heap.size ≤ V6.drew.heap.size := Nat.le_trans hsz Bd.size
  clear h7 bp7 br7 hK7 Bd
  generalize V6.drew = V7 at *
  clear V6
  have hI : (fun V => V.cell? ⟨w.heap.size, 1, none⟩ = some (.int .i64 x.f) ∧ V.cell? ⟨w.heap.size, 3, none⟩ = some (.int .i64 x.i) ∧ V.cell? ⟨w.heap.size, 4, none⟩ = some (.int .i64 x.l) ∧ V.cell? ⟨g, 8, none⟩ = some (.int .i64 node)) V7 := ⟨bp8.c1, bp8.c3, bp8.c4, h8.cells.2.1⟩
  refine any_inv (fun V => V.cell? ⟨w.heap.size, 1, none⟩ = some (.int .i64 x.f) ∧ V.cell? ⟨w.heap.size, 3, none⟩ = some (.int .i64 x.i) ∧ V.cell? ⟨w.heap.size, 4, none⟩ = some (.int .i64 x.l) ∧ V.cell? ⟨g, 8, none⟩ = some (.int .i64 node)) [11] hI ?_
  refine inv_take (v := ?v26) [1, 2, 3, 10, 11] 0 hI rfl (by kernel_rfl) (by kernel_rfl) (by kernel_rfl) (by kernel_rfl) (by kernel_rfl) (fun _ _ _ h => h) (by kernel_rfl) (fun V hV => ?hy26) ?go26
  case hy26 => (obtain ⟨i0, i1, i2, i3⟩ := hV; go_simp <;> rfl)
  simp only [Act.put, List.setIfInBounds_toArray, List.set_cons_zero, List.set_cons_succ]
  refine inv_take (v := ?v27) [2, 3, 10, 11] 1 hI rfl (by kernel_rfl) (by kernel_rfl) (by kernel_rfl) (by kernel_rfl) (by kernel_rfl) (fun _ _ _ h => h) (by kernel_rfl) (fun V hV => ?hy27) ?go27
  case hy27 => (obtain ⟨i0, i1, i2, i3⟩ := hV; go_simp <;> rfl)
  simp only [Act.put, List.setIfInBounds_toArray, List.set_cons_zero, List.set_cons_succ]
  refine inv_take (v := ?v28) [3, 10, 11] 2 hI rfl (by kernel_rfl) (by kernel_rfl) (by kernel_rfl) (by kernel_rfl) (by kernel_rfl) (fun _ _ _ h => h) (by kernel_rfl) (fun V hV => ?hy28) ?go28
  case hy28 => (obtain ⟨i0, i1, i2, i3⟩ := hV; go_simp <;> rfl)
  simp only [Act.put, List.setIfInBounds_toArray, List.set_cons_zero, List.set_cons_succ]
  refine inv_take (v := ?v29) [10, 11] 3 hI rfl (by kernel_rfl) (by kernel_rfl) (by kernel_rfl) (by kernel_rfl) (by kernel_rfl) (fun _ _ _ h => h) (by kernel_rfl) (fun V hV => ?hy29) ?go29
  case hy29 => (obtain ⟨i0, i1, i2, i3⟩ := hV; go_simp <;> rfl)
  simp only [Act.put, List.setIfInBounds_toArray, List.set_cons_zero, List.set_cons_succ]
  refine inv_take (v := ?v30) [5, 10, 11] 4 hI rfl (by kernel_rfl) (by kernel_rfl) (by kernel_rfl) (by kernel_rfl) (by kernel_rfl) (fun _ _ _ h => h) (by kernel_rfl) (fun V hV => ?hy30) ?go30
  case hy30 => (obtain ⟨i0, i1, i2, i3⟩ := hV; go_simp <;> rfl)
  simp only [Act.put, List.setIfInBounds_toArray, List.set_cons_zero, List.set_cons_succ]
  refine inv_take (v := ?v31) [10, 11] 5 hI rfl (by kernel_rfl) (by kernel_rfl) (by kernel_rfl) (by kernel_rfl) (by kernel_rfl) (fun _ _ _ h => h) (by kernel_rfl) (fun V hV => ?hy31) ?go31
  case hy31 => (obtain ⟨i0, i1, i2, i3⟩ := hV; go_simp <;> rfl)
  simp only [Act.put, List.setIfInBounds_toArray, List.set_cons_zero, List.set_cons_succ]
  refine inv_take (v := ?v32) [7, 10, 11] 6 hI rfl (by kernel_rfl) (by kernel_rfl) (by kernel_rfl) (by kernel_rfl) (by kernel_rfl) (fun _ _ _ h => h) (by kernel_rfl) (fun V hV => ?hy32) ?go32
  case hy32 => (obtain ⟨i0, i1, i2, i3⟩ := hV; go_simp <;> rfl)
  simp only [Act.put, List.setIfInBounds_toArray, List.set_cons_zero, List.set_cons_succ]
  refine inv_take (v := ?v33) [10, 11] 7 hI rfl (by kernel_rfl) (by kernel_rfl) (by kernel_rfl) (by kernel_rfl) (by kernel_rfl) (fun _ _ _ h => h) (by kernel_rfl) (fun V hV => ?hy33) ?go33
  case hy33 => (obtain ⟨i0, i1, i2, i3⟩ := hV; go_simp <;> rfl)
  simp only [Act.put, List.setIfInBounds_toArray, List.set_cons_zero, List.set_cons_succ]
  refine inv_take (v := ?v34) [9, 10, 11] 8 hI rfl (by kernel_rfl) (by kernel_rfl) (by kernel_rfl) (by kernel_rfl) (by kernel_rfl) (fun _ _ _ h => h) (by kernel_rfl) (fun V hV => ?hy34) ?go34
  case hy34 => (obtain ⟨i0, i1, i2, i3⟩ := hV; go_simp <;> rfl)
  simp only [Act.put, List.setIfInBounds_toArray, List.set_cons_zero, List.set_cons_succ]
  refine inv_take (v := ?v35) [10, 11] 9 hI rfl (by kernel_rfl) (by kernel_rfl) (by kernel_rfl) (by kernel_rfl) (by kernel_rfl) (fun _ _ _ h => h) (by kernel_rfl) (fun V hV => ?hy35) ?go35
  case hy35 => (obtain ⟨i0, i1, i2, i3⟩ := hV; go_simp <;> rfl)
  simp only [Act.put, List.setIfInBounds_toArray, List.set_cons_zero, List.set_cons_succ]
  refine inv_take (v := ?v36) [11] 10 hI rfl (by kernel_rfl) (by kernel_rfl) (by kernel_rfl) (by kernel_rfl) (by kernel_rfl) (fun _ _ _ h => h) (by kernel_rfl) (fun V hV => ?hy36) ?go36
  case hy36 => (obtain ⟨i0, i1, i2, i3⟩ := hV; go_simp <;> rfl)
  simp only [Act.put, List.setIfInBounds_toArray, List.set_cons_zero, List.set_cons_succ]
  clear hI
  obtain ⟨r0, r1, r2, r3, r4, r5, r6, r7, r8, rf, rl⟩ := id br8
  have f0 := rf 0
  have bp9 := br8.put ⟨8, node, x.f, x.i, x.l, 0, 0, false, []⟩ (.slice none 0 0)
  have hkk : Keep (fun k => k = w.heap.size + 1) V7 _ := far9 (g := w.heap.size + 1) (y := ⟨8, node, x.f, x.i, x.l, 0, 0, false, []⟩) (v := .slice none 0 0) (W := V7) (P := fun V => Keep (fun k => k = w.heap.size + 1) V7 V) (fun V o u h => h.setCell (.inl rfl) u) (Keep.refl _ _)
  refine inv_write 11 (by kernel_rfl) (by kernel_rfl) rfl ?_
  go_wp2_with fail
  refine then_n ?_
  clear r0 r1 r2 r3 r4 r5 r6 r7 r8 rf rl f0
  generalize World.setCell _ ⟨w.heap.size + 1, 8, none⟩ _ = V9 at *
  obtain ⟨r0, r1, r2, r3, r4, r5, r6, r7, r8, rf, rl⟩ := id bp9
  refine any_list 12 (by kernel_rfl) rfl ?_
  go_wp2
  refine then_n ?_
  refine any_list 13 (by kernel_rfl) rfl ?_
  go_wp2
  refine then_n ?_
  refine any_done (by kernel_rfl) ?_
  go_wp2_with fail
  refine bodyPost_ret (v := .tuple #[Pk.val ⟨8, node, x.f, x.i, x.l, 0, 0, false, []⟩ (.slice none 0 0), .bool true, .int .i64 0]) (by simp [results, Try.results22, go_sem, *]) rfl ⟨rfl, ?_, A2, ?_, fun j hj => hA4 j (hA2 j hj), h8.keep hkk (fun j hj e => hgA2 j (by omega) (by omega) hj)⟩
  · exact hK8.trans hkk (fun j hj e => by omega)
  · exact fun j hj => (hA3 j hj).elim (fun h => (hA1 j h).imp id (fun h => by omega)) (fun h => .inr (by omega))
set_option maxHeartbeats 1000000 in
theorem dh_ok_f (h : HD w g A m N L K node DL o q) (hN : 1 ≤ N) (hL : L ≤ 8) (hm : m ≤ 1000) (x : Pk) (a : Option Addr) (n c : Nat) (hsl : Sl w a n c x.z) (HR : Hid (x.right = true)) (h1 : x.t = node) (h2 : x.f < (N : Int)) (hk : x.k = 2) (hh : hereI N L node x.l = true) (ho : ownT o x.l = x.f) (hf0 : 0 ≤ x.f) (hfl : x.fl = true) (he : (setD N L K node DL x.l x.s x.p x.z).1 = 0) :
    Calls Try.prog 22 #[.pointer (some ⟨g, 0, none⟩), x.val (.slice a n c)] w fun e w' => e = .returned (.tuple #[Pk.val ⟨8, node, x.f, x.i, x.l, 0, 0, false, []⟩ (.slice none 0 0), .bool true, .int .i64 0]) ∧ Keep A w w' ∧ ∃ A', (∀ j, A' j → A j ∨ w.heap.size ≤ j) ∧ (∀ j, A j → A' j) ∧ HD w' g A' m N L K node (setD N L K node DL x.l x.s x.p x.z).2 (relO o x.l) q := by
  have hob : (ownT o x.l != x.f) = false := by simp [ho]
  have HO : Hid (ownT o x.l = x.f) := ho
  have HE : Hid ((setD N L K node DL x.l x.s x.p x.z).1 = 0) := he
  have hn0 : n ≤ 17592186044416 := by have := ((Pk.right_iff x).1 HR.out).z; have := hsl.len; omega
  have HFL : Hid (x.fl = true) := hfl
  clear ho he hfl
  have h1b : (x.t != node) = false := by simp [h1]
  have h2b : decide ((N : Int) ≤ x.f) = false := decide_eq_false (by omega)
  have HT : Hid (x.t = node ∧ x.f < (N : Int) ∧ 1 ≤ N) := ⟨h1, h2, hN⟩
  clear h1 h2 hN
  have h3b : (x.k != 1) = true := by simp [hk]
  have h3d : (x.k != 2) = false := by simp [hk]
  have h3c : (x.k == 1) = false := by simp [hk]
  clear hk
  unfold Pk.val
  go_enter Try.func22, Try.ntmps22
  go_upto_region 1 with fail
  have hB : Below w.heap.size w ((w.alloc (.cells #[.int .i64 x.k, .int .i64 x.f, .int .i64 x.t, .int .i64 x.i, .int .i64 x.l, .int .i64 x.p, .int .i64 x.s, .bool x.fl, .slice a n c] 32)).alloc (.cells #[.int .i64 0, .int .i64 0, .int .i64 0, .int .i64 0, .int .i64 0, .int .i64 0, .int .i64 0, .bool false, .slice none 0 0] 32)) := ba (ba (Below.refl _ _))
  have bxp : Bx ((w.alloc (.cells #[.int .i64 x.k, .int .i64 x.f, .int .i64 x.t, .int .i64 x.i, .int .i64 x.l, .int .i64 x.p, .int .i64 x.s, .bool x.fl, .slice a n c] 32)).alloc (.cells #[.int .i64 0, .int .i64 0, .int .i64 0, .int .i64 0, .int .i64 0, .int .i64 0, .int .i64 0, .bool false, .slice none 0 0] 32)) w.heap.size x (.slice a n c) := (Bx.made w x (.slice a n c)).next (ba (Below.refl _ _))
  have bxr : Bx ((w.alloc (.cells #[.int .i64 x.k, .int .i64 x.f, .int .i64 x.t, .int .i64 x.i, .int .i64 x.l, .int .i64 x.p, .int .i64 x.s, .bool x.fl, .slice a n c] 32)).alloc (.cells #[.int .i64 0, .int .i64 0, .int .i64 0, .int .i64 0, .int .i64 0, .int .i64 0, .int .i64 0, .bool false, .slice none 0 0] 32)) (w.heap.size + 1) zeroPk (.slice none 0 0) := Bx.made' (w.alloc (.cells #[.int .i64 x.k, .int .i64 x.f, .int .i64 x.t, .int .i64 x.i, .int .i64 x.l, .int .i64 x.p, .int .i64 x.s, .bool x.fl, .slice a n c] 32)) zeroPk (.slice none 0 0) _ (by simp)
  have h1 := h.below hB
  have hs1 := hsl.below hB
  obtain ⟨c0, c8, lt⟩ := h1.cells
  have HG : Hid (g < w.heap.size ∧ w.heap.size ≤ ((w.alloc (.cells #[.int .i64 x.k, .int .i64 x.f, .int .i64 x.t, .int .i64 x.i, .int .i64 x.l, .int .i64 x.p, .int .i64 x.s, .bool x.fl, .slice a n c] 32)).alloc (.cells #[.int .i64 0, .int .i64 0, .int .i64 0, .int .i64 0, .int .i64 0, .int .i64 0, .int .i64 0, .bool false, .slice none 0 0] 32)).heap.size) := ⟨h.cells.2.2, hB.size⟩
  have HA : Hid (∀ j, A j → j < w.heap.size) := h.old
  clear hsl h
  generalize World.alloc _ (.cells #[.int .i64 0, .int .i64 0, .int .i64 0, .int .i64 0, .int .i64 0, .int .i64 0, .int .i64 0, .bool false, .slice none 0 0] 32) = W at *
  obtain ⟨q0, q1, q2, q3, q4, q5, q6, q7, q8, qf, ql⟩ := id bxp
  have uc := @Up.cell
  have uf := @Up.frozen
  refine wp_region_up (by kernel_rfl) (by kernel_rfl) ?_
  repeat (go_big_quiet_step ((go_at_call 40; exact Calls.up_of (rightIs x a n c _ (hs1.below (Subtype.property _)) true HR.out))))
  refine wpQuiet_nil ?_
  rintro _ ⟨u, rfl⟩
  clear uc uf
  have h2 := h1.below u.2
  have hs2 := hs1.below u.2
  have bp2 := bxp.next u.2
  have br2 := bxr.next u.2
  have hBu := next hB u.2
  clear c0 c8 lt q0 q1 q2 q3 q4 q5 q6 q7 q8 qf ql bxp bxr h1 hs1 hB h1b h2b
  generalize u.val = V at *
  clear u W HG
  obtain ⟨q0, q1, q2, q3, q4, q5, q6, q7, q8, qf, ql⟩ := id bp2
  have HH : Hid (hereI N L node x.l = true) := hh
  clear hh
  go_upto_region 9 with ((go_at_call 41; refine (hd_here h2 HT.out.2.2 x.l).mono ?_; rintro e V2 ⟨rfl, b2⟩); rw [HH.out]; obtain ⟨k1, k2⟩ := bcell b2)
  clear k1 k2 q0 q1 q2 q3 q4 q5 q6 q7 q8 qf ql
  have h3 := h2.below b2
  have hs3 := hs2.below b2
  have bp3 := bp2.next b2
  have br3 := br2.next b2
  have hB3 := next hBu b2
  clear h2 hs2 bp2 br2 hBu b2 V
  obtain ⟨c0, c8, lt⟩ := h3.cells
  obtain ⟨q0, q1, q2, q3, q4, q5, q6, q7, q8, qf, ql⟩ := id bp3
  have uc := @Up.cell
  have uf := @Up.frozen
  refine wp_region_up (by kernel_rfl) (by kernel_rfl) ?_
  repeat (go_big_quiet_step ((go_at_call 20; exact Calls.up_of (hd_owner (h3.below (Subtype.property _)) x.l))))
  refine wpQuiet_nil ?_
  rintro _ ⟨u, rfl⟩
  clear uc uf q0 q1 q2 q3 q4 q5 q6 q7 q8 qf ql c0 c8 lt
  have h4 := h3.below u.2
  have hs4 := hs3.below u.2
  have bp4 := bp3.next u.2
  have br4 := br3.next u.2
  have hB4 := next hB3 u.2
  clear h3 hs3 bp3 br3 hB3
  generalize u.val = V3 at *
  clear u V2
  have hn4 := hn0
  have hfl := HFL.out
  obtain ⟨q0, q1, q2, q3, q4, q5, q6, q7, q8, qf, ql⟩ := id bp4
  have hgA0 : ∀ j, A j → j < w.heap.size := HA.out
  go_upto_region 14 with fail
  go_upto_region 15 with (go_at_call 43; refine (hd_set h4 HT.out.2.2 hL x.l x.s x.p a n c x.z hs4 hn4).mono ?_; rintro e V4 ⟨rfl, hk5, A', hA1, hA2, h5⟩; rw [HE.out])
  clear q0 q1 q2 q3 q4 q5 q6 q7 q8 qf ql hfl
  have hgA : ∀ j, w.heap.size ≤ j → j < V3.heap.size → ¬ A' j := fun j hj1 hj2 ha => (hA1 j ha).elim (fun h => by have := hgA0 j h; omega) (fun h => by omega)
  have bp5 := bp4.keep hk5 (fun h => by have := hgA0 _ h; omega)
  have br5 := br4.keep hk5 (fun h => by have := hgA0 _ h; omega)
  have hb4 := br4.lt
  have hK5 : Keep A w V4 := (Keep.of_below (F := A) hB4).trans hk5 (fun j _ h => h)
  have hsz : V3.heap.size ≤ V4.heap.size := hk5.size
  have hsz0 : w.heap.size ≤ V3.heap.size := hB4.size
  clear hs4 bp4 br4 hk5
  go_upto_region 17 with fail
  refine wp_region_orders 8 rfl (by kernel_rfl) ?_
  have Bd : Below V4.heap.size V4 V4.drew := (Below.refl _ _).drew
  have h6 := h5.below Bd
  have bp6 := bp5.next Bd
  have br6 := br5.next Bd
  have hK6 : Keep A w V4.drew := hK5.trans (Keep.of_below (F := fun _ => False) Bd) (fun j _ h => h.elim)
  replace hsz : V3.heap.size ≤ V4.drew.heap.size := Nat.le_trans hsz Bd.size
  clear h5 bp5 br5 hK5 Bd
  generalize V4.drew = V5 at *
  clear V4
  have hsz5 : w.heap.size ≤ V5.heap.size := by omega
  have hI : (fun V => V.cell? ⟨w.heap.size, 1, none⟩ = some (.int .i64 x.f) ∧ V.cell? ⟨w.heap.size, 4, none⟩ = some (.int .i64 x.l)) V5 := ⟨bp6.c1, bp6.c4⟩
  refine any_inv (fun V => V.cell? ⟨w.heap.size, 1, none⟩ = some (.int .i64 x.f) ∧ V.cell? ⟨w.heap.size, 4, none⟩ = some (.int .i64 x.l)) [7] hI ?_
  refine inv_take (v := ?v37) [1, 2, 7] 0 hI rfl (by kernel_rfl) (by kernel_rfl) (by kernel_rfl) (by kernel_rfl) (by kernel_rfl) (fun _ _ _ h => h) (by kernel_rfl) (fun V hV => ?hy37) ?go37
  case hy37 => (obtain ⟨i0, i1⟩ := hV; go_simp <;> rfl)
  simp only [Act.put, List.setIfInBounds_toArray, List.set_cons_zero, List.set_cons_succ]
  refine inv_take (v := ?v38) [2, 7] 1 hI rfl (by kernel_rfl) (by kernel_rfl) (by kernel_rfl) (by kernel_rfl) (by kernel_rfl) (fun _ _ _ h => h) (by kernel_rfl) (fun V hV => ?hy38) ?go38
  case hy38 => (obtain ⟨i0, i1⟩ := hV; go_simp <;> rfl)
  simp only [Act.put, List.setIfInBounds_toArray, List.set_cons_zero, List.set_cons_succ]
  refine inv_take (v := ?v39) [7] 2 hI rfl (by kernel_rfl) (by kernel_rfl) (by kernel_rfl) (by kernel_rfl) (by kernel_rfl) (fun _ _ _ h => h) (by kernel_rfl) (fun V hV => ?hy39) ?go39
  case hy39 => (obtain ⟨i0, i1⟩ := hV; go_simp <;> rfl)
  simp only [Act.put, List.setIfInBounds_toArray, List.set_cons_zero, List.set_cons_succ]
  refine inv_take (v := ?v40) [4, 7] 3 hI rfl (by kernel_rfl) (by kernel_rfl) (by kernel_rfl) (by kernel_rfl) (by kernel_rfl) (fun _ _ _ h => h) (by kernel_rfl) (fun V hV => ?hy40) ?go40
  case hy40 => (obtain ⟨i0, i1⟩ := hV; go_simp <;> rfl)
  simp only [Act.put, List.setIfInBounds_toArray, List.set_cons_zero, List.set_cons_succ]
  refine inv_take (v := ?v41) [7] 4 hI rfl (by kernel_rfl) (by kernel_rfl) (by kernel_rfl) (by kernel_rfl) (by kernel_rfl) (fun _ _ _ h => h) (by kernel_rfl) (fun V hV => ?hy41) ?go41
  case hy41 => (obtain ⟨i0, i1⟩ := hV; go_simp <;> rfl)
  simp only [Act.put, List.setIfInBounds_toArray, List.set_cons_zero, List.set_cons_succ]
  refine inv_take (v := ?v42) [6, 7] 5 hI rfl (by kernel_rfl) (by kernel_rfl) (by kernel_rfl) (by kernel_rfl) (by kernel_rfl) (fun _ _ _ h => h) (by kernel_rfl) (fun V hV => ?hy42) ?go42
  case hy42 => (obtain ⟨i0, i1⟩ := hV; go_simp <;> rfl)
  simp only [Act.put, List.setIfInBounds_toArray, List.set_cons_zero, List.set_cons_succ]
  refine inv_take (v := ?v43) [7] 6 hI rfl (by kernel_rfl) (by kernel_rfl) (by kernel_rfl) (by kernel_rfl) (by kernel_rfl) (fun _ _ _ h => h) (by kernel_rfl) (fun V hV => ?hy43) ?go43
  case hy43 => (obtain ⟨i0, i1⟩ := hV; go_simp <;> rfl)
  simp only [Act.put, List.setIfInBounds_toArray, List.set_cons_zero, List.set_cons_succ]
  refine inv_write 7 (by kernel_rfl) (by kernel_rfl) rfl ?_
  clear hI
  go_wp2_with (go_at_call 44; refine (hd_release h6 (l := x.l) hf0 HO.out hm).mono ?_; rintro e V6 ⟨rfl, hk7, A2, hA3, hA4, h7⟩)
  refine then_n ?_
  refine any_done (by kernel_rfl) ?_
  have hgA2 : ∀ j, w.heap.size ≤ j → j < V3.heap.size → ¬ A2 j := fun j hj1 hj2 ha => (hA3 j ha).elim (hgA j hj1 hj2) (fun h => by omega)
  have bp7 := bp6.keep hk7 (fun h => hgA _ (Nat.le_refl _) (by omega) h)
  have br7 := br6.keep hk7 (fun h => hgA _ (by omega) hb4 h)
  have hK7 : Keep A w V6 := hK6.trans hk7 (fun j hj h => (hA1 j h).elim id (fun h => by omega))
  replace hsz : V3.heap.size ≤ V6.heap.size := Nat.le_trans hsz hk7.size
  clear bp6 br6 hK6 hk7
  go_upto_region 18 with fail
  refine wp_region_orders 14 rfl (by kernel_rfl) ?_
  have Bd : Below V6.heap.size V6 V6.drew := (Below.refl _ _).drew
  have h8 := h7.below Bd
  have bp8 := bp7.next Bd
  have br8 := br7.next Bd
  have hK8 : Keep A w V6.drew := hK7.trans (Keep.of_below (F := fun _ => False) Bd) (fun j _ h => h.elim)
  replace hsz : V3.heap.size ≤ V6.drew.heap.size := Nat.le_trans hsz Bd.size
  clear h7 bp7 br7 hK7 Bd
  generalize V6.drew = V7 at *
  clear V6
  have hI : (fun V => V.cell? ⟨w.heap.size, 1, none⟩ = some (.int .i64 x.f) ∧ V.cell? ⟨w.heap.size, 3, none⟩ = some (.int .i64 x.i) ∧ V.cell? ⟨w.heap.size, 4, none⟩ = some (.int .i64 x.l) ∧ V.cell? ⟨g, 8, none⟩ = some (.int .i64 node)) V7 := ⟨bp8.c1, bp8.c3, bp8.c4, h8.cells.2.1⟩
  refine any_inv (fun V => V.cell? ⟨w.heap.size, 1, none⟩ = some (.int .i64 x.f) ∧ V.cell? ⟨w.heap.size, 3, none⟩ = some (.int .i64 x.i) ∧ V.cell? ⟨w.heap.size, 4, none⟩ = some (.int .i64 x.l) ∧ V.cell? ⟨g, 8, none⟩ = some (.int .i64 node)) [11] hI ?_
  refine inv_take (v := ?v44) [1, 2, 3, 10, 11] 0 hI rfl (by kernel_rfl) (by kernel_rfl) (by kernel_rfl) (by kernel_rfl) (by kernel_rfl) (fun _ _ _ h => h) (by kernel_rfl) (fun V hV => ?hy44) ?go44
  case hy44 => (obtain ⟨i0, i1, i2, i3⟩ := hV; go_simp <;> rfl)
  simp only [Act.put, List.setIfInBounds_toArray, List.set_cons_zero, List.set_cons_succ]
  refine inv_take (v := ?v45) [2, 3, 10, 11] 1 hI rfl (by kernel_rfl) (by kernel_rfl) (by kernel_rfl) (by kernel_rfl) (by kernel_rfl) (fun _ _ _ h => h) (by kernel_rfl) (fun V hV => ?hy45) ?go45
  case hy45 => (obtain ⟨i0, i1, i2, i3⟩ := hV; go_simp <;> rfl)
  simp only [Act.put, List.setIfInBounds_toArray, List.set_cons_zero, List.set_cons_succ]
  refine inv_take (v := ?v46) [3, 10, 11] 2 hI rfl (by kernel_rfl) (by kernel_rfl) (by kernel_rfl) (by kernel_rfl) (by kernel_rfl) (fun _ _ _ h => h) (by kernel_rfl) (fun V hV => ?hy46) ?go46
  case hy46 => (obtain ⟨i0, i1, i2, i3⟩ := hV; go_simp <;> rfl)
  simp only [Act.put, List.setIfInBounds_toArray, List.set_cons_zero, List.set_cons_succ]
  refine inv_take (v := ?v47) [10, 11] 3 hI rfl (by kernel_rfl) (by kernel_rfl) (by kernel_rfl) (by kernel_rfl) (by kernel_rfl) (fun _ _ _ h => h) (by kernel_rfl) (fun V hV => ?hy47) ?go47
  case hy47 => (obtain ⟨i0, i1, i2, i3⟩ := hV; go_simp <;> rfl)
  simp only [Act.put, List.setIfInBounds_toArray, List.set_cons_zero, List.set_cons_succ]
  refine inv_take (v := ?v48) [5, 10, 11] 4 hI rfl (by kernel_rfl) (by kernel_rfl) (by kernel_rfl) (by kernel_rfl) (by kernel_rfl) (fun _ _ _ h => h) (by kernel_rfl) (fun V hV => ?hy48) ?go48
  case hy48 => (obtain ⟨i0, i1, i2, i3⟩ := hV; go_simp <;> rfl)
  simp only [Act.put, List.setIfInBounds_toArray, List.set_cons_zero, List.set_cons_succ]
  refine inv_take (v := ?v49) [10, 11] 5 hI rfl (by kernel_rfl) (by kernel_rfl) (by kernel_rfl) (by kernel_rfl) (by kernel_rfl) (fun _ _ _ h => h) (by kernel_rfl) (fun V hV => ?hy49) ?go49
  case hy49 => (obtain ⟨i0, i1, i2, i3⟩ := hV; go_simp <;> rfl)
  simp only [Act.put, List.setIfInBounds_toArray, List.set_cons_zero, List.set_cons_succ]
  refine inv_take (v := ?v50) [7, 10, 11] 6 hI rfl (by kernel_rfl) (by kernel_rfl) (by kernel_rfl) (by kernel_rfl) (by kernel_rfl) (fun _ _ _ h => h) (by kernel_rfl) (fun V hV => ?hy50) ?go50
  case hy50 => (obtain ⟨i0, i1, i2, i3⟩ := hV; go_simp <;> rfl)
  simp only [Act.put, List.setIfInBounds_toArray, List.set_cons_zero, List.set_cons_succ]
  refine inv_take (v := ?v51) [10, 11] 7 hI rfl (by kernel_rfl) (by kernel_rfl) (by kernel_rfl) (by kernel_rfl) (by kernel_rfl) (fun _ _ _ h => h) (by kernel_rfl) (fun V hV => ?hy51) ?go51
  case hy51 => (obtain ⟨i0, i1, i2, i3⟩ := hV; go_simp <;> rfl)
  simp only [Act.put, List.setIfInBounds_toArray, List.set_cons_zero, List.set_cons_succ]
  refine inv_take (v := ?v52) [9, 10, 11] 8 hI rfl (by kernel_rfl) (by kernel_rfl) (by kernel_rfl) (by kernel_rfl) (by kernel_rfl) (fun _ _ _ h => h) (by kernel_rfl) (fun V hV => ?hy52) ?go52
  case hy52 => (obtain ⟨i0, i1, i2, i3⟩ := hV; go_simp <;> rfl)
  simp only [Act.put, List.setIfInBounds_toArray, List.set_cons_zero, List.set_cons_succ]
  refine inv_take (v := ?v53) [10, 11] 9 hI rfl (by kernel_rfl) (by kernel_rfl) (by kernel_rfl) (by kernel_rfl) (by kernel_rfl) (fun _ _ _ h => h) (by kernel_rfl) (fun V hV => ?hy53) ?go53
  case hy53 => (obtain ⟨i0, i1, i2, i3⟩ := hV; go_simp <;> rfl)
  simp only [Act.put, List.setIfInBounds_toArray, List.set_cons_zero, List.set_cons_succ]
  refine inv_take (v := ?v54) [11] 10 hI rfl (by kernel_rfl) (by kernel_rfl) (by kernel_rfl) (by kernel_rfl) (by kernel_rfl) (fun _ _ _ h => h) (by kernel_rfl) (fun V hV => ?hy54) ?go54
  case hy54 => (obtain ⟨i0, i1, i2, i3⟩ := hV; go_simp <;> rfl)
  simp only [Act.put, List.setIfInBounds_toArray, List.set_cons_zero, List.set_cons_succ]
  clear hI
  obtain ⟨r0, r1, r2, r3, r4, r5, r6, r7, r8, rf, rl⟩ := id br8
  have f0 := rf 0
  have bp9 := br8.put ⟨8, node, x.f, x.i, x.l, 0, 0, false, []⟩ (.slice none 0 0)
  have hkk : Keep (fun k => k = w.heap.size + 1) V7 _ := far9 (g := w.heap.size + 1) (y := ⟨8, node, x.f, x.i, x.l, 0, 0, false, []⟩) (v := .slice none 0 0) (W := V7) (P := fun V => Keep (fun k => k = w.heap.size + 1) V7 V) (fun V o u h => h.setCell (.inl rfl) u) (Keep.refl _ _)
  refine inv_write 11 (by kernel_rfl) (by kernel_rfl) rfl ?_
  go_wp2_with fail
  refine then_n ?_
  clear r0 r1 r2 r3 r4 r5 r6 r7 r8 rf rl f0
  generalize World.setCell _ ⟨w.heap.size + 1, 8, none⟩ _ = V9 at *
  obtain ⟨r0, r1, r2, r3, r4, r5, r6, r7, r8, rf, rl⟩ := id bp9
  refine any_list 12 (by kernel_rfl) rfl ?_
  go_wp2
  refine then_n ?_
  refine any_list 13 (by kernel_rfl) rfl ?_
  go_wp2
  refine then_n ?_
  refine any_done (by kernel_rfl) ?_
  go_wp2_with fail
  refine bodyPost_ret (v := .tuple #[Pk.val ⟨8, node, x.f, x.i, x.l, 0, 0, false, []⟩ (.slice none 0 0), .bool true, .int .i64 0]) (by simp [results, Try.results22, go_sem, *]) rfl ⟨rfl, ?_, A2, ?_, fun j hj => hA4 j (hA2 j hj), h8.keep hkk (fun j hj e => hgA2 j (by omega) (by omega) hj)⟩
  · exact hK8.trans hkk (fun j hj e => by omega)
  · exact fun j hj => (hA3 j hj).elim (fun h => (hA1 j h).imp id (fun h => by omega)) (fun h => .inr (by omega))
set_option maxHeartbeats 1000000 in
theorem dh_err (h : HD w g A m N L K node DL o q) (hN : 1 ≤ N) (hL : L ≤ 8) (hm : m ≤ 1000) (x : Pk) (a : Option Addr) (n c : Nat) (hsl : Sl w a n c x.z) (HR : Hid (x.right = true)) (h1 : x.t = node) (h2 : x.f < (N : Int)) (hk : x.k = 2) (hh : hereI N L node x.l = true) (ho : ownT o x.l = x.f) (hf0 : 0 ≤ x.f) (hfl : x.fl = false) (he : (setD N L K node DL x.l x.s x.p []).1 ≠ 0) :
    Calls Try.prog 22 #[.pointer (some ⟨g, 0, none⟩), x.val (.slice a n c)] w fun e w' => e = .returned (.tuple #[zeroPk.val (.slice none 0 0), .bool false, .int .i64 (setD N L K node DL x.l x.s x.p []).1]) ∧ Keep A w w' ∧ ∃ A', (∀ j, A' j → A j ∨ w.heap.size ≤ j) ∧ (∀ j, A j → A' j) ∧ HD w' g A' m N L K node (setD N L K node DL x.l x.s x.p []).2 o q := by
  have hob : (ownT o x.l != x.f) = false := by simp [ho]
  have HO : Hid (ownT o x.l = x.f) := ho
  have HE : Hid ((setD N L K node DL x.l x.s x.p []).1 ≠ 0) := he
  have hn0 : n ≤ 17592186044416 := by have := ((Pk.right_iff x).1 HR.out).z; have := hsl.len; omega
  have HFL : Hid (x.fl = false) := hfl
  clear ho he hfl
  have h1b : (x.t != node) = false := by simp [h1]
  have h2b : decide ((N : Int) ≤ x.f) = false := decide_eq_false (by omega)
  have HT : Hid (x.t = node ∧ x.f < (N : Int) ∧ 1 ≤ N) := ⟨h1, h2, hN⟩
  clear h1 h2 hN
  have h3b : (x.k != 1) = true := by simp [hk]
  have h3d : (x.k != 2) = false := by simp [hk]
  have h3c : (x.k == 1) = false := by simp [hk]
  clear hk
  unfold Pk.val
  go_enter Try.func22, Try.ntmps22
  go_upto_region 1 with fail
  have hB : Below w.heap.size w ((w.alloc (.cells #[.int .i64 x.k, .int .i64 x.f, .int .i64 x.t, .int .i64 x.i, .int .i64 x.l, .int .i64 x.p, .int .i64 x.s, .bool x.fl, .slice a n c] 32)).alloc (.cells #[.int .i64 0, .int .i64 0, .int .i64 0, .int .i64 0, .int .i64 0, .int .i64 0, .int .i64 0, .bool false, .slice none 0 0] 32)) := ba (ba (Below.refl _ _))
  have bxp : Bx ((w.alloc (.cells #[.int .i64 x.k, .int .i64 x.f, .int .i64 x.t, .int .i64 x.i, .int .i64 x.l, .int .i64 x.p, .int .i64 x.s, .bool x.fl, .slice a n c] 32)).alloc (.cells #[.int .i64 0, .int .i64 0, .int .i64 0, .int .i64 0, .int .i64 0, .int .i64 0, .int .i64 0, .bool false, .slice none 0 0] 32)) w.heap.size x (.slice a n c) := (Bx.made w x (.slice a n c)).next (ba (Below.refl _ _))
  have bxr : Bx ((w.alloc (.cells #[.int .i64 x.k, .int .i64 x.f, .int .i64 x.t, .int .i64 x.i, .int .i64 x.l, .int .i64 x.p, .int .i64 x.s, .bool x.fl, .slice a n c] 32)).alloc (.cells #[.int .i64 0, .int .i64 0, .int .i64 0, .int .i64 0, .int .i64 0, .int .i64 0, .int .i64 0, .bool false, .slice none 0 0] 32)) (w.heap.size + 1) zeroPk (.slice none 0 0) := Bx.made' (w.alloc (.cells #[.int .i64 x.k, .int .i64 x.f, .int .i64 x.t, .int .i64 x.i, .int .i64 x.l, .int .i64 x.p, .int .i64 x.s, .bool x.fl, .slice a n c] 32)) zeroPk (.slice none 0 0) _ (by simp)
  have h1 := h.below hB
  have hs1 := hsl.below hB
  obtain ⟨c0, c8, lt⟩ := h1.cells
  have HG : Hid (g < w.heap.size ∧ w.heap.size ≤ ((w.alloc (.cells #[.int .i64 x.k, .int .i64 x.f, .int .i64 x.t, .int .i64 x.i, .int .i64 x.l, .int .i64 x.p, .int .i64 x.s, .bool x.fl, .slice a n c] 32)).alloc (.cells #[.int .i64 0, .int .i64 0, .int .i64 0, .int .i64 0, .int .i64 0, .int .i64 0, .int .i64 0, .bool false, .slice none 0 0] 32)).heap.size) := ⟨h.cells.2.2, hB.size⟩
  have HA : Hid (∀ j, A j → j < w.heap.size) := h.old
  clear hsl h
  generalize World.alloc _ (.cells #[.int .i64 0, .int .i64 0, .int .i64 0, .int .i64 0, .int .i64 0, .int .i64 0, .int .i64 0, .bool false, .slice none 0 0] 32) = W at *
  obtain ⟨q0, q1, q2, q3, q4, q5, q6, q7, q8, qf, ql⟩ := id bxp
  have uc := @Up.cell
  have uf := @Up.frozen
  refine wp_region_up (by kernel_rfl) (by kernel_rfl) ?_
  repeat (go_big_quiet_step ((go_at_call 40; exact Calls.up_of (rightIs x a n c _ (hs1.below (Subtype.property _)) true HR.out))))
  refine wpQuiet_nil ?_
  rintro _ ⟨u, rfl⟩
  clear uc uf
  have h2 := h1.below u.2
  have hs2 := hs1.below u.2
  have bp2 := bxp.next u.2
  have br2 := bxr.next u.2
  have hBu := next hB u.2
  clear c0 c8 lt q0 q1 q2 q3 q4 q5 q6 q7 q8 qf ql bxp bxr h1 hs1 hB h1b h2b
  generalize u.val = V at *
  clear u W HG
  obtain ⟨q0, q1, q2, q3, q4, q5, q6, q7, q8, qf, ql⟩ := id bp2
  have HH : Hid (hereI N L node x.l = true) := hh
  clear hh
  go_upto_region 9 with ((go_at_call 41; refine (hd_here h2 HT.out.2.2 x.l).mono ?_; rintro e V2 ⟨rfl, b2⟩); rw [HH.out]; obtain ⟨k1, k2⟩ := bcell b2)
  clear k1 k2 q0 q1 q2 q3 q4 q5 q6 q7 q8 qf ql
  have h3 := h2.below b2
  have hs3 := hs2.below b2
  have bp3 := bp2.next b2
  have br3 := br2.next b2
  have hB3 := next hBu b2
  clear h2 hs2 bp2 br2 hBu b2 V
  obtain ⟨c0, c8, lt⟩ := h3.cells
  obtain ⟨q0, q1, q2, q3, q4, q5, q6, q7, q8, qf, ql⟩ := id bp3
  have uc := @Up.cell
  have uf := @Up.frozen
  refine wp_region_up (by kernel_rfl) (by kernel_rfl) ?_
  repeat (go_big_quiet_step ((go_at_call 20; exact Calls.up_of (hd_owner (h3.below (Subtype.property _)) x.l))))
  refine wpQuiet_nil ?_
  rintro _ ⟨u, rfl⟩
  clear uc uf q0 q1 q2 q3 q4 q5 q6 q7 q8 qf ql c0 c8 lt
  have h4 := h3.below u.2
  have hs4 := hs3.below u.2
  have bp4 := bp3.next u.2
  have br4 := br3.next u.2
  have hB4 := next hB3 u.2
  clear h3 hs3 bp3 br3 hB3
  generalize u.val = V3 at *
  clear u V2
  have hn4 := hn0
  have hfl := HFL.out
  obtain ⟨q0, q1, q2, q3, q4, q5, q6, q7, q8, qf, ql⟩ := id bp4
  have hgA0 : ∀ j, A j → j < w.heap.size := HA.out
  go_upto_region 14 with fail
  obtain ⟨ev, hev⟩ : ∃ ev, (setD N L K node DL x.l x.s x.p []).1 = ev := ⟨_, rfl⟩
  have hne : (ev != 0) = true := by have := HE.out; rw [hev] at this; simp [this]
  go_upto_region 15 with (go_at_call 43; refine (hd_set h4 HT.out.2.2 hL x.l x.s x.p none 0 0 [] (sl_nil _) (by omega)).mono ?_; rintro e V4 ⟨rfl, hk5, A', hA1, hA2, h5⟩; rw [hev])
  clear q0 q1 q2 q3 q4 q5 q6 q7 q8 qf ql hfl
  have hgA : ∀ j, w.heap.size ≤ j → j < V3.heap.size → ¬ A' j := fun j hj1 hj2 ha => (hA1 j ha).elim (fun h => by have := hgA0 j h; omega) (fun h => by omega)
  have bp5 := bp4.keep hk5 (fun h => by have := hgA0 _ h; omega)
  have br5 := br4.keep hk5 (fun h => by have := hgA0 _ h; omega)
  have hb4 := br4.lt
  have hK5 : Keep A w V4 := (Keep.of_below (F := A) hB4).trans hk5 (fun j _ h => h)
  have hsz : V3.heap.size ≤ V4.heap.size := hk5.size
  have hsz0 : w.heap.size ≤ V3.heap.size := hB4.size
  clear hs4 bp4 br4 hk5
  obtain ⟨r0, r1, r2, r3, r4, r5, r6, r7, r8, rf, rl⟩ := id br5
  have f0 := rf 0
  go_wp2
  have hkk : Keep (fun k => k = w.heap.size + 1) V4 _ := far9 (g := w.heap.size + 1) (y := zeroPk) (v := .slice none 0 0) (W := V4) (P := fun V => Keep (fun k => k = w.heap.size + 1) V4 V) (fun V o u h => h.setCell (.inl rfl) u) (Keep.refl _ _)
  refine bodyPost_ret (v := .tuple #[Pk.val zeroPk (.slice none 0 0), .bool false, .int .i64 ev]) (by simp [results, Try.results22, go_sem, *, zeroPk]) rfl ⟨by rw [hev], ?_, A', ?_, hA2, h5.keep hkk (fun j hj e => hgA j (by omega) (by omega) hj)⟩
  · exact hK5.trans hkk (fun j hj e => by omega)
  · exact fun j hj => (hA1 j hj).imp id (fun h => by omega)
set_option maxHeartbeats 1000000 in
theorem dh_err_f (h : HD w g A m N L K node DL o q) (hN : 1 ≤ N) (hL : L ≤ 8) (hm : m ≤ 1000) (x : Pk) (a : Option Addr) (n c : Nat) (hsl : Sl w a n c x.z) (HR : Hid (x.right = true)) (h1 : x.t = node) (h2 : x.f < (N : Int)) (hk : x.k = 2) (hh : hereI N L node x.l = true) (ho : ownT o x.l = x.f) (hf0 : 0 ≤ x.f) (hfl : x.fl = true) (he : (setD N L K node DL x.l x.s x.p x.z).1 ≠ 0) :
    Calls Try.prog 22 #[.pointer (some ⟨g, 0, none⟩), x.val (.slice a n c)] w fun e w' => e = .returned (.tuple #[zeroPk.val (.slice none 0 0), .bool false, .int .i64 (setD N L K node DL x.l x.s x.p x.z).1]) ∧ Keep A w w' ∧ ∃ A', (∀ j, A' j → A j ∨ w.heap.size ≤ j) ∧ (∀ j, A j → A' j) ∧ HD w' g A' m N L K node (setD N L K node DL x.l x.s x.p x.z).2 o q := by
  have hob : (ownT o x.l != x.f) = false := by simp [ho]
  have HO : Hid (ownT o x.l = x.f) := ho
  have HE : Hid ((setD N L K node DL x.l x.s x.p x.z).1 ≠ 0) := he
  have hn0 : n ≤ 17592186044416 := by have := ((Pk.right_iff x).1 HR.out).z; have := hsl.len; omega
  have HFL : Hid (x.fl = true) := hfl
  clear ho he hfl
  have h1b : (x.t != node) = false := by simp [h1]
  have h2b : decide ((N : Int) ≤ x.f) = false := decide_eq_false (by omega)
  have HT : Hid (x.t = node ∧ x.f < (N : Int) ∧ 1 ≤ N) := ⟨h1, h2, hN⟩
  clear h1 h2 hN
  have h3b : (x.k != 1) = true := by simp [hk]
  have h3d : (x.k != 2) = false := by simp [hk]
  have h3c : (x.k == 1) = false := by simp [hk]
  clear hk
  unfold Pk.val
  go_enter Try.func22, Try.ntmps22
  go_upto_region 1 with fail
  have hB : Below w.heap.size w ((w.alloc (.cells #[.int .i64 x.k, .int .i64 x.f, .int .i64 x.t, .int .i64 x.i, .int .i64 x.l, .int .i64 x.p, .int .i64 x.s, .bool x.fl, .slice a n c] 32)).alloc (.cells #[.int .i64 0, .int .i64 0, .int .i64 0, .int .i64 0, .int .i64 0, .int .i64 0, .int .i64 0, .bool false, .slice none 0 0] 32)) := ba (ba (Below.refl _ _))
  have bxp : Bx ((w.alloc (.cells #[.int .i64 x.k, .int .i64 x.f, .int .i64 x.t, .int .i64 x.i, .int .i64 x.l, .int .i64 x.p, .int .i64 x.s, .bool x.fl, .slice a n c] 32)).alloc (.cells #[.int .i64 0, .int .i64 0, .int .i64 0, .int .i64 0, .int .i64 0, .int .i64 0, .int .i64 0, .bool false, .slice none 0 0] 32)) w.heap.size x (.slice a n c) := (Bx.made w x (.slice a n c)).next (ba (Below.refl _ _))
  have bxr : Bx ((w.alloc (.cells #[.int .i64 x.k, .int .i64 x.f, .int .i64 x.t, .int .i64 x.i, .int .i64 x.l, .int .i64 x.p, .int .i64 x.s, .bool x.fl, .slice a n c] 32)).alloc (.cells #[.int .i64 0, .int .i64 0, .int .i64 0, .int .i64 0, .int .i64 0, .int .i64 0, .int .i64 0, .bool false, .slice none 0 0] 32)) (w.heap.size + 1) zeroPk (.slice none 0 0) := Bx.made' (w.alloc (.cells #[.int .i64 x.k, .int .i64 x.f, .int .i64 x.t, .int .i64 x.i, .int .i64 x.l, .int .i64 x.p, .int .i64 x.s, .bool x.fl, .slice a n c] 32)) zeroPk (.slice none 0 0) _ (by simp)
  have h1 := h.below hB
  have hs1 := hsl.below hB
  obtain ⟨c0, c8, lt⟩ := h1.cells
  have HG : Hid (g < w.heap.size ∧ w.heap.size ≤ ((w.alloc (.cells #[.int .i64 x.k, .int .i64 x.f, .int .i64 x.t, .int .i64 x.i, .int .i64 x.l, .int .i64 x.p, .int .i64 x.s, .bool x.fl, .slice a n c] 32)).alloc (.cells #[.int .i64 0, .int .i64 0, .int .i64 0, .int .i64 0, .int .i64 0, .int .i64 0, .int .i64 0, .bool false, .slice none 0 0] 32)).heap.size) := ⟨h.cells.2.2, hB.size⟩
  have HA : Hid (∀ j, A j → j < w.heap.size) := h.old
  clear hsl h
  generalize World.alloc _ (.cells #[.int .i64 0, .int .i64 0, .int .i64 0, .int .i64 0, .int .i64 0, .int .i64 0, .int .i64 0, .bool false, .slice none 0 0] 32) = W at *
  obtain ⟨q0, q1, q2, q3, q4, q5, q6, q7, q8, qf, ql⟩ := id bxp
  have uc := @Up.cell
  have uf := @Up.frozen
  refine wp_region_up (by kernel_rfl) (by kernel_rfl) ?_
  repeat (go_big_quiet_step ((go_at_call 40; exact Calls.up_of (rightIs x a n c _ (hs1.below (Subtype.property _)) true HR.out))))
  refine wpQuiet_nil ?_
  rintro _ ⟨u, rfl⟩
  clear uc uf
  have h2 := h1.below u.2
  have hs2 := hs1.below u.2
  have bp2 := bxp.next u.2
  have br2 := bxr.next u.2
  have hBu := next hB u.2
  clear c0 c8 lt q0 q1 q2 q3 q4 q5 q6 q7 q8 qf ql bxp bxr h1 hs1 hB h1b h2b
  generalize u.val = V at *
  clear u W HG
  obtain ⟨q0, q1, q2, q3, q4, q5, q6, q7, q8, qf, ql⟩ := id bp2
  have HH : Hid (hereI N L node x.l = true) := hh
  clear hh
  go_upto_region 9 with ((go_at_call 41; refine (hd_here h2 HT.out.2.2 x.l).mono ?_; rintro e V2 ⟨rfl, b2⟩); rw [HH.out]; obtain ⟨k1, k2⟩ := bcell b2)
  clear k1 k2 q0 q1 q2 q3 q4 q5 q6 q7 q8 qf ql
  have h3 := h2.below b2
  have hs3 := hs2.below b2
  have bp3 := bp2.next b2
  have br3 := br2.next b2
  have hB3 := next hBu b2
  clear h2 hs2 bp2 br2 hBu b2 V
  obtain ⟨c0, c8, lt⟩ := h3.cells
  obtain ⟨q0, q1, q2, q3, q4, q5, q6, q7, q8, qf, ql⟩ := id bp3
  have uc := @Up.cell
  have uf := @Up.frozen
  refine wp_region_up (by kernel_rfl) (by kernel_rfl) ?_
  repeat (go_big_quiet_step ((go_at_call 20; exact Calls.up_of (hd_owner (h3.below (Subtype.property _)) x.l))))
  refine wpQuiet_nil ?_
  rintro _ ⟨u, rfl⟩
  clear uc uf q0 q1 q2 q3 q4 q5 q6 q7 q8 qf ql c0 c8 lt
  have h4 := h3.below u.2
  have hs4 := hs3.below u.2
  have bp4 := bp3.next u.2
  have br4 := br3.next u.2
  have hB4 := next hB3 u.2
  clear h3 hs3 bp3 br3 hB3
  generalize u.val = V3 at *
  clear u V2
  have hn4 := hn0
  have hfl := HFL.out
  obtain ⟨q0, q1, q2, q3, q4, q5, q6, q7, q8, qf, ql⟩ := id bp4
  have hgA0 : ∀ j, A j → j < w.heap.size := HA.out
  go_upto_region 14 with fail
  obtain ⟨ev, hev⟩ : ∃ ev, (setD N L K node DL x.l x.s x.p x.z).1 = ev := ⟨_, rfl⟩
  have hne : (ev != 0) = true := by have := HE.out; rw [hev] at this; simp [this]
  go_upto_region 15 with (go_at_call 43; refine (hd_set h4 HT.out.2.2 hL x.l x.s x.p a n c x.z hs4 hn4).mono ?_; rintro e V4 ⟨rfl, hk5, A', hA1, hA2, h5⟩; rw [hev])
  clear q0 q1 q2 q3 q4 q5 q6 q7 q8 qf ql hfl
  have hgA : ∀ j, w.heap.size ≤ j → j < V3.heap.size → ¬ A' j := fun j hj1 hj2 ha => (hA1 j ha).elim (fun h => by have := hgA0 j h; omega) (fun h => by omega)
  have bp5 := bp4.keep hk5 (fun h => by have := hgA0 _ h; omega)
  have br5 := br4.keep hk5 (fun h => by have := hgA0 _ h; omega)
  have hb4 := br4.lt
  have hK5 : Keep A w V4 := (Keep.of_below (F := A) hB4).trans hk5 (fun j _ h => h)
  have hsz : V3.heap.size ≤ V4.heap.size := hk5.size
  have hsz0 : w.heap.size ≤ V3.heap.size := hB4.size
  clear hs4 bp4 br4 hk5
  obtain ⟨r0, r1, r2, r3, r4, r5, r6, r7, r8, rf, rl⟩ := id br5
  have f0 := rf 0
  go_wp2
  have hkk : Keep (fun k => k = w.heap.size + 1) V4 _ := far9 (g := w.heap.size + 1) (y := zeroPk) (v := .slice none 0 0) (W := V4) (P := fun V => Keep (fun k => k = w.heap.size + 1) V4 V) (fun V o u h => h.setCell (.inl rfl) u) (Keep.refl _ _)
  refine bodyPost_ret (v := .tuple #[Pk.val zeroPk (.slice none 0 0), .bool false, .int .i64 ev]) (by simp [results, Try.results22, go_sem, *, zeroPk]) rfl ⟨by rw [hev], ?_, A', ?_, hA2, h5.keep hkk (fun j hj e => hgA j (by omega) (by omega) hj)⟩
  · exact hK5.trans hkk (fun j hj e => by omega)
  · exact fun j hj => (hA1 j hj).imp id (fun h => by omega)
end
end Go.Proofs.Ytgeiagndpfdnlaa
end
