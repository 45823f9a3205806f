/- Programs: lists of operations, and rows of them; the contracts of plan.Ops and of the document's own. Conditions: as each theorem states them. -/
import Derived.Test.YtpagdfmajeodiaaCfg
namespace Go.Proofs.Ytpagdfmajeodiaa
open Go.RowKit
set_option linter.unusedVariables false

structure OpI where
  k : Int
  a : Int
  v : Int
@[reducible] def opv (o : OpI) : Value := .agg #[.int .i64 o.k, .int .i64 o.a, .int .i64 o.v]
def flat (p : List OpI) : List Value := p.flatMap fun o => [.int .i64 o.k, .int .i64 o.a, .int .i64 o.v]
theorem flat_len (p : List OpI) : (flat p).length = p.length * 3 := by
  induction p with
  | nil => rfl
  | cons o p ih => simp [flat] at ih ⊢; omega
theorem flat_append (p q : List OpI) : flat (p ++ q) = flat p ++ flat q := by simp [flat]
theorem flat_get {p : List OpI} {i : Nat} {o : OpI} (h : p[i]? = some o) : (flat p)[3 * i]? = some (.int .i64 o.k) ∧ (flat p)[3 * i + 1]? = some (.int .i64 o.a) ∧ (flat p)[3 * i + 2]? = some (.int .i64 o.v) := by
  induction p generalizing i with
  | nil => simp at h
  | cons x p ih =>
    cases i with
    | zero => simp at h; subst h; simp [flat]
    | succ i =>
      have h' : p[i]? = some o := by simpa using h
      obtain ⟨h1, h2, h3⟩ := ih h'
      have e : flat (x :: p) = [.int .i64 x.k, .int .i64 x.a, .int .i64 x.v] ++ flat p := by simp [flat]
      rw [e]
      refine ⟨?_, ?_, ?_⟩
      · rw [List.getElem?_append_right (by simp; omega), show 3 * (i + 1) - [Value.int .i64 x.k, .int .i64 x.a, .int .i64 x.v].length = 3 * i by simp; omega]; exact h1
      · rw [List.getElem?_append_right (by simp; omega), show 3 * (i + 1) + 1 - [Value.int .i64 x.k, .int .i64 x.a, .int .i64 x.v].length = 3 * i + 1 by simp; omega]; exact h2
      · rw [List.getElem?_append_right (by simp; omega), show 3 * (i + 1) + 2 - [Value.int .i64 x.k, .int .i64 x.a, .int .i64 x.v].length = 3 * i + 2 by simp; omega]; exact h3
theorem flat_one (p : List OpI) : ∀ u ∈ flat p, u.oneCell' = true := by
  intro u hu
  simp [flat] at hu
  obtain ⟨o, _, h | h | h⟩ := hu <;> subst h <;> rfl

/-- A slice of n elements of es cells each whose cells can be read: they are vs. -/
structure SlV (w : World) (a : Option Addr) (n cap es : Nat) (vs : List Value) : Prop where
  len : vs.length = n * es
  le : n ≤ cap
  max : cap ≤ maxLen
  nil : a = none → cap = 0
  row : vs = [] ∨ ∃ b o, a = some ⟨b, o, none⟩ ∧ ∀ i u, vs[i]? = some u → w.cell? ⟨b, o + i, none⟩ = some u
theorem SlV.below {w w' : World} {a : Option Addr} {n cap es : Nat} {vs : List Value} (h : SlV w a n cap es vs) (hb : Below w.heap.size w w') : SlV w' a n cap es vs := by
  refine ⟨h.len, h.le, h.max, h.nil, h.row.imp id ?_⟩
  rintro ⟨b, o, rfl, hc⟩
  refine ⟨b, o, rfl, fun i u hu => ?_⟩
  have hi := hc i u hu
  rw [hb.cell (p := ⟨b, o + i, none⟩) (World.block_lt_of_cell? w _ hi)]
  exact hi
theorem SlV.same {w w' : World} {a : Option Addr} {n cap es : Nat} {vs : List Value} (h : SlV w a n cap es vs) (hh : w'.heap = w.heap) : SlV w' a n cap es vs := by
  refine ⟨h.len, h.le, h.max, h.nil, h.row.imp id ?_⟩
  rintro ⟨b, o, rfl, hc⟩
  exact ⟨b, o, rfl, fun i u hu => by rw [← hc i u hu]; simp [World.cell?, hh]⟩
theorem slv_nil (w : World) (es : Nat) : SlV w none 0 0 es [] := ⟨by simp, Nat.le_refl _, Nat.zero_le _, fun _ => rfl, .inl rfl⟩
theorem slv_own {w : World} {base e es n : Nat} {v : Value} {xs : List Value} (h : w.ownsRow base e es v n xs) : ∃ a cap, v = .slice a n cap ∧ SlV w a n cap es xs := by
  obtain ⟨h1, h2⟩ := h
  rcases h2 with ⟨rfl, rfl⟩ | ⟨g, cap, cur, rfl, hb, hg, hle, hm, hsz, ht⟩
  · obtain rfl : xs = [] := List.eq_nil_of_length_eq_zero (by simpa using h1)
    exact ⟨none, 0, rfl, slv_nil w es⟩
  · refine ⟨some ⟨g, 0, none⟩, cap, rfl, h1, hle, hm, fun h => (by cases h), .inr ⟨g, 0, rfl, fun i u hu => ?_⟩⟩
    rw [Nat.zero_add, cell_of_row w g i cur e (0, 0) hg]
    rw [← ht, List.getElem?_take] at hu
    split at hu
    · simpa using hu
    · cases hu

theorem op_cells {w : World} {b of j : Nat} {p : List OpI} {x : OpI} (hc : ∀ i u, (flat p)[i]? = some u → w.cell? ⟨b, of + i, none⟩ = some u) (hx : p[j]? = some x) :
    w.cell? ⟨b, of + j * 3, none⟩ = some (.int .i64 x.k) ∧ w.cell? ⟨b, of + j * 3 + 1, none⟩ = some (.int .i64 x.a) ∧ w.cell? ⟨b, of + j * 3 + 2, none⟩ = some (.int .i64 x.v) := by
  obtain ⟨h0, h1, h2⟩ := flat_get hx
  have e : 3 * j = j * 3 := Nat.mul_comm 3 j
  rw [e] at h0 h1 h2
  exact ⟨hc _ _ h0, hc _ _ h1, hc _ _ h2⟩
/-- Rows of programs that can be read. -/
def Progs (w : World) (a : Option Addr) (cap : Nat) (ps : List (List OpI)) : Prop :=
  ∃ rows : List Value, SlV w a ps.length cap 1 rows ∧ ∀ (i : Nat) (p : List OpI), ps[i]? = some p → ∃ ai ci, rows[i]? = some (Value.slice ai p.length ci) ∧ SlV w ai p.length ci 3 (flat p)
theorem Progs.below {w w' : World} {a : Option Addr} {cap : Nat} {ps : List (List OpI)} (h : Progs w a cap ps) (hb : Below w.heap.size w w') : Progs w' a cap ps := by
  obtain ⟨rows, h1, h2⟩ := h
  exact ⟨rows, h1.below hb, fun i p hp => by obtain ⟨ai, ci, e, hs⟩ := h2 i p hp; exact ⟨ai, ci, e, hs.below hb⟩⟩
theorem progs_nil (w : World) : Progs w none 0 [] := ⟨[], slv_nil w 1, fun i p hp => by simp at hp⟩

/-- May an operation be? -/
def opOk (l k : Int) (o : OpI) : Bool := isA l k o.a && (o.k == 2 || o.k == 3 || ((o.k == 1 || o.k == 4) && o.v == 0))
def progOk (l k : Int) (p : List OpI) : Bool := decide (p.length ≤ 24) && p.all (opOk l k)
def opsOk (n : Int) (l k : Int) (ps : List (List OpI)) : Bool := decide ((ps.length : Int) = n) && ps.all (progOk l k)

set_option maxHeartbeats 1000000 in
theorem isOp_any (n l k s y o i : Int) (t : Value) (x : OpI) (w : World) (hl0 : 1 ≤ l) (hl1 : l ≤ 8) (hk0 : 1 ≤ k) (hk1 : k ≤ 4) :
    Calls Try.prog 34 #[cfg n l k s y o i t, opv x] w fun e w' => e = .returned (.bool (opOk l k x)) ∧ Below w.heap.size w w' := by
  obtain ⟨xk, xa, xv⟩ := x
  unfold cfg opv
  cases h : isA l k xa
  · have HO : Hid (opOk l k ⟨xk, xa, xv⟩ = false) := by unfold Hid opOk; rw [h]; rfl
    go_enter Try.func34, Try.ntmps34
    go_wp2_with (go_at_call 31; refine (isAddr_any _ _ _ _ _ _ _ _ _ _ hl0 hl1 hk0 hk1).mono ?_; rintro e w1 ⟨rfl, hb⟩)
    go_ret
    exact ⟨ret_bool HO.out.symm, (ba (ba (Below.refl _ _))).trans (hb.mono (by simp; omega))⟩
  · have HO : Hid (opOk l k ⟨xk, xa, xv⟩ = (xk == 2 || xk == 3 || ((xk == 1 || xk == 4) && xv == 0))) := by unfold Hid opOk; rw [h]; rfl
    go_enter Try.func34, Try.ntmps34
    go_wp2_with (go_at_call 31; refine (isAddr_any _ _ _ _ _ _ _ _ _ _ hl0 hl1 hk0 hk1).mono ?_; rintro e w1 ⟨rfl, hb⟩; obtain ⟨hc1, hf1⟩ := bcell hb)
    all_goals go_ret
    all_goals refine ⟨ret_bool ?_, (ba (ba (Below.refl _ _))).trans (hb.mono (by simp; omega))⟩
    all_goals rw [HO.out]
    all_goals clear hc1 hf1 hb HO
    all_goals simp_all

theorem all_take {α : Type} {f : α → Bool} {p : List α} {k : Nat} {x : α} (h : (p.take k).all f = true) (hx : p[k]? = some x) (hf : f x = true) : (p.take (k + 1)).all f = true := by
  have hk : k < p.length := (List.getElem?_eq_some_iff.1 hx).1
  rw [List.take_succ_eq_append_getElem hk, List.all_append, h]
  rw [List.getElem?_eq_getElem hk] at hx
  simp at hx
  simp [hx, hf]
theorem all_not {α : Type} {f : α → Bool} {p : List α} {k : Nat} {x : α} (hx : p[k]? = some x) (hf : f x = false) : p.all f = false := by
  rw [List.all_eq_false]
  exact ⟨x, List.mem_of_getElem? hx, by simp [hf]⟩

set_option maxHeartbeats 1000000 in
theorem isProgram_any (n l k s y o i : Int) (t : Value) (a : Option Addr) (cap : Nat) (p : List OpI) (w : World) (hp : SlV w a p.length cap 3 (flat p)) (hl0 : 1 ≤ l) (hl1 : l ≤ 8) (hk0 : 1 ≤ k) (hk1 : k ≤ 4) :
    Calls Try.prog 28 #[cfg n l k s y o i t, .slice a p.length cap] w fun e w' => e = .returned (.bool (progOk l k p)) ∧ Below w.heap.size w w' := by
  unfold cfg
  have hmx := hp.max
  have hle := hp.le
  unfold maxLen at hmx
  by_cases hn : 24 < p.length
  · have HO : Hid (progOk l k p = false) := by unfold Hid progOk; rw [decide_eq_false (by omega)]; rfl
    have hn' : (24 : Int) < (p.length : Int) := by omega
    go_enter Try.func28, Try.ntmps28
    go_wp2
    go_ret
    exact ⟨ret_bool HO.out.symm, ba (Below.refl _ _)⟩
  have HO : Hid (progOk l k p = p.all (opOk l k)) := by unfold Hid progOk; rw [decide_eq_true (by omega)]; rfl
  have hn' : (p.length : Int) ≤ 24 := by omega
  clear hn
  rcases hp.row with he | ⟨b, of, rfl, hc⟩
  · have h0 : p.length = 0 := by have := flat_len p; rw [he] at this; simp at this; omega
    obtain rfl : p = [] := List.eq_nil_of_length_eq_zero h0
    go_enter Try.func28, Try.ntmps28
    go_wp2
    refine wp_loop_rounds 1 ?_
    rw [rounds_succ]
    go_wp2
    go_ret
    exact ⟨ret_bool HO.out.symm, ba (Below.refl _ _)⟩
  · go_enter Try.func28, Try.ntmps28
    go_wp2
    have hcb : ∀ wr, Below (w.alloc (.cells #[.int .i64 n, .int .i64 l, .int .i64 k, .int .i64 s, .int .i64 y, .int .i64 o, .int .i64 i, t] 25)).heap.size (w.alloc (.cells #[.int .i64 n, .int .i64 l, .int .i64 k, .int .i64 s, .int .i64 y, .int .i64 o, .int .i64 i, t] 25)) wr → ∀ j u, (#[.int .i64 n, .int .i64 l, .int .i64 k, .int .i64 s, .int .i64 y, .int .i64 o, .int .i64 i, t] : Array Value)[j]? = some u → wr.cell? ⟨w.heap.size, j, none⟩ = some u := by
      intro wr hb j u hu
      rw [hb.cell (p := ⟨w.heap.size, j, none⟩) (by simp)]
      simpa using hu
    go_loopw [12] (fun q wr => ∃ j : Nat, q = .int .i64 j ∧ j ≤ p.length ∧ (p.take j).all (opOk l k) = true ∧ Below (w.alloc (.cells #[.int .i64 n, .int .i64 l, .int .i64 k, .int .i64 s, .int .i64 y, .int .i64 o, .int .i64 i, t] 25)).heap.size (w.alloc (.cells #[.int .i64 n, .int .i64 l, .int .i64 k, .int .i64 s, .int .i64 y, .int .i64 o, .int .i64 i, t] 25)) wr) (fun q _ => p.length - (intOf q).toNat)
    case atStart => exact ⟨0, rfl, by omega, rfl, Below.refl _ _⟩
    case round =>
      obtain ⟨j, rfl, hj, hall, hbr⟩ := hrel
      have HA : Hid ((p.take j).all (opOk l k) = true) := hall
      clear hall
      have c0 : wr.cell? ⟨w.heap.size, 0, none⟩ = some (.int .i64 n) := hcb wr hbr 0 _ rfl
      have c1 : wr.cell? ⟨w.heap.size, 1, none⟩ = some (.int .i64 l) := hcb wr hbr 1 _ rfl
      have c2 : wr.cell? ⟨w.heap.size, 2, none⟩ = some (.int .i64 k) := hcb wr hbr 2 _ rfl
      have c3 : wr.cell? ⟨w.heap.size, 3, none⟩ = some (.int .i64 s) := hcb wr hbr 3 _ rfl
      have c4 : wr.cell? ⟨w.heap.size, 4, none⟩ = some (.int .i64 y) := hcb wr hbr 4 _ rfl
      have c5 : wr.cell? ⟨w.heap.size, 5, none⟩ = some (.int .i64 o) := hcb wr hbr 5 _ rfl
      have c6 : wr.cell? ⟨w.heap.size, 6, none⟩ = some (.int .i64 i) := hcb wr hbr 6 _ rfl
      have c7 : wr.cell? ⟨w.heap.size, 7, none⟩ = some t := hcb wr hbr 7 _ rfl
      have clt : w.heap.size < wr.heap.size := by have := hbr.size; simp at this; omega
      have hBw : Below w.heap.size w wr := next (ba (Below.refl _ _)) hbr
      by_cases hlt : j < p.length
      · have hlt' : (j : Int) < (p.length : Int) := by omega
        obtain ⟨x, hx⟩ : ∃ x, p[j]? = some x := ⟨p[j], by simp [hlt]⟩
        obtain ⟨g0, g1, g2⟩ := op_cells hc hx
        have blt : b < w.heap.size := World.block_lt_of_cell? w _ g0
        rw [← hBw.cell (p := ⟨b, of + j * 3, none⟩) blt] at g0
        rw [← hBw.cell (p := ⟨b, of + j * 3 + 1, none⟩) blt] at g1
        rw [← hBw.cell (p := ⟨b, of + j * 3 + 2, none⟩) blt] at g2
        obtain ⟨xk, xa, xv⟩ := x
        have HX : Hid (p[j]? = some ⟨xk, xa, xv⟩) := hx
        clear hx
        cases hok : opOk l k ⟨xk, xa, xv⟩
        · have HF : Hid (p.all (opOk l k) = false) := all_not HX.out hok
          go_wp2_with (go_at_call 34; refine (isOp_any n l k s y o i t ⟨xk, xa, xv⟩ _ hl0 hl1 hk0 hk1).mono ?_; rintro e w2 ⟨rfl, hb2⟩)
          go_ret
          exact ⟨ret_bool (by rw [HO.out, HF.out]), (next hBw (next (ba (Below.refl _ _)) hb2))⟩
        · go_wp2_with (go_at_call 34; refine (isOp_any n l k s y o i t ⟨xk, xa, xv⟩ _ hl0 hl1 hk0 hk1).mono ?_; rintro e w2 ⟨rfl, hb2⟩)
          go_roundw
          case rel => exact ⟨j + 1, by go_num, by omega, all_take HA.out HX.out hok, next hbr (next (ba (Below.refl _ _)) hb2)⟩
          case measure => simp [intOf]; omega
      · have hlt' : (p.length : Int) ≤ (j : Int) := by omega
        go_wp2
        go_ret
        refine ⟨ret_bool ?_, hBw⟩
        rw [HO.out]
        have := HA.out
        rw [List.take_of_length_le (by omega)] at this
        exact this.symm
end Go.Proofs.Ytpagdfmajeodiaa
