/- The document's turns: Ready. Conditions: as each theorem states them. -/
import Derived.Test.YtgeiagndpfdnlaaTuD4
import Derived.Test.YtgeiagndpfdnlaaTake8
import Derived.Test.YtgeiagndpfdnlaaPk0
namespace Go.Proofs.Ytgeiagndpfdnlaa
open Go.RowKit
set_option linter.unusedVariables false
set_option maxRecDepth 20000
theorem put_at {l : List Int} {x : Int} {k : Nat} (hl : RiseK id l) (h1 : ∀ (j : Nat) (y : Int), j < k → l[j]? = some y → y < x) (h2 : ∀ y : Int, l[k]? = some y → x < y) : putK id x l = l.take k ++ x :: l.drop k := by
  have hlt : ∀ y ∈ l.take k, y < x := fun y hy => by
    obtain ⟨j, hj⟩ := List.mem_iff_getElem?.1 hy
    rw [List.getElem?_take] at hj
    split at hj
    · exact h1 j y (by assumption) hj
    · cases hj
  have hgt : ∀ y ∈ l.drop k, x < y := fun y hy => by
    obtain ⟨j, hj⟩ := List.mem_iff_getElem?.1 hy
    rw [List.getElem?_drop] at hj
    obtain ⟨hj', rfl⟩ := List.getElem?_eq_some_iff.1 hj
    have hk : k < l.length := by omega
    have h3 := h2 l[k] (List.getElem?_eq_getElem hk)
    by_cases e : j = 0
    · subst e; exact h3
    · have := List.pairwise_iff_getElem.1 hl k (k + j) hk hj' (by omega)
      simp only [_root_.id] at this
      omega
  refine rise_ext (rise_put hl) ?_ (fun y => ?_)
  · unfold RiseK
    refine List.pairwise_append.2 ⟨List.Pairwise.sublist (List.take_sublist _ _) hl, List.pairwise_cons.2 ⟨fun y hy => hgt y hy, List.Pairwise.sublist (List.drop_sublist _ _) hl⟩, fun a ha b hb => ?_⟩
    simp only [_root_.id]
    have h3 := hlt a ha
    rcases List.mem_cons.1 hb with rfl | hb
    · exact h3
    · have := hgt b hb; omega
  · rw [mem_putK, List.mem_append, List.mem_cons]
    have hm : y ∈ l ↔ y ∈ l.take k ∨ y ∈ l.drop k := by rw [← List.mem_append, List.take_append_drop]
    simp only [_root_.id]
    constructor
    · rintro (h | ⟨h, _⟩)
      · exact .inr (.inl h)
      · exact (hm.1 h).imp (fun h => h) .inr
    · rintro (h | h | h)
      · exact .inr ⟨hm.2 (.inl h), by have := hlt y h; omega⟩
      · exact .inl h
      · exact .inr ⟨hm.2 (.inr h), by have := hgt y h; omega⟩
theorem Rw.cut {w : World} {S : Nat → Prop} {b o n cap : Nat} {z : List Int} (h : Rw w S (some ⟨b, o, none⟩) n cap 1 (cells z)) {k : Nat} (hk : k ≤ n) : Rw w S (some ⟨b, o, none⟩) k k 1 (cells (z.take k)) := by
  have hl := h.len
  have hle := h.le
  have hm := h.max
  refine ⟨by simp [cells] at hl ⊢; omega, Nat.le_refl _, by omega, fun e => (by cases e), ?_⟩
  rcases h.row with h0 | ⟨b', o', e, hs, hb, hc, hf⟩
  · exact .inl (by omega)
  · refine .inr ⟨b', o', e, hs, hb, fun i u hu => hc i u ?_, fun i hi => hf i (by omega)⟩
    unfold cells at hu ⊢
    rw [List.map_take, List.getElem?_take] at hu
    split at hu
    · exact hu
    · cases hu
theorem sl_rear {w : World} {S : Nat → Prop} {b o n cap : Nat} {z : List Int} (h : Rw w S (some ⟨b, o, none⟩) n cap 1 (cells z)) {k : Nat} (hk : k ≤ n) {A : Addr} (hA : (if cap = k then some (⟨b, o, none⟩ : Addr) else some ⟨b, o + k, none⟩) = some A) : SlV w (some A) (n - k) (cap - k) 1 (cells (z.drop k)) := by
  have := h.slv.rear (k := k) hk (A := A) (by rw [Nat.mul_one]; exact hA)
  rw [Nat.mul_one] at this
  rw [show cells (z.drop k) = (cells z).drop k by simp [cells]]
  exact this
theorem rw_one (W : World) (x : Int) (t : TypeId) : Rw (W.alloc (.cells #[.int .i64 x] t)) (fun j => W.heap.size ≤ j) (some ⟨W.heap.size, 0, none⟩) 1 1 1 (cells [x]) := by
  refine ⟨rfl, Nat.le_refl _, by unfold maxLen; omega, fun e => (by cases e), .inr ⟨_, _, rfl, Nat.le_refl _, by simp, fun i u hu => ?_, fun i hi => ?_⟩⟩
  · obtain ⟨hj, rfl⟩ := cells_get hu
    simp at hj
    subst hj
    simp
  · obtain rfl : i = 0 := by omega
    simp
namespace TR
set_option maxHeartbeats 1000000 in
theorem ready_new {w : World} {g t0 : Nat} {M N : Nat → Prop} {o : List (Int × Int)} {q : List Wr} {ao aq : Option Addr} {no co nq cq : Nat} (h : DT w g t0 M N o q ao no co aq nq cq) (hn : nq ≤ 1000) :
    Calls Try.prog 36 #[.pointer (some ⟨g, t0, none⟩)] w fun e w' => ∃ a n cap, e = .returned (.slice a n cap) ∧ Rw w' (fun j => w.heap.size ≤ j) a n cap 1 (cells (readyT o q)) ∧ Below w.heap.size w w' := by
  have c1 := h.c1
  have lt := h.lt
  have row := h.rq
  have HL : Hid (q.length = nq) := row.lenF wcells_len (by omega)
  have H : Hid (DT w g t0 M N o q ao no co aq nq cq) := h
  have hle := row.le
  have hmx := row.max
  unfold maxLen at hmx
  clear h
  go_enter Try.func36, Try.ntmps36
  go_wp2_with fail
  clear c1 lt
  go_loopw [3, 12] (fun vo vi wr => ∃ (i n : Nat) (a : Option Addr) (cap : Nat) (l : List Int), vo = .slice a n cap ∧ vi = .int .i64 (i : Int) ∧ i ≤ nq ∧ n ≤ i ∧ Below w.heap.size w wr ∧ Rw wr (fun j => w.heap.size ≤ j) a n cap 1 (cells l) ∧ Hid ((q.take i).foldl (rdyF o) [] = l) ∧ ((a = none ∧ n = 0 ∧ cap = 0) ∨ ∃ b o1, a = some ⟨b, o1, none⟩ ∧ 0 < n)) (fun _ vi _ => nq - (intOf vi).toNat)
  case atStart => exact ⟨0, 0, none, 0, [], rfl, rfl, by omega, by omega, Below.refl _ _, rw_nil _ _ _, by show _ = _; rfl, .inl ⟨rfl, rfl, rfl⟩⟩
  case round =>
    obtain ⟨i, n, a, cap, l, rfl, rfl, hi, hni, hB, rwl, HF, hsh⟩ := hrel
    by_cases hlt : i < nq
    · skip
      obtain ⟨x, hx⟩ : ∃ x, q[i]? = some x := ⟨q[i]'(by have := HL.out; omega), List.getElem?_eq_getElem (by have := HL.out; omega)⟩
      obtain ⟨b0, o0, rfl, _, hb, hc⟩ := (row.below hB).getF wcells_len hx (by omega)
      have HTK : Hid ((q.take (i + 1)).foldl (rdyF o) [] = rdyF o l x) := by
        show _ = _
        rw [List.take_add_one, hx, List.foldl_append, HF.out]
        rfl
      obtain ⟨x, xw, xd⟩ := x
      have x0 : wr.cell? ⟨b0, o0 + i * 3, none⟩ = some (.int .i64 x) := hc 0 _ (by omega) rfl
      have x1 : wr.cell? ⟨b0, o0 + i * 3 + 1, none⟩ = some (.int .i64 xw) := hc 1 _ (by omega) rfl
      have x2 : wr.cell? ⟨b0, o0 + i * 3 + 2, none⟩ = some (.int .i64 xd) := hc 2 _ (by omega) rfl
      have bA : Below wr.heap.size wr (wr.alloc (.cells #[.int .i64 x, .int .i64 xw, .int .i64 xd] 111)) := ba (Below.refl _ _)
      have hB2 := next hB bA
      have y0 : (wr.alloc (.cells #[.int .i64 x, .int .i64 xw, .int .i64 xd] 111)).cell? ⟨wr.heap.size, 0, none⟩ = some (.int .i64 x) := by simp
      have gw : w.heap.size ≤ wr.heap.size := hB.size
      have g2 : wr.heap.size < (wr.alloc (.cells #[.int .i64 x, .int .i64 xw, .int .i64 xd] 111)).heap.size := by simp
      have rw2 := rwl.below bA
      clear hx hc row rwl
      go_upto_region 5 with fail
      clear x0 x1 x2 hb hB bA
      generalize wr.heap.size = ge at *
      generalize wr.alloc _ = w2 at *
      obtain ⟨ov, hov⟩ : ∃ ov, ownT o x = ov := ⟨_, rfl⟩
      have HOV : Hid (ownT o x = ov) := hov
      unfold rdyF at HTK
      simp only at HTK
      rw [hov] at HTK
      clear hov
      by_cases ho : ov = -1
      · rw [if_pos ho] at HTK
        subst ho
        go_wp2_with (go_at_call 20; refine (owner_any (H.out.below hB2) x).mono ?_; rintro e w3 ⟨rfl, b3⟩; rw [HOV.out])
        have hB3 := next hB2 b3
        have rw3 := rw2.below b3
        have y3 := (b3.cell (p := ⟨ge, 0, none⟩) g2).trans y0
        have g3 := Nat.lt_of_lt_of_le g2 b3.size
        have hln : l.length = n := by have := rw3.len; simpa [cells] using this
        have HLN : Hid (l.length = n) := hln
        have HRI : Hid (RiseK _root_.id l) := by
          have := ready_rise o (q.take i)
          rw [show readyT o (q.take i) = l from HF.out] at this
          exact this
        clear b3 rw2 y0 g2 hB2 hln
        go_loopw [6] (fun vk wx => ∃ k : Nat, vk = .int .i64 (k : Int) ∧ k ≤ n ∧ Hid (∀ (j : Nat) (y : Int), j < k → l[j]? = some y → y < x) ∧ Below w.heap.size w wx ∧ Rw wx (fun j => w.heap.size ≤ j) a n cap 1 (cells l) ∧ wx.cell? ⟨ge, 0, none⟩ = some (.int .i64 x) ∧ ge < wx.heap.size) (fun vk _ => n - (intOf vk).toNat)
        case atStart => exact ⟨0, rfl, by omega, fun j y hj => by omega, hB3, rw3, y3, g3⟩
        case round =>
          clear hB3 rw3 y3 g3
          clear w3 w2
          obtain ⟨k, rfl, hk, HJ, hBx, rwx, yx, gx⟩ := hrel
          by_cases hkn : k < n
          · obtain ⟨b, o1, rfl, _⟩ := hsh.resolve_left (fun h => by omega)
            obtain ⟨_, _, e1, hbb, hcc⟩ := (slv_cells rwx.slv).at hkn
            simp at e1
            obtain ⟨rfl, rfl⟩ := e1
            have hyk : l[k]? = some (l[k]?.getD 0) := by rw [List.getElem?_eq_getElem (by rw [HLN.out]; exact hkn)]; rfl
            obtain ⟨y, hy⟩ : ∃ y, l[k]?.getD 0 = y := ⟨_, rfl⟩
            rw [hy] at hyk hcc
            have HY : Hid (l[k]? = some y) := hyk
            have hk1 : (k : Int) < (n : Int) := by omega
            have hk2 : decide ((k : Int) < (n : Int)) = true := decide_eq_true hk1
            have hk3 : ((k : Int) == (n : Int)) = false := by simp; omega
            clear hyk hy
            by_cases hyx : y < x
            · have HYX : Hid (y < x) := hyx
              have hyx' : decide (y < x) = true := decide_eq_true hyx
              clear hyx
              go_upto_region 7 with fail
              go_quiet (fail)
              go_wp2_with fail
              go_roundw
              case rel =>
                have bq := below_dn wr (by assumption)
                refine ⟨k + 1, by go_num, by omega, fun j z hj hz => ?_, next hBx (below_dn _ _), rwx.below (below_dn _ _), yx, gx⟩
                by_cases e : j = k
                · subst e
                  rw [HY.out] at hz
                  rw [← Option.some.inj hz]
                  exact HYX.out
                · exact HJ.out j z (by omega) hz
              case measure => simp [intOf]; omega
            · have hyx' : decide (y < x) = false := decide_eq_false hyx
              by_cases hye : y = x
              · skip
                have hneq : (y != x) = false := by simp [hye]
                go_upto_region 7 with fail
                go_quiet (fail)
                have rwy := rwx.below (below_dn wr nq)
                have hBy := next hBx (below_dn wr nq)
                have yy : (wr.drewN nq).cell? ⟨ge, 0, none⟩ = some (.int .i64 x) := yx
                have gy : ge < (wr.drewN nq).heap.size := gx
                have hcc' : (wr.drewN nq).cell? ⟨b, o1 + k, none⟩ = some (.int .i64 y) := hcc
                have hbb' : b < (wr.drewN nq).heap.size := hbb
                clear hcc hbb
                clear hBx rwx yx gx
                generalize wr.drewN nq = wy at *
                go_upto_region 9 with fail
                go_quiet (fail)
                have rwx := rwy.below (below_dn wy nq)
                have hBx := next hBy (below_dn wy nq)
                have yx : (wy.drewN nq).cell? ⟨ge, 0, none⟩ = some (.int .i64 x) := yy
                have gx : ge < (wy.drewN nq).heap.size := gy
                clear hBy rwy yy gy hcc' hbb'
                generalize wy.drewN nq = wx at *
                rw [show putK _root_.id x l = l from putK_same (key := _root_.id) HRI.out (a := x) (List.mem_of_getElem? (hye ▸ HY.out))] at HTK
                go_wp2_with fail
                go_roundw
                case rel => exact ⟨i + 1, n, _, cap, l, rfl, by go_num, by omega, by omega, hBx, rwx, HTK, .inr ⟨_, _, rfl, by omega⟩⟩
                case measure => simp [intOf]; omega
              · skip
                have hneq : (y != x) = true := by simpa using hye
                have HKP : Hid (putK _root_.id x l = l.take k ++ x :: l.drop k) := put_at HRI.out HJ.out (fun z hz => by rw [HY.out] at hz; have := Option.some.inj hz; omega)
                clear hye
                go_upto_region 7 with fail
                go_quiet (fail)
                have rwy := rwx.below (below_dn wr nq)
                have hBy := next hBx (below_dn wr nq)
                have yy : (wr.drewN nq).cell? ⟨ge, 0, none⟩ = some (.int .i64 x) := yx
                have gy : ge < (wr.drewN nq).heap.size := gx
                have hcc' : (wr.drewN nq).cell? ⟨b, o1 + k, none⟩ = some (.int .i64 y) := hcc
                have hbb' : b < (wr.drewN nq).heap.size := hbb
                clear hcc hbb
                clear hBx rwx yx gx
                generalize wr.drewN nq = wy at *
                go_upto_region 9 with fail
                go_quiet (fail)
                have rwx := rwy.below (below_dn wy nq)
                have hBx := next hBy (below_dn wy nq)
                have yx : (wy.drewN nq).cell? ⟨ge, 0, none⟩ = some (.int .i64 x) := yy
                have gx : ge < (wy.drewN nq).heap.size := gy
                clear hBy rwy yy gy hcc' hbb'
                generalize wy.drewN nq = wx at *
                go_upto_region 10 with fail
                obtain ⟨A0, hA⟩ : ∃ A0 : Addr, (if cap = k then some (⟨b, o1, none⟩ : Addr) else some ⟨b, o1 + k, none⟩) = some A0 := by
                  by_cases e : cap = k
                  · exact ⟨_, if_pos e⟩
                  · exact ⟨_, if_neg e⟩
                have hle0 := rwx.le
                have hmx0 := rwx.max
                unfold maxLen at hmx0
                have hkc : k ≤ cap := by omega
                have hi1 : 0 ≤ (k : Int) ∧ (k : Int) ≤ n ∧ (k : Int) ≤ cap := by omega
                refine wp_region_orders 13 rfl (by kernel_rfl) ?_
                have hBd : Below wx.heap.size wx wx.drew := (Below.refl _ _).drew
                have hB0 := next hBx hBd
                have rw0 := rwx.below hBd
                have y0 : wx.drew.cell? ⟨ge, 0, none⟩ = some (.int .i64 x) := yx
                have g0 : ge < wx.drew.heap.size := gx
                clear hBx rwx yx gx hBd
                generalize wx.drew = V0 at *
                have hI : (fun V : World => V.cell? ⟨ge, 0, none⟩ = some (.int .i64 x)) V0 := y0
                refine any_inv (fun V : World => V.cell? ⟨ge, 0, none⟩ = some (.int .i64 x)) [11] hI ?_
                refine inv_take (v := ?v17) [3, 11, 12] 0 hI rfl (by kernel_rfl) (by kernel_rfl) (by kernel_rfl) (by kernel_rfl) (by kernel_rfl) (fun _ _ _ h => h) (by kernel_rfl) (fun V hV => ?hy17) ?go17
                case hy17 => (have i1 := hV; go_simp <;> rfl)
                simp only [Act.put, List.setIfInBounds_toArray, List.set_cons_zero, List.set_cons_succ]
                refine inv_take (v := ?v18) [3, 11, 12] 1 hI rfl (by kernel_rfl) (by kernel_rfl) (by kernel_rfl) (by kernel_rfl) (by kernel_rfl) (fun _ _ _ h => h) (by kernel_rfl) (fun V hV => ?hy18) ?go18
                case hy18 => (have i1 := hV; go_simp <;> rfl)
                simp only [Act.put, List.setIfInBounds_toArray, List.set_cons_zero, List.set_cons_succ]
                refine inv_take (v := ?v19) [3, 11, 12] 2 hI rfl (by kernel_rfl) (by kernel_rfl) (by kernel_rfl) (by kernel_rfl) (by kernel_rfl) (fun _ _ _ h => h) (by kernel_rfl) (fun V hV => ?hy19) ?go19
                case hy19 => (have i1 := hV; go_simp <;> rfl)
                simp only [Act.put, List.setIfInBounds_toArray, List.set_cons_zero, List.set_cons_succ]
                refine inv_take (v := ?v20) [11, 12] 3 hI rfl (by kernel_rfl) (by kernel_rfl) (by kernel_rfl) (by kernel_rfl) (by kernel_rfl) (fun _ _ _ h => h) (by kernel_rfl) (fun V hV => ?hy20) ?go20
                case hy20 => (have i1 := hV; go_simp <;> rfl)
                simp only [Act.put, List.setIfInBounds_toArray, List.set_cons_zero, List.set_cons_succ]
                refine inv_take (v := ?v21) [5, 6, 10, 11, 12] 4 hI rfl (by kernel_rfl) (by kernel_rfl) (by kernel_rfl) (by kernel_rfl) (by kernel_rfl) (fun _ _ _ h => h) (by kernel_rfl) (fun V hV => ?hy21) ?go21
                case hy21 => (have i1 := hV; go_simp <;> rfl)
                simp only [Act.put, List.setIfInBounds_toArray, List.set_cons_zero, List.set_cons_succ]
                refine inv_take (v := ?v22) [6, 10, 11, 12] 5 hI rfl (by kernel_rfl) (by kernel_rfl) (by kernel_rfl) (by kernel_rfl) (by kernel_rfl) (fun _ _ _ h => h) (by kernel_rfl) (fun V hV => ?hy22) ?go22
                case hy22 => (have i1 := hV; go_simp <;> rfl)
                simp only [Act.put, List.setIfInBounds_toArray, List.set_cons_zero, List.set_cons_succ]
                refine inv_take (v := ?v23) [9, 10, 11, 12] 7 hI rfl (by kernel_rfl) (by kernel_rfl) (by kernel_rfl) (by kernel_rfl) (by kernel_rfl) (fun _ _ _ h => h) (by kernel_rfl) (fun V hV => ?hy23) ?go23
                case hy23 => (have i1 := hV; go_simp <;> rfl)
                simp only [Act.put, List.setIfInBounds_toArray, List.set_cons_zero, List.set_cons_succ]
                refine inv_take (v := ?v24) [9, 10, 11, 12] 8 hI rfl (by kernel_rfl) (by kernel_rfl) (by kernel_rfl) (by kernel_rfl) (by kernel_rfl) (fun _ _ _ h => h) (by kernel_rfl) (fun V hV => ?hy24) ?go24
                case hy24 => (have i1 := hV; go_simp <;> rfl)
                simp only [Act.put, List.setIfInBounds_toArray, List.set_cons_zero, List.set_cons_succ]
                refine inv_take (v := ?v25) [10, 11, 12] 9 hI rfl (by kernel_rfl) (by kernel_rfl) (by kernel_rfl) (by kernel_rfl) (by kernel_rfl) (fun _ _ _ h => h) (by kernel_rfl) (fun V hV => ?hy25) ?go25
                case hy25 => (have i1 := hV; go_simp <;> rfl)
                simp only [Act.put, List.setIfInBounds_toArray, List.set_cons_zero, List.set_cons_succ]
                refine inv_list 6 (by kernel_rfl) rfl ?_
                clear hI
                go_wp2_with fail
                have b4 : Below V0.heap.size V0 (V0.alloc (.cells #[.int .i64 x] 3)) := ba (Below.refl _ _)
                have hI : (fun V : World => V.cell? ⟨ge, 0, none⟩ = some (.int .i64 x)) (V0.alloc (.cells #[.int .i64 x] 3)) := (b4.cell (p := ⟨ge, 0, none⟩) g0).trans y0
                refine then_n ⟨hI, ?_⟩
                have r1 := rw_one V0 x 3
                obtain ⟨e0, hei, he0, he1, he2⟩ := info_parts Try.infoInt
                refine inv_list 10 (by kernel_rfl) rfl ?_
                refine wpList_append_slv (V0.alloc (.cells #[.int .i64 x] 3)) (fun j => V0.heap.size ≤ j) (by kernel_rfl) (.tmp 55) (.tmp 58) 22 rfl 3 e0 _ 1 8 Try.underlying22 hei he0 he1 he2 rfl (by decide) (some ⟨V0.heap.size, 0, none⟩) 1 1 (cells [x]) rfl r1 (some A0) (n - k) (cap - k) (cells (l.drop k)) rfl ((sl_rear (rw0.below b4) (by omega) hA)) (cells_one _) (by unfold maxLen; omega) (by omega) ?_
                intro a7 c7 w7 hrw7 hk7
                have hb7 := hk7.below (base := V0.heap.size) (fun j hj => hj) b4.size
                have hI7 : (fun V : World => V.cell? ⟨ge, 0, none⟩ = some (.int .i64 x)) w7 := (hb7.cell (p := ⟨ge, 0, none⟩) g0).trans hI
                refine then_n ⟨hI7, ?_⟩
                simp only [Act.put, List.setIfInBounds_toArray, List.set_cons_zero, List.set_cons_succ]
                refine inv_write 11 (by kernel_rfl) (by kernel_rfl) rfl ?_
                have rf7 : Rw w7 (fun j => w.heap.size ≤ j) (some ⟨b, o1, none⟩) k k 1 (cells (l.take k)) := by
                  have hcut := rw0.cut (k := k) (by omega)
                  exact (((hcut.imp (T := fun j => w.heap.size ≤ j ∧ j < V0.heap.size) (fun j hj h => ⟨h, hj⟩)).below b4).keep hk7 (fun j hj h => by omega)).imp (fun j hj h => h.1)
                refine wpList_append_slv w7 (fun j => w.heap.size ≤ j) (by kernel_rfl) (.tmp 52) (.tmp 59) 22 rfl 3 e0 _ 1 8 Try.underlying22 hei he0 he1 he2 rfl (by decide) (some ⟨b, o1, none⟩) k k (cells (l.take k)) rfl rf7 a7 _ c7 _ rfl hrw7.slv (fun u hu => cells_one ([x] ++ l.drop k) u (by simpa [cells] using hu)) (by unfold maxLen; omega) (by omega) ?_
                intro a8 c8 w8 hrw8 hk8
                have hb8 : Below w.heap.size w w8 := hk8.afterN (next hB0 (b4.trans (hb7.mono (Nat.le_refl _)))) (by have := hB0.size; have := hb7.size; have := b4.size; omega) (fun j hj => hj)
                have rw8 : Rw w8 (fun j => w.heap.size ≤ j) a8 (k + (1 + (n - k))) c8 1 (cells (putK _root_.id x l)) := by
                  have e : cells (l.take k) ++ (cells [x] ++ cells (l.drop k)) = cells (putK _root_.id x l) := by rw [HKP.out]; simp [cells]
                  rw [e] at hrw8
                  have h1 := hB0.size
                  have h2 := hb7.size
                  have h3 := b4.size
                  refine hrw8.imp (fun j hj h => ?_)
                  rcases h with h | h
                  · exact h
                  · omega
                refine then_n ?_
                refine any_list 12 (by kernel_rfl) rfl ?_
                go_wp2_with fail
                refine then_n ?_
                refine any_done (by kernel_rfl) ?_
                clear hk8 hb7 b4 hk7 hrw7 hI hI7 y0 g0 r1
                go_wp2_with fail
                go_roundw
                case rel =>
                  obtain ⟨b8, o8, ea, _, _, _⟩ := rwN_some rw8 (by omega)
                  exact ⟨i + 1, _, a8, c8, _, rfl, by go_num, by omega, by omega, hb8, rw8, HTK, .inr ⟨b8, o8, ea, by omega⟩⟩
                case measure => simp [intOf]; omega
          · have hkn' : k = n := by omega
            have HKN : Hid (k = n) := hkn'
            have hk1 : decide ((k : Int) < (n : Int)) = false := decide_eq_false (by omega)
            have hk3 : ((k : Int) == (n : Int)) = true := by simp; omega
            clear hkn'
            have HKP : Hid (putK _root_.id x l = l.take k ++ x :: l.drop k) := put_at HRI.out HJ.out (fun y hy => by have := (List.getElem?_eq_some_iff.1 hy).1; have := HLN.out; omega)
            rcases hsh with ⟨rfl, rfl, rfl⟩ | ⟨b, o1, rfl, hn0⟩
            · obtain rfl : k = 0 := HKN.out
              obtain rfl : l = [] := List.eq_nil_of_length_eq_zero HLN.out
              go_upto_region 7 with fail
              go_quiet (fail)
              have rwy := rwx.below (below_dn wr nq)
              have hBy := next hBx (below_dn wr nq)
              have yy : (wr.drewN nq).cell? ⟨ge, 0, none⟩ = some (.int .i64 x) := yx
              have gy : ge < (wr.drewN nq).heap.size := gx
              skip
              clear hBx rwx yx gx
              generalize wr.drewN nq = wy at *
              go_upto_region 9 with fail
              go_quiet (fail)
              have rwx := rwy.below (below_dn wy nq)
              have hBx := next hBy (below_dn wy nq)
              have yx : (wy.drewN nq).cell? ⟨ge, 0, none⟩ = some (.int .i64 x) := yy
              have gx : ge < (wy.drewN nq).heap.size := gy
              clear hBy rwy yy gy 
              generalize wy.drewN nq = wx at *
              go_upto_region 10 with fail
              refine wp_region_orders 13 rfl (by kernel_rfl) ?_
              have hBd : Below wx.heap.size wx wx.drew := (Below.refl _ _).drew
              have hB0 := next hBx hBd
              have rw0 := rwx.below hBd
              have y0 : wx.drew.cell? ⟨ge, 0, none⟩ = some (.int .i64 x) := yx
              have g0 : ge < wx.drew.heap.size := gx
              clear hBx rwx yx gx hBd
              generalize wx.drew = V0 at *
              have hI : (fun V : World => V.cell? ⟨ge, 0, none⟩ = some (.int .i64 x)) V0 := y0
              refine any_inv (fun V : World => V.cell? ⟨ge, 0, none⟩ = some (.int .i64 x)) [11] hI ?_
              refine inv_take (v := ?v26) [3, 11, 12] 0 hI rfl (by kernel_rfl) (by kernel_rfl) (by kernel_rfl) (by kernel_rfl) (by kernel_rfl) (fun _ _ _ h => h) (by kernel_rfl) (fun V hV => ?hy26) ?go26
              case hy26 => (have i1 := hV; go_simp <;> rfl)
              simp only [Act.put, List.setIfInBounds_toArray, List.set_cons_zero, List.set_cons_succ]
              refine inv_take (v := ?v27) [3, 11, 12] 1 hI rfl (by kernel_rfl) (by kernel_rfl) (by kernel_rfl) (by kernel_rfl) (by kernel_rfl) (fun _ _ _ h => h) (by kernel_rfl) (fun V hV => ?hy27) ?go27
              case hy27 => (have i1 := hV; go_simp <;> rfl)
              simp only [Act.put, List.setIfInBounds_toArray, List.set_cons_zero, List.set_cons_succ]
              refine inv_take (v := ?v28) [3, 11, 12] 2 hI rfl (by kernel_rfl) (by kernel_rfl) (by kernel_rfl) (by kernel_rfl) (by kernel_rfl) (fun _ _ _ h => h) (by kernel_rfl) (fun V hV => ?hy28) ?go28
              case hy28 => (have i1 := hV; go_simp <;> rfl)
              simp only [Act.put, List.setIfInBounds_toArray, List.set_cons_zero, List.set_cons_succ]
              refine inv_take (v := ?v29) [11, 12] 3 hI rfl (by kernel_rfl) (by kernel_rfl) (by kernel_rfl) (by kernel_rfl) (by kernel_rfl) (fun _ _ _ h => h) (by kernel_rfl) (fun V hV => ?hy29) ?go29
              case hy29 => (have i1 := hV; go_simp <;> rfl)
              simp only [Act.put, List.setIfInBounds_toArray, List.set_cons_zero, List.set_cons_succ]
              refine inv_take (v := ?v30) [5, 6, 10, 11, 12] 4 hI rfl (by kernel_rfl) (by kernel_rfl) (by kernel_rfl) (by kernel_rfl) (by kernel_rfl) (fun _ _ _ h => h) (by kernel_rfl) (fun V hV => ?hy30) ?go30
              case hy30 => (have i1 := hV; go_simp <;> rfl)
              simp only [Act.put, List.setIfInBounds_toArray, List.set_cons_zero, List.set_cons_succ]
              refine inv_take (v := ?v31) [6, 10, 11, 12] 5 hI rfl (by kernel_rfl) (by kernel_rfl) (by kernel_rfl) (by kernel_rfl) (by kernel_rfl) (fun _ _ _ h => h) (by kernel_rfl) (fun V hV => ?hy31) ?go31
              case hy31 => (have i1 := hV; go_simp <;> rfl)
              simp only [Act.put, List.setIfInBounds_toArray, List.set_cons_zero, List.set_cons_succ]
              refine inv_take (v := ?v32) [9, 10, 11, 12] 7 hI rfl (by kernel_rfl) (by kernel_rfl) (by kernel_rfl) (by kernel_rfl) (by kernel_rfl) (fun _ _ _ h => h) (by kernel_rfl) (fun V hV => ?hy32) ?go32
              case hy32 => (have i1 := hV; go_simp <;> rfl)
              simp only [Act.put, List.setIfInBounds_toArray, List.set_cons_zero, List.set_cons_succ]
              refine inv_take (v := ?v33) [9, 10, 11, 12] 8 hI rfl (by kernel_rfl) (by kernel_rfl) (by kernel_rfl) (by kernel_rfl) (by kernel_rfl) (fun _ _ _ h => h) (by kernel_rfl) (fun V hV => ?hy33) ?go33
              case hy33 => (have i1 := hV; go_simp <;> rfl)
              simp only [Act.put, List.setIfInBounds_toArray, List.set_cons_zero, List.set_cons_succ]
              refine inv_take (v := ?v34) [10, 11, 12] 9 hI rfl (by kernel_rfl) (by kernel_rfl) (by kernel_rfl) (by kernel_rfl) (by kernel_rfl) (fun _ _ _ h => h) (by kernel_rfl) (fun V hV => ?hy34) ?go34
              case hy34 => (have i1 := hV; go_simp <;> rfl)
              simp only [Act.put, List.setIfInBounds_toArray, List.set_cons_zero, List.set_cons_succ]
              refine inv_list 6 (by kernel_rfl) rfl ?_
              clear hI
              go_wp2_with fail
              have b4 : Below V0.heap.size V0 (V0.alloc (.cells #[.int .i64 x] 3)) := ba (Below.refl _ _)
              have hI : (fun V : World => V.cell? ⟨ge, 0, none⟩ = some (.int .i64 x)) (V0.alloc (.cells #[.int .i64 x] 3)) := (b4.cell (p := ⟨ge, 0, none⟩) g0).trans y0
              refine then_n ⟨hI, ?_⟩
              have r1 := rw_one V0 x 3
              obtain ⟨e0, hei, he0, he1, he2⟩ := info_parts Try.infoInt
              refine inv_list 10 (by kernel_rfl) rfl ?_
              refine wpList_append_slv (V0.alloc (.cells #[.int .i64 x] 3)) (fun j => V0.heap.size ≤ j) (by kernel_rfl) (.tmp 55) (.tmp 58) 22 rfl 3 e0 _ 1 8 Try.underlying22 hei he0 he1 he2 rfl (by decide) (some ⟨V0.heap.size, 0, none⟩) 1 1 (cells [x]) rfl r1 none 0 0 (cells []) rfl (slv_nil _ _) (cells_one _) (by unfold maxLen; omega) (by omega) ?_
              intro a7 c7 w7 hrw7 hk7
              have hb7 := hk7.below (base := V0.heap.size) (fun j hj => hj) b4.size
              have hI7 : (fun V : World => V.cell? ⟨ge, 0, none⟩ = some (.int .i64 x)) w7 := (hb7.cell (p := ⟨ge, 0, none⟩) g0).trans hI
              refine then_n ⟨hI7, ?_⟩
              simp only [Act.put, List.setIfInBounds_toArray, List.set_cons_zero, List.set_cons_succ]
              refine inv_write 11 (by kernel_rfl) (by kernel_rfl) rfl ?_
              refine wpList_append_slv w7 (fun j => w.heap.size ≤ j) (by kernel_rfl) (.tmp 52) (.tmp 59) 22 rfl 3 e0 _ 1 8 Try.underlying22 hei he0 he1 he2 rfl (by decide) none 0 0 (cells []) rfl (rw_nil _ _ _) a7 _ c7 _ rfl hrw7.slv (fun u hu => cells_one ([x] ++ []) u (by simpa [cells] using hu)) (by unfold maxLen; omega) (by omega) ?_
              intro a8 c8 w8 hrw8 hk8
              have hb8 : Below w.heap.size w w8 := hk8.afterN (next hB0 (b4.trans (hb7.mono (Nat.le_refl _)))) (by have := hB0.size; have := hb7.size; have := b4.size; omega) (fun j hj => hj)
              have rw8 : Rw w8 (fun j => w.heap.size ≤ j) a8 (0 + (1 + 0)) c8 1 (cells (putK _root_.id x [])) := by
                have e : cells [] ++ (cells [x] ++ cells []) = cells (putK _root_.id x []) := by rw [HKP.out]; simp [cells]
                rw [e] at hrw8
                have h1 := hB0.size
                have h2 := hb7.size
                have h3 := b4.size
                refine hrw8.imp (fun j hj h => ?_)
                rcases h with h | h
                · exact h
                · omega
              refine then_n ?_
              refine any_list 12 (by kernel_rfl) rfl ?_
              go_wp2_with fail
              refine then_n ?_
              refine any_done (by kernel_rfl) ?_
              clear hk8 hb7 b4 hk7 hrw7 hI hI7 y0 g0 r1
              go_wp2_with fail
              go_roundw
              case rel =>
                obtain ⟨b8, o8, ea, _, _, _⟩ := rwN_some rw8 (by omega)
                exact ⟨i + 1, _, a8, c8, _, rfl, by go_num, by omega, by omega, hb8, rw8, HTK, .inr ⟨b8, o8, ea, by omega⟩⟩
              case measure => simp [intOf]; omega
            · skip
              go_upto_region 7 with fail
              go_quiet (fail)
              have rwy := rwx.below (below_dn wr nq)
              have hBy := next hBx (below_dn wr nq)
              have yy : (wr.drewN nq).cell? ⟨ge, 0, none⟩ = some (.int .i64 x) := yx
              have gy : ge < (wr.drewN nq).heap.size := gx
              skip
              clear hBx rwx yx gx
              generalize wr.drewN nq = wy at *
              go_upto_region 9 with fail
              go_quiet (fail)
              have rwx := rwy.below (below_dn wy nq)
              have hBx := next hBy (below_dn wy nq)
              have yx : (wy.drewN nq).cell? ⟨ge, 0, none⟩ = some (.int .i64 x) := yy
              have gx : ge < (wy.drewN nq).heap.size := gy
              clear hBy rwy yy gy 
              generalize wy.drewN nq = wx at *
              go_upto_region 10 with fail
              obtain ⟨A0, hA⟩ : ∃ A0 : Addr, (if cap = k then some (⟨b, o1, none⟩ : Addr) else some ⟨b, o1 + k, none⟩) = some A0 := by
                by_cases e : cap = k
                · exact ⟨_, if_pos e⟩
                · exact ⟨_, if_neg e⟩
              have hle0 := rwx.le
              have hmx0 := rwx.max
              unfold maxLen at hmx0
              have hkc : k ≤ cap := by omega
              have hi1 : 0 ≤ (k : Int) ∧ (k : Int) ≤ n ∧ (k : Int) ≤ cap := by omega
              refine wp_region_orders 13 rfl (by kernel_rfl) ?_
              have hBd : Below wx.heap.size wx wx.drew := (Below.refl _ _).drew
              have hB0 := next hBx hBd
              have rw0 := rwx.below hBd
              have y0 : wx.drew.cell? ⟨ge, 0, none⟩ = some (.int .i64 x) := yx
              have g0 : ge < wx.drew.heap.size := gx
              clear hBx rwx yx gx hBd
              generalize wx.drew = V0 at *
              have hI : (fun V : World => V.cell? ⟨ge, 0, none⟩ = some (.int .i64 x)) V0 := y0
              refine any_inv (fun V : World => V.cell? ⟨ge, 0, none⟩ = some (.int .i64 x)) [11] hI ?_
              refine inv_take (v := ?v35) [3, 11, 12] 0 hI rfl (by kernel_rfl) (by kernel_rfl) (by kernel_rfl) (by kernel_rfl) (by kernel_rfl) (fun _ _ _ h => h) (by kernel_rfl) (fun V hV => ?hy35) ?go35
              case hy35 => (have i1 := hV; go_simp <;> rfl)
              simp only [Act.put, List.setIfInBounds_toArray, List.set_cons_zero, List.set_cons_succ]
              refine inv_take (v := ?v36) [3, 11, 12] 1 hI rfl (by kernel_rfl) (by kernel_rfl) (by kernel_rfl) (by kernel_rfl) (by kernel_rfl) (fun _ _ _ h => h) (by kernel_rfl) (fun V hV => ?hy36) ?go36
              case hy36 => (have i1 := hV; go_simp <;> rfl)
              simp only [Act.put, List.setIfInBounds_toArray, List.set_cons_zero, List.set_cons_succ]
              refine inv_take (v := ?v37) [3, 11, 12] 2 hI rfl (by kernel_rfl) (by kernel_rfl) (by kernel_rfl) (by kernel_rfl) (by kernel_rfl) (fun _ _ _ h => h) (by kernel_rfl) (fun V hV => ?hy37) ?go37
              case hy37 => (have i1 := hV; go_simp <;> rfl)
              simp only [Act.put, List.setIfInBounds_toArray, List.set_cons_zero, List.set_cons_succ]
              refine inv_take (v := ?v38) [11, 12] 3 hI rfl (by kernel_rfl) (by kernel_rfl) (by kernel_rfl) (by kernel_rfl) (by kernel_rfl) (fun _ _ _ h => h) (by kernel_rfl) (fun V hV => ?hy38) ?go38
              case hy38 => (have i1 := hV; go_simp <;> rfl)
              simp only [Act.put, List.setIfInBounds_toArray, List.set_cons_zero, List.set_cons_succ]
              refine inv_take (v := ?v39) [5, 6, 10, 11, 12] 4 hI rfl (by kernel_rfl) (by kernel_rfl) (by kernel_rfl) (by kernel_rfl) (by kernel_rfl) (fun _ _ _ h => h) (by kernel_rfl) (fun V hV => ?hy39) ?go39
              case hy39 => (have i1 := hV; go_simp <;> rfl)
              simp only [Act.put, List.setIfInBounds_toArray, List.set_cons_zero, List.set_cons_succ]
              refine inv_take (v := ?v40) [6, 10, 11, 12] 5 hI rfl (by kernel_rfl) (by kernel_rfl) (by kernel_rfl) (by kernel_rfl) (by kernel_rfl) (fun _ _ _ h => h) (by kernel_rfl) (fun V hV => ?hy40) ?go40
              case hy40 => (have i1 := hV; go_simp <;> rfl)
              simp only [Act.put, List.setIfInBounds_toArray, List.set_cons_zero, List.set_cons_succ]
              refine inv_take (v := ?v41) [9, 10, 11, 12] 7 hI rfl (by kernel_rfl) (by kernel_rfl) (by kernel_rfl) (by kernel_rfl) (by kernel_rfl) (fun _ _ _ h => h) (by kernel_rfl) (fun V hV => ?hy41) ?go41
              case hy41 => (have i1 := hV; go_simp <;> rfl)
              simp only [Act.put, List.setIfInBounds_toArray, List.set_cons_zero, List.set_cons_succ]
              refine inv_take (v := ?v42) [9, 10, 11, 12] 8 hI rfl (by kernel_rfl) (by kernel_rfl) (by kernel_rfl) (by kernel_rfl) (by kernel_rfl) (fun _ _ _ h => h) (by kernel_rfl) (fun V hV => ?hy42) ?go42
              case hy42 => (have i1 := hV; go_simp <;> rfl)
              simp only [Act.put, List.setIfInBounds_toArray, List.set_cons_zero, List.set_cons_succ]
              refine inv_take (v := ?v43) [10, 11, 12] 9 hI rfl (by kernel_rfl) (by kernel_rfl) (by kernel_rfl) (by kernel_rfl) (by kernel_rfl) (fun _ _ _ h => h) (by kernel_rfl) (fun V hV => ?hy43) ?go43
              case hy43 => (have i1 := hV; go_simp <;> rfl)
              simp only [Act.put, List.setIfInBounds_toArray, List.set_cons_zero, List.set_cons_succ]
              refine inv_list 6 (by kernel_rfl) rfl ?_
              clear hI
              go_wp2_with fail
              have b4 : Below V0.heap.size V0 (V0.alloc (.cells #[.int .i64 x] 3)) := ba (Below.refl _ _)
              have hI : (fun V : World => V.cell? ⟨ge, 0, none⟩ = some (.int .i64 x)) (V0.alloc (.cells #[.int .i64 x] 3)) := (b4.cell (p := ⟨ge, 0, none⟩) g0).trans y0
              refine then_n ⟨hI, ?_⟩
              have r1 := rw_one V0 x 3
              obtain ⟨e0, hei, he0, he1, he2⟩ := info_parts Try.infoInt
              refine inv_list 10 (by kernel_rfl) rfl ?_
              refine wpList_append_slv (V0.alloc (.cells #[.int .i64 x] 3)) (fun j => V0.heap.size ≤ j) (by kernel_rfl) (.tmp 55) (.tmp 58) 22 rfl 3 e0 _ 1 8 Try.underlying22 hei he0 he1 he2 rfl (by decide) (some ⟨V0.heap.size, 0, none⟩) 1 1 (cells [x]) rfl r1 (some A0) (n - k) (cap - k) (cells (l.drop k)) rfl ((sl_rear (rw0.below b4) (by omega) hA)) (cells_one _) (by unfold maxLen; omega) (by omega) ?_
              intro a7 c7 w7 hrw7 hk7
              have hb7 := hk7.below (base := V0.heap.size) (fun j hj => hj) b4.size
              have hI7 : (fun V : World => V.cell? ⟨ge, 0, none⟩ = some (.int .i64 x)) w7 := (hb7.cell (p := ⟨ge, 0, none⟩) g0).trans hI
              refine then_n ⟨hI7, ?_⟩
              simp only [Act.put, List.setIfInBounds_toArray, List.set_cons_zero, List.set_cons_succ]
              refine inv_write 11 (by kernel_rfl) (by kernel_rfl) rfl ?_
              have rf7 : Rw w7 (fun j => w.heap.size ≤ j) (some ⟨b, o1, none⟩) k k 1 (cells (l.take k)) := by
                have hcut := rw0.cut (k := k) (by omega)
                exact (((hcut.imp (T := fun j => w.heap.size ≤ j ∧ j < V0.heap.size) (fun j hj h => ⟨h, hj⟩)).below b4).keep hk7 (fun j hj h => by omega)).imp (fun j hj h => h.1)
              refine wpList_append_slv w7 (fun j => w.heap.size ≤ j) (by kernel_rfl) (.tmp 52) (.tmp 59) 22 rfl 3 e0 _ 1 8 Try.underlying22 hei he0 he1 he2 rfl (by decide) (some ⟨b, o1, none⟩) k k (cells (l.take k)) rfl rf7 a7 _ c7 _ rfl hrw7.slv (fun u hu => cells_one ([x] ++ l.drop k) u (by simpa [cells] using hu)) (by unfold maxLen; omega) (by omega) ?_
              intro a8 c8 w8 hrw8 hk8
              have hb8 : Below w.heap.size w w8 := hk8.afterN (next hB0 (b4.trans (hb7.mono (Nat.le_refl _)))) (by have := hB0.size; have := hb7.size; have := b4.size; omega) (fun j hj => hj)
              have rw8 : Rw w8 (fun j => w.heap.size ≤ j) a8 (k + (1 + (n - k))) c8 1 (cells (putK _root_.id x l)) := by
                have e : cells (l.take k) ++ (cells [x] ++ cells (l.drop k)) = cells (putK _root_.id x l) := by rw [HKP.out]; simp [cells]
                rw [e] at hrw8
                have h1 := hB0.size
                have h2 := hb7.size
                have h3 := b4.size
                refine hrw8.imp (fun j hj h => ?_)
                rcases h with h | h
                · exact h
                · omega
              refine then_n ?_
              refine any_list 12 (by kernel_rfl) rfl ?_
              go_wp2_with fail
              refine then_n ?_
              refine any_done (by kernel_rfl) ?_
              clear hk8 hb7 b4 hk7 hrw7 hI hI7 y0 g0 r1
              go_wp2_with fail
              go_roundw
              case rel =>
                obtain ⟨b8, o8, ea, _, _, _⟩ := rwN_some rw8 (by omega)
                exact ⟨i + 1, _, a8, c8, _, rfl, by go_num, by omega, by omega, hb8, rw8, HTK, .inr ⟨b8, o8, ea, by omega⟩⟩
              case measure => simp [intOf]; omega
      · rw [if_neg ho] at HTK
        have hob : (ov != -1) = true := by simpa using ho
        clear ho
        go_wp2_with (go_at_call 20; refine (owner_any (H.out.below hB2) x).mono ?_; rintro e w3 ⟨rfl, b3⟩; rw [HOV.out])
        go_roundw
        case rel => exact ⟨i + 1, n, a, cap, l, rfl, by go_num, by omega, by omega, next hB2 b3, rw2.below b3, HTK, hsh⟩
        case measure => simp [intOf]; omega
    · go_wp2_with fail
      go_ret
      refine ⟨a, n, cap, rfl, ?_, hB⟩
      have e : q.take i = q := List.take_of_length_le (by have := HL.out; omega)
      have h1 := HF.out
      rw [e] at h1
      rw [show readyT o q = l from h1]
      exact rwl
theorem ready_any {w : World} {g t0 : Nat} {M N : Nat → Prop} {o : List (Int × Int)} {q : List Wr} {ao aq : Option Addr} {no co nq cq : Nat} (h : DT w g t0 M N o q ao no co aq nq cq) (hn : nq ≤ 1000) :
    Calls Try.prog 36 #[.pointer (some ⟨g, t0, none⟩)] w fun e w' => ∃ a n cap, e = .returned (.slice a n cap) ∧ Sl w' a n cap (readyT o q) ∧ Below w.heap.size w w' := by
  refine (ready_new h hn).mono ?_
  rintro e w' ⟨a, n, cap, h1, h2, h3⟩
  exact ⟨a, n, cap, h1, slv_cells h2.slv, h3⟩
end TR
end Go.Proofs.Ytgeiagndpfdnlaa
