/- The network of FabricOrder, as plain data: its pools beside plain lists, and what comes out of it. Conditions: as each theorem states them.
The contract of the document's own Same. Conditions: as stated.
append of a slice that can be read onto a row that may be written, whichever is empty; pieces of slices. Nothing of the program is named here.
What the walk of FabricOrder keeps. Conditions: as each theorem states them. -/
import Derived.Test.YtjdbjmfkheffdaaPart6
import Derived.Test.YtjdbjmfkheffdaaPart1
section
namespace Go.Proofs.Ytjdbjmfkheffdaa
open Go.RowKit
set_option linter.unusedVariables false
set_option maxRecDepth 20000

/-- A packet of the law: its kind, its sender, its number. -/
def ordPk (kind frm i : Int) : Pk := ⟨kind, frm, 2, i, 0, 0, 0, false, []⟩
/-- Lanes as rows; no queue has anything. -/
def laneF (P : Nat → List Pk) : Nat → List Pk := fun r => if r % 4 < 2 then P (2 * (r / 4) + r % 4) else []
theorem laneF_pr (P : Nat → List Pk) (q : Nat) : laneF P (pr q) = P q := by
  unfold laneF pr
  rw [if_pos (by omega)]
  congr 1
  omega
theorem laneF_in (P : Nat → List Pk) (q : Nat) : laneF P (pr q + 2) = [] := by
  unfold laneF pr
  rw [if_neg (by omega)]
theorem laneF_upd (P : Nat → List Pk) (q : Nat) (L : List Pk) : upd (laneF P) (pr q) L = laneF (upd P q L) := by
  funext r
  by_cases h : r = pr q
  · subst h; rw [upd_same, laneF_pr, upd_same]
  · rw [upd_other _ _ h]
    unfold laneF
    by_cases h2 : r % 4 < 2
    · rw [if_pos h2, if_pos h2, upd_other]
      intro e
      apply h
      unfold pr
      omega
    · rw [if_neg h2, if_neg h2]
theorem laneF_nil : (fun _ => []) = laneF (fun _ => []) := by funext r; unfold laneF; split <;> rfl
/-- Lists, one behind the other. -/
def joinL (P : Nat → List Pk) : Nat → List Pk
  | 0 => []
  | m + 1 => joinL P m ++ P m
theorem lane_join (P : Nat → List Pk) : ∀ m, laneL (laneF P) m = joinL P m
  | 0 => rfl
  | m + 1 => by rw [laneL_succ, lane_join P m, laneF_pr, joinL]
/-- What may stand in the lists. -/
def ordK (k : Nat) : Int := if k = 0 then 3 else 8
theorem ord_right {k : Nat} {frm i : Int} (f0 : 0 ≤ frm) (f1 : frm < 4) (i0 : 0 ≤ i) (i1 : i < 14) : (ordPk (ordK k) frm i).right = true := by
  refine (Pk.right_iff _).2 ⟨?_, ?_, ?_, ?_, ?_, ?_, ?_, ?_⟩
  · unfold ordPk ordK; simp only; split <;> omega
  · exact ⟨f0, by simp only [ordPk]; omega⟩
  · exact ⟨show (0 : Int) ≤ 2 by decide, show (2 : Int) ≤ 5 by decide⟩
  · exact ⟨i0, by simp only [ordPk]; omega⟩
  · exact ⟨show (0 : Int) ≤ 0 by decide, show (0 : Int) ≤ 7 by decide⟩
  · exact ⟨show (-1 : Int) ≤ 0 by decide, show (0 : Int) ≤ 5 by decide⟩
  · exact ⟨show (0 : Int) ≤ 0 by decide, show (0 : Int) ≤ 2 by decide⟩
  · exact Nat.zero_le _
theorem ord_sort {k : Nat} (hk : k < 2) (frm i : Int) : sortN (ordPk (ordK k) frm i) = k := by
  have h : k = 0 ∨ k = 1 := by omega
  rcases h with rfl | rfl <;> rfl
theorem ord_from {k : Nat} (hk : k < 2) (frm : Nat) (i : Int) : fromQ (ordPk (ordK k) (frm : Int) i) = 2 * frm + k := by
  unfold fromQ; rw [ord_sort hk]; simp [ordPk]
theorem ord_to {k : Nat} (hk : k < 2) (frm i : Int) : toQ (ordPk (ordK k) frm i) = 4 + k := by
  unfold toQ; rw [ord_sort hk]; rfl
theorem ord_send {P : Nat → List Pk} {k frm : Nat} {i : Int} (hk : k < 2) (hf : frm < 4) (i0 : 0 ≤ i) (i1 : i < 14) (hl : (P (2 * frm + k)).length < 3) : SendTo 4 3 (laneF P) (ordPk (ordK k) frm i) 0 (laneF (upd P (2 * frm + k) (P (2 * frm + k) ++ [ordPk (ordK k) frm i]))) := by
  have := SendTo.ok (nn := 4) (out := 3) (F := laneF P) (x := ordPk (ordK k) frm i) (ord_right (by omega) (by omega) i0 i1) (by simp only [ordPk]; omega) (by simp only [ordPk]; omega) (by rw [ord_from hk, laneF_pr]; omega)
  rw [ord_from hk, laneF_pr, laneF_upd] at this
  exact this
theorem ord_full {P : Nat → List Pk} {k frm : Nat} {i : Int} (hk : k < 2) (hf : frm < 4) (i0 : 0 ≤ i) (i1 : i < 14) (hl : (P (2 * frm + k)).length = 3) : SendTo 4 3 (laneF P) (ordPk (ordK k) frm i) 5 (laneF P) :=
  SendTo.full (ord_right (by omega) (by omega) i0 i1) (by simp only [ordPk]; omega) (by simp only [ordPk]; omega) (by rw [ord_from hk, laneF_pr]; omega)
/-- One is delivered: what is under way, and what waits. -/
theorem ord_del {F : Nat → List Pk} {A S : List Pk} {i : Nat} {x : Pk} {k : Nat} {frm id : Int} (hF : laneL F 8 = A.take (i + 1) ++ S) (hx : A[i]? = some x) (he : x = ordPk (ordK k) frm id) (hk : k < 2) (hl : ((F (pr (4 + k) + 2)).length : Int) < Rm 3 8 (pr (4 + k) + 2)) :
    ∃ F', DelTo 4 3 8 F i 0 0 0 F' ∧ laneL F' 8 = A.take i ++ S ∧ F' (pr (4 + k) + 2) = F (pr (4 + k) + 2) ++ [x] ∧ ∀ q, q ≠ 4 + k → F' (pr q + 2) = F (pr q + 2) := by
  have hi : i < A.length := (List.getElem?_eq_some_iff.1 hx).1
  have hlen : i < (laneL F 8).length := by rw [hF, List.length_append, List.length_take]; omega
  obtain ⟨q, j, y, hq, hy, ha⟩ := lane_at F 8 i hlen
  obtain ⟨h1, h2, h3⟩ := lane_found F hy 8 hq
  have hxy : y = x := by
    rw [← ha, hF, List.getElem?_append_left (by rw [List.length_take]; omega), List.getElem?_take_of_lt (by omega), hx] at h2
    exact (Option.some.inj h2).symm
  subst hxy
  have ht : toQ y = 4 + k := by rw [he]; exact ord_to hk frm id
  have hd := DelTo.ok (nn := 4) (out := 3) (inn := 8) (F := F) (a := i) (bit := 0) (mask := 0) q j y hq hy (by omega) (wire_zero _ _) (by rw [ht]; exact hl)
  rw [ht] at hd
  refine ⟨_, hd, ?_, ?_, fun r hr => ?_⟩
  · have e := lane_in F (F (pr (4 + k) + 2) ++ [y]) (4 + k)
    have hy' : (upd F (pr (4 + k) + 2) (F (pr (4 + k) + 2) ++ [y]) (pr q))[j]? = some y := by rw [upd_other _ _ pr_ne]; exact hy
    obtain ⟨_, _, g3⟩ := lane_found (upd F (pr (4 + k) + 2) (F (pr (4 + k) + 2) ++ [y])) hy' 8 hq
    rw [upd_other _ _ pr_ne, e, e, ← ha, hF] at g3
    rw [g3, List.eraseIdx_append_of_lt_length (by rw [List.length_take]; omega), List.take_succ_eq_append_getElem hi, List.eraseIdx_append_of_length_le (by rw [List.length_take]; omega), List.length_take, Nat.min_eq_left (by omega), Nat.sub_self]
    simp
  · rw [upd_other _ _ (fun e => pr_ne e.symm), upd_same]
  · rw [upd_other _ _ (fun e => pr_ne e.symm), upd_other _ _ (fun e => hr (pr_inj (by omega)))]
theorem ord_stay {F : Nat → List Pk} {A S : List Pk} {i : Nat} {x : Pk} {k : Nat} {frm id : Int} (hF : laneL F 8 = A.take (i + 1) ++ S) (hx : A[i]? = some x) (he : x = ordPk (ordK k) frm id) (hk : k < 2) (hl : ((F (pr (4 + k) + 2)).length : Int) = Rm 3 8 (pr (4 + k) + 2)) :
    DelTo 4 3 8 F i 0 0 5 F ∧ laneL F 8 = A.take i ++ (x :: S) := by
  have hi : i < A.length := (List.getElem?_eq_some_iff.1 hx).1
  have hlen : i < (laneL F 8).length := by rw [hF, List.length_append, List.length_take]; omega
  obtain ⟨q, j, y, hq, hy, ha⟩ := lane_at F 8 i hlen
  obtain ⟨h1, h2, h3⟩ := lane_found F hy 8 hq
  have hxy : y = x := by
    rw [← ha, hF, List.getElem?_append_left (by rw [List.length_take]; omega), List.getElem?_take_of_lt (by omega), hx] at h2
    exact (Option.some.inj h2).symm
  subst hxy
  have ht : toQ y = 4 + k := by rw [he]; exact ord_to hk frm id
  refine ⟨DelTo.full q j y hq hy (by omega) (wire_zero _ _) (by rw [ht]; exact hl), ?_⟩
  have e2 : A[i] = y := by rw [List.getElem?_eq_getElem hi] at hx; exact Option.some.inj hx
  rw [hF, List.take_succ_eq_append_getElem hi, e2, List.append_assoc]
  rfl
/-- One is taken by its receiver. -/
theorem ord_take {F : Nat → List Pk} {x : Pk} {L : List Pk} (h : F (pr 4 + 2) = x :: L) : TakeTo 4 F 2 true (some x) (upd F (pr 4 + 2) L) := TakeTo.some 2 x L (by decide) rfl h
theorem ord_none {F : Nat → List Pk} (h : F (pr 4 + 2) = []) : TakeTo 4 F 2 true none F := TakeTo.empty 2 (by decide) rfl h
end Go.Proofs.Ytjdbjmfkheffdaa
end
section
namespace Go.Proofs.Ytjdbjmfkheffdaa
open Go.RowKit
set_option linter.unusedVariables false
set_option maxRecDepth 20000

theorem sameP_f {x y : Pk} (h : (x.k != y.k) = true ∨ (x.f != y.f) = true ∨ (x.t != y.t) = true ∨ (x.i != y.i) = true ∨ (x.l != y.l) = true ∨ (x.p != y.p) = true ∨ (x.s != y.s) = true ∨ (x.fl != y.fl) = true ∨ ¬ x.z.length = y.z.length) : sameP x y = false :=
  decide_eq_false (fun ⟨h1, h2, h3, h4, h5, h6, h7, h8, h9⟩ => by simp [h1, h2, h3, h4, h5, h6, h7, h8, h9] at h)
theorem sameP_z {x y : Pk} (h1 : (x.k != y.k) = false) (h2 : (x.f != y.f) = false) (h3 : (x.t != y.t) = false) (h4 : (x.i != y.i) = false) (h5 : (x.l != y.l) = false) (h6 : (x.p != y.p) = false) (h7 : (x.s != y.s) = false) (h8 : (x.fl != y.fl) = false) : sameP x y = decide (x.z = y.z) := by
  simp only [bne_eq_false_iff_eq] at h1 h2 h3 h4 h5 h6 h7 h8
  unfold sameP; simp [h1, h2, h3, h4, h5, h6, h7, h8]

set_option maxHeartbeats 8000000 in
theorem refSame_any (x y : Pk) (a b : Option Addr) (n m c d : Nat) (w : World) (hx : Sl w a n c x.z) (hy : Sl w b m d y.z) :
    Calls Try.prog 18 #[x.val (.slice a n c), y.val (.slice b m d)] w fun e w' => e = .returned (.bool (sameP x y)) ∧ Below w.heap.size w w' := by
  have HL1 : Hid (x.z.length = n) := hx.len
  have HL2 : Hid (y.z.length = m) := hy.len
  have hmx := hx.max
  have hmy := hy.max
  have hlx := hx.le
  have hly := hy.le
  unfold maxLen at hmx hmy
  unfold Pk.val
  by_cases h0 : (x.k != y.k) = true
  · have HR : Hid (sameP x y = false) := sameP_f (.inl h0)
    clear hx hy
    skip
    go_enter Try.func18, Try.ntmps18
    go_wp2
    go_ret
    exact ⟨ret_bool HR.out.symm, ba (ba (Below.refl _ _))⟩
  replace h0 : (x.k != y.k) = false := by simpa using h0
  by_cases h1 : (x.f != y.f) = true
  · have HR : Hid (sameP x y = false) := sameP_f (.inr (.inl h1))
    clear hx hy
    skip
    go_enter Try.func18, Try.ntmps18
    go_wp2
    go_ret
    exact ⟨ret_bool HR.out.symm, ba (ba (Below.refl _ _))⟩
  replace h1 : (x.f != y.f) = false := by simpa using h1
  by_cases h2 : (x.t != y.t) = true
  · have HR : Hid (sameP x y = false) := sameP_f (.inr (.inr (.inl h2)))
    clear hx hy
    skip
    go_enter Try.func18, Try.ntmps18
    go_wp2
    go_ret
    exact ⟨ret_bool HR.out.symm, ba (ba (Below.refl _ _))⟩
  replace h2 : (x.t != y.t) = false := by simpa using h2
  by_cases h3 : (x.i != y.i) = true
  · have HR : Hid (sameP x y = false) := sameP_f (.inr (.inr (.inr (.inl h3))))
    clear hx hy
    skip
    go_enter Try.func18, Try.ntmps18
    go_wp2
    go_ret
    exact ⟨ret_bool HR.out.symm, ba (ba (Below.refl _ _))⟩
  replace h3 : (x.i != y.i) = false := by simpa using h3
  by_cases h4 : (x.l != y.l) = true
  · have HR : Hid (sameP x y = false) := sameP_f (.inr (.inr (.inr (.inr (.inl h4)))))
    clear hx hy
    skip
    go_enter Try.func18, Try.ntmps18
    go_wp2
    go_ret
    exact ⟨ret_bool HR.out.symm, ba (ba (Below.refl _ _))⟩
  replace h4 : (x.l != y.l) = false := by simpa using h4
  by_cases h5 : (x.p != y.p) = true
  · have HR : Hid (sameP x y = false) := sameP_f (.inr (.inr (.inr (.inr (.inr (.inl h5))))))
    clear hx hy
    skip
    go_enter Try.func18, Try.ntmps18
    go_wp2
    go_ret
    exact ⟨ret_bool HR.out.symm, ba (ba (Below.refl _ _))⟩
  replace h5 : (x.p != y.p) = false := by simpa using h5
  by_cases h6 : (x.s != y.s) = true
  · have HR : Hid (sameP x y = false) := sameP_f (.inr (.inr (.inr (.inr (.inr (.inr (.inl h6)))))))
    clear hx hy
    skip
    go_enter Try.func18, Try.ntmps18
    go_wp2
    go_ret
    exact ⟨ret_bool HR.out.symm, ba (ba (Below.refl _ _))⟩
  replace h6 : (x.s != y.s) = false := by simpa using h6
  by_cases h7 : (x.fl != y.fl) = true
  · have HR : Hid (sameP x y = false) := sameP_f (.inr (.inr (.inr (.inr (.inr (.inr (.inr (.inl h7))))))))
    clear hx hy
    have h7x : ¬ x.fl = y.fl := by revert h7; cases x.fl <;> cases y.fl <;> simp
    go_enter Try.func18, Try.ntmps18
    go_wp2
    go_ret
    exact ⟨ret_bool HR.out.symm, ba (ba (Below.refl _ _))⟩
  replace h7 : (x.fl != y.fl) = false := by simpa using h7
  have h7x : (x.fl == y.fl) = true := by revert h7; cases x.fl <;> cases y.fl <;> simp
  by_cases h8 : ((n : Int) != (m : Int)) = true
  · have HR : Hid (sameP x y = false) := sameP_f (.inr (.inr (.inr (.inr (.inr (.inr (.inr (.inr ((by have := HL1.out; have := HL2.out; simp at h8; omega))))))))))
    clear hx hy
    skip
    go_enter Try.func18, Try.ntmps18
    go_wp2
    go_ret
    exact ⟨ret_bool HR.out.symm, ba (ba (Below.refl _ _))⟩
  replace h8 : ((n : Int) != (m : Int)) = false := by simpa using h8
  have HR : Hid (sameP x y = decide (x.z = y.z)) := sameP_z h0 h1 h2 h3 h4 h5 h6 h7
  have HNM : Hid (n = m) := by show n = m; simp at h8; omega
  have hx2 := hx.below (ba (o := .cells #[.int .i64 y.k, .int .i64 y.f, .int .i64 y.t, .int .i64 y.i, .int .i64 y.l, .int .i64 y.p, .int .i64 y.s, .bool y.fl, .slice b m d] 26) (ba (o := .cells #[.int .i64 x.k, .int .i64 x.f, .int .i64 x.t, .int .i64 x.i, .int .i64 x.l, .int .i64 x.p, .int .i64 x.s, .bool x.fl, .slice a n c] 26) (Below.refl _ _)))
  have hy2 := hy.below (ba (o := .cells #[.int .i64 y.k, .int .i64 y.f, .int .i64 y.t, .int .i64 y.i, .int .i64 y.l, .int .i64 y.p, .int .i64 y.s, .bool y.fl, .slice b m d] 26) (ba (o := .cells #[.int .i64 x.k, .int .i64 x.f, .int .i64 x.t, .int .i64 x.i, .int .i64 x.l, .int .i64 x.p, .int .i64 x.s, .bool x.fl, .slice a n c] 26) (Below.refl _ _)))
  have bW := (ba (o := .cells #[.int .i64 y.k, .int .i64 y.f, .int .i64 y.t, .int .i64 y.i, .int .i64 y.l, .int .i64 y.p, .int .i64 y.s, .bool y.fl, .slice b m d] 26) (ba (o := .cells #[.int .i64 x.k, .int .i64 x.f, .int .i64 x.t, .int .i64 x.i, .int .i64 x.l, .int .i64 x.p, .int .i64 x.s, .bool x.fl, .slice a n c] 26) (Below.refl w.heap.size w)))
  have cp : ((w.alloc (.cells #[.int .i64 x.k, .int .i64 x.f, .int .i64 x.t, .int .i64 x.i, .int .i64 x.l, .int .i64 x.p, .int .i64 x.s, .bool x.fl, .slice a n c] 26)).alloc (.cells #[.int .i64 y.k, .int .i64 y.f, .int .i64 y.t, .int .i64 y.i, .int .i64 y.l, .int .i64 y.p, .int .i64 y.s, .bool y.fl, .slice b m d] 26)).cell? ⟨w.heap.size, 8, none⟩ = some (.slice a n c) := by simp
  have cq : ((w.alloc (.cells #[.int .i64 x.k, .int .i64 x.f, .int .i64 x.t, .int .i64 x.i, .int .i64 x.l, .int .i64 x.p, .int .i64 x.s, .bool x.fl, .slice a n c] 26)).alloc (.cells #[.int .i64 y.k, .int .i64 y.f, .int .i64 y.t, .int .i64 y.i, .int .i64 y.l, .int .i64 y.p, .int .i64 y.s, .bool y.fl, .slice b m d] 26)).cell? ⟨w.heap.size + 1, 8, none⟩ = some (.slice b m d) := by simp
  clear hx hy
  go_enter Try.func18, Try.ntmps18
  go_wp2
  generalize (w.alloc (.cells #[.int .i64 x.k, .int .i64 x.f, .int .i64 x.t, .int .i64 x.i, .int .i64 x.l, .int .i64 x.p, .int .i64 x.s, .bool x.fl, .slice a n c] 26)).alloc (.cells #[.int .i64 y.k, .int .i64 y.f, .int .i64 y.t, .int .i64 y.i, .int .i64 y.l, .int .i64 y.p, .int .i64 y.s, .bool y.fl, .slice b m d] 26) = W at *
  clear h0 h1 h2 h3 h4 h5 h6 h7 h8 h7x
  go_loopw [72] (fun i wr => ∃ k : Nat, k ≤ n ∧ i = .int .i64 k ∧ x.z.take k = y.z.take k ∧ ∃ j, wr = W.drewN j) (fun i _ => n - (intOf i).toNat)
  case atStart => exact ⟨0, by omega, rfl, rfl, 0, rfl⟩
  case round =>
    obtain ⟨k, hk, rfl, heq, j, rfl⟩ := hrel
    have HE : Hid (x.z.take k = y.z.take k) := heq
    clear heq
    by_cases hlt : k < n
    · have hlt2 : k < m := by have := HNM.out; omega
      obtain ⟨b1, o1, rfl, _, x1⟩ := hx2.at hlt
      obtain ⟨b2, o2, rfl, _, x2⟩ := hy2.at hlt2
      have g1 : k < x.z.length := by have := HL1.out; omega
      have g2 : k < y.z.length := by have := HL2.out; omega
      obtain ⟨e, he1⟩ : ∃ e, e = x.z[k]?.getD 0 := ⟨_, rfl⟩
      obtain ⟨f, hf1⟩ : ∃ f, f = y.z[k]?.getD 0 := ⟨_, rfl⟩
      rw [← he1] at x1
      rw [← hf1] at x2
      have HX : Hid (e = x.z[k]?.getD 0) := he1
      have HY : Hid (f = y.z[k]?.getD 0) := hf1
      clear he1 hf1
      by_cases hxy : e = f
      · have HXY : Hid (e = f) := hxy
        have hx' : (e != f) = false := by simp [hxy]
        clear hxy
        go_wp2_with fail
        go_quiet (fail)
        go_wp2
        go_roundw
        case rel => exact ⟨k + 1, by omega, by go_num, take_same HE.out (by rw [← HX.out, ← HY.out, HXY.out]) g1 g2, _, by first | rfl | exact World.drewN_drewN ..⟩
        case measure => simp [intOf]; omega
      · have HXY : Hid (¬ e = f) := hxy
        have hx' : (e != f) = true := by simpa using hxy
        clear hxy
        go_wp2_with fail
        go_quiet (fail)
        go_wp2
        go_ret
        exact ⟨ret_bool (by rw [HR.out]; exact (decide_eq_false (fun h => HXY.out (by rw [HX.out, HY.out, h]))).symm), by first | exact next bW (below_dn _ _) | exact next bW (next (below_dn _ _) (below_dn _ _))⟩
    · go_wp2
      go_ret
      refine ⟨ret_bool ?_, next bW (below_dn _ _)⟩
      have := HE.out
      rw [List.take_of_length_le (by have := HL1.out; omega), List.take_of_length_le (by have := HL2.out; have := HNM.out; omega)] at this
      rw [HR.out]
      exact (decide_eq_true this).symm
end Go.Proofs.Ytjdbjmfkheffdaa
end
section
namespace Go.Proofs.Ytjdbjmfkheffdaa
open Go.RowKit
set_option linter.unusedVariables false
set_option maxRecDepth 20000

theorem run_append_zero {P : Program} (w : World) (t ty e : TypeId) (i : TypeInfo) (ht : P.underlying t = some (.slice e)) (hi : P.info? e = some i) (a : Option Addr) (n cap : Nat) (hn : n ≤ cap) (b : Option Addr) (c : Nat) :
    (Builtin.append_ #[t, t] ty #[.slice a n cap, .slice b 0 c]).run P w = .ok (.slice a n cap) w := by
  have hf : (Builtin.firstCells i.size 0 (.slice b 0 c)).run P w = .ok #[] w := by
    cases b with
    | none => simp [Builtin.firstCells]
    | some x => exact run_firstCells_some (P := P) w i.size 0 x 0 c [] (by simp) (by simp)
  cases a with
  | none => simp [Builtin.append_, run_underlying ht, sizeOf, typeInfo, hi, Builtin.lenOf, hn, hf]
  | some x => simp [Builtin.append_, run_underlying ht, sizeOf, typeInfo, hi, Builtin.lenOf, hn, hf, storeCells]
theorem run_append_slv {P : Program} (w : World) (S : Nat → Prop) (t ty e : TypeId) (i : TypeInfo) (z : Value) (size bytes : Nat) (ht : P.underlying t = some (.slice e)) (hi : P.info? e = some i) (hz : i.zero = some z)
    (hsize : i.size = size) (hby : i.bytes = bytes) (hzs : z.cells.size = size) (hsz : 0 < size)
    (a : Option Addr) (n cap : Nat) (vs : List Value) (hr : Rw w S a n cap size vs)
    (b : Option Addr) (m c : Nat) (news : List Value) (hs : SlV w b m c size news) (h1 : ∀ u ∈ news, u.oneCell' = true)
    (h63 : n + m ≤ maxLen) (hbytes : (n + m) * bytes ≤ 140737488355328) :
    ∃ a' cap' w', (Builtin.append_ #[t, t] ty #[.slice a n cap, .slice b m c]).run P w = .ok (.slice a' (n + m) cap') w' ∧
      Rw w' (fun k => S k ∨ w.heap.size ≤ k) a' (n + m) cap' size (vs ++ news) ∧ Keep S w w' := by
  have hl := hs.len
  by_cases hm : m = 0
  · subst hm
    obtain rfl : news = [] := List.eq_nil_of_length_eq_zero (by simpa using hl)
    refine ⟨a, cap, w, run_append_zero w t ty e i ht hi a n cap hr.le b c, ?_, Keep.refl _ _⟩
    rw [List.append_nil]
    exact hr.imp (fun k _ h => .inl h)
  · have hpos : 0 < m * size := Nat.mul_pos (by omega) hsz
    rcases hs.row with h0 | ⟨blk, o, rfl, hc⟩
    · rw [h0] at hl; simp at hl; omega
    · exact run_append_rw w S t ty e i z size bytes ht hi hz hsize hby hzs hsz a n cap vs hr ⟨blk, o, none⟩ m c news (by omega) hl (fun j u hu => by rw [Addr.add_lit]; exact hc j u hu) h1 h63 hbytes
theorem wpList_append_slv {P : Program} (w : World) {ops : Array Oper} {rest : List Oper} {o : Oper} {act : Act} {Q : Exit → Act → World → Prop} (S : Nat → Prop)
    (hw : Region.wanted o (yielded ops act.tmps) = true) (s x : Operand) (t : TypeId) (hop : o.op = Op.call { callee := Callee.builtin Builtin.append, args := #[s, x], argTypes := #[t, t] })
    (e : TypeId) (i : TypeInfo) (z : Value) (size bytes : Nat) (ht : P.underlying t = some (.slice e)) (hi : P.info? e = some i) (hz : i.zero = some z)
    (hsize : i.size = size) (hby : i.bytes = bytes) (hzs : z.cells.size = size) (hsz : 0 < size)
    (a : Option Addr) (n cap : Nat) (vs : List Value) (hs : act.eval s = .slice a n cap) (hr : Rw w S a n cap size vs)
    (b : Option Addr) (m c : Nat) (news : List Value) (hx : act.eval x = .slice b m c) (hsv : SlV w b m c size news) (h1 : ∀ u ∈ news, u.oneCell' = true)
    (h63 : n + m ≤ maxLen) (hbytes : (n + m) * bytes ≤ 140737488355328)
    (hK : ∀ a' cap' w', Rw w' (fun k => S k ∨ w.heap.size ≤ k) a' (n + m) cap' size (vs ++ news) → Keep S w w' → wpList P ops Q rest (act.put o.dst (.slice a' (n + m) cap')) w') :
    wpList P ops Q (o :: rest) act w := by
  unfold wpList
  rw [if_pos hw]
  left
  obtain ⟨a', cap', w', hrun, r1, r2⟩ := run_append_slv (P := P) w S t o.type e i z size bytes ht hi hz hsize hby hzs hsz a n cap vs hr b m c news hsv h1 h63 hbytes
  unfold Oper.wp
  simp [execOp, hop, resolve, invoke, builtin, hs, hx, hrun, Result.andThen]
  exact hK a' cap' w' r1 r2
/-- One operation of a region in its order, by its run. -/
theorem list_take {P : Program} {ops : Array Oper} {rest : List Oper} {o : Oper} {a : Act} {w : World} {Q : Exit → Act → World → Prop} (v : Value) (w' : World) (hw : Region.wanted o (yielded ops a.tmps) = true)
    (hrun : (execOp a.eval o).run P w = .ok (.value v) w') (h : wpList P ops Q rest (a.put o.dst v) w') : wpList P ops Q (o :: rest) a w := by
  unfold wpList
  rw [if_pos hw]
  left
  unfold Oper.wp
  rw [hrun]
  exact h
theorem SlV.front {w : World} {a : Option Addr} {n cap es : Nat} {vs : List Value} (h : SlV w a n cap es vs) {k : Nat} (hk : k ≤ n) : SlV w a k cap es (vs.take (k * es)) := by
  have hl := h.len
  have hm : k * es ≤ n * es := Nat.mul_le_mul_right _ hk
  refine ⟨by rw [List.length_take]; omega, Nat.le_trans hk h.le, h.max, h.nil, ?_⟩
  rcases h.row with h0 | ⟨b, o, e, hc⟩
  · exact .inl (by rw [h0]; simp)
  · refine .inr ⟨b, o, e, fun i u hu => hc i u ?_⟩
    rw [List.getElem?_take] at hu
    split at hu
    · exact hu
    · cases hu
theorem SlV.rear {w : World} {b o n cap es : Nat} {vs : List Value} (h : SlV w (some ⟨b, o, none⟩) n cap es vs) {k : Nat} (hk : k ≤ n) {A : Addr} (hA : (if cap = k then some (⟨b, o, none⟩ : Addr) else some ⟨b, o + k * es, none⟩) = some A) : SlV w (some A) (n - k) (cap - k) es (vs.drop (k * es)) := by
  have hl := h.len
  have hle := h.le
  have hm : (n - k) * es = n * es - k * es := Nat.sub_mul _ _ _
  have hmx := h.max
  refine ⟨by rw [List.length_drop]; omega, by omega, by omega, fun h => (by cases h), ?_⟩
  by_cases hc : cap = k
  · left
    apply List.eq_nil_of_length_eq_zero
    rw [List.length_drop]
    have : n = k := by omega
    subst this
    omega
  · rw [if_neg hc] at hA
    obtain rfl := Option.some.inj hA
    rcases h.row with h0 | ⟨b', o', e, hcc⟩
    · exact .inl (by rw [h0]; simp)
    · simp at e
      obtain ⟨rfl, rfl⟩ := e
      refine .inr ⟨b, o + k * es, rfl, fun i u hu => ?_⟩
      rw [List.getElem?_drop] at hu
      rw [Nat.add_assoc]
      exact hcc _ u hu
/-- The two pieces, one behind the other, in new memory: one element is left out. -/
theorem slv_cells {w : World} {a : Option Addr} {n cap : Nat} {z : List Int} : SlV w a n cap 1 (cells z) → Sl w a n cap z := by
  intro h
  have hl := h.len
  refine ⟨by simpa [cells] using hl, h.le, h.max, h.nil, ?_⟩
  rcases h.row with h0 | ⟨b, o, e, hc⟩
  · exact .inl (by simpa [cells] using h0)
  · exact .inr ⟨b, o, e, fun i hi => hc i _ (by simp [cells, hi])⟩
theorem cells_slv {w : World} {a : Option Addr} {n cap : Nat} {z : List Int} (h : Sl w a n cap z) : SlV w a n cap 1 (cells z) := by
  have hl := h.len
  refine ⟨by simpa [cells] using hl, h.le, h.max, h.nil, ?_⟩
  rcases h.row with h0 | ⟨b, o, e, hc⟩
  · exact .inl (by simp [cells, h0])
  · refine .inr ⟨b, o, e, fun i u hu => ?_⟩
    obtain ⟨hi, rfl⟩ := cells_get hu
    exact hc i hi
end Go.Proofs.Ytjdbjmfkheffdaa
end
section
namespace Go.Proofs.Ytjdbjmfkheffdaa
open Go.RowKit
set_option linter.unusedVariables false
set_option maxRecDepth 20000

/-- Sending: the plain lists, the network. -/
structure OL (w V : World) (gf gs : Nat) (P : Nat → List Pk) (M : Nat → Nat → Prop) : Prop where
  net : Net V gs 8 P M noM
  on : On w V gf 4 3 8 (laneF P) (fun k => k = gs ∨ ∃ q, q < 8 ∧ M q k)
  good : ∀ q, q < 8 → ∀ x ∈ P q, ∃ i : Int, 0 ≤ i ∧ i < 14 ∧ x = ordPk (ordK (q % 2)) ((q / 2 : Nat) : Int) i
  len : ∀ q, q < 8 → (P q).length ≤ 3
  ge : w.heap.size ≤ gs
  lo : ∀ q, q < 8 → ∀ k, M q k → w.heap.size ≤ k
theorem OL.below {w V V' : World} {gf gs : Nat} {P : Nat → List Pk} {M : Nat → Nat → Prop} (h : OL w V gf gs P M) (hb : Below V.heap.size V V') : OL w V' gf gs P M :=
  ⟨h.net.below hb, h.on.below hb, h.good, h.len, h.ge, h.lo⟩
theorem net_nil (w : World) (z : TypeId) : Net (w.alloc (.cells #[.slice none 0 0, .slice none 0 0, .slice none 0 0, .slice none 0 0, .slice none 0 0, .slice none 0 0, .slice none 0 0, .slice none 0 0] z)) w.heap.size 8 (fun _ => []) (fun _ => noM) noM := by
  refine ⟨fun q hq => ⟨[], none, 0, ?_, prow_nil _ _⟩, fun o => by simp, by simp, fun _ _ _ _ _ _ h => h.elim, fun _ _ h => h, fun h => h⟩
  match q, hq with
  | 0, _ | 1, _ | 2, _ | 3, _ | 4, _ | 5, _ | 6, _ | 7, _ => simp
theorem on_weak {w V : World} {gf nn : Nat} {out inn : Int} {F : Nat → List Pk} {X X' : Nat → Prop} (h : On w V gf nn out inn F X) (hX : ∀ k, X' k → X k) : On w V gf nn out inn F X' := by
  obtain ⟨B, hf, hB, hb, hx⟩ := h
  exact ⟨B, hf, fun k hk => ⟨(hB k hk).1, fun h => (hB k hk).2 (hX k h)⟩, hb, fun k hk => hx k (hX k hk)⟩
theorem noM_two : (fun k => noM k ∨ noM k) = noM := by funext k; simp [noM]
/-- One packet is sent; the plain lists are as they were. -/
structure OM (w V : World) (gf gs gp : Nat) (P P1 : Nat → List Pk) (M : Nat → Nat → Prop) (x : Pk) : Prop where
  net : Net V gs 8 P M noM
  on : On w V gf 4 3 8 (laneF P1) (fun k => k = gp ∨ k = gs ∨ ∃ q, q < 8 ∧ M q k)
  bx : Bx V gp x (.slice none 0 0)
theorem OM.below {w V V' : World} {gf gs gp : Nat} {P P1 : Nat → List Pk} {M : Nat → Nat → Prop} {x : Pk} (h : OM w V gf gs gp P P1 M x) (hb : Below V.heap.size V V') : OM w V' gf gs gp P P1 M x := ⟨h.net.below hb, h.on.below hb, h.bx.next hb⟩
theorem OM.step {w V V' : World} {gf gs gp : Nat} {P P1 P2 : Nat → List Pk} {M : Nat → Nat → Prop} {x : Pk} (h : OM w V gf gs gp P P1 M x) (ho : On w V' gf 4 3 8 (laneF P2) (fun k => k = gp ∨ k = gs ∨ ∃ q, q < 8 ∧ M q k)) (hk : Keep (fun k => ¬ (k = gp ∨ k = gs ∨ ∃ q, q < 8 ∧ M q k)) V V') : OM w V' gf gs gp P P2 M x :=
  ⟨h.net.keep hk (fun h => h (.inr (.inl rfl))) (fun q k hq hm h => h (.inr (.inr ⟨q, hq, hm⟩))) (fun k h => h.elim), ho, h.bx.keep hk (fun h => h (.inl rfl))⟩
theorem OL.open {w V : World} {gf gs : Nat} {P : Nat → List Pk} {M : Nat → Nat → Prop} (h : OL w V gf gs P M) (x : Pk) : OM w (V.alloc (.cells #[.int .i64 x.k, .int .i64 x.f, .int .i64 x.t, .int .i64 x.i, .int .i64 x.l, .int .i64 x.p, .int .i64 x.s, .bool x.fl, .slice none 0 0] 26)) gf gs V.heap.size P P M x :=
  ⟨h.net.below (ba (Below.refl _ _)), h.on.more (ba (Below.refl _ _)) (fun k hk => by
    rcases hk with rfl | hk
    · exact .inr (by simp)
    · exact .inl hk), Bx.made V x _⟩
/-- All that was sent, one behind the other, beside the network. -/
structure OA (w V : World) (gf gs : Nat) (P : Nat → List Pk) (M : Nat → Nat → Prop) (MA : Nat → Prop) (L : List Pk) (R : List (Pk × Value)) (a : Option Addr) (cap : Nat) : Prop where
  net : Net V gs 8 P M noM
  on : On w V gf 4 3 8 (laneF P) (fun k => (k = gs ∨ ∃ q, q < 8 ∧ M q k) ∨ MA k)
  row : PRow V MA noM L R a L.length cap
  good : ∀ q, q < 8 → ∀ x ∈ P q, ∃ i : Int, 0 ≤ i ∧ i < 14 ∧ x = ordPk (ordK (q % 2)) ((q / 2 : Nat) : Int) i
  len : ∀ q, q < 8 → (P q).length ≤ 3
  dj : ∀ k, MA k → ¬ (k = gs ∨ ∃ q, q < 8 ∧ M q k)
  lo : ∀ k, MA k → w.heap.size ≤ k
theorem OL.all {w V : World} {gf gs : Nat} {P : Nat → List Pk} {M : Nat → Nat → Prop} (h : OL w V gf gs P M) : OA w V gf gs P M noM [] [] none 0 :=
  ⟨h.net, on_weak h.on (fun k e => e.elim id (fun e => e.elim)), prow_nil _ _, h.good, h.len, fun k e => e.elim, fun k e => e.elim⟩
theorem OA.below {w V V' : World} {gf gs : Nat} {P : Nat → List Pk} {M : Nat → Nat → Prop} {MA : Nat → Prop} {L : List Pk} {R : List (Pk × Value)} {a : Option Addr} {cap : Nat} (h : OA w V gf gs P M MA L R a cap) (hb : Below V.heap.size V V') : OA w V' gf gs P M MA L R a cap :=
  ⟨h.net.below hb, h.on.below hb, h.row.below hb, h.good, h.len, h.dj, h.lo⟩
theorem pflat_ones {R : List (Pk × Value)} (h : ∀ r ∈ R, r.2.oneCell' = true) : ∀ u ∈ pflat R, u.oneCell' = true := by
  intro u hu
  unfold pflat at hu
  obtain ⟨r, hr, hu⟩ := List.mem_flatMap.1 hu
  exact pcells_one (h r hr) u hu
/-- One of the plain lists is put behind all. -/
theorem wpList_append_oa {w V : World} {gf gs : Nat} {P : Nat → List Pk} {M : Nat → Nat → Prop} {MA : Nat → Prop} {L : List Pk} {R : List (Pk × Value)} {a : Option Addr} {cap : Nat} (h : OA w V gf gs P M MA L R a cap) {q : Nat} (hq : q < 8) {R2 : List (Pk × Value)} {b : Option Addr} {c : Nat} (hp : PRow V (M q) noM (P q) R2 b (P q).length c) (hl : L.length ≤ 24)
    {ops : Array Oper} {rest : List Oper} {o : Oper} {act : Act} {Q : Exit → Act → World → Prop} (hw : Region.wanted o (yielded ops act.tmps) = true) (s x : Operand) (hop : o.op = Op.call { callee := Callee.builtin Builtin.append, args := #[s, x], argTypes := #[53, 53] })
    (hs : act.eval s = .slice a L.length cap) (hx : act.eval x = .slice b (P q).length c)
    (hK : ∀ a' cap' w' MA', OA w w' gf gs P M MA' (L ++ P q) (R ++ R2) a' cap' → Keep MA V w' → wpList Try.prog ops Q rest (act.put o.dst (.slice a' (L.length + (P q).length) cap')) w') :
    wpList Try.prog ops Q (o :: rest) act V := by
  obtain ⟨f0, hi, hp0, hp1, hp2⟩ := info_parts Try.infoPk
  have h3 := h.len q hq
  refine wpList_append_slv V MA hw s x 53 hop 26 f0 (zeroPk.val (.slice none 0 0)) 9 88 Try.underlying53 hi hp0 hp1 hp2 rfl (by decide) a L.length cap (pflat R) hs h.row.row b (P q).length c (pflat R2) hx hp.row.slv (pflat_ones fun r hr => (hp.dat r hr).one) (by unfold maxLen; omega) (by omega) ?_
  intro a' cap' w' hrw hk
  have hz := hk.size
  refine hK a' cap' w' (fun k => MA k ∨ (V.heap.size ≤ k ∧ k < w'.heap.size)) ⟨?_, ?_, ?_, h.good, h.len, ?_, ?_⟩ hk
  · exact h.net.keep hk (fun e => h.dj gs e (.inl rfl)) (fun q k hq hm e => h.dj k e (.inr ⟨q, hq, hm⟩)) (fun k e => e.elim)
  · refine h.on.turn hk (fun k e => .inl (.inr e)) (fun k e => h.lo k e) (fun k e => ?_) (fun k e => ?_)
    · rcases e with e | e | e
      · exact .inl (.inl e)
      · exact .inl (.inr e)
      · exact .inr e.1
    · rcases e with e | e | e
      · exact Nat.lt_of_lt_of_le (h.on.xlt k (.inl e)) hz
      · exact Nat.lt_of_lt_of_le (h.on.xlt k (.inr e)) hz
      · exact e.2
  · refine ⟨by rw [List.map_append, h.row.eq, hp.eq], by rw [List.length_append], ?_, ?_, ?_, fun k _ e => e⟩
    · rw [pflat_append, List.length_append]
      exact hrw.imp (fun k hk e => e.imp id (fun e => ⟨e, hk⟩))
    · intro r hr
      rcases List.mem_append.1 hr with hr | hr
      · exact (h.row.dat r hr).keep hk (fun k e => e.elim)
      · exact (hp.dat r hr).keep hk (fun k e => e.elim)
    · intro k e
      rcases e with e | e
      · exact Nat.lt_of_lt_of_le (h.row.old k e) hz
      · exact e.2
  · intro k e e2
    rcases e with e | e
    · exact h.dj k e e2
    · have := h.on.xlt k (.inl e2); omega
  · intro k e
    rcases e with e | e
    · exact h.lo k e
    · have := h.on.bel.size; omega
theorem join_len {P : Nat → List Pk} (h : ∀ q, q < 8 → (P q).length ≤ 3) {m : Nat} : m ≤ 8 → (joinL P m).length ≤ 3 * m := by
  induction m with
  | zero => intro _; exact Nat.le_refl _
  | succ m ih =>
    intro hm
    have h1 := ih (by omega)
    have h2 := h m (by omega)
    rw [joinL, List.length_append]; omega
theorem mem_join {P : Nat → List Pk} {x : Pk} : ∀ {m : Nat}, x ∈ joinL P m → ∃ q, q < m ∧ x ∈ P q
  | 0, h => by cases h
  | m + 1, h => by
    rcases List.mem_append.1 h with h | h
    · obtain ⟨q, hq, hx⟩ := mem_join h
      exact ⟨q, by omega, hx⟩
    · exact ⟨m, by omega, h⟩
/-- What is left to deliver, what has come: plain data. -/
structure Left (A : List Pk) (j : Nat) (F : Nat → List Pk) (RQ : List Pk) (ac : Nat) : Prop where
  under : ∃ S, laneL F 8 = A.take j ++ S
  req : F (pr 4 + 2) = RQ
  ans : (ac = 0 ∧ (F (pr 5 + 2)).length = 0) ∨ (1 ≤ ac ∧ (F (pr 5 + 2)).length = 1)
  le : RQ.length ≤ 8
section
variable {A : List Pk} {j : Nat} {F : Nat → List Pk} {RQ : List Pk} {ac : Nat} {x : Pk} {frm id : Int}
theorem left_ans0 (h : Left A (j + 1) F RQ 0) (hx : A[j]? = some x) (he : x = ordPk (ordK 1) frm id) : ∃ F', DelTo 4 3 8 F j 0 0 0 F' ∧ Left A j F' RQ 1 := by
  obtain ⟨S, hS⟩ := h.under
  have hl : (F (pr (4 + 1) + 2)).length = 0 := by rcases h.ans with h | h; exact h.2; omega
  obtain ⟨F', h1, h2, h3, h4⟩ := ord_del hS hx he (by omega) (by rw [hl]; decide)
  refine ⟨F', h1, ⟨S, h2⟩, by rw [h4 4 (by omega)]; exact h.req, .inr ⟨by omega, ?_⟩, h.le⟩
  rw [h3, List.length_append, hl]; rfl
theorem left_ans1 (h : Left A (j + 1) F RQ ac) (ha : 1 ≤ ac) (hx : A[j]? = some x) (he : x = ordPk (ordK 1) frm id) : DelTo 4 3 8 F j 0 0 5 F ∧ Left A j F RQ (ac + 1) := by
  obtain ⟨S, hS⟩ := h.under
  have hl : (F (pr (4 + 1) + 2)).length = 1 := by rcases h.ans with h | h; omega; exact h.2
  obtain ⟨h1, h2⟩ := ord_stay hS hx he (by omega) (by rw [hl]; decide)
  exact ⟨h1, ⟨_, h2⟩, h.req, .inr ⟨by omega, hl⟩, h.le⟩
theorem left_req8 (h : Left A (j + 1) F RQ ac) (h8 : RQ.length = 8) (hx : A[j]? = some x) (he : x = ordPk (ordK 0) frm id) : DelTo 4 3 8 F j 0 0 5 F ∧ Left A j F RQ ac := by
  obtain ⟨S, hS⟩ := h.under
  have hl : (F (pr (4 + 0) + 2)).length = 8 := by have := h.req; rw [show 4 + 0 = 4 from rfl, this]; exact h8
  obtain ⟨h1, h2⟩ := ord_stay hS hx he (by omega) (by rw [hl]; decide)
  exact ⟨h1, ⟨_, h2⟩, h.req, h.ans, h.le⟩
theorem left_req (h : Left A (j + 1) F RQ ac) (h8 : RQ.length < 8) (hx : A[j]? = some x) (he : x = ordPk (ordK 0) frm id) : ∃ F', DelTo 4 3 8 F j 0 0 0 F' ∧ Left A j F' (RQ ++ [x]) ac := by
  obtain ⟨S, hS⟩ := h.under
  have hl : F (pr (4 + 0) + 2) = RQ := h.req
  obtain ⟨F', h1, h2, h3, h4⟩ := ord_del hS hx he (by omega) (by rw [hl, show Rm 3 8 (pr (4 + 0) + 2) = 8 by decide]; omega)
  refine ⟨F', h1, ⟨S, h2⟩, by rw [← hl]; exact h3, ?_, by rw [List.length_append]; simp; omega⟩
  rw [h4 5 (by omega)]; exact h.ans
end
/-- Delivering: all, what has come of it, the network. -/
structure OD (w V : World) (gf : Nat) (A : List Pk) (MA : Nat → Prop) (RA : List (Pk × Value)) (aA : Option Addr) (cA : Nat) (RQ : List Pk) (MR : Nat → Prop) (RR : List (Pk × Value)) (aR : Option Addr) (cR : Nat) (F : Nat → List Pk) : Prop where
  on : On w V gf 4 3 8 F (fun k => MA k ∨ MR k)
  row : PRow V MA noM A RA aA A.length cA
  req : PRow V MR noM RQ RR aR RQ.length cR
  dj : ∀ k, MA k → ¬ MR k
  lo : ∀ k, MR k → w.heap.size ≤ k
section
variable {w V V' : World} {gf : Nat} {A : List Pk} {MA : Nat → Prop} {RA : List (Pk × Value)} {aA : Option Addr} {cA : Nat} {RQ : List Pk} {MR : Nat → Prop} {RR : List (Pk × Value)} {aR : Option Addr} {cR : Nat} {F F' : Nat → List Pk}
theorem OD.below (h : OD w V gf A MA RA aA cA RQ MR RR aR cR F) (hb : Below V.heap.size V V') : OD w V' gf A MA RA aA cA RQ MR RR aR cR F :=
  ⟨h.on.below hb, h.row.below hb, h.req.below hb, h.dj, h.lo⟩
theorem OD.step (h : OD w V gf A MA RA aA cA RQ MR RR aR cR F) (ho : On w V' gf 4 3 8 F' (fun k => MA k ∨ MR k)) (hk : Keep (fun k => ¬ (MA k ∨ MR k)) V V') : OD w V' gf A MA RA aA cA RQ MR RR aR cR F' :=
  ⟨ho, h.row.keep hk (fun k e h => e.elim (fun e => h (.inl e)) (fun e => e)), h.req.keep hk (fun k e h => e.elim (fun e => h (.inr e)) (fun e => e)), h.dj, h.lo⟩
theorem OD.snoc (h : OD w V gf A MA RA aA cA RQ MR RR aR cR F) {x : Pk} {d : Value} (hd : Dat V noM x d) {a' : Option Addr} {c' : Nat} (hr : Rw V' (fun k => MR k ∨ V.heap.size ≤ k) a' (RQ.length + 1) c' 9 (pflat RR ++ pcells x d)) (hk : Keep MR V V') :
    OD w V' gf A MA RA aA cA (RQ ++ [x]) (fun k => MR k ∨ (V.heap.size ≤ k ∧ k < V'.heap.size)) (RR ++ [(x, d)]) a' c' F := by
  have hs := h.req.snoc (E := noM) hd (fun k h => h.elim) (fun k h => h.elim) (fun k h => h.elim) hr hk
  rw [noM_two] at hs
  have hz := hk.size
  refine ⟨?_, h.row.keep hk (fun k e hm => e.elim (fun e => h.dj k e hm) (fun e => e)), ?_, fun k e1 e2 => ?_, fun k e => ?_⟩
  · refine h.on.turn hk (fun k e => .inl (.inr e)) (fun k e => h.lo k e) (fun k e => ?_) (fun k e => ?_)
    · rcases e with e | e | e
      · exact .inl (.inl e)
      · exact .inl (.inr e)
      · exact .inr e.1
    · rcases e with e | e | e
      · exact Nat.lt_of_lt_of_le (h.on.xlt k (.inl e)) hz
      · exact Nat.lt_of_lt_of_le (h.on.xlt k (.inr e)) hz
      · exact e.2
  · rw [List.length_append]; exact hs
  · rcases e2 with e2 | e2
    · exact h.dj k e1 e2
    · have := h.on.xlt k (.inl e1); omega
  · rcases e with e | e
    · exact h.lo k e
    · have := h.on.bel.size; omega
theorem OA.del {gs : Nat} {P : Nat → List Pk} {M : Nat → Nat → Prop} (h : OA w V gf gs P M MA A RA aA cA) : OD w V gf A MA RA aA cA [] noM [] none 0 (laneF P) :=
  ⟨on_weak h.on (fun k e => e.elim .inr (fun e => e.elim)), h.row, prow_nil _ _, fun k _ e => e, fun k e => e.elim⟩
end
/-- Taking: what has come, the network. -/
structure OE (w V : World) (gf : Nat) (RQ : List Pk) (MR : Nat → Prop) (RR : List (Pk × Value)) (aR : Option Addr) (cR : Nat) (F : Nat → List Pk) : Prop where
  on : On w V gf 4 3 8 F MR
  row : PRow V MR noM RQ RR aR RQ.length cR
section
variable {w V V' : World} {gf : Nat} {A : List Pk} {MA : Nat → Prop} {RA : List (Pk × Value)} {aA : Option Addr} {cA : Nat} {RQ : List Pk} {MR : Nat → Prop} {RR : List (Pk × Value)} {aR : Option Addr} {cR : Nat} {F F' : Nat → List Pk}
theorem OD.take (h : OD w V gf A MA RA aA cA RQ MR RR aR cR F) : OE w V gf RQ MR RR aR cR F := ⟨on_weak h.on (fun k e => .inr e), h.req⟩
theorem OE.below (h : OE w V gf RQ MR RR aR cR F) (hb : Below V.heap.size V V') : OE w V' gf RQ MR RR aR cR F := ⟨h.on.below hb, h.row.below hb⟩
theorem OE.open (h : OE w V gf RQ MR RR aR cR F) (x : Pk) (d : Value) : On w (V.alloc (.cells #[.int .i64 x.k, .int .i64 x.f, .int .i64 x.t, .int .i64 x.i, .int .i64 x.l, .int .i64 x.p, .int .i64 x.s, .bool x.fl, d] 26)) gf 4 3 8 F (fun k => k = V.heap.size ∨ MR k) :=
  h.on.more (ba (Below.refl _ _)) (fun k hk => by
    rcases hk with rfl | hk
    · exact .inr (by simp)
    · exact .inl hk)
theorem OE.step {gp : Nat} (h : OE w V gf RQ MR RR aR cR F) (ho : On w V' gf 4 3 8 F' (fun k => k = gp ∨ MR k)) (hk : Keep (fun k => ¬ (k = gp ∨ MR k)) V V') : OE w V' gf RQ MR RR aR cR F' :=
  ⟨on_weak ho (fun k e => .inr e), h.row.keep hk (fun k e h => e.elim (fun e => h (.inr e)) (fun e => e))⟩
end
theorem drop_at {L : List Pk} {j : Nat} {x : Pk} (h : L[j]? = some x) : L.drop j = x :: L.drop (j + 1) := by
  obtain ⟨h, e⟩ := List.getElem?_eq_some_iff.1 h
  rw [List.drop_eq_getElem_cons h, e]
end Go.Proofs.Ytjdbjmfkheffdaa
end
