/- The document's cache: Drop. Conditions: as each theorem states them. -/
import Derived.Test.YtfobgkkmbacfjaaCaRef3
namespace Go.Proofs.Ytfobgkkmbacfjaa
open Go.RowKit
set_option linter.unusedVariables false
set_option maxRecDepth 20000

theorem flat_erase {R : List (En × Value)} (i : Nat) : [] ++ (flat ecells R).take (i * 6) ++ (flat ecells R).drop ((i + 1) * 6) = flat ecells (R.eraseIdx i) := by
  rw [List.nil_append, flat_take ecells_len, flat_drop ecells_len, ← flat_append, List.eraseIdx_eq_take_drop_succ]
theorem ERow.oneR {w : World} {M D : Nat → Prop} {L : List En} {R : List (En × Value)} {a : Option Addr} {n cap : Nat} (h : ERow w M D L R a n cap) (l : List Value) (hl : ∀ u ∈ l, u ∈ flat ecells R) : ∀ u ∈ l, u.oneCell' = true := fun u hu => h.onecell u (hl u hu)
theorem map_eraseIdx' {α β : Type} (f : α → β) : ∀ (l : List α) (k : Nat), (l.eraseIdx k).map f = (l.map f).eraseIdx k
  | [], _ => rfl
  | _ :: _, 0 => rfl
  | a :: l, k + 1 => by simp only [List.eraseIdx_cons_succ, List.map_cons, map_eraseIdx' f l k]
theorem mem_eraseIdx' {α : Type} {l : List α} {i : Nat} {x : α} (h : x ∈ l.eraseIdx i) : x ∈ l := by
  rw [List.eraseIdx_eq_take_drop_succ, List.mem_append] at h
  exact h.elim List.mem_of_mem_take List.mem_of_mem_drop
namespace CR
theorem Try.infoREn : (Try.prog.info? 41).map (fun i => (i.zero, i.size, i.bytes)) = some (some (zeroEn.val (.slice none 0 0)), 6, 64) := by kernel_rfl
set_option maxHeartbeats 400000 in
theorem drop_no {w : World} {g : Nat} {M D : Nat → Prop} {S W k : Int} {L : List En} (h : Ca w g M D S W k L) {line : Int} (hp : atL L line = -1) :
    Calls Try.prog 17 #[.pointer (some ⟨g, 0, none⟩), .int .i64 line] w fun e w' => e = .returned (.tuple #[zeroEn.val (.slice none 0 0), .bool false]) ∧ Below w.heap.size w w' := by
  go_enter Try.func17, Try.ntmps17
  go_wp2_with (go_at_call 22; refine (at_b hp (h.below (ba (Below.refl _ _)))).mono ?_; rintro e w1 ⟨rfl, hb1⟩; have b1 := (Eb.madeT w zeroEn (.slice none 0 0) 41).next hb1; obtain ⟨p0, p1, p2, p3, p4, p5⟩ := b1.lit; obtain ⟨f0, f1, f2, f3, f4, f5⟩ := b1.lit')
  have K := Eb.six (x := zeroEn) (d := .slice none 0 0) (g := w.heap.size) (o := 0) (V := w1) (F := fun k => k = w.heap.size) (.inl rfl) (Keep.refl _ w1)
  exact bodyPost_ret (v := .tuple #[zeroEn.val (.slice none 0 0), .bool false]) (by simp [results, Try.results17, go_sem, zeroEn, *]) rfl ⟨rfl, K.after (next (ba (Below.refl _ _)) hb1) (fun k h => by omega)⟩
set_option maxHeartbeats 600000 in
theorem drop_ok {w : World} {g : Nat} {M D : Nat → Prop} {S W k : Int} {L : List En} (h : Ca w g M D S W k L) {line : Int} {i : Nat} {x : En} (hp : atL L line = i) (hx : L[i]? = some x) (hL : L.length ≤ 1000000) :
    Calls Try.prog 17 #[.pointer (some ⟨g, 0, none⟩), .int .i64 line] w fun e w' => ∃ d, e = .returned (.tuple #[x.val d, .bool true]) ∧ DatZ w' D x.z d ∧
      (∃ M', (∀ j, M' j → M j ∨ w.heap.size ≤ j) ∧ Ca w' g M' D S W k (L.eraseIdx i)) ∧ Keep (fun j => j = g) w w' := by
  have h0 := h
  obtain ⟨R, a, cap, h⟩ := h
  have H1 : Hid (CaI w g M D S W k L R a cap) := h
  obtain ⟨c0, c1, c2, c3, fz, lt, mg, row, old, ng⟩ := h
  obtain ⟨n, hn⟩ : ∃ n, L.length = n := ⟨_, rfl⟩
  have hin : i < n := by rw [← hn]; exact (List.getElem?_eq_some_iff.1 hx).1
  rw [hn] at c3 row
  obtain ⟨x', d, b, o, hx', hr, hd, rfl, hmb, hb, ⟨x0, x1, x2, x3, x4, x5⟩, xf⟩ := row.get hin
  obtain rfl : x' = x := Option.some.inj (hx'.symm.trans hx)
  have HD : Hid (DatZ w D x'.z d) := hd
  obtain ⟨da, dn, dc, rfl, hd'⟩ := hd
  have hle := row.row.le
  have hmx := row.row.max
  unfold maxLen at hmx
  have hki : ¬ (i : Int) < 0 := by omega
  have g3 := fz 3
  have HX : Hid (L[i]? = some x') := hx
  have HP : Hid (atL L line = i) := hp
  have HN : Hid (L.length = n) := hn
  clear xf hx hx' hp fz hd' old
  rw [hn] at hL
  clear hn
  go_enter Try.func17, Try.ntmps17
  go_upto_region 5 with (go_at_call 22; refine (at_any (h0.below (ba (Below.refl _ _))) line).mono ?_; rintro e w1 ⟨rfl, rfl⟩; rw [HP.out])
  have hB0 : Below w.heap.size w (((w.alloc (.cells #[.int .i64 0, .int .i64 0, .int .i64 0, .int .i64 0, .bool false, .slice none 0 0] 41)).alloc (.cells #[.int .i64 x'.f, .int .i64 x'.b, .int .i64 x'.n, .int .i64 x'.u, .bool x'.q, .slice da dn dc] 41))) := ba (ba (Below.refl _ _))
  have er0 := (Eb.madeT w zeroEn (.slice none 0 0) 41).next (ba (o := .cells #[.int .i64 x'.f, .int .i64 x'.b, .int .i64 x'.n, .int .i64 x'.u, .bool x'.q, .slice da dn dc] 41) (Below.refl _ _))
  have ee0 := Eb.madeT' (w.alloc (.cells #[.int .i64 0, .int .i64 0, .int .i64 0, .int .i64 0, .bool false, .slice none 0 0] 41)) x' (.slice da dn dc) 41 (w.heap.size + 1) (by simp)
  have hsz0 : ((w.alloc (.cells #[.int .i64 0, .int .i64 0, .int .i64 0, .int .i64 0, .bool false, .slice none 0 0] 41)).alloc (.cells #[.int .i64 x'.f, .int .i64 x'.b, .int .i64 x'.n, .int .i64 x'.u, .bool x'.q, .slice da dn dc] 41)).heap.size = w.heap.size + 2 := by simp
  have HSZ : Hid _ := hsz0
  clear hsz0
  change Eb ((w.alloc (.cells #[.int .i64 0, .int .i64 0, .int .i64 0, .int .i64 0, .bool false, .slice none 0 0] 41)).alloc (.cells #[.int .i64 x'.f, .int .i64 x'.b, .int .i64 x'.n, .int .i64 x'.u, .bool x'.q, .slice da dn dc] 41)) w.heap.size 0 zeroEn (.slice none 0 0) at er0
  generalize World.alloc _ _ = W0 at *
  have row0 := row.below hB0
  clear x0 x1 x2 x3 x4 x5 c0 c1 c2 hb g3 lt
  refine wp_region_orders 19 rfl (by kernel_rfl) ?_
  have hBd : Below W0.heap.size W0 W0.drew := (Below.refl _ _).drew
  have hBV : Below w.heap.size w W0.drew := next hB0 hBd
  have rowV := row0.below hBd
  have erV := er0.next hBd
  have eeV := ee0.next hBd
  have hszV : W0.drew.heap.size = w.heap.size + 2 := HSZ.out
  have H1V := H1.out.below hBV
  clear row row0 er0 ee0 hB0 hBd c3
  generalize W0.drew = V0 at *
  clear HSZ
  have hI : (fun V : World => V.cell? ⟨g, 3, none⟩ = some (.slice (some ⟨b, o, none⟩) n cap) ∧ V.frozen? ⟨g, 3, none⟩ = false) V0 := ⟨by have := H1V.c3; rw [HN.out] at this; exact this, H1V.fz 3⟩
  obtain ⟨A, hA⟩ : ∃ A : Addr, (if cap = i + 1 then some (⟨b, o, none⟩ : Addr) else some ⟨b, o + (i + 1) * 6, none⟩) = some A := by
    by_cases e : cap = i + 1
    · exact ⟨_, if_pos e⟩
    · exact ⟨_, if_neg e⟩
  have hic : i ≤ cap := by omega
  have hjc : i + 1 ≤ cap := by omega
  have hwr : IntKind.i64.wrap ((i : Int) + 1) = (i : Int) + 1 := (IntWalk.i64_left _).trans (IntWalk.wrap64_in _ (by omega))
  have hi1 : 0 ≤ (i : Int) ∧ (i : Int) ≤ n ∧ 0 ≤ (i : Int) + 1 ∧ (i : Int) + 1 ≤ n := by omega
  refine any_inv (fun V : World => V.cell? ⟨g, 3, none⟩ = some (.slice (some ⟨b, o, none⟩) n cap) ∧ V.frozen? ⟨g, 3, none⟩ = false) [18] hI ?_
  refine inv_take (v := ?v1) [16, 17, 18] 0 hI rfl (by kernel_rfl) (by kernel_rfl) (by kernel_rfl) (by kernel_rfl) (by kernel_rfl) (fun _ _ _ h => h) (by kernel_rfl) (fun V hV => ?hy1) ?go1
  case hy1 => (obtain ⟨i1, i2⟩ := hV; go_simp <;> rfl)
  simp only [Act.put, List.setIfInBounds_toArray, List.set_cons_zero, List.set_cons_succ]
  refine inv_take (v := ?v2) [2, 3, 4, 6, 7, 15, 16, 17, 18] 1 hI rfl (by kernel_rfl) (by kernel_rfl) (by kernel_rfl) (by kernel_rfl) (by kernel_rfl) (fun _ _ _ h => h) (by kernel_rfl) (fun V hV => ?hy2) ?go2
  case hy2 => (obtain ⟨i1, i2⟩ := hV; go_simp <;> rfl)
  simp only [Act.put, List.setIfInBounds_toArray, List.set_cons_zero, List.set_cons_succ]
  refine inv_take (v := ?v3) [3, 4, 6, 7, 15, 16, 17, 18] 2 hI rfl (by kernel_rfl) (by kernel_rfl) (by kernel_rfl) (by kernel_rfl) (by kernel_rfl) (fun _ _ _ h => h) (by kernel_rfl) (fun V hV => ?hy3) ?go3
  case hy3 => (obtain ⟨i1, i2⟩ := hV; go_simp <;> rfl)
  simp only [Act.put, List.setIfInBounds_toArray, List.set_cons_zero, List.set_cons_succ]
  refine inv_take (v := ?v4) [4, 6, 7, 15, 16, 17, 18] 3 hI rfl (by kernel_rfl) (by kernel_rfl) (by kernel_rfl) (by kernel_rfl) (by kernel_rfl) (fun _ _ _ h => h) (by kernel_rfl) (fun V hV => ?hy4) ?go4
  case hy4 => (obtain ⟨i1, i2⟩ := hV; go_simp <;> rfl)
  simp only [Act.put, List.setIfInBounds_toArray, List.set_cons_zero, List.set_cons_succ]
  refine inv_take (v := ?v5) [6, 7, 15, 16, 17, 18] 4 hI rfl (by kernel_rfl) (by kernel_rfl) (by kernel_rfl) (by kernel_rfl) (by kernel_rfl) (fun _ _ _ h => h) (by kernel_rfl) (fun V hV => ?hy5) ?go5
  case hy5 => (obtain ⟨i1, i2⟩ := hV; go_simp <;> rfl)
  simp only [Act.put, List.setIfInBounds_toArray, List.set_cons_zero, List.set_cons_succ]
  refine inv_take (v := ?v6) [6, 7, 15, 16, 17, 18] 5 hI rfl (by kernel_rfl) (by kernel_rfl) (by kernel_rfl) (by kernel_rfl) (by kernel_rfl) (fun _ _ _ h => h) (by kernel_rfl) (fun V hV => ?hy6) ?go6
  case hy6 => (obtain ⟨i1, i2⟩ := hV; go_simp <;> rfl)
  simp only [Act.put, List.setIfInBounds_toArray, List.set_cons_zero, List.set_cons_succ]
  refine inv_take (v := ?v7) [7, 15, 16, 17, 18] 6 hI rfl (by kernel_rfl) (by kernel_rfl) (by kernel_rfl) (by kernel_rfl) (by kernel_rfl) (fun _ _ _ h => h) (by kernel_rfl) (fun V hV => ?hy7) ?go7
  case hy7 => (obtain ⟨i1, i2⟩ := hV; go_simp <;> rfl)
  simp only [Act.put, List.setIfInBounds_toArray, List.set_cons_zero, List.set_cons_succ]
  refine inv_take (v := ?v8) [9, 10, 11, 14, 15, 16, 17, 18] 8 hI rfl (by kernel_rfl) (by kernel_rfl) (by kernel_rfl) (by kernel_rfl) (by kernel_rfl) (fun _ _ _ h => h) (by kernel_rfl) (fun V hV => ?hy8) ?go8
  case hy8 => (obtain ⟨i1, i2⟩ := hV; go_simp <;> rfl)
  simp only [Act.put, List.setIfInBounds_toArray, List.set_cons_zero, List.set_cons_succ]
  refine inv_take (v := ?v9) [10, 11, 14, 15, 16, 17, 18] 9 hI rfl (by kernel_rfl) (by kernel_rfl) (by kernel_rfl) (by kernel_rfl) (by kernel_rfl) (fun _ _ _ h => h) (by kernel_rfl) (fun V hV => ?hy9) ?go9
  case hy9 => (obtain ⟨i1, i2⟩ := hV; go_simp <;> rfl)
  simp only [Act.put, List.setIfInBounds_toArray, List.set_cons_zero, List.set_cons_succ]
  refine inv_take (v := ?v10) [11, 14, 15, 16, 17, 18] 10 hI rfl (by kernel_rfl) (by kernel_rfl) (by kernel_rfl) (by kernel_rfl) (by kernel_rfl) (fun _ _ _ h => h) (by kernel_rfl) (fun V hV => ?hy10) ?go10
  case hy10 => (obtain ⟨i1, i2⟩ := hV; go_simp <;> rfl)
  simp only [Act.put, List.setIfInBounds_toArray, List.set_cons_zero, List.set_cons_succ]
  refine inv_take (v := ?v11) [14, 15, 16, 17, 18] 11 hI rfl (by kernel_rfl) (by kernel_rfl) (by kernel_rfl) (by kernel_rfl) (by kernel_rfl) (fun _ _ _ h => h) (by kernel_rfl) (fun V hV => ?hy11) ?go11
  case hy11 => (obtain ⟨i1, i2⟩ := hV; go_simp <;> rfl)
  simp only [Act.put, List.setIfInBounds_toArray, List.set_cons_zero, List.set_cons_succ]
  refine inv_take (v := ?v12) [13, 14, 15, 16, 17, 18] 12 hI rfl (by kernel_rfl) (by kernel_rfl) (by kernel_rfl) (by kernel_rfl) (by kernel_rfl) (fun _ _ _ h => h) (by kernel_rfl) (fun V hV => ?hy12) ?go12
  case hy12 => (obtain ⟨i1, i2⟩ := hV; go_simp <;> rfl)
  simp only [Act.put, List.setIfInBounds_toArray, List.set_cons_zero, List.set_cons_succ]
  refine inv_take (v := ?v13) [14, 15, 16, 17, 18] 13 hI rfl (by kernel_rfl) (by kernel_rfl) (by kernel_rfl) (by kernel_rfl) (by kernel_rfl) (fun _ _ _ h => h) (by kernel_rfl) (fun V hV => ?hy13) ?go13
  case hy13 => (obtain ⟨i1, i2⟩ := hV; go_simp <;> rfl)
  simp only [Act.put, List.setIfInBounds_toArray, List.set_cons_zero, List.set_cons_succ]
  refine inv_take (v := ?v14) [15, 16, 17, 18] 14 hI rfl (by kernel_rfl) (by kernel_rfl) (by kernel_rfl) (by kernel_rfl) (by kernel_rfl) (fun _ _ _ h => h) (by kernel_rfl) (fun V hV => ?hy14) ?go14
  case hy14 => (obtain ⟨i1, i2⟩ := hV; go_simp <;> rfl)
  simp only [Act.put, List.setIfInBounds_toArray, List.set_cons_zero, List.set_cons_succ]
  obtain ⟨f0, hfi, hp0, hp1, hp2⟩ := info_parts Try.infoREn
  have HA : Hid (∀ V, SlV V (some ⟨b, o, none⟩) n cap 6 (flat ecells R) → SlV V (some A) (n - (i + 1)) (cap - (i + 1)) 6 ((flat ecells R).drop ((i + 1) * 6))) := by
    intro V hV
    exact hV.rear (by omega) hA
  have rlen := rowV.rlen
  have hone := rowV.onecell
  clear hA
  refine inv_list 7 (by kernel_rfl) rfl ?_
  refine wpList_append_slv V0 (fun _ => False) (by kernel_rfl) (.const (.slice none 0 0)) (.tmp 27) 91 rfl 41 f0 (zeroEn.val (.slice none 0 0)) 6 64 Try.underlying91 hfi hp0 hp1 hp2 rfl (by decide) none 0 0 [] rfl (rw_nil _ _ _) (some ⟨b, o, none⟩) i cap ((flat ecells R).take (i * 6)) rfl (rowV.row.slv.front (by omega)) (fun u hu => hone u (List.mem_of_mem_take hu)) (by unfold maxLen; omega) (by omega) ?_
  intro a7 c7 w7 hrw7 hk7
  have hb7 : Below V0.heap.size V0 w7 := hk7.below (fun _ h => h.elim) (Nat.le_refl _)
  have hI7 : (fun V : World => V.cell? ⟨g, 3, none⟩ = some (.slice (some ⟨b, o, none⟩) n cap) ∧ V.frozen? ⟨g, 3, none⟩ = false) w7 := ⟨(hb7.cell (p := ⟨g, 3, none⟩) H1V.lt).trans hI.1, (hb7.frozen (p := ⟨g, 3, none⟩) H1V.lt).trans hI.2⟩
  refine then_n ⟨hI7, ?_⟩
  simp only [Act.put, List.setIfInBounds_toArray, List.set_cons_zero, List.set_cons_succ]
  refine inv_list 15 (by kernel_rfl) rfl ?_
  refine wpList_append_slv w7 (fun k => False ∨ V0.heap.size ≤ k) (by kernel_rfl) (.tmp 28) (.tmp 35) 91 rfl 41 f0 (zeroEn.val (.slice none 0 0)) 6 64 Try.underlying91 hfi hp0 hp1 hp2 rfl (by decide) a7 (0 + i) c7 ([] ++ (flat ecells R).take (i * 6)) rfl hrw7 _ (n - (i + 1)) (cap - (i + 1)) ((flat ecells R).drop ((i + 1) * 6)) rfl (HA.out _ (rowV.below hb7).row.slv) (fun u hu => hone u (List.mem_of_mem_drop hu)) (by unfold maxLen; omega) (by omega) ?_
  intro a8 c8 w8 hrw8 hk8
  have em : 0 + i + (n - (i + 1)) = n - 1 := by omega
  rw [em] at hrw8
  rw [em]
  rw [flat_erase] at hrw8
  have hb8 : Below V0.heap.size V0 w8 := hb7.trans (hk8.below (fun k h => h.elim (fun h => h.elim) id) hb7.size)
  have hI8 : (fun V : World => V.cell? ⟨g, 3, none⟩ = some (.slice (some ⟨b, o, none⟩) n cap) ∧ V.frozen? ⟨g, 3, none⟩ = false) w8 := ⟨(hb8.cell (p := ⟨g, 3, none⟩) H1V.lt).trans hI.1, (hb8.frozen (p := ⟨g, 3, none⟩) H1V.lt).trans hI.2⟩
  refine then_n ⟨hI8, ?_⟩
  simp only [Act.put, List.setIfInBounds_toArray, List.set_cons_zero, List.set_cons_succ]
  refine inv_take (v := ?v15) [17, 18] 16 hI8 rfl (by kernel_rfl) (by kernel_rfl) (by kernel_rfl) (by kernel_rfl) (by kernel_rfl) (fun _ _ _ h => h) (by kernel_rfl) (fun V hV => ?hy15) ?go15
  case hy15 => (obtain ⟨i1, i2⟩ := hV; go_simp <;> rfl)
  simp only [Act.put, List.setIfInBounds_toArray, List.set_cons_zero, List.set_cons_succ]
  refine inv_take (v := ?v16) [18] 17 hI8 rfl (by kernel_rfl) (by kernel_rfl) (by kernel_rfl) (by kernel_rfl) (by kernel_rfl) (fun _ _ _ h => h) (by kernel_rfl) (fun V hV => ?hy16) ?go16
  case hy16 => (obtain ⟨i1, i2⟩ := hV; go_simp <;> rfl)
  simp only [Act.put, List.setIfInBounds_toArray, List.set_cons_zero, List.set_cons_succ]
  obtain ⟨i1, i2⟩ := hI8
  have hgw := H1.out.lt
  have H2 := H1
  have row8 : Rw w8 (fun k => V0.heap.size ≤ k) a8 (n - 1) c8 6 (flat ecells (R.eraseIdx i)) := hrw8.imp (fun j _ h => by
    rcases h with (h | h) | h
    · exact h.elim
    · exact h
    · exact Nat.le_trans hb7.size h)
  have C8 := H1V.below hb8
  have er8 := erV.next hb8
  have ee8 := eeV.next hb8
  have hD8 := (HD.out.below hBV).below hb8
  have rowD := (rowV.below hb8).dat
  clear hI7 hI hrw7 hrw8 hk7 hk8 hb7 rowV H1V H1 HA erV eeV hone hwr hi1 hic hjc hfi hp0 hp1 hp2
  refine inv_write 18 (by kernel_rfl) (by kernel_rfl) rfl ?_
  go_wp2
  refine then_n ?_
  refine any_done (by kernel_rfl) ?_
  obtain ⟨p0, p1, p2, p3, p4, p5⟩ := (er8.far (p := ⟨g, 3, none⟩) (u := .slice a8 (n - 1) c8) (by simp only; omega)).lit
  obtain ⟨f0, f1, f2, f3, f4, f5⟩ := (er8.far (p := ⟨g, 3, none⟩) (u := .slice a8 (n - 1) c8) (by simp only; omega)).lit'
  obtain ⟨q0, q1, q2, q3, q4, q5⟩ := (ee8.far (p := ⟨g, 3, none⟩) (u := .slice a8 (n - 1) c8) (by simp only; omega)).lit
  have hold : ∀ j, M j ∨ D j → j < w.heap.size := H2.out.old
  have hdj : ∀ j, M j → ¬ D j := fun j hm hd => by
    by_cases e : j = g
    · exact ng (e ▸ hd)
    · exact H2.out.row.dj j ⟨hm, e⟩ hd
  have C9 := C8.newrow (base := V0.heap.size) (L' := L.eraseIdx i) (R' := R.eraseIdx i) (D' := D) (n' := n - 1) (cap' := c8) (a' := a8) (fun j hj => by have := hold j hj; omega) hdj (by rw [List.length_eraseIdx_of_lt (by rw [HN.out]; exact hin), HN.out]) (row8.imp (fun j _ h => .inr h)) (by rw [map_eraseIdx', H2.out.row.eq]) (fun r hr => rowD r (mem_eraseIdx' hr)) hb8.size
  have hD9 : DatZ (w8.setCell ⟨g, 3, none⟩ (.slice a8 (n - 1) c8)) D x'.z (.slice da dn dc) := hD8.keep (Keep.one w8 g 3 _) (fun j hj e => ng (e ▸ hj))
  have K9 : Keep (fun j => j = g) w (w8.setCell ⟨g, 3, none⟩ (.slice a8 (n - 1) c8)) := (Keep.of_below (F := fun j => j = g) (next hBV hb8)).setCell (p := ⟨g, 3, none⟩) (.inl rfl) _
  have hz8 := hb8.size
  clear C8 er8 ee8 hD8 rowD row8 i1 i2
  generalize w8.setCell ⟨g, 3, none⟩ (.slice a8 (n - 1) c8) = w9 at *
  go_wp2_with fail
  have K := Eb.six (x := x') (d := .slice da dn dc) (g := w.heap.size) (o := 0) (V := w9) (F := fun k => k = w.heap.size) (.inl rfl) (Keep.refl _ w9)
  refine bodyPost_ret (v := .tuple #[x'.val (.slice da dn dc), .bool true]) (by simp [results, Try.results17, go_sem, zeroEn, *]) rfl ⟨_, rfl, hD9.keep K (fun j hj e => ?_), ⟨_, ?_, _, _, _, C9.keep K ?_⟩, ?_⟩
  · have := hold j (.inr hj); omega
  · intro j hj
    rcases hj with hj | hj
    · exact .inl hj
    · exact .inr (by omega)
  · intro j hj e
    rcases hj with (hj | hj) | hj
    · have := hold j (.inl hj); omega
    · omega
    · have := hold j (.inr hj); omega
  · exact K9.trans K (fun j hj e => by omega)
end CR
end Go.Proofs.Ytfobgkkmbacfjaa
