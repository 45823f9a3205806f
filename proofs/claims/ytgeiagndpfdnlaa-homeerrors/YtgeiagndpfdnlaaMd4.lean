/- The contract of memdir's New. Conditions: as each theorem states them. -/
import Derived.Test.YtgeiagndpfdnlaaMd3
namespace Go.Proofs.Ytgeiagndpfdnlaa
open Go.RowKit Go.Maps
set_option linter.unusedVariables false
set_option maxRecDepth 20000

/-- What a home knows at first, of the lines below i. -/
def rows0 (zi : List Int) (N L K : Nat) (node : Int) (i : Nat) : List Hr := ((List.range i).filter (fun l : Nat => decide (remI (l : Int) N = node))).map (fun l : Nat => ⟨(l : Int), 0, -1, wordsI zi L K l⟩)
theorem rows0_lt {zi : List Int} {N L K : Nat} {node : Int} {i : Nat} : ∀ q ∈ rows0 zi N L K node i, 0 ≤ q.n ∧ q.n < (i : Int) := by
  intro q hq
  obtain ⟨l, hl, rfl⟩ := List.mem_map.1 hq
  have := (List.mem_filter.1 hl).1
  rw [List.mem_range] at this
  simp
  omega
theorem rows0_len {zi : List Int} {N L K : Nat} {node : Int} {i : Nat} : (rows0 zi N L K node i).length ≤ i := by
  unfold rows0
  rw [List.length_map]
  have := List.length_filter_le (fun l : Nat => decide (remI (l : Int) N = node)) (List.range i)
  rwa [List.length_range] at this
theorem rows0_put {zi : List Int} {N L K : Nat} {node : Int} {i : Nat} (h : remI (i : Int) N = node) : rows0 zi N L K node (i + 1) = putK hOf ⟨(i : Int), 0, -1, wordsI zi L K i⟩ (rows0 zi N L K node i) := by
  rw [putK_last (fun q hq => (rows0_lt q hq).2)]
  unfold rows0
  rw [List.range_succ, List.filter_append, List.map_append]
  simp [h]
theorem rows0_skip {zi : List Int} {N L K : Nat} {node : Int} {i : Nat} (h : remI (i : Int) N ≠ node) : rows0 zi N L K node (i + 1) = rows0 zi N L K node i := by
  unfold rows0
  rw [List.range_succ, List.filter_append, List.map_append]
  simp [h]
theorem mw_new {V : World} {bm : Nat} {N K : Int} (t : TypeId) (h : IM V bm []) : MW (V.alloc (.cells #[.int .i64 N, .int .i64 K, .map (some bm)] t)) V.heap.size bm (fun _ => False) N K [] := by
  have hl := h.lt
  exact ⟨by simp, by simp, by simp, by simp, by omega, h.below (ba (Below.refl _ _)), fun r hr => (by cases hr), List.Pairwise.nil, by simp, fun j h => h.elim, id, id⟩
theorem CB.keep {F : Nat → Prop} {w w' : World} {g : Nat} {N L K S Y O I : Nat} {t : Value} (h : CB w g N L K S Y O I t) (hk : Keep F w w') (hF : ¬ F g) : CB w' g N L K S Y O I t :=
  have e := fun o => hk.cell (b := g) o h.lt hF
  ⟨(e _).trans h.c0, (e _).trans h.c1, (e _).trans h.c2, (e _).trans h.c3, (e _).trans h.c4, (e _).trans h.c5, (e _).trans h.c6, (e _).trans h.c7, Nat.lt_of_lt_of_le h.lt hk.size⟩
set_option maxHeartbeats 1000000 in
theorem mnew_any (N L K S Y O I : Nat) (a : Option Addr) (nv cv : Nat) (zi : List Int) (node : Int) (w : World) (hsl : Sl w a nv cv zi) (hN0 : 1 ≤ N) (hN : N ≤ 6) (hL : L ≤ 8) (hK0 : 1 ≤ K) (hK : K ≤ 4) (hlen : nv ≤ 32) :
    Calls Try.prog 26 #[cfg N L K S Y O I (.slice a nv cv), .int .i64 node] w fun e w' => ∃ g b D R, e = .returned (.pointer (some ⟨g, 0, none⟩)) ∧ Below w.heap.size w w' ∧
      MW w' g b D N K R ∧ R.map Prod.fst = rows0 zi N L K node L ∧ w.heap.size ≤ g ∧ w.heap.size ≤ b ∧ ∀ j, D j → w.heap.size ≤ j := by
  have hmm := @run_makeMap Try.prog
  have c1 := CB.made w N L K S Y O I (.slice a nv cv)
  have i1 := im_made (w.alloc (.cells #[.int .i64 (N : Int), .int .i64 (L : Int), .int .i64 (K : Int), .int .i64 (S : Int), .int .i64 (Y : Int), .int .i64 (O : Int), .int .i64 (I : Int), .slice a nv cv] 26))
  rw [show (w.alloc (.cells #[.int .i64 (N : Int), .int .i64 (L : Int), .int .i64 (K : Int), .int .i64 (S : Int), .int .i64 (Y : Int), .int .i64 (O : Int), .int .i64 (I : Int), .slice a nv cv] 26)).heap.size = w.heap.size + 1 by simp] at i1
  have b1 : Below w.heap.size w (w.alloc (.cells #[.int .i64 (N : Int), .int .i64 (L : Int), .int .i64 (K : Int), .int .i64 (S : Int), .int .i64 (Y : Int), .int .i64 (O : Int), .int .i64 (I : Int), .slice a nv cv] 26)) := ba (Below.refl _ _)
  unfold cfg
  go_enter Try.func26, Try.ntmps26
  go_wp2_with fail
  have c2 := c1.below (ba (o := .map #[] 0) (Below.refl _ _))
  have c3 := c2.below (ba (o := .cells #[.int .i64 (N : Int), .int .i64 (K : Int), .map (some (w.heap.size + 1))] 101) (Below.refl _ _))
  have b3 := ba (o := .cells #[.int .i64 (N : Int), .int .i64 (K : Int), .map (some (w.heap.size + 1))] 101) (ba (o := .map #[] 0) b1)
  have M3 := mw_new (N := N) (K := K) 101 i1
  rw [show ((w.alloc (.cells #[.int .i64 (N : Int), .int .i64 (L : Int), .int .i64 (K : Int), .int .i64 (S : Int), .int .i64 (Y : Int), .int .i64 (O : Int), .int .i64 (I : Int), .slice a nv cv] 26)).alloc (.map #[] 0)).heap.size = w.heap.size + 1 + 1 by simp] at M3
  clear c1 c2 i1 b1 hmm
  generalize hV : ((w.alloc (.cells #[.int .i64 (N : Int), .int .i64 (L : Int), .int .i64 (K : Int), .int .i64 (S : Int), .int .i64 (Y : Int), .int .i64 (O : Int), .int .i64 (I : Int), .slice a nv cv] 26)).alloc (.map #[] 0)).alloc (.cells #[.int .i64 (N : Int), .int .i64 (K : Int), .map (some (w.heap.size + 1))] 101) = V at *
  clear hV
  have HS : Hid (w.heap.size ≤ w.heap.size + 1) := Nat.le_succ _
  obtain ⟨gc, hgc⟩ : ∃ gc, gc = w.heap.size := ⟨_, rfl⟩
  obtain ⟨gm, hgm⟩ : ∃ gm, gm = w.heap.size + 1 := ⟨_, rfl⟩
  rw [← hgc] at c3
  rw [← hgm] at M3
  simp only [← hgm]
  rw [show (⟨w.heap.size, 0, none⟩ : Addr) = ⟨gc, 0, none⟩ by rw [hgc]]
  have HG : Hid (gc = w.heap.size ∧ gm = w.heap.size + 1) := ⟨hgc, hgm⟩
  clear HS hgc hgm
  go_loopw [16, 6] (fun v16 v6 wr => ∃ (i : Nat) (D : Nat → Prop) (R : List (Hr × Value)), v16 = .int .i64 (i : Int) ∧ i ≤ L ∧ Below w.heap.size w wr ∧ MW wr (gm + 1) gm D N K R ∧ R.map Prod.fst = rows0 zi N L K node i ∧ (∀ j, D j → w.heap.size ≤ j) ∧ CB wr gc N L K S Y O I (.slice a nv cv)) (fun v16 _ _ => L - (intOf v16).toNat)
  case atStart => exact ⟨0, _, [], rfl, by omega, b3, M3, rfl, fun _ h => h.elim, c3⟩
  case round =>
    clear b3 M3 c3
    obtain ⟨i, D, R, rfl, hi, hb, M, hR, hD, hc⟩ := hrel
    obtain ⟨z0, z1, z2, z3, z4, z5, z6, z7, zlt⟩ := hc
    have hc : CB wr gc N L K S Y O I (.slice a nv cv) := ⟨z0, z1, z2, z3, z4, z5, z6, z7, zlt⟩
    by_cases hlt : i < L
    · have hlt' : (i : Int) < (L : Int) := by omega
      by_cases hn : remI (i : Int) N = node
      · have hn' : (remI (i : Int) N == node) = true := by simp [hn]
        go_upto_region 6 with (go_at_call 50; refine (homeOf_any _ _ _ _ _ _ _ _ _ _ (by omega) (by omega)).mono ?_; rintro e w1 ⟨rfl, hb1⟩)
        clear z0 z1 z2 z3 z4 z5 z6 z7 zlt
        have hb2' := next hb hb1
        have M1 := M.below hb1
        have c1 := hc.below hb1
        have HM : Hid (MW wr (gm + 1) gm D N K R) := M
        refine wp_region_orders 10 rfl (by kernel_rfl) ?_
        have Bd : Below w1.heap.size w1 w1.drew := (Below.refl _ _).drew
        have M2 := M1.below Bd
        have c2 := c1.below Bd
        have hb2 := next hb2' Bd
        clear M1 c1 hb2' hb1 Bd M hc hb
        generalize w1.drew = w2 at *
        clear w1
        have s2 := hsl.below hb2
        have hI : (fun V => V.cell? ⟨gm + 1, 2, none⟩ = some (.map (some gm)) ∧ V.cell? ⟨gc, 0, none⟩ = some (.int .i64 (N : Int)) ∧ V.cell? ⟨gc, 1, none⟩ = some (.int .i64 (L : Int)) ∧ V.cell? ⟨gc, 2, none⟩ = some (.int .i64 (K : Int)) ∧ V.cell? ⟨gc, 3, none⟩ = some (.int .i64 (S : Int)) ∧ V.cell? ⟨gc, 4, none⟩ = some (.int .i64 (Y : Int)) ∧ V.cell? ⟨gc, 5, none⟩ = some (.int .i64 (O : Int)) ∧ V.cell? ⟨gc, 6, none⟩ = some (.int .i64 (I : Int)) ∧ V.cell? ⟨gc, 7, none⟩ = some (.slice a nv cv)) w2 := ⟨M2.c2, c2.c0, c2.c1, c2.c2, c2.c3, c2.c4, c2.c5, c2.c6, c2.c7⟩
        refine any_inv (fun V => V.cell? ⟨gm + 1, 2, none⟩ = some (.map (some gm)) ∧ V.cell? ⟨gc, 0, none⟩ = some (.int .i64 (N : Int)) ∧ V.cell? ⟨gc, 1, none⟩ = some (.int .i64 (L : Int)) ∧ V.cell? ⟨gc, 2, none⟩ = some (.int .i64 (K : Int)) ∧ V.cell? ⟨gc, 3, none⟩ = some (.int .i64 (S : Int)) ∧ V.cell? ⟨gc, 4, none⟩ = some (.int .i64 (Y : Int)) ∧ V.cell? ⟨gc, 5, none⟩ = some (.int .i64 (O : Int)) ∧ V.cell? ⟨gc, 6, none⟩ = some (.int .i64 (I : Int)) ∧ V.cell? ⟨gc, 7, none⟩ = some (.slice a nv cv)) [9] hI ?_
        refine inv_take (v := ?v1) [1, 2, 3, 9] 0 hI rfl (by kernel_rfl) (by kernel_rfl) (by kernel_rfl) (by kernel_rfl) (by kernel_rfl) (fun _ _ _ h => h) (by kernel_rfl) (fun V hV => ?hy1) ?go1
        case hy1 => (obtain ⟨z, z0, z1, z2, z3, z4, z5, z6, z7⟩ := hV; go_simp <;> rfl)
        simp only [Act.put, List.setIfInBounds_toArray, List.set_cons_zero, List.set_cons_succ]
        refine inv_take (v := ?v2) [2, 3, 9] 1 hI rfl (by kernel_rfl) (by kernel_rfl) (by kernel_rfl) (by kernel_rfl) (by kernel_rfl) (fun _ _ _ h => h) (by kernel_rfl) (fun V hV => ?hy2) ?go2
        case hy2 => (obtain ⟨z, z0, z1, z2, z3, z4, z5, z6, z7⟩ := hV; go_simp <;> rfl)
        simp only [Act.put, List.setIfInBounds_toArray, List.set_cons_zero, List.set_cons_succ]
        refine inv_take (v := ?v3) [3, 9] 2 hI rfl (by kernel_rfl) (by kernel_rfl) (by kernel_rfl) (by kernel_rfl) (by kernel_rfl) (fun _ _ _ h => h) (by kernel_rfl) (fun V hV => ?hy3) ?go3
        case hy3 => (obtain ⟨z, z0, z1, z2, z3, z4, z5, z6, z7⟩ := hV; go_simp <;> rfl)
        simp only [Act.put, List.setIfInBounds_toArray, List.set_cons_zero, List.set_cons_succ]
        refine inv_take (v := ?v4) [9] 3 hI rfl (by kernel_rfl) (by kernel_rfl) (by kernel_rfl) (by kernel_rfl) (by kernel_rfl) (fun _ _ _ h => h) (by kernel_rfl) (fun V hV => ?hy4) ?go4
        case hy4 => (obtain ⟨z, z0, z1, z2, z3, z4, z5, z6, z7⟩ := hV; go_simp <;> rfl)
        simp only [Act.put, List.setIfInBounds_toArray, List.set_cons_zero, List.set_cons_succ]
        refine inv_take (v := ?v5) [9] 4 hI rfl (by kernel_rfl) (by kernel_rfl) (by kernel_rfl) (by kernel_rfl) (by kernel_rfl) (fun _ _ _ h => h) (by kernel_rfl) (fun V hV => ?hy5) ?go5
        case hy5 => (obtain ⟨z, z0, z1, z2, z3, z4, z5, z6, z7⟩ := hV; go_simp <;> rfl)
        simp only [Act.put, List.setIfInBounds_toArray, List.set_cons_zero, List.set_cons_succ]
        refine inv_take (v := ?v6) [7, 8, 9] 5 hI rfl (by kernel_rfl) (by kernel_rfl) (by kernel_rfl) (by kernel_rfl) (by kernel_rfl) (fun _ _ _ h => h) (by kernel_rfl) (fun V hV => ?hy6) ?go6
        case hy6 => (obtain ⟨z, z0, z1, z2, z3, z4, z5, z6, z7⟩ := hV; go_simp <;> rfl)
        simp only [Act.put, List.setIfInBounds_toArray, List.set_cons_zero, List.set_cons_succ]
        refine inv_take (v := ?v7) [7, 8, 9] 6 hI rfl (by kernel_rfl) (by kernel_rfl) (by kernel_rfl) (by kernel_rfl) (by kernel_rfl) (fun _ _ _ h => h) (by kernel_rfl) (fun V hV => ?hy7) ?go7
        case hy7 => (obtain ⟨z, z0, z1, z2, z3, z4, z5, z6, z7⟩ := hV; go_simp <;> rfl)
        simp only [Act.put, List.setIfInBounds_toArray, List.set_cons_zero, List.set_cons_succ]
        obtain ⟨n3, hn3⟩ : ∃ n, (wordsI zi L K (i : Int)).length = n := ⟨_, rfl⟩
        have HN3 : Hid ((wordsI zi L K (i : Int)).length = n3) := hn3
        clear hn3
        refine inv_list 7 (by kernel_rfl) rfl ?_
        clear hI
        go_wp2_with (go_at_call 51; refine (words_any N L K S Y O I a nv cv zi i _ s2 (by omega) hK0 (by omega) hlen).mono ?_; rintro e w3 ⟨v3, rfl, own3, hb3⟩; obtain ⟨a3, k3, rfl, _⟩ := own3.sl' HN3.out)
        have M3 := M2.below hb3
        have c3 := c2.below hb3
        have hb4 := next hb2 hb3
        have HB2 : Hid (∀ j, w2.heap.size ≤ j → w.heap.size ≤ j ∧ j ≠ gm + 1 ∧ j ≠ gm) := fun j hj => by
          have h1 := hb2.size
          have h2 := M2.lt
          exact ⟨by omega, by omega, by omega⟩
        have hI : (fun V => V.cell? ⟨gm + 1, 2, none⟩ = some (.map (some gm)) ∧ V.cell? ⟨gc, 0, none⟩ = some (.int .i64 (N : Int)) ∧ V.cell? ⟨gc, 1, none⟩ = some (.int .i64 (L : Int)) ∧ V.cell? ⟨gc, 2, none⟩ = some (.int .i64 (K : Int)) ∧ V.cell? ⟨gc, 3, none⟩ = some (.int .i64 (S : Int)) ∧ V.cell? ⟨gc, 4, none⟩ = some (.int .i64 (Y : Int)) ∧ V.cell? ⟨gc, 5, none⟩ = some (.int .i64 (O : Int)) ∧ V.cell? ⟨gc, 6, none⟩ = some (.int .i64 (I : Int)) ∧ V.cell? ⟨gc, 7, none⟩ = some (.slice a nv cv)) w3 := ⟨M3.c2, c3.c0, c3.c1, c3.c2, c3.c3, c3.c4, c3.c5, c3.c6, c3.c7⟩
        refine then_n ⟨hI, ?_⟩
        refine inv_take (v := ?v8) [9] 8 hI rfl (by kernel_rfl) (by kernel_rfl) (by kernel_rfl) (by kernel_rfl) (by kernel_rfl) (fun _ _ _ h => h) (by kernel_rfl) (fun V hV => ?hy8) ?go8
        case hy8 => (obtain ⟨z, z0, z1, z2, z3, z4, z5, z6, z7⟩ := hV; go_simp <;> rfl)
        simp only [Act.put, List.setIfInBounds_toArray, List.set_cons_zero, List.set_cons_succ]
        have hRl : R.length ≤ i := by
          have := congrArg List.length hR
          rw [List.length_map] at this
          rw [this]
          exact rows0_len
        have hlen1 : (putK hKey ((⟨(i : Int), 0, -1, wordsI zi L K i⟩ : Hr), .slice a3 n3 k3) R).length ≤ 1000 := by
          have := putK_len (key := hKey) ((⟨(i : Int), 0, -1, wordsI zi L K i⟩ : Hr), .slice a3 n3 k3) R
          omega
        have hw4 : (wordsI zi L K (i : Int)).length ≤ 17592186044416 := by
          unfold wordsI
          split
          · simp; omega
          · simp
        obtain ⟨w9, hrun9, MN, K9, s9⟩ := M3.store (E := fun j => w2.heap.size ≤ j ∧ j < w3.heap.size) (r := ((⟨(i : Int), 0, -1, wordsI zi L K i⟩ : Hr), .slice a3 n3 k3)) hlen1 (by unfold In64; simp; omega) ((datz_own own3 hw4).imp (fun j hj h => ⟨h, hj⟩)) (fun j hj => ⟨hj.2, (HB2.out j hj.1).2⟩)
        have c9 := c3.keep K9 (fun e => by have := HG.out; omega)
        have hb9 : Below w.heap.size w w9 := K9.after hb4 (fun j hj => by have := HG.out; omega)
        refine inv_write 9 (by kernel_rfl) (by kernel_rfl) rfl ?_
        clear hI K9 s9 M3 c3 c2 M2 hb2 hb3 hb4 own3 s2
        go_wp2_with fail
        refine then_n ?_
        refine any_done (by kernel_rfl) ?_
        clear hrun9
        go_wp2_with fail
        go_roundw
        case rel => exact ⟨i + 1, _, _, by go_num, by omega, hb9, MN, by rw [map_putK (key := hKey) (key' := hOf) (fun _ => rfl), hR, rows0_put hn], fun j hj => hj.elim (hD j) (fun h => (HB2.out j h.1).1), c9⟩
        case measure => simp [intOf]; omega
      · have hn' : (remI (i : Int) N == node) = false := by simp [hn]
        go_wp2_with (go_at_call 50; refine (homeOf_any _ _ _ _ _ _ _ _ _ _ (by omega) (by omega)).mono ?_; rintro e w1 ⟨rfl, hb1⟩)
        go_roundw
        case rel => exact ⟨i + 1, D, R, by go_num, by omega, next hb hb1, M.below hb1, by rw [hR, rows0_skip hn], hD, hc.below hb1⟩
        case measure => simp [intOf]; omega
    · obtain rfl : i = L := by omega
      go_wp2_with fail
      go_ret
      exact ⟨_, _, D, R, rfl, hb, M, hR, by have := HG.out; omega, by have := HG.out; omega, hD⟩
end Go.Proofs.Ytgeiagndpfdnlaa
