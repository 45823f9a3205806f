/- The program's turns: takeFirst, Next. Conditions: as each theorem states them. -/
import Derived.Test.YtgeiagndpfdnlaaTu2
import Derived.Test.YtgeiagndpfdnlaaTake8
namespace Go.Proofs.Ytgeiagndpfdnlaa
open Go.RowKit Go.Maps
set_option linter.unusedVariables false
set_option maxRecDepth 20000

/-- What those who wait are when the first one of a line has gone. -/
def wtNext (p : TE) (O : List TE) : List TE := if p.l.length = 1 then delK TE.s p.s O else putK TE.s ⟨p.s, p.l.tail, p.b, p.o + 2, p.cap - 1⟩ O
theorem wtO_next {O : List TE} (hr : RiseK TE.s O) {p : TE} {l : Int} (hp : getK TE.s l O = some p) (k : Int) : wtO (wtNext p O) k = if k = l then (wtO O k).tail else wtO O k := by
  obtain ⟨hpO, hps⟩ := getK_some hp
  unfold wtNext
  split
  next h1 =>
    rw [hps, wtO_del hr]
    by_cases e : k = l
    · rw [if_pos e, if_pos e, e]
      unfold wtO
      rw [hp]
      have : p.l.tail.length = 0 := by rw [List.length_tail, h1]
      exact (List.eq_nil_of_length_eq_zero this).symm
    · rw [if_neg e, if_neg e]
  next h1 =>
    rw [wtO_put hr]
    simp only [hps]
    by_cases e : k = l
    · rw [if_pos e, if_pos e, e]
      unfold wtO
      rw [hp]
    · rw [if_neg e, if_neg e]
theorem sub_new {V V9 : World} {M : Nat → Prop} (hs : V9.heap.size = V.heap.size) : (fun j => M j ∨ (V.heap.size ≤ j ∧ j < V9.heap.size)) = M := by
  funext j
  apply propext
  constructor
  · rintro (hj | hj)
    · exact hj
    · omega
  · exact .inl
theorem two_cells (W : World) (b : Nat) (u v : Value) (h0 : (W.cell? ⟨b, 0, none⟩).isSome = true) (h1 : (W.cell? ⟨b, 1, none⟩).isSome = true) : ((W.setCell ⟨b, 0, none⟩ u).setCell ⟨b, 1, none⟩ v).cell? ⟨b, 0, none⟩ = some u ∧ ((W.setCell ⟨b, 0, none⟩ u).setCell ⟨b, 1, none⟩ v).cell? ⟨b, 1, none⟩ = some v := by
  refine ⟨?_, World.cell?_setCell_same' _ _ _ ?_⟩
  · rw [World.cell?_setCell_other _ _ _ _ (by simp)]
    exact World.cell?_setCell_same' _ _ _ h0
  · rw [World.cell?_setCell_other _ _ _ _ (by simp)]
    exact h1
section
variable {w : World} {g bo bw : Nat} {M : Nat → Prop} {R : List (Int × Int)} {O : List TE}
set_option maxHeartbeats 400000 in
theorem TU.take_any (h : TW w g bo bw M R O) {line : Int} (hl : In64 line) {p : TE} (hp : getK TE.s line O = some p) {x : Int × Int} {r : List (Int × Int)} (hx : p.l = x :: r) (hO : O.length ≤ 1000000) :
    Calls Try.prog 61 #[.pointer (some ⟨g, 0, none⟩), .int .i64 line] w fun e w' => e = .returned (.agg #[.int .i64 x.1, .int .i64 x.2]) ∧ Keep M w w' ∧ TW w' g bo bw M R (wtNext p O) := by
  obtain ⟨hpO, hps⟩ := getK_some hp
  have hlo : ∀ V, IM V bw (kv TE.s TE.val O) → (Instr.lookup 75 (.map (some bw)) (.int .i64 line) false).run Try.prog V = .ok p.val V := fun V hV => by
    have := im_lookW hV hl
    rw [this]
    unfold wtAt
    rw [hp]
  obtain ⟨hrw, hMb, hbg, hbbo, hbbw⟩ := h.rows p hpO
  have hap : ∀ q ∈ O, q.s ≠ p.s → q.b ≠ p.b := fun q hq hs => h.ap q hq p hpO hs
  obtain ⟨s, l, b, o, cap⟩ := p
  simp only at hrw hMb hbg hbbo hbbw hx hps hap
  subst hx hps
  unfold TE.val at hlo
  simp only at hlo
  have HPO : Hid ((⟨s, x :: r, b, o, cap⟩ : TE) ∈ O) := hpO
  obtain ⟨n, hn⟩ : ∃ n, (x :: r).length = n := ⟨_, rfl⟩
  rw [hn] at hrw hlo
  have HN : Hid ((x :: r).length = n) := hn
  have hle := hrw.le
  have hmx := hrw.max
  have hn1 : 1 ≤ n := by rw [← hn]; simp
  unfold maxLen at hmx
  obtain ⟨hcell, hbl⟩ : (∀ j u, (flat dcells (x :: r))[j]? = some u → w.cell? ⟨b, o + j, none⟩ = some u) ∧ b < w.heap.size := by
    rcases hrw.row with h0 | ⟨b', o', e, _, hb', hc, _⟩
    · omega
    · simp at e
      obtain ⟨rfl, rfl⟩ := e
      exact ⟨hc, hb'⟩
  obtain ⟨xw, xd⟩ := x
  have x0 : w.cell? ⟨b, o, none⟩ = some (.int .i64 xw) := hcell 0 _ rfl
  have x1 : w.cell? ⟨b, o + 1, none⟩ = some (.int .i64 xd) := hcell 1 _ rfl
  have lt := h.lt
  have c1 := h.c1
  have H : Hid (TW w g bo bw M R O) := h
  have B1 : Below w.heap.size w (w.alloc (.cells #[.int .i64 0, .int .i64 0] 108)) := ba (Below.refl _ _)
  have HA : Hid (TW (w.alloc (.cells #[.int .i64 0, .int .i64 0] 108)) g bo bw M R O) := h.below B1
  have HB : Hid (Below w.heap.size w (w.alloc (.cells #[.int .i64 0, .int .i64 0] 108))) := B1
  have hlA := hlo _ HA.out.wts
  have HLO : Hid _ := hlo
  have HR : Hid _ := hrw
  have HAP : Hid _ := hap
  have HIL : Hid (In64 s) := hl
  clear hlo hrw hcell hn hp hpO h hap B1 hl
  by_cases h1 : n = 1
  · subst h1
    have hO' : wtNext ⟨s, (xw, xd) :: r, b, o, cap⟩ O = delK TE.s s O := by unfold wtNext; rw [if_pos HN.out]
    rw [hO']
    have hrun := fun ty => (HA.out.wts.drop Try.underlying75 HIL.out ty)
    obtain ⟨w9, hrun9, im9, ht9⟩ := hrun 0
    rw [kv_del] at im9
    have CN := HA.out.newwt (s := s) (O' := delK TE.s s O) (F := fun j => j = bw) (turned_keep ht9) (fun j hj => by
      subst hj
      exact ⟨HA.out.mg.2.2, HA.out.ne.2.1, Ne.symm HA.out.ne.2.2, fun q hq _ => (HA.out.rows q hq).2.2.2.2⟩) im9 (rise_del HA.out.riseO) (fun q hq => HA.out.full q (mem_delK.1 hq).1) (fun q hq => .inl (mem_delK.1 hq))
    rw [sub_new (turned_size ht9)] at CN
    have hs9 := turned_size ht9
    have KN : Keep M w w9 := Keep.pre HB.out ((turned_keep ht9).mono (fun j _ hj => hj ▸ HA.out.mg.2.2))
    have k9 := turned_keep ht9
    have y0 : w9.cell? ⟨b, o, none⟩ = some (.int .i64 xw) := (k9.cell o (by simp; omega) hbbw).trans ((HB.out.cell (p := ⟨b, o, none⟩) hbl).trans x0)
    have y1 : w9.cell? ⟨b, o + 1, none⟩ = some (.int .i64 xd) := (k9.cell (o + 1) (by simp; omega) hbbw).trans ((HB.out.cell (p := ⟨b, o + 1, none⟩) hbl).trans x1)
    have lbw := H.out.wts.lt
    have z0 : w9.cell? ⟨w.heap.size, 0, none⟩ = some (.int .i64 0) := (k9.cell 0 (by simp) (by omega)).trans (by simp)
    have z1 : w9.cell? ⟨w.heap.size, 1, none⟩ = some (.int .i64 0) := (k9.cell 1 (by simp) (by omega)).trans (by simp)
    have f0 : w9.frozen? ⟨w.heap.size, 0, none⟩ = false := (k9.frozen 0 (by simp) (by omega)).trans (by simp)
    have f1 : w9.frozen? ⟨w.heap.size, 1, none⟩ = false := (k9.frozen 1 (by simp) (by omega)).trans (by simp)
    clear hrun im9 ht9 k9
    go_enter Try.func61, Try.ntmps61
    go_wp2_with fail
    obtain ⟨t0, t1⟩ := two_cells w9 w.heap.size (.int .i64 xw) (.int .i64 xd) (by rw [z0]; rfl) (by rw [z1]; rfl)
    refine bodyPost_ret (v := .agg #[.int .i64 xw, .int .i64 xd]) (by simp [results, Try.results61, go_sem, *]) rfl ⟨rfl, (KN.setCell (p := ⟨w.heap.size, 0, none⟩) (.inr (Nat.le_refl _)) _).setCell (p := ⟨w.heap.size, 1, none⟩) (.inr (Nat.le_refl _)) _, ?_⟩
    have hold := H.out.old
    exact (CN.keep (Keep.one _ _ _ _) (fun j hj e => by have := hold j hj; omega)).keep (Keep.one _ _ _ _) (fun j hj e => by have := hold j hj; omega)
  · have hO' : wtNext ⟨s, (xw, xd) :: r, b, o, cap⟩ O = putK TE.s ⟨s, r, b, o + 2, cap - 1⟩ O := by unfold wtNext; rw [if_neg (by rw [HN.out]; exact h1)]; rfl
    rw [hO']
    have hd1 : ((n : Int) == 1) = false := by simp; omega
    have hn2 : 2 ≤ n := by omega
    have hn3 : (1 : Int) ≤ (n : Int) := by omega
    clear h1
    have hcap : ¬ cap = 1 := by omega
    have y0 : (w.alloc (.cells #[.int .i64 0, .int .i64 0] 108)).cell? ⟨b, o, none⟩ = some (.int .i64 xw) := (HB.out.cell (p := ⟨b, o, none⟩) hbl).trans x0
    have y1 : (w.alloc (.cells #[.int .i64 0, .int .i64 0] 108)).cell? ⟨b, o + 1, none⟩ = some (.int .i64 xd) := (HB.out.cell (p := ⟨b, o + 1, none⟩) hbl).trans x1
    go_enter Try.func61, Try.ntmps61
    go_wp2_with fail
    refine wp_region_orders 8 rfl (by kernel_rfl) ?_
    have hBd : Below (w.alloc (.cells #[.int .i64 0, .int .i64 0] 108)).heap.size (w.alloc (.cells #[.int .i64 0, .int .i64 0] 108)) (w.alloc (.cells #[.int .i64 0, .int .i64 0] 108)).drew := (Below.refl _ _).drew
    have HV : Hid (TW (w.alloc (.cells #[.int .i64 0, .int .i64 0] 108)).drew g bo bw M R O) := HA.out.below hBd
    have HBV : Hid (Below w.heap.size w (w.alloc (.cells #[.int .i64 0, .int .i64 0] 108)).drew) := next HB.out hBd
    have e0 : (w.alloc (.cells #[.int .i64 0, .int .i64 0] 108)).drew.cell? ⟨b, o, none⟩ = some (.int .i64 xw) := y0
    have e1 : (w.alloc (.cells #[.int .i64 0, .int .i64 0] 108)).drew.cell? ⟨b, o + 1, none⟩ = some (.int .i64 xd) := y1
    have z0 : (w.alloc (.cells #[.int .i64 0, .int .i64 0] 108)).drew.cell? ⟨w.heap.size, 0, none⟩ = some (.int .i64 0) := by show (w.alloc (.cells #[.int .i64 0, .int .i64 0] 108)).cell? _ = _; simp
    have z1 : (w.alloc (.cells #[.int .i64 0, .int .i64 0] 108)).drew.cell? ⟨w.heap.size, 1, none⟩ = some (.int .i64 0) := by show (w.alloc (.cells #[.int .i64 0, .int .i64 0] 108)).cell? _ = _; simp
    have f0 : (w.alloc (.cells #[.int .i64 0, .int .i64 0] 108)).drew.frozen? ⟨w.heap.size, 0, none⟩ = false := by show (w.alloc (.cells #[.int .i64 0, .int .i64 0] 108)).frozen? _ = _; simp
    have f1 : (w.alloc (.cells #[.int .i64 0, .int .i64 0] 108)).drew.frozen? ⟨w.heap.size, 1, none⟩ = false := by show (w.alloc (.cells #[.int .i64 0, .int .i64 0] 108)).frozen? _ = _; simp
    have hszV : (w.alloc (.cells #[.int .i64 0, .int .i64 0] 108)).drew.heap.size = w.heap.size + 1 := by show (w.alloc (.cells #[.int .i64 0, .int .i64 0] 108)).heap.size = _; simp
    have HSZ : Hid _ := hszV
    have RV := HR.out.below HBV.out
    clear x0 x1 c1 y0 y1 hlA hBd hszV
    generalize (w.alloc (.cells #[.int .i64 0, .int .i64 0] 108)).drew = V0 at *
    have hI : (fun V : World => V.cell? ⟨g, 1, none⟩ = some (.map (some bw))) V0 := HV.out.c1
    refine any_inv (fun V : World => V.cell? ⟨g, 1, none⟩ = some (.map (some bw))) [7] hI ?_
    refine inv_take (v := ?v29) [1, 2, 3, 7] 0 hI rfl (by kernel_rfl) (by kernel_rfl) (by kernel_rfl) (by kernel_rfl) (by kernel_rfl) (fun _ _ _ h => h) (by kernel_rfl) (fun V hV => ?hy29) ?go29
    case hy29 => (have i1 := hV; go_simp <;> rfl)
    simp only [Act.put, List.setIfInBounds_toArray, List.set_cons_zero, List.set_cons_succ]
    refine inv_take (v := ?v30) [2, 3, 7] 1 hI rfl (by kernel_rfl) (by kernel_rfl) (by kernel_rfl) (by kernel_rfl) (by kernel_rfl) (fun _ _ _ h => h) (by kernel_rfl) (fun V hV => ?hy30) ?go30
    case hy30 => (have i1 := hV; go_simp <;> rfl)
    simp only [Act.put, List.setIfInBounds_toArray, List.set_cons_zero, List.set_cons_succ]
    refine inv_take (v := ?v31) [3, 7] 2 hI rfl (by kernel_rfl) (by kernel_rfl) (by kernel_rfl) (by kernel_rfl) (by kernel_rfl) (fun _ _ _ h => h) (by kernel_rfl) (fun V hV => ?hy31) ?go31
    case hy31 => (have i1 := hV; go_simp <;> rfl)
    simp only [Act.put, List.setIfInBounds_toArray, List.set_cons_zero, List.set_cons_succ]
    refine inv_take (v := ?v32) [7] 3 hI rfl (by kernel_rfl) (by kernel_rfl) (by kernel_rfl) (by kernel_rfl) (by kernel_rfl) (fun _ _ _ h => h) (by kernel_rfl) (fun V hV => ?hy32) ?go32
    case hy32 => (have i1 := hV; go_simp <;> rfl)
    simp only [Act.put, List.setIfInBounds_toArray, List.set_cons_zero, List.set_cons_succ]
    refine inv_take (v := ?v33) [7] 4 hI rfl (by kernel_rfl) (by kernel_rfl) (by kernel_rfl) (by kernel_rfl) (by kernel_rfl) (fun _ _ _ h => h) (by kernel_rfl) (fun V hV => ?hy33) ?go33
    case hy33 => (have i1 := hV; go_simp <;> rfl)
    simp only [Act.put, List.setIfInBounds_toArray, List.set_cons_zero, List.set_cons_succ]
    refine inv_take (v := ?v34) [6, 7] 5 hI rfl (by kernel_rfl) (by kernel_rfl) (by kernel_rfl) (by kernel_rfl) (by kernel_rfl) (fun _ _ _ h => h) (by kernel_rfl) (fun V hV => ?hy34) ?go34
    case hy34 => (have i1 := hV; go_simp <;> rfl)
    simp only [Act.put, List.setIfInBounds_toArray, List.set_cons_zero, List.set_cons_succ]
    refine inv_take (v := ?v35) [7] 6 hI rfl (by kernel_rfl) (by kernel_rfl) (by kernel_rfl) (by kernel_rfl) (by kernel_rfl) (fun _ _ _ h => h) (by kernel_rfl) (fun V hV => ?hy35) ?go35
    case hy35 => (have i1 := hV; go_simp <;> rfl)
    simp only [Act.put, List.setIfInBounds_toArray, List.set_cons_zero, List.set_cons_succ]
    obtain ⟨w9, hrun9, im9, ht9⟩ := HV.out.wts.store Try.underlying75 (by rw [kv_len]; unfold maxLen; omega) HIL.out (.slice (some ⟨b, o + 2, none⟩) (n - 1) (cap - 1))
    clear hI
    have hrl : r.length = n - 1 := by have := HN.out; simp at this; omega
    have im9' : IM w9 bw (kv TE.s TE.val (putK TE.s ⟨s, r, b, o + 2, cap - 1⟩ O)) := by
      rw [← kv_put]
      simp only
      unfold TE.val
      simp only [hrl]
      exact im9
    have k9 := turned_keep ht9
    have hs9 := turned_size ht9
    have R9 : Rw w9 (fun j => j = b) (some ⟨b, o + 2, none⟩) (n - 1) (cap - 1) 2 (flat dcells r) := by
      have hlen := RV.len
      have ec : flat dcells ((xw, xd) :: r) = .int .i64 xw :: .int .i64 xd :: flat dcells r := rfl
      rw [ec] at hlen
      simp at hlen
      refine (show Rw V0 (fun j => j = b) (some ⟨b, o + 2, none⟩) (n - 1) (cap - 1) 2 (flat dcells r) from ⟨by omega, by omega, by unfold maxLen; omega, fun h => (by cases h), ?_⟩).keep k9 (fun j hj e => hbbw (hj.symm.trans e))
      rcases RV.row with h0 | ⟨b', o', e, _, hb', hc, hf⟩
      · omega
      · simp at e
        obtain ⟨rfl, rfl⟩ := e
        refine .inr ⟨_, _, rfl, rfl, hb', fun j u hu => ?_, fun j hj => ?_⟩
        · rw [Nat.add_assoc]
          refine hc (2 + j) u ?_
          rw [ec, show 2 + j = j + 1 + 1 by omega]
          exact hu
        · rw [Nat.add_assoc]
          exact hf (2 + j) (by omega)
    have CN := HV.out.newwt (s := s) (O' := putK TE.s ⟨s, r, b, o + 2, cap - 1⟩ O) (F := fun j => j = bw) k9 (fun j hj => by
      subst hj
      exact ⟨HV.out.mg.2.2, HV.out.ne.2.1, Ne.symm HV.out.ne.2.2, fun q hq _ => (HV.out.rows q hq).2.2.2.2⟩) im9' (rise_put HV.out.riseO) (fun q hq => by
        rcases mem_putK.1 hq with rfl | ⟨hq, _⟩
        · intro e0
          simp only at e0
          rw [e0] at hrl
          simp at hrl
          omega
        · exact HV.out.full q hq) (fun q hq => by
        rcases mem_putK.1 hq with rfl | ⟨hq, hs⟩
        · refine .inr ⟨rfl, ?_, .inl ⟨hMb, hbg, hbbo, hbbw, HAP.out⟩⟩
          simp only
          rw [hrl]
          exact R9
        · exact .inl ⟨hq, hs⟩)
    rw [sub_new hs9] at CN
    have KN : Keep M w w9 := Keep.pre HBV.out (k9.mono (fun j _ hj => hj ▸ HV.out.mg.2.2))
    have hbV : b < V0.heap.size := by have := HBV.out.size; omega
    have lbw := H.out.wts.lt
    have q0 := (k9.cell o hbV hbbw).trans e0
    have q1 := (k9.cell (o + 1) hbV hbbw).trans e1
    have hwV : w.heap.size < V0.heap.size := by rw [HSZ.out]; omega
    have p0 := (k9.cell 0 hwV (by omega)).trans z0
    have p1 := (k9.cell 1 hwV (by omega)).trans z1
    have g0 := (k9.frozen 0 hwV (by omega)).trans f0
    have g1 := (k9.frozen 1 hwV (by omega)).trans f1
    refine inv_write 7 (by kernel_rfl) (by kernel_rfl) rfl ?_
    clear k9 im9 im9' R9 RV hrl e0 e1 z0 z1 f0 f1
    go_wp2_with fail
    refine then_n ?_
    refine any_done (by kernel_rfl) ?_
    clear hrun9 ht9
    go_wp2_with fail
    obtain ⟨t0, t1⟩ := two_cells w9 w.heap.size (.int .i64 xw) (.int .i64 xd) (by rw [p0]; rfl) (by rw [p1]; rfl)
    refine bodyPost_ret (v := .agg #[.int .i64 xw, .int .i64 xd]) (by simp [results, Try.results61, go_sem, *]) rfl ⟨rfl, (KN.setCell (p := ⟨w.heap.size, 0, none⟩) (.inr (Nat.le_refl _)) _).setCell (p := ⟨w.heap.size, 1, none⟩) (.inr (Nat.le_refl _)) _, ?_⟩
    have hold := H.out.old
    exact (CN.keep (Keep.one _ _ _ _) (fun j hj e => by have := hold j hj; omega)).keep (Keep.one _ _ _ _) (fun j hj e => by have := hold j hj; omega)
theorem TU.next_no (h : TW w g bo bw M R O) {line : Int} (hl : In64 line) (hn : ¬ (ownR R line = -1 ∧ wtO O line ≠ [])) :
    Calls Try.prog 34 #[.pointer (some ⟨g, 0, none⟩), .int .i64 line] w fun e w' => e = .returned (.tuple #[.int .i64 0, .int .i64 0, .bool false]) ∧ w = w' := by
  have HO : Hid (decide (ownR R line = -1 ∧ wtO O line ≠ []) = false) := decide_eq_false hn
  clear hn
  go_enter Try.func34, Try.ntmps34
  go_wp2_with (go_at_call 59; refine (TU.isReady_any h hl).mono ?_; rintro e w1 ⟨rfl, rfl⟩; rw [HO.out])
  exact bodyPost_ret (v := .tuple #[.int .i64 0, .int .i64 0, .bool false]) (by simp [results, Try.results34, go_sem]) rfl ⟨rfl, rfl⟩
set_option maxHeartbeats 400000 in
theorem TU.next_ok (h : TW w g bo bw M R O) {line : Int} (hl : In64 line) (h1 : ownR R line = -1) {p : TE} (hp : getK TE.s line O = some p) {x : Int × Int} {r : List (Int × Int)} (hx : p.l = x :: r) (h0 : 0 ≤ x.1) (hO : O.length ≤ 1000000) (hR : R.length ≤ 1000000) :
    Calls Try.prog 34 #[.pointer (some ⟨g, 0, none⟩), .int .i64 line] w fun e w' => e = .returned (.tuple #[.int .i64 x.1, .int .i64 x.2, .bool true]) ∧ Keep M w w' ∧ TW w' g bo bw M (putK Prod.fst (line, x.1) R) (wtNext p O) := by
  have HO : Hid (decide (ownR R line = -1 ∧ wtO O line ≠ []) = true) := decide_eq_true ⟨h1, by unfold wtO; rw [hp]; simp [hx]⟩
  obtain ⟨xw, xd⟩ := x
  have HK := TU.take_any h hl hp hx hO
  have H : Hid (TW w g bo bw M R O) := h
  have HIL : Hid (In64 line) := hl
  have H0 : Hid (0 ≤ xw) := h0
  obtain ⟨O', hO'⟩ : ∃ O', wtNext p O = O' := ⟨_, rfl⟩
  rw [hO'] at HK ⊢
  simp only at HK
  clear hp hx h1 hO' h0 hl h hO
  go_enter Try.func34, Try.ntmps34
  go_upto_region 4 with (first
    | (go_at_call 61; refine HK.mono ?_; rintro e w2 ⟨rfl, k2, T2⟩)
    | (go_at_call 59; refine (TU.isReady_any H.out HIL.out).mono ?_; rintro e w1 ⟨rfl, rfl⟩; rw [HO.out]))
  have B3 : Below w2.heap.size w2 (w2.alloc (.cells #[.int .i64 xw, .int .i64 xd] 108)) := ba (Below.refl _ _)
  have T3 := T2.below B3
  have K3 : Keep M w (w2.alloc (.cells #[.int .i64 xw, .int .i64 xd] 108)) := k2.next B3
  have d0 : (w2.alloc (.cells #[.int .i64 xw, .int .i64 xd] 108)).cell? ⟨w2.heap.size, 0, none⟩ = some (.int .i64 xw) := by simp
  have d1 : (w2.alloc (.cells #[.int .i64 xw, .int .i64 xd] 108)).cell? ⟨w2.heap.size, 1, none⟩ = some (.int .i64 xd) := by simp
  have hgs : w2.heap.size < (w2.alloc (.cells #[.int .i64 xw, .int .i64 xd] 108)).heap.size := by simp
  have HGS : Hid _ := hgs
  have hnb : ∀ j, M j → j ≠ w2.heap.size := fun j hj e => by have := T2.old j hj; omega
  have HNB : Hid _ := hnb
  clear hgs hnb B3 T2 k2
  generalize w2.heap.size = gs at *
  generalize w2.alloc _ = V2 at *
  clear w2
  refine wp_region_orders 8 rfl (by kernel_rfl) ?_
  have hBd : Below V2.heap.size V2 V2.drew := (Below.refl _ _).drew
  have HV : Hid (TW V2.drew g bo bw M R O') := T3.below hBd
  have HKV : Hid (Keep M w V2.drew) := K3.next hBd
  have e0 : V2.drew.cell? ⟨gs, 0, none⟩ = some (.int .i64 xw) := d0
  have e1 : V2.drew.cell? ⟨gs, 1, none⟩ = some (.int .i64 xd) := d1
  have HGS2 : Hid (gs < V2.drew.heap.size) := HGS.out
  clear d0 d1 T3 K3 hBd HGS
  generalize V2.drew = V0 at *
  clear V2
  have hI : (fun V : World => V.cell? ⟨g, 0, none⟩ = some (.map (some bo)) ∧ V.cell? ⟨gs, 0, none⟩ = some (.int .i64 xw)) V0 := ⟨HV.out.c0, e0⟩
  refine any_inv (fun V : World => V.cell? ⟨g, 0, none⟩ = some (.map (some bo)) ∧ V.cell? ⟨gs, 0, none⟩ = some (.int .i64 xw)) [7] hI ?_
  refine inv_take (v := ?v36) [1, 2, 3, 7] 0 hI rfl (by kernel_rfl) (by kernel_rfl) (by kernel_rfl) (by kernel_rfl) (by kernel_rfl) (fun _ _ _ h => h) (by kernel_rfl) (fun V hV => ?hy36) ?go36
  case hy36 => (obtain ⟨i1, i2⟩ := hV; go_simp <;> rfl)
  simp only [Act.put, List.setIfInBounds_toArray, List.set_cons_zero, List.set_cons_succ]
  refine inv_take (v := ?v37) [2, 3, 7] 1 hI rfl (by kernel_rfl) (by kernel_rfl) (by kernel_rfl) (by kernel_rfl) (by kernel_rfl) (fun _ _ _ h => h) (by kernel_rfl) (fun V hV => ?hy37) ?go37
  case hy37 => (obtain ⟨i1, i2⟩ := hV; go_simp <;> rfl)
  simp only [Act.put, List.setIfInBounds_toArray, List.set_cons_zero, List.set_cons_succ]
  refine inv_take (v := ?v38) [3, 7] 2 hI rfl (by kernel_rfl) (by kernel_rfl) (by kernel_rfl) (by kernel_rfl) (by kernel_rfl) (fun _ _ _ h => h) (by kernel_rfl) (fun V hV => ?hy38) ?go38
  case hy38 => (obtain ⟨i1, i2⟩ := hV; go_simp <;> rfl)
  simp only [Act.put, List.setIfInBounds_toArray, List.set_cons_zero, List.set_cons_succ]
  refine inv_take (v := ?v39) [7] 3 hI rfl (by kernel_rfl) (by kernel_rfl) (by kernel_rfl) (by kernel_rfl) (by kernel_rfl) (fun _ _ _ h => h) (by kernel_rfl) (fun V hV => ?hy39) ?go39
  case hy39 => (obtain ⟨i1, i2⟩ := hV; go_simp <;> rfl)
  simp only [Act.put, List.setIfInBounds_toArray, List.set_cons_zero, List.set_cons_succ]
  refine inv_take (v := ?v40) [7] 4 hI rfl (by kernel_rfl) (by kernel_rfl) (by kernel_rfl) (by kernel_rfl) (by kernel_rfl) (fun _ _ _ h => h) (by kernel_rfl) (fun V hV => ?hy40) ?go40
  case hy40 => (obtain ⟨i1, i2⟩ := hV; go_simp <;> rfl)
  simp only [Act.put, List.setIfInBounds_toArray, List.set_cons_zero, List.set_cons_succ]
  refine inv_take (v := ?v41) [6, 7] 5 hI rfl (by kernel_rfl) (by kernel_rfl) (by kernel_rfl) (by kernel_rfl) (by kernel_rfl) (fun _ _ _ h => h) (by kernel_rfl) (fun V hV => ?hy41) ?go41
  case hy41 => (obtain ⟨i1, i2⟩ := hV; go_simp <;> rfl)
  simp only [Act.put, List.setIfInBounds_toArray, List.set_cons_zero, List.set_cons_succ]
  refine inv_take (v := ?v42) [7] 6 hI rfl (by kernel_rfl) (by kernel_rfl) (by kernel_rfl) (by kernel_rfl) (by kernel_rfl) (fun _ _ _ h => h) (by kernel_rfl) (fun V hV => ?hy42) ?go42
  case hy42 => (obtain ⟨i1, i2⟩ := hV; go_simp <;> rfl)
  simp only [Act.put, List.setIfInBounds_toArray, List.set_cons_zero, List.set_cons_succ]
  obtain ⟨w9, hrun9, im9, ht9⟩ := HV.out.own.store Try.underlying74 (by rw [kv_len]; unfold maxLen; omega) HIL.out (.int .i64 xw)
  have im9' : IM w9 bo (kv Prod.fst oVal (putK Prod.fst (line, xw) R)) := by
    rw [← kv_put]; exact im9
  have CN := HV.out.newown ht9 im9' (rise_put HV.out.rise) (fun p hp => by
    rcases mem_putK.1 hp with rfl | ⟨hp, _⟩
    · exact H0.out
    · exact HV.out.pos p hp)
  have k9 := turned_keep ht9
  have KN : Keep M w w9 := HKV.out.trans k9 (fun j _ hj => hj ▸ HV.out.mg.2.1)
  have hne : gs ≠ bo := fun e => HNB.out bo HV.out.mg.2.1 e.symm
  have p0 := (k9.cell 0 HGS2.out hne).trans e0
  have p1 := (k9.cell 1 HGS2.out hne).trans e1
  refine inv_write 7 (by kernel_rfl) (by kernel_rfl) rfl ?_
  clear k9 im9 im9' e0 e1 hI
  go_wp2_with fail
  refine then_n ?_
  refine any_done (by kernel_rfl) ?_
  clear hrun9 ht9
  go_wp2_with fail
  go_quiet (fail)
  go_wp2_with fail
  exact bodyPost_ret (v := .tuple #[.int .i64 xw, .int .i64 xd, .bool true]) (by simp [results, Try.results34, go_sem, *]) rfl ⟨rfl, KN.next (below_dn w9 _), CN.below (below_dn w9 _)⟩
end
end Go.Proofs.Ytgeiagndpfdnlaa
