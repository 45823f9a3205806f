/- The walk of HomeErrors. Conditions: as the theorem states them. -/
import Derived.Test.YtgeiagndpfdnlaaHm9
import Derived.Test.YtgeiagndpfdnlaaIntsSame
namespace Go.Proofs.Ytgeiagndpfdnlaa
open Go.RowKit Go.Maps
set_option linter.unusedVariables false
set_option maxRecDepth 20000

/-- The eight requests that are not taken, and their errors. -/
def ePk (N hd : Int) : Nat → Pk
  | 0 => zeroPk
  | 1 => ⟨3, 0, 0, 0, 0, 0, 0, false, []⟩
  | 2 => ⟨7, 0, 0, 0, 0, 0, 0, false, []⟩
  | 3 => ⟨1, 0, 1, 0, 0, 0, 0, false, []⟩
  | 4 => ⟨1, N, 0, 0, 0, 0, 0, false, []⟩
  | 5 => ⟨1, hd, 0, 0, 7, 0, 0, false, []⟩
  | 6 => ⟨2, hd, 0, 0, 0, 0, 1, false, []⟩
  | _ => ⟨1, 0, 0, -1, 0, 0, 0, false, []⟩
def eEr : Nat → Int
  | 5 => 3
  | 6 => 6
  | _ => 1
def eRow (N hd : Int) (j : Nat) : List Value := pcells (ePk N hd j) (.slice none 0 0) ++ [.int .i64 (eEr j)]
theorem eEr_ne (j : Nat) : eEr j ≠ 0 := by unfold eEr; split <;> decide
theorem ePk_z (N hd : Int) (j : Nat) : (ePk N hd j).z = [] := by unfold ePk; split <;> rfl
theorem ePk_l (N hd : Int) (j : Nat) : In64 (ePk N hd j).l := by unfold ePk In64; split <;> simp [zeroPk] <;> omega
theorem right_f {x : Pk} (h : ¬ x.Right) : x.right = false := by
  cases hr : x.right with
  | false => rfl
  | true => exact absurd ((Pk.right_iff x).1 hr) h
theorem hErr_taken {N : Nat} {K node : Int} {L : List Hr} {o : List (Int × Int)} {x : Pk} (h : tknP N node x = false) : hErr N K node L o x = 1 := by
  have e : ckE N node L x = 1 := by unfold ckE; rw [h]; rfl
  unfold hErr
  rw [e]
  rfl
theorem ePk_err {N : Nat} {K hd : Int} {L : List Hr} (hN : 1 ≤ N ∧ N ≤ 4) (hh : 0 ≤ hd ∧ hd < (N : Int)) (h0 : hasH L 0 = true) (h7 : hasH L 7 = false) : ∀ j, j < 8 → hErr N K 0 L [] (ePk N hd j) = eEr j := by
  intro j hj
  have h8 : j = 0 ∨ j = 1 ∨ j = 2 ∨ j = 3 ∨ j = 4 ∨ j = 5 ∨ j = 6 ∨ j = 7 := by omega
  have ho : ownT [] 0 = -1 := rfl
  rcases h8 with rfl | rfl | rfl | rfl | rfl | rfl | rfl | rfl
  · refine hErr_taken ?_
    unfold tknP
    rw [show (ePk N hd 0).right = false from rfl]
    rfl
  · refine hErr_taken ?_
    unfold tknP
    rw [decide_eq_false (by simp [ePk]), Bool.and_false]
  · refine hErr_taken ?_
    unfold tknP
    rw [decide_eq_false (by simp [ePk]), Bool.and_false]
  · refine hErr_taken ?_
    unfold tknP
    rw [decide_eq_false (by simp [ePk]), Bool.and_false]
  · refine hErr_taken ?_
    unfold tknP
    rw [decide_eq_false (by simp [ePk]), Bool.and_false]
  · have ht : tknP N 0 (ePk N hd 5) = true := by
      unfold tknP
      rw [(Pk.right_iff _).2 ⟨by simp [ePk], by simp [ePk]; omega, by simp [ePk], by simp [ePk], by simp [ePk], by simp [ePk], by simp [ePk], by simp [ePk]⟩, decide_eq_true (by simp [ePk]; omega)]
      rfl
    have e : ckE N 0 L (ePk N hd 5) = 3 := by unfold ckE; rw [if_pos ht, show (ePk N hd 5).l = 7 from rfl, h7]; rfl
    unfold hErr
    rw [e]
    rfl
  · have ht : tknP N 0 (ePk N hd 6) = true := by
      unfold tknP
      rw [(Pk.right_iff _).2 ⟨by simp [ePk], by simp [ePk]; omega, by simp [ePk], by simp [ePk], by simp [ePk], by simp [ePk], by simp [ePk], by simp [ePk]⟩, decide_eq_true (by simp [ePk]; omega)]
      rfl
    have e : ckE N 0 L (ePk N hd 6) = 0 := by unfold ckE; rw [if_pos ht, show (ePk N hd 6).l = 0 from rfl, h0]; rfl
    unfold hErr
    rw [if_pos e, if_neg (by simp [ePk])]
    unfold ulE
    rw [show (ePk N hd 6).l = 0 from rfl, ho, if_neg (by simp [ePk]; omega)]
    rfl
  · refine hErr_taken ?_
    unfold tknP
    rw [right_f (fun h => by have := h.i.1; simp [ePk] at this), Bool.false_and]
theorem ckE_0 {N : Nat} {L : List Hr} {x : Pk} (hr : x.Right) (h1 : x.t = 0) (h2 : x.f < (N : Int)) (h3 : x.k = 1 ∨ x.k = 2) (hh : hasH L x.l = true) : ckE N 0 L x = 0 := by
  unfold ckE tknP
  rw [(Pk.right_iff _).2 hr, decide_eq_true ⟨h1, h2, h3⟩, hh]
  rfl
theorem herr_u1 {N : Nat} {K hd : Int} {L : List Hr} (hN : 1 ≤ N ∧ N ≤ 4) (hh : 0 ≤ hd ∧ hd < (N : Int)) (h0 : hasH L 0 = true) : hErr N K 0 L [(0, hd)] ⟨2, hd, 0, 0, 0, hd, 0, false, []⟩ = 1 := by
  have e : ckE N 0 L ⟨2, hd, 0, 0, 0, hd, 0, false, []⟩ = 0 := ckE_0 ⟨by simp, by simp; omega, by simp, by simp, by simp, by simp; omega, by simp, by simp⟩ rfl hh.2 (.inr rfl) h0
  have ho : ownT [(0, hd)] 0 = hd := rfl
  unfold hErr
  rw [if_pos e, if_neg (by simp)]
  unfold ulE
  rw [if_pos ho]
  unfold setR
  rw [if_pos h0, if_neg]
  unfold setOk
  have h1 : (hd == -1) = false := by simp; omega
  simp [h1]
theorem herr_u2 {N : Nat} {K hd : Int} {L : List Hr} (hN : 1 ≤ N ∧ N ≤ 4) (hh : 0 ≤ hd ∧ hd < (N : Int)) (h0 : hasH L 0 = true) : ckE N 0 L ⟨2, hd, 0, 0, 0, -1, 0, false, []⟩ = 0 ∧ ownT [(0, hd)] 0 = hd ∧ (setR N K L 0 0 (-1) []).1 = 0 ∧ relO [(0, hd)] 0 = [] := by
  refine ⟨ckE_0 ⟨by simp, by simp; omega, by simp, by simp, by simp, by simp, by simp, by simp⟩ rfl hh.2 (.inr rfl) h0, rfl, ?_, rfl⟩
  unfold setR
  rw [if_pos h0, if_pos]
  unfold setOk
  simp
  omega
set_option maxHeartbeats 2000000 in
theorem homeErrors_walk (w : World) (v : Value) (hv : IsSetup w v) (x : Int) :
    Calls Try.prog 3 #[v, .int .i64 x] w fun e w' => e = .returned (.bool true) ∧ Below w.heap.size w w' := by
  obtain ⟨n, l, k, s, y, o, i, a0, n0, q0, z0, a1, n1, q1, z1, a2, n2, q2, z2, a3, n3, q3, z3, a4, n4, q4, z4, rfl, h0, h1, h2, h3, h4⟩ := hv
  clear h1 h2 h3 h4
  unfold setup
  go_enter Try.func3, Try.ntmps3
  go_upto_region 2 with (go_at_call 7; refine (config_c _ _ _ _ _ _ _ _ _ _ _ _ _ _ z0 _ (h0.below (by exact ba (Below.refl _ _)))).mono ?_; rintro e w1 ⟨N, L, K, S, Y, O, I, zi, av, nv, cv, rfl, hcf, hnv, hown, hb1⟩; unfold cfg)
  have hB := ba (o := .cells #[.int .i64 (N : Int), .int .i64 (L : Int), .int .i64 (K : Int), .int .i64 (S : Int), .int .i64 (Y : Int), .int .i64 (O : Int), .int .i64 (I : Int), .slice av nv cv] 26) (next (ba (Below.refl _ _)) hb1)
  have hcb := CB.made w1 N L K S Y O I (.slice av nv cv)
  have hsl := (own_sl hown).below (ba (o := .cells #[.int .i64 (N : Int), .int .i64 (L : Int), .int .i64 (K : Int), .int .i64 (S : Int), .int .i64 (Y : Int), .int .i64 (O : Int), .int .i64 (I : Int), .slice av nv cv] 26) (Below.refl _ _))
  generalize w1.alloc (.cells #[.int .i64 (N : Int), .int .i64 (L : Int), .int .i64 (K : Int), .int .i64 (S : Int), .int .i64 (Y : Int), .int .i64 (O : Int), .int .i64 (I : Int), .slice av nv cv] 26) = W at *
  generalize w1.heap.size = gc at *
  have hbd := hcf.bd
  obtain ⟨N0, N1, L0, L1, K0, K1, S0, S1, Y0, Y1, O0, O1, I0, I1⟩ := hcf.bd
  obtain ⟨p0, p2, p3⟩ := mul_bd L0 L1 K0 K1
  have hnk : nv ≤ L * K := by have := hcf.len; have := hnv.out; omega
  have hnew := hnew_any (w := w) (X := fun j => j = gc) N L K S Y O I av nv cv zi 0 hB (fun j hj => hj ▸ hcb.lt) hsl N0 (by omega) (by omega) K0 (by omega) (by omega) (chk_true hbd hnk)
  have HH : Hid (hasH (rows0 zi N L K 0 L) 0 = true) := hasH_some (rows0_in (by omega) (by omega) (by unfold remI; simp))
  have HNL : Hid (hasH (rows0 zi N L K 0 L) 7 = false) := hasH_none (rows0_no (.inr (.inl (by omega))))
  clear hcf hown hb1 h0 hsl p0 p2 p3 S0 S1 Y0 Y1 O0 O1 I0 I1 hnv hnk hbd
  unfold cfg at hnew
  generalize rows0 zi N L K 0 L = R0 at *
  obtain ⟨c0, c1, c2, c3, c4, c5, c6, c7, clt⟩ := hcb
  go_upto_region 5 with (go_at_call 8; refine hnew.mono ?_; rintro e w2 ⟨g, g1, g2, rfl, b2, h1⟩; replace hB := next hB b2; replace c0 := (b2.cell (p := ⟨gc, 0, none⟩) clt).trans c0; replace clt := Nat.lt_of_lt_of_le clt b2.size)
  clear hnew c1 c2 c3 c4 c5 c6 c7 b2
  clear W w1
  have hmw : 0 ≤ x % (N : Int) ∧ x % (N : Int) < (N : Int) := ⟨Int.emod_nonneg _ (by omega), Int.emod_lt_of_pos _ (by omega)⟩
  obtain ⟨hd, hhd⟩ : ∃ hd, x % (N : Int) = hd := ⟨_, rfl⟩
  have HHD : Hid (x % (N : Int) = hd) := hhd
  rw [hhd] at hmw
  clear hhd
  go_upto_region 6 with (go_at_call 9; refine (within_any _ _ _ (by omega) (by omega)).mono ?_; rintro e wx ⟨rfl, rfl⟩; rw [HHD.out])
  have hws : w.heap.size ≤ w2.heap.size := hB.size
  go_wp2_with fail
  generalize hW : World.alloc w2 _ = V0 at *
  have hc : Hid (∀ j, j < 8 → ∀ k, k < 10 → V0.cell? ⟨w2.heap.size, j * 10 + k, none⟩ = (eRow N hd j)[k]?) := by
    intro j hj k hk
    rw [← hW, cell_new]
    have h8 : j = 0 ∨ j = 1 ∨ j = 2 ∨ j = 3 ∨ j = 4 ∨ j = 5 ∨ j = 6 ∨ j = 7 := by omega
    have h10 : k = 0 ∨ k = 1 ∨ k = 2 ∨ k = 3 ∨ k = 4 ∨ k = 5 ∨ k = 6 ∨ k = 7 ∨ k = 8 ∨ k = 9 := by omega
    rcases h8 with rfl | rfl | rfl | rfl | rfl | rfl | rfl | rfl <;> rcases h10 with rfl | rfl | rfl | rfl | rfl | rfl | rfl | rfl | rfl | rfl <;> rfl
  have bV : Below w2.heap.size w2 V0 := by rw [← hW]; exact ba (Below.refl _ _)
  have hgd : w2.heap.size < V0.heap.size := by rw [← hW]; simp
  clear hW
  have h2 := h1.step (F := fun _ => False) (Y := fun j => j = gc ∨ j = w2.heap.size) (Keep.of_below bV) (fun _ h => h.elim) (fun j hj => by
    rcases hj with rfl | rfl
    · exact ⟨.inl rfl, by omega⟩
    · exact ⟨.inr (Nat.le_refl _), hgd⟩)
  replace hB := next hB bV
  replace c0 := (bV.cell (p := ⟨gc, 0, none⟩) clt).trans c0
  have HWS : Hid (w.heap.size ≤ w2.heap.size) := hws
  have HGD : Hid (gc < V0.heap.size ∧ w2.heap.size < V0.heap.size) := ⟨by omega, hgd⟩
  have HER : Hid (∀ j, j < 8 → hErr N K 0 R0 [] (ePk N hd j) = eEr j) := ePk_err ⟨N0, N1⟩ hmw HH.out HNL.out
  clear h1 bV hgd hws clt
  generalize w2.heap.size = gd at *
  clear w2
  go_loopw [53] (fun vj wx => ∃ j : Nat, vj = .int .i64 (j : Int) ∧ j ≤ 8 ∧ PH w wx g g1 g2 (fun j => j = gc ∨ j = gd) N K 0 R0 0 [] [] ∧ Keep (NX w (fun j => j = gc ∨ j = gd)) V0 wx) (fun vj _ => 8 - (intOf vj).toNat)
  case atStart => exact ⟨0, rfl, by omega, h2, Keep.refl _ _⟩
  case round =>
    obtain ⟨j, rfl, hj, hx, hk⟩ := hrel
    by_cases hlt8 : j < 8
    · have hcell : ∀ k, k < 10 → _ := fun k hkk => (hk.cell (b := gd) (j * 10 + k) HGD.out.2 (fun hf => hf.2 (.inr rfl))).trans (hc.out j hlt8 k hkk)
      have her := HER.out j hlt8
      have hne := eEr_ne j
      have hz := ePk_z N hd j
      have hl := ePk_l N hd j
      unfold eRow at hcell
      generalize ePk N hd j = xp at *
      generalize eEr j = E at *
      obtain ⟨q0, q1, q2, q3, q4, q5, q6, q7, q8, q9⟩ : _ ∧ _ ∧ _ ∧ _ ∧ _ ∧ _ ∧ _ ∧ _ ∧ _ ∧ _ := ⟨hcell 0 (by omega), hcell 1 (by omega), hcell 2 (by omega), hcell 3 (by omega), hcell 4 (by omega), hcell 5 (by omega), hcell 6 (by omega), hcell 7 (by omega), hcell 8 (by omega), hcell 9 (by omega)⟩
      simp only [pcells, List.cons_append, List.nil_append, List.getElem?_cons_zero, List.getElem?_cons_succ, Nat.add_zero] at q0 q1 q2 q3 q4 q5 q6 q7 q8 q9
      have HE : Hid (hErr N K 0 R0 [] xp = E ∧ E ≠ 0 ∧ xp.z = [] ∧ In64 xp.l) := ⟨her, hne, hz, hl⟩
      clear hcell her hne hz hl
      go_upto_region 9 with fail
      generalize hW : World.alloc wr _ = W at *
      have y0 : W.cell? ⟨wr.heap.size, 0, none⟩ = some (.int .i64 xp.k) := by rw [← hW]; simp
      have y1 : W.cell? ⟨wr.heap.size, 1, none⟩ = some (.int .i64 xp.f) := by rw [← hW]; simp
      have y2 : W.cell? ⟨wr.heap.size, 2, none⟩ = some (.int .i64 xp.t) := by rw [← hW]; simp
      have y3 : W.cell? ⟨wr.heap.size, 3, none⟩ = some (.int .i64 xp.i) := by rw [← hW]; simp
      have y4 : W.cell? ⟨wr.heap.size, 4, none⟩ = some (.int .i64 xp.l) := by rw [← hW]; simp
      have y5 : W.cell? ⟨wr.heap.size, 5, none⟩ = some (.int .i64 xp.p) := by rw [← hW]; simp
      have y6 : W.cell? ⟨wr.heap.size, 6, none⟩ = some (.int .i64 xp.s) := by rw [← hW]; simp
      have y7 : W.cell? ⟨wr.heap.size, 7, none⟩ = some (.bool xp.fl) := by rw [← hW]; simp
      have y8 : W.cell? ⟨wr.heap.size, 8, none⟩ = some (.slice none 0 0) := by rw [← hW]; simp
      have y9 : W.cell? ⟨wr.heap.size, 9, none⟩ = some (.int .i64 E) := by rw [← hW]; simp
      have bW : Below wr.heap.size wr W := by rw [← hW]; exact ba (Below.refl _ _)
      have gW : wr.heap.size < W.heap.size := by rw [← hW]; simp
      have h3 := hx.own bW
      have hk3 := hk.trans (Keep.of_below (F := fun _ => False) bW) (fun _ _ h => h.elim)
      have HGW : Hid (gd < wr.heap.size ∧ V0.heap.size ≤ wr.heap.size ∧ wr.heap.size < W.heap.size) := ⟨Nat.lt_of_lt_of_le HGD.out.2 hk.size, hk.size, gW⟩
      have HXW : Hid ((wr.heap.size = gc ∨ wr.heap.size = gd) ∨ (wr.heap.size ≤ wr.heap.size ∧ wr.heap.size < W.heap.size)) := .inr ⟨Nat.le_refl _, gW⟩
      clear hW q0 q1 q2 q3 q4 q5 q6 q7 q8 q9 hx hk bW
      have HXX : Hid (∀ j, (j = gc ∨ j = gd) → ((j = gc ∨ j = gd) ∨ (wr.heap.size ≤ j ∧ j < W.heap.size))) := fun j hj => .inl hj
      generalize wr.heap.size = gx at *
      obtain ⟨zw, ezw⟩ : ∃ zw, W.heap.size = zw := ⟨_, rfl⟩
      have EZ : Hid (W.heap.size = zw) := ezw
      rw [ezw] at h3 HGW HXW HXX gW
      clear ezw
      have hgx : gx < W.heap.size := by have := EZ.out; omega
      go_upto_region 10 with (go_at_call 10; refine (hh_err h3 xp none 0 0 (by rw [HE.out.2.2.1]; exact sl_nil _) HE.out.2.2.2 HE.out.1 HE.out.2.1).mono ?_; rintro e W2 ⟨rfl, hk4, h4⟩)
      have z9 := (hk4.cell (b := gx) 9 hgx (fun hf => hf.2 HXW.out)).trans y9
      have hgx2 := Nat.lt_of_lt_of_le hgx hk4.size
      have hk5 := hk3.trans (hk4.mono (G := NX w (fun j => j = gc ∨ j = gd)) (fun j _ hj => nx_less HXX.out hj)) (fun j _ h => h)
      have h5 := h4.off HXX.out
      clear h3 hk3 h4 hk4 y0 y1 y2 y3 y4 y5 y6 y7 y8 y9 HXX HXW HGW EZ gW hgx
      have b5 : Below W2.heap.size W2 (W2.alloc (.cells #[.int .i64 zeroPk.k, .int .i64 zeroPk.f, .int .i64 zeroPk.t, .int .i64 zeroPk.i, .int .i64 zeroPk.l, .int .i64 zeroPk.p, .int .i64 zeroPk.s, .bool zeroPk.fl, .slice none 0 0] 32)) := ba (Below.refl _ _)
      replace z9 := (b5.cell (p := ⟨gx, 9, none⟩) hgx2).trans z9
      replace h5 := h5.below b5
      replace hk5 := hk5.trans (Keep.of_below (F := fun _ => False) b5) (fun _ _ h => h.elim)
      clear b5 hgx2
      clear W
      generalize World.alloc W2 _ = W3 at *
      go_wp2_with fail
      go_roundw
      case rel => exact ⟨j + 1, by go_num, by omega, h5, hk5⟩
      case measure => simp [intOf]; omega
    · obtain rfl : j = 8 := by omega
      have i0 : In64 0 := by unfold In64; omega
      have HTK : Hid (ckE N 0 R0 ⟨1, hd, 0, 0, 0, 0, 0, false, []⟩ = 0) := by
        show _ = _
        unfold ckE tknP
        rw [(Pk.right_iff _).2 ⟨by simp, by simp; omega, by simp, by simp, by simp, by simp, by simp, by simp⟩, decide_eq_true ⟨rfl, by simp; omega, .inl rfl⟩, HH.out]
        rfl
      have hbx := hx.bel
      clear h2 hB hk hc HER c0
      have c1 := hx.c1
      go_upto_region 15 with (first
        | (go_at_call 11; refine (hp_owner hx.hp i0).mono ?_; rw [show ownT [] 0 = -1 from rfl]; rintro e V1 ⟨rfl, rfl⟩)
        | (go_at_call 12; refine (hp_waiting hx.hp i0).mono ?_; rw [show (waitT [] 0).length = 0 from rfl]; rintro e V1 ⟨rfl, rfl⟩)
        | (go_at_call 13; refine (hpend_any hx (by omega) false rfl).mono ?_; rintro e V2 ⟨rfl, b6⟩))
      have h6 := hx.below b6
      have HH1 : Hid (askB [] [] 0 = true) := rfl
      clear hx b6 c1 hbx
      have heo : Hid (askO [] [] 0 hd = [(0, hd)]) := rfl
      have heq : Hid (askQ [] [] 0 hd 0 = []) := rfl
      have HU1 : Hid (hErr N K 0 R0 [(0, hd)] ⟨2, hd, 0, 0, 0, hd, 0, false, []⟩ = 1) := herr_u1 ⟨N0, N1⟩ hmw HH.out
      have HU2 : Hid (ckE N 0 R0 ⟨2, hd, 0, 0, 0, -1, 0, false, []⟩ = 0 ∧ ownT [(0, hd)] 0 = hd ∧ (setR N K R0 0 0 (-1) []).1 = 0 ∧ relO [(0, hd)] 0 = []) := herr_u2 ⟨N0, N1⟩ hmw HH.out
      obtain ⟨P, hP⟩ : ∃ P, grantR 0 hd 0 0 R0 = P := ⟨_, rfl⟩
      have HP : Hid (grantR 0 hd 0 0 R0 = P) := hP
      clear hP
      go_upto_region 18 with (go_at_call 10; refine (hh_grant h6 ⟨1, hd, 0, 0, 0, 0, 0, false, []⟩ none 0 0 (sl_nil _) i0 HTK.out rfl HH1.out (by omega)).mono ?_; rw [HP.out, heo.out, heq.out]; rintro e W3 ⟨dd, rfl, hdd, hk6, h7⟩; obtain ⟨a5, n5, c5, ed, _⟩ := id hdd; subst ed; clear hdd)
      have h8 := h7.below (ba (o := .cells #[.int .i64 P.k, .int .i64 P.f, .int .i64 P.t, .int .i64 P.i, .int .i64 P.l, .int .i64 P.p, .int .i64 P.s, .bool P.fl, .slice a5 n5 c5] 32) (Below.refl _ _))
      clear h6 h7 hk6 HTK HH1 heo heq
      generalize World.alloc W3 _ = W4 at *
      go_upto_region 19 with (go_at_call 10; refine (hh_err h8 ⟨2, hd, 0, 0, 0, hd, 0, false, []⟩ none 0 0 (sl_nil _) i0 HU1.out (by omega)).mono ?_; rintro e W5 ⟨rfl, hk8, h9⟩)
      have h10 := h9.below (ba (o := .cells #[.int .i64 zeroPk.k, .int .i64 zeroPk.f, .int .i64 zeroPk.t, .int .i64 zeroPk.i, .int .i64 zeroPk.l, .int .i64 zeroPk.p, .int .i64 zeroPk.s, .bool zeroPk.fl, .slice none 0 0] 32) (Below.refl _ _))
      clear h8 h9 hk8 HU1
      generalize World.alloc W5 _ = W6 at *
      have c1 := h10.c1
      go_upto_region 21 with (go_at_call 11; refine (hp_owner h10.hp i0).mono ?_; rw [HU2.out.2.1]; rintro e V1 ⟨rfl, rfl⟩)
      clear c1
      go_upto_region 22 with (go_at_call 10; refine (hh_uok h10 ⟨2, hd, 0, 0, 0, -1, 0, false, []⟩ none 0 0 (sl_nil _) i0 HU2.out.1 rfl HU2.out.2.1 HU2.out.2.2.1).mono ?_; rw [HU2.out.2.2.2]; rintro e W7 ⟨rfl, hk10, h11⟩)
      have h12 := h11.below (ba (o := .cells #[.int .i64 8, .int .i64 0, .int .i64 hd, .int .i64 0, .int .i64 0, .int .i64 0, .int .i64 0, .bool false, .slice none 0 0] 32) (Below.refl _ _))
      clear h10 h11 hk10 HU2
      generalize World.alloc W7 _ = W8 at *
      have c1 := h12.c1
      have hbel := h12.bel
      go_wp2_with (first
        | (go_at_call 11; refine (hp_owner h12.hp i0).mono ?_; rw [show ownT [] 0 = -1 from rfl]; rintro e V1 ⟨rfl, rfl⟩)
        | (go_at_call 14; refine (hwakes_any _).mono ?_; rintro e V9 ⟨rfl, b9⟩))
      go_ret
      exact ⟨rfl, next hbel b9⟩
end Go.Proofs.Ytgeiagndpfdnlaa
