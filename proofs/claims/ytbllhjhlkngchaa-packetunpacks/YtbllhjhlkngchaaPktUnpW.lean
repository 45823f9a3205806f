/- The walk of PacketUnpacks: it answers true and writes nothing that was there. Condition: the bytes that came in lie in the reach. -/
import Derived.Test.YtbllhjhlkngchaaPktRun2
import Derived.Test.YtbllhjhlkngchaaPktPlay
import Derived.Test.YtbllhjhlkngchaaPktRefSame
import Derived.Deep.CutBlock
namespace Go.Proofs.Ytbllhjhlkngchaa
open Go.RowKit
set_option linter.unusedVariables false

theorem refUnpack_any (a : Option Addr) (l : List Int) (n cap : Nat) (w : World) (hsl : B.Sl w a n cap l) (hn : n ≤ 140737488351300) :
    Calls Try.prog 29 #[.slice a n cap] w fun e w' => Unp l w e w' := by
  cases ho : B.openI l with
  | none => exact (refUnpack_short a l n cap w hsl hn (fun b hb => by rw [ho] at hb; cases hb)).mono fun e w' h => Unp.no (unpack_none ho) h
  | some b =>
    cases hl : longB b
    · exact (refUnpack_short a l n cap w hsl hn (fun b' hb => by rw [ho] at hb; cases hb; exact hl)).mono fun e w' h => Unp.no (unpack_form ho (long_form hl)) h
    · exact refUnpack_long a l n cap w hsl hn b ho hl
theorem Unp.out_no {l : List Int} {w w' : World} {e : Ending} (h : unpackI l = none) (hU : Unp l w e w') : NoPk w e w' (.bool false) := by unfold Unp at hU; rw [h] at hU; exact hU
theorem Unp.out_yes {l : List Int} {w w' : World} {e : Ending} {y : Pk} (h : unpackI l = some y) (hU : Unp l w e w') : ∃ a' m cap', e = .returned (.tuple #[y.val (.slice a' m cap'), .bool true]) ∧ Sl w' a' m cap' y.z ∧ (∀ ad : Addr, a' = some ad → w.heap.size ≤ ad.block) ∧ Below w.heap.size w w' := by unfold Unp at hU; rw [h] at hU; exact hU
/-- A packet's seal, or nothing. -/
def packL (y : Pk) : List Int := if y.right = true then B.sealI (packI y) else []
theorem packL_b8 (y : Pk) : B.B8 (packL y) := by
  unfold packL
  split
  · exact B.sealI_b8 (packI_b8 y)
  · intro x hx; cases hx
theorem packL_len (y : Pk) : (packL y).length = 0 ∨ (12 ≤ (packL y).length ∧ (packL y).length = 12 + 8 * y.z.length) := by
  unfold packL
  split
  · right; rw [sealI_len, packI_len]; omega
  · left; rfl
theorem refPack_any (x : Pk) (a : Option Addr) (n cap : Nat) (w : World) (hsl : Sl w a n cap x.z) :
    Calls Try.prog 20 #[x.val (.slice a n cap)] w fun e w' => ∃ v, e = .returned (.tuple #[v, .bool x.right]) ∧ B.Own w' w.heap.size v (packL x) ∧ Below w.heap.size w w' := by
  cases hr : x.right
  · refine (refPack_no x a n cap w hsl hr).mono ?_
    rintro e w' ⟨rfl, hb⟩
    exact ⟨_, rfl, by unfold packL; rw [hr]; exact B.own_nil _ _, hb⟩
  · refine (refPack_yes x a n cap w hsl hr).mono ?_
    rintro e w' ⟨v, rfl, ho, hb⟩
    exact ⟨_, rfl, by unfold packL; rw [hr]; exact ho, hb⟩
theorem Lent.form {w : World} {base n : Nat} {v : Value} {l : List Int} (h : B.Lent w base v l) (hn : l.length = n) :
    ∃ g, v = .slice (some ⟨g, 0, none⟩) n (n + 3) ∧ B.Sl w (some ⟨g, 0, none⟩) (n + 3) (n + 3) (l ++ [85, 85, 85]) ∧ B.Sl w (some ⟨g, 0, none⟩) n (n + 3) l := by
  subst hn
  obtain ⟨g, hv, ho⟩ := h
  have s := B.own_at ho (by simp)
  refine ⟨g, hv, s, ?_⟩
  have t := s.take l.length (by omega)
  rwa [List.take_left] at t

/-- A copy, one byte of which is written. -/
theorem copy_set {w3 : World} {base nl t : Nat} {M : List Int} {v : Int} {v3 : Value} (ho : w3.ownsRow base 5 1 v3 (0 + nl) ([] ++ B.cells M)) (h8 : B.B8 M) (hl : M.length = nl) (ht : t < nl) (hv0 : 0 ≤ v) (hv1 : v < 256) :
    ∃ g cap old, v3 = .slice (some ⟨g, 0, none⟩) nl cap ∧ base ≤ g ∧ w3.cell? ⟨g, t, none⟩ = some (.int .u8 old) ∧ w3.frozen? ⟨g, t, none⟩ = false ∧ B.Sl (w3.setCell ⟨g, t, none⟩ (.int .u8 v)) (some ⟨g, 0, none⟩) nl cap (M.set t v) := by
  rw [Nat.zero_add, List.nil_append] at ho
  have hO : B.Own w3 base v3 M := ⟨by rw [hl]; exact ho, h8⟩
  obtain ⟨g, cap, rfl, hg, hrow⟩ := B.own_some hO hl (by omega)
  have hc := hrow.cellAt t (by omega)
  have hc' : (B.cells M)[t]? = some (.int .u8 (M[t]?.getD 0)) := by simp [B.cells, show t < M.length by omega]
  rw [hc'] at hc
  have hs := (hrow.stored t (.int .u8 v)).1
  rw [B.cells_set] at hs
  have hset : B.Own (w3.setCell ⟨g, t, none⟩ (.int .u8 v)) base (.slice (some ⟨g, 0, none⟩) nl cap) (M.set t v) := by
    refine ⟨by rw [List.length_set, hl]; exact hs, fun y hy => ?_⟩
    rcases List.mem_or_eq_of_mem_set hy with h | rfl
    · exact h8 y h
    · exact ⟨hv0, hv1⟩
  exact ⟨g, cap, _, rfl, hg, hc, hrow.frozenAt t, B.own_at hset (by rw [List.length_set]; exact hl)⟩

set_option maxHeartbeats 600000 in
set_option maxRecDepth 20000 in
theorem packetUnpacks_walk (a0 : Option Addr) (len0 cap0 : Nat) (l0 : List Int) (x : Pk) (how pos v : Int) (raw sealed : Bool) (a : Option Addr) (n c : Nat) (w : World) (h0 : B.Sl w a0 len0 cap0 l0) (g0 : cap0 ≤ 140737488351232) (hx : Sl w a n c x.z) (hv0 : 0 ≤ v) (hv1 : v < 256) :
    Calls Try.prog 7 #[.slice a0 len0 cap0, x.val (.slice a n c), .int .i64 how, .int .i64 pos, .int .u8 v, .bool raw, .bool sealed] w fun e w' => e = .returned (.bool true) ∧ Below w.heap.size w w' := by
  have hle0 := h0.le
  have h0' := h0.below (ba (o := .cells #[.int .i64 x.k, .int .i64 x.f, .int .i64 x.t, .int .i64 x.i, .int .i64 x.l, .int .i64 x.p, .int .i64 x.s, .bool x.fl, .slice a n c] 26) (Below.refl _ _))
  have hx' := hx.below (ba (o := .cells #[.int .i64 x.k, .int .i64 x.f, .int .i64 x.t, .int .i64 x.i, .int .i64 x.l, .int .i64 x.p, .int .i64 x.s, .bool x.fl, .slice a n c] 26) (Below.refl _ _))
  have B0 : Below w.heap.size w (w.alloc (.cells #[.int .i64 x.k, .int .i64 x.f, .int .i64 x.t, .int .i64 x.i, .int .i64 x.l, .int .i64 x.p, .int .i64 x.s, .bool x.fl, .slice a n c] 26)) := ba (Below.refl _ _)
  obtain ⟨i0, hi, hz0, hz1, hz2⟩ := info_parts B.Try.info5
  unfold Pk.val
  go_enter Try.func7, Try.ntmps7
  go_upto_if 23 with fail
  go_cut [0, 5, 6, 22, 23] (fun u _ _ _ _ wx => ∃ (a1 : Option Addr) (n1 c1 : Nat) (l : List Int), u = .slice a1 n1 c1 ∧ B.Sl wx a1 n1 c1 l ∧ n1 ≤ 140737488351300 ∧ Below w.heap.size w wx)
  case first =>
    cases raw
    · cases sealed
      · go_wp2_with (first
          | (go_at_call 19; refine (play_any x how a n c _ hx').mono ?_; rintro e w1 ⟨v1, rfl, y, a1, n1, c1, rfl, hs1, hn1, hr1, hR1, lo1, hb1⟩; unfold Pk.val)
          | (go_at_call 20; refine (refPack_any y a1 n1 c1 _ hs1).mono ?_; rintro e w2 ⟨v2, rfl, ho2, hb2⟩; obtain ⟨a2, c2, rfl, hs2⟩ := ho2.sl))
        go_meet
        case rel => exact ⟨a2, _, c2, _, rfl, hs2, by have := packL_len y; have := hs1.len; omega, next (next B0 hb1) hb2⟩
      · go_upto_if 37 with (first
          | (go_at_call 19; refine (play_any x how a n c _ hx').mono ?_; rintro e w1 ⟨v1, rfl, y, a1, n1, c1, rfl, hs1, hn1, hr1, hR1, lo1, hb1⟩; unfold Pk.val)
          | (go_at_call 20; refine (refPack_any y a1 n1 c1 _ hs1).mono ?_; rintro e w2 ⟨v2, rfl, ho2, hb2⟩; obtain ⟨nc, hnc⟩ : ∃ nc, (packL y).length = nc := ⟨_, rfl⟩; have HNC : Hid ((packL y).length = nc) := hnc; obtain ⟨a2, c2, rfl, hs2⟩ := ho2.sl' hnc; clear hnc))
        have B2 := next (next B0 hb1) hb2
        have hncb : nc = 0 ∨ (12 ≤ nc ∧ nc ≤ 60 ∧ nc % 8 = 4) := by have := hs1.len; have h' := packL_len y; rw [HNC.out] at h'; omega
        clear hb1 hb2 ho2
        rcases hncb with rfl | ⟨hc12, hc60, hmod⟩
        · go_wp2
          go_meet
          case rel => exact ⟨a2, 0, c2, _, rfl, hs2, by omega, B2⟩
        · obtain ⟨nl, rfl⟩ : ∃ nl, nc = nl + 2 := ⟨nc - 2, by omega⟩
          generalize packL y = L at *
          obtain ⟨bb, oo, rfl, _, _⟩ := hs2.at (k := 0) (by omega)
          have hst := hs2.take nl (by omega)
          have HTL : Hid ((L.take nl).length = nl) := by show _ = _; have := HNC.out; simp; omega
          have hle2 := hs2.le
          have q0 : (0 : Int) ≤ (nl : Int) := by omega
          have q1 : (nl : Int) ≤ (c2 : Int) := by omega
          have q2 : (2 : Int) < (nl : Int) + 2 := by omega
          have f0 : IntKind.i64.wrap (nl : Int) = (nl : Int) := B.wrap_small _ (by omega) (by omega)
          by_cases hmin : (nl : Int) < 14
          · clear hmod
            obtain ⟨t, htq, htl⟩ : ∃ t : Nat, pos % (nl : Int) = (t : Int) ∧ t < nl := by
              have e0 := Int.emod_nonneg pos (b := (nl : Int)) (by omega)
              have e1 := Int.emod_lt_of_pos pos (b := (nl : Int)) (by omega)
              exact ⟨(pos % (nl : Int)).toNat, by omega, by omega⟩
            have HLS : Hid (((L.take nl).set t v).length = nl) := by show _ = _; rw [List.length_set]; exact HTL.out
            have tq0 : (0 : Int) ≤ (t : Int) := by omega
            have tq1 : (t : Int) < (nl : Int) := by omega
            go_wp2_with (first
              | (at_builtin; refine wpList_append_own _ rfl (.const (.slice none 0 0)) (.tmp 42) 27 rfl w2.heap.size 5 i0 (.int .u8 0) 1 1 Try.underlying27 hi hz0 hz1 hz2 rfl (by decide) _ 0 [] rfl (World.ownsRow_nil _ _ _ _) ⟨bb, oo, none⟩ nl c2 (B.cells (L.take nl)) rfl (by rw [Nat.mul_one]; unfold B.cells; rw [List.length_map]; exact HTL.out) hst.row.cellsAt (B.cells_one _) (by unfold maxLen; omega) (by omega) (Nat.le_refl _) ?_; intro v3 w3 hown3 hg3 _; have hb3 : Below w2.heap.size w2 w3 := (Below.refl _ _).grown hg3 (Nat.le_refl _) (by intro k hk; simp [Value.ownBlock, Act.eval] at hk); obtain ⟨g3, cap3, old, rfl, hg3', hcell, hfz, hs3⟩ := copy_set (v := v) hown3 hst.b8 HTL.out htl hv0 hv1; clear hown3 hg3)
              | (go_at_call 10; refine (within_any pos (nl : Int) _ (by omega) (by omega)).mono ?_; rintro e w4 ⟨rfl, rfl⟩; rw [htq])
              | (go_at_call 26; refine (B.refSeal_any (some ⟨g3, 0, none⟩) _ nl cap3 _ hs3 (by omega)).mono ?_; rintro e w5 ⟨v5, rfl, ho5, hb5⟩; obtain ⟨a5, c5, rfl, hs5⟩ := ho5.sl))
            go_meet
            case rel => exact ⟨a5, _, c5, _, rfl, hs5, by rw [sealI_len, HLS.out]; omega, next (B2.trans ((hb3.setCell hg3' _).mono B2.size)) hb5⟩
          · by_cases h14 : nl = 14
            · exfalso; omega
            · clear hmod
              have hmin' : (14 : Int) < (nl : Int) := by omega
              have hmin'' : (14 : Int) ≤ (nl : Int) := by omega
              obtain ⟨t, htq, htl⟩ : ∃ t : Nat, pos % 14 = (t : Int) ∧ t < nl := by
                have e0 := Int.emod_nonneg pos (b := 14) (by omega)
                have e1 := Int.emod_lt_of_pos pos (b := 14) (by omega)
                exact ⟨(pos % 14).toNat, by omega, by omega⟩
              have HLS : Hid (((L.take nl).set t v).length = nl) := by show _ = _; rw [List.length_set]; exact HTL.out
              have tq0 : (0 : Int) ≤ (t : Int) := by omega
              have tq1 : (t : Int) < (nl : Int) := by omega
              go_wp2_with (first
                | (at_builtin; refine wpList_append_own _ rfl (.const (.slice none 0 0)) (.tmp 42) 27 rfl w2.heap.size 5 i0 (.int .u8 0) 1 1 Try.underlying27 hi hz0 hz1 hz2 rfl (by decide) _ 0 [] rfl (World.ownsRow_nil _ _ _ _) ⟨bb, oo, none⟩ nl c2 (B.cells (L.take nl)) rfl (by rw [Nat.mul_one]; unfold B.cells; rw [List.length_map]; exact HTL.out) hst.row.cellsAt (B.cells_one _) (by unfold maxLen; omega) (by omega) (Nat.le_refl _) ?_; intro v3 w3 hown3 hg3 _; have hb3 : Below w2.heap.size w2 w3 := (Below.refl _ _).grown hg3 (Nat.le_refl _) (by intro k hk; simp [Value.ownBlock, Act.eval] at hk); obtain ⟨g3, cap3, old, rfl, hg3', hcell, hfz, hs3⟩ := copy_set (v := v) hown3 hst.b8 HTL.out htl hv0 hv1; clear hown3 hg3)
                | (go_at_call 10; refine (within_any pos 14 _ (by omega) (by omega)).mono ?_; rintro e w4 ⟨rfl, rfl⟩; rw [htq])
                | (go_at_call 26; refine (B.refSeal_any (some ⟨g3, 0, none⟩) _ nl cap3 _ hs3 (by omega)).mono ?_; rintro e w5 ⟨v5, rfl, ho5, hb5⟩; obtain ⟨a5, c5, rfl, hs5⟩ := ho5.sl))
              go_meet
              case rel => exact ⟨a5, _, c5, _, rfl, hs5, by rw [sealI_len, HLS.out]; omega, next (B2.trans ((hb3.setCell hg3' _).mono B2.size)) hb5⟩
    · cases sealed
      · go_wp2
        go_meet
        case rel => exact ⟨a0, len0, cap0, l0, rfl, h0', by omega, B0⟩
      · go_wp2_with (go_at_call 26; refine (B.refSeal_any a0 l0 len0 cap0 _ h0' (by omega)).mono ?_; rintro e w2 ⟨v2, rfl, ho2, hb2⟩; obtain ⟨a2, c2, rfl, hs2⟩ := ho2.sl)
        go_meet
        case rel => exact ⟨a2, _, c2, _, rfl, hs2, by have := h0.len; rw [sealI_len]; omega, next B0 hb2⟩
  case rest =>
    clear h0 h0' hx hx' B0 hle0 g0
    obtain ⟨a1, n1, c1, l, rfl, hs1, hn1, B1⟩ := hcut
    have HN : Hid (l.length = n1) := hs1.len
    have hmx1 := hs1.max
    have hle1 := hs1.le
    unfold maxLen at hmx1
    cases hu : unpackI l with
    | none =>
      have HU : Hid (unpackI l = none) := hu
      have HZ := sameP_self zeroPk
      clear hu
      go_wp2_with (first
        | (go_at_call 27; refine (B.lend_any a1 l n1 c1 _ hs1 hn1).mono ?_; rintro e w2 ⟨v2, rfl, hlent, hb2⟩; obtain ⟨g, rfl, hg3, hg⟩ := Lent.form hlent HN.out; clear hlent; have hs2 := hs1.below hb2)
        | (go_at_call 28; refine (unpack_no _ l n1 (n1 + 3) _ hg hn1 HU.out).mono ?_; rintro e w3 ⟨rfl, hb3⟩; unfold Pk.val; have hs3 := hs2.below (next hb3 (ba (o := .cells #[.int .i64 zeroPk.k, .int .i64 zeroPk.f, .int .i64 zeroPk.t, .int .i64 zeroPk.i, .int .i64 zeroPk.l, .int .i64 zeroPk.p, .int .i64 zeroPk.s, .bool zeroPk.fl, .slice none 0 0] 26) (Below.refl _ _))); have hg4 := hg3.below (next hb3 (ba (o := .cells #[.int .i64 zeroPk.k, .int .i64 zeroPk.f, .int .i64 zeroPk.t, .int .i64 zeroPk.i, .int .i64 zeroPk.l, .int .i64 zeroPk.p, .int .i64 zeroPk.s, .bool zeroPk.fl, .slice none 0 0] 26) (Below.refl _ _))))
        | (go_at_call 29; refine (refUnpack_any a1 l n1 c1 _ hs3 hn1).mono ?_; intro e w5 hU; obtain ⟨rfl, hb5⟩ := hU.out_no HU.out; unfold Pk.val; obtain ⟨hc5, hf5⟩ := bcell hb5; have z5 : w3.heap.size < w5.heap.size := (by have := hb5.size; simp at this; omega); have hs6 := hs3.below (next hb5 (ba (o := .cells #[.int .i64 zeroPk.k, .int .i64 zeroPk.f, .int .i64 zeroPk.t, .int .i64 zeroPk.i, .int .i64 zeroPk.l, .int .i64 zeroPk.p, .int .i64 zeroPk.s, .bool zeroPk.fl, .slice none 0 0] 26) (Below.refl _ _))); have hg6 := hg4.below (next hb5 (ba (o := .cells #[.int .i64 zeroPk.k, .int .i64 zeroPk.f, .int .i64 zeroPk.t, .int .i64 zeroPk.i, .int .i64 zeroPk.l, .int .i64 zeroPk.p, .int .i64 zeroPk.s, .bool zeroPk.fl, .slice none 0 0] 26) (Below.refl _ _))))
        | (go_at_call 25; refine (refSame_any zeroPk zeroPk none none 0 0 0 0 _ (sl_nil _) (sl_nil _)).mono ?_; rintro e w6 ⟨rfl, hb6⟩; rw [HZ])
        | (go_at_call 30; refine (B.intact_any a1 l g n1 c1 _ (hg6.below hb6) (hs6.below hb6) hn1).mono ?_; rintro e w7 ⟨rfl, k7, rfl⟩)
        | (go_at_call 15; refine (wakes_any _).mono ?_; rintro e w8 ⟨rfl, hb8⟩))
      go_ret
      exact ⟨rfl, next (next (next (next B1 hb2) (next hb3 (ba (Below.refl _ _)))) (next hb5 (ba (Below.refl _ _)))) (next hb6 (next (below_dn _ k7) hb8))⟩
    | some y =>
      have HU : Hid (unpackI l = some y) := hu
      have HZ := sameP_self y
      clear hu
      go_wp2_with (first
        | (go_at_call 27; refine (B.lend_any a1 l n1 c1 _ hs1 hn1).mono ?_; rintro e w2 ⟨v2, rfl, hlent, hb2⟩; obtain ⟨g, rfl, hg3, hg⟩ := Lent.form hlent HN.out; clear hlent; have hs2 := hs1.below hb2)
        | (go_at_call 28; refine (unpack_yes _ l n1 (n1 + 3) _ hg hn1 y HU.out).mono ?_; rintro e w3 ⟨a3, m3, c3, rfl, hp3, lo3, hb3⟩; unfold Pk.val; have hs3 := hs2.below (next hb3 (ba (o := .cells #[.int .i64 y.k, .int .i64 y.f, .int .i64 y.t, .int .i64 y.i, .int .i64 y.l, .int .i64 y.p, .int .i64 y.s, .bool y.fl, .slice a3 m3 c3] 26) (Below.refl _ _))); have hg4 := hg3.below (next hb3 (ba (o := .cells #[.int .i64 y.k, .int .i64 y.f, .int .i64 y.t, .int .i64 y.i, .int .i64 y.l, .int .i64 y.p, .int .i64 y.s, .bool y.fl, .slice a3 m3 c3] 26) (Below.refl _ _))); have hp4 := hp3.below (ba (o := .cells #[.int .i64 y.k, .int .i64 y.f, .int .i64 y.t, .int .i64 y.i, .int .i64 y.l, .int .i64 y.p, .int .i64 y.s, .bool y.fl, .slice a3 m3 c3] 26) (Below.refl _ _)))
        | (go_at_call 29; refine (refUnpack_any a1 l n1 c1 _ hs3 hn1).mono ?_; intro e w5 hU; obtain ⟨a5, m5, c5, rfl, hp5, lo5, hb5⟩ := hU.out_yes HU.out; unfold Pk.val; obtain ⟨hc5, hf5⟩ := bcell hb5; have z5 : w3.heap.size < w5.heap.size := (by have := hb5.size; simp at this; omega); have hs6 := hs3.below (next hb5 (ba (o := .cells #[.int .i64 y.k, .int .i64 y.f, .int .i64 y.t, .int .i64 y.i, .int .i64 y.l, .int .i64 y.p, .int .i64 y.s, .bool y.fl, .slice a5 m5 c5] 26) (Below.refl _ _))); have hg6 := hg4.below (next hb5 (ba (o := .cells #[.int .i64 y.k, .int .i64 y.f, .int .i64 y.t, .int .i64 y.i, .int .i64 y.l, .int .i64 y.p, .int .i64 y.s, .bool y.fl, .slice a5 m5 c5] 26) (Below.refl _ _))); have hp6 := hp5.below (ba (o := .cells #[.int .i64 y.k, .int .i64 y.f, .int .i64 y.t, .int .i64 y.i, .int .i64 y.l, .int .i64 y.p, .int .i64 y.s, .bool y.fl, .slice a5 m5 c5] 26) (Below.refl _ _)); have hq6 := hp4.below (next hb5 (ba (o := .cells #[.int .i64 y.k, .int .i64 y.f, .int .i64 y.t, .int .i64 y.i, .int .i64 y.l, .int .i64 y.p, .int .i64 y.s, .bool y.fl, .slice a5 m5 c5] 26) (Below.refl _ _))))
        | (go_at_call 25; refine (refSame_any y y a3 a5 m3 m5 c3 c5 _ hq6 hp6).mono ?_; rintro e w6 ⟨rfl, hb6⟩; rw [HZ])
        | (go_at_call 30; refine (B.intact_any a1 l g n1 c1 _ (hg6.below hb6) (hs6.below hb6) hn1).mono ?_; rintro e w7 ⟨rfl, k7, rfl⟩)
        | (go_at_call 15; refine (wakes_any _).mono ?_; rintro e w8 ⟨rfl, hb8⟩))
      go_ret
      exact ⟨rfl, next (next (next (next B1 hb2) (next hb3 (ba (Below.refl _ _)))) (next hb5 (ba (Below.refl _ _)))) (next hb6 (next (below_dn _ k7) hb8))⟩
end Go.Proofs.Ytbllhjhlkngchaa
