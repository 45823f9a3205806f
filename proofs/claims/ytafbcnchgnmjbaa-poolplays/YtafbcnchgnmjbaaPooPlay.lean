/- The walk of PoolPlays: it answers true and writes nothing that was there. Conditions: the list 'data' is not longer than the form's reach allows. -/
import Derived.Test.YtafbcnchgnmjbaaPooZ
import Derived.Test.YtafbcnchgnmjbaaPooPI
import Derived.Test.YtafbcnchgnmjbaaPooR30
import Derived.Test.YtafbcnchgnmjbaaRefAll
import Derived.Deep.CutBlock
namespace Go.Proofs.Ytafbcnchgnmjbaa
open Go.RowKit
set_option linter.unusedVariables false

set_option maxHeartbeats 6000000 in
set_option maxRecDepth 20000 in
theorem poolPlays_walk (room0 : Int) (aa : Option Addr) (na ca : Nat) (acts : List Int) (ap : Option Addr) (np cp : Nat) (pl : List Int) (ad : Option Addr) (nd cd : Nat) (z : List Int) (w : World) (hacts : Sl w aa na ca acts) (hpl : Sl w ap np cp pl) (hdata : Sl w ad nd cd z) (hcd : cd ≤ 17592186043904) :
    Calls Try.prog 5 #[.int .i64 room0, .slice aa na ca, .slice ap np cp, .slice ad nd cd] w fun e w' => e = .returned (.bool true) ∧ Below w.heap.size w w' := by
  have hma := hacts.max
  have hla := hacts.le
  have hmp := hpl.max
  have hlp := hpl.le
  have hld := hdata.le
  unfold maxLen at hma hmp
  go_enter Try.func5, Try.ntmps5
  go_upto_if 24 with fail
  go_cut [0] (fun v0 wx => (∃ R : Int, v0 = .int .i64 R) ∧ w = wx)
  case first =>
    go_wp2_with (go_at_call 7; refine (within_any _ _ _ (by omega) (by omega)).mono ?_; rintro e wx ⟨rfl, rfl⟩)
    · go_meet
      case rel => exact ⟨⟨_, rfl⟩, rfl⟩
    · go_meet
      case rel => exact ⟨⟨_, rfl⟩, rfl⟩
  case rest =>
    obtain ⟨⟨R0, rfl⟩, rfl⟩ := hcut
    go_upto_region 3 with fail
    go_cut [0] (fun v0 wx => (∃ R : Int, v0 = .int .i64 R ∧ R ≤ 30) ∧ w = wx)
    case first =>
      by_cases h30 : R0 ≤ 30
      · go_wp2
        go_meet
        case rel => exact ⟨⟨_, rfl, h30⟩, rfl⟩
      · have h30' : 30 < R0 := by omega
        go_wp2
        go_meet
        case rel => exact ⟨⟨_, rfl, by omega⟩, rfl⟩
    case rest =>
      obtain ⟨⟨R, rfl, hR⟩, rfl⟩ := hcut
      obtain ⟨Q, hQ⟩ : ∃ Q, max R 0 = Q := ⟨_, rfl⟩
      have hQ0 : 0 ≤ Q := by rw [← hQ]; omega
      have hQ1 : Q ≤ 30 := by rw [← hQ]; omega
      have HQ : Hid (max R 0 = Q) := hQ
      clear hQ
      go_wp2_with (go_at_call 8; refine (P.new_any R _).mono ?_; rintro e w1 ⟨rfl, hb1, hq1⟩; rw [HQ.out] at hq1)
      have pi1 := pj_new hb1 hq1
      have hLz := hb1.size
      clear hb1 hq1
      go_loopw [10, 11] (fun vr vi wr => ∃ (i : Nat) (L : List Pk), vi = .int .i64 (i : Int) ∧ i ≤ 20 ∧ L.length ≤ i ∧ (L.length : Int) ≤ Q ∧ PJ w wr w.heap.size Q L L vr (fun _ => False)) (fun _ vi _ => 20 - (intOf vi).toNat)
      case atStart => exact ⟨0, [], rfl, by omega, by simp, by simpa using hQ0, pi1⟩
      case round =>
        clear pi1 hLz
        obtain ⟨i, L, rfl, hi, hLi, hLQ, hpj⟩ := hrel
        have hB := hpj.wb
        by_cases hin : (i : Int) < (na : Int)
        · have h1' : decide ((i : Int) < (na : Int)) = true := decide_eq_true hin
          by_cases h20 : (i : Int) < 20
          · obtain ⟨bac, oa, rfl, hba, hca⟩ := hacts.at (k := i) (by omega)
            rw [← hB.cell (p := ⟨bac, oa + i, none⟩) hba] at hca
            have hba' : bac < wr.heap.size := Nat.lt_of_lt_of_le hba hB.size
            generalize acts[i]?.getD 0 = av at *
            obtain ⟨N, hN⟩ : ∃ N, L.length = N := ⟨_, rfl⟩
            rw [hN] at hLi hLQ
            have HN : Hid (L.length = N) := hN
            obtain ⟨ar, cr, rfl, hlx, hmx⟩ := hpj.slice hN
            unfold maxLen at hmx
            clear hN
            go_upto_if 46 with fail
            go_cut [12] (fun v wx => (∃ A : Int, v = .int .i64 A) ∧ wr = wx)
            case first =>
              by_cases hip : (i : Int) < (np : Int)
              · obtain ⟨bp, op, rfl, hbp, hcp⟩ := hpl.at (k := i) (by omega)
                rw [← hB.cell (p := ⟨bp, op + i, none⟩) hbp] at hcp
                have hbp' : bp < wr.heap.size := Nat.lt_of_lt_of_le hbp hB.size
                generalize pl[i]?.getD 0 = pv at *
                have hn0 : 1 ≤ (N : Int) + 2 := by omega
                have hk0 := Int.emod_nonneg pv (show (N : Int) + 2 ≠ 0 by omega)
                have hk1 := Int.emod_lt_of_pos pv (show 0 < (N : Int) + 2 by omega)
                generalize hke : pv % ((N : Int) + 2) = kk at *
                go_wp2_with (go_at_call 7; refine (within_any _ _ _ (by omega) (by omega)).mono ?_; rintro e wx ⟨rfl, rfl⟩; rw [hke])
                all_goals (go_meet; case rel => exact ⟨⟨_, rfl⟩, rfl⟩)
              · have hip' : (np : Int) ≤ (i : Int) := by omega
                go_wp2
                go_meet
                case rel => exact ⟨⟨_, rfl⟩, rfl⟩
            case rest =>
             as_aux_lemma =>
              obtain ⟨⟨A, rfl⟩, rfl⟩ := hcut
              go_upto_region 16 with fail
              go_cut [13] (fun v wx => (∃ bI : Bool, v = .bool bI ∧ (bI = true ↔ (0 ≤ A ∧ A < (N : Int)))) ∧ wr = wx)
              case first =>
                by_cases hA0 : 0 ≤ A
                · by_cases hA1 : A < (N : Int)
                  · go_wp2
                    go_meet
                    case rel => exact ⟨⟨true, rfl, by simp; omega⟩, rfl⟩
                  · have hA1' : (N : Int) ≤ A := by omega
                    have hA2 : decide (A < (N : Int)) = false := decide_eq_false hA1
                    go_wp2
                    go_meet
                    case rel => exact ⟨⟨false, rfl, by simp; omega⟩, rfl⟩
                · have hA0' : A < 0 := by omega
                  have hA2 : decide (0 ≤ A) = false := decide_eq_false hA0
                  go_wp2
                  go_meet
                  case rel => exact ⟨⟨false, rfl, by simp; omega⟩, rfl⟩
              case rest =>
               as_aux_lemma =>
                obtain ⟨⟨bI, rfl, hbI⟩, rfl⟩ := hcut
                obtain ⟨t, ht, t0, t1⟩ : ∃ t, av % 4 = t ∧ 0 ≤ t ∧ t < 4 := ⟨_, rfl, by omega, by omega⟩
                go_upto_block 2 with (go_at_call 7; refine (within_any _ _ _ (by omega) (by omega)).mono ?_; rintro e wx ⟨rfl, rfl⟩; rw [ht])
                clear ht hca hba hba'
                go_cut [10] (fun vr wx => ∃ L : List Pk, L.length ≤ i + 1 ∧ (L.length : Int) ≤ Q ∧ PJ w wx w.heap.size Q L L vr (fun _ => False))
                case first =>
                  go_upto_if 120 with fail
                  go_cut [120] (fun v wx => v = .bool (decide (t < 2)) ∧ wr = wx)
                  case first =>
                    have hh : t = 0 ∨ t = 1 ∨ t = 2 ∨ t = 3 := by omega
                    rcases hh with rfl | rfl | rfl | rfl
                    all_goals (go_wp2; go_meet; case rel => exact ⟨rfl, rfl⟩)
                  case rest =>
                    obtain ⟨rfl, rfl⟩ := hcut
                    by_cases ht2 : t < 2
                    · have ht2' : decide (t < 2) = true := decide_eq_true ht2
                      obtain ⟨K, hK⟩ : ∃ K, 1 + (i : Int) % 9 = K := ⟨_, rfl⟩
                      have xnd : nd ≤ 17592186044416 := by omega
                      obtain rfl := HN.out
                      clear hbI HN hpl hmp hlp hin h20
                      go_upto_region 28 with (go_at_call 16; refine (copy_any ad z nd cd _ (hdata.below hB) xnd).mono ?_; rintro e w2 ⟨v2, rfl, own2, hb2⟩; obtain ⟨a2, c2, rfl, s2⟩ := own2.sl' hdata.len)
                      have HK : Hid (1 + (i : Int) % 9 = K) := hK
                      clear hK s2
                      have bx := Bx.made w2 ⟨K, 0, 0, i, 0, 0, 0, false, z⟩ (.slice a2 nd c2)
                      have pj3 := hpj.fresh (Y := fun k => (Value.slice a2 nd c2).ownBlock = some k ∨ k = w2.heap.size) (next hb2 (ba (o := .cells #[.int .i64 K, .int .i64 0, .int .i64 0, .int .i64 i, .int .i64 0, .int .i64 0, .int .i64 0, .bool false, .slice a2 nd c2] 29) (Below.refl _ _))) (fun k hk => by rcases hk with hk | hk; exact (own2.lt k hk).1; rw [hk]; exact hb2.size)
                      have own3 := own2.below (ba (o := .cells #[.int .i64 K, .int .i64 0, .int .i64 0, .int .i64 i, .int .i64 0, .int .i64 0, .int .i64 0, .bool false, .slice a2 nd c2] 29) (Below.refl _ _))
                      have hbp : ∀ k, (Value.slice a2 nd c2).ownBlock = some k → k < w2.heap.size := fun k hk => (own2.lt k hk).2
                      have hwz := hb2.size
                      have hwz0 := hB.size
                      clear own2 hb2 hpj hB
                      simp only at bx
                      generalize w2.alloc (.cells #[.int .i64 K, .int .i64 0, .int .i64 0, .int .i64 i, .int .i64 0, .int .i64 0, .int .i64 0, .bool false, .slice a2 nd c2] 29) = w3 at *
                      generalize hbpe : w2.heap.size = bp at *
                      have bplt := bx.lt
                      go_cut [135] (fun v wx => v = .bool (decide (Q ≤ (L.length : Int))) ∧ w3 = wx)
                      case first =>
                       as_aux_lemma =>
                        by_cases hR0 : R < 0
                        · have hQR : Q = 0 := by rw [← HQ.out]; omega
                          subst hQR
                          go_wp2
                          go_meet
                          case rel => exact ⟨by rw [decide_eq_true (by omega)], rfl⟩
                        · have hQR : Q = R := by rw [← HQ.out]; omega
                          have hR0' : 0 ≤ R := by omega
                          subst hQR
                          go_wp2
                          go_meet
                          case rel => exact ⟨rfl, rfl⟩
                      case rest =>
                       as_aux_lemma =>
                        obtain ⟨rfl, rfl⟩ := hcut
                        have d3 : Dat w3 (fun k => k < w.heap.size) ⟨K, 0, 0, i, 0, 0, 0, false, z⟩ (.slice ad nd cd) := Dat.below ⟨ad, nd, cd, rfl, hdata, by omega, fun hz y hy => by
                          rcases hdata.row with h0 | ⟨b, o, e, hc⟩
                          · exact absurd h0 hz
                          · obtain rfl := Option.some.inj (hy.symm.trans e)
                            exact World.block_lt_of_cell? w _ (hc 0 (by cases hh : z with | nil => exact absurd hh hz | cons => simp))⟩ pj3.wb
                        go_upto_if 135 with fail
                        go_cut [10, 16] (fun vr vw wx => ((vw = .int .i64 5 ∧ (L.length : Int) = Q ∧ PJ w wx w.heap.size Q L L vr (fun k => (Value.slice a2 nd c2).ownBlock = some k ∨ k = bp)) ∨ (vw = .int .i64 0 ∧ (L.length : Int) < Q ∧ PJ w wx w.heap.size Q L (L ++ [⟨K, 0, 0, i, 0, 0, 0, false, z⟩]) vr (fun k => (Value.slice a2 nd c2).ownBlock = some k ∨ k = bp))) ∧ Bx wx bp ⟨K, 0, 0, i, 0, 0, 0, false, z⟩ (.slice a2 nd c2) ∧ Own wx wr.heap.size (.slice a2 nd c2) z)
                        case first =>
                          by_cases hf : Q ≤ (L.length : Int)
                          · have hf' : decide (Q ≤ (L.length : Int)) = true := decide_eq_true hf
                            go_wp2
                            go_meet
                            case rel => exact ⟨.inl ⟨rfl, by omega, pj3⟩, bx, own3⟩
                          · have hf' : decide (Q ≤ (L.length : Int)) = false := decide_eq_false hf
                            obtain ⟨M3, D3, Mr3, R3, ar3, cr3, hve3, hq3, hp3, hlo3, hs3, hb3⟩ := pj3
                            injection hve3 with e1 e2 e3
                            subst e1 e3
                            obtain ⟨i0, hi0, hp0, hp1, hp2⟩ := info_parts Try.infoPk
                            have hK := HK.out
                            have hlen : L.length ≤ 20 := by omega
                            go_upto_region 30 with fail
                            refine plays30 i K ar ad L.length cr nd cd z w3 Mr3 R3 _ hK hi hlen hp3.row _ _ _ _ _ _ _ _ _ _ _ _ _ _ _ _ _ _ _ _ _ _ _ _ _ _ _ _ _ _ _ _ _ _ _ _ _ _ _ _ _ _ _ _ _ _ _ _ _ _ _ _ _ _ _ _ _ _ _ _ _ _ _ _ _ _ _ _ _ _ _ _ _ _ _ _ _ _ _ _ _ _ _ _ _ _ _ _ _ _ _ _ _ _ _ _ _ _ _ _ _ _ _ _ _ _ _ _ _ _ _ _ _ _ _ _ _ _ _ _ _ _ _ _ _ _ _ _ _ _ _ _ _ _ _ _ _ _ _ _ _ _ _ _ _ _ _ _ _ _ _ _ _ _ _ _ _ _ _ _ _ _ _ _ _ _ _ _ _ _ _ _ _ _ _ _ _ _ _ _ _ _ _ _ _ _ _ _ _ _ _ _ _ _ _ _ _ _ _ _ _ _ _ _ _ ?_
                            intro r136 r137 r138 r139 r140 r141 r142 r143 r144 a5 c5 w5 hrw5 hk5
                            have hb4 : Below w3.heap.size w3 (w3.alloc (.cells #[.int .i64 K, .int .i64 0, .int .i64 0, .int .i64 i, .int .i64 0, .int .i64 0, .int .i64 0, .bool false, .slice ad nd cd] 29)) := ba (Below.refl _ _)
                            generalize w3.alloc (.cells #[.int .i64 K, .int .i64 0, .int .i64 0, .int .i64 i, .int .i64 0, .int .i64 0, .int .i64 0, .bool false, .slice ad nd cd] 29) = w4 at *
                            have hz4 := hb4.size
                            have pj5 := PJ.snoc (X := fun k => (Value.slice a2 nd c2).ownBlock = some k ∨ k = bp) (hq3.below hb4) (hp3.below hb4) (fun k h => ⟨(hlo3 k h).1, Nat.lt_of_lt_of_le (hlo3 k h).2.1 hz4, (hlo3 k h).2.2⟩) hs3 (next hb3 hb4) (fun k hk => by rcases hk with hk | hk; have := hbp k hk; omega; omega) (d3.below hb4) hrw5 hk5
                            have bx5 := (bx.next hb4).keep hk5 (fun hm => (hlo3 bp (.inr (.inr hm))).2.2 (.inr rfl))
                            have own5 := (own3.below hb4).keep hk5 (fun k hk hm => (hlo3 k (.inr (.inr hm))).2.2 (.inl hk))
                            go_wp2
                            go_meet
                            case rel => exact ⟨.inr ⟨rfl, by omega, pj5⟩, bx5, own5⟩
                        case rest =>
                         as_aux_lemma =>
                          clear pj3 d3 bplt
                          obtain ⟨hor, bx, own3⟩ := hcut
                          have xlt : ∀ k, ((Value.slice a2 nd c2).ownBlock = some k ∨ k = bp) → k < wc.heap.size := fun k hk => by
                            have := bx.lt
                            rcases hk with hk | hk
                            · have := hbp k hk; omega
                            · omega
                          have xge : ∀ k, ((Value.slice a2 nd c2).ownBlock = some k ∨ k = bp) → w.heap.size ≤ k := fun k hk => by
                            rcases hk with hk | hk
                            · have := (own3.lt k hk).1; omega
                            · omega
                          obtain ⟨b0, b1, b2, b3, b4, b5, b6, b7, b8, bf, bl⟩ := bx
                          obtain ⟨a3', c3', e3, sx⟩ := own3.sl' hdata.len
                          injection e3 with e31 e32 e33
                          subst e31 e33
                          simp only at b0 b1 b2 b3 b4 b5 b6 b7 b8
                          go_upto_region 31 with fail
                          go_cut [149] (fun v wx => v = .bool false ∧ (∃ L' : List Pk, L'.length ≤ i + 1 ∧ (L'.length : Int) ≤ Q ∧ PJ w wx w.heap.size Q L' L' u10 (fun k => (Value.slice a2 nd c2).ownBlock = some k ∨ k = bp)) ∧ Own wx wr.heap.size (.slice a2 nd c2) z)
                          case first =>
                           as_aux_lemma =>
                            rcases hor with ⟨rfl, hLe, pj4⟩ | ⟨rfl, hLe, pj4⟩
                            · go_wp2_with (go_at_call 9; refine (P.pj_full w _ pj4 ⟨K, 0, 0, i, 0, 0, 0, false, z⟩ a2 nd c2 hQ0 hQ1 hLe).mono ?_; rintro e w5 ⟨rfl, hb5⟩)
                              go_meet
                              case rel => exact ⟨rfl, ⟨L, by omega, by omega, pj4.below hb5⟩, own3.below hb5⟩
                            · go_wp2_with (go_at_call 9; refine (P.pj_put w _ pj4 ⟨K, 0, 0, i, 0, 0, 0, false, z⟩ a2 nd c2 sx xnd xlt hQ0 hQ1 hLe).mono ?_; rintro e w5 ⟨rfl, pj5, M5, hk5, hM5⟩)
                              go_meet
                              case rel => exact ⟨rfl, ⟨L ++ [⟨K, 0, 0, i, 0, 0, 0, false, z⟩], by simp; omega, by simp; omega, pj5⟩, own3.keep hk5 (fun k hk hm => (hM5 k hm).1 (.inl hk))⟩
                          case rest =>
                           as_aux_lemma =>
                            clear hor b0 b1 b2 b3 b4 b5 b6 b7 b8 bf sx own3
                            obtain ⟨rfl, ⟨L', hL', hLQ', pj6⟩, own6⟩ := hcut
                            have hsl6 := own6.sl' hdata.len
                            have hcl : nd ≤ c2 ∧ c2 ≤ maxLen := by
                              obtain ⟨a6, c6, e6, s6⟩ := hsl6
                              injection e6 with e61 e62 e63
                              subst e63
                              exact ⟨s6.le, s6.max⟩
                            obtain ⟨hcl1, hcl2⟩ := hcl
                            unfold maxLen at hcl2
                            clear hsl6
                            go_wp2
                            generalize wr.heap.size = wb at *
                            have xge' := xge
                            clear xge xlt hbp bl hwz hwz0
                            go_loopw [152] (fun vq wq => ∃ k : Nat, vq = .int .i64 (k : Int) ∧ k ≤ nd ∧ (∃ z' : List Int, z'.length = nd ∧ Own wq wb (.slice a2 nd c2) z') ∧ PJ w wq w.heap.size Q L' L' u10 (fun k => (Value.slice a2 nd c2).ownBlock = some k ∨ k = bp)) (fun vq _ => nd - (intOf vq).toNat)
                            case atStart => exact ⟨0, rfl, by omega, ⟨z, hdata.len, own6⟩, pj6⟩
                            case round =>
                              clear pj6 own6
                              obtain ⟨k, rfl, hk, ⟨z', hz', ownq⟩, pjq⟩ := hrel
                              by_cases hkn : k < nd
                              · have hkn' : (k : Int) < (nd : Int) := by omega
                                obtain ⟨b, y, rfl, hbb, hblt, hbc, hbf, hpoke⟩ := ownq.poke hz' hkn
                                go_wp2
                                go_roundw
                                case rel =>
                                  refine ⟨k + 1, by go_num, by omega, ⟨_, by rw [List.length_set]; exact hz', hpoke _⟩, pjq.keep ((Keep.one _ b k _).mono (fun q _ e => .inl (by rw [e]; rfl))) xge'⟩
                                case measure => simp [intOf]; omega
                              · have hkn' : (nd : Int) ≤ (k : Int) := by omega
                                go_wp2
                                go_meet
                                case rel => exact ⟨L', hL', hLQ', pjq.free⟩
                    · have ht2' : decide (t < 2) = false := decide_eq_false ht2
                      by_cases ht3 : t = 2
                      · subst ht3
                        by_cases hA : 0 ≤ A ∧ A < (N : Int)
                        · obtain rfl : bI = true := hbI.2 hA
                          clear hbI
                          as_aux_lemma =>
                            obtain ⟨k, rfl⟩ : ∃ k : Nat, A = (k : Int) := ⟨A.toNat, by omega⟩
                            have hk : k < N := by omega
                            have hkI : (k : Int) < (N : Int) := by omega
                            have hkd : decide (k < N) = true := decide_eq_true hk
                            obtain ⟨x, hx⟩ : ∃ x, L[k]? = some x := ⟨L[k]'(by rw [HN.out]; exact hk), List.getElem?_eq_getElem _⟩
                            have HX : Hid (L[k]? = some x) := hx
                            clear hx hA
                            go_upto_region 40 with (go_at_call 10; obtain ⟨M, D, hq⟩ := hpj.qu; refine (P.get_some _ hq k x HX.out (k : Int) rfl).mono ?_; rintro e w2 ⟨d2, rfl, hb2, own2⟩; obtain ⟨nz, hnz⟩ : ∃ nz, x.z.length = nz := ⟨_, rfl⟩; obtain ⟨a2, c2, rfl, s2⟩ := own2.sl' hnz; unfold Pk.val; clear hq own2 hnz)
                            have pj2 := hpj.below (next hb2 (ba (o := .cells #[.int .i64 x.k, .int .i64 x.f, .int .i64 x.t, .int .i64 x.i, .int .i64 x.l, .int .i64 x.p, .int .i64 x.s, .bool x.fl, .slice a2 nz c2] 29) (Below.refl _ _)))
                            clear hb2
                            have bx := Bx.made w2 x (.slice a2 nz c2)
                            replace s2 := s2.below (ba (o := .cells #[.int .i64 x.k, .int .i64 x.f, .int .i64 x.t, .int .i64 x.i, .int .i64 x.l, .int .i64 x.p, .int .i64 x.s, .bool x.fl, .slice a2 nz c2] 29) (Below.refl _ _))
                            generalize w2.alloc (.cells #[.int .i64 x.k, .int .i64 x.f, .int .i64 x.t, .int .i64 x.i, .int .i64 x.l, .int .i64 x.p, .int .i64 x.s, .bool x.fl, .slice a2 nz c2] 29) = w3 at *
                            generalize w2.heap.size = bp at *
                            obtain ⟨b, o, a, n, c, rfl, hsl, hb, ⟨e0, e1, e2, e3, e4, e5, e6, e7, e8⟩⟩ := pj2.at HX.out
                            obtain ⟨b0, b1, b2, b3, b4, b5, b6, b7, b8, bf, bl⟩ := bx
                            have hs : sameP x x = true := sameP_self x
                            clear hpj bf
                            have uc := @Up.cell
                            have uf := @Up.frozen
                            refine wp_region_up (by kernel_rfl) (by kernel_rfl) ?_
                            repeat (go_big_quiet_step ((go_at_call 19; exact Calls.up_of (refSame_any x x a2 a nz n c2 c _ (s2.below (by exact Subtype.property _)) (hsl.below (by exact Subtype.property _))))))
                            refine wpQuiet_nil ?_
                            rintro _ ⟨u, rfl⟩
                            replace pj2 := pj2.below u.2
                            rw [hs]
                            clear uc uf e0 e1 e2 e3 e4 e5 e6 e7 e8 b0 b1 b2 b3 b4 b5 b6 b7 b8 s2 hsl
                            generalize u.1 = w4 at *
                            go_wp2
                            go_meet
                            case rel => exact ⟨L, by rw [HN.out]; omega, by rw [HN.out]; exact hLQ, pj2⟩
                        · obtain rfl : bI = false := by cases bI; rfl; exact absurd (hbI.1 rfl) hA
                          clear hbI
                          as_aux_lemma =>
                            have HA : Hid (¬ (0 ≤ A ∧ A < (L.length : Int))) := by show ¬ _; rw [HN.out]; exact hA
                            go_upto_region 40 with (go_at_call 10; obtain ⟨M, D, hq⟩ := hpj.qu; refine (P.get_none _ hq A HA.out).mono ?_; rintro e w2 ⟨rfl, hb2⟩; unfold zeroPk Pk.val; clear hq)
                            have pj2 := hpj.below (next hb2 (ba (o := .cells #[.int .i64 0, .int .i64 0, .int .i64 0, .int .i64 0, .int .i64 0, .int .i64 0, .int .i64 0, .bool false, .slice none 0 0] 29) (Below.refl _ _)))
                            generalize w2.alloc (.cells #[.int .i64 0, .int .i64 0, .int .i64 0, .int .i64 0, .int .i64 0, .int .i64 0, .int .i64 0, .bool false, .slice none 0 0] 29) = w3 at *
                            clear hpj hb2
                            refine wp_region_up (by kernel_rfl) (by kernel_rfl) ?_
                            repeat (go_big_quiet_step (fail))
                            refine wpQuiet_nil ?_
                            rintro _ ⟨u, rfl⟩
                            replace pj2 := pj2.below u.2
                            generalize u.1 = w4 at *
                            go_wp2
                            go_meet
                            case rel => exact ⟨L, by rw [HN.out]; omega, by rw [HN.out]; exact hLQ, pj2⟩
                      · have ht3' : (t == 2) = false := by simp; omega
                        by_cases hA : 0 ≤ A ∧ A < (N : Int)
                        · obtain rfl : bI = true := hbI.2 hA
                          clear hbI
                          as_aux_lemma =>
                            obtain ⟨k, rfl⟩ : ∃ k : Nat, A = (k : Int) := ⟨A.toNat, by omega⟩
                            have hk : k < N := by omega
                            have hkI : (k : Int) < (N : Int) := by omega
                            have hkd : decide (k < N) = true := decide_eq_true hk
                            obtain ⟨x, hx⟩ : ∃ x, L[k]? = some x := ⟨L[k]'(by rw [HN.out]; exact hk), List.getElem?_eq_getElem _⟩
                            have HX : Hid (L[k]? = some x) := hx
                            clear hx hA
                            go_upto_region 19 with (go_at_call 11; refine (P.pj_remove w _ hpj k x HX.out (k : Int) rfl).mono ?_; rintro e w2 ⟨a2, nz, c2, rfl, s2, pj2⟩; unfold Pk.val)
                            replace pj2 := pj2.below (ba (o := .cells #[.int .i64 x.k, .int .i64 x.f, .int .i64 x.t, .int .i64 x.i, .int .i64 x.l, .int .i64 x.p, .int .i64 x.s, .bool x.fl, .slice a2 nz c2] 29) (Below.refl _ _))
                            have bx := Bx.made w2 x (.slice a2 nz c2)
                            replace s2 := s2.below (ba (o := .cells #[.int .i64 x.k, .int .i64 x.f, .int .i64 x.t, .int .i64 x.i, .int .i64 x.l, .int .i64 x.p, .int .i64 x.s, .bool x.fl, .slice a2 nz c2] 29) (Below.refl _ _))
                            generalize w2.alloc (.cells #[.int .i64 x.k, .int .i64 x.f, .int .i64 x.t, .int .i64 x.i, .int .i64 x.l, .int .i64 x.p, .int .i64 x.s, .bool x.fl, .slice a2 nz c2] 29) = w3 at *
                            generalize w2.heap.size = bp at *
                            obtain ⟨b, o, a, n, c, rfl, hsl, hb, ⟨e0, e1, e2, e3, e4, e5, e6, e7, e8⟩⟩ := pj2.at HX.out
                            obtain ⟨b0, b1, b2, b3, b4, b5, b6, b7, b8, bf, bl⟩ := bx
                            have hs : sameP x x = true := sameP_self x
                            clear hpj bf
                            have uc := @Up.cell
                            have uf := @Up.frozen
                            refine wp_region_up (by kernel_rfl) (by kernel_rfl) ?_
                            repeat (go_big_quiet_step ((go_at_call 19; exact Calls.up_of (refSame_any x x a2 a nz n c2 c _ (s2.below (by exact Subtype.property _)) (hsl.below (by exact Subtype.property _))))))
                            refine wpQuiet_nil ?_
                            rintro _ ⟨u, rfl⟩
                            replace pj2 := pj2.below u.2
                            rw [hs]
                            clear uc uf e0 e1 e2 e3 e4 e5 e6 e7 e8 b0 b1 b2 b3 b4 b5 b6 b7 b8 s2 hsl
                            generalize u.1 = w4 at *
                            go_wp2_with fail
                            obtain ⟨_, M, D, Mr, R1, hq, hp, hlo, hsp, hb0⟩ := pj2.open
                            clear pj2 hsp
                            refine wp_region_orders 10 rfl (by kernel_rfl) ?_
                            have hbd : Below w4.heap.size w4 w4.drew := (Below.refl _ _).drew
                            replace hq := hq.below hbd
                            replace hp := hp.below hbd
                            replace hb0 := next hb0 hbd
                            replace hlo : ∀ k, M k ∨ D k ∨ Mr k → w.heap.size ≤ k ∧ k < w4.drew.heap.size ∧ ¬ False := hlo
                            clear hbd
                            generalize w4.drew = w6 at *
                            have hs6 := hp.row.slv
                            have hon : Hid (∀ u ∈ pflat R1, u.oneCell' = true) := pflat_ones (fun r hr => (hp.dat r hr).one)
                            obtain ⟨A, hA⟩ : ∃ A : Addr, (if cr = k + 1 then some (⟨b, o, none⟩ : Addr) else some ⟨b, o + (k + 1) * 9, none⟩) = some A := by split <;> exact ⟨_, rfl⟩
                            have hkc : k ≤ cr := by omega
                            have hkc1 : k + 1 ≤ cr := by omega
                            have hkI1 : 0 ≤ (k : Int) + 1 ∧ (k : Int) + 1 ≤ (N : Int) := by omega
                            have hwr : IntKind.i64.wrap ((k : Int) + 1) = (k : Int) + 1 := (IntWalk.i64_left _).trans (IntWalk.wrap64_in _ (by omega))
                            obtain ⟨i0, hi0, hp0, hp1, hp2⟩ := info_parts Try.infoPk
                            refine any_take 0 (.slice (some ⟨b, o, none⟩) N cr) rfl (by kernel_rfl) (by kernel_rfl) (by kernel_rfl) (fun _ _ _ h => h) (by kernel_rfl) (fun w => by go_simp) ?_
                            simp only [Act.put, List.setIfInBounds_toArray, List.set_cons_zero, List.set_cons_succ]
                            refine any_take 1 (.int .i64 (k : Int)) rfl (by kernel_rfl) (by kernel_rfl) (by kernel_rfl) (fun _ _ _ h => h) (by kernel_rfl) (fun w => by go_simp) ?_
                            simp only [Act.put, List.setIfInBounds_toArray, List.set_cons_zero, List.set_cons_succ]
                            refine any_take 2 (.slice (some ⟨b, o, none⟩) k cr) rfl (by kernel_rfl) (by kernel_rfl) (by kernel_rfl) (fun _ _ _ h => h) (by kernel_rfl) (fun w => by go_simp) ?_
                            simp only [Act.put, List.setIfInBounds_toArray, List.set_cons_zero, List.set_cons_succ]
                            refine any_take 4 (.slice (some ⟨b, o, none⟩) N cr) rfl (by kernel_rfl) (by kernel_rfl) (by kernel_rfl) (fun _ _ _ h => h) (by kernel_rfl) (fun w => by go_simp) ?_
                            simp only [Act.put, List.setIfInBounds_toArray, List.set_cons_zero, List.set_cons_succ]
                            refine any_take 5 (.int .i64 (k : Int)) rfl (by kernel_rfl) (by kernel_rfl) (by kernel_rfl) (fun _ _ _ h => h) (by kernel_rfl) (fun w => by go_simp) ?_
                            simp only [Act.put, List.setIfInBounds_toArray, List.set_cons_zero, List.set_cons_succ]
                            refine any_take 6 (.int .i64 ((k : Int) + 1)) rfl (by kernel_rfl) (by kernel_rfl) (by kernel_rfl) (fun _ _ _ h => h) (by kernel_rfl) (fun w => by go_simp) ?_
                            simp only [Act.put, List.setIfInBounds_toArray, List.set_cons_zero, List.set_cons_succ]
                            refine any_take 7 (.slice (some A) (N - (k + 1)) (cr - (k + 1))) rfl (by kernel_rfl) (by kernel_rfl) (by kernel_rfl) (fun _ _ _ h => h) (by kernel_rfl) (fun w => by go_simp) ?_
                            simp only [Act.put, List.setIfInBounds_toArray, List.set_cons_zero, List.set_cons_succ]
                            refine any_list 3 (by kernel_rfl) rfl ?_
                            refine wpList_append_slv w6 (fun _ => False) (by kernel_rfl) (.const (.slice none 0 0)) (.tmp 113) 38 rfl 29 i0 (zeroPk.val (.slice none 0 0)) 9 88 Try.underlying38 hi0 hp0 hp1 hp2 rfl (by decide) none 0 0 [] rfl (rw_nil _ _ _) (some ⟨b, o, none⟩) k cr ((pflat R1).take (k * 9)) rfl (hs6.front (by omega)) (fun u hu => hon.out u (List.mem_of_mem_take hu)) (by unfold maxLen; omega) (by omega) ?_
                            intro a7 c7 w7 hrw7 hk7
                            have hb7 : Below w6.heap.size w6 w7 := hk7.below (fun _ h => h.elim) (Nat.le_refl _)
                            refine then_n ?_
                            simp only [Act.put, List.setIfInBounds_toArray, List.set_cons_zero, List.set_cons_succ]
                            refine any_list 8 (by kernel_rfl) rfl ?_
                            refine wpList_append_slv w7 (fun k => False ∨ w6.heap.size ≤ k) (by kernel_rfl) (.tmp 114) (.tmp 118) 38 rfl 29 i0 (zeroPk.val (.slice none 0 0)) 9 88 Try.underlying38 hi0 hp0 hp1 hp2 rfl (by decide) a7 (0 + k) c7 ([] ++ (pflat R1).take (k * 9)) rfl hrw7 (some A) (N - (k + 1)) (cr - (k + 1)) ((pflat R1).drop ((k + 1) * 9)) rfl ((hs6.below hb7).rear (by omega) hA) (fun u hu => hon.out u (List.mem_of_mem_drop hu)) (by unfold maxLen; omega) (by omega) ?_
                            intro a8 c8 w8 hrw8 hk8
                            have em : 0 + k + (N - (k + 1)) = N - 1 := by omega
                            rw [em] at hrw8
                            rw [em]
                            refine then_n ?_
                            simp only [Act.put, List.setIfInBounds_toArray, List.set_cons_zero, List.set_cons_succ]
                            refine any_take 9 (.slice a8 (N - 1) c8) rfl (by kernel_rfl) (by kernel_rfl) (by kernel_rfl) (fun _ _ _ h => h) (by kernel_rfl) (fun w => by go_simp) ?_
                            simp only [Act.put, List.setIfInBounds_toArray, List.set_cons_zero, List.set_cons_succ]
                            refine any_done (by kernel_rfl) ?_
                            have hb8 : Below w6.heap.size w6 w8 := hb7.trans (hk8.below (fun k h => h.elim (fun h => h.elim) id) hb7.size)
                            have pj8 := PJ.erase (X := fun _ => False) hq hp hlo hb0 hb8 hk (by
                              rw [List.nil_append] at hrw8
                              exact hrw8.imp (fun j _ h => by rcases h with (h | h) | h; exact h.elim; exact h; exact Nat.le_trans hb7.size h))
                            clear hrw7 hrw8 hk7 hk8 hb7 hb8 hs6 hp hq hA hkc hkc1 hkI1 em hwr hlo hb0
                            have hLe : (L.eraseIdx k).length = N - 1 := by rw [List.length_eraseIdx_of_lt (by rw [HN.out]; exact hk), HN.out]
                            go_wp2
                            go_meet
                            case rel => exact ⟨L.eraseIdx k, by rw [hLe]; omega, by rw [hLe]; omega, pj8⟩
                        · obtain rfl : bI = false := by cases bI; rfl; exact absurd (hbI.1 rfl) hA
                          clear hbI
                          as_aux_lemma =>
                            have HA : Hid (¬ (0 ≤ A ∧ A < (L.length : Int))) := by show ¬ _; rw [HN.out]; exact hA
                            go_upto_region 19 with (go_at_call 11; obtain ⟨M, D, hq⟩ := hpj.qu; refine (P.remove_none _ hq A HA.out).mono ?_; rintro e w2 ⟨rfl, hb2⟩; unfold zeroPk Pk.val; clear hq)
                            have pj2 := hpj.below (next hb2 (ba (o := .cells #[.int .i64 0, .int .i64 0, .int .i64 0, .int .i64 0, .int .i64 0, .int .i64 0, .int .i64 0, .bool false, .slice none 0 0] 29) (Below.refl _ _)))
                            have bx := Bx.made w2 zeroPk (.slice none 0 0)
                            simp only [zeroPk] at bx
                            generalize w2.alloc (.cells #[.int .i64 0, .int .i64 0, .int .i64 0, .int .i64 0, .int .i64 0, .int .i64 0, .int .i64 0, .bool false, .slice none 0 0] 29) = w3 at *
                            generalize w2.heap.size = bp at *
                            obtain ⟨b0, b1, b2, b3, b4, b5, b6, b7, b8, bf, bl⟩ := bx
                            simp only at b0 b1 b2 b3 b4 b5 b6 b7 b8
                            have hs : sameP zeroPk zeroPk = true := sameP_self zeroPk
                            clear hpj hb2 bf
                            have uc := @Up.cell
                            have uf := @Up.frozen
                            refine wp_region_up (by kernel_rfl) (by kernel_rfl) ?_
                            repeat (go_big_quiet_step ((go_at_call 19; exact Calls.up_of (refSame_any zeroPk zeroPk none none 0 0 0 0 _ (sl_nil _) (sl_nil _)))))
                            refine wpQuiet_nil ?_
                            rintro _ ⟨u, rfl⟩
                            replace pj2 := pj2.below u.2
                            rw [hs]
                            clear uc uf b0 b1 b2 b3 b4 b5 b6 b7 b8
                            generalize u.1 = w4 at *
                            go_wp2
                            go_meet
                            case rel => exact ⟨L, by rw [HN.out]; omega, by rw [HN.out]; exact hLQ, pj2⟩
                case rest =>
                  obtain ⟨L2, hL2, hLQ2, hpj2⟩ := hcut
                  clear hpj hB hLQ HN hlx hmx
                  obtain ⟨M, D, Mr, R1, ar, cr, rfl, hq, hpr, hlo, hsep, hB2⟩ := hpj2
                  obtain ⟨N, hN⟩ : ∃ N, L2.length = N := ⟨_, rfl⟩
                  have HN : Hid (L2.length = N) := hN
                  rw [hN] at hpr hL2 hLQ2 ⊢
                  clear hN
                  have e1 : Q - (L2.length : Int) = Q - N := by rw [HN.out]
                  have hmx := hpr.row.max
                  have hlx := hpr.row.le
                  unfold maxLen at hmx
                  have hpj3 : PJ w wc w.heap.size Q L2 L2 (.slice ar L2.length cr) (fun _ => False) := ⟨M, D, Mr, R1, ar, cr, rfl, hq, by rw [HN.out]; exact hpr, hlo, hsep, hB2⟩
                  rw [HN.out] at hpj3
                  have HE1 : Hid (Q - (L2.length : Int) = Q - N) := e1
                  clear e1
                  by_cases hR0 : R < 0
                  · have hQR : Q = 0 := by rw [← HQ.out]; omega
                    subst hQR
                    as_aux_lemma =>
                      go_wp2_with (first
                        | (go_at_call 12; refine (P.len_n _ hq (N : Int) (by rw [HN.out])).mono ?_; rintro e w2 ⟨rfl, rfl⟩)
                        | (go_at_call 13; refine (P.room_n _ hq hQ0 (by omega) (0 - N) HE1.out).mono ?_; rintro e w2 ⟨rfl, k2, rfl⟩)
                        | (go_at_call 18; refine (P.all_any _ (hq.below (below_dn _ k2)) (by have := HN.out; omega)).mono ?_; rintro e w3 ⟨v3, rfl, hn3, hb3⟩; rw [HN.out] at hn3; obtain ⟨M3, D3, R3, a3, c3, rfl, p3, hnew3, _⟩ := hn3)
                        | (go_at_call 20; refine (refAll_any _ p3 (hpr.below (next (below_dn _ k2) hb3))).mono ?_; rintro e w4 ⟨rfl, hb4⟩; rw [decide_eq_true (rfl : L2 = L2)]))
                      exact ⟨⟨i + 1, L2, by go_num, by omega, by rw [HN.out]; exact hL2, by rw [HN.out]; exact hLQ2, hpj3.below (next (below_dn _ k2) (next hb3 hb4))⟩, by simp [intOf]; omega⟩
                  · have hQR : Q = R := by rw [← HQ.out]; omega
                    subst hQR
                    as_aux_lemma =>
                      go_wp2_with (first
                        | (go_at_call 12; refine (P.len_n _ hq (N : Int) (by rw [HN.out])).mono ?_; rintro e w2 ⟨rfl, rfl⟩)
                        | (go_at_call 13; refine (P.room_n _ hq hQ0 (by omega) (Q - N) HE1.out).mono ?_; rintro e w2 ⟨rfl, k2, rfl⟩)
                        | (go_at_call 18; refine (P.all_any _ (hq.below (below_dn _ k2)) (by have := HN.out; omega)).mono ?_; rintro e w3 ⟨v3, rfl, hn3, hb3⟩; rw [HN.out] at hn3; obtain ⟨M3, D3, R3, a3, c3, rfl, p3, hnew3, _⟩ := hn3)
                        | (go_at_call 20; refine (refAll_any _ p3 (hpr.below (next (below_dn _ k2) hb3))).mono ?_; rintro e w4 ⟨rfl, hb4⟩; rw [decide_eq_true (rfl : L2 = L2)]))
                      exact ⟨⟨i + 1, L2, by go_num, by omega, by rw [HN.out]; exact hL2, by rw [HN.out]; exact hLQ2, hpj3.below (next (below_dn _ k2) (next hb3 hb4))⟩, by simp [intOf]; omega⟩
          · have h20' : decide ((i : Int) < 20) = false := decide_eq_false h20
            as_aux_lemma =>
              go_wp2_with (go_at_call 14; refine (wakes_any _).mono ?_; rintro e w3 ⟨rfl, hb3⟩)
              go_ret
              exact ⟨rfl, next hB hb3⟩
        · have h1' : decide ((i : Int) < (na : Int)) = false := decide_eq_false hin
          as_aux_lemma =>
            have h1n : (na : Int) ≤ (i : Int) := by omega
            clear hin
            go_wp2_with (go_at_call 14; refine (wakes_any _).mono ?_; rintro e w3 ⟨rfl, hb3⟩)
            go_ret
            exact ⟨rfl, next hB hb3⟩
end Go.Proofs.Ytafbcnchgnmjbaa
