/- The walk of EntryTells: it answers true and writes nothing that was there. No condition but that the arguments are such as can come in. -/
import Derived.Test.YtiebfciilpbkeaaEntLinks
import Derived.Test.YtiebfciilpbkeaaEntWrites
import Derived.Test.YtiebfciilpbkeaaEntT0
namespace Go.Proofs.Ytiebfciilpbkeaa
open Go.RowKit
set_option linter.unusedVariables false
set_option maxRecDepth 20000

theorem only_lem (b f : Int) : decide (b = -1 ∧ f = -1) = ((f == -1) && (b == -1)) := by
  rw [Bool.eq_iff_iff]; simp [and_comm]
set_option maxHeartbeats 6000000 in
theorem entryTells_walk (line fwd back at_ v : Int) (q : Bool) (a : Option Addr) (n1 c1 : Nat) (l1 : List Int) (w : World) (h1 : Sl w a n1 c1 l1) :
    Calls Try.prog 5 #[.int .i64 line, .int .i64 fwd, .int .i64 back, .int .i64 at_, .int .i64 v, .bool q, .slice a n1 c1] w fun e w' => e = .returned (.bool true) ∧ Below w.heap.size w w' := by
  obtain ⟨z, hz0⟩ : ∃ z0, l1.take 6 = z0 := ⟨_, rfl⟩
  obtain ⟨m, hm⟩ : ∃ m, z.length = m := ⟨_, rfl⟩
  have hm6 : m ≤ 6 := by rw [← hm, ← hz0]; simp; omega
  have HM : Hid (z.length = m) := hm
  have HZ : Hid (l1.take 6 = z) := hz0
  clear hm hz0
  go_enter Try.func5, Try.ntmps5
  go_upto_if 33 with (first
    | (go_at_call 9; refine (within_any _ _ _ (by omega) (by omega)).mono ?_; rintro e wx ⟨rfl, rfl⟩)
    | (go_at_call 7; refine (cut_any a l1 n1 c1 6 _ h1 (by omega)).mono ?_; rintro e w1 ⟨v1, rfl, own1, hb1⟩; rw [HZ.out] at own1; obtain ⟨ad, cd, rfl, sd⟩ := own1.sl' HM.out))
  generalize fwd % 6 - 1 = F
  generalize back % 6 - 1 = B
  go_cut [3] (fun v3 wx => (∃ P, v3 = .int .i64 P) ∧ wx = w1)
  case first =>
    by_cases h5 : at_.tmod 5 = 4
    · go_wp2_with fail
      go_meet
      case rel => exact ⟨⟨_, rfl⟩, rfl⟩
    · go_wp2_with (go_at_call 9; refine (within_any _ _ _ (by omega) (by omega)).mono ?_; rintro e wx ⟨rfl, rfl⟩)
      go_meet
      case rel => exact ⟨⟨_, rfl⟩, rfl⟩
  case rest => as_aux_lemma =>
    obtain ⟨⟨P, rfl⟩, rfl⟩ := hcut
    clear h1 HZ
    have hmd := sd.max
    have hld := sd.le
    unfold maxLen at hmd
    go_upto_block 0 with (first
      | (go_at_call 17; refine (copy_any _ z m cd _ sd (by omega)).mono ?_; rintro e w2 ⟨v2, rfl, own2, hb2⟩; obtain ⟨ax, cx, rfl, sx⟩ := own2.sl' HM.out)
      | (go_at_call 8; refine (enew_any line F B q ax z m cx _ sx (by omega)).mono ?_; rintro e w3 ⟨ae, ce, rfl, own3, hb3⟩))
    have z1 := hb1.size
    have z2 := hb2.size
    have z3 := hb3.size
    have o1 := own1.lo
    have o2 := own2.lo
    have o3 := own3.lo
    have E0 : ET w (w3.alloc (.cells #[.int .i64 F, .int .i64 B, .int .i64 line, .int .i64 0, .bool q, .slice ae m ce] 27)) w3.heap.size ⟨F, B, line, 0, q, z⟩ z m ad cd ae ce :=
      ⟨HM.out, HM.out, (own1.below (next hb2 hb3)).below (ba (Below.refl _ _)), (own3.low (by omega)).below (ba (Below.refl _ _)), Eb.made w3 ⟨F, B, line, 0, q, z⟩ _, fun x y hx hy => by have := o1 x hx; have := o3 y hy; omega, fun x hx => by have := o1 x hx; omega, fun y hy => by have := o3 y hy; omega, by omega, next (next hb1 (next hb2 hb3)) (ba (Below.refl _ _))⟩
    have ox : Own (w3.alloc (.cells #[.int .i64 F, .int .i64 B, .int .i64 line, .int .i64 0, .bool q, .slice ae m ce] 27)) w.heap.size (.slice ax m cx) z := ((own2.low z1).below hb3).below (ba (Below.refl _ _))
    have xd : ∀ p x : Addr, ad = some p → ax = some x → p.block ≠ x.block := fun p x hp hx => by have := o1 p hp; have := o2 x hx; omega
    have xe : ∀ p x : Addr, ae = some p → ax = some x → p.block ≠ x.block := fun p x hp hx => by have := o3 p hp; have := o2 x hx; omega
    have xg : ∀ x : Addr, ax = some x → w3.heap.size ≠ x.block := fun x hx => by have := o2 x hx; omega
    have hmx : m ≤ cx ∧ cx ≤ maxLen := ⟨sx.le, sx.max⟩
    have hme : m ≤ ce ∧ ce ≤ maxLen := by have hs := own3.slice1 HM.out; exact ⟨hs.le, hs.max⟩
    obtain ⟨hmx1, hmx2⟩ := hmx
    obtain ⟨hme1, hme2⟩ := hme
    unfold maxLen at hmx2 hme2
    clear own1 own2 own3 o1 o2 o3 sd sx hb1 hb2 hb3 z1 z2 z3
    generalize w3.heap.size = ge at *
    generalize w3.alloc _ = W0 at *
    clear w3 w2
    have K0 := Keep.refl (fun k => ∃ x : Addr, ax = some x ∧ k = x.block) W0
    go_cut [] (fun wx => ET w wx ge ⟨F, B, line, 0, q, z⟩ z m ad cd ae ce)
    case first =>
      go_wp2_with fail
      go_loopw [50] (fun vi wr => ∃ (k : Nat) (zz : List Int), vi = .int .i64 (k : Int) ∧ k ≤ m ∧ zz.length = m ∧ Own wr w.heap.size (.slice ax m cx) zz ∧ Keep (fun k => ∃ x : Addr, ax = some x ∧ k = x.block) W0 wr) (fun vi _ => m - (intOf vi).toNat)
      case atStart => exact ⟨0, z, rfl, by omega, HM.out, ox, K0⟩
      case round =>
        clear ox K0
        obtain ⟨k, zz, rfl, hk, hzz, ow, K⟩ := hrel
        by_cases hlt : k < m
        · obtain ⟨b, y, rfl, lo, lt, hc, hf, pk⟩ := ow.poke hzz hlt
          clear hme1 hme2
          go_wp2_with fail
          go_roundw
          case rel => exact ⟨k + 1, _, by go_num, by omega, by rw [List.length_set]; exact hzz, pk _, K.setCell (p := ⟨b, k, none⟩) (.inl ⟨_, rfl, rfl⟩) _⟩
          case measure => simp [intOf]; omega
        · go_wp2_with fail
          go_meet
          case rel => exact E0.keep K (fun p hp ⟨x, hx, e⟩ => xd p x hp hx e) (fun p hp ⟨x, hx, e⟩ => xe p x hp hx e) (fun ⟨x, hx, e⟩ => xg x hx e) (fun k ⟨x, hx, e⟩ => by have := (ow.lo x hx).1; omega)
    case rest => as_aux_lemma =>
      clear E0 K0 ox xd xe xg W0
      go_upto_region 12 with fail
      have hln := hcut.lz
      obtain ⟨wd, hwd⟩ : ∃ y, wordI z P = y := ⟨_, rfl⟩
      have HW : Hid (wordI z P = wd) := hwd
      clear hwd
      have E := hcut
      clear hcut
      obtain ⟨vin, hvin⟩ : ∃ b : Bool, b = decide (0 ≤ P ∧ P < m) := ⟨_, rfl⟩
      have HI : Hid (vin = decide (0 ≤ P ∧ P < m)) := hvin
      clear hvin
      go_cut [19] (fun v wx => v = .bool vin ∧ wx = wc)
      case first =>
        by_cases hp0 : 0 ≤ P
        · go_wp2_with fail
          go_meet
          case rel => exact ⟨by rw [HI.out]; simp [hp0], rfl⟩
        · go_wp2_with fail
          go_meet
          case rel => exact ⟨by rw [HI.out, decide_eq_false (by omega)], rfl⟩
      case rest => as_aux_lemma =>
        obtain ⟨rfl, rfl⟩ := hcut
        go_upto_if 68 with fail
        go_cut [19, 20] (fun v19 v wx => v19 = .bool vin ∧ v = .int .i64 wd ∧ wx = wc)
        case first =>
          by_cases hin : 0 ≤ P ∧ P < m
          · have hvin : vin = true := by rw [HI.out, decide_eq_true hin]
            rw [hvin]
            have HV : Hid (vin = true) := hvin
            clear hvin
            obtain ⟨j, rfl⟩ : ∃ j : Nat, P = j := ⟨P.toNat, by omega⟩
            have hj : j < m := by omega
            obtain ⟨b, o, hab, hlt, hc⟩ := E.sd.at hj
            have hwd : z[j]?.getD 0 = wd := by rw [← HW.out]; simp [wordI]
            rw [hwd] at hc
            subst hab
            clear hwd
            go_wp2_with fail
            go_meet
            case rel => exact ⟨by rw [HV.out], rfl, rfl⟩
          · have hvin : vin = false := by rw [HI.out, decide_eq_false hin]
            rw [hvin]
            have HV : Hid (vin = false) := hvin
            clear hvin
            have hwd : wd = 0 := by
              rw [← HW.out]
              unfold wordI
              split
              · rw [List.getElem?_eq_none (by omega)]; rfl
              · rfl
            have HD : Hid (wd = 0) := hwd
            clear hwd
            go_wp2_with fail
            go_meet
            case rel => exact ⟨by rw [HV.out], by rw [HD.out], rfl⟩
        case rest => as_aux_lemma =>
          obtain ⟨rfl, rfl, rfl⟩ := hcut
          go_upto_region 16 with fail
          go_cut [1, 2, 143] (fun v1 v2 v wx => v1 = .int .i64 F ∧ v2 = .int .i64 B ∧ v = .bool false ∧ ET w wx ge ⟨F, B, line, 0, q, z⟩ z m ad cd ae ce)
          case first => as_aux_lemma =>
            obtain ⟨vh, hB2⟩ : ∃ b : Bool, (B == -1) = b := ⟨_, rfl⟩
            obtain ⟨vt, hF2⟩ : ∃ b : Bool, (F == -1) = b := ⟨_, rfl⟩
            have Hh : Hid (decide (B = -1) = vh) := hB2
            have Ht : Hid (decide (F = -1) = vt) := hF2
            have Ho : Hid (decide (B = -1 ∧ F = -1) = (vt && vh)) := (only_lem B F).trans (by rw [hF2, hB2])
            obtain ⟨x0, x1, x2, x3, x4, x5⟩ := E.bx.lit
            simp only at x0 x1 x2 x3 x4 x5
            go_wp2_with (first
              | (go_at_call 20; have mk := G4; clear mk; refine (only_b Ho.out _).mono ?_; rintro e vG5 ⟨rfl, b5⟩; clear x0 x1 x2 x3 x4 x5; have G5 := G4.below b5; obtain ⟨x0, x1, x2, x3, x4, x5⟩ := G5.bx.lit; simp only at x0 x1 x2 x3 x4 x5)
              | (go_at_call 18; have mk := G3; clear mk; refine (tail_b Ht.out _ _).mono ?_; rintro e vG4 ⟨rfl, b4⟩; clear x0 x1 x2 x3 x4 x5; have G4 := G3.below b4; obtain ⟨x0, x1, x2, x3, x4, x5⟩ := G4.bx.lit; simp only at x0 x1 x2 x3 x4 x5)
              | (go_at_call 19; have mk := G2; clear mk; refine (head_b Hh.out _ _).mono ?_; rintro e vG3 ⟨rfl, b3⟩; clear x0 x1 x2 x3 x4 x5; have G3 := G2.below b3; obtain ⟨x0, x1, x2, x3, x4, x5⟩ := G3.bx.lit; simp only at x0 x1 x2 x3 x4 x5)
              | (go_at_call 12; have mk := G1; clear mk; refine (word_b ⟨F, B, line, 0, q, z⟩ HW.out G1.se).mono ?_; rintro e vG2 ⟨rfl, b2⟩; clear x0 x1 x2 x3 x4 x5; have G2 := G1.below b2; obtain ⟨x0, x1, x2, x3, x4, x5⟩ := G2.bx.lit; simp only at x0 x1 x2 x3 x4 x5)
              | (go_at_call 11; refine (same_up E.se E.sd).mono ?_; rintro e vG1 ⟨rfl, b1⟩; clear x0 x1 x2 x3 x4 x5; have G1 := E.below b1; obtain ⟨x0, x1, x2, x3, x4, x5⟩ := G1.bx.lit; simp only at x0 x1 x2 x3 x4 x5))
            all_goals (go_meet; case rel => exact ⟨rfl, rfl, rfl, G5⟩)
          case rest => as_aux_lemma =>
            obtain ⟨rfl, rfl, rfl, E⟩ := hcut
            obtain ⟨x0, x1, x2, x3, x4, x5⟩ := E.bx.lit
            simp only at x0 x1 x2 x3 x4 x5
            have sE := E.se
            go_upto_region 19 with (go_at_call 14; refine (clone_any ⟨F, B, line, 0, q, z⟩ _ m ce _ sE (by omega)).mono ?_; rintro e wk ⟨ac, cc, rfl, ownc, hbc⟩)
            have zc := hbc.size
            have lc := ownc.lo
            have ltE := E.bx.lt
            have ltA : ∀ p : Addr, ae = some p → p.block < wc.heap.size := fun p hp => by subst hp; exact (E.e.lo _ rfl).2
            have E1 := E.below (next hbc (ba (o := .cells #[.int .i64 F, .int .i64 B, .int .i64 line, .int .i64 0, .bool q, .slice ac m cc] 27) (Below.refl _ _)))
            have C1 : CP w (wk.alloc (.cells #[.int .i64 F, .int .i64 B, .int .i64 line, .int .i64 0, .bool q, .slice ac m cc] 27)) wk.heap.size ⟨F, B, line, 0, q, z⟩ m ac cc :=
              ⟨E.ly, (ownc.low (by have := E.bel.size; omega)).below (ba (Below.refl _ _)), Eb.made wk ⟨F, B, line, 0, q, z⟩ _⟩
            have ga : ∀ p q : Addr, ac = some p → ae = some q → p.block ≠ q.block := fun p q hp hq => by have := lc p hp; have := ltA q hq; omega
            have gb : ∀ p : Addr, ac = some p → p.block ≠ ge := fun p hp => by have := lc p hp; omega
            have gcn : ∀ q : Addr, ae = some q → wk.heap.size ≠ q.block := fun q hq => by have := ltA q hq; omega
            have gce : wk.heap.size ≠ ge := by omega
            clear ownc zc lc ltE ltA sE E x0 x1 x2 x3 x4 x5 hbc
            generalize wk.heap.size = gc at *
            generalize wk.alloc _ = W1 at *
            obtain ⟨vok, hvok⟩ : ∃ b : Bool, b = (vin && q) := ⟨_, rfl⟩
            have HO : Hid (vok = (vin && q)) := hvok
            clear hvok
            go_cut [5, 22] (fun v5 v22 wx => v5 = .bool q ∧ v22 = .bool vok ∧ ∃ z', ET w wx ge ⟨F, B, line, 0, q, z'⟩ z m ad cd ae ce ∧ CP w wx gc ⟨F, B, line, 0, q, z⟩ m ac cc ∧ (vok = true → wordI z' P = v) ∧ (vok = false → z' = z))
            case first =>
              by_cases hok : 0 ≤ P ∧ P < m ∧ q = true
              · obtain ⟨p0, p1, rfl⟩ := hok
                have hv : Hid (vok = true) := by show _ = _; rw [HO.out, HI.out, decide_eq_true ⟨p0, p1⟩]; rfl
                obtain ⟨j, rfl⟩ : ∃ j : Nat, P = j := ⟨P.toNat, by omega⟩
                have hj : j < m := by omega
                obtain ⟨b, u, hae, blo, hbg, hbd, hlt, hc, hf, hset⟩ := E1.word hj
                subst hae
                go_wp2_with (go_at_call 10; refine (write_ok ge 0 b 0 ⟨F, B, line, 0, true, z⟩ m ce j _ v _ E1.bx hme1 (by unfold maxLen; omega) rfl rfl hj (by rw [Nat.zero_add, hc]; rfl) (by rw [Nat.zero_add]; exact hf)).mono ?_; rintro e wz ⟨rfl, w7, hb7, rfl⟩)
                go_meet
                case rel =>
                  refine ⟨rfl, by rw [hv.out], z.set j v, ?_, ?_, fun _ => ?_, (fun h => by rw [hv.out] at h; cases h)⟩
                  · obtain ⟨b', u', hae, _, _, _, _, _, _, hset'⟩ := (E1.below hb7).word hj
                    simp at hae
                    subst hae
                    exact hset' v
                  · exact (C1.below hb7).far (fun p hp => ga p _ hp rfl) (gcn _ rfl)
                  · have hl := E1.ly
                    simp only at hl
                    simp [wordI, hl, hj]
              · have hv : Hid (vok = false) := by
                  show _ = _
                  rw [HO.out, HI.out, Bool.and_eq_false_iff]
                  cases q with
                  | false => exact .inr rfl
                  | true => exact .inl (decide_eq_false (fun h => hok ⟨h.1, h.2, rfl⟩))
                go_wp2_with (go_at_call 10; refine (write_no ge 0 ⟨F, B, line, 0, q, z⟩ _ m ce P v _ E1.bx (by unfold maxLen; omega) (fun h => hok ⟨h.2.1, h.2.2, h.1⟩)).mono ?_; rintro e w7 ⟨rfl, hb7⟩)
                go_meet
                case rel => exact ⟨rfl, by rw [hv.out], z, E1.below hb7, C1.below hb7, (fun h => by rw [hv.out] at h; cases h), fun _ => rfl⟩
            case rest => as_aux_lemma =>
              obtain ⟨rfl, rfl, z', E2, C2, hz1, hz2⟩ := hcut
              clear E1 C1 W1 ga gcn
              go_upto_region 20 with fail
              go_cut [5, 19, 22, 182] (fun v5 v19 v22 v182 wx => v5 = .bool q ∧ v19 = .bool vin ∧ v22 = .bool vok ∧ v182 = .bool false ∧ ET w wx ge ⟨F, B, line, 0, q, z'⟩ z m ad cd ae ce ∧ CP w wx gc ⟨F, B, line, 0, q, z⟩ m ac cc)
              case first =>
                obtain ⟨x0, x1, x2, x3, x4, x5⟩ := E2.bx.lit
                obtain ⟨y0, y1, y2, y3, y4, y5⟩ := C2.bx.lit
                simp only at x0 x1 x2 x3 x4 x5 y0 y1 y2 y3 y4 y5
                have hw : (vin = true ∧ q = true ∧ vok = true) ∨ (vin = true ∧ q = false ∧ vok = false) ∨ (vin = false ∧ vok = false) := by
                  have h := HO.out
                  clear HO
                  subst h
                  cases vin <;> cases q
                  · exact .inr (.inr ⟨rfl, rfl⟩)
                  · exact .inr (.inr ⟨rfl, rfl⟩)
                  · exact .inr (.inl ⟨rfl, rfl, rfl⟩)
                  · exact .inl ⟨rfl, rfl, rfl⟩
                clear HI HO
                rcases hw with ⟨rfl, rfl, rfl⟩ | ⟨rfl, rfl, rfl⟩ | ⟨rfl, rfl⟩
                · have Hz : Hid (wordI z' P = v) := hz1 rfl
                  clear hz1 hz2
                  go_wp2_with (first
                    | (go_at_call 11; have mk := G1; clear mk; refine (same_up D1.se G1.sd).mono ?_; rintro e vG2 ⟨rfl, b2⟩; clear x0 x1 x2 x3 x4 x5 y0 y1 y2 y3 y4 y5; have G2 := G1.below b2; have D2 := D1.below b2; obtain ⟨x0, x1, x2, x3, x4, x5⟩ := G2.bx.lit; simp only at x0 x1 x2 x3 x4 x5; obtain ⟨y0, y1, y2, y3, y4, y5⟩ := D2.bx.lit; simp only at y0 y1 y2 y3 y4 y5)
                    | (go_at_call 12; refine (word_b ⟨F, B, line, 0, true, z'⟩ Hz.out E2.se).mono ?_; rintro e vG1 ⟨rfl, b1⟩; clear x0 x1 x2 x3 x4 x5 y0 y1 y2 y3 y4 y5; have G1 := E2.below b1; have D1 := C2.below b1; obtain ⟨x0, x1, x2, x3, x4, x5⟩ := G1.bx.lit; simp only at x0 x1 x2 x3 x4 x5; obtain ⟨y0, y1, y2, y3, y4, y5⟩ := D1.bx.lit; simp only at y0 y1 y2 y3 y4 y5))
                  go_meet
                  case rel => exact ⟨rfl, rfl, rfl, rfl, G2, D2⟩
                · obtain rfl := hz2 rfl
                  clear hz1 hz2
                  go_wp2_with (first
                    | (go_at_call 11; have mk := G1; clear mk; refine (same_up D1.se G1.sd).mono ?_; rintro e vG2 ⟨rfl, b2⟩; clear x0 x1 x2 x3 x4 x5 y0 y1 y2 y3 y4 y5; have G2 := G1.below b2; have D2 := D1.below b2; obtain ⟨x0, x1, x2, x3, x4, x5⟩ := G2.bx.lit; simp only at x0 x1 x2 x3 x4 x5; obtain ⟨y0, y1, y2, y3, y4, y5⟩ := D2.bx.lit; simp only at y0 y1 y2 y3 y4 y5)
                    | (go_at_call 11; refine (same_up E2.se E2.sd).mono ?_; rintro e vG1 ⟨rfl, b1⟩; clear x0 x1 x2 x3 x4 x5 y0 y1 y2 y3 y4 y5; have G1 := E2.below b1; have D1 := C2.below b1; obtain ⟨x0, x1, x2, x3, x4, x5⟩ := G1.bx.lit; simp only at x0 x1 x2 x3 x4 x5; obtain ⟨y0, y1, y2, y3, y4, y5⟩ := D1.bx.lit; simp only at y0 y1 y2 y3 y4 y5))
                  go_meet
                  case rel => exact ⟨rfl, rfl, rfl, rfl, G2, D2⟩
                · obtain rfl := hz2 rfl
                  clear hz1 hz2
                  go_wp2_with (first
                    | (go_at_call 11; have mk := G1; clear mk; refine (same_up D1.se G1.sd).mono ?_; rintro e vG2 ⟨rfl, b2⟩; clear x0 x1 x2 x3 x4 x5 y0 y1 y2 y3 y4 y5; have G2 := G1.below b2; have D2 := D1.below b2; obtain ⟨x0, x1, x2, x3, x4, x5⟩ := G2.bx.lit; simp only at x0 x1 x2 x3 x4 x5; obtain ⟨y0, y1, y2, y3, y4, y5⟩ := D2.bx.lit; simp only at y0 y1 y2 y3 y4 y5)
                    | (go_at_call 11; refine (same_up E2.se E2.sd).mono ?_; rintro e vG1 ⟨rfl, b1⟩; clear x0 x1 x2 x3 x4 x5 y0 y1 y2 y3 y4 y5; have G1 := E2.below b1; have D1 := C2.below b1; obtain ⟨x0, x1, x2, x3, x4, x5⟩ := G1.bx.lit; simp only at x0 x1 x2 x3 x4 x5; obtain ⟨y0, y1, y2, y3, y4, y5⟩ := D1.bx.lit; simp only at y0 y1 y2 y3 y4 y5))
                  all_goals (go_meet; case rel => exact ⟨rfl, rfl, rfl, rfl, G2, D2⟩)
              case rest => as_aux_lemma =>
                obtain ⟨rfl, rfl, rfl, rfl, E3, C3⟩ := hcut
                clear E2 C2 hz1 hz2 HO HI HW
                obtain ⟨x0, x1, x2, x3, x4, x5⟩ := E3.bx.lit
                obtain ⟨f0, f1, f2, f3, f4, f5⟩ := E3.bx.lit'
                go_upto_region 24 with (first
                  | (go_at_call 15; refine (setFwd_any ge 0 B _ (by rw [x0]; rfl) f0).mono ?_; rintro e wx ⟨rfl, rfl⟩; have E4 := E3.setF B; have C4 := C3.far (b := ge) (k := 0) (u := .int .i64 B) gb gce; obtain ⟨p0, p1, p2, p3, p4, p5⟩ := E4.bx.lit; obtain ⟨q0, q1, q2, q3, q4, q5⟩ := E4.bx.lit')
                  | (go_at_call 16; refine (setBack_any ge 0 F _ (by rw [Nat.zero_add, p1]; rfl) (by rw [Nat.zero_add]; exact q1)).mono ?_; rintro e wx ⟨rfl, rfl⟩; rw [Nat.zero_add]; have E5 := E4.setB F; have C5 := C4.far (b := ge) (k := 1) (u := .int .i64 F) gb gce))
                clear E3 C3 E4 C4 x0 x1 x2 x3 x4 x5 f0 f1 f2 f3 f4 f5 p0 p1 p2 p3 p4 p5 q0 q1 q2 q3 q4 q5
                generalize World.setCell _ _ _ = W5 at *
                obtain ⟨x0, x1, x2, x3, x4, x5⟩ := E5.bx.lit
                obtain ⟨y0, y1, y2, y3, y4, y5⟩ := C5.bx.lit
                simp only at x0 x1 x2 x3 x4 x5 y0 y1 y2 y3 y4 y5
                have B5 := E5.bel
                clear E5 C5
                go_wp2_with (go_at_call 13; refine (ewakes_any _).mono ?_; rintro e w7 ⟨rfl, b7⟩)
                go_ret
                exact ⟨rfl, next B5 b7⟩
end Go.Proofs.Ytiebfciilpbkeaa
