/- The walk of CrcAdds: it answers true and writes nothing that was there. No condition but that the arguments are ones that can come in. -/
import Derived.Test.YtkdclhgfhddphaaCrcTurnsWalk
import Derived.Deep.OwnRows
import Derived.BigRegion
import Derived.Deep.DeepCutAuto
import Derived.Deep.DrawnRows
namespace Go.Proofs.Ytkdclhgfhddphaa
open Go.RowKit
set_option linter.unusedVariables false

/-! ### the mathematics: sums are linear -/
def xorAt (a b : List Int) (i : Nat) : Int := bits .xor .u8 (a[i]?.getD 0) (b[i]?.getD 0)
/-- The first k of n places xored, the others 0. -/
def cN (a b : List Int) (n k : Nat) : List Int := (List.range n).map fun i => if i < k then xorAt a b i else 0
theorem cN_len (a b : List Int) (n k : Nat) : (cN a b n k).length = n := by simp [cN]
theorem cN_zero (a b : List Int) (n : Nat) : cN a b n 0 = List.replicate n 0 := by
  apply List.ext_getElem
  · simp [cN]
  · intro i h1 h2; simp [cN]
theorem cN_set (a b : List Int) (n k : Nat) : (cN a b n k).set k (xorAt a b k) = cN a b n (k + 1) := by
  apply List.ext_getElem
  · simp [cN]
  · intro i h1 h2
    rw [List.getElem_set]
    by_cases h : k = i
    · subst h; simp [cN]
    · rw [if_neg h]
      have e : i < k ↔ i < k + 1 := by omega
      simp [cN, e]
theorem xorAt_bd {a b : List Int} (ha : B8 a) (hb : B8 b) (i : Nat) : 0 ≤ xorAt a b i ∧ xorAt a b i < 256 :=
  xor8_bd (B8_get ha i).1 (B8_get ha i).2 (B8_get hb i).1 (B8_get hb i).2
theorem cN_b8 {a b : List Int} (ha : B8 a) (hb : B8 b) (n k : Nat) : B8 (cN a b n k) := by
  intro x hx
  simp only [cN, List.mem_map, List.mem_range] at hx
  obtain ⟨i, _, rfl⟩ := hx
  split
  · exact xorAt_bd ha hb i
  · omega
theorem cN_dig {a b : List Int} (ha : B8 a) (hb : B8 b) (n k : Nat) (hk : k < 8 * n) : digAt (cN a b n n) k = (digAt a k ^^ digAt b k) := by
  unfold digAt
  have e : (cN a b n n)[k / 8]?.getD 0 = xorAt a b (k / 8) := by
    have h : k / 8 < n := by omega
    simp [cN, h]
  have ba := B8_get ha (k / 8)
  have bb := B8_get hb (k / 8)
  rw [e]
  unfold xorAt
  rw [u8_xor _ _ ba.1 ba.2 bb.1 bb.2, Int.toNat_natCast, Nat.testBit_xor]
theorem noughts_b8 (n : Nat) : B8 (List.replicate n 0) := by
  intro x hx
  obtain ⟨_, rfl⟩ := List.mem_replicate.1 hx
  omega
theorem noughts_dig (n k : Nat) : digAt (List.replicate n 0) k = false := by
  unfold digAt
  by_cases h : k / 8 < n
  · simp [h]
  · rw [List.getElem?_eq_none (by simp; omega)]; simp
theorem xor_words (s t : BitVec 16) : bits .xor .u16 (s.toNat : Int) (t.toNat : Int) = ((s ^^^ t).toNat : Int) := by
  rw [u16_xor_nat _ _ s.isLt t.isLt, BitVec.toNat_xor]
theorem adds {a b : List Int} {n : Nat} (ha : B8 a) (hb : B8 b) (la : a.length = n) (lb : b.length = n) :
    bits .xor .u16 (sumI a) (sumI b) = bits .xor .u16 (sumI (cN a b n n)) (sumI (List.replicate n 0)) := by
  rw [sum_digs ha, sum_digs hb, sum_digs (cN_b8 ha hb n n), sum_digs (noughts_b8 n), xor_words, xor_words, la, lb, cN_len, List.length_replicate]
  have l1 := runD_lin' (digAt a) (digAt b) 65535#16 65535#16 (8 * n)
  have l2 := runD_lin' (digAt (cN a b n n)) (digAt (List.replicate n 0)) 65535#16 65535#16 (8 * n)
  rw [← l1, ← l2]
  congr 3
  refine List.map_congr_left fun k hk => ?_
  rw [cN_dig ha hb n k (List.mem_range.1 hk), noughts_dig, Bool.xor_false]
theorem made_own (w : World) (base n : Nat) (hb : base ≤ w.heap.size) (hn : n ≤ 1000) : Own (w.alloc (.cells (madeCells #[.int .u8 0] n) 5)) base (.slice (some ⟨w.heap.size, 0, none⟩) n n) (List.replicate n 0) := by
  have h := World.ownsRow_lit (base := base) (e := 5) (size := 1) w (madeCells #[.int .u8 0] n) n hb (by unfold maxLen; omega) (by simp [madeCells])
  rw [toList_madeCells_one] at h
  exact ⟨by simpa [cells] using h, noughts_b8 n⟩

theorem Own.alloc {w : World} {base : Nat} {v : Value} {l : List Int} (h : Own w base v l) (o : Obj) : Own (w.alloc o) base v l := ⟨h.1.alloc o, h.2⟩
theorem two_made (w : World) (n : Nat) (hn : n ≤ 1000) :
    let W := ((w.alloc (.cells (madeCells #[.int .u8 0] n) 5)).alloc (.cells (madeCells #[.int .u8 0] n) 5)).drew
    Own W w.heap.size (.slice (some ⟨w.heap.size, 0, none⟩) n n) (List.replicate n 0) ∧ Own W w.heap.size (.slice (some ⟨w.heap.size + 1, 0, none⟩) n n) (List.replicate n 0) ∧ Below w.heap.size w W := by
  have h1 := made_own w w.heap.size n (Nat.le_refl _) hn
  have h2 := made_own (w.alloc (.cells (madeCells #[.int .u8 0] n) 5)) w.heap.size n (by simp) hn
  refine ⟨h1.alloc _, ?_, (((Below.refl _ _).alloc (Nat.le_refl _) _).alloc (by simp) _).drew⟩
  have h4 : Own ((w.alloc (.cells (madeCells #[.int .u8 0] n) 5)).alloc (.cells (madeCells #[.int .u8 0] n) 5)) w.heap.size (.slice (some ⟨w.heap.size + 1, 0, none⟩) n n) (List.replicate n 0) := by simpa using h2
  exact ⟨h4.1.drew, h4.2⟩

theorem add_step {wr w : World} {gc gz n k : Nat} {la lb : List Int} (hck : Own wr w.heap.size (.slice (some ⟨gc, 0, none⟩) n n) (cN la lb n k)) (hzk : Own wr w.heap.size (.slice (some ⟨gz, 0, none⟩) n n) (List.replicate n 0)) (hbk : Below w.heap.size w wr) (hgg : gc ≠ gz) (ga : B8 la) (gb : B8 lb) :
    Own (wr.setCell ⟨gc, k, none⟩ (.int .u8 (xorAt la lb k))) w.heap.size (.slice (some ⟨gc, 0, none⟩) n n) (cN la lb n (k + 1)) ∧ Own (wr.setCell ⟨gc, k, none⟩ (.int .u8 (xorAt la lb k))) w.heap.size (.slice (some ⟨gz, 0, none⟩) n n) (List.replicate n 0) ∧ Below w.heap.size w (wr.setCell ⟨gc, k, none⟩ (.int .u8 (xorAt la lb k))) := by
  have h1 := hck.1
  rw [cN_len] at h1
  have st := h1.stored k (.int .u8 (xorAt la lb k))
  rw [cells_set, cN_set] at st
  refine ⟨⟨by rw [cN_len]; exact st.1, cN_b8 ga gb n (k + 1)⟩, ⟨hzk.1.kept st.2 (.inr (by simp [Value.ownBlock]; omega)), hzk.2⟩, hbk.setCell (h1.lt gc rfl).1 _⟩
theorem own_at {w : World} {base n cap : Nat} {a : Option Addr} {l : List Int} (h : Own w base (.slice a n cap) l) (hn : l.length = n) : Sl w a n cap l := by
  obtain ⟨a', cap', e, s⟩ := h.sl' hn
  simp at e
  obtain ⟨rfl, rfl⟩ := e
  exact s
theorem Sl.same {w w' : World} {a : Option Addr} {n cap : Nat} {l : List Int} (h : Sl w a n cap l) (hh : w'.heap = w.heap) : Sl w' a n cap l := by
  refine ⟨h.len, h.le, h.max, h.nil, h.b8, ?_⟩
  rcases h.row with rfl | ⟨b, o, rfl, hc⟩
  · exact Or.inl rfl
  · exact Or.inr ⟨b, o, rfl, fun i hi => by rw [← hc i hi]; exact World.cell?_of_block (by rw [hh])⟩
set_option maxHeartbeats 4000000 in
theorem crcAdds_walk (a0 a1 : Option Addr) (len0 cap0 len1 cap1 : Nat) (l0 l1 : List Int) (w : World) (w0 : Sl w a0 len0 cap0 l0) (w1 : Sl w a1 len1 cap1 l1) :
    Calls Try.prog 8 #[.slice a0 len0 cap0, .slice a1 len1 cap1] w fun e w' => e = .returned (.bool true) ∧ Below w.heap.size w w' := by
  have m0 := w0.max
  have m1 := w1.max
  unfold maxLen at m0 m1
  have k0 := w0.le
  have k1 := w1.le
  obtain ⟨n, hn⟩ : ∃ n, n = min (min len0 len1) 60 := ⟨_, rfl⟩
  go_enter Try.func8, Try.ntmps8
  go_upto_region 1 with fail
  go_cut [5] (fun v wx => v = .int .i64 (n : Int) ∧ w = wx)
  case first =>
    go_wp2
    all_goals go_meet
    all_goals (case rel => exact ⟨by go_num, rfl⟩)
  case rest =>
    obtain ⟨rfl, rfl⟩ := hcut
    have hn0 : n ≤ len0 := by omega
    have hn1 : n ≤ len1 := by omega
    have hn2 : n ≤ 60 := by omega
    clear hn m0 m1
    have s0 := w0.take n hn0
    have s1 := w1.take n hn1
    have t0 := w0.row.take n
    generalize l0.take n = la at *
    generalize l1.take n = lb at *
    have hmk := fun w => run_make_row' (P := Try.prog) 22 5 (.int .u8 0) 1 Try.underlying22 Try.info5 rfl .i64 .i64 n (by omega) (by omega) w
    clear t0
    go_upto_region 2 with fail
    go_cut [6, 7] (fun c z wx => ∃ gc gz : Nat, gc ≠ gz ∧ c = .slice (some ⟨gc, 0, none⟩) n n ∧ z = .slice (some ⟨gz, 0, none⟩) n n ∧ Own wx w.heap.size c (List.replicate n 0) ∧ Own wx w.heap.size z (List.replicate n 0) ∧ Below w.heap.size w wx)
    case first =>
      go_region
      all_goals (go_wp2; go_meet)
      · case rel => exact ⟨w.heap.size, w.heap.size + 1, by omega, rfl, rfl, (two_made w n (by omega)).1, (two_made w n (by omega)).2.1, (two_made w n (by omega)).2.2⟩
      · case rel => exact ⟨w.heap.size + 1, w.heap.size, by omega, rfl, rfl, (two_made w n (by omega)).2.1, (two_made w n (by omega)).1, (two_made w n (by omega)).2.2⟩
    case rest =>
      obtain ⟨gc, gz, hgg, rfl, rfl, hc, hz, hb⟩ := hcut
      clear hmk
      have ga := s0.b8
      have gb := s1.b8
      have HA : Hid (la.length = n) := s0.len
      have HB : Hid (lb.length = n) := s1.len
      go_wp2_with fail
      go_loopw [20] (fun i wr => ∃ k : Nat, k ≤ n ∧ i = .int .i64 k ∧ Own wr w.heap.size (.slice (some ⟨gc, 0, none⟩) n n) (cN la lb n k) ∧ Own wr w.heap.size (.slice (some ⟨gz, 0, none⟩) n n) (List.replicate n 0) ∧ Below w.heap.size w wr) (fun i _ => n - (intOf i).toNat)
      case atStart => exact ⟨0, by omega, rfl, by rw [cN_zero]; exact hc, hz, hb⟩
      case round =>
        obtain ⟨k, hk, rfl, hck, hzk, hbk⟩ := hrel
        clear hc hz hb
        by_cases hlt : k < n
        · have c0 := s0.row.some (by rw [HA.out]; omega)
          have c1 := s1.row.some (by rw [HB.out]; omega)
          obtain ⟨b0, o0, e0, c0⟩ := c0
          obtain ⟨b1, o1, e1, c1⟩ := c1
          subst e0 e1
          have x0 := c0 k (by rw [HA.out]; omega)
          have x1 := c1 k (by rw [HB.out]; omega)
          have y0 : wr.cell? ⟨b0, o0 + k, none⟩ = some (.int .u8 (la[k]?.getD 0)) := by
            rw [hbk.cell (p := ⟨b0, o0 + k, none⟩) (World.block_lt_of_cell? w _ x0)]; exact x0
          have y1 : wr.cell? ⟨b1, o1 + k, none⟩ = some (.int .u8 (lb[k]?.getD 0)) := by
            rw [hbk.cell (p := ⟨b1, o1 + k, none⟩) (World.block_lt_of_cell? w _ x1)]; exact x1
          have HST : Hid (Own (wr.setCell ⟨gc, k, none⟩ (.int .u8 (bits .xor .u8 (la[k]?.getD 0) (lb[k]?.getD 0)))) w.heap.size (.slice (some ⟨gc, 0, none⟩) n n) (cN la lb n (k + 1)) ∧ Own (wr.setCell ⟨gc, k, none⟩ (.int .u8 (bits .xor .u8 (la[k]?.getD 0) (lb[k]?.getD 0)))) w.heap.size (.slice (some ⟨gz, 0, none⟩) n n) (List.replicate n 0) ∧ Below w.heap.size w (wr.setCell ⟨gc, k, none⟩ (.int .u8 (bits .xor .u8 (la[k]?.getD 0) (lb[k]?.getD 0))))) :=
            add_step hck hzk hbk hgg ga gb
          have hfz : wr.frozen? ⟨gc, k, none⟩ = false := by
            have := hck.1; rw [cN_len] at this; exact this.frozenAt k
          have hcc : ∃ u, wr.cell? ⟨gc, k, none⟩ = some u := by
            have := hck.1; rw [cN_len] at this
            exact ⟨_, (this.cellAt k (by omega)).trans (List.getElem?_eq_getElem (by simp [cells, cN_len]; omega))⟩
          obtain ⟨u0, hcc⟩ := hcc
          generalize la[k]?.getD 0 = x at *
          generalize lb[k]?.getD 0 = y at *
          clear c0 c1 x0 x1 hck hzk hbk s0 s1 w0 w1
          have q0 : (0 : Int) ≤ (k : Int) := by omega
          have q1 : (k : Int) < (n : Int) := by omega
          have q2 : (k : Int) < (len0 : Int) := by omega
          have q3 : (k : Int) < (len1 : Int) := by omega
          go_wp2_with fail
          go_region
          go_wp2
          go_roundw
          case rel => exact ⟨k + 1, by omega, by go_num, ⟨HST.out.1.1.drew, HST.out.1.2⟩, ⟨HST.out.2.1.1.drew, HST.out.2.1.2⟩, HST.out.2.2.drew⟩
          case measure => simp [intOf]; omega
        · obtain rfl : k = n := by omega
          have sA := s0.below hbk
          have sB := s1.below hbk
          have sC := own_at hck (cN_len la lb k k)
          have sZ := own_at hzk (List.length_replicate ..)
          have sN : Sl wr none 0 0 [] := ⟨rfl, Nat.le_refl _, Nat.zero_le _, fun _ => rfl, fun x hx => (by cases hx), Or.inl rfl⟩
          have hsum := adds ga gb HA.out HB.out
          have hsum' : (bits .xor .u16 (sumI la) (sumI lb) == bits .xor .u16 (sumI (cN la lb k k)) (sumI (List.replicate k 0))) = true := by rw [hsum]; exact beq_self_eq_true _
          have hnil : (sumI [] == 65535) = true := rfl
          clear hsum hck hzk s0 s1 w0 w1
          generalize cN la lb k k = lc at *
          generalize List.replicate k (0 : Int) = lz at *
          have q0 : (0 : Int) ≤ (k : Int) := by omega
          have q2 : (k : Int) ≤ (cap0 : Int) := by omega
          have q3 : (k : Int) ≤ (cap1 : Int) := by omega
          go_upto_region 8 with fail
          go_region_with ((first | (go_at_call 11; refine (sum_any _ _ _ _ _ (by first | exact sA.same rfl | exact sB.same rfl | exact sC.same rfl | exact sZ.same rfl | exact sN.same rfl)).mono ?_; rintro e w4 ⟨rfl, rfl⟩) | (go_at_call 13; refine (wakes_any _).mono ?_; rintro e w6 ⟨rfl, hb6⟩)))
          go_wp2
          go_ret
          exact ⟨rfl, nextB hbk.drew hb6⟩
end Go.Proofs.Ytkdclhgfhddphaa
