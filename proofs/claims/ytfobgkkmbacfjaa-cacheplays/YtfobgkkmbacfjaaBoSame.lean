/- Chapter 8's Same of the program's cache and the document's, when both hold the same: true, and only new memory. Conditions: as the theorem states them. -/
import Derived.Test.YtfobgkkmbacfjaaBoD
import Derived.Test.YtfobgkkmbacfjaaCaSame
import Derived.Test.YtfobgkkmbacfjaaCcOn
namespace Go.Proofs.Ytfobgkkmbacfjaa
open Go.RowKit Go.Maps CR
set_option linter.unusedVariables false
set_option maxRecDepth 20000

set_option maxHeartbeats 600000 in
theorem cSame_any {w wx : World} {g g2 : Nat} {X M2 D2 : Nat → Prop} {S W k k2 : Int} {L : List En} (h : CO w wx g X S W k L) (hk : k < 1000000) (hd : Ca wx g2 M2 D2 S W k2 L) :
    Calls Try.prog 27 #[.pointer (some ⟨g, 0, none⟩), .pointer (some ⟨g2, 0, none⟩)] wx fun e w' => e = .returned (.bool true) ∧ Below wx.heap.size wx w' := by
  obtain ⟨R, a, cap, hd⟩ := hd
  obtain ⟨c0, c1, c2, c3, fz, lt, _, row, _, _⟩ := hd
  have hkl := h.len
  have hk0 := h.pos.2
  obtain ⟨n, hn⟩ : ∃ n, L.length = n := ⟨_, rfl⟩
  rw [hn] at c3 row hkl
  have hle := row.row.le
  have hmx := row.row.max
  unfold maxLen at hmx
  have HN : Hid (L.length = n) := hn
  have HN2 : Hid ((L.map nOf).length = n) := by show _ = _; simp [hn]
  clear hn fz c0 c1 c2
  go_enter Try.func27, Try.ntmps27
  go_upto_region 1 with fail
  have hlenu : ∀ u : Up wx, Calls Try.prog 48 #[.pointer (some ⟨g, 0, none⟩)] u.1 fun e w' => e = .returned (.int .i64 n) ∧ u.1 = w' := fun u => by
    have := co_len (h.below u.2)
    rw [HN.out] at this
    exact this
  have uc := @Up.cell
  have uf := @Up.frozen
  refine wp_region_up (by kernel_rfl) (by kernel_rfl) ?_
  repeat (go_big_quiet_step ((go_at_call 48; exact Calls.up_same (hlenu _))))
  refine wpQuiet_nil ?_
  rintro _ ⟨u, rfl⟩
  have hB := u.2
  have h1 := h.below hB
  have row1 := row.below hB
  have c31 := (hB.cell (p := ⟨g2, 3, none⟩) lt).trans c3
  have lt1 := Nat.lt_of_lt_of_le lt hB.size
  have hlines := co_lines h1 hk
  clear uc uf hlenu c3 row lt
  generalize u.1 = w1 at *
  clear u
  go_wp2_with (first
    | (go_at_call 49; refine hlines.mono ?_; rintro e w2 ⟨v2, rfl, own2, hb2⟩; obtain ⟨a2, cap2, rfl, s2⟩ := own2.sl' HN2.out; have c32 := (hb2.cell (p := ⟨g2, 3, none⟩) lt1).trans c31))
  have hsz := hb2.size
  have h2 := h1.below hb2
  have row2 := row1.below hb2
  have hB2 := next hB hb2
  have inn := h2.inn
  have rise := h2.rise
  have HIN : Hid (∀ e ∈ L, In64 e.n ∧ 0 ≤ e.n) := inn
  have HRI : Hid (RiseK nOf L) := rise
  clear inn rise hlines c31 lt1 h1 row1 hb2 hB own2 hsz
  go_loopw [37] (fun vi wr => ∃ i : Nat, vi = .int .i64 (i : Int) ∧ i ≤ n ∧ Below w2.heap.size w2 wr) (fun vi _ => n - (intOf vi).toNat)
  case atStart => exact ⟨0, rfl, by omega, Below.refl _ _⟩
  case round =>
    obtain ⟨i, rfl, hi, hBr⟩ := hrel
    by_cases hlt : i < n
    · obtain ⟨x, d, b, o, hx, _, hd, rfl, _, hb, ⟨x0, x1, x2, x3, x4, x5⟩, _⟩ := (row2.below hBr).get hlt
      obtain ⟨da, dn, dc, rfl, hds, _⟩ := hd
      have hxm : x ∈ L := List.mem_of_getElem? hx
      have hxn : In64 x.n := (HIN.out x hxm).1
      have hgk : getK nOf x.n L = some x := getK_mem HRI.out hxm
      have hh : hasL L x.n = true := by unfold hasL; rw [hgk]; rfl
      have he : entL L x.n = x := by unfold entL; rw [hgk]; rfl
      have hf : ∀ {wy : World}, CO w wy g X S W k L → _ := fun {wy} c => co_find (n := x.n) c hxn
      rw [hh, he] at hf
      obtain ⟨lb, lo, rfl, llt, lc⟩ := (s2.below hBr).at hlt
      have hlx : (L.map nOf)[i]?.getD 0 = x.n := by rw [List.getElem?_map, hx]; rfl
      rw [hlx] at lc
      have hdl := hds.len
      have C2 := h2.below hBr
      have bx := Eb.madeT wr x (.slice da dn dc) 41
      have bel1 := ba (o := .cells #[.int .i64 x.f, .int .i64 x.b, .int .i64 x.n, .int .i64 x.u, .bool x.q, .slice da dn dc] 41) (Below.refl wr.heap.size wr)
      clear hx hgk hh he hlx hxm hb hxn row2 s2 h2
      go_upto_region 9 with fail
      have C3 := C2.below bel1
      have ds3 := hds.below bel1
      have lc3 := (bel1.cell (p := ⟨lb, lo + i, none⟩) llt).trans lc
      have llt3 := Nat.lt_of_lt_of_le llt bel1.size
      have hB3 := next hBr bel1
      clear C2 hds lc llt hBr x0 x1 x2 x3 x4 x5
      generalize wr.heap.size = ge at *
      generalize wr.alloc _ = w3 at *
      clear bel1
      obtain ⟨y0, y1, y2, y3, y4, y5⟩ := bx.lit
      clear y0 y1 y3 y4 y5
      go_upto_region 10 with (first
        | (go_at_call 21; refine (hf C3).mono ?_; rintro e w4 ⟨a4, c4, rfl, own4, b4⟩; have z4 := y2))
      clear z4
      have E4 := Eb.made w4 x (.slice a4 x.z.length c4)
      have bel5 := ba (o := .cells #[.int .i64 x.f, .int .i64 x.b, .int .i64 x.n, .int .i64 x.u, .bool x.q, .slice a4 x.z.length c4] 35) (Below.refl w4.heap.size w4)
      have b5 := next b4 bel5
      have bx5 := bx.next b5
      have ds5 := ds3.below b5
      have lc5 := (b5.cell (p := ⟨lb, lo + i, none⟩) llt3).trans lc3
      have llt5 := Nat.lt_of_lt_of_le llt3 b5.size
      have hB5 := next hB3 b5
      obtain ⟨_, _, es, s4⟩ := own4.sl
      injection es with es1 es2 es3
      subst es1 es3
      have s5 := s4.below bel5
      have hdl' : x.z.length = dn := hdl
      subst hdl'
      obtain ⟨y0, y1, y2, y3, y4, y5⟩ := bx5.lit
      obtain ⟨q0, q1, q2, q3, q4, q5⟩ := E4.lit
      have ylt := bx5.lt
      have qlt := E4.lt
      clear C3 hf ds3 lc3 llt3 hB3 own4 s4 b4 b5 bel5 bx es2 hdl
      have hne : (x.n != x.n) = false := by simp
      generalize w4.heap.size = ge4 at *
      generalize w4.alloc _ = w5 at *
      clear bx5 E4
      have uc := @Up.cell
      refine wp_region_up (by kernel_rfl) (by kernel_rfl) ?_
      repeat (go_big_quiet_step ((go_at_call 18; exact Calls.up_of (sameEntry_any x _ _ _ _ _ _ (s5.below (Subtype.property _)) (Sl.below (l := x.z) ds5 (Subtype.property _))))))
      refine wpQuiet_nil ?_
      rintro _ ⟨u, rfl⟩
      have hB6 := next hB5 u.2
      clear uc y0 y1 y2 y3 y4 y5 q0 q1 q2 q3 q4 q5 ylt qlt s5 ds5 lc5 llt5 hB5
      generalize u.1 = wu at *
      clear u
      go_wp2_with fail
      go_roundw
      case rel => exact ⟨i + 1, by go_num, by omega, hB6⟩
      case measure => simp [intOf]; omega
    · go_wp2_with fail
      go_ret
      exact ⟨rfl, next hB2 hBr⟩
end Go.Proofs.Ytfobgkkmbacfjaa
