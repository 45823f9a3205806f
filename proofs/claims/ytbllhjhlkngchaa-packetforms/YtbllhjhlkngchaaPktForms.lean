/- The walk of PacketForms: it answers true and writes nothing that was there. No condition but that the arguments are ones that can come in. -/
import Derived.Test.YtbllhjhlkngchaaPktPack
namespace Go.Proofs.Ytbllhjhlkngchaa
open Go.RowKit
set_option linter.unusedVariables false

def formPk (kind from' to' id line ptr state : Int) (flag : Bool) (z : List Int) : Pk := ⟨1 + kind % 9, from' % 6, to' % 6, id, line % 8, ptr % 7 - 1, state % 3, flag, z⟩
theorem form_right (kind from' to' id line ptr state : Int) (flag : Bool) (z : List Int) (hz : z.length ≤ 4) (hi : 0 ≤ id ∧ id < 4096) : (formPk kind from' to' id line ptr state flag z).right = true := by
  refine (Pk.right_iff _).2 ⟨?_, ?_, ?_, ?_, ?_, ?_, ?_, hz⟩ <;> simp only [formPk] <;> omega
theorem form_head (kind from' to' id line ptr state : Int) (flag : Bool) (z : List Int) (hz : z.length ≤ 4) (hi : 0 ≤ id ∧ id < 4096) : headI (formPk kind from' to' id line ptr state flag z) =
    [1 + kind % 9, from' % 6, to' % 6, id / 256, id % 256, line % 8, ptr % 7, state % 3, flI flag, (z.length : Int)] := by
  unfold headI formPk
  simp only
  rw [show (1 + kind % 9) % 256 = 1 + kind % 9 by omega, show from' % 6 % 256 = from' % 6 by omega, show to' % 6 % 256 = to' % 6 by omega, show id / 256 % 256 = id / 256 by omega, show line % 8 % 256 = line % 8 by omega, show (ptr % 7 - 1 + 1) % 256 = ptr % 7 by omega, show state % 3 % 256 = state % 3 by omega, show (z.length : Int) % 256 = z.length by omega]

theorem wp_world {P : Program} {c : Code} {Q : Exit → Act → World → Prop} {a : Act} {w1 w2 : World} (h : w1 = w2) (hw : c.wp P Q a w2) : c.wp P Q a w1 := h ▸ hw
def formW (w1 : World) (x : Pk) (d : Value) (hl : List Int) : World :=
  (w1.alloc (.cells #[.int .i64 x.k, .int .i64 x.f, .int .i64 x.t, .int .i64 x.i, .int .i64 x.l, .int .i64 x.p, .int .i64 x.s, .bool x.fl, d] 26)).alloc (.cells (B.cells hl).toArray 5)
/-- A packet in memory, in a block. -/
structure Boxed (W : World) (g : Nat) (x : Pk) (d : Value) : Prop where
  c0 : W.cell? ⟨g, 0, none⟩ = some (.int .i64 x.k)
  c1 : W.cell? ⟨g, 1, none⟩ = some (.int .i64 x.f)
  c2 : W.cell? ⟨g, 2, none⟩ = some (.int .i64 x.t)
  c3 : W.cell? ⟨g, 3, none⟩ = some (.int .i64 x.i)
  c4 : W.cell? ⟨g, 4, none⟩ = some (.int .i64 x.l)
  c5 : W.cell? ⟨g, 5, none⟩ = some (.int .i64 x.p)
  c6 : W.cell? ⟨g, 6, none⟩ = some (.int .i64 x.s)
  c7 : W.cell? ⟨g, 7, none⟩ = some (.bool x.fl)
  c8 : W.cell? ⟨g, 8, none⟩ = some d
theorem boxed_new (w : World) (x : Pk) (d : Value) : Boxed (w.alloc (.cells #[.int .i64 x.k, .int .i64 x.f, .int .i64 x.t, .int .i64 x.i, .int .i64 x.l, .int .i64 x.p, .int .i64 x.s, .bool x.fl, d] 26)) w.heap.size x d := by
  have h := heap_alloc_new w (.cells #[.int .i64 x.k, .int .i64 x.f, .int .i64 x.t, .int .i64 x.i, .int .i64 x.l, .int .i64 x.p, .int .i64 x.s, .bool x.fl, d] 26)
  constructor <;> (rw [cell_of_row _ _ _ _ 26 (0, 0) h]; rfl)
theorem Boxed.below {W W' : World} {g base : Nat} {x : Pk} {d : Value} (h : Boxed W g x d) (hb : Below base W W') (hg : g < base) : Boxed W' g x d :=
  have e := fun o => hb.cell (p := ⟨g, o, none⟩) hg
  ⟨(e 0).trans h.c0, (e 1).trans h.c1, (e 2).trans h.c2, (e 3).trans h.c3, (e 4).trans h.c4, (e 5).trans h.c5, (e 6).trans h.c6, (e 7).trans h.c7, (e 8).trans h.c8⟩
theorem formW_facts (w1 : World) (x : Pk) (d : Value) (hl : List Int) (hh : headI x = hl) : Below w1.heap.size w1 (formW w1 x d hl) ∧ w1.heap.size + 1 < (formW w1 x d hl).heap.size ∧ Boxed (formW w1 x d hl) w1.heap.size x d ∧ B.Own (formW w1 x d hl) (w1.heap.size + 1) (.slice (some ⟨w1.heap.size + 1, 0, none⟩) 10 10) (headI x) := by
  unfold formW
  refine ⟨ba (ba (Below.refl _ _)), by simp, (boxed_new w1 x d).below (ba (Below.refl _ _)) (by simp), ?_⟩
  have := hd_own (w := (w1.alloc (.cells #[.int .i64 x.k, .int .i64 x.f, .int .i64 x.t, .int .i64 x.i, .int .i64 x.l, .int .i64 x.p, .int .i64 x.s, .bool x.fl, d] 26)).alloc (.cells (B.cells hl).toArray 5)) (base := w1.heap.size + 1) (headI x) (headI_b8 x) (by rw [headI_len]; unfold maxLen; omega) (w1.heap.size + 1) (Nat.le_refl _) (by rw [hh]; have := heap_alloc_new (w1.alloc (.cells #[.int .i64 x.k, .int .i64 x.f, .int .i64 x.t, .int .i64 x.i, .int .i64 x.l, .int .i64 x.p, .int .i64 x.s, .bool x.fl, d] 26)) (.cells (B.cells hl).toArray 5); simpa using this)
  rwa [headI_len] at this

theorem form_some (kind from' to' id line ptr state : Int) (flag : Bool) (z : List Int) (n : Nat) (hn : z.length = n) (hz : n ≤ 4) (hi : 0 ≤ id ∧ id < 4096) (w1 : World) (d : Value) :
    ∃ W x, W = formW w1 (formPk kind from' to' id line ptr state flag z) d [1 + kind % 9, from' % 6, to' % 6, id / 256, id % 256, line % 8, ptr % 7, state % 3, flI flag, (n : Int)] ∧
      Pk.right x = true ∧ Hid (x.z = z) ∧ Below w1.heap.size w1 W ∧ w1.heap.size + 1 < W.heap.size ∧ Boxed W w1.heap.size x d ∧ B.Own W (w1.heap.size + 1) (.slice (some ⟨w1.heap.size + 1, 0, none⟩) 10 10) (headI x) := by
  subst hn
  exact ⟨_, _, rfl, form_right kind from' to' id line ptr state flag z hz hi, rfl, formW_facts w1 _ d _ (form_head kind from' to' id line ptr state flag z hz hi)⟩

set_option maxHeartbeats 2000000 in
set_option maxRecDepth 20000 in
theorem packetForms_walk (kind from' to' id line ptr state : Int) (flag : Bool) (a : Option Addr) (len cap : Nat) (zz : List Int) (w : World) (hsl : Sl w a len cap zz) :
    Calls Try.prog 3 #[.int .i64 kind, .int .i64 from', .int .i64 to', .int .i64 id, .int .i64 line, .int .i64 ptr, .int .i64 state, .bool flag, .slice a len cap] w fun e w' => e = .returned (.bool true) ∧ Below w.heap.size w w' := by
  have k0 : 0 ≤ kind % 9 ∧ kind % 9 < 9 := by omega
  have f0 : 0 ≤ from' % 6 ∧ from' % 6 < 6 := by omega
  have t0 : 0 ≤ to' % 6 ∧ to' % 6 < 6 := by omega
  obtain ⟨i, hi, i0⟩ : ∃ i, id % 4096 = i ∧ (0 ≤ i ∧ i < 4096) := ⟨_, rfl, by omega, by omega⟩
  have l0 : 0 ≤ line % 8 ∧ line % 8 < 8 := by omega
  have p0 : 0 ≤ ptr % 7 ∧ ptr % 7 < 7 := by omega
  have s0 : 0 ≤ state % 3 ∧ state % 3 < 3 := by omega
  obtain ⟨z, hz⟩ : ∃ z, zz.take 4 = z := ⟨_, rfl⟩
  have HZ : Hid (zz.take 4 = z) := hz
  have hz4 : z.length ≤ 4 := by rw [← hz]; simp; omega
  clear hz
  obtain ⟨n, hn⟩ : ∃ n, z.length = n := ⟨_, rfl⟩
  have HN : Hid (z.length = n) := hn
  have hn4 : n ≤ 4 := by omega
  have HX := fun (w1 : World) (d : Value) => form_some kind from' to' i line ptr state flag z n hn hn4 i0 w1 d
  clear hn hz4
  obtain ⟨ib, hib, hzb0, hzb1, hzb2⟩ := info_parts B.Try.info5
  cases flag
  all_goals
    go_enter Try.func3, Try.ntmps3
    go_wp2_with (first
      | (go_at_call 10; refine (within_any _ _ _ (by omega) (by omega)).mono ?_; rintro e w1 ⟨rfl, rfl⟩)
      | (go_at_call 11; refine (cut_any a zz len cap 4 _ hsl (by omega)).mono ?_; rintro e w1 ⟨v, rfl, hown, hb1⟩; rw [HZ.out] at hown; obtain ⟨a1, cap1, rfl, hsl1⟩ := hown.sl' HN.out; have hmx := hsl1.max; unfold maxLen at hmx; have hle := hsl1.le))
    obtain ⟨W, x, hW, hr, HXZ, H1, hz1, hbox, hown1⟩ := HX w1 (.slice a1 n cap1)
    refine wp_world (w2 := W) (by rw [hW]; rfl) ?_
    have B1 := next hb1 H1
    have hz0 := hb1.size
    clear hW HX hown hb1 hsl HZ k0 f0 t0 l0 p0 s0 hi
    go_loopw [21, 84] (fun b i wr => ∃ k : Nat, k ≤ n ∧ i = .int .i64 k ∧ B.Own wr (w1.heap.size + 1) b (headI x ++ bodyI (z.take k)) ∧ Below (w1.heap.size + 1) W wr) (fun _ i _ => n - (intOf i).toNat)
    case atStart => exact ⟨0, by omega, rfl, by simpa [bodyI] using hown1, Below.refl _ _⟩
    case round =>
      obtain ⟨k, hk, rfl, hown2, hbr⟩ := hrel
      have hLen : (headI x ++ bodyI (z.take k)).length = 10 + 8 * k := by rw [List.length_append, headI_len, bodyI_len, List.length_take, HN.out]; omega
      have hsr := hsl1.below (H1.trans (hbr.mono (by omega)))
      by_cases hlt : k < n
      · have HS : Hid (bodyI (z.take (k + 1)) = bodyI (z.take k) ++ wordI (z[k]?.getD 0)) := bodyI_take _ _ (by have := HN.out; omega)
        obtain ⟨b, o, rfl, hbl, hcell⟩ := hsr.at hlt
        have hz := hbr.size
        generalize z[k]?.getD 0 = y at *
        obtain ⟨m, hm⟩ : ∃ m, headI x ++ bodyI (z.take k) = m := ⟨_, rfl⟩
        have HM : Hid (headI x ++ bodyI (z.take k) = m) := hm
        rw [hm] at hown2 hLen
        have hL : m.length ≤ 100 := by omega
        clear hm hLen
        have hzb : w1.heap.size + 1 ≤ wr.heap.size := by omega
        go_wp2
        clear hown1 hsl1 hsr hbox hcell
        go_loopw [21, 24] (fun b i wq => ∃ j : Nat, j ≤ 8 ∧ i = .int .i64 (56 - 8 * (j : Int)) ∧ B.Own wq (w1.heap.size + 1) b (m ++ wordN y j) ∧ Below (w1.heap.size + 1) W wq ∧ w1.heap.size + 1 ≤ wq.heap.size) (fun _ i _ => (8 + intOf i).toNat)
        case atStart => exact ⟨0, by omega, rfl, by simpa [wordN] using hown2, hbr, hzb⟩
        case round =>
          clear hown2 hbr hzb
          obtain ⟨j, hj, rfl, hown3, hbq, hzq⟩ := hrel
          by_cases hjl : j < 8
          · have HW : Hid (wordN y (j + 1) = wordN y j ++ [wbyte y j]) := wordN_succ y j
            have hL3 : (m ++ wordN y j).length ≤ 108 := by rw [List.length_append, wordN_len]; omega
            obtain ⟨q, hq⟩ : ∃ q, m ++ wordN y j = q := ⟨_, rfl⟩
            have HQ : Hid (m ++ wordN y j = q) := hq
            rw [hq] at hown3 hL3
            clear hq
            obtain ⟨s, hs⟩ : ∃ s : Nat, 8 * (7 - j) = s := ⟨_, rfl⟩
            have hs2 : (56 : Int) - 8 * (j : Int) = (s : Int) := by omega
            have HB : Hid (wbyte y j = IntKind.u64.wrap y / 2 ^ s % 256) := by show _ = _; unfold wbyte; rw [hs]
            have HS2 : Hid (56 - 8 * (j : Int) = (s : Int)) := hs2
            have hs3 : s ≤ 56 := by omega
            rw [hs2]
            clear hs hs2
            obtain ⟨a3, cap3, rfl, hsl3⟩ := hown3.sl
            have hq0 : 0 ≤ IntKind.u64.wrap y := by rw [IntKind.wrap_u64]; omega
            have hs0 : (0 : Int) ≤ (s : Int) := by omega
            go_wp2_with (at_builtin; refine wpList_append_own _ rfl (.tmp 92) (.tmp 99) 27 rfl (w1.heap.size + 1) 5 ib (.int .u8 0) 1 1 Try.underlying27 hib hzb0 hzb1 hzb2 rfl (by decide) _ q.length (B.cells q) rfl (hown3.1.alloc _) ⟨_, 0, none⟩ 1 1 (B.cells [_]) rfl rfl (cell_one' _ _) (B.cells_one _) (by unfold maxLen; omega) (by omega) (by simp; omega) ?_; intro v4 w4 hown4 hg4 _)
            have z3 := hg4.size
            simp at z3
            have hb4 := (hbq.alloc hzq (.cells #[.int .u8 (IntKind.u64.wrap y / 2 ^ s % 256)] 5)).grown hg4 (by simp; omega) (fun k hk => by have := (hown3.1.lt k hk).1; omega)
            go_roundw
            case rel =>
              have hm8 := HS2.out
              refine ⟨j + 1, by omega, by rw [← hm8]; congr 1; omega, ?_, hb4, by omega⟩
              rw [HW.out, ← List.append_assoc, HQ.out, HB.out]
              exact B.own_snoc hown4 hown3.2 (by have := (wbyte_bd y j).1; rw [HB.out] at this; exact this) (by have := (wbyte_bd y j).2; rw [HB.out] at this; exact this)
            case measure => simp [intOf]; omega
          · obtain rfl : j = 8 := by omega
            go_wp2
            go_roundw
            case rel =>
              refine ⟨k + 1, by omega, by go_num, ?_, hbq⟩
              rw [HS.out, ← List.append_assoc, HM.out]
              exact hown3
            case measure => simp [intOf]; omega
      · obtain rfl : k = n := by omega
        have HT : Hid (z.take k = z) := List.take_of_length_le (by have := HN.out; omega)
        have HP : Hid (headI x ++ bodyI z = packI x) := by show _ = _; rw [packI, HXZ.out]
        rw [HT.out, HP.out] at hown2 hLen
        have HPL : Hid ((packI x).length = 10 + 8 * k) := hLen
        have HSL : Hid ((B.sealI (packI x)).length = 12 + 8 * k) := by show _ = _; rw [sealI_len, HPL.out]; omega
        obtain ⟨c0, c1, c2, c3, c4, c5, c6, c7, c8⟩ := hbox.below hbr (by omega)
        obtain ⟨a2, cap2, rfl, hs2⟩ := hown2.sl' hLen
        have hsx : Sl wr a1 k cap1 x.z := by rw [HXZ.out]; exact hsr
        clear hown1 hown2 hbox hLen
        go_wp2_with (first
          | (go_at_call 12; refine (pack_yes x a1 k cap1 _ hsx hr).mono ?_; rintro e w5 ⟨v5, rfl, hown5, hb5⟩; obtain ⟨a5, cap5, rfl, hs5⟩ := hown5.sl' HSL.out; have hs2' := hs2.below hb5)
          | (go_at_call 14; refine (B.seal_any a2 _ _ cap2 _ hs2' (by omega)).mono ?_; rintro e w6 ⟨v6, rfl, hown6, hb6⟩; obtain ⟨a6, cap6, rfl, hs6⟩ := hown6.sl' HSL.out; have hs5' := hs5.below hb6)
          | (go_at_call 13; refine (B.same_any a5 a6 _ _ _ _ cap5 cap6 _ hs5' hs6).mono ?_; rintro e w7 ⟨he, k7, rfl⟩; rw [decide_eq_true rfl] at he; subst he)
          | (go_at_call 15; refine (wakes_any _).mono ?_; rintro e w8 ⟨rfl, hb8⟩))
        go_ret
        exact ⟨rfl, next (next (next (B1.trans (hbr.mono (by omega))) hb5) hb6) (next (below_dn _ k7) hb8)⟩
end Go.Proofs.Ytbllhjhlkngchaa
