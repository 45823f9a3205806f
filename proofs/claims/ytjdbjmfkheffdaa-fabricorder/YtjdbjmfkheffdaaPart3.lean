/- The contract of packet.head: a packet's first ten bytes, in new memory. Conditions: as stated.
The contracts of packet.appendWord, Pack and of the statements' wakes. Conditions: as each theorem states them.
The contracts of slices.Equal over whole numbers and of packet.Same. Conditions: as each theorem states them.
(What stood here stands in Pk0.)
The contracts of packet's readWord, readWords and hasForm. Conditions: as each theorem states them.
Regions that draw their order and end in a store into memory that was there: as Take, but of the world behind the last operation nothing is asked. Nothing of the program is named here.
The contract of packet.read. Conditions: as stated.
The contract of packet.Unpack. Conditions: as stated.
Packets as they come in: the value written out, its words readable.
A packet over the wire: packed, spoilt, unpacked. Conditions: as each theorem states them. -/
import Derived.Test.YtjdbjmfkheffdaaPart2
import Derived.Deep.CutBlock
import Derived.Test.YtjdbjmfkheffdaaPart1
import Derived.ArgAppend
section
namespace Go.Proofs.Ytjdbjmfkheffdaa
open Go.RowKit
set_option linter.unusedVariables false

theorem hd_own {w : World} {base : Nat} (m : List Int) (h8 : B.B8 m) (hm : m.length ≤ maxLen) (g : Nat) (hb : base ≤ g) (h : w.heap[g]? = some (.cells (B.cells m).toArray 5 (0, 0))) : B.Own w base (.slice (some ⟨g, 0, none⟩) m.length m.length) m :=
  ⟨⟨by simp [B.cells], Or.inr ⟨g, m.length, (B.cells m).toArray, rfl, hb, h, Nat.le_refl _, hm, by simp [B.cells], by rw [Nat.mul_one]; exact List.take_of_length_le (by simp [B.cells])⟩⟩, h8⟩

set_option maxHeartbeats 1000000 in
theorem head_any (x : Pk) (a : Option Addr) (n cap : Nat) (w : World) (hsl : Sl w a n cap x.z) (hr : x.Right) :
    Calls Try.prog 69 #[x.val (.slice a n cap)] w fun e w' => ∃ v, e = .returned v ∧ B.Own w' w.heap.size v (headI x) ∧ Below w.heap.size w w' := by
  have hl := hsl.len
  have hle := hsl.le
  have hmx := hsl.max
  unfold maxLen at hmx
  obtain ⟨k, f, t, i, l, p, s, fl, z⟩ := x
  obtain ⟨⟨k0, k1⟩, ⟨f0, f1⟩, ⟨t0, t1⟩, ⟨i0, i1⟩, ⟨l0, l1⟩, ⟨p0, p1⟩, ⟨s0, s1⟩, z1⟩ := hr
  simp only at k0 k1 f0 f1 t0 t1 i0 i1 l0 l1 p0 p1 s0 s1 z1 hl
  have HL : Hid (z.length = n) := hl
  have hn4 : n ≤ 4 := by omega
  clear hl z1 hsl
  unfold Pk.val
  go_enter Try.func69, Try.ntmps69
  go_wp2_with fail
  have uc := @Up.cell2
  have uf := @Up.frozen2
  refine wp_region_mild 35 rfl (by kernel_rfl) ?_
  refine mild_take (v := ?v1) 0 rfl (by kernel_rfl) (by kernel_rfl) (by kernel_rfl) (fun _ _ _ h => h) (by kernel_rfl) (fun Wu K hK => ?hy1) ?go1
  case hy1 =>
    go_big_quiet_op
    simp only [Act.put, List.setIfInBounds_toArray, List.set_cons_zero, List.set_cons_succ] at hK
    exact hK
  simp only [Act.put, List.setIfInBounds_toArray, List.set_cons_zero, List.set_cons_succ]
  refine mild_take (v := ?v2) 1 rfl (by kernel_rfl) (by kernel_rfl) (by kernel_rfl) (fun _ _ _ h => h) (by kernel_rfl) (fun Wu K hK => ?hy2) ?go2
  case hy2 =>
    go_big_quiet_op
    simp only [Act.put, List.setIfInBounds_toArray, List.set_cons_zero, List.set_cons_succ] at hK
    exact hK
  simp only [Act.put, List.setIfInBounds_toArray, List.set_cons_zero, List.set_cons_succ]
  refine mild_take (v := ?v3) 2 rfl (by kernel_rfl) (by kernel_rfl) (by kernel_rfl) (fun _ _ _ h => h) (by kernel_rfl) (fun Wu K hK => ?hy3) ?go3
  case hy3 =>
    go_big_quiet_op
    simp only [Act.put, List.setIfInBounds_toArray, List.set_cons_zero, List.set_cons_succ] at hK
    exact hK
  simp only [Act.put, List.setIfInBounds_toArray, List.set_cons_zero, List.set_cons_succ]
  refine mild_take (v := ?v4) 3 rfl (by kernel_rfl) (by kernel_rfl) (by kernel_rfl) (fun _ _ _ h => h) (by kernel_rfl) (fun Wu K hK => ?hy4) ?go4
  case hy4 =>
    go_big_quiet_op
    simp only [Act.put, List.setIfInBounds_toArray, List.set_cons_zero, List.set_cons_succ] at hK
    exact hK
  simp only [Act.put, List.setIfInBounds_toArray, List.set_cons_zero, List.set_cons_succ]
  refine mild_take (v := ?v5) 4 rfl (by kernel_rfl) (by kernel_rfl) (by kernel_rfl) (fun _ _ _ h => h) (by kernel_rfl) (fun Wu K hK => ?hy5) ?go5
  case hy5 =>
    go_big_quiet_op
    simp only [Act.put, List.setIfInBounds_toArray, List.set_cons_zero, List.set_cons_succ] at hK
    exact hK
  simp only [Act.put, List.setIfInBounds_toArray, List.set_cons_zero, List.set_cons_succ]
  refine mild_take (v := ?v6) 5 rfl (by kernel_rfl) (by kernel_rfl) (by kernel_rfl) (fun _ _ _ h => h) (by kernel_rfl) (fun Wu K hK => ?hy6) ?go6
  case hy6 =>
    go_big_quiet_op
    simp only [Act.put, List.setIfInBounds_toArray, List.set_cons_zero, List.set_cons_succ] at hK
    exact hK
  simp only [Act.put, List.setIfInBounds_toArray, List.set_cons_zero, List.set_cons_succ]
  refine mild_take (v := ?v7) 6 rfl (by kernel_rfl) (by kernel_rfl) (by kernel_rfl) (fun _ _ _ h => h) (by kernel_rfl) (fun Wu K hK => ?hy7) ?go7
  case hy7 =>
    go_big_quiet_op
    simp only [Act.put, List.setIfInBounds_toArray, List.set_cons_zero, List.set_cons_succ] at hK
    exact hK
  simp only [Act.put, List.setIfInBounds_toArray, List.set_cons_zero, List.set_cons_succ]
  refine mild_take (v := ?v8) 7 rfl (by kernel_rfl) (by kernel_rfl) (by kernel_rfl) (fun _ _ _ h => h) (by kernel_rfl) (fun Wu K hK => ?hy8) ?go8
  case hy8 =>
    go_big_quiet_op
    simp only [Act.put, List.setIfInBounds_toArray, List.set_cons_zero, List.set_cons_succ] at hK
    exact hK
  simp only [Act.put, List.setIfInBounds_toArray, List.set_cons_zero, List.set_cons_succ]
  refine mild_take (v := ?v9) 8 rfl (by kernel_rfl) (by kernel_rfl) (by kernel_rfl) (fun _ _ _ h => h) (by kernel_rfl) (fun Wu K hK => ?hy9) ?go9
  case hy9 =>
    go_big_quiet_op
    simp only [Act.put, List.setIfInBounds_toArray, List.set_cons_zero, List.set_cons_succ] at hK
    exact hK
  simp only [Act.put, List.setIfInBounds_toArray, List.set_cons_zero, List.set_cons_succ]
  refine mild_take (v := ?v10) 9 rfl (by kernel_rfl) (by kernel_rfl) (by kernel_rfl) (fun _ _ _ h => h) (by kernel_rfl) (fun Wu K hK => ?hy10) ?go10
  case hy10 =>
    go_big_quiet_op
    simp only [Act.put, List.setIfInBounds_toArray, List.set_cons_zero, List.set_cons_succ] at hK
    exact hK
  simp only [Act.put, List.setIfInBounds_toArray, List.set_cons_zero, List.set_cons_succ]
  refine mild_take (v := ?v11) 10 rfl (by kernel_rfl) (by kernel_rfl) (by kernel_rfl) (fun _ _ _ h => h) (by kernel_rfl) (fun Wu K hK => ?hy11) ?go11
  case hy11 =>
    go_big_quiet_op
    simp only [Act.put, List.setIfInBounds_toArray, List.set_cons_zero, List.set_cons_succ] at hK
    exact hK
  simp only [Act.put, List.setIfInBounds_toArray, List.set_cons_zero, List.set_cons_succ]
  refine mild_take (v := ?v12) 11 rfl (by kernel_rfl) (by kernel_rfl) (by kernel_rfl) (fun _ _ _ h => h) (by kernel_rfl) (fun Wu K hK => ?hy12) ?go12
  case hy12 =>
    go_big_quiet_op
    simp only [Act.put, List.setIfInBounds_toArray, List.set_cons_zero, List.set_cons_succ] at hK
    exact hK
  simp only [Act.put, List.setIfInBounds_toArray, List.set_cons_zero, List.set_cons_succ]
  refine mild_take (v := ?v13) 12 rfl (by kernel_rfl) (by kernel_rfl) (by kernel_rfl) (fun _ _ _ h => h) (by kernel_rfl) (fun Wu K hK => ?hy13) ?go13
  case hy13 =>
    go_big_quiet_op
    simp only [Act.put, List.setIfInBounds_toArray, List.set_cons_zero, List.set_cons_succ] at hK
    exact hK
  simp only [Act.put, List.setIfInBounds_toArray, List.set_cons_zero, List.set_cons_succ]
  refine mild_take (v := ?v14) 13 rfl (by kernel_rfl) (by kernel_rfl) (by kernel_rfl) (fun _ _ _ h => h) (by kernel_rfl) (fun Wu K hK => ?hy14) ?go14
  case hy14 =>
    go_big_quiet_op
    simp only [Act.put, List.setIfInBounds_toArray, List.set_cons_zero, List.set_cons_succ] at hK
    exact hK
  simp only [Act.put, List.setIfInBounds_toArray, List.set_cons_zero, List.set_cons_succ]
  refine mild_take (v := ?v15) 14 rfl (by kernel_rfl) (by kernel_rfl) (by kernel_rfl) (fun _ _ _ h => h) (by kernel_rfl) (fun Wu K hK => ?hy15) ?go15
  case hy15 =>
    go_big_quiet_op
    simp only [Act.put, List.setIfInBounds_toArray, List.set_cons_zero, List.set_cons_succ] at hK
    exact hK
  simp only [Act.put, List.setIfInBounds_toArray, List.set_cons_zero, List.set_cons_succ]
  refine mild_take (v := ?v16) 15 rfl (by kernel_rfl) (by kernel_rfl) (by kernel_rfl) (fun _ _ _ h => h) (by kernel_rfl) (fun Wu K hK => ?hy16) ?go16
  case hy16 =>
    go_big_quiet_op
    simp only [Act.put, List.setIfInBounds_toArray, List.set_cons_zero, List.set_cons_succ] at hK
    exact hK
  simp only [Act.put, List.setIfInBounds_toArray, List.set_cons_zero, List.set_cons_succ]
  refine mild_take (v := ?v17) 16 rfl (by kernel_rfl) (by kernel_rfl) (by kernel_rfl) (fun _ _ _ h => h) (by kernel_rfl) (fun Wu K hK => ?hy17) ?go17
  case hy17 =>
    go_big_quiet_op
    simp only [Act.put, List.setIfInBounds_toArray, List.set_cons_zero, List.set_cons_succ] at hK
    exact hK
  simp only [Act.put, List.setIfInBounds_toArray, List.set_cons_zero, List.set_cons_succ]
  refine mild_take (v := ?v18) 17 rfl (by kernel_rfl) (by kernel_rfl) (by kernel_rfl) (fun _ _ _ h => h) (by kernel_rfl) (fun Wu K hK => ?hy18) ?go18
  case hy18 =>
    go_big_quiet_op
    simp only [Act.put, List.setIfInBounds_toArray, List.set_cons_zero, List.set_cons_succ] at hK
    exact hK
  simp only [Act.put, List.setIfInBounds_toArray, List.set_cons_zero, List.set_cons_succ]
  refine mild_take (v := ?v19) 18 rfl (by kernel_rfl) (by kernel_rfl) (by kernel_rfl) (fun _ _ _ h => h) (by kernel_rfl) (fun Wu K hK => ?hy19) ?go19
  case hy19 =>
    go_big_quiet_op
    simp only [Act.put, List.setIfInBounds_toArray, List.set_cons_zero, List.set_cons_succ] at hK
    exact hK
  simp only [Act.put, List.setIfInBounds_toArray, List.set_cons_zero, List.set_cons_succ]
  refine mild_take (v := ?v20) 19 rfl (by kernel_rfl) (by kernel_rfl) (by kernel_rfl) (fun _ _ _ h => h) (by kernel_rfl) (fun Wu K hK => ?hy20) ?go20
  case hy20 =>
    go_big_quiet_op
    simp only [Act.put, List.setIfInBounds_toArray, List.set_cons_zero, List.set_cons_succ] at hK
    exact hK
  simp only [Act.put, List.setIfInBounds_toArray, List.set_cons_zero, List.set_cons_succ]
  refine mild_take (v := ?v21) 20 rfl (by kernel_rfl) (by kernel_rfl) (by kernel_rfl) (fun _ _ _ h => h) (by kernel_rfl) (fun Wu K hK => ?hy21) ?go21
  case hy21 =>
    go_big_quiet_op
    simp only [Act.put, List.setIfInBounds_toArray, List.set_cons_zero, List.set_cons_succ] at hK
    exact hK
  simp only [Act.put, List.setIfInBounds_toArray, List.set_cons_zero, List.set_cons_succ]
  refine mild_take (v := ?v22) 21 rfl (by kernel_rfl) (by kernel_rfl) (by kernel_rfl) (fun _ _ _ h => h) (by kernel_rfl) (fun Wu K hK => ?hy22) ?go22
  case hy22 =>
    go_big_quiet_op
    simp only [Act.put, List.setIfInBounds_toArray, List.set_cons_zero, List.set_cons_succ] at hK
    exact hK
  simp only [Act.put, List.setIfInBounds_toArray, List.set_cons_zero, List.set_cons_succ]
  refine mild_take (v := ?v23) 22 rfl (by kernel_rfl) (by kernel_rfl) (by kernel_rfl) (fun _ _ _ h => h) (by kernel_rfl) (fun Wu K hK => ?hy23) ?go23
  case hy23 =>
    go_big_quiet_op
    simp only [Act.put, List.setIfInBounds_toArray, List.set_cons_zero, List.set_cons_succ] at hK
    exact hK
  simp only [Act.put, List.setIfInBounds_toArray, List.set_cons_zero, List.set_cons_succ]
  refine mild_take (v := ?v24) 23 rfl (by kernel_rfl) (by kernel_rfl) (by kernel_rfl) (fun _ _ _ h => h) (by kernel_rfl) (fun Wu K hK => ?hy24) ?go24
  case hy24 =>
    go_big_quiet_op
    simp only [Act.put, List.setIfInBounds_toArray, List.set_cons_zero, List.set_cons_succ] at hK
    exact hK
  simp only [Act.put, List.setIfInBounds_toArray, List.set_cons_zero, List.set_cons_succ]
  refine mild_take (v := ?v25) 24 rfl (by kernel_rfl) (by kernel_rfl) (by kernel_rfl) (fun _ _ _ h => h) (by kernel_rfl) (fun Wu K hK => ?hy25) ?go25
  case hy25 =>
    go_big_quiet_op
    simp only [Act.put, List.setIfInBounds_toArray, List.set_cons_zero, List.set_cons_succ] at hK
    exact hK
  simp only [Act.put, List.setIfInBounds_toArray, List.set_cons_zero, List.set_cons_succ]
  refine mild_take (v := ?v26) 25 rfl (by kernel_rfl) (by kernel_rfl) (by kernel_rfl) (fun _ _ _ h => h) (by kernel_rfl) (fun Wu K hK => ?hy26) ?go26
  case hy26 =>
    go_big_quiet_op
    simp only [Act.put, List.setIfInBounds_toArray, List.set_cons_zero, List.set_cons_succ] at hK
    exact hK
  simp only [Act.put, List.setIfInBounds_toArray, List.set_cons_zero, List.set_cons_succ]
  refine mild_take (v := ?v27) 26 rfl (by kernel_rfl) (by kernel_rfl) (by kernel_rfl) (fun _ _ _ h => h) (by kernel_rfl) (fun Wu K hK => ?hy27) ?go27
  case hy27 =>
    go_big_quiet_op
    simp only [Act.put, List.setIfInBounds_toArray, List.set_cons_zero, List.set_cons_succ] at hK
    exact hK
  simp only [Act.put, List.setIfInBounds_toArray, List.set_cons_zero, List.set_cons_succ]
  refine mild_take (v := ?v28) 27 rfl (by kernel_rfl) (by kernel_rfl) (by kernel_rfl) (fun _ _ _ h => h) (by kernel_rfl) (fun Wu K hK => ?hy28) ?go28
  case hy28 =>
    go_big_quiet_op
    simp only [Act.put, List.setIfInBounds_toArray, List.set_cons_zero, List.set_cons_succ] at hK
    exact hK
  simp only [Act.put, List.setIfInBounds_toArray, List.set_cons_zero, List.set_cons_succ]
  refine mild_take (v := ?v29) 28 rfl (by kernel_rfl) (by kernel_rfl) (by kernel_rfl) (fun _ _ _ h => h) (by kernel_rfl) (fun Wu K hK => ?hy29) ?go29
  case hy29 =>
    go_big_quiet_op
    simp only [Act.put, List.setIfInBounds_toArray, List.set_cons_zero, List.set_cons_succ] at hK
    refine ⟨_, fun u => Calls.up_same (flagByte_any _ _), ?_⟩
    exact hK
  simp only [Act.put, List.setIfInBounds_toArray, List.set_cons_zero, List.set_cons_succ]
  refine mild_take (v := ?v30) 29 rfl (by kernel_rfl) (by kernel_rfl) (by kernel_rfl) (fun _ _ _ h => h) (by kernel_rfl) (fun Wu K hK => ?hy30) ?go30
  case hy30 =>
    go_big_quiet_op
    simp only [Act.put, List.setIfInBounds_toArray, List.set_cons_zero, List.set_cons_succ] at hK
    exact hK
  simp only [Act.put, List.setIfInBounds_toArray, List.set_cons_zero, List.set_cons_succ]
  refine mild_take (v := ?v31) 30 rfl (by kernel_rfl) (by kernel_rfl) (by kernel_rfl) (fun _ _ _ h => h) (by kernel_rfl) (fun Wu K hK => ?hy31) ?go31
  case hy31 =>
    go_big_quiet_op
    simp only [Act.put, List.setIfInBounds_toArray, List.set_cons_zero, List.set_cons_succ] at hK
    exact hK
  simp only [Act.put, List.setIfInBounds_toArray, List.set_cons_zero, List.set_cons_succ]
  refine mild_take (v := ?v32) 31 rfl (by kernel_rfl) (by kernel_rfl) (by kernel_rfl) (fun _ _ _ h => h) (by kernel_rfl) (fun Wu K hK => ?hy32) ?go32
  case hy32 =>
    go_big_quiet_op
    simp only [Act.put, List.setIfInBounds_toArray, List.set_cons_zero, List.set_cons_succ] at hK
    exact hK
  simp only [Act.put, List.setIfInBounds_toArray, List.set_cons_zero, List.set_cons_succ]
  refine mild_take (v := ?v33) 32 rfl (by kernel_rfl) (by kernel_rfl) (by kernel_rfl) (fun _ _ _ h => h) (by kernel_rfl) (fun Wu K hK => ?hy33) ?go33
  case hy33 =>
    go_big_quiet_op
    simp only [Act.put, List.setIfInBounds_toArray, List.set_cons_zero, List.set_cons_succ] at hK
    exact hK
  simp only [Act.put, List.setIfInBounds_toArray, List.set_cons_zero, List.set_cons_succ]
  intro W
  refine up_list 33 (by kernel_rfl) rfl ?_
  go_wp2
  refine ⟨by exact ba W.2, fun u => ?_⟩
  refine up_list 34 (by kernel_rfl) rfl ?_
  go_wp2
  refine ⟨by exact next (ba W.2) u.2, fun u2 => ?_⟩
  have z1 : w.heap.size + 1 ≤ W.1.heap.size := by have := W.2.size; simpa using this
  have hb3 := next u.2 u2.2
  have hb2 : Below W.1.heap.size W.1 u2.1 := next (ba (Below.refl _ _)) hb3
  have hblk := hb3.block W.1.heap.size (by simp)
  refine up_done (by kernel_rfl) ?_
  go_wp2
  go_ret
  have e : headI ⟨k, f, t, i, l, p, s, fl, z⟩ = [k, f, t, i / 256, i % 256, l, p + 1, s, flI fl, (n : Int)] := by
    unfold headI
    simp only [HL.out]
    rw [Int.emod_eq_of_lt (by omega) (by omega), Int.emod_eq_of_lt (a := f) (by omega) (by omega), Int.emod_eq_of_lt (a := t) (by omega) (by omega), Int.emod_eq_of_lt (a := i / 256) (by omega) (by omega), Int.emod_eq_of_lt (a := l) (by omega) (by omega), Int.emod_eq_of_lt (a := p + 1) (by omega) (by omega), Int.emod_eq_of_lt (a := s) (by omega) (by omega), Int.emod_eq_of_lt (a := (n : Int)) (by omega) (by omega)]
  refine ⟨_, rfl, ?_, ?_⟩
  · rw [e]
    exact hd_own [k, f, t, i / 256, i % 256, l, p + 1, s, flI fl, (n : Int)] (by rw [← e]; exact headI_b8 _) (by unfold maxLen; simp) W.1.heap.size (by omega) (by rw [hblk]; exact heap_alloc_new _ _)
  · exact next (next (ba (Below.refl _ _)) W.2) hb2
end Go.Proofs.Ytjdbjmfkheffdaa
end
section
namespace Go.Proofs.Ytjdbjmfkheffdaa
open Go.RowKit
set_option linter.unusedVariables false
set_option maxRecDepth 20000

theorem cell_one' (w : World) (x : Int) : ∀ j u, (B.cells [x])[j]? = some u → (w.alloc (.cells #[.int .u8 x] 5)).cell? ((⟨w.heap.size, 0, none⟩ : Addr).add j) = some u := by
  intro j u hu
  obtain ⟨hj, rfl⟩ := B.cells_get hu
  rw [Addr.add_lit, Nat.zero_add, cell_of_row _ _ _ _ 5 (0, 0) (heap_alloc_new w _)]
  simp at hj
  match j, hj with
  | 0, _ => rfl

set_option maxHeartbeats 400000 in
theorem appendWord_any (v : Value) (l : List Int) (word : Int) (base : Nat) (w : World) (hown : B.Own w base v l) (hl : l.length ≤ 1000) (hb : base ≤ w.heap.size) :
    Calls Try.prog 70 #[v, .int .i64 word] w fun e w' => ∃ v', e = .returned v' ∧ B.Own w' base v' (l ++ wordI word) ∧ Below base w w' := by
  obtain ⟨i0, hi, hz0, hz1, hz2⟩ := info_parts B.Try.info5
  go_enter Try.func70, Try.ntmps70
  go_wp2
  go_loopw [0, 9] (fun b i wr => ∃ k : Nat, k ≤ 8 ∧ i = .int .i64 k ∧ B.Own wr base b (l ++ wordN word k) ∧ Below base w wr ∧ base ≤ wr.heap.size) (fun _ i _ => 8 - (intOf i).toNat)
  case atStart => exact ⟨0, by omega, rfl, by simpa [wordN] using hown, Below.refl _ _, hb⟩
  case round =>
    obtain ⟨k, hk, rfl, hown1, hb1, hz⟩ := hrel
    by_cases hlt : k < 8
    · have HS : Hid (wordN word (k + 1) = wordN word k ++ [wbyte word k]) := wordN_succ word k
      have hL : (l ++ wordN word k).length ≤ 1008 := by rw [List.length_append, wordN_len]; omega
      generalize hm : l ++ wordN word k = m at *
      have HM : Hid (l ++ wordN word k = m) := hm
      clear hm
      obtain ⟨a1, cap1, rfl, hsl1⟩ := hown1.sl
      have q : 0 ≤ IntKind.u64.wrap word := by rw [IntKind.wrap_u64]; omega
      go_wp2_with (at_builtin; refine wpList_append_own _ rfl (.tmp 12) (.tmp 19) 86 rfl base 5 i0 (.int .u8 0) 1 1 Try.underlying86 hi hz0 hz1 hz2 rfl (by decide) _ m.length (B.cells m) rfl (hown1.1.alloc _) ⟨_, 0, none⟩ 1 1 (B.cells [_]) rfl rfl (cell_one' _ _) (B.cells_one _) (by unfold maxLen; omega) (by omega) (by simp; omega) ?_; intro v3 w3 hown3 hg3 _)
      have z3 := hg3.size
      simp at z3
      have hb3 := (hb1.alloc hz (.cells #[.int .u8 (IntKind.u64.wrap word / 2 ^ (8 * (7 - k)) % 256)] 5)).grown hg3 (by simp; omega) (fun k hk => by have := (hown1.1.lt k hk).1; omega)
      go_roundw
      case rel =>
        refine ⟨k + 1, by omega, by go_num, ?_, hb3, by omega⟩
        rw [HS.out, ← List.append_assoc, HM.out]
        exact B.own_snoc hown3 hown1.2 (wbyte_bd word k).1 (wbyte_bd word k).2
      case measure => simp [intOf]; omega
    · obtain rfl : k = 8 := by omega
      go_wp2
      go_ret
      exact ⟨_, rfl, hown1, hb1⟩

theorem sealI_len (l : List Int) : (B.sealI l).length = l.length + 2 := by simp [B.sealI]
theorem B.Own.low {w : World} {base base' : Nat} {v : Value} {l : List Int} (h : B.Own w base v l) (hb : base' ≤ base) : B.Own w base' v l := by
  refine ⟨⟨h.1.1, h.1.2.imp id ?_⟩, h.2⟩
  rintro ⟨g, cap, cur, e, hg, rest⟩
  exact ⟨g, cap, cur, e, Nat.le_trans hb hg, rest⟩

set_option maxHeartbeats 1000000 in
/-- A packet that may be: its seal. -/
theorem pack_yes (x : Pk) (a : Option Addr) (n cap : Nat) (w : World) (hsl : Sl w a n cap x.z) (hr : x.right = true) :
    Calls Try.prog 57 #[x.val (.slice a n cap)] w fun e w' => ∃ v, e = .returned (.tuple #[v, .int .i64 0]) ∧ B.Own w' w.heap.size v (B.sealI (packI x)) ∧ Below w.heap.size w w' := by
  have HL : Hid (x.z.length = n) := hsl.len
  have hR := (Pk.right_iff x).1 hr
  have HE : Hid (x.err = 0) := Pk.err_t hr
  have hn4 : n ≤ 4 := by have := hR.z; have := HL.out; omega
  clear hr
  unfold Pk.val
  go_enter Try.func57, Try.ntmps57
  go_wp2_with (first
    | (go_at_call 31; refine (check_any x a n cap _ (hsl.below (ba (Below.refl _ _)))).mono ?_; rintro e w1 ⟨rfl, hb1⟩; rw [HE.out]; obtain ⟨hc1, hf1⟩ := bcell hb1)
    | (go_at_call 69; refine (head_any x a n cap _ (hsl.below (next (ba (Below.refl _ _)) hb1)) hR).mono ?_; rintro e w2 ⟨v2, rfl, hown2, hb2⟩; obtain ⟨hc2, hf2⟩ := bcell hb2; have z1 : w.heap.size < w1.heap.size := by have := hb1.size; simp at this; omega))
  have B1 : Below w.heap.size w w1 := next (ba (Below.refl _ _)) hb1
  have hs1 := hsl.below B1
  clear hc1 hf1 hc2 hf2 hb1
  go_loopw [5, 18] (fun b i wr => ∃ k : Nat, k ≤ n ∧ i = .int .i64 k ∧ B.Own wr w1.heap.size b (headI x ++ bodyI (x.z.take k)) ∧ Below w1.heap.size w1 wr) (fun _ i _ => n - (intOf i).toNat)
  case atStart => exact ⟨0, by omega, rfl, by simpa [bodyI] using hown2, hb2⟩
  case round =>
    clear hown2 hb2 z1
    obtain ⟨k, hk, rfl, hown3, hb3⟩ := hrel
    have hLen : (headI x ++ bodyI (x.z.take k)).length = 10 + 8 * k := by rw [List.length_append, headI_len, bodyI_len, List.length_take, HL.out]; omega
    by_cases hlt : k < n
    · have HS : Hid (bodyI (x.z.take (k + 1)) = bodyI (x.z.take k) ++ wordI (x.z[k]?.getD 0)) := bodyI_take _ _ (by have := HL.out; omega)
      obtain ⟨b, o, rfl, hbl, hcell⟩ := (hs1.below hb3).at hlt
      have hz := hb3.size
      generalize x.z[k]?.getD 0 = y at *
      go_wp2_with (go_at_call 70; refine (appendWord_any _ _ y w1.heap.size _ hown3 (by omega) hz).mono ?_; rintro e w4 ⟨v4, rfl, hown4, hb4⟩)
      go_roundw
      case rel => exact ⟨k + 1, by omega, by go_num, by rw [HS.out, ← List.append_assoc]; exact hown4, hb3.trans hb4⟩
      case measure => simp [intOf]; omega
    · obtain rfl : k = n := by omega
      have HT : Hid (x.z.take k = x.z) := List.take_of_length_le (by have := HL.out; omega)
      obtain ⟨a1, cap1, rfl, hsl3⟩ := hown3.sl' hLen
      go_wp2_with (go_at_call 71; refine (B.seal_any a1 _ _ cap1 _ hsl3 (by omega)).mono ?_; rintro e w5 ⟨v5, rfl, hown5, hb5⟩)
      go_ret2
      refine ⟨_, rfl, ?_, next (next B1 hb3) hb5⟩
      rw [HT.out] at hown5
      exact B.Own.low hown5 (by have := hb3.size; have := B1.size; omega)
set_option maxHeartbeats 1000000 in
/-- A packet that may not be. -/
theorem pack_no (x : Pk) (a : Option Addr) (n cap : Nat) (w : World) (hsl : Sl w a n cap x.z) (hr : x.right = false) :
    Calls Try.prog 57 #[x.val (.slice a n cap)] w fun e w' => e = .returned (.tuple #[.slice none 0 0, .int .i64 1]) ∧ Below w.heap.size w w' := by
  have HE : Hid (x.err = 1) := Pk.err_f hr
  clear hr
  unfold Pk.val
  go_enter Try.func57, Try.ntmps57
  go_wp2_with (go_at_call 31; refine (check_any x a n cap _ (hsl.below (ba (Below.refl _ _)))).mono ?_; rintro e w1 ⟨rfl, hb1⟩; rw [HE.out]; obtain ⟨hc1, hf1⟩ := bcell hb1)
  go_ret2
  exact ⟨rfl, next (ba (Below.refl _ _)) hb1⟩

def lockPk : Pk := ⟨1, 0, 0, 0, 0, 0, 0, false, []⟩
theorem lock_right : lockPk.right = true := by decide
end Go.Proofs.Ytjdbjmfkheffdaa
end
section
namespace Go.Proofs.Ytjdbjmfkheffdaa
open Go.RowKit
set_option linter.unusedVariables false
set_option maxRecDepth 20000

end Go.Proofs.Ytjdbjmfkheffdaa
end
section
namespace Go.Proofs.Ytjdbjmfkheffdaa
open Go.RowKit
set_option linter.unusedVariables false
set_option maxRecDepth 20000

end Go.Proofs.Ytjdbjmfkheffdaa
end
section
namespace Go.Proofs.Ytjdbjmfkheffdaa
open Go.RowKit
set_option linter.unusedVariables false
set_option maxRecDepth 20000

theorem B.Sl.at {w : World} {a : Option Addr} {n cap : Nat} {l : List Int} (h : B.Sl w a n cap l) {k : Nat} (hk : k < n) : ∃ b o, a = some ⟨b, o, none⟩ ∧ b < w.heap.size ∧ w.cell? ⟨b, o + k, none⟩ = some (.int .u8 (l[k]?.getD 0)) := by
  have hl := h.len
  rcases h.row with rfl | ⟨b, o, e, hc⟩
  · simp at hl; omega
  · exact ⟨b, o, e, World.block_lt_of_cell? w _ (hc k (by omega)), hc k (by omega)⟩
/-- A piece of a slice of bytes. -/
theorem B.Sl.part {w : World} {b o n cap : Nat} {l : List Int} (h : B.Sl w (some ⟨b, o, none⟩) n cap l) (i j : Nat) (hij : i ≤ j) (hj : j ≤ n) : B.Sl w (some ⟨b, o + i, none⟩) (j - i) (cap - i) ((l.drop i).take (j - i)) := by
  have hl := h.len
  have hle := h.le
  refine ⟨by simp; omega, by omega, Nat.le_trans (Nat.sub_le _ _) h.max, fun e => (by cases e), B.B8_take (B.B8_drop h.b8 i) _, ?_⟩
  by_cases h0 : j - i = 0
  · left; simp [h0]
  · right
    refine ⟨b, o + i, rfl, fun k hk => ?_⟩
    have hk' : k < j - i := by simp at hk; omega
    obtain ⟨b', o', e, _, hc⟩ := h.at (k := i + k) (by omega)
    simp at e
    obtain ⟨rfl, rfl⟩ := e
    rw [Nat.add_assoc, hc]
    congr 2
    rw [List.getElem?_take_of_lt hk', List.getElem?_drop]
set_option maxHeartbeats 400000 in
theorem readWord_any (a : Option Addr) (l : List Int) (n cap : Nat) (w : World) (hsl : B.Sl w a n cap l) :
    Calls Try.prog 83 #[.slice a n cap] w fun e w' => e = .returned (.int .i64 (wordOf l)) ∧ w = w' := by
  have HL : Hid (l.length = n) := hsl.len
  have hm := Nat.le_trans hsl.le hsl.max
  have h8 := hsl.b8
  unfold maxLen at hm
  go_enter Try.func83, Try.ntmps83
  go_wp2
  go_loop [3, 8] (fun r i => ∃ k : Nat, k ≤ n ∧ i = .int .i64 k ∧ r = .int .u64 (rdN (l.take k))) (fun _ i => n - (intOf i).toNat)
  case atStart => exact ⟨0, by omega, rfl, rfl⟩
  case round =>
    obtain ⟨k, hk, rfl, rfl⟩ := hrel
    obtain ⟨b0, b1⟩ := rdN_bd (B.B8_take h8 k)
    by_cases hlt : k < n
    · have HS : Hid (rdN (l.take (k + 1)) = rdStep (rdN (l.take k)) (l[k]?.getD 0)) := rdN_take l k (by have := HL.out; omega)
      obtain ⟨b, o, rfl, _, hck⟩ := hsl.at hlt
      obtain ⟨x0, x1⟩ := B.B8_get h8 k
      generalize l[k]?.getD 0 = x at *
      generalize rdN (l.take k) = d at *
      go_wp2
      go_round
      case rel => exact ⟨k + 1, by omega, by go_num, by rw [HS.out]; rfl⟩
      case measure => simp [intOf]; omega
    · go_wp2
      go_ret
      exact ⟨ret_int (by rw [List.take_of_length_le (by have := HL.out; omega)]; exact (IntWalk.i64_left _).symm), rfl⟩

def fillW (l : List Int) (m k : Nat) : List Int := wordsN l k ++ List.replicate (m - k) 0
theorem fillW_len (l : List Int) (m k : Nat) (h : k ≤ m) : (fillW l m k).length = m := by simp [fillW, wordsN_len]; omega
theorem fillW_zero (l : List Int) (m : Nat) : fillW l m 0 = List.replicate m 0 := by simp [fillW, wordsN]
theorem fillW_full (l : List Int) (m : Nat) : fillW l m m = wordsN l m := by simp [fillW]
theorem fillW_set (l : List Int) (m k : Nat) (h : k < m) : (fillW l m k).set k (wordOf ((l.drop (8 * k)).take 8)) = fillW l m (k + 1) := by
  unfold fillW
  rw [wordsN_succ, List.set_append_right _ _ (by simp [wordsN_len]), wordsN_len, Nat.sub_self, show m - k = (m - (k + 1)) + 1 by omega, List.replicate_succ, List.set_cons_zero, List.append_assoc]
  rfl
theorem icells_set (l : List Int) (j : Nat) (x : Int) : (cells l).set j (.int .i64 x) = cells (l.set j x) := by simp [cells, List.map_set]
theorem imade_own (w : World) (base n : Nat) (hb : base ≤ w.heap.size) (hn : n ≤ 1000) : Own (w.alloc (.cells (madeCells #[.int .i64 0] n) 3)) base (.slice (some ⟨w.heap.size, 0, none⟩) n n) (List.replicate n 0) := by
  have h := World.ownsRow_lit (base := base) (e := 3) (size := 1) w (madeCells #[.int .i64 0] n) n hb (by unfold maxLen; omega) (by simp [madeCells])
  rw [toList_madeCells_one] at h
  simpa [cells, Own] using h

set_option maxHeartbeats 1000000 in
theorem readWords_any (a : Option Addr) (l : List Int) (n cap m : Nat) (w : World) (hsl : B.Sl w a n cap l) (hm : n / 8 = m) (hm1 : m ≤ 255) (hn : n ≤ 3000) :
    Calls Try.prog 81 #[.slice a n cap] w fun e w' => ∃ v, e = .returned v ∧ Own w' w.heap.size v (wordsN l m) ∧ Below w.heap.size w w' := by
  have hle := hsl.le
  have hmx := hsl.max
  unfold maxLen at hmx
  have hd : (n : Int) / 8 = (m : Int) := by omega
  have h8m : 8 * m ≤ n := by omega
  have hmk : ∀ w : World, (Instr.makeSlice 22 (.int .i64 (m : Int)) (.int .i64 (m : Int))).run Try.prog w = .ok (.slice (some ⟨w.heap.size, 0, none⟩) m m) (w.alloc (.cells (madeCells #[.int .i64 0] m) 3)) := fun w => run_make_row' (P := Try.prog) 22 3 (.int .i64 0) 8 Try.underlying22 Try.infoInt rfl .i64 .i64 m (by omega) (by omega) w
  have hmo := imade_own w w.heap.size m (Nat.le_refl _) (by omega)
  have hmb : Below w.heap.size w (w.alloc (.cells (madeCells #[.int .i64 0] m) 3)) := ba (Below.refl _ _)
  have hn0 : (0 : Int) ≤ (n : Int) := by omega
  clear hm
  go_enter Try.func81, Try.ntmps81
  go_wp2
  generalize w.alloc (.cells (madeCells #[.int .i64 0] m) 3) = W at *
  clear hmk hd
  go_loopw [11] (fun i wr => ∃ k : Nat, k ≤ m ∧ i = .int .i64 k ∧ Own wr w.heap.size (.slice (some ⟨w.heap.size, 0, none⟩) m m) (fillW l m k) ∧ Below w.heap.size w wr) (fun i _ => m - (intOf i).toNat)
  case atStart => exact ⟨0, by omega, rfl, by rw [fillW_zero]; exact hmo, hmb⟩
  case round =>
    clear hmo hmb
    obtain ⟨k, hk, rfl, hown, hb⟩ := hrel
    by_cases hlt : k < m
    · have HS : Hid ((fillW l m k).set k (wordOf ((l.drop (8 * k)).take 8)) = fillW l m (k + 1)) := fillW_set l m k hlt
      have HL : Hid ((fillW l m k).length = m) := fillW_len l m k hk
      have HL1 : Hid ((fillW l m (k + 1)).length = m) := fillW_len l m (k + 1) (by omega)
      have hrow : wr.ownsRow w.heap.size 3 1 (.slice (some ⟨w.heap.size, 0, none⟩) m m) m (cells (fillW l m k)) := by have := hown; unfold Own at this; rw [HL.out] at this; exact this
      obtain ⟨b, o, rfl, _, _⟩ := hsl.at (k := 8 * k) (by omega)
      have hpart := (hsl.below hb).part (8 * k) (8 * (k + 1)) (by omega) (by omega)
      obtain ⟨q, hq⟩ : ∃ q, wordOf ((l.drop (8 * k)).take 8) = q := ⟨_, rfl⟩
      have HQ : Hid (wordOf ((l.drop (8 * k)).take (8 * (k + 1) - 8 * k)) = q) := by show _ = _; rw [show 8 * (k + 1) - 8 * k = 8 by omega]; exact hq
      rw [hq] at HS
      have hcell := hrow.cellAt k (by omega)
      have hcell' : (cells (fillW l m k))[k]? = some (.int .i64 ((fillW l m k)[k]?.getD 0)) := by have := HL.out; simp [cells, show k < (fillW l m k).length by omega]
      rw [hcell'] at hcell
      have hfz := hrow.frozenAt k
      have hst := (hrow.stored k (.int .i64 q)).1
      rw [icells_set, HS.out] at hst
      have hz : Below w.heap.size w (wr.setCell ⟨w.heap.size, k, none⟩ (.int .i64 q)) := hb.setCell (by simp) _
      have k0 : (0 : Int) ≤ (k : Int) := by omega
      have k1 : (k : Int) < (m : Int) := by omega
      clear hcell' hrow hown hq
      generalize (fillW l m k)[k]?.getD 0 = old at *
      go_wp2_with (go_at_call 83; refine (readWord_any _ _ _ _ _ hpart).mono ?_; rintro e w2 ⟨rfl, rfl⟩; rw [HQ.out])
      go_roundw
      case rel => exact ⟨k + 1, by omega, by go_num, by unfold Own; rw [HL1.out]; exact hst, hz⟩
      case measure => simp [intOf]; omega
    · obtain rfl : k = m := by omega
      go_wp2
      go_ret
      exact ⟨_, rfl, by rw [← fillW_full]; exact hown, hb⟩

set_option maxHeartbeats 1000000 in
theorem hasForm_any (a : Option Addr) (l : List Int) (n cap : Nat) (w : World) (hsl : B.Sl w a n cap l) :
    Calls Try.prog 73 #[.slice a n cap] w fun e w' => e = .returned (.bool (formB l)) ∧ ∃ k, w' = w.drewN k := by
  have HL : Hid (l.length = n) := hsl.len
  have hle := hsl.le
  have hmx := hsl.max
  unfold maxLen at hmx
  by_cases h10 : n < 10
  · have HF : Hid (formB l = false) := by show _ = _; unfold formB; rw [HL.out]; simp; omega
    go_enter Try.func73, Try.ntmps73
    go_wp2
    go_ret
    exact ⟨ret_bool HF.out.symm, 0, rfl⟩
  · obtain ⟨b, o, rfl, _, c8⟩ := hsl.at (k := 8) (by omega)
    obtain ⟨b', o', e, _, c9⟩ := hsl.at (k := 9) (by omega)
    simp at e
    obtain ⟨rfl, rfl⟩ := e
    have HF : Hid (formB l = (decide (l[8]?.getD 0 ≤ 1) && decide ((n : Int) = 10 + 8 * l[9]?.getD 0))) := by show _ = _; unfold formB; rw [HL.out, decide_eq_true (show 10 ≤ n by omega)]; rfl
    obtain ⟨x0, x1⟩ := B.B8_get hsl.b8 8
    obtain ⟨y0, y1⟩ := B.B8_get hsl.b8 9
    generalize l[8]?.getD 0 = x at *
    generalize l[9]?.getD 0 = y at *
    have hn8 : (8 : Int) < (n : Int) := by omega
    have hn9 : (9 : Int) < (n : Int) := by omega
    by_cases hx : x ≤ 1
    · have hx' : decide (x ≤ 1) = true := decide_eq_true hx
      go_enter Try.func73, Try.ntmps73
      go_wp2_with fail
      go_quiet (fail)
      go_wp2
      go_ret
      exact ⟨ret_bool (by rw [HF.out, hx', Bool.true_and]; exact Bool.eq_iff_iff.2 (by simp)), _, rfl⟩
    · have hx' : decide (x ≤ 1) = false := decide_eq_false hx
      go_enter Try.func73, Try.ntmps73
      go_wp2_with fail
      go_quiet (fail)
      go_wp2
      go_ret
      exact ⟨ret_bool (by rw [HF.out, hx']; rfl), _, rfl⟩
end Go.Proofs.Ytjdbjmfkheffdaa
end
section
namespace Go.Proofs.Ytjdbjmfkheffdaa
open Go.RowKit
set_option linter.unusedVariables false

section
variable {P : Program} {ops : Array Oper} {Q : Exit → Act → World → Prop} {w0 : World} {q : Nat}

/-- Whatever order is picked from here on; behind each operation but the last the world is above w0, and may grow. -/
def wpAnyV (P : Program) (ops : Array Oper) (Q : Exit → Act → World → Prop) (w0 : World) (q : Nat) : Nat → Array Bool → Act → World → Prop
  | 0, listed, a, w => Region.ready .any ops listed = [] ∧ Q .normal a w
  | fuel + 1, listed, a, w =>
    (Region.ready .any ops listed = [] → Q .normal a w) ∧
    ∀ i ∈ Region.ready .any ops listed, wpOp P ops Q i (fun a' w' => (i ≠ q → Below w0.heap.size w0 w') ∧ ∀ u : Up w', wpAnyV P ops Q w0 q fuel (listed.setIfInBounds i true) a' u.1) a w
theorem wpAny_of_v : ∀ (fuel : Nat) (listed : Array Bool) (a : Act) (w : World), wpAnyV P ops Q w0 q fuel listed a w → wpAny P .any ops Q fuel listed a w
  | 0, _, _, _, h => h
  | fuel + 1, _, _, _, h => ⟨h.1, fun i hi => wpOp_mono (fun a' w' h' => wpAny_of_v fuel _ a' w' (h'.2 (Up.self _))) (h.2 i hi)⟩
theorem wpAnyV_low {w1 : World} (hb : Below w0.heap.size w0 w1) : ∀ (fuel : Nat) (listed : Array Bool) (a : Act) (w : World), wpAnyV P ops Q w1 q fuel listed a w → wpAnyV P ops Q w0 q fuel listed a w
  | 0, _, _, _, h => h
  | fuel + 1, _, _, _, h => ⟨h.1, fun i hi => wpOp_mono (fun a' w' h' => ⟨fun hr => next hb (h'.1 hr), fun u => wpAnyV_low hb fuel _ a' u.1 (h'.2 u)⟩) (h.2 i hi)⟩
/-- Operation q waits for all others. -/
def waitsAll (ops : Array Oper) (q : Nat) : Bool := (List.range ops.size).all fun i => i == q || ((ops[q]?).map fun o => o.after.any fun e => Region.binds .any e && e.on == i).getD false
theorem waitsAll_spec (h : waitsAll ops q = true) {i : Nat} (hi : i < ops.size) (hne : i ≠ q) {oq : Oper} (hq : ops[q]? = some oq) : ∃ e ∈ oq.after, Region.binds .any e = true ∧ e.on = i := by
  unfold waitsAll at h
  have h1 := List.all_eq_true.1 h i (List.mem_range.2 hi)
  rw [hq] at h1
  simp at h1
  rcases h1 with h1 | ⟨k, hk, h2, h3⟩
  · exact absurd h1 hne
  · exact ⟨oq.after[k], Array.getElem_mem hk, h2, h3⟩
theorem wpAnyV_first (hwa : waitsAll ops q = true) {i : Nat} {oi : Oper} {v : Value} (hi : ops[i]? = some oi) (hsel : ∀ (j : Nat) (o : Oper) cs b, ops[j]? = some o → o.op ≠ .select cs b)
    (hQ : ∀ c a w, Q (.panic c) (a.put oi.dst v) w → Q (.panic c) a w) :
    ∀ (fuel : Nat) (listed : Array Bool) (a : Act) (W : Up w0),
      (∀ j oj, ops[j]? = some oj → j ≠ i → listed.getD j true = false → (∀ e ∈ oj.after, Region.binds .any e = true → e.on ≠ i) → oi.apart ops oj = true) →
      i ∈ Region.ready .any ops listed → Mild P ops w0 oi v a →
      (∀ u : Up W.1, wpAnyV P ops Q w0 q fuel (listed.setIfInBounds i true) (a.put oi.dst v) u.1) → wpAnyV P ops Q w0 q (fuel + 1) listed a W.1 := by
  intro fuel
  induction fuel with
  | zero =>
    intro listed a W _ hr hy H
    refine ⟨fun h => (by rw [h] at hr; cases hr), fun j hj => ?_⟩
    by_cases hji : j = i
    · subst hji; exact hy.wpOp hi W fun u => ⟨fun _ => (W.trans u).2, fun u' => H (u.trans u')⟩
    · have := ready_mono hj hji
      rw [(H (Up.self _)).1] at this
      cases this
  | succ fuel ih =>
    intro listed a W hfree hr hy H
    refine ⟨fun h => (by rw [h] at hr; cases hr), fun j hj => ?_⟩
    by_cases hji : j = i
    · subst hji; exact hy.wpOp hi W fun u => ⟨fun _ => (W.trans u).2, fun u' => H (u.trans u')⟩
    · have h1 := (H (Up.self _)).2 j (ready_mono hj hji)
      obtain ⟨hjun, oj, hoj, hall⟩ := mem_ready.1 hj
      have hnot : ∀ e ∈ oj.after, Region.binds .any e = true → e.on ≠ i := fun e he hb heq => by
        have g1 := hall e he hb
        have g0 := (mem_ready.1 hr).1
        rw [heq] at g1
        rcases Nat.lt_or_ge i listed.size with h' | h'
        · simp [h'] at g0 g1; rw [g0] at g1; cases g1
        · simp [Array.getElem?_eq_none h'] at g1
      have h2 := wpOp_mild hoj (hfree j oj hoj hji hjun hnot) (fun cs b => hsel i oi cs b hi) (fun cs b => hsel j oj cs b hoj) hQ hy h1
      have hfree' : ∀ k ok, ops[k]? = some ok → k ≠ i → (listed.setIfInBounds j true).getD k true = false →
          (∀ e ∈ ok.after, Region.binds .any e = true → e.on ≠ i) → oi.apart ops ok = true := fun k ok hk hki hun hno => by
        refine hfree k ok hk hki ?_ hno
        by_cases hjk : j = k
        · subst hjk; exact hjun
        · rw [getD_set_ne true hjk] at hun; exact hun
      have hri : i ∈ Region.ready .any ops (listed.setIfInBounds j true) := ready_mono hr (Ne.symm hji)
      have hjq : j ≠ q := by
        intro e
        subst e
        have hlt : i < ops.size := (Array.getElem?_eq_some_iff.1 hi).1
        obtain ⟨e, he, hb, hon⟩ := waitsAll_spec hwa hlt (Ne.symm hji) hoj
        exact hnot e he hb hon
      refine wpOp_mono (fun a' w' h3 => ?_) h2
      have hB := h3.2.1 hjq
      refine ⟨fun _ => hB, fun u => ?_⟩
      refine ih (listed.setIfInBounds j true) a' ⟨u.1, next hB u.2⟩ hfree' hri h3.1 fun u' => ?_
      rw [Array.setIfInBounds_comm _ _ hji]
      exact h3.2.2 (u.trans u')

/-- The region, from here on, in every world above w0. -/
def MildV (P : Program) (ops : Array Oper) (Q : Exit → Act → World → Prop) (w0 : World) (q fuel : Nat) (listed : Array Bool) (a : Act) : Prop :=
  ∀ W : Up w0, wpAnyV P ops Q w0 q fuel listed a W.1
theorem wp_region_mildv {id : Nat} {a : Act} {w : World} {l : List Oper} (n q : Nat) (hn : l.length = n) (hm : P.follows .mixedOrders = true) (h : MildV P l.toArray Q w q n (Array.replicate n false) a) : (Code.region id l.toArray true).wp P Q a w := by
  subst hn
  refine wp_region_any hm (wpAny_of_v (w0 := w) (q := q) _ _ _ _ ?_)
  have := h ⟨w.drew, (Below.refl _ _).drew⟩
  simpa using this
theorem mildv_take (i : Nat) {l rest : List Oper} {oi : Oper} {v : Value} {fuel : Nat} {listed : Array Bool} {a : Act} (hd : l.drop i = oi :: rest) (hs : Region.noSelect l.toArray = true) (hwa : waitsAll l.toArray q = true)
    (hf : Region.free .any l.toArray listed i = true) (hr : (Region.ready .any l.toArray listed).contains i = true) (hQ : ∀ c a w, Q (.panic c) (a.put oi.dst v) w → Q (.panic c) a w)
    (hw : Region.wanted oi (yielded l.toArray a.tmps) = true) (hy : ∀ (W : Up w0) (K : Act → Prop), K (a.put oi.dst v) → oi.quiet P a (fun w' => ∃ u : Up W.1, w' = u.1) K)
    (h : MildV P l.toArray Q w0 q fuel (listed.setIfInBounds i true) (a.put oi.dst v)) : MildV P l.toArray Q w0 q (fuel + 1) listed a := fun W =>
  wpAnyV_first hwa (of_drop hd) (Region.noSelect_spec hs) hQ fuel listed a W (Region.free_spec (of_drop hd) hf) (by simpa using hr) (.inl ⟨hw, hy⟩) fun u => h (W.trans u)
theorem upv_raise {fuel : Nat} {listed : Array Bool} {a : Act} {w : World} (hb : Below w0.heap.size w0 w) (h : MildV P ops Q w q fuel listed a) : wpAnyV P ops Q w0 q fuel listed a w :=
  wpAnyV_low hb fuel listed a w (h (Up.self w))
theorem upv_list (i : Nat) {l rest : List Oper} {oi : Oper} {fuel : Nat} {listed : Array Bool} {a : Act} {w : World} (hr : Region.ready .any l.toArray listed = [i]) (hd : l.drop i = oi :: rest)
    (h : wpList P l.toArray (Then (fun a' w' => (i ≠ q → Below w0.heap.size w0 w') ∧ ∀ u : Up w', wpAnyV P l.toArray Q w0 q fuel (listed.setIfInBounds i true) a' u.1) Q) [oi] a w) : wpAnyV P l.toArray Q w0 q (fuel + 1) listed a w :=
  ⟨fun h0 => (by rw [hr] at h0; cases h0), (by rw [hr]; intro j hj; rw [List.mem_singleton] at hj; subst hj; exact op_list j hd h)⟩
theorem upv_two (i j : Nat) {l ri rj : List Oper} {oi oj : Oper} {fuel : Nat} {listed : Array Bool} {a : Act} {w : World} (hr : Region.ready .any l.toArray listed = [i, j]) (hdi : l.drop i = oi :: ri) (hdj : l.drop j = oj :: rj)
    (hi : wpList P l.toArray (Then (fun a' w' => (i ≠ q → Below w0.heap.size w0 w') ∧ ∀ u : Up w', wpAnyV P l.toArray Q w0 q fuel (listed.setIfInBounds i true) a' u.1) Q) [oi] a w)
    (hj : wpList P l.toArray (Then (fun a' w' => (j ≠ q → Below w0.heap.size w0 w') ∧ ∀ u : Up w', wpAnyV P l.toArray Q w0 q fuel (listed.setIfInBounds j true) a' u.1) Q) [oj] a w) : wpAnyV P l.toArray Q w0 q (fuel + 1) listed a w :=
  ⟨fun h0 => (by rw [hr] at h0; cases h0), (by
    rw [hr]
    intro x hx
    simp at hx
    rcases hx with rfl | rfl
    · exact op_list x hdi hi
    · exact op_list x hdj hj)⟩
theorem upv_done {fuel : Nat} {listed : Array Bool} {a : Act} {w : World} (hr : Region.ready .any ops listed = []) (h : Q .normal a w) : wpAnyV P ops Q w0 q fuel listed a w := by
  cases fuel with
  | zero => exact ⟨hr, h⟩
  | succ n => exact ⟨fun _ => h, by rw [hr]; simp⟩
/-- An append without room, whether or not it hangs on a test. -/
theorem wpList_grows_w (w : World) {ops : Array Oper} {rest : List Oper} {o : Oper} {a : Act}
    (hw : Region.wanted o (yielded ops a.tmps) = true) (s x : Operand) (t : TypeId) (hop : o.op = Op.call { callee := Callee.builtin Builtin.append, args := #[s, x], argTypes := #[t, t] })
    (e : TypeId) (i : TypeInfo) (z : Value) (size bytes : Nat) (h1 : P.underlying t = some (.slice e)) (h2 : P.info? e = some i) (h3 : i.zero = some z) (h4 : i.size = size) (h5 : i.bytes = bytes) (h6 : z.cells.size = size) (h7 : 0 < size)
    (b : Addr) (n cap : Nat) (olds : List Value) (hs : a.eval s = .slice (some b) n cap) (hlo : olds.length = n * size) (holds : ∀ j u, olds[j]? = some u → w.cell? (b.add j) = some u)
    (ad : Addr) (m c : Nat) (news : List Value) (hx : a.eval x = .slice (some ad) m c) (hn : news.length = m * size) (hc : ∀ j u, news[j]? = some u → w.cell? (ad.add j) = some u)
    (hfull : cap < n + m) (b1 : n + m ≤ maxLen) (b2 : (n + m) * bytes ≤ 140737488355328)
    (hK : ∀ v' w', w'.ownsRow w.heap.size e size v' (n + m) (olds ++ news) → w.grownBy w' none → wpList P ops Q rest (a.put o.dst v') w') :
    wpList P ops Q (o :: rest) a w := by
  unfold wpList
  rw [if_pos hw]
  left
  obtain ⟨v', w', hrun, r1, r2⟩ := run_append_arg_grows (P := P) w t o.type e i z size bytes h1 h2 h3 h4 h5 h6 h7 b n cap olds hlo holds ad m c news hn hc hfull b1 b2
  unfold Oper.wp
  simp [execOp, hop, resolve, invoke, builtin, hs, hx, hrun, Result.andThen]
  exact hK v' w' r1 r2
end
end Go.Proofs.Ytjdbjmfkheffdaa
end
section
namespace Go.Proofs.Ytjdbjmfkheffdaa
open Go.RowKit
set_option linter.unusedVariables false
set_option maxRecDepth 20000

theorem i64_join {x y : Int} (hx0 : 0 ≤ x) (hx1 : x < 256) (hy0 : 0 ≤ y) (hy1 : y < 256) : bits .or .i64 (x * 256) y = x * 256 + y := by
  obtain ⟨a, rfl⟩ := Int.eq_ofNat_of_zero_le hx0
  obtain ⟨b, rfl⟩ := Int.eq_ofNat_of_zero_le hy0
  have e : bits .or .i64 ((a : Int) * 256) (b : Int) = IntKind.i64.wrap ((BitVec.ofInt 64 ((a : Int) * 256) ||| BitVec.ofInt 64 (b : Int)).toNat : Int) := rfl
  have h1 : (BitVec.ofInt 64 ((a : Int) * 256)).toNat = a * 256 := by
    rw [show ((a : Int) * 256) = ((a * 256 : Nat) : Int) by omega, BitVec.ofInt_natCast, BitVec.toNat_ofNat]; exact Nat.mod_eq_of_lt (by omega)
  have h2 : (BitVec.ofInt 64 (b : Int)).toNat = b := by rw [BitVec.ofInt_natCast, BitVec.toNat_ofNat]; exact Nat.mod_eq_of_lt (by omega)
  rw [e, BitVec.toNat_or, h1, h2, nat_join 8 _ _ (by omega) (by omega), IntKind.wrap_i64]
  omega

set_option maxHeartbeats 1000000 in
set_option maxRecDepth 20000 in
theorem read_any (a : Option Addr) (l : List Int) (n cap m : Nat) (w : World) (hsl : B.Sl w a n cap l) (hn : n = 10 + 8 * m) (hm1 : m ≤ 255) :
    Calls Try.prog 74 #[.slice a n cap] w fun e w' => ∃ a' cap', e = .returned ((readP l).val (.slice a' m cap')) ∧ Own w' w.heap.size (.slice a' m cap') (readP l).z ∧ Below w.heap.size w w' := by
  have HL : Hid (l.length = n) := hsl.len
  have hle := hsl.le
  have hmx := hsl.max
  unfold maxLen at hmx
  obtain ⟨b0, o0, e0, lt0, c0⟩ := hsl.at (k := 0) (by omega)
  obtain ⟨b1, o1, e1, lt1, c1⟩ := hsl.at (k := 1) (by omega)
  obtain ⟨b2, o2, e2, lt2, c2⟩ := hsl.at (k := 2) (by omega)
  obtain ⟨b3, o3, e3, lt3, c3⟩ := hsl.at (k := 3) (by omega)
  obtain ⟨b4, o4, e4, lt4, c4⟩ := hsl.at (k := 4) (by omega)
  obtain ⟨b5, o5, e5, lt5, c5⟩ := hsl.at (k := 5) (by omega)
  obtain ⟨b6, o6, e6, lt6, c6⟩ := hsl.at (k := 6) (by omega)
  obtain ⟨b7, o7, e7, lt7, c7⟩ := hsl.at (k := 7) (by omega)
  obtain ⟨b8, o8, e8, lt8, c8⟩ := hsl.at (k := 8) (by omega)
  subst e0
  simp at e1 e2 e3 e4 e5 e6 e7 e8
  obtain ⟨rfl, rfl⟩ := e1
  obtain ⟨rfl, rfl⟩ := e2
  obtain ⟨rfl, rfl⟩ := e3
  obtain ⟨rfl, rfl⟩ := e4
  obtain ⟨rfl, rfl⟩ := e5
  obtain ⟨rfl, rfl⟩ := e6
  obtain ⟨rfl, rfl⟩ := e7
  obtain ⟨rfl, rfl⟩ := e8
  obtain ⟨x0, y0⟩ := B.B8_get hsl.b8 0
  obtain ⟨x1, y1⟩ := B.B8_get hsl.b8 1
  obtain ⟨x2, y2⟩ := B.B8_get hsl.b8 2
  obtain ⟨x3, y3⟩ := B.B8_get hsl.b8 3
  obtain ⟨x4, y4⟩ := B.B8_get hsl.b8 4
  obtain ⟨x5, y5⟩ := B.B8_get hsl.b8 5
  obtain ⟨x6, y6⟩ := B.B8_get hsl.b8 6
  obtain ⟨x7, y7⟩ := B.B8_get hsl.b8 7
  obtain ⟨x8, y8⟩ := B.B8_get hsl.b8 8
  have hpart := hsl.part 10 n (by omega) (Nat.le_refl _)
  have HZ : Hid ((l.drop 10).take (n - 10) = l.drop 10) := List.take_of_length_le (by have := HL.out; simp; omega)
  have HW : Hid ((readP l).z = wordsN (l.drop 10) m) := by show _ = _; rw [show m = (l.length - 10) / 8 by have := HL.out; omega]; rfl
  rw [HZ.out] at hpart
  replace hpart : B.Sl w (if cap = 10 then some ⟨b0, o0, none⟩ else some ⟨b0, o0 + 10, none⟩) (n - 10) (cap - 10) (l.drop 10) := by
    by_cases hc : cap = 10
    · rw [if_pos hc]
      have hl0 : l.drop 10 = [] := List.drop_eq_nil_of_le (by have := HL.out; omega)
      rw [hl0] at hpart ⊢
      exact ⟨hpart.len, hpart.le, hpart.max, fun e => (by cases e), hpart.b8, .inl rfl⟩
    · rw [if_neg hc]
      exact hpart
  have HP : Hid (readP l = ⟨l[0]?.getD 0, l[1]?.getD 0, l[2]?.getD 0, l[3]?.getD 0 * 256 + l[4]?.getD 0, l[5]?.getD 0, l[6]?.getD 0 - 1, l[7]?.getD 0, l[8]?.getD 0 == 1, (readP l).z⟩) := rfl
  generalize l[0]?.getD 0 = v0 at *
  generalize l[1]?.getD 0 = v1 at *
  generalize l[2]?.getD 0 = v2 at *
  generalize l[3]?.getD 0 = v3 at *
  generalize l[4]?.getD 0 = v4 at *
  generalize l[5]?.getD 0 = v5 at *
  generalize l[6]?.getD 0 = v6 at *
  generalize l[7]?.getD 0 = v7 at *
  generalize l[8]?.getD 0 = v8 at *
  rw [Nat.add_zero] at c0
  have hor := i64_join x3 y3 x4 y4
  clear hsl
  have h10 : (10 : Int) ≤ (n : Int) := by omega
  have h10' : 10 ≤ n := by omega
  have HM : Hid (n = 10 + 8 * m) := hn
  have hB0 : Below w.heap.size w (w.alloc (.cells #[.int .i64 zeroPk.k, .int .i64 zeroPk.f, .int .i64 zeroPk.t, .int .i64 zeroPk.i, .int .i64 zeroPk.l, .int .i64 zeroPk.p, .int .i64 zeroPk.s, .bool zeroPk.fl, .slice none 0 0] 26)) := ba (Below.refl _ _)
  have bx0 := Bx.made w zeroPk (.slice none 0 0)
  have q0 : (0 : Int) < (n : Int) := by omega
  have q1 : (1 : Int) < (n : Int) := by omega
  have q2 : (2 : Int) < (n : Int) := by omega
  have q3 : (3 : Int) < (n : Int) := by omega
  have q4 : (4 : Int) < (n : Int) := by omega
  have q5 : (5 : Int) < (n : Int) := by omega
  have q6 : (6 : Int) < (n : Int) := by omega
  have q7 : (7 : Int) < (n : Int) := by omega
  have q8 : (8 : Int) < (n : Int) := by omega
  clear hn
  go_enter Try.func74, Try.ntmps74
  go_wp2_with fail
  have uc := @Up.cell2
  have uf := @Up.frozen2
  refine wp_region_mildv 44 43 rfl (by kernel_rfl) ?_
  refine mildv_take (v := ?v401) 0 rfl (by kernel_rfl) (by kernel_rfl) (by kernel_rfl) (by kernel_rfl) (fun _ _ _ h => h) (by kernel_rfl) (fun Wu K hK => ?hy401) ?go401
  case hy401 =>
    go_big_quiet_op
    simp only [Act.put, List.setIfInBounds_toArray, List.set_cons_zero, List.set_cons_succ] at hK
    exact hK
  simp only [Act.put, List.setIfInBounds_toArray, List.set_cons_zero, List.set_cons_succ]
  refine mildv_take (v := ?v402) 1 rfl (by kernel_rfl) (by kernel_rfl) (by kernel_rfl) (by kernel_rfl) (fun _ _ _ h => h) (by kernel_rfl) (fun Wu K hK => ?hy402) ?go402
  case hy402 =>
    go_big_quiet_op
    simp only [Act.put, List.setIfInBounds_toArray, List.set_cons_zero, List.set_cons_succ] at hK
    exact hK
  simp only [Act.put, List.setIfInBounds_toArray, List.set_cons_zero, List.set_cons_succ]
  refine mildv_take (v := ?v403) 2 rfl (by kernel_rfl) (by kernel_rfl) (by kernel_rfl) (by kernel_rfl) (fun _ _ _ h => h) (by kernel_rfl) (fun Wu K hK => ?hy403) ?go403
  case hy403 =>
    go_big_quiet_op
    simp only [Act.put, List.setIfInBounds_toArray, List.set_cons_zero, List.set_cons_succ] at hK
    exact hK
  simp only [Act.put, List.setIfInBounds_toArray, List.set_cons_zero, List.set_cons_succ]
  refine mildv_take (v := ?v404) 3 rfl (by kernel_rfl) (by kernel_rfl) (by kernel_rfl) (by kernel_rfl) (fun _ _ _ h => h) (by kernel_rfl) (fun Wu K hK => ?hy404) ?go404
  case hy404 =>
    go_big_quiet_op
    simp only [Act.put, List.setIfInBounds_toArray, List.set_cons_zero, List.set_cons_succ] at hK
    exact hK
  simp only [Act.put, List.setIfInBounds_toArray, List.set_cons_zero, List.set_cons_succ]
  refine mildv_take (v := ?v405) 4 rfl (by kernel_rfl) (by kernel_rfl) (by kernel_rfl) (by kernel_rfl) (fun _ _ _ h => h) (by kernel_rfl) (fun Wu K hK => ?hy405) ?go405
  case hy405 =>
    go_big_quiet_op
    simp only [Act.put, List.setIfInBounds_toArray, List.set_cons_zero, List.set_cons_succ] at hK
    exact hK
  simp only [Act.put, List.setIfInBounds_toArray, List.set_cons_zero, List.set_cons_succ]
  refine mildv_take (v := ?v406) 5 rfl (by kernel_rfl) (by kernel_rfl) (by kernel_rfl) (by kernel_rfl) (fun _ _ _ h => h) (by kernel_rfl) (fun Wu K hK => ?hy406) ?go406
  case hy406 =>
    go_big_quiet_op
    simp only [Act.put, List.setIfInBounds_toArray, List.set_cons_zero, List.set_cons_succ] at hK
    exact hK
  simp only [Act.put, List.setIfInBounds_toArray, List.set_cons_zero, List.set_cons_succ]
  refine mildv_take (v := ?v407) 6 rfl (by kernel_rfl) (by kernel_rfl) (by kernel_rfl) (by kernel_rfl) (fun _ _ _ h => h) (by kernel_rfl) (fun Wu K hK => ?hy407) ?go407
  case hy407 =>
    go_big_quiet_op
    simp only [Act.put, List.setIfInBounds_toArray, List.set_cons_zero, List.set_cons_succ] at hK
    exact hK
  simp only [Act.put, List.setIfInBounds_toArray, List.set_cons_zero, List.set_cons_succ]
  refine mildv_take (v := ?v408) 7 rfl (by kernel_rfl) (by kernel_rfl) (by kernel_rfl) (by kernel_rfl) (fun _ _ _ h => h) (by kernel_rfl) (fun Wu K hK => ?hy408) ?go408
  case hy408 =>
    go_big_quiet_op
    simp only [Act.put, List.setIfInBounds_toArray, List.set_cons_zero, List.set_cons_succ] at hK
    exact hK
  simp only [Act.put, List.setIfInBounds_toArray, List.set_cons_zero, List.set_cons_succ]
  refine mildv_take (v := ?v409) 8 rfl (by kernel_rfl) (by kernel_rfl) (by kernel_rfl) (by kernel_rfl) (fun _ _ _ h => h) (by kernel_rfl) (fun Wu K hK => ?hy409) ?go409
  case hy409 =>
    go_big_quiet_op
    simp only [Act.put, List.setIfInBounds_toArray, List.set_cons_zero, List.set_cons_succ] at hK
    exact hK
  simp only [Act.put, List.setIfInBounds_toArray, List.set_cons_zero, List.set_cons_succ]
  refine mildv_take (v := ?v410) 9 rfl (by kernel_rfl) (by kernel_rfl) (by kernel_rfl) (by kernel_rfl) (fun _ _ _ h => h) (by kernel_rfl) (fun Wu K hK => ?hy410) ?go410
  case hy410 =>
    go_big_quiet_op
    simp only [Act.put, List.setIfInBounds_toArray, List.set_cons_zero, List.set_cons_succ] at hK
    exact hK
  simp only [Act.put, List.setIfInBounds_toArray, List.set_cons_zero, List.set_cons_succ]
  refine mildv_take (v := ?v411) 10 rfl (by kernel_rfl) (by kernel_rfl) (by kernel_rfl) (by kernel_rfl) (fun _ _ _ h => h) (by kernel_rfl) (fun Wu K hK => ?hy411) ?go411
  case hy411 =>
    go_big_quiet_op
    simp only [Act.put, List.setIfInBounds_toArray, List.set_cons_zero, List.set_cons_succ] at hK
    exact hK
  simp only [Act.put, List.setIfInBounds_toArray, List.set_cons_zero, List.set_cons_succ]
  refine mildv_take (v := ?v412) 11 rfl (by kernel_rfl) (by kernel_rfl) (by kernel_rfl) (by kernel_rfl) (fun _ _ _ h => h) (by kernel_rfl) (fun Wu K hK => ?hy412) ?go412
  case hy412 =>
    go_big_quiet_op
    simp only [Act.put, List.setIfInBounds_toArray, List.set_cons_zero, List.set_cons_succ] at hK
    exact hK
  simp only [Act.put, List.setIfInBounds_toArray, List.set_cons_zero, List.set_cons_succ]
  refine mildv_take (v := ?v413) 12 rfl (by kernel_rfl) (by kernel_rfl) (by kernel_rfl) (by kernel_rfl) (fun _ _ _ h => h) (by kernel_rfl) (fun Wu K hK => ?hy413) ?go413
  case hy413 =>
    go_big_quiet_op
    simp only [Act.put, List.setIfInBounds_toArray, List.set_cons_zero, List.set_cons_succ] at hK
    exact hK
  simp only [Act.put, List.setIfInBounds_toArray, List.set_cons_zero, List.set_cons_succ]
  refine mildv_take (v := ?v414) 13 rfl (by kernel_rfl) (by kernel_rfl) (by kernel_rfl) (by kernel_rfl) (fun _ _ _ h => h) (by kernel_rfl) (fun Wu K hK => ?hy414) ?go414
  case hy414 =>
    go_big_quiet_op
    simp only [Act.put, List.setIfInBounds_toArray, List.set_cons_zero, List.set_cons_succ] at hK
    exact hK
  simp only [Act.put, List.setIfInBounds_toArray, List.set_cons_zero, List.set_cons_succ]
  refine mildv_take (v := ?v415) 14 rfl (by kernel_rfl) (by kernel_rfl) (by kernel_rfl) (by kernel_rfl) (fun _ _ _ h => h) (by kernel_rfl) (fun Wu K hK => ?hy415) ?go415
  case hy415 =>
    go_big_quiet_op
    simp only [Act.put, List.setIfInBounds_toArray, List.set_cons_zero, List.set_cons_succ] at hK
    exact hK
  simp only [Act.put, List.setIfInBounds_toArray, List.set_cons_zero, List.set_cons_succ]
  refine mildv_take (v := ?v416) 15 rfl (by kernel_rfl) (by kernel_rfl) (by kernel_rfl) (by kernel_rfl) (fun _ _ _ h => h) (by kernel_rfl) (fun Wu K hK => ?hy416) ?go416
  case hy416 =>
    go_big_quiet_op
    simp only [Act.put, List.setIfInBounds_toArray, List.set_cons_zero, List.set_cons_succ] at hK
    exact hK
  simp only [Act.put, List.setIfInBounds_toArray, List.set_cons_zero, List.set_cons_succ]
  refine mildv_take (v := ?v417) 16 rfl (by kernel_rfl) (by kernel_rfl) (by kernel_rfl) (by kernel_rfl) (fun _ _ _ h => h) (by kernel_rfl) (fun Wu K hK => ?hy417) ?go417
  case hy417 =>
    go_big_quiet_op
    simp only [Act.put, List.setIfInBounds_toArray, List.set_cons_zero, List.set_cons_succ] at hK
    exact hK
  simp only [Act.put, List.setIfInBounds_toArray, List.set_cons_zero, List.set_cons_succ]
  refine mildv_take (v := ?v418) 17 rfl (by kernel_rfl) (by kernel_rfl) (by kernel_rfl) (by kernel_rfl) (fun _ _ _ h => h) (by kernel_rfl) (fun Wu K hK => ?hy418) ?go418
  case hy418 =>
    go_big_quiet_op
    simp only [Act.put, List.setIfInBounds_toArray, List.set_cons_zero, List.set_cons_succ] at hK
    exact hK
  simp only [Act.put, List.setIfInBounds_toArray, List.set_cons_zero, List.set_cons_succ]
  refine mildv_take (v := ?v419) 18 rfl (by kernel_rfl) (by kernel_rfl) (by kernel_rfl) (by kernel_rfl) (fun _ _ _ h => h) (by kernel_rfl) (fun Wu K hK => ?hy419) ?go419
  case hy419 =>
    go_big_quiet_op
    simp only [Act.put, List.setIfInBounds_toArray, List.set_cons_zero, List.set_cons_succ] at hK
    exact hK
  simp only [Act.put, List.setIfInBounds_toArray, List.set_cons_zero, List.set_cons_succ]
  refine mildv_take (v := ?v420) 19 rfl (by kernel_rfl) (by kernel_rfl) (by kernel_rfl) (by kernel_rfl) (fun _ _ _ h => h) (by kernel_rfl) (fun Wu K hK => ?hy420) ?go420
  case hy420 =>
    go_big_quiet_op
    simp only [Act.put, List.setIfInBounds_toArray, List.set_cons_zero, List.set_cons_succ] at hK
    exact hK
  simp only [Act.put, List.setIfInBounds_toArray, List.set_cons_zero, List.set_cons_succ]
  refine mildv_take (v := ?v421) 20 rfl (by kernel_rfl) (by kernel_rfl) (by kernel_rfl) (by kernel_rfl) (fun _ _ _ h => h) (by kernel_rfl) (fun Wu K hK => ?hy421) ?go421
  case hy421 =>
    go_big_quiet_op
    simp only [Act.put, List.setIfInBounds_toArray, List.set_cons_zero, List.set_cons_succ] at hK
    exact hK
  simp only [Act.put, List.setIfInBounds_toArray, List.set_cons_zero, List.set_cons_succ]
  refine mildv_take (v := ?v422) 21 rfl (by kernel_rfl) (by kernel_rfl) (by kernel_rfl) (by kernel_rfl) (fun _ _ _ h => h) (by kernel_rfl) (fun Wu K hK => ?hy422) ?go422
  case hy422 =>
    go_big_quiet_op
    simp only [Act.put, List.setIfInBounds_toArray, List.set_cons_zero, List.set_cons_succ] at hK
    exact hK
  simp only [Act.put, List.setIfInBounds_toArray, List.set_cons_zero, List.set_cons_succ]
  refine mildv_take (v := ?v423) 22 rfl (by kernel_rfl) (by kernel_rfl) (by kernel_rfl) (by kernel_rfl) (fun _ _ _ h => h) (by kernel_rfl) (fun Wu K hK => ?hy423) ?go423
  case hy423 =>
    go_big_quiet_op
    simp only [Act.put, List.setIfInBounds_toArray, List.set_cons_zero, List.set_cons_succ] at hK
    exact hK
  simp only [Act.put, List.setIfInBounds_toArray, List.set_cons_zero, List.set_cons_succ]
  refine mildv_take (v := ?v424) 23 rfl (by kernel_rfl) (by kernel_rfl) (by kernel_rfl) (by kernel_rfl) (fun _ _ _ h => h) (by kernel_rfl) (fun Wu K hK => ?hy424) ?go424
  case hy424 =>
    go_big_quiet_op
    simp only [Act.put, List.setIfInBounds_toArray, List.set_cons_zero, List.set_cons_succ] at hK
    exact hK
  simp only [Act.put, List.setIfInBounds_toArray, List.set_cons_zero, List.set_cons_succ]
  refine mildv_take (v := ?v425) 24 rfl (by kernel_rfl) (by kernel_rfl) (by kernel_rfl) (by kernel_rfl) (fun _ _ _ h => h) (by kernel_rfl) (fun Wu K hK => ?hy425) ?go425
  case hy425 =>
    go_big_quiet_op
    simp only [Act.put, List.setIfInBounds_toArray, List.set_cons_zero, List.set_cons_succ] at hK
    exact hK
  simp only [Act.put, List.setIfInBounds_toArray, List.set_cons_zero, List.set_cons_succ]
  refine mildv_take (v := ?v426) 25 rfl (by kernel_rfl) (by kernel_rfl) (by kernel_rfl) (by kernel_rfl) (fun _ _ _ h => h) (by kernel_rfl) (fun Wu K hK => ?hy426) ?go426
  case hy426 =>
    go_big_quiet_op
    simp only [Act.put, List.setIfInBounds_toArray, List.set_cons_zero, List.set_cons_succ] at hK
    exact hK
  simp only [Act.put, List.setIfInBounds_toArray, List.set_cons_zero, List.set_cons_succ]
  refine mildv_take (v := ?v427) 26 rfl (by kernel_rfl) (by kernel_rfl) (by kernel_rfl) (by kernel_rfl) (fun _ _ _ h => h) (by kernel_rfl) (fun Wu K hK => ?hy427) ?go427
  case hy427 =>
    go_big_quiet_op
    simp only [Act.put, List.setIfInBounds_toArray, List.set_cons_zero, List.set_cons_succ] at hK
    exact hK
  simp only [Act.put, List.setIfInBounds_toArray, List.set_cons_zero, List.set_cons_succ]
  refine mildv_take (v := ?v428) 27 rfl (by kernel_rfl) (by kernel_rfl) (by kernel_rfl) (by kernel_rfl) (fun _ _ _ h => h) (by kernel_rfl) (fun Wu K hK => ?hy428) ?go428
  case hy428 =>
    go_big_quiet_op
    simp only [Act.put, List.setIfInBounds_toArray, List.set_cons_zero, List.set_cons_succ] at hK
    exact hK
  simp only [Act.put, List.setIfInBounds_toArray, List.set_cons_zero, List.set_cons_succ]
  refine mildv_take (v := ?v429) 28 rfl (by kernel_rfl) (by kernel_rfl) (by kernel_rfl) (by kernel_rfl) (fun _ _ _ h => h) (by kernel_rfl) (fun Wu K hK => ?hy429) ?go429
  case hy429 =>
    go_big_quiet_op
    simp only [Act.put, List.setIfInBounds_toArray, List.set_cons_zero, List.set_cons_succ] at hK
    exact hK
  simp only [Act.put, List.setIfInBounds_toArray, List.set_cons_zero, List.set_cons_succ]
  refine mildv_take (v := ?v430) 29 rfl (by kernel_rfl) (by kernel_rfl) (by kernel_rfl) (by kernel_rfl) (fun _ _ _ h => h) (by kernel_rfl) (fun Wu K hK => ?hy430) ?go430
  case hy430 =>
    go_big_quiet_op
    simp only [Act.put, List.setIfInBounds_toArray, List.set_cons_zero, List.set_cons_succ] at hK
    exact hK
  simp only [Act.put, List.setIfInBounds_toArray, List.set_cons_zero, List.set_cons_succ]
  refine mildv_take (v := ?v431) 30 rfl (by kernel_rfl) (by kernel_rfl) (by kernel_rfl) (by kernel_rfl) (fun _ _ _ h => h) (by kernel_rfl) (fun Wu K hK => ?hy431) ?go431
  case hy431 =>
    go_big_quiet_op
    simp only [Act.put, List.setIfInBounds_toArray, List.set_cons_zero, List.set_cons_succ] at hK
    exact hK
  simp only [Act.put, List.setIfInBounds_toArray, List.set_cons_zero, List.set_cons_succ]
  refine mildv_take (v := ?v432) 31 rfl (by kernel_rfl) (by kernel_rfl) (by kernel_rfl) (by kernel_rfl) (fun _ _ _ h => h) (by kernel_rfl) (fun Wu K hK => ?hy432) ?go432
  case hy432 =>
    go_big_quiet_op
    simp only [Act.put, List.setIfInBounds_toArray, List.set_cons_zero, List.set_cons_succ] at hK
    exact hK
  simp only [Act.put, List.setIfInBounds_toArray, List.set_cons_zero, List.set_cons_succ]
  refine mildv_take (v := ?v433) 32 rfl (by kernel_rfl) (by kernel_rfl) (by kernel_rfl) (by kernel_rfl) (fun _ _ _ h => h) (by kernel_rfl) (fun Wu K hK => ?hy433) ?go433
  case hy433 =>
    go_big_quiet_op
    simp only [Act.put, List.setIfInBounds_toArray, List.set_cons_zero, List.set_cons_succ] at hK
    exact hK
  simp only [Act.put, List.setIfInBounds_toArray, List.set_cons_zero, List.set_cons_succ]
  refine mildv_take (v := ?v434) 33 rfl (by kernel_rfl) (by kernel_rfl) (by kernel_rfl) (by kernel_rfl) (fun _ _ _ h => h) (by kernel_rfl) (fun Wu K hK => ?hy434) ?go434
  case hy434 =>
    go_big_quiet_op
    simp only [Act.put, List.setIfInBounds_toArray, List.set_cons_zero, List.set_cons_succ] at hK
    exact hK
  simp only [Act.put, List.setIfInBounds_toArray, List.set_cons_zero, List.set_cons_succ]
  refine mildv_take (v := ?v435) 34 rfl (by kernel_rfl) (by kernel_rfl) (by kernel_rfl) (by kernel_rfl) (fun _ _ _ h => h) (by kernel_rfl) (fun Wu K hK => ?hy435) ?go435
  case hy435 =>
    go_big_quiet_op
    simp only [Act.put, List.setIfInBounds_toArray, List.set_cons_zero, List.set_cons_succ] at hK
    exact hK
  simp only [Act.put, List.setIfInBounds_toArray, List.set_cons_zero, List.set_cons_succ]
  refine mildv_take (v := ?v436) 35 rfl (by kernel_rfl) (by kernel_rfl) (by kernel_rfl) (by kernel_rfl) (fun _ _ _ h => h) (by kernel_rfl) (fun Wu K hK => ?hy436) ?go436
  case hy436 =>
    go_big_quiet_op
    simp only [Act.put, List.setIfInBounds_toArray, List.set_cons_zero, List.set_cons_succ] at hK
    exact hK
  simp only [Act.put, List.setIfInBounds_toArray, List.set_cons_zero, List.set_cons_succ]
  refine mildv_take (v := ?v437) 36 rfl (by kernel_rfl) (by kernel_rfl) (by kernel_rfl) (by kernel_rfl) (fun _ _ _ h => h) (by kernel_rfl) (fun Wu K hK => ?hy437) ?go437
  case hy437 =>
    go_big_quiet_op
    simp only [Act.put, List.setIfInBounds_toArray, List.set_cons_zero, List.set_cons_succ] at hK
    exact hK
  simp only [Act.put, List.setIfInBounds_toArray, List.set_cons_zero, List.set_cons_succ]
  refine mildv_take (v := ?v438) 37 rfl (by kernel_rfl) (by kernel_rfl) (by kernel_rfl) (by kernel_rfl) (fun _ _ _ h => h) (by kernel_rfl) (fun Wu K hK => ?hy438) ?go438
  case hy438 =>
    go_big_quiet_op
    simp only [Act.put, List.setIfInBounds_toArray, List.set_cons_zero, List.set_cons_succ] at hK
    exact hK
  simp only [Act.put, List.setIfInBounds_toArray, List.set_cons_zero, List.set_cons_succ]
  refine mildv_take (v := ?v439) 38 rfl (by kernel_rfl) (by kernel_rfl) (by kernel_rfl) (by kernel_rfl) (fun _ _ _ h => h) (by kernel_rfl) (fun Wu K hK => ?hy439) ?go439
  case hy439 =>
    go_big_quiet_op
    simp only [Act.put, List.setIfInBounds_toArray, List.set_cons_zero, List.set_cons_succ] at hK
    exact hK
  simp only [Act.put, List.setIfInBounds_toArray, List.set_cons_zero, List.set_cons_succ]
  refine mildv_take (v := ?v440) 39 rfl (by kernel_rfl) (by kernel_rfl) (by kernel_rfl) (by kernel_rfl) (fun _ _ _ h => h) (by kernel_rfl) (fun Wu K hK => ?hy440) ?go440
  case hy440 =>
    go_big_quiet_op
    simp only [Act.put, List.setIfInBounds_toArray, List.set_cons_zero, List.set_cons_succ] at hK
    exact hK
  simp only [Act.put, List.setIfInBounds_toArray, List.set_cons_zero, List.set_cons_succ]
  refine mildv_take (v := ?v441) 40 rfl (by kernel_rfl) (by kernel_rfl) (by kernel_rfl) (by kernel_rfl) (fun _ _ _ h => h) (by kernel_rfl) (fun Wu K hK => ?hy441) ?go441
  case hy441 =>
    go_big_quiet_op
    simp only [Act.put, List.setIfInBounds_toArray, List.set_cons_zero, List.set_cons_succ] at hK
    exact hK
  simp only [Act.put, List.setIfInBounds_toArray, List.set_cons_zero, List.set_cons_succ]
  intro W
  clear uc uf
  have hW := W.2
  have hb0 := W.2
  have bxW := bx0.next W.2
  have BW := next hB0 W.2
  have hpW := hpart.below BW
  have hzW : w.heap.size < W.1.heap.size := bxW.lt
  generalize W.1 = wq at *
  clear hW W bx0 hB0 hpart
  generalize (if cap = 10 then some (⟨b0, o0, none⟩ : Addr) else some ⟨b0, o0 + 10, none⟩) = aa at *
  refine upv_list 41 (by kernel_rfl) rfl ?_
  go_wp2_with (go_at_call 81; refine (readWords_any _ (l.drop 10) (n - 10) (cap - 10) m _ hpW (by have := HM.out; omega) hm1 (by have := HM.out; omega)).mono ?_; rintro e w1 ⟨vv, rfl, hown1, hb1⟩; obtain ⟨a1, cap1, rfl, hs1⟩ := hown1.sl' (wordsN_len _ m))
  refine ⟨(by first | exact next hb0 hb1 | exact fun _ => next hb0 hb1), fun u => ?_⟩
  have hb2 := next hb0 (next hb1 u.2)
  have hown2 := hown1.below u.2
  have bx2 := bxW.next (next hb1 u.2)
  have B2 := next BW (next hb1 u.2)
  generalize u.1 = w2 at *
  clear u hb1 hown1 hs1
  refine upv_list 42 (by kernel_rfl) rfl ?_
  go_wp2
  refine ⟨(by first | exact hb2 | exact fun _ => hb2), fun u => ?_⟩
  have hown3 := hown2.below u.2
  have bx3 := bx2.next u.2
  have B3 := next B2 u.2
  generalize u.1 = w3 at *
  clear u hb2 hown2 bx2 B2
  have fq := bx3.fz
  obtain ⟨r0, r1, r2, r3, r4, r5, r6, r7, r8, _, rlt⟩ := id bx3
  refine upv_list 43 (by kernel_rfl) rfl ?_
  go_wp2
  refine ⟨(by first | trivial | exact fun h => absurd rfl h), fun u => ?_⟩
  refine upv_done (by kernel_rfl) ?_
  have hown4 : Own u.1 w.heap.size (.slice a1 m cap1) (wordsN (l.drop 10) m) := by
    refine Own.below ?_ u.2
    refine Own.low ?_ (Nat.le_of_lt hzW)
    exact far9 (y := ⟨v0, v1, v2, v3 * 256 + v4, v5, v6 - 1, v7, v8 == 1, []⟩) (v := .slice a1 m cap1) (P := fun V => Own V wq.heap.size (.slice a1 m cap1) (wordsN (l.drop 10) m)) (fun V o u h => h.set (by simpa using hzW) _) hown3
  have bx4 := (bx3.put ⟨v0, v1, v2, v3 * 256 + v4, v5, v6 - 1, v7, v8 == 1, []⟩ (.slice a1 m cap1)).next (by exact u.2)
  have B4 : Below w.heap.size w u.1 := by
    refine next ?_ u.2
    exact far9 (y := ⟨v0, v1, v2, v3 * 256 + v4, v5, v6 - 1, v7, v8 == 1, []⟩) (v := .slice a1 m cap1) (P := fun V => Below w.heap.size w V) (fun V o u h => h.setCell (by simp) _) B3
  generalize u.1 = w4 at *
  clear u r0 r1 r2 r3 r4 r5 r6 r7 r8 rlt fq
  obtain ⟨r0, r1, r2, r3, r4, r5, r6, r7, r8, _, rlt⟩ := bx4
  simp only at r0 r1 r2 r3 r4 r5 r6 r7
  go_wp2
  refine bodyPost_ret (v := .agg #[.int .i64 v0, .int .i64 v1, .int .i64 v2, .int .i64 (v3 * 256 + v4), .int .i64 v5, .int .i64 (v6 - 1), .int .i64 v7, .bool (v8 == 1), .slice a1 m cap1]) (by simp [results, Try.results74, go_sem, r0, r1, r2, r3, r4, r5, r6, r7, r8]) rfl ⟨a1, cap1, by rw [HP.out], by rw [HW.out]; exact hown4, B4⟩
end Go.Proofs.Ytjdbjmfkheffdaa
end
section
namespace Go.Proofs.Ytjdbjmfkheffdaa
open Go.RowKit
set_option linter.unusedVariables false
set_option maxRecDepth 20000

/-- What bytes are, as a packet. -/
def unpackI (l : List Int) : Option Pk := match B.openI l with
  | none => none
  | some b => if (formB b && (readP b).right) = true then some (readP b) else none
theorem unpack_none {l : List Int} (h : B.openI l = none) : unpackI l = none := by unfold unpackI; rw [h]
theorem unpack_form {l b : List Int} (h : B.openI l = some b) (hf : formB b = false) : unpackI l = none := by unfold unpackI; rw [h]; simp [hf]
theorem unpack_right {l b : List Int} (h : B.openI l = some b) (hf : (readP b).right = false) : unpackI l = none := by unfold unpackI; rw [h]; simp [hf]
theorem unpack_some {l b : List Int} (h : B.openI l = some b) (hf : formB b = true) (hr : (readP b).right = true) : unpackI l = some (readP b) := by unfold unpackI; rw [h]; simp [hf, hr]
theorem form_of {b : List Int} (h8 : B.B8 b) (h : formB b = true) : ∃ m : Nat, m ≤ 255 ∧ b.length = 10 + 8 * m := by
  unfold formB at h
  simp at h
  have := B.B8_get h8 9
  exact ⟨(b[9]?.getD 0).toNat, by omega, by omega⟩

theorem open_take {l b : List Int} (h : B.openI l = some b) : b = l.take (l.length - 2) := by
  unfold B.openI at h
  split at h
  · cases h
  · split at h
    · exact (Option.some.inj h).symm
    · cases h
/-- No packet. -/
def NoPk (w : World) (e : Ending) (w' : World) (t : Value) : Prop := e = .returned (.tuple #[zeroPk.val (.slice none 0 0), t]) ∧ Below w.heap.size w w'
set_option maxHeartbeats 1000000 in
theorem unpack_no (a : Option Addr) (l : List Int) (n cap : Nat) (w : World) (hsl : B.Sl w a n cap l) (hn : n ≤ 140737488351300) (h : unpackI l = none) :
    Calls Try.prog 58 #[.slice a n cap] w fun e w' => NoPk w e w' (.int .i64 2) := by
  have bx0 := Bx.made w zeroPk (.slice none 0 0)
  have hB0 : Below w.heap.size w (w.alloc (.cells #[.int .i64 zeroPk.k, .int .i64 zeroPk.f, .int .i64 zeroPk.t, .int .i64 zeroPk.i, .int .i64 zeroPk.l, .int .i64 zeroPk.p, .int .i64 zeroPk.s, .bool zeroPk.fl, .slice none 0 0] 26)) := ba (Below.refl _ _)
  have hs0 := hsl.below hB0
  cases ho : B.openI l with
  | none =>
    have HO : Hid (B.openI l = none) := ho
    clear h ho hsl
    go_enter Try.func58, Try.ntmps58
    go_wp2_with (go_at_call 72; refine (B.open_any a l n cap _ hs0 hn).mono ?_; rintro e w1 ⟨v1, rfl, ho1, hb1⟩; rw [HO.out] at ho1 ⊢; simp only [Option.isSome_none, Option.getD_none] at ho1 ⊢; obtain ⟨a1, cap1, rfl, hs1⟩ := ho1.sl' (n := 0) rfl; have bx1 := bx0.next hb1; have fq := bx1.fz; obtain ⟨q0, q1, q2, q3, q4, q5, q6, q7, q8, _, _⟩ := id bx1)
    refine bodyPost_ret (v := .tuple #[zeroPk.val (.slice none 0 0), .int .i64 2]) (by simp [results, Try.results58, go_sem, zeroPk, *]) rfl ⟨rfl, ?_⟩
    exact far9 (y := zeroPk) (v := .slice none 0 0) (P := fun V => Below w.heap.size w V) (fun V o u h => h.setCell (by simp) _) (next hB0 hb1)
  | some b =>
    have HO : Hid (B.openI l = some b) := ho
    obtain ⟨nb, hnb⟩ : ∃ nb, b.length = nb := ⟨_, rfl⟩
    have HB : Hid (b.length = nb) := hnb
    have h8b : B.B8 b := by rw [open_take ho]; exact B.B8_take hsl.b8 _
    clear hsl hnb
    cases hf : formB b
    · have HF : Hid (formB b = false) := hf
      clear h ho hf
      go_enter Try.func58, Try.ntmps58
      go_wp2_with (first
        | (go_at_call 72; refine (B.open_any a l n cap _ hs0 hn).mono ?_; rintro e w1 ⟨v1, rfl, ho1, hb1⟩; rw [HO.out] at ho1 ⊢; simp only [Option.isSome_some, Option.getD_some] at ho1 ⊢; obtain ⟨a1, cap1, rfl, hs1⟩ := ho1.sl' HB.out; have bx1 := bx0.next hb1)
        | (go_at_call 73; refine (hasForm_any a1 b nb cap1 _ hs1).mono ?_; rintro e w2 ⟨rfl, k2, rfl⟩; rw [HF.out]; have bx2 := bx1.next (below_dn _ k2); have fq := bx2.fz; obtain ⟨q0, q1, q2, q3, q4, q5, q6, q7, q8, _, _⟩ := id bx2))
      refine bodyPost_ret (v := .tuple #[zeroPk.val (.slice none 0 0), .int .i64 2]) (by simp [results, Try.results58, go_sem, zeroPk, *]) rfl ⟨rfl, ?_⟩
      exact far9 (y := zeroPk) (v := .slice none 0 0) (P := fun V => Below w.heap.size w V) (fun V o u h => h.setCell (by simp) _) (next (next hB0 hb1) (below_dn _ k2))
    · have HF : Hid (formB b = true) := hf
      obtain ⟨y, hy⟩ : ∃ y, readP b = y := ⟨_, rfl⟩
      have HR : y.right = false := by
        cases hr : y.right
        · rfl
        · rw [unpack_some ho hf (by rw [hy]; exact hr)] at h; cases h
      have HE : Hid (y.err = 1) := Pk.err_f HR
      obtain ⟨m, hm1, hm2⟩ := form_of h8b hf
      have HM : Hid (nb = 10 + 8 * m) := by show _ = _; rw [← HB.out]; exact hm2
      clear hm2
      have HY : Hid (readP b = y) := hy
      have HZ : Hid ((readP b).z.length = m) := by show (wordsN _ _).length = m; rw [wordsN_len, HB.out, HM.out]; omega
      clear h ho hf hy
      go_enter Try.func58, Try.ntmps58
      go_wp2_with (first
        | (go_at_call 72; refine (B.open_any a l n cap _ hs0 hn).mono ?_; rintro e w1 ⟨v1, rfl, ho1, hb1⟩; rw [HO.out] at ho1 ⊢; simp only [Option.isSome_some, Option.getD_some] at ho1 ⊢; obtain ⟨a1, cap1, rfl, hs1⟩ := ho1.sl' HB.out; have bx1 := bx0.next hb1)
        | (go_at_call 73; refine (hasForm_any a1 b nb cap1 _ hs1).mono ?_; rintro e w2 ⟨rfl, k2, rfl⟩; rw [HF.out]; have bx2 := bx1.next (below_dn _ k2); have hs2 := hs1.below (below_dn _ k2))
        | (go_at_call 74; refine (read_any a1 b nb cap1 m _ hs2 HM.out hm1).mono ?_; rintro e w3 ⟨a3, cap3, rfl, ho3, hb3⟩; rw [HY.out] at ho3 ⊢; unfold Pk.val; have bx3 := bx2.next hb3; obtain ⟨a3', cap3', e3, hs3⟩ := ho3.sl' (n := m) (by rw [← HY.out]; exact HZ.out); simp at e3; obtain ⟨rfl, rfl⟩ := e3)
        | (go_at_call 31; refine (check_any y a3 m cap3 _ (hs3.below (ba (Below.refl _ _)))).mono ?_; rintro e w4 ⟨rfl, hb4⟩; rw [HE.out]; have bx4 := (bx3.next (ba (Below.refl _ _))).next hb4; have fq := bx4.fz; obtain ⟨q0, q1, q2, q3, q4, q5, q6, q7, q8, _, _⟩ := id bx4))
      refine bodyPost_ret (v := .tuple #[zeroPk.val (.slice none 0 0), .int .i64 2]) (by simp [results, Try.results58, go_sem, zeroPk, *]) rfl ⟨rfl, ?_⟩
      exact far9 (y := zeroPk) (v := .slice none 0 0) (P := fun V => Below w.heap.size w V) (fun V o u h => h.setCell (by simp) _) (next (next (next (next hB0 hb1) (below_dn _ k2)) hb3) (next (ba (Below.refl _ _)) hb4))
set_option maxHeartbeats 1000000 in
theorem unpack_yes (a : Option Addr) (l : List Int) (n cap : Nat) (w : World) (hsl : B.Sl w a n cap l) (hn : n ≤ 140737488351300) (y : Pk) (h : unpackI l = some y) :
    Calls Try.prog 58 #[.slice a n cap] w fun e w' => ∃ a' m cap', e = .returned (.tuple #[y.val (.slice a' m cap'), .int .i64 0]) ∧ Sl w' a' m cap' y.z ∧ (∀ ad : Addr, a' = some ad → w.heap.size ≤ ad.block) ∧ Below w.heap.size w w' := by
  have bx0 := Bx.made w zeroPk (.slice none 0 0)
  have hB0 : Below w.heap.size w (w.alloc (.cells #[.int .i64 zeroPk.k, .int .i64 zeroPk.f, .int .i64 zeroPk.t, .int .i64 zeroPk.i, .int .i64 zeroPk.l, .int .i64 zeroPk.p, .int .i64 zeroPk.s, .bool zeroPk.fl, .slice none 0 0] 26)) := ba (Below.refl _ _)
  have hs0 := hsl.below hB0
  cases ho : B.openI l with
  | none => rw [unpack_none ho] at h; cases h
  | some b =>
    have HO : Hid (B.openI l = some b) := ho
    obtain ⟨nb, hnb⟩ : ∃ nb, b.length = nb := ⟨_, rfl⟩
    have HB : Hid (b.length = nb) := hnb
    have h8b : B.B8 b := by rw [open_take ho]; exact B.B8_take hsl.b8 _
    clear hsl hnb
    cases hf : formB b
    · rw [unpack_form ho hf] at h; cases h
    · cases hr : (readP b).right
      · rw [unpack_right ho hr] at h; cases h
      rw [unpack_some ho hf hr] at h
      have hy : readP b = y := Option.some.inj h
      have HF : Hid (formB b = true) := hf
      have HE : Hid (y.err = 0) := Pk.err_t (by rw [← hy]; exact hr)
      obtain ⟨m, hm1, hm2⟩ := form_of h8b hf
      have HM : Hid (nb = 10 + 8 * m) := by show _ = _; rw [← HB.out]; exact hm2
      clear hm2
      have HY : Hid (readP b = y) := hy
      have HZ : Hid ((readP b).z.length = m) := by show (wordsN _ _).length = m; rw [wordsN_len, HB.out, HM.out]; omega
      clear h ho hf hy hr
      go_enter Try.func58, Try.ntmps58
      go_wp2_with (first
        | (go_at_call 72; refine (B.open_any a l n cap _ hs0 hn).mono ?_; rintro e w1 ⟨v1, rfl, ho1, hb1⟩; rw [HO.out] at ho1 ⊢; simp only [Option.isSome_some, Option.getD_some] at ho1 ⊢; obtain ⟨a1, cap1, rfl, hs1⟩ := ho1.sl' HB.out; have bx1 := bx0.next hb1)
        | (go_at_call 73; refine (hasForm_any a1 b nb cap1 _ hs1).mono ?_; rintro e w2 ⟨rfl, k2, rfl⟩; rw [HF.out]; have bx2 := bx1.next (below_dn _ k2); have hs2 := hs1.below (below_dn _ k2))
        | (go_at_call 74; refine (read_any a1 b nb cap1 m _ hs2 HM.out hm1).mono ?_; rintro e w3 ⟨a3, cap3, rfl, ho3, hb3⟩; rw [HY.out] at ho3 ⊢; unfold Pk.val; have bx3 := bx2.next hb3; have lo3 := ho3.lo; obtain ⟨a3', cap3', e3, hs3⟩ := ho3.sl' (n := m) (by rw [← HY.out]; exact HZ.out); simp at e3; obtain ⟨rfl, rfl⟩ := e3)
        | (go_at_call 31; refine (check_any y a3 m cap3 _ (hs3.below (ba (Below.refl _ _)))).mono ?_; rintro e w4 ⟨rfl, hb4⟩; rw [HE.out]; have bx4 := (bx3.next (ba (Below.refl _ _))).next hb4; have by4 := (Bx.made w3 y (.slice a3 m cap3)).next hb4; have hs4 := hs3.below (next (ba (Below.refl _ _)) hb4); have fq := bx4.fz; have z13 : w.heap.size < w3.heap.size := bx3.lt; obtain ⟨q0, q1, q2, q3, q4, q5, q6, q7, q8, _, _⟩ := id bx4; obtain ⟨r0, r1, r2, r3, r4, r5, r6, r7, r8, _, _⟩ := id by4))
      have hz1 : w.heap.size < w1.heap.size := bx1.lt
      refine bodyPost_ret (v := .tuple #[y.val (.slice a3 m cap3), .int .i64 0]) (by simp [results, Try.results58, go_sem, *]) rfl ⟨a3, m, cap3, rfl, ?_, fun ad e => by have := lo3 ad e; simp at this; omega, ?_⟩
      · exact far9 (P := fun V => Sl V a3 m cap3 y.z) (fun V o u h => h.far (fun ad e => by have := lo3 ad e; simp at this ⊢; omega)) hs4
      · exact far9 (P := fun V => Below w.heap.size w V) (fun V o u h => h.setCell (by simp) _) (next (next (next (next hB0 hb1) (below_dn _ k2)) hb3) (next (ba (Below.refl _ _)) hb4))
end Go.Proofs.Ytjdbjmfkheffdaa
end
section
namespace Go.Proofs.Ytjdbjmfkheffdaa
open Go.ChangeShapes Go.WideShapes Go.ChangeAt Go.RowKit Go.Joins
set_option linter.unusedVariables false
set_option maxRecDepth 20000

/-- A packet that came in. -/
def IsPk (w : World) (v : Value) : Prop := ∃ (x : Pk) (a : Option Addr) (n cap : Nat), v = x.val (.slice a n cap) ∧ Sl w a n cap x.z ∧ R64 x.z
theorem array9 {α : Type} {cs : Array α} (h : cs.size = 9) : ∃ c0 c1 c2 c3 c4 c5 c6 c7 c8, cs = #[c0, c1, c2, c3, c4, c5, c6, c7, c8] := by
  obtain ⟨l⟩ := cs
  match l, h with
  | [c0, c1, c2, c3, c4, c5, c6, c7, c8], _ => exact ⟨c0, c1, c2, c3, c4, c5, c6, c7, c8, rfl⟩
theorem pkt_of {H : Type} {enc : TypeId × Value → H} {w : World} {base b0 : Nat} {held : Bool} {r : Reach} {v : Value} {d : DataW H} {p : List MemPlace}
    (hv : Value.okWide Try.prog w r b0 26 v) (h : DataW.Trod enc Try.prog w base (fun _ => true) held 26 v d p) : IsPk w v := by
  obtain ⟨cs, rfl, hsz, hf⟩ := agg_cells Try.underlying26 (by kernel_rfl) (by kernel_rfl) hv h
  obtain ⟨c0, c1, c2, c3, c4, c5, c6, c7, c8, rfl⟩ := array9 hsz
  obtain ⟨_, _, _, e0, t0⟩ := hf 0 _ rfl
  obtain ⟨_, _, _, e1, t1⟩ := hf 1 _ rfl
  obtain ⟨_, _, _, e2, t2⟩ := hf 2 _ rfl
  obtain ⟨_, _, _, e3, t3⟩ := hf 3 _ rfl
  obtain ⟨_, _, _, e4, t4⟩ := hf 4 _ rfl
  obtain ⟨_, _, _, e5, t5⟩ := hf 5 _ rfl
  obtain ⟨_, _, _, e6, t6⟩ := hf 6 _ rfl
  obtain ⟨_, _, _, e7, t7⟩ := hf 7 _ rfl
  obtain ⟨_, _, _, e8, t8⟩ := hf 8 _ rfl
  simp at e0 e1 e2 e3 e4 e5 e6 e7 e8
  subst e0 e1 e2 e3 e4 e5 e6 e7 e8
  obtain ⟨x0, rfl⟩ := int_cell t0
  obtain ⟨x1, rfl⟩ := int_cell t1
  obtain ⟨x2, rfl⟩ := int_cell t2
  obtain ⟨x3, rfl⟩ := int_cell t3
  obtain ⟨x4, rfl⟩ := int_cell t4
  obtain ⟨x5, rfl⟩ := int_cell t5
  obtain ⟨x6, rfl⟩ := int_cell t6
  obtain ⟨x7, rfl⟩ := bool_cell t7
  obtain ⟨a8, l8, p8, z8, rfl, s8, r8⟩ := ints_cell t8
  exact ⟨⟨x0, x1, x2, x3, x4, x5, x6, x7, z8⟩, a8, l8, p8, rfl, s8, r8⟩
end Go.Proofs.Ytjdbjmfkheffdaa
end
section
namespace Go.Proofs.Ytjdbjmfkheffdaa
open Go.RowKit
set_option linter.unusedVariables false
set_option maxRecDepth 20000

theorem read_pack {y : Pk} (h : y.Right) (hz : R64 y.z) : readP (packI y) = y := by
  obtain ⟨⟨k0, k1⟩, ⟨f0, f1⟩, ⟨t0, t1⟩, ⟨i0, i1⟩, ⟨l0, l1⟩, ⟨p0, p1⟩, ⟨s0, s1⟩, z1⟩ := h
  have hw : wordsN ((packI y).drop 10) (((packI y).length - 10) / 8) = y.z := by
    rw [packI_len, show (10 + 8 * y.z.length - 10) / 8 = y.z.length by omega]
    have : (packI y).drop 10 = bodyI y.z := by unfold packI; rw [← headI_len y, List.drop_left]
    rw [this]
    exact words_body y.z hz
  unfold readP
  rw [hw]
  obtain ⟨k, f, t, i, l, p, s, fl, z⟩ := y
  simp only at k0 k1 f0 f1 t0 t1 i0 i1 l0 l1 p0 p1 s0 s1 z1
  have g0 : (packI ⟨k, f, t, i, l, p, s, fl, z⟩)[0]?.getD 0 = k % 256 := rfl
  have g1 : (packI ⟨k, f, t, i, l, p, s, fl, z⟩)[1]?.getD 0 = f % 256 := rfl
  have g2 : (packI ⟨k, f, t, i, l, p, s, fl, z⟩)[2]?.getD 0 = t % 256 := rfl
  have g3 : (packI ⟨k, f, t, i, l, p, s, fl, z⟩)[3]?.getD 0 = i / 256 % 256 := rfl
  have g4 : (packI ⟨k, f, t, i, l, p, s, fl, z⟩)[4]?.getD 0 = i % 256 := rfl
  have g5 : (packI ⟨k, f, t, i, l, p, s, fl, z⟩)[5]?.getD 0 = l % 256 := rfl
  have g6 : (packI ⟨k, f, t, i, l, p, s, fl, z⟩)[6]?.getD 0 = (p + 1) % 256 := rfl
  have g7 : (packI ⟨k, f, t, i, l, p, s, fl, z⟩)[7]?.getD 0 = s % 256 := rfl
  have g8 : (packI ⟨k, f, t, i, l, p, s, fl, z⟩)[8]?.getD 0 = flI fl := rfl
  rw [g0, g1, g2, g3, g4, g5, g6, g7, g8, show k % 256 = k by omega, show f % 256 = f by omega, show t % 256 = t by omega, show i / 256 % 256 * 256 + i % 256 = i by omega, show l % 256 = l by omega, show (p + 1) % 256 - 1 = p by omega, show s % 256 = s by omega]
  have : (flI fl == 1) = fl := by cases fl <;> rfl
  rw [this]
theorem form_pack {y : Pk} (h : y.Right) : formB (packI y) = true := by
  have hz := h.z
  have g8 : (packI y)[8]?.getD 0 = flI y.fl := rfl
  have g9 : (packI y)[9]?.getD 0 = (y.z.length : Int) % 256 := rfl
  unfold formB
  rw [g8, g9, packI_len]
  have := flI_bd y.fl
  simp
  omega
theorem unpack_pack {y : Pk} (h : y.right = true) (hz : R64 y.z) : unpackI (B.sealI (packI y)) = some y := by
  have hR := (Pk.right_iff y).1 h
  have := unpack_some (B.openI_seal (packI_b8 y)) (form_pack hR) (by rw [read_pack hR hz]; exact h)
  rw [this, read_pack hR hz]
theorem spoilt {l : List Int} {bit mask : Int} (h8 : B.B8 l) (h0 : B.sumI l = 0) (hb0 : 0 ≤ bit) (hb1 : bit < 8 * l.length) (hm0 : 0 ≤ mask) (hm1 : mask < 65536) (ht : mask.toNat.testBit 15 = true) : B.openI (B.spoilI l bit mask) = none := by
  refine B.openI_sum (B.spoilI_b8 h8 bit mask) fun h => ?_
  have e := B.spoil_found h8 hm0 hm1 h0 h
  have d := B.spoilI_dig (bit := bit) (mask := mask) h8 hm0 hm1 bit.toNat (by omega)
  rw [e] at d
  have hh : B.hit bit mask bit.toNat = true := by
    unfold B.hit B.mdig
    rw [decide_eq_true (by omega), show ((bit.toNat : Int) - bit).toNat = 0 by omega]
    simpa using ht
  rw [hh] at d
  revert d
  cases B.digAt l bit.toNat <;> simp
theorem mask_top {mask : Int} (h0 : 0 ≤ mask) (h1 : mask < 65536) : ∃ k : Int, bits .or .u16 mask 32768 = k ∧ 0 ≤ k ∧ k < 65536 ∧ k.toNat.testBit 15 = true := by
  refine ⟨_, rfl, ?_⟩
  rw [u16_or mask 32768 h0 h1 (by omega) (by omega)]
  have hlt : mask.toNat ||| (32768 : Int).toNat < 2 ^ 16 := Nat.or_lt_two_pow (by omega) (by decide)
  refine ⟨by omega, by omega, ?_⟩
  simp [Nat.testBit_or]
  right
  decide
/-- Is the packet, packed, as it was behind the spoiling? -/
def wireB (y : Pk) (bit mask : Int) : Bool := decide (B.spoilI (B.sealI (packI y)) bit mask = B.sealI (packI y))
theorem wire_yes {y : Pk} {bit mask : Int} (h : y.right = true) (hz : R64 y.z) (hw : wireB y bit mask = true) : unpackI (B.spoilI (B.sealI (packI y)) bit mask) = some y := by
  rw [of_decide_eq_true hw]; exact unpack_pack h hz
theorem wire_no {y : Pk} {bit mask : Int} (hm0 : 0 ≤ mask) (hm1 : mask < 65536) (hw : wireB y bit mask = false) : unpackI (B.spoilI (B.sealI (packI y)) bit mask) = none := by
  have h8 : B.B8 (B.sealI (packI y)) := B.sealI_b8 (packI_b8 y)
  refine unpack_none (B.openI_sum (B.spoilI_b8 h8 bit mask) fun h => ?_)
  exact of_decide_eq_false hw (B.spoil_found h8 hm0 hm1 (B.sum_seal (packI_b8 y)) h)
theorem sp_none {l : List Int} {bit : Int} (h8 : B.B8 l) : B.spoilI l bit 0 = l := by
  refine B.digs_ext (B.spoilI_b8 h8 bit 0) h8 (B.spoilI_len ..) fun k hk => ?_
  rw [B.spoilI_len] at hk
  rw [B.spoilI_dig h8 (by omega) (by omega) k hk]
  have : B.hit bit 0 k = false := by unfold B.hit B.mdig; simp
  rw [this, Bool.xor_false]
theorem wire_zero (y : Pk) (bit : Int) : wireB y bit 0 = true := decide_eq_true (sp_none (B.sealI_b8 (packI_b8 y)))
end Go.Proofs.Ytjdbjmfkheffdaa
end
