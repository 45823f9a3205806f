/- The contract of chapletplay.Packet: a packet by small numbers. Conditions: as stated.
The network that FabricFull fills, as plain data. No condition.
The walk of FabricFull: it answers true and writes nothing that was there. No condition. -/
import Derived.Test.YtjdbjmfkheffdaaPart3
import Derived.Test.YtjdbjmfkheffdaaPart1
import Derived.Deep.CutBlock
import Derived.Test.YtjdbjmfkheffdaaPart6
section
namespace Go.Proofs.Ytjdbjmfkheffdaa
open Go.RowKit
set_option linter.unusedVariables false
set_option maxRecDepth 20000

/-- The packet of small numbers. -/
def playX (x : Pk) : Pk := ⟨1 + x.k % 9, x.f % 4, x.t % 4, x.i % 5, x.l % 4, x.p % 5 - 1, x.s % 3, x.fl, x.z.take 4⟩
theorem play_right (x : Pk) : (playX x).right = true := by
  refine (Pk.right_iff _).2 ⟨?_, ?_, ?_, ?_, ?_, ?_, ?_, ?_⟩ <;> simp only [playX]
  case refine_8 => simp; omega
  all_goals omega
/-- What comes out: a packet, its words of the call's own. -/
def Played (x : Pk) (how : Int) (w : World) (v : Value) (w' : World) : Prop :=
  ∃ (y : Pk) (a : Option Addr) (n cap : Nat), v = y.val (.slice a n cap) ∧ Sl w' a n cap y.z ∧ n ≤ 6 ∧ (how % 40 < 31 → y.right = true) ∧ (R64 x.z → R64 y.z) ∧ (∀ ad : Addr, a = some ad → w.heap.size ≤ ad.block ∧ ad.block < w'.heap.size) ∧ Below w.heap.size w w'
/-- Behind the first statement. -/
structure PL (w wx : World) (x : Pk) (a : Option Addr) (len cap g : Nat) (a1 : Option Addr) (n cap1 : Nat) : Prop where
  bp : Bx wx w.heap.size x (.slice a len cap)
  br : Bx wx (w.heap.size + 1) zeroPk (.slice none 0 0)
  bq : Bx wx g (playX x) (.slice a1 n cap1)
  gl : w.heap.size + 2 ≤ g
  sl : Sl wx a1 n cap1 (x.z.take 4)
  far : ∀ ad : Addr, a1 = some ad → ad.block ≠ g ∧ w.heap.size + 2 ≤ ad.block ∧ ad.block < wx.heap.size
  bl : Below w.heap.size w wx

def nine (W : World) (g : Nat) (y : Pk) (v : Value) : World := (((((((((W.setCell ⟨g, 0, none⟩ (.int .i64 y.k)).setCell ⟨g, 1, none⟩ (.int .i64 y.f)).setCell ⟨g, 2, none⟩ (.int .i64 y.t)).setCell ⟨g, 3, none⟩ (.int .i64 y.i)).setCell ⟨g, 4, none⟩ (.int .i64 y.l)).setCell ⟨g, 5, none⟩ (.int .i64 y.p)).setCell ⟨g, 6, none⟩ (.int .i64 y.s)).setCell ⟨g, 7, none⟩ (.bool y.fl)).setCell ⟨g, 8, none⟩ v)
theorem PL.of {w wq wf : World} {x : Pk} {a : Option Addr} {len cap g : Nat} {a1 : Option Addr} {n cap1 : Nat} (bp : Bx wq w.heap.size x (.slice a len cap)) (br : Bx wq (w.heap.size + 1) zeroPk (.slice none 0 0)) (bq : Bx wq g zeroPk (.slice none 0 0))
    (sl : Sl wq a1 n cap1 (x.z.take 4)) (bl : Below w.heap.size w wq) (gl : w.heap.size + 2 ≤ g) (far : ∀ ad : Addr, a1 = some ad → ad.block ≠ g ∧ w.heap.size + 2 ≤ ad.block ∧ ad.block < wq.heap.size)
    (hf : Below (nine wq g (playX x) (.slice a1 n cap1)).heap.size (nine wq g (playX x) (.slice a1 n cap1)) wf) : PL w wf x a len cap g a1 n cap1 := by
  have f1 := far9 (g := g) (y := playX x) (v := .slice a1 n cap1) (P := fun V => Bx V w.heap.size x (.slice a len cap)) (fun V o u h => h.far (by simp only; omega)) bp
  have f2 := far9 (g := g) (y := playX x) (v := .slice a1 n cap1) (P := fun V => Bx V (w.heap.size + 1) zeroPk (.slice none 0 0)) (fun V o u h => h.far (by simp only; omega)) br
  have f3 := far9 (g := g) (y := playX x) (v := .slice a1 n cap1) (P := fun V => Sl V a1 n cap1 (x.z.take 4)) (fun V o u h => h.far (fun ad e => (far ad e).1)) sl
  have f4 := far9 (g := g) (y := playX x) (v := .slice a1 n cap1) (P := fun V => Below w.heap.size w V) (fun V o u h => h.setCell (by simp only; omega) _) bl
  have f5 := bq.put (playX x) (.slice a1 n cap1)
  exact ⟨f1.next hf, f2.next hf, f5.next hf, gl, f3.below hf, fun ad e => ⟨(far ad e).1, (far ad e).2.1, Nat.lt_of_lt_of_le (far ad e).2.2 (by have := hf.size; simpa [nine] using this)⟩, next f4 hf⟩
theorem nine_below {w wq : World} {g b : Nat} {y : Pk} {v : Value} (h : Below b w wq) (hb : b ≤ g) : Below b w (nine wq g y v) := far9 (P := fun V => Below b w V) (fun V o u h => h.setCell hb _) h

set_option maxHeartbeats 4000000 in
set_option maxRecDepth 20000 in
theorem play_any (x : Pk) (how : Int) (a : Option Addr) (len cap : Nat) (w : World) (hsl : Sl w a len cap x.z) :
    Calls Try.prog 10 #[x.val (.slice a len cap), .int .i64 how] w fun e w' => ∃ v, e = .returned v ∧ Played x how w v w' := by
  have k0 : 0 ≤ x.k % 9 ∧ x.k % 9 < 9 := by omega
  have f0 : 0 ≤ x.f % 4 ∧ x.f % 4 < 4 := by omega
  have t0 : 0 ≤ x.t % 4 ∧ x.t % 4 < 4 := by omega
  have i0 : 0 ≤ x.i % 5 ∧ x.i % 5 < 5 := by omega
  have l0 : 0 ≤ x.l % 4 ∧ x.l % 4 < 4 := by omega
  have p0 : 0 ≤ x.p % 5 ∧ x.p % 5 < 5 := by omega
  have s0 : 0 ≤ x.s % 3 ∧ x.s % 3 < 3 := by omega
  obtain ⟨n, hn⟩ : ∃ n, (x.z.take 4).length = n := ⟨_, rfl⟩
  have HN : Hid ((x.z.take 4).length = n) := hn
  have hn4 : n ≤ 4 := by rw [← hn]; simp; omega
  clear hn
  have bp0 := (Bx.made w x (.slice a len cap)).next (ba (o := .cells #[.int .i64 zeroPk.k, .int .i64 zeroPk.f, .int .i64 zeroPk.t, .int .i64 zeroPk.i, .int .i64 zeroPk.l, .int .i64 zeroPk.p, .int .i64 zeroPk.s, .bool zeroPk.fl, .slice none 0 0] 26) (Below.refl _ _))
  have br0 := Bx.made' (w.alloc (.cells #[.int .i64 x.k, .int .i64 x.f, .int .i64 x.t, .int .i64 x.i, .int .i64 x.l, .int .i64 x.p, .int .i64 x.s, .bool x.fl, .slice a len cap] 26)) zeroPk (.slice none 0 0) (w.heap.size + 1) (by simp)
  unfold Pk.val
  go_enter Try.func10, Try.ntmps10
  go_upto_region 1 with fail
  go_cut [5] (fun v wx => ∃ (g : Nat) (a1 : Option Addr) (cap1 : Nat), v = .pointer (some ⟨g, 0, none⟩) ∧ PL w wx x a len cap g a1 n cap1)
  case first =>
    have uc := @Up.cell2
    have uf := @Up.frozen2
    refine wp_region_mild 31 rfl (by kernel_rfl) ?_
    refine mild_take (v := ?v201) 0 rfl (by kernel_rfl) (by kernel_rfl) (by kernel_rfl) (fun _ _ _ h => h) (by kernel_rfl) (fun Wu K hK => ?hy201) ?go201
    case hy201 =>
      go_big_quiet_op
      simp only [Act.put, List.setIfInBounds_toArray, List.set_cons_zero, List.set_cons_succ] at hK
      exact hK
    simp only [Act.put, List.setIfInBounds_toArray, List.set_cons_zero, List.set_cons_succ]
    refine mild_take (v := ?v202) 1 rfl (by kernel_rfl) (by kernel_rfl) (by kernel_rfl) (fun _ _ _ h => h) (by kernel_rfl) (fun Wu K hK => ?hy202) ?go202
    case hy202 =>
      go_big_quiet_op
      simp only [Act.put, List.setIfInBounds_toArray, List.set_cons_zero, List.set_cons_succ] at hK
      exact hK
    simp only [Act.put, List.setIfInBounds_toArray, List.set_cons_zero, List.set_cons_succ]
    refine mild_take (v := ?v203) 2 rfl (by kernel_rfl) (by kernel_rfl) (by kernel_rfl) (fun _ _ _ h => h) (by kernel_rfl) (fun Wu K hK => ?hy203) ?go203
    case hy203 =>
      go_big_quiet_op
      simp only [Act.put, List.setIfInBounds_toArray, List.set_cons_zero, List.set_cons_succ] at hK
      refine ⟨_, fun u => Calls.up_same (within_any _ _ _ (by omega) (by omega)), ?_⟩
      exact hK
    simp only [Act.put, List.setIfInBounds_toArray, List.set_cons_zero, List.set_cons_succ]
    refine mild_take (v := ?v204) 3 rfl (by kernel_rfl) (by kernel_rfl) (by kernel_rfl) (fun _ _ _ h => h) (by kernel_rfl) (fun Wu K hK => ?hy204) ?go204
    case hy204 =>
      go_big_quiet_op
      simp only [Act.put, List.setIfInBounds_toArray, List.set_cons_zero, List.set_cons_succ] at hK
      exact hK
    simp only [Act.put, List.setIfInBounds_toArray, List.set_cons_zero, List.set_cons_succ]
    refine mild_take (v := ?v205) 4 rfl (by kernel_rfl) (by kernel_rfl) (by kernel_rfl) (fun _ _ _ h => h) (by kernel_rfl) (fun Wu K hK => ?hy205) ?go205
    case hy205 =>
      go_big_quiet_op
      simp only [Act.put, List.setIfInBounds_toArray, List.set_cons_zero, List.set_cons_succ] at hK
      exact hK
    simp only [Act.put, List.setIfInBounds_toArray, List.set_cons_zero, List.set_cons_succ]
    refine mild_take (v := ?v206) 5 rfl (by kernel_rfl) (by kernel_rfl) (by kernel_rfl) (fun _ _ _ h => h) (by kernel_rfl) (fun Wu K hK => ?hy206) ?go206
    case hy206 =>
      go_big_quiet_op
      simp only [Act.put, List.setIfInBounds_toArray, List.set_cons_zero, List.set_cons_succ] at hK
      exact hK
    simp only [Act.put, List.setIfInBounds_toArray, List.set_cons_zero, List.set_cons_succ]
    refine mild_take (v := ?v207) 6 rfl (by kernel_rfl) (by kernel_rfl) (by kernel_rfl) (fun _ _ _ h => h) (by kernel_rfl) (fun Wu K hK => ?hy207) ?go207
    case hy207 =>
      go_big_quiet_op
      simp only [Act.put, List.setIfInBounds_toArray, List.set_cons_zero, List.set_cons_succ] at hK
      refine ⟨_, fun u => Calls.up_same (within_any _ _ _ (by omega) (by omega)), ?_⟩
      exact hK
    simp only [Act.put, List.setIfInBounds_toArray, List.set_cons_zero, List.set_cons_succ]
    refine mild_take (v := ?v208) 7 rfl (by kernel_rfl) (by kernel_rfl) (by kernel_rfl) (fun _ _ _ h => h) (by kernel_rfl) (fun Wu K hK => ?hy208) ?go208
    case hy208 =>
      go_big_quiet_op
      simp only [Act.put, List.setIfInBounds_toArray, List.set_cons_zero, List.set_cons_succ] at hK
      exact hK
    simp only [Act.put, List.setIfInBounds_toArray, List.set_cons_zero, List.set_cons_succ]
    refine mild_take (v := ?v209) 8 rfl (by kernel_rfl) (by kernel_rfl) (by kernel_rfl) (fun _ _ _ h => h) (by kernel_rfl) (fun Wu K hK => ?hy209) ?go209
    case hy209 =>
      go_big_quiet_op
      simp only [Act.put, List.setIfInBounds_toArray, List.set_cons_zero, List.set_cons_succ] at hK
      exact hK
    simp only [Act.put, List.setIfInBounds_toArray, List.set_cons_zero, List.set_cons_succ]
    refine mild_take (v := ?v210) 9 rfl (by kernel_rfl) (by kernel_rfl) (by kernel_rfl) (fun _ _ _ h => h) (by kernel_rfl) (fun Wu K hK => ?hy210) ?go210
    case hy210 =>
      go_big_quiet_op
      simp only [Act.put, List.setIfInBounds_toArray, List.set_cons_zero, List.set_cons_succ] at hK
      refine ⟨_, fun u => Calls.up_same (within_any _ _ _ (by omega) (by omega)), ?_⟩
      exact hK
    simp only [Act.put, List.setIfInBounds_toArray, List.set_cons_zero, List.set_cons_succ]
    refine mild_take (v := ?v211) 10 rfl (by kernel_rfl) (by kernel_rfl) (by kernel_rfl) (fun _ _ _ h => h) (by kernel_rfl) (fun Wu K hK => ?hy211) ?go211
    case hy211 =>
      go_big_quiet_op
      simp only [Act.put, List.setIfInBounds_toArray, List.set_cons_zero, List.set_cons_succ] at hK
      exact hK
    simp only [Act.put, List.setIfInBounds_toArray, List.set_cons_zero, List.set_cons_succ]
    refine mild_take (v := ?v212) 11 rfl (by kernel_rfl) (by kernel_rfl) (by kernel_rfl) (fun _ _ _ h => h) (by kernel_rfl) (fun Wu K hK => ?hy212) ?go212
    case hy212 =>
      go_big_quiet_op
      simp only [Act.put, List.setIfInBounds_toArray, List.set_cons_zero, List.set_cons_succ] at hK
      exact hK
    simp only [Act.put, List.setIfInBounds_toArray, List.set_cons_zero, List.set_cons_succ]
    refine mild_take (v := ?v213) 12 rfl (by kernel_rfl) (by kernel_rfl) (by kernel_rfl) (fun _ _ _ h => h) (by kernel_rfl) (fun Wu K hK => ?hy213) ?go213
    case hy213 =>
      go_big_quiet_op
      simp only [Act.put, List.setIfInBounds_toArray, List.set_cons_zero, List.set_cons_succ] at hK
      refine ⟨_, fun u => Calls.up_same (within_any _ _ _ (by omega) (by omega)), ?_⟩
      exact hK
    simp only [Act.put, List.setIfInBounds_toArray, List.set_cons_zero, List.set_cons_succ]
    refine mild_take (v := ?v214) 13 rfl (by kernel_rfl) (by kernel_rfl) (by kernel_rfl) (fun _ _ _ h => h) (by kernel_rfl) (fun Wu K hK => ?hy214) ?go214
    case hy214 =>
      go_big_quiet_op
      simp only [Act.put, List.setIfInBounds_toArray, List.set_cons_zero, List.set_cons_succ] at hK
      exact hK
    simp only [Act.put, List.setIfInBounds_toArray, List.set_cons_zero, List.set_cons_succ]
    refine mild_take (v := ?v215) 14 rfl (by kernel_rfl) (by kernel_rfl) (by kernel_rfl) (fun _ _ _ h => h) (by kernel_rfl) (fun Wu K hK => ?hy215) ?go215
    case hy215 =>
      go_big_quiet_op
      simp only [Act.put, List.setIfInBounds_toArray, List.set_cons_zero, List.set_cons_succ] at hK
      exact hK
    simp only [Act.put, List.setIfInBounds_toArray, List.set_cons_zero, List.set_cons_succ]
    refine mild_take (v := ?v216) 15 rfl (by kernel_rfl) (by kernel_rfl) (by kernel_rfl) (fun _ _ _ h => h) (by kernel_rfl) (fun Wu K hK => ?hy216) ?go216
    case hy216 =>
      go_big_quiet_op
      simp only [Act.put, List.setIfInBounds_toArray, List.set_cons_zero, List.set_cons_succ] at hK
      refine ⟨_, fun u => Calls.up_same (within_any _ _ _ (by omega) (by omega)), ?_⟩
      exact hK
    simp only [Act.put, List.setIfInBounds_toArray, List.set_cons_zero, List.set_cons_succ]
    refine mild_take (v := ?v217) 16 rfl (by kernel_rfl) (by kernel_rfl) (by kernel_rfl) (fun _ _ _ h => h) (by kernel_rfl) (fun Wu K hK => ?hy217) ?go217
    case hy217 =>
      go_big_quiet_op
      simp only [Act.put, List.setIfInBounds_toArray, List.set_cons_zero, List.set_cons_succ] at hK
      exact hK
    simp only [Act.put, List.setIfInBounds_toArray, List.set_cons_zero, List.set_cons_succ]
    refine mild_take (v := ?v218) 17 rfl (by kernel_rfl) (by kernel_rfl) (by kernel_rfl) (fun _ _ _ h => h) (by kernel_rfl) (fun Wu K hK => ?hy218) ?go218
    case hy218 =>
      go_big_quiet_op
      simp only [Act.put, List.setIfInBounds_toArray, List.set_cons_zero, List.set_cons_succ] at hK
      exact hK
    simp only [Act.put, List.setIfInBounds_toArray, List.set_cons_zero, List.set_cons_succ]
    refine mild_take (v := ?v219) 18 rfl (by kernel_rfl) (by kernel_rfl) (by kernel_rfl) (fun _ _ _ h => h) (by kernel_rfl) (fun Wu K hK => ?hy219) ?go219
    case hy219 =>
      go_big_quiet_op
      simp only [Act.put, List.setIfInBounds_toArray, List.set_cons_zero, List.set_cons_succ] at hK
      refine ⟨_, fun u => Calls.up_same (within_any _ _ _ (by omega) (by omega)), ?_⟩
      exact hK
    simp only [Act.put, List.setIfInBounds_toArray, List.set_cons_zero, List.set_cons_succ]
    refine mild_take (v := ?v220) 19 rfl (by kernel_rfl) (by kernel_rfl) (by kernel_rfl) (fun _ _ _ h => h) (by kernel_rfl) (fun Wu K hK => ?hy220) ?go220
    case hy220 =>
      go_big_quiet_op
      simp only [Act.put, List.setIfInBounds_toArray, List.set_cons_zero, List.set_cons_succ] at hK
      exact hK
    simp only [Act.put, List.setIfInBounds_toArray, List.set_cons_zero, List.set_cons_succ]
    refine mild_take (v := ?v221) 20 rfl (by kernel_rfl) (by kernel_rfl) (by kernel_rfl) (fun _ _ _ h => h) (by kernel_rfl) (fun Wu K hK => ?hy221) ?go221
    case hy221 =>
      go_big_quiet_op
      simp only [Act.put, List.setIfInBounds_toArray, List.set_cons_zero, List.set_cons_succ] at hK
      exact hK
    simp only [Act.put, List.setIfInBounds_toArray, List.set_cons_zero, List.set_cons_succ]
    refine mild_take (v := ?v222) 21 rfl (by kernel_rfl) (by kernel_rfl) (by kernel_rfl) (fun _ _ _ h => h) (by kernel_rfl) (fun Wu K hK => ?hy222) ?go222
    case hy222 =>
      go_big_quiet_op
      simp only [Act.put, List.setIfInBounds_toArray, List.set_cons_zero, List.set_cons_succ] at hK
      exact hK
    simp only [Act.put, List.setIfInBounds_toArray, List.set_cons_zero, List.set_cons_succ]
    refine mild_take (v := ?v223) 22 rfl (by kernel_rfl) (by kernel_rfl) (by kernel_rfl) (fun _ _ _ h => h) (by kernel_rfl) (fun Wu K hK => ?hy223) ?go223
    case hy223 =>
      go_big_quiet_op
      simp only [Act.put, List.setIfInBounds_toArray, List.set_cons_zero, List.set_cons_succ] at hK
      refine ⟨_, fun u => Calls.up_same (within_any _ _ _ (by omega) (by omega)), ?_⟩
      exact hK
    simp only [Act.put, List.setIfInBounds_toArray, List.set_cons_zero, List.set_cons_succ]
    refine mild_take (v := ?v224) 23 rfl (by kernel_rfl) (by kernel_rfl) (by kernel_rfl) (fun _ _ _ h => h) (by kernel_rfl) (fun Wu K hK => ?hy224) ?go224
    case hy224 =>
      go_big_quiet_op
      simp only [Act.put, List.setIfInBounds_toArray, List.set_cons_zero, List.set_cons_succ] at hK
      exact hK
    simp only [Act.put, List.setIfInBounds_toArray, List.set_cons_zero, List.set_cons_succ]
    refine mild_take (v := ?v225) 24 rfl (by kernel_rfl) (by kernel_rfl) (by kernel_rfl) (fun _ _ _ h => h) (by kernel_rfl) (fun Wu K hK => ?hy225) ?go225
    case hy225 =>
      go_big_quiet_op
      simp only [Act.put, List.setIfInBounds_toArray, List.set_cons_zero, List.set_cons_succ] at hK
      exact hK
    simp only [Act.put, List.setIfInBounds_toArray, List.set_cons_zero, List.set_cons_succ]
    refine mild_take (v := ?v226) 25 rfl (by kernel_rfl) (by kernel_rfl) (by kernel_rfl) (fun _ _ _ h => h) (by kernel_rfl) (fun Wu K hK => ?hy226) ?go226
    case hy226 =>
      go_big_quiet_op
      simp only [Act.put, List.setIfInBounds_toArray, List.set_cons_zero, List.set_cons_succ] at hK
      exact hK
    simp only [Act.put, List.setIfInBounds_toArray, List.set_cons_zero, List.set_cons_succ]
    refine mild_take (v := ?v227) 26 rfl (by kernel_rfl) (by kernel_rfl) (by kernel_rfl) (fun _ _ _ h => h) (by kernel_rfl) (fun Wu K hK => ?hy227) ?go227
    case hy227 =>
      go_big_quiet_op
      simp only [Act.put, List.setIfInBounds_toArray, List.set_cons_zero, List.set_cons_succ] at hK
      exact hK
    simp only [Act.put, List.setIfInBounds_toArray, List.set_cons_zero, List.set_cons_succ]
    intro W
    clear uc uf
    have hz0 : w.heap.size + 2 ≤ W.1.heap.size := by have := W.2.size; simpa using this
    have bpW : Bx W.1 w.heap.size x (.slice a len cap) := bp0.next W.2
    have brW : Bx W.1 (w.heap.size + 1) zeroPk (.slice none 0 0) := br0.next W.2
    have hsW := hsl.below (next (ba (ba (Below.refl _ _))) W.2)
    have BW : Below w.heap.size w W.1 := next (ba (ba (Below.refl _ _))) W.2
    have BW0 := W.2
    clear bp0 br0 hsl
    refine up_two 27 29 (by kernel_rfl) rfl rfl ?_ ?_
    · go_wp2_with (go_at_call 28; refine (cut_any a x.z len cap 4 _ hsW (by omega)).mono ?_; rintro e w1 ⟨v1, rfl, hown1, hb1⟩; obtain ⟨a1, cap1, rfl, hs1⟩ := hown1.sl' HN.out; have lo1 := hown1.lo)
      refine ⟨by exact next BW0 hb1, fun u => ?_⟩
      refine up_raise (by exact next (next BW0 hb1) u.2) ?_
      refine mild_take (v := ?v228) 28 rfl (by kernel_rfl) (by kernel_rfl) (by kernel_rfl) (fun _ _ _ h => h) (by kernel_rfl) (fun Wu K hK => ?hy228) ?go228
      case hy228 =>
        go_big_quiet_op
        simp only [Act.put, List.setIfInBounds_toArray, List.set_cons_zero, List.set_cons_succ] at hK
        exact hK
      simp only [Act.put, List.setIfInBounds_toArray, List.set_cons_zero, List.set_cons_succ]
      intro W2
      have B2 : Below W.1.heap.size W.1 W2.1 := next (next hb1 u.2) W2.2
      have bp2 := bpW.next B2
      have br2 := brW.next B2
      have hs2 := hs1.below (next u.2 W2.2)
      have lo2 : ∀ ad : Addr, a1 = some ad → W.1.heap.size ≤ ad.block ∧ ad.block < W2.1.heap.size := fun ad e => ⟨(lo1 ad e).1, by have := (lo1 ad e).2; have := u.2.size; have := W2.2.size; omega⟩
      have z2 : W.1.heap.size ≤ W2.1.heap.size := B2.size
      have BX := next BW B2
      refine up_list 29 (by kernel_rfl) rfl ?_
      go_wp2
      refine ⟨by exact ba W2.2, fun u3 => ?_⟩
      have bq3 := (Bx.made W2.1 zeroPk (.slice none 0 0)).next (by exact u3.2)
      have B3 : Below W2.1.heap.size W2.1 u3.1 := next (ba (Below.refl _ _)) u3.2
      have bp3 := bp2.next B3
      have br3 := br2.next B3
      have hs3 := hs2.below B3
      have BX3 := next BX B3
      have BU : Below u.1.heap.size u.1 u3.1 := next W2.2 B3
      have hzu : u.1.heap.size ≤ W2.1.heap.size := W2.2.size
      generalize u3.1 = wq at *
      generalize W2.1.heap.size = gq at *
      clear u3 B2 B3 bp2 br2 hs2
      have fq := bq3.fz
      obtain ⟨q0, q1, q2, q3, q4, q5, q6, q7, q8, _, _⟩ := id bq3
      refine up_list 30 (by kernel_rfl) rfl ?_
      go_wp2
      refine ⟨nine_below (y := playX x) BU hzu, fun u4 => ?_⟩
      have PLx : PL w u4.1 x a len cap gq a1 n cap1 := PL.of bp3 br3 bq3 hs3 BX3 (by omega) (fun ad e => by have := lo2 ad e; have := bq3.lt; omega) u4.2
      refine up_done (by kernel_rfl) ?_
      go_wp2
      go_meet
      case rel => exact ⟨gq, a1, cap1, rfl, PLx⟩
    · go_wp2
      refine ⟨by exact ba BW0, fun u => ?_⟩
      have bq1 := (Bx.made W.1 zeroPk (.slice none 0 0)).next (by exact u.2)
      have B1 : Below W.1.heap.size W.1 u.1 := next (ba (Below.refl _ _)) u.2
      have hsu := hsW.below B1
      have hzu : W.1.heap.size < u.1.heap.size := by have := u.2.size; simp at this; omega
      refine up_list 27 (by kernel_rfl) rfl ?_
      go_wp2_with (go_at_call 28; refine (cut_any a x.z len cap 4 _ hsu (by omega)).mono ?_; rintro e w1 ⟨v1, rfl, hown1, hb1⟩; obtain ⟨a1, cap1, rfl, hs1⟩ := hown1.sl' HN.out; have lo1 := hown1.lo)
      refine ⟨by exact next (next BW0 B1) hb1, fun u2 => ?_⟩
      refine up_list 28 (by kernel_rfl) rfl ?_
      go_wp2
      refine ⟨by exact next (next (next BW0 B1) hb1) u2.2, fun u3 => ?_⟩
      have B3 : Below u.1.heap.size u.1 u3.1 := next (next hb1 u2.2) u3.2
      have bq3 := bq1.next B3
      have bp3 := (bpW.next B1).next B3
      have br3 := (brW.next B1).next B3
      have hs3 := hs1.below (next u2.2 u3.2)
      have BX3 := next (next BW B1) B3
      have BU := next (next BW0 B1) B3
      have hzq : w1.heap.size ≤ u3.1.heap.size := by have := u2.2.size; have := u3.2.size; omega
      generalize u3.1 = wq at *
      clear u3 B3
      have fq := bq3.fz
      obtain ⟨q0, q1, q2, q3, q4, q5, q6, q7, q8, _, _⟩ := id bq3
      refine up_list 30 (by kernel_rfl) rfl ?_
      go_wp2
      refine ⟨nine_below (y := playX x) BU (by simpa using hz0), fun u4 => ?_⟩
      have PLx : PL w u4.1 x a len cap W.1.heap.size a1 n cap1 := PL.of bp3 br3 bq3 hs3 BX3 (by omega) (fun ad e => by have := lo1 ad e; have := hzq; omega) u4.2
      refine up_done (by kernel_rfl) ?_
      go_wp2
      go_meet
      case rel => exact ⟨_, a1, cap1, rfl, PLx⟩
  case rest =>
    obtain ⟨g, a1, cap1, rfl, hbp, hbr, hbq, gl, hs, far, BW⟩ := hcut
    clear bp0 br0 k0 f0 t0 i0 l0 p0 s0
    obtain ⟨c, hc, m0, m1⟩ : ∃ c, how % 40 = c ∧ 0 ≤ c ∧ c < 40 := ⟨_, rfl, by omega, by omega⟩
    have HP : Hid (how % 40 = c) := hc
    go_upto_block 0 with (go_at_call 11; refine (within_any _ _ _ (by omega) (by omega)).mono ?_; rintro e w1 ⟨rfl, rfl⟩; rw [hc])
    clear hc
    have r4 : R64 x.z → R64 (x.z.take 4) := fun h => h.take 4
    have hright := play_right x
    go_cut [36] (fun _ wx => ∃ (y : Pk) (a2 : Option Addr) (n2 c2 : Nat), Bx wx g y (.slice a2 n2 c2) ∧ Bx wx (w.heap.size + 1) zeroPk (.slice none 0 0) ∧ Sl wx a2 n2 c2 y.z ∧ (∀ ad : Addr, a2 = some ad → w.heap.size + 2 ≤ ad.block ∧ ad.block < wx.heap.size) ∧ n2 ≤ 6 ∧ (c < 31 → y.right = true) ∧ (R64 x.z → R64 y.z) ∧ Below w.heap.size w wx)
    case first =>
      obtain ⟨s0, s1, s2, s3, s4, s5, s6, s7, s8, sf, slt⟩ := id hbp
      obtain ⟨q0, q1, q2, q3, q4, q5, q6, q7, q8, qf, qlt⟩ := id hbq
      have fr : ∀ (o : Nat) (u : Value), Bx (wc.setCell ⟨g, o, none⟩ u) (w.heap.size + 1) zeroPk (.slice none 0 0) := fun o u => hbr.far (by simp only; omega)
      have f1 : ∀ (o : Nat) (u : Value), Sl (wc.setCell ⟨g, o, none⟩ u) a1 n cap1 (x.z.take 4) := fun o u => hs.far (fun ad e => (far ad e).1)
      have fb : ∀ (o : Nat) (u : Value), Below w.heap.size w (wc.setCell ⟨g, o, none⟩ u) := fun o u => BW.setCell (by simp only; omega) _
      by_cases hlo : c < 31
      · have n31 : (c == 31) = false := by simp; omega
        have n32 : (c == 32) = false := by simp; omega
        have n33 : (c == 33) = false := by simp; omega
        have n34 : (c == 34) = false := by simp; omega
        have n35 : (c == 35) = false := by simp; omega
        have n36 : (c == 36) = false := by simp; omega
        have n37 : (c == 37) = false := by simp; omega
        have n38 : (c == 38) = false := by simp; omega
        have n39 : (c == 39) = false := by simp; omega
        go_wp2
        go_meet
        case rel => exact ⟨playX x, a1, n, cap1, hbq, hbr, hs, fun ad e => (far ad e).2, by omega, fun _ => hright, r4, BW⟩
      · have hh : c = 31 ∨ c = 32 ∨ c = 33 ∨ c = 34 ∨ c = 35 ∨ c = 36 ∨ c = 37 ∨ c = 38 ∨ c = 39 := by omega
        rcases hh with rfl | rfl | rfl | rfl | rfl | rfl | rfl | rfl | rfl
        · go_wp2
          go_meet
          case rel => exact ⟨_, a1, n, cap1, hbq.setK _, fr _ _, f1 _ _, fun ad e => by have := (far ad e).2; simpa using this, by omega, fun h => by omega, r4, fb _ _⟩
        · go_wp2
          go_meet
          case rel => exact ⟨_, a1, n, cap1, hbq.setF _, fr _ _, f1 _ _, fun ad e => by have := (far ad e).2; simpa using this, by omega, fun h => by omega, r4, fb _ _⟩
        · go_wp2
          go_meet
          case rel => exact ⟨_, a1, n, cap1, hbq.setT _, fr _ _, f1 _ _, fun ad e => by have := (far ad e).2; simpa using this, by omega, fun h => by omega, r4, fb _ _⟩
        · go_wp2
          go_meet
          case rel => exact ⟨_, a1, n, cap1, hbq.setI _, fr _ _, f1 _ _, fun ad e => by have := (far ad e).2; simpa using this, by omega, fun h => by omega, r4, fb _ _⟩
        · go_wp2
          go_meet
          case rel => exact ⟨_, a1, n, cap1, hbq.setL _, fr _ _, f1 _ _, fun ad e => by have := (far ad e).2; simpa using this, by omega, fun h => by omega, r4, fb _ _⟩
        · go_wp2
          go_meet
          case rel => exact ⟨_, a1, n, cap1, hbq.setP _, fr _ _, f1 _ _, fun ad e => by have := (far ad e).2; simpa using this, by omega, fun h => by omega, r4, fb _ _⟩
        · go_wp2
          go_meet
          case rel => exact ⟨_, a1, n, cap1, hbq.setS _, fr _ _, f1 _ _, fun ad e => by have := (far ad e).2; simpa using this, by omega, fun h => by omega, r4, fb _ _⟩
        · have hsx := hsl.below BW
          obtain ⟨n6, hn6⟩ : ∃ n6, (x.z.take 6).length = n6 := ⟨_, rfl⟩
          have HN6 : Hid ((x.z.take 6).length = n6) := hn6
          have h6 : n6 ≤ 6 := by rw [← hn6]; simp; omega
          clear hn6
          go_wp2_with (go_at_call 28; refine (cut_any a x.z len cap 6 _ hsx (by omega)).mono ?_; rintro e w2 ⟨v2, rfl, hown2, hb2⟩; obtain ⟨a2, cap2, rfl, hs2⟩ := hown2.sl' HN6.out; have lo2 := hown2.lo; have hbq2 := hbq.next hb2; have hqf := hbq2.fz; have hq8 := hbq2.c8)
          go_meet
          case rel => exact ⟨_, a2, n6, cap2, hbq2.setZ (x.z.take 6) _, (hbr.next hb2).far (by simp only; omega), hs2.far (fun ad e => by have := lo2 ad e; simp only; omega), fun ad e => by have := lo2 ad e; simp only [World.size_setCell]; omega, h6, fun h => by omega, fun h => h.take 6, (next BW hb2).setCell (by simp only; omega) _⟩
        · go_wp2_with (go_at_call 11; refine (within_any _ _ _ (by omega) (by omega)).mono ?_; rintro e w1 ⟨rfl, rfl⟩)
          go_meet
          case rel => exact ⟨_, a1, n, cap1, hbq.setI _, fr _ _, f1 _ _, fun ad e => by have := (far ad e).2; simpa using this, by omega, fun h => by omega, r4, fb _ _⟩
    case rest =>
      obtain ⟨y, a2, n2, c2, by2, br2, hs2, lo2, hn2, hr2, h64, B2⟩ := hcut
      have hi2 : ∀ ad : Addr, a2 = some ad → ad.block < wc.heap.size := fun ad e => (lo2 ad e).2
      obtain ⟨y0, y1, y2, y3, y4, y5, y6, y7, y8, yf, ylt⟩ := by2
      obtain ⟨r0, r1, r2, r3, r4', r5, r6, r7, r8, rf, rlt⟩ := br2
      clear hbp hbr hbq hs BW hsl r4 hright far
      have hne : w.heap.size + 1 ≠ g := by omega
      go_wp2
      refine bodyPost_ret (v := y.val (.slice a2 n2 c2)) (by simp [results, Try.results10, go_sem, *]) rfl ⟨_, rfl, y, a2, n2, c2, rfl, ?_, hn2, fun h => hr2 (by rw [← HP.out]; exact h), h64, ?_, ?_⟩
      · exact far9 (P := fun V => Sl V a2 n2 c2 y.z) (fun V o u h => h.far (fun ad e => by have := lo2 ad e; simp only; omega)) hs2
      · intro ad e
        refine ⟨by have := lo2 ad e; omega, ?_⟩
        have := hi2 ad e
        simpa using this
      · exact far9 (P := fun V => Below w.heap.size w V) (fun V o u h => h.setCell (by simp only; omega) _) B2
end Go.Proofs.Ytjdbjmfkheffdaa
end
section
namespace Go.Proofs.Ytjdbjmfkheffdaa
open Go.RowKit
set_option linter.unusedVariables false
set_option maxRecDepth 20000

def donePk1 : Pk := ⟨8, 0, 1, 0, 0, 0, 0, false, []⟩
/-- Locks and answers of node 0 under way; locks and answers that wait at node 1. -/
def FF (xs ys zs us : List Pk) : Nat → List Pk := fun q => if q = 0 then xs else if q = 1 then ys else if q = 6 then zs else if q = 7 then us else []
theorem FF_nil : (fun _ => []) = FF [] [] [] [] := by funext q; unfold FF; repeat (first | rfl | split)
theorem FF_u0 (xs ys zs us l : List Pk) : upd (FF xs ys zs us) 0 l = FF l ys zs us := by funext q; unfold upd FF; repeat (first | rfl | omega | split)
theorem FF_u1 (xs ys zs us l : List Pk) : upd (FF xs ys zs us) 1 l = FF xs l zs us := by funext q; unfold upd FF; repeat (first | rfl | omega | split)
theorem FF_u6 (xs ys zs us l : List Pk) : upd (FF xs ys zs us) 6 l = FF xs ys l us := by funext q; unfold upd FF; repeat (first | rfl | omega | split)
theorem FF_u7 (xs ys zs us l : List Pk) : upd (FF xs ys zs us) 7 l = FF xs ys zs l := by funext q; unfold upd FF; repeat (first | rfl | omega | split)
theorem FF_under (xs ys zs us : List Pk) : laneL (FF xs ys zs us) 4 = xs ++ ys := by simp [laneL, FF, pr]
theorem send_lock {O : Int} {xs ys zs us : List Pk} (h : (xs.length : Int) < O) : SendTo 2 O (FF xs ys zs us) lockPk1 0 (FF (xs ++ [lockPk1]) ys zs us) := by
  have := SendTo.ok (nn := 2) (out := O) (F := FF xs ys zs us) (x := lockPk1) (by decide) (by decide) (by decide) h
  rw [show pr (fromQ lockPk1) = 0 from rfl, FF_u0] at this
  exact this
theorem send_lock_full {O : Int} {xs ys zs us : List Pk} (h : (xs.length : Int) = O) : SendTo 2 O (FF xs ys zs us) lockPk1 5 (FF xs ys zs us) := SendTo.full (by decide) (by decide) (by decide) h
theorem send_done {O : Int} {xs ys zs us : List Pk} (h : (ys.length : Int) < O) : SendTo 2 O (FF xs ys zs us) donePk1 0 (FF xs (ys ++ [donePk1]) zs us) := by
  have := SendTo.ok (nn := 2) (out := O) (F := FF xs ys zs us) (x := donePk1) (by decide) (by decide) (by decide) h
  rw [show pr (fromQ donePk1) = 1 from rfl, FF_u1] at this
  exact this
theorem send_done_full {O : Int} {xs ys zs us : List Pk} (h : (ys.length : Int) = O) : SendTo 2 O (FF xs ys zs us) donePk1 5 (FF xs ys zs us) := SendTo.full (by decide) (by decide) (by decide) h
theorem del_lock {O I : Int} {xs ys zs us : List Pk} (h : (zs.length : Int) < I) : DelTo 2 O I (FF (lockPk1 :: xs) ys zs us) 0 0 0 0 (FF xs ys (zs ++ [lockPk1]) us) := by
  have := DelTo.ok (nn := 2) (out := O) (inn := I) (F := FF (lockPk1 :: xs) ys zs us) (a := 0) (bit := 0) (mask := 0) 0 0 lockPk1 (by decide) rfl rfl (wire_zero _ _) h
  rw [show pr (toQ lockPk1) + 2 = 6 from rfl, show pr 0 = 0 from rfl, FF_u6, FF_u0] at this
  exact this
theorem del_lock_full {O I : Int} {xs ys zs us : List Pk} (h : (zs.length : Int) = I) : DelTo 2 O I (FF (lockPk1 :: xs) ys zs us) 0 0 0 5 (FF (lockPk1 :: xs) ys zs us) :=
  DelTo.full 0 0 lockPk1 (by decide) rfl rfl (wire_zero _ _) h
theorem del_done {O I : Int} {ys zs us : List Pk} (h : us.length < 1) : DelTo 2 O I (FF [lockPk1] (donePk1 :: ys) zs us) 1 0 0 0 (FF [lockPk1] ys zs (us ++ [donePk1])) := by
  have := DelTo.ok (nn := 2) (out := O) (inn := I) (F := FF [lockPk1] (donePk1 :: ys) zs us) (a := 1) (bit := 0) (mask := 0) 1 0 donePk1 (by decide) rfl rfl (wire_zero _ _) (show ((us.length : Int) < 1) by omega)
  rw [show pr (toQ donePk1) + 2 = 7 from rfl, show pr 1 = 1 from rfl, FF_u7, FF_u1] at this
  exact this
theorem del_done_full {O I : Int} {ys zs us : List Pk} (h : us.length = 1) : DelTo 2 O I (FF [lockPk1] (donePk1 :: ys) zs us) 1 0 0 5 (FF [lockPk1] (donePk1 :: ys) zs us) :=
  DelTo.full 1 0 donePk1 (by decide) rfl rfl (wire_zero _ _) (show ((us.length : Int) = 1) by omega)
def lockPk2 : Pk := ⟨1, 2, 0, 0, 0, 0, 0, false, []⟩
theorem send_no2 {O : Int} {F : Nat → List Pk} : SendTo 2 O F lockPk2 1 F := SendTo.far (by decide) (.inl (by decide))
theorem send_no0 {O : Int} {F : Nat → List Pk} : SendTo 2 O F zeroPk 1 F := SendTo.no (by decide)
theorem lock2_right : lockPk2.right = true := by decide
theorem zero_right : zeroPk.right = false := by decide
theorem send_lock2 {w V : World} {gf : Nat} {out inn : Int} {F : Nat → List Pk} {X : Nat → Prop} (h : On w V gf 2 out inn F X) :
    Calls Try.prog 12 #[.pointer (some ⟨gf, 0, none⟩), .agg #[.int .i64 1, .int .i64 2, .int .i64 0, .int .i64 0, .int .i64 0, .int .i64 0, .int .i64 0, .bool false, .slice none 0 0]] V fun en w' => en = .returned (.int .i64 1) ∧ Below V.heap.size V w' :=
  send_on_far h lockPk2 none 0 0 (sl_nil _) lock2_right (.inl (Int.le_refl 2))
theorem send_zero {w V : World} {gf nn : Nat} {out inn : Int} {F : Nat → List Pk} {X : Nat → Prop} (h : On w V gf nn out inn F X) :
    Calls Try.prog 12 #[.pointer (some ⟨gf, 0, none⟩), .agg #[.int .i64 0, .int .i64 0, .int .i64 0, .int .i64 0, .int .i64 0, .int .i64 0, .int .i64 0, .bool false, .slice none 0 0]] V fun en w' => en = .returned (.int .i64 1) ∧ Below V.heap.size V w' :=
  send_on_no h zeroPk none 0 0 (sl_nil _) zero_right
/-- The network as the walk fills it: the sort that is many, the one other, and those that came. -/
def FQ (first : Bool) (n m c : Nat) : Nat → List Pk := if first = true then FF (List.replicate m lockPk1) (List.replicate n donePk1) [] (List.replicate c donePk1) else FF (List.replicate n lockPk1) (List.replicate m donePk1) (List.replicate c lockPk1) []
def xA (first : Bool) : Pk := if first = true then donePk1 else lockPk1
def xB (first : Bool) : Pk := if first = true then lockPk1 else donePk1
theorem FQ_nil (first : Bool) : (fun _ => []) = FQ first 0 0 0 := by cases first <;> exact FF_nil
theorem rep_snoc {α : Type} (n : Nat) (x : α) : List.replicate n x ++ [x] = List.replicate (n + 1) x := (List.replicate_succ' ..).symm
theorem FQ_send {first : Bool} {O n : Nat} (h : n < O) : SendTo 2 O (FQ first n 0 0) (xA first) 0 (FQ first (n + 1) 0 0) := by
  cases first
  · have := send_lock (O := O) (xs := List.replicate n lockPk1) (ys := []) (zs := []) (us := []) (by simp; omega)
    rw [rep_snoc] at this; exact this
  · have := send_done (O := O) (xs := []) (ys := List.replicate n donePk1) (zs := []) (us := []) (by simp; omega)
    rw [rep_snoc] at this; exact this
theorem FQ_full {first : Bool} {O : Nat} : SendTo 2 O (FQ first O 0 0) (xA first) 5 (FQ first O 0 0) := by
  cases first
  · exact send_lock_full (by simp)
  · exact send_done_full (by simp)
theorem FQ_other {first : Bool} {O : Nat} (h : 1 ≤ O) : SendTo 2 O (FQ first O 0 0) (xB first) 0 (FQ first O 1 0) := by
  cases first
  · exact send_done (by simp; omega)
  · exact send_lock (by simp; omega)
def roomQ (first : Bool) (I : Nat) : Nat := if first = true then 1 else I
def atQ (first : Bool) : Int := if first = true then 1 else 0
theorem FQ_del {first : Bool} {O I n c : Nat} (h : c < roomQ first I) : DelTo 2 O I (FQ first (n + 1) 1 c) (atQ first) 0 0 0 (FQ first n 1 (c + 1)) := by
  cases first
  · have := del_lock (O := O) (I := I) (xs := List.replicate n lockPk1) (ys := [donePk1]) (zs := List.replicate c lockPk1) (us := []) (by simp [roomQ] at h ⊢; omega)
    rw [rep_snoc] at this; exact this
  · have := del_done (O := O) (I := I) (ys := List.replicate n donePk1) (zs := []) (us := List.replicate c donePk1) (by simp [roomQ] at h ⊢; omega)
    rw [rep_snoc] at this; exact this
theorem FQ_stay {first : Bool} {O I n : Nat} : DelTo 2 O I (FQ first (n + 1) 1 (roomQ first I)) (atQ first) 0 0 5 (FQ first (n + 1) 1 (roomQ first I)) := by
  cases first
  · exact del_lock_full (by simp [roomQ])
  · exact del_done_full (by simp [roomQ])
theorem FQ_under (first : Bool) (n m c : Nat) : (laneL (FQ first n m c) (2 * 2)).length = n + m := by
  cases first
  · show (laneL (FF _ _ _ _) 4).length = _; rw [FF_under]; simp
  · show (laneL (FF _ _ _ _) 4).length = _; rw [FF_under]; simp; omega
theorem FQ_room (first : Bool) (n m c : Nat) : ((FQ first n m c) (pr (2 * 0 + laneS (!first)))).length = n ∧ ((FQ first n m c) (pr (2 * 1 + laneS true))).length = 0 := by
  cases first <;> simp [FQ, FF, pr, laneS]
/-- What the walk of FabricFull keeps: its two packets, its configuration, the network. -/
structure FL (w V : World) (gf ga : Nat) (O I : Nat) (x y : Pk) (F : Nat → List Pk) : Prop where
  pa : Bx V ga x (.slice none 0 0)
  pb : Bx V (ga + 1) y (.slice none 0 0)
  on : On w V gf 2 O I F (fun k => k = w.heap.size ∨ k = ga ∨ k = ga + 1)
  c5 : V.cell? ⟨w.heap.size, 5, none⟩ = some (.int .i64 (O : Int))
  c6 : V.cell? ⟨w.heap.size, 6, none⟩ = some (.int .i64 (I : Int))
  lt : w.heap.size < ga
theorem FL.below {w V V' : World} {gf ga O I : Nat} {x y : Pk} {F : Nat → List Pk} (h : FL w V gf ga O I x y F) (hb : Below V.heap.size V V') : FL w V' gf ga O I x y F :=
  have lt := Nat.lt_trans h.lt h.pa.lt
  ⟨h.pa.next hb, h.pb.next hb, h.on.below hb, ((bcell hb).1 _ 5 lt).trans h.c5, ((bcell hb).1 _ 6 lt).trans h.c6, h.lt⟩
theorem FL.step {w V V' : World} {gf ga O I : Nat} {x y : Pk} {F F' : Nat → List Pk} (h : FL w V gf ga O I x y F) (ho : On w V' gf 2 O I F' (fun k => k = w.heap.size ∨ k = ga ∨ k = ga + 1)) (hk : Keep (fun k => ¬ (k = w.heap.size ∨ k = ga ∨ k = ga + 1)) V V') : FL w V' gf ga O I x y F' :=
  have lt := Nat.lt_trans h.lt h.pa.lt
  ⟨h.pa.keep hk (fun h => h (.inr (.inl rfl))), h.pb.keep hk (fun h => h (.inr (.inr rfl))), ho, (hk.cell 5 lt (fun h => h (.inl rfl))).trans h.c5, (hk.cell 6 lt (fun h => h (.inl rfl))).trans h.c6, h.lt⟩
theorem FL.swap {w V : World} {gf ga O I : Nat} {x y : Pk} {F : Nat → List Pk} (h : FL w V gf ga O I x y F) : FL w (nine (nine V ga y (.slice none 0 0)) (ga + 1) x (.slice none 0 0)) gf ga O I y x F := by
  have k1 : Keep (fun k => k = ga ∨ k = ga + 1) V (nine V ga y (.slice none 0 0)) := far9 (g := ga) (y := y) (v := .slice none 0 0) (W := V) (P := fun V' => Keep (fun k => k = ga ∨ k = ga + 1) V V') (fun V' o u h => h.setCell (.inl (.inl rfl)) u) (Keep.refl _ _)
  have k2 : Keep (fun k => k = ga ∨ k = ga + 1) V (nine (nine V ga y (.slice none 0 0)) (ga + 1) x (.slice none 0 0)) := far9 (g := ga + 1) (y := x) (v := .slice none 0 0) (W := nine V ga y (.slice none 0 0)) (P := fun V' => Keep (fun k => k = ga ∨ k = ga + 1) V V') (fun V' o u h => h.setCell (.inl (.inr rfl)) u) k1
  have b1 : Bx (nine V ga y (.slice none 0 0)) ga y (.slice none 0 0) := h.pa.put y (.slice none 0 0)
  have b2 : Bx (nine V ga y (.slice none 0 0)) (ga + 1) y (.slice none 0 0) := far9 (g := ga) (y := y) (v := .slice none 0 0) (W := V) (P := fun V' => Bx V' (ga + 1) y (.slice none 0 0)) (fun V' o u h => h.far (by simp only; omega)) h.pb
  have b3 : Bx (nine (nine V ga y (.slice none 0 0)) (ga + 1) x (.slice none 0 0)) (ga + 1) x (.slice none 0 0) := b2.put x (.slice none 0 0)
  have b4 : Bx (nine (nine V ga y (.slice none 0 0)) (ga + 1) x (.slice none 0 0)) ga y (.slice none 0 0) := far9 (g := ga + 1) (y := x) (v := .slice none 0 0) (W := nine V ga y (.slice none 0 0)) (P := fun V' => Bx V' ga y (.slice none 0 0)) (fun V' o u h => h.far (by simp only; omega)) b1
  have lt := h.lt
  have lt' := Nat.lt_trans h.lt h.pa.lt
  exact ⟨b4, b3, h.on.turn k2 (fun k hk => .inl (.inr hk)) (fun k hk => by omega) (fun k hk => .inl hk) (fun k hk => Nat.lt_of_lt_of_le (h.on.xlt k hk) k2.size), (k2.cell 5 lt' (by omega)).trans h.c5, (k2.cell 6 lt' (by omega)).trans h.c6, lt⟩
end Go.Proofs.Ytjdbjmfkheffdaa
end
section
namespace Go.Proofs.Ytjdbjmfkheffdaa
open Go.RowKit
set_option linter.unusedVariables false
set_option maxRecDepth 20000

set_option maxHeartbeats 1000000 in
theorem fabricFull_walk (out inn : Int) (first : Bool) (w : World) :
    Calls Try.prog 4 #[.int .i64 out, .int .i64 inn, .bool first] w fun e w' => e = .returned (.bool true) ∧ Below w.heap.size w w' := by
  obtain ⟨o', HO, hO0', hO1'⟩ : ∃ o' : Int, Hid (out % 6 = o') ∧ 0 ≤ o' ∧ o' < 6 := ⟨_, rfl, by omega, by omega⟩
  obtain ⟨i', HI, hI0', hI1'⟩ : ∃ i' : Int, Hid (inn % 6 = i') ∧ 0 ≤ i' ∧ i' < 6 := ⟨_, rfl, by omega, by omega⟩
  obtain ⟨O, eO, hO0, hO1⟩ : ∃ O : Nat, 1 + o' = (O : Int) ∧ 1 ≤ O ∧ O ≤ 6 := ⟨(1 + o').toNat, by omega, by omega, by omega⟩
  obtain ⟨I, eI, hI0, hI1⟩ : ∃ I : Nat, 1 + i' = (I : Int) ∧ 1 ≤ I ∧ I ≤ 6 := ⟨(1 + i').toNat, by omega, by omega, by omega⟩
  go_enter Try.func4, Try.ntmps4
  go_upto_if 29 with (first
    | (have mk := mk1; clear mk; go_at_call 11; refine (within_any inn 6 _ (by decide) (by decide)).mono ?_; rintro e w2 ⟨rfl, rfl⟩; rw [HI.out])
    | (go_at_call 11; refine (within_any out 6 _ (by decide) (by decide)).mono ?_; rintro e w2 ⟨rfl, rfl⟩; rw [HO.out]; have mk1 := True.intro)
    | (go_at_call 9; refine (new_on (X := fun k => k = w.heap.size) (by exact ba (Below.refl _ _)) (fun _ h => by subst h; simp) 2 1 1 1 1 O I (.slice none 0 0) rfl (by decide) (by decide) (by omega) (by omega) (by omega) (by omega)).mono ?_; rintro e w1 ⟨gf, rfl, hf0, hb1⟩; clear eO eI hO0' hO1' hI0' hI1' HO HI mk1))
  have bA := (Bx.made w1 lockPk1 (.slice none 0 0)).next (ba (o := .cells #[.int .i64 donePk1.k, .int .i64 donePk1.f, .int .i64 donePk1.t, .int .i64 donePk1.i, .int .i64 donePk1.l, .int .i64 donePk1.p, .int .i64 donePk1.s, .bool donePk1.fl, .slice none 0 0] 26) (Below.refl _ _))
  have bB := Bx.made1 w1 (.cells #[.int .i64 lockPk1.k, .int .i64 lockPk1.f, .int .i64 lockPk1.t, .int .i64 lockPk1.i, .int .i64 lockPk1.l, .int .i64 lockPk1.p, .int .i64 lockPk1.s, .bool lockPk1.fl, .slice none 0 0] 26) donePk1 (.slice none 0 0)
  have z1 : w.heap.size < w1.heap.size := by have := hb1.size; simp at this; omega
  have c5 : w1.cell? ⟨w.heap.size, 5, none⟩ = some (.int .i64 (O : Int)) := ((bcell hb1).1 _ 5 (by simp)).trans (by simp)
  have c6 : w1.cell? ⟨w.heap.size, 6, none⟩ = some (.int .i64 (I : Int)) := ((bcell hb1).1 _ 6 (by simp)).trans (by simp)
  have hup : Below w1.heap.size w1 _ := ba (o := .cells #[.int .i64 donePk1.k, .int .i64 donePk1.f, .int .i64 donePk1.t, .int .i64 donePk1.i, .int .i64 donePk1.l, .int .i64 donePk1.p, .int .i64 donePk1.s, .bool donePk1.fl, .slice none 0 0] 26) (ba (o := .cells #[.int .i64 lockPk1.k, .int .i64 lockPk1.f, .int .i64 lockPk1.t, .int .i64 lockPk1.i, .int .i64 lockPk1.l, .int .i64 lockPk1.p, .int .i64 lockPk1.s, .bool lockPk1.fl, .slice none 0 0] 26) (Below.refl _ _))
  have hf1 := hf0.more (X' := fun k => k = w.heap.size ∨ k = w1.heap.size ∨ k = w1.heap.size + 1) hup (fun k hk => by
    rcases hk with hk | hk | hk
    · exact .inl hk
    · exact .inr (by simp; omega)
    · exact .inr (by simp; omega))
  rw [FQ_nil first] at hf1
  have hFL : FL w _ gf w1.heap.size O I lockPk1 donePk1 (FQ first 0 0 0) := ⟨bA, bB, hf1, ((bcell hup).1 _ 5 z1).trans c5, ((bcell hup).1 _ 6 z1).trans c6, z1⟩
  obtain ⟨W, hW⟩ : ∃ W, W = (w1.alloc (.cells #[.int .i64 lockPk1.k, .int .i64 lockPk1.f, .int .i64 lockPk1.t, .int .i64 lockPk1.i, .int .i64 lockPk1.l, .int .i64 lockPk1.p, .int .i64 lockPk1.s, .bool lockPk1.fl, .slice none 0 0] 26)).alloc (.cells #[.int .i64 donePk1.k, .int .i64 donePk1.f, .int .i64 donePk1.t, .int .i64 donePk1.i, .int .i64 donePk1.l, .int .i64 donePk1.p, .int .i64 donePk1.s, .bool donePk1.fl, .slice none 0 0] 26) := ⟨_, rfl⟩
  refine wp_world (w2 := W) (by rw [hW]; rfl) ?_
  rw [← hW] at hFL
  clear hup hf0 hf1 c5 c6 hb1 bA bB hW z1
  generalize w1.heap.size = ga at *
  go_cut [] (fun wx => FL w wx gf ga O I (xA first) (xB first) (FQ first 0 0 0))
  case first =>
    cases first
    · go_wp2
      go_meet
      case rel => exact hFL
    · obtain ⟨a0, a1, a2, a3, a4, a5, a6, a7, a8, af, al⟩ := id hFL.pa
      obtain ⟨b0, b1, b2, b3, b4, b5, b6, b7, b8, bf, bl⟩ := id hFL.pb
      simp only [lockPk1, donePk1] at a0 a1 a2 a3 a4 a5 a6 a7 a8 b0 b1 b2 b3 b4 b5 b6 b7 b8
      go_wp2
      go_meet
      case rel => exact hFL.swap
  case rest =>
    clear hFL
    have HSEND : Hid (∀ k, k < O → SendTo 2 O (FQ first k 0 0) (xA first) 0 (FQ first (k + 1) 0 0)) := fun k hk => FQ_send hk
    have HFULL : Hid (SendTo 2 O (FQ first O 0 0) (xA first) 5 (FQ first O 0 0)) := FQ_full
    have HOTHER : Hid (SendTo 2 O (FQ first O 0 0) (xB first) 0 (FQ first O 1 0)) := FQ_other hO0
    have hkA : ((xA first).k == 1) = !first := by cases first <;> rfl
    have HZA : Hid ((xA first).z = []) := by cases first <;> rfl
    have HZB : Hid ((xB first).z = []) := by cases first <;> rfl
    generalize xA first = x at *
    generalize xB first = y at *
    go_wp2_with fail
    go_loopw [11] (fun i wr => ∃ k : Nat, k ≤ O ∧ i = .int .i64 k ∧ FL w wr gf ga O I x y (FQ first k 0 0)) (fun i _ => O - (intOf i).toNat)
    case atStart => exact ⟨0, by omega, rfl, hcut⟩
    case round =>
      obtain ⟨k, hk, rfl, hL⟩ := hrel
      have c5 := hL.c5
      by_cases hlt : k < O
      · go_upto_region 11 with fail
        refine wp_region_orders 17 rfl (by kernel_rfl) ?_
        replace hL := hL.below ((Below.refl wr.heap.size wr).drew)
        clear c5
        generalize wr.drew = wd at *
        obtain ⟨a0, a1, a2, a3, a4, a5, a6, a7, a8, af, al⟩ := id hL.pa
        refine any_take 0 (.pointer (some ⟨gf, 0, none⟩)) rfl (by kernel_rfl) (by kernel_rfl) (by kernel_rfl) (fun _ _ _ h => h) (by kernel_rfl) (fun w => by go_simp) ?_
        simp only [Act.put, List.setIfInBounds_toArray, List.set_cons_zero, List.set_cons_succ]
        refine any_list 1 (by kernel_rfl) rfl ?_
        go_wp2
        refine then_n ?_
        refine any_list 2 (by kernel_rfl) rfl ?_
        go_wp2_with (go_at_call 12; refine (send_on hL.on x none 0 0 (by rw [HZA.out]; exact sl_nil _) (by rw [HZA.out]; intro y hy; cases hy) (HSEND.out k hlt)).mono ?_; rintro e w2 ⟨rfl, ho2, hk2⟩)
        refine then_n ?_
        replace hL := hL.step ho2 hk2
        clear a0 a1 a2 a3 a4 a5 a6 a7 a8 af al ho2 hk2
        obtain ⟨a0, a1, a2, a3, a4, a5, a6, a7, a8, af, al⟩ := id hL.pa
        have c5 := hL.c5
        have lt := Nat.lt_trans hL.lt al
        have HR : Hid ((O : Int) - ((FQ first (k + 1) 0 0 (pr (2 * 0 + laneS (!first)))).length : Int) = (O : Int) - 1 - k) := by show _ = _; rw [(FQ_room first (k + 1) 0 0).1]; omega
        have uc := @Up.cell2
        have uf := @Up.frozen2
        refine any_take 3 (.bool false) rfl (by kernel_rfl) (by kernel_rfl) (by kernel_rfl) (fun _ _ _ h => h) (by kernel_rfl) (fun w => by go_simp) ?_
        simp only [Act.put, List.setIfInBounds_toArray, List.set_cons_zero, List.set_cons_succ]
        refine any_take 4 (.bool false) rfl (by kernel_rfl) (by kernel_rfl) (by kernel_rfl) (fun _ _ _ h => h) (by kernel_rfl) (fun w => by go_simp) ?_
        simp only [Act.put, List.setIfInBounds_toArray, List.set_cons_zero, List.set_cons_succ]
        refine any_take 5 (.pointer (some ⟨gf, 0, none⟩)) rfl (by kernel_rfl) (by kernel_rfl) (by kernel_rfl) (fun _ _ _ h => h) (by kernel_rfl) (fun w => by go_simp) ?_
        simp only [Act.put, List.setIfInBounds_toArray, List.set_cons_zero, List.set_cons_succ]
        refine any_take 6 (.pointer (some ⟨ga, 0, none⟩)) rfl (by kernel_rfl) (by kernel_rfl) (by kernel_rfl) (fun _ _ _ h => h) (by kernel_rfl) (fun w => by go_simp) ?_
        simp only [Act.put, List.setIfInBounds_toArray, List.set_cons_zero, List.set_cons_succ]
        refine any_take 10 (.pointer (some ⟨w.heap.size, 5, none⟩)) rfl (by kernel_rfl) (by kernel_rfl) (by kernel_rfl) (fun _ _ _ h => h) (by kernel_rfl) (fun w => by go_simp) ?_
        simp only [Act.put, List.setIfInBounds_toArray, List.set_cons_zero, List.set_cons_succ]
        refine any_take 13 (.int .i64 (k : Int)) rfl (by kernel_rfl) (by kernel_rfl) (by kernel_rfl) (fun _ _ _ h => h) (by kernel_rfl) (fun w => by go_simp) ?_
        simp only [Act.put, List.setIfInBounds_toArray, List.set_cons_zero, List.set_cons_succ]
        refine any_mildx [] ?_
        refine mildx_take (v := ?v1) 7 rfl (by kernel_rfl) (by kernel_rfl) (by kernel_rfl) (by kernel_rfl) (fun _ _ _ h => h) (by kernel_rfl) (fun Wu K hK => ?hy1) ?go1
        case hy1 =>
          go_big_quiet_op
          simp only [Act.put, List.setIfInBounds_toArray, List.set_cons_zero, List.set_cons_succ] at hK
          exact hK
        simp only [Act.put, List.setIfInBounds_toArray, List.set_cons_zero, List.set_cons_succ]
        refine mildx_take (v := ?v2) 8 rfl (by kernel_rfl) (by kernel_rfl) (by kernel_rfl) (by kernel_rfl) (fun _ _ _ h => h) (by kernel_rfl) (fun Wu K hK => ?hy2) ?go2
        case hy2 =>
          go_big_quiet_op
          simp only [Act.put, List.setIfInBounds_toArray, List.set_cons_zero, List.set_cons_succ] at hK
          exact hK
        simp only [Act.put, List.setIfInBounds_toArray, List.set_cons_zero, List.set_cons_succ]
        refine mildx_take (v := ?v3) 11 rfl (by kernel_rfl) (by kernel_rfl) (by kernel_rfl) (by kernel_rfl) (fun _ _ _ h => h) (by kernel_rfl) (fun Wu K hK => ?hy3) ?go3
        case hy3 =>
          go_big_quiet_op
          simp only [Act.put, List.setIfInBounds_toArray, List.set_cons_zero, List.set_cons_succ] at hK
          exact hK
        simp only [Act.put, List.setIfInBounds_toArray, List.set_cons_zero, List.set_cons_succ]
        refine mildx_take (v := ?v4) 12 rfl (by kernel_rfl) (by kernel_rfl) (by kernel_rfl) (by kernel_rfl) (fun _ _ _ h => h) (by kernel_rfl) (fun Wu K hK => ?hy4) ?go4
        case hy4 =>
          go_big_quiet_op
          simp only [Act.put, List.setIfInBounds_toArray, List.set_cons_zero, List.set_cons_succ] at hK
          exact hK
        simp only [Act.put, List.setIfInBounds_toArray, List.set_cons_zero, List.set_cons_succ]
        refine mildx_take (v := ?v5) 14 rfl (by kernel_rfl) (by kernel_rfl) (by kernel_rfl) (by kernel_rfl) (fun _ _ _ h => h) (by kernel_rfl) (fun Wu K hK => ?hy5) ?go5
        case hy5 =>
          go_big_quiet_op
          simp only [Act.put, List.setIfInBounds_toArray, List.set_cons_zero, List.set_cons_succ] at hK
          exact hK
        simp only [Act.put, List.setIfInBounds_toArray, List.set_cons_zero, List.set_cons_succ]
        refine mildx_take (v := ?v6) 9 rfl (by kernel_rfl) (by kernel_rfl) (by kernel_rfl) (by kernel_rfl) (fun _ _ _ h => h) (by kernel_rfl) (fun Wu K hK => ?hy6) ?go6
        case hy6 =>
          go_big_quiet_op
          simp only [Act.put, List.setIfInBounds_toArray, List.set_cons_zero, List.set_cons_succ] at hK
          refine ⟨_, fun u => Calls.up_of (room_on ((hL.on.below Wu.2).below u.2) 0 (by omega) _ rfl (!first) _ HR.out), ?_⟩
          exact hK
        simp only [Act.put, List.setIfInBounds_toArray, List.set_cons_zero, List.set_cons_succ]
        refine mildx_take (v := ?v7) 15 rfl (by kernel_rfl) (by kernel_rfl) (by kernel_rfl) (by kernel_rfl) (fun _ _ _ h => h) (by kernel_rfl) (fun Wu K hK => ?hy7) ?go7
        case hy7 =>
          go_big_quiet_op
          simp only [Act.put, List.setIfInBounds_toArray, List.set_cons_zero, List.set_cons_succ] at hK
          exact hK
        simp only [Act.put, List.setIfInBounds_toArray, List.set_cons_zero, List.set_cons_succ]
        refine mildx_take (v := ?v8) 16 rfl (by kernel_rfl) (by kernel_rfl) (by kernel_rfl) (by kernel_rfl) (fun _ _ _ h => h) (by kernel_rfl) (fun Wu K hK => ?hy8) ?go8
        case hy8 =>
          go_big_quiet_op
          simp only [Act.put, List.setIfInBounds_toArray, List.set_cons_zero, List.set_cons_succ] at hK
          exact hK
        simp only [Act.put, List.setIfInBounds_toArray, List.set_cons_zero, List.set_cons_succ]
        refine mildx_done (by kernel_rfl) (fun W => ?_)
        clear uc uf a0 a1 a2 a3 a4 a5 a6 a7 a8 af al c5 lt
        replace hL := hL.below W.2
        generalize W.1 = w3 at *
        go_wp2
        go_roundw
        case rel => exact ⟨k + 1, by omega, by go_num, hL⟩
        case measure => simp [intOf]; omega
      · obtain rfl : k = O := by omega
        obtain ⟨a0, a1, a2, a3, a4, a5, a6, a7, a8, af, al⟩ := id hL.pa
        obtain ⟨b0, b1, b2, b3, b4, b5, b6, b7, b8, bf, bl⟩ := id hL.pb
        go_upto_region 13 with fail
        refine wp_region_orders 17 rfl (by kernel_rfl) ?_
        replace hL := hL.below ((Below.refl wr.heap.size wr).drew)
        clear c5 a0 a1 a2 a3 a4 a5 a6 a7 a8 af al b0 b1 b2 b3 b4 b5 b6 b7 b8 bf bl hcut HSEND
        generalize wr.drew = wd at *
        obtain ⟨a0, a1, a2, a3, a4, a5, a6, a7, a8, af, al⟩ := id hL.pa
        refine any_take 0 (.pointer (some ⟨gf, 0, none⟩)) rfl (by kernel_rfl) (by kernel_rfl) (by kernel_rfl) (fun _ _ _ h => h) (by kernel_rfl) (fun w => by go_simp) ?_
        simp only [Act.put, List.setIfInBounds_toArray, List.set_cons_zero, List.set_cons_succ]
        refine any_list 1 (by kernel_rfl) rfl ?_
        go_wp2
        refine then_n ?_
        refine any_list 2 (by kernel_rfl) rfl ?_
        go_wp2_with (go_at_call 12; refine (send_on hL.on x none 0 0 (by rw [HZA.out]; exact sl_nil _) (by rw [HZA.out]; intro y hy; cases hy) HFULL.out).mono ?_; rintro e w2 ⟨rfl, ho2, hk2⟩)
        refine then_n ?_
        replace hL := hL.step ho2 hk2
        clear a0 a1 a2 a3 a4 a5 a6 a7 a8 af al ho2 hk2
        obtain ⟨b0, b1, b2, b3, b4, b5, b6, b7, b8, bf, bl⟩ := id hL.pb
        refine any_take 3 (.bool false) rfl (by kernel_rfl) (by kernel_rfl) (by kernel_rfl) (fun _ _ _ h => h) (by kernel_rfl) (fun w => by go_simp) ?_
        simp only [Act.put, List.setIfInBounds_toArray, List.set_cons_zero, List.set_cons_succ]
        refine any_take 4 (.bool false) rfl (by kernel_rfl) (by kernel_rfl) (by kernel_rfl) (fun _ _ _ h => h) (by kernel_rfl) (fun w => by go_simp) ?_
        simp only [Act.put, List.setIfInBounds_toArray, List.set_cons_zero, List.set_cons_succ]
        refine any_take 5 (.pointer (some ⟨gf, 0, none⟩)) rfl (by kernel_rfl) (by kernel_rfl) (by kernel_rfl) (fun _ _ _ h => h) (by kernel_rfl) (fun w => by go_simp) ?_
        simp only [Act.put, List.setIfInBounds_toArray, List.set_cons_zero, List.set_cons_succ]
        refine any_list 6 (by kernel_rfl) rfl ?_
        go_wp2
        refine then_n ?_
        refine any_list 7 (by kernel_rfl) rfl ?_
        go_wp2_with (go_at_call 12; refine (send_on hL.on y none 0 0 (by rw [HZB.out]; exact sl_nil _) (by rw [HZB.out]; intro y hy; cases hy) HOTHER.out).mono ?_; rintro e w3 ⟨rfl, ho3, hk3⟩)
        refine then_n ?_
        replace hL := hL.step ho3 hk3
        clear b0 b1 b2 b3 b4 b5 b6 b7 b8 bf bl ho3 hk3
        have c5 := hL.c5
        have lt := Nat.lt_trans hL.lt hL.pa.lt
        have HR : Hid ((k : Int) - ((FQ first k 1 0 (pr (2 * 1 + laneS true))).length : Int) = (k : Int)) := by show _ = _; rw [(FQ_room first k 1 0).2]; omega
        have uc := @Up.cell2
        have uf := @Up.frozen2
        refine any_take 8 (.bool false) rfl (by kernel_rfl) (by kernel_rfl) (by kernel_rfl) (fun _ _ _ h => h) (by kernel_rfl) (fun w => by go_simp) ?_
        simp only [Act.put, List.setIfInBounds_toArray, List.set_cons_zero, List.set_cons_succ]
        refine any_take 9 (.bool false) rfl (by kernel_rfl) (by kernel_rfl) (by kernel_rfl) (fun _ _ _ h => h) (by kernel_rfl) (fun w => by go_simp) ?_
        simp only [Act.put, List.setIfInBounds_toArray, List.set_cons_zero, List.set_cons_succ]
        refine any_take 10 (.bool false) rfl (by kernel_rfl) (by kernel_rfl) (by kernel_rfl) (fun _ _ _ h => h) (by kernel_rfl) (fun w => by go_simp) ?_
        simp only [Act.put, List.setIfInBounds_toArray, List.set_cons_zero, List.set_cons_succ]
        refine any_take 11 (.pointer (some ⟨gf, 0, none⟩)) rfl (by kernel_rfl) (by kernel_rfl) (by kernel_rfl) (fun _ _ _ h => h) (by kernel_rfl) (fun w => by go_simp) ?_
        simp only [Act.put, List.setIfInBounds_toArray, List.set_cons_zero, List.set_cons_succ]
        refine any_take 13 (.pointer (some ⟨w.heap.size, 5, none⟩)) rfl (by kernel_rfl) (by kernel_rfl) (by kernel_rfl) (fun _ _ _ h => h) (by kernel_rfl) (fun w => by go_simp) ?_
        simp only [Act.put, List.setIfInBounds_toArray, List.set_cons_zero, List.set_cons_succ]
        refine any_mildx [] ?_
        refine mildx_take (v := ?v9) 14 rfl (by kernel_rfl) (by kernel_rfl) (by kernel_rfl) (by kernel_rfl) (fun _ _ _ h => h) (by kernel_rfl) (fun Wu K hK => ?hy9) ?go9
        case hy9 =>
          go_big_quiet_op
          simp only [Act.put, List.setIfInBounds_toArray, List.set_cons_zero, List.set_cons_succ] at hK
          exact hK
        simp only [Act.put, List.setIfInBounds_toArray, List.set_cons_zero, List.set_cons_succ]
        refine mildx_take (v := ?v10) 12 rfl (by kernel_rfl) (by kernel_rfl) (by kernel_rfl) (by kernel_rfl) (fun _ _ _ h => h) (by kernel_rfl) (fun Wu K hK => ?hy10) ?go10
        case hy10 =>
          go_big_quiet_op
          simp only [Act.put, List.setIfInBounds_toArray, List.set_cons_zero, List.set_cons_succ] at hK
          refine ⟨_, fun u => Calls.up_of (room_on ((hL.on.below Wu.2).below u.2) 1 (by omega) _ rfl true _ HR.out), ?_⟩
          exact hK
        simp only [Act.put, List.setIfInBounds_toArray, List.set_cons_zero, List.set_cons_succ]
        refine mildx_take (v := ?v11) 15 rfl (by kernel_rfl) (by kernel_rfl) (by kernel_rfl) (by kernel_rfl) (fun _ _ _ h => h) (by kernel_rfl) (fun Wu K hK => ?hy11) ?go11
        case hy11 =>
          go_big_quiet_op
          simp only [Act.put, List.setIfInBounds_toArray, List.set_cons_zero, List.set_cons_succ] at hK
          exact hK
        simp only [Act.put, List.setIfInBounds_toArray, List.set_cons_zero, List.set_cons_succ]
        refine mildx_take (v := ?v12) 16 rfl (by kernel_rfl) (by kernel_rfl) (by kernel_rfl) (by kernel_rfl) (fun _ _ _ h => h) (by kernel_rfl) (fun Wu K hK => ?hy12) ?go12
        case hy12 =>
          go_big_quiet_op
          simp only [Act.put, List.setIfInBounds_toArray, List.set_cons_zero, List.set_cons_succ] at hK
          exact hK
        simp only [Act.put, List.setIfInBounds_toArray, List.set_cons_zero, List.set_cons_succ]
        refine mildx_done (by kernel_rfl) (fun W => ?_)
        clear uc uf c5 lt HR
        replace hL := hL.below W.2
        generalize W.1 = w4 at *
        obtain ⟨c5, c6⟩ : w4.cell? ⟨w.heap.size, 5, none⟩ = some (.int .i64 (k : Int)) ∧ w4.cell? ⟨w.heap.size, 6, none⟩ = some (.int .i64 (I : Int)) := ⟨hL.c5, hL.c6⟩
        go_upto_if 74 with fail
        go_cut [12, 13] (fun r a wx => r = .int .i64 ((roomQ first I : Nat) : Int) ∧ a = .int .i64 (atQ first) ∧ w4 = wx)
        case first =>
          cases first
          · go_wp2
            go_meet
            case rel => exact ⟨rfl, rfl, rfl⟩
          · go_wp2
            go_meet
            case rel => exact ⟨rfl, rfl, rfl⟩
        case rest =>
          obtain ⟨rfl, rfl, rfl⟩ := hcut
          have HDEL : Hid (∀ n c, c < roomQ first I → DelTo 2 k I (FQ first (n + 1) 1 c) (atQ first) 0 0 0 (FQ first n 1 (c + 1))) := fun n c h => FQ_del h
          have HSTAY : Hid (∀ n, DelTo 2 k I (FQ first (n + 1) 1 (roomQ first I)) (atQ first) 0 0 5 (FQ first (n + 1) 1 (roomQ first I))) := fun n => FQ_stay
          have hR0 : 1 ≤ roomQ first I := by cases first <;> simp [roomQ]; omega
          have hR1 : roomQ first I ≤ 6 := by cases first <;> simp [roomQ]; omega
          have HA63 : Hid (atQ first < 9223372036854775808) := by show _ < _; cases first <;> decide
          generalize roomQ first I = R at *
          generalize atQ first = A at *
          clear HFULL HOTHER
          go_wp2_with fail
          go_loopw [14, 15] (fun i _v wr => ∃ j : Nat, j ≤ k ∧ i = .int .i64 j ∧ FL w wr gf ga k I x y (FQ first (k - min j R) 1 (min j R))) (fun i _ _ => k - (intOf i).toNat)
          case atStart => exact ⟨0, by omega, rfl, by simpa using hL⟩
          case round =>
            obtain ⟨j, hj, rfl, hM⟩ := hrel
            have d5 := hM.c5
            have ltm := Nat.lt_trans hM.lt hM.pa.lt
            by_cases hlt : j < k
            · by_cases hr : j < R
              · have HD : Hid (DelTo 2 k I (FQ first (k - min j R) 1 (min j R)) A 0 0 0 (FQ first (k - min (j + 1) R) 1 (min (j + 1) R))) := by
                  have := HDEL.out (k - j - 1) j hr
                  rw [show k - j - 1 + 1 = k - j by omega] at this
                  show DelTo _ _ _ _ _ _ _ _ _
                  rw [Nat.min_eq_left (by omega), Nat.min_eq_left (by omega), show k - (j + 1) = k - j - 1 by omega]
                  exact this
                go_wp2_with (go_at_call 13; refine (deliver_on hM.on A 0 0 HA63.out (by decide) (by decide) HD.out).mono ?_; rintro e w5 ⟨rfl, ho5, hk5⟩)
                go_roundw
                case rel => exact ⟨j + 1, by omega, by go_num, hM.step ho5 hk5⟩
                case measure => simp [intOf]; omega
              · have HD : Hid (DelTo 2 k I (FQ first (k - min j R) 1 (min j R)) A 0 0 5 (FQ first (k - min (j + 1) R) 1 (min (j + 1) R))) := by
                  have := HSTAY.out (k - R - 1)
                  rw [show k - R - 1 + 1 = k - R by omega] at this
                  show DelTo _ _ _ _ _ _ _ _ _
                  rw [Nat.min_eq_right (by omega), Nat.min_eq_right (by omega)]
                  exact this
                go_wp2_with (go_at_call 13; refine (deliver_on hM.on A 0 0 HA63.out (by decide) (by decide) HD.out).mono ?_; rintro e w5 ⟨rfl, ho5, hk5⟩)
                go_roundw
                case rel => exact ⟨j + 1, by omega, by go_num, hM.step ho5 hk5⟩
                case measure => simp [intOf]; omega
            · obtain rfl : j = k := by omega
              by_cases hjr : (j : Int) - (R : Int) < 0
              · have HU : Hid (((laneL (FQ first (j - min j R) 1 (min j R)) (2 * 2)).length : Int) = 1) := by show _ = _; rw [FQ_under]; omega
                clear c5 c6 hL HDEL HSTAY HA63 hkA HZA HZB
                go_upto_region 26 with fail
                have uc := @Up.cell
                have uf := @Up.frozen
                refine wp_region_up (by kernel_rfl) (by kernel_rfl) ?_
                repeat (go_big_quiet_step ((first
                  | (go_at_call 14; exact Calls.up_of (under_on (hM.on.below (Subtype.property _)) _ HU.out))
                  | (go_at_call 12; first
                     | with_reducible exact Calls.up_of (send_lock2 (hM.on.below (Subtype.property _)))
                     | with_reducible exact Calls.up_of (send_zero (hM.on.below (Subtype.property _))))
                  | (go_at_call 19; exact Calls.up_of (fwakes_any _)))))
                refine wpQuiet_nil ?_
                rintro _ ⟨u, rfl⟩
                clear uc uf
                go_wp2
                go_ret
                exact ⟨rfl, next hM.on.bel u.2⟩
              · have HU : Hid (((laneL (FQ first (j - min j R) 1 (min j R)) (2 * 2)).length : Int) = 1 + ((j : Int) - (R : Int))) := by show _ = _; rw [FQ_under]; omega
                clear c5 c6 hL HDEL HSTAY HA63 hkA HZA HZB
                go_upto_region 26 with fail
                have uc := @Up.cell
                have uf := @Up.frozen
                refine wp_region_up (by kernel_rfl) (by kernel_rfl) ?_
                repeat (go_big_quiet_step ((first
                  | (go_at_call 14; exact Calls.up_of (under_on (hM.on.below (Subtype.property _)) _ HU.out))
                  | (go_at_call 12; first
                     | with_reducible exact Calls.up_of (send_lock2 (hM.on.below (Subtype.property _)))
                     | with_reducible exact Calls.up_of (send_zero (hM.on.below (Subtype.property _))))
                  | (go_at_call 19; exact Calls.up_of (fwakes_any _)))))
                refine wpQuiet_nil ?_
                rintro _ ⟨u, rfl⟩
                clear uc uf
                go_wp2
                go_ret
                exact ⟨rfl, next hM.on.bel u.2⟩
end Go.Proofs.Ytjdbjmfkheffdaa
end
