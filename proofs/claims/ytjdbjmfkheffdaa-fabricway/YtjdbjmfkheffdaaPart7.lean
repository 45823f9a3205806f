/- The contract of chapletplay.Packet: a packet by small numbers. Conditions: as stated.
The contract of the document's own Same. Conditions: as stated.
The walk of FabricWay: it answers true and writes nothing that was there. No condition but that the arguments are ones that can come in. -/
import Derived.Test.YtjdbjmfkheffdaaPart3
import Derived.Test.YtjdbjmfkheffdaaPart1
import Derived.Deep.CutBlock
import Derived.Test.YtjdbjmfkheffdaaPart2
import Derived.Test.YtjdbjmfkheffdaaPart6
section
namespace Go.Proofs.Ytjdbjmfkheffdaa
open Go.RowKit
set_option linter.unusedVariables false
set_option maxRecDepth 20000

/-- The packet of small numbers. -/
def playX (x : Pk) : Pk := ⟨1 + x.k % 9, x.f % 4, x.t % 4, x.i % 5, x.l % 4, x.p % 5 - 1, x.s % 3, x.fl, x.z.take 4⟩
theorem play_right (x : Pk) : (playX x).right = true := by
  refine (Pk.right_iff _).2 ⟨?_, ?_, ?_, ?_, ?_, ?_, ?_, ?_⟩ <;> simp only [playX]
  case refine_8 => simp; omega
  all_goals omega
/-- What comes out: a packet, its words of the call's own. -/
def Played (x : Pk) (how : Int) (w : World) (v : Value) (w' : World) : Prop :=
  ∃ (y : Pk) (a : Option Addr) (n cap : Nat), v = y.val (.slice a n cap) ∧ Sl w' a n cap y.z ∧ n ≤ 6 ∧ (how % 40 < 31 → y.right = true) ∧ (R64 x.z → R64 y.z) ∧ (∀ ad : Addr, a = some ad → w.heap.size ≤ ad.block ∧ ad.block < w'.heap.size) ∧ Below w.heap.size w w'
/-- Behind the first statement. -/
structure PL (w wx : World) (x : Pk) (a : Option Addr) (len cap g : Nat) (a1 : Option Addr) (n cap1 : Nat) : Prop where
  bp : Bx wx w.heap.size x (.slice a len cap)
  br : Bx wx (w.heap.size + 1) zeroPk (.slice none 0 0)
  bq : Bx wx g (playX x) (.slice a1 n cap1)
  gl : w.heap.size + 2 ≤ g
  sl : Sl wx a1 n cap1 (x.z.take 4)
  far : ∀ ad : Addr, a1 = some ad → ad.block ≠ g ∧ w.heap.size + 2 ≤ ad.block ∧ ad.block < wx.heap.size
  bl : Below w.heap.size w wx

def nine (W : World) (g : Nat) (y : Pk) (v : Value) : World := (((((((((W.setCell ⟨g, 0, none⟩ (.int .i64 y.k)).setCell ⟨g, 1, none⟩ (.int .i64 y.f)).setCell ⟨g, 2, none⟩ (.int .i64 y.t)).setCell ⟨g, 3, none⟩ (.int .i64 y.i)).setCell ⟨g, 4, none⟩ (.int .i64 y.l)).setCell ⟨g, 5, none⟩ (.int .i64 y.p)).setCell ⟨g, 6, none⟩ (.int .i64 y.s)).setCell ⟨g, 7, none⟩ (.bool y.fl)).setCell ⟨g, 8, none⟩ v)
theorem PL.of {w wq wf : World} {x : Pk} {a : Option Addr} {len cap g : Nat} {a1 : Option Addr} {n cap1 : Nat} (bp : Bx wq w.heap.size x (.slice a len cap)) (br : Bx wq (w.heap.size + 1) zeroPk (.slice none 0 0)) (bq : Bx wq g zeroPk (.slice none 0 0))
    (sl : Sl wq a1 n cap1 (x.z.take 4)) (bl : Below w.heap.size w wq) (gl : w.heap.size + 2 ≤ g) (far : ∀ ad : Addr, a1 = some ad → ad.block ≠ g ∧ w.heap.size + 2 ≤ ad.block ∧ ad.block < wq.heap.size)
    (hf : Below (nine wq g (playX x) (.slice a1 n cap1)).heap.size (nine wq g (playX x) (.slice a1 n cap1)) wf) : PL w wf x a len cap g a1 n cap1 := by
  have f1 := far9 (g := g) (y := playX x) (v := .slice a1 n cap1) (P := fun V => Bx V w.heap.size x (.slice a len cap)) (fun V o u h => h.far (by simp only; omega)) bp
  have f2 := far9 (g := g) (y := playX x) (v := .slice a1 n cap1) (P := fun V => Bx V (w.heap.size + 1) zeroPk (.slice none 0 0)) (fun V o u h => h.far (by simp only; omega)) br
  have f3 := far9 (g := g) (y := playX x) (v := .slice a1 n cap1) (P := fun V => Sl V a1 n cap1 (x.z.take 4)) (fun V o u h => h.far (fun ad e => (far ad e).1)) sl
  have f4 := far9 (g := g) (y := playX x) (v := .slice a1 n cap1) (P := fun V => Below w.heap.size w V) (fun V o u h => h.setCell (by simp only; omega) _) bl
  have f5 := bq.put (playX x) (.slice a1 n cap1)
  exact ⟨f1.next hf, f2.next hf, f5.next hf, gl, f3.below hf, fun ad e => ⟨(far ad e).1, (far ad e).2.1, Nat.lt_of_lt_of_le (far ad e).2.2 (by have := hf.size; simpa [nine] using this)⟩, next f4 hf⟩
theorem nine_below {w wq : World} {g b : Nat} {y : Pk} {v : Value} (h : Below b w wq) (hb : b ≤ g) : Below b w (nine wq g y v) := far9 (P := fun V => Below b w V) (fun V o u h => h.setCell hb _) h

set_option maxHeartbeats 4000000 in
set_option maxRecDepth 20000 in
theorem play_any (x : Pk) (how : Int) (a : Option Addr) (len cap : Nat) (w : World) (hsl : Sl w a len cap x.z) :
    Calls Try.prog 10 #[x.val (.slice a len cap), .int .i64 how] w fun e w' => ∃ v, e = .returned v ∧ Played x how w v w' := by
  have k0 : 0 ≤ x.k % 9 ∧ x.k % 9 < 9 := by omega
  have f0 : 0 ≤ x.f % 4 ∧ x.f % 4 < 4 := by omega
  have t0 : 0 ≤ x.t % 4 ∧ x.t % 4 < 4 := by omega
  have i0 : 0 ≤ x.i % 5 ∧ x.i % 5 < 5 := by omega
  have l0 : 0 ≤ x.l % 4 ∧ x.l % 4 < 4 := by omega
  have p0 : 0 ≤ x.p % 5 ∧ x.p % 5 < 5 := by omega
  have s0 : 0 ≤ x.s % 3 ∧ x.s % 3 < 3 := by omega
  obtain ⟨n, hn⟩ : ∃ n, (x.z.take 4).length = n := ⟨_, rfl⟩
  have HN : Hid ((x.z.take 4).length = n) := hn
  have hn4 : n ≤ 4 := by rw [← hn]; simp; omega
  clear hn
  have bp0 := (Bx.made w x (.slice a len cap)).next (ba (o := .cells #[.int .i64 zeroPk.k, .int .i64 zeroPk.f, .int .i64 zeroPk.t, .int .i64 zeroPk.i, .int .i64 zeroPk.l, .int .i64 zeroPk.p, .int .i64 zeroPk.s, .bool zeroPk.fl, .slice none 0 0] 26) (Below.refl _ _))
  have br0 := Bx.made' (w.alloc (.cells #[.int .i64 x.k, .int .i64 x.f, .int .i64 x.t, .int .i64 x.i, .int .i64 x.l, .int .i64 x.p, .int .i64 x.s, .bool x.fl, .slice a len cap] 26)) zeroPk (.slice none 0 0) (w.heap.size + 1) (by simp)
  unfold Pk.val
  go_enter Try.func10, Try.ntmps10
  go_upto_region 1 with fail
  go_cut [5] (fun v wx => ∃ (g : Nat) (a1 : Option Addr) (cap1 : Nat), v = .pointer (some ⟨g, 0, none⟩) ∧ PL w wx x a len cap g a1 n cap1)
  case first =>
    have uc := @Up.cell2
    have uf := @Up.frozen2
    refine wp_region_mild 31 rfl (by kernel_rfl) ?_
    refine mild_take (v := ?v201) 0 rfl (by kernel_rfl) (by kernel_rfl) (by kernel_rfl) (fun _ _ _ h => h) (by kernel_rfl) (fun Wu K hK => ?hy201) ?go201
    case hy201 =>
      go_big_quiet_op
      simp only [Act.put, List.setIfInBounds_toArray, List.set_cons_zero, List.set_cons_succ] at hK
      exact hK
    simp only [Act.put, List.setIfInBounds_toArray, List.set_cons_zero, List.set_cons_succ]
    refine mild_take (v := ?v202) 1 rfl (by kernel_rfl) (by kernel_rfl) (by kernel_rfl) (fun _ _ _ h => h) (by kernel_rfl) (fun Wu K hK => ?hy202) ?go202
    case hy202 =>
      go_big_quiet_op
      simp only [Act.put, List.setIfInBounds_toArray, List.set_cons_zero, List.set_cons_succ] at hK
      exact hK
    simp only [Act.put, List.setIfInBounds_toArray, List.set_cons_zero, List.set_cons_succ]
    refine mild_take (v := ?v203) 2 rfl (by kernel_rfl) (by kernel_rfl) (by kernel_rfl) (fun _ _ _ h => h) (by kernel_rfl) (fun Wu K hK => ?hy203) ?go203
    case hy203 =>
      go_big_quiet_op
      simp only [Act.put, List.setIfInBounds_toArray, List.set_cons_zero, List.set_cons_succ] at hK
      refine ⟨_, fun u => Calls.up_same (within_any _ _ _ (by omega) (by omega)), ?_⟩
      exact hK
    simp only [Act.put, List.setIfInBounds_toArray, List.set_cons_zero, List.set_cons_succ]
    refine mild_take (v := ?v204) 3 rfl (by kernel_rfl) (by kernel_rfl) (by kernel_rfl) (fun _ _ _ h => h) (by kernel_rfl) (fun Wu K hK => ?hy204) ?go204
    case hy204 =>
      go_big_quiet_op
      simp only [Act.put, List.setIfInBounds_toArray, List.set_cons_zero, List.set_cons_succ] at hK
      exact hK
    simp only [Act.put, List.setIfInBounds_toArray, List.set_cons_zero, List.set_cons_succ]
    refine mild_take (v := ?v205) 4 rfl (by kernel_rfl) (by kernel_rfl) (by kernel_rfl) (fun _ _ _ h => h) (by kernel_rfl) (fun Wu K hK => ?hy205) ?go205
    case hy205 =>
      go_big_quiet_op
      simp only [Act.put, List.setIfInBounds_toArray, List.set_cons_zero, List.set_cons_succ] at hK
      exact hK
    simp only [Act.put, List.setIfInBounds_toArray, List.set_cons_zero, List.set_cons_succ]
    refine mild_take (v := ?v206) 5 rfl (by kernel_rfl) (by kernel_rfl) (by kernel_rfl) (fun _ _ _ h => h) (by kernel_rfl) (fun Wu K hK => ?hy206) ?go206
    case hy206 =>
      go_big_quiet_op
      simp only [Act.put, List.setIfInBounds_toArray, List.set_cons_zero, List.set_cons_succ] at hK
      exact hK
    simp only [Act.put, List.setIfInBounds_toArray, List.set_cons_zero, List.set_cons_succ]
    refine mild_take (v := ?v207) 6 rfl (by kernel_rfl) (by kernel_rfl) (by kernel_rfl) (fun _ _ _ h => h) (by kernel_rfl) (fun Wu K hK => ?hy207) ?go207
    case hy207 =>
      go_big_quiet_op
      simp only [Act.put, List.setIfInBounds_toArray, List.set_cons_zero, List.set_cons_succ] at hK
      refine ⟨_, fun u => Calls.up_same (within_any _ _ _ (by omega) (by omega)), ?_⟩
      exact hK
    simp only [Act.put, List.setIfInBounds_toArray, List.set_cons_zero, List.set_cons_succ]
    refine mild_take (v := ?v208) 7 rfl (by kernel_rfl) (by kernel_rfl) (by kernel_rfl) (fun _ _ _ h => h) (by kernel_rfl) (fun Wu K hK => ?hy208) ?go208
    case hy208 =>
      go_big_quiet_op
      simp only [Act.put, List.setIfInBounds_toArray, List.set_cons_zero, List.set_cons_succ] at hK
      exact hK
    simp only [Act.put, List.setIfInBounds_toArray, List.set_cons_zero, List.set_cons_succ]
    refine mild_take (v := ?v209) 8 rfl (by kernel_rfl) (by kernel_rfl) (by kernel_rfl) (fun _ _ _ h => h) (by kernel_rfl) (fun Wu K hK => ?hy209) ?go209
    case hy209 =>
      go_big_quiet_op
      simp only [Act.put, List.setIfInBounds_toArray, List.set_cons_zero, List.set_cons_succ] at hK
      exact hK
    simp only [Act.put, List.setIfInBounds_toArray, List.set_cons_zero, List.set_cons_succ]
    refine mild_take (v := ?v210) 9 rfl (by kernel_rfl) (by kernel_rfl) (by kernel_rfl) (fun _ _ _ h => h) (by kernel_rfl) (fun Wu K hK => ?hy210) ?go210
    case hy210 =>
      go_big_quiet_op
      simp only [Act.put, List.setIfInBounds_toArray, List.set_cons_zero, List.set_cons_succ] at hK
      refine ⟨_, fun u => Calls.up_same (within_any _ _ _ (by omega) (by omega)), ?_⟩
      exact hK
    simp only [Act.put, List.setIfInBounds_toArray, List.set_cons_zero, List.set_cons_succ]
    refine mild_take (v := ?v211) 10 rfl (by kernel_rfl) (by kernel_rfl) (by kernel_rfl) (fun _ _ _ h => h) (by kernel_rfl) (fun Wu K hK => ?hy211) ?go211
    case hy211 =>
      go_big_quiet_op
      simp only [Act.put, List.setIfInBounds_toArray, List.set_cons_zero, List.set_cons_succ] at hK
      exact hK
    simp only [Act.put, List.setIfInBounds_toArray, List.set_cons_zero, List.set_cons_succ]
    refine mild_take (v := ?v212) 11 rfl (by kernel_rfl) (by kernel_rfl) (by kernel_rfl) (fun _ _ _ h => h) (by kernel_rfl) (fun Wu K hK => ?hy212) ?go212
    case hy212 =>
      go_big_quiet_op
      simp only [Act.put, List.setIfInBounds_toArray, List.set_cons_zero, List.set_cons_succ] at hK
      exact hK
    simp only [Act.put, List.setIfInBounds_toArray, List.set_cons_zero, List.set_cons_succ]
    refine mild_take (v := ?v213) 12 rfl (by kernel_rfl) (by kernel_rfl) (by kernel_rfl) (fun _ _ _ h => h) (by kernel_rfl) (fun Wu K hK => ?hy213) ?go213
    case hy213 =>
      go_big_quiet_op
      simp only [Act.put, List.setIfInBounds_toArray, List.set_cons_zero, List.set_cons_succ] at hK
      refine ⟨_, fun u => Calls.up_same (within_any _ _ _ (by omega) (by omega)), ?_⟩
      exact hK
    simp only [Act.put, List.setIfInBounds_toArray, List.set_cons_zero, List.set_cons_succ]
    refine mild_take (v := ?v214) 13 rfl (by kernel_rfl) (by kernel_rfl) (by kernel_rfl) (fun _ _ _ h => h) (by kernel_rfl) (fun Wu K hK => ?hy214) ?go214
    case hy214 =>
      go_big_quiet_op
      simp only [Act.put, List.setIfInBounds_toArray, List.set_cons_zero, List.set_cons_succ] at hK
      exact hK
    simp only [Act.put, List.setIfInBounds_toArray, List.set_cons_zero, List.set_cons_succ]
    refine mild_take (v := ?v215) 14 rfl (by kernel_rfl) (by kernel_rfl) (by kernel_rfl) (fun _ _ _ h => h) (by kernel_rfl) (fun Wu K hK => ?hy215) ?go215
    case hy215 =>
      go_big_quiet_op
      simp only [Act.put, List.setIfInBounds_toArray, List.set_cons_zero, List.set_cons_succ] at hK
      exact hK
    simp only [Act.put, List.setIfInBounds_toArray, List.set_cons_zero, List.set_cons_succ]
    refine mild_take (v := ?v216) 15 rfl (by kernel_rfl) (by kernel_rfl) (by kernel_rfl) (fun _ _ _ h => h) (by kernel_rfl) (fun Wu K hK => ?hy216) ?go216
    case hy216 =>
      go_big_quiet_op
      simp only [Act.put, List.setIfInBounds_toArray, List.set_cons_zero, List.set_cons_succ] at hK
      refine ⟨_, fun u => Calls.up_same (within_any _ _ _ (by omega) (by omega)), ?_⟩
      exact hK
    simp only [Act.put, List.setIfInBounds_toArray, List.set_cons_zero, List.set_cons_succ]
    refine mild_take (v := ?v217) 16 rfl (by kernel_rfl) (by kernel_rfl) (by kernel_rfl) (fun _ _ _ h => h) (by kernel_rfl) (fun Wu K hK => ?hy217) ?go217
    case hy217 =>
      go_big_quiet_op
      simp only [Act.put, List.setIfInBounds_toArray, List.set_cons_zero, List.set_cons_succ] at hK
      exact hK
    simp only [Act.put, List.setIfInBounds_toArray, List.set_cons_zero, List.set_cons_succ]
    refine mild_take (v := ?v218) 17 rfl (by kernel_rfl) (by kernel_rfl) (by kernel_rfl) (fun _ _ _ h => h) (by kernel_rfl) (fun Wu K hK => ?hy218) ?go218
    case hy218 =>
      go_big_quiet_op
      simp only [Act.put, List.setIfInBounds_toArray, List.set_cons_zero, List.set_cons_succ] at hK
      exact hK
    simp only [Act.put, List.setIfInBounds_toArray, List.set_cons_zero, List.set_cons_succ]
    refine mild_take (v := ?v219) 18 rfl (by kernel_rfl) (by kernel_rfl) (by kernel_rfl) (fun _ _ _ h => h) (by kernel_rfl) (fun Wu K hK => ?hy219) ?go219
    case hy219 =>
      go_big_quiet_op
      simp only [Act.put, List.setIfInBounds_toArray, List.set_cons_zero, List.set_cons_succ] at hK
      refine ⟨_, fun u => Calls.up_same (within_any _ _ _ (by omega) (by omega)), ?_⟩
      exact hK
    simp only [Act.put, List.setIfInBounds_toArray, List.set_cons_zero, List.set_cons_succ]
    refine mild_take (v := ?v220) 19 rfl (by kernel_rfl) (by kernel_rfl) (by kernel_rfl) (fun _ _ _ h => h) (by kernel_rfl) (fun Wu K hK => ?hy220) ?go220
    case hy220 =>
      go_big_quiet_op
      simp only [Act.put, List.setIfInBounds_toArray, List.set_cons_zero, List.set_cons_succ] at hK
      exact hK
    simp only [Act.put, List.setIfInBounds_toArray, List.set_cons_zero, List.set_cons_succ]
    refine mild_take (v := ?v221) 20 rfl (by kernel_rfl) (by kernel_rfl) (by kernel_rfl) (fun _ _ _ h => h) (by kernel_rfl) (fun Wu K hK => ?hy221) ?go221
    case hy221 =>
      go_big_quiet_op
      simp only [Act.put, List.setIfInBounds_toArray, List.set_cons_zero, List.set_cons_succ] at hK
      exact hK
    simp only [Act.put, List.setIfInBounds_toArray, List.set_cons_zero, List.set_cons_succ]
    refine mild_take (v := ?v222) 21 rfl (by kernel_rfl) (by kernel_rfl) (by kernel_rfl) (fun _ _ _ h => h) (by kernel_rfl) (fun Wu K hK => ?hy222) ?go222
    case hy222 =>
      go_big_quiet_op
      simp only [Act.put, List.setIfInBounds_toArray, List.set_cons_zero, List.set_cons_succ] at hK
      exact hK
    simp only [Act.put, List.setIfInBounds_toArray, List.set_cons_zero, List.set_cons_succ]
    refine mild_take (v := ?v223) 22 rfl (by kernel_rfl) (by kernel_rfl) (by kernel_rfl) (fun _ _ _ h => h) (by kernel_rfl) (fun Wu K hK => ?hy223) ?go223
    case hy223 =>
      go_big_quiet_op
      simp only [Act.put, List.setIfInBounds_toArray, List.set_cons_zero, List.set_cons_succ] at hK
      refine ⟨_, fun u => Calls.up_same (within_any _ _ _ (by omega) (by omega)), ?_⟩
      exact hK
    simp only [Act.put, List.setIfInBounds_toArray, List.set_cons_zero, List.set_cons_succ]
    refine mild_take (v := ?v224) 23 rfl (by kernel_rfl) (by kernel_rfl) (by kernel_rfl) (fun _ _ _ h => h) (by kernel_rfl) (fun Wu K hK => ?hy224) ?go224
    case hy224 =>
      go_big_quiet_op
      simp only [Act.put, List.setIfInBounds_toArray, List.set_cons_zero, List.set_cons_succ] at hK
      exact hK
    simp only [Act.put, List.setIfInBounds_toArray, List.set_cons_zero, List.set_cons_succ]
    refine mild_take (v := ?v225) 24 rfl (by kernel_rfl) (by kernel_rfl) (by kernel_rfl) (fun _ _ _ h => h) (by kernel_rfl) (fun Wu K hK => ?hy225) ?go225
    case hy225 =>
      go_big_quiet_op
      simp only [Act.put, List.setIfInBounds_toArray, List.set_cons_zero, List.set_cons_succ] at hK
      exact hK
    simp only [Act.put, List.setIfInBounds_toArray, List.set_cons_zero, List.set_cons_succ]
    refine mild_take (v := ?v226) 25 rfl (by kernel_rfl) (by kernel_rfl) (by kernel_rfl) (fun _ _ _ h => h) (by kernel_rfl) (fun Wu K hK => ?hy226) ?go226
    case hy226 =>
      go_big_quiet_op
      simp only [Act.put, List.setIfInBounds_toArray, List.set_cons_zero, List.set_cons_succ] at hK
      exact hK
    simp only [Act.put, List.setIfInBounds_toArray, List.set_cons_zero, List.set_cons_succ]
    refine mild_take (v := ?v227) 26 rfl (by kernel_rfl) (by kernel_rfl) (by kernel_rfl) (fun _ _ _ h => h) (by kernel_rfl) (fun Wu K hK => ?hy227) ?go227
    case hy227 =>
      go_big_quiet_op
      simp only [Act.put, List.setIfInBounds_toArray, List.set_cons_zero, List.set_cons_succ] at hK
      exact hK
    simp only [Act.put, List.setIfInBounds_toArray, List.set_cons_zero, List.set_cons_succ]
    intro W
    clear uc uf
    have hz0 : w.heap.size + 2 ≤ W.1.heap.size := by have := W.2.size; simpa using this
    have bpW : Bx W.1 w.heap.size x (.slice a len cap) := bp0.next W.2
    have brW : Bx W.1 (w.heap.size + 1) zeroPk (.slice none 0 0) := br0.next W.2
    have hsW := hsl.below (next (ba (ba (Below.refl _ _))) W.2)
    have BW : Below w.heap.size w W.1 := next (ba (ba (Below.refl _ _))) W.2
    have BW0 := W.2
    clear bp0 br0 hsl
    refine up_two 27 29 (by kernel_rfl) rfl rfl ?_ ?_
    · go_wp2_with (go_at_call 28; refine (cut_any a x.z len cap 4 _ hsW (by omega)).mono ?_; rintro e w1 ⟨v1, rfl, hown1, hb1⟩; obtain ⟨a1, cap1, rfl, hs1⟩ := hown1.sl' HN.out; have lo1 := hown1.lo)
      refine ⟨by exact next BW0 hb1, fun u => ?_⟩
      refine up_raise (by exact next (next BW0 hb1) u.2) ?_
      refine mild_take (v := ?v228) 28 rfl (by kernel_rfl) (by kernel_rfl) (by kernel_rfl) (fun _ _ _ h => h) (by kernel_rfl) (fun Wu K hK => ?hy228) ?go228
      case hy228 =>
        go_big_quiet_op
        simp only [Act.put, List.setIfInBounds_toArray, List.set_cons_zero, List.set_cons_succ] at hK
        exact hK
      simp only [Act.put, List.setIfInBounds_toArray, List.set_cons_zero, List.set_cons_succ]
      intro W2
      have B2 : Below W.1.heap.size W.1 W2.1 := next (next hb1 u.2) W2.2
      have bp2 := bpW.next B2
      have br2 := brW.next B2
      have hs2 := hs1.below (next u.2 W2.2)
      have lo2 : ∀ ad : Addr, a1 = some ad → W.1.heap.size ≤ ad.block ∧ ad.block < W2.1.heap.size := fun ad e => ⟨(lo1 ad e).1, by have := (lo1 ad e).2; have := u.2.size; have := W2.2.size; omega⟩
      have z2 : W.1.heap.size ≤ W2.1.heap.size := B2.size
      have BX := next BW B2
      refine up_list 29 (by kernel_rfl) rfl ?_
      go_wp2
      refine ⟨by exact ba W2.2, fun u3 => ?_⟩
      have bq3 := (Bx.made W2.1 zeroPk (.slice none 0 0)).next (by exact u3.2)
      have B3 : Below W2.1.heap.size W2.1 u3.1 := next (ba (Below.refl _ _)) u3.2
      have bp3 := bp2.next B3
      have br3 := br2.next B3
      have hs3 := hs2.below B3
      have BX3 := next BX B3
      have BU : Below u.1.heap.size u.1 u3.1 := next W2.2 B3
      have hzu : u.1.heap.size ≤ W2.1.heap.size := W2.2.size
      generalize u3.1 = wq at *
      generalize W2.1.heap.size = gq at *
      clear u3 B2 B3 bp2 br2 hs2
      have fq := bq3.fz
      obtain ⟨q0, q1, q2, q3, q4, q5, q6, q7, q8, _, _⟩ := id bq3
      refine up_list 30 (by kernel_rfl) rfl ?_
      go_wp2
      refine ⟨nine_below (y := playX x) BU hzu, fun u4 => ?_⟩
      have PLx : PL w u4.1 x a len cap gq a1 n cap1 := PL.of bp3 br3 bq3 hs3 BX3 (by omega) (fun ad e => by have := lo2 ad e; have := bq3.lt; omega) u4.2
      refine up_done (by kernel_rfl) ?_
      go_wp2
      go_meet
      case rel => exact ⟨gq, a1, cap1, rfl, PLx⟩
    · go_wp2
      refine ⟨by exact ba BW0, fun u => ?_⟩
      have bq1 := (Bx.made W.1 zeroPk (.slice none 0 0)).next (by exact u.2)
      have B1 : Below W.1.heap.size W.1 u.1 := next (ba (Below.refl _ _)) u.2
      have hsu := hsW.below B1
      have hzu : W.1.heap.size < u.1.heap.size := by have := u.2.size; simp at this; omega
      refine up_list 27 (by kernel_rfl) rfl ?_
      go_wp2_with (go_at_call 28; refine (cut_any a x.z len cap 4 _ hsu (by omega)).mono ?_; rintro e w1 ⟨v1, rfl, hown1, hb1⟩; obtain ⟨a1, cap1, rfl, hs1⟩ := hown1.sl' HN.out; have lo1 := hown1.lo)
      refine ⟨by exact next (next BW0 B1) hb1, fun u2 => ?_⟩
      refine up_list 28 (by kernel_rfl) rfl ?_
      go_wp2
      refine ⟨by exact next (next (next BW0 B1) hb1) u2.2, fun u3 => ?_⟩
      have B3 : Below u.1.heap.size u.1 u3.1 := next (next hb1 u2.2) u3.2
      have bq3 := bq1.next B3
      have bp3 := (bpW.next B1).next B3
      have br3 := (brW.next B1).next B3
      have hs3 := hs1.below (next u2.2 u3.2)
      have BX3 := next (next BW B1) B3
      have BU := next (next BW0 B1) B3
      have hzq : w1.heap.size ≤ u3.1.heap.size := by have := u2.2.size; have := u3.2.size; omega
      generalize u3.1 = wq at *
      clear u3 B3
      have fq := bq3.fz
      obtain ⟨q0, q1, q2, q3, q4, q5, q6, q7, q8, _, _⟩ := id bq3
      refine up_list 30 (by kernel_rfl) rfl ?_
      go_wp2
      refine ⟨nine_below (y := playX x) BU (by simpa using hz0), fun u4 => ?_⟩
      have PLx : PL w u4.1 x a len cap W.1.heap.size a1 n cap1 := PL.of bp3 br3 bq3 hs3 BX3 (by omega) (fun ad e => by have := lo1 ad e; have := hzq; omega) u4.2
      refine up_done (by kernel_rfl) ?_
      go_wp2
      go_meet
      case rel => exact ⟨_, a1, cap1, rfl, PLx⟩
  case rest =>
    obtain ⟨g, a1, cap1, rfl, hbp, hbr, hbq, gl, hs, far, BW⟩ := hcut
    clear bp0 br0 k0 f0 t0 i0 l0 p0 s0
    obtain ⟨c, hc, m0, m1⟩ : ∃ c, how % 40 = c ∧ 0 ≤ c ∧ c < 40 := ⟨_, rfl, by omega, by omega⟩
    have HP : Hid (how % 40 = c) := hc
    go_upto_block 0 with (go_at_call 11; refine (within_any _ _ _ (by omega) (by omega)).mono ?_; rintro e w1 ⟨rfl, rfl⟩; rw [hc])
    clear hc
    have r4 : R64 x.z → R64 (x.z.take 4) := fun h => h.take 4
    have hright := play_right x
    go_cut [36] (fun _ wx => ∃ (y : Pk) (a2 : Option Addr) (n2 c2 : Nat), Bx wx g y (.slice a2 n2 c2) ∧ Bx wx (w.heap.size + 1) zeroPk (.slice none 0 0) ∧ Sl wx a2 n2 c2 y.z ∧ (∀ ad : Addr, a2 = some ad → w.heap.size + 2 ≤ ad.block ∧ ad.block < wx.heap.size) ∧ n2 ≤ 6 ∧ (c < 31 → y.right = true) ∧ (R64 x.z → R64 y.z) ∧ Below w.heap.size w wx)
    case first =>
      obtain ⟨s0, s1, s2, s3, s4, s5, s6, s7, s8, sf, slt⟩ := id hbp
      obtain ⟨q0, q1, q2, q3, q4, q5, q6, q7, q8, qf, qlt⟩ := id hbq
      have fr : ∀ (o : Nat) (u : Value), Bx (wc.setCell ⟨g, o, none⟩ u) (w.heap.size + 1) zeroPk (.slice none 0 0) := fun o u => hbr.far (by simp only; omega)
      have f1 : ∀ (o : Nat) (u : Value), Sl (wc.setCell ⟨g, o, none⟩ u) a1 n cap1 (x.z.take 4) := fun o u => hs.far (fun ad e => (far ad e).1)
      have fb : ∀ (o : Nat) (u : Value), Below w.heap.size w (wc.setCell ⟨g, o, none⟩ u) := fun o u => BW.setCell (by simp only; omega) _
      by_cases hlo : c < 31
      · have n31 : (c == 31) = false := by simp; omega
        have n32 : (c == 32) = false := by simp; omega
        have n33 : (c == 33) = false := by simp; omega
        have n34 : (c == 34) = false := by simp; omega
        have n35 : (c == 35) = false := by simp; omega
        have n36 : (c == 36) = false := by simp; omega
        have n37 : (c == 37) = false := by simp; omega
        have n38 : (c == 38) = false := by simp; omega
        have n39 : (c == 39) = false := by simp; omega
        go_wp2
        go_meet
        case rel => exact ⟨playX x, a1, n, cap1, hbq, hbr, hs, fun ad e => (far ad e).2, by omega, fun _ => hright, r4, BW⟩
      · have hh : c = 31 ∨ c = 32 ∨ c = 33 ∨ c = 34 ∨ c = 35 ∨ c = 36 ∨ c = 37 ∨ c = 38 ∨ c = 39 := by omega
        rcases hh with rfl | rfl | rfl | rfl | rfl | rfl | rfl | rfl | rfl
        · go_wp2
          go_meet
          case rel => exact ⟨_, a1, n, cap1, hbq.setK _, fr _ _, f1 _ _, fun ad e => by have := (far ad e).2; simpa using this, by omega, fun h => by omega, r4, fb _ _⟩
        · go_wp2
          go_meet
          case rel => exact ⟨_, a1, n, cap1, hbq.setF _, fr _ _, f1 _ _, fun ad e => by have := (far ad e).2; simpa using this, by omega, fun h => by omega, r4, fb _ _⟩
        · go_wp2
          go_meet
          case rel => exact ⟨_, a1, n, cap1, hbq.setT _, fr _ _, f1 _ _, fun ad e => by have := (far ad e).2; simpa using this, by omega, fun h => by omega, r4, fb _ _⟩
        · go_wp2
          go_meet
          case rel => exact ⟨_, a1, n, cap1, hbq.setI _, fr _ _, f1 _ _, fun ad e => by have := (far ad e).2; simpa using this, by omega, fun h => by omega, r4, fb _ _⟩
        · go_wp2
          go_meet
          case rel => exact ⟨_, a1, n, cap1, hbq.setL _, fr _ _, f1 _ _, fun ad e => by have := (far ad e).2; simpa using this, by omega, fun h => by omega, r4, fb _ _⟩
        · go_wp2
          go_meet
          case rel => exact ⟨_, a1, n, cap1, hbq.setP _, fr _ _, f1 _ _, fun ad e => by have := (far ad e).2; simpa using this, by omega, fun h => by omega, r4, fb _ _⟩
        · go_wp2
          go_meet
          case rel => exact ⟨_, a1, n, cap1, hbq.setS _, fr _ _, f1 _ _, fun ad e => by have := (far ad e).2; simpa using this, by omega, fun h => by omega, r4, fb _ _⟩
        · have hsx := hsl.below BW
          obtain ⟨n6, hn6⟩ : ∃ n6, (x.z.take 6).length = n6 := ⟨_, rfl⟩
          have HN6 : Hid ((x.z.take 6).length = n6) := hn6
          have h6 : n6 ≤ 6 := by rw [← hn6]; simp; omega
          clear hn6
          go_wp2_with (go_at_call 28; refine (cut_any a x.z len cap 6 _ hsx (by omega)).mono ?_; rintro e w2 ⟨v2, rfl, hown2, hb2⟩; obtain ⟨a2, cap2, rfl, hs2⟩ := hown2.sl' HN6.out; have lo2 := hown2.lo; have hbq2 := hbq.next hb2; have hqf := hbq2.fz; have hq8 := hbq2.c8)
          go_meet
          case rel => exact ⟨_, a2, n6, cap2, hbq2.setZ (x.z.take 6) _, (hbr.next hb2).far (by simp only; omega), hs2.far (fun ad e => by have := lo2 ad e; simp only; omega), fun ad e => by have := lo2 ad e; simp only [World.size_setCell]; omega, h6, fun h => by omega, fun h => h.take 6, (next BW hb2).setCell (by simp only; omega) _⟩
        · go_wp2_with (go_at_call 11; refine (within_any _ _ _ (by omega) (by omega)).mono ?_; rintro e w1 ⟨rfl, rfl⟩)
          go_meet
          case rel => exact ⟨_, a1, n, cap1, hbq.setI _, fr _ _, f1 _ _, fun ad e => by have := (far ad e).2; simpa using this, by omega, fun h => by omega, r4, fb _ _⟩
    case rest =>
      obtain ⟨y, a2, n2, c2, by2, br2, hs2, lo2, hn2, hr2, h64, B2⟩ := hcut
      have hi2 : ∀ ad : Addr, a2 = some ad → ad.block < wc.heap.size := fun ad e => (lo2 ad e).2
      obtain ⟨y0, y1, y2, y3, y4, y5, y6, y7, y8, yf, ylt⟩ := by2
      obtain ⟨r0, r1, r2, r3, r4', r5, r6, r7, r8, rf, rlt⟩ := br2
      clear hbp hbr hbq hs BW hsl r4 hright far
      have hne : w.heap.size + 1 ≠ g := by omega
      go_wp2
      refine bodyPost_ret (v := y.val (.slice a2 n2 c2)) (by simp [results, Try.results10, go_sem, *]) rfl ⟨_, rfl, y, a2, n2, c2, rfl, ?_, hn2, fun h => hr2 (by rw [← HP.out]; exact h), h64, ?_, ?_⟩
      · exact far9 (P := fun V => Sl V a2 n2 c2 y.z) (fun V o u h => h.far (fun ad e => by have := lo2 ad e; simp only; omega)) hs2
      · intro ad e
        refine ⟨by have := lo2 ad e; omega, ?_⟩
        have := hi2 ad e
        simpa using this
      · exact far9 (P := fun V => Below w.heap.size w V) (fun V o u h => h.setCell (by simp only; omega) _) B2
end Go.Proofs.Ytjdbjmfkheffdaa
end
section
namespace Go.Proofs.Ytjdbjmfkheffdaa
open Go.RowKit
set_option linter.unusedVariables false
set_option maxRecDepth 20000

theorem sameP_f {x y : Pk} (h : (x.k != y.k) = true ∨ (x.f != y.f) = true ∨ (x.t != y.t) = true ∨ (x.i != y.i) = true ∨ (x.l != y.l) = true ∨ (x.p != y.p) = true ∨ (x.s != y.s) = true ∨ (x.fl != y.fl) = true ∨ ¬ x.z.length = y.z.length) : sameP x y = false :=
  decide_eq_false (fun ⟨h1, h2, h3, h4, h5, h6, h7, h8, h9⟩ => by simp [h1, h2, h3, h4, h5, h6, h7, h8, h9] at h)
theorem sameP_z {x y : Pk} (h1 : (x.k != y.k) = false) (h2 : (x.f != y.f) = false) (h3 : (x.t != y.t) = false) (h4 : (x.i != y.i) = false) (h5 : (x.l != y.l) = false) (h6 : (x.p != y.p) = false) (h7 : (x.s != y.s) = false) (h8 : (x.fl != y.fl) = false) : sameP x y = decide (x.z = y.z) := by
  simp only [bne_eq_false_iff_eq] at h1 h2 h3 h4 h5 h6 h7 h8
  unfold sameP; simp [h1, h2, h3, h4, h5, h6, h7, h8]

set_option maxHeartbeats 8000000 in
theorem refSame_any (x y : Pk) (a b : Option Addr) (n m c d : Nat) (w : World) (hx : Sl w a n c x.z) (hy : Sl w b m d y.z) :
    Calls Try.prog 18 #[x.val (.slice a n c), y.val (.slice b m d)] w fun e w' => e = .returned (.bool (sameP x y)) ∧ Below w.heap.size w w' := by
  have HL1 : Hid (x.z.length = n) := hx.len
  have HL2 : Hid (y.z.length = m) := hy.len
  have hmx := hx.max
  have hmy := hy.max
  have hlx := hx.le
  have hly := hy.le
  unfold maxLen at hmx hmy
  unfold Pk.val
  by_cases h0 : (x.k != y.k) = true
  · have HR : Hid (sameP x y = false) := sameP_f (.inl h0)
    clear hx hy
    skip
    go_enter Try.func18, Try.ntmps18
    go_wp2
    go_ret
    exact ⟨ret_bool HR.out.symm, ba (ba (Below.refl _ _))⟩
  replace h0 : (x.k != y.k) = false := by simpa using h0
  by_cases h1 : (x.f != y.f) = true
  · have HR : Hid (sameP x y = false) := sameP_f (.inr (.inl h1))
    clear hx hy
    skip
    go_enter Try.func18, Try.ntmps18
    go_wp2
    go_ret
    exact ⟨ret_bool HR.out.symm, ba (ba (Below.refl _ _))⟩
  replace h1 : (x.f != y.f) = false := by simpa using h1
  by_cases h2 : (x.t != y.t) = true
  · have HR : Hid (sameP x y = false) := sameP_f (.inr (.inr (.inl h2)))
    clear hx hy
    skip
    go_enter Try.func18, Try.ntmps18
    go_wp2
    go_ret
    exact ⟨ret_bool HR.out.symm, ba (ba (Below.refl _ _))⟩
  replace h2 : (x.t != y.t) = false := by simpa using h2
  by_cases h3 : (x.i != y.i) = true
  · have HR : Hid (sameP x y = false) := sameP_f (.inr (.inr (.inr (.inl h3))))
    clear hx hy
    skip
    go_enter Try.func18, Try.ntmps18
    go_wp2
    go_ret
    exact ⟨ret_bool HR.out.symm, ba (ba (Below.refl _ _))⟩
  replace h3 : (x.i != y.i) = false := by simpa using h3
  by_cases h4 : (x.l != y.l) = true
  · have HR : Hid (sameP x y = false) := sameP_f (.inr (.inr (.inr (.inr (.inl h4)))))
    clear hx hy
    skip
    go_enter Try.func18, Try.ntmps18
    go_wp2
    go_ret
    exact ⟨ret_bool HR.out.symm, ba (ba (Below.refl _ _))⟩
  replace h4 : (x.l != y.l) = false := by simpa using h4
  by_cases h5 : (x.p != y.p) = true
  · have HR : Hid (sameP x y = false) := sameP_f (.inr (.inr (.inr (.inr (.inr (.inl h5))))))
    clear hx hy
    skip
    go_enter Try.func18, Try.ntmps18
    go_wp2
    go_ret
    exact ⟨ret_bool HR.out.symm, ba (ba (Below.refl _ _))⟩
  replace h5 : (x.p != y.p) = false := by simpa using h5
  by_cases h6 : (x.s != y.s) = true
  · have HR : Hid (sameP x y = false) := sameP_f (.inr (.inr (.inr (.inr (.inr (.inr (.inl h6)))))))
    clear hx hy
    skip
    go_enter Try.func18, Try.ntmps18
    go_wp2
    go_ret
    exact ⟨ret_bool HR.out.symm, ba (ba (Below.refl _ _))⟩
  replace h6 : (x.s != y.s) = false := by simpa using h6
  by_cases h7 : (x.fl != y.fl) = true
  · have HR : Hid (sameP x y = false) := sameP_f (.inr (.inr (.inr (.inr (.inr (.inr (.inr (.inl h7))))))))
    clear hx hy
    have h7x : ¬ x.fl = y.fl := by revert h7; cases x.fl <;> cases y.fl <;> simp
    go_enter Try.func18, Try.ntmps18
    go_wp2
    go_ret
    exact ⟨ret_bool HR.out.symm, ba (ba (Below.refl _ _))⟩
  replace h7 : (x.fl != y.fl) = false := by simpa using h7
  have h7x : (x.fl == y.fl) = true := by revert h7; cases x.fl <;> cases y.fl <;> simp
  by_cases h8 : ((n : Int) != (m : Int)) = true
  · have HR : Hid (sameP x y = false) := sameP_f (.inr (.inr (.inr (.inr (.inr (.inr (.inr (.inr ((by have := HL1.out; have := HL2.out; simp at h8; omega))))))))))
    clear hx hy
    skip
    go_enter Try.func18, Try.ntmps18
    go_wp2
    go_ret
    exact ⟨ret_bool HR.out.symm, ba (ba (Below.refl _ _))⟩
  replace h8 : ((n : Int) != (m : Int)) = false := by simpa using h8
  have HR : Hid (sameP x y = decide (x.z = y.z)) := sameP_z h0 h1 h2 h3 h4 h5 h6 h7
  have HNM : Hid (n = m) := by show n = m; simp at h8; omega
  have hx2 := hx.below (ba (o := .cells #[.int .i64 y.k, .int .i64 y.f, .int .i64 y.t, .int .i64 y.i, .int .i64 y.l, .int .i64 y.p, .int .i64 y.s, .bool y.fl, .slice b m d] 26) (ba (o := .cells #[.int .i64 x.k, .int .i64 x.f, .int .i64 x.t, .int .i64 x.i, .int .i64 x.l, .int .i64 x.p, .int .i64 x.s, .bool x.fl, .slice a n c] 26) (Below.refl _ _)))
  have hy2 := hy.below (ba (o := .cells #[.int .i64 y.k, .int .i64 y.f, .int .i64 y.t, .int .i64 y.i, .int .i64 y.l, .int .i64 y.p, .int .i64 y.s, .bool y.fl, .slice b m d] 26) (ba (o := .cells #[.int .i64 x.k, .int .i64 x.f, .int .i64 x.t, .int .i64 x.i, .int .i64 x.l, .int .i64 x.p, .int .i64 x.s, .bool x.fl, .slice a n c] 26) (Below.refl _ _)))
  have bW := (ba (o := .cells #[.int .i64 y.k, .int .i64 y.f, .int .i64 y.t, .int .i64 y.i, .int .i64 y.l, .int .i64 y.p, .int .i64 y.s, .bool y.fl, .slice b m d] 26) (ba (o := .cells #[.int .i64 x.k, .int .i64 x.f, .int .i64 x.t, .int .i64 x.i, .int .i64 x.l, .int .i64 x.p, .int .i64 x.s, .bool x.fl, .slice a n c] 26) (Below.refl w.heap.size w)))
  have cp : ((w.alloc (.cells #[.int .i64 x.k, .int .i64 x.f, .int .i64 x.t, .int .i64 x.i, .int .i64 x.l, .int .i64 x.p, .int .i64 x.s, .bool x.fl, .slice a n c] 26)).alloc (.cells #[.int .i64 y.k, .int .i64 y.f, .int .i64 y.t, .int .i64 y.i, .int .i64 y.l, .int .i64 y.p, .int .i64 y.s, .bool y.fl, .slice b m d] 26)).cell? ⟨w.heap.size, 8, none⟩ = some (.slice a n c) := by simp
  have cq : ((w.alloc (.cells #[.int .i64 x.k, .int .i64 x.f, .int .i64 x.t, .int .i64 x.i, .int .i64 x.l, .int .i64 x.p, .int .i64 x.s, .bool x.fl, .slice a n c] 26)).alloc (.cells #[.int .i64 y.k, .int .i64 y.f, .int .i64 y.t, .int .i64 y.i, .int .i64 y.l, .int .i64 y.p, .int .i64 y.s, .bool y.fl, .slice b m d] 26)).cell? ⟨w.heap.size + 1, 8, none⟩ = some (.slice b m d) := by simp
  clear hx hy
  go_enter Try.func18, Try.ntmps18
  go_wp2
  generalize (w.alloc (.cells #[.int .i64 x.k, .int .i64 x.f, .int .i64 x.t, .int .i64 x.i, .int .i64 x.l, .int .i64 x.p, .int .i64 x.s, .bool x.fl, .slice a n c] 26)).alloc (.cells #[.int .i64 y.k, .int .i64 y.f, .int .i64 y.t, .int .i64 y.i, .int .i64 y.l, .int .i64 y.p, .int .i64 y.s, .bool y.fl, .slice b m d] 26) = W at *
  clear h0 h1 h2 h3 h4 h5 h6 h7 h8 h7x
  go_loopw [72] (fun i wr => ∃ k : Nat, k ≤ n ∧ i = .int .i64 k ∧ x.z.take k = y.z.take k ∧ ∃ j, wr = W.drewN j) (fun i _ => n - (intOf i).toNat)
  case atStart => exact ⟨0, by omega, rfl, rfl, 0, rfl⟩
  case round =>
    obtain ⟨k, hk, rfl, heq, j, rfl⟩ := hrel
    have HE : Hid (x.z.take k = y.z.take k) := heq
    clear heq
    by_cases hlt : k < n
    · have hlt2 : k < m := by have := HNM.out; omega
      obtain ⟨b1, o1, rfl, _, x1⟩ := hx2.at hlt
      obtain ⟨b2, o2, rfl, _, x2⟩ := hy2.at hlt2
      have g1 : k < x.z.length := by have := HL1.out; omega
      have g2 : k < y.z.length := by have := HL2.out; omega
      obtain ⟨e, he1⟩ : ∃ e, e = x.z[k]?.getD 0 := ⟨_, rfl⟩
      obtain ⟨f, hf1⟩ : ∃ f, f = y.z[k]?.getD 0 := ⟨_, rfl⟩
      rw [← he1] at x1
      rw [← hf1] at x2
      have HX : Hid (e = x.z[k]?.getD 0) := he1
      have HY : Hid (f = y.z[k]?.getD 0) := hf1
      clear he1 hf1
      by_cases hxy : e = f
      · have HXY : Hid (e = f) := hxy
        have hx' : (e != f) = false := by simp [hxy]
        clear hxy
        go_wp2_with fail
        go_quiet (fail)
        go_wp2
        go_roundw
        case rel => exact ⟨k + 1, by omega, by go_num, take_same HE.out (by rw [← HX.out, ← HY.out, HXY.out]) g1 g2, _, by first | rfl | exact World.drewN_drewN ..⟩
        case measure => simp [intOf]; omega
      · have HXY : Hid (¬ e = f) := hxy
        have hx' : (e != f) = true := by simpa using hxy
        clear hxy
        go_wp2_with fail
        go_quiet (fail)
        go_wp2
        go_ret
        exact ⟨ret_bool (by rw [HR.out]; exact (decide_eq_false (fun h => HXY.out (by rw [HX.out, HY.out, h]))).symm), by first | exact next bW (below_dn _ _) | exact next bW (next (below_dn _ _) (below_dn _ _))⟩
    · go_wp2
      go_ret
      refine ⟨ret_bool ?_, next bW (below_dn _ _)⟩
      have := HE.out
      rw [List.take_of_length_le (by have := HL1.out; omega), List.take_of_length_le (by have := HL2.out; have := HNM.out; omega)] at this
      rw [HR.out]
      exact (decide_eq_true this).symm
end Go.Proofs.Ytjdbjmfkheffdaa
end
section
namespace Go.Proofs.Ytjdbjmfkheffdaa
open Go.RowKit
set_option linter.unusedVariables false
set_option maxRecDepth 20000

theorem mask_top' {mask : Int} (h0 : 0 ≤ mask) (h1 : mask < 65536) : ∃ k : Int, Hid (bits .or .u16 mask 32768 = k) ∧ Hid (0 ≤ k ∧ k < 65536 ∧ k.toNat.testBit 15 = true) := by
  obtain ⟨k, e, h⟩ := mask_top h0 h1
  exact ⟨k, e, h⟩
theorem way_spoilt {y : Pk} {bt mk : Int} (hb0 : 0 ≤ bt) (hb1 : bt < 90) (h : 0 ≤ mk ∧ mk < 65536 ∧ mk.toNat.testBit 15 = true) : wireB y bt mk = false := by
  refine wire_hit (k := bt.toNat) h.1 h.2.1 (by omega) ?_
  unfold B.hit B.mdig
  rw [decide_eq_true (by omega), show ((bt.toNat : Int) - bt).toNat = 0 by omega]
  simpa using h.2.2
/-- What the walk of FabricWay keeps: its packet, the network. -/
structure WL (w V : World) (gf gp N O I : Nat) (y : Pk) (ya : Option Addr) (yn yc : Nat) (F : Nat → List Pk) : Prop where
  pk : Bx V gp y (.slice ya yn yc)
  sl : Sl V ya yn yc y.z
  on : On w V gf N O I F (fun k => k = gp ∨ ∃ ad : Addr, ya = some ad ∧ ad.block = k)
theorem WL.below {w V V' : World} {gf gp N O I : Nat} {y : Pk} {ya : Option Addr} {yn yc : Nat} {F : Nat → List Pk} (h : WL w V gf gp N O I y ya yn yc F) (hb : Below V.heap.size V V') : WL w V' gf gp N O I y ya yn yc F :=
  ⟨h.pk.next hb, h.sl.below hb, h.on.below hb⟩
theorem WL.step {w V V' : World} {gf gp N O I : Nat} {y : Pk} {ya : Option Addr} {yn yc : Nat} {F F' : Nat → List Pk} (h : WL w V gf gp N O I y ya yn yc F) (ho : On w V' gf N O I F' (fun k => k = gp ∨ ∃ ad : Addr, ya = some ad ∧ ad.block = k)) (hk : Keep (fun k => ¬ (k = gp ∨ ∃ ad : Addr, ya = some ad ∧ ad.block = k)) V V') : WL w V' gf gp N O I y ya yn yc F' :=
  ⟨h.pk.keep hk (fun h => h (.inl rfl)), h.sl.keep hk (fun _ ad e h => h (.inr ⟨ad, e, rfl⟩)), ho⟩
theorem good_in {N : Nat} {y : Pk} (hr : y.right = true) (hz : R64 y.z) (n0 : 1 ≤ N) (n1 : N ≤ 4) : Good N { y with f := y.f % (N : Int), t := y.t % (N : Int) } := by
  have h := (Pk.right_iff y).1 hr
  have f0 := Int.emod_nonneg y.f (b := (N : Int)) (by omega)
  have f1 := Int.emod_lt_of_pos y.f (b := (N : Int)) (by omega)
  have t0 := Int.emod_nonneg y.t (b := (N : Int)) (by omega)
  have t1 := Int.emod_lt_of_pos y.t (b := (N : Int)) (by omega)
  exact ⟨(Pk.right_iff _).2 ⟨h.k, ⟨f0, by simp only; omega⟩, ⟨t0, by simp only; omega⟩, h.i, h.l, h.p, h.s, h.z⟩, f1, t1, hz⟩
set_option maxHeartbeats 800000 in
theorem fabricWay_walk (vs : Value) (w : World) (hs : IsSetup w vs) (vp : Value) (hp : IsPk w vp) (a : Option Addr) (n cap : Nat) (z : List Int) (hsl : Sl w a n cap z) (mask : Int) (hm : 0 ≤ mask ∧ mask < 65536) :
    Calls Try.prog 3 #[vs, vp, .slice a n cap, .int .u16 mask] w fun e w' => e = .returned (.bool true) ∧ Below w.heap.size w w' := by
  obtain ⟨sn, sl, sk, ss, sy, so, si, a0, n0, c0, z0, a1, n1, c1, z1, a2, n2, c2, z2, a3, n3, c3, z3, a4, n4, c4, z4, rfl, hz0, _⟩ := hs
  obtain ⟨x, xa, xn, xc, rfl, hx, hx64⟩ := hp
  obtain ⟨mk, HMK, HMT⟩ := mask_top' hm.1 hm.2
  unfold Pk.val
  go_enter Try.func3, Try.ntmps3
  go_upto_region 6 with (first
    | (go_at_call 8; refine (config_c sn sl sk ss sy so si a0 n0 c0 _ _ _ _ z0 _ (hz0.below (ba (ba (Below.refl _ _))))).mono ?_; rintro e w1 ⟨N, L, K, S, Y, O, I, zi, av, nv, cv, rfl, hC, hnv, hown, hb1⟩; unfold cfg; have bd := hC.bd; clear hC)
    | (go_at_call 9; refine (new_on (w := w) (X := fun k => k = w.heap.size + 1 ∨ k = w1.heap.size) (by exact next (next (ba (ba (Below.refl _ _))) hb1) (ba (Below.refl _ _))) (fun k h => by have h1 := hb1.size; simp at h1 ⊢; omega) N L K S Y O I (.slice av nv cv) rfl bd.N0 (by have := bd.N1; omega) bd.O0 (by have := bd.O1; omega) bd.I0 (by have := bd.I1; omega)).mono ?_; rintro e w2 ⟨gf, rfl, hf0, hb2⟩; have bxx := (Bx.made1 w (.cells #[.int .i64 sn, .int .i64 sl, .int .i64 sk, .int .i64 ss, .int .i64 sy, .int .i64 so, .int .i64 si, .slice a0 n0 c0, .slice a1 n1 c1, .slice a2 n2 c2, .slice a3 n3 c3, .slice a4 n4 c4] 24) x (.slice xa xn xc)).next (next hb1 (next (ba (Below.refl _ _)) hb2)); have cb := (CB.made w1 N L K S Y O I (.slice av nv cv)).below hb2; obtain ⟨x0, x1, x2, x3, x4, x5, x6, x7, x8, xf, xl⟩ := bxx)
    | (go_at_call 10; refine (play_any x 0 xa xn xc _ (hx.below (by exact hf0.bel))).mono ?_; rintro e w3 ⟨v3, rfl, y, ya, yn, yc, rfl, hys, hyn, hyr, hyR, ylo, hb3⟩; unfold Pk.val))
  have hG := good_in (N := N) (hyr (by decide)) (hyR hx64) bd.N0 bd.N1
  have HNB : Hid (1 ≤ N ∧ N ≤ 4 ∧ 1 ≤ O ∧ 1 ≤ I) := ⟨bd.N0, bd.N1, bd.O0, bd.I0⟩
  have cb3 := (cb.below hb3).below (ba (o := .cells #[.int .i64 y.k, .int .i64 y.f, .int .i64 y.t, .int .i64 y.i, .int .i64 y.l, .int .i64 y.p, .int .i64 y.s, .bool y.fl, .slice ya yn yc] 26) (Below.refl _ _))
  have bp := Bx.made w3 y (.slice ya yn yc)
  have hys' := hys.below (ba (o := .cells #[.int .i64 y.k, .int .i64 y.f, .int .i64 y.t, .int .i64 y.i, .int .i64 y.l, .int .i64 y.p, .int .i64 y.s, .bool y.fl, .slice ya yn yc] 26) (Below.refl _ _))
  have hf1 := hf0.more (X' := fun k => k = w3.heap.size ∨ ∃ ad : Addr, ya = some ad ∧ ad.block = k) (by exact ba (o := .cells #[.int .i64 y.k, .int .i64 y.f, .int .i64 y.t, .int .i64 y.i, .int .i64 y.l, .int .i64 y.p, .int .i64 y.s, .bool y.fl, .slice ya yn yc] 26) hb3) (fun k hk => by
    have z3 := hb3.size
    rcases hk with rfl | ⟨ad, e, rfl⟩
    · exact .inr (by simp; omega)
    · have := ylo ad e; exact .inr (by simp; omega))
  have far : ∀ ad : Addr, ya = some ad → ad.block ≠ w3.heap.size := fun ad e => by have := ylo ad e; omega
  have hge : w.heap.size ≤ w3.heap.size := Nat.le_trans hf0.bel.size hb3.size
  clear cb hyr hyR ylo hb3 hys hf0 hb1 hb2 hown hnv x0 x1 x2 x3 x4 x5 x6 x7 x8 xf xl hz0 bd hx64 hx
  generalize w3.alloc (.cells #[.int .i64 y.k, .int .i64 y.f, .int .i64 y.t, .int .i64 y.i, .int .i64 y.l, .int .i64 y.p, .int .i64 y.s, .bool y.fl, .slice ya yn yc] 26) = W at *
  generalize w3.heap.size = gp at *
  generalize w1.heap.size = gc at *
  refine wp_region_orders 14 rfl (by kernel_rfl) ?_
  have hdr : Below W.heap.size W W.drew := (Below.refl _ _).drew
  replace bp := bp.next hdr
  replace cb3 := cb3.below hdr
  replace hys' := hys'.below hdr
  replace hf1 := hf1.below hdr
  clear hdr
  generalize W.drew = wd at *
  obtain ⟨q0, q1, q2, q3, q4, q5, q6, q7, q8, qf, ql⟩ := id bp
  obtain ⟨d0, d1, d2, d3, d4, d5, d6, d7, dl⟩ := id cb3
  have uc := @Up.cell2
  have uf := @Up.frozen2
  refine any_take 0 (.pointer (some ⟨gp, 1, none⟩)) rfl (by kernel_rfl) (by kernel_rfl) (by kernel_rfl) (fun _ _ _ h => h) (by kernel_rfl) (fun w => by go_simp) ?_
  simp only [Act.put, List.setIfInBounds_toArray, List.set_cons_zero, List.set_cons_succ]
  refine any_take 2 (.pointer (some ⟨gc, 0, none⟩)) rfl (by kernel_rfl) (by kernel_rfl) (by kernel_rfl) (fun _ _ _ h => h) (by kernel_rfl) (fun w => by go_simp) ?_
  simp only [Act.put, List.setIfInBounds_toArray, List.set_cons_zero, List.set_cons_succ]
  refine any_take 5 (.pointer (some ⟨gp, 2, none⟩)) rfl (by kernel_rfl) (by kernel_rfl) (by kernel_rfl) (fun _ _ _ h => h) (by kernel_rfl) (fun w => by go_simp) ?_
  simp only [Act.put, List.setIfInBounds_toArray, List.set_cons_zero, List.set_cons_succ]
  refine any_take 7 (.pointer (some ⟨gc, 0, none⟩)) rfl (by kernel_rfl) (by kernel_rfl) (by kernel_rfl) (fun _ _ _ h => h) (by kernel_rfl) (fun w => by go_simp) ?_
  simp only [Act.put, List.setIfInBounds_toArray, List.set_cons_zero, List.set_cons_succ]
  refine any_mildx [11, 13] ?_
  refine mildy_take (v := ?v1) [4, 9, 11, 13] 1 rfl (by kernel_rfl) (by kernel_rfl) (by kernel_rfl) (by kernel_rfl) (by kernel_rfl) (fun _ _ _ h => h) (by kernel_rfl) (fun Wu K hK => ?hy1) ?go1
  case hy1 =>
    go_big_quiet_op
    simp only [Act.put, List.setIfInBounds_toArray, List.set_cons_zero, List.set_cons_succ] at hK
    exact hK
  simp only [Act.put, List.setIfInBounds_toArray, List.set_cons_zero, List.set_cons_succ]
  refine mildy_take (v := ?v2) [4, 9, 11, 13] 3 rfl (by kernel_rfl) (by kernel_rfl) (by kernel_rfl) (by kernel_rfl) (by kernel_rfl) (fun _ _ _ h => h) (by kernel_rfl) (fun Wu K hK => ?hy2) ?go2
  case hy2 =>
    go_big_quiet_op
    simp only [Act.put, List.setIfInBounds_toArray, List.set_cons_zero, List.set_cons_succ] at hK
    exact hK
  simp only [Act.put, List.setIfInBounds_toArray, List.set_cons_zero, List.set_cons_succ]
  refine mildy_take (v := ?v3) [9, 11, 13] 6 rfl (by kernel_rfl) (by kernel_rfl) (by kernel_rfl) (by kernel_rfl) (by kernel_rfl) (fun _ _ _ h => h) (by kernel_rfl) (fun Wu K hK => ?hy3) ?go3
  case hy3 =>
    go_big_quiet_op
    simp only [Act.put, List.setIfInBounds_toArray, List.set_cons_zero, List.set_cons_succ] at hK
    exact hK
  simp only [Act.put, List.setIfInBounds_toArray, List.set_cons_zero, List.set_cons_succ]
  refine mildy_take (v := ?v4) [9, 11, 13] 8 rfl (by kernel_rfl) (by kernel_rfl) (by kernel_rfl) (by kernel_rfl) (by kernel_rfl) (fun _ _ _ h => h) (by kernel_rfl) (fun Wu K hK => ?hy4) ?go4
  case hy4 =>
    go_big_quiet_op
    simp only [Act.put, List.setIfInBounds_toArray, List.set_cons_zero, List.set_cons_succ] at hK
    exact hK
  simp only [Act.put, List.setIfInBounds_toArray, List.set_cons_zero, List.set_cons_succ]
  refine mildy_take (v := ?v5) [9, 11, 13] 4 rfl (by kernel_rfl) (by kernel_rfl) (by kernel_rfl) (by kernel_rfl) (by kernel_rfl) (fun _ _ _ h => h) (by kernel_rfl) (fun Wu K hK => ?hy5) ?go5
  case hy5 =>
    go_big_quiet_op
    simp only [Act.put, List.setIfInBounds_toArray, List.set_cons_zero, List.set_cons_succ] at hK
    refine ⟨_, fun u => Calls.up_same (within_any y.f (N : Int) u.1 (by have := HNB.out; omega) (by have := HNB.out; omega)), ?_⟩
    exact hK
  simp only [Act.put, List.setIfInBounds_toArray, List.set_cons_zero, List.set_cons_succ]
  refine mildy_take (v := ?v6) [11, 13] 9 rfl (by kernel_rfl) (by kernel_rfl) (by kernel_rfl) (by kernel_rfl) (by kernel_rfl) (fun _ _ _ h => h) (by kernel_rfl) (fun Wu K hK => ?hy6) ?go6
  case hy6 =>
    go_big_quiet_op
    simp only [Act.put, List.setIfInBounds_toArray, List.set_cons_zero, List.set_cons_succ] at hK
    refine ⟨_, fun u => Calls.up_same (within_any y.t (N : Int) u.1 (by have := HNB.out; omega) (by have := HNB.out; omega)), ?_⟩
    exact hK
  simp only [Act.put, List.setIfInBounds_toArray, List.set_cons_zero, List.set_cons_succ]
  refine mildy_take (v := ?v7) [11, 13] 10 rfl (by kernel_rfl) (by kernel_rfl) (by kernel_rfl) (by kernel_rfl) (by kernel_rfl) (fun _ _ _ h => h) (by kernel_rfl) (fun Wu K hK => ?hy7) ?go7
  case hy7 =>
    go_big_quiet_op
    simp only [Act.put, List.setIfInBounds_toArray, List.set_cons_zero, List.set_cons_succ] at hK
    exact hK
  simp only [Act.put, List.setIfInBounds_toArray, List.set_cons_zero, List.set_cons_succ]
  intro W2
  clear uc uf q0 q1 q2 q3 q4 q5 q6 q7 q8 qf ql d0 d1 d2 d3 d4 d5 d6 d7 dl cb3
  replace bp := bp.next W2.2
  replace hys' := hys'.below W2.2
  replace hf1 := hf1.below W2.2
  generalize W2.1 = wa at *
  obtain ⟨q0, q1, q2, q3, q4, q5, q6, q7, q8, qf, ql⟩ := id bp
  refine upx_write 11 (by kernel_rfl) (by kernel_rfl) rfl ?_
  go_wp2
  refine then_n ?_
  refine any_take 12 (.pointer (some ⟨gp, 2, none⟩)) rfl (by kernel_rfl) (by kernel_rfl) (by kernel_rfl) (fun _ _ _ h => h) (by kernel_rfl) (fun w => by go_simp) ?_
  simp only [Act.put, List.setIfInBounds_toArray, List.set_cons_zero, List.set_cons_succ]
  refine any_list 13 (by kernel_rfl) rfl ?_
  go_wp2
  refine then_n ?_
  refine any_done (by kernel_rfl) ?_
  clear q0 q1 q2 q3 q4 q5 q6 q7 q8 qf ql
  have bp2 := (bp.setF (y.f % (N : Int))).setT (y.t % (N : Int))
  have kk := ((Keep.refl (fun k => k = gp) wa).setCell (p := ⟨gp, 1, none⟩) (.inl rfl) (.int .i64 (y.f % (N : Int)))).setCell (p := ⟨gp, 2, none⟩) (.inl rfl) (.int .i64 (y.t % (N : Int)))
  have hW : WL w _ gf gp N O I { y with f := y.f % (N : Int), t := y.t % (N : Int) } ya yn yc nil0 := ⟨bp2, hys'.keep kk (fun _ ad e h => far ad e h), hf1.turn kk (fun k e => .inl (.inl e)) (fun k e => by omega) (fun k e => .inl e) (fun k e => Nat.lt_of_lt_of_le (hf1.xlt k e) kk.size)⟩
  clear bp2 kk bp hys' hf1 far
  generalize (wa.setCell ⟨gp, 1, none⟩ (.int .i64 (y.f % (N : Int)))).setCell ⟨gp, 2, none⟩ (.int .i64 (y.t % (N : Int))) = wb at *
  generalize { y with f := y.f % (N : Int), t := y.t % (N : Int) : Pk } = p at *
  obtain ⟨q0, q1, q2, q3, q4, q5, q6, q7, q8, qf, ql⟩ := id hW.pk
  have HSEND : Hid (SendTo N O nil0 p 0 (way1 p)) := way_send hG (by have := HNB.out; omega)
  go_upto_block 0 with (go_at_call 12; refine (send_on hW.on p ya yn yc hW.sl hG.z HSEND.out).mono ?_; rintro e w5 ⟨rfl, ho5, hk5⟩)
  replace hW := hW.step ho5 hk5
  clear q0 q1 q2 q3 q4 q5 q6 q7 q8 qf ql ho5 hk5 HSEND
  go_cut [12] (fun v wx => WL w wx gf gp N O I p ya yn yc (way1 p))
  case first =>
    have hn := hsl.len
    have hle := hsl.le
    have hmx := hsl.max
    unfold maxLen at hmx
    go_wp2_with fail
    go_loopw [12] (fun i wr => ∃ k : Nat, k ≤ n ∧ k ≤ 9 ∧ i = .int .i64 k ∧ WL w wr gf gp N O I p ya yn yc (way1 p)) (fun i _ => 9 - (intOf i).toNat)
    case atStart => exact ⟨0, by omega, by omega, rfl, hW⟩
    case round =>
      obtain ⟨k, hkn, hk9, rfl, hL⟩ := hrel
      have hsr := hsl.below hL.on.bel
      by_cases hlt : k < n
      · by_cases hlt9 : k < 9
        · obtain ⟨b, o, rfl, hc⟩ := hsr.row.resolve_left (by intro e; rw [e] at hn; simp at hn; omega)
          have ck := hc k (by omega)
          have hbl := World.block_lt_of_cell? _ _ ck
          simp only at hbl
          obtain ⟨bt, hbt, bt0, bt1⟩ : ∃ bt : Int, (z[k]?.getD 0) % 90 = bt ∧ 0 ≤ bt ∧ bt < 90 := ⟨_, rfl, Int.emod_nonneg _ (by omega), Int.emod_lt_of_pos _ (by omega)⟩
          generalize z[k]?.getD 0 = zk at *
          have HD : Hid (DelTo N O I (way1 p) 0 bt mk 2 (way1 p)) := way_form hG (way_spoilt bt0 bt1 HMT.out)
          have HU : Hid (((laneL (way1 p) (2 * N)).length : Int) = 1) := by show _ = _; rw [way1_under hG.fq.1]; rfl
          clear hc hsr
          go_wp2_with (first
            | (go_at_call 11; refine (within_any _ _ _ (by decide) (by decide)).mono ?_; rintro e w6 ⟨rfl, rfl⟩; rw [hbt])
            | (go_at_call 13; rw [HMK.out]; refine (deliver_on hL.on 0 bt mk (by decide) HMT.out.1 HMT.out.2.1 HD.out).mono ?_; rintro e w6 ⟨rfl, ho6, hk6⟩; have hL6 := hL.step ho6 hk6)
            | (go_at_call 14; refine (under_on hL6.on 1 HU.out).mono ?_; rintro e w7 ⟨rfl, hb7⟩))
          go_roundw
          case rel => exact ⟨k + 1, by omega, by omega, by go_num, hL6.below hb7⟩
          case measure => simp [intOf]; omega
        · go_wp2
          go_meet
          case rel => exact hL
      · obtain rfl : k = n := by omega
        go_wp2
        go_meet
        case rel => exact hL
  case rest =>
    clear hW hsl hm HMK HMT hyn hge
    have HD1 : Hid (DelTo N O I (way1 p) 0 0 0 0 (way2 p)) := way_ok hG (by have := HNB.out; omega) (by have := HNB.out; omega)
    have HU : Hid (((laneL (way2 p) (2 * N)).length : Int) = 0) := by show _ = _; rw [way2_under]; rfl
    have HD2 : Hid (DelTo N O I (way2 p) 0 0 0 3 (way2 p)) := way_none N O I p
    have HT : Hid (p.t = (p.t.toNat : Int)) := hG.tq.2.1.symm
    by_cases hk6 : p.k ≤ 6
    · have hs0 := sort_req hG.r hk6
      have HW0 : Hid (((way2 p (pr (2 * p.t.toNat) + 2)).length : Int) = 1) := by show _ = _; rw [show 2 * p.t.toNat = 2 * p.t.toNat + 0 from rfl, way2_at (by omega) rfl, hs0]; rfl
      have HW1 : Hid (((way2 p (pr (2 * p.t.toNat + 1) + 2)).length : Int) = 0) := by show _ = _; rw [way2_at (by omega) rfl, hs0]; rfl
      have HTK : Hid (TakeTo N (way2 p) p.t true (some p) nil0) := way_take hG true hs0.symm
      have HG1 : Hid (TakeTo N nil0 p.t true none nil0) := way_gone hG true
      have HG2 : Hid (TakeTo N nil0 p.t false none nil0) := way_gone hG false
      clear hs0
      go_wp2_with (first
        | (have mk := hL1; clear mk; go_at_call 13; refine (deliver_on (hL1.below hb7).on 0 0 0 (by decide) (by decide) (by decide) HD2.out).mono ?_; rintro e w8 ⟨rfl, ho8, hk8⟩; have hL2 := (hL1.below hb7).step ho8 hk8; obtain ⟨q0, q1, q2, q3, q4, q5, q6, q7, q8, qf, ql⟩ := id hL2.pk)
        | (go_at_call 13; refine (deliver_on hcut.on 0 0 0 (by decide) (by decide) (by decide) HD1.out).mono ?_; rintro e w6 ⟨rfl, ho6, hk6⟩; have hL1 := hcut.step ho6 hk6)
        | (go_at_call 14; refine (under_on hL1.on 0 HU.out).mono ?_; rintro e w7 ⟨rfl, hb7⟩)
        | (go_at_call 15; refine (waiting_on hL2.on p.t.toNat hG.tq.2.2 p.t HT.out 1 0 HW0.out HW1.out).mono ?_; rintro e w9 ⟨rfl, hb9⟩; have hL3 := hL2.below hb9; clear q0 q1 q2 q3 q4 q5 q6 q7 q8 qf ql; obtain ⟨q0, q1, q2, q3, q4, q5, q6, q7, q8, qf, ql⟩ := id hL3.pk)
        | (have mk := hL4; clear mk; go_at_call 16; refine (request_on (hL4.below (ba (Below.refl _ _))).on p.t HG1.out).mono ?_; rintro e w11 ⟨⟨a11, n11, c11, rfl, hs11, _, hlo11⟩, ho11, hk11⟩; have hb11 := hlo11 rfl; clear hlo11 ho11 hk11; simp only [Option.getD_none, Option.isSome_none]; have hL5 := (hL4.below (ba (Below.refl _ _))).below hb11; have bq := (Bx.made w10 p (.slice a10 n10 c10)).next hb11; have hq11 := (hs10.below (ba (Below.refl _ _))).below hb11; clear q0 q1 q2 q3 q4 q5 q6 q7 q8 qf ql; obtain ⟨q0, q1, q2, q3, q4, q5, q6, q7, q8, qf, ql⟩ := id hL5.pk)
        | (go_at_call 17; refine (reply_on (hL5.below (ba (Below.refl _ _))).on p.t HG2.out).mono ?_; rintro e w12 ⟨⟨a12, n12, c12, rfl, hs12, _, hlo12⟩, ho12, hk12⟩; have hb12 := hlo12 rfl; clear hlo12 ho12 hk12; simp only [Option.getD_none, Option.isSome_none]; have hL6 := (hL5.below (ba (Below.refl _ _))).below hb12; have bq12 := (bq.next (ba (Below.refl _ _))).next hb12; have hq12 := (hq11.below (ba (Below.refl _ _))).below hb12; clear q0 q1 q2 q3 q4 q5 q6 q7 q8 qf ql bq; obtain ⟨q0, q1, q2, q3, q4, q5, q6, q7, q8, qf, ql⟩ := id hL6.pk; obtain ⟨r0, r1, r2, r3, r4, r5, r6, r7, r8, rf, rl⟩ := id bq12)
        | (go_at_call 18; refine (refSame_any p p ya a10 yn n10 yc c10 _ (hL6.sl.below (ba (Below.refl _ _))) (hq12.below (ba (Below.refl _ _)))).mono ?_; rintro e w13 ⟨rfl, hb13⟩; rw [sameP_self])
        | (go_at_call 19; refine (fwakes_any _).mono ?_; rintro e w14 ⟨rfl, hb14⟩)
        | (go_at_call 16; refine (request_on hL3.on p.t HTK.out).mono ?_; rintro e w10 ⟨⟨a10, n10, c10, rfl, hs10, _, _⟩, ho10, hk10⟩; have hL4 := hL3.step ho10 hk10; simp only [Option.getD_some, Option.isSome_some] at hs10 ⊢; clear q0 q1 q2 q3 q4 q5 q6 q7 q8 qf ql; obtain ⟨q0, q1, q2, q3, q4, q5, q6, q7, q8, qf, ql⟩ := id hL4.pk))
      go_ret
      exact ⟨rfl, (((hL6.below (ba (Below.refl _ _))).below hb13).below hb14).on.bel⟩
    · have hs1 := sort_ans hk6
      have HW0 : Hid (((way2 p (pr (2 * p.t.toNat) + 2)).length : Int) = 0) := by show _ = _; rw [show 2 * p.t.toNat = 2 * p.t.toNat + 0 from rfl, way2_at (by omega) rfl, hs1]; rfl
      have HW1 : Hid (((way2 p (pr (2 * p.t.toNat + 1) + 2)).length : Int) = 1) := by show _ = _; rw [way2_at (by omega) rfl, hs1]; rfl
      have HTN : Hid (TakeTo N (way2 p) p.t true none (way2 p)) := way_not hG true (by rw [hs1]; decide)
      have HTK : Hid (TakeTo N (way2 p) p.t false (some p) nil0) := way_take hG false hs1.symm
      have HG1 : Hid (TakeTo N nil0 p.t true none nil0) := way_gone hG true
      have HG2 : Hid (TakeTo N nil0 p.t false none nil0) := way_gone hG false
      clear hs1
      go_wp2_with (first
        | (have mk := hL1; clear mk; go_at_call 13; refine (deliver_on (hL1.below hb7).on 0 0 0 (by decide) (by decide) (by decide) HD2.out).mono ?_; rintro e w8 ⟨rfl, ho8, hk8⟩; have hL2 := (hL1.below hb7).step ho8 hk8; obtain ⟨q0, q1, q2, q3, q4, q5, q6, q7, q8, qf, ql⟩ := id hL2.pk)
        | (go_at_call 13; refine (deliver_on hcut.on 0 0 0 (by decide) (by decide) (by decide) HD1.out).mono ?_; rintro e w6 ⟨rfl, ho6, hk6⟩; have hL1 := hcut.step ho6 hk6)
        | (go_at_call 14; refine (under_on hL1.on 0 HU.out).mono ?_; rintro e w7 ⟨rfl, hb7⟩)
        | (go_at_call 15; refine (waiting_on hL2.on p.t.toNat hG.tq.2.2 p.t HT.out 0 1 HW0.out HW1.out).mono ?_; rintro e w9 ⟨rfl, hb9⟩; have hL3 := hL2.below hb9; clear q0 q1 q2 q3 q4 q5 q6 q7 q8 qf ql; obtain ⟨q0, q1, q2, q3, q4, q5, q6, q7, q8, qf, ql⟩ := id hL3.pk)
        | (have mk := hL5; clear mk; go_at_call 17; refine (reply_on (hL6.below (ba (Below.refl _ _))).on p.t HG2.out).mono ?_; rintro e w13 ⟨⟨a13, n13, c13, rfl, hs13, _, hlo13⟩, ho13, hk13⟩; have hb13 := hlo13 rfl; clear hlo13 ho13 hk13; simp only [Option.getD_none, Option.isSome_none]; have hL7 := (hL6.below (ba (Below.refl _ _))).below hb13; have bq13 := (bq12.next (ba (Below.refl _ _))).next hb13; have hq13 := (hq12.below (ba (Below.refl _ _))).below hb13; clear q0 q1 q2 q3 q4 q5 q6 q7 q8 qf ql bq12; obtain ⟨q0, q1, q2, q3, q4, q5, q6, q7, q8, qf, ql⟩ := id hL7.pk; obtain ⟨r0, r1, r2, r3, r4, r5, r6, r7, r8, rf, rl⟩ := id bq13)
        | (have mk := ho11; clear mk; go_at_call 16; have kq : Keep (fun k => k = w10.heap.size) w11 _ := far9 (g := w10.heap.size) (y := p) (v := .slice a11 n11 c11) (W := w11) (P := fun V => Keep (fun k => k = w10.heap.size) w11 V) (fun V o u h => h.setCell (.inl rfl) u) (Keep.refl _ _); have bq5 := bq11.put p (.slice a11 n11 c11); have hq5 : Sl _ a11 n11 c11 p.z := hs11.keep kq (fun hz ad e h => hnx11 hz ad e (.inr h)); have hL5 : WL w _ gf gp N O I p ya yn yc nil0 := ⟨p11.keep kq (fun e => hgq e), s11.keep kq (fun _ ad e h => hga ad e h), ho11.turn kq (fun k e => .inl (.inr e)) (fun k e => by subst e; exact Nat.le_trans hL3.on.bel.size hb10.size) (fun k h => .inl (.inl h)) (fun k h => Nat.lt_of_lt_of_le (ho11.xlt k (.inl h)) kq.size)⟩; clear ho11; refine (request_on hL5.on p.t HG1.out).mono ?_; rintro e w12 ⟨⟨a12, n12, c12, rfl, hs12, _, hlo12⟩, ho12, hk12⟩; have hb12 := hlo12 rfl; clear hlo12 ho12 hk12; simp only [Option.getD_none, Option.isSome_none]; have hL6 := hL5.below hb12; have bq12 := bq5.next hb12; have hq12 := hq5.below hb12; clear q0 q1 q2 q3 q4 q5 q6 q7 q8 qf ql kq bq5 hq5 bq11 r0 r1 r2 r3 r4 r5 r6 r7 r8 rf rl; obtain ⟨q0, q1, q2, q3, q4, q5, q6, q7, q8, qf, ql⟩ := id hL6.pk)
        | (go_at_call 17; have on' := hL4.on.more (X' := fun k => (k = gp ∨ ∃ ad : Addr, ya = some ad ∧ ad.block = k) ∨ k = w10.heap.size) (ba (o := .cells #[.int .i64 zeroPk.k, .int .i64 zeroPk.f, .int .i64 zeroPk.t, .int .i64 zeroPk.i, .int .i64 zeroPk.l, .int .i64 zeroPk.p, .int .i64 zeroPk.s, .bool zeroPk.fl, .slice a10 n10 c10] 26) (Below.refl _ _)) (fun k hk => hk.imp id (fun e => by subst e; simp)); refine (reply_on on' p.t HTK.out).mono ?_; rintro e w11 ⟨⟨a11, n11, c11, rfl, hs11, hnx11, _⟩, ho11, hk11⟩; simp only [Option.getD_some, Option.isSome_some] at hs11 hnx11 ⊢; have hLb := hL4.below (ba (o := .cells #[.int .i64 zeroPk.k, .int .i64 zeroPk.f, .int .i64 zeroPk.t, .int .i64 zeroPk.i, .int .i64 zeroPk.l, .int .i64 zeroPk.p, .int .i64 zeroPk.s, .bool zeroPk.fl, .slice a10 n10 c10] 26) (Below.refl _ _)); have p11 := hLb.pk.keep hk11 (fun h => h (.inl (.inl rfl))); have s11 := hLb.sl.keep hk11 (fun _ ad e h => h (.inl (.inr ⟨ad, e, rfl⟩))); have bq11 := (Bx.made w10 zeroPk (.slice a10 n10 c10)).keep hk11 (fun h => h (.inr rfl)); have hgq : gp ≠ w10.heap.size := (Nat.ne_of_lt (hL4.on.xlt gp (.inl rfl))); have hga : ∀ ad : Addr, ya = some ad → ad.block ≠ w10.heap.size := (fun ad e => Nat.ne_of_lt (hL4.on.xlt ad.block (.inr ⟨ad, e, rfl⟩))); clear on' hk11 hLb q0 q1 q2 q3 q4 q5 q6 q7 q8 qf ql; obtain ⟨q0, q1, q2, q3, q4, q5, q6, q7, q8, qf, ql⟩ := id p11; obtain ⟨r0, r1, r2, r3, r4, r5, r6, r7, r8, rf, rl⟩ := id bq11; simp only [zeroPk] at r0 r1 r2 r3 r4 r5 r6 r7)
        | (go_at_call 16; refine (request_on hL3.on p.t HTN.out).mono ?_; rintro e w10 ⟨⟨a10, n10, c10, rfl, hs10, _, hlo10⟩, ho10, hk10⟩; have hb10 := hlo10 rfl; clear hlo10 ho10 hk10 hs10; have hL4 := hL3.below hb10; simp only [Option.getD_none, Option.isSome_none]; clear q0 q1 q2 q3 q4 q5 q6 q7 q8 qf ql; obtain ⟨q0, q1, q2, q3, q4, q5, q6, q7, q8, qf, ql⟩ := id hL4.pk)
        | (go_at_call 18; refine (refSame_any p p ya a11 yn n11 yc c11 _ (hL7.sl.below (ba (Below.refl _ _))) (hq13.below (ba (Below.refl _ _)))).mono ?_; rintro e w14 ⟨rfl, hb14⟩; rw [sameP_self])
        | (go_at_call 19; refine (fwakes_any _).mono ?_; rintro e w15 ⟨rfl, hb15⟩))
      go_ret
      exact ⟨rfl, (((hL7.below (ba (Below.refl _ _))).below hb14).below hb15).on.bel⟩
end Go.Proofs.Ytjdbjmfkheffdaa
end
