/- The configuration of a setup, in numbers; its variable in memory.
The contract of chapletplay.Packet: a packet by small numbers. Conditions: as stated. -/
import Derived.Test.YtjdbjmfkheffdaaPart2
import Derived.Test.YtjdbjmfkheffdaaPart3
import Derived.Test.YtjdbjmfkheffdaaPart1
import Derived.Deep.CutBlock
section
namespace Go.Proofs.Ytjdbjmfkheffdaa
open Go.RowKit
set_option linter.unusedVariables false
set_option maxRecDepth 20000

/-- A configuration's variable in memory. -/
structure CB (w : World) (g : Nat) (N L K S Y O I : Nat) (t : Value) : Prop where
  c0 : w.cell? ⟨g, 0, none⟩ = some (.int .i64 (N : Int))
  c1 : w.cell? ⟨g, 1, none⟩ = some (.int .i64 (L : Int))
  c2 : w.cell? ⟨g, 2, none⟩ = some (.int .i64 (K : Int))
  c3 : w.cell? ⟨g, 3, none⟩ = some (.int .i64 (S : Int))
  c4 : w.cell? ⟨g, 4, none⟩ = some (.int .i64 (Y : Int))
  c5 : w.cell? ⟨g, 5, none⟩ = some (.int .i64 (O : Int))
  c6 : w.cell? ⟨g, 6, none⟩ = some (.int .i64 (I : Int))
  c7 : w.cell? ⟨g, 7, none⟩ = some t
  lt : g < w.heap.size
theorem CB.below {w w' : World} {g : Nat} {N L K S Y O I : Nat} {t : Value} (h : CB w g N L K S Y O I t) (hb : Below w.heap.size w w') : CB w' g N L K S Y O I t := by
  obtain ⟨hc, _⟩ := bcell hb
  exact ⟨by rw [hc _ _ h.lt]; exact h.c0, by rw [hc _ _ h.lt]; exact h.c1, by rw [hc _ _ h.lt]; exact h.c2, by rw [hc _ _ h.lt]; exact h.c3, by rw [hc _ _ h.lt]; exact h.c4, by rw [hc _ _ h.lt]; exact h.c5, by rw [hc _ _ h.lt]; exact h.c6, by rw [hc _ _ h.lt]; exact h.c7, Nat.lt_of_lt_of_le h.lt hb.size⟩
theorem CB.made (w : World) (N L K S Y O I : Nat) (t : Value) : CB (w.alloc (.cells #[.int .i64 (N : Int), .int .i64 (L : Int), .int .i64 (K : Int), .int .i64 (S : Int), .int .i64 (Y : Int), .int .i64 (O : Int), .int .i64 (I : Int), t] 29)) w.heap.size N L K S Y O I t := by
  constructor <;> simp

/-- The numbers of a setup's configuration. -/
structure IsCfg (n l k s y o i : Int) (z : List Int) (N L K S Y O I : Nat) (zi : List Int) : Prop where
  eN : nd n 4 = N
  eL : nd l 4 = L
  eK : nd k 2 = K
  eS : nd s 2 = S
  eY : nd y 2 = Y
  eO : nd o 3 = O
  eI : nd i 3 = I
  ez : z.take (L * K) = zi
structure CfgB (N L K S Y O I : Nat) : Prop where
  N0 : 1 ≤ N
  N1 : N ≤ 4
  L0 : 1 ≤ L
  L1 : L ≤ 4
  K0 : 1 ≤ K
  K1 : K ≤ 2
  S0 : 1 ≤ S
  S1 : S ≤ 2
  Y0 : 1 ≤ Y
  Y1 : Y ≤ 2
  O0 : 1 ≤ O
  O1 : O ≤ 3
  I0 : 1 ≤ I
  I1 : I ≤ 3
theorem IsCfg.bd {n l k s y o i : Int} {z : List Int} {N L K S Y O I : Nat} {zi : List Int} (h : IsCfg n l k s y o i z N L K S Y O I zi) : CfgB N L K S Y O I := by
  obtain ⟨rfl, rfl, rfl, rfl, rfl, rfl, rfl, _⟩ := h
  exact ⟨(nd_lo n 4).resolve_right (by decide), nd_hi n 4 (by decide), (nd_lo l 4).resolve_right (by decide), nd_hi l 4 (by decide), (nd_lo k 2).resolve_right (by decide), nd_hi k 2 (by decide), (nd_lo s 2).resolve_right (by decide), nd_hi s 2 (by decide), (nd_lo y 2).resolve_right (by decide), nd_hi y 2 (by decide), (nd_lo o 3).resolve_right (by decide), nd_hi o 3 (by decide), (nd_lo i 3).resolve_right (by decide), nd_hi i 3 (by decide)⟩
theorem IsCfg.len {n l k s y o i : Int} {z : List Int} {N L K S Y O I : Nat} {zi : List Int} (h : IsCfg n l k s y o i z N L K S Y O I zi) : zi.length ≤ L * K := by
  obtain ⟨rfl, rfl, rfl, rfl, rfl, rfl, rfl, rfl⟩ := h
  simp; omega
/-- One setup, one configuration. -/
theorem IsCfg.one {n l k s y o i : Int} {z : List Int} {N L K S Y O I N' L' K' S' Y' O' I' : Nat} {zi zi' : List Int} (h : IsCfg n l k s y o i z N L K S Y O I zi) (h' : IsCfg n l k s y o i z N' L' K' S' Y' O' I' zi') :
    N = N' ∧ L = L' ∧ K = K' ∧ S = S' ∧ Y = Y' ∧ O = O' ∧ I = I' ∧ zi = zi' := by
  obtain ⟨rfl, rfl, rfl, rfl, rfl, rfl, rfl, rfl⟩ := h
  obtain ⟨rfl, rfl, rfl, rfl, rfl, rfl, rfl, rfl⟩ := h'
  exact ⟨rfl, rfl, rfl, rfl, rfl, rfl, rfl, rfl⟩
theorem config_c (n l k s y o i : Int) (a : Option Addr) (len cap : Nat) (wh ki ad va : Value) (z : List Int) (w : World) (hsl : Sl w a len cap z) :
    Calls Try.prog 8 #[setup n l k s y o i (.slice a len cap) wh ki ad va] w fun e w' => ∃ (N L K S Y O I : Nat) (zi : List Int) (av : Option Addr) (nv cv : Nat),
      e = .returned (cfg N L K S Y O I (.slice av nv cv)) ∧ IsCfg n l k s y o i z N L K S Y O I zi ∧ Hid (zi.length = nv) ∧ Own w' w.heap.size (.slice av nv cv) zi ∧ Below w.heap.size w w' := by
  refine (config_any n l k s y o i a len cap wh ki ad va z w hsl).mono ?_
  rintro e w' ⟨v, rfl, hown, hb⟩
  obtain ⟨av, cv, rfl, _⟩ := hown.sl
  exact ⟨_, _, _, _, _, _, _, _, av, _, cv, rfl, ⟨rfl, rfl, rfl, rfl, rfl, rfl, rfl, rfl⟩, rfl, hown, hb⟩
theorem own_sl {w : World} {base n cap : Nat} {a : Option Addr} {l : List Int} (h : Own w base (.slice a n cap) l) : Sl w a n cap l := by
  obtain ⟨a', cap', e, hs⟩ := h.sl
  simp at e
  obtain ⟨rfl, rfl, rfl⟩ := e
  exact hs
theorem mul_bd {L K : Nat} (L0 : 1 ≤ L) (L1 : L ≤ 4) (K0 : 1 ≤ K) (K1 : K ≤ 2) : (1 : Int) ≤ (L : Int) * (K : Int) ∧ (L : Int) * (K : Int) ≤ 8 ∧ L * K ≤ 8 := by
  refine ⟨?_, ?_, ?_⟩
  · have := Int.mul_le_mul (show (1 : Int) ≤ (L : Int) by omega) (show (1 : Int) ≤ (K : Int) by omega) (by omega) (by omega); simpa using this
  · have := Int.mul_le_mul (show (L : Int) ≤ 4 by omega) (show (K : Int) ≤ 2 by omega) (by omega) (by omega); simpa using this
  · have := Nat.mul_le_mul (show L ≤ 4 by omega) (show K ≤ 2 by omega); simpa using this
end Go.Proofs.Ytjdbjmfkheffdaa
end
section
namespace Go.Proofs.Ytjdbjmfkheffdaa
open Go.RowKit
set_option linter.unusedVariables false
set_option maxRecDepth 20000

/-- The packet of small numbers. -/
def playX (x : Pk) : Pk := ⟨1 + x.k % 9, x.f % 4, x.t % 4, x.i % 5, x.l % 4, x.p % 5 - 1, x.s % 3, x.fl, x.z.take 4⟩
theorem play_right (x : Pk) : (playX x).right = true := by
  refine (Pk.right_iff _).2 ⟨?_, ?_, ?_, ?_, ?_, ?_, ?_, ?_⟩ <;> simp only [playX]
  case refine_8 => simp; omega
  all_goals omega
/-- What comes out: a packet, its words of the call's own. -/
def Played (x : Pk) (how : Int) (w : World) (v : Value) (w' : World) : Prop :=
  ∃ (y : Pk) (a : Option Addr) (n cap : Nat), v = y.val (.slice a n cap) ∧ Sl w' a n cap y.z ∧ n ≤ 6 ∧ (how % 40 < 31 → y.right = true) ∧ (R64 x.z → R64 y.z) ∧ (∀ ad : Addr, a = some ad → w.heap.size ≤ ad.block ∧ ad.block < w'.heap.size) ∧ Below w.heap.size w w'
/-- Behind the first statement. -/
structure PL (w wx : World) (x : Pk) (a : Option Addr) (len cap g : Nat) (a1 : Option Addr) (n cap1 : Nat) : Prop where
  bp : Bx wx w.heap.size x (.slice a len cap)
  br : Bx wx (w.heap.size + 1) zeroPk (.slice none 0 0)
  bq : Bx wx g (playX x) (.slice a1 n cap1)
  gl : w.heap.size + 2 ≤ g
  sl : Sl wx a1 n cap1 (x.z.take 4)
  far : ∀ ad : Addr, a1 = some ad → ad.block ≠ g ∧ w.heap.size + 2 ≤ ad.block ∧ ad.block < wx.heap.size
  bl : Below w.heap.size w wx

def nine (W : World) (g : Nat) (y : Pk) (v : Value) : World := (((((((((W.setCell ⟨g, 0, none⟩ (.int .i64 y.k)).setCell ⟨g, 1, none⟩ (.int .i64 y.f)).setCell ⟨g, 2, none⟩ (.int .i64 y.t)).setCell ⟨g, 3, none⟩ (.int .i64 y.i)).setCell ⟨g, 4, none⟩ (.int .i64 y.l)).setCell ⟨g, 5, none⟩ (.int .i64 y.p)).setCell ⟨g, 6, none⟩ (.int .i64 y.s)).setCell ⟨g, 7, none⟩ (.bool y.fl)).setCell ⟨g, 8, none⟩ v)
theorem PL.of {w wq wf : World} {x : Pk} {a : Option Addr} {len cap g : Nat} {a1 : Option Addr} {n cap1 : Nat} (bp : Bx wq w.heap.size x (.slice a len cap)) (br : Bx wq (w.heap.size + 1) zeroPk (.slice none 0 0)) (bq : Bx wq g zeroPk (.slice none 0 0))
    (sl : Sl wq a1 n cap1 (x.z.take 4)) (bl : Below w.heap.size w wq) (gl : w.heap.size + 2 ≤ g) (far : ∀ ad : Addr, a1 = some ad → ad.block ≠ g ∧ w.heap.size + 2 ≤ ad.block ∧ ad.block < wq.heap.size)
    (hf : Below (nine wq g (playX x) (.slice a1 n cap1)).heap.size (nine wq g (playX x) (.slice a1 n cap1)) wf) : PL w wf x a len cap g a1 n cap1 := by
  have f1 := far9 (g := g) (y := playX x) (v := .slice a1 n cap1) (P := fun V => Bx V w.heap.size x (.slice a len cap)) (fun V o u h => h.far (by simp only; omega)) bp
  have f2 := far9 (g := g) (y := playX x) (v := .slice a1 n cap1) (P := fun V => Bx V (w.heap.size + 1) zeroPk (.slice none 0 0)) (fun V o u h => h.far (by simp only; omega)) br
  have f3 := far9 (g := g) (y := playX x) (v := .slice a1 n cap1) (P := fun V => Sl V a1 n cap1 (x.z.take 4)) (fun V o u h => h.far (fun ad e => (far ad e).1)) sl
  have f4 := far9 (g := g) (y := playX x) (v := .slice a1 n cap1) (P := fun V => Below w.heap.size w V) (fun V o u h => h.setCell (by simp only; omega) _) bl
  have f5 := bq.put (playX x) (.slice a1 n cap1)
  exact ⟨f1.next hf, f2.next hf, f5.next hf, gl, f3.below hf, fun ad e => ⟨(far ad e).1, (far ad e).2.1, Nat.lt_of_lt_of_le (far ad e).2.2 (by have := hf.size; simpa [nine] using this)⟩, next f4 hf⟩
theorem nine_below {w wq : World} {g b : Nat} {y : Pk} {v : Value} (h : Below b w wq) (hb : b ≤ g) : Below b w (nine wq g y v) := far9 (P := fun V => Below b w V) (fun V o u h => h.setCell hb _) h

set_option maxHeartbeats 4000000 in
set_option maxRecDepth 20000 in
theorem play_any (x : Pk) (how : Int) (a : Option Addr) (len cap : Nat) (w : World) (hsl : Sl w a len cap x.z) :
    Calls Try.prog 10 #[x.val (.slice a len cap), .int .i64 how] w fun e w' => ∃ v, e = .returned v ∧ Played x how w v w' := by
  have k0 : 0 ≤ x.k % 9 ∧ x.k % 9 < 9 := by omega
  have f0 : 0 ≤ x.f % 4 ∧ x.f % 4 < 4 := by omega
  have t0 : 0 ≤ x.t % 4 ∧ x.t % 4 < 4 := by omega
  have i0 : 0 ≤ x.i % 5 ∧ x.i % 5 < 5 := by omega
  have l0 : 0 ≤ x.l % 4 ∧ x.l % 4 < 4 := by omega
  have p0 : 0 ≤ x.p % 5 ∧ x.p % 5 < 5 := by omega
  have s0 : 0 ≤ x.s % 3 ∧ x.s % 3 < 3 := by omega
  obtain ⟨n, hn⟩ : ∃ n, (x.z.take 4).length = n := ⟨_, rfl⟩
  have HN : Hid ((x.z.take 4).length = n) := hn
  have hn4 : n ≤ 4 := by rw [← hn]; simp; omega
  clear hn
  have bp0 := (Bx.made w x (.slice a len cap)).next (ba (o := .cells #[.int .i64 zeroPk.k, .int .i64 zeroPk.f, .int .i64 zeroPk.t, .int .i64 zeroPk.i, .int .i64 zeroPk.l, .int .i64 zeroPk.p, .int .i64 zeroPk.s, .bool zeroPk.fl, .slice none 0 0] 26) (Below.refl _ _))
  have br0 := Bx.made' (w.alloc (.cells #[.int .i64 x.k, .int .i64 x.f, .int .i64 x.t, .int .i64 x.i, .int .i64 x.l, .int .i64 x.p, .int .i64 x.s, .bool x.fl, .slice a len cap] 26)) zeroPk (.slice none 0 0) (w.heap.size + 1) (by simp)
  unfold Pk.val
  go_enter Try.func10, Try.ntmps10
  go_upto_region 1 with fail
  go_cut [5] (fun v wx => ∃ (g : Nat) (a1 : Option Addr) (cap1 : Nat), v = .pointer (some ⟨g, 0, none⟩) ∧ PL w wx x a len cap g a1 n cap1)
  case first =>
    have uc := @Up.cell2
    have uf := @Up.frozen2
    refine wp_region_mild 31 rfl (by kernel_rfl) ?_
    refine mild_take (v := ?v201) 0 rfl (by kernel_rfl) (by kernel_rfl) (by kernel_rfl) (fun _ _ _ h => h) (by kernel_rfl) (fun Wu K hK => ?hy201) ?go201
    case hy201 =>
      go_big_quiet_op
      simp only [Act.put, List.setIfInBounds_toArray, List.set_cons_zero, List.set_cons_succ] at hK
      exact hK
    simp only [Act.put, List.setIfInBounds_toArray, List.set_cons_zero, List.set_cons_succ]
    refine mild_take (v := ?v202) 1 rfl (by kernel_rfl) (by kernel_rfl) (by kernel_rfl) (fun _ _ _ h => h) (by kernel_rfl) (fun Wu K hK => ?hy202) ?go202
    case hy202 =>
      go_big_quiet_op
      simp only [Act.put, List.setIfInBounds_toArray, List.set_cons_zero, List.set_cons_succ] at hK
      exact hK
    simp only [Act.put, List.setIfInBounds_toArray, List.set_cons_zero, List.set_cons_succ]
    refine mild_take (v := ?v203) 2 rfl (by kernel_rfl) (by kernel_rfl) (by kernel_rfl) (fun _ _ _ h => h) (by kernel_rfl) (fun Wu K hK => ?hy203) ?go203
    case hy203 =>
      go_big_quiet_op
      simp only [Act.put, List.setIfInBounds_toArray, List.set_cons_zero, List.set_cons_succ] at hK
      refine ⟨_, fun u => Calls.up_same (within_any _ _ _ (by omega) (by omega)), ?_⟩
      exact hK
    simp only [Act.put, List.setIfInBounds_toArray, List.set_cons_zero, List.set_cons_succ]
    refine mild_take (v := ?v204) 3 rfl (by kernel_rfl) (by kernel_rfl) (by kernel_rfl) (fun _ _ _ h => h) (by kernel_rfl) (fun Wu K hK => ?hy204) ?go204
    case hy204 =>
      go_big_quiet_op
      simp only [Act.put, List.setIfInBounds_toArray, List.set_cons_zero, List.set_cons_succ] at hK
      exact hK
    simp only [Act.put, List.setIfInBounds_toArray, List.set_cons_zero, List.set_cons_succ]
    refine mild_take (v := ?v205) 4 rfl (by kernel_rfl) (by kernel_rfl) (by kernel_rfl) (fun _ _ _ h => h) (by kernel_rfl) (fun Wu K hK => ?hy205) ?go205
    case hy205 =>
      go_big_quiet_op
      simp only [Act.put, List.setIfInBounds_toArray, List.set_cons_zero, List.set_cons_succ] at hK
      exact hK
    simp only [Act.put, List.setIfInBounds_toArray, List.set_cons_zero, List.set_cons_succ]
    refine mild_take (v := ?v206) 5 rfl (by kernel_rfl) (by kernel_rfl) (by kernel_rfl) (fun _ _ _ h => h) (by kernel_rfl) (fun Wu K hK => ?hy206) ?go206
    case hy206 =>
      go_big_quiet_op
      simp only [Act.put, List.setIfInBounds_toArray, List.set_cons_zero, List.set_cons_succ] at hK
      exact hK
    simp only [Act.put, List.setIfInBounds_toArray, List.set_cons_zero, List.set_cons_succ]
    refine mild_take (v := ?v207) 6 rfl (by kernel_rfl) (by kernel_rfl) (by kernel_rfl) (fun _ _ _ h => h) (by kernel_rfl) (fun Wu K hK => ?hy207) ?go207
    case hy207 =>
      go_big_quiet_op
      simp only [Act.put, List.setIfInBounds_toArray, List.set_cons_zero, List.set_cons_succ] at hK
      refine ⟨_, fun u => Calls.up_same (within_any _ _ _ (by omega) (by omega)), ?_⟩
      exact hK
    simp only [Act.put, List.setIfInBounds_toArray, List.set_cons_zero, List.set_cons_succ]
    refine mild_take (v := ?v208) 7 rfl (by kernel_rfl) (by kernel_rfl) (by kernel_rfl) (fun _ _ _ h => h) (by kernel_rfl) (fun Wu K hK => ?hy208) ?go208
    case hy208 =>
      go_big_quiet_op
      simp only [Act.put, List.setIfInBounds_toArray, List.set_cons_zero, List.set_cons_succ] at hK
      exact hK
    simp only [Act.put, List.setIfInBounds_toArray, List.set_cons_zero, List.set_cons_succ]
    refine mild_take (v := ?v209) 8 rfl (by kernel_rfl) (by kernel_rfl) (by kernel_rfl) (fun _ _ _ h => h) (by kernel_rfl) (fun Wu K hK => ?hy209) ?go209
    case hy209 =>
      go_big_quiet_op
      simp only [Act.put, List.setIfInBounds_toArray, List.set_cons_zero, List.set_cons_succ] at hK
      exact hK
    simp only [Act.put, List.setIfInBounds_toArray, List.set_cons_zero, List.set_cons_succ]
    refine mild_take (v := ?v210) 9 rfl (by kernel_rfl) (by kernel_rfl) (by kernel_rfl) (fun _ _ _ h => h) (by kernel_rfl) (fun Wu K hK => ?hy210) ?go210
    case hy210 =>
      go_big_quiet_op
      simp only [Act.put, List.setIfInBounds_toArray, List.set_cons_zero, List.set_cons_succ] at hK
      refine ⟨_, fun u => Calls.up_same (within_any _ _ _ (by omega) (by omega)), ?_⟩
      exact hK
    simp only [Act.put, List.setIfInBounds_toArray, List.set_cons_zero, List.set_cons_succ]
    refine mild_take (v := ?v211) 10 rfl (by kernel_rfl) (by kernel_rfl) (by kernel_rfl) (fun _ _ _ h => h) (by kernel_rfl) (fun Wu K hK => ?hy211) ?go211
    case hy211 =>
      go_big_quiet_op
      simp only [Act.put, List.setIfInBounds_toArray, List.set_cons_zero, List.set_cons_succ] at hK
      exact hK
    simp only [Act.put, List.setIfInBounds_toArray, List.set_cons_zero, List.set_cons_succ]
    refine mild_take (v := ?v212) 11 rfl (by kernel_rfl) (by kernel_rfl) (by kernel_rfl) (fun _ _ _ h => h) (by kernel_rfl) (fun Wu K hK => ?hy212) ?go212
    case hy212 =>
      go_big_quiet_op
      simp only [Act.put, List.setIfInBounds_toArray, List.set_cons_zero, List.set_cons_succ] at hK
      exact hK
    simp only [Act.put, List.setIfInBounds_toArray, List.set_cons_zero, List.set_cons_succ]
    refine mild_take (v := ?v213) 12 rfl (by kernel_rfl) (by kernel_rfl) (by kernel_rfl) (fun _ _ _ h => h) (by kernel_rfl) (fun Wu K hK => ?hy213) ?go213
    case hy213 =>
      go_big_quiet_op
      simp only [Act.put, List.setIfInBounds_toArray, List.set_cons_zero, List.set_cons_succ] at hK
      refine ⟨_, fun u => Calls.up_same (within_any _ _ _ (by omega) (by omega)), ?_⟩
      exact hK
    simp only [Act.put, List.setIfInBounds_toArray, List.set_cons_zero, List.set_cons_succ]
    refine mild_take (v := ?v214) 13 rfl (by kernel_rfl) (by kernel_rfl) (by kernel_rfl) (fun _ _ _ h => h) (by kernel_rfl) (fun Wu K hK => ?hy214) ?go214
    case hy214 =>
      go_big_quiet_op
      simp only [Act.put, List.setIfInBounds_toArray, List.set_cons_zero, List.set_cons_succ] at hK
      exact hK
    simp only [Act.put, List.setIfInBounds_toArray, List.set_cons_zero, List.set_cons_succ]
    refine mild_take (v := ?v215) 14 rfl (by kernel_rfl) (by kernel_rfl) (by kernel_rfl) (fun _ _ _ h => h) (by kernel_rfl) (fun Wu K hK => ?hy215) ?go215
    case hy215 =>
      go_big_quiet_op
      simp only [Act.put, List.setIfInBounds_toArray, List.set_cons_zero, List.set_cons_succ] at hK
      exact hK
    simp only [Act.put, List.setIfInBounds_toArray, List.set_cons_zero, List.set_cons_succ]
    refine mild_take (v := ?v216) 15 rfl (by kernel_rfl) (by kernel_rfl) (by kernel_rfl) (fun _ _ _ h => h) (by kernel_rfl) (fun Wu K hK => ?hy216) ?go216
    case hy216 =>
      go_big_quiet_op
      simp only [Act.put, List.setIfInBounds_toArray, List.set_cons_zero, List.set_cons_succ] at hK
      refine ⟨_, fun u => Calls.up_same (within_any _ _ _ (by omega) (by omega)), ?_⟩
      exact hK
    simp only [Act.put, List.setIfInBounds_toArray, List.set_cons_zero, List.set_cons_succ]
    refine mild_take (v := ?v217) 16 rfl (by kernel_rfl) (by kernel_rfl) (by kernel_rfl) (fun _ _ _ h => h) (by kernel_rfl) (fun Wu K hK => ?hy217) ?go217
    case hy217 =>
      go_big_quiet_op
      simp only [Act.put, List.setIfInBounds_toArray, List.set_cons_zero, List.set_cons_succ] at hK
      exact hK
    simp only [Act.put, List.setIfInBounds_toArray, List.set_cons_zero, List.set_cons_succ]
    refine mild_take (v := ?v218) 17 rfl (by kernel_rfl) (by kernel_rfl) (by kernel_rfl) (fun _ _ _ h => h) (by kernel_rfl) (fun Wu K hK => ?hy218) ?go218
    case hy218 =>
      go_big_quiet_op
      simp only [Act.put, List.setIfInBounds_toArray, List.set_cons_zero, List.set_cons_succ] at hK
      exact hK
    simp only [Act.put, List.setIfInBounds_toArray, List.set_cons_zero, List.set_cons_succ]
    refine mild_take (v := ?v219) 18 rfl (by kernel_rfl) (by kernel_rfl) (by kernel_rfl) (fun _ _ _ h => h) (by kernel_rfl) (fun Wu K hK => ?hy219) ?go219
    case hy219 =>
      go_big_quiet_op
      simp only [Act.put, List.setIfInBounds_toArray, List.set_cons_zero, List.set_cons_succ] at hK
      refine ⟨_, fun u => Calls.up_same (within_any _ _ _ (by omega) (by omega)), ?_⟩
      exact hK
    simp only [Act.put, List.setIfInBounds_toArray, List.set_cons_zero, List.set_cons_succ]
    refine mild_take (v := ?v220) 19 rfl (by kernel_rfl) (by kernel_rfl) (by kernel_rfl) (fun _ _ _ h => h) (by kernel_rfl) (fun Wu K hK => ?hy220) ?go220
    case hy220 =>
      go_big_quiet_op
      simp only [Act.put, List.setIfInBounds_toArray, List.set_cons_zero, List.set_cons_succ] at hK
      exact hK
    simp only [Act.put, List.setIfInBounds_toArray, List.set_cons_zero, List.set_cons_succ]
    refine mild_take (v := ?v221) 20 rfl (by kernel_rfl) (by kernel_rfl) (by kernel_rfl) (fun _ _ _ h => h) (by kernel_rfl) (fun Wu K hK => ?hy221) ?go221
    case hy221 =>
      go_big_quiet_op
      simp only [Act.put, List.setIfInBounds_toArray, List.set_cons_zero, List.set_cons_succ] at hK
      exact hK
    simp only [Act.put, List.setIfInBounds_toArray, List.set_cons_zero, List.set_cons_succ]
    refine mild_take (v := ?v222) 21 rfl (by kernel_rfl) (by kernel_rfl) (by kernel_rfl) (fun _ _ _ h => h) (by kernel_rfl) (fun Wu K hK => ?hy222) ?go222
    case hy222 =>
      go_big_quiet_op
      simp only [Act.put, List.setIfInBounds_toArray, List.set_cons_zero, List.set_cons_succ] at hK
      exact hK
    simp only [Act.put, List.setIfInBounds_toArray, List.set_cons_zero, List.set_cons_succ]
    refine mild_take (v := ?v223) 22 rfl (by kernel_rfl) (by kernel_rfl) (by kernel_rfl) (fun _ _ _ h => h) (by kernel_rfl) (fun Wu K hK => ?hy223) ?go223
    case hy223 =>
      go_big_quiet_op
      simp only [Act.put, List.setIfInBounds_toArray, List.set_cons_zero, List.set_cons_succ] at hK
      refine ⟨_, fun u => Calls.up_same (within_any _ _ _ (by omega) (by omega)), ?_⟩
      exact hK
    simp only [Act.put, List.setIfInBounds_toArray, List.set_cons_zero, List.set_cons_succ]
    refine mild_take (v := ?v224) 23 rfl (by kernel_rfl) (by kernel_rfl) (by kernel_rfl) (fun _ _ _ h => h) (by kernel_rfl) (fun Wu K hK => ?hy224) ?go224
    case hy224 =>
      go_big_quiet_op
      simp only [Act.put, List.setIfInBounds_toArray, List.set_cons_zero, List.set_cons_succ] at hK
      exact hK
    simp only [Act.put, List.setIfInBounds_toArray, List.set_cons_zero, List.set_cons_succ]
    refine mild_take (v := ?v225) 24 rfl (by kernel_rfl) (by kernel_rfl) (by kernel_rfl) (fun _ _ _ h => h) (by kernel_rfl) (fun Wu K hK => ?hy225) ?go225
    case hy225 =>
      go_big_quiet_op
      simp only [Act.put, List.setIfInBounds_toArray, List.set_cons_zero, List.set_cons_succ] at hK
      exact hK
    simp only [Act.put, List.setIfInBounds_toArray, List.set_cons_zero, List.set_cons_succ]
    refine mild_take (v := ?v226) 25 rfl (by kernel_rfl) (by kernel_rfl) (by kernel_rfl) (fun _ _ _ h => h) (by kernel_rfl) (fun Wu K hK => ?hy226) ?go226
    case hy226 =>
      go_big_quiet_op
      simp only [Act.put, List.setIfInBounds_toArray, List.set_cons_zero, List.set_cons_succ] at hK
      exact hK
    simp only [Act.put, List.setIfInBounds_toArray, List.set_cons_zero, List.set_cons_succ]
    refine mild_take (v := ?v227) 26 rfl (by kernel_rfl) (by kernel_rfl) (by kernel_rfl) (fun _ _ _ h => h) (by kernel_rfl) (fun Wu K hK => ?hy227) ?go227
    case hy227 =>
      go_big_quiet_op
      simp only [Act.put, List.setIfInBounds_toArray, List.set_cons_zero, List.set_cons_succ] at hK
      exact hK
    simp only [Act.put, List.setIfInBounds_toArray, List.set_cons_zero, List.set_cons_succ]
    intro W
    clear uc uf
    have hz0 : w.heap.size + 2 ≤ W.1.heap.size := by have := W.2.size; simpa using this
    have bpW : Bx W.1 w.heap.size x (.slice a len cap) := bp0.next W.2
    have brW : Bx W.1 (w.heap.size + 1) zeroPk (.slice none 0 0) := br0.next W.2
    have hsW := hsl.below (next (ba (ba (Below.refl _ _))) W.2)
    have BW : Below w.heap.size w W.1 := next (ba (ba (Below.refl _ _))) W.2
    have BW0 := W.2
    clear bp0 br0 hsl
    refine up_two 27 29 (by kernel_rfl) rfl rfl ?_ ?_
    · go_wp2_with (go_at_call 28; refine (cut_any a x.z len cap 4 _ hsW (by omega)).mono ?_; rintro e w1 ⟨v1, rfl, hown1, hb1⟩; obtain ⟨a1, cap1, rfl, hs1⟩ := hown1.sl' HN.out; have lo1 := hown1.lo)
      refine ⟨by exact next BW0 hb1, fun u => ?_⟩
      refine up_raise (by exact next (next BW0 hb1) u.2) ?_
      refine mild_take (v := ?v228) 28 rfl (by kernel_rfl) (by kernel_rfl) (by kernel_rfl) (fun _ _ _ h => h) (by kernel_rfl) (fun Wu K hK => ?hy228) ?go228
      case hy228 =>
        go_big_quiet_op
        simp only [Act.put, List.setIfInBounds_toArray, List.set_cons_zero, List.set_cons_succ] at hK
        exact hK
      simp only [Act.put, List.setIfInBounds_toArray, List.set_cons_zero, List.set_cons_succ]
      intro W2
      have B2 : Below W.1.heap.size W.1 W2.1 := next (next hb1 u.2) W2.2
      have bp2 := bpW.next B2
      have br2 := brW.next B2
      have hs2 := hs1.below (next u.2 W2.2)
      have lo2 : ∀ ad : Addr, a1 = some ad → W.1.heap.size ≤ ad.block ∧ ad.block < W2.1.heap.size := fun ad e => ⟨(lo1 ad e).1, by have := (lo1 ad e).2; have := u.2.size; have := W2.2.size; omega⟩
      have z2 : W.1.heap.size ≤ W2.1.heap.size := B2.size
      have BX := next BW B2
      refine up_list 29 (by kernel_rfl) rfl ?_
      go_wp2
      refine ⟨by exact ba W2.2, fun u3 => ?_⟩
      have bq3 := (Bx.made W2.1 zeroPk (.slice none 0 0)).next (by exact u3.2)
      have B3 : Below W2.1.heap.size W2.1 u3.1 := next (ba (Below.refl _ _)) u3.2
      have bp3 := bp2.next B3
      have br3 := br2.next B3
      have hs3 := hs2.below B3
      have BX3 := next BX B3
      have BU : Below u.1.heap.size u.1 u3.1 := next W2.2 B3
      have hzu : u.1.heap.size ≤ W2.1.heap.size := W2.2.size
      generalize u3.1 = wq at *
      generalize W2.1.heap.size = gq at *
      clear u3 B2 B3 bp2 br2 hs2
      have fq := bq3.fz
      obtain ⟨q0, q1, q2, q3, q4, q5, q6, q7, q8, _, _⟩ := id bq3
      refine up_list 30 (by kernel_rfl) rfl ?_
      go_wp2
      refine ⟨nine_below (y := playX x) BU hzu, fun u4 => ?_⟩
      have PLx : PL w u4.1 x a len cap gq a1 n cap1 := PL.of bp3 br3 bq3 hs3 BX3 (by omega) (fun ad e => by have := lo2 ad e; have := bq3.lt; omega) u4.2
      refine up_done (by kernel_rfl) ?_
      go_wp2
      go_meet
      case rel => exact ⟨gq, a1, cap1, rfl, PLx⟩
    · go_wp2
      refine ⟨by exact ba BW0, fun u => ?_⟩
      have bq1 := (Bx.made W.1 zeroPk (.slice none 0 0)).next (by exact u.2)
      have B1 : Below W.1.heap.size W.1 u.1 := next (ba (Below.refl _ _)) u.2
      have hsu := hsW.below B1
      have hzu : W.1.heap.size < u.1.heap.size := by have := u.2.size; simp at this; omega
      refine up_list 27 (by kernel_rfl) rfl ?_
      go_wp2_with (go_at_call 28; refine (cut_any a x.z len cap 4 _ hsu (by omega)).mono ?_; rintro e w1 ⟨v1, rfl, hown1, hb1⟩; obtain ⟨a1, cap1, rfl, hs1⟩ := hown1.sl' HN.out; have lo1 := hown1.lo)
      refine ⟨by exact next (next BW0 B1) hb1, fun u2 => ?_⟩
      refine up_list 28 (by kernel_rfl) rfl ?_
      go_wp2
      refine ⟨by exact next (next (next BW0 B1) hb1) u2.2, fun u3 => ?_⟩
      have B3 : Below u.1.heap.size u.1 u3.1 := next (next hb1 u2.2) u3.2
      have bq3 := bq1.next B3
      have bp3 := (bpW.next B1).next B3
      have br3 := (brW.next B1).next B3
      have hs3 := hs1.below (next u2.2 u3.2)
      have BX3 := next (next BW B1) B3
      have BU := next (next BW0 B1) B3
      have hzq : w1.heap.size ≤ u3.1.heap.size := by have := u2.2.size; have := u3.2.size; omega
      generalize u3.1 = wq at *
      clear u3 B3
      have fq := bq3.fz
      obtain ⟨q0, q1, q2, q3, q4, q5, q6, q7, q8, _, _⟩ := id bq3
      refine up_list 30 (by kernel_rfl) rfl ?_
      go_wp2
      refine ⟨nine_below (y := playX x) BU (by simpa using hz0), fun u4 => ?_⟩
      have PLx : PL w u4.1 x a len cap W.1.heap.size a1 n cap1 := PL.of bp3 br3 bq3 hs3 BX3 (by omega) (fun ad e => by have := lo1 ad e; have := hzq; omega) u4.2
      refine up_done (by kernel_rfl) ?_
      go_wp2
      go_meet
      case rel => exact ⟨_, a1, cap1, rfl, PLx⟩
  case rest =>
    obtain ⟨g, a1, cap1, rfl, hbp, hbr, hbq, gl, hs, far, BW⟩ := hcut
    clear bp0 br0 k0 f0 t0 i0 l0 p0 s0
    obtain ⟨c, hc, m0, m1⟩ : ∃ c, how % 40 = c ∧ 0 ≤ c ∧ c < 40 := ⟨_, rfl, by omega, by omega⟩
    have HP : Hid (how % 40 = c) := hc
    go_upto_block 0 with (go_at_call 11; refine (within_any _ _ _ (by omega) (by omega)).mono ?_; rintro e w1 ⟨rfl, rfl⟩; rw [hc])
    clear hc
    have r4 : R64 x.z → R64 (x.z.take 4) := fun h => h.take 4
    have hright := play_right x
    go_cut [36] (fun _ wx => ∃ (y : Pk) (a2 : Option Addr) (n2 c2 : Nat), Bx wx g y (.slice a2 n2 c2) ∧ Bx wx (w.heap.size + 1) zeroPk (.slice none 0 0) ∧ Sl wx a2 n2 c2 y.z ∧ (∀ ad : Addr, a2 = some ad → w.heap.size + 2 ≤ ad.block ∧ ad.block < wx.heap.size) ∧ n2 ≤ 6 ∧ (c < 31 → y.right = true) ∧ (R64 x.z → R64 y.z) ∧ Below w.heap.size w wx)
    case first =>
      obtain ⟨s0, s1, s2, s3, s4, s5, s6, s7, s8, sf, slt⟩ := id hbp
      obtain ⟨q0, q1, q2, q3, q4, q5, q6, q7, q8, qf, qlt⟩ := id hbq
      have fr : ∀ (o : Nat) (u : Value), Bx (wc.setCell ⟨g, o, none⟩ u) (w.heap.size + 1) zeroPk (.slice none 0 0) := fun o u => hbr.far (by simp only; omega)
      have f1 : ∀ (o : Nat) (u : Value), Sl (wc.setCell ⟨g, o, none⟩ u) a1 n cap1 (x.z.take 4) := fun o u => hs.far (fun ad e => (far ad e).1)
      have fb : ∀ (o : Nat) (u : Value), Below w.heap.size w (wc.setCell ⟨g, o, none⟩ u) := fun o u => BW.setCell (by simp only; omega) _
      by_cases hlo : c < 31
      · have n31 : (c == 31) = false := by simp; omega
        have n32 : (c == 32) = false := by simp; omega
        have n33 : (c == 33) = false := by simp; omega
        have n34 : (c == 34) = false := by simp; omega
        have n35 : (c == 35) = false := by simp; omega
        have n36 : (c == 36) = false := by simp; omega
        have n37 : (c == 37) = false := by simp; omega
        have n38 : (c == 38) = false := by simp; omega
        have n39 : (c == 39) = false := by simp; omega
        go_wp2
        go_meet
        case rel => exact ⟨playX x, a1, n, cap1, hbq, hbr, hs, fun ad e => (far ad e).2, by omega, fun _ => hright, r4, BW⟩
      · have hh : c = 31 ∨ c = 32 ∨ c = 33 ∨ c = 34 ∨ c = 35 ∨ c = 36 ∨ c = 37 ∨ c = 38 ∨ c = 39 := by omega
        rcases hh with rfl | rfl | rfl | rfl | rfl | rfl | rfl | rfl | rfl
        · go_wp2
          go_meet
          case rel => exact ⟨_, a1, n, cap1, hbq.setK _, fr _ _, f1 _ _, fun ad e => by have := (far ad e).2; simpa using this, by omega, fun h => by omega, r4, fb _ _⟩
        · go_wp2
          go_meet
          case rel => exact ⟨_, a1, n, cap1, hbq.setF _, fr _ _, f1 _ _, fun ad e => by have := (far ad e).2; simpa using this, by omega, fun h => by omega, r4, fb _ _⟩
        · go_wp2
          go_meet
          case rel => exact ⟨_, a1, n, cap1, hbq.setT _, fr _ _, f1 _ _, fun ad e => by have := (far ad e).2; simpa using this, by omega, fun h => by omega, r4, fb _ _⟩
        · go_wp2
          go_meet
          case rel => exact ⟨_, a1, n, cap1, hbq.setI _, fr _ _, f1 _ _, fun ad e => by have := (far ad e).2; simpa using this, by omega, fun h => by omega, r4, fb _ _⟩
        · go_wp2
          go_meet
          case rel => exact ⟨_, a1, n, cap1, hbq.setL _, fr _ _, f1 _ _, fun ad e => by have := (far ad e).2; simpa using this, by omega, fun h => by omega, r4, fb _ _⟩
        · go_wp2
          go_meet
          case rel => exact ⟨_, a1, n, cap1, hbq.setP _, fr _ _, f1 _ _, fun ad e => by have := (far ad e).2; simpa using this, by omega, fun h => by omega, r4, fb _ _⟩
        · go_wp2
          go_meet
          case rel => exact ⟨_, a1, n, cap1, hbq.setS _, fr _ _, f1 _ _, fun ad e => by have := (far ad e).2; simpa using this, by omega, fun h => by omega, r4, fb _ _⟩
        · have hsx := hsl.below BW
          obtain ⟨n6, hn6⟩ : ∃ n6, (x.z.take 6).length = n6 := ⟨_, rfl⟩
          have HN6 : Hid ((x.z.take 6).length = n6) := hn6
          have h6 : n6 ≤ 6 := by rw [← hn6]; simp; omega
          clear hn6
          go_wp2_with (go_at_call 28; refine (cut_any a x.z len cap 6 _ hsx (by omega)).mono ?_; rintro e w2 ⟨v2, rfl, hown2, hb2⟩; obtain ⟨a2, cap2, rfl, hs2⟩ := hown2.sl' HN6.out; have lo2 := hown2.lo; have hbq2 := hbq.next hb2; have hqf := hbq2.fz; have hq8 := hbq2.c8)
          go_meet
          case rel => exact ⟨_, a2, n6, cap2, hbq2.setZ (x.z.take 6) _, (hbr.next hb2).far (by simp only; omega), hs2.far (fun ad e => by have := lo2 ad e; simp only; omega), fun ad e => by have := lo2 ad e; simp only [World.size_setCell]; omega, h6, fun h => by omega, fun h => h.take 6, (next BW hb2).setCell (by simp only; omega) _⟩
        · go_wp2_with (go_at_call 11; refine (within_any _ _ _ (by omega) (by omega)).mono ?_; rintro e w1 ⟨rfl, rfl⟩)
          go_meet
          case rel => exact ⟨_, a1, n, cap1, hbq.setI _, fr _ _, f1 _ _, fun ad e => by have := (far ad e).2; simpa using this, by omega, fun h => by omega, r4, fb _ _⟩
    case rest =>
      obtain ⟨y, a2, n2, c2, by2, br2, hs2, lo2, hn2, hr2, h64, B2⟩ := hcut
      have hi2 : ∀ ad : Addr, a2 = some ad → ad.block < wc.heap.size := fun ad e => (lo2 ad e).2
      obtain ⟨y0, y1, y2, y3, y4, y5, y6, y7, y8, yf, ylt⟩ := by2
      obtain ⟨r0, r1, r2, r3, r4', r5, r6, r7, r8, rf, rlt⟩ := br2
      clear hbp hbr hbq hs BW hsl r4 hright far
      have hne : w.heap.size + 1 ≠ g := by omega
      go_wp2
      refine bodyPost_ret (v := y.val (.slice a2 n2 c2)) (by simp [results, Try.results10, go_sem, *]) rfl ⟨_, rfl, y, a2, n2, c2, rfl, ?_, hn2, fun h => hr2 (by rw [← HP.out]; exact h), h64, ?_, ?_⟩
      · exact far9 (P := fun V => Sl V a2 n2 c2 y.z) (fun V o u h => h.far (fun ad e => by have := lo2 ad e; simp only; omega)) hs2
      · intro ad e
        refine ⟨by have := lo2 ad e; omega, ?_⟩
        have := hi2 ad e
        simpa using this
      · exact far9 (P := fun V => Below w.heap.size w V) (fun V o u h => h.setCell (by simp only; omega) _) B2
end Go.Proofs.Ytjdbjmfkheffdaa
end
