/- The contract of chapletplay.Packet, once more: what comes out may be appended to. Conditions: as stated.
The contract of the document's own Same. Conditions: as stated.
What HomePlays keeps of its own: an act's cells (Ab), what it makes (BH.own'), words to append to. Conditions: as each theorem states them.
A row of whole numbers that may be written is a slice that can be read. Conditions: as the theorem states them.
The walk of HomePlays. Conditions: as the theorem states them. -/
import Derived.Test.YtgeiagndpfdnlaaPart10
import Derived.Test.YtgeiagndpfdnlaaPart2
section
namespace Go.Proofs.Ytgeiagndpfdnlaa
open Go.RowKit Go.Maps
set_option linter.unusedVariables false
set_option maxRecDepth 20000

/-- A slice that can be read, of memory that is new. -/
structure SO (base : Nat) (W : World) (a : Option Addr) (n cap : Nat) (l : List Int) : Prop where
  sl : Sl W a n cap l
  ow : Own W base (.slice a n cap) l
theorem own_mono {w : World} {b b' : Nat} {v : Value} {l : List Int} (h : Own w b v l) (hb : b' ≤ b) : Own w b' v l := by
  obtain ⟨h1, h2⟩ := h
  exact ⟨h1, h2.imp id (fun ⟨g, c, cur, e, hg, r⟩ => ⟨g, c, cur, e, Nat.le_trans hb hg, r⟩)⟩
theorem SO.below {base : Nat} {W W' : World} {a : Option Addr} {n cap : Nat} {l : List Int} (h : SO base W a n cap l) (hb : Below W.heap.size W W') : SO base W' a n cap l := ⟨h.sl.below hb, h.ow.below hb⟩
theorem SO.far {base : Nat} {W : World} {a : Option Addr} {n cap g o : Nat} {u : Value} {l : List Int} (h : SO base W a n cap l) (hp : ∀ x : Addr, a = some x → x.block ≠ g) : SO base (W.setCell ⟨g, o, none⟩ u) a n cap l :=
  ⟨h.sl.far hp, h.ow.keep (Keep.one W g o u) (fun k hk e => by
    cases a with
    | none => cases hk
    | some x => exact hp x rfl ((Option.some.inj hk).trans e))⟩
/-- What comes out: a packet, its words of the call's own. -/
def Played2 (x : Pk) (how : Int) (w : World) (v : Value) (w' : World) : Prop :=
  ∃ (y : Pk) (a : Option Addr) (n cap : Nat), v = y.val (.slice a n cap) ∧ SO w.heap.size w' a n cap y.z ∧ n ≤ 6 ∧ (how % 40 < 31 → y.right = true) ∧ (In64 x.l → In64 y.l) ∧ (∀ ad : Addr, a = some ad → w.heap.size ≤ ad.block ∧ ad.block < w'.heap.size) ∧ Below w.heap.size w w'
/-- Behind the first statement. -/
structure PL2 (w wx : World) (x : Pk) (a : Option Addr) (len cap g : Nat) (a1 : Option Addr) (n cap1 : Nat) : Prop where
  bp : Bx wx w.heap.size x (.slice a len cap)
  br : Bx wx (w.heap.size + 1) zeroPk (.slice none 0 0)
  bq : Bx wx g (playX x) (.slice a1 n cap1)
  gl : w.heap.size + 2 ≤ g
  sl : SO w.heap.size wx a1 n cap1 (x.z.take 4)
  far : ∀ ad : Addr, a1 = some ad → ad.block ≠ g ∧ w.heap.size + 2 ≤ ad.block ∧ ad.block < wx.heap.size
  bl : Below w.heap.size w wx

theorem PL2.of {w wq wf : World} {x : Pk} {a : Option Addr} {len cap g : Nat} {a1 : Option Addr} {n cap1 : Nat} (bp : Bx wq w.heap.size x (.slice a len cap)) (br : Bx wq (w.heap.size + 1) zeroPk (.slice none 0 0)) (bq : Bx wq g zeroPk (.slice none 0 0))
    (sl : SO w.heap.size wq a1 n cap1 (x.z.take 4)) (bl : Below w.heap.size w wq) (gl : w.heap.size + 2 ≤ g) (far : ∀ ad : Addr, a1 = some ad → ad.block ≠ g ∧ w.heap.size + 2 ≤ ad.block ∧ ad.block < wq.heap.size)
    (hf : Below (nine wq g (playX x) (.slice a1 n cap1)).heap.size (nine wq g (playX x) (.slice a1 n cap1)) wf) : PL2 w wf x a len cap g a1 n cap1 := by
  have f1 := far9 (g := g) (y := playX x) (v := .slice a1 n cap1) (P := fun V => Bx V w.heap.size x (.slice a len cap)) (fun V o u h => h.far (by simp only; omega)) bp
  have f2 := far9 (g := g) (y := playX x) (v := .slice a1 n cap1) (P := fun V => Bx V (w.heap.size + 1) zeroPk (.slice none 0 0)) (fun V o u h => h.far (by simp only; omega)) br
  have f3 := far9 (g := g) (y := playX x) (v := .slice a1 n cap1) (P := fun V => SO w.heap.size V a1 n cap1 (x.z.take 4)) (fun V o u h => h.far (fun ad e => (far ad e).1)) sl
  have f4 := far9 (g := g) (y := playX x) (v := .slice a1 n cap1) (P := fun V => Below w.heap.size w V) (fun V o u h => h.setCell (by simp only; omega) _) bl
  have f5 := bq.put (playX x) (.slice a1 n cap1)
  exact ⟨f1.next hf, f2.next hf, f5.next hf, gl, f3.below hf, fun ad e => ⟨(far ad e).1, (far ad e).2.1, Nat.lt_of_lt_of_le (far ad e).2.2 (by have := hf.size; simpa [nine] using this)⟩, next f4 hf⟩

set_option maxHeartbeats 4000000 in
set_option maxRecDepth 20000 in
theorem play2_any (x : Pk) (how : Int) (a : Option Addr) (len cap : Nat) (w : World) (hsl : Sl w a len cap x.z) :
    Calls Try.prog 19 #[x.val (.slice a len cap), .int .i64 how] w fun e w' => ∃ v, e = .returned v ∧ Played2 x how w v w' := by
  have k0 : 0 ≤ x.k % 9 ∧ x.k % 9 < 9 := by omega
  have f0 : 0 ≤ x.f % 4 ∧ x.f % 4 < 4 := by omega
  have t0 : 0 ≤ x.t % 4 ∧ x.t % 4 < 4 := by omega
  have i0 : 0 ≤ x.i % 5 ∧ x.i % 5 < 5 := by omega
  have l0 : 0 ≤ x.l % 4 ∧ x.l % 4 < 4 := by omega
  have p0 : 0 ≤ x.p % 5 ∧ x.p % 5 < 5 := by omega
  have s0 : 0 ≤ x.s % 3 ∧ x.s % 3 < 3 := by omega
  obtain ⟨n, hn⟩ : ∃ n, (x.z.take 4).length = n := ⟨_, rfl⟩
  have HN : Hid ((x.z.take 4).length = n) := hn
  have hn4 : n ≤ 4 := by rw [← hn]; simp; omega
  clear hn
  have bp0 := (Bx.made w x (.slice a len cap)).next (ba (o := .cells #[.int .i64 zeroPk.k, .int .i64 zeroPk.f, .int .i64 zeroPk.t, .int .i64 zeroPk.i, .int .i64 zeroPk.l, .int .i64 zeroPk.p, .int .i64 zeroPk.s, .bool zeroPk.fl, .slice none 0 0] 32) (Below.refl _ _))
  have br0 := Bx.made' (w.alloc (.cells #[.int .i64 x.k, .int .i64 x.f, .int .i64 x.t, .int .i64 x.i, .int .i64 x.l, .int .i64 x.p, .int .i64 x.s, .bool x.fl, .slice a len cap] 32)) zeroPk (.slice none 0 0) (w.heap.size + 1) (by simp)
  unfold Pk.val
  go_enter Try.func19, Try.ntmps19
  go_upto_region 1 with fail
  go_cut [5] (fun v wx => ∃ (g : Nat) (a1 : Option Addr) (cap1 : Nat), v = .pointer (some ⟨g, 0, none⟩) ∧ PL2 w wx x a len cap g a1 n cap1)
  case first =>
    have uc := @Up.cell2
    have uf := @Up.frozen2
    refine wp_region_mild 31 rfl (by kernel_rfl) ?_
    refine mild_take (v := ?v201) 0 rfl (by kernel_rfl) (by kernel_rfl) (by kernel_rfl) (fun _ _ _ h => h) (by kernel_rfl) (fun Wu K hK => ?hy201) ?go201
    case hy201 =>
      go_big_quiet_op
      simp only [Act.put, List.setIfInBounds_toArray, List.set_cons_zero, List.set_cons_succ] at hK
      exact hK
    simp only [Act.put, List.setIfInBounds_toArray, List.set_cons_zero, List.set_cons_succ]
    refine mild_take (v := ?v202) 1 rfl (by kernel_rfl) (by kernel_rfl) (by kernel_rfl) (fun _ _ _ h => h) (by kernel_rfl) (fun Wu K hK => ?hy202) ?go202
    case hy202 =>
      go_big_quiet_op
      simp only [Act.put, List.setIfInBounds_toArray, List.set_cons_zero, List.set_cons_succ] at hK
      exact hK
    simp only [Act.put, List.setIfInBounds_toArray, List.set_cons_zero, List.set_cons_succ]
    refine mild_take (v := ?v203) 2 rfl (by kernel_rfl) (by kernel_rfl) (by kernel_rfl) (fun _ _ _ h => h) (by kernel_rfl) (fun Wu K hK => ?hy203) ?go203
    case hy203 =>
      go_big_quiet_op
      simp only [Act.put, List.setIfInBounds_toArray, List.set_cons_zero, List.set_cons_succ] at hK
      refine ⟨_, fun u => Calls.up_same (within_any _ _ _ (by omega) (by omega)), ?_⟩
      exact hK
    simp only [Act.put, List.setIfInBounds_toArray, List.set_cons_zero, List.set_cons_succ]
    refine mild_take (v := ?v204) 3 rfl (by kernel_rfl) (by kernel_rfl) (by kernel_rfl) (fun _ _ _ h => h) (by kernel_rfl) (fun Wu K hK => ?hy204) ?go204
    case hy204 =>
      go_big_quiet_op
      simp only [Act.put, List.setIfInBounds_toArray, List.set_cons_zero, List.set_cons_succ] at hK
      exact hK
    simp only [Act.put, List.setIfInBounds_toArray, List.set_cons_zero, List.set_cons_succ]
    refine mild_take (v := ?v205) 4 rfl (by kernel_rfl) (by kernel_rfl) (by kernel_rfl) (fun _ _ _ h => h) (by kernel_rfl) (fun Wu K hK => ?hy205) ?go205
    case hy205 =>
      go_big_quiet_op
      simp only [Act.put, List.setIfInBounds_toArray, List.set_cons_zero, List.set_cons_succ] at hK
      exact hK
    simp only [Act.put, List.setIfInBounds_toArray, List.set_cons_zero, List.set_cons_succ]
    refine mild_take (v := ?v206) 5 rfl (by kernel_rfl) (by kernel_rfl) (by kernel_rfl) (fun _ _ _ h => h) (by kernel_rfl) (fun Wu K hK => ?hy206) ?go206
    case hy206 =>
      go_big_quiet_op
      simp only [Act.put, List.setIfInBounds_toArray, List.set_cons_zero, List.set_cons_succ] at hK
      exact hK
    simp only [Act.put, List.setIfInBounds_toArray, List.set_cons_zero, List.set_cons_succ]
    refine mild_take (v := ?v207) 6 rfl (by kernel_rfl) (by kernel_rfl) (by kernel_rfl) (fun _ _ _ h => h) (by kernel_rfl) (fun Wu K hK => ?hy207) ?go207
    case hy207 =>
      go_big_quiet_op
      simp only [Act.put, List.setIfInBounds_toArray, List.set_cons_zero, List.set_cons_succ] at hK
      refine ⟨_, fun u => Calls.up_same (within_any _ _ _ (by omega) (by omega)), ?_⟩
      exact hK
    simp only [Act.put, List.setIfInBounds_toArray, List.set_cons_zero, List.set_cons_succ]
    refine mild_take (v := ?v208) 7 rfl (by kernel_rfl) (by kernel_rfl) (by kernel_rfl) (fun _ _ _ h => h) (by kernel_rfl) (fun Wu K hK => ?hy208) ?go208
    case hy208 =>
      go_big_quiet_op
      simp only [Act.put, List.setIfInBounds_toArray, List.set_cons_zero, List.set_cons_succ] at hK
      exact hK
    simp only [Act.put, List.setIfInBounds_toArray, List.set_cons_zero, List.set_cons_succ]
    refine mild_take (v := ?v209) 8 rfl (by kernel_rfl) (by kernel_rfl) (by kernel_rfl) (fun _ _ _ h => h) (by kernel_rfl) (fun Wu K hK => ?hy209) ?go209
    case hy209 =>
      go_big_quiet_op
      simp only [Act.put, List.setIfInBounds_toArray, List.set_cons_zero, List.set_cons_succ] at hK
      exact hK
    simp only [Act.put, List.setIfInBounds_toArray, List.set_cons_zero, List.set_cons_succ]
    refine mild_take (v := ?v210) 9 rfl (by kernel_rfl) (by kernel_rfl) (by kernel_rfl) (fun _ _ _ h => h) (by kernel_rfl) (fun Wu K hK => ?hy210) ?go210
    case hy210 =>
      go_big_quiet_op
      simp only [Act.put, List.setIfInBounds_toArray, List.set_cons_zero, List.set_cons_succ] at hK
      refine ⟨_, fun u => Calls.up_same (within_any _ _ _ (by omega) (by omega)), ?_⟩
      exact hK
    simp only [Act.put, List.setIfInBounds_toArray, List.set_cons_zero, List.set_cons_succ]
    refine mild_take (v := ?v211) 10 rfl (by kernel_rfl) (by kernel_rfl) (by kernel_rfl) (fun _ _ _ h => h) (by kernel_rfl) (fun Wu K hK => ?hy211) ?go211
    case hy211 =>
      go_big_quiet_op
      simp only [Act.put, List.setIfInBounds_toArray, List.set_cons_zero, List.set_cons_succ] at hK
      exact hK
    simp only [Act.put, List.setIfInBounds_toArray, List.set_cons_zero, List.set_cons_succ]
    refine mild_take (v := ?v212) 11 rfl (by kernel_rfl) (by kernel_rfl) (by kernel_rfl) (fun _ _ _ h => h) (by kernel_rfl) (fun Wu K hK => ?hy212) ?go212
    case hy212 =>
      go_big_quiet_op
      simp only [Act.put, List.setIfInBounds_toArray, List.set_cons_zero, List.set_cons_succ] at hK
      exact hK
    simp only [Act.put, List.setIfInBounds_toArray, List.set_cons_zero, List.set_cons_succ]
    refine mild_take (v := ?v213) 12 rfl (by kernel_rfl) (by kernel_rfl) (by kernel_rfl) (fun _ _ _ h => h) (by kernel_rfl) (fun Wu K hK => ?hy213) ?go213
    case hy213 =>
      go_big_quiet_op
      simp only [Act.put, List.setIfInBounds_toArray, List.set_cons_zero, List.set_cons_succ] at hK
      refine ⟨_, fun u => Calls.up_same (within_any _ _ _ (by omega) (by omega)), ?_⟩
      exact hK
    simp only [Act.put, List.setIfInBounds_toArray, List.set_cons_zero, List.set_cons_succ]
    refine mild_take (v := ?v214) 13 rfl (by kernel_rfl) (by kernel_rfl) (by kernel_rfl) (fun _ _ _ h => h) (by kernel_rfl) (fun Wu K hK => ?hy214) ?go214
    case hy214 =>
      go_big_quiet_op
      simp only [Act.put, List.setIfInBounds_toArray, List.set_cons_zero, List.set_cons_succ] at hK
      exact hK
    simp only [Act.put, List.setIfInBounds_toArray, List.set_cons_zero, List.set_cons_succ]
    refine mild_take (v := ?v215) 14 rfl (by kernel_rfl) (by kernel_rfl) (by kernel_rfl) (fun _ _ _ h => h) (by kernel_rfl) (fun Wu K hK => ?hy215) ?go215
    case hy215 =>
      go_big_quiet_op
      simp only [Act.put, List.setIfInBounds_toArray, List.set_cons_zero, List.set_cons_succ] at hK
      exact hK
    simp only [Act.put, List.setIfInBounds_toArray, List.set_cons_zero, List.set_cons_succ]
    refine mild_take (v := ?v216) 15 rfl (by kernel_rfl) (by kernel_rfl) (by kernel_rfl) (fun _ _ _ h => h) (by kernel_rfl) (fun Wu K hK => ?hy216) ?go216
    case hy216 =>
      go_big_quiet_op
      simp only [Act.put, List.setIfInBounds_toArray, List.set_cons_zero, List.set_cons_succ] at hK
      refine ⟨_, fun u => Calls.up_same (within_any _ _ _ (by omega) (by omega)), ?_⟩
      exact hK
    simp only [Act.put, List.setIfInBounds_toArray, List.set_cons_zero, List.set_cons_succ]
    refine mild_take (v := ?v217) 16 rfl (by kernel_rfl) (by kernel_rfl) (by kernel_rfl) (fun _ _ _ h => h) (by kernel_rfl) (fun Wu K hK => ?hy217) ?go217
    case hy217 =>
      go_big_quiet_op
      simp only [Act.put, List.setIfInBounds_toArray, List.set_cons_zero, List.set_cons_succ] at hK
      exact hK
    simp only [Act.put, List.setIfInBounds_toArray, List.set_cons_zero, List.set_cons_succ]
    refine mild_take (v := ?v218) 17 rfl (by kernel_rfl) (by kernel_rfl) (by kernel_rfl) (fun _ _ _ h => h) (by kernel_rfl) (fun Wu K hK => ?hy218) ?go218
    case hy218 =>
      go_big_quiet_op
      simp only [Act.put, List.setIfInBounds_toArray, List.set_cons_zero, List.set_cons_succ] at hK
      exact hK
    simp only [Act.put, List.setIfInBounds_toArray, List.set_cons_zero, List.set_cons_succ]
    refine mild_take (v := ?v219) 18 rfl (by kernel_rfl) (by kernel_rfl) (by kernel_rfl) (fun _ _ _ h => h) (by kernel_rfl) (fun Wu K hK => ?hy219) ?go219
    case hy219 =>
      go_big_quiet_op
      simp only [Act.put, List.setIfInBounds_toArray, List.set_cons_zero, List.set_cons_succ] at hK
      refine ⟨_, fun u => Calls.up_same (within_any _ _ _ (by omega) (by omega)), ?_⟩
      exact hK
    simp only [Act.put, List.setIfInBounds_toArray, List.set_cons_zero, List.set_cons_succ]
    refine mild_take (v := ?v220) 19 rfl (by kernel_rfl) (by kernel_rfl) (by kernel_rfl) (fun _ _ _ h => h) (by kernel_rfl) (fun Wu K hK => ?hy220) ?go220
    case hy220 =>
      go_big_quiet_op
      simp only [Act.put, List.setIfInBounds_toArray, List.set_cons_zero, List.set_cons_succ] at hK
      exact hK
    simp only [Act.put, List.setIfInBounds_toArray, List.set_cons_zero, List.set_cons_succ]
    refine mild_take (v := ?v221) 20 rfl (by kernel_rfl) (by kernel_rfl) (by kernel_rfl) (fun _ _ _ h => h) (by kernel_rfl) (fun Wu K hK => ?hy221) ?go221
    case hy221 =>
      go_big_quiet_op
      simp only [Act.put, List.setIfInBounds_toArray, List.set_cons_zero, List.set_cons_succ] at hK
      exact hK
    simp only [Act.put, List.setIfInBounds_toArray, List.set_cons_zero, List.set_cons_succ]
    refine mild_take (v := ?v222) 21 rfl (by kernel_rfl) (by kernel_rfl) (by kernel_rfl) (fun _ _ _ h => h) (by kernel_rfl) (fun Wu K hK => ?hy222) ?go222
    case hy222 =>
      go_big_quiet_op
      simp only [Act.put, List.setIfInBounds_toArray, List.set_cons_zero, List.set_cons_succ] at hK
      exact hK
    simp only [Act.put, List.setIfInBounds_toArray, List.set_cons_zero, List.set_cons_succ]
    refine mild_take (v := ?v223) 22 rfl (by kernel_rfl) (by kernel_rfl) (by kernel_rfl) (fun _ _ _ h => h) (by kernel_rfl) (fun Wu K hK => ?hy223) ?go223
    case hy223 =>
      go_big_quiet_op
      simp only [Act.put, List.setIfInBounds_toArray, List.set_cons_zero, List.set_cons_succ] at hK
      refine ⟨_, fun u => Calls.up_same (within_any _ _ _ (by omega) (by omega)), ?_⟩
      exact hK
    simp only [Act.put, List.setIfInBounds_toArray, List.set_cons_zero, List.set_cons_succ]
    refine mild_take (v := ?v224) 23 rfl (by kernel_rfl) (by kernel_rfl) (by kernel_rfl) (fun _ _ _ h => h) (by kernel_rfl) (fun Wu K hK => ?hy224) ?go224
    case hy224 =>
      go_big_quiet_op
      simp only [Act.put, List.setIfInBounds_toArray, List.set_cons_zero, List.set_cons_succ] at hK
      exact hK
    simp only [Act.put, List.setIfInBounds_toArray, List.set_cons_zero, List.set_cons_succ]
    refine mild_take (v := ?v225) 24 rfl (by kernel_rfl) (by kernel_rfl) (by kernel_rfl) (fun _ _ _ h => h) (by kernel_rfl) (fun Wu K hK => ?hy225) ?go225
    case hy225 =>
      go_big_quiet_op
      simp only [Act.put, List.setIfInBounds_toArray, List.set_cons_zero, List.set_cons_succ] at hK
      exact hK
    simp only [Act.put, List.setIfInBounds_toArray, List.set_cons_zero, List.set_cons_succ]
    refine mild_take (v := ?v226) 25 rfl (by kernel_rfl) (by kernel_rfl) (by kernel_rfl) (fun _ _ _ h => h) (by kernel_rfl) (fun Wu K hK => ?hy226) ?go226
    case hy226 =>
      go_big_quiet_op
      simp only [Act.put, List.setIfInBounds_toArray, List.set_cons_zero, List.set_cons_succ] at hK
      exact hK
    simp only [Act.put, List.setIfInBounds_toArray, List.set_cons_zero, List.set_cons_succ]
    refine mild_take (v := ?v227) 26 rfl (by kernel_rfl) (by kernel_rfl) (by kernel_rfl) (fun _ _ _ h => h) (by kernel_rfl) (fun Wu K hK => ?hy227) ?go227
    case hy227 =>
      go_big_quiet_op
      simp only [Act.put, List.setIfInBounds_toArray, List.set_cons_zero, List.set_cons_succ] at hK
      exact hK
    simp only [Act.put, List.setIfInBounds_toArray, List.set_cons_zero, List.set_cons_succ]
    intro W
    clear uc uf
    have hz0 : w.heap.size + 2 ≤ W.1.heap.size := by have := W.2.size; simpa using this
    have bpW : Bx W.1 w.heap.size x (.slice a len cap) := bp0.next W.2
    have brW : Bx W.1 (w.heap.size + 1) zeroPk (.slice none 0 0) := br0.next W.2
    have hsW := hsl.below (next (ba (ba (Below.refl _ _))) W.2)
    have BW : Below w.heap.size w W.1 := next (ba (ba (Below.refl _ _))) W.2
    have BW0 := W.2
    clear bp0 br0 hsl
    refine up_two 27 29 (by kernel_rfl) rfl rfl ?_ ?_
    · go_wp2_with (go_at_call 21; refine (cut_any a x.z len cap 4 _ hsW (by omega)).mono ?_; rintro e w1 ⟨v1, rfl, hown1, hb1⟩; obtain ⟨a1, cap1, rfl, hs0⟩ := hown1.sl' HN.out; have hs1 : SO w.heap.size w1 a1 n cap1 (x.z.take 4) := ⟨hs0, own_mono hown1 (by first | omega | (have := u.2.size; simp at this; omega))⟩; have lo1 := hown1.lo)
      refine ⟨by exact next BW0 hb1, fun u => ?_⟩
      refine up_raise (by exact next (next BW0 hb1) u.2) ?_
      refine mild_take (v := ?v228) 28 rfl (by kernel_rfl) (by kernel_rfl) (by kernel_rfl) (fun _ _ _ h => h) (by kernel_rfl) (fun Wu K hK => ?hy228) ?go228
      case hy228 =>
        go_big_quiet_op
        simp only [Act.put, List.setIfInBounds_toArray, List.set_cons_zero, List.set_cons_succ] at hK
        exact hK
      simp only [Act.put, List.setIfInBounds_toArray, List.set_cons_zero, List.set_cons_succ]
      intro W2
      have B2 : Below W.1.heap.size W.1 W2.1 := next (next hb1 u.2) W2.2
      have bp2 := bpW.next B2
      have br2 := brW.next B2
      have hs2 := hs1.below (next u.2 W2.2)
      have lo2 : ∀ ad : Addr, a1 = some ad → W.1.heap.size ≤ ad.block ∧ ad.block < W2.1.heap.size := fun ad e => ⟨(lo1 ad e).1, by have := (lo1 ad e).2; have := u.2.size; have := W2.2.size; omega⟩
      have z2 : W.1.heap.size ≤ W2.1.heap.size := B2.size
      have BX := next BW B2
      refine up_list 29 (by kernel_rfl) rfl ?_
      go_wp2
      refine ⟨by exact ba W2.2, fun u3 => ?_⟩
      have bq3 := (Bx.made W2.1 zeroPk (.slice none 0 0)).next (by exact u3.2)
      have B3 : Below W2.1.heap.size W2.1 u3.1 := next (ba (Below.refl _ _)) u3.2
      have bp3 := bp2.next B3
      have br3 := br2.next B3
      have hs3 := hs2.below B3
      have BX3 := next BX B3
      have BU : Below u.1.heap.size u.1 u3.1 := next W2.2 B3
      have hzu : u.1.heap.size ≤ W2.1.heap.size := W2.2.size
      generalize u3.1 = wq at *
      generalize W2.1.heap.size = gq at *
      clear u3 B2 B3 bp2 br2 hs2
      have fq := bq3.fz
      obtain ⟨q0, q1, q2, q3, q4, q5, q6, q7, q8, _, _⟩ := id bq3
      refine up_list 30 (by kernel_rfl) rfl ?_
      go_wp2
      refine ⟨nine_below (y := playX x) BU hzu, fun u4 => ?_⟩
      have PLx : PL2 w u4.1 x a len cap gq a1 n cap1 := PL2.of bp3 br3 bq3 hs3 BX3 (by omega) (fun ad e => by have := lo2 ad e; have := bq3.lt; omega) u4.2
      refine up_done (by kernel_rfl) ?_
      go_wp2
      go_meet
      case rel => exact ⟨gq, a1, cap1, rfl, PLx⟩
    · go_wp2
      refine ⟨by exact ba BW0, fun u => ?_⟩
      have bq1 := (Bx.made W.1 zeroPk (.slice none 0 0)).next (by exact u.2)
      have B1 : Below W.1.heap.size W.1 u.1 := next (ba (Below.refl _ _)) u.2
      have hsu := hsW.below B1
      have hzu : W.1.heap.size < u.1.heap.size := by have := u.2.size; simp at this; omega
      refine up_list 27 (by kernel_rfl) rfl ?_
      go_wp2_with (go_at_call 21; refine (cut_any a x.z len cap 4 _ hsu (by omega)).mono ?_; rintro e w1 ⟨v1, rfl, hown1, hb1⟩; obtain ⟨a1, cap1, rfl, hs0⟩ := hown1.sl' HN.out; have hs1 : SO w.heap.size w1 a1 n cap1 (x.z.take 4) := ⟨hs0, own_mono hown1 (by first | omega | (have := u.2.size; simp at this; omega))⟩; have lo1 := hown1.lo)
      refine ⟨by exact next (next BW0 B1) hb1, fun u2 => ?_⟩
      refine up_list 28 (by kernel_rfl) rfl ?_
      go_wp2
      refine ⟨by exact next (next (next BW0 B1) hb1) u2.2, fun u3 => ?_⟩
      have B3 : Below u.1.heap.size u.1 u3.1 := next (next hb1 u2.2) u3.2
      have bq3 := bq1.next B3
      have bp3 := (bpW.next B1).next B3
      have br3 := (brW.next B1).next B3
      have hs3 := hs1.below (next u2.2 u3.2)
      have BX3 := next (next BW B1) B3
      have BU := next (next BW0 B1) B3
      have hzq : w1.heap.size ≤ u3.1.heap.size := by have := u2.2.size; have := u3.2.size; omega
      generalize u3.1 = wq at *
      clear u3 B3
      have fq := bq3.fz
      obtain ⟨q0, q1, q2, q3, q4, q5, q6, q7, q8, _, _⟩ := id bq3
      refine up_list 30 (by kernel_rfl) rfl ?_
      go_wp2
      refine ⟨nine_below (y := playX x) BU (by simpa using hz0), fun u4 => ?_⟩
      have PLx : PL2 w u4.1 x a len cap W.1.heap.size a1 n cap1 := PL2.of bp3 br3 bq3 hs3 BX3 (by omega) (fun ad e => by have := lo1 ad e; have := hzq; omega) u4.2
      refine up_done (by kernel_rfl) ?_
      go_wp2
      go_meet
      case rel => exact ⟨_, a1, cap1, rfl, PLx⟩
  case rest =>
    obtain ⟨g, a1, cap1, rfl, hbp, hbr, hbq, gl, hs, far, BW⟩ := hcut
    clear bp0 br0 k0 f0 t0 i0 l0 p0 s0
    obtain ⟨c, hc, m0, m1⟩ : ∃ c, how % 40 = c ∧ 0 ≤ c ∧ c < 40 := ⟨_, rfl, by omega, by omega⟩
    have HP : Hid (how % 40 = c) := hc
    go_upto_block 0 with (go_at_call 9; refine (within_any _ _ _ (by omega) (by omega)).mono ?_; rintro e w1 ⟨rfl, rfl⟩; rw [hc])
    clear hc
    have r4 : In64 x.l → In64 (playX x).l := fun _ => by unfold In64 playX; simp only; omega
    have hright := play_right x
    go_cut [36] (fun _ wx => ∃ (y : Pk) (a2 : Option Addr) (n2 c2 : Nat), Bx wx g y (.slice a2 n2 c2) ∧ Bx wx (w.heap.size + 1) zeroPk (.slice none 0 0) ∧ SO w.heap.size wx a2 n2 c2 y.z ∧ (∀ ad : Addr, a2 = some ad → w.heap.size + 2 ≤ ad.block ∧ ad.block < wx.heap.size) ∧ n2 ≤ 6 ∧ (c < 31 → y.right = true) ∧ (In64 x.l → In64 y.l) ∧ Below w.heap.size w wx)
    case first =>
      obtain ⟨s0, s1, s2, s3, s4, s5, s6, s7, s8, sf, slt⟩ := id hbp
      obtain ⟨q0, q1, q2, q3, q4, q5, q6, q7, q8, qf, qlt⟩ := id hbq
      have fr : ∀ (o : Nat) (u : Value), Bx (wc.setCell ⟨g, o, none⟩ u) (w.heap.size + 1) zeroPk (.slice none 0 0) := fun o u => hbr.far (by simp only; omega)
      have f1 : ∀ (o : Nat) (u : Value), SO w.heap.size (wc.setCell ⟨g, o, none⟩ u) a1 n cap1 (x.z.take 4) := fun o u => hs.far (fun ad e => (far ad e).1)
      have fb : ∀ (o : Nat) (u : Value), Below w.heap.size w (wc.setCell ⟨g, o, none⟩ u) := fun o u => BW.setCell (by simp only; omega) _
      by_cases hlo : c < 31
      · have n31 : (c == 31) = false := by simp; omega
        have n32 : (c == 32) = false := by simp; omega
        have n33 : (c == 33) = false := by simp; omega
        have n34 : (c == 34) = false := by simp; omega
        have n35 : (c == 35) = false := by simp; omega
        have n36 : (c == 36) = false := by simp; omega
        have n37 : (c == 37) = false := by simp; omega
        have n38 : (c == 38) = false := by simp; omega
        have n39 : (c == 39) = false := by simp; omega
        go_wp2
        go_meet
        case rel => exact ⟨playX x, a1, n, cap1, hbq, hbr, hs, fun ad e => (far ad e).2, by omega, fun _ => hright, r4, BW⟩
      · have hh : c = 31 ∨ c = 32 ∨ c = 33 ∨ c = 34 ∨ c = 35 ∨ c = 36 ∨ c = 37 ∨ c = 38 ∨ c = 39 := by omega
        rcases hh with rfl | rfl | rfl | rfl | rfl | rfl | rfl | rfl | rfl
        · go_wp2
          go_meet
          case rel => exact ⟨_, a1, n, cap1, hbq.setK _, fr _ _, f1 _ _, fun ad e => by have := (far ad e).2; simpa using this, by omega, fun h => by omega, r4, fb _ _⟩
        · go_wp2
          go_meet
          case rel => exact ⟨_, a1, n, cap1, hbq.setF _, fr _ _, f1 _ _, fun ad e => by have := (far ad e).2; simpa using this, by omega, fun h => by omega, r4, fb _ _⟩
        · go_wp2
          go_meet
          case rel => exact ⟨_, a1, n, cap1, hbq.setT _, fr _ _, f1 _ _, fun ad e => by have := (far ad e).2; simpa using this, by omega, fun h => by omega, r4, fb _ _⟩
        · go_wp2
          go_meet
          case rel => exact ⟨_, a1, n, cap1, hbq.setI _, fr _ _, f1 _ _, fun ad e => by have := (far ad e).2; simpa using this, by omega, fun h => by omega, r4, fb _ _⟩
        · go_wp2
          go_meet
          case rel => exact ⟨_, a1, n, cap1, hbq.setL _, fr _ _, f1 _ _, fun ad e => by have := (far ad e).2; simpa using this, by omega, fun h => by omega, (fun h => h), fb _ _⟩
        · go_wp2
          go_meet
          case rel => exact ⟨_, a1, n, cap1, hbq.setP _, fr _ _, f1 _ _, fun ad e => by have := (far ad e).2; simpa using this, by omega, fun h => by omega, r4, fb _ _⟩
        · go_wp2
          go_meet
          case rel => exact ⟨_, a1, n, cap1, hbq.setS _, fr _ _, f1 _ _, fun ad e => by have := (far ad e).2; simpa using this, by omega, fun h => by omega, r4, fb _ _⟩
        · have hsx := hsl.below BW
          obtain ⟨n6, hn6⟩ : ∃ n6, (x.z.take 6).length = n6 := ⟨_, rfl⟩
          have HN6 : Hid ((x.z.take 6).length = n6) := hn6
          have h6 : n6 ≤ 6 := by rw [← hn6]; simp; omega
          clear hn6
          go_wp2_with (go_at_call 21; refine (cut_any a x.z len cap 6 _ hsx (by omega)).mono ?_; rintro e w2 ⟨v2, rfl, hown2, hb2⟩; obtain ⟨a2, cap2, rfl, hs02⟩ := hown2.sl' HN6.out; have hs2 : SO w.heap.size w2 a2 n6 cap2 (x.z.take 6) := ⟨hs02, own_mono hown2 BW.size⟩; have lo2 := hown2.lo; have hbq2 := hbq.next hb2; have hqf := hbq2.fz; have hq8 := hbq2.c8)
          go_meet
          case rel => exact ⟨_, a2, n6, cap2, hbq2.setZ (x.z.take 6) _, (hbr.next hb2).far (by simp only; omega), hs2.far (fun ad e => by have := lo2 ad e; omega), fun ad e => by have := lo2 ad e; simp only [World.size_setCell]; omega, h6, fun h => by omega, r4, (next BW hb2).setCell (by simp only; omega) _⟩
        · go_wp2_with (go_at_call 9; refine (within_any _ _ _ (by omega) (by omega)).mono ?_; rintro e w1 ⟨rfl, rfl⟩)
          go_meet
          case rel => exact ⟨_, a1, n, cap1, hbq.setI _, fr _ _, f1 _ _, fun ad e => by have := (far ad e).2; simpa using this, by omega, fun h => by omega, r4, fb _ _⟩
    case rest =>
      obtain ⟨y, a2, n2, c2, by2, br2, hs2, lo2, hn2, hr2, h64, B2⟩ := hcut
      have hi2 : ∀ ad : Addr, a2 = some ad → ad.block < wc.heap.size := fun ad e => (lo2 ad e).2
      obtain ⟨y0, y1, y2, y3, y4, y5, y6, y7, y8, yf, ylt⟩ := by2
      obtain ⟨r0, r1, r2, r3, r4', r5, r6, r7, r8, rf, rlt⟩ := br2
      clear hbp hbr hbq hs BW hsl r4 hright far
      have hne : w.heap.size + 1 ≠ g := by omega
      go_wp2
      refine bodyPost_ret (v := y.val (.slice a2 n2 c2)) (by simp [results, Try.results19, go_sem, *]) rfl ⟨_, rfl, y, a2, n2, c2, rfl, ?_, hn2, fun h => hr2 (by rw [← HP.out]; exact h), h64, ?_, ?_⟩
      · exact far9 (P := fun V => SO w.heap.size V a2 n2 c2 y.z) (fun V o u h => h.far (fun ad e => by have := lo2 ad e; omega)) hs2
      · intro ad e
        refine ⟨by have := lo2 ad e; omega, ?_⟩
        have := hi2 ad e
        simpa using this
      · exact far9 (P := fun V => Below w.heap.size w V) (fun V o u h => h.setCell (by simp only; omega) _) B2
end Go.Proofs.Ytgeiagndpfdnlaa
end
section
namespace Go.Proofs.Ytgeiagndpfdnlaa
open Go.RowKit
set_option linter.unusedVariables false
set_option maxRecDepth 20000

theorem sameP_f {x y : Pk} (h : (x.k != y.k) = true ∨ (x.f != y.f) = true ∨ (x.t != y.t) = true ∨ (x.i != y.i) = true ∨ (x.l != y.l) = true ∨ (x.p != y.p) = true ∨ (x.s != y.s) = true ∨ (x.fl != y.fl) = true ∨ ¬ x.z.length = y.z.length) : sameP x y = false :=
  decide_eq_false (fun ⟨h1, h2, h3, h4, h5, h6, h7, h8, h9⟩ => by simp [h1, h2, h3, h4, h5, h6, h7, h8, h9] at h)
theorem sameP_z {x y : Pk} (h1 : (x.k != y.k) = false) (h2 : (x.f != y.f) = false) (h3 : (x.t != y.t) = false) (h4 : (x.i != y.i) = false) (h5 : (x.l != y.l) = false) (h6 : (x.p != y.p) = false) (h7 : (x.s != y.s) = false) (h8 : (x.fl != y.fl) = false) : sameP x y = decide (x.z = y.z) := by
  simp only [bne_eq_false_iff_eq] at h1 h2 h3 h4 h5 h6 h7 h8
  unfold sameP; simp [h1, h2, h3, h4, h5, h6, h7, h8]

set_option maxHeartbeats 8000000 in
theorem refSame_any (x y : Pk) (a b : Option Addr) (n m c d : Nat) (w : World) (hx : Sl w a n c x.z) (hy : Sl w b m d y.z) :
    Calls Try.prog 18 #[x.val (.slice a n c), y.val (.slice b m d)] w fun e w' => e = .returned (.bool (sameP x y)) ∧ Below w.heap.size w w' := by
  have HL1 : Hid (x.z.length = n) := hx.len
  have HL2 : Hid (y.z.length = m) := hy.len
  have hmx := hx.max
  have hmy := hy.max
  have hlx := hx.le
  have hly := hy.le
  unfold maxLen at hmx hmy
  unfold Pk.val
  by_cases h0 : (x.k != y.k) = true
  · have HR : Hid (sameP x y = false) := sameP_f (.inl h0)
    clear hx hy
    skip
    go_enter Try.func18, Try.ntmps18
    go_wp2
    go_ret
    exact ⟨ret_bool HR.out.symm, ba (ba (Below.refl _ _))⟩
  replace h0 : (x.k != y.k) = false := by simpa using h0
  by_cases h1 : (x.f != y.f) = true
  · have HR : Hid (sameP x y = false) := sameP_f (.inr (.inl h1))
    clear hx hy
    skip
    go_enter Try.func18, Try.ntmps18
    go_wp2
    go_ret
    exact ⟨ret_bool HR.out.symm, ba (ba (Below.refl _ _))⟩
  replace h1 : (x.f != y.f) = false := by simpa using h1
  by_cases h2 : (x.t != y.t) = true
  · have HR : Hid (sameP x y = false) := sameP_f (.inr (.inr (.inl h2)))
    clear hx hy
    skip
    go_enter Try.func18, Try.ntmps18
    go_wp2
    go_ret
    exact ⟨ret_bool HR.out.symm, ba (ba (Below.refl _ _))⟩
  replace h2 : (x.t != y.t) = false := by simpa using h2
  by_cases h3 : (x.i != y.i) = true
  · have HR : Hid (sameP x y = false) := sameP_f (.inr (.inr (.inr (.inl h3))))
    clear hx hy
    skip
    go_enter Try.func18, Try.ntmps18
    go_wp2
    go_ret
    exact ⟨ret_bool HR.out.symm, ba (ba (Below.refl _ _))⟩
  replace h3 : (x.i != y.i) = false := by simpa using h3
  by_cases h4 : (x.l != y.l) = true
  · have HR : Hid (sameP x y = false) := sameP_f (.inr (.inr (.inr (.inr (.inl h4)))))
    clear hx hy
    skip
    go_enter Try.func18, Try.ntmps18
    go_wp2
    go_ret
    exact ⟨ret_bool HR.out.symm, ba (ba (Below.refl _ _))⟩
  replace h4 : (x.l != y.l) = false := by simpa using h4
  by_cases h5 : (x.p != y.p) = true
  · have HR : Hid (sameP x y = false) := sameP_f (.inr (.inr (.inr (.inr (.inr (.inl h5))))))
    clear hx hy
    skip
    go_enter Try.func18, Try.ntmps18
    go_wp2
    go_ret
    exact ⟨ret_bool HR.out.symm, ba (ba (Below.refl _ _))⟩
  replace h5 : (x.p != y.p) = false := by simpa using h5
  by_cases h6 : (x.s != y.s) = true
  · have HR : Hid (sameP x y = false) := sameP_f (.inr (.inr (.inr (.inr (.inr (.inr (.inl h6)))))))
    clear hx hy
    skip
    go_enter Try.func18, Try.ntmps18
    go_wp2
    go_ret
    exact ⟨ret_bool HR.out.symm, ba (ba (Below.refl _ _))⟩
  replace h6 : (x.s != y.s) = false := by simpa using h6
  by_cases h7 : (x.fl != y.fl) = true
  · have HR : Hid (sameP x y = false) := sameP_f (.inr (.inr (.inr (.inr (.inr (.inr (.inr (.inl h7))))))))
    clear hx hy
    have h7x : ¬ x.fl = y.fl := by revert h7; cases x.fl <;> cases y.fl <;> simp
    go_enter Try.func18, Try.ntmps18
    go_wp2
    go_ret
    exact ⟨ret_bool HR.out.symm, ba (ba (Below.refl _ _))⟩
  replace h7 : (x.fl != y.fl) = false := by simpa using h7
  have h7x : (x.fl == y.fl) = true := by revert h7; cases x.fl <;> cases y.fl <;> simp
  by_cases h8 : ((n : Int) != (m : Int)) = true
  · have HR : Hid (sameP x y = false) := sameP_f (.inr (.inr (.inr (.inr (.inr (.inr (.inr (.inr ((by have := HL1.out; have := HL2.out; simp at h8; omega))))))))))
    clear hx hy
    skip
    go_enter Try.func18, Try.ntmps18
    go_wp2
    go_ret
    exact ⟨ret_bool HR.out.symm, ba (ba (Below.refl _ _))⟩
  replace h8 : ((n : Int) != (m : Int)) = false := by simpa using h8
  have HR : Hid (sameP x y = decide (x.z = y.z)) := sameP_z h0 h1 h2 h3 h4 h5 h6 h7
  have HNM : Hid (n = m) := by show n = m; simp at h8; omega
  have hx2 := hx.below (ba (o := .cells #[.int .i64 y.k, .int .i64 y.f, .int .i64 y.t, .int .i64 y.i, .int .i64 y.l, .int .i64 y.p, .int .i64 y.s, .bool y.fl, .slice b m d] 32) (ba (o := .cells #[.int .i64 x.k, .int .i64 x.f, .int .i64 x.t, .int .i64 x.i, .int .i64 x.l, .int .i64 x.p, .int .i64 x.s, .bool x.fl, .slice a n c] 32) (Below.refl _ _)))
  have hy2 := hy.below (ba (o := .cells #[.int .i64 y.k, .int .i64 y.f, .int .i64 y.t, .int .i64 y.i, .int .i64 y.l, .int .i64 y.p, .int .i64 y.s, .bool y.fl, .slice b m d] 32) (ba (o := .cells #[.int .i64 x.k, .int .i64 x.f, .int .i64 x.t, .int .i64 x.i, .int .i64 x.l, .int .i64 x.p, .int .i64 x.s, .bool x.fl, .slice a n c] 32) (Below.refl _ _)))
  have bW := (ba (o := .cells #[.int .i64 y.k, .int .i64 y.f, .int .i64 y.t, .int .i64 y.i, .int .i64 y.l, .int .i64 y.p, .int .i64 y.s, .bool y.fl, .slice b m d] 32) (ba (o := .cells #[.int .i64 x.k, .int .i64 x.f, .int .i64 x.t, .int .i64 x.i, .int .i64 x.l, .int .i64 x.p, .int .i64 x.s, .bool x.fl, .slice a n c] 32) (Below.refl w.heap.size w)))
  have cp : ((w.alloc (.cells #[.int .i64 x.k, .int .i64 x.f, .int .i64 x.t, .int .i64 x.i, .int .i64 x.l, .int .i64 x.p, .int .i64 x.s, .bool x.fl, .slice a n c] 32)).alloc (.cells #[.int .i64 y.k, .int .i64 y.f, .int .i64 y.t, .int .i64 y.i, .int .i64 y.l, .int .i64 y.p, .int .i64 y.s, .bool y.fl, .slice b m d] 32)).cell? ⟨w.heap.size, 8, none⟩ = some (.slice a n c) := by simp
  have cq : ((w.alloc (.cells #[.int .i64 x.k, .int .i64 x.f, .int .i64 x.t, .int .i64 x.i, .int .i64 x.l, .int .i64 x.p, .int .i64 x.s, .bool x.fl, .slice a n c] 32)).alloc (.cells #[.int .i64 y.k, .int .i64 y.f, .int .i64 y.t, .int .i64 y.i, .int .i64 y.l, .int .i64 y.p, .int .i64 y.s, .bool y.fl, .slice b m d] 32)).cell? ⟨w.heap.size + 1, 8, none⟩ = some (.slice b m d) := by simp
  clear hx hy
  go_enter Try.func18, Try.ntmps18
  go_wp2
  generalize (w.alloc (.cells #[.int .i64 x.k, .int .i64 x.f, .int .i64 x.t, .int .i64 x.i, .int .i64 x.l, .int .i64 x.p, .int .i64 x.s, .bool x.fl, .slice a n c] 32)).alloc (.cells #[.int .i64 y.k, .int .i64 y.f, .int .i64 y.t, .int .i64 y.i, .int .i64 y.l, .int .i64 y.p, .int .i64 y.s, .bool y.fl, .slice b m d] 32) = W at *
  clear h0 h1 h2 h3 h4 h5 h6 h7 h8 h7x
  go_loopw [72] (fun i wr => ∃ k : Nat, k ≤ n ∧ i = .int .i64 k ∧ x.z.take k = y.z.take k ∧ ∃ j, wr = W.drewN j) (fun i _ => n - (intOf i).toNat)
  case atStart => exact ⟨0, by omega, rfl, rfl, 0, rfl⟩
  case round =>
    obtain ⟨k, hk, rfl, heq, j, rfl⟩ := hrel
    have HE : Hid (x.z.take k = y.z.take k) := heq
    clear heq
    by_cases hlt : k < n
    · have hlt2 : k < m := by have := HNM.out; omega
      obtain ⟨b1, o1, rfl, _, x1⟩ := hx2.at hlt
      obtain ⟨b2, o2, rfl, _, x2⟩ := hy2.at hlt2
      have g1 : k < x.z.length := by have := HL1.out; omega
      have g2 : k < y.z.length := by have := HL2.out; omega
      obtain ⟨e, he1⟩ : ∃ e, e = x.z[k]?.getD 0 := ⟨_, rfl⟩
      obtain ⟨f, hf1⟩ : ∃ f, f = y.z[k]?.getD 0 := ⟨_, rfl⟩
      rw [← he1] at x1
      rw [← hf1] at x2
      have HX : Hid (e = x.z[k]?.getD 0) := he1
      have HY : Hid (f = y.z[k]?.getD 0) := hf1
      clear he1 hf1
      by_cases hxy : e = f
      · have HXY : Hid (e = f) := hxy
        have hx' : (e != f) = false := by simp [hxy]
        clear hxy
        go_wp2_with fail
        go_quiet (fail)
        go_wp2
        go_roundw
        case rel => exact ⟨k + 1, by omega, by go_num, take_same HE.out (by rw [← HX.out, ← HY.out, HXY.out]) g1 g2, _, by first | rfl | exact World.drewN_drewN ..⟩
        case measure => simp [intOf]; omega
      · have HXY : Hid (¬ e = f) := hxy
        have hx' : (e != f) = true := by simpa using hxy
        clear hxy
        go_wp2_with fail
        go_quiet (fail)
        go_wp2
        go_ret
        exact ⟨ret_bool (by rw [HR.out]; exact (decide_eq_false (fun h => HXY.out (by rw [HX.out, HY.out, h]))).symm), by first | exact next bW (below_dn _ _) | exact next bW (next (below_dn _ _) (below_dn _ _))⟩
    · go_wp2
      go_ret
      refine ⟨ret_bool ?_, next bW (below_dn _ _)⟩
      have := HE.out
      rw [List.take_of_length_le (by have := HL1.out; omega), List.take_of_length_le (by have := HL2.out; have := HNM.out; omega)] at this
      rw [HR.out]
      exact (decide_eq_true this).symm
end Go.Proofs.Ytgeiagndpfdnlaa
end
section
namespace Go.Proofs.Ytgeiagndpfdnlaa
open Go.RowKit Go.Maps
set_option linter.unusedVariables false
set_option maxRecDepth 20000

structure Ab (W : World) (g : Nat) (d h : Int) (x : Pk) (v : Value) : Prop where
  c : ∀ j, j < 11 → W.cell? ⟨g, j, none⟩ = (acells d h x v)[j]?
  lt : g < W.heap.size
theorem Ab.made (w : World) (d h : Int) (x : Pk) (v : Value) : Ab (w.alloc (.cells #[.int .i64 d, .int .i64 x.k, .int .i64 x.f, .int .i64 x.t, .int .i64 x.i, .int .i64 x.l, .int .i64 x.p, .int .i64 x.s, .bool x.fl, v, .int .i64 h] 49)) w.heap.size d h x v := by
  refine ⟨fun j hj => ?_, by simp⟩
  obtain rfl | rfl | rfl | rfl | rfl | rfl | rfl | rfl | rfl | rfl | rfl : j = 0 ∨ j = 1 ∨ j = 2 ∨ j = 3 ∨ j = 4 ∨ j = 5 ∨ j = 6 ∨ j = 7 ∨ j = 8 ∨ j = 9 ∨ j = 10 := by omega
  all_goals simp [acells]
theorem Ab.keep {F : Nat → Prop} {W W' : World} {g : Nat} {d h : Int} {x : Pk} {v : Value} (a : Ab W g d h x v) (hk : Keep F W W') (hF : ¬ F g) : Ab W' g d h x v :=
  ⟨fun j hj => (hk.cell (b := g) j a.lt hF).trans (a.c j hj), Nat.lt_of_lt_of_le a.lt hk.size⟩
theorem Ab.below {W W' : World} {g : Nat} {d h : Int} {x : Pk} {v : Value} (a : Ab W g d h x v) (hb : Below W.heap.size W W') : Ab W' g d h x v := a.keep (F := fun _ => False) (Keep.of_below hb) id
/-- Words of one's own, as a row of the block they lie in. -/
theorem rw_ownb {w : World} {base n cap : Nat} {a : Option Addr} {l : List Int} (h : Own w base (.slice a n cap) l) : Rw w (fun k => ∃ y : Addr, a = some y ∧ k = y.block) a n cap 1 (cells l) := by
  obtain ⟨a', cap', e, r⟩ := rw_own h
  simp at e
  obtain ⟨rfl, rfl, rfl⟩ := e
  refine ⟨r.len, r.le, r.max, r.nil, r.row.imp id ?_⟩
  rintro ⟨b, o, rfl, hm, rest⟩
  exact ⟨b, o, rfl, ⟨_, rfl, rfl⟩, rest⟩
section
variable {w wx wy : World} {g g1 g2 gd n m N L K : Nat} {X Z F Y : Nat → Prop} {node : Int} {DL D2 : List Hr} {o o2 : List (Int × Int)} {q q2 : List Wr}
theorem BH.made (h : BH w wx g g1 g2 gd X Z N L K node n m DL o q D2 o2 q2) (hb : Below wx.heap.size wx wy) :
    ∃ X1 Z1, BH w wy g g1 g2 gd X1 Z1 N L K node n m DL o q D2 o2 q2 ∧ (∀ j, Z j → Z1 j) ∧ ∀ j, wx.heap.size ≤ j → j < wy.heap.size → Z1 j :=
  ⟨_, _, h.own hb, fun j hj => .inl hj, fun j h1 h2 => .inr ⟨h1, h2⟩⟩
end
end Go.Proofs.Ytgeiagndpfdnlaa
end
section
namespace Go.Proofs.Ytgeiagndpfdnlaa
open Go.RowKit Go.Maps
set_option linter.unusedVariables false

theorem sl_rw {w : World} {S : Nat → Prop} {a : Option Addr} {n cap : Nat} {l : List Int} (h : Rw w S a n cap 1 (cells l)) : Sl w a n cap l := by
  refine ⟨by have := h.len; simpa [cells] using this, h.le, h.max, h.nil, ?_⟩
  rcases h.slv.row with h0 | ⟨b, o, e, hc⟩
  · left; simpa [cells] using h0
  · right; exact ⟨b, o, e, fun i hi => hc i _ (by simp [cells, hi])⟩

theorem cells_cat (l m : List Int) : cells l ++ cells m = cells (l ++ m) := by simp [cells]
end Go.Proofs.Ytgeiagndpfdnlaa
end
section
namespace Go.Proofs.Ytgeiagndpfdnlaa
open Go.RowKit Go.Maps
set_option linter.unusedVariables false
set_option maxRecDepth 20000

set_option maxHeartbeats 1600000 in
theorem homePlays_walk (w : World) (v : Value) (hv : IsSetup w v) (xn : Int) (aa : Option Addr) (na ca : Nat) (hna : na ≤ ca) (hca : ca ≤ maxLen) (hact : IsActs11 w aa na) :
    Calls Try.prog 4 #[v, .int .i64 xn, .slice aa na ca] w fun e w' => e = .returned (.bool true) ∧ Below w.heap.size w w' := by
  obtain ⟨n, l, k, s, y, o, i, a0, n0, q0, z0, a1, n1, q1, z1, a2, n2, q2, z2, a3, n3, q3, z3, a4, n4, q4, z4, rfl, h0, h1, h2, h3, h4⟩ := hv
  clear h1 h2 h3 h4
  unfold setup
  go_enter Try.func4, Try.ntmps4
  go_upto_region 2 with (go_at_call 7; refine (config_c _ _ _ _ _ _ _ _ _ _ _ _ _ _ z0 _ (h0.below (by exact ba (Below.refl _ _)))).mono ?_; rintro e w1 ⟨N, L, K, S, Y, O, I, zi, av, nv, cv, rfl, hcf, hnv, hown, hb1⟩; unfold cfg)
  have hB := ba (o := .cells #[.int .i64 (N : Int), .int .i64 (L : Int), .int .i64 (K : Int), .int .i64 (S : Int), .int .i64 (Y : Int), .int .i64 (O : Int), .int .i64 (I : Int), .slice av nv cv] 26) (next (ba (Below.refl _ _)) hb1)
  have hcb := CB.made w1 N L K S Y O I (.slice av nv cv)
  have hsl := (own_sl hown).below (ba (o := .cells #[.int .i64 (N : Int), .int .i64 (L : Int), .int .i64 (K : Int), .int .i64 (S : Int), .int .i64 (Y : Int), .int .i64 (O : Int), .int .i64 (I : Int), .slice av nv cv] 26) (Below.refl _ _))
  have hge : w.heap.size ≤ w1.heap.size := by have := hb1.size; simp at this; omega
  generalize w1.alloc (.cells #[.int .i64 (N : Int), .int .i64 (L : Int), .int .i64 (K : Int), .int .i64 (S : Int), .int .i64 (Y : Int), .int .i64 (O : Int), .int .i64 (I : Int), .slice av nv cv] 26) = W at *
  generalize w1.heap.size = gc at *
  have hbd := hcf.bd
  obtain ⟨N0, N1, L0, L1, K0, K1, S0, S1, Y0, Y1, O0, O1, I0, I1⟩ := hcf.bd
  obtain ⟨p0, p2, p3⟩ := mul_bd L0 L1 K0 K1
  have hnk : nv ≤ L * K := by have := hcf.len; have := hnv.out; omega
  have hn32 : nv ≤ 32 := by omega
  clear hcf hown hb1 h0 hnv p0 p2 p3 S0 S1 Y0 Y1 O0 O1 I0 I1
  clear w1
  obtain ⟨nd, hnd0⟩ : ∃ nd, xn % (N : Int) = nd := ⟨_, rfl⟩
  have HND : Hid (xn % (N : Int) = nd) := hnd0
  clear hnd0
  have cc0 := hcb.c0
  have clt := hcb.lt
  go_upto_region 3 with (go_at_call 9; refine (within_any _ _ _ (by omega) (by omega)).mono ?_; rintro e wx ⟨rfl, rfl⟩; rw [HND.out])
  clear cc0 clt
  refine wp_region_orders 8 rfl (by kernel_rfl) ?_
  have Bd : Below W.heap.size W W.drew := (Below.refl _ _).drew
  replace hcb := hcb.below Bd
  replace hB := next hB Bd
  replace hsl := hsl.below Bd
  clear Bd
  generalize W.drew = W1 at *
  clear W
  have hnew := hnew_any (w := w) (X := fun j => j = gc) N L K S Y O I av nv cv zi nd hB (fun j hj => hj ▸ hcb.lt) hsl N0 (by omega) (by omega) K0 (by omega) hn32 (chk_true hbd hnk)
  clear hnk
  have hI : (fun V : World => CB V gc N L K S Y O I (.slice av nv cv)) W1 := hcb
  refine any_inv (fun V : World => CB V gc N L K S Y O I (.slice av nv cv)) [] hI ?_
  refine inv_take (v := ?v5) [2, 5, 6, 7] 0 hI rfl (by kernel_rfl) (by kernel_rfl) (by kernel_rfl) (by kernel_rfl) (by kernel_rfl) (fun _ _ _ h => h) (by kernel_rfl) (fun V hV => ?hy5) ?go5
  case hy5 => (obtain ⟨z0, z1, z2, z3, z4, z5, z6, z7, _⟩ := hV; go_simp <;> rfl)
  simp only [Act.put, List.setIfInBounds_toArray, List.set_cons_zero, List.set_cons_succ]
  refine inv_take (v := ?v6) [2, 5, 6, 7] 1 hI rfl (by kernel_rfl) (by kernel_rfl) (by kernel_rfl) (by kernel_rfl) (by kernel_rfl) (fun _ _ _ h => h) (by kernel_rfl) (fun V hV => ?hy6) ?go6
  case hy6 => (obtain ⟨z0, z1, z2, z3, z4, z5, z6, z7, _⟩ := hV; go_simp <;> rfl)
  simp only [Act.put, List.setIfInBounds_toArray, List.set_cons_zero, List.set_cons_succ]
  refine inv_take (v := ?v7) [5, 6, 7] 3 hI rfl (by kernel_rfl) (by kernel_rfl) (by kernel_rfl) (by kernel_rfl) (by kernel_rfl) (fun _ _ _ h => h) (by kernel_rfl) (fun V hV => ?hy7) ?go7
  case hy7 => (obtain ⟨z0, z1, z2, z3, z4, z5, z6, z7, _⟩ := hV; go_simp <;> rfl)
  simp only [Act.put, List.setIfInBounds_toArray, List.set_cons_zero, List.set_cons_succ]
  refine inv_take (v := ?v8) [5, 6, 7] 4 hI rfl (by kernel_rfl) (by kernel_rfl) (by kernel_rfl) (by kernel_rfl) (by kernel_rfl) (fun _ _ _ h => h) (by kernel_rfl) (fun V hV => ?hy8) ?go8
  case hy8 => (obtain ⟨z0, z1, z2, z3, z4, z5, z6, z7, _⟩ := hV; go_simp <;> rfl)
  simp only [Act.put, List.setIfInBounds_toArray, List.set_cons_zero, List.set_cons_succ]
  refine inv_list 2 (by kernel_rfl) rfl ?_
  clear hI
  unfold cfg at hnew
  go_wp2_with (go_at_call 8; refine hnew.mono ?_; rintro e w2 ⟨g, g1, g2, rfl, b2, M⟩)
  clear hnew
  have hcb2 := hcb.below b2
  have hsl2 := hsl.below b2
  have hdn := hd_new N L K S Y O I av nv cv zi nd w2 hsl2 N0 (by omega) (by omega) K0 (by omega) hn32
  unfold cfg at hdn
  refine then_n ⟨hcb2, ?_⟩
  refine inv_list 5 (by kernel_rfl) rfl ?_
  go_wp2_with (go_at_call 15; refine hdn.mono ?_; rintro e w3 ⟨gd, A, rfl, b3, hA, H3⟩)
  have hcb3 := hcb2.below b3
  have hI : (fun V : World => CB V gc N L K S Y O I (.slice av nv cv)) w3 := hcb3
  refine then_n ⟨hI, ?_⟩
  refine inv_take (v := ?v9) [7] 6 hI rfl (by kernel_rfl) (by kernel_rfl) (by kernel_rfl) (by kernel_rfl) (by kernel_rfl) (fun _ _ _ h => h) (by kernel_rfl) (fun V hV => ?hy9) ?go9
  case hy9 => (obtain ⟨z0, z1, z2, z3, z4, z5, z6, z7, _⟩ := hV; go_simp <;> rfl)
  simp only [Act.put, List.setIfInBounds_toArray, List.set_cons_zero, List.set_cons_succ]
  refine inv_take (v := ?v10) [] 7 hI rfl (by kernel_rfl) (by kernel_rfl) (by kernel_rfl) (by kernel_rfl) (by kernel_rfl) (fun _ _ _ h => h) (by kernel_rfl) (fun V hV => ?hy10) ?go10
  case hy10 => (obtain ⟨z0, z1, z2, z3, z4, z5, z6, z7, _⟩ := hV; go_simp <;> rfl)
  simp only [Act.put, List.setIfInBounds_toArray, List.set_cons_zero, List.set_cons_succ]
  refine inv_done (by kernel_rfl) ?_
  have hs2 := M.bel.size
  have hgc2 : gc < w2.heap.size := hcb2.lt
  have B0 : BH w w3 g g1 g2 gd (fun j => j = gc ∨ (w2.heap.size ≤ j ∧ j < w3.heap.size)) (fun j => j = gc) N L K nd 0 0 (dl0 zi L K L) [] [] (dl0 zi L K L) [] [] := by
    rw [home_first zi N0] at M
    refine ⟨M.own b3, ⟨A, H3, fun j hj => ⟨.inr ⟨hA j hj, H3.old j hj⟩, by have := hA j hj; omega, fun e => by have := hA j hj; omega⟩⟩, fun j hj => ⟨.inl hj, by rw [hj]; exact hge⟩, H3.nums, wq_nil _ _ _, wq_nil _ _ _⟩
  generalize dl0 zi L K L = DL0 at *
  clear hI hcb2 hsl2 hdn H3 hA M hs2 hgc2 b2 b3 hcb hB hsl hbd
  clear W1
  go_wp2_with fail
  go_loopw [10] (fun v10 wx => ∃ (i n m : Nat) (X Z : Nat → Prop) (DL : List Hr) (o : List (Int × Int)) (q : List Wr), v10 = .int .i64 (i : Int) ∧ i ≤ 24 ∧ n ≤ i ∧ m ≤ i ∧ Z gc ∧ CB wx gc N L K S Y O I (.slice av nv cv) ∧ BH w wx g g1 g2 gd X Z N L K nd n m DL o q DL o q) (fun v10 _ => 24 - (intOf v10).toNat)
  case atStart => exact ⟨0, 0, 0, _, fun j => j = gc, DL0, [], [], rfl, by omega, by omega, by omega, rfl, hcb3, B0⟩
  case round =>
    clear B0 hcb3
    clear w3 w2
    obtain ⟨i, n, m, X, Z, DL, o, q, rfl, hi, hn, hm, hz, hcb, B⟩ := hrel
    by_cases q1 : (i : Int) < (na : Int)
    · have q1' : decide ((i : Int) < (na : Int)) = true := decide_eq_true q1
      by_cases q2 : (i : Int) < 24
      · have hina : i < na := by omega
        obtain ⟨bl, oo, d, hw, x, ax, nx, cx, rfl, hc, hs, hlt, hr64, hnum, hd64, hh64⟩ := hact i hina
        have ec := fun j hj => (B.ph.bel.cell (p := ⟨bl, oo + i * 11 + j, none⟩) hlt).trans (hc j hj)
        have e0 := ec 0 (by omega)
        have e1 := ec 1 (by omega)
        have e2 := ec 2 (by omega)
        have e3 := ec 3 (by omega)
        have e4 := ec 4 (by omega)
        have e5 := ec 5 (by omega)
        have e6 := ec 6 (by omega)
        have e7 := ec 7 (by omega)
        have e8 := ec 8 (by omega)
        have e9 := ec 9 (by omega)
        have e10 := ec 10 (by omega)
        have elt := Nat.lt_of_lt_of_le hlt B.ph.bel.size
        have hsx := hs.below B.ph.bel
        have HX : Hid (∀ j, X j → j < wr.heap.size) := B.ph.xl
        simp only [acells, List.getElem?_cons_zero, List.getElem?_cons_succ, Nat.add_zero] at e0 e1 e2 e3 e4 e5 e6 e7 e8 e9 e10
        clear ec
        go_upto_region 10 with fail
        have A0 := Ab.made wr d hw x (.slice ax nx cx)
        have ab := ba (o := .cells #[.int .i64 d, .int .i64 x.k, .int .i64 x.f, .int .i64 x.t, .int .i64 x.i, .int .i64 x.l, .int .i64 x.p, .int .i64 x.s, .bool x.fl, .slice ax nx cx, .int .i64 hw] 49) (Below.refl wr.heap.size wr)
        have hg0 : wr.heap.size < (wr.alloc (.cells #[.int .i64 d, .int .i64 x.k, .int .i64 x.f, .int .i64 x.t, .int .i64 x.i, .int .i64 x.l, .int .i64 x.p, .int .i64 x.s, .bool x.fl, .slice ax nx cx, .int .i64 hw] 49)).heap.size := by simp
        obtain ⟨X1, Z1, B1, hz1, hz2⟩ := B.made ab
        have hcb1 := hcb.below ab
        have hsx1 := hsx.below ab
        have HZ : Hid (Z1 gc ∧ Z1 wr.heap.size) := ⟨hz1 _ hz, hz2 _ (Nat.le_refl _) hg0⟩
        clear e0 e1 e2 e3 e4 e5 e6 e7 e8 e9 e10 elt hsx HX ab hz1 hz2 hz hg0 B hcb hc hs hlt hr64
        generalize wr.heap.size = ga at *
        generalize wr.alloc _ = W0 at *
        clear wr X Z
        have c0 := hcb1.c0
        have clt := hcb1.lt
        have a0 := A0.c 0 (by omega)
        simp only [acells, List.getElem?_cons_zero] at a0
        have alt := A0.lt
        go_upto_if 55 with (go_at_call 9; refine (within_any _ _ _ (by omega) (by omega)).mono ?_; rintro e wx ⟨rfl, rfl⟩)
        go_cut [] (fun wx => ∃ (n2 m2 : Nat) (X Z : Nat → Prop) (DL : List Hr) (o : List (Int × Int)) (q : List Wr), n2 ≤ i + 1 ∧ m2 ≤ i + 1 ∧ Z gc ∧ CB wx gc N L K S Y O I (.slice av nv cv) ∧ BH w wx g g1 g2 gd X Z N L K nd n2 m2 DL o q DL o q)
        case first => as_aux_lemma =>
          by_cases q5 : d % 5 = 4
          · have q5' : (d % 5 == 4) = true := by simp [q5]
            obtain ⟨pr, hpr⟩ : ∃ pr, grR nd DL o q = pr := ⟨_, rfl⟩
            have hG1 := bh_g1 B1 (by omega) (by omega)
            have hG2 : ∀ {wy : World} {n2 : Nat} {X2 : Nat → Prop}, BH w wy g g1 g2 gd X2 Z1 N L K nd n2 m DL (grO o q) (grQ o q) DL o q → _ := fun {wy n2 X2} b => bh_g2 b (by omega) (by omega)
            rw [hpr] at hG1
            simp only [hpr] at hG2
            have HX : Hid (∀ j, X1 j → j < W0.heap.size) := B1.ph.xl
            have HXG : Hid (X1 gc) := (B1.z _ HZ.out.1).1
            obtain ⟨gy, gb⟩ := pr
            simp only at hG1 hG2
            clear hpr hsx1 A0 a0 alt
            unfold Pk.val at hG1 hG2
            go_upto_region 12 with (go_at_call 16; refine hG1.mono ?_; rintro e w2 ⟨dd, rfl, hd2, k2, B2⟩; obtain ⟨a2, n2, c2, ed, s2, -⟩ := id hd2; subst ed)
            have ab2 := ba (o := .cells #[.int .i64 gy.k, .int .i64 gy.f, .int .i64 gy.t, .int .i64 gy.i, .int .i64 gy.l, .int .i64 gy.p, .int .i64 gy.s, .bool gy.fl, .slice a2 n2 c2] 32) (Below.refl w2.heap.size w2)
            have bx1 := Bx.made w2 gy (.slice a2 n2 c2)
            have hcb2 := (hcb1.keep k2 (fun h => h.2 HXG.out)).below ab2
            have B3 := B2.below ab2
            have hd3 := hd2.keep (Keep.of_below (F := fun _ => False) ab2) (fun _ _ h => h)
            have HG1 : Hid (W0.heap.size ≤ w2.heap.size) := k2.size
            clear k2 hd2 s2 hG1 ab2 B2 c0 clt hcb1 B1
            generalize w2.heap.size = gp1 at *
            generalize w2.alloc _ = w3 at *
            clear w2
            go_upto_region 13 with (go_at_call 17; refine (hG2 B3).mono ?_; rintro e w4 ⟨dd, rfl, hd4, k4, B4⟩; obtain ⟨a4, n4, c4, ed, s4, -⟩ := id hd4; subst ed)
            have hd5 := hd3.keep k4 (fun j hj hf => by have := HX.out j hf.1; omega)
            obtain ⟨_, _, _, ed, s5, -⟩ := id hd5
            simp at ed
            obtain ⟨rfl, rfl, rfl⟩ := ed
            have bx2 := bx1.keep k4 (fun h => by have := HX.out _ h.1; have := HG1.out; omega)
            have hcb3 := hcb2.keep k4 (fun h => h.2.2 HZ.out.1)
            have ab4 := ba (o := .cells #[.int .i64 gy.k, .int .i64 gy.f, .int .i64 gy.t, .int .i64 gy.i, .int .i64 gy.l, .int .i64 gy.p, .int .i64 gy.s, .bool gy.fl, .slice a4 n4 c4] 32) (Below.refl w4.heap.size w4)
            have by1 := Bx.made w4 gy (.slice a4 n4 c4)
            have bx3 := bx2.next ab4
            have hcb4 := hcb3.below ab4
            have B5 := B4.below ab4
            have s6 : Sl _ a2 n2 c2 gy.z := Sl.below s5 ab4
            have s7 : Sl _ a4 n4 c4 gy.z := Sl.below s4 ab4
            clear hG2 k4 hd4 hd5 hd3 s4 s5 bx1 bx2 hcb2 hcb3 B3 B4 ab4
            generalize w4.heap.size = gp2 at *
            generalize w4.alloc _ = w5 at *
            clear w4
            obtain ⟨x0, x1, x2, x3, x4, x5, x6, x7, x8, _, xlt⟩ := bx3
            obtain ⟨y0, y1, y2, y3, y4, y5, y6, y7, y8, _, ylt⟩ := by1
            have hne : (gb != gb) = false := by simp
            have HS := refSame_any gy gy a2 a4 n2 n4 c2 c4 w5 s6 s7
            rw [sameP_self] at HS
            unfold Pk.val at HS
            go_wp2_with (go_at_call 18; refine HS.mono ?_; rintro e w6 ⟨rfl, b6⟩)
            go_meet
            case rel => exact ⟨n + 1, m + 1, _, _, _, _, _, by omega, by omega, HZ.out.1, hcb4.below b6, B5.below b6⟩
          · have q5' : (d % 5 == 4) = false := by simp [q5]
            have a1 := A0.c 1 (by omega)
            have a2 := A0.c 2 (by omega)
            have a3 := A0.c 3 (by omega)
            have a4 := A0.c 4 (by omega)
            have a5 := A0.c 5 (by omega)
            have a6 := A0.c 6 (by omega)
            have a7 := A0.c 7 (by omega)
            have a8 := A0.c 8 (by omega)
            have a9 := A0.c 9 (by omega)
            have a10 := A0.c 10 (by omega)
            simp only [acells, List.getElem?_cons_zero, List.getElem?_cons_succ] at a1 a2 a3 a4 a5 a6 a7 a8 a9 a10
            have hP := play2_any x hw ax nx cx W0 hsx1
            unfold Pk.val at hP
            go_upto_region 16 with (go_at_call 19; refine hP.mono ?_; rintro e w2 ⟨v, rfl, y, a, k2, c2, ev, so, hk6, -, hl64, hlo, b2⟩; unfold Pk.val at ev; subst ev)
            have ab2 := ba (o := .cells #[.int .i64 y.k, .int .i64 y.f, .int .i64 y.t, .int .i64 y.i, .int .i64 y.l, .int .i64 y.p, .int .i64 y.s, .bool y.fl, .slice a k2 c2] 32) (Below.refl w2.heap.size w2)
            have bx := Bx.made w2 y (.slice a k2 c2)
            have so1 := so.below ab2
            have hb2 := next b2 ab2
            obtain ⟨X2, Z2, B2, hz3, hz4⟩ := B1.made hb2
            have hcb2 := hcb1.below hb2
            have A2 := A0.below hb2
            have hg2 : w2.heap.size < (w2.alloc (.cells #[.int .i64 y.k, .int .i64 y.f, .int .i64 y.t, .int .i64 y.i, .int .i64 y.l, .int .i64 y.p, .int .i64 y.s, .bool y.fl, .slice a k2 c2] 32)).heap.size := by simp
            have HZ2 : Hid (Z2 gc ∧ Z2 ga ∧ Z2 w2.heap.size ∧ ∀ ad : Addr, a = some ad → Z2 ad.block ∧ ad.block ≠ w2.heap.size ∧ ad.block ≠ gc ∧ ad.block ≠ ga) := by
              refine ⟨hz3 _ HZ.out.1, hz3 _ HZ.out.2, hz4 _ b2.size hg2, fun ad h => ?_⟩
              have h1 := hlo ad h
              have h2 := hcb1.lt
              have h3 := A0.lt
              exact ⟨hz4 _ h1.1 (by have := ab2.size; omega), by omega, by omega, by omega⟩
            have HN2 : Hid (ga ≠ w2.heap.size ∧ gc ≠ w2.heap.size) := by
              have h2 := hcb1.lt
              have h3 := A0.lt
              have h4 := b2.size
              exact ⟨by omega, by omega⟩
            have HYL : Hid (In64 y.l) := hl64 hnum.l
            clear a0 a1 a2 a3 a4 a5 a6 a7 a8 a9 a10 alt c0 clt so ab2 hb2 hz3 hz4 hg2 hl64 hlo b2 hP hsx1 HZ B1 hcb1 A0
            generalize w2.heap.size = gp at *
            generalize w2.alloc _ = w3 at *
            clear w2 X1 Z1
            have A10 := A2.c 10 (by omega)
            simp only [acells, List.getElem?_cons_zero, List.getElem?_cons_succ] at A10
            have alt := A2.lt
            go_upto_if 83 with fail
            go_cut [] (fun wx => ∃ (y : Pk) (a : Option Addr) (k c : Nat) (X Z : Nat → Prop), Bx wx gp y (.slice a k c) ∧ Sl wx a k c y.z ∧ In64 y.l ∧ Z gc ∧ Z gp ∧ (∀ ad : Addr, a = some ad → Z ad.block) ∧ CB wx gc N L K S Y O I (.slice av nv cv) ∧ BH w wx g g1 g2 gd X Z N L K nd n m DL o q DL o q)
            case first => as_aux_lemma =>
              by_cases q3 : hw.tmod 4 = 3
              · have q3' : (hw.tmod 4 != 3) = false := by simp [q3]
                go_wp2_with fail
                go_meet
                case rel => exact ⟨y, a, k2, c2, X2, Z2, bx, so1.sl, HYL.out, HZ2.out.1, HZ2.out.2.2.1, fun ad h => (HZ2.out.2.2.2 ad h).1, hcb2, B2⟩
              · have q3' : (hw.tmod 4 != 3) = true := by simp [q3]
                clear A10
                have c0 := hcb2.c0
                have clt := hcb2.lt
                obtain ⟨x0, x1, x2, x3, x4, x5, x6, x7, x8, xf, xlt⟩ := id bx
                have x1f := xf 1
                have x2f := xf 2
                go_upto_region 18 with (go_at_call 9; refine (within_any _ _ _ (by omega) (by omega)).mono ?_; rintro e wx ⟨rfl, rfl⟩)
                have K3 : Keep (fun j => j = gp) w3 ((w3.setCell ⟨gp, 2, none⟩ (.int .i64 nd)).setCell ⟨gp, 1, none⟩ (.int .i64 (y.f % (N : Int)))) := (Keep.one w3 gp 2 _).setCell (p := ⟨gp, 1, none⟩) (.inl rfl) _
                have B3 := B2.write K3 (fun j hj => by rw [hj]; exact HZ2.out.2.2.1)
                have hcb3 := hcb2.keep K3 HN2.out.2
                have A3 := A2.keep K3 HN2.out.1
                obtain ⟨y3, bx3, so3⟩ : ∃ y3 : Pk, Bx ((w3.setCell ⟨gp, 2, none⟩ (.int .i64 nd)).setCell ⟨gp, 1, none⟩ (.int .i64 (y.f % (N : Int)))) gp y3 (.slice a k2 c2) ∧ SO W0.heap.size ((w3.setCell ⟨gp, 2, none⟩ (.int .i64 nd)).setCell ⟨gp, 1, none⟩ (.int .i64 (y.f % (N : Int)))) a k2 c2 y3.z :=
                  ⟨_, (bx.setT nd).setF (y.f % (N : Int)), (so1.far (fun ad h => (HZ2.out.2.2.2 ad h).2.1)).far (fun ad h => (HZ2.out.2.2.2 ad h).2.1)⟩
                clear K3 B2 hcb2 A2 bx so1 x0 x1 x2 x3 x4 x5 x6 x7 x8 xf xlt x1f x2f c0 clt alt
                generalize (w3.setCell ⟨gp, 2, none⟩ (.int .i64 nd)).setCell ⟨gp, 1, none⟩ (.int .i64 (y.f % (N : Int))) = w4 at *
                clear w3
                obtain ⟨l4, hl4⟩ : ∃ l4, wrap64 (wrap64 (y3.l * (N : Int)) + nd) % (L : Int) = l4 := ⟨_, rfl⟩
                have HL4 : Hid (wrap64 (wrap64 (y3.l * (N : Int)) + nd) % (L : Int) = l4) := hl4
                have HI4 : Hid (In64 l4) := by
                  have h1 := Int.emod_nonneg (wrap64 (wrap64 (y3.l * (N : Int)) + nd)) (show (L : Int) ≠ 0 by omega)
                  have h2 := Int.emod_lt_of_pos (wrap64 (wrap64 (y3.l * (N : Int)) + nd)) (show (0 : Int) < (L : Int) by omega)
                  rw [hl4] at h1 h2
                  unfold Hid In64
                  omega
                clear hl4
                have c0 := hcb3.c0
                have c1 := hcb3.c1
                have clt := hcb3.lt
                obtain ⟨x0, x1, x2, x3, x4, x5, x6, x7, x8, xf, xlt⟩ := id bx3
                have x0f := xf 0
                have x4f := xf 4
                go_upto_region 20 with (go_at_call 9; refine (within_any _ _ _ (by omega) (by omega)).mono ?_; rintro e wx ⟨rfl, rfl⟩; rw [HL4.out])
                have K3 : Keep (fun j => j = gp) w4 ((w4.setCell ⟨gp, 4, none⟩ (.int .i64 l4)).setCell ⟨gp, 0, none⟩ (.int .i64 1)) := (Keep.one w4 gp 4 _).setCell (p := ⟨gp, 0, none⟩) (.inl rfl) _
                have B5 := B3.write K3 (fun j hj => by rw [hj]; exact HZ2.out.2.2.1)
                have hcb5 := hcb3.keep K3 HN2.out.2
                have A5 := A3.keep K3 HN2.out.1
                obtain ⟨y5, bx5, so5, hy5⟩ : ∃ y5 : Pk, Bx ((w4.setCell ⟨gp, 4, none⟩ (.int .i64 l4)).setCell ⟨gp, 0, none⟩ (.int .i64 1)) gp y5 (.slice a k2 c2) ∧ SO W0.heap.size ((w4.setCell ⟨gp, 4, none⟩ (.int .i64 l4)).setCell ⟨gp, 0, none⟩ (.int .i64 1)) a k2 c2 y5.z ∧ In64 y5.l :=
                  ⟨_, (bx3.setL l4).setK 1, (so3.far (fun ad h => (HZ2.out.2.2.2 ad h).2.1)).far (fun ad h => (HZ2.out.2.2.2 ad h).2.1), HI4.out⟩
                have HI5 : Hid (In64 y5.l) := hy5
                clear hy5 HI4 HL4
                clear K3 B3 hcb3 A3 bx3 so3 x0 x1 x2 x3 x4 x5 x6 x7 x8 xf xlt x0f x4f c0 c1 clt
                generalize (w4.setCell ⟨gp, 4, none⟩ (.int .i64 l4)).setCell ⟨gp, 0, none⟩ (.int .i64 1) = w5 at *
                have x4 := bx5.c4
                have xlt := bx5.lt
                have ltg : gd < w5.heap.size := by obtain ⟨_, _, _, _, _, H, _⟩ := B5.dh; exact H.lt
                have uc := @Up.cell
                refine wp_region_up (by kernel_rfl) (by kernel_rfl) ?_
                repeat (go_big_quiet_step (first
                  | (go_at_call 20; exact Calls.up_of (bh_o2 (B5.below (Subtype.property _)) y5.l))
                  | fail))
                refine wpQuiet_nil ?_
                rintro _ ⟨u, rfl⟩
                have B6 := B5.below u.2
                have hcb6 := hcb5.below u.2
                have A6 := A5.below u.2
                have bx6 := bx5.next u.2
                have so6 := so5.below u.2
                clear uc x4 xlt ltg B5 hcb5 A5 bx5 so5
                generalize u.1 = w6 at *
                clear u
                generalize ownT o y5.l = ow at *
                have a0 := A6.c 0 (by omega)
                simp only [acells, List.getElem?_cons_zero] at a0
                have alt := A6.lt
                by_cases qa : d % 5 < 2
                · have qa' : decide (d % 5 < 2) = true := decide_eq_true qa
                  go_upto_if 117 with (go_at_call 9; refine (within_any _ _ _ (by omega) (by omega)).mono ?_; rintro e wx ⟨rfl, rfl⟩)
                  by_cases qb : ow = -1
                  · have qb' : (ow != -1) = false := by simp [qb]
                    go_wp2_with fail
                    go_meet
                    case rel => exact ⟨y5, a, k2, c2, X2, Z2, bx6, so6.sl, HI5.out, HZ2.out.1, HZ2.out.2.2.1, fun ad h => (HZ2.out.2.2.2 ad h).1, hcb6, B6⟩
                  · have qb' : (ow != -1) = true := by simp [qb]
                    obtain ⟨x0, x1, x2, x3, x4, x5, x6, x7, x8, xf, xlt⟩ := id bx6
                    have x0f := xf 0
                    have x1f := xf 1
                    go_upto_region 23 with fail
                    have K3 : Keep (fun j => j = gp) w6 ((w6.setCell ⟨gp, 0, none⟩ (.int .i64 2)).setCell ⟨gp, 1, none⟩ (.int .i64 ow)) := (Keep.one w6 gp 0 _).setCell (p := ⟨gp, 1, none⟩) (.inl rfl) _
                    have B7 := B6.write K3 (fun j hj => by rw [hj]; exact HZ2.out.2.2.1)
                    have hcb7 := hcb6.keep K3 HN2.out.2
                    have A7 := A6.keep K3 HN2.out.1
                    obtain ⟨y7, bx7, so7, hy7⟩ : ∃ y7 : Pk, Bx ((w6.setCell ⟨gp, 0, none⟩ (.int .i64 2)).setCell ⟨gp, 1, none⟩ (.int .i64 ow)) gp y7 (.slice a k2 c2) ∧ SO W0.heap.size ((w6.setCell ⟨gp, 0, none⟩ (.int .i64 2)).setCell ⟨gp, 1, none⟩ (.int .i64 ow)) a k2 c2 y7.z ∧ In64 y7.l :=
                      ⟨_, (bx6.setK 2).setF ow, (so6.far (fun ad h => (HZ2.out.2.2.2 ad h).2.1)).far (fun ad h => (HZ2.out.2.2.2 ad h).2.1), HI5.out⟩
                    have HI7 : Hid (In64 y7.l) := hy7
                    clear hy7 HI5 K3 B6 hcb6 A6 bx6 so6 x0 x1 x2 x3 x4 x5 x6 x7 x8 xf xlt x0f x1f a0 alt
                    generalize (w6.setCell ⟨gp, 0, none⟩ (.int .i64 2)).setCell ⟨gp, 1, none⟩ (.int .i64 ow) = w7 at *
                    have a0 := A7.c 0 (by omega)
                    simp only [acells, List.getElem?_cons_zero] at a0
                    have alt := A7.lt
                    go_upto_if 124 with fail
                    by_cases qc : d.tmod 3 = 0
                    · have qc' : (d.tmod 3 != 0) = false := by simp [qc]
                      go_wp2_with fail
                      go_meet
                      case rel => exact ⟨y7, a, k2, c2, X2, Z2, bx7, so7.sl, HI7.out, HZ2.out.1, HZ2.out.2.2.1, fun ad h => (HZ2.out.2.2.2 ad h).1, hcb7, B7⟩
                    · have qc' : (d.tmod 3 != 0) = true := by simp [qc]
                      have c0 := hcb7.c0
                      have clt := hcb7.lt
                      obtain ⟨x0, x1, x2, x3, x4, x5, x6, x7, x8, xf, xlt⟩ := id bx7
                      have x5f := xf 5
                      have x6f := xf 6
                      go_upto_region 26 with (go_at_call 9; refine (within_any _ _ _ (by omega) (by omega)).mono ?_; rintro e wx ⟨rfl, rfl⟩)
                      have K3 : Keep (fun j => j = gp) w7 ((w7.setCell ⟨gp, 5, none⟩ (.int .i64 (y7.p % (N : Int)))).setCell ⟨gp, 6, none⟩ (.int .i64 (1 + y7.s % 2))) := (Keep.one w7 gp 5 _).setCell (p := ⟨gp, 6, none⟩) (.inl rfl) _
                      have B8 := B7.write K3 (fun j hj => by rw [hj]; exact HZ2.out.2.2.1)
                      have hcb8 := hcb7.keep K3 HN2.out.2
                      obtain ⟨y8, bx8, so8, hy8⟩ : ∃ y8 : Pk, Bx ((w7.setCell ⟨gp, 5, none⟩ (.int .i64 (y7.p % (N : Int)))).setCell ⟨gp, 6, none⟩ (.int .i64 (1 + y7.s % 2))) gp y8 (.slice a k2 c2) ∧ SO W0.heap.size ((w7.setCell ⟨gp, 5, none⟩ (.int .i64 (y7.p % (N : Int)))).setCell ⟨gp, 6, none⟩ (.int .i64 (1 + y7.s % 2))) a k2 c2 y8.z ∧ In64 y8.l :=
                        ⟨_, (bx7.setP (y7.p % (N : Int))).setS (1 + y7.s % 2), (so7.far (fun ad h => (HZ2.out.2.2.2 ad h).2.1)).far (fun ad h => (HZ2.out.2.2.2 ad h).2.1), HI7.out⟩
                      have HI8 : Hid (In64 y8.l) := hy8
                      clear hy8 HI7 K3 B7 hcb7 A7 bx7 so7 x0 x1 x2 x3 x4 x5 x6 x7 x8 xf xlt x5f x6f a0 alt c0 clt
                      generalize (w7.setCell ⟨gp, 5, none⟩ (.int .i64 (y7.p % (N : Int)))).setCell ⟨gp, 6, none⟩ (.int .i64 (1 + y7.s % 2)) = w8 at *
                      clear w7
                      obtain ⟨i0, hfi, hp0, hp1, hp2⟩ := info_parts Try.infoInt
                      refine wp_region_orders 9 rfl (by kernel_rfl) ?_
                      have Bd : Below w8.heap.size w8 w8.drew := (Below.refl _ _).drew
                      have B9 := B8.below Bd
                      have hcb9 := hcb8.below Bd
                      have bx9 := bx8.next Bd
                      have so9 := so8.below Bd
                      clear Bd B8 hcb8 bx8 so8
                      generalize w8.drew = w9 at *
                      clear w8
                      have hI : (fun V : World => V.cell? ⟨gp, 8, none⟩ = some (.slice a k2 c2) ∧ V.cell? ⟨gc, 2, none⟩ = some (.int .i64 (K : Int))) w9 := ⟨bx9.c8, hcb9.c2⟩
                      refine any_inv (fun V : World => V.cell? ⟨gp, 8, none⟩ = some (.slice a k2 c2) ∧ V.cell? ⟨gc, 2, none⟩ = some (.int .i64 (K : Int))) [8] hI ?_
                      refine inv_take (v := ?v1) [1, 3, 6, 7, 8] 0 hI rfl (by kernel_rfl) (by kernel_rfl) (by kernel_rfl) (by kernel_rfl) (by kernel_rfl) (fun _ _ _ h => h) (by kernel_rfl) (fun V hV => ?hy1) ?go1
                      case hy1 => (obtain ⟨z0, z1⟩ := hV; go_simp <;> rfl)
                      simp only [Act.put, List.setIfInBounds_toArray, List.set_cons_zero, List.set_cons_succ]
                      refine inv_take (v := ?v2) [3, 6, 7, 8] 1 hI rfl (by kernel_rfl) (by kernel_rfl) (by kernel_rfl) (by kernel_rfl) (by kernel_rfl) (fun _ _ _ h => h) (by kernel_rfl) (fun V hV => ?hy2) ?go2
                      case hy2 => (obtain ⟨z0, z1⟩ := hV; go_simp <;> rfl)
                      simp only [Act.put, List.setIfInBounds_toArray, List.set_cons_zero, List.set_cons_succ]
                      refine inv_take (v := ?v3) [5, 6, 7, 8] 4 hI rfl (by kernel_rfl) (by kernel_rfl) (by kernel_rfl) (by kernel_rfl) (by kernel_rfl) (fun _ _ _ h => h) (by kernel_rfl) (fun V hV => ?hy3) ?go3
                      case hy3 => (obtain ⟨z0, z1⟩ := hV; go_simp <;> rfl)
                      simp only [Act.put, List.setIfInBounds_toArray, List.set_cons_zero, List.set_cons_succ]
                      refine inv_take (v := ?v4) [6, 7, 8] 5 hI rfl (by kernel_rfl) (by kernel_rfl) (by kernel_rfl) (by kernel_rfl) (by kernel_rfl) (fun _ _ _ h => h) (by kernel_rfl) (fun V hV => ?hy4) ?go4
                      case hy4 => (obtain ⟨z0, z1⟩ := hV; go_simp <;> rfl)
                      simp only [Act.put, List.setIfInBounds_toArray, List.set_cons_zero, List.set_cons_succ]
                      refine inv_list 2 (by kernel_rfl) rfl ?_
                      clear hI
                      go_wp2_with fail
                      have ab := ba (o := .cells #[.int .i64 1, .int .i64 2, .int .i64 3, .int .i64 4] 3) (Below.refl w9.heap.size w9)
                      have n4 : ∀ (j : Nat) (u : Value), (cells [1, 2, 3, 4])[j]? = some u → (w9.alloc (.cells #[.int .i64 1, .int .i64 2, .int .i64 3, .int .i64 4] 3)).cell? ((⟨w9.heap.size, 0, none⟩ : Addr).add j) = some u := by
                        intro j u hu
                        obtain ⟨hj, rfl⟩ := cells_get hu
                        simp at hj
                        obtain rfl | rfl | rfl | rfl : j = 0 ∨ j = 1 ∨ j = 2 ∨ j = 3 := by omega
                        all_goals simp [Addr.add]
                      obtain ⟨X3, Z3, B10, hz5, hz6⟩ := B9.made ab
                      have hcb10 := hcb9.below ab
                      have bx10 := bx9.next ab
                      have so10 := so9.below ab
                      have HZ3 : Hid (Z3 gc ∧ Z3 gp ∧ ∀ ad : Addr, a = some ad → Z3 ad.block ∧ ad.block ≠ gp ∧ ad.block ≠ gc) := ⟨hz5 _ HZ2.out.1, hz5 _ HZ2.out.2.2.1, fun ad h => ⟨hz5 _ (HZ2.out.2.2.2 ad h).1, (HZ2.out.2.2.2 ad h).2.1, (HZ2.out.2.2.2 ad h).2.2.1⟩⟩
                      clear ab B9 hcb9 bx9 so9 hz5 hz6
                      generalize w9.heap.size = gs at *
                      generalize w9.alloc (.cells #[.int .i64 1, .int .i64 2, .int .i64 3, .int .i64 4] 3) = w10 at *
                      clear w9
                      refine then_n ⟨⟨bx10.c8, hcb10.c2⟩, ?_⟩
                      refine inv_list 3 (by kernel_rfl) rfl ?_
                      refine wpList_append_rw w10 (fun k => ∃ y : Addr, a = some y ∧ k = y.block) (by kernel_rfl) _ _ 22 rfl 3 i0 (.int .i64 0) 1 8 Try.underlying22 hfi hp0 hp1 hp2 rfl (by decide) a k2 c2 (cells y8.z) rfl (rw_ownb so10.ow) ⟨gs, 0, none⟩ 4 4 (cells [1, 2, 3, 4]) rfl (by omega) rfl n4 (cells_one _) (by unfold maxLen; omega) (by omega) ?_
                      intro a11 c11 w11 rw11 k11
                      rw [cells_cat] at rw11
                      have s11 := sl_rw rw11
                      have B11 := B10.write k11 (fun j hj => by obtain ⟨ad, e, rfl⟩ := hj; exact (HZ3.out.2.2 ad e).1)
                      have bx11 := bx10.keep k11 (fun hj => by obtain ⟨ad, e, h⟩ := hj; exact (HZ3.out.2.2 ad e).2.1 h.symm)
                      have hcb11 := hcb10.keep k11 (fun hj => by obtain ⟨ad, e, h⟩ := hj; exact (HZ3.out.2.2 ad e).2.2 h.symm)
                      clear rw11 k11 n4 B10 bx10 hcb10 so10
                      clear w10
                      refine then_n ⟨⟨bx11.c8, hcb11.c2⟩, ?_⟩
                      simp only [Act.put, List.setIfInBounds_toArray, List.set_cons_zero, List.set_cons_succ]
                      obtain ⟨n12, hn12⟩ : ∃ n12, ((y8.z ++ [1, 2, 3, 4]).take K).length = n12 := ⟨_, rfl⟩
                      have HN12 : Hid (((y8.z ++ [1, 2, 3, 4]).take K).length = n12) := hn12
                      clear hn12
                      refine inv_list 6 (by kernel_rfl) rfl ?_
                      go_wp2_with (go_at_call 21; refine (cut_any a11 _ (k2 + 4) c11 K w11 s11 (by omega)).mono ?_; rintro e w12 ⟨v, rfl, ow12, b12⟩; obtain ⟨a12, c12, ev, s12⟩ := ow12.sl' HN12.out; subst ev)
                      obtain ⟨X4, Z4, B12, hz7, hz8⟩ := B11.made b12
                      have bx12 := bx11.next b12
                      have hcb12 := hcb11.below b12
                      have hz12 : Z4 gc ∧ Z4 gp ∧ ∀ ad : Addr, a12 = some ad → Z4 ad.block := ⟨hz7 _ HZ3.out.1, hz7 _ HZ3.out.2.1, fun ad h => hz8 _ (ow12.lo ad h).1 (ow12.lo ad h).2⟩
                      have hfa : ∀ ad : Addr, a12 = some ad → ad.block ≠ gp := fun ad h => by have := (ow12.lo ad h).1; have := bx11.lt; omega
                      have hfg := bx12.fz 8
                      clear ow12 b12 s11 B11 bx11 hcb11 hz7 hz8
                      clear w11
                      refine then_n ⟨⟨bx12.c8, hcb12.c2⟩, ?_⟩
                      refine inv_list 7 (by kernel_rfl) rfl ?_
                      go_wp2_with fail
                      refine then_n ⟨⟨bx12.c8, hcb12.c2⟩, ?_⟩
                      have c8 := bx12.c8
                      have clt := bx12.lt
                      refine inv_write 8 (by kernel_rfl) (by kernel_rfl) rfl ?_
                      go_wp2_with fail
                      refine then_n ?_
                      refine any_done (by kernel_rfl) ?_
                      have bx13 := bx12.setZ ((y8.z ++ [1, 2, 3, 4]).take K) (.slice a12 n12 c12)
                      have K4 := Keep.one w12 gp 8 (.slice a12 n12 c12)
                      have B13 := B12.write K4 (fun j hj => by rw [hj]; exact hz12.2.1)
                      have hcb13 := hcb12.keep K4 HN2.out.2
                      have s13 : Sl (w12.setCell ⟨gp, 8, none⟩ (.slice a12 n12 c12)) a12 n12 c12 ((y8.z ++ [1, 2, 3, 4]).take K) := s12.far hfa
                      clear K4 B12 hcb12 bx12 s12 hfa hfg c8 clt
                      go_wp2_with fail
                      go_meet
                      case rel => exact ⟨_, _, _, _, _, Z4, bx13, s13, HI8.out, hz12.1, hz12.2.1, hz12.2.2, hcb13, B13⟩
                · have qa' : decide (d % 5 < 2) = false := decide_eq_false qa
                  go_upto_if 117 with (go_at_call 9; refine (within_any _ _ _ (by omega) (by omega)).mono ?_; rintro e wx ⟨rfl, rfl⟩)
                  go_wp2_with fail
                  go_meet
                  case rel => exact ⟨y5, a, k2, c2, X2, Z2, bx6, so6.sl, HI5.out, HZ2.out.1, HZ2.out.2.2.1, fun ad h => (HZ2.out.2.2.2 ad h).1, hcb6, B6⟩
            case rest => as_aux_lemma =>
              clear A10 alt bx so1 B2 hcb2 A2 HZ2 HN2 HYL hk6
              clear X2 Z2 w3 y a k2 c2
              obtain ⟨y, a, k, c, X, Z, bx, sl, hl, hzc, hzp, hza, hcb, B⟩ := hcut
              obtain ⟨pr, hpr⟩ : ∃ pr, hdlR N L K nd DL o q y = pr := ⟨_, rfl⟩
              have hG1 := bh_h1 B y a k c sl hl (by omega)
              have hG2 : ∀ {wy : World} {n2 : Nat} {X2 : Nat → Prop}, BH w wy g g1 g2 gd X2 Z N L K nd n2 m (hdlD N L K nd DL o y) (hdlO N L K nd DL o q y) (hdlQ N L nd o q y) DL o q → Sl wy a k c y.z → _ := fun {wy n2 X2} b s => bh_h2 b N0 (by omega) (by omega) y a k c s
              rw [hpr] at hG1
              simp only [hpr] at hG2
              generalize hdlD N L K nd DL o y = DL2 at *
              generalize hdlO N L K nd DL o q y = o2 at *
              generalize hdlQ N L nd o q y = q2 at *
              have HX : Hid (∀ j, X j → j < wc.heap.size) := B.ph.xl
              have HXG : Hid (X gc ∧ X gp ∧ ∀ ad : Addr, a = some ad → X ad.block) := ⟨(B.z _ hzc).1, (B.z _ hzp).1, fun ad h => (B.z _ (hza ad h)).1⟩
              have HZ3 : Hid (Z gc ∧ Z gp ∧ ∀ ad : Addr, a = some ad → Z ad.block) := ⟨hzc, hzp, hza⟩
              obtain ⟨ry, rb, re⟩ := pr
              simp only at hG1 hG2
              clear hpr hzc hzp hza
              unfold Pk.val at hG1 hG2
              obtain ⟨z0, z1, z2, z3, z4, z5, z6, z7, z8, _, zlt⟩ := id bx
              go_upto_region 28 with (go_at_call 10; refine hG1.mono ?_; rintro e w2 ⟨dd, rfl, hd2, k2, B2⟩; obtain ⟨a2, n2, c2, ed, s2, -⟩ := id hd2; subst ed)
              have ab2 := ba (o := .cells #[.int .i64 ry.k, .int .i64 ry.f, .int .i64 ry.t, .int .i64 ry.i, .int .i64 ry.l, .int .i64 ry.p, .int .i64 ry.s, .bool ry.fl, .slice a2 n2 c2] 32) (Below.refl w2.heap.size w2)
              have bx1 := Bx.made w2 ry (.slice a2 n2 c2)
              have bxp := (bx.keep k2 (fun h => h.2 HXG.out.2.1)).next ab2
              have slp := (sl.keep k2 (fun _ ad e h => h.2 (HXG.out.2.2 ad e))).below ab2
              have hcb2 := (hcb.keep k2 (fun h => h.2 HXG.out.1)).below ab2
              have B3 := B2.below ab2
              have hd3 := hd2.keep (Keep.of_below (F := fun _ => False) ab2) (fun _ _ h => h)
              have HG1 : Hid (wc.heap.size ≤ w2.heap.size) := k2.size
              clear k2 hd2 s2 hG1 ab2 B2 hcb B bx sl z0 z1 z2 z3 z4 z5 z6 z7 z8 zlt
              generalize w2.heap.size = gp1 at *
              generalize w2.alloc _ = w3 at *
              clear w2
              obtain ⟨z0, z1, z2, z3, z4, z5, z6, z7, z8, _, zlt⟩ := id bxp
              go_upto_region 29 with (go_at_call 22; refine (hG2 B3 slp).mono ?_; rintro e w4 ⟨dd, rfl, hd4, k4, B4⟩; obtain ⟨a4, n4, c4, ed, s4, -⟩ := id hd4; subst ed)
              have hd5 := hd3.keep k4 (fun j hj hf => by have := HX.out j hf.1; have := HG1.out; omega)
              obtain ⟨_, _, _, ed, s5, -⟩ := id hd5
              simp at ed
              obtain ⟨rfl, rfl, rfl⟩ := ed
              have bx2 := bx1.keep k4 (fun h => by have := HX.out _ h.1; have := HG1.out; omega)
              have hcb3 := hcb2.keep k4 (fun h => h.2.2 HZ3.out.1)
              have ab4 := ba (o := .cells #[.int .i64 ry.k, .int .i64 ry.f, .int .i64 ry.t, .int .i64 ry.i, .int .i64 ry.l, .int .i64 ry.p, .int .i64 ry.s, .bool ry.fl, .slice a4 n4 c4] 32) (Below.refl w4.heap.size w4)
              have by1 := Bx.made w4 ry (.slice a4 n4 c4)
              have bx3 := bx2.next ab4
              have hcb4 := hcb3.below ab4
              have B5 := B4.below ab4
              have s6 : Sl _ a2 n2 c2 ry.z := Sl.below s5 ab4
              have s7 : Sl _ a4 n4 c4 ry.z := Sl.below s4 ab4
              clear hG2 k4 hd4 hd5 hd3 s4 s5 bx1 bx2 hcb2 hcb3 B3 B4 ab4 z0 z1 z2 z3 z4 z5 z6 z7 z8 zlt bxp slp
              generalize w4.heap.size = gp2 at *
              generalize w4.alloc _ = w5 at *
              clear w4
              obtain ⟨x0, x1, x2, x3, x4, x5, x6, x7, x8, _, xlt⟩ := bx3
              obtain ⟨y0, y1, y2, y3, y4, y5, y6, y7, y8, _, ylt⟩ := by1
              have hne : (rb != rb) = false := by simp
              have hne2 : (re != re) = false := by simp
              have HS := refSame_any ry ry a2 a4 n2 n4 c2 c4 w5 s6 s7
              rw [sameP_self] at HS
              unfold Pk.val at HS
              go_wp2_with (go_at_call 18; refine HS.mono ?_; rintro e w6 ⟨rfl, b6⟩)
              go_meet
              case rel => exact ⟨n + 1, m + 1, _, _, _, _, _, by omega, by omega, HZ3.out.1, hcb4.below b6, B5.below b6⟩
        case rest => as_aux_lemma =>
          clear B1 hcb1 A0 a0 alt c0 clt hsx1 HZ
          clear X1 Z1 DL o q W0
          obtain ⟨n2, m2, X, Z, DL, o, q, hn2, hm2, hz, hcb, B⟩ := hcut
          have HS := same11_any B N0 ⟨L0, by omega⟩ (by omega) (by omega)
          have HB : Hid (BH w wc g g1 g2 gd X Z N L K nd n2 m2 DL o q DL o q) := B
          have HC : Hid (CB wc gc N L K S Y O I (.slice av nv cv)) := hcb
          clear B hcb
          go_wp2_with (go_at_call 23; refine HS.mono ?_; rintro e w9 ⟨rfl, b9⟩)
          go_roundw
          case rel => exact ⟨i + 1, n2, m2, X, Z, DL, o, q, by go_num, by omega, hn2, hm2, hz, HC.out.below b9, HB.out.below b9⟩
          case measure => simp [intOf]; omega
      · go_wp2_with (go_at_call 14; refine (hwakes_any _).mono ?_; rintro e w9 ⟨rfl, b9⟩)
        go_ret
        exact ⟨rfl, next B.ph.bel b9⟩
    · go_wp2_with (go_at_call 14; refine (hwakes_any _).mono ?_; rintro e w9 ⟨rfl, b9⟩)
      go_ret
      exact ⟨rfl, next B.ph.bel b9⟩
end Go.Proofs.Ytgeiagndpfdnlaa
end
