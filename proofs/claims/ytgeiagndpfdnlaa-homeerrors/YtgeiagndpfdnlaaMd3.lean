/- The contract of memdir's Set when it sets. Conditions: as each theorem states them. -/
import Derived.Test.YtgeiagndpfdnlaaMd2
import Derived.Test.YtgeiagndpfdnlaaTake8
namespace Go.Proofs.Ytgeiagndpfdnlaa
open Go.RowKit Go.Maps
set_option linter.unusedVariables false
set_option maxRecDepth 20000

section
variable {w : World} {g b : Nat} {D : Nat → Prop} {N K : Int} {R : List (Hr × Value)}
set_option maxHeartbeats 1000000 in
theorem MW.set_keep (h : MW w g b D N K R) {l : Int} (hl : In64 l) (hh : hasR R l = true) (s hd : Int) (a : Option Addr) (n cap : Nat) (hn : n = 0) (ho : setOk N K s hd n = true) :
    Calls Try.prog 55 #[.pointer (some ⟨g, 0, none⟩), .int .i64 l, .int .i64 s, .int .i64 hd, .slice a n cap] w fun e w' => e = .returned (.int .i64 0) ∧ Keep (fun j => j = b) w w' ∧ ∃ D' d, (∀ j, D' j → D j ∨ w.heap.size ≤ j) ∧ MW w' g b D' N K (putK hKey ((⟨l, s, hd, (rowAt R l).1.z⟩ : Hr), d) R) := by
  have c0 := h.c0
  have c1 := h.c1
  have c2 := h.c2
  have lt := h.lt
  have lb := h.rows.lt
  have hlk := h.look hl (V := w) (Below.refl _ _)
  rw [hh] at hlk
  obtain ⟨hk1, hk2⟩ := rowAt_key hh
  obtain ⟨a0, n0, cap0, e0, _⟩ := h.rowDat l
  have hd0 : DatZ w D (rowAt R l).1.z (rowAt R l).2 := h.rowDat l
  have hlen : ∀ q : Hr × Value, q.1.n = l → (putK hKey q R).length ≤ 1000 := fun q hq => by rw [putK_len_at h.rise hk2 (show hKey q = hKey (rowAt R l) from hq.trans hk1.symm)]; exact h.len
  unfold setOk at ho
  simp only [Bool.and_eq_true] at ho
  obtain ⟨⟨⟨h1, h2⟩, h3⟩, h4⟩ := ho
  have H1 : Hid (decide (0 ≤ s ∧ s ≤ 2) = true) := h1
  have H2 : Hid (decide (-1 ≤ hd ∧ hd < N) = true) := h2
  have H3 : Hid (((s == 0) == (hd == -1)) = true) := h3
  have H4 : Hid (decide (n = 0 ∨ (n : Int) = K) = true) := h4
  have HL : Hid (∀ q : Hr × Value, q.1.n = l → (putK hKey q R).length ≤ 1000) := hlen
  have hn0 : (n : Int) ≤ 0 := by omega
  clear hn
  clear h1 h2 h3 h4 hk1 hk2 hh hlen
  generalize rowAt R l = r at *
  obtain ⟨x, d⟩ := r
  simp only at e0 hd0
  subst e0
  have E0 := ba (o := .cells #[.int .i64 x.s, .int .i64 x.h, .slice a0 n0 cap0] 94) (Below.refl w.heap.size w)
  go_enter Try.func55, Try.ntmps55
  go_upto_region 12 with (first
      | (go_at_call 66; refine (isState_any _ _).mono ?_; rintro e w1 ⟨rfl, rfl⟩; rw [H1.out])
      | (go_at_call 67; refine (isHead_any _ N _ _ (((ba (Below.refl _ _)).cell (p := ⟨g, 0, none⟩) lt).trans c0)).mono ?_; rintro e w1 ⟨rfl, rfl⟩; rw [H2.out])
      | (go_at_call 68; refine (fits_any _ _ _).mono ?_; rintro e w1 ⟨rfl, rfl⟩; rw [H3.out])
      | (go_at_call 69; refine (isData_any _ K _ _ _ _ (((ba (Below.refl _ _)).cell (p := ⟨g, 1, none⟩) lt).trans c1)).mono ?_; rintro e w1 ⟨rfl, rfl⟩; rw [H4.out]))
  have B2 := ba (o := .cells #[.int .i64 s, .int .i64 hd, .slice a0 n0 cap0] 94) (Below.refl w.heap.size w)
  have p0 : (w.alloc (.cells #[.int .i64 s, .int .i64 hd, .slice a0 n0 cap0] 94)).cell? ⟨w.heap.size, 0, none⟩ = some (.int .i64 s) := by simp
  have p1 : (w.alloc (.cells #[.int .i64 s, .int .i64 hd, .slice a0 n0 cap0] 94)).cell? ⟨w.heap.size, 1, none⟩ = some (.int .i64 hd) := by simp
  have p2 : (w.alloc (.cells #[.int .i64 s, .int .i64 hd, .slice a0 n0 cap0] 94)).cell? ⟨w.heap.size, 2, none⟩ = some (.slice a0 n0 cap0) := by simp
  have HLT : Hid (w.heap.size < (w.alloc (.cells #[.int .i64 s, .int .i64 hd, .slice a0 n0 cap0] 94)).heap.size) := by show _ < _; simp
  generalize w.alloc (.cells #[.int .i64 s, .int .i64 hd, .slice a0 n0 cap0] 94) = V2 at *
  obtain ⟨E, hE⟩ : ∃ E : Nat → Prop, E = D := ⟨_, rfl⟩
  have HD : Hid (DatZ V2 E x.z (.slice a0 n0 cap0)) := hE ▸ hd0.below B2
  have HE : Hid (∀ j, E j → D j ∨ w.heap.size ≤ j) := fun j h => .inl (hE ▸ h)
  have HG : Hid (∀ j, E j → j < V2.heap.size ∧ j ≠ g ∧ j ≠ b) := fun j hj => by
    subst hE
    exact ⟨Nat.lt_of_lt_of_le (h.old j hj) B2.size, fun e => h.dj.1 (e ▸ hj), fun e => h.dj.2 (e ▸ hj)⟩
  have MV := h.below B2
  have BV := B2
  have H : Hid (MW w g b D N K R) := h
  clear E0 c0 c1 c2 hlk hd0 B2 h hE H1 H2 H3 H4 hn0 lt lb
  refine wp_region_orders 7 rfl (by kernel_rfl) ?_
  have Bd : Below V2.heap.size V2 V2.drew := (Below.refl _ _).drew
  have MV1 := MV.below Bd
  have BV1 := next BV Bd
  have q0 := (Bd.cell (p := ⟨w.heap.size, 0, none⟩) HLT.out).trans p0
  have q1 := (Bd.cell (p := ⟨w.heap.size, 1, none⟩) HLT.out).trans p1
  have q2 := (Bd.cell (p := ⟨w.heap.size, 2, none⟩) HLT.out).trans p2
  have HD1 : Hid (DatZ V2.drew E x.z (.slice a0 n0 cap0)) := HD.out.below Bd
  have HG1 : Hid (∀ j, E j → j < V2.drew.heap.size ∧ j ≠ g ∧ j ≠ b) := fun j hj => ⟨Nat.lt_of_lt_of_le (HG.out j hj).1 Bd.size, (HG.out j hj).2⟩
  clear MV BV p0 p1 p2 HD HG HLT Bd
  generalize V2.drew = V3 at *
  clear V2
  have hI : (fun V => V.cell? ⟨g, 2, none⟩ = some (.map (some b)) ∧ V.cell? ⟨w.heap.size, 0, none⟩ = some (.int .i64 s) ∧ V.cell? ⟨w.heap.size, 1, none⟩ = some (.int .i64 hd) ∧ V.cell? ⟨w.heap.size, 2, none⟩ = some (.slice a0 n0 cap0)) V3 := ⟨MV1.c2, q0, q1, q2⟩
  clear q0 q1 q2
  refine any_inv (fun V => V.cell? ⟨g, 2, none⟩ = some (.map (some b)) ∧ V.cell? ⟨w.heap.size, 0, none⟩ = some (.int .i64 s) ∧ V.cell? ⟨w.heap.size, 1, none⟩ = some (.int .i64 hd) ∧ V.cell? ⟨w.heap.size, 2, none⟩ = some (.slice a0 n0 cap0)) [6] hI ?_
  refine inv_take (v := ?v1) [1, 2, 3, 6] 0 hI rfl (by kernel_rfl) (by kernel_rfl) (by kernel_rfl) (by kernel_rfl) (by kernel_rfl) (fun _ _ _ h => h) (by kernel_rfl) (fun V hV => ?hy1) ?go1
  case hy1 => (obtain ⟨z0, z1, z2, z3⟩ := hV; go_simp <;> rfl)
  simp only [Act.put, List.setIfInBounds_toArray, List.set_cons_zero, List.set_cons_succ]
  refine inv_take (v := ?v2) [2, 3, 6] 1 hI rfl (by kernel_rfl) (by kernel_rfl) (by kernel_rfl) (by kernel_rfl) (by kernel_rfl) (fun _ _ _ h => h) (by kernel_rfl) (fun V hV => ?hy2) ?go2
  case hy2 => (obtain ⟨z0, z1, z2, z3⟩ := hV; go_simp <;> rfl)
  simp only [Act.put, List.setIfInBounds_toArray, List.set_cons_zero, List.set_cons_succ]
  refine inv_take (v := ?v3) [3, 6] 2 hI rfl (by kernel_rfl) (by kernel_rfl) (by kernel_rfl) (by kernel_rfl) (by kernel_rfl) (fun _ _ _ h => h) (by kernel_rfl) (fun V hV => ?hy3) ?go3
  case hy3 => (obtain ⟨z0, z1, z2, z3⟩ := hV; go_simp <;> rfl)
  simp only [Act.put, List.setIfInBounds_toArray, List.set_cons_zero, List.set_cons_succ]
  refine inv_take (v := ?v4) [6] 3 hI rfl (by kernel_rfl) (by kernel_rfl) (by kernel_rfl) (by kernel_rfl) (by kernel_rfl) (fun _ _ _ h => h) (by kernel_rfl) (fun V hV => ?hy4) ?go4
  case hy4 => (obtain ⟨z0, z1, z2, z3⟩ := hV; go_simp <;> rfl)
  simp only [Act.put, List.setIfInBounds_toArray, List.set_cons_zero, List.set_cons_succ]
  refine inv_take (v := ?v5) [6] 4 hI rfl (by kernel_rfl) (by kernel_rfl) (by kernel_rfl) (by kernel_rfl) (by kernel_rfl) (fun _ _ _ h => h) (by kernel_rfl) (fun V hV => ?hy5) ?go5
  case hy5 => (obtain ⟨z0, z1, z2, z3⟩ := hV; go_simp <;> rfl)
  simp only [Act.put, List.setIfInBounds_toArray, List.set_cons_zero, List.set_cons_succ]
  refine inv_take (v := ?v6) [6] 5 hI rfl (by kernel_rfl) (by kernel_rfl) (by kernel_rfl) (by kernel_rfl) (by kernel_rfl) (fun _ _ _ h => h) (by kernel_rfl) (fun V hV => ?hy6) ?go6
  case hy6 => (obtain ⟨z0, z1, z2, z3⟩ := hV; go_simp <;> rfl)
  simp only [Act.put, List.setIfInBounds_toArray, List.set_cons_zero, List.set_cons_succ]
  obtain ⟨w9, hrun9, MN, K9, s9⟩ := MV1.store (E := E) (r := ((⟨l, s, hd, x.z⟩ : Hr), .slice a0 n0 cap0)) (HL.out _ rfl) hl HD1.out HG1.out
  have KN : Keep (fun j => j = b) w w9 := (Keep.of_below BV1).trans K9 (fun j _ e => e)
  refine inv_write 6 (by kernel_rfl) (by kernel_rfl) rfl ?_
  clear K9 s9 MV1 BV1 HD1 HG1 hI
  go_wp2_with fail
  refine then_n ?_
  refine any_done (by kernel_rfl) ?_
  clear hrun9
  go_wp2_with fail
  go_ret
  exact ⟨rfl, KN, _, _, fun j hj => hj.elim .inl (HE.out j), MN⟩
set_option maxHeartbeats 1000000 in
theorem MW.set_full (h : MW w g b D N K R) {l : Int} (hl : In64 l) (hh : hasR R l = true) (s hd : Int) (a : Option Addr) (n cap : Nat) (z : List Int) (hs : Sl w a n cap z) (hn : 0 < n) (hb : n ≤ 17592186044416) (ho : setOk N K s hd n = true) :
    Calls Try.prog 55 #[.pointer (some ⟨g, 0, none⟩), .int .i64 l, .int .i64 s, .int .i64 hd, .slice a n cap] w fun e w' => e = .returned (.int .i64 0) ∧ Keep (fun j => j = b) w w' ∧ ∃ D' d, (∀ j, D' j → D j ∨ w.heap.size ≤ j) ∧ MW w' g b D' N K (putK hKey ((⟨l, s, hd, z⟩ : Hr), d) R) := by
  have c0 := h.c0
  have c1 := h.c1
  have c2 := h.c2
  have lt := h.lt
  have lb := h.rows.lt
  have hlk := h.look hl (V := w) (Below.refl _ _)
  rw [hh] at hlk
  obtain ⟨hk1, hk2⟩ := rowAt_key hh
  obtain ⟨a0, n0, cap0, e0, _⟩ := h.rowDat l
  have hd0 : DatZ w D (rowAt R l).1.z (rowAt R l).2 := h.rowDat l
  have hlen : ∀ q : Hr × Value, q.1.n = l → (putK hKey q R).length ≤ 1000 := fun q hq => by rw [putK_len_at h.rise hk2 (show hKey q = hKey (rowAt R l) from hq.trans hk1.symm)]; exact h.len
  unfold setOk at ho
  simp only [Bool.and_eq_true] at ho
  obtain ⟨⟨⟨h1, h2⟩, h3⟩, h4⟩ := ho
  have H1 : Hid (decide (0 ≤ s ∧ s ≤ 2) = true) := h1
  have H2 : Hid (decide (-1 ≤ hd ∧ hd < N) = true) := h2
  have H3 : Hid (((s == 0) == (hd == -1)) = true) := h3
  have H4 : Hid (decide (n = 0 ∨ (n : Int) = K) = true) := h4
  have HL : Hid (∀ q : Hr × Value, q.1.n = l → (putK hKey q R).length ≤ 1000) := hlen
  have hn0 : (0 : Int) < (n : Int) := by omega
  skip
  clear h1 h2 h3 h4 hk1 hk2 hh hlen
  generalize rowAt R l = r at *
  obtain ⟨x, d⟩ := r
  simp only at e0 hd0
  subst e0
  have E0 := ba (o := .cells #[.int .i64 x.s, .int .i64 x.h, .slice a0 n0 cap0] 94) (Below.refl w.heap.size w)
  obtain ⟨b0, o0, ea, _⟩ := hs.at hn
  subst ea
  go_enter Try.func55, Try.ntmps55
  go_upto_region 12 with (first
      | (go_at_call 66; refine (isState_any _ _).mono ?_; rintro e w1 ⟨rfl, rfl⟩; rw [H1.out])
      | (go_at_call 67; refine (isHead_any _ N _ _ (((ba (Below.refl _ _)).cell (p := ⟨g, 0, none⟩) lt).trans c0)).mono ?_; rintro e w1 ⟨rfl, rfl⟩; rw [H2.out])
      | (go_at_call 68; refine (fits_any _ _ _).mono ?_; rintro e w1 ⟨rfl, rfl⟩; rw [H3.out])
      | (go_at_call 69; refine (isData_any _ K _ _ _ _ (((ba (Below.refl _ _)).cell (p := ⟨g, 1, none⟩) lt).trans c1)).mono ?_; rintro e w1 ⟨rfl, rfl⟩; rw [H4.out])
      | (go_at_call 62; refine (dclone_some ⟨b0, o0, none⟩ z n cap _ (hs.below (ba (Below.refl _ _))) hn hb).mono ?_; rintro e w2 ⟨a1, cap1, rfl, own, hb2⟩; obtain ⟨k1, k2⟩ := bcell hb2))
  have hz2 := hb2.size
  simp at hz2
  have hlo := own.lo
  have x0 : w2.cell? ⟨w.heap.size, 0, none⟩ = some (.int .i64 s) := by rw [k1 w.heap.size 0 (by simp)]; simp
  have x1 : w2.cell? ⟨w.heap.size, 1, none⟩ = some (.int .i64 hd) := by rw [k1 w.heap.size 1 (by simp)]; simp
  have x2 : w2.cell? ⟨w.heap.size, 2, none⟩ = some (.slice a0 n0 cap0) := by rw [k1 w.heap.size 2 (by simp)]; simp
  have KK := Keep.one w2 w.heap.size 2 (.slice a1 n cap1)
  have B2 : Below w.heap.size w (w2.setCell ⟨w.heap.size, 2, none⟩ (.slice a1 n cap1)) := KK.after (next (ba (Below.refl _ _)) hb2) (fun j hj => by omega)
  have p0 : (w2.setCell ⟨w.heap.size, 2, none⟩ (.slice a1 n cap1)).cell? ⟨w.heap.size, 0, none⟩ = some (.int .i64 s) := by go_simp
  have p1 : (w2.setCell ⟨w.heap.size, 2, none⟩ (.slice a1 n cap1)).cell? ⟨w.heap.size, 1, none⟩ = some (.int .i64 hd) := by go_simp
  have p2 : (w2.setCell ⟨w.heap.size, 2, none⟩ (.slice a1 n cap1)).cell? ⟨w.heap.size, 2, none⟩ = some (.slice a1 n cap1) := by go_simp
  have HLT : Hid (w.heap.size < (w2.setCell ⟨w.heap.size, 2, none⟩ (.slice a1 n cap1)).heap.size) := by have := KK.size; show _ < _; omega
  have own2 : Own (w2.setCell ⟨w.heap.size, 2, none⟩ (.slice a1 n cap1)) (w.heap.size + 1) (.slice a1 n cap1) z := (own.keep KK (fun k hk e => by have := (own.base k hk).1; simp at this; omega)).low (by simp)
  generalize w2.setCell ⟨w.heap.size, 2, none⟩ (.slice a1 n cap1) = V2 at *
  obtain ⟨E, hE⟩ : ∃ E : Nat → Prop, E = (fun j => w.heap.size + 1 ≤ j ∧ j < V2.heap.size) := ⟨_, rfl⟩
  have HD : Hid (DatZ V2 E z (.slice a1 n cap1)) := (datz_own own2 (by have := hs.len; omega)).imp (fun j hj h => by rw [hE]; exact ⟨h, hj⟩)
  have HE : Hid (∀ j, E j → D j ∨ w.heap.size ≤ j) := fun j h => .inr (by rw [hE] at h; have := h.1; omega)
  have HG : Hid (∀ j, E j → j < V2.heap.size ∧ j ≠ g ∧ j ≠ b) := fun j hj => by
    rw [hE] at hj
    have := hj.1
    exact ⟨hj.2, by omega, by omega⟩
  clear own own2 hz2 hlo x0 x1 x2 KK hb2 k1 k2 hs
  clear w2
  have MV := h.below B2
  have BV := B2
  have H : Hid (MW w g b D N K R) := h
  clear E0 c0 c1 c2 hlk hd0 B2 h hE H1 H2 H3 H4 hn0 lt lb
  refine wp_region_orders 7 rfl (by kernel_rfl) ?_
  have Bd : Below V2.heap.size V2 V2.drew := (Below.refl _ _).drew
  have MV1 := MV.below Bd
  have BV1 := next BV Bd
  have q0 := (Bd.cell (p := ⟨w.heap.size, 0, none⟩) HLT.out).trans p0
  have q1 := (Bd.cell (p := ⟨w.heap.size, 1, none⟩) HLT.out).trans p1
  have q2 := (Bd.cell (p := ⟨w.heap.size, 2, none⟩) HLT.out).trans p2
  have HD1 : Hid (DatZ V2.drew E z (.slice a1 n cap1)) := HD.out.below Bd
  have HG1 : Hid (∀ j, E j → j < V2.drew.heap.size ∧ j ≠ g ∧ j ≠ b) := fun j hj => ⟨Nat.lt_of_lt_of_le (HG.out j hj).1 Bd.size, (HG.out j hj).2⟩
  clear MV BV p0 p1 p2 HD HG HLT Bd
  generalize V2.drew = V3 at *
  clear V2
  have hI : (fun V => V.cell? ⟨g, 2, none⟩ = some (.map (some b)) ∧ V.cell? ⟨w.heap.size, 0, none⟩ = some (.int .i64 s) ∧ V.cell? ⟨w.heap.size, 1, none⟩ = some (.int .i64 hd) ∧ V.cell? ⟨w.heap.size, 2, none⟩ = some (.slice a1 n cap1)) V3 := ⟨MV1.c2, q0, q1, q2⟩
  clear q0 q1 q2
  refine any_inv (fun V => V.cell? ⟨g, 2, none⟩ = some (.map (some b)) ∧ V.cell? ⟨w.heap.size, 0, none⟩ = some (.int .i64 s) ∧ V.cell? ⟨w.heap.size, 1, none⟩ = some (.int .i64 hd) ∧ V.cell? ⟨w.heap.size, 2, none⟩ = some (.slice a1 n cap1)) [6] hI ?_
  refine inv_take (v := ?v7) [1, 2, 3, 6] 0 hI rfl (by kernel_rfl) (by kernel_rfl) (by kernel_rfl) (by kernel_rfl) (by kernel_rfl) (fun _ _ _ h => h) (by kernel_rfl) (fun V hV => ?hy7) ?go7
  case hy7 => (obtain ⟨z0, z1, z2, z3⟩ := hV; go_simp <;> rfl)
  simp only [Act.put, List.setIfInBounds_toArray, List.set_cons_zero, List.set_cons_succ]
  refine inv_take (v := ?v8) [2, 3, 6] 1 hI rfl (by kernel_rfl) (by kernel_rfl) (by kernel_rfl) (by kernel_rfl) (by kernel_rfl) (fun _ _ _ h => h) (by kernel_rfl) (fun V hV => ?hy8) ?go8
  case hy8 => (obtain ⟨z0, z1, z2, z3⟩ := hV; go_simp <;> rfl)
  simp only [Act.put, List.setIfInBounds_toArray, List.set_cons_zero, List.set_cons_succ]
  refine inv_take (v := ?v9) [3, 6] 2 hI rfl (by kernel_rfl) (by kernel_rfl) (by kernel_rfl) (by kernel_rfl) (by kernel_rfl) (fun _ _ _ h => h) (by kernel_rfl) (fun V hV => ?hy9) ?go9
  case hy9 => (obtain ⟨z0, z1, z2, z3⟩ := hV; go_simp <;> rfl)
  simp only [Act.put, List.setIfInBounds_toArray, List.set_cons_zero, List.set_cons_succ]
  refine inv_take (v := ?v10) [6] 3 hI rfl (by kernel_rfl) (by kernel_rfl) (by kernel_rfl) (by kernel_rfl) (by kernel_rfl) (fun _ _ _ h => h) (by kernel_rfl) (fun V hV => ?hy10) ?go10
  case hy10 => (obtain ⟨z0, z1, z2, z3⟩ := hV; go_simp <;> rfl)
  simp only [Act.put, List.setIfInBounds_toArray, List.set_cons_zero, List.set_cons_succ]
  refine inv_take (v := ?v11) [6] 4 hI rfl (by kernel_rfl) (by kernel_rfl) (by kernel_rfl) (by kernel_rfl) (by kernel_rfl) (fun _ _ _ h => h) (by kernel_rfl) (fun V hV => ?hy11) ?go11
  case hy11 => (obtain ⟨z0, z1, z2, z3⟩ := hV; go_simp <;> rfl)
  simp only [Act.put, List.setIfInBounds_toArray, List.set_cons_zero, List.set_cons_succ]
  refine inv_take (v := ?v12) [6] 5 hI rfl (by kernel_rfl) (by kernel_rfl) (by kernel_rfl) (by kernel_rfl) (by kernel_rfl) (fun _ _ _ h => h) (by kernel_rfl) (fun V hV => ?hy12) ?go12
  case hy12 => (obtain ⟨z0, z1, z2, z3⟩ := hV; go_simp <;> rfl)
  simp only [Act.put, List.setIfInBounds_toArray, List.set_cons_zero, List.set_cons_succ]
  obtain ⟨w9, hrun9, MN, K9, s9⟩ := MV1.store (E := E) (r := ((⟨l, s, hd, z⟩ : Hr), .slice a1 n cap1)) (HL.out _ rfl) hl HD1.out HG1.out
  have KN : Keep (fun j => j = b) w w9 := (Keep.of_below BV1).trans K9 (fun j _ e => e)
  refine inv_write 6 (by kernel_rfl) (by kernel_rfl) rfl ?_
  clear K9 s9 MV1 BV1 HD1 HG1 hI
  go_wp2_with fail
  refine then_n ?_
  refine any_done (by kernel_rfl) ?_
  clear hrun9
  go_wp2_with fail
  go_ret
  exact ⟨rfl, KN, _, _, fun j hj => hj.elim .inl (HE.out j), MN⟩
end
end Go.Proofs.Ytgeiagndpfdnlaa
