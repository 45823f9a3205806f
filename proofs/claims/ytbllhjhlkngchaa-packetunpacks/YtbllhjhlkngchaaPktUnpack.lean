/- The contract of packet.Unpack. Conditions: as stated. -/
import Derived.Test.YtbllhjhlkngchaaPktReadP
namespace Go.Proofs.Ytbllhjhlkngchaa
open Go.RowKit
set_option linter.unusedVariables false

/-- What bytes are, as a packet. -/
def unpackI (l : List Int) : Option Pk := match B.openI l with
  | none => none
  | some b => if (formB b && (readP b).right) = true then some (readP b) else none
theorem unpack_none {l : List Int} (h : B.openI l = none) : unpackI l = none := by unfold unpackI; rw [h]
theorem unpack_form {l b : List Int} (h : B.openI l = some b) (hf : formB b = false) : unpackI l = none := by unfold unpackI; rw [h]; simp [hf]
theorem unpack_right {l b : List Int} (h : B.openI l = some b) (hf : (readP b).right = false) : unpackI l = none := by unfold unpackI; rw [h]; simp [hf]
theorem unpack_some {l b : List Int} (h : B.openI l = some b) (hf : formB b = true) (hr : (readP b).right = true) : unpackI l = some (readP b) := by unfold unpackI; rw [h]; simp [hf, hr]
theorem form_of {b : List Int} (h8 : B.B8 b) (h : formB b = true) : ∃ m : Nat, m ≤ 255 ∧ b.length = 10 + 8 * m := by
  unfold formB at h
  simp at h
  have := B.B8_get h8 9
  exact ⟨(b[9]?.getD 0).toNat, by omega, by omega⟩

theorem open_take {l b : List Int} (h : B.openI l = some b) : b = l.take (l.length - 2) := by
  unfold B.openI at h
  split at h
  · cases h
  · split at h
    · exact (Option.some.inj h).symm
    · cases h
/-- No packet. -/
def NoPk (w : World) (e : Ending) (w' : World) (t : Value) : Prop := e = .returned (.tuple #[zeroPk.val (.slice none 0 0), t]) ∧ Below w.heap.size w w'
set_option maxHeartbeats 1000000 in
theorem unpack_no (a : Option Addr) (l : List Int) (n cap : Nat) (w : World) (hsl : B.Sl w a n cap l) (hn : n ≤ 140737488351300) (h : unpackI l = none) :
    Calls Try.prog 28 #[.slice a n cap] w fun e w' => NoPk w e w' (.int .i64 2) := by
  have bx0 := Bx.made w zeroPk (.slice none 0 0)
  have hB0 : Below w.heap.size w (w.alloc (.cells #[.int .i64 zeroPk.k, .int .i64 zeroPk.f, .int .i64 zeroPk.t, .int .i64 zeroPk.i, .int .i64 zeroPk.l, .int .i64 zeroPk.p, .int .i64 zeroPk.s, .bool zeroPk.fl, .slice none 0 0] 26)) := ba (Below.refl _ _)
  have hs0 := hsl.below hB0
  cases ho : B.openI l with
  | none =>
    have HO : Hid (B.openI l = none) := ho
    clear h ho hsl
    go_enter Try.func28, Try.ntmps28
    go_wp2_with (go_at_call 39; refine (B.open_any a l n cap _ hs0 hn).mono ?_; rintro e w1 ⟨v1, rfl, ho1, hb1⟩; rw [HO.out] at ho1 ⊢; simp only [Option.isSome_none, Option.getD_none] at ho1 ⊢; obtain ⟨a1, cap1, rfl, hs1⟩ := ho1.sl' (n := 0) rfl; have bx1 := bx0.next hb1; have fq := bx1.fz; obtain ⟨q0, q1, q2, q3, q4, q5, q6, q7, q8, _, _⟩ := id bx1)
    refine bodyPost_ret (v := .tuple #[zeroPk.val (.slice none 0 0), .int .i64 2]) (by simp [results, Try.results28, go_sem, zeroPk, *]) rfl ⟨rfl, ?_⟩
    exact far9 (y := zeroPk) (v := .slice none 0 0) (P := fun V => Below w.heap.size w V) (fun V o u h => h.setCell (by simp) _) (next hB0 hb1)
  | some b =>
    have HO : Hid (B.openI l = some b) := ho
    obtain ⟨nb, hnb⟩ : ∃ nb, b.length = nb := ⟨_, rfl⟩
    have HB : Hid (b.length = nb) := hnb
    have h8b : B.B8 b := by rw [open_take ho]; exact B.B8_take hsl.b8 _
    clear hsl hnb
    cases hf : formB b
    · have HF : Hid (formB b = false) := hf
      clear h ho hf
      go_enter Try.func28, Try.ntmps28
      go_wp2_with (first
        | (go_at_call 39; refine (B.open_any a l n cap _ hs0 hn).mono ?_; rintro e w1 ⟨v1, rfl, ho1, hb1⟩; rw [HO.out] at ho1 ⊢; simp only [Option.isSome_some, Option.getD_some] at ho1 ⊢; obtain ⟨a1, cap1, rfl, hs1⟩ := ho1.sl' HB.out; have bx1 := bx0.next hb1)
        | (go_at_call 40; refine (hasForm_any a1 b nb cap1 _ hs1).mono ?_; rintro e w2 ⟨rfl, k2, rfl⟩; rw [HF.out]; have bx2 := bx1.next (below_dn _ k2); have fq := bx2.fz; obtain ⟨q0, q1, q2, q3, q4, q5, q6, q7, q8, _, _⟩ := id bx2))
      refine bodyPost_ret (v := .tuple #[zeroPk.val (.slice none 0 0), .int .i64 2]) (by simp [results, Try.results28, go_sem, zeroPk, *]) rfl ⟨rfl, ?_⟩
      exact far9 (y := zeroPk) (v := .slice none 0 0) (P := fun V => Below w.heap.size w V) (fun V o u h => h.setCell (by simp) _) (next (next hB0 hb1) (below_dn _ k2))
    · have HF : Hid (formB b = true) := hf
      obtain ⟨y, hy⟩ : ∃ y, readP b = y := ⟨_, rfl⟩
      have HR : y.right = false := by
        cases hr : y.right
        · rfl
        · rw [unpack_some ho hf (by rw [hy]; exact hr)] at h; cases h
      have HE : Hid (y.err = 1) := Pk.err_f HR
      obtain ⟨m, hm1, hm2⟩ := form_of h8b hf
      have HM : Hid (nb = 10 + 8 * m) := by show _ = _; rw [← HB.out]; exact hm2
      clear hm2
      have HY : Hid (readP b = y) := hy
      have HZ : Hid ((readP b).z.length = m) := by show (wordsN _ _).length = m; rw [wordsN_len, HB.out, HM.out]; omega
      clear h ho hf hy
      go_enter Try.func28, Try.ntmps28
      go_wp2_with (first
        | (go_at_call 39; refine (B.open_any a l n cap _ hs0 hn).mono ?_; rintro e w1 ⟨v1, rfl, ho1, hb1⟩; rw [HO.out] at ho1 ⊢; simp only [Option.isSome_some, Option.getD_some] at ho1 ⊢; obtain ⟨a1, cap1, rfl, hs1⟩ := ho1.sl' HB.out; have bx1 := bx0.next hb1)
        | (go_at_call 40; refine (hasForm_any a1 b nb cap1 _ hs1).mono ?_; rintro e w2 ⟨rfl, k2, rfl⟩; rw [HF.out]; have bx2 := bx1.next (below_dn _ k2); have hs2 := hs1.below (below_dn _ k2))
        | (go_at_call 41; refine (read_any a1 b nb cap1 m _ hs2 HM.out hm1).mono ?_; rintro e w3 ⟨a3, cap3, rfl, ho3, hb3⟩; rw [HY.out] at ho3 ⊢; unfold Pk.val; have bx3 := bx2.next hb3; obtain ⟨a3', cap3', e3, hs3⟩ := ho3.sl' (n := m) (by rw [← HY.out]; exact HZ.out); simp at e3; obtain ⟨rfl, rfl⟩ := e3)
        | (go_at_call 16; refine (check_any y a3 m cap3 _ (hs3.below (ba (Below.refl _ _)))).mono ?_; rintro e w4 ⟨rfl, hb4⟩; rw [HE.out]; have bx4 := (bx3.next (ba (Below.refl _ _))).next hb4; have fq := bx4.fz; obtain ⟨q0, q1, q2, q3, q4, q5, q6, q7, q8, _, _⟩ := id bx4))
      refine bodyPost_ret (v := .tuple #[zeroPk.val (.slice none 0 0), .int .i64 2]) (by simp [results, Try.results28, go_sem, zeroPk, *]) rfl ⟨rfl, ?_⟩
      exact far9 (y := zeroPk) (v := .slice none 0 0) (P := fun V => Below w.heap.size w V) (fun V o u h => h.setCell (by simp) _) (next (next (next (next hB0 hb1) (below_dn _ k2)) hb3) (next (ba (Below.refl _ _)) hb4))
set_option maxHeartbeats 1000000 in
theorem unpack_yes (a : Option Addr) (l : List Int) (n cap : Nat) (w : World) (hsl : B.Sl w a n cap l) (hn : n ≤ 140737488351300) (y : Pk) (h : unpackI l = some y) :
    Calls Try.prog 28 #[.slice a n cap] w fun e w' => ∃ a' m cap', e = .returned (.tuple #[y.val (.slice a' m cap'), .int .i64 0]) ∧ Sl w' a' m cap' y.z ∧ (∀ ad : Addr, a' = some ad → w.heap.size ≤ ad.block) ∧ Below w.heap.size w w' := by
  have bx0 := Bx.made w zeroPk (.slice none 0 0)
  have hB0 : Below w.heap.size w (w.alloc (.cells #[.int .i64 zeroPk.k, .int .i64 zeroPk.f, .int .i64 zeroPk.t, .int .i64 zeroPk.i, .int .i64 zeroPk.l, .int .i64 zeroPk.p, .int .i64 zeroPk.s, .bool zeroPk.fl, .slice none 0 0] 26)) := ba (Below.refl _ _)
  have hs0 := hsl.below hB0
  cases ho : B.openI l with
  | none => rw [unpack_none ho] at h; cases h
  | some b =>
    have HO : Hid (B.openI l = some b) := ho
    obtain ⟨nb, hnb⟩ : ∃ nb, b.length = nb := ⟨_, rfl⟩
    have HB : Hid (b.length = nb) := hnb
    have h8b : B.B8 b := by rw [open_take ho]; exact B.B8_take hsl.b8 _
    clear hsl hnb
    cases hf : formB b
    · rw [unpack_form ho hf] at h; cases h
    · cases hr : (readP b).right
      · rw [unpack_right ho hr] at h; cases h
      rw [unpack_some ho hf hr] at h
      have hy : readP b = y := Option.some.inj h
      have HF : Hid (formB b = true) := hf
      have HE : Hid (y.err = 0) := Pk.err_t (by rw [← hy]; exact hr)
      obtain ⟨m, hm1, hm2⟩ := form_of h8b hf
      have HM : Hid (nb = 10 + 8 * m) := by show _ = _; rw [← HB.out]; exact hm2
      clear hm2
      have HY : Hid (readP b = y) := hy
      have HZ : Hid ((readP b).z.length = m) := by show (wordsN _ _).length = m; rw [wordsN_len, HB.out, HM.out]; omega
      clear h ho hf hy hr
      go_enter Try.func28, Try.ntmps28
      go_wp2_with (first
        | (go_at_call 39; refine (B.open_any a l n cap _ hs0 hn).mono ?_; rintro e w1 ⟨v1, rfl, ho1, hb1⟩; rw [HO.out] at ho1 ⊢; simp only [Option.isSome_some, Option.getD_some] at ho1 ⊢; obtain ⟨a1, cap1, rfl, hs1⟩ := ho1.sl' HB.out; have bx1 := bx0.next hb1)
        | (go_at_call 40; refine (hasForm_any a1 b nb cap1 _ hs1).mono ?_; rintro e w2 ⟨rfl, k2, rfl⟩; rw [HF.out]; have bx2 := bx1.next (below_dn _ k2); have hs2 := hs1.below (below_dn _ k2))
        | (go_at_call 41; refine (read_any a1 b nb cap1 m _ hs2 HM.out hm1).mono ?_; rintro e w3 ⟨a3, cap3, rfl, ho3, hb3⟩; rw [HY.out] at ho3 ⊢; unfold Pk.val; have bx3 := bx2.next hb3; have lo3 := ho3.lo; obtain ⟨a3', cap3', e3, hs3⟩ := ho3.sl' (n := m) (by rw [← HY.out]; exact HZ.out); simp at e3; obtain ⟨rfl, rfl⟩ := e3)
        | (go_at_call 16; refine (check_any y a3 m cap3 _ (hs3.below (ba (Below.refl _ _)))).mono ?_; rintro e w4 ⟨rfl, hb4⟩; rw [HE.out]; have bx4 := (bx3.next (ba (Below.refl _ _))).next hb4; have by4 := (Bx.made w3 y (.slice a3 m cap3)).next hb4; have hs4 := hs3.below (next (ba (Below.refl _ _)) hb4); have fq := bx4.fz; have z13 : w.heap.size < w3.heap.size := bx3.lt; obtain ⟨q0, q1, q2, q3, q4, q5, q6, q7, q8, _, _⟩ := id bx4; obtain ⟨r0, r1, r2, r3, r4, r5, r6, r7, r8, _, _⟩ := id by4))
      have hz1 : w.heap.size < w1.heap.size := bx1.lt
      refine bodyPost_ret (v := .tuple #[y.val (.slice a3 m cap3), .int .i64 0]) (by simp [results, Try.results28, go_sem, *]) rfl ⟨a3, m, cap3, rfl, ?_, fun ad e => by have := lo3 ad e; simp at this; omega, ?_⟩
      · exact far9 (P := fun V => Sl V a3 m cap3 y.z) (fun V o u h => h.far (fun ad e => by have := lo3 ad e; simp at this ⊢; omega)) hs4
      · exact far9 (P := fun V => Below w.heap.size w V) (fun V o u h => h.setCell (by simp) _) (next (next (next (next hB0 hb1) (below_dn _ k2)) hb3) (next (ba (Below.refl _ _)) hb4))
end Go.Proofs.Ytbllhjhlkngchaa
