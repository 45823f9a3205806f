/- The contract of the document's own Unpack: bytes that are no packet, first part. Conditions: as stated. -/
import Derived.Test.YtbllhjhlkngchaaPktUnpack
import Derived.Test.YtbllhjhlkngchaaPktRefPack
import Derived.Test.YtbllhjhlkngchaaBRefs3
namespace Go.Proofs.Ytbllhjhlkngchaa
open Go.RowKit
set_option linter.unusedVariables false

/-- Has it the length that it says? -/
def longB (b : List Int) : Bool := decide (10 ≤ b.length) && decide ((b.length : Int) = 10 + 8 * b[9]?.getD 0)
theorem long_form {b : List Int} (h : longB b = false) : formB b = false := by
  unfold formB
  unfold longB at h
  revert h
  cases decide (10 ≤ b.length) <;> cases decide ((b.length : Int) = 10 + 8 * b[9]?.getD 0) <;> simp
theorem long_of {b : List Int} (h8 : B.B8 b) (h : longB b = true) : ∃ m : Nat, m ≤ 255 ∧ b.length = 10 + 8 * m ∧ b[9]?.getD 0 = (m : Int) := by
  unfold longB at h
  simp at h
  have := B.B8_get h8 9
  exact ⟨(b[9]?.getD 0).toNat, by omega, by omega, by omega⟩
set_option maxHeartbeats 1000000 in
set_option maxRecDepth 20000 in
/-- No seal, or not of its length. -/
theorem refUnpack_short (a : Option Addr) (l : List Int) (n cap : Nat) (w : World) (hsl : B.Sl w a n cap l) (hn : n ≤ 140737488351300) (h : ∀ b, B.openI l = some b → longB b = false) :
    Calls Try.prog 29 #[.slice a n cap] w fun e w' => NoPk w e w' (.bool false) := by
  have bx0 := Bx.made w zeroPk (.slice none 0 0)
  have hB0 : Below w.heap.size w (w.alloc (.cells #[.int .i64 zeroPk.k, .int .i64 zeroPk.f, .int .i64 zeroPk.t, .int .i64 zeroPk.i, .int .i64 zeroPk.l, .int .i64 zeroPk.p, .int .i64 zeroPk.s, .bool zeroPk.fl, .slice none 0 0] 26)) := ba (Below.refl _ _)
  have hs0 := hsl.below hB0
  cases ho : B.openI l with
  | none =>
    have HO : Hid (B.openI l = none) := ho
    clear h ho hsl
    go_enter Try.func29, Try.ntmps29
    go_wp2_with (go_at_call 42; refine (B.refOpen_any a l n cap _ hs0 hn).mono ?_; rintro e w1 ⟨v1, rfl, ho1, hb1⟩; rw [HO.out] at ho1 ⊢; simp only [Option.isSome_none, Option.getD_none] at ho1 ⊢; obtain ⟨a1, cap1, rfl, hs1⟩ := ho1.sl' (n := 0) rfl; have bx1 := bx0.next hb1; have fq := bx1.fz; obtain ⟨q0, q1, q2, q3, q4, q5, q6, q7, q8, _, _⟩ := id bx1)
    refine bodyPost_ret (v := .tuple #[zeroPk.val (.slice none 0 0), .bool false]) (by simp [results, Try.results29, go_sem, zeroPk, *]) rfl ⟨rfl, ?_⟩
    exact far9 (y := zeroPk) (v := .slice none 0 0) (P := fun V => Below w.heap.size w V) (fun V o u h => h.setCell (by simp) _) (next hB0 hb1)
  | some b =>
    have HO : Hid (B.openI l = some b) := ho
    have hlg := h b ho
    obtain ⟨nb, hnb⟩ : ∃ nb, b.length = nb := ⟨_, rfl⟩
    have HB : Hid (b.length = nb) := hnb
    have h8b : B.B8 b := by rw [open_take ho]; exact B.B8_take hsl.b8 _
    have hnb2 : nb ≤ n := by rw [← hnb, open_take ho]; have := hsl.len; simp; omega
    clear hsl ho h
    by_cases h10 : nb < 10
    · clear hlg hnb
      go_enter Try.func29, Try.ntmps29
      go_wp2_with (go_at_call 42; refine (B.refOpen_any a l n cap _ hs0 hn).mono ?_; rintro e w1 ⟨v1, rfl, ho1, hb1⟩; rw [HO.out] at ho1 ⊢; simp only [Option.isSome_some, Option.getD_some] at ho1 ⊢; obtain ⟨a1, cap1, rfl, hs1⟩ := ho1.sl' HB.out; have bx1 := bx0.next hb1; have fq := bx1.fz; obtain ⟨q0, q1, q2, q3, q4, q5, q6, q7, q8, _, _⟩ := id bx1)
      refine bodyPost_ret (v := .tuple #[zeroPk.val (.slice none 0 0), .bool false]) (by simp [results, Try.results29, go_sem, zeroPk, *]) rfl ⟨rfl, ?_⟩
      exact far9 (y := zeroPk) (v := .slice none 0 0) (P := fun V => Below w.heap.size w V) (fun V o u h => h.setCell (by simp) _) (next hB0 hb1)
    · have hne : ¬ (nb : Int) = 10 + 8 * b[9]?.getD 0 := by
        unfold longB at hlg
        rw [hnb] at hlg
        simp at hlg
        exact hlg (by omega)
      obtain ⟨y0, y1⟩ := B.B8_get h8b 9
      have h10' : decide ((nb : Int) < 10) = false := by simp; omega
      have hn9 : (9 : Int) < (nb : Int) := by omega
      have hd : ((nb : Int) != 10 + 8 * b[9]?.getD 0) = true := by simpa using hne
      clear hlg hnb hne
      go_enter Try.func29, Try.ntmps29
      go_wp2_with (first
        | (go_at_call 42; refine (B.refOpen_any a l n cap _ hs0 hn).mono ?_; rintro e w1 ⟨v1, rfl, ho1, hb1⟩; rw [HO.out] at ho1 ⊢; simp only [Option.isSome_some, Option.getD_some] at ho1 ⊢; obtain ⟨a1, cap1, rfl, hs1⟩ := ho1.sl' HB.out; obtain ⟨bb, oo, rfl, _, c9⟩ := hs1.at (k := 9) (by omega); have bx1 := bx0.next hb1; have fq := bx1.fz; obtain ⟨q0, q1, q2, q3, q4, q5, q6, q7, q8, _, _⟩ := id bx1))
      refine bodyPost_ret (v := .tuple #[zeroPk.val (.slice none 0 0), .bool false]) (by simp [results, Try.results29, go_sem, zeroPk, *]) rfl ⟨rfl, ?_⟩
      exact far9 (y := zeroPk) (v := .slice none 0 0) (P := fun V => Below w.heap.size w V) (fun V o u h => h.setCell (by simp) _) (next hB0 hb1)
end Go.Proofs.Ytbllhjhlkngchaa
