/- The contract of pool's All. Conditions: as each theorem states them. -/
import Derived.Test.YtafbcnchgnmjbaaPoo1
import Derived.Laws.MakeOwn
namespace Go.Proofs.Ytafbcnchgnmjbaa
open Go.RowKit
set_option linter.unusedVariables false
namespace P

set_option maxHeartbeats 600000 in
theorem all_any (w : World) {g : Nat} {M D : Nat → Prop} {room : Int} {L : List Pk} (h : Qu w g M D room L) (hL : L.length ≤ 1000000000) :
    Calls Try.prog 18 #[.pointer (some ⟨g, 0, none⟩)] w fun e w' => ∃ v, e = .returned v ∧ NewRow w' w.heap.size L L.length v ∧ Below w.heap.size w w' := by
  obtain ⟨R, a, cap, h⟩ := h
  have hp := h.prow
  have c1 := h.c1
  have glt := h.lt
  clear h
  obtain ⟨N, hN⟩ : ∃ N, L.length = N := ⟨_, rfl⟩
  rw [hN] at hp c1 hL ⊢
  have HN : Hid (L.length = N) := hN
  clear hN
  obtain ⟨i0, hi, hp0, hp1, hp2⟩ := info_parts Try.infoPk
  have hb2 : i0.bytes * N ≤ 281474976710656 := by rw [hp2]; omega
  go_enter Try.func18, Try.ntmps18
  go_wp2_with (at_make; refine wpList_make_own _ rfl _ _ 38 rfl w.heap.size 29 i0 (zeroPk.val (.slice none 0 0)) 9 Try.underlying38 hi hp0 hp1 _ _ _ N rfl rfl (by omega) hb2 (by unfold maxLen; omega) (Nat.le_refl _) ?_; intro w1 hown1 hg1; have hB1 := below_new hg1; have c1' : w1.cell? ⟨g, 1, none⟩ = some (.slice a N cap) := (by rw [hB1.cell (p := ⟨g, 1, none⟩) glt]; exact c1); have glt' : g < w1.heap.size := Nat.lt_of_lt_of_le glt hB1.size)
  have hnr := newrow_made hown1 rfl
  clear hown1 hg1 c1 c1' glt' glt
  go_loopw [17, 3] (fun q v wr => ∃ j : Nat, q = .int .i64 j ∧ j ≤ N ∧ NewRow wr w.heap.size (L.take j) j v ∧ Below w.heap.size w wr) (fun q _ _ => N - (intOf q).toNat)
  case atStart => exact ⟨0, rfl, by omega, hnr, hB1⟩
  case round =>
    obtain ⟨j, rfl, hj, ⟨M2, D2, R2, a2, cap2, rfl, hpr, hnew, hsoft⟩, hBr⟩ := hrel
    have hz := hBr.size
    by_cases hlt : j < N
    · have hlt' : (j : Int) < (N : Int) := by omega
      obtain ⟨x, d, b, o, hx, hxr, hdat, rfl, _, hb, ⟨e0, e1, e2, e3, e4, e5, e6, e7, e8⟩, _⟩ := (hp.below hBr).get hlt
      obtain ⟨ad, nd, cd, rfl, hsd, hnd, _⟩ := hdat
      have HX : Hid (L[j]? = some x) := hx
      clear hx hxr
      go_wp2_with (first
        | (go_at_call 21; refine (alone_any x ad nd cd _ (hsd.below (ba (Below.refl _ _))) hnd).mono ?_; rintro e w2 ⟨v2, rfl, hown2, hb2⟩; have hd2 := dat_own hown2 (by have := hsd.len; omega); have hf2 := soft_own hown2; obtain ⟨a3, c3, rfl, hs3⟩ := hown2.sl' hsd.len; clear hs3 hown2; have hB2 := next (ba (Below.refl _ _)) hb2; clear hb2)
        | (at_builtin; refine wpList_append_rw _ M2 (by kernel_rfl) _ _ 38 rfl 29 i0 (zeroPk.val (.slice none 0 0)) 9 88 Try.underlying38 hi hp0 hp1 hp2 rfl (by decide) a2 j cap2 (pflat R2) rfl (hpr.below (next hB2 (ba (Below.refl _ _)))).row ⟨w2.heap.size, 0, none⟩ 1 1 (pcells x (.slice a3 nd c3)) rfl (by omega) rfl (Bx.made w2 x (.slice a3 nd c3)).news (pcells_one rfl) (by unfold maxLen; omega) (by omega) ?_; intro a5 c5 w5 hrw5 hk5))
      have hB3 := next hB2 (ba (o := .cells #[.int .i64 x.k, .int .i64 x.f, .int .i64 x.t, .int .i64 x.i, .int .i64 x.l, .int .i64 x.p, .int .i64 x.s, .bool x.fl, .slice a3 nd c3] 29) (Below.refl _ _))
      have hd3 := hd2.below (ba (o := .cells #[.int .i64 x.k, .int .i64 x.f, .int .i64 x.t, .int .i64 x.i, .int .i64 x.l, .int .i64 x.p, .int .i64 x.s, .bool x.fl, .slice a3 nd c3] 29) (Below.refl _ _))
      have hf3 := hf2.keep hd2 (Keep.of_below (F := fun _ => False) (ba (o := .cells #[.int .i64 x.k, .int .i64 x.f, .int .i64 x.t, .int .i64 x.i, .int .i64 x.l, .int .i64 x.p, .int .i64 x.s, .bool x.fl, .slice a3 nd c3] 29) (Below.refl _ _))) (fun _ _ h => h)
      generalize w2.alloc (.cells #[.int .i64 x.k, .int .i64 x.f, .int .i64 x.t, .int .i64 x.i, .int .i64 x.l, .int .i64 x.p, .int .i64 x.s, .bool x.fl, .slice a3 nd c3] 29) = w3 at *
      have hz3 := hB3.size
      have hd4 : Dat w3 (fun k => wr.heap.size ≤ k ∧ k < w3.heap.size) x (.slice a3 nd c3) := hd3.imp (fun k hk h => ⟨by simp at h; omega, hk⟩)
      have hs := (hpr.below hB3).snoc hd4 (fun k h hm => by have := (hnew k (.inl hm)).2; omega) (fun k h => by have := (hnew k (.inr h)).2; omega) (fun k h => h.2) hrw5 hk5
      have hz5 := hk5.size
      refine ⟨⟨j + 1, by go_num, by omega, ⟨_, _, _, a5, c5, rfl, by rw [take_snoc HX.out]; exact hs, fun k h => ?_, fun r hr => ?_⟩, ?_⟩, by simp [intOf]; omega⟩
      · rcases h with (h | h) | (h | h)
        · have := hnew k (.inl h); omega
        · omega
        · have := hnew k (.inr h); omega
        · omega
      · rcases List.mem_append.1 hr with hr | hr
        · exact (Soft.keep (hsoft r hr) (hpr.dat r hr) (F := M2) ((Keep.of_below hB3).trans hk5 (fun _ _ h => h)) (fun k hd hm => hpr.dj k hm hd))
        · rw [List.mem_singleton] at hr
          subst hr
          exact hf3.keep hd4 hk5 (fun k h hm => by have := (hnew k (.inl hm)).2; omega)
      · exact (next hBr hB3).trans (hk5.below (base := w.heap.size) (fun k h => (hnew k (.inl h)).1) (by omega))
    · have hlt' : (N : Int) ≤ (j : Int) := by omega
      obtain rfl : j = N := by omega
      go_wp2
      go_ret
      refine ⟨_, rfl, ⟨M2, D2, R2, a2, cap2, rfl, ?_, hnew, hsoft⟩, hBr⟩
      rw [List.take_of_length_le (by have := HN.out; omega)] at hpr
      exact hpr
end P
end Go.Proofs.Ytafbcnchgnmjbaa
