/- The contract of the document's Open. Conditions: as each theorem states them. -/
import Derived.Test.YtbllhjhlkngchaaBRefs2
import Derived.Deep.RegionHeldLaw
namespace Go.Proofs.Ytbllhjhlkngchaa.B
open Go.RowKit
set_option linter.unusedVariables false

theorem conv_any {w : World} {a : Option Addr} {n cap : Nat} {l : List Int} (h : Sl w a n cap l) (h0 : 0 < n) : (convert 27 9 (.slice a n cap)).run Try.prog w = .ok (.string (strOfNums l)) w := by
  obtain ⟨b, o, rfl, hc⟩ := h.row.some (by have := h.len; omega)
  exact run_convert_bytes_arg w 27 5 Try.underlying27 Try.underlying5 b o n cap l h.len (fun i hi => by rw [hc i (by have := h.len; omega)]; simp [List.getD]) 9 Try.underlying9
theorem str_inj {l m : List Int} (hl : B8 l) (hm : B8 m) (h : strOfNums l = strOfNums m) : l = m := by
  have h1 : (strOfNums l).data.toList = (strOfNums m).data.toList := by rw [h]
  rw [strOfNums_data, strOfNums_data] at h1
  obtain ⟨p, rfl⟩ := ints_of l hl
  obtain ⟨q, rfl⟩ := ints_of m hm
  have e : ∀ p : List (BitVec 8), (ints p).map (fun n => UInt8.ofNat n.toNat) = p.map UInt8.ofBitVec := by
    intro p
    unfold ints
    rw [List.map_map]
    refine List.map_congr_left fun x _ => ?_
    apply UInt8.toBitVec_inj.1
    simp
  rw [e, e] at h1
  have := (List.map_inj_right (f := UInt8.ofBitVec) (fun x y hxy => by simpa using congrArg UInt8.toBitVec hxy)).1 h1
  rw [this]
theorem seal_open {l : List Int} {m : Nat} (h8 : B8 l) (hl : l.length = m + 2) : sealI (l.take m) = l ↔ sumI (l.take m) = l[m]?.getD 0 * 256 + l[m + 1]?.getD 0 := by
  have b := sumI_bd _ (B8_take h8 m)
  have x := B8_get h8 m
  have y := B8_get h8 (m + 1)
  have sp := split_two hl
  constructor
  · intro h
    have hm : (l.take m).length = m := by simp; omega
    have g0 : l[m]?.getD 0 = sumI (l.take m) / 256 := by
      conv => lhs; rw [← h]
      unfold sealI; rw [List.getElem?_append_right (by omega), hm]; simp
    have g1 : l[m + 1]?.getD 0 = sumI (l.take m) % 256 := by
      conv => lhs; rw [← h]
      unfold sealI; rw [List.getElem?_append_right (by omega), hm]; simp
    omega
  · intro h
    conv => rhs; rw [sp]
    unfold sealI
    rw [show sumI (l.take m) / 256 = l[m]?.getD 0 by omega, show sumI (l.take m) % 256 = l[m + 1]?.getD 0 by omega]

set_option maxHeartbeats 1000000 in
theorem refOpen_any (a : Option Addr) (l : List Int) (n cap : Nat) (w : World) (hsl : Sl w a n cap l) (hn : n ≤ 140737488351300) :
    Calls Try.prog 42 #[.slice a n cap] w fun e w' => ∃ v, e = .returned (.tuple #[v, .bool (openI l).isSome]) ∧ Own w' w.heap.size v ((openI l).getD []) ∧ Below w.heap.size w w' := by
  have hl := hsl.len
  obtain ⟨i0, hi, hz0, hz1, hz2⟩ := info_parts Try.info5
  by_cases h2 : n < 2
  · have HO : Hid (openI l = none) := openI_short (by omega)
    have hd : decide ((n : Int) < 2) = true := by simp; omega
    go_enter Try.func42, Try.ntmps42
    go_wp2_with fail
    go_quiet (fail)
    go_wp2
    go_ret2
    exact ⟨_, ret_two (by rw [HO.out]; rfl), by rw [HO.out]; exact own_nil _ _, below_dn w _⟩
  · obtain ⟨m, rfl⟩ : ∃ m, n = m + 2 := ⟨n - 2, by omega⟩
    have hst := hsl.take m (by omega)
    have hle := hsl.le
    have hslen : (sealI (l.take m)).length = m + 2 := by have := hst.len; simp [sealI]; omega
    have hd : decide ((m : Int) + 2 < 2) = false := by simp; omega
    have q0 : (0 : Int) ≤ (m : Int) := by omega
    have q1 : (m : Int) ≤ (cap : Int) := by omega
    have f0 : IntKind.i64.wrap (m : Int) = (m : Int) := wrap_small _ (by omega) (by omega)
    have hso := seal_open hsl.b8 hl
    by_cases hs : sealI (l.take m) = l
    · have HO : Hid (openI l = some (l.take m)) := openI_yes hl (hso.1 hs)
      have hbq : ((strOfNums (sealI (l.take m))).toList == (strOfNums l).toList) = true := by rw [hs]; exact beq_self_eq_true _
      clear hso hs
      obtain ⟨b, o, ea, _⟩ := hsl.row.some (by omega)
      have HE : Hid (a = some ⟨b, o, none⟩) := ea
      clear ea
      go_enter Try.func42, Try.ntmps42
      go_upto_region 1 with fail
      go_region_held_law (fun w' => Sl w' a m cap (l.take m) ∧ (convert 27 9 (.slice a (m + 2) cap)).run Try.prog w' = .ok (.string (strOfNums l)) w') (first | exact ⟨hst.same rfl, conv_any (hsl.same rfl) (by omega)⟩ | exact ⟨(hst.same (w' := w.drew) rfl).below hb2, cv2⟩) ((go_at_call 26; refine (refSeal_any a (l.take m) m cap _ (by exact hst.same rfl) (by omega)).mono ?_; rintro e w2 ⟨v2, rfl, hown2, hb2⟩; obtain ⟨a2, cap2, rfl, hsl2⟩ := hown2.sl' hslen; have cv1 := conv_any hsl2 (by omega); have cv2 := conv_any ((hsl.same (w' := w.drew) rfl).below hb2) (by omega)))
      have hstw := (hst.same (w' := w.drew) rfl).below hb2
      have hlm := hst.len
      clear cv1 cv2 hsl2 hown2
      obtain rfl := HE.out
      go_wp2_with (at_builtin; refine wpList_append_own _ rfl _ _ 27 rfl w.heap.size 5 i0 (.int .u8 0) 1 1 Try.underlying27 hi hz0 hz1 hz2 rfl (by decide) _ 0 [] rfl (World.ownsRow_nil _ _ _ _) ⟨b, o, none⟩ m cap (cells (l.take m)) rfl (by simp [cells]; omega) hstw.row.cellsAt (cells_one _) (by unfold maxLen; omega) (by omega) (by have := hb2.size; simpa using this) ?_; intro v3 w3 hown3 hg3 _)
      go_ret2
      refine ⟨_, ret_two (by rw [HO.out]; rfl), by rw [HO.out]; exact ⟨by rw [Option.getD_some, hlm]; simpa using hown3, hst.b8⟩, ?_⟩
      exact (nextB ((Below.refl _ _).drew) hb2).grown hg3 (by have := hb2.size; simpa using this) (by intro k hk; simp [Value.ownBlock, Act.eval] at hk)
    · have HO : Hid (openI l = none) := openI_no hl (fun h => hs (hso.2 h))
      have hbq : ((strOfNums (sealI (l.take m))).toList == (strOfNums l).toList) = false := by
        rw [beq_eq_false_iff_ne]
        intro e
        exact hs (str_inj (sealI_b8 hst.b8) hsl.b8 (by
          have e1 := congrArg List.toArray e
          exact ByteArray.ext (by simpa [ByteArray.toList_eq] using e)))
      clear hso hs
      go_enter Try.func42, Try.ntmps42
      go_upto_region 1 with fail
      go_region_held_law (fun w' => Sl w' a m cap (l.take m) ∧ (convert 27 9 (.slice a (m + 2) cap)).run Try.prog w' = .ok (.string (strOfNums l)) w') (first | exact ⟨hst.same rfl, conv_any (hsl.same rfl) (by omega)⟩ | exact ⟨(hst.same (w' := w.drew) rfl).below hb2, cv2⟩) ((go_at_call 26; refine (refSeal_any a (l.take m) m cap _ (by exact hst.same rfl) (by omega)).mono ?_; rintro e w2 ⟨v2, rfl, hown2, hb2⟩; obtain ⟨a2, cap2, rfl, hsl2⟩ := hown2.sl' hslen; have cv1 := conv_any hsl2 (by omega); have cv2 := conv_any ((hsl.same (w' := w.drew) rfl).below hb2) (by omega)))
      go_wp2
      go_ret2
      exact ⟨_, ret_two (by rw [HO.out]; rfl), by rw [HO.out]; exact own_nil _ _, nextB ((Below.refl _ _).drew) hb2⟩
end Go.Proofs.Ytbllhjhlkngchaa.B
