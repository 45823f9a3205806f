/- The program's cache, what only reads or begins: New, Len, Find, setOf, Full, Victim, Lines. Conditions: as each theorem states them. -/
import Derived.Test.YtfobgkkmbacfjaaCc0
import Derived.Test.YtfobgkkmbacfjaaCLib
import Derived.Test.YtfobgkkmbacfjaaEnt1
import Derived.Carry
namespace Go.Proofs.Ytfobgkkmbacfjaa
open Go.RowKit Go.Maps
set_option linter.unusedVariables false
set_option maxRecDepth 20000

section
variable {w : World} {g be bo : Nat} {M D : Nat → Prop} {S W k : Int} {R : List (En × Value)} {O : List OE}
theorem CC.len_any (h : CW w g be bo M D S W k R O) : Calls Try.prog 48 #[.pointer (some ⟨g, 0, none⟩)] w fun e w' => e = .returned (.int .i64 R.length) ∧ w = w' := by
  have hl := fun ty => h.ents.len Try.underlying88 ty
  rw [kv_len] at hl
  have c3 := h.c3
  go_enter Try.func48, Try.ntmps48
  go_wp2
  go_ret
  exact ⟨rfl, rfl⟩
theorem CC.setOf_any (h : CW w g be bo M D S W k R O) (l : Int) : Calls Try.prog 47 #[.pointer (some ⟨g, 0, none⟩), .int .i64 l] w fun e w' => e = .returned (.int .i64 (setI S l)) ∧ w = w' := by
  have c0 := h.c0
  obtain ⟨h1, h2⟩ := h.pos
  have hs : S ≠ 0 := by omega
  go_enter Try.func47, Try.ntmps47
  go_wp2
  · have hl : l < 0 := by assumption
    go_ret
    exact ⟨ret_int (by unfold setI; rw [if_pos hl]), rfl⟩
  · have hl : 0 ≤ l := by assumption
    go_ret
    exact ⟨ret_int (by unfold setI; rw [if_neg (by omega), Int.tmod_eq_emod_of_nonneg hl]), rfl⟩
theorem zeroE_val (w : World) : (zeroValue 35).run Try.prog w = .ok (zeroEn.val (.slice none 0 0)) w := Try.zeroValue35 w
/-- The entry of a line, or nothing. -/
def entAt (R : List (En × Value)) (n : Int) : En × Value := (getK eKey n R).getD (zeroEn, .slice none 0 0)
def hasE (R : List (En × Value)) (n : Int) : Bool := (getK eKey n R).isSome
theorem ent_at (R : List (En × Value)) (n : Int) : atI n (zeroEn.val (.slice none 0 0)) (kv eKey eVal R) = eVal (entAt R n) := by
  rw [kv_at]
  unfold entAt
  cases getK eKey n R <;> rfl
theorem ent_has (R : List (En × Value)) (n : Int) : (getK Prod.fst n (kv eKey eVal R)).isSome = hasE R n := by
  rw [kv_get]
  unfold hasE
  cases getK eKey n R <;> rfl
theorem CW.look (h : CW w g be bo M D S W k R O) {n : Int} (hn : In64 n) {V : World} (hV : Below w.heap.size w V) :
    (Instr.lookup 88 (.map (some be)) (.int .i64 n) true).run Try.prog V = .ok (.tuple #[eVal (entAt R n), .bool (hasE R n)]) V := by
  have := (h.ents.below hV).look_ok Try.underlying88 (zeroE_val V) hn
  rw [ent_at, ent_has] at this
  exact this
theorem CW.entDat (h : CW w g be bo M D S W k R O) (n : Int) : DatZ w D (entAt R n).1.z (entAt R n).2 := by
  unfold entAt
  cases hg : getK eKey n R with
  | none => exact ⟨none, 0, 0, rfl, sl_nil w, by omega, fun hz => absurd rfl hz⟩
  | some r => exact h.dat r (getK_some hg).1
/-- The order of a set, or nothing. -/
def ordLen (O : List OE) (s : Int) : Nat := match getK OE.s s O with | some p => p.l.length | none => 0
theorem im_lookO {V : World} (h : IM V bo (kv OE.s OE.val O)) {s : Int} (hs : In64 s) :
    (Instr.lookup 85 (.map (some bo)) (.int .i64 s) false).run Try.prog V = .ok (ordAt O s) V := by
  have := h.look Try.underlying85 (Try.zeroValue28 V) hs
  rw [kv_at] at this
  unfold ordAt
  cases hg : getK OE.s s O with
  | none => rw [hg] at this; exact this
  | some p => rw [hg] at this; exact this
theorem CW.lookO (h : CW w g be bo M D S W k R O) {s : Int} (hs : In64 s) {V : World} (hV : Below w.heap.size w V) :
    (Instr.lookup 85 (.map (some bo)) (.int .i64 s) false).run Try.prog V = .ok (ordAt O s) V := im_lookO (h.ords.below hV) hs
theorem ordAt_slice (O : List OE) (s : Int) : ∃ a cap, ordAt O s = .slice a (ordLen O s) cap := by
  unfold ordAt ordLen
  cases getK OE.s s O with
  | none => exact ⟨_, _, rfl⟩
  | some p => exact ⟨_, _, rfl⟩
theorem CC.find_any (h : CW w g be bo M D S W k R O) {n : Int} (hn : In64 n) : Calls Try.prog 21 #[.pointer (some ⟨g, 0, none⟩), .int .i64 n] w fun e w' =>
    ∃ a cap, e = .returned (.tuple #[(entAt R n).1.val (.slice a (entAt R n).1.z.length cap), .bool (hasE R n)]) ∧ Own w' w.heap.size (.slice a (entAt R n).1.z.length cap) (entAt R n).1.z ∧ Below w.heap.size w w' := by
  have c3 := h.c3
  have lt := h.lt
  obtain ⟨a0, n0, cap0, e0, hs0, hb0, _⟩ := h.entDat n
  have hl := h.look hn (V := w.alloc (.cells #[.int .i64 0, .int .i64 0, .int .i64 0, .int .i64 0, .bool false, .slice none 0 0] 35)) (ba (Below.refl _ _))
  generalize entAt R n = r at *
  generalize hasE R n = ok at *
  obtain ⟨x, d⟩ := r
  simp only at e0
  subst e0
  have hzl : x.z.length = n0 := hs0.len
  rw [hzl]
  go_enter Try.func21, Try.ntmps21
  go_wp2_with (go_at_call 43; refine (clone_any x a0 n0 cap0 _ (hs0.below (ba (ba (Below.refl _ _)))) hb0).mono ?_; rintro e w1 ⟨a1, cap1, rfl, hown, hbel⟩; obtain ⟨k1, k2⟩ := bcell hbel; have b1 := ((Eb.made w zeroEn (.slice none 0 0)).next (ba (o := .cells #[.int .i64 x.f, .int .i64 x.b, .int .i64 x.n, .int .i64 x.u, .bool x.q, .slice a0 n0 cap0] 35) (Below.refl _ _))).next hbel; obtain ⟨e0, e1, e2, e3, e4, e5⟩ := b1.lit; obtain ⟨f0, f1, f2, f3, f4, f5⟩ := b1.lit')
  have z1 := hbel.size
  simp at z1
  have hlo := hown.base
  have K := Eb.six (x := x) (d := .slice a1 n0 cap1) (g := w.heap.size) (o := 0) (F := fun k => k = w.heap.size) (.inl rfl) (Keep.refl _ w1)
  refine bodyPost_ret (v := .tuple #[x.val (.slice a1 n0 cap1), .bool ok]) (by simp [results, Try.results21, go_sem, *]) rfl ⟨a1, cap1, rfl, ?_, K.after (next (ba (ba (Below.refl _ _))) hbel) (fun k h => by omega)⟩
  exact (hown.keep K (fun k hk e => by have := (hlo k hk).1; simp at this; omega)).low (by simp; omega)
/-- Whether a line's set has no way left. -/
def fullO (W : Int) (R : List (En × Value)) (O : List OE) (s n : Int) : Bool := !hasE R n && decide (W ≤ ordLen O s)
theorem CC.setOf_b (h : CW w g be bo M D S W k R O) {l s : Int} (hs : setI S l = s) : Calls Try.prog 47 #[.pointer (some ⟨g, 0, none⟩), .int .i64 l] w fun e w' => e = .returned (.int .i64 s) ∧ Below w.heap.size w w' := by
  subst hs
  refine (CC.setOf_any h l).mono ?_
  rintro e w' ⟨rfl, rfl⟩
  exact ⟨rfl, Below.refl _ _⟩
theorem CC.full_any (h : CW w g be bo M D S W k R O) {n : Int} (hn : In64 n) : Calls Try.prog 25 #[.pointer (some ⟨g, 0, none⟩), .int .i64 n] w fun e w' =>
    e = .returned (.bool (fullO W R O (setI S n) n)) ∧ Below w.heap.size w w' := by
  have c3 := h.c3
  have lt := h.lt
  have hl := h.look hn (V := w) (Below.refl _ _)
  obtain ⟨ao, co, hos⟩ := ordAt_slice O (setI S n)
  have hlo := fun V (hV : Below w.heap.size w V) => h.lookO (setI_in h n).1 hV
  obtain ⟨s, hs⟩ : ∃ s, setI S n = s := ⟨_, rfl⟩
  have HS : Hid (setI S n = s) := hs
  rw [hs] at hlo hos ⊢
  rw [hos] at hlo
  clear hs hos
  obtain ⟨m, hm⟩ : ∃ m, ordLen O s = m := ⟨_, rfl⟩
  have HM : Hid (ordLen O s = m) := hm
  rw [hm] at hlo
  clear hm
  obtain ⟨ok, ho⟩ : ∃ ok, hasE R n = ok := ⟨_, rfl⟩
  have HO : Hid (hasE R n = ok) := ho
  rw [ho] at hl
  clear ho
  have hF : fullO W R O s n = (!ok && decide (W ≤ (m : Int))) := by unfold fullO; rw [HO.out, HM.out]
  rw [hF]
  clear hF
  obtain ⟨a0, n0, cap0, e0, hs0, hb0, _⟩ := h.entDat n
  generalize entAt R n = r at *
  obtain ⟨x, d⟩ := r
  simp only at e0
  subst e0
  clear hs0 hb0
  go_enter Try.func25, Try.ntmps25
  go_upto_region 2 with fail
  obtain ⟨V, hV⟩ : ∃ V, V = w.alloc (.cells #[.int .i64 x.f, .int .i64 x.b, .int .i64 x.n, .int .i64 x.u, .bool x.q, .slice a0 n0 cap0] 35) := ⟨_, rfl⟩
  have hB : Below w.heap.size w V := hV ▸ ba (Below.refl _ _)
  rw [← hV]
  clear hV hl
  have hb : ∀ u : Up V, CW u.1 g be bo M D S W k R O := fun u => (h.below hB).below u.2
  have c1 := (h.below hB).c1
  have c4 := (h.below hB).c4
  have ltv := (h.below hB).lt
  have uc := @Up.cell
  have ul : ∀ u : Up V, _ := fun u => hlo u.1 (next hB u.2)
  clear hlo
  cases ok with
  | true =>
    refine wp_region_up (by kernel_rfl) (by kernel_rfl) ?_
    repeat (go_big_quiet_step (fail))
    refine wpQuiet_nil ?_
    rintro _ ⟨u, rfl⟩
    go_wp2
    go_ret
    exact ⟨rfl, next hB u.2⟩
  | false =>
    refine wp_region_up (by kernel_rfl) (by kernel_rfl) ?_
    repeat (go_big_quiet_step ((go_at_call 47; exact Calls.up_of (CC.setOf_b (hb _) HS.out))))
    refine wpQuiet_nil ?_
    rintro _ ⟨u, rfl⟩
    go_wp2
    go_ret
    exact ⟨ret_bool (by simp), next hB u.2⟩
/-- The line of a set that was used first. -/
def vicO (O : List OE) (s : Int) : Int × Bool := match getK OE.s s O with | some p => (p.l[0]?.getD 0, true) | none => (0, false)
theorem CC.victim_any (h : CW w g be bo M D S W k R O) (hne : ∀ p ∈ O, p.l ≠ []) (n : Int) : Calls Try.prog 23 #[.pointer (some ⟨g, 0, none⟩), .int .i64 n] w fun e w' =>
    e = .returned (.tuple #[.int .i64 (vicO O (setI S n)).1, .bool (vicO O (setI S n)).2]) ∧ Below w.heap.size w w' := by
  have lt := h.lt
  have hlo := fun V (hV : Below w.heap.size w V) => h.lookO (setI_in h n).1 hV
  obtain ⟨s, hs⟩ : ∃ s, setI S n = s := ⟨_, rfl⟩
  have HS : Hid (setI S n = s) := hs
  rw [hs] at hlo ⊢
  clear hs
  have c4 := h.c4
  have hb : ∀ u : Up w, CW u.1 g be bo M D S W k R O := fun u => h.below u.2
  have uc := @Up.cell
  cases hg : getK OE.s s O with
  | none =>
    have hv : vicO O s = (0, false) := by unfold vicO; rw [hg]
    have ho : ordAt O s = .slice none 0 0 := by unfold ordAt; rw [hg]
    rw [hv]
    rw [ho] at hlo
    have ul : ∀ u : Up w, _ := fun u => hlo u.1 u.2
    clear hlo hg
    go_enter Try.func23, Try.ntmps23
    go_wp2_with fail
    refine wp_region_up (by kernel_rfl) (by kernel_rfl) ?_
    repeat (go_big_quiet_step ((go_at_call 47; exact Calls.up_of (CC.setOf_b (hb _) HS.out))))
    refine wpQuiet_nil ?_
    rintro _ ⟨u, rfl⟩
    go_wp2
    refine bodyPost_ret (v := .tuple #[.int .i64 0, .bool false]) (by simp [results, Try.results23, go_sem, *]) rfl ⟨rfl, u.2⟩
  | some p =>
    have hv : vicO O s = (p.l[0]?.getD 0, true) := by unfold vicO; rw [hg]
    have ho : ordAt O s = p.val := by unfold ordAt; rw [hg]
    rw [hv]
    rw [ho] at hlo
    have ul : ∀ u : Up w, _ := fun u => hlo u.1 u.2
    obtain ⟨hp, hps⟩ := getK_some hg
    have hpn := hne p hp
    obtain ⟨hr, _⟩ := h.rows p hp
    have hlen : 0 < p.l.length := List.length_pos_iff.2 hpn
    obtain ⟨y, hy⟩ : ∃ y, p.l[0]? = some y := ⟨_, List.getElem?_eq_getElem hlen⟩
    have hle := hr.le
    have hm := hr.max
    have hcell : w.cell? ⟨p.b, p.o, none⟩ = some (.int .i64 y) ∧ p.b < w.heap.size := by
      rcases hr.row with h0 | ⟨b', o', e, _, hb', hc, _⟩
      · omega
      · simp at e
        obtain ⟨rfl, rfl⟩ := e
        refine ⟨hc 0 _ ?_, hb'⟩
        unfold cells
        rw [List.getElem?_map, hy]
        rfl
    have hy' : p.l[0]?.getD 0 = y := by rw [hy]; rfl
    rw [hy']
    unfold OE.val at ul
    obtain ⟨m, hml⟩ : ∃ m, p.l.length = m := ⟨_, rfl⟩
    rw [hml] at ul hle hlen
    obtain ⟨hc0, hb0⟩ := hcell
    generalize p.b = pb at *
    generalize p.o = po at *
    generalize p.cap = pc at *
    clear hlo hg hy hy' hr hml
    unfold maxLen at hm
    go_enter Try.func23, Try.ntmps23
    go_wp2_with fail
    refine wp_region_up (by kernel_rfl) (by kernel_rfl) ?_
    repeat (go_big_quiet_step ((go_at_call 47; exact Calls.up_of (CC.setOf_b (hb _) HS.out))))
    refine wpQuiet_nil ?_
    rintro _ ⟨u, rfl⟩
    go_wp2
    refine bodyPost_ret (v := .tuple #[.int .i64 y, .bool true]) (by simp [results, Try.results23, go_sem, *]) rfl ⟨rfl, u.2⟩
theorem CC.lines_any (h : CW w g be bo M D S W k R O) (hn : R.length ≤ 1000000) : Calls Try.prog 49 #[.pointer (some ⟨g, 0, none⟩)] w fun e w' =>
    ∃ v, e = .returned v ∧ Own w' w.heap.size v (R.map eKey) ∧ Below w.heap.size w w' := by
  have := lines_raw w g be _ h.c3 h.ents (by unfold RiseK kv; rw [List.pairwise_map]; exact h.rise) (by rw [kv_len]; exact hn)
  unfold kv at this
  rw [List.map_map] at this
  exact this
end
theorem cw_new {V : World} {base be bo : Nat} {S W : Int} (t : TypeId) (h1 : IM V be []) (h2 : IM V bo []) (hne : be ≠ bo) (hb : base ≤ be ∧ base ≤ bo ∧ base ≤ V.heap.size) (hS : 1 ≤ S ∧ In64 S) :
    CW (V.alloc (.cells #[.int .i64 S, .int .i64 W, .int .i64 0, .map (some be), .map (some bo)] t)) V.heap.size be bo (fun j => base ≤ j ∧ j < (V.alloc (.cells #[.int .i64 S, .int .i64 W, .int .i64 0, .map (some be), .map (some bo)] t)).heap.size) (fun _ => False) S W 0 [] [] := by
  have a1 := h1.lt
  have a2 := h2.lt
  refine ⟨by simp, by simp, by simp, by simp, by simp, fun o => (by simp), by simp, ⟨⟨by omega, by simp⟩, ⟨by omega, by simp; omega⟩, ⟨by omega, by simp; omega⟩⟩, by omega, h1.below (ba (Below.refl _ _)), h2.below (ba (Below.refl _ _)), fun r hr => (by cases hr), fun p hp => (by cases hp), fun p hp => (by cases hp),
    List.Pairwise.nil, List.Pairwise.nil, hS, fun r hr => (by cases hr), fun j hj => (by rcases hj with hj | hj; exact hj.2; exact hj.elim), fun j _ h => h⟩
theorem CC.new_any (sets ways : Int) (w : World) (hs : In64 sets) :
    Calls Try.prog 9 #[.int .i64 sets, .int .i64 ways] w fun e w' => ∃ g be bo, e = .returned (.pointer (some ⟨g, 0, none⟩)) ∧ Below w.heap.size w w' ∧
      CW w' g be bo (fun j => w.heap.size ≤ j ∧ j < w'.heap.size) (fun _ => False) (max sets 1) (max ways 1) 0 [] [] := by
  have hs' : 1 ≤ max sets 1 ∧ In64 (max sets 1) := by unfold In64 at *; omega
  obtain ⟨S, hS⟩ : ∃ S, max sets 1 = S := ⟨_, rfl⟩
  obtain ⟨W, hW⟩ : ∃ W, max ways 1 = W := ⟨_, rfl⟩
  rw [hS, hW]
  rw [hS] at hs'
  have i1 : IM ((w.alloc (.map #[] 0)).alloc (.map #[] 0)) w.heap.size [] := (im_made w).below (ba (Below.refl _ _))
  have i2 : IM ((w.alloc (.map #[] 0)).alloc (.map #[] 0)) (w.heap.size + 1) [] := by
    have := im_made (w.alloc (.map #[] 0))
    rwa [show (w.alloc (.map #[] 0)).heap.size = w.heap.size + 1 by simp] at this
  have fin := fun S' W' (e1 : S' = S) (e2 : W' = W) => cw_new (W := W') (S := S') (base := w.heap.size) 90 i1 i2 (by omega) (by simp; omega) (e1 ▸ hs')
  go_enter Try.func9, Try.ntmps9
  clear hs hs' i1 i2
  have hmm := @run_makeMap Try.prog
  go_wp2
  all_goals go_ret
  all_goals refine ⟨w.heap.size + 2, w.heap.size, w.heap.size + 1, rfl, ba (ba (ba (Below.refl _ _))), ?_⟩
  all_goals (have := fin S W rfl rfl; simpa using this)
end Go.Proofs.Ytfobgkkmbacfjaa
