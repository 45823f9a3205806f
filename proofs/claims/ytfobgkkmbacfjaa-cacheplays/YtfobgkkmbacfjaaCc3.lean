/- The program's cache: Put. Conditions: as each theorem states them. -/
import Derived.Test.YtfobgkkmbacfjaaCc2
namespace Go.Proofs.Ytfobgkkmbacfjaa
open Go.RowKit Go.Maps
set_option linter.unusedVariables false
set_option maxRecDepth 20000

theorem im_look {w : World} {be : Nat} {R : List (En × Value)} (h : IM w be (kv eKey eVal R)) {n : Int} (hn : In64 n) :
    (Instr.lookup 88 (.map (some be)) (.int .i64 n) true).run Try.prog w = .ok (.tuple #[eVal (entAt R n), .bool (hasE R n)]) w := by
  have := h.look_ok Try.underlying88 (zeroE_val w) hn
  rw [ent_at, ent_has] at this
  exact this
theorem sl_far {w V : World} {a : Option Addr} {n cap b : Nat} {l : List Int} (h : Sl w a n cap l) (hB : Below w.heap.size w V) (hb : w.heap.size ≤ b) (o : Nat) (v : Value) : Sl (V.setCell ⟨b, o, none⟩ v) a n cap l :=
  (h.below hB).keep (Keep.one V b o v) (fun hz c hc e => by
    rcases h.row with h0 | ⟨b', o', e', hr⟩
    · exact hz h0
    · have h2 : b' < w.heap.size := World.block_lt_of_cell? w _ (hr 0 (List.length_pos_iff.2 hz))
      rw [e'] at hc
      obtain rfl := Option.some.inj hc
      have e3 : b' = b := e
      omega)
theorem sl_keep {w V : World} {F : Nat → Prop} {a : Option Addr} {n cap : Nat} {l : List Int} (h : Sl w a n cap l) (hB : Keep F w V) (hF : ∀ x : Addr, a = some x → ¬ F x.block) : Sl V a n cap l := h.keep hB (fun _ x hx => hF x hx)
theorem sl_far' {w V : World} {F : Nat → Prop} {a : Option Addr} {n cap b : Nat} {l : List Int} (h : Sl w a n cap l) (hB : Keep F w V) (hF : ∀ x : Addr, a = some x → ¬ F x.block) (hb : w.heap.size ≤ b) (o : Nat) (v : Value) : Sl (V.setCell ⟨b, o, none⟩ v) a n cap l :=
  (sl_keep h hB hF).keep (Keep.one V b o v) (fun hz c hc e => by
    rcases h.row with h0 | ⟨b', o', e', hr⟩
    · exact hz h0
    · have h2 : b' < w.heap.size := World.block_lt_of_cell? w _ (hr 0 (List.length_pos_iff.2 hz))
      rw [e'] at hc
      obtain rfl := Option.some.inj hc
      have e3 : b' = b := e
      omega)
section
variable {w : World} {g be bo : Nat} {M D : Nat → Prop} {S W k : Int} {R : List (En × Value)} {O : List OE}
theorem CW.store {D' : Nat → Prop} {x : En} {d : Value} (h : CW w g be bo M D S W k R O) (hR : R.length ≤ 1000000) (hx : In64 x.n ∧ 0 ≤ x.n) (hd : DatZ w D' x.z d) (hDD : ∀ j, D j → D' j) (hD' : ∀ j, D' j → j < w.heap.size ∧ ¬ M j) :
    ∃ w', (Instr.mapUpdate 88 (.map (some be)) (.int .i64 x.n) (x.val d)).run Try.prog w = .ok () w' ∧ CW w' g be bo M D' S W k (putK eKey (x, d) R) O ∧ Keep (fun j => j = be) w w' ∧ w'.heap.size = w.heap.size := by
  obtain ⟨w', hrun, im, ht⟩ := h.ents.store Try.underlying88 (by rw [kv_len]; unfold maxLen; omega) hx.1 (x.val d)
  refine ⟨w', hrun, h.newents ht (by rw [← kv_put]; exact im) (rise_put h.rise) (fun r hr => ?_) (fun r hr => ?_) (fun j hj => (hD' j hj).1) (fun j hm hj => (hD' j hj).2 hm), turned_keep ht, turned_size ht⟩
  · rcases mem_putK.1 hr with rfl | ⟨h1, _⟩
    · exact hd
    · exact (h.dat r h1).imp (fun j _ hj => hDD j hj)
  · rcases mem_putK.1 hr with rfl | ⟨h1, _⟩
    · exact hx
    · exact h.inn r h1
theorem CC.put_neg (h : CW w g be bo M D S W k R O) (x : En) (a : Option Addr) (n cap : Nat) (hs : Sl w a n cap x.z) (hb : n ≤ 17592186044416) (hx : In64 x.n) (hneg : x.n < 0) :
    Calls Try.prog 13 #[.pointer (some ⟨g, 0, none⟩), x.val (.slice a n cap)] w fun e w' => e = .returned (.int .i64 1) ∧ Below w.heap.size w w' := by
  have H : Hid (CW w g be bo M D S W k R O) := h
  have lt := h.lt
  have HBE : Hid (be < w.heap.size) := h.ents.lt
  have HLK : Hid (∀ V, IM V be (kv eKey eVal R) → (Instr.lookup 88 (.map (some be)) (.int .i64 x.n) true).run Try.prog V = .ok (.tuple #[eVal (entAt R x.n), .bool (hasE R x.n)]) V) := fun V hV => im_look hV hx
  obtain ⟨ok, ho⟩ : ∃ ok, hasE R x.n = ok := ⟨_, rfl⟩
  obtain ⟨ya, yn, yc, ey, hys, hyb, hyd⟩ := h.entDat x.n
  have HYE : Hid (entAt R x.n = ((entAt R x.n).1, .slice ya yn yc)) := by
    show _ = _
    rw [← ey]
  obtain ⟨y, hy⟩ : ∃ y, (entAt R x.n).1 = y := ⟨_, rfl⟩
  rw [HYE.out, hy, ho] at HLK
  unfold eVal at HLK
  simp only at HLK
  have HY : Hid ((entAt R x.n).1 = y) := hy
  have HO : Hid (hasE R x.n = ok) := ho
  clear HYE ey hys hyb hyd hy ho h
  go_enter Try.func13, Try.ntmps13
  go_upto_region 1 with fail
  have B0 : Below w.heap.size w (w.alloc (.cells #[.int .i64 x.f, .int .i64 x.b, .int .i64 x.n, .int .i64 x.u, .bool x.q, .slice a n cap] 35)) := ba (Below.refl _ _)
  have E0 := Eb.made w x (.slice a n cap)
  have z0 : (w.alloc (.cells #[.int .i64 x.f, .int .i64 x.b, .int .i64 x.n, .int .i64 x.u, .bool x.q, .slice a n cap] 35)).heap.size = w.heap.size + 1 := by simp
  refine wp_region_orders 13 rfl (by kernel_rfl) ?_
  have B1 : Below w.heap.size w (w.alloc (.cells #[.int .i64 x.f, .int .i64 x.b, .int .i64 x.n, .int .i64 x.u, .bool x.q, .slice a n cap] 35)).drew := B0.drew
  have E1 := E0.next (Below.refl _ _).drew
  have z1 : (w.alloc (.cells #[.int .i64 x.f, .int .i64 x.b, .int .i64 x.n, .int .i64 x.u, .bool x.q, .slice a n cap] 35)).drew.heap.size = w.heap.size + 1 := z0
  clear E0 B0 z0
  generalize (w.alloc (.cells #[.int .i64 x.f, .int .i64 x.b, .int .i64 x.n, .int .i64 x.u, .bool x.q, .slice a n cap] 35)).drew = V0 at *
  have hI : (fun V : World => V.cell? ⟨g, 3, none⟩ = some (.map (some be)) ∧ V.cell? ⟨w.heap.size, 2, none⟩ = some (.int .i64 x.n) ∧ (Instr.lookup 88 (.map (some be)) (.int .i64 x.n) true).run Try.prog V = .ok (.tuple #[y.val (.slice ya yn yc), .bool ok]) V) V0 := ⟨(H.out.below B1).c3, by simpa using E1.c2, HLK.out _ (H.out.ents.below B1)⟩
  refine any_inv (fun V : World => V.cell? ⟨g, 3, none⟩ = some (.map (some be)) ∧ V.cell? ⟨w.heap.size, 2, none⟩ = some (.int .i64 x.n) ∧ (Instr.lookup 88 (.map (some be)) (.int .i64 x.n) true).run Try.prog V = .ok (.tuple #[y.val (.slice ya yn yc), .bool ok]) V) [] hI ?_
  refine inv_take (v := ?v1) [1, 2, 3, 6, 7, 8, 9, 11, 12] 0 hI rfl (by kernel_rfl) (by kernel_rfl) (by kernel_rfl) (by kernel_rfl) (by kernel_rfl) (fun _ _ _ h => h) (by kernel_rfl) (fun V hV => ?hy1) ?go1
  case hy1 => (obtain ⟨i1, i2, i3⟩ := hV; go_simp <;> rfl)
  simp only [Act.put, List.setIfInBounds_toArray, List.set_cons_zero, List.set_cons_succ]
  refine inv_take (v := ?v2) [2, 3, 6, 7, 8, 9, 11, 12] 1 hI rfl (by kernel_rfl) (by kernel_rfl) (by kernel_rfl) (by kernel_rfl) (by kernel_rfl) (fun _ _ _ h => h) (by kernel_rfl) (fun V hV => ?hy2) ?go2
  case hy2 => (obtain ⟨i1, i2, i3⟩ := hV; go_simp <;> rfl)
  simp only [Act.put, List.setIfInBounds_toArray, List.set_cons_zero, List.set_cons_succ]
  refine inv_take (v := ?v3) [3, 6, 7, 8, 9, 11, 12] 2 hI rfl (by kernel_rfl) (by kernel_rfl) (by kernel_rfl) (by kernel_rfl) (by kernel_rfl) (fun _ _ _ h => h) (by kernel_rfl) (fun V hV => ?hy3) ?go3
  case hy3 => (obtain ⟨i1, i2, i3⟩ := hV; go_simp <;> rfl)
  simp only [Act.put, List.setIfInBounds_toArray, List.set_cons_zero, List.set_cons_succ]
  refine inv_take (v := ?v4) [6, 7, 8, 9, 11, 12] 3 hI rfl (by kernel_rfl) (by kernel_rfl) (by kernel_rfl) (by kernel_rfl) (by kernel_rfl) (fun _ _ _ h => h) (by kernel_rfl) (fun V hV => ?hy4) ?go4
  case hy4 => (obtain ⟨i1, i2, i3⟩ := hV; go_simp <;> rfl)
  simp only [Act.put, List.setIfInBounds_toArray, List.set_cons_zero, List.set_cons_succ]
  refine inv_take (v := ?v5) [5, 6, 7, 8, 9, 11, 12] 4 hI rfl (by kernel_rfl) (by kernel_rfl) (by kernel_rfl) (by kernel_rfl) (by kernel_rfl) (fun _ _ _ h => h) (by kernel_rfl) (fun V hV => ?hy5) ?go5
  case hy5 => (obtain ⟨i1, i2, i3⟩ := hV; go_simp <;> rfl)
  simp only [Act.put, List.setIfInBounds_toArray, List.set_cons_zero, List.set_cons_succ]
  refine inv_take (v := ?v6) [6, 7, 8, 9, 11, 12] 5 hI rfl (by kernel_rfl) (by kernel_rfl) (by kernel_rfl) (by kernel_rfl) (by kernel_rfl) (fun _ _ _ h => h) (by kernel_rfl) (fun V hV => ?hy6) ?go6
  case hy6 => (obtain ⟨i1, i2, i3⟩ := hV; go_simp <;> rfl)
  simp only [Act.put, List.setIfInBounds_toArray, List.set_cons_zero, List.set_cons_succ]
  refine inv_take (v := ?v7) [7, 8, 9, 11, 12] 6 hI rfl (by kernel_rfl) (by kernel_rfl) (by kernel_rfl) (by kernel_rfl) (by kernel_rfl) (fun _ _ _ h => h) (by kernel_rfl) (fun V hV => ?hy7) ?go7
  case hy7 => (obtain ⟨i1, i2, i3⟩ := hV; go_simp <;> rfl)
  simp only [Act.put, List.setIfInBounds_toArray, List.set_cons_zero, List.set_cons_succ]
  refine inv_take (v := ?v8) [8, 9, 11, 12] 7 hI rfl (by kernel_rfl) (by kernel_rfl) (by kernel_rfl) (by kernel_rfl) (by kernel_rfl) (fun _ _ _ h => h) (by kernel_rfl) (fun V hV => ?hy8) ?go8
  case hy8 => (obtain ⟨i1, i2, i3⟩ := hV; go_simp <;> rfl)
  simp only [Act.put, List.setIfInBounds_toArray, List.set_cons_zero, List.set_cons_succ]
  refine inv_take (v := ?v9) [11, 12] 8 hI rfl (by kernel_rfl) (by kernel_rfl) (by kernel_rfl) (by kernel_rfl) (by kernel_rfl) (fun _ _ _ h => h) (by kernel_rfl) (fun V hV => ?hy9) ?go9
  case hy9 => (obtain ⟨i1, i2, i3⟩ := hV; go_simp <;> rfl)
  simp only [Act.put, List.setIfInBounds_toArray, List.set_cons_zero, List.set_cons_succ]
  refine inv_take (v := ?v10) [12] 9 hI rfl (by kernel_rfl) (by kernel_rfl) (by kernel_rfl) (by kernel_rfl) (by kernel_rfl) (fun _ _ _ h => h) (by kernel_rfl) (fun V hV => ?hy10) ?go10
  case hy10 => (obtain ⟨i1, i2, i3⟩ := hV; go_simp <;> rfl)
  simp only [Act.put, List.setIfInBounds_toArray, List.set_cons_zero, List.set_cons_succ]
  refine inv_list 10 (by kernel_rfl) rfl ?_
  clear hI
  go_wp2_with fail
  have B2 : Below w.heap.size w (V0.alloc (.cells #[.int .i64 0, .int .i64 0, .int .i64 0, .int .i64 0, .bool false, .slice none 0 0] 35)) := ba B1
  have E2 := E1.next (ba (o := (.cells #[.int .i64 0, .int .i64 0, .int .i64 0, .int .i64 0, .bool false, .slice none 0 0] 35)) (Below.refl _ _))
  refine then_n ⟨⟨(H.out.below B2).c3, by simpa using E2.c2, HLK.out _ (H.out.ents.below B2)⟩, ?_⟩
  refine inv_list 11 (by kernel_rfl) rfl ?_
  go_wp2_with fail
  have B3 : Below w.heap.size w (V0.alloc (.cells #[.int .i64 y.f, .int .i64 y.b, .int .i64 y.n, .int .i64 y.u, .bool y.q, .slice ya yn yc] 35)) := ba B1
  have E3 := E1.next (ba (o := (.cells #[.int .i64 y.f, .int .i64 y.b, .int .i64 y.n, .int .i64 y.u, .bool y.q, .slice ya yn yc] 35)) (Below.refl _ _))
  refine then_n ⟨⟨(H.out.below B3).c3, by simpa using E3.c2, HLK.out _ (H.out.ents.below B3)⟩, ?_⟩
  refine inv_list 12 (by kernel_rfl) rfl ?_
  go_wp2_with fail
  refine then_n ⟨⟨(H.out.below B3).c3, by simpa using E3.c2, HLK.out _ (H.out.ents.below B3)⟩, ?_⟩
  refine inv_done (by kernel_rfl) ?_
  have EY := Eb.made' V0 y (.slice ya yn yc) (w.heap.size + 1) z1.symm
  have z3 : (V0.alloc (.cells #[.int .i64 y.f, .int .i64 y.b, .int .i64 y.n, .int .i64 y.u, .bool y.q, .slice ya yn yc] 35)).heap.size = w.heap.size + 2 := by simp [z1]
  clear B2 E2 E1 B1
  generalize V0.alloc (.cells #[.int .i64 y.f, .int .i64 y.b, .int .i64 y.n, .int .i64 y.u, .bool y.q, .slice ya yn yc] 35) = V1 at *
  clear z1
  obtain ⟨p0, p1, p2, p3, p4, p5⟩ := E3.lit
  obtain ⟨f0, f1, f2, f3, f4, f5⟩ := E3.lit'
  go_wp2_with fail
  go_ret
  exact ⟨rfl, B3⟩
theorem CC.put_at (h : CW w g be bo M D S W k R O) (x : En) (a : Option Addr) (n cap : Nat) (hs : Sl w a n cap x.z) (hb : n ≤ 17592186044416) (hx : In64 x.n) (hpos : 0 ≤ x.n) (hh : hasE R x.n = true) (hR : R.length ≤ 1000000) :
    Calls Try.prog 13 #[.pointer (some ⟨g, 0, none⟩), x.val (.slice a n cap)] w fun e w' => e = .returned (.int .i64 0) ∧ Keep M w w' ∧
      ∃ D' d, (∀ j, D' j → D j ∨ w.heap.size ≤ j) ∧ CW w' g be bo M D' S W k (putK eKey ({ x with u := (entAt R x.n).1.u }, d) R) O := by
  have H : Hid (CW w g be bo M D S W k R O) := h
  have lt := h.lt
  have HBE : Hid (be < w.heap.size) := h.ents.lt
  have HLK : Hid (∀ V, IM V be (kv eKey eVal R) → (Instr.lookup 88 (.map (some be)) (.int .i64 x.n) true).run Try.prog V = .ok (.tuple #[eVal (entAt R x.n), .bool (hasE R x.n)]) V) := fun V hV => im_look hV hx
  obtain ⟨ok, ho⟩ : ∃ ok, hasE R x.n = ok := ⟨_, rfl⟩
  obtain ⟨ya, yn, yc, ey, hys, hyb, hyd⟩ := h.entDat x.n
  have HYE : Hid (entAt R x.n = ((entAt R x.n).1, .slice ya yn yc)) := by
    show _ = _
    rw [← ey]
  obtain ⟨y, hy⟩ : ∃ y, (entAt R x.n).1 = y := ⟨_, rfl⟩
  rw [HYE.out, hy, ho] at HLK
  unfold eVal at HLK
  simp only at HLK
  have HY : Hid ((entAt R x.n).1 = y) := hy
  have HO : Hid (hasE R x.n = ok) := ho
  clear HYE ey hys hyb hyd hy ho h
  go_enter Try.func13, Try.ntmps13
  go_upto_region 1 with fail
  have B0 : Below w.heap.size w (w.alloc (.cells #[.int .i64 x.f, .int .i64 x.b, .int .i64 x.n, .int .i64 x.u, .bool x.q, .slice a n cap] 35)) := ba (Below.refl _ _)
  have E0 := Eb.made w x (.slice a n cap)
  have z0 : (w.alloc (.cells #[.int .i64 x.f, .int .i64 x.b, .int .i64 x.n, .int .i64 x.u, .bool x.q, .slice a n cap] 35)).heap.size = w.heap.size + 1 := by simp
  refine wp_region_orders 13 rfl (by kernel_rfl) ?_
  have B1 : Below w.heap.size w (w.alloc (.cells #[.int .i64 x.f, .int .i64 x.b, .int .i64 x.n, .int .i64 x.u, .bool x.q, .slice a n cap] 35)).drew := B0.drew
  have E1 := E0.next (Below.refl _ _).drew
  have z1 : (w.alloc (.cells #[.int .i64 x.f, .int .i64 x.b, .int .i64 x.n, .int .i64 x.u, .bool x.q, .slice a n cap] 35)).drew.heap.size = w.heap.size + 1 := z0
  clear E0 B0 z0
  generalize (w.alloc (.cells #[.int .i64 x.f, .int .i64 x.b, .int .i64 x.n, .int .i64 x.u, .bool x.q, .slice a n cap] 35)).drew = V0 at *
  have hI : (fun V : World => V.cell? ⟨g, 3, none⟩ = some (.map (some be)) ∧ V.cell? ⟨w.heap.size, 2, none⟩ = some (.int .i64 x.n) ∧ (Instr.lookup 88 (.map (some be)) (.int .i64 x.n) true).run Try.prog V = .ok (.tuple #[y.val (.slice ya yn yc), .bool ok]) V) V0 := ⟨(H.out.below B1).c3, by simpa using E1.c2, HLK.out _ (H.out.ents.below B1)⟩
  refine any_inv (fun V : World => V.cell? ⟨g, 3, none⟩ = some (.map (some be)) ∧ V.cell? ⟨w.heap.size, 2, none⟩ = some (.int .i64 x.n) ∧ (Instr.lookup 88 (.map (some be)) (.int .i64 x.n) true).run Try.prog V = .ok (.tuple #[y.val (.slice ya yn yc), .bool ok]) V) [] hI ?_
  refine inv_take (v := ?v1) [1, 2, 3, 6, 7, 8, 9, 11, 12] 0 hI rfl (by kernel_rfl) (by kernel_rfl) (by kernel_rfl) (by kernel_rfl) (by kernel_rfl) (fun _ _ _ h => h) (by kernel_rfl) (fun V hV => ?hy1) ?go1
  case hy1 => (obtain ⟨i1, i2, i3⟩ := hV; go_simp <;> rfl)
  simp only [Act.put, List.setIfInBounds_toArray, List.set_cons_zero, List.set_cons_succ]
  refine inv_take (v := ?v2) [2, 3, 6, 7, 8, 9, 11, 12] 1 hI rfl (by kernel_rfl) (by kernel_rfl) (by kernel_rfl) (by kernel_rfl) (by kernel_rfl) (fun _ _ _ h => h) (by kernel_rfl) (fun V hV => ?hy2) ?go2
  case hy2 => (obtain ⟨i1, i2, i3⟩ := hV; go_simp <;> rfl)
  simp only [Act.put, List.setIfInBounds_toArray, List.set_cons_zero, List.set_cons_succ]
  refine inv_take (v := ?v3) [3, 6, 7, 8, 9, 11, 12] 2 hI rfl (by kernel_rfl) (by kernel_rfl) (by kernel_rfl) (by kernel_rfl) (by kernel_rfl) (fun _ _ _ h => h) (by kernel_rfl) (fun V hV => ?hy3) ?go3
  case hy3 => (obtain ⟨i1, i2, i3⟩ := hV; go_simp <;> rfl)
  simp only [Act.put, List.setIfInBounds_toArray, List.set_cons_zero, List.set_cons_succ]
  refine inv_take (v := ?v4) [6, 7, 8, 9, 11, 12] 3 hI rfl (by kernel_rfl) (by kernel_rfl) (by kernel_rfl) (by kernel_rfl) (by kernel_rfl) (fun _ _ _ h => h) (by kernel_rfl) (fun V hV => ?hy4) ?go4
  case hy4 => (obtain ⟨i1, i2, i3⟩ := hV; go_simp <;> rfl)
  simp only [Act.put, List.setIfInBounds_toArray, List.set_cons_zero, List.set_cons_succ]
  refine inv_take (v := ?v5) [5, 6, 7, 8, 9, 11, 12] 4 hI rfl (by kernel_rfl) (by kernel_rfl) (by kernel_rfl) (by kernel_rfl) (by kernel_rfl) (fun _ _ _ h => h) (by kernel_rfl) (fun V hV => ?hy5) ?go5
  case hy5 => (obtain ⟨i1, i2, i3⟩ := hV; go_simp <;> rfl)
  simp only [Act.put, List.setIfInBounds_toArray, List.set_cons_zero, List.set_cons_succ]
  refine inv_take (v := ?v6) [6, 7, 8, 9, 11, 12] 5 hI rfl (by kernel_rfl) (by kernel_rfl) (by kernel_rfl) (by kernel_rfl) (by kernel_rfl) (fun _ _ _ h => h) (by kernel_rfl) (fun V hV => ?hy6) ?go6
  case hy6 => (obtain ⟨i1, i2, i3⟩ := hV; go_simp <;> rfl)
  simp only [Act.put, List.setIfInBounds_toArray, List.set_cons_zero, List.set_cons_succ]
  refine inv_take (v := ?v7) [7, 8, 9, 11, 12] 6 hI rfl (by kernel_rfl) (by kernel_rfl) (by kernel_rfl) (by kernel_rfl) (by kernel_rfl) (fun _ _ _ h => h) (by kernel_rfl) (fun V hV => ?hy7) ?go7
  case hy7 => (obtain ⟨i1, i2, i3⟩ := hV; go_simp <;> rfl)
  simp only [Act.put, List.setIfInBounds_toArray, List.set_cons_zero, List.set_cons_succ]
  refine inv_take (v := ?v8) [8, 9, 11, 12] 7 hI rfl (by kernel_rfl) (by kernel_rfl) (by kernel_rfl) (by kernel_rfl) (by kernel_rfl) (fun _ _ _ h => h) (by kernel_rfl) (fun V hV => ?hy8) ?go8
  case hy8 => (obtain ⟨i1, i2, i3⟩ := hV; go_simp <;> rfl)
  simp only [Act.put, List.setIfInBounds_toArray, List.set_cons_zero, List.set_cons_succ]
  refine inv_take (v := ?v9) [11, 12] 8 hI rfl (by kernel_rfl) (by kernel_rfl) (by kernel_rfl) (by kernel_rfl) (by kernel_rfl) (fun _ _ _ h => h) (by kernel_rfl) (fun V hV => ?hy9) ?go9
  case hy9 => (obtain ⟨i1, i2, i3⟩ := hV; go_simp <;> rfl)
  simp only [Act.put, List.setIfInBounds_toArray, List.set_cons_zero, List.set_cons_succ]
  refine inv_take (v := ?v10) [12] 9 hI rfl (by kernel_rfl) (by kernel_rfl) (by kernel_rfl) (by kernel_rfl) (by kernel_rfl) (fun _ _ _ h => h) (by kernel_rfl) (fun V hV => ?hy10) ?go10
  case hy10 => (obtain ⟨i1, i2, i3⟩ := hV; go_simp <;> rfl)
  simp only [Act.put, List.setIfInBounds_toArray, List.set_cons_zero, List.set_cons_succ]
  refine inv_list 10 (by kernel_rfl) rfl ?_
  clear hI
  go_wp2_with fail
  have B2 : Below w.heap.size w (V0.alloc (.cells #[.int .i64 0, .int .i64 0, .int .i64 0, .int .i64 0, .bool false, .slice none 0 0] 35)) := ba B1
  have E2 := E1.next (ba (o := (.cells #[.int .i64 0, .int .i64 0, .int .i64 0, .int .i64 0, .bool false, .slice none 0 0] 35)) (Below.refl _ _))
  refine then_n ⟨⟨(H.out.below B2).c3, by simpa using E2.c2, HLK.out _ (H.out.ents.below B2)⟩, ?_⟩
  refine inv_list 11 (by kernel_rfl) rfl ?_
  go_wp2_with fail
  have B3 : Below w.heap.size w (V0.alloc (.cells #[.int .i64 y.f, .int .i64 y.b, .int .i64 y.n, .int .i64 y.u, .bool y.q, .slice ya yn yc] 35)) := ba B1
  have E3 := E1.next (ba (o := (.cells #[.int .i64 y.f, .int .i64 y.b, .int .i64 y.n, .int .i64 y.u, .bool y.q, .slice ya yn yc] 35)) (Below.refl _ _))
  refine then_n ⟨⟨(H.out.below B3).c3, by simpa using E3.c2, HLK.out _ (H.out.ents.below B3)⟩, ?_⟩
  refine inv_list 12 (by kernel_rfl) rfl ?_
  go_wp2_with fail
  refine then_n ⟨⟨(H.out.below B3).c3, by simpa using E3.c2, HLK.out _ (H.out.ents.below B3)⟩, ?_⟩
  refine inv_done (by kernel_rfl) ?_
  have EY := Eb.made' V0 y (.slice ya yn yc) (w.heap.size + 1) z1.symm
  have z3 : (V0.alloc (.cells #[.int .i64 y.f, .int .i64 y.b, .int .i64 y.n, .int .i64 y.u, .bool y.q, .slice ya yn yc] 35)).heap.size = w.heap.size + 2 := by simp [z1]
  clear B2 E2 E1 B1
  generalize V0.alloc (.cells #[.int .i64 y.f, .int .i64 y.b, .int .i64 y.n, .int .i64 y.u, .bool y.q, .slice ya yn yc] 35) = V1 at *
  clear z1
  obtain ⟨p0, p1, p2, p3, p4, p5⟩ := E3.lit
  obtain ⟨f0, f1, f2, f3, f4, f5⟩ := E3.lit'
  obtain rfl : ok = true := HO.out.symm.trans hh
  have hneg : ¬ x.n < 0 := by omega
  have q3 := EY.c3
  simp at q3
  have ltw : w.heap.size < V1.heap.size := by omega
  go_upto_region 9 with fail
  have C1 := H.out.below B3
  have K2 : Keep (fun j => j = w.heap.size) V1 (V1.setCell ⟨w.heap.size, 3, none⟩ (.int .i64 y.u)) := Keep.one _ _ _ _
  have CV := C1.keep K2 (fun j hj e => by subst e; have := H.out.old _ hj; omega)
  have KV : Keep M w (V1.setCell ⟨w.heap.size, 3, none⟩ (.int .i64 y.u)) := ((Keep.of_below (F := fun _ => False) B3).trans (G := fun j => j = w.heap.size) K2 (fun j hj e => by omega)).mono (fun j _ h => h.elim)
  have EV := E3.setU y.u
  have zV : (V1.setCell ⟨w.heap.size, 3, none⟩ (.int .i64 y.u)).heap.size = w.heap.size + 2 := by simpa using z3
  have hsV : Sl (V1.setCell ⟨w.heap.size, 3, none⟩ (.int .i64 y.u)) a n cap x.z := sl_far hs B3 (Nat.le_refl _) _ _
  change Eb _ w.heap.size 0 { x with u := y.u } (.slice a n cap) at EV
  clear p0 p1 p2 p3 p4 p5 f0 f1 f2 f3 f4 f5 q3 EY E3 z3 C1 K2 B3 hs ltw
  generalize V1.setCell ⟨w.heap.size, 3, none⟩ (.int .i64 y.u) = V2 at *
  obtain ⟨MM, hMM⟩ : ∃ MM, MM = M := ⟨_, rfl⟩
  rw [← hMM] at CV
  have HMM : Hid (∀ j, MM j → M j ∨ w.heap.size + 2 ≤ j) := fun j hj => .inl (hMM ▸ hj)
  have HM3 : Hid (MM = M) := hMM
  clear hMM
  obtain ⟨x2, hx2⟩ : ∃ x2 : En, x2 = { x with u := y.u } := ⟨_, rfl⟩
  have hx2n : x2.n = x.n := by rw [hx2]
  have hx2z : x2.z = x.z := by rw [hx2]
  rw [← hx2] at EV
  have HX3 : Hid _ := hx2
  have HX2 : Hid (x2.n = x.n ∧ x2.z = x.z) := ⟨hx2n, hx2z⟩
  rw [← hx2z] at hsV
  clear hx2 hx2n hx2z
  refine wp_region_orders 9 rfl (by kernel_rfl) ?_
  have Bd : Below V2.heap.size V2 V2.drew := (Below.refl _ _).drew
  have CV1 := CV.below Bd
  have KV1 := KV.next Bd
  have EV1 := EV.next Bd
  have zV1 : V2.drew.heap.size = w.heap.size + 2 ∨ w.heap.size + 2 ≤ V2.drew.heap.size := .inr (by have : V2.drew.heap.size = V2.heap.size := rfl; omega)
  have hsV1 := hsV.below Bd
  clear CV KV EV hsV Bd zV
  generalize V2.drew = V3 at *
  have zV : w.heap.size + 2 ≤ V3.heap.size := by omega
  clear zV1
  obtain ⟨p0, p1, p2, p3, p4, p5⟩ := EV1.lit
  have hI : (fun V : World => V.cell? ⟨g, 3, none⟩ = some (.map (some be)) ∧ V.cell? ⟨w.heap.size, 0, none⟩ = some (.int .i64 x2.f) ∧ V.cell? ⟨w.heap.size, 1, none⟩ = some (.int .i64 x2.b) ∧ V.cell? ⟨w.heap.size, 2, none⟩ = some (.int .i64 x2.n) ∧ V.cell? ⟨w.heap.size, 3, none⟩ = some (.int .i64 x2.u) ∧ V.cell? ⟨w.heap.size, 4, none⟩ = some (.bool x2.q) ∧ V.cell? ⟨w.heap.size, 5, none⟩ = some (.slice a n cap)) V3 := ⟨CV1.c3, p0, p1, p2, p3, p4, p5⟩
  clear p0 p1 p2 p3 p4 p5
  refine any_inv (fun V : World => V.cell? ⟨g, 3, none⟩ = some (.map (some be)) ∧ V.cell? ⟨w.heap.size, 0, none⟩ = some (.int .i64 x2.f) ∧ V.cell? ⟨w.heap.size, 1, none⟩ = some (.int .i64 x2.b) ∧ V.cell? ⟨w.heap.size, 2, none⟩ = some (.int .i64 x2.n) ∧ V.cell? ⟨w.heap.size, 3, none⟩ = some (.int .i64 x2.u) ∧ V.cell? ⟨w.heap.size, 4, none⟩ = some (.bool x2.q) ∧ V.cell? ⟨w.heap.size, 5, none⟩ = some (.slice a n cap)) [8] hI ?_
  refine inv_take (v := ?v11) [1, 2, 3, 8] 0 hI rfl (by kernel_rfl) (by kernel_rfl) (by kernel_rfl) (by kernel_rfl) (by kernel_rfl) (fun _ _ _ h => h) (by kernel_rfl) (fun V hV => ?hy11) ?go11
  case hy11 => (obtain ⟨i1, q0, q1, q2, q3, q4, q5⟩ := hV; go_simp <;> rfl)
  simp only [Act.put, List.setIfInBounds_toArray, List.set_cons_zero, List.set_cons_succ]
  refine inv_take (v := ?v12) [2, 3, 8] 1 hI rfl (by kernel_rfl) (by kernel_rfl) (by kernel_rfl) (by kernel_rfl) (by kernel_rfl) (fun _ _ _ h => h) (by kernel_rfl) (fun V hV => ?hy12) ?go12
  case hy12 => (obtain ⟨i1, q0, q1, q2, q3, q4, q5⟩ := hV; go_simp <;> rfl)
  simp only [Act.put, List.setIfInBounds_toArray, List.set_cons_zero, List.set_cons_succ]
  refine inv_take (v := ?v13) [3, 8] 2 hI rfl (by kernel_rfl) (by kernel_rfl) (by kernel_rfl) (by kernel_rfl) (by kernel_rfl) (fun _ _ _ h => h) (by kernel_rfl) (fun V hV => ?hy13) ?go13
  case hy13 => (obtain ⟨i1, q0, q1, q2, q3, q4, q5⟩ := hV; go_simp <;> rfl)
  simp only [Act.put, List.setIfInBounds_toArray, List.set_cons_zero, List.set_cons_succ]
  refine inv_take (v := ?v14) [8] 3 hI rfl (by kernel_rfl) (by kernel_rfl) (by kernel_rfl) (by kernel_rfl) (by kernel_rfl) (fun _ _ _ h => h) (by kernel_rfl) (fun V hV => ?hy14) ?go14
  case hy14 => (obtain ⟨i1, q0, q1, q2, q3, q4, q5⟩ := hV; go_simp <;> rfl)
  simp only [Act.put, List.setIfInBounds_toArray, List.set_cons_zero, List.set_cons_succ]
  refine inv_take (v := ?v15) [5, 8] 4 hI rfl (by kernel_rfl) (by kernel_rfl) (by kernel_rfl) (by kernel_rfl) (by kernel_rfl) (fun _ _ _ h => h) (by kernel_rfl) (fun V hV => ?hy15) ?go15
  case hy15 => (obtain ⟨i1, q0, q1, q2, q3, q4, q5⟩ := hV; go_simp <;> rfl)
  simp only [Act.put, List.setIfInBounds_toArray, List.set_cons_zero, List.set_cons_succ]
  refine inv_take (v := ?v16) [8] 5 hI rfl (by kernel_rfl) (by kernel_rfl) (by kernel_rfl) (by kernel_rfl) (by kernel_rfl) (fun _ _ _ h => h) (by kernel_rfl) (fun V hV => ?hy16) ?go16
  case hy16 => (obtain ⟨i1, q0, q1, q2, q3, q4, q5⟩ := hV; go_simp <;> rfl)
  simp only [Act.put, List.setIfInBounds_toArray, List.set_cons_zero, List.set_cons_succ]
  refine inv_take (v := ?v17) [7, 8] 6 hI rfl (by kernel_rfl) (by kernel_rfl) (by kernel_rfl) (by kernel_rfl) (by kernel_rfl) (fun _ _ _ h => h) (by kernel_rfl) (fun V hV => ?hy17) ?go17
  case hy17 => (obtain ⟨i1, q0, q1, q2, q3, q4, q5⟩ := hV; go_simp <;> rfl)
  simp only [Act.put, List.setIfInBounds_toArray, List.set_cons_zero, List.set_cons_succ]
  refine inv_list 7 (by kernel_rfl) rfl ?_
  clear hI
  go_wp2_with (go_at_call 43; refine (clone_any x2 a n cap _ hsV1 hb).mono ?_; rintro e w7 ⟨a7, c7, rfl, own7, b7⟩)
  obtain ⟨p0, p1, p2, p3, p4, p5⟩ := (EV1.next b7).lit
  refine then_n ⟨⟨(CV1.below b7).c3, p0, p1, p2, p3, p4, p5⟩, ?_⟩
  clear p0 p1 p2 p3 p4 p5
  obtain ⟨D', hD'⟩ : ∃ D' : Nat → Prop, D' = fun j => D j ∨ (V3.heap.size ≤ j ∧ j < w7.heap.size) := ⟨_, rfl⟩
  have hl7 := hsV1.len
  obtain ⟨w9, hrun9, CN, K9, s9⟩ := (CV1.below b7).store (D' := D') (x := x2) (d := .slice a7 n c7) hR ⟨HX2.out.1 ▸ hx, HX2.out.1 ▸ hpos⟩ ((datz_own own7 (by omega)).imp (fun j hj h => by rw [hD']; exact .inr ⟨by omega, hj⟩)) (fun j hj => by rw [hD']; exact .inl hj) (fun j hj => by
    rw [hD'] at hj
    have hz := b7.size
    rcases hj with hj | hj
    · exact ⟨by have := CV1.old j (.inr hj); omega, fun hm => CV1.dj j hm hj⟩
    · exact ⟨hj.2, fun hm => by have := CV1.old j (.inl hm); omega⟩)
  have KN : Keep M w w9 := (KV1.next b7).trans K9 (fun j _ e => by
    subst e
    exact (HMM.out j CV1.mg.2.1).elim id (fun hj => by have := HBE.out; omega))
  have hDN : ∀ j, D' j → D j ∨ w.heap.size ≤ j := fun j hj => by
    rw [hD'] at hj
    exact hj.imp id (fun h => by omega)
  refine inv_write 8 (by kernel_rfl) (by kernel_rfl) rfl ?_
  clear own7 b7 K9 s9 CV1 KV1 EV1 hsV1 zV hl7 hD'
  go_wp2_with fail
  refine then_n ?_
  refine any_done (by kernel_rfl) ?_
  clear hrun9
  go_wp2_with fail
  go_ret
  rw [HY.out, ← HX3.out]
  rw [HM3.out] at CN
  exact ⟨rfl, KN, D', _, hDN, CN⟩
theorem CC.put_full (h : CW w g be bo M D S W k R O) (x : En) (a : Option Addr) (n cap : Nat) (hs : Sl w a n cap x.z) (hb : n ≤ 17592186044416) (hx : In64 x.n) (hpos : 0 ≤ x.n) (hh : hasE R x.n = false) (hf : fullO W R O (setI S x.n) x.n = true) :
    Calls Try.prog 13 #[.pointer (some ⟨g, 0, none⟩), x.val (.slice a n cap)] w fun e w' => e = .returned (.int .i64 5) ∧ Below w.heap.size w w' := by
  have HF : Hid (fullO W R O (setI S x.n) x.n = true) := hf
  clear hf
  have H : Hid (CW w g be bo M D S W k R O) := h
  have lt := h.lt
  have HBE : Hid (be < w.heap.size) := h.ents.lt
  have HLK : Hid (∀ V, IM V be (kv eKey eVal R) → (Instr.lookup 88 (.map (some be)) (.int .i64 x.n) true).run Try.prog V = .ok (.tuple #[eVal (entAt R x.n), .bool (hasE R x.n)]) V) := fun V hV => im_look hV hx
  obtain ⟨ok, ho⟩ : ∃ ok, hasE R x.n = ok := ⟨_, rfl⟩
  obtain ⟨ya, yn, yc, ey, hys, hyb, hyd⟩ := h.entDat x.n
  have HYE : Hid (entAt R x.n = ((entAt R x.n).1, .slice ya yn yc)) := by
    show _ = _
    rw [← ey]
  obtain ⟨y, hy⟩ : ∃ y, (entAt R x.n).1 = y := ⟨_, rfl⟩
  rw [HYE.out, hy, ho] at HLK
  unfold eVal at HLK
  simp only at HLK
  have HY : Hid ((entAt R x.n).1 = y) := hy
  have HO : Hid (hasE R x.n = ok) := ho
  clear HYE ey hys hyb hyd hy ho h
  go_enter Try.func13, Try.ntmps13
  go_upto_region 1 with fail
  have B0 : Below w.heap.size w (w.alloc (.cells #[.int .i64 x.f, .int .i64 x.b, .int .i64 x.n, .int .i64 x.u, .bool x.q, .slice a n cap] 35)) := ba (Below.refl _ _)
  have E0 := Eb.made w x (.slice a n cap)
  have z0 : (w.alloc (.cells #[.int .i64 x.f, .int .i64 x.b, .int .i64 x.n, .int .i64 x.u, .bool x.q, .slice a n cap] 35)).heap.size = w.heap.size + 1 := by simp
  refine wp_region_orders 13 rfl (by kernel_rfl) ?_
  have B1 : Below w.heap.size w (w.alloc (.cells #[.int .i64 x.f, .int .i64 x.b, .int .i64 x.n, .int .i64 x.u, .bool x.q, .slice a n cap] 35)).drew := B0.drew
  have E1 := E0.next (Below.refl _ _).drew
  have z1 : (w.alloc (.cells #[.int .i64 x.f, .int .i64 x.b, .int .i64 x.n, .int .i64 x.u, .bool x.q, .slice a n cap] 35)).drew.heap.size = w.heap.size + 1 := z0
  clear E0 B0 z0
  generalize (w.alloc (.cells #[.int .i64 x.f, .int .i64 x.b, .int .i64 x.n, .int .i64 x.u, .bool x.q, .slice a n cap] 35)).drew = V0 at *
  have hI : (fun V : World => V.cell? ⟨g, 3, none⟩ = some (.map (some be)) ∧ V.cell? ⟨w.heap.size, 2, none⟩ = some (.int .i64 x.n) ∧ (Instr.lookup 88 (.map (some be)) (.int .i64 x.n) true).run Try.prog V = .ok (.tuple #[y.val (.slice ya yn yc), .bool ok]) V) V0 := ⟨(H.out.below B1).c3, by simpa using E1.c2, HLK.out _ (H.out.ents.below B1)⟩
  refine any_inv (fun V : World => V.cell? ⟨g, 3, none⟩ = some (.map (some be)) ∧ V.cell? ⟨w.heap.size, 2, none⟩ = some (.int .i64 x.n) ∧ (Instr.lookup 88 (.map (some be)) (.int .i64 x.n) true).run Try.prog V = .ok (.tuple #[y.val (.slice ya yn yc), .bool ok]) V) [] hI ?_
  refine inv_take (v := ?v1) [1, 2, 3, 6, 7, 8, 9, 11, 12] 0 hI rfl (by kernel_rfl) (by kernel_rfl) (by kernel_rfl) (by kernel_rfl) (by kernel_rfl) (fun _ _ _ h => h) (by kernel_rfl) (fun V hV => ?hy1) ?go1
  case hy1 => (obtain ⟨i1, i2, i3⟩ := hV; go_simp <;> rfl)
  simp only [Act.put, List.setIfInBounds_toArray, List.set_cons_zero, List.set_cons_succ]
  refine inv_take (v := ?v2) [2, 3, 6, 7, 8, 9, 11, 12] 1 hI rfl (by kernel_rfl) (by kernel_rfl) (by kernel_rfl) (by kernel_rfl) (by kernel_rfl) (fun _ _ _ h => h) (by kernel_rfl) (fun V hV => ?hy2) ?go2
  case hy2 => (obtain ⟨i1, i2, i3⟩ := hV; go_simp <;> rfl)
  simp only [Act.put, List.setIfInBounds_toArray, List.set_cons_zero, List.set_cons_succ]
  refine inv_take (v := ?v3) [3, 6, 7, 8, 9, 11, 12] 2 hI rfl (by kernel_rfl) (by kernel_rfl) (by kernel_rfl) (by kernel_rfl) (by kernel_rfl) (fun _ _ _ h => h) (by kernel_rfl) (fun V hV => ?hy3) ?go3
  case hy3 => (obtain ⟨i1, i2, i3⟩ := hV; go_simp <;> rfl)
  simp only [Act.put, List.setIfInBounds_toArray, List.set_cons_zero, List.set_cons_succ]
  refine inv_take (v := ?v4) [6, 7, 8, 9, 11, 12] 3 hI rfl (by kernel_rfl) (by kernel_rfl) (by kernel_rfl) (by kernel_rfl) (by kernel_rfl) (fun _ _ _ h => h) (by kernel_rfl) (fun V hV => ?hy4) ?go4
  case hy4 => (obtain ⟨i1, i2, i3⟩ := hV; go_simp <;> rfl)
  simp only [Act.put, List.setIfInBounds_toArray, List.set_cons_zero, List.set_cons_succ]
  refine inv_take (v := ?v5) [5, 6, 7, 8, 9, 11, 12] 4 hI rfl (by kernel_rfl) (by kernel_rfl) (by kernel_rfl) (by kernel_rfl) (by kernel_rfl) (fun _ _ _ h => h) (by kernel_rfl) (fun V hV => ?hy5) ?go5
  case hy5 => (obtain ⟨i1, i2, i3⟩ := hV; go_simp <;> rfl)
  simp only [Act.put, List.setIfInBounds_toArray, List.set_cons_zero, List.set_cons_succ]
  refine inv_take (v := ?v6) [6, 7, 8, 9, 11, 12] 5 hI rfl (by kernel_rfl) (by kernel_rfl) (by kernel_rfl) (by kernel_rfl) (by kernel_rfl) (fun _ _ _ h => h) (by kernel_rfl) (fun V hV => ?hy6) ?go6
  case hy6 => (obtain ⟨i1, i2, i3⟩ := hV; go_simp <;> rfl)
  simp only [Act.put, List.setIfInBounds_toArray, List.set_cons_zero, List.set_cons_succ]
  refine inv_take (v := ?v7) [7, 8, 9, 11, 12] 6 hI rfl (by kernel_rfl) (by kernel_rfl) (by kernel_rfl) (by kernel_rfl) (by kernel_rfl) (fun _ _ _ h => h) (by kernel_rfl) (fun V hV => ?hy7) ?go7
  case hy7 => (obtain ⟨i1, i2, i3⟩ := hV; go_simp <;> rfl)
  simp only [Act.put, List.setIfInBounds_toArray, List.set_cons_zero, List.set_cons_succ]
  refine inv_take (v := ?v8) [8, 9, 11, 12] 7 hI rfl (by kernel_rfl) (by kernel_rfl) (by kernel_rfl) (by kernel_rfl) (by kernel_rfl) (fun _ _ _ h => h) (by kernel_rfl) (fun V hV => ?hy8) ?go8
  case hy8 => (obtain ⟨i1, i2, i3⟩ := hV; go_simp <;> rfl)
  simp only [Act.put, List.setIfInBounds_toArray, List.set_cons_zero, List.set_cons_succ]
  refine inv_take (v := ?v9) [11, 12] 8 hI rfl (by kernel_rfl) (by kernel_rfl) (by kernel_rfl) (by kernel_rfl) (by kernel_rfl) (fun _ _ _ h => h) (by kernel_rfl) (fun V hV => ?hy9) ?go9
  case hy9 => (obtain ⟨i1, i2, i3⟩ := hV; go_simp <;> rfl)
  simp only [Act.put, List.setIfInBounds_toArray, List.set_cons_zero, List.set_cons_succ]
  refine inv_take (v := ?v10) [12] 9 hI rfl (by kernel_rfl) (by kernel_rfl) (by kernel_rfl) (by kernel_rfl) (by kernel_rfl) (fun _ _ _ h => h) (by kernel_rfl) (fun V hV => ?hy10) ?go10
  case hy10 => (obtain ⟨i1, i2, i3⟩ := hV; go_simp <;> rfl)
  simp only [Act.put, List.setIfInBounds_toArray, List.set_cons_zero, List.set_cons_succ]
  refine inv_list 10 (by kernel_rfl) rfl ?_
  clear hI
  go_wp2_with fail
  have B2 : Below w.heap.size w (V0.alloc (.cells #[.int .i64 0, .int .i64 0, .int .i64 0, .int .i64 0, .bool false, .slice none 0 0] 35)) := ba B1
  have E2 := E1.next (ba (o := (.cells #[.int .i64 0, .int .i64 0, .int .i64 0, .int .i64 0, .bool false, .slice none 0 0] 35)) (Below.refl _ _))
  refine then_n ⟨⟨(H.out.below B2).c3, by simpa using E2.c2, HLK.out _ (H.out.ents.below B2)⟩, ?_⟩
  refine inv_list 11 (by kernel_rfl) rfl ?_
  go_wp2_with fail
  have B3 : Below w.heap.size w (V0.alloc (.cells #[.int .i64 y.f, .int .i64 y.b, .int .i64 y.n, .int .i64 y.u, .bool y.q, .slice ya yn yc] 35)) := ba B1
  have E3 := E1.next (ba (o := (.cells #[.int .i64 y.f, .int .i64 y.b, .int .i64 y.n, .int .i64 y.u, .bool y.q, .slice ya yn yc] 35)) (Below.refl _ _))
  refine then_n ⟨⟨(H.out.below B3).c3, by simpa using E3.c2, HLK.out _ (H.out.ents.below B3)⟩, ?_⟩
  refine inv_list 12 (by kernel_rfl) rfl ?_
  go_wp2_with fail
  refine then_n ⟨⟨(H.out.below B3).c3, by simpa using E3.c2, HLK.out _ (H.out.ents.below B3)⟩, ?_⟩
  refine inv_done (by kernel_rfl) ?_
  have EY := Eb.made' V0 y (.slice ya yn yc) (w.heap.size + 1) z1.symm
  have z3 : (V0.alloc (.cells #[.int .i64 y.f, .int .i64 y.b, .int .i64 y.n, .int .i64 y.u, .bool y.q, .slice ya yn yc] 35)).heap.size = w.heap.size + 2 := by simp [z1]
  clear B2 E2 E1 B1
  generalize V0.alloc (.cells #[.int .i64 y.f, .int .i64 y.b, .int .i64 y.n, .int .i64 y.u, .bool y.q, .slice ya yn yc] 35) = V1 at *
  clear z1
  obtain ⟨p0, p1, p2, p3, p4, p5⟩ := E3.lit
  obtain ⟨f0, f1, f2, f3, f4, f5⟩ := E3.lit'
  obtain rfl : ok = false := HO.out.symm.trans hh
  have hneg : ¬ x.n < 0 := by omega
  clear hh
  go_wp2_with (go_at_call 25; refine (CC.full_any (H.out.below B3) hx).mono ?_; rintro e w7 ⟨rfl, b7⟩; rw [HF.out])
  go_ret
  exact ⟨rfl, next B3 b7⟩
theorem CC.put_new (h : CW w g be bo M D S W k R O) (x : En) (a : Option Addr) (n cap : Nat) (hs : Sl w a n cap x.z) (hsM : ∀ y : Addr, a = some y → ¬ M y.block) (hb : n ≤ 17592186044416) (hx : In64 x.n) (hpos : 0 ≤ x.n) (hh : hasE R x.n = false) (hf : fullO W R O (setI S x.n) x.n = false)
    (hR : R.length ≤ 1000000) (hk : 0 ≤ k ∧ k < 1000000000) (hO : O.length ≤ 1000000) (hL : (ordL O (setI S x.n)).length ≤ 1000000) :
    Calls Try.prog 13 #[.pointer (some ⟨g, 0, none⟩), x.val (.slice a n cap)] w fun e w' => e = .returned (.int .i64 0) ∧ Keep M w w' ∧
      ∃ M' D' d, ∃ p : OE, (∀ j, M' j → M j ∨ w.heap.size ≤ j) ∧ (∀ j, D' j → D j ∨ w.heap.size ≤ j) ∧ p.s = setI S x.n ∧ p.l = ordL O (setI S x.n) ++ [x.n] ∧ CW w' g be bo M' D' S W (k + 1) (putK eKey ({ x with u := k + 1 }, d) R) (putK OE.s p O) := by
  have HF : Hid (fullO W R O (setI S x.n) x.n = false) := hf
  have HL : Hid ((ordL O (setI S x.n)).length ≤ 1000000) := hL
  have HOL : Hid (O.length ≤ 1000000) := hO
  have HK : Hid (0 ≤ k ∧ k < 1000000000) := hk
  clear hf hL hO hk
  have H : Hid (CW w g be bo M D S W k R O) := h
  have lt := h.lt
  have HBE : Hid (be < w.heap.size) := h.ents.lt
  have HLK : Hid (∀ V, IM V be (kv eKey eVal R) → (Instr.lookup 88 (.map (some be)) (.int .i64 x.n) true).run Try.prog V = .ok (.tuple #[eVal (entAt R x.n), .bool (hasE R x.n)]) V) := fun V hV => im_look hV hx
  obtain ⟨ok, ho⟩ : ∃ ok, hasE R x.n = ok := ⟨_, rfl⟩
  obtain ⟨ya, yn, yc, ey, hys, hyb, hyd⟩ := h.entDat x.n
  have HYE : Hid (entAt R x.n = ((entAt R x.n).1, .slice ya yn yc)) := by
    show _ = _
    rw [← ey]
  obtain ⟨y, hy⟩ : ∃ y, (entAt R x.n).1 = y := ⟨_, rfl⟩
  rw [HYE.out, hy, ho] at HLK
  unfold eVal at HLK
  simp only at HLK
  have HY : Hid ((entAt R x.n).1 = y) := hy
  have HO : Hid (hasE R x.n = ok) := ho
  clear HYE ey hys hyb hyd hy ho h
  go_enter Try.func13, Try.ntmps13
  go_upto_region 1 with fail
  have B0 : Below w.heap.size w (w.alloc (.cells #[.int .i64 x.f, .int .i64 x.b, .int .i64 x.n, .int .i64 x.u, .bool x.q, .slice a n cap] 35)) := ba (Below.refl _ _)
  have E0 := Eb.made w x (.slice a n cap)
  have z0 : (w.alloc (.cells #[.int .i64 x.f, .int .i64 x.b, .int .i64 x.n, .int .i64 x.u, .bool x.q, .slice a n cap] 35)).heap.size = w.heap.size + 1 := by simp
  refine wp_region_orders 13 rfl (by kernel_rfl) ?_
  have B1 : Below w.heap.size w (w.alloc (.cells #[.int .i64 x.f, .int .i64 x.b, .int .i64 x.n, .int .i64 x.u, .bool x.q, .slice a n cap] 35)).drew := B0.drew
  have E1 := E0.next (Below.refl _ _).drew
  have z1 : (w.alloc (.cells #[.int .i64 x.f, .int .i64 x.b, .int .i64 x.n, .int .i64 x.u, .bool x.q, .slice a n cap] 35)).drew.heap.size = w.heap.size + 1 := z0
  clear E0 B0 z0
  generalize (w.alloc (.cells #[.int .i64 x.f, .int .i64 x.b, .int .i64 x.n, .int .i64 x.u, .bool x.q, .slice a n cap] 35)).drew = V0 at *
  have hI : (fun V : World => V.cell? ⟨g, 3, none⟩ = some (.map (some be)) ∧ V.cell? ⟨w.heap.size, 2, none⟩ = some (.int .i64 x.n) ∧ (Instr.lookup 88 (.map (some be)) (.int .i64 x.n) true).run Try.prog V = .ok (.tuple #[y.val (.slice ya yn yc), .bool ok]) V) V0 := ⟨(H.out.below B1).c3, by simpa using E1.c2, HLK.out _ (H.out.ents.below B1)⟩
  refine any_inv (fun V : World => V.cell? ⟨g, 3, none⟩ = some (.map (some be)) ∧ V.cell? ⟨w.heap.size, 2, none⟩ = some (.int .i64 x.n) ∧ (Instr.lookup 88 (.map (some be)) (.int .i64 x.n) true).run Try.prog V = .ok (.tuple #[y.val (.slice ya yn yc), .bool ok]) V) [] hI ?_
  refine inv_take (v := ?v1) [1, 2, 3, 6, 7, 8, 9, 11, 12] 0 hI rfl (by kernel_rfl) (by kernel_rfl) (by kernel_rfl) (by kernel_rfl) (by kernel_rfl) (fun _ _ _ h => h) (by kernel_rfl) (fun V hV => ?hy1) ?go1
  case hy1 => (obtain ⟨i1, i2, i3⟩ := hV; go_simp <;> rfl)
  simp only [Act.put, List.setIfInBounds_toArray, List.set_cons_zero, List.set_cons_succ]
  refine inv_take (v := ?v2) [2, 3, 6, 7, 8, 9, 11, 12] 1 hI rfl (by kernel_rfl) (by kernel_rfl) (by kernel_rfl) (by kernel_rfl) (by kernel_rfl) (fun _ _ _ h => h) (by kernel_rfl) (fun V hV => ?hy2) ?go2
  case hy2 => (obtain ⟨i1, i2, i3⟩ := hV; go_simp <;> rfl)
  simp only [Act.put, List.setIfInBounds_toArray, List.set_cons_zero, List.set_cons_succ]
  refine inv_take (v := ?v3) [3, 6, 7, 8, 9, 11, 12] 2 hI rfl (by kernel_rfl) (by kernel_rfl) (by kernel_rfl) (by kernel_rfl) (by kernel_rfl) (fun _ _ _ h => h) (by kernel_rfl) (fun V hV => ?hy3) ?go3
  case hy3 => (obtain ⟨i1, i2, i3⟩ := hV; go_simp <;> rfl)
  simp only [Act.put, List.setIfInBounds_toArray, List.set_cons_zero, List.set_cons_succ]
  refine inv_take (v := ?v4) [6, 7, 8, 9, 11, 12] 3 hI rfl (by kernel_rfl) (by kernel_rfl) (by kernel_rfl) (by kernel_rfl) (by kernel_rfl) (fun _ _ _ h => h) (by kernel_rfl) (fun V hV => ?hy4) ?go4
  case hy4 => (obtain ⟨i1, i2, i3⟩ := hV; go_simp <;> rfl)
  simp only [Act.put, List.setIfInBounds_toArray, List.set_cons_zero, List.set_cons_succ]
  refine inv_take (v := ?v5) [5, 6, 7, 8, 9, 11, 12] 4 hI rfl (by kernel_rfl) (by kernel_rfl) (by kernel_rfl) (by kernel_rfl) (by kernel_rfl) (fun _ _ _ h => h) (by kernel_rfl) (fun V hV => ?hy5) ?go5
  case hy5 => (obtain ⟨i1, i2, i3⟩ := hV; go_simp <;> rfl)
  simp only [Act.put, List.setIfInBounds_toArray, List.set_cons_zero, List.set_cons_succ]
  refine inv_take (v := ?v6) [6, 7, 8, 9, 11, 12] 5 hI rfl (by kernel_rfl) (by kernel_rfl) (by kernel_rfl) (by kernel_rfl) (by kernel_rfl) (fun _ _ _ h => h) (by kernel_rfl) (fun V hV => ?hy6) ?go6
  case hy6 => (obtain ⟨i1, i2, i3⟩ := hV; go_simp <;> rfl)
  simp only [Act.put, List.setIfInBounds_toArray, List.set_cons_zero, List.set_cons_succ]
  refine inv_take (v := ?v7) [7, 8, 9, 11, 12] 6 hI rfl (by kernel_rfl) (by kernel_rfl) (by kernel_rfl) (by kernel_rfl) (by kernel_rfl) (fun _ _ _ h => h) (by kernel_rfl) (fun V hV => ?hy7) ?go7
  case hy7 => (obtain ⟨i1, i2, i3⟩ := hV; go_simp <;> rfl)
  simp only [Act.put, List.setIfInBounds_toArray, List.set_cons_zero, List.set_cons_succ]
  refine inv_take (v := ?v8) [8, 9, 11, 12] 7 hI rfl (by kernel_rfl) (by kernel_rfl) (by kernel_rfl) (by kernel_rfl) (by kernel_rfl) (fun _ _ _ h => h) (by kernel_rfl) (fun V hV => ?hy8) ?go8
  case hy8 => (obtain ⟨i1, i2, i3⟩ := hV; go_simp <;> rfl)
  simp only [Act.put, List.setIfInBounds_toArray, List.set_cons_zero, List.set_cons_succ]
  refine inv_take (v := ?v9) [11, 12] 8 hI rfl (by kernel_rfl) (by kernel_rfl) (by kernel_rfl) (by kernel_rfl) (by kernel_rfl) (fun _ _ _ h => h) (by kernel_rfl) (fun V hV => ?hy9) ?go9
  case hy9 => (obtain ⟨i1, i2, i3⟩ := hV; go_simp <;> rfl)
  simp only [Act.put, List.setIfInBounds_toArray, List.set_cons_zero, List.set_cons_succ]
  refine inv_take (v := ?v10) [12] 9 hI rfl (by kernel_rfl) (by kernel_rfl) (by kernel_rfl) (by kernel_rfl) (by kernel_rfl) (fun _ _ _ h => h) (by kernel_rfl) (fun V hV => ?hy10) ?go10
  case hy10 => (obtain ⟨i1, i2, i3⟩ := hV; go_simp <;> rfl)
  simp only [Act.put, List.setIfInBounds_toArray, List.set_cons_zero, List.set_cons_succ]
  refine inv_list 10 (by kernel_rfl) rfl ?_
  clear hI
  go_wp2_with fail
  have B2 : Below w.heap.size w (V0.alloc (.cells #[.int .i64 0, .int .i64 0, .int .i64 0, .int .i64 0, .bool false, .slice none 0 0] 35)) := ba B1
  have E2 := E1.next (ba (o := (.cells #[.int .i64 0, .int .i64 0, .int .i64 0, .int .i64 0, .bool false, .slice none 0 0] 35)) (Below.refl _ _))
  refine then_n ⟨⟨(H.out.below B2).c3, by simpa using E2.c2, HLK.out _ (H.out.ents.below B2)⟩, ?_⟩
  refine inv_list 11 (by kernel_rfl) rfl ?_
  go_wp2_with fail
  have B3 : Below w.heap.size w (V0.alloc (.cells #[.int .i64 y.f, .int .i64 y.b, .int .i64 y.n, .int .i64 y.u, .bool y.q, .slice ya yn yc] 35)) := ba B1
  have E3 := E1.next (ba (o := (.cells #[.int .i64 y.f, .int .i64 y.b, .int .i64 y.n, .int .i64 y.u, .bool y.q, .slice ya yn yc] 35)) (Below.refl _ _))
  refine then_n ⟨⟨(H.out.below B3).c3, by simpa using E3.c2, HLK.out _ (H.out.ents.below B3)⟩, ?_⟩
  refine inv_list 12 (by kernel_rfl) rfl ?_
  go_wp2_with fail
  refine then_n ⟨⟨(H.out.below B3).c3, by simpa using E3.c2, HLK.out _ (H.out.ents.below B3)⟩, ?_⟩
  refine inv_done (by kernel_rfl) ?_
  have EY := Eb.made' V0 y (.slice ya yn yc) (w.heap.size + 1) z1.symm
  have z3 : (V0.alloc (.cells #[.int .i64 y.f, .int .i64 y.b, .int .i64 y.n, .int .i64 y.u, .bool y.q, .slice ya yn yc] 35)).heap.size = w.heap.size + 2 := by simp [z1]
  clear B2 E2 E1 B1
  generalize V0.alloc (.cells #[.int .i64 y.f, .int .i64 y.b, .int .i64 y.n, .int .i64 y.u, .bool y.q, .slice ya yn yc] 35) = V1 at *
  clear z1
  obtain ⟨p0, p1, p2, p3, p4, p5⟩ := E3.lit
  obtain ⟨f0, f1, f2, f3, f4, f5⟩ := E3.lit'
  obtain rfl : ok = false := HO.out.symm.trans hh
  have hneg : ¬ x.n < 0 := by omega
  have ltw : w.heap.size < V1.heap.size := by omega
  clear hh EY
  go_upto_region 9 with (first
    | (go_at_call 42; refine (CC.use_any ((H.out.below B3).below b7) x.n HK.out HOL.out HL.out).mono ?_; rintro e w8 ⟨rfl, k8, p, hp1, hp2, C8⟩; have k3 := (E3.next b7); have kb8 := k3.keep k8 (fun hm => by have := H.out.old _ (.inl hm); omega); obtain ⟨r0, r1, r2, r3, r4, r5⟩ := kb8.lit; obtain ⟨s0, s1, s2, s3, s4, s5⟩ := kb8.lit')
    | (go_at_call 25; refine (CC.full_any (H.out.below B3) hx).mono ?_; rintro e w7 ⟨rfl, b7⟩; rw [HF.out]; obtain ⟨t0, t1, t2, t3, t4, t5⟩ := (E3.next b7).lit))
  have hs7 := b7.size
  have hs7' : w.heap.size + 2 ≤ w7.heap.size := by omega
  have K2 : Keep (fun j => j = w.heap.size) w8 (w8.setCell ⟨w.heap.size, 3, none⟩ (.int .i64 (k + 1))) := Keep.one _ _ _ _
  have CV := C8.keep K2 (fun j hj e => by
    subst e
    rcases hj with (hj | hj) | hj
    · have := H.out.old _ (.inl hj); omega
    · omega
    · have := H.out.old _ (.inr hj); omega)
  have KV : Keep M w (w8.setCell ⟨w.heap.size, 3, none⟩ (.int .i64 (k + 1))) := (((Keep.of_below (F := M) B3).next b7).trans k8 (fun j _ h => h)).trans (G := fun j => j = w.heap.size) K2 (fun j hj e => by omega)
  have EV := kb8.setU (k + 1)
  have zV : w.heap.size + 2 ≤ (w8.setCell ⟨w.heap.size, 3, none⟩ (.int .i64 (k + 1))).heap.size := by have := k8.size; simp; omega
  have hsV : Sl (w8.setCell ⟨w.heap.size, 3, none⟩ (.int .i64 (k + 1))) a n cap x.z := sl_far' hs (((Keep.of_below (F := M) B3).next b7).trans k8 (fun j _ h => h)) hsM (Nat.le_refl _) _ _
  change Eb _ w.heap.size 0 { x with u := k + 1 } (.slice a n cap) at EV
  clear p0 p1 p2 p3 p4 p5 f0 f1 f2 f3 f4 f5 r0 r1 r2 r3 r4 r5 s0 s1 s2 s3 s4 s5 t0 t1 t2 t3 t4 t5 kb8 k3 E3 z3 K2 B3 hs hsM ltw
  generalize w8.setCell ⟨w.heap.size, 3, none⟩ (.int .i64 (k + 1)) = V2 at *
  obtain ⟨MM, hMM⟩ : ∃ MM, MM = fun j => M j ∨ (w7.heap.size ≤ j ∧ j < w8.heap.size) := ⟨_, rfl⟩
  rw [← hMM] at CV
  have HMM : Hid (∀ j, MM j → M j ∨ w.heap.size + 2 ≤ j) := fun j hj => by rw [hMM] at hj; exact hj.imp id (fun h => by omega)
  clear hMM C8 k8 hs7 b7 hs7'
  obtain ⟨x2, hx2⟩ : ∃ x2 : En, x2 = { x with u := k + 1 } := ⟨_, rfl⟩
  have hx2n : x2.n = x.n := by rw [hx2]
  have hx2z : x2.z = x.z := by rw [hx2]
  rw [← hx2] at EV
  have HX3 : Hid _ := hx2
  have HX2 : Hid (x2.n = x.n ∧ x2.z = x.z) := ⟨hx2n, hx2z⟩
  rw [← hx2z] at hsV
  clear hx2 hx2n hx2z
  refine wp_region_orders 9 rfl (by kernel_rfl) ?_
  have Bd : Below V2.heap.size V2 V2.drew := (Below.refl _ _).drew
  have CV1 := CV.below Bd
  have KV1 := KV.next Bd
  have EV1 := EV.next Bd
  have zV1 : V2.drew.heap.size = w.heap.size + 2 ∨ w.heap.size + 2 ≤ V2.drew.heap.size := .inr (by have : V2.drew.heap.size = V2.heap.size := rfl; omega)
  have hsV1 := hsV.below Bd
  clear CV KV EV hsV Bd zV
  generalize V2.drew = V3 at *
  have zV : w.heap.size + 2 ≤ V3.heap.size := by omega
  clear zV1
  obtain ⟨p0, p1, p2, p3, p4, p5⟩ := EV1.lit
  have hI : (fun V : World => V.cell? ⟨g, 3, none⟩ = some (.map (some be)) ∧ V.cell? ⟨w.heap.size, 0, none⟩ = some (.int .i64 x2.f) ∧ V.cell? ⟨w.heap.size, 1, none⟩ = some (.int .i64 x2.b) ∧ V.cell? ⟨w.heap.size, 2, none⟩ = some (.int .i64 x2.n) ∧ V.cell? ⟨w.heap.size, 3, none⟩ = some (.int .i64 x2.u) ∧ V.cell? ⟨w.heap.size, 4, none⟩ = some (.bool x2.q) ∧ V.cell? ⟨w.heap.size, 5, none⟩ = some (.slice a n cap)) V3 := ⟨CV1.c3, p0, p1, p2, p3, p4, p5⟩
  clear p0 p1 p2 p3 p4 p5
  refine any_inv (fun V : World => V.cell? ⟨g, 3, none⟩ = some (.map (some be)) ∧ V.cell? ⟨w.heap.size, 0, none⟩ = some (.int .i64 x2.f) ∧ V.cell? ⟨w.heap.size, 1, none⟩ = some (.int .i64 x2.b) ∧ V.cell? ⟨w.heap.size, 2, none⟩ = some (.int .i64 x2.n) ∧ V.cell? ⟨w.heap.size, 3, none⟩ = some (.int .i64 x2.u) ∧ V.cell? ⟨w.heap.size, 4, none⟩ = some (.bool x2.q) ∧ V.cell? ⟨w.heap.size, 5, none⟩ = some (.slice a n cap)) [8] hI ?_
  refine inv_take (v := ?v18) [1, 2, 3, 8] 0 hI rfl (by kernel_rfl) (by kernel_rfl) (by kernel_rfl) (by kernel_rfl) (by kernel_rfl) (fun _ _ _ h => h) (by kernel_rfl) (fun V hV => ?hy18) ?go18
  case hy18 => (obtain ⟨i1, q0, q1, q2, q3, q4, q5⟩ := hV; go_simp <;> rfl)
  simp only [Act.put, List.setIfInBounds_toArray, List.set_cons_zero, List.set_cons_succ]
  refine inv_take (v := ?v19) [2, 3, 8] 1 hI rfl (by kernel_rfl) (by kernel_rfl) (by kernel_rfl) (by kernel_rfl) (by kernel_rfl) (fun _ _ _ h => h) (by kernel_rfl) (fun V hV => ?hy19) ?go19
  case hy19 => (obtain ⟨i1, q0, q1, q2, q3, q4, q5⟩ := hV; go_simp <;> rfl)
  simp only [Act.put, List.setIfInBounds_toArray, List.set_cons_zero, List.set_cons_succ]
  refine inv_take (v := ?v20) [3, 8] 2 hI rfl (by kernel_rfl) (by kernel_rfl) (by kernel_rfl) (by kernel_rfl) (by kernel_rfl) (fun _ _ _ h => h) (by kernel_rfl) (fun V hV => ?hy20) ?go20
  case hy20 => (obtain ⟨i1, q0, q1, q2, q3, q4, q5⟩ := hV; go_simp <;> rfl)
  simp only [Act.put, List.setIfInBounds_toArray, List.set_cons_zero, List.set_cons_succ]
  refine inv_take (v := ?v21) [8] 3 hI rfl (by kernel_rfl) (by kernel_rfl) (by kernel_rfl) (by kernel_rfl) (by kernel_rfl) (fun _ _ _ h => h) (by kernel_rfl) (fun V hV => ?hy21) ?go21
  case hy21 => (obtain ⟨i1, q0, q1, q2, q3, q4, q5⟩ := hV; go_simp <;> rfl)
  simp only [Act.put, List.setIfInBounds_toArray, List.set_cons_zero, List.set_cons_succ]
  refine inv_take (v := ?v22) [5, 8] 4 hI rfl (by kernel_rfl) (by kernel_rfl) (by kernel_rfl) (by kernel_rfl) (by kernel_rfl) (fun _ _ _ h => h) (by kernel_rfl) (fun V hV => ?hy22) ?go22
  case hy22 => (obtain ⟨i1, q0, q1, q2, q3, q4, q5⟩ := hV; go_simp <;> rfl)
  simp only [Act.put, List.setIfInBounds_toArray, List.set_cons_zero, List.set_cons_succ]
  refine inv_take (v := ?v23) [8] 5 hI rfl (by kernel_rfl) (by kernel_rfl) (by kernel_rfl) (by kernel_rfl) (by kernel_rfl) (fun _ _ _ h => h) (by kernel_rfl) (fun V hV => ?hy23) ?go23
  case hy23 => (obtain ⟨i1, q0, q1, q2, q3, q4, q5⟩ := hV; go_simp <;> rfl)
  simp only [Act.put, List.setIfInBounds_toArray, List.set_cons_zero, List.set_cons_succ]
  refine inv_take (v := ?v24) [7, 8] 6 hI rfl (by kernel_rfl) (by kernel_rfl) (by kernel_rfl) (by kernel_rfl) (by kernel_rfl) (fun _ _ _ h => h) (by kernel_rfl) (fun V hV => ?hy24) ?go24
  case hy24 => (obtain ⟨i1, q0, q1, q2, q3, q4, q5⟩ := hV; go_simp <;> rfl)
  simp only [Act.put, List.setIfInBounds_toArray, List.set_cons_zero, List.set_cons_succ]
  refine inv_list 7 (by kernel_rfl) rfl ?_
  clear hI
  go_wp2_with (go_at_call 43; refine (clone_any x2 a n cap _ hsV1 hb).mono ?_; rintro e w7 ⟨a7, c7, rfl, own7, b7⟩)
  obtain ⟨p0, p1, p2, p3, p4, p5⟩ := (EV1.next b7).lit
  refine then_n ⟨⟨(CV1.below b7).c3, p0, p1, p2, p3, p4, p5⟩, ?_⟩
  clear p0 p1 p2 p3 p4 p5
  obtain ⟨D', hD'⟩ : ∃ D' : Nat → Prop, D' = fun j => D j ∨ (V3.heap.size ≤ j ∧ j < w7.heap.size) := ⟨_, rfl⟩
  have hl7 := hsV1.len
  obtain ⟨w9, hrun9, CN, K9, s9⟩ := (CV1.below b7).store (D' := D') (x := x2) (d := .slice a7 n c7) hR ⟨HX2.out.1 ▸ hx, HX2.out.1 ▸ hpos⟩ ((datz_own own7 (by omega)).imp (fun j hj h => by rw [hD']; exact .inr ⟨by omega, hj⟩)) (fun j hj => by rw [hD']; exact .inl hj) (fun j hj => by
    rw [hD'] at hj
    have hz := b7.size
    rcases hj with hj | hj
    · exact ⟨by have := CV1.old j (.inr hj); omega, fun hm => CV1.dj j hm hj⟩
    · exact ⟨hj.2, fun hm => by have := CV1.old j (.inl hm); omega⟩)
  have KN : Keep M w w9 := (KV1.next b7).trans K9 (fun j _ e => by
    subst e
    exact (HMM.out j CV1.mg.2.1).elim id (fun hj => by have := HBE.out; omega))
  have hDN : ∀ j, D' j → D j ∨ w.heap.size ≤ j := fun j hj => by
    rw [hD'] at hj
    exact hj.imp id (fun h => by omega)
  refine inv_write 8 (by kernel_rfl) (by kernel_rfl) rfl ?_
  clear own7 b7 K9 s9 CV1 KV1 EV1 hsV1 zV hl7 hD'
  go_wp2_with fail
  refine then_n ?_
  refine any_done (by kernel_rfl) ?_
  clear hrun9
  go_wp2_with fail
  go_ret
  rw [HX3.out] at CN
  exact ⟨rfl, KN, MM, D', _, p, fun j hj => (HMM.out j hj).imp id (fun h => by omega), hDN, hp1, hp2, CN⟩
end
end Go.Proofs.Ytfobgkkmbacfjaa
