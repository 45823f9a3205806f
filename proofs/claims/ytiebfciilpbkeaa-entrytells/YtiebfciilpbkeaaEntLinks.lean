/- The walk of EntryLinks: it answers true and writes nothing that was there. No condition but that the argument is one that can come in. -/
import Derived.Test.YtiebfciilpbkeaaEntWk
namespace Go.Proofs.Ytiebfciilpbkeaa
open Go.RowKit
set_option linter.unusedVariables false
set_option maxRecDepth 20000

/-- A variable of two links in memory. -/
structure Lk (W : World) (g : Nat) (f b : Int) : Prop where
  c0 : W.cell? ⟨g, 0, none⟩ = some (.int .i64 f)
  c1 : W.cell? ⟨g, 1, none⟩ = some (.int .i64 b)
  f0 : W.frozen? ⟨g, 0, none⟩ = false
  f1 : W.frozen? ⟨g, 1, none⟩ = false
  lt : g < W.heap.size
theorem Lk.next {W W' : World} {g : Nat} {f b : Int} (h : Lk W g f b) (hb : Below W.heap.size W W') : Lk W' g f b :=
  ⟨(hb.cell (p := ⟨g, 0, none⟩) h.lt).trans h.c0, (hb.cell (p := ⟨g, 1, none⟩) h.lt).trans h.c1, (hb.frozen (p := ⟨g, 0, none⟩) h.lt).trans h.f0, (hb.frozen (p := ⟨g, 1, none⟩) h.lt).trans h.f1, Nat.lt_of_lt_of_le h.lt hb.size⟩
theorem Lk.setF {W : World} {g : Nat} {f b : Int} (h : Lk W g f b) (v : Int) : Lk (W.setCell ⟨g, 0, none⟩ (.int .i64 v)) g v b := by
  obtain ⟨c0, c1, f0, f1, lt⟩ := h
  constructor <;> go_simp
theorem Lk.setB {W : World} {g : Nat} {f b : Int} (h : Lk W g f b) (v : Int) : Lk (W.setCell ⟨g, 1, none⟩ (.int .i64 v)) g f v := by
  obtain ⟨c0, c1, f0, f1, lt⟩ := h
  constructor <;> go_simp
theorem head_b {b : Int} {v : Bool} (h : decide (b = -1) = v) (f : Int) (w : World) : Calls Try.prog 19 #[.agg #[.int .i64 f, .int .i64 b]] w fun e w' => e = .returned (.bool v) ∧ Below w.heap.size w w' := h ▸ head_any f b w
theorem tail_b {f : Int} {v : Bool} (h : decide (f = -1) = v) (b : Int) (w : World) : Calls Try.prog 18 #[.agg #[.int .i64 f, .int .i64 b]] w fun e w' => e = .returned (.bool v) ∧ Below w.heap.size w w' := h ▸ tail_any f b w
theorem only_b {f b : Int} {v : Bool} (h : decide (b = -1 ∧ f = -1) = v) (w : World) : Calls Try.prog 20 #[.agg #[.int .i64 f, .int .i64 b]] w fun e w' => e = .returned (.bool v) ∧ Below w.heap.size w w' := h ▸ only_any f b w
set_option maxHeartbeats 1000000 in
theorem entryLinks_walk (a : Option Addr) (n cap : Nat) (l : List Int) (w : World) (hsl : Sl w a n cap l) :
    Calls Try.prog 6 #[.slice a n cap] w fun e w' => e = .returned (.bool true) ∧ Below w.heap.size w w' := by
  have hle := hsl.le
  have hmx := hsl.max
  unfold maxLen at hmx
  obtain ⟨g, hg⟩ : ∃ g, w.heap.size = g := ⟨_, rfl⟩
  go_enter Try.func6, Try.ntmps6
  go_upto_region 4 with fail
  go_loopw [4, 5, 6] (fun vf vb vi wr => ∃ (f b : Int) (k : Nat), vf = .int .i64 f ∧ vb = .int .i64 b ∧ vi = .int .i64 (k : Int) ∧ k ≤ n ∧ k ≤ 12 ∧ Lk wr g f b ∧ Below g w wr) (fun _ _ vi _ => n - (intOf vi).toNat)
  case atStart => exact ⟨-1, -1, 0, rfl, rfl, rfl, by omega, by omega, by subst hg; constructor <;> simp, by subst hg; exact ba (Below.refl _ _)⟩
  case round =>
    obtain ⟨f, b, k, rfl, rfl, rfl, hk, hk12, hlk, hB⟩ := hrel
    have hgz : g ≤ wr.heap.size := by rw [← hg]; exact hB.size
    by_cases hlt : k < n
    · by_cases h12 : k < 12
      · obtain ⟨bb, oo, rfl, hblt, hcc⟩ := hsl.at hlt
        obtain ⟨y, hy⟩ : ∃ y, y = l[k]?.getD 0 := ⟨_, rfl⟩
        rw [← hy] at hcc
        clear hy
        have hcr : wr.cell? ⟨bb, oo + k, none⟩ = some (.int .i64 y) := by rw [hB.cell (p := ⟨bb, oo + k, none⟩) (by rw [← hg]; exact hblt)]; exact hcc
        have hneq : bb ≠ g := by omega
        obtain ⟨c0, c1, f0, f1, lt⟩ := hlk
        have hlk : Lk wr g f b := ⟨c0, c1, f0, f1, lt⟩
        clear hcc
        obtain ⟨m, hm, m0, m1⟩ : ∃ m, wrap64 (y.tdiv 2) % 7 = m ∧ 0 ≤ m ∧ m < 7 := ⟨_, rfl, by omega, by omega⟩
        have hki : (k : Int) < 12 := by omega
        go_upto_if 31 with (go_at_call 9; refine (within_any _ _ _ (by omega) (by omega)).mono ?_; rintro e wx ⟨rfl, rfl⟩; rw [hm])
        go_cut [4, 5, 31] (fun v4 v5 v6 wx => ∃ f' b', v4 = .int .i64 f' ∧ v5 = .int .i64 b' ∧ (v6 = .bool true ∨ v6 = .bool false) ∧ Lk wx g f' b' ∧ Below g w wx)
        case first =>
          by_cases hev : y.tmod 2 = 0
          · go_wp2_with (go_at_call 15; refine (setFwd_any g 0 (m - 1) _ (by rw [c0]; rfl) f0).mono ?_; rintro e wx ⟨rfl, rfl⟩)
            go_meet
            case rel => exact ⟨_, _, rfl, rfl, .inl rfl, hlk.setF _, hB.setCell (p := ⟨g, 0, none⟩) (Nat.le_refl _) _⟩
          · go_wp2_with (go_at_call 16; refine (setBack_any g 0 (m - 1) _ (by rw [c1]; rfl) f1).mono ?_; rintro e wx ⟨rfl, rfl⟩)
            go_meet
            case rel => exact ⟨_, _, rfl, rfl, .inr rfl, hlk.setB _, hB.setCell (p := ⟨g, 1, none⟩) (Nat.le_refl _) _⟩
        case rest =>
          obtain ⟨N, b', rfl, rfl, _, lk2, B2⟩ := hcut
          clear hlk hcr c0 c1 f0 f1 lt hm m0 m1 hB
          obtain ⟨c0, c1, f0, f1, lt⟩ := lk2
          have lk2 : Lk wc g N b' := ⟨c0, c1, f0, f1, lt⟩
          obtain ⟨vt, hvt⟩ : ∃ v, decide (N = -1) = v := ⟨_, rfl⟩
          go_upto_region 12 with fail
          have uc := @Up.cell
          have hd : (!vt == (N == -1)) = false := by rw [← hvt]; cases h : decide (N = -1) <;> simp_all
          by_cases hh : b' = -1
          · subst hh
            have hvh : decide ((-1 : Int) = -1) = true := rfl
            have hvo : decide ((-1 : Int) = -1 ∧ N = -1) = vt := by rw [← hvt]; simp
            refine wp_region_up (by kernel_rfl) (by kernel_rfl) ?_
            repeat (go_big_quiet_step (first | (go_at_call 20; exact Calls.up_of (only_b hvo _)) | (go_at_call 19; exact Calls.up_of (head_b hvh _ _)) | (go_at_call 18; exact Calls.up_of (tail_b hvt _ _))))
            refine wpQuiet_nil ?_
            rintro _ ⟨u, rfl⟩
            have hbu := u.2
            have lk3 := lk2.next hbu
            have B3 := B2.trans (hbu.mono (by have := B2.size; omega))
            generalize u.1 = wu at *
            clear u uc
            go_wp2_with fail
            go_roundw
            case rel => exact ⟨_, _, k + 1, rfl, rfl, by go_num, by omega, by omega, lk3, B3⟩
            case measure => simp [intOf]; omega
          · have hvh : decide (b' = -1) = false := decide_eq_false hh
            have hd2 : (b' == -1) = false := by simpa using hh
            have hvo : decide (b' = -1 ∧ N = -1) = false := decide_eq_false (fun h => hh h.1)
            refine wp_region_up (by kernel_rfl) (by kernel_rfl) ?_
            repeat (go_big_quiet_step (first | (go_at_call 20; exact Calls.up_of (only_b hvo _)) | (go_at_call 19; exact Calls.up_of (head_b hvh _ _)) | (go_at_call 18; exact Calls.up_of (tail_b hvt _ _))))
            refine wpQuiet_nil ?_
            rintro _ ⟨u, rfl⟩
            have hbu := u.2
            have lk3 := lk2.next hbu
            have B3 := B2.trans (hbu.mono (by have := B2.size; omega))
            generalize u.1 = wu at *
            clear u uc
            go_wp2_with fail
            go_roundw
            case rel => exact ⟨_, _, k + 1, rfl, rfl, by go_num, by omega, by omega, lk3, B3⟩
            case measure => simp [intOf]; omega
      · have hki : ¬ (k : Int) < 12 := by omega
        go_wp2_with (go_at_call 13; refine (ewakes_any _).mono ?_; rintro e w3 ⟨rfl, hb3⟩)
        go_ret
        exact ⟨rfl, by rw [hg]; exact hB.trans (hb3.mono hgz)⟩
    · go_wp2_with (go_at_call 13; refine (ewakes_any _).mono ?_; rintro e w3 ⟨rfl, hb3⟩)
      go_ret
      exact ⟨rfl, by rw [hg]; exact hB.trans (hb3.mono hgz)⟩
end Go.Proofs.Ytiebfciilpbkeaa
