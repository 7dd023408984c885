/- Draws: a path. -/
import Derived.Test.YtpfnamiacagocaaGA
import Derived.Test.YtpfnamiacagocaaZ5
namespace Go.Proofs.Ytpfnamiacagocaa
open Go.RowKit
set_option linter.unusedSimpArgs false
set_option linter.unusedVariables false

set_option maxRecDepth 100000 in
set_option maxHeartbeats 1000000 in
theorem l1Most_any (x y : Int) (w : World) : Calls Try.prog 86 #[.int .i64 x, .int .i64 y] w fun e w' => ∃ z, e = .returned (.int .i64 z) ∧ x ≤ z ∧ (z ≤ x ∨ z ≤ y) ∧ w = w' := by
  by_cases h : y < x
  · go_enter Try.func86, Try.ntmps86
    go_wp2
    go_ret
    exact ⟨_, rfl, Int.le_refl _, .inl (Int.le_refl _), rfl⟩
  · go_enter Try.func86, Try.ntmps86
    go_wp2
    go_ret
    exact ⟨_, rfl, by omega, .inr (Int.le_refl _), rfl⟩
theorem ints_snoc (xs : List Int) (x : Int) : ints xs ++ [.int .i64 x] = ints (xs ++ [x]) := by simp [ints]
theorem small10d {L : List (List Nat)} (h : ∀ l ∈ L, l.length ≤ 10) : Small L := fun l hl => by
  have := h l hl
  unfold maxLen
  omega

/-- a path is drawn, a new list -/
def DrawnP (w : World) (e : Ending) (w' : World) : Prop :=
  ∃ (v : Value) (xs : List Int), e = .returned v ∧ xs.length ≤ 1000 ∧ New w.heap.size w' 3 v (ints xs) ∧ Below w.heap.size w w'

set_option maxRecDepth 100000 in
set_option maxHeartbeats 1000000 in
theorem DrawDodgesIn_any (a : Option Addr) (len cap : Nat) (zs : List Int) (w : World) (hz : IsBytes w a len cap zs) (hl : len ≤ 1048576) :
    Calls Try.prog 37 #[.slice a len cap] w (DrawnP w) := by
  have hcode := codeAt_of hz
  have HCUR := Lib.hid (cur_new a len cap w hcode hl)
  obtain ⟨i0, hi0, hz0, hz1, hz2⟩ := info_parts infoInt
  have I0 := Lib.hid (⟨hi0, hz0, hz1, hz2⟩ : _ ∧ _ ∧ _ ∧ _)
  clear hz hcode hi0 hz0 hz1 hz2
  obtain ⟨W0, hW0⟩ : ∃ W0, w.alloc (.cells #[.slice a len cap, .int .i64 0, .int .u64 0] 90) = W0 := ⟨_, rfl⟩
  have HBW : Hid (∀ W', Only w.heap.size W0 W' → Below w.heap.size w W') := Lib.hid (fun W' h => by rw [← hW0] at h; exact cur_below h)
  have HSZ : Hid (W0.heap.size = w.heap.size + 1) := Lib.hid (by rw [← hW0]; simp)
  rw [hW0] at HCUR
  have HC0 := Lib.hid HCUR.out
  have hwb : w.heap.size + 1 ≤ W0.heap.size := by have := HSZ.out; omega
  go_enter Try.func37, Try.ntmps37
  go_wp2_with fail
  refine (one_any w.heap.size a len cap 0 2 (by omega) (by omega) (by omega) _ HC0.out).mono ?_
  rintro e w1 ⟨b1, rfl, hc1, ho1⟩
  have HD1 := Lib.hid ((Dr.start HC0.out).call hc1 ho1)
  clear hc1 ho1 HCUR
  cases b1
  · go_wp2_with fail
    refine (pick_any w.heap.size a len cap _ 5 (by omega) (by omega) (by omega) _ HD1.out.cur).mono ?_
    rintro e w2 ⟨x2, hx2, rfl, hc2, ho2⟩
    have HD2 := Lib.hid (HD1.out.call hc2 ho2)
    clear hc2 ho2
    go_wp2_with fail
    refine (pick_any w.heap.size a len cap _ 12 (by omega) (by omega) (by omega) _ HD2.out.cur).mono ?_
    rintro e w3 ⟨y3, hy3, rfl, hc3, ho3⟩
    have HD3 := Lib.hid (HD2.out.call hc3 ho3)
    clear hc3 ho3
    have HD3' := Lib.hid (HD3.out.more (m' := 100) (by omega))
    have hwb9 : w.heap.size < W0.heap.size := by omega
    have hxx : (x2 : Int) < 5 := by omega
    clear HD1 HD2 HD3
    go_wp2
    go_loopg [6, 7, 8] y3 (fun q ov px nx wr => ∃ (xs : List Int) (p : Int), nx = .int .i64 (q : Nat) ∧ px = .int .i64 p ∧ q + xs.length = y3 ∧ 1 ≤ p ∧ p ≤ 5 + 2 * (xs.length : Int) ∧ New W0.heap.size wr 3 ov (ints xs) ∧ Dr w.heap.size a len cap (100 + 2 * xs.length) W0 wr)
    case atStart => exact ⟨[], 1 + x2, rfl, by go_num, by simp, by omega, by simp; omega, New.nil _ _ _, HD3'.out⟩
    case round =>
      clear HD3'
      obtain ⟨xs, p, rfl, rfl, hq, hp1, hp2, hn, hd⟩ := hrel
      have HN := Lib.hid hn
      have HD := Lib.hid hd
      have hws := hd.only.size
      obtain ⟨a9, c9, hv9, ha9⟩ := hn.own.viewI rfl
      subst hv9
      clear hn hd
      by_cases hgk : gk = 0
      · subst hgk
        have hl12 : (xs.length : Int) ≤ 12 := by omega
        have h0 : ¬ ((0 : Int) < ((0 : Nat) : Int)) := by omega
        by_cases hlen : xs.length = 0
        · have hlz : ¬ ((0 : Int) < (xs.length : Int)) := by omega
          have HX := Lib.hid hlen
          clear hlen
          go_wp2
          go_ret
          exact ⟨.slice a9 xs.length c9, xs, rfl, by omega, HN.out.lower (B' := w.heap.size) (by omega), HBW.out _ HD.out.only⟩
        · have hlz : (0 : Int) < (xs.length : Int) := by omega
          obtain ⟨g9, rfl⟩ := ha9 (by omega)
          have HO := Lib.hid (fun w' hc => one_any w.heap.size a len cap (100 + 2 * xs.length) 12 (by omega) (by omega) (by omega) w' hc)
          unfold SomeBool at HO
          have hcc := HD.out.cur
          go_wp2_with (first | (go_at_call 85; refine (HO.out _ hcc).mono ?_; rintro e w8 ⟨b8, rfl, hc8, ho8⟩; cases b8) | fail)
          · have HD8 := Lib.hid (HD.out.call hc8 ho8)
            have HN8 := Lib.hid (HN.out.only ho8 hwb9)
            go_ret
            exact ⟨.slice (some ⟨g9, 0, none⟩) xs.length c9, xs, rfl, by omega, HN8.out.lower (B' := w.heap.size) (by omega), HBW.out _ HD8.out.only⟩
          · have HD8 := Lib.hid (HD.out.call hc8 ho8)
            have HN8 := Lib.hid (HN.out.only ho8 hwb9)
            clear hc8 ho8 hcc
            refine (among_any (fun _ => True) w.heap.size a len cap _ 3 w8.heap.size 3 (fun i => [0, 9, 8].getD i 0) (by omega) (by omega) (by omega) _ (HD8.out.cur.below ((Below.refl _ _).alloc (Nat.le_refl _) _)) (by have := HD8.out.cur.lt; omega) (fun i hi => ⟨trivial, ?_⟩)).mono ?_
            · have := list_cells w8 [0, 9, 8] 3 i hi
              simpa using this
            rintro e w9 ⟨x9, -, rfl, hc9, ho9⟩
            have ho9' := (Only.of_below (b := w.heap.size) ((Below.refl w8.heap.size w8).alloc (Nat.le_refl _) (.cells #[.int .i64 0, .int .i64 9, .int .i64 8] 3))).trans ho9
            have HD9 := Lib.hid (HD8.out.call hc9 ho9')
            have HN9 := Lib.hid (HN8.out.only ho9' hwb9)
            clear hc9 ho9 ho9' HD8 HN8
            obtain ⟨x0, t0, hxt⟩ : ∃ x0 t0, xs = x0 :: t0 := by
              cases xs with
              | nil => exact absurd rfl hlen
              | cons x0 t0 => exact ⟨x0, t0, rfl⟩
            have c5 := HN9.out.own.cell 0 (.int .i64 x0) (by rw [hxt]; simp [ints])
            have f5 := HN9.out.own.free 0
            have HNF : Hid (New W0.heap.size (w9.setCell ⟨g9, 0, none⟩ (.int .i64 x9)) 3 (.slice (some ⟨g9, 0, none⟩) xs.length c9) (ints (x9 :: t0))) := Lib.hid (by
              have := HN9.out.own.set 0 (.int .i64 x9)
              rw [show (ints xs).set 0 (.int .i64 x9) = ints (x9 :: t0) from by rw [hxt]; simp [ints]] at this
              exact ⟨this, HN9.out.base⟩)
            have HBF : Hid (Below w.heap.size w (w9.setCell ⟨g9, 0, none⟩ (.int .i64 x9))) := Lib.hid ((HBW.out _ HD9.out.only).setCell (p := ⟨g9, 0, none⟩) (by have := HN9.out.base g9 rfl; show w.heap.size ≤ g9; omega) _)
            have HLL : Hid ((x9 :: t0).length ≤ 1000) := Lib.hid (by have : xs.length = (x9 :: t0).length := by rw [hxt]; simp
                                                                     omega)
            clear hxt HN9 HD9
            go_wp2
            go_ret
            exact ⟨.slice (some ⟨g9, 0, none⟩) xs.length c9, x9 :: t0, rfl, HLL.out, HNF.out.lower (B' := w.heap.size) (by omega), HBF.out⟩
      · obtain ⟨q', rfl⟩ : ∃ q', gk = q' + 1 := ⟨gk - 1, by omega⟩
        have hq0 : (0 : Int) < ((q' + 1 : Nat) : Int) := by omega
        have hq9 : ((q' + 1 : Nat) : Int) ≤ 12 := by omega
        have hlx : (ints xs).length ≤ 100000 := by rw [ints_len]; omega
        have hp3 : p ≤ 29 := by omega
        go_wp2_with (first | (at_builtin; refine wpList_app1 rfl (.tmp 33) (.tmp 35) 39 rfl 3 i0 (.int .i64 0) 8 Try.underlying39 I0.out.1 I0.out.2.1 I0.out.2.2.1 I0.out.2.2.2 rfl W0.heap.size wr _ _ rfl HN.out rfl rfl hws (Below.refl _ _) hlx (by omega) ?_) | fail)
        intro v8 w8 hn8 hk8 hb8 hs8
        rw [ints_snoc] at hn8
        have HD8 := Lib.hid (HD.out.below HC0.out hb8)
        have HN8 := Lib.hid hn8
        clear hn8 hk8 hb8 HN HD
        go_wp2_with fail
        refine (pick_any w.heap.size a len cap _ 3 (by omega) (by omega) (by omega) _ HD8.out.cur).mono ?_
        rintro e w9 ⟨x9, hx9, rfl, hc9, ho9⟩
        have HD9 := Lib.hid (HD8.out.call hc9 ho9)
        have HN9 := Lib.hid (HN8.out.only ho9 hwb9)
        clear hc9 ho9
        have hx9i : (x9 : Int) < 3 := by omega
        go_wp2_with fail
        refine (l1Most_any _ _ _).mono ?_
        rintro e w10 ⟨z, rfl, hz1, hz2, rfl⟩
        go_wp2
        go_roundg q'
        case measure => omega
        case rel => exact ⟨xs ++ [p], z, by go_num, rfl, by simp; omega, hz1, by simp; omega, HN9.out, HD9.out.more (by simp; omega)⟩
  · go_wp2_with fail
    refine (method_draw w.heap.size a len cap _ (by omega) _ HD1.out.cur).mono ?_
    rintro e w2 ⟨s, n, v, L, rfl, hsz, hn3, hn6, hn, hL, hs, hd⟩
    have HD2 := Lib.hid (HD1.out.call hd.cur hd.only)
    have HN2 := Lib.hid hn
    have HS := Lib.hid (small10d hs)
    have hs1 : w.heap.size + 1 ≤ w1.heap.size := Nat.le_trans hwb HD1.out.only.size
    clear hn hs hd
    go_wp2_with fail
    refine (pick_any w.heap.size a len cap _ 4 (by omega) (by omega) (by omega) _ HD2.out.cur).mono ?_
    rintro e w3 ⟨y3, hy3, rfl, hc3, ho3⟩
    have HD3 := Lib.hid (HD2.out.call hc3 ho3)
    have HN3 := Lib.hid (HN2.out.only ho3 (by omega))
    clear hc3 ho3
    obtain ⟨kk, hkk⟩ : ∃ k : Int, IntKind.i64.wrap (1 + (y3 : Int)) = k := ⟨_, rfl⟩
    have HCP := Lib.hid (fun b => sCoursePath_any s (by unfold maxLen; omega) n v L b _ HN3.out.own.txts (by omega) HS.out)
    have HPL := Lib.hid (fun b => courseL_len s n L b)
    obtain ⟨av, cv, hv, -⟩ := HN3.out.own.view
    subst hv
    unfold NumsAny at HCP
    go_wp2_with fail
    refine (HCP.out _).mono ?_
    rintro e w4 ⟨v4, rfl, hn4, hb4⟩
    have HB4 := Lib.hid ((HBW.out _ HD3.out.only).trans (hb4.mono (by have := HD3.out.only.size; omega)))
    have HN4 := Lib.hid (hn4.lower (B' := w.heap.size) (by have := HD3.out.only.size; omega))
    clear hn4 hb4
    go_wp2
    go_ret
    exact ⟨_, _, rfl, (by rw [List.length_map]; exact HPL.out _), HN4.out, HB4.out⟩
end Go.Proofs.Ytpfnamiacagocaa
