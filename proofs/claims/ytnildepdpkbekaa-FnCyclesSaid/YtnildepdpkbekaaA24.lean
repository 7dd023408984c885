/- What the model draws: some texts, some numbers. -/
import Derived.Test.YtnildepdpkbekaaA23
namespace Go.Proofs.Ytnildepdpkbekaa
open Go.RowKit
set_option linter.unusedSimpArgs false

def SomeBool (b : Nat) (a : Option Addr) (len cap m : Nat) (w : World) (e : Ending) (w' : World) : Prop :=
  ∃ t : Bool, e = .returned (.bool t) ∧ Cur w' b a len cap m ∧ Only b w w'
/-- a number that meets P is returned, and the cursor goes on -/
def SomeInt (P : Int → Prop) (b : Nat) (a : Option Addr) (len cap m : Nat) (w : World) (e : Ending) (w' : World) : Prop :=
  ∃ x : Int, P x ∧ e = .returned (.int .i64 x) ∧ Cur w' b a len cap m ∧ Only b w w'
/-- a text of no more than n bytes is returned, and the cursor goes on -/
def SomeText (n : Nat) (b : Nat) (a : Option Addr) (len cap m : Nat) (w : World) (e : Ending) (w' : World) : Prop :=
  ∃ s : ByteArray, s.size ≤ n ∧ e = .returned (.string s) ∧ Cur w' b a len cap m ∧ Only b w w'

set_option maxRecDepth 100000 in
set_option maxHeartbeats 1000000 in
theorem one_any (b : Nat) (a : Option Addr) (len cap m n : Nat) (hm : m ≤ 900000) (hn : 1 ≤ n) (hn2 : n ≤ 65536) (w : World) (hc : Cur w b a len cap m) :
    Calls Try.prog 64 #[.pointer (some ⟨b, 0, none⟩), .int .i64 n] w (SomeBool b a len cap (m + 2) w) := by
  have HC := Lib.hid hc
  clear hc
  go_enter Try.func64, Try.ntmps64
  go_wp2_with fail
  refine (pick_any b a len cap m n hm hn hn2 _ HC.out).mono ?_
  rintro e w1 ⟨x, hx, rfl, hc1, ho1⟩
  have HC1 := Lib.hid hc1
  have HO1 := Lib.hid ho1
  clear hc1 ho1
  go_wp2
  go_ret
  exact ⟨_, rfl, HC1.out, HO1.out⟩

set_option maxRecDepth 100000 in
set_option maxHeartbeats 1000000 in
theorem among_any (P : Int → Prop) (b : Nat) (a : Option Addr) (len cap m n lb lcap : Nat) (L : Nat → Int) (hm : m ≤ 900000) (hn : 1 ≤ n) (hn2 : n ≤ 65536) (w : World) (hc : Cur w b a len cap m) (hne : lb ≠ b)
    (hL : ∀ i, i < n → P (L i) ∧ w.cell? ⟨lb, i, none⟩ = some (.int .i64 (L i))) :
    Calls Try.prog 85 #[.pointer (some ⟨b, 0, none⟩), .slice (some ⟨lb, 0, none⟩) n lcap] w (SomeInt P b a len cap (m + 2) w) := by
  have HC := Lib.hid hc
  have HL := Lib.hid hL
  clear hc hL
  go_enter Try.func85, Try.ntmps85
  go_wp2_with fail
  refine (pick_any b a len cap m n hm hn hn2 _ HC.out).mono ?_
  rintro e w1 ⟨x, hx, rfl, hc1, ho1⟩
  have HC1 := Lib.hid hc1
  have HO1 := Lib.hid ho1
  have c1 : w1.cell? ⟨lb, x, none⟩ = some (.int .i64 (L x)) := by
    have hlt := block_lt_of_cell (HL.out x hx).2
    rw [World.cell?_of_block (w := w) (ho1.block lb hlt hne)]
    exact (HL.out x hx).2
  have hxi : (x : Int) < n := by omega
  clear hc1 ho1
  go_wp2
  go_ret
  exact ⟨L x, (HL.out x hx).1, rfl, HC1.out, HO1.out⟩

theorem list_cells (W : World) (l : List Int) (T : TypeId) (i : Nat) (hi : i < l.length) : (W.alloc (.cells (l.map (Value.int .i64)).toArray T)).cell? ⟨W.heap.size, i, none⟩ = some (.int .i64 (l.getD i 0)) := by
  rw [World.cell?_alloc_at _ _ _ _ rfl]
  simp [hi]
theorem Cur.lt {W : World} {b : Nat} {a : Option Addr} {len cap m : Nat} (H : Cur W b a len cap m) : b < W.heap.size := by
  obtain ⟨_, _, p, s, _, h⟩ := H
  exact h.lt

set_option maxRecDepth 100000 in
set_option maxHeartbeats 1000000 in
theorem stage_draw (b : Nat) (a : Option Addr) (len cap m : Nat) (hm : m ≤ 900000) (w : World) (hc : Cur w b a len cap m) :
    Calls Try.prog 54 #[.pointer (some ⟨b, 0, none⟩)] w (SomeInt (fun n => 3 ≤ n ∧ n ≤ 8) b a len cap (m + 2) w) := by
  have HC := Lib.hid hc
  clear hc
  go_enter Try.func54, Try.ntmps54
  have hlt := HC.out.lt
  go_wp2_with fail
  refine (among_any (fun n => 3 ≤ n ∧ n ≤ 8) b a len cap m 9 w.heap.size 9 (fun i => [4, 4, 5, 5, 6, 6, 3, 7, 8].getD i 0) hm (by omega) (by omega) _ (HC.out.below ((Below.refl _ _).alloc (Nat.le_refl _) _)) (by omega) (fun i hi => ⟨?_, list_cells w [4, 4, 5, 5, 6, 6, 3, 7, 8] _ i hi⟩)).mono ?_
  · have : i = 0 ∨ i = 1 ∨ i = 2 ∨ i = 3 ∨ i = 4 ∨ i = 5 ∨ i = 6 ∨ i = 7 ∨ i = 8 := by omega
    rcases this with rfl | rfl | rfl | rfl | rfl | rfl | rfl | rfl | rfl <;> decide
  rintro e w1 ⟨x, hx, rfl, hc1, ho1⟩
  have HC1 := Lib.hid hc1
  have HO1 := Lib.hid (Only.trans (Only.of_below (b := b) ((Below.refl w.heap.size w).alloc (Nat.le_refl _) _)) ho1)
  have HX := Lib.hid hx
  clear hc1 ho1 hx
  go_wp2
  go_ret
  exact ⟨x, HX.out, rfl, HC1.out, HO1.out⟩

set_option maxRecDepth 100000 in
set_option maxHeartbeats 1000000 in
theorem row_draw (b : Nat) (a : Option Addr) (len cap m n : Nat) (hm : m ≤ 900000) (h3 : 3 ≤ n) (h8 : n ≤ 8) (w : World) (hc : Cur w b a len cap m) :
    Calls Try.prog 87 #[.pointer (some ⟨b, 0, none⟩), .int .i64 n] w (SomeText 8 b a len cap (m + 2) w) := by
  have HC := Lib.hid hc
  have hf := fact_le h8
  have hfp := fact_pos n
  clear hc
  go_enter Try.func87, Try.ntmps87
  go_wp2_with fail
  refine (l1Fact_any n h8 _).mono ?_
  rintro e w' ⟨rfl, rfl⟩
  go_wp2_with fail
  refine (pick_any b a len cap m (fact n) hm hfp (by omega) _ HC.out).mono ?_
  rintro e w1 ⟨x, hx, rfl, hc1, ho1⟩
  have HC1 := Lib.hid hc1
  have HO1 := Lib.hid ho1
  clear hc1 ho1
  go_wp2_with fail
  refine (sRowOf_yes n x h3 h8 hx _).mono ?_
  rintro e w2 ⟨rfl, hb2⟩
  have HC2 := Lib.hid (HC1.out.below hb2)
  have HO2 := Lib.hid (HO1.out.trans (Only.of_below hb2))
  clear hb2
  go_wp2
  go_ret
  exact ⟨_, by rw [strOf_size]; exact h8, rfl, HC2.out, HO2.out⟩

set_option maxRecDepth 100000 in
set_option maxHeartbeats 1000000 in
theorem spoilt_draw (b : Nat) (a : Option Addr) (len cap m : Nat) (t : ByteArray) (ht : t.size ≤ 8) (hm : m ≤ 800000) (w : World) (hc : Cur w b a len cap m) :
    Calls Try.prog 88 #[.pointer (some ⟨b, 0, none⟩), .string t, .string ⟨#[49, 50, 57, 48]⟩] w (SomeText 10 b a len cap (m + 20) w) := by
  have HC := Lib.hid hc
  clear hc
  go_enter Try.func88, Try.ntmps88
  go_wp2_with fail
  refine (pick_any b a len cap m 2 (by omega) (by omega) (by omega) _ HC.out).mono ?_
  rintro e w1 ⟨x, hx, rfl, hc1, ho1⟩
  have HC1 := Lib.hid hc1
  have HO1 := Lib.hid ho1
  clear hc1 ho1
  go_wp2_with fail
  go_loopg [1, 7, 8, 9] (1 + x) (fun q t n _ _ wr => ∃ (s : ByteArray) (mm : Nat), q ≤ 2 ∧ s.size + q ≤ 10 ∧ mm + 6 * q ≤ m + 18 ∧ t = .string s ∧ n = .int .i64 q ∧ Cur wr b a len cap mm ∧ Only b w wr)
  case atStart => exact ⟨t, m + 2, by omega, by omega, by omega, rfl, by go_num, HC1.out, HO1.out⟩
  case round =>
    obtain ⟨s, mm, hq2, hsq, hmm, rfl, rfl, hc, ho⟩ := hrel
    have HC2 := Lib.hid hc
    have HO2 := Lib.hid ho
    clear hc ho HC1 HO1
    by_cases hgo : 0 < gk ∧ 0 < s.size
    · obtain ⟨hg, hs0⟩ := hgo
      obtain ⟨g', hg'⟩ : ∃ g', gk = g' + 1 := ⟨gk - 1, by omega⟩
      subst hg'
      have hs10 : s.size ≤ 9 := by omega
      have hs0i : (0 : Int) < s.size := by omega
      clear hg
      go_wp2_with fail
      refine (pick_any b a len cap mm s.size (by omega) hs0 (by omega) _ HC2.out).mono ?_
      rintro e w2 ⟨i, hi, rfl, hc3, ho3⟩
      have HC3 := Lib.hid hc3
      have HO3 := Lib.hid (HO2.out.trans ho3)
      clear hc3 ho3
      go_wp2_with fail
      refine (pick_any b a len cap (mm + 2) 4 (by omega) (by omega) (by omega) _ HC3.out).mono ?_
      rintro e w3 ⟨c, hc, rfl, hc4, ho4⟩
      have HC4 := Lib.hid hc4
      have HO4 := Lib.hid (HO3.out.trans ho4)
      clear hc4 ho4
      have hci : (c : Int) < 4 := by omega
      have hconv := fun (W : World) (v : Nat) => conv_dig (W.alloc (.cells #[.int .u8 v] 5)) W.heap.size 1 1 (fun _ => v) (fun i hi => by
        obtain rfl : i = 0 := by omega
        rw [World.cell?_alloc_at _ _ _ _ rfl]; rfl)
      go_wp2_with fail
      refine (pick_any b a len cap (mm + 4) 3 (by omega) (by omega) (by omega) _ (HC4.out.below ((Below.refl _ _).alloc (Nat.le_refl _) _))).mono ?_
      rintro e w5 ⟨y, hy, rfl, hc6, ho6⟩
      have HC6 := Lib.hid hc6
      have HO6 := Lib.hid ((HO4.out.trans (Only.of_below (b := b) ((Below.refl w3.heap.size w3).alloc (Nat.le_refl _) _))).trans ho6)
      clear hc6 ho6 hconv
      obtain ⟨ws, hws⟩ : ∃ ws : ByteArray, (strOf 1 fun _ => ((⟨#[49, 50, 57, 48]⟩ : ByteArray)[c]'hc).toNat) = ws := ⟨_, rfl⟩
      have hw1 : ws.size = 1 := by rw [← hws, strOf_size]
      rw [hws]
      have HWS := Lib.hid hws
      clear hws
      have hii : (i : Int) + 1 ≤ s.size := by omega
      have hwp : IntKind.i64.wrap ((i : Int) + 1) = (i : Int) + 1 := IntWalk.i64_in _ (by omega)
      have hmin : min i s.size = i := by omega
      have hm1 : ¬ 9223372036854775807 < i + 1 := by omega
      have hm2 : ¬ 9223372036854775807 < i + 1 + (s.size - i) := by omega
      have hm3 : ¬ 9223372036854775807 < i + 1 + (s.size - (i + 1)) := by omega
      have hm4 : ¬ 9223372036854775807 < i + (s.size - (i + 1)) := by omega
      have hy3 : y = 0 ∨ y = 1 ∨ y = 2 := by omega
      rcases hy3 with rfl | rfl | rfl
      all_goals
        go_wp2_with fail
        go_quiet (fail)
        go_wp2
        go_roundg g'
        case measure => omega
        case rel =>
          refine ⟨_, mm + 6, by omega, ?_, by omega, rfl, by go_num, HC6.out, Only.drewN HO6.out _⟩
          simp only [ByteArray.size_append, ByteArray.size_extract]
          omega
    · by_cases hg : 0 < gk
      · have hs0 : s.size = 0 := by omega
        have hs0i : ¬ ((0 : Int) < s.size) := by omega
        have hgi : (0 : Int) < gk := by omega
        have HS0 := Lib.hid hs0
        clear hs0 hgo
        go_wp2
        go_ret
        exact ⟨s, by omega, rfl, HC2.out.more (by omega), HO2.out⟩
      · obtain rfl : gk = 0 := by omega
        clear hgo
        go_wp2
        go_ret
        exact ⟨s, by omega, rfl, HC2.out.more (by omega), HO2.out⟩

set_option maxRecDepth 100000 in
set_option maxHeartbeats 1000000 in
theorem anyRow_draw (b : Nat) (a : Option Addr) (len cap m : Nat) (hm : m ≤ 700000) (w : World) (hc : Cur w b a len cap m) :
    Calls Try.prog 63 #[.pointer (some ⟨b, 0, none⟩)] w (SomeText 10 b a len cap (m + 30) w) := by
  have HC := Lib.hid hc
  clear hc
  go_enter Try.func63, Try.ntmps63
  go_wp2_with fail
  refine (stage_draw b a len cap m (by omega) _ HC.out).mono ?_
  rintro e w1 ⟨n, ⟨h3, h8⟩, rfl, hc1, ho1⟩
  obtain ⟨q, rfl⟩ := Int.eq_ofNat_of_zero_le (show 0 ≤ n by omega)
  have HC1 := Lib.hid hc1
  have HO1 := Lib.hid ho1
  clear hc1 ho1
  go_wp2_with fail
  refine (row_draw b a len cap (m + 2) q (by omega) (by omega) (by omega) _ HC1.out).mono ?_
  rintro e w2 ⟨s, hs, rfl, hc2, ho2⟩
  have HC2 := Lib.hid hc2
  have HO2 := Lib.hid (HO1.out.trans ho2)
  clear hc2 ho2
  go_wp2_with fail
  refine (one_any b a len cap (m + 2 + 2) 12 (by omega) (by omega) (by omega) _ HC2.out).mono ?_
  rintro e w3 ⟨t, rfl, hc3, ho3⟩
  have HC3 := Lib.hid hc3
  have HO3 := Lib.hid (HO2.out.trans ho3)
  clear hc3 ho3
  cases t
  · go_wp2
    go_ret
    exact ⟨s, by omega, rfl, HC3.out.more (by omega), HO3.out⟩
  · go_wp2_with fail
    refine (spoilt_draw b a len cap (m + 2 + 2 + 2) s hs (by omega) _ HC3.out).mono ?_
    rintro e w4 ⟨s2, hs2, rfl, hc4, ho4⟩
    have HC4 := Lib.hid hc4
    have HO4 := Lib.hid (HO3.out.trans ho4)
    clear hc4 ho4
    go_wp2
    go_ret
    exact ⟨s2, hs2, rfl, HC4.out.more (by omega), HO4.out⟩
end Go.Proofs.Ytnildepdpkbekaa
