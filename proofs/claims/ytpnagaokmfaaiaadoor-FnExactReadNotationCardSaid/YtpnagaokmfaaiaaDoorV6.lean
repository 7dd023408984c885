/- The law FnExactReadNotation. -/
import Derived.Test.YtpnagaokmfaaiaaDoorV5
namespace Go.Proofs.YtpnagaokmfaaiaaDoor
open Go.RowKit
set_option linter.unusedSimpArgs false

theorem own_under {B : Nat} {W W' : World} {e : TypeId} {v : Value} {xs : List Value} (h : Own W e v xs) (hlt : ∀ g, v.ownBlock = some g → g < B) (hb : Below B W W') : Own W' e v xs := h.block fun g hg => hb.block g (hlt g hg)

set_option maxRecDepth 100000 in
set_option maxHeartbeats 1000000 in
theorem lawReadNotation (n : Int) (s : ByteArray) (w : World) (hs : s.size ≤ maxLen) (_hB : 0 < w.heap.size) (_htab : Tab w) :
    Calls Tryd.prog 6 #[.int .i64 n, .string s] w fun e w' => e = .returned (.bool true) ∧ Below w.heap.size w w' := by
  by_cases hbig : 1048576 < s.size
  · have hbig' : (1048576 : Int) < s.size := by omega
    go_enter Tryd.func6, Tryd.ntmps6
    go_wp2
    go_ret
    exact ⟨rfl, Below.refl _ _⟩
  · have hbig' : (s.size : Int) ≤ 1048576 := by omega
    have hS : Hid (∀ w, Calls Tryd.prog 17 #[.int .i64 n, .string s] w _) := Lib.hid (fun w => sReadNotation_any n s w hs)
    have hI : Hid (∀ w, Calls Tryd.prog 14 #[.int .i64 n, .string s] w _) := Lib.hid (fun w => iReadNotation_any n s w hs)
    have hsz := readP_size n s
    generalize readP n s = r at *
    obtain ⟨L, c, q, ok⟩ := r
    unfold ReadRes at hS hI
    simp only at hS hI hsz
    obtain ⟨m, hm⟩ : ∃ m, L.length = m := ⟨_, rfl⟩
    rw [hm] at hsz
    have HM := Lib.hid hm
    have hmi : (m : Int) ≤ 40 := by omega
    clear hm
    cases ok
    all_goals
      go_enter Tryd.func6, Tryd.ntmps6
      go_wp2_with fail
      refine (hS.out _).mono ?_
      rintro e w1 ⟨v1, rfl, hn1, hb1⟩
      have B1 := Lib.hid hb1
      have L1 := Lib.hid hn1.own
      clear hn1 hb1
      go_wp2_with fail
      refine (hI.out _).mono ?_
      rintro e w2 ⟨v2, rfl, hn2, hb2⟩
      have B2 := Lib.hid hb2
      have L12 := Lib.hid (L1.out.kept hb2)
      have N2 := Lib.hid hn2
      clear hn2 hb2
      go_wp2_with fail
      refine (eqStringS_same v2 v1 L _ N2.out.own L12.out (by rw [HM.out]; omega)).mono ?_
      rintro e w3 ⟨rfl, d3, hd3⟩
      have B3 : Hid (Below w1.heap.size w1 w3) := by rw [hd3]; exact below_drewN B2.out _
      have L13 : Hid (Own w3 9 v1 (strs L)) := by rw [hd3]; exact L12.out.drewN _
      have N3 : Hid (New w1.heap.size w3 9 v2 (strs L)) := by rw [hd3]; exact N2.out.drewN _
      clear hd3 B2 L12 N2
      go_wp2_with fail
      refine (markStringS_full w1.heap.size v2 L 1 _ N3.out B3.out.size (by rw [HM.out]; omega) (by omega) (by omega)).mono ?_
      rintro e w4 ⟨rfl, hn4, hb4, _⟩
      rw [HM.out] at hn4
      have B4 := Lib.hid (B3.out.trans hb4)
      have L14 := Lib.hid (own_under L13.out L1.out.lt hb4)
      have N4 := Lib.hid hn4
      rw [HM.out]
      clear hn4 hb4 B3 L13 N3
      go_wp2_with fail
      refine (heldStringS_any v2 m 1 _ N4.out.own (by omega) (by omega) (by omega)).mono ?_
      rintro e w5 ⟨rfl, hb5⟩
      have B5 := Lib.hid (B4.out.trans (hb5.mono B4.out.size))
      have L15 := Lib.hid (L14.out.kept hb5)
      have N5 := Lib.hid (N4.out.kept hb5)
      have hmm : ¬ ((1 : Int) + (m : Nat) < 0) := by omega
      clear hb5 B4 L14 N4
      go_wp2_with fail
      refine (hI.out _).mono ?_
      rintro e w6 ⟨v6, rfl, hn6, hb6⟩
      have B6 := Lib.hid (B5.out.trans (hb6.mono B5.out.size))
      have L16 := Lib.hid (L15.out.kept hb6)
      have N6 := Lib.hid (N5.out.kept hb6)
      have L6 := Lib.hid hn6.own
      clear hn6 hb6 B5 L15 N5
      go_wp2_with fail
      refine (eqStringS_same v6 v1 L _ L6.out L16.out (by rw [HM.out]; omega)).mono ?_
      rintro e w7 ⟨rfl, d7, hd7⟩
      have B7 : Hid (Below w1.heap.size w1 w7) := by rw [hd7]; exact below_drewN B6.out _
      have N7 : Hid (New w1.heap.size w7 9 v2 (strs (smarks 1 m))) := by rw [hd7]; exact N6.out.drewN _
      clear hd7 B6 L16 N6 L6
      go_wp2_with fail
      refine (heldStringS_any v2 m 1 _ N7.out.own (by omega) (by omega) (by omega)).mono ?_
      rintro e w8 ⟨rfl, hb8⟩
      have B8 := Lib.hid (B7.out.trans (hb8.mono B7.out.size))
      clear hb8 B7 N7
      go_wp2
      go_ret
      exact ⟨rfl, B1.out.trans (B8.out.mono B1.out.size)⟩
end Go.Proofs.YtpnagaokmfaaiaaDoor
