/- The law FnExactNotationText. -/
import Derived.Test.YtpnagaokmfaaiaaT4
import Derived.Test.YtpnagaokmfaaiaaC2
namespace Go.Proofs.Ytpnagaokmfaaiaa
open Go.RowKit
set_option linter.unusedSimpArgs false
theorem letss_size {ss : List ByteArray} (h : ∀ s ∈ ss, s.size ≤ maxLen) : ∀ l ∈ letss ss, l.length ≤ maxLen := by
  intro l hl
  obtain ⟨s, hs, rfl⟩ := List.mem_map.1 hl
  rw [lets_len]
  exact h s hs

set_option maxRecDepth 100000 in
set_option maxHeartbeats 1000000 in
theorem lawNotationText (n : Int) (v : Value) (ss : List ByteArray) (W : World) (hA : Arg W v ss) (hy : ss.length ≤ maxLen ∧ ∀ s ∈ ss, s.size ≤ maxLen) :
    Calls Try.prog 3 #[.int .i64 n, v] W fun e w' => e = .returned (.bool true) ∧ Below W.heap.size W w' := by
  have hz := szStringS_any v ss W hA hy.1 hy.2 1048576 (by omega) (by omega)
  have hlen := szAll_len (ss := ss) (left := 1048576)
  generalize szAll ss 1048576 = z at *
  by_cases hneg : z < 0
  · clear hlen
    go_enter Try.func3, Try.ntmps3
    go_wp2_with fail
    refine hz.mono ?_
    rintro e w0 ⟨rfl, rfl⟩
    go_wp2
    go_ret
    exact ⟨rfl, Below.refl _ _⟩
  · have hn := hlen (by omega)
    have hss : ss.length ≤ 1048576 := by omega
    have HS : Hid (∀ w, Arg w v ss → Calls Try.prog 9 #[v] w _) := Lib.hid (fun w h => toStringS_any v ss w h (by omega))
    have hll := letss_len ss
    have hsz := letss_size hy.2
    generalize letss ss = L at *
    have hL : L.length ≤ 1048576 := by omega
    have HM : Hid (∀ u w, Txts w u L → Calls Try.prog 10 #[.int .i64 n, u] w _) := Lib.hid (fun u w h => iNotationText_any n u L w h (by omega))
    have HM2 : Hid (∀ u w, Txts w u L → Calls Try.prog 8 #[.int .i64 n, u] w _) := Lib.hid (fun u w h => sNotationText_any n u L w h (by omega) hsz)
    clear hlen hy hn hss hll hsz
    generalize noteT n L = r at *
    have HA := Lib.hid hA
    have HN := Lib.hid hL
    clear hA hL
    cases hb : goodAll n L
    all_goals
      rw [hb] at HM HM2
      clear hb
      go_enter Try.func3, Try.ntmps3
      go_wp2_with fail
      refine hz.mono ?_
      rintro e w0 ⟨rfl, rfl⟩
      clear hz
      go_wp2_with fail
      refine (HS.out _ HA.out).mono ?_
      rintro e w1 ⟨v1, rfl, hn1, hb1⟩
      have B1 := Lib.hid hb1
      have T1 := Lib.hid hn1.own.txts
      clear hn1 hb1
      go_wp2_with fail
      refine (HM2.out _ _ T1.out).mono ?_
      rintro e w2 ⟨rfl, hb2⟩
      have B2 := Lib.hid (B1.out.trans (hb2.mono B1.out.size))
      clear hb2 B1 T1
      go_wp2_with fail
      refine (HS.out _ (HA.out.kept B2.out)).mono ?_
      rintro e w3 ⟨v3, rfl, hn3, hb3⟩
      have B3 := Lib.hid (B2.out.trans (hb3.mono B2.out.size))
      have O3 := Lib.hid hn3.own
      clear hn3 hb3 B2
      go_wp2_with fail
      refine (HM.out _ _ O3.out.txts).mono ?_
      rintro e w4 ⟨rfl, hb4⟩
      have B4 := Lib.hid (B3.out.trans (hb4.mono B3.out.size))
      have O4 := Lib.hid (O3.out.kept hb4)
      clear hb4 B3 O3
      go_wp2_with fail
      refine (HS.out _ (HA.out.kept B4.out)).mono ?_
      rintro e w5 ⟨v5, rfl, hn5, hb5⟩
      have B5 := Lib.hid (B4.out.trans (hb5.mono B4.out.size))
      have O35 := Lib.hid (O4.out.kept hb5)
      have O5 := Lib.hid hn5.own
      clear hn5 hb5 B4 O4
      go_wp2_with fail
      refine (eqStringS_same v3 v5 L _ O35.out O5.out (by have := HN.out; omega)).mono ?_
      rintro e w6 ⟨rfl, d6, hd6⟩
      have B6 : Hid (Below W.heap.size W w6) := by rw [hd6]; exact below_drewN B5.out _
      clear hd6
      go_wp2
      go_ret
      exact ⟨rfl, B6.out⟩
end Go.Proofs.Ytpnagaokmfaaiaa
