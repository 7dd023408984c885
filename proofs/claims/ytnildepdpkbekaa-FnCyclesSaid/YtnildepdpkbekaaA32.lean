/- What the law on cycles calls besides: DrawRowOf, RowOf as a function. -/
import Derived.Test.YtnildepdpkbekaaA31
import Derived.Test.YtnildepdpkbekaaA27
import Derived.Test.YtnildepdpkbekaaO4
import Derived.Test.YtnildepdpkbekaaP11
namespace Go.Proofs.Ytnildepdpkbekaa
open Go.RowKit
set_option linter.unusedSimpArgs false

set_option maxRecDepth 100000 in
set_option maxHeartbeats 1000000 in
theorem DrawRowOf_any (a : Option Addr) (len cap : Nat) (zs : List Int) (w : World) (hz : IsBytes w a len cap zs) (hl : len ≤ 1048576) :
    Calls Try.prog 19 #[.slice a len cap] w (SomeInt2 w) := by
  have HCODE := Lib.hid (codeAt_of hz)
  clear hz
  go_enter Try.func19, Try.ntmps19
  go_wp2_with fail
  refine (stage_draw w.heap.size a len cap 0 (by omega) _ (cur_new a len cap w HCODE.out hl)).mono ?_
  rintro e w1 ⟨n, ⟨h3, h8⟩, rfl, hc1, ho1⟩
  obtain ⟨n, rfl⟩ := Int.eq_ofNat_of_zero_le (show 0 ≤ n by omega)
  have h8n : n ≤ 8 := by omega
  have hf := fact_le h8n
  have hfp := fact_pos n
  have HC1 := Lib.hid hc1
  have HO1 := Lib.hid ho1
  clear hc1 ho1
  go_wp2_with fail
  refine (l1Fact_any n h8n _).mono ?_
  rintro e w' ⟨rfl, rfl⟩
  go_wp2_with fail
  refine (pick_any w.heap.size a len cap _ (fact n + 1) (by omega) (by omega) (by omega) _ HC1.out).mono ?_
  rintro e w2 ⟨x, hx, rfl, hc2, ho2⟩
  have HC2 := Lib.hid hc2
  have HO2 := Lib.hid (HO1.out.trans ho2)
  clear hc2 ho2
  go_wp2_with fail
  refine (pick_any w.heap.size a len cap _ 20 (by omega) (by omega) (by omega) _ HC2.out).mono ?_
  rintro e w3 ⟨y, hy, rfl, hc3, ho3⟩
  have HO3 := Lib.hid (HO2.out.trans ho3)
  clear hc3 ho3
  go_wp2
  go_ret2
  exact ⟨_, _, by omega, by omega, rfl, cur_below HO3.out⟩

open Classical in
noncomputable def rkB (n k : Int) : Bool := decide (3 ≤ n ∧ n ≤ 8 ∧ 0 ≤ k ∧ k < fact n.toNat)
noncomputable def rkS (n k : Int) : ByteArray := if rkB n k = true then strOf n.toNat (rankF n.toNat k.toNat) else ⟨#[]⟩
theorem rkB_yes {n k : Int} (h : rkB n k = true) : 3 ≤ n ∧ n ≤ 8 ∧ 0 ≤ k ∧ k < fact n.toNat := by simpa [rkB] using h
theorem rkS_yes {n k : Int} (h : rkB n k = true) : rkS n k = strOf n.toNat (rankF n.toNat k.toNat) := by unfold rkS; rw [if_pos h]
theorem iRowOf_fn (n k : Int) (w : World) :
    Calls Try.prog 20 #[.int .i64 n, .int .i64 k] w fun e w' => e = .returned (.tuple #[.string (rkS n k), .bool (rkB n k)]) ∧ Below w.heap.size w w' := by
  unfold rkS
  cases h : rkB n k
  · exact iRowOf_no n k (by simpa [rkB] using h) w
  · obtain ⟨h3, h8, h0, hk⟩ := rkB_yes h
    obtain ⟨m, rfl⟩ := Int.eq_ofNat_of_zero_le (show 0 ≤ n by omega)
    obtain ⟨q, rfl⟩ := Int.eq_ofNat_of_zero_le h0
    have hk' : q < fact m := by simpa using hk
    have := iRowOf_yes m q (by omega) (by omega) hk' w
    rw [str_rank] at this
    exact this
theorem sRowOf_fn (n k : Int) (w : World) :
    Calls Try.prog 21 #[.int .i64 n, .int .i64 k] w fun e w' => e = .returned (.tuple #[.string (rkS n k), .bool (rkB n k)]) ∧ Below w.heap.size w w' := by
  unfold rkS
  cases h : rkB n k
  · exact (sRowOf_no n k (by simpa [rkB] using h) w).mono fun e w' ⟨h1, h2⟩ => ⟨h1, h2 ▸ Below.refl _ _⟩
  · obtain ⟨h3, h8, h0, hk⟩ := rkB_yes h
    obtain ⟨m, rfl⟩ := Int.eq_ofNat_of_zero_le (show 0 ≤ n by omega)
    obtain ⟨q, rfl⟩ := Int.eq_ofNat_of_zero_le h0
    have hk' : q < fact m := by simpa using hk
    have := sRowOf_yes m q (by omega) (by omega) hk' w
    rw [str_rank] at this
    exact this
theorem iPlaceOfRow_rk (n k : Int) (h : rkB n k = true) (w : World) :
    Calls Try.prog 9 #[.string (rkS n k)] w fun e w' => e = .returned (.tuple #[.int .i64 k, .bool true]) ∧ Below w.heap.size w w' := by
  rw [rkS_yes h]
  obtain ⟨h3, h8, h0, hk⟩ := rkB_yes h
  obtain ⟨m, rfl⟩ := Int.eq_ofNat_of_zero_le (show 0 ≤ n by omega)
  obtain ⟨q, rfl⟩ := Int.eq_ofNat_of_zero_le h0
  have hk' : q < fact m := by simpa using hk
  have := iPlaceOfRow_yes m (rankF m q) (isRow_rank (by omega) (by omega) hk') w
  rw [place_rank hk'] at this
  exact this
theorem rkS_less (n k : Int) (h : rkB n k = true) (h' : rkB n (k + 1) = true) : Op.bytesLess (rkS n k).toList (rkS n (k + 1)).toList = true := by
  rw [rkS_yes h, rkS_yes h']
  obtain ⟨h3, h8, h0, _⟩ := rkB_yes h
  obtain ⟨_, _, _, hk⟩ := rkB_yes h'
  exact less_rank (by omega) (by omega) (by omega) (by omega)
end Go.Proofs.Ytnildepdpkbekaa
