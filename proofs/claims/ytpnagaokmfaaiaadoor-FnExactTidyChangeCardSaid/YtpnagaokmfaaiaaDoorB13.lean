/- A number as a text, the text of some places, a number put first: in the model. -/
import Derived.Test.YtpnagaokmfaaiaaDoorB12
import Derived.Test.YtpnagaokmfaaiaaDoorO6
namespace Go.Proofs.YtpnagaokmfaaiaaDoor
open Go.RowKit

theorem txt_app (l r : List Nat) : txt (l ++ r) = txt l ++ txt r := by
  apply ByteArray.ext
  rw [ByteArray.data_append]
  simp [txt]

set_option maxRecDepth 100000 in
set_option maxHeartbeats 1000000 in
theorem l1Num_digit (p : Nat) (hp : p ≤ 9) (w : World) :
    Calls Tryd.prog 72 #[.int .i64 p] w fun e w' => e = .returned (.string (txt [48 + p])) ∧ Below w.heap.size w w' := by
  have hp' : (p : Int) < 10 := by omega
  have hconv := conv_dig (w.alloc (.cells #[.int .u8 (48 + p)] 5)) w.heap.size 1 1 (fun _ => 48 + p) (fun i hi => by
    obtain rfl : i = 0 := by omega
    exact (RowAt.new w 5 #[.int .u8 (48 + p)]).cell 0 rfl)
  have e1 : strOf 1 (fun _ => 48 + p) = txt [48 + p] := by simp [strOf, txt, List.range_succ]
  rw [e1] at hconv
  go_enter Tryd.func72, Tryd.ntmps72
  go_wp2
  go_ret
  exact ⟨rfl, (Below.refl _ w).alloc (Nat.le_refl _) _⟩

set_option maxRecDepth 100000 in
set_option maxHeartbeats 1000000 in
theorem l2Of_any (v : Value) (ps : List Nat) (hl : ps.length ≤ 8) (hps : ∀ p ∈ ps, p ≤ 9) (w : World) (hv : Own w 3 v (nums ps)) :
    Calls Tryd.prog 82 #[v] w fun e w' => e = .returned (.string (txt (ofPlaces ps))) ∧ Below w.heap.size w w' := by
  obtain ⟨n, hn⟩ : ∃ n, ps.length = n := ⟨_, rfl⟩
  obtain ⟨a, cap, rfl, ha⟩ := hv.view
  rw [nums_len, hn] at ha
  rw [nums_len, hn] at hv ⊢
  rw [hn] at hl
  have hl' : (n : Int) ≤ 8 := by omega
  have HO := Lib.hid hv
  have HA := Lib.hid ha
  have HN := Lib.hid hn
  have HP := Lib.hid hps
  clear hv ha hn hps
  generalize hrs : ofPlaces ps = rs
  have HRS := Lib.hid hrs
  clear hrs
  go_enter Tryd.func82, Tryd.ntmps82
  go_wp2
  go_loopg [3, 5, 8] n (fun q t _ i wr => ∃ k : Nat, k ≤ n ∧ q + k = n ∧ i = .int .i64 k ∧ t = .string (txt ((ps.take k).map (48 + ·))) ∧ Below w.heap.size w wr)
  case atStart => exact ⟨0, Nat.zero_le _, rfl, rfl, rfl, Below.refl _ _⟩
  case round =>
    obtain ⟨k, hk, hq, rfl, rfl, hbel⟩ := hrel
    have HQ := Lib.hid hq
    have HB := Lib.hid hbel
    clear hq hbel
    by_cases hlt : k < n
    · obtain ⟨g, rfl⟩ := HA.out (by omega)
      have hkp : k < ps.length := by rw [HN.out]; exact hlt
      have c1 := (HO.out.kept HB.out).cell k (.int .i64 ps[k]) (by simp [nums, ints, hkp])
      have hp9 := HP.out _ (List.getElem_mem hkp)
      have htk : (ps.take (k + 1)).map (48 + ·) = (ps.take k).map (48 + ·) ++ [48 + ps[k]] := by
        rw [List.take_succ_eq_append_getElem hkp, List.map_append]; rfl
      have htx : txt ((ps.take (k + 1)).map (48 + ·)) = txt ((ps.take k).map (48 + ·)) ++ txt [48 + ps[k]] := by rw [htk, txt_app]
      have hs1 : (txt ((ps.take k).map (48 + ·))).size = k := by rw [txt_size]; simp; omega
      have hs2 : (txt [48 + ps[k]]).size = 1 := txt_size _
      have HTX := Lib.hid htx
      have hki : (k : Int) < n := by omega
      have HNUM := Lib.hid (l1Num_digit ps[k] hp9)
      generalize txt ((ps.take k).map (48 + ·)) = T at *
      generalize txt [48 + ps[k]] = U at *
      generalize ps[k] = p at *
      clear htk htx
      go_wp2_with fail
      refine (HNUM.out _).mono ?_
      rintro e w2 ⟨rfl, hb2⟩
      have HB2 := Lib.hid (HB.out.trans (hb2.mono HB.out.size))
      clear hb2
      go_wp2
      go_roundg (n - (k + 1))
      case measure => have := HQ.out; omega
      case rel => exact ⟨k + 1, by omega, by have := HQ.out; omega, by go_num, by rw [HTX.out], HB2.out⟩
    · obtain rfl : k = n := by omega
      have hall : ps.take k = ps := List.take_of_length_le (by rw [HN.out]; exact Nat.le_refl _)
      have hki : ¬ (k : Int) < k := by omega
      rw [hall] at *
      have hem : (txt (ps.map (48 + ·))).toList.isEmpty = decide (ps = []) := by
        rw [empty_lets, lets_txt _ (fun b hb => by
          obtain ⟨p, hp, rfl⟩ := List.mem_map.1 hb
          have := HP.out p hp; omega)]
        cases ps <;> simp
      by_cases hps : ps = []
      · have hres : rs = [45] := by rw [← HRS.out]; simp [ofPlaces, hps]
        rw [decide_eq_true hps] at hem
        generalize txt (ps.map (48 + ·)) = T at *
        clear hps
        go_wp2
        go_ret
        exact ⟨by first | rfl | (rw [hres]; rfl), HB.out⟩
      · have hres : txt rs = txt (ps.map (48 + ·)) := by rw [← HRS.out]; simp [ofPlaces, hps]
        rw [decide_eq_false hps] at hem
        generalize txt (ps.map (48 + ·)) = T at *
        clear hps
        go_wp2
        go_ret
        exact ⟨by first | rfl | (rw [hres]; rfl), HB.out⟩

end Go.Proofs.YtpnagaokmfaaiaaDoor
