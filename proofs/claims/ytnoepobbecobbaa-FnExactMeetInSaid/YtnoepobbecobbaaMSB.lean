/- Marks put into a longer list of texts. -/
import Derived.Test.YtnoepobbecobbaaCB
import Derived.Test.YtnoepobbecobbaaSC
namespace Go.Proofs.Ytnoepobbecobbaa
open Go.RowKit
set_option linter.unusedSimpArgs false
set_option linter.unusedVariables false

set_option maxRecDepth 100000 in
set_option maxHeartbeats 1000000 in
theorem markStringS_big {kk : Int} (B : Nat) (v : Value) (xs : List (List Nat)) (k : Nat) (w : World) (hx : kk = ((k : Nat) : Int)) (h : New B w 9 v (strs xs)) (hB : B ≤ w.heap.size) (hb : k + xs.length ≤ 3000000) (hk0 : 1 ≤ k) (hk1 : k ≤ 3000000) :
    Calls Try.prog 21 #[v, .int .i64 kk] w fun e w' => e = .returned (.int .i64 (k + xs.length)) ∧ New B w' 9 v (strs (smarks k xs.length)) ∧ Below B w w' ∧ KeptBut w w' v := by
  subst hx
  obtain ⟨n, hn⟩ : ∃ n, xs.length = n := ⟨_, rfl⟩
  have hbase := h.base
  have hown := h.own
  obtain ⟨a, cap, rfl, ha⟩ := hown.view
  rw [strs_len, hn] at hown ha hbase ⊢
  rw [hn] at hb
  have HO := Lib.hid hown
  have HA := Lib.hid ha
  have HBASE := Lib.hid hbase
  clear h ha hown hbase
  have HN := Lib.hid hn
  clear hn
  go_enter Try.func21, Try.ntmps21
  go_wp2
  go_loopg [1, 5] n (fun q kk i wr => ∃ j : Nat, j ≤ n ∧ q + j = n ∧ i = .int .i64 j ∧ kk = .int .i64 ((k + j : Nat) : Int) ∧ Own wr 9 (.slice a n cap) (strs (smarkTo k xs j)) ∧ Below B w wr ∧ KeptBut w wr (.slice a n cap))
  case atStart => exact ⟨0, Nat.zero_le _, rfl, rfl, by simp, by simpa [smarkTo, smarks] using HO.out, Below.refl _ _, fun _ _ _ => rfl⟩
  case round =>
    obtain ⟨j, hj, hq, rfl, rfl, ho, hg, hkb⟩ := hrel
    have HKB := Lib.hid hkb
    have HQ := Lib.hid hq
    have HO2 := Lib.hid ho
    have HG := Lib.hid hg
    clear hq ho hg hkb
    by_cases hlt : j < n
    · obtain ⟨g, rfl⟩ := HA.out (by omega)
      have hjx : j < (smarkTo k xs j).length := by rw [smarkTo_len k xs j (by rw [HN.out]; exact hj), HN.out]; exact hlt
      have hki : (j : Int) < n := by omega
      have HT : Hid (∀ (x : Int) (W : World), x = ((k + j : Nat) : Int) → Calls Try.prog 64 #[.int .i64 x] W fun e w' => e = .returned (.string (txt (smark (k + j)))) ∧ Below W.heap.size W w') := Lib.hid (fun x W hx => by subst hx; exact markText_any (k + j) (by omega) (by omega) W)
      go_wp2_with fail
      refine (HT.out _ _ (by simp)).mono ?_
      rintro e w2 ⟨rfl, hb2⟩
      have hO3 := HO2.out.kept hb2
      have HG3 := Lib.hid (HG.out.trans (hb2.mono (Nat.le_trans hB HG.out.size)))
      have c1 := hO3.cell j _ (strs_at (smarkTo k xs j) j hjx)
      have f1 := hO3.free j
      have hset := hO3.set j (.string (txt (smark (k + j))))
      rw [strs_set, smarkTo_succ k xs j (by rw [HN.out]; exact hlt)] at hset
      have HSET := Lib.hid hset
      generalize txt ((smarkTo k xs j).getD j []) = y at c1
      have hgb := HBASE.out g rfl
      have HKB2 : Hid (KeptBut w (w2.setCell ⟨g, j, none⟩ (.string (txt (smark (k + j))))) (.slice (some ⟨g, 0, none⟩) n cap)) := Lib.hid (fun b hbw hne => by
        have h1 : b ≠ g := fun e => hne (by rw [e]; rfl)
        rw [Below.heap_setCell _ _ _ _ h1, hb2.block b (Nat.lt_of_lt_of_le hbw HG.out.size)]
        exact HKB.out b hbw hne)
      clear hset hO3 hb2
      go_wp2
      go_roundg (n - (j + 1))
      case measure => have := HQ.out; omega
      case rel => exact ⟨j + 1, by omega, by have := HQ.out; omega, by go_num, by go_num, HSET.out, HG3.out.setCell hgb _, HKB2.out⟩
    · obtain rfl : j = n := by omega
      have hfin := HO2.out
      rw [← HN.out, smarkTo_all, HN.out] at hfin
      have HF := Lib.hid hfin
      clear hfin
      go_wp2
      go_ret
      exact ⟨by simp, ⟨HF.out, HBASE.out⟩, HG.out, HKB.out⟩

end Go.Proofs.Ytnoepobbecobbaa
