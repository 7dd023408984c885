/- Lists of changes: whether they are good; their texts. -/
import Derived.Test.YtdflpkkcjbdpfaaDoorC3
namespace Go.Proofs.YtdflpkkcjbdpfaaDoor
open Go.RowKit
set_option linter.unusedSimpArgs false

/-- 1 to 40 changes of stage n -/
def goodAll (n : Int) (L : List (List Nat)) : Bool := decide (1 ≤ L.length) && decide (L.length ≤ 40) && L.all (fun l => goodC n (txt l))

theorem goodC_range {n : Int} {s : ByteArray} (h : goodC n s = true) : 3 ≤ n ∧ n ≤ 8 := by
  obtain ⟨m, rfl, hg⟩ := goodC_stage h
  have := goodL_three hg
  have := goodL_eight hg
  omega

set_option maxRecDepth 100000 in
set_option maxHeartbeats 1000000 in
theorem l3List_any (n : Int) (v : Value) (L : List (List Nat)) (w : World) (h : Txts w v L) (hl : L.length ≤ 2000000) (hs : ∀ l ∈ L, l.length ≤ maxLen) :
    Calls Tryd.prog 30 #[.int .i64 n, v] w fun e w' => e = .returned (.bool (goodAll n L)) ∧ w = w' := by
  obtain ⟨m, hm⟩ : ∃ m, L.length = m := ⟨_, rfl⟩
  obtain ⟨a, cap, rfl, hcap, ha⟩ := h
  have hg : goodAll n L = (decide (1 ≤ m) && decide (m ≤ 40) && L.all (fun l => goodC n (txt l))) := by unfold goodAll; rw [hm]
  have hrange : 1 ≤ m → L.all (fun l => goodC n (txt l)) = true → 3 ≤ n ∧ n ≤ 8 := fun h1 h2 => by
    cases L with
    | nil => simp at hm; omega
    | cons x t =>
      rw [List.all_cons, Bool.and_eq_true] at h2
      exact goodC_range h2.1
  rw [hm] at hl ha ⊢
  have hl' : (m : Int) ≤ 2000000 := by omega
  have HA := Lib.hid ha
  have HM := Lib.hid hm
  have HG := Lib.hid hg
  have HR := Lib.hid hrange
  have HS := Lib.hid hs
  clear ha hm hcap hg hrange hs
  generalize hb : L.all (fun l => goodC n (txt l)) = res at *
  generalize hgl : goodAll n L = tot at *
  have HB := Lib.hid hb
  clear hb hgl
  go_enter Tryd.func30, Tryd.ntmps30
  go_wp2
  go_loopg [9] m (fun q i wr => ∃ j : Nat, j ≤ m ∧ q + j = m ∧ i = .int .i64 j ∧ (L.drop j).all (fun l => goodC n (txt l)) = res ∧ w = wr)
  case atStart => exact ⟨0, by omega, rfl, rfl, HB.out, rfl⟩
  case round =>
    clear HB
    obtain ⟨j, hj, hq, rfl, hf, rfl⟩ := hrel
    have HF := Lib.hid hf
    clear hf
    by_cases hlt : j < m
    · obtain ⟨g, off, rfl, hg, hc⟩ := HA.out (by omega)
      have hjx : j < L.length := by rw [HM.out]; exact hlt
      have c1 := hc j hlt
      rw [List.getD_eq_getElem?_getD, List.getElem?_eq_getElem hjx, Option.getD_some] at c1
      have hf := HF.out
      rw [List.drop_eq_getElem_cons hjx, List.all_cons] at hf
      have hxs := HS.out _ (List.getElem_mem hjx)
      generalize L[j] = x at *
      have hji : (j : Int) < m := by omega
      have HF2 := Lib.hid hf
      clear hc hf HF
      go_wp2_with fail
      refine (l2Change_any n (txt x) (by rw [txt_size]; exact hxs) _).mono ?_
      rintro e w5 ⟨rfl, rfl⟩
      have hf := HF2.out
      clear HF2
      cases hgx : goodC n (txt x)
      · rw [hgx] at hf
        have HF3 : Hid (tot = false) := Lib.hid (by
          have h1 : false = res := hf
          rw [HG.out, ← h1]; simp)
        clear hf hgx
        go_wp2
        go_ret
        exact ⟨by rw [HF3.out]; rfl, rfl⟩
      · rw [hgx, Bool.true_and] at hf
        have HF3 := Lib.hid hf
        clear hf hgx
        go_wp2
        go_roundg (m - (j + 1))
        case measure => omega
        case rel => exact ⟨j + 1, by omega, by omega, by go_num, HF3.out, rfl⟩
    · obtain rfl : j = m := by omega
      have hf := HF.out
      rw [List.drop_eq_nil_of_le (by rw [HM.out]; exact Nat.le_refl _)] at hf
      have hf : true = res := hf
      subst hf
      clear HF
      go_wp2_with fail
      refine (l1In_any _ _ _ _).mono ?_
      rintro e w5 ⟨rfl, rfl⟩
      by_cases h1 : 1 ≤ j ∧ j ≤ 40
      · have hin : (decide ((1 : Int) ≤ j) && decide ((j : Int) ≤ 40)) = true := by simp; omega
        have hn := HR.out h1.1 (by simp)
        have hin2 : (decide ((3 : Int) ≤ n) && decide (n ≤ 8)) = true := by simp; omega
        have HT : Hid (tot = true) := Lib.hid (by rw [HG.out, decide_eq_true h1.1, decide_eq_true h1.2]; rfl)
        rw [hin]
        clear hn
        go_wp2_with fail
        refine (l1In_any _ _ _ _).mono ?_
        rintro e w6 ⟨rfl, rfl⟩
        rw [hin2]
        go_wp2
        go_ret
        exact ⟨by rw [HT.out]; rfl, rfl⟩
      · have hin : (decide ((1 : Int) ≤ j) && decide ((j : Int) ≤ 40)) = false := by simp; omega
        have HT : Hid (tot = false) := Lib.hid (by
          rw [HG.out]
          by_cases h2 : 1 ≤ j
          · rw [decide_eq_false (show ¬ j ≤ 40 by omega)]; simp
          · rw [decide_eq_false h2]; rfl)
        rw [hin]
        go_wp2
        go_ret
        exact ⟨by rw [HT.out]; rfl, rfl⟩
end Go.Proofs.YtdflpkkcjbdpfaaDoor
