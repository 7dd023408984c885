/- Lists of rows in the model; the law GoodRows. -/
import Derived.Test.YtnoepobbecobbaaSB
import Derived.Test.YtnoepobbecobbaaCB
namespace Go.Proofs.Ytnoepobbecobbaa
open Go.RowKit
set_option linter.unusedSimpArgs false
set_option linter.unusedVariables false

set_option maxRecDepth 100000 in
set_option maxHeartbeats 1000000 in
theorem l6Rows_any (v : Value) (L : List (List Nat)) (w : World) (h : Txts w v L) (hl : L.length ≤ 2000000) (hs : ∀ l ∈ L, l.length ≤ maxLen) :
    Calls Try.prog 59 #[v] w fun e w' => e = .returned (.bool (listB L)) ∧ Below w.heap.size w w' := by
  obtain ⟨m, hm⟩ : ∃ m, L.length = m := ⟨_, rfl⟩
  obtain ⟨a, cap, rfl, hcap, ha⟩ := h
  have hg : listB L = (decide (m ≤ 800) && L.all (rowB (firstN L))) := by unfold listB rowsB; rw [hm]
  generalize hz : firstN L = z at *
  have hz' : L.getD 0 [] = L.getD 0 [] ∧ (L.getD 0 []).length = z := ⟨rfl, by rw [← hz]; rfl⟩
  generalize L.getD 0 [] = y at *
  rw [hm] at hl ha ⊢
  have h0 : 0 < m → ∃ g off, a = some ⟨g, off, none⟩ ∧ g < w.heap.size ∧ w.cell? ⟨g, off, none⟩ = some (.string (txt (L.getD 0 []))) := fun hp => by
    obtain ⟨g, off, e, hg, hc⟩ := ha hp
    exact ⟨g, off, e, hg, by simpa using hc 0 hp⟩
  have hl' : (m : Int) ≤ 2000000 := by omega
  have HA := Lib.hid ha
  have H0 := Lib.hid h0
  have HM := Lib.hid hm
  have HG := Lib.hid hg
  have HS := Lib.hid hs
  have HZ : Hid ((L.getD 0 []).length = z) := Lib.hid (by rw [← hz]; rfl)
  clear ha h0 hm hcap hg hs hz hz'
  generalize hb : L.all (rowB z) = res at *
  generalize hgl : listB L = tot at *
  have HB := Lib.hid hb
  clear hb hgl
  go_enter Try.func59, Try.ntmps59
  go_wp2
  go_loopg [7] m (fun q i wr => ∃ j : Nat, j ≤ m ∧ q + j = m ∧ i = .int .i64 j ∧ (L.drop j).all (rowB z) = res ∧ Below w.heap.size w wr)
  case atStart => exact ⟨0, by omega, by omega, rfl, HB.out, Below.refl _ _⟩
  case round =>
    clear HB
    obtain ⟨j, hj, hq, rfl, hf, hbw⟩ := hrel
    have HF := Lib.hid hf
    have HBW := Lib.hid hbw
    clear hf hbw
    by_cases hlt : j < m
    · obtain ⟨g, off, rfl, hg, hc⟩ := HA.out (by omega)
      obtain ⟨g', off', e1, hg', hc0⟩ := H0.out (by omega)
      injection e1 with e1
      injection e1 with e1 e2
      subst e1 e2
      have hjx : j < L.length := by rw [HM.out]; exact hlt
      have c1 := (HBW.out.cell (p := ⟨g, off + j, none⟩) hg).trans (hc j hlt)
      rw [List.getD_eq_getElem?_getD, List.getElem?_eq_getElem hjx, Option.getD_some] at c1
      have hf := HF.out
      rw [List.drop_eq_getElem_cons hjx, List.all_cons] at hf
      have hxs := HS.out _ (List.getElem_mem hjx)
      generalize L[j] = x at *
      have hji : (j : Int) < m := by omega
      have h0i : (0 : Int) < m := by omega
      have HC0 := Lib.hid hc0
      have HF2 := Lib.hid hf
      have hxz : (txt x).size = x.length := txt_size x
      clear hc hf HF hc0
      go_wp2_with fail
      refine (l1Row_any (txt x) (by rw [txt_size]; exact hxs) _).mono ?_
      rintro e w5 ⟨rfl, hb5⟩
      have HB5 := Lib.hid (HBW.out.trans (hb5.mono HBW.out.size))
      have c0 := (HB5.out.cell (p := ⟨g, off, none⟩) hg).trans HC0.out
      have hyz : (txt (L.getD 0 [])).size = z := by rw [txt_size]; exact HZ.out
      generalize L.getD 0 [] = y at *
      have hf := HF2.out
      unfold rowB at hf
      clear HF2 hb5
      cases hgx : goodB (txt x)
      · rw [hgx, Bool.false_and, Bool.false_and] at hf
        have HF3 : Hid (tot = false) := Lib.hid (by
          have h1 : false = res := hf
          rw [HG.out, ← h1]; simp)
        clear hf hgx
        go_wp2
        go_ret
        exact ⟨by rw [HF3.out]; rfl, HB5.out⟩
      · rw [hgx, Bool.true_and] at hf
        by_cases hxn : (x.length : Int) = z
        · rw [decide_eq_true hxn, Bool.true_and] at hf
          have HF3 := Lib.hid hf
          have hne : (((x.length : Nat) : Int) != (z : Int)) = false := by rw [hxn]; simp
          clear hf hgx hxn
          go_wp2
          go_roundg (m - (j + 1))
          case measure => omega
          case rel => exact ⟨j + 1, by omega, by omega, by go_num, HF3.out, HB5.out⟩
        · rw [decide_eq_false hxn, Bool.false_and] at hf
          have HF3 : Hid (tot = false) := Lib.hid (by
            have h1 : false = res := hf
            rw [HG.out, ← h1]; simp)
          have hne : (((x.length : Nat) : Int) != (z : Int)) = true := by simpa using hxn
          clear hf hgx hxn
          go_wp2
          go_ret
          exact ⟨by rw [HF3.out]; rfl, HB5.out⟩
    · obtain rfl : j = m := by omega
      have hf := HF.out
      rw [List.drop_eq_nil_of_le (by rw [HM.out]; exact Nat.le_refl _)] at hf
      have hf : true = res := hf
      subst hf
      clear HF
      have HT : Hid (tot = decide ((j : Int) ≤ 800)) := Lib.hid (by
        rw [HG.out, Bool.and_true]
        by_cases h8 : j ≤ 800
        · rw [decide_eq_true h8, decide_eq_true (by omega)]
        · rw [decide_eq_false h8, decide_eq_false (by omega)])
      go_wp2
      go_ret
      exact ⟨by rw [HT.out]; rfl, HBW.out⟩

/-- the lengths of an argument's letters -/
theorem letss_small {ss : List ByteArray} {left : Int} (h : 0 ≤ szAll ss left) (hl : left ≤ 1048576) : ∀ l ∈ letss ss, l.length ≤ maxLen := by
  intro l hm
  obtain ⟨s, hs, rfl⟩ := List.mem_map.1 hm
  have := szAll_le h s hs
  rw [lets_len]
  unfold maxLen
  omega

end Go.Proofs.Ytnoepobbecobbaa
