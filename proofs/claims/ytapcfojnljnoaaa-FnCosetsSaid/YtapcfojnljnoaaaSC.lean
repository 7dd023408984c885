/- Lists of rows in the model; the law GoodRows. -/
import Derived.Test.YtapcfojnljnoaaaSB
import Derived.Test.YtapcfojnljnoaaaCB
namespace Go.Proofs.Ytapcfojnljnoaaa
open Go.RowKit
set_option linter.unusedSimpArgs false
set_option linter.unusedVariables false

set_option maxRecDepth 100000 in
set_option maxHeartbeats 1000000 in
theorem l6Rows_any (v : Value) (L : List (List Nat)) (w : World) (h : Txts w v L) (hl : L.length ≤ 2000000) (hs : ∀ l ∈ L, l.length ≤ maxLen) :
    Calls Try.prog 50 #[v] w fun e w' => e = .returned (.bool (listB L)) ∧ Below w.heap.size w w' := by
  obtain ⟨m, hm⟩ : ∃ m, L.length = m := ⟨_, rfl⟩
  obtain ⟨a, cap, rfl, hcap, ha⟩ := h
  have hg : listB L = (decide (m ≤ 800) && L.all (rowB (firstN L))) := by unfold listB rowsB; rw [hm]
  generalize hz : firstN L = z at *
  have hz' : L.getD 0 [] = L.getD 0 [] ∧ (L.getD 0 []).length = z := ⟨rfl, by rw [← hz]; rfl⟩
  generalize L.getD 0 [] = y at *
  rw [hm] at hl ha ⊢
  have h0 : 0 < m → ∃ g off, a = some ⟨g, off, none⟩ ∧ g < w.heap.size ∧ w.cell? ⟨g, off, none⟩ = some (.string (txt (L.getD 0 []))) := fun hp => by
    obtain ⟨g, off, e, hg, hc⟩ := ha hp
    exact ⟨g, off, e, hg, by simpa using hc 0 hp⟩
  have hl' : (m : Int) ≤ 2000000 := by omega
  have HA := Lib.hid ha
  have H0 := Lib.hid h0
  have HM := Lib.hid hm
  have HG := Lib.hid hg
  have HS := Lib.hid hs
  have HZ : Hid ((L.getD 0 []).length = z) := Lib.hid (by rw [← hz]; rfl)
  clear ha h0 hm hcap hg hs hz hz'
  generalize hb : L.all (rowB z) = res at *
  generalize hgl : listB L = tot at *
  have HB := Lib.hid hb
  clear hb hgl
  go_enter Try.func50, Try.ntmps50
  go_wp2
  go_loopg [7] m (fun q i wr => ∃ j : Nat, j ≤ m ∧ q + j = m ∧ i = .int .i64 j ∧ (L.drop j).all (rowB z) = res ∧ Below w.heap.size w wr)
  case atStart => exact ⟨0, by omega, by omega, rfl, HB.out, Below.refl _ _⟩
  case round =>
    clear HB
    obtain ⟨j, hj, hq, rfl, hf, hbw⟩ := hrel
    have HF := Lib.hid hf
    have HBW := Lib.hid hbw
    clear hf hbw
    by_cases hlt : j < m
    · obtain ⟨g, off, rfl, hg, hc⟩ := HA.out (by omega)
      obtain ⟨g', off', e1, hg', hc0⟩ := H0.out (by omega)
      injection e1 with e1
      injection e1 with e1 e2
      subst e1 e2
      have hjx : j < L.length := by rw [HM.out]; exact hlt
      have c1 := (HBW.out.cell (p := ⟨g, off + j, none⟩) hg).trans (hc j hlt)
      rw [List.getD_eq_getElem?_getD, List.getElem?_eq_getElem hjx, Option.getD_some] at c1
      have hf := HF.out
      rw [List.drop_eq_getElem_cons hjx, List.all_cons] at hf
      have hxs := HS.out _ (List.getElem_mem hjx)
      generalize L[j] = x at *
      have hji : (j : Int) < m := by omega
      have h0i : (0 : Int) < m := by omega
      have HC0 := Lib.hid hc0
      have HF2 := Lib.hid hf
      have hxz : (txt x).size = x.length := txt_size x
      clear hc hf HF hc0
      go_wp2_with fail
      refine (l1Row_any (txt x) (by rw [txt_size]; exact hxs) _).mono ?_
      rintro e w5 ⟨rfl, hb5⟩
      have HB5 := Lib.hid (HBW.out.trans (hb5.mono HBW.out.size))
      have c0 := (HB5.out.cell (p := ⟨g, off, none⟩) hg).trans HC0.out
      have hyz : (txt (L.getD 0 [])).size = z := by rw [txt_size]; exact HZ.out
      generalize L.getD 0 [] = y at *
      have hf := HF2.out
      unfold rowB at hf
      clear HF2 hb5
      cases hgx : goodB (txt x)
      · rw [hgx, Bool.false_and, Bool.false_and] at hf
        have HF3 : Hid (tot = false) := Lib.hid (by
          have h1 : false = res := hf
          rw [HG.out, ← h1]; simp)
        clear hf hgx
        go_wp2
        go_ret
        exact ⟨by rw [HF3.out]; rfl, HB5.out⟩
      · rw [hgx, Bool.true_and] at hf
        by_cases hxn : (x.length : Int) = z
        · rw [decide_eq_true hxn, Bool.true_and] at hf
          have HF3 := Lib.hid hf
          have hne : (((x.length : Nat) : Int) != (z : Int)) = false := by rw [hxn]; simp
          clear hf hgx hxn
          go_wp2
          go_roundg (m - (j + 1))
          case measure => omega
          case rel => exact ⟨j + 1, by omega, by omega, by go_num, HF3.out, HB5.out⟩
        · rw [decide_eq_false hxn, Bool.false_and] at hf
          have HF3 : Hid (tot = false) := Lib.hid (by
            have h1 : false = res := hf
            rw [HG.out, ← h1]; simp)
          have hne : (((x.length : Nat) : Int) != (z : Int)) = true := by simpa using hxn
          clear hf hgx hxn
          go_wp2
          go_ret
          exact ⟨by rw [HF3.out]; rfl, HB5.out⟩
    · obtain rfl : j = m := by omega
      have hf := HF.out
      rw [List.drop_eq_nil_of_le (by rw [HM.out]; exact Nat.le_refl _)] at hf
      have hf : true = res := hf
      subst hf
      clear HF
      have HT : Hid (tot = decide ((j : Int) ≤ 800)) := Lib.hid (by
        rw [HG.out, Bool.and_true]
        by_cases h8 : j ≤ 800
        · rw [decide_eq_true h8, decide_eq_true (by omega)]
        · rw [decide_eq_false h8, decide_eq_false (by omega)])
      go_wp2
      go_ret
      exact ⟨by rw [HT.out]; rfl, HBW.out⟩

set_option maxRecDepth 100000 in
set_option maxHeartbeats 1000000 in
theorem sGoodRows_any (v : Value) (L : List (List Nat)) (w : World) (h : Txts w v L) (hl : L.length ≤ 2000000) (hs : ∀ l ∈ L, l.length ≤ maxLen) :
    Calls Try.prog 15 #[v] w fun e w' => e = .returned (.bool (listB L)) ∧ Below w.heap.size w w' := by
  have HC := Lib.hid (l6Rows_any v L w h hl hs)
  clear h hl hs
  generalize listB L = res at *
  go_enter Try.func15, Try.ntmps15
  go_wp2_with fail
  refine HC.out.mono ?_
  rintro e w5 ⟨rfl, hb5⟩
  go_wp2
  go_ret
  exact ⟨rfl, hb5⟩

/-- the lengths of an argument's letters -/
theorem letss_small {ss : List ByteArray} {left : Int} (h : 0 ≤ szAll ss left) (hl : left ≤ 1048576) : ∀ l ∈ letss ss, l.length ≤ maxLen := by
  intro l hm
  obtain ⟨s, hs, rfl⟩ := List.mem_map.1 hm
  have := szAll_le h s hs
  rw [lets_len]
  unfold maxLen
  omega

set_option maxRecDepth 100000 in
set_option maxHeartbeats 1000000 in
theorem lawGoodRows (v : Value) (ss : List ByteArray) (W : World) (hA : Arg W v ss) (hy : ss.length ≤ maxLen ∧ ∀ s ∈ ss, s.size ≤ maxLen) :
    Calls Try.prog 3 #[v] W fun e w' => e = .returned (.bool true) ∧ Below W.heap.size W w' := by
  have hz := szStringS_any v ss W hA hy.1 hy.2 1048576 (by omega) (by omega)
  have hlen := szAll_len (ss := ss) (left := 1048576)
  have hsm := letss_small (ss := ss) (left := 1048576)
  generalize szAll ss 1048576 = z at *
  by_cases hneg : z < 0
  · clear hlen hsm
    go_enter Try.func3, Try.ntmps3
    go_wp2_with fail
    refine hz.mono ?_
    rintro e w0 ⟨rfl, rfl⟩
    go_wp2
    go_ret
    exact ⟨rfl, Below.refl _ _⟩
  · have hn := hlen (by omega)
    have hsm := hsm (by omega) (by omega)
    have hss : ss.length ≤ 1048576 := by omega
    have HS : Hid (∀ w, Arg w v ss → Calls Try.prog 16 #[v] w _) := Lib.hid (fun w h => toStringS_any v ss w h (by omega))
    have hll := letss_len ss
    generalize letss ss = L at *
    have hL : L.length ≤ 1048576 := by omega
    have HM : Hid (∀ u w, Txts w u L → Calls Try.prog 17 #[u] w _) := Lib.hid (fun u w h => iGoodRows_any u L w h (by omega) hsm)
    have HM2 : Hid (∀ u w, Txts w u L → Calls Try.prog 15 #[u] w _) := Lib.hid (fun u w h => sGoodRows_any u L w h (by omega) hsm)
    clear hlen hy hn hss hll hsm
    have HA := Lib.hid hA
    clear hA
    obtain ⟨n, hn⟩ : ∃ n, L.length = n := ⟨_, rfl⟩
    rw [hn] at hL
    have HN := Lib.hid hn
    clear hn
    have hni : (n : Int) ≤ 1048576 := by omega
    generalize hb : listB L = b at *
    cases b
    all_goals
      clear hb
      go_enter Try.func3, Try.ntmps3
      go_wp2_with fail
      refine hz.mono ?_
      rintro e w0 ⟨rfl, rfl⟩
      clear hz
      go_wp2_with fail
      refine (HS.out _ HA.out).mono ?_
      rintro e w1 ⟨v1, rfl, hn1, hb1⟩
      have B1 := Lib.hid hb1
      have T1 := Lib.hid hn1.own.txts
      clear hn1 hb1
      go_wp2_with fail
      refine (HM2.out _ _ T1.out).mono ?_
      rintro e w2 ⟨rfl, hb2⟩
      have B2 := Lib.hid (B1.out.trans (hb2.mono B1.out.size))
      clear hb2 B1 T1
      go_wp2_with fail
      refine (HS.out _ (HA.out.kept B2.out)).mono ?_
      rintro e w3 ⟨v3, rfl, hn3, hb3⟩
      have B3 := Lib.hid (B2.out.trans (hb3.mono B2.out.size))
      have N3 := Lib.hid hn3.own
      clear hn3 hb3 B2
      go_wp2_with fail
      refine (HM.out _ _ N3.out.txts).mono ?_
      rintro e w4 ⟨rfl, hb4⟩
      have B4 := Lib.hid (B3.out.trans (hb4.mono B3.out.size))
      have N4 := Lib.hid (N3.out.kept hb4)
      clear hb4 B3 N3
      go_wp2_with fail
      refine (HS.out _ (HA.out.kept B4.out)).mono ?_
      rintro e w6 ⟨v6, rfl, hn6, hb6⟩
      have B6 := Lib.hid (B4.out.trans (hb6.mono B4.out.size))
      have N6 := Lib.hid (N4.out.kept hb6)
      have L6 := Lib.hid hn6.own
      clear hn6 hb6 B4 N4
      go_wp2_with fail
      refine (eqStringS_same v3 v6 L _ N6.out L6.out (by rw [HN.out]; omega)).mono ?_
      rintro e w7 ⟨rfl, d7, hd7⟩
      have B7 : Hid (Below W.heap.size W w7) := by rw [hd7]; exact below_drewN B6.out _
      clear hd7 B6
      go_wp2
      go_ret
      exact ⟨rfl, B7.out⟩
end Go.Proofs.Ytapcfojnljnoaaa
