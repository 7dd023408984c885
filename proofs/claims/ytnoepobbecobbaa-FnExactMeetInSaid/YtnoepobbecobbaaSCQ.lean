/- The model's look at lists of rows draws, and leaves the world as it is otherwise. -/
import Derived.Test.YtnoepobbecobbaaSC
namespace Go.Proofs.Ytnoepobbecobbaa
open Go.RowKit
set_option linter.unusedSimpArgs false
set_option linter.unusedVariables false

def Drew (w w' : World) : Prop := ∃ m, w' = w.drewN m
theorem Drew.refl (w : World) : Drew w w := ⟨0, rfl⟩
theorem Drew.trans {a b c : World} (h : Drew a b) (k : Drew b c) : Drew a c := by
  obtain ⟨m, rfl⟩ := h
  obtain ⟨n, rfl⟩ := k
  exact ⟨m + n, by rw [World.drewN_drewN]⟩
theorem Drew.more {a b : World} (h : Drew a b) (n : Nat) : Drew a (b.drewN n) := h.trans ⟨n, rfl⟩
theorem Drew.cell {a b : World} (h : Drew a b) (p : Addr) : b.cell? p = a.cell? p := by
  obtain ⟨m, rfl⟩ := h
  rfl

set_option maxRecDepth 100000 in
set_option maxHeartbeats 1000000 in
theorem l1RowS_any (s : ByteArray) (hs : s.size ≤ maxLen) (w : World) :
    Calls Try.prog 95 #[.string s] w fun e w' => e = .returned (.bool (goodB s)) ∧ ∃ m, w' = w.drewN m := by
  unfold maxLen at hs
  by_cases hsz : 3 ≤ s.size ∧ s.size ≤ 8
  · obtain ⟨h3, h8⟩ := hsz
    have h3' : (3 : Int) ≤ s.size := by omega
    have h8' : (s.size : Int) ≤ 8 := by omega
    have hat := dg_at s
    generalize hd : dg s = f at *
    have HD := Lib.hid hd
    clear hd
    go_enter Try.func95, Try.ntmps95
    go_wp2_with (first | (go_at_call 75; refine (l1In_any _ _ _ _).mono ?_; rintro e w' ⟨rfl, rfl⟩))
    go_loopg [2, 3, 4] s.size (fun g r i _ wr => ∃ k : Nat, k ≤ s.size ∧ g + k = s.size ∧ i = .int .i64 k ∧ r = .bool false ∧ OkTo s.size f k ∧ Drew w wr)
    case atStart => exact ⟨0, Nat.zero_le _, rfl, rfl, rfl, fun k hk => absurd hk (Nat.not_lt_zero _), Drew.refl _⟩
    case round =>
      obtain ⟨k, hk, hg, rfl, rfl, hok, hb⟩ := hrel
      have HG := Lib.hid hg
      clear hg
      have HOK := Lib.hid hok
      clear hok
      have hbyte : (f k : Int) < 256 := by have := dg_lt s k; rw [HD.out] at this; omega
      have hbad : ∀ i, i < s.size → ¬ (49 ≤ f i ∧ f i ≤ 48 + s.size ∧ ∀ j, j < i → f j ≠ f i) → goodB s = false := fun i hi hn =>
        goodB_no (fun h => hn (by have := h.ok i hi; rw [HD.out] at this; exact this))
      have HB := Lib.hid hbad
      clear hbad
      by_cases hlt : k < s.size
      · by_cases hlo : f k < 49
        · go_wp2
          go_ret
          exact ⟨by rw [HB.out k hlt (by omega)]; rfl, hb⟩
        · have hlo' : (49 : Int) ≤ f k := by omega
          by_cases hhi : 48 + s.size < f k
          · have hhi' : (s.size : Int) < (f k : Int) - 48 := by omega
            go_wp2
            go_ret
            exact ⟨by rw [HB.out k hlt (by omega)]; rfl, hb⟩
          · have hhi' : (f k : Int) - 48 ≤ (s.size : Int) := by omega
            go_wp2
            go_loopg [2, 4] k (fun g r i wr => ∃ j : Nat, j ≤ k ∧ g + j = k ∧ i = .int .i64 j ∧ r = .bool false ∧ (∀ m, m < j → f m ≠ f k) ∧ Drew w wr)
            case atStart => exact ⟨0, Nat.zero_le _, rfl, rfl, rfl, fun k hk => absurd hk (Nat.not_lt_zero _), hb⟩
            case round =>
              clear hb
              obtain ⟨j, hj, hg, rfl, rfl, hne, hb⟩ := hrel
              have HG2 := Lib.hid hg
              clear hg
              have HNE := Lib.hid hne
              clear hne
              by_cases hjk : j < k
              · have hjs : j < s.size := by omega
                by_cases heq : f j = f k
                · have HEQ := Lib.hid heq
                  have he : ((f j : Int) == (f k : Int)) = true := by simp [heq]
                  clear heq
                  go_wp2
                  go_quiet (fail)
                  go_wp2
                  go_ret
                  exact ⟨by rw [HB.out k hlt (fun h => h.2.2 j hjk HEQ.out)]; rfl, by first | exact Drew.more hb _ | exact hb⟩
                · have HEQ := Lib.hid heq
                  have he : ((f j : Int) == (f k : Int)) = false := by simp; omega
                  clear heq
                  go_wp2
                  go_quiet (fail)
                  go_wp2
                  go_roundg (gk - 1)
                  case measure => have := HG2.out; omega
                  case rel => exact ⟨j + 1, by omega, by have := HG2.out; omega, by go_num, rfl, fun m hm => by (by_cases e : m = j; · subst e; exact HEQ.out); exact HNE.out m (by omega), by first | exact Drew.more hb _ | exact hb⟩
              · obtain rfl : j = k := by omega
                go_wp2
                go_roundg (s.size - (j + 1))
                case measure => have := HG.out; omega
                case rel => exact ⟨j + 1, by omega, by have := HG.out; omega, by go_num, rfl, okTo_succ HOK.out (by omega) (by omega) HNE.out, hb⟩
      · obtain rfl : k = s.size := by omega
        have hgood := Lib.hid (goodB_yes (s := s) (by rw [HD.out]; exact ⟨h3, h8, HOK.out, fun i hi => by rw [← HD.out]; simp [dg]; omega⟩))
        go_wp2
        go_ret
        exact ⟨by rw [hgood.out]; rfl, hb⟩
  · have hd : (decide (3 ≤ (s.size : Int)) && decide ((s.size : Int) ≤ 8)) = false := by simp; omega
    have hgood := Lib.hid (goodB_no (s := s) (fun h => hsz ⟨h.three, h.eight⟩))
    clear hsz
    go_enter Try.func95, Try.ntmps95
    go_wp2_with (first | (go_at_call 75; refine (l1In_any _ _ _ _).mono ?_; rintro e w' ⟨rfl, rfl⟩))
    go_ret
    exact ⟨by rw [hgood.out]; rfl, Drew.refl _⟩
end Go.Proofs.Ytnoepobbecobbaa
namespace Go.Proofs.Ytnoepobbecobbaa
open Go.RowKit

set_option maxRecDepth 100000 in
set_option maxHeartbeats 1000000 in
theorem l6RowsS_any (v : Value) (L : List (List Nat)) (w : World) (h : Txts w v L) (hl : L.length ≤ 2000000) (hs : ∀ l ∈ L, l.length ≤ maxLen) :
    Calls Try.prog 59 #[v] w fun e w' => e = .returned (.bool (listB L)) ∧ ∃ m, w' = w.drewN m := by
  obtain ⟨m, hm⟩ : ∃ m, L.length = m := ⟨_, rfl⟩
  obtain ⟨a, cap, rfl, hcap, ha⟩ := h
  have hg : listB L = (decide (m ≤ 800) && L.all (rowB (firstN L))) := by unfold listB rowsB; rw [hm]
  generalize hz : firstN L = z at *
  have hz' : L.getD 0 [] = L.getD 0 [] ∧ (L.getD 0 []).length = z := ⟨rfl, by rw [← hz]; rfl⟩
  generalize L.getD 0 [] = y at *
  rw [hm] at hl ha ⊢
  have h0 : 0 < m → ∃ g off, a = some ⟨g, off, none⟩ ∧ g < w.heap.size ∧ w.cell? ⟨g, off, none⟩ = some (.string (txt (L.getD 0 []))) := fun hp => by
    obtain ⟨g, off, e, hg, hc⟩ := ha hp
    exact ⟨g, off, e, hg, by simpa using hc 0 hp⟩
  have hl' : (m : Int) ≤ 2000000 := by omega
  have HA := Lib.hid ha
  have H0 := Lib.hid h0
  have HM := Lib.hid hm
  have HG := Lib.hid hg
  have HS := Lib.hid hs
  have HZ : Hid ((L.getD 0 []).length = z) := Lib.hid (by rw [← hz]; rfl)
  clear ha h0 hm hcap hg hs hz hz'
  generalize hb : L.all (rowB z) = res at *
  generalize hgl : listB L = tot at *
  have HB := Lib.hid hb
  clear hb hgl
  go_enter Try.func59, Try.ntmps59
  go_wp2
  go_loopg [7] m (fun q i wr => ∃ j : Nat, j ≤ m ∧ q + j = m ∧ i = .int .i64 j ∧ (L.drop j).all (rowB z) = res ∧ Drew w wr)
  case atStart => exact ⟨0, by omega, by omega, rfl, HB.out, Drew.refl _⟩
  case round =>
    clear HB
    obtain ⟨j, hj, hq, rfl, hf, hbw⟩ := hrel
    have HF := Lib.hid hf
    have HBW := Lib.hid hbw
    clear hf hbw
    by_cases hlt : j < m
    · obtain ⟨g, off, rfl, hg, hc⟩ := HA.out (by omega)
      obtain ⟨g', off', e1, hg', hc0⟩ := H0.out (by omega)
      injection e1 with e1
      injection e1 with e1 e2
      subst e1 e2
      have hjx : j < L.length := by rw [HM.out]; exact hlt
      have c1 := (HBW.out.cell ⟨g, off + j, none⟩).trans (hc j hlt)
      rw [List.getD_eq_getElem?_getD, List.getElem?_eq_getElem hjx, Option.getD_some] at c1
      have hf := HF.out
      rw [List.drop_eq_getElem_cons hjx, List.all_cons] at hf
      have hxs := HS.out _ (List.getElem_mem hjx)
      generalize L[j] = x at *
      have hji : (j : Int) < m := by omega
      have h0i : (0 : Int) < m := by omega
      have HC0 := Lib.hid hc0
      have HF2 := Lib.hid hf
      have hxz : (txt x).size = x.length := txt_size x
      clear hc hf HF hc0
      go_wp2_with fail
      refine (l1RowS_any (txt x) (by rw [txt_size]; exact hxs) _).mono ?_
      rintro e w5 ⟨rfl, hb5⟩
      have HB5 := Lib.hid (Drew.trans HBW.out hb5)
      have c0 := (HB5.out.cell ⟨g, off, none⟩).trans HC0.out
      have hyz : (txt (L.getD 0 [])).size = z := by rw [txt_size]; exact HZ.out
      generalize L.getD 0 [] = y at *
      have hf := HF2.out
      unfold rowB at hf
      clear HF2 hb5
      cases hgx : goodB (txt x)
      · rw [hgx, Bool.false_and, Bool.false_and] at hf
        have HF3 : Hid (tot = false) := Lib.hid (by
          have h1 : false = res := hf
          rw [HG.out, ← h1]; simp)
        clear hf hgx
        go_wp2
        go_ret
        exact ⟨by rw [HF3.out]; rfl, HB5.out⟩
      · rw [hgx, Bool.true_and] at hf
        by_cases hxn : (x.length : Int) = z
        · rw [decide_eq_true hxn, Bool.true_and] at hf
          have HF3 := Lib.hid hf
          have hne : (((x.length : Nat) : Int) != (z : Int)) = false := by rw [hxn]; simp
          clear hf hgx hxn
          go_wp2
          go_roundg (m - (j + 1))
          case measure => omega
          case rel => exact ⟨j + 1, by omega, by omega, by go_num, HF3.out, HB5.out⟩
        · rw [decide_eq_false hxn, Bool.false_and] at hf
          have HF3 : Hid (tot = false) := Lib.hid (by
            have h1 : false = res := hf
            rw [HG.out, ← h1]; simp)
          have hne : (((x.length : Nat) : Int) != (z : Int)) = true := by simpa using hxn
          clear hf hgx hxn
          go_wp2
          go_ret
          exact ⟨by rw [HF3.out]; rfl, HB5.out⟩
    · obtain rfl : j = m := by omega
      have hf := HF.out
      rw [List.drop_eq_nil_of_le (by rw [HM.out]; exact Nat.le_refl _)] at hf
      have hf : true = res := hf
      subst hf
      clear HF
      have HT : Hid (tot = decide ((j : Int) ≤ 800)) := Lib.hid (by
        rw [HG.out, Bool.and_true]
        by_cases h8 : j ≤ 800
        · rw [decide_eq_true h8, decide_eq_true (by omega)]
        · rw [decide_eq_false h8, decide_eq_false (by omega)])
      go_wp2
      go_ret
      exact ⟨by rw [HT.out]; rfl, HBW.out⟩
end Go.Proofs.Ytnoepobbecobbaa
