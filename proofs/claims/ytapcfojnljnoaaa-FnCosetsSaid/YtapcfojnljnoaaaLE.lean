/- Draws of lists of rows that may be spoilt. -/
import Derived.Test.YtapcfojnljnoaaaLD
namespace Go.Proofs.Ytapcfojnljnoaaa
open Go.RowKit
set_option linter.unusedSimpArgs false
set_option linter.unusedVariables false

/-- some texts of at most 8 letters -/
def TextsDrawn (most : Nat) (b : Nat) (a : Option Addr) (len cap m : Nat) (w : World) (e : Ending) (w' : World) : Prop :=
  ∃ (L : List (List Nat)) (v : Value), L.length ≤ most ∧ (∀ l ∈ L, l.length ≤ 8) ∧ e = .returned v ∧ New w.heap.size w' 9 v (strs L) ∧ Cur w' b a len cap m ∧ Only b w w'
theorem rowsL_small {n : Nat} (h8 : n ≤ 8) {fs : List (Nat → Nat)} : ∀ l ∈ rowsL n fs, l.length ≤ 8 := fun l hl => by
  obtain ⟨f, _, rfl⟩ := List.mem_map.1 hl
  rw [rowL_len]; exact h8
theorem New.set6 {B : Nat} {W : World} {e : TypeId} {g n cap : Nat} {xs : List Value} (h : New B W e (.slice (some ⟨g, 0, none⟩) n cap) xs) (k : Nat) (u : Value) : New B (W.setCell ⟨g, k, none⟩ u) e (.slice (some ⟨g, 0, none⟩) n cap) (xs.set k u) := ⟨h.own.set k u, h.base⟩
set_option maxRecDepth 100000 in
set_option maxHeartbeats 1000000 in
theorem rowsOf_draw (b : Nat) (a : Option Addr) (len cap m n most : Nat) (hm : m ≤ 800000) (h3 : 3 ≤ n) (h8 : n ≤ 8) (hmo : most ≤ 20) (w : World) (hc : Cur w b a len cap m) :
    Calls Try.prog 84 #[.pointer (some ⟨b, 0, none⟩), .int .i64 n, .int .i64 most] w (TextsDrawn most b a len cap (m + 50) w) := by
  have HC := Lib.hid hc
  have HLOW := Lib.hid hc.low
  have HBLT := Lib.hid hc.lt
  obtain ⟨i0, hi0, hz0, hz1, hz2⟩ := info_parts infoText
  have I0 := Lib.hid (⟨hi0, hz0, hz1, hz2⟩ : _ ∧ _ ∧ _ ∧ _)
  obtain ⟨mo, hmo2⟩ : ∃ mo, most + 1 = mo := ⟨_, rfl⟩
  have hmoi : (most : Int) + 1 = (mo : Int) := by omega
  have hmos : (most : Int) ≤ 20 := by omega
  have HMO := Lib.hid hmo2
  clear hc hi0 hz0 hz1 hz2 hmo2
  unfold TextsDrawn
  go_enter Try.func84, Try.ntmps84
  go_wp2_with fail
  refine (pick_any b a len cap m mo (by omega) (by omega) (by omega) _ HC.out).mono ?_
  rintro e w2 ⟨x, hx, rfl, hc2, ho2⟩
  have HC2 := Lib.hid hc2
  have HO2 := Lib.hid ho2
  clear hc2 ho2 HC
  go_wp2
  go_loopg [7, 8] x (fun q lv kk wr => ∃ (fs : List (Nat → Nat)) (u : Value) (mm : Nat), fs.length + q = x ∧ mm + 2 * q ≤ m + 2 + 2 * x ∧ lv = u ∧ kk = .int .i64 q ∧ Rows n fs ∧ New w.heap.size wr 9 u (strs (rowsL n fs)) ∧ Cur wr b a len cap mm ∧ Only b w wr)
  case atStart => exact ⟨[], _, m + 2, by simp, by omega, rfl, rfl, fun z hz => by simp at hz, New.nil _ _ _, HC2.out, HO2.out⟩
  case round =>
    clear HC2 HO2
    obtain ⟨fs, u, mm, hq, hmm, rfl, rfl, hr, hn, hc, ho⟩ := hrel
    have HQ := Lib.hid hq
    have HR := Lib.hid hr
    have HN := Lib.hid hn
    have HC := Lib.hid hc
    have HO := Lib.hid ho
    obtain ⟨ua, uc, rfl, hua⟩ := hn.own.view
    have hfl : fs.length ≤ 20 := by have := HMO.out; omega
    have hul : (strs (rowsL n fs)).length = fs.length := by rw [strs_len, rowsL_len]
    rw [hul] at HN hua ⊢
    have HUA := Lib.hid hua
    clear hq hr hn hc ho hul hua
    by_cases hg : 0 < gk
    · obtain ⟨g', rfl⟩ : ∃ g', gk = g' + 1 := ⟨gk - 1, by omega⟩
      have hgi : (0 : Int) < ((g' + 1 : Nat) : Int) := by omega
      go_wp2_with fail
      refine (row_draw6 b a len cap mm n (by have := HMO.out; omega) h3 h8 _ HC.out).mono ?_
      rintro e w5 ⟨f, hf, rfl, hc5, ho5⟩
      have HF := Lib.hid hf
      have HC5 := Lib.hid hc5
      have HN5 := Lib.hid (HN.out.only ho5 HBLT.out)
      have HO5 := Lib.hid (HO.out.trans ho5)
      have HTXT : Hid (Value.string (strOf n f) = .string (txt (rowL n f))) := Lib.hid (by rw [txt_rowL])
      have HSZ := Lib.hid HO5.out.size
      generalize strOf n f = sx at *
      clear hf hc5 ho5 HN HC HO
      go_wp2_with (at_builtin; refine wpList_app1 rfl (.tmp 17) (.tmp 21) 22 rfl 9 i0 (.string ⟨#[]⟩) 16 Try.underlying22 I0.out.1 I0.out.2.1 I0.out.2.2.1 I0.out.2.2.2 rfl w.heap.size w5 _ (strs (rowsL n fs)) rfl HN5.out rfl rfl HSZ.out (Below.refl _ _) (by rw [strs_len, rowsL_len]; omega) (by omega) ?_)
      intro v7 w7 hn7 _ hb7 _
      rw [HTXT.out, strs_snoc, show rowsL n fs ++ [rowL n f] = rowsL n (fs ++ [f]) by simp [rowsL]] at hn7
      have HN7 := Lib.hid hn7
      have HC7 := Lib.hid (HC5.out.under hb7 HBLT.out HLOW.out)
      have HO7 := Lib.hid (onlyThen HO5.out hb7)
      obtain ⟨ua7, uc7, rfl, -⟩ := hn7.own.view
      clear hn7 hb7 HN5 HC5 HO5
      go_wp2
      go_roundg g'
      case measure => omega
      case rel => exact ⟨fs ++ [f], _, mm + 2, by have := HQ.out; simp; omega, by omega, rfl, by go_num, fun z hz => by
          rcases List.mem_append.1 hz with hz | hz
          · exact HR.out z hz
          · simp at hz; rw [hz]; exact HF.out, HN7.out, HC7.out, HO7.out⟩
    · obtain rfl : gk = 0 := by omega
      have hmm5 : mm ≤ m + 44 := by have := HMO.out; omega
      by_cases h0 : 0 < fs.length
      · obtain ⟨gu, rfl⟩ := HUA.out h0
        have h0i : (0 : Int) < (fs.length : Int) := by omega
        go_wp2_with fail
        refine (one_any b a len cap mm 25 (by omega) (by omega) (by omega) _ HC.out).mono ?_
        rintro e w5 ⟨t, rfl, hc5, ho5⟩
        have HC5 := Lib.hid hc5
        have HN5 := Lib.hid (HN.out.only ho5 HBLT.out)
        have HO5 := Lib.hid (HO.out.trans ho5)
        clear hc5 ho5 HN HC HO
        have hat : (strs (rowsL n fs))[0]? = some (.string (strOf n fs[0])) := strs_rowsL_get n fs 0 h0
        have c1 := HN5.out.own.cell 0 _ hat
        have f1 := HN5.out.own.free 0
        generalize strOf n fs[0] = s0 at *
        cases t
        · clear c1 f1 hat
          go_wp2
          go_ret
          exact ⟨rowsL n fs, _, by rw [rowsL_len]; have := HMO.out; have := HQ.out; omega, rowsL_small h8, rfl, HN5.out, HC5.out.more (by omega), HO5.out⟩
        · have hns := HN5.out.set6 0 (.string ⟨#[49]⟩)
          have hgb : w.heap.size ≤ gu := HN5.out.base gu rfl
          have hgw : gu < w5.heap.size := HN5.out.own.lt gu rfl
          have hbs : Below w.heap.size w5 (w5.setCell ⟨gu, 0, none⟩ (.string ⟨#[49]⟩)) := (Below.refl _ w5).setCell (p := ⟨gu, 0, none⟩) hgb _
          have HC6 := Lib.hid (HC5.out.under hbs HBLT.out HLOW.out)
          have HO6 := Lib.hid (onlyThen HO5.out hbs)
          rw [show (Value.string ⟨#[49]⟩) = .string (txt [49]) from rfl, strs_set] at hns
          have HN6 : Hid (New w.heap.size (w5.setCell ⟨gu, 0, none⟩ (.string ⟨#[49]⟩)) 9 (.slice (some ⟨gu, 0, none⟩) fs.length uc) (strs ((rowsL n fs).set 0 [49]))) := Lib.hid hns
          clear hns hgb hgw hbs hat
          go_wp2
          go_ret
          exact ⟨(rowsL n fs).set 0 [49], _, by rw [List.length_set, rowsL_len]; have := HMO.out; have := HQ.out; omega, fun l hl => by
            rcases List.mem_or_eq_of_mem_set hl with h | rfl
            · exact rowsL_small h8 l h
            · simp, rfl, HN6.out, HC6.out.more (by omega), HO6.out⟩
      · have hf0 : fs = [] := List.eq_nil_of_length_eq_zero (by omega)
        subst hf0
        go_wp2
        go_ret
        exact ⟨rowsL n [], _, by simp [rowsL], rowsL_small h8, rfl, HN.out, HC.out.more (by omega), HO.out⟩
end Go.Proofs.Ytapcfojnljnoaaa
