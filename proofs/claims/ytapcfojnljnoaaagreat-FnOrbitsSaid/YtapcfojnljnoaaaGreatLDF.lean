/- Draws of rows and of lists of rows. Draws of lists of rows that may be spoilt. DrawCloseRows, DrawGoodRows. -/
import Derived.Test.YtapcfojnljnoaaaGreatLAC
namespace Go.Proofs.YtapcfojnljnoaaaGreat
open Go.RowKit
set_option linter.unusedSimpArgs false
set_option linter.unusedVariables false

def RowDrawn (n : Nat) (b : Nat) (a : Option Addr) (len cap m : Nat) (w : World) (e : Ending) (w' : World) : Prop :=
  ∃ f, IsRow n f ∧ e = .returned (.string (strOf n f)) ∧ Cur w' b a len cap m ∧ Only b w w'
set_option maxRecDepth 100000 in
set_option maxHeartbeats 1000000 in
theorem row_draw6 (b : Nat) (a : Option Addr) (len cap m n : Nat) (hm : m ≤ 900000) (h3 : 3 ≤ n) (h8 : n ≤ 8) (w : World) (hc : Cur w b a len cap m) :
    Calls Tryz.prog 41 #[.pointer (some ⟨b, 0, none⟩), .int .i64 n] w (RowDrawn n b a len cap (m + 2) w) := by
  have HC := Lib.hid hc
  have hf := fact_le h8
  have hfp := fact_pos n
  have HRW := Lib.hid (fun x (hx : x < fact n) => isRow_rank h3 h8 hx)
  have HST := Lib.hid (fun x => str_rank n x)
  clear hc
  unfold RowDrawn
  go_enter Tryz.func41, Tryz.ntmps41
  go_wp2_with fail
  refine (l1Fact_any n h8 _).mono ?_
  rintro e w' ⟨rfl, rfl⟩
  go_wp2_with fail
  refine (pick_any b a len cap m (fact n) hm hfp (by omega) _ HC.out).mono ?_
  rintro e w1 ⟨x, hx, rfl, hc1, ho1⟩
  have HC1 := Lib.hid hc1
  have HO1 := Lib.hid ho1
  clear hc1 ho1
  go_wp2_with fail
  refine (sRowOf_yes n x h3 h8 hx _).mono ?_
  rintro e w2 ⟨rfl, hb2⟩
  have HC2 := Lib.hid (HC1.out.below hb2)
  have HO2 := Lib.hid (HO1.out.trans (Only.of_below hb2))
  clear hb2
  go_wp2
  go_ret
  exact ⟨rankF n x, HRW.out x hx, by rw [← HST.out]; rfl, HC2.out, HO2.out⟩
/-- a few rows of a small stage -/
def GensDrawn (b : Nat) (a : Option Addr) (len cap m : Nat) (w : World) (e : Ending) (w' : World) : Prop :=
  ∃ (n : Nat) (fs : List (Nat → Nat)) (v : Value), 3 ≤ n ∧ n ≤ 5 ∧ 1 ≤ fs.length ∧ fs.length ≤ 2 ∧ Rows n fs ∧ e = .returned v ∧ New w.heap.size w' 9 v (strs (rowsL n fs)) ∧ Cur w' b a len cap m ∧ Only b w w'
/-- the bytes lie below B -/
def CodeLow (a : Option Addr) (len B : Nat) : Prop := len = 0 ∨ ∃ xb xo, a = some ⟨xb, xo, none⟩ ∧ xb < B
theorem Cur.low {W : World} {b : Nat} {a : Option Addr} {len cap m : Nat} (H : Cur W b a len cap m) : CodeLow a len W.heap.size := by
  rcases H.1 with h0 | ⟨xb, xo, z, ha, _, hz⟩
  · exact .inl h0
  · rcases Nat.eq_zero_or_pos len with h0 | h0
    · exact .inl h0
    · exact .inr ⟨xb, xo, ha, block_lt_of_cell (hz 0 h0).2⟩
theorem Cur.under {W W' : World} {B b : Nat} {a : Option Addr} {len cap m : Nat} (H : Cur W b a len cap m) (h : Below B W W') (hb : b < B) (hx : CodeLow a len B) : Cur W' b a len cap m := by
  obtain ⟨h1, h2, p, s, h3, h4⟩ := H
  refine ⟨?_, h2, p, s, h3, h4.keep h hb⟩
  rcases h1 with h0 | ⟨xb, xo, z, ha, hne, hz⟩
  · exact .inl h0
  · rcases hx with h0 | ⟨xb', xo', ha', hlt⟩
    · exact .inl h0
    · rw [ha] at ha'
      injection ha' with ha'
      injection ha' with e1 e2
      subst e1 e2
      exact .inr ⟨xb, xo, z, ha, hne, fun i hi => ⟨(hz i hi).1, (h.cell (p := ⟨xb, xo + i, none⟩) hlt).trans (hz i hi).2⟩⟩
theorem onlyThen {b : Nat} {w W W' : World} (h : Only b w W) (hb : Below w.heap.size W W') : Only b w W' :=
  ⟨hb.os.trans h.os, hb.tape.trans h.tape, hb.output.trans h.output, Nat.le_trans h.size hb.size, fun k hk hne => (hb.block k hk).trans (h.block k hk hne)⟩

set_option maxRecDepth 100000 in
set_option maxHeartbeats 1000000 in
theorem gens_draw (b : Nat) (a : Option Addr) (len cap m : Nat) (hm : m ≤ 800000) (w : World) (hc : Cur w b a len cap m) :
    Calls Tryz.prog 18 #[.pointer (some ⟨b, 0, none⟩)] w (GensDrawn b a len cap (m + 10) w) := by
  have HC := Lib.hid hc
  have HLOW := Lib.hid hc.low
  have HBLT := Lib.hid hc.lt
  obtain ⟨i0, hi0, hz0, hz1, hz2⟩ := info_parts infoText
  have I0 := Lib.hid (⟨hi0, hz0, hz1, hz2⟩ : _ ∧ _ ∧ _ ∧ _)
  clear hc hi0 hz0 hz1 hz2
  unfold GensDrawn
  go_enter Tryz.func18, Tryz.ntmps18
  have hlt := HC.out.lt
  go_wp2_with fail
  refine (among_any (fun n => 3 ≤ n ∧ n ≤ 5) b a len cap m 5 w.heap.size 5 (fun i => [3, 4, 4, 5, 5].getD i 0) (by omega) (by omega) (by omega) _ (HC.out.below ((Below.refl _ _).alloc (Nat.le_refl _) _)) (by omega) (fun i hi => ⟨?_, list_cells w [3, 4, 4, 5, 5] _ i hi⟩)).mono ?_
  · have : i = 0 ∨ i = 1 ∨ i = 2 ∨ i = 3 ∨ i = 4 := by omega
    rcases this with rfl | rfl | rfl | rfl | rfl <;> decide
  rintro e w1 ⟨x, hx, rfl, hc1, ho1⟩
  obtain ⟨n, rfl⟩ : ∃ n : Nat, x = (n : Int) := ⟨x.toNat, by omega⟩
  have h3 : 3 ≤ n := by omega
  have h5 : n ≤ 5 := by omega
  have HC1 := Lib.hid hc1
  have HO1 := Lib.hid (Only.trans (Only.of_below (b := b) ((Below.refl w.heap.size w).alloc (Nat.le_refl _) _)) ho1)
  clear hx hc1 ho1 hlt
  go_wp2_with fail
  refine (pick_any b a len cap (m + 2) 2 (by omega) (by omega) (by omega) _ HC1.out).mono ?_
  rintro e w2 ⟨x, hx, rfl, hc2, ho2⟩
  have HC2 := Lib.hid hc2
  have HO2 := Lib.hid (HO1.out.trans ho2)
  clear hc2 ho2 HC1 HO1
  go_wp2_with fail
  go_loopg [4, 5] (1 + x) (fun q lv kk wr => ∃ (fs : List (Nat → Nat)) (u : Value) (mm : Nat), fs.length + q = 1 + x ∧ mm + 2 * q ≤ m + 10 ∧ lv = u ∧ kk = .int .i64 q ∧ Rows n fs ∧ New w.heap.size wr 9 u (strs (rowsL n fs)) ∧ Cur wr b a len cap mm ∧ Only b w wr)
  case atStart => exact ⟨[], _, m + 4, by simp, by omega, rfl, by go_num, fun z hz => by simp at hz, New.nil _ _ _, HC2.out, HO2.out⟩
  case round =>
    clear HC2 HO2
    obtain ⟨fs, u, mm, hq, hmm, rfl, rfl, hr, hn, hc, ho⟩ := hrel
    have HQ := Lib.hid hq
    have HR := Lib.hid hr
    have HN := Lib.hid hn
    have HC := Lib.hid hc
    have HO := Lib.hid ho
    obtain ⟨ua, uc, rfl, -⟩ := hn.own.view
    clear hq hr hn hc ho
    by_cases hg : 0 < gk
    · obtain ⟨g', rfl⟩ : ∃ g', gk = g' + 1 := ⟨gk - 1, by omega⟩
      have hgi : (0 : Int) < ((g' + 1 : Nat) : Int) := by omega
      go_wp2_with fail
      refine (row_draw6 b a len cap mm n (by omega) h3 (by omega) _ HC.out).mono ?_
      rintro e w5 ⟨f, hf, rfl, hc5, ho5⟩
      have HF := Lib.hid hf
      have HC5 := Lib.hid hc5
      have HN5 := Lib.hid (HN.out.only ho5 HBLT.out)
      have HO5 := Lib.hid (HO.out.trans ho5)
      have HTXT : Hid (Value.string (strOf n f) = .string (txt (rowL n f))) := Lib.hid (by rw [txt_rowL])
      have HSZ := Lib.hid HO5.out.size
      have hfl : fs.length ≤ 2 := by have := HQ.out; omega
      generalize strOf n f = sx at *
      clear hf hc5 ho5 HN HC HO
      go_wp2_with (at_builtin; refine wpList_app1 rfl (.tmp 16) (.tmp 20) 24 rfl 9 i0 (.string ⟨#[]⟩) 16 Tryz.underlying24 I0.out.1 I0.out.2.1 I0.out.2.2.1 I0.out.2.2.2 rfl w.heap.size w5 _ (strs (rowsL n fs)) rfl HN5.out rfl rfl HSZ.out (Below.refl _ _) (by rw [strs_len, rowsL_len]; omega) (by omega) ?_)
      intro v7 w7 hn7 _ hb7 _
      rw [HTXT.out, strs_snoc, show rowsL n fs ++ [rowL n f] = rowsL n (fs ++ [f]) by simp [rowsL]] at hn7
      have HN7 := Lib.hid hn7
      have HC7 := Lib.hid (HC5.out.under hb7 HBLT.out HLOW.out)
      have HO7 := Lib.hid (onlyThen HO5.out hb7)
      obtain ⟨ua7, uc7, rfl, -⟩ := hn7.own.view
      clear hn7 hb7 HN5 HC5 HO5
      go_wp2
      go_roundg g'
      case measure => omega
      case rel => exact ⟨fs ++ [f], _, mm + 2, by have := HQ.out; simp; omega, by omega, rfl, by go_num, fun z hz => by
          rcases List.mem_append.1 hz with hz | hz
          · exact HR.out z hz
          · simp at hz; rw [hz]; exact HF.out, HN7.out, HC7.out, HO7.out⟩
    · obtain rfl : gk = 0 := by omega
      go_wp2
      go_ret
      exact ⟨n, fs, _, h3, h5, by have := HQ.out; omega, by have := HQ.out; omega, HR.out, rfl, HN.out, HC.out.more (by omega), HO.out⟩
end Go.Proofs.YtapcfojnljnoaaaGreat
namespace Go.Proofs.YtapcfojnljnoaaaGreat
open Go.RowKit
set_option linter.unusedSimpArgs false
set_option linter.unusedVariables false

/-- some texts of at most 8 letters -/
def TextsDrawn (most : Nat) (b : Nat) (a : Option Addr) (len cap m : Nat) (w : World) (e : Ending) (w' : World) : Prop :=
  ∃ (L : List (List Nat)) (v : Value), L.length ≤ most ∧ (∀ l ∈ L, l.length ≤ 8) ∧ e = .returned v ∧ New w.heap.size w' 9 v (strs L) ∧ Cur w' b a len cap m ∧ Only b w w'
theorem rowsL_small {n : Nat} (h8 : n ≤ 8) {fs : List (Nat → Nat)} : ∀ l ∈ rowsL n fs, l.length ≤ 8 := fun l hl => by
  obtain ⟨f, _, rfl⟩ := List.mem_map.1 hl
  rw [rowL_len]; exact h8
theorem New.set6 {B : Nat} {W : World} {e : TypeId} {g n cap : Nat} {xs : List Value} (h : New B W e (.slice (some ⟨g, 0, none⟩) n cap) xs) (k : Nat) (u : Value) : New B (W.setCell ⟨g, k, none⟩ u) e (.slice (some ⟨g, 0, none⟩) n cap) (xs.set k u) := ⟨h.own.set k u, h.base⟩
set_option maxRecDepth 100000 in
set_option maxHeartbeats 1000000 in
theorem rowsOf_draw (b : Nat) (a : Option Addr) (len cap m n most : Nat) (hm : m ≤ 800000) (h3 : 3 ≤ n) (h8 : n ≤ 8) (hmo : most ≤ 20) (w : World) (hc : Cur w b a len cap m) :
    Calls Tryz.prog 40 #[.pointer (some ⟨b, 0, none⟩), .int .i64 n, .int .i64 most] w (TextsDrawn most b a len cap (m + 50) w) := by
  have HC := Lib.hid hc
  have HLOW := Lib.hid hc.low
  have HBLT := Lib.hid hc.lt
  obtain ⟨i0, hi0, hz0, hz1, hz2⟩ := info_parts infoText
  have I0 := Lib.hid (⟨hi0, hz0, hz1, hz2⟩ : _ ∧ _ ∧ _ ∧ _)
  obtain ⟨mo, hmo2⟩ : ∃ mo, most + 1 = mo := ⟨_, rfl⟩
  have hmoi : (most : Int) + 1 = (mo : Int) := by omega
  have hmos : (most : Int) ≤ 20 := by omega
  have HMO := Lib.hid hmo2
  clear hc hi0 hz0 hz1 hz2 hmo2
  unfold TextsDrawn
  go_enter Tryz.func40, Tryz.ntmps40
  go_wp2_with fail
  refine (pick_any b a len cap m mo (by omega) (by omega) (by omega) _ HC.out).mono ?_
  rintro e w2 ⟨x, hx, rfl, hc2, ho2⟩
  have HC2 := Lib.hid hc2
  have HO2 := Lib.hid ho2
  clear hc2 ho2 HC
  go_wp2
  go_loopg [7, 8] x (fun q lv kk wr => ∃ (fs : List (Nat → Nat)) (u : Value) (mm : Nat), fs.length + q = x ∧ mm + 2 * q ≤ m + 2 + 2 * x ∧ lv = u ∧ kk = .int .i64 q ∧ Rows n fs ∧ New w.heap.size wr 9 u (strs (rowsL n fs)) ∧ Cur wr b a len cap mm ∧ Only b w wr)
  case atStart => exact ⟨[], _, m + 2, by simp, by omega, rfl, rfl, fun z hz => by simp at hz, New.nil _ _ _, HC2.out, HO2.out⟩
  case round =>
    clear HC2 HO2
    obtain ⟨fs, u, mm, hq, hmm, rfl, rfl, hr, hn, hc, ho⟩ := hrel
    have HQ := Lib.hid hq
    have HR := Lib.hid hr
    have HN := Lib.hid hn
    have HC := Lib.hid hc
    have HO := Lib.hid ho
    obtain ⟨ua, uc, rfl, hua⟩ := hn.own.view
    have hfl : fs.length ≤ 20 := by have := HMO.out; omega
    have hul : (strs (rowsL n fs)).length = fs.length := by rw [strs_len, rowsL_len]
    rw [hul] at HN hua ⊢
    have HUA := Lib.hid hua
    clear hq hr hn hc ho hul hua
    by_cases hg : 0 < gk
    · obtain ⟨g', rfl⟩ : ∃ g', gk = g' + 1 := ⟨gk - 1, by omega⟩
      have hgi : (0 : Int) < ((g' + 1 : Nat) : Int) := by omega
      go_wp2_with fail
      refine (row_draw6 b a len cap mm n (by have := HMO.out; omega) h3 h8 _ HC.out).mono ?_
      rintro e w5 ⟨f, hf, rfl, hc5, ho5⟩
      have HF := Lib.hid hf
      have HC5 := Lib.hid hc5
      have HN5 := Lib.hid (HN.out.only ho5 HBLT.out)
      have HO5 := Lib.hid (HO.out.trans ho5)
      have HTXT : Hid (Value.string (strOf n f) = .string (txt (rowL n f))) := Lib.hid (by rw [txt_rowL])
      have HSZ := Lib.hid HO5.out.size
      generalize strOf n f = sx at *
      clear hf hc5 ho5 HN HC HO
      go_wp2_with (at_builtin; refine wpList_app1 rfl (.tmp 17) (.tmp 21) 24 rfl 9 i0 (.string ⟨#[]⟩) 16 Tryz.underlying24 I0.out.1 I0.out.2.1 I0.out.2.2.1 I0.out.2.2.2 rfl w.heap.size w5 _ (strs (rowsL n fs)) rfl HN5.out rfl rfl HSZ.out (Below.refl _ _) (by rw [strs_len, rowsL_len]; omega) (by omega) ?_)
      intro v7 w7 hn7 _ hb7 _
      rw [HTXT.out, strs_snoc, show rowsL n fs ++ [rowL n f] = rowsL n (fs ++ [f]) by simp [rowsL]] at hn7
      have HN7 := Lib.hid hn7
      have HC7 := Lib.hid (HC5.out.under hb7 HBLT.out HLOW.out)
      have HO7 := Lib.hid (onlyThen HO5.out hb7)
      obtain ⟨ua7, uc7, rfl, -⟩ := hn7.own.view
      clear hn7 hb7 HN5 HC5 HO5
      go_wp2
      go_roundg g'
      case measure => omega
      case rel => exact ⟨fs ++ [f], _, mm + 2, by have := HQ.out; simp; omega, by omega, rfl, by go_num, fun z hz => by
          rcases List.mem_append.1 hz with hz | hz
          · exact HR.out z hz
          · simp at hz; rw [hz]; exact HF.out, HN7.out, HC7.out, HO7.out⟩
    · obtain rfl : gk = 0 := by omega
      have hmm5 : mm ≤ m + 44 := by have := HMO.out; omega
      by_cases h0 : 0 < fs.length
      · obtain ⟨gu, rfl⟩ := HUA.out h0
        have h0i : (0 : Int) < (fs.length : Int) := by omega
        go_wp2_with fail
        refine (one_any b a len cap mm 25 (by omega) (by omega) (by omega) _ HC.out).mono ?_
        rintro e w5 ⟨t, rfl, hc5, ho5⟩
        have HC5 := Lib.hid hc5
        have HN5 := Lib.hid (HN.out.only ho5 HBLT.out)
        have HO5 := Lib.hid (HO.out.trans ho5)
        clear hc5 ho5 HN HC HO
        have hat : (strs (rowsL n fs))[0]? = some (.string (strOf n fs[0])) := strs_rowsL_get n fs 0 h0
        have c1 := HN5.out.own.cell 0 _ hat
        have f1 := HN5.out.own.free 0
        generalize strOf n fs[0] = s0 at *
        cases t
        · clear c1 f1 hat
          go_wp2
          go_ret
          exact ⟨rowsL n fs, _, by rw [rowsL_len]; have := HMO.out; have := HQ.out; omega, rowsL_small h8, rfl, HN5.out, HC5.out.more (by omega), HO5.out⟩
        · have hns := HN5.out.set6 0 (.string ⟨#[49]⟩)
          have hgb : w.heap.size ≤ gu := HN5.out.base gu rfl
          have hgw : gu < w5.heap.size := HN5.out.own.lt gu rfl
          have hbs : Below w.heap.size w5 (w5.setCell ⟨gu, 0, none⟩ (.string ⟨#[49]⟩)) := (Below.refl _ w5).setCell (p := ⟨gu, 0, none⟩) hgb _
          have HC6 := Lib.hid (HC5.out.under hbs HBLT.out HLOW.out)
          have HO6 := Lib.hid (onlyThen HO5.out hbs)
          rw [show (Value.string ⟨#[49]⟩) = .string (txt [49]) from rfl, strs_set] at hns
          have HN6 : Hid (New w.heap.size (w5.setCell ⟨gu, 0, none⟩ (.string ⟨#[49]⟩)) 9 (.slice (some ⟨gu, 0, none⟩) fs.length uc) (strs ((rowsL n fs).set 0 [49]))) := Lib.hid hns
          clear hns hgb hgw hbs hat
          go_wp2
          go_ret
          exact ⟨(rowsL n fs).set 0 [49], _, by rw [List.length_set, rowsL_len]; have := HMO.out; have := HQ.out; omega, fun l hl => by
            rcases List.mem_or_eq_of_mem_set hl with h | rfl
            · exact rowsL_small h8 l h
            · simp, rfl, HN6.out, HC6.out.more (by omega), HO6.out⟩
      · have hf0 : fs = [] := List.eq_nil_of_length_eq_zero (by omega)
        subst hf0
        go_wp2
        go_ret
        exact ⟨rowsL n [], _, by simp [rowsL], rowsL_small h8, rfl, HN.out, HC.out.more (by omega), HO.out⟩
end Go.Proofs.YtapcfojnljnoaaaGreat
namespace Go.Proofs.YtapcfojnljnoaaaGreat
open Go.RowKit
set_option linter.unusedSimpArgs false
set_option linter.unusedVariables false

def DrawnTexts (most : Nat) (w : World) (e : Ending) (w' : World) : Prop :=
  ∃ (L : List (List Nat)) (v : Value), L.length ≤ most ∧ (∀ l ∈ L, l.length ≤ 8) ∧ e = .returned v ∧ New w.heap.size w' 9 v (strs L) ∧ Below w.heap.size w w'
set_option maxRecDepth 100000 in
set_option maxHeartbeats 1000000 in
theorem DrawGoodRows_any (a : Option Addr) (len cap : Nat) (zs : List Int) (w : World) (hz : IsBytes w a len cap zs) (hl : len ≤ 1048576) :
    Calls Tryz.prog 32 #[.slice a len cap] w (DrawnTexts 7 w) := by
  have HCODE := Lib.hid (codeAt_of hz)
  obtain ⟨i0, hi0, hz0, hz1, hz2⟩ := info_parts infoText
  have I0 := Lib.hid (⟨hi0, hz0, hz1, hz2⟩ : _ ∧ _ ∧ _ ∧ _)
  clear hz hi0 hz0 hz1 hz2
  unfold DrawnTexts
  go_enter Tryz.func32, Tryz.ntmps32
  go_wp2_with fail
  refine (stage_draw w.heap.size a len cap 0 (by omega) _ (cur_new a len cap w HCODE.out hl)).mono ?_
  rintro e w1 ⟨x, ⟨hx3, hx8⟩, rfl, hc1, ho1⟩
  obtain ⟨n, rfl⟩ : ∃ n : Nat, x = (n : Int) := ⟨x.toNat, by omega⟩
  have h3 : 3 ≤ n := by omega
  have h8 : n ≤ 8 := by omega
  have HC1 := Lib.hid hc1
  have HO1 := Lib.hid ho1
  have HSZ := Lib.hid (show w.heap.size < w1.heap.size from hc1.lt)
  clear hc1 ho1 hx3 hx8
  go_wp2_with fail
  refine (rowsOf_draw w.heap.size a len cap _ n 6 (by omega) h3 h8 (by omega) _ HC1.out).mono ?_
  rintro e w4 ⟨L, v, h1, h2, rfl, hn, hc4, ho4⟩
  have HN := Lib.hid hn
  have HC4 := Lib.hid hc4
  have HO4 := Lib.hid (HO1.out.trans ho4)
  have HL := Lib.hid (And.intro h1 h2)
  obtain ⟨ua, uc, rfl, -⟩ := hn.own.view
  clear hn hc4 ho4 h1 h2
  go_wp2_with fail
  refine (one_any w.heap.size a len cap _ 12 (by omega) (by omega) (by omega) _ HC4.out).mono ?_
  rintro e w5 ⟨t, rfl, hc5, ho5⟩
  have HO5 := Lib.hid (HO4.out.trans ho5)
  have HB5 := Lib.hid (cur_below HO5.out)
  have HN5 := Lib.hid ((HN.out.only ho5 HSZ.out).lower (Nat.le_of_lt HSZ.out))
  clear hc5 ho5
  cases t
  · go_wp2
    go_ret
    exact ⟨L, _, by have := HL.out.1; omega, HL.out.2, rfl, HN5.out, HB5.out⟩
  · have hL6 := HL.out.1
    go_wp2_with (at_builtin; refine wpList_app1 rfl (.tmp 14) (.tmp 15) 24 rfl 9 i0 (.string ⟨#[]⟩) 16 Tryz.underlying24 I0.out.1 I0.out.2.1 I0.out.2.2.1 I0.out.2.2.2 rfl w.heap.size w _ (strs L) rfl HN5.out rfl rfl HB5.out.size HB5.out (by rw [strs_len]; omega) (by omega) ?_)
    intro v7 w7 hn7 _ hb7 _
    rw [show (Value.string ⟨#[49, 50, 51]⟩) = .string (txt [49, 50, 51]) from rfl, strs_snoc] at hn7
    have HN7 := Lib.hid hn7
    have HB7 := Lib.hid hb7
    obtain ⟨ua7, uc7, rfl, -⟩ := hn7.own.view
    clear hn7 hb7
    go_wp2
    go_ret
    exact ⟨L ++ [[49, 50, 51]], _, by rw [List.length_append]; simp; omega, fun l hl => by
      rcases List.mem_append.1 hl with h | h
      · exact HL.out.2 l h
      · simp at h; rw [h]; simp, rfl, HN7.out, HB7.out⟩
end Go.Proofs.YtapcfojnljnoaaaGreat
