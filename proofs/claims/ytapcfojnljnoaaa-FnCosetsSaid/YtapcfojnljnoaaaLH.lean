/- Draws of groups: as lists of texts, maybe without their head. -/
import Derived.Test.YtapcfojnljnoaaaLG
import Derived.Test.YtapcfojnljnoaaaLF
namespace Go.Proofs.Ytapcfojnljnoaaa
open Go.RowKit
set_option linter.unusedSimpArgs false
set_option linter.unusedVariables false

/-- texts in a block that is new -/
def TxN (B : Nat) (W : World) (v : Value) (L : List (List Nat)) : Prop := Txts W v L ∧ ∀ g off n cap, v = .slice (some ⟨g, off, none⟩) n cap → B ≤ g
theorem New.txN {B : Nat} {W : World} {v : Value} {L : List (List Nat)} (h : New B W 9 v (strs L)) : TxN B W v L :=
  ⟨h.own.txts, fun g off n cap e => h.base g (by rw [e]; rfl)⟩
theorem TxN.only {B b : Nat} {W W' : World} {v : Value} {L : List (List Nat)} (h : TxN B W v L) (ho : Only b W W') (hb : b < B) : TxN B W' v L := by
  obtain ⟨⟨a, cap, rfl, hcap, hc⟩, hx⟩ := h
  refine ⟨⟨a, cap, rfl, hcap, fun h0 => ?_⟩, hx⟩
  obtain ⟨g, off, rfl, hg, hcc⟩ := hc h0
  have hgb := hx g off _ _ rfl
  refine ⟨g, off, rfl, Nat.lt_of_lt_of_le hg ho.size, fun j hj => ?_⟩
  rw [← hcc j hj]
  unfold World.cell?
  rw [ho.block g hg (by omega)]
theorem TxN.lower {B B' : Nat} {W : World} {v : Value} {L : List (List Nat)} (h : TxN B W v L) (hb : B' ≤ B) : TxN B' W v L := ⟨h.1, fun g off n cap e => Nat.le_trans hb (h.2 g off n cap e)⟩
set_option maxRecDepth 100000 in
theorem TxN.tail {B : Nat} {W : World} {a : Option Addr} {m cap : Nat} {L : List (List Nat)} (h : TxN B W (.slice a m cap) L) (h1 : 1 ≤ L.length) :
    ∃ u, (∀ W', (Instr.sliceAt 22 (.slice a m cap) (some (.int .i64 1)) none none).run Try.prog W' = .ok u W') ∧ TxN B W u (L.drop 1) := by
  obtain ⟨⟨a', cap', hv, hcap, hc⟩, hx⟩ := h
  injection hv with e1 e2 e3
  subst e1 e2 e3
  obtain ⟨k, hk⟩ : ∃ k : Nat, k = 1 := ⟨1, rfl⟩
  rw [show (Value.int .i64 1) = .int .i64 ((k : Nat) : Int) by rw [hk]; rfl, ← hk]
  refine ⟨.slice (if cap = k then a else a.map (·.add k)) (L.length - k) (cap - k), fun W' => ?_, ⟨?_, ?_⟩⟩
  · rw [run_sliceAt_slice W' _ _ _ _ _ Try.underlying22, run_slice_l W' _ _ _ _ Try.underlying22 .i64 _ (by omega) (by omega), show (sizeOf (Try.prog.elem 22)).run Try.prog W' = .ok 1 W' by kernel_rfl]
    simp [Result.andThen, sliced]
  · have e : (L.drop k).length = L.length - k := by simp
    refine ⟨_, cap - k, by rw [e], by omega, fun h0 => ?_⟩
    rw [e] at h0
    obtain ⟨g, off, rfl, hg, hcc⟩ := hc (by omega)
    refine ⟨g, off + k, ?_, hg, fun j hj => ?_⟩
    · rw [if_neg (by omega)]
      simp [add_at]
    · rw [e] at hj
      rw [Nat.add_assoc, hcc (k + j) (by omega)]
      simp [List.getD_eq_getElem?_getD]
  · intro g off n' cap2 e
    injection e with e1 e2 e3
    obtain ⟨g0, off0, rfl, -, -⟩ := hc (by omega)
    have h2 := hx g0 off0 _ _ rfl
    by_cases hck : cap = k
    · rw [if_pos hck] at e1
      injection e1 with e1
      injection e1 with e1
      omega
    · rw [if_neg hck] at e1
      simp [add_at] at e1
      omega

/-- a drawn group's texts, maybe without the first -/
def GroupDrawn (b : Nat) (a : Option Addr) (len cap m : Nat) (w : World) (e : Ending) (w' : World) : Prop :=
  ∃ (n : Nat) (fs : List (Nat → Nat)) (v : Value), 3 ≤ n ∧ n ≤ 5 ∧ Rows n fs ∧ fs.length ≤ 800 ∧ e = .returned v ∧ TxN w.heap.size w' v (rowsL n fs) ∧ Cur w' b a len cap m ∧ Only b w w'
set_option maxRecDepth 100000 in
set_option maxHeartbeats 1000000 in
theorem group_draw (b : Nat) (a : Option Addr) (len cap m : Nat) (hm : m ≤ 800000) (w : World) (hc : Cur w b a len cap m) :
    Calls Try.prog 88 #[.pointer (some ⟨b, 0, none⟩)] w (GroupDrawn b a len cap (m + 12) w) := by
  have HC := Lib.hid hc
  have HLOW := Lib.hid hc.low
  have HBLT := Lib.hid hc.lt
  clear hc
  unfold GroupDrawn
  go_enter Try.func88, Try.ntmps88
  go_wp2_with fail
  refine (gens_draw b a len cap m hm _ HC.out).mono ?_
  rintro e w1 ⟨n, fs, v1, h3, h5, hp, hl, hr, rfl, hn1, hc1, ho1⟩
  have HC1 := Lib.hid hc1
  have HO1 := Lib.hid ho1
  have HT1 := Lib.hid hn1.own.txts
  clear hn1 hc1 ho1
  have hcl := fun v w h => l6Close_any n v fs hr (by omega) (by omega) w h
  have hR : ∃ rs : List (Nat → Nat), closeT n (bfsR n fs) = rowsL n rs ∧ Rows n rs ∧ rs.length ≤ 800 := by
    cases hq : bfsR n fs with
    | none => exact ⟨[], rfl, fun x hx => by simp at hx, by simp⟩
    | some G =>
      have := sortF_rows_len hr h3 (by omega) hq
      exact ⟨sortF n G, rfl, this.1, this.2⟩
  obtain ⟨rs, hrs, hrr, hrl⟩ := hR
  have HCL := Lib.hid hcl
  rw [hrs] at HCL
  unfold TextsAny at HCL
  generalize (bfsR n fs).isSome = ok at *
  have HRR := Lib.hid hrr
  clear hcl hrs hr hrr
  go_wp2_with fail
  refine (HCL.out _ _ HT1.out).mono ?_
  rintro e w2 ⟨v2, rfl, hn2, hb2⟩
  have HSZ : Hid (w.heap.size ≤ w1.heap.size) := Lib.hid HO1.out.size
  have HN2 := Lib.hid (hn2.lower HSZ.out)
  have HC2 := Lib.hid (HC1.out.below hb2)
  have HO2 := Lib.hid (HO1.out.trans (Only.of_below hb2))
  obtain ⟨ua, uc, rfl, -⟩ := hn2.own.view
  obtain ⟨k, hk⟩ : ∃ k, rs.length = k := ⟨_, rfl⟩
  have hsl : (strs (rowsL n rs)).length = k := by rw [strs_len, rowsL_len, hk]
  rw [hsl] at HN2 ⊢
  have HK := Lib.hid hk
  clear hn2 hb2 HCL HT1 HC1 HO1 hsl hk
  have HT2 := Lib.hid HN2.out.txN
  clear HN2
  by_cases h1 : 1 < k
  · have h1i : (1 : Int) < (k : Int) := by omega
    go_wp2_with fail
    refine (one_any b a len cap _ 10 (by omega) (by omega) (by omega) _ HC2.out).mono ?_
    rintro e w3 ⟨t, rfl, hc3, ho3⟩
    have HC3 := Lib.hid hc3
    have HO3 := Lib.hid (HO2.out.trans ho3)
    have HT3 := Lib.hid (HT2.out.only ho3 HBLT.out)
    clear hc3 ho3 HT2 HC2 HO2
    cases t
    · go_wp2
      go_ret
      exact ⟨n, rs, _, h3, h5, HRR.out, hrl, rfl, HT3.out, HC3.out, HO3.out⟩
    · obtain ⟨u, hu, hT⟩ := HT3.out.tail (by rw [rowsL_len, HK.out]; omega)
      have HT4 := Lib.hid hT
      clear hT HT3
      go_wp2
      go_ret
      exact ⟨n, rs.drop 1, _, h3, h5, HRR.out.drop 1, by rw [List.length_drop]; omega, rfl, by have := HT4.out; rwa [show (rowsL n rs).drop 1 = rowsL n (rs.drop 1) by simp [rowsL, List.map_drop]] at this, HC3.out, HO3.out⟩
  · have h1i : ¬ (1 : Int) < (k : Int) := by omega
    go_wp2
    go_ret
    first
    | exact ⟨n, rs, _, h3, h5, HRR.out, hrl, rfl, HT2.out, HC2.out.more (by omega), HO2.out⟩
    | exact ⟨n, h3, h5, rs, HRR.out, hrl, _, rfl, HT2.out, HC2.out.more (by omega), HO2.out⟩

/-- drawn texts, in a new block -/
def DrawnTx (most : Nat) (w : World) (e : Ending) (w' : World) : Prop :=
  ∃ (L : List (List Nat)) (v : Value), L.length ≤ most ∧ Sml L ∧ e = .returned v ∧ Txts w' v L ∧ Below w.heap.size w w'
theorem sml_rowsL {n : Nat} (h : n ≤ 8) (fs : List (Nat → Nat)) : Sml (rowsL n fs) := rowsL_small h
set_option maxRecDepth 100000 in
set_option maxHeartbeats 1000000 in
theorem DrawIsGroup_any (a : Option Addr) (len cap : Nat) (zs : List Int) (w : World) (hz : IsBytes w a len cap zs) (hl : len ≤ 1048576) :
    Calls Try.prog 44 #[.slice a len cap] w (DrawnTx 800 w) := by
  have HCODE := Lib.hid (codeAt_of hz)
  clear hz
  unfold DrawnTx
  go_enter Try.func44, Try.ntmps44
  go_wp2_with fail
  refine (one_any w.heap.size a len cap 0 4 (by omega) (by omega) (by omega) _ (cur_new a len cap w HCODE.out hl)).mono ?_
  rintro e w1 ⟨t, rfl, hc1, ho1⟩
  have HC1 := Lib.hid hc1
  have HO1 := Lib.hid ho1
  clear hc1 ho1
  cases t
  · go_wp2_with fail
    refine (group_draw w.heap.size a len cap _ (by omega) _ HC1.out).mono ?_
    rintro e w3 ⟨n, fs, v, h3, h5, hr, hfl, rfl, hn, hc3, ho3⟩
    have HT := Lib.hid hn.1
    have HB := Lib.hid (cur_below (HO1.out.trans ho3))
    clear hn hc3 ho3 hr
    go_wp2
    go_ret
    exact ⟨rowsL n fs, _, by rw [rowsL_len]; omega, sml_rowsL (by omega) fs, rfl, HT.out, HB.out⟩
  · go_wp2_with fail
    refine (rowsOf_draw w.heap.size a len cap _ 4 5 (by omega) (by omega) (by omega) (by omega) _ HC1.out).mono ?_
    rintro e w4 ⟨L, v, h1, h2, rfl, hn, hc4, ho4⟩
    have HT := Lib.hid hn.own.txts
    have HB4 := Lib.hid (cur_below (HO1.out.trans ho4))
    have HSO := Lib.hid (fun w h => l6SortT_any 5 L h1 (by omega) h2 v w h)
    unfold SomeOut at HSO
    have hl5 : L.length ≤ 5 := h1
    clear hn hc4 ho4 h1 h2
    go_wp2_with fail
    refine (HSO.out _ HT.out).mono ?_
    rintro e w5 ⟨M, v5, hM, hMs, rfl, hn5, hb5⟩
    have HN5 := Lib.hid hn5.own.txts
    have HB5 := Lib.hid (HB4.out.trans (hb5.mono HB4.out.size))
    obtain ⟨ua5, uc5, rfl, -⟩ := hn5.own.view
    clear hn5 hb5
    go_wp2
    go_ret
    exact ⟨M, _, by omega, hMs, rfl, HN5.out, HB5.out⟩
end Go.Proofs.Ytapcfojnljnoaaa
