/- A list of rows sorted, in the model. -/
import Derived.Test.YtnoepobbecobbaaSG
import Derived.Test.YtnoepobbecobbaaSE
namespace Go.Proofs.Ytnoepobbecobbaa
open Go.RowKit
set_option linter.unusedSimpArgs false
set_option linter.unusedVariables false

set_option maxRecDepth 100000 in
/-- parts of a list of texts -/
theorem cut_h {W : World} {a : Option Addr} {m cap : Nat} {L : List (List Nat)} (h : Txts W (.slice a m cap) L) (k : Nat) (hk : k ≤ L.length) :
    ∃ u, (∀ W', (Instr.sliceAt 22 (.slice a m cap) none (some (.int .i64 k)) none).run Try.prog W' = .ok u W') ∧ Txts W u (L.take k) := by
  obtain ⟨a', cap', hv, hcap, hc⟩ := h
  injection hv with e1 e2 e3
  subst e1 e2 e3
  refine ⟨.slice a k cap, fun W' => ?_, ?_⟩
  · rw [run_sliceAt_slice W' _ _ _ _ _ Try.underlying22, run_slice_h W' _ _ _ _ Try.underlying22 .i64 _ (by omega) (by omega), show (sizeOf (Try.prog.elem 22)).run Try.prog W' = .ok 1 W' by kernel_rfl]
    simp only [Result.andThen, sliced]
    cases a with
    | none => simp
    | some ad =>
      rcases Nat.eq_zero_or_pos cap with h0 | h0
      · simp [h0]
      · obtain ⟨_, b, o, s⟩ : ∃ u : Unit, ∃ b o s, ad = ⟨b, o, s⟩ := ⟨(), ad.block, ad.off, ad.spot, rfl⟩
        simp [Addr.add]
  · have e : (L.take k).length = k := by simp; omega
    refine ⟨a, cap, by rw [e], by omega, fun h0 => ?_⟩
    rw [e] at h0
    obtain ⟨g, off, rfl, hg, hcc⟩ := hc (by omega)
    refine ⟨g, off, rfl, hg, fun j hj => ?_⟩
    rw [e] at hj
    rw [hcc j (by omega)]
    simp [List.getD_eq_getElem?_getD, hj]
set_option maxRecDepth 100000 in
theorem cut_l {W : World} {a : Option Addr} {m cap : Nat} {L : List (List Nat)} (h : Txts W (.slice a m cap) L) (k : Nat) (hk : k ≤ L.length) :
    ∃ u, (∀ W', (Instr.sliceAt 22 (.slice a m cap) (some (.int .i64 k)) none none).run Try.prog W' = .ok u W') ∧ Txts W u (L.drop k) := by
  obtain ⟨a', cap', hv, hcap, hc⟩ := h
  injection hv with e1 e2 e3
  subst e1 e2 e3
  refine ⟨.slice (if cap = k then a else a.map (·.add k)) (L.length - k) (cap - k), fun W' => ?_, ?_⟩
  · rw [run_sliceAt_slice W' _ _ _ _ _ Try.underlying22, run_slice_l W' _ _ _ _ Try.underlying22 .i64 _ (by omega) (by omega), show (sizeOf (Try.prog.elem 22)).run Try.prog W' = .ok 1 W' by kernel_rfl]
    simp [Result.andThen, sliced]
  · have e : (L.drop k).length = L.length - k := by simp
    refine ⟨_, cap - k, by rw [e], by omega, fun h0 => ?_⟩
    rw [e] at h0
    obtain ⟨g, off, rfl, hg, hcc⟩ := hc (by omega)
    refine ⟨g, off + k, ?_, hg, fun j hj => ?_⟩
    · rw [if_neg (by omega)]
      simp [add_at]
    · rw [e] at hj
      rw [Nat.add_assoc, hcc (k + j) (by omega)]
      simp [List.getD_eq_getElem?_getD]

/-- v reads as these rows' texts, and has an address -/
def TxA (W : World) (n : Nat) (v : Value) (fs : List (Nat → Nat)) : Prop :=
  ∃ g off cap, v = .slice (some ⟨g, off, none⟩) fs.length cap ∧ fs.length ≤ cap ∧ g < W.heap.size ∧ ∀ j (h : j < fs.length), W.cell? ⟨g, off + j, none⟩ = some (.string (strOf n fs[j]))
theorem TxA.kept {W W' : World} {n : Nat} {v : Value} {fs : List (Nat → Nat)} (h : TxA W n v fs) (hb : Below W.heap.size W W') : TxA W' n v fs := by
  obtain ⟨g, off, cap, rfl, hcap, hg, hc⟩ := h
  exact ⟨g, off, cap, rfl, hcap, Nat.lt_of_lt_of_le hg hb.size, fun j hj => (hb.cell (p := ⟨g, off + j, none⟩) hg).trans (hc j hj)⟩
/-- whatever is written lies elsewhere -/
theorem TxA.besides {W W' : World} {n : Nat} {v u : Value} {fs : List (Nat → Nat)} (h : TxA W n v fs) (hk : ∀ b o, b < W.heap.size → u.ownBlock ≠ some b → W'.cell? ⟨b, o, none⟩ = W.cell? ⟨b, o, none⟩) (hs : W.heap.size ≤ W'.heap.size)
    (hne : ∀ g off cap, v = .slice (some ⟨g, off, none⟩) fs.length cap → u.ownBlock ≠ some g) : TxA W' n v fs := by
  obtain ⟨g, off, cap, rfl, hcap, hg, hc⟩ := h
  exact ⟨g, off, cap, rfl, hcap, Nat.lt_of_lt_of_le hg hs, fun j hj => (hk g _ hg (hne g off cap rfl)).trans (hc j hj)⟩
theorem Own.txA {W : World} {n : Nat} {v : Value} {fs : List (Nat → Nat)} (h : Own W 9 v (strs (rowsL n fs))) (hp : 0 < fs.length) : TxA W n v fs := by
  have hl : (strs (rowsL n fs)).length = fs.length := by rw [strs_len, rowsL_len]
  rcases h.shape with ⟨rfl, h0⟩ | ⟨g, cap, rfl, hcap⟩
  · rw [h0] at hl; simp at hl; omega
  · rw [hl] at hcap h ⊢
    refine ⟨g, 0, cap, rfl, hcap, h.lt g rfl, fun j hj => ?_⟩
    rw [Nat.zero_add]
    refine h.cell j _ ?_
    simp [strs, rowsL, hj, txt_rowL]
set_option maxRecDepth 100000 in
theorem TxA.tail {W : World} {n : Nat} {v : Value} {f : Nat → Nat} {fs : List (Nat → Nat)} (h : TxA W n v (f :: fs)) :
    ∃ u, (∀ W', (Instr.sliceAt 22 v (some (.int .i64 1)) none none).run Try.prog W' = .ok u W') ∧ TxA W n u fs ∧ ∀ b, (∀ g off cap, v = .slice (some ⟨g, off, none⟩) (f :: fs).length cap → g ≠ b) → ∀ g off cap, u = .slice (some ⟨g, off, none⟩) fs.length cap → g ≠ b := by
  obtain ⟨g, off, cap, rfl, hcap, hg, hc⟩ := h
  rw [List.length_cons] at hcap
  refine ⟨.slice (some (if cap = 1 then ⟨g, off, none⟩ else ⟨g, off + 1, none⟩)) fs.length (cap - 1), fun W' => ?_, ?_, ?_⟩
  · obtain ⟨k, hk⟩ : ∃ k : Nat, k = 1 := ⟨1, rfl⟩
    rw [show (Value.int .i64 1) = .int .i64 ((k : Nat) : Int) by rw [hk]; rfl, run_sliceAt_slice W' _ _ _ _ _ Try.underlying22, run_slice_l W' _ _ _ _ Try.underlying22 .i64 _ (by omega) (by rw [List.length_cons]; omega), show (sizeOf (Try.prog.elem 22)).run Try.prog W' = .ok 1 W' by kernel_rfl]
    subst hk
    by_cases h1 : cap = 1
    · simp [Result.andThen, sliced, h1]
    · simp [Result.andThen, sliced, h1, add_at]
  · by_cases h1 : cap = 1
    · rw [if_pos h1]
      exact ⟨g, off, cap - 1, rfl, by omega, hg, fun j hj => by omega⟩
    · rw [if_neg h1]
      refine ⟨g, off + 1, cap - 1, rfl, by omega, hg, fun j hj => ?_⟩
      have := hc (j + 1) (by simp; omega)
      rw [List.getElem_cons_succ] at this
      rw [← this]
      congr 2
      omega
  · intro b hb g' off' cap' e
    have hgb := hb g off cap rfl
    injection e with e1 e2 e3
    injection e1 with e1
    have : g' = g := by split at e1 <;> (injection e1 with e1; exact e1.symm)
    rw [this]; exact hgb

/-- the texts of rows appended to texts of its own -/
theorem cells_txA {W : World} {n g off : Nat} {fs : List (Nat → Nat)} (hc : ∀ j (h : j < fs.length), W.cell? ⟨g, off + j, none⟩ = some (.string (strOf n fs[j]))) :
    ∀ j u, (strs (rowsL n fs))[j]? = some u → W.cell? ((⟨g, off, none⟩ : Addr).add j) = some u := by
  intro j u hj
  have hjl : j < fs.length := by
    have := (List.getElem?_eq_some_iff.1 hj).1
    simpa [strs, rowsL] using this
  rw [add_at, hc j hjl]
  simp [strs, rowsL, hjl, txt_rowL] at hj
  rw [hj]

theorem rowsL_app (n : Nat) (a b : List (Nat → Nat)) : rowsL n (a ++ b) = rowsL n a ++ rowsL n b := by simp [rowsL]

set_option maxRecDepth 100000 in
set_option maxHeartbeats 1000000 in
theorem l6Sort_any (n : Nat) : ∀ (N : Nat) (fs : List (Nat → Nat)), fs.length ≤ N → N ≤ 1000 → Rows n fs → ∀ (v : Value) (w : World), Txts w v (rowsL n fs) →
    Calls Try.prog 109 #[v] w (TextsOut (rowsL n (sortF n fs)) w)
  | 0, fs, hN, _, hr, v, w, h => by
    have h0 : fs = [] := List.eq_nil_of_length_eq_zero (by omega)
    subst h0
    obtain ⟨a, cap, rfl, hcap, ha⟩ := id h
    have HO := Lib.hid (l1OwnS_any _ _ w h (by simp [rowsL]))
    have hres : sortF n [] = [] := sortF_short hr (by simp)
    rw [hres]
    clear h ha hcap hres hr
    go_enter Try.func109, Try.ntmps109
    go_wp2_with fail
    refine HO.out.mono ?_
    rintro e w1 ⟨v1, rfl, hn1, hb1⟩
    obtain ⟨ua, uc, rfl, -⟩ := hn1.own.view
    have HN := Lib.hid hn1
    have HB := Lib.hid hb1
    clear hn1 hb1
    go_wp2
    go_ret
    exact ⟨_, rfl, HN.out, HB.out⟩
  | N + 1, fs, hN, hN2, hr, v, w, h => by
    have IH := l6Sort_any n N
    obtain ⟨m, hm⟩ : ∃ m, fs.length = m := ⟨_, rfl⟩
    have HO := Lib.hid (l1OwnS_any _ _ w h (by rw [rowsL_len]; omega))
    obtain ⟨a, cap, rfl, hcap, ha⟩ := id h
    generalize hsort : sortF n fs = res
    rw [rowsL_len, hm] at HO ⊢
    by_cases h2 : m < 2
    · have hres : fs = res := by rw [← hsort]; exact (sortF_short hr (by omega)).symm
      have h2i : (m : Int) < 2 := by omega
      have HM := Lib.hid hm
      clear h ha hcap hr IH hsort
      go_enter Try.func109, Try.ntmps109
      go_wp2_with fail
      refine HO.out.mono ?_
      rintro e w1 ⟨v1, rfl, hn1, hb1⟩
      have hl1 : (strs (rowsL n fs)).length = m := by rw [strs_len, rowsL_len]; exact HM.out
      obtain ⟨ua, uc, rfl, -⟩ := hn1.own.view
      rw [hl1] at hn1 ⊢
      rw [hres] at hn1
      have HN := Lib.hid hn1
      have HB := Lib.hid hb1
      clear hn1 hb1 hl1 hres
      go_wp2
      go_ret
      exact ⟨_, rfl, HN.out, HB.out⟩
    · have h2i : ¬ (m : Int) < 2 := by omega
      have hmi : (m : Int) ≤ 1000 := by omega
      obtain ⟨k, hk⟩ : ∃ k, m / 2 = k := ⟨_, rfl⟩
      have hq1 : (m : Int) / 2 = (k : Int) := by omega
      have hq3 : (m : Int).tdiv 2 = (k : Int) := by rw [Int.tdiv_eq_ediv_of_nonneg (by omega)]; exact hq1
      have hw1 : IntKind.i64.wrap (k : Int) = k := IntWalk.i64_in _ ⟨by omega, by omega⟩
      have hmerge : List.merge (sortF n (fs.take k)) (sortF n (fs.drop k)) (leF n) = res := by rw [← hsort]; exact sortF_merge hr k
      have HM := Lib.hid hm
      have hr1 : Rows n (fs.take k) := hr.take k
      have hr2 : Rows n (fs.drop k) := hr.drop k
      have I1 := Lib.hid (fun v w h => IH (fs.take k) (by rw [List.length_take]; omega) (by omega) hr1 v w h)
      have I2 := Lib.hid (fun v w h => IH (fs.drop k) (by rw [List.length_drop]; omega) (by omega) hr2 v w h)
      have hA0 : (sortF n (fs.take k)).length = k := by rw [sortF_len, List.length_take]; omega
      have hB0 : (sortF n (fs.drop k)).length = m - k := by rw [sortF_len, List.length_drop]; omega
      have hs1 := rows_sort hr1
      have hs2 := rows_sort hr2
      generalize sortF n (fs.take k) = as0 at *
      generalize sortF n (fs.drop k) = bs0 at *
      have HS1 := Lib.hid hs1
      have HS2 := Lib.hid hs2
      have HL1 := Lib.hid hA0
      have HL2 := Lib.hid hB0
      have HMG := Lib.hid hmerge
      obtain ⟨i0, hi0, hz0, hz1, hz2⟩ := info_parts infoText
      have I0 := Lib.hid (⟨hi0, hz0, hz1, hz2⟩ : _ ∧ _ ∧ _ ∧ _)
      clear h ha hcap hr IH hsort hr1 hr2 hs1 hs2 hA0 hB0 hmerge hi0 hz0 hz1 hz2
      go_enter Try.func109, Try.ntmps109
      go_wp2_with fail
      refine HO.out.mono ?_
      rintro e w1 ⟨v1, rfl, hn1, hb1⟩
      have hl1 : (strs (rowsL n fs)).length = m := by rw [strs_len, rowsL_len]; exact HM.out
      have ht1 := hn1.own.txts
      obtain ⟨ua, uc, rfl, -⟩ := hn1.own.view
      rw [hl1] at ht1 ⊢
      have hrl : (rowsL n fs).length = m := by rw [rowsL_len]; exact HM.out
      obtain ⟨u1, hu1, hT1⟩ := cut_h ht1 k (by rw [hrl]; omega)
      obtain ⟨u2, hu2, hT2⟩ := cut_l ht1 k (by rw [hrl]; omega)
      rw [show (rowsL n fs).take k = rowsL n (fs.take k) by simp [rowsL, List.map_take]] at hT1
      rw [show (rowsL n fs).drop k = rowsL n (fs.drop k) by simp [rowsL, List.map_drop]] at hT2
      have C1 : Hid (∀ w', Below w1.heap.size w1 w' → Calls Try.prog 109 #[u1] w' (TextsOut (rowsL n as0) w')) := Lib.hid (fun w' hb => I1.out _ _ (hT1.kept hb))
      have C2 : Hid (∀ w', Below w1.heap.size w1 w' → Calls Try.prog 109 #[u2] w' (TextsOut (rowsL n bs0) w')) := Lib.hid (fun w' hb => I2.out _ _ (hT2.kept hb))
      have HB1 := Lib.hid hb1
      clear hn1 hb1 hl1 ht1 hrl hT1 hT2 I1 I2 HO
      go_wp2
      go_region_held3 (fun w' => Below w1.heap.size w1 w') (first | exact Below.refl _ _ | exact (Below.refl _ _).drew | assumption) (first | (go_at_call 109; have q := hb3; refine (C2.out _ hb3).mono ?_; rintro e4 w4 ⟨v4, rfl, hn4, hbb4⟩; have hb4 := hb3.trans (hbb4.mono hb3.size); have hn34 := hn3.kept hbb4; clear hb3) | (go_at_call 109; refine (C1.out _ (Below.refl _ _).drew).mono ?_; rintro e3 w3 ⟨v3, rfl, hn3, hbb3⟩; have hb3 := (Below.refl w1.heap.size w1).drew.trans (hbb3.mono (Nat.le_refl _))) | fail)
      have HB4 := Lib.hid (HB1.out.trans (hb4.mono HB1.out.size))
      have TA := Lib.hid (hn34.own.txA (by rw [HL1.out]; omega))
      have TB := Lib.hid (hn4.own.txA (by rw [HL2.out]; omega))
      clear hn34 hn4 hbb4 hbb3 hn3 q hb4 C1 C2 HB1 hu1 hu2
      obtain ⟨ga, oa, ca, rfl, -⟩ := id TA.out
      obtain ⟨gb, ob, cb, rfl, -⟩ := id TB.out
      generalize hla : as0.length = la at *
      generalize hlb : bs0.length = lb at *
      go_wp2
      go_loopg [4, 5, 6] (la + lb) (fun q va vb acc wr => ∃ (xs ys A : List (Nat → Nat)) (u : Value), q = xs.length + ys.length ∧ TxA w4 n va xs ∧ TxA w4 n vb ys ∧ acc = u ∧ Rows n xs ∧ Rows n ys ∧ A.length + xs.length + ys.length ≤ 1000 ∧ A ++ List.merge xs ys (leF n) = res ∧ New w4.heap.size wr 9 u (strs (rowsL n A)) ∧ Below w4.heap.size w4 wr)
      case atStart => exact ⟨as0, bs0, [], _, by rw [hla, hlb], TA.out, TB.out, rfl, HS1.out, HS2.out, by rw [List.length_nil, hla, hlb, HL1.out, HL2.out]; omega, HMG.out, New.nil _ _ _, Below.refl _ _⟩
      case round =>
        clear TA TB HS1 HS2 HMG hla hlb HL1 HL2
        obtain ⟨xs, ys, A, u, hq, hta, htb, rfl, hra, hrb, hlen, hr, hn, hb⟩ := hrel
        have hSA : (strs (rowsL n A)).length = A.length := by rw [strs_len, rowsL_len]
        obtain ⟨ua7, uc7, rfl, -⟩ := hn.own.view
        rw [hSA] at hn ⊢
        have HN := Lib.hid hn
        have HB := Lib.hid hb
        have HR := Lib.hid hr
        have TA := Lib.hid hta
        have TB := Lib.hid htb
        have RA := Lib.hid hra
        have RB := Lib.hid hrb
        obtain ⟨ga, oa, ca, rfl, hca, hga, hcca⟩ := hta
        obtain ⟨gb, ob, cb, rfl, hcb, hgb, hccb⟩ := htb
        clear hn hb hr hra hrb
        have done : xs = [] ∨ ys = [] → A ++ xs ++ ys = res := fun h => by
          rw [← HR.out, List.append_assoc]
          rcases h with h | h <;> subst h
          · simp
          · simp
        by_cases hx : 0 < xs.length
        · by_cases hy : 0 < ys.length
          · obtain ⟨x, xs, rfl⟩ : ∃ x t, xs = x :: t := by cases xs with | nil => simp at hx | cons x t => exact ⟨x, t, rfl⟩
            obtain ⟨y, ys, rfl⟩ : ∃ y t, ys = y :: t := by cases ys with | nil => simp at hy | cons y t => exact ⟨y, t, rfl⟩
            clear done hx hy
            have cA : wr.cell? ⟨ga, oa, none⟩ = some (.string (strOf n x)) := (HB.out.cell (p := ⟨ga, oa, none⟩) hga).trans (by have := hcca 0 (by simp); rwa [Nat.add_zero, List.getElem_cons_zero] at this)
            have cB : wr.cell? ⟨gb, ob, none⟩ = some (.string (strOf n y)) := (HB.out.cell (p := ⟨gb, ob, none⟩) hgb).trans (by have := hccb 0 (by simp); rwa [Nat.add_zero, List.getElem_cons_zero] at this)
            have hcmp := less_rows RB.out.head RA.out.head
            rw [lt_le] at hcmp
            obtain ⟨tA, htA, txA, -⟩ := TA.out.tail
            obtain ⟨tB, htB, txB, -⟩ := TB.out.tail
            have hr := HR.out
            rw [List.cons_merge_cons] at hr
            have XA := Lib.hid txA
            have XB := Lib.hid txB
            have HLA := Lib.hid (show A.length + xs.length + ys.length + 2 ≤ 1000 by simp at hlen; omega)
            have HQ := Lib.hid (show gk = xs.length + ys.length + 2 by simp at hq; omega)
            have hA1 : A.length ≤ 100000 := by have := HLA.out; omega
            clear hcca hccb hlen hq hga hgb hca hcb
            obtain ⟨na, hna⟩ : ∃ k, (x :: xs).length = k := ⟨_, rfl⟩
            obtain ⟨nb, hnb⟩ : ∃ k, (y :: ys).length = k := ⟨_, rfl⟩
            rw [hna] at htA TA ⊢
            rw [hnb] at htB TB ⊢
            have hpa : (0 : Int) < (na : Int) := by rw [← hna]; simp
            have hpb : (0 : Int) < (nb : Int) := by rw [← hnb]; simp
            clear hna hnb
            cases hle : leF n x y
            · rw [hle] at hr hcmp
              have hcmp : Op.bytesLess (strOf n y).toList (strOf n x).toList = true := hcmp
              have HR2 : Hid ((A ++ [y]) ++ List.merge (x :: xs) ys (leF n) = res) := Lib.hid (by rw [← hr]; simp)
              have hsl : ∀ W', (Instr.sliceAt 22 (.slice (some ⟨gb, ob, none⟩) nb cb) (some (.int .i64 1)) none none).run Try.prog W' = .ok tB W' := htB
              clear hr txA txB HR hle htA htB
              have SX := Lib.hid (txt_rowL n x)
              have SY := Lib.hid (txt_rowL n y)
              generalize strOf n x = sx at *
              generalize strOf n y = sy at *
              go_wp2
              go_quiet (fail)
              go_wp2_with (at_builtin; refine wpList_app1 rfl (.tmp 40) (.tmp 44) 22 rfl 9 i0 (.string ⟨#[]⟩) 16 Try.underlying22 I0.out.1 I0.out.2.1 I0.out.2.2.1 I0.out.2.2.2 rfl w4.heap.size w4 _ (strs (rowsL n A)) rfl (HN.out.drewN _) rfl rfl HB.out.size (below_drewN HB.out _) (by rw [hSA]; exact hA1) (by omega) ?_)
              intro v7 w7 hn7 _ hb7 _
              rw [← SY.out, strs_snoc, show rowsL n A ++ [rowL n y] = rowsL n (A ++ [y]) by simp [rowsL]] at hn7
              have HN7 := Lib.hid hn7
              have HB7 := Lib.hid hb7
              obtain ⟨ua7, uc7, rfl, -⟩ := hn7.own.view
              clear hn7 hb7 HN HB
              go_wp2
              go_roundg (xs.length + 1 + ys.length)
              case measure => have := HQ.out; omega
              case rel => exact ⟨x :: xs, ys, A ++ [y], _, by simp, TA.out, XB.out, rfl, RA.out, RB.out.tail, by have := HLA.out; simp; omega, HR2.out, HN7.out, HB7.out⟩
            · rw [hle] at hr hcmp
              have hcmp : Op.bytesLess (strOf n y).toList (strOf n x).toList = false := hcmp
              have HR2 : Hid ((A ++ [x]) ++ List.merge xs (y :: ys) (leF n) = res) := Lib.hid (by rw [← hr]; simp)
              have hsl : ∀ W', (Instr.sliceAt 22 (.slice (some ⟨ga, oa, none⟩) na ca) (some (.int .i64 1)) none none).run Try.prog W' = .ok tA W' := htA
              clear hr txA txB HR hle htA htB
              have SX := Lib.hid (txt_rowL n x)
              have SY := Lib.hid (txt_rowL n y)
              generalize strOf n x = sx at *
              generalize strOf n y = sy at *
              go_wp2
              go_quiet (fail)
              go_wp2_with (at_builtin; refine wpList_app1 rfl (.tmp 48) (.tmp 52) 22 rfl 9 i0 (.string ⟨#[]⟩) 16 Try.underlying22 I0.out.1 I0.out.2.1 I0.out.2.2.1 I0.out.2.2.2 rfl w4.heap.size w4 _ (strs (rowsL n A)) rfl (HN.out.drewN _) rfl rfl HB.out.size (below_drewN HB.out _) (by rw [hSA]; exact hA1) (by omega) ?_)
              intro v7 w7 hn7 _ hb7 _
              rw [← SX.out, strs_snoc, show rowsL n A ++ [rowL n x] = rowsL n (A ++ [x]) by simp [rowsL]] at hn7
              have HN7 := Lib.hid hn7
              have HB7 := Lib.hid hb7
              obtain ⟨ua7, uc7, rfl, -⟩ := hn7.own.view
              clear hn7 hb7 HN HB
              go_wp2
              go_roundg (xs.length + (ys.length + 1))
              case measure => have := HQ.out; omega
              case rel => exact ⟨xs, y :: ys, A ++ [x], _, by simp, XA.out, TB.out, rfl, RA.out.tail, RB.out, by have := HLA.out; simp; omega, HR2.out, HN7.out, HB7.out⟩
          · have hpa : (0 : Int) < xs.length := by omega
            have hpb : ¬ (0 : Int) < ys.length := by omega
            have HD := Lib.hid (done (by first | (left; exact List.eq_nil_of_length_eq_zero (by omega)) | (right; exact List.eq_nil_of_length_eq_zero (by omega))))
            have CA : Hid (∀ w', Below w4.heap.size w4 w' → ∀ j u, (strs (rowsL n xs))[j]? = some u → w'.cell? ((⟨ga, oa, none⟩ : Addr).add j) = some u) := Lib.hid (fun w' hb => cells_txA (fun j hj => (hb.cell (p := ⟨ga, oa + j, none⟩) hga).trans (hcca j hj)))
            have CB : Hid (∀ w', Below w4.heap.size w4 w' → ∀ j u, (strs (rowsL n ys))[j]? = some u → w'.cell? ((⟨gb, ob, none⟩ : Addr).add j) = some u) := Lib.hid (fun w' hb => cells_txA (fun j hj => (hb.cell (p := ⟨gb, ob + j, none⟩) hgb).trans (hccb j hj)))
            have LX : Hid ((strs (rowsL n xs)).length = xs.length) := Lib.hid (by rw [strs_len, rowsL_len])
            have LY : Hid ((strs (rowsL n ys)).length = ys.length) := Lib.hid (by rw [strs_len, rowsL_len])
            have LL3 := Lib.hid hlen
            clear done HR TA TB RA RB hcca hccb hq hlen hga hgb hca hcb
            generalize xs.length = la2 at *
            generalize ys.length = lb2 at *
            go_wp2_with (first | (at_builtin; refine wpList_appN rfl (.tmp 56) (.tmp 57) 22 rfl 9 i0 (.string ⟨#[]⟩) 16 Try.underlying22 I0.out.1 I0.out.2.1 I0.out.2.2.1 I0.out.2.2.2 rfl w4.heap.size w4 _ (strs (rowsL n A)) rfl HN.out ⟨ga, oa, none⟩ la2 ca (strs (rowsL n xs)) rfl LX.out (CA.out _ HB.out) (strs_one _) HB.out.size HB.out (by have := LL3.out; omega) (by omega) ?_) | fail)
            intro v5 w5 hn5 _ hb5 _ _
            have HN5 := Lib.hid hn5
            have HB5 := Lib.hid hb5
            clear hn5 hb5 HN HB CA
            obtain ⟨ua5, uc5, rfl, -⟩ := HN5.out.own.view
            have hl5 : (strs (rowsL n A) ++ strs (rowsL n xs)).length = A.length + la2 := by rw [List.length_append, hSA, LX.out]
            go_wp2_with (first | (at_builtin; refine wpList_appN rfl (.tmp 58) (.tmp 59) 22 rfl 9 i0 (.string ⟨#[]⟩) 16 Try.underlying22 I0.out.1 I0.out.2.1 I0.out.2.2.1 I0.out.2.2.2 rfl w4.heap.size w4 _ _ rfl HN5.out ⟨gb, ob, none⟩ lb2 cb (strs (rowsL n ys)) rfl LY.out (CB.out _ HB5.out) (strs_one _) HB5.out.size HB5.out (by have := LL3.out; rw [hl5]; omega) (by omega) ?_) | fail)
            intro v6 w6 hn6 _ hb6 _ _
            rw [strs_app, strs_app, ← rowsL_app, ← rowsL_app, ← List.append_assoc, HD.out] at hn6
            have HN6 := Lib.hid (hn6.lower (B' := w.heap.size) HB4.out.size)
            have HB6 := Lib.hid (HB4.out.trans (hb6.mono HB4.out.size))
            clear hn6 hb6 HN5 HB5 CB
            go_wp2
            go_ret
            exact ⟨_, rfl, HN6.out, HB6.out⟩
        · have hpa : ¬ (0 : Int) < xs.length := by omega
          have HD := Lib.hid (done (by first | (left; exact List.eq_nil_of_length_eq_zero (by omega)) | (right; exact List.eq_nil_of_length_eq_zero (by omega))))
          have CA : Hid (∀ w', Below w4.heap.size w4 w' → ∀ j u, (strs (rowsL n xs))[j]? = some u → w'.cell? ((⟨ga, oa, none⟩ : Addr).add j) = some u) := Lib.hid (fun w' hb => cells_txA (fun j hj => (hb.cell (p := ⟨ga, oa + j, none⟩) hga).trans (hcca j hj)))
          have CB : Hid (∀ w', Below w4.heap.size w4 w' → ∀ j u, (strs (rowsL n ys))[j]? = some u → w'.cell? ((⟨gb, ob, none⟩ : Addr).add j) = some u) := Lib.hid (fun w' hb => cells_txA (fun j hj => (hb.cell (p := ⟨gb, ob + j, none⟩) hgb).trans (hccb j hj)))
          have LX : Hid ((strs (rowsL n xs)).length = xs.length) := Lib.hid (by rw [strs_len, rowsL_len])
          have LY : Hid ((strs (rowsL n ys)).length = ys.length) := Lib.hid (by rw [strs_len, rowsL_len])
          have LL3 := Lib.hid hlen
          clear done HR TA TB RA RB hcca hccb hq hlen hga hgb hca hcb
          generalize xs.length = la2 at *
          generalize ys.length = lb2 at *
          go_wp2_with (first | (at_builtin; refine wpList_appN rfl (.tmp 56) (.tmp 57) 22 rfl 9 i0 (.string ⟨#[]⟩) 16 Try.underlying22 I0.out.1 I0.out.2.1 I0.out.2.2.1 I0.out.2.2.2 rfl w4.heap.size w4 _ (strs (rowsL n A)) rfl HN.out ⟨ga, oa, none⟩ la2 ca (strs (rowsL n xs)) rfl LX.out (CA.out _ HB.out) (strs_one _) HB.out.size HB.out (by have := LL3.out; omega) (by omega) ?_) | fail)
          intro v5 w5 hn5 _ hb5 _ _
          have HN5 := Lib.hid hn5
          have HB5 := Lib.hid hb5
          clear hn5 hb5 HN HB CA
          obtain ⟨ua5, uc5, rfl, -⟩ := HN5.out.own.view
          have hl5 : (strs (rowsL n A) ++ strs (rowsL n xs)).length = A.length + la2 := by rw [List.length_append, hSA, LX.out]
          go_wp2_with (first | (at_builtin; refine wpList_appN rfl (.tmp 58) (.tmp 59) 22 rfl 9 i0 (.string ⟨#[]⟩) 16 Try.underlying22 I0.out.1 I0.out.2.1 I0.out.2.2.1 I0.out.2.2.2 rfl w4.heap.size w4 _ _ rfl HN5.out ⟨gb, ob, none⟩ lb2 cb (strs (rowsL n ys)) rfl LY.out (CB.out _ HB5.out) (strs_one _) HB5.out.size HB5.out (by have := LL3.out; rw [hl5]; omega) (by omega) ?_) | fail)
          intro v6 w6 hn6 _ hb6 _ _
          rw [strs_app, strs_app, ← rowsL_app, ← rowsL_app, ← List.append_assoc, HD.out] at hn6
          have HN6 := Lib.hid (hn6.lower (B' := w.heap.size) HB4.out.size)
          have HB6 := Lib.hid (HB4.out.trans (hb6.mono HB4.out.size))
          clear hn6 hb6 HN5 HB5 CB
          go_wp2
          go_ret
          exact ⟨_, rfl, HN6.out, HB6.out⟩
end Go.Proofs.Ytnoepobbecobbaa
