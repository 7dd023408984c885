/- The model's ways to go on from a place. -/
import Derived.Test.YtkeighlcdnfjcaaB16
namespace Go.Proofs.Ytkeighlcdnfjcaa
open Go.RowKit

/-- new lists of numbers, each in a slice of its own -/
structure LL (B : Nat) (W : World) (v : Value) (vs : List Value) (ll : List (List Nat)) : Prop where
  own : New B W 28 v vs
  len : vs.length = ll.length
  one : ∀ u ∈ vs, u.oneCell' = true
  inner : ∀ i (h : i < ll.length), ∃ u, vs[i]? = some u ∧ Own W 3 u (nums ll[i])
theorem LL.nil (B : Nat) (W : World) : LL B W (.slice none 0 0) [] [] := ⟨New.nil _ _ _, rfl, by simp, fun i h => by simp at h⟩
theorem LL.kept {B : Nat} {W W' : World} {v : Value} {vs : List Value} {ll : List (List Nat)} (h : LL B W v vs ll) (hb : Below W.heap.size W W') : LL B W' v vs ll :=
  ⟨h.own.kept hb, h.len, h.one, fun i hi => by obtain ⟨u, h1, h2⟩ := h.inner i hi; exact ⟨u, h1, h2.kept hb⟩⟩
theorem Own.one {W : World} {e : TypeId} {v : Value} {xs : List Value} (h : Own W e v xs) : v.oneCell' = true := by
  rcases h.shape with ⟨rfl, _⟩ | ⟨g, cap, rfl, _⟩ <;> rfl
/-- lists behind others: what an append of many leaves -/
theorem LL.app {B B' : Nat} {W W' : World} {v v' vr : Value} {vs rs : List Value} {ll rr : List (List Nat)} (h : LL B W v vs ll) (hr : LL B' W vr rs rr) (hn : New B W' 28 v' (vs ++ rs)) (hk : KeptBut W W' v) : LL B W' v' (vs ++ rs) (ll ++ rr) := by
  have hlen := h.len
  have hin : ∀ u xs, Own W 3 u xs → Own W' 3 u xs := fun u xs hu => hu.block fun g hg => hk g (hu.lt g hg) (fun e => hu.apart h.own.own (by decide) g hg e)
  refine ⟨hn, by simp [hlen, hr.len], fun u hu => ?_, fun i hi => ?_⟩
  · rcases List.mem_append.1 hu with q | q
    · exact h.one u q
    · exact hr.one u q
  · by_cases hlt : i < ll.length
    · obtain ⟨u, h1, h2⟩ := h.inner i hlt
      refine ⟨u, by rw [List.getElem?_append_left (by omega)]; exact h1, ?_⟩
      rw [List.getElem_append_left hlt]
      exact hin _ _ h2
    · have hi2 : i - ll.length < rr.length := by simp at hi; omega
      obtain ⟨u, h1, h2⟩ := hr.inner (i - ll.length) hi2
      refine ⟨u, by rw [List.getElem?_append_right (by omega), hlen]; exact h1, ?_⟩
      rw [List.getElem_append_right (by omega)]
      exact hin _ _ h2
/-- one list more -/
theorem LL.add {B : Nat} {W W' : World} {v v' u : Value} {vs : List Value} {ll : List (List Nat)} {l : List Nat} (h : LL B W v vs ll) (hu : Own W 3 u (nums l)) (hn : New B W' 28 v' (vs ++ [u])) (hk : KeptBut W W' v) : LL B W' v' (vs ++ [u]) (ll ++ [l]) := by
  have hlen := h.len
  have hin : ∀ u xs, Own W 3 u xs → Own W' 3 u xs := fun u xs hu => hu.block fun g hg => hk g (hu.lt g hg) (fun e => hu.apart h.own.own (by decide) g hg e)
  refine ⟨hn, by simp [hlen], fun x hx => ?_, fun i hi => ?_⟩
  · rcases List.mem_append.1 hx with q | q
    · exact h.one x q
    · simp at q; subst q; exact hu.one
  · by_cases hlt : i < ll.length
    · obtain ⟨u, h1, h2⟩ := h.inner i hlt
      refine ⟨u, by rw [List.getElem?_append_left (by omega)]; exact h1, ?_⟩
      rw [List.getElem_append_left hlt]
      exact hin _ _ h2
    · have hi2 : i = ll.length := by simp at hi; omega
      subst hi2
      refine ⟨u, by rw [List.getElem?_append_right (by omega), hlen]; simp, ?_⟩
      rw [List.getElem_append_right (by omega)]
      simpa using hin _ _ hu

def FromRes (ll : List (List Nat)) (w : World) (e : Ending) (w' : World) : Prop := ∃ v vs, e = .returned v ∧ LL w.heap.size w' v vs ll ∧ Below w.heap.size w w'
theorem frm_succ (n k p : Nat) : frm n (k + 1) p = if n < p then [[]] else (frm n k (p + 1)).map (p :: ·) ++ (if p < n then frm n k (p + 2) else []) := rfl

set_option maxRecDepth 100000 in
set_option maxHeartbeats 1000000 in
theorem l2From_any (n : Nat) (h8 : n ≤ 8) : ∀ (k p : Nat), k ≤ 10 → n + 2 ≤ p + k → p ≤ n + 2 → (frm n k p).length ≤ 100 → ∀ (x : Int), x = p → ∀ w,
    Calls Try.prog 83 #[.int .i64 n, .int .i64 x] w (FromRes (frm n k p) w) := by
  intro k
  induction k with
  | zero =>
    intro p _ h1 h2 _ x hx w
    subst hx
    have h8' : (n : Int) ≤ 8 := by omega
    have hp : (n : Int) < p := by omega
    have e : frm n 0 p = [[]] := rfl
    rw [e]
    go_enter Try.func83, Try.ntmps83
    go_wp2
    go_ret
    refine ⟨_, [.slice none 0 0], rfl, ⟨⟨Own.lit w 28 [.slice none 0 0] (by simp), fun g hg => by simp [Value.ownBlock] at hg; omega⟩, rfl, by simp; rfl, fun i hi => ?_⟩, (Below.refl _ w).alloc (Nat.le_refl _) _⟩
    have : i = 0 := by simp at hi; omega
    subst this
    exact ⟨_, rfl, Own.nil _ _⟩
  | succ k ih =>
    intro p hk h1 h2 hlen x hx w
    subst hx
    have h8' : (n : Int) ≤ 8 := by omega
    by_cases hp : n < p
    · have hpi : (n : Int) < p := by omega
      rw [frm_succ, if_pos hp]
      clear ih
      go_enter Try.func83, Try.ntmps83
      go_wp2
      go_ret
      refine ⟨_, [.slice none 0 0], rfl, ⟨⟨Own.lit w 28 [.slice none 0 0] (by simp), fun g hg => by simp [Value.ownBlock] at hg; omega⟩, rfl, by simp; rfl, fun i hi => ?_⟩, (Below.refl _ w).alloc (Nat.le_refl _) _⟩
      have : i = 0 := by simp at hi; omega
      subst this
      exact ⟨_, rfl, Own.nil _ _⟩
    · have hpi : ¬ (n : Int) < p := by omega
      have hpn : (p : Int) ≤ n := by omega
      have hp9 : (p : Int) ≤ 8 := by omega
      rw [frm_succ, if_neg hp] at hlen ⊢
      generalize hrr : (if p < n then frm n k (p + 2) else []) = rr at hlen ⊢
      have HRR := Lib.hid hrr
      clear hrr
      simp only [List.length_append, List.length_map] at hlen
      have hl1 : (frm n k (p + 1)).length ≤ 100 := by omega
      have HF1 := Lib.hid (ih (p + 1) (by omega) (by omega) (by omega) hl1 ((p : Int) + 1) (by simp))
      have hsm := frm_len n k (p + 1)
      generalize frm n k (p + 1) = ll at *
      obtain ⟨i0, hi0, hz0, hz1, hz2⟩ := info_parts infoInt
      obtain ⟨i1, hi1, hy0, hy1, hy2⟩ := info_parts infoInts
      have I0 := Lib.hid (⟨hi0, hz0, hz1, hz2⟩ : _ ∧ _ ∧ _ ∧ _)
      have I1 := Lib.hid (⟨hi1, hy0, hy1, hy2⟩ : _ ∧ _ ∧ _ ∧ _)
      have IH := Lib.hid ih
      have HSM := Lib.hid hsm
      clear ih hi0 hz0 hz1 hz2 hi1 hy0 hy1 hy2 hsm
      go_enter Try.func83, Try.ntmps83
      go_wp2_with fail
      refine (HF1.out _).mono ?_
      rintro e w1 ⟨v1, vs1, rfl, hL1, hb1⟩
      obtain ⟨a, cap, rfl, ha⟩ := hL1.own.own.view
      obtain ⟨m, hm⟩ : ∃ m, ll.length = m := ⟨_, rfl⟩
      rw [hL1.len, hm] at ha hL1 ⊢
      rw [hm] at hl1
      have hm' : (m : Int) ≤ 100 := by omega
      have HL1 := Lib.hid hL1
      have HA := Lib.hid ha
      have HB1 := Lib.hid hb1
      have HM := Lib.hid hm
      clear hL1 ha hb1 hm
      go_wp2
      go_loopg [5, 7, 17] m (fun q out _ i wr => ∃ (j : Nat) (vs : List Value), j ≤ m ∧ q + j = m ∧ i = .int .i64 j ∧ LL w1.heap.size wr out vs ((ll.take j).map (p :: ·)) ∧ Below w1.heap.size w1 wr)
      case atStart => exact ⟨0, [], Nat.zero_le _, rfl, rfl, LL.nil _ _, Below.refl _ _⟩
      case round =>
        obtain ⟨j, vs, hj, hq, rfl, hLL, hbel⟩ := hrel
        have HQ := Lib.hid hq
        have HLL := Lib.hid hLL
        have HB := Lib.hid hbel
        clear hq hLL hbel
        by_cases hlt : j < m
        · obtain ⟨g, rfl⟩ := HA.out (by omega)
          have hjl : j < ll.length := by rw [HM.out]; exact hlt
          obtain ⟨u, hu1, hu2⟩ := HL1.out.inner j hjl
          have c1 := (HL1.out.own.own.kept HB.out).cell j u hu1
          have hu3 := hu2.kept HB.out
          have htk : (ll.take (j + 1)).map (p :: ·) = (ll.take j).map (p :: ·) ++ [p :: ll[j]] := by
            rw [List.take_succ_eq_append_getElem hjl, List.map_append]; rfl
          have hlk := HSM.out _ (List.getElem_mem hjl)
          have HTK := Lib.hid htk
          have hvl : vs.length ≤ 100 := by rw [HLL.out.len]; simp; omega
          generalize ll[j] = l at *
          have hji : (j : Int) < m := by omega
          have HLIT := Lib.hid (show New wr.heap.size (wr.alloc (.cells #[.int .i64 p] 3)) 3 (.slice (some ⟨wr.heap.size, 0, none⟩) 1 1) (nums [p]) from ⟨Own.lit wr 3 [.int .i64 p] (by simp), fun g hg => by simp [Value.ownBlock] at hg; omega⟩)
          have HBL := Lib.hid ((Below.refl wr.heap.size wr).alloc (Nat.le_refl _) (.cells #[.int .i64 p] 3))
          clear hu1 hu2 htk
          rcases hu3.shape with ⟨rfl, hnil⟩ | ⟨g2, cap2, rfl, hcap2⟩
          · have hl0 : l = [] := by cases l with
              | nil => rfl
              | cons => simp [nums, ints] at hnil
            subst hl0
            clear hnil hu3
            go_wp2_with (first | (at_builtin; refine wpList_app0 rfl (.tmp 23) (.tmp 24) 28 rfl 3 i0 Try.underlying28 I0.out.1 wr.heap.size _ _ rfl HLIT.out rfl ?_; generalize wr.alloc (.cells #[.int .i64 (p : Int)] 3) = w2 at HLIT HBL ⊢) | (at_builtin; refine wpList_app1 rfl (.tmp 21) (.tmp 26) 78 rfl 28 i1 (.slice none 0 0) 24 Try.underlying78 I1.out.1 I1.out.2.1 I1.out.2.2.1 I1.out.2.2.2 rfl w1.heap.size w1 _ vs rfl (HLL.out.kept HBL.out).own rfl rfl (Nat.le_trans HB.out.size HBL.out.size) (HB.out.trans (HBL.out.mono HB.out.size)) (by omega) (by omega) ?_))
            intro v4 w4 hn4 hk4 hb4 _
            have HL4 := Lib.hid ((HLL.out.kept HBL.out).add HLIT.out.own hn4 hk4)
            rw [← HTK.out] at HL4
            have HB4 := Lib.hid hb4
            clear hn4 hk4 hb4
            go_wp2
            go_roundg (m - (j + 1))
            case measure => have := HQ.out; omega
            case rel => exact ⟨j + 1, _, by omega, by have := HQ.out; omega, by go_num, HL4.out, HB4.out⟩
          · have HU := Lib.hid (hu3.kept HBL.out)
            clear hu3 hcap2
            go_wp2_with (at_builtin; refine wpList_appN rfl (.tmp 23) (.tmp 24) 28 rfl 3 i0 (.int .i64 0) 8 Try.underlying28 I0.out.1 I0.out.2.1 I0.out.2.2.1 I0.out.2.2.2 rfl wr.heap.size wr _ _ rfl HLIT.out ⟨g2, 0, none⟩ _ _ (nums l) rfl rfl ?d1 ?d2 HBL.out.size HBL.out ?d3 (by omega) ?_)
            case d1 =>
              intro j u hj
              exact HU.out.cell j u hj
            case d2 => intro u hu; simp [nums, ints] at hu; obtain ⟨y, _, rfl⟩ := hu; rfl
            case d3 => rw [nums_len, nums_len]; simp; omega
            intro v2 w2 hn2 _ hb2 _ _
            have HN2 := Lib.hid (show New wr.heap.size w2 3 v2 (nums (p :: l)) by simpa [nums, ints] using hn2)
            have HB2 := Lib.hid hb2
            clear hn2 hb2
            obtain ⟨a4, cap4, rfl, _⟩ := HN2.out.own.view
            go_wp2_with (at_builtin; refine wpList_app1 rfl (.tmp 21) (.tmp 26) 78 rfl 28 i1 (.slice none 0 0) 24 Try.underlying78 I1.out.1 I1.out.2.1 I1.out.2.2.1 I1.out.2.2.2 rfl w1.heap.size w1 _ vs rfl (HLL.out.kept HB2.out).own rfl HN2.out.own.one (Nat.le_trans HB.out.size HB2.out.size) (HB.out.trans (HB2.out.mono HB.out.size)) (by omega) (by omega) ?_)
            intro v4 w4 hn4 hk4 hb4 _
            have HL4 := Lib.hid ((HLL.out.kept HB2.out).add HN2.out.own hn4 hk4)
            rw [← HTK.out] at HL4
            have HB4 := Lib.hid hb4
            clear hn4 hk4 hb4
            go_wp2
            go_roundg (m - (j + 1))
            case measure => have := HQ.out; omega
            case rel => exact ⟨j + 1, _, by omega, by have := HQ.out; omega, by go_num, HL4.out, HB4.out⟩
        · obtain rfl : j = m := by omega
          have hji : ¬ (j : Int) < j := by omega
          have hall : ll.take j = ll := List.take_of_length_le (by rw [HM.out]; exact Nat.le_refl _)
          rw [hall] at HLL
          have HLL2 := Lib.hid (HLL.out)
          by_cases hpl : p < n
          · have hpli : (p : Int) < n := by omega
            have hrr : frm n k (p + 2) = rr := by rw [← HRR.out, if_pos hpl]
            have HF2 := Lib.hid (IH.out (p + 2) (by omega) (by omega) (by omega) (by rw [hrr]; omega) ((p : Int) + 2) (by simp))
            rw [hrr] at HF2
            clear hpl hrr
            go_wp2_with fail
            refine (HF2.out _).mono ?_
            rintro e w3 ⟨v3, vs3, rfl, hL3, hb3⟩
            have hN3 := HLL2.out.kept hb3
            have hs3 : w1.heap.size ≤ w3.heap.size := Nat.le_trans HB.out.size hb3.size
            have hB3 := HB.out.trans (hb3.mono HB.out.size)
            have hl3 : vs3.length ≤ 100 := by rw [hL3.len]; omega
            have hl4 : vs.length ≤ 100 := by rw [HLL2.out.len, List.length_map]; omega
            have hfin : ∀ v4 w4, LL w1.heap.size w4 v4 (vs ++ vs3) (ll.map (p :: ·) ++ rr) → Below w1.heap.size w1 w4 → FromRes (ll.map (p :: ·) ++ rr) w (.returned v4) w4 := fun v4 w4 hL hB => ⟨_, _, rfl, ⟨hL.own.lower HB1.out.size, hL.len, hL.one, hL.inner⟩, HB1.out.trans (hB.mono HB1.out.size)⟩
            have HFIN := Lib.hid hfin
            rcases hL3.own.own.shape with ⟨rfl, hnil⟩ | ⟨g3, cap3, rfl, hcap3⟩
            · subst hnil
              have hr0 : rr = [] := List.eq_nil_of_length_eq_zero (by rw [← hL3.len]; rfl)
              subst hr0
              have HN3 := Lib.hid hN3
              have HB3 := Lib.hid hB3
              clear hN3 hB3 hb3 hL3 hfin
              go_wp2_with (at_builtin; refine wpList_app0 rfl (.tmp 32) (.tmp 36) 78 rfl 28 i1 Try.underlying78 I1.out.1 w1.heap.size _ vs rfl HN3.out.own rfl ?_)
              go_ret
              exact HFIN.out _ _ (by rw [List.append_nil, List.append_nil]; exact HN3.out) HB3.out
            · have HN3 := Lib.hid hN3
              have HB3 := Lib.hid hB3
              have HV3 := Lib.hid hL3
              clear hN3 hB3 hb3 hL3 hfin hcap3
              go_wp2_with (at_builtin; refine wpList_appN rfl (.tmp 32) (.tmp 36) 78 rfl 28 i1 (.slice none 0 0) 24 Try.underlying78 I1.out.1 I1.out.2.1 I1.out.2.2.1 I1.out.2.2.2 rfl w1.heap.size w1 _ vs rfl HN3.out.own ⟨g3, 0, none⟩ _ _ vs3 rfl rfl ?e1 HV3.out.one hs3 HB3.out ?e3 (by omega) ?_)
              case e1 =>
                intro j u hj
                rw [show (⟨g3, 0, none⟩ : Addr).add j = ⟨g3, j, none⟩ from by unfold Addr.add; split <;> simp_all]
                exact HV3.out.own.own.cell j u hj
              case e3 => omega
              intro v4 w4 hn4 hk4 hb4 _ _
              have HL4 := Lib.hid (HN3.out.app HV3.out hn4 hk4)
              have HB4 := Lib.hid hb4
              clear hn4 hk4 hb4
              go_wp2
              go_ret
              exact HFIN.out _ _ HL4.out HB4.out
          · have hpli : ¬ (p : Int) < n := by omega
            have hrr : rr = [] := by rw [← HRR.out, if_neg hpl]
            have HRR2 := Lib.hid hrr
            clear hpl hrr
            go_wp2
            go_ret
            rw [HRR2.out, List.append_nil]
            exact ⟨_, _, rfl, ⟨HLL2.out.own.lower HB1.out.size, HLL2.out.len, HLL2.out.one, HLL2.out.inner⟩, HB1.out.trans (HB.out.mono HB1.out.size)⟩
end Go.Proofs.Ytkeighlcdnfjcaa
