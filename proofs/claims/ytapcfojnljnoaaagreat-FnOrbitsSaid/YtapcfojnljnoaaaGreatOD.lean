/- OrbitsOf, the program. -/
import Derived.Test.YtapcfojnljnoaaaGreatOAC
namespace Go.Proofs.YtapcfojnljnoaaaGreat
open Go.RowKit
set_option linter.unusedSimpArgs false
set_option linter.unusedVariables false

/-- one more inner slice, made behind all the others -/
theorem Lists.more6 {B C : Nat} {W W' : World} {v v' : Value} {vs : List Value} {n : Nat} {F : Nat → List Int} {cv : Value} {c : List Int} (h : Lists B W v vs n F) (hcv : New C W 3 cv (ints c)) (hBC : B ≤ C)
    (hlt : ∀ i g, i < n → (vs.getD i nilV).ownBlock = some g → g < C) (hO : New B W' 31 v' (vs ++ [cv])) (hk : KeptBut W W' v) : Lists B W' v' (vs ++ [cv]) (n + 1) (fun i => if i = n then c else F i) := by
  have hlen := h.len
  have hold : ∀ i, i < n → (vs ++ [cv]).getD i nilV = vs.getD i nilV := fun i hi => by
    rw [List.getD_eq_getElem?_getD, List.getD_eq_getElem?_getD, List.getElem?_append_left (by omega)]
  have hnew : (vs ++ [cv]).getD n nilV = cv := by
    rw [List.getD_eq_getElem?_getD, List.getElem?_append_right (by omega)]; simp [hlen]
  refine ⟨hO.own, by simp [hlen], fun i hi => ?_, fun i j g hij hj hgi => ?_, hO.base, fun i g hi hgi => ?_⟩
  · by_cases e : i = n
    · subst e; rw [hnew, if_pos rfl]; exact hcv.own.block fun g hg => hk g (hcv.own.lt g hg) (hcv.own.apart h.outer (by decide) g hg)
    · rw [hold i (by omega), if_neg e]
      have hi2 := h.inner i (by omega)
      exact hi2.block fun g hg => hk g (hi2.lt g hg) (hi2.apart h.outer (by decide) g hg)
  · rw [hold i (by omega)] at hgi
    by_cases e : j = n
    · subst e
      rw [hnew]
      intro q
      have := hlt i g hij hgi
      have := hcv.base g q
      omega
    · rw [hold j (by omega)]; exact h.apart i j g hij (by omega) hgi
  · by_cases e : i = n
    · subst e; rw [hnew] at hgi; exact Nat.le_trans hBC (hcv.base g hgi)
    · rw [hold i (by omega)] at hgi; exact h.ibase i g (by omega) hgi

theorem NewD.blockK {B : Nat} {W W' : World} {v : Value} {fs : List (Nat → Nat)} (h : NewD B W v fs) (hk : ∀ g, v.ownBlock = some g → W'.heap[g]? = W.heap[g]?) : NewD B W' v fs := by
  obtain ⟨h1, h2⟩ := h
  refine ⟨h1, ?_⟩
  rcases h2 with h2 | ⟨g, cap, cur, rfl, hBg, hb, h3⟩
  · exact .inl h2
  · exact .inr ⟨g, cap, cur, rfl, hBg, by rw [hk g rfl]; exact hb, h3⟩
theorem NewD.apartInts {B C : Nat} {W : World} {v u : Value} {fs : List (Nat → Nat)} {xs : List Value} (h : NewD B W v fs) (hu : New C W 31 u xs) (g : Nat) (hg : v.ownBlock = some g) : u.ownBlock ≠ some g := by
  obtain ⟨h1, h2⟩ := h
  rcases h2 with ⟨rfl, h0⟩ | ⟨g', cap, cur, rfl, hBg, hb, _⟩
  · simp [Value.ownBlock] at hg
  · have hg : g' = g := by simpa [Value.ownBlock] using hg
    subst hg
    rcases hu.own.shape with ⟨rfl, _⟩ | ⟨g2, c2, rfl, _⟩
    · simp [Value.ownBlock]
    · obtain ⟨cur2, h3, _⟩ := hu.own.row
      intro e
      have e : g2 = g' := by simpa [Value.ownBlock] using e
      subst e
      rw [hb] at h3
      simp at h3
open Classical in
/-- the orbits of the numbers to k, each at its least number -/
noncomputable def orbsTo (n : Nat) (fs : List (Nat → Nat)) : Nat → List (List Nat)
  | 0 => []
  | k + 1 => if leastIn n fs (k + 1) then orbsTo n fs k ++ [incL n (orbF n fs (k + 1))] else orbsTo n fs k
theorem orbsTo_yes {n : Nat} {fs : List (Nat → Nat)} {k : Nat} (h : leastIn n fs (k + 1)) : orbsTo n fs (k + 1) = orbsTo n fs k ++ [incL n (orbF n fs (k + 1))] := by simp [orbsTo, h]
theorem orbsTo_no {n : Nat} {fs : List (Nat → Nat)} {k : Nat} (h : ¬ leastIn n fs (k + 1)) : orbsTo n fs (k + 1) = orbsTo n fs k := by simp [orbsTo, h]
theorem orbsTo_len (n : Nat) (fs : List (Nat → Nat)) : ∀ k, (orbsTo n fs k).length ≤ k
  | 0 => Nat.le_refl _
  | k + 1 => by
    have := orbsTo_len n fs k
    by_cases h : leastIn n fs (k + 1)
    · rw [orbsTo_yes h, List.length_append]; simp; omega
    · rw [orbsTo_no h]; omega
def lkN (rs : List (List Nat)) (i : Nat) : List Int := numsV (rs.getD i [])
/-- an orbit's first number -/
theorem orb_first {n : Nat} {fs : List (Nat → Nat)} (hr : Rows n fs) {s : Nat} (h1 : 1 ≤ s) (h2 : s ≤ n) : ∃ a t, incL n (orbF n fs s) = a :: t ∧ (a = s ↔ leastIn n fs s) := by
  have ho := orb_spec hr h1 h2
  have hs : s ∈ incL n (orbF n fs s) := mem_incL.2 ⟨⟨h1, h2⟩, ho.self⟩
  have hup := incL_up n (orbF n fs s)
  cases hi : incL n (orbF n fs s) with
  | nil => rw [hi] at hs; simp at hs
  | cons a t =>
    refine ⟨a, t, rfl, ?_⟩
    rw [hi] at hs hup
    have hle : ∀ x ∈ a :: t, a ≤ x := fun x hx => by
      rcases List.mem_cons.1 hx with rfl | hx
      · exact Nat.le_refl _
      · exact Nat.le_of_lt ((List.pairwise_cons.1 hup).1 x hx)
    constructor
    · intro e x hx
      rw [← e]
      exact hle x (by rw [← hi]; exact mem_incL.2 ⟨ho.rng x hx, hx⟩)
    · intro hl
      have ha : a ∈ incL n (orbF n fs s) := by rw [hi]; exact List.mem_cons_self
      have := hl a (mem_incL.1 ha).2
      have := hle s hs
      omega
theorem NumOut_at {l : List Nat} {w : World} {e : Ending} {w' : World} (h : NumOut l w e w') : ∃ v, e = .returned v ∧ New w.heap.size w' 3 v (ints (numsV l)) ∧ Below w.heap.size w w' := h
theorem Lists.newN {B : Nat} {W : World} {v : Value} {vs : List Value} {n : Nat} {F : Nat → List Int} (h : Lists B W v vs n F) : New B W 31 v vs := ⟨h.outer, h.base⟩
theorem lkN_snoc (rs : List (List Nat)) (l : List Nat) (i : Nat) (hi : i < rs.length + 1) : (if i = rs.length then numsV l else lkN rs i) = lkN (rs ++ [l]) i := by
  unfold lkN
  by_cases e : i = rs.length
  · subst e
    rw [if_pos rfl, List.getD_eq_getElem?_getD, List.getElem?_append_right (Nat.le_refl _)]
    simp
  · rw [if_neg e, List.getD_eq_getElem?_getD, List.getD_eq_getElem?_getD, List.getElem?_append_left (by omega)]
noncomputable def orB (n : Int) (L : List (List Nat)) : Bool := rowsB n L && (decide (3 ≤ n) && decide (n ≤ 8))
noncomputable def orL (n : Int) (L : List (List Nat)) : List (List Nat) := if orB n L = true then orbsTo n.toNat (rF L) n.toNat else []
def ListsN (rs : List (List Nat)) (b : Bool) (w : World) (e : Ending) (w' : World) : Prop := ∃ v vs, e = .returned (.tuple #[v, .bool b]) ∧ Lists w.heap.size w' v vs rs.length (lkN rs) ∧ Below w.heap.size w w'
theorem orL_no {n : Int} {L : List (List Nat)} (h : orB n L = false) : orL n L = [] := by unfold orL; simp [h]
theorem orL_yes {n : Int} {L : List (List Nat)} (h : orB n L = true) : orL n L = orbsTo n.toNat (rF L) n.toNat := by unfold orL; simp [h]

set_option maxRecDepth 100000 in
set_option maxHeartbeats 1000000 in
theorem iOrbitsOf_any (v : Value) (L : List (List Nat)) (n : Int) (w : World) (h : Txts w v L) (hl : L.length ≤ 2000000) (hs : ∀ l ∈ L, l.length ≤ maxLen) :
    Calls Tryz.prog 6 #[v, .int .i64 n] w (ListsN (orL n L) (orB n L) w) := by
  have HW := Lib.hid (rowsOfStage_any n v L w h hl hs)
  have HGS := Lib.hid (goodStage_any n)
  unfold RowsOut2 at HW
  unfold ListsN
  by_cases hb : rowsB n L = true
  · by_cases hn : 3 ≤ n ∧ n ≤ 8
    · have hB : orB n L = true := by unfold orB; rw [hb, decide_eq_true hn.1, decide_eq_true hn.2]; rfl
      rw [orL_yes hB, hB]
      obtain ⟨k, rfl⟩ : ∃ k : Nat, n = (k : Int) := ⟨n.toNat, by omega⟩
      rw [Int.toNat_natCast]
      have hrows := rowsB_rows hb
      have hfl : (rF L).length ≤ 1000 := by have := rowsB_len hb; rw [rF_len]; omega
      have h3 : 3 ≤ k := by omega
      have h8 : k ≤ 8 := by omega
      simp only [hb, if_true] at HW
      have hk1 : (3 : Int) ≤ (k : Int) := by omega
      have hk2 : (k : Int) ≤ 8 := by omega
      have HORB := Lib.hid (fun v s w (h1 : 1 ≤ s) (h2 : s ≤ k) h => orbitOf_any k h3 h8 v (rF L) hrows hfl s h1 h2 w h)
      have HFST := Lib.hid (fun s (h1 : 1 ≤ s) (h2 : s ≤ k) => orb_first hrows h1 h2)
      generalize rF L = fs at *
      obtain ⟨i0, hi0, hz0, hz1, hz2⟩ := info_parts infoInts
      have I0 := Lib.hid (⟨hi0, hz0, hz1, hz2⟩ : _ ∧ _ ∧ _ ∧ _)
      clear h hl hs hb hn hB hrows hfl hi0 hz0 hz1 hz2
      go_enter Tryz.func6, Tryz.ntmps6
      go_wp2_with fail
      refine HW.out.mono ?_
      rintro e w1 ⟨v1, rfl, hn1, hb1⟩
      have HB1 := Lib.hid hb1
      have HN1 := Lib.hid hn1
      clear hb1 hn1
      go_wp2_with fail
      refine (HGS.out _).mono ?_
      rintro e w2 ⟨rfl, rfl⟩
      go_wp2
      go_loopg [8, 9] k (fun q ov i wr => ∃ (t : Nat) (vs : List Value), q + t = k ∧ i = .int .i64 ((t : Int) + 1) ∧ Lists w.heap.size wr ov vs (orbsTo k fs t).length (lkN (orbsTo k fs t)) ∧ NewD w.heap.size wr v1 fs ∧ Below w.heap.size w wr)
      case atStart => exact ⟨0, [], by omega, rfl, Lists.nil _ _ _, HN1.out, HB1.out⟩
      case round =>
        clear HN1 HB1
        obtain ⟨t, vs, hq, rfl, hls, hnd, hb⟩ := hrel
        have HQ := Lib.hid hq
        have HLS := Lib.hid hls
        have HND := Lib.hid hnd
        have HB := Lib.hid hb
        have htl := orbsTo_len k fs t
        obtain ⟨oa, oc, rfl, -⟩ := hls.view
        clear hq hls hnd hb
        by_cases hlt : t < k
        · obtain ⟨a, tl, hat, hiff⟩ := HFST.out (t + 1) (by omega) (by omega)
          have hle : (t : Int) + 1 ≤ (k : Int) := by omega
          have hti : ((t + 1 : Nat) : Int) = (t : Int) + 1 := by omega
          have HORX := Lib.hid (fun w h => HORB.out v1 (t + 1) w (by omega) (by omega) h)
          rw [hti] at HORX
          have HYES : Hid (a = t + 1 → orbsTo k fs (t + 1) = orbsTo k fs t ++ [a :: tl]) := Lib.hid (fun e => by rw [orbsTo_yes (hiff.1 e), hat])
          have HNO : Hid (a ≠ t + 1 → orbsTo k fs (t + 1) = orbsTo k fs t) := Lib.hid (fun e => orbsTo_no fun h => e (hiff.2 h))
          rw [hat] at HORX
          unfold NumOut at HORX
          clear hat hiff hti
          go_wp2_with fail
          refine (HORX.out _ HND.out.digs).mono ?_
          rintro e w5 ⟨v5, rfl, hn5, hb5⟩
          have HB5 := Lib.hid (HB.out.trans (hb5.mono HB.out.size))
          have HND5 := Lib.hid (HND.out.kept hb5)
          have HLS5 := Lib.hid (HLS.out.kept hb5)
          have HN5 := Lib.hid hn5
          have HLT : Hid (∀ i g, i < (orbsTo k fs t).length → (vs.getD i nilV).ownBlock = some g → g < wr.heap.size) := Lib.hid (fun i g hi hg => (HLS.out.inner i hi).lt g hg)
          have HWS := Lib.hid HB.out.size
          obtain ⟨ua, uc, rfl, hua⟩ := hn5.own.view
          have hul : (ints (numsV (a :: tl))).length = tl.length + 1 := by simp [ints, numsV]
          rw [hul] at hua ⊢
          obtain ⟨gu, rfl⟩ := hua (by omega)
          rw [hul] at HN5
          have c0 := HN5.out.own.cell 0 (.int .i64 (a : Int)) (by simp [ints, numsV])
          have hlp : (0 : Int) < ((tl.length + 1 : Nat) : Int) := by omega
          clear hb5 hn5 hua hul HB HND HLS
          by_cases he : a = t + 1
          · have HE := Lib.hid (HYES.out he)
            have hae : (a : Int) = (t : Int) + 1 := by omega
            have hab : ((a : Int) == (t : Int) + 1) = true := by rw [beq_iff_eq]; exact hae
            clear hae he HYES HNO
            go_wp2_with (at_builtin; refine wpList_app1 rfl (.tmp 37) (.tmp 39) 27 rfl 31 i0 (.slice none 0 0) 24 Tryz.underlying27 I0.out.1 I0.out.2.1 I0.out.2.2.1 I0.out.2.2.2 rfl w.heap.size w _ vs rfl HLS5.out.newN rfl HN5.out.own.one HB5.out.size HB5.out (by rw [HLS5.out.len]; omega) (by omega) ?_)
            intro v7 w7 hn7 hk7 hb7 _
            have HL7 := Lib.hid ((HLS5.out.more6 HN5.out HWS.out HLT.out hn7 hk7).congr (lkN_snoc (orbsTo k fs t) (a :: tl)))
            have HND7 := Lib.hid (HND5.out.blockK fun g hg => hk7 g (HND5.out.lt g hg).2 (fun q => NewD.apartInts HND5.out HLS5.out.newN g hg q))
            have HB7 := Lib.hid hb7
            obtain ⟨ua7, uc7, rfl, -⟩ := HL7.out.view
            clear hn7 hk7 hb7 HLS5 HN5 HND5 HB5
            go_wp2
            go_roundg (gk - 1)
            case measure => have := HQ.out; omega
            case rel => exact ⟨t + 1, _, by have := HQ.out; omega, by go_num, by rw [HE.out, List.length_append]; exact HL7.out, HND7.out, HB7.out⟩
          · have HE := Lib.hid (HNO.out he)
            have hab : ((a : Int) == (t : Int) + 1) = false := by rw [beq_eq_false_iff_ne]; omega
            clear HYES HNO he
            go_wp2
            go_roundg (gk - 1)
            case measure => have := HQ.out; omega
            case rel => exact ⟨t + 1, vs, by have := HQ.out; omega, by go_num, by rw [HE.out]; exact HLS5.out, HND5.out, HB5.out⟩
        · have hle : ¬ (t : Int) + 1 ≤ (k : Int) := by omega
          obtain rfl : t = k := by have := HQ.out; omega
          clear hlt htl
          go_wp2
          go_ret2
          exact ⟨_, rfl, ⟨vs, HLS.out⟩, HB.out⟩
    · have hB : orB n L = false := by
        unfold orB
        by_cases h1 : 3 ≤ n
        · rw [decide_eq_false (show ¬ n ≤ 8 from fun h => hn ⟨h1, h⟩)]; simp
        · rw [decide_eq_false h1]; simp
      have hgs : (decide (3 ≤ n) && decide (n ≤ 8)) = false := by
        by_cases h1 : 3 ≤ n
        · rw [decide_eq_false (show ¬ n ≤ 8 from fun h => hn ⟨h1, h⟩)]; simp
        · rw [decide_eq_false h1]; simp
      rw [orL_no hB, hB]
      rw [hgs] at HGS
      simp only [hb, if_true] at HW
      clear h hl hs hb hn hB hgs
      go_enter Tryz.func6, Tryz.ntmps6
      go_wp2_with fail
      refine HW.out.mono ?_
      rintro e w1 ⟨v1, rfl, hn1, hb1⟩
      have HB1 := Lib.hid hb1
      clear hb1 hn1
      go_wp2_with fail
      refine (HGS.out _).mono ?_
      rintro e w2 ⟨rfl, rfl⟩
      go_wp2
      go_ret2
      exact ⟨_, [], rfl, Lists.nil _ _ _, HB1.out⟩
  · have hb : rowsB n L = false := by simpa using hb
    have hB : orB n L = false := by unfold orB; rw [hb]; rfl
    rw [orL_no hB, hB]
    simp only [hb, Bool.false_eq_true, if_false] at HW
    clear h hl hs hb hB HGS
    go_enter Tryz.func6, Tryz.ntmps6
    go_wp2_with fail
    refine HW.out.mono ?_
    rintro e w1 ⟨v1, rfl, hn1, hb1⟩
    go_wp2
    go_ret2
    exact ⟨_, [], rfl, Lists.nil _ _ _, hb1⟩
end Go.Proofs.YtapcfojnljnoaaaGreat
