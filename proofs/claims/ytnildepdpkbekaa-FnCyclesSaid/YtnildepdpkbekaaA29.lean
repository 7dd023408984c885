/- CyclesOf in the model. -/
import Derived.Test.YtnildepdpkbekaaA28
namespace Go.Proofs.Ytnildepdpkbekaa
open Go.RowKit
set_option linter.unusedSimpArgs false

theorem Lists.add {B : Nat} {W W' : World} {v v' cv : Value} {vs : List Value} {n : Nat} {F : Nat → List Int} {c : List Int} (h : Lists B W v vs n F) (hcv : Own W 3 cv (ints c)) (hB : B ≤ W.heap.size)
    (hcb : ∀ g, cv.ownBlock = some g → B ≤ g) (hsep : ∀ i g, i < n → (vs.getD i nilV).ownBlock = some g → cv.ownBlock ≠ some g)
    (hO : Own W' 37 v' (vs ++ [cv])) (hg : W.grownBy W' v.ownBlock) (hf : FreshOr W v v') : Lists B W' v' (vs ++ [cv]) (n + 1) (fun i => if i = n then c else F i) := by
  have hlen := h.len
  have hold : ∀ i, i < n → (vs ++ [cv]).getD i nilV = vs.getD i nilV := fun i hi => by
    rw [List.getD_eq_getElem?_getD, List.getD_eq_getElem?_getD, List.getElem?_append_left (by omega)]
  have hnew : (vs ++ [cv]).getD n nilV = cv := by
    rw [List.getD_eq_getElem?_getD, List.getElem?_append_right (by omega)]; simp [hlen]
  refine ⟨hO, by simp [hlen], fun i hi => ?_, fun i j g hij hj hgi => ?_, fun g hgv => ?_, fun i g hi hgi => ?_⟩
  · by_cases e : i = n
    · subst e; rw [hnew, if_pos rfl]; exact hcv.grown hg fun g hgc q => (hcv.apart h.outer (by decide) g hgc) q.symm
    · rw [hold i (by omega), if_neg e]
      exact (h.inner i (by omega)).grown hg fun g hgc q => ((h.inner i (by omega)).apart h.outer (by decide) g hgc) q.symm
  · rw [hold i (by omega)] at hgi
    by_cases e : j = n
    · subst e; rw [hnew]; exact hsep i g hij hgi
    · rw [hold j (by omega)]; exact h.apart i j g hij (by omega) hgi
  · rcases hf g hgv with q | q
    · exact h.base g q
    · omega
  · by_cases e : i = n
    · subst e; rw [hnew] at hgi; exact hcb g hgi
    · rw [hold i (by omega)] at hgi; exact h.ibase i g (by omega) hgi
theorem Lists.lower {B B' : Nat} {W : World} {v : Value} {vs : List Value} {n : Nat} {F : Nat → List Int} (h : Lists B W v vs n F) (hB : B' ≤ B) : Lists B' W v vs n F :=
  ⟨h.outer, h.len, h.inner, h.apart, fun g hg => Nat.le_trans hB (h.base g hg), fun i g hi hg => Nat.le_trans hB (h.ibase i g hi hg)⟩
theorem Lists.grown {B : Nat} {W W' : World} {v : Value} {vs : List Value} {n : Nat} {F : Nat → List Int} {row : Option Nat} (h : Lists B W v vs n F) (hg : W.grownBy W' row) (ho : ∀ g, v.ownBlock = some g → some g ≠ row)
    (hin : ∀ i g, i < n → (vs.getD i nilV).ownBlock = some g → some g ≠ row) : Lists B W' v vs n F :=
  ⟨h.outer.grown hg ho, h.len, fun i hi => (h.inner i hi).grown hg (fun g q => hin i g hi q), h.apart, h.base, h.ibase⟩
/-- a list of lists by its places -/
def at' (ll : List (List Int)) (i : Nat) : List Int := ll.getD i []
theorem at'_add (ll : List (List Int)) (c : List Int) (i : Nat) (hi : i < ll.length + 1) : (if i = ll.length then c else at' ll i) = at' (ll ++ [c]) i := by
  unfold at'
  by_cases e : i = ll.length
  · rw [if_pos e, List.getD_eq_getElem?_getD, List.getElem?_append_right (by omega)]; simp [e]
  · rw [if_neg e, List.getD_eq_getElem?_getD, List.getD_eq_getElem?_getD, List.getElem?_append_left (by omega)]
theorem Lists.block_lt {B : Nat} {W : World} {v : Value} {vs : List Value} {n : Nat} {F : Nat → List Int} (h : Lists B W v vs n F) (i g : Nat) (hi : i < n) (hg : (vs.getD i nilV).ownBlock = some g) : g < W.heap.size := (h.inner i hi).lt g hg

def CycRes (n : Nat) (f : Nat → Nat) (w : World) (e : Ending) (w' : World) : Prop :=
  ∃ v vs, e = .returned (.tuple #[v, .bool true]) ∧ Lists w.heap.size w' v vs (cycs n f n).length (at' (cycs n f n)) ∧ Below w.heap.size w w'
/-- what the model's loop knows behind i bells -/
structure SpecAt (n : Nat) (f : Nat → Nat) (i : Nat) (w wr : World) (out sv : Value) (vs : List Value) : Prop where
  lists : Lists w.heap.size wr out vs (cycs n f i).length (at' (cycs n f i))
  seen : NewInts w.heap.size wr sv (cycs n f i).flatten
  sep : ∀ t g, t < (cycs n f i).length → (vs.getD t nilV).ownBlock = some g → sv.ownBlock ≠ some g
  below : Below w.heap.size w wr

set_option maxRecDepth 100000 in
set_option maxHeartbeats 1000000 in
theorem sCyclesOf_yes (n : Nat) (f : Nat → Nat) (hf : IsRow n f) (w : World) :
    Calls Try.prog 15 #[.string (strOf n f)] w (CycRes n f w) := by
  have h8 := hf.eight
  have hss := strOf_size n f
  obtain ⟨i0, hi0, hz0, hz1, hz2⟩ := info_parts infoInt
  obtain ⟨i1, hi1, hy0, hy1, hy2⟩ := info_parts infoInts
  have I0 := Lib.hid (⟨hi0, hz0, hz1, hz2⟩ : _ ∧ _ ∧ _ ∧ _)
  have I1 := Lib.hid (⟨hi1, hy0, hy1, hy2⟩ : _ ∧ _ ∧ _ ∧ _)
  have HF := Lib.hid hf
  have HG := Lib.hid (goodB_strOf hf)
  have HSTR := Lib.hid (isStr_row hf)
  clear hf hi0 hz0 hz1 hz2 hi1 hy0 hy1 hy2
  go_enter Try.func15, Try.ntmps15
  go_wp2_with fail
  refine (l1Row_any _ (mx_row f h8) _).mono ?_
  rintro e w1 ⟨rfl, hb1⟩
  rw [HG.out]
  have HB1 := Lib.hid hb1
  clear hb1
  go_wp2
  go_loopg [4, 5, 6, 7, 8] n (fun q out seen x _ _ wr => ∃ (i : Nat) (vs : List Value), i ≤ n ∧ q + i = n ∧ x = .int .i64 ((i : Int) + 1) ∧ SpecAt n f i w wr out seen vs)
  case atStart =>
    exact ⟨0, [], Nat.zero_le _, rfl, rfl, ⟨Lists.nil _ _ _, ⟨Own.nil _ _, fun g hg => by simp [Value.ownBlock] at hg⟩, fun t g ht => absurd ht (by simp [cycs]), HB1.out⟩⟩
  case round =>
    clear HB1
    obtain ⟨i, vs, hi, hq, rfl, hst⟩ := hrel
    have HQ := Lib.hid hq
    have HST := Lib.hid hst
    clear hq hst
    have hfl := flat_len HF.out i hi
    by_cases hlt : i < n
    · have hki : (i : Int) + 1 ≤ n := by omega
      have hlo := HF.out.lo i hlt
      have hhi := HF.out.hi i hlt
      by_cases hseen : ((i : Int) + 1) ∈ (cycs n f i).flatten
      · have HSK := Lib.hid (cycs_skip (.inl hseen))
        have HSE := Lib.hid hseen
        clear hseen
        go_wp2_with fail
        refine (l1Has_any u5 _ ((i : Int) + 1) _ HST.out.seen.1 (by omega) true (by simpa using HSE.out)).mono ?_
        rintro e w' ⟨rfl, rfl⟩
        go_wp2
        go_roundg (n - (i + 1))
        case measure => have := HQ.out; omega
        case rel => exact ⟨i + 1, vs, by omega, by have := HQ.out; omega, by go_num, ⟨by rw [HSK.out]; exact HST.out.lists, by rw [HSK.out]; exact HST.out.seen, by rw [HSK.out]; exact HST.out.sep, HST.out.below⟩⟩
      · by_cases hfix : f i = 49 + i
        · have HSK := Lib.hid (cycs_skip (n := n) (.inr hfix))
          have HSE := Lib.hid hseen
          have hfx : ((f i : Int) - 48 == (i : Int) + 1) = true := by simp; omega
          clear hseen
          have HFX := Lib.hid hfix
          clear hfix
          go_wp2_with fail
          refine (l1Has_any u5 _ ((i : Int) + 1) _ HST.out.seen.1 (by omega) false (by simpa using HSE.out)).mono ?_
          rintro e w' ⟨rfl, rfl⟩
          go_wp2_with fail
          refine (l1At_any n f _ HSTR.out ((i : Int) + 1) (by omega) (by omega) h8 (by rw [show ((i : Int) + 1).toNat - 1 = i from by omega]; omega) _).mono ?_
          rintro e w' ⟨rfl, rfl⟩
          rw [show ((i : Int) + 1).toNat - 1 = i from by omega]
          go_wp2
          go_roundg (n - (i + 1))
          case measure => have := HQ.out; omega
          case rel => exact ⟨i + 1, vs, by omega, by have := HQ.out; omega, by go_num, ⟨by rw [HSK.out]; exact HST.out.lists, by rw [HSK.out]; exact HST.out.seen, by rw [HSK.out]; exact HST.out.sep, HST.out.below⟩⟩
        · have HADD := Lib.hid (cycs_add (n := n) (f := f) (i := i) (fun h => h.elim hseen hfix))
          have HSE := Lib.hid hseen
          have hfx : ((f i : Int) - 48 == (i : Int) + 1) = false := by simp; omega
          clear hseen hfix
          have HP := Lib.hid (perN_spec HF.out hlt)
          go_wp2_with fail
          refine (l1Has_any u5 _ ((i : Int) + 1) _ HST.out.seen.1 (by omega) false (by simpa using HSE.out)).mono ?_
          rintro e w' ⟨rfl, rfl⟩
          go_wp2_with fail
          refine (l1At_any n f _ HSTR.out ((i : Int) + 1) (by omega) (by omega) h8 (by rw [show ((i : Int) + 1).toNat - 1 = i from by omega]; omega) _).mono ?_
          rintro e w' ⟨rfl, rfl⟩
          rw [show ((i : Int) + 1).toNat - 1 = i from by omega]
          go_wp2
          generalize hper : perN n f i = m at HP
          obtain ⟨wo, hwo⟩ : ∃ wo : World, wo = wr := ⟨_, rfl⟩
          subst hwo
          go_loopg [7, 8] m (fun q v x wq => ∃ (k : Nat), k ≤ m ∧ q + k = m ∧ x = .int .i64 ((orb n f i k : Nat) + 1) ∧ NewInts wo.heap.size wq v (cycTo n f i k) ∧ Below wo.heap.size wo wq)
          case atStart => exact ⟨0, Nat.zero_le _, rfl, by rw [orb_zero f hlt], ⟨Own.nil _ _, fun g hg => by simp [Value.ownBlock] at hg⟩, Below.refl _ _⟩
          case round =>
            obtain ⟨k, hkm, hq, rfl, hnew, hbel⟩ := hrel
            have HQ2 := Lib.hid hq
            have HNEW := Lib.hid hnew
            have HB := Lib.hid hbel
            have hob := orb_lt HF.out hlt k
            have hml := HP.out.le
            have hcl := cycTo_len n f i k
            have HCL := Lib.hid hcl
            clear hq hnew hbel hcl
            by_cases hlk : k < m
            · have hin := cyc_new HF.out hlt HP.out hlk
              have hsucc := orb_succ HF.out hlt k
              have hcs := cycTo_succ n f i k
              generalize orb n f i k = ob at *
              have hflo := HF.out.lo ob hob
              have hfhi := HF.out.hi ob hob
              have HS := Lib.hid hsucc
              have HCS := Lib.hid hcs
              have HIN := Lib.hid hin
              clear hsucc hcs hin
              go_wp2_with fail
              refine (l1Has_any u7 _ (((ob : Nat) : Int) + 1) _ HNEW.out.1 (by rw [HCL.out]; omega) false (by simpa using HIN.out)).mono ?_
              rintro e w' ⟨rfl, rfl⟩
              have hlen : (ints (cycTo n f i k)).length = k := by rw [ints_len, HCL.out]
              have HLEN := Lib.hid hlen
              clear hlen
              go_wp2_with (at_builtin; refine wpList_app rfl (.tmp 36) (.tmp 38) 37 rfl 3 i0 (.int .i64 0) 8 Try.underlying37 I0.out.1 I0.out.2.1 I0.out.2.2.1 I0.out.2.2.2 rfl _ _ rfl (HNEW.out.1.alloc _) ⟨wr.heap.size, 0, none⟩ 1 1 [.int .i64 (((ob : Nat) : Int) + 1)] rfl rfl ?c1 ?c2 ?c3 ?c4 ?_)
              case c1 =>
                intro j u hj
                have : j = 0 := by
                  have := (List.getElem?_eq_some_iff.1 hj).1
                  simpa using this
                subst this
                simp at hj
                subst hj
                simp [Addr.add]
              case c2 => intro u hu; simp at hu; subst hu; rfl
              case c3 => rw [HLEN.out]; omega
              case c4 => rw [HLEN.out]; unfold maxLen; omega
              intro v' w' hown' hgrow hfresh _
              have hne5 : ∀ b, u7.ownBlock = some b → wo.heap.size ≤ b := HNEW.out.2
              have hnew' : NewInts wo.heap.size w' v' (cycTo n f i (k + 1)) := by
                refine ⟨by rw [HCS.out]; simpa [ints] using hown', fun b hb => ?_⟩
                have hsz := HB.out.size
                rcases hfresh b hb with h | h
                · exact hne5 b h
                · simp at h; omega
              have hbel' : Below wo.heap.size wo w' := (HB.out.alloc HB.out.size _).grown hgrow (by have := HB.out.size; simp; omega) (fun b hb => hne5 b hb)
              have HNEW' := Lib.hid hnew'
              have HB' := Lib.hid hbel'
              clear hown' hgrow hfresh hne5 hnew' hbel'
              go_wp2_with fail
              refine (l1At_any n f _ HSTR.out (((ob : Nat) : Int) + 1) (by omega) (by omega) h8 (by rw [show (((ob : Nat) : Int) + 1).toNat - 1 = ob from by omega]; omega) _).mono ?_
              rintro e w'' ⟨rfl, rfl⟩
              rw [show (((ob : Nat) : Int) + 1).toNat - 1 = ob from by omega]
              go_wp2
              go_roundg (m - (k + 1))
              case measure => have := HQ2.out; omega
              case rel => exact ⟨k + 1, by omega, by have := HQ2.out; omega, by rw [HS.out]; congr 1; omega, HNEW'.out, HB'.out⟩
            · obtain rfl : k = m := by omega
              have hback := cyc_back hlt HP.out
              have HBK := Lib.hid hback
              have hkp := HP.out.pos
              have HPER := Lib.hid hper
              clear hback hper
              obtain ⟨gc, hgc0⟩ : ∃ gc cc, u7 = .slice (some ⟨gc, 0, none⟩) k cc := by
                obtain ⟨aa, cc, e1, e2⟩ := HNEW.out.1.viewI HCL.out
                obtain ⟨gc, rfl⟩ := e2 (by omega)
                exact ⟨gc, cc, e1⟩
              obtain ⟨cc, rfl⟩ := hgc0
              have hflen : (ints (cycs n f i).flatten).length = (cycs n f i).flatten.length := ints_len _
              have HFL := Lib.hid hflen
              clear hflen
              go_wp2_with fail
              refine (l1Has_any _ _ (((orb n f i k : Nat) : Int) + 1) _ HNEW.out.1 (by rw [HCL.out]; omega) true (by simpa using HBK.out)).mono ?_
              rintro e w' ⟨rfl, rfl⟩
              have hseenR : NewInts w.heap.size wr u5 (cycs n f i).flatten := ⟨HST.out.seen.1.kept HB.out, HST.out.seen.2⟩
              have HSEENR := Lib.hid hseenR
              clear hseenR
              go_wp2_with (at_builtin; refine wpList_app rfl (.tmp 40) (.tmp 41) 37 rfl 3 i0 (.int .i64 0) 8 Try.underlying37 I0.out.1 I0.out.2.1 I0.out.2.2.1 I0.out.2.2.2 rfl _ _ rfl HSEENR.out.1 ⟨gc, 0, none⟩ k cc (ints (cycTo n f i k)) rfl ?d0 ?d1 ?d2 ?d3 ?d4 ?_)
              case d0 => rw [ints_len, HCL.out]
              case d1 =>
                intro j u hj
                rw [show (⟨gc, 0, none⟩ : Addr).add j = ⟨gc, j, none⟩ from by unfold Addr.add; split <;> simp_all]
                exact HNEW.out.1.cell j u hj
              case d2 =>
                intro u hu
                simp only [ints, List.mem_map] at hu
                obtain ⟨t, _, rfl⟩ := hu
                rfl
              case d3 => rw [HFL.out]; omega
              case d4 => rw [HFL.out]; unfold maxLen; omega
              intro v3 w3 hown3 hgrow3 hfresh3 _
              have hgcw : wo.heap.size ≤ gc := HNEW.out.2 gc rfl
              have hgcr : gc < wr.heap.size := HNEW.out.1.lt gc rfl
              have hwr : wo.heap.size ≤ wr.heap.size := HB.out.size
              have hw0 : w.heap.size ≤ wo.heap.size := HST.out.below.size
              have h5lt : ∀ b, u5.ownBlock = some b → b < wo.heap.size := fun b hb => HST.out.seen.1.lt b hb
              have hL3 : Lists w.heap.size w3 u4 vs (cycs n f i).length (at' (cycs n f i)) := by
                refine (HST.out.lists.kept HB.out).grown hgrow3 (fun g q e => ?_) (fun t g ht q e => ?_)
                · exact (HST.out.lists.outer.apart HST.out.seen.1 (by decide) g q) e.symm
                · exact HST.out.sep t g ht q e.symm
              have hC3 : Own w3 3 (.slice (some ⟨gc, 0, none⟩) k cc) (ints (cycTo n f i k)) := by
                refine HNEW.out.1.grown hgrow3 (fun g q e => ?_)
                have e1 : gc = g := by injection q
                have := h5lt g e.symm
                omega
              have hS3 : NewInts w.heap.size w3 v3 ((cycs n f i).flatten ++ cycTo n f i k) := by
                refine ⟨by simpa [ints] using hown3, fun b hb => ?_⟩
                rcases hfresh3 b hb with h | h
                · exact HST.out.seen.2 b h
                · omega
              have hsep3 : ∀ t g, t < (cycs n f i).length → (vs.getD t nilV).ownBlock = some g → v3.ownBlock ≠ some g := by
                intro t g ht q e
                rcases hfresh3 g e with h | h
                · exact HST.out.sep t g ht q h
                · have := HST.out.lists.block_lt t g ht q
                  omega
              have hsepc : v3.ownBlock ≠ some gc := by
                intro e
                rcases hfresh3 gc e with h | h
                · have := h5lt gc h
                  omega
                · omega
              have hbel3 : Below w.heap.size w w3 := ((HST.out.below.trans (HB.out.mono hw0)).grown hgrow3 (by omega) (fun b hb => HST.out.seen.2 b hb))
              have hw3 : wr.heap.size ≤ w3.heap.size := hgrow3.size
              have HL3 := Lib.hid hL3
              have HC3 := Lib.hid hC3
              have HS3 := Lib.hid hS3
              have HSEP3 := Lib.hid hsep3
              have HSEPC := Lib.hid hsepc
              have HB3 := Lib.hid hbel3
              have hvl : vs.length ≤ 8 := by rw [HST.out.lists.len]; have := cycs_len n f i; omega
              have H5 := Lib.hid h5lt
              clear hL3 hC3 hS3 hsep3 hsepc hbel3 hown3 hgrow3 hfresh3 h5lt
              go_wp2_with (at_builtin; refine wpList_app rfl (.tmp 43) (.tmp 45) 31 rfl 37 i1 (.slice none 0 0) 24 Try.underlying31 I1.out.1 I1.out.2.1 I1.out.2.2.1 I1.out.2.2.2 rfl _ _ rfl (HL3.out.outer.alloc _) ⟨w3.heap.size, 0, none⟩ 1 1 [.slice (some ⟨gc, 0, none⟩) k cc] rfl rfl ?e1 ?e2 ?e3 ?e4 ?_)
              case e1 =>
                intro j u hj
                have : j = 0 := by
                  have := (List.getElem?_eq_some_iff.1 hj).1
                  simpa using this
                subst this
                simp at hj
                subst hj
                simp [Addr.add]
              case e2 => intro u hu; simp at hu; subst hu; rfl
              case e3 => omega
              case e4 => unfold maxLen; omega
              intro v5 w5 hown5 hgrow5 hfresh5 _
              have hL4 := HL3.out.kept ((Below.refl w3.heap.size w3).alloc (Nat.le_refl _) (.cells #[.slice (some ⟨gc, 0, none⟩) k cc] 37))
              have hC4 := HC3.out.alloc (.cells #[.slice (some ⟨gc, 0, none⟩) k cc] 37)
              have hS4 := HS3.out.1.alloc (.cells #[.slice (some ⟨gc, 0, none⟩) k cc] 37)
              have hnew5 : SpecAt n f (i + 1) w w5 v5 v3 (vs ++ [.slice (some ⟨gc, 0, none⟩) k cc]) := by
                have ec : cyc n f i = cycTo n f i k := by unfold cyc; rw [HPER.out]
                have hq1 : ∀ g, (Value.slice (some ⟨gc, 0, none⟩) k cc).ownBlock = some g → w.heap.size ≤ g := by
                  intro g q
                  have e1 : gc = g := by injection q
                  omega
                have hq2 : ∀ t g, t < (cycs n f i).length → (vs.getD t nilV).ownBlock = some g → (Value.slice (some ⟨gc, 0, none⟩) k cc).ownBlock ≠ some g := by
                  intro t g ht q e
                  have e1 : gc = g := by injection e
                  have := HST.out.lists.block_lt t g ht q
                  omega
                have hlist := hL4.add hC4 (by simp; omega) hq1 hq2 hown5 hgrow5 hfresh5
                refine ⟨?_, ⟨?_, HS3.out.2⟩, ?_, ?_⟩
                · rw [HADD.out, ec]
                  simp only [List.length_append, List.length_singleton]
                  exact hlist.congr fun t ht => at'_add (cycs n f i) (cycTo n f i k) t ht
                · rw [HADD.out, ec, List.flatten_append]
                  simp only [List.flatten_cons, List.flatten_nil, List.append_nil]
                  exact hS4.grown hgrow5 (fun g q e => (hS4.apart hL4.outer (by decide) g q) e.symm)
                · intro t g ht q
                  rw [HADD.out] at ht
                  simp only [List.length_append, List.length_singleton] at ht
                  by_cases e : t = (cycs n f i).length
                  · subst e
                    rw [List.getD_eq_getElem?_getD, List.getElem?_append_right (by rw [HST.out.lists.len]; exact Nat.le_refl _), HST.out.lists.len] at q
                    simp [Value.ownBlock] at q
                    subst q
                    exact HSEPC.out
                  · rw [List.getD_eq_getElem?_getD, List.getElem?_append_left (by rw [HST.out.lists.len]; omega), ← List.getD_eq_getElem?_getD] at q
                    exact HSEP3.out t g (by omega) q
                · exact (HB3.out.alloc (by omega) _).grown hgrow5 (by simp; omega) (fun b hb => HL3.out.base b hb)
              have HNEW5 := Lib.hid hnew5
              clear hown5 hgrow5 hfresh5 hL4 hC4 hS4 hnew5
              go_wp2
              go_roundg (n - (i + 1))
              case measure => have := HQ.out; omega
              case rel => exact ⟨i + 1, _, by omega, by have := HQ.out; omega, by go_num, HNEW5.out⟩
    · obtain rfl : i = n := by omega
      go_wp2
      go_ret2
      exact ⟨u4, vs, rfl, HST.out.lists, HST.out.below⟩
end Go.Proofs.Ytnildepdpkbekaa
