/- PathsOf in the model. -/
import Derived.Test.YtpfnamiacagocaaE14
import Derived.Test.YtpfnamiacagocaaZA
import Derived.Test.YtpfnamiacagocaaDA
namespace Go.Proofs.Ytpfnamiacagocaa
open Go.RowKit
set_option linter.unusedSimpArgs false
set_option linter.unusedVariables false

/-- one more inner slice, made behind all the others -/
theorem Lists.more {B C : Nat} {W W' : World} {v v' : Value} {vs : List Value} {n : Nat} {F : Nat → List Int} {cv : Value} {c : List Int} (h : Lists B W v vs n F) (hcv : New C W 3 cv (ints c)) (hBC : B ≤ C)
    (hlt : ∀ i g, i < n → (vs.getD i nilV).ownBlock = some g → g < C) (hO : New B W' 39 v' (vs ++ [cv])) (hk : KeptBut W W' v) : Lists B W' v' (vs ++ [cv]) (n + 1) (fun i => if i = n then c else F i) := by
  have hlen := h.len
  have hold : ∀ i, i < n → (vs ++ [cv]).getD i nilV = vs.getD i nilV := fun i hi => by
    rw [List.getD_eq_getElem?_getD, List.getD_eq_getElem?_getD, List.getElem?_append_left (by omega)]
  have hnew : (vs ++ [cv]).getD n nilV = cv := by
    rw [List.getD_eq_getElem?_getD, List.getElem?_append_right (by omega)]; simp [hlen]
  refine ⟨hO.own, by simp [hlen], fun i hi => ?_, fun i j g hij hj hgi => ?_, hO.base, fun i g hi hgi => ?_⟩
  · by_cases e : i = n
    · subst e; rw [hnew, if_pos rfl]; exact hcv.own.block fun g hg => hk g (hcv.own.lt g hg) (hcv.own.apart h.outer (by decide) g hg)
    · rw [hold i (by omega), if_neg e]
      have hi2 := h.inner i (by omega)
      exact hi2.block fun g hg => hk g (hi2.lt g hg) (hi2.apart h.outer (by decide) g hg)
  · rw [hold i (by omega)] at hgi
    by_cases e : j = n
    · subst e
      rw [hnew]
      intro q
      have := hlt i g hij hgi
      have := hcv.base g q
      omega
    · rw [hold j (by omega)]; exact h.apart i j g hij (by omega) hgi
  · by_cases e : i = n
    · subst e; rw [hnew] at hgi; exact Nat.le_trans hBC (hcv.base g hgi)
    · rw [hold i (by omega)] at hgi; exact h.ibase i g (by omega) hgi

set_option maxRecDepth 100000 in
set_option maxHeartbeats 1000000 in
theorem sPathsOf_any (s : ByteArray) (hs : s.size ≤ maxLen) (n : Int) (v : Value) (L : List (List Nat)) (w : World) (h : Txts w v L) (hl : L.length ≤ 2000000) (hsm : Small L) :
    Calls Try.prog 16 #[.agg #[.string s, .int .i64 n, v]] w (ListsR (pathsC s n L) (pathsF s n L) (goodM s n L) w) := by
  obtain ⟨a, cap, rfl, hcap, -⟩ := id h
  have HT := Lib.hid h
  have HR0 := Lib.hid (RowAt.new w 26 #[.string s, .int .i64 n, .slice a L.length cap])
  have HB0 := Lib.hid ((Below.refl _ w).alloc (Nat.le_refl _) (.cells #[.string s, .int .i64 n, .slice a L.length cap] 26))
  have HC := Lib.hid (fun w h => l4Good_any s hs n (.slice a L.length cap) L w h hl hsm)
  by_cases hg : goodM s n L = true
  · rw [hg] at HC
    obtain ⟨n, rfl⟩ := Int.eq_ofNat_of_zero_le (show 0 ≤ n by have := goodAll_range (goodM_parts hg).1; omega)
    obtain ⟨h3, h8, hrows, h40, -⟩ := goodM_nat hg
    rw [chR_len] at h40
    have hC : pathsC s n L = n := by unfold pathsC; rw [if_pos hg]; exact Int.toNat_natCast n
    have hF : pathsF s n L = fun k => (pathF n (chR n L) (rdf n) (k + 1)).map fun (x : Nat) => (x : Int) := by
      funext k
      unfold pathsF
      rw [Int.toNat_natCast]
    rw [hC, hF, hg]
    have HG : Hid (∀ (k : Nat) w, k < n → Txts w (.slice a L.length cap) L → Calls Try.prog 63 #[.agg #[.string s, .int .i64 n, .slice a L.length cap], .int .i64 ((k : Int) + 1)] w (NumsOut (pathF n (chR n L) (rdf n) (k + 1)) w)) := Lib.hid (fun k w hk h => by
      have := l5Path_any s n (.slice a L.length cap) L (goodM_parts hg).1 h40 (k + 1) (by omega) (by omega) w h
      rw [show ((k + 1 : Nat) : Int) = (k : Int) + 1 from rfl] at this
      exact this)
    unfold NumsOut at HG
    obtain ⟨pf, hpf⟩ : ∃ pf : Nat → List Nat, (fun k => pathF n (chR n L) (rdf n) (k + 1)) = pf := ⟨_, rfl⟩
    have hpk : ∀ k, pathF n (chR n L) (rdf n) (k + 1) = pf k := fun k => by rw [← hpf]
    simp only [hpk] at HG ⊢
    obtain ⟨F, hFF⟩ : ∃ F : Nat → List Int, (fun k => (pf k).map fun (x : Nat) => (x : Int)) = F := ⟨_, rfl⟩
    rw [hFF]
    have HFF : Hid (∀ k, nums (pf k) = ints (F k)) := Lib.hid (fun k => by rw [← hFF]; rfl)
    obtain ⟨i0, hi0, hz0, hz1, hz2⟩ := info_parts infoInts
    have I0 := Lib.hid (⟨hi0, hz0, hz1, hz2⟩ : _ ∧ _ ∧ _ ∧ _)
    generalize L.length = m at *
    have hn8 : (n : Int) ≤ 8 := by omega
    clear hl hg h hcap hC hF hpf hpk hFF hrows h40 hsm hi0 hz0 hz1 hz2
    go_enter Try.func16, Try.ntmps16
    go_wp2_with (first | (refine wpList_load_row rfl 26 _ rfl _ rfl 26 _ _ _ (HR0.out) Try.underlying26 rfl (by kernel_rfl) ?_) | fail)
    refine (HC.out _ (HT.out.kept HB0.out)).mono ?_
    rintro e w1 ⟨rfl, hb1⟩
    have HB1 := Lib.hid (HB0.out.trans (hb1.mono HB0.out.size))
    have HR1 := Lib.hid (HR0.out.kept hb1)
    clear hb1 HC HB0 HR0
    go_wp2
    go_loopg [4, 5] n (fun q ov x wr => ∃ (j : Nat) (vs : List Value), q + j = n ∧ x = .int .i64 ((j : Int) + 1) ∧ Lists w1.heap.size wr ov vs j F ∧ Below w1.heap.size w1 wr)
    case atStart => exact ⟨0, [], by omega, rfl, Lists.nil _ _ _, Below.refl _ _⟩
    case round =>
      obtain ⟨j, vs, hq, rfl, ho, hb⟩ := hrel
      have HO := Lib.hid ho
      have HB := Lib.hid hb
      have hws := hb.size
      have hww := HB1.out.size
      have HRr := Lib.hid (HR1.out.kept hb)
      have c1 := HRr.out.cell 1 rfl
      obtain ⟨a9, c9, hv9, -⟩ := ho.outer.view
      have hvl := ho.len
      rw [hvl] at hv9
      subst hv9
      clear ho hb
      by_cases hlt : j < n
      · have hji : (j : Int) + 1 ≤ n := by omega
        have HGj := Lib.hid (fun w h => HG.out j w hlt h)
        have HTr := Lib.hid (HT.out.kept (HB1.out.trans (HB.out.mono hww)))
        go_wp2_with (first | (refine wpList_load_row rfl 26 _ rfl _ rfl 26 _ _ _ (HRr.out) Try.underlying26 rfl (by kernel_rfl) ?_) | fail)
        refine (HGj.out _ HTr.out).mono ?_
        rintro e w4 ⟨v4, rfl, hn4, hb4⟩
        rw [HFF.out j] at hn4
        have HK4 := Lib.hid (HO.out.kept hb4)
        have HB4 := Lib.hid (HB.out.trans (hb4.mono hws))
        have hs4 := HB4.out.size
        have HLT : Hid (∀ i g, i < j → (vs.getD i nilV).ownBlock = some g → g < wr.heap.size) := Lib.hid (fun i g hi hg => (HO.out.inner i hi).lt g hg)
        obtain ⟨a4, k4, hv4, -⟩ := hn4.own.viewI rfl
        subst hv4
        have HN4 := Lib.hid hn4
        clear hn4 hb4 HGj HTr c1
        have hvl2 : vs.length ≤ 100000 := by omega
        go_wp2_with (first | (at_builtin; refine wpList_app1 rfl (.tmp 15) (.tmp 19) 28 rfl 39 i0 (.slice none 0 0) 24 Try.underlying28 I0.out.1 I0.out.2.1 I0.out.2.2.1 I0.out.2.2.2 rfl w1.heap.size w1 _ _ rfl ⟨HK4.out.outer, HK4.out.base⟩ rfl rfl hs4 HB4.out hvl2 (by omega) ?_) | fail)
        intro v8 w8 hn8 hk8 hb8 hs8
        have HO6 : Hid (Lists w1.heap.size w8 v8 (vs ++ [.slice a4 (F j).length k4]) (j + 1) F) := Lib.hid ((HK4.out.more HN4.out hws HLT.out hn8 hk8).congr fun i hi => by
          by_cases e : i = j
          · rw [if_pos e, e]
          · rw [if_neg e])
        have HB8 := Lib.hid hb8
        clear hn8 hk8 hb8 HN4 HK4 HLT
        generalize (F j).length = l4 at *
        go_wp2
        go_roundg (n - (j + 1))
        case measure => omega
        case rel => exact ⟨j + 1, _, by omega, by go_num, HO6.out, HB8.out⟩
      · obtain rfl : j = n := by omega
        have hji : ¬ ((j : Int) + 1 ≤ j) := by omega
        have HF := Lib.hid (HO.out.low hww)
        clear HO
        go_wp2
        go_ret2
        exact ⟨_, _, rfl, HF.out, HB1.out.trans (HB.out.mono hww)⟩
  · have hg : goodM s n L = false := by simpa using hg
    have hC : pathsC s n L = 0 := by unfold pathsC; rw [hg]; rfl
    rw [hC]
    rw [hg] at HC ⊢
    clear hl hg h hcap hC hsm
    generalize L.length = m at *
    go_enter Try.func16, Try.ntmps16
    go_wp2_with (first | (refine wpList_load_row rfl 26 _ rfl _ rfl 26 _ _ _ (HR0.out) Try.underlying26 rfl (by kernel_rfl) ?_) | fail)
    refine (HC.out _ (HT.out.kept HB0.out)).mono ?_
    rintro e w1 ⟨rfl, hb1⟩
    have HB1 := Lib.hid (HB0.out.trans (hb1.mono HB0.out.size))
    clear hb1
    go_wp2
    go_ret2
    exact ⟨_, _, rfl, Lists.nil _ _ _, HB1.out⟩
end Go.Proofs.Ytpfnamiacagocaa
