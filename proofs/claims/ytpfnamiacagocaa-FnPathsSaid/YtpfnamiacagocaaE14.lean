/- PathsOf in the program. -/
import Derived.Test.YtpfnamiacagocaaEB
import Derived.Test.YtpfnamiacagocaaEC
import Derived.Test.YtpfnamiacagocaaI0
namespace Go.Proofs.Ytpfnamiacagocaa
open Go.RowKit
set_option linter.unusedSimpArgs false
set_option linter.unusedVariables false

/-- the path of bell k + 1, if the method is good; how many there are -/
def pathsF (s : ByteArray) (n : Int) (L : List (List Nat)) (k : Nat) : List Int := (pathF n.toNat (chR n L) (rdf n.toNat) (k + 1)).map fun (x : Nat) => (x : Int)
def pathsC (s : ByteArray) (n : Int) (L : List (List Nat)) : Nat := if goodM s n L = true then n.toNat else 0

set_option maxRecDepth 100000 in
set_option maxHeartbeats 1000000 in
theorem iPathsOf_any (s : ByteArray) (hs : s.size ≤ maxLen) (n : Int) (v : Value) (L : List (List Nat)) (w : World) (h : Txts w v L) (hl : L.length ≤ 2000000) :
    Calls Try.prog 15 #[.agg #[.string s, .int .i64 n, v]] w (ListsR (pathsC s n L) (pathsF s n L) (goodM s n L) w) := by
  obtain ⟨a, cap, rfl, hcap, -⟩ := id h
  have HT := Lib.hid h
  have HR0 := Lib.hid (RowAt.new w 26 #[.string s, .int .i64 n, .slice a L.length cap])
  have HB0 := Lib.hid ((Below.refl _ w).alloc (Nat.le_refl _) (.cells #[.string s, .int .i64 n, .slice a L.length cap] 26))
  by_cases hg : goodM s n L = true
  · obtain ⟨n, rfl⟩ := Int.eq_ofNat_of_zero_le (show 0 ≤ n by have := goodAll_range (goodM_parts hg).1; omega)
    obtain ⟨h3, h8, hrows, h40, -⟩ := goodM_nat hg
    have hC : pathsC s n L = n := by unfold pathsC; rw [if_pos hg]; exact Int.toNat_natCast n
    have hrd := isRow_rdf h3 h8
    have hF : pathsF s n L = fun k => (pathF n (chR n L) (rdf n) (k + 1)).map fun (x : Nat) => (x : Int) := by
      funext k
      unfold pathsF
      rw [Int.toNat_natCast]
    rw [hC, hF, hg]
    have HC := Lib.hid (fun w h => leadOf_yes s hs n (.slice a L.length cap) L w h hl hg)
    have HG : Hid (∀ (k : Nat) u w, k < n → NewD 0 w u (chR n L) → Calls Try.prog 61 #[.agg (leadV u (rdf n)), .int .i64 ((k : Int) + 1)] w (NumsOut (pathF n (chR n L) (rdf n) (k + 1)) w)) := Lib.hid (fun k u w hk h => by
      have := path_any n u (chR n L) (rdf n) hrd hrows h40 (k + 1) (by omega) (by omega) w h
      rw [show ((k + 1 : Nat) : Int) = (k : Int) + 1 from rfl] at this
      exact this)
    unfold NumsOut at HG
    obtain ⟨pf, hpf⟩ : ∃ pf : Nat → List Nat, (fun k => pathF n (chR n L) (rdf n) (k + 1)) = pf := ⟨_, rfl⟩
    have hpk : ∀ k, pathF n (chR n L) (rdf n) (k + 1) = pf k := fun k => by rw [← hpf]
    simp only [hpk] at HG ⊢
    obtain ⟨F, hFF⟩ : ∃ F : Nat → List Int, (fun k => (pf k).map fun (x : Nat) => (x : Int)) = F := ⟨_, rfl⟩
    rw [hFF]
    have HFF : Hid (∀ k, nums (pf k) = ints (F k)) := Lib.hid (fun k => by rw [← hFF]; rfl)
    obtain ⟨i0, hi0, hz0, hz1, hz2⟩ := info_parts infoInts
    have I0 := Lib.hid (⟨hi0, hz0, hz1, hz2⟩ : _ ∧ _ ∧ _ ∧ _)
    generalize chR n L = cs at *
    generalize rdf n = f at *
    generalize L.length = m at *
    have hn8 : (n : Int) ≤ 8 := by omega
    clear hl hg h hcap hC hF hpf hpk hFF hrows h40 hrd hi0 hz0 hz1 hz2
    go_enter Try.func15, Try.ntmps15
    go_wp2_with (first | (refine wpList_load_row rfl 26 _ rfl _ rfl 26 _ _ _ (HR0.out) Try.underlying26 rfl (by kernel_rfl) ?_) | fail)
    refine (HC.out _ (HT.out.kept HB0.out)).mono ?_
    rintro e w1 ⟨u1, rfl, hn1, hb1⟩
    have HB1 := Lib.hid (HB0.out.trans (hb1.mono HB0.out.size))
    have HR1 := Lib.hid (HR0.out.kept hb1)
    have HN1 := Lib.hid hn1
    obtain ⟨a1, k1, rfl, -, -⟩ := hn1.view rfl
    clear hb1 hn1
    obtain ⟨l1, hl1⟩ : ∃ l1, cs.length = l1 := ⟨_, rfl⟩
    have HL2 := Lib.hid (RowAt.new w1 70 (leadV (.slice a1 cs.length k1) f))
    have HB2 := Lib.hid (HB1.out.alloc HB1.out.size (.cells (leadV (.slice a1 cs.length k1) f) 70))
    have HN2 := Lib.hid ((HN1.out.kept ((Below.refl _ _).alloc (Nat.le_refl _) (.cells (leadV (.slice a1 cs.length k1) f) 70))).lower (Nat.zero_le _))
    have HR2 := Lib.hid (HR1.out.kept ((Below.refl _ _).alloc (Nat.le_refl _) (.cells (leadV (.slice a1 cs.length k1) f) 70)))
    obtain ⟨W2, hW2⟩ : ∃ W2, w1.alloc (.cells (leadV (.slice a1 cs.length k1) f) 70) = W2 := ⟨_, rfl⟩
    rw [hl1] at HL2 HB2 HN2 HR2 hW2 ⊢
    have c1 := HR2.out.cell 1 rfl
    clear HB0 HB1 HN1 HR0 HR1 HC
    simp only [leadV] at HL2 HB2 HN2 HR2 HG hW2 c1 ⊢
    rw [hW2] at HL2 HB2 HN2 HR2 c1
    go_wp2_with (first | (refine wpList_store_row rfl 70 _ _ rfl _ _ rfl rfl 70 _ (heap_at _ _ _ (by simp)) (by kernel_rfl) rfl (by kernel_rfl) ?_; rw [setRow_at _ _ _ _ _ (by simp)]) | (at_make; refine wpList_make_full _ rfl _ _ 28 rfl w.heap.size 39 i0 (.slice none 0 0) 1 Try.underlying28 I0.out.1 I0.out.2.1 I0.out.2.2.1 .i64 .i64 _ _ n rfl rfl rfl rfl (by rw [I0.out.2.2.2]; omega) (by unfold maxLen; omega) HB2.out.size ?_) | fail)
    clear c1
    intro w3 hown hgrow
    have HB3 := Lib.hid ((Below.refl W2.heap.size W2).grown hgrow (Nat.le_refl _) (fun k hk => by cases hk))
    have HO : Hid (Lists w.heap.size w3 (.slice (some ⟨W2.heap.size, 0, none⟩) n n) (List.replicate n nilV) n (fun i => if i < 0 then F i else [])) := Lib.hid (by
      have := hown
      rw [toList_madeCells_one] at this
      exact Lists.none_yet (New.of_owns this (by simp)) F)
    clear hown hgrow
    have c1 := (HR2.out.kept HB3.out).cell 1 rfl
    go_wp2
    clear c1
    go_loopg [20] n (fun q x wr => ∃ (j : Nat) (vs : List Value), q + j = n ∧ x = .int .i64 j ∧ Lists w.heap.size wr (.slice (some ⟨W2.heap.size, 0, none⟩) n n) vs n (fun i => if i < j then F i else []) ∧ Below W2.heap.size W2 wr)
    case atStart => exact ⟨0, _, by omega, rfl, HO.out, HB3.out⟩
    case round =>
      clear HO HB3
      obtain ⟨j, vs, hq, rfl, ho, hb⟩ := hrel
      have HO := Lib.hid ho
      have HB := Lib.hid hb
      have hws := hb.size
      have hww := HB2.out.size
      clear ho hb
      by_cases hlt : j < n
      · have hji : (j : Int) < n := by omega
        have HLr := Lib.hid (HL2.out.kept HB.out)
        have HNr := Lib.hid (HN2.out.kept HB.out)
        have HGj := Lib.hid (fun u w h => HG.out j u w hlt h)
        go_wp2_with (first | (refine wpList_load_row rfl 70 _ rfl _ rfl 70 _ _ _ (HLr.out) Try.underlying70 rfl (by kernel_rfl) ?_) | fail)
        refine (HGj.out _ _ HNr.out).mono ?_
        rintro e w4 ⟨v4, rfl, hn4, hb4⟩
        rw [HFF.out j] at hn4
        have HK4 := Lib.hid (HO.out.kept hb4)
        have HB4 := Lib.hid (HB.out.trans (hb4.mono hws))
        have HLT : Hid (∀ i g, i < n → (vs.getD i nilV).ownBlock = some g → g < wr.heap.size) := Lib.hid (fun i g hi hg => (HO.out.inner i hi).lt g hg)
        obtain ⟨a4, k4, hv4, -⟩ := hn4.own.viewI rfl
        subst hv4
        have HN4 := Lib.hid hn4
        clear hn4 hb4 HLr HNr HGj
        obtain ⟨old, hold⟩ : ∃ u, vs[j]? = some u := ⟨_, HK4.out.at j hlt⟩
        have c5 := HK4.out.outer.cell j old hold
        have f5 := HK4.out.outer.free j
        have HO6 : Hid (Lists w.heap.size (w4.setCell ⟨W2.heap.size, j, none⟩ (.slice a4 (F j).length k4)) (.slice (some ⟨W2.heap.size, 0, none⟩) n n) (vs.set j (.slice a4 (F j).length k4)) n (fun i => if i < j + 1 then F i else [])) := Lib.hid (by
          refine (HK4.out.put hlt HN4.out (Nat.le_trans hww hws) HLT.out).congr fun i hi => ?_
          by_cases e : i = j
          · rw [if_pos e, if_pos (by omega), e]
          · rw [if_neg e]
            by_cases h1 : i < j
            · rw [if_pos h1, if_pos (by omega)]
            · rw [if_neg h1, if_neg (by omega)])
        have HB6 : Hid (Below W2.heap.size W2 (w4.setCell ⟨W2.heap.size, j, none⟩ (.slice a4 (F j).length k4))) := Lib.hid (HB4.out.setCell (p := ⟨W2.heap.size, j, none⟩) (Nat.le_refl _) _)
        clear hold HN4 HK4 HLT
        generalize (F j).length = l4 at *
        go_wp2
        go_roundg (n - (j + 1))
        case measure => omega
        case rel => exact ⟨j + 1, _, by omega, by go_num, HO6.out, HB6.out⟩
      · obtain rfl : j = n := by omega
        have HF : Hid (Lists w.heap.size wr (.slice (some ⟨W2.heap.size, 0, none⟩) j j) vs j F) := Lib.hid (HO.out.congr fun i hi => by rw [if_pos hi])
        clear HO
        go_wp2
        go_ret2
        exact ⟨_, _, rfl, HF.out, HB2.out.trans (HB.out.mono hww)⟩
  · have hg : goodM s n L = false := by simpa using hg
    have hC : pathsC s n L = 0 := by unfold pathsC; rw [hg]; rfl
    rw [hC, hg]
    have HC := Lib.hid (fun w h => leadOf_no s hs n (.slice a L.length cap) L w h hl hg)
    clear hl hg h hcap hC
    generalize L.length = m at *
    go_enter Try.func15, Try.ntmps15
    go_wp2_with (first | (refine wpList_load_row rfl 26 _ rfl _ rfl 26 _ _ _ (HR0.out) Try.underlying26 rfl (by kernel_rfl) ?_) | fail)
    refine (HC.out _ (HT.out.kept HB0.out)).mono ?_
    rintro e w1 ⟨rfl, hb1⟩
    have HB1 := Lib.hid (HB0.out.trans (hb1.mono HB0.out.size))
    clear hb1
    simp only [zero9]
    go_wp2_with (first | (refine wpList_store_row rfl 70 _ _ rfl _ _ rfl rfl 70 _ (heap_at _ _ _ (by simp)) (by kernel_rfl) rfl (by kernel_rfl) ?_; rw [setRow_at _ _ _ _ _ (by simp)]) | fail)
    go_ret2
    exact ⟨_, _, rfl, Lists.nil _ _ _, HB1.out.alloc HB1.out.size _⟩
end Go.Proofs.Ytpfnamiacagocaa
