/- The law on products. -/
import Derived.Test.YtkjdldidgijloaaA25
namespace Go.Proofs.Ytkjdldidgijloaa
open Go.RowKit
set_option linter.unusedSimpArgs false

theorem IsBytes.below {w w' : World} {a : Option Addr} {len cap : Nat} {zs : List Int} (h : IsBytes w a len cap zs) (hb : Below w.heap.size w w') : IsBytes w' a len cap zs := by
  rcases h with h | ⟨x, h1, h2, h3, h4, h5, h6⟩
  · exact .inl h
  · refine .inr ⟨x, h1, h2, h3, h4, fun i hi => ?_, h6⟩
    have := h5 i hi
    rw [hb.cell (block_lt_of_cell this)]; exact this
theorem IsBytes.len {w : World} {a : Option Addr} {len cap : Nat} {zs : List Int} (h : IsBytes w a len cap zs) : len ≤ maxLen := by
  rcases h with ⟨_, h, _⟩ | ⟨x, h1, h2, h3, h4, h5, h6⟩
  · omega
  · omega
theorem mx10 {s : ByteArray} (h : s.size ≤ 10) : s.size ≤ maxLen := by unfold maxLen; omega

/-! ### what the functions give, as functions -/
noncomputable def tmS (s t : ByteArray) : ByteArray := if twoB s t = true then strOf s.size (mulF (dg s) (dg t)) else ⟨#[]⟩
theorem iTimes_any (s t : ByteArray) (hs : s.size ≤ maxLen) (ht : t.size ≤ maxLen) (w : World) :
    Calls Try.prog 18 #[.string s, .string t] w fun e w' => e = .returned (.tuple #[.string (tmS s t), .bool (twoB s t)]) ∧ Below w.heap.size w w' := by
  unfold tmS
  cases h : twoB s t
  · exact iTimes_no s t hs ht h w
  · exact iTimes_yes s t hs ht h w
theorem sTimes_any (s t : ByteArray) (hs : s.size ≤ maxLen) (ht : t.size ≤ maxLen) (w : World) :
    Calls Try.prog 19 #[.string s, .string t] w fun e w' => e = .returned (.tuple #[.string (tmS s t), .bool (twoB s t)]) ∧ Below w.heap.size w w' := by
  unfold tmS
  cases h : twoB s t
  · exact sTimes_no s t hs ht h w
  · exact sTimes_yes s t hs ht h w
noncomputable def tnS (s : ByteArray) : ByteArray := if goodB s = true then strOf s.size (invF s.size (dg s)) else ⟨#[]⟩
theorem iTurnRow_fn (s : ByteArray) (hs : s.size ≤ maxLen) (w : World) :
    Calls Try.prog 25 #[.string s] w fun e w' => e = .returned (.tuple #[.string (tnS s), .bool (goodB s)]) ∧ Below w.heap.size w w' := by
  unfold tnS
  cases h : goodB s
  · exact iTurnRow_any s hs false h w
  · exact iTurnRow_any s hs true h w
theorem sTurnRow_fn (s : ByteArray) (hs : s.size ≤ maxLen) (w : World) :
    Calls Try.prog 27 #[.string s] w fun e w' => e = .returned (.tuple #[.string (tnS s), .bool (goodB s)]) ∧ Below w.heap.size w w' := by
  unfold tnS
  cases h : goodB s
  · exact sTurnRow_any s hs false h w
  · exact sTurnRow_any s hs true h w
open Classical in
noncomputable def rnB (n : Int) : Bool := decide (3 ≤ n ∧ n ≤ 8)
noncomputable def rnS (n : Int) : ByteArray := if rnB n = true then rnds n.toNat else ⟨#[]⟩
theorem iRoundsOf_fn (n : Int) (w : World) :
    Calls Try.prog 23 #[.int .i64 n] w fun e w' => e = .returned (.tuple #[.string (rnS n), .bool (rnB n)]) ∧ Below w.heap.size w w' := by
  unfold rnS
  cases h : rnB n
  · exact (iRoundsOf_no n (by simpa [rnB] using h) w).mono fun e w' ⟨h1, h2⟩ => ⟨h1, h2 ▸ Below.refl _ _⟩
  · have h' : 3 ≤ n ∧ n ≤ 8 := by simpa [rnB] using h
    obtain ⟨m, rfl⟩ := Int.eq_ofNat_of_zero_le (show 0 ≤ n by omega)
    exact iRoundsOf_yes m (by omega) (by omega) w
theorem sRoundsOf_fn (n : Int) (w : World) :
    Calls Try.prog 29 #[.int .i64 n] w fun e w' => e = .returned (.tuple #[.string (rnS n), .bool (rnB n)]) ∧ Below w.heap.size w w' := by
  unfold rnS
  cases h : rnB n
  · exact (sRoundsOf_no n (by simpa [rnB] using h) w).mono fun e w' ⟨h1, h2⟩ => ⟨h1, h2 ▸ Below.refl _ _⟩
  · have h' : 3 ≤ n ∧ n ≤ 8 := by simpa [rnB] using h
    obtain ⟨m, rfl⟩ := Int.eq_ofNat_of_zero_le (show 0 ≤ n by omega)
    exact (sRoundsOf_yes m (by omega) (by omega) w).mono fun e w' ⟨h1, h2⟩ => ⟨h1, h2 ▸ Below.refl _ _⟩

/-! ### the same at rows -/
theorem twoB_row {n : Nat} {f g : Nat → Nat} (hf : IsRow n f) (hg : IsRow n g) : twoB (strOf n f) (strOf n g) = true := by
  simp [twoB, goodB_strOf hf, goodB_strOf hg, strOf_size]
theorem iTimes_row {n : Nat} {f g : Nat → Nat} (hf : IsRow n f) (hg : IsRow n g) (w : World) :
    Calls Try.prog 18 #[.string (strOf n f), .string (strOf n g)] w fun e w' => e = .returned (.tuple #[.string (strOf n (mulR n f g)), .bool true]) ∧ Below w.heap.size w w' := by
  have := iTimes_yes (strOf n f) (strOf n g) (mx_row f hf.eight) (mx_row g hf.eight) (twoB_row hf hg) w
  rw [strOf_size, dg_strOf hf, dg_strOf hg, strOf_mul] at this
  exact this
theorem iTurnRow_row {n : Nat} {f : Nat → Nat} (hf : IsRow n f) (w : World) :
    Calls Try.prog 25 #[.string (strOf n f)] w fun e w' => e = .returned (.tuple #[.string (strOf n (invF n f)), .bool true]) ∧ Below w.heap.size w w' := by
  have := iTurnRow_any (strOf n f) (mx_row f hf.eight) true (goodB_strOf hf) w
  rw [strOf_size, dg_strOf hf] at this
  exact this
theorem iRoundsOf_row {n : Nat} (h3 : 3 ≤ n) (h8 : n ≤ 8) (w : World) :
    Calls Try.prog 23 #[.int .i64 n] w fun e w' => e = .returned (.tuple #[.string (strOf n (rdf n)), .bool true]) ∧ Below w.heap.size w w' := by
  rw [strOf_rdf]; exact iRoundsOf_yes n h3 h8 w
theorem two_rows {s t : ByteArray} (h : twoB s t = true) : ∃ n f g, IsRow n f ∧ IsRow n g ∧ s = strOf n f ∧ t = strOf n g ∧ tmS s t = strOf n (mulR n f g) := by
  obtain ⟨h1, h2, h3⟩ := twoB_yes h
  refine ⟨s.size, dg s, dg t, h1, by rw [h3]; exact h2, strOf_of_isStr (isStr_dg s), by rw [h3]; exact strOf_of_isStr (isStr_dg t), ?_⟩
  simp only [tmS, h, if_true]
  exact strOf_mul _ _

set_option maxRecDepth 100000 in
set_option maxHeartbeats 1000000 in
theorem lawProducts (a1 : Option Addr) (l1 c1 : Nat) (z1 : List Int) (a2 : Option Addr) (l2 c2 : Nat) (z2 : List Int) (w : World) (hz1 : IsBytes w a1 l1 c1 z1) (hz2 : IsBytes w a2 l2 c2 z2) :
    Calls Try.prog 3 #[.slice a1 l1 c1, .slice a2 l2 c2] w fun e w' => e = .returned (.bool true) ∧ Below w.heap.size w w' := by
  have HZ1 := Lib.hid hz1
  have HZ2 := Lib.hid hz2
  clear hz1 hz2
  go_enter Try.func3, Try.ntmps3
  go_wp2_with fail
  refine (big_any a1 a2 l1 l2 c1 c2 HZ1.out.len HZ2.out.len _).mono ?_
  rintro e w0 ⟨rfl, rfl⟩
  by_cases hbig : 1048576 < l1 + l2
  · rw [decide_eq_true hbig]
    go_wp2
    go_ret
    exact ⟨rfl, Below.refl _ _⟩
  · rw [decide_eq_false hbig]
    have HL1 := Lib.hid (show l1 ≤ 1048576 by omega)
    have HL2 := Lib.hid (show l2 ≤ 1048576 by omega)
    clear hbig
    go_wp2_with fail
    refine (DrawTimes_any a1 l1 c1 z1 _ HZ1.out HL1.out).mono ?_
    rintro e w1 ⟨s, t, hs, ht, rfl, hb1⟩
    have HB1 := Lib.hid hb1
    clear hb1
    cases hT : twoB s t
    · have HT := Lib.hid hT
      clear hT
      go_wp2_with fail
      refine (iTimes_any s t (mx10 hs) (mx10 ht) _).mono ?_
      rintro e w2 ⟨rfl, hbx⟩
      rw [HT.out]
      have HB2 := Lib.hid (HB1.out.trans (hbx.mono HB1.out.size))
      clear hbx HB1
      go_wp2_with fail
      refine (sTimes_any s t (mx10 hs) (mx10 ht) _).mono ?_
      rintro e w3 ⟨rfl, hbx⟩
      rw [HT.out]
      have HB3 := Lib.hid (HB2.out.trans (hbx.mono HB2.out.size))
      clear hbx HB2
      go_wp2_with fail
      refine (iGoodRow_any s (mx10 hs) _).mono ?_
      rintro e w4 ⟨rfl, hbx⟩
      have HB4 := Lib.hid (HB3.out.trans (hbx.mono HB3.out.size))
      clear hbx HB3
      go_wp2_with fail
      refine (sGoodRow_any s (mx10 hs) _).mono ?_
      rintro e w5 ⟨rfl, hbx⟩
      have HB5 := Lib.hid (HB4.out.trans (hbx.mono HB4.out.size))
      clear hbx HB4
      go_wp2_with fail
      refine (DrawTurnRow_any a2 l2 c2 z2 _ (HZ2.out.below HB5.out) HL2.out).mono ?_
      rintro e w6 ⟨d, hd, rfl, hbx⟩
      have HB6 := Lib.hid (HB5.out.trans (hbx.mono HB5.out.size))
      clear hbx HB5
      go_wp2_with fail
      refine (iTurnRow_fn d (mx10 hd) _).mono ?_
      rintro e w7 ⟨rfl, hbx⟩
      have HB7 := Lib.hid (HB6.out.trans (hbx.mono HB6.out.size))
      clear hbx HB6
      go_wp2_with fail
      refine (sTurnRow_fn d (mx10 hd) _).mono ?_
      rintro e w8 ⟨rfl, hbx⟩
      have HB8 := Lib.hid (HB7.out.trans (hbx.mono HB7.out.size))
      clear hbx HB7
      go_wp2_with fail
      refine (DrawRoundsOf_any a2 l2 c2 z2 _ (HZ2.out.below HB8.out) HL2.out).mono ?_
      rintro e w9 ⟨mm, rfl, hbx⟩
      have HB9 := Lib.hid (HB8.out.trans (hbx.mono HB8.out.size))
      clear hbx HB8
      go_wp2_with fail
      refine (iRoundsOf_fn mm _).mono ?_
      rintro e w10 ⟨rfl, hbx⟩
      have HB10 := Lib.hid (HB9.out.trans (hbx.mono HB9.out.size))
      clear hbx HB9
      go_wp2_with fail
      refine (sRoundsOf_fn mm _).mono ?_
      rintro e w11 ⟨rfl, hbx⟩
      have HB11 := Lib.hid (HB10.out.trans (hbx.mono HB10.out.size))
      clear hbx HB10
      go_wp2
      go_ret
      exact ⟨rfl, HB11.out⟩
    · obtain ⟨n, f, g, hf, hg, rfl, rfl, htm⟩ := two_rows hT
      have HT := Lib.hid hT
      have HTM := Lib.hid htm
      have HF := Lib.hid hf
      have HG := Lib.hid hg
      have HFG := Lib.hid (isRow_mul hf hg)
      have hsz := strOf_size n f
      clear hT htm hf hg
      go_wp2_with fail
      refine (iTimes_any _ _ (mx10 hs) (mx10 ht) _).mono ?_
      rintro e w2 ⟨rfl, hbx⟩
      rw [HT.out, HTM.out]
      have HB2 := Lib.hid (HB1.out.trans (hbx.mono HB1.out.size))
      clear hbx HB1
      go_wp2_with fail
      refine (sTimes_any _ _ (mx10 hs) (mx10 ht) _).mono ?_
      rintro e w3 ⟨rfl, hbx⟩
      rw [HT.out, HTM.out]
      have HB3 := Lib.hid (HB2.out.trans (hbx.mono HB2.out.size))
      clear hbx HB2
      go_wp2_with fail
      refine (iGoodRow_any _ (mx10 hs) _).mono ?_
      rintro e w4 ⟨rfl, hbx⟩
      have HB4 := Lib.hid (HB3.out.trans (hbx.mono HB3.out.size))
      clear hbx HB3
      go_wp2_with fail
      refine (sGoodRow_any _ (mx10 hs) _).mono ?_
      rintro e w5 ⟨rfl, hbx⟩
      have HB5 := Lib.hid (HB4.out.trans (hbx.mono HB4.out.size))
      clear hbx HB4
      go_wp2_with fail
      refine (numberOf_any a2 l2 c2 _ (codeAt_of (HZ2.out.below HB5.out)) HL2.out).mono ?_
      rintro e w' ⟨q, hq, rfl, rfl⟩
      have hq5 : (q : Int) % 5 < 5 := by omega
      have hq0 : 0 ≤ (q : Int) % 5 := by omega
      go_wp2_with fail
      refine (iRoundsOf_row HF.out.three HF.out.eight _).mono ?_
      rintro e w6 ⟨rfl, hbx⟩
      have HB6 := Lib.hid (HB5.out.trans (hbx.mono HB5.out.size))
      clear hbx HB5
      go_wp2_with fail
      refine (iPowerOf_yes n g HG.out ((q : Int) % 5) (by omega) (by omega) _).mono ?_
      rintro e w7 ⟨rfl, hbx⟩
      have HH := Lib.hid (isRow_powZ HG.out ((q : Int) % 5))
      generalize powZ n g ((q : Int) % 5) = h at HH ⊢
      have HB7 := Lib.hid (HB6.out.trans (hbx.mono HB6.out.size))
      clear hbx HB6
      go_wp2_with fail
      refine (iTimes_row HFG.out HH.out _).mono ?_
      rintro e w8 ⟨rfl, hbx⟩
      rw [mulR_assoc HF.out HG.out HH.out]
      have HB8 := Lib.hid (HB7.out.trans (hbx.mono HB7.out.size))
      clear hbx HB7
      go_wp2_with fail
      refine (iTimes_row HG.out HH.out _).mono ?_
      rintro e w9 ⟨rfl, hbx⟩
      have HB9 := Lib.hid (HB8.out.trans (hbx.mono HB8.out.size))
      clear hbx HB8
      go_wp2_with fail
      refine (iTimes_row HF.out (isRow_mul HG.out HH.out) _).mono ?_
      rintro e w10 ⟨rfl, hbx⟩
      have HB10 := Lib.hid (HB9.out.trans (hbx.mono HB9.out.size))
      clear hbx HB9
      go_wp2_with fail
      refine (iTurnRow_row HF.out _).mono ?_
      rintro e w11 ⟨rfl, hbx⟩
      have HB11 := Lib.hid (HB10.out.trans (hbx.mono HB10.out.size))
      clear hbx HB10
      go_wp2_with fail
      refine (iTimes_row HF.out (isRow_inv HF.out) _).mono ?_
      rintro e w12 ⟨rfl, hbx⟩
      rw [mul_inv HF.out]
      have HB12 := Lib.hid (HB11.out.trans (hbx.mono HB11.out.size))
      clear hbx HB11
      go_wp2_with fail
      refine (iTimes_row HF.out (isRow_rdf HF.out.three HF.out.eight) _).mono ?_
      rintro e w13 ⟨rfl, hbx⟩
      rw [mul_rounds HF.out]
      have HB13 := Lib.hid (HB12.out.trans (hbx.mono HB12.out.size))
      clear hbx HB12
      go_wp2_with fail
      refine (DrawTurnRow_any a2 l2 c2 z2 _ (HZ2.out.below HB13.out) HL2.out).mono ?_
      rintro e w14 ⟨d, hd, rfl, hbx⟩
      have HB14 := Lib.hid (HB13.out.trans (hbx.mono HB13.out.size))
      clear hbx HB13
      go_wp2_with fail
      refine (iTurnRow_fn d (mx10 hd) _).mono ?_
      rintro e w15 ⟨rfl, hbx⟩
      have HB15 := Lib.hid (HB14.out.trans (hbx.mono HB14.out.size))
      clear hbx HB14
      go_wp2_with fail
      refine (sTurnRow_fn d (mx10 hd) _).mono ?_
      rintro e w16 ⟨rfl, hbx⟩
      have HB16 := Lib.hid (HB15.out.trans (hbx.mono HB15.out.size))
      clear hbx HB15
      go_wp2_with fail
      refine (DrawRoundsOf_any a2 l2 c2 z2 _ (HZ2.out.below HB16.out) HL2.out).mono ?_
      rintro e w17 ⟨mm, rfl, hbx⟩
      have HB17 := Lib.hid (HB16.out.trans (hbx.mono HB16.out.size))
      clear hbx HB16
      go_wp2_with fail
      refine (iRoundsOf_fn mm _).mono ?_
      rintro e w18 ⟨rfl, hbx⟩
      have HB18 := Lib.hid (HB17.out.trans (hbx.mono HB17.out.size))
      clear hbx HB17
      go_wp2_with fail
      refine (sRoundsOf_fn mm _).mono ?_
      rintro e w19 ⟨rfl, hbx⟩
      have HB19 := Lib.hid (HB18.out.trans (hbx.mono HB18.out.size))
      clear hbx HB18
      go_wp2
      go_ret
      exact ⟨rfl, HB19.out⟩
end Go.Proofs.Ytkjdldidgijloaa
