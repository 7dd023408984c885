/- Texts drawn. -/
import Derived.Test.YtdflpkkcjbdpfaaDoorW6
import Derived.Test.YtdflpkkcjbdpfaaDoorW7
import Derived.Test.YtdflpkkcjbdpfaaDoorT7
namespace Go.Proofs.YtdflpkkcjbdpfaaDoor
open Go.RowKit
set_option linter.unusedSimpArgs false
set_option linter.unusedVariables false

set_option maxRecDepth 100000 in
set_option maxHeartbeats 1000000 in
theorem of_any (K : Nat) (b : Nat) (a : Option Addr) (len cap m n lb lcap : Nat) (L : Nat → ByteArray) (hm : m ≤ 900000) (hn : 1 ≤ n) (hn2 : n ≤ 65536) (w : World) (hc : Cur w b a len cap m) (hne : lb ≠ b)
    (hL : ∀ i, i < n → (L i).size ≤ K ∧ w.cell? ⟨lb, i, none⟩ = some (.string (L i))) :
    Calls Tryd.prog 37 #[.pointer (some ⟨b, 0, none⟩), .slice (some ⟨lb, 0, none⟩) n lcap] w (SomeText K b a len cap (m + 2) w) := by
  have HC := Lib.hid hc
  have HL := Lib.hid hL
  clear hc hL
  go_enter Tryd.func37, Tryd.ntmps37
  go_wp2_with fail
  refine (pick_any b a len cap m n hm hn hn2 _ HC.out).mono ?_
  rintro e w1 ⟨x, hx, rfl, hc1, ho1⟩
  have HC1 := Lib.hid hc1
  have HO1 := Lib.hid ho1
  have c1 : w1.cell? ⟨lb, x, none⟩ = some (.string (L x)) := by
    have hlt := block_lt_of_cell (HL.out x hx).2
    rw [World.cell?_of_block (w := w) (ho1.block lb hlt hne)]
    exact (HL.out x hx).2
  have hxi : (x : Int) < n := by omega
  have HS := Lib.hid (HL.out x hx).1
  generalize L x = t at c1 HS
  clear hc1 ho1
  go_wp2
  go_ret
  exact ⟨t, HS.out, rfl, HC1.out, HO1.out⟩
theorem small_ofK {K : Nat} {l : List ByteArray} (h : ∀ s ∈ l, s.size ≤ K) (i : Nat) : (l.getD i ⟨#[]⟩).size ≤ K := by
  rw [List.getD_eq_getElem?_getD]
  by_cases hi : i < l.length
  · rw [List.getElem?_eq_getElem hi]; exact h _ (List.getElem_mem hi)
  · rw [List.getElem?_eq_none (by omega)]; exact Nat.zero_le _
theorem ofList_any (K : Nat) (b : Nat) (a : Option Addr) (len cap m : Nat) (l : List ByteArray) (hl : ∀ s ∈ l, s.size ≤ K) (hm : m ≤ 900000) (hn : 1 ≤ l.length) (hn2 : l.length ≤ 100) (w : World) (hc : Cur w b a len cap m) (T : TypeId) :
    Calls Tryd.prog 37 #[.pointer (some ⟨b, 0, none⟩), .slice (some ⟨w.heap.size, 0, none⟩) l.length l.length] (w.alloc (.cells (l.map Value.string).toArray T)) fun e w' => ∃ s : ByteArray, s.size ≤ K ∧ e = .returned (.string s) ∧ Cur w' b a len cap (m + 2) ∧ Only b w w' := by
  have hlt := hc.lt
  refine (of_any K b a len cap m l.length w.heap.size l.length (fun i => l.getD i ⟨#[]⟩) hm hn (by omega) _ (hc.below ((Below.refl _ _).alloc (Nat.le_refl _) _)) (by omega) (fun i hi => ⟨small_ofK hl i, text_cells w l T i hi⟩)).mono ?_
  rintro e w' ⟨s, h1, h2, h3, h4⟩
  exact ⟨s, h1, h2, h3, (Only.of_below (b := b) ((Below.refl w.heap.size w).alloc (Nat.le_refl _) _)).trans h4⟩

def tidys : List ByteArray := [⟨#[45]⟩, ⟨#[120]⟩, ⟨#[49]⟩, ⟨#[52]⟩, ⟨#[49, 52]⟩, ⟨#[51]⟩, ⟨#[51, 54]⟩, ⟨#[50]⟩, ⟨#[]⟩, ⟨#[51, 52]⟩, ⟨#[49, 50]⟩, ⟨#[48]⟩, ⟨#[53]⟩]
theorem tidys_small : ∀ s ∈ tidys, s.size ≤ 10 := by
  intro s hs
  simp [tidys] at hs
  rcases hs with rfl | rfl | rfl | rfl | rfl | rfl | rfl | rfl | rfl | rfl | rfl | rfl | rfl <;> decide
def notes : List ByteArray := [⟨#[]⟩, ⟨#[45]⟩, ⟨#[120, 49, 52, 120, 49, 52, 44, 49, 50]⟩, ⟨#[45, 46, 49, 52, 46, 45, 44, 50]⟩, ⟨#[49, 52, 46]⟩, ⟨#[46, 49, 52]⟩, ⟨#[49, 52, 44, 44, 49, 50]⟩, ⟨#[49, 44, 50, 44, 51, 44, 52, 44, 53]⟩, ⟨#[45, 49, 52, 45, 49, 52, 45, 49, 52, 45, 49, 52, 45, 49, 52, 45, 49, 52, 45, 49, 52, 45, 49, 52, 45, 49, 52, 45, 49, 52, 45, 49, 52, 45, 49, 52, 45, 49, 52, 45, 49, 52, 45, 49, 52, 45, 49, 52, 45, 49, 52, 45, 49, 52, 45, 49, 52, 45, 49, 52, 45, 49, 52]⟩, ⟨#[49, 46, 52]⟩]
theorem notes_small : ∀ s ∈ notes, s.size ≤ 600 := by
  intro s hs
  simp [notes] at hs
  rcases hs with rfl | rfl | rfl | rfl | rfl | rfl | rfl | rfl | rfl | rfl <;> decide

/-- a stage and a text of no more than K bytes are drawn -/
def DrawnText (K : Nat) (w : World) (e : Ending) (w' : World) : Prop :=
  ∃ (n : Int) (s : ByteArray), e = .returned (.tuple #[.int .i64 n, .string s]) ∧ -100 ≤ n ∧ n ≤ 100 ∧ s.size ≤ K ∧ Below w.heap.size w w'

set_option maxRecDepth 100000 in
set_option maxHeartbeats 1000000 in
theorem DrawTidyChange_any (a : Option Addr) (len cap : Nat) (zs : List Int) (w : World) (hz : IsBytes w a len cap zs) (hl : len ≤ 1048576) :
    Calls Tryd.prog 13 #[.slice a len cap] w (DrawnText 10 w) := by
  have HCODE := Lib.hid (codeAt_of hz)
  clear hz
  go_enter Tryd.func13, Tryd.ntmps13
  go_wp2_with fail
  refine (stage_draw w.heap.size a len cap 0 (by omega) _ (cur_new a len cap w HCODE.out hl)).mono ?_
  rintro e w1 ⟨n, ⟨h3, h8⟩, rfl, hc1, ho1⟩
  have HC1 := Lib.hid hc1
  have HO1 := Lib.hid ho1
  clear hc1 ho1
  go_wp2_with fail
  refine (pick_any w.heap.size a len cap _ 20 (by omega) (by omega) (by omega) _ HC1.out).mono ?_
  rintro e w2 ⟨x, hx, rfl, hc2, ho2⟩
  have HC2 := Lib.hid hc2
  have HO2 := Lib.hid (HO1.out.trans ho2)
  clear hc2 ho2
  have hxi : (x : Int) < 20 := by omega
  have hq0 : 0 ≤ (x : Int) / 19 := by omega
  have hq1 : (x : Int) / 19 ≤ 1 := by omega
  go_wp2_with fail
  refine (ofList_draw w.heap.size a len cap _ tidys tidys_small (by omega) (by decide) (by decide) _ HC2.out 9).mono ?_
  rintro e w5 ⟨u, hu, rfl, hc5, ho5⟩
  have HO5 := Lib.hid (HO2.out.trans ho5)
  clear hc5 ho5
  go_wp2
  go_ret2
  exact ⟨_, u, rfl, by omega, by omega, hu, cur_below HO5.out⟩

theorem short_size (n : Int) (L : List (List Nat)) : (txt (shortT n L)).size ≤ 570 := by
  rw [txt_size]
  unfold shortT
  split
  · rename_i hg
    have h1 := goodAll_text hg
    unfold shortG
    split
    · omega
    · rename_i a b hh
      obtain ⟨-, -, h2, h3⟩ := short_sizes hg hh
      split
      · unfold shortH; simp; omega
      · omega
  · simp

set_option maxRecDepth 100000 in
set_option maxHeartbeats 4000000 in
theorem DrawReadNotation_any (a : Option Addr) (len cap : Nat) (zs : List Int) (w : World) (hz : IsBytes w a len cap zs) (hl : len ≤ 1048576) :
    Calls Tryd.prog 26 #[.slice a len cap] w (DrawnText 602 w) := by
  have HC0 := Lib.hid (cur_new a len cap w (codeAt_of hz) hl)
  have hlt0 := HC0.out.lt
  clear hz
  go_enter Tryd.func26, Tryd.ntmps26
  go_wp2_with fail
  refine (stage_draw w.heap.size a len cap 0 (by omega) _ HC0.out).mono ?_
  rintro e w1 ⟨n, ⟨h3, h8⟩, rfl, hc1, ho1⟩
  obtain ⟨n, rfl⟩ := Int.eq_ofNat_of_zero_le (show 0 ≤ n by omega)
  have HD1 := Lib.hid ((Dr.start HC0.out).call hc1 ho1)
  clear hc1 ho1
  go_wp2_with fail
  refine (changes_draw w.heap.size a len cap _ n (by omega) (by omega) (by omega) _ HD1.out.cur).mono ?_
  rintro e w2 ⟨v, L, rfl, hn, hL, hs, hd⟩
  have HD2 := Lib.hid (HD1.out.call hd.cur hd.only)
  have HN2 := Lib.hid hn.own.txts
  have HS := Lib.hid (show ∀ l ∈ L, l.length ≤ maxLen from fun l hl => Nat.le_trans (hs l hl) (by unfold maxLen; omega))
  clear hn hd hs HD1
  go_wp2_with fail
  refine (sShortNotation_any n v L w2 HN2.out (by omega) HS.out).mono ?_
  rintro e w3 ⟨rfl, hb3⟩
  have HD3 := Lib.hid (HD2.out.below HC0.out (hb3.mono HD2.out.only.size))
  clear hb3 HD2 HN2
  have hsz := short_size n L
  generalize txt (shortT n L) = s at *
  go_wp2_with fail
  refine (one_any w.heap.size a len cap _ 24 (by omega) (by omega) (by omega) _ HD3.out.cur).mono ?_
  rintro e w4 ⟨t, rfl, hc4, ho4⟩
  have HD4 := Lib.hid (HD3.out.call hc4 ho4)
  clear hc4 ho4 HD3
  cases t
  · go_wp2_with fail
    refine (pick_any w.heap.size a len cap _ 6 (by omega) (by omega) (by omega) _ HD4.out.cur).mono ?_
    rintro e w5 ⟨x, hx, rfl, hc5, ho5⟩
    have HD5 := Lib.hid (HD4.out.call hc5 ho5)
    clear hc5 ho5 HD4
    have hx3 : x = 0 ∨ x = 1 ∨ 2 ≤ x := by omega
    rcases hx3 with rfl | rfl | h2
    · go_wp2_with fail
      refine (spoilt_any w.heap.size a len cap _ 600 s (by omega) (by omega) (by omega) _ HD5.out.cur).mono ?_
      rintro e w6 ⟨u, hu, rfl, hc6, ho6⟩
      have HD6 := Lib.hid (HD5.out.call hc6 ho6)
      clear hc6 ho6 HD5
      go_wp2
      go_ret2
      exact ⟨n, u, rfl, by omega, by omega, hu, cur_below HD6.out.only⟩
    · go_wp2_with fail
      refine (ofList_any 600 w.heap.size a len cap _ notes notes_small (by omega) (by decide) (by decide) _ HD5.out.cur 9).mono ?_
      rintro e w6 ⟨u, hu, rfl, hc6, ho6⟩
      have HD6 := Lib.hid (HD5.out.call hc6 ho6)
      clear hc6 ho6 HD5
      go_wp2
      go_ret2
      exact ⟨n, u, rfl, by omega, by omega, by omega, cur_below HD6.out.only⟩
    · have q0 : ((x : Int) == 0) = false := by rw [beq_eq_false_iff_ne]; omega
      have q1 : ((x : Int) == 1) = false := by rw [beq_eq_false_iff_ne]; omega
      go_wp2
      go_ret2
      exact ⟨n, s, rfl, by omega, by omega, by omega, cur_below HD5.out.only⟩
  · go_wp2_with fail
    go_loopg [7] 66 (fun q sv wr => ∃ u : ByteArray, sv = .string u ∧ u.size + 3 * q = 200 ∧ wr = w4)
    case atStart => exact ⟨⟨#[49, 52]⟩, rfl, by decide, rfl⟩
    case round =>
      obtain ⟨u, rfl, hu, rfl⟩ := hrel
      by_cases hg : 0 < gk
      · obtain ⟨g', hg'⟩ : ∃ g', gk = g' + 1 := ⟨gk - 1, by omega⟩
        subst hg'
        have hui : (u.size : Int) < 198 := by omega
        go_wp2
        go_roundg g'
        case measure => omega
        case rel => exact ⟨_, rfl, by rw [ByteArray.size_append]; show u.size + 3 + 3 * g' = 200; omega, rfl⟩
      · obtain rfl : gk = 0 := by omega
        have hui : ¬ ((u.size : Int) < 198) := by omega
        go_wp2_with fail
        refine (one_any w.heap.size a len cap _ 2 (by omega) (by omega) (by omega) _ HD4.out.cur).mono ?_
        rintro e w5 ⟨t2, rfl, hc5, ho5⟩
        have HD5 := Lib.hid (HD4.out.call hc5 ho5)
        clear hc5 ho5 HD4
        cases t2
        · go_wp2
          go_ret2
          exact ⟨n, u, rfl, by omega, by omega, by omega, cur_below HD5.out.only⟩
        · go_wp2
          go_ret2
          exact ⟨n, _, rfl, by omega, by omega, by rw [ByteArray.size_append]; show u.size + 1 ≤ 602; omega, cur_below HD5.out.only⟩

set_option maxRecDepth 100000 in
set_option maxHeartbeats 1000000 in
theorem DrawCountChanges_any (a : Option Addr) (len cap : Nat) (zs : List Int) (w : World) (hz : IsBytes w a len cap zs) (hl : len ≤ 1048576) :
    Calls Tryd.prog 17 #[.slice a len cap] w (DrawnText 602 w) := by
  have HZ := Lib.hid hz
  clear hz
  go_enter Tryd.func17, Tryd.ntmps17
  go_wp2_with fail
  refine (DrawReadNotation_any a len cap zs w HZ.out hl).mono ?_
  rintro e w1 ⟨n, s, rfl, h1, h2, hs, hb⟩
  have HB := Lib.hid hb
  clear hb
  go_wp2
  go_ret2
  exact ⟨n, s, rfl, h1, h2, hs, HB.out⟩

set_option maxRecDepth 100000 in
set_option maxHeartbeats 1000000 in
theorem DrawMirrorAll_any (a : Option Addr) (len cap : Nat) (zs : List Int) (w : World) (hz : IsBytes w a len cap zs) (hl : len ≤ 1048576) :
    Calls Tryd.prog 11 #[.slice a len cap] w fun e w' => ∃ (v : Value) (L : List (List Nat)), e = .returned v ∧ New w.heap.size w' 9 v (strs L) ∧ L.length ≤ 41 ∧ (∀ l ∈ L, l.length ≤ 10) ∧ Below w.heap.size w w' := by
  have HZ := Lib.hid hz
  clear hz
  obtain ⟨i0, hi0, hz0, hz1, hz2⟩ := info_parts infoText
  have I0 := Lib.hid (⟨hi0, hz0, hz1, hz2⟩ : _ ∧ _ ∧ _ ∧ _)
  clear hi0 hz0 hz1 hz2
  go_enter Tryd.func11, Tryd.ntmps11
  go_wp2_with fail
  refine (DrawNotationText_any a len cap zs w HZ.out hl).mono ?_
  rintro e w1 ⟨n, v, L, rfl, h3, h9, hn, hL, hs, hb⟩
  have HB := Lib.hid hb
  have HN := Lib.hid hn
  have HS := Lib.hid hs
  have HCODE := Lib.hid (codeAt_of (HZ.out.belowW hb))
  clear hb hn hs
  go_wp2_with fail
  refine (one_any w1.heap.size a len cap 0 12 (by omega) (by omega) (by omega) _ (cur_new a len cap w1 HCODE.out hl)).mono ?_
  rintro e w2 ⟨t, rfl, hc2, ho2⟩
  have HC2 := Lib.hid hc2
  have HO2 := Lib.hid ho2
  clear hc2 ho2
  cases t
  · have HB2 := Lib.hid (cur_below HO2.out)
    go_wp2
    go_ret
    exact ⟨v, L, rfl, HN.out.kept HB2.out, hL, HS.out, HB.out.trans (HB2.out.mono HB.out.size)⟩
  · go_wp2_with fail
    refine (pick_any w1.heap.size a len cap _ 22 (by omega) (by omega) (by omega) _ HC2.out).mono ?_
    rintro e w3 ⟨x, hx, rfl, hc3, ho3⟩
    have HB3 := Lib.hid (HB.out.trans ((cur_below (HO2.out.trans ho3)).mono HB.out.size))
    clear hc3 ho3 HC2 HO2
    have hxi : (x : Int) < 22 := by omega
    have hib : i0.bytes * (20 + x) ≤ 281474976710656 := by rw [I0.out.2.2.2]; omega
    go_wp2_with (refine wpList_make_full _ rfl (.tmp 18) (.tmp 18) 24 rfl w.heap.size 9 i0 (.string ⟨#[]⟩) 1 Tryd.underlying24 I0.out.1 I0.out.2.1 I0.out.2.2.1 .i64 .i64 (20 + (x : Int)) (20 + (x : Int)) (20 + x) rfl rfl (by omega) (by omega) hib (by unfold maxLen; omega) HB3.out.size ?_)
    intro w4 how hgr
    have e4 : (madeCells #[Value.string ⟨#[]⟩] (20 + x)).toList = strs (List.replicate (20 + x) []) := by
      apply List.ext_getElem
      · simp [madeCells, strs]
      · intro i h1 h2
        simp [madeCells, strs, Nat.mod_one]
        rfl
    rw [e4] at how
    have HN4 := Lib.hid (New.of_row how (by simp [strs]))
    have HB4 := Lib.hid (HB3.out.grown hgr HB3.out.size (by simp))
    clear how hgr e4
    go_wp2
    go_ret
    exact ⟨_, List.replicate (20 + x) [], rfl, HN4.out, by simp; omega, by simp, HB4.out⟩
end Go.Proofs.YtdflpkkcjbdpfaaDoor
